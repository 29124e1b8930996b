/-
  What impl.marksOf and the methods take and many of impl.marks answer: contracts over the seat's program.
-/
import Derived.Test.YtihpadabgfhegaaGreatDoorZSpSet23
namespace Go.Proofs.YtihpadabgfhegaaGreatDoor
open Go.RowKit Go.Maps Go.WideMaps Go.Proofs

theorem count_le {l : List Tx} (t : Tx) : l.count t ≤ l.length := List.count_le_length
theorem take_snocT {l : List ByteArray} {k : Nat} (h : k < l.length) : (txt l[k] :: (l.take k).map txt).Perm ((l.take (k + 1)).map txt) := by
  rw [List.take_succ_eq_append_getElem h, List.map_append]
  exact (List.perm_append_singleton (txt l[k]) ((l.take k).map txt)).symm
set_option maxRecDepth 100000 in
set_option maxHeartbeats 1000000 in
theorem marksOf_row (g o c : Nat) (l : List ByteArray) (w : World) (hE : StrsAt w g o l) (hF : ∀ i, (h : i < l.length) → l[i].size ≤ maxLen) (hn : l.length ≤ 1048576) :
    Calls Tryz.prog 95 #[.slice (some ⟨g, o, none⟩) l.length c] w fun e w' => e = .returned (.map (some w.heap.size)) ∧ MapAt w' w.heap.size l.length (l.map txt) ∧ Below w.heap.size w w' := by
  have hmm := @run_makeMap Tryz.prog
  have HE := hid hE
  clear hE
  go_enter Tryz.func95, Tryz.ntmps95
  go_wp2
  go_loopw [9] (fun i wr => ∃ k : Nat, k ≤ l.length ∧ i = .int .i64 k ∧ MapAt wr w.heap.size k ((l.take k).map txt) ∧ Below w.heap.size w wr) (fun i _ => l.length - (intOf i).toNat)
  case atStart => exact ⟨0, Nat.zero_le _, rfl, ⟨_, World.ownsMap_made _ _ _ _, mapOf_nil⟩, (Below.refl _ _).alloc (Nat.le_refl _) _⟩
  case round =>
    obtain ⟨k, hk, rfl, ⟨D, hown, hD⟩, hbel⟩ := hrel
    by_cases hlt : k < l.length
    · have c0 := (HE.out.stay hbel (Nat.le_refl _)).2 k hlt
      have hkey := keyOf_string_mk Tryz.underlying9 (hF k hlt)
      have HD := hid hD
      have HP := hid (take_snocT hlt)
      have HC := hid (show ((l.take k).map txt).length ≤ k by simp; omega)
      clear hD
      generalize l[k] = s at *
      have HN := hid (fun (cc : Int) hat => mapOf_at (c := cc) (t := txt s) HD.out hat)
      have HL := hid (count_le (l := (l.take k).map txt) (txt s))
      go_wp2_with (first
        | (at_lookup; refine wpList_lookup_own_int _ rfl _ _ 134 rfl 9 2 .i64 Tryz.strKeyed Tryz.underlying134 Tryz.underlying2 (Tryz.zeroI64 _) w.heap.size k D rfl hown _ _ rfl hkey ?_; intro cc hat hwc; have hcc := HN.out cc hat; have h0 : 0 ≤ cc := (by omega); have h1 : cc ≤ 1048576 := (by have := HL.out; have := HC.out; omega); have HH := hid hcc; clear hcc hat hwc)
        | (at_mapUpdate; refine wpList_mapUpdate_own _ rfl _ _ _ 134 rfl 9 2 Tryz.strKeyed Tryz.underlying134 _ w.heap.size k _ rfl hown (by unfold maxLen; omega) _ _ _ rfl rfl hkey _ [] (plainElem_int Tryz.underlying2 (WalkArith.wf_i64 (by omega))) ?_)
        | fail)
      intro w1 hown1 hgrow1
      have R1 : Hid (MapAt w1 w.heap.size (k + 1) ((l.take (k + 1)).map txt)) := by
        show MapAt _ _ _ _
        rw [show cc + 1 = ((((l.take k).map txt).count (txt s) + 1 : Nat) : Int) by rw [HH.out]; omega] at hown1
        exact MapAt.perm ⟨_, hown1, mapOf_put HD.out (txt s) _ (by omega) (fun u => count_cons_if u)⟩ HP.out
      have R2 := hid (hbel.grown hgrow1 hbel.size (fun j hj => by cases hj; exact Nat.le_refl _))
      clear hown1 hgrow1 hown c0 h0 h1 HH
      go_wp2
      go_roundw
      case rel => exact ⟨k + 1, by omega, by go_num, R1.out, R2.out⟩
      case measure => simp [intOf]; omega
    · have hk' : k = l.length := by omega
      have HR := hid (show MapAt wr w.heap.size l.length (l.map txt) by
        subst hk'
        exact ⟨D, hown, by rw [List.take_of_length_le (Nat.le_refl _)] at hD; exact hD⟩)
      clear hk' hown hD
      go_wp2
      go_ret
      exact ⟨rfl, HR.out, hbel⟩
set_option maxRecDepth 100000 in
theorem marksOf_none (a : Option Addr) (c : Nat) (w : World) :
    Calls Tryz.prog 95 #[.slice a 0 c] w fun e w' => e = .returned (.map (some w.heap.size)) ∧ MapAt w' w.heap.size 0 [] ∧ Below w.heap.size w w' := by
  have hmm := @run_makeMap Tryz.prog
  go_enter Tryz.func95, Tryz.ntmps95
  go_wp2
  go_loop [9] (fun i => i = .int .i64 0) (fun _ => 0)
  case atStart => exact rfl
  case round =>
    subst hrel
    go_wp2
    go_ret
    exact ⟨rfl, ⟨_, World.ownsMap_made _ _ _ _, mapOf_nil⟩, (Below.refl _ _).alloc (Nat.le_refl _) _⟩
theorem marksOf_any (v : Value) (l : List ByteArray) (w : World) (h : StrSl w v l) (hF : ∀ i, (h : i < l.length) → l[i].size ≤ maxLen) (hn : l.length ≤ 1048576) :
    Calls Tryz.prog 95 #[v] w fun e w' => e = .returned (.map (some w.heap.size)) ∧ MapAt w' w.heap.size l.length (l.map txt) ∧ Below w.heap.size w w' := by
  rcases h with ⟨a, c, rfl, rfl⟩ | ⟨g, o, c, rfl, _, h⟩
  · exact marksOf_none a c w
  · exact marksOf_row g o c l w h hF hn
/-- 'm[k]++' and the like, from block b alone. -/
theorem grown_turn {w w' : World} {b : Nat} (h : w.mapTurned w' b) : w.grownBy w' (some b) := h.grown
set_option maxRecDepth 100000 in
set_option maxHeartbeats 1000000 in
theorem take_no (b n : Nat) (l : List Tx) (s : ByteArray) (w : World) (h : MapAt w b n l) (hs : s.size ≤ maxLen) (hc : l.count (txt s) = 0) :
    Calls Tryz.prog 126 #[.map (some b), .string s] w fun e w' => e = .returned (.bool false) ∧ w' = w := by
  obtain ⟨D, hown, hD⟩ := h
  have hkey := keyOf_string_mk Tryz.underlying9 hs
  have HN := hid (fun (cc : Int) hat => mapOf_at (c := cc) (t := txt s) hD hat)
  have HC := hid hc
  clear hD hc
  go_enter Tryz.func126, Tryz.ntmps126
  go_wp2_with (first
    | (at_lookup; refine wpList_lookup_own_int _ rfl _ _ 134 rfl 9 2 .i64 Tryz.strKeyed Tryz.underlying134 Tryz.underlying2 (Tryz.zeroI64 _) b n D rfl hown _ _ rfl hkey ?_; intro cc hat hwc; have hcc := HN.out cc hat; rw [HC.out] at hcc; subst hcc; clear hat hwc)
    | fail)
  go_ret
  exact ⟨rfl, rfl⟩
set_option maxRecDepth 100000 in
set_option maxHeartbeats 1000000 in
theorem take_yes (b n : Nat) (l : List Tx) (s : ByteArray) (w : World) (h : MapAt w b n l) (hs : s.size ≤ maxLen) (hc : 0 < l.count (txt s)) (hl : l.length ≤ 1048576) (hn : n ≤ 1048576) :
    Calls Tryz.prog 126 #[.map (some b), .string s] w fun e w' => e = .returned (.bool true) ∧ MapAt w' b (n + 1) (l.erase (txt s)) ∧ w.grownBy w' (some b) := by
  obtain ⟨D, hown, hD⟩ := h
  have hkey := keyOf_string_mk Tryz.underlying9 hs
  have HN := hid (fun (cc : Int) hat => mapOf_at (c := cc) (t := txt s) hD hat)
  have HD := hid hD
  have HL := hid (Nat.le_trans (count_le (l := l) (txt s)) hl)
  clear hD
  by_cases h1 : l.count (txt s) = 1
  · have HC := hid h1
    clear h1 hc
    go_enter Tryz.func126, Tryz.ntmps126
    go_wp2_with (first
      | (at_lookup; refine wpList_lookup_own_int _ rfl _ _ 134 rfl 9 2 .i64 Tryz.strKeyed Tryz.underlying134 Tryz.underlying2 (Tryz.zeroI64 _) b n D rfl hown _ _ rfl hkey ?_; intro cc hat hwc; have hcc := HN.out cc hat; rw [HC.out] at hcc; subst hcc; clear hat hwc)
      | (at_delete; refine wpList_delete_own _ rfl _ _ 134 9 rfl 2 Tryz.strKeyed Tryz.underlying134 _ b n D rfl hown _ _ rfl hkey ?_)
      | fail)
    intro w1 hown1 hturn1
    have R1 := hid (show MapAt w1 b (n + 1) (l.erase (txt s)) from ⟨_, hown1.mono (Nat.le_succ _), mapOf_del HD.out (txt s) (fun u => by rw [count_erase_if, HC.out])⟩)
    have R2 := hid hturn1.grown
    clear hown1 hturn1 hown
    go_wp2
    go_ret
    exact ⟨rfl, R1.out, R2.out⟩
  · have H2 := hid (show 2 ≤ l.count (txt s) by omega)
    clear h1 hc
    go_enter Tryz.func126, Tryz.ntmps126
    go_wp2_with (first
      | (at_lookup; refine wpList_lookup_own_int _ rfl _ _ 134 rfl 9 2 .i64 Tryz.strKeyed Tryz.underlying134 Tryz.underlying2 (Tryz.zeroI64 _) b n D rfl hown _ _ rfl hkey ?_; intro cc hat hwc; have hcc := HN.out cc hat; have h0 : (cc == 0) = false := (by have := H2.out; simp; omega); have h1 : (cc == 1) = false := (by have := H2.out; simp; omega); have h2 : 2 ≤ cc := (by have := H2.out; omega); have h3 : cc ≤ 1048576 := (by have := HL.out; omega); have HH := hid hcc; clear hcc hat hwc)
      | (at_mapUpdate; refine wpList_mapUpdate_own _ rfl _ _ _ 134 rfl 9 2 Tryz.strKeyed Tryz.underlying134 _ b n _ rfl hown (by unfold maxLen; omega) _ _ _ rfl rfl hkey _ [] (plainElem_int Tryz.underlying2 (WalkArith.wf_i64 (by omega))) ?_)
      | fail)
    intro w1 hown1 hgrow1
    have R1 : Hid (MapAt w1 b (n + 1) (l.erase (txt s))) := by
      show MapAt _ _ _ _
      rw [show cc - 1 = ((l.count (txt s) - 1 : Nat) : Int) by rw [HH.out]; have := H2.out; omega] at hown1
      exact ⟨_, hown1, mapOf_put HD.out (txt s) _ (by have := H2.out; omega) (fun u => count_erase_if u)⟩
    have R2 := hid hgrow1
    clear hown1 hgrow1 hown
    go_wp2
    go_ret
    exact ⟨rfl, R1.out, R2.out⟩
theorem same_str (t x : Tx) : (Lit.string t).sameKey (.string x) = decide (t = x) := by
  by_cases e : t = x
  · subst e; simp [Lit.sameKey]
  · rw [sameKey_ne (fun h => e (by injection h))]; simp [e]
theorem many_start {D : DataW Unit} {l : List Tx} (h : MapOf D l) : (l.filter (fun t => !Maps.has D (.string t))).length = 0 := by
  rw [List.length_eq_zero_iff, List.filter_eq_nil_iff]
  intro t ht
  rw [(h.2 t).2]
  have : 0 < l.count t := List.count_pos_iff.2 ht
  simp [this]
theorem many_step (left : Lit → Bool) (x : Tx) (hx : left (.string x) = true) : ∀ l : List Tx, (l.filter (fun t => !(left (.string t) && !(Lit.string t).sameKey (.string x)))).length = (l.filter (fun t => !left (.string t))).length + l.count x
  | [] => rfl
  | t :: l => by
    have ih := many_step left x hx l
    by_cases e : t = x
    · subst e
      rw [List.filter_cons_of_pos (by rw [same_str]; simp), List.filter_cons_of_neg (by rw [hx]; simp), List.length_cons, ih, List.count_cons_self]; omega
    · rw [List.count_cons_of_ne (by simpa using e)]
      by_cases hl : left (.string t) = true
      · rw [List.filter_cons_of_neg (by rw [same_str, hl]; simp [e]), List.filter_cons_of_neg (by rw [hl]; simp)]; exact ih
      · rw [List.filter_cons_of_pos (by simp [hl]), List.filter_cons_of_pos (by simp [hl]), List.length_cons, List.length_cons, ih]; omega
theorem many_end {left : Lit → Bool} (h : ∀ kl, left kl = false) (l : List Tx) : (l.filter (fun t => !left (.string t))).length = l.length := by
  rw [List.filter_eq_self.2 (fun t _ => by rw [h]; rfl)]
set_option maxRecDepth 100000 in
set_option maxHeartbeats 1000000 in
theorem many_any (b n : Nat) (l : List Tx) (w : World) (h : MapAt w b n l) (hl : l.length ≤ 1048576) :
    Calls Tryz.prog 127 #[.map (some b)] w fun e w' => e = .returned (.int .i64 l.length) ∧ Below w.heap.size w w' := by
  obtain ⟨D, hown, hD⟩ := h
  have HD := hid hD
  clear hD
  go_enter Tryz.func127, Tryz.ntmps127
  go_wp2_with (first
    | (at_range; refine wpList_range_own _ rfl _ 134 rfl 9 2 Tryz.strKeyed Tryz.underlying134 _ b n D rfl hown ?_; intro w0 hrg0 hg0 hs0)
    | fail)
  go_frame
  go_loopw [3] (fun out wr => ∃ (left : Lit → Bool) (cnt : Nat), wr.ranges Tryz.prog 9 (plainElem (H := Unit) Tryz.prog 2) b w.heap.size n D left cnt ∧ out = .int .i64 ((l.filter (fun t => !left (.string t))).length : Nat) ∧ Below w.heap.size w wr) (fun _ wr => wr.rangeLeft b w.heap.size)
  case atStart => exact ⟨_, _, hrg0, by rw [many_start HD.out]; rfl, (Below.refl _ _).grown hg0 (Nat.le_refl _) (fun j hj => by cases hj)⟩
  case round =>
    obtain ⟨left, cnt, hrg, rfl, hbel⟩ := hrel
    have hfl : (l.filter (fun t => !left (.string t))).length ≤ l.length := List.length_filter_le _ _
    have HE := hid (fun h => many_end (left := left) h l)
    have HS := hid (fun x hx => many_step left x hx l)
    generalize (l.filter (fun t => !left (.string t))).length = N at *
    go_wp2_with (first
      | (at_next; refine wpList_next_ranges (α := Tx) (β := Int) _ rfl _ rfl 9 Tryz.strKeyed (plainElem Tryz.prog 2) encStr (Value.int .i64) (fun key kl hkey => by obtain ⟨x, rfl, _⟩ := Maps.keyOf_str Tryz.underlying9 hkey; exact ⟨x, rfl⟩) (fun v y hv => by obtain ⟨c, rfl, _⟩ := plainElem_int_inv Tryz.underlying2 hv; exact ⟨c, rfl⟩) b w.heap.size n _ _ _ rfl hrg ?_ ?_)
      | fail)
    · intro _ hl0
      have HL := hid (HE.out hl0)
      go_wp2
      go_ret
      exact ⟨ret_int (by rw [HL.out]), hbel⟩
    · intro x c kl y1 y2 w1 cnt1 hkey hlk hv hat hrg1 hlt hg1 hs1 hen
      obtain ⟨x', ex, rfl, _⟩ := Maps.keyOf_str Tryz.underlying9 hkey
      obtain rfl := encStr_inj ex
      obtain ⟨c', ec, ey, _⟩ := plainElem_int_inv Tryz.underlying2 hv
      cases ec
      injection ey with ey1 _
      subst ey1
      have hc := mapOf_at HD.out (hat _)
      have hcl := count_le (l := l) x
      have HC := hid hc
      have HX := hid (HS.out x hlk)
      have hc0 : 0 ≤ c := by omega
      have hc1 : c ≤ 1048576 := by omega
      have hbel1 := hid (hbel.grown hg1 hbel.size (fun j hj => by cases hj; exact Nat.le_refl _))
      clear hkey hv hat hc ex hg1
      go_wp2
      go_roundw
      case rel => exact ⟨_, cnt1, hrg1, by rw [HX.out, HC.out]; congr 1, hbel1.out⟩
      case measure => rw [hrg1.left_eq, hrg.left_eq]; exact hlt
end Go.Proofs.YtihpadabgfhegaaGreatDoor
