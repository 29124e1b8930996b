/-
  Texts put together: ImMap, IsErr, ErrC, At, Bel.
-/
import Derived.Test.YtdggmeblnbabbaaGreatDoorZSpOut4
import Derived.Test.YtdggmeblnbabbaaGreatDoorZGen3
import Derived.LaidEql
import Derived.Stop.Asserts
import Derived.RowKitTokens
import Derived.Test.YtdggmeblnbabbaaGreatDoorZDfMath5
/-
  What impl.marksOf and the methods take and many of impl.marks answer: contracts over the seat's program.
-/
namespace Go.Proofs.YtdggmeblnbabbaaGreatDoor
open Go.RowKit Go.Maps Go.WideMaps Go.Proofs

theorem count_le {l : List Tx} (t : Tx) : l.count t ≤ l.length := List.count_le_length
theorem take_snocT {l : List ByteArray} {k : Nat} (h : k < l.length) : (txt l[k] :: (l.take k).map txt).Perm ((l.take (k + 1)).map txt) := by
  rw [List.take_succ_eq_append_getElem h, List.map_append]
  exact (List.perm_append_singleton (txt l[k]) ((l.take k).map txt)).symm
set_option maxRecDepth 100000 in
set_option maxHeartbeats 1000000 in
theorem marksOf_row (g o c : Nat) (l : List ByteArray) (w : World) (hE : StrsAt w g o l) (hF : ∀ i, (h : i < l.length) → l[i].size ≤ maxLen) (hn : l.length ≤ 1048576) :
    Calls Tryz.prog 53 #[.slice (some ⟨g, o, none⟩) l.length c] w fun e w' => e = .returned (.map (some w.heap.size)) ∧ MapAt w' w.heap.size l.length (l.map txt) ∧ Below w.heap.size w w' := by
  have hmm := @run_makeMap Tryz.prog
  have HE := hid hE
  clear hE
  go_enter Tryz.func53, Tryz.ntmps53
  go_wp2
  go_loopw [9] (fun i wr => ∃ k : Nat, k ≤ l.length ∧ i = .int .i64 k ∧ MapAt wr w.heap.size k ((l.take k).map txt) ∧ Below w.heap.size w wr) (fun i _ => l.length - (intOf i).toNat)
  case atStart => exact ⟨0, Nat.zero_le _, rfl, ⟨_, World.ownsMap_made _ _ _ _, mapOf_nil⟩, (Below.refl _ _).alloc (Nat.le_refl _) _⟩
  case round =>
    obtain ⟨k, hk, rfl, ⟨D, hown, hD⟩, hbel⟩ := hrel
    by_cases hlt : k < l.length
    · have c0 := (HE.out.stay hbel (Nat.le_refl _)).2 k hlt
      have hkey := keyOf_string_mk Tryz.underlying9 (hF k hlt)
      have HD := hid hD
      have HP := hid (take_snocT hlt)
      have HC := hid (show ((l.take k).map txt).length ≤ k by simp; omega)
      clear hD
      generalize l[k] = s at *
      have HN := hid (fun (cc : Int) hat => mapOf_at (c := cc) (t := txt s) HD.out hat)
      have HL := hid (count_le (l := (l.take k).map txt) (txt s))
      go_wp2_with (first
        | (at_lookup; refine wpList_lookup_own_int _ rfl _ _ 89 rfl 9 2 .i64 Tryz.strKeyed Tryz.underlying89 Tryz.underlying2 (Tryz.zeroI64 _) w.heap.size k D rfl hown _ _ rfl hkey ?_; intro cc hat hwc; have hcc := HN.out cc hat; have h0 : 0 ≤ cc := (by omega); have h1 : cc ≤ 1048576 := (by have := HL.out; have := HC.out; omega); have HH := hid hcc; clear hcc hat hwc)
        | (at_mapUpdate; refine wpList_mapUpdate_own _ rfl _ _ _ 89 rfl 9 2 Tryz.strKeyed Tryz.underlying89 _ w.heap.size k _ rfl hown (by unfold maxLen; omega) _ _ _ rfl rfl hkey _ [] (plainElem_int Tryz.underlying2 (WalkArith.wf_i64 (by omega))) ?_)
        | fail)
      intro w1 hown1 hgrow1
      have R1 : Hid (MapAt w1 w.heap.size (k + 1) ((l.take (k + 1)).map txt)) := by
        show MapAt _ _ _ _
        rw [show cc + 1 = ((((l.take k).map txt).count (txt s) + 1 : Nat) : Int) by rw [HH.out]; omega] at hown1
        exact MapAt.perm ⟨_, hown1, mapOf_put HD.out (txt s) _ (by omega) (fun u => count_cons_if u)⟩ HP.out
      have R2 := hid (hbel.grown hgrow1 hbel.size (fun j hj => by cases hj; exact Nat.le_refl _))
      clear hown1 hgrow1 hown c0 h0 h1 HH
      go_wp2
      go_roundw
      case rel => exact ⟨k + 1, by omega, by go_num, R1.out, R2.out⟩
      case measure => simp [intOf]; omega
    · have hk' : k = l.length := by omega
      have HR := hid (show MapAt wr w.heap.size l.length (l.map txt) by
        subst hk'
        exact ⟨D, hown, by rw [List.take_of_length_le (Nat.le_refl _)] at hD; exact hD⟩)
      clear hk' hown hD
      go_wp2
      go_ret
      exact ⟨rfl, HR.out, hbel⟩
set_option maxRecDepth 100000 in
theorem marksOf_none (a : Option Addr) (c : Nat) (w : World) :
    Calls Tryz.prog 53 #[.slice a 0 c] w fun e w' => e = .returned (.map (some w.heap.size)) ∧ MapAt w' w.heap.size 0 [] ∧ Below w.heap.size w w' := by
  have hmm := @run_makeMap Tryz.prog
  go_enter Tryz.func53, Tryz.ntmps53
  go_wp2
  go_loop [9] (fun i => i = .int .i64 0) (fun _ => 0)
  case atStart => exact rfl
  case round =>
    subst hrel
    go_wp2
    go_ret
    exact ⟨rfl, ⟨_, World.ownsMap_made _ _ _ _, mapOf_nil⟩, (Below.refl _ _).alloc (Nat.le_refl _) _⟩
theorem marksOf_any (v : Value) (l : List ByteArray) (w : World) (h : StrSl w v l) (hF : ∀ i, (h : i < l.length) → l[i].size ≤ maxLen) (hn : l.length ≤ 1048576) :
    Calls Tryz.prog 53 #[v] w fun e w' => e = .returned (.map (some w.heap.size)) ∧ MapAt w' w.heap.size l.length (l.map txt) ∧ Below w.heap.size w w' := by
  rcases h with ⟨a, c, rfl, rfl⟩ | ⟨g, o, c, rfl, _, h⟩
  · exact marksOf_none a c w
  · exact marksOf_row g o c l w h hF hn
set_option maxRecDepth 100000 in
set_option maxHeartbeats 1000000 in
theorem take_no (b n : Nat) (l : List Tx) (s : ByteArray) (w : World) (h : MapAt w b n l) (hs : s.size ≤ maxLen) (hc : l.count (txt s) = 0) :
    Calls Tryz.prog 84 #[.map (some b), .string s] w fun e w' => e = .returned (.bool false) ∧ w' = w := by
  obtain ⟨D, hown, hD⟩ := h
  have hkey := keyOf_string_mk Tryz.underlying9 hs
  have HN := hid (fun (cc : Int) hat => mapOf_at (c := cc) (t := txt s) hD hat)
  have HC := hid hc
  clear hD hc
  go_enter Tryz.func84, Tryz.ntmps84
  go_wp2_with (first
    | (at_lookup; refine wpList_lookup_own_int _ rfl _ _ 89 rfl 9 2 .i64 Tryz.strKeyed Tryz.underlying89 Tryz.underlying2 (Tryz.zeroI64 _) b n D rfl hown _ _ rfl hkey ?_; intro cc hat hwc; have hcc := HN.out cc hat; rw [HC.out] at hcc; subst hcc; clear hat hwc)
    | fail)
  go_ret
  exact ⟨rfl, rfl⟩
set_option maxRecDepth 100000 in
set_option maxHeartbeats 1000000 in
theorem take_yes (b n : Nat) (l : List Tx) (s : ByteArray) (w : World) (h : MapAt w b n l) (hs : s.size ≤ maxLen) (hc : 0 < l.count (txt s)) (hl : l.length ≤ 1048576) (hn : n ≤ 1048576) :
    Calls Tryz.prog 84 #[.map (some b), .string s] w fun e w' => e = .returned (.bool true) ∧ MapAt w' b (n + 1) (l.erase (txt s)) ∧ w.grownBy w' (some b) := by
  obtain ⟨D, hown, hD⟩ := h
  have hkey := keyOf_string_mk Tryz.underlying9 hs
  have HN := hid (fun (cc : Int) hat => mapOf_at (c := cc) (t := txt s) hD hat)
  have HD := hid hD
  have HL := hid (Nat.le_trans (count_le (l := l) (txt s)) hl)
  clear hD
  by_cases h1 : l.count (txt s) = 1
  · have HC := hid h1
    clear h1 hc
    go_enter Tryz.func84, Tryz.ntmps84
    go_wp2_with (first
      | (at_lookup; refine wpList_lookup_own_int _ rfl _ _ 89 rfl 9 2 .i64 Tryz.strKeyed Tryz.underlying89 Tryz.underlying2 (Tryz.zeroI64 _) b n D rfl hown _ _ rfl hkey ?_; intro cc hat hwc; have hcc := HN.out cc hat; rw [HC.out] at hcc; subst hcc; clear hat hwc)
      | (at_delete; refine wpList_delete_own _ rfl _ _ 89 9 rfl 2 Tryz.strKeyed Tryz.underlying89 _ b n D rfl hown _ _ rfl hkey ?_)
      | fail)
    intro w1 hown1 hturn1
    have R1 := hid (show MapAt w1 b (n + 1) (l.erase (txt s)) from ⟨_, hown1.mono (Nat.le_succ _), mapOf_del HD.out (txt s) (fun u => by rw [count_erase_if, HC.out])⟩)
    have R2 := hid hturn1.grown
    clear hown1 hturn1 hown
    go_wp2
    go_ret
    exact ⟨rfl, R1.out, R2.out⟩
  · have H2 := hid (show 2 ≤ l.count (txt s) by omega)
    clear h1 hc
    go_enter Tryz.func84, Tryz.ntmps84
    go_wp2_with (first
      | (at_lookup; refine wpList_lookup_own_int _ rfl _ _ 89 rfl 9 2 .i64 Tryz.strKeyed Tryz.underlying89 Tryz.underlying2 (Tryz.zeroI64 _) b n D rfl hown _ _ rfl hkey ?_; intro cc hat hwc; have hcc := HN.out cc hat; have h0 : (cc == 0) = false := (by have := H2.out; simp; omega); have h1 : (cc == 1) = false := (by have := H2.out; simp; omega); have h2 : 2 ≤ cc := (by have := H2.out; omega); have h3 : cc ≤ 1048576 := (by have := HL.out; omega); have HH := hid hcc; clear hcc hat hwc)
      | (at_mapUpdate; refine wpList_mapUpdate_own _ rfl _ _ _ 89 rfl 9 2 Tryz.strKeyed Tryz.underlying89 _ b n _ rfl hown (by unfold maxLen; omega) _ _ _ rfl rfl hkey _ [] (plainElem_int Tryz.underlying2 (WalkArith.wf_i64 (by omega))) ?_)
      | fail)
    intro w1 hown1 hgrow1
    have R1 : Hid (MapAt w1 b (n + 1) (l.erase (txt s))) := by
      show MapAt _ _ _ _
      rw [show cc - 1 = ((l.count (txt s) - 1 : Nat) : Int) by rw [HH.out]; have := H2.out; omega] at hown1
      exact ⟨_, hown1, mapOf_put HD.out (txt s) _ (by have := H2.out; omega) (fun u => count_erase_if u)⟩
    have R2 := hid hgrow1
    clear hown1 hgrow1 hown
    go_wp2
    go_ret
    exact ⟨rfl, R1.out, R2.out⟩
theorem same_str (t x : Tx) : (Lit.string t).sameKey (.string x) = decide (t = x) := by
  by_cases e : t = x
  · subst e; simp [Lit.sameKey]
  · rw [sameKey_ne (fun h => e (by injection h))]; simp [e]
theorem many_start {D : DataW Unit} {l : List Tx} (h : MapOf D l) : (l.filter (fun t => !Maps.has D (.string t))).length = 0 := by
  rw [List.length_eq_zero_iff, List.filter_eq_nil_iff]
  intro t ht
  rw [(h.2 t).2]
  have : 0 < l.count t := List.count_pos_iff.2 ht
  simp [this]
theorem many_step (left : Lit → Bool) (x : Tx) (hx : left (.string x) = true) : ∀ l : List Tx, (l.filter (fun t => !(left (.string t) && !(Lit.string t).sameKey (.string x)))).length = (l.filter (fun t => !left (.string t))).length + l.count x
  | [] => rfl
  | t :: l => by
    have ih := many_step left x hx l
    by_cases e : t = x
    · subst e
      rw [List.filter_cons_of_pos (by rw [same_str]; simp), List.filter_cons_of_neg (by rw [hx]; simp), List.length_cons, ih, List.count_cons_self]; omega
    · rw [List.count_cons_of_ne (by simpa using e)]
      by_cases hl : left (.string t) = true
      · rw [List.filter_cons_of_neg (by rw [same_str, hl]; simp [e]), List.filter_cons_of_neg (by rw [hl]; simp)]; exact ih
      · rw [List.filter_cons_of_pos (by simp [hl]), List.filter_cons_of_pos (by simp [hl]), List.length_cons, List.length_cons, ih]; omega
theorem many_end {left : Lit → Bool} (h : ∀ kl, left kl = false) (l : List Tx) : (l.filter (fun t => !left (.string t))).length = l.length := by
  rw [List.filter_eq_self.2 (fun t _ => by rw [h]; rfl)]
set_option maxRecDepth 100000 in
set_option maxHeartbeats 1000000 in
theorem many_any (b n : Nat) (l : List Tx) (w : World) (h : MapAt w b n l) (hl : l.length ≤ 1048576) :
    Calls Tryz.prog 85 #[.map (some b)] w fun e w' => e = .returned (.int .i64 l.length) ∧ Below w.heap.size w w' := by
  obtain ⟨D, hown, hD⟩ := h
  have HD := hid hD
  clear hD
  go_enter Tryz.func85, Tryz.ntmps85
  go_wp2_with (first
    | (at_range; refine wpList_range_own _ rfl _ 89 rfl 9 2 Tryz.strKeyed Tryz.underlying89 _ b n D rfl hown ?_; intro w0 hrg0 hg0 hs0)
    | fail)
  go_frame
  go_loopw [3] (fun out wr => ∃ (left : Lit → Bool) (cnt : Nat), wr.ranges Tryz.prog 9 (plainElem (H := Unit) Tryz.prog 2) b w.heap.size n D left cnt ∧ out = .int .i64 ((l.filter (fun t => !left (.string t))).length : Nat) ∧ Below w.heap.size w wr) (fun _ wr => wr.rangeLeft b w.heap.size)
  case atStart => exact ⟨_, _, hrg0, by rw [many_start HD.out]; rfl, (Below.refl _ _).grown hg0 (Nat.le_refl _) (fun j hj => by cases hj)⟩
  case round =>
    obtain ⟨left, cnt, hrg, rfl, hbel⟩ := hrel
    have hfl : (l.filter (fun t => !left (.string t))).length ≤ l.length := List.length_filter_le _ _
    have HE := hid (fun h => many_end (left := left) h l)
    have HS := hid (fun x hx => many_step left x hx l)
    generalize (l.filter (fun t => !left (.string t))).length = N at *
    go_wp2_with (first
      | (at_next; refine wpList_next_ranges (α := Tx) (β := Int) _ rfl _ rfl 9 Tryz.strKeyed (plainElem Tryz.prog 2) encStr (Value.int .i64) (fun key kl hkey => by obtain ⟨x, rfl, _⟩ := Maps.keyOf_str Tryz.underlying9 hkey; exact ⟨x, rfl⟩) (fun v y hv => by obtain ⟨c, rfl, _⟩ := plainElem_int_inv Tryz.underlying2 hv; exact ⟨c, rfl⟩) b w.heap.size n _ _ _ rfl hrg ?_ ?_)
      | fail)
    · intro _ hl0
      have HL := hid (HE.out hl0)
      go_wp2
      go_ret
      exact ⟨ret_int (by rw [HL.out]), hbel⟩
    · intro x c kl y1 y2 w1 cnt1 hkey hlk hv hat hrg1 hlt hg1 hs1 hen
      obtain ⟨x', ex, rfl, _⟩ := Maps.keyOf_str Tryz.underlying9 hkey
      obtain rfl := encStr_inj ex
      obtain ⟨c', ec, ey, _⟩ := plainElem_int_inv Tryz.underlying2 hv
      cases ec
      injection ey with ey1 _
      subst ey1
      have hc := mapOf_at HD.out (hat _)
      have hcl := count_le (l := l) x
      have HC := hid hc
      have HX := hid (HS.out x hlk)
      have hc0 : 0 ≤ c := by omega
      have hc1 : c ≤ 1048576 := by omega
      have hbel1 := hid (hbel.grown hg1 hbel.size (fun j hj => by cases hj; exact Nat.le_refl _))
      clear hkey hv hat hc ex hg1
      go_wp2
      go_roundw
      case rel => exact ⟨_, cnt1, hrg1, by rw [HX.out, HC.out]; congr 1, hbel1.out⟩
      case measure => rw [hrg1.left_eq, hrg.left_eq]; exact hlt
end Go.Proofs.YtdggmeblnbabbaaGreatDoor

/-
  What errors.Is answers at two errors of errors.New's make, the same one or another: contracts over the seat's program.
-/
namespace Go.Proofs.YtdggmeblnbabbaaGreatDoor
open Go.RowKit Go.Extern.Stop Go.Stop Go.Extern

theorem Tryz.isTypeOf (v : Value) (w : World) : (Extern.ReflectliteType.typeOf #[.iface 158 v]).run Tryz.prog w = .ok (.iface 120 (.agg #[.pointer (some ⟨6, 158, none⟩)])) w := by kernel_rfl
theorem Tryz.callComp (w : World) : (callFunc 139 #[.agg #[.pointer (some ⟨6, 158, none⟩)]]).run Tryz.prog w = .ok (.value (.bool true)) w := by kernel_rfl
theorem Tryz.isMethodComparable (v : Value) (w : World) : (Go.method 294 120 v "Comparable").run Tryz.prog w = .ok (139, v) w := by kernel_rfl
theorem Tryz.isComp : (Tryz.prog.info? 158).map (·.comparable) = some true := by kernel_rfl
theorem Tryz.isSize : (Tryz.prog.info? 182).map (·.size) = some 1 := by kernel_rfl
theorem Tryz.noIsE (v : Value) (xT : TypeId) (w : World) : (Instr.typeAssert (.iface 158 v) xT 122 true).run Tryz.prog w = .ok (.tuple #[.nilIface, .bool false]) w := run_typeAssert_lacksB Tryz.underlying122 (by kernel_rfl) (by kernel_rfl) v xT w
theorem Tryz.noUnwrapE (v : Value) (xT : TypeId) (w : World) : (Instr.typeAssert (.iface 158 v) xT 125 true).run Tryz.prog w = .ok (.tuple #[.nilIface, .bool false]) w := run_typeAssert_lacksB Tryz.underlying125 (by kernel_rfl) (by kernel_rfl) v xT w
theorem Tryz.noUnwrapsE (v : Value) (xT : TypeId) (w : World) : (Instr.typeAssert (.iface 158 v) xT 127 true).run Tryz.prog w = .ok (.tuple #[.nilIface, .bool false]) w := run_typeAssert_lacksB Tryz.underlying127 (by kernel_rfl) (by kernel_rfl) v xT w
/-- The same one. -/
theorem is_same (a : Addr) (w : World) :
    Calls Tryz.prog 58 #[.iface 158 (.pointer (some a)), .iface 158 (.pointer (some a))] w fun e w' => e = .returned (.bool true) ∧ w' = w := by
  obtain ⟨i, hi, hcmp⟩ := Option.map_eq_some_iff.1 Tryz.isComp
  obtain ⟨j, hj, _⟩ := Option.map_eq_some_iff.1 Tryz.isSize
  have h8 := @run_callFunc_extern Tryz.prog 77 _ Extern.ReflectliteType.typeOf Tryz.func77 (by kernel_rfl) (by kernel_rfl) (by kernel_rfl) (by kernel_rfl)
  have h32 := Tryz.callComp
  have tT := Tryz.isTypeOf
  have mR := Tryz.isMethodComparable
  have heq := run_eql_iface_ptr_same (P := Tryz.prog) w a Tryz.underlying75 Tryz.underlying158 hi hcmp hj
  go_enter Tryz.func58, Tryz.ntmps58
  go_wp2
  refine wp_loop_rounds 1 ?_
  rw [rounds_succ]
  go_wp2
  go_ret
  exact ⟨rfl, rfl⟩
/-- Another one: neither has Is nor Unwrap. -/
theorem is_other (a b : Addr) (ca cb : Array Value) (ta tb : TypeId) (w : World) (hne : a ≠ b) (ha : w.heap[a.block]? = some (.cells ca ta (0, 0))) (hb : w.heap[b.block]? = some (.cells cb tb (0, 0))) :
    Calls Tryz.prog 58 #[.iface 158 (.pointer (some a)), .iface 158 (.pointer (some b))] w fun e w' => e = .returned (.bool false) ∧ w' = w := by
  obtain ⟨i, hi, hcmp⟩ := Option.map_eq_some_iff.1 Tryz.isComp
  obtain ⟨j, hj, hjs⟩ := Option.map_eq_some_iff.1 Tryz.isSize
  have h8 := @run_callFunc_extern Tryz.prog 77 _ Extern.ReflectliteType.typeOf Tryz.func77 (by kernel_rfl) (by kernel_rfl) (by kernel_rfl) (by kernel_rfl)
  have h32 := Tryz.callComp
  have tT := Tryz.isTypeOf
  have mR := Tryz.isMethodComparable
  have nE := Tryz.noIsE
  have uE := Tryz.noUnwrapE
  have vE := Tryz.noUnwrapsE
  have heq := run_eql_iface_ptr_other (P := Tryz.prog) w Tryz.underlying75 Tryz.underlying158 hi hcmp hj (by rw [hjs]; decide) hne ha hb
  go_enter Tryz.func58, Tryz.ntmps58
  go_wp2
  refine wp_loop_rounds 1 ?_
  rw [rounds_succ]
  go_wp2
  go_ret
  exact ⟨rfl, rfl⟩
end Go.Proofs.YtdggmeblnbabbaaGreatDoor

/-
  The five errors of impl's chapter 4, as they are laid; what impl.codeOfState answers at each: contracts over the seat's program.
-/
namespace Go.Proofs.YtdggmeblnbabbaaGreatDoor
open Go.RowKit

/-- An error of errors.New's make. -/
abbrev errV (a : Addr) : Value := .iface 158 (.pointer (some a))
/-- The five variables, each with an error of its own. -/
structure ErrsAt (w : World) (a0 a1 a2 a3 a4 : Addr) : Prop where
  c0 : w.cell? ⟨0, 0, none⟩ = some (errV a0)
  c1 : w.cell? ⟨1, 0, none⟩ = some (errV a1)
  c2 : w.cell? ⟨2, 0, none⟩ = some (errV a2)
  c3 : w.cell? ⟨3, 0, none⟩ = some (errV a3)
  c4 : w.cell? ⟨4, 0, none⟩ = some (errV a4)
  r0 : ∃ c t, w.heap[a0.block]? = some (.cells c t (0, 0))
  r1 : ∃ c t, w.heap[a1.block]? = some (.cells c t (0, 0))
  r2 : ∃ c t, w.heap[a2.block]? = some (.cells c t (0, 0))
  r3 : ∃ c t, w.heap[a3.block]? = some (.cells c t (0, 0))
  r4 : ∃ c t, w.heap[a4.block]? = some (.cells c t (0, 0))
  n10 : a1 ≠ a0
  n20 : a2 ≠ a0
  n21 : a2 ≠ a1
  n30 : a3 ≠ a0
  n31 : a3 ≠ a1
  n32 : a3 ≠ a2
  n40 : a4 ≠ a0
  n41 : a4 ≠ a1
  n42 : a4 ≠ a2
  n43 : a4 ≠ a3
  hs : 4 + 1 ≤ w.heap.size
theorem err_lt {w : World} {g : Nat} {o : Obj} (h : w.heap[g]? = some o) : g < w.heap.size := by
  rcases Nat.lt_or_ge g w.heap.size with h' | h'
  · exact h'
  · simp [Array.getElem?_eq_none h'] at h
theorem ErrsAt.stay {w w' : World} {a0 a1 a2 a3 a4 : Addr} (h : ErrsAt w a0 a1 a2 a3 a4) (hb : Below w.heap.size w w') : ErrsAt w' a0 a1 a2 a3 a4 where
  c0 := (hb.cell (p := ⟨0, 0, none⟩) (Nat.lt_of_lt_of_le (by decide) h.hs)).trans h.c0
  c1 := (hb.cell (p := ⟨1, 0, none⟩) (Nat.lt_of_lt_of_le (by decide) h.hs)).trans h.c1
  c2 := (hb.cell (p := ⟨2, 0, none⟩) (Nat.lt_of_lt_of_le (by decide) h.hs)).trans h.c2
  c3 := (hb.cell (p := ⟨3, 0, none⟩) (Nat.lt_of_lt_of_le (by decide) h.hs)).trans h.c3
  c4 := (hb.cell (p := ⟨4, 0, none⟩) (Nat.lt_of_lt_of_le (by decide) h.hs)).trans h.c4
  r0 := let ⟨c, t, e⟩ := h.r0; ⟨c, t, (hb.block a0.block (err_lt e)).trans e⟩
  r1 := let ⟨c, t, e⟩ := h.r1; ⟨c, t, (hb.block a1.block (err_lt e)).trans e⟩
  r2 := let ⟨c, t, e⟩ := h.r2; ⟨c, t, (hb.block a2.block (err_lt e)).trans e⟩
  r3 := let ⟨c, t, e⟩ := h.r3; ⟨c, t, (hb.block a3.block (err_lt e)).trans e⟩
  r4 := let ⟨c, t, e⟩ := h.r4; ⟨c, t, (hb.block a4.block (err_lt e)).trans e⟩
  n10 := h.n10
  n20 := h.n20
  n21 := h.n21
  n30 := h.n30
  n31 := h.n31
  n32 := h.n32
  n40 := h.n40
  n41 := h.n41
  n42 := h.n42
  n43 := h.n43
  hs := Nat.le_trans h.hs hb.size
set_option maxRecDepth 100000 in
theorem code_0 {a0 a1 a2 a3 a4 : Addr} (w : World) (h : ErrsAt w a0 a1 a2 a3 a4) :
    Calls Tryz.prog 38 #[errV a0] w fun e w' => e = .returned (.int .i64 1) ∧ w' = w := by
  have c0 := h.c0
  have ds := is_same a0 w
  clear h
  go_enter Tryz.func38, Tryz.ntmps38
  go_wp2_with fail
  refine ds.mono ?_
  rintro e w1 ⟨rfl, rfl⟩
  go_wp2
  go_ret
  exact ⟨rfl, rfl⟩
set_option maxRecDepth 100000 in
theorem code_1 {a0 a1 a2 a3 a4 : Addr} (w : World) (h : ErrsAt w a0 a1 a2 a3 a4) :
    Calls Tryz.prog 38 #[errV a1] w fun e w' => e = .returned (.int .i64 10) ∧ w' = w := by
  have c0 := h.c0
  have c1 := h.c1
  obtain ⟨ca0, ta0, ea0⟩ := h.r1
  obtain ⟨cb0, tb0, eb0⟩ := h.r0
  have d0 := is_other a1 a0 _ _ _ _ w h.n10 ea0 eb0
  have ds := is_same a1 w
  clear h ea0 eb0
  go_enter Tryz.func38, Tryz.ntmps38
  go_wp2_with fail
  refine d0.mono ?_
  rintro e w1 ⟨rfl, rfl⟩
  go_wp2_with fail
  refine ds.mono ?_
  rintro e w1 ⟨rfl, rfl⟩
  go_wp2
  go_ret
  exact ⟨rfl, rfl⟩
set_option maxRecDepth 100000 in
theorem code_2 {a0 a1 a2 a3 a4 : Addr} (w : World) (h : ErrsAt w a0 a1 a2 a3 a4) :
    Calls Tryz.prog 38 #[errV a2] w fun e w' => e = .returned (.int .i64 8) ∧ w' = w := by
  have c0 := h.c0
  have c1 := h.c1
  have c2 := h.c2
  obtain ⟨ca0, ta0, ea0⟩ := h.r2
  obtain ⟨cb0, tb0, eb0⟩ := h.r0
  have d0 := is_other a2 a0 _ _ _ _ w h.n20 ea0 eb0
  obtain ⟨ca1, ta1, ea1⟩ := h.r2
  obtain ⟨cb1, tb1, eb1⟩ := h.r1
  have d1 := is_other a2 a1 _ _ _ _ w h.n21 ea1 eb1
  have ds := is_same a2 w
  clear h ea0 eb0 ea1 eb1
  go_enter Tryz.func38, Tryz.ntmps38
  go_wp2_with fail
  refine d0.mono ?_
  rintro e w1 ⟨rfl, rfl⟩
  go_wp2_with fail
  refine d1.mono ?_
  rintro e w1 ⟨rfl, rfl⟩
  go_wp2_with fail
  refine ds.mono ?_
  rintro e w1 ⟨rfl, rfl⟩
  go_wp2
  go_ret
  exact ⟨rfl, rfl⟩
set_option maxRecDepth 100000 in
theorem code_3 {a0 a1 a2 a3 a4 : Addr} (w : World) (h : ErrsAt w a0 a1 a2 a3 a4) :
    Calls Tryz.prog 38 #[errV a3] w fun e w' => e = .returned (.int .i64 6) ∧ w' = w := by
  have c0 := h.c0
  have c1 := h.c1
  have c2 := h.c2
  have c3 := h.c3
  obtain ⟨ca0, ta0, ea0⟩ := h.r3
  obtain ⟨cb0, tb0, eb0⟩ := h.r0
  have d0 := is_other a3 a0 _ _ _ _ w h.n30 ea0 eb0
  obtain ⟨ca1, ta1, ea1⟩ := h.r3
  obtain ⟨cb1, tb1, eb1⟩ := h.r1
  have d1 := is_other a3 a1 _ _ _ _ w h.n31 ea1 eb1
  obtain ⟨ca2, ta2, ea2⟩ := h.r3
  obtain ⟨cb2, tb2, eb2⟩ := h.r2
  have d2 := is_other a3 a2 _ _ _ _ w h.n32 ea2 eb2
  have ds := is_same a3 w
  clear h ea0 eb0 ea1 eb1 ea2 eb2
  go_enter Tryz.func38, Tryz.ntmps38
  go_wp2_with fail
  refine d0.mono ?_
  rintro e w1 ⟨rfl, rfl⟩
  go_wp2_with fail
  refine d1.mono ?_
  rintro e w1 ⟨rfl, rfl⟩
  go_wp2_with fail
  refine d2.mono ?_
  rintro e w1 ⟨rfl, rfl⟩
  go_wp2_with fail
  refine ds.mono ?_
  rintro e w1 ⟨rfl, rfl⟩
  go_wp2
  go_ret
  exact ⟨rfl, rfl⟩
set_option maxRecDepth 100000 in
theorem code_4 {a0 a1 a2 a3 a4 : Addr} (w : World) (h : ErrsAt w a0 a1 a2 a3 a4) :
    Calls Tryz.prog 38 #[errV a4] w fun e w' => e = .returned (.int .i64 9) ∧ w' = w := by
  have c0 := h.c0
  have c1 := h.c1
  have c2 := h.c2
  have c3 := h.c3
  have c4 := h.c4
  obtain ⟨ca0, ta0, ea0⟩ := h.r4
  obtain ⟨cb0, tb0, eb0⟩ := h.r0
  have d0 := is_other a4 a0 _ _ _ _ w h.n40 ea0 eb0
  obtain ⟨ca1, ta1, ea1⟩ := h.r4
  obtain ⟨cb1, tb1, eb1⟩ := h.r1
  have d1 := is_other a4 a1 _ _ _ _ w h.n41 ea1 eb1
  obtain ⟨ca2, ta2, ea2⟩ := h.r4
  obtain ⟨cb2, tb2, eb2⟩ := h.r2
  have d2 := is_other a4 a2 _ _ _ _ w h.n42 ea2 eb2
  obtain ⟨ca3, ta3, ea3⟩ := h.r4
  obtain ⟨cb3, tb3, eb3⟩ := h.r3
  have d3 := is_other a4 a3 _ _ _ _ w h.n43 ea3 eb3
  have ds := is_same a4 w
  clear h ea0 eb0 ea1 eb1 ea2 eb2 ea3 eb3
  go_enter Tryz.func38, Tryz.ntmps38
  go_wp2_with fail
  refine d0.mono ?_
  rintro e w1 ⟨rfl, rfl⟩
  go_wp2_with fail
  refine d1.mono ?_
  rintro e w1 ⟨rfl, rfl⟩
  go_wp2_with fail
  refine d2.mono ?_
  rintro e w1 ⟨rfl, rfl⟩
  go_wp2_with fail
  refine d3.mono ?_
  rintro e w1 ⟨rfl, rfl⟩
  go_wp2_with fail
  refine ds.mono ?_
  rintro e w1 ⟨rfl, rfl⟩
  go_wp2
  go_ret
  exact ⟨rfl, rfl⟩
end Go.Proofs.YtdggmeblnbabbaaGreatDoor

/-
  What spec.l03At, slices.Index and slices.Contains answer at a row of texts: contracts over the seat's program.
-/
namespace Go.Proofs.YtdggmeblnbabbaaGreatDoor
open Go.RowKit

theorem l03At_row (g o c : Nat) (ss : List ByteArray) (t : ByteArray) (w : World) (hE : StrsAt w g o ss) (hn : ss.length ≤ maxLen) :
    Calls Tryz.prog 30 #[.slice (some ⟨g, o, none⟩) ss.length c, .string t] w fun e w' => e = .returned (.int .i64 (atI ss t)) ∧ w' = w := by
  unfold maxLen at hn
  have HE := hid hE
  clear hE
  go_enter Tryz.func30, Tryz.ntmps30
  go_wp2
  go_loop [5] (fun i => ∃ k : Nat, k ≤ ss.length ∧ i = .int .i64 k ∧ ∀ j, j < k → (h : j < ss.length) → ss[j] ≠ t) (fun i => ss.length - (intOf i).toNat)
  case atStart => exact ⟨0, Nat.zero_le _, rfl, fun j hj => absurd hj (by omega)⟩
  case round =>
    obtain ⟨k, hk, rfl, hall⟩ := hrel
    have HA := hid hall
    clear hall
    by_cases hlt : k < ss.length
    · have c0 := HE.out.2 k hlt
      by_cases he : ss[k] = t
      · have HF := hid (atI_first hlt HA.out he)
        rw [he] at c0
        clear he
        go_wp2
        go_ret
        exact ⟨ret_int HF.out.symm, rfl⟩
      · have HO := hid (ne_step (hk := hlt) HA.out he)
        have hne := str_ne he
        clear he
        go_wp2
        go_round
        case rel => exact ⟨k + 1, by omega, by go_num, HO.out⟩
        case measure => simp [intOf]; omega
    · have HF := hid (atI_out (ne_all HA.out (by omega)))
      go_wp2
      go_ret
      exact ⟨ret_int HF.out.symm, rfl⟩
theorem l03At_none (a : Option Addr) (c : Nat) (t : ByteArray) (w : World) :
    Calls Tryz.prog 30 #[.slice a 0 c, .string t] w fun e w' => e = .returned (.int .i64 (-1)) ∧ w' = w := by
  go_enter Tryz.func30, Tryz.ntmps30
  go_wp2
  go_loop [5] (fun i => i = .int .i64 0) (fun _ => 0)
  case atStart => exact rfl
  case round =>
    subst hrel
    go_wp2
    go_ret
    exact ⟨rfl, rfl⟩
theorem l03At_any (v : Value) (ss : List ByteArray) (t : ByteArray) (w : World) (h : StrSl w v ss) (hn : ss.length ≤ maxLen) :
    Calls Tryz.prog 30 #[v, .string t] w fun e w' => e = .returned (.int .i64 (atI ss t)) ∧ w' = w := by
  rcases h with ⟨a, c, rfl, rfl⟩ | ⟨g, o, c, rfl, _, h⟩
  · exact l03At_none a c t w
  · exact l03At_row g o c ss t w h hn
end Go.Proofs.YtdggmeblnbabbaaGreatDoor

/-
  Two blocks laid: nothing old has turned. Of no function.
-/
namespace Go.Proofs.YtdggmeblnbabbaaGreatDoor
open Go.RowKit

theorem below2 (w : World) (o1 o2 : Obj) : Below w.heap.size w ((w.alloc o1).alloc o2) := ((Below.refl _ _).alloc (Nat.le_refl _) o1).alloc (by simp) o2
end Go.Proofs.YtdggmeblnbabbaaGreatDoor
