/-
  Texts put together: SpSet2, Chg, MkMath, ImMap.
-/
import Derived.Test.YthggcdadipjiiaaGreatDoorZSpSet
import Derived.Test.YthggcdadipjiiaaGreatDoorZGen4
import Derived.Test.YthggcdadipjiiaaGreatDoorZEvT5
import Derived.Maps.OwnSet
import Derived.Maps.OwnOps
import Derived.Maps.RangeWalk
import Derived.Sort.KeysCollected
/-
  What spec.l03Set answers at every row of one's own: a contract over the seat's program.
-/
namespace Go.Proofs.YthggcdadipjiiaaGreatDoor
open Go.RowKit Go.Sort

set_option maxRecDepth 100000 in
set_option maxHeartbeats 2000000 in
theorem l03Set_nil (v : Pr) (w : World) :
    Calls Tryz.prog 99 #[.slice none 0 0, .agg #[.string v.fst, .string v.snd]] w fun e w' => ∃ a n, e = .returned (.slice a 1 n) ∧ w'.ownsRow w.heap.size 138 2 (.slice a 1 n) 1 v.cells ∧ Below w.heap.size w w' := by
  obtain ⟨j0, hj, hj0, hj1, hj2⟩ := info_parts Tryz.infoVar
  have mixed : Tryz.prog.follows .mixedOrders = true := by kernel_rfl
  have HB0 := hid ((Below.refl w.heap.size w).alloc (Nat.le_refl _) (.cells #[.string v.fst, .string v.snd] 138))
  have d0 : (w.alloc (.cells #[.string v.fst, .string v.snd] 138)).cell? ⟨w.heap.size, 0, none⟩ = some (.string v.fst) := by simp [go_sem]
  have d1 : (w.alloc (.cells #[.string v.fst, .string v.snd] 138)).cell? ⟨w.heap.size, 1, none⟩ = some (.string v.snd) := by simp [go_sem]
  have HD := hid (And.intro d0 d1)
  clear d0 d1
  go_enter Tryz.func99, Tryz.ntmps99
  go_wp2
  go_loopw [5] (fun i wr => i = .int .i64 0 ∧ Below (w.heap.size + 1) (w.alloc (.cells #[.string v.fst, .string v.snd] 138)) wr) (fun _ _ => 0)
  case atStart => exact ⟨rfl, Below.refl _ _⟩
  case round =>
    obtain ⟨rfl, hbel⟩ := hrel
    have HB := hid hbel
    clear hbel
    have hz : w.heap.size + 1 ≤ wr.heap.size := by have := HB.out.size; simpa using this
    go_wp2
    refine wp_region_quiet_below mixed (by kernel_rfl) ?_
    repeat (go_big_quiet_step (fail))
    refine wpQuiet_nil ?_
    intro wq hw'
    have HRwq := hid (show Below wr.heap.size wr wq by obtain ⟨⟨dq, osq⟩, hw''⟩ := hw'; subst hw''; exact below_regrown wr dq osq)
    clear hw'
    have HBq := hid (HB.out.trans (HRwq.out.mono hz))
    have hzq : w.heap.size + 1 ≤ wq.heap.size := by have := HRwq.out.size; omega
    have hown0 := own_made2 wq 138
    have HB1 := hid ((Below.refl wq.heap.size wq).alloc (Nat.le_refl _) (.cells #[] 138))
    have HB1w := hid (HBq.out.trans (HB1.out.mono hzq))
    have f0 : (wq.alloc (.cells #[] 138)).cell? ⟨w.heap.size, 0, none⟩ = some (.string v.fst) := (HB1w.out.cell (p := ⟨w.heap.size, 0, none⟩) (by show w.heap.size < w.heap.size + 1; omega)).trans HD.out.1
    have f1 : (wq.alloc (.cells #[] 138)).cell? ⟨w.heap.size, 1, none⟩ = some (.string v.snd) := (HB1w.out.cell (p := ⟨w.heap.size, 1, none⟩) (by show w.heap.size < w.heap.size + 1; omega)).trans HD.out.2
    go_wp2_with (first | (at_builtin; refine wpList_append_own_none rfl _ _ 89 rfl wq.heap.size 138 j0 2 Tryz.underlying89 hj _ _ _ rfl hown0 rfl ?_) | (at_builtin; refine wpList_append_own _ rfl _ _ 89 rfl wq.heap.size 138 j0 _ 2 32 Tryz.underlying89 hj hj0 hj1 hj2 rfl (by decide) _ _ _ rfl (hown0.alloc _) ⟨wq.heap.size + 1, 0, none⟩ 1 1 [.string v.fst, .string v.snd] rfl rfl ?c1 (two_one v) ?c3 ?c4 ?c5 ?_) | fail)
    case c1 =>
      have := cell_two_new (wq.alloc (.cells #[] 138)) (.string v.fst) (.string v.snd) 138
      simpa using this
    case c3 => unfold maxLen; omega
    case c4 => omega
    case c5 => simp; omega
    intro v2 w2 hown2 hg2 _
    have HB2 := hid ((HB1.out.alloc (by simp) (.cells #[.string v.fst, .string v.snd] 138)).grown hg2 (by simp; omega) (fun j hj => (hown0.lt j hj).1))
    obtain ⟨a2, k2, rfl⟩ := ownB_form hown2
    have HO2 := hid hown2
    have hz2' := HB2.out.size
    clear hown2 hg2 HB1 f0 f1 HB1w hown0
    go_wp2
    refine wp_region_quiet_below mixed (by kernel_rfl) ?_
    repeat (go_big_quiet_step (fail))
    refine wpQuiet_nil ?_
    intro w3 hw'
    have HRw3 := hid (show Below w2.heap.size w2 w3 by obtain ⟨⟨dq, osq⟩, hw''⟩ := hw'; subst hw''; exact below_regrown w2 dq osq)
    clear hw'
    have HB3 := hid (HB2.out.trans (HRw3.out.mono hz2'))
    have HO3 := hid (ownB_stay HO2.out HRw3.out)
    clear HO2 HB2
    go_wp2_with (first | (at_builtin; refine wpList_append_own_none rfl _ _ 89 rfl wq.heap.size 138 j0 2 Tryz.underlying89 hj _ _ _ rfl HO3.out rfl ?_) | fail)
    go_ret
    exact ⟨a2, k2, rfl, ownB_le HO3.out (by omega), HB0.out.trans ((HBq.out.trans (HB3.out.mono hzq)).mono (by omega))⟩
theorem l03Set_own (b : Nat) (V : Value) (l : List Pr) (v : Pr) (w : World) (h : w.ownsRow b 138 2 V l.length (l.flatMap Pr.cells)) (hn : l.length ≤ 1048576) :
    Calls Tryz.prog 99 #[V, .agg #[.string v.fst, .string v.snd]] w fun e w' => ∃ a n, e = .returned (.slice a (setV l v).length n) ∧ w'.ownsRow w.heap.size 138 2 (.slice a (setV l v).length n) (setV l v).length ((setV l v).flatMap Pr.cells) ∧ Below w.heap.size w w' := by
  rcases h.2 with ⟨hv, h0⟩ | ⟨g, cap, cur, hv, _, _, hle, hcm, _⟩
  · have hl : l = [] := List.eq_nil_of_length_eq_zero h0
    subst hl; subst hv
    exact (l03Set_nil v w).mono fun e w' k => k
  · by_cases h0 : l.length = 0
    · have hl : l = [] := List.eq_nil_of_length_eq_zero h0
      subst hl; subst hv
      exact l03Set_row g 0 cap [] v w ⟨(h.lt g rfl).2, fun i hi => absurd hi (by simp)⟩ hle hn hcm
    · have hlt := (h.lt g (by rw [hv]; rfl)).2
      rcases pr_of_own h with ⟨_, _, _, hl⟩ | ⟨g', o', c', hv', _, hP⟩
      · subst hl; simp at h0
      · rw [hv] at hv'
        injection hv' with q1 q2 q3
        injection q1 with q1
        injection q1 with q4 q5
        subst q4; subst q5; subst hv
        exact l03Set_row g 0 cap l v w hP hle hn hcm
end Go.Proofs.YthggcdadipjiiaaGreatDoor

/-
  Worlds that part in some blocks alone. Of no function.
-/
namespace Go.Proofs.YthggcdadipjiiaaGreatDoor
open Go.RowKit

/-- w' is w, but for the blocks of which p holds, and for what is new. -/
structure Chg (p : Nat → Prop) (w w' : World) : Prop where
  os : w'.os = w.os
  tape : w'.tape = w.tape
  output : w'.output = w.output
  size : w.heap.size ≤ w'.heap.size
  block : ∀ k, k < w.heap.size → ¬ p k → w'.heap[k]? = w.heap[k]?
theorem Chg.refl (p : Nat → Prop) (w : World) : Chg p w w := ⟨rfl, rfl, rfl, Nat.le_refl _, fun _ _ _ => rfl⟩
theorem Chg.trans {p : Nat → Prop} {w w1 w2 : World} (h : Chg p w w1) (k : Chg p w1 w2) : Chg p w w2 :=
  ⟨k.os.trans h.os, k.tape.trans h.tape, k.output.trans h.output, Nat.le_trans h.size k.size, fun i hi hp => (k.block i (Nat.lt_of_lt_of_le hi h.size) hp).trans (h.block i hi hp)⟩
theorem Chg.of_grown {p : Nat → Prop} {w w' : World} {b : Nat} (h : w.grownBy w' (some b)) (hb : p b) : Chg p w w' := ⟨h.os, h.tape, h.output, h.size, fun k hk hp => h.block k hk (fun e => by injection e with e; exact hp (e ▸ hb))⟩
theorem Chg.of_none {p : Nat → Prop} {w w' : World} (h : w.grownBy w' none) : Chg p w w' := ⟨h.os, h.tape, h.output, h.size, fun k hk _ => h.block k hk (by simp)⟩
theorem Chg.of_below {p : Nat → Prop} {w w' : World} (h : Below w.heap.size w w') : Chg p w w' := ⟨h.os, h.tape, h.output, h.size, fun k hk _ => h.block k hk⟩
theorem Chg.below {p : Nat → Prop} {w w' : World} {B : Nat} (h : Chg p w w') (hB : B ≤ w.heap.size) (hp : ∀ k, p k → B ≤ k) : Below B w w' := ⟨h.os, h.tape, h.output, h.size, fun k hk => h.block k (Nat.lt_of_lt_of_le hk hB) (fun h' => absurd (hp k h') (by omega))⟩
theorem Chg.mono {p q : Nat → Prop} {w w' : World} (h : Chg p w w') (hpq : ∀ k, p k → q k) : Chg q w w' := ⟨h.os, h.tape, h.output, h.size, fun k hk hq => h.block k hk (fun hp => hq (hpq k hp))⟩
theorem Chg.cell {p : Nat → Prop} {w w' : World} (h : Chg p w w') {g o : Nat} (hg : g < w.heap.size) (hp : ¬ p g) : w'.cell? ⟨g, o, none⟩ = w.cell? ⟨g, o, none⟩ := by
  unfold World.cell?; simp only []; rw [h.block g hg hp]
end Go.Proofs.YthggcdadipjiiaaGreatDoor

/-
  Marks counted in a map: what it is that a map's datum counts the texts of a list. Of no function.
-/
namespace Go.Proofs.YthggcdadipjiiaaGreatDoor
open Go.RowKit Go.Maps

/-- A text's bytes. -/
abbrev Tx := List UInt8
def txt (s : ByteArray) : Tx := s.data.toList
theorem txt_inj {a b : ByteArray} (h : txt a = txt b) : a = b := ByteArray.ext (Array.toList_inj.1 h)
def MapOf (D : DataW Unit) (l : List Tx) : Prop := IsMap D ∧ ∀ t : Tx, D.atKey (.string t) (.lit (.int .i64 0)) = .lit (.int .i64 (l.count t)) ∧ Maps.has D (.string t) = decide (0 < l.count t)
theorem mapOf_nil : MapOf (.map []) [] := ⟨isMap_empty, fun t => ⟨by simp [DataW.atKey], by simp [Maps.has]⟩⟩
theorem mapOf_perm {D : DataW Unit} {l l' : List Tx} (h : MapOf D l) (hp : l.Perm l') : MapOf D l' := ⟨h.1, fun t => by rw [← hp.count_eq]; exact h.2 t⟩
theorem mapOf_put {D : DataW Unit} {l l' : List Tx} (h : MapOf D l) (t : Tx) (n : Nat) (hn : 0 < n) (hl : ∀ u, l'.count u = if u = t then n else l.count u) : MapOf (D.put (.string t) (.lit (.int .i64 n))) l' := by
  refine ⟨h.1.put _ _, fun u => ?_⟩
  by_cases e : u = t
  · subst e
    rw [atKey_put_same h.1 (show WideAt.IsKeyLit (.string u) from trivial), has_put_same h.1 (show WideAt.IsKeyLit (.string u) from trivial), hl u, if_pos rfl]
    exact ⟨rfl, by simp [hn]⟩
  · have hne : Lit.string u ≠ Lit.string t := fun h => e (by injection h)
    rw [atKey_put_other hne, has_put_other hne, hl u, if_neg e]
    exact h.2 u
theorem mapOf_del {D : DataW Unit} {l l' : List Tx} (h : MapOf D l) (t : Tx) (hl : ∀ u, l'.count u = if u = t then 0 else l.count u) : MapOf (D.del (.string t)) l' := by
  refine ⟨h.1.del _, fun u => ?_⟩
  by_cases e : u = t
  · subst e
    rw [atKey_del_same, has_del_same, hl u, if_pos rfl]
    exact ⟨rfl, by simp⟩
  · have hne : Lit.string u ≠ Lit.string t := fun h => e (by injection h)
    rw [atKey_del_other hne, has_del_other hne, hl u, if_neg e]
    exact h.2 u
theorem mapOf_at {D : DataW Unit} {l : List Tx} {t : Tx} {c : Int} (h : MapOf D l) (hc : D.atKey (.string t) (.lit (.int .i64 0)) = .lit (.int .i64 c)) : c = l.count t := by
  rw [(h.2 t).1] at hc
  injection hc with hc
  injection hc with _ hc
  exact hc.symm
theorem count_cons_if {l : List Tx} {t : Tx} (u : Tx) : (t :: l).count u = if u = t then l.count t + 1 else l.count u := by
  rw [List.count_cons]
  by_cases e : u = t
  · subst e; simp
  · rw [if_neg e]
    have : ¬ t = u := fun h => e h.symm
    simp [this]
theorem count_erase_if {l : List Tx} {t : Tx} (u : Tx) : (l.erase t).count u = if u = t then l.count t - 1 else l.count u := by
  by_cases e : u = t
  · subst e; rw [if_pos rfl, List.count_erase_self]
  · rw [if_neg e, List.count_erase_of_ne (by simpa using e)]
/-- Block b is a map that counts these texts. -/
def MapAt (w : World) (b n : Nat) (l : List Tx) : Prop := ∃ D, w.ownsMap Tryz.prog 9 (plainElem (H := Unit) Tryz.prog 2) b n D ∧ MapOf D l
theorem MapAt.lt {w : World} {b n : Nat} {l : List Tx} (h : MapAt w b n l) : b < w.heap.size := let ⟨_, h, _⟩ := h; h.lt
theorem MapAt.kept {w w' : World} {row : Option Nat} {b n : Nat} {l : List Tx} (h : MapAt w b n l) (hg : w.grownBy w' row) (hne : some b ≠ row) : MapAt w' b n l := let ⟨D, h1, h2⟩ := h; ⟨D, h1.kept hg hne, h2⟩
theorem MapAt.stay {w w' : World} {b n : Nat} {l : List Tx} (h : MapAt w b n l) (hb : Below w.heap.size w w') : MapAt w' b n l := h.kept (grown_below (r := none) hb) (by simp)
theorem MapAt.perm {w : World} {b n : Nat} {l l' : List Tx} (h : MapAt w b n l) (hp : l.Perm l') : MapAt w b n l' := let ⟨D, h1, h2⟩ := h; ⟨D, h1, mapOf_perm h2 hp⟩
theorem Tryz.strKeyed : Keyed Tryz.prog 9 := string_keyed Tryz.underlying9
theorem Tryz.zeroI64 (w : World) : (zeroValue 2).run Tryz.prog w = .ok (.int .i64 0) w := by kernel_rfl
end Go.Proofs.YthggcdadipjiiaaGreatDoor

/-
  What impl.marksOf and the methods take and many of impl.marks answer: contracts over the seat's program.
-/
namespace Go.Proofs.YthggcdadipjiiaaGreatDoor
open Go.RowKit Go.Maps Go.WideMaps Go.Proofs

theorem count_le {l : List Tx} (t : Tx) : l.count t ≤ l.length := List.count_le_length
theorem take_snocT {l : List ByteArray} {k : Nat} (h : k < l.length) : (txt l[k] :: (l.take k).map txt).Perm ((l.take (k + 1)).map txt) := by
  rw [List.take_succ_eq_append_getElem h, List.map_append]
  exact (List.perm_append_singleton (txt l[k]) ((l.take k).map txt)).symm
set_option maxRecDepth 100000 in
set_option maxHeartbeats 1000000 in
theorem marksOf_row (g o c : Nat) (l : List ByteArray) (w : World) (hE : StrsAt w g o l) (hF : ∀ i, (h : i < l.length) → l[i].size ≤ maxLen) (hn : l.length ≤ 1048576) :
    Calls Tryz.prog 132 #[.slice (some ⟨g, o, none⟩) l.length c] w fun e w' => e = .returned (.map (some w.heap.size)) ∧ MapAt w' w.heap.size l.length (l.map txt) ∧ Below w.heap.size w w' := by
  have hmm := @run_makeMap Tryz.prog
  have HE := hid hE
  clear hE
  go_enter Tryz.func132, Tryz.ntmps132
  go_wp2
  go_loopw [9] (fun i wr => ∃ k : Nat, k ≤ l.length ∧ i = .int .i64 k ∧ MapAt wr w.heap.size k ((l.take k).map txt) ∧ Below w.heap.size w wr) (fun i _ => l.length - (intOf i).toNat)
  case atStart => exact ⟨0, Nat.zero_le _, rfl, ⟨_, World.ownsMap_made _ _ _ _, mapOf_nil⟩, (Below.refl _ _).alloc (Nat.le_refl _) _⟩
  case round =>
    obtain ⟨k, hk, rfl, ⟨D, hown, hD⟩, hbel⟩ := hrel
    by_cases hlt : k < l.length
    · have c0 := (HE.out.stay hbel (Nat.le_refl _)).2 k hlt
      have hkey := keyOf_string_mk Tryz.underlying9 (hF k hlt)
      have HD := hid hD
      have HP := hid (take_snocT hlt)
      have HC := hid (show ((l.take k).map txt).length ≤ k by simp; omega)
      clear hD
      generalize l[k] = s at *
      have HN := hid (fun (cc : Int) hat => mapOf_at (c := cc) (t := txt s) HD.out hat)
      have HL := hid (count_le (l := (l.take k).map txt) (txt s))
      go_wp2_with (first
        | (at_lookup; refine wpList_lookup_own_int _ rfl _ _ 170 rfl 9 2 .i64 Tryz.strKeyed Tryz.underlying170 Tryz.underlying2 (Tryz.zeroI64 _) w.heap.size k D rfl hown _ _ rfl hkey ?_; intro cc hat hwc; have hcc := HN.out cc hat; have h0 : 0 ≤ cc := (by omega); have h1 : cc ≤ 1048576 := (by have := HL.out; have := HC.out; omega); have HH := hid hcc; clear hcc hat hwc)
        | (at_mapUpdate; refine wpList_mapUpdate_own _ rfl _ _ _ 170 rfl 9 2 Tryz.strKeyed Tryz.underlying170 _ w.heap.size k _ rfl hown (by unfold maxLen; omega) _ _ _ rfl rfl hkey _ [] (plainElem_int Tryz.underlying2 (WalkArith.wf_i64 (by omega))) ?_)
        | fail)
      intro w1 hown1 hgrow1
      have R1 : Hid (MapAt w1 w.heap.size (k + 1) ((l.take (k + 1)).map txt)) := by
        show MapAt _ _ _ _
        rw [show cc + 1 = ((((l.take k).map txt).count (txt s) + 1 : Nat) : Int) by rw [HH.out]; omega] at hown1
        exact MapAt.perm ⟨_, hown1, mapOf_put HD.out (txt s) _ (by omega) (fun u => count_cons_if u)⟩ HP.out
      have R2 := hid (hbel.grown hgrow1 hbel.size (fun j hj => by cases hj; exact Nat.le_refl _))
      clear hown1 hgrow1 hown c0 h0 h1 HH
      go_wp2
      go_roundw
      case rel => exact ⟨k + 1, by omega, by go_num, R1.out, R2.out⟩
      case measure => simp [intOf]; omega
    · have hk' : k = l.length := by omega
      have HR := hid (show MapAt wr w.heap.size l.length (l.map txt) by
        subst hk'
        exact ⟨D, hown, by rw [List.take_of_length_le (Nat.le_refl _)] at hD; exact hD⟩)
      clear hk' hown hD
      go_wp2
      go_ret
      exact ⟨rfl, HR.out, hbel⟩
set_option maxRecDepth 100000 in
theorem marksOf_none (a : Option Addr) (c : Nat) (w : World) :
    Calls Tryz.prog 132 #[.slice a 0 c] w fun e w' => e = .returned (.map (some w.heap.size)) ∧ MapAt w' w.heap.size 0 [] ∧ Below w.heap.size w w' := by
  have hmm := @run_makeMap Tryz.prog
  go_enter Tryz.func132, Tryz.ntmps132
  go_wp2
  go_loop [9] (fun i => i = .int .i64 0) (fun _ => 0)
  case atStart => exact rfl
  case round =>
    subst hrel
    go_wp2
    go_ret
    exact ⟨rfl, ⟨_, World.ownsMap_made _ _ _ _, mapOf_nil⟩, (Below.refl _ _).alloc (Nat.le_refl _) _⟩
theorem marksOf_any (v : Value) (l : List ByteArray) (w : World) (h : StrSl w v l) (hF : ∀ i, (h : i < l.length) → l[i].size ≤ maxLen) (hn : l.length ≤ 1048576) :
    Calls Tryz.prog 132 #[v] w fun e w' => e = .returned (.map (some w.heap.size)) ∧ MapAt w' w.heap.size l.length (l.map txt) ∧ Below w.heap.size w w' := by
  rcases h with ⟨a, c, rfl, rfl⟩ | ⟨g, o, c, rfl, _, h⟩
  · exact marksOf_none a c w
  · exact marksOf_row g o c l w h hF hn
set_option maxRecDepth 100000 in
set_option maxHeartbeats 1000000 in
theorem take_no (b n : Nat) (l : List Tx) (s : ByteArray) (w : World) (h : MapAt w b n l) (hs : s.size ≤ maxLen) (hc : l.count (txt s) = 0) :
    Calls Tryz.prog 164 #[.map (some b), .string s] w fun e w' => e = .returned (.bool false) ∧ w' = w := by
  obtain ⟨D, hown, hD⟩ := h
  have hkey := keyOf_string_mk Tryz.underlying9 hs
  have HN := hid (fun (cc : Int) hat => mapOf_at (c := cc) (t := txt s) hD hat)
  have HC := hid hc
  clear hD hc
  go_enter Tryz.func164, Tryz.ntmps164
  go_wp2_with (first
    | (at_lookup; refine wpList_lookup_own_int _ rfl _ _ 170 rfl 9 2 .i64 Tryz.strKeyed Tryz.underlying170 Tryz.underlying2 (Tryz.zeroI64 _) b n D rfl hown _ _ rfl hkey ?_; intro cc hat hwc; have hcc := HN.out cc hat; rw [HC.out] at hcc; subst hcc; clear hat hwc)
    | fail)
  go_ret
  exact ⟨rfl, rfl⟩
set_option maxRecDepth 100000 in
set_option maxHeartbeats 1000000 in
theorem take_yes (b n : Nat) (l : List Tx) (s : ByteArray) (w : World) (h : MapAt w b n l) (hs : s.size ≤ maxLen) (hc : 0 < l.count (txt s)) (hl : l.length ≤ 1048576) (hn : n ≤ 1048576) :
    Calls Tryz.prog 164 #[.map (some b), .string s] w fun e w' => e = .returned (.bool true) ∧ MapAt w' b (n + 1) (l.erase (txt s)) ∧ w.grownBy w' (some b) := by
  obtain ⟨D, hown, hD⟩ := h
  have hkey := keyOf_string_mk Tryz.underlying9 hs
  have HN := hid (fun (cc : Int) hat => mapOf_at (c := cc) (t := txt s) hD hat)
  have HD := hid hD
  have HL := hid (Nat.le_trans (count_le (l := l) (txt s)) hl)
  clear hD
  by_cases h1 : l.count (txt s) = 1
  · have HC := hid h1
    clear h1 hc
    go_enter Tryz.func164, Tryz.ntmps164
    go_wp2_with (first
      | (at_lookup; refine wpList_lookup_own_int _ rfl _ _ 170 rfl 9 2 .i64 Tryz.strKeyed Tryz.underlying170 Tryz.underlying2 (Tryz.zeroI64 _) b n D rfl hown _ _ rfl hkey ?_; intro cc hat hwc; have hcc := HN.out cc hat; rw [HC.out] at hcc; subst hcc; clear hat hwc)
      | (at_delete; refine wpList_delete_own _ rfl _ _ 170 9 rfl 2 Tryz.strKeyed Tryz.underlying170 _ b n D rfl hown _ _ rfl hkey ?_)
      | fail)
    intro w1 hown1 hturn1
    have R1 := hid (show MapAt w1 b (n + 1) (l.erase (txt s)) from ⟨_, hown1.mono (Nat.le_succ _), mapOf_del HD.out (txt s) (fun u => by rw [count_erase_if, HC.out])⟩)
    have R2 := hid hturn1.grown
    clear hown1 hturn1 hown
    go_wp2
    go_ret
    exact ⟨rfl, R1.out, R2.out⟩
  · have H2 := hid (show 2 ≤ l.count (txt s) by omega)
    clear h1 hc
    go_enter Tryz.func164, Tryz.ntmps164
    go_wp2_with (first
      | (at_lookup; refine wpList_lookup_own_int _ rfl _ _ 170 rfl 9 2 .i64 Tryz.strKeyed Tryz.underlying170 Tryz.underlying2 (Tryz.zeroI64 _) b n D rfl hown _ _ rfl hkey ?_; intro cc hat hwc; have hcc := HN.out cc hat; have h0 : (cc == 0) = false := (by have := H2.out; simp; omega); have h1 : (cc == 1) = false := (by have := H2.out; simp; omega); have h2 : 2 ≤ cc := (by have := H2.out; omega); have h3 : cc ≤ 1048576 := (by have := HL.out; omega); have HH := hid hcc; clear hcc hat hwc)
      | (at_mapUpdate; refine wpList_mapUpdate_own _ rfl _ _ _ 170 rfl 9 2 Tryz.strKeyed Tryz.underlying170 _ b n _ rfl hown (by unfold maxLen; omega) _ _ _ rfl rfl hkey _ [] (plainElem_int Tryz.underlying2 (WalkArith.wf_i64 (by omega))) ?_)
      | fail)
    intro w1 hown1 hgrow1
    have R1 : Hid (MapAt w1 b (n + 1) (l.erase (txt s))) := by
      show MapAt _ _ _ _
      rw [show cc - 1 = ((l.count (txt s) - 1 : Nat) : Int) by rw [HH.out]; have := H2.out; omega] at hown1
      exact ⟨_, hown1, mapOf_put HD.out (txt s) _ (by have := H2.out; omega) (fun u => count_erase_if u)⟩
    have R2 := hid hgrow1
    clear hown1 hgrow1 hown
    go_wp2
    go_ret
    exact ⟨rfl, R1.out, R2.out⟩
theorem same_str (t x : Tx) : (Lit.string t).sameKey (.string x) = decide (t = x) := by
  by_cases e : t = x
  · subst e; simp [Lit.sameKey]
  · rw [sameKey_ne (fun h => e (by injection h))]; simp [e]
theorem many_start {D : DataW Unit} {l : List Tx} (h : MapOf D l) : (l.filter (fun t => !Maps.has D (.string t))).length = 0 := by
  rw [List.length_eq_zero_iff, List.filter_eq_nil_iff]
  intro t ht
  rw [(h.2 t).2]
  have : 0 < l.count t := List.count_pos_iff.2 ht
  simp [this]
theorem many_step (left : Lit → Bool) (x : Tx) (hx : left (.string x) = true) : ∀ l : List Tx, (l.filter (fun t => !(left (.string t) && !(Lit.string t).sameKey (.string x)))).length = (l.filter (fun t => !left (.string t))).length + l.count x
  | [] => rfl
  | t :: l => by
    have ih := many_step left x hx l
    by_cases e : t = x
    · subst e
      rw [List.filter_cons_of_pos (by rw [same_str]; simp), List.filter_cons_of_neg (by rw [hx]; simp), List.length_cons, ih, List.count_cons_self]; omega
    · rw [List.count_cons_of_ne (by simpa using e)]
      by_cases hl : left (.string t) = true
      · rw [List.filter_cons_of_neg (by rw [same_str, hl]; simp [e]), List.filter_cons_of_neg (by rw [hl]; simp)]; exact ih
      · rw [List.filter_cons_of_pos (by simp [hl]), List.filter_cons_of_pos (by simp [hl]), List.length_cons, List.length_cons, ih]; omega
theorem many_end {left : Lit → Bool} (h : ∀ kl, left kl = false) (l : List Tx) : (l.filter (fun t => !left (.string t))).length = l.length := by
  rw [List.filter_eq_self.2 (fun t _ => by rw [h]; rfl)]
set_option maxRecDepth 100000 in
set_option maxHeartbeats 1000000 in
theorem many_any (b n : Nat) (l : List Tx) (w : World) (h : MapAt w b n l) (hl : l.length ≤ 1048576) :
    Calls Tryz.prog 165 #[.map (some b)] w fun e w' => e = .returned (.int .i64 l.length) ∧ Below w.heap.size w w' := by
  obtain ⟨D, hown, hD⟩ := h
  have HD := hid hD
  clear hD
  go_enter Tryz.func165, Tryz.ntmps165
  go_wp2_with (first
    | (at_range; refine wpList_range_own _ rfl _ 170 rfl 9 2 Tryz.strKeyed Tryz.underlying170 _ b n D rfl hown ?_; intro w0 hrg0 hg0 hs0)
    | fail)
  go_frame
  go_loopw [3] (fun out wr => ∃ (left : Lit → Bool) (cnt : Nat), wr.ranges Tryz.prog 9 (plainElem (H := Unit) Tryz.prog 2) b w.heap.size n D left cnt ∧ out = .int .i64 ((l.filter (fun t => !left (.string t))).length : Nat) ∧ Below w.heap.size w wr) (fun _ wr => wr.rangeLeft b w.heap.size)
  case atStart => exact ⟨_, _, hrg0, by rw [many_start HD.out]; rfl, (Below.refl _ _).grown hg0 (Nat.le_refl _) (fun j hj => by cases hj)⟩
  case round =>
    obtain ⟨left, cnt, hrg, rfl, hbel⟩ := hrel
    have hfl : (l.filter (fun t => !left (.string t))).length ≤ l.length := List.length_filter_le _ _
    have HE := hid (fun h => many_end (left := left) h l)
    have HS := hid (fun x hx => many_step left x hx l)
    generalize (l.filter (fun t => !left (.string t))).length = N at *
    go_wp2_with (first
      | (at_next; refine wpList_next_ranges (α := Tx) (β := Int) _ rfl _ rfl 9 Tryz.strKeyed (plainElem Tryz.prog 2) encStr (Value.int .i64) (fun key kl hkey => by obtain ⟨x, rfl, _⟩ := Maps.keyOf_str Tryz.underlying9 hkey; exact ⟨x, rfl⟩) (fun v y hv => by obtain ⟨c, rfl, _⟩ := plainElem_int_inv Tryz.underlying2 hv; exact ⟨c, rfl⟩) b w.heap.size n _ _ _ rfl hrg ?_ ?_)
      | fail)
    · intro _ hl0
      have HL := hid (HE.out hl0)
      go_wp2
      go_ret
      exact ⟨ret_int (by rw [HL.out]), hbel⟩
    · intro x c kl y1 y2 w1 cnt1 hkey hlk hv hat hrg1 hlt hg1 hs1 hen
      obtain ⟨x', ex, rfl, _⟩ := Maps.keyOf_str Tryz.underlying9 hkey
      obtain rfl := encStr_inj ex
      obtain ⟨c', ec, ey, _⟩ := plainElem_int_inv Tryz.underlying2 hv
      cases ec
      injection ey with ey1 _
      subst ey1
      have hc := mapOf_at HD.out (hat _)
      have hcl := count_le (l := l) x
      have HC := hid hc
      have HX := hid (HS.out x hlk)
      have hc0 : 0 ≤ c := by omega
      have hc1 : c ≤ 1048576 := by omega
      have hbel1 := hid (hbel.grown hg1 hbel.size (fun j hj => by cases hj; exact Nat.le_refl _))
      clear hkey hv hat hc ex hg1
      go_wp2
      go_roundw
      case rel => exact ⟨_, cnt1, hrg1, by rw [HX.out, HC.out]; congr 1, hbel1.out⟩
      case measure => rw [hrg1.left_eq, hrg.left_eq]; exact hlt
end Go.Proofs.YthggcdadipjiiaaGreatDoor
