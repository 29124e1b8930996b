/-
  Texts put together: SpSet2, MkMath, Chg.
-/
import Derived.Test.YtihpadabgfhegaaGreatDoorZSpSet
import Derived.Test.YtihpadabgfhegaaGreatDoorZDfMath3
import Derived.Maps.OwnSet
import Derived.Maps.OwnOps
import Derived.Maps.RangeWalk
import Derived.Sort.KeysCollected
/-
  What spec.l03Set answers at every row of one's own: a contract over the seat's program.
-/
namespace Go.Proofs.YtihpadabgfhegaaGreatDoor
open Go.RowKit Go.Sort

set_option maxRecDepth 100000 in
set_option maxHeartbeats 2000000 in
theorem l03Set_nil (v : Pr) (w : World) :
    Calls Tryz.prog 105 #[.slice none 0 0, .agg #[.string v.fst, .string v.snd]] w fun e w' => ∃ a n, e = .returned (.slice a 1 n) ∧ w'.ownsRow w.heap.size 83 2 (.slice a 1 n) 1 v.cells ∧ Below w.heap.size w w' := by
  obtain ⟨j0, hj, hj0, hj1, hj2⟩ := info_parts Tryz.infoVar
  have mixed : Tryz.prog.follows .mixedOrders = true := by kernel_rfl
  have HB0 := hid ((Below.refl w.heap.size w).alloc (Nat.le_refl _) (.cells #[.string v.fst, .string v.snd] 83))
  have d0 : (w.alloc (.cells #[.string v.fst, .string v.snd] 83)).cell? ⟨w.heap.size, 0, none⟩ = some (.string v.fst) := by simp [go_sem]
  have d1 : (w.alloc (.cells #[.string v.fst, .string v.snd] 83)).cell? ⟨w.heap.size, 1, none⟩ = some (.string v.snd) := by simp [go_sem]
  have HD := hid (And.intro d0 d1)
  clear d0 d1
  go_enter Tryz.func105, Tryz.ntmps105
  go_wp2
  go_loopw [5] (fun i wr => i = .int .i64 0 ∧ Below (w.heap.size + 1) (w.alloc (.cells #[.string v.fst, .string v.snd] 83)) wr) (fun _ _ => 0)
  case atStart => exact ⟨rfl, Below.refl _ _⟩
  case round =>
    obtain ⟨rfl, hbel⟩ := hrel
    have HB := hid hbel
    clear hbel
    have hz : w.heap.size + 1 ≤ wr.heap.size := by have := HB.out.size; simpa using this
    go_wp2
    refine wp_region_quiet_below mixed (by kernel_rfl) ?_
    repeat (go_big_quiet_step (fail))
    refine wpQuiet_nil ?_
    intro wq hw'
    have HRwq := hid (show Below wr.heap.size wr wq by obtain ⟨⟨dq, osq⟩, hw''⟩ := hw'; subst hw''; exact below_regrown wr dq osq)
    clear hw'
    have HBq := hid (HB.out.trans (HRwq.out.mono hz))
    have hzq : w.heap.size + 1 ≤ wq.heap.size := by have := HRwq.out.size; omega
    have hown0 := own_made2 wq 83
    have HB1 := hid ((Below.refl wq.heap.size wq).alloc (Nat.le_refl _) (.cells #[] 83))
    have HB1w := hid (HBq.out.trans (HB1.out.mono hzq))
    have f0 : (wq.alloc (.cells #[] 83)).cell? ⟨w.heap.size, 0, none⟩ = some (.string v.fst) := (HB1w.out.cell (p := ⟨w.heap.size, 0, none⟩) (by show w.heap.size < w.heap.size + 1; omega)).trans HD.out.1
    have f1 : (wq.alloc (.cells #[] 83)).cell? ⟨w.heap.size, 1, none⟩ = some (.string v.snd) := (HB1w.out.cell (p := ⟨w.heap.size, 1, none⟩) (by show w.heap.size < w.heap.size + 1; omega)).trans HD.out.2
    go_wp2_with (first | (at_builtin; refine wpList_append_own_none rfl _ _ 27 rfl wq.heap.size 83 j0 2 Tryz.underlying27 hj _ _ _ rfl hown0 rfl ?_) | (at_builtin; refine wpList_append_own _ rfl _ _ 27 rfl wq.heap.size 83 j0 _ 2 32 Tryz.underlying27 hj hj0 hj1 hj2 rfl (by decide) _ _ _ rfl (hown0.alloc _) ⟨wq.heap.size + 1, 0, none⟩ 1 1 [.string v.fst, .string v.snd] rfl rfl ?c1 (two_one v) ?c3 ?c4 ?c5 ?_) | fail)
    case c1 =>
      have := cell_two_new (wq.alloc (.cells #[] 83)) (.string v.fst) (.string v.snd) 83
      simpa using this
    case c3 => unfold maxLen; omega
    case c4 => omega
    case c5 => simp; omega
    intro v2 w2 hown2 hg2 _
    have HB2 := hid ((HB1.out.alloc (by simp) (.cells #[.string v.fst, .string v.snd] 83)).grown hg2 (by simp; omega) (fun j hj => (hown0.lt j hj).1))
    obtain ⟨a2, k2, rfl⟩ := ownB_form hown2
    have HO2 := hid hown2
    have hz2' := HB2.out.size
    clear hown2 hg2 HB1 f0 f1 HB1w hown0
    go_wp2
    refine wp_region_quiet_below mixed (by kernel_rfl) ?_
    repeat (go_big_quiet_step (fail))
    refine wpQuiet_nil ?_
    intro w3 hw'
    have HRw3 := hid (show Below w2.heap.size w2 w3 by obtain ⟨⟨dq, osq⟩, hw''⟩ := hw'; subst hw''; exact below_regrown w2 dq osq)
    clear hw'
    have HB3 := hid (HB2.out.trans (HRw3.out.mono hz2'))
    have HO3 := hid (ownB_stay HO2.out HRw3.out)
    clear HO2 HB2
    go_wp2_with (first | (at_builtin; refine wpList_append_own_none rfl _ _ 27 rfl wq.heap.size 83 j0 2 Tryz.underlying27 hj _ _ _ rfl HO3.out rfl ?_) | fail)
    go_ret
    exact ⟨a2, k2, rfl, ownB_le HO3.out (by omega), HB0.out.trans ((HBq.out.trans (HB3.out.mono hzq)).mono (by omega))⟩
theorem l03Set_own (b : Nat) (V : Value) (l : List Pr) (v : Pr) (w : World) (h : w.ownsRow b 83 2 V l.length (l.flatMap Pr.cells)) (hn : l.length ≤ 1048576) :
    Calls Tryz.prog 105 #[V, .agg #[.string v.fst, .string v.snd]] w fun e w' => ∃ a n, e = .returned (.slice a (setV l v).length n) ∧ w'.ownsRow w.heap.size 83 2 (.slice a (setV l v).length n) (setV l v).length ((setV l v).flatMap Pr.cells) ∧ Below w.heap.size w w' := by
  rcases h.2 with ⟨hv, h0⟩ | ⟨g, cap, cur, hv, _, _, hle, hcm, _⟩
  · have hl : l = [] := List.eq_nil_of_length_eq_zero h0
    subst hl; subst hv
    exact (l03Set_nil v w).mono fun e w' k => k
  · by_cases h0 : l.length = 0
    · have hl : l = [] := List.eq_nil_of_length_eq_zero h0
      subst hl; subst hv
      exact l03Set_row g 0 cap [] v w ⟨(h.lt g rfl).2, fun i hi => absurd hi (by simp)⟩ hle hn hcm
    · have hlt := (h.lt g (by rw [hv]; rfl)).2
      rcases pr_of_own h with ⟨_, _, _, hl⟩ | ⟨g', o', c', hv', _, hP⟩
      · subst hl; simp at h0
      · rw [hv] at hv'
        injection hv' with q1 q2 q3
        injection q1 with q1
        injection q1 with q4 q5
        subst q4; subst q5; subst hv
        exact l03Set_row g 0 cap l v w hP hle hn hcm
end Go.Proofs.YtihpadabgfhegaaGreatDoor

/-
  Marks counted in a map: what it is that a map's datum counts the texts of a list. Of no function.
-/
namespace Go.Proofs.YtihpadabgfhegaaGreatDoor
open Go.RowKit Go.Maps

/-- A text's bytes. -/
abbrev Tx := List UInt8
def txt (s : ByteArray) : Tx := s.data.toList
theorem txt_inj {a b : ByteArray} (h : txt a = txt b) : a = b := ByteArray.ext (Array.toList_inj.1 h)
def MapOf (D : DataW Unit) (l : List Tx) : Prop := IsMap D ∧ ∀ t : Tx, D.atKey (.string t) (.lit (.int .i64 0)) = .lit (.int .i64 (l.count t)) ∧ Maps.has D (.string t) = decide (0 < l.count t)
theorem mapOf_nil : MapOf (.map []) [] := ⟨isMap_empty, fun t => ⟨by simp [DataW.atKey], by simp [Maps.has]⟩⟩
theorem mapOf_perm {D : DataW Unit} {l l' : List Tx} (h : MapOf D l) (hp : l.Perm l') : MapOf D l' := ⟨h.1, fun t => by rw [← hp.count_eq]; exact h.2 t⟩
theorem mapOf_put {D : DataW Unit} {l l' : List Tx} (h : MapOf D l) (t : Tx) (n : Nat) (hn : 0 < n) (hl : ∀ u, l'.count u = if u = t then n else l.count u) : MapOf (D.put (.string t) (.lit (.int .i64 n))) l' := by
  refine ⟨h.1.put _ _, fun u => ?_⟩
  by_cases e : u = t
  · subst e
    rw [atKey_put_same h.1 (show WideAt.IsKeyLit (.string u) from trivial), has_put_same h.1 (show WideAt.IsKeyLit (.string u) from trivial), hl u, if_pos rfl]
    exact ⟨rfl, by simp [hn]⟩
  · have hne : Lit.string u ≠ Lit.string t := fun h => e (by injection h)
    rw [atKey_put_other hne, has_put_other hne, hl u, if_neg e]
    exact h.2 u
theorem mapOf_del {D : DataW Unit} {l l' : List Tx} (h : MapOf D l) (t : Tx) (hl : ∀ u, l'.count u = if u = t then 0 else l.count u) : MapOf (D.del (.string t)) l' := by
  refine ⟨h.1.del _, fun u => ?_⟩
  by_cases e : u = t
  · subst e
    rw [atKey_del_same, has_del_same, hl u, if_pos rfl]
    exact ⟨rfl, by simp⟩
  · have hne : Lit.string u ≠ Lit.string t := fun h => e (by injection h)
    rw [atKey_del_other hne, has_del_other hne, hl u, if_neg e]
    exact h.2 u
theorem mapOf_at {D : DataW Unit} {l : List Tx} {t : Tx} {c : Int} (h : MapOf D l) (hc : D.atKey (.string t) (.lit (.int .i64 0)) = .lit (.int .i64 c)) : c = l.count t := by
  rw [(h.2 t).1] at hc
  injection hc with hc
  injection hc with _ hc
  exact hc.symm
theorem count_cons_if {l : List Tx} {t : Tx} (u : Tx) : (t :: l).count u = if u = t then l.count t + 1 else l.count u := by
  rw [List.count_cons]
  by_cases e : u = t
  · subst e; simp
  · rw [if_neg e]
    have : ¬ t = u := fun h => e h.symm
    simp [this]
theorem count_erase_if {l : List Tx} {t : Tx} (u : Tx) : (l.erase t).count u = if u = t then l.count t - 1 else l.count u := by
  by_cases e : u = t
  · subst e; rw [if_pos rfl, List.count_erase_self]
  · rw [if_neg e, List.count_erase_of_ne (by simpa using e)]
/-- Block b is a map that counts these texts. -/
def MapAt (w : World) (b n : Nat) (l : List Tx) : Prop := ∃ D, w.ownsMap Tryz.prog 9 (plainElem (H := Unit) Tryz.prog 2) b n D ∧ MapOf D l
theorem MapAt.lt {w : World} {b n : Nat} {l : List Tx} (h : MapAt w b n l) : b < w.heap.size := let ⟨_, h, _⟩ := h; h.lt
theorem MapAt.kept {w w' : World} {row : Option Nat} {b n : Nat} {l : List Tx} (h : MapAt w b n l) (hg : w.grownBy w' row) (hne : some b ≠ row) : MapAt w' b n l := let ⟨D, h1, h2⟩ := h; ⟨D, h1.kept hg hne, h2⟩
theorem MapAt.stay {w w' : World} {b n : Nat} {l : List Tx} (h : MapAt w b n l) (hb : Below w.heap.size w w') : MapAt w' b n l := h.kept (grown_below (r := none) hb) (by simp)
theorem MapAt.perm {w : World} {b n : Nat} {l l' : List Tx} (h : MapAt w b n l) (hp : l.Perm l') : MapAt w b n l' := let ⟨D, h1, h2⟩ := h; ⟨D, h1, mapOf_perm h2 hp⟩
theorem Tryz.strKeyed : Keyed Tryz.prog 9 := string_keyed Tryz.underlying9
theorem Tryz.zeroI64 (w : World) : (zeroValue 2).run Tryz.prog w = .ok (.int .i64 0) w := by kernel_rfl
end Go.Proofs.YtihpadabgfhegaaGreatDoor

/-
  Worlds that part in some blocks alone. Of no function.
-/
namespace Go.Proofs.YtihpadabgfhegaaGreatDoor
open Go.RowKit Go.Maps

/-- w' is w, but for the blocks of which p holds, and for what is new. -/
structure Chg (p : Nat → Prop) (w w' : World) : Prop where
  os : w'.os = w.os
  tape : w'.tape = w.tape
  output : w'.output = w.output
  size : w.heap.size ≤ w'.heap.size
  block : ∀ k, k < w.heap.size → ¬ p k → w'.heap[k]? = w.heap[k]?
theorem Chg.refl (p : Nat → Prop) (w : World) : Chg p w w := ⟨rfl, rfl, rfl, Nat.le_refl _, fun _ _ _ => rfl⟩
theorem Chg.trans {p : Nat → Prop} {w w1 w2 : World} (h : Chg p w w1) (k : Chg p w1 w2) : Chg p w w2 :=
  ⟨k.os.trans h.os, k.tape.trans h.tape, k.output.trans h.output, Nat.le_trans h.size k.size, fun i hi hp => (k.block i (Nat.lt_of_lt_of_le hi h.size) hp).trans (h.block i hi hp)⟩
theorem Chg.of_grown {p : Nat → Prop} {w w' : World} {b : Nat} (h : w.grownBy w' (some b)) (hb : p b) : Chg p w w' := ⟨h.os, h.tape, h.output, h.size, fun k hk hp => h.block k hk (fun e => by injection e with e; exact hp (e ▸ hb))⟩
theorem Chg.of_none {p : Nat → Prop} {w w' : World} (h : w.grownBy w' none) : Chg p w w' := ⟨h.os, h.tape, h.output, h.size, fun k hk _ => h.block k hk (by simp)⟩
theorem Chg.of_below {p : Nat → Prop} {w w' : World} (h : Below w.heap.size w w') : Chg p w w' := ⟨h.os, h.tape, h.output, h.size, fun k hk _ => h.block k hk⟩
theorem Chg.below {p : Nat → Prop} {w w' : World} {B : Nat} (h : Chg p w w') (hB : B ≤ w.heap.size) (hp : ∀ k, p k → B ≤ k) : Below B w w' := ⟨h.os, h.tape, h.output, h.size, fun k hk => h.block k (Nat.lt_of_lt_of_le hk hB) (fun h' => absurd (hp k h') (by omega))⟩
theorem Chg.mono {p q : Nat → Prop} {w w' : World} (h : Chg p w w') (hpq : ∀ k, p k → q k) : Chg q w w' := ⟨h.os, h.tape, h.output, h.size, fun k hk hq => h.block k hk (fun hp => hq (hpq k hp))⟩
theorem Chg.cell {p : Nat → Prop} {w w' : World} (h : Chg p w w') {g o : Nat} (hg : g < w.heap.size) (hp : ¬ p g) : w'.cell? ⟨g, o, none⟩ = w.cell? ⟨g, o, none⟩ := by
  unfold World.cell?; simp only []; rw [h.block g hg hp]
end Go.Proofs.YtihpadabgfhegaaGreatDoor
