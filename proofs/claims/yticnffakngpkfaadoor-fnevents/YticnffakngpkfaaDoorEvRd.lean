/-
  What impl.EventsRead answers, for every text: a contract over the seat's program.
-/
import Derived.Test.YticnffakngpkfaaDoorCurR
import Derived.Test.YticnffakngpkfaaDoorRdPut
import Derived.Test.YticnffakngpkfaaDoorEvBy
namespace Go.Proofs.YticnffakngpkfaaDoor
open Go.RowKit Get

/-- What is read of a text: the events, and the code. -/
def rdOut (t : ByteArray) : List Ev × Int :=
  if ¬ (t.size : Int) ≤ 8000 then ([], 2)
  else if (rowS t (some 0)).2 = none then ([], 3)
  else if evBy (rowS t (some 0)).1 = t then ((rowS t (some 0)).1, 0) else ([], 3)
theorem own_le {w : World} {base base' size n : Nat} {e : TypeId} {v : Value} {xs : List Value} (h : w.ownsRow base e size v n xs) (hb : base' ≤ base) : w.ownsRow base' e size v n xs :=
  ⟨h.1, h.2.elim Or.inl (fun ⟨g, cap, cur, hv, hg, r⟩ => Or.inr ⟨g, cap, cur, hv, Nat.le_trans hb hg, r⟩)⟩
theorem row_fit {t : ByteArray} {st : Option Nat} (ht : (t.size : Int) ≤ 8000) (hst : ∀ a, st = some a → a ≤ t.size) : Fit (rowS t st).1 ∧ 6 * (rowS t st).1.length ≤ 8006 := by
  have key : ∀ (k : Nat) (l : List Ev) (s : Option Nat), Run t (runS t k l s) k l s → Fit (runS t k l s).1 ∧ 6 * (runS t k l s).1.length ≤ 8006 := by
    intro k
    induction k with
    | zero => intro l s h; exact ⟨fun i hi => ⟨Nat.le_trans (h.fit i hi).1 (by unfold maxLen; omega), Nat.le_trans (h.fit i hi).2 (by unfold maxLen; omega)⟩, h.many⟩
    | succ k ih =>
      intro l s h
      cases s with
      | none => exact ⟨fun i hi => ⟨Nat.le_trans (h.fit i hi).1 (by unfold maxLen; omega), Nat.le_trans (h.fit i hi).2 (by unfold maxLen; omega)⟩, h.many⟩
      | some a => exact ih _ _ (h.step ht)
  refine key _ _ _ ⟨rfl, by simp, fun a ha => ?_, fun i hi => absurd hi (by simp)⟩
  cases st with
  | none => rw [numS_none] at ha; cases ha
  | some a0 => have := numS_le ht ha; simp; omega

theorem set2_grown {w w6 : World} {r : Option Nat} {g : Nat} (h : w.grownBy w6 r) (hg : w.heap.size ≤ g) (a b : Value) :
    w.grownBy ((w6.setCell ⟨g, 0, none⟩ a).setCell ⟨g, 1, none⟩ b) r := grown_put (grown_put h hg) hg
theorem below_grown {w w' : World} {b : Nat} (h : w.grownBy w' (some b)) (hb : w.heap.size ≤ b) : Below w.heap.size w w' :=
  ⟨h.os, h.tape, h.output, h.size, fun k hk => h.block k hk (by simp; omega)⟩

theorem own_set {w : World} {base size n g i : Nat} {e T : TypeId} {v : Value} {xs : List Value} {L : List Value} (h : w.ownsRow base e size v n xs) (hg : w.heap[g]? = some (.cells L.toArray T (0, 0))) (hT : T ≠ e) (u : Value) : (w.setCell ⟨g, i, none⟩ u).ownsRow base e size v n xs := by
  refine h.kept (row := some g) (grown_set w g i u) ?_
  rcases h.2 with ⟨rfl, _⟩ | ⟨g', cap, cur, rfl, _, hh, _⟩
  · exact .inl rfl
  · refine .inr ?_
    show some g' ≠ some g
    intro e
    have e' := Option.some.inj e
    subst e'
    rw [hh] at hg
    simp at hg
    exact hT hg.2.symm
set_option maxHeartbeats 1000000 in
set_option maxRecDepth 100000 in
theorem implEventsRead_in (t : ByteArray) (w : World) (ht : (t.size : Int) ≤ 8000) :
    Calls Tryd.prog 9 #[.string t] w fun e w' => ∃ v, e = .returned (.agg #[v, .int .i64 (rdOut t).2]) ∧ w'.ownsRow w.heap.size 32 6 v (rdOut t).1.length ((rdOut t).1.flatMap Ev.cells) ∧ Below w.heap.size w w' := by
  have c0 := fun w => tooLong_no ht w
  have hfit := row_fit (st := some 0) ht (fun a ha => by cases ha; omega)
  have d1 := hid (fun b w h => readRow_any b t (some 0) w ht h)
  obtain ⟨R, hR⟩ : ∃ R, rdOut t = R := ⟨_, rfl⟩
  have hR' := hR
  unfold rdOut at hR'
  rw [if_neg (by simpa using ht)] at hR'
  obtain ⟨⟨l, st⟩, hrow⟩ : ∃ x, rowS t (some 0) = x := ⟨_, rfl⟩
  rw [hrow] at hfit d1 hR'
  simp only at hfit d1 hR'
  rw [hR]
  have HFit := hid hfit.1
  have hlen := hfit.2
  have d2 := hid (fun v w h => implEventsBytes_any v l w h HFit.out (by unfold maxLen; omega))
  have HR := hid hR'
  clear hR hR' hrow hfit
  go_enter Tryd.func9, Tryd.ntmps9
  go_wp2_with fail
  refine (c0 _).mono ?_
  rintro e w1 ⟨rfl, rfl⟩
  clear c0
  go_wp2_with fail
  refine (d1.out (w.heap.size + 1) _ ⟨by omega, by simpa using heap_alloc_new (w.alloc (.cells #[.slice none 0 0, .int .i64 0] 28)) (.cells #[.string t, .int .i64 0, .nilIface] 49)⟩).mono ?_
  rintro e w2 ⟨v, rfl, hown, hcur, hgr⟩
  have hR0 : w2.heap[w.heap.size]? = some (.cells [.slice none 0 0, .int .i64 0].toArray 28 (0, 0)) := by
    rw [hgr.block w.heap.size (by simp; omega) (by simp), alloc_old (by simp)]
    exact heap_alloc_new w _
  have hbel : Below w.heap.size w w2 := by
    have := below_grown (w := w) (b := w.heap.size + 1) (grown_trans (grown_trans (World.grownBy_alloc w _ _) (World.grownBy_alloc _ _ _)) hgr) (by omega)
    exact this
  have hown' := own_le hown (base' := w.heap.size) (by simp; omega)
  obtain ⟨va, vc, rfl⟩ := own_forms hown
  clear hown hgr
  cases st with
  | none =>
    obtain ⟨a0, u, x, hb⟩ := hcur
    have e2 : w2.cell? ⟨w.heap.size + 1, 2, none⟩ = some (.iface u x) := by rw [Lib.cell_of_heap hb]; rfl
    have z0 : w2.cell? ⟨w.heap.size, 0, none⟩ = some (.slice none 0 0) := by rw [Lib.cell_of_heap hR0]; rfl
    have z1 : w2.cell? ⟨w.heap.size, 1, none⟩ = some (.int .i64 0) := by rw [Lib.cell_of_heap hR0]; rfl
    have zf : ∀ j, w2.frozen? ⟨w.heap.size, j, none⟩ = false := fun j => Lib.frozen_of_heap hR0 j
    have hRR : R = ([], 3) := by have := HR.out; rw [if_pos rfl] at this; exact this.symm
    subst hRR
    clear hb hR0 HR
    go_wp2
    refine bodyPost_ret (v := .agg #[.slice none 0 0, .int .i64 3]) (by simp [results, Tryd.results9, go_sem, z0, z1]) rfl ⟨_, rfl, World.ownsRow_nil _ _ _ _, ?_⟩
    exact (hbel.setCell (p := ⟨w.heap.size, 0, none⟩) (Nat.le_refl _) _).setCell (p := ⟨w.heap.size, 1, none⟩) (Nat.le_refl _) _
  | some a0 =>
    have hb := hcur.2
    have e2 : w2.cell? ⟨w.heap.size + 1, 2, none⟩ = some .nilIface := by rw [Lib.cell_of_heap hb]; rfl
    have HO := hid hown'
    have c3 := hid (d2.out _ w2 (sl_of_own hown'))
    have HR0 := hid hR0
    clear hb hcur hown' hR0 d2 d1
    by_cases hS : evBy l = t
    · have hRR : R = (l, 0) := by have := HR.out; rw [if_neg (by simp), if_pos hS] at this; exact this.symm
      subst hRR
      rw [hS] at c3
      clear hS HR
      go_wp2_with fail
      refine c3.out.mono ?_
      rintro e w3 ⟨rfl, hb3⟩
      have hR3 : w3.heap[w.heap.size]? = some (.cells [.slice none 0 0, .int .i64 0].toArray 28 (0, 0)) := by rw [hb3.block _ (lt_heap HR0.out)]; exact HR0.out
      have HO3 := hid (own_stay HO.out hb3)
      have hbel3 := hbel.trans (hb3.mono hbel.size)
      have z0 : w3.cell? ⟨w.heap.size, 0, none⟩ = some (.slice none 0 0) := by rw [Lib.cell_of_heap hR3]; rfl
      have z1 : w3.cell? ⟨w.heap.size, 1, none⟩ = some (.int .i64 0) := by rw [Lib.cell_of_heap hR3]; rfl
      have zf : ∀ j, w3.frozen? ⟨w.heap.size, j, none⟩ = false := fun j => Lib.frozen_of_heap hR3 j
      have HR3 := hid hR3
      clear hR3 hb3 e2 c3
      go_wp2
      refine bodyPost_ret (v := .agg #[.slice va l.length vc, .int .i64 0]) (by simp [results, Tryd.results9, go_sem, z0, z1]) rfl ⟨_, rfl, ?_, ?_⟩
      · exact own_set (own_set HO3.out HR3.out (by decide) _) (blk_set HR3.out _) (by decide) _
      · exact (hbel3.setCell (p := ⟨w.heap.size, 0, none⟩) (Nat.le_refl _) _).setCell (p := ⟨w.heap.size, 1, none⟩) (Nat.le_refl _) _
    · have hRR : R = ([], 3) := by have := HR.out; rw [if_neg (by simp), if_neg hS] at this; exact this.symm
      subst hRR
      have hne := str_ne hS
      generalize evBy l = S at *
      clear hS HR
      go_wp2_with fail
      refine c3.out.mono ?_
      rintro e w3 ⟨rfl, hb3⟩
      have hR3 : w3.heap[w.heap.size]? = some (.cells [.slice none 0 0, .int .i64 0].toArray 28 (0, 0)) := by rw [hb3.block _ (lt_heap HR0.out)]; exact HR0.out
      have hbel3 := hbel.trans (hb3.mono hbel.size)
      have z0 : w3.cell? ⟨w.heap.size, 0, none⟩ = some (.slice none 0 0) := by rw [Lib.cell_of_heap hR3]; rfl
      have z1 : w3.cell? ⟨w.heap.size, 1, none⟩ = some (.int .i64 0) := by rw [Lib.cell_of_heap hR3]; rfl
      have zf : ∀ j, w3.frozen? ⟨w.heap.size, j, none⟩ = false := fun j => Lib.frozen_of_heap hR3 j
      clear hR3 hb3 e2 c3
      go_wp2
      refine bodyPost_ret (v := .agg #[.slice none 0 0, .int .i64 3]) (by simp [results, Tryd.results9, go_sem, z0, z1]) rfl ⟨_, rfl, World.ownsRow_nil _ _ _ _, ?_⟩
      exact (hbel3.setCell (p := ⟨w.heap.size, 0, none⟩) (Nat.le_refl _) _).setCell (p := ⟨w.heap.size, 1, none⟩) (Nat.le_refl _) _
theorem implEventsRead_out (t : ByteArray) (w : World) (ht : ¬ (t.size : Int) ≤ 8000) :
    Calls Tryd.prog 9 #[.string t] w fun e w' => e = .returned (.agg #[.slice none 0 0, .int .i64 2]) ∧ Below w.heap.size w w' := by
  have c0 := fun w => tooLong_yes ht w
  go_enter Tryd.func9, Tryd.ntmps9
  go_wp2_with (go_at_call 23; refine (c0 _).mono ?_; rintro e w1 ⟨rfl, rfl⟩)
  exact bodyPost_ret (v := .agg #[.slice none 0 0, .int .i64 2]) (by simp [results, Tryd.results9, go_sem]) rfl ⟨rfl, (Below.refl _ _).alloc (Nat.le_refl _) _⟩
theorem implEventsRead_any (t : ByteArray) (w : World) :
    Calls Tryd.prog 9 #[.string t] w fun e w' => ∃ v, e = .returned (.agg #[v, .int .i64 (rdOut t).2]) ∧ w'.ownsRow w.heap.size 32 6 v (rdOut t).1.length ((rdOut t).1.flatMap Ev.cells) ∧ Below w.heap.size w w' := by
  by_cases ht : (t.size : Int) ≤ 8000
  · exact implEventsRead_in t w ht
  · rw [show rdOut t = ([], 2) by unfold rdOut; rw [if_pos ht]]
    refine (implEventsRead_out t w ht).mono ?_
    rintro e w' ⟨rfl, hb⟩
    exact ⟨_, rfl, World.ownsRow_nil _ _ _ _, hb⟩
end Go.Proofs.YticnffakngpkfaaDoor
