/-
  What spec.EventsRead answers, for every text: a contract over the seat's program; and that impl.EventsRead answers the same.
-/
import Derived.Test.YticnffakngpkfaaDoorRdrE
import Derived.Test.YticnffakngpkfaaDoorEvRd
namespace Go.Proofs.YticnffakngpkfaaDoor
open Go.RowKit Get

/-- What the specification reads of a text: the events, and the code. -/
def spOut (t : ByteArray) : List Ev × Int :=
  if ¬ (t.size : Int) ≤ 8000 then ([], 2)
  else if (rowT t).2 = some t.size ∧ allB (rowT t).1 = true ∧ (rowT t).1.length ≤ 200 then ((rowT t).1, 0) else ([], 3)

theorem rowT_neg {t : ByteArray} (hn : (numS t (some 0)).1 < 0) : rowT t = ([], none) := by
  unfold rowT
  rw [if_pos hn, runS_none]
theorem rowT_pos {t : ByteArray} (hn : ¬ (numS t (some 0)).1 < 0) : rowT t = rowS t (some 0) := by
  unfold rowT rowS
  rw [if_neg hn]
theorem spOut_yes {t : ByteArray} (ht : (t.size : Int) ≤ 8000) (h : (rowT t).2 = some t.size ∧ allB (rowT t).1 = true ∧ (rowT t).1.length ≤ 200) : spOut t = ((rowT t).1, 0) := by
  unfold spOut; rw [if_neg (fun x => x ht), if_pos h]
theorem spOut_no {t : ByteArray} (ht : (t.size : Int) ≤ 8000) (h : ¬ ((rowT t).2 = some t.size ∧ allB (rowT t).1 = true ∧ (rowT t).1.length ≤ 200)) : spOut t = ([], 3) := by
  unfold spOut; rw [if_neg (fun x => x ht), if_neg h]
theorem rdOut_yes {t : ByteArray} (ht : (t.size : Int) ≤ 8000) (h1 : ¬ (rowS t (some 0)).2 = none) (h : evBy (rowS t (some 0)).1 = t) : rdOut t = ((rowS t (some 0)).1, 0) := by
  unfold rdOut; rw [if_neg (fun x => x ht), if_neg h1, if_pos h]
theorem rdOut_no {t : ByteArray} (ht : (t.size : Int) ≤ 8000) (h : ¬ evBy (rowS t (some 0)).1 = t) : rdOut t = ([], 3) := by
  unfold rdOut
  rw [if_neg (fun x => x ht)]
  by_cases h1 : (rowS t (some 0)).2 = none
  · rw [if_pos h1]
  · rw [if_neg h1, if_neg h]
theorem rdOut_none {t : ByteArray} (ht : (t.size : Int) ≤ 8000) (h : (rowS t (some 0)).2 = none) : rdOut t = ([], 3) := by
  unfold rdOut; rw [if_neg (fun x => x ht), if_pos h]
theorem ev_none : evBy [] = ⟨#[0]⟩ := by decide
theorem num_none : (numS ⟨#[0]⟩ (some 0)).1 = 0 := by decide
theorem out_same (t : ByteArray) : rdOut t = spOut t := by
  by_cases ht : (t.size : Int) ≤ 8000
  · by_cases hn : (numS t (some 0)).1 < 0
    · rw [spOut_no ht (by rw [rowT_neg hn]; simp), rdOut_no ht]
      rw [rowS_neg hn]
      intro he
      have he' : (⟨#[0]⟩ : ByteArray) = t := ev_none.symm.trans he
      rw [← he', num_none] at hn
      omega
    · have hrT := rowT_pos hn
      obtain ⟨⟨l, st⟩, hrow⟩ : ∃ x, rowS t (some 0) = x := ⟨_, rfl⟩
      rw [hrow] at hrT
      cases st with
      | none => rw [rdOut_none ht (by rw [hrow]), spOut_no ht (by rw [hrT]; simp)]
      | some a =>
        obtain ⟨hseg, ha1, ha2⟩ := rowS_seg ht hrow (by omega)
        have hsz : (layL l).size = a := by
          have := congrArg List.length hseg
          simp [seg] at this
          omega
        by_cases hA : allB l = true ∧ l.length ≤ 200
        · have hev := evBy_yes hA.1 hA.2 (by omega)
          by_cases he : a = t.size
          · subst he
            have hlt : layL l = t := by
              apply ByteArray.ext
              apply Array.toList_inj.1
              rw [hseg, seg_all]
            rw [rdOut_yes ht (by rw [hrow]; simp) (by rw [hrow]; exact hev.trans hlt), spOut_yes ht (by rw [hrT]; exact ⟨rfl, hA.1, hA.2⟩), hrow, hrT]
          · rw [rdOut_no ht, spOut_no ht (by rw [hrT]; exact fun x => he (Option.some.inj x.1))]
            rw [hrow]
            intro h
            have : layL l = t := hev.symm.trans h
            rw [this] at hsz
            omega
        · rw [rdOut_no ht, spOut_no ht (by rw [hrT]; exact fun x => hA x.2)]
          rw [hrow]
          intro h
          have h' : (⟨#[]⟩ : ByteArray) = t := (evBy_no (fun x => hA ⟨x.1, x.2.1⟩)).symm.trans h
          rw [← h'] at ha2
          have : (⟨#[]⟩ : ByteArray).size = 0 := rfl
          omega
  · unfold rdOut spOut
    rw [if_pos ht, if_pos ht]

/-- Beside a code stands no list. -/
def ErrNone (c : Int) (v : Value) : Prop := c = 0 ∨ v = .slice none 0 0

set_option maxHeartbeats 1000000 in
set_option maxRecDepth 100000 in
theorem specEventsRead_in (t : ByteArray) (w : World) (ht : (t.size : Int) ≤ 8000) :
    Calls Tryd.prog 17 #[.string t] w fun e w' => ∃ v, e = .returned (.agg #[v, .int .i64 (spOut t).2]) ∧ ErrNone (spOut t).2 v ∧ w'.ownsRow w.heap.size 32 6 v (spOut t).1.length ((spOut t).1.flatMap Ev.cells) ∧ Below w.heap.size w w' := by
  have hfit : Fit (rowT t).1 ∧ 6 * (rowT t).1.length ≤ 8006 := by
    by_cases hn : (numS t (some 0)).1 < 0
    · rw [rowT_neg hn]; exact ⟨fun i hi => absurd hi (by simp), by simp⟩
    · rw [rowT_pos hn]; exact row_fit (st := some 0) ht (fun a ha => by cases ha; omega)
  have d1 := hid (fun b w h => events_any b t w ht h)
  obtain ⟨R, hR⟩ : ∃ R, spOut t = R := ⟨_, rfl⟩
  have hR' := hR
  unfold spOut at hR'
  rw [if_neg (by simpa using ht)] at hR'
  obtain ⟨⟨l, st⟩, hrow⟩ : ∃ x, rowT t = x := ⟨_, rfl⟩
  rw [hrow] at hfit d1 hR'
  simp only at hfit d1 hR'
  rw [hR]
  have HFit := hid hfit.1
  have hlen := hfit.2
  have d2 := hid (fun v w h => l02All_any v l w h HFit.out (by unfold maxLen; omega))
  have HR := hid hR'
  clear hR hR' hrow hfit
  go_enter Tryd.func17, Tryd.ntmps17
  go_wp2_with fail
  refine (d1.out (w.heap.size + 1) _ ⟨by omega, by simpa using heap_alloc_new (w.alloc (.cells #[.slice none 0 0, .int .i64 0] 28)) (.cells #[.string t, .int .i64 0, .bool false] 63)⟩).mono ?_
  rintro e w2 ⟨v, rfl, hown, hcur, hgr⟩
  have hR0 : w2.heap[w.heap.size]? = some (.cells [.slice none 0 0, .int .i64 0].toArray 28 (0, 0)) := by
    rw [hgr.block w.heap.size (by simp; omega) (by simp), alloc_old (by simp)]
    exact heap_alloc_new w _
  have hbel : Below w.heap.size w w2 := by
    have := below_grown (w := w) (b := w.heap.size + 1) (grown_trans (grown_trans (World.grownBy_alloc w _ _) (World.grownBy_alloc _ _ _)) hgr) (by omega)
    exact this
  have hown' := own_le hown (base' := w.heap.size) (by simp; omega)
  obtain ⟨va, vc, rfl⟩ := own_forms hown
  have z0 : w2.cell? ⟨w.heap.size, 0, none⟩ = some (.slice none 0 0) := by rw [Lib.cell_of_heap hR0]; rfl
  have z1 : w2.cell? ⟨w.heap.size, 1, none⟩ = some (.int .i64 0) := by rw [Lib.cell_of_heap hR0]; rfl
  have zf : ∀ j, w2.frozen? ⟨w.heap.size, j, none⟩ = false := fun j => Lib.frozen_of_heap hR0 j
  clear hown hgr
  cases st with
  | none =>
    obtain ⟨a0, _, hb⟩ := hcur
    have e2 : w2.cell? ⟨w.heap.size + 1, 2, none⟩ = some (.bool true) := by rw [Lib.cell_of_heap hb]; rfl
    have hRR : R = ([], 3) := by have := HR.out; rw [if_neg (by simp)] at this; exact this.symm
    subst hRR
    clear hb hR0 HR
    go_wp2
    refine bodyPost_ret (v := .agg #[.slice none 0 0, .int .i64 3]) (by simp [results, Tryd.results17, go_sem, z0, z1]) rfl ⟨_, rfl, Or.inr rfl, World.ownsRow_nil _ _ _ _, ?_⟩
    exact (hbel.setCell (p := ⟨w.heap.size, 0, none⟩) (Nat.le_refl _) _).setCell (p := ⟨w.heap.size, 1, none⟩) (Nat.le_refl _) _
  | some a0 =>
    have hb := hcur.2
    have e1 : w2.cell? ⟨w.heap.size + 1, 1, none⟩ = some (.int .i64 (a0 : Int)) := by rw [Lib.cell_of_heap hb]; rfl
    have e2 : w2.cell? ⟨w.heap.size + 1, 2, none⟩ = some (.bool false) := by rw [Lib.cell_of_heap hb]; rfl
    have HO := hid hown'
    have c3 := hid (d2.out _ w2 (sl_of_own hown'))
    have HR0 := hid hR0
    clear hb hcur hown' hR0 d2 d1
    by_cases he : a0 = t.size
    · have hne : ((a0 : Int) != (t.size : Int)) = false := by simp [he]
      by_cases hA : allB l = true ∧ l.length ≤ 200
      · have hRR : R = (l, 0) := by have := HR.out; rw [if_pos ⟨by rw [he], hA.1, hA.2⟩] at this; exact this.symm
        subst hRR
        rw [hA.1, show decide ((l.length : Int) ≤ 200) = true by simp; omega, Bool.and_true] at c3
        clear hA HR he z0 z1 zf
        go_wp2_with fail
        refine c3.out.mono ?_
        rintro e w3 ⟨rfl, hb3⟩
        have hR3 : w3.heap[w.heap.size]? = some (.cells [.slice none 0 0, .int .i64 0].toArray 28 (0, 0)) := by rw [hb3.block _ (lt_heap HR0.out)]; exact HR0.out
        have HO3 := hid (own_stay HO.out hb3)
        have hbel3 := hbel.trans (hb3.mono hbel.size)
        have z0 : w3.cell? ⟨w.heap.size, 0, none⟩ = some (.slice none 0 0) := by rw [Lib.cell_of_heap hR3]; rfl
        have z1 : w3.cell? ⟨w.heap.size, 1, none⟩ = some (.int .i64 0) := by rw [Lib.cell_of_heap hR3]; rfl
        have zf : ∀ j, w3.frozen? ⟨w.heap.size, j, none⟩ = false := fun j => Lib.frozen_of_heap hR3 j
        have HR3 := hid hR3
        clear hR3 hb3 e1 e2 c3
        go_wp2
        refine bodyPost_ret (v := .agg #[.slice va l.length vc, .int .i64 0]) (by simp [results, Tryd.results17, go_sem, z0, z1]) rfl ⟨_, rfl, Or.inl rfl, ?_, ?_⟩
        · exact own_set (own_set HO3.out HR3.out (by decide) _) (blk_set HR3.out _) (by decide) _
        · exact (hbel3.setCell (p := ⟨w.heap.size, 0, none⟩) (Nat.le_refl _) _).setCell (p := ⟨w.heap.size, 1, none⟩) (Nat.le_refl _) _
      · have hRR : R = ([], 3) := by have := HR.out; rw [if_neg (fun x => hA x.2)] at this; exact this.symm
        subst hRR
        rw [show (allB l && decide ((l.length : Int) ≤ 200)) = false by
          rw [Bool.and_eq_false_iff]
          by_cases h : allB l = true
          · right; simp; have : ¬ l.length ≤ 200 := fun h2 => hA ⟨h, h2⟩; omega
          · left; simpa using h] at c3
        clear hA HR he z0 z1 zf
        go_wp2_with fail
        refine c3.out.mono ?_
        rintro e w3 ⟨rfl, hb3⟩
        have hR3 : w3.heap[w.heap.size]? = some (.cells [.slice none 0 0, .int .i64 0].toArray 28 (0, 0)) := by rw [hb3.block _ (lt_heap HR0.out)]; exact HR0.out
        have hbel3 := hbel.trans (hb3.mono hbel.size)
        have z0 : w3.cell? ⟨w.heap.size, 0, none⟩ = some (.slice none 0 0) := by rw [Lib.cell_of_heap hR3]; rfl
        have z1 : w3.cell? ⟨w.heap.size, 1, none⟩ = some (.int .i64 0) := by rw [Lib.cell_of_heap hR3]; rfl
        have zf : ∀ j, w3.frozen? ⟨w.heap.size, j, none⟩ = false := fun j => Lib.frozen_of_heap hR3 j
        clear hR3 hb3 e1 e2 c3
        go_wp2
        refine bodyPost_ret (v := .agg #[.slice none 0 0, .int .i64 3]) (by simp [results, Tryd.results17, go_sem, z0, z1]) rfl ⟨_, rfl, Or.inr rfl, World.ownsRow_nil _ _ _ _, ?_⟩
        exact (hbel3.setCell (p := ⟨w.heap.size, 0, none⟩) (Nat.le_refl _) _).setCell (p := ⟨w.heap.size, 1, none⟩) (Nat.le_refl _) _
    · have hne : ((a0 : Int) != (t.size : Int)) = true := by rw [bne_iff_ne]; omega
      have hRR : R = ([], 3) := by have := HR.out; rw [if_neg (fun x => he (Option.some.inj x.1))] at this; exact this.symm
      subst hRR
      clear HR he c3
      go_wp2
      refine bodyPost_ret (v := .agg #[.slice none 0 0, .int .i64 3]) (by simp [results, Tryd.results17, go_sem, z0, z1]) rfl ⟨_, rfl, Or.inr rfl, World.ownsRow_nil _ _ _ _, ?_⟩
      exact (hbel.setCell (p := ⟨w.heap.size, 0, none⟩) (Nat.le_refl _) _).setCell (p := ⟨w.heap.size, 1, none⟩) (Nat.le_refl _) _
theorem specEventsRead_out (t : ByteArray) (w : World) (ht : ¬ (t.size : Int) ≤ 8000) :
    Calls Tryd.prog 17 #[.string t] w fun e w' => e = .returned (.agg #[.slice none 0 0, .int .i64 2]) ∧ Below w.heap.size w w' := by
  go_enter Tryd.func17, Tryd.ntmps17
  go_wp2
  exact bodyPost_ret (v := .agg #[.slice none 0 0, .int .i64 2]) (by simp [results, Tryd.results17, go_sem]) rfl ⟨rfl, (Below.refl _ _).alloc (Nat.le_refl _) _⟩
theorem specEventsRead_all (t : ByteArray) (w : World) :
    Calls Tryd.prog 17 #[.string t] w fun e w' => ∃ v, e = .returned (.agg #[v, .int .i64 (rdOut t).2]) ∧ ErrNone (rdOut t).2 v ∧ w'.ownsRow w.heap.size 32 6 v (rdOut t).1.length ((rdOut t).1.flatMap Ev.cells) ∧ Below w.heap.size w w' := by
  by_cases ht : (t.size : Int) ≤ 8000
  · rw [out_same]; exact specEventsRead_in t w ht
  · rw [show rdOut t = ([], 2) by unfold rdOut; rw [if_pos ht]]
    refine (specEventsRead_out t w ht).mono ?_
    rintro e w' ⟨rfl, hb⟩
    exact ⟨_, rfl, Or.inr rfl, World.ownsRow_nil _ _ _ _, hb⟩
theorem specEventsRead_any (t : ByteArray) (w : World) :
    Calls Tryd.prog 17 #[.string t] w fun e w' => ∃ v, e = .returned (.agg #[v, .int .i64 (rdOut t).2]) ∧ w'.ownsRow w.heap.size 32 6 v (rdOut t).1.length ((rdOut t).1.flatMap Ev.cells) ∧ Below w.heap.size w w' :=
  (specEventsRead_all t w).mono fun _ _ ⟨v, he, _, ho, hb⟩ => ⟨v, he, ho, hb⟩
end Go.Proofs.YticnffakngpkfaaDoor
