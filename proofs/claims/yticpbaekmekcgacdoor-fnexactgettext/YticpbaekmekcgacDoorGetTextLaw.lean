/-
  The law FnExactGetText: spec.GetText and impl.GetText answer the same at every text and place.
-/
import Derived.Test.YticpbaekmekcgacDoorGetTextI
import Derived.Test.YticpbaekmekcgacDoorEqText
namespace Go.Proofs.YticpbaekmekcgacDoor
open Go.RowKit AsErr Get

set_option maxRecDepth 100000 in
theorem fnExactGetText_two (s : ByteArray) (t : ByteArray) (p q c : Int) (w : World) (hg : w.cell? ⟨0, 0, none⟩ = some gErr)
    (c1 : ∀ w, Calls Tryd.prog 8 #[.string s, .int .i64 p] w fun e w' => e = .returned (.agg #[.string t, .int .i64 q, .int .i64 c]) ∧ Below w.heap.size w w')
    (c2 : ∀ w, w.cell? ⟨0, 0, none⟩ = some gErr → Calls Tryd.prog 9 #[.string s, .int .i64 p] w fun e w' => e = .returned (.agg #[.string t, .int .i64 q, .int .i64 c]) ∧ Below w.heap.size w w')
    (hb : (s.size : Int) ≤ 1048576) :
    Calls Tryd.prog 4 #[.string s, .int .i64 p] w fun e w' => e = .returned (.bool true) ∧ Below w.heap.size w w' := by
  have hlt := g_lt hg
  have HG := hid hg
  have HC2 := hid c2
  clear hg c2
  go_enter Tryd.func4, Tryd.ntmps4
  go_wp2_with fail
  refine (c1 _).mono ?_
  rintro e w1 ⟨rfl, hb1⟩
  have hz1 := hb1.size
  have hg1 : Hid (∀ o, (w1.alloc o).cell? ⟨0, 0, none⟩ = some gErr) := by
    show ∀ o, _
    intro o
    rw [World.cell?_alloc_lt _ _ ⟨0, 0, none⟩ (by show 0 < _; omega), hb1.cell (by show 0 < _; omega)]; exact HG.out
  go_wp2_with fail
  refine (HC2.out _ (hg1.out _)).mono ?_
  rintro e w2 ⟨rfl, hb2⟩
  obtain ⟨hc2, hf2⟩ := bcell hb2
  have hz2 := hb2.size
  simp at hc2 hf2 hz2
  have hc : ∀ o, w2.cell? ⟨w1.heap.size, o, none⟩ = (w1.alloc (.cells #[.string t, .int .i64 q, .int .i64 c] 28)).cell? ⟨w1.heap.size, o, none⟩ := fun o => by rw [hc2 _ _ (by omega)]
  have hbel : Below w.heap.size w w2 := (hb1.alloc hz1 _).trans (hb2.mono (by simp; omega))
  have hne : w1.heap.size < w2.heap.size := by omega
  clear hc2 hf2 hg1 HC2 HG hb2
  go_wp2_with fail
  refine (eqTextOut_same t q c _).mono ?_
  rintro e w3 ⟨rfl, hb3⟩
  have hbel2 : Below w.heap.size w w3 := (hbel.alloc hbel.size _).trans (hb3.mono (by have := hbel.size; simp; omega))
  clear hb3 hc
  go_wp2
  go_ret
  exact ⟨rfl, hbel2⟩
theorem fnExactGetText_walk (s : ByteArray) (p : Int) (w : World) (_hs : s.size ≤ maxLen) (hp : (Lit.int .i64 p).wf = true) (hg : w.cell? ⟨0, 0, none⟩ = some gErr) :
    Calls Tryd.prog 4 #[.string s, .int .i64 p] w fun e w' => e = .returned (.bool true) ∧ Below w.heap.size w w' := by
  by_cases hb : (s.size : Int) ≤ 1048576
  · have hbd := bounds_i64 hp
    have c1 := fun w => specGetNum_any s p w hbd.2
    have c2 := fun w => numAt_any s p w hbd.2
    by_cases h : (gnA s p).2.2 = 0
    · obtain ⟨hs, h3, h4⟩ := gnA_at h
      unfold numV at c1
      unfold rnV at c2
      rw [h] at c1 c2
      generalize (gnA s p).1 = n at *
      generalize (gnA s p).2.1 = q at *
      by_cases hn : n < 0 ∨ 8000 < n
      · exact fnExactGetText_two s _ p _ _ w hg (fun w => specGetText_bad s p n q 0 3 w c1 (.inr ⟨rfl, hn, rfl⟩)) (fun w hg => implGetText_code s p 3 w hg (fun w => textAt_syntax s p n q w c2 hn)) hb
      · by_cases h2 : (s.size : Int) - n < q
        · exact fnExactGetText_two s _ p _ _ w hg (fun w => specGetText_short s p n q w c1 hs (by omega) (by omega) h2) (fun w hg => implGetText_code s p 4 w hg (fun w => textAt_short s p n q w c2 hs (by omega) (by omega) (by omega) h3 h4)) hb
        · exact fnExactGetText_two s _ p _ _ w hg (fun w => specGetText_text s p n q w c1 hs (by omega) (by omega) (by omega) h3) (fun w _ => implGetText_text s p n q w (fun w => textAt_text s p n q w c2 hs (by omega) (by omega) (by omega) h3) hs (by omega) (by omega) h3) hb
    · obtain ⟨e1, e2⟩ := (gnA_code s p).resolve_left h
      unfold numV at c1
      unfold rnV at c2
      rw [if_neg h, e1, e2] at c2
      exact fnExactGetText_two s _ p _ _ w hg (fun w => specGetText_bad s p _ _ _ _ w c1 (.inl ⟨h, rfl⟩)) (fun w hg => implGetText_code s p _ w hg (fun w => textAt_code s p _ w c2)) hb
  · clear hp
    go_enter Tryd.func4, Tryd.ntmps4
    go_wp2
    go_ret
    exact ⟨rfl, Below.refl _ _⟩
end Go.Proofs.YticpbaekmekcgacDoor
