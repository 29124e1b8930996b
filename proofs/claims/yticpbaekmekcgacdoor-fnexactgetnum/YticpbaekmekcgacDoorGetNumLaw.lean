/-
  The law FnExactGetNum: spec.GetNum and impl.GetNum answer the same at every text and place.
-/
import Derived.Test.YticpbaekmekcgacDoorGetNumI
import Derived.Test.YticpbaekmekcgacDoorEqNum
namespace Go.Proofs.YticpbaekmekcgacDoor
open Go.RowKit AsErr Get

set_option maxRecDepth 100000 in
theorem fnExactGetNum_two (s : ByteArray) (p n q c : Int) (w : World) (hg : w.cell? ⟨0, 0, none⟩ = some gErr)
    (c1 : ∀ w, Calls Tryd.prog 5 #[.string s, .int .i64 p] w fun e w' => e = .returned (.agg #[.int .i64 n, .int .i64 q, .int .i64 c]) ∧ Below w.heap.size w w')
    (c2 : ∀ w, w.cell? ⟨0, 0, none⟩ = some gErr → Calls Tryd.prog 6 #[.string s, .int .i64 p] w fun e w' => e = .returned (.agg #[.int .i64 n, .int .i64 q, .int .i64 c]) ∧ Below w.heap.size w w')
    (hb : (s.size : Int) ≤ 1048576) :
    Calls Tryd.prog 3 #[.string s, .int .i64 p] w fun e w' => e = .returned (.bool true) ∧ Below w.heap.size w w' := by
  have hlt := g_lt hg
  have HG := hid hg
  have HC2 := hid c2
  clear hg c2
  go_enter Tryd.func3, Tryd.ntmps3
  go_wp2_with fail
  refine (c1 _).mono ?_
  rintro e w1 ⟨rfl, hb1⟩
  have hz1 := hb1.size
  have hg1 : Hid (∀ o, (w1.alloc o).cell? ⟨0, 0, none⟩ = some gErr) := by
    show ∀ o, _
    intro o
    rw [World.cell?_alloc_lt _ _ ⟨0, 0, none⟩ (by show 0 < _; omega), hb1.cell (by show 0 < _; omega)]; exact HG.out
  go_wp2_with fail
  refine (HC2.out _ (hg1.out _)).mono ?_
  rintro e w2 ⟨rfl, hb2⟩
  obtain ⟨hc2, hf2⟩ := bcell hb2
  have hz2 := hb2.size
  simp at hc2 hf2 hz2
  have hc : ∀ o, w2.cell? ⟨w1.heap.size, o, none⟩ = (w1.alloc (.cells #[.int .i64 n, .int .i64 q, .int .i64 c] 23)).cell? ⟨w1.heap.size, o, none⟩ := fun o => by rw [hc2 _ _ (by omega)]
  have hbel : Below w.heap.size w w2 := (hb1.alloc hz1 _).trans (hb2.mono (by simp; omega))
  have hne : w1.heap.size < w2.heap.size := by omega
  clear hc2 hf2 hg1 HC2 HG hb2
  go_wp2_with fail
  refine (eqNumOut_same n q c _).mono ?_
  rintro e w3 ⟨rfl, hb3⟩
  have hbel2 : Below w.heap.size w w3 := (hbel.alloc hbel.size _).trans (hb3.mono (by have := hbel.size; simp; omega))
  clear hb3 hc
  go_wp2
  go_ret
  exact ⟨rfl, hbel2⟩
theorem fnExactGetNum_walk (s : ByteArray) (p : Int) (w : World) (_hs : s.size ≤ maxLen) (hp : (Lit.int .i64 p).wf = true) (hg : w.cell? ⟨0, 0, none⟩ = some gErr) :
    Calls Tryd.prog 3 #[.string s, .int .i64 p] w fun e w' => e = .returned (.bool true) ∧ Below w.heap.size w w' := by
  by_cases hb : (s.size : Int) ≤ 1048576
  · have hbd := bounds_i64 hp
    exact fnExactGetNum_two s p _ _ _ w hg (fun w => specGetNum_any s p w hbd.2) (fun w hg => implGetNum_any s p w hbd.2 hg) hb
  · clear hp
    go_enter Tryd.func3, Tryd.ntmps3
    go_wp2
    go_ret
    exact ⟨rfl, Below.refl _ _⟩
end Go.Proofs.YticpbaekmekcgacDoor
