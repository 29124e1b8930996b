/-
  The law FnExactUnseal: spec.Unseal and impl.Unseal answer the same at every text.
-/
import Derived.Test.YticpbaekmekcgadDoorUnsealI
import Derived.Test.YticpbaekmekcgadDoorEqText
namespace Go.Proofs.YticpbaekmekcgadDoor
open Go.RowKit Crc Join Seal AsErr Unseal

set_option maxRecDepth 100000 in
theorem fnExactUnseal_two (s t : ByteArray) (c : Int) (w : World) (hg : w.cell? ⟨0, 0, none⟩ = some gErr)
    (c1 : ∀ w, Calls Tryd.prog 4 #[.string s] w fun e w' => e = .returned (.agg #[.string t, .int .i64 0, .int .i64 c]) ∧ Below w.heap.size w w')
    (c2 : ∀ w, w.cell? ⟨0, 0, none⟩ = some gErr → Calls Tryd.prog 5 #[.string s] w fun e w' => e = .returned (.agg #[.string t, .int .i64 0, .int .i64 c]) ∧ Below w.heap.size w w')
    (hb : (s.size : Int) ≤ 1048576) :
    Calls Tryd.prog 3 #[.string s] w fun e w' => e = .returned (.bool true) ∧ Below w.heap.size w w' := by
  have hlt := g_lt hg
  have HG := hid hg
  have HC2 := hid c2
  clear hg c2
  go_enter Tryd.func3, Tryd.ntmps3
  go_wp2_with fail
  refine (c1 _).mono ?_
  rintro e w1 ⟨rfl, hb1⟩
  have hz1 := hb1.size
  have hg1 : Hid (∀ o, (w1.alloc o).cell? ⟨0, 0, none⟩ = some gErr) := by
    show ∀ o, _
    intro o
    rw [World.cell?_alloc_lt _ _ ⟨0, 0, none⟩ (by show 0 < _; omega), hb1.cell (by show 0 < _; omega)]; exact HG.out
  go_wp2_with fail
  refine (HC2.out _ (hg1.out _)).mono ?_
  rintro e w2 ⟨rfl, hb2⟩
  obtain ⟨hc2, hf2⟩ := bcell hb2
  have hz2 := hb2.size
  simp at hc2 hf2 hz2
  have hc : ∀ o, w2.cell? ⟨w1.heap.size, o, none⟩ = (w1.alloc (.cells #[.string t, .int .i64 0, .int .i64 c] 23)).cell? ⟨w1.heap.size, o, none⟩ := fun o => by rw [hc2 _ _ (by omega)]
  have hbel : Below w.heap.size w w2 := (hb1.alloc hz1 _).trans (hb2.mono (by simp; omega))
  have hne : w1.heap.size < w2.heap.size := by omega
  clear hc2 hf2 hg1 HC2 HG hb2
  go_wp2_with fail
  refine (eqTextOut_same t 0 c _).mono ?_
  rintro e w3 ⟨rfl, hb3⟩
  have hz3 := hb3.size
  have hbel2 : Below w.heap.size w w3 := (hbel.alloc hbel.size _).trans (hb3.mono (by have := hbel.size; simp; omega))
  clear hb3 hc
  go_wp2
  go_ret
  exact ⟨rfl, hbel2⟩
theorem fnExactUnseal_walk (s : ByteArray) (w : World) (_hs : s.size ≤ maxLen) (hg : w.cell? ⟨0, 0, none⟩ = some gErr) :
    Calls Tryd.prog 3 #[.string s] w fun e w' => e = .returned (.bool true) ∧ Below w.heap.size w w' := by
  by_cases hb : (s.size : Int) ≤ 1048576
  · by_cases h1 : (s.size : Int) ≤ 8000
    · by_cases h2 : 4 ≤ (s.size : Int)
      · by_cases h : strOfNums (four (crcL 0 (innerS s).data.toList)) = tailS s
        · exact fnExactUnseal_two s _ 0 w hg (fun w => specUnseal_yes s w h1 h2 h) (fun w _ => implUnseal_text s _ w (fun w => unsealed_yes s w h1 h2 h)) hb
        · exact fnExactUnseal_two s _ 5 w hg (fun w => specUnseal_sum s w h1 h2 h) (fun w hg => implUnseal_code s 5 w hg (fun w => unsealed_sum s w h1 h2 h)) hb
      · exact fnExactUnseal_two s _ 4 w hg (fun w => specUnseal_short s w h2) (fun w hg => implUnseal_code s 4 w hg (fun w => unsealed_short s w h2)) hb
    · exact fnExactUnseal_two s _ 2 w hg (fun w => specUnseal_size s w h1) (fun w hg => implUnseal_code s 2 w hg (fun w => unsealed_size s w h1)) hb
  · go_enter Tryd.func3, Tryd.ntmps3
    go_wp2
    go_ret
    exact ⟨rfl, Below.refl _ _⟩
end Go.Proofs.YticpbaekmekcgadDoor
