/-
  The law FnExactDeskWords: spec.DeskWords and impl.DeskWords answer the same words, impl's in memory of their own.
-/
import Derived.Test.YtmkpmiepakhgpaaDoorDwI
import Derived.Test.YtmkpmiepakhgpaaDoorStEq
import Derived.Test.YtmkpmiepakhgpaaDoorMkS
namespace Go.Proofs.YtmkpmiepakhgpaaDoor
open Go.RowKit Go.Sort

set_option maxRecDepth 100000 in
set_option maxHeartbeats 4000000 in
theorem fnExactDeskWords_walk (w : World) (hK : KNames w) :
    Calls Tryd.prog 3 #[] w fun e w' => e = .returned (.bool true) ∧ Below w.heap.size w w' := by
  have HK := hid hK
  clear hK
  have hD : Hid (dWords.length = 12) := rfl
  have c1 := hid (fun w => specDeskWords_any w)
  have c2 := hid (fun w hK => implDeskWords_any w hK)
  generalize dWords = D at *
  go_enter Tryd.func3, Tryd.ntmps3
  go_wp2_with fail
  refine (c1.out _).mono ?_
  rintro e w1 ⟨v1, rfl, hs1, hb1⟩
  obtain ⟨a1, cp1, hf1⟩ := hs1.form
  rw [hD.out] at hf1
  subst hf1
  have HK1 := hid (HK.out.below hb1 (Nat.le_refl _))
  have HS1 := hid hs1
  have HB0 := hid hb1
  clear hs1 hb1
  go_wp2_with fail
  refine (c2.out _ HK1.out).mono ?_
  rintro e w2 ⟨v2, rfl, ho2, hb2⟩
  have HS12 := hid (HS1.out.stay hb2 (Nat.le_refl _))
  obtain ⟨a2, cp2, rfl⟩ := ownB_form ho2
  have HO2 := hid ho2
  have HK2 := hid (HK1.out.below hb2 (Nat.le_refl _))
  have HB2 := hid hb2
  clear ho2 hb2
  go_wp2_with fail
  refine (eqStringS_any _ _ D _ (str_of_own HO2.out) HS12.out (by rw [hD.out]; unfold maxLen; omega)).mono ?_
  rintro e w3 ⟨rfl, hb3⟩
  have HO3 := hid (ownB_stay HO2.out hb3)
  have HB3 := hid (HB2.out.trans (hb3.mono HB2.out.size))
  clear hb3
  have c4 := markStringS_own _ 12 _ 1 _ w3 HO3.out (by decide) (by decide)
  rw [show ((1 : Int) + ((12 : Nat) : Int)) = 13 from rfl] at c4
  have C4 := hid c4
  clear c4
  go_wp2_with fail
  refine C4.out.mono ?_
  rintro e w4 ⟨rfl, ho4, hg4⟩
  have HB4 := hid (HB3.out.grown hg4 HB3.out.size (fun j e => (HO3.out.lt j e).1))
  have c5 := heldStringS_own _ 12 _ 1 w4 ho4 (by decide) (by decide)
  rw [show ((1 : Int) + ((12 : Nat) : Int)) = 13 from rfl] at c5
  have HO4 := hid ho4
  have C5 := hid c5
  clear c5 ho4 hg4
  go_wp2_with fail
  refine C5.out.mono ?_
  rintro e w5 ⟨rfl, hb5⟩
  have HO5 := hid (ownB_stay HO4.out hb5)
  have HB5 := hid (HB4.out.trans (hb5.mono HB4.out.size))
  have HK5 := hid (HK1.out.below HB5.out (Nat.le_refl _))
  clear hb5
  go_wp2_with fail
  refine (c2.out _ HK5.out).mono ?_
  rintro e w6 ⟨v6, rfl, ho6, hb6⟩
  obtain ⟨a6, cp6, rfl⟩ := ownB_form ho6
  have HB6 := hid (HB5.out.trans (hb6.mono HB5.out.size))
  have HS6 := hid (HS1.out.stay HB6.out (Nat.le_refl _))
  have HO6 := hid (ownB_stay HO5.out hb6)
  have HP6 := hid ho6
  clear ho6 hb6
  go_wp2_with fail
  refine (eqStringS_any _ _ D _ (str_of_own HP6.out) HS6.out (by rw [hD.out]; unfold maxLen; omega)).mono ?_
  rintro e w7 ⟨rfl, hb7⟩
  have HO7 := hid (ownB_stay HO6.out hb7)
  have HB7 := hid (HB6.out.trans (hb7.mono HB6.out.size))
  clear hb7
  have c8 := heldStringS_own _ 12 _ 1 w7 HO7.out (by decide) (by decide)
  rw [show ((1 : Int) + ((12 : Nat) : Int)) = 13 from rfl] at c8
  have C8 := hid c8
  clear c8
  go_wp2_with fail
  refine C8.out.mono ?_
  rintro e w8 ⟨rfl, hb8⟩
  have HB8 := hid (HB7.out.trans (hb8.mono HB7.out.size))
  clear hb8
  go_wp2
  go_ret
  exact ⟨rfl, HB0.out.trans (HB8.out.mono HB0.out.size)⟩
end Go.Proofs.YtmkpmiepakhgpaaDoor
