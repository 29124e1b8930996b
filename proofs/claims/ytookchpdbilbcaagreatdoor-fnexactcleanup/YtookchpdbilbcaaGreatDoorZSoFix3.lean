/-
 Texts put together: SoFix, EvLz, SvSz.
-/
import Derived.Test.YtookchpdbilbcaaGreatDoorZImWk2
import Derived.Test.YtookchpdbilbcaaGreatDoorZHdE4
import Derived.Test.YtookchpdbilbcaaGreatDoorZEvI8
import Derived.Test.YtookchpdbilbcaaGreatDoorZTkM5
import Derived.Test.YtookchpdbilbcaaGreatDoorZDfLaw5
import Derived.Test.YtookchpdbilbcaaGreatDoorZSpOf
set_option maxRecDepth 100000
set_option maxHeartbeats 4000000
/-
 What is told of a ServiceOut, its lists named; Services in blocks. Of no function.
-/
namespace Go.Proofs.YtookchpdbilbcaaGreatDoor
open Go.RowKit Go.Sort
def reS (R : Int × Nat × List Ev × Int) (ss : List ByteArray) : List ByteArray := if R.1 = 0 then ss else []
def reF (R : Int × Nat × List Ev × Int) (fs : List Pr) : List Pr := if R.1 = 0 then fs else []
theorem reS_len (R : Int × Nat × List Ev × Int) (ss : List ByteArray) : (reS R ss).length ≤ ss.length := by
 unfold reS; by_cases h : R.1 = 0
 ·rw [if_pos h]
  exact Nat.le_refl _
 ·rw [if_neg h]; simp
theorem reF_len (R : Int × Nat × List Ev × Int) (fs : List Pr) : (reF R fs).length ≤ fs.length := by
 unfold reF; by_cases h : R.1 = 0
 ·rw [if_pos h]
  exact Nat.le_refl _
 ·rw [if_neg h]; simp
theorem ImPost.fix {w : World} {ss : List ByteArray} {fs : List Pr} {R : Int × Nat × List Ev × Int} {x : Ending} {w' : World} (h : ImPost w ss fs R x w') :
  ∃ b1 b2 b6 c1 c2 c6, x = .returned (.agg #[.slice b1 (reS R ss).length c1, .slice b2 (reF R fs).length c2, .slice b6 R.2.2.1.length c6, .int .i64 R.2.2.2, .int .i64 (R.2.1 : Int), .int .i64 R.1]) ∧ SvL w' w.heap.size b1 b2 b6 c1 c2 c6 (reS R ss) (reF R fs) R.2.2.1 ∧ Below w.heap.size w w' := by
 obtain ⟨S, F, b1, b2, b6, c1, c2, c6, h1, h2, h3, h4, h5⟩ := h
 have hs : S = reS R ss ∧ F = reF R fs := by
  unfold reS reF
  by_cases hc : R.1 = 0
  ·rw [if_pos hc, if_pos hc]; exact h1 hc
  ·rw [if_neg hc, if_neg hc]; exact h2 hc
 obtain ⟨rfl, rfl⟩ := hs
 exact ⟨b1, b2, b6, c1, c2, c6, h3, h4, h5⟩
theorem SvL.stay {w w' : World} {lo : Nat} {b1 b2 b6 : Option Addr} {c1 c2 c6 : Nat} {ss : List ByteArray} {fs : List Pr} {es : List Ev} (h : SvL w lo b1 b2 b6 c1 c2 c6 ss fs es) (hb : Below w.heap.size w w') : SvL w' lo b1 b2 b6 c1 c2 c6 ss fs es := ⟨h.d.stay hb, h.e.stay hb⟩
theorem SvL.lt {w : World} {lo : Nat} {b1 b2 b6 : Option Addr} {c1 c2 c6 : Nat} {ss : List ByteArray} {fs : List Pr} {es : List Ev} (h : SvL w lo b1 b2 b6 c1 c2 c6 ss fs es) (j : Nat) (hj : SvB (.slice b1 ss.length c1) (.slice b2 fs.length c2) (.slice b6 es.length c6) es.length j) : lo ≤ j ∧ j < w.heap.size := by
 rcases hj with hj | hj | ⟨h0, hj⟩
 ·exact h.d.o1.lt j hj
 ·exact h.d.o2.lt j hj
 ·obtain ⟨g, cap, L, e1, e2, e3, _⟩ := h.e.2.2 h0
  rw [e1] at hj
  injection hj with hj
  subst hj
  exact ⟨e2, ZAA e3⟩
theorem SvL.ne {w : World} {lo B : Nat} {b1 b2 b6 : Option Addr} {c1 c2 c6 : Nat} {ss : List ByteArray} {fs : List Pr} {es : List Ev} {c : Array Value} {t : TypeId} {f : Nat × Nat} (h : SvL w lo b1 b2 b6 c1 c2 c6 ss fs es) (hB : w.heap[B]? = some (.cells c t f)) (ht : 9 ≠ t ∧ 107 ≠ t ∧ 57 ≠ t) : ¬ SvB (.slice b1 ss.length c1) (.slice b2 fs.length c2) (.slice b6 es.length c6) es.length B := fun hj => by
 rcases hj with hj | hj | ⟨h0, hj⟩
 ·exact ZAL h.d.o1 hB ht.1 _ hj rfl
 ·exact ZAL h.d.o2 hB ht.2.1 _ hj rfl
 ·obtain ⟨g, cap, L, e1, e2, e3, _⟩ := h.e.2.2 h0
  rw [e1] at hj
  injection hj with hj
  subst hj
  rw [hB] at e3
  injection e3 with e3
  injection e3 with _ e3 _
  exact ht.2.2 e3.symm
theorem SvL.chg {p : Nat → Prop} {w w' : World} {lo : Nat} {b1 b2 b6 : Option Addr} {c1 c2 c6 : Nat} {ss : List ByteArray} {fs : List Pr} {es : List Ev} (h : SvL w lo b1 b2 b6 c1 c2 c6 ss fs es) (hc : Chg p w w') (hp : ∀ g, SvB (.slice b1 ss.length c1) (.slice b2 fs.length c2) (.slice b6 es.length c6) es.length g → ¬ p g) : SvL w' lo b1 b2 b6 c1 c2 c6 ss fs es :=
 ⟨⟨ZAJ h.d.o1 hc (fun g hg => hp g (.inl hg)), ZAJ h.d.o2 hc (fun g hg => hp g (.inr (.inl hg)))⟩, h.e.1, h.e.2.1, fun h0 => by
  obtain ⟨g, cap, L, e1, e2, e3, e4⟩ := h.e.2.2 h0
  exact ⟨g, cap, L, e1, e2, (hc.block g (ZAA e3) (hp g (.inr (.inr ⟨h0, by rw [e1]; rfl⟩)))).trans e3, e4⟩⟩
end Go.Proofs.YtookchpdbilbcaaGreatDoor
/-
 What laws.szEventS answers at every slice of events. A contract over the seat's program.
-/
namespace Go.Proofs.YtookchpdbilbcaaGreatDoor
open Go.RowKit
theorem szR_two (es : List Ev) {left : Int} (_h0 : 0 ≤ left) : szR left es = -1 ∨ (0 ≤ szR left es ∧ (es.length : Int) ≤ left) := by
 by_cases h : (es.length : Int) + (sumE es : Int) ≤ left
 ·rw [ZDy h]; right; constructor <;> omega
 ·rw [ZGV (by omega)]; exact .inl rfl
theorem ZE9 (v : Value) (es : List Ev) (left : Int) (w : World) (h : EvSl w v es) (hF : Fit es) (h0 : 0 ≤ left) (h1 : left ≤ 1048576) (hn : es.length ≤ maxLen) :
  Calls Tryz.prog 6 #[v, .int .i64 left] w fun e w' => e = .returned (.int .i64 (szR left es)) ∧ Below w.heap.size w w' := by
 rcases h with ⟨a, c, rfl, rfl⟩ | ⟨g, o, c, rfl, _, h⟩
 ·refine (ZD4 a c left w h0 h1).mono ?_
  rintro e w' ⟨rfl, rfl⟩
  exact ⟨by rw [ZDy (by simp [sumE]; omega)]; simp [sumE], Below.refl _ _⟩
 ·exact ZE8 g o c es left w h hF h0 h1 hn
end Go.Proofs.YtookchpdbilbcaaGreatDoor
/-
 What laws.szService, toService and eqService answer: contracts over the seat's program.
-/
namespace Go.Proofs.YtookchpdbilbcaaGreatDoor
open Go.RowKit Go.Sort
theorem ZEf (a1 a2 a6 : Option Addr) (k1 k2 k6 : Nat) (ss : List ByteArray) (fs : List Pr) (es : List Ev) (nx : Int) (w : World) (hD : DefSl w a1 a2 k1 k2 ss fs) (hE : EvSl w (.slice a6 es.length k6) es) (F1 : FitS ss) (F2 : FitP fs) (FE : Fit es) (n1 : ss.length ≤ maxLen) (n2 : fs.length ≤ maxLen) (n6 : es.length ≤ maxLen) :
  Calls Tryz.prog 5 #[svV a1 a2 a6 k1 k2 k6 ss fs es nx, .int .i64 1048576] w fun x w' => ∃ r : Int, x = .returned (.int .i64 r) ∧ (r = -1 ∨ (0 ≤ r ∧ r ≤ 1048576 ∧ ss.length ≤ 1048576 ∧ fs.length ≤ 1048576 ∧ es.length ≤ 1048576)) ∧ Below w.heap.size w w' := by
 have hb0 : Below w.heap.size w (w.alloc (.cells #[.slice a1 ss.length k1, .slice a2 fs.length k2, .slice a6 es.length k6, .int .i64 nx] 28)) := (bR _ _).alloc nL _
 have HX := hid (heap_alloc_new w (.cells #[.slice a1 ss.length k1, .slice a2 fs.length k2, .slice a6 es.length k6, .int .i64 nx] 28))
 have HB0 := hid hb0
 have cz1 := hid (ZHx a1 a2 k1 k2 ss fs 1048576 (w.alloc (.cells #[.slice a1 ss.length k1, .slice a2 fs.length k2, .slice a6 es.length k6, .int .i64 nx] 28)) (hD.h1.stay hb0 nL) (hD.h2.stay hb0 nL) F1 F2 (by decide) (by decide) n1 n2)
 have HV := hid (hE.stay hb0 nL)
 have HF := hid FE
 have HN6 := hid n6
 clear hD hE hb0 F1 F2 FE n1 n2 n6
 go_enter Tryz.func5, Tryz.ntmps5
 go_wp2_with fail
 refine cz1.out.mono ?_
 generalize (w.alloc (.cells #[.slice a1 ss.length k1, .slice a2 fs.length k2, .slice a6 es.length k6, .int .i64 nx] 28)) = V0 at *
 rintro x V1 ⟨r1, rfl, hr1, hb1⟩
 have HC1 := hid hb1
 have HB1 := hid (HB0.out.trans (hb1.mono HB0.out.size))
 have hX1 := (hb1.block _ (ZAA HX.out)).trans HX.out
 clear hb1 cz1
 rcases hr1 with rfl | ⟨r10, r11, m1, m2⟩
 ·go_wp2_with fail
  go_ret
  exact ⟨-1, rfl, .inl rfl, HB1.out⟩
 have cz2 := hid (ZE9 (.slice a6 es.length k6) es r1 V1 (HV.out.stay HC1.out nL) HF.out r10 (by omega) HN6.out)
 have hr2 := szR_two es r10
 have hr3 : szR r1 es ≤ r1 := by
  by_cases h : (es.length : Int) + (sumE es : Int) ≤ r1
  ·rw [ZDy h]; omega
  ·rw [ZGV (by omega)]; omega
 generalize szR r1 es = r2 at *
 have d2 : V1.cell? ⟨w.heap.size, 2, none⟩ = some (.slice a6 es.length k6) := ce hX1 rfl
 clear hX1
 go_wp2_with fail
 refine cz2.out.mono ?_
 rintro x V2 ⟨rfl, hb2⟩
 have HB2 := hid (HB1.out.trans (hb2.mono HB1.out.size))
 clear hb2 cz2 d2
 rcases hr2 with rfl | ⟨r20, m6⟩
 ·go_wp2_with fail
  go_ret
  exact ⟨-1, rfl, .inl rfl, HB2.out⟩
 ·go_wp2_with fail
  go_ret
  exact ⟨r2, rfl, .inr ⟨r20, by omega, m1, m2, by omega⟩, HB2.out⟩
theorem ZAs (a1 a2 a6 : Option Addr) (k1 k2 k6 : Nat) (ss : List ByteArray) (fs : List Pr) (es : List Ev) (nx : Int) (w : World) (hD : DefSl w a1 a2 k1 k2 ss fs) (hE : EvSl w (.slice a6 es.length k6) es) (n1 : ss.length ≤ 1048576) (n2 : fs.length ≤ 1048576) (n6 : es.length ≤ 1048576) :
  Calls Tryz.prog 8 #[svV a1 a2 a6 k1 k2 k6 ss fs es nx] w fun x w' => ∃ b1 b2 b6 c1 c2 c6, x = .returned (svV b1 b2 b6 c1 c2 c6 ss fs es nx) ∧ SvOwn w' w.heap.size (.slice b1 ss.length c1) (.slice b2 fs.length c2) (.slice b6 es.length c6) ss fs es ∧ Below w.heap.size w w' := by
 have hb3 : Below w.heap.size w (((w.alloc (.cells #[.slice a1 ss.length k1, .slice a2 fs.length k2, .slice a6 es.length k6, .int .i64 nx] 28)).alloc (.cells #[.slice none 0 0, .slice none 0 0, .slice none 0 0, .int .i64 0] 36)).alloc (.cells #[.slice none 0 0, .slice none 0 0, .slice none 0 0, .int .i64 0] 36)) := below3 _ _ _ _
 have hs3 : (((w.alloc (.cells #[.slice a1 ss.length k1, .slice a2 fs.length k2, .slice a6 es.length k6, .int .i64 nx] 28)).alloc (.cells #[.slice none 0 0, .slice none 0 0, .slice none 0 0, .int .i64 0] 36)).alloc (.cells #[.slice none 0 0, .slice none 0 0, .slice none 0 0, .int .i64 0] 36)).heap.size = w.heap.size + 1 + 1 + 1 := by simp
 have HN := hid (new3 w (.cells #[.slice a1 ss.length k1, .slice a2 fs.length k2, .slice a6 es.length k6, .int .i64 nx] 28) (.cells #[.slice none 0 0, .slice none 0 0, .slice none 0 0, .int .i64 0] 36) (.cells #[.slice none 0 0, .slice none 0 0, .slice none 0 0, .int .i64 0] 36))
 have HD := hid (hD.stay hb3)
 have HEw := hid hE
 have HB3 := hid hb3
 clear hD hE hb3
 go_enter Tryz.func8, Tryz.ntmps8
 go_upto_region 2 with fail
 generalize (((w.alloc (.cells #[.slice a1 ss.length k1, .slice a2 fs.length k2, .slice a6 es.length k6, .int .i64 nx] 28)).alloc (.cells #[.slice none 0 0, .slice none 0 0, .slice none 0 0, .int .i64 0] 36)).alloc (.cells #[.slice none 0 0, .slice none 0 0, .slice none 0 0, .int .i64 0] 36)) = V0 at *
 obtain ⟨hA0, hR0, hT0⟩ := HN.out
 have x0 : V0.cell? ⟨w.heap.size, 0, none⟩ = some (.slice a1 ss.length k1) := ce hA0 rfl
 have x1 : V0.cell? ⟨w.heap.size, 1, none⟩ = some (.slice a2 fs.length k2) := ce hA0 rfl
 go_wp2_with fail
 refine (ZIQ a1 a2 k1 k2 ss fs _ HD.out n1 n2).mono ?_
 rintro x V1 ⟨b1, b2, c1, c2, rfl, hO1, hb1⟩
 have hz1 := hb1.size
 have hA1 := (hb1.block _ (ZAA hA0)).trans hA0
 have hR1 := (hb1.block _ (ZAA hR0)).trans hR0
 have hT1 := (hb1.block _ (ZAA hT0)).trans hT0
 have t0 : V1.cell? ⟨w.heap.size + 1 + 1, 0, none⟩ = some (.slice none 0 0) := ce hT1 rfl
 have t1 : V1.cell? ⟨w.heap.size + 1 + 1, 1, none⟩ = some (.slice none 0 0) := ce hT1 rfl
 have tf := Lib.frozen_of_heap hT1
 have HB1 := hid (HB3.out.trans (hb1.mono (by omega)))
 have HO1 := hid hO1
 have HA1 := hid hA1
 have HR1 := hid hR1
 have HT1 := hid hT1
 clear x0 x1 hb1 hO1 hA1 hR1 hT1 hA0 hR0 hT0 HN HD
 go_upto_region 3 with fail
 have hT2 := ZAG (L := [_, _, _, _]) (i := 1) (ZAG (L := [_, _, _, _]) (i := 0) HT1.out (.slice b1 ss.length c1)) (.slice b2 fs.length c2)
 have hC2 : Chg (fun j => j = w.heap.size + 1 + 1) V1 ((V1.setCell ⟨w.heap.size + 1 + 1, 0, none⟩ (.slice b1 ss.length c1)).setCell ⟨w.heap.size + 1 + 1, 1, none⟩ (.slice b2 fs.length c2)) := (Chg.of_grown (p := fun j => j = w.heap.size + 1 + 1) (ZAF V1 (w.heap.size + 1 + 1) 0 _) rfl).trans (Chg.of_grown (ZAF _ (w.heap.size + 1 + 1) 1 _) rfl)
 generalize ((V1.setCell ⟨w.heap.size + 1 + 1, 0, none⟩ (.slice b1 ss.length c1)).setCell ⟨w.heap.size + 1 + 1, 1, none⟩ (.slice b2 fs.length c2)) = V2 at *
 have hO2 : DefOwn V2 V0.heap.size (.slice b1 ss.length c1) (.slice b2 fs.length c2) ss fs := ⟨ZAJ HO1.out.o1 hC2 (ZAL HO1.out.o1 HT1.out (by decide)), ZAJ HO1.out.o2 hC2 (ZAL HO1.out.o2 HT1.out (by decide))⟩
 have hA2 := (hC2.block _ (ZAA HA1.out) (by omega)).trans HA1.out
 have hR2 := (hC2.block _ (ZAA HR1.out) (by omega)).trans HR1.out
 have hz2 := hC2.size
 have HB2 := hid (HB1.out.trans (hC2.below (B := w.heap.size) (by omega) (fun j (h : j = _) => by omega)))
 have cT := hid (ZE4 (.slice a6 es.length k6) es V2 (HEw.out.stay HB2.out nL) n6)
 have x2 : V2.cell? ⟨w.heap.size, 2, none⟩ = some (.slice a6 es.length k6) := ce hA2 rfl
 clear t0 t1 tf
 go_wp2_with fail
 refine cT.out.mono ?_
 rintro x V3 ⟨v6, rfl, ho6, hb3⟩
 obtain ⟨b6, c6, rfl⟩ := ZAD ho6
 have hz3 := hb3.size
 have hA3 := (hb3.block _ (ZAA hA2)).trans hA2
 have hR3 := (hb3.block _ (ZAA hR2)).trans hR2
 have hT3 := (hb3.block _ (ZAA hT2)).trans hT2
 have HO3 := hid (SvOwn.mk (hO2.stay hb3) (ZAI ho6 (show V0.heap.size ≤ V2.heap.size by omega)))
 have HB3' := hid (HB2.out.trans (hb3.mono HB2.out.size))
 have y0 : V3.cell? ⟨w.heap.size, 3, none⟩ = some (.int .i64 nx) := ce hA3 rfl
 have t0 : V3.cell? ⟨w.heap.size + 1 + 1, 0, none⟩ = some (.slice b1 ss.length c1) := ce hT3 rfl
 have t1 : V3.cell? ⟨w.heap.size + 1 + 1, 1, none⟩ = some (.slice b2 fs.length c2) := ce hT3 rfl
 have t2 : V3.cell? ⟨w.heap.size + 1 + 1, 2, none⟩ = some (.slice none 0 0) := ce hT3 rfl
 have t3 : V3.cell? ⟨w.heap.size + 1 + 1, 3, none⟩ = some (.int .i64 0) := ce hT3 rfl
 have tf := Lib.frozen_of_heap hT3
 have r0 : V3.cell? ⟨w.heap.size + 1, 0, none⟩ = some (.slice none 0 0) := ce hR3 rfl
 have r1 : V3.cell? ⟨w.heap.size + 1, 1, none⟩ = some (.slice none 0 0) := ce hR3 rfl
 have r2 : V3.cell? ⟨w.heap.size + 1, 2, none⟩ = some (.slice none 0 0) := ce hR3 rfl
 have r3 : V3.cell? ⟨w.heap.size + 1, 3, none⟩ = some (.int .i64 0) := ce hR3 rfl
 have rf := Lib.frozen_of_heap hR3
 have HT3 := hid hT3
 have HR3 := hid hR3
 clear hb3 cT x2 hO2 hA2 hR2 hC2 ho6 hT2 hA3 hR3 hT3
 go_wp2
 have hC9 : Chg (fun j => j = w.heap.size + 1 ∨ j = w.heap.size + 1 + 1) V3 ((((((V3.setCell ⟨w.heap.size + 1 + 1, 2, none⟩ (.slice b6 es.length c6)).setCell ⟨w.heap.size + 1 + 1, 3, none⟩ (.int .i64 nx)).setCell ⟨w.heap.size + 1, 0, none⟩ (.slice b1 ss.length c1)).setCell ⟨w.heap.size + 1, 1, none⟩ (.slice b2 fs.length c2)).setCell ⟨w.heap.size + 1, 2, none⟩ (.slice b6 es.length c6)).setCell ⟨w.heap.size + 1, 3, none⟩ (.int .i64 nx)) :=
  (((((Chg.of_grown (ZAF _ (w.heap.size + 1 + 1) 2 _) (.inr rfl)).trans (Chg.of_grown (ZAF _ (w.heap.size + 1 + 1) 3 _) (.inr rfl))).trans (Chg.of_grown (ZAF _ (w.heap.size + 1) 0 _) (.inl rfl))).trans (Chg.of_grown (ZAF _ (w.heap.size + 1) 1 _) (.inl rfl))).trans (Chg.of_grown (ZAF _ (w.heap.size + 1) 2 _) (.inl rfl))).trans (Chg.of_grown (ZAF _ (w.heap.size + 1) 3 _) (.inl rfl))
 refine bodyPost_ret (v := svV b1 b2 b6 c1 c2 c6 ss fs es nx) (by simp [results, Tryz.results8, go_sem, r0, r1, r2, r3]) rfl ⟨b1, b2, b6, c1, c2, c6, rfl, ?_, ?_⟩
 ·have H := HO3.out.chg hC9 (fun g hg h => h.elim (ZAL HO3.out.d.o1 HR3.out (by decide) g hg) (ZAL HO3.out.d.o1 HT3.out (by decide) g hg)) (fun g hg h => h.elim (ZAL HO3.out.d.o2 HR3.out (by decide) g hg) (ZAL HO3.out.d.o2 HT3.out (by decide) g hg)) (fun g hg h => h.elim (ZAL HO3.out.o6 HR3.out (by decide) g hg) (ZAL HO3.out.o6 HT3.out (by decide) g hg))
  exact ⟨⟨ZAI H.d.o1 (by omega), ZAI H.d.o2 (by omega)⟩, ZAI H.o6 (by omega)⟩
 ·exact HB3'.out.trans (hC9.below (by omega) (fun j h => by rcases h with h | h <;> omega))
end Go.Proofs.YtookchpdbilbcaaGreatDoor
