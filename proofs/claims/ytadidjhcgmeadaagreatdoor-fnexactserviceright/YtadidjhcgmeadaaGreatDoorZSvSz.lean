/-
  What laws.szService, toService and eqService answer: contracts over the seat's program.
-/
import Derived.Test.YtadidjhcgmeadaaGreatDoorZSvM3
import Derived.Test.YtadidjhcgmeadaaGreatDoorZFlLaw5
import Derived.Test.YtadidjhcgmeadaaGreatDoorZEvTo2
import Derived.Test.YtadidjhcgmeadaaGreatDoorZSpDo24
import Derived.Test.YtadidjhcgmeadaaGreatDoorZSpOf
namespace Go.Proofs.YtadidjhcgmeadaaGreatDoor
open Go.RowKit Go.Sort

set_option maxRecDepth 100000 in
set_option maxHeartbeats 2000000 in
theorem szService_any (a1 a2 a6 : Option Addr) (k1 k2 k6 : Nat) (ss : List ByteArray) (fs : List Pr) (es : List Ev) (nx : Int) (w : World) (hD : DefSl w a1 a2 k1 k2 ss fs) (hE : EvSl w (.slice a6 es.length k6) es) (F1 : FitS ss) (F2 : FitP fs) (FE : Fit es) (n1 : ss.length ≤ maxLen) (n2 : fs.length ≤ maxLen) (n6 : es.length ≤ maxLen) :
    Calls Tryz.prog 23 #[svV a1 a2 a6 k1 k2 k6 ss fs es nx, .int .i64 1048576] w fun x w' => ∃ r : Int, x = .returned (.int .i64 r) ∧ (r = -1 ∨ (0 ≤ r ∧ r ≤ 1048576 ∧ ss.length ≤ 1048576 ∧ fs.length ≤ 1048576 ∧ es.length ≤ 1048576)) ∧ Below w.heap.size w w' := by
  have hb0 : Below w.heap.size w (w.alloc (.cells #[.slice a1 ss.length k1, .slice a2 fs.length k2, .slice a6 es.length k6, .int .i64 nx] 51)) := (Below.refl _ _).alloc (Nat.le_refl _) _
  have HX := hid (heap_alloc_new w (.cells #[.slice a1 ss.length k1, .slice a2 fs.length k2, .slice a6 es.length k6, .int .i64 nx] 51))
  have HB0 := hid hb0
  have cz1 := hid (szDef_any a1 a2 k1 k2 ss fs 1048576 (w.alloc (.cells #[.slice a1 ss.length k1, .slice a2 fs.length k2, .slice a6 es.length k6, .int .i64 nx] 51)) (hD.h1.stay hb0 (Nat.le_refl _)) (hD.h2.stay hb0 (Nat.le_refl _)) F1 F2 (by decide) (by decide) n1 n2)
  have HV := hid (hE.stay hb0 (Nat.le_refl _))
  have HF := hid FE
  have HN6 := hid n6
  clear hD hE hb0 F1 F2 FE n1 n2 n6
  go_enter Tryz.func23, Tryz.ntmps23
  go_wp2_with fail
  refine cz1.out.mono ?_
  generalize (w.alloc (.cells #[.slice a1 ss.length k1, .slice a2 fs.length k2, .slice a6 es.length k6, .int .i64 nx] 51)) = V0 at *
  rintro x V1 ⟨r1, rfl, hr1, hb1⟩
  have HC1 := hid hb1
  have HB1 := hid (HB0.out.trans (hb1.mono HB0.out.size))
  have hX1 := (hb1.block _ (lt_heap HX.out)).trans HX.out
  clear hb1 cz1
  rcases hr1 with rfl | ⟨r10, r11, m1, m2⟩
  · go_wp2_with fail
    go_ret
    exact ⟨-1, rfl, .inl rfl, HB1.out⟩
  have cz2 := hid (szEventS_all (.slice a6 es.length k6) es r1 V1 (HV.out.stay HC1.out (Nat.le_refl _)) HF.out r10 (by omega) HN6.out)
  have hr2 := szR_two es r10
  have hr3 : szR r1 es ≤ r1 := by
    by_cases h : (es.length : Int) + (sumE es : Int) ≤ r1
    · rw [szR_yes h]; omega
    · rw [szR_no (by omega)]; omega
  generalize szR r1 es = r2 at *
  have d2 : V1.cell? ⟨w.heap.size, 2, none⟩ = some (.slice a6 es.length k6) := by rw [Lib.cell_of_heap hX1]; rfl
  clear hX1
  go_wp2_with fail
  refine cz2.out.mono ?_
  rintro x V2 ⟨rfl, hb2⟩
  have HB2 := hid (HB1.out.trans (hb2.mono HB1.out.size))
  clear hb2 cz2 d2
  rcases hr2 with rfl | ⟨r20, m6⟩
  · go_wp2_with fail
    go_ret
    exact ⟨-1, rfl, .inl rfl, HB2.out⟩
  · go_wp2_with fail
    go_ret
    exact ⟨r2, rfl, .inr ⟨r20, by omega, m1, m2, by omega⟩, HB2.out⟩

structure SvOwn (w : World) (lo : Nat) (u1 u2 u6 : Value) (ss : List ByteArray) (fs : List Pr) (es : List Ev) : Prop where
  d : DefOwn w lo u1 u2 ss fs
  o6 : w.ownsRow lo 76 6 u6 es.length (es.flatMap Ev.cells)
theorem SvOwn.stay {w w' : World} {lo : Nat} {u1 u2 u6 : Value} {ss : List ByteArray} {fs : List Pr} {es : List Ev} (h : SvOwn w lo u1 u2 u6 ss fs es) (hb : Below w.heap.size w w') : SvOwn w' lo u1 u2 u6 ss fs es := ⟨h.d.stay hb, ownB_stay h.o6 hb⟩
theorem SvOwn.chg {p : Nat → Prop} {w w' : World} {lo : Nat} {u1 u2 u6 : Value} {ss : List ByteArray} {fs : List Pr} {es : List Ev} (h : SvOwn w lo u1 u2 u6 ss fs es) (hc : Chg p w w') (h1 : ∀ g, u1.ownBlock = some g → ¬ p g) (h2 : ∀ g, u2.ownBlock = some g → ¬ p g) (h6 : ∀ g, u6.ownBlock = some g → ¬ p g) : SvOwn w' lo u1 u2 u6 ss fs es := ⟨⟨own_chg h.d.o1 hc h1, own_chg h.d.o2 hc h2⟩, own_chg h.o6 hc h6⟩

set_option maxRecDepth 100000 in
set_option maxHeartbeats 4000000 in
theorem toService_any (a1 a2 a6 : Option Addr) (k1 k2 k6 : Nat) (ss : List ByteArray) (fs : List Pr) (es : List Ev) (nx : Int) (w : World) (hD : DefSl w a1 a2 k1 k2 ss fs) (hE : EvSl w (.slice a6 es.length k6) es) (n1 : ss.length ≤ 1048576) (n2 : fs.length ≤ 1048576) (n6 : es.length ≤ 1048576) :
    Calls Tryz.prog 25 #[svV a1 a2 a6 k1 k2 k6 ss fs es nx] w fun x w' => ∃ b1 b2 b6 c1 c2 c6, x = .returned (svV b1 b2 b6 c1 c2 c6 ss fs es nx) ∧ SvOwn w' w.heap.size (.slice b1 ss.length c1) (.slice b2 fs.length c2) (.slice b6 es.length c6) ss fs es ∧ Below w.heap.size w w' := by
  have hb3 : Below w.heap.size w (((w.alloc (.cells #[.slice a1 ss.length k1, .slice a2 fs.length k2, .slice a6 es.length k6, .int .i64 nx] 51)).alloc (.cells #[.slice none 0 0, .slice none 0 0, .slice none 0 0, .int .i64 0] 55)).alloc (.cells #[.slice none 0 0, .slice none 0 0, .slice none 0 0, .int .i64 0] 55)) := below3 _ _ _ _
  have hs3 : (((w.alloc (.cells #[.slice a1 ss.length k1, .slice a2 fs.length k2, .slice a6 es.length k6, .int .i64 nx] 51)).alloc (.cells #[.slice none 0 0, .slice none 0 0, .slice none 0 0, .int .i64 0] 55)).alloc (.cells #[.slice none 0 0, .slice none 0 0, .slice none 0 0, .int .i64 0] 55)).heap.size = w.heap.size + 1 + 1 + 1 := by simp
  have HN := hid (new3 w (.cells #[.slice a1 ss.length k1, .slice a2 fs.length k2, .slice a6 es.length k6, .int .i64 nx] 51) (.cells #[.slice none 0 0, .slice none 0 0, .slice none 0 0, .int .i64 0] 55) (.cells #[.slice none 0 0, .slice none 0 0, .slice none 0 0, .int .i64 0] 55))
  have HD := hid (hD.stay hb3)
  have HEw := hid hE
  have HB3 := hid hb3
  clear hD hE hb3
  go_enter Tryz.func25, Tryz.ntmps25
  go_upto_region 2 with fail
  generalize (((w.alloc (.cells #[.slice a1 ss.length k1, .slice a2 fs.length k2, .slice a6 es.length k6, .int .i64 nx] 51)).alloc (.cells #[.slice none 0 0, .slice none 0 0, .slice none 0 0, .int .i64 0] 55)).alloc (.cells #[.slice none 0 0, .slice none 0 0, .slice none 0 0, .int .i64 0] 55)) = V0 at *
  obtain ⟨hA0, hR0, hT0⟩ := HN.out
  have x0 : V0.cell? ⟨w.heap.size, 0, none⟩ = some (.slice a1 ss.length k1) := by rw [Lib.cell_of_heap hA0]; rfl
  have x1 : V0.cell? ⟨w.heap.size, 1, none⟩ = some (.slice a2 fs.length k2) := by rw [Lib.cell_of_heap hA0]; rfl
  go_wp2_with fail
  refine (toDef_own a1 a2 k1 k2 ss fs _ HD.out n1 n2).mono ?_
  rintro x V1 ⟨b1, b2, c1, c2, rfl, hO1, hb1⟩
  have hz1 := hb1.size
  have hA1 := (hb1.block _ (lt_heap hA0)).trans hA0
  have hR1 := (hb1.block _ (lt_heap hR0)).trans hR0
  have hT1 := (hb1.block _ (lt_heap hT0)).trans hT0
  have t0 : V1.cell? ⟨w.heap.size + 1 + 1, 0, none⟩ = some (.slice none 0 0) := by rw [Lib.cell_of_heap hT1]; rfl
  have t1 : V1.cell? ⟨w.heap.size + 1 + 1, 1, none⟩ = some (.slice none 0 0) := by rw [Lib.cell_of_heap hT1]; rfl
  have tf := Lib.frozen_of_heap hT1
  have HB1 := hid (HB3.out.trans (hb1.mono (by omega)))
  have HO1 := hid hO1
  have HA1 := hid hA1
  have HR1 := hid hR1
  have HT1 := hid hT1
  clear x0 x1 hb1 hO1 hA1 hR1 hT1 hA0 hR0 hT0 HN HD
  go_upto_region 3 with fail
  have hT2 := blk_set (L := [_, _, _, _]) (i := 1) (blk_set (L := [_, _, _, _]) (i := 0) HT1.out (.slice b1 ss.length c1)) (.slice b2 fs.length c2)
  have hC2 : Chg (fun j => j = w.heap.size + 1 + 1) V1 ((V1.setCell ⟨w.heap.size + 1 + 1, 0, none⟩ (.slice b1 ss.length c1)).setCell ⟨w.heap.size + 1 + 1, 1, none⟩ (.slice b2 fs.length c2)) := (Chg.of_grown (p := fun j => j = w.heap.size + 1 + 1) (grown_set V1 (w.heap.size + 1 + 1) 0 _) rfl).trans (Chg.of_grown (grown_set _ (w.heap.size + 1 + 1) 1 _) rfl)
  generalize ((V1.setCell ⟨w.heap.size + 1 + 1, 0, none⟩ (.slice b1 ss.length c1)).setCell ⟨w.heap.size + 1 + 1, 1, none⟩ (.slice b2 fs.length c2)) = V2 at *
  have hO2 : DefOwn V2 V0.heap.size (.slice b1 ss.length c1) (.slice b2 fs.length c2) ss fs := ⟨own_chg HO1.out.o1 hC2 (own_ne HO1.out.o1 HT1.out (by decide)), own_chg HO1.out.o2 hC2 (own_ne HO1.out.o2 HT1.out (by decide))⟩
  have hA2 := (hC2.block _ (lt_heap HA1.out) (by omega)).trans HA1.out
  have hR2 := (hC2.block _ (lt_heap HR1.out) (by omega)).trans HR1.out
  have hz2 := hC2.size
  have HB2 := hid (HB1.out.trans (hC2.below (B := w.heap.size) (by omega) (fun j (h : j = _) => by omega)))
  have cT := hid (toEventS_any (.slice a6 es.length k6) es V2 (HEw.out.stay HB2.out (Nat.le_refl _)) n6)
  have x2 : V2.cell? ⟨w.heap.size, 2, none⟩ = some (.slice a6 es.length k6) := by rw [Lib.cell_of_heap hA2]; rfl
  clear t0 t1 tf
  go_wp2_with fail
  refine cT.out.mono ?_
  rintro x V3 ⟨v6, rfl, ho6, hb3⟩
  obtain ⟨b6, c6, rfl⟩ := ownB_form ho6
  have hz3 := hb3.size
  have hA3 := (hb3.block _ (lt_heap hA2)).trans hA2
  have hR3 := (hb3.block _ (lt_heap hR2)).trans hR2
  have hT3 := (hb3.block _ (lt_heap hT2)).trans hT2
  have HO3 := hid (SvOwn.mk (hO2.stay hb3) (ownB_le ho6 (show V0.heap.size ≤ V2.heap.size by omega)))
  have HB3' := hid (HB2.out.trans (hb3.mono HB2.out.size))
  have y0 : V3.cell? ⟨w.heap.size, 3, none⟩ = some (.int .i64 nx) := by rw [Lib.cell_of_heap hA3]; rfl
  have t0 : V3.cell? ⟨w.heap.size + 1 + 1, 0, none⟩ = some (.slice b1 ss.length c1) := by rw [Lib.cell_of_heap hT3]; rfl
  have t1 : V3.cell? ⟨w.heap.size + 1 + 1, 1, none⟩ = some (.slice b2 fs.length c2) := by rw [Lib.cell_of_heap hT3]; rfl
  have t2 : V3.cell? ⟨w.heap.size + 1 + 1, 2, none⟩ = some (.slice none 0 0) := by rw [Lib.cell_of_heap hT3]; rfl
  have t3 : V3.cell? ⟨w.heap.size + 1 + 1, 3, none⟩ = some (.int .i64 0) := by rw [Lib.cell_of_heap hT3]; rfl
  have tf := Lib.frozen_of_heap hT3
  have r0 : V3.cell? ⟨w.heap.size + 1, 0, none⟩ = some (.slice none 0 0) := by rw [Lib.cell_of_heap hR3]; rfl
  have r1 : V3.cell? ⟨w.heap.size + 1, 1, none⟩ = some (.slice none 0 0) := by rw [Lib.cell_of_heap hR3]; rfl
  have r2 : V3.cell? ⟨w.heap.size + 1, 2, none⟩ = some (.slice none 0 0) := by rw [Lib.cell_of_heap hR3]; rfl
  have r3 : V3.cell? ⟨w.heap.size + 1, 3, none⟩ = some (.int .i64 0) := by rw [Lib.cell_of_heap hR3]; rfl
  have rf := Lib.frozen_of_heap hR3
  have HT3 := hid hT3
  have HR3 := hid hR3
  clear hb3 cT x2 hO2 hA2 hR2 hC2 ho6 hT2 hA3 hR3 hT3
  go_wp2
  have hC9 : Chg (fun j => j = w.heap.size + 1 ∨ j = w.heap.size + 1 + 1) V3 ((((((V3.setCell ⟨w.heap.size + 1 + 1, 2, none⟩ (.slice b6 es.length c6)).setCell ⟨w.heap.size + 1 + 1, 3, none⟩ (.int .i64 nx)).setCell ⟨w.heap.size + 1, 0, none⟩ (.slice b1 ss.length c1)).setCell ⟨w.heap.size + 1, 1, none⟩ (.slice b2 fs.length c2)).setCell ⟨w.heap.size + 1, 2, none⟩ (.slice b6 es.length c6)).setCell ⟨w.heap.size + 1, 3, none⟩ (.int .i64 nx)) :=
    (((((Chg.of_grown (grown_set _ (w.heap.size + 1 + 1) 2 _) (.inr rfl)).trans (Chg.of_grown (grown_set _ (w.heap.size + 1 + 1) 3 _) (.inr rfl))).trans (Chg.of_grown (grown_set _ (w.heap.size + 1) 0 _) (.inl rfl))).trans (Chg.of_grown (grown_set _ (w.heap.size + 1) 1 _) (.inl rfl))).trans (Chg.of_grown (grown_set _ (w.heap.size + 1) 2 _) (.inl rfl))).trans (Chg.of_grown (grown_set _ (w.heap.size + 1) 3 _) (.inl rfl))
  refine bodyPost_ret (v := svV b1 b2 b6 c1 c2 c6 ss fs es nx) (by simp [results, Tryz.results25, go_sem, r0, r1, r2, r3]) rfl ⟨b1, b2, b6, c1, c2, c6, rfl, ?_, ?_⟩
  · have H := HO3.out.chg hC9 (fun g hg h => h.elim (own_ne HO3.out.d.o1 HR3.out (by decide) g hg) (own_ne HO3.out.d.o1 HT3.out (by decide) g hg)) (fun g hg h => h.elim (own_ne HO3.out.d.o2 HR3.out (by decide) g hg) (own_ne HO3.out.d.o2 HT3.out (by decide) g hg)) (fun g hg h => h.elim (own_ne HO3.out.o6 HR3.out (by decide) g hg) (own_ne HO3.out.o6 HT3.out (by decide) g hg))
    exact ⟨⟨ownB_le H.d.o1 (by omega), ownB_le H.d.o2 (by omega)⟩, ownB_le H.o6 (by omega)⟩
  · exact HB3'.out.trans (hC9.below (by omega) (fun j h => by rcases h with h | h <;> omega))

set_option maxRecDepth 100000 in
set_option maxHeartbeats 2000000 in
theorem eqService_same (a1 a2 a6 b1 b2 b6 : Option Addr) (k1 k2 k6 c1 c2 c6 : Nat) (ss : List ByteArray) (fs : List Pr) (es : List Ev) (nx : Int) (w : World) (hD : DefSl w a1 a2 k1 k2 ss fs) (hE : EvSl w (.slice a6 es.length k6) es) (hD' : DefSl w b1 b2 c1 c2 ss fs) (hE' : EvSl w (.slice b6 es.length c6) es) (n1 : ss.length ≤ maxLen) (n2 : fs.length ≤ maxLen) (n6 : es.length ≤ maxLen) :
    Calls Tryz.prog 27 #[svV a1 a2 a6 k1 k2 k6 ss fs es nx, svV b1 b2 b6 c1 c2 c6 ss fs es nx] w fun x w' => x = .returned (.bool true) ∧ Below w.heap.size w w' := by
  have hb2 : Below w.heap.size w ((w.alloc (.cells #[.slice a1 ss.length k1, .slice a2 fs.length k2, .slice a6 es.length k6, .int .i64 nx] 55)).alloc (.cells #[.slice b1 ss.length c1, .slice b2 fs.length c2, .slice b6 es.length c6, .int .i64 nx] 55)) := below2 _ _ _
  have hs2 : ((w.alloc (.cells #[.slice a1 ss.length k1, .slice a2 fs.length k2, .slice a6 es.length k6, .int .i64 nx] 55)).alloc (.cells #[.slice b1 ss.length c1, .slice b2 fs.length c2, .slice b6 es.length c6, .int .i64 nx] 55)).heap.size = w.heap.size + 1 + 1 := by simp
  have hB := heap_alloc_new (w.alloc (.cells #[.slice a1 ss.length k1, .slice a2 fs.length k2, .slice a6 es.length k6, .int .i64 nx] 55)) (.cells #[.slice b1 ss.length c1, .slice b2 fs.length c2, .slice b6 es.length c6, .int .i64 nx] 55)
  have hA := (Below.heap_alloc (w.alloc (.cells #[.slice a1 ss.length k1, .slice a2 fs.length k2, .slice a6 es.length k6, .int .i64 nx] 55)) (.cells #[.slice b1 ss.length c1, .slice b2 fs.length c2, .slice b6 es.length c6, .int .i64 nx] 55) w.heap.size (by simp)).trans (heap_alloc_new w (.cells #[.slice a1 ss.length k1, .slice a2 fs.length k2, .slice a6 es.length k6, .int .i64 nx] 55))
  rw [World.size_alloc] at hB
  have HA := hid hA
  have HBB := hid hB
  have HB2 := hid hb2
  have c1' := hid (eqDef_same a1 a2 b1 b2 k1 k2 c1 c2 ss fs _ (hD.stay hb2).h1 (hD.stay hb2).h2 (hD'.stay hb2).h1 (hD'.stay hb2).h2 n1 n2)
  have HE := hid (hE.stay hb2 (Nat.le_refl _))
  have HE' := hid (hE'.stay hb2 (Nat.le_refl _))
  have HN6 := hid n6
  clear hD hD' hE hE' hb2 hA hB n1 n2 n6
  go_enter Tryz.func27, Tryz.ntmps27
  go_wp2_with fail
  refine c1'.out.mono ?_
  generalize ((w.alloc (.cells #[.slice a1 ss.length k1, .slice a2 fs.length k2, .slice a6 es.length k6, .int .i64 nx] 55)).alloc (.cells #[.slice b1 ss.length c1, .slice b2 fs.length c2, .slice b6 es.length c6, .int .i64 nx] 55)) = V0 at *
  rintro x V1 ⟨rfl, hb1⟩
  have hA1 := (hb1.block _ (lt_heap HA.out)).trans HA.out
  have hB1 := (hb1.block _ (lt_heap HBB.out)).trans HBB.out
  have c2' := hid (eqEventS_any (.slice a6 es.length k6) (.slice b6 es.length c6) es V1 (HE.out.stay hb1 (Nat.le_refl _)) (HE'.out.stay hb1 (Nat.le_refl _)) HN6.out)
  have x2 : V1.cell? ⟨w.heap.size, 2, none⟩ = some (.slice a6 es.length k6) := by rw [Lib.cell_of_heap hA1]; rfl
  have y2 : V1.cell? ⟨w.heap.size + 1, 2, none⟩ = some (.slice b6 es.length c6) := by rw [Lib.cell_of_heap hB1]; rfl
  have HB1 := hid (HB2.out.trans (hb1.mono HB2.out.size))
  have HA1 := hid hA1
  have HBB1 := hid hB1
  clear hb1 hA1 hB1 c1' HA HBB
  go_wp2_with fail
  refine c2'.out.mono ?_
  rintro x V2 ⟨rfl, hb2⟩
  have hA2 := (hb2.block _ (lt_heap HA1.out)).trans HA1.out
  have hB2 := (hb2.block _ (lt_heap HBB1.out)).trans HBB1.out
  have x3 : V2.cell? ⟨w.heap.size, 3, none⟩ = some (.int .i64 nx) := by rw [Lib.cell_of_heap hA2]; rfl
  have y3 : V2.cell? ⟨w.heap.size + 1, 3, none⟩ = some (.int .i64 nx) := by rw [Lib.cell_of_heap hB2]; rfl
  have HB9 := hid (HB1.out.trans (hb2.mono HB1.out.size))
  clear hb2 hA2 hB2 c2' x2 y2
  go_wp2
  go_ret
  exact ⟨rfl, HB9.out⟩
end Go.Proofs.YtadidjhcgmeadaaGreatDoor
