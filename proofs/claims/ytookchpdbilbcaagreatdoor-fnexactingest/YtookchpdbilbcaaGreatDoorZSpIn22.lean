/-
 Texts put together: SpIn2, ImIn.
-/
import Derived.Test.YtookchpdbilbcaaGreatDoorZSpIng
import Derived.Test.YtookchpdbilbcaaGreatDoorZEvAM4
import Derived.Test.YtookchpdbilbcaaGreatDoorZImWk
set_option maxRecDepth 100000
set_option maxHeartbeats 8000000
/-
 What spec.Ingest answers: a contract over the seat's program. (Made by mking2.py.)
-/
namespace Go.Proofs.YtookchpdbilbcaaGreatDoor
open Go.RowKit Go.Sort
theorem l06Ingest_no (a1 a2 a6 a7 : Option Addr) (k1 k2 k6 k7 : Nat) (ss : List ByteArray) (fs : List Pr) (es l : List Ev) (nx : Int) (w : World) (n7 : l.length ≤ maxLen) (h : l.length = 0 ∨ 200 < l.length) :
  Calls Tryz.prog 23 #[svV a1 a2 a6 k1 k2 k6 ss fs es nx, .slice a7 l.length k7] w fun x w' => InPost w ss fs (1, 0, [], 0) x w' := by
 have HBW := hid (show Below w.heap.size w ((w.alloc (.cells #[.slice a1 ss.length k1, .slice a2 fs.length k2, .slice a6 es.length k6, .int .i64 nx] 36)).alloc (.cells #[.slice none 0 0, .slice none 0 0, .slice none 0 0, .int .i64 0, .int .i64 0, .int .i64 0] 38)) from below2 _ _ _)
 have HZ := hid (show ((w.alloc (.cells #[.slice a1 ss.length k1, .slice a2 fs.length k2, .slice a6 es.length k6, .int .i64 nx] 36)).alloc (.cells #[.slice none 0 0, .slice none 0 0, .slice none 0 0, .int .i64 0, .int .i64 0, .int .i64 0] 38)).heap.size = w.heap.size + 1 + 1 by simp)
 have HA := hid (show ((w.alloc (.cells #[.slice a1 ss.length k1, .slice a2 fs.length k2, .slice a6 es.length k6, .int .i64 nx] 36)).alloc (.cells #[.slice none 0 0, .slice none 0 0, .slice none 0 0, .int .i64 0, .int .i64 0, .int .i64 0] 38)).heap[w.heap.size]? = some (.cells #[.slice a1 ss.length k1, .slice a2 fs.length k2, .slice a6 es.length k6, .int .i64 nx] 36 (0, 0)) from (Below.heap_alloc _ _ _ (by simp)).trans (heap_alloc_new w _))
 have HR := hid (show ((w.alloc (.cells #[.slice a1 ss.length k1, .slice a2 fs.length k2, .slice a6 es.length k6, .int .i64 nx] 36)).alloc (.cells #[.slice none 0 0, .slice none 0 0, .slice none 0 0, .int .i64 0, .int .i64 0, .int .i64 0] 38)).heap[w.heap.size + 1]? = some (.cells #[.slice none 0 0, .slice none 0 0, .slice none 0 0, .int .i64 0, .int .i64 0, .int .i64 0] 38 (0, 0)) by have h := heap_alloc_new (w.alloc (.cells #[.slice a1 ss.length k1, .slice a2 fs.length k2, .slice a6 es.length k6, .int .i64 nx] 36)) (.cells #[.slice none 0 0, .slice none 0 0, .slice none 0 0, .int .i64 0, .int .i64 0, .int .i64 0] 38); rw [World.size_alloc] at h; exact h)
 have n7' : (l.length : Int) ≤ 9223372036854775807 := by unfold maxLen at n7; omega
 by_cases h0 : l.length = 0
 ·have b0 : ((l.length : Int) == 0) = true := by rw [beq_iff_eq]; omega
  clear h h0
  go_enter Tryz.func23, Tryz.ntmps23
  go_upto_region 1 with fail
  generalize ((w.alloc (.cells #[.slice a1 ss.length k1, .slice a2 fs.length k2, .slice a6 es.length k6, .int .i64 nx] 36)).alloc (.cells #[.slice none 0 0, .slice none 0 0, .slice none 0 0, .int .i64 0, .int .i64 0, .int .i64 0] 38)) = W at *
  have r0 : W.cell? ⟨w.heap.size + 1, 0, none⟩ = some (.slice none 0 0) := ce HR.out rfl
  have r1 : W.cell? ⟨w.heap.size + 1, 1, none⟩ = some (.slice none 0 0) := ce HR.out rfl
  have r2 : W.cell? ⟨w.heap.size + 1, 2, none⟩ = some (.slice none 0 0) := ce HR.out rfl
  have r3 : W.cell? ⟨w.heap.size + 1, 3, none⟩ = some (.int .i64 0) := ce HR.out rfl
  have r4 : W.cell? ⟨w.heap.size + 1, 4, none⟩ = some (.int .i64 0) := ce HR.out rfl
  have r5 : W.cell? ⟨w.heap.size + 1, 5, none⟩ = some (.int .i64 0) := ce HR.out rfl
  have rf := Lib.frozen_of_heap HR.out
  have HQ := hid (out_code ss fs 0 1 (by decide) HBW.out (by have := HZ.out; omega) HR.out)
  go_wp2_with fail
  have hF := HQ.out.1
  unfold outSet at hF
  have z0 := Lib.cell_of_heap hF (j := 0)
  have z1 := Lib.cell_of_heap hF (j := 1)
  have z2 := Lib.cell_of_heap hF (j := 2)
  have z3 := Lib.cell_of_heap hF (j := 3)
  have z4 := Lib.cell_of_heap hF (j := 4)
  have z5 := Lib.cell_of_heap hF (j := 5)
  simp at z0 z1 z2 z3 z4 z5
  exact bodyPost_ret (v := .agg #[.slice none 0 0, .slice none 0 0, .slice none 0 0, .int .i64 0, .int .i64 (0 : Nat), .int .i64 1]) (by simp [results, Tryz.results23, go_sem, z0, z1, z2, z3, z4, z5]) rfl HQ.out.2
 ·have b0 : ((l.length : Int) == 0) = false := by rw [beq_eq_false_iff_ne]; omega
  have b2 : decide ((200 : Int) < (l.length : Int)) = true := by simp; omega
  clear h h0
  go_enter Tryz.func23, Tryz.ntmps23
  go_upto_region 1 with fail
  generalize ((w.alloc (.cells #[.slice a1 ss.length k1, .slice a2 fs.length k2, .slice a6 es.length k6, .int .i64 nx] 36)).alloc (.cells #[.slice none 0 0, .slice none 0 0, .slice none 0 0, .int .i64 0, .int .i64 0, .int .i64 0] 38)) = W at *
  have r0 : W.cell? ⟨w.heap.size + 1, 0, none⟩ = some (.slice none 0 0) := ce HR.out rfl
  have r1 : W.cell? ⟨w.heap.size + 1, 1, none⟩ = some (.slice none 0 0) := ce HR.out rfl
  have r2 : W.cell? ⟨w.heap.size + 1, 2, none⟩ = some (.slice none 0 0) := ce HR.out rfl
  have r3 : W.cell? ⟨w.heap.size + 1, 3, none⟩ = some (.int .i64 0) := ce HR.out rfl
  have r4 : W.cell? ⟨w.heap.size + 1, 4, none⟩ = some (.int .i64 0) := ce HR.out rfl
  have r5 : W.cell? ⟨w.heap.size + 1, 5, none⟩ = some (.int .i64 0) := ce HR.out rfl
  have rf := Lib.frozen_of_heap HR.out
  have HQ := hid (out_code ss fs 0 1 (by decide) HBW.out (by have := HZ.out; omega) HR.out)
  go_wp2_with fail
  have hF := HQ.out.1
  unfold outSet at hF
  have z0 := Lib.cell_of_heap hF (j := 0)
  have z1 := Lib.cell_of_heap hF (j := 1)
  have z2 := Lib.cell_of_heap hF (j := 2)
  have z3 := Lib.cell_of_heap hF (j := 3)
  have z4 := Lib.cell_of_heap hF (j := 4)
  have z5 := Lib.cell_of_heap hF (j := 5)
  simp at z0 z1 z2 z3 z4 z5
  exact bodyPost_ret (v := .agg #[.slice none 0 0, .slice none 0 0, .slice none 0 0, .int .i64 0, .int .i64 (0 : Nat), .int .i64 1]) (by simp [results, Tryz.results23, go_sem, z0, z1, z2, z3, z4, z5]) rfl HQ.out.2
open Classical in
/-- What Ingest tells. -/
noncomputable def inR (ss : List ByteArray) (fs : List Pr) (es : List Ev) (nx : Int) (l : List Ev) : Int × Nat × List Ev × Int :=
 if 400 < l.length then (2, 0, [], 0) else if ¬ SvP ss fs es nx ∨ l.length = 0 ∨ 200 < l.length then (1, 0, [], 0) else inL ss fs l es nx 0
theorem inR_big {ss : List ByteArray} {fs : List Pr} {es : List Ev} {nx : Int} {l : List Ev} (h : 400 < l.length) : inR ss fs es nx l = (2, 0, [], 0) := by unfold inR; rw [if_pos h]
theorem inR_no {ss : List ByteArray} {fs : List Pr} {es : List Ev} {nx : Int} {l : List Ev} (h : ¬ 400 < l.length) (h2 : ¬ SvP ss fs es nx ∨ l.length = 0 ∨ 200 < l.length) : inR ss fs es nx l = (1, 0, [], 0) := by unfold inR; rw [if_neg h, if_pos h2]
theorem inR_yes {ss : List ByteArray} {fs : List Pr} {es : List Ev} {nx : Int} {l : List Ev} (h : ¬ 400 < l.length) (h2 : ¬ (¬ SvP ss fs es nx ∨ l.length = 0 ∨ 200 < l.length)) : inR ss fs es nx l = inL ss fs l es nx 0 := by unfold inR; rw [if_neg h, if_neg h2]
theorem l06Ingest_all (a1 a2 a6 a7 : Option Addr) (k1 k2 k6 k7 : Nat) (ss : List ByteArray) (fs : List Pr) (es l : List Ev) (nx : Int) (w : World) (hD : DefSl w a1 a2 k1 k2 ss fs) (hE : EvSl w (.slice a6 es.length k6) es) (hL : EvSl w (.slice a7 l.length k7) l) (hP : SvP ss fs es nx) (FE : Fit es) (FL : Fit l) (n7 : l.length ≤ maxLen) (h4 : ¬ 400 < l.length) :
  Calls Tryz.prog 23 #[svV a1 a2 a6 k1 k2 k6 ss fs es nx, .slice a7 l.length k7] w fun x w' => InPost w ss fs (inR ss fs es nx l) x w' := by
 by_cases h : l.length = 0 ∨ 200 < l.length
 ·rw [inR_no h4 (.inr h)]
  exact l06Ingest_no a1 a2 a6 a7 k1 k2 k6 k7 ss fs es l nx w n7 h
 ·rw [inR_yes h4 (fun h' => h'.elim (fun q => q hP) h)]
  exact l06Ingest_in a1 a2 a6 a7 k1 k2 k6 k7 ss fs es l nx w hD hE hL hP FE FL (fun q => h (.inl q)) (fun q => h (.inr q))
theorem specIngest_any (a1 a2 a6 a7 : Option Addr) (k1 k2 k6 k7 : Nat) (ss : List ByteArray) (fs : List Pr) (es l : List Ev) (nx : Int) (w : World) (hD : DefSl w a1 a2 k1 k2 ss fs) (hE : EvSl w (.slice a6 es.length k6) es) (hL : EvSl w (.slice a7 l.length k7) l) (F1 : ∀ i, (h : i < ss.length) → ss[i].size ≤ maxLen) (FE : Fit es) (FL : Fit l) (n1 : ss.length ≤ maxLen) (n2 : fs.length ≤ maxLen) (n6 : es.length ≤ maxLen) (n7 : l.length ≤ maxLen) :
  Calls Tryz.prog 7 #[svV a1 a2 a6 k1 k2 k6 ss fs es nx, .slice a7 l.length k7] w fun x w' => InPost w ss fs (inR ss fs es nx l) x w' := by
 have HBW := hid (show Below w.heap.size w ((w.alloc (.cells #[.slice a1 ss.length k1, .slice a2 fs.length k2, .slice a6 es.length k6, .int .i64 nx] 36)).alloc (.cells #[.slice none 0 0, .slice none 0 0, .slice none 0 0, .int .i64 0, .int .i64 0, .int .i64 0] 38)) from below2 _ _ _)
 have HZ := hid (show ((w.alloc (.cells #[.slice a1 ss.length k1, .slice a2 fs.length k2, .slice a6 es.length k6, .int .i64 nx] 36)).alloc (.cells #[.slice none 0 0, .slice none 0 0, .slice none 0 0, .int .i64 0, .int .i64 0, .int .i64 0] 38)).heap.size = w.heap.size + 1 + 1 by simp)
 have HA := hid (show ((w.alloc (.cells #[.slice a1 ss.length k1, .slice a2 fs.length k2, .slice a6 es.length k6, .int .i64 nx] 36)).alloc (.cells #[.slice none 0 0, .slice none 0 0, .slice none 0 0, .int .i64 0, .int .i64 0, .int .i64 0] 38)).heap[w.heap.size]? = some (.cells #[.slice a1 ss.length k1, .slice a2 fs.length k2, .slice a6 es.length k6, .int .i64 nx] 36 (0, 0)) from (Below.heap_alloc _ _ _ (by simp)).trans (heap_alloc_new w _))
 have HR := hid (show ((w.alloc (.cells #[.slice a1 ss.length k1, .slice a2 fs.length k2, .slice a6 es.length k6, .int .i64 nx] 36)).alloc (.cells #[.slice none 0 0, .slice none 0 0, .slice none 0 0, .int .i64 0, .int .i64 0, .int .i64 0] 38)).heap[w.heap.size + 1]? = some (.cells #[.slice none 0 0, .slice none 0 0, .slice none 0 0, .int .i64 0, .int .i64 0, .int .i64 0] 38 (0, 0)) by have h := heap_alloc_new (w.alloc (.cells #[.slice a1 ss.length k1, .slice a2 fs.length k2, .slice a6 es.length k6, .int .i64 nx] 36)) (.cells #[.slice none 0 0, .slice none 0 0, .slice none 0 0, .int .i64 0, .int .i64 0, .int .i64 0] 38); rw [World.size_alloc] at h; exact h)
 have n7' : (l.length : Int) ≤ 9223372036854775807 := by unfold maxLen at n7; omega
 by_cases h4 : 400 < l.length
 ·have b4 : decide ((400 : Int) < (l.length : Int)) = true := by simp; omega
  rw [inR_big h4]
  clear h4
  go_enter Tryz.func7, Tryz.ntmps7
  go_upto_region 1 with fail
  generalize ((w.alloc (.cells #[.slice a1 ss.length k1, .slice a2 fs.length k2, .slice a6 es.length k6, .int .i64 nx] 36)).alloc (.cells #[.slice none 0 0, .slice none 0 0, .slice none 0 0, .int .i64 0, .int .i64 0, .int .i64 0] 38)) = W at *
  have r0 : W.cell? ⟨w.heap.size + 1, 0, none⟩ = some (.slice none 0 0) := ce HR.out rfl
  have r1 : W.cell? ⟨w.heap.size + 1, 1, none⟩ = some (.slice none 0 0) := ce HR.out rfl
  have r2 : W.cell? ⟨w.heap.size + 1, 2, none⟩ = some (.slice none 0 0) := ce HR.out rfl
  have r3 : W.cell? ⟨w.heap.size + 1, 3, none⟩ = some (.int .i64 0) := ce HR.out rfl
  have r4 : W.cell? ⟨w.heap.size + 1, 4, none⟩ = some (.int .i64 0) := ce HR.out rfl
  have r5 : W.cell? ⟨w.heap.size + 1, 5, none⟩ = some (.int .i64 0) := ce HR.out rfl
  have rf := Lib.frozen_of_heap HR.out
  have HQ := hid (out_code ss fs 0 2 (by decide) HBW.out (by have := HZ.out; omega) HR.out)
  go_wp2_with fail
  have hF := HQ.out.1
  unfold outSet at hF
  have z0 := Lib.cell_of_heap hF (j := 0)
  have z1 := Lib.cell_of_heap hF (j := 1)
  have z2 := Lib.cell_of_heap hF (j := 2)
  have z3 := Lib.cell_of_heap hF (j := 3)
  have z4 := Lib.cell_of_heap hF (j := 4)
  have z5 := Lib.cell_of_heap hF (j := 5)
  simp at z0 z1 z2 z3 z4 z5
  exact bodyPost_ret (v := .agg #[.slice none 0 0, .slice none 0 0, .slice none 0 0, .int .i64 0, .int .i64 (0 : Nat), .int .i64 2]) (by simp [results, Tryz.results7, go_sem, z0, z1, z2, z3, z4, z5]) rfl HQ.out.2
 have b4 : decide ((400 : Int) < (l.length : Int)) = false := by simp; omega
 have HD := hid hD
 have HE := hid hE
 have HL := hid hL
 have cR := hid (fun V hD hE => specServiceRight_any a1 a2 a6 k1 k2 k6 ss fs es nx V hD hE F1 FE n1 n2 n6)
 have cI := hid (fun V hD hE hL hP => l06Ingest_all a1 a2 a6 a7 k1 k2 k6 k7 ss fs es l nx V hD hE hL hP FE FL n7 h4)
 have H4 := hid h4
 by_cases hP : SvP ss fs es nx
 ·clear h4 hD hE hL F1 FE FL n1 n2 n6 n7
  generalize hRR : inR ss fs es nx l = R at *
  clear hRR
  go_enter Tryz.func7, Tryz.ntmps7
  go_upto_region 1 with fail
  generalize ((w.alloc (.cells #[.slice a1 ss.length k1, .slice a2 fs.length k2, .slice a6 es.length k6, .int .i64 nx] 36)).alloc (.cells #[.slice none 0 0, .slice none 0 0, .slice none 0 0, .int .i64 0, .int .i64 0, .int .i64 0] 38)) = W at *
  have x0 : W.cell? ⟨w.heap.size, 0, none⟩ = some (.slice a1 ss.length k1) := ce HA.out rfl
  have x1 : W.cell? ⟨w.heap.size, 1, none⟩ = some (.slice a2 fs.length k2) := ce HA.out rfl
  have x2 : W.cell? ⟨w.heap.size, 2, none⟩ = some (.slice a6 es.length k6) := ce HA.out rfl
  have x3 : W.cell? ⟨w.heap.size, 3, none⟩ = some (.int .i64 nx) := ce HA.out rfl
  go_wp2_with fail
  refine (cR.out W (HD.out.stay HBW.out) (HE.out.stay HBW.out (Nat.le_refl _))).mono ?_
  rintro x V1 ⟨hx, hb1⟩
  have HB1 := hid (HBW.out.trans (hb1.mono HBW.out.size))
  have HR1 := hid ((hb1.block _ (lt_heap HR.out)).trans HR.out)
  have HA1 := hid ((hb1.block _ (lt_heap HA.out)).trans HA.out)
  have hz1 := hb1.size
  have hzz := HZ.out
  clear hb1 x0 x1 x2 x3
  obtain rfl := hx.yes hP
  have x0 : V1.cell? ⟨w.heap.size, 0, none⟩ = some (.slice a1 ss.length k1) := ce HA1.out rfl
  have x1 : V1.cell? ⟨w.heap.size, 1, none⟩ = some (.slice a2 fs.length k2) := ce HA1.out rfl
  have x2 : V1.cell? ⟨w.heap.size, 2, none⟩ = some (.slice a6 es.length k6) := ce HA1.out rfl
  have x3 : V1.cell? ⟨w.heap.size, 3, none⟩ = some (.int .i64 nx) := ce HA1.out rfl
  have HPh := hid hP
  clear hP hx
  go_wp2_with fail
  refine (cI.out V1 (HD.out.stay HB1.out) (HE.out.stay HB1.out (Nat.le_refl _)) (HL.out.stay HB1.out (Nat.le_refl _)) HPh.out).mono ?_
  rintro x V2 ⟨S, F, b1, b2, b6, c1, c2, c6, hs1, hs2, rfl, hO2, hb2⟩
  have HS1 := hid hs1
  have HS2 := hid hs2
  have HR2 := hid ((hb2.block _ (lt_heap HR1.out)).trans HR1.out)
  have HB2 := hid (HB1.out.trans (hb2.mono HB1.out.size))
  have hz2 := hb2.size
  have HQ := hid (out_set (w := w) R.2.2.2 (R.2.1 : Int) R.1 (show SvOwn V2 (w.heap.size + 1 + 1) (.slice b1 S.length c1) (.slice b2 F.length c2) (.slice b6 R.2.2.1.length c6) S F R.2.2.1 from ⟨⟨ownB_le hO2.d.o1 (by omega), ownB_le hO2.d.o2 (by omega)⟩, ownB_le hO2.o6 (by omega)⟩) HB2.out (by omega) HR2.out)
  clear hs1 hs2 hb2 hO2 x0 x1 x2 x3
  have r0 : V2.cell? ⟨w.heap.size + 1, 0, none⟩ = some (.slice none 0 0) := ce HR2.out rfl
  have r1 : V2.cell? ⟨w.heap.size + 1, 1, none⟩ = some (.slice none 0 0) := ce HR2.out rfl
  have r2 : V2.cell? ⟨w.heap.size + 1, 2, none⟩ = some (.slice none 0 0) := ce HR2.out rfl
  have r3 : V2.cell? ⟨w.heap.size + 1, 3, none⟩ = some (.int .i64 0) := ce HR2.out rfl
  have r4 : V2.cell? ⟨w.heap.size + 1, 4, none⟩ = some (.int .i64 0) := ce HR2.out rfl
  have r5 : V2.cell? ⟨w.heap.size + 1, 5, none⟩ = some (.int .i64 0) := ce HR2.out rfl
  have rf := Lib.frozen_of_heap HR2.out
  go_wp2_with fail
  have hF := HQ.out.1
  unfold outSet at hF
  have z0 := Lib.cell_of_heap hF (j := 0)
  have z1 := Lib.cell_of_heap hF (j := 1)
  have z2 := Lib.cell_of_heap hF (j := 2)
  have z3 := Lib.cell_of_heap hF (j := 3)
  have z4 := Lib.cell_of_heap hF (j := 4)
  have z5 := Lib.cell_of_heap hF (j := 5)
  simp at z0 z1 z2 z3 z4 z5
  exact bodyPost_ret (v := osV b1 b2 b6 c1 c2 c6 S F R.2.2.1 R.2.2.2 R.2.1 R.1) (by simp [results, Tryz.results7, go_sem, z0, z1, z2, z3, z4, z5]) rfl ⟨S, F, b1, b2, b6, c1, c2, c6, HS1.out, HS2.out, rfl, HQ.out.2.1, HQ.out.2.2⟩
 ·rw [inR_no h4 (.inl hP)]
  clear h4 hD hE hL F1 FE FL n1 n2 n6 n7
  go_enter Tryz.func7, Tryz.ntmps7
  go_upto_region 1 with fail
  generalize ((w.alloc (.cells #[.slice a1 ss.length k1, .slice a2 fs.length k2, .slice a6 es.length k6, .int .i64 nx] 36)).alloc (.cells #[.slice none 0 0, .slice none 0 0, .slice none 0 0, .int .i64 0, .int .i64 0, .int .i64 0] 38)) = W at *
  have x0 : W.cell? ⟨w.heap.size, 0, none⟩ = some (.slice a1 ss.length k1) := ce HA.out rfl
  have x1 : W.cell? ⟨w.heap.size, 1, none⟩ = some (.slice a2 fs.length k2) := ce HA.out rfl
  have x2 : W.cell? ⟨w.heap.size, 2, none⟩ = some (.slice a6 es.length k6) := ce HA.out rfl
  have x3 : W.cell? ⟨w.heap.size, 3, none⟩ = some (.int .i64 nx) := ce HA.out rfl
  go_wp2_with fail
  refine (cR.out W (HD.out.stay HBW.out) (HE.out.stay HBW.out (Nat.le_refl _))).mono ?_
  rintro x V1 ⟨hx, hb1⟩
  have HB1 := hid (HBW.out.trans (hb1.mono HBW.out.size))
  have HR1 := hid ((hb1.block _ (lt_heap HR.out)).trans HR.out)
  have HA1 := hid ((hb1.block _ (lt_heap HA.out)).trans HA.out)
  have hz1 := hb1.size
  have hzz := HZ.out
  clear hb1 x0 x1 x2 x3
  obtain rfl := hx.no hP
  have r0 : V1.cell? ⟨w.heap.size + 1, 0, none⟩ = some (.slice none 0 0) := ce HR1.out rfl
  have r1 : V1.cell? ⟨w.heap.size + 1, 1, none⟩ = some (.slice none 0 0) := ce HR1.out rfl
  have r2 : V1.cell? ⟨w.heap.size + 1, 2, none⟩ = some (.slice none 0 0) := ce HR1.out rfl
  have r3 : V1.cell? ⟨w.heap.size + 1, 3, none⟩ = some (.int .i64 0) := ce HR1.out rfl
  have r4 : V1.cell? ⟨w.heap.size + 1, 4, none⟩ = some (.int .i64 0) := ce HR1.out rfl
  have r5 : V1.cell? ⟨w.heap.size + 1, 5, none⟩ = some (.int .i64 0) := ce HR1.out rfl
  have rf := Lib.frozen_of_heap HR1.out
  have HQ := hid (out_code ss fs 0 1 (by decide) HB1.out (by have := (show w.heap.size + 1 + 1 ≤ V1.heap.size by omega); omega) HR1.out)
  go_wp2_with fail
  have hF := HQ.out.1
  unfold outSet at hF
  have z0 := Lib.cell_of_heap hF (j := 0)
  have z1 := Lib.cell_of_heap hF (j := 1)
  have z2 := Lib.cell_of_heap hF (j := 2)
  have z3 := Lib.cell_of_heap hF (j := 3)
  have z4 := Lib.cell_of_heap hF (j := 4)
  have z5 := Lib.cell_of_heap hF (j := 5)
  simp at z0 z1 z2 z3 z4 z5
  exact bodyPost_ret (v := .agg #[.slice none 0 0, .slice none 0 0, .slice none 0 0, .int .i64 0, .int .i64 (0 : Nat), .int .i64 1]) (by simp [results, Tryz.results7, go_sem, z0, z1, z2, z3, z4, z5]) rfl HQ.out.2
end Go.Proofs.YtookchpdbilbcaaGreatDoor
/-
 What impl.Ingest answers: a contract over the seat's program. (Made by mkin.py.)
-/
namespace Go.Proofs.YtookchpdbilbcaaGreatDoor
open Go.RowKit Go.Sort Go.Maps
theorem new3i (w : World) (o1 o2 o3 : Obj) : (((w.alloc o1).alloc o2).alloc o3).heap[w.heap.size]? = some o1 ∧ (((w.alloc o1).alloc o2).alloc o3).heap[w.heap.size + 1]? = some o2 ∧ (((w.alloc o1).alloc o2).alloc o3).heap[w.heap.size + 1 + 1]? = some o3 := by
 have h2 := World.alloc_heap_new (w.alloc o1) o2
 have h3 := World.alloc_heap_new ((w.alloc o1).alloc o2) o3
 rw [World.size_alloc] at h2
 rw [World.size_alloc, World.size_alloc] at h3
 exact ⟨(Below.heap_alloc _ _ _ (by simp; omega)).trans ((Below.heap_alloc _ _ _ (by simp)).trans (World.alloc_heap_new w o1)), (Below.heap_alloc _ _ _ (by simp)).trans h2, h3⟩
theorem ol_set3 {w V : World} {b1 b2 b6 : Option Addr} {c1 c2 c6 : Nat} {ss : List ByteArray} {fs : List Pr} {es : List Ev} (nx : Int) (m : Nat) (c : Int) (hO : SvL V (w.heap.size + 1 + 1 + 1) b1 b2 b6 c1 c2 c6 ss fs es) (hb : Below w.heap.size w V) (hV : w.heap.size + 1 + 1 + 1 ≤ V.heap.size) (hR : V.heap[w.heap.size + 1 + 1]? = some (.cells #[.slice none 0 0, .slice none 0 0, .slice none 0 0, .int .i64 0, .int .i64 0, .int .i64 0] 38 (0, 0))) :
  (outSet V (w.heap.size + 1 + 1) (.slice b1 ss.length c1) (.slice b2 fs.length c2) (.slice b6 es.length c6) nx m c).heap[w.heap.size + 1 + 1]? = some (.cells #[.slice b1 ss.length c1, .slice b2 fs.length c2, .slice b6 es.length c6, .int .i64 nx, .int .i64 m, .int .i64 c] 38 (0, 0)) ∧
  SvL (outSet V (w.heap.size + 1 + 1) (.slice b1 ss.length c1) (.slice b2 fs.length c2) (.slice b6 es.length c6) nx m c) w.heap.size b1 b2 b6 c1 c2 c6 ss fs es ∧ Below w.heap.size w (outSet V (w.heap.size + 1 + 1) (.slice b1 ss.length c1) (.slice b2 fs.length c2) (.slice b6 es.length c6) nx m c) := by
 have hC : Chg (fun j => j = w.heap.size + 1 + 1) V (outSet V (w.heap.size + 1 + 1) (.slice b1 ss.length c1) (.slice b2 fs.length c2) (.slice b6 es.length c6) nx m c) := (((((Chg.of_grown (p := fun j => j = w.heap.size + 1 + 1) (grown_set _ (w.heap.size + 1 + 1) 0 _) rfl).trans (Chg.of_grown (grown_set _ (w.heap.size + 1 + 1) 1 _) rfl)).trans (Chg.of_grown (grown_set _ (w.heap.size + 1 + 1) 2 _) rfl)).trans (Chg.of_grown (grown_set _ (w.heap.size + 1 + 1) 3 _) rfl)).trans (Chg.of_grown (grown_set _ (w.heap.size + 1 + 1) 4 _) rfl)).trans (Chg.of_grown (grown_set _ (w.heap.size + 1 + 1) 5 _) rfl)
 refine ⟨?_, ⟨⟨own_chg (ownB_le hO.d.o1 (by omega)) hC (own_ne hO.d.o1 hR (by decide)), own_chg (ownB_le hO.d.o2 (by omega)) hC (own_ne hO.d.o2 hR (by decide))⟩, (hO.e.le (by omega)).chg hC (fun g9 c9 _ h9 (e9 : g9 = w.heap.size + 1 + 1) => by rw [e9, hR] at h9; injection h9 with h9; injection h9 with _ h9 _; exact absurd h9 (by decide))⟩, hb.trans (hC.below (by omega) (fun j (h : j = _) => by omega))⟩
 exact blk_set (L := [_, _, _, _, _, _]) (i := 5) (blk_set (L := [_, _, _, _, _, _]) (i := 4) (blk_set (L := [_, _, _, _, _, _]) (i := 3) (blk_set (L := [_, _, _, _, _, _]) (i := 2) (blk_set (L := [_, _, _, _, _, _]) (i := 1) (blk_set (L := [_, _, _, _, _, _]) (i := 0) hR _) _) _) _) _) _
theorem oc_set3 {w V : World} (ss : List ByteArray) (fs : List Pr) (m : Nat) (c : Int) (hc : ¬ c = 0) (hb : Below w.heap.size w V) (hV : w.heap.size + 1 + 1 + 1 ≤ V.heap.size) (hR : V.heap[w.heap.size + 1 + 1]? = some (.cells #[.slice none 0 0, .slice none 0 0, .slice none 0 0, .int .i64 0, .int .i64 0, .int .i64 0] 38 (0, 0))) :
  (outSet V (w.heap.size + 1 + 1) (.slice none 0 0) (.slice none 0 0) (.slice none 0 0) 0 m c).heap[w.heap.size + 1 + 1]? = some (.cells #[.slice none 0 0, .slice none 0 0, .slice none 0 0, .int .i64 0, .int .i64 m, .int .i64 c] 38 (0, 0)) ∧
  ImPost w ss fs (c, m, [], 0) (.returned (.agg #[.slice none 0 0, .slice none 0 0, .slice none 0 0, .int .i64 0, .int .i64 m, .int .i64 c])) (outSet V (w.heap.size + 1 + 1) (.slice none 0 0) (.slice none 0 0) (.slice none 0 0) 0 m c) := by
 obtain ⟨h1, h2, h3⟩ := ol_set3 0 m c (SvL.of_own (sv_zero V (w.heap.size + 1 + 1 + 1))) hb hV hR
 exact ⟨h1, [], [], none, none, none, 0, 0, 0, fun h => absurd h hc, fun _ => ⟨rfl, rfl⟩, rfl, h2, h3⟩
theorem inL_code {ss : List ByteArray} {fs : List Pr} : ∀ (l E : List Ev) (nx : Int) (p : Nat), ¬ (inL ss fs l E nx p).1 = 0 → (inL ss fs l E nx p).2.2 = ([], 0)
 | [], E, nx, p, h => by
  rw [inL_nil] at h ⊢
  by_cases h1 : 200 < E.length ∨ 1000000 < nx
  ·rw [if_pos h1]
  ·rw [if_neg h1] at h; exact absurd rfl h
 | e :: l, E, nx, p, h => by
  rw [inL] at h ⊢
  by_cases h1 : 1000000 < nx
  ·rw [if_pos h1]
  ·rw [if_neg h1] at h ⊢
   by_cases h2 : inC ss fs E nx e = 0
   ·rw [if_pos h2] at h ⊢; exact inL_code l _ _ _ h
   ·rw [if_neg h2]
theorem inL_all {ss : List ByteArray} {fs : List Pr} : ∀ (l E : List Ev) (nx : Int) (p : Nat), (∀ x ∈ E, evB x = true) → (inL ss fs l E nx p).1 = 0 → (inL ss fs l E nx p).2.2.1.length ≤ 200 ∧ ∀ x ∈ (inL ss fs l E nx p).2.2.1, evB x = true
 | [], E, nx, p, hE, h => by
  rw [inL_nil] at h ⊢
  by_cases h1 : 200 < E.length ∨ 1000000 < nx
  ·rw [if_pos h1] at h; exact absurd h (by decide)
  ·rw [if_neg h1]; exact ⟨Nat.le_of_not_lt (fun q => h1 (.inl q)), hE⟩
 | e :: l, E, nx, p, hE, h => by
  rw [inL] at h ⊢
  by_cases h1 : 1000000 < nx
  ·rw [if_pos h1] at h; exact absurd h (by decide)
  ·rw [if_neg h1] at h ⊢
   by_cases h2 : inC ss fs E nx e = 0
   ·rw [if_pos h2] at h ⊢
    refine inL_all l _ _ _ (fun x hx => ?_) h
    rcases List.mem_append.1 hx with hx | hx
    ·exact hE x hx
    ·simp at hx; subst hx; exact evS_right0 (S := runS ss fs E e.run) h2
   ·rw [if_neg h2] at h; exact absurd h h2
theorem inL_len {ss : List ByteArray} {fs : List Pr} : ∀ (l E : List Ev) (nx : Int) (p : Nat), (inL ss fs l E nx p).2.2.1.length ≤ 200
 | [], E, nx, p => by
  rw [inL_nil]
  by_cases h1 : 200 < E.length ∨ 1000000 < nx
  ·rw [if_pos h1]; simp
  ·rw [if_neg h1]; exact Nat.le_of_not_lt (fun q => h1 (.inl q))
 | e :: l, E, nx, p => by
  rw [inL]
  by_cases h1 : 1000000 < nx
  ·rw [if_pos h1]; simp
  ·rw [if_neg h1]
   by_cases h2 : inC ss fs E nx e = 0
   ·rw [if_pos h2]; exact inL_len l _ _ _
   ·rw [if_neg h2]; simp
theorem inR_len (ss : List ByteArray) (fs : List Pr) (es : List Ev) (nx : Int) (l : List Ev) : (inR ss fs es nx l).2.2.1.length ≤ 200 := by
 by_cases h4 : 400 < l.length
 ·rw [inR_big h4]; simp
 ·by_cases h : ¬ SvP ss fs es nx ∨ l.length = 0 ∨ 200 < l.length
  ·rw [inR_no h4 h]; simp
  ·rw [inR_yes h4 h]; exact inL_len _ _ _ _
theorem ev_small {e : Ev} (h : evB e = true) : e.step.size ≤ 1048576 ∧ e.val.size ≤ 1048576 := by
 have hn : ∀ s, nrB s = true → s.size ≤ 20 := fun s h => by
  by_cases hh : 1 ≤ s.size ∧ s.size ≤ 20
  ·omega
  ·rw [nr_no hh] at h; cases h
 have hk : kndB e.kind e.step e.val = true := by unfold evB at h; simp at h; exact h.2.2.2
 unfold kndB at hk
 by_cases h1 : e.kind = 1 ∨ e.kind = 6
 ·rw [if_pos h1] at hk; simp at hk; rw [hk.1, hk.2]; decide
 ·rw [if_neg h1] at hk
  by_cases h2 : e.kind = 2 ∨ e.kind = 3 ∨ e.kind = 5
  ·rw [if_pos h2] at hk; simp at hk; rw [hk.2]; have := hn _ hk.1; exact ⟨by omega, by decide⟩
  ·rw [if_neg h2] at hk
   by_cases h3 : e.kind = 4
   ·rw [if_pos h3] at hk; simp at hk; have := hn _ hk.1; exact ⟨by omega, by omega⟩
   ·rw [if_neg h3] at hk; cases hk
theorem tkR_code {ss : List ByteArray} {fs : List Pr} {es l : List Ev} {nx : Int} (h : ¬ (tkR ss fs es nx l).1 = 0) : (tkR ss fs es nx l).2.2 = ([], 0) := by
 unfold tkR at h ⊢
 by_cases hl : l.length = 0 ∨ 200 < l.length
 ·rw [if_pos hl]
 ·rw [if_neg hl] at h ⊢; exact inL_code _ _ _ _ h
theorem tkR_all {ss : List ByteArray} {fs : List Pr} {es l : List Ev} {nx : Int} (hE : ∀ x ∈ es, evB x = true) (h : (tkR ss fs es nx l).1 = 0) : (tkR ss fs es nx l).2.2.1.length ≤ 200 ∧ ∀ x ∈ (tkR ss fs es nx l).2.2.1, evB x = true := by
 unfold tkR at h ⊢
 by_cases hl : l.length = 0 ∨ 200 < l.length
 ·rw [if_pos hl] at h; exact absurd h (by decide)
 ·rw [if_neg hl] at h ⊢; exact inL_all _ _ _ _ hE h
theorem ingestDo_any (g Bl : Nat) (v : Value) (W : World) (p q : Int) (H : World → Prop) (hB : W.cell? ⟨Bl, 0, none⟩ = some v) (hv : ∃ a n c, v = .slice a n c) (c : Calls Tryz.prog 28 #[.pointer (some ⟨g, 0, none⟩), v] W fun x w' => x = .returned (.tuple #[.int .i64 p, .int .i64 q]) ∧ H w') :
  Calls Tryz.prog 27 #[.pointer (some ⟨g, 0, none⟩), .pointer (some ⟨Bl, 0, none⟩)] W fun x w' => x = .returned (.tuple #[.int .i64 p, .int .i64 q]) ∧ H w' := by
 obtain ⟨a, n, cc, rfl⟩ := hv
 go_enter Tryz.func27, Tryz.ntmps27
 go_wp2_with fail
 refine c.mono ?_
 rintro e W' ⟨rfl, he⟩
 have HE := hid he
 clear he
 go_wp2
 exact bodyPost_ret (v := .tuple #[.int .i64 p, .int .i64 q]) (by simp [results, Tryz.results27, go_sem]) rfl ⟨rfl, HE.out⟩
open Classical in
theorem implIngest_any (a1 a2 a6 a7 : Option Addr) (k1 k2 k6 k7 : Nat) (ss : List ByteArray) (fs : List Pr) (es l : List Ev) (nx : Int) (w : World) (e0 e1 e2 e3 e4 : Addr) (hD : DefSl w a1 a2 k1 k2 ss fs) (hE : EvSl w (.slice a6 es.length k6) es) (hL : EvSl w (.slice a7 l.length k7) l) (hEr : ErrsAt w e0 e1 e2 e3 e4)
  (F1 : ∀ i, (h : i < ss.length) → ss[i].size ≤ maxLen) (F2 : FitP fs) (FE : Fit es) (FL : Fit l) (WL : ∀ i, (h : i < l.length) → (Lit.int .i64 l[i].run).wf = true) (n1 : ss.length ≤ maxLen) (n2 : fs.length ≤ maxLen) (n6 : es.length ≤ maxLen) (n7 : l.length ≤ maxLen) :
  Calls Tryz.prog 10 #[svV a1 a2 a6 k1 k2 k6 ss fs es nx, .slice a7 l.length k7] w fun x w' => ImPost w ss fs (inR ss fs es nx l) x w' := by
 have HBW := hid (show Below w.heap.size w (((w.alloc (.cells #[.slice a1 ss.length k1, .slice a2 fs.length k2, .slice a6 es.length k6, .int .i64 nx] 36)).alloc (.cells #[.slice a7 l.length k7] 34)).alloc (.cells #[.slice none 0 0, .slice none 0 0, .slice none 0 0, .int .i64 0, .int .i64 0, .int .i64 0] 38)) from below3 _ _ _ _)
 have HZ := hid (show (((w.alloc (.cells #[.slice a1 ss.length k1, .slice a2 fs.length k2, .slice a6 es.length k6, .int .i64 nx] 36)).alloc (.cells #[.slice a7 l.length k7] 34)).alloc (.cells #[.slice none 0 0, .slice none 0 0, .slice none 0 0, .int .i64 0, .int .i64 0, .int .i64 0] 38)).heap.size = w.heap.size + 1 + 1 + 1 by simp)
 obtain ⟨hA0, hL0, hR0⟩ := new3i w (.cells #[.slice a1 ss.length k1, .slice a2 fs.length k2, .slice a6 es.length k6, .int .i64 nx] 36) (.cells #[.slice a7 l.length k7] 34) (.cells #[.slice none 0 0, .slice none 0 0, .slice none 0 0, .int .i64 0, .int .i64 0, .int .i64 0] 38)
 have HA := hid hA0
 have HLb := hid hL0
 have HR := hid hR0
 have n7' : (l.length : Int) ≤ 9223372036854775807 := by unfold maxLen at n7; omega
 clear hA0 hL0 hR0
 have HD := hid hD
 have HE := hid hE
 have HL := hid hL
 have HER := hid hEr
 clear hD hE hL hEr
 obtain ⟨Q, hQ⟩ : ∃ Q, Q = inR ss fs es nx l := ⟨_, rfl⟩
 rw [← hQ]
 have HQd := hid hQ
 clear hQ
 go_enter Tryz.func10, Tryz.ntmps10
 go_upto_region 1 with fail
 generalize (((w.alloc (.cells #[.slice a1 ss.length k1, .slice a2 fs.length k2, .slice a6 es.length k6, .int .i64 nx] 36)).alloc (.cells #[.slice a7 l.length k7] 34)).alloc (.cells #[.slice none 0 0, .slice none 0 0, .slice none 0 0, .int .i64 0, .int .i64 0, .int .i64 0] 38)) = W at *
 have hl0 : W.cell? ⟨w.heap.size + 1, 0, none⟩ = some (.slice a7 l.length k7) := ce HLb.out rfl
 by_cases h4 : 400 < l.length
 ·have b4 : decide ((400 : Int) < (l.length : Int)) = true := by simp; omega
  have e9 : Q = (2, 0, [], 0) := HQd.out.trans (inR_big h4)
  clear HQd h4
  subst e9
  have r0 : W.cell? ⟨w.heap.size + 1 + 1, 0, none⟩ = some (.slice none 0 0) := ce HR.out rfl
  have r1 : W.cell? ⟨w.heap.size + 1 + 1, 1, none⟩ = some (.slice none 0 0) := ce HR.out rfl
  have r2 : W.cell? ⟨w.heap.size + 1 + 1, 2, none⟩ = some (.slice none 0 0) := ce HR.out rfl
  have r3 : W.cell? ⟨w.heap.size + 1 + 1, 3, none⟩ = some (.int .i64 0) := ce HR.out rfl
  have r4 : W.cell? ⟨w.heap.size + 1 + 1, 4, none⟩ = some (.int .i64 0) := ce HR.out rfl
  have r5 : W.cell? ⟨w.heap.size + 1 + 1, 5, none⟩ = some (.int .i64 0) := ce HR.out rfl
  have rf := Lib.frozen_of_heap HR.out
  have HQ := hid (oc_set3 ss fs 0 2 (by decide) HBW.out (by have := HZ.out; omega) HR.out)
  go_wp2_with fail
  have hF := HQ.out.1
  unfold outSet at hF
  have z0 := Lib.cell_of_heap hF (j := 0)
  have z1 := Lib.cell_of_heap hF (j := 1)
  have z2 := Lib.cell_of_heap hF (j := 2)
  have z3 := Lib.cell_of_heap hF (j := 3)
  have z4 := Lib.cell_of_heap hF (j := 4)
  have z5 := Lib.cell_of_heap hF (j := 5)
  simp at z0 z1 z2 z3 z4 z5
  exact bodyPost_ret (v := .agg #[.slice none 0 0, .slice none 0 0, .slice none 0 0, .int .i64 0, .int .i64 (0 : Nat), .int .i64 2]) (by simp [results, Tryz.results10, go_sem, z0, z1, z2, z3, z4, z5]) rfl HQ.out.2
 have b4 : decide ((400 : Int) < (l.length : Int)) = false := by simp; omega
 have s0 : W.cell? ⟨w.heap.size, 0, none⟩ = some (.slice a1 ss.length k1) := ce HA.out rfl
 have s1 : W.cell? ⟨w.heap.size, 1, none⟩ = some (.slice a2 fs.length k2) := ce HA.out rfl
 have s2 : W.cell? ⟨w.heap.size, 2, none⟩ = some (.slice a6 es.length k6) := ce HA.out rfl
 have s3 : W.cell? ⟨w.heap.size, 3, none⟩ = some (.int .i64 nx) := ce HA.out rfl
 have cW := hid (worked_any a1 a2 a6 k1 k2 k6 ss fs es nx 27 #[.pointer (some ⟨w.heap.size + 1, 0, none⟩)] (es.length + l.length) (tkR ss fs es nx l) W e0 e1 e2 e3 e4 (HD.out.stay HBW.out) (HE.out.stay HBW.out (Nat.le_refl _)) (HER.out.stay HBW.out) F1 F2 FE n1 n2 n6 (enters_of Tryz.func27 (by kernel_rfl) rfl) tkR_code (fun hP h => ⟨Nat.le_trans (tkR_all hP.h.ev h).1 (by decide), fun x hx => ev_small ((tkR_all hP.h.ev h).2 x hx)⟩)
  (fun hP w0 W1 g bm u hw0 hW1 hH => ingestDo_any g (w.heap.size + 1) (.slice a7 l.length k7) W1 _ _ _ (((hw0.trans (hW1.mono hw0.size)).cell (p := ⟨w.heap.size + 1, 0, none⟩) (lt_heap HLb.out)).trans hl0) ⟨_, _, _, rfl⟩
   (take_any w0 W1 g bm es.length a1 a2 a7 k1 k2 k7 u ss fs es l nx e0 e1 e2 e3 e4 hW1 hH ((HD.out.stay HBW.out).stay hw0) ((HER.out.stay HBW.out).stay hw0) hP.h.d hP.h.runs ((HL.out.stay HBW.out (Nat.le_refl _)).stay hw0 (Nat.le_refl _)) F1 F2 (fun i h => (FL i h).1) WL ((numB_iff nx).1 hP.n) hP.h.n (by have := hP.h.n; omega) n7)))
 go_wp2_with fail
 refine cW.out.mono ?_
 rintro x V ⟨S, F, b1, b2, b6, c1, c2, c6, hS1, hS2, rfl, hO, hq⟩
 have e9 : wkR (SvP ss fs es nx) (tkR ss fs es nx l) = Q := by
  rw [HQd.out]
  unfold wkR tkR
  by_cases hP : SvP ss fs es nx
  ·rw [if_pos hP]
   by_cases hl : l.length = 0 ∨ 200 < l.length
   ·rw [if_pos hl, inR_no h4 (.inr hl)]
   ·rw [if_neg hl, inR_yes h4 (fun h => h.elim (fun q => q hP) hl)]
  ·rw [if_neg hP, inR_no h4 (.inl hP)]
 rw [e9] at hS1 hS2 hO ⊢
 clear e9 HQd cW
 obtain ⟨C, M, E, N⟩ := Q
 dsimp only at hS1 hS2 hO
 have HR2 := hid ((hq.block _ (lt_heap HR.out)).trans HR.out)
 have HB2 := hid (HBW.out.trans (hq.mono HBW.out.size))
 have hz2 : w.heap.size + 1 + 1 + 1 ≤ V.heap.size := by have := hq.size; have := HZ.out; omega
 have HO2 := hid (show SvL V (w.heap.size + 1 + 1 + 1) b1 b2 b6 c1 c2 c6 S F E from ⟨⟨ownB_le hO.d.o1 (by have := HZ.out; omega), ownB_le hO.d.o2 (by have := HZ.out; omega)⟩, hO.e.le (by have := HZ.out; omega)⟩)
 have HS1 := hid hS1
 have HS2 := hid hS2
 clear hq hO hl0 s0 s1 s2 s3 hS1 hS2
 have r0 : V.cell? ⟨w.heap.size + 1 + 1, 0, none⟩ = some (.slice none 0 0) := ce HR2.out rfl
 have r1 : V.cell? ⟨w.heap.size + 1 + 1, 1, none⟩ = some (.slice none 0 0) := ce HR2.out rfl
 have r2 : V.cell? ⟨w.heap.size + 1 + 1, 2, none⟩ = some (.slice none 0 0) := ce HR2.out rfl
 have r3 : V.cell? ⟨w.heap.size + 1 + 1, 3, none⟩ = some (.int .i64 0) := ce HR2.out rfl
 have r4 : V.cell? ⟨w.heap.size + 1 + 1, 4, none⟩ = some (.int .i64 0) := ce HR2.out rfl
 have r5 : V.cell? ⟨w.heap.size + 1 + 1, 5, none⟩ = some (.int .i64 0) := ce HR2.out rfl
 have rf := Lib.frozen_of_heap HR2.out
 have HQ := hid (ol_set3 N M C HO2.out HB2.out hz2 HR2.out)
 unfold osV
 go_wp2_with fail
 have hF := HQ.out.1
 unfold outSet at hF
 have z0 := Lib.cell_of_heap hF (j := 0)
 have z1 := Lib.cell_of_heap hF (j := 1)
 have z2 := Lib.cell_of_heap hF (j := 2)
 have z3 := Lib.cell_of_heap hF (j := 3)
 have z4 := Lib.cell_of_heap hF (j := 4)
 have z5 := Lib.cell_of_heap hF (j := 5)
 simp at z0 z1 z2 z3 z4 z5
 exact bodyPost_ret (v := .agg #[.slice b1 S.length c1, .slice b2 F.length c2, .slice b6 E.length c6, .int .i64 N, .int .i64 (M : Int), .int .i64 C]) (by simp [results, Tryz.results10, go_sem, z0, z1, z2, z3, z4, z5]) rfl ⟨S, F, b1, b2, b6, c1, c2, c6, HS1.out, HS2.out, rfl, HQ.out.2.1, HQ.out.2.2⟩
end Go.Proofs.YtookchpdbilbcaaGreatDoor
