/-
 Texts put together: ImWk, InS3.
-/
import Derived.Test.YtookchpdbilbcaaGreatDoorZImTd
import Derived.Test.YtookchpdbilbcaaGreatDoorZTkM5
import Derived.Test.YtookchpdbilbcaaGreatDoorZImSO3
set_option maxRecDepth 100000
set_option maxHeartbeats 8000000
/-
 What impl.worked answers, whatever is done: a contract over the seat's program. (Made by mkwk.py.)
-/
namespace Go.Proofs.YtookchpdbilbcaaGreatDoor
open Go.RowKit Go.Sort Go.Maps
/-- What a call that tells a ServiceOut says, its Events' slice maybe cut. -/
def ImPost (w : World) (ss : List ByteArray) (fs : List Pr) (R : Int × Nat × List Ev × Int) (x : Ending) (w' : World) : Prop :=
 ∃ (S : List ByteArray) (F : List Pr) (b1 b2 b6 : Option Addr) (c1 c2 c6 : Nat), (R.1 = 0 → S = ss ∧ F = fs) ∧ (¬ R.1 = 0 → S = [] ∧ F = []) ∧ x = .returned (osV b1 b2 b6 c1 c2 c6 S F R.2.2.1 R.2.2.2 R.2.1 R.1) ∧ SvL w' w.heap.size b1 b2 b6 c1 c2 c6 S F R.2.2.1 ∧ Below w.heap.size w w'
theorem SvL.of_own {w : World} {lo : Nat} {b1 b2 b6 : Option Addr} {c1 c2 c6 : Nat} {ss : List ByteArray} {fs : List Pr} {es : List Ev} (h : SvOwn w lo (.slice b1 ss.length c1) (.slice b2 fs.length c2) (.slice b6 es.length c6) ss fs es) : SvL w lo b1 b2 b6 c1 c2 c6 ss fs es := ⟨h.d, RowL.of_own h.o6⟩
theorem ZD9 {w : World} {ss : List ByteArray} {fs : List Pr} {R : Int × Nat × List Ev × Int} {x : Ending} {w' : World} (h : InPost w ss fs R x w') : ImPost w ss fs R x w' := by
 obtain ⟨S, F, b1, b2, b6, c1, c2, c6, h1, h2, h3, h4, h5⟩ := h
 exact ⟨S, F, b1, b2, b6, c1, c2, c6, h1, h2, h3, SvL.of_own h4, h5⟩
theorem ol_set {w V : World} {b1 b2 b6 : Option Addr} {c1 c2 c6 : Nat} {ss : List ByteArray} {fs : List Pr} {es : List Ev} (nx : Int) (m : Nat) (hO : SvL V (w.heap.size + 1 + 1) b1 b2 b6 c1 c2 c6 ss fs es) (hb : Below w.heap.size w V) (hV : w.heap.size + 1 + 1 ≤ V.heap.size) (hR : V.heap[w.heap.size + 1]? = some (.cells #[.slice none 0 0, .slice none 0 0, .slice none 0 0, .int .i64 0, .int .i64 0, .int .i64 0] 38 (0, 0))) :
  (outSet V (w.heap.size + 1) (.slice b1 ss.length c1) (.slice b2 fs.length c2) (.slice b6 es.length c6) nx m 0).heap[w.heap.size + 1]? = some (.cells #[.slice b1 ss.length c1, .slice b2 fs.length c2, .slice b6 es.length c6, .int .i64 nx, .int .i64 m, .int .i64 0] 38 (0, 0)) ∧
  ImPost w ss fs (0, m, es, nx) (.returned (.agg #[.slice b1 ss.length c1, .slice b2 fs.length c2, .slice b6 es.length c6, .int .i64 nx, .int .i64 m, .int .i64 0])) (outSet V (w.heap.size + 1) (.slice b1 ss.length c1) (.slice b2 fs.length c2) (.slice b6 es.length c6) nx m 0) := by
 have hC : Chg (fun j => j = w.heap.size + 1) V (outSet V (w.heap.size + 1) (.slice b1 ss.length c1) (.slice b2 fs.length c2) (.slice b6 es.length c6) nx m 0) := (((((Chg.of_grown (p := fun j => j = w.heap.size + 1) (ZAF _ (w.heap.size + 1) 0 _) rfl).trans (Chg.of_grown (ZAF _ (w.heap.size + 1) 1 _) rfl)).trans (Chg.of_grown (ZAF _ (w.heap.size + 1) 2 _) rfl)).trans (Chg.of_grown (ZAF _ (w.heap.size + 1) 3 _) rfl)).trans (Chg.of_grown (ZAF _ (w.heap.size + 1) 4 _) rfl)).trans (Chg.of_grown (ZAF _ (w.heap.size + 1) 5 _) rfl)
 refine ⟨?_, ss, fs, b1, b2, b6, c1, c2, c6, fun _ => ⟨rfl, rfl⟩, fun h => absurd rfl h, rfl, ⟨⟨ZAJ (ZAI hO.d.o1 (by omega)) hC (ZAL hO.d.o1 hR (by decide)), ZAJ (ZAI hO.d.o2 (by omega)) hC (ZAL hO.d.o2 hR (by decide))⟩, (hO.e.le (by omega)).chg hC (fun g9 c9 _ h9 (e9 : g9 = w.heap.size + 1) => by rw [e9, hR] at h9; injection h9 with h9; injection h9 with _ h9 _; exact absurd h9 (by decide))⟩, hb.trans (hC.below (by omega) (fun j (h : j = _) => by omega))⟩
 exact ZAG (L := [_, _, _, _, _, _]) (i := 5) (ZAG (L := [_, _, _, _, _, _]) (i := 4) (ZAG (L := [_, _, _, _, _, _]) (i := 3) (ZAG (L := [_, _, _, _, _, _]) (i := 2) (ZAG (L := [_, _, _, _, _, _]) (i := 1) (ZAG (L := [_, _, _, _, _, _]) (i := 0) hR _) _) _) _) _) _
theorem def_nm {ss : List ByteArray} {fs : List Pr} (h : DefP ss fs) : (∀ i, (h : i < ss.length) → ss[i].size ≤ 1000) ∧ (∀ i, (h : i < fs.length) → fs[i].fst.size ≤ 1000 ∧ fs[i].snd.size ≤ 1000) ∧ ss.length ≤ 1048576 ∧ fs.length ≤ 1048576 := by
 have hn : ∀ s, nrB s = true → s.size ≤ 1000 := fun s h => by
  by_cases hh : 1 ≤ s.size ∧ s.size ≤ 20
  ·omega
  ·rw [ZGo hh] at h; cases h
 have hm : ∀ s, s ∈ ss → s.size ≤ 1000 := fun s hs => by
  obtain ⟨i, hi, rfl⟩ := List.mem_iff_getElem.1 hs
  exact hn _ (h.1.nm i hi)
 have h1 := h.1.n2
 have h2 := h.2.m
 exact ⟨fun i hi => hn _ (h.1.nm i hi), fun i hi => ⟨hm _ (h.2.fl i hi).1, hm _ (h.2.fl i hi).2⟩, by omega, by omega⟩
/-- What it tells. -/
def wkR (p : Prop) [Decidable p] (R : Int × Nat × List Ev × Int) : Int × Nat × List Ev × Int := if p then R else (1, 0, [], 0)
theorem ZHC (a1 a2 a6 : Option Addr) (k1 k2 k6 : Nat) (ss : List ByteArray) (fs : List Pr) (es : List Ev) (nx : Int) (fd : Nat) (lb : Array Value) (m : Nat) (R : Int × Nat × List Ev × Int) (w : World) (e0 e1 e2 e3 e4 : Addr) (hD : DefSl w a1 a2 k1 k2 ss fs) (hE : EvSl w (.slice a6 es.length k6) es) (hEr : ErrsAt w e0 e1 e2 e3 e4)
  (F1 : ∀ i, (h : i < ss.length) → ss[i].size ≤ maxLen) (F2 : FitP fs) (FE : Fit es) (n1 : ss.length ≤ maxLen) (n2 : fs.length ≤ maxLen) (n6 : es.length ≤ maxLen)
  (eg : ∀ args w, (callFunc fd args).run Tryz.prog w = .ok (.enter fd args) w) (hR0 : ¬ R.1 = 0 → R.2.2 = ([], 0)) (hRE : SvP ss fs es nx → R.1 = 0 → R.2.2.1.length ≤ 1048576 ∧ ∀ x ∈ R.2.2.1, x.step.size ≤ 1048576 ∧ x.val.size ≤ 1048576)
  (cDo : SvP ss fs es nx → ∀ (w0 W : World) (g bm : Nat) (u : Value), Below w.heap.size w w0 → Below w0.heap.size w0 W → His W w0.heap.size g 94 bm es.length a1 a2 k1 k2 u [.int .i64 nx] ss fs es → Calls Tryz.prog fd (#[.pointer (some ⟨g, 0, none⟩)] ++ lb) W (TkPost w0 g bm m a1 a2 k1 k2 ss fs R)) [Decidable (SvP ss fs es nx)] :
  Calls Tryz.prog 26 #[svV a1 a2 a6 k1 k2 k6 ss fs es nx, .func (.func fd) #[] lb] w fun x w' => ImPost w ss fs (wkR (SvP ss fs es nx) R) x w' := by
 have HBW := hid (show Below w.heap.size w ((w.alloc (.cells #[.slice a1 ss.length k1, .slice a2 fs.length k2, .slice a6 es.length k6, .int .i64 nx] 36)).alloc (.cells #[.slice none 0 0, .slice none 0 0, .slice none 0 0, .int .i64 0, .int .i64 0, .int .i64 0] 38)) from below2 _ _ _)
 have HZ := hid (show ((w.alloc (.cells #[.slice a1 ss.length k1, .slice a2 fs.length k2, .slice a6 es.length k6, .int .i64 nx] 36)).alloc (.cells #[.slice none 0 0, .slice none 0 0, .slice none 0 0, .int .i64 0, .int .i64 0, .int .i64 0] 38)).heap.size = w.heap.size + 1 + 1 by simp)
 have HA := hid (show ((w.alloc (.cells #[.slice a1 ss.length k1, .slice a2 fs.length k2, .slice a6 es.length k6, .int .i64 nx] 36)).alloc (.cells #[.slice none 0 0, .slice none 0 0, .slice none 0 0, .int .i64 0, .int .i64 0, .int .i64 0] 38)).heap[w.heap.size]? = some (.cells #[.slice a1 ss.length k1, .slice a2 fs.length k2, .slice a6 es.length k6, .int .i64 nx] 36 (0, 0)) from (Below.heap_alloc _ _ _ (by simp)).trans (heap_alloc_new w _))
 have HR := hid (show ((w.alloc (.cells #[.slice a1 ss.length k1, .slice a2 fs.length k2, .slice a6 es.length k6, .int .i64 nx] 36)).alloc (.cells #[.slice none 0 0, .slice none 0 0, .slice none 0 0, .int .i64 0, .int .i64 0, .int .i64 0] 38)).heap[w.heap.size + 1]? = some (.cells #[.slice none 0 0, .slice none 0 0, .slice none 0 0, .int .i64 0, .int .i64 0, .int .i64 0] 38 (0, 0)) by have h := heap_alloc_new (w.alloc (.cells #[.slice a1 ss.length k1, .slice a2 fs.length k2, .slice a6 es.length k6, .int .i64 nx] 36)) (.cells #[.slice none 0 0, .slice none 0 0, .slice none 0 0, .int .i64 0, .int .i64 0, .int .i64 0] 38); rw [World.size_alloc] at h; exact h)
 have HD := hid hD
 have HE := hid hE
 have HER := hid hEr
 have HDo := hid cDo
 have HR0 := hid hR0
 have HRE := hid hRE
 clear hD hE hEr cDo hR0 hRE
 obtain ⟨Q, hQ⟩ : ∃ Q, Q = wkR (SvP ss fs es nx) R := ⟨_, rfl⟩
 rw [← hQ]
 have HQd := hid hQ
 clear hQ
 go_enter Tryz.func26, Tryz.ntmps26
 go_upto_region 1 with fail
 generalize ((w.alloc (.cells #[.slice a1 ss.length k1, .slice a2 fs.length k2, .slice a6 es.length k6, .int .i64 nx] 36)).alloc (.cells #[.slice none 0 0, .slice none 0 0, .slice none 0 0, .int .i64 0, .int .i64 0, .int .i64 0] 38)) = W at *
 have s0 : W.cell? ⟨w.heap.size, 0, none⟩ = some (.slice a1 ss.length k1) := ce HA.out rfl
 have s1 : W.cell? ⟨w.heap.size, 1, none⟩ = some (.slice a2 fs.length k2) := ce HA.out rfl
 have s2 : W.cell? ⟨w.heap.size, 2, none⟩ = some (.slice a6 es.length k6) := ce HA.out rfl
 have s3 : W.cell? ⟨w.heap.size, 3, none⟩ = some (.int .i64 nx) := ce HA.out rfl
 go_wp2_with fail
 refine (ZBa a1 a2 a6 k1 k2 k6 ss fs es nx W (HD.out.stay HBW.out) (HE.out.stay HBW.out nL) F1 F2 FE n1 n2 n6 e0 e1 e2 e3 e4 (HER.out.stay HBW.out)).mono ?_
 rintro x V1 ⟨hx, hq1⟩
 have HB1 := hid (HBW.out.trans (hq1.mono HBW.out.size))
 have HR1 := hid ((hq1.block _ (ZAA HR.out)).trans HR.out)
 have HA1 := hid ((hq1.block _ (ZAA HA.out)).trans HA.out)
 have hz1 : w.heap.size + 1 + 1 ≤ V1.heap.size := by have := hq1.size; have := HZ.out; omega
 clear hq1 s0 s1 s2 s3
 by_cases hP : SvP ss fs es nx
 case neg =>
  rw [hx.no hP]
  have e9 : Q = (1, 0, [], 0) := HQd.out.trans (show wkR (SvP ss fs es nx) R = (1, 0, [], 0) from if_neg hP)
  clear HQd
  subst e9
  clear hx HDo HRE HR0
  have r0 : V1.cell? ⟨w.heap.size + 1, 0, none⟩ = some (.slice none 0 0) := ce HR1.out rfl
  have r1 : V1.cell? ⟨w.heap.size + 1, 1, none⟩ = some (.slice none 0 0) := ce HR1.out rfl
  have r2 : V1.cell? ⟨w.heap.size + 1, 2, none⟩ = some (.slice none 0 0) := ce HR1.out rfl
  have r3 : V1.cell? ⟨w.heap.size + 1, 3, none⟩ = some (.int .i64 0) := ce HR1.out rfl
  have r4 : V1.cell? ⟨w.heap.size + 1, 4, none⟩ = some (.int .i64 0) := ce HR1.out rfl
  have r5 : V1.cell? ⟨w.heap.size + 1, 5, none⟩ = some (.int .i64 0) := ce HR1.out rfl
  have rf := Lib.frozen_of_heap HR1.out
  have HQ := hid (show _ ∧ ImPost w ss fs (1, 0, [], 0) _ _ from (ZEb ss fs 0 1 (by decide) HB1.out hz1 HR1.out).imp (fun h => h) ZD9)
  go_wp2_with fail
  have hF := HQ.out.1
  unfold outSet at hF
  have z0 := Lib.cell_of_heap hF (j := 0)
  have z1 := Lib.cell_of_heap hF (j := 1)
  have z2 := Lib.cell_of_heap hF (j := 2)
  have z3 := Lib.cell_of_heap hF (j := 3)
  have z4 := Lib.cell_of_heap hF (j := 4)
  have z5 := Lib.cell_of_heap hF (j := 5)
  simp at z0 z1 z2 z3 z4 z5
  exact bodyPost_ret (v := .agg #[.slice none 0 0, .slice none 0 0, .slice none 0 0, .int .i64 0, .int .i64 (0 : Nat), .int .i64 1]) (by simp [results, Tryz.results26, go_sem, z0, z1, z2, z3, z4, z5]) rfl HQ.out.2
 rw [hx.yes hP]
 have e9 : R = Q := (HQd.out.trans (show wkR (SvP ss fs es nx) R = R from if_pos hP)).symm
 clear HQd
 subst e9
 have HP := hid hP
 clear hx hP
 have s0 : V1.cell? ⟨w.heap.size, 0, none⟩ = some (.slice a1 ss.length k1) := ce HA1.out rfl
 have s1 : V1.cell? ⟨w.heap.size, 1, none⟩ = some (.slice a2 fs.length k2) := ce HA1.out rfl
 have s2 : V1.cell? ⟨w.heap.size, 2, none⟩ = some (.slice a6 es.length k6) := ce HA1.out rfl
 have s3 : V1.cell? ⟨w.heap.size, 3, none⟩ = some (.int .i64 nx) := ce HA1.out rfl
 go_wp2_with fail
 refine (ZE0 a1 a2 a6 k1 k2 k6 ss fs es nx V1 e0 e1 e2 e3 e4 (HD.out.stay HB1.out) (HE.out.stay HB1.out nL) (HER.out.stay HB1.out) HP.out.h F1 F2 (fun i h => (FE i h).1)).mono ?_
 rintro x V2 ⟨g, u, bm, rfl, hH2, hq2⟩
 have HB2 := hid (HB1.out.trans (hq2.mono HB1.out.size))
 have HR2 := hid ((hq2.block _ (ZAA HR1.out)).trans HR1.out)
 have hz2 : w.heap.size + 1 + 1 ≤ V2.heap.size := by have := hq2.size; omega
 have HH2 := hid hH2
 have hlg := hH2.lB
 have hlm := hH2.lm
 have HQ2 := hid hq2
 clear hq2 hH2 s0 s1 s2 s3 hlg hlm
 go_wp2_with fail
 refine (HDo.out HP.out V1 V2 g bm u HB1.out HQ2.out HH2.out).mono ?_
 rintro x V3 ⟨rfl, hy, hb3⟩
 obtain ⟨C, M, E, N⟩ := R
 dsimp only at hy HR0 HRE
 have HY := hid hy
 have HR3 := hid ((hb3.block _ (ZAA HR1.out)).trans HR1.out)
 have HB3 := hid (HB1.out.trans (hb3.mono HB1.out.size))
 have hz3 : w.heap.size + 1 + 1 ≤ V3.heap.size := by have := hb3.size; omega
 clear hy hb3 HDo HH2 HQ2 HR2 HB2 hz2 HA HA1 HR HBW HZ HE HER
 by_cases hc : C = 0
 case neg =>
  have bc : (C != 0) = true := by simpa using hc
  obtain ⟨hE9, hN9⟩ := Prod.mk.inj (HR0.out hc)
  subst hE9
  subst hN9
  have r0 : V3.cell? ⟨w.heap.size + 1, 0, none⟩ = some (.slice none 0 0) := ce HR3.out rfl
  have r1 : V3.cell? ⟨w.heap.size + 1, 1, none⟩ = some (.slice none 0 0) := ce HR3.out rfl
  have r2 : V3.cell? ⟨w.heap.size + 1, 2, none⟩ = some (.slice none 0 0) := ce HR3.out rfl
  have r3 : V3.cell? ⟨w.heap.size + 1, 3, none⟩ = some (.int .i64 0) := ce HR3.out rfl
  have r4 : V3.cell? ⟨w.heap.size + 1, 4, none⟩ = some (.int .i64 0) := ce HR3.out rfl
  have r5 : V3.cell? ⟨w.heap.size + 1, 5, none⟩ = some (.int .i64 0) := ce HR3.out rfl
  have rf := Lib.frozen_of_heap HR3.out
  have HQ := hid (show _ ∧ ImPost w ss fs (C, M, [], 0) _ _ from (ZEb ss fs M C hc HB3.out hz3 HR3.out).imp (fun h => h) ZD9)
  go_wp2_with fail
  have hF := HQ.out.1
  unfold outSet at hF
  have z0 := Lib.cell_of_heap hF (j := 0)
  have z1 := Lib.cell_of_heap hF (j := 1)
  have z2 := Lib.cell_of_heap hF (j := 2)
  have z3 := Lib.cell_of_heap hF (j := 3)
  have z4 := Lib.cell_of_heap hF (j := 4)
  have z5 := Lib.cell_of_heap hF (j := 5)
  simp at z0 z1 z2 z3 z4 z5
  exact bodyPost_ret (v := .agg #[.slice none 0 0, .slice none 0 0, .slice none 0 0, .int .i64 0, .int .i64 (M : Int), .int .i64 C]) (by simp [results, Tryz.results26, go_sem, z0, z1, z2, z3, z4, z5]) rfl HQ.out.2
 subst hc
 obtain ⟨u', n', _, hH3⟩ := HY.out rfl
 have HE3 := hid (HRE.out HP.out rfl)
 have HDn := hid (def_nm HP.out.h.d)
 go_wp2_with fail
 refine (ZHo V3 g bm n' V1.heap.size a1 a2 k1 k2 u' ss fs E N hH3 (HD.out.stay HB3.out) HDn.out.1 HDn.out.2.1 HDn.out.2.2.1 HDn.out.2.2.2 HE3.out.2 HE3.out.1).mono ?_
 rintro x V4 ⟨b1, b2, b6, c1, c2, c6, rfl, hO4, hq4⟩
 have HR4 := hid ((hq4.block _ (ZAA HR3.out)).trans HR3.out)
 have HB4 := hid (HB3.out.trans (hq4.mono HB3.out.size))
 have hz4 : w.heap.size + 1 + 1 ≤ V4.heap.size := by have := hq4.size; omega
 have HO4 := hid (show SvL V4 (w.heap.size + 1 + 1) b1 b2 b6 c1 c2 c6 ss fs E from ⟨⟨ZAI hO4.d.o1 hz3, ZAI hO4.d.o2 hz3⟩, hO4.e.le hz3⟩)
 clear hq4 hO4 hH3
 have r0 : V4.cell? ⟨w.heap.size + 1, 0, none⟩ = some (.slice none 0 0) := ce HR4.out rfl
 have r1 : V4.cell? ⟨w.heap.size + 1, 1, none⟩ = some (.slice none 0 0) := ce HR4.out rfl
 have r2 : V4.cell? ⟨w.heap.size + 1, 2, none⟩ = some (.slice none 0 0) := ce HR4.out rfl
 have r3 : V4.cell? ⟨w.heap.size + 1, 3, none⟩ = some (.int .i64 0) := ce HR4.out rfl
 have r4 : V4.cell? ⟨w.heap.size + 1, 4, none⟩ = some (.int .i64 0) := ce HR4.out rfl
 have r5 : V4.cell? ⟨w.heap.size + 1, 5, none⟩ = some (.int .i64 0) := ce HR4.out rfl
 have rf := Lib.frozen_of_heap HR4.out
 have HQ := hid (ol_set N M HO4.out HB4.out hz4 HR4.out)
 go_wp2_with fail
 have hF := HQ.out.1
 unfold outSet at hF
 have z0 := Lib.cell_of_heap hF (j := 0)
 have z1 := Lib.cell_of_heap hF (j := 1)
 have z2 := Lib.cell_of_heap hF (j := 2)
 have z3 := Lib.cell_of_heap hF (j := 3)
 have z4 := Lib.cell_of_heap hF (j := 4)
 have z5 := Lib.cell_of_heap hF (j := 5)
 simp at z0 z1 z2 z3 z4 z5
 exact bodyPost_ret (v := .agg #[.slice b1 ss.length c1, .slice b2 fs.length c2, .slice b6 E.length c6, .int .i64 N, .int .i64 (M : Int), .int .i64 0]) (by simp [results, Tryz.results26, go_sem, z0, z1, z2, z3, z4, z5]) rfl HQ.out.2
end Go.Proofs.YtookchpdbilbcaaGreatDoor
/-
 A ServiceOut in a third variable, and right events are small. Of no function. (Cut off ImIn.)
-/
namespace Go.Proofs.YtookchpdbilbcaaGreatDoor
open Go.RowKit Go.Sort Go.Maps
theorem new3i (w : World) (o1 o2 o3 : Obj) : (((w.alloc o1).alloc o2).alloc o3).heap[w.heap.size]? = some o1 ∧ (((w.alloc o1).alloc o2).alloc o3).heap[w.heap.size + 1]? = some o2 ∧ (((w.alloc o1).alloc o2).alloc o3).heap[w.heap.size + 1 + 1]? = some o3 := by
 have h2 := World.alloc_heap_new (w.alloc o1) o2
 have h3 := World.alloc_heap_new ((w.alloc o1).alloc o2) o3
 rw [World.size_alloc] at h2
 rw [World.size_alloc, World.size_alloc] at h3
 exact ⟨(Below.heap_alloc _ _ _ (by simp; omega)).trans ((Below.heap_alloc _ _ _ (by simp)).trans (World.alloc_heap_new w o1)), (Below.heap_alloc _ _ _ (by simp)).trans h2, h3⟩
theorem ol_set3 {w V : World} {b1 b2 b6 : Option Addr} {c1 c2 c6 : Nat} {ss : List ByteArray} {fs : List Pr} {es : List Ev} (nx : Int) (m : Nat) (c : Int) (hO : SvL V (w.heap.size + 1 + 1 + 1) b1 b2 b6 c1 c2 c6 ss fs es) (hb : Below w.heap.size w V) (hV : w.heap.size + 1 + 1 + 1 ≤ V.heap.size) (hR : V.heap[w.heap.size + 1 + 1]? = some (.cells #[.slice none 0 0, .slice none 0 0, .slice none 0 0, .int .i64 0, .int .i64 0, .int .i64 0] 38 (0, 0))) :
  (outSet V (w.heap.size + 1 + 1) (.slice b1 ss.length c1) (.slice b2 fs.length c2) (.slice b6 es.length c6) nx m c).heap[w.heap.size + 1 + 1]? = some (.cells #[.slice b1 ss.length c1, .slice b2 fs.length c2, .slice b6 es.length c6, .int .i64 nx, .int .i64 m, .int .i64 c] 38 (0, 0)) ∧
  SvL (outSet V (w.heap.size + 1 + 1) (.slice b1 ss.length c1) (.slice b2 fs.length c2) (.slice b6 es.length c6) nx m c) w.heap.size b1 b2 b6 c1 c2 c6 ss fs es ∧ Below w.heap.size w (outSet V (w.heap.size + 1 + 1) (.slice b1 ss.length c1) (.slice b2 fs.length c2) (.slice b6 es.length c6) nx m c) := by
 have hC : Chg (fun j => j = w.heap.size + 1 + 1) V (outSet V (w.heap.size + 1 + 1) (.slice b1 ss.length c1) (.slice b2 fs.length c2) (.slice b6 es.length c6) nx m c) := (((((Chg.of_grown (p := fun j => j = w.heap.size + 1 + 1) (ZAF _ (w.heap.size + 1 + 1) 0 _) rfl).trans (Chg.of_grown (ZAF _ (w.heap.size + 1 + 1) 1 _) rfl)).trans (Chg.of_grown (ZAF _ (w.heap.size + 1 + 1) 2 _) rfl)).trans (Chg.of_grown (ZAF _ (w.heap.size + 1 + 1) 3 _) rfl)).trans (Chg.of_grown (ZAF _ (w.heap.size + 1 + 1) 4 _) rfl)).trans (Chg.of_grown (ZAF _ (w.heap.size + 1 + 1) 5 _) rfl)
 refine ⟨?_, ⟨⟨ZAJ (ZAI hO.d.o1 (by omega)) hC (ZAL hO.d.o1 hR (by decide)), ZAJ (ZAI hO.d.o2 (by omega)) hC (ZAL hO.d.o2 hR (by decide))⟩, (hO.e.le (by omega)).chg hC (fun g9 c9 _ h9 (e9 : g9 = w.heap.size + 1 + 1) => by rw [e9, hR] at h9; injection h9 with h9; injection h9 with _ h9 _; exact absurd h9 (by decide))⟩, hb.trans (hC.below (by omega) (fun j (h : j = _) => by omega))⟩
 exact ZAG (L := [_, _, _, _, _, _]) (i := 5) (ZAG (L := [_, _, _, _, _, _]) (i := 4) (ZAG (L := [_, _, _, _, _, _]) (i := 3) (ZAG (L := [_, _, _, _, _, _]) (i := 2) (ZAG (L := [_, _, _, _, _, _]) (i := 1) (ZAG (L := [_, _, _, _, _, _]) (i := 0) hR _) _) _) _) _) _
theorem ZI9 {e : Ev} (h : evB e = true) : e.step.size ≤ 1048576 ∧ e.val.size ≤ 1048576 := by
 have hn : ∀ s, nrB s = true → s.size ≤ 20 := fun s h => by
  by_cases hh : 1 ≤ s.size ∧ s.size ≤ 20
  ·omega
  ·rw [ZGo hh] at h; cases h
 have hk : kndB e.kind e.step e.val = true := by unfold evB at h; simp at h; exact h.2.2.2
 unfold kndB at hk
 by_cases h1 : e.kind = 1 ∨ e.kind = 6
 ·rw [if_pos h1] at hk; simp at hk; rw [hk.1, hk.2]; decide
 ·rw [if_neg h1] at hk
  by_cases h2 : e.kind = 2 ∨ e.kind = 3 ∨ e.kind = 5
  ·rw [if_pos h2] at hk; simp at hk; rw [hk.2]; have := hn _ hk.1; exact ⟨by omega, by decide⟩
  ·rw [if_neg h2] at hk
   by_cases h3 : e.kind = 4
   ·rw [if_pos h3] at hk; simp at hk; have := hn _ hk.1; exact ⟨by omega, by omega⟩
   ·rw [if_neg h3] at hk; cases hk
end Go.Proofs.YtookchpdbilbcaaGreatDoor
