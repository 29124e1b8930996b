/-
  What spec.l03Step answers where the event is done: contracts over the seat's program. (Made by mkstep.py.)
-/
import Derived.Test.YthggcdadipjiiaaGreatDoorZSpDoA2
namespace Go.Proofs.YthggcdadipjiiaaGreatDoor
open Go.RowKit Go.Sort

set_option maxRecDepth 100000 in
set_option maxHeartbeats 4000000 in
theorem l03Step_go1 (a1 a2 a3 a4 a5 : Option Addr) (k1 k2 k3 k4 k5 : Nat) (ss : List ByteArray) (fs : List Pr) (st bg la fa q t r k : Int) (wt bs : List ByteArray) (vs : List Pr) (s v : ByteArray) (w : World) (h1 : StrSl w (.slice a1 ss.length k1) ss) (h2 : PrSl w (.slice a2 fs.length k2) fs) (h3 : StrSl w (.slice a3 wt.length k3) wt) (h4 : StrSl w (.slice a4 bs.length k4) bs) (h5 : PrSl w (.slice a5 vs.length k5) vs) (h0 : 0 < ss.length) (hfl : fs.length ≤ 40) (hl1 : ∀ g o, a1 = some ⟨g, o, none⟩ → g < w.heap.size) (hl2 : ∀ g o, a2 = some ⟨g, o, none⟩ → g < w.heap.size) (n3 : wt.length ≤ 1000) (n4 : bs.length ≤ 1000) (n5 : vs.length ≤ 1000) (hf0 : 0 ≤ fa) (hkk : k = 1 ∨ k = 2 ∨ k = 3 ∨ k = 4 ∨ k = 5 ∨ k = 6) (hk : k = 1) (hs : st = 0) (ht : ¬ t < la) :
    Calls Tryz.prog 50 #[.agg #[.slice a1 ss.length k1, .slice a2 fs.length k2], .agg #[.int .i64 st, .int .i64 bg, .int .i64 la, .slice a3 wt.length k3, .slice a4 bs.length k4, .slice a5 vs.length k5, .int .i64 fa], .agg #[.int .i64 q, .int .i64 t, .int .i64 r, .int .i64 k, .string s, .string v]] w fun e w' => StepPost w.heap.size w (doS ss fs (⟨st, bg, la, wt, bs, vs, fa⟩ : St) (⟨q, t, r, k, s, v⟩ : Ev)).1 (doS ss fs (⟨st, bg, la, wt, bs, vs, fa⟩ : St) (⟨q, t, r, k, s, v⟩ : Ev)).2 e w' := by
  have hk1 : (k == 1) = true := by rw [hk]; rfl
  have hk3 : (k != 1) = false := by rw [hk]; rfl
  have hs1 : (st != 0) = false := by rw [hs]; rfl
  have HKS := hid (And.intro hk hs)
  clear hk hs
  have hbW : Below w.heap.size w ((((w.alloc (.cells #[.slice a1 ss.length k1, .slice a2 fs.length k2] 26)).alloc (.cells #[.int .i64 st, .int .i64 bg, .int .i64 la, .slice a3 wt.length k3, .slice a4 bs.length k4, .slice a5 vs.length k5, .int .i64 fa] 91)).alloc (.cells #[.int .i64 q, .int .i64 t, .int .i64 r, .int .i64 k, .string s, .string v] 33)).alloc (.cells #[.int .i64 0, .int .i64 0, .int .i64 0, .slice none 0 0, .slice none 0 0, .slice none 0 0, .int .i64 0, .int .i64 0] 93)) := below4 _ _ _ _ _
  have hWs : ((((w.alloc (.cells #[.slice a1 ss.length k1, .slice a2 fs.length k2] 26)).alloc (.cells #[.int .i64 st, .int .i64 bg, .int .i64 la, .slice a3 wt.length k3, .slice a4 bs.length k4, .slice a5 vs.length k5, .int .i64 fa] 91)).alloc (.cells #[.int .i64 q, .int .i64 t, .int .i64 r, .int .i64 k, .string s, .string v] 33)).alloc (.cells #[.int .i64 0, .int .i64 0, .int .i64 0, .slice none 0 0, .slice none 0 0, .slice none 0 0, .int .i64 0, .int .i64 0] 93)).heap.size = w.heap.size + 1 + 1 + 1 + 1 := by simp
  have HRW := hid (show ((((w.alloc (.cells #[.slice a1 ss.length k1, .slice a2 fs.length k2] 26)).alloc (.cells #[.int .i64 st, .int .i64 bg, .int .i64 la, .slice a3 wt.length k3, .slice a4 bs.length k4, .slice a5 vs.length k5, .int .i64 fa] 91)).alloc (.cells #[.int .i64 q, .int .i64 t, .int .i64 r, .int .i64 k, .string s, .string v] 33)).alloc (.cells #[.int .i64 0, .int .i64 0, .int .i64 0, .slice none 0 0, .slice none 0 0, .slice none 0 0, .int .i64 0, .int .i64 0] 93)).heap[w.heap.size + 1 + 1 + 1]? = some (.cells #[.int .i64 0, .int .i64 0, .int .i64 0, .slice none 0 0, .slice none 0 0, .slice none 0 0, .int .i64 0, .int .i64 0] 93 (0, 0)) from by
    have h := heap_alloc_new (((w.alloc (.cells #[.slice a1 ss.length k1, .slice a2 fs.length k2] 26)).alloc (.cells #[.int .i64 st, .int .i64 bg, .int .i64 la, .slice a3 wt.length k3, .slice a4 bs.length k4, .slice a5 vs.length k5, .int .i64 fa] 91)).alloc (.cells #[.int .i64 q, .int .i64 t, .int .i64 r, .int .i64 k, .string s, .string v] 33)) (.cells #[.int .i64 0, .int .i64 0, .int .i64 0, .slice none 0 0, .slice none 0 0, .slice none 0 0, .int .i64 0, .int .i64 0] 93 (0, 0))
    rw [show (((w.alloc (.cells #[.slice a1 ss.length k1, .slice a2 fs.length k2] 26)).alloc (.cells #[.int .i64 st, .int .i64 bg, .int .i64 la, .slice a3 wt.length k3, .slice a4 bs.length k4, .slice a5 vs.length k5, .int .i64 fa] 91)).alloc (.cells #[.int .i64 q, .int .i64 t, .int .i64 r, .int .i64 k, .string s, .string v] 33)).heap.size = w.heap.size + 1 + 1 + 1 by simp] at h
    exact h)
  have H1 := hid (h1.stay hbW (Nat.le_refl _))
  have H2 := hid (h2.stay hbW (Nat.le_refl _))
  have cC := hid (l03Copy_any a3 a4 a5 k3 k4 k5 st bg la fa wt bs vs _ (h3.stay hbW (Nat.le_refl _)) (h4.stay hbW (Nat.le_refl _)) (h5.stay hbW (Nat.le_refl _)) (by omega) (by omega) (by omega))
  have HBW := hid hbW
  have HK := hid hkk
  have HX1 := hid (fun g o (h : a1 = some ⟨g, o, none⟩) => hl1 g o h)
  have HX2 := hid (fun g o (h : a2 = some ⟨g, o, none⟩) => hl2 g o h)
  clear h1 h2 h3 h4 h5 hbW hkk hl1 hl2
  have D0 := hid (show ((((w.alloc (.cells #[.slice a1 ss.length k1, .slice a2 fs.length k2] 26)).alloc (.cells #[.int .i64 st, .int .i64 bg, .int .i64 la, .slice a3 wt.length k3, .slice a4 bs.length k4, .slice a5 vs.length k5, .int .i64 fa] 91)).alloc (.cells #[.int .i64 q, .int .i64 t, .int .i64 r, .int .i64 k, .string s, .string v] 33)).alloc (.cells #[.int .i64 0, .int .i64 0, .int .i64 0, .slice none 0 0, .slice none 0 0, .slice none 0 0, .int .i64 0, .int .i64 0] 93)).cell? ⟨w.heap.size, 0, none⟩ = some (.slice a1 ss.length k1) by simp [go_sem])
  have D1 := hid (show ((((w.alloc (.cells #[.slice a1 ss.length k1, .slice a2 fs.length k2] 26)).alloc (.cells #[.int .i64 st, .int .i64 bg, .int .i64 la, .slice a3 wt.length k3, .slice a4 bs.length k4, .slice a5 vs.length k5, .int .i64 fa] 91)).alloc (.cells #[.int .i64 q, .int .i64 t, .int .i64 r, .int .i64 k, .string s, .string v] 33)).alloc (.cells #[.int .i64 0, .int .i64 0, .int .i64 0, .slice none 0 0, .slice none 0 0, .slice none 0 0, .int .i64 0, .int .i64 0] 93)).cell? ⟨w.heap.size, 1, none⟩ = some (.slice a2 fs.length k2) by simp [go_sem])
  have E0 := hid (show ((((w.alloc (.cells #[.slice a1 ss.length k1, .slice a2 fs.length k2] 26)).alloc (.cells #[.int .i64 st, .int .i64 bg, .int .i64 la, .slice a3 wt.length k3, .slice a4 bs.length k4, .slice a5 vs.length k5, .int .i64 fa] 91)).alloc (.cells #[.int .i64 q, .int .i64 t, .int .i64 r, .int .i64 k, .string s, .string v] 33)).alloc (.cells #[.int .i64 0, .int .i64 0, .int .i64 0, .slice none 0 0, .slice none 0 0, .slice none 0 0, .int .i64 0, .int .i64 0] 93)).cell? ⟨w.heap.size + 1 + 1, 0, none⟩ = some (.int .i64 q) by simp [go_sem])
  have E1 := hid (show ((((w.alloc (.cells #[.slice a1 ss.length k1, .slice a2 fs.length k2] 26)).alloc (.cells #[.int .i64 st, .int .i64 bg, .int .i64 la, .slice a3 wt.length k3, .slice a4 bs.length k4, .slice a5 vs.length k5, .int .i64 fa] 91)).alloc (.cells #[.int .i64 q, .int .i64 t, .int .i64 r, .int .i64 k, .string s, .string v] 33)).alloc (.cells #[.int .i64 0, .int .i64 0, .int .i64 0, .slice none 0 0, .slice none 0 0, .slice none 0 0, .int .i64 0, .int .i64 0] 93)).cell? ⟨w.heap.size + 1 + 1, 1, none⟩ = some (.int .i64 t) by simp [go_sem])
  have E2 := hid (show ((((w.alloc (.cells #[.slice a1 ss.length k1, .slice a2 fs.length k2] 26)).alloc (.cells #[.int .i64 st, .int .i64 bg, .int .i64 la, .slice a3 wt.length k3, .slice a4 bs.length k4, .slice a5 vs.length k5, .int .i64 fa] 91)).alloc (.cells #[.int .i64 q, .int .i64 t, .int .i64 r, .int .i64 k, .string s, .string v] 33)).alloc (.cells #[.int .i64 0, .int .i64 0, .int .i64 0, .slice none 0 0, .slice none 0 0, .slice none 0 0, .int .i64 0, .int .i64 0] 93)).cell? ⟨w.heap.size + 1 + 1, 2, none⟩ = some (.int .i64 r) by simp [go_sem])
  have E3 := hid (show ((((w.alloc (.cells #[.slice a1 ss.length k1, .slice a2 fs.length k2] 26)).alloc (.cells #[.int .i64 st, .int .i64 bg, .int .i64 la, .slice a3 wt.length k3, .slice a4 bs.length k4, .slice a5 vs.length k5, .int .i64 fa] 91)).alloc (.cells #[.int .i64 q, .int .i64 t, .int .i64 r, .int .i64 k, .string s, .string v] 33)).alloc (.cells #[.int .i64 0, .int .i64 0, .int .i64 0, .slice none 0 0, .slice none 0 0, .slice none 0 0, .int .i64 0, .int .i64 0] 93)).cell? ⟨w.heap.size + 1 + 1, 3, none⟩ = some (.int .i64 k) by simp [go_sem])
  have E4 := hid (show ((((w.alloc (.cells #[.slice a1 ss.length k1, .slice a2 fs.length k2] 26)).alloc (.cells #[.int .i64 st, .int .i64 bg, .int .i64 la, .slice a3 wt.length k3, .slice a4 bs.length k4, .slice a5 vs.length k5, .int .i64 fa] 91)).alloc (.cells #[.int .i64 q, .int .i64 t, .int .i64 r, .int .i64 k, .string s, .string v] 33)).alloc (.cells #[.int .i64 0, .int .i64 0, .int .i64 0, .slice none 0 0, .slice none 0 0, .slice none 0 0, .int .i64 0, .int .i64 0] 93)).cell? ⟨w.heap.size + 1 + 1, 4, none⟩ = some (.string s) by simp [go_sem])
  have E5 := hid (show ((((w.alloc (.cells #[.slice a1 ss.length k1, .slice a2 fs.length k2] 26)).alloc (.cells #[.int .i64 st, .int .i64 bg, .int .i64 la, .slice a3 wt.length k3, .slice a4 bs.length k4, .slice a5 vs.length k5, .int .i64 fa] 91)).alloc (.cells #[.int .i64 q, .int .i64 t, .int .i64 r, .int .i64 k, .string s, .string v] 33)).alloc (.cells #[.int .i64 0, .int .i64 0, .int .i64 0, .slice none 0 0, .slice none 0 0, .slice none 0 0, .int .i64 0, .int .i64 0] 93)).cell? ⟨w.heap.size + 1 + 1, 5, none⟩ = some (.string v) by simp [go_sem])
  go_enter Tryz.func50, Tryz.ntmps50
  go_wp2_with fail
  refine cC.out.mono ?_
  generalize ((((w.alloc (.cells #[.slice a1 ss.length k1, .slice a2 fs.length k2] 26)).alloc (.cells #[.int .i64 st, .int .i64 bg, .int .i64 la, .slice a3 wt.length k3, .slice a4 bs.length k4, .slice a5 vs.length k5, .int .i64 fa] 91)).alloc (.cells #[.int .i64 q, .int .i64 t, .int .i64 r, .int .i64 k, .string s, .string v] 33)).alloc (.cells #[.int .i64 0, .int .i64 0, .int .i64 0, .slice none 0 0, .slice none 0 0, .slice none 0 0, .int .i64 0, .int .i64 0] 93)) = W at *
  rintro e W1 ⟨b3, b4, b5, c3, c4, c5, m1, m2, rfl, o3, o4, o5, ⟨hm1, hm2, hl3, hl4⟩, hb1⟩
  have hbO : Below W1.heap.size W1 (W1.alloc (.cells #[.int .i64 st, .int .i64 bg, .int .i64 la, .slice b3 wt.length c3, .slice b4 bs.length c4, .slice b5 vs.length c5, .int .i64 fa] 91)) := (Below.refl _ _).alloc (Nat.le_refl _) _
  have hz1 := hb1.size
  have HB1 := hid (HBW.out.trans (hb1.mono HBW.out.size))
  have hbX : Below W.heap.size W (W1.alloc (.cells #[.int .i64 st, .int .i64 bg, .int .i64 la, .slice b3 wt.length c3, .slice b4 bs.length c4, .slice b5 vs.length c5, .int .i64 fa] 91)) := hb1.trans (hbO.mono hb1.size)
  have d0 := (hbX.cell (p := ⟨w.heap.size, 0, none⟩) (by show w.heap.size < _; omega)).trans D0.out
  have d1 := (hbX.cell (p := ⟨w.heap.size, 1, none⟩) (by show w.heap.size < _; omega)).trans D1.out
  have e0 := (hbX.cell (p := ⟨w.heap.size + 1 + 1, 0, none⟩) (by show w.heap.size + 1 + 1 < _; omega)).trans E0.out
  have e1 := (hbX.cell (p := ⟨w.heap.size + 1 + 1, 1, none⟩) (by show w.heap.size + 1 + 1 < _; omega)).trans E1.out
  have e2 := (hbX.cell (p := ⟨w.heap.size + 1 + 1, 2, none⟩) (by show w.heap.size + 1 + 1 < _; omega)).trans E2.out
  have e3 := (hbX.cell (p := ⟨w.heap.size + 1 + 1, 3, none⟩) (by show w.heap.size + 1 + 1 < _; omega)).trans E3.out
  have e4 := (hbX.cell (p := ⟨w.heap.size + 1 + 1, 4, none⟩) (by show w.heap.size + 1 + 1 < _; omega)).trans E4.out
  have e5 := (hbX.cell (p := ⟨w.heap.size + 1 + 1, 5, none⟩) (by show w.heap.size + 1 + 1 < _; omega)).trans E5.out
  have HRX := hid ((hbX.block (w.heap.size + 1 + 1 + 1) (by omega)).trans HRW.out)
  have HOX := hid (show StOwn (W1.alloc (.cells #[.int .i64 st, .int .i64 bg, .int .i64 la, .slice b3 wt.length c3, .slice b4 bs.length c4, .slice b5 vs.length c5, .int .i64 fa] 91)) w.heap.size (.slice b3 wt.length c3) (.slice b4 bs.length c4) (.slice b5 vs.length c5) (⟨st, bg, la, wt, bs, vs, fa⟩ : St) from ⟨ownB_stay (ownB_le o3 (by omega)) hbO, ownB_stay (ownB_le o4 (by omega)) hbO, ownB_stay (ownB_le o5 (by omega)) hbO, fun g hg he => by have := hl3 g hg; have := (o4.lt g he).1; omega⟩)
  have HSX := hid (show SaS (W1.alloc (.cells #[.int .i64 st, .int .i64 bg, .int .i64 la, .slice b3 wt.length c3, .slice b4 bs.length c4, .slice b5 vs.length c5, .int .i64 fa] 91)) W1.heap.size (.slice b3 wt.length c3) (.slice b4 bs.length c4) (.slice b5 vs.length c5) (⟨st, bg, la, wt, bs, vs, fa⟩ : St) from heap_alloc_new W1 (.cells (saL st bg la (.slice b3 wt.length c3) (.slice b4 bs.length c4) (.slice b5 vs.length c5) fa).toArray 91 (0, 0)))
  have cD := hid (l03Do_any a1 a2 k1 k2 W1.heap.size w.heap.size ss fs (.slice b3 wt.length c3) (.slice b4 bs.length c4) (.slice b5 vs.length c5) (⟨st, bg, la, wt, bs, vs, fa⟩ : St) (⟨q, t, r, k, s, v⟩ : Ev) (W1.alloc (.cells #[.int .i64 st, .int .i64 bg, .int .i64 la, .slice b3 wt.length c3, .slice b4 bs.length c4, .slice b5 vs.length c5, .int .i64 fa] 91)) HSX.out HOX.out (H1.out.stay hbX (Nat.le_refl _)) (H2.out.stay hbX (Nat.le_refl _)) h0 hfl (fun g o h => by have := HX1.out g o h; omega) (fun g o h => by have := HX2.out g o h; omega) n3 n4 n5 hf0 (by have := hbX.size; omega) HK.out)
  have HBX := hid (HBW.out.trans (hbX.mono HBW.out.size))
  clear o3 o4 o5 hl3 hl4 hm1 hm2 hb1 hbX cC D0 D1 E0 E1 E2 E3 E4 E5 HSX
  generalize hdo : doS ss fs (⟨st, bg, la, wt, bs, vs, fa⟩ : St) (⟨q, t, r, k, s, v⟩ : Ev) = cs at *
  obtain ⟨c, S'⟩ := cs
  go_wp2_with fail
  refine cD.out.mono ?_
  rintro e W2 ⟨rfl, hC, hok⟩
  have HR2 := hid ((hC.block (w.heap.size + 1 + 1 + 1) (lt_heap HRX.out) (by show ¬ w.heap.size + 1 + 1 + 1 = W1.heap.size; omega)).trans HRX.out)
  have HC2 := hid hC
  have HOK := hid hok
  have hzX : (W1.alloc (.cells #[.int .i64 st, .int .i64 bg, .int .i64 la, .slice b3 wt.length c3, .slice b4 bs.length c4, .slice b5 vs.length c5, .int .i64 fa] 91)).heap.size = W1.heap.size + 1 := by simp
  have hz2 := hC.size
  clear hC hok hbO d0 d1 e0 e1 e2 e3 e4 e5 cD HOX
  have HBF := hid (HBX.out.trans (HC2.out.below (B := w.heap.size) (by omega) (fun j (h : j = W1.heap.size) => by omega)))
  have r0 : W2.cell? ⟨w.heap.size + 1 + 1 + 1, 0, none⟩ = some (.int .i64 0) := by rw [Lib.cell_of_heap HR2.out]; rfl
  have r1 : W2.cell? ⟨w.heap.size + 1 + 1 + 1, 1, none⟩ = some (.int .i64 0) := by rw [Lib.cell_of_heap HR2.out]; rfl
  have r2 : W2.cell? ⟨w.heap.size + 1 + 1 + 1, 2, none⟩ = some (.int .i64 0) := by rw [Lib.cell_of_heap HR2.out]; rfl
  have r3 : W2.cell? ⟨w.heap.size + 1 + 1 + 1, 3, none⟩ = some (.slice none 0 0) := by rw [Lib.cell_of_heap HR2.out]; rfl
  have r4 : W2.cell? ⟨w.heap.size + 1 + 1 + 1, 4, none⟩ = some (.slice none 0 0) := by rw [Lib.cell_of_heap HR2.out]; rfl
  have r5 : W2.cell? ⟨w.heap.size + 1 + 1 + 1, 5, none⟩ = some (.slice none 0 0) := by rw [Lib.cell_of_heap HR2.out]; rfl
  have r6 : W2.cell? ⟨w.heap.size + 1 + 1 + 1, 6, none⟩ = some (.int .i64 0) := by rw [Lib.cell_of_heap HR2.out]; rfl
  have r7 : W2.cell? ⟨w.heap.size + 1 + 1 + 1, 7, none⟩ = some (.int .i64 0) := by rw [Lib.cell_of_heap HR2.out]; rfl
  have rf := Lib.frozen_of_heap HR2.out
  skip
  by_cases hc : c = 0
  · subst hc
    have HDO := hid hdo
    clear hdo
    obtain ⟨u3, u4, u5, hS2, hO2⟩ := HOK.out rfl
    obtain ⟨x3a, x3c, rfl⟩ := ownB_form hO2.o3
    obtain ⟨x4a, x4c, rfl⟩ := ownB_form hO2.o4
    obtain ⟨x5a, x5c, rfl⟩ := ownB_form hO2.o5
    have HS2 := hid hS2
    have HO2 := hid hO2
    have x0 := SaB.cell HS2.out 0
    have x1 := SaB.cell HS2.out 1
    have x2 := SaB.cell HS2.out 2
    have x3 := SaB.cell HS2.out 3
    have x4 := SaB.cell HS2.out 4
    have x5 := SaB.cell HS2.out 5
    have x6 := SaB.cell HS2.out 6
    change _ = some (Value.int .i64 S'.status) at x0
    change _ = some (Value.int .i64 S'.begun) at x1
    change _ = some (Value.int .i64 S'.last) at x2
    change _ = some (Value.slice x3a S'.wait.length x3c) at x3
    change _ = some (Value.slice x4a S'.busy.length x4c) at x4
    change _ = some (Value.slice x5a S'.vars.length x5c) at x5
    change _ = some (Value.int .i64 S'.faults) at x6
    have hneq : ¬ W1.heap.size = w.heap.size + 1 + 1 + 1 := by omega
    have hneq2 : ¬ w.heap.size + 1 + 1 + 1 = W1.heap.size := by omega
    clear hS2 hO2
    go_wp2_with fail
    have hCR : Chg (fun j => j = w.heap.size + 1 + 1 + 1) W2 ((((((((W2.setCell ⟨w.heap.size + 1 + 1 + 1, 0, none⟩ (.int .i64 S'.status)).setCell ⟨w.heap.size + 1 + 1 + 1, 1, none⟩ (.int .i64 S'.begun)).setCell ⟨w.heap.size + 1 + 1 + 1, 2, none⟩ (.int .i64 S'.last)).setCell ⟨w.heap.size + 1 + 1 + 1, 3, none⟩ (.slice x3a S'.wait.length x3c)).setCell ⟨w.heap.size + 1 + 1 + 1, 4, none⟩ (.slice x4a S'.busy.length x4c)).setCell ⟨w.heap.size + 1 + 1 + 1, 5, none⟩ (.slice x5a S'.vars.length x5c)).setCell ⟨w.heap.size + 1 + 1 + 1, 6, none⟩ (.int .i64 S'.faults)).setCell ⟨w.heap.size + 1 + 1 + 1, 7, none⟩ (.int .i64 0)) := (((((((chg_set _ _ _ _).trans (chg_set _ _ _ _)).trans (chg_set _ _ _ _)).trans (chg_set _ _ _ _)).trans (chg_set _ _ _ _)).trans (chg_set _ _ _ _)).trans (chg_set _ _ _ _)).trans (chg_set _ _ _ _)
    refine bodyPost_ret (v := outV 0 S' (.slice x3a S'.wait.length x3c) (.slice x4a S'.busy.length x4c) (.slice x5a S'.vars.length x5c)) (by simp [results, Tryz.results50, go_sem, outV, r0, r1, r2, r3, r4, r5, r6, r7]) rfl ?_
    show StepPost w.heap.size w (doS ss fs (⟨st, bg, la, wt, bs, vs, fa⟩ : St) (⟨q, t, r, k, s, v⟩ : Ev)).1 (doS ss fs (⟨st, bg, la, wt, bs, vs, fa⟩ : St) (⟨q, t, r, k, s, v⟩ : Ev)).2 _ _
    rw [HDO.out]
    exact ⟨_, _, _, rfl, HO2.out.turn hCR HR2.out (by decide) (by decide), HBF.out.trans (hCR.below (by omega) (fun j (h : j = _) => by omega))⟩
  · have hS' : S' = z0 := (by have h := doS_no (ss := ss) (fs := fs) (S := (⟨st, bg, la, wt, bs, vs, fa⟩ : St)) (e := (⟨q, t, r, k, s, v⟩ : Ev)) (by rw [hdo]; exact hc); rw [hdo] at h; exact h)
    subst hS'
    go_wp2_with fail
    have hCR : Chg (fun j => j = w.heap.size + 1 + 1 + 1) W2 ((((((((W2.setCell ⟨w.heap.size + 1 + 1 + 1, 0, none⟩ (.int .i64 0)).setCell ⟨w.heap.size + 1 + 1 + 1, 1, none⟩ (.int .i64 0)).setCell ⟨w.heap.size + 1 + 1 + 1, 2, none⟩ (.int .i64 0)).setCell ⟨w.heap.size + 1 + 1 + 1, 3, none⟩ (.slice none 0 0)).setCell ⟨w.heap.size + 1 + 1 + 1, 4, none⟩ (.slice none 0 0)).setCell ⟨w.heap.size + 1 + 1 + 1, 5, none⟩ (.slice none 0 0)).setCell ⟨w.heap.size + 1 + 1 + 1, 6, none⟩ (.int .i64 0)).setCell ⟨w.heap.size + 1 + 1 + 1, 7, none⟩ (.int .i64 c)) := (((((((chg_set _ _ _ _).trans (chg_set _ _ _ _)).trans (chg_set _ _ _ _)).trans (chg_set _ _ _ _)).trans (chg_set _ _ _ _)).trans (chg_set _ _ _ _)).trans (chg_set _ _ _ _)).trans (chg_set _ _ _ _)
    refine bodyPost_ret (v := outV c z0 (.slice none 0 0) (.slice none 0 0) (.slice none 0 0)) (by simp [results, Tryz.results50, go_sem, outV, z0, r0, r1, r2, r3, r4, r5, r6, r7]) rfl ?_
    show StepPost w.heap.size w (doS ss fs (⟨st, bg, la, wt, bs, vs, fa⟩ : St) (⟨q, t, r, k, s, v⟩ : Ev)).1 (doS ss fs (⟨st, bg, la, wt, bs, vs, fa⟩ : St) (⟨q, t, r, k, s, v⟩ : Ev)).2 _ _
    rw [hdo]
    exact ⟨_, _, _, rfl, StOwn.none _ _, HBF.out.trans (hCR.below (by omega) (fun j (h : j = _) => by omega))⟩
set_option maxRecDepth 100000 in
set_option maxHeartbeats 4000000 in
theorem l03Step_go2 (a1 a2 a3 a4 a5 : Option Addr) (k1 k2 k3 k4 k5 : Nat) (ss : List ByteArray) (fs : List Pr) (st bg la fa q t r k : Int) (wt bs : List ByteArray) (vs : List Pr) (s v : ByteArray) (w : World) (h1 : StrSl w (.slice a1 ss.length k1) ss) (h2 : PrSl w (.slice a2 fs.length k2) fs) (h3 : StrSl w (.slice a3 wt.length k3) wt) (h4 : StrSl w (.slice a4 bs.length k4) bs) (h5 : PrSl w (.slice a5 vs.length k5) vs) (h0 : 0 < ss.length) (hfl : fs.length ≤ 40) (hl1 : ∀ g o, a1 = some ⟨g, o, none⟩ → g < w.heap.size) (hl2 : ∀ g o, a2 = some ⟨g, o, none⟩ → g < w.heap.size) (n3 : wt.length ≤ 1000) (n4 : bs.length ≤ 1000) (n5 : vs.length ≤ 1000) (hf0 : 0 ≤ fa) (hkk : k = 1 ∨ k = 2 ∨ k = 3 ∨ k = 4 ∨ k = 5 ∨ k = 6) (hk : ¬ k = 1) (hs : st = 1) (ht : ¬ t < la) :
    Calls Tryz.prog 50 #[.agg #[.slice a1 ss.length k1, .slice a2 fs.length k2], .agg #[.int .i64 st, .int .i64 bg, .int .i64 la, .slice a3 wt.length k3, .slice a4 bs.length k4, .slice a5 vs.length k5, .int .i64 fa], .agg #[.int .i64 q, .int .i64 t, .int .i64 r, .int .i64 k, .string s, .string v]] w fun e w' => StepPost w.heap.size w (doS ss fs (⟨st, bg, la, wt, bs, vs, fa⟩ : St) (⟨q, t, r, k, s, v⟩ : Ev)).1 (doS ss fs (⟨st, bg, la, wt, bs, vs, fa⟩ : St) (⟨q, t, r, k, s, v⟩ : Ev)).2 e w' := by
  have hk1 : (k == 1) = false := by simpa using hk
  have hk3 : (k != 1) = true := by simpa using hk
  have hs1 : (st != 1) = false := by rw [hs]; rfl
  have HKS := hid (And.intro hk hs)
  clear hk hs
  have hbW : Below w.heap.size w ((((w.alloc (.cells #[.slice a1 ss.length k1, .slice a2 fs.length k2] 26)).alloc (.cells #[.int .i64 st, .int .i64 bg, .int .i64 la, .slice a3 wt.length k3, .slice a4 bs.length k4, .slice a5 vs.length k5, .int .i64 fa] 91)).alloc (.cells #[.int .i64 q, .int .i64 t, .int .i64 r, .int .i64 k, .string s, .string v] 33)).alloc (.cells #[.int .i64 0, .int .i64 0, .int .i64 0, .slice none 0 0, .slice none 0 0, .slice none 0 0, .int .i64 0, .int .i64 0] 93)) := below4 _ _ _ _ _
  have hWs : ((((w.alloc (.cells #[.slice a1 ss.length k1, .slice a2 fs.length k2] 26)).alloc (.cells #[.int .i64 st, .int .i64 bg, .int .i64 la, .slice a3 wt.length k3, .slice a4 bs.length k4, .slice a5 vs.length k5, .int .i64 fa] 91)).alloc (.cells #[.int .i64 q, .int .i64 t, .int .i64 r, .int .i64 k, .string s, .string v] 33)).alloc (.cells #[.int .i64 0, .int .i64 0, .int .i64 0, .slice none 0 0, .slice none 0 0, .slice none 0 0, .int .i64 0, .int .i64 0] 93)).heap.size = w.heap.size + 1 + 1 + 1 + 1 := by simp
  have HRW := hid (show ((((w.alloc (.cells #[.slice a1 ss.length k1, .slice a2 fs.length k2] 26)).alloc (.cells #[.int .i64 st, .int .i64 bg, .int .i64 la, .slice a3 wt.length k3, .slice a4 bs.length k4, .slice a5 vs.length k5, .int .i64 fa] 91)).alloc (.cells #[.int .i64 q, .int .i64 t, .int .i64 r, .int .i64 k, .string s, .string v] 33)).alloc (.cells #[.int .i64 0, .int .i64 0, .int .i64 0, .slice none 0 0, .slice none 0 0, .slice none 0 0, .int .i64 0, .int .i64 0] 93)).heap[w.heap.size + 1 + 1 + 1]? = some (.cells #[.int .i64 0, .int .i64 0, .int .i64 0, .slice none 0 0, .slice none 0 0, .slice none 0 0, .int .i64 0, .int .i64 0] 93 (0, 0)) from by
    have h := heap_alloc_new (((w.alloc (.cells #[.slice a1 ss.length k1, .slice a2 fs.length k2] 26)).alloc (.cells #[.int .i64 st, .int .i64 bg, .int .i64 la, .slice a3 wt.length k3, .slice a4 bs.length k4, .slice a5 vs.length k5, .int .i64 fa] 91)).alloc (.cells #[.int .i64 q, .int .i64 t, .int .i64 r, .int .i64 k, .string s, .string v] 33)) (.cells #[.int .i64 0, .int .i64 0, .int .i64 0, .slice none 0 0, .slice none 0 0, .slice none 0 0, .int .i64 0, .int .i64 0] 93 (0, 0))
    rw [show (((w.alloc (.cells #[.slice a1 ss.length k1, .slice a2 fs.length k2] 26)).alloc (.cells #[.int .i64 st, .int .i64 bg, .int .i64 la, .slice a3 wt.length k3, .slice a4 bs.length k4, .slice a5 vs.length k5, .int .i64 fa] 91)).alloc (.cells #[.int .i64 q, .int .i64 t, .int .i64 r, .int .i64 k, .string s, .string v] 33)).heap.size = w.heap.size + 1 + 1 + 1 by simp] at h
    exact h)
  have H1 := hid (h1.stay hbW (Nat.le_refl _))
  have H2 := hid (h2.stay hbW (Nat.le_refl _))
  have cC := hid (l03Copy_any a3 a4 a5 k3 k4 k5 st bg la fa wt bs vs _ (h3.stay hbW (Nat.le_refl _)) (h4.stay hbW (Nat.le_refl _)) (h5.stay hbW (Nat.le_refl _)) (by omega) (by omega) (by omega))
  have HBW := hid hbW
  have HK := hid hkk
  have HX1 := hid (fun g o (h : a1 = some ⟨g, o, none⟩) => hl1 g o h)
  have HX2 := hid (fun g o (h : a2 = some ⟨g, o, none⟩) => hl2 g o h)
  clear h1 h2 h3 h4 h5 hbW hkk hl1 hl2
  have D0 := hid (show ((((w.alloc (.cells #[.slice a1 ss.length k1, .slice a2 fs.length k2] 26)).alloc (.cells #[.int .i64 st, .int .i64 bg, .int .i64 la, .slice a3 wt.length k3, .slice a4 bs.length k4, .slice a5 vs.length k5, .int .i64 fa] 91)).alloc (.cells #[.int .i64 q, .int .i64 t, .int .i64 r, .int .i64 k, .string s, .string v] 33)).alloc (.cells #[.int .i64 0, .int .i64 0, .int .i64 0, .slice none 0 0, .slice none 0 0, .slice none 0 0, .int .i64 0, .int .i64 0] 93)).cell? ⟨w.heap.size, 0, none⟩ = some (.slice a1 ss.length k1) by simp [go_sem])
  have D1 := hid (show ((((w.alloc (.cells #[.slice a1 ss.length k1, .slice a2 fs.length k2] 26)).alloc (.cells #[.int .i64 st, .int .i64 bg, .int .i64 la, .slice a3 wt.length k3, .slice a4 bs.length k4, .slice a5 vs.length k5, .int .i64 fa] 91)).alloc (.cells #[.int .i64 q, .int .i64 t, .int .i64 r, .int .i64 k, .string s, .string v] 33)).alloc (.cells #[.int .i64 0, .int .i64 0, .int .i64 0, .slice none 0 0, .slice none 0 0, .slice none 0 0, .int .i64 0, .int .i64 0] 93)).cell? ⟨w.heap.size, 1, none⟩ = some (.slice a2 fs.length k2) by simp [go_sem])
  have E0 := hid (show ((((w.alloc (.cells #[.slice a1 ss.length k1, .slice a2 fs.length k2] 26)).alloc (.cells #[.int .i64 st, .int .i64 bg, .int .i64 la, .slice a3 wt.length k3, .slice a4 bs.length k4, .slice a5 vs.length k5, .int .i64 fa] 91)).alloc (.cells #[.int .i64 q, .int .i64 t, .int .i64 r, .int .i64 k, .string s, .string v] 33)).alloc (.cells #[.int .i64 0, .int .i64 0, .int .i64 0, .slice none 0 0, .slice none 0 0, .slice none 0 0, .int .i64 0, .int .i64 0] 93)).cell? ⟨w.heap.size + 1 + 1, 0, none⟩ = some (.int .i64 q) by simp [go_sem])
  have E1 := hid (show ((((w.alloc (.cells #[.slice a1 ss.length k1, .slice a2 fs.length k2] 26)).alloc (.cells #[.int .i64 st, .int .i64 bg, .int .i64 la, .slice a3 wt.length k3, .slice a4 bs.length k4, .slice a5 vs.length k5, .int .i64 fa] 91)).alloc (.cells #[.int .i64 q, .int .i64 t, .int .i64 r, .int .i64 k, .string s, .string v] 33)).alloc (.cells #[.int .i64 0, .int .i64 0, .int .i64 0, .slice none 0 0, .slice none 0 0, .slice none 0 0, .int .i64 0, .int .i64 0] 93)).cell? ⟨w.heap.size + 1 + 1, 1, none⟩ = some (.int .i64 t) by simp [go_sem])
  have E2 := hid (show ((((w.alloc (.cells #[.slice a1 ss.length k1, .slice a2 fs.length k2] 26)).alloc (.cells #[.int .i64 st, .int .i64 bg, .int .i64 la, .slice a3 wt.length k3, .slice a4 bs.length k4, .slice a5 vs.length k5, .int .i64 fa] 91)).alloc (.cells #[.int .i64 q, .int .i64 t, .int .i64 r, .int .i64 k, .string s, .string v] 33)).alloc (.cells #[.int .i64 0, .int .i64 0, .int .i64 0, .slice none 0 0, .slice none 0 0, .slice none 0 0, .int .i64 0, .int .i64 0] 93)).cell? ⟨w.heap.size + 1 + 1, 2, none⟩ = some (.int .i64 r) by simp [go_sem])
  have E3 := hid (show ((((w.alloc (.cells #[.slice a1 ss.length k1, .slice a2 fs.length k2] 26)).alloc (.cells #[.int .i64 st, .int .i64 bg, .int .i64 la, .slice a3 wt.length k3, .slice a4 bs.length k4, .slice a5 vs.length k5, .int .i64 fa] 91)).alloc (.cells #[.int .i64 q, .int .i64 t, .int .i64 r, .int .i64 k, .string s, .string v] 33)).alloc (.cells #[.int .i64 0, .int .i64 0, .int .i64 0, .slice none 0 0, .slice none 0 0, .slice none 0 0, .int .i64 0, .int .i64 0] 93)).cell? ⟨w.heap.size + 1 + 1, 3, none⟩ = some (.int .i64 k) by simp [go_sem])
  have E4 := hid (show ((((w.alloc (.cells #[.slice a1 ss.length k1, .slice a2 fs.length k2] 26)).alloc (.cells #[.int .i64 st, .int .i64 bg, .int .i64 la, .slice a3 wt.length k3, .slice a4 bs.length k4, .slice a5 vs.length k5, .int .i64 fa] 91)).alloc (.cells #[.int .i64 q, .int .i64 t, .int .i64 r, .int .i64 k, .string s, .string v] 33)).alloc (.cells #[.int .i64 0, .int .i64 0, .int .i64 0, .slice none 0 0, .slice none 0 0, .slice none 0 0, .int .i64 0, .int .i64 0] 93)).cell? ⟨w.heap.size + 1 + 1, 4, none⟩ = some (.string s) by simp [go_sem])
  have E5 := hid (show ((((w.alloc (.cells #[.slice a1 ss.length k1, .slice a2 fs.length k2] 26)).alloc (.cells #[.int .i64 st, .int .i64 bg, .int .i64 la, .slice a3 wt.length k3, .slice a4 bs.length k4, .slice a5 vs.length k5, .int .i64 fa] 91)).alloc (.cells #[.int .i64 q, .int .i64 t, .int .i64 r, .int .i64 k, .string s, .string v] 33)).alloc (.cells #[.int .i64 0, .int .i64 0, .int .i64 0, .slice none 0 0, .slice none 0 0, .slice none 0 0, .int .i64 0, .int .i64 0] 93)).cell? ⟨w.heap.size + 1 + 1, 5, none⟩ = some (.string v) by simp [go_sem])
  go_enter Tryz.func50, Tryz.ntmps50
  go_wp2_with fail
  refine cC.out.mono ?_
  generalize ((((w.alloc (.cells #[.slice a1 ss.length k1, .slice a2 fs.length k2] 26)).alloc (.cells #[.int .i64 st, .int .i64 bg, .int .i64 la, .slice a3 wt.length k3, .slice a4 bs.length k4, .slice a5 vs.length k5, .int .i64 fa] 91)).alloc (.cells #[.int .i64 q, .int .i64 t, .int .i64 r, .int .i64 k, .string s, .string v] 33)).alloc (.cells #[.int .i64 0, .int .i64 0, .int .i64 0, .slice none 0 0, .slice none 0 0, .slice none 0 0, .int .i64 0, .int .i64 0] 93)) = W at *
  rintro e W1 ⟨b3, b4, b5, c3, c4, c5, m1, m2, rfl, o3, o4, o5, ⟨hm1, hm2, hl3, hl4⟩, hb1⟩
  have hbO : Below W1.heap.size W1 (W1.alloc (.cells #[.int .i64 st, .int .i64 bg, .int .i64 la, .slice b3 wt.length c3, .slice b4 bs.length c4, .slice b5 vs.length c5, .int .i64 fa] 91)) := (Below.refl _ _).alloc (Nat.le_refl _) _
  have hz1 := hb1.size
  have HB1 := hid (HBW.out.trans (hb1.mono HBW.out.size))
  have hbX : Below W.heap.size W (W1.alloc (.cells #[.int .i64 st, .int .i64 bg, .int .i64 la, .slice b3 wt.length c3, .slice b4 bs.length c4, .slice b5 vs.length c5, .int .i64 fa] 91)) := hb1.trans (hbO.mono hb1.size)
  have d0 := (hbX.cell (p := ⟨w.heap.size, 0, none⟩) (by show w.heap.size < _; omega)).trans D0.out
  have d1 := (hbX.cell (p := ⟨w.heap.size, 1, none⟩) (by show w.heap.size < _; omega)).trans D1.out
  have e0 := (hbX.cell (p := ⟨w.heap.size + 1 + 1, 0, none⟩) (by show w.heap.size + 1 + 1 < _; omega)).trans E0.out
  have e1 := (hbX.cell (p := ⟨w.heap.size + 1 + 1, 1, none⟩) (by show w.heap.size + 1 + 1 < _; omega)).trans E1.out
  have e2 := (hbX.cell (p := ⟨w.heap.size + 1 + 1, 2, none⟩) (by show w.heap.size + 1 + 1 < _; omega)).trans E2.out
  have e3 := (hbX.cell (p := ⟨w.heap.size + 1 + 1, 3, none⟩) (by show w.heap.size + 1 + 1 < _; omega)).trans E3.out
  have e4 := (hbX.cell (p := ⟨w.heap.size + 1 + 1, 4, none⟩) (by show w.heap.size + 1 + 1 < _; omega)).trans E4.out
  have e5 := (hbX.cell (p := ⟨w.heap.size + 1 + 1, 5, none⟩) (by show w.heap.size + 1 + 1 < _; omega)).trans E5.out
  have HRX := hid ((hbX.block (w.heap.size + 1 + 1 + 1) (by omega)).trans HRW.out)
  have HOX := hid (show StOwn (W1.alloc (.cells #[.int .i64 st, .int .i64 bg, .int .i64 la, .slice b3 wt.length c3, .slice b4 bs.length c4, .slice b5 vs.length c5, .int .i64 fa] 91)) w.heap.size (.slice b3 wt.length c3) (.slice b4 bs.length c4) (.slice b5 vs.length c5) (⟨st, bg, la, wt, bs, vs, fa⟩ : St) from ⟨ownB_stay (ownB_le o3 (by omega)) hbO, ownB_stay (ownB_le o4 (by omega)) hbO, ownB_stay (ownB_le o5 (by omega)) hbO, fun g hg he => by have := hl3 g hg; have := (o4.lt g he).1; omega⟩)
  have HSX := hid (show SaS (W1.alloc (.cells #[.int .i64 st, .int .i64 bg, .int .i64 la, .slice b3 wt.length c3, .slice b4 bs.length c4, .slice b5 vs.length c5, .int .i64 fa] 91)) W1.heap.size (.slice b3 wt.length c3) (.slice b4 bs.length c4) (.slice b5 vs.length c5) (⟨st, bg, la, wt, bs, vs, fa⟩ : St) from heap_alloc_new W1 (.cells (saL st bg la (.slice b3 wt.length c3) (.slice b4 bs.length c4) (.slice b5 vs.length c5) fa).toArray 91 (0, 0)))
  have cD := hid (l03Do_any a1 a2 k1 k2 W1.heap.size w.heap.size ss fs (.slice b3 wt.length c3) (.slice b4 bs.length c4) (.slice b5 vs.length c5) (⟨st, bg, la, wt, bs, vs, fa⟩ : St) (⟨q, t, r, k, s, v⟩ : Ev) (W1.alloc (.cells #[.int .i64 st, .int .i64 bg, .int .i64 la, .slice b3 wt.length c3, .slice b4 bs.length c4, .slice b5 vs.length c5, .int .i64 fa] 91)) HSX.out HOX.out (H1.out.stay hbX (Nat.le_refl _)) (H2.out.stay hbX (Nat.le_refl _)) h0 hfl (fun g o h => by have := HX1.out g o h; omega) (fun g o h => by have := HX2.out g o h; omega) n3 n4 n5 hf0 (by have := hbX.size; omega) HK.out)
  have HBX := hid (HBW.out.trans (hbX.mono HBW.out.size))
  clear o3 o4 o5 hl3 hl4 hm1 hm2 hb1 hbX cC D0 D1 E0 E1 E2 E3 E4 E5 HSX
  generalize hdo : doS ss fs (⟨st, bg, la, wt, bs, vs, fa⟩ : St) (⟨q, t, r, k, s, v⟩ : Ev) = cs at *
  obtain ⟨c, S'⟩ := cs
  go_wp2_with fail
  refine cD.out.mono ?_
  rintro e W2 ⟨rfl, hC, hok⟩
  have HR2 := hid ((hC.block (w.heap.size + 1 + 1 + 1) (lt_heap HRX.out) (by show ¬ w.heap.size + 1 + 1 + 1 = W1.heap.size; omega)).trans HRX.out)
  have HC2 := hid hC
  have HOK := hid hok
  have hzX : (W1.alloc (.cells #[.int .i64 st, .int .i64 bg, .int .i64 la, .slice b3 wt.length c3, .slice b4 bs.length c4, .slice b5 vs.length c5, .int .i64 fa] 91)).heap.size = W1.heap.size + 1 := by simp
  have hz2 := hC.size
  clear hC hok hbO d0 d1 e0 e1 e2 e3 e4 e5 cD HOX
  have HBF := hid (HBX.out.trans (HC2.out.below (B := w.heap.size) (by omega) (fun j (h : j = W1.heap.size) => by omega)))
  have r0 : W2.cell? ⟨w.heap.size + 1 + 1 + 1, 0, none⟩ = some (.int .i64 0) := by rw [Lib.cell_of_heap HR2.out]; rfl
  have r1 : W2.cell? ⟨w.heap.size + 1 + 1 + 1, 1, none⟩ = some (.int .i64 0) := by rw [Lib.cell_of_heap HR2.out]; rfl
  have r2 : W2.cell? ⟨w.heap.size + 1 + 1 + 1, 2, none⟩ = some (.int .i64 0) := by rw [Lib.cell_of_heap HR2.out]; rfl
  have r3 : W2.cell? ⟨w.heap.size + 1 + 1 + 1, 3, none⟩ = some (.slice none 0 0) := by rw [Lib.cell_of_heap HR2.out]; rfl
  have r4 : W2.cell? ⟨w.heap.size + 1 + 1 + 1, 4, none⟩ = some (.slice none 0 0) := by rw [Lib.cell_of_heap HR2.out]; rfl
  have r5 : W2.cell? ⟨w.heap.size + 1 + 1 + 1, 5, none⟩ = some (.slice none 0 0) := by rw [Lib.cell_of_heap HR2.out]; rfl
  have r6 : W2.cell? ⟨w.heap.size + 1 + 1 + 1, 6, none⟩ = some (.int .i64 0) := by rw [Lib.cell_of_heap HR2.out]; rfl
  have r7 : W2.cell? ⟨w.heap.size + 1 + 1 + 1, 7, none⟩ = some (.int .i64 0) := by rw [Lib.cell_of_heap HR2.out]; rfl
  have rf := Lib.frozen_of_heap HR2.out
  skip
  by_cases hc : c = 0
  · subst hc
    have HDO := hid hdo
    clear hdo
    obtain ⟨u3, u4, u5, hS2, hO2⟩ := HOK.out rfl
    obtain ⟨x3a, x3c, rfl⟩ := ownB_form hO2.o3
    obtain ⟨x4a, x4c, rfl⟩ := ownB_form hO2.o4
    obtain ⟨x5a, x5c, rfl⟩ := ownB_form hO2.o5
    have HS2 := hid hS2
    have HO2 := hid hO2
    have x0 := SaB.cell HS2.out 0
    have x1 := SaB.cell HS2.out 1
    have x2 := SaB.cell HS2.out 2
    have x3 := SaB.cell HS2.out 3
    have x4 := SaB.cell HS2.out 4
    have x5 := SaB.cell HS2.out 5
    have x6 := SaB.cell HS2.out 6
    change _ = some (Value.int .i64 S'.status) at x0
    change _ = some (Value.int .i64 S'.begun) at x1
    change _ = some (Value.int .i64 S'.last) at x2
    change _ = some (Value.slice x3a S'.wait.length x3c) at x3
    change _ = some (Value.slice x4a S'.busy.length x4c) at x4
    change _ = some (Value.slice x5a S'.vars.length x5c) at x5
    change _ = some (Value.int .i64 S'.faults) at x6
    have hneq : ¬ W1.heap.size = w.heap.size + 1 + 1 + 1 := by omega
    have hneq2 : ¬ w.heap.size + 1 + 1 + 1 = W1.heap.size := by omega
    clear hS2 hO2
    go_wp2_with fail
    have hCR : Chg (fun j => j = w.heap.size + 1 + 1 + 1) W2 ((((((((W2.setCell ⟨w.heap.size + 1 + 1 + 1, 0, none⟩ (.int .i64 S'.status)).setCell ⟨w.heap.size + 1 + 1 + 1, 1, none⟩ (.int .i64 S'.begun)).setCell ⟨w.heap.size + 1 + 1 + 1, 2, none⟩ (.int .i64 S'.last)).setCell ⟨w.heap.size + 1 + 1 + 1, 3, none⟩ (.slice x3a S'.wait.length x3c)).setCell ⟨w.heap.size + 1 + 1 + 1, 4, none⟩ (.slice x4a S'.busy.length x4c)).setCell ⟨w.heap.size + 1 + 1 + 1, 5, none⟩ (.slice x5a S'.vars.length x5c)).setCell ⟨w.heap.size + 1 + 1 + 1, 6, none⟩ (.int .i64 S'.faults)).setCell ⟨w.heap.size + 1 + 1 + 1, 7, none⟩ (.int .i64 0)) := (((((((chg_set _ _ _ _).trans (chg_set _ _ _ _)).trans (chg_set _ _ _ _)).trans (chg_set _ _ _ _)).trans (chg_set _ _ _ _)).trans (chg_set _ _ _ _)).trans (chg_set _ _ _ _)).trans (chg_set _ _ _ _)
    refine bodyPost_ret (v := outV 0 S' (.slice x3a S'.wait.length x3c) (.slice x4a S'.busy.length x4c) (.slice x5a S'.vars.length x5c)) (by simp [results, Tryz.results50, go_sem, outV, r0, r1, r2, r3, r4, r5, r6, r7]) rfl ?_
    show StepPost w.heap.size w (doS ss fs (⟨st, bg, la, wt, bs, vs, fa⟩ : St) (⟨q, t, r, k, s, v⟩ : Ev)).1 (doS ss fs (⟨st, bg, la, wt, bs, vs, fa⟩ : St) (⟨q, t, r, k, s, v⟩ : Ev)).2 _ _
    rw [HDO.out]
    exact ⟨_, _, _, rfl, HO2.out.turn hCR HR2.out (by decide) (by decide), HBF.out.trans (hCR.below (by omega) (fun j (h : j = _) => by omega))⟩
  · have hS' : S' = z0 := (by have h := doS_no (ss := ss) (fs := fs) (S := (⟨st, bg, la, wt, bs, vs, fa⟩ : St)) (e := (⟨q, t, r, k, s, v⟩ : Ev)) (by rw [hdo]; exact hc); rw [hdo] at h; exact h)
    subst hS'
    go_wp2_with fail
    have hCR : Chg (fun j => j = w.heap.size + 1 + 1 + 1) W2 ((((((((W2.setCell ⟨w.heap.size + 1 + 1 + 1, 0, none⟩ (.int .i64 0)).setCell ⟨w.heap.size + 1 + 1 + 1, 1, none⟩ (.int .i64 0)).setCell ⟨w.heap.size + 1 + 1 + 1, 2, none⟩ (.int .i64 0)).setCell ⟨w.heap.size + 1 + 1 + 1, 3, none⟩ (.slice none 0 0)).setCell ⟨w.heap.size + 1 + 1 + 1, 4, none⟩ (.slice none 0 0)).setCell ⟨w.heap.size + 1 + 1 + 1, 5, none⟩ (.slice none 0 0)).setCell ⟨w.heap.size + 1 + 1 + 1, 6, none⟩ (.int .i64 0)).setCell ⟨w.heap.size + 1 + 1 + 1, 7, none⟩ (.int .i64 c)) := (((((((chg_set _ _ _ _).trans (chg_set _ _ _ _)).trans (chg_set _ _ _ _)).trans (chg_set _ _ _ _)).trans (chg_set _ _ _ _)).trans (chg_set _ _ _ _)).trans (chg_set _ _ _ _)).trans (chg_set _ _ _ _)
    refine bodyPost_ret (v := outV c z0 (.slice none 0 0) (.slice none 0 0) (.slice none 0 0)) (by simp [results, Tryz.results50, go_sem, outV, z0, r0, r1, r2, r3, r4, r5, r6, r7]) rfl ?_
    show StepPost w.heap.size w (doS ss fs (⟨st, bg, la, wt, bs, vs, fa⟩ : St) (⟨q, t, r, k, s, v⟩ : Ev)).1 (doS ss fs (⟨st, bg, la, wt, bs, vs, fa⟩ : St) (⟨q, t, r, k, s, v⟩ : Ev)).2 _ _
    rw [hdo]
    exact ⟨_, _, _, rfl, StOwn.none _ _, HBF.out.trans (hCR.below (by omega) (fun j (h : j = _) => by omega))⟩
end Go.Proofs.YthggcdadipjiiaaGreatDoor
