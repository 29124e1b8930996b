/-
  The law FnExactStateRight: spec.StateRight and impl.StateRight answer the same at every Def and State, and both stay as they were.
-/
import Derived.Test.YtmffliikenimnaaSpSt
import Derived.Test.YtmffliikenimnaaImSt
import Derived.Test.YtmffliikenimnaaDfLaw
import Derived.Test.YtmffliikenimnaaSaLaw
import Derived.Deep.RegionHeld3
namespace Go.Proofs.Ytmffliikenimnaa
open Go.RowKit Go.Sort

/-- A Def whose rows lie in w. -/
def DefIn (w : World) (a1 a2 : Option Addr) (k1 k2 : Nat) (ss : List ByteArray) (fs : List Pr) : Prop := StrSl w (.slice a1 ss.length k1) ss ∧ PrSl w (.slice a2 fs.length k2) fs
def StIn (w : World) (a3 a4 a5 : Option Addr) (k3 k4 k5 : Nat) (wt bs : List ByteArray) (vs : List Pr) : Prop := StrSl w (.slice a3 wt.length k3) wt ∧ StrSl w (.slice a4 bs.length k4) bs ∧ PrSl w (.slice a5 vs.length k5) vs
theorem DefIn.stay {w w' : World} {B : Nat} {a1 a2 : Option Addr} {k1 k2 : Nat} {ss : List ByteArray} {fs : List Pr} (h : DefIn w a1 a2 k1 k2 ss fs) (hb : Below B w w') (hB : w.heap.size ≤ B) : DefIn w' a1 a2 k1 k2 ss fs := ⟨h.1.stay hb hB, h.2.stay hb hB⟩
theorem StIn.stay {w w' : World} {B : Nat} {a3 a4 a5 : Option Addr} {k3 k4 k5 : Nat} {wt bs : List ByteArray} {vs : List Pr} (h : StIn w a3 a4 a5 k3 k4 k5 wt bs vs) (hb : Below B w w') (hB : w.heap.size ≤ B) : StIn w' a3 a4 a5 k3 k4 k5 wt bs vs := ⟨h.1.stay hb hB, h.2.1.stay hb hB, h.2.2.stay hb hB⟩
set_option maxRecDepth 100000 in
set_option maxHeartbeats 4000000 in
theorem fnExactStateRight_walk (a1 a2 a3 a4 a5 : Option Addr) (k1 k2 k3 k4 k5 : Nat) (ss : List ByteArray) (fs : List Pr) (st bg la fa : Int) (wt bs : List ByteArray) (vs : List Pr) (w : World) (h1 : StrSl w (.slice a1 ss.length k1) ss) (h2 : PrSl w (.slice a2 fs.length k2) fs) (h3 : StrSl w (.slice a3 wt.length k3) wt) (h4 : StrSl w (.slice a4 bs.length k4) bs) (h5 : PrSl w (.slice a5 vs.length k5) vs) (F1 : FitS ss) (F2 : FitP fs) (F3 : FitS wt) (F4 : FitS bs) (F5 : FitP vs) (n1 : ss.length ≤ maxLen) (n2 : fs.length ≤ maxLen) (n3 : wt.length ≤ maxLen) (n4 : bs.length ≤ maxLen) (n5 : vs.length ≤ maxLen) :
    Calls Try.prog 4 #[.agg #[.slice a1 ss.length k1, .slice a2 fs.length k2], .agg #[.int .i64 st, .int .i64 bg, .int .i64 la, .slice a3 wt.length k3, .slice a4 bs.length k4, .slice a5 vs.length k5, .int .i64 fa]] w fun e w' => e = .returned (.bool true) ∧ Below w.heap.size w w' := by
  have hbW : Below w.heap.size w ((w.alloc (.cells #[.slice a1 ss.length k1, .slice a2 fs.length k2] 25)).alloc (.cells #[.int .i64 st, .int .i64 bg, .int .i64 la, .slice a3 wt.length k3, .slice a4 bs.length k4, .slice a5 vs.length k5, .int .i64 fa] 36)) := below2 _ _ _
  have cz := szDef_any a1 a2 k1 k2 ss fs 1048576 _ (h1.stay hbW (Nat.le_refl _)) (h2.stay hbW (Nat.le_refl _)) F1 F2 (by decide) (by decide) n1 n2
  have H1 := hid h1
  have H2 := hid h2
  have H3 := hid h3
  have H4 := hid h4
  have H5 := hid h5
  have HF1 := hid F1
  have HF3 := hid F3
  have HF4 := hid F4
  have HF5 := hid F5
  have N1 := hid n1
  have N2 := hid n2
  have N3 := hid n3
  have N4 := hid n4
  have N5 := hid n5
  clear h1 h2 h3 h4 h5 F1 F2 F3 F4 F5 n1 n2 n3 n4 n5
  go_enter Try.func4, Try.ntmps4
  go_wp2_with fail
  refine cz.mono ?_
  rintro e w1 ⟨r, rfl, hr, hb1⟩
  have HB1 := hid (hbW.trans (hb1.mono (by simp; omega)))
  have hz1 : w.heap.size + 1 < w1.heap.size := by have := hb1.size; simp at this; omega
  have hz0 : w.heap.size < w1.heap.size := by omega
  have x0 := (hb1.cell (p := ⟨w.heap.size, 0, none⟩) (by simp; omega)).trans (by simp [go_sem] : _ = some (.slice a1 ss.length k1))
  have x1 := (hb1.cell (p := ⟨w.heap.size, 1, none⟩) (by simp; omega)).trans (by simp [go_sem] : _ = some (.slice a2 fs.length k2))
  have y0 := (hb1.cell (p := ⟨w.heap.size + 1, 0, none⟩) (by simp)).trans (by simp [go_sem] : _ = some (.int .i64 st))
  have y1 := (hb1.cell (p := ⟨w.heap.size + 1, 1, none⟩) (by simp)).trans (by simp [go_sem] : _ = some (.int .i64 bg))
  have y2 := (hb1.cell (p := ⟨w.heap.size + 1, 2, none⟩) (by simp)).trans (by simp [go_sem] : _ = some (.int .i64 la))
  have y3 := (hb1.cell (p := ⟨w.heap.size + 1, 3, none⟩) (by simp)).trans (by simp [go_sem] : _ = some (.slice a3 wt.length k3))
  have y4 := (hb1.cell (p := ⟨w.heap.size + 1, 4, none⟩) (by simp)).trans (by simp [go_sem] : _ = some (.slice a4 bs.length k4))
  have y5 := (hb1.cell (p := ⟨w.heap.size + 1, 5, none⟩) (by simp)).trans (by simp [go_sem] : _ = some (.slice a5 vs.length k5))
  have y6 := (hb1.cell (p := ⟨w.heap.size + 1, 6, none⟩) (by simp)).trans (by simp [go_sem] : _ = some (.int .i64 fa))
  clear hb1 hbW cz
  rcases hr with rfl | ⟨hr0, hr1, m1, m2⟩
  · go_wp2
    go_ret
    exact ⟨rfl, HB1.out⟩
  · have M1 := hid m1
    have M2 := hid m2
    clear m1 m2
    go_wp2_with fail
    refine (szState_any a3 a4 a5 k3 k4 k5 st bg la fa wt bs vs r _ (H3.out.stay HB1.out (Nat.le_refl _)) (H4.out.stay HB1.out (Nat.le_refl _)) (H5.out.stay HB1.out (Nat.le_refl _)) HF3.out HF4.out HF5.out hr0 hr1 N3.out N4.out N5.out).mono ?_
    rintro e w2 ⟨r2, rfl, hr, hb2⟩
    have u0 := (hb2.cell (p := ⟨w.heap.size, 0, none⟩) hz0).trans x0
    have u1 := (hb2.cell (p := ⟨w.heap.size, 1, none⟩) hz0).trans x1
    have v0 := (hb2.cell (p := ⟨w.heap.size + 1, 0, none⟩) hz1).trans y0
    have v1 := (hb2.cell (p := ⟨w.heap.size + 1, 1, none⟩) hz1).trans y1
    have v2 := (hb2.cell (p := ⟨w.heap.size + 1, 2, none⟩) hz1).trans y2
    have v3 := (hb2.cell (p := ⟨w.heap.size + 1, 3, none⟩) hz1).trans y3
    have v4 := (hb2.cell (p := ⟨w.heap.size + 1, 4, none⟩) hz1).trans y4
    have v5 := (hb2.cell (p := ⟨w.heap.size + 1, 5, none⟩) hz1).trans y5
    have v6 := (hb2.cell (p := ⟨w.heap.size + 1, 6, none⟩) hz1).trans y6
    have HB2 := hid (HB1.out.trans (hb2.mono HB1.out.size))
    have g0 : w.heap.size < w2.heap.size := Nat.lt_of_lt_of_le hz0 hb2.size
    have g1 : w.heap.size + 1 < w2.heap.size := Nat.lt_of_lt_of_le hz1 hb2.size
    clear hb2 x0 x1 y0 y1 y2 y3 y4 y5 y6 hz0 hz1
    rcases hr with rfl | ⟨hr2, _, m3, m4, m5⟩
    · go_wp2
      go_ret
      exact ⟨rfl, HB2.out⟩
    · have M3 := hid m3
      have M4 := hid m4
      have M5 := hid m5
      clear m3 m4 m5
      have cD : Hid (∀ w', Below w.heap.size w w' → Calls Try.prog 7 #[.agg #[.slice a1 ss.length k1, .slice a2 fs.length k2]] w' fun e w'' => ∃ b1 b2 c1 c2, e = .returned (.agg #[.slice b1 ss.length c1, .slice b2 fs.length c2]) ∧ DefIn w'' b1 b2 c1 c2 ss fs ∧ Below w'.heap.size w' w'') := by
        show ∀ w', _
        intro w' hb'
        refine (toDef_any a1 a2 k1 k2 ss fs _ (H1.out.stay hb' (Nat.le_refl _)) (H2.out.stay hb' (Nat.le_refl _)) M1.out M2.out).mono ?_
        rintro e w'' ⟨b1, b2, c1, c2, m, rfl, ho1, ho2, _, _, hb2⟩
        exact ⟨b1, b2, c1, c2, rfl, ⟨str_of_own ho1, pr_of_own ho2⟩, hb2⟩
      have cT : Hid (∀ w', Below w.heap.size w w' → Calls Try.prog 12 #[.agg #[.int .i64 st, .int .i64 bg, .int .i64 la, .slice a3 wt.length k3, .slice a4 bs.length k4, .slice a5 vs.length k5, .int .i64 fa]] w' fun e w'' => ∃ b3 b4 b5 c3 c4 c5, e = .returned (.agg #[.int .i64 st, .int .i64 bg, .int .i64 la, .slice b3 wt.length c3, .slice b4 bs.length c4, .slice b5 vs.length c5, .int .i64 fa]) ∧ StIn w'' b3 b4 b5 c3 c4 c5 wt bs vs ∧ Below w'.heap.size w' w'') := by
        show ∀ w', _
        intro w' hb'
        refine (toState_any a3 a4 a5 k3 k4 k5 st bg la fa wt bs vs _ (H3.out.stay hb' (Nat.le_refl _)) (H4.out.stay hb' (Nat.le_refl _)) (H5.out.stay hb' (Nat.le_refl _)) M3.out M4.out M5.out).mono ?_
        rintro e w'' ⟨b3, b4, b5, c3, c4, c5, m1, m2, rfl, ho3, ho4, ho5, _, hb2⟩
        exact ⟨b3, b4, b5, c3, c4, c5, rfl, ⟨str_of_own ho3, str_of_own ho4, pr_of_own ho5⟩, hb2⟩
      have cP : Hid (∀ w' b1 b2 b3 b4 b5 c1 c2 c3 c4 c5, DefIn w' b1 b2 c1 c2 ss fs → StIn w' b3 b4 b5 c3 c4 c5 wt bs vs → Calls Try.prog 11 #[.agg #[.slice b1 ss.length c1, .slice b2 fs.length c2], .agg #[.int .i64 st, .int .i64 bg, .int .i64 la, .slice b3 wt.length c3, .slice b4 bs.length c4, .slice b5 vs.length c5, .int .i64 fa]] w' fun e w'' => RetB e (DefP ss fs ∧ StP ss (⟨st, bg, la, wt, bs, vs, fa⟩ : St)) ∧ Below w'.heap.size w' w'') := by
        show ∀ w' b1 b2 b3 b4 b5 c1 c2 c3 c4 c5, _
        intro w' b1 b2 b3 b4 b5 c1 c2 c3 c4 c5 hD hS
        exact specStateRight_any b1 b2 b3 b4 b5 c1 c2 c3 c4 c5 ss fs st bg la fa wt bs vs w' hD.2 HF1.out N2.out hD.1 hS.1 hS.2.1 hS.2.2 HF5.out N1.out N3.out N4.out N5.out
      have cI : Hid (∀ w' b1 b2 b3 b4 b5 c1 c2 c3 c4 c5, DefIn w' b1 b2 c1 c2 ss fs → StIn w' b3 b4 b5 c3 c4 c5 wt bs vs → Calls Try.prog 13 #[.agg #[.slice b1 ss.length c1, .slice b2 fs.length c2], .agg #[.int .i64 st, .int .i64 bg, .int .i64 la, .slice b3 wt.length c3, .slice b4 bs.length c4, .slice b5 vs.length c5, .int .i64 fa]] w' fun e w'' => RetB e (DefP ss fs ∧ StP ss (⟨st, bg, la, wt, bs, vs, fa⟩ : St)) ∧ Below w'.heap.size w' w'') := by
        show ∀ w' b1 b2 b3 b4 b5 c1 c2 c3 c4 c5, _
        intro w' b1 b2 b3 b4 b5 c1 c2 c3 c4 c5 hD hS
        exact implStateRight_any b1 b2 b3 b4 b5 c1 c2 c3 c4 c5 ss fs st bg la fa wt bs vs w' hD.2 HF1.out N2.out hD.1 hS.1 hS.2.1 hS.2.2 HF5.out N1.out N3.out N4.out N5.out
      clear HF1 HF3 HF4 HF5 M1 M2 M3 M4 M5 H1 H2 H3 H4 H5
      go_wp2_with fail
      have hbR : Below w2.heap.size w2 w2.drew := (Below.refl _ _).drew
      go_region_held3 (fun w' => w'.cell? ⟨w.heap.size, 0, none⟩ = some (.slice a1 ss.length k1) ∧ w'.cell? ⟨w.heap.size, 1, none⟩ = some (.slice a2 fs.length k2) ∧ w'.cell? ⟨w.heap.size + 1, 0, none⟩ = some (.int .i64 st) ∧ w'.cell? ⟨w.heap.size + 1, 1, none⟩ = some (.int .i64 bg) ∧ w'.cell? ⟨w.heap.size + 1, 2, none⟩ = some (.int .i64 la) ∧ w'.cell? ⟨w.heap.size + 1, 3, none⟩ = some (.slice a3 wt.length k3) ∧ w'.cell? ⟨w.heap.size + 1, 4, none⟩ = some (.slice a4 bs.length k4) ∧ w'.cell? ⟨w.heap.size + 1, 5, none⟩ = some (.slice a5 vs.length k5) ∧ w'.cell? ⟨w.heap.size + 1, 6, none⟩ = some (.int .i64 fa) ∧ Below w2.heap.size w2 w') (go_keep) (first | (go_at_call 7; refine (cD.out _ (HB2.out.trans (hbR.mono HB2.out.size))).mono ?_; rintro e w3 ⟨b1, b2, c1, c2, rfl, hD3, hq3⟩; have hb3 := hbR.trans (hq3.mono hbR.size); have ua0 := (hb3.cell (p := ⟨w.heap.size, 0, none⟩) g0).trans u0; have ua1 := (hb3.cell (p := ⟨w.heap.size, 1, none⟩) g0).trans u1; have va0 := (hb3.cell (p := ⟨w.heap.size + 1, 0, none⟩) g1).trans v0; have va1 := (hb3.cell (p := ⟨w.heap.size + 1, 1, none⟩) g1).trans v1; have va2 := (hb3.cell (p := ⟨w.heap.size + 1, 2, none⟩) g1).trans v2; have va3 := (hb3.cell (p := ⟨w.heap.size + 1, 3, none⟩) g1).trans v3; have va4 := (hb3.cell (p := ⟨w.heap.size + 1, 4, none⟩) g1).trans v4; have va5 := (hb3.cell (p := ⟨w.heap.size + 1, 5, none⟩) g1).trans v5; have va6 := (hb3.cell (p := ⟨w.heap.size + 1, 6, none⟩) g1).trans v6) | (go_at_call 12; refine (cT.out _ (HB2.out.trans (hb3.mono HB2.out.size))).mono ?_; rintro e w4 ⟨b3, b4, b5, c3, c4, c5, rfl, hS4, hq4⟩; have hb4 := hb3.trans (hq4.mono hb3.size); have hD4 := hD3.stay hq4 (Nat.le_refl _); have ub0 := (hb4.cell (p := ⟨w.heap.size, 0, none⟩) g0).trans u0; have ub1 := (hb4.cell (p := ⟨w.heap.size, 1, none⟩) g0).trans u1; have vb0 := (hb4.cell (p := ⟨w.heap.size + 1, 0, none⟩) g1).trans v0; have vb1 := (hb4.cell (p := ⟨w.heap.size + 1, 1, none⟩) g1).trans v1; have vb2 := (hb4.cell (p := ⟨w.heap.size + 1, 2, none⟩) g1).trans v2; have vb3 := (hb4.cell (p := ⟨w.heap.size + 1, 3, none⟩) g1).trans v3; have vb4 := (hb4.cell (p := ⟨w.heap.size + 1, 4, none⟩) g1).trans v4; have vb5 := (hb4.cell (p := ⟨w.heap.size + 1, 5, none⟩) g1).trans v5; have vb6 := (hb4.cell (p := ⟨w.heap.size + 1, 6, none⟩) g1).trans v6) | (go_at_call 11; refine (cP.out _ _ _ _ _ _ _ _ _ _ _ hD4 hS4).mono ?_; rintro e w5 ⟨⟨B, rfl, TB⟩, hq5⟩; have hb5 := hb4.trans (hq5.mono hb4.size); have uc0 := (hb5.cell (p := ⟨w.heap.size, 0, none⟩) g0).trans u0; have uc1 := (hb5.cell (p := ⟨w.heap.size, 1, none⟩) g0).trans u1; have vc0 := (hb5.cell (p := ⟨w.heap.size + 1, 0, none⟩) g1).trans v0; have vc1 := (hb5.cell (p := ⟨w.heap.size + 1, 1, none⟩) g1).trans v1; have vc2 := (hb5.cell (p := ⟨w.heap.size + 1, 2, none⟩) g1).trans v2; have vc3 := (hb5.cell (p := ⟨w.heap.size + 1, 3, none⟩) g1).trans v3; have vc4 := (hb5.cell (p := ⟨w.heap.size + 1, 4, none⟩) g1).trans v4; have vc5 := (hb5.cell (p := ⟨w.heap.size + 1, 5, none⟩) g1).trans v5; have vc6 := (hb5.cell (p := ⟨w.heap.size + 1, 6, none⟩) g1).trans v6))
      have HB5 := hid (HB2.out.trans (hb5.mono HB2.out.size))
      have t0 : w.heap.size < w5.heap.size := Nat.lt_of_lt_of_le g0 hb5.size
      have t1 : w.heap.size + 1 < w5.heap.size := Nat.lt_of_lt_of_le g1 hb5.size
      have HTB := hid TB
      clear TB hb5 hb4 hb3 hbR hq3 hq4 hq5 hD3 hD4 hS4 cP u0 u1 v0 v1 v2 v3 v4 v5 v6 ua0 ua1 va0 va1 va2 va3 va4 va5 va6 ub0 ub1 vb0 vb1 vb2 vb3 vb4 vb5 vb6 g0 g1 hr0 hr1 hr2
      go_wp2_with fail
      refine (cD.out _ HB5.out).mono ?_
      rintro e w6 ⟨d1, d2, e1, e2, rfl, hD6, hb6⟩
      have u0 := (hb6.cell (p := ⟨w.heap.size, 0, none⟩) t0).trans uc0
      have u1 := (hb6.cell (p := ⟨w.heap.size, 1, none⟩) t0).trans uc1
      have v0 := (hb6.cell (p := ⟨w.heap.size + 1, 0, none⟩) t1).trans vc0
      have v1 := (hb6.cell (p := ⟨w.heap.size + 1, 1, none⟩) t1).trans vc1
      have v2 := (hb6.cell (p := ⟨w.heap.size + 1, 2, none⟩) t1).trans vc2
      have v3 := (hb6.cell (p := ⟨w.heap.size + 1, 3, none⟩) t1).trans vc3
      have v4 := (hb6.cell (p := ⟨w.heap.size + 1, 4, none⟩) t1).trans vc4
      have v5 := (hb6.cell (p := ⟨w.heap.size + 1, 5, none⟩) t1).trans vc5
      have v6 := (hb6.cell (p := ⟨w.heap.size + 1, 6, none⟩) t1).trans vc6
      have hW6 : Below w6.heap.size w6 (w6.alloc (.cells #[.slice d1 ss.length e1, .slice d2 fs.length e2] 30)) := (Below.refl _ _).alloc (Nat.le_refl _) _
      have HB6 := hid (HB5.out.trans (hb6.mono HB5.out.size))
      have HB6b := hid (HB6.out.trans (hW6.mono HB6.out.size))
      have t2 : w.heap.size < w6.heap.size := Nat.lt_of_lt_of_le t0 hb6.size
      have t3 : w.heap.size + 1 < w6.heap.size := Nat.lt_of_lt_of_le t1 hb6.size
      have HD6 := hid (hD6.stay hW6 (Nat.le_refl _))
      clear hb6 hD6 t0 t1 uc0 uc1 vc0 vc1 vc2 vc3 vc4 vc5 vc6
      go_wp2_with fail
      refine (cT.out _ HB6b.out).mono ?_
      rintro e w7 ⟨d3, d4, d5, e3, e4, e5, rfl, hS7, hb7⟩
      have ua0 : w7.cell? ⟨w.heap.size, 0, none⟩ = some (.slice a1 ss.length k1) := by rw [hb7.cell (p := ⟨w.heap.size, 0, none⟩) (by simp; omega)]; exact (hW6.cell (p := ⟨w.heap.size, 0, none⟩) t2).trans u0
      have ua1 : w7.cell? ⟨w.heap.size, 1, none⟩ = some (.slice a2 fs.length k2) := by rw [hb7.cell (p := ⟨w.heap.size, 1, none⟩) (by simp; omega)]; exact (hW6.cell (p := ⟨w.heap.size, 1, none⟩) t2).trans u1
      have va0 : w7.cell? ⟨w.heap.size + 1, 0, none⟩ = some (.int .i64 st) := by rw [hb7.cell (p := ⟨w.heap.size + 1, 0, none⟩) (by simp; omega)]; exact (hW6.cell (p := ⟨w.heap.size + 1, 0, none⟩) t3).trans v0
      have va1 : w7.cell? ⟨w.heap.size + 1, 1, none⟩ = some (.int .i64 bg) := by rw [hb7.cell (p := ⟨w.heap.size + 1, 1, none⟩) (by simp; omega)]; exact (hW6.cell (p := ⟨w.heap.size + 1, 1, none⟩) t3).trans v1
      have va2 : w7.cell? ⟨w.heap.size + 1, 2, none⟩ = some (.int .i64 la) := by rw [hb7.cell (p := ⟨w.heap.size + 1, 2, none⟩) (by simp; omega)]; exact (hW6.cell (p := ⟨w.heap.size + 1, 2, none⟩) t3).trans v2
      have va3 : w7.cell? ⟨w.heap.size + 1, 3, none⟩ = some (.slice a3 wt.length k3) := by rw [hb7.cell (p := ⟨w.heap.size + 1, 3, none⟩) (by simp; omega)]; exact (hW6.cell (p := ⟨w.heap.size + 1, 3, none⟩) t3).trans v3
      have va4 : w7.cell? ⟨w.heap.size + 1, 4, none⟩ = some (.slice a4 bs.length k4) := by rw [hb7.cell (p := ⟨w.heap.size + 1, 4, none⟩) (by simp; omega)]; exact (hW6.cell (p := ⟨w.heap.size + 1, 4, none⟩) t3).trans v4
      have va5 : w7.cell? ⟨w.heap.size + 1, 5, none⟩ = some (.slice a5 vs.length k5) := by rw [hb7.cell (p := ⟨w.heap.size + 1, 5, none⟩) (by simp; omega)]; exact (hW6.cell (p := ⟨w.heap.size + 1, 5, none⟩) t3).trans v5
      have va6 : w7.cell? ⟨w.heap.size + 1, 6, none⟩ = some (.int .i64 fa) := by rw [hb7.cell (p := ⟨w.heap.size + 1, 6, none⟩) (by simp; omega)]; exact (hW6.cell (p := ⟨w.heap.size + 1, 6, none⟩) t3).trans v6
      have xa0 := (hb7.cell (p := ⟨w6.heap.size, 0, none⟩) (by simp)).trans (by simp [go_sem] : _ = some (.slice d1 ss.length e1))
      have xa1 := (hb7.cell (p := ⟨w6.heap.size, 1, none⟩) (by simp)).trans (by simp [go_sem] : _ = some (.slice d2 fs.length e2))
      have hz7 : w6.heap.size < w7.heap.size := by have := hb7.size; simp at this; omega
      have hW7 : Below w7.heap.size w7 (w7.alloc (.cells #[.int .i64 st, .int .i64 bg, .int .i64 la, .slice d3 wt.length e3, .slice d4 bs.length e4, .slice d5 vs.length e5, .int .i64 fa] 41)) := (Below.refl _ _).alloc (Nat.le_refl _) _
      have HB7 := hid (HB6b.out.trans (hb7.mono HB6b.out.size))
      have HB7b := hid (HB7.out.trans (hW7.mono HB7.out.size))
      have HD7 := hid ((HD6.out.stay hb7 (Nat.le_refl _)).stay hW7 (Nat.le_refl _))
      have HS7 := hid (hS7.stay hW7 (Nat.le_refl _))
      clear hb7 hS7 HD6 hW6 u0 u1 v0 v1 v2 v3 v4 v5 v6
      go_wp2_with fail
      refine (cI.out _ _ _ _ _ _ _ _ _ _ _ HD7.out HS7.out).mono ?_
      rintro e w8 ⟨⟨B', rfl, TB'⟩, hb8⟩
      obtain rfl : B' = B := TB'.same HTB.out
      have u0 : w8.cell? ⟨w.heap.size, 0, none⟩ = some (.slice a1 ss.length k1) := by rw [hb8.cell (p := ⟨w.heap.size, 0, none⟩) (by simp; omega)]; exact (hW7.cell (p := ⟨w.heap.size, 0, none⟩) (by show w.heap.size < _; omega)).trans ua0
      have u1 : w8.cell? ⟨w.heap.size, 1, none⟩ = some (.slice a2 fs.length k2) := by rw [hb8.cell (p := ⟨w.heap.size, 1, none⟩) (by simp; omega)]; exact (hW7.cell (p := ⟨w.heap.size, 1, none⟩) (by show w.heap.size < _; omega)).trans ua1
      have v0 : w8.cell? ⟨w.heap.size + 1, 0, none⟩ = some (.int .i64 st) := by rw [hb8.cell (p := ⟨w.heap.size + 1, 0, none⟩) (by simp; omega)]; exact (hW7.cell (p := ⟨w.heap.size + 1, 0, none⟩) (by show w.heap.size + 1 < _; omega)).trans va0
      have v1 : w8.cell? ⟨w.heap.size + 1, 1, none⟩ = some (.int .i64 bg) := by rw [hb8.cell (p := ⟨w.heap.size + 1, 1, none⟩) (by simp; omega)]; exact (hW7.cell (p := ⟨w.heap.size + 1, 1, none⟩) (by show w.heap.size + 1 < _; omega)).trans va1
      have v2 : w8.cell? ⟨w.heap.size + 1, 2, none⟩ = some (.int .i64 la) := by rw [hb8.cell (p := ⟨w.heap.size + 1, 2, none⟩) (by simp; omega)]; exact (hW7.cell (p := ⟨w.heap.size + 1, 2, none⟩) (by show w.heap.size + 1 < _; omega)).trans va2
      have v3 : w8.cell? ⟨w.heap.size + 1, 3, none⟩ = some (.slice a3 wt.length k3) := by rw [hb8.cell (p := ⟨w.heap.size + 1, 3, none⟩) (by simp; omega)]; exact (hW7.cell (p := ⟨w.heap.size + 1, 3, none⟩) (by show w.heap.size + 1 < _; omega)).trans va3
      have v4 : w8.cell? ⟨w.heap.size + 1, 4, none⟩ = some (.slice a4 bs.length k4) := by rw [hb8.cell (p := ⟨w.heap.size + 1, 4, none⟩) (by simp; omega)]; exact (hW7.cell (p := ⟨w.heap.size + 1, 4, none⟩) (by show w.heap.size + 1 < _; omega)).trans va4
      have v5 : w8.cell? ⟨w.heap.size + 1, 5, none⟩ = some (.slice a5 vs.length k5) := by rw [hb8.cell (p := ⟨w.heap.size + 1, 5, none⟩) (by simp; omega)]; exact (hW7.cell (p := ⟨w.heap.size + 1, 5, none⟩) (by show w.heap.size + 1 < _; omega)).trans va5
      have v6 : w8.cell? ⟨w.heap.size + 1, 6, none⟩ = some (.int .i64 fa) := by rw [hb8.cell (p := ⟨w.heap.size + 1, 6, none⟩) (by simp; omega)]; exact (hW7.cell (p := ⟨w.heap.size + 1, 6, none⟩) (by show w.heap.size + 1 < _; omega)).trans va6
      have x0 : w8.cell? ⟨w6.heap.size, 0, none⟩ = some (.slice d1 ss.length e1) := by rw [hb8.cell (p := ⟨w6.heap.size, 0, none⟩) (by simp; omega)]; exact (hW7.cell (p := ⟨w6.heap.size, 0, none⟩) (by show w6.heap.size < _; omega)).trans xa0
      have x1 : w8.cell? ⟨w6.heap.size, 1, none⟩ = some (.slice d2 fs.length e2) := by rw [hb8.cell (p := ⟨w6.heap.size, 1, none⟩) (by simp; omega)]; exact (hW7.cell (p := ⟨w6.heap.size, 1, none⟩) (by show w6.heap.size < _; omega)).trans xa1
      have y0 := (hb8.cell (p := ⟨w7.heap.size, 0, none⟩) (by simp)).trans (by simp [go_sem] : _ = some (.int .i64 st))
      have y1 := (hb8.cell (p := ⟨w7.heap.size, 1, none⟩) (by simp)).trans (by simp [go_sem] : _ = some (.int .i64 bg))
      have y2 := (hb8.cell (p := ⟨w7.heap.size, 2, none⟩) (by simp)).trans (by simp [go_sem] : _ = some (.int .i64 la))
      have y3 := (hb8.cell (p := ⟨w7.heap.size, 3, none⟩) (by simp)).trans (by simp [go_sem] : _ = some (.slice d3 wt.length e3))
      have y4 := (hb8.cell (p := ⟨w7.heap.size, 4, none⟩) (by simp)).trans (by simp [go_sem] : _ = some (.slice d4 bs.length e4))
      have y5 := (hb8.cell (p := ⟨w7.heap.size, 5, none⟩) (by simp)).trans (by simp [go_sem] : _ = some (.slice d5 vs.length e5))
      have y6 := (hb8.cell (p := ⟨w7.heap.size, 6, none⟩) (by simp)).trans (by simp [go_sem] : _ = some (.int .i64 fa))
      have hz8 : w7.heap.size < w8.heap.size := by have := hb8.size; simp at this; omega
      have g0 : w.heap.size < w8.heap.size := by omega
      have g1 : w.heap.size + 1 < w8.heap.size := by omega
      have g2 : w6.heap.size < w8.heap.size := by omega
      have HB8 := hid (HB7b.out.trans (hb8.mono HB7b.out.size))
      have HD8 := hid (HD7.out.stay hb8 (Nat.le_refl _))
      have HS8 := hid (HS7.out.stay hb8 (Nat.le_refl _))
      clear hb8 TB' HTB HD7 HS7 hW7 ua0 ua1 va0 va1 va2 va3 va4 va5 va6 xa0 xa1 t2 t3 hz7 cI
      have cE : Hid (∀ w' b1 b2 c1 c2, DefIn w' b1 b2 c1 c2 ss fs → Below w8.heap.size w8 w' → Calls Try.prog 9 #[.agg #[.slice d1 ss.length e1, .slice d2 fs.length e2], .agg #[.slice b1 ss.length c1, .slice b2 fs.length c2]] w' fun e w'' => e = .returned (.bool true) ∧ Below w8.heap.size w8 w'') := by
        show ∀ w' b1 b2 c1 c2, _
        intro w' b1 b2 c1 c2 hs hb'
        have hd := HD8.out.stay hb' (Nat.le_refl _)
        refine (eqDef_same d1 d2 b1 b2 e1 e2 c1 c2 ss fs w' hd.1 hd.2 hs.1 hs.2 N1.out N2.out).mono ?_
        rintro e w'' ⟨rfl, hb⟩
        exact ⟨rfl, hb'.trans (hb.mono hb'.size)⟩
      have cF : Hid (∀ w' b3 b4 b5 c3 c4 c5, StIn w' b3 b4 b5 c3 c4 c5 wt bs vs → Below w8.heap.size w8 w' → Calls Try.prog 14 #[.agg #[.int .i64 st, .int .i64 bg, .int .i64 la, .slice d3 wt.length e3, .slice d4 bs.length e4, .slice d5 vs.length e5, .int .i64 fa], .agg #[.int .i64 st, .int .i64 bg, .int .i64 la, .slice b3 wt.length c3, .slice b4 bs.length c4, .slice b5 vs.length c5, .int .i64 fa]] w' fun e w'' => e = .returned (.bool true) ∧ Below w'.heap.size w' w'') := by
        show ∀ w' b3 b4 b5 c3 c4 c5, _
        intro w' b3 b4 b5 c3 c4 c5 hs hb'
        have hd := HS8.out.stay hb' (Nat.le_refl _)
        refine (eqState_same d3 d4 d5 b3 b4 b5 e3 e4 e5 c3 c4 c5 st bg la fa wt bs vs w' hd.1 hd.2.1 hd.2.2 hs.1 hs.2.1 hs.2.2 N3.out N4.out N5.out).mono ?_
        rintro e w'' ⟨rfl, hb⟩
        exact ⟨rfl, hb⟩
      go_wp2_with fail
      have hbR : Below w8.heap.size w8 w8.drew := (Below.refl _ _).drew
      go_region_held3 (fun w' => w'.cell? ⟨w.heap.size, 0, none⟩ = some (.slice a1 ss.length k1) ∧ w'.cell? ⟨w.heap.size, 1, none⟩ = some (.slice a2 fs.length k2) ∧ w'.cell? ⟨w6.heap.size, 0, none⟩ = some (.slice d1 ss.length e1) ∧ w'.cell? ⟨w6.heap.size, 1, none⟩ = some (.slice d2 fs.length e2) ∧ Below w8.heap.size w8 w') (go_keep) (first | (go_at_call 7; refine (cD.out _ (HB8.out.trans (hbR.mono HB8.out.size))).mono ?_; rintro e w9 ⟨i1, i2, j1, j2, rfl, hD9, hq9⟩; have hb9 := hbR.trans (hq9.mono hbR.size); have ua0 := (hb9.cell (p := ⟨w.heap.size, 0, none⟩) g0).trans u0; have ua1 := (hb9.cell (p := ⟨w.heap.size, 1, none⟩) g0).trans u1; have xa0 := (hb9.cell (p := ⟨w6.heap.size, 0, none⟩) g2).trans x0; have xa1 := (hb9.cell (p := ⟨w6.heap.size, 1, none⟩) g2).trans x1) | (go_at_call 9; refine (cE.out _ _ _ _ _ hD9 hb9).mono ?_; rintro e w10 ⟨rfl, hb10⟩; have ub0 := (hb10.cell (p := ⟨w.heap.size, 0, none⟩) g0).trans u0; have ub1 := (hb10.cell (p := ⟨w.heap.size, 1, none⟩) g0).trans u1; have xb0 := (hb10.cell (p := ⟨w6.heap.size, 0, none⟩) g2).trans x0; have xb1 := (hb10.cell (p := ⟨w6.heap.size, 1, none⟩) g2).trans x1))
      have vb0 := (hb10.cell (p := ⟨w.heap.size + 1, 0, none⟩) g1).trans v0
      have vb1 := (hb10.cell (p := ⟨w.heap.size + 1, 1, none⟩) g1).trans v1
      have vb2 := (hb10.cell (p := ⟨w.heap.size + 1, 2, none⟩) g1).trans v2
      have vb3 := (hb10.cell (p := ⟨w.heap.size + 1, 3, none⟩) g1).trans v3
      have vb4 := (hb10.cell (p := ⟨w.heap.size + 1, 4, none⟩) g1).trans v4
      have vb5 := (hb10.cell (p := ⟨w.heap.size + 1, 5, none⟩) g1).trans v5
      have vb6 := (hb10.cell (p := ⟨w.heap.size + 1, 6, none⟩) g1).trans v6
      have yb0 := (hb10.cell (p := ⟨w7.heap.size, 0, none⟩) hz8).trans y0
      have yb1 := (hb10.cell (p := ⟨w7.heap.size, 1, none⟩) hz8).trans y1
      have yb2 := (hb10.cell (p := ⟨w7.heap.size, 2, none⟩) hz8).trans y2
      have yb3 := (hb10.cell (p := ⟨w7.heap.size, 3, none⟩) hz8).trans y3
      have yb4 := (hb10.cell (p := ⟨w7.heap.size, 4, none⟩) hz8).trans y4
      have yb5 := (hb10.cell (p := ⟨w7.heap.size, 5, none⟩) hz8).trans y5
      have yb6 := (hb10.cell (p := ⟨w7.heap.size, 6, none⟩) hz8).trans y6
      have HB10 := hid hb10
      have HBX := hid (HB8.out.trans (hb10.mono HB8.out.size))
      have g3 : w.heap.size + 1 < w10.heap.size := Nat.lt_of_lt_of_le g1 hb10.size
      have g4 : w7.heap.size < w10.heap.size := Nat.lt_of_lt_of_le hz8 hb10.size
      clear hbR hb9 hq9 hD9 hb10 u0 u1 v0 v1 v2 v3 v4 v5 v6 x0 x1 y0 y1 y2 y3 y4 y5 y6 ua0 ua1 xa0 xa1 ub0 ub1 xb0 xb1 g0 g1 g2 hz8
      go_wp2_with fail
      have hbS : Below w10.heap.size w10 w10.drew := (Below.refl _ _).drew
      go_region_held3 (fun w' => w'.cell? ⟨w.heap.size + 1, 0, none⟩ = some (.int .i64 st) ∧ w'.cell? ⟨w.heap.size + 1, 1, none⟩ = some (.int .i64 bg) ∧ w'.cell? ⟨w.heap.size + 1, 2, none⟩ = some (.int .i64 la) ∧ w'.cell? ⟨w.heap.size + 1, 3, none⟩ = some (.slice a3 wt.length k3) ∧ w'.cell? ⟨w.heap.size + 1, 4, none⟩ = some (.slice a4 bs.length k4) ∧ w'.cell? ⟨w.heap.size + 1, 5, none⟩ = some (.slice a5 vs.length k5) ∧ w'.cell? ⟨w.heap.size + 1, 6, none⟩ = some (.int .i64 fa) ∧ w'.cell? ⟨w7.heap.size, 0, none⟩ = some (.int .i64 st) ∧ w'.cell? ⟨w7.heap.size, 1, none⟩ = some (.int .i64 bg) ∧ w'.cell? ⟨w7.heap.size, 2, none⟩ = some (.int .i64 la) ∧ w'.cell? ⟨w7.heap.size, 3, none⟩ = some (.slice d3 wt.length e3) ∧ w'.cell? ⟨w7.heap.size, 4, none⟩ = some (.slice d4 bs.length e4) ∧ w'.cell? ⟨w7.heap.size, 5, none⟩ = some (.slice d5 vs.length e5) ∧ w'.cell? ⟨w7.heap.size, 6, none⟩ = some (.int .i64 fa) ∧ Below w10.heap.size w10 w') (go_keep) (first | (go_at_call 12; refine (cT.out _ (HBX.out.trans (hbS.mono HBX.out.size))).mono ?_; rintro e w11 ⟨i3, i4, i5, j3, j4, j5, rfl, hS11, hq11⟩; have hb11 := hbS.trans (hq11.mono hbS.size); have vc0 := (hb11.cell (p := ⟨w.heap.size + 1, 0, none⟩) g3).trans vb0; have vc1 := (hb11.cell (p := ⟨w.heap.size + 1, 1, none⟩) g3).trans vb1; have vc2 := (hb11.cell (p := ⟨w.heap.size + 1, 2, none⟩) g3).trans vb2; have vc3 := (hb11.cell (p := ⟨w.heap.size + 1, 3, none⟩) g3).trans vb3; have vc4 := (hb11.cell (p := ⟨w.heap.size + 1, 4, none⟩) g3).trans vb4; have vc5 := (hb11.cell (p := ⟨w.heap.size + 1, 5, none⟩) g3).trans vb5; have vc6 := (hb11.cell (p := ⟨w.heap.size + 1, 6, none⟩) g3).trans vb6; have yc0 := (hb11.cell (p := ⟨w7.heap.size, 0, none⟩) g4).trans yb0; have yc1 := (hb11.cell (p := ⟨w7.heap.size, 1, none⟩) g4).trans yb1; have yc2 := (hb11.cell (p := ⟨w7.heap.size, 2, none⟩) g4).trans yb2; have yc3 := (hb11.cell (p := ⟨w7.heap.size, 3, none⟩) g4).trans yb3; have yc4 := (hb11.cell (p := ⟨w7.heap.size, 4, none⟩) g4).trans yb4; have yc5 := (hb11.cell (p := ⟨w7.heap.size, 5, none⟩) g4).trans yb5; have yc6 := (hb11.cell (p := ⟨w7.heap.size, 6, none⟩) g4).trans yb6) | (go_at_call 14; refine (cF.out _ _ _ _ _ _ _ hS11 (HB10.out.trans (hb11.mono HB10.out.size))).mono ?_; rintro e w12 ⟨rfl, hq12⟩; have hb12 := hb11.trans (hq12.mono hb11.size); have vd0 := (hb12.cell (p := ⟨w.heap.size + 1, 0, none⟩) g3).trans vb0; have vd1 := (hb12.cell (p := ⟨w.heap.size + 1, 1, none⟩) g3).trans vb1; have vd2 := (hb12.cell (p := ⟨w.heap.size + 1, 2, none⟩) g3).trans vb2; have vd3 := (hb12.cell (p := ⟨w.heap.size + 1, 3, none⟩) g3).trans vb3; have vd4 := (hb12.cell (p := ⟨w.heap.size + 1, 4, none⟩) g3).trans vb4; have vd5 := (hb12.cell (p := ⟨w.heap.size + 1, 5, none⟩) g3).trans vb5; have vd6 := (hb12.cell (p := ⟨w.heap.size + 1, 6, none⟩) g3).trans vb6; have yd0 := (hb12.cell (p := ⟨w7.heap.size, 0, none⟩) g4).trans yb0; have yd1 := (hb12.cell (p := ⟨w7.heap.size, 1, none⟩) g4).trans yb1; have yd2 := (hb12.cell (p := ⟨w7.heap.size, 2, none⟩) g4).trans yb2; have yd3 := (hb12.cell (p := ⟨w7.heap.size, 3, none⟩) g4).trans yb3; have yd4 := (hb12.cell (p := ⟨w7.heap.size, 4, none⟩) g4).trans yb4; have yd5 := (hb12.cell (p := ⟨w7.heap.size, 5, none⟩) g4).trans yb5; have yd6 := (hb12.cell (p := ⟨w7.heap.size, 6, none⟩) g4).trans yb6))
      go_wp2
      go_ret
      exact ⟨rfl, HBX.out.trans (hb12.mono HBX.out.size)⟩
end Go.Proofs.Ytmffliikenimnaa
