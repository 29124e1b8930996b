/-
  The law FnExactDefRight: spec.DefRight and impl.DefRight answer the same at every Def, and the Def stays as it was.
-/
import Derived.Test.YtmffliikenimnaaDfLaw
import Derived.Test.YtmffliikenimnaaImDef2
import Derived.Deep.RegionHeld3
namespace Go.Proofs.Ytmffliikenimnaa
open Go.RowKit Go.Sort

set_option maxRecDepth 100000 in
set_option maxHeartbeats 2000000 in
theorem fnExactDefRight_walk (a1 a2 : Option Addr) (k1 k2 : Nat) (ss : List ByteArray) (fs : List Pr) (w : World) (h1 : StrSl w (.slice a1 ss.length k1) ss) (h2 : PrSl w (.slice a2 fs.length k2) fs) (F1 : FitS ss) (F2 : FitP fs) (n1 : ss.length ≤ maxLen) (n2 : fs.length ≤ maxLen) :
    Calls Try.prog 3 #[.agg #[.slice a1 ss.length k1, .slice a2 fs.length k2]] w fun e w' => e = .returned (.bool true) ∧ Below w.heap.size w w' := by
  have hbW : Below w.heap.size w (w.alloc (.cells #[.slice a1 ss.length k1, .slice a2 fs.length k2] 25)) := (Below.refl _ _).alloc (Nat.le_refl _) _
  have cz := szDef_any a1 a2 k1 k2 ss fs 1048576 _ (h1.stay hbW (Nat.le_refl _)) (h2.stay hbW (Nat.le_refl _)) F1 F2 (by decide) (by decide) n1 n2
  have H1 := hid h1
  have H2 := hid h2
  have HF1 := hid F1
  have N1 := hid n1
  have N2 := hid n2
  clear h1 h2 F1 F2 n1 n2
  go_enter Try.func3, Try.ntmps3
  go_wp2_with fail
  refine cz.mono ?_
  rintro e w1 ⟨r, rfl, hr, hb1⟩
  have HB1 := hid (hbW.trans (hb1.mono (by simp)))
  have hz1 : w.heap.size < w1.heap.size := by have := hb1.size; simp at this; omega
  have x0 : w1.cell? ⟨w.heap.size, 0, none⟩ = some (.slice a1 ss.length k1) := by rw [hb1.cell (p := ⟨w.heap.size, 0, none⟩) (by simp)]; simp [go_sem]
  have x1 : w1.cell? ⟨w.heap.size, 1, none⟩ = some (.slice a2 fs.length k2) := by rw [hb1.cell (p := ⟨w.heap.size, 1, none⟩) (by simp)]; simp [go_sem]
  clear hb1 hbW cz
  rcases hr with rfl | ⟨hr0, _, m1, m2⟩
  · go_wp2
    go_ret
    exact ⟨rfl, HB1.out⟩
  · have M1 := hid m1
    have M2 := hid m2
    clear m1 m2
    go_wp2_with fail
    refine (toDef_any a1 a2 k1 k2 ss fs _ (H1.out.stay HB1.out (Nat.le_refl _)) (H2.out.stay HB1.out (Nat.le_refl _)) M1.out M2.out).mono ?_
    rintro e w2 ⟨b1, b2, c1, c2, m, rfl, ho1, ho2, _, _, hb2⟩
    have S1 := hid (str_of_own ho1)
    have S2 := hid (pr_of_own ho2)
    have HB2 := hid (HB1.out.trans (hb2.mono HB1.out.size))
    have y0 := (hb2.cell (p := ⟨w.heap.size, 0, none⟩) hz1).trans x0
    have y1 := (hb2.cell (p := ⟨w.heap.size, 1, none⟩) hz1).trans x1
    have hz2 := hb2.size
    clear ho1 ho2 hb2 x0 x1
    go_wp2_with fail
    refine (specDefRight_any b1 b2 c1 c2 ss fs _ S1.out S2.out HF1.out N1.out N2.out).mono ?_
    rintro e w3 ⟨⟨B, rfl, hB⟩, hb3⟩
    have TB := hid hB
    have HB3 := hid (HB2.out.trans (hb3.mono HB2.out.size))
    have x0 := (hb3.cell (p := ⟨w.heap.size, 0, none⟩) (by show w.heap.size < _; omega)).trans y0
    have x1 := (hb3.cell (p := ⟨w.heap.size, 1, none⟩) (by show w.heap.size < _; omega)).trans y1
    have hz3 := hb3.size
    clear hb3 y0 y1 S1 S2 hB
    go_wp2_with fail
    refine (toDef_any a1 a2 k1 k2 ss fs _ (H1.out.stay HB3.out (Nat.le_refl _)) (H2.out.stay HB3.out (Nat.le_refl _)) M1.out M2.out).mono ?_
    rintro e w4 ⟨b3, b4, c3, c4, m4, rfl, ho3, ho4, _, _, hb4⟩
    have HB4 := hid (HB3.out.trans (hb4.mono HB3.out.size))
    have hz4 := hb4.size
    have hbW : Below w4.heap.size w4 (w4.alloc (.cells #[.slice b3 ss.length c3, .slice b4 fs.length c4] 30)) := (Below.refl _ _).alloc (Nat.le_refl _) _
    have S3 := hid (StrSl.stay (str_of_own ho3) hbW (Nat.le_refl _))
    have S4 := hid (PrSl.stay (pr_of_own ho4) hbW (Nat.le_refl _))
    have y0 := (hb4.cell (p := ⟨w.heap.size, 0, none⟩) (by show w.heap.size < _; omega)).trans x0
    have y1 := (hb4.cell (p := ⟨w.heap.size, 1, none⟩) (by show w.heap.size < _; omega)).trans x1
    clear hb4 ho3 ho4 x0 x1
    go_wp2_with fail
    refine (implDefRight_any b3 b4 c3 c4 ss fs _ S3.out S4.out HF1.out N1.out N2.out).mono ?_
    rintro e w5 ⟨⟨B', rfl, hB'⟩, hb5⟩
    obtain rfl : B' = B := hB'.same TB.out
    have HB5 := hid ((HB4.out.trans (hbW.mono HB4.out.size)).trans (hb5.mono (by have := HB4.out.size; simp; omega)))
    have hz5 : w4.heap.size + 1 ≤ w5.heap.size := by have := hb5.size; simpa using this
    have x0 : w5.cell? ⟨w.heap.size, 0, none⟩ = some (.slice a1 ss.length k1) := by rw [hb5.cell (p := ⟨w.heap.size, 0, none⟩) (by simp; omega)]; exact (hbW.cell (p := ⟨w.heap.size, 0, none⟩) (by show w.heap.size < _; omega)).trans y0
    have x1 : w5.cell? ⟨w.heap.size, 1, none⟩ = some (.slice a2 fs.length k2) := by rw [hb5.cell (p := ⟨w.heap.size, 1, none⟩) (by simp; omega)]; exact (hbW.cell (p := ⟨w.heap.size, 1, none⟩) (by show w.heap.size < _; omega)).trans y1
    have x2 : w5.cell? ⟨w4.heap.size, 0, none⟩ = some (.slice b3 ss.length c3) := by rw [hb5.cell (p := ⟨w4.heap.size, 0, none⟩) (by simp)]; simp [go_sem]
    have x3 : w5.cell? ⟨w4.heap.size, 1, none⟩ = some (.slice b4 fs.length c4) := by rw [hb5.cell (p := ⟨w4.heap.size, 1, none⟩) (by simp)]; simp [go_sem]
    have S5 := hid (S3.out.stay hb5 (Nat.le_refl _))
    have S6 := hid (S4.out.stay hb5 (Nat.le_refl _))
    clear hB' TB S3 S4 y0 y1 hbW
    clear hb5
    have cD : Hid (∀ w', Below w5.heap.size w5 w' → Calls Try.prog 7 #[.agg #[.slice a1 ss.length k1, .slice a2 fs.length k2]] w' fun e w'' => ∃ b1 b2 c1 c2, e = .returned (.agg #[.slice b1 ss.length c1, .slice b2 fs.length c2]) ∧ (StrSl w'' (.slice b1 ss.length c1) ss ∧ PrSl w'' (.slice b2 fs.length c2) fs) ∧ Below w5.heap.size w5 w'') := by
      show ∀ w', _
      intro w' hb'
      have hq := HB5.out.trans (hb'.mono HB5.out.size)
      refine (toDef_any a1 a2 k1 k2 ss fs _ (H1.out.stay hq (Nat.le_refl _)) (H2.out.stay hq (Nat.le_refl _)) M1.out M2.out).mono ?_
      rintro e w'' ⟨b1, b2, c1, c2, m, rfl, ho1, ho2, _, _, hb2⟩
      exact ⟨b1, b2, c1, c2, rfl, ⟨str_of_own ho1, pr_of_own ho2⟩, hb'.trans (hb2.mono hb'.size)⟩
    have cE : Hid (∀ w' b1 b2 c1 c2, StrSl w' (.slice b1 ss.length c1) ss ∧ PrSl w' (.slice b2 fs.length c2) fs → Below w5.heap.size w5 w' → Calls Try.prog 9 #[.agg #[.slice b3 ss.length c3, .slice b4 fs.length c4], .agg #[.slice b1 ss.length c1, .slice b2 fs.length c2]] w' fun e w'' => e = .returned (.bool true) ∧ Below w5.heap.size w5 w'') := by
      show ∀ w' b1 b2 c1 c2, _
      intro w' b1 b2 c1 c2 hs hb'
      refine (eqDef_same b3 b4 b1 b2 c3 c4 c1 c2 ss fs w' (S5.out.stay hb' (Nat.le_refl _)) (S6.out.stay hb' (Nat.le_refl _)) hs.1 hs.2 N1.out N2.out).mono ?_
      rintro e w'' ⟨rfl, hb⟩
      exact ⟨rfl, hb'.trans (hb.mono hb'.size)⟩
    have hg1 : w.heap.size < w5.heap.size := by omega
    have hg2 : w4.heap.size < w5.heap.size := by omega
    clear hz1 hz2 hz3 hz4 hz5 hr0 H1 H2 HF1 N1 N2 M1 M2 S5 S6 HB1 HB2 HB3 HB4
    generalize w.heap.size = g1 at x0 x1 hg1 ⊢
    generalize w4.heap.size = g2 at *
    go_wp2_with fail
    have hbR : Below w5.heap.size w5 w5.drew := (Below.refl _ _).drew
    go_region_held3 (fun w' => w'.cell? ⟨g1, 0, none⟩ = some (.slice a1 ss.length k1) ∧ w'.cell? ⟨g1, 1, none⟩ = some (.slice a2 fs.length k2) ∧ w'.cell? ⟨g2, 0, none⟩ = some (.slice b3 ss.length c3) ∧ w'.cell? ⟨g2, 1, none⟩ = some (.slice b4 fs.length c4) ∧ Below w5.heap.size w5 w') (go_keep) (first | (go_at_call 7; refine (cD.out _ hbR).mono ?_; rintro e w6 ⟨b5, b6, c5, c6, rfl, hS6, hb6⟩; have z0 := (hb6.cell (p := ⟨g1, 0, none⟩) hg1).trans x0; have z1 := (hb6.cell (p := ⟨g1, 1, none⟩) hg1).trans x1; have z2 := (hb6.cell (p := ⟨g2, 0, none⟩) hg2).trans x2; have z3 := (hb6.cell (p := ⟨g2, 1, none⟩) hg2).trans x3) | (go_at_call 9; refine (cE.out _ _ _ _ _ hS6 hb6).mono ?_; rintro e w7 ⟨rfl, hb7⟩; have z4 := (hb7.cell (p := ⟨g1, 0, none⟩) hg1).trans x0; have z5 := (hb7.cell (p := ⟨g1, 1, none⟩) hg1).trans x1; have z6 := (hb7.cell (p := ⟨g2, 0, none⟩) hg2).trans x2; have z7 := (hb7.cell (p := ⟨g2, 1, none⟩) hg2).trans x3))
    go_wp2
    go_ret
    exact ⟨rfl, HB5.out.trans (hb7.mono HB5.out.size)⟩
end Go.Proofs.Ytmffliikenimnaa
