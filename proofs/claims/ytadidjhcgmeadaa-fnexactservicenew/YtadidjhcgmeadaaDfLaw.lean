/-
  What laws.szDef, toDef and eqDef answer, for every Def: contracts over the seat's program.
-/
import Derived.Test.YtadidjhcgmeadaaStLaw
import Derived.Test.YtadidjhcgmeadaaFlLaw
import Derived.Test.YtadidjhcgmeadaaOwnB
namespace Go.Proofs.Ytadidjhcgmeadaa
open Go.RowKit Go.Sort

set_option maxRecDepth 100000 in
set_option maxHeartbeats 1000000 in
theorem szDef_any (a1 a2 : Option Addr) (k1 k2 : Nat) (ss : List ByteArray) (fs : List Pr) (left : Int) (w : World) (h1 : StrSl w (.slice a1 ss.length k1) ss) (h2 : PrSl w (.slice a2 fs.length k2) fs) (F1 : FitS ss) (F2 : FitP fs) (h0 : 0 ≤ left) (hl : left ≤ 1048576) (n1 : ss.length ≤ maxLen) (n2 : fs.length ≤ maxLen) :
    Calls Try.prog 4 #[.agg #[.slice a1 ss.length k1, .slice a2 fs.length k2], .int .i64 left] w fun e w' => ∃ r : Int, e = .returned (.int .i64 r) ∧ (r = -1 ∨ 0 ≤ r ∧ r ≤ left ∧ ss.length ≤ 1048576 ∧ fs.length ≤ 1048576) ∧ Below w.heap.size w w' := by
  have hbW : Below w.heap.size w (w.alloc (.cells #[.slice a1 ss.length k1, .slice a2 fs.length k2] 25)) := (Below.refl _ _).alloc (Nat.le_refl _) _
  have c1 := szStringS_any _ ss left _ (h1.stay hbW (Nat.le_refl _)) F1 h0 hl n1
  have H2 := hid h2
  have HF2 := hid F2
  have N2 := hid n2
  clear h1 h2 F1 F2 n1 n2
  by_cases hz : (ss.length : Int) + (sumS ss : Int) ≤ left
  · rw [szL_yes hz] at c1
    have hL : (0 : Int) ≤ left - (ss.length : Int) - (sumS ss : Int) := by omega
    have hL2 : left - (ss.length : Int) - (sumS ss : Int) ≤ left := by omega
    have HN := hid (show ss.length ≤ 1048576 by omega)
    generalize left - (ss.length : Int) - (sumS ss : Int) = L at *
    by_cases hz2 : (fs.length : Int) + (sumP fs : Int) ≤ L
    · have HR := hid (szP_yes hz2)
      have HS := hid (show 0 ≤ L - (fs.length : Int) - (sumP fs : Int) ∧ L - (fs.length : Int) - (sumP fs : Int) ≤ left ∧ fs.length ≤ 1048576 by omega)
      clear hz hz2
      go_enter Try.func4, Try.ntmps4
      go_wp2_with fail
      refine c1.mono ?_
      rintro e w1 ⟨rfl, hb1⟩
      obtain ⟨hc1, hf1⟩ := bcell hb1
      have hbA := hbW.trans (hb1.mono (by simp))
      simp at hc1 hf1
      have HB := hid hbA
      clear hb1 c1 hbW hbA
      go_wp2_with fail
      refine (szFlowS_any _ fs L _ (H2.out.stay HB.out (Nat.le_refl _)) HF2.out hL (by omega) N2.out).mono ?_
      rw [HR.out]
      rintro e w2 ⟨rfl, hb2⟩
      have hbB := HB.out.trans (hb2.mono HB.out.size)
      have hS := HS.out.1
      clear hb2 hc1 hf1
      generalize L - (fs.length : Int) - (sumP fs : Int) = L2 at *
      go_wp2
      go_ret
      exact ⟨L2, rfl, .inr ⟨HS.out.1, HS.out.2.1, HN.out, HS.out.2.2⟩, hbB⟩
    · have HR := hid (szP_no (left := L) (es := fs) (by omega))
      clear hz hz2
      go_enter Try.func4, Try.ntmps4
      go_wp2_with fail
      refine c1.mono ?_
      rintro e w1 ⟨rfl, hb1⟩
      obtain ⟨hc1, hf1⟩ := bcell hb1
      have hbA := hbW.trans (hb1.mono (by simp))
      simp at hc1 hf1
      have HB := hid hbA
      clear hb1 c1 hbW hbA
      go_wp2_with fail
      refine (szFlowS_any _ fs L _ (H2.out.stay HB.out (Nat.le_refl _)) HF2.out hL (by omega) N2.out).mono ?_
      rw [HR.out]
      rintro e w2 ⟨rfl, hb2⟩
      have hbB := HB.out.trans (hb2.mono HB.out.size)
      clear hb2 hc1 hf1
      go_wp2
      go_ret
      exact ⟨-1, rfl, .inl rfl, hbB⟩
  · rw [szL_no (by omega)] at c1
    clear hz
    go_enter Try.func4, Try.ntmps4
    go_wp2_with fail
    refine c1.mono ?_
    rintro e w1 ⟨rfl, hb1⟩
    have hbA := hbW.trans (hb1.mono (by simp))
    clear hb1 c1 hbW
    go_wp2
    go_ret
    exact ⟨-1, rfl, .inl rfl, hbA⟩

set_option maxRecDepth 100000 in
set_option maxHeartbeats 1000000 in
theorem toDef_any (a1 a2 : Option Addr) (k1 k2 : Nat) (ss : List ByteArray) (fs : List Pr) (w : World) (h1 : StrSl w (.slice a1 ss.length k1) ss) (h2 : PrSl w (.slice a2 fs.length k2) fs) (n1 : ss.length ≤ 1048576) (n2 : fs.length ≤ 1048576) :
    Calls Try.prog 6 #[.agg #[.slice a1 ss.length k1, .slice a2 fs.length k2]] w fun e w' => ∃ b1 b2 c1 c2 m, e = .returned (.agg #[.slice b1 ss.length c1, .slice b2 fs.length c2]) ∧ w'.ownsRow w.heap.size 9 1 (.slice b1 ss.length c1) ss.length (ss.map Value.string) ∧ w'.ownsRow m 57 2 (.slice b2 fs.length c2) fs.length (fs.flatMap Pr.cells) ∧ w.heap.size ≤ m ∧ (∀ g, (Value.slice b1 ss.length c1).ownBlock = some g → g < m) ∧ Below w.heap.size w w' := by
  have H1 := hid h1
  have H2 := hid h2
  have N1 := hid n1
  have N2 := hid n2
  clear h1 h2
  go_enter Try.func6, Try.ntmps6
  go_wp2_with fail
  have hb3 : Below w.heap.size w (((w.alloc (.cells #[.slice a1 ss.length k1, .slice a2 fs.length k2] 25)).alloc (.cells #[.slice none 0 0, .slice none 0 0] 29)).alloc (.cells #[.slice none 0 0, .slice none 0 0] 29)) := (((Below.refl _ _).alloc (Nat.le_refl _) _).alloc (by simp) _).alloc (by simp; omega) _
  refine (toStringS_any _ ss _ (H1.out.stay hb3 (Nat.le_refl _)) N1.out).mono ?_
  rintro e w1 ⟨v1, rfl, ho1, hb1⟩
  obtain ⟨b1, c1, rfl⟩ := ownB_form ho1
  obtain ⟨hc1, hf1⟩ := bcell hb1
  have hz1 := hb1.size
  have HB1 := hid (hb3.trans (hb1.mono (by simp; omega)))
  simp at hc1 hf1 hz1 ho1
  have HO1 := hid ho1
  clear hb1 hb3 ho1
  go_wp2_with fail
  have hb4 := HB1.out.setCell (p := ⟨w.heap.size + 1 + 1, 0, none⟩) (by show w.heap.size ≤ w.heap.size + 1 + 1; omega) (.slice b1 ss.length c1)
  have ho4 := ownsRow_setCell_below HO1.out (a := ⟨w.heap.size + 1 + 1, 0, none⟩) (by show w.heap.size + 1 + 1 < w.heap.size + 1 + 1 + 1; omega) (.slice b1 ss.length c1)
  refine (toFlowS_any _ fs _ (H2.out.stay hb4 (Nat.le_refl _)) N2.out).mono ?_
  rintro e w2 ⟨v2, rfl, ho2, hb2⟩
  obtain ⟨b2, c2, rfl⟩ := ownB_form ho2
  have HO1b := hid (ownB_stay ho4 hb2)
  have HL := hid (fun g (hg : (Value.slice b1 ss.length c1).ownBlock = some g) => (ho4.lt g hg).2)
  have HB2 := hid (hb4.trans (hb2.mono (by have := HB1.out.size; simpa using this)))
  have hz2 := hb2.size
  obtain ⟨hc2, hf2⟩ := bcell hb2
  have hzz : (w1.setCell ⟨w.heap.size + 1 + 1, 0, none⟩ (.slice b1 ss.length c1)).heap.size = w1.heap.size := by simp
  rw [hzz] at ho2 hz2 hc2 hf2 HL
  have HO2 := hid ho2
  have p1 : w.heap.size + 1 < w1.heap.size := by omega
  have p2 : w.heap.size + 1 + 1 < w1.heap.size := by omega
  have y0 : w2.cell? ⟨w.heap.size + 1 + 1, 0, none⟩ = some (.slice b1 ss.length c1) := by rw [hc2 _ _ p2]; simp [go_sem, hc1]
  have y1 : w2.cell? ⟨w.heap.size + 1 + 1, 1, none⟩ = some (.slice none 0 0) := by rw [hc2 _ _ p2]; simp [go_sem, hc1]
  have y2 : w2.cell? ⟨w.heap.size + 1, 0, none⟩ = some (.slice none 0 0) := by rw [hc2 _ _ p1]; simp [go_sem, hc1]
  have y3 : w2.cell? ⟨w.heap.size + 1, 1, none⟩ = some (.slice none 0 0) := by rw [hc2 _ _ p1]; simp [go_sem, hc1]
  have f1 : ∀ o, w2.frozen? ⟨w.heap.size + 1 + 1, o, none⟩ = false := fun o => by rw [hf2 _ _ p2]; simp [go_sem, hf1]
  have f2 : ∀ o, w2.frozen? ⟨w.heap.size + 1, o, none⟩ = false := fun o => by rw [hf2 _ _ p1]; simp [go_sem, hf1]
  clear hb2 hb4 ho4 ho2 hzz hc1 hf1 hc2 hf2
  go_wp2
  refine bodyPost_ret (v := .agg #[.slice b1 ss.length c1, .slice b2 fs.length c2]) (by simp [results, Try.results6, go_sem, y2, y3]) rfl ⟨b1, b2, c1, c2, w1.heap.size, rfl, ?_, ?_, by omega, HL.out, ?_⟩
  · refine ownB_le ?_ (Nat.le_trans (show w.heap.size ≤ w.heap.size + 1 + 1 + 1 by omega) (Nat.le_refl _))
    exact ownsRow_setCell_below (ownsRow_setCell_below (ownsRow_setCell_below HO1b.out (by show w.heap.size + 1 + 1 < _; omega) _) (by show w.heap.size + 1 < _; omega) _) (by show w.heap.size + 1 < _; omega) _
  · exact ownsRow_setCell_below (ownsRow_setCell_below (ownsRow_setCell_below HO2.out (by show w.heap.size + 1 + 1 < _; omega) _) (by show w.heap.size + 1 < _; omega) _) (by show w.heap.size + 1 < _; omega) _
  · exact ((HB2.out.setCell (by show w.heap.size ≤ w.heap.size + 1 + 1; omega) _).setCell (by show w.heap.size ≤ w.heap.size + 1; omega) _).setCell (by show w.heap.size ≤ w.heap.size + 1; omega) _

set_option maxRecDepth 100000 in
set_option maxHeartbeats 1000000 in
theorem eqDef_same (a1 a2 a3 a4 : Option Addr) (k1 k2 k3 k4 : Nat) (ss : List ByteArray) (fs : List Pr) (w : World) (h1 : StrSl w (.slice a1 ss.length k1) ss) (h2 : PrSl w (.slice a2 fs.length k2) fs) (h3 : StrSl w (.slice a3 ss.length k3) ss) (h4 : PrSl w (.slice a4 fs.length k4) fs) (n1 : ss.length ≤ maxLen) (n2 : fs.length ≤ maxLen) :
    Calls Try.prog 9 #[.agg #[.slice a1 ss.length k1, .slice a2 fs.length k2], .agg #[.slice a3 ss.length k3, .slice a4 fs.length k4]] w fun e w' => e = .returned (.bool true) ∧ Below w.heap.size w w' := by
  have H1 := hid h1
  have H2 := hid h2
  have H3 := hid h3
  have H4 := hid h4
  have N1 := hid n1
  have N2 := hid n2
  clear h1 h2 h3 h4 n1 n2
  go_enter Try.func9, Try.ntmps9
  go_wp2_with fail
  have hb3 := below2 w (.cells #[.slice a1 ss.length k1, .slice a2 fs.length k2] 29) (.cells #[.slice a3 ss.length k3, .slice a4 fs.length k4] 29)
  refine (eqStringS_any _ _ ss _ (H1.out.stay hb3 (Nat.le_refl _)) (H3.out.stay hb3 (Nat.le_refl _)) N1.out).mono ?_
  rintro e w1 ⟨rfl, hb1⟩
  have HB := hid (hb3.trans (hb1.mono (by simp; omega)))
  obtain ⟨hc1, hf1⟩ := bcell hb1
  have hz1 := hb1.size
  simp at hc1 hf1 hz1
  clear hb1 hb3
  go_wp2_with fail
  refine (eqFlowS_any _ _ fs _ (H2.out.stay HB.out (Nat.le_refl _)) (H4.out.stay HB.out (Nat.le_refl _)) N2.out).mono ?_
  rintro e w2 ⟨rfl, hb2⟩
  have hbB := HB.out.trans (hb2.mono HB.out.size)
  clear hb2 hc1 hf1
  go_wp2
  go_ret
  exact ⟨rfl, hbB⟩
end Go.Proofs.Ytadidjhcgmeadaa
