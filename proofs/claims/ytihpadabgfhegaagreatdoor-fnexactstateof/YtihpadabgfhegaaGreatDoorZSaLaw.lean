/-
  What laws.szState, toState and eqState answer, for every State: contracts over the seat's program.
-/
import Derived.Test.YtihpadabgfhegaaGreatDoorZMark4
import Derived.Test.YtihpadabgfhegaaGreatDoorZVaLaw2
namespace Go.Proofs.YtihpadabgfhegaaGreatDoor
open Go.RowKit Go.Sort

theorem szL_form {left : Int} {ss : List ByteArray} : szL left ss = -1 ∨ 0 ≤ szL left ss ∧ szL left ss ≤ left ∧ (ss.length : Int) ≤ left := by
  by_cases h : (ss.length : Int) + (sumS ss : Int) ≤ left
  · rw [szL_yes h]; right; omega
  · left; exact szL_no (by omega)
theorem szP_form {left : Int} {ps : List Pr} : szP left ps = -1 ∨ 0 ≤ szP left ps ∧ szP left ps ≤ left ∧ (ps.length : Int) ≤ left := by
  by_cases h : (ps.length : Int) + (sumP ps : Int) ≤ left
  · rw [szP_yes h]; right; omega
  · left; exact szP_no (by omega)
set_option maxRecDepth 100000 in
set_option maxHeartbeats 2000000 in
theorem szState_any (a3 a4 a5 : Option Addr) (k3 k4 k5 : Nat) (st bg la fa : Int) (wt bs : List ByteArray) (vs : List Pr) (left : Int) (w : World) (h3 : StrSl w (.slice a3 wt.length k3) wt) (h4 : StrSl w (.slice a4 bs.length k4) bs) (h5 : PrSl w (.slice a5 vs.length k5) vs) (F3 : FitS wt) (F4 : FitS bs) (F5 : FitP vs) (h0 : 0 ≤ left) (hl : left ≤ 1048576) (n3 : wt.length ≤ maxLen) (n4 : bs.length ≤ maxLen) (n5 : vs.length ≤ maxLen) :
    Calls Tryz.prog 18 #[.agg #[.int .i64 st, .int .i64 bg, .int .i64 la, .slice a3 wt.length k3, .slice a4 bs.length k4, .slice a5 vs.length k5, .int .i64 fa], .int .i64 left] w fun e w' => ∃ r : Int, e = .returned (.int .i64 r) ∧ (r = -1 ∨ 0 ≤ r ∧ r ≤ left ∧ wt.length ≤ 1048576 ∧ bs.length ≤ 1048576 ∧ vs.length ≤ 1048576) ∧ Below w.heap.size w w' := by
  have hbW : Below w.heap.size w (w.alloc (.cells #[.int .i64 st, .int .i64 bg, .int .i64 la, .slice a3 wt.length k3, .slice a4 bs.length k4, .slice a5 vs.length k5, .int .i64 fa] 52)) := (Below.refl _ _).alloc (Nat.le_refl _) _
  have c1 := szStringS_any _ wt left _ (h3.stay hbW (Nat.le_refl _)) F3 h0 hl n3
  have H4 := hid h4
  have H5 := hid h5
  have HF4 := hid F4
  have HF5 := hid F5
  have N4 := hid n4
  have N5 := hid n5
  have f1 := szL_form (left := left) (ss := wt)
  generalize szL left wt = L1 at *
  clear h3 h4 h5 F3 F4 F5 n3 n4 n5
  go_enter Tryz.func18, Tryz.ntmps18
  go_wp2_with fail
  refine c1.mono ?_
  rintro e w1 ⟨rfl, hb1⟩
  have y4 := (hb1.cell (p := ⟨w.heap.size, 4, none⟩) (by simp)).trans (by simp [go_sem] : _ = some (.slice a4 bs.length k4))
  have y5 := (hb1.cell (p := ⟨w.heap.size, 5, none⟩) (by simp)).trans (by simp [go_sem] : _ = some (.slice a5 vs.length k5))
  have hz1 : w.heap.size < w1.heap.size := by have := hb1.size; simp at this; omega
  have HB1 := hid (hbW.trans (hb1.mono (by simp)))
  clear hb1 c1 hbW
  rcases f1 with rfl | ⟨p1, p2, p3⟩
  · go_wp2
    go_ret
    exact ⟨-1, rfl, .inl rfl, HB1.out⟩
  · have M1 := hid p3
    clear p3
    go_wp2_with fail
    have f2 := szL_form (left := L1) (ss := bs)
    refine (szStringS_any _ bs L1 _ (H4.out.stay HB1.out (Nat.le_refl _)) HF4.out p1 (by omega) N4.out).mono ?_
    generalize szL L1 bs = L2 at *
    rintro e w2 ⟨rfl, hb2⟩
    have z5 := (hb2.cell (p := ⟨w.heap.size, 5, none⟩) hz1).trans y5
    have HB2 := hid (HB1.out.trans (hb2.mono HB1.out.size))
    clear hb2 y4 y5 hz1
    rcases f2 with rfl | ⟨q1, q2, q3⟩
    · go_wp2
      go_ret
      exact ⟨-1, rfl, .inl rfl, HB2.out⟩
    · have M2 := hid q3
      clear q3
      go_wp2_with fail
      have f3 := szP_form (left := L2) (ps := vs)
      refine (szVarS_any _ vs L2 _ (H5.out.stay HB2.out (Nat.le_refl _)) HF5.out q1 (by omega) N5.out).mono ?_
      generalize szP L2 vs = L3 at *
      rintro e w3 ⟨rfl, hb3⟩
      have HB3 := hid (HB2.out.trans (hb3.mono HB2.out.size))
      clear hb3 z5
      rcases f3 with rfl | ⟨r1, r2, r3⟩
      · go_wp2
        go_ret
        exact ⟨-1, rfl, .inl rfl, HB3.out⟩
      · have HR := hid (show (0 : Int) ≤ L3 ∧ L3 ≤ left ∧ wt.length ≤ 1048576 ∧ bs.length ≤ 1048576 ∧ vs.length ≤ 1048576 by have := M1.out; have := M2.out; omega)
        clear r2 r3
        go_wp2
        go_ret
        exact ⟨L3, rfl, .inr HR.out, HB3.out⟩
set_option maxRecDepth 100000 in
set_option maxHeartbeats 4000000 in
theorem toState_any (a3 a4 a5 : Option Addr) (k3 k4 k5 : Nat) (st bg la fa : Int) (wt bs : List ByteArray) (vs : List Pr) (w : World) (h3 : StrSl w (.slice a3 wt.length k3) wt) (h4 : StrSl w (.slice a4 bs.length k4) bs) (h5 : PrSl w (.slice a5 vs.length k5) vs) (n3 : wt.length ≤ 1048576) (n4 : bs.length ≤ 1048576) (n5 : vs.length ≤ 1048576) :
    Calls Tryz.prog 21 #[.agg #[.int .i64 st, .int .i64 bg, .int .i64 la, .slice a3 wt.length k3, .slice a4 bs.length k4, .slice a5 vs.length k5, .int .i64 fa]] w fun e w' => ∃ b3 b4 b5 c3 c4 c5 m1 m2, e = .returned (.agg #[.int .i64 st, .int .i64 bg, .int .i64 la, .slice b3 wt.length c3, .slice b4 bs.length c4, .slice b5 vs.length c5, .int .i64 fa]) ∧ w'.ownsRow w.heap.size 9 1 (.slice b3 wt.length c3) wt.length (wt.map Value.string) ∧ w'.ownsRow m1 9 1 (.slice b4 bs.length c4) bs.length (bs.map Value.string) ∧ w'.ownsRow m2 83 2 (.slice b5 vs.length c5) vs.length (vs.flatMap Pr.cells) ∧ (w.heap.size ≤ m1 ∧ m1 ≤ m2 ∧ (∀ g, (Value.slice b3 wt.length c3).ownBlock = some g → g < m1) ∧ (∀ g, (Value.slice b4 bs.length c4).ownBlock = some g → g < m2)) ∧ Below w.heap.size w w' := by
  have H3 := hid h3
  have H4 := hid h4
  have H5 := hid h5
  have N3 := hid n3
  have N4 := hid n4
  have N5 := hid n5
  clear h3 h4 h5 n3 n4 n5
  go_enter Tryz.func21, Tryz.ntmps21
  go_wp2_with fail
  have hs0 := (((Below.refl w.heap.size w).alloc (Nat.le_refl _) (.cells #[.int .i64 st, .int .i64 bg, .int .i64 la, .slice a3 wt.length k3, .slice a4 bs.length k4, .slice a5 vs.length k5, .int .i64 fa] 52)).alloc (by simp) (.cells #[.int .i64 0, .int .i64 0, .int .i64 0, .slice none 0 0, .slice none 0 0, .slice none 0 0, .int .i64 0] 29)).alloc (by simp; omega) (.cells #[.int .i64 st, .int .i64 bg, .int .i64 la, .slice none 0 0, .slice none 0 0, .slice none 0 0, .int .i64 0] 29)
  refine (toStringS_any _ wt _ (H3.out.stay hs0 (Nat.le_refl _)) N3.out).mono ?_
  rintro e w1 ⟨v3, rfl, ho1, hb1⟩
  obtain ⟨b3, c3, rfl⟩ := ownB_form ho1
  have HB1 := hid (hs0.trans (hb1.mono (by simp; omega)))
  clear hs0
  obtain ⟨hca, hfa⟩ := bcell hb1
  have hza := hb1.size
  simp at hca hfa hza ho1
  have HO1 := hid ho1
  have p0a : w.heap.size < w.heap.size + 1 + 1 + 1 := by omega
  have p1a : w.heap.size + 1 < w.heap.size + 1 + 1 + 1 := by omega
  have p2a : w.heap.size + 1 + 1 < w.heap.size + 1 + 1 + 1 := by omega
  have oa0 : w1.cell? ⟨w.heap.size + 1 + 1, 0, none⟩ = some (.int .i64 st) := (hca _ _ p2a).trans (by simp [go_sem])
  have oa1 : w1.cell? ⟨w.heap.size + 1 + 1, 1, none⟩ = some (.int .i64 bg) := (hca _ _ p2a).trans (by simp [go_sem])
  have oa2 : w1.cell? ⟨w.heap.size + 1 + 1, 2, none⟩ = some (.int .i64 la) := (hca _ _ p2a).trans (by simp [go_sem])
  have oa3 : w1.cell? ⟨w.heap.size + 1 + 1, 3, none⟩ = some (.slice none 0 0) := (hca _ _ p2a).trans (by simp [go_sem])
  have oa4 : w1.cell? ⟨w.heap.size + 1 + 1, 4, none⟩ = some (.slice none 0 0) := (hca _ _ p2a).trans (by simp [go_sem])
  have oa5 : w1.cell? ⟨w.heap.size + 1 + 1, 5, none⟩ = some (.slice none 0 0) := (hca _ _ p2a).trans (by simp [go_sem])
  have oa6 : w1.cell? ⟨w.heap.size + 1 + 1, 6, none⟩ = some (.int .i64 0) := (hca _ _ p2a).trans (by simp [go_sem])
  have ra0 : w1.cell? ⟨w.heap.size + 1, 0, none⟩ = some (.int .i64 0) := (hca _ _ p1a).trans (by simp [go_sem])
  have ra1 : w1.cell? ⟨w.heap.size + 1, 1, none⟩ = some (.int .i64 0) := (hca _ _ p1a).trans (by simp [go_sem])
  have ra2 : w1.cell? ⟨w.heap.size + 1, 2, none⟩ = some (.int .i64 0) := (hca _ _ p1a).trans (by simp [go_sem])
  have ra3 : w1.cell? ⟨w.heap.size + 1, 3, none⟩ = some (.slice none 0 0) := (hca _ _ p1a).trans (by simp [go_sem])
  have ra4 : w1.cell? ⟨w.heap.size + 1, 4, none⟩ = some (.slice none 0 0) := (hca _ _ p1a).trans (by simp [go_sem])
  have ra5 : w1.cell? ⟨w.heap.size + 1, 5, none⟩ = some (.slice none 0 0) := (hca _ _ p1a).trans (by simp [go_sem])
  have ra6 : w1.cell? ⟨w.heap.size + 1, 6, none⟩ = some (.int .i64 0) := (hca _ _ p1a).trans (by simp [go_sem])
  have qa4 : w1.cell? ⟨w.heap.size, 4, none⟩ = some (.slice a4 bs.length k4) := (hca _ _ p0a).trans (by simp [go_sem])
  have qa5 : w1.cell? ⟨w.heap.size, 5, none⟩ = some (.slice a5 vs.length k5) := (hca _ _ p0a).trans (by simp [go_sem])
  have qa6 : w1.cell? ⟨w.heap.size, 6, none⟩ = some (.int .i64 fa) := (hca _ _ p0a).trans (by simp [go_sem])
  have fa2 : ∀ o, w1.frozen? ⟨w.heap.size + 1 + 1, o, none⟩ = false := fun o => (hfa _ _ p2a).trans (by simp [go_sem])
  have fa1 : ∀ o, w1.frozen? ⟨w.heap.size + 1, o, none⟩ = false := fun o => (hfa _ _ p1a).trans (by simp [go_sem])
  clear hca hfa ho1 hb1
  go_wp2_with fail
  have hs1 := HB1.out.setCell (p := ⟨w.heap.size + 1 + 1, 3, none⟩) (by show w.heap.size ≤ w.heap.size + 1 + 1; omega) (.slice b3 wt.length c3)
  have ho1 := ownsRow_setCell_below HO1.out (a := ⟨w.heap.size + 1 + 1, 3, none⟩) (by show w.heap.size + 1 + 1 < w.heap.size + 1 + 1 + 1; omega) (.slice b3 wt.length c3)
  refine (toStringS_any _ bs _ (H4.out.stay hs1 (Nat.le_refl _)) N4.out).mono ?_
  rintro e w2 ⟨v4, rfl, ho2, hb2⟩
  obtain ⟨b4, c4, rfl⟩ := ownB_form ho2
  have HO1b := hid (ownB_stay ho1 hb2)
  have HL1 := hid (fun g (hg : (Value.slice b3 wt.length c3).ownBlock = some g) => (ho1.lt g hg).2)
  have HB2 := hid (hs1.trans (hb2.mono (by have := HB1.out.size; simpa using this)))
  have hzb := hb2.size
  obtain ⟨hcb, hfb⟩ := bcell hb2
  have hzz : (w1.setCell ⟨w.heap.size + 1 + 1, 3, none⟩ (.slice b3 wt.length c3)).heap.size = w1.heap.size := by simp
  rw [hzz] at ho2 hzb hcb hfb HL1
  have HO2 := hid ho2
  have p0b : w.heap.size < w1.heap.size := by omega
  have p1b : w.heap.size + 1 < w1.heap.size := by omega
  have p2b : w.heap.size + 1 + 1 < w1.heap.size := by omega
  have ob0 : w2.cell? ⟨w.heap.size + 1 + 1, 0, none⟩ = some (.int .i64 st) := (hcb _ _ p2b).trans (by simp [go_sem, oa0])
  have ob1 : w2.cell? ⟨w.heap.size + 1 + 1, 1, none⟩ = some (.int .i64 bg) := (hcb _ _ p2b).trans (by simp [go_sem, oa1])
  have ob2 : w2.cell? ⟨w.heap.size + 1 + 1, 2, none⟩ = some (.int .i64 la) := (hcb _ _ p2b).trans (by simp [go_sem, oa2])
  have ob3 : w2.cell? ⟨w.heap.size + 1 + 1, 3, none⟩ = some (.slice b3 wt.length c3) := (hcb _ _ p2b).trans (by simp [go_sem, oa3])
  have ob4 : w2.cell? ⟨w.heap.size + 1 + 1, 4, none⟩ = some (.slice none 0 0) := (hcb _ _ p2b).trans (by simp [go_sem, oa4])
  have ob5 : w2.cell? ⟨w.heap.size + 1 + 1, 5, none⟩ = some (.slice none 0 0) := (hcb _ _ p2b).trans (by simp [go_sem, oa5])
  have ob6 : w2.cell? ⟨w.heap.size + 1 + 1, 6, none⟩ = some (.int .i64 0) := (hcb _ _ p2b).trans (by simp [go_sem, oa6])
  have rb0 : w2.cell? ⟨w.heap.size + 1, 0, none⟩ = some (.int .i64 0) := (hcb _ _ p1b).trans (by simp [go_sem, ra0])
  have rb1 : w2.cell? ⟨w.heap.size + 1, 1, none⟩ = some (.int .i64 0) := (hcb _ _ p1b).trans (by simp [go_sem, ra1])
  have rb2 : w2.cell? ⟨w.heap.size + 1, 2, none⟩ = some (.int .i64 0) := (hcb _ _ p1b).trans (by simp [go_sem, ra2])
  have rb3 : w2.cell? ⟨w.heap.size + 1, 3, none⟩ = some (.slice none 0 0) := (hcb _ _ p1b).trans (by simp [go_sem, ra3])
  have rb4 : w2.cell? ⟨w.heap.size + 1, 4, none⟩ = some (.slice none 0 0) := (hcb _ _ p1b).trans (by simp [go_sem, ra4])
  have rb5 : w2.cell? ⟨w.heap.size + 1, 5, none⟩ = some (.slice none 0 0) := (hcb _ _ p1b).trans (by simp [go_sem, ra5])
  have rb6 : w2.cell? ⟨w.heap.size + 1, 6, none⟩ = some (.int .i64 0) := (hcb _ _ p1b).trans (by simp [go_sem, ra6])
  have qb5 : w2.cell? ⟨w.heap.size, 5, none⟩ = some (.slice a5 vs.length k5) := (hcb _ _ p0b).trans (by simp [go_sem, qa5])
  have qb6 : w2.cell? ⟨w.heap.size, 6, none⟩ = some (.int .i64 fa) := (hcb _ _ p0b).trans (by simp [go_sem, qa6])
  have fb2 : ∀ o, w2.frozen? ⟨w.heap.size + 1 + 1, o, none⟩ = false := fun o => (hfb _ _ p2b).trans (by simp [go_sem, fa2])
  have fb1 : ∀ o, w2.frozen? ⟨w.heap.size + 1, o, none⟩ = false := fun o => (hfb _ _ p1b).trans (by simp [go_sem, fa1])
  clear hcb hfb ho1 ho2 hb2 hs1 hzz
  clear oa0 oa1 oa2 oa3 oa4 oa5 oa6 ra0 ra1 ra2 ra3 ra4 ra5 ra6 qa4 qa5 qa6 fa1 fa2
  go_wp2_with fail
  have hs2 := HB2.out.setCell (p := ⟨w.heap.size + 1 + 1, 4, none⟩) (by show w.heap.size ≤ w.heap.size + 1 + 1; omega) (.slice b4 bs.length c4)
  have ho1 := ownsRow_setCell_below HO1b.out (a := ⟨w.heap.size + 1 + 1, 4, none⟩) (by show w.heap.size + 1 + 1 < w.heap.size + 1 + 1 + 1; omega) (.slice b4 bs.length c4)
  have ho2 := ownsRow_setCell_below HO2.out (a := ⟨w.heap.size + 1 + 1, 4, none⟩) (by show w.heap.size + 1 + 1 < _; omega) (.slice b4 bs.length c4)
  refine (toVarS_any _ vs _ (H5.out.stay hs2 (Nat.le_refl _)) N5.out).mono ?_
  rintro e w3 ⟨v5, rfl, ho3, hb3⟩
  obtain ⟨b5, c5, rfl⟩ := ownB_form ho3
  have HO1c := hid (ownB_stay ho1 hb3)
  have HO2c := hid (ownB_stay ho2 hb3)
  have HL2 := hid (fun g (hg : (Value.slice b4 bs.length c4).ownBlock = some g) => (ho2.lt g hg).2)
  have HB3 := hid (hs2.trans (hb3.mono (by have := HB2.out.size; simpa using this)))
  have hzc := hb3.size
  obtain ⟨hcc, hfc⟩ := bcell hb3
  have hzz : (w2.setCell ⟨w.heap.size + 1 + 1, 4, none⟩ (.slice b4 bs.length c4)).heap.size = w2.heap.size := by simp
  rw [hzz] at ho3 hzc hcc hfc HL2
  have HO3 := hid ho3
  have p0c : w.heap.size < w2.heap.size := by omega
  have p1c : w.heap.size + 1 < w2.heap.size := by omega
  have p2c : w.heap.size + 1 + 1 < w2.heap.size := by omega
  have oc0 : w3.cell? ⟨w.heap.size + 1 + 1, 0, none⟩ = some (.int .i64 st) := (hcc _ _ p2c).trans (by simp [go_sem, ob0])
  have oc1 : w3.cell? ⟨w.heap.size + 1 + 1, 1, none⟩ = some (.int .i64 bg) := (hcc _ _ p2c).trans (by simp [go_sem, ob1])
  have oc2 : w3.cell? ⟨w.heap.size + 1 + 1, 2, none⟩ = some (.int .i64 la) := (hcc _ _ p2c).trans (by simp [go_sem, ob2])
  have oc3 : w3.cell? ⟨w.heap.size + 1 + 1, 3, none⟩ = some (.slice b3 wt.length c3) := (hcc _ _ p2c).trans (by simp [go_sem, ob3])
  have oc4 : w3.cell? ⟨w.heap.size + 1 + 1, 4, none⟩ = some (.slice b4 bs.length c4) := (hcc _ _ p2c).trans (by simp [go_sem, ob4])
  have oc5 : w3.cell? ⟨w.heap.size + 1 + 1, 5, none⟩ = some (.slice none 0 0) := (hcc _ _ p2c).trans (by simp [go_sem, ob5])
  have oc6 : w3.cell? ⟨w.heap.size + 1 + 1, 6, none⟩ = some (.int .i64 0) := (hcc _ _ p2c).trans (by simp [go_sem, ob6])
  have rc0 : w3.cell? ⟨w.heap.size + 1, 0, none⟩ = some (.int .i64 0) := (hcc _ _ p1c).trans (by simp [go_sem, rb0])
  have rc1 : w3.cell? ⟨w.heap.size + 1, 1, none⟩ = some (.int .i64 0) := (hcc _ _ p1c).trans (by simp [go_sem, rb1])
  have rc2 : w3.cell? ⟨w.heap.size + 1, 2, none⟩ = some (.int .i64 0) := (hcc _ _ p1c).trans (by simp [go_sem, rb2])
  have rc3 : w3.cell? ⟨w.heap.size + 1, 3, none⟩ = some (.slice none 0 0) := (hcc _ _ p1c).trans (by simp [go_sem, rb3])
  have rc4 : w3.cell? ⟨w.heap.size + 1, 4, none⟩ = some (.slice none 0 0) := (hcc _ _ p1c).trans (by simp [go_sem, rb4])
  have rc5 : w3.cell? ⟨w.heap.size + 1, 5, none⟩ = some (.slice none 0 0) := (hcc _ _ p1c).trans (by simp [go_sem, rb5])
  have rc6 : w3.cell? ⟨w.heap.size + 1, 6, none⟩ = some (.int .i64 0) := (hcc _ _ p1c).trans (by simp [go_sem, rb6])
  have qc6 : w3.cell? ⟨w.heap.size, 6, none⟩ = some (.int .i64 fa) := (hcc _ _ p0c).trans (by simp [go_sem, qb6])
  have fc2 : ∀ o, w3.frozen? ⟨w.heap.size + 1 + 1, o, none⟩ = false := fun o => (hfc _ _ p2c).trans (by simp [go_sem, fb2])
  have fc1 : ∀ o, w3.frozen? ⟨w.heap.size + 1, o, none⟩ = false := fun o => (hfc _ _ p1c).trans (by simp [go_sem, fb1])
  clear hcc hfc ho1 ho2 ho3 hb3 hs2 hzz
  clear ob0 ob1 ob2 ob3 ob4 ob5 ob6 rb0 rb1 rb2 rb3 rb4 rb5 rb6 qb5 qb6 fb1 fb2
  go_wp2
  refine bodyPost_ret (v := .agg #[.int .i64 st, .int .i64 bg, .int .i64 la, .slice b3 wt.length c3, .slice b4 bs.length c4, .slice b5 vs.length c5, .int .i64 fa]) (by simp [results, Tryz.results21, go_sem, rc0, rc1, rc2, rc3, rc4, rc5, rc6]) rfl ⟨b3, b4, b5, c3, c4, c5, w1.heap.size, w2.heap.size, rfl, ?_, ?_, ?_, ⟨by omega, by omega, HL1.out, HL2.out⟩, ?_⟩
  · exact ownB_le (ownsRow_setCell_below (ownsRow_setCell_below (ownsRow_setCell_below (ownsRow_setCell_below (ownsRow_setCell_below (ownsRow_setCell_below (ownsRow_setCell_below (ownsRow_setCell_below (ownsRow_setCell_below (HO1c.out) (by show w.heap.size + 1 + 1 < _; omega) _) (by show w.heap.size + 1 + 1 < _; omega) _) (by show w.heap.size + 1 < _; omega) _) (by show w.heap.size + 1 < _; omega) _) (by show w.heap.size + 1 < _; omega) _) (by show w.heap.size + 1 < _; omega) _) (by show w.heap.size + 1 < _; omega) _) (by show w.heap.size + 1 < _; omega) _) (by show w.heap.size + 1 < _; omega) _) (show w.heap.size ≤ w.heap.size + 1 + 1 + 1 by omega)
  · exact ownsRow_setCell_below (ownsRow_setCell_below (ownsRow_setCell_below (ownsRow_setCell_below (ownsRow_setCell_below (ownsRow_setCell_below (ownsRow_setCell_below (ownsRow_setCell_below (ownsRow_setCell_below (HO2c.out) (by show w.heap.size + 1 + 1 < _; omega) _) (by show w.heap.size + 1 + 1 < _; omega) _) (by show w.heap.size + 1 < _; omega) _) (by show w.heap.size + 1 < _; omega) _) (by show w.heap.size + 1 < _; omega) _) (by show w.heap.size + 1 < _; omega) _) (by show w.heap.size + 1 < _; omega) _) (by show w.heap.size + 1 < _; omega) _) (by show w.heap.size + 1 < _; omega) _
  · exact ownsRow_setCell_below (ownsRow_setCell_below (ownsRow_setCell_below (ownsRow_setCell_below (ownsRow_setCell_below (ownsRow_setCell_below (ownsRow_setCell_below (ownsRow_setCell_below (ownsRow_setCell_below (HO3.out) (by show w.heap.size + 1 + 1 < _; omega) _) (by show w.heap.size + 1 + 1 < _; omega) _) (by show w.heap.size + 1 < _; omega) _) (by show w.heap.size + 1 < _; omega) _) (by show w.heap.size + 1 < _; omega) _) (by show w.heap.size + 1 < _; omega) _) (by show w.heap.size + 1 < _; omega) _) (by show w.heap.size + 1 < _; omega) _) (by show w.heap.size + 1 < _; omega) _
  · exact (((((((((HB3.out).setCell (by show w.heap.size ≤ w.heap.size + 1 + 1; omega) _).setCell (by show w.heap.size ≤ w.heap.size + 1 + 1; omega) _).setCell (by show w.heap.size ≤ w.heap.size + 1; omega) _).setCell (by show w.heap.size ≤ w.heap.size + 1; omega) _).setCell (by show w.heap.size ≤ w.heap.size + 1; omega) _).setCell (by show w.heap.size ≤ w.heap.size + 1; omega) _).setCell (by show w.heap.size ≤ w.heap.size + 1; omega) _).setCell (by show w.heap.size ≤ w.heap.size + 1; omega) _).setCell (by show w.heap.size ≤ w.heap.size + 1; omega) _
set_option maxRecDepth 100000 in
set_option maxHeartbeats 2000000 in
theorem eqState_same (a3 a4 a5 b3 b4 b5 : Option Addr) (k3 k4 k5 c3 c4 c5 : Nat) (st bg la fa : Int) (wt bs : List ByteArray) (vs : List Pr) (w : World) (h3 : StrSl w (.slice a3 wt.length k3) wt) (h4 : StrSl w (.slice a4 bs.length k4) bs) (h5 : PrSl w (.slice a5 vs.length k5) vs) (g3 : StrSl w (.slice b3 wt.length c3) wt) (g4 : StrSl w (.slice b4 bs.length c4) bs) (g5 : PrSl w (.slice b5 vs.length c5) vs) (n3 : wt.length ≤ maxLen) (n4 : bs.length ≤ maxLen) (n5 : vs.length ≤ maxLen) :
    Calls Tryz.prog 25 #[.agg #[.int .i64 st, .int .i64 bg, .int .i64 la, .slice a3 wt.length k3, .slice a4 bs.length k4, .slice a5 vs.length k5, .int .i64 fa], .agg #[.int .i64 st, .int .i64 bg, .int .i64 la, .slice b3 wt.length c3, .slice b4 bs.length c4, .slice b5 vs.length c5, .int .i64 fa]] w fun e w' => e = .returned (.bool true) ∧ Below w.heap.size w w' := by
  have hb3 := below2 w (.cells #[.int .i64 st, .int .i64 bg, .int .i64 la, .slice a3 wt.length k3, .slice a4 bs.length k4, .slice a5 vs.length k5, .int .i64 fa] 29) (.cells #[.int .i64 st, .int .i64 bg, .int .i64 la, .slice b3 wt.length c3, .slice b4 bs.length c4, .slice b5 vs.length c5, .int .i64 fa] 29)
  have c1 := eqStringS_any _ _ wt _ (h3.stay hb3 (Nat.le_refl _)) (g3.stay hb3 (Nat.le_refl _)) n3
  have HB := hid hb3
  have H4 := hid h4
  have H5 := hid h5
  have J4 := hid g4
  have J5 := hid g5
  have N4 := hid n4
  have N5 := hid n5
  clear h3 h4 h5 g3 g4 g5 n3 n4 n5 hb3
  go_enter Tryz.func25, Tryz.ntmps25
  go_wp2_with fail
  refine c1.mono ?_
  rintro e w1 ⟨rfl, hb1⟩
  have y4 := (hb1.cell (p := ⟨w.heap.size, 4, none⟩) (by simp; omega)).trans (by simp [go_sem] : _ = some (.slice a4 bs.length k4))
  have y5 := (hb1.cell (p := ⟨w.heap.size, 5, none⟩) (by simp; omega)).trans (by simp [go_sem] : _ = some (.slice a5 vs.length k5))
  have y6 := (hb1.cell (p := ⟨w.heap.size, 6, none⟩) (by simp; omega)).trans (by simp [go_sem] : _ = some (.int .i64 fa))
  have x4 := (hb1.cell (p := ⟨w.heap.size + 1, 4, none⟩) (by simp)).trans (by simp [go_sem] : _ = some (.slice b4 bs.length c4))
  have x5 := (hb1.cell (p := ⟨w.heap.size + 1, 5, none⟩) (by simp)).trans (by simp [go_sem] : _ = some (.slice b5 vs.length c5))
  have x6 := (hb1.cell (p := ⟨w.heap.size + 1, 6, none⟩) (by simp)).trans (by simp [go_sem] : _ = some (.int .i64 fa))
  have hz1 : w.heap.size + 1 < w1.heap.size := by have := hb1.size; simp at this; omega
  have hz0 : w.heap.size < w1.heap.size := by omega
  have HB1 := hid (HB.out.trans (hb1.mono (by simp; omega)))
  clear hb1 c1
  go_wp2_with fail
  refine (eqStringS_any _ _ bs _ (H4.out.stay HB1.out (Nat.le_refl _)) (J4.out.stay HB1.out (Nat.le_refl _)) N4.out).mono ?_
  rintro e w2 ⟨rfl, hb2⟩
  have u5 := (hb2.cell (p := ⟨w.heap.size, 5, none⟩) hz0).trans y5
  have u6 := (hb2.cell (p := ⟨w.heap.size, 6, none⟩) hz0).trans y6
  have v5 := (hb2.cell (p := ⟨w.heap.size + 1, 5, none⟩) hz1).trans x5
  have v6 := (hb2.cell (p := ⟨w.heap.size + 1, 6, none⟩) hz1).trans x6
  have hz2 := hb2.size
  have HB2 := hid (HB1.out.trans (hb2.mono HB1.out.size))
  clear hb2 y4 y5 y6 x4 x5 x6
  go_wp2_with fail
  refine (eqVarS_any _ _ vs _ (H5.out.stay HB2.out (Nat.le_refl _)) (J5.out.stay HB2.out (Nat.le_refl _)) N5.out).mono ?_
  rintro e w3 ⟨rfl, hb3⟩
  have y6 := (hb3.cell (p := ⟨w.heap.size, 6, none⟩) (by show w.heap.size < _; omega)).trans u6
  have x6 := (hb3.cell (p := ⟨w.heap.size + 1, 6, none⟩) (by show w.heap.size + 1 < _; omega)).trans v6
  have HB3 := hid (HB2.out.trans (hb3.mono HB2.out.size))
  clear hb3 u5 u6 v5 v6 hz0 hz1 hz2
  go_wp2
  go_ret
  exact ⟨rfl, HB3.out⟩
end Go.Proofs.YtihpadabgfhegaaGreatDoor
