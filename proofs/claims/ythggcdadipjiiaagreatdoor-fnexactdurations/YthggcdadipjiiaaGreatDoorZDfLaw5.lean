/-
  Texts put together: DfLaw, DfOw, MkS, MkF, MkD.
-/
import Derived.Test.YthggcdadipjiiaaGreatDoorZStEq3
import Derived.Test.YthggcdadipjiiaaGreatDoorZRunM6
import Derived.Test.YthggcdadipjiiaaGreatDoorZDfV3
import Derived.Test.YthggcdadipjiiaaGreatDoorZImSO4
import Derived.Test.YthggcdadipjiiaaGreatDoorZStrs4
import Derived.BigQuiet
import Derived.Lib.QuietBelow
import Derived.Test.YthggcdadipjiiaaGreatDoorZSpSet24
import Derived.Test.YthggcdadipjiiaaGreatDoorZAgg3
import Derived.Test.YthggcdadipjiiaaGreatDoorZSpDo24
/-
  What laws.szDef, toDef and eqDef answer, for every Def: contracts over the seat's program.
-/
namespace Go.Proofs.YthggcdadipjiiaaGreatDoor
open Go.RowKit Go.Sort

set_option maxRecDepth 100000 in
set_option maxHeartbeats 1000000 in
theorem szDef_any (a1 a2 : Option Addr) (k1 k2 : Nat) (ss : List ByteArray) (fs : List Pr) (left : Int) (w : World) (h1 : StrSl w (.slice a1 ss.length k1) ss) (h2 : PrSl w (.slice a2 fs.length k2) fs) (F1 : FitS ss) (F2 : FitP fs) (h0 : 0 ≤ left) (hl : left ≤ 1048576) (n1 : ss.length ≤ maxLen) (n2 : fs.length ≤ maxLen) :
    Calls Tryz.prog 8 #[.agg #[.slice a1 ss.length k1, .slice a2 fs.length k2], .int .i64 left] w fun e w' => ∃ r : Int, e = .returned (.int .i64 r) ∧ (r = -1 ∨ 0 ≤ r ∧ r ≤ left ∧ ss.length ≤ 1048576 ∧ fs.length ≤ 1048576) ∧ Below w.heap.size w w' := by
  have hbW : Below w.heap.size w (w.alloc (.cells #[.slice a1 ss.length k1, .slice a2 fs.length k2] 39)) := (Below.refl _ _).alloc (Nat.le_refl _) _
  have c1 := szStringS_any _ ss left _ (h1.stay hbW (Nat.le_refl _)) F1 h0 hl n1
  have H2 := hid h2
  have HF2 := hid F2
  have N2 := hid n2
  clear h1 h2 F1 F2 n1 n2
  by_cases hz : (ss.length : Int) + (sumS ss : Int) ≤ left
  · rw [szL_yes hz] at c1
    have hL : (0 : Int) ≤ left - (ss.length : Int) - (sumS ss : Int) := by omega
    have hL2 : left - (ss.length : Int) - (sumS ss : Int) ≤ left := by omega
    have HN := hid (show ss.length ≤ 1048576 by omega)
    generalize left - (ss.length : Int) - (sumS ss : Int) = L at *
    by_cases hz2 : (fs.length : Int) + (sumP fs : Int) ≤ L
    · have HR := hid (szP_yes hz2)
      have HS := hid (show 0 ≤ L - (fs.length : Int) - (sumP fs : Int) ∧ L - (fs.length : Int) - (sumP fs : Int) ≤ left ∧ fs.length ≤ 1048576 by omega)
      clear hz hz2
      go_enter Tryz.func8, Tryz.ntmps8
      go_wp2_with fail
      refine c1.mono ?_
      rintro e w1 ⟨rfl, hb1⟩
      obtain ⟨hc1, hf1⟩ := bcell hb1
      have hbA := hbW.trans (hb1.mono (by simp))
      simp at hc1 hf1
      have HB := hid hbA
      clear hb1 c1 hbW hbA
      go_wp2_with fail
      refine (szFlowS_any _ fs L _ (H2.out.stay HB.out (Nat.le_refl _)) HF2.out hL (by omega) N2.out).mono ?_
      rw [HR.out]
      rintro e w2 ⟨rfl, hb2⟩
      have hbB := HB.out.trans (hb2.mono HB.out.size)
      have hS := HS.out.1
      clear hb2 hc1 hf1
      generalize L - (fs.length : Int) - (sumP fs : Int) = L2 at *
      go_wp2
      go_ret
      exact ⟨L2, rfl, .inr ⟨HS.out.1, HS.out.2.1, HN.out, HS.out.2.2⟩, hbB⟩
    · have HR := hid (szP_no (left := L) (es := fs) (by omega))
      clear hz hz2
      go_enter Tryz.func8, Tryz.ntmps8
      go_wp2_with fail
      refine c1.mono ?_
      rintro e w1 ⟨rfl, hb1⟩
      obtain ⟨hc1, hf1⟩ := bcell hb1
      have hbA := hbW.trans (hb1.mono (by simp))
      simp at hc1 hf1
      have HB := hid hbA
      clear hb1 c1 hbW hbA
      go_wp2_with fail
      refine (szFlowS_any _ fs L _ (H2.out.stay HB.out (Nat.le_refl _)) HF2.out hL (by omega) N2.out).mono ?_
      rw [HR.out]
      rintro e w2 ⟨rfl, hb2⟩
      have hbB := HB.out.trans (hb2.mono HB.out.size)
      clear hb2 hc1 hf1
      go_wp2
      go_ret
      exact ⟨-1, rfl, .inl rfl, hbB⟩
  · rw [szL_no (by omega)] at c1
    clear hz
    go_enter Tryz.func8, Tryz.ntmps8
    go_wp2_with fail
    refine c1.mono ?_
    rintro e w1 ⟨rfl, hb1⟩
    have hbA := hbW.trans (hb1.mono (by simp))
    clear hb1 c1 hbW
    go_wp2
    go_ret
    exact ⟨-1, rfl, .inl rfl, hbA⟩

set_option maxRecDepth 100000 in
set_option maxHeartbeats 1000000 in
theorem toDef_any (a1 a2 : Option Addr) (k1 k2 : Nat) (ss : List ByteArray) (fs : List Pr) (w : World) (h1 : StrSl w (.slice a1 ss.length k1) ss) (h2 : PrSl w (.slice a2 fs.length k2) fs) (n1 : ss.length ≤ 1048576) (n2 : fs.length ≤ 1048576) :
    Calls Tryz.prog 10 #[.agg #[.slice a1 ss.length k1, .slice a2 fs.length k2]] w fun e w' => ∃ b1 b2 c1 c2 m, e = .returned (.agg #[.slice b1 ss.length c1, .slice b2 fs.length c2]) ∧ w'.ownsRow w.heap.size 9 1 (.slice b1 ss.length c1) ss.length (ss.map Value.string) ∧ w'.ownsRow m 116 2 (.slice b2 fs.length c2) fs.length (fs.flatMap Pr.cells) ∧ w.heap.size ≤ m ∧ (∀ g, (Value.slice b1 ss.length c1).ownBlock = some g → g < m) ∧ Below w.heap.size w w' := by
  have H1 := hid h1
  have H2 := hid h2
  have N1 := hid n1
  have N2 := hid n2
  clear h1 h2
  go_enter Tryz.func10, Tryz.ntmps10
  go_wp2_with fail
  have hb3 : Below w.heap.size w (((w.alloc (.cells #[.slice a1 ss.length k1, .slice a2 fs.length k2] 39)).alloc (.cells #[.slice none 0 0, .slice none 0 0] 26)).alloc (.cells #[.slice none 0 0, .slice none 0 0] 26)) := (((Below.refl _ _).alloc (Nat.le_refl _) _).alloc (by simp) _).alloc (by simp; omega) _
  refine (toStringS_any _ ss _ (H1.out.stay hb3 (Nat.le_refl _)) N1.out).mono ?_
  rintro e w1 ⟨v1, rfl, ho1, hb1⟩
  obtain ⟨b1, c1, rfl⟩ := ownB_form ho1
  obtain ⟨hc1, hf1⟩ := bcell hb1
  have hz1 := hb1.size
  have HB1 := hid (hb3.trans (hb1.mono (by simp; omega)))
  simp at hc1 hf1 hz1 ho1
  have HO1 := hid ho1
  clear hb1 hb3 ho1
  go_wp2_with fail
  have hb4 := HB1.out.setCell (p := ⟨w.heap.size + 1 + 1, 0, none⟩) (by show w.heap.size ≤ w.heap.size + 1 + 1; omega) (.slice b1 ss.length c1)
  have ho4 := ownsRow_setCell_below HO1.out (a := ⟨w.heap.size + 1 + 1, 0, none⟩) (by show w.heap.size + 1 + 1 < w.heap.size + 1 + 1 + 1; omega) (.slice b1 ss.length c1)
  refine (toFlowS_any _ fs _ (H2.out.stay hb4 (Nat.le_refl _)) N2.out).mono ?_
  rintro e w2 ⟨v2, rfl, ho2, hb2⟩
  obtain ⟨b2, c2, rfl⟩ := ownB_form ho2
  have HO1b := hid (ownB_stay ho4 hb2)
  have HL := hid (fun g (hg : (Value.slice b1 ss.length c1).ownBlock = some g) => (ho4.lt g hg).2)
  have HB2 := hid (hb4.trans (hb2.mono (by have := HB1.out.size; simpa using this)))
  have hz2 := hb2.size
  obtain ⟨hc2, hf2⟩ := bcell hb2
  have hzz : (w1.setCell ⟨w.heap.size + 1 + 1, 0, none⟩ (.slice b1 ss.length c1)).heap.size = w1.heap.size := by simp
  rw [hzz] at ho2 hz2 hc2 hf2 HL
  have HO2 := hid ho2
  have p1 : w.heap.size + 1 < w1.heap.size := by omega
  have p2 : w.heap.size + 1 + 1 < w1.heap.size := by omega
  have y0 : w2.cell? ⟨w.heap.size + 1 + 1, 0, none⟩ = some (.slice b1 ss.length c1) := by rw [hc2 _ _ p2]; simp [go_sem, hc1]
  have y1 : w2.cell? ⟨w.heap.size + 1 + 1, 1, none⟩ = some (.slice none 0 0) := by rw [hc2 _ _ p2]; simp [go_sem, hc1]
  have y2 : w2.cell? ⟨w.heap.size + 1, 0, none⟩ = some (.slice none 0 0) := by rw [hc2 _ _ p1]; simp [go_sem, hc1]
  have y3 : w2.cell? ⟨w.heap.size + 1, 1, none⟩ = some (.slice none 0 0) := by rw [hc2 _ _ p1]; simp [go_sem, hc1]
  have f1 : ∀ o, w2.frozen? ⟨w.heap.size + 1 + 1, o, none⟩ = false := fun o => by rw [hf2 _ _ p2]; simp [go_sem, hf1]
  have f2 : ∀ o, w2.frozen? ⟨w.heap.size + 1, o, none⟩ = false := fun o => by rw [hf2 _ _ p1]; simp [go_sem, hf1]
  clear hb2 hb4 ho4 ho2 hzz hc1 hf1 hc2 hf2
  go_wp2
  refine bodyPost_ret (v := .agg #[.slice b1 ss.length c1, .slice b2 fs.length c2]) (by simp [results, Tryz.results10, go_sem, y2, y3]) rfl ⟨b1, b2, c1, c2, w1.heap.size, rfl, ?_, ?_, by omega, HL.out, ?_⟩
  · refine ownB_le ?_ (Nat.le_trans (show w.heap.size ≤ w.heap.size + 1 + 1 + 1 by omega) (Nat.le_refl _))
    exact ownsRow_setCell_below (ownsRow_setCell_below (ownsRow_setCell_below HO1b.out (by show w.heap.size + 1 + 1 < _; omega) _) (by show w.heap.size + 1 < _; omega) _) (by show w.heap.size + 1 < _; omega) _
  · exact ownsRow_setCell_below (ownsRow_setCell_below (ownsRow_setCell_below HO2.out (by show w.heap.size + 1 + 1 < _; omega) _) (by show w.heap.size + 1 < _; omega) _) (by show w.heap.size + 1 < _; omega) _
  · exact ((HB2.out.setCell (by show w.heap.size ≤ w.heap.size + 1 + 1; omega) _).setCell (by show w.heap.size ≤ w.heap.size + 1; omega) _).setCell (by show w.heap.size ≤ w.heap.size + 1; omega) _

set_option maxRecDepth 100000 in
set_option maxHeartbeats 1000000 in
theorem eqDef_same (a1 a2 a3 a4 : Option Addr) (k1 k2 k3 k4 : Nat) (ss : List ByteArray) (fs : List Pr) (w : World) (h1 : StrSl w (.slice a1 ss.length k1) ss) (h2 : PrSl w (.slice a2 fs.length k2) fs) (h3 : StrSl w (.slice a3 ss.length k3) ss) (h4 : PrSl w (.slice a4 fs.length k4) fs) (n1 : ss.length ≤ maxLen) (n2 : fs.length ≤ maxLen) :
    Calls Tryz.prog 13 #[.agg #[.slice a1 ss.length k1, .slice a2 fs.length k2], .agg #[.slice a3 ss.length k3, .slice a4 fs.length k4]] w fun e w' => e = .returned (.bool true) ∧ Below w.heap.size w w' := by
  have H1 := hid h1
  have H2 := hid h2
  have H3 := hid h3
  have H4 := hid h4
  have N1 := hid n1
  have N2 := hid n2
  clear h1 h2 h3 h4 n1 n2
  go_enter Tryz.func13, Tryz.ntmps13
  go_wp2_with fail
  have hb3 := below2 w (.cells #[.slice a1 ss.length k1, .slice a2 fs.length k2] 26) (.cells #[.slice a3 ss.length k3, .slice a4 fs.length k4] 26)
  refine (eqStringS_any _ _ ss _ (H1.out.stay hb3 (Nat.le_refl _)) (H3.out.stay hb3 (Nat.le_refl _)) N1.out).mono ?_
  rintro e w1 ⟨rfl, hb1⟩
  have HB := hid (hb3.trans (hb1.mono (by simp; omega)))
  obtain ⟨hc1, hf1⟩ := bcell hb1
  have hz1 := hb1.size
  simp at hc1 hf1 hz1
  clear hb1 hb3
  go_wp2_with fail
  refine (eqFlowS_any _ _ fs _ (H2.out.stay HB.out (Nat.le_refl _)) (H4.out.stay HB.out (Nat.le_refl _)) N2.out).mono ?_
  rintro e w2 ⟨rfl, hb2⟩
  have hbB := HB.out.trans (hb2.mono HB.out.size)
  clear hb2 hc1 hf1
  go_wp2
  go_ret
  exact ⟨rfl, hbB⟩
end Go.Proofs.YthggcdadipjiiaaGreatDoor

/-
  What laws.toDef makes, in one word. A contract over the seat's program.
-/
namespace Go.Proofs.YthggcdadipjiiaaGreatDoor
open Go.RowKit Go.Sort

structure DefOwn (w : World) (lo : Nat) (u1 u2 : Value) (ss : List ByteArray) (fs : List Pr) : Prop where
  o1 : w.ownsRow lo 9 1 u1 ss.length (ss.map Value.string)
  o2 : w.ownsRow lo 116 2 u2 fs.length (fs.flatMap Pr.cells)
theorem DefOwn.stay {w w' : World} {lo : Nat} {u1 u2 : Value} {ss : List ByteArray} {fs : List Pr} (h : DefOwn w lo u1 u2 ss fs) (hb : Below w.heap.size w w') : DefOwn w' lo u1 u2 ss fs := ⟨ownB_stay h.o1 hb, ownB_stay h.o2 hb⟩
theorem own_slice_lt {w : World} {lo size n k : Nat} {e : TypeId} {a : Option Addr} {xs : List Value} (h : w.ownsRow lo e size (.slice a n k) n xs) : ∀ g o, a = some ⟨g, o, none⟩ → g < w.heap.size := fun g o ha => (h.lt g (by rw [ha]; rfl)).2
theorem DefOwn.sl {w : World} {lo k1 k2 : Nat} {a1 a2 : Option Addr} {ss : List ByteArray} {fs : List Pr} (h : DefOwn w lo (.slice a1 ss.length k1) (.slice a2 fs.length k2) ss fs) : DefSl w a1 a2 k1 k2 ss fs := ⟨str_of_own h.o1, pr_of_own h.o2, own_slice_lt h.o1, own_slice_lt h.o2⟩
theorem toDef_own (a1 a2 : Option Addr) (k1 k2 : Nat) (ss : List ByteArray) (fs : List Pr) (w : World) (h : DefSl w a1 a2 k1 k2 ss fs) (n1 : ss.length ≤ 1048576) (n2 : fs.length ≤ 1048576) :
    Calls Tryz.prog 10 #[.agg #[.slice a1 ss.length k1, .slice a2 fs.length k2]] w fun x w' => ∃ b1 b2 c1 c2, x = .returned (.agg #[.slice b1 ss.length c1, .slice b2 fs.length c2]) ∧ DefOwn w' w.heap.size (.slice b1 ss.length c1) (.slice b2 fs.length c2) ss fs ∧ Below w.heap.size w w' := by
  refine (toDef_any a1 a2 k1 k2 ss fs w h.h1 h.h2 n1 n2).mono ?_
  rintro x w' ⟨b1, b2, c1, c2, m, hx, o1, o2, hm, _, hb⟩
  exact ⟨b1, b2, c1, c2, hx, ⟨o1, ownB_le o2 hm⟩, hb⟩
end Go.Proofs.YthggcdadipjiiaaGreatDoor

/-
  What laws.markStringS and heldStringS do: contracts over the seat's program. (Made by mkmark.py.)
-/
namespace Go.Proofs.YthggcdadipjiiaaGreatDoor
open Go.RowKit Go.Sort

theorem cell_thereM {w : World} {g j : Nat} {L : List Value} {t : TypeId} (h : w.heap[g]? = some (.cells L.toArray t (0, 0))) (hj : j < L.length) : ∃ u, w.cell? ⟨g, j, none⟩ = some u := by
  rw [Lib.cell_of_heap h]
  exact ⟨L[j], by simp [hj]⟩
/-- So many marks, from the k-th on. -/
def mkS (k : Int) (n : Nat) : List ByteArray := (List.range n).map fun i : Nat => markT (k + (i : Int))
theorem mkS_len (k : Int) (n : Nat) : (mkS k n).length = n := by simp [mkS]
theorem mkS_succ (k : Int) (n : Nat) : (mkS k (n + 1)).map Value.string = (mkS k n).map Value.string ++ [.string (markT (k + (n : Int)))] := by simp [mkS, List.range_succ]
theorem set1_takeM {L : List Value} {i : Nat} {a : Value} (h : i < L.length) : (L.set i a).take (i + 1) = L.take i ++ [a] := by
  rw [List.take_set, List.take_succ_eq_append_getElem h, List.set_append_right _ _ (by simp; omega)]
  simp [Nat.min_eq_left (Nat.le_of_lt h)]
set_option maxHeartbeats 1000000 in
set_option maxRecDepth 100000 in
theorem markStringS_row (g n c : Nat) (K : Int) (L : List Value) (w : World) (hG : w.heap[g]? = some (.cells L.toArray 9 (0, 0))) (hL : n ≤ L.length) (hK : 0 < K) (hn : K + (n : Int) ≤ 1000000000) :
    Calls Tryz.prog 41 #[.slice (some ⟨g, 0, none⟩) n c, .int .i64 K] w fun e w' =>
      ∃ L' : List Value, e = .returned (.int .i64 (K + (n : Int))) ∧ w'.heap[g]? = some (.cells L'.toArray 9 (0, 0)) ∧ L'.length = L.length ∧ L'.take n = (mkS K n).map Value.string ∧ w.grownBy w' (some g) := by
  have HG := hid hG
  have HL := hid hL
  clear hG hL
  go_enter Tryz.func41, Tryz.ntmps41
  go_wp2
  go_loopw [1, 5] (fun kv i wr => ∃ (j : Nat) (M : List Value), j ≤ n ∧ i = .int .i64 j ∧ kv = .int .i64 (K + (j : Int)) ∧ M.length = L.length ∧ M.take j = (mkS K j).map Value.string ∧ wr.heap[g]? = some (.cells M.toArray 9 (0, 0)) ∧ w.grownBy wr (some g)) (fun _ i _ => n - (intOf i).toNat)
  case atStart => exact ⟨0, L, Nat.zero_le _, rfl, by simp, rfl, by simp [mkS], HG.out, World.grownBy.refl _ _⟩
  case round =>
    obtain ⟨j, M, hj, rfl, rfl, hM, hT, hGr, hgr⟩ := hrel
    have HM := hid hM
    have HT := hid hT
    have HGr := hid hGr
    have Hgr := hid hgr
    clear hM hT hGr hgr
    by_cases hlt : j < n
    · have hjl : j < M.length := by have := HM.out; have := HL.out; omega
      have c4 := hid (fun w => markText_any (K + (j : Int)) w (by omega) (by omega))
      have HMS := hid (mkS_succ K j)
      have HS := hid (fun a => set1_takeM (a := a) hjl)
      generalize markT (K + (j : Int)) = S4 at *
      go_wp2_with fail
      refine (c4.out _).mono ?_
      rintro e w2 ⟨rfl, hb2⟩
      have hB : w2.heap[g]? = _ := (hb2.block g (lt_heap HGr.out)).trans HGr.out
      have hgB := hid (grown_trans Hgr.out (grown_below hb2))
      obtain ⟨u4, z4⟩ := cell_thereM hB hjl
      have hfz2 : ∀ t, w2.frozen? ⟨g, t, none⟩ = false := fun t => Lib.frozen_of_heap hB t
      have HB := hid hB
      clear hB hb2 c4 Hgr HGr
      go_wp2
      go_roundw
      case rel => exact ⟨j + 1, _, by omega, by go_num, by go_num, by rw [List.length_set]; exact HM.out, by rw [HS.out, HT.out, HMS.out], blk_set (i := j) HB.out (.string S4), grown_trans hgB.out (grown_set _ g j (.string S4))⟩
      case measure => simp [intOf]; omega
    · have hje : j = n := by omega
      have HJ := hid hje
      clear hje
      go_wp2
      go_ret
      refine ⟨M, by rw [HJ.out]; rfl, HGr.out, HM.out, ?_, Hgr.out⟩
      have := HT.out
      rwa [HJ.out] at this
theorem markStringS_none (a : Option Addr) (c : Nat) (K : Int) (w : World) :
    Calls Tryz.prog 41 #[.slice a 0 c, .int .i64 K] w fun e w' => e = .returned (.int .i64 K) ∧ w' = w := by
  go_enter Tryz.func41, Tryz.ntmps41
  go_wp2
  go_loopw [1, 5] (fun kv i wr => kv = .int .i64 K ∧ i = .int .i64 0 ∧ wr = w) (fun _ _ _ => 0)
  case atStart => exact ⟨rfl, rfl, rfl⟩
  case round =>
    obtain ⟨rfl, rfl, rfl⟩ := hrel
    go_wp2
    go_ret
    exact ⟨rfl, rfl⟩
theorem markStringS_own (v : Value) (n base : Nat) (K : Int) (xs : List Value) (w : World) (h : w.ownsRow base 9 1 v n xs) (hK : 0 < K) (hn : K + (n : Int) ≤ 1000000000) :
    Calls Tryz.prog 41 #[v, .int .i64 K] w fun e w' => e = .returned (.int .i64 (K + (n : Int))) ∧ w'.ownsRow base 9 1 v n ((mkS K n).map Value.string) ∧ w.grownBy w' v.ownBlock := by
  rcases h.2 with ⟨rfl, rfl⟩ | ⟨g, cap, cur, rfl, hb, hg, hc, hm, hs, ht⟩
  · refine (markStringS_none none 0 K w).mono ?_
    rintro e w' ⟨rfl, rfl⟩
    exact ⟨by simp, World.ownsRow_nil _ _ _ _, World.grownBy.refl _ _⟩
  · have hg' : w.heap[g]? = some (.cells cur.toList.toArray 9 (0, 0)) := by simpa using hg
    refine (markStringS_row g n cap K cur.toList w hg' (by rw [Array.length_toList, hs]; omega) hK hn).mono ?_
    rintro e w' ⟨L', rfl, h1, h2, h3, h4⟩
    refine ⟨rfl, ⟨by rw [List.length_map, mkS_len]; omega, .inr ⟨g, cap, L'.toArray, rfl, hb, h1, hc, hm, ?_, by simpa using h3⟩⟩, h4⟩
    rw [List.size_toArray, h2, Array.length_toList, hs]
end Go.Proofs.YthggcdadipjiiaaGreatDoor

/-
  Marks in rows of pairs; what laws.markFlowS does: contracts over the seat's program.
-/
namespace Go.Proofs.YthggcdadipjiiaaGreatDoor
open Go.RowKit Go.Sort

def mkP (k : Int) (n : Nat) : List Pr := (List.range n).map fun i : Nat => ⟨markT (k + 2 * (i : Int)), markT (k + 2 * (i : Int) + 1)⟩
theorem mkP_len (k : Int) (n : Nat) : (mkP k n).length = n := by simp [mkP]
theorem mkP_succ (k : Int) (n : Nat) : (mkP k (n + 1)).flatMap Pr.cells = (mkP k n).flatMap Pr.cells ++ [.string (markT (k + 2 * (n : Int))), .string (markT (k + 2 * (n : Int) + 1))] := by simp [mkP, List.range_succ, Pr.cells]
theorem set2_takeM {L : List Value} {i : Nat} {a b : Value} (h : i + 2 ≤ L.length) : ((L.set i a).set (i + 1) b).take (i + 2) = L.take i ++ [a, b] := by
  rw [show i + 2 = i + 1 + 1 by omega, set1_takeM (by simp; omega), set1_takeM (by omega)]; simp
set_option maxHeartbeats 1000000 in
set_option maxRecDepth 100000 in
theorem markFlowS_row (g n c : Nat) (K : Int) (L : List Value) (w : World) (hG : w.heap[g]? = some (.cells L.toArray 116 (0, 0))) (hL : n * 2 ≤ L.length) (hK : 0 < K) (hn : K + 2 * (n : Int) ≤ 1000000000) :
    Calls Tryz.prog 42 #[.slice (some ⟨g, 0, none⟩) n c, .int .i64 K] w fun e w' =>
      ∃ L' : List Value, e = .returned (.int .i64 (K + 2 * (n : Int))) ∧ w'.heap[g]? = some (.cells L'.toArray 116 (0, 0)) ∧ L'.length = L.length ∧ L'.take (n * 2) = (mkP K n).flatMap Pr.cells ∧ w.grownBy w' (some g) := by
  have HG := hid hG
  have HL := hid hL
  clear hG hL
  go_enter Tryz.func42, Tryz.ntmps42
  go_wp2
  go_loopw [1, 5] (fun kv i wr => ∃ (j : Nat) (M : List Value), j ≤ n ∧ i = .int .i64 j ∧ kv = .int .i64 (K + 2 * (j : Int)) ∧ M.length = L.length ∧ M.take (j * 2) = (mkP K j).flatMap Pr.cells ∧ wr.heap[g]? = some (.cells M.toArray 116 (0, 0)) ∧ w.grownBy wr (some g)) (fun _ i _ => n - (intOf i).toNat)
  case atStart => exact ⟨0, L, Nat.zero_le _, rfl, by simp, rfl, by simp [mkP], HG.out, World.grownBy.refl _ _⟩
  case round =>
    obtain ⟨j, M, hj, rfl, rfl, hM, hT, hGr, hgr⟩ := hrel
    have HM := hid hM
    have HT := hid hT
    have HGr := hid hGr
    have Hgr := hid hgr
    clear hM hT hGr hgr
    by_cases hlt : j < n
    · have hjl : j * 2 + 2 ≤ M.length := by have := HM.out; have := HL.out; omega
      have c4 := hid (fun w => markText_any (K + 2 * (j : Int)) w (by omega) (by omega))
      have c5 := hid (fun w => markText_any (K + 2 * (j : Int) + 1) w (by omega) (by omega))
      have HMS := hid (mkP_succ K j)
      have HS := hid (fun a b => set2_takeM (a := a) (b := b) hjl)
      generalize markT (K + 2 * (j : Int)) = S4 at *
      generalize markT (K + 2 * (j : Int) + 1) = S5 at *
      go_wp2_with fail
      refine (c4.out _).mono ?_
      rintro e w2 ⟨rfl, hb2⟩
      have hB : w2.heap[g]? = _ := (hb2.block g (lt_heap HGr.out)).trans HGr.out
      have hgB := hid (grown_trans Hgr.out (grown_below hb2))
      obtain ⟨u4, z4⟩ := cell_thereM hB (j := j * 2) (by omega)
      have hfz2 : ∀ t, w2.frozen? ⟨g, t, none⟩ = false := fun t => Lib.frozen_of_heap hB t
      have HB := hid hB
      clear hB hb2 c4 Hgr HGr
      go_wp2_with fail
      have hC := blk_set (i := j * 2) HB.out (.string S4)
      have hgC := grown_trans hgB.out (grown_set _ g (j * 2) (.string S4))
      refine (c5.out _).mono ?_
      rintro e w3 ⟨rfl, hb3⟩
      have hD : w3.heap[g]? = _ := (hb3.block g (lt_heap hC)).trans hC
      have hgD := hid (grown_trans hgC (grown_below hb3))
      obtain ⟨u5, z5⟩ := cell_thereM hD (j := j * 2 + 1) (by simp; omega)
      have hfz3 : ∀ t, w3.frozen? ⟨g, t, none⟩ = false := fun t => Lib.frozen_of_heap hD t
      have HD := hid hD
      clear hC hgC hD hb3 z4 hfz2 c5 hgB HB
      go_wp2
      go_roundw
      case rel =>
        refine ⟨j + 1, _, by omega, by go_num, by go_num, ?_, ?_, blk_set (i := j * 2 + 1) HD.out (.string S5), grown_trans hgD.out (grown_set _ g (j * 2 + 1) (.string S5))⟩
        · rw [List.length_set, List.length_set]; exact HM.out
        · rw [show (j + 1) * 2 = j * 2 + 2 by omega, HS.out, HT.out, HMS.out]
      case measure => simp [intOf]; omega
    · have hje : j = n := by omega
      have HJ := hid hje
      clear hje
      go_wp2
      go_ret
      refine ⟨M, by rw [HJ.out]; rfl, HGr.out, HM.out, ?_, Hgr.out⟩
      have := HT.out
      rwa [HJ.out] at this
theorem markFlowS_none (a : Option Addr) (c : Nat) (K : Int) (w : World) :
    Calls Tryz.prog 42 #[.slice a 0 c, .int .i64 K] w fun e w' => e = .returned (.int .i64 K) ∧ w' = w := by
  go_enter Tryz.func42, Tryz.ntmps42
  go_wp2
  go_loopw [1, 5] (fun kv i wr => kv = .int .i64 K ∧ i = .int .i64 0 ∧ wr = w) (fun _ _ _ => 0)
  case atStart => exact ⟨rfl, rfl, rfl⟩
  case round =>
    obtain ⟨rfl, rfl, rfl⟩ := hrel
    go_wp2
    go_ret
    exact ⟨rfl, rfl⟩
theorem markFlowS_own (v : Value) (n base : Nat) (K : Int) (xs : List Value) (w : World) (h : w.ownsRow base 116 2 v n xs) (hK : 0 < K) (hn : K + 2 * (n : Int) ≤ 1000000000) :
    Calls Tryz.prog 42 #[v, .int .i64 K] w fun e w' => e = .returned (.int .i64 (K + 2 * (n : Int))) ∧ w'.ownsRow base 116 2 v n ((mkP K n).flatMap Pr.cells) ∧ w.grownBy w' v.ownBlock := by
  rcases h.2 with ⟨rfl, rfl⟩ | ⟨g, cap, cur, rfl, hb, hg, hc, hm, hs, ht⟩
  · refine (markFlowS_none none 0 K w).mono ?_
    rintro e w' ⟨rfl, rfl⟩
    exact ⟨by simp, World.ownsRow_nil _ _ _ _, World.grownBy.refl _ _⟩
  · have hg' : w.heap[g]? = some (.cells cur.toList.toArray 116 (0, 0)) := by simpa using hg
    refine (markFlowS_row g n cap K cur.toList w hg' (by rw [Array.length_toList, hs]; omega) hK hn).mono ?_
    rintro e w' ⟨L', rfl, h1, h2, h3, h4⟩
    refine ⟨rfl, ⟨by rw [pflat_len, mkP_len], .inr ⟨g, cap, L'.toArray, rfl, hb, h1, hc, hm, ?_, by simpa using h3⟩⟩, h4⟩
    rw [List.size_toArray, h2, Array.length_toList, hs]
end Go.Proofs.YthggcdadipjiiaaGreatDoor

/-
  What laws.markDef does: a contract over the seat's program.
-/
namespace Go.Proofs.YthggcdadipjiiaaGreatDoor
open Go.RowKit Go.Sort

theorem Chg.of_row {p : Nat → Prop} {w w' : World} {r : Option Nat} (h : w.grownBy w' r) (hp : ∀ j, r = some j → p j) : Chg p w w' := ⟨h.os, h.tape, h.output, h.size, fun k hk hq => h.block k hk (fun e => hq (hp k e.symm))⟩
set_option maxRecDepth 100000 in
set_option maxHeartbeats 2000000 in
theorem markDef_own (lo n1 n2 : Nat) (K : Int) (u1 u2 : Value) (xs ys : List Value) (w : World) (o1 : w.ownsRow lo 9 1 u1 n1 xs) (o2 : w.ownsRow lo 116 2 u2 n2 ys) (hK : 0 < K) (hn : K + (n1 : Int) + 2 * (n2 : Int) ≤ 1000000000) :
    Calls Tryz.prog 15 #[.agg #[u1, u2], .int .i64 K] w fun e w' => e = .returned (.int .i64 (K + (n1 : Int) + 2 * (n2 : Int))) ∧ Chg (fun j => u1.ownBlock = some j ∨ u2.ownBlock = some j) w w' := by
  obtain ⟨a1, k1, rfl⟩ := ownB_form o1
  obtain ⟨a2, k2, rfl⟩ := ownB_form o2
  have hb : Below w.heap.size w (w.alloc (.cells #[.slice a1 n1 k1, .slice a2 n2 k2] 26)) := (Below.refl _ _).alloc (Nat.le_refl _) _
  have H1 := hid o1
  have O2 := hid (ownB_stay o2 hb)
  have hne : ¬ (Value.slice a1 n1 k1).ownBlock = some w.heap.size := fun e => by have := (o1.lt _ e).2; omega
  have HA := hid (apart_ty o1 o2 (by decide))
  have cM := hid (markStringS_own _ n1 lo K xs _ (ownB_stay o1 hb) hK (by omega))
  have d1 : (w.alloc (.cells #[.slice a1 n1 k1, .slice a2 n2 k2] 26)).cell? ⟨w.heap.size, 1, none⟩ = some (.slice a2 n2 k2) := by simp [go_sem]
  have D1 := hid d1
  have HB := hid hb
  clear o1 o2 hb d1
  go_enter Tryz.func15, Tryz.ntmps15
  go_wp2_with fail
  refine cM.out.mono ?_
  generalize w.alloc (.cells #[.slice a1 n1 k1, .slice a2 n2 k2] 26) = W at *
  rintro e W1 ⟨rfl, _, hg1⟩
  have hC1 : Chg (fun j => (Value.slice a1 n1 k1).ownBlock = some j) W W1 := Chg.of_row hg1 (fun j h => h)
  have d1 := (hC1.cell (g := w.heap.size) (o := 1) (block_lt_of_cell D1.out) hne).trans D1.out
  have cN := hid (markFlowS_own _ n2 lo (K + (n1 : Int)) ys W1 (own_chg O2.out hC1 (fun g hg he => HA.out g he hg)) (by omega) (by omega))
  have HC1 := hid hC1
  clear hC1 hg1 cM
  go_wp2_with fail
  refine cN.out.mono ?_
  rintro e W2 ⟨rfl, _, hg2⟩
  have HC2 := hid (Chg.of_row (p := fun j => (Value.slice a2 n2 k2).ownBlock = some j) hg2 (fun j h => h))
  clear hg2 cN d1
  go_wp2
  go_ret
  exact ⟨rfl, ((Chg.of_below HB.out).trans (HC1.out.mono (fun j h => .inl h))).trans (HC2.out.mono (fun j h => .inr h))⟩
end Go.Proofs.YthggcdadipjiiaaGreatDoor
