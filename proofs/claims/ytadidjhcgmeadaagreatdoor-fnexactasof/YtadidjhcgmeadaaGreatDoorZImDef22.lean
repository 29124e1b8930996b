/-
  Texts put together: ImDef2, ImSO.
-/
import Derived.Test.YtadidjhcgmeadaaGreatDoorZPrIdx2
import Derived.Test.YtadidjhcgmeadaaGreatDoorZEvI4
import Derived.Test.YtadidjhcgmeadaaGreatDoorZImTold2
/-
  What impl.stepsRight, impl.flowsRight and impl.DefRight answer, for every Def: contracts over the seat's program.
-/
namespace Go.Proofs.YtadidjhcgmeadaaGreatDoor
open Go.RowKit Go.Sort

set_option maxRecDepth 100000 in
set_option maxHeartbeats 1000000 in
theorem stepsRight_any (a : Option Addr) (c : Nat) (ss : List ByteArray) (w : World) (h : StrSl w (.slice a ss.length c) ss) (hF : ∀ i, (h : i < ss.length) → ss[i].size ≤ maxLen) (hn : ss.length ≤ maxLen) :
    Calls Tryz.prog 80 #[.slice a ss.length c] w fun e w' => RetB e (StepsP ss) ∧ w' = w := by
  have c1 := twoS_any _ ss w h hn
  unfold maxLen at hn
  by_cases h1 : ss.length < 1
  · go_enter Tryz.func80, Tryz.ntmps80
    go_wp2
    go_ret
    exact ⟨retB_f (fun D => by have := D.n1; omega), rfl⟩
  · by_cases h2 : 12 < ss.length
    · go_enter Tryz.func80, Tryz.ntmps80
      go_wp2
      go_ret
      exact ⟨retB_f (fun D => by have := D.n2; omega), rfl⟩
    · obtain ⟨g, o, rfl, hE⟩ := h.row (by omega)
      by_cases hd : ss.Nodup
      · replace c1 := calls_no c1 (fun k => k hd)
        have HD := hid hd
        have HE := hid hE
        clear hd hE
        go_enter Tryz.func80, Tryz.ntmps80
        go_wp2_with fail
        refine c1.mono ?_
        rintro e w1 ⟨rfl, rfl⟩
        go_wp2
        go_loop [19] (fun i => ∃ k : Nat, k ≤ ss.length ∧ i = .int .i64 k ∧ ∀ j, j < k → (h : j < ss.length) → nrB ss[j] = true) (fun i => ss.length - (intOf i).toNat)
        case atStart => exact ⟨0, Nat.zero_le _, rfl, fun j hj => absurd hj (by omega)⟩
        case round =>
          obtain ⟨k, hk, rfl, hall⟩ := hrel
          have HA := hid hall
          clear hall
          by_cases hlt : k < ss.length
          · have c0 := HE.out.2 k hlt
            have cN := implNameRight_any ss[k] w1 (hF k hlt)
            cases hr : nrB ss[k] with
            | false =>
              rw [hr] at cN
              have HR := hid (show ¬ StepsP ss from fun D => by have := D.nm k hlt; rw [hr] at this; cases this)
              clear hr
              go_wp2_with fail
              refine cN.mono ?_
              rintro e w1 ⟨rfl, rfl⟩
              go_wp2
              go_ret
              exact ⟨retB_f HR.out, rfl⟩
            | true =>
              rw [hr] at cN
              have HR := hid hr
              clear hr
              go_wp2_with fail
              refine cN.mono ?_
              rintro e w1 ⟨rfl, rfl⟩
              go_wp2
              go_round
              case rel => exact ⟨k + 1, by omega, by go_num, fun j hj h => by
                by_cases e : j = k
                · subst e; exact HR.out
                · exact HA.out j (by omega) h⟩
              case measure => simp [intOf]; omega
          · have HF := hid (show StepsP ss from ⟨by omega, by omega, fun i h => HA.out i (by omega) h, HD.out⟩)
            go_wp2
            go_ret
            exact ⟨retB_t HF.out, rfl⟩
      · replace c1 := calls_yes c1 hd
        have HD := hid hd
        clear hd
        go_enter Tryz.func80, Tryz.ntmps80
        go_wp2_with fail
        refine c1.mono ?_
        rintro e w1 ⟨rfl, rfl⟩
        go_wp2
        go_ret
        exact ⟨retB_f (fun D => HD.out D.nd), rfl⟩

set_option maxRecDepth 100000 in
set_option maxHeartbeats 1000000 in
theorem flowsRight_any (a1 a2 : Option Addr) (k1 k2 : Nat) (ss : List ByteArray) (fs : List Pr) (w : World) (h1 : StrSl w (.slice a1 ss.length k1) ss) (h2 : PrSl w (.slice a2 fs.length k2) fs) (n1 : ss.length ≤ maxLen) (n2 : fs.length ≤ maxLen) :
    Calls Tryz.prog 81 #[.slice a1 ss.length k1, .slice a2 fs.length k2] w fun e w' => RetB e (FlowsP ss fs) ∧ Below w.heap.size w w' := by
  have c1 := twoP_any _ fs w h2 n2
  have H1 := hid h1
  have H2 := hid h2
  have N1 := hid n1
  unfold maxLen at n1 n2
  clear h1 h2
  by_cases p1 : 40 < fs.length
  · go_enter Tryz.func81, Tryz.ntmps81
    go_wp2
    go_ret
    exact ⟨retB_f (fun D => by have := D.m; omega), Below.refl _ _⟩
  · by_cases hd : fs.Nodup
    · replace c1 := calls_no c1 (fun k => k hd)
      have HD := hid hd
      clear hd
      go_enter Tryz.func81, Tryz.ntmps81
      go_wp2_with fail
      refine c1.mono ?_
      rintro e w1 ⟨rfl, hb1⟩
      go_wp2
      go_loopw [16] (fun i wr => ∃ k : Nat, k ≤ fs.length ∧ i = .int .i64 k ∧ (∀ j, j < k → (h : j < fs.length) → fs[j].fst ∈ ss ∧ fs[j].snd ∈ ss) ∧ Below w.heap.size w wr) (fun i _ => fs.length - (intOf i).toNat)
      case atStart => exact ⟨0, Nat.zero_le _, rfl, fun j hj => absurd hj (by omega), hb1⟩
      case round =>
        clear hb1 c1
        obtain ⟨k, hk, rfl, hall, hbel⟩ := hrel
        have HA := hid hall
        clear hall
        by_cases hlt : k < fs.length
        · obtain ⟨g2, o2, rfl, hQ⟩ := H2.out.row (by omega)
          obtain ⟨c0, c1⟩ := (hQ.stay hbel (Nat.le_refl _)).2 k hlt
          have HK := hid (fun (D : FlowsP ss fs) => D.fl k hlt)
          have hbW : Below w.heap.size w (wr.alloc (.cells #[.string fs[k].fst, .string fs[k].snd] 114)) := hbel.alloc hbel.size _
          have cA := fun t => hasS_any _ ss t _ (H1.out.stay hbW (Nat.le_refl _)) N1.out
          by_cases hf : fs[k].fst ∈ ss
          · by_cases ht : fs[k].snd ∈ ss
            · have c2 := cA fs[k].fst
              have c3 := cA fs[k].snd
              rw [inB_yes hf] at c2
              rw [inB_yes ht] at c3
              have HF := hid hf
              have HT := hid ht
              clear hf ht cA hQ
              go_wp2_with fail
              refine c2.mono ?_
              rintro e w2 ⟨rfl, rfl⟩
              go_wp2_with fail
              refine c3.mono ?_
              rintro e w2 ⟨rfl, rfl⟩
              go_wp2
              go_roundw
              case rel => exact ⟨k + 1, by omega, by go_num, fun j hj h => by
                by_cases e : j = k
                · subst e; exact ⟨HF.out, HT.out⟩
                · exact HA.out j (by omega) h, hbW⟩
              case measure => simp [intOf]; omega
            · have c2 := cA fs[k].fst
              have c3 := cA fs[k].snd
              rw [inB_yes hf] at c2
              rw [inB_no ht] at c3
              have HT := hid ht
              clear hf ht cA hQ
              go_wp2_with fail
              refine c2.mono ?_
              rintro e w2 ⟨rfl, rfl⟩
              go_wp2_with fail
              refine c3.mono ?_
              rintro e w2 ⟨rfl, rfl⟩
              go_wp2
              go_ret
              exact ⟨retB_f (fun D => HT.out (HK.out D).2), hbW⟩
          · have c2 := cA fs[k].fst
            rw [inB_no hf] at c2
            have HF := hid hf
            clear hf cA hQ
            go_wp2_with fail
            refine c2.mono ?_
            rintro e w2 ⟨rfl, rfl⟩
            go_wp2
            go_ret
            exact ⟨retB_f (fun D => HF.out (HK.out D).1), hbW⟩
        · have HF := hid (show FlowsP ss fs from ⟨by omega, fun i h => HA.out i (by omega) h, HD.out⟩)
          go_wp2
          go_ret
          exact ⟨retB_t HF.out, hbel⟩
    · replace c1 := calls_yes c1 hd
      have HD := hid hd
      clear hd
      go_enter Tryz.func81, Tryz.ntmps81
      go_wp2_with fail
      refine c1.mono ?_
      rintro e w1 ⟨rfl, hb1⟩
      go_wp2
      go_ret
      exact ⟨retB_f (fun D => HD.out D.fd), hb1⟩

set_option maxRecDepth 100000 in
set_option maxHeartbeats 1000000 in
theorem implDefRight_any (a1 a2 : Option Addr) (k1 k2 : Nat) (ss : List ByteArray) (fs : List Pr) (w : World) (h1 : StrSl w (.slice a1 ss.length k1) ss) (h2 : PrSl w (.slice a2 fs.length k2) fs) (hF : ∀ i, (h : i < ss.length) → ss[i].size ≤ maxLen) (n1 : ss.length ≤ maxLen) (n2 : fs.length ≤ maxLen) :
    Calls Tryz.prog 44 #[.agg #[.slice a1 ss.length k1, .slice a2 fs.length k2]] w fun e w' => RetB e (DefP ss fs) ∧ Below w.heap.size w w' := by
  have hbW : Below w.heap.size w (w.alloc (.cells #[.slice a1 ss.length k1, .slice a2 fs.length k2] 32)) := (Below.refl _ _).alloc (Nat.le_refl _) _
  have c1 := stepsRight_any a1 k1 ss _ (h1.stay hbW (Nat.le_refl _)) hF n1
  have c2 := flowsRight_any a1 a2 k1 k2 ss fs _ (h1.stay hbW (Nat.le_refl _)) (h2.stay hbW (Nat.le_refl _)) n1 n2
  clear h1 h2 hF n1 n2
  by_cases hs : StepsP ss
  · replace c1 := calls_yes c1 hs
    have HS := hid hs
    clear hs
    by_cases hf : FlowsP ss fs
    · replace c2 := calls_yes c2 hf
      have HP := hid hf
      clear hf
      go_enter Tryz.func44, Tryz.ntmps44
      go_wp2_with fail
      refine c1.mono ?_
      rintro e w1 ⟨rfl, rfl⟩
      go_wp2_with fail
      refine c2.mono ?_
      rintro e w1 ⟨rfl, hb⟩
      go_wp2
      go_ret
      exact ⟨retB_t ⟨HS.out, HP.out⟩, hbW.trans (hb.mono (by simp))⟩
    · replace c2 := calls_no c2 hf
      have HP := hid hf
      clear hf
      go_enter Tryz.func44, Tryz.ntmps44
      go_wp2_with fail
      refine c1.mono ?_
      rintro e w1 ⟨rfl, rfl⟩
      go_wp2_with fail
      refine c2.mono ?_
      rintro e w1 ⟨rfl, hb⟩
      go_wp2
      go_ret
      exact ⟨retB_f (fun D => HP.out D.2), hbW.trans (hb.mono (by simp))⟩
  · replace c1 := calls_no c1 hs
    have HS := hid hs
    clear hs
    go_enter Tryz.func44, Tryz.ntmps44
    go_wp2_with fail
    refine c1.mono ?_
    rintro e w1 ⟨rfl, rfl⟩
    go_wp2
    go_ret
    exact ⟨retB_f (fun D => HS.out D.1), hbW⟩
end Go.Proofs.YtadidjhcgmeadaaGreatDoor

/-
  What impl.StateOf answers: a contract over the seat's program. (Made by mkso.py.)
-/
namespace Go.Proofs.YtadidjhcgmeadaaGreatDoor
open Go.RowKit Go.Maps Go.WideMaps Go.Sort

set_option maxRecDepth 100000 in
set_option maxHeartbeats 4000000 in
theorem implStateOf_any (a1 a2 a6 : Option Addr) (k1 k2 k6 : Nat) (ss : List ByteArray) (fs : List Pr) (es : List Ev) (w : World) (hD : DefSl w a1 a2 k1 k2 ss fs) (hE : EvSl w (.slice a6 es.length k6) es) (F1 : ∀ i, (h : i < ss.length) → ss[i].size ≤ maxLen) (F2 : FitP fs) (FE : ∀ i, (h : i < es.length) → es[i].step.size ≤ maxLen) (n1 : ss.length ≤ maxLen) (n2 : fs.length ≤ maxLen) (e0 e1 e2 e3 e4 : Addr) (hEr : ErrsAt w e0 e1 e2 e3 e4) :
    Calls Tryz.prog 47 #[defV a1 a2 k1 k2 ss fs, .slice a6 es.length k6] w fun x w' => StepPost w.heap.size w (soS ss fs es).1 (soS ss fs es).2 x w' := by
  have hbW : Below w.heap.size w ((w.alloc (.cells #[.slice a1 ss.length k1, .slice a2 fs.length k2] 32)).alloc (.cells #[.int .i64 0, .int .i64 0, .int .i64 0, .slice none 0 0, .slice none 0 0, .slice none 0 0, .int .i64 0, .int .i64 0] 43)) := ((Below.refl _ _).alloc (Nat.le_refl _) _).alloc (by simp) _
  have hWs : ((w.alloc (.cells #[.slice a1 ss.length k1, .slice a2 fs.length k2] 32)).alloc (.cells #[.int .i64 0, .int .i64 0, .int .i64 0, .slice none 0 0, .slice none 0 0, .slice none 0 0, .int .i64 0, .int .i64 0] 43)).heap.size = w.heap.size + 1 + 1 := by simp
  have HRW := hid (show ((w.alloc (.cells #[.slice a1 ss.length k1, .slice a2 fs.length k2] 32)).alloc (.cells #[.int .i64 0, .int .i64 0, .int .i64 0, .slice none 0 0, .slice none 0 0, .slice none 0 0, .int .i64 0, .int .i64 0] 43)).heap[w.heap.size + 1]? = some (.cells #[.int .i64 0, .int .i64 0, .int .i64 0, .slice none 0 0, .slice none 0 0, .slice none 0 0, .int .i64 0, .int .i64 0] 43 (0, 0)) from by
    have h := heap_alloc_new (w.alloc (.cells #[.slice a1 ss.length k1, .slice a2 fs.length k2] 32)) (.cells #[.int .i64 0, .int .i64 0, .int .i64 0, .slice none 0 0, .slice none 0 0, .slice none 0 0, .int .i64 0, .int .i64 0] 43 (0, 0))
    rw [show (w.alloc (.cells #[.slice a1 ss.length k1, .slice a2 fs.length k2] 32)).heap.size = w.heap.size + 1 by simp] at h
    exact h)
  have HDW := hid (hD.stay hbW)
  have HEW := hid (hE.stay hbW (Nat.le_refl _))
  have HER := hid (hEr.stay hbW)
  clear hEr
  have cR := hid (implDefRight_any a1 a2 k1 k2 ss fs _ HDW.out.h1 HDW.out.h2 F1 n1 n2)
  have HBW := hid hbW
  have HF1 := hid F1
  have HF2 := hid F2
  clear F2
  have HFE := hid FE
  clear hD hE hbW F1 FE n1 n2
  have D0 := hid (show ((w.alloc (.cells #[.slice a1 ss.length k1, .slice a2 fs.length k2] 32)).alloc (.cells #[.int .i64 0, .int .i64 0, .int .i64 0, .slice none 0 0, .slice none 0 0, .slice none 0 0, .int .i64 0, .int .i64 0] 43)).cell? ⟨w.heap.size, 0, none⟩ = some (.slice a1 ss.length k1) by simp [go_sem])
  have D1 := hid (show ((w.alloc (.cells #[.slice a1 ss.length k1, .slice a2 fs.length k2] 32)).alloc (.cells #[.int .i64 0, .int .i64 0, .int .i64 0, .slice none 0 0, .slice none 0 0, .slice none 0 0, .int .i64 0, .int .i64 0] 43)).cell? ⟨w.heap.size, 1, none⟩ = some (.slice a2 fs.length k2) by simp [go_sem])
  by_cases h4 : 400 < es.length
  · have HFIN := hid (soS_big ss fs h4)
    clear cR HDW HEW D0 D1
    go_enter Tryz.func47, Tryz.ntmps47
    go_upto_region 1 with fail
    generalize ((w.alloc (.cells #[.slice a1 ss.length k1, .slice a2 fs.length k2] 32)).alloc (.cells #[.int .i64 0, .int .i64 0, .int .i64 0, .slice none 0 0, .slice none 0 0, .slice none 0 0, .int .i64 0, .int .i64 0] 43)) = W at *
    have r0 : W.cell? ⟨w.heap.size + 1, 0, none⟩ = some (.int .i64 0) := by rw [Lib.cell_of_heap HRW.out]; rfl
    have r1 : W.cell? ⟨w.heap.size + 1, 1, none⟩ = some (.int .i64 0) := by rw [Lib.cell_of_heap HRW.out]; rfl
    have r2 : W.cell? ⟨w.heap.size + 1, 2, none⟩ = some (.int .i64 0) := by rw [Lib.cell_of_heap HRW.out]; rfl
    have r3 : W.cell? ⟨w.heap.size + 1, 3, none⟩ = some (.slice none 0 0) := by rw [Lib.cell_of_heap HRW.out]; rfl
    have r4 : W.cell? ⟨w.heap.size + 1, 4, none⟩ = some (.slice none 0 0) := by rw [Lib.cell_of_heap HRW.out]; rfl
    have r5 : W.cell? ⟨w.heap.size + 1, 5, none⟩ = some (.slice none 0 0) := by rw [Lib.cell_of_heap HRW.out]; rfl
    have r6 : W.cell? ⟨w.heap.size + 1, 6, none⟩ = some (.int .i64 0) := by rw [Lib.cell_of_heap HRW.out]; rfl
    have r7 : W.cell? ⟨w.heap.size + 1, 7, none⟩ = some (.int .i64 0) := by rw [Lib.cell_of_heap HRW.out]; rfl
    have rf := Lib.frozen_of_heap HRW.out
    go_wp2_with fail
    have hCR : Chg (fun j => j = w.heap.size + 1) W ((((((((W.setCell ⟨w.heap.size + 1, 0, none⟩ (.int .i64 0)).setCell ⟨w.heap.size + 1, 1, none⟩ (.int .i64 0)).setCell ⟨w.heap.size + 1, 2, none⟩ (.int .i64 0)).setCell ⟨w.heap.size + 1, 3, none⟩ (.slice none 0 0)).setCell ⟨w.heap.size + 1, 4, none⟩ (.slice none 0 0)).setCell ⟨w.heap.size + 1, 5, none⟩ (.slice none 0 0)).setCell ⟨w.heap.size + 1, 6, none⟩ (.int .i64 0)).setCell ⟨w.heap.size + 1, 7, none⟩ (.int .i64 2)) := (((((((chg_set _ _ _ _).trans (chg_set _ _ _ _)).trans (chg_set _ _ _ _)).trans (chg_set _ _ _ _)).trans (chg_set _ _ _ _)).trans (chg_set _ _ _ _)).trans (chg_set _ _ _ _)).trans (chg_set _ _ _ _)
    refine bodyPost_ret (v := outV 2 z0 (.slice none 0 0) (.slice none 0 0) (.slice none 0 0)) (by simp [results, Tryz.results47, go_sem, outV, z0, r0, r1, r2, r3, r4, r5, r6, r7]) rfl ?_
    show StepPost _ _ (soS ss fs es).1 (soS ss fs es).2 _ _
    rw [HFIN.out]
    exact ⟨_, _, _, rfl, StOwn.none _ _, HBW.out.trans (hCR.below (by omega) (fun j (h : j = _) => by omega))⟩
  · go_enter Tryz.func47, Tryz.ntmps47
    go_wp2_with fail
    refine cR.out.mono ?_
    generalize ((w.alloc (.cells #[.slice a1 ss.length k1, .slice a2 fs.length k2] 32)).alloc (.cells #[.int .i64 0, .int .i64 0, .int .i64 0, .slice none 0 0, .slice none 0 0, .slice none 0 0, .int .i64 0, .int .i64 0] 43)) = W at *
    rintro x W1 ⟨⟨B1, rfl, T⟩, hb1⟩
    have HB1 := hid (HBW.out.trans (hb1.mono HBW.out.size))
    have hz1 := hb1.size
    have d0 := (hb1.cell (p := ⟨w.heap.size, 0, none⟩) (by show w.heap.size < _; omega)).trans D0.out
    have d1 := (hb1.cell (p := ⟨w.heap.size, 1, none⟩) (by show w.heap.size < _; omega)).trans D1.out
    have HR1 := hid ((hb1.block (w.heap.size + 1) (by omega)).trans HRW.out)
    have r0 : W1.cell? ⟨w.heap.size + 1, 0, none⟩ = some (.int .i64 0) := by rw [Lib.cell_of_heap HR1.out]; rfl
    have r1 : W1.cell? ⟨w.heap.size + 1, 1, none⟩ = some (.int .i64 0) := by rw [Lib.cell_of_heap HR1.out]; rfl
    have r2 : W1.cell? ⟨w.heap.size + 1, 2, none⟩ = some (.int .i64 0) := by rw [Lib.cell_of_heap HR1.out]; rfl
    have r3 : W1.cell? ⟨w.heap.size + 1, 3, none⟩ = some (.slice none 0 0) := by rw [Lib.cell_of_heap HR1.out]; rfl
    have r4 : W1.cell? ⟨w.heap.size + 1, 4, none⟩ = some (.slice none 0 0) := by rw [Lib.cell_of_heap HR1.out]; rfl
    have r5 : W1.cell? ⟨w.heap.size + 1, 5, none⟩ = some (.slice none 0 0) := by rw [Lib.cell_of_heap HR1.out]; rfl
    have r6 : W1.cell? ⟨w.heap.size + 1, 6, none⟩ = some (.int .i64 0) := by rw [Lib.cell_of_heap HR1.out]; rfl
    have r7 : W1.cell? ⟨w.heap.size + 1, 7, none⟩ = some (.int .i64 0) := by rw [Lib.cell_of_heap HR1.out]; rfl
    have rf := Lib.frozen_of_heap HR1.out
    have HT := hid T
    have HD1 := hid (HDW.out.stay hb1)
    have HE1 := hid (HEW.out.stay hb1 (Nat.le_refl _))
    have HER1 := hid (HER.out.stay hb1)
    have hRl : w.heap.size + 1 < W1.heap.size := by omega
    clear T hb1 cR HRW HDW HEW D0 D1
    cases B1 with
    | false =>
      have HFIN := hid (soS_no ss fs h4 (fun h => absurd (HT.out.yes h.1) (by decide)))
      go_wp2_with fail
      have hCR : Chg (fun j => j = w.heap.size + 1) W1 ((((((((W1.setCell ⟨w.heap.size + 1, 0, none⟩ (.int .i64 0)).setCell ⟨w.heap.size + 1, 1, none⟩ (.int .i64 0)).setCell ⟨w.heap.size + 1, 2, none⟩ (.int .i64 0)).setCell ⟨w.heap.size + 1, 3, none⟩ (.slice none 0 0)).setCell ⟨w.heap.size + 1, 4, none⟩ (.slice none 0 0)).setCell ⟨w.heap.size + 1, 5, none⟩ (.slice none 0 0)).setCell ⟨w.heap.size + 1, 6, none⟩ (.int .i64 0)).setCell ⟨w.heap.size + 1, 7, none⟩ (.int .i64 1)) := (((((((chg_set _ _ _ _).trans (chg_set _ _ _ _)).trans (chg_set _ _ _ _)).trans (chg_set _ _ _ _)).trans (chg_set _ _ _ _)).trans (chg_set _ _ _ _)).trans (chg_set _ _ _ _)).trans (chg_set _ _ _ _)
      refine bodyPost_ret (v := outV 1 z0 (.slice none 0 0) (.slice none 0 0) (.slice none 0 0)) (by simp [results, Tryz.results47, go_sem, outV, z0, r0, r1, r2, r3, r4, r5, r6, r7]) rfl ?_
      show StepPost _ _ (soS ss fs es).1 (soS ss fs es).2 _ _
      rw [HFIN.out]
      exact ⟨_, _, _, rfl, StOwn.none _ _, HB1.out.trans (hCR.below (by omega) (fun j (h : j = _) => by omega))⟩
    | true =>
      have HY := hid (show DefP ss fs from HT.out.1 rfl)
      by_cases h2 : es.length ≤ 200
      case neg =>
        have HFIN := hid (soS_no ss fs h4 (fun h => h2 h.2))
        go_wp2_with fail
        have hCR : Chg (fun j => j = w.heap.size + 1) W1 ((((((((W1.setCell ⟨w.heap.size + 1, 0, none⟩ (.int .i64 0)).setCell ⟨w.heap.size + 1, 1, none⟩ (.int .i64 0)).setCell ⟨w.heap.size + 1, 2, none⟩ (.int .i64 0)).setCell ⟨w.heap.size + 1, 3, none⟩ (.slice none 0 0)).setCell ⟨w.heap.size + 1, 4, none⟩ (.slice none 0 0)).setCell ⟨w.heap.size + 1, 5, none⟩ (.slice none 0 0)).setCell ⟨w.heap.size + 1, 6, none⟩ (.int .i64 0)).setCell ⟨w.heap.size + 1, 7, none⟩ (.int .i64 1)) := (((((((chg_set _ _ _ _).trans (chg_set _ _ _ _)).trans (chg_set _ _ _ _)).trans (chg_set _ _ _ _)).trans (chg_set _ _ _ _)).trans (chg_set _ _ _ _)).trans (chg_set _ _ _ _)).trans (chg_set _ _ _ _)
        refine bodyPost_ret (v := outV 1 z0 (.slice none 0 0) (.slice none 0 0) (.slice none 0 0)) (by simp [results, Tryz.results47, go_sem, outV, z0, r0, r1, r2, r3, r4, r5, r6, r7]) rfl ?_
        show StepPost _ _ (soS ss fs es).1 (soS ss fs es).2 _ _
        rw [HFIN.out]
        exact ⟨_, _, _, rfl, StOwn.none _ _, HB1.out.trans (hCR.below (by omega) (fun j (h : j = _) => by omega))⟩
      case pos =>
        have HFIN := hid (soS_yes ss fs h4 HY.out h2)
        have cS := hid (happened_any a1 a2 none none none a6 k1 k2 0 0 0 k6 ss fs z0 es e0 e1 e2 e3 e4 W1 HD1.out (z0_sl _) HE1.out HER1.out HY.out (z0_right ss) HF1.out HF2.out HFE.out (by omega))
        change Hid (Calls _ _ #[defV a1 a2 k1 k2 ss fs, .agg #[.int .i64 0, .int .i64 0, .int .i64 0, .slice none 0 0, .slice none 0 0, .slice none 0 0, .int .i64 0], .slice a6 es.length k6] _ _) at cS
        generalize hst : ofS ss fs es z0 = cs at *
        have HST := hid hst
        clear hst
        obtain ⟨c, S'⟩ := cs
        go_wp2_with fail
        refine cS.out.mono ?_
        rintro x W3 ⟨u3, u4, u5, rfl, hO, hb⟩
        obtain ⟨x3a, x4a, x5a, x3c, x4c, x5c, rfl, rfl, rfl⟩ := hO.forms
        have HO := hid hO
        have HR3 := hid ((hb.block (w.heap.size + 1) (by omega)).trans HR1.out)
        have hz9 := hb.size
        have HBF := hid (HB1.out.trans (hb.mono HB1.out.size))
        clear hO hb d0 d1 r0 r1 r2 r3 r4 r5 r6 r7 rf
        have r0 : W3.cell? ⟨w.heap.size + 1, 0, none⟩ = some (.int .i64 0) := by rw [Lib.cell_of_heap HR3.out]; rfl
        have r1 : W3.cell? ⟨w.heap.size + 1, 1, none⟩ = some (.int .i64 0) := by rw [Lib.cell_of_heap HR3.out]; rfl
        have r2 : W3.cell? ⟨w.heap.size + 1, 2, none⟩ = some (.int .i64 0) := by rw [Lib.cell_of_heap HR3.out]; rfl
        have r3 : W3.cell? ⟨w.heap.size + 1, 3, none⟩ = some (.slice none 0 0) := by rw [Lib.cell_of_heap HR3.out]; rfl
        have r4 : W3.cell? ⟨w.heap.size + 1, 4, none⟩ = some (.slice none 0 0) := by rw [Lib.cell_of_heap HR3.out]; rfl
        have r5 : W3.cell? ⟨w.heap.size + 1, 5, none⟩ = some (.slice none 0 0) := by rw [Lib.cell_of_heap HR3.out]; rfl
        have r6 : W3.cell? ⟨w.heap.size + 1, 6, none⟩ = some (.int .i64 0) := by rw [Lib.cell_of_heap HR3.out]; rfl
        have r7 : W3.cell? ⟨w.heap.size + 1, 7, none⟩ = some (.int .i64 0) := by rw [Lib.cell_of_heap HR3.out]; rfl
        have rf := Lib.frozen_of_heap HR3.out
        unfold outV
        go_wp2_with fail
        have hCR : Chg (fun j => j = w.heap.size + 1) W3 ((((((((W3.setCell ⟨w.heap.size + 1, 0, none⟩ (.int .i64 S'.status)).setCell ⟨w.heap.size + 1, 1, none⟩ (.int .i64 S'.begun)).setCell ⟨w.heap.size + 1, 2, none⟩ (.int .i64 S'.last)).setCell ⟨w.heap.size + 1, 3, none⟩ (.slice x3a S'.wait.length x3c)).setCell ⟨w.heap.size + 1, 4, none⟩ (.slice x4a S'.busy.length x4c)).setCell ⟨w.heap.size + 1, 5, none⟩ (.slice x5a S'.vars.length x5c)).setCell ⟨w.heap.size + 1, 6, none⟩ (.int .i64 S'.faults)).setCell ⟨w.heap.size + 1, 7, none⟩ (.int .i64 c)) := (((((((chg_set _ _ _ _).trans (chg_set _ _ _ _)).trans (chg_set _ _ _ _)).trans (chg_set _ _ _ _)).trans (chg_set _ _ _ _)).trans (chg_set _ _ _ _)).trans (chg_set _ _ _ _)).trans (chg_set _ _ _ _)
        refine bodyPost_ret (v := outV c S' (.slice x3a S'.wait.length x3c) (.slice x4a S'.busy.length x4c) (.slice x5a S'.vars.length x5c)) (by simp [results, Tryz.results47, go_sem, outV, r0, r1, r2, r3, r4, r5, r6, r7]) rfl ?_
        show StepPost _ _ (soS ss fs es).1 (soS ss fs es).2 _ _
        rw [HFIN.out]
        exact ⟨_, _, _, rfl, (HO.out.turn hCR HR3.out (by decide) (by decide)).le (by omega), HBF.out.trans (hCR.below (by omega) (fun j (h : j = _) => by omega))⟩
end Go.Proofs.YtadidjhcgmeadaaGreatDoor
