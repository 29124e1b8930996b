/-
  What impl.happened answers: a contract over the seat's program. (Made by mkhapd.py.)
-/
import Derived.Test.YthggcdadipjiiaaGreatDoorZImHapA
import Derived.Test.YthggcdadipjiiaaGreatDoorZImTold
import Derived.Test.YthggcdadipjiiaaGreatDoorZNm4
namespace Go.Proofs.YthggcdadipjiiaaGreatDoor
open Go.RowKit Go.Maps Go.WideMaps Go.Sort

theorem below3 (w : World) (o1 o2 o3 : Obj) : Below w.heap.size w (((w.alloc o1).alloc o2).alloc o3) := (((Below.refl _ _).alloc (Nat.le_refl _) o1).alloc (by simp) o2).alloc (by simp; omega) o3
theorem ofS_append (ss : List ByteArray) (fs : List Pr) : ∀ (a b : List Ev) (S : St), ofS ss fs (a ++ b) S = if (ofS ss fs a S).1 = 0 then ofS ss fs b (ofS ss fs a S).2 else ((ofS ss fs a S).1, z0)
  | [], b, S => rfl
  | e :: a, b, S => by
    have q1 : ∀ r, ofS ss fs (e :: r) S = if (evS ss fs S e).1 = 0 then ofS ss fs r (evS ss fs S e).2 else ((evS ss fs S e).1, z0) := fun _ => rfl
    rw [List.cons_append, q1, q1]
    by_cases h : (evS ss fs S e).1 = 0
    · rw [if_pos h, if_pos h]; exact ofS_append ss fs a b _
    · rw [if_neg h, if_neg h]; exact (if_neg h).symm
theorem ofS_step {ss : List ByteArray} {fs : List Pr} {es : List Ev} {S S' : St} {k : Nat} (h : ofS ss fs (es.take k) S = (0, S')) (hk : k < es.length) (hc : (evS ss fs S' es[k]).1 = 0) : ofS ss fs (es.take (k + 1)) S = (0, (evS ss fs S' es[k]).2) := by
  rw [List.take_succ_eq_append_getElem hk, ofS_append, h]
  simp [ofS, hc]
theorem ofS_stop {ss : List ByteArray} {fs : List Pr} {es : List Ev} {S S' : St} {k : Nat} (h : ofS ss fs (es.take k) S = (0, S')) (hk : k < es.length) (hc : ¬ (evS ss fs S' es[k]).1 = 0) : ofS ss fs es S = ((evS ss fs S' es[k]).1, z0) := by
  have h2 : ofS ss fs (es.take k ++ es[k] :: es.drop (k + 1)) S = ((evS ss fs S' es[k]).1, z0) := by
    rw [ofS_append, h]
    simp [ofS, hc]
  rw [← List.drop_eq_getElem_cons hk, List.take_append_drop] at h2
  exact h2
theorem evS_right {ss : List ByteArray} {fs : List Pr} {S : St} {e : Ev} (D : DefP ss fs) (hS : StP ss S) (hc : (evS ss fs S e).1 = 0) : StP ss (evS ss fs S e).2 := by
  unfold evS at hc ⊢
  by_cases he : evB e = true
  · rw [if_pos he] at hc ⊢; exact stepS_right D hS he hc
  · rw [if_neg he] at hc; exact absurd hc (by decide)
theorem evS_code (ss : List ByteArray) (fs : List Pr) (S : St) (e : Ev) : (evS ss fs S e).1 = 0 ∨ (evS ss fs S e).1 = 1 ∨ (evS ss fs S e).1 = 10 ∨ (evS ss fs S e).1 = 8 ∨ (evS ss fs S e).1 = 6 ∨ (evS ss fs S e).1 = 9 := by
  unfold evS stepS doS
  repeat' split
  all_goals simp
theorem code_any {e0 e1 e2 e3 e4 : Addr} (c : Int) (w : World) (h : ErrsAt w e0 e1 e2 e3 e4) (hc : c = 1 ∨ c = 10 ∨ c = 8 ∨ c = 6 ∨ c = 9) :
    Calls Tryz.prog 106 #[errV (aOf e0 e1 e2 e3 e4 c)] w fun e w' => e = .returned (.int .i64 c) ∧ w' = w := by
  rcases hc with rfl | rfl | rfl | rfl | rfl
  · exact code_0 w h
  · exact code_1 w h
  · exact code_2 w h
  · exact code_3 w h
  · exact code_4 w h
/-- Names and values of a right State are short. -/
theorem stP_fit {ss : List ByteArray} {S : St} (D : StepsP ss) (h : StP ss S) : (∀ i, (hi : i < S.vars.length) → S.vars[i].fst.size ≤ 40 ∧ S.vars[i].snd.size ≤ 40) ∧ (∀ s ∈ S.wait, s.size ≤ 20) ∧ (∀ s ∈ S.busy, s.size ≤ 20) := by
  have nz : ∀ s : ByteArray, nrB s = true → s.size ≤ 20 := fun s h => by unfold nrB at h; simp only [Bool.and_eq_true, decide_eq_true_eq] at h; exact h.2.1
  have ns : ∀ s ∈ ss, s.size ≤ 20 := fun s hs => by
    obtain ⟨i, hi, rfl⟩ := List.mem_iff_getElem.1 hs
    exact nz _ (D.nm i hi)
  have key : BegP ss S → _ := fun h => (⟨fun i hi => ⟨by have := nz _ (h.v.nm i hi).1; omega, (h.v.nm i hi).2⟩, fun s hs => ns s (h.w.all s hs), fun s hs => ns s (h.b.all s hs)⟩ : (∀ i, (hi : i < S.vars.length) → S.vars[i].fst.size ≤ 40 ∧ S.vars[i].snd.size ≤ 40) ∧ (∀ s ∈ S.wait, s.size ≤ 20) ∧ (∀ s ∈ S.busy, s.size ≤ 20))
  rcases h with ⟨_, h⟩ | ⟨_, h⟩ | ⟨_, _, h⟩
  · rw [List.eq_nil_of_length_eq_zero h.w, List.eq_nil_of_length_eq_zero h.b]
    exact ⟨fun i hi => by have := h.v0; omega, by simp, by simp⟩
  · exact key h
  · exact key h
theorem EvSl.row {w : World} {a : Option Addr} {n c : Nat} {es : List Ev} (h : EvSl w (.slice a n c) es) (h0 : 0 < es.length) : ∃ g o, a = some ⟨g, o, none⟩ ∧ EvsAt w g o es := by
  rcases h with ⟨_, _, _, rfl⟩ | ⟨g, o, _, hv, h⟩
  · simp at h0
  · injection hv with h1 _ _; exact ⟨g, o, h1, by first | exact h | exact h.2⟩
set_option maxRecDepth 100000 in
set_option maxHeartbeats 4000000 in
theorem happened_any (a1 a2 a3 a4 a5 a6 : Option Addr) (k1 k2 k3 k4 k5 k6 : Nat) (ss : List ByteArray) (fs : List Pr) (S : St) (es : List Ev) (e0 e1 e2 e3 e4 : Addr) (w : World) (hD : DefSl w a1 a2 k1 k2 ss fs) (hT : StSl w a3 a4 a5 k3 k4 k5 S) (hE : EvSl w (.slice a6 es.length k6) es) (hEr : ErrsAt w e0 e1 e2 e3 e4) (D : DefP ss fs) (hP : StP ss S) (F1 : ∀ i, (h : i < ss.length) → ss[i].size ≤ maxLen) (F2 : FitP fs) (FE : ∀ i, (h : i < es.length) → es[i].step.size ≤ maxLen) (hn : es.length ≤ 1000) :
    Calls Tryz.prog 85 #[defV a1 a2 k1 k2 ss fs, stV a3 a4 a5 k3 k4 k5 S, .slice a6 es.length k6] w fun x w' => StepPost w.heap.size w (ofS ss fs es S).1 (ofS ss fs es S).2 x w' := by
  have hbW : Below w.heap.size w (((w.alloc (.cells #[.slice a1 ss.length k1, .slice a2 fs.length k2] 26)).alloc (.cells #[.int .i64 S.status, .int .i64 S.begun, .int .i64 S.last, .slice a3 S.wait.length k3, .slice a4 S.busy.length k4, .slice a5 S.vars.length k5, .int .i64 S.faults] 91)).alloc (.cells #[.int .i64 0, .int .i64 0, .int .i64 0, .slice none 0 0, .slice none 0 0, .slice none 0 0, .int .i64 0, .int .i64 0] 93)) := below3 _ _ _ _
  have hWs : (((w.alloc (.cells #[.slice a1 ss.length k1, .slice a2 fs.length k2] 26)).alloc (.cells #[.int .i64 S.status, .int .i64 S.begun, .int .i64 S.last, .slice a3 S.wait.length k3, .slice a4 S.busy.length k4, .slice a5 S.vars.length k5, .int .i64 S.faults] 91)).alloc (.cells #[.int .i64 0, .int .i64 0, .int .i64 0, .slice none 0 0, .slice none 0 0, .slice none 0 0, .int .i64 0, .int .i64 0] 93)).heap.size = w.heap.size + 1 + 1 + 1 := by simp
  have HRW := hid (show (((w.alloc (.cells #[.slice a1 ss.length k1, .slice a2 fs.length k2] 26)).alloc (.cells #[.int .i64 S.status, .int .i64 S.begun, .int .i64 S.last, .slice a3 S.wait.length k3, .slice a4 S.busy.length k4, .slice a5 S.vars.length k5, .int .i64 S.faults] 91)).alloc (.cells #[.int .i64 0, .int .i64 0, .int .i64 0, .slice none 0 0, .slice none 0 0, .slice none 0 0, .int .i64 0, .int .i64 0] 93)).heap[w.heap.size + 1 + 1]? = some (.cells #[.int .i64 0, .int .i64 0, .int .i64 0, .slice none 0 0, .slice none 0 0, .slice none 0 0, .int .i64 0, .int .i64 0] 93 (0, 0)) from by
    have h := heap_alloc_new ((w.alloc (.cells #[.slice a1 ss.length k1, .slice a2 fs.length k2] 26)).alloc (.cells #[.int .i64 S.status, .int .i64 S.begun, .int .i64 S.last, .slice a3 S.wait.length k3, .slice a4 S.busy.length k4, .slice a5 S.vars.length k5, .int .i64 S.faults] 91)) (.cells #[.int .i64 0, .int .i64 0, .int .i64 0, .slice none 0 0, .slice none 0 0, .slice none 0 0, .int .i64 0, .int .i64 0] 93 (0, 0))
    rw [show ((w.alloc (.cells #[.slice a1 ss.length k1, .slice a2 fs.length k2] 26)).alloc (.cells #[.int .i64 S.status, .int .i64 S.begun, .int .i64 S.last, .slice a3 S.wait.length k3, .slice a4 S.busy.length k4, .slice a5 S.vars.length k5, .int .i64 S.faults] 91)).heap.size = w.heap.size + 1 + 1 by simp] at h
    exact h)
  have HBW := hid hbW
  have HEv := hid (hE.stay hbW (Nat.le_refl _))
  have HDW := hid (hD.stay hbW)
  have HER := hid (hEr.stay hbW)
  have sm := stP_small hP
  have ft := stP_fit D.1 hP
  have cO := hid (standOf_any a1 a2 a3 a4 a5 k1 k2 k3 k4 k5 ss fs S (((w.alloc (.cells #[.slice a1 ss.length k1, .slice a2 fs.length k2] 26)).alloc (.cells #[.int .i64 S.status, .int .i64 S.begun, .int .i64 S.last, .slice a3 S.wait.length k3, .slice a4 S.busy.length k4, .slice a5 S.vars.length k5, .int .i64 S.faults] 91)).alloc (.cells #[.int .i64 0, .int .i64 0, .int .i64 0, .slice none 0 0, .slice none 0 0, .slice none 0 0, .int .i64 0, .int .i64 0] 93)) (hT.stay hbW) (fun i hi => by have := ft.2.1 _ (List.getElem_mem hi); unfold maxLen; omega) (fun i hi => by have := ft.2.2 _ (List.getElem_mem hi); unfold maxLen; omega) (by omega) (by omega) (by omega))
  have HPP := hid hP
  have HDD := hid D
  have HF1 := hid F1
  have HF2 := hid F2
  have HFE := hid FE
  have hl1 := hD.l1
  have hl2 := hD.l2
  have HL1 := hid hl1
  have HL2 := hid hl2
  have hNG := hid hEr.hs
  clear hE hD hT hEr hP ft D F1 F2 FE hbW hl1 hl2
  go_enter Tryz.func85, Tryz.ntmps85
  go_wp2_with fail
  refine cO.out.mono ?_
  generalize (((w.alloc (.cells #[.slice a1 ss.length k1, .slice a2 fs.length k2] 26)).alloc (.cells #[.int .i64 S.status, .int .i64 S.begun, .int .i64 S.last, .slice a3 S.wait.length k3, .slice a4 S.busy.length k4, .slice a5 S.vars.length k5, .int .i64 S.faults] 91)).alloc (.cells #[.int .i64 0, .int .i64 0, .int .i64 0, .slice none 0 0, .slice none 0 0, .slice none 0 0, .int .i64 0, .int .i64 0] 93)) = W at *
  rintro x W1 ⟨B, bw, bb, b5, c5, rfl, hS1, hb1⟩
  have HS1 := hid hS1
  have HB1 := hid hb1
  have hz1 := hb1.size
  clear hS1 hb1 cO
  go_wp2_with fail
  go_loopw [16] (fun i wr => ∃ (k : Nat) (vv : Value) (S' : St), k ≤ es.length ∧ i = .int .i64 k ∧ Stand wr W.heap.size B bw bb (.slice a1 ss.length k1) (.slice a2 fs.length k2) vv (S.wait.length + S.busy.length + 41 * k) S' ∧ StP ss S' ∧ ofS ss fs (es.take k) S = (0, S') ∧ Below W.heap.size W wr) (fun i _ => es.length - (intOf i).toNat)
  case atStart => exact ⟨0, _, S, Nat.zero_le _, rfl, HS1.out, HPP.out, rfl, HB1.out⟩
  case round =>
    obtain ⟨k, vv, S', hk, rfl, hSt, hP', hof, hbr⟩ := hrel
    have HSt := hid hSt
    have HP' := hid hP'
    have HOF := hid hof
    have HBr := hid hbr
    have hzr := hbr.size
    have HRr := hid ((hbr.block (w.heap.size + 1 + 1) (lt_heap HRW.out)).trans HRW.out)
    clear hSt hP' hof hbr
    by_cases hlt : k < es.length
    · obtain ⟨g, o, ha, hQ⟩ := HEv.out.row (by omega)
      subst ha
      obtain ⟨q0, q1, q2, q3, q4, q5⟩ := (hQ.stay HBr.out (Nat.le_refl _)).2 k hlt
      have hfe := HFE.out k hlt
      have HSTEP := hid (fun hc => ofS_step HOF.out hlt hc)
      have HSTOP := hid (fun hc => ofS_stop HOF.out hlt hc)
      generalize es[k] = e at *
      obtain ⟨eq, et, er, ek, es0, ev⟩ := e
      simp only at q0 q1 q2 q3 q4 q5 hfe
      have hbX : Below wr.heap.size wr (wr.alloc (.cells #[.int .i64 eq, .int .i64 et, .int .i64 er, .int .i64 ek, .string es0, .string ev] 33)) := (Below.refl _ _).alloc (Nat.le_refl _) _
      have hbwX : Below W.heap.size W (wr.alloc (.cells #[.int .i64 eq, .int .i64 et, .int .i64 er, .int .i64 ek, .string es0, .string ev] 33)) := HBr.out.trans (hbX.mono hzr)
      have hI : HapIn (wr.alloc (.cells #[.int .i64 eq, .int .i64 et, .int .i64 er, .int .i64 ek, .string es0, .string ev] 33)) W.heap.size a1 a2 k1 k2 ss fs e0 e1 e2 e3 e4 := ⟨HDW.out.h1.stay hbwX (Nat.le_refl _), HDW.out.h2.stay hbwX (Nat.le_refl _), fun g o h => by have := HL1.out g o h; omega, fun g o h => by have := HL2.out g o h; omega, HER.out.stay hbwX, by have := hNG.out; omega⟩
      have cH := hid (happen_any W.heap.size B bw bb _ a1 a2 k1 k2 ss fs vv S' ⟨eq, et, er, ek, es0, ev⟩ e0 e1 e2 e3 e4 _ (HSt.out.stay hbX) hI HDD.out HP'.out HF1.out HF2.out hfe (by omega))
      have HCD := hid (evS_code ss fs S' ⟨eq, et, er, ek, es0, ev⟩)
      have HRT := hid (fun hc => evS_right (e := ⟨eq, et, er, ek, es0, ev⟩) HDD.out HP'.out hc)
      unfold evV at cH
      generalize hcs : evS ss fs S' ⟨eq, et, er, ek, es0, ev⟩ = cs at *
      clear hcs
      obtain ⟨c, S2⟩ := cs
      have HX := hid hbX
      have HER2 := hid (HER.out.stay hbwX)
      have HRx := hid ((hbX.block (w.heap.size + 1 + 1) (lt_heap HRr.out)).trans HRr.out)
      have hXs : (wr.alloc (.cells #[.int .i64 eq, .int .i64 et, .int .i64 er, .int .i64 ek, .string es0, .string ev] 33)).heap.size = wr.heap.size + 1 := by simp
      clear hbX hI hQ
      go_wp2_with fail
      refine cH.out.mono ?_
      have HWX := hid hbwX
      clear hbwX cH
      generalize wr.alloc (.cells #[.int .i64 eq, .int .i64 et, .int .i64 er, .int .i64 ek, .string es0, .string ev] 33) = X at *
      rintro x U ⟨hC, hok, hno⟩
      have hlo := HSt.out.lo
      have HBU := hid (HWX.out.trans (hC.below HWX.out.size hlo))
      have hzU := hC.size
      have HRu := hid ((HBU.out.block (w.heap.size + 1 + 1) (lt_heap HRW.out)).trans HRW.out)
      have HERu := hid (HER.out.stay HBU.out)
      clear hC q0 q1 q2 q3 q4 q5
      by_cases hc : c = 0
      · subst hc
        obtain ⟨rfl, vv', hS2⟩ := hok rfl
        have HS2 := hid hS2
        clear hS2 hno hok
        go_wp2_with fail
        go_roundw
        case rel => exact ⟨k + 1, vv', S2, by omega, by go_num, by rw [show S.wait.length + S.busy.length + 41 * (k + 1) = S.wait.length + S.busy.length + 41 * k + 41 by omega]; exact HS2.out, HRT.out (by trivial), HSTEP.out (by trivial), HBU.out⟩
        case measure => simp [intOf]; omega
      · obtain rfl := hno hc
        have hcc : c = 1 ∨ c = 10 ∨ c = 8 ∨ c = 6 ∨ c = 9 := by rcases HCD.out with h | h; exact absurd h hc; exact h
        have cC := hid (code_any c U HERu.out hcc)
        have HCC := hid hc
        have HFIN := hid (HSTOP.out hc)
        clear hno hok hcc
        generalize aOf e0 e1 e2 e3 e4 c = ae at *
        go_wp2_with fail
        refine cC.out.mono ?_
        rintro x Uq ⟨rfl, hq⟩
        rw [hq]
        clear hq Uq
        have r0 : U.cell? ⟨w.heap.size + 1 + 1, 0, none⟩ = some (.int .i64 0) := by rw [Lib.cell_of_heap HRu.out]; rfl
        have r1 : U.cell? ⟨w.heap.size + 1 + 1, 1, none⟩ = some (.int .i64 0) := by rw [Lib.cell_of_heap HRu.out]; rfl
        have r2 : U.cell? ⟨w.heap.size + 1 + 1, 2, none⟩ = some (.int .i64 0) := by rw [Lib.cell_of_heap HRu.out]; rfl
        have r3 : U.cell? ⟨w.heap.size + 1 + 1, 3, none⟩ = some (.slice none 0 0) := by rw [Lib.cell_of_heap HRu.out]; rfl
        have r4 : U.cell? ⟨w.heap.size + 1 + 1, 4, none⟩ = some (.slice none 0 0) := by rw [Lib.cell_of_heap HRu.out]; rfl
        have r5 : U.cell? ⟨w.heap.size + 1 + 1, 5, none⟩ = some (.slice none 0 0) := by rw [Lib.cell_of_heap HRu.out]; rfl
        have r6 : U.cell? ⟨w.heap.size + 1 + 1, 6, none⟩ = some (.int .i64 0) := by rw [Lib.cell_of_heap HRu.out]; rfl
        have r7 : U.cell? ⟨w.heap.size + 1 + 1, 7, none⟩ = some (.int .i64 0) := by rw [Lib.cell_of_heap HRu.out]; rfl
        have rf := Lib.frozen_of_heap HRu.out
        go_wp2_with fail
        have hCR : Chg (fun j => j = w.heap.size + 1 + 1) U ((((((((U.setCell ⟨w.heap.size + 1 + 1, 0, none⟩ (.int .i64 0)).setCell ⟨w.heap.size + 1 + 1, 1, none⟩ (.int .i64 0)).setCell ⟨w.heap.size + 1 + 1, 2, none⟩ (.int .i64 0)).setCell ⟨w.heap.size + 1 + 1, 3, none⟩ (.slice none 0 0)).setCell ⟨w.heap.size + 1 + 1, 4, none⟩ (.slice none 0 0)).setCell ⟨w.heap.size + 1 + 1, 5, none⟩ (.slice none 0 0)).setCell ⟨w.heap.size + 1 + 1, 6, none⟩ (.int .i64 0)).setCell ⟨w.heap.size + 1 + 1, 7, none⟩ (.int .i64 c)) := (((((((chg_set _ _ _ _).trans (chg_set _ _ _ _)).trans (chg_set _ _ _ _)).trans (chg_set _ _ _ _)).trans (chg_set _ _ _ _)).trans (chg_set _ _ _ _)).trans (chg_set _ _ _ _)).trans (chg_set _ _ _ _)
        refine bodyPost_ret (v := outV c z0 (.slice none 0 0) (.slice none 0 0) (.slice none 0 0)) (by simp [results, Tryz.results85, go_sem, outV, z0, r0, r1, r2, r3, r4, r5, r6, r7]) rfl ?_
        show StepPost _ _ (ofS ss fs es S).1 (ofS ss fs es S).2 _ _
        rw [HFIN.out]
        exact ⟨_, _, _, rfl, StOwn.none _ _, (HBW.out.trans (HBU.out.mono HBW.out.size)).trans (hCR.below (by have := HBU.out.size; omega) (fun j (h : j = _) => by omega))⟩
    · have hke : k = es.length := by omega
      have HFIN := hid (show ofS ss fs es S = (0, S') by have h := HOF.out; rwa [hke, List.take_of_length_le (Nat.le_refl _)] at h)
      have ft := stP_fit HDD.out.1 HP'.out
      have sm2 := stP_small HP'.out
      have cT := hid (told_any W.heap.size B bw bb _ _ _ vv ss S' wr HSt.out HP'.out (by omega) (fun i hi => by have := ft.1 i hi; omega) (fun s hs => by have := ft.2.1 s hs; omega) (fun s hs => by have := ft.2.2 s hs; omega) (by omega))
      clear ft sm2 hke
      go_wp2_with fail
      refine cT.out.mono ?_
      rintro x U ⟨u3, u4, u5, rfl, hO, hb⟩
      obtain ⟨x3a, x4a, x5a, x3c, x4c, x5c, rfl, rfl, rfl⟩ := hO.forms
      have HO := hid hO
      have HBU := hid (HBr.out.trans (hb.mono hzr))
      have hzU := hb.size
      have HRu := hid ((HBU.out.block (w.heap.size + 1 + 1) (lt_heap HRW.out)).trans HRW.out)
      clear hO hb cT
      have r0 : U.cell? ⟨w.heap.size + 1 + 1, 0, none⟩ = some (.int .i64 0) := by rw [Lib.cell_of_heap HRu.out]; rfl
      have r1 : U.cell? ⟨w.heap.size + 1 + 1, 1, none⟩ = some (.int .i64 0) := by rw [Lib.cell_of_heap HRu.out]; rfl
      have r2 : U.cell? ⟨w.heap.size + 1 + 1, 2, none⟩ = some (.int .i64 0) := by rw [Lib.cell_of_heap HRu.out]; rfl
      have r3 : U.cell? ⟨w.heap.size + 1 + 1, 3, none⟩ = some (.slice none 0 0) := by rw [Lib.cell_of_heap HRu.out]; rfl
      have r4 : U.cell? ⟨w.heap.size + 1 + 1, 4, none⟩ = some (.slice none 0 0) := by rw [Lib.cell_of_heap HRu.out]; rfl
      have r5 : U.cell? ⟨w.heap.size + 1 + 1, 5, none⟩ = some (.slice none 0 0) := by rw [Lib.cell_of_heap HRu.out]; rfl
      have r6 : U.cell? ⟨w.heap.size + 1 + 1, 6, none⟩ = some (.int .i64 0) := by rw [Lib.cell_of_heap HRu.out]; rfl
      have r7 : U.cell? ⟨w.heap.size + 1 + 1, 7, none⟩ = some (.int .i64 0) := by rw [Lib.cell_of_heap HRu.out]; rfl
      have rf := Lib.frozen_of_heap HRu.out
      go_wp2_with fail
      have hCR : Chg (fun j => j = w.heap.size + 1 + 1) U ((((((((U.setCell ⟨w.heap.size + 1 + 1, 0, none⟩ (.int .i64 S'.status)).setCell ⟨w.heap.size + 1 + 1, 1, none⟩ (.int .i64 S'.begun)).setCell ⟨w.heap.size + 1 + 1, 2, none⟩ (.int .i64 S'.last)).setCell ⟨w.heap.size + 1 + 1, 3, none⟩ (.slice x3a S'.wait.length x3c)).setCell ⟨w.heap.size + 1 + 1, 4, none⟩ (.slice x4a S'.busy.length x4c)).setCell ⟨w.heap.size + 1 + 1, 5, none⟩ (.slice x5a S'.vars.length x5c)).setCell ⟨w.heap.size + 1 + 1, 6, none⟩ (.int .i64 S'.faults)).setCell ⟨w.heap.size + 1 + 1, 7, none⟩ (.int .i64 0)) := (((((((chg_set _ _ _ _).trans (chg_set _ _ _ _)).trans (chg_set _ _ _ _)).trans (chg_set _ _ _ _)).trans (chg_set _ _ _ _)).trans (chg_set _ _ _ _)).trans (chg_set _ _ _ _)).trans (chg_set _ _ _ _)
      refine bodyPost_ret (v := outV 0 S' (.slice x3a S'.wait.length x3c) (.slice x4a S'.busy.length x4c) (.slice x5a S'.vars.length x5c)) (by simp [results, Tryz.results85, go_sem, outV, r0, r1, r2, r3, r4, r5, r6, r7]) rfl ?_
      show StepPost _ _ (ofS ss fs es S).1 (ofS ss fs es S).2 _ _
      rw [HFIN.out]
      exact ⟨_, _, _, rfl, (HO.out.turn hCR HRu.out (by decide) (by decide)).le (by omega), (HBW.out.trans (HBU.out.mono HBW.out.size)).trans (hCR.below (by have := HBU.out.size; omega) (fun j (h : j = _) => by omega))⟩
end Go.Proofs.YthggcdadipjiiaaGreatDoor
