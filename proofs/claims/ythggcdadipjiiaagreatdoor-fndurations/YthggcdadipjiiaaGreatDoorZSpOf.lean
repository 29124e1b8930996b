/-
  What spec.l03Of answers: a contract over the seat's program. (Made by mkspof.py.)
-/
import Derived.Test.YthggcdadipjiiaaGreatDoorZSpStA5
import Derived.Test.YthggcdadipjiiaaGreatDoorZSpRuns2
import Derived.Deep.RegionHeld3
import Derived.Deep.CutRange
namespace Go.Proofs.YthggcdadipjiiaaGreatDoor
open Go.RowKit Go.Sort

theorem new3 (w : World) (o1 o2 o3 : Obj) : (((w.alloc o1).alloc o2).alloc o3).heap[w.heap.size]? = some o1 ∧ (((w.alloc o1).alloc o2).alloc o3).heap[w.heap.size + 1]? = some o2 ∧ (((w.alloc o1).alloc o2).alloc o3).heap[w.heap.size + 1 + 1]? = some o3 := by
  have h1 := heap_alloc_new w o1
  have h2 := heap_alloc_new (w.alloc o1) o2
  have h3 := heap_alloc_new ((w.alloc o1).alloc o2) o3
  have z1 : (w.alloc o1).heap.size = w.heap.size + 1 := by simp
  have z2 : ((w.alloc o1).alloc o2).heap.size = w.heap.size + 1 + 1 := by simp
  have b2 : Below (w.alloc o1).heap.size (w.alloc o1) (((w.alloc o1).alloc o2).alloc o3) := ((Below.refl _ _).alloc (Nat.le_refl _) _).alloc (by simp) _
  have b3 : Below ((w.alloc o1).alloc o2).heap.size ((w.alloc o1).alloc o2) (((w.alloc o1).alloc o2).alloc o3) := (Below.refl _ _).alloc (Nat.le_refl _) _
  rw [z1] at h2
  rw [z2] at h3
  exact ⟨(b2.block _ (by omega)).trans h1, (b3.block _ (by omega)).trans h2, h3⟩
theorem stor7 {V : World} {b : Nat} {c0 c1 c2 c3 c4 c5 c6 : Value} {t : TypeId} (h : V.heap[b]? = some (.cells #[c0, c1, c2, c3, c4, c5, c6] t (0, 0))) (d0 d1 d2 d3 d4 d5 d6 : Value) : (((((((V.setCell ⟨b, 0, none⟩ d0).setCell ⟨b, 1, none⟩ d1).setCell ⟨b, 2, none⟩ d2).setCell ⟨b, 3, none⟩ d3).setCell ⟨b, 4, none⟩ d4).setCell ⟨b, 5, none⟩ d5).setCell ⟨b, 6, none⟩ d6).heap[b]? = some (.cells #[d0, d1, d2, d3, d4, d5, d6] t (0, 0)) ∧ Chg (fun j => j = b) V (((((((V.setCell ⟨b, 0, none⟩ d0).setCell ⟨b, 1, none⟩ d1).setCell ⟨b, 2, none⟩ d2).setCell ⟨b, 3, none⟩ d3).setCell ⟨b, 4, none⟩ d4).setCell ⟨b, 5, none⟩ d5).setCell ⟨b, 6, none⟩ d6) :=
  ⟨(blk_set (L := [d0, d1, d2, d3, d4, d5, c6]) (blk_set (L := [d0, d1, d2, d3, d4, c5, c6]) (blk_set (L := [d0, d1, d2, d3, c4, c5, c6]) (blk_set (L := [d0, d1, d2, c3, c4, c5, c6]) (blk_set (L := [d0, d1, c2, c3, c4, c5, c6]) (blk_set (L := [d0, c1, c2, c3, c4, c5, c6]) (blk_set (L := [c0, c1, c2, c3, c4, c5, c6]) h d0) d1) d2) d3) d4) d5) d6), ((((((chg_set _ _ _ _).trans (chg_set _ _ _ _)).trans (chg_set _ _ _ _)).trans (chg_set _ _ _ _)).trans (chg_set _ _ _ _)).trans (chg_set _ _ _ _)).trans (chg_set _ _ _ _)⟩
theorem stor8 {V : World} {b : Nat} {c0 c1 c2 c3 c4 c5 c6 c7 : Value} {t : TypeId} (h : V.heap[b]? = some (.cells #[c0, c1, c2, c3, c4, c5, c6, c7] t (0, 0))) (d0 d1 d2 d3 d4 d5 d6 d7 : Value) : ((((((((V.setCell ⟨b, 0, none⟩ d0).setCell ⟨b, 1, none⟩ d1).setCell ⟨b, 2, none⟩ d2).setCell ⟨b, 3, none⟩ d3).setCell ⟨b, 4, none⟩ d4).setCell ⟨b, 5, none⟩ d5).setCell ⟨b, 6, none⟩ d6).setCell ⟨b, 7, none⟩ d7).heap[b]? = some (.cells #[d0, d1, d2, d3, d4, d5, d6, d7] t (0, 0)) ∧ Chg (fun j => j = b) V ((((((((V.setCell ⟨b, 0, none⟩ d0).setCell ⟨b, 1, none⟩ d1).setCell ⟨b, 2, none⟩ d2).setCell ⟨b, 3, none⟩ d3).setCell ⟨b, 4, none⟩ d4).setCell ⟨b, 5, none⟩ d5).setCell ⟨b, 6, none⟩ d6).setCell ⟨b, 7, none⟩ d7) :=
  ⟨(blk_set (L := [d0, d1, d2, d3, d4, d5, d6, c7]) (blk_set (L := [d0, d1, d2, d3, d4, d5, c6, c7]) (blk_set (L := [d0, d1, d2, d3, d4, c5, c6, c7]) (blk_set (L := [d0, d1, d2, d3, c4, c5, c6, c7]) (blk_set (L := [d0, d1, d2, c3, c4, c5, c6, c7]) (blk_set (L := [d0, d1, c2, c3, c4, c5, c6, c7]) (blk_set (L := [d0, c1, c2, c3, c4, c5, c6, c7]) (blk_set (L := [c0, c1, c2, c3, c4, c5, c6, c7]) h d0) d1) d2) d3) d4) d5) d6) d7), (((((((chg_set _ _ _ _).trans (chg_set _ _ _ _)).trans (chg_set _ _ _ _)).trans (chg_set _ _ _ _)).trans (chg_set _ _ _ _)).trans (chg_set _ _ _ _)).trans (chg_set _ _ _ _)).trans (chg_set _ _ _ _)⟩
theorem evS_bad {ss : List ByteArray} {fs : List Pr} {S : St} {e : Ev} (h : evB e = false) : evS ss fs S e = (1, z0) := by unfold evS; rw [if_neg (by simp [h])]
theorem evS_ok {ss : List ByteArray} {fs : List Pr} {S : St} {e : Ev} (h : evB e = true) : evS ss fs S e = stepS ss fs S e := by unfold evS; rw [if_pos h]
theorem StOwn.slT {w : World} {lo k3 k4 k5 : Nat} {a3 a4 a5 : Option Addr} {S : St} (h : StOwn w lo (.slice a3 S.wait.length k3) (.slice a4 S.busy.length k4) (.slice a5 S.vars.length k5) S) : StSl w a3 a4 a5 k3 k4 k5 S := ⟨str_of_own h.o3, str_of_own h.o4, pr_of_own h.o5⟩
set_option maxRecDepth 100000 in
set_option maxHeartbeats 8000000 in
theorem l03Of_any (a1 a2 a6 : Option Addr) (k1 k2 k6 : Nat) (ss : List ByteArray) (fs : List Pr) (es : List Ev) (w : World) (hD : DefSl w a1 a2 k1 k2 ss fs) (hE : EvSl w (.slice a6 es.length k6) es) (D : DefP ss fs) (FE : ∀ i, (h : i < es.length) → es[i].step.size ≤ maxLen) (hn : es.length ≤ 1000) :
    Calls Tryz.prog 47 #[defV a1 a2 k1 k2 ss fs, .slice a6 es.length k6] w fun x w' => StepPost w.heap.size w (ofS ss fs es z0).1 (ofS ss fs es z0).2 x w' := by
  have hbW : Below w.heap.size w (((w.alloc (.cells #[.slice a1 ss.length k1, .slice a2 fs.length k2] 26)).alloc (.cells #[.int .i64 0, .int .i64 0, .int .i64 0, .slice none 0 0, .slice none 0 0, .slice none 0 0, .int .i64 0, .int .i64 0] 93)).alloc (.cells #[.int .i64 0, .int .i64 0, .int .i64 0, .slice none 0 0, .slice none 0 0, .slice none 0 0, .int .i64 0] 91)) := below3 _ _ _ _
  have hWs : (((w.alloc (.cells #[.slice a1 ss.length k1, .slice a2 fs.length k2] 26)).alloc (.cells #[.int .i64 0, .int .i64 0, .int .i64 0, .slice none 0 0, .slice none 0 0, .slice none 0 0, .int .i64 0, .int .i64 0] 93)).alloc (.cells #[.int .i64 0, .int .i64 0, .int .i64 0, .slice none 0 0, .slice none 0 0, .slice none 0 0, .int .i64 0] 91)).heap.size = w.heap.size + 1 + 1 + 1 := by simp
  have HW0 := hid (show (((w.alloc (.cells #[.slice a1 ss.length k1, .slice a2 fs.length k2] 26)).alloc (.cells #[.int .i64 0, .int .i64 0, .int .i64 0, .slice none 0 0, .slice none 0 0, .slice none 0 0, .int .i64 0, .int .i64 0] 93)).alloc (.cells #[.int .i64 0, .int .i64 0, .int .i64 0, .slice none 0 0, .slice none 0 0, .slice none 0 0, .int .i64 0] 91)).heap[w.heap.size]? = some (.cells #[.slice a1 ss.length k1, .slice a2 fs.length k2] 26 (0, 0)) ∧ (((w.alloc (.cells #[.slice a1 ss.length k1, .slice a2 fs.length k2] 26)).alloc (.cells #[.int .i64 0, .int .i64 0, .int .i64 0, .slice none 0 0, .slice none 0 0, .slice none 0 0, .int .i64 0, .int .i64 0] 93)).alloc (.cells #[.int .i64 0, .int .i64 0, .int .i64 0, .slice none 0 0, .slice none 0 0, .slice none 0 0, .int .i64 0] 91)).heap[w.heap.size + 1]? = some (.cells #[.int .i64 0, .int .i64 0, .int .i64 0, .slice none 0 0, .slice none 0 0, .slice none 0 0, .int .i64 0, .int .i64 0] 93 (0, 0)) ∧ (((w.alloc (.cells #[.slice a1 ss.length k1, .slice a2 fs.length k2] 26)).alloc (.cells #[.int .i64 0, .int .i64 0, .int .i64 0, .slice none 0 0, .slice none 0 0, .slice none 0 0, .int .i64 0, .int .i64 0] 93)).alloc (.cells #[.int .i64 0, .int .i64 0, .int .i64 0, .slice none 0 0, .slice none 0 0, .slice none 0 0, .int .i64 0] 91)).heap[w.heap.size + 1 + 1]? = some (.cells #[.int .i64 0, .int .i64 0, .int .i64 0, .slice none 0 0, .slice none 0 0, .slice none 0 0, .int .i64 0] 91 (0, 0)) from new3 w _ _ _)
  have HBW := hid hbW
  have HEv := hid hE
  have HDW := hid hD
  have HDD := hid D
  have HFE := hid FE
  clear hD hE hbW D FE
  go_enter Tryz.func47, Tryz.ntmps47
  go_upto_region 2 with fail
  generalize (((w.alloc (.cells #[.slice a1 ss.length k1, .slice a2 fs.length k2] 26)).alloc (.cells #[.int .i64 0, .int .i64 0, .int .i64 0, .slice none 0 0, .slice none 0 0, .slice none 0 0, .int .i64 0, .int .i64 0] 93)).alloc (.cells #[.int .i64 0, .int .i64 0, .int .i64 0, .slice none 0 0, .slice none 0 0, .slice none 0 0, .int .i64 0] 91)) = W at *
  go_wp2_with fail
  go_loopw [6] (fun i wr => ∃ (k : Nat) (S' : St) (x3 x4 x5 : Option Addr) (y3 y4 y5 : Nat), k ≤ es.length ∧ i = .int .i64 k ∧ (wr.heap[w.heap.size]? = some (.cells #[.slice a1 ss.length k1, .slice a2 fs.length k2] 26 (0, 0)) ∧ wr.heap[w.heap.size + 1]? = some (.cells #[.int .i64 0, .int .i64 0, .int .i64 0, .slice none 0 0, .slice none 0 0, .slice none 0 0, .int .i64 0, .int .i64 0] 93 (0, 0)) ∧ wr.heap[w.heap.size + 1 + 1]? = some (.cells #[.int .i64 S'.status, .int .i64 S'.begun, .int .i64 S'.last, .slice x3 S'.wait.length y3, .slice x4 S'.busy.length y4, .slice x5 S'.vars.length y5, .int .i64 S'.faults] 91 (0, 0))) ∧ StOwn wr w.heap.size (.slice x3 S'.wait.length y3) (.slice x4 S'.busy.length y4) (.slice x5 S'.vars.length y5) S' ∧ StP ss S' ∧ ofS ss fs (es.take k) z0 = (0, S') ∧ Below w.heap.size w wr) (fun i _ => es.length - (intOf i).toNat)
  case atStart => exact ⟨0, z0, none, none, none, 0, 0, 0, Nat.zero_le _, rfl, HW0.out, StOwn.none _ _, z0_right ss, rfl, HBW.out⟩
  case round =>
    obtain ⟨k, S', x3, x4, x5, y3, y4, y5, hk, rfl, ⟨hd, hr, ht⟩, hO, hP', hof, hbr⟩ := hrel
    have HO := hid hO
    have HP' := hid hP'
    have HOF := hid hof
    have HBr := hid hbr
    have hzr := hbr.size
    have hlt2 := lt_heap ht
    have HD := hid hd
    have HR := hid hr
    have HT := hid ht
    clear hO hP' hof hbr hd hr ht
    by_cases hlt : k < es.length
    · obtain ⟨g, o, ha, hQ⟩ := HEv.out.row (by omega)
      subst ha
      have hgl := hQ.1
      have HQ := hid (hQ.stay HBr.out (Nat.le_refl _))
      obtain ⟨q0, q1, q2, q3, q4, q5⟩ := HQ.out.2 k hlt
      have hfe := HFE.out k hlt
      have HSTEP := hid (fun hc => ofS_step HOF.out hlt hc)
      have HSTOP := hid (fun hc => ofS_stop HOF.out hlt hc)
      have HQk := hid (fun (X : World) (hX : Below wr.heap.size wr X) => (HQ.out.stay hX (Nat.le_refl _)).2 k hlt)
      generalize es[k] = e at *
      clear hQ
      obtain ⟨eq, et, er, ek, es0, ev⟩ := e
      simp only at q0 q1 q2 q3 q4 q5 hfe
      have cE := hid (specEventRight_any eq et er ek es0 ev wr hfe)
      generalize hev : evB ⟨eq, et, er, ek, es0, ev⟩ = B2 at *
      go_wp2_with fail
      refine cE.out.mono ?_
      rintro x U ⟨rfl, hbU⟩
      have HBU := hid (HBr.out.trans (hbU.mono hzr))
      have hzU := hbU.size
      have HDu := hid ((hbU.block _ (lt_heap HD.out)).trans HD.out)
      have HRu := hid ((hbU.block _ (lt_heap HR.out)).trans HR.out)
      have HTu := hid ((hbU.block _ (lt_heap HT.out)).trans HT.out)
      have HOu := hid (HO.out.stay hbU)
      have HQu := hid (fun (X : World) (hX : Below U.heap.size U X) => HQk.out X (hbU.trans (hX.mono hbU.size)))
      clear hbU cE q0 q1 q2 q3 q4 q5 HD HR HT HO HQk
      cases B2 with
      | false =>
        have hcE : (evS ss fs S' ⟨eq, et, er, ek, es0, ev⟩) = (1, z0) := evS_bad hev
        have HFIN := hid (show ofS ss fs es z0 = (1, z0) by have h := HSTOP.out (by rw [hcE]; decide); rwa [hcE] at h)
        clear hcE hev HSTEP HSTOP
        have r0 : U.cell? ⟨w.heap.size + 1, 0, none⟩ = some (.int .i64 0) := by rw [Lib.cell_of_heap HRu.out]; rfl
        have r1 : U.cell? ⟨w.heap.size + 1, 1, none⟩ = some (.int .i64 0) := by rw [Lib.cell_of_heap HRu.out]; rfl
        have r2 : U.cell? ⟨w.heap.size + 1, 2, none⟩ = some (.int .i64 0) := by rw [Lib.cell_of_heap HRu.out]; rfl
        have r3 : U.cell? ⟨w.heap.size + 1, 3, none⟩ = some (.slice none 0 0) := by rw [Lib.cell_of_heap HRu.out]; rfl
        have r4 : U.cell? ⟨w.heap.size + 1, 4, none⟩ = some (.slice none 0 0) := by rw [Lib.cell_of_heap HRu.out]; rfl
        have r5 : U.cell? ⟨w.heap.size + 1, 5, none⟩ = some (.slice none 0 0) := by rw [Lib.cell_of_heap HRu.out]; rfl
        have r6 : U.cell? ⟨w.heap.size + 1, 6, none⟩ = some (.int .i64 0) := by rw [Lib.cell_of_heap HRu.out]; rfl
        have r7 : U.cell? ⟨w.heap.size + 1, 7, none⟩ = some (.int .i64 0) := by rw [Lib.cell_of_heap HRu.out]; rfl
        have rf := Lib.frozen_of_heap HRu.out
        go_wp2_with fail
        have hCR : Chg (fun j => j = w.heap.size + 1) U ((((((((U.setCell ⟨w.heap.size + 1, 0, none⟩ (.int .i64 0)).setCell ⟨w.heap.size + 1, 1, none⟩ (.int .i64 0)).setCell ⟨w.heap.size + 1, 2, none⟩ (.int .i64 0)).setCell ⟨w.heap.size + 1, 3, none⟩ (.slice none 0 0)).setCell ⟨w.heap.size + 1, 4, none⟩ (.slice none 0 0)).setCell ⟨w.heap.size + 1, 5, none⟩ (.slice none 0 0)).setCell ⟨w.heap.size + 1, 6, none⟩ (.int .i64 0)).setCell ⟨w.heap.size + 1, 7, none⟩ (.int .i64 1)) := (((((((chg_set _ _ _ _).trans (chg_set _ _ _ _)).trans (chg_set _ _ _ _)).trans (chg_set _ _ _ _)).trans (chg_set _ _ _ _)).trans (chg_set _ _ _ _)).trans (chg_set _ _ _ _)).trans (chg_set _ _ _ _)
        refine bodyPost_ret (v := outV 1 z0 (.slice none 0 0) (.slice none 0 0) (.slice none 0 0)) (by simp [results, Tryz.results47, go_sem, outV, z0, r0, r1, r2, r3, r4, r5, r6, r7]) rfl ?_
        show StepPost _ _ (ofS ss fs es z0).1 (ofS ss fs es z0).2 _ _
        rw [HFIN.out]
        exact ⟨_, _, _, rfl, StOwn.none _ _, HBU.out.trans (hCR.below (by omega) (fun j (h : j = _) => by omega))⟩
      | true =>
        have hcE : evS ss fs S' ⟨eq, et, er, ek, es0, ev⟩ = stepS ss fs S' ⟨eq, et, er, ek, es0, ev⟩ := evS_ok hev
        have sm := stP_small HP'.out
        have HRT := hid (fun hc => evS_right (e := ⟨eq, et, er, ek, es0, ev⟩) HDD.out HP'.out hc)
        have HNO := hid (fun hc => evS_no (ss := ss) (fs := fs) (S := S') (e := ⟨eq, et, er, ek, es0, ev⟩) hc)
        have cS := hid (fun (X : World) (hX : Below U.heap.size U X) => l03Step_any a1 a2 x3 x4 x5 k1 k2 y3 y4 y5 ss fs S' ⟨eq, et, er, ek, es0, ev⟩ X (HDW.out.stay (HBU.out.trans (hX.mono HBU.out.size))) (HOu.out.stay hX).slT (by have := HDD.out.1.n1; omega) HDD.out.2.m (by omega) (by omega) (by omega) sm.2.2.2 (ev_kind hev))
        rw [← hcE] at cS
        clear hcE hev sm
        unfold evV at cS
        generalize hcs : evS ss fs S' ⟨eq, et, er, ek, es0, ev⟩ = csx at *
        clear hcs
        obtain ⟨c, S2⟩ := csx
        simp only at cS HRT HNO HSTEP HSTOP
        have d0 : U.cell? ⟨w.heap.size, 0, none⟩ = some (.slice a1 ss.length k1) := by rw [Lib.cell_of_heap HDu.out]; rfl
        have d1 : U.cell? ⟨w.heap.size, 1, none⟩ = some (.slice a2 fs.length k2) := by rw [Lib.cell_of_heap HDu.out]; rfl
        have t0 : U.cell? ⟨w.heap.size + 1 + 1, 0, none⟩ = some (.int .i64 S'.status) := by rw [Lib.cell_of_heap HTu.out]; rfl
        have t1 : U.cell? ⟨w.heap.size + 1 + 1, 1, none⟩ = some (.int .i64 S'.begun) := by rw [Lib.cell_of_heap HTu.out]; rfl
        have t2 : U.cell? ⟨w.heap.size + 1 + 1, 2, none⟩ = some (.int .i64 S'.last) := by rw [Lib.cell_of_heap HTu.out]; rfl
        have t3 : U.cell? ⟨w.heap.size + 1 + 1, 3, none⟩ = some (.slice x3 S'.wait.length y3) := by rw [Lib.cell_of_heap HTu.out]; rfl
        have t4 : U.cell? ⟨w.heap.size + 1 + 1, 4, none⟩ = some (.slice x4 S'.busy.length y4) := by rw [Lib.cell_of_heap HTu.out]; rfl
        have t5 : U.cell? ⟨w.heap.size + 1 + 1, 5, none⟩ = some (.slice x5 S'.vars.length y5) := by rw [Lib.cell_of_heap HTu.out]; rfl
        have t6 : U.cell? ⟨w.heap.size + 1 + 1, 6, none⟩ = some (.int .i64 S'.faults) := by rw [Lib.cell_of_heap HTu.out]; rfl
        have tf := Lib.frozen_of_heap HTu.out
        obtain ⟨q0, q1, q2, q3, q4, q5⟩ := HQu.out U (Below.refl _ _)
        simp only at q0 q1 q2 q3 q4 q5
        have hbd : Below U.heap.size U U.drew := (Below.refl _ _).drew
        have hbdA : Below U.heap.size U (U.alloc (.cells #[.int .i64 0, .int .i64 0, .int .i64 0, .slice none 0 0, .slice none 0 0, .slice none 0 0, .int .i64 0, .int .i64 0] 93)).drew := ((Below.refl _ _).alloc (Nat.le_refl _) _).drew
        have nd : ¬ w.heap.size = U.heap.size := by omega
        have nb : ¬ w.heap.size + 1 + 1 = U.heap.size := by omega
        have ng : ¬ g = U.heap.size := by omega
        have md : ¬ U.heap.size = w.heap.size := by omega
        have mb : ¬ U.heap.size = w.heap.size + 1 + 1 := by omega
        have mg : ¬ U.heap.size = g := by omega
        have ld : w.heap.size < U.heap.size := by omega
        have lb : w.heap.size + 1 + 1 < U.heap.size := by omega
        have lg : g < U.heap.size := by omega
        go_upto_region 7 with fail
        go_cut [7] from 22 to 28 (fun s wx => ∃ (b : Nat) (x3q x4q x5q : Option Addr) (y3q y4q y5q : Nat), s = .pointer (some ⟨b, 0, none⟩) ∧ wx.heap[b]? = some (.cells #[.int .i64 S2.status, .int .i64 S2.begun, .int .i64 S2.last, .slice x3q S2.wait.length y3q, .slice x4q S2.busy.length y4q, .slice x5q S2.vars.length y5q, .int .i64 S2.faults, .int .i64 c] 93 (0, 0)) ∧ U.heap.size ≤ b ∧ StOwn wx U.heap.size (.slice x3q S2.wait.length y3q) (.slice x4q S2.busy.length y4q) (.slice x5q S2.vars.length y5q) S2 ∧ Below U.heap.size U wx)
        case first =>
          go_region_held3 (fun w' => w'.cell? ⟨w.heap.size, 0, none⟩ = some (.slice a1 ss.length k1) ∧ w'.cell? ⟨w.heap.size, 1, none⟩ = some (.slice a2 fs.length k2) ∧ w'.cell? ⟨w.heap.size + 1 + 1, 0, none⟩ = some (.int .i64 S'.status) ∧ w'.cell? ⟨w.heap.size + 1 + 1, 1, none⟩ = some (.int .i64 S'.begun) ∧ w'.cell? ⟨w.heap.size + 1 + 1, 2, none⟩ = some (.int .i64 S'.last) ∧ w'.cell? ⟨w.heap.size + 1 + 1, 3, none⟩ = some (.slice x3 S'.wait.length y3) ∧ w'.cell? ⟨w.heap.size + 1 + 1, 4, none⟩ = some (.slice x4 S'.busy.length y4) ∧ w'.cell? ⟨w.heap.size + 1 + 1, 5, none⟩ = some (.slice x5 S'.vars.length y5) ∧ w'.cell? ⟨w.heap.size + 1 + 1, 6, none⟩ = some (.int .i64 S'.faults) ∧ w'.cell? ⟨g, o + k * 6, none⟩ = some (.int .i64 eq) ∧ w'.cell? ⟨g, o + k * 6 + 1, none⟩ = some (.int .i64 et) ∧ w'.cell? ⟨g, o + k * 6 + 2, none⟩ = some (.int .i64 er) ∧ w'.cell? ⟨g, o + k * 6 + 3, none⟩ = some (.int .i64 ek) ∧ w'.cell? ⟨g, o + k * 6 + 4, none⟩ = some (.string es0) ∧ w'.cell? ⟨g, o + k * 6 + 5, none⟩ = some (.string ev)) (go_keep) (first | (go_at_call 50; refine (cS.out _ (by first | exact hbd | exact hbdA)).mono ?_; rintro x V ⟨z3, z4, z5, rfl, hOq, hq⟩; have hbV : Below U.heap.size U V := (by first | exact hbd.trans (hq.mono hbd.size) | exact hbdA.trans (hq.mono hbdA.size)); obtain ⟨x3q, x4q, x5q, y3q, y4q, y5q, rfl, rfl, rfl⟩ := hOq.forms; unfold outV; have vd0 := (hbV.cell (p := ⟨w.heap.size, 0, none⟩) ld).trans d0; have vd1 := (hbV.cell (p := ⟨w.heap.size, 1, none⟩) ld).trans d1; have vt0 := (hbV.cell (p := ⟨w.heap.size + 1 + 1, 0, none⟩) lb).trans t0; have vt1 := (hbV.cell (p := ⟨w.heap.size + 1 + 1, 1, none⟩) lb).trans t1; have vt2 := (hbV.cell (p := ⟨w.heap.size + 1 + 1, 2, none⟩) lb).trans t2; have vt3 := (hbV.cell (p := ⟨w.heap.size + 1 + 1, 3, none⟩) lb).trans t3; have vt4 := (hbV.cell (p := ⟨w.heap.size + 1 + 1, 4, none⟩) lb).trans t4; have vt5 := (hbV.cell (p := ⟨w.heap.size + 1 + 1, 5, none⟩) lb).trans t5; have vt6 := (hbV.cell (p := ⟨w.heap.size + 1 + 1, 6, none⟩) lb).trans t6; have vq0 := (hbV.cell (p := ⟨g, o + k * 6, none⟩) lg).trans q0; have vq1 := (hbV.cell (p := ⟨g, o + k * 6 + 1, none⟩) lg).trans q1; have vq2 := (hbV.cell (p := ⟨g, o + k * 6 + 2, none⟩) lg).trans q2; have vq3 := (hbV.cell (p := ⟨g, o + k * 6 + 3, none⟩) lg).trans q3; have vq4 := (hbV.cell (p := ⟨g, o + k * 6 + 4, none⟩) lg).trans q4; have vq5 := (hbV.cell (p := ⟨g, o + k * 6 + 5, none⟩) lg).trans q5; (first | (have zz := (hq.block U.heap.size (by simp)).trans (heap_alloc_new U _); have s0 : V.cell? ⟨_, 0, none⟩ = some (.int .i64 0) := (by rw [Lib.cell_of_heap zz]; rfl); have s1 : V.cell? ⟨_, 1, none⟩ = some (.int .i64 0) := (by rw [Lib.cell_of_heap zz]; rfl); have s2 : V.cell? ⟨_, 2, none⟩ = some (.int .i64 0) := (by rw [Lib.cell_of_heap zz]; rfl); have s3 : V.cell? ⟨_, 3, none⟩ = some (.slice none 0 0) := (by rw [Lib.cell_of_heap zz]; rfl); have s4 : V.cell? ⟨_, 4, none⟩ = some (.slice none 0 0) := (by rw [Lib.cell_of_heap zz]; rfl); have s5 : V.cell? ⟨_, 5, none⟩ = some (.slice none 0 0) := (by rw [Lib.cell_of_heap zz]; rfl); have s6 : V.cell? ⟨_, 6, none⟩ = some (.int .i64 0) := (by rw [Lib.cell_of_heap zz]; rfl); have s7 : V.cell? ⟨_, 7, none⟩ = some (.int .i64 0) := (by rw [Lib.cell_of_heap zz]; rfl); have sf := Lib.frozen_of_heap zz) | skip)))
          all_goals go_wp2_with fail
          all_goals go_meet
          · exact ⟨V.heap.size, x3q, x4q, x5q, y3q, y4q, y5q, rfl, heap_alloc_new V _, hbV.size, (hOq.stay ((Below.refl _ _).alloc (Nat.le_refl _) _)).le hbd.size, hbV.trans (((Below.refl _ _).alloc (Nat.le_refl _) _).mono hbV.size)⟩
          · have hst := stor8 zz (.int .i64 S2.status) (.int .i64 S2.begun) (.int .i64 S2.last) (.slice x3q S2.wait.length y3q) (.slice x4q S2.busy.length y4q) (.slice x5q S2.vars.length y5q) (.int .i64 S2.faults) (.int .i64 c)
            exact ⟨_, x3q, x4q, x5q, y3q, y4q, y5q, rfl, hst.1, Nat.le_refl _, (hOq.turn hst.2 zz (by decide) (by decide)).le hbdA.size, hbV.trans (hst.2.below hbV.size (fun j h => by have e : j = _ := h; subst e; exact Nat.le_refl _))⟩
        case rest =>
          obtain ⟨b, x3q, x4q, x5q, y3q, y4q, y5q, rfl, hkb, hlb, hOq, hbV⟩ := hcut
          rename World => V
          have HBV := hid (HBU.out.trans (hbV.mono HBU.out.size))
          have hzV := hbV.size
          have hlb2 := lt_heap hkb
          have HDv := hid ((hbV.block _ (lt_heap HDu.out)).trans HDu.out)
          have HRv := hid ((hbV.block _ (lt_heap HRu.out)).trans HRu.out)
          have HTv := hid ((hbV.block _ (lt_heap HTu.out)).trans HTu.out)
          have HOq := hid hOq
          have HKb := hid hkb
          clear hOq hkb hbV hbd hbdA cS ld lb lg d0 d1 t0 t1 t2 t3 t4 t5 t6 tf q0 q1 q2 q3 q4 q5 nd nb ng md mb mg HDu HRu HTu HOu
          have k0 : V.cell? ⟨b, 0, none⟩ = some (.int .i64 S2.status) := by rw [Lib.cell_of_heap HKb.out]; rfl
          have k1 : V.cell? ⟨b, 1, none⟩ = some (.int .i64 S2.begun) := by rw [Lib.cell_of_heap HKb.out]; rfl
          have k2 : V.cell? ⟨b, 2, none⟩ = some (.int .i64 S2.last) := by rw [Lib.cell_of_heap HKb.out]; rfl
          have k3 : V.cell? ⟨b, 3, none⟩ = some (.slice x3q S2.wait.length y3q) := by rw [Lib.cell_of_heap HKb.out]; rfl
          have k4 : V.cell? ⟨b, 4, none⟩ = some (.slice x4q S2.busy.length y4q) := by rw [Lib.cell_of_heap HKb.out]; rfl
          have k5 : V.cell? ⟨b, 5, none⟩ = some (.slice x5q S2.vars.length y5q) := by rw [Lib.cell_of_heap HKb.out]; rfl
          have k6 : V.cell? ⟨b, 6, none⟩ = some (.int .i64 S2.faults) := by rw [Lib.cell_of_heap HKb.out]; rfl
          have k7 : V.cell? ⟨b, 7, none⟩ = some (.int .i64 c) := by rw [Lib.cell_of_heap HKb.out]; rfl
          by_cases hc : c = 0
          · subst hc
            have t0 : V.cell? ⟨w.heap.size + 1 + 1, 0, none⟩ = some (.int .i64 S'.status) := by rw [Lib.cell_of_heap HTv.out]; rfl
            have t1 : V.cell? ⟨w.heap.size + 1 + 1, 1, none⟩ = some (.int .i64 S'.begun) := by rw [Lib.cell_of_heap HTv.out]; rfl
            have t2 : V.cell? ⟨w.heap.size + 1 + 1, 2, none⟩ = some (.int .i64 S'.last) := by rw [Lib.cell_of_heap HTv.out]; rfl
            have t3 : V.cell? ⟨w.heap.size + 1 + 1, 3, none⟩ = some (.slice x3 S'.wait.length y3) := by rw [Lib.cell_of_heap HTv.out]; rfl
            have t4 : V.cell? ⟨w.heap.size + 1 + 1, 4, none⟩ = some (.slice x4 S'.busy.length y4) := by rw [Lib.cell_of_heap HTv.out]; rfl
            have t5 : V.cell? ⟨w.heap.size + 1 + 1, 5, none⟩ = some (.slice x5 S'.vars.length y5) := by rw [Lib.cell_of_heap HTv.out]; rfl
            have t6 : V.cell? ⟨w.heap.size + 1 + 1, 6, none⟩ = some (.int .i64 S'.faults) := by rw [Lib.cell_of_heap HTv.out]; rfl
            have tf := Lib.frozen_of_heap HTv.out
            have nbb : ¬ b = w.heap.size + 1 + 1 := by omega
            have nbc : ¬ w.heap.size + 1 + 1 = b := by omega
            go_wp2_with fail
            have hCT : Chg (fun j => j = w.heap.size + 1 + 1) V (((((((V.setCell ⟨w.heap.size + 1 + 1, 0, none⟩ (.int .i64 S2.status)).setCell ⟨w.heap.size + 1 + 1, 1, none⟩ (.int .i64 S2.begun)).setCell ⟨w.heap.size + 1 + 1, 2, none⟩ (.int .i64 S2.last)).setCell ⟨w.heap.size + 1 + 1, 3, none⟩ (.slice x3q S2.wait.length y3q)).setCell ⟨w.heap.size + 1 + 1, 4, none⟩ (.slice x4q S2.busy.length y4q)).setCell ⟨w.heap.size + 1 + 1, 5, none⟩ (.slice x5q S2.vars.length y5q)).setCell ⟨w.heap.size + 1 + 1, 6, none⟩ (.int .i64 S2.faults)) := ((((((chg_set _ _ _ _).trans (chg_set _ _ _ _)).trans (chg_set _ _ _ _)).trans (chg_set _ _ _ _)).trans (chg_set _ _ _ _)).trans (chg_set _ _ _ _)).trans (chg_set _ _ _ _)
            have hT7 := (stor7 HTv.out (.int .i64 S2.status) (.int .i64 S2.begun) (.int .i64 S2.last) (.slice x3q S2.wait.length y3q) (.slice x4q S2.busy.length y4q) (.slice x5q S2.vars.length y5q) (.int .i64 S2.faults)).1
            go_roundw
            case rel => exact ⟨k + 1, S2, x3q, x4q, x5q, y3q, y4q, y5q, by omega, by go_num, ⟨(hCT.block _ (lt_heap HDv.out) (fun h => by have e : _ = _ := h; omega)).trans HDv.out, (hCT.block _ (lt_heap HRv.out) (fun h => by have e : _ = _ := h; omega)).trans HRv.out, hT7⟩, (HOq.out.turn hCT HTv.out (by decide) (by decide)).le (by omega), HRT.out rfl, HSTEP.out rfl, HBV.out.trans (hCT.below (by omega) (fun j (h : j = _) => by omega))⟩
            case measure => simp [intOf]; omega
          · have hcb : (c != 0) = true := by simp [hc]
            have HFIN := hid (show ofS ss fs es z0 = (c, S2) by rw [HSTOP.out hc, HNO.out hc])
            have nbb : ¬ b = w.heap.size + 1 := by omega
            have nbc : ¬ w.heap.size + 1 = b := by omega
            have r0 : V.cell? ⟨w.heap.size + 1, 0, none⟩ = some (.int .i64 0) := by rw [Lib.cell_of_heap HRv.out]; rfl
            have r1 : V.cell? ⟨w.heap.size + 1, 1, none⟩ = some (.int .i64 0) := by rw [Lib.cell_of_heap HRv.out]; rfl
            have r2 : V.cell? ⟨w.heap.size + 1, 2, none⟩ = some (.int .i64 0) := by rw [Lib.cell_of_heap HRv.out]; rfl
            have r3 : V.cell? ⟨w.heap.size + 1, 3, none⟩ = some (.slice none 0 0) := by rw [Lib.cell_of_heap HRv.out]; rfl
            have r4 : V.cell? ⟨w.heap.size + 1, 4, none⟩ = some (.slice none 0 0) := by rw [Lib.cell_of_heap HRv.out]; rfl
            have r5 : V.cell? ⟨w.heap.size + 1, 5, none⟩ = some (.slice none 0 0) := by rw [Lib.cell_of_heap HRv.out]; rfl
            have r6 : V.cell? ⟨w.heap.size + 1, 6, none⟩ = some (.int .i64 0) := by rw [Lib.cell_of_heap HRv.out]; rfl
            have r7 : V.cell? ⟨w.heap.size + 1, 7, none⟩ = some (.int .i64 0) := by rw [Lib.cell_of_heap HRv.out]; rfl
            have rf := Lib.frozen_of_heap HRv.out
            go_wp2_with fail
            have hCR : Chg (fun j => j = w.heap.size + 1) V ((((((((V.setCell ⟨w.heap.size + 1, 0, none⟩ (.int .i64 S2.status)).setCell ⟨w.heap.size + 1, 1, none⟩ (.int .i64 S2.begun)).setCell ⟨w.heap.size + 1, 2, none⟩ (.int .i64 S2.last)).setCell ⟨w.heap.size + 1, 3, none⟩ (.slice x3q S2.wait.length y3q)).setCell ⟨w.heap.size + 1, 4, none⟩ (.slice x4q S2.busy.length y4q)).setCell ⟨w.heap.size + 1, 5, none⟩ (.slice x5q S2.vars.length y5q)).setCell ⟨w.heap.size + 1, 6, none⟩ (.int .i64 S2.faults)).setCell ⟨w.heap.size + 1, 7, none⟩ (.int .i64 c)) := (((((((chg_set _ _ _ _).trans (chg_set _ _ _ _)).trans (chg_set _ _ _ _)).trans (chg_set _ _ _ _)).trans (chg_set _ _ _ _)).trans (chg_set _ _ _ _)).trans (chg_set _ _ _ _)).trans (chg_set _ _ _ _)
            refine bodyPost_ret (v := outV c S2 (.slice x3q S2.wait.length y3q) (.slice x4q S2.busy.length y4q) (.slice x5q S2.vars.length y5q)) (by simp [results, Tryz.results47, go_sem, outV, r0, r1, r2, r3, r4, r5, r6, r7]) rfl ?_
            show StepPost _ _ (ofS ss fs es z0).1 (ofS ss fs es z0).2 _ _
            rw [HFIN.out]
            exact ⟨_, _, _, rfl, (HOq.out.turn hCR HRv.out (by decide) (by decide)).le (by omega), HBV.out.trans (hCR.below (by omega) (fun j (h : j = _) => by omega))⟩
    · have hke : k = es.length := by omega
      have HFIN := hid (show ofS ss fs es z0 = (0, S') by have h := HOF.out; rwa [hke, List.take_of_length_le (Nat.le_refl _)] at h)
      clear hke
      have t0 : wr.cell? ⟨w.heap.size + 1 + 1, 0, none⟩ = some (.int .i64 S'.status) := by rw [Lib.cell_of_heap HT.out]; rfl
      have t1 : wr.cell? ⟨w.heap.size + 1 + 1, 1, none⟩ = some (.int .i64 S'.begun) := by rw [Lib.cell_of_heap HT.out]; rfl
      have t2 : wr.cell? ⟨w.heap.size + 1 + 1, 2, none⟩ = some (.int .i64 S'.last) := by rw [Lib.cell_of_heap HT.out]; rfl
      have t3 : wr.cell? ⟨w.heap.size + 1 + 1, 3, none⟩ = some (.slice x3 S'.wait.length y3) := by rw [Lib.cell_of_heap HT.out]; rfl
      have t4 : wr.cell? ⟨w.heap.size + 1 + 1, 4, none⟩ = some (.slice x4 S'.busy.length y4) := by rw [Lib.cell_of_heap HT.out]; rfl
      have t5 : wr.cell? ⟨w.heap.size + 1 + 1, 5, none⟩ = some (.slice x5 S'.vars.length y5) := by rw [Lib.cell_of_heap HT.out]; rfl
      have t6 : wr.cell? ⟨w.heap.size + 1 + 1, 6, none⟩ = some (.int .i64 S'.faults) := by rw [Lib.cell_of_heap HT.out]; rfl
      have tf := Lib.frozen_of_heap HT.out
      have r0 : wr.cell? ⟨w.heap.size + 1, 0, none⟩ = some (.int .i64 0) := by rw [Lib.cell_of_heap HR.out]; rfl
      have r1 : wr.cell? ⟨w.heap.size + 1, 1, none⟩ = some (.int .i64 0) := by rw [Lib.cell_of_heap HR.out]; rfl
      have r2 : wr.cell? ⟨w.heap.size + 1, 2, none⟩ = some (.int .i64 0) := by rw [Lib.cell_of_heap HR.out]; rfl
      have r3 : wr.cell? ⟨w.heap.size + 1, 3, none⟩ = some (.slice none 0 0) := by rw [Lib.cell_of_heap HR.out]; rfl
      have r4 : wr.cell? ⟨w.heap.size + 1, 4, none⟩ = some (.slice none 0 0) := by rw [Lib.cell_of_heap HR.out]; rfl
      have r5 : wr.cell? ⟨w.heap.size + 1, 5, none⟩ = some (.slice none 0 0) := by rw [Lib.cell_of_heap HR.out]; rfl
      have r6 : wr.cell? ⟨w.heap.size + 1, 6, none⟩ = some (.int .i64 0) := by rw [Lib.cell_of_heap HR.out]; rfl
      have r7 : wr.cell? ⟨w.heap.size + 1, 7, none⟩ = some (.int .i64 0) := by rw [Lib.cell_of_heap HR.out]; rfl
      have rf := Lib.frozen_of_heap HR.out
      go_wp2_with fail
      have hCR : Chg (fun j => j = w.heap.size + 1) wr ((((((((wr.setCell ⟨w.heap.size + 1, 0, none⟩ (.int .i64 S'.status)).setCell ⟨w.heap.size + 1, 1, none⟩ (.int .i64 S'.begun)).setCell ⟨w.heap.size + 1, 2, none⟩ (.int .i64 S'.last)).setCell ⟨w.heap.size + 1, 3, none⟩ (.slice x3 S'.wait.length y3)).setCell ⟨w.heap.size + 1, 4, none⟩ (.slice x4 S'.busy.length y4)).setCell ⟨w.heap.size + 1, 5, none⟩ (.slice x5 S'.vars.length y5)).setCell ⟨w.heap.size + 1, 6, none⟩ (.int .i64 S'.faults)).setCell ⟨w.heap.size + 1, 7, none⟩ (.int .i64 0)) := (((((((chg_set _ _ _ _).trans (chg_set _ _ _ _)).trans (chg_set _ _ _ _)).trans (chg_set _ _ _ _)).trans (chg_set _ _ _ _)).trans (chg_set _ _ _ _)).trans (chg_set _ _ _ _)).trans (chg_set _ _ _ _)
      refine bodyPost_ret (v := outV 0 S' (.slice x3 S'.wait.length y3) (.slice x4 S'.busy.length y4) (.slice x5 S'.vars.length y5)) (by simp [results, Tryz.results47, go_sem, outV, r0, r1, r2, r3, r4, r5, r6, r7]) rfl ?_
      show StepPost _ _ (ofS ss fs es z0).1 (ofS ss fs es z0).2 _ _
      rw [HFIN.out]
      exact ⟨_, _, _, rfl, HO.out.turn hCR HR.out (by decide) (by decide), HBr.out.trans (hCR.below (by omega) (fun j (h : j = _) => by omega))⟩
end Go.Proofs.YthggcdadipjiiaaGreatDoor
