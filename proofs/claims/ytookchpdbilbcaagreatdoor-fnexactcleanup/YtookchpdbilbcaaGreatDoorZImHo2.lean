/-
 Texts put together: ImHo, ImKp.
-/
import Derived.Test.YtookchpdbilbcaaGreatDoorZImGo
set_option maxRecDepth 100000
set_option maxHeartbeats 4000000
/-
 What impl.historyOf answers of a right history: a contract over the seat's program.
-/
namespace Go.Proofs.YtookchpdbilbcaaGreatDoor
open Go.RowKit Go.Sort Go.Maps
theorem ZFD (a b : List Ev) (r : Int) : ofRun (a ++ b) r = ofRun a r ++ ofRun b r := List.filter_append _ _
theorem RunsP.left {ss : List ByteArray} {fs : List Pr} {a b : List Ev} (h : RunsP ss fs (a ++ b)) : RunsP ss fs a := fun r => by
 have := h r
 rw [ZFD, ZAy] at this
 by_cases hc : (ofS ss fs (ofRun a r) z0).1 = 0
 ·exact hc
 ·rw [if_neg hc] at this; exact this
theorem RunsP.last {ss : List ByteArray} {fs : List Pr} {a : List Ev} {x : Ev} (h : RunsP ss fs (a ++ [x])) : (evS ss fs (runS ss fs a x.run) x).1 = 0 := by
 have h1 := h x.run
 rw [ZB4, if_pos rfl, ZGA x (h.left x.run)] at h1
 exact h1
theorem RunsP.take {ss : List ByteArray} {fs : List Pr} {es : List Ev} (h : RunsP ss fs es) (k : Nat) : RunsP ss fs (es.take k) := by
 rw [← List.take_append_drop k es] at h
 exact h.left
theorem RunsP.at_ {ss : List ByteArray} {fs : List Pr} {es : List Ev} (h : RunsP ss fs es) {k : Nat} (hk : k < es.length) : (evS ss fs (runS ss fs (es.take k) es[k].run) es[k]).1 = 0 := by
 have := h.take (k + 1)
 rw [List.take_succ_eq_append_getElem hk] at this
 exact this.last
theorem ZDo {ss : List ByteArray} {fs : List Pr} {S : St} {e : Ev} (h : (evS ss fs S e).1 = 0) : evB e = true := by
 by_cases hb : evB e = true
 ·exact hb
 ·unfold evS at h
  rw [if_neg hb] at h
  cases h
theorem alloc4 (w : World) (o1 o2 o3 o4 : Obj) : Below w.heap.size w ((((w.alloc o1).alloc o2).alloc o3).alloc o4) ∧ ((((w.alloc o1).alloc o2).alloc o3).alloc o4).heap[w.heap.size]? = some o1 ∧ ((((w.alloc o1).alloc o2).alloc o3).alloc o4).heap[w.heap.size + 1]? = some o2 ∧ ((((w.alloc o1).alloc o2).alloc o3).alloc o4).heap[w.heap.size + 1 + 1 + 1]? = some o4 ∧ ((((w.alloc o1).alloc o2).alloc o3).alloc o4).heap.size = w.heap.size + 1 + 1 + 1 + 1 := by
 refine ⟨below4 _ _ _ _ _, ?_, ?_, ?_, by simp⟩
 ·exact (Below.heap_alloc _ _ _ (by first | (simp; done) | (simp; omega))).trans ((Below.heap_alloc _ _ _ (by first | (simp; done) | (simp; omega))).trans ((Below.heap_alloc _ _ _ (by simp)).trans (World.alloc_heap_new w o1)))
 ·have h := World.alloc_heap_new (w.alloc o1) o2
  rw [World.size_alloc] at h
  exact (Below.heap_alloc _ _ _ (by first | (simp; done) | (simp; omega))).trans ((Below.heap_alloc _ _ _ (by simp)).trans h)
 ·have h := World.alloc_heap_new (((w.alloc o1).alloc o2).alloc o3) o4
  rw [World.size_alloc, World.size_alloc, World.size_alloc] at h
  exact h
theorem EvSl.at_ {w : World} {a : Option Addr} {c : Nat} {es : List Ev} (h : EvSl w (.slice a es.length c) es) {k : Nat} (hk : k < es.length) : ∃ g o, a = some ⟨g, o, none⟩ ∧ EvAt w g (o + k * 6) es[k] := by
 rcases h with ⟨_, _, _, e⟩ | ⟨g, o, c, e, _, h⟩
 ·subst e; exact absurd hk (by simp)
 ·injection e with e _ _
  exact ⟨g, o, e, h.2 k hk⟩
theorem wf_run {e : Ev} (h : evB e = true) : (Lit.int .i64 e.run).wf = true := by
 unfold evB numB at h
 simp at h
 exact WalkArith.wf_i64 (by omega)
theorem ZET (a1 a2 a6 : Option Addr) (k1 k2 k6 : Nat) (ss : List ByteArray) (fs : List Pr) (es : List Ev) (w : World) (e0 e1 e2 e3 e4 : Addr) (hD : DefSl w a1 a2 k1 k2 ss fs) (hE : EvSl w (.slice a6 es.length k6) es) (hEr : ErrsAt w e0 e1 e2 e3 e4) (hP : HistP ss fs es)
  (F1 : ∀ i, (h : i < ss.length) → ss[i].size ≤ maxLen) (F2 : FitP fs) (FE : ∀ i, (h : i < es.length) → es[i].step.size ≤ maxLen) :
  Calls Tryz.prog 69 #[.agg #[.slice a1 ss.length k1, .slice a2 fs.length k2], .slice a6 es.length k6] w fun x w' => ∃ u bm, x = .returned (.agg #[.slice a1 ss.length k1, .slice a2 fs.length k2, u, .map (some bm)]) ∧ w'.ownsRow w.heap.size 57 6 u es.length (es.flatMap Ev.cells) ∧ StMap w' bm es.length ss fs es ∧ w.heap.size ≤ bm ∧ Below w.heap.size w w' := by
 have hmm := @run_makeMap Tryz.prog
 obtain ⟨hbW, _, hRW, hHW, hzW⟩ := alloc4 w (.cells #[.slice a1 ss.length k1, .slice a2 fs.length k2] 33) (.cells #[.slice none 0 0, .slice none 0 0, .slice none 0 0, .map none] 92) (.map #[] 0) (.cells #[.slice a1 ss.length k1, .slice a2 fs.length k2, .slice none 0 0, .map (some (w.heap.size + 1 + 1))] 92)
 have hMW : ((((w.alloc (.cells #[.slice a1 ss.length k1, .slice a2 fs.length k2] 33)).alloc (.cells #[.slice none 0 0, .slice none 0 0, .slice none 0 0, .map none] 92)).alloc (.map #[] 0)).alloc (.cells #[.slice a1 ss.length k1, .slice a2 fs.length k2, .slice none 0 0, .map (some (w.heap.size + 1 + 1))] 92)).ownsMap Tryz.prog 2 heldE (w.heap.size + 1 + 1) 0 (.map []) := by
  have h := World.ownsMap_made ((w.alloc (.cells #[.slice a1 ss.length k1, .slice a2 fs.length k2] 33)).alloc (.cells #[.slice none 0 0, .slice none 0 0, .slice none 0 0, .map none] 92)) Tryz.prog 2 heldE
  rw [World.size_alloc, World.size_alloc] at h
  exact h.alloc _
 have HH0 := hid (show His ((((w.alloc (.cells #[.slice a1 ss.length k1, .slice a2 fs.length k2] 33)).alloc (.cells #[.slice none 0 0, .slice none 0 0, .slice none 0 0, .map none] 92)).alloc (.map #[] 0)).alloc (.cells #[.slice a1 ss.length k1, .slice a2 fs.length k2, .slice none 0 0, .map (some (w.heap.size + 1 + 1))] 92)) w.heap.size (w.heap.size + 1 + 1 + 1) 92 (w.heap.size + 1 + 1) 0 a1 a2 k1 k2 (.slice none 0 0) [] ss fs [] from ⟨hHW, World.ownsRow_nil _ _ _ _, ⟨_, hMW, StOf.nil _ _ _⟩, by omega, by omega, by decide⟩)
 have HBW := hid hbW
 have HRW := hid hRW
 have HZW := hid hzW
 have HE := hid hE
 have HD := hid hD
 have HER := hid hEr
 have HP := hid hP
 have HR := hid hP.runs
 have hnn := hP.n
 clear hHW hMW hbW hRW hzW hE hD hEr hP
 go_enter Tryz.func69, Tryz.ntmps69
 go_upto_region 3 with fail
 generalize ((((w.alloc (.cells #[.slice a1 ss.length k1, .slice a2 fs.length k2] 33)).alloc (.cells #[.slice none 0 0, .slice none 0 0, .slice none 0 0, .map none] 92)).alloc (.map #[] 0)).alloc (.cells #[.slice a1 ss.length k1, .slice a2 fs.length k2, .slice none 0 0, .map (some (w.heap.size + 1 + 1))] 92)) = W at *
 go_loopw [13] (fun i wr => ∃ k : Nat, k ≤ es.length ∧ i = .int .i64 k ∧ (∃ u, His wr w.heap.size (w.heap.size + 1 + 1 + 1) 92 (w.heap.size + 1 + 1) k a1 a2 k1 k2 u [] ss fs (es.take k)) ∧ Below w.heap.size w wr ∧ wr.heap[w.heap.size + 1]? = some (.cells #[.slice none 0 0, .slice none 0 0, .slice none 0 0, .map none] 92 (0, 0))) (fun i _ => es.length - (intOf i).toNat)
 case atStart => exact ⟨0, Nat.zero_le _, rfl, ⟨_, HH0.out⟩, HBW.out, HRW.out⟩
 case round =>
  obtain ⟨k, hk, rfl, ⟨u, hH⟩, hbr, hRr⟩ := hrel
  have HH := hid hH
  have HBr := hid hbr
  have HRr := hid hRr
  clear hH hbr hRr HH0 HRW HBW
  by_cases hlt : k < es.length
  ·obtain ⟨g, o, rfl, c0, c1, c2, c3, c4, c5⟩ := (HE.out.stay HBr.out nL).at_ hlt
   have HC := hid (HR.out.at_ hlt)
   have HFk := hid (FE k hlt)
   have HTk := hid (List.take_succ_eq_append_getElem hlt)
   have HWf := hid (wf_run (ZDo HC.out))
   generalize es[k] = e at *
   obtain ⟨eq, et, er, ek, es0, ev⟩ := e
   dsimp only at *
   have hbx : Below wr.heap.size wr (wr.alloc (.cells #[.int .i64 eq, .int .i64 et, .int .i64 er, .int .i64 ek, .string es0, .string ev] 57)) := (bR _ _).alloc nL _
   have HHx := hid (HH.out.stay hbx)
   have HRx := hid ((hbx.block _ (ZAA HRr.out)).trans HRr.out)
   have HBx := hid (HBr.out.trans (hbx.mono HBr.out.size))
   clear hbx
   go_wp2_with fail
   refine (ZI2 w _ (w.heap.size + 1 + 1 + 1) 92 (w.heap.size + 1 + 1) k a1 a2 k1 k2 u [] ss fs (es.take k) ⟨eq, et, er, ek, es0, ev⟩ e0 e1 e2 e3 e4 HBx.out HHx.out HD.out HER.out HP.out.d (HR.out.take k) F1 F2 HFk.out HWf.out (by omega) (by simp; omega)).mono ?_
   rintro x V ⟨hx, hy, _, hc⟩
   rw [HC.out] at hx
   subst hx
   obtain ⟨u', hH'⟩ := hy HC.out
   rw [← HTk.out] at hH'
   have HV := hid hH'
   have HRv := hid ((hc.block _ (ZAA HRx.out) (fun h => by
    rcases h with h | h | h
    ·omega
    ·omega
    ·exact ZAL HHx.out.own HRx.out (by decide) _ h rfl)).trans HRx.out)
   have HBv := hid (HBx.out.trans (hc.below HBx.out.size (fun j h => (HHx.out.low j h).1)))
   clear hy hc hH' HHx HRx HBx HH HBr HRr c0 c1 c2 c3 c4 c5
   go_wp2
   go_roundw
   case rel => exact ⟨k + 1, by omega, by simp, ⟨u', HV.out⟩, HBv.out, HRv.out⟩
   case measure => simp [intOf]; omega
  ·obtain rfl : k = es.length := by omega
   obtain ⟨ua, uc, rfl⟩ := ZAD HH.out.own
   rw [List.take_length] at HH
   have d0 : wr.cell? ⟨w.heap.size + 1 + 1 + 1, 0, none⟩ = some (.slice a1 ss.length k1) := ce HH.out.blk rfl
   have d1 : wr.cell? ⟨w.heap.size + 1 + 1 + 1, 1, none⟩ = some (.slice a2 fs.length k2) := ce HH.out.blk rfl
   have d2 : wr.cell? ⟨w.heap.size + 1 + 1 + 1, 2, none⟩ = some (.slice ua es.length uc) := ce HH.out.blk rfl
   have d3 : wr.cell? ⟨w.heap.size + 1 + 1 + 1, 3, none⟩ = some (.map (some (w.heap.size + 1 + 1))) := ce HH.out.blk rfl
   have r0 : wr.cell? ⟨w.heap.size + 1, 0, none⟩ = some (.slice none 0 0) := ce HRr.out rfl
   have r1 : wr.cell? ⟨w.heap.size + 1, 1, none⟩ = some (.slice none 0 0) := ce HRr.out rfl
   have r2 : wr.cell? ⟨w.heap.size + 1, 2, none⟩ = some (.slice none 0 0) := ce HRr.out rfl
   have r3 : wr.cell? ⟨w.heap.size + 1, 3, none⟩ = some (.map none) := ce HRr.out rfl
   have rf := Lib.frozen_of_heap HRr.out
   have hF := (ZAG (L := [_, _, _, _]) (i := 3) (ZAG (L := [_, _, _, _]) (i := 2) (ZAG (L := [_, _, _, _]) (i := 1) (ZAG (L := [_, _, _, _]) (i := 0) HRr.out (.slice a1 ss.length k1)) (.slice a2 fs.length k2)) (.slice ua es.length uc)) (.map (some (w.heap.size + 1 + 1))))
   have hC := ((((Chg.of_grown (p := fun j => j = w.heap.size + 1) (ZAF wr (w.heap.size + 1) 0 (.slice a1 ss.length k1)) rfl).trans (Chg.of_grown (ZAF _ (w.heap.size + 1) 1 (.slice a2 fs.length k2)) rfl)).trans (Chg.of_grown (ZAF _ (w.heap.size + 1) 2 (.slice ua es.length uc)) rfl)).trans (Chg.of_grown (ZAF _ (w.heap.size + 1) 3 (.map (some (w.heap.size + 1 + 1)))) rfl))
   have q0 : ((((wr.setCell ⟨w.heap.size + 1, 0, none⟩ (.slice a1 ss.length k1)).setCell ⟨w.heap.size + 1, 1, none⟩ (.slice a2 fs.length k2)).setCell ⟨w.heap.size + 1, 2, none⟩ (.slice ua es.length uc)).setCell ⟨w.heap.size + 1, 3, none⟩ (.map (some (w.heap.size + 1 + 1)))).cell? ⟨w.heap.size + 1, 0, none⟩ = some (.slice a1 ss.length k1) := ce hF rfl
   have q1 : ((((wr.setCell ⟨w.heap.size + 1, 0, none⟩ (.slice a1 ss.length k1)).setCell ⟨w.heap.size + 1, 1, none⟩ (.slice a2 fs.length k2)).setCell ⟨w.heap.size + 1, 2, none⟩ (.slice ua es.length uc)).setCell ⟨w.heap.size + 1, 3, none⟩ (.map (some (w.heap.size + 1 + 1)))).cell? ⟨w.heap.size + 1, 1, none⟩ = some (.slice a2 fs.length k2) := ce hF rfl
   have q2 : ((((wr.setCell ⟨w.heap.size + 1, 0, none⟩ (.slice a1 ss.length k1)).setCell ⟨w.heap.size + 1, 1, none⟩ (.slice a2 fs.length k2)).setCell ⟨w.heap.size + 1, 2, none⟩ (.slice ua es.length uc)).setCell ⟨w.heap.size + 1, 3, none⟩ (.map (some (w.heap.size + 1 + 1)))).cell? ⟨w.heap.size + 1, 2, none⟩ = some (.slice ua es.length uc) := ce hF rfl
   have q3 : ((((wr.setCell ⟨w.heap.size + 1, 0, none⟩ (.slice a1 ss.length k1)).setCell ⟨w.heap.size + 1, 1, none⟩ (.slice a2 fs.length k2)).setCell ⟨w.heap.size + 1, 2, none⟩ (.slice ua es.length uc)).setCell ⟨w.heap.size + 1, 3, none⟩ (.map (some (w.heap.size + 1 + 1)))).cell? ⟨w.heap.size + 1, 3, none⟩ = some (.map (some (w.heap.size + 1 + 1))) := ce hF rfl
   have HF := hid hF
   have HC := hid hC
   clear hF hC
   go_wp2
   refine bodyPost_ret (v := .agg #[.slice a1 ss.length k1, .slice a2 fs.length k2, .slice ua es.length uc, .map (some (w.heap.size + 1 + 1))]) (by simp [results, Tryz.results69, go_sem, q0, q1, q2, q3]) rfl ⟨_, _, rfl, ?_, ?_, ?_, ?_⟩
   ·exact ZAJ HH.out.own HC.out (ZAL HH.out.own HRr.out (by decide))
   ·exact HH.out.map.chg HC.out (by omega) (KT.of_chg HC.out (fun g c t f hp he ht => by
     rw [show g = w.heap.size + 1 from hp, HRr.out] at he
     cases he
     rcases ht with ht | ht <;> exact absurd ht (by decide)))
   ·omega
   ·exact HBr.out.trans (HC.out.below HBr.out.size (fun j (h : j = _) => by omega))
end Go.Proofs.YtookchpdbilbcaaGreatDoor
/-
 What impl.keeperOf answers of a right Service: a contract over the seat's program. (Made by mkkp.py.)
-/
namespace Go.Proofs.YtookchpdbilbcaaGreatDoor
open Go.RowKit Go.Sort Go.Maps
structure KpS (z : Nat) (a1 a2 a6 : Option Addr) (k1 k2 k6 : Nat) (ss : List ByteArray) (fs : List Pr) (es : List Ev) (nx : Int) (V : World) (listed : Array Bool) (x2 x3 x4 x5 x6 x7 x8 x9 x10 x11 : Value) (X : World) : Prop where
 hb : Below V.heap.size V X
 p0 : listed.getD 0 false = true → x3 = .pointer (some ⟨z, 0, none⟩)
 p1 : listed.getD 1 false = true → x4 = .agg #[.slice a1 ss.length k1, .slice a2 fs.length k2]
 p2 : listed.getD 2 false = true → x5 = .pointer (some ⟨z, 2, none⟩)
 p3 : listed.getD 3 false = true → x6 = .slice a6 es.length k6
 p4 : listed.getD 4 false = true → (∃ u bm, x7 = .agg #[.slice a1 ss.length k1, .slice a2 fs.length k2, u, .map (some bm)] ∧ X.ownsRow V.heap.size 57 6 u es.length (es.flatMap Ev.cells) ∧ StMap X bm es.length ss fs es ∧ V.heap.size ≤ bm)
 p5 : listed.getD 5 false = true → x8 = .pointer (some ⟨z, 3, none⟩)
 p6 : listed.getD 6 false = true → x9 = .int .i64 nx
 p7 : listed.getD 7 false = true → (∃ u bm, x10 = .agg #[.slice a1 ss.length k1, .slice a2 fs.length k2, u, .map (some bm), .int .i64 nx] ∧ X.ownsRow V.heap.size 57 6 u es.length (es.flatMap Ev.cells) ∧ StMap X bm es.length ss fs es ∧ V.heap.size ≤ bm)
 p8 : listed.getD 8 false = true → (∃ g u bm, x11 = .pointer (some ⟨g, 0, none⟩) ∧ His X V.heap.size g 94 bm es.length a1 a2 k1 k2 u [.int .i64 nx] ss fs es)
 p9 : listed.getD 9 false = true → (∃ g u bm, x2 = .pointer (some ⟨g, 0, none⟩) ∧ His X V.heap.size g 94 bm es.length a1 a2 k1 k2 u [.int .i64 nx] ss fs es)
def KpR (mk : Value → Value → Value → Value → Value → Value → Value → Value → Value → Value → Act) (z : Nat) (a1 a2 a6 : Option Addr) (k1 k2 k6 : Nat) (ss : List ByteArray) (fs : List Pr) (es : List Ev) (nx : Int) (V : World) (listed : Array Bool) (a : Act) (X : World) : Prop := ∃ x2 x3 x4 x5 x6 x7 x8 x9 x10 x11 : Value, a = mk x2 x3 x4 x5 x6 x7 x8 x9 x10 x11 ∧ KpS z a1 a2 a6 k1 k2 k6 ss fs es nx V listed x2 x3 x4 x5 x6 x7 x8 x9 x10 x11 X
theorem His.le {w : World} {lo lo' B T bm n : Nat} {a1 a2 : Option Addr} {k1 k2 : Nat} {u : Value} {rest : List Value} {ss : List ByteArray} {fs : List Pr} {E : List Ev} (h : His w lo B T bm n a1 a2 k1 k2 u rest ss fs E) (hl : lo' ≤ lo) : His w lo' B T bm n a1 a2 k1 k2 u rest ss fs E :=
 ⟨h.blk, ZAI h.own hl, h.map, Nat.le_trans hl h.lB, Nat.le_trans hl h.lm, h.ty⟩
theorem ZE0 (a1 a2 a6 : Option Addr) (k1 k2 k6 : Nat) (ss : List ByteArray) (fs : List Pr) (es : List Ev) (nx : Int) (w : World) (e0 e1 e2 e3 e4 : Addr) (hD : DefSl w a1 a2 k1 k2 ss fs) (hE : EvSl w (.slice a6 es.length k6) es) (hEr : ErrsAt w e0 e1 e2 e3 e4) (hP : HistP ss fs es)
  (F1 : ∀ i, (h : i < ss.length) → ss[i].size ≤ maxLen) (F2 : FitP fs) (FE : ∀ i, (h : i < es.length) → es[i].step.size ≤ maxLen) :
  Calls Tryz.prog 50 #[.agg #[.slice a1 ss.length k1, .slice a2 fs.length k2, .slice a6 es.length k6, .int .i64 nx]] w fun x w' => ∃ g u bm, x = .returned (.pointer (some ⟨g, 0, none⟩)) ∧ His w' w.heap.size g 94 bm es.length a1 a2 k1 k2 u [.int .i64 nx] ss fs es ∧ Below w.heap.size w w' := by
 have mixed : Tryz.prog.follows .mixedOrders = true := by kernel_rfl
 have hbv : Below w.heap.size w (w.alloc (.cells #[.slice a1 ss.length k1, .slice a2 fs.length k2, .slice a6 es.length k6, .int .i64 nx] 36)) := (bR _ _).alloc nL _
 have HZ := hid (heap_alloc_new w (.cells #[.slice a1 ss.length k1, .slice a2 fs.length k2, .slice a6 es.length k6, .int .i64 nx] 36))
 go_enter Tryz.func50, Tryz.ntmps50
 go_upto_region 1 with fail
 generalize w.alloc (.cells #[.slice a1 ss.length k1, .slice a2 fs.length k2, .slice a6 es.length k6, .int .i64 nx] 36) = V at *
 have cH := hid (fun (X : World) (hX : Below V.heap.size V X) => ZET a1 a2 a6 k1 k2 k6 ss fs es X e0 e1 e2 e3 e4 ((hD.stay hbv).stay hX) ((hE.stay hbv nL).stay hX nL) ((hEr.stay hbv).stay hX) hP F1 F2 FE)
 have HBv := hid hbv
 clear hD hE hEr hP F1 F2 FE hbv
 refine ZAR mixed (KpR (fun x2 x3 x4 x5 x6 x7 x8 x9 x10 x11 => { tmps := #[.agg #[.slice a1 ss.length k1, .slice a2 fs.length k2, .slice a6 es.length k6, .int .i64 nx], .pointer (some ⟨w.heap.size, 0, none⟩), x2, x3, x4, x5, x6, x7, x8, x9, x10, x11], defers := [] }) w.heap.size a1 a2 a6 k1 k2 k6 ss fs es nx V) ?ac ?start ?step ?fin
 case ac => exact ZCG (by kernel_rfl)
 case start =>
  refine ⟨.pointer none, undef, undef, undef, undef, undef, undef, undef, undef, undef, rfl, ?_⟩
  constructor
  ·exact (Below.refl _ V).drew
  all_goals (intro h; simp at h)
 case step =>
  rintro i listed a X ⟨x2, x3, x4, x5, x6, x7, x8, x9, x10, x11, rfl, hS⟩ hun ⟨op9, ho, hdep⟩
  have hlt : i < 10 := (Array.getElem?_eq_some_iff.1 ho).1
  have d0 : X.cell? ⟨w.heap.size, 0, none⟩ = some (.slice a1 ss.length k1) := (hS.hb.cell (p := ⟨w.heap.size, 0, none⟩) (ZAA HZ.out)).trans (ce HZ.out rfl)
  have d1 : X.cell? ⟨w.heap.size, 1, none⟩ = some (.slice a2 fs.length k2) := (hS.hb.cell (p := ⟨w.heap.size, 1, none⟩) (ZAA HZ.out)).trans (ce HZ.out rfl)
  have d2 : X.cell? ⟨w.heap.size, 2, none⟩ = some (.slice a6 es.length k6) := (hS.hb.cell (p := ⟨w.heap.size, 2, none⟩) (ZAA HZ.out)).trans (ce HZ.out rfl)
  have d3 : X.cell? ⟨w.heap.size, 3, none⟩ = some (.int .i64 nx) := (hS.hb.cell (p := ⟨w.heap.size, 3, none⟩) (ZAA HZ.out)).trans (ce HZ.out rfl)
  match i, hlt with
  | 0, _ =>
   obtain rfl := Option.some.inj ho
   refine ZAH rfl rfl ?_
   go_simp
   refine ⟨x2, .pointer (some ⟨w.heap.size, 0, none⟩), x4, x5, x6, x7, x8, x9, x10, x11, rfl, ?_⟩
   exact ⟨hS.hb, fun _ => rfl, fun h => hS.p1 (gO h), fun h => hS.p2 (gO h), fun h => hS.p3 (gO h), fun h => hS.p4 (gO h), fun h => hS.p5 (gO h), fun h => hS.p6 (gO h), fun h => hS.p7 (gO h), fun h => hS.p8 (gO h), fun h => hS.p9 (gO h)⟩
  | 1, _ =>
   obtain rfl := Option.some.inj ho
   have q0 := hdep ⟨0, .data⟩ (by simp) rfl
   obtain rfl := hS.p0 q0
   refine ZAH rfl rfl ?_
   go_simp
   refine ⟨x2, .pointer (some ⟨w.heap.size, 0, none⟩), .agg #[.slice a1 ss.length k1, .slice a2 fs.length k2], x5, x6, x7, x8, x9, x10, x11, rfl, ?_⟩
   exact ⟨hS.hb, fun h => hS.p0 (gO h), fun _ => rfl, fun h => hS.p2 (gO h), fun h => hS.p3 (gO h), fun h => hS.p4 (gO h), fun h => hS.p5 (gO h), fun h => hS.p6 (gO h), fun h => hS.p7 (gO h), fun h => hS.p8 (gO h), fun h => hS.p9 (gO h)⟩
  | 2, _ =>
   obtain rfl := Option.some.inj ho
   refine ZAH rfl rfl ?_
   go_simp
   refine ⟨x2, x3, x4, .pointer (some ⟨w.heap.size, 2, none⟩), x6, x7, x8, x9, x10, x11, rfl, ?_⟩
   exact ⟨hS.hb, fun h => hS.p0 (gO h), fun h => hS.p1 (gO h), fun _ => rfl, fun h => hS.p3 (gO h), fun h => hS.p4 (gO h), fun h => hS.p5 (gO h), fun h => hS.p6 (gO h), fun h => hS.p7 (gO h), fun h => hS.p8 (gO h), fun h => hS.p9 (gO h)⟩
  | 3, _ =>
   obtain rfl := Option.some.inj ho
   have q2 := hdep ⟨2, .data⟩ (by simp) rfl
   obtain rfl := hS.p2 q2
   refine ZAH rfl rfl ?_
   go_simp
   refine ⟨x2, x3, x4, .pointer (some ⟨w.heap.size, 2, none⟩), .slice a6 es.length k6, x7, x8, x9, x10, x11, rfl, ?_⟩
   exact ⟨hS.hb, fun h => hS.p0 (gO h), fun h => hS.p1 (gO h), fun h => hS.p2 (gO h), fun _ => rfl, fun h => hS.p4 (gO h), fun h => hS.p5 (gO h), fun h => hS.p6 (gO h), fun h => hS.p7 (gO h), fun h => hS.p8 (gO h), fun h => hS.p9 (gO h)⟩
  | 4, _ =>
   obtain rfl := Option.some.inj ho
   have q1 := hdep ⟨1, .data⟩ (by simp) rfl
   have q3 := hdep ⟨3, .data⟩ (by simp) rfl
   obtain rfl := hS.p1 q1
   obtain rfl := hS.p3 q3
   refine ZAH rfl rfl ?_
   go_simp
   refine (cH.out X hS.hb).mono ?_
   rintro x X' ⟨u, bm, rfl, h1, h2, h3, hq⟩
   refine ⟨x2, x3, .agg #[.slice a1 ss.length k1, .slice a2 fs.length k2], x5, .slice a6 es.length k6, _, x8, x9, x10, x11, rfl, ?_⟩
   exact ⟨hS.hb.trans (hq.mono hS.hb.size), fun h => hS.p0 (gO h), fun h => hS.p1 (gO h), fun h => hS.p2 (gO h), fun h => hS.p3 (gO h), fun _ => ⟨u, bm, rfl, ZAI h1 hS.hb.size, h2, Nat.le_trans hS.hb.size h3⟩, fun h => hS.p5 (gO h), fun h => hS.p6 (gO h), fun h => let ⟨u, bm, e1, e2, e3, e4⟩ := (hS.p7 (gO h)); ⟨u, bm, e1, ZAE e2 hq, e3.stay hq, e4⟩, fun h => let ⟨g, u, bm, e1, e2⟩ := (hS.p8 (gO h)); ⟨g, u, bm, e1, e2.stay hq⟩, fun h => let ⟨g, u, bm, e1, e2⟩ := (hS.p9 (gO h)); ⟨g, u, bm, e1, e2.stay hq⟩⟩
  | 5, _ =>
   obtain rfl := Option.some.inj ho
   refine ZAH rfl rfl ?_
   go_simp
   refine ⟨x2, x3, x4, x5, x6, x7, .pointer (some ⟨w.heap.size, 3, none⟩), x9, x10, x11, rfl, ?_⟩
   exact ⟨hS.hb, fun h => hS.p0 (gO h), fun h => hS.p1 (gO h), fun h => hS.p2 (gO h), fun h => hS.p3 (gO h), fun h => hS.p4 (gO h), fun _ => rfl, fun h => hS.p6 (gO h), fun h => hS.p7 (gO h), fun h => hS.p8 (gO h), fun h => hS.p9 (gO h)⟩
  | 6, _ =>
   obtain rfl := Option.some.inj ho
   have q5 := hdep ⟨5, .data⟩ (by simp) rfl
   obtain rfl := hS.p5 q5
   refine ZAH rfl rfl ?_
   go_simp
   refine ⟨x2, x3, x4, x5, x6, x7, .pointer (some ⟨w.heap.size, 3, none⟩), .int .i64 nx, x10, x11, rfl, ?_⟩
   exact ⟨hS.hb, fun h => hS.p0 (gO h), fun h => hS.p1 (gO h), fun h => hS.p2 (gO h), fun h => hS.p3 (gO h), fun h => hS.p4 (gO h), fun h => hS.p5 (gO h), fun _ => rfl, fun h => hS.p7 (gO h), fun h => hS.p8 (gO h), fun h => hS.p9 (gO h)⟩
  | 7, _ =>
   obtain rfl := Option.some.inj ho
   have q4 := hdep ⟨4, .data⟩ (by simp) rfl
   have q6 := hdep ⟨6, .data⟩ (by simp) rfl
   obtain rfl := hS.p6 q6
   obtain ⟨u, bm, rfl, h1, h2, h3⟩ := hS.p4 q4
   refine ZAH rfl rfl ?_
   go_simp
   refine ⟨x2, x3, x4, x5, x6, _, x8, .int .i64 nx, _, x11, rfl, ?_⟩
   exact ⟨hS.hb, fun h => hS.p0 (gO h), fun h => hS.p1 (gO h), fun h => hS.p2 (gO h), fun h => hS.p3 (gO h), fun h => hS.p4 (gO h), fun h => hS.p5 (gO h), fun h => hS.p6 (gO h), fun _ => ⟨u, bm, rfl, h1, h2, h3⟩, fun h => hS.p8 (gO h), fun h => hS.p9 (gO h)⟩
  | 8, _ =>
   obtain rfl := Option.some.inj ho
   have q7 := hdep ⟨7, .data⟩ (by simp) rfl
   obtain ⟨u, bm, rfl, h1, h2, h3⟩ := hS.p7 q7
   obtain ⟨ua, uc, rfl⟩ := ZAD h1
   refine ZAH rfl rfl ?_
   go_simp
   have hq : Below X.heap.size X (X.alloc (.cells #[.slice a1 ss.length k1, .slice a2 fs.length k2, .slice ua es.length uc, .map (some bm), .int .i64 nx] 94)) := (bR _ _).alloc nL _
   refine ⟨x2, x3, x4, x5, x6, x7, x8, x9, _, _, rfl, ?_⟩
   exact ⟨hS.hb.trans (hq.mono hS.hb.size), fun h => hS.p0 (gO h), fun h => hS.p1 (gO h), fun h => hS.p2 (gO h), fun h => hS.p3 (gO h), fun h => let ⟨u, bm, e1, e2, e3, e4⟩ := (hS.p4 (gO h)); ⟨u, bm, e1, ZAE e2 hq, e3.stay hq, e4⟩, fun h => hS.p5 (gO h), fun h => hS.p6 (gO h), fun h => let ⟨u, bm, e1, e2, e3, e4⟩ := (hS.p7 (gO h)); ⟨u, bm, e1, ZAE e2 hq, e3.stay hq, e4⟩, fun _ => ⟨X.heap.size, _, bm, rfl, heap_alloc_new X _, ZAE h1 hq, h2.stay hq, hS.hb.size, h3, by decide⟩, fun h => let ⟨g, u, bm, e1, e2⟩ := (hS.p9 (gO h)); ⟨g, u, bm, e1, e2.stay hq⟩⟩
  | 9, _ =>
   obtain rfl := Option.some.inj ho
   have q8 := hdep ⟨8, .data⟩ (by simp) rfl
   obtain ⟨g, u, bm, rfl, h1⟩ := hS.p8 q8
   refine ZAH rfl rfl ?_
   go_simp
   refine ⟨_, x3, x4, x5, x6, x7, x8, x9, x10, _, rfl, ?_⟩
   exact ⟨hS.hb, fun h => hS.p0 (gO h), fun h => hS.p1 (gO h), fun h => hS.p2 (gO h), fun h => hS.p3 (gO h), fun h => hS.p4 (gO h), fun h => hS.p5 (gO h), fun h => hS.p6 (gO h), fun h => hS.p7 (gO h), fun h => hS.p8 (gO h), fun _ => ⟨g, u, bm, rfl, h1⟩⟩
 case fin =>
  rintro listed a X ⟨x2, x3, x4, x5, x6, x7, x8, x9, x10, x11, rfl, hS⟩ hall
  obtain ⟨g, u, bm, rfl, hH⟩ := hS.p9 (hall 9 (by decide))
  have HH := hid hH
  have HB := hid (HBv.out.trans (hS.hb.mono HBv.out.size))
  clear hS hall hH cH
  go_wp2
  go_ret
  exact ⟨g, u, bm, rfl, HH.out.le HBv.out.size, HB.out⟩
end Go.Proofs.YtookchpdbilbcaaGreatDoor
