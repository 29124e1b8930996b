/-
 What spec.l06Ingest answers: a contract over the seat's program. (Made by mking.py.)
-/
import Derived.Test.YtookchpdbilbcaaGreatDoorZSvM4
import Derived.Test.YtookchpdbilbcaaGreatDoorZSpCpy
import Derived.Test.YtookchpdbilbcaaGreatDoorZSpRun
import Derived.Test.YtookchpdbilbcaaGreatDoorZSpOf
import Derived.Test.YtookchpdbilbcaaGreatDoorZDfV7
import Derived.Test.YtookchpdbilbcaaGreatDoorZSpOut4
import Derived.Deep.CutRange
set_option maxRecDepth 100000
set_option maxHeartbeats 8000000
namespace Go.Proofs.YtookchpdbilbcaaGreatDoor
open Go.RowKit Go.Sort
theorem ev_made (X : World) (q t r k : Int) (s v : ByteArray) : CellsSl (X.alloc (.cells #[.int .i64 q, .int .i64 t, .int .i64 r, .int .i64 k, .string s, .string v] 57)) (.slice (some ⟨X.heap.size, 0, none⟩) 1 1) 6 1 [.int .i64 q, .int .i64 t, .int .i64 r, .int .i64 k, .string s, .string v] :=
 ⟨rfl, by intro u hu; simp at hu; rcases hu with rfl | rfl | rfl | rfl | rfl | rfl <;> rfl, .inr ⟨⟨X.heap.size, 0, none⟩, 1, rfl, fun j u hj => by rw [Addr.add_lit, Lib.cell_of_heap (heap_alloc_new X _)]; simpa using hj⟩⟩
structure IngI (w W : World) (ss : List ByteArray) (fs : List Pr) (es l : List Ev) (nx : Int) (b5 : Nat) (k : Nat) (E : List Ev) (b1 b2 b6 : Option Addr) (c1 c2 c6 : Nat) (wr : World) : Prop where
 i : inL ss fs l es nx 0 = inL ss fs (l.drop k) E (nx + k) k
 n : E.length = es.length + k
 r : RunsP ss fs E
 f : Fit E
 t : wr.heap[b5]? = some (.cells #[.slice b1 ss.length c1, .slice b2 fs.length c2, .slice b6 E.length c6, .int .i64 (nx + k)] 36 (0, 0))
 o : SvOwn wr (w.heap.size + 1 + 1) (.slice b1 ss.length c1) (.slice b2 fs.length c2) (.slice b6 E.length c6) ss fs E
 b : Below (w.heap.size + 1 + 1) W wr
structure Ig13S (wz b5 fz : Nat) (V : World) (a1 a2 b6 : Option Addr) (k1 k2 c6 : Nat) (ss : List ByteArray) (fs : List Pr) (E : List Ev) (e : Ev) (listed : Array Bool) (x8 x42 x43 x44 x45 x46 x47 x48 x49 x50 x51 x52 : Value) (X : World) : Prop where
 hb : Below V.heap.size V X
 p0 : listed.getD 0 false = true → x42 = .pointer (some ⟨wz, 0, none⟩)
 p1 : listed.getD 1 false = true → x43 = .agg #[.slice a1 ss.length k1, .slice a2 fs.length k2]
 p2 : listed.getD 2 false = true → x44 = .pointer (some ⟨b5, 2, none⟩)
 p3 : listed.getD 3 false = true → x45 = .slice b6 E.length c6
 p4 : listed.getD 4 false = true → x46 = .pointer (some ⟨fz, 2, none⟩)
 p5 : listed.getD 5 false = true → x47 = .int .i64 e.run
 p6 : listed.getD 6 false = true → listed.getD 9 false = false → X.ownsRow V.heap.size 57 6 x48 (ofRun E e.run).length ((ofRun E e.run).flatMap Ev.cells)
 p7 : listed.getD 7 false = true → x49 = .agg #[.int .i64 e.seq, .int .i64 e.time, .int .i64 e.run, .int .i64 e.kind, .string e.step, .string e.val]
 p8 : listed.getD 8 false = true → listed.getD 9 false = false → ∃ g, x50 = .slice (some ⟨g, 0, none⟩) 1 1 ∧ X.heap[g]? = some (.cells #[.int .i64 e.seq, .int .i64 e.time, .int .i64 e.run, .int .i64 e.kind, .string e.step, .string e.val] 57 (0, 0))
 p9 : listed.getD 9 false = true → X.ownsRow V.heap.size 57 6 x51 (ofRun E e.run ++ [e]).length ((ofRun E e.run ++ [e]).flatMap Ev.cells)
 p10 : listed.getD 10 false = true → (∃ u3 u4 u5, x52 = outV (ofS ss fs (ofRun E e.run ++ [e]) z0).1 (ofS ss fs (ofRun E e.run ++ [e]) z0).2 u3 u4 u5 ∧ StOwn X V.heap.size u3 u4 u5 (ofS ss fs (ofRun E e.run ++ [e]) z0).2) ∧ listed.getD 9 false = true
 p11 : listed.getD 11 false = true → ∃ g, x8 = .pointer (some ⟨g, 0, none⟩) ∧ V.heap.size ≤ g ∧ X.heap[g]? = some (.cells #[.int .i64 0, .int .i64 0, .int .i64 0, .slice none 0 0, .slice none 0 0, .slice none 0 0, .int .i64 0, .int .i64 0] 83 (0, 0))
def Ig13R (mk : Value → Value → Value → Value → Value → Value → Value → Value → Value → Value → Value → Value → Act) (wz b5 fz : Nat) (V : World) (a1 a2 b6 : Option Addr) (k1 k2 c6 : Nat) (ss : List ByteArray) (fs : List Pr) (E : List Ev) (e : Ev) (listed : Array Bool) (a : Act) (X : World) : Prop :=
 ∃ x8 x42 x43 x44 x45 x46 x47 x48 x49 x50 x51 x52 : Value, a = mk x8 x42 x43 x44 x45 x46 x47 x48 x49 x50 x51 x52 ∧
  ((listed.getD 12 false = true ∧ (∀ i, i < 12 → listed.getD i false = true) ∧ ∃ g, x8 = .pointer (some ⟨g, 0, none⟩) ∧ X.cell? ⟨g, 7, none⟩ = some (.int .i64 (ofS ss fs (ofRun E e.run ++ [e]) z0).1) ∧ Below V.heap.size V X) ∨ (listed.getD 12 false = false ∧ Ig13S wz b5 fz V a1 a2 b6 k1 k2 c6 ss fs E e listed x8 x42 x43 x44 x45 x46 x47 x48 x49 x50 x51 x52 X))
theorem unl_abs {listed : Array Bool} {i : Nat} {C : Prop} (h : listed.getD i false = true) (h' : listed.getD i true = false) : C := by
 rw [getD_unl h'] at h; cases h
theorem l06Ingest_in (a1 a2 a6 a7 : Option Addr) (k1 k2 k6 k7 : Nat) (ss : List ByteArray) (fs : List Pr) (es l : List Ev) (nx : Int) (w : World) (hD : DefSl w a1 a2 k1 k2 ss fs) (hE : EvSl w (.slice a6 es.length k6) es) (hL : EvSl w (.slice a7 l.length k7) l) (hP : SvP ss fs es nx) (FE : Fit es) (FL : Fit l) (h0 : ¬ l.length = 0) (h2 : ¬ 200 < l.length) :
  Calls Tryz.prog 23 #[svV a1 a2 a6 k1 k2 k6 ss fs es nx, .slice a7 l.length k7] w fun x w' => InPost w ss fs (inL ss fs l es nx 0) x w' := by
 have mixed : Tryz.prog.follows .mixedOrders = true := by kernel_rfl
 obtain ⟨m0, hm, hm0, hm1, hm2⟩ := info_parts Tryz.infoEvt
 have HD := hid hD
 have HL := hid hL
 have HE := hid hE
 have HP := hid hP
 have hnx := (numB_iff nx).1 hP.n
 have HFE := hid FE
 have HFL := hid FL
 have HS := hid (show es.length ≤ 200 from hP.h.n)
 have HBW := hid (show Below w.heap.size w ((w.alloc (.cells #[.slice a1 ss.length k1, .slice a2 fs.length k2, .slice a6 es.length k6, .int .i64 nx] 36)).alloc (.cells #[.slice none 0 0, .slice none 0 0, .slice none 0 0, .int .i64 0, .int .i64 0, .int .i64 0] 38)) from below2 _ _ _)
 have HZ := hid (show ((w.alloc (.cells #[.slice a1 ss.length k1, .slice a2 fs.length k2, .slice a6 es.length k6, .int .i64 nx] 36)).alloc (.cells #[.slice none 0 0, .slice none 0 0, .slice none 0 0, .int .i64 0, .int .i64 0, .int .i64 0] 38)).heap.size = w.heap.size + 1 + 1 by simp)
 have HA := hid (show ((w.alloc (.cells #[.slice a1 ss.length k1, .slice a2 fs.length k2, .slice a6 es.length k6, .int .i64 nx] 36)).alloc (.cells #[.slice none 0 0, .slice none 0 0, .slice none 0 0, .int .i64 0, .int .i64 0, .int .i64 0] 38)).heap[w.heap.size]? = some (.cells #[.slice a1 ss.length k1, .slice a2 fs.length k2, .slice a6 es.length k6, .int .i64 nx] 36 (0, 0)) from (Below.heap_alloc _ _ _ (by simp)).trans (heap_alloc_new w _))
 have HR := hid (show ((w.alloc (.cells #[.slice a1 ss.length k1, .slice a2 fs.length k2, .slice a6 es.length k6, .int .i64 nx] 36)).alloc (.cells #[.slice none 0 0, .slice none 0 0, .slice none 0 0, .int .i64 0, .int .i64 0, .int .i64 0] 38)).heap[w.heap.size + 1]? = some (.cells #[.slice none 0 0, .slice none 0 0, .slice none 0 0, .int .i64 0, .int .i64 0, .int .i64 0] 38 (0, 0)) by have h := heap_alloc_new (w.alloc (.cells #[.slice a1 ss.length k1, .slice a2 fs.length k2, .slice a6 es.length k6, .int .i64 nx] 36)) (.cells #[.slice none 0 0, .slice none 0 0, .slice none 0 0, .int .i64 0, .int .i64 0, .int .i64 0] 38); rw [World.size_alloc] at h; exact h)
 have b0 : ((l.length : Int) == 0) = false := by rw [beq_eq_false_iff_ne]; omega
 have b2 : decide ((200 : Int) < (l.length : Int)) = false := by simp; omega
 have hl2 : l.length ≤ 200 := by omega
 clear hD hL hE hP FE FL h0 h2
 go_enter Tryz.func23, Tryz.ntmps23
 go_upto_region 1 with fail
 generalize ((w.alloc (.cells #[.slice a1 ss.length k1, .slice a2 fs.length k2, .slice a6 es.length k6, .int .i64 nx] 36)).alloc (.cells #[.slice none 0 0, .slice none 0 0, .slice none 0 0, .int .i64 0, .int .i64 0, .int .i64 0] 38)) = W at *
 have x0 : W.cell? ⟨w.heap.size, 0, none⟩ = some (.slice a1 ss.length k1) := ce HA.out rfl
 have x1 : W.cell? ⟨w.heap.size, 1, none⟩ = some (.slice a2 fs.length k2) := ce HA.out rfl
 have x2 : W.cell? ⟨w.heap.size, 2, none⟩ = some (.slice a6 es.length k6) := ce HA.out rfl
 have x3 : W.cell? ⟨w.heap.size, 3, none⟩ = some (.int .i64 nx) := ce HA.out rfl
 go_wp2_with fail
 refine (l06Copy_any a1 a2 a6 k1 k2 k6 ss fs es nx W (HD.out.stay HBW.out) (HE.out.stay HBW.out (Nat.le_refl _)) (by have := HP.out.h.d.1.n2; omega) (by have := HP.out.h.d.2.m; omega) (by have := HP.out.h.n; omega)).mono ?_
 rintro x V2 ⟨p1, p2, p6, q1, q2, q6, rfl, hO2, hb2⟩
 have HK3 := hid (heap_alloc_new V2 (.cells #[.slice p1 ss.length q1, .slice p2 fs.length q2, .slice p6 es.length q6, .int .i64 nx] 36))
 have hbx : Below V2.heap.size V2 (V2.alloc (.cells #[.slice p1 ss.length q1, .slice p2 fs.length q2, .slice p6 es.length q6, .int .i64 nx] 36)) := (Below.refl _ _).alloc (Nat.le_refl _) _
 have hz2 := hb2.size
 have HO3 := hid (show SvOwn (V2.alloc (.cells #[.slice p1 ss.length q1, .slice p2 fs.length q2, .slice p6 es.length q6, .int .i64 nx] 36)) (w.heap.size + 1 + 1) (.slice p1 ss.length q1) (.slice p2 fs.length q2) (.slice p6 es.length q6) ss fs es from SvOwn.stay ⟨⟨ownB_le hO2.d.o1 (by have := HZ.out; omega), ownB_le hO2.d.o2 (by have := HZ.out; omega)⟩, ownB_le hO2.o6 (by have := HZ.out; omega)⟩ hbx)
 have HB3 := hid (show Below (w.heap.size + 1 + 1) W (V2.alloc (.cells #[.slice p1 ss.length q1, .slice p2 fs.length q2, .slice p6 es.length q6, .int .i64 nx] 36)) from (hb2.mono (by have := HZ.out; omega)).trans (hbx.mono (by have := HZ.out; omega)))
 have h5 : w.heap.size + 1 + 1 ≤ V2.heap.size := by have := HZ.out; omega
 clear hbx hO2 hb2 x0 x1 x2 x3
 go_upto_region 5 with fail
 generalize (V2.alloc (.cells #[.slice p1 ss.length q1, .slice p2 fs.length q2, .slice p6 es.length q6, .int .i64 nx] 36)) = V3 at *
 generalize hb5 : V2.heap.size = b5 at *
 clear hb5
 go_loopw [6] (fun i wr => ∃ k : Nat, k ≤ l.length ∧ i = .int .i64 k ∧ ∃ E b1 b2 b6 c1 c2 c6, IngI w W ss fs es l nx b5 k E b1 b2 b6 c1 c2 c6 wr) (fun i _ => l.length - (intOf i).toNat)
 case atStart => exact ⟨0, Nat.zero_le _, rfl, es, p1, p2, p6, q1, q2, q6, ⟨by simp, by simp, HP.out.h.runs, HFE.out, by simpa using HK3.out, HO3.out, HB3.out⟩⟩
 case round =>
  obtain ⟨k, hk, rfl, E, b1, b2, b6, c1, c2, c6, hI⟩ := hrel
  have HI := hid hI
  have hszr : w.heap.size + 1 + 1 ≤ wr.heap.size := by have := hI.b.size; have := HZ.out; omega
  have hEl : E.length ≤ 400 := by have := hI.n; have := HS.out; omega
  clear hI HO3 HK3 HB3
  have HR0 := hid ((HI.out.b.block (w.heap.size + 1) (by omega)).trans HR.out)
  have HA0 := hid ((HI.out.b.block w.heap.size (by omega)).trans HA.out)
  have hBr := hid (HBW.out.trans (HI.out.b.mono (by omega)))
  by_cases hlk : k < l.length
  ·have c0 : ∃ g o, a7 = some ⟨g, o, none⟩ ∧ EvAt wr g (o + k * 6) l[k] := by
    rcases HL.out.stay hBr.out (Nat.le_refl _) with ⟨a, c, e, e'⟩ | ⟨g, o, c, e, _, h⟩
    ·rw [e'] at hlk; exact absurd hlk (by simp)
    ·injection e with e _ _
     exact ⟨g, o, e, h.2 k hlk⟩
   obtain ⟨g, o, rfl, e0, e1, e2, e3, e4, e5⟩ := c0
   have HFk := hid (HFL.out k hlk)
   have HQ1 := hid (fun h => HI.out.i.trans (inL_full (ss := ss) (fs := fs) (E := E) (p := k) hlk h))
   have HQ2 := hid (fun h h' => HI.out.i.trans (inL_bad (ss := ss) (fs := fs) (E := E) (p := k) hlk h h'))
   have HQ3 := hid (fun h h' => HI.out.i.trans (inL_go (ss := ss) (fs := fs) (E := E) (p := k) hlk h h'))
   generalize l[k] = e at *
   obtain ⟨es0, et, er, ek, est, ev⟩ := e
   dsimp only at *
   go_upto_region 8 with fail
   have HF1 := hid (heap_alloc_new wr (.cells #[.int .i64 es0, .int .i64 et, .int .i64 er, .int .i64 ek, .string est, .string ev] 57))
   have hbx : Below wr.heap.size wr (wr.alloc (.cells #[.int .i64 es0, .int .i64 et, .int .i64 er, .int .i64 ek, .string est, .string ev] 57)) := (Below.refl _ _).alloc (Nat.le_refl _) _
   have hzf : (wr.alloc (.cells #[.int .i64 es0, .int .i64 et, .int .i64 er, .int .i64 ek, .string est, .string ev] 57)).heap.size = wr.heap.size + 1 := by simp
   have HT1 := hid ((hbx.block _ (lt_heap HI.out.t)).trans HI.out.t)
   have HO1 := hid (HI.out.o.stay hbx)
   have HBf := hid hbx
   clear hbx e0 e1 e2 e3 e4 e5
   generalize (wr.alloc (.cells #[.int .i64 es0, .int .i64 et, .int .i64 er, .int .i64 ek, .string est, .string ev] 57)) = Wf at *
   have t3 : Wf.cell? ⟨b5, 3, none⟩ = some (.int .i64 (nx + k)) := ce HT1.out rfl
   have f0 : Wf.cell? ⟨wr.heap.size, 0, none⟩ = some (.int .i64 es0) := ce HF1.out rfl
   have ff := Lib.frozen_of_heap HF1.out
   go_upto_region 9 with fail
   have hC : Chg (fun j => j = wr.heap.size) Wf (Wf.setCell ⟨wr.heap.size, 0, none⟩ (.int .i64 (nx + (k : Int)))) := Chg.of_grown (grown_set _ wr.heap.size 0 _) rfl
   have HF2 := hid (show (Wf.setCell ⟨wr.heap.size, 0, none⟩ (.int .i64 (nx + (k : Int)))).heap[wr.heap.size]? = some (.cells #[.int .i64 (nx + k), .int .i64 et, .int .i64 er, .int .i64 ek, .string est, .string ev] 57 (0, 0)) from blk_set (L := [_, _, _, _, _, _]) (i := 0) HF1.out _)
   have hlb : b5 < wr.heap.size := lt_heap HI.out.t
   have HT2 := hid ((hC.block b5 (lt_heap HT1.out) (by show ¬ b5 = wr.heap.size; omega)).trans HT1.out)
   have HO2 := hid (HO1.out.chg hC (own_ne HO1.out.d.o1 HF1.out (by decide)) (own_ne HO1.out.d.o2 HF1.out (by decide)) (fun g hg h => by have := (HI.out.o.o6.lt g hg).2; have : g = wr.heap.size := h; omega))
   have HBg := hid (show Below wr.heap.size wr (Wf.setCell ⟨wr.heap.size, 0, none⟩ (.int .i64 (nx + (k : Int)))) from HBf.out.trans (hC.below (by have := HBf.out.size; omega) (fun j (h : j = _) => by omega)))
   clear hC t3 f0 ff HF1 HT1 HO1 HBf
   generalize (Wf.setCell ⟨wr.heap.size, 0, none⟩ (.int .i64 (nx + (k : Int)))) = Wg at *
   have hzg := HBg.out.size
   have HBg2 := hid (hBr.out.trans (HBg.out.mono hBr.out.size))
   have HRg := hid ((HBg.out.block _ (lt_heap HR0.out)).trans HR0.out)
   have t3 : Wg.cell? ⟨b5, 3, none⟩ = some (.int .i64 (nx + k)) := ce HT2.out rfl
   by_cases hfl : 1000000 < nx + (k : Int)
   ·have bfl : decide (1000000 < nx + (k : Int)) = true := decide_eq_true hfl
    have r0 : Wg.cell? ⟨w.heap.size + 1, 0, none⟩ = some (.slice none 0 0) := ce HRg.out rfl
    have r1 : Wg.cell? ⟨w.heap.size + 1, 1, none⟩ = some (.slice none 0 0) := ce HRg.out rfl
    have r2 : Wg.cell? ⟨w.heap.size + 1, 2, none⟩ = some (.slice none 0 0) := ce HRg.out rfl
    have r3 : Wg.cell? ⟨w.heap.size + 1, 3, none⟩ = some (.int .i64 0) := ce HRg.out rfl
    have r4 : Wg.cell? ⟨w.heap.size + 1, 4, none⟩ = some (.int .i64 0) := ce HRg.out rfl
    have r5 : Wg.cell? ⟨w.heap.size + 1, 5, none⟩ = some (.int .i64 0) := ce HRg.out rfl
    have rf := Lib.frozen_of_heap HRg.out
    have HQ := hid (out_code ss fs 0 (9) (by decide) HBg2.out (by have := hzg; omega) HRg.out)
    go_wp2_with fail
    have hF := HQ.out.1
    unfold outSet at hF
    have z0 := Lib.cell_of_heap hF (j := 0)
    have z1 := Lib.cell_of_heap hF (j := 1)
    have z2 := Lib.cell_of_heap hF (j := 2)
    have z3 := Lib.cell_of_heap hF (j := 3)
    have z4 := Lib.cell_of_heap hF (j := 4)
    have z5 := Lib.cell_of_heap hF (j := 5)
    simp at z0 z1 z2 z3 z4 z5
    exact bodyPost_ret (v := .agg #[.slice none 0 0, .slice none 0 0, .slice none 0 0, .int .i64 0, .int .i64 (0 : Nat), .int .i64 (9)]) (by simp [results, Tryz.results23, go_sem, z0, z1, z2, z3, z4, z5]) rfl (by rw [HQ1.out hfl]; exact HQ.out.2)
   have bfl : decide (1000000 < nx + (k : Int)) = false := decide_eq_false hfl
   have HFl := hid hfl
   clear hfl
   have f0 : Wg.cell? ⟨wr.heap.size, 0, none⟩ = some (.int .i64 (nx + k)) := ce HF2.out rfl
   have f1 : Wg.cell? ⟨wr.heap.size, 1, none⟩ = some (.int .i64 et) := ce HF2.out rfl
   have f2 : Wg.cell? ⟨wr.heap.size, 2, none⟩ = some (.int .i64 er) := ce HF2.out rfl
   have f3 : Wg.cell? ⟨wr.heap.size, 3, none⟩ = some (.int .i64 ek) := ce HF2.out rfl
   have f4 : Wg.cell? ⟨wr.heap.size, 4, none⟩ = some (.string est) := ce HF2.out rfl
   have f5 : Wg.cell? ⟨wr.heap.size, 5, none⟩ = some (.string ev) := ce HF2.out rfl
   go_wp2_with fail
   refine (specEventRight_any (nx + (k : Int)) et er ek est ev Wg HFk.out.1).mono ?_
   rintro x V4 ⟨rfl, hb4⟩
   have HBh := hid (HBg.out.trans (hb4.mono hzg))
   have HBh2 := hid (HBg2.out.trans (hb4.mono HBg2.out.size))
   have HRh := hid ((hb4.block _ (lt_heap HRg.out)).trans HRg.out)
   have HFh := hid ((hb4.block _ (lt_heap HF2.out)).trans HF2.out)
   have HTh := hid ((hb4.block _ (lt_heap HT2.out)).trans HT2.out)
   have HOh := hid (HO2.out.stay hb4)
   have hzh := hb4.size
   have HAh := hid ((HBh.out.block _ (lt_heap HA0.out)).trans HA0.out)
   clear hb4 t3 f0 f1 f2 f3 f4 f5 HRg HF2 HT2 HO2 HBg2 HBg bfl
   by_cases hev : evB ⟨nx + (k : Int), et, er, ek, est, ev⟩ = true
   case neg =>
    have hev' := Bool.eq_false_iff.2 hev
    rw [hev']
    have HC1 := hid (inC_form (ss := ss) (fs := fs) (E := E) (nx := nx + (k : Int)) (e := ⟨es0, et, er, ek, est, ev⟩) hev')
    clear hev hev'
    have r0 : V4.cell? ⟨w.heap.size + 1, 0, none⟩ = some (.slice none 0 0) := ce HRh.out rfl
    have r1 : V4.cell? ⟨w.heap.size + 1, 1, none⟩ = some (.slice none 0 0) := ce HRh.out rfl
    have r2 : V4.cell? ⟨w.heap.size + 1, 2, none⟩ = some (.slice none 0 0) := ce HRh.out rfl
    have r3 : V4.cell? ⟨w.heap.size + 1, 3, none⟩ = some (.int .i64 0) := ce HRh.out rfl
    have r4 : V4.cell? ⟨w.heap.size + 1, 4, none⟩ = some (.int .i64 0) := ce HRh.out rfl
    have r5 : V4.cell? ⟨w.heap.size + 1, 5, none⟩ = some (.int .i64 0) := ce HRh.out rfl
    have rf := Lib.frozen_of_heap HRh.out
    have HQ := hid (out_code ss fs k (1) (by decide) HBh2.out (by have := (show w.heap.size + 1 + 1 ≤ V4.heap.size by omega); omega) HRh.out)
    go_wp2_with fail
    have hF := HQ.out.1
    unfold outSet at hF
    have z0 := Lib.cell_of_heap hF (j := 0)
    have z1 := Lib.cell_of_heap hF (j := 1)
    have z2 := Lib.cell_of_heap hF (j := 2)
    have z3 := Lib.cell_of_heap hF (j := 3)
    have z4 := Lib.cell_of_heap hF (j := 4)
    have z5 := Lib.cell_of_heap hF (j := 5)
    simp at z0 z1 z2 z3 z4 z5
    exact bodyPost_ret (v := .agg #[.slice none 0 0, .slice none 0 0, .slice none 0 0, .int .i64 0, .int .i64 (k : Nat), .int .i64 (1)]) (by simp [results, Tryz.results23, go_sem, z0, z1, z2, z3, z4, z5]) rfl (by rw [(HQ2.out HFl.out (by rw [HC1.out]; decide)), HC1.out]; exact HQ.out.2)
   rw [hev]
   have HEv := hid hev
   clear hev
   go_upto_region 13 with fail
   have HG := hid (show (∀ i, (h : i < (ofRun E er ++ [(⟨nx + (k : Int), et, er, ek, est, ev⟩ : Ev)]).length) → (ofRun E er ++ [(⟨nx + (k : Int), et, er, ek, est, ev⟩ : Ev)])[i].step.size ≤ maxLen) ∧ (ofRun E er ++ [(⟨nx + (k : Int), et, er, ek, est, ev⟩ : Ev)]).length ≤ 1000 from ⟨fun i h => by
     by_cases hi : i < (ofRun E er).length
     ·rw [List.getElem_append_left hi]; exact ofRun_step E er (p := fun e => e.step.size ≤ maxLen) (fun i hi => (HI.out.f i hi).1) i hi
     ·have h9 := HFk.out.1
      rw [List.getElem_append_right (by omega)]; simpa using h9, by rw [List.length_append]; have := ofRun_len E er; simp; omega⟩)
   refine wp_region_inv mixed (Ig13R (fun x8 x42 x43 x44 x45 x46 x47 x48 x49 x50 x51 x52 => { tmps := #[svV a1 a2 a6 k1 k2 k6 ss fs es nx, .slice (some ⟨g, o, none⟩) l.length k7, .pointer (some ⟨w.heap.size, 0, none⟩), undef, .pointer (some ⟨w.heap.size + 1, 0, none⟩), .pointer (some ⟨b5, 0, none⟩), .int .i64 (k : Int), .pointer (some ⟨wr.heap.size, 0, none⟩), x8, .slice (some ⟨g, o, none⟩) l.length k7, .int .i64 (l.length : Int), .bool false, .bool false, .slice (some ⟨g, o, none⟩) l.length k7, .int .i64 (l.length : Int), .bool false, .bool false, undef, .agg #[.slice a1 ss.length k1, .slice a2 fs.length k2, .slice a6 es.length k6, .int .i64 nx], svV p1 p2 p6 q1 q2 q6 ss fs es nx, .int .i64 (k : Int), .slice (some ⟨g, o, none⟩) l.length k7, .int .i64 (l.length : Int), .bool true, u24, u25, .slice (some ⟨g, o, none⟩) l.length k7, .int .i64 (k : Int), .pointer (some ⟨g, o + k * 6, none⟩), .agg #[.int .i64 es0, .int .i64 et, .int .i64 er, .int .i64 ek, .string est, .string ev], .pointer (some ⟨b5, 3, none⟩), .int .i64 (nx + (k : Int)), .pointer (some ⟨wr.heap.size, 0, none⟩), .pointer (some ⟨b5, 3, none⟩), .int .i64 (nx + (k : Int)), .bool false, u36, .agg #[.int .i64 (nx + k), .int .i64 et, .int .i64 er, .int .i64 ek, .string est, .string ev], .bool true, .bool false, u40, u41, x42, x43, x44, x45, x46, x47, x48, x49, x50, x51, x52, u53, u54, u55, u56, u57, u58, u59, u60, u61, u62, u63, u64, u65, u66, u67, u68, u69, undef, undef, undef, undef, undef, undef, undef, undef, undef, undef, undef, undef, undef, undef], defers := [] }) w.heap.size b5 wr.heap.size V4 a1 a2 b6 k1 k2 c6 ss fs E ⟨nx + (k : Int), et, er, ek, est, ev⟩) ?ac ?start ?step ?fin
   case ac => exact ac_of (by kernel_rfl)
   case start =>
    refine ⟨u8, u42, u43, u44, u45, u46, u47, u48, u49, u50, u51, u52, rfl, .inr ⟨rfl, ?_⟩⟩
    constructor
    ·exact (Below.refl _ V4).drew
    all_goals (intro h; simp at h)
   case step =>
    rintro i listed a X ⟨x8, x42, x43, x44, x45, x46, x47, x48, x49, x50, x51, x52, rfl, hR⟩ hun ⟨o, ho, hdep⟩
    have hlt : i < 13 := (Array.getElem?_eq_some_iff.1 ho).1
    rcases hR with ⟨h12, hall, _⟩ | ⟨h12, hS⟩
    ·by_cases e9 : i = 12
     ·subst e9; exact unl_abs h12 hun
     ·exact unl_abs (hall i (by omega)) hun
    ·have d0 : X.cell? ⟨w.heap.size, 0, none⟩ = some (.slice a1 ss.length k1) := (hS.hb.cell (p := ⟨w.heap.size, 0, none⟩) (lt_heap HAh.out)).trans (ce HAh.out rfl)
     have d1 : X.cell? ⟨w.heap.size, 1, none⟩ = some (.slice a2 fs.length k2) := (hS.hb.cell (p := ⟨w.heap.size, 1, none⟩) (lt_heap HAh.out)).trans (ce HAh.out rfl)
     have t2 : X.cell? ⟨b5, 2, none⟩ = some (.slice b6 E.length c6) := (hS.hb.cell (p := ⟨b5, 2, none⟩) (lt_heap HTh.out)).trans (ce HTh.out rfl)
     have f0 : X.cell? ⟨wr.heap.size, 0, none⟩ = some (.int .i64 (nx + k)) := (hS.hb.cell (p := ⟨wr.heap.size, 0, none⟩) (lt_heap HFh.out)).trans (ce HFh.out rfl)
     have f1 : X.cell? ⟨wr.heap.size, 1, none⟩ = some (.int .i64 et) := (hS.hb.cell (p := ⟨wr.heap.size, 1, none⟩) (lt_heap HFh.out)).trans (ce HFh.out rfl)
     have f2 : X.cell? ⟨wr.heap.size, 2, none⟩ = some (.int .i64 er) := (hS.hb.cell (p := ⟨wr.heap.size, 2, none⟩) (lt_heap HFh.out)).trans (ce HFh.out rfl)
     have f3 : X.cell? ⟨wr.heap.size, 3, none⟩ = some (.int .i64 ek) := (hS.hb.cell (p := ⟨wr.heap.size, 3, none⟩) (lt_heap HFh.out)).trans (ce HFh.out rfl)
     have f4 : X.cell? ⟨wr.heap.size, 4, none⟩ = some (.string est) := (hS.hb.cell (p := ⟨wr.heap.size, 4, none⟩) (lt_heap HFh.out)).trans (ce HFh.out rfl)
     have f5 : X.cell? ⟨wr.heap.size, 5, none⟩ = some (.string ev) := (hS.hb.cell (p := ⟨wr.heap.size, 5, none⟩) (lt_heap HFh.out)).trans (ce HFh.out rfl)
     match i, hlt with
     | 0, _ =>
      obtain rfl := Option.some.inj ho
      refine op_go rfl rfl ?_
      go_simp
      refine ⟨x8, .pointer (some ⟨w.heap.size, 0, none⟩), x43, x44, x45, x46, x47, x48, x49, x50, x51, x52, rfl, .inr ⟨by rw [getD_set_ne false (by decide)]; exact h12, ?_⟩⟩
      exact ⟨hS.hb, fun _ => rfl, fun h => hS.p1 (gO h), fun h => hS.p2 (gO h), fun h => hS.p3 (gO h), fun h => hS.p4 (gO h), fun h => hS.p5 (gO h), fun h h' => hS.p6 (gO h) (gF h'), fun h => hS.p7 (gO h), fun h h' => (hS.p8 (gO h) (gF h')).imp fun g hg => ⟨hg.1, hg.2⟩, fun h => hS.p9 (gO h), fun h => ⟨(hS.p10 (gO h)).1, getD_set_true (hS.p10 (gO h)).2⟩, fun h => hS.p11 (gO h)⟩
     | 1, _ =>
      obtain rfl := Option.some.inj ho
      have q0 := hdep ⟨0, .data⟩ (by simp) rfl
      obtain rfl := hS.p0 q0
      refine op_go rfl rfl ?_
      go_simp
      refine ⟨x8, .pointer (some ⟨w.heap.size, 0, none⟩), .agg #[.slice a1 ss.length k1, .slice a2 fs.length k2], x44, x45, x46, x47, x48, x49, x50, x51, x52, rfl, .inr ⟨by rw [getD_set_ne false (by decide)]; exact h12, ?_⟩⟩
      exact ⟨hS.hb, fun h => hS.p0 (gO h), fun _ => rfl, fun h => hS.p2 (gO h), fun h => hS.p3 (gO h), fun h => hS.p4 (gO h), fun h => hS.p5 (gO h), fun h h' => hS.p6 (gO h) (gF h'), fun h => hS.p7 (gO h), fun h h' => (hS.p8 (gO h) (gF h')).imp fun g hg => ⟨hg.1, hg.2⟩, fun h => hS.p9 (gO h), fun h => ⟨(hS.p10 (gO h)).1, getD_set_true (hS.p10 (gO h)).2⟩, fun h => hS.p11 (gO h)⟩
     | 2, _ =>
      obtain rfl := Option.some.inj ho
      refine op_go rfl rfl ?_
      go_simp
      refine ⟨x8, x42, x43, .pointer (some ⟨b5, 2, none⟩), x45, x46, x47, x48, x49, x50, x51, x52, rfl, .inr ⟨by rw [getD_set_ne false (by decide)]; exact h12, ?_⟩⟩
      exact ⟨hS.hb, fun h => hS.p0 (gO h), fun h => hS.p1 (gO h), fun _ => rfl, fun h => hS.p3 (gO h), fun h => hS.p4 (gO h), fun h => hS.p5 (gO h), fun h h' => hS.p6 (gO h) (gF h'), fun h => hS.p7 (gO h), fun h h' => (hS.p8 (gO h) (gF h')).imp fun g hg => ⟨hg.1, hg.2⟩, fun h => hS.p9 (gO h), fun h => ⟨(hS.p10 (gO h)).1, getD_set_true (hS.p10 (gO h)).2⟩, fun h => hS.p11 (gO h)⟩
     | 3, _ =>
      obtain rfl := Option.some.inj ho
      have q2 := hdep ⟨2, .data⟩ (by simp) rfl
      obtain rfl := hS.p2 q2
      refine op_go rfl rfl ?_
      go_simp
      refine ⟨x8, x42, x43, .pointer (some ⟨b5, 2, none⟩), .slice b6 E.length c6, x46, x47, x48, x49, x50, x51, x52, rfl, .inr ⟨by rw [getD_set_ne false (by decide)]; exact h12, ?_⟩⟩
      exact ⟨hS.hb, fun h => hS.p0 (gO h), fun h => hS.p1 (gO h), fun h => hS.p2 (gO h), fun _ => rfl, fun h => hS.p4 (gO h), fun h => hS.p5 (gO h), fun h h' => hS.p6 (gO h) (gF h'), fun h => hS.p7 (gO h), fun h h' => (hS.p8 (gO h) (gF h')).imp fun g hg => ⟨hg.1, hg.2⟩, fun h => hS.p9 (gO h), fun h => ⟨(hS.p10 (gO h)).1, getD_set_true (hS.p10 (gO h)).2⟩, fun h => hS.p11 (gO h)⟩
     | 4, _ =>
      obtain rfl := Option.some.inj ho
      refine op_go rfl rfl ?_
      go_simp
      refine ⟨x8, x42, x43, x44, x45, .pointer (some ⟨wr.heap.size, 2, none⟩), x47, x48, x49, x50, x51, x52, rfl, .inr ⟨by rw [getD_set_ne false (by decide)]; exact h12, ?_⟩⟩
      exact ⟨hS.hb, fun h => hS.p0 (gO h), fun h => hS.p1 (gO h), fun h => hS.p2 (gO h), fun h => hS.p3 (gO h), fun _ => rfl, fun h => hS.p5 (gO h), fun h h' => hS.p6 (gO h) (gF h'), fun h => hS.p7 (gO h), fun h h' => (hS.p8 (gO h) (gF h')).imp fun g hg => ⟨hg.1, hg.2⟩, fun h => hS.p9 (gO h), fun h => ⟨(hS.p10 (gO h)).1, getD_set_true (hS.p10 (gO h)).2⟩, fun h => hS.p11 (gO h)⟩
     | 5, _ =>
      obtain rfl := Option.some.inj ho
      have q4 := hdep ⟨4, .data⟩ (by simp) rfl
      obtain rfl := hS.p4 q4
      refine op_go rfl rfl ?_
      go_simp
      refine ⟨x8, x42, x43, x44, x45, .pointer (some ⟨wr.heap.size, 2, none⟩), .int .i64 er, x48, x49, x50, x51, x52, rfl, .inr ⟨by rw [getD_set_ne false (by decide)]; exact h12, ?_⟩⟩
      exact ⟨hS.hb, fun h => hS.p0 (gO h), fun h => hS.p1 (gO h), fun h => hS.p2 (gO h), fun h => hS.p3 (gO h), fun h => hS.p4 (gO h), fun _ => rfl, fun h h' => hS.p6 (gO h) (gF h'), fun h => hS.p7 (gO h), fun h h' => (hS.p8 (gO h) (gF h')).imp fun g hg => ⟨hg.1, hg.2⟩, fun h => hS.p9 (gO h), fun h => ⟨(hS.p10 (gO h)).1, getD_set_true (hS.p10 (gO h)).2⟩, fun h => hS.p11 (gO h)⟩
     | 6, _ =>
      obtain rfl := Option.some.inj ho
      have q3 := hdep ⟨3, .data⟩ (by simp) rfl
      have q5 := hdep ⟨5, .data⟩ (by simp) rfl
      obtain rfl := hS.p3 q3
      obtain rfl := hS.p5 q5
      refine op_go rfl rfl ?_
      go_simp
      refine (l04Run_any b6 c6 E er X ((sl_of_own HOh.out.o6).stay hS.hb (Nat.le_refl _)) (by omega)).mono ?_
      rintro x X' ⟨v, rfl, hv, hq⟩
      refine ⟨x8, x42, x43, x44, .slice b6 E.length c6, x46, .int .i64 er, v, x49, x50, x51, x52, rfl, .inr ⟨by rw [getD_set_ne false (by decide)]; exact h12, ?_⟩⟩
      constructor
      ·exact hS.hb.trans (hq.mono hS.hb.size)
      ·exact fun h => hS.p0 (gO h)
      ·exact fun h => hS.p1 (gO h)
      ·exact fun h => hS.p2 (gO h)
      ·exact fun h => hS.p3 (gO h)
      ·exact fun h => hS.p4 (gO h)
      ·exact fun h => hS.p5 (gO h)
      ·exact fun _ _ => ownB_le hv hS.hb.size
      ·exact fun h => hS.p7 (gO h)
      ·exact fun h h' => (hS.p8 (gO h) (gF h')).imp fun g hg => ⟨hg.1, (hq.block g (lt_heap hg.2)).trans hg.2⟩
      ·exact fun h => ownB_stay (hS.p9 (gO h)) hq
      ·intro h; obtain ⟨⟨u3, u4, u5, e1, e2⟩, e3⟩ := hS.p10 (gO h); exact ⟨⟨u3, u4, u5, e1, e2.stay hq⟩, getD_set_true e3⟩
      ·exact fun h => (hS.p11 (gO h)).imp fun g hg => ⟨hg.1, hg.2.1, (hq.block g (lt_heap hg.2.2)).trans hg.2.2⟩
     | 7, _ =>
      obtain rfl := Option.some.inj ho
      refine op_go rfl rfl ?_
      go_simp
      refine ⟨x8, x42, x43, x44, x45, x46, x47, x48, .agg #[.int .i64 (nx + (k : Int)), .int .i64 et, .int .i64 er, .int .i64 ek, .string est, .string ev], x50, x51, x52, rfl, .inr ⟨by rw [getD_set_ne false (by decide)]; exact h12, ?_⟩⟩
      exact ⟨hS.hb, fun h => hS.p0 (gO h), fun h => hS.p1 (gO h), fun h => hS.p2 (gO h), fun h => hS.p3 (gO h), fun h => hS.p4 (gO h), fun h => hS.p5 (gO h), fun h h' => hS.p6 (gO h) (gF h'), fun _ => rfl, fun h h' => (hS.p8 (gO h) (gF h')).imp fun g hg => ⟨hg.1, hg.2⟩, fun h => hS.p9 (gO h), fun h => ⟨(hS.p10 (gO h)).1, getD_set_true (hS.p10 (gO h)).2⟩, fun h => hS.p11 (gO h)⟩
     | 8, _ =>
      obtain rfl := Option.some.inj ho
      have q7 := hdep ⟨7, .data⟩ (by simp) rfl
      obtain rfl := hS.p7 q7
      refine op_go rfl rfl ?_
      go_simp
      have hq : Below X.heap.size X (X.alloc (.cells #[.int .i64 (nx + (k : Int)), .int .i64 et, .int .i64 er, .int .i64 ek, .string est, .string ev] 57)) := (Below.refl _ _).alloc (Nat.le_refl _) _
      refine ⟨x8, x42, x43, x44, x45, x46, x47, x48, .agg #[.int .i64 (nx + (k : Int)), .int .i64 et, .int .i64 er, .int .i64 ek, .string est, .string ev], .slice (some ⟨X.heap.size, 0, none⟩) 1 1, x51, x52, rfl, .inr ⟨by rw [getD_set_ne false (by decide)]; exact h12, ?_⟩⟩
      constructor
      ·exact hS.hb.trans (hq.mono hS.hb.size)
      ·exact fun h => hS.p0 (gO h)
      ·exact fun h => hS.p1 (gO h)
      ·exact fun h => hS.p2 (gO h)
      ·exact fun h => hS.p3 (gO h)
      ·exact fun h => hS.p4 (gO h)
      ·exact fun h => hS.p5 (gO h)
      ·exact fun h h' => ownB_stay (hS.p6 (gO h) (gF h')) hq
      ·exact fun h => hS.p7 (gO h)
      ·exact fun _ _ => ⟨X.heap.size, rfl, heap_alloc_new X _⟩
      ·exact fun h => ownB_stay (hS.p9 (gO h)) hq
      ·intro h; obtain ⟨⟨u3, u4, u5, e1, e2⟩, e3⟩ := hS.p10 (gO h); exact ⟨⟨u3, u4, u5, e1, e2.stay hq⟩, getD_set_true e3⟩
      ·exact fun h => (hS.p11 (gO h)).imp fun g hg => ⟨hg.1, hg.2.1, (hq.block g (lt_heap hg.2.2)).trans hg.2.2⟩
     | 9, _ =>
      obtain rfl := Option.some.inj ho
      have q6 := hdep ⟨6, .data⟩ (by simp) rfl
      have q8 := hdep ⟨8, .data⟩ (by simp) rfl
      have hO6 := hS.p6 q6 (getD_unl hun)
      obtain ⟨g8, rfl, hg8⟩ := hS.p8 q8 (getD_unl hun)
      have hX : CellsSl X (.slice (some ⟨g8, 0, none⟩) 1 1) 6 1 [.int .i64 (nx + (k : Int)), .int .i64 et, .int .i64 er, .int .i64 ek, .string est, .string ev] := ⟨rfl, by intro u hu; simp at hu; rcases hu with rfl | rfl | rfl | rfl | rfl | rfl <;> rfl, .inr ⟨⟨g8, 0, none⟩, 1, rfl, fun j u hj => by rw [Addr.add_lit, Lib.cell_of_heap hg8]; simpa using hj⟩⟩
      have hrl := ofRun_len E er
      refine op_go rfl rfl ?_
      refine wp_append_sl _ _ 34 rfl V4.heap.size 57 _ _ 6 64 Tryz.underlying34 hm hm0 hm1 hm2 rfl (by decide) _ _ _ rfl hO6 1 _ _ rfl hX (by unfold maxLen; dsimp only; omega) (by dsimp only; omega) hS.hb.size ?_
      intro v' X' ho' hg
      refine ⟨x8, x42, x43, x44, x45, x46, x47, x48, x49, .slice (some ⟨g8, 0, none⟩) 1 1, v', x52, rfl, .inr ⟨by rw [getD_set_ne false (by decide)]; exact h12, ?_⟩⟩
      exact ⟨hS.hb.grown hg hS.hb.size (fun k e => (hO6.lt k e).1), fun h => hS.p0 (gO h), fun h => hS.p1 (gO h), fun h => hS.p2 (gO h), fun h => hS.p3 (gO h), fun h => hS.p4 (gO h), fun h => hS.p5 (gO h), fun _ h' => absurd h' (by rw [getD_self hun]; decide), fun h => hS.p7 (gO h), fun _ h' => absurd h' (by rw [getD_self hun]; decide), fun _ => (by rw [List.length_append, List.flatMap_append]; exact ho'), fun h => unl_abs (hS.p10 (gO h)).2 hun, fun h => (hS.p11 (gO h)).imp fun g hg' => ⟨hg'.1, hg'.2.1, (hg.block g (lt_heap hg'.2.2) (fun e9 => own_ne hO6 hg'.2.2 (by decide) g e9.symm rfl)).trans hg'.2.2⟩⟩
     | 10, _ =>
      obtain rfl := Option.some.inj ho
      have q1 := hdep ⟨1, .data⟩ (by simp) rfl
      have q9 := hdep ⟨9, .data⟩ (by simp) rfl
      obtain rfl := hS.p1 q1
      have hO9 := hS.p9 q9
      obtain ⟨L9, hL9⟩ : ∃ L, L = ofRun E er ++ [(⟨nx + (k : Int), et, er, ek, est, ev⟩ : Ev)] := ⟨_, rfl⟩
      rw [← hL9] at hO9
      have HG9 := HG.out
      rw [← hL9] at HG9
      have HL9 := hid hL9
      have HG9 := hid HG9
      have H9 := hid hO9
      obtain ⟨a9, c9, rfl⟩ := ownB_form hO9
      clear hO9 hL9
      refine op_go rfl rfl ?_
      go_simp
      refine (l03Of_any a1 a2 a9 k1 k2 c9 ss fs L9 X ((HD.out.stay HBh2.out).stay hS.hb) (sl_of_own H9.out) HP.out.h.d HG9.out.1 HG9.out.2).mono ?_
      rintro x X' ⟨u3, u4, u5, rfl, hu, hq⟩
      have hL9 := HL9.out
      clear HL9 HG9 H9
      subst hL9
      refine ⟨x8, x42, .agg #[.slice a1 ss.length k1, .slice a2 fs.length k2], x44, x45, x46, x47, x48, x49, x50, _, _, rfl, .inr ⟨by rw [getD_set_ne false (by decide)]; exact h12, ?_⟩⟩
      exact ⟨hS.hb.trans (hq.mono hS.hb.size), fun h => hS.p0 (gO h), fun h => hS.p1 (gO h), fun h => hS.p2 (gO h), fun h => hS.p3 (gO h), fun h => hS.p4 (gO h), fun h => hS.p5 (gO h), fun h h' => ownB_stay (hS.p6 (gO h) (gF h')) hq, fun h => hS.p7 (gO h), fun h h' => (hS.p8 (gO h) (gF h')).imp fun g hg => ⟨hg.1, (hq.block g (lt_heap hg.2)).trans hg.2⟩, fun h => ownB_stay (hS.p9 (gO h)) hq, fun _ => ⟨⟨u3, u4, u5, rfl, hu.le hS.hb.size⟩, getD_set_true q9⟩, fun h => (hS.p11 (gO h)).imp fun g hg => ⟨hg.1, hg.2.1, (hq.block g (lt_heap hg.2.2)).trans hg.2.2⟩⟩
     | 11, _ =>
      obtain rfl := Option.some.inj ho
      refine op_go rfl rfl ?_
      go_simp
      have hq : Below X.heap.size X (X.alloc (.cells #[.int .i64 0, .int .i64 0, .int .i64 0, .slice none 0 0, .slice none 0 0, .slice none 0 0, .int .i64 0, .int .i64 0] 83)) := (Below.refl _ _).alloc (Nat.le_refl _) _
      refine ⟨.pointer (some ⟨X.heap.size, 0, none⟩), x42, x43, x44, x45, x46, x47, x48, x49, x50, x51, x52, rfl, .inr ⟨by rw [getD_set_ne false (by decide)]; exact h12, ?_⟩⟩
      constructor
      ·exact hS.hb.trans (hq.mono hS.hb.size)
      ·exact fun h => hS.p0 (gO h)
      ·exact fun h => hS.p1 (gO h)
      ·exact fun h => hS.p2 (gO h)
      ·exact fun h => hS.p3 (gO h)
      ·exact fun h => hS.p4 (gO h)
      ·exact fun h => hS.p5 (gO h)
      ·exact fun h h' => ownB_stay (hS.p6 (gO h) (gF h')) hq
      ·exact fun h => hS.p7 (gO h)
      ·exact fun h h' => (hS.p8 (gO h) (gF h')).imp fun g hg => ⟨hg.1, (hq.block g (lt_heap hg.2)).trans hg.2⟩
      ·exact fun h => ownB_stay (hS.p9 (gO h)) hq
      ·intro h; obtain ⟨⟨u3, u4, u5, e1, e2⟩, e3⟩ := hS.p10 (gO h); exact ⟨⟨u3, u4, u5, e1, e2.stay hq⟩, getD_set_true e3⟩
      ·exact fun _ => ⟨X.heap.size, rfl, hS.hb.size, heap_alloc_new X _⟩
     | 12, _ =>
      obtain rfl := Option.some.inj ho
      have q11 := hdep ⟨11, .data⟩ (by simp) rfl
      have q10 := hdep ⟨10, .data⟩ (by simp) rfl
      obtain ⟨⟨u3, u4, u5, hx, hu⟩, q9⟩ := hS.p10 q10
      obtain ⟨g8, rfl, hg1, hg8⟩ := hS.p11 q11
      obtain ⟨R9, hR9⟩ : ∃ R, R = ofS ss fs (ofRun E er ++ [(⟨nx + (k : Int), et, er, ek, est, ev⟩ : Ev)]) z0 := ⟨_, rfl⟩
      rw [← hR9] at hx hu
      subst hx
      have HR9 := hid hR9
      clear hR9
      obtain ⟨i3, j3, rfl⟩ := ownB_form hu.o3
      obtain ⟨i4, j4, rfl⟩ := ownB_form hu.o4
      obtain ⟨i5, j5, rfl⟩ := ownB_form hu.o5
      have s0 : X.cell? ⟨g8, 0, none⟩ = some (.int .i64 0) := ce hg8 rfl
      have s1 : X.cell? ⟨g8, 1, none⟩ = some (.int .i64 0) := ce hg8 rfl
      have s2 : X.cell? ⟨g8, 2, none⟩ = some (.int .i64 0) := ce hg8 rfl
      have s3 : X.cell? ⟨g8, 3, none⟩ = some (.slice none 0 0) := ce hg8 rfl
      have s4 : X.cell? ⟨g8, 4, none⟩ = some (.slice none 0 0) := ce hg8 rfl
      have s5 : X.cell? ⟨g8, 5, none⟩ = some (.slice none 0 0) := ce hg8 rfl
      have s6 : X.cell? ⟨g8, 6, none⟩ = some (.int .i64 0) := ce hg8 rfl
      have s7 : X.cell? ⟨g8, 7, none⟩ = some (.int .i64 0) := ce hg8 rfl
      have sf := Lib.frozen_of_heap hg8
      unfold outV
      refine op_go rfl rfl ?_
      go_simp
      have hF := (blk_set (L := [_, _, _, _, _, _, _, _]) (i := 7) (blk_set (L := [_, _, _, _, _, _, _, _]) (i := 6) (blk_set (L := [_, _, _, _, _, _, _, _]) (i := 5) (blk_set (L := [_, _, _, _, _, _, _, _]) (i := 4) (blk_set (L := [_, _, _, _, _, _, _, _]) (i := 3) (blk_set (L := [_, _, _, _, _, _, _, _]) (i := 2) (blk_set (L := [_, _, _, _, _, _, _, _]) (i := 1) (blk_set (L := [_, _, _, _, _, _, _, _]) (i := 0) hg8 (.int .i64 R9.2.status)) (.int .i64 R9.2.begun)) (.int .i64 R9.2.last)) (.slice i3 R9.2.wait.length j3)) (.slice i4 R9.2.busy.length j4)) (.slice i5 R9.2.vars.length j5)) (.int .i64 R9.2.faults)) (.int .i64 R9.1))
      have hC := ((((((((Chg.of_grown (p := fun j => j = g8) (grown_set X g8 0 (.int .i64 R9.2.status)) rfl).trans (Chg.of_grown (grown_set _ g8 1 (.int .i64 R9.2.begun)) rfl)).trans (Chg.of_grown (grown_set _ g8 2 (.int .i64 R9.2.last)) rfl)).trans (Chg.of_grown (grown_set _ g8 3 (.slice i3 R9.2.wait.length j3)) rfl)).trans (Chg.of_grown (grown_set _ g8 4 (.slice i4 R9.2.busy.length j4)) rfl)).trans (Chg.of_grown (grown_set _ g8 5 (.slice i5 R9.2.vars.length j5)) rfl)).trans (Chg.of_grown (grown_set _ g8 6 (.int .i64 R9.2.faults)) rfl)).trans (Chg.of_grown (grown_set _ g8 7 (.int .i64 R9.1)) rfl))
      refine ⟨_, x42, x43, x44, x45, x46, x47, x48, x49, x50, x51, _, rfl, .inl ⟨getD_self hun, fun j hj => ?_, g8, rfl, ?_, ?_⟩⟩
      ·rw [getD_set_ne false (by omega)]
       match j, hj with
       | 0, _ => exact hdep ⟨0, .phase⟩ (by simp) rfl
       | 1, _ => exact hdep ⟨1, .phase⟩ (by simp) rfl
       | 2, _ => exact hdep ⟨2, .phase⟩ (by simp) rfl
       | 3, _ => exact hdep ⟨3, .phase⟩ (by simp) rfl
       | 4, _ => exact hdep ⟨4, .phase⟩ (by simp) rfl
       | 5, _ => exact hdep ⟨5, .phase⟩ (by simp) rfl
       | 6, _ => exact hdep ⟨6, .phase⟩ (by simp) rfl
       | 7, _ => exact hdep ⟨7, .phase⟩ (by simp) rfl
       | 8, _ => exact hdep ⟨8, .phase⟩ (by simp) rfl
       | 9, _ => exact hdep ⟨9, .phase⟩ (by simp) rfl
       | 10, _ => exact hdep ⟨10, .phase⟩ (by simp) rfl
       | 11, _ => exact hdep ⟨11, .phase⟩ (by simp) rfl
       | n + 12, h => exact absurd h (by omega)
      ·rw [← HR9.out, Lib.cell_of_heap hF]; rfl
      ·exact hS.hb.trans (hC.below hS.hb.size (fun j (h : j = _) => by omega))
   case fin =>
    rintro listed a X ⟨x8, x42, x43, x44, x45, x46, x47, x48, x49, x50, x51, x52, rfl, hR⟩ hall
    have h12 : listed.getD 12 false = true := hall 12 (by decide)
    rcases hR with ⟨_, _, g8, rfl, hc8, hbX⟩ | ⟨h, _⟩
    rotate_left
    ·rw [h12] at h; cases h
    have hcc : X.cell? ⟨g8, 7, none⟩ = some (.int .i64 (inC ss fs E (nx + (k : Int)) (⟨es0, et, er, ek, est, ev⟩ : Ev))) := hc8.trans (congrArg (fun z => some (Value.int .i64 z)) (inC_right HI.out.r (nx + (k : Int)) (⟨es0, et, er, ek, est, ev⟩ : Ev)))
    have HSn := hid (fun h0 : inC ss fs E (nx + (k : Int)) (⟨es0, et, er, ek, est, ev⟩ : Ev) = 0 => HI.out.r.snoc h0)
    clear hc8 h12 hall
    have HRx := hid ((hbX.block _ (lt_heap HRh.out)).trans HRh.out)
    have HTx := hid ((hbX.block _ (lt_heap HTh.out)).trans HTh.out)
    have HFx := hid ((hbX.block _ (lt_heap HFh.out)).trans HFh.out)
    have HOx := hid (HOh.out.stay hbX)
    have HBx2 := hid (HBh2.out.trans (hbX.mono HBh2.out.size))
    have HBx := hid (HBh.out.trans (hbX.mono (by have := HBh.out.size; omega)))
    have hzx := hbX.size
    clear hbX HRh HTh HFh HOh HAh HBh HBh2
    generalize inC ss fs E (nx + (k : Int)) (⟨es0, et, er, ek, est, ev⟩ : Ev) = c at *
    by_cases hc : c = 0
    rotate_left
    ·have hcb : (c == 0) = false := beq_eq_false_iff_ne.2 hc
     have r0 : X.cell? ⟨w.heap.size + 1, 0, none⟩ = some (.slice none 0 0) := ce HRx.out rfl
     have r1 : X.cell? ⟨w.heap.size + 1, 1, none⟩ = some (.slice none 0 0) := ce HRx.out rfl
     have r2 : X.cell? ⟨w.heap.size + 1, 2, none⟩ = some (.slice none 0 0) := ce HRx.out rfl
     have r3 : X.cell? ⟨w.heap.size + 1, 3, none⟩ = some (.int .i64 0) := ce HRx.out rfl
     have r4 : X.cell? ⟨w.heap.size + 1, 4, none⟩ = some (.int .i64 0) := ce HRx.out rfl
     have r5 : X.cell? ⟨w.heap.size + 1, 5, none⟩ = some (.int .i64 0) := ce HRx.out rfl
     have rf := Lib.frozen_of_heap HRx.out
     have HQ := hid (out_code ss fs k (c) hc HBx2.out (by have := (show w.heap.size + 1 + 1 ≤ X.heap.size by omega); omega) HRx.out)
     go_wp2_with fail
     have hF := HQ.out.1
     unfold outSet at hF
     have z0 := Lib.cell_of_heap hF (j := 0)
     have z1 := Lib.cell_of_heap hF (j := 1)
     have z2 := Lib.cell_of_heap hF (j := 2)
     have z3 := Lib.cell_of_heap hF (j := 3)
     have z4 := Lib.cell_of_heap hF (j := 4)
     have z5 := Lib.cell_of_heap hF (j := 5)
     simp at z0 z1 z2 z3 z4 z5
     exact bodyPost_ret (v := .agg #[.slice none 0 0, .slice none 0 0, .slice none 0 0, .int .i64 0, .int .i64 (k : Nat), .int .i64 (c)]) (by simp [results, Tryz.results23, go_sem, z0, z1, z2, z3, z4, z5]) rfl (by rw [HQ2.out HFl.out hc]; exact HQ.out.2)
    subst hc
    have hfl := HFl.out
    have t0 : X.cell? ⟨b5, 0, none⟩ = some (.slice b1 ss.length c1) := ce HTx.out rfl
    have t1 : X.cell? ⟨b5, 1, none⟩ = some (.slice b2 fs.length c2) := ce HTx.out rfl
    have t2 : X.cell? ⟨b5, 2, none⟩ = some (.slice b6 E.length c6) := ce HTx.out rfl
    have t3 : X.cell? ⟨b5, 3, none⟩ = some (.int .i64 (nx + k)) := ce HTx.out rfl
    have f0 : X.cell? ⟨wr.heap.size, 0, none⟩ = some (.int .i64 (nx + k)) := ce HFx.out rfl
    have f1 : X.cell? ⟨wr.heap.size, 1, none⟩ = some (.int .i64 et) := ce HFx.out rfl
    have f2 : X.cell? ⟨wr.heap.size, 2, none⟩ = some (.int .i64 er) := ce HFx.out rfl
    have f3 : X.cell? ⟨wr.heap.size, 3, none⟩ = some (.int .i64 ek) := ce HFx.out rfl
    have f4 : X.cell? ⟨wr.heap.size, 4, none⟩ = some (.string est) := ce HFx.out rfl
    have f5 : X.cell? ⟨wr.heap.size, 5, none⟩ = some (.string ev) := ce HFx.out rfl
    have tf := Lib.frozen_of_heap HTx.out
    have hbs : Below X.heap.size X (X.alloc (.cells #[.int .i64 (nx + k), .int .i64 et, .int .i64 er, .int .i64 ek, .string est, .string ev] 57)) := (Below.refl _ _).alloc (Nat.le_refl _) _
    have HO7 := hid (HOx.out.stay hbs)
    have HT7 := hid ((hbs.block _ (lt_heap HTx.out)).trans HTx.out)
    have HX7 := hid (ev_made X (nx + (k : Int)) et er ek est ev)
    have HB7 := hid (HBx.out.trans (hbs.mono (by have := HBx.out.size; omega)))
    have hz7 : (X.alloc (.cells #[.int .i64 (nx + k), .int .i64 et, .int .i64 er, .int .i64 ek, .string est, .string ev] 57)).heap.size = X.heap.size + 1 := by simp
    clear hbs
    go_wp2_with (first | (at_builtin; refine wpList_append_sl rfl _ _ 34 rfl (w.heap.size + 1 + 1) 57 m0 _ 6 64 Tryz.underlying34 hm hm0 hm1 hm2 rfl (by decide) _ E.length (E.flatMap Ev.cells) rfl HO7.out.o6 1 _ _ rfl HX7.out ?c2 ?c3 ?c4 ?_) | fail)
    case c2 => unfold maxLen; omega
    case c3 => omega
    case c4 => omega
    intro v' X' ho' hg
    obtain ⟨a9, c9, rfl⟩ := ownB_form ho'
    have HT8 := hid ((hg.block _ (lt_heap HT7.out) (fun e9 => own_ne HO7.out.o6 HT7.out (by decide) _ e9.symm rfl)).trans HT7.out)
    have hD8 : DefOwn X' (w.heap.size + 1 + 1) (.slice b1 ss.length c1) (.slice b2 fs.length c2) ss fs := ⟨own_other HO7.out.d.o1 HO7.out.o6 (by decide) hg, own_other HO7.out.d.o2 HO7.out.o6 (by decide) hg⟩
    have HO8 := hid (show SvOwn X' (w.heap.size + 1 + 1) (.slice b1 ss.length c1) (.slice b2 fs.length c2) (.slice a9 (E ++ [(⟨nx + (k : Int), et, er, ek, est, ev⟩ : Ev)]).length c9) ss fs (E ++ [(⟨nx + (k : Int), et, er, ek, est, ev⟩ : Ev)]) from ⟨hD8, by rw [List.length_append, List.flatMap_append]; exact ho'⟩)
    have HB8 := hid ((HI.out.b.trans (HB7.out.mono hszr)).grown hg (by have := HB7.out.size; omega) (fun j e9 => (HO7.out.o6.lt j e9).1))
    have hz8 := hg.size
    clear hD8 ho' hg t0 t1 t2 t3 tf f0 f1 f2 f3 f4 f5
    have t0 : X'.cell? ⟨b5, 0, none⟩ = some (.slice b1 ss.length c1) := ce HT8.out rfl
    have t1 : X'.cell? ⟨b5, 1, none⟩ = some (.slice b2 fs.length c2) := ce HT8.out rfl
    have t2 : X'.cell? ⟨b5, 2, none⟩ = some (.slice b6 E.length c6) := ce HT8.out rfl
    have t3 : X'.cell? ⟨b5, 3, none⟩ = some (.int .i64 (nx + k)) := ce HT8.out rfl
    have tf := Lib.frozen_of_heap HT8.out
    go_upto_region 17 with fail
    have hC : Chg (fun j => j = b5) X' (X'.setCell ⟨b5, 2, none⟩ (.slice a9 (E.length + 1) c9)) := Chg.of_grown (grown_set _ b5 2 _) rfl
    have HT9 := hid (show (X'.setCell ⟨b5, 2, none⟩ (.slice a9 (E.length + 1) c9)).heap[b5]? = some (.cells #[.slice b1 ss.length c1, .slice b2 fs.length c2, .slice a9 (E.length + 1) c9, .int .i64 (nx + (k : Int))] 36 (0, 0)) from blk_set (L := [_, _, _, _]) (i := 2) HT8.out _)
    have HO9 := hid (HO8.out.chg hC (own_ne HO8.out.d.o1 HT8.out (by decide)) (own_ne HO8.out.d.o2 HT8.out (by decide)) (own_ne HO8.out.o6 HT8.out (by decide)))
    have HB9 := hid (HB8.out.trans (hC.below (by have := HB8.out.size; have := HZ.out; omega) (fun j (h : j = _) => by omega)))
    have hz9 := hC.size
    clear hC t0 t1 t2 t3 tf
    generalize (X'.setCell ⟨b5, 2, none⟩ (.slice a9 (E.length + 1) c9)) = Y at *
    have t0 : Y.cell? ⟨b5, 0, none⟩ = some (.slice b1 ss.length c1) := ce HT9.out rfl
    have t1 : Y.cell? ⟨b5, 1, none⟩ = some (.slice b2 fs.length c2) := ce HT9.out rfl
    have t2 : Y.cell? ⟨b5, 2, none⟩ = some (.slice a9 (E.length + 1) c9) := ce HT9.out rfl
    have t3 : Y.cell? ⟨b5, 3, none⟩ = some (.int .i64 (nx + (k : Int))) := ce HT9.out rfl
    have tf := Lib.frozen_of_heap HT9.out
    go_wp2_with fail
    have hC : Chg (fun j => j = b5) Y (Y.setCell ⟨b5, 3, none⟩ (.int .i64 (nx + (k : Int) + 1))) := Chg.of_grown (grown_set _ b5 3 _) rfl
    have hkk : nx + ((k + 1 : Nat) : Int) = nx + (k : Int) + 1 := by omega
    refine ⟨⟨k + 1, by omega, by simp, E ++ [(⟨nx + (k : Int), et, er, ek, est, ev⟩ : Ev)], b1, b2, a9, c1, c2, c9, ⟨?_, ?_, HSn.out (by first | exact rfl | trivial), ?_, ?_, ?_, ?_⟩⟩, by simp [intOf]; omega⟩
    ·rw [hkk]; exact HQ3.out hfl (by first | exact rfl | trivial)
    ·have := HI.out.n; rw [List.length_append]; simp; omega
    ·intro i hi
     by_cases h9 : i < E.length
     ·rw [List.getElem_append_left h9]; exact HI.out.f i h9
     ·have h8 := HFk.out
      rw [List.getElem_append_right (by omega)]; simpa using h8
    ·rw [hkk, List.length_append]; exact blk_set (L := [_, _, _, _]) (i := 3) HT9.out _
    ·exact HO9.out.chg hC (own_ne HO9.out.d.o1 HT9.out (by decide)) (own_ne HO9.out.d.o2 HT9.out (by decide)) (own_ne HO9.out.o6 HT9.out (by decide))
    ·exact HB9.out.trans (hC.below (by have := HB9.out.size; have := HZ.out; omega) (fun j (h : j = _) => by omega))
  ·obtain rfl : k = l.length := by omega
   have t0 : wr.cell? ⟨b5, 0, none⟩ = some (.slice b1 ss.length c1) := ce HI.out.t rfl
   have t1 : wr.cell? ⟨b5, 1, none⟩ = some (.slice b2 fs.length c2) := ce HI.out.t rfl
   have t2 : wr.cell? ⟨b5, 2, none⟩ = some (.slice b6 E.length c6) := ce HI.out.t rfl
   have t3 : wr.cell? ⟨b5, 3, none⟩ = some (.int .i64 (nx + (l.length : Int))) := ce HI.out.t rfl
   have HEn := hid (show inL ss fs l es nx 0 = if 200 < E.length ∨ 1000000 < nx + (l.length : Int) then (9, 0, [], 0) else (0, l.length, E, nx + (l.length : Int)) by rw [HI.out.i, List.drop_length, inL_nil])
   by_cases h2 : 200 < E.length
   ·have bb : decide ((200 : Int) < (E.length : Int)) = true := by simp; omega
    have r0 : wr.cell? ⟨w.heap.size + 1, 0, none⟩ = some (.slice none 0 0) := ce HR0.out rfl
    have r1 : wr.cell? ⟨w.heap.size + 1, 1, none⟩ = some (.slice none 0 0) := ce HR0.out rfl
    have r2 : wr.cell? ⟨w.heap.size + 1, 2, none⟩ = some (.slice none 0 0) := ce HR0.out rfl
    have r3 : wr.cell? ⟨w.heap.size + 1, 3, none⟩ = some (.int .i64 0) := ce HR0.out rfl
    have r4 : wr.cell? ⟨w.heap.size + 1, 4, none⟩ = some (.int .i64 0) := ce HR0.out rfl
    have r5 : wr.cell? ⟨w.heap.size + 1, 5, none⟩ = some (.int .i64 0) := ce HR0.out rfl
    have rf := Lib.frozen_of_heap HR0.out
    have HQ := hid (out_code ss fs 0 (9) (by decide) hBr.out (by have := hszr; omega) HR0.out)
    go_wp2_with fail
    have hF := HQ.out.1
    unfold outSet at hF
    have z0 := Lib.cell_of_heap hF (j := 0)
    have z1 := Lib.cell_of_heap hF (j := 1)
    have z2 := Lib.cell_of_heap hF (j := 2)
    have z3 := Lib.cell_of_heap hF (j := 3)
    have z4 := Lib.cell_of_heap hF (j := 4)
    have z5 := Lib.cell_of_heap hF (j := 5)
    simp at z0 z1 z2 z3 z4 z5
    exact bodyPost_ret (v := .agg #[.slice none 0 0, .slice none 0 0, .slice none 0 0, .int .i64 0, .int .i64 (0 : Nat), .int .i64 (9)]) (by simp [results, Tryz.results23, go_sem, z0, z1, z2, z3, z4, z5]) rfl (by rw [HEn.out, if_pos (.inl h2)]; exact HQ.out.2)
   have bb : decide ((200 : Int) < (E.length : Int)) = false := by simp; omega
   by_cases h3 : 1000000 < nx + (l.length : Int)
   ·have bc : decide (1000000 < nx + (l.length : Int)) = true := decide_eq_true h3
    have r0 : wr.cell? ⟨w.heap.size + 1, 0, none⟩ = some (.slice none 0 0) := ce HR0.out rfl
    have r1 : wr.cell? ⟨w.heap.size + 1, 1, none⟩ = some (.slice none 0 0) := ce HR0.out rfl
    have r2 : wr.cell? ⟨w.heap.size + 1, 2, none⟩ = some (.slice none 0 0) := ce HR0.out rfl
    have r3 : wr.cell? ⟨w.heap.size + 1, 3, none⟩ = some (.int .i64 0) := ce HR0.out rfl
    have r4 : wr.cell? ⟨w.heap.size + 1, 4, none⟩ = some (.int .i64 0) := ce HR0.out rfl
    have r5 : wr.cell? ⟨w.heap.size + 1, 5, none⟩ = some (.int .i64 0) := ce HR0.out rfl
    have rf := Lib.frozen_of_heap HR0.out
    have HQ := hid (out_code ss fs 0 (9) (by decide) hBr.out (by have := hszr; omega) HR0.out)
    go_wp2_with fail
    have hF := HQ.out.1
    unfold outSet at hF
    have z0 := Lib.cell_of_heap hF (j := 0)
    have z1 := Lib.cell_of_heap hF (j := 1)
    have z2 := Lib.cell_of_heap hF (j := 2)
    have z3 := Lib.cell_of_heap hF (j := 3)
    have z4 := Lib.cell_of_heap hF (j := 4)
    have z5 := Lib.cell_of_heap hF (j := 5)
    simp at z0 z1 z2 z3 z4 z5
    exact bodyPost_ret (v := .agg #[.slice none 0 0, .slice none 0 0, .slice none 0 0, .int .i64 0, .int .i64 (0 : Nat), .int .i64 (9)]) (by simp [results, Tryz.results23, go_sem, z0, z1, z2, z3, z4, z5]) rfl (by rw [HEn.out, if_pos (.inr h3)]; exact HQ.out.2)
   have bc : decide (1000000 < nx + (l.length : Int)) = false := decide_eq_false h3
   have r0 : wr.cell? ⟨w.heap.size + 1, 0, none⟩ = some (.slice none 0 0) := ce HR0.out rfl
   have r1 : wr.cell? ⟨w.heap.size + 1, 1, none⟩ = some (.slice none 0 0) := ce HR0.out rfl
   have r2 : wr.cell? ⟨w.heap.size + 1, 2, none⟩ = some (.slice none 0 0) := ce HR0.out rfl
   have r3 : wr.cell? ⟨w.heap.size + 1, 3, none⟩ = some (.int .i64 0) := ce HR0.out rfl
   have r4 : wr.cell? ⟨w.heap.size + 1, 4, none⟩ = some (.int .i64 0) := ce HR0.out rfl
   have r5 : wr.cell? ⟨w.heap.size + 1, 5, none⟩ = some (.int .i64 0) := ce HR0.out rfl
   have rf := Lib.frozen_of_heap HR0.out
   have HQ := hid (out_set (nx + (l.length : Int)) (l.length : Int) 0 HI.out.o hBr.out hszr HR0.out)
   have HN2 := hid h2
   have HN3 := hid h3
   clear h2 h3
   go_wp2_with fail
   have hF := HQ.out.1
   unfold outSet at hF
   have z0 := Lib.cell_of_heap hF (j := 0)
   have z1 := Lib.cell_of_heap hF (j := 1)
   have z2 := Lib.cell_of_heap hF (j := 2)
   have z3 := Lib.cell_of_heap hF (j := 3)
   have z4 := Lib.cell_of_heap hF (j := 4)
   have z5 := Lib.cell_of_heap hF (j := 5)
   simp at z0 z1 z2 z3 z4 z5
   exact bodyPost_ret (v := osV b1 b2 b6 c1 c2 c6 ss fs E (nx + (l.length : Int)) l.length 0) (by simp [results, Tryz.results23, go_sem, z0, z1, z2, z3, z4, z5]) rfl (by rw [HEn.out, if_neg (fun h => by have := HN2.out; have := HN3.out; omega)]; exact ⟨ss, fs, b1, b2, b6, c1, c2, c6, fun _ => ⟨rfl, rfl⟩, fun h => absurd rfl h, rfl, HQ.out.2.1, HQ.out.2.2⟩)
end Go.Proofs.YtookchpdbilbcaaGreatDoor
