/-
 What (*impl.history).goOn does: a contract over the seat's program. (Made by mkgo.py.)
-/
import Derived.Test.YtookchpdbilbcaaGreatDoorZDfLaw5
import Derived.Test.YtookchpdbilbcaaGreatDoorZRowL4
import Derived.Test.YtookchpdbilbcaaGreatDoorZSpOf
import Derived.Test.YtookchpdbilbcaaGreatDoorZImOwn
import Derived.Test.YtookchpdbilbcaaGreatDoorZEvI8
import Derived.Deep.CutRange
set_option maxRecDepth 100000
set_option maxHeartbeats 4000000
namespace Go.Proofs.YtookchpdbilbcaaGreatDoor
open Go.RowKit Go.Sort Go.Maps
def GoPost (w : World) (lo B T bm n : Nat) (a1 a2 : Option Addr) (k1 k2 : Nat) (u : Value) (rest : List Value) (ss : List ByteArray) (fs : List Pr) (E : List Ev) (e : Ev) (x : Ending) (w' : World) : Prop :=
 x = .returned (.int .i64 (evS ss fs (runS ss fs E e.run) e).1) ∧
 ((evS ss fs (runS ss fs E e.run) e).1 = 0 → ∃ u', His w' lo B T bm (n + 1) a1 a2 k1 k2 u' rest ss fs (E ++ [e])) ∧
 (¬ (evS ss fs (runS ss fs E e.run) e).1 = 0 → His w' lo B T bm n a1 a2 k1 k2 u rest ss fs E) ∧ Chg (HisP B bm u) w w'
theorem ZF3 (w : World) : (zeroValue 81).run Tryz.prog w = .ok zSt w := by kernel_rfl
theorem ZEe {v x : Value} {ps : List MemPlace} (h : heldE v = some (.held x, ps)) : x = v := by
 unfold heldE at h
 injection h with h
 injection h with h _
 injection h with h
 exact h.symm
theorem ZH7 {w : World} {base size n : Nat} {e : TypeId} {v : Value} {xs : List Value} (h : w.ownsRow base e size v n xs) : ∀ k, v.ownBlock = some k → ∃ c f, w.heap[k]? = some (.cells c e f) := by
 intro k hk
 rcases h.2 with ⟨rfl, _⟩ | ⟨g, cap, cur, rfl, _, hgb, _⟩
 ·cases hk
 ·cases hk
  exact ⟨_, _, hgb⟩
theorem ZIz {w : World} {g : Nat} {e : Ev} {T : TypeId} {f : Nat × Nat} (h : w.heap[g]? = some (.cells #[.int .i64 e.seq, .int .i64 e.time, .int .i64 e.run, .int .i64 e.kind, .string e.step, .string e.val] T f)) : EvSl w (.slice (some ⟨g, 0, none⟩) 1 1) [e] := by
 refine .inr ⟨g, 0, 1, rfl, by simp, ZAA h, fun i hi => ?_⟩
 obtain rfl : i = 0 := by simp at hi; exact hi
 constructor <;> (rw [Lib.cell_of_heap h]; rfl)
theorem ZEh (e : Ev) : ∀ u ∈ [Value.int .i64 e.seq, .int .i64 e.time, .int .i64 e.run, .int .i64 e.kind, .string e.step, .string e.val], u.oneCell' = true := by
 intro u hu; simp at hu; rcases hu with rfl | rfl | rfl | rfl | rfl | rfl <;> rfl
structure Go1S (B bm ez : Nat) (a1 a2 a3 a4 a5 : Option Addr) (k1 k2 k3 k4 k5 : Nat) (ss : List ByteArray) (fs : List Pr) (S : St) (e : Ev) (V : World) (listed : Array Bool) (x5 x6 x7 x8 x9 x10 x11 x12 x13 x14 x15 x16 x17 x18 x19 : Value) (X : World) : Prop where
 hb : Below V.heap.size V X
 p0 : listed.getD 0 false = true → x6 = .pointer (some ⟨B, 0, none⟩)
 p1 : listed.getD 1 false = true → x7 = .pointer (some ⟨B, 0, none⟩)
 p2 : listed.getD 2 false = true → x8 = .pointer (some ⟨B, 0, none⟩)
 p3 : listed.getD 3 false = true → x9 = .agg #[.slice a1 ss.length k1, .slice a2 fs.length k2]
 p4 : listed.getD 4 false = true → x10 = .pointer (some ⟨B, 0, none⟩)
 p5 : listed.getD 5 false = true → x11 = .pointer (some ⟨B, 0, none⟩)
 p6 : listed.getD 6 false = true → x12 = .pointer (some ⟨B, 3, none⟩)
 p7 : listed.getD 7 false = true → x13 = .map (some bm)
 p8 : listed.getD 8 false = true → x14 = .pointer (some ⟨ez, 2, none⟩)
 p9 : listed.getD 9 false = true → x15 = .int .i64 e.run
 p10 : listed.getD 10 false = true → x16 = .agg #[.int .i64 S.status, .int .i64 S.begun, .int .i64 S.last, .slice a3 S.wait.length k3, .slice a4 S.busy.length k4, .slice a5 S.vars.length k5, .int .i64 S.faults]
 p11 : listed.getD 11 false = true → x17 = .agg #[.int .i64 e.seq, .int .i64 e.time, .int .i64 e.run, .int .i64 e.kind, .string e.step, .string e.val]
 p12 : listed.getD 12 false = true → listed.getD 15 false = false → (∃ g, x18 = .slice (some ⟨g, 0, none⟩) 1 1 ∧ X.heap[g]? = some (.cells #[.int .i64 e.seq, .int .i64 e.time, .int .i64 e.run, .int .i64 e.kind, .string e.step, .string e.val] 57 (0, 0)))
 p13 : listed.getD 13 false = true → listed.getD 15 false = false → (∃ u3 u4 u5, x19 = outV (evS ss fs S e).1 (evS ss fs S e).2 u3 u4 u5 ∧ StOwn X V.heap.size u3 u4 u5 (evS ss fs S e).2)
 p14 : listed.getD 14 false = true → listed.getD 15 false = false → (∃ g, x5 = .pointer (some ⟨g, 0, none⟩) ∧ V.heap.size ≤ g ∧ X.heap[g]? = some (.cells #[.int .i64 0, .int .i64 0, .int .i64 0, .slice none 0 0, .slice none 0 0, .slice none 0 0, .int .i64 0, .int .i64 0] 83 (0, 0)))
 p15 : listed.getD 15 false = true → (∀ j, j < 15 → listed.getD j false = true) ∧ (∃ g u3 u4 u5, x5 = .pointer (some ⟨g, 0, none⟩) ∧ V.heap.size ≤ g ∧ X.heap[g]? = some (.cells #[.int .i64 (evS ss fs S e).2.status, .int .i64 (evS ss fs S e).2.begun, .int .i64 (evS ss fs S e).2.last, u3, u4, u5, .int .i64 (evS ss fs S e).2.faults, .int .i64 (evS ss fs S e).1] 83 (0, 0)) ∧ StOwn X V.heap.size u3 u4 u5 (evS ss fs S e).2)
def Go1R (mk : Value → Value → Value → Value → Value → Value → Value → Value → Value → Value → Value → Value → Value → Value → Value → Act) (B bm ez : Nat) (a1 a2 a3 a4 a5 : Option Addr) (k1 k2 k3 k4 k5 : Nat) (ss : List ByteArray) (fs : List Pr) (S : St) (e : Ev) (V : World) (listed : Array Bool) (a : Act) (X : World) : Prop := ∃ x5 x6 x7 x8 x9 x10 x11 x12 x13 x14 x15 x16 x17 x18 x19 : Value, a = mk x5 x6 x7 x8 x9 x10 x11 x12 x13 x14 x15 x16 x17 x18 x19 ∧ Go1S B bm ez a1 a2 a3 a4 a5 k1 k2 k3 k4 k5 ss fs S e V listed x5 x6 x7 x8 x9 x10 x11 x12 x13 x14 x15 x16 x17 x18 x19 X
structure Go4S (B bm ez lo T : Nat) (a1 a2 au : Option Addr) (k1 k2 cu : Nat) (rest : List Value) (ss : List ByteArray) (fs : List Pr) (E : List Ev) (e : Ev) (V : World) (listed : Array Bool) (x31 x32 x33 x34 x35 x36 x37 x38 x39 x40 : Value) (X : World) : Prop where
 hb0 : listed.getD 7 false = false → Below V.heap.size V X
 hb : listed.getD 10 false = false → Chg (fun j => (Value.slice au E.length cu).ownBlock = some j) V X
 p0 : listed.getD 0 false = true → x31 = .pointer (some ⟨B, 0, none⟩)
 p1 : listed.getD 1 false = true → x32 = .pointer (some ⟨B, 0, none⟩)
 p2 : listed.getD 2 false = true → x33 = .pointer (some ⟨B, 0, none⟩)
 p3 : listed.getD 3 false = true → x34 = .pointer (some ⟨B, 2, none⟩)
 p4 : listed.getD 4 false = true → x35 = .slice au E.length cu
 p5 : listed.getD 5 false = true → x36 = .agg #[.int .i64 e.seq, .int .i64 e.time, .int .i64 e.run, .int .i64 e.kind, .string e.step, .string e.val]
 p6 : listed.getD 6 false = true → listed.getD 7 false = false → (CellsSl X x37 6 1 [.int .i64 e.seq, .int .i64 e.time, .int .i64 e.run, .int .i64 e.kind, .string e.step, .string e.val])
 p7 : listed.getD 7 false = true → listed.getD 10 false = false → (X.ownsRow lo 57 6 x38 (E.length + 1) (E.flatMap Ev.cells ++ [.int .i64 e.seq, .int .i64 e.time, .int .i64 e.run, .int .i64 e.kind, .string e.step, .string e.val]))
 p8 : listed.getD 8 false = true → x39 = .pointer (some ⟨B, 0, none⟩)
 p9 : listed.getD 9 false = true → x40 = .pointer (some ⟨B, 2, none⟩) ∧ listed.getD 8 false = true
 p10 : listed.getD 10 false = true → (∀ j, j < 10 → listed.getD j false = true) ∧ (∃ b' c', X.heap[B]? = some (.cells (.slice a1 ss.length k1 :: .slice a2 fs.length k2 :: .slice b' (E.length + 1) c' :: .map (some bm) :: rest).toArray T (0, 0)) ∧ X.ownsRow lo 57 6 (.slice b' (E.length + 1) c') (E.length + 1) (E.flatMap Ev.cells ++ [.int .i64 e.seq, .int .i64 e.time, .int .i64 e.run, .int .i64 e.kind, .string e.step, .string e.val]) ∧ Chg (fun j => (Value.slice au E.length cu).ownBlock = some j ∨ j = B) V X)
def Go4R (mk : Value → Value → Value → Value → Value → Value → Value → Value → Value → Value → Act) (B bm ez lo T : Nat) (a1 a2 au : Option Addr) (k1 k2 cu : Nat) (rest : List Value) (ss : List ByteArray) (fs : List Pr) (E : List Ev) (e : Ev) (V : World) (listed : Array Bool) (a : Act) (X : World) : Prop := ∃ x31 x32 x33 x34 x35 x36 x37 x38 x39 x40 : Value, a = mk x31 x32 x33 x34 x35 x36 x37 x38 x39 x40 ∧ Go4S B bm ez lo T a1 a2 au k1 k2 cu rest ss fs E e V listed x31 x32 x33 x34 x35 x36 x37 x38 x39 x40 X
theorem ZI2 (w0 w : World) (B T bm n : Nat) (a1 a2 : Option Addr) (k1 k2 : Nat) (u : Value) (rest : List Value) (ss : List ByteArray) (fs : List Pr) (E : List Ev) (e : Ev) (e0 e1 e2 e3 e4 : Addr)
  (hb : Below w0.heap.size w0 w) (hH : His w w0.heap.size B T bm n a1 a2 k1 k2 u rest ss fs E) (hD : DefSl w0 a1 a2 k1 k2 ss fs) (hEr : ErrsAt w0 e0 e1 e2 e3 e4) (D : DefP ss fs) (hR : RunsP ss fs E)
  (F1 : ∀ i, (h : i < ss.length) → ss[i].size ≤ maxLen) (F2 : FitP fs) (FE : e.step.size ≤ maxLen) (hw : (Lit.int .i64 e.run).wf = true) (hn : n ≤ 1000) (hE : E.length ≤ 1000) :
  Calls Tryz.prog 52 #[.pointer (some ⟨B, 0, none⟩), evV e] w (GoPost w w0.heap.size B T bm n a1 a2 k1 k2 u rest ss fs E e) := by
 have mixed : Tryz.prog.follows .mixedOrders = true := by kernel_rfl
 unfold GoPost
 obtain ⟨S, hSd⟩ : ∃ S, S = runS ss fs E e.run := ⟨_, rfl⟩
 have hP := ZGg D hR e.run
 obtain ⟨Dm, hMo, hSt⟩ := hH.map
 obtain ⟨u3, u4, u5, hAt, hOt⟩ := hSt.at_ e.run
 rw [← hSd] at hP hAt hOt ⊢
 obtain ⟨a3, k3, rfl⟩ := ZAD hOt.o3
 obtain ⟨a4, k4, rfl⟩ := ZAD hOt.o4
 obtain ⟨a5, k5, rfl⟩ := ZAD hOt.o5
 obtain ⟨au, cu, rfl⟩ := ZAD hH.own
 have hNb0 := hH.map.lt
 have hNB0 := ZAA hH.blk
 have hEn0 : ∀ g, (Value.slice au E.length cu).ownBlock = some g → g < w.heap.size := fun g hg => (hH.own.lt g hg).2
 have hbv : Below w.heap.size w (w.alloc (.cells #[.int .i64 e.seq, .int .i64 e.time, .int .i64 e.run, .int .i64 e.kind, .string e.step, .string e.val] 57)) := (bR _ _).alloc nL _
 have HEz := hid (heap_alloc_new w (.cells #[.int .i64 e.seq, .int .i64 e.time, .int .i64 e.run, .int .i64 e.kind, .string e.step, .string e.val] 57))
 unfold evV
 go_enter Tryz.func52, Tryz.ntmps52
 go_upto_region 1 with fail
 generalize w.alloc (.cells #[.int .i64 e.seq, .int .i64 e.time, .int .i64 e.run, .int .i64 e.kind, .string e.step, .string e.val] 57) = V at *
 have HH := hid (hH.stay hbv)
 have HBk := hid HH.out.blk
 have HMo := hid (hMo.kept (ZAP (r := none) hbv) (by simp))
 have HAt := hid hAt
 have HW := hid hw
 have HBV := hid (hb.trans (hbv.mono hb.size))
 have HBw := hid hbv
 have HStv := hid (hSt.kt (KT.of_below hbv))
 have HSd := hid hSd
 have HRn := hid hR
 have cH := hid (fun (X : World) (g : Nat) (hX : Below V.heap.size V X) (hg : X.heap[g]? = some (.cells #[.int .i64 e.seq, .int .i64 e.time, .int .i64 e.run, .int .i64 e.kind, .string e.step, .string e.val] 57 (0, 0))) => show Calls Tryz.prog 73 #[.agg #[.slice a1 ss.length k1, .slice a2 fs.length k2], .agg #[.int .i64 S.status, .int .i64 S.begun, .int .i64 S.last, .slice a3 S.wait.length k3, .slice a4 S.busy.length k4, .slice a5 S.vars.length k5, .int .i64 S.faults], .slice (some ⟨g, 0, none⟩) 1 1] X (fun x w' => ∃ u3 u4 u5, x = .returned (outV (evS ss fs S e).1 (evS ss fs S e).2 u3 u4 u5) ∧ StOwn w' X.heap.size u3 u4 u5 (evS ss fs S e).2 ∧ Below X.heap.size X w') from by
  have h := ZCF a1 a2 a3 a4 a5 (some ⟨g, 0, none⟩) k1 k2 k3 k4 k5 1 ss fs S [e] e0 e1 e2 e3 e4 X ((hD.stay HBV.out).stay hX) (((hOt.stay hbv).stay hX).slT) (ZIz hg) ((hEr.stay HBV.out).stay hX) D hP F1 F2 (fun i hi => by simp at hi; subst hi; exact FE) (by simp)
  rw [ZFV] at h
  exact h)
 clear hP hAt hOt hw hD hEr F1 F2 FE hb hbv hSt hMo hH hSd hR
 refine ZAR mixed (Go1R (fun x5 x6 x7 x8 x9 x10 x11 x12 x13 x14 x15 x16 x17 x18 x19 => { tmps := #[.pointer (some ⟨B, 0, none⟩), .agg #[.int .i64 e.seq, .int .i64 e.time, .int .i64 e.run, .int .i64 e.kind, .string e.step, .string e.val], undef, .pointer (some ⟨w.heap.size, 0, none⟩), .int .i64 0, x5, x6, x7, x8, x9, x10, x11, x12, x13, x14, x15, x16, x17, x18, x19, undef, undef, undef, undef, undef, undef, undef, undef, undef, undef, undef, undef, undef, undef, undef, undef, undef, undef, undef, undef, undef, undef, undef], defers := [] }) B bm w.heap.size a1 a2 a3 a4 a5 k1 k2 k3 k4 k5 ss fs S e V) ?ac ?start ?step ?fin
 case ac => exact ZCG (by kernel_rfl)
 case start =>
  refine ⟨undef, undef, undef, undef, undef, undef, undef, undef, undef, undef, undef, undef, undef, undef, undef, rfl, ?_⟩
  constructor
  ·exact (Below.refl _ V).drew
  all_goals (intro h; simp at h)
 case step =>
  rintro i listed a X ⟨x5, x6, x7, x8, x9, x10, x11, x12, x13, x14, x15, x16, x17, x18, x19, rfl, hS⟩ hun ⟨op9, ho, hdep⟩
  have hlt : i < 16 := (Array.getElem?_eq_some_iff.1 ho).1
  have hL : listed.getD 15 false = false := by
   by_cases hi : i = 15
   ·subst hi; exact ZAW hun
   ·exact Bool.eq_false_iff.2 (fun h => ZAB ((hS.p15 h).1 i (by omega)) hun)
  have d0 : X.cell? ⟨B, 0, none⟩ = some (.slice a1 ss.length k1) := (hS.hb.cell (p := ⟨B, 0, none⟩) (ZAA HBk.out)).trans (ce HBk.out rfl)
  have d1 : X.cell? ⟨B, 1, none⟩ = some (.slice a2 fs.length k2) := (hS.hb.cell (p := ⟨B, 1, none⟩) (ZAA HBk.out)).trans (ce HBk.out rfl)
  have d3 : X.cell? ⟨B, 3, none⟩ = some (.map (some bm)) := (hS.hb.cell (p := ⟨B, 3, none⟩) (ZAA HBk.out)).trans (ce HBk.out rfl)
  have f0 : X.cell? ⟨w.heap.size, 0, none⟩ = some (.int .i64 e.seq) := (hS.hb.cell (p := ⟨w.heap.size, 0, none⟩) (ZAA HEz.out)).trans (ce HEz.out rfl)
  have f1 : X.cell? ⟨w.heap.size, 1, none⟩ = some (.int .i64 e.time) := (hS.hb.cell (p := ⟨w.heap.size, 1, none⟩) (ZAA HEz.out)).trans (ce HEz.out rfl)
  have f2 : X.cell? ⟨w.heap.size, 2, none⟩ = some (.int .i64 e.run) := (hS.hb.cell (p := ⟨w.heap.size, 2, none⟩) (ZAA HEz.out)).trans (ce HEz.out rfl)
  have f3 : X.cell? ⟨w.heap.size, 3, none⟩ = some (.int .i64 e.kind) := (hS.hb.cell (p := ⟨w.heap.size, 3, none⟩) (ZAA HEz.out)).trans (ce HEz.out rfl)
  have f4 : X.cell? ⟨w.heap.size, 4, none⟩ = some (.string e.step) := (hS.hb.cell (p := ⟨w.heap.size, 4, none⟩) (ZAA HEz.out)).trans (ce HEz.out rfl)
  have f5 : X.cell? ⟨w.heap.size, 5, none⟩ = some (.string e.val) := (hS.hb.cell (p := ⟨w.heap.size, 5, none⟩) (ZAA HEz.out)).trans (ce HEz.out rfl)
  match i, hlt with
  | 0, _ =>
   obtain rfl := Option.some.inj ho
   refine ZAH rfl rfl ?_
   go_simp
   refine ⟨x5, .pointer (some ⟨B, 0, none⟩), x7, x8, x9, x10, x11, x12, x13, x14, x15, x16, x17, x18, x19, rfl, ?_⟩
   exact ⟨hS.hb, fun _ => rfl, fun h => hS.p1 (gO h), fun h => hS.p2 (gO h), fun h => hS.p3 (gO h), fun h => hS.p4 (gO h), fun h => hS.p5 (gO h), fun h => hS.p6 (gO h), fun h => hS.p7 (gO h), fun h => hS.p8 (gO h), fun h => hS.p9 (gO h), fun h => hS.p10 (gO h), fun h => hS.p11 (gO h), fun h h' => hS.p12 (gO h) (gF h'), fun h h' => hS.p13 (gO h) (gF h'), fun h h' => hS.p14 (gO h) (gF h'), fun h => ZAB ((hS.p15 (gO h)).1 0 (by decide)) hun⟩
  | 1, _ =>
   obtain rfl := Option.some.inj ho
   have q0 := hdep ⟨0, .data⟩ (by simp) rfl
   obtain rfl := hS.p0 q0
   refine ZAH rfl rfl ?_
   go_simp
   refine ⟨x5, .pointer (some ⟨B, 0, none⟩), .pointer (some ⟨B, 0, none⟩), x8, x9, x10, x11, x12, x13, x14, x15, x16, x17, x18, x19, rfl, ?_⟩
   exact ⟨hS.hb, fun h => hS.p0 (gO h), fun _ => rfl, fun h => hS.p2 (gO h), fun h => hS.p3 (gO h), fun h => hS.p4 (gO h), fun h => hS.p5 (gO h), fun h => hS.p6 (gO h), fun h => hS.p7 (gO h), fun h => hS.p8 (gO h), fun h => hS.p9 (gO h), fun h => hS.p10 (gO h), fun h => hS.p11 (gO h), fun h h' => hS.p12 (gO h) (gF h'), fun h h' => hS.p13 (gO h) (gF h'), fun h h' => hS.p14 (gO h) (gF h'), fun h => ZAB ((hS.p15 (gO h)).1 1 (by decide)) hun⟩
  | 2, _ =>
   obtain rfl := Option.some.inj ho
   have q1 := hdep ⟨1, .data⟩ (by simp) rfl
   obtain rfl := hS.p1 q1
   refine ZAH rfl rfl ?_
   go_simp
   refine ⟨x5, x6, .pointer (some ⟨B, 0, none⟩), .pointer (some ⟨B, 0, none⟩), x9, x10, x11, x12, x13, x14, x15, x16, x17, x18, x19, rfl, ?_⟩
   exact ⟨hS.hb, fun h => hS.p0 (gO h), fun h => hS.p1 (gO h), fun _ => rfl, fun h => hS.p3 (gO h), fun h => hS.p4 (gO h), fun h => hS.p5 (gO h), fun h => hS.p6 (gO h), fun h => hS.p7 (gO h), fun h => hS.p8 (gO h), fun h => hS.p9 (gO h), fun h => hS.p10 (gO h), fun h => hS.p11 (gO h), fun h h' => hS.p12 (gO h) (gF h'), fun h h' => hS.p13 (gO h) (gF h'), fun h h' => hS.p14 (gO h) (gF h'), fun h => ZAB ((hS.p15 (gO h)).1 2 (by decide)) hun⟩
  | 3, _ =>
   obtain rfl := Option.some.inj ho
   have q2 := hdep ⟨2, .data⟩ (by simp) rfl
   obtain rfl := hS.p2 q2
   refine ZAH rfl rfl ?_
   go_simp
   refine ⟨x5, x6, x7, .pointer (some ⟨B, 0, none⟩), .agg #[.slice a1 ss.length k1, .slice a2 fs.length k2], x10, x11, x12, x13, x14, x15, x16, x17, x18, x19, rfl, ?_⟩
   exact ⟨hS.hb, fun h => hS.p0 (gO h), fun h => hS.p1 (gO h), fun h => hS.p2 (gO h), fun _ => rfl, fun h => hS.p4 (gO h), fun h => hS.p5 (gO h), fun h => hS.p6 (gO h), fun h => hS.p7 (gO h), fun h => hS.p8 (gO h), fun h => hS.p9 (gO h), fun h => hS.p10 (gO h), fun h => hS.p11 (gO h), fun h h' => hS.p12 (gO h) (gF h'), fun h h' => hS.p13 (gO h) (gF h'), fun h h' => hS.p14 (gO h) (gF h'), fun h => ZAB ((hS.p15 (gO h)).1 3 (by decide)) hun⟩
  | 4, _ =>
   obtain rfl := Option.some.inj ho
   refine ZAH rfl rfl ?_
   go_simp
   refine ⟨x5, x6, x7, x8, x9, .pointer (some ⟨B, 0, none⟩), x11, x12, x13, x14, x15, x16, x17, x18, x19, rfl, ?_⟩
   exact ⟨hS.hb, fun h => hS.p0 (gO h), fun h => hS.p1 (gO h), fun h => hS.p2 (gO h), fun h => hS.p3 (gO h), fun _ => rfl, fun h => hS.p5 (gO h), fun h => hS.p6 (gO h), fun h => hS.p7 (gO h), fun h => hS.p8 (gO h), fun h => hS.p9 (gO h), fun h => hS.p10 (gO h), fun h => hS.p11 (gO h), fun h h' => hS.p12 (gO h) (gF h'), fun h h' => hS.p13 (gO h) (gF h'), fun h h' => hS.p14 (gO h) (gF h'), fun h => ZAB ((hS.p15 (gO h)).1 4 (by decide)) hun⟩
  | 5, _ =>
   obtain rfl := Option.some.inj ho
   have q4 := hdep ⟨4, .data⟩ (by simp) rfl
   obtain rfl := hS.p4 q4
   refine ZAH rfl rfl ?_
   go_simp
   refine ⟨x5, x6, x7, x8, x9, .pointer (some ⟨B, 0, none⟩), .pointer (some ⟨B, 0, none⟩), x12, x13, x14, x15, x16, x17, x18, x19, rfl, ?_⟩
   exact ⟨hS.hb, fun h => hS.p0 (gO h), fun h => hS.p1 (gO h), fun h => hS.p2 (gO h), fun h => hS.p3 (gO h), fun h => hS.p4 (gO h), fun _ => rfl, fun h => hS.p6 (gO h), fun h => hS.p7 (gO h), fun h => hS.p8 (gO h), fun h => hS.p9 (gO h), fun h => hS.p10 (gO h), fun h => hS.p11 (gO h), fun h h' => hS.p12 (gO h) (gF h'), fun h h' => hS.p13 (gO h) (gF h'), fun h h' => hS.p14 (gO h) (gF h'), fun h => ZAB ((hS.p15 (gO h)).1 5 (by decide)) hun⟩
  | 6, _ =>
   obtain rfl := Option.some.inj ho
   have q5 := hdep ⟨5, .data⟩ (by simp) rfl
   obtain rfl := hS.p5 q5
   refine ZAH rfl rfl ?_
   go_simp
   refine ⟨x5, x6, x7, x8, x9, x10, .pointer (some ⟨B, 0, none⟩), .pointer (some ⟨B, 3, none⟩), x13, x14, x15, x16, x17, x18, x19, rfl, ?_⟩
   exact ⟨hS.hb, fun h => hS.p0 (gO h), fun h => hS.p1 (gO h), fun h => hS.p2 (gO h), fun h => hS.p3 (gO h), fun h => hS.p4 (gO h), fun h => hS.p5 (gO h), fun _ => rfl, fun h => hS.p7 (gO h), fun h => hS.p8 (gO h), fun h => hS.p9 (gO h), fun h => hS.p10 (gO h), fun h => hS.p11 (gO h), fun h h' => hS.p12 (gO h) (gF h'), fun h h' => hS.p13 (gO h) (gF h'), fun h h' => hS.p14 (gO h) (gF h'), fun h => ZAB ((hS.p15 (gO h)).1 6 (by decide)) hun⟩
  | 7, _ =>
   obtain rfl := Option.some.inj ho
   have q6 := hdep ⟨6, .data⟩ (by simp) rfl
   obtain rfl := hS.p6 q6
   refine ZAH rfl rfl ?_
   go_simp
   refine ⟨x5, x6, x7, x8, x9, x10, x11, .pointer (some ⟨B, 3, none⟩), .map (some bm), x14, x15, x16, x17, x18, x19, rfl, ?_⟩
   exact ⟨hS.hb, fun h => hS.p0 (gO h), fun h => hS.p1 (gO h), fun h => hS.p2 (gO h), fun h => hS.p3 (gO h), fun h => hS.p4 (gO h), fun h => hS.p5 (gO h), fun h => hS.p6 (gO h), fun _ => rfl, fun h => hS.p8 (gO h), fun h => hS.p9 (gO h), fun h => hS.p10 (gO h), fun h => hS.p11 (gO h), fun h h' => hS.p12 (gO h) (gF h'), fun h h' => hS.p13 (gO h) (gF h'), fun h h' => hS.p14 (gO h) (gF h'), fun h => ZAB ((hS.p15 (gO h)).1 7 (by decide)) hun⟩
  | 8, _ =>
   obtain rfl := Option.some.inj ho
   refine ZAH rfl rfl ?_
   go_simp
   refine ⟨x5, x6, x7, x8, x9, x10, x11, x12, x13, .pointer (some ⟨w.heap.size, 2, none⟩), x15, x16, x17, x18, x19, rfl, ?_⟩
   exact ⟨hS.hb, fun h => hS.p0 (gO h), fun h => hS.p1 (gO h), fun h => hS.p2 (gO h), fun h => hS.p3 (gO h), fun h => hS.p4 (gO h), fun h => hS.p5 (gO h), fun h => hS.p6 (gO h), fun h => hS.p7 (gO h), fun _ => rfl, fun h => hS.p9 (gO h), fun h => hS.p10 (gO h), fun h => hS.p11 (gO h), fun h h' => hS.p12 (gO h) (gF h'), fun h h' => hS.p13 (gO h) (gF h'), fun h h' => hS.p14 (gO h) (gF h'), fun h => ZAB ((hS.p15 (gO h)).1 8 (by decide)) hun⟩
  | 9, _ =>
   obtain rfl := Option.some.inj ho
   have q8 := hdep ⟨8, .data⟩ (by simp) rfl
   obtain rfl := hS.p8 q8
   refine ZAH rfl rfl ?_
   go_simp
   refine ⟨x5, x6, x7, x8, x9, x10, x11, x12, x13, .pointer (some ⟨w.heap.size, 2, none⟩), .int .i64 e.run, x16, x17, x18, x19, rfl, ?_⟩
   exact ⟨hS.hb, fun h => hS.p0 (gO h), fun h => hS.p1 (gO h), fun h => hS.p2 (gO h), fun h => hS.p3 (gO h), fun h => hS.p4 (gO h), fun h => hS.p5 (gO h), fun h => hS.p6 (gO h), fun h => hS.p7 (gO h), fun h => hS.p8 (gO h), fun _ => rfl, fun h => hS.p10 (gO h), fun h => hS.p11 (gO h), fun h h' => hS.p12 (gO h) (gF h'), fun h h' => hS.p13 (gO h) (gF h'), fun h h' => hS.p14 (gO h) (gF h'), fun h => ZAB ((hS.p15 (gO h)).1 9 (by decide)) hun⟩
  | 10, _ =>
   obtain rfl := Option.some.inj ho
   have q7 := hdep ⟨7, .data⟩ (by simp) rfl
   have q9 := hdep ⟨9, .data⟩ (by simp) rfl
   obtain rfl := hS.p7 q7
   obtain rfl := hS.p9 q9
   obtain ⟨v, ps, hrun, hv⟩ := (HMo.out.kept (ZAP (r := none) hS.hb) (by simp)).lookup (int_keyed Tryz.underlying2) Tryz.underlying90 (z := zSt) (ZF3 _) (zd := .held zSt) (zp := []) rfl (keyOf_int_mk Tryz.underlying2 HW.out)
   rw [HAt.out] at hv
   obtain rfl := ZEe hv
   clear hv
   refine ZAH rfl rfl ?_
   go_simp
   refine ⟨x5, x6, x7, x8, x9, x10, x11, x12, .map (some bm), x14, .int .i64 e.run, .agg #[.int .i64 S.status, .int .i64 S.begun, .int .i64 S.last, .slice a3 S.wait.length k3, .slice a4 S.busy.length k4, .slice a5 S.vars.length k5, .int .i64 S.faults], x17, x18, x19, rfl, ?_⟩
   exact ⟨hS.hb, fun h => hS.p0 (gO h), fun h => hS.p1 (gO h), fun h => hS.p2 (gO h), fun h => hS.p3 (gO h), fun h => hS.p4 (gO h), fun h => hS.p5 (gO h), fun h => hS.p6 (gO h), fun h => hS.p7 (gO h), fun h => hS.p8 (gO h), fun h => hS.p9 (gO h), fun _ => rfl, fun h => hS.p11 (gO h), fun h h' => hS.p12 (gO h) (gF h'), fun h h' => hS.p13 (gO h) (gF h'), fun h h' => hS.p14 (gO h) (gF h'), fun h => ZAB ((hS.p15 (gO h)).1 10 (by decide)) hun⟩
  | 11, _ =>
   obtain rfl := Option.some.inj ho
   refine ZAH rfl rfl ?_
   go_simp
   refine ⟨x5, x6, x7, x8, x9, x10, x11, x12, x13, x14, x15, x16, .agg #[.int .i64 e.seq, .int .i64 e.time, .int .i64 e.run, .int .i64 e.kind, .string e.step, .string e.val], x18, x19, rfl, ?_⟩
   exact ⟨hS.hb, fun h => hS.p0 (gO h), fun h => hS.p1 (gO h), fun h => hS.p2 (gO h), fun h => hS.p3 (gO h), fun h => hS.p4 (gO h), fun h => hS.p5 (gO h), fun h => hS.p6 (gO h), fun h => hS.p7 (gO h), fun h => hS.p8 (gO h), fun h => hS.p9 (gO h), fun h => hS.p10 (gO h), fun _ => rfl, fun h h' => hS.p12 (gO h) (gF h'), fun h h' => hS.p13 (gO h) (gF h'), fun h h' => hS.p14 (gO h) (gF h'), fun h => ZAB ((hS.p15 (gO h)).1 11 (by decide)) hun⟩
  | 12, _ =>
   obtain rfl := Option.some.inj ho
   have q11 := hdep ⟨11, .data⟩ (by simp) rfl
   obtain rfl := hS.p11 q11
   refine ZAH rfl rfl ?_
   go_simp
   have hq : Below X.heap.size X (X.alloc (.cells #[.int .i64 e.seq, .int .i64 e.time, .int .i64 e.run, .int .i64 e.kind, .string e.step, .string e.val] 57)) := (bR _ _).alloc nL _
   refine ⟨x5, x6, x7, x8, x9, x10, x11, x12, x13, x14, x15, x16, .agg #[.int .i64 e.seq, .int .i64 e.time, .int .i64 e.run, .int .i64 e.kind, .string e.step, .string e.val], .slice (some ⟨X.heap.size, 0, none⟩) 1 1, x19, rfl, ?_⟩
   exact ⟨hS.hb.trans (hq.mono hS.hb.size), fun h => hS.p0 (gO h), fun h => hS.p1 (gO h), fun h => hS.p2 (gO h), fun h => hS.p3 (gO h), fun h => hS.p4 (gO h), fun h => hS.p5 (gO h), fun h => hS.p6 (gO h), fun h => hS.p7 (gO h), fun h => hS.p8 (gO h), fun h => hS.p9 (gO h), fun h => hS.p10 (gO h), fun h => hS.p11 (gO h), fun _ _ => ⟨X.heap.size, rfl, heap_alloc_new X _⟩, fun h h' => let ⟨u3, u4, u5, e1, e2⟩ := (hS.p13 (gO h) (gF h')); ⟨u3, u4, u5, e1, e2.stay hq⟩, fun h h' => (hS.p14 (gO h) (gF h')).imp fun g hg => ⟨hg.1, hg.2.1, (hq.block g (ZAA hg.2.2)).trans hg.2.2⟩, fun h => ZAB ((hS.p15 (gO h)).1 12 (by decide)) hun⟩
  | 13, _ =>
   obtain rfl := Option.some.inj ho
   have q3 := hdep ⟨3, .data⟩ (by simp) rfl
   have q10 := hdep ⟨10, .data⟩ (by simp) rfl
   have q12 := hdep ⟨12, .data⟩ (by simp) rfl
   obtain rfl := hS.p3 q3
   obtain rfl := hS.p10 q10
   obtain ⟨g8, rfl, hg8⟩ := hS.p12 q12 hL
   refine ZAH rfl rfl ?_
   go_simp
   refine (cH.out X g8 hS.hb hg8).mono ?_
   rintro x X' ⟨u3, u4, u5, rfl, hu, hq⟩
   refine ⟨x5, x6, x7, x8, .agg #[.slice a1 ss.length k1, .slice a2 fs.length k2], x10, x11, x12, x13, x14, x15, .agg #[.int .i64 S.status, .int .i64 S.begun, .int .i64 S.last, .slice a3 S.wait.length k3, .slice a4 S.busy.length k4, .slice a5 S.vars.length k5, .int .i64 S.faults], x17, .slice (some ⟨g8, 0, none⟩) 1 1, _, rfl, ?_⟩
   exact ⟨hS.hb.trans (hq.mono hS.hb.size), fun h => hS.p0 (gO h), fun h => hS.p1 (gO h), fun h => hS.p2 (gO h), fun h => hS.p3 (gO h), fun h => hS.p4 (gO h), fun h => hS.p5 (gO h), fun h => hS.p6 (gO h), fun h => hS.p7 (gO h), fun h => hS.p8 (gO h), fun h => hS.p9 (gO h), fun h => hS.p10 (gO h), fun h => hS.p11 (gO h), fun h h' => (hS.p12 (gO h) (gF h')).imp fun g hg => ⟨hg.1, (hq.block g (ZAA hg.2)).trans hg.2⟩, fun _ _ => ⟨u3, u4, u5, rfl, hu.le hS.hb.size⟩, fun h h' => (hS.p14 (gO h) (gF h')).imp fun g hg => ⟨hg.1, hg.2.1, (hq.block g (ZAA hg.2.2)).trans hg.2.2⟩, fun h => ZAB ((hS.p15 (gO h)).1 13 (by decide)) hun⟩
  | 14, _ =>
   obtain rfl := Option.some.inj ho
   refine ZAH rfl rfl ?_
   go_simp
   have hq : Below X.heap.size X (X.alloc (.cells #[.int .i64 0, .int .i64 0, .int .i64 0, .slice none 0 0, .slice none 0 0, .slice none 0 0, .int .i64 0, .int .i64 0] 83)) := (bR _ _).alloc nL _
   refine ⟨.pointer (some ⟨X.heap.size, 0, none⟩), x6, x7, x8, x9, x10, x11, x12, x13, x14, x15, x16, x17, x18, x19, rfl, ?_⟩
   exact ⟨hS.hb.trans (hq.mono hS.hb.size), fun h => hS.p0 (gO h), fun h => hS.p1 (gO h), fun h => hS.p2 (gO h), fun h => hS.p3 (gO h), fun h => hS.p4 (gO h), fun h => hS.p5 (gO h), fun h => hS.p6 (gO h), fun h => hS.p7 (gO h), fun h => hS.p8 (gO h), fun h => hS.p9 (gO h), fun h => hS.p10 (gO h), fun h => hS.p11 (gO h), fun h h' => (hS.p12 (gO h) (gF h')).imp fun g hg => ⟨hg.1, (hq.block g (ZAA hg.2)).trans hg.2⟩, fun h h' => let ⟨u3, u4, u5, e1, e2⟩ := (hS.p13 (gO h) (gF h')); ⟨u3, u4, u5, e1, e2.stay hq⟩, fun _ _ => ⟨X.heap.size, rfl, hS.hb.size, heap_alloc_new X _⟩, fun h => ZAB ((hS.p15 (gO h)).1 14 (by decide)) hun⟩
  | 15, _ =>
   obtain rfl := Option.some.inj ho
   have q14 := hdep ⟨14, .data⟩ (by simp) rfl
   have q13 := hdep ⟨13, .data⟩ (by simp) rfl
   obtain ⟨u3, u4, u5, hx, hu⟩ := hS.p13 q13 hL
   obtain ⟨g8, rfl, hg1, hg8⟩ := hS.p14 q14 hL
   obtain ⟨R9, hR9⟩ : ∃ R, R = (evS ss fs S e) := ⟨_, rfl⟩
   rw [← hR9] at hx hu
   subst hx
   have HR9 := hid hR9
   clear hR9
   obtain ⟨i3, j3, rfl⟩ := ZAD hu.o3
   obtain ⟨i4, j4, rfl⟩ := ZAD hu.o4
   obtain ⟨i5, j5, rfl⟩ := ZAD hu.o5
   have s0 : X.cell? ⟨g8, 0, none⟩ = some (.int .i64 0) := ce hg8 rfl
   have s1 : X.cell? ⟨g8, 1, none⟩ = some (.int .i64 0) := ce hg8 rfl
   have s2 : X.cell? ⟨g8, 2, none⟩ = some (.int .i64 0) := ce hg8 rfl
   have s3 : X.cell? ⟨g8, 3, none⟩ = some (.slice none 0 0) := ce hg8 rfl
   have s4 : X.cell? ⟨g8, 4, none⟩ = some (.slice none 0 0) := ce hg8 rfl
   have s5 : X.cell? ⟨g8, 5, none⟩ = some (.slice none 0 0) := ce hg8 rfl
   have s6 : X.cell? ⟨g8, 6, none⟩ = some (.int .i64 0) := ce hg8 rfl
   have s7 : X.cell? ⟨g8, 7, none⟩ = some (.int .i64 0) := ce hg8 rfl
   have sf := Lib.frozen_of_heap hg8
   unfold outV
   refine ZAH rfl rfl ?_
   go_simp
   have hF := (ZAG (L := [_, _, _, _, _, _, _, _]) (i := 7) (ZAG (L := [_, _, _, _, _, _, _, _]) (i := 6) (ZAG (L := [_, _, _, _, _, _, _, _]) (i := 5) (ZAG (L := [_, _, _, _, _, _, _, _]) (i := 4) (ZAG (L := [_, _, _, _, _, _, _, _]) (i := 3) (ZAG (L := [_, _, _, _, _, _, _, _]) (i := 2) (ZAG (L := [_, _, _, _, _, _, _, _]) (i := 1) (ZAG (L := [_, _, _, _, _, _, _, _]) (i := 0) hg8 (.int .i64 R9.2.status)) (.int .i64 R9.2.begun)) (.int .i64 R9.2.last)) (.slice i3 R9.2.wait.length j3)) (.slice i4 R9.2.busy.length j4)) (.slice i5 R9.2.vars.length j5)) (.int .i64 R9.2.faults)) (.int .i64 R9.1))
   have hC := ((((((((Chg.of_grown (p := fun j => j = g8) (ZAF X g8 0 (.int .i64 R9.2.status)) rfl).trans (Chg.of_grown (ZAF _ g8 1 (.int .i64 R9.2.begun)) rfl)).trans (Chg.of_grown (ZAF _ g8 2 (.int .i64 R9.2.last)) rfl)).trans (Chg.of_grown (ZAF _ g8 3 (.slice i3 R9.2.wait.length j3)) rfl)).trans (Chg.of_grown (ZAF _ g8 4 (.slice i4 R9.2.busy.length j4)) rfl)).trans (Chg.of_grown (ZAF _ g8 5 (.slice i5 R9.2.vars.length j5)) rfl)).trans (Chg.of_grown (ZAF _ g8 6 (.int .i64 R9.2.faults)) rfl)).trans (Chg.of_grown (ZAF _ g8 7 (.int .i64 R9.1)) rfl))
   refine ⟨_, x6, x7, x8, x9, x10, x11, x12, x13, x14, x15, x16, x17, x18, _, rfl, ?_⟩
   constructor
   ·exact hS.hb.trans (hC.below hS.hb.size (fun j (h : j = _) => by omega))
   ·exact fun h => hS.p0 (gO h)
   ·exact fun h => hS.p1 (gO h)
   ·exact fun h => hS.p2 (gO h)
   ·exact fun h => hS.p3 (gO h)
   ·exact fun h => hS.p4 (gO h)
   ·exact fun h => hS.p5 (gO h)
   ·exact fun h => hS.p6 (gO h)
   ·exact fun h => hS.p7 (gO h)
   ·exact fun h => hS.p8 (gO h)
   ·exact fun h => hS.p9 (gO h)
   ·exact fun h => hS.p10 (gO h)
   ·exact fun h => hS.p11 (gO h)
   ·exact fun _ h' => uS h' hun
   ·exact fun _ h' => uS h' hun
   ·exact fun _ h' => uS h' hun
   ·exact fun _ => ⟨fun j hj => by
     rw [getD_set_ne false (by omega)]
     match j, hj with
     | 0, _ => exact hdep ⟨0, .phase⟩ (by simp) rfl
     | 1, _ => exact hdep ⟨1, .phase⟩ (by simp) rfl
     | 2, _ => exact hdep ⟨2, .phase⟩ (by simp) rfl
     | 3, _ => exact hdep ⟨3, .phase⟩ (by simp) rfl
     | 4, _ => exact hdep ⟨4, .phase⟩ (by simp) rfl
     | 5, _ => exact hdep ⟨5, .phase⟩ (by simp) rfl
     | 6, _ => exact hdep ⟨6, .phase⟩ (by simp) rfl
     | 7, _ => exact hdep ⟨7, .phase⟩ (by simp) rfl
     | 8, _ => exact hdep ⟨8, .phase⟩ (by simp) rfl
     | 9, _ => exact hdep ⟨9, .phase⟩ (by simp) rfl
     | 10, _ => exact hdep ⟨10, .phase⟩ (by simp) rfl
     | 11, _ => exact hdep ⟨11, .phase⟩ (by simp) rfl
     | 12, _ => exact hdep ⟨12, .phase⟩ (by simp) rfl
     | 13, _ => exact hdep ⟨13, .phase⟩ (by simp) rfl
     | 14, _ => exact hdep ⟨14, .phase⟩ (by simp) rfl
     , ⟨g8, _, _, _, rfl, hg1, by rw [← HR9.out]; exact hF, by rw [← HR9.out]; exact hu.turn hC hg8 (by decide) (by decide)⟩⟩
 case fin =>
  rintro listed a X ⟨x5, x6, x7, x8, x9, x10, x11, x12, x13, x14, x15, x16, x17, x18, x19, rfl, hS⟩ hall
  obtain ⟨_, g5, u3, u4, u5, rfl, hg5, hF5, hO5⟩ := hS.p15 (hall 15 (by decide))
  have hbX := hS.hb
  clear hS hall cH HAt
  have HX := hid (HH.out.stay hbX)
  have HBX := hid (HBw.out.trans (hbX.mono HBw.out.size))
  have HO5 := hid hO5
  have HF5 := hid hF5
  have HG5 := hid hg5
  have HEx := hid ((hbX.block _ (ZAA HEz.out)).trans HEz.out)
  have HMx := hid (HMo.out.kept (ZAP (r := none) hbX) (by simp))
  have HStx := hid (HStv.out.kt (KT.of_below hbX))
  have hzx := hbX.size
  have hzv := HBw.out.size
  have hlE := ZAA HEz.out
  have HNb := hid (show bm < w.heap.size from hNb0)
  have HEn := hid hEn0
  have HNB := hid (show B < w.heap.size from hNB0)
  clear hbX hO5 hF5 hg5 HH HBk HMo HEz HStv hNb0 hEn0 hNB0
  obtain ⟨C, hC0⟩ : ∃ C, C = (evS ss fs S e).1 := ⟨_, rfl⟩
  have HC := hid hC0
  have g7 : X.cell? ⟨g5, 7, none⟩ = some (.int .i64 C) := by rw [Lib.cell_of_heap HF5.out, hC0]; rfl
  clear hC0
  by_cases hc : C = 0
  rotate_left
  ·have hcb : (C == 0) = false := beq_eq_false_iff_ne.2 hc
   go_wp2
   go_ret
   exact ⟨by rw [← HC.out]; rfl, fun h => absurd (HC.out.trans h) hc, fun _ => HX.out, Chg.of_below HBX.out⟩
  subst hc
  obtain ⟨i3, j3, rfl⟩ := ZAD HO5.out.o3
  obtain ⟨i4, j4, rfl⟩ := ZAD HO5.out.o4
  obtain ⟨i5, j5, rfl⟩ := ZAD HO5.out.o5
  have tt0 : X.cell? ⟨g5, 0, none⟩ = some (.int .i64 (evS ss fs S e).2.status) := ce HF5.out rfl
  have tt1 : X.cell? ⟨g5, 1, none⟩ = some (.int .i64 (evS ss fs S e).2.begun) := ce HF5.out rfl
  have tt2 : X.cell? ⟨g5, 2, none⟩ = some (.int .i64 (evS ss fs S e).2.last) := ce HF5.out rfl
  have tt3 : X.cell? ⟨g5, 3, none⟩ = some (.slice i3 (evS ss fs S e).2.wait.length j3) := ce HF5.out rfl
  have tt4 : X.cell? ⟨g5, 4, none⟩ = some (.slice i4 (evS ss fs S e).2.busy.length j4) := ce HF5.out rfl
  have tt5 : X.cell? ⟨g5, 5, none⟩ = some (.slice i5 (evS ss fs S e).2.vars.length j5) := ce HF5.out rfl
  have tt6 : X.cell? ⟨g5, 6, none⟩ = some (.int .i64 (evS ss fs S e).2.faults) := ce HF5.out rfl
  have d3 : X.cell? ⟨B, 3, none⟩ = some (.map (some bm)) := ce HX.out.blk rfl
  have f2 : X.cell? ⟨w.heap.size, 2, none⟩ = some (.int .i64 e.run) := ce HEx.out rfl
  obtain ⟨X2, hrun, hown2, hg2⟩ := HMx.out.drew.update (int_keyed Tryz.underlying2) Tryz.underlying90 (by unfold maxLen; omega) (keyOf_int_mk Tryz.underlying2 HW.out) (val := .agg #[.int .i64 (evS ss fs S e).2.status, .int .i64 (evS ss fs S e).2.begun, .int .i64 (evS ss fs S e).2.last, .slice i3 (evS ss fs S e).2.wait.length j3, .slice i4 (evS ss fs S e).2.busy.length j4, .slice i5 (evS ss fs S e).2.vars.length j5, .int .i64 (evS ss fs S e).2.faults]) (d := .held (stU (evS ss fs S e).2 (.slice i3 (evS ss fs S e).2.wait.length j3) (.slice i4 (evS ss fs S e).2.busy.length j4) (.slice i5 (evS ss fs S e).2.vars.length j5))) (ps := []) rfl
  go_upto_region 3 with fail
  go_region
  have hC2 : Chg (fun j => j = bm) X X2 := ZJO (Chg.of_grown hg2 rfl)
  have HC2 := hid hC2
  have hne := HX.out.bm_ne
  have HUn := hid (HX.out.u_ne)
  have HT2 := hid ((hC2.block B (ZAA HX.out.blk) hne).trans HX.out.blk)
  have HE2 := hid ((hC2.block _ (ZAA HEx.out) (fun h => by have := HX.out.map.lt; have := (HX.out.low bm (.inr (.inl rfl))).2; have := HNb.out; omega)).trans HEx.out)
  have HF2 := hid ((hC2.block _ (ZAA HF5.out) (fun h => by have := HG5.out; have := HNb.out; omega)).trans HF5.out)
  have HOu := hid (ZAJ HX.out.own hC2 (fun g hg h => (HUn.out g hg).2 h))
  have HM2 := hid hown2
  have hz2 := hC2.size
  have HTy := hid HX.out.ty
  have HLo := hid (show w0.heap.size ≤ X2.heap.size from Nat.le_trans (HX.out.low B (.inl rfl)).1 (Nat.le_trans (Nat.le_of_lt (HX.out.low B (.inl rfl)).2) hz2))
  have hOk := HO5.out
  have KT1 := hid (show KT X X2 from KT.of_chg hC2 (fun g c t f hp he => by obtain ⟨es9, c9, h9⟩ := HX.out.map.obj; rw [hp, h9] at he; cases he))
  have HS2 := hid (show StMap X2 bm (n + 1) ss fs (E ++ [e]) from by have h9 := HSd.out; subst h9; exact ⟨_, HM2.out, (HStx.out.kt KT1.out).put HRn.out e ((hOk.le (Nat.zero_le _)).kt KT1.out)⟩)
  clear hOk hC2 hrun hown2 hg2 d3 f2 tt0 tt1 tt2 tt3 tt4 tt5 tt6 g7
  have HBk := HT2
  obtain ⟨m0, hm, hm0, hm1, hm2⟩ := info_parts Tryz.infoEv
  go_upto_region 4 with fail
  refine ZAR mixed (Go4R (fun y31 y32 y33 y34 y35 y36 y37 y38 y39 y40 => { tmps := #[.pointer (some ⟨B, 0, none⟩), .agg #[.int .i64 e.seq, .int .i64 e.time, .int .i64 e.run, .int .i64 e.kind, .string e.step, .string e.val], undef, .pointer (some ⟨w.heap.size, 0, none⟩), .int .i64 0, .pointer (some ⟨g5, 0, none⟩), x6, x7, x8, x9, x10, x11, x12, x13, x14, x15, x16, x17, x18, x19, .pointer (some ⟨g5, 7, none⟩), .int .i64 0, .bool true, .pointer (some ⟨B, 0, none⟩), .pointer (some ⟨B, 0, none⟩), .pointer (some ⟨B, 3, none⟩), .map (some bm), .pointer (some ⟨w.heap.size, 2, none⟩), .int .i64 e.run, .pointer (some ⟨g5, 0, none⟩), .agg #[.int .i64 (evS ss fs S e).2.status, .int .i64 (evS ss fs S e).2.begun, .int .i64 (evS ss fs S e).2.last, .slice i3 (evS ss fs S e).2.wait.length j3, .slice i4 (evS ss fs S e).2.busy.length j4, .slice i5 (evS ss fs S e).2.vars.length j5, .int .i64 (evS ss fs S e).2.faults], y31, y32, y33, y34, y35, y36, y37, y38, y39, y40, undef, undef], defers := [] }) B bm w.heap.size w0.heap.size T a1 a2 au k1 k2 cu rest ss fs E e X2) ?ac ?start ?step ?fin
  case ac => exact ZCG (by kernel_rfl)
  case start =>
   refine ⟨undef, undef, undef, undef, undef, undef, undef, undef, undef, undef, rfl, ?_⟩
   constructor
   ·exact fun _ => (Below.refl _ X2).drew
   ·exact fun _ => Chg.of_below (Below.refl _ X2).drew
   all_goals (intro h; simp at h)
  case step =>
   rintro i listed a X ⟨x31, x32, x33, x34, x35, x36, x37, x38, x39, x40, rfl, hS⟩ hun ⟨op9, ho, hdep⟩
   have hlt : i < 11 := (Array.getElem?_eq_some_iff.1 ho).1
   have hL : listed.getD 10 false = false := by
    by_cases hi : i = 10
    ·subst hi; exact ZAW hun
    ·exact Bool.eq_false_iff.2 (fun h => ZAB ((hS.p10 h).1 i (by omega)) hun)
   have hc := hS.hb hL
   have hRB0 := (hc.block _ (ZAA HT2.out) (fun e9 => ZAL HOu.out HT2.out HTy.out.2.2.symm _ e9 rfl)).trans HT2.out
   have c2 : X.cell? ⟨B, 2, none⟩ = some (.slice au E.length cu) := ce hRB0 rfl
   have hEz := (hc.block _ (ZAA HE2.out) (fun e9 => by have := HOu.out.lt _ e9; have := HEn.out _ e9; omega)).trans HE2.out
   have f0 : X.cell? ⟨w.heap.size, 0, none⟩ = some (.int .i64 e.seq) := ce hEz rfl
   have f1 : X.cell? ⟨w.heap.size, 1, none⟩ = some (.int .i64 e.time) := ce hEz rfl
   have f2 : X.cell? ⟨w.heap.size, 2, none⟩ = some (.int .i64 e.run) := ce hEz rfl
   have f3 : X.cell? ⟨w.heap.size, 3, none⟩ = some (.int .i64 e.kind) := ce hEz rfl
   have f4 : X.cell? ⟨w.heap.size, 4, none⟩ = some (.string e.step) := ce hEz rfl
   have f5 : X.cell? ⟨w.heap.size, 5, none⟩ = some (.string e.val) := ce hEz rfl
   match i, hlt with
   | 0, _ =>
    obtain rfl := Option.some.inj ho
    refine ZAH rfl rfl ?_
    go_simp
    refine ⟨.pointer (some ⟨B, 0, none⟩), x32, x33, x34, x35, x36, x37, x38, x39, x40, rfl, ?_⟩
    exact ⟨fun h => hS.hb0 (gF h), fun h => hS.hb (gF h), fun _ => rfl, fun h => hS.p1 (gO h), fun h => hS.p2 (gO h), fun h => hS.p3 (gO h), fun h => hS.p4 (gO h), fun h => hS.p5 (gO h), fun h h' => hS.p6 (gO h) (gF h'), fun h h' => hS.p7 (gO h) (gF h'), fun h => hS.p8 (gO h), fun h => ⟨(hS.p9 (gO h)).1, getD_set_true (hS.p9 (gO h)).2⟩, fun h => ZAB ((hS.p10 (gO h)).1 0 (by decide)) hun⟩
   | 1, _ =>
    obtain rfl := Option.some.inj ho
    refine ZAH rfl rfl ?_
    go_simp
    refine ⟨x31, .pointer (some ⟨B, 0, none⟩), x33, x34, x35, x36, x37, x38, x39, x40, rfl, ?_⟩
    exact ⟨fun h => hS.hb0 (gF h), fun h => hS.hb (gF h), fun h => hS.p0 (gO h), fun _ => rfl, fun h => hS.p2 (gO h), fun h => hS.p3 (gO h), fun h => hS.p4 (gO h), fun h => hS.p5 (gO h), fun h h' => hS.p6 (gO h) (gF h'), fun h h' => hS.p7 (gO h) (gF h'), fun h => hS.p8 (gO h), fun h => ⟨(hS.p9 (gO h)).1, getD_set_true (hS.p9 (gO h)).2⟩, fun h => ZAB ((hS.p10 (gO h)).1 1 (by decide)) hun⟩
   | 2, _ =>
    obtain rfl := Option.some.inj ho
    have q1 := hdep ⟨1, .data⟩ (by simp) rfl
    obtain rfl := hS.p1 q1
    refine ZAH rfl rfl ?_
    go_simp
    refine ⟨x31, .pointer (some ⟨B, 0, none⟩), .pointer (some ⟨B, 0, none⟩), x34, x35, x36, x37, x38, x39, x40, rfl, ?_⟩
    exact ⟨fun h => hS.hb0 (gF h), fun h => hS.hb (gF h), fun h => hS.p0 (gO h), fun h => hS.p1 (gO h), fun _ => rfl, fun h => hS.p3 (gO h), fun h => hS.p4 (gO h), fun h => hS.p5 (gO h), fun h h' => hS.p6 (gO h) (gF h'), fun h h' => hS.p7 (gO h) (gF h'), fun h => hS.p8 (gO h), fun h => ⟨(hS.p9 (gO h)).1, getD_set_true (hS.p9 (gO h)).2⟩, fun h => ZAB ((hS.p10 (gO h)).1 2 (by decide)) hun⟩
   | 3, _ =>
    obtain rfl := Option.some.inj ho
    have q2 := hdep ⟨2, .data⟩ (by simp) rfl
    obtain rfl := hS.p2 q2
    refine ZAH rfl rfl ?_
    go_simp
    refine ⟨x31, x32, .pointer (some ⟨B, 0, none⟩), .pointer (some ⟨B, 2, none⟩), x35, x36, x37, x38, x39, x40, rfl, ?_⟩
    exact ⟨fun h => hS.hb0 (gF h), fun h => hS.hb (gF h), fun h => hS.p0 (gO h), fun h => hS.p1 (gO h), fun h => hS.p2 (gO h), fun _ => rfl, fun h => hS.p4 (gO h), fun h => hS.p5 (gO h), fun h h' => hS.p6 (gO h) (gF h'), fun h h' => hS.p7 (gO h) (gF h'), fun h => hS.p8 (gO h), fun h => ⟨(hS.p9 (gO h)).1, getD_set_true (hS.p9 (gO h)).2⟩, fun h => ZAB ((hS.p10 (gO h)).1 3 (by decide)) hun⟩
   | 4, _ =>
    obtain rfl := Option.some.inj ho
    have q3 := hdep ⟨3, .data⟩ (by simp) rfl
    obtain rfl := hS.p3 q3
    refine ZAH rfl rfl ?_
    go_simp
    refine ⟨x31, x32, x33, .pointer (some ⟨B, 2, none⟩), .slice au E.length cu, x36, x37, x38, x39, x40, rfl, ?_⟩
    exact ⟨fun h => hS.hb0 (gF h), fun h => hS.hb (gF h), fun h => hS.p0 (gO h), fun h => hS.p1 (gO h), fun h => hS.p2 (gO h), fun h => hS.p3 (gO h), fun _ => rfl, fun h => hS.p5 (gO h), fun h h' => hS.p6 (gO h) (gF h'), fun h h' => hS.p7 (gO h) (gF h'), fun h => hS.p8 (gO h), fun h => ⟨(hS.p9 (gO h)).1, getD_set_true (hS.p9 (gO h)).2⟩, fun h => ZAB ((hS.p10 (gO h)).1 4 (by decide)) hun⟩
   | 5, _ =>
    obtain rfl := Option.some.inj ho
    refine ZAH rfl rfl ?_
    go_simp
    refine ⟨x31, x32, x33, x34, x35, .agg #[.int .i64 e.seq, .int .i64 e.time, .int .i64 e.run, .int .i64 e.kind, .string e.step, .string e.val], x37, x38, x39, x40, rfl, ?_⟩
    exact ⟨fun h => hS.hb0 (gF h), fun h => hS.hb (gF h), fun h => hS.p0 (gO h), fun h => hS.p1 (gO h), fun h => hS.p2 (gO h), fun h => hS.p3 (gO h), fun h => hS.p4 (gO h), fun _ => rfl, fun h h' => hS.p6 (gO h) (gF h'), fun h h' => hS.p7 (gO h) (gF h'), fun h => hS.p8 (gO h), fun h => ⟨(hS.p9 (gO h)).1, getD_set_true (hS.p9 (gO h)).2⟩, fun h => ZAB ((hS.p10 (gO h)).1 5 (by decide)) hun⟩
   | 6, _ =>
    obtain rfl := Option.some.inj ho
    have q5 := hdep ⟨5, .data⟩ (by simp) rfl
    obtain rfl := hS.p5 q5
    refine ZAH rfl rfl ?_
    go_simp
    have hq : Below X.heap.size X (X.alloc (.cells #[.int .i64 e.seq, .int .i64 e.time, .int .i64 e.run, .int .i64 e.kind, .string e.step, .string e.val] 57)) := (bR _ _).alloc nL _
    refine ⟨x31, x32, x33, x34, x35, .agg #[.int .i64 e.seq, .int .i64 e.time, .int .i64 e.run, .int .i64 e.kind, .string e.step, .string e.val], .slice (some ⟨X.heap.size, 0, none⟩) 1 1, x38, x39, x40, rfl, ?_⟩
    exact ⟨fun h => (hS.hb0 (gF h)).trans (hq.mono (hS.hb0 (gF h)).size), fun h => (hS.hb (gF h)).trans (Chg.of_below hq), fun h => hS.p0 (gO h), fun h => hS.p1 (gO h), fun h => hS.p2 (gO h), fun h => hS.p3 (gO h), fun h => hS.p4 (gO h), fun h => hS.p5 (gO h), fun _ _ => ZB3 X [.int .i64 e.seq, .int .i64 e.time, .int .i64 e.run, .int .i64 e.kind, .string e.step, .string e.val] 57 (z := 6) rfl (ZEh e), fun h h' => ZAE (hS.p7 (gO h) (gF h')) hq, fun h => hS.p8 (gO h), fun h => ⟨(hS.p9 (gO h)).1, getD_set_true (hS.p9 (gO h)).2⟩, fun h => ZAB ((hS.p10 (gO h)).1 6 (by decide)) hun⟩
   | 7, _ =>
    obtain rfl := Option.some.inj ho
    have q4 := hdep ⟨4, .data⟩ (by simp) rfl
    have q6 := hdep ⟨6, .data⟩ (by simp) rfl
    obtain rfl := hS.p4 q4
    have hX := hS.p6 q6 (ZAW hun)
    have hB0 := hS.hb0 (ZAW hun)
    have hO0 := ZAE HOu.out hB0
    refine ZAH rfl rfl ?_
    refine ZAa _ _ 34 rfl (w0.heap.size) 57 _ _ 6 64 Tryz.underlying34 hm hm0 hm1 hm2 rfl (by decide) _ (E.length) _ rfl hO0 1 _ _ rfl hX (by have := hE; unfold maxLen; omega) (by have := hE; omega) (Nat.le_trans HLo.out hB0.size) ?_
    intro v' X' ho' hg
    refine ⟨x31, x32, x33, x34, .slice au E.length cu, x36, x37, v', x39, x40, rfl, ?_⟩
    exact ⟨fun h => absurd h (by rw [ZAX hun]; decide), fun _ => (Chg.of_below hB0).trans ⟨hg.os, hg.tape, hg.output, hg.size, fun k hk hp => hg.block k hk (fun e => hp e.symm)⟩, fun h => hS.p0 (gO h), fun h => hS.p1 (gO h), fun h => hS.p2 (gO h), fun h => hS.p3 (gO h), fun h => hS.p4 (gO h), fun h => hS.p5 (gO h), fun _ h' => uS h' hun, fun _ _ => ho', fun h => hS.p8 (gO h), fun h => ⟨(hS.p9 (gO h)).1, getD_set_true (hS.p9 (gO h)).2⟩, fun h => ZAB ((hS.p10 (gO h)).1 7 (by decide)) hun⟩
   | 8, _ =>
    obtain rfl := Option.some.inj ho
    have q0 := hdep ⟨0, .data⟩ (by simp) rfl
    obtain rfl := hS.p0 q0
    refine ZAH rfl rfl ?_
    go_simp
    refine ⟨.pointer (some ⟨B, 0, none⟩), x32, x33, x34, x35, x36, x37, x38, .pointer (some ⟨B, 0, none⟩), x40, rfl, ?_⟩
    exact ⟨fun h => hS.hb0 (gF h), fun h => hS.hb (gF h), fun h => hS.p0 (gO h), fun h => hS.p1 (gO h), fun h => hS.p2 (gO h), fun h => hS.p3 (gO h), fun h => hS.p4 (gO h), fun h => hS.p5 (gO h), fun h h' => hS.p6 (gO h) (gF h'), fun h h' => hS.p7 (gO h) (gF h'), fun _ => rfl, fun h => ZAB (hS.p9 (gO h)).2 hun, fun h => ZAB ((hS.p10 (gO h)).1 8 (by decide)) hun⟩
   | 9, _ =>
    obtain rfl := Option.some.inj ho
    have q8 := hdep ⟨8, .data⟩ (by simp) rfl
    obtain rfl := hS.p8 q8
    refine ZAH rfl rfl ?_
    go_simp
    refine ⟨x31, x32, x33, x34, x35, x36, x37, x38, .pointer (some ⟨B, 0, none⟩), .pointer (some ⟨B, 2, none⟩), rfl, ?_⟩
    exact ⟨fun h => hS.hb0 (gF h), fun h => hS.hb (gF h), fun h => hS.p0 (gO h), fun h => hS.p1 (gO h), fun h => hS.p2 (gO h), fun h => hS.p3 (gO h), fun h => hS.p4 (gO h), fun h => hS.p5 (gO h), fun h h' => hS.p6 (gO h) (gF h'), fun h h' => hS.p7 (gO h) (gF h'), fun h => hS.p8 (gO h), fun _ => ⟨rfl, getD_set_true q8⟩, fun h => ZAB ((hS.p10 (gO h)).1 9 (by decide)) hun⟩
   | 10, _ =>
    obtain rfl := Option.some.inj ho
    have q9 := hdep ⟨9, .data⟩ (by simp) rfl
    have q7 := hdep ⟨7, .data⟩ (by simp) rfl
    obtain ⟨rfl, z8⟩ := hS.p9 q9
    have hO := hS.p7 q7 hL
    obtain ⟨b9, c9, rfl⟩ := ZAD hO
    have hRB := (hc.block _ (ZAA HBk.out) (fun e9 => ZAL HOu.out HBk.out HTy.out.2.2.symm _ e9 rfl)).trans HBk.out
    have r0 : X.cell? ⟨B, 2, none⟩ = some (.slice au E.length cu) := ce hRB rfl
    have rf := Lib.frozen_of_heap hRB
    refine ZAH rfl rfl ?_
    go_simp
    refine ⟨x31, x32, x33, x34, x35, x36, x37, .slice b9 (E.length + 1) c9, x39, .pointer (some ⟨B, 2, none⟩), rfl, ?_⟩
    constructor
    ·exact fun h => absurd (gF h) (by rw [hdep ⟨7, .phase⟩ (by simp) rfl]; decide)
    ·exact fun h => absurd h (by rw [ZAX hun]; decide)
    ·exact fun h => hS.p0 (gO h)
    ·exact fun h => hS.p1 (gO h)
    ·exact fun h => hS.p2 (gO h)
    ·exact fun h => hS.p3 (gO h)
    ·exact fun h => hS.p4 (gO h)
    ·exact fun h => hS.p5 (gO h)
    ·exact fun _ h' => absurd (gF h') (by rw [hdep ⟨7, .phase⟩ (by simp) rfl]; decide)
    ·exact fun _ h' => uS h' hun
    ·exact fun h => hS.p8 (gO h)
    ·exact fun h => ⟨(hS.p9 (gO h)).1, getD_set_true (hS.p9 (gO h)).2⟩
    ·exact fun _ => ⟨fun j hj => by
      rw [getD_set_ne false (by omega)]
      match j, hj with
      | 0, _ => exact hdep ⟨0, .phase⟩ (by simp) rfl
      | 1, _ => exact hdep ⟨1, .phase⟩ (by simp) rfl
      | 2, _ => exact hdep ⟨2, .phase⟩ (by simp) rfl
      | 3, _ => exact hdep ⟨3, .phase⟩ (by simp) rfl
      | 4, _ => exact hdep ⟨4, .phase⟩ (by simp) rfl
      | 5, _ => exact hdep ⟨5, .phase⟩ (by simp) rfl
      | 6, _ => exact hdep ⟨6, .phase⟩ (by simp) rfl
      | 7, _ => exact hdep ⟨7, .phase⟩ (by simp) rfl
      | 8, _ => exact z8
      | 9, _ => exact hdep ⟨9, .data⟩ (by simp) rfl
      , ⟨b9, c9, ZAG (L := _ :: _ :: _ :: _ :: _) (i := 2) hRB _, ZAJ hO (Chg.of_grown (p := fun j => j = B) (ZAF _ B 2 _) rfl) (ZAL hO hRB HTy.out.2.2.symm), (hc.mono (fun _ h => .inl h)).trans (Chg.of_grown (ZAF _ B 2 _) (.inr rfl))⟩⟩
  case fin =>
   rintro listed a X ⟨x31, x32, x33, x34, x35, x36, x37, x38, x39, x40, rfl, hS⟩ hall
   obtain ⟨_, b9, c9, hT9, hO9, hC9⟩ := hS.p10 (hall 10 (by decide))
   clear hS hall
   have hF9 := (hC9.block _ (ZAA HF2.out) (fun h => by have := HG5.out; have := HNB.out; rcases h with h | h; (have := HEn.out _ h; omega); omega)).trans HF2.out
   have g7 : X.cell? ⟨g5, 7, none⟩ = some (.int .i64 0) := by rw [Lib.cell_of_heap hF9, HC.out]; rfl
   have HC9 := hid hC9
   have HT9 := hid hT9
   have HO9 := hid hO9
   clear hC9 hT9 hO9 hF9
   go_wp2
   go_ret
   have KT2 : KT X2 X := KT.of_chg HC9.out (fun g c t f hp he ht => by
    rcases hp with hp | rfl
    ·obtain ⟨c', f', h1⟩ := ZH7 HOu.out g hp
     rw [he] at h1; cases h1; rcases ht with ht | ht <;> exact absurd ht (by decide)
    ·rw [HT2.out] at he; cases he; exact ht.elim HTy.out.1 HTy.out.2.1)
   refine ⟨by rw [← HC.out]; rfl, fun _ => ⟨.slice b9 (E.length + 1) c9, ?_⟩, fun h => absurd HC.out.symm h, ?_⟩
   ·exact ⟨HT9.out, by rw [List.length_append, List.flatMap_append]; exact HO9.out, HS2.out.chg HC9.out (fun h => by have := HX.out.bm_ne; rcases h with h | h; (exact (HUn.out _ h).2 rfl); exact this h.symm) KT2, HX.out.lB, HX.out.lm, HX.out.ty⟩
   ·exact ((Chg.of_below HBX.out).trans (HC2.out.mono (fun j h => .inr (.inl h)))).trans (HC9.out.mono (fun j h => h.elim (fun h => .inr (.inr h)) (fun h => .inl h)))
end Go.Proofs.YtookchpdbilbcaaGreatDoor
