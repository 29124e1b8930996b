/-
 What the predicate of (*impl.history).forget answers: is the event's run no more in the map? A contract over the seat's program. (Made by mkfg1.py.)
-/
import Derived.Test.YtookchpdbilbcaaGreatDoorZImGo
import Derived.Test.YtookchpdbilbcaaGreatDoorZImDel2
set_option maxRecDepth 100000
set_option maxHeartbeats 4000000
namespace Go.Proofs.YtookchpdbilbcaaGreatDoor
open Go.RowKit Go.Sort Go.Maps
structure Fg1S (B bm z : Nat) (v : Value) (h : Bool) (e : Ev) (V : World) (listed : Array Bool) (x4 x5 x6 x7 x8 x9 x10 x11 x12 x13 x14 x15 : Value) (X : World) : Prop where
 hb : Below V.heap.size V X
 p0 : listed.getD 0 false = true → x7 = .pointer (some ⟨B, 0, none⟩)
 p1 : listed.getD 1 false = true → x8 = .pointer (some ⟨B, 0, none⟩)
 p2 : listed.getD 2 false = true → x9 = .pointer (some ⟨B, 3, none⟩)
 p3 : listed.getD 3 false = true → x10 = .map (some bm)
 p4 : listed.getD 4 false = true → x11 = .pointer (some ⟨z, 2, none⟩)
 p5 : listed.getD 5 false = true → x12 = .int .i64 e.run
 p6 : listed.getD 6 false = true → x13 = .tuple #[v, .bool h]
 p7 : listed.getD 7 false = true → x6 = .tuple #[v, .bool h]
 p8 : listed.getD 8 false = true → x14 = v
 p9 : listed.getD 9 false = true → x15 = .bool h
 p10 : listed.getD 10 false = true → listed.getD 11 false = false → (∃ g, x4 = .pointer (some ⟨g, 0, none⟩) ∧ V.heap.size ≤ g ∧ X.heap[g]? = some (.cells #[.int .i64 0, .int .i64 0, .int .i64 0, .slice none 0 0, .slice none 0 0, .slice none 0 0, .int .i64 0] 81 (0, 0)))
 p11 : listed.getD 11 false = true → (True)
 p12 : listed.getD 12 false = true → x5 = .bool h
def Fg1R (mk : Value → Value → Value → Value → Value → Value → Value → Value → Value → Value → Value → Value → Act) (B bm z : Nat) (v : Value) (h : Bool) (e : Ev) (V : World) (listed : Array Bool) (a : Act) (X : World) : Prop := ∃ x4 x5 x6 x7 x8 x9 x10 x11 x12 x13 x14 x15 : Value, a = mk x4 x5 x6 x7 x8 x9 x10 x11 x12 x13 x14 x15 ∧ Fg1S B bm z v h e V listed x4 x5 x6 x7 x8 x9 x10 x11 x12 x13 x14 x15 X
theorem ZCE (B T bm n bx Tp : Nat) (e : Ev) (L : List Value) (D : DataW Value) (i0 i1 i2 i6 : Int) (a3 a4 a5 : Option Addr) (n3 n4 n5 k3 k4 k5 : Nat) (w : World) (hx : w.heap[bx]? = some (.cells #[.pointer (some ⟨B, 0, none⟩)] Tp (0, 0))) (hB : w.heap[B]? = some (.cells L.toArray T (0, 0))) (hL : L[3]? = some (.map (some bm))) (hM : w.ownsMap Tryz.prog 2 heldE bm n D)
  (hAt : D.atKey (.int .i64 e.run) (.held zSt) = .held (.agg #[.int .i64 i0, .int .i64 i1, .int .i64 i2, .slice a3 n3 k3, .slice a4 n4 k4, .slice a5 n5 k5, .int .i64 i6])) (hw : (Lit.int .i64 e.run).wf = true) :
  Calls Tryz.prog 79 #[.agg #[.int .i64 e.seq, .int .i64 e.time, .int .i64 e.run, .int .i64 e.kind, .string e.step, .string e.val], .pointer (some ⟨bx, 0, none⟩)] w fun x w' => x = .returned (.bool (!Maps.has D (.int .i64 e.run))) ∧ Below w.heap.size w w' := by
 have mixed : Tryz.prog.follows .mixedOrders = true := by kernel_rfl
 obtain ⟨hb, hHb⟩ : ∃ b, Maps.has D (.int .i64 e.run) = b := ⟨_, rfl⟩
 rw [hHb]
 have hbv : Below w.heap.size w (w.alloc (.cells #[.int .i64 e.seq, .int .i64 e.time, .int .i64 e.run, .int .i64 e.kind, .string e.step, .string e.val] 57)) := (bR _ _).alloc nL _
 have HEz := hid (heap_alloc_new w (.cells #[.int .i64 e.seq, .int .i64 e.time, .int .i64 e.run, .int .i64 e.kind, .string e.step, .string e.val] 57))
 go_enter Tryz.func79, Tryz.ntmps79
 go_upto_region 1 with fail
 generalize w.alloc (.cells #[.int .i64 e.seq, .int .i64 e.time, .int .i64 e.run, .int .i64 e.kind, .string e.step, .string e.val] 57) = V at *
 have HXb := hid ((hbv.block _ (ZAA hx)).trans hx)
 have HBb := hid ((hbv.block _ (ZAA hB)).trans hB)
 have HMo := hid (hM.kept (ZAP (r := none) hbv) (by simp))
 have HAt := hid hAt
 have HHb := hid hHb
 have HW := hid hw
 have HLm := hid hL
 have HBv := hid hbv
 clear hx hB hM hAt hHb hw hL hbv
 refine ZDN mixed (Fg1R (fun x4 x5 x6 x7 x8 x9 x10 x11 x12 x13 x14 x15 => { tmps := #[.agg #[.int .i64 e.seq, .int .i64 e.time, .int .i64 e.run, .int .i64 e.kind, .string e.step, .string e.val], .pointer (some ⟨bx, 0, none⟩), .pointer (some ⟨w.heap.size, 0, none⟩), .bool false, x4, x5, x6, x7, x8, x9, x10, x11, x12, x13, x14, x15, undef, undef], defers := [] }) B bm w.heap.size (.agg #[.int .i64 i0, .int .i64 i1, .int .i64 i2, .slice a3 n3 k3, .slice a4 n4 k4, .slice a5 n5 k5, .int .i64 i6]) hb e V) ?ac ?start ?step ?fin
 case ac => exact ac_ofB (by kernel_rfl)
 case start =>
  refine ⟨undef, undef, undef, undef, undef, undef, undef, undef, undef, undef, undef, undef, rfl, ?_⟩
  constructor
  ·exact (Below.refl _ V).drew
  all_goals (intro h; simp at h)
 case step =>
  rintro i listed a X ⟨x4, x5, x6, x7, x8, x9, x10, x11, x12, x13, x14, x15, rfl, hS⟩ hun ⟨op9, ho, hdep⟩
  have hlt : i < 13 := (Array.getElem?_eq_some_iff.1 ho).1
  have b0 : X.cell? ⟨bx, 0, none⟩ = some (.pointer (some ⟨B, 0, none⟩)) := (hS.hb.cell (p := ⟨bx, 0, none⟩) (ZAA HXb.out)).trans (ce HXb.out rfl)
  have d3 : X.cell? ⟨B, 3, none⟩ = some (.map (some bm)) := (hS.hb.cell (p := ⟨B, 3, none⟩) (ZAA HBb.out)).trans (by rw [Lib.cell_of_heap HBb.out]; simpa using HLm.out)
  have f0 : X.cell? ⟨w.heap.size, 0, none⟩ = some (.int .i64 e.seq) := (hS.hb.cell (p := ⟨w.heap.size, 0, none⟩) (ZAA HEz.out)).trans (ce HEz.out rfl)
  have f1 : X.cell? ⟨w.heap.size, 1, none⟩ = some (.int .i64 e.time) := (hS.hb.cell (p := ⟨w.heap.size, 1, none⟩) (ZAA HEz.out)).trans (ce HEz.out rfl)
  have f2 : X.cell? ⟨w.heap.size, 2, none⟩ = some (.int .i64 e.run) := (hS.hb.cell (p := ⟨w.heap.size, 2, none⟩) (ZAA HEz.out)).trans (ce HEz.out rfl)
  have f3 : X.cell? ⟨w.heap.size, 3, none⟩ = some (.int .i64 e.kind) := (hS.hb.cell (p := ⟨w.heap.size, 3, none⟩) (ZAA HEz.out)).trans (ce HEz.out rfl)
  have f4 : X.cell? ⟨w.heap.size, 4, none⟩ = some (.string e.step) := (hS.hb.cell (p := ⟨w.heap.size, 4, none⟩) (ZAA HEz.out)).trans (ce HEz.out rfl)
  have f5 : X.cell? ⟨w.heap.size, 5, none⟩ = some (.string e.val) := (hS.hb.cell (p := ⟨w.heap.size, 5, none⟩) (ZAA HEz.out)).trans (ce HEz.out rfl)
  match i, hlt with
  | 0, _ =>
   obtain rfl := Option.some.inj ho
   refine ZAH rfl rfl ?_
   go_simp
   refine ⟨x4, x5, x6, .pointer (some ⟨B, 0, none⟩), x8, x9, x10, x11, x12, x13, x14, x15, rfl, ?_⟩
   exact ⟨hS.hb, fun _ => rfl, fun h => hS.p1 (gO h), fun h => hS.p2 (gO h), fun h => hS.p3 (gO h), fun h => hS.p4 (gO h), fun h => hS.p5 (gO h), fun h => hS.p6 (gO h), fun h => hS.p7 (gO h), fun h => hS.p8 (gO h), fun h => hS.p9 (gO h), fun h h' => hS.p10 (gO h) (gF h'), fun h => hS.p11 (gO h), fun h => hS.p12 (gO h)⟩
  | 1, _ =>
   obtain rfl := Option.some.inj ho
   have q0 := hdep ⟨0, .data⟩ (by simp) rfl
   obtain rfl := hS.p0 q0
   refine ZAH rfl rfl ?_
   go_simp
   refine ⟨x4, x5, x6, .pointer (some ⟨B, 0, none⟩), .pointer (some ⟨B, 0, none⟩), x9, x10, x11, x12, x13, x14, x15, rfl, ?_⟩
   exact ⟨hS.hb, fun h => hS.p0 (gO h), fun _ => rfl, fun h => hS.p2 (gO h), fun h => hS.p3 (gO h), fun h => hS.p4 (gO h), fun h => hS.p5 (gO h), fun h => hS.p6 (gO h), fun h => hS.p7 (gO h), fun h => hS.p8 (gO h), fun h => hS.p9 (gO h), fun h h' => hS.p10 (gO h) (gF h'), fun h => hS.p11 (gO h), fun h => hS.p12 (gO h)⟩
  | 2, _ =>
   obtain rfl := Option.some.inj ho
   have q1 := hdep ⟨1, .data⟩ (by simp) rfl
   obtain rfl := hS.p1 q1
   refine ZAH rfl rfl ?_
   go_simp
   refine ⟨x4, x5, x6, x7, .pointer (some ⟨B, 0, none⟩), .pointer (some ⟨B, 3, none⟩), x10, x11, x12, x13, x14, x15, rfl, ?_⟩
   exact ⟨hS.hb, fun h => hS.p0 (gO h), fun h => hS.p1 (gO h), fun _ => rfl, fun h => hS.p3 (gO h), fun h => hS.p4 (gO h), fun h => hS.p5 (gO h), fun h => hS.p6 (gO h), fun h => hS.p7 (gO h), fun h => hS.p8 (gO h), fun h => hS.p9 (gO h), fun h h' => hS.p10 (gO h) (gF h'), fun h => hS.p11 (gO h), fun h => hS.p12 (gO h)⟩
  | 3, _ =>
   obtain rfl := Option.some.inj ho
   have q2 := hdep ⟨2, .data⟩ (by simp) rfl
   obtain rfl := hS.p2 q2
   refine ZAH rfl rfl ?_
   go_simp
   refine ⟨x4, x5, x6, x7, x8, .pointer (some ⟨B, 3, none⟩), .map (some bm), x11, x12, x13, x14, x15, rfl, ?_⟩
   exact ⟨hS.hb, fun h => hS.p0 (gO h), fun h => hS.p1 (gO h), fun h => hS.p2 (gO h), fun _ => rfl, fun h => hS.p4 (gO h), fun h => hS.p5 (gO h), fun h => hS.p6 (gO h), fun h => hS.p7 (gO h), fun h => hS.p8 (gO h), fun h => hS.p9 (gO h), fun h h' => hS.p10 (gO h) (gF h'), fun h => hS.p11 (gO h), fun h => hS.p12 (gO h)⟩
  | 4, _ =>
   obtain rfl := Option.some.inj ho
   refine ZAH rfl rfl ?_
   go_simp
   refine ⟨x4, x5, x6, x7, x8, x9, x10, .pointer (some ⟨w.heap.size, 2, none⟩), x12, x13, x14, x15, rfl, ?_⟩
   exact ⟨hS.hb, fun h => hS.p0 (gO h), fun h => hS.p1 (gO h), fun h => hS.p2 (gO h), fun h => hS.p3 (gO h), fun _ => rfl, fun h => hS.p5 (gO h), fun h => hS.p6 (gO h), fun h => hS.p7 (gO h), fun h => hS.p8 (gO h), fun h => hS.p9 (gO h), fun h h' => hS.p10 (gO h) (gF h'), fun h => hS.p11 (gO h), fun h => hS.p12 (gO h)⟩
  | 5, _ =>
   obtain rfl := Option.some.inj ho
   have q4 := hdep ⟨4, .data⟩ (by simp) rfl
   obtain rfl := hS.p4 q4
   refine ZAH rfl rfl ?_
   go_simp
   refine ⟨x4, x5, x6, x7, x8, x9, x10, .pointer (some ⟨w.heap.size, 2, none⟩), .int .i64 e.run, x13, x14, x15, rfl, ?_⟩
   exact ⟨hS.hb, fun h => hS.p0 (gO h), fun h => hS.p1 (gO h), fun h => hS.p2 (gO h), fun h => hS.p3 (gO h), fun h => hS.p4 (gO h), fun _ => rfl, fun h => hS.p6 (gO h), fun h => hS.p7 (gO h), fun h => hS.p8 (gO h), fun h => hS.p9 (gO h), fun h h' => hS.p10 (gO h) (gF h'), fun h => hS.p11 (gO h), fun h => hS.p12 (gO h)⟩
  | 6, _ =>
   obtain rfl := Option.some.inj ho
   have q3 := hdep ⟨3, .data⟩ (by simp) rfl
   have q5 := hdep ⟨5, .data⟩ (by simp) rfl
   obtain rfl := hS.p3 q3
   obtain rfl := hS.p5 q5
   obtain ⟨v9, ps, hrun, hv⟩ := (HMo.out.kept (ZAP (r := none) hS.hb) (by simp)).look_ok (int_keyed Tryz.underlying2) Tryz.underlying90 (z := zSt) (ZF3 _) (zd := .held zSt) (zp := []) rfl (keyOf_int_mk Tryz.underlying2 HW.out)
   rw [HAt.out] at hv
   obtain rfl := ZEe hv
   clear hv
   rw [HHb.out] at hrun
   refine ZAH rfl rfl ?_
   go_simp
   refine ⟨x4, x5, x6, x7, x8, x9, .map (some bm), x11, .int .i64 e.run, .tuple #[.agg #[.int .i64 i0, .int .i64 i1, .int .i64 i2, .slice a3 n3 k3, .slice a4 n4 k4, .slice a5 n5 k5, .int .i64 i6], .bool hb], x14, x15, rfl, ?_⟩
   exact ⟨hS.hb, fun h => hS.p0 (gO h), fun h => hS.p1 (gO h), fun h => hS.p2 (gO h), fun h => hS.p3 (gO h), fun h => hS.p4 (gO h), fun h => hS.p5 (gO h), fun _ => rfl, fun h => hS.p7 (gO h), fun h => hS.p8 (gO h), fun h => hS.p9 (gO h), fun h h' => hS.p10 (gO h) (gF h'), fun h => hS.p11 (gO h), fun h => hS.p12 (gO h)⟩
  | 7, _ =>
   obtain rfl := Option.some.inj ho
   have q6 := hdep ⟨6, .data⟩ (by simp) rfl
   obtain rfl := hS.p6 q6
   refine ZAH rfl rfl ?_
   go_simp
   refine ⟨x4, x5, .tuple #[.agg #[.int .i64 i0, .int .i64 i1, .int .i64 i2, .slice a3 n3 k3, .slice a4 n4 k4, .slice a5 n5 k5, .int .i64 i6], .bool hb], x7, x8, x9, x10, x11, x12, .tuple #[.agg #[.int .i64 i0, .int .i64 i1, .int .i64 i2, .slice a3 n3 k3, .slice a4 n4 k4, .slice a5 n5 k5, .int .i64 i6], .bool hb], x14, x15, rfl, ?_⟩
   exact ⟨hS.hb, fun h => hS.p0 (gO h), fun h => hS.p1 (gO h), fun h => hS.p2 (gO h), fun h => hS.p3 (gO h), fun h => hS.p4 (gO h), fun h => hS.p5 (gO h), fun h => hS.p6 (gO h), fun _ => rfl, fun h => hS.p8 (gO h), fun h => hS.p9 (gO h), fun h h' => hS.p10 (gO h) (gF h'), fun h => hS.p11 (gO h), fun h => hS.p12 (gO h)⟩
  | 8, _ =>
   obtain rfl := Option.some.inj ho
   have q7 := hdep ⟨7, .data⟩ (by simp) rfl
   obtain rfl := hS.p7 q7
   refine ZAH rfl rfl ?_
   go_simp
   refine ⟨x4, x5, .tuple #[.agg #[.int .i64 i0, .int .i64 i1, .int .i64 i2, .slice a3 n3 k3, .slice a4 n4 k4, .slice a5 n5 k5, .int .i64 i6], .bool hb], x7, x8, x9, x10, x11, x12, x13, .agg #[.int .i64 i0, .int .i64 i1, .int .i64 i2, .slice a3 n3 k3, .slice a4 n4 k4, .slice a5 n5 k5, .int .i64 i6], x15, rfl, ?_⟩
   exact ⟨hS.hb, fun h => hS.p0 (gO h), fun h => hS.p1 (gO h), fun h => hS.p2 (gO h), fun h => hS.p3 (gO h), fun h => hS.p4 (gO h), fun h => hS.p5 (gO h), fun h => hS.p6 (gO h), fun h => hS.p7 (gO h), fun _ => rfl, fun h => hS.p9 (gO h), fun h h' => hS.p10 (gO h) (gF h'), fun h => hS.p11 (gO h), fun h => hS.p12 (gO h)⟩
  | 9, _ =>
   obtain rfl := Option.some.inj ho
   have q7 := hdep ⟨7, .data⟩ (by simp) rfl
   obtain rfl := hS.p7 q7
   refine ZAH rfl rfl ?_
   go_simp
   refine ⟨x4, x5, .tuple #[.agg #[.int .i64 i0, .int .i64 i1, .int .i64 i2, .slice a3 n3 k3, .slice a4 n4 k4, .slice a5 n5 k5, .int .i64 i6], .bool hb], x7, x8, x9, x10, x11, x12, x13, x14, .bool hb, rfl, ?_⟩
   exact ⟨hS.hb, fun h => hS.p0 (gO h), fun h => hS.p1 (gO h), fun h => hS.p2 (gO h), fun h => hS.p3 (gO h), fun h => hS.p4 (gO h), fun h => hS.p5 (gO h), fun h => hS.p6 (gO h), fun h => hS.p7 (gO h), fun h => hS.p8 (gO h), fun _ => rfl, fun h h' => hS.p10 (gO h) (gF h'), fun h => hS.p11 (gO h), fun h => hS.p12 (gO h)⟩
  | 10, _ =>
   obtain rfl := Option.some.inj ho
   refine ZAH rfl rfl ?_
   go_simp
   have hq : Below X.heap.size X (X.alloc (.cells #[.int .i64 0, .int .i64 0, .int .i64 0, .slice none 0 0, .slice none 0 0, .slice none 0 0, .int .i64 0] 81)) := (bR _ _).alloc nL _
   refine ⟨.pointer (some ⟨X.heap.size, 0, none⟩), x5, x6, x7, x8, x9, x10, x11, x12, x13, x14, x15, rfl, ?_⟩
   exact ⟨hS.hb.trans (hq.mono hS.hb.size), fun h => hS.p0 (gO h), fun h => hS.p1 (gO h), fun h => hS.p2 (gO h), fun h => hS.p3 (gO h), fun h => hS.p4 (gO h), fun h => hS.p5 (gO h), fun h => hS.p6 (gO h), fun h => hS.p7 (gO h), fun h => hS.p8 (gO h), fun h => hS.p9 (gO h), fun _ _ => ⟨X.heap.size, rfl, hS.hb.size, heap_alloc_new X _⟩, fun h => (hS.p11 (gO h)), fun h => hS.p12 (gO h)⟩
  | 11, _ =>
   obtain rfl := Option.some.inj ho
   have q10 := hdep ⟨10, .data⟩ (by simp) rfl
   have q8 := hdep ⟨8, .data⟩ (by simp) rfl
   obtain rfl := hS.p8 q8
   obtain ⟨g8, rfl, hg1, hg8⟩ := hS.p10 q10 (ZAW hun)
   have s0 : X.cell? ⟨g8, 0, none⟩ = some (.int .i64 0) := ce hg8 rfl
   have s1 : X.cell? ⟨g8, 1, none⟩ = some (.int .i64 0) := ce hg8 rfl
   have s2 : X.cell? ⟨g8, 2, none⟩ = some (.int .i64 0) := ce hg8 rfl
   have s3 : X.cell? ⟨g8, 3, none⟩ = some (.slice none 0 0) := ce hg8 rfl
   have s4 : X.cell? ⟨g8, 4, none⟩ = some (.slice none 0 0) := ce hg8 rfl
   have s5 : X.cell? ⟨g8, 5, none⟩ = some (.slice none 0 0) := ce hg8 rfl
   have s6 : X.cell? ⟨g8, 6, none⟩ = some (.int .i64 0) := ce hg8 rfl
   have sf := Lib.frozen_of_heap hg8
   refine ZAH rfl rfl ?_
   go_simp
   have hC := (((((((Chg.of_grown (p := fun j => j = g8) (ZAF X g8 0 (.int .i64 i0)) rfl).trans (Chg.of_grown (ZAF _ g8 1 (.int .i64 i1)) rfl)).trans (Chg.of_grown (ZAF _ g8 2 (.int .i64 i2)) rfl)).trans (Chg.of_grown (ZAF _ g8 3 (.slice a3 n3 k3)) rfl)).trans (Chg.of_grown (ZAF _ g8 4 (.slice a4 n4 k4)) rfl)).trans (Chg.of_grown (ZAF _ g8 5 (.slice a5 n5 k5)) rfl)).trans (Chg.of_grown (ZAF _ g8 6 (.int .i64 i6)) rfl))
   refine ⟨_, x5, x6, x7, x8, x9, x10, x11, x12, x13, .agg #[.int .i64 i0, .int .i64 i1, .int .i64 i2, .slice a3 n3 k3, .slice a4 n4 k4, .slice a5 n5 k5, .int .i64 i6], x15, rfl, ?_⟩
   exact ⟨hS.hb.trans (hC.below hS.hb.size (fun j (h : j = _) => by omega)), fun h => hS.p0 (gO h), fun h => hS.p1 (gO h), fun h => hS.p2 (gO h), fun h => hS.p3 (gO h), fun h => hS.p4 (gO h), fun h => hS.p5 (gO h), fun h => hS.p6 (gO h), fun h => hS.p7 (gO h), fun h => hS.p8 (gO h), fun h => hS.p9 (gO h), fun _ h' => uS h' hun, fun _ => trivial, fun h => hS.p12 (gO h)⟩
  | 12, _ =>
   obtain rfl := Option.some.inj ho
   have q9 := hdep ⟨9, .data⟩ (by simp) rfl
   obtain rfl := hS.p9 q9
   refine ZAH rfl rfl ?_
   go_simp
   refine ⟨x4, .bool hb, x6, x7, x8, x9, x10, x11, x12, x13, x14, .bool hb, rfl, ?_⟩
   exact ⟨hS.hb, fun h => hS.p0 (gO h), fun h => hS.p1 (gO h), fun h => hS.p2 (gO h), fun h => hS.p3 (gO h), fun h => hS.p4 (gO h), fun h => hS.p5 (gO h), fun h => hS.p6 (gO h), fun h => hS.p7 (gO h), fun h => hS.p8 (gO h), fun h => hS.p9 (gO h), fun h h' => hS.p10 (gO h) (gF h'), fun h => hS.p11 (gO h), fun _ => rfl⟩
 case fin =>
  rintro listed a X ⟨x4, x5, x6, x7, x8, x9, x10, x11, x12, x13, x14, x15, rfl, hS⟩ hall
  obtain rfl := hS.p12 (hall 12 (by decide))
  have HX := hid (HBv.out.trans (hS.hb.mono HBv.out.size))
  clear hS hall
  go_wp2
  go_ret
  exact ⟨rfl, HX.out⟩
end Go.Proofs.YtookchpdbilbcaaGreatDoor
