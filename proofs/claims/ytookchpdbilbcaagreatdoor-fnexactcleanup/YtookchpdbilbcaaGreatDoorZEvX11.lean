/-
 Texts put together: EvX, EvS, AggS, AggV, AggW, Itr, ItrV, ItrO, EvT, Ev, Bel.
-/
import Derived.Test.YtookchpdbilbcaaGreatDoorZAggD2
import Derived.Test.YtookchpdbilbcaaGreatDoorZAgg6
import Derived.DataReads
import Derived.RangeFuncNested
import Derived.RangeFuncLeaves
import Derived.Test.YtookchpdbilbcaaGreatDoorRows
import Derived.RangeFuncBound
import Derived.RangeFuncCalls
import Derived.Shelf.Abstract
import Derived.Shelf.RegionOpen
import Derived.WalkKit
import Derived.OwnWalkIn
import Derived.TacticsInMore
import Derived.LoopNIn
import Derived.LoopIn
import Derived.Sort.CutIn
set_option maxRecDepth 100000
set_option maxHeartbeats 4000000
/-
 An event, field by field, and what it is for one to be right. Of no function.
-/
namespace Go.Proofs.YtookchpdbilbcaaGreatDoor
open Go.RowKit
def numB (n : Int) : Bool := decide (1 ≤ n) && decide (n ≤ 1000000)
def timB (n : Int) : Bool := decide (0 ≤ n) && decide (n ≤ 1000000)
/-- An event, field by field. -/
structure Ev where
 seq : Int
 time : Int
 run : Int
 kind : Int
 step : ByteArray
 val : ByteArray
def kndB (k : Int) (s v : ByteArray) : Bool :=
 if k = 1 ∨ k = 6 then decide (s = ByteArray.empty) && decide (v = ByteArray.empty)
 else if k = 2 ∨ k = 3 ∨ k = 5 then nrB s && decide (v = ByteArray.empty)
 else if k = 4 then nrB s && decide (v.size ≤ 40) else false
def evB (e : Ev) : Bool := numB e.seq && (numB e.run && (timB e.time && kndB e.kind e.step e.val))
end Go.Proofs.YtookchpdbilbcaaGreatDoor
/-
 Rows of events in memory: what it is that a slice holds these events, and that it stays so. Of no function.
-/
namespace Go.Proofs.YtookchpdbilbcaaGreatDoor
open Go.RowKit
def Ev.cells (e : Ev) : List Value := [.int .i64 e.seq, .int .i64 e.time, .int .i64 e.run, .int .i64 e.kind, .string e.step, .string e.val]
/-- An event at a place. -/
structure EvAt (w : World) (g o : Nat) (e : Ev) : Prop where
 c0 : w.cell? ⟨g, o, none⟩ = some (.int .i64 e.seq)
 c1 : w.cell? ⟨g, o + 1, none⟩ = some (.int .i64 e.time)
 c2 : w.cell? ⟨g, o + 2, none⟩ = some (.int .i64 e.run)
 c3 : w.cell? ⟨g, o + 3, none⟩ = some (.int .i64 e.kind)
 c4 : w.cell? ⟨g, o + 4, none⟩ = some (.string e.step)
 c5 : w.cell? ⟨g, o + 5, none⟩ = some (.string e.val)
/-- A row of events, from a place on. -/
def EvsAt (w : World) (g o : Nat) (es : List Ev) : Prop := g < w.heap.size ∧ ∀ i, (h : i < es.length) → EvAt w g (o + i * 6) es[i]
/-- What a slice of events is: empty, or a row somewhere. -/
def EvSl (w : World) (v : Value) (es : List Ev) : Prop :=
 (∃ a c, v = .slice a 0 c ∧ es = []) ∨ ∃ g o c, v = .slice (some ⟨g, o, none⟩) es.length c ∧ 0 < es.length ∧ EvsAt w g o es
theorem EvAt.below {w w' : World} {B g o : Nat} {e : Ev} (h : EvAt w g o e) (hb : Below B w w') (hg : g < B) : EvAt w' g o e :=
 ⟨by rw [hb.cell (p := ⟨g, o, none⟩) hg]; exact h.c0, by rw [hb.cell (p := ⟨g, o + 1, none⟩) hg]; exact h.c1, by rw [hb.cell (p := ⟨g, o + 2, none⟩) hg]; exact h.c2,
  by rw [hb.cell (p := ⟨g, o + 3, none⟩) hg]; exact h.c3, by rw [hb.cell (p := ⟨g, o + 4, none⟩) hg]; exact h.c4, by rw [hb.cell (p := ⟨g, o + 5, none⟩) hg]; exact h.c5⟩
theorem EvsAt.below {w w' : World} {B g o : Nat} {es : List Ev} (h : EvsAt w g o es) (hb : Below B w w') (hg : g < B) : EvsAt w' g o es :=
 ⟨Nat.lt_of_lt_of_le h.1 hb.size, fun i hi => (h.2 i hi).below hb hg⟩
theorem EvsAt.stay {w w' : World} {B g o : Nat} {es : List Ev} (h : EvsAt w g o es) (hb : Below B w w') (hB : w.heap.size ≤ B) : EvsAt w' g o es := h.below hb (Nat.lt_of_lt_of_le h.1 hB)
theorem EvSl.stay {w w' : World} {B : Nat} {v : Value} {es : List Ev} (h : EvSl w v es) (hb : Below B w w') (hB : w.heap.size ≤ B) : EvSl w' v es := by
 rcases h with h | ⟨g, o, c, hv, hn, h⟩
 ·exact .inl h
 ·exact .inr ⟨g, o, c, hv, hn, h.stay hb hB⟩
theorem ZFS : ∀ (es : List Ev) (i j : Nat), (h : i < es.length) → j < 6 → (es.flatMap Ev.cells)[i * 6 + j]? = es[i].cells[j]?
 | [], i, _, h, _ => absurd h (by simp)
 | e :: r, 0, j, _, hj => by
  rw [List.flatMap_cons, List.getElem?_append_left (by simpa [Ev.cells] using hj)]
  simp
 | e :: r, i + 1, j, h, hj => by
  have hi : i < r.length := by simpa using h
  have h6 : e.cells.length = 6 := rfl
  rw [List.flatMap_cons, List.getElem?_append_right (by omega), h6, show (i + 1) * 6 + j - 6 = i * 6 + j by omega, ZFS r i j hi hj]
  simp
theorem ZAg (es : List Ev) : (es.flatMap Ev.cells).length = es.length * 6 := by
 induction es with
 | nil => rfl
 | cons e r ih => rw [List.flatMap_cons, List.length_append, ih]; simp [Ev.cells]; omega
theorem ZFN {w : World} {g : Nat} {es : List Ev} (hc : ∀ j u, (es.flatMap Ev.cells)[j]? = some u → w.cell? ((⟨g, 0, none⟩ : Addr).add j) = some u) (i : Nat) (h : i < es.length) : EvAt w g (0 + i * 6) es[i] := by
 have key : ∀ j u, j < 6 → es[i].cells[j]? = some u → w.cell? ⟨g, 0 + i * 6 + j, none⟩ = some u := by
  intro j u hj hu
  have := hc (i * 6 + j) u (by rw [ZFS es i j h hj]; exact hu)
  rw [Addr.add_lit] at this
  rwa [Nat.add_assoc]
 exact ⟨key 0 _ (by decide) rfl, key 1 _ (by decide) rfl, key 2 _ (by decide) rfl, key 3 _ (by decide) rfl, key 4 _ (by decide) rfl, key 5 _ (by decide) rfl⟩
/-- A row that a call owns, of events. -/
theorem ZAi {w : World} {base n : Nat} {e : TypeId} {v : Value} {es : List Ev} (h : w.ownsRow base e 6 v n (es.flatMap Ev.cells)) : EvSl w v es := by
 have hn : n = es.length := by have := h.1; rw [ZAg] at this; omega
 subst hn
 rcases h.2 with ⟨hv, h0⟩ | ⟨g, cap, cur, hv, _⟩
 ·exact .inl ⟨none, 0, hv, List.eq_nil_of_length_eq_zero h0⟩
 ·by_cases h0 : es.length = 0
  ·exact .inl ⟨some ⟨g, 0, none⟩, cap, by rw [hv, h0], List.eq_nil_of_length_eq_zero h0⟩
  ·have hlt := (h.lt g (by rw [hv]; rfl)).2
   exact .inr ⟨g, 0, cap, hv, by omega, hlt, fun i hi => ZFN (h.cells (by rw [hv]; rfl)) i hi⟩
/-- The texts of these events can be handed about. -/
def Fit (es : List Ev) : Prop := ∀ i, (h : i < es.length) → es[i].step.size ≤ maxLen ∧ es[i].val.size ≤ maxLen
end Go.Proofs.YtookchpdbilbcaaGreatDoor
/-
 A slice of events that came in as data: what it holds. Of no function: one law of reading.
-/
namespace Go.Proofs.YtookchpdbilbcaaGreatDoor
open Go.ChangeShapes Go.WideShapes Go.RowKit Go.Deep Go.WideElems
section
variable {H : Type} {enc : TypeId × Value → H} {P : Program} {w : World}
theorem ZEZ {a : Addr} {i : Nat} {ev : Ev} (h : w.cells? 0 (a.add (i * 6)) 6 = some ev.cells) (hs : a.spot = none) : EvAt w a.block (a.off + i * 6) ev := by
 obtain ⟨b, o, s⟩ := a
 simp at hs
 subst hs
 obtain ⟨_, _, hc⟩ := World.cells?_some h
 rw [Addr.add_lit] at hc
 have key : ∀ j, j < 6 → w.cell? ⟨b, o + i * 6 + j, none⟩ = ev.cells[j]? := fun j hj => by
  have := hc j hj
  rwa [Addr.add_lit] at this
 exact ⟨key 0 (by decide), key 1 (by decide), key 2 (by decide), key 3 (by decide), key 4 (by decide), key 5 (by decide)⟩
/-- A slice of structs of four int64 and two strings, read: its events. -/
theorem ZHY {t e : TypeId} {f0 f1 f2 f3 f4 f5 : Field} {a0 : Option Addr} {len cap : Nat} {D : DataW H} {p : List MemPlace} (hsl : P.underlying t = some (.slice e)) (ht : P.underlying e = some (.struct #[f0, f1, f2, f3, f4, f5])) (hone : oneCellFields P #[f0, f1, f2, f3, f4, f5] = true) (hC : P.cellsOf e = 6)
  (u0 : P.underlying f0.type = some (.int .i64)) (u1 : P.underlying f1.type = some (.int .i64)) (u2 : P.underlying f2.type = some (.int .i64)) (u3 : P.underlying f3.type = some (.int .i64)) (u4 : P.underlying f4.type = some .string) (u5 : P.underlying f5.type = some .string)
  (h : DataW.Trod enc P w 0 (fun _ => true) true t (.slice a0 len cap) D p) : ∃ es : List Ev, EvSl w (.slice a0 len cap) es ∧ Fit es ∧ es.length ≤ maxLen := by
 obtain ⟨fuel, hf⟩ := h
 rcases open_slice hsl hf with ⟨hcs, _⟩ | ⟨a, len', cap', m, n, D', Pl, hcs, _, hl, hm, hmm, _, hel⟩
 ·simp [Value.cells] at hcs
  obtain ⟨rfl, rfl, rfl⟩ := hcs
  exact ⟨[], .inl ⟨none, 0, rfl, rfl⟩, fun i hi => absurd hi (by simp), Nat.zero_le _⟩
 ·simp [Value.cells] at hcs
  obtain ⟨rfl, rfl, rfl⟩ := hcs
  simp only [if_true] at hmm
  subst hmm
  have hex : ∀ i, i < len → ∃ ev : Ev, w.cells? 0 (a.add (i * 6)) 6 = some ev.cells ∧ ev.step.size ≤ maxLen ∧ ev.val.size ≤ maxLen := by
   intro i hi
   obtain ⟨cs', h1, h2⟩ := hel i (by omega)
   rw [hC] at h1
   obtain ⟨x0, x1, x2, x3, s, v, rfl, _, _, _, _, hs, hv⟩ := ZIh ht hone hC u0 u1 u2 u3 u4 u5 h2
   exact ⟨⟨x0, x1, x2, x3, s, v⟩, h1, hs, hv⟩
  obtain ⟨f, hfx⟩ : ∃ f : Nat → Ev, ∀ i, i < len → w.cells? 0 (a.add (i * 6)) 6 = some (f i).cells ∧ (f i).step.size ≤ maxLen ∧ (f i).val.size ≤ maxLen := by
   refine ⟨fun i => if hi : i < len then Classical.choose (hex i hi) else ⟨0, 0, 0, 0, ByteArray.empty, ByteArray.empty⟩, fun i hi => ?_⟩
   simp only [dif_pos hi]
   exact Classical.choose_spec (hex i hi)
  refine ⟨(List.range len).map f, ?_, ?_, by simp; omega⟩
  ·by_cases h0 : len = 0
   ·subst h0
    exact .inl ⟨some a, m, rfl, rfl⟩
   ·have hc0 := (hfx 0 (by omega)).1
    have hspot : a.spot = none := by
     obtain ⟨_, _, hc⟩ := World.cells?_some hc0
     have := World.cell?_spot (hc 0 (by decide))
     simpa [Addr.add] using this
    have hblk : a.block < w.heap.size := by
     have := World.cells?_block hc0 (by decide)
     simpa [Addr.add] using this
    refine .inr ⟨a.block, a.off, m, ?_, by simp; omega, hblk, fun i hi => ?_⟩
    ·obtain ⟨b, o, s⟩ := a
     simp at hspot
     subst hspot
     simp
    ·have hi' : i < len := by simpa using hi
     simpa using ZEZ (hfx i hi').1 hspot
  ·intro i hi
   have hi' : i < len := by simpa using hi
   simpa using (hfx i hi').2
end
end Go.Proofs.YtookchpdbilbcaaGreatDoor
/-
 A Service that came in as data: what it holds. Of no function: one law of reading.
-/
namespace Go.Proofs.YtookchpdbilbcaaGreatDoor
open Go.ChangeShapes Go.WideShapes Go.RowKit Go.Deep Go.WideElems
theorem list3 {α : Type} {l : List α} (h : l.length = 3) : ∃ a b c, l = [a, b, c] := by
 match l, h with
 | [a, b, c], _ => exact ⟨a, b, c, rfl⟩
theorem list4 {α : Type} {l : List α} (h : l.length = 4) : ∃ a b c d, l = [a, b, c, d] := by
 match l, h with
 | [a, b, c, d], _ => exact ⟨a, b, c, d, rfl⟩
section
variable {H : Type} {enc : TypeId × Value → H} {P : Program} {w : World}
theorem ZD0 {r : Reach} {b0 : Nat} {t e e2 e3 : TypeId} {g0 g1 g2 f0 f1 q0 q1 h0 h1 h2 h3 h4 h5 : Field} {V : Value} {D : DataW H} {p : List MemPlace}
  (ht : P.underlying t = some (.struct #[g0, g1, g2])) (hC : P.cellsOf t = 4) (o0 : g0.offset = 0 ∧ P.cellsOf g0.type = 2) (o1 : g1.offset = 2 ∧ P.cellsOf g1.type = 1) (o2 : g2.offset = 3 ∧ P.cellsOf g2.type = 1)
  (hd : P.underlying g0.type = some (.struct #[f0, f1])) (hone : oneCellFields P #[f0, f1] = true)
  (s0 : P.underlying f0.type = some (.slice e)) (s0e : P.underlying e = some .string) (s0c : P.cellsOf e = 1)
  (s1 : P.underlying f1.type = some (.slice e2)) (s1e : P.underlying e2 = some (.struct #[q0, q1])) (s1o : oneCellFields P #[q0, q1] = true) (s1c : P.cellsOf e2 = 2) (u0 : P.underlying q0.type = some .string) (u1 : P.underlying q1.type = some .string)
  (s2 : P.underlying g1.type = some (.slice e3)) (s2e : P.underlying e3 = some (.struct #[h0, h1, h2, h3, h4, h5])) (s2o : oneCellFields P #[h0, h1, h2, h3, h4, h5] = true) (s2c : P.cellsOf e3 = 6)
  (v0 : P.underlying h0.type = some (.int .i64)) (v1 : P.underlying h1.type = some (.int .i64)) (v2 : P.underlying h2.type = some (.int .i64)) (v3 : P.underlying h3.type = some (.int .i64)) (v4 : P.underlying h4.type = some .string) (v5 : P.underlying h5.type = some .string)
  (i2 : P.underlying g2.type = some (.int .i64))
  (hv : Value.okWide P w r b0 t V) (h : DataW.Trod enc P w 0 (fun _ => true) true t V D p) :
  ∃ (a1 a2 a6 : Option Addr) (k1 k2 k6 : Nat) (ss : List ByteArray) (fs : List Pr) (es : List Ev) (nx : Int), V = .agg #[.slice a1 ss.length k1, .slice a2 fs.length k2, .slice a6 es.length k6, .int .i64 nx] ∧ (StrSl w (.slice a1 ss.length k1) ss ∧ FitS ss ∧ ss.length ≤ maxLen) ∧ (PrSl w (.slice a2 fs.length k2) fs ∧ FitP fs ∧ fs.length ≤ maxLen) ∧ (EvSl w (.slice a6 es.length k6) es ∧ Fit es ∧ es.length ≤ maxLen) := by
 obtain ⟨cs, rfl, _⟩ := okWide_struct ht hv
 obtain ⟨fuel, hf'⟩ := h
 obtain ⟨xs, n, _, _, hl, hlen, hf⟩ := DataW.trod_struct ht hf'
 obtain ⟨c0, c1, c2, c3, e⟩ := list4 (hl.trans hC)
 rw [e] at hf
 obtain ⟨x0, x1, x2, rfl⟩ := list3 (show xs.length = 3 from hlen)
 have hd0 := hf 0 g0 rfl
 rw [o0.1, o0.2] at hd0
 have hd1 : DataW.trod enc P w 0 (fun _ => true) true n g0.type [c0, c1] = some x0 := hd0
 obtain ⟨ys, m, _, _, hl2, hlen2, hf2⟩ := DataW.trod_struct hd hd1
 obtain ⟨y0, y1, rfl⟩ := list2 (show ys.length = 2 from hlen2)
 obtain ⟨a1, k1, ss, e1, p1⟩ := ZGx s0 s0e s0c (ZCf (hone_of hone 0 f0 rfl) rfl (hf2 0 f0 rfl) rfl)
 obtain ⟨a2, k2, fs, e2', p2⟩ := ZHa s1 s1e s1o s1c u0 u1 (ZCf (hone_of hone 1 f1 rfl) rfl (hf2 1 f1 rfl) rfl)
 have hs2 : DataW.trod enc P w 0 (fun _ => true) true n g1.type [c2] = some x1 := ZCf o1 rfl (hf 1 g1 rfl) rfl
 have hsl : ∃ a len cap, c2 = .slice a len cap := by
  rcases open_slice s2 hs2 with ⟨hcs, _⟩ | ⟨a, len', cap', m, n, D', Pl, hcs, _⟩
  ·simp at hcs; exact ⟨_, _, _, hcs⟩
  ·simp at hcs; exact ⟨_, _, _, hcs⟩
 obtain ⟨a6, len, k6, rfl⟩ := hsl
 obtain ⟨es, hE, hF, hN⟩ := ZHY s2 s2e s2o s2c v0 v1 v2 v3 v4 v5 (D := x1.1) (p := x1.2) ⟨n, by simpa [Value.cells] using hs2⟩
 obtain rfl : len = es.length := by
  rcases hE with ⟨_, _, e, rfl⟩ | ⟨_, _, _, e, _⟩
  ·injection e
  ·injection e
 obtain ⟨nx, rfl, _⟩ := ZBS o2 rfl i2 (hf 2 g2 rfl) rfl
 refine ⟨a1, a2, a6, k1, k2, k6, ss, fs, es, nx, ?_, p1, p2, hE, hF, hN⟩
 congr 1
 apply Array.toList_inj.1
 simp at e1 e2'
 rw [e1, e2'] at e
 simpa [Value.cells] using e
end
end Go.Proofs.YtookchpdbilbcaaGreatDoor
/-
 Events that came in as data, their runs in range. Of no function.
-/
namespace Go.Proofs.YtookchpdbilbcaaGreatDoor
open Go.ChangeShapes Go.WideShapes Go.RowKit Go.Deep Go.WideElems
section
variable {H : Type} {enc : TypeId × Value → H} {P : Program} {w : World}
end
end Go.Proofs.YtookchpdbilbcaaGreatDoor
/-
 A range over a function whose body never leaves it, at the wide fence: what an iterator owes (Sq), and the one law for its caller (ZD3). Of no function.
-/
namespace Go.Proofs.YtookchpdbilbcaaGreatDoor
open Go.RowKit
theorem ZIS {n m : Nat} {P : Program} {l : Nat} {f : FuncId} {tmps : Array Value} {assign body : Code} {w : World} {R : Ending → World → Prop} (h : RoundIn Fence.wide n P l f tmps assign body w R) : RoundIn Fence.wide m P l f tmps assign body w R :=
 ⟨trivial, fun c cs _ => h.2 c cs (by simp [Fence.room, Fence.wide])⟩
theorem ZJH {n m : Nat} (l0 : Nat) {P : Program} {l : Nat} {f : FuncId} {tmps : Array Value} {assign body : Code} {w : World} {R : Ending → World → Prop} (h : RoundIn Fence.wide n P l f tmps assign body w R) : RoundIn (Fence.wide.inRound l0) m P l f tmps assign body w R :=
 ⟨trivial, fun c cs _ => h.2 c cs (by simp [Fence.room, Fence.wide])⟩
/-- Blocks that hold no cells of these types. -/
def FreeT (T : List TypeId) : Obj → Prop
 | .cells _ t _ => t ∉ T
 | _ => True
/-- Whatever holds no cells of these types lies as it lay. -/
structure KeepsT (T : List TypeId) (W W' : World) : Prop where
 size : W.heap.size ≤ W'.heap.size
 same : ∀ (k : Nat) (o : Obj), W.heap[k]? = some o → FreeT T o → W'.heap[k]? = some o
theorem KeepsT.refl (T : List TypeId) (W : World) : KeepsT T W W := ⟨Nat.le_refl _, fun _ _ h _ => h⟩
theorem KeepsT.trans {T : List TypeId} {A B C : World} (h : KeepsT T A B) (k : KeepsT T B C) : KeepsT T A C := ⟨Nat.le_trans h.size k.size, fun i o hi ho => k.same i o (h.same i o hi ho) ho⟩
theorem KeepsT.below {T : List TypeId} {W W' : World} (h : Below W.heap.size W W') : KeepsT T W W' := ⟨h.size, fun k _ ho _ => (h.block k (Array.getElem?_eq_some_iff.1 ho).1).trans ho⟩
theorem KeepsT.alloc (T : List TypeId) (W : World) (o : Obj) : KeepsT T W (W.alloc o) := KeepsT.below ((Below.refl _ W).alloc nL o)
theorem KeepsT.grown {T : List TypeId} {W W' : World} {row : Option Nat} (h : W.grownBy W' row) (hr : ∀ k, row = some k → ∃ c t f, W.heap[k]? = some (.cells c t f) ∧ t ∈ T) : KeepsT T W W' :=
 ⟨h.size, fun k o ho hf => (h.block k (Array.getElem?_eq_some_iff.1 ho).1 (fun e => by
  obtain ⟨c, t, f, h1, h2⟩ := hr k e.symm
  rw [ho] at h1
  cases h1
  exact hf h2)).trans ho⟩
/-- An iterator that hands out xs, one by one, to a body that never leaves and keeps what lies below n₀. -/
def Sq {α : Type} (T : List TypeId) (P : Program) (g : Nat) (lb : Array Value) (enc : α → Array Value) (n₀ : Nat) (xs : List α) (w : World) : Prop :=
 ∀ (l : Nat) (J : Nat → World → Prop) (W : World), Below w.heap.size w W → OwnFrom W.heap.size J →
  (∀ k x W1, J k W1 → xs[k]? = some x → YieldAt Fence.wide 9 P l (enc x) W1 fun e W' => e = .returned (.bool true) ∧ J (k + 1) W' ∧ Below n₀ W1 W' ∧ KeepsT T W1 W') →
  J 0 W → Calls P g (#[.func (.yield l) #[] #[]] ++ lb) W fun e W' => (∃ v, e = .returned v) ∧ J xs.length W'
theorem Sq.later {α : Type} {T : List TypeId} {P : Program} {g : Nat} {lb : Array Value} {enc : α → Array Value} {n₀ : Nat} {xs : List α} {w w' : World} (h : Sq T P g lb enc n₀ xs w) (hb : Below w.heap.size w w') : Sq T P g lb enc n₀ xs w' :=
 fun l J W hW => h l J W (hb.trans (hW.mono hb.size))
/-- How a round's body is left: it goes on. -/
def GoesOn (T : List TypeId) (n₀ : Nat) (I : World → Prop) (W : World) : Exit → Act → World → Prop
 | .normal, _, W' => KeepsT T W W' ∧ Below n₀ W W' ∧ I W'
 | _, _, _ => False
theorem ZD3 {α : Type} {T : List TypeId} {P : Program} {g : Operand} {ps : Array Tmp} {assign body : Code} {Q : Exit → Act → World → Prop} {a : Act} {w : World} {gf : Nat} {lb : Array Value}
  (hg : a.eval g = .func (.func gf) #[] lb) (eg : ∀ args w, (callFunc gf args).run P w = .ok (.enter gf args) w)
  {enc : α → Array Value} {n₀ : Nat} {xs : List α} {w0 : World} (hseq : Sq T P gf lb enc n₀ xs w0) (hb0 : Below w0.heap.size w0 w) (hn : n₀ ≤ w.heap.size) (hps : ∀ x, (enc x).size = ps.size)
  (I : Nat → World → Prop) (hI : OwnFrom w.heap.size I) (h0 : I 0 w) (Ax : α → Act → World → Prop) (hAx : ∀ x a', OwnFrom w.heap.size (fun (_ : Unit) W => Ax x a' W))
  (hassign : ∀ (l k : Nat) (x : α) (W : World) (K : Act → World → Prop), I k W → xs[k]? = some x → (∀ a' W', KeepsT T W W' → Below n₀ W W' → I k W' → Ax x a' W' → K a' W') →
   assign.wpIn (Fence.wide.inRound l) 9 P (Exit.then K (fun _ _ _ => False)) { tmps := (ps.zip (enc x)).foldl (fun t (p, v) => t.setIfInBounds p v) a.tmps, defers := [] } W)
  (hbody : ∀ (l k : Nat) (x : α) (a' : Act) (W : World), w.heap.size ≤ l → I k W → Ax x a' W → xs[k]? = some x → body.wpIn (Fence.wide.inRound l) 9 P (GoesOn T n₀ (I (k + 1)) W) a' W)
  (hdone : ∀ (D : Nat) (W : World), w.heap.size ≤ D → I xs.length W → W.heap[D]? = some (.deferred (some [])) → Q .normal { a with defers := { target := .collected D, args := #[] } :: a.defers } W) :
  (Code.rangeFunc g ps assign body).wpIn Fence.wide 9 P Q a w := by
 refine wpIn_rangeFunc fun fn hfn => ?_
 obtain ⟨rec, hrec⟩ : ∃ rec : LoopState → Loop, rec = fun st => { state := st, pending := none, fn, tmps := a.tmps, params := ps, assign, body, defers := w.heap.size } := ⟨_, rfl⟩
 obtain ⟨W1, hW1⟩ : ∃ W1, (w.alloc (.deferred (some []))).alloc (.loop (rec .ready)) = W1 := ⟨_, rfl⟩
 have hs1 : W1.heap.size = w.heap.size + 2 := by rw [← hW1]; simp
 have hL1 : W1.heap[w.heap.size + 1]? = some (.loop (rec .ready)) := by
  have := World.alloc_heap_new (w.alloc (.deferred (some []))) (.loop (rec .ready)); rw [World.size_alloc] at this; rw [← hW1]; exact this
 have hD1 : W1.heap[w.heap.size]? = some (.deferred (some [])) := by
  rw [← hW1]; exact (Below.heap_alloc _ _ _ (by simp)).trans (World.alloc_heap_new w _)
 have hI1 : I 0 W1 := by rw [← hW1]; exact hI.alloc _ (hI.alloc _ h0)
 have hb1 : Below w0.heap.size w0 W1 := by
  rw [← hW1]; exact hb0.trans ((((Below.refl _ w).alloc nL _).alloc (by simp) _).mono hb0.size)
 refine ⟨w.heap.size + 1, [{ target := .collected w.heap.size, args := #[] }], W1, { target := .fn (.func gf) lb, args := #[.func (.yield (w.heap.size + 1)) #[] #[]] }, W1, gf,
  #[.func (.yield (w.heap.size + 1)) #[] #[]] ++ lb, W1, ?_, ?_, fun _ _ => trivial, ?_, fun _ => (by decide), ?_⟩
 ·rw [← hW1, hrec]; exact run_enterLoop_outer _ _ _ _ _
 ·simp only [resolve, hg]
  simp [go_sem]
 ·simp [invoke, go_sem, eg]
 ·refine callsIn_wide.2 ((hseq (w.heap.size + 1) (fun k W => I k W ∧ W.heap[w.heap.size + 1]? = some (.loop (rec .ready)) ∧ W.heap[w.heap.size]? = some (.deferred (some []))) W1 hb1 ?_ ?_ ⟨hI1, hL1, hD1⟩).mono ?_)
  ·rintro s A B row ⟨hs, hl, hd⟩ hgr hr
   refine ⟨hI s A B row hs hgr (fun r e => ⟨by have := (hr r e).1; omega, (hr r e).2⟩), ?_, ?_⟩
   ·exact (hgr.block _ (Array.getElem?_eq_some_iff.1 hl).1 (fun e => by have := (hr _ e.symm).1; omega)).trans hl
   ·exact (hgr.block _ (Array.getElem?_eq_some_iff.1 hd).1 (fun e => by have := (hr _ e.symm).1; omega)).trans hd
  ·rintro k x W ⟨hi, hl, hd⟩ hx
   have hy := run_yield (P := P) (args := enc x) hl (by rw [hrec]; exact hps x)
   rw [hrec] at hy
   refine ⟨fn, _, assign, body, hy, roundIn_of_wpIn hfn (hassign _ k x W _ hi hx ?_)⟩
   intro a' Wa hkf hba hia hax
   have hla := hkf.same _ _ hl trivial
   have hda := hkf.same _ _ hd trivial
   have hlt := (Array.getElem?_eq_some_iff.1 hla).1
   refine ⟨_, run_beginRound hla (by rw [hrec]), ?_⟩
   obtain ⟨Wb, hWb⟩ : ∃ Wb, Wa.putObj (w.heap.size + 1) (.loop { rec .ready with state := .busy }) = Wb := ⟨_, rfl⟩
   have hlb : Wb.heap[w.heap.size + 1]? = some (.loop { rec .ready with state := .busy }) := by rw [← hWb]; exact World.putObj_heap_same hlt
   have hdb : Wb.heap[w.heap.size]? = some (.deferred (some [])) := by rw [← hWb]; exact (World.putObj_heap_other (by omega)).trans hda
   have hbb : Below n₀ Wa Wb := by rw [← hWb]; exact belowK_b hn _ _ _ _ (by omega) hla rfl rfl
   have hib : I k Wb := by rw [← hWb]; exact hI.putObj _ hia (by omega) hla rfl
   have hab : Ax x a' Wb := by rw [← hWb]; exact (hAx x a').putObj (s := ()) _ hax (by omega) hla rfl
   rw [hWb]
   refine wpIn_mono (hbody _ k x a' Wb (by omega) hib hab hx) ?_
   intro e a3 W3 hp
   cases e with
   | normal =>
    obtain ⟨hk3, hb3, hi3⟩ := hp
    have hl3 := hk3.same _ _ hlb trivial
    have hr3 := run_endRound (P := P) none hl3
    refine ⟨_, _, hr3, rfl, ⟨hI.putObj _ hi3 (by omega) hl3 rfl, ?_, ?_⟩, ((hba.trans hbb).trans hb3).trans (belowK_b hn _ _ _ _ (by omega) hl3 rfl rfl), ?_⟩
    ·rw [World.putObj_heap_same (Array.getElem?_eq_some_iff.1 hl3).1, hrec]; rfl
    ·exact (World.putObj_heap_other (by omega)).trans (hk3.same _ _ hdb trivial)
    ·have hl4 : (W3.putObj (w.heap.size + 1) (.loop { { rec .ready with state := .busy } with state := if (none : Option Code).isNone then .ready else .done, pending := none })).heap[w.heap.size + 1]? = some (.loop (rec .ready)) := by
      rw [World.putObj_heap_same (Array.getElem?_eq_some_iff.1 hl3).1, hrec]; rfl
     refine ⟨?_, fun k o hk hf => ?_⟩
     ·have h1 := hkf.size
      have h2 := hbb.size
      have h3 := hk3.size
      simp
      omega
     ·by_cases e : k = w.heap.size + 1
      ·subst e
       rw [hl] at hk
       cases hk
       exact hl4
      ·refine (World.putObj_heap_other e).trans (hk3.same _ _ ?_ hf)
       rw [← hWb]
       exact (World.putObj_heap_other e).trans (hkf.same _ _ hk hf)
   | ret => exact hp.elim
   | exit _ => exact hp.elim
   | goto _ => exact hp.elim
   | panic _ => exact hp.elim
   | outgrown => exact hp.elim
  ·rintro e W2 ⟨⟨v, rfl⟩, hi, hl, hd⟩
   have hr := run_endLoop (P := P) hl (by rw [hrec]; simp)
   refine ⟨none, _, by rw [hr, hrec], hdone _ _ nL (hI.putObj _ hi (by omega) hl rfl) ((World.putObj_heap_other (by omega)).trans hd)⟩
end Go.Proofs.YtookchpdbilbcaaGreatDoor
/-
 slices.Values over events: the iterator hands out the events of the slice: a contract over the seat's program.
-/
namespace Go.Proofs.YtookchpdbilbcaaGreatDoor
open Go.RowKit Go.Shelf
attribute [local go_sem] Oper.semAt_some
abbrev evA (e : Ev) : Array Value := #[.agg #[.int .i64 e.seq, .int .i64 e.time, .int .i64 e.run, .int .i64 e.kind, .string e.step, .string e.val]]
theorem ZFJ (T : List TypeId) (Bs : Nat) (a : Option Addr) (c : Nat) (es : List Ev) (w0 w : World) (n₀ : Nat) (hn₀ : w0.heap.size ≤ n₀) (h0 : Below w0.heap.size w0 w) (hE : EvSl w0 (.slice a es.length c) es) (hBs : w.cell? ⟨Bs, 0, none⟩ = some (.slice a es.length c)) (hb : Bs < w.heap.size) (hn : es.length ≤ maxLen) :
  Sq T Tryz.prog 91 #[.pointer (some ⟨Bs, 0, none⟩)] evA n₀ es w := by
 intro l J W hW hJ hY hJ0
 have hBw := (hW.cell (p := ⟨Bs, 0, none⟩) hb).trans hBs
 have HB0 := hid (h0.trans (hW.mono h0.size))
 have HE := hid hE
 have HY := hid hY
 have HJ := hid hJ
 have hzW := hW.size
 unfold maxLen at hn
 clear hE hY h0 hW hBs hJ
 refine (callsIn_wide (n := 9)).1 ?_
 refine callsIn_of_wp Tryz.func91 rfl trivial ?_ rfl
 simp only [Tryz.ntmps91, List.size_toArray, List.length_cons, List.length_nil, Nat.reduceAdd, Nat.reduceSub, Array.replicate_succ, Array.replicate_zero, List.push_toArray, List.append_toArray, List.nil_append, List.cons_append]
 gi_wp2
 gi_loopw [7] (fun i wr => ∃ k : Nat, k ≤ es.length ∧ i = .int .i64 k ∧ J k wr ∧ Below w0.heap.size w0 wr ∧ W.heap.size ≤ wr.heap.size)
  (fun i _ => es.length - (intOf i).toNat)
 case atStart => exact ⟨0, Nat.zero_le _, rfl, hJ0, HB0.out, Nat.le_refl _⟩
 case round =>
  obtain ⟨k, hk, rfl, hJs, hbr, hzr⟩ := hrel
  have HBr := hid hbr
  have HJs := hid hJs
  clear hbr hJs hJ0 hBw
  by_cases hlt : k < es.length
  ·have hrow : ∃ g o, a = some ⟨g, o, none⟩ ∧ EvsAt w0 g o es := by
    rcases HE.out with ⟨_, _, _, he⟩ | ⟨g, o, c', hv, _, hQ⟩
    ·rw [he] at hlt; simp at hlt
    ·cases hv; exact ⟨g, o, rfl, hQ⟩
   obtain ⟨g, o, rfl, hQ⟩ := hrow
   obtain ⟨q0, q1, q2, q3, q4, q5⟩ := (hQ.stay HBr.out nL).2 k hlt
   have HYk := hid (fun X hX => HY.out k es[k] X hX (List.getElem?_eq_getElem hlt))
   have HL := hid hlt
   clear hQ HE
   generalize es[k] = e at *
   obtain ⟨eq, et, er, ek, es0, ev⟩ := e
   simp only at q0 q1 q2 q3 q4 q5
   gi_upto_region 3 with fail
   obtain ⟨fn, tmps, assign, body, hy, hR⟩ := HYk.out (wr.alloc (.cells #[.int .i64 eq, .int .i64 et, .int .i64 er, .int .i64 ek, .string es0, .string ev] 57)) (HJ.out.alloc _ HJs.out)
   dsimp only [evA] at hy
   gi_wp2
   refine (ZIS hR).mono ?_
   rintro e W3 ⟨rfl, hJ3, hk3, _⟩
   have HJ3 := hid hJ3
   have HB3 := hid ((HBr.out.trans ((Below.refl _ wr).alloc HBr.out.size _)).trans (hk3.mono hn₀))
   have hz3 : wr.heap.size + 1 ≤ W3.heap.size := by have := hk3.size; simpa using this
   clear hJ3 hk3 hy hR
   gi_wp2
   go_roundw
   case rel => exact ⟨k + 1, by omega, by simp, HJ3.out, HB3.out, by omega⟩
   case measure => simp [intOf]; omega
  ·obtain rfl : k = es.length := by omega
   gi_wp2
   go_end0
   exact ⟨⟨_, rfl⟩, HJs.out⟩
end Go.Proofs.YtookchpdbilbcaaGreatDoor
/-
 Small laws for ranges over events. Of no function. (Cut off ItrP.)
-/
namespace Go.Proofs.YtookchpdbilbcaaGreatDoor
open Go.RowKit Go.Shelf
abbrev evO (e : Ev) : Value := .agg #[.int .i64 e.seq, .int .i64 e.time, .int .i64 e.run, .int .i64 e.kind, .string e.step, .string e.val]
theorem filt_at (p : Ev → Bool) (es : List Ev) (k : Nat) (h : k < es.length) (hp : p es[k] = true) : (es.filter p)[((es.take k).filter p).length]? = some es[k] := by
 have he : es = es.take k ++ es[k] :: es.drop (k + 1) := by simp
 have : es.filter p = (es.take k).filter p ++ es[k] :: (es.drop (k + 1)).filter p := by
  conv => lhs; rw [he]
  rw [List.filter_append, List.filter_cons, if_pos hp]
 rw [this, List.getElem?_append_right nL]
 simp
theorem ZIm (p : Ev → Bool) (es : List Ev) (k : Nat) (h : k < es.length) (hp : p es[k] = true) : ((es.take (k + 1)).filter p).length = ((es.take k).filter p).length + 1 := by
 rw [List.take_succ_eq_append_getElem h, List.filter_append]; simp [hp]
theorem filt_no (p : Ev → Bool) (es : List Ev) (k : Nat) (h : k < es.length) (hp : p es[k] = false) : ((es.take (k + 1)).filter p).length = ((es.take k).filter p).length := by
 rw [List.take_succ_eq_append_getElem h, List.filter_append]; simp [hp]
theorem ZC7 {B n : Nat} {w : World} (hn : n ≤ w.heap.size) (h : n ≤ B) : OwnFrom B (fun (_ : Nat) W => Below n w W) :=
 fun _ _ _ _ hs hg hr => hs.grown hg (Nat.le_trans hn hs.size) (fun k e => by have := (hr k e).1; omega)
theorem ZBU (B b : Nat) (c : Array Value) (t : TypeId) (f : Nat × Nat) : OwnFrom B (fun (_ : Nat) W => W.heap[b]? = some (.cells c t f)) := fun _ A _ _ hs hg hr => by
 refine (hg.block b (ZAA hs) (fun e => ?_)).trans hs
 obtain ⟨o, ho, hc⟩ := (hr b e.symm).2
 rw [show A.heap[b]? = _ from hs] at ho
 cases ho
 cases hc
end Go.Proofs.YtookchpdbilbcaaGreatDoor
/-
 What impl.isTime, spec.l02Is and spec.l02Time answer: contracts over the seat's program.
-/
namespace Go.Proofs.YtookchpdbilbcaaGreatDoor
open Go.RowKit
theorem rng_yes {a b n : Int} (h1 : a ≤ n) (h2 : n ≤ b) : (decide (a ≤ n) && decide (n ≤ b)) = true := by simp [h1, h2]
theorem rng_no {a b n : Int} (h : ¬ (a ≤ n ∧ n ≤ b)) : (decide (a ≤ n) && decide (n ≤ b)) = false := by
 rw [Bool.and_eq_false_iff]; simp; omega
theorem ZD7 {P : Program} {f : FuncId} {args : Array Value} {a b n : Int}
  (c1 : a ≤ n → n ≤ b → ∀ w, Calls P f args w fun e w' => e = .returned (.bool true) ∧ w' = w) (c2 : a ≤ n → decide (n ≤ b) = false → ∀ w, Calls P f args w fun e w' => e = .returned (.bool false) ∧ w' = w)
  (c3 : n < a → ∀ w, Calls P f args w fun e w' => e = .returned (.bool false) ∧ w' = w) (w : World) : Calls P f args w fun e w' => e = .returned (.bool (decide (a ≤ n) && decide (n ≤ b))) ∧ w' = w := by
 by_cases h1 : a ≤ n
 ·by_cases h2 : n ≤ b
  ·rw [rng_yes h1 h2]; exact c1 h1 h2 w
  ·rw [rng_no (fun h => h2 h.2)]; exact c2 h1 (by simpa using h2) w
 ·rw [rng_no (fun h => h1 h.1)]; exact c3 (by omega) w
theorem ZDp (n : Int) (w : World) :
  Calls Tryz.prog 59 #[.int .i64 n] w fun e w' => e = .returned (.bool (timB n)) ∧ w' = w := by
 refine ZD7 (fun h1 h2 w => ?_) (fun h1 h2 w => ?_) (fun h1 w => ?_) w
 all_goals
  go_enter Tryz.func59, Tryz.ntmps59
  go_wp2
  go_ret
  exact ⟨rfl, rfl⟩
theorem ZBq (n a b : Int) (w : World) :
  Calls Tryz.prog 43 #[.int .i64 n, .int .i64 a, .int .i64 b] w fun e w' => e = .returned (.bool (decide (a ≤ n) && decide (n ≤ b))) ∧ w' = w := by
 refine ZD7 (fun h1 h2 w => ?_) (fun h1 h2 w => ?_) (fun h1 w => ?_) w
 all_goals
  go_enter Tryz.func43, Tryz.ntmps43
  go_wp2
  go_ret
  exact ⟨rfl, rfl⟩
theorem ZBg (n : Int) (w : World) :
  Calls Tryz.prog 34 #[.int .i64 n] w fun e w' => e = .returned (.bool (timB n)) ∧ w' = w := by
 have c1 := fun w => ZBq n 0 1000000 w
 change ∀ w, Calls Tryz.prog 43 _ w fun e w' => e = .returned (.bool (timB n)) ∧ w' = w at c1
 generalize timB n = B at *
 go_enter Tryz.func34, Tryz.ntmps34
 go_wp2_with (go_at_call 43; refine (c1 _).mono ?_; rintro e w1 ⟨rfl, rfl⟩)
 go_ret
 exact ⟨rfl, rfl⟩
end Go.Proofs.YtookchpdbilbcaaGreatDoor
/-
 Events: what it is for one to be right; what impl.isNumber answers: a contract over the seat's program.
-/
namespace Go.Proofs.YtookchpdbilbcaaGreatDoor
open Go.RowKit
theorem ZBN (n : Int) (w : World) :
  Calls Tryz.prog 67 #[.int .i64 n] w fun e w' => e = .returned (.bool (numB n)) ∧ w' = w := by
 refine ZD7 (fun h1 h2 w => ?_) (fun h1 h2 w => ?_) (fun h1 w => ?_) w
 all_goals
  go_enter Tryz.func67, Tryz.ntmps67
  go_wp2
  go_ret
  exact ⟨rfl, rfl⟩
end Go.Proofs.YtookchpdbilbcaaGreatDoor
/-
 Two blocks laid: nothing old has turned. Of no function.
-/
namespace Go.Proofs.YtookchpdbilbcaaGreatDoor
open Go.RowKit
theorem below2 (w : World) (o1 o2 : Obj) : Below w.heap.size w ((w.alloc o1).alloc o2) := ((bR _ _).alloc nL o1).alloc (by simp) o2
end Go.Proofs.YtookchpdbilbcaaGreatDoor
