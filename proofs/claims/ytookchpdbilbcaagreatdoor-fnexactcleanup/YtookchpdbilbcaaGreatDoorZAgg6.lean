/-
 Texts put together: Agg, Gen, Own, Strs, StSz, PrSum.
-/
import Derived.Test.YtookchpdbilbcaaGreatDoorRows
import Derived.WalkKit
import Derived.ProofKit
import Derived.OpenShut
import Derived.Deep.Fields
import Derived.Deep.Slices
import Derived.WalkLawsBesides
import Derived.WalkSpells
import Derived.Laws.BytesArg
import Derived.Laws.BitsAll
import Derived.Lib.BufferWrite
import Derived.Laws.CopyOwn
import Derived.Deep.Draws
import Derived.Lib.Builder
import Derived.OwnWalk
set_option maxRecDepth 100000
/-
 An event that came in as data: its six cells. Of no function: small laws of reading.
-/
namespace Go.Proofs.YtookchpdbilbcaaGreatDoor
open Go.ChangeShapes Go.WideShapes Go.RowKit Go.Deep Go.WideElems
theorem list6 {α : Type} {l : List α} (h : l.length = 6) : ∃ a b c d e f, l = [a, b, c, d, e, f] := by
 match l, h with
 | [a, b, c, d, e, f], _ => exact ⟨a, b, c, d, e, f, rfl⟩
section
variable {H : Type} {enc : TypeId × Value → H} {P : Program} {w : World} {base : Nat} {spare : Nat → Bool} {held : Bool}
theorem ZBS {f : Field} {n i : Nat} {k : IntKind} {cs : List Value} {c : Value} {y : Option (DataW H × List MemPlace)} {z : DataW H × List MemPlace} (ho : f.offset = i ∧ P.cellsOf f.type = 1) (hc : (cs.drop i).take 1 = [c]) (hu : P.underlying f.type = some (.int k))
  (h : DataW.trod enc P w base spare held n f.type ((cs.drop f.offset).take (P.cellsOf f.type)) = y) (hy : y = some z) : ∃ q, c = .int k q ∧ (Lit.int k q).wf = true := by
 rw [ho.1, ho.2, hc, hy] at h
 obtain ⟨q, e, _, hq⟩ := DataW.trod_int hu h
 exact ⟨q, by simpa using e, hq⟩
theorem ZBu {f : Field} {n i : Nat} {cs : List Value} {c : Value} {y : Option (DataW H × List MemPlace)} {z : DataW H × List MemPlace} (ho : f.offset = i ∧ P.cellsOf f.type = 1) (hc : (cs.drop i).take 1 = [c]) (hu : P.underlying f.type = some .string)
  (h : DataW.trod enc P w base spare held n f.type ((cs.drop f.offset).take (P.cellsOf f.type)) = y) (hy : y = some z) : ∃ s : ByteArray, c = .string s ∧ s.size ≤ maxLen := by
 rw [ho.1, ho.2, hc, hy] at h
 obtain ⟨q, e, _, hq⟩ := DataW.trod_string hu h
 exact ⟨q, by simpa using e, hq⟩
/-- A struct of four int64 and two strings, read: its six cells. -/
theorem ZIh {t : TypeId} {f0 f1 f2 f3 f4 f5 : Field} {fuel : Nat} {cs : List Value} {x : DataW H × List MemPlace} (ht : P.underlying t = some (.struct #[f0, f1, f2, f3, f4, f5])) (hone : oneCellFields P #[f0, f1, f2, f3, f4, f5] = true) (hC : P.cellsOf t = 6)
  (u0 : P.underlying f0.type = some (.int .i64)) (u1 : P.underlying f1.type = some (.int .i64)) (u2 : P.underlying f2.type = some (.int .i64)) (u3 : P.underlying f3.type = some (.int .i64)) (u4 : P.underlying f4.type = some .string) (u5 : P.underlying f5.type = some .string)
  (h : DataW.trod enc P w base spare held fuel t cs = some x) :
  ∃ (a b c d : Int) (s v : ByteArray), cs = [.int .i64 a, .int .i64 b, .int .i64 c, .int .i64 d, .string s, .string v] ∧ (Lit.int .i64 a).wf = true ∧ (Lit.int .i64 b).wf = true ∧ (Lit.int .i64 c).wf = true ∧ (Lit.int .i64 d).wf = true ∧ s.size ≤ maxLen ∧ v.size ≤ maxLen := by
 obtain ⟨xs, n, _, _, hl, hlen, hf⟩ := DataW.trod_struct ht h
 obtain ⟨c0, c1, c2, c3, c4, c5, rfl⟩ := list6 (hl.trans hC)
 obtain ⟨x0, x1, x2, x3, x4, x5, rfl⟩ := list6 (show xs.length = 6 from hlen)
 obtain ⟨a, rfl, ha⟩ := ZBS (hone_of hone 0 f0 rfl) rfl u0 (hf 0 f0 rfl) rfl
 obtain ⟨b, rfl, hb⟩ := ZBS (hone_of hone 1 f1 rfl) rfl u1 (hf 1 f1 rfl) rfl
 obtain ⟨c, rfl, hc⟩ := ZBS (hone_of hone 2 f2 rfl) rfl u2 (hf 2 f2 rfl) rfl
 obtain ⟨d, rfl, hd⟩ := ZBS (hone_of hone 3 f3 rfl) rfl u3 (hf 3 f3 rfl) rfl
 obtain ⟨s, rfl, hs⟩ := ZBu (hone_of hone 4 f4 rfl) rfl u4 (hf 4 f4 rfl) rfl
 obtain ⟨v, rfl, hv⟩ := ZBu (hone_of hone 5 f5 rfl) rfl u5 (hf 5 f5 rfl) rfl
 exact ⟨a, b, c, d, s, v, rfl, ha, hb, hc, hd, hs, hv⟩
end
end Go.Proofs.YtookchpdbilbcaaGreatDoor
/-
 Small laws of no function: hidden facts, endings, a row of bytes and the text that it makes, copy out of a text.
-/
namespace Go.Proofs.YtookchpdbilbcaaGreatDoor
open Go.RowKit
theorem hid {p : Prop} (h : p) : Hid p := h
theorem ce {w : World} {g j : Nat} {c : Array Value} {t : TypeId} {f : Nat × Nat} {v : Value} (h : w.heap[g]? = some (.cells c t f)) (hv : c[j]? = some v) : w.cell? ⟨g, j, none⟩ = some v := by rw [Lib.cell_of_heap h]; exact hv
theorem nL {n : Nat} : n ≤ n := Nat.le_refl n
theorem bR (B : Nat) (w : World) : Below B w w := Below.refl B w
theorem ZAd {a b : Bool} (h : a = b) : Ending.returned (.bool a) = .returned (.bool b) := by rw [h]
theorem ZBA {k : IntKind} {a b : Int} (h : a = b) : Ending.returned (.int k a) = .returned (.int k b) := by rw [h]
theorem bcell {W w1 : World} (hb : Below W.heap.size W w1) : (∀ b o, b < W.heap.size → w1.cell? ⟨b, o, none⟩ = W.cell? ⟨b, o, none⟩) ∧ (∀ b o, b < W.heap.size → w1.frozen? ⟨b, o, none⟩ = W.frozen? ⟨b, o, none⟩) :=
 ⟨fun b o h => hb.cell (p := ⟨b, o, none⟩) h, fun b o h => hb.frozen (p := ⟨b, o, none⟩) h⟩
theorem ZBV {S T : ByteArray} (h : ¬ S = T) : (S.toList == T.toList) = false := by
 rw [beq_eq_false_iff_ne]
 intro e
 rw [ByteArray.toList_eq, ByteArray.toList_eq] at e
 exact h (ByteArray.ext (Array.toList_inj.1 e))
theorem Tryz.info5 : (Tryz.prog.info? 5).map (fun i => (i.zero, i.size, i.bytes)) = some (some (.int .u8 0), 1, 1) := by kernel_rfl
theorem ZDE {P : Program} {w : World} {ops : Array Oper} {rest : List Oper} {o : Oper} {a : Act} {Q : Exit → Act → World → Prop} (hgd : o.guard = none) (d s : Operand) (dT sT : TypeId)
  (ho : o.op = .call { callee := .builtin .copy, args := #[d, s], argTypes := #[dT, sT] }) (elem : TypeId) (hu : P.underlying dT = some (.slice elem)) (hsz : (P.info? elem).map (·.size) = some 1)
  (dp : Option Addr) (dLen dCap : Nat) (hd : a.eval d = .slice dp dLen dCap) (x : ByteArray) (hs : a.eval s = .string x)
  (g off : Nat) (cur : List Value) (t : TypeId) (hg : w.heap[g]? = some (.cells cur.toArray t (0, 0))) (hle : x.size ≤ dLen) (hpos : 0 < x.size → dp = some ⟨g, off, none⟩) (hfit : off + x.size ≤ cur.length)
  (B : Nat) (w0 : World) (hb : Below B w0 w) (hBg : B ≤ g)
  (h : ∀ w', Hid (w'.heap[g]? = some (.cells (splice cur off (Lib.byteCells x.data.toList)).toArray t (0, 0))) → Below B w0 w' → wpList P ops Q rest (a.put o.dst (goInt x.size)) w') :
  wpList P ops Q (o :: rest) a w := by
 refine wpList_plain hgd fun K hK => ?_
 by_cases h0 : x.size = 0
 ·have hrun := Lib.run_copy_empty_string (P := P) w dT sT o.type elem dp dLen dCap x hu (by rw [hsz]; rfl) h0
  have hx : x.data.toList = [] := List.eq_nil_of_length_eq_zero (by rw [← Lib.size_eq]; exact h0)
  unfold Oper.wp
  simp [execOp, ho, resolve, invoke, builtin, hd, hs, hrun, Result.andThen]
  refine hK _ _ ?_
  have := h w (show _ = _ by rw [hx]; simpa [splice, Lib.byteCells] using hg) hb
  rwa [h0] at this
 ·obtain rfl := hpos (by omega)
  have hrun := Lib.run_copy_row_string (P := P) w dT sT o.type elem g off dLen dCap x cur.toArray t hu hsz hg hle (by simpa using hfit)
  unfold Oper.wp
  simp [execOp, ho, resolve, invoke, builtin, hd, hs, hrun, Result.andThen]
  refine hK _ _ (h _ (show _ = _ by
   have := setRow_heap w g _ (cur.toArray.toList.take off ++ Lib.byteCells x.data.toList ++ cur.toArray.toList.drop (off + x.size)).toArray t _ hg
   simpa [splice, Lib.byteCells_length, ← Lib.size_eq] using this) (below_setRow hb hBg _))
theorem ZCV (l : List UInt8) : strOfNums (l.map fun b => (b.toNat : Int)) = ⟨l.toArray⟩ := by
 unfold strOfNums
 congr 2
 rw [List.map_map]
 conv => rhs; rw [← List.map_id l]
 apply List.map_congr_left
 intro b _
 simp
theorem ZIw {P : Program} {w : World} {g n cap : Nat} {e : TypeId} {l : List UInt8} (src dst : TypeId) (hs : P.underlying src = some (.slice e)) (he : P.underlying e = some (.int .u8)) (hd : P.underlying dst = some .string)
  (hn : l.length = n) (h : w.heap[g]? = some (.cells (Lib.byteCells l).toArray e (0, 0))) : (convert src dst (.slice (some ⟨g, 0, none⟩) n cap)).run P w = .ok (.string ⟨l.toArray⟩) w := by
 rw [← ZCV]
 refine run_convert_bytes_arg w src e hs he g 0 n cap _ (by simpa using hn) ?_ dst hd
 intro i hi
 have hi' : i < l.length := by omega
 simp [World.cell?, h, Lib.byteCells, hi', List.getD]
theorem own_row {w : World} {base g n : Nat} {e : TypeId} {xs : List Value} (h : w.ownsRow base e 1 (.slice (some ⟨g, 0, none⟩) n n) n xs) : ∃ L : List Value, L.length = n ∧ w.heap[g]? = some (.cells L.toArray e (0, 0)) := by
 rcases h.2 with ⟨h1, _⟩ | ⟨g', cap, cur, h1, _, hh, _, _, hc, _⟩
 ·cases h1
 ·injection h1 with h1 _ h3
  injection h1 with h1
  injection h1 with h1 _ _
  subst h1; subst h3
  exact ⟨cur.toList, by simpa using hc, by simpa using hh⟩
theorem row_one {w : World} {g : Nat} {e : TypeId} {L : List Value} {x : ByteArray} (hL : L.length = x.size)
  (h : w.heap[g]? = some (.cells (splice L 0 (Lib.byteCells x.data.toList)).toArray e (0, 0))) :
  w.heap[g]? = some (.cells (Lib.byteCells x.data.toList).toArray e (0, 0)) := by
 have e : splice L 0 (Lib.byteCells x.data.toList) = Lib.byteCells x.data.toList := by
  unfold splice
  rw [List.drop_eq_nil_of_le (by rw [Lib.byteCells_length, ← Lib.size_eq]; omega)]; simp
 rw [e] at h; exact h
end Go.Proofs.YtookchpdbilbcaaGreatDoor
/-
 Blocks of a world: one cell set, what stays. Of no function.
-/
namespace Go.Proofs.YtookchpdbilbcaaGreatDoor
open Go.RowKit
theorem ZAA {w : World} {g : Nat} {o : Obj} (h : w.heap[g]? = some o) : g < w.heap.size := by
 rcases Nat.lt_or_ge g w.heap.size with h' | h'
 ·exact h'
 ·simp [Array.getElem?_eq_none h'] at h
/-- One cell of a block set. -/
theorem ZAG {w : World} {g i : Nat} {L : List Value} {t : TypeId} (h : w.heap[g]? = some (.cells L.toArray t (0, 0))) (v : Value) : (w.setCell ⟨g, i, none⟩ v).heap[g]? = some (.cells (L.set i v).toArray t (0, 0)) := by
 rw [setCell_eq_setRow w g i L.toArray t (0, 0) v h]
 have := setRow_heap w g L.toArray (L.toArray.setIfInBounds i v) t (0, 0) h
 simpa using this
theorem ZAF (w : World) (b i : Nat) (v : Value) : w.grownBy (w.setCell ⟨b, i, none⟩ v) (some b) :=
 ⟨rfl, rfl, rfl, by simp [World.setCell], fun k _ hk => Below.heap_setCell _ _ _ _ (fun e => hk (by simp [e]))⟩
theorem ZAN {w w1 w2 : World} {r : Option Nat} (h1 : w.grownBy w1 r) (h2 : w1.grownBy w2 r) : w.grownBy w2 r :=
 ⟨h2.os.trans h1.os, h2.tape.trans h1.tape, h2.output.trans h1.output, Nat.le_trans h1.size h2.size, fun k hk hr => (h2.block k (Nat.lt_of_lt_of_le hk h1.size) hr).trans (h1.block k hk hr)⟩
theorem ZAP {w w' : World} {r : Option Nat} (h : Below w.heap.size w w') : w.grownBy w' r :=
 ⟨h.os, h.tape, h.output, h.size, fun k hk _ => h.block k hk⟩
theorem ZFl (w : World) (n : Nat) (r : Option Nat) : w.grownBy (w.drewN n) r := ⟨rfl, rfl, rfl, Nat.le_refl _, fun _ _ _ => rfl⟩
end Go.Proofs.YtookchpdbilbcaaGreatDoor
/-
 Rows of texts, and of pairs of texts, in memory: what it is that a slice holds them, and that it stays so. Of no function.
-/
namespace Go.Proofs.YtookchpdbilbcaaGreatDoor
open Go.RowKit
/-- A row of texts, from a place on. -/
def StrsAt (w : World) (g o : Nat) (ss : List ByteArray) : Prop := g < w.heap.size ∧ ∀ i, (h : i < ss.length) → w.cell? ⟨g, o + i, none⟩ = some (.string ss[i])
/-- What a slice of texts is: empty, or a row somewhere. -/
def StrSl (w : World) (v : Value) (ss : List ByteArray) : Prop :=
 (∃ a c, v = .slice a 0 c ∧ ss = []) ∨ ∃ g o c, v = .slice (some ⟨g, o, none⟩) ss.length c ∧ (0 < ss.length ∧ ss.length ≤ c) ∧ StrsAt w g o ss
theorem StrsAt.below {w w' : World} {B g o : Nat} {ss : List ByteArray} (h : StrsAt w g o ss) (hb : Below B w w') (hg : g < B) : StrsAt w' g o ss :=
 ⟨Nat.lt_of_lt_of_le h.1 hb.size, fun i hi => by rw [hb.cell (p := ⟨g, o + i, none⟩) hg]; exact h.2 i hi⟩
theorem StrsAt.stay {w w' : World} {B g o : Nat} {ss : List ByteArray} (h : StrsAt w g o ss) (hb : Below B w w') (hB : w.heap.size ≤ B) : StrsAt w' g o ss := h.below hb (Nat.lt_of_lt_of_le h.1 hB)
theorem StrSl.stay {w w' : World} {B : Nat} {v : Value} {ss : List ByteArray} (h : StrSl w v ss) (hb : Below B w w') (hB : w.heap.size ≤ B) : StrSl w' v ss := by
 rcases h with h | ⟨g, o, c, hv, hn, h⟩
 ·exact .inl h
 ·exact .inr ⟨g, o, c, hv, hn, h.stay hb hB⟩
theorem StrSl.form {w : World} {v : Value} {ss : List ByteArray} (h : StrSl w v ss) : ∃ a c, v = .slice a ss.length c := by
 rcases h with ⟨a, c, rfl, rfl⟩ | ⟨g, o, c, rfl, _, _⟩
 ·exact ⟨a, c, rfl⟩
 ·exact ⟨_, c, rfl⟩
/-- Its first k. -/
theorem StrSl.part {w : World} {a : Option Addr} {n c k : Nat} {ss : List ByteArray} (h : StrSl w (.slice a n c) ss) (hk : k ≤ ss.length) : StrSl w (.slice a k c) (ss.take k) := by
 by_cases h0 : k = 0
 ·subst h0; exact .inl ⟨a, c, rfl, by simp⟩
 ·rcases h with ⟨a', c', hv, rfl⟩ | ⟨g, o, c', hv, hn, hlt, h⟩
  ·simp at hk; exact absurd hk h0
  ·injection hv with h1 h2 h3
   subst h1; subst h3
   refine .inr ⟨g, o, c, by rw [List.length_take, Nat.min_eq_left hk], by rw [List.length_take]; omega, hlt, fun i hi => ?_⟩
   rw [List.getElem_take]
   exact h i (by rw [List.length_take] at hi; omega)
theorem ZAz {w : World} {base n : Nat} {e : TypeId} {v : Value} {ss : List ByteArray} (h : w.ownsRow base e 1 v n (ss.map Value.string)) : StrSl w v ss := by
 have hn : n = ss.length := by have := h.1; rw [List.length_map] at this; omega
 subst hn
 rcases h.2 with ⟨hv, h0⟩ | ⟨g, cap, cur, hv, _, _, hle, _⟩
 ·exact .inl ⟨none, 0, hv, List.eq_nil_of_length_eq_zero h0⟩
 ·by_cases h0 : ss.length = 0
  ·exact .inl ⟨some ⟨g, 0, none⟩, cap, by rw [hv, h0], List.eq_nil_of_length_eq_zero h0⟩
  ·have hlt := (h.lt g (by rw [hv]; rfl)).2
   refine .inr ⟨g, 0, cap, hv, ⟨by omega, hle⟩, hlt, fun i hi => ?_⟩
   have := h.cells (g := g) (by rw [hv]; rfl) i (.string ss[i]) (by simp [hi])
   rw [Addr.add_lit] at this
   exact this
/-- A pair of texts: a flow, a var. -/
structure Pr where
 fst : ByteArray
 snd : ByteArray
def Pr.cells (p : Pr) : List Value := [.string p.fst, .string p.snd]
structure PrAt (w : World) (g o : Nat) (p : Pr) : Prop where
 c0 : w.cell? ⟨g, o, none⟩ = some (.string p.fst)
 c1 : w.cell? ⟨g, o + 1, none⟩ = some (.string p.snd)
def PrsAt (w : World) (g o : Nat) (ps : List Pr) : Prop := g < w.heap.size ∧ ∀ i, (h : i < ps.length) → PrAt w g (o + i * 2) ps[i]
def PrSl (w : World) (v : Value) (ps : List Pr) : Prop :=
 (∃ a c, v = .slice a 0 c ∧ ps = []) ∨ ∃ g o c, v = .slice (some ⟨g, o, none⟩) ps.length c ∧ (0 < ps.length ∧ ps.length ≤ c) ∧ PrsAt w g o ps
theorem PrAt.below {w w' : World} {B g o : Nat} {p : Pr} (h : PrAt w g o p) (hb : Below B w w') (hg : g < B) : PrAt w' g o p :=
 ⟨by rw [hb.cell (p := ⟨g, o, none⟩) hg]; exact h.c0, by rw [hb.cell (p := ⟨g, o + 1, none⟩) hg]; exact h.c1⟩
theorem PrsAt.stay {w w' : World} {B g o : Nat} {ps : List Pr} (h : PrsAt w g o ps) (hb : Below B w w') (hB : w.heap.size ≤ B) : PrsAt w' g o ps :=
 ⟨Nat.lt_of_lt_of_le h.1 hb.size, fun i hi => (h.2 i hi).below hb (Nat.lt_of_lt_of_le h.1 hB)⟩
theorem PrSl.stay {w w' : World} {B : Nat} {v : Value} {ps : List Pr} (h : PrSl w v ps) (hb : Below B w w') (hB : w.heap.size ≤ B) : PrSl w' v ps := by
 rcases h with h | ⟨g, o, c, hv, hn, h⟩
 ·exact .inl h
 ·exact .inr ⟨g, o, c, hv, hn, h.stay hb hB⟩
theorem PrSl.form {w : World} {v : Value} {ps : List Pr} (h : PrSl w v ps) : ∃ a c, v = .slice a ps.length c := by
 rcases h with ⟨a, c, rfl, rfl⟩ | ⟨g, o, c, rfl, _, _⟩
 ·exact ⟨a, c, rfl⟩
 ·exact ⟨_, c, rfl⟩
theorem PrSl.part {w : World} {a : Option Addr} {n c k : Nat} {ps : List Pr} (h : PrSl w (.slice a n c) ps) (hk : k ≤ ps.length) : PrSl w (.slice a k c) (ps.take k) := by
 by_cases h0 : k = 0
 ·subst h0; exact .inl ⟨a, c, rfl, by simp⟩
 ·rcases h with ⟨a', c', hv, rfl⟩ | ⟨g, o, c', hv, hn, hlt, h⟩
  ·simp at hk; exact absurd hk h0
  ·injection hv with h1 h2 h3
   subst h1; subst h3
   refine .inr ⟨g, o, c, by rw [List.length_take, Nat.min_eq_left hk], by rw [List.length_take]; omega, hlt, fun i hi => ?_⟩
   rw [List.getElem_take]
   exact h i (by rw [List.length_take] at hi; omega)
theorem StrSl.cap {w : World} {a : Option Addr} {n c : Nat} {ss : List ByteArray} (h : StrSl w (.slice a n c) ss) : ss.length ≤ c := by
 rcases h with ⟨_, _, _, rfl⟩ | ⟨_, _, _, hv, hn, _⟩
 ·exact Nat.zero_le _
 ·injection hv with _ _ h3; rw [h3]; exact hn.2
theorem PrSl.cap {w : World} {a : Option Addr} {n c : Nat} {ps : List Pr} (h : PrSl w (.slice a n c) ps) : ps.length ≤ c := by
 rcases h with ⟨_, _, _, rfl⟩ | ⟨_, _, _, hv, hn, _⟩
 ·exact Nat.zero_le _
 ·injection hv with _ _ h3; rw [h3]; exact hn.2
theorem StrSl.row {w : World} {a : Option Addr} {n c : Nat} {ss : List ByteArray} (h : StrSl w (.slice a n c) ss) (h0 : 0 < ss.length) : ∃ g o, a = some ⟨g, o, none⟩ ∧ StrsAt w g o ss := by
 rcases h with ⟨_, _, _, rfl⟩ | ⟨g, o, _, hv, _, h⟩
 ·simp at h0
 ·injection hv with h1 _ _; exact ⟨g, o, h1, h⟩
theorem PrSl.row {w : World} {a : Option Addr} {n c : Nat} {ps : List Pr} (h : PrSl w (.slice a n c) ps) (h0 : 0 < ps.length) : ∃ g o, a = some ⟨g, o, none⟩ ∧ PrsAt w g o ps := by
 rcases h with ⟨_, _, _, rfl⟩ | ⟨g, o, _, hv, _, h⟩
 ·simp at h0
 ·injection hv with h1 _ _; exact ⟨g, o, h1, h⟩
theorem ZBr : ∀ (ps : List Pr) (i j : Nat), (h : i < ps.length) → j < 2 → (ps.flatMap Pr.cells)[i * 2 + j]? = ps[i].cells[j]?
 | [], i, _, h, _ => absurd h (by simp)
 | p :: r, 0, j, _, hj => by
  rw [List.flatMap_cons, List.getElem?_append_left (by simp [Pr.cells]; omega)]; simp
 | p :: r, i + 1, j, h, hj => by
  rw [List.flatMap_cons, List.getElem?_append_right (by simp [Pr.cells]; omega), show (i + 1) * 2 + j - p.cells.length = i * 2 + j by simp [Pr.cells]; omega]
  rw [ZBr r i j (by simpa using h) hj]; simp
theorem ZAQ (ps : List Pr) : (ps.flatMap Pr.cells).length = ps.length * 2 := by
 induction ps with
 | nil => rfl
 | cons p r ih => rw [List.flatMap_cons, List.length_append, ih]; simp [Pr.cells]; omega
theorem ZAh {w : World} {base n : Nat} {e : TypeId} {v : Value} {ps : List Pr} (h : w.ownsRow base e 2 v n (ps.flatMap Pr.cells)) : PrSl w v ps := by
 have hn : n = ps.length := by have := h.1; rw [ZAQ] at this; omega
 subst hn
 rcases h.2 with ⟨hv, h0⟩ | ⟨g, cap, cur, hv, _, _, hle, _⟩
 ·exact .inl ⟨none, 0, hv, List.eq_nil_of_length_eq_zero h0⟩
 ·by_cases h0 : ps.length = 0
  ·exact .inl ⟨some ⟨g, 0, none⟩, cap, by rw [hv, h0], List.eq_nil_of_length_eq_zero h0⟩
  ·have hlt := (h.lt g (by rw [hv]; rfl)).2
   refine .inr ⟨g, 0, cap, hv, ⟨by omega, hle⟩, hlt, fun i hi => ?_⟩
   have key : ∀ j, j < 2 → ∀ u, ps[i].cells[j]? = some u → w.cell? ⟨g, 0 + i * 2 + j, none⟩ = some u := fun j hj u hu => by
    have := h.cells (g := g) (by rw [hv]; rfl) (i * 2 + j) u (by rw [ZBr ps i j hi hj]; exact hu)
    rw [Addr.add_lit] at this
    simpa [Nat.add_assoc] using this
   exact ⟨key 0 (by decide) _ rfl, key 1 (by decide) _ rfl⟩
end Go.Proofs.YtookchpdbilbcaaGreatDoor
/-
 What laws.szStringS answers: how much is left behind so many texts: a contract over the seat's program.
-/
namespace Go.Proofs.YtookchpdbilbcaaGreatDoor
open Go.RowKit
def sumS : List ByteArray → Nat
 | [] => 0
 | s :: r => s.size + sumS r
theorem ZCo (a b : List ByteArray) : sumS (a ++ b) = sumS a + sumS b := by
 induction a with
 | nil => simp [sumS]
 | cons e r ih => simp [sumS, ih]; omega
theorem ZIK {ss : List ByteArray} {k : Nat} (h : k < ss.length) : sumS (ss.take (k + 1)) = sumS (ss.take k) + ss[k].size := by
 rw [List.take_succ_eq_append_getElem h, ZCo]; simp [sumS]
theorem sumS_le (ss : List ByteArray) (k : Nat) : sumS (ss.take k) ≤ sumS ss := by
 have := ZCo (ss.take k) (ss.drop k)
 rw [List.take_append_drop] at this; omega
def FitS (ss : List ByteArray) : Prop := ∀ i, (h : i < ss.length) → ss[i].size ≤ maxLen
/-- What is left. -/
def szL (left : Int) (ss : List ByteArray) : Int := if (ss.length : Int) + (sumS ss : Int) ≤ left then left - (ss.length : Int) - (sumS ss : Int) else -1
theorem ZFv {left : Int} {ss : List ByteArray} (h : (ss.length : Int) + (sumS ss : Int) ≤ left) : szL left ss = left - (ss.length : Int) - (sumS ss : Int) := if_pos h
theorem ZIE {left : Int} {ss : List ByteArray} (h : left < (ss.length : Int) + (sumS ss : Int)) : szL left ss = -1 := if_neg (by omega)
theorem ZEQ (g o c : Nat) (ss : List ByteArray) (left : Int) (w : World) (hE : StrsAt w g o ss) (hF : FitS ss) (h0 : 0 ≤ left) (h1 : left ≤ 1048576) (hn : ss.length ≤ maxLen) :
  Calls Tryz.prog 40 #[.slice (some ⟨g, o, none⟩) ss.length c, .int .i64 left] w fun e w' =>
   e = .returned (.int .i64 (szL left ss)) ∧ Below w.heap.size w w' := by
 unfold maxLen at hn
 by_cases hz : (ss.length : Int) ≤ left
 ·have HE := hid hE
  clear hE
  go_enter Tryz.func40, Tryz.ntmps40
  go_wp2
  go_loopw [1, 5] (fun l i wr => ∃ k : Nat, k ≤ ss.length ∧ i = .int .i64 k ∧ l = .int .i64 (left - (ss.length : Int) - (sumS (ss.take k) : Int)) ∧ 0 ≤ left - (ss.length : Int) - (sumS (ss.take k) : Int) ∧ Below w.heap.size w wr) (fun _ i _ => ss.length - (intOf i).toNat)
  case atStart => exact ⟨0, Nat.zero_le _, rfl, by simp [sumS], by simp [sumS]; omega, Below.refl _ _⟩
  case round =>
   obtain ⟨k, hk, rfl, rfl, hl, hbel⟩ := hrel
   by_cases hlt : k < ss.length
   ·have c0 := (HE.out.stay hbel (Nat.le_refl _)).2 k hlt
    have hst := hid (ZIK hlt)
    have hf := hF k hlt
    unfold maxLen at hf
    generalize ss[k] = q0 at *
    generalize hL : left - (ss.length : Int) - (sumS (ss.take k) : Int) = L at *
    have HL := hid hL
    have hL9 : L ≤ 1048576 := by omega
    clear hL
    by_cases hzz : (q0.size : Int) ≤ L
    ·have hL1 : left - (ss.length : Int) - (sumS (ss.take (k + 1)) : Int) = L - (q0.size : Int) := by have := hst.out; have := HL.out; omega
     have HL1 := hid hL1
     clear hL1
     go_wp2
     go_roundw
     case rel => exact ⟨k + 1, by omega, by go_num, by rw [HL1.out], by rw [HL1.out]; omega, hbel⟩
     case measure => simp [intOf]; omega
    ·have hfin : szL left ss = -1 := ZIE (by have := hst.out; have := HL.out; have := sumS_le ss (k + 1); omega)
     have HF := hid hfin
     clear hfin
     go_wp2
     go_ret
     exact ⟨by rw [HF.out]; rfl, hbel⟩
   ·have hk' : k = ss.length := by omega
    have hT : ss.take k = ss := List.take_of_length_le (by omega)
    rw [hT] at hl
    have HT := hid hT
    have hfin := ZFv (left := left) (ss := ss) (by omega)
    have HF := hid hfin
    clear hk' hT hfin
    go_wp2
    go_ret
    exact ⟨ZBA (by rw [HF.out, HT.out]), hbel⟩
 ·have hfin := ZIE (left := left) (ss := ss) (by omega)
  have HF := hid hfin
  clear hfin hE
  go_enter Tryz.func40, Tryz.ntmps40
  go_wp2
  go_ret
  exact ⟨by rw [HF.out]; rfl, Below.refl _ _⟩
theorem ZDc (a : Option Addr) (c : Nat) (left : Int) (w : World) (h0 : 0 ≤ left) (h1 : left ≤ 1048576) :
  Calls Tryz.prog 40 #[.slice a 0 c, .int .i64 left] w fun e w' => e = .returned (.int .i64 left) ∧ w' = w := by
 go_enter Tryz.func40, Tryz.ntmps40
 go_wp2
 go_loop [1, 5] (fun l i => l = .int .i64 left ∧ i = .int .i64 0) (fun _ _ => 0)
 case atStart => exact ⟨rfl, rfl⟩
 case round =>
  obtain ⟨rfl, rfl⟩ := hrel
  go_wp2
  go_ret
  exact ⟨rfl, rfl⟩
theorem ZEW (v : Value) (ss : List ByteArray) (left : Int) (w : World) (h : StrSl w v ss) (hF : FitS ss) (h0 : 0 ≤ left) (h1 : left ≤ 1048576) (hn : ss.length ≤ maxLen) :
  Calls Tryz.prog 40 #[v, .int .i64 left] w fun e w' => e = .returned (.int .i64 (szL left ss)) ∧ Below w.heap.size w w' := by
 rcases h with ⟨a, c, rfl, rfl⟩ | ⟨g, o, c, rfl, _, h⟩
 ·refine (ZDc a c left w h0 h1).mono ?_
  rintro e w' ⟨rfl, rfl⟩
  exact ⟨ZBA (by rw [ZFv (by simp [sumS]; omega)]; simp [sumS]), Below.refl _ _⟩
 ·exact ZEQ g o c ss left w h hF h0 h1 hn
end Go.Proofs.YtookchpdbilbcaaGreatDoor
/-
 How much pairs of texts take. Of no function.
-/
namespace Go.Proofs.YtookchpdbilbcaaGreatDoor
open Go.RowKit
def sumP : List Pr → Nat
 | [] => 0
 | e :: r => e.fst.size + e.snd.size + sumP r
theorem ZDF (a b : List Pr) : sumP (a ++ b) = sumP a + sumP b := by
 induction a with
 | nil => simp [sumP]
 | cons e r ih => simp [sumP, ih]; omega
theorem ZIV {es : List Pr} {k : Nat} (h : k < es.length) : sumP (es.take (k + 1)) = sumP (es.take k) + (es[k].fst.size + es[k].snd.size) := by
 rw [List.take_succ_eq_append_getElem h, ZDF]; simp [sumP]
theorem sumP_le (es : List Pr) (k : Nat) : sumP (es.take k) ≤ sumP es := by
 have := ZDF (es.take k) (es.drop k)
 rw [List.take_append_drop] at this; omega
def FitP (es : List Pr) : Prop := ∀ i, (h : i < es.length) → es[i].fst.size ≤ maxLen ∧ es[i].snd.size ≤ maxLen
def szP (left : Int) (es : List Pr) : Int := if (es.length : Int) + (sumP es : Int) ≤ left then left - (es.length : Int) - (sumP es : Int) else -1
theorem ZFi {left : Int} {es : List Pr} (h : (es.length : Int) + (sumP es : Int) ≤ left) : szP left es = left - (es.length : Int) - (sumP es : Int) := if_pos h
theorem ZHO {left : Int} {es : List Pr} (h : left < (es.length : Int) + (sumP es : Int)) : szP left es = -1 := if_neg (by omega)
theorem ZHM {es : List Pr} {k : Nat} (h : k < es.length) : (es.take (k + 1)).flatMap Pr.cells = (es.take k).flatMap Pr.cells ++ es[k].cells := by
 rw [List.take_succ_eq_append_getElem h, List.flatMap_append]; simp
theorem ZI6 {w : World} {base g n : Nat} {e : TypeId} {xs : List Value} (h : w.ownsRow base e 2 (.slice (some ⟨g, 0, none⟩) n n) n xs) : ∃ L : List Value, L.length = n * 2 ∧ w.heap[g]? = some (.cells L.toArray e (0, 0)) := by
 rcases h.2 with ⟨h1, _⟩ | ⟨g', cap, cur, h1, _, hh, _, _, hc, _⟩
 ·cases h1
 ·injection h1 with h1 _ h3
  injection h1 with h1
  injection h1 with h1 _ _
  subst h1; subst h3
  exact ⟨cur.toList, by simpa using hc, by simpa using hh⟩
theorem ZIt {w : World} {base g n : Nat} {e : TypeId} {xs : List Value} (h : w.ownsRow base e 1 (.slice (some ⟨g, 0, none⟩) n n) n xs) : ∃ L : List Value, L.length = n ∧ w.heap[g]? = some (.cells L.toArray e (0, 0)) := by
 rcases h.2 with ⟨h1, _⟩ | ⟨g', cap, cur, h1, _, hh, _, _, hc, _⟩
 ·cases h1
 ·injection h1 with h1 _ h3
  injection h1 with h1
  injection h1 with h1 _ _
  subst h1; subst h3
  exact ⟨cur.toList, by simpa using hc, by simpa using hh⟩
theorem ZHW {w : World} {g j : Nat} {L : List Value} {t : TypeId} (h : w.heap[g]? = some (.cells L.toArray t (0, 0))) (hj : j < L.length) : ∃ u, w.cell? ⟨g, j, none⟩ = some u := by
 refine ⟨L[j], ?_⟩
 rw [Lib.cell_of_heap h]
 simp [hj]
theorem ZIa {L : List Value} {i : Nat} {a b : Value} (h : i + 2 ≤ L.length) : ((L.set i a).set (i + 1) b).take (i + 2) = L.take i ++ [a, b] := by
 apply List.ext_getElem?
 intro j
 by_cases h0 : j < i
 ·rw [List.getElem?_append_left (by simp; omega)]
  simp [show ¬ i = j by omega, show ¬ i + 1 = j by omega, h0, show j < i + 2 by omega]
 ·obtain ⟨m, rfl⟩ : ∃ m, j = i + m := ⟨j - i, by omega⟩
  rw [List.getElem?_append_right (by simp; omega), show i + m - (L.take i).length = m by simp; omega]
  match m with
  | 0 => simp [List.getElem?_set]; omega
  | 1 => simp [List.getElem?_set]; omega
  | n + 2 => simp [List.getElem?_take]; omega
theorem ZHb {L : List Value} {i : Nat} {a : Value} (h : i + 1 ≤ L.length) : (L.set i a).take (i + 1) = L.take i ++ [a] := by
 apply List.ext_getElem?
 intro j
 by_cases h0 : j < i
 ·rw [List.getElem?_append_left (by simp; omega)]
  simp [show ¬ i = j by omega, h0, show j < i + 1 by omega]
 ·obtain ⟨m, rfl⟩ : ∃ m, j = i + m := ⟨j - i, by omega⟩
  rw [List.getElem?_append_right (by simp; omega), show i + m - (L.take i).length = m by simp; omega]
  match m with
  | 0 => simp [List.getElem?_set]; omega
  | n + 1 => simp [List.getElem?_take]
end Go.Proofs.YtookchpdbilbcaaGreatDoor
