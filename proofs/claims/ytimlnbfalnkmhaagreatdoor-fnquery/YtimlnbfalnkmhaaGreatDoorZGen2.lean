/-
  Texts put together: Gen, Own.
-/
import Derived.Test.YtimlnbfalnkmhaaGreatDoorRows
import Derived.WalkKit
import Derived.WalkLawsBesides
import Derived.WalkSpells
import Derived.Laws.BytesArg
import Derived.Laws.BitsAll
import Derived.OpenShut
import Derived.Lib.BufferWrite
import Derived.Laws.CopyOwn
import Derived.Deep.Draws
import Derived.Lib.Builder
/-
  Small laws of no function: hidden facts, endings, a row of bytes and the text that it makes, copy out of a text.
-/
namespace Go.Proofs.YtimlnbfalnkmhaaGreatDoor
open Go.RowKit

theorem hid {p : Prop} (h : p) : Hid p := h
theorem ret_bool {a b : Bool} (h : a = b) : Ending.returned (.bool a) = .returned (.bool b) := by rw [h]
theorem ret_int {k : IntKind} {a b : Int} (h : a = b) : Ending.returned (.int k a) = .returned (.int k b) := by rw [h]
theorem bcell {W w1 : World} (hb : Below W.heap.size W w1) : (∀ b o, b < W.heap.size → w1.cell? ⟨b, o, none⟩ = W.cell? ⟨b, o, none⟩) ∧ (∀ b o, b < W.heap.size → w1.frozen? ⟨b, o, none⟩ = W.frozen? ⟨b, o, none⟩) :=
  ⟨fun b o h => hb.cell (p := ⟨b, o, none⟩) h, fun b o h => hb.frozen (p := ⟨b, o, none⟩) h⟩
theorem str_ne {S T : ByteArray} (h : ¬ S = T) : (S.toList == T.toList) = false := by
  rw [beq_eq_false_iff_ne]
  intro e
  rw [ByteArray.toList_eq, ByteArray.toList_eq] at e
  exact h (ByteArray.ext (Array.toList_inj.1 e))
theorem ret_str {a b : ByteArray} (h : a = b) : Ending.returned (.string a) = .returned (.string b) := by rw [h]
theorem Tryz.info5 : (Tryz.prog.info? 5).map (fun i => (i.zero, i.size, i.bytes)) = some (some (.int .u8 0), 1, 1) := by kernel_rfl

theorem conv_own {P : Program} {w : World} {base : Nat} {e : TypeId} {v : Value} {n : Nat} {xs : List Int} (src dst : TypeId) (hs : P.underlying src = some (.slice e)) (he : P.underlying e = some (.int .u8)) (hd : P.underlying dst = some .string)
    (h : w.ownsRow base e 1 v n (xs.map (Value.int .u8))) : (convert src dst v).run P w = .ok (.string (strOfNums xs)) w := by
  have hl : xs.length = n := by simpa using h.1
  rcases h.2 with ⟨rfl, rfl⟩ | ⟨g, cap, cur, rfl, hb, hh, r⟩
  · obtain rfl : xs = [] := List.eq_nil_of_length_eq_zero hl
    exact run_convert_bytes_nil w src e hs he 0 0 dst hd
  · refine run_convert_bytes_arg w src e hs he g 0 n cap xs hl ?_ dst hd
    intro i hi
    have := h.cellAt i (by omega)
    rw [Nat.zero_add, this]
    simp [List.getD, show i < xs.length by omega]

theorem app_below {B : Nat} {w wr w2 : World} {e : TypeId} {v : Value} {n : Nat} {xs : List Value} {o : Obj} (hb : Below B w wr) (hs : B ≤ wr.heap.size) (hown : wr.ownsRow B e 1 v n xs) (hg : (wr.alloc o).grownBy w2 v.ownBlock) : Below B w w2 :=
  (hb.alloc hs o).grown hg (by simp; omega) (fun k hk => (hown.lt k hk).1)
theorem wpList_copy_str {P : Program} {w : World} {ops : Array Oper} {rest : List Oper} {o : Oper} {a : Act} {Q : Exit → Act → World → Prop} (hgd : o.guard = none) (d s : Operand) (dT sT : TypeId)
    (ho : o.op = .call { callee := .builtin .copy, args := #[d, s], argTypes := #[dT, sT] }) (elem : TypeId) (hu : P.underlying dT = some (.slice elem)) (hsz : (P.info? elem).map (·.size) = some 1)
    (dp : Option Addr) (dLen dCap : Nat) (hd : a.eval d = .slice dp dLen dCap) (x : ByteArray) (hs : a.eval s = .string x)
    (g off : Nat) (cur : List Value) (t : TypeId) (hg : w.heap[g]? = some (.cells cur.toArray t (0, 0))) (hle : x.size ≤ dLen) (hpos : 0 < x.size → dp = some ⟨g, off, none⟩) (hfit : off + x.size ≤ cur.length)
    (B : Nat) (w0 : World) (hb : Below B w0 w) (hBg : B ≤ g)
    (h : ∀ w', Hid (w'.heap[g]? = some (.cells (splice cur off (Lib.byteCells x.data.toList)).toArray t (0, 0))) → Below B w0 w' → wpList P ops Q rest (a.put o.dst (goInt x.size)) w') :
    wpList P ops Q (o :: rest) a w := by
  refine wpList_plain hgd fun K hK => ?_
  by_cases h0 : x.size = 0
  · have hrun := Lib.run_copy_empty_string (P := P) w dT sT o.type elem dp dLen dCap x hu (by rw [hsz]; rfl) h0
    have hx : x.data.toList = [] := List.eq_nil_of_length_eq_zero (by rw [← Lib.size_eq]; exact h0)
    unfold Oper.wp
    simp [execOp, ho, resolve, invoke, builtin, hd, hs, hrun, Result.andThen]
    refine hK _ _ ?_
    have := h w (show _ = _ by rw [hx]; simpa [splice, Lib.byteCells] using hg) hb
    rwa [h0] at this
  · obtain rfl := hpos (by omega)
    have hrun := Lib.run_copy_row_string (P := P) w dT sT o.type elem g off dLen dCap x cur.toArray t hu hsz hg hle (by simpa using hfit)
    unfold Oper.wp
    simp [execOp, ho, resolve, invoke, builtin, hd, hs, hrun, Result.andThen]
    refine hK _ _ (h _ (show _ = _ by
      have := setRow_heap w g _ (cur.toArray.toList.take off ++ Lib.byteCells x.data.toList ++ cur.toArray.toList.drop (off + x.size)).toArray t _ hg
      simpa [splice, Lib.byteCells_length, ← Lib.size_eq] using this) (below_setRow hb hBg _))

theorem strOfNums_bytes (l : List UInt8) : strOfNums (l.map fun b => (b.toNat : Int)) = ⟨l.toArray⟩ := by
  unfold strOfNums
  congr 2
  rw [List.map_map]
  conv => rhs; rw [← List.map_id l]
  apply List.map_congr_left
  intro b _
  simp
theorem splice_two {α : Type} (Z X Y : List α) (k : Nat) (hk : X.length = k) (hZ : Z.length = k + Y.length) : splice (splice Z 0 X) k Y = X ++ Y := by
  subst hk
  unfold splice
  have e1 : Z.take 0 ++ (X ++ Z.drop (0 + X.length)) = X ++ Z.drop X.length := by simp
  rw [e1]
  have e2 : (X ++ Z.drop X.length).take X.length = X := by simp
  have e3 : (X ++ Z.drop X.length).drop (X.length + Y.length) = [] := List.drop_eq_nil_of_le (by simp; omega)
  rw [e2, e3]; simp
theorem conv_row {P : Program} {w : World} {g n cap : Nat} {e : TypeId} {l : List UInt8} (src dst : TypeId) (hs : P.underlying src = some (.slice e)) (he : P.underlying e = some (.int .u8)) (hd : P.underlying dst = some .string)
    (hn : l.length = n) (h : w.heap[g]? = some (.cells (Lib.byteCells l).toArray e (0, 0))) : (convert src dst (.slice (some ⟨g, 0, none⟩) n cap)).run P w = .ok (.string ⟨l.toArray⟩) w := by
  rw [← strOfNums_bytes]
  refine run_convert_bytes_arg w src e hs he g 0 n cap _ (by simpa using hn) ?_ dst hd
  intro i hi
  have hi' : i < l.length := by omega
  simp [World.cell?, h, Lib.byteCells, hi', List.getD]

theorem append_mk (a b : ByteArray) : ByteArray.mk (a.data.toList ++ b.data.toList).toArray = a ++ b := by
  apply ByteArray.ext
  simp [ByteArray.data_append]

theorem own_row {w : World} {base g n : Nat} {e : TypeId} {xs : List Value} (h : w.ownsRow base e 1 (.slice (some ⟨g, 0, none⟩) n n) n xs) : ∃ L : List Value, L.length = n ∧ w.heap[g]? = some (.cells L.toArray e (0, 0)) := by
  rcases h.2 with ⟨h1, _⟩ | ⟨g', cap, cur, h1, _, hh, _, _, hc, _⟩
  · cases h1
  · injection h1 with h1 _ h3
    injection h1 with h1
    injection h1 with h1 _ _
    subst h1; subst h3
    exact ⟨cur.toList, by simpa using hc, by simpa using hh⟩
theorem row_one {w : World} {g : Nat} {e : TypeId} {L : List Value} {x : ByteArray} (hL : L.length = x.size)
    (h : w.heap[g]? = some (.cells (splice L 0 (Lib.byteCells x.data.toList)).toArray e (0, 0))) :
    w.heap[g]? = some (.cells (Lib.byteCells x.data.toList).toArray e (0, 0)) := by
  have e : splice L 0 (Lib.byteCells x.data.toList) = Lib.byteCells x.data.toList := by
    unfold splice
    rw [List.drop_eq_nil_of_le (by rw [Lib.byteCells_length, ← Lib.size_eq]; omega)]; simp
  rw [e] at h; exact h
theorem row_empty {w : World} {g : Nat} {e : TypeId} {L : List Value} (h : w.heap[g]? = some (.cells (splice L 0 (Lib.byteCells ByteArray.empty.data.toList)).toArray e (0, 0))) : w.heap[g]? = some (.cells L.toArray e (0, 0)) := by
  rw [h]; simp [splice, Lib.byteCells]
theorem row_two {w : World} {g : Nat} {e : TypeId} {L : List Value} {x y : ByteArray} (hL : L.length = x.size + y.size)
    (h : w.heap[g]? = some (.cells (splice (splice L 0 (Lib.byteCells x.data.toList)) x.size (Lib.byteCells y.data.toList)).toArray e (0, 0))) :
    w.heap[g]? = some (.cells (Lib.byteCells (x.data.toList ++ y.data.toList)).toArray e (0, 0)) := by
  rw [splice_two _ _ _ _ (by rw [Lib.byteCells_length, ← Lib.size_eq]) (by rw [hL, Lib.byteCells_length, ← Lib.size_eq])] at h
  rw [h]; simp [Lib.byteCells]
end Go.Proofs.YtimlnbfalnkmhaaGreatDoor

/-
  Blocks of a world: one cell set, what stays. Of no function.
-/
namespace Go.Proofs.YtimlnbfalnkmhaaGreatDoor
open Go.RowKit

theorem lt_heap {w : World} {g : Nat} {o : Obj} (h : w.heap[g]? = some o) : g < w.heap.size := by
  rcases Nat.lt_or_ge g w.heap.size with h' | h'
  · exact h'
  · simp [Array.getElem?_eq_none h'] at h
/-- One cell of a block set. -/
theorem blk_set {w : World} {g i : Nat} {L : List Value} {t : TypeId} (h : w.heap[g]? = some (.cells L.toArray t (0, 0))) (v : Value) : (w.setCell ⟨g, i, none⟩ v).heap[g]? = some (.cells (L.set i v).toArray t (0, 0)) := by
  rw [setCell_eq_setRow w g i L.toArray t (0, 0) v h]
  have := setRow_heap w g L.toArray (L.toArray.setIfInBounds i v) t (0, 0) h
  simpa using this
theorem grown_set (w : World) (b i : Nat) (v : Value) : w.grownBy (w.setCell ⟨b, i, none⟩ v) (some b) :=
  ⟨rfl, rfl, rfl, by simp [World.setCell], fun k _ hk => Below.heap_setCell _ _ _ _ (fun e => hk (by simp [e]))⟩
theorem grown_trans {w w1 w2 : World} {r : Option Nat} (h1 : w.grownBy w1 r) (h2 : w1.grownBy w2 r) : w.grownBy w2 r :=
  ⟨h2.os.trans h1.os, h2.tape.trans h1.tape, h2.output.trans h1.output, Nat.le_trans h1.size h2.size, fun k hk hr => (h2.block k (Nat.lt_of_lt_of_le hk h1.size) hr).trans (h1.block k hk hr)⟩
theorem grown_below {w w' : World} {r : Option Nat} (h : Below w.heap.size w w') : w.grownBy w' r :=
  ⟨h.os, h.tape, h.output, h.size, fun k hk _ => h.block k hk⟩
theorem grown_drewN (w : World) (n : Nat) (r : Option Nat) : w.grownBy (w.drewN n) r := ⟨rfl, rfl, rfl, Nat.le_refl _, fun _ _ _ => rfl⟩
end Go.Proofs.YtimlnbfalnkmhaaGreatDoor
