/-
  Texts put together: Gen, Own, Src, BsIn.
-/
import Derived.Test.YthggcdadipjiiaaGreatDoorRows
import Derived.WalkKit
import Derived.WalkLawsBesides
import Derived.WalkSpells
import Derived.Laws.BytesArg
import Derived.Laws.BitsAll
import Derived.OpenShut
import Derived.Lib.BufferWrite
import Derived.Laws.CopyOwn
import Derived.Deep.Draws
import Derived.Lib.Builder
import Derived.Deep.RegionHeld3
import Derived.BigQuiet
import Derived.Deep.QuietTactic
import Derived.ProofKit
import Derived.Deep.Slices
import Derived.DataReads
/-
  Small laws of no function: hidden facts, endings, a row of bytes and the text that it makes, copy out of a text.
-/
namespace Go.Proofs.YthggcdadipjiiaaGreatDoor
open Go.RowKit

theorem hid {p : Prop} (h : p) : Hid p := h
theorem ret_bool {a b : Bool} (h : a = b) : Ending.returned (.bool a) = .returned (.bool b) := by rw [h]
theorem ret_int {k : IntKind} {a b : Int} (h : a = b) : Ending.returned (.int k a) = .returned (.int k b) := by rw [h]
theorem str_ne {S T : ByteArray} (h : ¬ S = T) : (S.toList == T.toList) = false := by
  rw [beq_eq_false_iff_ne]
  intro e
  rw [ByteArray.toList_eq, ByteArray.toList_eq] at e
  exact h (ByteArray.ext (Array.toList_inj.1 e))
theorem Tryz.info5 : (Tryz.prog.info? 5).map (fun i => (i.zero, i.size, i.bytes)) = some (some (.int .u8 0), 1, 1) := by kernel_rfl

theorem wpList_copy_str {P : Program} {w : World} {ops : Array Oper} {rest : List Oper} {o : Oper} {a : Act} {Q : Exit → Act → World → Prop} (hgd : o.guard = none) (d s : Operand) (dT sT : TypeId)
    (ho : o.op = .call { callee := .builtin .copy, args := #[d, s], argTypes := #[dT, sT] }) (elem : TypeId) (hu : P.underlying dT = some (.slice elem)) (hsz : (P.info? elem).map (·.size) = some 1)
    (dp : Option Addr) (dLen dCap : Nat) (hd : a.eval d = .slice dp dLen dCap) (x : ByteArray) (hs : a.eval s = .string x)
    (g off : Nat) (cur : List Value) (t : TypeId) (hg : w.heap[g]? = some (.cells cur.toArray t (0, 0))) (hle : x.size ≤ dLen) (hpos : 0 < x.size → dp = some ⟨g, off, none⟩) (hfit : off + x.size ≤ cur.length)
    (B : Nat) (w0 : World) (hb : Below B w0 w) (hBg : B ≤ g)
    (h : ∀ w', Hid (w'.heap[g]? = some (.cells (splice cur off (Lib.byteCells x.data.toList)).toArray t (0, 0))) → Below B w0 w' → wpList P ops Q rest (a.put o.dst (goInt x.size)) w') :
    wpList P ops Q (o :: rest) a w := by
  refine wpList_plain hgd fun K hK => ?_
  by_cases h0 : x.size = 0
  · have hrun := Lib.run_copy_empty_string (P := P) w dT sT o.type elem dp dLen dCap x hu (by rw [hsz]; rfl) h0
    have hx : x.data.toList = [] := List.eq_nil_of_length_eq_zero (by rw [← Lib.size_eq]; exact h0)
    unfold Oper.wp
    simp [execOp, ho, resolve, invoke, builtin, hd, hs, hrun, Result.andThen]
    refine hK _ _ ?_
    have := h w (show _ = _ by rw [hx]; simpa [splice, Lib.byteCells] using hg) hb
    rwa [h0] at this
  · obtain rfl := hpos (by omega)
    have hrun := Lib.run_copy_row_string (P := P) w dT sT o.type elem g off dLen dCap x cur.toArray t hu hsz hg hle (by simpa using hfit)
    unfold Oper.wp
    simp [execOp, ho, resolve, invoke, builtin, hd, hs, hrun, Result.andThen]
    refine hK _ _ (h _ (show _ = _ by
      have := setRow_heap w g _ (cur.toArray.toList.take off ++ Lib.byteCells x.data.toList ++ cur.toArray.toList.drop (off + x.size)).toArray t _ hg
      simpa [splice, Lib.byteCells_length, ← Lib.size_eq] using this) (below_setRow hb hBg _))

theorem own_row {w : World} {base g n : Nat} {e : TypeId} {xs : List Value} (h : w.ownsRow base e 1 (.slice (some ⟨g, 0, none⟩) n n) n xs) : ∃ L : List Value, L.length = n ∧ w.heap[g]? = some (.cells L.toArray e (0, 0)) := by
  rcases h.2 with ⟨h1, _⟩ | ⟨g', cap, cur, h1, _, hh, _, _, hc, _⟩
  · cases h1
  · injection h1 with h1 _ h3
    injection h1 with h1
    injection h1 with h1 _ _
    subst h1; subst h3
    exact ⟨cur.toList, by simpa using hc, by simpa using hh⟩
theorem row_one {w : World} {g : Nat} {e : TypeId} {L : List Value} {x : ByteArray} (hL : L.length = x.size)
    (h : w.heap[g]? = some (.cells (splice L 0 (Lib.byteCells x.data.toList)).toArray e (0, 0))) :
    w.heap[g]? = some (.cells (Lib.byteCells x.data.toList).toArray e (0, 0)) := by
  have e : splice L 0 (Lib.byteCells x.data.toList) = Lib.byteCells x.data.toList := by
    unfold splice
    rw [List.drop_eq_nil_of_le (by rw [Lib.byteCells_length, ← Lib.size_eq]; omega)]; simp
  rw [e] at h; exact h
end Go.Proofs.YthggcdadipjiiaaGreatDoor

/-
  Blocks of a world: one cell set, what stays. Of no function.
-/
namespace Go.Proofs.YthggcdadipjiiaaGreatDoor
open Go.RowKit

theorem lt_heap {w : World} {g : Nat} {o : Obj} (h : w.heap[g]? = some o) : g < w.heap.size := by
  rcases Nat.lt_or_ge g w.heap.size with h' | h'
  · exact h'
  · simp [Array.getElem?_eq_none h'] at h
/-- One cell of a block set. -/
theorem blk_set {w : World} {g i : Nat} {L : List Value} {t : TypeId} (h : w.heap[g]? = some (.cells L.toArray t (0, 0))) (v : Value) : (w.setCell ⟨g, i, none⟩ v).heap[g]? = some (.cells (L.set i v).toArray t (0, 0)) := by
  rw [setCell_eq_setRow w g i L.toArray t (0, 0) v h]
  have := setRow_heap w g L.toArray (L.toArray.setIfInBounds i v) t (0, 0) h
  simpa using this
theorem grown_set (w : World) (b i : Nat) (v : Value) : w.grownBy (w.setCell ⟨b, i, none⟩ v) (some b) :=
  ⟨rfl, rfl, rfl, by simp [World.setCell], fun k _ hk => Below.heap_setCell _ _ _ _ (fun e => hk (by simp [e]))⟩
theorem grown_trans {w w1 w2 : World} {r : Option Nat} (h1 : w.grownBy w1 r) (h2 : w1.grownBy w2 r) : w.grownBy w2 r :=
  ⟨h2.os.trans h1.os, h2.tape.trans h1.tape, h2.output.trans h1.output, Nat.le_trans h1.size h2.size, fun k hk hr => (h2.block k (Nat.lt_of_lt_of_le hk h1.size) hr).trans (h1.block k hk hr)⟩
theorem grown_below {w w' : World} {r : Option Nat} (h : Below w.heap.size w w') : w.grownBy w' r :=
  ⟨h.os, h.tape, h.output, h.size, fun k hk _ => h.block k hk⟩
theorem grown_drewN (w : World) (n : Nat) (r : Option Nat) : w.grownBy (w.drewN n) r := ⟨rfl, rfl, rfl, Nat.le_refl _, fun _ _ _ => rfl⟩
end Go.Proofs.YthggcdadipjiiaaGreatDoor

/-
  Draws: a source in memory, and what (*spec.l01Src).n answers: contracts over the seat's program.
-/
namespace Go.Proofs.YthggcdadipjiiaaGreatDoor
open Go.RowKit

/-- A row of bytes that came in. -/
def Bs (w : World) (v : Value) (n : Nat) : Prop :=
  ∃ a c, v = .slice a n c ∧ n ≤ 1048576 ∧ ∀ i, i < n → ∃ g o x, a = some ⟨g, o, none⟩ ∧ g < w.heap.size ∧ w.cell? ⟨g, o + i, none⟩ = some (.int .u8 x) ∧ 0 ≤ x ∧ x ≤ 255
/-- A source's size. -/
def Siz (s : Int) : Prop := 0 ≤ s ∧ s ≤ 12
/-- A source of draws: its bytes, its place, its mix. -/
def SrcAt (w : World) (b : Nat) (V : Value) (n : Nat) : Prop :=
  ∃ (at' : Nat) (mix size : Int), at' ≤ n ∧ 0 ≤ mix ∧ mix ≤ 18446744073709551615 ∧ Siz size ∧ w.heap[b]? = some (.cells [V, .int .i64 (at' : Int), .int .u64 mix, .int .i64 size].toArray 85 (0, 0))
theorem SrcAt.lt {w : World} {b n : Nat} {V : Value} (h : SrcAt w b V n) : b < w.heap.size := by
  obtain ⟨_, _, _, _, _, _, _, h⟩ := h; exact lt_heap h
theorem SrcAt.of_block {w w' : World} {b n : Nat} {V : Value} (h : SrcAt w b V n) (hb : w'.heap[b]? = w.heap[b]?) : SrcAt w' b V n := by
  obtain ⟨a, m, s, h1, h2, h3, hs, h⟩ := h; exact ⟨a, m, s, h1, h2, h3, hs, hb.trans h⟩

theorem xor_bd (a b : Int) : 0 ≤ bits .xor .u64 a b ∧ bits .xor .u64 a b ≤ 18446744073709551615 := by
  show 0 ≤ IntKind.u64.wrap _ ∧ IntKind.u64.wrap _ ≤ _
  rw [IntKind.wrap_u64]
  omega
theorem wrap_mod {most : Int} (X : Int) (h0 : 0 < most) (h1 : most ≤ 1099511627776) : 0 ≤ wrap64 (X % most) ∧ wrap64 (X % most) < most := by
  have a := Int.emod_nonneg X (show most ≠ 0 by omega)
  have b := Int.emod_lt_of_pos X h0
  unfold wrap64
  omega
set_option maxHeartbeats 2000000 in
set_option maxRecDepth 100000 in
theorem srcN_none (b n at' : Nat) (a : Option Addr) (c : Nat) (mix size most : Int) (w : World) (hat : at' ≤ n) (h1 : 1 < most) (h2 : most ≤ 1099511627776) (hsz : Siz size)
    (hb : w.heap[b]? = some (.cells [.slice a n c, .int .i64 (at' : Int), .int .u64 mix, .int .i64 size].toArray 85 (0, 0))) (hge : n ≤ at') :
    Calls Tryz.prog 45 #[.pointer (some ⟨b, 0, none⟩), .int .i64 most] w fun e w' => ∃ r : Int, e = .returned (.int .i64 r) ∧ 0 ≤ r ∧ r < most ∧ SrcAt w' b (.slice a n c) n ∧ w.grownBy w' (some b) := by
  have e0 : w.cell? ⟨b, 0, none⟩ = some (.slice a n c) := by rw [Lib.cell_of_heap hb]; rfl
  have e1 : w.cell? ⟨b, 1, none⟩ = some (.int .i64 (at' : Int)) := by rw [Lib.cell_of_heap hb]; rfl
  have e2 : w.cell? ⟨b, 2, none⟩ = some (.int .u64 mix) := by rw [Lib.cell_of_heap hb]; rfl
  have f2 : w.frozen? ⟨b, 2, none⟩ = false := Lib.frozen_of_heap hb 2
  have HB := hid hb
  clear hb
  go_enter Tryz.func45, Tryz.ntmps45
  go_wp2
  go_quiet (fail)
  go_wp2
  go_region
  have b1 := xor_bd mix (IntKind.u64.wrap (mix * 8192))
  have HB1 := hid (blk_set (w := w.drewN (nq + 1)) (i := 2) HB.out (.int .u64 (bits .xor .u64 mix (IntKind.u64.wrap (mix * 8192)))))
  have G1 := hid (grown_trans (grown_drewN w (nq + 1) (some b)) (grown_set (w.drewN (nq + 1)) b 2 (.int .u64 (bits .xor .u64 mix (IntKind.u64.wrap (mix * 8192))))))
  generalize bits .xor .u64 mix (IntKind.u64.wrap (mix * 8192)) = m1 at *
  generalize (w.drewN (nq + 1)).setCell ⟨b, 2, none⟩ (.int .u64 m1) = w1 at *
  clear e0 e1 e2 f2 HB
  have e2 : w1.cell? ⟨b, 2, none⟩ = some (.int .u64 m1) := by rw [Lib.cell_of_heap HB1.out]; rfl
  have f2 : w1.frozen? ⟨b, 2, none⟩ = false := Lib.frozen_of_heap HB1.out 2
  go_wp2
  go_region
  have b2 := xor_bd m1 (m1 / 128)
  have HB2 := hid (blk_set (w := w1) (i := 2) HB1.out (.int .u64 (bits .xor .u64 m1 (m1 / 128))))
  have G2 := hid (grown_trans (grown_trans G1.out (grown_set w1 b 2 (.int .u64 (bits .xor .u64 m1 (m1 / 128))))) (grown_drewN _ 1 (some b)))
  generalize bits .xor .u64 m1 (m1 / 128) = m2 at *
  have HB2' : Hid ((w1.setCell ⟨b, 2, none⟩ (.int .u64 m2)).drew.heap[b]? = some (.cells [.slice a n c, .int .i64 (at' : Int), .int .u64 m2, .int .i64 size].toArray 85 (0, 0))) := HB2.out
  have G2' : Hid (w.grownBy (w1.setCell ⟨b, 2, none⟩ (.int .u64 m2)).drew (some b)) := G2.out
  generalize (w1.setCell ⟨b, 2, none⟩ (.int .u64 m2)).drew = w2 at *
  clear e2 f2 HB1 G1 HB2 G2 b1
  have e2 : w2.cell? ⟨b, 2, none⟩ = some (.int .u64 m2) := by rw [Lib.cell_of_heap HB2'.out]; rfl
  have f2 : w2.frozen? ⟨b, 2, none⟩ = false := Lib.frozen_of_heap HB2'.out 2
  go_wp2
  go_region
  have b3 := xor_bd m2 (IntKind.u64.wrap (m2 * 131072))
  have HB3 := hid (blk_set (w := w2) (i := 2) HB2'.out (.int .u64 (bits .xor .u64 m2 (IntKind.u64.wrap (m2 * 131072)))))
  have G3 := hid (grown_trans (grown_trans G2'.out (grown_set w2 b 2 (.int .u64 (bits .xor .u64 m2 (IntKind.u64.wrap (m2 * 131072)))))) (grown_drewN _ 1 (some b)))
  generalize bits .xor .u64 m2 (IntKind.u64.wrap (m2 * 131072)) = m3 at *
  have HB3' : Hid ((w2.setCell ⟨b, 2, none⟩ (.int .u64 m3)).drew.heap[b]? = some (.cells [.slice a n c, .int .i64 (at' : Int), .int .u64 m3, .int .i64 size].toArray 85 (0, 0))) := HB3.out
  have G3' : Hid (w.grownBy (w2.setCell ⟨b, 2, none⟩ (.int .u64 m3)).drew (some b)) := G3.out
  generalize (w2.setCell ⟨b, 2, none⟩ (.int .u64 m3)).drew = w3 at *
  clear e2 f2 HB2' G2' HB3 G3 b2
  have e2 : w3.cell? ⟨b, 2, none⟩ = some (.int .u64 m3) := by rw [Lib.cell_of_heap HB3'.out]; rfl
  have hmb : IntKind.u64.wrap most = most := by rw [IntKind.wrap_u64]; omega
  have hmz : ¬ most = 0 := by omega
  go_wp2
  go_ret
  refine ⟨_, rfl, ?_, ?_, ⟨at', m3, size, hat, b3.1, b3.2, hsz, HB3'.out⟩, G3'.out⟩
  · exact (wrap_mod _ (by omega) (by omega)).1
  · exact (wrap_mod _ (by omega) (by omega)).2
set_option maxHeartbeats 2000000 in
set_option maxRecDepth 100000 in
theorem srcN_some (b n at' g o : Nat) (c : Nat) (mix size most x : Int) (w : World) (hn : n ≤ 1048576) (h1 : 1 < most) (h2 : most ≤ 1099511627776) (hsz : Siz size)
    (hb : w.heap[b]? = some (.cells [.slice (some ⟨g, o, none⟩) n c, .int .i64 (at' : Int), .int .u64 mix, .int .i64 size].toArray 85 (0, 0))) (hlt : at' < n) (hx : w.cell? ⟨g, o + at', none⟩ = some (.int .u8 x)) (hx0 : 0 ≤ x) (hx1 : x ≤ 255) :
    Calls Tryz.prog 45 #[.pointer (some ⟨b, 0, none⟩), .int .i64 most] w fun e w' => ∃ r : Int, e = .returned (.int .i64 r) ∧ 0 ≤ r ∧ r < most ∧ SrcAt w' b (.slice (some ⟨g, o, none⟩) n c) n ∧ w.grownBy w' (some b) := by
  have e0 : w.cell? ⟨b, 0, none⟩ = some (.slice (some ⟨g, o, none⟩) n c) := by rw [Lib.cell_of_heap hb]; rfl
  have e1 : w.cell? ⟨b, 1, none⟩ = some (.int .i64 (at' : Int)) := by rw [Lib.cell_of_heap hb]; rfl
  have e2 : w.cell? ⟨b, 2, none⟩ = some (.int .u64 mix) := by rw [Lib.cell_of_heap hb]; rfl
  have f2 : ∀ j, w.frozen? ⟨b, j, none⟩ = false := fun j => Lib.frozen_of_heap hb j
  have HB := hid hb
  clear hb
  go_enter Tryz.func45, Tryz.ntmps45
  go_wp2
  go_quiet (fail)
  revert nq
  intro nq0
  go_wp2
  go_quiet (fail)
  go_wp2
  go_region
  have b1 := xor_bd mix (IntKind.u64.wrap (mix * 8192))
  have HB0 := hid (blk_set (w := w.drewN (nq0 + nq)) (i := 1) HB.out (.int .i64 ((at' : Int) + 1)))
  have G0 := hid (grown_trans (grown_drewN w (nq0 + nq) (some b)) (grown_set (w.drewN (nq0 + nq)) b 1 (.int .i64 ((at' : Int) + 1))))
  generalize (w.drewN (nq0 + nq)).setCell ⟨b, 1, none⟩ (.int .i64 ((at' : Int) + 1)) = w0 at *
  have HBx := hid (blk_set (w := w0) (i := 2) HB0.out (.int .u64 (bits .xor .u64 mix (IntKind.u64.wrap (mix * 8192)))))
  have Gx := hid (grown_trans (grown_trans G0.out (grown_set w0 b 2 (.int .u64 (bits .xor .u64 mix (IntKind.u64.wrap (mix * 8192)))))) (grown_drewN _ 1 (some b)))
  generalize bits .xor .u64 mix (IntKind.u64.wrap (mix * 8192)) = m1 at *
  have HB1 : Hid ((w0.setCell ⟨b, 2, none⟩ (.int .u64 m1)).drew.heap[b]? = some (.cells [.slice (some ⟨g, o, none⟩) n c, .int .i64 ((at' : Int) + 1), .int .u64 m1, .int .i64 size].toArray 85 (0, 0))) := HBx.out
  have G1 : Hid (w.grownBy (w0.setCell ⟨b, 2, none⟩ (.int .u64 m1)).drew (some b)) := Gx.out
  generalize (w0.setCell ⟨b, 2, none⟩ (.int .u64 m1)).drew = w1 at *
  clear HB0 G0 HBx Gx hx
  clear e0 e1 e2 f2 HB
  have e2 : w1.cell? ⟨b, 2, none⟩ = some (.int .u64 m1) := by rw [Lib.cell_of_heap HB1.out]; rfl
  have f2 : w1.frozen? ⟨b, 2, none⟩ = false := Lib.frozen_of_heap HB1.out 2
  go_wp2
  go_region
  have b2 := xor_bd m1 (m1 / 128)
  have HB2 := hid (blk_set (w := w1) (i := 2) HB1.out (.int .u64 (bits .xor .u64 m1 (m1 / 128))))
  have G2 := hid (grown_trans (grown_trans G1.out (grown_set w1 b 2 (.int .u64 (bits .xor .u64 m1 (m1 / 128))))) (grown_drewN _ 1 (some b)))
  generalize bits .xor .u64 m1 (m1 / 128) = m2 at *
  have HB2' : Hid ((w1.setCell ⟨b, 2, none⟩ (.int .u64 m2)).drew.heap[b]? = some (.cells [.slice (some ⟨g, o, none⟩) n c, .int .i64 ((at' : Int) + 1), .int .u64 m2, .int .i64 size].toArray 85 (0, 0))) := HB2.out
  have G2' : Hid (w.grownBy (w1.setCell ⟨b, 2, none⟩ (.int .u64 m2)).drew (some b)) := G2.out
  generalize (w1.setCell ⟨b, 2, none⟩ (.int .u64 m2)).drew = w2 at *
  clear e2 f2 HB1 G1 HB2 G2 b1
  have e2 : w2.cell? ⟨b, 2, none⟩ = some (.int .u64 m2) := by rw [Lib.cell_of_heap HB2'.out]; rfl
  have f2 : w2.frozen? ⟨b, 2, none⟩ = false := Lib.frozen_of_heap HB2'.out 2
  go_wp2
  go_region
  have b3 := xor_bd m2 (IntKind.u64.wrap (m2 * 131072))
  have HB3 := hid (blk_set (w := w2) (i := 2) HB2'.out (.int .u64 (bits .xor .u64 m2 (IntKind.u64.wrap (m2 * 131072)))))
  have G3 := hid (grown_trans (grown_trans G2'.out (grown_set w2 b 2 (.int .u64 (bits .xor .u64 m2 (IntKind.u64.wrap (m2 * 131072)))))) (grown_drewN _ 1 (some b)))
  generalize bits .xor .u64 m2 (IntKind.u64.wrap (m2 * 131072)) = m3 at *
  have HB3' : Hid ((w2.setCell ⟨b, 2, none⟩ (.int .u64 m3)).drew.heap[b]? = some (.cells [.slice (some ⟨g, o, none⟩) n c, .int .i64 ((at' : Int) + 1), .int .u64 m3, .int .i64 size].toArray 85 (0, 0))) := HB3.out
  have G3' : Hid (w.grownBy (w2.setCell ⟨b, 2, none⟩ (.int .u64 m3)).drew (some b)) := G3.out
  generalize (w2.setCell ⟨b, 2, none⟩ (.int .u64 m3)).drew = w3 at *
  clear e2 f2 HB2' G2' HB3 G3 b2
  have e2 : w3.cell? ⟨b, 2, none⟩ = some (.int .u64 m3) := by rw [Lib.cell_of_heap HB3'.out]; rfl
  have hmb : IntKind.u64.wrap most = most := by rw [IntKind.wrap_u64]; omega
  have hmz : ¬ most = 0 := by omega
  go_wp2
  go_ret
  refine ⟨_, rfl, ?_, ?_, ⟨at' + 1, m3, size, hlt, b3.1, b3.2, hsz, HB3'.out⟩, G3'.out⟩
  · exact (wrap_mod _ (by omega) (by omega)).1
  · exact (wrap_mod _ (by omega) (by omega)).2
end Go.Proofs.YthggcdadipjiiaaGreatDoor

/-
  A slice of bytes that came in as data: what it holds. Of no function: one law of reading.
-/
namespace Go.Proofs.YthggcdadipjiiaaGreatDoor
open Go.ChangeShapes Go.WideShapes Go.RowKit Go.Deep Go.WideElems

section
variable {H : Type} {enc : TypeId × Value → H} {P : Program} {w : World}

/-- A slice of bytes, read: each cell a byte. (Bs bounds the length besides: what is longer the law does not look at.) -/
theorem bs_value {t e : TypeId} {a0 : Option Addr} {len cap : Nat} {D : DataW H} {p : List MemPlace} (hsl : P.underlying t = some (.slice e)) (he : P.underlying e = some (.int .u8)) (hC : P.cellsOf e = 1)
    (h : DataW.Trod enc P w 0 (fun _ => true) true t (.slice a0 len cap) D p) (hlen : len ≤ 1048576) : Bs w (.slice a0 len cap) len := by
  obtain ⟨fuel, hf⟩ := h
  refine ⟨a0, cap, rfl, hlen, fun i hi => ?_⟩
  rcases open_slice hsl hf with ⟨hcs, _⟩ | ⟨a, len', cap', m, n, D', Pl, hcs, _, hl, hm, hmm, _, hel⟩
  · simp [Value.cells] at hcs
    omega
  · simp [Value.cells] at hcs
    obtain ⟨rfl, rfl, rfl⟩ := hcs
    simp only [if_true] at hmm
    subst hmm
    obtain ⟨cs', h1, h2⟩ := hel i (by omega)
    rw [hC] at h1
    obtain ⟨x, hx, _, hw⟩ := DataW.trod_int he h2
    subst hx
    obtain ⟨_, _, hc⟩ := World.cells?_some h1
    have hc0 := hc 0 (by decide)
    obtain ⟨cs0, g1, _⟩ := hel 0 (by omega)
    rw [hC] at g1
    have hspot : a.spot = none := by
      obtain ⟨_, hl0, hd⟩ := World.cells?_some g1
      have hd0 := hd 0 (by decide)
      rw [List.getElem?_eq_getElem (by omega)] at hd0
      have := World.cell?_spot hd0
      simpa [Addr.add] using this
    have hblk : a.block < w.heap.size := by
      have := World.cells?_block g1 (by decide)
      simpa [Addr.add] using this
    obtain ⟨b, o, s⟩ := a
    simp at hspot
    subst hspot
    rw [Addr.add_lit] at hc0
    rw [Addr.add_lit] at hc0
    have hb : 0 ≤ x ∧ x ≤ 255 := by simp [Lit.wf, IntKind.min, IntKind.max, IntKind.signed, IntKind.bits] at hw; omega
    exact ⟨b, o, x, rfl, hblk, by simpa using hc0, hb.1, hb.2⟩
end
end Go.Proofs.YthggcdadipjiiaaGreatDoor
