/-
  Draws: a source in memory, and what (*spec.l01Src).n answers: contracts over the seat's program.
-/
import Derived.Test.YtimlnbfalnkmhaaGreatDoorZGen2
import Derived.Deep.RegionHeld3
import Derived.BigQuiet
import Derived.Deep.QuietTactic
namespace Go.Proofs.YtimlnbfalnkmhaaGreatDoor
open Go.RowKit

/-- A row of bytes that came in. -/
def Bs (w : World) (v : Value) (n : Nat) : Prop :=
  ∃ a c, v = .slice a n c ∧ n ≤ 1048576 ∧ ∀ i, i < n → ∃ g o x, a = some ⟨g, o, none⟩ ∧ g < w.heap.size ∧ w.cell? ⟨g, o + i, none⟩ = some (.int .u8 x) ∧ 0 ≤ x ∧ x ≤ 255
/-- A source's size. -/
def Siz (s : Int) : Prop := 0 ≤ s ∧ s ≤ 12
/-- A source of draws: its bytes, its place, its mix. -/
def SrcAt (w : World) (b : Nat) (V : Value) (n : Nat) : Prop :=
  ∃ (at' : Nat) (mix size : Int), at' ≤ n ∧ 0 ≤ mix ∧ mix ≤ 18446744073709551615 ∧ Siz size ∧ w.heap[b]? = some (.cells [V, .int .i64 (at' : Int), .int .u64 mix, .int .i64 size].toArray 114 (0, 0))
theorem SrcAt.lt {w : World} {b n : Nat} {V : Value} (h : SrcAt w b V n) : b < w.heap.size := by
  obtain ⟨_, _, _, _, _, _, _, h⟩ := h; exact lt_heap h
theorem SrcAt.of_block {w w' : World} {b n : Nat} {V : Value} (h : SrcAt w b V n) (hb : w'.heap[b]? = w.heap[b]?) : SrcAt w' b V n := by
  obtain ⟨a, m, s, h1, h2, h3, hs, h⟩ := h; exact ⟨a, m, s, h1, h2, h3, hs, hb.trans h⟩

theorem xor_bd (a b : Int) : 0 ≤ bits .xor .u64 a b ∧ bits .xor .u64 a b ≤ 18446744073709551615 := by
  show 0 ≤ IntKind.u64.wrap _ ∧ IntKind.u64.wrap _ ≤ _
  rw [IntKind.wrap_u64]
  omega
theorem wrap_mod {most : Int} (X : Int) (h0 : 0 < most) (h1 : most ≤ 1099511627776) : 0 ≤ wrap64 (X % most) ∧ wrap64 (X % most) < most := by
  have a := Int.emod_nonneg X (show most ≠ 0 by omega)
  have b := Int.emod_lt_of_pos X h0
  unfold wrap64
  omega
set_option maxHeartbeats 2000000 in
set_option maxRecDepth 100000 in
theorem srcN_none (b n at' : Nat) (a : Option Addr) (c : Nat) (mix size most : Int) (w : World) (hat : at' ≤ n) (h1 : 1 < most) (h2 : most ≤ 1099511627776) (hsz : Siz size)
    (hb : w.heap[b]? = some (.cells [.slice a n c, .int .i64 (at' : Int), .int .u64 mix, .int .i64 size].toArray 114 (0, 0))) (hge : n ≤ at') :
    Calls Tryz.prog 47 #[.pointer (some ⟨b, 0, none⟩), .int .i64 most] w fun e w' => ∃ r : Int, e = .returned (.int .i64 r) ∧ 0 ≤ r ∧ r < most ∧ SrcAt w' b (.slice a n c) n ∧ w.grownBy w' (some b) := by
  have e0 : w.cell? ⟨b, 0, none⟩ = some (.slice a n c) := by rw [Lib.cell_of_heap hb]; rfl
  have e1 : w.cell? ⟨b, 1, none⟩ = some (.int .i64 (at' : Int)) := by rw [Lib.cell_of_heap hb]; rfl
  have e2 : w.cell? ⟨b, 2, none⟩ = some (.int .u64 mix) := by rw [Lib.cell_of_heap hb]; rfl
  have f2 : w.frozen? ⟨b, 2, none⟩ = false := Lib.frozen_of_heap hb 2
  have HB := hid hb
  clear hb
  go_enter Tryz.func47, Tryz.ntmps47
  go_wp2
  go_quiet (fail)
  go_wp2
  go_region
  have b1 := xor_bd mix (IntKind.u64.wrap (mix * 8192))
  have HB1 := hid (blk_set (w := w.drewN (nq + 1)) (i := 2) HB.out (.int .u64 (bits .xor .u64 mix (IntKind.u64.wrap (mix * 8192)))))
  have G1 := hid (grown_trans (grown_drewN w (nq + 1) (some b)) (grown_set (w.drewN (nq + 1)) b 2 (.int .u64 (bits .xor .u64 mix (IntKind.u64.wrap (mix * 8192))))))
  generalize bits .xor .u64 mix (IntKind.u64.wrap (mix * 8192)) = m1 at *
  generalize (w.drewN (nq + 1)).setCell ⟨b, 2, none⟩ (.int .u64 m1) = w1 at *
  clear e0 e1 e2 f2 HB
  have e2 : w1.cell? ⟨b, 2, none⟩ = some (.int .u64 m1) := by rw [Lib.cell_of_heap HB1.out]; rfl
  have f2 : w1.frozen? ⟨b, 2, none⟩ = false := Lib.frozen_of_heap HB1.out 2
  go_wp2
  go_region
  have b2 := xor_bd m1 (m1 / 128)
  have HB2 := hid (blk_set (w := w1) (i := 2) HB1.out (.int .u64 (bits .xor .u64 m1 (m1 / 128))))
  have G2 := hid (grown_trans (grown_trans G1.out (grown_set w1 b 2 (.int .u64 (bits .xor .u64 m1 (m1 / 128))))) (grown_drewN _ 1 (some b)))
  generalize bits .xor .u64 m1 (m1 / 128) = m2 at *
  have HB2' : Hid ((w1.setCell ⟨b, 2, none⟩ (.int .u64 m2)).drew.heap[b]? = some (.cells [.slice a n c, .int .i64 (at' : Int), .int .u64 m2, .int .i64 size].toArray 114 (0, 0))) := HB2.out
  have G2' : Hid (w.grownBy (w1.setCell ⟨b, 2, none⟩ (.int .u64 m2)).drew (some b)) := G2.out
  generalize (w1.setCell ⟨b, 2, none⟩ (.int .u64 m2)).drew = w2 at *
  clear e2 f2 HB1 G1 HB2 G2 b1
  have e2 : w2.cell? ⟨b, 2, none⟩ = some (.int .u64 m2) := by rw [Lib.cell_of_heap HB2'.out]; rfl
  have f2 : w2.frozen? ⟨b, 2, none⟩ = false := Lib.frozen_of_heap HB2'.out 2
  go_wp2
  go_region
  have b3 := xor_bd m2 (IntKind.u64.wrap (m2 * 131072))
  have HB3 := hid (blk_set (w := w2) (i := 2) HB2'.out (.int .u64 (bits .xor .u64 m2 (IntKind.u64.wrap (m2 * 131072)))))
  have G3 := hid (grown_trans (grown_trans G2'.out (grown_set w2 b 2 (.int .u64 (bits .xor .u64 m2 (IntKind.u64.wrap (m2 * 131072)))))) (grown_drewN _ 1 (some b)))
  generalize bits .xor .u64 m2 (IntKind.u64.wrap (m2 * 131072)) = m3 at *
  have HB3' : Hid ((w2.setCell ⟨b, 2, none⟩ (.int .u64 m3)).drew.heap[b]? = some (.cells [.slice a n c, .int .i64 (at' : Int), .int .u64 m3, .int .i64 size].toArray 114 (0, 0))) := HB3.out
  have G3' : Hid (w.grownBy (w2.setCell ⟨b, 2, none⟩ (.int .u64 m3)).drew (some b)) := G3.out
  generalize (w2.setCell ⟨b, 2, none⟩ (.int .u64 m3)).drew = w3 at *
  clear e2 f2 HB2' G2' HB3 G3 b2
  have e2 : w3.cell? ⟨b, 2, none⟩ = some (.int .u64 m3) := by rw [Lib.cell_of_heap HB3'.out]; rfl
  have hmb : IntKind.u64.wrap most = most := by rw [IntKind.wrap_u64]; omega
  have hmz : ¬ most = 0 := by omega
  go_wp2
  go_ret
  refine ⟨_, rfl, ?_, ?_, ⟨at', m3, size, hat, b3.1, b3.2, hsz, HB3'.out⟩, G3'.out⟩
  · exact (wrap_mod _ (by omega) (by omega)).1
  · exact (wrap_mod _ (by omega) (by omega)).2
set_option maxHeartbeats 2000000 in
set_option maxRecDepth 100000 in
theorem srcN_some (b n at' g o : Nat) (c : Nat) (mix size most x : Int) (w : World) (hn : n ≤ 1048576) (h1 : 1 < most) (h2 : most ≤ 1099511627776) (hsz : Siz size)
    (hb : w.heap[b]? = some (.cells [.slice (some ⟨g, o, none⟩) n c, .int .i64 (at' : Int), .int .u64 mix, .int .i64 size].toArray 114 (0, 0))) (hlt : at' < n) (hx : w.cell? ⟨g, o + at', none⟩ = some (.int .u8 x)) (hx0 : 0 ≤ x) (hx1 : x ≤ 255) :
    Calls Tryz.prog 47 #[.pointer (some ⟨b, 0, none⟩), .int .i64 most] w fun e w' => ∃ r : Int, e = .returned (.int .i64 r) ∧ 0 ≤ r ∧ r < most ∧ SrcAt w' b (.slice (some ⟨g, o, none⟩) n c) n ∧ w.grownBy w' (some b) := by
  have e0 : w.cell? ⟨b, 0, none⟩ = some (.slice (some ⟨g, o, none⟩) n c) := by rw [Lib.cell_of_heap hb]; rfl
  have e1 : w.cell? ⟨b, 1, none⟩ = some (.int .i64 (at' : Int)) := by rw [Lib.cell_of_heap hb]; rfl
  have e2 : w.cell? ⟨b, 2, none⟩ = some (.int .u64 mix) := by rw [Lib.cell_of_heap hb]; rfl
  have f2 : ∀ j, w.frozen? ⟨b, j, none⟩ = false := fun j => Lib.frozen_of_heap hb j
  have HB := hid hb
  clear hb
  go_enter Tryz.func47, Tryz.ntmps47
  go_wp2
  go_quiet (fail)
  revert nq
  intro nq0
  go_wp2
  go_quiet (fail)
  go_wp2
  go_region
  have b1 := xor_bd mix (IntKind.u64.wrap (mix * 8192))
  have HB0 := hid (blk_set (w := w.drewN (nq0 + nq)) (i := 1) HB.out (.int .i64 ((at' : Int) + 1)))
  have G0 := hid (grown_trans (grown_drewN w (nq0 + nq) (some b)) (grown_set (w.drewN (nq0 + nq)) b 1 (.int .i64 ((at' : Int) + 1))))
  generalize (w.drewN (nq0 + nq)).setCell ⟨b, 1, none⟩ (.int .i64 ((at' : Int) + 1)) = w0 at *
  have HBx := hid (blk_set (w := w0) (i := 2) HB0.out (.int .u64 (bits .xor .u64 mix (IntKind.u64.wrap (mix * 8192)))))
  have Gx := hid (grown_trans (grown_trans G0.out (grown_set w0 b 2 (.int .u64 (bits .xor .u64 mix (IntKind.u64.wrap (mix * 8192)))))) (grown_drewN _ 1 (some b)))
  generalize bits .xor .u64 mix (IntKind.u64.wrap (mix * 8192)) = m1 at *
  have HB1 : Hid ((w0.setCell ⟨b, 2, none⟩ (.int .u64 m1)).drew.heap[b]? = some (.cells [.slice (some ⟨g, o, none⟩) n c, .int .i64 ((at' : Int) + 1), .int .u64 m1, .int .i64 size].toArray 114 (0, 0))) := HBx.out
  have G1 : Hid (w.grownBy (w0.setCell ⟨b, 2, none⟩ (.int .u64 m1)).drew (some b)) := Gx.out
  generalize (w0.setCell ⟨b, 2, none⟩ (.int .u64 m1)).drew = w1 at *
  clear HB0 G0 HBx Gx hx
  clear e0 e1 e2 f2 HB
  have e2 : w1.cell? ⟨b, 2, none⟩ = some (.int .u64 m1) := by rw [Lib.cell_of_heap HB1.out]; rfl
  have f2 : w1.frozen? ⟨b, 2, none⟩ = false := Lib.frozen_of_heap HB1.out 2
  go_wp2
  go_region
  have b2 := xor_bd m1 (m1 / 128)
  have HB2 := hid (blk_set (w := w1) (i := 2) HB1.out (.int .u64 (bits .xor .u64 m1 (m1 / 128))))
  have G2 := hid (grown_trans (grown_trans G1.out (grown_set w1 b 2 (.int .u64 (bits .xor .u64 m1 (m1 / 128))))) (grown_drewN _ 1 (some b)))
  generalize bits .xor .u64 m1 (m1 / 128) = m2 at *
  have HB2' : Hid ((w1.setCell ⟨b, 2, none⟩ (.int .u64 m2)).drew.heap[b]? = some (.cells [.slice (some ⟨g, o, none⟩) n c, .int .i64 ((at' : Int) + 1), .int .u64 m2, .int .i64 size].toArray 114 (0, 0))) := HB2.out
  have G2' : Hid (w.grownBy (w1.setCell ⟨b, 2, none⟩ (.int .u64 m2)).drew (some b)) := G2.out
  generalize (w1.setCell ⟨b, 2, none⟩ (.int .u64 m2)).drew = w2 at *
  clear e2 f2 HB1 G1 HB2 G2 b1
  have e2 : w2.cell? ⟨b, 2, none⟩ = some (.int .u64 m2) := by rw [Lib.cell_of_heap HB2'.out]; rfl
  have f2 : w2.frozen? ⟨b, 2, none⟩ = false := Lib.frozen_of_heap HB2'.out 2
  go_wp2
  go_region
  have b3 := xor_bd m2 (IntKind.u64.wrap (m2 * 131072))
  have HB3 := hid (blk_set (w := w2) (i := 2) HB2'.out (.int .u64 (bits .xor .u64 m2 (IntKind.u64.wrap (m2 * 131072)))))
  have G3 := hid (grown_trans (grown_trans G2'.out (grown_set w2 b 2 (.int .u64 (bits .xor .u64 m2 (IntKind.u64.wrap (m2 * 131072)))))) (grown_drewN _ 1 (some b)))
  generalize bits .xor .u64 m2 (IntKind.u64.wrap (m2 * 131072)) = m3 at *
  have HB3' : Hid ((w2.setCell ⟨b, 2, none⟩ (.int .u64 m3)).drew.heap[b]? = some (.cells [.slice (some ⟨g, o, none⟩) n c, .int .i64 ((at' : Int) + 1), .int .u64 m3, .int .i64 size].toArray 114 (0, 0))) := HB3.out
  have G3' : Hid (w.grownBy (w2.setCell ⟨b, 2, none⟩ (.int .u64 m3)).drew (some b)) := G3.out
  generalize (w2.setCell ⟨b, 2, none⟩ (.int .u64 m3)).drew = w3 at *
  clear e2 f2 HB2' G2' HB3 G3 b2
  have e2 : w3.cell? ⟨b, 2, none⟩ = some (.int .u64 m3) := by rw [Lib.cell_of_heap HB3'.out]; rfl
  have hmb : IntKind.u64.wrap most = most := by rw [IntKind.wrap_u64]; omega
  have hmz : ¬ most = 0 := by omega
  go_wp2
  go_ret
  refine ⟨_, rfl, ?_, ?_, ⟨at' + 1, m3, size, hlt, b3.1, b3.2, hsz, HB3'.out⟩, G3'.out⟩
  · exact (wrap_mod _ (by omega) (by omega)).1
  · exact (wrap_mod _ (by omega) (by omega)).2
end Go.Proofs.YtimlnbfalnkmhaaGreatDoor
