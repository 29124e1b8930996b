/-
  Draws: what spec.l01Source answers: a contract over the seat's program.
-/
import Derived.Test.YtcjclioockjfhaaDoorSrcB
namespace Go.Proofs.YtcjclioockjfhaaDoor
open Go.RowKit

theorem wrap_bd (a : Int) : 0 ≤ IntKind.u64.wrap a ∧ IntKind.u64.wrap a ≤ 18446744073709551615 := by
  rw [IntKind.wrap_u64]
  omega
set_option maxHeartbeats 1000000 in
set_option maxRecDepth 100000 in
theorem source_any (V : Value) (n : Nat) (w : World) (h : Bs w V n) :
    Calls Tryd.prog 22 #[V] w fun e w' => ∃ b : Nat, e = .returned (.pointer (some ⟨b, 0, none⟩)) ∧ w.heap.size ≤ b ∧ Drw w' b V n ∧ Below w.heap.size w w' := by
  obtain ⟨a, c, rfl, hn, hbs⟩ := h
  have HBS := hid hbs
  clear hbs
  go_enter Tryd.func22, Tryd.ntmps22
  go_wp2
  go_loopw [4] (fun i wr => ∃ (k : Nat) (mix : Int), k ≤ n ∧ i = .int .i64 k ∧ 0 ≤ mix ∧ mix ≤ 18446744073709551615 ∧ wr.heap[w.heap.size]? = some (.cells [.slice a n c, .int .i64 0, .int .u64 mix, .int .i64 0].toArray 60 (0, 0)) ∧ Below w.heap.size w wr) (fun i _ => n - (intOf i).toNat)
  case atStart => exact ⟨0, 88172645463325252, Nat.zero_le _, rfl, by decide, by decide, heap_alloc_new w _, (Below.refl _ _).alloc (Nat.le_refl _) _⟩
  case round =>
    obtain ⟨k, mix, hk, rfl, hm0, hm1, hb, hbel⟩ := hrel
    have HB := hid hb
    by_cases hlt : k < n ∧ k < 64
    · obtain ⟨hl1, hl2⟩ := hlt
      obtain ⟨g, o, x, rfl, hg, hc, hx0, hx1⟩ := HBS.out k hl1
      have hc' : wr.cell? ⟨g, o + k, none⟩ = some (.int .u8 x) := by rw [hbel.cell (p := ⟨g, o + k, none⟩) hg]; exact hc
      have e2 : wr.cell? ⟨w.heap.size, 2, none⟩ = some (.int .u64 mix) := by rw [Lib.cell_of_heap hb]; rfl
      have f2 : wr.frozen? ⟨w.heap.size, 2, none⟩ = false := Lib.frozen_of_heap hb 2
      clear hb hc
      go_wp2
      go_region
      have bw := wrap_bd (bits .xor .u64 mix x * 1099511628211)
      generalize IntKind.u64.wrap (bits .xor .u64 mix x * 1099511628211) = m1 at *
      have HB1 : Hid ((wr.setCell ⟨w.heap.size, 2, none⟩ (.int .u64 m1)).drew.heap[w.heap.size]? = some (.cells [.slice (some ⟨g, o, none⟩) n c, .int .i64 0, .int .u64 m1, .int .i64 0].toArray 60 (0, 0))) := blk_set (i := 2) HB.out (.int .u64 m1)
      have hbel1 : Below w.heap.size w (wr.setCell ⟨w.heap.size, 2, none⟩ (.int .u64 m1)).drew := (hbel.setCell (p := ⟨w.heap.size, 2, none⟩) (Nat.le_refl _) _).drew
      generalize (wr.setCell ⟨w.heap.size, 2, none⟩ (.int .u64 m1)).drew = w1 at *
      clear hc' e2 f2 HB
      go_wp2
      go_roundw
      case rel => exact ⟨k + 1, m1, by omega, by go_num, bw.1, bw.2, HB1.out, hbel1⟩
      case measure => simp [intOf]; omega
    · have HFar : Hid (∀ g o c', Value.slice a n c = .slice (some ⟨g, o, none⟩) n c' → 0 < n → g < w.heap.size) := by
        show ∀ g o c', _
        intro g o c' e h0
        obtain ⟨g', o', x, e', hg, _⟩ := HBS.out 0 h0
        rw [e'] at e
        injection e with e1
        injection e1 with e1
        injection e1 with e1
        omega
      have hz : w.heap.size < wr.heap.size := lt_heap hb
      have e3 : wr.cell? ⟨w.heap.size, 3, none⟩ = some (.int .i64 0) := by rw [Lib.cell_of_heap hb]; rfl
      have f3 : wr.frozen? ⟨w.heap.size, 3, none⟩ = false := Lib.frozen_of_heap hb 3
      have fin : Hid (∀ (w' : World) (size : Int), w'.heap[w.heap.size]? = some (.cells [.slice a n c, .int .i64 0, .int .u64 mix, .int .i64 size].toArray 60 (0, 0)) → Below w.heap.size w w' → Drw w' w.heap.size (.slice a n c) n) := by
        show ∀ (w' : World) (size : Int), _
        intro w' size h1 h2
        refine ⟨⟨0, mix, size, Nat.zero_le _, hm0, hm1, h1⟩, ⟨a, c, rfl, hn, fun i hi => ?_⟩, HFar.out⟩
        obtain ⟨g, o, x, rfl, hg, hc, hx⟩ := HBS.out i hi
        exact ⟨g, o, x, rfl, Nat.lt_of_lt_of_le hg h2.size, by rw [h2.cell (p := ⟨g, o + i, none⟩) hg]; exact hc, hx⟩
      clear hb HFar
      have hor : n ≤ k ∨ (k < n ∧ 64 ≤ k) := by omega
      rcases hor with h1 | ⟨h1, h3⟩
      all_goals
        by_cases hbig : (12 : Int) < (n : Int) / 20
        · go_wp2
          go_ret
          refine ⟨w.heap.size, rfl, Nat.le_refl _, fin.out _ 12 (blk_set (i := 3) (blk_set (i := 3) HB.out _) _) ?_, ?_⟩
          all_goals exact (hbel.setCell (p := ⟨w.heap.size, 3, none⟩) (Nat.le_refl _) _).setCell (p := ⟨w.heap.size, 3, none⟩) (Nat.le_refl _) _
        · go_wp2
          go_ret
          refine ⟨w.heap.size, rfl, Nat.le_refl _, fin.out _ _ (blk_set (i := 3) HB.out _) ?_, ?_⟩
          all_goals exact hbel.setCell (p := ⟨w.heap.size, 3, none⟩) (Nat.le_refl _) _
end Go.Proofs.YtcjclioockjfhaaDoor
namespace Go.Proofs.YtcjclioockjfhaaDoor
open Go.RowKit

/-- From a source made in the call: all that was there is as it was. -/
theorem below_src {w w1 w2 : World} {b : Nat} (h1 : Below w.heap.size w w1) (hb : w.heap.size ≤ b) (h2 : w1.grownBy w2 (some b)) : Below w.heap.size w w2 :=
  ⟨h2.os.trans h1.os, h2.tape.trans h1.tape, h2.output.trans h1.output, Nat.le_trans h1.size h2.size, fun k hk => (h2.block k (Nat.lt_of_lt_of_le hk h1.size) (by simp; omega)).trans (h1.block k hk)⟩

end Go.Proofs.YtcjclioockjfhaaDoor
