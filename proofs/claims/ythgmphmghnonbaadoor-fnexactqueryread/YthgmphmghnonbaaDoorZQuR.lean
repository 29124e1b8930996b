/-
  Queries: what (*impl.reader).now, must, meets answer: contracts over the seat's program.
-/
import Derived.Test.YthgmphmghnonbaaDoorZQuM
import Derived.BigQuiet
import Derived.Deep.QuietTactic
namespace Go.Proofs.YthgmphmghnonbaaDoor
open Go.RowKit

theorem bel_drewN {B : Nat} {w w' : World} (h : Below B w w') (n : Nat) : Below B w (w'.drewN n) := ⟨h.os, h.tape, h.output, h.size, h.block⟩
abbrev errQ (a : Addr) : Value := .iface 79 (.pointer (some a))
structure RdI (w : World) (b : Nat) (sv : Value) (ws : List ByteArray) (k : Nat) (a : Addr) : Prop where
  hb : w.heap[b]? = some (.cells [sv, .int .i64 (k : Int)].toArray 39 (0, 0))
  hw : WdAt w b sv ws
  le : k ≤ ws.length
  er : w.cell? ⟨0, 0, none⟩ = some (errQ a)
  ge : 0 < b
  kn : KNames w
  gk : 1 < b
  sz : ∀ x ∈ ws, x.size ≤ 8000
  ln : ws.length ≤ 8001
theorem RdI.next {w w' : World} {b : Nat} {sv : Value} {ws : List ByteArray} {k k' : Nat} {a : Addr} (h : RdI w b sv ws k a) (hg : w.grownBy w' (some b)) (hb : w'.heap[b]? = some (.cells [sv, .int .i64 (k' : Int)].toArray 39 (0, 0))) (hk : k' ≤ ws.length) : RdI w' b sv ws k' a := by
  have hbl := lt_heap h.hb
  have g1 : ∀ o, w'.cell? ⟨0, o, none⟩ = w.cell? ⟨0, o, none⟩ := cell_blk (hg.block _ (Nat.lt_trans h.ge hbl) (fun e => by have := h.ge; have := Option.some.inj e; omega))
  have g2 : ∀ o, w'.cell? ⟨1, o, none⟩ = w.cell? ⟨1, o, none⟩ := cell_blk (hg.block _ (Nat.lt_trans h.gk hbl) (fun e => by have := h.gk; have := Option.some.inj e; omega))
  exact ⟨hb, h.hw.grown hg, hk, (g1 0).trans h.er, h.ge, ⟨(g2 0).trans h.kn.c0, (g2 1).trans h.kn.c1, (g2 2).trans h.kn.c2, (g2 3).trans h.kn.c3, (g2 4).trans h.kn.c4, (g2 5).trans h.kn.c5⟩, h.gk, h.sz, h.ln⟩
theorem RdI.below {w w' : World} {b : Nat} {sv : Value} {ws : List ByteArray} {k : Nat} {a : Addr} (h : RdI w b sv ws k a) (hg : Below w.heap.size w w') : RdI w' b sv ws k a :=
  h.next (grown_below hg) ((hg.block b (lt_heap h.hb)).trans h.hb) h.le
theorem RdI.word {w : World} {b : Nat} {sv : Value} {ws : List ByteArray} {k : Nat} {a : Addr} (h : RdI w b sv ws k a) : (nw ws k).size ≤ 8000 := by
  rcases Nat.lt_or_ge k ws.length with h' | h'
  · rw [nw_in h']; exact h.sz _ (List.getElem_mem h')
  · rw [nw_out h']; decide

set_option maxRecDepth 100000 in
theorem now_any {b k : Nat} {sv : Value} {ws : List ByteArray} {a : Addr} (w : World) (h : RdI w b sv ws k a) :
    Calls Tryd.prog 42 #[.pointer (some ⟨b, 0, none⟩)] w fun e w' => e = .returned (.string (nw ws k)) ∧ Below w.heap.size w w' := by
  obtain ⟨a', c, rfl, hc⟩ := h.hw
  have e0 : w.cell? ⟨b, 0, none⟩ = some (.slice a' ws.length c) := by rw [Lib.cell_of_heap h.hb]; rfl
  have e1 : w.cell? ⟨b, 1, none⟩ = some (.int .i64 (k : Int)) := by rw [Lib.cell_of_heap h.hb]; rfl
  have hle := h.le
  by_cases hk : k < ws.length
  · obtain ⟨g, o, rfl, _, _, hx⟩ := hc k hk
    have hn := hid (nw_in hk)
    have zz : (k : Int) < (ws.length : Int) := by omega
    have z0 : ((k : Int) == (ws.length : Int)) = false := by rw [beq_eq_false_iff_ne]; omega
    generalize ws[k] = S at *
    clear hc h
    go_enter Tryd.func42, Tryd.ntmps42
    go_wp2
    go_quiet (fail)
    go_wp2
    go_quiet (fail)
    go_wp2
    go_ret
    exact ⟨ret_str hn.out.symm, bel_drewN (bel_drewN (Below.refl _ _) _) _⟩
  · obtain rfl : k = ws.length := by omega
    have hn := hid (nw_out (Nat.le_refl ws.length))
    have z0 : ((ws.length : Int) == (ws.length : Int)) = true := by simp
    clear hc h
    go_enter Tryd.func42, Tryd.ntmps42
    go_wp2
    go_quiet (fail)
    go_wp2
    go_ret
    exact ⟨ret_str hn.out.symm, bel_drewN (Below.refl _ _) _⟩
theorem must_yes (b : Nat) (w : World) :
    Calls Tryd.prog 28 #[.pointer (some ⟨b, 0, none⟩), .bool true] w fun e w' => e = .returned (.tuple #[]) ∧ w' = w := by
  go_enter Tryd.func28, Tryd.ntmps28
  go_wp2
  go_end0
  exact ⟨rfl, rfl⟩
theorem must_no {a : Addr} (b : Nat) (w : World) (h : w.cell? ⟨0, 0, none⟩ = some (errQ a)) :
    Calls Tryd.prog 28 #[.pointer (some ⟨b, 0, none⟩), .bool false] w fun e w' => e = .panicked [{ v := errQ a, recovered := false }] ∧ w' = w := by
  go_enter Tryd.func28, Tryd.ntmps28
  go_wp2
  exact ⟨rfl, rfl, rfl⟩
theorem RdI.step {w : World} {b : Nat} {sv : Value} {ws : List ByteArray} {k : Nat} {a : Addr} (h : RdI w b sv ws k a) (hk : k < ws.length) : RdI (w.setCell ⟨b, 1, none⟩ (.int .i64 ((k : Int) + 1))) b sv ws (k + 1) a ∧ w.grownBy (w.setCell ⟨b, 1, none⟩ (.int .i64 ((k : Int) + 1))) (some b) :=
  ⟨h.next (grown_set w b 1 _) (by have := blk_set (i := 1) h.hb (.int .i64 ((k : Int) + 1)); simpa using this) (by omega), grown_set w b 1 _⟩
set_option maxRecDepth 100000 in
theorem meets_yes {b k : Nat} {sv : Value} {ws : List ByteArray} {a : Addr} (t : ByteArray) (w : World) (h : RdI w b sv ws k a) (hk : k < ws.length) (ht : nw ws k = t) :
    Calls Tryd.prog 27 #[.pointer (some ⟨b, 0, none⟩), .string t] w fun e w' => e = .returned (.bool true) ∧ RdI w' b sv ws (k + 1) a ∧ w.grownBy w' (some b) := by
  have c1 := now_any w h
  have hq : (t.toList == t.toList) = true := by simp
  rw [ht] at c1
  have H := hid h
  have hl := h.ln
  clear h
  go_enter Tryd.func27, Tryd.ntmps27
  go_wp2_with (go_at_call 42; refine c1.mono ?_; rintro e w1 ⟨rfl, hb⟩; have h1 := hid (H.out.below hb); have hs := hid (h1.out.step hk); have hg := hid (grown_trans (grown_below hb) hs.out.2); have e1 : w1.cell? ⟨b, 1, none⟩ = some (.int .i64 (k : Int)) := (by rw [Lib.cell_of_heap h1.out.hb]; rfl); have f1 : w1.frozen? ⟨b, 1, none⟩ = false := Lib.frozen_of_heap h1.out.hb 1; clear hb)
  go_ret
  exact ⟨rfl, hs.out.1, hg.out⟩
theorem meets_no {b k : Nat} {sv : Value} {ws : List ByteArray} {a : Addr} (t : ByteArray) (w : World) (h : RdI w b sv ws k a) (ht : nw ws k ≠ t) :
    Calls Tryd.prog 27 #[.pointer (some ⟨b, 0, none⟩), .string t] w fun e w' => e = .returned (.bool false) ∧ RdI w' b sv ws k a ∧ w.grownBy w' (some b) := by
  have c1 := now_any w h
  have hq : ((nw ws k).toList == t.toList) = false := str_ne ht
  clear ht
  generalize nw ws k = S at *
  have H := hid h
  clear h
  go_enter Tryd.func27, Tryd.ntmps27
  go_wp2_with (go_at_call 42; refine c1.mono ?_; rintro e w1 ⟨rfl, hb⟩)
  go_ret
  exact ⟨rfl, H.out.below hb, grown_below hb⟩
end Go.Proofs.YthgmphmghnonbaaDoor
