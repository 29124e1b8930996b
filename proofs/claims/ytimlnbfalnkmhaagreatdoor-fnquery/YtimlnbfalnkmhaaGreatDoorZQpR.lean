/-
  Queries: what (*spec.l05Reader).word, need, is answer: contracts over the seat's program.
-/
import Derived.Test.YtimlnbfalnkmhaaGreatDoorZMark4
import Derived.Test.YtimlnbfalnkmhaaGreatDoorZQuI3
import Derived.BigQuiet
import Derived.Deep.QuietTactic
namespace Go.Proofs.YtimlnbfalnkmhaaGreatDoor
open Go.RowKit

/-- A reader of the specification's in memory. -/
structure RdS (w : World) (b : Nat) (sv : Value) (ws : List ByteArray) (k : Nat) (bad : Bool) : Prop where
  hb : w.heap[b]? = some (.cells [sv, .int .i64 (k : Int), .bool bad].toArray 82 (0, 0))
  hw : WdAt w b sv ws
  le : k ≤ ws.length
  sz : ∀ x ∈ ws, x.size ≤ 8000
  ln : ws.length ≤ 8001
theorem RdS.next {w w' : World} {b : Nat} {sv : Value} {ws : List ByteArray} {k k' : Nat} {bad bad' : Bool} (h : RdS w b sv ws k bad) (hg : w.grownBy w' (some b)) (hb : w'.heap[b]? = some (.cells [sv, .int .i64 (k' : Int), .bool bad'].toArray 82 (0, 0))) (hk : k' ≤ ws.length) : RdS w' b sv ws k' bad' :=
  ⟨hb, h.hw.grown hg, hk, h.sz, h.ln⟩
theorem RdS.below {w w' : World} {b : Nat} {sv : Value} {ws : List ByteArray} {k : Nat} {bad : Bool} (h : RdS w b sv ws k bad) (hg : Below w.heap.size w w') : RdS w' b sv ws k bad :=
  h.next (grown_below hg) ((hg.block b (lt_heap h.hb)).trans h.hb) h.le
theorem RdS.word {w : World} {b : Nat} {sv : Value} {ws : List ByteArray} {k : Nat} {bad : Bool} (h : RdS w b sv ws k bad) (j : Nat) : (nw ws j).size ≤ 8000 := by
  rcases Nat.lt_or_ge j ws.length with h' | h'
  · rw [nw_in h']; exact h.sz _ (List.getElem_mem h')
  · rw [nw_out h']; decide
theorem RdS.turn {w : World} {b : Nat} {sv : Value} {ws : List ByteArray} {k : Nat} {bad : Bool} (h : RdS w b sv ws k bad) : RdS (w.setCell ⟨b, 2, none⟩ (.bool true)) b sv ws k true ∧ w.grownBy (w.setCell ⟨b, 2, none⟩ (.bool true)) (some b) :=
  ⟨h.next (grown_set w b 2 _) (by have := blk_set (i := 2) h.hb (.bool true); simpa using this) h.le, grown_set w b 2 _⟩
theorem RdS.move {w : World} {b : Nat} {sv : Value} {ws : List ByteArray} {k k' : Nat} {bad : Bool} (h : RdS w b sv ws k bad) (hk : k' ≤ ws.length) : RdS (w.setCell ⟨b, 1, none⟩ (.int .i64 (k' : Int))) b sv ws k' bad ∧ w.grownBy (w.setCell ⟨b, 1, none⟩ (.int .i64 (k' : Int))) (some b) :=
  ⟨h.next (grown_set w b 1 _) (by have := blk_set (i := 1) h.hb (.int .i64 (k' : Int)); simpa using this) hk, grown_set w b 1 _⟩
theorem bel_drewS {B : Nat} {w w' : World} (h : Below B w w') (n : Nat) : Below B w (w'.drewN n) := ⟨h.os, h.tape, h.output, h.size, h.block⟩
theorem RdS.drewN {w : World} {b : Nat} {sv : Value} {ws : List ByteArray} {k : Nat} {bad : Bool} (h : RdS w b sv ws k bad) (n : Nat) : RdS (w.drewN n) b sv ws k bad := h.below (bel_drewS (Below.refl _ _) n)

set_option maxRecDepth 100000 in
set_option maxHeartbeats 1000000 in
theorem word_bad {b k : Nat} {sv : Value} {ws : List ByteArray} (w : World) (h : RdS w b sv ws k true) :
    Calls Tryz.prog 100 #[.pointer (some ⟨b, 0, none⟩)] w fun e w' => e = .returned (.string ⟨#[]⟩) ∧ RdS w' b sv ws k true ∧ w.grownBy w' (some b) := by
  have e2 : w.cell? ⟨b, 2, none⟩ = some (.bool true) := by rw [Lib.cell_of_heap h.hb]; rfl
  have f2 : w.frozen? ⟨b, 2, none⟩ = false := Lib.frozen_of_heap h.hb 2
  have H := hid h
  clear h
  go_enter Tryz.func100, Tryz.ntmps100
  go_wp2
  go_quiet (fail)
  go_wp2
  go_ret
  exact ⟨rfl, (H.out.drewN nq).turn.1, grown_trans (grown_drewN w nq (some b)) (H.out.drewN nq).turn.2⟩
set_option maxRecDepth 100000 in
set_option maxHeartbeats 1000000 in
theorem word_end {b k : Nat} {sv : Value} {ws : List ByteArray} (w : World) (h : RdS w b sv ws k false) (hk : ws.length ≤ k) :
    Calls Tryz.prog 100 #[.pointer (some ⟨b, 0, none⟩)] w fun e w' => e = .returned (.string ⟨#[]⟩) ∧ RdS w' b sv ws k true ∧ w.grownBy w' (some b) := by
  obtain ⟨a, c, rfl, hc⟩ := h.hw
  have e0 : w.cell? ⟨b, 0, none⟩ = some (.slice a ws.length c) := by rw [Lib.cell_of_heap h.hb]; rfl
  have e1 : w.cell? ⟨b, 1, none⟩ = some (.int .i64 (k : Int)) := by rw [Lib.cell_of_heap h.hb]; rfl
  have e2 : w.cell? ⟨b, 2, none⟩ = some (.bool false) := by rw [Lib.cell_of_heap h.hb]; rfl
  have f2 : w.frozen? ⟨b, 2, none⟩ = false := Lib.frozen_of_heap h.hb 2
  have zz : (ws.length : Int) ≤ (k : Int) := by omega
  have z0 : decide ((ws.length : Int) ≤ (k : Int)) = true := decide_eq_true zz
  have H := hid h
  clear h hc
  go_enter Tryz.func100, Tryz.ntmps100
  go_wp2
  go_quiet (fail)
  go_wp2
  go_ret
  exact ⟨rfl, (H.out.drewN nq).turn.1, grown_trans (grown_drewN w nq (some b)) (H.out.drewN nq).turn.2⟩
set_option maxRecDepth 100000 in
set_option maxHeartbeats 1000000 in
theorem word_in {b k : Nat} {sv : Value} {ws : List ByteArray} (w : World) (h : RdS w b sv ws k false) (hk : k < ws.length) :
    Calls Tryz.prog 100 #[.pointer (some ⟨b, 0, none⟩)] w fun e w' => e = .returned (.string (nw ws k)) ∧ RdS w' b sv ws (k + 1) false ∧ w.grownBy w' (some b) := by
  obtain ⟨a, c, rfl, hc⟩ := h.hw
  have e0 : w.cell? ⟨b, 0, none⟩ = some (.slice a ws.length c) := by rw [Lib.cell_of_heap h.hb]; rfl
  have e1 : w.cell? ⟨b, 1, none⟩ = some (.int .i64 (k : Int)) := by rw [Lib.cell_of_heap h.hb]; rfl
  have e2 : w.cell? ⟨b, 2, none⟩ = some (.bool false) := by rw [Lib.cell_of_heap h.hb]; rfl
  have f1 : w.frozen? ⟨b, 1, none⟩ = false := Lib.frozen_of_heap h.hb 1
  obtain ⟨g, o, rfl, hne, _, hx⟩ := hc k hk
  have zz : (k : Int) < (ws.length : Int) := by omega
  have z0 : decide ((ws.length : Int) ≤ (k : Int)) = false := decide_eq_false (by omega)
  have hn := hid (nw_in hk)
  have hgb : ¬ b = g := fun e => hne e.symm
  have hln := h.ln
  generalize ws[k] = S at *
  have H := hid h
  clear h hc
  go_enter Tryz.func100, Tryz.ntmps100
  go_wp2
  go_quiet (fail)
  go_wp2
  have M : Hid (RdS ((w.drewN nq).setCell ⟨b, 1, none⟩ (.int .i64 ((k : Int) + 1))) b (.slice (some ⟨g, o, none⟩) ws.length c) ws (k + 1) false ∧ (w.drewN nq).grownBy ((w.drewN nq).setCell ⟨b, 1, none⟩ (.int .i64 ((k : Int) + 1))) (some b)) := hid (by have := (H.out.drewN nq).move (k' := k + 1) (by omega); push_cast at this; exact this)
  have M2 := hid (grown_trans (grown_drewN w nq (some b)) M.out.2)
  have e0 : ((w.drewN nq).setCell ⟨b, 1, none⟩ (.int .i64 ((k : Int) + 1))).cell? ⟨b, 0, none⟩ = some (.slice (some ⟨g, o, none⟩) ws.length c) := by rw [World.cell?_setCell_other _ _ _ _ (by simp)]; exact e0
  go_quiet (fail)
  go_wp2
  go_ret
  exact ⟨ret_str hn.out.symm, M.out.1.drewN nq, grown_trans M2.out (grown_drewN _ nq (some b))⟩
/-- Where a reader stands behind a word, and whether it was there. -/
def jn (ws : List ByteArray) (k : Nat) : Nat := if k < ws.length then k + 1 else k
def bn (ws : List ByteArray) (k : Nat) : Bool := decide (ws.length ≤ k)
theorem jn_in {ws : List ByteArray} {k : Nat} (h : k < ws.length) : jn ws k = k + 1 ∧ bn ws k = false := ⟨if_pos h, decide_eq_false (by omega)⟩
theorem jn_out {ws : List ByteArray} {k : Nat} (h : ws.length ≤ k) : jn ws k = k ∧ bn ws k = true := ⟨if_neg (by omega), decide_eq_true h⟩
theorem word_any {b k : Nat} {sv : Value} {ws : List ByteArray} (w : World) (h : RdS w b sv ws k false) :
    Calls Tryz.prog 100 #[.pointer (some ⟨b, 0, none⟩)] w fun e w' => e = .returned (.string (nw ws k)) ∧ RdS w' b sv ws (jn ws k) (bn ws k) ∧ w.grownBy w' (some b) := by
  rcases Nat.lt_or_ge k ws.length with hk | hk
  · rw [(jn_in hk).1, (jn_in hk).2]; exact word_in w h hk
  · rw [(jn_out hk).1, (jn_out hk).2, nw_out hk]; exact word_end w h hk
theorem need_yes {b k : Nat} {sv : Value} {ws : List ByteArray} {bad : Bool} (w : World) (h : RdS w b sv ws k bad) :
    Calls Tryz.prog 101 #[.pointer (some ⟨b, 0, none⟩), .bool true] w fun e w' => e = .returned (.tuple #[]) ∧ w' = w := by
  have e2 : w.cell? ⟨b, 2, none⟩ = some (.bool bad) := by rw [Lib.cell_of_heap h.hb]; rfl
  clear h
  cases bad
  all_goals (
    go_enter Tryz.func101, Tryz.ntmps101
    go_wp2
    go_end0
    exact ⟨rfl, rfl⟩)
theorem need_bad {b k : Nat} {sv : Value} {ws : List ByteArray} (c : Bool) (w : World) (h : RdS w b sv ws k true) :
    Calls Tryz.prog 101 #[.pointer (some ⟨b, 0, none⟩), .bool c] w fun e w' => e = .returned (.tuple #[]) ∧ w' = w := by
  have e2 : w.cell? ⟨b, 2, none⟩ = some (.bool true) := by rw [Lib.cell_of_heap h.hb]; rfl
  clear h
  go_enter Tryz.func101, Tryz.ntmps101
  go_wp2
  go_end0
  exact ⟨rfl, rfl⟩
theorem need_no {b k : Nat} {sv : Value} {ws : List ByteArray} (w : World) (h : RdS w b sv ws (k + 1) false) :
    Calls Tryz.prog 101 #[.pointer (some ⟨b, 0, none⟩), .bool false] w fun e w' => e = .returned (.tuple #[]) ∧ RdS w' b sv ws k true ∧ w.grownBy w' (some b) := by
  have e1 : w.cell? ⟨b, 1, none⟩ = some (.int .i64 ((k + 1 : Nat) : Int)) := by rw [Lib.cell_of_heap h.hb]; rfl
  have e2 : w.cell? ⟨b, 2, none⟩ = some (.bool false) := by rw [Lib.cell_of_heap h.hb]; rfl
  have f1 : w.frozen? ⟨b, 1, none⟩ = false := Lib.frozen_of_heap h.hb 1
  have f2 : w.frozen? ⟨b, 2, none⟩ = false := Lib.frozen_of_heap h.hb 2
  have hle := h.le
  have hln := h.ln
  have M1 := hid h.turn
  have M2 := hid (M1.out.1.move (k' := k) (by omega))
  have G := hid (grown_trans M1.out.2 M2.out.2)
  clear h
  go_enter Tryz.func101, Tryz.ntmps101
  go_wp2
  go_end0
  exact ⟨rfl, M2.out.1, G.out⟩
theorem need_f {b k : Nat} {sv : Value} {ws : List ByteArray} (w : World) (h : RdS w b sv ws (jn ws k) (bn ws k)) :
    Calls Tryz.prog 101 #[.pointer (some ⟨b, 0, none⟩), .bool false] w fun e w' => e = .returned (.tuple #[]) ∧ RdS w' b sv ws k true ∧ w.grownBy w' (some b) := by
  rcases Nat.lt_or_ge k ws.length with hk | hk
  · rw [(jn_in hk).1, (jn_in hk).2] at h; exact need_no w h
  · rw [(jn_out hk).1, (jn_out hk).2] at h
    refine (need_bad false w h).mono ?_
    rintro e w' ⟨rfl, rfl⟩
    exact ⟨rfl, h, World.grownBy.refl _ _⟩
set_option maxRecDepth 100000 in
set_option maxHeartbeats 2000000 in
theorem is_bad {b k : Nat} {sv : Value} {ws : List ByteArray} (t : ByteArray) (w : World) (h : RdS w b sv ws k true) :
    Calls Tryz.prog 102 #[.pointer (some ⟨b, 0, none⟩), .string t] w fun e w' => e = .returned (.bool false) ∧ RdS w' b sv ws k true ∧ w.grownBy w' (some b) := by
  have e2 : w.cell? ⟨b, 2, none⟩ = some (.bool true) := by rw [Lib.cell_of_heap h.hb]; rfl
  have H := hid h
  clear h
  go_enter Tryz.func102, Tryz.ntmps102
  go_wp2
  go_quiet (fail)
  go_wp2
  go_ret
  exact ⟨rfl, H.out.drewN nq, grown_drewN w nq (some b)⟩
set_option maxRecDepth 100000 in
set_option maxHeartbeats 2000000 in
theorem is_yes {b k : Nat} {sv : Value} {ws : List ByteArray} (t : ByteArray) (w : World) (h : RdS w b sv ws k false) (hk : k < ws.length) (ht : nw ws k = t) :
    Calls Tryz.prog 102 #[.pointer (some ⟨b, 0, none⟩), .string t] w fun e w' => e = .returned (.bool true) ∧ RdS w' b sv ws (k + 1) false ∧ w.grownBy w' (some b) := by
  obtain ⟨a, c, rfl, hc⟩ := h.hw
  have e0 : w.cell? ⟨b, 0, none⟩ = some (.slice a ws.length c) := by rw [Lib.cell_of_heap h.hb]; rfl
  have e1 : w.cell? ⟨b, 1, none⟩ = some (.int .i64 (k : Int)) := by rw [Lib.cell_of_heap h.hb]; rfl
  have e2 : w.cell? ⟨b, 2, none⟩ = some (.bool false) := by rw [Lib.cell_of_heap h.hb]; rfl
  have f1 : w.frozen? ⟨b, 1, none⟩ = false := Lib.frozen_of_heap h.hb 1
  obtain ⟨g, o, rfl, hne, _, hx⟩ := hc k hk
  have zz : (k : Int) < (ws.length : Int) := by omega
  have hq : (t.toList == t.toList) = true := by simp
  rw [← nw_in hk, ht] at hx
  have hln := h.ln
  have H := hid h
  clear h hc ht
  go_enter Tryz.func102, Tryz.ntmps102
  go_wp2
  go_quiet (fail)
  have M : Hid (RdS ((w.drewN nq).setCell ⟨b, 1, none⟩ (.int .i64 ((k : Int) + 1))) b (.slice (some ⟨g, o, none⟩) ws.length c) ws (k + 1) false ∧ (w.drewN nq).grownBy ((w.drewN nq).setCell ⟨b, 1, none⟩ (.int .i64 ((k : Int) + 1))) (some b)) := hid (by have := (H.out.drewN nq).move (k' := k + 1) (by omega); push_cast at this; exact this)
  have M2 := hid (grown_trans (grown_drewN w nq (some b)) M.out.2)
  go_wp2
  go_ret
  exact ⟨rfl, M.out.1, M2.out⟩
set_option maxRecDepth 100000 in
set_option maxHeartbeats 2000000 in
theorem is_no {b k : Nat} {sv : Value} {ws : List ByteArray} (t : ByteArray) (w : World) (h : RdS w b sv ws k false) (ht : nw ws k ≠ t) :
    Calls Tryz.prog 102 #[.pointer (some ⟨b, 0, none⟩), .string t] w fun e w' => e = .returned (.bool false) ∧ RdS w' b sv ws k false ∧ w.grownBy w' (some b) := by
  obtain ⟨a, c, rfl, hc⟩ := h.hw
  have e0 : w.cell? ⟨b, 0, none⟩ = some (.slice a ws.length c) := by rw [Lib.cell_of_heap h.hb]; rfl
  have e1 : w.cell? ⟨b, 1, none⟩ = some (.int .i64 (k : Int)) := by rw [Lib.cell_of_heap h.hb]; rfl
  have e2 : w.cell? ⟨b, 2, none⟩ = some (.bool false) := by rw [Lib.cell_of_heap h.hb]; rfl
  have H := hid h
  rcases Nat.lt_or_ge k ws.length with hk | hk
  · obtain ⟨g, o, rfl, hne, _, hx⟩ := hc k hk
    have zz : (k : Int) < (ws.length : Int) := by omega
    rw [← nw_in hk] at hx
    have hq : ((nw ws k).toList == t.toList) = false := str_ne ht
    generalize nw ws k = S at *
    clear h hc ht
    go_enter Tryz.func102, Tryz.ntmps102
    go_wp2
    go_quiet (fail)
    go_wp2
    go_ret
    exact ⟨rfl, H.out.drewN nq, grown_drewN w nq (some b)⟩
  · have zz : ¬ (k : Int) < (ws.length : Int) := by omega
    have z0 : decide ((k : Int) < (ws.length : Int)) = false := decide_eq_false zz
    have z1 : decide (k < ws.length) = false := decide_eq_false (by omega)
    clear zz
    clear h hc ht
    go_enter Tryz.func102, Tryz.ntmps102
    go_wp2
    go_quiet (fail)
    go_wp2
    go_ret
    exact ⟨rfl, H.out.drewN nq, grown_drewN w nq (some b)⟩
end Go.Proofs.YtimlnbfalnkmhaaGreatDoor
