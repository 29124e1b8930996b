/-
  What laws.szEventS answers: how much is left behind so many events and their texts: a contract over the seat's program.
-/
import Derived.Test.YticnffakngpkfaaEvAll
import Derived.Test.YticnffakngpkfaaEvLaw
namespace Go.Proofs.Yticnffakngpkfaa
open Go.RowKit

def sumE : List Ev → Nat
  | [] => 0
  | e :: r => e.step.size + e.val.size + sumE r
theorem sumE_append (a b : List Ev) : sumE (a ++ b) = sumE a + sumE b := by
  induction a with
  | nil => simp [sumE]
  | cons e r ih => simp [sumE, ih]; omega
theorem sumE_take {es : List Ev} {k : Nat} (h : k < es.length) : sumE (es.take (k + 1)) = sumE (es.take k) + (es[k].step.size + es[k].val.size) := by
  rw [List.take_succ_eq_append_getElem h, sumE_append]; simp [sumE]
theorem sumE_le (es : List Ev) (k : Nat) : sumE (es.take k) ≤ sumE es := by
  have := sumE_append (es.take k) (es.drop k)
  rw [List.take_append_drop] at this; omega

/-- What is left. -/
def szR (left : Int) (es : List Ev) : Int := if (es.length : Int) + (sumE es : Int) ≤ left then left - (es.length : Int) - (sumE es : Int) else -1
theorem szR_yes {left : Int} {es : List Ev} (h : (es.length : Int) + (sumE es : Int) ≤ left) : szR left es = left - (es.length : Int) - (sumE es : Int) := if_pos h
theorem szR_no {left : Int} {es : List Ev} (h : left < (es.length : Int) + (sumE es : Int)) : szR left es = -1 := if_neg (by omega)
set_option maxRecDepth 100000 in
theorem szEventS_row (g o c : Nat) (es : List Ev) (left : Int) (w : World) (hE : EvsAt w g o es) (hF : Fit es) (h0 : 0 ≤ left) (h1 : left ≤ 1048576) (hn : es.length ≤ maxLen) :
    Calls Try.prog 10 #[.slice (some ⟨g, o, none⟩) es.length c, .int .i64 left] w fun e w' =>
      e = .returned (.int .i64 (szR left es)) ∧ Below w.heap.size w w' := by
  unfold maxLen at hn
  by_cases hz : (es.length : Int) ≤ left
  · have HE := hid hE
    clear hE
    go_enter Try.func10, Try.ntmps10
    go_wp2
    go_loopw [1, 5] (fun l i wr => ∃ k : Nat, k ≤ es.length ∧ i = .int .i64 k ∧ l = .int .i64 (left - (es.length : Int) - (sumE (es.take k) : Int)) ∧ 0 ≤ left - (es.length : Int) - (sumE (es.take k) : Int) ∧ Below w.heap.size w wr) (fun _ i _ => es.length - (intOf i).toNat)
    case atStart => exact ⟨0, Nat.zero_le _, rfl, by simp [sumE], by simp [sumE]; omega, Below.refl _ _⟩
    case round =>
      obtain ⟨k, hk, rfl, rfl, hl, hbel⟩ := hrel
      by_cases hlt : k < es.length
      · have hA := (HE.out.stay hbel (Nat.le_refl _)).2 k hlt
        obtain ⟨c0, c1, c2, c3, c4, c5⟩ := hA
        have hst := hid (sumE_take hlt)
        have hf := hF k hlt
        generalize es[k].seq = q0 at *
        generalize es[k].time = q1 at *
        generalize es[k].run = q2 at *
        generalize es[k].kind = q3 at *
        generalize es[k].step = q4 at *
        generalize es[k].val = q5 at *
        generalize hL : left - (es.length : Int) - (sumE (es.take k) : Int) = L at *
        have HL := hid hL
        have cz := fun w => szEvent_any q0 q1 q2 q3 q4 q5 L w hl (by omega) hf.1 hf.2
        clear hL hf
        by_cases hzz : (q4.size : Int) + (q5.size : Int) ≤ L
        · rw [if_pos hzz] at cz
          have hL0 : (0 : Int) ≤ L - (q4.size : Int) - (q5.size : Int) := by omega
          have hL1 : left - (es.length : Int) - (sumE (es.take (k + 1)) : Int) = L - (q4.size : Int) - (q5.size : Int) := by have := hst.out; have := HL.out; omega
          have HL1 := hid hL1
          clear hzz hL1
          generalize L - (q4.size : Int) - (q5.size : Int) = L2 at *
          go_wp2_with fail
          refine (cz _).mono ?_
          rintro e w1 ⟨rfl, hb1⟩
          have hbel1 := hbel.trans (hb1.mono hbel.size)
          clear c0 c1 c2 c3 c4 c5 hb1 cz
          go_wp2
          go_roundw
          case rel => exact ⟨k + 1, by omega, by go_num, by rw [HL1.out], by rw [HL1.out]; exact hL0, hbel1⟩
          case measure => simp [intOf]; omega
        · rw [if_neg hzz] at cz
          have hfin : szR left es = -1 := szR_no (by have := hst.out; have := HL.out; have := sumE_le es (k + 1); omega)
          have HF := hid hfin
          clear hzz hfin
          go_wp2_with fail
          refine (cz _).mono ?_
          rintro e w1 ⟨rfl, hb1⟩
          have hbel1 := hbel.trans (hb1.mono hbel.size)
          clear c0 c1 c2 c3 c4 c5 hb1 cz
          go_wp2
          go_ret
          exact ⟨by rw [HF.out]; rfl, hbel1⟩
      · have hk' : k = es.length := by omega
        have hT : es.take k = es := List.take_of_length_le (by omega)
        rw [hT] at hl
        have HT := hid hT
        have hfin := szR_yes (left := left) (es := es) (by omega)
        have HF := hid hfin
        clear hk' hT hfin
        go_wp2
        go_ret
        exact ⟨ret_int (by rw [HF.out, HT.out]), hbel⟩
  · have hfin := szR_no (left := left) (es := es) (by omega)
    have HF := hid hfin
    clear hfin hE
    go_enter Try.func10, Try.ntmps10
    go_wp2
    go_ret
    exact ⟨by rw [HF.out]; rfl, Below.refl _ _⟩
theorem szEventS_none (a : Option Addr) (c : Nat) (left : Int) (w : World) (h0 : 0 ≤ left) (h1 : left ≤ 1048576) :
    Calls Try.prog 10 #[.slice a 0 c, .int .i64 left] w fun e w' => e = .returned (.int .i64 left) ∧ w' = w := by
  go_enter Try.func10, Try.ntmps10
  go_wp2
  go_loop [1, 5] (fun l i => l = .int .i64 left ∧ i = .int .i64 0) (fun _ _ => 0)
  case atStart => exact ⟨rfl, rfl⟩
  case round =>
    obtain ⟨rfl, rfl⟩ := hrel
    go_wp2
    go_ret
    exact ⟨rfl, rfl⟩
end Go.Proofs.Yticnffakngpkfaa
