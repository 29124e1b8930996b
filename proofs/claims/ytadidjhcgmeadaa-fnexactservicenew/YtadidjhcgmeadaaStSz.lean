/-
  What laws.szStringS answers: how much is left behind so many texts: a contract over the seat's program.
-/
import Derived.Test.YtadidjhcgmeadaaStrs
namespace Go.Proofs.Ytadidjhcgmeadaa
open Go.RowKit

def sumS : List ByteArray → Nat
  | [] => 0
  | s :: r => s.size + sumS r
theorem sumS_append (a b : List ByteArray) : sumS (a ++ b) = sumS a + sumS b := by
  induction a with
  | nil => simp [sumS]
  | cons e r ih => simp [sumS, ih]; omega
theorem sumS_take {ss : List ByteArray} {k : Nat} (h : k < ss.length) : sumS (ss.take (k + 1)) = sumS (ss.take k) + ss[k].size := by
  rw [List.take_succ_eq_append_getElem h, sumS_append]; simp [sumS]
theorem sumS_le (ss : List ByteArray) (k : Nat) : sumS (ss.take k) ≤ sumS ss := by
  have := sumS_append (ss.take k) (ss.drop k)
  rw [List.take_append_drop] at this; omega
def FitS (ss : List ByteArray) : Prop := ∀ i, (h : i < ss.length) → ss[i].size ≤ maxLen

/-- What is left. -/
def szL (left : Int) (ss : List ByteArray) : Int := if (ss.length : Int) + (sumS ss : Int) ≤ left then left - (ss.length : Int) - (sumS ss : Int) else -1
theorem szL_yes {left : Int} {ss : List ByteArray} (h : (ss.length : Int) + (sumS ss : Int) ≤ left) : szL left ss = left - (ss.length : Int) - (sumS ss : Int) := if_pos h
theorem szL_no {left : Int} {ss : List ByteArray} (h : left < (ss.length : Int) + (sumS ss : Int)) : szL left ss = -1 := if_neg (by omega)
set_option maxRecDepth 100000 in
theorem szStringS_row (g o c : Nat) (ss : List ByteArray) (left : Int) (w : World) (hE : StrsAt w g o ss) (hF : FitS ss) (h0 : 0 ≤ left) (h1 : left ≤ 1048576) (hn : ss.length ≤ maxLen) :
    Calls Try.prog 13 #[.slice (some ⟨g, o, none⟩) ss.length c, .int .i64 left] w fun e w' =>
      e = .returned (.int .i64 (szL left ss)) ∧ Below w.heap.size w w' := by
  unfold maxLen at hn
  by_cases hz : (ss.length : Int) ≤ left
  · have HE := hid hE
    clear hE
    go_enter Try.func13, Try.ntmps13
    go_wp2
    go_loopw [1, 5] (fun l i wr => ∃ k : Nat, k ≤ ss.length ∧ i = .int .i64 k ∧ l = .int .i64 (left - (ss.length : Int) - (sumS (ss.take k) : Int)) ∧ 0 ≤ left - (ss.length : Int) - (sumS (ss.take k) : Int) ∧ Below w.heap.size w wr) (fun _ i _ => ss.length - (intOf i).toNat)
    case atStart => exact ⟨0, Nat.zero_le _, rfl, by simp [sumS], by simp [sumS]; omega, Below.refl _ _⟩
    case round =>
      obtain ⟨k, hk, rfl, rfl, hl, hbel⟩ := hrel
      by_cases hlt : k < ss.length
      · have c0 := (HE.out.stay hbel (Nat.le_refl _)).2 k hlt
        have hst := hid (sumS_take hlt)
        have hf := hF k hlt
        unfold maxLen at hf
        generalize ss[k] = q0 at *
        generalize hL : left - (ss.length : Int) - (sumS (ss.take k) : Int) = L at *
        have HL := hid hL
        have hL9 : L ≤ 1048576 := by omega
        clear hL
        by_cases hzz : (q0.size : Int) ≤ L
        · have hL1 : left - (ss.length : Int) - (sumS (ss.take (k + 1)) : Int) = L - (q0.size : Int) := by have := hst.out; have := HL.out; omega
          have HL1 := hid hL1
          clear hL1
          go_wp2
          go_roundw
          case rel => exact ⟨k + 1, by omega, by go_num, by rw [HL1.out], by rw [HL1.out]; omega, hbel⟩
          case measure => simp [intOf]; omega
        · have hfin : szL left ss = -1 := szL_no (by have := hst.out; have := HL.out; have := sumS_le ss (k + 1); omega)
          have HF := hid hfin
          clear hfin
          go_wp2
          go_ret
          exact ⟨by rw [HF.out]; rfl, hbel⟩
      · have hk' : k = ss.length := by omega
        have hT : ss.take k = ss := List.take_of_length_le (by omega)
        rw [hT] at hl
        have HT := hid hT
        have hfin := szL_yes (left := left) (ss := ss) (by omega)
        have HF := hid hfin
        clear hk' hT hfin
        go_wp2
        go_ret
        exact ⟨ret_int (by rw [HF.out, HT.out]), hbel⟩
  · have hfin := szL_no (left := left) (ss := ss) (by omega)
    have HF := hid hfin
    clear hfin hE
    go_enter Try.func13, Try.ntmps13
    go_wp2
    go_ret
    exact ⟨by rw [HF.out]; rfl, Below.refl _ _⟩
theorem szStringS_none (a : Option Addr) (c : Nat) (left : Int) (w : World) (h0 : 0 ≤ left) (h1 : left ≤ 1048576) :
    Calls Try.prog 13 #[.slice a 0 c, .int .i64 left] w fun e w' => e = .returned (.int .i64 left) ∧ w' = w := by
  go_enter Try.func13, Try.ntmps13
  go_wp2
  go_loop [1, 5] (fun l i => l = .int .i64 left ∧ i = .int .i64 0) (fun _ _ => 0)
  case atStart => exact ⟨rfl, rfl⟩
  case round =>
    obtain ⟨rfl, rfl⟩ := hrel
    go_wp2
    go_ret
    exact ⟨rfl, rfl⟩
theorem szStringS_any (v : Value) (ss : List ByteArray) (left : Int) (w : World) (h : StrSl w v ss) (hF : FitS ss) (h0 : 0 ≤ left) (h1 : left ≤ 1048576) (hn : ss.length ≤ maxLen) :
    Calls Try.prog 13 #[v, .int .i64 left] w fun e w' => e = .returned (.int .i64 (szL left ss)) ∧ Below w.heap.size w w' := by
  rcases h with ⟨a, c, rfl, rfl⟩ | ⟨g, o, c, rfl, _, h⟩
  · refine (szStringS_none a c left w h0 h1).mono ?_
    rintro e w' ⟨rfl, rfl⟩
    exact ⟨ret_int (by rw [szL_yes (by simp [sumS]; omega)]; simp [sumS]), Below.refl _ _⟩
  · exact szStringS_row g o c ss left w h hF h0 h1 hn
end Go.Proofs.Ytadidjhcgmeadaa
