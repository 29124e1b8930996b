/-
  What laws.markDef does: a contract over the seat's program.
-/
import Derived.Test.YtadidjhcgmeadaaMkF
import Derived.Test.YtadidjhcgmeadaaOwnC
import Derived.Test.YtadidjhcgmeadaaDfLaw
namespace Go.Proofs.Ytadidjhcgmeadaa
open Go.RowKit Go.Sort

theorem Chg.of_row {p : Nat → Prop} {w w' : World} {r : Option Nat} (h : w.grownBy w' r) (hp : ∀ j, r = some j → p j) : Chg p w w' := ⟨h.os, h.tape, h.output, h.size, fun k hk hq => h.block k hk (fun e => hq (hp k e.symm))⟩
set_option maxRecDepth 100000 in
set_option maxHeartbeats 2000000 in
theorem markDef_own (lo n1 n2 : Nat) (K : Int) (u1 u2 : Value) (xs ys : List Value) (w : World) (o1 : w.ownsRow lo 9 1 u1 n1 xs) (o2 : w.ownsRow lo 57 2 u2 n2 ys) (hK : 0 < K) (hn : K + (n1 : Int) + 2 * (n2 : Int) ≤ 1000000000) :
    Calls Try.prog 10 #[.agg #[u1, u2], .int .i64 K] w fun e w' => e = .returned (.int .i64 (K + (n1 : Int) + 2 * (n2 : Int))) ∧ Chg (fun j => u1.ownBlock = some j ∨ u2.ownBlock = some j) w w' := by
  obtain ⟨a1, k1, rfl⟩ := ownB_form o1
  obtain ⟨a2, k2, rfl⟩ := ownB_form o2
  have hb : Below w.heap.size w (w.alloc (.cells #[.slice a1 n1 k1, .slice a2 n2 k2] 29)) := (Below.refl _ _).alloc (Nat.le_refl _) _
  have H1 := hid o1
  have O2 := hid (ownB_stay o2 hb)
  have hne : ¬ (Value.slice a1 n1 k1).ownBlock = some w.heap.size := fun e => by have := (o1.lt _ e).2; omega
  have HA := hid (apart_ty o1 o2 (by decide))
  have cM := hid (markStringS_own _ n1 lo K xs _ (ownB_stay o1 hb) hK (by omega))
  have d1 : (w.alloc (.cells #[.slice a1 n1 k1, .slice a2 n2 k2] 29)).cell? ⟨w.heap.size, 1, none⟩ = some (.slice a2 n2 k2) := by simp [go_sem]
  have D1 := hid d1
  have HB := hid hb
  clear o1 o2 hb d1
  go_enter Try.func10, Try.ntmps10
  go_wp2_with fail
  refine cM.out.mono ?_
  generalize w.alloc (.cells #[.slice a1 n1 k1, .slice a2 n2 k2] 29) = W at *
  rintro e W1 ⟨rfl, _, hg1⟩
  have hC1 : Chg (fun j => (Value.slice a1 n1 k1).ownBlock = some j) W W1 := Chg.of_row hg1 (fun j h => h)
  have d1 := (hC1.cell (g := w.heap.size) (o := 1) (block_lt_of_cell D1.out) hne).trans D1.out
  have cN := hid (markFlowS_own _ n2 lo (K + (n1 : Int)) ys W1 (own_chg O2.out hC1 (fun g hg he => HA.out g he hg)) (by omega) (by omega))
  have HC1 := hid hC1
  clear hC1 hg1 cM
  go_wp2_with fail
  refine cN.out.mono ?_
  rintro e W2 ⟨rfl, _, hg2⟩
  have HC2 := hid (Chg.of_row (p := fun j => (Value.slice a2 n2 k2).ownBlock = some j) hg2 (fun j h => h))
  clear hg2 cN d1
  go_wp2
  go_ret
  exact ⟨rfl, ((Chg.of_below HB.out).trans (HC1.out.mono (fun j h => .inl h))).trans (HC2.out.mono (fun j h => .inr h))⟩
end Go.Proofs.Ytadidjhcgmeadaa
