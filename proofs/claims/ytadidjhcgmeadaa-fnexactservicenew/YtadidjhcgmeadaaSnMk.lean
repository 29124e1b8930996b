/-
  What laws.markDef, heldDef, markService, heldService do to rows of one's own (a Service of no events): contracts over the seat's program.
-/
import Derived.Test.YtadidjhcgmeadaaMkD
import Derived.Test.YtadidjhcgmeadaaHdF
import Derived.Test.YtadidjhcgmeadaaSvV
import Derived.Deep.CutRange
namespace Go.Proofs.Ytadidjhcgmeadaa
open Go.RowKit Go.Sort

theorem heldEventS_noneK (a : Option Addr) (c : Nat) (K : Int) (w : World) :
    Calls Try.prog 28 #[.slice a 0 c, .int .i64 K] w fun e w' => e = .returned (.int .i64 K) ∧ w' = w := by
  go_enter Try.func28, Try.ntmps28
  go_wp2
  go_loopw [1, 5] (fun kv i wr => kv = .int .i64 K ∧ i = .int .i64 0 ∧ wr = w) (fun _ _ _ => 0)
  case atStart => exact ⟨rfl, rfl, rfl⟩
  case round =>
    obtain ⟨rfl, rfl, rfl⟩ := hrel
    go_wp2
    go_ret
    exact ⟨rfl, rfl⟩
theorem markEventS_noneK (a : Option Addr) (c : Nat) (K : Int) (w : World) :
    Calls Try.prog 26 #[.slice a 0 c, .int .i64 K] w fun e w' => e = .returned (.int .i64 K) ∧ w' = w := by
  go_enter Try.func26, Try.ntmps26
  go_wp2
  go_loopw [1, 5] (fun kv i wr => kv = .int .i64 K ∧ i = .int .i64 0 ∧ wr = w) (fun _ _ _ => 0)
  case atStart => exact ⟨rfl, rfl, rfl⟩
  case round =>
    obtain ⟨rfl, rfl, rfl⟩ := hrel
    go_wp2
    go_ret
    exact ⟨rfl, rfl⟩

/-- Rows that bear the marks from a number on. -/
structure MkOwn (w : World) (lo n1 n2 : Nat) (K : Int) (u1 u2 : Value) : Prop where
  o1 : w.ownsRow lo 9 1 u1 n1 ((mkS K n1).map Value.string)
  o2 : w.ownsRow lo 57 2 u2 n2 ((mkP (K + (n1 : Int)) n2).flatMap Pr.cells)
theorem MkOwn.stay {w w' : World} {lo n1 n2 : Nat} {K : Int} {u1 u2 : Value} (h : MkOwn w lo n1 n2 K u1 u2) (hb : Below w.heap.size w w') : MkOwn w' lo n1 n2 K u1 u2 := ⟨ownB_stay h.o1 hb, ownB_stay h.o2 hb⟩

set_option maxRecDepth 100000 in
set_option maxHeartbeats 2000000 in
theorem markDef_con (lo n1 n2 : Nat) (K : Int) (a1 a2 : Option Addr) (k1 k2 : Nat) (xs ys : List Value) (w : World) (o1 : w.ownsRow lo 9 1 (.slice a1 n1 k1) n1 xs) (o2 : w.ownsRow lo 57 2 (.slice a2 n2 k2) n2 ys) (hK : 0 < K) (hn : K + (n1 : Int) + 2 * (n2 : Int) ≤ 1000000000) :
    Calls Try.prog 10 #[.agg #[.slice a1 n1 k1, .slice a2 n2 k2], .int .i64 K] w fun e w' => e = .returned (.int .i64 (K + (n1 : Int) + 2 * (n2 : Int))) ∧ MkOwn w' lo n1 n2 K (.slice a1 n1 k1) (.slice a2 n2 k2) ∧ Chg (fun j => (Value.slice a1 n1 k1).ownBlock = some j ∨ (Value.slice a2 n2 k2).ownBlock = some j) w w' := by
  have hb : Below w.heap.size w (w.alloc (.cells #[.slice a1 n1 k1, .slice a2 n2 k2] 29)) := (Below.refl _ _).alloc (Nat.le_refl _) _
  have H1 := hid o1
  have O2 := hid (ownB_stay o2 hb)
  have hne : ¬ (Value.slice a1 n1 k1).ownBlock = some w.heap.size := fun e => by have := (o1.lt _ e).2; omega
  have HA := hid (apart_ty o1 o2 (by decide))
  have cM := hid (markStringS_own _ n1 lo K xs _ (ownB_stay o1 hb) hK (by omega))
  have d1 : (w.alloc (.cells #[.slice a1 n1 k1, .slice a2 n2 k2] 29)).cell? ⟨w.heap.size, 1, none⟩ = some (.slice a2 n2 k2) := by simp [go_sem]
  have D1 := hid d1
  have HB := hid hb
  clear o1 o2 hb d1
  go_enter Try.func10, Try.ntmps10
  go_wp2_with fail
  refine cM.out.mono ?_
  generalize w.alloc (.cells #[.slice a1 n1 k1, .slice a2 n2 k2] 29) = W at *
  rintro e W1 ⟨rfl, hm1, hg1⟩
  have hC1 : Chg (fun j => (Value.slice a1 n1 k1).ownBlock = some j) W W1 := Chg.of_row hg1 (fun j h => h)
  have d1 := (hC1.cell (g := w.heap.size) (o := 1) (block_lt_of_cell D1.out) hne).trans D1.out
  have cN := hid (markFlowS_own _ n2 lo (K + (n1 : Int)) ys W1 (own_chg O2.out hC1 (fun g hg he => HA.out g he hg)) (by omega) (by omega))
  have HC1 := hid hC1
  have HM1 := hid hm1
  clear hC1 hg1 cM hm1
  go_wp2_with fail
  refine cN.out.mono ?_
  rintro e W2 ⟨rfl, hm2, hg2⟩
  have HC2 := hid (Chg.of_row (p := fun j => (Value.slice a2 n2 k2).ownBlock = some j) hg2 (fun j h => h))
  have HM2 := hid hm2
  clear hg2 cN d1 hm2
  go_wp2
  go_ret
  exact ⟨rfl, ⟨own_chg HM1.out HC2.out (fun g hg he => apart_ty HM1.out (own_chg O2.out HC1.out (fun g hg he => HA.out g he hg)) (by decide) g hg he), HM2.out⟩, ((Chg.of_below HB.out).trans (HC1.out.mono (fun j h => .inl h))).trans (HC2.out.mono (fun j h => .inr h))⟩

set_option maxRecDepth 100000 in
set_option maxHeartbeats 2000000 in
theorem heldDef_con (lo n1 n2 : Nat) (K : Int) (a1 a2 : Option Addr) (k1 k2 : Nat) (w : World) (h : MkOwn w lo n1 n2 K (.slice a1 n1 k1) (.slice a2 n2 k2)) (hK : 0 < K) (hn : K + (n1 : Int) + 2 * (n2 : Int) ≤ 1000000000) :
    Calls Try.prog 27 #[.agg #[.slice a1 n1 k1, .slice a2 n2 k2], .int .i64 K] w fun e w' => e = .returned (.int .i64 (K + (n1 : Int) + 2 * (n2 : Int))) ∧ Below w.heap.size w w' := by
  have HB := hid (show Below w.heap.size w (w.alloc (.cells #[.slice a1 n1 k1, .slice a2 n2 k2] 29)) from (Below.refl _ _).alloc (Nat.le_refl _) _)
  have HX := hid (heap_alloc_new w (.cells #[.slice a1 n1 k1, .slice a2 n2 k2] 29))
  have HH := hid h
  have b1 : ((K + (n1 : Int)) < 0) = False := by simp; omega
  have b2 : ((K + (n1 : Int) + 2 * (n2 : Int)) < 0) = False := by simp; omega
  clear h
  go_enter Try.func27, Try.ntmps27
  go_upto_region 1 with fail
  generalize w.alloc (.cells #[.slice a1 n1 k1, .slice a2 n2 k2] 29) = W at *
  have x0 : W.cell? ⟨w.heap.size, 0, none⟩ = some (.slice a1 n1 k1) := by rw [Lib.cell_of_heap HX.out]; rfl
  go_wp2_with fail
  refine (heldStringS_own _ n1 lo K W (ownB_stay HH.out.o1 HB.out) hK (by omega)).mono ?_
  rintro e W1 ⟨rfl, hb1⟩
  have HB1 := hid (HB.out.trans (hb1.mono HB.out.size))
  have x1 : W1.cell? ⟨w.heap.size, 1, none⟩ = some (.slice a2 n2 k2) := by rw [Lib.cell_of_heap ((hb1.block _ (lt_heap HX.out)).trans HX.out)]; rfl
  clear hb1
  go_wp2_with fail
  refine (heldFlowS_own _ n2 lo (K + (n1 : Int)) W1 (ownB_stay HH.out.o2 HB1.out) (by omega) (by omega)).mono ?_
  rintro e W2 ⟨rfl, hb2⟩
  have HB2 := hid (HB1.out.trans (hb2.mono HB1.out.size))
  clear hb2
  go_wp2
  go_ret
  exact ⟨rfl, HB2.out⟩

set_option maxRecDepth 100000 in
set_option maxHeartbeats 2000000 in
theorem markService_none (lo n1 n2 : Nat) (K nx : Int) (a1 a2 a6 : Option Addr) (k1 k2 k6 : Nat) (xs ys : List Value) (w : World) (o1 : w.ownsRow lo 9 1 (.slice a1 n1 k1) n1 xs) (o2 : w.ownsRow lo 57 2 (.slice a2 n2 k2) n2 ys) (hK : 0 < K) (hn : K + (n1 : Int) + 2 * (n2 : Int) ≤ 1000000000) :
    Calls Try.prog 11 #[.agg #[.slice a1 n1 k1, .slice a2 n2 k2, .slice a6 0 k6, .int .i64 nx], .int .i64 K] w fun e w' => e = .returned (.int .i64 (K + (n1 : Int) + 2 * (n2 : Int))) ∧ MkOwn w' lo n1 n2 K (.slice a1 n1 k1) (.slice a2 n2 k2) ∧ Chg (fun j => (Value.slice a1 n1 k1).ownBlock = some j ∨ (Value.slice a2 n2 k2).ownBlock = some j) w w' := by
  have HB := hid (show Below w.heap.size w (w.alloc (.cells #[.slice a1 n1 k1, .slice a2 n2 k2, .slice a6 0 k6, .int .i64 nx] 32)) from (Below.refl _ _).alloc (Nat.le_refl _) _)
  have HX := hid (heap_alloc_new w (.cells #[.slice a1 n1 k1, .slice a2 n2 k2, .slice a6 0 k6, .int .i64 nx] 32))
  have H1 := hid o1
  have H2 := hid o2
  clear o1 o2
  go_enter Try.func11, Try.ntmps11
  go_upto_region 1 with fail
  generalize w.alloc (.cells #[.slice a1 n1 k1, .slice a2 n2 k2, .slice a6 0 k6, .int .i64 nx] 32) = W at *
  have x0 : W.cell? ⟨w.heap.size, 0, none⟩ = some (.slice a1 n1 k1) := by rw [Lib.cell_of_heap HX.out]; rfl
  have x1 : W.cell? ⟨w.heap.size, 1, none⟩ = some (.slice a2 n2 k2) := by rw [Lib.cell_of_heap HX.out]; rfl
  go_wp2_with fail
  refine (markDef_con lo n1 n2 K a1 a2 k1 k2 xs ys W (ownB_stay H1.out HB.out) (ownB_stay H2.out HB.out) hK hn).mono ?_
  rintro e W1 ⟨rfl, hm, hC⟩
  have hne : ¬ ((Value.slice a1 n1 k1).ownBlock = some w.heap.size ∨ (Value.slice a2 n2 k2).ownBlock = some w.heap.size) := fun h => by
    rcases h with h | h
    · have := (H1.out.lt _ h).2; omega
    · have := (H2.out.lt _ h).2; omega
  have x2 : W1.cell? ⟨w.heap.size, 2, none⟩ = some (.slice a6 0 k6) := (hC.cell (lt_heap HX.out) hne).trans (by rw [Lib.cell_of_heap HX.out]; rfl)
  have HM := hid hm
  have HC := hid hC
  clear hm hC x0 x1 hne
  go_wp2_with fail
  refine (markEventS_noneK a6 k6 _ W1).mono ?_
  rintro e W2 ⟨rfl, hq⟩
  rw [hq]
  go_wp2
  go_ret
  exact ⟨rfl, HM.out, (Chg.of_below HB.out).trans HC.out⟩

set_option maxRecDepth 100000 in
set_option maxHeartbeats 2000000 in
theorem heldService_none (lo n1 n2 : Nat) (K nx : Int) (a1 a2 a6 : Option Addr) (k1 k2 k6 : Nat) (w : World) (h : MkOwn w lo n1 n2 K (.slice a1 n1 k1) (.slice a2 n2 k2)) (hK : 0 < K) (hn : K + (n1 : Int) + 2 * (n2 : Int) ≤ 1000000000) :
    Calls Try.prog 12 #[.agg #[.slice a1 n1 k1, .slice a2 n2 k2, .slice a6 0 k6, .int .i64 nx], .int .i64 K] w fun e w' => e = .returned (.int .i64 (K + (n1 : Int) + 2 * (n2 : Int))) ∧ Below w.heap.size w w' := by
  have HB := hid (show Below w.heap.size w (w.alloc (.cells #[.slice a1 n1 k1, .slice a2 n2 k2, .slice a6 0 k6, .int .i64 nx] 32)) from (Below.refl _ _).alloc (Nat.le_refl _) _)
  have HX := hid (heap_alloc_new w (.cells #[.slice a1 n1 k1, .slice a2 n2 k2, .slice a6 0 k6, .int .i64 nx] 32))
  have HH := hid h
  have b2 : ((K + (n1 : Int) + 2 * (n2 : Int)) < 0) = False := by simp; omega
  clear h
  go_enter Try.func12, Try.ntmps12
  go_upto_region 1 with fail
  generalize w.alloc (.cells #[.slice a1 n1 k1, .slice a2 n2 k2, .slice a6 0 k6, .int .i64 nx] 32) = W at *
  have x0 : W.cell? ⟨w.heap.size, 0, none⟩ = some (.slice a1 n1 k1) := by rw [Lib.cell_of_heap HX.out]; rfl
  have x1 : W.cell? ⟨w.heap.size, 1, none⟩ = some (.slice a2 n2 k2) := by rw [Lib.cell_of_heap HX.out]; rfl
  go_wp2_with fail
  refine (heldDef_con lo n1 n2 K a1 a2 k1 k2 W (HH.out.stay HB.out) hK hn).mono ?_
  rintro e W1 ⟨rfl, hb1⟩
  have HB1 := hid (HB.out.trans (hb1.mono HB.out.size))
  have x2 : W1.cell? ⟨w.heap.size, 2, none⟩ = some (.slice a6 0 k6) := by rw [Lib.cell_of_heap ((hb1.block _ (lt_heap HX.out)).trans HX.out)]; rfl
  clear hb1 x0 x1
  go_wp2_with fail
  refine (heldEventS_noneK a6 k6 _ W1).mono ?_
  rintro e W2 ⟨rfl, hq⟩
  rw [hq]
  go_wp2
  go_ret
  exact ⟨rfl, HB1.out⟩
end Go.Proofs.Ytadidjhcgmeadaa
