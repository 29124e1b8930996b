/-
 Texts put together: MkD, HdF, SnMk.
-/
import Derived.Test.YtookchpdbilbcaaGreatDoorZMark4
import Derived.Test.YtookchpdbilbcaaGreatDoorZEvI8
import Derived.Test.YtookchpdbilbcaaGreatDoorZDfLaw5
import Derived.BigQuiet
import Derived.Lib.QuietBelow
import Derived.Deep.CutRange
set_option maxRecDepth 100000
set_option maxHeartbeats 2000000
/-
 What laws.markDef does: a contract over the seat's program.
-/
namespace Go.Proofs.YtookchpdbilbcaaGreatDoor
open Go.RowKit Go.Sort
theorem Chg.of_row {p : Nat → Prop} {w w' : World} {r : Option Nat} (h : w.grownBy w' r) (hp : ∀ j, r = some j → p j) : Chg p w w' := ⟨h.os, h.tape, h.output, h.size, fun k hk hq => h.block k hk (fun e => hq (hp k e.symm))⟩
theorem markDef_own (lo n1 n2 : Nat) (K : Int) (u1 u2 : Value) (xs ys : List Value) (w : World) (o1 : w.ownsRow lo 9 1 u1 n1 xs) (o2 : w.ownsRow lo 107 2 u2 n2 ys) (hK : 0 < K) (hn : K + (n1 : Int) + 2 * (n2 : Int) ≤ 1000000000) :
  Calls Tryz.prog 31 #[.agg #[u1, u2], .int .i64 K] w fun e w' => e = .returned (.int .i64 (K + (n1 : Int) + 2 * (n2 : Int))) ∧ Chg (fun j => u1.ownBlock = some j ∨ u2.ownBlock = some j) w w' := by
 obtain ⟨a1, k1, rfl⟩ := ownB_form o1
 obtain ⟨a2, k2, rfl⟩ := ownB_form o2
 have hb : Below w.heap.size w (w.alloc (.cells #[.slice a1 n1 k1, .slice a2 n2 k2] 33)) := (Below.refl _ _).alloc (Nat.le_refl _) _
 have H1 := hid o1
 have O2 := hid (ownB_stay o2 hb)
 have hne : ¬ (Value.slice a1 n1 k1).ownBlock = some w.heap.size := fun e => by have := (o1.lt _ e).2; omega
 have HA := hid (apart_ty o1 o2 (by decide))
 have cM := hid (markStringS_own _ n1 lo K xs _ (ownB_stay o1 hb) hK (by omega))
 have d1 : (w.alloc (.cells #[.slice a1 n1 k1, .slice a2 n2 k2] 33)).cell? ⟨w.heap.size, 1, none⟩ = some (.slice a2 n2 k2) := by simp [go_sem]
 have D1 := hid d1
 have HB := hid hb
 clear o1 o2 hb d1
 go_enter Tryz.func31, Tryz.ntmps31
 go_wp2_with fail
 refine cM.out.mono ?_
 generalize w.alloc (.cells #[.slice a1 n1 k1, .slice a2 n2 k2] 33) = W at *
 rintro e W1 ⟨rfl, _, hg1⟩
 have hC1 : Chg (fun j => (Value.slice a1 n1 k1).ownBlock = some j) W W1 := Chg.of_row hg1 (fun j h => h)
 have d1 := (hC1.cell (g := w.heap.size) (o := 1) (block_lt_of_cell D1.out) hne).trans D1.out
 have cN := hid (markFlowS_own _ n2 lo (K + (n1 : Int)) ys W1 (own_chg O2.out hC1 (fun g hg he => HA.out g he hg)) (by omega) (by omega))
 have HC1 := hid hC1
 clear hC1 hg1 cM
 go_wp2_with fail
 refine cN.out.mono ?_
 rintro e W2 ⟨rfl, _, hg2⟩
 have HC2 := hid (Chg.of_row (p := fun j => (Value.slice a2 n2 k2).ownBlock = some j) hg2 (fun j h => h))
 clear hg2 cN d1
 go_wp2
 go_ret
 exact ⟨rfl, ((Chg.of_below HB.out).trans (HC1.out.mono (fun j h => .inl h))).trans (HC2.out.mono (fun j h => .inr h))⟩
end Go.Proofs.YtookchpdbilbcaaGreatDoor
/-
 What laws.heldFlowS answers: contracts over the seat's program.
-/
namespace Go.Proofs.YtookchpdbilbcaaGreatDoor
open Go.RowKit Go.Sort
theorem heldFlowS_row (g o c n : Nat) (K : Int) (w : World) (hE : PrsAt w g o (mkP K n)) (hK : 0 < K) (hn : K + 2 * (n : Int) ≤ 1000000000) :
  Calls Tryz.prog 76 #[.slice (some ⟨g, o, none⟩) n c, .int .i64 K] w fun e w' => e = .returned (.int .i64 (K + 2 * (n : Int))) ∧ Below w.heap.size w w' := by
 have mixed : Tryz.prog.follows .mixedOrders = true := by kernel_rfl
 have HE := hid hE
 clear hE
 go_enter Tryz.func76, Tryz.ntmps76
 go_wp2
 go_loopw [1, 5] (fun kv i wr => ∃ j : Nat, j ≤ n ∧ i = .int .i64 j ∧ kv = .int .i64 (K + 2 * (j : Int)) ∧ Below w.heap.size w wr) (fun _ i _ => n - (intOf i).toNat)
 case atStart => exact ⟨0, Nat.zero_le _, rfl, by simp, Below.refl _ _⟩
 case round =>
  obtain ⟨j, hj, rfl, rfl, hbel⟩ := hrel
  by_cases hlt : j < n
  ·obtain ⟨c0, c1⟩ := (HE.out.stay hbel (Nat.le_refl _)).2 j (by rw [mkP_len]; exact hlt)
   rw [mkP_at] at c0 c1
   simp only at c0 c1
   have d1 := fun d os => Calls.regrown_of (w := wr) (d := d) (os := os) (markText_any (K + 2 * (j : Int)) (grow (redrawn wr d) os) (by omega) (by omega))
   have HB := hid hbel
   have C1 := hid c1
   have hK2 : 0 < K + 2 * (j : Int) + 1 := by omega
   have hK3 : K + 2 * (j : Int) + 1 ≤ 1000000000 := by omega
   have d2 := hid (fun W' => markText_any (K + 2 * (j : Int) + 1) W' hK2 hK3)
   clear hbel c1
   generalize markT (K + 2 * (j : Int)) = S4 at *
   generalize markT (K + 2 * (j : Int) + 1) = S5 at *
   go_wp2
   have c0' := cell_regrown c0
   clear c0
   refine wp_region_quiet_below mixed (by kernel_rfl) ?_
   repeat (go_big_quiet_step ((go_at_call 32; exact d1 _ _)))
   refine wpQuiet_nil ?_
   intro W2 hw'
   have HR := hid (show Below wr.heap.size wr W2 by obtain ⟨⟨dq, osq⟩, hw''⟩ := hw'; subst hw''; exact below_regrown wr dq osq)
   clear hw' c0' d1
   have c1 := (HR.out.cell (block_lt_of_cell C1.out)).trans C1.out
   have d3 := fun d os => Calls.regrown_of (w := W2) (d := d) (os := os) (d2.out (grow (redrawn W2 d) os))
   go_wp2
   have c1' := cell_regrown c1
   clear c1
   refine wp_region_quiet_below mixed (by kernel_rfl) ?_
   repeat (go_big_quiet_step ((go_at_call 32; exact d3 _ _)))
   refine wpQuiet_nil ?_
   intro W3 hw'
   have HR3 := hid (show Below W2.heap.size W2 W3 by obtain ⟨⟨dq, osq⟩, hw''⟩ := hw'; subst hw''; exact below_regrown W2 dq osq)
   clear hw' c1' d3
   go_wp2
   go_roundw
   case rel => exact ⟨j + 1, by omega, by go_num, by go_num, (HB.out.trans (HR.out.mono HB.out.size)).trans (HR3.out.mono (HB.out.trans (HR.out.mono HB.out.size)).size)⟩
   case measure => simp [intOf]; omega
  ·have hje : j = n := by omega
   have HJ := hid hje
   clear hje
   go_wp2
   go_ret
   exact ⟨by rw [HJ.out]; rfl, hbel⟩
theorem heldFlowS_none (a : Option Addr) (c : Nat) (K : Int) (w : World) :
  Calls Tryz.prog 76 #[.slice a 0 c, .int .i64 K] w fun e w' => e = .returned (.int .i64 K) ∧ w' = w := by
 go_enter Tryz.func76, Tryz.ntmps76
 go_wp2
 go_loopw [1, 5] (fun kv i wr => kv = .int .i64 K ∧ i = .int .i64 0 ∧ wr = w) (fun _ _ _ => 0)
 case atStart => exact ⟨rfl, rfl, rfl⟩
 case round =>
  obtain ⟨rfl, rfl, rfl⟩ := hrel
  go_wp2
  go_ret
  exact ⟨rfl, rfl⟩
theorem heldFlowS_own (v : Value) (n base : Nat) (K : Int) (w : World) (h : w.ownsRow base 107 2 v n ((mkP K n).flatMap Pr.cells)) (hK : 0 < K) (hn : K + 2 * (n : Int) ≤ 1000000000) :
  Calls Tryz.prog 76 #[v, .int .i64 K] w fun e w' => e = .returned (.int .i64 (K + 2 * (n : Int))) ∧ Below w.heap.size w w' := by
 rcases pr_of_own h with ⟨a, c, rfl, h0⟩ | ⟨g, o, c, rfl, _, hE⟩
 ·have : n = 0 := by rw [← mkP_len K n, h0]; rfl
  subst this
  refine (heldFlowS_none a c K w).mono ?_
  rintro e w' ⟨rfl, rfl⟩
  exact ⟨by simp, Below.refl _ _⟩
 ·rw [mkP_len]
  exact heldFlowS_row g o c n K w hE hK hn
end Go.Proofs.YtookchpdbilbcaaGreatDoor
/-
 What laws.markDef, heldDef, markService, heldService do to rows of one's own (a Service of no events): contracts over the seat's program.
-/
namespace Go.Proofs.YtookchpdbilbcaaGreatDoor
open Go.RowKit Go.Sort
theorem heldEventS_noneK (a : Option Addr) (c : Nat) (K : Int) (w : World) :
  Calls Tryz.prog 58 #[.slice a 0 c, .int .i64 K] w fun e w' => e = .returned (.int .i64 K) ∧ w' = w := by
 go_enter Tryz.func58, Tryz.ntmps58
 go_wp2
 go_loopw [1, 5] (fun kv i wr => kv = .int .i64 K ∧ i = .int .i64 0 ∧ wr = w) (fun _ _ _ => 0)
 case atStart => exact ⟨rfl, rfl, rfl⟩
 case round =>
  obtain ⟨rfl, rfl, rfl⟩ := hrel
  go_wp2
  go_ret
  exact ⟨rfl, rfl⟩
theorem markEventS_noneK (a : Option Addr) (c : Nat) (K : Int) (w : World) :
  Calls Tryz.prog 15 #[.slice a 0 c, .int .i64 K] w fun e w' => e = .returned (.int .i64 K) ∧ w' = w := by
 go_enter Tryz.func15, Tryz.ntmps15
 go_wp2
 go_loopw [1, 5] (fun kv i wr => kv = .int .i64 K ∧ i = .int .i64 0 ∧ wr = w) (fun _ _ _ => 0)
 case atStart => exact ⟨rfl, rfl, rfl⟩
 case round =>
  obtain ⟨rfl, rfl, rfl⟩ := hrel
  go_wp2
  go_ret
  exact ⟨rfl, rfl⟩
/-- Rows that bear the marks from a number on. -/
structure MkOwn (w : World) (lo n1 n2 : Nat) (K : Int) (u1 u2 : Value) : Prop where
 o1 : w.ownsRow lo 9 1 u1 n1 ((mkS K n1).map Value.string)
 o2 : w.ownsRow lo 107 2 u2 n2 ((mkP (K + (n1 : Int)) n2).flatMap Pr.cells)
theorem MkOwn.stay {w w' : World} {lo n1 n2 : Nat} {K : Int} {u1 u2 : Value} (h : MkOwn w lo n1 n2 K u1 u2) (hb : Below w.heap.size w w') : MkOwn w' lo n1 n2 K u1 u2 := ⟨ownB_stay h.o1 hb, ownB_stay h.o2 hb⟩
theorem markDef_con (lo n1 n2 : Nat) (K : Int) (a1 a2 : Option Addr) (k1 k2 : Nat) (xs ys : List Value) (w : World) (o1 : w.ownsRow lo 9 1 (.slice a1 n1 k1) n1 xs) (o2 : w.ownsRow lo 107 2 (.slice a2 n2 k2) n2 ys) (hK : 0 < K) (hn : K + (n1 : Int) + 2 * (n2 : Int) ≤ 1000000000) :
  Calls Tryz.prog 31 #[.agg #[.slice a1 n1 k1, .slice a2 n2 k2], .int .i64 K] w fun e w' => e = .returned (.int .i64 (K + (n1 : Int) + 2 * (n2 : Int))) ∧ MkOwn w' lo n1 n2 K (.slice a1 n1 k1) (.slice a2 n2 k2) ∧ Chg (fun j => (Value.slice a1 n1 k1).ownBlock = some j ∨ (Value.slice a2 n2 k2).ownBlock = some j) w w' := by
 have hb : Below w.heap.size w (w.alloc (.cells #[.slice a1 n1 k1, .slice a2 n2 k2] 33)) := (Below.refl _ _).alloc (Nat.le_refl _) _
 have H1 := hid o1
 have O2 := hid (ownB_stay o2 hb)
 have hne : ¬ (Value.slice a1 n1 k1).ownBlock = some w.heap.size := fun e => by have := (o1.lt _ e).2; omega
 have HA := hid (apart_ty o1 o2 (by decide))
 have cM := hid (markStringS_own _ n1 lo K xs _ (ownB_stay o1 hb) hK (by omega))
 have d1 : (w.alloc (.cells #[.slice a1 n1 k1, .slice a2 n2 k2] 33)).cell? ⟨w.heap.size, 1, none⟩ = some (.slice a2 n2 k2) := by simp [go_sem]
 have D1 := hid d1
 have HB := hid hb
 clear o1 o2 hb d1
 go_enter Tryz.func31, Tryz.ntmps31
 go_wp2_with fail
 refine cM.out.mono ?_
 generalize w.alloc (.cells #[.slice a1 n1 k1, .slice a2 n2 k2] 33) = W at *
 rintro e W1 ⟨rfl, hm1, hg1⟩
 have hC1 : Chg (fun j => (Value.slice a1 n1 k1).ownBlock = some j) W W1 := Chg.of_row hg1 (fun j h => h)
 have d1 := (hC1.cell (g := w.heap.size) (o := 1) (block_lt_of_cell D1.out) hne).trans D1.out
 have cN := hid (markFlowS_own _ n2 lo (K + (n1 : Int)) ys W1 (own_chg O2.out hC1 (fun g hg he => HA.out g he hg)) (by omega) (by omega))
 have HC1 := hid hC1
 have HM1 := hid hm1
 clear hC1 hg1 cM hm1
 go_wp2_with fail
 refine cN.out.mono ?_
 rintro e W2 ⟨rfl, hm2, hg2⟩
 have HC2 := hid (Chg.of_row (p := fun j => (Value.slice a2 n2 k2).ownBlock = some j) hg2 (fun j h => h))
 have HM2 := hid hm2
 clear hg2 cN d1 hm2
 go_wp2
 go_ret
 exact ⟨rfl, ⟨own_chg HM1.out HC2.out (fun g hg he => apart_ty HM1.out (own_chg O2.out HC1.out (fun g hg he => HA.out g he hg)) (by decide) g hg he), HM2.out⟩, ((Chg.of_below HB.out).trans (HC1.out.mono (fun j h => .inl h))).trans (HC2.out.mono (fun j h => .inr h))⟩
theorem heldDef_con (lo n1 n2 : Nat) (K : Int) (a1 a2 : Option Addr) (k1 k2 : Nat) (w : World) (h : MkOwn w lo n1 n2 K (.slice a1 n1 k1) (.slice a2 n2 k2)) (hK : 0 < K) (hn : K + (n1 : Int) + 2 * (n2 : Int) ≤ 1000000000) :
  Calls Tryz.prog 57 #[.agg #[.slice a1 n1 k1, .slice a2 n2 k2], .int .i64 K] w fun e w' => e = .returned (.int .i64 (K + (n1 : Int) + 2 * (n2 : Int))) ∧ Below w.heap.size w w' := by
 have HB := hid (show Below w.heap.size w (w.alloc (.cells #[.slice a1 n1 k1, .slice a2 n2 k2] 33)) from (Below.refl _ _).alloc (Nat.le_refl _) _)
 have HX := hid (heap_alloc_new w (.cells #[.slice a1 n1 k1, .slice a2 n2 k2] 33))
 have HH := hid h
 have b1 : ((K + (n1 : Int)) < 0) = False := by simp; omega
 have b2 : ((K + (n1 : Int) + 2 * (n2 : Int)) < 0) = False := by simp; omega
 clear h
 go_enter Tryz.func57, Tryz.ntmps57
 go_upto_region 1 with fail
 generalize w.alloc (.cells #[.slice a1 n1 k1, .slice a2 n2 k2] 33) = W at *
 have x0 : W.cell? ⟨w.heap.size, 0, none⟩ = some (.slice a1 n1 k1) := ce HX.out rfl
 go_wp2_with fail
 refine (heldStringS_own _ n1 lo K W (ownB_stay HH.out.o1 HB.out) hK (by omega)).mono ?_
 rintro e W1 ⟨rfl, hb1⟩
 have HB1 := hid (HB.out.trans (hb1.mono HB.out.size))
 have x1 : W1.cell? ⟨w.heap.size, 1, none⟩ = some (.slice a2 n2 k2) := by rw [Lib.cell_of_heap ((hb1.block _ (lt_heap HX.out)).trans HX.out)]; rfl
 clear hb1
 go_wp2_with fail
 refine (heldFlowS_own _ n2 lo (K + (n1 : Int)) W1 (ownB_stay HH.out.o2 HB1.out) (by omega) (by omega)).mono ?_
 rintro e W2 ⟨rfl, hb2⟩
 have HB2 := hid (HB1.out.trans (hb2.mono HB1.out.size))
 clear hb2
 go_wp2
 go_ret
 exact ⟨rfl, HB2.out⟩
theorem markService_none (lo n1 n2 : Nat) (K nx : Int) (a1 a2 a6 : Option Addr) (k1 k2 k6 : Nat) (xs ys : List Value) (w : World) (o1 : w.ownsRow lo 9 1 (.slice a1 n1 k1) n1 xs) (o2 : w.ownsRow lo 107 2 (.slice a2 n2 k2) n2 ys) (hK : 0 < K) (hn : K + (n1 : Int) + 2 * (n2 : Int) ≤ 1000000000) :
  Calls Tryz.prog 14 #[.agg #[.slice a1 n1 k1, .slice a2 n2 k2, .slice a6 0 k6, .int .i64 nx], .int .i64 K] w fun e w' => e = .returned (.int .i64 (K + (n1 : Int) + 2 * (n2 : Int))) ∧ MkOwn w' lo n1 n2 K (.slice a1 n1 k1) (.slice a2 n2 k2) ∧ Chg (fun j => (Value.slice a1 n1 k1).ownBlock = some j ∨ (Value.slice a2 n2 k2).ownBlock = some j) w w' := by
 have HB := hid (show Below w.heap.size w (w.alloc (.cells #[.slice a1 n1 k1, .slice a2 n2 k2, .slice a6 0 k6, .int .i64 nx] 36)) from (Below.refl _ _).alloc (Nat.le_refl _) _)
 have HX := hid (heap_alloc_new w (.cells #[.slice a1 n1 k1, .slice a2 n2 k2, .slice a6 0 k6, .int .i64 nx] 36))
 have H1 := hid o1
 have H2 := hid o2
 clear o1 o2
 go_enter Tryz.func14, Tryz.ntmps14
 go_upto_region 1 with fail
 generalize w.alloc (.cells #[.slice a1 n1 k1, .slice a2 n2 k2, .slice a6 0 k6, .int .i64 nx] 36) = W at *
 have x0 : W.cell? ⟨w.heap.size, 0, none⟩ = some (.slice a1 n1 k1) := ce HX.out rfl
 have x1 : W.cell? ⟨w.heap.size, 1, none⟩ = some (.slice a2 n2 k2) := ce HX.out rfl
 go_wp2_with fail
 refine (markDef_con lo n1 n2 K a1 a2 k1 k2 xs ys W (ownB_stay H1.out HB.out) (ownB_stay H2.out HB.out) hK hn).mono ?_
 rintro e W1 ⟨rfl, hm, hC⟩
 have hne : ¬ ((Value.slice a1 n1 k1).ownBlock = some w.heap.size ∨ (Value.slice a2 n2 k2).ownBlock = some w.heap.size) := fun h => by
  rcases h with h | h
  ·have := (H1.out.lt _ h).2; omega
  ·have := (H2.out.lt _ h).2; omega
 have x2 : W1.cell? ⟨w.heap.size, 2, none⟩ = some (.slice a6 0 k6) := (hC.cell (lt_heap HX.out) hne).trans (ce HX.out rfl)
 have HM := hid hm
 have HC := hid hC
 clear hm hC x0 x1 hne
 go_wp2_with fail
 refine (markEventS_noneK a6 k6 _ W1).mono ?_
 rintro e W2 ⟨rfl, hq⟩
 rw [hq]
 go_wp2
 go_ret
 exact ⟨rfl, HM.out, (Chg.of_below HB.out).trans HC.out⟩
theorem heldService_none (lo n1 n2 : Nat) (K nx : Int) (a1 a2 a6 : Option Addr) (k1 k2 k6 : Nat) (w : World) (h : MkOwn w lo n1 n2 K (.slice a1 n1 k1) (.slice a2 n2 k2)) (hK : 0 < K) (hn : K + (n1 : Int) + 2 * (n2 : Int) ≤ 1000000000) :
  Calls Tryz.prog 33 #[.agg #[.slice a1 n1 k1, .slice a2 n2 k2, .slice a6 0 k6, .int .i64 nx], .int .i64 K] w fun e w' => e = .returned (.int .i64 (K + (n1 : Int) + 2 * (n2 : Int))) ∧ Below w.heap.size w w' := by
 have HB := hid (show Below w.heap.size w (w.alloc (.cells #[.slice a1 n1 k1, .slice a2 n2 k2, .slice a6 0 k6, .int .i64 nx] 36)) from (Below.refl _ _).alloc (Nat.le_refl _) _)
 have HX := hid (heap_alloc_new w (.cells #[.slice a1 n1 k1, .slice a2 n2 k2, .slice a6 0 k6, .int .i64 nx] 36))
 have HH := hid h
 have b2 : ((K + (n1 : Int) + 2 * (n2 : Int)) < 0) = False := by simp; omega
 clear h
 go_enter Tryz.func33, Tryz.ntmps33
 go_upto_region 1 with fail
 generalize w.alloc (.cells #[.slice a1 n1 k1, .slice a2 n2 k2, .slice a6 0 k6, .int .i64 nx] 36) = W at *
 have x0 : W.cell? ⟨w.heap.size, 0, none⟩ = some (.slice a1 n1 k1) := ce HX.out rfl
 have x1 : W.cell? ⟨w.heap.size, 1, none⟩ = some (.slice a2 n2 k2) := ce HX.out rfl
 go_wp2_with fail
 refine (heldDef_con lo n1 n2 K a1 a2 k1 k2 W (HH.out.stay HB.out) hK hn).mono ?_
 rintro e W1 ⟨rfl, hb1⟩
 have HB1 := hid (HB.out.trans (hb1.mono HB.out.size))
 have x2 : W1.cell? ⟨w.heap.size, 2, none⟩ = some (.slice a6 0 k6) := by rw [Lib.cell_of_heap ((hb1.block _ (lt_heap HX.out)).trans HX.out)]; rfl
 clear hb1 x0 x1
 go_wp2_with fail
 refine (heldEventS_noneK a6 k6 _ W1).mono ?_
 rintro e W2 ⟨rfl, hq⟩
 rw [hq]
 go_wp2
 go_ret
 exact ⟨rfl, HB1.out⟩
end Go.Proofs.YtookchpdbilbcaaGreatDoor
