/-
 Texts put together: MkF, MkE, MkD, HdF, SnMk.
-/
import Derived.Test.YtookchpdbilbcaaGreatDoorZClM5
import Derived.Test.YtookchpdbilbcaaGreatDoorZImSA3
import Derived.Test.YtookchpdbilbcaaGreatDoorZEvI8
import Derived.Test.YtookchpdbilbcaaGreatDoorZAgg6
import Derived.Lib.QuietBelow
import Derived.Test.YtookchpdbilbcaaGreatDoorZDfLaw5
import Derived.BigQuiet
import Derived.Deep.CutRange
set_option maxRecDepth 100000
set_option maxHeartbeats 2000000
/-
 Marks in rows of pairs; what laws.markFlowS does: contracts over the seat's program.
-/
namespace Go.Proofs.YtookchpdbilbcaaGreatDoor
open Go.RowKit Go.Sort
def mkP (k : Int) (n : Nat) : List Pr := (List.range n).map fun i : Nat => ⟨markT (k + 2 * (i : Int)), markT (k + 2 * (i : Int) + 1)⟩
theorem ZD1 (k : Int) (n : Nat) : (mkP k n).length = n := by simp [mkP]
theorem ZJA (k : Int) (n : Nat) : (mkP k (n + 1)).flatMap Pr.cells = (mkP k n).flatMap Pr.cells ++ [.string (markT (k + 2 * (n : Int))), .string (markT (k + 2 * (n : Int) + 1))] := by simp [mkP, List.range_succ, Pr.cells]
theorem mkP_at {k : Int} {n i : Nat} (h : i < (mkP k n).length) : (mkP k n)[i] = ⟨markT (k + 2 * (i : Int)), markT (k + 2 * (i : Int) + 1)⟩ := by simp [mkP]
theorem ZGh {L : List Value} {i : Nat} {a b : Value} (h : i + 2 ≤ L.length) : ((L.set i a).set (i + 1) b).take (i + 2) = L.take i ++ [a, b] := by
 rw [show i + 2 = i + 1 + 1 by omega, ZB1 (by simp; omega), ZB1 (by omega)]; simp
theorem ZEX (g n c : Nat) (K : Int) (L : List Value) (w : World) (hG : w.heap[g]? = some (.cells L.toArray 107 (0, 0))) (hL : n * 2 ≤ L.length) (hK : 0 < K) (hn : K + 2 * (n : Int) ≤ 1000000000) :
  Calls Tryz.prog 56 #[.slice (some ⟨g, 0, none⟩) n c, .int .i64 K] w fun e w' =>
   ∃ L' : List Value, e = .returned (.int .i64 (K + 2 * (n : Int))) ∧ w'.heap[g]? = some (.cells L'.toArray 107 (0, 0)) ∧ L'.length = L.length ∧ L'.take (n * 2) = (mkP K n).flatMap Pr.cells ∧ w.grownBy w' (some g) := by
 have HG := hid hG
 have HL := hid hL
 clear hG hL
 go_enter Tryz.func56, Tryz.ntmps56
 go_wp2
 go_loopw [1, 5] (fun kv i wr => ∃ (j : Nat) (M : List Value), j ≤ n ∧ i = .int .i64 j ∧ kv = .int .i64 (K + 2 * (j : Int)) ∧ M.length = L.length ∧ M.take (j * 2) = (mkP K j).flatMap Pr.cells ∧ wr.heap[g]? = some (.cells M.toArray 107 (0, 0)) ∧ w.grownBy wr (some g)) (fun _ i _ => n - (intOf i).toNat)
 case atStart => exact ⟨0, L, Nat.zero_le _, rfl, by simp, rfl, by simp [mkP], HG.out, World.grownBy.refl _ _⟩
 case round =>
  obtain ⟨j, M, hj, rfl, rfl, hM, hT, hGr, hgr⟩ := hrel
  have HM := hid hM
  have HT := hid hT
  have HGr := hid hGr
  have Hgr := hid hgr
  clear hM hT hGr hgr
  by_cases hlt : j < n
  ·have hjl : j * 2 + 2 ≤ M.length := by have := HM.out; have := HL.out; omega
   have c4 := hid (fun w => ZAU (K + 2 * (j : Int)) w (by omega) (by omega))
   have c5 := hid (fun w => ZAU (K + 2 * (j : Int) + 1) w (by omega) (by omega))
   have HMS := hid (ZJA K j)
   have HS := hid (fun a b => ZGh (a := a) (b := b) hjl)
   generalize markT (K + 2 * (j : Int)) = S4 at *
   generalize markT (K + 2 * (j : Int) + 1) = S5 at *
   go_wp2_with fail
   refine (c4.out _).mono ?_
   rintro e w2 ⟨rfl, hb2⟩
   have hB : w2.heap[g]? = _ := (hb2.block g (ZAA HGr.out)).trans HGr.out
   have hgB := hid (ZAN Hgr.out (ZAP hb2))
   obtain ⟨u4, z4⟩ := ZBi hB (j := j * 2) (by omega)
   have hfz2 : ∀ t, w2.frozen? ⟨g, t, none⟩ = false := fun t => Lib.frozen_of_heap hB t
   have HB := hid hB
   clear hB hb2 c4 Hgr HGr
   go_wp2_with fail
   have hC := ZAG (i := j * 2) HB.out (.string S4)
   have hgC := ZAN hgB.out (ZAF _ g (j * 2) (.string S4))
   refine (c5.out _).mono ?_
   rintro e w3 ⟨rfl, hb3⟩
   have hD : w3.heap[g]? = _ := (hb3.block g (ZAA hC)).trans hC
   have hgD := hid (ZAN hgC (ZAP hb3))
   obtain ⟨u5, z5⟩ := ZBi hD (j := j * 2 + 1) (by simp; omega)
   have hfz3 : ∀ t, w3.frozen? ⟨g, t, none⟩ = false := fun t => Lib.frozen_of_heap hD t
   have HD := hid hD
   clear hC hgC hD hb3 z4 hfz2 c5 hgB HB
   go_wp2
   go_roundw
   case rel =>
    refine ⟨j + 1, _, by omega, by go_num, by go_num, ?_, ?_, ZAG (i := j * 2 + 1) HD.out (.string S5), ZAN hgD.out (ZAF _ g (j * 2 + 1) (.string S5))⟩
    ·rw [List.length_set, List.length_set]; exact HM.out
    ·rw [show (j + 1) * 2 = j * 2 + 2 by omega, HS.out, HT.out, HMS.out]
   case measure => simp [intOf]; omega
  ·have hje : j = n := by omega
   have HJ := hid hje
   clear hje
   go_wp2
   go_ret
   refine ⟨M, by rw [HJ.out]; rfl, HGr.out, HM.out, ?_, Hgr.out⟩
   have := HT.out
   rwa [HJ.out] at this
theorem ZDQ (a : Option Addr) (c : Nat) (K : Int) (w : World) :
  Calls Tryz.prog 56 #[.slice a 0 c, .int .i64 K] w fun e w' => e = .returned (.int .i64 K) ∧ w' = w := by
 go_enter Tryz.func56, Tryz.ntmps56
 go_wp2
 go_loopw [1, 5] (fun kv i wr => kv = .int .i64 K ∧ i = .int .i64 0 ∧ wr = w) (fun _ _ _ => 0)
 case atStart => exact ⟨rfl, rfl, rfl⟩
 case round =>
  obtain ⟨rfl, rfl, rfl⟩ := hrel
  go_wp2
  go_ret
  exact ⟨rfl, rfl⟩
theorem ZED (v : Value) (n base : Nat) (K : Int) (xs : List Value) (w : World) (h : w.ownsRow base 107 2 v n xs) (hK : 0 < K) (hn : K + 2 * (n : Int) ≤ 1000000000) :
  Calls Tryz.prog 56 #[v, .int .i64 K] w fun e w' => e = .returned (.int .i64 (K + 2 * (n : Int))) ∧ w'.ownsRow base 107 2 v n ((mkP K n).flatMap Pr.cells) ∧ w.grownBy w' v.ownBlock := by
 rcases h.2 with ⟨rfl, rfl⟩ | ⟨g, cap, cur, rfl, hb, hg, hc, hm, hs, ht⟩
 ·refine (ZDQ none 0 K w).mono ?_
  rintro e w' ⟨rfl, rfl⟩
  exact ⟨by simp, World.ownsRow_nil _ _ _ _, World.grownBy.refl _ _⟩
 ·have hg' : w.heap[g]? = some (.cells cur.toList.toArray 107 (0, 0)) := by simpa using hg
  refine (ZEX g n cap K cur.toList w hg' (by rw [Array.length_toList, hs]; omega) hK hn).mono ?_
  rintro e w' ⟨L', rfl, h1, h2, h3, h4⟩
  refine ⟨rfl, ⟨by rw [ZAQ, ZD1], .inr ⟨g, cap, L'.toArray, rfl, hb, h1, hc, hm, ?_, by simpa using h3⟩⟩, h4⟩
  rw [List.size_toArray, h2, Array.length_toList, hs]
end Go.Proofs.YtookchpdbilbcaaGreatDoor
/-
 What laws.markEventS does to a row of events, from any mark on: a contract over the seat's program.
-/
namespace Go.Proofs.YtookchpdbilbcaaGreatDoor
open Go.RowKit Go.Sort
/-- The event that bears the marks from a number on. -/
def mkEv (k : Int) : Ev := ⟨k, k + 1, k + 1 + 1, k + 1 + 1 + 1, markT (k + 1 + 1 + 1 + 1), markT (k + 1 + 1 + 1 + 1 + 1)⟩
def marks (k : Int) (n : Nat) : List Ev := (List.range n).map fun i : Nat => mkEv (k + 6 * (i : Int))
theorem ZBR (k : Int) (n : Nat) : (marks k n).length = n := by simp [marks]
theorem ZGu (k : Int) (n : Nat) : (marks k (n + 1)).flatMap Ev.cells = (marks k n).flatMap Ev.cells ++ (mkEv (k + 6 * (n : Int))).cells := by
 simp [marks, List.range_succ]
theorem ZIn {k : Int} {n i : Nat} (h : i < (marks k n).length) : (marks k n)[i] = mkEv (k + 6 * (i : Int)) := by simp [marks]
theorem ZDS (g n c : Nat) (K : Int) (L : List Value) (w : World) (hG : w.heap[g]? = some (.cells L.toArray 57 (0, 0))) (hL : n * 6 ≤ L.length) (hK : 0 < K) (hn : K + 6 * (n : Int) ≤ 1000000000) :
  Calls Tryz.prog 15 #[.slice (some ⟨g, 0, none⟩) n c, .int .i64 K] w fun e w' =>
   ∃ L' : List Value, e = .returned (.int .i64 (K + 6 * (n : Int))) ∧ w'.heap[g]? = some (.cells L'.toArray 57 (0, 0)) ∧ L'.length = L.length ∧ L'.take (n * 6) = (marks K n).flatMap Ev.cells ∧ w.grownBy w' (some g) := by
 have HG := hid hG
 have HL := hid hL
 clear hG hL
 go_enter Tryz.func15, Tryz.ntmps15
 go_wp2
 go_loopw [1, 5] (fun kv i wr => ∃ (j : Nat) (M : List Value), j ≤ n ∧ i = .int .i64 j ∧ kv = .int .i64 (K + 6 * (j : Int)) ∧ M.length = L.length ∧ M.take (j * 6) = (marks K j).flatMap Ev.cells ∧ wr.heap[g]? = some (.cells M.toArray 57 (0, 0)) ∧ w.grownBy wr (some g)) (fun _ i _ => n - (intOf i).toNat)
 case atStart => exact ⟨0, L, Nat.zero_le _, rfl, by simp, rfl, by simp [marks], HG.out, World.grownBy.refl _ _⟩
 case round =>
  obtain ⟨j, M, hj, rfl, rfl, hM, hT, hGr, hgr⟩ := hrel
  have HM := hid hM
  have HT := hid hT
  have HGr := hid hGr
  have Hgr := hid hgr
  clear hM hT hGr hgr
  by_cases hlt : j < n
  ·have hjl : j * 6 + 6 ≤ M.length := by have := HM.out; have := HL.out; omega
   have c4 := fun w => ZAU (K + 6 * (j : Int) + 1 + 1 + 1 + 1) w (by omega) (by omega)
   have c5 := fun w => ZAU (K + 6 * (j : Int) + 1 + 1 + 1 + 1 + 1) w (by omega) (by omega)
   have hce : ∀ t, t < 6 → ∃ u, wr.cell? ⟨g, j * 6 + t, none⟩ = some u := fun t ht => ZAv HGr.out (by omega)
   obtain ⟨u0, d0⟩ : ∃ u, wr.cell? ⟨g, j * 6, none⟩ = some u := hce 0 (by decide)
   obtain ⟨u1, d1⟩ := hce 1 (by decide)
   obtain ⟨u2, d2⟩ := hce 2 (by decide)
   obtain ⟨u3, d3⟩ := hce 3 (by decide)
   have hfz : ∀ t, wr.frozen? ⟨g, t, none⟩ = false := fun t => Lib.frozen_of_heap HGr.out t
   clear hce
   have HS := hid (ZCw (L := M) (i := j * 6) (a := .int .i64 (K + 6 * (j : Int))) (b := .int .i64 (K + 6 * (j : Int) + 1)) (c := .int .i64 (K + 6 * (j : Int) + 1 + 1)) (d := .int .i64 (K + 6 * (j : Int) + 1 + 1 + 1)) (e := .string (markT (K + 6 * (j : Int) + 1 + 1 + 1 + 1))) (f := .string (markT (K + 6 * (j : Int) + 1 + 1 + 1 + 1 + 1))) hjl)
   have HMS := hid (ZGu K j)
   unfold mkEv at HMS
   generalize markT (K + 6 * (j : Int) + 1 + 1 + 1 + 1) = S4 at *
   generalize markT (K + 6 * (j : Int) + 1 + 1 + 1 + 1 + 1) = S5 at *
   go_wp2_with fail
   have hA := ZAG (i := j * 6 + 3) (ZAG (i := j * 6 + 2) (ZAG (i := j * 6 + 1) (ZAG (i := j * 6) HGr.out (.int .i64 (K + 6 * (j : Int)))) (.int .i64 (K + 6 * (j : Int) + 1))) (.int .i64 (K + 6 * (j : Int) + 1 + 1))) (.int .i64 (K + 6 * (j : Int) + 1 + 1 + 1))
   have hgA := ZAN (ZAN (ZAN (ZAN Hgr.out (ZAF _ g (j * 6) (.int .i64 (K + 6 * (j : Int))))) (ZAF _ g (j * 6 + 1) (.int .i64 (K + 6 * (j : Int) + 1)))) (ZAF _ g (j * 6 + 2) (.int .i64 (K + 6 * (j : Int) + 1 + 1)))) (ZAF _ g (j * 6 + 3) (.int .i64 (K + 6 * (j : Int) + 1 + 1 + 1)))
   refine (c4 _).mono ?_
   rintro e w2 ⟨rfl, hb2⟩
   have hB : w2.heap[g]? = _ := (hb2.block g (ZAA hA)).trans hA
   have hgB := hid (ZAN hgA (ZAP hb2))
   have z4 := ZAv hB (j := j * 6 + 4) (by simp; omega)
   obtain ⟨u4, z4⟩ := z4
   have hfz2 : ∀ t, w2.frozen? ⟨g, t, none⟩ = false := fun t => Lib.frozen_of_heap hB t
   have HB := hid hB
   clear hA hgA hB hb2 d0 d1 d2 d3 hfz c4 Hgr HGr
   go_wp2_with fail
   have hC := ZAG (i := j * 6 + 4) HB.out (.string S4)
   have hgC := ZAN hgB.out (ZAF _ g (j * 6 + 4) (.string S4))
   refine (c5 _).mono ?_
   rintro e w3 ⟨rfl, hb3⟩
   have hD : w3.heap[g]? = _ := (hb3.block g (ZAA hC)).trans hC
   have hgD := hid (ZAN hgC (ZAP hb3))
   have z5 := ZAv hD (j := j * 6 + 5) (by simp; omega)
   obtain ⟨u5, z5⟩ := z5
   have hfz3 : ∀ t, w3.frozen? ⟨g, t, none⟩ = false := fun t => Lib.frozen_of_heap hD t
   have HD := hid hD
   clear hC hgC hD hb3 z4 hfz2 c5 hgB HB
   go_wp2
   go_roundw
   case rel =>
    refine ⟨j + 1, _, by omega, by go_num, by go_num, ?_, ?_, ZAG (i := j * 6 + 5) HD.out (.string S5), ZAN hgD.out (ZAF _ g (j * 6 + 5) (.string S5))⟩
    ·rw [ZDu]; exact HM.out
    ·rw [show (j + 1) * 6 = j * 6 + 6 by omega, HS.out, HT.out, HMS.out]; rfl
   case measure => simp [intOf]; omega
  ·have hje : j = n := by omega
   have HJ := hid hje
   clear hje
   go_wp2
   go_ret
   refine ⟨M, by rw [HJ.out]; rfl, HGr.out, HM.out, ?_, Hgr.out⟩
   have := HT.out
   rwa [HJ.out] at this
end Go.Proofs.YtookchpdbilbcaaGreatDoor
/-
 What laws.markDef does: a contract over the seat's program.
-/
namespace Go.Proofs.YtookchpdbilbcaaGreatDoor
open Go.RowKit Go.Sort
theorem Chg.of_row {p : Nat → Prop} {w w' : World} {r : Option Nat} (h : w.grownBy w' r) (hp : ∀ j, r = some j → p j) : Chg p w w' := ⟨h.os, h.tape, h.output, h.size, fun k hk hq => h.block k hk (fun e => hq (hp k e.symm))⟩
end Go.Proofs.YtookchpdbilbcaaGreatDoor
/-
 What laws.heldFlowS answers: contracts over the seat's program.
-/
namespace Go.Proofs.YtookchpdbilbcaaGreatDoor
open Go.RowKit Go.Sort
theorem ZDx (g o c n : Nat) (K : Int) (w : World) (hE : PrsAt w g o (mkP K n)) (hK : 0 < K) (hn : K + 2 * (n : Int) ≤ 1000000000) :
  Calls Tryz.prog 76 #[.slice (some ⟨g, o, none⟩) n c, .int .i64 K] w fun e w' => e = .returned (.int .i64 (K + 2 * (n : Int))) ∧ Below w.heap.size w w' := by
 have mixed : Tryz.prog.follows .mixedOrders = true := by kernel_rfl
 have HE := hid hE
 clear hE
 go_enter Tryz.func76, Tryz.ntmps76
 go_wp2
 go_loopw [1, 5] (fun kv i wr => ∃ j : Nat, j ≤ n ∧ i = .int .i64 j ∧ kv = .int .i64 (K + 2 * (j : Int)) ∧ Below w.heap.size w wr) (fun _ i _ => n - (intOf i).toNat)
 case atStart => exact ⟨0, Nat.zero_le _, rfl, by simp, Below.refl _ _⟩
 case round =>
  obtain ⟨j, hj, rfl, rfl, hbel⟩ := hrel
  by_cases hlt : j < n
  ·obtain ⟨c0, c1⟩ := (HE.out.stay hbel nL).2 j (by rw [ZD1]; exact hlt)
   rw [mkP_at] at c0 c1
   simp only at c0 c1
   have d1 := fun d os => Calls.regrown_of (w := wr) (d := d) (os := os) (ZAU (K + 2 * (j : Int)) (grow (redrawn wr d) os) (by omega) (by omega))
   have HB := hid hbel
   have C1 := hid c1
   have hK2 : 0 < K + 2 * (j : Int) + 1 := by omega
   have hK3 : K + 2 * (j : Int) + 1 ≤ 1000000000 := by omega
   have d2 := hid (fun W' => ZAU (K + 2 * (j : Int) + 1) W' hK2 hK3)
   clear hbel c1
   generalize markT (K + 2 * (j : Int)) = S4 at *
   generalize markT (K + 2 * (j : Int) + 1) = S5 at *
   go_wp2
   have c0' := cell_regrown c0
   clear c0
   refine wp_region_quiet_below mixed (by kernel_rfl) ?_
   repeat (go_big_quiet_step ((go_at_call 32; exact d1 _ _)))
   refine wpQuiet_nil ?_
   intro W2 hw'
   have HR := hid (show Below wr.heap.size wr W2 by obtain ⟨⟨dq, osq⟩, hw''⟩ := hw'; subst hw''; exact below_regrown wr dq osq)
   clear hw' c0' d1
   have c1 := (HR.out.cell (block_lt_of_cell C1.out)).trans C1.out
   have d3 := fun d os => Calls.regrown_of (w := W2) (d := d) (os := os) (d2.out (grow (redrawn W2 d) os))
   go_wp2
   have c1' := cell_regrown c1
   clear c1
   refine wp_region_quiet_below mixed (by kernel_rfl) ?_
   repeat (go_big_quiet_step ((go_at_call 32; exact d3 _ _)))
   refine wpQuiet_nil ?_
   intro W3 hw'
   have HR3 := hid (show Below W2.heap.size W2 W3 by obtain ⟨⟨dq, osq⟩, hw''⟩ := hw'; subst hw''; exact below_regrown W2 dq osq)
   clear hw' c1' d3
   go_wp2
   go_roundw
   case rel => exact ⟨j + 1, by omega, by go_num, by go_num, (HB.out.trans (HR.out.mono HB.out.size)).trans (HR3.out.mono (HB.out.trans (HR.out.mono HB.out.size)).size)⟩
   case measure => simp [intOf]; omega
  ·have hje : j = n := by omega
   have HJ := hid hje
   clear hje
   go_wp2
   go_ret
   exact ⟨by rw [HJ.out]; rfl, hbel⟩
theorem ZDU (a : Option Addr) (c : Nat) (K : Int) (w : World) :
  Calls Tryz.prog 76 #[.slice a 0 c, .int .i64 K] w fun e w' => e = .returned (.int .i64 K) ∧ w' = w := by
 go_enter Tryz.func76, Tryz.ntmps76
 go_wp2
 go_loopw [1, 5] (fun kv i wr => kv = .int .i64 K ∧ i = .int .i64 0 ∧ wr = w) (fun _ _ _ => 0)
 case atStart => exact ⟨rfl, rfl, rfl⟩
 case round =>
  obtain ⟨rfl, rfl, rfl⟩ := hrel
  go_wp2
  go_ret
  exact ⟨rfl, rfl⟩
theorem ZES (v : Value) (n base : Nat) (K : Int) (w : World) (h : w.ownsRow base 107 2 v n ((mkP K n).flatMap Pr.cells)) (hK : 0 < K) (hn : K + 2 * (n : Int) ≤ 1000000000) :
  Calls Tryz.prog 76 #[v, .int .i64 K] w fun e w' => e = .returned (.int .i64 (K + 2 * (n : Int))) ∧ Below w.heap.size w w' := by
 rcases ZAh h with ⟨a, c, rfl, h0⟩ | ⟨g, o, c, rfl, _, hE⟩
 ·have : n = 0 := by rw [← ZD1 K n, h0]; rfl
  subst this
  refine (ZDU a c K w).mono ?_
  rintro e w' ⟨rfl, rfl⟩
  exact ⟨by simp, Below.refl _ _⟩
 ·rw [ZD1]
  exact ZDx g o c n K w hE hK hn
end Go.Proofs.YtookchpdbilbcaaGreatDoor
/-
 What laws.markDef, heldDef, markService, heldService do to rows of one's own (a Service of no events): contracts over the seat's program.
-/
namespace Go.Proofs.YtookchpdbilbcaaGreatDoor
open Go.RowKit Go.Sort
theorem ZCO (a : Option Addr) (c : Nat) (K : Int) (w : World) :
  Calls Tryz.prog 58 #[.slice a 0 c, .int .i64 K] w fun e w' => e = .returned (.int .i64 K) ∧ w' = w := by
 go_enter Tryz.func58, Tryz.ntmps58
 go_wp2
 go_loopw [1, 5] (fun kv i wr => kv = .int .i64 K ∧ i = .int .i64 0 ∧ wr = w) (fun _ _ _ => 0)
 case atStart => exact ⟨rfl, rfl, rfl⟩
 case round =>
  obtain ⟨rfl, rfl, rfl⟩ := hrel
  go_wp2
  go_ret
  exact ⟨rfl, rfl⟩
theorem ZCN (a : Option Addr) (c : Nat) (K : Int) (w : World) :
  Calls Tryz.prog 15 #[.slice a 0 c, .int .i64 K] w fun e w' => e = .returned (.int .i64 K) ∧ w' = w := by
 go_enter Tryz.func15, Tryz.ntmps15
 go_wp2
 go_loopw [1, 5] (fun kv i wr => kv = .int .i64 K ∧ i = .int .i64 0 ∧ wr = w) (fun _ _ _ => 0)
 case atStart => exact ⟨rfl, rfl, rfl⟩
 case round =>
  obtain ⟨rfl, rfl, rfl⟩ := hrel
  go_wp2
  go_ret
  exact ⟨rfl, rfl⟩
/-- Rows that bear the marks from a number on. -/
structure MkOwn (w : World) (lo n1 n2 : Nat) (K : Int) (u1 u2 : Value) : Prop where
 o1 : w.ownsRow lo 9 1 u1 n1 ((mkS K n1).map Value.string)
 o2 : w.ownsRow lo 107 2 u2 n2 ((mkP (K + (n1 : Int)) n2).flatMap Pr.cells)
theorem MkOwn.stay {w w' : World} {lo n1 n2 : Nat} {K : Int} {u1 u2 : Value} (h : MkOwn w lo n1 n2 K u1 u2) (hb : Below w.heap.size w w') : MkOwn w' lo n1 n2 K u1 u2 := ⟨ZAE h.o1 hb, ZAE h.o2 hb⟩
theorem ZFR (lo n1 n2 : Nat) (K : Int) (a1 a2 : Option Addr) (k1 k2 : Nat) (xs ys : List Value) (w : World) (o1 : w.ownsRow lo 9 1 (.slice a1 n1 k1) n1 xs) (o2 : w.ownsRow lo 107 2 (.slice a2 n2 k2) n2 ys) (hK : 0 < K) (hn : K + (n1 : Int) + 2 * (n2 : Int) ≤ 1000000000) :
  Calls Tryz.prog 31 #[.agg #[.slice a1 n1 k1, .slice a2 n2 k2], .int .i64 K] w fun e w' => e = .returned (.int .i64 (K + (n1 : Int) + 2 * (n2 : Int))) ∧ MkOwn w' lo n1 n2 K (.slice a1 n1 k1) (.slice a2 n2 k2) ∧ Chg (fun j => (Value.slice a1 n1 k1).ownBlock = some j ∨ (Value.slice a2 n2 k2).ownBlock = some j) w w' := by
 have hb : Below w.heap.size w (w.alloc (.cells #[.slice a1 n1 k1, .slice a2 n2 k2] 33)) := (bR _ _).alloc nL _
 have H1 := hid o1
 have O2 := hid (ZAE o2 hb)
 have hne : ¬ (Value.slice a1 n1 k1).ownBlock = some w.heap.size := fun e => by have := (o1.lt _ e).2; omega
 have HA := hid (ZBX o1 o2 (by decide))
 have cM := hid (ZCx _ n1 lo K xs _ (ZAE o1 hb) hK (by omega))
 have d1 : (w.alloc (.cells #[.slice a1 n1 k1, .slice a2 n2 k2] 33)).cell? ⟨w.heap.size, 1, none⟩ = some (.slice a2 n2 k2) := by simp [go_sem]
 have D1 := hid d1
 have HB := hid hb
 clear o1 o2 hb d1
 go_enter Tryz.func31, Tryz.ntmps31
 go_wp2_with fail
 refine cM.out.mono ?_
 generalize w.alloc (.cells #[.slice a1 n1 k1, .slice a2 n2 k2] 33) = W at *
 rintro e W1 ⟨rfl, hm1, hg1⟩
 have hC1 : Chg (fun j => (Value.slice a1 n1 k1).ownBlock = some j) W W1 := Chg.of_row hg1 (fun j h => h)
 have d1 := (hC1.cell (g := w.heap.size) (o := 1) (block_lt_of_cell D1.out) hne).trans D1.out
 have cN := hid (ZED _ n2 lo (K + (n1 : Int)) ys W1 (ZAJ O2.out hC1 (fun g hg he => HA.out g he hg)) (by omega) (by omega))
 have HC1 := hid hC1
 have HM1 := hid hm1
 clear hC1 hg1 cM hm1
 go_wp2_with fail
 refine cN.out.mono ?_
 rintro e W2 ⟨rfl, hm2, hg2⟩
 have HC2 := hid (Chg.of_row (p := fun j => (Value.slice a2 n2 k2).ownBlock = some j) hg2 (fun j h => h))
 have HM2 := hid hm2
 clear hg2 cN d1 hm2
 go_wp2
 go_ret
 exact ⟨rfl, ⟨ZAJ HM1.out HC2.out (fun g hg he => ZBX HM1.out (ZAJ O2.out HC1.out (fun g hg he => HA.out g he hg)) (by decide) g hg he), HM2.out⟩, ((Chg.of_below HB.out).trans (HC1.out.mono (fun j h => .inl h))).trans (HC2.out.mono (fun j h => .inr h))⟩
theorem ZFm (lo n1 n2 : Nat) (K : Int) (a1 a2 : Option Addr) (k1 k2 : Nat) (w : World) (h : MkOwn w lo n1 n2 K (.slice a1 n1 k1) (.slice a2 n2 k2)) (hK : 0 < K) (hn : K + (n1 : Int) + 2 * (n2 : Int) ≤ 1000000000) :
  Calls Tryz.prog 57 #[.agg #[.slice a1 n1 k1, .slice a2 n2 k2], .int .i64 K] w fun e w' => e = .returned (.int .i64 (K + (n1 : Int) + 2 * (n2 : Int))) ∧ Below w.heap.size w w' := by
 have HB := hid (show Below w.heap.size w (w.alloc (.cells #[.slice a1 n1 k1, .slice a2 n2 k2] 33)) from (bR _ _).alloc nL _)
 have HX := hid (heap_alloc_new w (.cells #[.slice a1 n1 k1, .slice a2 n2 k2] 33))
 have HH := hid h
 have b1 : ((K + (n1 : Int)) < 0) = False := by simp; omega
 have b2 : ((K + (n1 : Int) + 2 * (n2 : Int)) < 0) = False := by simp; omega
 clear h
 go_enter Tryz.func57, Tryz.ntmps57
 go_upto_region 1 with fail
 generalize w.alloc (.cells #[.slice a1 n1 k1, .slice a2 n2 k2] 33) = W at *
 have x0 : W.cell? ⟨w.heap.size, 0, none⟩ = some (.slice a1 n1 k1) := ce HX.out rfl
 go_wp2_with fail
 refine (ZCn _ n1 lo K W (ZAE HH.out.o1 HB.out) hK (by omega)).mono ?_
 rintro e W1 ⟨rfl, hb1⟩
 have HB1 := hid (HB.out.trans (hb1.mono HB.out.size))
 have x1 : W1.cell? ⟨w.heap.size, 1, none⟩ = some (.slice a2 n2 k2) := by rw [Lib.cell_of_heap ((hb1.block _ (ZAA HX.out)).trans HX.out)]; rfl
 clear hb1
 go_wp2_with fail
 refine (ZES _ n2 lo (K + (n1 : Int)) W1 (ZAE HH.out.o2 HB1.out) (by omega) (by omega)).mono ?_
 rintro e W2 ⟨rfl, hb2⟩
 have HB2 := hid (HB1.out.trans (hb2.mono HB1.out.size))
 clear hb2
 go_wp2
 go_ret
 exact ⟨rfl, HB2.out⟩
end Go.Proofs.YtookchpdbilbcaaGreatDoor
