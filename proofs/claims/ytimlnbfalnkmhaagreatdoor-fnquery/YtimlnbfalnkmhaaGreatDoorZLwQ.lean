/-
  What laws.lwQuery answers at two Querys of the same content: a contract over the seat's program.
-/
import Derived.Test.YtimlnbfalnkmhaaGreatDoorZQyDr2
import Derived.BigQuiet
import Derived.Deep.QuietTactic
namespace Go.Proofs.YtimlnbfalnkmhaaGreatDoor
open Go.RowKit
set_option linter.unusedVariables false

theorem drewN_bel (w : World) (n : Nat) : Below w.heap.size w (w.drewN n) := ⟨rfl, rfl, rfl, Nat.le_refl _, fun _ _ => rfl⟩
set_option maxRecDepth 100000 in
set_option maxHeartbeats 4000000 in
theorem lwQuery_same (q : Qy) (a1 a2 : Option Addr) (k1 k2 : Nat) (w : World) (hC1 : CdSl w (.slice a1 q.cs.length k1) q.cs) (hC2 : CdSl w (.slice a2 q.cs.length k2) q.cs) (hn : q.cs.length ≤ maxLen) :
    Calls Tryz.prog 12 #[qyV q a1 k1, qyV q a2 k2] w fun e w' => e = .returned (.bool true) ∧ Below w.heap.size w w' := by
  have mixed : Tryz.prog.follows .mixedOrders = true := by kernel_rfl
  obtain ⟨cnt, cs, by', ord, dwn, lim⟩ := q
  unfold qyV
  simp only at hC1 hC2 hn ⊢
  unfold maxLen at hn
  have q1 : (by'.toList == by'.toList) = true := by simp
  have q2 : (ord.toList == ord.toList) = true := by simp
  have q3 : (lim == lim) = true := by simp
  have q0 : (0 : Int) ≤ (cs.length : Int) := by omega
  have hb0 : Below w.heap.size w ((w.alloc (.cells #[.bool cnt, .slice a1 cs.length k1, .string by', .string ord, .bool dwn, .int .i64 lim] 25)).alloc (.cells #[.bool cnt, .slice a2 cs.length k2, .string by', .string ord, .bool dwn, .int .i64 lim] 25)) := ((Below.refl _ _).alloc (Nat.le_refl _) _).alloc (by simp) _
  have HC1 := hid (hC1.stayQ hb0)
  have HC2 := hid (hC2.stayQ hb0)
  have HB0 := hid hb0
  clear hb0 hC1 hC2
  go_enter Tryz.func12, Tryz.ntmps12
  go_wp2_with fail
  have HA1 : Hid (((w.alloc (.cells #[.bool cnt, .slice a1 cs.length k1, .string by', .string ord, .bool dwn, .int .i64 lim] 25)).alloc (.cells #[.bool cnt, .slice a2 cs.length k2, .string by', .string ord, .bool dwn, .int .i64 lim] 25)).heap[w.heap.size]? = some (.cells #[.bool cnt, .slice a1 cs.length k1, .string by', .string ord, .bool dwn, .int .i64 lim] 25)) := hid (((Below.refl _ (w.alloc (.cells #[.bool cnt, .slice a1 cs.length k1, .string by', .string ord, .bool dwn, .int .i64 lim] 25))).alloc (Nat.le_refl _) _).block _ (lt_heap (heap_alloc_new w _)) |>.trans (heap_alloc_new w _))
  have HA2 : Hid (((w.alloc (.cells #[.bool cnt, .slice a1 cs.length k1, .string by', .string ord, .bool dwn, .int .i64 lim] 25)).alloc (.cells #[.bool cnt, .slice a2 cs.length k2, .string by', .string ord, .bool dwn, .int .i64 lim] 25)).heap[w.heap.size + 1]? = some (.cells #[.bool cnt, .slice a2 cs.length k2, .string by', .string ord, .bool dwn, .int .i64 lim] 25)) := hid (by have := heap_alloc_new (w.alloc (.cells #[.bool cnt, .slice a1 cs.length k1, .string by', .string ord, .bool dwn, .int .i64 lim] 25)) (.cells #[.bool cnt, .slice a2 cs.length k2, .string by', .string ord, .bool dwn, .int .i64 lim] 25); simpa using this)
  generalize (w.alloc (.cells #[.bool cnt, .slice a1 cs.length k1, .string by', .string ord, .bool dwn, .int .i64 lim] 25)).alloc (.cells #[.bool cnt, .slice a2 cs.length k2, .string by', .string ord, .bool dwn, .int .i64 lim] 25) = W0 at *
  go_loopw [5] (fun i wr => ∃ k : Nat, k ≤ cs.length ∧ i = .int .i64 k ∧ Below W0.heap.size W0 wr) (fun i _ => cs.length - (intOf i).toNat)
  case atStart => exact ⟨0, Nat.zero_le _, rfl, Below.refl _ _⟩
  case round =>
    obtain ⟨k, hk, rfl, hbel⟩ := hrel
    have B := hid hbel
    have HBW := hid (HB0.out.trans (hbel.mono HB0.out.size))
    have p1 : wr.cell? ⟨w.heap.size, 1, none⟩ = some (.slice a1 cs.length k1) := by rw [Lib.cell_of_heap ((hbel.block _ (lt_heap HA1.out)).trans HA1.out)]; rfl
    have p2 : wr.cell? ⟨w.heap.size + 1, 1, none⟩ = some (.slice a2 cs.length k2) := by rw [Lib.cell_of_heap ((hbel.block _ (lt_heap HA2.out)).trans HA2.out)]; rfl
    by_cases hlt : k < cs.length
    · obtain ⟨g1, o1, rfl, hE1⟩ := (HC1.out.stayQ hbel).rowQ (by omega)
      obtain ⟨g2, o2, rfl, hE2⟩ := (HC2.out.stayQ hbel).rowQ (by omega)
      obtain ⟨y0, y1, y2, y3⟩ := hE1.2 k hlt
      obtain ⟨z0, z1, z2, z3⟩ := hE2.2 k hlt
      clear hE1 hE2 hbel
      generalize cs[k].fld = s0 at *
      generalize cs[k].op = s1 at *
      generalize cs[k].wrd = s2 at *
      generalize cs[k].n = s3 at *
      have r0 : (s0.toList == s0.toList) = true := by simp
      have r1 : (s1.toList == s1.toList) = true := by simp
      have r2 : (s2.toList == s2.toList) = true := by simp
      have zk : (k : Int) < (cs.length : Int) := by omega
      go_wp2_with fail
      go_quiet (fail)
      go_wp2_with fail
      go_roundw
      case rel => exact ⟨k + 1, by omega, by go_num, B.out.trans (drewN_bel wr nq |>.mono B.out.size)⟩
      case measure => simp [intOf]; omega
    · clear hbel
      go_wp2_with fail
      go_ret
      exact ⟨rfl, HBW.out⟩
end Go.Proofs.YtimlnbfalnkmhaaGreatDoor
