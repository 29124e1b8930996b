/-
  Texts put together: MkE, EvLz, EvEq.
-/
import Derived.Test.YthggcdadipjiiaaGreatDoorZImSO4
import Derived.Test.YthggcdadipjiiaaGreatDoorZDuH5
import Derived.Test.YthggcdadipjiiaaGreatDoorZDfLaw5
import Derived.Lib.QuietBelow
import Derived.Test.YthggcdadipjiiaaGreatDoorZNm4
/-
  What laws.markEventS does to a row of events, from any mark on: a contract over the seat's program.
-/
namespace Go.Proofs.YthggcdadipjiiaaGreatDoor
open Go.RowKit Go.Sort

/-- The event that bears the marks from a number on. -/
def mkEv (k : Int) : Ev := ⟨k, k + 1, k + 1 + 1, k + 1 + 1 + 1, markT (k + 1 + 1 + 1 + 1), markT (k + 1 + 1 + 1 + 1 + 1)⟩
def marks (k : Int) (n : Nat) : List Ev := (List.range n).map fun i : Nat => mkEv (k + 6 * (i : Int))
theorem marks_succ (k : Int) (n : Nat) : (marks k (n + 1)).flatMap Ev.cells = (marks k n).flatMap Ev.cells ++ (mkEv (k + 6 * (n : Int))).cells := by
  simp [marks, List.range_succ]
set_option maxHeartbeats 1000000 in
set_option maxRecDepth 100000 in
theorem markEventS_row (g n c : Nat) (K : Int) (L : List Value) (w : World) (hG : w.heap[g]? = some (.cells L.toArray 33 (0, 0))) (hL : n * 6 ≤ L.length) (hK : 0 < K) (hn : K + 6 * (n : Int) ≤ 1000000000) :
    Calls Tryz.prog 16 #[.slice (some ⟨g, 0, none⟩) n c, .int .i64 K] w fun e w' =>
      ∃ L' : List Value, e = .returned (.int .i64 (K + 6 * (n : Int))) ∧ w'.heap[g]? = some (.cells L'.toArray 33 (0, 0)) ∧ L'.length = L.length ∧ L'.take (n * 6) = (marks K n).flatMap Ev.cells ∧ w.grownBy w' (some g) := by
  have HG := hid hG
  have HL := hid hL
  clear hG hL
  go_enter Tryz.func16, Tryz.ntmps16
  go_wp2
  go_loopw [1, 5] (fun kv i wr => ∃ (j : Nat) (M : List Value), j ≤ n ∧ i = .int .i64 j ∧ kv = .int .i64 (K + 6 * (j : Int)) ∧ M.length = L.length ∧ M.take (j * 6) = (marks K j).flatMap Ev.cells ∧ wr.heap[g]? = some (.cells M.toArray 33 (0, 0)) ∧ w.grownBy wr (some g)) (fun _ i _ => n - (intOf i).toNat)
  case atStart => exact ⟨0, L, Nat.zero_le _, rfl, by simp, rfl, by simp [marks], HG.out, World.grownBy.refl _ _⟩
  case round =>
    obtain ⟨j, M, hj, rfl, rfl, hM, hT, hGr, hgr⟩ := hrel
    have HM := hid hM
    have HT := hid hT
    have HGr := hid hGr
    have Hgr := hid hgr
    clear hM hT hGr hgr
    by_cases hlt : j < n
    · have hjl : j * 6 + 6 ≤ M.length := by have := HM.out; have := HL.out; omega
      have c4 := fun w => markText_any (K + 6 * (j : Int) + 1 + 1 + 1 + 1) w (by omega) (by omega)
      have c5 := fun w => markText_any (K + 6 * (j : Int) + 1 + 1 + 1 + 1 + 1) w (by omega) (by omega)
      have hce : ∀ t, t < 6 → ∃ u, wr.cell? ⟨g, j * 6 + t, none⟩ = some u := fun t ht => cell_there HGr.out (by omega)
      obtain ⟨u0, d0⟩ : ∃ u, wr.cell? ⟨g, j * 6, none⟩ = some u := hce 0 (by decide)
      obtain ⟨u1, d1⟩ := hce 1 (by decide)
      obtain ⟨u2, d2⟩ := hce 2 (by decide)
      obtain ⟨u3, d3⟩ := hce 3 (by decide)
      have hfz : ∀ t, wr.frozen? ⟨g, t, none⟩ = false := fun t => Lib.frozen_of_heap HGr.out t
      clear hce
      have HS := hid (set6_take (L := M) (i := j * 6) (a := .int .i64 (K + 6 * (j : Int))) (b := .int .i64 (K + 6 * (j : Int) + 1)) (c := .int .i64 (K + 6 * (j : Int) + 1 + 1)) (d := .int .i64 (K + 6 * (j : Int) + 1 + 1 + 1)) (e := .string (markT (K + 6 * (j : Int) + 1 + 1 + 1 + 1))) (f := .string (markT (K + 6 * (j : Int) + 1 + 1 + 1 + 1 + 1))) hjl)
      have HMS := hid (marks_succ K j)
      unfold mkEv at HMS
      generalize markT (K + 6 * (j : Int) + 1 + 1 + 1 + 1) = S4 at *
      generalize markT (K + 6 * (j : Int) + 1 + 1 + 1 + 1 + 1) = S5 at *
      go_wp2_with fail
      have hA := blk_set (i := j * 6 + 3) (blk_set (i := j * 6 + 2) (blk_set (i := j * 6 + 1) (blk_set (i := j * 6) HGr.out (.int .i64 (K + 6 * (j : Int)))) (.int .i64 (K + 6 * (j : Int) + 1))) (.int .i64 (K + 6 * (j : Int) + 1 + 1))) (.int .i64 (K + 6 * (j : Int) + 1 + 1 + 1))
      have hgA := grown_trans (grown_trans (grown_trans (grown_trans Hgr.out (grown_set _ g (j * 6) (.int .i64 (K + 6 * (j : Int))))) (grown_set _ g (j * 6 + 1) (.int .i64 (K + 6 * (j : Int) + 1)))) (grown_set _ g (j * 6 + 2) (.int .i64 (K + 6 * (j : Int) + 1 + 1)))) (grown_set _ g (j * 6 + 3) (.int .i64 (K + 6 * (j : Int) + 1 + 1 + 1)))
      refine (c4 _).mono ?_
      rintro e w2 ⟨rfl, hb2⟩
      have hB : w2.heap[g]? = _ := (hb2.block g (lt_heap hA)).trans hA
      have hgB := hid (grown_trans hgA (grown_below hb2))
      have z4 := cell_there hB (j := j * 6 + 4) (by simp; omega)
      obtain ⟨u4, z4⟩ := z4
      have hfz2 : ∀ t, w2.frozen? ⟨g, t, none⟩ = false := fun t => Lib.frozen_of_heap hB t
      have HB := hid hB
      clear hA hgA hB hb2 d0 d1 d2 d3 hfz c4 Hgr HGr
      go_wp2_with fail
      have hC := blk_set (i := j * 6 + 4) HB.out (.string S4)
      have hgC := grown_trans hgB.out (grown_set _ g (j * 6 + 4) (.string S4))
      refine (c5 _).mono ?_
      rintro e w3 ⟨rfl, hb3⟩
      have hD : w3.heap[g]? = _ := (hb3.block g (lt_heap hC)).trans hC
      have hgD := hid (grown_trans hgC (grown_below hb3))
      have z5 := cell_there hD (j := j * 6 + 5) (by simp; omega)
      obtain ⟨u5, z5⟩ := z5
      have hfz3 : ∀ t, w3.frozen? ⟨g, t, none⟩ = false := fun t => Lib.frozen_of_heap hD t
      have HD := hid hD
      clear hC hgC hD hb3 z4 hfz2 c5 hgB HB
      go_wp2
      go_roundw
      case rel =>
        refine ⟨j + 1, _, by omega, by go_num, by go_num, ?_, ?_, blk_set (i := j * 6 + 5) HD.out (.string S5), grown_trans hgD.out (grown_set _ g (j * 6 + 5) (.string S5))⟩
        · rw [set6_len]; exact HM.out
        · rw [show (j + 1) * 6 = j * 6 + 6 by omega, HS.out, HT.out, HMS.out]; rfl
      case measure => simp [intOf]; omega
    · have hje : j = n := by omega
      have HJ := hid hje
      clear hje
      go_wp2
      go_ret
      refine ⟨M, by rw [HJ.out]; rfl, HGr.out, HM.out, ?_, Hgr.out⟩
      have := HT.out
      rwa [HJ.out] at this
theorem markEventS_none (a : Option Addr) (c : Nat) (K : Int) (w : World) :
    Calls Tryz.prog 16 #[.slice a 0 c, .int .i64 K] w fun e w' => e = .returned (.int .i64 K) ∧ w' = w := by
  go_enter Tryz.func16, Tryz.ntmps16
  go_wp2
  go_loopw [1, 5] (fun kv i wr => kv = .int .i64 K ∧ i = .int .i64 0 ∧ wr = w) (fun _ _ _ => 0)
  case atStart => exact ⟨rfl, rfl, rfl⟩
  case round =>
    obtain ⟨rfl, rfl, rfl⟩ := hrel
    go_wp2
    go_ret
    exact ⟨rfl, rfl⟩
theorem markEventS_own (v : Value) (n base : Nat) (K : Int) (xs : List Value) (w : World) (h : w.ownsRow base 33 6 v n xs) (hK : 0 < K) (hn : K + 6 * (n : Int) ≤ 1000000000) :
    Calls Tryz.prog 16 #[v, .int .i64 K] w fun e w' => e = .returned (.int .i64 (K + 6 * (n : Int))) ∧ Chg (fun j => v.ownBlock = some j) w w' := by
  rcases h.2 with ⟨rfl, rfl⟩ | ⟨g, cap, cur, rfl, hb, hg, hc, hm, hs, ht⟩
  · refine (markEventS_none none 0 K w).mono ?_
    rintro e w' ⟨rfl, rfl⟩
    exact ⟨by simp, Chg.refl _ _⟩
  · have hg' : w.heap[g]? = some (.cells cur.toList.toArray 33 (0, 0)) := by simpa using hg
    refine (markEventS_row g n cap K cur.toList w hg' (by rw [Array.length_toList, hs]; omega) hK hn).mono ?_
    rintro e w' ⟨L', rfl, h1, h2, h3, h4⟩
    exact ⟨rfl, Chg.of_grown h4 rfl⟩
end Go.Proofs.YthggcdadipjiiaaGreatDoor

/-
  What laws.szEventS answers at every slice of events. A contract over the seat's program.
-/
namespace Go.Proofs.YthggcdadipjiiaaGreatDoor
open Go.RowKit

theorem szR_two (es : List Ev) {left : Int} (_h0 : 0 ≤ left) : szR left es = -1 ∨ (0 ≤ szR left es ∧ (es.length : Int) ≤ left) := by
  by_cases h : (es.length : Int) + (sumE es : Int) ≤ left
  · rw [szR_yes h]; right; constructor <;> omega
  · rw [szR_no (by omega)]; exact .inl rfl
theorem szEventS_all (v : Value) (es : List Ev) (left : Int) (w : World) (h : EvSl w v es) (hF : Fit es) (h0 : 0 ≤ left) (h1 : left ≤ 1048576) (hn : es.length ≤ maxLen) :
    Calls Tryz.prog 9 #[v, .int .i64 left] w fun e w' => e = .returned (.int .i64 (szR left es)) ∧ Below w.heap.size w w' := by
  rcases h with ⟨a, c, rfl, rfl⟩ | ⟨g, o, c, rfl, _, h⟩
  · refine (szEventS_none a c left w h0 h1).mono ?_
    rintro e w' ⟨rfl, rfl⟩
    exact ⟨by rw [szR_yes (by simp [sumE]; omega)]; simp [sumE], Below.refl _ _⟩
  · exact szEventS_row g o c es left w h hF h0 h1 hn
end Go.Proofs.YthggcdadipjiiaaGreatDoor

/-
  What laws.eqEvent and laws.eqEventS answer at the same events: contracts over the seat's program.
-/
namespace Go.Proofs.YthggcdadipjiiaaGreatDoor
open Go.RowKit Go.Sort

theorem eqEvent_same (q t r k : Int) (s v : ByteArray) (w : World) :
    Calls Tryz.prog 40 #[.agg #[.int .i64 q, .int .i64 t, .int .i64 r, .int .i64 k, .string s, .string v], .agg #[.int .i64 q, .int .i64 t, .int .i64 r, .int .i64 k, .string s, .string v]] w fun e w' => e = .returned (.bool true) ∧ Below w.heap.size w w' := by
  go_enter Tryz.func40, Tryz.ntmps40
  go_wp2
  go_ret
  exact ⟨rfl, ((Below.refl _ _).alloc (Nat.le_refl _) _).alloc (by simp) _⟩

set_option maxHeartbeats 4000000 in
set_option maxRecDepth 1000000 in
theorem eqEventS_row (g1 o1 c1 g2 o2 c2 : Nat) (es : List Ev) (w : World) (hE1 : EvsAt w g1 o1 es) (hE2 : EvsAt w g2 o2 es) (hn : es.length ≤ maxLen) :
    Calls Tryz.prog 14 #[.slice (some ⟨g1, o1, none⟩) es.length c1, .slice (some ⟨g2, o2, none⟩) es.length c2] w fun e w' => e = .returned (.bool true) ∧ Below w.heap.size w w' := by
  unfold maxLen at hn
  have mixed : Tryz.prog.follows .mixedOrders = true := by kernel_rfl
  have HE1 := hid hE1
  have HE2 := hid hE2
  clear hE1 hE2
  go_enter Tryz.func14, Tryz.ntmps14
  go_wp2
  go_loopw [5] (fun i wr => ∃ k : Nat, k ≤ es.length ∧ i = .int .i64 k ∧ Below w.heap.size w wr) (fun i _ => es.length - (intOf i).toNat)
  case atStart => exact ⟨0, Nat.zero_le _, rfl, Below.refl _ _⟩
  case round =>
    obtain ⟨k, hk, rfl, hbel⟩ := hrel
    by_cases hlt : k < es.length
    · obtain ⟨a0, a1, a2, a3, a4, a5⟩ := (HE1.out.stay hbel (Nat.le_refl _)).2 k hlt
      obtain ⟨b0, b1, b2, b3, b4, b5⟩ := (HE2.out.stay hbel (Nat.le_refl _)).2 k hlt
      generalize es[k].seq = q0 at *
      generalize es[k].time = q1 at *
      generalize es[k].run = q2 at *
      generalize es[k].kind = q3 at *
      generalize es[k].step = q4 at *
      generalize es[k].val = q5 at *
      have k0 := cell_regrown a0
      have k1 := cell_regrown a1
      have k2 := cell_regrown a2
      have k3 := cell_regrown a3
      have k4 := cell_regrown a4
      have k5 := cell_regrown a5
      have l0 := cell_regrown b0
      have l1 := cell_regrown b1
      have l2 := cell_regrown b2
      have l3 := cell_regrown b3
      have l4 := cell_regrown b4
      have l5 := cell_regrown b5
      have d1 := fun d os => Calls.regrown_of (w := wr) (d := d) (os := os) (eqEvent_same q0 q1 q2 q3 q4 q5 _)
      clear a0 a1 a2 a3 a4 a5 b0 b1 b2 b3 b4 b5
      go_wp2
      refine wp_region_quiet_below mixed (by kernel_rfl) ?_
      repeat (quiet_step (first | (go_at_call 40; exact d1 _ _)))
      refine wpQuiet_nil ?_
      intro _ hw'
      obtain ⟨⟨dq, osq⟩, hw''⟩ := hw'
      subst hw''
      have hbX := hbel.trans ((below_regrown wr dq osq).mono hbel.size)
      clear k0 k1 k2 k3 k4 k5 l0 l1 l2 l3 l4 l5 d1
      go_wp2
      go_roundw
      case rel => exact ⟨k + 1, by omega, by go_num, hbX⟩
      case measure => simp [intOf]; omega
    · go_wp2
      go_ret
      exact ⟨rfl, hbel⟩
theorem eqEventS_none (a1 a2 : Option Addr) (c1 c2 : Nat) (w : World) :
    Calls Tryz.prog 14 #[.slice a1 0 c1, .slice a2 0 c2] w fun e w' => e = .returned (.bool true) ∧ Below w.heap.size w w' := by
  go_enter Tryz.func14, Tryz.ntmps14
  go_wp2
  go_loop [5] (fun i => i = .int .i64 0) (fun _ => 0)
  case atStart => exact rfl
  case round =>
    subst hrel
    go_wp2
    go_ret
    exact ⟨rfl, Below.refl _ _⟩
theorem eqEventS_any (v1 v2 : Value) (es : List Ev) (w : World) (h1 : EvSl w v1 es) (h2 : EvSl w v2 es) (hn : es.length ≤ maxLen) :
    Calls Tryz.prog 14 #[v1, v2] w fun e w' => e = .returned (.bool true) ∧ Below w.heap.size w w' := by
  rcases h1 with ⟨a, c, rfl, rfl⟩ | ⟨g, o, c, rfl, hp, h⟩
  · rcases h2 with ⟨a', c', rfl, _⟩ | ⟨g', o', c', rfl, hp', h'⟩
    · exact eqEventS_none a a' c c' w
    · simp at hp'
  · rcases h2 with ⟨a', c', rfl, h0⟩ | ⟨g', o', c', rfl, hp', h'⟩
    · rw [h0] at hp; simp at hp
    · exact eqEventS_row g o c g' o' c' es w h h' hn
end Go.Proofs.YthggcdadipjiiaaGreatDoor
