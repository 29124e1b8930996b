/-
  What laws.markEventS does to a row of events, and what laws.heldEventS answers of it: contracts over the seat's program.
-/
import Derived.Test.YticnffakngpkfaaMark
import Derived.Test.YticnffakngpkfaaEvTo
import Derived.Test.YticnffakngpkfaaCur
import Derived.Lib.QuietBelow
namespace Go.Proofs.Yticnffakngpkfaa
open Go.RowKit Go.Sort

/-- The event that bears the marks from a number on. -/
def mkEv (k : Int) : Ev := ⟨k, k + 1, k + 1 + 1, k + 1 + 1 + 1, markT (k + 1 + 1 + 1 + 1), markT (k + 1 + 1 + 1 + 1 + 1)⟩
def marks (k : Int) (n : Nat) : List Ev := (List.range n).map fun i : Nat => mkEv (k + 6 * (i : Int))
theorem marks_len (k : Int) (n : Nat) : (marks k n).length = n := by simp [marks]
theorem marks_succ (k : Int) (n : Nat) : (marks k (n + 1)).flatMap Ev.cells = (marks k n).flatMap Ev.cells ++ (mkEv (k + 6 * (n : Int))).cells := by
  simp [marks, List.range_succ]
theorem marks_at {k : Int} {n i : Nat} (h : i < (marks k n).length) : (marks k n)[i] = mkEv (k + 6 * (i : Int)) := by simp [marks]

set_option maxHeartbeats 1000000 in
set_option maxRecDepth 100000 in
theorem markEventS_row (g n c : Nat) (L : List Value) (w : World) (hG : w.heap[g]? = some (.cells L.toArray 26 (0, 0))) (hL : n * 6 ≤ L.length) (hn : n ≤ 2000) :
    Calls Try.prog 36 #[.slice (some ⟨g, 0, none⟩) n c, .int .i64 1] w fun e w' =>
      ∃ L' : List Value, e = .returned (.int .i64 (1 + 6 * (n : Int))) ∧ w'.heap[g]? = some (.cells L'.toArray 26 (0, 0)) ∧ L'.length = L.length ∧ L'.take (n * 6) = (marks 1 n).flatMap Ev.cells ∧ w.grownBy w' (some g) := by
  have HG := hid hG
  have HL := hid hL
  clear hG hL
  go_enter Try.func36, Try.ntmps36
  go_wp2
  go_loopw [1, 5] (fun kv i wr => ∃ (j : Nat) (M : List Value), j ≤ n ∧ i = .int .i64 j ∧ kv = .int .i64 (1 + 6 * (j : Int)) ∧ M.length = L.length ∧ M.take (j * 6) = (marks 1 j).flatMap Ev.cells ∧ wr.heap[g]? = some (.cells M.toArray 26 (0, 0)) ∧ w.grownBy wr (some g)) (fun _ i _ => n - (intOf i).toNat)
  case atStart => exact ⟨0, L, Nat.zero_le _, rfl, rfl, rfl, by simp [marks], HG.out, World.grownBy.refl _ _⟩
  case round =>
    obtain ⟨j, M, hj, rfl, rfl, hM, hT, hGr, hgr⟩ := hrel
    have HM := hid hM
    have HT := hid hT
    have HGr := hid hGr
    have Hgr := hid hgr
    clear hM hT hGr hgr
    by_cases hlt : j < n
    · have hjl : j * 6 + 6 ≤ M.length := by have := HM.out; have := HL.out; omega
      have c4 := fun w => markText_any (1 + 6 * (j : Int) + 1 + 1 + 1 + 1) w (by omega) (by omega)
      have c5 := fun w => markText_any (1 + 6 * (j : Int) + 1 + 1 + 1 + 1 + 1) w (by omega) (by omega)
      have hce : ∀ t, t < 6 → ∃ u, wr.cell? ⟨g, j * 6 + t, none⟩ = some u := fun t ht => cell_there HGr.out (by omega)
      obtain ⟨u0, d0⟩ : ∃ u, wr.cell? ⟨g, j * 6, none⟩ = some u := hce 0 (by decide)
      obtain ⟨u1, d1⟩ := hce 1 (by decide)
      obtain ⟨u2, d2⟩ := hce 2 (by decide)
      obtain ⟨u3, d3⟩ := hce 3 (by decide)
      have hfz : ∀ t, wr.frozen? ⟨g, t, none⟩ = false := fun t => Lib.frozen_of_heap HGr.out t
      clear hce
      have HS := hid (set6_take (L := M) (i := j * 6) (a := .int .i64 (1 + 6 * (j : Int))) (b := .int .i64 (1 + 6 * (j : Int) + 1)) (c := .int .i64 (1 + 6 * (j : Int) + 1 + 1)) (d := .int .i64 (1 + 6 * (j : Int) + 1 + 1 + 1)) (e := .string (markT (1 + 6 * (j : Int) + 1 + 1 + 1 + 1))) (f := .string (markT (1 + 6 * (j : Int) + 1 + 1 + 1 + 1 + 1))) hjl)
      have HMS := hid (marks_succ 1 j)
      unfold mkEv at HMS
      generalize markT (1 + 6 * (j : Int) + 1 + 1 + 1 + 1) = S4 at *
      generalize markT (1 + 6 * (j : Int) + 1 + 1 + 1 + 1 + 1) = S5 at *
      go_wp2_with fail
      have hA := blk_set (i := j * 6 + 3) (blk_set (i := j * 6 + 2) (blk_set (i := j * 6 + 1) (blk_set (i := j * 6) HGr.out (.int .i64 (1 + 6 * (j : Int)))) (.int .i64 (1 + 6 * (j : Int) + 1))) (.int .i64 (1 + 6 * (j : Int) + 1 + 1))) (.int .i64 (1 + 6 * (j : Int) + 1 + 1 + 1))
      have hgA := grown_trans (grown_trans (grown_trans (grown_trans Hgr.out (grown_set _ g (j * 6) (.int .i64 (1 + 6 * (j : Int))))) (grown_set _ g (j * 6 + 1) (.int .i64 (1 + 6 * (j : Int) + 1)))) (grown_set _ g (j * 6 + 2) (.int .i64 (1 + 6 * (j : Int) + 1 + 1)))) (grown_set _ g (j * 6 + 3) (.int .i64 (1 + 6 * (j : Int) + 1 + 1 + 1)))
      refine (c4 _).mono ?_
      rintro e w2 ⟨rfl, hb2⟩
      have hB : w2.heap[g]? = _ := (hb2.block g (lt_heap hA)).trans hA
      have hgB := hid (grown_trans hgA (grown_below hb2))
      have z4 := cell_there hB (j := j * 6 + 4) (by simp; omega)
      obtain ⟨u4, z4⟩ := z4
      have hfz2 : ∀ t, w2.frozen? ⟨g, t, none⟩ = false := fun t => Lib.frozen_of_heap hB t
      have HB := hid hB
      clear hA hgA hB hb2 d0 d1 d2 d3 hfz c4 Hgr HGr
      go_wp2_with fail
      have hC := blk_set (i := j * 6 + 4) HB.out (.string S4)
      have hgC := grown_trans hgB.out (grown_set _ g (j * 6 + 4) (.string S4))
      refine (c5 _).mono ?_
      rintro e w3 ⟨rfl, hb3⟩
      have hD : w3.heap[g]? = _ := (hb3.block g (lt_heap hC)).trans hC
      have hgD := hid (grown_trans hgC (grown_below hb3))
      have z5 := cell_there hD (j := j * 6 + 5) (by simp; omega)
      obtain ⟨u5, z5⟩ := z5
      have hfz3 : ∀ t, w3.frozen? ⟨g, t, none⟩ = false := fun t => Lib.frozen_of_heap hD t
      have HD := hid hD
      clear hC hgC hD hb3 z4 hfz2 c5 hgB HB
      go_wp2
      go_roundw
      case rel =>
        refine ⟨j + 1, _, by omega, by go_num, by go_num, ?_, ?_, blk_set (i := j * 6 + 5) HD.out (.string S5), grown_trans hgD.out (grown_set _ g (j * 6 + 5) (.string S5))⟩
        · rw [set6_len]; exact HM.out
        · rw [show (j + 1) * 6 = j * 6 + 6 by omega, HS.out, HT.out, HMS.out]; rfl
      case measure => simp [intOf]; omega
    · have hje : j = n := by omega
      have HJ := hid hje
      clear hje
      go_wp2
      go_ret
      refine ⟨M, by rw [HJ.out]; rfl, HGr.out, HM.out, ?_, Hgr.out⟩
      have := HT.out
      rwa [HJ.out] at this
end Go.Proofs.Yticnffakngpkfaa
