/-
  What laws.markCondS does: a contract over the seat's program.
-/
import Derived.Test.YthgmphmghnonbaaDoorZSt
import Derived.Test.YthgmphmghnonbaaDoorZCdRow
import Derived.Test.YthgmphmghnonbaaDoorZStrs
namespace Go.Proofs.YthgmphmghnonbaaDoor
open Go.RowKit

theorem cell_thr {w : World} {g j : Nat} {L : List Value} {t : TypeId} (h : w.heap[g]? = some (.cells L.toArray t (0, 0))) (hj : j < L.length) : ∃ u, w.cell? ⟨g, j, none⟩ = some u := by
  rw [Lib.cell_of_heap h]
  exact ⟨L[j], by simp [hj]⟩
def mkC (k : Int) (n : Nat) : List Cd := (List.range n).map fun i : Nat => ⟨markT (k + 4 * (i : Int)), markT (k + 4 * (i : Int) + 1), markT (k + 4 * (i : Int) + 2), k + 4 * (i : Int) + 3⟩
theorem mkC_len (k : Int) (n : Nat) : (mkC k n).length = n := by simp [mkC]
theorem mkC_succ (k : Int) (n : Nat) : (mkC k (n + 1)).flatMap Cd.cells = (mkC k n).flatMap Cd.cells ++ [.string (markT (k + 4 * (n : Int))), .string (markT (k + 4 * (n : Int) + 1)), .string (markT (k + 4 * (n : Int) + 2)), .int .i64 (k + 4 * (n : Int) + 3)] := by simp [mkC, List.range_succ, Cd.cells]
theorem mkC_at {k : Int} {n i : Nat} (h : i < (mkC k n).length) : (mkC k n)[i] = ⟨markT (k + 4 * (i : Int)), markT (k + 4 * (i : Int) + 1), markT (k + 4 * (i : Int) + 2), k + 4 * (i : Int) + 3⟩ := by simp [mkC]
theorem set1_tk {L : List Value} {i : Nat} {a : Value} (h : i < L.length) : (L.set i a).take (i + 1) = L.take i ++ [a] := by
  rw [List.take_set, List.take_succ_eq_append_getElem h, List.set_append_right _ _ (by simp; omega)]
  simp [Nat.min_eq_left (Nat.le_of_lt h)]
theorem set4_tk {L : List Value} {i : Nat} {a b c d : Value} (h : i + 4 ≤ L.length) : ((((L.set i a).set (i + 1) b).set (i + 2) c).set (i + 3) d).take (i + 4) = L.take i ++ [a, b, c, d] := by
  rw [show i + 4 = i + 3 + 1 by omega, set1_tk (by simp; omega), show i + 3 = i + 2 + 1 by omega, set1_tk (by simp; omega), show i + 2 = i + 1 + 1 by omega, set1_tk (by simp; omega), set1_tk (by omega)]; simp
set_option maxHeartbeats 2000000 in
set_option maxRecDepth 100000 in
theorem markCondS_row (g n c : Nat) (K : Int) (L : List Value) (w : World) (hG : w.heap[g]? = some (.cells L.toArray 45 (0, 0))) (hL : n * 4 ≤ L.length) (hK : 0 < K) (hn : K + 4 * (n : Int) ≤ 1000000000) :
    Calls Tryd.prog 35 #[.slice (some ⟨g, 0, none⟩) n c, .int .i64 K] w fun e w' =>
      ∃ L' : List Value, e = .returned (.int .i64 (K + 4 * (n : Int))) ∧ w'.heap[g]? = some (.cells L'.toArray 45 (0, 0)) ∧ L'.length = L.length ∧ L'.take (n * 4) = (mkC K n).flatMap Cd.cells ∧ w.grownBy w' (some g) := by
  have HG := hid hG
  have HL := hid hL
  clear hG hL
  go_enter Tryd.func35, Tryd.ntmps35
  go_wp2
  go_loopw [1, 5] (fun kv i wr => ∃ (j : Nat) (M : List Value), j ≤ n ∧ i = .int .i64 j ∧ kv = .int .i64 (K + 4 * (j : Int)) ∧ M.length = L.length ∧ M.take (j * 4) = (mkC K j).flatMap Cd.cells ∧ wr.heap[g]? = some (.cells M.toArray 45 (0, 0)) ∧ w.grownBy wr (some g)) (fun _ i _ => n - (intOf i).toNat)
  case atStart => exact ⟨0, L, Nat.zero_le _, rfl, by simp, rfl, by simp [mkC], HG.out, World.grownBy.refl _ _⟩
  case round =>
    obtain ⟨j, M, hj, rfl, rfl, hM, hT, hGr, hgr⟩ := hrel
    have HM := hid hM
    have HT := hid hT
    have HGr := hid hGr
    have Hgr := hid hgr
    clear hM hT hGr hgr
    by_cases hlt : j < n
    · have hjl : j * 4 + 4 ≤ M.length := by have := HM.out; have := HL.out; omega
      have c4 := hid (fun w => markText_any (K + 4 * (j : Int)) w (by omega) (by omega))
      have c5 := hid (fun w => markText_any (K + 4 * (j : Int) + 1) w (by omega) (by omega))
      have e6 : K + 4 * (j : Int) + 1 + 1 = K + 4 * (j : Int) + 2 := by omega
      have e7 := hid (show K + 4 * (j : Int) + 1 + 1 + 1 = K + 4 * (j : Int) + 3 by omega)
      have c6 := hid (fun w => show Calls Tryd.prog 48 #[.int .i64 (K + 4 * (j : Int) + 1 + 1)] w (fun e w' => e = .returned (.string (markT (K + 4 * (j : Int) + 2))) ∧ Below w.heap.size w w') from by rw [e6]; exact markText_any _ w (by omega) (by omega))
      clear e6
      have HMS := hid (mkC_succ K j)
      have HS := hid (fun a b c d => set4_tk (a := a) (b := b) (c := c) (d := d) hjl)
      generalize markT (K + 4 * (j : Int)) = S4 at *
      generalize markT (K + 4 * (j : Int) + 1) = S5 at *
      generalize markT (K + 4 * (j : Int) + 2) = S6 at *
      go_wp2_with fail
      have hC := HGr.out
      have gC := Hgr.out
      refine (c4.out _).mono ?_
      rintro e w2 ⟨rfl, hb⟩
      have HB2 := hid ((hb.block g (lt_heap hC)).trans hC)
      have G2 := hid (grown_trans gC (grown_below hb))
      obtain ⟨u0, z0⟩ := cell_thr HB2.out (j := j * 4) (by first | omega | (simp; omega))
      have fz0 : ∀ t, w2.frozen? ⟨g, t, none⟩ = false := fun t => Lib.frozen_of_heap HB2.out t
      clear hC gC hb c4 HGr Hgr
      go_wp2_with fail
      have hC := blk_set (i := j * 4) HB2.out (.string S4)
      have gC := grown_trans G2.out (grown_set _ g (j * 4) (.string S4))
      refine (c5.out _).mono ?_
      rintro e w3 ⟨rfl, hb⟩
      have HB3 := hid ((hb.block g (lt_heap hC)).trans hC)
      have G3 := hid (grown_trans gC (grown_below hb))
      obtain ⟨u1, z1⟩ := cell_thr HB3.out (j := j * 4 + 1) (by first | omega | (simp; omega))
      have fz1 : ∀ t, w3.frozen? ⟨g, t, none⟩ = false := fun t => Lib.frozen_of_heap HB3.out t
      clear hC gC hb c5 HB2 G2 z0 fz0
      go_wp2_with fail
      have hC := blk_set (i := j * 4 + 1) HB3.out (.string S5)
      have gC := grown_trans G3.out (grown_set _ g (j * 4 + 1) (.string S5))
      refine (c6.out _).mono ?_
      rintro e w4 ⟨rfl, hb⟩
      have HB4 := hid ((hb.block g (lt_heap hC)).trans hC)
      have G4 := hid (grown_trans gC (grown_below hb))
      obtain ⟨u2, z2⟩ := cell_thr HB4.out (j := j * 4 + 2) (by first | omega | (simp; omega))
      obtain ⟨u3, z3⟩ := cell_thr HB4.out (j := j * 4 + 3) (by first | omega | (simp; omega))
      have fz2 : ∀ t, w4.frozen? ⟨g, t, none⟩ = false := fun t => Lib.frozen_of_heap HB4.out t
      clear hC gC hb c6 HB3 G3 z1 fz1
      go_wp2
      go_roundw
      case rel =>
        refine ⟨j + 1, _, by omega, by go_num, by go_num, ?_, ?_, blk_set (i := j * 4 + 3) (blk_set (i := j * 4 + 2) HB4.out (.string S6)) (.int .i64 (K + 4 * (j : Int) + 1 + 1 + 1)), grown_trans (grown_trans G4.out (grown_set _ g (j * 4 + 2) (.string S6))) (grown_set _ g (j * 4 + 3) (.int .i64 (K + 4 * (j : Int) + 1 + 1 + 1)))⟩
        · simp only [List.length_set]; exact HM.out
        · rw [show (j + 1) * 4 = j * 4 + 4 by omega, HS.out, e7.out, HT.out, HMS.out]
      case measure => simp [intOf]; omega
    · have hje : j = n := by omega
      have HJ := hid hje
      clear hje
      go_wp2
      go_ret
      refine ⟨M, by rw [HJ.out]; rfl, HGr.out, HM.out, ?_, Hgr.out⟩
      have := HT.out
      rwa [HJ.out] at this
theorem markCondS_none (a : Option Addr) (c : Nat) (K : Int) (w : World) :
    Calls Tryd.prog 35 #[.slice a 0 c, .int .i64 K] w fun e w' => e = .returned (.int .i64 K) ∧ w' = w := by
  go_enter Tryd.func35, Tryd.ntmps35
  go_wp2
  go_loopw [1, 5] (fun kv i wr => kv = .int .i64 K ∧ i = .int .i64 0 ∧ wr = w) (fun _ _ _ => 0)
  case atStart => exact ⟨rfl, rfl, rfl⟩
  case round =>
    obtain ⟨rfl, rfl, rfl⟩ := hrel
    go_wp2
    go_ret
    exact ⟨rfl, rfl⟩
theorem markCondS_own (v : Value) (n base : Nat) (K : Int) (xs : List Value) (w : World) (h : w.ownsRow base 45 4 v n xs) (hK : 0 < K) (hn : K + 4 * (n : Int) ≤ 1000000000) :
    Calls Tryd.prog 35 #[v, .int .i64 K] w fun e w' => e = .returned (.int .i64 (K + 4 * (n : Int))) ∧ w'.ownsRow base 45 4 v n ((mkC K n).flatMap Cd.cells) ∧ w.grownBy w' v.ownBlock := by
  rcases h.2 with ⟨rfl, rfl⟩ | ⟨g, cap, cur, rfl, hb, hg, hc, hm, hs, ht⟩
  · refine (markCondS_none none 0 K w).mono ?_
    rintro e w' ⟨rfl, rfl⟩
    exact ⟨by simp, World.ownsRow_nil _ _ _ _, World.grownBy.refl _ _⟩
  · have hg' : w.heap[g]? = some (.cells cur.toList.toArray 45 (0, 0)) := by simpa using hg
    refine (markCondS_row g n cap K cur.toList w hg' (by rw [Array.length_toList, hs]; omega) hK hn).mono ?_
    rintro e w' ⟨L', rfl, h1, h2, h3, h4⟩
    refine ⟨rfl, ⟨by rw [cflat_len, mkC_len], .inr ⟨g, cap, L'.toArray, rfl, hb, h1, hc, hm, ?_, by simpa using h3⟩⟩, h4⟩
    rw [List.size_toArray, h2, Array.length_toList, hs]
end Go.Proofs.YthgmphmghnonbaaDoor
