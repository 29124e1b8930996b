/-
  Marks in rows of pairs; what laws.markFlowS does: contracts over the seat's program.
-/
import Derived.Test.YtadidjhcgmeadaaMkS
import Derived.Test.YtadidjhcgmeadaaFlLaw
import Derived.Test.YtadidjhcgmeadaaChg
import Derived.Test.YtadidjhcgmeadaaOwn
namespace Go.Proofs.Ytadidjhcgmeadaa
open Go.RowKit Go.Sort

def mkP (k : Int) (n : Nat) : List Pr := (List.range n).map fun i : Nat => ⟨markT (k + 2 * (i : Int)), markT (k + 2 * (i : Int) + 1)⟩
theorem mkP_len (k : Int) (n : Nat) : (mkP k n).length = n := by simp [mkP]
theorem mkP_succ (k : Int) (n : Nat) : (mkP k (n + 1)).flatMap Pr.cells = (mkP k n).flatMap Pr.cells ++ [.string (markT (k + 2 * (n : Int))), .string (markT (k + 2 * (n : Int) + 1))] := by simp [mkP, List.range_succ, Pr.cells]
theorem mkP_at {k : Int} {n i : Nat} (h : i < (mkP k n).length) : (mkP k n)[i] = ⟨markT (k + 2 * (i : Int)), markT (k + 2 * (i : Int) + 1)⟩ := by simp [mkP]
theorem set2_takeM {L : List Value} {i : Nat} {a b : Value} (h : i + 2 ≤ L.length) : ((L.set i a).set (i + 1) b).take (i + 2) = L.take i ++ [a, b] := by
  rw [show i + 2 = i + 1 + 1 by omega, set1_takeM (by simp; omega), set1_takeM (by omega)]; simp
set_option maxHeartbeats 1000000 in
set_option maxRecDepth 100000 in
theorem markFlowS_row (g n c : Nat) (K : Int) (L : List Value) (w : World) (hG : w.heap[g]? = some (.cells L.toArray 57 (0, 0))) (hL : n * 2 ≤ L.length) (hK : 0 < K) (hn : K + 2 * (n : Int) ≤ 1000000000) :
    Calls Try.prog 25 #[.slice (some ⟨g, 0, none⟩) n c, .int .i64 K] w fun e w' =>
      ∃ L' : List Value, e = .returned (.int .i64 (K + 2 * (n : Int))) ∧ w'.heap[g]? = some (.cells L'.toArray 57 (0, 0)) ∧ L'.length = L.length ∧ L'.take (n * 2) = (mkP K n).flatMap Pr.cells ∧ w.grownBy w' (some g) := by
  have HG := hid hG
  have HL := hid hL
  clear hG hL
  go_enter Try.func25, Try.ntmps25
  go_wp2
  go_loopw [1, 5] (fun kv i wr => ∃ (j : Nat) (M : List Value), j ≤ n ∧ i = .int .i64 j ∧ kv = .int .i64 (K + 2 * (j : Int)) ∧ M.length = L.length ∧ M.take (j * 2) = (mkP K j).flatMap Pr.cells ∧ wr.heap[g]? = some (.cells M.toArray 57 (0, 0)) ∧ w.grownBy wr (some g)) (fun _ i _ => n - (intOf i).toNat)
  case atStart => exact ⟨0, L, Nat.zero_le _, rfl, by simp, rfl, by simp [mkP], HG.out, World.grownBy.refl _ _⟩
  case round =>
    obtain ⟨j, M, hj, rfl, rfl, hM, hT, hGr, hgr⟩ := hrel
    have HM := hid hM
    have HT := hid hT
    have HGr := hid hGr
    have Hgr := hid hgr
    clear hM hT hGr hgr
    by_cases hlt : j < n
    · have hjl : j * 2 + 2 ≤ M.length := by have := HM.out; have := HL.out; omega
      have c4 := hid (fun w => markText_any (K + 2 * (j : Int)) w (by omega) (by omega))
      have c5 := hid (fun w => markText_any (K + 2 * (j : Int) + 1) w (by omega) (by omega))
      have HMS := hid (mkP_succ K j)
      have HS := hid (fun a b => set2_takeM (a := a) (b := b) hjl)
      generalize markT (K + 2 * (j : Int)) = S4 at *
      generalize markT (K + 2 * (j : Int) + 1) = S5 at *
      go_wp2_with fail
      refine (c4.out _).mono ?_
      rintro e w2 ⟨rfl, hb2⟩
      have hB : w2.heap[g]? = _ := (hb2.block g (lt_heap HGr.out)).trans HGr.out
      have hgB := hid (grown_trans Hgr.out (grown_below hb2))
      obtain ⟨u4, z4⟩ := cell_thereM hB (j := j * 2) (by omega)
      have hfz2 : ∀ t, w2.frozen? ⟨g, t, none⟩ = false := fun t => Lib.frozen_of_heap hB t
      have HB := hid hB
      clear hB hb2 c4 Hgr HGr
      go_wp2_with fail
      have hC := blk_set (i := j * 2) HB.out (.string S4)
      have hgC := grown_trans hgB.out (grown_set _ g (j * 2) (.string S4))
      refine (c5.out _).mono ?_
      rintro e w3 ⟨rfl, hb3⟩
      have hD : w3.heap[g]? = _ := (hb3.block g (lt_heap hC)).trans hC
      have hgD := hid (grown_trans hgC (grown_below hb3))
      obtain ⟨u5, z5⟩ := cell_thereM hD (j := j * 2 + 1) (by simp; omega)
      have hfz3 : ∀ t, w3.frozen? ⟨g, t, none⟩ = false := fun t => Lib.frozen_of_heap hD t
      have HD := hid hD
      clear hC hgC hD hb3 z4 hfz2 c5 hgB HB
      go_wp2
      go_roundw
      case rel =>
        refine ⟨j + 1, _, by omega, by go_num, by go_num, ?_, ?_, blk_set (i := j * 2 + 1) HD.out (.string S5), grown_trans hgD.out (grown_set _ g (j * 2 + 1) (.string S5))⟩
        · rw [List.length_set, List.length_set]; exact HM.out
        · rw [show (j + 1) * 2 = j * 2 + 2 by omega, HS.out, HT.out, HMS.out]
      case measure => simp [intOf]; omega
    · have hje : j = n := by omega
      have HJ := hid hje
      clear hje
      go_wp2
      go_ret
      refine ⟨M, by rw [HJ.out]; rfl, HGr.out, HM.out, ?_, Hgr.out⟩
      have := HT.out
      rwa [HJ.out] at this
theorem markFlowS_none (a : Option Addr) (c : Nat) (K : Int) (w : World) :
    Calls Try.prog 25 #[.slice a 0 c, .int .i64 K] w fun e w' => e = .returned (.int .i64 K) ∧ w' = w := by
  go_enter Try.func25, Try.ntmps25
  go_wp2
  go_loopw [1, 5] (fun kv i wr => kv = .int .i64 K ∧ i = .int .i64 0 ∧ wr = w) (fun _ _ _ => 0)
  case atStart => exact ⟨rfl, rfl, rfl⟩
  case round =>
    obtain ⟨rfl, rfl, rfl⟩ := hrel
    go_wp2
    go_ret
    exact ⟨rfl, rfl⟩
theorem markFlowS_own (v : Value) (n base : Nat) (K : Int) (xs : List Value) (w : World) (h : w.ownsRow base 57 2 v n xs) (hK : 0 < K) (hn : K + 2 * (n : Int) ≤ 1000000000) :
    Calls Try.prog 25 #[v, .int .i64 K] w fun e w' => e = .returned (.int .i64 (K + 2 * (n : Int))) ∧ w'.ownsRow base 57 2 v n ((mkP K n).flatMap Pr.cells) ∧ w.grownBy w' v.ownBlock := by
  rcases h.2 with ⟨rfl, rfl⟩ | ⟨g, cap, cur, rfl, hb, hg, hc, hm, hs, ht⟩
  · refine (markFlowS_none none 0 K w).mono ?_
    rintro e w' ⟨rfl, rfl⟩
    exact ⟨by simp, World.ownsRow_nil _ _ _ _, World.grownBy.refl _ _⟩
  · have hg' : w.heap[g]? = some (.cells cur.toList.toArray 57 (0, 0)) := by simpa using hg
    refine (markFlowS_row g n cap K cur.toList w hg' (by rw [Array.length_toList, hs]; omega) hK hn).mono ?_
    rintro e w' ⟨L', rfl, h1, h2, h3, h4⟩
    refine ⟨rfl, ⟨by rw [pflat_len, mkP_len], .inr ⟨g, cap, L'.toArray, rfl, hb, h1, hc, hm, ?_, by simpa using h3⟩⟩, h4⟩
    rw [List.size_toArray, h2, Array.length_toList, hs]
end Go.Proofs.Ytadidjhcgmeadaa
