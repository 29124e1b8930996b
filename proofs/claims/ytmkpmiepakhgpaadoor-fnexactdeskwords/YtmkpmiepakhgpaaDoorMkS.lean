/-
  What laws.markStringS and heldStringS do: contracts over the seat's program. (Made by mkmark.py.)
-/
import Derived.Test.YtmkpmiepakhgpaaDoorMark
import Derived.Test.YtmkpmiepakhgpaaDoorStrs
import Derived.Test.YtmkpmiepakhgpaaDoorOwnB
import Derived.Test.YtmkpmiepakhgpaaDoorStEq
import Derived.BigQuiet
import Derived.Lib.QuietBelow
namespace Go.Proofs.YtmkpmiepakhgpaaDoor
open Go.RowKit Go.Sort

theorem cell_thereM {w : World} {g j : Nat} {L : List Value} {t : TypeId} (h : w.heap[g]? = some (.cells L.toArray t (0, 0))) (hj : j < L.length) : ∃ u, w.cell? ⟨g, j, none⟩ = some u := by
  rw [Lib.cell_of_heap h]
  exact ⟨L[j], by simp [hj]⟩
/-- So many marks, from the k-th on. -/
def mkS (k : Int) (n : Nat) : List ByteArray := (List.range n).map fun i : Nat => markT (k + (i : Int))
theorem mkS_len (k : Int) (n : Nat) : (mkS k n).length = n := by simp [mkS]
theorem mkS_succ (k : Int) (n : Nat) : (mkS k (n + 1)).map Value.string = (mkS k n).map Value.string ++ [.string (markT (k + (n : Int)))] := by simp [mkS, List.range_succ]
theorem mkS_at {k : Int} {n i : Nat} (h : i < (mkS k n).length) : (mkS k n)[i] = markT (k + (i : Int)) := by simp [mkS]
theorem set1_takeM {L : List Value} {i : Nat} {a : Value} (h : i < L.length) : (L.set i a).take (i + 1) = L.take i ++ [a] := by
  rw [List.take_set, List.take_succ_eq_append_getElem h, List.set_append_right _ _ (by simp; omega)]
  simp [Nat.min_eq_left (Nat.le_of_lt h)]
set_option maxHeartbeats 1000000 in
set_option maxRecDepth 100000 in
theorem markStringS_row (g n c : Nat) (K : Int) (L : List Value) (w : World) (hG : w.heap[g]? = some (.cells L.toArray 9 (0, 0))) (hL : n ≤ L.length) (hK : 0 < K) (hn : K + (n : Int) ≤ 1000000000) :
    Calls Tryd.prog 7 #[.slice (some ⟨g, 0, none⟩) n c, .int .i64 K] w fun e w' =>
      ∃ L' : List Value, e = .returned (.int .i64 (K + (n : Int))) ∧ w'.heap[g]? = some (.cells L'.toArray 9 (0, 0)) ∧ L'.length = L.length ∧ L'.take n = (mkS K n).map Value.string ∧ w.grownBy w' (some g) := by
  have HG := hid hG
  have HL := hid hL
  clear hG hL
  go_enter Tryd.func7, Tryd.ntmps7
  go_wp2
  go_loopw [1, 5] (fun kv i wr => ∃ (j : Nat) (M : List Value), j ≤ n ∧ i = .int .i64 j ∧ kv = .int .i64 (K + (j : Int)) ∧ M.length = L.length ∧ M.take j = (mkS K j).map Value.string ∧ wr.heap[g]? = some (.cells M.toArray 9 (0, 0)) ∧ w.grownBy wr (some g)) (fun _ i _ => n - (intOf i).toNat)
  case atStart => exact ⟨0, L, Nat.zero_le _, rfl, by simp, rfl, by simp [mkS], HG.out, World.grownBy.refl _ _⟩
  case round =>
    obtain ⟨j, M, hj, rfl, rfl, hM, hT, hGr, hgr⟩ := hrel
    have HM := hid hM
    have HT := hid hT
    have HGr := hid hGr
    have Hgr := hid hgr
    clear hM hT hGr hgr
    by_cases hlt : j < n
    · have hjl : j < M.length := by have := HM.out; have := HL.out; omega
      have c4 := hid (fun w => markText_any (K + (j : Int)) w (by omega) (by omega))
      have HMS := hid (mkS_succ K j)
      have HS := hid (fun a => set1_takeM (a := a) hjl)
      generalize markT (K + (j : Int)) = S4 at *
      go_wp2_with fail
      refine (c4.out _).mono ?_
      rintro e w2 ⟨rfl, hb2⟩
      have hB : w2.heap[g]? = _ := (hb2.block g (lt_heap HGr.out)).trans HGr.out
      have hgB := hid (grown_trans Hgr.out (grown_below hb2))
      obtain ⟨u4, z4⟩ := cell_thereM hB hjl
      have hfz2 : ∀ t, w2.frozen? ⟨g, t, none⟩ = false := fun t => Lib.frozen_of_heap hB t
      have HB := hid hB
      clear hB hb2 c4 Hgr HGr
      go_wp2
      go_roundw
      case rel => exact ⟨j + 1, _, by omega, by go_num, by go_num, by rw [List.length_set]; exact HM.out, by rw [HS.out, HT.out, HMS.out], blk_set (i := j) HB.out (.string S4), grown_trans hgB.out (grown_set _ g j (.string S4))⟩
      case measure => simp [intOf]; omega
    · have hje : j = n := by omega
      have HJ := hid hje
      clear hje
      go_wp2
      go_ret
      refine ⟨M, by rw [HJ.out]; rfl, HGr.out, HM.out, ?_, Hgr.out⟩
      have := HT.out
      rwa [HJ.out] at this
theorem markStringS_none (a : Option Addr) (c : Nat) (K : Int) (w : World) :
    Calls Tryd.prog 7 #[.slice a 0 c, .int .i64 K] w fun e w' => e = .returned (.int .i64 K) ∧ w' = w := by
  go_enter Tryd.func7, Tryd.ntmps7
  go_wp2
  go_loopw [1, 5] (fun kv i wr => kv = .int .i64 K ∧ i = .int .i64 0 ∧ wr = w) (fun _ _ _ => 0)
  case atStart => exact ⟨rfl, rfl, rfl⟩
  case round =>
    obtain ⟨rfl, rfl, rfl⟩ := hrel
    go_wp2
    go_ret
    exact ⟨rfl, rfl⟩
theorem markStringS_own (v : Value) (n base : Nat) (K : Int) (xs : List Value) (w : World) (h : w.ownsRow base 9 1 v n xs) (hK : 0 < K) (hn : K + (n : Int) ≤ 1000000000) :
    Calls Tryd.prog 7 #[v, .int .i64 K] w fun e w' => e = .returned (.int .i64 (K + (n : Int))) ∧ w'.ownsRow base 9 1 v n ((mkS K n).map Value.string) ∧ w.grownBy w' v.ownBlock := by
  rcases h.2 with ⟨rfl, rfl⟩ | ⟨g, cap, cur, rfl, hb, hg, hc, hm, hs, ht⟩
  · refine (markStringS_none none 0 K w).mono ?_
    rintro e w' ⟨rfl, rfl⟩
    exact ⟨by simp, World.ownsRow_nil _ _ _ _, World.grownBy.refl _ _⟩
  · have hg' : w.heap[g]? = some (.cells cur.toList.toArray 9 (0, 0)) := by simpa using hg
    refine (markStringS_row g n cap K cur.toList w hg' (by rw [Array.length_toList, hs]; omega) hK hn).mono ?_
    rintro e w' ⟨L', rfl, h1, h2, h3, h4⟩
    refine ⟨rfl, ⟨by rw [List.length_map, mkS_len]; omega, .inr ⟨g, cap, L'.toArray, rfl, hb, h1, hc, hm, ?_, by simpa using h3⟩⟩, h4⟩
    rw [List.size_toArray, h2, Array.length_toList, hs]
set_option maxHeartbeats 1000000 in
set_option maxRecDepth 100000 in
theorem heldStringS_row (g o c n : Nat) (K : Int) (w : World) (hE : StrsAt w g o (mkS K n)) (hK : 0 < K) (hn : K + (n : Int) ≤ 1000000000) :
    Calls Tryd.prog 8 #[.slice (some ⟨g, o, none⟩) n c, .int .i64 K] w fun e w' => e = .returned (.int .i64 (K + (n : Int))) ∧ Below w.heap.size w w' := by
  have mixed : Tryd.prog.follows .mixedOrders = true := by kernel_rfl
  have HE := hid hE
  clear hE
  go_enter Tryd.func8, Tryd.ntmps8
  go_wp2
  go_loopw [1, 5] (fun kv i wr => ∃ j : Nat, j ≤ n ∧ i = .int .i64 j ∧ kv = .int .i64 (K + (j : Int)) ∧ Below w.heap.size w wr) (fun _ i _ => n - (intOf i).toNat)
  case atStart => exact ⟨0, Nat.zero_le _, rfl, by simp, Below.refl _ _⟩
  case round =>
    obtain ⟨j, hj, rfl, rfl, hbel⟩ := hrel
    by_cases hlt : j < n
    · have c0 := (HE.out.stay hbel (Nat.le_refl _)).2 j (by rw [mkS_len]; exact hlt)
      rw [mkS_at] at c0
      have d1 := fun d os => Calls.regrown_of (w := wr) (d := d) (os := os) (markText_any (K + (j : Int)) (grow (redrawn wr d) os) (by omega) (by omega))
      have HB := hid hbel
      clear hbel
      generalize markT (K + (j : Int)) = S4 at *
      go_wp2
      have c0' := cell_regrown c0
      clear c0
      refine wp_region_quiet_below mixed (by kernel_rfl) ?_
      repeat (go_big_quiet_step ((go_at_call 11; exact d1 _ _)))
      refine wpQuiet_nil ?_
      intro W2 hw'
      have HR := hid (show Below wr.heap.size wr W2 by obtain ⟨⟨dq, osq⟩, hw''⟩ := hw'; subst hw''; exact below_regrown wr dq osq)
      clear hw' c0' d1
      go_wp2
      go_roundw
      case rel => exact ⟨j + 1, by omega, by go_num, by go_num, HB.out.trans (HR.out.mono HB.out.size)⟩
      case measure => simp [intOf]; omega
    · have hje : j = n := by omega
      have HJ := hid hje
      clear hje
      go_wp2
      go_ret
      exact ⟨by rw [HJ.out]; rfl, hbel⟩
theorem heldStringS_none (a : Option Addr) (c : Nat) (K : Int) (w : World) :
    Calls Tryd.prog 8 #[.slice a 0 c, .int .i64 K] w fun e w' => e = .returned (.int .i64 K) ∧ w' = w := by
  go_enter Tryd.func8, Tryd.ntmps8
  go_wp2
  go_loopw [1, 5] (fun kv i wr => kv = .int .i64 K ∧ i = .int .i64 0 ∧ wr = w) (fun _ _ _ => 0)
  case atStart => exact ⟨rfl, rfl, rfl⟩
  case round =>
    obtain ⟨rfl, rfl, rfl⟩ := hrel
    go_wp2
    go_ret
    exact ⟨rfl, rfl⟩
theorem heldStringS_own (v : Value) (n base : Nat) (K : Int) (w : World) (h : w.ownsRow base 9 1 v n ((mkS K n).map Value.string)) (hK : 0 < K) (hn : K + (n : Int) ≤ 1000000000) :
    Calls Tryd.prog 8 #[v, .int .i64 K] w fun e w' => e = .returned (.int .i64 (K + (n : Int))) ∧ Below w.heap.size w w' := by
  rcases str_of_own h with ⟨a, c, rfl, h0⟩ | ⟨g, o, c, rfl, _, hE⟩
  · have : n = 0 := by rw [← mkS_len K n, h0]; rfl
    subst this
    refine (heldStringS_none a c K w).mono ?_
    rintro e w' ⟨rfl, rfl⟩
    exact ⟨by simp, Below.refl _ _⟩
  · rw [mkS_len]
    exact heldStringS_row g o c n K w hE hK hn
end Go.Proofs.YtmkpmiepakhgpaaDoor
