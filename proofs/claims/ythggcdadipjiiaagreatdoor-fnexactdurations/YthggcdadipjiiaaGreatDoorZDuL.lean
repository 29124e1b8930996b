/-
  What laws.eqDur, eqDurS, markDurS and heldDurS answer: contracts over the seat's program.
-/
import Derived.Test.YthggcdadipjiiaaGreatDoorZImSO4
import Derived.Test.YthggcdadipjiiaaGreatDoorZDuF3
import Derived.Test.YthggcdadipjiiaaGreatDoorZItsC3
import Derived.Test.YthggcdadipjiiaaGreatDoorZDuH5
import Derived.Lib.QuietBelow
namespace Go.Proofs.YthggcdadipjiiaaGreatDoor
open Go.RowKit Go.Sort

theorem RowL.durs {w : World} {base : Nat} {e : TypeId} {v : Value} {l : List Dur} (h : RowL w base e 5 v l.length (dflat l)) : (l = [] ∧ ∃ a c, v = .slice a 0 c) ∨ (0 < l.length ∧ ∃ g c, v = .slice (some ⟨g, 0, none⟩) l.length c ∧ DursAt w g 0 l) := by
  by_cases h0 : 0 < l.length
  · obtain ⟨g, cap, L, rfl, _, hh, hL, ht⟩ := h.2.2 h0
    refine .inr ⟨h0, g, cap, rfl, lt_heap hh, fun j u hj => ?_⟩
    rw [Nat.zero_add, Lib.cell_of_heap hh]
    rw [← ht, List.getElem?_take] at hj
    split at hj
    · simpa using hj
    · cases hj
  · obtain ⟨a, c, rfl⟩ := h.2.1
    obtain rfl : l = [] := List.eq_nil_of_length_eq_zero (by omega)
    exact .inl ⟨rfl, a, c, rfl⟩
theorem eqDur_same (s : ByteArray) (q t r k : Int) (w : World) :
    Calls Tryz.prog 37 #[.agg #[.string s, .int .i64 q, .int .i64 t, .int .i64 r, .int .i64 k], .agg #[.string s, .int .i64 q, .int .i64 t, .int .i64 r, .int .i64 k]] w fun e w' => e = .returned (.bool true) ∧ Below w.heap.size w w' := by
  go_enter Tryz.func37, Tryz.ntmps37
  go_wp2
  go_ret
  exact ⟨rfl, ((Below.refl _ _).alloc (Nat.le_refl _) _).alloc (by simp) _⟩
set_option maxHeartbeats 4000000 in
set_option maxRecDepth 1000000 in
theorem eqDurS_row (g1 o1 c1 g2 o2 c2 : Nat) (es : List Dur) (w : World) (hE1 : DursAt w g1 o1 es) (hE2 : DursAt w g2 o2 es) (hn : es.length ≤ maxLen) :
    Calls Tryz.prog 12 #[.slice (some ⟨g1, o1, none⟩) es.length c1, .slice (some ⟨g2, o2, none⟩) es.length c2] w fun e w' => e = .returned (.bool true) ∧ Below w.heap.size w w' := by
  unfold maxLen at hn
  have mixed : Tryz.prog.follows .mixedOrders = true := by kernel_rfl
  have HE1 := hid hE1
  have HE2 := hid hE2
  clear hE1 hE2
  go_enter Tryz.func12, Tryz.ntmps12
  go_wp2
  go_loopw [5] (fun i wr => ∃ k : Nat, k ≤ es.length ∧ i = .int .i64 k ∧ Below w.heap.size w wr) (fun i _ => es.length - (intOf i).toNat)
  case atStart => exact ⟨0, Nat.zero_le _, rfl, Below.refl _ _⟩
  case round =>
    obtain ⟨k, hk, rfl, hbel⟩ := hrel
    by_cases hlt : k < es.length
    · obtain ⟨a0, a1, a2, a3, a4⟩ := (HE1.out.stay hbel (Nat.le_refl _)).el hlt
      obtain ⟨b0, b1, b2, b3, b4⟩ := (HE2.out.stay hbel (Nat.le_refl _)).el hlt
      generalize es[k].step = q0 at *
      generalize es[k].count = q1 at *
      generalize es[k].sum = q2 at *
      generalize es[k].least = q3 at *
      generalize es[k].most = q4 at *
      have k0 := cell_regrown a0
      have k1 := cell_regrown a1
      have k2 := cell_regrown a2
      have k3 := cell_regrown a3
      have k4 := cell_regrown a4
      have l0 := cell_regrown b0
      have l1 := cell_regrown b1
      have l2 := cell_regrown b2
      have l3 := cell_regrown b3
      have l4 := cell_regrown b4
      have d1 := fun d os => Calls.regrown_of (w := wr) (d := d) (os := os) (eqDur_same q0 q1 q2 q3 q4 _)
      clear a0 a1 a2 a3 a4 b0 b1 b2 b3 b4
      go_wp2
      refine wp_region_quiet_below mixed (by kernel_rfl) ?_
      repeat (quiet_step (first | (go_at_call 37; exact d1 _ _)))
      refine wpQuiet_nil ?_
      intro _ hw'
      obtain ⟨⟨dq, osq⟩, hw''⟩ := hw'
      subst hw''
      have hbX := hbel.trans ((below_regrown wr dq osq).mono hbel.size)
      clear k0 k1 k2 k3 k4 l0 l1 l2 l3 l4 d1
      go_wp2
      go_roundw
      case rel => exact ⟨k + 1, by omega, by go_num, hbX⟩
      case measure => simp [intOf]; omega
    · go_wp2
      go_ret
      exact ⟨rfl, hbel⟩
theorem eqDurS_none (a1 a2 : Option Addr) (c1 c2 : Nat) (w : World) :
    Calls Tryz.prog 12 #[.slice a1 0 c1, .slice a2 0 c2] w fun e w' => e = .returned (.bool true) ∧ Below w.heap.size w w' := by
  go_enter Tryz.func12, Tryz.ntmps12
  go_wp2
  go_loop [5] (fun i => i = .int .i64 0) (fun _ => 0)
  case atStart => exact rfl
  case round =>
    subst hrel
    go_wp2
    go_ret
    exact ⟨rfl, Below.refl _ _⟩
theorem eqDurS_any (v1 v2 : Value) (b1 b2 : Nat) (e1 e2 : TypeId) (l : List Dur) (w : World) (h1 : RowL w b1 e1 5 v1 l.length (dflat l)) (h2 : RowL w b2 e2 5 v2 l.length (dflat l)) (hn : l.length ≤ maxLen) :
    Calls Tryz.prog 12 #[v1, v2] w fun e w' => e = .returned (.bool true) ∧ Below w.heap.size w w' := by
  rcases h1.durs with ⟨rfl, a, c, rfl⟩ | ⟨h0, g1, c1, rfl, d1⟩
  · obtain ⟨a2, c2, rfl⟩ := h2.2.1
    exact eqDurS_none a a2 c c2 w
  · rcases h2.durs with ⟨h, _⟩ | ⟨_, g2, c2, rfl, d2⟩
    · rw [h] at h0; simp at h0
    · exact eqDurS_row g1 0 c1 g2 0 c2 l w d1 d2 hn

/-- What bears the marks from a number on. -/
def mkDu (k : Int) : Dur := ⟨markT k, k + 1, k + 1 + 1, k + 1 + 1 + 1, k + 1 + 1 + 1 + 1⟩
def marksD (k : Int) (n : Nat) : List Dur := (List.range n).map fun i : Nat => mkDu (k + 5 * (i : Int))
theorem marksD_len (k : Int) (n : Nat) : (marksD k n).length = n := by simp [marksD]
theorem marksD_succ (k : Int) (n : Nat) : dflat (marksD k (n + 1)) = dflat (marksD k n) ++ (mkDu (k + 5 * (n : Int))).cells := by
  simp [dflat, marksD, List.range_succ]
theorem marksD_at {k : Int} {n i : Nat} (h : i < (marksD k n).length) : (marksD k n)[i] = mkDu (k + 5 * (i : Int)) := by simp [marksD]
theorem set5_len {L : List Value} {i : Nat} {a b c d e : Value} : (((((L.set i a).set (i + 1) b).set (i + 2) c).set (i + 3) d).set (i + 4) e).length = L.length := by simp
theorem set5_take {L : List Value} {i : Nat} {a b c d e : Value} (h : i + 5 ≤ L.length) : ((((((L.set i a).set (i + 1) b).set (i + 2) c).set (i + 3) d).set (i + 4) e).take (i + 5)) = L.take i ++ [a, b, c, d, e] := by
  apply List.ext_getElem?
  intro j
  by_cases h0 : j < i
  · rw [List.getElem?_append_left (by simp; omega)]
    simp [show ¬ i = j by omega, show ¬ i + 1 = j by omega, show ¬ i + 2 = j by omega, show ¬ i + 3 = j by omega, show ¬ i + 4 = j by omega, h0, show j < i + 5 by omega]
  · obtain ⟨m, rfl⟩ : ∃ m, j = i + m := ⟨j - i, by omega⟩
    rw [List.getElem?_append_right (by simp; omega), show i + m - (L.take i).length = m by simp; omega]
    match m with
    | 0 => simp [List.getElem?_set]; omega
    | 1 => simp [List.getElem?_set]; omega
    | 2 => simp [List.getElem?_set]; omega
    | 3 => simp [List.getElem?_set]; omega
    | 4 => simp [List.getElem?_set]; omega
    | m + 5 => simp; omega
set_option maxHeartbeats 1000000 in
set_option maxRecDepth 100000 in
theorem markDurS_row (g n c : Nat) (K : Int) (L : List Value) (w : World) (hG : w.heap[g]? = some (.cells L.toArray 35 (0, 0))) (hL : n * 5 ≤ L.length) (hK : 0 < K) (hn : K + 5 * (n : Int) ≤ 1000000000) :
    Calls Tryz.prog 17 #[.slice (some ⟨g, 0, none⟩) n c, .int .i64 K] w fun e w' =>
      ∃ L' : List Value, e = .returned (.int .i64 (K + 5 * (n : Int))) ∧ w'.heap[g]? = some (.cells L'.toArray 35 (0, 0)) ∧ L'.length = L.length ∧ L'.take (n * 5) = dflat (marksD K n) ∧ w.grownBy w' (some g) := by
  have HG := hid hG
  have HL := hid hL
  clear hG hL
  go_enter Tryz.func17, Tryz.ntmps17
  go_wp2
  go_loopw [1, 5] (fun kv i wr => ∃ (j : Nat) (M : List Value), j ≤ n ∧ i = .int .i64 j ∧ kv = .int .i64 (K + 5 * (j : Int)) ∧ M.length = L.length ∧ M.take (j * 5) = dflat (marksD K j) ∧ wr.heap[g]? = some (.cells M.toArray 35 (0, 0)) ∧ w.grownBy wr (some g)) (fun _ i _ => n - (intOf i).toNat)
  case atStart => exact ⟨0, L, Nat.zero_le _, rfl, by simp, rfl, by simp [marksD, dflat], HG.out, World.grownBy.refl _ _⟩
  case round =>
    obtain ⟨j, M, hj, rfl, rfl, hM, hT, hGr, hgr⟩ := hrel
    have HM := hid hM
    have HT := hid hT
    have HGr := hid hGr
    have Hgr := hid hgr
    clear hM hT hGr hgr
    by_cases hlt : j < n
    · have hjl : j * 5 + 5 ≤ M.length := by have := HM.out; have := HL.out; omega
      have c4 := fun w => markText_any (K + 5 * (j : Int)) w (by omega) (by omega)
      have HS := hid (set5_take (L := M) (i := j * 5) (a := .string (markT (K + 5 * (j : Int)))) (b := .int .i64 (K + 5 * (j : Int) + 1)) (c := .int .i64 (K + 5 * (j : Int) + 1 + 1)) (d := .int .i64 (K + 5 * (j : Int) + 1 + 1 + 1)) (e := .int .i64 (K + 5 * (j : Int) + 1 + 1 + 1 + 1)) hjl)
      have HMS := hid (marksD_succ K j)
      unfold mkDu at HMS
      generalize markT (K + 5 * (j : Int)) = S4 at *
      go_wp2_with fail
      refine (c4 _).mono ?_
      rintro e w2 ⟨rfl, hb2⟩
      have hB : w2.heap[g]? = _ := (hb2.block g (lt_heap HGr.out)).trans HGr.out
      have hgB := hid (grown_trans Hgr.out (grown_below hb2))
      have hce : ∀ t, t < 5 → ∃ u, w2.cell? ⟨g, j * 5 + t, none⟩ = some u := fun t ht => cell_there hB (by omega)
      obtain ⟨u0, d0⟩ : ∃ u, w2.cell? ⟨g, j * 5, none⟩ = some u := hce 0 (by decide)
      obtain ⟨u1, d1⟩ := hce 1 (by decide)
      obtain ⟨u2, d2⟩ := hce 2 (by decide)
      obtain ⟨u3, d3⟩ := hce 3 (by decide)
      obtain ⟨u4, d4⟩ := hce 4 (by decide)
      have hfz : ∀ t, w2.frozen? ⟨g, t, none⟩ = false := fun t => Lib.frozen_of_heap hB t
      have HB := hid hB
      clear hce hB hb2 c4 Hgr HGr
      go_wp2
      go_roundw
      case rel =>
        refine ⟨j + 1, _, by omega, by go_num, by go_num, ?_, ?_, blk_set (i := j * 5 + 4) (blk_set (i := j * 5 + 3) (blk_set (i := j * 5 + 2) (blk_set (i := j * 5 + 1) (blk_set (i := j * 5) HB.out (.string S4)) (.int .i64 (K + 5 * (j : Int) + 1))) (.int .i64 (K + 5 * (j : Int) + 1 + 1))) (.int .i64 (K + 5 * (j : Int) + 1 + 1 + 1))) (.int .i64 (K + 5 * (j : Int) + 1 + 1 + 1 + 1)), grown_trans (grown_trans (grown_trans (grown_trans (grown_trans hgB.out (grown_set _ g (j * 5) (.string S4))) (grown_set _ g (j * 5 + 1) (.int .i64 (K + 5 * (j : Int) + 1)))) (grown_set _ g (j * 5 + 2) (.int .i64 (K + 5 * (j : Int) + 1 + 1)))) (grown_set _ g (j * 5 + 3) (.int .i64 (K + 5 * (j : Int) + 1 + 1 + 1)))) (grown_set _ g (j * 5 + 4) (.int .i64 (K + 5 * (j : Int) + 1 + 1 + 1 + 1)))⟩
        · rw [set5_len]; exact HM.out
        · rw [show (j + 1) * 5 = j * 5 + 5 by omega, HS.out, HT.out, HMS.out]; rfl
      case measure => simp [intOf]; omega
    · have hje : j = n := by omega
      have HJ := hid hje
      clear hje
      go_wp2
      go_ret
      refine ⟨M, by rw [HJ.out]; rfl, HGr.out, HM.out, ?_, Hgr.out⟩
      have := HT.out
      rwa [HJ.out] at this
theorem markDurS_none (a : Option Addr) (c : Nat) (K : Int) (w : World) :
    Calls Tryz.prog 17 #[.slice a 0 c, .int .i64 K] w fun e w' => e = .returned (.int .i64 K) ∧ w' = w := by
  go_enter Tryz.func17, Tryz.ntmps17
  go_wp2
  go_loopw [1, 5] (fun kv i wr => kv = .int .i64 K ∧ i = .int .i64 0 ∧ wr = w) (fun _ _ _ => 0)
  case atStart => exact ⟨rfl, rfl, rfl⟩
  case round =>
    obtain ⟨rfl, rfl, rfl⟩ := hrel
    go_wp2
    go_ret
    exact ⟨rfl, rfl⟩
theorem markDurS_rowL (v : Value) (n base : Nat) (K : Int) (xs : List Value) (w : World) (h : RowL w base 35 5 v n xs) (hK : 0 < K) (hn : K + 5 * (n : Int) ≤ 1000000000) :
    Calls Tryz.prog 17 #[v, .int .i64 K] w fun e w' => e = .returned (.int .i64 (K + 5 * (n : Int))) ∧ RowL w' base 35 5 v n (dflat (marksD K n)) ∧ Chg (fun j => 0 < n ∧ v.ownBlock = some j) w w' := by
  by_cases h0 : 0 < n
  · obtain ⟨g, cap, L, rfl, hb, hg, hL, _⟩ := h.2.2 h0
    refine (markDurS_row g n cap K L w hg hL hK hn).mono ?_
    rintro e w' ⟨L', rfl, h1, h2, h3, h4⟩
    exact ⟨rfl, ⟨by rw [dflat_len, marksD_len], ⟨_, _, rfl⟩, fun _ => ⟨g, cap, L', rfl, hb, h1, by omega, h3⟩⟩, Chg.of_grown h4 ⟨h0, rfl⟩⟩
  · obtain rfl : n = 0 := by omega
    obtain ⟨a, c, rfl⟩ := h.2.1
    refine (markDurS_none a c K w).mono ?_
    rintro e w' ⟨rfl, hq⟩
    refine ⟨by simp, ⟨by simp [marksD, dflat], ⟨_, _, rfl⟩, fun h => absurd h (by omega)⟩, ?_⟩
    rw [hq]
    exact Chg.refl _ _
set_option maxHeartbeats 4000000 in
set_option maxRecDepth 1000000 in
theorem heldDurS_row (g o c n : Nat) (K : Int) (w : World) (hE : DursAt w g o (marksD K n)) (hK : 0 < K) (hn : K + 5 * (n : Int) ≤ 1000000000) :
    Calls Tryz.prog 18 #[.slice (some ⟨g, o, none⟩) n c, .int .i64 K] w fun e w' => e = .returned (.int .i64 (K + 5 * (n : Int))) ∧ Below w.heap.size w w' := by
  have mixed : Tryz.prog.follows .mixedOrders = true := by kernel_rfl
  have HE := hid hE
  clear hE
  go_enter Tryz.func18, Tryz.ntmps18
  go_wp2
  go_loopw [1, 5] (fun kv i wr => ∃ j : Nat, j ≤ n ∧ i = .int .i64 j ∧ kv = .int .i64 (K + 5 * (j : Int)) ∧ Below w.heap.size w wr) (fun _ i _ => n - (intOf i).toNat)
  case atStart => exact ⟨0, Nat.zero_le _, rfl, by simp, Below.refl _ _⟩
  case round =>
    obtain ⟨j, hj, rfl, rfl, hbel⟩ := hrel
    by_cases hlt : j < n
    · have hA := (HE.out.stay hbel (Nat.le_refl _)).el (k := j) (by rw [marksD_len]; exact hlt)
      rw [marksD_at] at hA
      unfold mkDu at hA
      obtain ⟨a0, a1, a2, a3, a4⟩ := hA
      simp only at a0 a1 a2 a3 a4
      have c4 := fun w => markText_any (K + 5 * (j : Int)) w (by omega) (by omega)
      generalize markT (K + 5 * (j : Int)) = S4 at *
      have k4 := cell_regrown a0
      have d4 := fun d os => Calls.regrown_of (w := wr) (d := d) (os := os) (c4 _)
      have H1 := hid a1
      have H2 := hid a2
      have H3 := hid a3
      have H4 := hid a4
      clear c4 a0 a1 a2 a3 a4
      go_wp2
      refine wp_region_quiet_below mixed (by kernel_rfl) ?_
      repeat (quiet_step (first | (go_at_call 43; exact d4 _ _)))
      refine wpQuiet_nil ?_
      intro w2 hw'
      obtain ⟨⟨dq, osq⟩, hw''⟩ := hw'
      have hbX := below_regrown wr dq osq
      have e1 := cell_regrown H1.out dq osq
      have e2 := cell_regrown H2.out dq osq
      have e3 := cell_regrown H3.out dq osq
      have e4 := cell_regrown H4.out dq osq
      rw [← hw''] at hbX e1 e2 e3 e4
      have hbel2 := hbel.trans (hbX.mono hbel.size)
      clear hw'' d4 k4 hbX H1 H2 H3 H4
      go_wp2
      go_roundw
      case rel => exact ⟨j + 1, by omega, by go_num, by go_num, hbel2⟩
      case measure => simp [intOf]; omega
    · have hje : j = n := by omega
      have HJ := hid hje
      clear hje
      go_wp2
      go_ret
      exact ⟨by rw [HJ.out]; rfl, hbel⟩
theorem heldDurS_none (a : Option Addr) (c : Nat) (K : Int) (w : World) :
    Calls Tryz.prog 18 #[.slice a 0 c, .int .i64 K] w fun e w' => e = .returned (.int .i64 K) ∧ w' = w := by
  go_enter Tryz.func18, Tryz.ntmps18
  go_wp2
  go_loopw [1, 5] (fun kv i wr => kv = .int .i64 K ∧ i = .int .i64 0 ∧ wr = w) (fun _ _ _ => 0)
  case atStart => exact ⟨rfl, rfl, rfl⟩
  case round =>
    obtain ⟨rfl, rfl, rfl⟩ := hrel
    go_wp2
    go_ret
    exact ⟨rfl, rfl⟩
theorem heldDurS_rowL (v : Value) (n base : Nat) (K : Int) (w : World) (h : RowL w base 35 5 v n (dflat (marksD K n))) (hK : 0 < K) (hn : K + 5 * (n : Int) ≤ 1000000000) :
    Calls Tryz.prog 18 #[v, .int .i64 K] w fun e w' => e = .returned (.int .i64 (K + 5 * (n : Int))) ∧ Below w.heap.size w w' := by
  have hs := RowL.durs (l := marksD K n) (by rw [marksD_len]; exact h)
  rw [marksD_len] at hs
  rcases hs with ⟨h0, a, c, rfl⟩ | ⟨h0, g, c, rfl, hE⟩
  · have : n = 0 := by rw [← marksD_len K n, h0]; rfl
    subst this
    refine (heldDurS_none a c K w).mono ?_
    rintro e w' ⟨rfl, hq⟩
    exact ⟨by simp, by rw [hq]; exact Below.refl _ _⟩
  · exact heldDurS_row g 0 c n K w hE hK hn
end Go.Proofs.YthggcdadipjiiaaGreatDoor
