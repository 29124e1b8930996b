/-
  What (*spec.l02Reader).events answers, and where the reader stands behind it: a contract over the seat's program.
-/
import Derived.Test.YticnffakngpkfaaDoorRdrA
import Derived.Test.YticnffakngpkfaaDoorCurR
namespace Go.Proofs.YticnffakngpkfaaDoor
open Go.RowKit Get

theorem rdr_own {w1 w2 : World} {base size n b : Nat} {e : TypeId} {v : Value} {xs : List Value} {t : ByteArray} {st : Option Nat} (h : RdrAt w1 b t st) (hown : w1.ownsRow base e size v n xs) (hb : b < base) (hg : w1.grownBy w2 v.ownBlock) : RdrAt w2 b t st :=
  h.of_block (hg.block b h.lt (fun e => by have := (hown.lt b e.symm).1; omega))
/-- The specification's row: with a number below 0 it is bad. -/
def rowT (t : ByteArray) : List Ev × Option Nat := runS t (numS t (some 0)).1.toNat [] (if (numS t (some 0)).1 < 0 then none else (numS t (some 0)).2)
theorem rd_bound : ∀ (f k : Nat) (l : List UInt8) (U V n : Nat), k + f = 10 → U < 128 ^ k → rd f l k U = (0, V, n) → V < 18446744073709551616
  | 0, k, l, U, V, n, _, _, h => by simp [rd] at h
  | f + 1, k, [], U, V, n, _, _, h => by simp [rd] at h
  | f + 1, k, c :: r, U, V, n, hk, hU, h => by
    have hc : c.toNat < 256 := UInt8.toNat_lt _
    have e9 : 128 ^ 9 = 9223372036854775808 := by decide
    unfold rd at h
    split at h
    · simp at h
    · rename_i h9
      split at h
      · split at h
        · simp at h
        · simp at h
          obtain ⟨hV, _⟩ := h
          by_cases hk9 : k = 9
          · subst hk9
            rw [e9] at hV hU
            omega
          · have hp := pow_le9 (show k ≤ 8 by omega)
            rw [Nat.pow_succ] at hp
            have : c.toNat % 128 * 128 ^ k ≤ 127 * 128 ^ k := Nat.mul_le_mul_right _ (by omega)
            omega
      · refine rd_bound f (k + 1) r _ V n (by omega) ?_ h
        have : c.toNat % 128 * 128 ^ k ≤ 127 * 128 ^ k := Nat.mul_le_mul_right _ (by omega)
        rw [Nat.pow_succ]; omega
theorem numS_hi {t : ByteArray} {st : Option Nat} : (numS t st).1 ≤ 9223372036854775807 := by
  cases st with
  | none => rw [numS_none]; decide
  | some a =>
    by_cases hc : (gn t a).2.2 = 0
    · rw [numS_ok hc]
      unfold gn numR at hc ⊢
      by_cases h0 : (rd 10 (t.data.toList.drop a) 0 0).1 = 0
      · rw [if_pos h0]
        have hb := rd_bound 10 0 (t.data.toList.drop a) 0 (rd 10 (t.data.toList.drop a) 0 0).2.1 (rd 10 (t.data.toList.drop a) 0 0).2.2 rfl (by decide) (by rw [← h0])
        simp only [unf]
        split <;> omega
      · rw [if_neg h0] at hc; exact absurd hc h0
    · rw [numS_bad hc]; decide

theorem new_six_at (w : World) (e : Ev) (T : TypeId) (n : Nat) (hn : n = w.heap.size) : ∀ j u, e.cells[j]? = some u → (w.alloc (.cells e.cells.toArray T)).cell? ((⟨n, 0, none⟩ : Addr).add j) = some u := by
  subst hn; exact new_six w e T
theorem own_set_far {w : World} {base size n g i : Nat} {e : TypeId} {v : Value} {xs : List Value} (h : w.ownsRow base e size v n xs) (hne : ∀ k, v.ownBlock = some k → k < g) (u : Value) : (w.setCell ⟨g, i, none⟩ u).ownsRow base e size v n xs :=
  h.kept (row := some g) (grown_set w g i u) (.inr (fun e => by have := hne g e; omega))
set_option maxHeartbeats 4000000 in
set_option maxRecDepth 100000 in
theorem events_any (b : Nat) (t : ByteArray) (w : World) (ht : (t.size : Int) ≤ 8000) (h : RdrAt w b t (some 0)) :
    Calls Tryd.prog 40 #[.pointer (some ⟨b, 0, none⟩)] w fun e w' =>
      ∃ v, e = .returned v ∧ w'.ownsRow w.heap.size 32 6 v (rowT t).1.length ((rowT t).1.flatMap Ev.cells) ∧ RdrAt w' b t (rowT t).2 ∧ w.grownBy w' (some b) := by
  obtain ⟨i0, hi, hz0, hz1, hz2⟩ := info_parts Tryd.infoEvr
  have hnb := numS_hi (t := t) (st := some 0)
  obtain ⟨⟨n, s1⟩, h1⟩ : ∃ x, numS t (some 0) = x := ⟨_, rfl⟩
  obtain ⟨R, hR⟩ : ∃ x, rowT t = x := ⟨_, rfl⟩
  rw [hR]
  have hR' := hR
  unfold rowT at hR'
  rw [h1] at hR' hnb
  simp only at hR' hnb
  have hs1 : ∀ a, s1 = some a → a ≤ t.size := fun a ha => (numS_le ht (a := 0) (a' := a) (by rw [h1, ha])).2
  have d1 := hid (fun w h => h1 ▸ rdrNum_any b t (some 0) w ht h)
  have hlt := h.lt
  have H0 := hid h
  have HR := hid hR'
  have HS1 := hid hs1
  have HO0 := hid (World.ownsRow_made (base := w.heap.size) (e := 32) (size := 6) w #[] 0 (Nat.le_refl _) (by unfold maxLen; omega) rfl)
  clear h1 hR hR' h hs1
  go_enter Tryd.func40, Tryd.ntmps40
  go_wp2_with fail
  refine (d1.out _ (H0.out.of_block (alloc_old hlt))).mono ?_
  rintro e w1 ⟨rfl, k1, g1⟩
  have HO1 := hid (own_kept HO0.out hlt g1)
  have G1 := hid (grown_trans (World.grownBy_alloc w _ _) g1)
  have K1 := hid k1
  clear k1 g1 H0 HO0 d1
  cases s1 with
  | none =>
    obtain ⟨a1, ha1, hb⟩ := K1.out
    have e2 : w1.cell? ⟨b, 2, none⟩ = some (.bool true) := by rw [Lib.cell_of_heap hb]; rfl
    have f2 : w1.frozen? ⟨b, 2, none⟩ = false := Lib.frozen_of_heap hb 2
    have K2 : Hid (RdrAt (w1.setCell ⟨b, 2, none⟩ (.bool true)) b t none) := ⟨a1, ha1, blk_set (i := 2) hb (.bool true)⟩
    have G2 := hid (grown_trans G1.out (grown_set w1 b 2 (.bool true)))
    have HO2 := hid (own_kept HO1.out hlt (grown_set w1 b 2 (.bool true)))
    have HRun : Hid (Run t R n.toNat [] none) := ⟨by rw [← HR.out]; split <;> rfl, by simp, fun a ha => (by cases ha), fun i hi => absurd hi (by simp)⟩
    clear hb K1 G1 HO1 HR HS1
    go_wp2
    go_loopw [3, 5] (fun v kv wr => ∃ (l : List Ev) (s : Option Nat) (k : Int), kv = .int .i64 k ∧ k ≤ 9223372036854775807 ∧ Run t R k.toNat l s ∧ wr.ownsRow w.heap.size 32 6 v l.length (l.flatMap Ev.cells) ∧ RdrAt wr b t s ∧ w.grownBy wr (some b)) (fun _ kv _ => (intOf kv).toNat)
    case atStart => exact ⟨[], _, n, rfl, hnb, HRun.out, HO2.out, K2.out, G2.out⟩
    case round =>
      obtain ⟨l, s, k, rfl, hkb, hRun, hown, hcur, hgr⟩ := hrel
      obtain ⟨a, c, rfl⟩ := own_forms hown
      have hm := hRun.many
      have HR := hid hRun
      have HO := hid hown
      have HC := hid hcur
      have HG := hid hgr
      clear hRun hown hcur hgr
      by_cases hless : 0 < k
      · cases s with
        | none =>
          obtain ⟨a0, _, hb⟩ := HC.out
          have e2 : wr.cell? ⟨b, 2, none⟩ = some (.bool true) := by rw [Lib.cell_of_heap hb]; rfl
          clear hb
          go_wp2
          go_ret
          rw [HR.out.stop]
          exact ⟨_, rfl, HO.out, HC.out, HG.out⟩
        | some a0 =>
          have hb := HC.out.2
          have e2 : wr.cell? ⟨b, 2, none⟩ = some (.bool false) := by rw [Lib.cell_of_heap hb]; rfl
          have HR2 := HR.out
          rw [show k.toNat = (k - 1).toNat + 1 by omega] at HR2
          have HS := hid (HR2.step ht)
          clear hb HR2
          obtain ⟨⟨q0, s1⟩, h1⟩ : ∃ x, numS t (some a0) = x := ⟨_, rfl⟩
          obtain ⟨⟨q1, s2⟩, h2⟩ : ∃ x, numS t s1 = x := ⟨_, rfl⟩
          obtain ⟨⟨q2, s3⟩, h3⟩ : ∃ x, numS t s2 = x := ⟨_, rfl⟩
          obtain ⟨⟨q3, s4⟩, h4⟩ : ∃ x, numS t s3 = x := ⟨_, rfl⟩
          obtain ⟨⟨q4, s5⟩, h5⟩ : ∃ x, textS t s4 = x := ⟨_, rfl⟩
          obtain ⟨⟨q5, s6⟩, h6⟩ : ∃ x, textS t s5 = x := ⟨_, rfl⟩
          rw [evS_eq h1 h2 h3 h4 h5 h6] at HS
          have d1 := hid (fun w h => h1 ▸ rdrNum_any b t (some a0) w ht h)
          have d2 := hid (fun w h => h2 ▸ rdrNum_any b t s1 w ht h)
          have d3 := hid (fun w h => h3 ▸ rdrNum_any b t s2 w ht h)
          have d4 := hid (fun w h => h4 ▸ rdrNum_any b t s3 w ht h)
          have d5 := hid (fun w h => h5 ▸ rdrText_any b t s4 w ht h)
          have d6 := hid (fun w h => h6 ▸ rdrText_any b t s5 w ht h)
          clear h1 h2 h3 h4 h5 h6 HR
          go_wp2_with fail
          refine (d1.out _ HC.out).mono ?_
          rintro e w3 ⟨rfl, k3, g3⟩
          have hzw : w.heap.size ≤ w3.heap.size := Nat.le_trans HG.out.size g3.size
          have HO3 := hid ((own_kept HO.out hlt g3).alloc (.cells [.int .i64 q0, .int .i64 0, .int .i64 0, .int .i64 0, .string ⟨#[]⟩, .string ⟨#[]⟩].toArray 32))
          have G3 := hid (grown_trans (grown_trans HG.out g3) (World.grownBy_alloc w3 (.cells [.int .i64 q0, .int .i64 0, .int .i64 0, .int .i64 0, .string ⟨#[]⟩, .string ⟨#[]⟩].toArray 32) _))
          have K3 := hid (k3.of_block (alloc_old (o := .cells [.int .i64 q0, .int .i64 0, .int .i64 0, .int .i64 0, .string ⟨#[]⟩, .string ⟨#[]⟩].toArray 32) k3.lt))
          have E3 := hid (heap_alloc_new w3 (.cells [.int .i64 q0, .int .i64 0, .int .i64 0, .int .i64 0, .string ⟨#[]⟩, .string ⟨#[]⟩].toArray 32))
          have HV : Hid (∀ k, (Value.slice a l.length c).ownBlock = some k → k < w3.heap.size) := fun k hk => Nat.lt_of_lt_of_le (HO.out.lt k hk).2 g3.size
          have hgb : b ≠ w3.heap.size := by omega
          have hgb' : w3.heap.size ≠ b := by omega
          clear k3 g3 HO HC HG d1 e2
          go_wp2_with fail
          generalize w3.heap.size = g at *
          refine (d2.out _ K3.out).mono ?_
          rintro e w4 ⟨rfl, k4, g4⟩
          have hE : w4.heap[g]? = some (.cells [.int .i64 q0, .int .i64 0, .int .i64 0, .int .i64 0, .string ⟨#[]⟩, .string ⟨#[]⟩].toArray 32 (0, 0)) := (g4.block g (lt_heap E3.out) (by simp [hgb'])).trans E3.out
          have z : w4.cell? ⟨g, 1, none⟩ = some (.int .i64 0) := by rw [Lib.cell_of_heap hE]; rfl
          have zf : w4.frozen? ⟨g, 1, none⟩ = false := Lib.frozen_of_heap hE 1
          have K4 := hid (k4.of_block (put_other (i := 1) hgb (.int .i64 q1)))
          have G4 := hid (grown_put (i := 1) (v := .int .i64 q1) (grown_trans G3.out g4) hzw)
          have HO4 := hid (own_set_far (i := 1) (own_kept HO3.out hlt g4) HV.out (.int .i64 q1))
          have E4 := hid (blk_set (i := 1) hE (.int .i64 q1))
          clear k4 g4 hE K3 G3 HO3 E3
          go_wp2_with fail
          refine (d3.out _ K4.out).mono ?_
          rintro e w5 ⟨rfl, k5, g5⟩
          have hE : w5.heap[g]? = some (.cells [.int .i64 q0, .int .i64 q1, .int .i64 0, .int .i64 0, .string ⟨#[]⟩, .string ⟨#[]⟩].toArray 32 (0, 0)) := (g5.block g (lt_heap E4.out) (by simp [hgb'])).trans E4.out
          have z : w5.cell? ⟨g, 2, none⟩ = some (.int .i64 0) := by rw [Lib.cell_of_heap hE]; rfl
          have zf : w5.frozen? ⟨g, 2, none⟩ = false := Lib.frozen_of_heap hE 2
          have K5 := hid (k5.of_block (put_other (i := 2) hgb (.int .i64 q2)))
          have G5 := hid (grown_put (i := 2) (v := .int .i64 q2) (grown_trans G4.out g5) hzw)
          have HO5 := hid (own_set_far (i := 2) (own_kept HO4.out hlt g5) HV.out (.int .i64 q2))
          have E5 := hid (blk_set (i := 2) hE (.int .i64 q2))
          clear k5 g5 hE K4 G4 HO4 E4
          go_wp2_with fail
          refine (d4.out _ K5.out).mono ?_
          rintro e w6 ⟨rfl, k6, g6⟩
          have hE : w6.heap[g]? = some (.cells [.int .i64 q0, .int .i64 q1, .int .i64 q2, .int .i64 0, .string ⟨#[]⟩, .string ⟨#[]⟩].toArray 32 (0, 0)) := (g6.block g (lt_heap E5.out) (by simp [hgb'])).trans E5.out
          have z : w6.cell? ⟨g, 3, none⟩ = some (.int .i64 0) := by rw [Lib.cell_of_heap hE]; rfl
          have zf : w6.frozen? ⟨g, 3, none⟩ = false := Lib.frozen_of_heap hE 3
          have K6 := hid (k6.of_block (put_other (i := 3) hgb (.int .i64 q3)))
          have G6 := hid (grown_put (i := 3) (v := .int .i64 q3) (grown_trans G5.out g6) hzw)
          have HO6 := hid (own_set_far (i := 3) (own_kept HO5.out hlt g6) HV.out (.int .i64 q3))
          have E6 := hid (blk_set (i := 3) hE (.int .i64 q3))
          clear k6 g6 hE K5 G5 HO5 E5
          go_wp2_with fail
          refine (d5.out _ K6.out).mono ?_
          rintro e w7 ⟨rfl, k7, g7⟩
          have hE : w7.heap[g]? = some (.cells [.int .i64 q0, .int .i64 q1, .int .i64 q2, .int .i64 q3, .string ⟨#[]⟩, .string ⟨#[]⟩].toArray 32 (0, 0)) := (g7.block g (lt_heap E6.out) (by simp [hgb'])).trans E6.out
          have z : w7.cell? ⟨g, 4, none⟩ = some (.string ⟨#[]⟩) := by rw [Lib.cell_of_heap hE]; rfl
          have zf : w7.frozen? ⟨g, 4, none⟩ = false := Lib.frozen_of_heap hE 4
          have K7 := hid (k7.of_block (put_other (i := 4) hgb (.string q4)))
          have G7 := hid (grown_put (i := 4) (v := .string q4) (grown_trans G6.out g7) hzw)
          have HO7 := hid (own_set_far (i := 4) (own_kept HO6.out hlt g7) HV.out (.string q4))
          have E7 := hid (blk_set (i := 4) hE (.string q4))
          clear k7 g7 hE K6 G6 HO6 E6
          go_wp2_with fail
          refine (d6.out _ K7.out).mono ?_
          rintro e w8 ⟨rfl, k8, g8⟩
          have hE : w8.heap[g]? = some (.cells [.int .i64 q0, .int .i64 q1, .int .i64 q2, .int .i64 q3, .string q4, .string ⟨#[]⟩].toArray 32 (0, 0)) := (g8.block g (lt_heap E7.out) (by simp [hgb'])).trans E7.out
          have z : w8.cell? ⟨g, 5, none⟩ = some (.string ⟨#[]⟩) := by rw [Lib.cell_of_heap hE]; rfl
          have zf : w8.frozen? ⟨g, 5, none⟩ = false := Lib.frozen_of_heap hE 5
          have y0 : w8.cell? ⟨g, 0, none⟩ = some (.int .i64 q0) := by rw [Lib.cell_of_heap hE]; rfl
          have y1 : w8.cell? ⟨g, 1, none⟩ = some (.int .i64 q1) := by rw [Lib.cell_of_heap hE]; rfl
          have y2 : w8.cell? ⟨g, 2, none⟩ = some (.int .i64 q2) := by rw [Lib.cell_of_heap hE]; rfl
          have y3 : w8.cell? ⟨g, 3, none⟩ = some (.int .i64 q3) := by rw [Lib.cell_of_heap hE]; rfl
          have y4 : w8.cell? ⟨g, 4, none⟩ = some (.string q4) := by rw [Lib.cell_of_heap hE]; rfl
          have K8 := hid (k8.of_block (put_other (i := 5) hgb (.string q5)))
          have G8 := hid (grown_put (i := 5) (v := .string q5) (grown_trans G7.out g8) hzw)
          have HO8 := hid (own_set_far (i := 5) (own_kept HO7.out hlt g8) HV.out (.string q5))
          have E8 := hid (blk_set (i := 5) hE (.string q5))
          clear k8 g8 hE K7 G7 HO7 E7
          go_wp2_with (at_builtin; refine wpList_append_own _ rfl _ _ 23 rfl w.heap.size 32 i0 _ 6 64 Tryd.underlying23 hi hz0 hz1 hz2 rfl (by decide) _ _ _ rfl (HO8.out.alloc _) ⟨w8.heap.size, 0, none⟩ 1 1 [.int .i64 q0, .int .i64 q1, .int .i64 q2, .int .i64 q3, .string q4, .string q5] rfl rfl ?c1 ?c2 ?c3 ?c4 ?c5 ?_)
          case c1 => exact new_six_at (w8.setCell ⟨g, 5, none⟩ (.string q5)) ⟨q0, q1, q2, q3, q4, q5⟩ 32 _ (by simp)
          case c2 => exact ev_one ⟨q0, q1, q2, q3, q4, q5⟩
          case c3 => unfold maxLen; omega
          case c4 => omega
          case c5 => have := G8.out.size; simp at this ⊢; omega
          intro v' w9 hown9 hgrow _
          have G9 := hid (grown_own (grown_trans G8.out (World.grownBy_alloc _ _ _)) (HO8.out.alloc _) (Nat.le_refl _) hgrow)
          have K9 := hid (rdr_own (K8.out.of_block (alloc_old K8.out.lt)) (HO8.out.alloc _) hlt hgrow)
          have HO9 : Hid (w9.ownsRow w.heap.size 32 6 v' (l ++ [(⟨q0, q1, q2, q3, q4, q5⟩ : Ev)]).length ((l ++ [(⟨q0, q1, q2, q3, q4, q5⟩ : Ev)]).flatMap Ev.cells)) := by
            show World.ownsRow _ _ _ _ _ _ _
            rw [flat_snoc, List.length_append]; exact hown9
          obtain ⟨a', c', rfl⟩ := own_forms hown9
          clear hown9 hgrow G8 K8 HO8 E8
          go_wp2
          go_roundw
          case rel => exact ⟨l ++ [⟨q0, q1, q2, q3, q4, q5⟩], s6, k - 1, rfl, by omega, HS.out, HO9.out, K9.out, G9.out⟩
          case measure => simp [intOf]; omega
      · have h0 : k.toNat = 0 := by omega
        have H0 := hid h0
        clear h0
        go_wp2
        go_ret
        have := HR.out
        rw [H0.out] at this
        rw [this.done]
        exact ⟨_, rfl, HO.out, HC.out, HG.out⟩
  | some a1 =>
    obtain ⟨ha1, hb⟩ := K1.out
    have e2 : w1.cell? ⟨b, 2, none⟩ = some (.bool false) := by rw [Lib.cell_of_heap hb]; rfl
    have f2 : w1.frozen? ⟨b, 2, none⟩ = false := Lib.frozen_of_heap hb 2
    by_cases hn : n < 0
    · have K2 : Hid (RdrAt (w1.setCell ⟨b, 2, none⟩ (.bool true)) b t none) := ⟨a1, ha1, blk_set (i := 2) hb (.bool true)⟩
      have G2 := hid (grown_trans G1.out (grown_set w1 b 2 (.bool true)))
      have HO2 := hid (own_kept HO1.out hlt (grown_set w1 b 2 (.bool true)))
      have HRun : Hid (Run t R n.toNat [] none) := ⟨by rw [← HR.out, if_pos hn], by simp, fun a ha => (by cases ha), fun i hi => absurd hi (by simp)⟩
      have hdn : decide (n < 0) = true := by simpa using hn
      clear hb K1 G1 HO1 HR HS1
      go_wp2
      go_loopw [3, 5] (fun v kv wr => ∃ (l : List Ev) (s : Option Nat) (k : Int), kv = .int .i64 k ∧ k ≤ 9223372036854775807 ∧ Run t R k.toNat l s ∧ wr.ownsRow w.heap.size 32 6 v l.length (l.flatMap Ev.cells) ∧ RdrAt wr b t s ∧ w.grownBy wr (some b)) (fun _ kv _ => (intOf kv).toNat)
      case atStart => exact ⟨[], _, n, rfl, hnb, HRun.out, HO2.out, K2.out, G2.out⟩
      case round =>
        obtain ⟨l, s, k, rfl, hkb, hRun, hown, hcur, hgr⟩ := hrel
        obtain ⟨a, c, rfl⟩ := own_forms hown
        have hm := hRun.many
        have HR := hid hRun
        have HO := hid hown
        have HC := hid hcur
        have HG := hid hgr
        clear hRun hown hcur hgr
        by_cases hless : 0 < k
        · cases s with
          | none =>
            obtain ⟨a0, _, hb⟩ := HC.out
            have e2 : wr.cell? ⟨b, 2, none⟩ = some (.bool true) := by rw [Lib.cell_of_heap hb]; rfl
            clear hb
            go_wp2
            go_ret
            rw [HR.out.stop]
            exact ⟨_, rfl, HO.out, HC.out, HG.out⟩
          | some a0 =>
            have hb := HC.out.2
            have e2 : wr.cell? ⟨b, 2, none⟩ = some (.bool false) := by rw [Lib.cell_of_heap hb]; rfl
            have HR2 := HR.out
            rw [show k.toNat = (k - 1).toNat + 1 by omega] at HR2
            have HS := hid (HR2.step ht)
            clear hb HR2
            obtain ⟨⟨q0, s1⟩, h1⟩ : ∃ x, numS t (some a0) = x := ⟨_, rfl⟩
            obtain ⟨⟨q1, s2⟩, h2⟩ : ∃ x, numS t s1 = x := ⟨_, rfl⟩
            obtain ⟨⟨q2, s3⟩, h3⟩ : ∃ x, numS t s2 = x := ⟨_, rfl⟩
            obtain ⟨⟨q3, s4⟩, h4⟩ : ∃ x, numS t s3 = x := ⟨_, rfl⟩
            obtain ⟨⟨q4, s5⟩, h5⟩ : ∃ x, textS t s4 = x := ⟨_, rfl⟩
            obtain ⟨⟨q5, s6⟩, h6⟩ : ∃ x, textS t s5 = x := ⟨_, rfl⟩
            rw [evS_eq h1 h2 h3 h4 h5 h6] at HS
            have d1 := hid (fun w h => h1 ▸ rdrNum_any b t (some a0) w ht h)
            have d2 := hid (fun w h => h2 ▸ rdrNum_any b t s1 w ht h)
            have d3 := hid (fun w h => h3 ▸ rdrNum_any b t s2 w ht h)
            have d4 := hid (fun w h => h4 ▸ rdrNum_any b t s3 w ht h)
            have d5 := hid (fun w h => h5 ▸ rdrText_any b t s4 w ht h)
            have d6 := hid (fun w h => h6 ▸ rdrText_any b t s5 w ht h)
            clear h1 h2 h3 h4 h5 h6 HR
            go_wp2_with fail
            refine (d1.out _ HC.out).mono ?_
            rintro e w3 ⟨rfl, k3, g3⟩
            have hzw : w.heap.size ≤ w3.heap.size := Nat.le_trans HG.out.size g3.size
            have HO3 := hid ((own_kept HO.out hlt g3).alloc (.cells [.int .i64 q0, .int .i64 0, .int .i64 0, .int .i64 0, .string ⟨#[]⟩, .string ⟨#[]⟩].toArray 32))
            have G3 := hid (grown_trans (grown_trans HG.out g3) (World.grownBy_alloc w3 (.cells [.int .i64 q0, .int .i64 0, .int .i64 0, .int .i64 0, .string ⟨#[]⟩, .string ⟨#[]⟩].toArray 32) _))
            have K3 := hid (k3.of_block (alloc_old (o := .cells [.int .i64 q0, .int .i64 0, .int .i64 0, .int .i64 0, .string ⟨#[]⟩, .string ⟨#[]⟩].toArray 32) k3.lt))
            have E3 := hid (heap_alloc_new w3 (.cells [.int .i64 q0, .int .i64 0, .int .i64 0, .int .i64 0, .string ⟨#[]⟩, .string ⟨#[]⟩].toArray 32))
            have HV : Hid (∀ k, (Value.slice a l.length c).ownBlock = some k → k < w3.heap.size) := fun k hk => Nat.lt_of_lt_of_le (HO.out.lt k hk).2 g3.size
            have hgb : b ≠ w3.heap.size := by omega
            have hgb' : w3.heap.size ≠ b := by omega
            clear k3 g3 HO HC HG d1 e2
            go_wp2_with fail
            generalize w3.heap.size = g at *
            refine (d2.out _ K3.out).mono ?_
            rintro e w4 ⟨rfl, k4, g4⟩
            have hE : w4.heap[g]? = some (.cells [.int .i64 q0, .int .i64 0, .int .i64 0, .int .i64 0, .string ⟨#[]⟩, .string ⟨#[]⟩].toArray 32 (0, 0)) := (g4.block g (lt_heap E3.out) (by simp [hgb'])).trans E3.out
            have z : w4.cell? ⟨g, 1, none⟩ = some (.int .i64 0) := by rw [Lib.cell_of_heap hE]; rfl
            have zf : w4.frozen? ⟨g, 1, none⟩ = false := Lib.frozen_of_heap hE 1
            have K4 := hid (k4.of_block (put_other (i := 1) hgb (.int .i64 q1)))
            have G4 := hid (grown_put (i := 1) (v := .int .i64 q1) (grown_trans G3.out g4) hzw)
            have HO4 := hid (own_set_far (i := 1) (own_kept HO3.out hlt g4) HV.out (.int .i64 q1))
            have E4 := hid (blk_set (i := 1) hE (.int .i64 q1))
            clear k4 g4 hE K3 G3 HO3 E3
            go_wp2_with fail
            refine (d3.out _ K4.out).mono ?_
            rintro e w5 ⟨rfl, k5, g5⟩
            have hE : w5.heap[g]? = some (.cells [.int .i64 q0, .int .i64 q1, .int .i64 0, .int .i64 0, .string ⟨#[]⟩, .string ⟨#[]⟩].toArray 32 (0, 0)) := (g5.block g (lt_heap E4.out) (by simp [hgb'])).trans E4.out
            have z : w5.cell? ⟨g, 2, none⟩ = some (.int .i64 0) := by rw [Lib.cell_of_heap hE]; rfl
            have zf : w5.frozen? ⟨g, 2, none⟩ = false := Lib.frozen_of_heap hE 2
            have K5 := hid (k5.of_block (put_other (i := 2) hgb (.int .i64 q2)))
            have G5 := hid (grown_put (i := 2) (v := .int .i64 q2) (grown_trans G4.out g5) hzw)
            have HO5 := hid (own_set_far (i := 2) (own_kept HO4.out hlt g5) HV.out (.int .i64 q2))
            have E5 := hid (blk_set (i := 2) hE (.int .i64 q2))
            clear k5 g5 hE K4 G4 HO4 E4
            go_wp2_with fail
            refine (d4.out _ K5.out).mono ?_
            rintro e w6 ⟨rfl, k6, g6⟩
            have hE : w6.heap[g]? = some (.cells [.int .i64 q0, .int .i64 q1, .int .i64 q2, .int .i64 0, .string ⟨#[]⟩, .string ⟨#[]⟩].toArray 32 (0, 0)) := (g6.block g (lt_heap E5.out) (by simp [hgb'])).trans E5.out
            have z : w6.cell? ⟨g, 3, none⟩ = some (.int .i64 0) := by rw [Lib.cell_of_heap hE]; rfl
            have zf : w6.frozen? ⟨g, 3, none⟩ = false := Lib.frozen_of_heap hE 3
            have K6 := hid (k6.of_block (put_other (i := 3) hgb (.int .i64 q3)))
            have G6 := hid (grown_put (i := 3) (v := .int .i64 q3) (grown_trans G5.out g6) hzw)
            have HO6 := hid (own_set_far (i := 3) (own_kept HO5.out hlt g6) HV.out (.int .i64 q3))
            have E6 := hid (blk_set (i := 3) hE (.int .i64 q3))
            clear k6 g6 hE K5 G5 HO5 E5
            go_wp2_with fail
            refine (d5.out _ K6.out).mono ?_
            rintro e w7 ⟨rfl, k7, g7⟩
            have hE : w7.heap[g]? = some (.cells [.int .i64 q0, .int .i64 q1, .int .i64 q2, .int .i64 q3, .string ⟨#[]⟩, .string ⟨#[]⟩].toArray 32 (0, 0)) := (g7.block g (lt_heap E6.out) (by simp [hgb'])).trans E6.out
            have z : w7.cell? ⟨g, 4, none⟩ = some (.string ⟨#[]⟩) := by rw [Lib.cell_of_heap hE]; rfl
            have zf : w7.frozen? ⟨g, 4, none⟩ = false := Lib.frozen_of_heap hE 4
            have K7 := hid (k7.of_block (put_other (i := 4) hgb (.string q4)))
            have G7 := hid (grown_put (i := 4) (v := .string q4) (grown_trans G6.out g7) hzw)
            have HO7 := hid (own_set_far (i := 4) (own_kept HO6.out hlt g7) HV.out (.string q4))
            have E7 := hid (blk_set (i := 4) hE (.string q4))
            clear k7 g7 hE K6 G6 HO6 E6
            go_wp2_with fail
            refine (d6.out _ K7.out).mono ?_
            rintro e w8 ⟨rfl, k8, g8⟩
            have hE : w8.heap[g]? = some (.cells [.int .i64 q0, .int .i64 q1, .int .i64 q2, .int .i64 q3, .string q4, .string ⟨#[]⟩].toArray 32 (0, 0)) := (g8.block g (lt_heap E7.out) (by simp [hgb'])).trans E7.out
            have z : w8.cell? ⟨g, 5, none⟩ = some (.string ⟨#[]⟩) := by rw [Lib.cell_of_heap hE]; rfl
            have zf : w8.frozen? ⟨g, 5, none⟩ = false := Lib.frozen_of_heap hE 5
            have y0 : w8.cell? ⟨g, 0, none⟩ = some (.int .i64 q0) := by rw [Lib.cell_of_heap hE]; rfl
            have y1 : w8.cell? ⟨g, 1, none⟩ = some (.int .i64 q1) := by rw [Lib.cell_of_heap hE]; rfl
            have y2 : w8.cell? ⟨g, 2, none⟩ = some (.int .i64 q2) := by rw [Lib.cell_of_heap hE]; rfl
            have y3 : w8.cell? ⟨g, 3, none⟩ = some (.int .i64 q3) := by rw [Lib.cell_of_heap hE]; rfl
            have y4 : w8.cell? ⟨g, 4, none⟩ = some (.string q4) := by rw [Lib.cell_of_heap hE]; rfl
            have K8 := hid (k8.of_block (put_other (i := 5) hgb (.string q5)))
            have G8 := hid (grown_put (i := 5) (v := .string q5) (grown_trans G7.out g8) hzw)
            have HO8 := hid (own_set_far (i := 5) (own_kept HO7.out hlt g8) HV.out (.string q5))
            have E8 := hid (blk_set (i := 5) hE (.string q5))
            clear k8 g8 hE K7 G7 HO7 E7
            go_wp2_with (at_builtin; refine wpList_append_own _ rfl _ _ 23 rfl w.heap.size 32 i0 _ 6 64 Tryd.underlying23 hi hz0 hz1 hz2 rfl (by decide) _ _ _ rfl (HO8.out.alloc _) ⟨w8.heap.size, 0, none⟩ 1 1 [.int .i64 q0, .int .i64 q1, .int .i64 q2, .int .i64 q3, .string q4, .string q5] rfl rfl ?c1 ?c2 ?c3 ?c4 ?c5 ?_)
            case c1 => exact new_six_at (w8.setCell ⟨g, 5, none⟩ (.string q5)) ⟨q0, q1, q2, q3, q4, q5⟩ 32 _ (by simp)
            case c2 => exact ev_one ⟨q0, q1, q2, q3, q4, q5⟩
            case c3 => unfold maxLen; omega
            case c4 => omega
            case c5 => have := G8.out.size; simp at this ⊢; omega
            intro v' w9 hown9 hgrow _
            have G9 := hid (grown_own (grown_trans G8.out (World.grownBy_alloc _ _ _)) (HO8.out.alloc _) (Nat.le_refl _) hgrow)
            have K9 := hid (rdr_own (K8.out.of_block (alloc_old K8.out.lt)) (HO8.out.alloc _) hlt hgrow)
            have HO9 : Hid (w9.ownsRow w.heap.size 32 6 v' (l ++ [(⟨q0, q1, q2, q3, q4, q5⟩ : Ev)]).length ((l ++ [(⟨q0, q1, q2, q3, q4, q5⟩ : Ev)]).flatMap Ev.cells)) := by
              show World.ownsRow _ _ _ _ _ _ _
              rw [flat_snoc, List.length_append]; exact hown9
            obtain ⟨a', c', rfl⟩ := own_forms hown9
            clear hown9 hgrow G8 K8 HO8 E8
            go_wp2
            go_roundw
            case rel => exact ⟨l ++ [⟨q0, q1, q2, q3, q4, q5⟩], s6, k - 1, rfl, by omega, HS.out, HO9.out, K9.out, G9.out⟩
            case measure => simp [intOf]; omega
        · have h0 : k.toNat = 0 := by omega
          have H0 := hid h0
          clear h0
          go_wp2
          go_ret
          have := HR.out
          rw [H0.out] at this
          rw [this.done]
          exact ⟨_, rfl, HO.out, HC.out, HG.out⟩
    · have K2 : Hid (RdrAt (w1.setCell ⟨b, 2, none⟩ (.bool false)) b t (some a1)) := ⟨ha1, blk_set (i := 2) hb (.bool false)⟩
      have G2 := hid (grown_trans G1.out (grown_set w1 b 2 (.bool false)))
      have HO2 := hid (own_kept HO1.out hlt (grown_set w1 b 2 (.bool false)))
      have HRun : Hid (Run t R n.toNat [] (some a1)) := ⟨by rw [← HR.out, if_neg hn], by simp, fun a ha => ⟨by simp, HS1.out a ha⟩, fun i hi => absurd hi (by simp)⟩
      have hdn : decide (n < 0) = false := by simpa using hn
      clear hb K1 G1 HO1 HR HS1
      go_wp2
      go_loopw [3, 5] (fun v kv wr => ∃ (l : List Ev) (s : Option Nat) (k : Int), kv = .int .i64 k ∧ k ≤ 9223372036854775807 ∧ Run t R k.toNat l s ∧ wr.ownsRow w.heap.size 32 6 v l.length (l.flatMap Ev.cells) ∧ RdrAt wr b t s ∧ w.grownBy wr (some b)) (fun _ kv _ => (intOf kv).toNat)
      case atStart => exact ⟨[], _, n, rfl, hnb, HRun.out, HO2.out, K2.out, G2.out⟩
      case round =>
        obtain ⟨l, s, k, rfl, hkb, hRun, hown, hcur, hgr⟩ := hrel
        obtain ⟨a, c, rfl⟩ := own_forms hown
        have hm := hRun.many
        have HR := hid hRun
        have HO := hid hown
        have HC := hid hcur
        have HG := hid hgr
        clear hRun hown hcur hgr
        by_cases hless : 0 < k
        · cases s with
          | none =>
            obtain ⟨a0, _, hb⟩ := HC.out
            have e2 : wr.cell? ⟨b, 2, none⟩ = some (.bool true) := by rw [Lib.cell_of_heap hb]; rfl
            clear hb
            go_wp2
            go_ret
            rw [HR.out.stop]
            exact ⟨_, rfl, HO.out, HC.out, HG.out⟩
          | some a0 =>
            have hb := HC.out.2
            have e2 : wr.cell? ⟨b, 2, none⟩ = some (.bool false) := by rw [Lib.cell_of_heap hb]; rfl
            have HR2 := HR.out
            rw [show k.toNat = (k - 1).toNat + 1 by omega] at HR2
            have HS := hid (HR2.step ht)
            clear hb HR2
            obtain ⟨⟨q0, s1⟩, h1⟩ : ∃ x, numS t (some a0) = x := ⟨_, rfl⟩
            obtain ⟨⟨q1, s2⟩, h2⟩ : ∃ x, numS t s1 = x := ⟨_, rfl⟩
            obtain ⟨⟨q2, s3⟩, h3⟩ : ∃ x, numS t s2 = x := ⟨_, rfl⟩
            obtain ⟨⟨q3, s4⟩, h4⟩ : ∃ x, numS t s3 = x := ⟨_, rfl⟩
            obtain ⟨⟨q4, s5⟩, h5⟩ : ∃ x, textS t s4 = x := ⟨_, rfl⟩
            obtain ⟨⟨q5, s6⟩, h6⟩ : ∃ x, textS t s5 = x := ⟨_, rfl⟩
            rw [evS_eq h1 h2 h3 h4 h5 h6] at HS
            have d1 := hid (fun w h => h1 ▸ rdrNum_any b t (some a0) w ht h)
            have d2 := hid (fun w h => h2 ▸ rdrNum_any b t s1 w ht h)
            have d3 := hid (fun w h => h3 ▸ rdrNum_any b t s2 w ht h)
            have d4 := hid (fun w h => h4 ▸ rdrNum_any b t s3 w ht h)
            have d5 := hid (fun w h => h5 ▸ rdrText_any b t s4 w ht h)
            have d6 := hid (fun w h => h6 ▸ rdrText_any b t s5 w ht h)
            clear h1 h2 h3 h4 h5 h6 HR
            go_wp2_with fail
            refine (d1.out _ HC.out).mono ?_
            rintro e w3 ⟨rfl, k3, g3⟩
            have hzw : w.heap.size ≤ w3.heap.size := Nat.le_trans HG.out.size g3.size
            have HO3 := hid ((own_kept HO.out hlt g3).alloc (.cells [.int .i64 q0, .int .i64 0, .int .i64 0, .int .i64 0, .string ⟨#[]⟩, .string ⟨#[]⟩].toArray 32))
            have G3 := hid (grown_trans (grown_trans HG.out g3) (World.grownBy_alloc w3 (.cells [.int .i64 q0, .int .i64 0, .int .i64 0, .int .i64 0, .string ⟨#[]⟩, .string ⟨#[]⟩].toArray 32) _))
            have K3 := hid (k3.of_block (alloc_old (o := .cells [.int .i64 q0, .int .i64 0, .int .i64 0, .int .i64 0, .string ⟨#[]⟩, .string ⟨#[]⟩].toArray 32) k3.lt))
            have E3 := hid (heap_alloc_new w3 (.cells [.int .i64 q0, .int .i64 0, .int .i64 0, .int .i64 0, .string ⟨#[]⟩, .string ⟨#[]⟩].toArray 32))
            have HV : Hid (∀ k, (Value.slice a l.length c).ownBlock = some k → k < w3.heap.size) := fun k hk => Nat.lt_of_lt_of_le (HO.out.lt k hk).2 g3.size
            have hgb : b ≠ w3.heap.size := by omega
            have hgb' : w3.heap.size ≠ b := by omega
            clear k3 g3 HO HC HG d1 e2
            go_wp2_with fail
            generalize w3.heap.size = g at *
            refine (d2.out _ K3.out).mono ?_
            rintro e w4 ⟨rfl, k4, g4⟩
            have hE : w4.heap[g]? = some (.cells [.int .i64 q0, .int .i64 0, .int .i64 0, .int .i64 0, .string ⟨#[]⟩, .string ⟨#[]⟩].toArray 32 (0, 0)) := (g4.block g (lt_heap E3.out) (by simp [hgb'])).trans E3.out
            have z : w4.cell? ⟨g, 1, none⟩ = some (.int .i64 0) := by rw [Lib.cell_of_heap hE]; rfl
            have zf : w4.frozen? ⟨g, 1, none⟩ = false := Lib.frozen_of_heap hE 1
            have K4 := hid (k4.of_block (put_other (i := 1) hgb (.int .i64 q1)))
            have G4 := hid (grown_put (i := 1) (v := .int .i64 q1) (grown_trans G3.out g4) hzw)
            have HO4 := hid (own_set_far (i := 1) (own_kept HO3.out hlt g4) HV.out (.int .i64 q1))
            have E4 := hid (blk_set (i := 1) hE (.int .i64 q1))
            clear k4 g4 hE K3 G3 HO3 E3
            go_wp2_with fail
            refine (d3.out _ K4.out).mono ?_
            rintro e w5 ⟨rfl, k5, g5⟩
            have hE : w5.heap[g]? = some (.cells [.int .i64 q0, .int .i64 q1, .int .i64 0, .int .i64 0, .string ⟨#[]⟩, .string ⟨#[]⟩].toArray 32 (0, 0)) := (g5.block g (lt_heap E4.out) (by simp [hgb'])).trans E4.out
            have z : w5.cell? ⟨g, 2, none⟩ = some (.int .i64 0) := by rw [Lib.cell_of_heap hE]; rfl
            have zf : w5.frozen? ⟨g, 2, none⟩ = false := Lib.frozen_of_heap hE 2
            have K5 := hid (k5.of_block (put_other (i := 2) hgb (.int .i64 q2)))
            have G5 := hid (grown_put (i := 2) (v := .int .i64 q2) (grown_trans G4.out g5) hzw)
            have HO5 := hid (own_set_far (i := 2) (own_kept HO4.out hlt g5) HV.out (.int .i64 q2))
            have E5 := hid (blk_set (i := 2) hE (.int .i64 q2))
            clear k5 g5 hE K4 G4 HO4 E4
            go_wp2_with fail
            refine (d4.out _ K5.out).mono ?_
            rintro e w6 ⟨rfl, k6, g6⟩
            have hE : w6.heap[g]? = some (.cells [.int .i64 q0, .int .i64 q1, .int .i64 q2, .int .i64 0, .string ⟨#[]⟩, .string ⟨#[]⟩].toArray 32 (0, 0)) := (g6.block g (lt_heap E5.out) (by simp [hgb'])).trans E5.out
            have z : w6.cell? ⟨g, 3, none⟩ = some (.int .i64 0) := by rw [Lib.cell_of_heap hE]; rfl
            have zf : w6.frozen? ⟨g, 3, none⟩ = false := Lib.frozen_of_heap hE 3
            have K6 := hid (k6.of_block (put_other (i := 3) hgb (.int .i64 q3)))
            have G6 := hid (grown_put (i := 3) (v := .int .i64 q3) (grown_trans G5.out g6) hzw)
            have HO6 := hid (own_set_far (i := 3) (own_kept HO5.out hlt g6) HV.out (.int .i64 q3))
            have E6 := hid (blk_set (i := 3) hE (.int .i64 q3))
            clear k6 g6 hE K5 G5 HO5 E5
            go_wp2_with fail
            refine (d5.out _ K6.out).mono ?_
            rintro e w7 ⟨rfl, k7, g7⟩
            have hE : w7.heap[g]? = some (.cells [.int .i64 q0, .int .i64 q1, .int .i64 q2, .int .i64 q3, .string ⟨#[]⟩, .string ⟨#[]⟩].toArray 32 (0, 0)) := (g7.block g (lt_heap E6.out) (by simp [hgb'])).trans E6.out
            have z : w7.cell? ⟨g, 4, none⟩ = some (.string ⟨#[]⟩) := by rw [Lib.cell_of_heap hE]; rfl
            have zf : w7.frozen? ⟨g, 4, none⟩ = false := Lib.frozen_of_heap hE 4
            have K7 := hid (k7.of_block (put_other (i := 4) hgb (.string q4)))
            have G7 := hid (grown_put (i := 4) (v := .string q4) (grown_trans G6.out g7) hzw)
            have HO7 := hid (own_set_far (i := 4) (own_kept HO6.out hlt g7) HV.out (.string q4))
            have E7 := hid (blk_set (i := 4) hE (.string q4))
            clear k7 g7 hE K6 G6 HO6 E6
            go_wp2_with fail
            refine (d6.out _ K7.out).mono ?_
            rintro e w8 ⟨rfl, k8, g8⟩
            have hE : w8.heap[g]? = some (.cells [.int .i64 q0, .int .i64 q1, .int .i64 q2, .int .i64 q3, .string q4, .string ⟨#[]⟩].toArray 32 (0, 0)) := (g8.block g (lt_heap E7.out) (by simp [hgb'])).trans E7.out
            have z : w8.cell? ⟨g, 5, none⟩ = some (.string ⟨#[]⟩) := by rw [Lib.cell_of_heap hE]; rfl
            have zf : w8.frozen? ⟨g, 5, none⟩ = false := Lib.frozen_of_heap hE 5
            have y0 : w8.cell? ⟨g, 0, none⟩ = some (.int .i64 q0) := by rw [Lib.cell_of_heap hE]; rfl
            have y1 : w8.cell? ⟨g, 1, none⟩ = some (.int .i64 q1) := by rw [Lib.cell_of_heap hE]; rfl
            have y2 : w8.cell? ⟨g, 2, none⟩ = some (.int .i64 q2) := by rw [Lib.cell_of_heap hE]; rfl
            have y3 : w8.cell? ⟨g, 3, none⟩ = some (.int .i64 q3) := by rw [Lib.cell_of_heap hE]; rfl
            have y4 : w8.cell? ⟨g, 4, none⟩ = some (.string q4) := by rw [Lib.cell_of_heap hE]; rfl
            have K8 := hid (k8.of_block (put_other (i := 5) hgb (.string q5)))
            have G8 := hid (grown_put (i := 5) (v := .string q5) (grown_trans G7.out g8) hzw)
            have HO8 := hid (own_set_far (i := 5) (own_kept HO7.out hlt g8) HV.out (.string q5))
            have E8 := hid (blk_set (i := 5) hE (.string q5))
            clear k8 g8 hE K7 G7 HO7 E7
            go_wp2_with (at_builtin; refine wpList_append_own _ rfl _ _ 23 rfl w.heap.size 32 i0 _ 6 64 Tryd.underlying23 hi hz0 hz1 hz2 rfl (by decide) _ _ _ rfl (HO8.out.alloc _) ⟨w8.heap.size, 0, none⟩ 1 1 [.int .i64 q0, .int .i64 q1, .int .i64 q2, .int .i64 q3, .string q4, .string q5] rfl rfl ?c1 ?c2 ?c3 ?c4 ?c5 ?_)
            case c1 => exact new_six_at (w8.setCell ⟨g, 5, none⟩ (.string q5)) ⟨q0, q1, q2, q3, q4, q5⟩ 32 _ (by simp)
            case c2 => exact ev_one ⟨q0, q1, q2, q3, q4, q5⟩
            case c3 => unfold maxLen; omega
            case c4 => omega
            case c5 => have := G8.out.size; simp at this ⊢; omega
            intro v' w9 hown9 hgrow _
            have G9 := hid (grown_own (grown_trans G8.out (World.grownBy_alloc _ _ _)) (HO8.out.alloc _) (Nat.le_refl _) hgrow)
            have K9 := hid (rdr_own (K8.out.of_block (alloc_old K8.out.lt)) (HO8.out.alloc _) hlt hgrow)
            have HO9 : Hid (w9.ownsRow w.heap.size 32 6 v' (l ++ [(⟨q0, q1, q2, q3, q4, q5⟩ : Ev)]).length ((l ++ [(⟨q0, q1, q2, q3, q4, q5⟩ : Ev)]).flatMap Ev.cells)) := by
              show World.ownsRow _ _ _ _ _ _ _
              rw [flat_snoc, List.length_append]; exact hown9
            obtain ⟨a', c', rfl⟩ := own_forms hown9
            clear hown9 hgrow G8 K8 HO8 E8
            go_wp2
            go_roundw
            case rel => exact ⟨l ++ [⟨q0, q1, q2, q3, q4, q5⟩], s6, k - 1, rfl, by omega, HS.out, HO9.out, K9.out, G9.out⟩
            case measure => simp [intOf]; omega
        · have h0 : k.toNat = 0 := by omega
          have H0 := hid h0
          clear h0
          go_wp2
          go_ret
          have := HR.out
          rw [H0.out] at this
          rw [this.done]
          exact ⟨_, rfl, HO.out, HC.out, HG.out⟩
end Go.Proofs.YticnffakngpkfaaDoor
