/-
  What (*impl.cursor).num answers, and where the cursor stands behind it: contracts over the seat's program.
-/
import Derived.Test.YticnffakngpkfaaDoorCur
import Derived.Test.YticnffakngpkfaaDoorClone
import Derived.BigQuiet
import Derived.Deep.QuietTactic
namespace Go.Proofs.YticnffakngpkfaaDoor
open Go.RowKit Get

set_option maxRecDepth 100000 in
theorem curNum_ok (b : Nat) (t : ByteArray) (a n q : Int) (w : World) (hb : w.heap[b]? = some (.cells [.string t, .int .i64 a, .nilIface].toArray 49 (0, 0)))
    (c1 : ∀ w, Calls Tryd.prog 57 #[.string t, .int .i64 a] w fun e w' => e = .returned (.tuple #[.int .i64 n, .int .i64 q, .nilIface]) ∧ w' = w) :
    Calls Tryd.prog 47 #[.pointer (some ⟨b, 0, none⟩)] w fun e w' => e = .returned (.int .i64 n) ∧ w'.heap[b]? = some (.cells [.string t, .int .i64 q, .nilIface].toArray 49 (0, 0)) ∧ w.grownBy w' (some b) := by
  have e0 : w.cell? ⟨b, 0, none⟩ = some (.string t) := by rw [Lib.cell_of_heap hb]; rfl
  have e1 : w.cell? ⟨b, 1, none⟩ = some (.int .i64 a) := by rw [Lib.cell_of_heap hb]; rfl
  have e2 : w.cell? ⟨b, 2, none⟩ = some .nilIface := by rw [Lib.cell_of_heap hb]; rfl
  have f1 : w.frozen? ⟨b, 1, none⟩ = false := Lib.frozen_of_heap hb 1
  have HB := hid hb
  clear hb
  go_enter Tryd.func47, Tryd.ntmps47
  go_wp2
  go_quiet ((go_at_call 57; exact Calls.quiet_of_same (c1 _)))
  go_wp2
  go_ret
  exact ⟨rfl, blk_set (w := w.drewN nq) HB.out _, grown_trans (grown_drewN w nq _) (grown_set _ _ _ _)⟩
set_option maxRecDepth 100000 in
theorem curNum_bad (b : Nat) (t : ByteArray) (a c : Int) (w : World) (hb : w.heap[b]? = some (.cells [.string t, .int .i64 a, .nilIface].toArray 49 (0, 0)))
    (c1 : ∀ w, Calls Tryd.prog 57 #[.string t, .int .i64 a] w fun e w' => e = .returned (.tuple #[.int .i64 0, .int .i64 0, .iface 91 (.agg #[.int .i64 c])]) ∧ w' = w) :
    Calls Tryd.prog 47 #[.pointer (some ⟨b, 0, none⟩)] w fun e w' => e = .returned (.int .i64 0) ∧ w'.heap[b]? = some (.cells [.string t, .int .i64 a, .iface 91 (.agg #[.int .i64 c])].toArray 49 (0, 0)) ∧ w.grownBy w' (some b) := by
  have e0 : w.cell? ⟨b, 0, none⟩ = some (.string t) := by rw [Lib.cell_of_heap hb]; rfl
  have e1 : w.cell? ⟨b, 1, none⟩ = some (.int .i64 a) := by rw [Lib.cell_of_heap hb]; rfl
  have e2 : w.cell? ⟨b, 2, none⟩ = some .nilIface := by rw [Lib.cell_of_heap hb]; rfl
  have f1 : w.frozen? ⟨b, 2, none⟩ = false := Lib.frozen_of_heap hb 2
  have HB := hid hb
  clear hb
  go_enter Tryd.func47, Tryd.ntmps47
  go_wp2
  go_quiet ((go_at_call 57; exact Calls.quiet_of_same (c1 _)))
  go_wp2
  go_ret
  exact ⟨rfl, blk_set (w := w.drewN nq) HB.out _, grown_trans (grown_drewN w nq _) (grown_set _ _ _ _)⟩
set_option maxRecDepth 100000 in
theorem curNum_still (b : Nat) (t : ByteArray) (a : Int) (u : TypeId) (x : Value) (w : World) (hb : w.heap[b]? = some (.cells [.string t, .int .i64 a, .iface u x].toArray 49 (0, 0))) :
    Calls Tryd.prog 47 #[.pointer (some ⟨b, 0, none⟩)] w fun e w' => e = .returned (.int .i64 0) ∧ w' = w := by
  have e2 : w.cell? ⟨b, 2, none⟩ = some (.iface u x) := by rw [Lib.cell_of_heap hb]; rfl
  clear hb
  go_enter Tryd.func47, Tryd.ntmps47
  go_wp2
  go_ret
  exact ⟨rfl, rfl⟩

theorem curNum_any (b : Nat) (t : ByteArray) (st : Option Nat) (w : World) (ht : (t.size : Int) ≤ 8000) (h : CurAt w b t st) :
    Calls Tryd.prog 47 #[.pointer (some ⟨b, 0, none⟩)] w fun e w' => e = .returned (.int .i64 (numS t st).1) ∧ CurAt w' b t (numS t st).2 ∧ w.grownBy w' (some b) := by
  cases st with
  | none =>
    obtain ⟨a, u, x, hb⟩ := h
    refine (curNum_still b t a u x w hb).mono ?_
    rintro e w' ⟨rfl, rfl⟩
    exact ⟨rfl, ⟨a, u, x, hb⟩, World.grownBy.refl _ _⟩
  | some a =>
    obtain ⟨ha, hb⟩ := h
    have c1 := fun w => numAt_any t (a : Int) w (by omega)
    rw [gnA_in ht] at c1
    unfold rnV at c1
    by_cases hc : (gn t a).2.2 = 0
    · rw [if_pos hc] at c1
      rw [numS_ok hc]
      have hat := gn_at hc
      obtain ⟨q, hq⟩ := Int.eq_ofNat_of_zero_le hat.1
      rw [hq] at c1 hat
      refine (curNum_ok b t a _ _ w hb c1).mono ?_
      rintro e w' ⟨rfl, h1, h2⟩
      refine ⟨rfl, ⟨?_, ?_⟩, h2⟩
      · rw [hq, Int.toNat_natCast]; omega
      · rw [hq, Int.toNat_natCast]; exact h1
    · rw [if_neg hc] at c1
      rw [numS_bad hc]
      have h0 := (gnA_code t (a : Int)).resolve_left (by rw [gnA_in ht]; exact hc)
      rw [gnA_in ht] at h0
      rw [h0.1, h0.2] at c1
      refine (curNum_bad b t a _ w hb c1).mono ?_
      rintro e w' ⟨rfl, h1, h2⟩
      exact ⟨rfl, ⟨a, _, _, h1⟩, h2⟩

set_option maxRecDepth 100000 in
theorem curWord_ok (b : Nat) (t : ByteArray) (a q n : Int) (w : World) (hb : w.heap[b]? = some (.cells [.string t, .int .i64 a, .nilIface].toArray 49 (0, 0)))
    (c1 : ∀ w, Calls Tryd.prog 58 #[.string t, .int .i64 a] w fun e w' => e = .returned (.tuple #[.int .i64 q, .int .i64 (q + n), .nilIface]) ∧ w' = w)
    (hs : (t.size : Int) ≤ 8000) (h0 : 0 ≤ n) (h2 : q + n ≤ (t.size : Int)) (h3 : 0 ≤ q) :
    Calls Tryd.prog 48 #[.pointer (some ⟨b, 0, none⟩)] w fun e w' => e = .returned (.string (t.extract q.toNat (q + n).toNat)) ∧ w'.heap[b]? = some (.cells [.string t, .int .i64 (q + n), .nilIface].toArray 49 (0, 0)) ∧ w.grownBy w' (some b) := by
  have c2 := fun w => Clone_any (t.extract q.toNat (q + n).toNat) w (by simp; omega)
  have e0 : w.cell? ⟨b, 0, none⟩ = some (.string t) := by rw [Lib.cell_of_heap hb]; rfl
  have e1 : w.cell? ⟨b, 1, none⟩ = some (.int .i64 a) := by rw [Lib.cell_of_heap hb]; rfl
  have e2 : w.cell? ⟨b, 2, none⟩ = some .nilIface := by rw [Lib.cell_of_heap hb]; rfl
  have f1 : w.frozen? ⟨b, 1, none⟩ = false := Lib.frozen_of_heap hb 1
  have HB := hid hb
  clear hb
  go_enter Tryd.func48, Tryd.ntmps48
  go_wp2
  go_quiet ((go_at_call 58; exact Calls.quiet_of_same (c1 _)))
  go_wp2_with fail
  refine (c2 _).mono ?_
  rintro e w2 ⟨rfl, hb2⟩
  have hG := blk_set (w := w.drewN nq) (i := 1) HB.out (.int .i64 (q + n))
  have HG : Hid (w2.heap[b]? = some (.cells [.string t, .int .i64 (q + n), .nilIface].toArray 49 (0, 0))) := by
    show _ = _
    rw [hb2.block b (lt_heap hG)]; exact hG
  have hgr := hid (grown_trans (grown_trans (grown_drewN w nq (some b)) (grown_set _ b 1 (.int .i64 (q + n)))) (grown_below hb2))
  clear hb2 hG
  go_wp2
  go_ret
  exact ⟨rfl, HG.out, hgr.out⟩
set_option maxRecDepth 100000 in
theorem curWord_bad (b : Nat) (t : ByteArray) (a c : Int) (w : World) (hb : w.heap[b]? = some (.cells [.string t, .int .i64 a, .nilIface].toArray 49 (0, 0)))
    (c1 : ∀ w, Calls Tryd.prog 58 #[.string t, .int .i64 a] w fun e w' => e = .returned (.tuple #[.int .i64 0, .int .i64 0, .iface 91 (.agg #[.int .i64 c])]) ∧ w' = w) :
    Calls Tryd.prog 48 #[.pointer (some ⟨b, 0, none⟩)] w fun e w' => e = .returned (.string ⟨#[]⟩) ∧ w'.heap[b]? = some (.cells [.string t, .int .i64 a, .iface 91 (.agg #[.int .i64 c])].toArray 49 (0, 0)) ∧ w.grownBy w' (some b) := by
  have e0 : w.cell? ⟨b, 0, none⟩ = some (.string t) := by rw [Lib.cell_of_heap hb]; rfl
  have e1 : w.cell? ⟨b, 1, none⟩ = some (.int .i64 a) := by rw [Lib.cell_of_heap hb]; rfl
  have e2 : w.cell? ⟨b, 2, none⟩ = some .nilIface := by rw [Lib.cell_of_heap hb]; rfl
  have f1 : w.frozen? ⟨b, 2, none⟩ = false := Lib.frozen_of_heap hb 2
  have HB := hid hb
  clear hb
  go_enter Tryd.func48, Tryd.ntmps48
  go_wp2
  go_quiet ((go_at_call 58; exact Calls.quiet_of_same (c1 _)))
  go_wp2
  go_ret
  exact ⟨rfl, blk_set (w := w.drewN nq) HB.out _, grown_trans (grown_drewN w nq _) (grown_set _ _ _ _)⟩
set_option maxRecDepth 100000 in
theorem curWord_still (b : Nat) (t : ByteArray) (a : Int) (u : TypeId) (x : Value) (w : World) (hb : w.heap[b]? = some (.cells [.string t, .int .i64 a, .iface u x].toArray 49 (0, 0))) :
    Calls Tryd.prog 48 #[.pointer (some ⟨b, 0, none⟩)] w fun e w' => e = .returned (.string ⟨#[]⟩) ∧ w' = w := by
  have e2 : w.cell? ⟨b, 2, none⟩ = some (.iface u x) := by rw [Lib.cell_of_heap hb]; rfl
  clear hb
  go_enter Tryd.func48, Tryd.ntmps48
  go_wp2
  go_ret
  exact ⟨rfl, rfl⟩
theorem curWord_any (b : Nat) (t : ByteArray) (st : Option Nat) (w : World) (ht : (t.size : Int) ≤ 8000) (h : CurAt w b t st) :
    Calls Tryd.prog 48 #[.pointer (some ⟨b, 0, none⟩)] w fun e w' => e = .returned (.string (textS t st).1) ∧ CurAt w' b t (textS t st).2 ∧ w.grownBy w' (some b) := by
  cases st with
  | none =>
    obtain ⟨a, u, x, hb⟩ := h
    refine (curWord_still b t a u x w hb).mono ?_
    rintro e w' ⟨rfl, rfl⟩
    exact ⟨rfl, ⟨a, u, x, hb⟩, World.grownBy.refl _ _⟩
  | some a =>
    obtain ⟨ha, hb⟩ := h
    have c2 := fun w => numAt_any t (a : Int) w (by omega)
    rw [gnA_in ht] at c2
    unfold rnV at c2
    have fin : ∀ c, (∀ w, Calls Tryd.prog 58 #[.string t, .int .i64 (a : Int)] w fun e w' => e = .returned (.tuple #[.int .i64 0, .int .i64 0, .iface 91 (.agg #[.int .i64 c])]) ∧ w' = w) → textS t (some a) = (⟨#[]⟩, none) →
        Calls Tryd.prog 48 #[.pointer (some ⟨b, 0, none⟩)] w fun e w' => e = .returned (.string (textS t (some a)).1) ∧ CurAt w' b t (textS t (some a)).2 ∧ w.grownBy w' (some b) := by
      intro c c1 he
      rw [he]
      refine (curWord_bad b t a c w hb c1).mono ?_
      rintro e w' ⟨rfl, h1, h2⟩
      exact ⟨rfl, ⟨a, _, _, h1⟩, h2⟩
    by_cases hc : (gn t a).2.2 = 0
    · rw [if_pos hc] at c2
      have hat := gn_at hc
      by_cases h1 : (gn t a).1 < 0 ∨ 8000 < (gn t a).1
      · exact fin 3 (fun w => textAt_syntax t a _ _ w c2 h1) (textS_syn hc h1)
      · by_cases h2 : (t.size : Int) - (gn t a).1 < (gn t a).2.1
        · exact fin 4 (fun w => textAt_short t a _ _ w c2 ht (by omega) (by omega) (by omega) hat.1 hat.2) (textS_short hc h1 h2)
        · have c1 := fun w => textAt_text t a _ _ w c2 ht (by omega) (by omega) (by omega) hat.1
          rw [textS_ok hc h1 h2]
          obtain ⟨q, hq⟩ := Int.eq_ofNat_of_zero_le (show 0 ≤ (gn t a).2.1 + (gn t a).1 by omega)
          refine (curWord_ok b t a _ _ w hb c1 ht (by omega) (by omega) hat.1).mono ?_
          rintro e w' ⟨rfl, h3, h4⟩
          refine ⟨rfl, ⟨by rw [hq, Int.toNat_natCast]; omega, ?_⟩, h4⟩
          rw [hq] at h3
          rw [hq, Int.toNat_natCast]
          exact h3
    · rw [if_neg hc] at c2
      have h0 := (gnA_code t (a : Int)).resolve_left (by rw [gnA_in ht]; exact hc)
      rw [gnA_in ht] at h0
      rw [h0.1, h0.2] at c2
      exact fin _ (fun w => textAt_code t a _ w c2) (textS_bad hc)
end Go.Proofs.YticnffakngpkfaaDoor
