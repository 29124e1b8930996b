/-
  Queries: what spec.l05Num answers: a contract over the seat's program.
-/
import Derived.Test.YthgmphmghnonbaaDoorZQuM
namespace Go.Proofs.YthgmphmghnonbaaDoor
open Go.RowKit

def numV (t : ByteArray) : Int := if numN t = -1 then 0 else numN t
theorem numV_ok {t : ByteArray} {m : Int} (h : numOk t m = true) : numV t = numN t := by
  unfold numOk at h
  unfold numV
  rw [if_neg (fun e => by rw [e] at h; simp at h)]
theorem numV_no {t : ByteArray} {m : Int} (h : numN t = -1) : numV t = 0 ∧ numOk t m = false := by
  unfold numV numOk
  rw [h]
  exact ⟨rfl, rfl⟩
theorem numV_in {t : ByteArray} {m n : Int} (h : numN t = n) (h0 : 0 ≤ n) : numV t = n ∧ numOk t m = decide (n ≤ m) := by
  unfold numV numOk
  rw [h, if_neg (by omega), decide_eq_true h0]
  exact ⟨rfl, rfl⟩
set_option maxHeartbeats 1000000 in
theorem l05Num_any (t : ByteArray) (m : Int) (w : World) :
    Calls Tryd.prog 24 #[.string t, .int .i64 m] w fun e w' => e = .returned (.tuple #[.int .i64 (numV t), .bool (numOk t m)]) ∧ w' = w := by
  generalize hB' : numOk t m = B
  generalize hV' : numV t = V
  have hB := hid hB'
  have hV := hid hV'
  clear hB' hV'
  by_cases h1 : 1 ≤ t.size
  · by_cases h7 : t.size ≤ 7
    · have z1 : ¬ ((t.size : Int) < 1) := by omega
      have z2 : ¬ (7 < (t.size : Int)) := by omega
      go_enter Tryd.func24, Tryd.ntmps24
      go_wp2
      go_loop [6, 7] (fun n i => ∃ k : Nat, i = .int .i64 (k : Int) ∧ k ≤ t.size ∧ Hid (digs t k) ∧ n = .int .i64 (pv t k)) (fun _ i => t.size - (intOf i).toNat)
      case atStart => exact ⟨0, rfl, Nat.zero_le _, hid (fun j hj => by omega), rfl⟩
      case round =>
        obtain ⟨k, rfl, hk, hd, rfl⟩ := hrel
        by_cases hlt : k < t.size
        · have zk : (k : Int) < (t.size : Int) := by omega
          have bd := pv_bd t k hk hd.out
          have b7 : pv t k < 10000000 := by
            have hp : (10 : Nat) ^ k ≤ 10 ^ 7 := Nat.pow_le_pow_right (by decide) (by omega)
            have : (10 : Int) ^ k ≤ 10 ^ 7 := by exact_mod_cast hp
            omega
          have hps := pv_succ t k hlt
          have hst := fun h => digs_step hlt hd.out h
          have hat := fun h => numN_at hlt h
          have hu := t[k].toNat_lt
          have b0 := bd.1
          clear bd
          generalize hN : pv t (k + 1) = N at *
          generalize pv t k = M at *
          by_cases hc : digC (t[k].toNat : Int) = true
          · have hc' := hc
            simp only [digC, Bool.and_eq_true, decide_eq_true_eq] at hc'
            have q1 : ¬ ((t[k].toNat : Int) < 48) := by omega
            have q2 : ¬ (57 < (t[k].toNat : Int)) := by omega
            go_wp2
            go_round
            case rel => exact ⟨k + 1, by push_cast; rfl, by omega, hid (hst hc), by rw [hN, hps]⟩
            case measure => simp [intOf]; omega
          · have hcf : digC (t[k].toNat : Int) = false := by simpa using hc
            obtain ⟨rfl, rfl⟩ : V = 0 ∧ B = false := by rw [← hV.out, ← hB.out]; exact numV_no (hat hcf)
            by_cases q1 : (t[k].toNat : Int) < 48
            · go_wp2
              go_ret2
              exact ⟨rfl, rfl⟩
            · have q2 : 57 < (t[k].toNat : Int) := by
                simp only [digC, Bool.and_eq_false_iff, decide_eq_false_iff_not] at hcf
                omega
              go_wp2
              go_ret2
              exact ⟨rfl, rfl⟩
        · obtain rfl : k = t.size := by omega
          obtain ⟨rfl, rfl⟩ : V = pv t t.size ∧ B = decide (pv t t.size ≤ m) := by rw [← hV.out, ← hB.out]; exact numV_in (numN_yes h1 h7 hd.out) (pv_bd t _ (Nat.le_refl _) hd.out).1
          go_wp2
          go_ret2
          exact ⟨rfl, rfl⟩
    · obtain ⟨rfl, rfl⟩ : V = 0 ∧ B = false := by rw [← hV.out, ← hB.out]; exact numV_no (numN_no (fun e => h7 e.2))
      have z1 : ¬ ((t.size : Int) < 1) := by omega
      have z2 : 7 < (t.size : Int) := by omega
      go_enter Tryd.func24, Tryd.ntmps24
      go_wp2
      go_ret2
      exact ⟨rfl, rfl⟩
  · obtain ⟨rfl, rfl⟩ : V = 0 ∧ B = false := by rw [← hV.out, ← hB.out]; exact numV_no (numN_no (fun e => h1 e.1))
    have z1 : (t.size : Int) < 1 := by omega
    go_enter Tryd.func24, Tryd.ntmps24
    go_wp2
    go_ret2
    exact ⟨rfl, rfl⟩
end Go.Proofs.YthgmphmghnonbaaDoor
