/-
  Texts put together: RdTm, QpN.
-/
import Derived.Test.YtimlnbfalnkmhaaGreatDoorZQpR
import Derived.Test.YtimlnbfalnkmhaaGreatDoorZRdGm2
import Derived.Test.YtimlnbfalnkmhaaGreatDoorZKd2
/-
  Queries: a reader of the specification's in a world grown out of another. Of no function.
-/
namespace Go.Proofs.YtimlnbfalnkmhaaGreatDoor
open Go.RowKit

/-- A reader in a world grown out of another. -/
structure RdT (w W : World) (b : Nat) (sv : Value) (ws : List ByteArray) (k : Nat) (bad : Bool) : Prop where
  rd : RdS W b sv ws k bad
  gr : w.grownBy W (some b)
  st : ∃ k0 b0, RdS w b sv ws k0 b0
theorem RdT.lt {w W : World} {b k : Nat} {sv : Value} {ws : List ByteArray} {bad : Bool} (h : RdT w W b sv ws k bad) : b < w.heap.size := let ⟨_, _, h⟩ := h.st; lt_heap h.hb
theorem RdT.refl {w : World} {b k : Nat} {sv : Value} {ws : List ByteArray} {bad : Bool} (h : RdS w b sv ws k bad) : RdT w w b sv ws k bad := ⟨h, World.grownBy.refl _ _, k, bad, h⟩
theorem RdT.below {w W W' : World} {b k : Nat} {sv : Value} {ws : List ByteArray} {bad : Bool} (h : RdT w W b sv ws k bad) (hb : Below W.heap.size W W') : RdT w W' b sv ws k bad := ⟨h.rd.below hb, grown_trans h.gr (grown_below hb), h.st⟩
theorem RdT.alloc {w W : World} {b k : Nat} {sv : Value} {ws : List ByteArray} {bad : Bool} (h : RdT w W b sv ws k bad) (o : Obj) : RdT w (W.alloc o) b sv ws k bad := h.below ((Below.refl _ _).alloc (Nat.le_refl _) o)
theorem RdT.drew {w W : World} {b k : Nat} {sv : Value} {ws : List ByteArray} {bad : Bool} (h : RdT w W b sv ws k bad) : RdT w W.drew b sv ws k bad := h.below (Below.refl _ _).drew
theorem RdT.call {w W W' : World} {b k k' : Nat} {sv : Value} {ws : List ByteArray} {bad bad' : Bool} (h : RdT w W b sv ws k bad) (h1 : RdS W' b sv ws k' bad') (h2 : W.grownBy W' (some b)) : RdT w W' b sv ws k' bad' := ⟨h1, grown_trans h.gr h2, h.st⟩
theorem RdT.own {w W W' : World} {b k g : Nat} {sv : Value} {ws : List ByteArray} {bad : Bool} (h : RdT w W b sv ws k bad) (hg : W.grownBy W' (some g)) (hge : w.heap.size ≤ g) : RdT w W' b sv ws k bad := by
  have hlt := h.lt
  have hs := h.gr.size
  obtain ⟨k0, b0, h0⟩ := h.st
  have hg' : w.grownBy W' (some b) := ⟨hg.os.trans h.gr.os, hg.tape.trans h.gr.tape, hg.output.trans h.gr.output, Nat.le_trans hs hg.size, fun j hj hr => (hg.block j (Nat.lt_of_lt_of_le hj hs) (fun e => by have := Option.some.inj e; omega)).trans (h.gr.block j hj hr)⟩
  exact ⟨h0.next hg' ((hg.block b (Nat.lt_of_lt_of_le hlt hs) (fun e => by have := Option.some.inj e; omega)).trans h.rd.hb) h.rd.le, hg', k0, b0, h0⟩
theorem RdT.set {w W : World} {b k : Nat} {sv : Value} {ws : List ByteArray} {bad : Bool} (h : RdT w W b sv ws k bad) {g : Nat} (hg : w.heap.size ≤ g) (i : Nat) (v : Value) : RdT w (W.setCell ⟨g, i, none⟩ v) b sv ws k bad := h.own (grown_set W g i v) hg
end Go.Proofs.YtimlnbfalnkmhaaGreatDoor

/-
  Queries: what spec.l05Num answers: a contract over the seat's program.
-/
namespace Go.Proofs.YtimlnbfalnkmhaaGreatDoor
open Go.RowKit

def numV (t : ByteArray) : Int := if numN t = -1 then 0 else numN t
theorem numV_ok {t : ByteArray} {m : Int} (h : numOk t m = true) : numV t = numN t := by
  unfold numOk at h
  unfold numV
  rw [if_neg (fun e => by rw [e] at h; simp at h)]
theorem numV_no {t : ByteArray} {m : Int} (h : numN t = -1) : numV t = 0 ∧ numOk t m = false := by
  unfold numV numOk
  rw [h]
  exact ⟨rfl, rfl⟩
theorem numV_in {t : ByteArray} {m n : Int} (h : numN t = n) (h0 : 0 ≤ n) : numV t = n ∧ numOk t m = decide (n ≤ m) := by
  unfold numV numOk
  rw [h, if_neg (by omega), decide_eq_true h0]
  exact ⟨rfl, rfl⟩
set_option maxHeartbeats 1000000 in
theorem l05Num_any (t : ByteArray) (m : Int) (w : World) :
    Calls Tryz.prog 104 #[.string t, .int .i64 m] w fun e w' => e = .returned (.tuple #[.int .i64 (numV t), .bool (numOk t m)]) ∧ w' = w := by
  generalize hB' : numOk t m = B
  generalize hV' : numV t = V
  have hB := hid hB'
  have hV := hid hV'
  clear hB' hV'
  by_cases h1 : 1 ≤ t.size
  · by_cases h7 : t.size ≤ 7
    · have z1 : ¬ ((t.size : Int) < 1) := by omega
      have z2 : ¬ (7 < (t.size : Int)) := by omega
      go_enter Tryz.func104, Tryz.ntmps104
      go_wp2
      go_loop [6, 7] (fun n i => ∃ k : Nat, i = .int .i64 (k : Int) ∧ k ≤ t.size ∧ Hid (digs t k) ∧ n = .int .i64 (pv t k)) (fun _ i => t.size - (intOf i).toNat)
      case atStart => exact ⟨0, rfl, Nat.zero_le _, hid (fun j hj => by omega), rfl⟩
      case round =>
        obtain ⟨k, rfl, hk, hd, rfl⟩ := hrel
        by_cases hlt : k < t.size
        · have zk : (k : Int) < (t.size : Int) := by omega
          have bd := pv_bd t k hk hd.out
          have b7 : pv t k < 10000000 := by
            have hp : (10 : Nat) ^ k ≤ 10 ^ 7 := Nat.pow_le_pow_right (by decide) (by omega)
            have : (10 : Int) ^ k ≤ 10 ^ 7 := by exact_mod_cast hp
            omega
          have hps := pv_succ t k hlt
          have hst := fun h => digs_step hlt hd.out h
          have hat := fun h => numN_at hlt h
          have hu := t[k].toNat_lt
          have b0 := bd.1
          clear bd
          generalize hN : pv t (k + 1) = N at *
          generalize pv t k = M at *
          by_cases hc : digC (t[k].toNat : Int) = true
          · have hc' := hc
            simp only [digC, Bool.and_eq_true, decide_eq_true_eq] at hc'
            have q1 : ¬ ((t[k].toNat : Int) < 48) := by omega
            have q2 : ¬ (57 < (t[k].toNat : Int)) := by omega
            go_wp2
            go_round
            case rel => exact ⟨k + 1, by push_cast; rfl, by omega, hid (hst hc), by rw [hN, hps]⟩
            case measure => simp [intOf]; omega
          · have hcf : digC (t[k].toNat : Int) = false := by simpa using hc
            obtain ⟨rfl, rfl⟩ : V = 0 ∧ B = false := by rw [← hV.out, ← hB.out]; exact numV_no (hat hcf)
            by_cases q1 : (t[k].toNat : Int) < 48
            · go_wp2
              go_ret2
              exact ⟨rfl, rfl⟩
            · have q2 : 57 < (t[k].toNat : Int) := by
                simp only [digC, Bool.and_eq_false_iff, decide_eq_false_iff_not] at hcf
                omega
              go_wp2
              go_ret2
              exact ⟨rfl, rfl⟩
        · obtain rfl : k = t.size := by omega
          obtain ⟨rfl, rfl⟩ : V = pv t t.size ∧ B = decide (pv t t.size ≤ m) := by rw [← hV.out, ← hB.out]; exact numV_in (numN_yes h1 h7 hd.out) (pv_bd t _ (Nat.le_refl _) hd.out).1
          go_wp2
          go_ret2
          exact ⟨rfl, rfl⟩
    · obtain ⟨rfl, rfl⟩ : V = 0 ∧ B = false := by rw [← hV.out, ← hB.out]; exact numV_no (numN_no (fun e => h7 e.2))
      have z1 : ¬ ((t.size : Int) < 1) := by omega
      have z2 : 7 < (t.size : Int) := by omega
      go_enter Tryz.func104, Tryz.ntmps104
      go_wp2
      go_ret2
      exact ⟨rfl, rfl⟩
  · obtain ⟨rfl, rfl⟩ : V = 0 ∧ B = false := by rw [← hV.out, ← hB.out]; exact numV_no (numN_no (fun e => h1 e.1))
    have z1 : (t.size : Int) < 1 := by omega
    go_enter Tryz.func104, Tryz.ntmps104
    go_wp2
    go_ret2
    exact ⟨rfl, rfl⟩
end Go.Proofs.YtimlnbfalnkmhaaGreatDoor
