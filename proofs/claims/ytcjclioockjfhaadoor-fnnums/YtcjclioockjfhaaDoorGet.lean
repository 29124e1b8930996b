/-
  Numbers out of bytes: what spec.GetNum answers, for every text and place: contracts over the seat's program.
-/
import Derived.Test.YtcjclioockjfhaaDoorGen
namespace Go.Proofs.YtcjclioockjfhaaDoor.Get
open Go.RowKit

/-- What is read from a place on: (the code, the number's bits, how many bytes it has), with fuel f left, k bytes read, U of them. -/
def rd : Nat → List UInt8 → Nat → Nat → Int × Nat × Nat
  | 0, _, _, _ => (3, 0, 0)
  | _ + 1, [], _, _ => (4, 0, 0)
  | f + 1, c :: r, k, U =>
    if k = 9 ∧ 1 < c.toNat then (3, 0, 0)
    else if c.toNat < 128 then (if c.toNat = 0 ∧ 0 < k then (3, 0, 0) else (0, U + c.toNat % 128 * 128 ^ k, k + 1))
    else rd f r (k + 1) (U + c.toNat % 128 * 128 ^ k)
def unf (u : Nat) : Int := if u % 2 = 1 then -((u / 2 : Nat) : Int) - 1 else ((u / 2 : Nat) : Int)
def numR (x : Int × Nat × Nat) (a : Nat) : Int × Int × Int := if x.1 = 0 then (unf x.2.1, ((a + x.2.2 : Nat) : Int), 0) else (0, 0, x.1)
def gn (s : ByteArray) (a : Nat) : Int × Int × Int := numR (rd 10 (s.data.toList.drop a) 0 0) a
def numV (x : Int × Int × Int) : Value := .agg #[.int .i64 x.1, .int .i64 x.2.1, .int .i64 x.2.2]

theorem drop_at (s : ByteArray) (k : Nat) (h : k < s.size) : s.data.toList.drop k = s[k] :: s.data.toList.drop (k + 1) := by
  rw [List.drop_eq_getElem_cons (by simpa using h)]; rfl
theorem drop_end (s : ByteArray) (k : Nat) (h : s.size ≤ k) : s.data.toList.drop k = [] := List.drop_eq_nil_of_le (by simpa using h)

/-! ### What 'rd' comes to, step by step -/
theorem rd_big {c : UInt8} {r : List UInt8} {U : Nat} (f : Nat) (hc : 1 < c.toNat) : rd (f + 1) (c :: r) 9 U = (3, 0, 0) := by simp [rd, hc]
theorem rd_zero {c : UInt8} {r : List UInt8} {k U : Nat} (f : Nat) (hc : c.toNat = 0) (hk : 0 < k) : rd (f + 1) (c :: r) k U = (3, 0, 0) := by simp [rd, hc, hk]
theorem rd_done {c : UInt8} {r : List UInt8} {k U : Nat} (f : Nat) (h1 : ¬ (k = 9 ∧ 1 < c.toNat)) (h2 : c.toNat < 128) (h3 : ¬ (c.toNat = 0 ∧ 0 < k)) :
    rd (f + 1) (c :: r) k U = (0, U + c.toNat % 128 * 128 ^ k, k + 1) := by
  unfold rd; rw [if_neg h1, if_pos h2, if_neg h3]
theorem rd_more {c : UInt8} {r : List UInt8} {k U : Nat} (f : Nat) (h1 : ¬ (k = 9 ∧ 1 < c.toNat)) (h2 : 128 ≤ c.toNat) :
    rd (f + 1) (c :: r) k U = rd f r (k + 1) (U + c.toNat % 128 * 128 ^ k) := by
  conv => lhs; unfold rd
  rw [if_neg h1, if_neg (by omega)]
theorem rd_nil {k U : Nat} (f : Nat) : rd (f + 1) [] k U = (4, 0, 0) := rfl
theorem gn_bad {s : ByteArray} {a : Nat} {c : Int} (h : rd 10 (s.data.toList.drop a) 0 0 = (c, 0, 0)) (hc : c ≠ 0) : gn s a = (0, 0, c) := by
  unfold gn numR; rw [h]; simp [hc]
theorem gn_odd {s : ByteArray} {a V n : Nat} (h : rd 10 (s.data.toList.drop a) 0 0 = (0, V, n)) (hV : V % 2 = 1) : gn s a = (-((V : Int) / 2) - 1, ((a + n : Nat) : Int), 0) := by
  unfold gn numR unf; rw [h]; simp [hV]
theorem gn_even {s : ByteArray} {a V n : Nat} (h : rd 10 (s.data.toList.drop a) 0 0 = (0, V, n)) (hV : ¬ V % 2 = 1) : gn s a = ((V : Int) / 2, ((a + n : Nat) : Int), 0) := by
  unfold gn numR unf; rw [h]; simp [hV]

/-- The bits read so far fit: what the loop carries. -/
structure Rd (s : ByteArray) (a k U : Nat) : Prop where
  lt : U < 128 ^ k
  le : k ≤ 9
  all : rd 10 (s.data.toList.drop a) 0 0 = rd (10 - k) (s.data.toList.drop (a + k)) k U
theorem Rd.start (s : ByteArray) (a : Nat) : Rd s a 0 0 := ⟨by decide, by decide, rfl⟩
theorem pow_le9 {k : Nat} (hk : k ≤ 8) : 128 ^ (k + 1) ≤ 9223372036854775808 := by
  have h3 : 128 ^ (k + 1) ≤ 128 ^ 9 := Nat.pow_le_pow_right (by decide) (by omega)
  have h4 : 128 ^ 9 = 9223372036854775808 := by decide
  omega
theorem Rd.bd {s : ByteArray} {a k U : Nat} (h : Rd s a k U) {c : Nat} (hc : c < 128) (h9 : k = 9 → c ≤ 1) : U + c * 128 ^ k ≤ 18446744073709551615 := by
  have h1 := h.lt
  by_cases hk : k = 9
  · subst hk
    have := h9 rfl
    have e : 128 ^ 9 = 9223372036854775808 := by decide
    rw [e] at h1 ⊢
    omega
  · have hp := pow_le9 (show k ≤ 8 by have := h.le; omega)
    rw [Nat.pow_succ] at hp
    have : c * 128 ^ k ≤ 127 * 128 ^ k := Nat.mul_le_mul_right _ (by omega)
    omega
theorem Rd.shl {s : ByteArray} {a k U : Nat} (h : Rd s a k U) {c : Nat} (h9 : k = 9 → c % 128 ≤ 1) : IntKind.u64.wrap ((U : Int) + IntKind.u64.wrap ((c : Int) % 128 * 2 ^ (7 * k))) = ((U + c % 128 * 128 ^ k : Nat) : Int) := by
  have hb := h.bd (c := c % 128) (Nat.mod_lt _ (by decide)) h9
  have e : (2 : Int) ^ (7 * k) = ((128 ^ k : Nat) : Int) := by
    rw [Int.pow_mul]; simp
  have e2 : (c : Int) % 128 * 2 ^ (7 * k) = ((c % 128 * 128 ^ k : Nat) : Int) := by rw [e]; simp
  rw [e2]
  have e3 : IntKind.u64.wrap ((c % 128 * 128 ^ k : Nat) : Int) = ((c % 128 * 128 ^ k : Nat) : Int) := by
    rw [IntKind.wrap_u64]
    generalize c % 128 * 128 ^ k = y at *
    omega
  rw [e3, IntKind.wrap_u64]
  generalize c % 128 * 128 ^ k = y at *
  omega
section
variable {s : ByteArray} {a k U : Nat}
theorem Rd.fuel (h : Rd s a k U) : 10 - k = (9 - k) + 1 := by have := h.le; omega
theorem Rd.out (h : Rd s a k U) (hin : s.size ≤ a + k) : rd 10 (s.data.toList.drop a) 0 0 = (4, 0, 0) := by
  rw [h.all, drop_end _ _ hin, h.fuel]; rfl
theorem Rd.big (h : Rd s a k U) (hin : a + k < s.size) (hk : k = 9) (hc : 1 < s[a + k].toNat) : rd 10 (s.data.toList.drop a) 0 0 = (3, 0, 0) := by
  rw [h.all, drop_at _ _ hin, h.fuel]; subst hk; exact rd_big _ hc
theorem Rd.zero (h : Rd s a k U) (hin : a + k < s.size) (hk : 0 < k) (hc : s[a + k].toNat = 0) : rd 10 (s.data.toList.drop a) 0 0 = (3, 0, 0) := by
  rw [h.all, drop_at _ _ hin, h.fuel]; exact rd_zero _ hc hk
theorem Rd.done (h : Rd s a k U) (hin : a + k < s.size) (h1 : k = 9 → s[a + k].toNat ≤ 1) (h2 : s[a + k].toNat < 128) (h3 : ¬ (s[a + k].toNat = 0 ∧ 0 < k)) :
    rd 10 (s.data.toList.drop a) 0 0 = (0, U + s[a + k].toNat % 128 * 128 ^ k, k + 1) := by
  rw [h.all, drop_at _ _ hin, h.fuel]; exact rd_done _ (fun x => by have := h1 x.1; omega) h2 h3
theorem Rd.more (h : Rd s a k U) (hin : a + k < s.size) (h1 : k ≠ 9) (h2 : 128 ≤ s[a + k].toNat) : Rd s a (k + 1) (U + s[a + k].toNat % 128 * 128 ^ k) := by
  have hle := h.le
  refine ⟨?_, by omega, ?_⟩
  · have hlt := h.lt
    have : s[a + k].toNat % 128 * 128 ^ k ≤ 127 * 128 ^ k := Nat.mul_le_mul_right _ (by omega)
    rw [Nat.pow_succ]; omega
  · rw [h.all, drop_at _ _ hin, h.fuel, rd_more _ (fun x => h1 x.1) h2, show 10 - (k + 1) = 9 - k by omega, show a + (k + 1) = a + k + 1 by omega]
end
end Go.Proofs.YtcjclioockjfhaaDoor.Get
