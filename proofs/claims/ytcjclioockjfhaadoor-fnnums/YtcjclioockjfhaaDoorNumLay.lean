/-
  A number that is laid is read, and is short with its last byte gone: plain mathematics on the functions of laying and reading. Of no function of the program.
-/
import Derived.Test.YtcjclioockjfhaaDoorPut
import Derived.Test.YtcjclioockjfhaaDoorGet
namespace Go.Proofs.YtcjclioockjfhaaDoor
open Go.RowKit Get Put

def toB (x : Int) : UInt8 := UInt8.ofNat x.toNat
theorem strOfNums_list (xs : List Int) : (strOfNums xs).data.toList = xs.map toB := by simp [strOfNums, toB]
theorem toB_nat {c : Nat} (h : c < 256) : (toB (c : Int)).toNat = c := by
  simp [toB]; omega
/-- The bytes of a number are read as it. -/
theorem rd_of_put : ∀ (g k u U : Nat) (rest : List UInt8), k + g = 9 → u < 2 * 128 ^ g → (0 < k → 0 < u) →
    rd (g + 1) ((put g u).map toB ++ rest) k U = (0, U + u * 128 ^ k, k + (put g u).length)
  | 0, k, u, U, rest, hk, hu, h0 => by
    have hu2 : u < 2 := by simpa using hu
    have hc := toB_nat (c := u) (by omega)
    rw [put_last (by omega)]
    simp only [List.map_cons, List.map_nil, List.cons_append, List.nil_append, List.length_cons, List.length_nil]
    rw [rd_done 0 (by rw [hc]; omega) (by rw [hc]; omega) (by rw [hc]; omega), hc, Nat.mod_eq_of_lt (by omega)]
  | g + 1, k, u, U, rest, hk, hu, h0 => by
    by_cases hlt : u < 128
    · have hc := toB_nat (c := u) (by omega)
      rw [put_last hlt]
      simp only [List.map_cons, List.map_nil, List.cons_append, List.nil_append, List.length_cons, List.length_nil]
      rw [rd_done (g + 1) (by rw [hc]; omega) (by rw [hc]; omega) (by rw [hc]; omega), hc, Nat.mod_eq_of_lt (by omega)]
    · have hc := toB_nat (c := u % 128 + 128) (by omega)
      have e : ((u : Int) % 128 + 128) = ((u % 128 + 128 : Nat) : Int) := by omega
      rw [put_more (by omega), e]
      simp only [List.map_cons, List.cons_append, List.length_cons]
      rw [rd_more (g + 1) (by rw [hc]; omega) (by rw [hc]; omega), hc, rd_of_put g (k + 1) (u / 128) _ rest (by omega) (by rw [Nat.pow_succ] at hu; omega) (fun _ => by omega)]
      have e2 : (u % 128 + 128) % 128 = u % 128 := by omega
      have e3 : U + u % 128 * 128 ^ k + u / 128 * 128 ^ (k + 1) = U + u * 128 ^ k := by
        have hu' : u * 128 ^ k = (u % 128 + 128 * (u / 128)) * 128 ^ k := by congr 1; omega
        rw [hu', Nat.pow_succ, Nat.add_mul, Nat.mul_comm (128 ^ k) 128, ← Nat.mul_assoc, Nat.mul_comm (u / 128) 128]; omega
      rw [e2, e3]
      congr 2
      omega
theorem unf_fold {n : Int} : unf (foldI n).toNat = n := by
  unfold unf
  by_cases h : n < 0
  · rw [foldI_neg h, if_pos (by omega)]; omega
  · rw [foldI_pos h, if_neg (by omega)]; omega
theorem gn_of_put {t : ByteArray} {a : Nat} {n : Int} {rest : List UInt8} (h1 : -9223372036854775808 ≤ n) (h2 : n ≤ 9223372036854775807) (h : t.data.toList.drop a = (strOfNums (put 9 (foldI n).toNat)).data.toList ++ rest) :
    gn t a = (n, ((a + (strOfNums (put 9 (foldI n).toNat)).size : Nat) : Int), 0) := by
  have hb := foldI_bd h1 h2
  have e9 : 128 ^ 9 = 9223372036854775808 := by decide
  have hr := rd_of_put 9 0 (foldI n).toNat 0 rest rfl (by rw [e9]; omega) (fun x => absurd x (by decide))
  have hs : (strOfNums (put 9 (foldI n).toNat)).size = (put 9 (foldI n).toNat).length := strOfNums_size _
  unfold gn
  rw [h, strOfNums_list, hr]
  unfold numR
  simp only [if_true]
  rw [Nat.pow_zero, Nat.mul_one, Nat.zero_add, Nat.zero_add, unf_fold, ← hs]
theorem put_ne (g u : Nat) : put g u ≠ [] := by
  cases g with
  | zero => simp [put]
  | succ g =>
    by_cases h : u < 128
    · rw [put_last h]; simp
    · rw [put_more (by omega)]; simp
/-- With its last byte gone a number is short. -/
theorem rd_of_cut : ∀ (g k u U : Nat), k + g = 9 → u < 2 * 128 ^ g → rd (g + 1) ((put g u).dropLast.map toB) k U = (4, 0, 0)
  | 0, k, u, U, _, hu => by
    have hu2 : u < 2 := by simpa using hu
    rw [put_last (by omega)]
    rfl
  | g + 1, k, u, U, hk, hu => by
    by_cases hlt : u < 128
    · rw [put_last hlt]
      rfl
    · have hc := toB_nat (c := u % 128 + 128) (by omega)
      have e : ((u : Int) % 128 + 128) = ((u % 128 + 128 : Nat) : Int) := by omega
      rw [put_more (by omega), e, List.dropLast_cons_of_ne_nil (put_ne g _)]
      simp only [List.map_cons]
      rw [rd_more (g + 1) (by rw [hc]; omega) (by rw [hc]; omega)]
      exact rd_of_cut g (k + 1) (u / 128) _ (by omega) (by rw [Nat.pow_succ] at hu; omega)
theorem gn_of_cut {t : ByteArray} {n : Int} (h1 : -9223372036854775808 ≤ n) (h2 : n ≤ 9223372036854775807) (h : t.data.toList = (strOfNums (put 9 (foldI n).toNat)).data.toList.dropLast) : gn t 0 = (0, 0, 4) := by
  have hb := foldI_bd h1 h2
  have e9 : 128 ^ 9 = 9223372036854775808 := by decide
  have hr := rd_of_cut 9 0 (foldI n).toNat 0 rfl (by rw [e9]; omega)
  unfold gn
  rw [List.drop_zero, h, strOfNums_list, ← List.map_dropLast, hr]
  rfl
end Go.Proofs.YtcjclioockjfhaaDoor
