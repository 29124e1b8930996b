/-
  What is laid is read: plain mathematics on the functions of laying and reading. Of no function of the program.
-/
import Derived.Test.YticnffakngpkfaaDoorRdrO
namespace Go.Proofs.YticnffakngpkfaaDoor
open Go.RowKit Get Put

theorem toB_nat {c : Nat} (h : c < 256) : (toB (c : Int)).toNat = c := by
  simp [toB]; omega
/-- The bytes of a number are read as it. -/
theorem rd_of_put : ∀ (g k u U : Nat) (rest : List UInt8), k + g = 9 → u < 2 * 128 ^ g → (0 < k → 0 < u) →
    rd (g + 1) ((put g u).map toB ++ rest) k U = (0, U + u * 128 ^ k, k + (put g u).length)
  | 0, k, u, U, rest, hk, hu, h0 => by
    have hu2 : u < 2 := by simpa using hu
    have hc := toB_nat (c := u) (by omega)
    rw [put_last (by omega)]
    simp only [List.map_cons, List.map_nil, List.cons_append, List.nil_append, List.length_cons, List.length_nil]
    rw [rd_done 0 (by rw [hc]; omega) (by rw [hc]; omega) (by rw [hc]; omega), hc, Nat.mod_eq_of_lt (by omega)]
  | g + 1, k, u, U, rest, hk, hu, h0 => by
    by_cases hlt : u < 128
    · have hc := toB_nat (c := u) (by omega)
      rw [put_last hlt]
      simp only [List.map_cons, List.map_nil, List.cons_append, List.nil_append, List.length_cons, List.length_nil]
      rw [rd_done (g + 1) (by rw [hc]; omega) (by rw [hc]; omega) (by rw [hc]; omega), hc, Nat.mod_eq_of_lt (by omega)]
    · have hc := toB_nat (c := u % 128 + 128) (by omega)
      have e : ((u : Int) % 128 + 128) = ((u % 128 + 128 : Nat) : Int) := by omega
      rw [put_more (by omega), e]
      simp only [List.map_cons, List.cons_append, List.length_cons]
      rw [rd_more (g + 1) (by rw [hc]; omega) (by rw [hc]; omega), hc, rd_of_put g (k + 1) (u / 128) _ rest (by omega) (by rw [Nat.pow_succ] at hu; omega) (fun _ => by omega)]
      have e2 : (u % 128 + 128) % 128 = u % 128 := by omega
      have e3 : U + u % 128 * 128 ^ k + u / 128 * 128 ^ (k + 1) = U + u * 128 ^ k := by
        have hu' : u * 128 ^ k = (u % 128 + 128 * (u / 128)) * 128 ^ k := by congr 1; omega
        rw [hu', Nat.pow_succ, Nat.add_mul, Nat.mul_comm (128 ^ k) 128, ← Nat.mul_assoc, Nat.mul_comm (u / 128) 128]; omega
      rw [e2, e3]
      congr 2
      omega
theorem unf_fold {n : Int} : unf (foldI n).toNat = n := by
  unfold unf
  by_cases h : n < 0
  · rw [foldI_neg h, if_pos (by omega)]; omega
  · rw [foldI_pos h, if_neg (by omega)]; omega
theorem gn_of_lay {t : ByteArray} {a : Nat} {n : Int} {rest : List UInt8} (h1 : -9223372036854775808 ≤ n) (h2 : n ≤ 9223372036854775807) (h : t.data.toList.drop a = (numT n).data.toList ++ rest) :
    gn t a = (n, ((a + (numT n).size : Nat) : Int), 0) := by
  have hb := foldI_bd h1 h2
  have e9 : 128 ^ 9 = 9223372036854775808 := by decide
  have hr := rd_of_put 9 0 (foldI n).toNat 0 rest rfl (by rw [e9]; omega) (fun x => absurd x (by decide))
  have hs : (numT n).size = (put 9 (foldI n).toNat).length := strOfNums_size _
  unfold gn
  rw [h]
  unfold numT
  rw [strOfNums_list, hr]
  unfold numR
  simp only [if_true]
  rw [Nat.pow_zero, Nat.mul_one, Nat.zero_add, Nat.zero_add, unf_fold, ← hs]
  rfl
theorem numS_of_lay {t : ByteArray} {a : Nat} {n : Int} {rest : List UInt8} (h1 : -9223372036854775808 ≤ n) (h2 : n ≤ 9223372036854775807) (h : t.data.toList.drop a = (numT n).data.toList ++ rest) :
    numS t (some a) = (n, some (a + (numT n).size)) := by
  have hg := gn_of_lay h1 h2 h
  rw [numS_ok (by rw [hg]), hg]
  simp only
  rw [Int.toNat_natCast]
theorem numT_pos (n : Int) : 0 < (numT n).size := by
  unfold numT
  rw [strOfNums_size]
  unfold put
  split <;> simp
theorem drop_next {t : ByteArray} {a : Nat} {s : ByteArray} {rest : List UInt8} (h : t.data.toList.drop a = s.data.toList ++ rest) : t.data.toList.drop (a + s.size) = rest := by
  rw [← List.drop_drop, h, List.drop_append]
  simp
theorem textS_of_lay {t : ByteArray} {a : Nat} {s : ByteArray} {rest : List UInt8} (hs : s.size ≤ 8000) (h : t.data.toList.drop a = (putT s).data.toList ++ rest) :
    textS t (some a) = (s, some (a + (putT s).size)) := by
  have hp : (putT s).data.toList = (numT (s.size : Int)).data.toList ++ s.data.toList := by
    show (numT (s.size : Int) ++ s).data.toList = _
    rw [app_list]
  have hpz : (putT s).size = (numT (s.size : Int)).size + s.size := ByteArray.size_append
  rw [hp, List.append_assoc] at h
  have hg := gn_of_lay (n := (s.size : Int)) (by omega) (by omega) h
  have hd := drop_next h
  have hlen : (s.size : Int) + ((a + (numT (s.size : Int)).size : Nat) : Int) ≤ (t.size : Int) := by
    have := congrArg List.length hd
    simp at this
    have h3 := congrArg List.length h
    simp at h3
    have h4 := numT_pos (s.size : Int)
    omega
  have hx : t.extract (a + (numT (s.size : Int)).size) (a + (numT (s.size : Int)).size + s.size) = s := by
    apply ByteArray.ext
    apply Array.toList_inj.1
    rw [extract_seg]
    unfold seg
    rw [hd, List.take_left' (by simp)]
  rw [textS_ok (by rw [hg]) (by rw [hg]; simp; omega) (by rw [hg]; simp; omega), hg]
  simp only
  rw [Int.toNat_natCast, show (((a + (numT (s.size : Int)).size : Nat) : Int) + (s.size : Int)).toNat = a + (numT (s.size : Int)).size + s.size by omega, hx, hpz, Nat.add_assoc]
theorem evS_of_lay {t : ByteArray} {a : Nat} {e : Ev} {rest : List UInt8} (ho : Okay e) (h : t.data.toList.drop a = (layE e).data.toList ++ rest) :
    evS t (some a) = (e, some (a + (layE e).size)) := by
  obtain ⟨hq, ht, hr, hk, hs, hv⟩ := ho
  have hl : (layE e).data.toList = (numT e.seq).data.toList ++ ((numT e.time).data.toList ++ ((numT e.run).data.toList ++ ((numT e.kind).data.toList ++ ((putT e.step).data.toList ++ (putT e.val).data.toList)))) := by
    unfold layE
    simp only [app_list, List.append_assoc]
  have hz : (layE e).size = (numT e.seq).size + (numT e.time).size + (numT e.run).size + (numT e.kind).size + (putT e.step).size + (putT e.val).size := by
    unfold layE
    simp only [ByteArray.size_append]
  rw [hl] at h
  simp only [List.append_assoc] at h
  have n1 := numS_of_lay (by omega) (by omega) h
  have h2 := drop_next h
  have n2 := numS_of_lay (by omega) (by omega) h2
  have h3 := drop_next h2
  have n3 := numS_of_lay (by omega) (by omega) h3
  have h4 := drop_next h3
  have n4 := numS_of_lay (by omega) (by omega) h4
  have h5 := drop_next h4
  have n5 := textS_of_lay (by omega) h5
  have h6 := drop_next h5
  have n6 := textS_of_lay (by omega) h6
  rw [evS_eq n1 n2 n3 n4 n5 n6, hz]
  congr 2
  omega
theorem runS_of_lay {t : ByteArray} : ∀ (es l : List Ev) (a : Nat) (rest : List UInt8), allB es = true → t.data.toList.drop a = (catE es).data.toList ++ rest → runS t es.length l (some a) = (l ++ es, some (a + (catE es).size))
  | [], l, a, rest, _, _ => by simp [runS, catE]
  | e :: r, l, a, rest, hA, h => by
    simp [allB] at hA
    have hc : (catE (e :: r)).data.toList = (layE e).data.toList ++ (catE r).data.toList := app_list _ _
    have hz : (catE (e :: r)).size = (layE e).size + (catE r).size := ByteArray.size_append
    rw [hc, List.append_assoc] at h
    have he := evS_of_lay (okay_of hA.1) h
    simp only [List.length_cons, runS, he]
    rw [runS_of_lay r _ _ rest (by simpa [allB] using hA.2) (drop_next h), hz]
    simp [Nat.add_assoc]
theorem rowS_of_lay {es : List Ev} (hA : allB es = true) (hn : es.length ≤ 200) : rowS (layL es) (some 0) = (es, some (layL es).size) := by
  have h : (layL es).data.toList.drop 0 = (numT (es.length : Int)).data.toList ++ ((catE es).data.toList ++ []) := by
    unfold layL
    rw [List.drop_zero, app_list, List.append_nil]
  have hz : (layL es).size = (numT (es.length : Int)).size + (catE es).size := ByteArray.size_append
  have n1 := numS_of_lay (by omega) (by omega) h
  have h2 := drop_next h
  have r := runS_of_lay es [] _ [] hA h2
  unfold rowS
  rw [n1]
  simp only [Int.toNat_natCast]
  rw [r, hz]
  simp
theorem layL_pos (es : List Ev) : 0 < (layL es).size := by
  have : (layL es).size = (numT (es.length : Int)).size + (catE es).size := ByteArray.size_append
  have h1 := numT_pos (es.length : Int)
  omega
/-- What was told of events is read as they. -/
theorem rdOut_of_by {es : List Ev} (h : ¬ evBy es = ⟨#[]⟩) : rdOut (evBy es) = (es, 0) := by
  by_cases hc : allB es = true ∧ es.length ≤ 200 ∧ (layL es).size ≤ 8000
  · have he := evBy_yes hc.1 hc.2.1 hc.2.2
    have hr := rowS_of_lay hc.1 hc.2.1
    rw [he]
    rw [rdOut_yes (by have := hc.2.2; omega) (by rw [hr]; simp) (by rw [hr]; exact he), hr]
  · exact absurd (evBy_no hc) h
end Go.Proofs.YticnffakngpkfaaDoor
