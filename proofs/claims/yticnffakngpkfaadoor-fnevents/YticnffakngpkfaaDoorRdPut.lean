/-
  What is read of a text is written so: plain mathematics on the functions of reading and laying. Of no function of the program.
-/
import Derived.Test.YticnffakngpkfaaDoorCurP
import Derived.Test.YticnffakngpkfaaDoorEvLayS
namespace Go.Proofs.YticnffakngpkfaaDoor
open Go.RowKit Get Put

def toB (x : Int) : UInt8 := UInt8.ofNat x.toNat
theorem strOfNums_list (xs : List Int) : (strOfNums xs).data.toList = xs.map toB := by simp [strOfNums, toB]
/-- A number that is read is written with just these bytes. -/
theorem rd_put : ∀ (f k : Nat) (l : List UInt8) (U V n : Nat), k + f = 10 → rd f l k U = (0, V, n) →
    ∃ u m, V = U + u * 128 ^ k ∧ n = k + m ∧ (0 < k → 0 < u) ∧ m ≤ l.length ∧ (put (f - 1) u).map toB = l.take m
  | 0, k, l, U, V, n, _, h => by simp [rd] at h
  | f + 1, k, [], U, V, n, _, h => by simp [rd] at h
  | f + 1, k, c :: r, U, V, n, hk, h => by
    have hc : c.toNat < 256 := UInt8.toNat_lt _
    unfold rd at h
    split at h
    · simp at h
    · split at h
      · rename_i hlt
        split at h
        · simp at h
        · rename_i hz
          simp at h
          obtain ⟨hV, hn⟩ := h
          refine ⟨c.toNat, 1, ?_, hn.symm, fun h0 => by omega, by simp, ?_⟩
          · rw [← hV, Nat.mod_eq_of_lt hlt]
          · rw [put_last hlt]
            simp [toB]
      · rename_i hge
        obtain ⟨u, m, hV, hn, hu, hm, hp⟩ := rd_put f (k + 1) r _ V n (by omega) h
        have hu0 := hu (by omega)
        cases f with
        | zero => simp [rd] at h
        | succ f =>
          refine ⟨c.toNat % 128 + 128 * u, m + 1, ?_, by omega, fun _ => by omega, by simp; omega, ?_⟩
          · rw [hV, Nat.pow_succ, Nat.add_mul]
            have e : u * (128 ^ k * 128) = 128 * u * 128 ^ k := by rw [← Nat.mul_assoc, Nat.mul_comm (u * 128 ^ k) 128, Nat.mul_assoc]
            rw [e]; omega
          · have e1 : (c.toNat % 128 + 128 * u) / 128 = u := by omega
            have e2 : ((c.toNat % 128 + 128 * u : Nat) : Int) % 128 + 128 = (c.toNat : Int) := by omega
            show (put (f + 1) (c.toNat % 128 + 128 * u)).map toB = _
            rw [put_more (by omega), e1, e2, List.map_cons, List.take_succ_cons, ← hp]
            simp [toB]
theorem fold_unf (V : Nat) : foldI (unf V) = (V : Int) := by
  unfold unf
  by_cases h : V % 2 = 1
  · rw [if_pos h, foldI_neg (by omega)]; omega
  · rw [if_neg h, foldI_pos (by omega)]; omega

/-- A piece of a text. -/
def seg (t : ByteArray) (a b : Nat) : List UInt8 := (t.data.toList.drop a).take (b - a)
theorem seg_join {t : ByteArray} {a b c : Nat} (h1 : a ≤ b) (h2 : b ≤ c) : seg t a b ++ seg t b c = seg t a c := by
  unfold seg
  have e : t.data.toList.drop b = (t.data.toList.drop a).drop (b - a) := by rw [List.drop_drop]; congr 1; omega
  rw [e, show c - a = (b - a) + (c - b) by omega, List.take_add]
theorem seg_self {t : ByteArray} {a : Nat} : seg t a a = [] := by simp [seg]
theorem seg_all {t : ByteArray} : seg t 0 t.size = t.data.toList := by
  unfold seg
  rw [List.drop_zero, List.take_of_length_le (by simp)]
theorem extract_seg {t : ByteArray} {a b : Nat} : (t.extract a b).data.toList = seg t a b := by
  unfold seg
  simp [ByteArray.data_extract, List.extract_eq_take_drop]

theorem numS_seg {t : ByteArray} {a a' : Nat} {n : Int} (h : numS t (some a) = (n, some a')) : (numT n).data.toList = seg t a a' := by
  by_cases hc : (gn t a).2.2 = 0
  · rw [numS_ok hc] at h
    simp at h
    obtain ⟨hn, ha⟩ := h
    unfold gn numR at hc hn ha
    by_cases h0 : (rd 10 (t.data.toList.drop a) 0 0).1 = 0
    · rw [if_pos h0] at hn ha
      simp only at hn ha
      obtain ⟨V, m, hrd⟩ : ∃ V m, rd 10 (t.data.toList.drop a) 0 0 = (0, V, m) := ⟨_, _, by rw [← h0]⟩
      rw [hrd] at hn ha
      simp only at hn ha
      obtain ⟨u, m', hV, hm, _, hml, hp⟩ := rd_put 10 0 _ 0 V m rfl hrd
      simp at hV hm
      subst hV; subst hm
      unfold numT
      rw [strOfNums_list, ← hn, fold_unf, Int.toNat_natCast, hp]
      unfold seg
      congr 1
      omega
    · rw [if_neg h0] at hc; exact absurd hc h0
  · rw [numS_bad hc] at h; simp at h
theorem textS_seg {t s : ByteArray} {a a' : Nat} (ht : (t.size : Int) ≤ 8000) (h : textS t (some a) = (s, some a')) : (putT s).data.toList = seg t a a' := by
  by_cases hc : (gn t a).2.2 = 0
  · by_cases h1 : (gn t a).1 < 0 ∨ 8000 < (gn t a).1
    · rw [textS_syn hc h1] at h; simp at h
    · by_cases h2 : (t.size : Int) - (gn t a).1 < (gn t a).2.1
      · rw [textS_short hc h1 h2] at h; simp at h
      · rw [textS_ok hc h1 h2] at h
        simp at h
        obtain ⟨hs, ha⟩ := h
        have hat := gn_at hc
        have hns := numS_seg (t := t) (a := a) (a' := (gn t a).2.1.toNat) (n := (gn t a).1) (numS_ok hc)
        have hle := numS_le ht (a := a) (a' := (gn t a).2.1.toNat) (by rw [numS_ok hc])
        have hz : (s.size : Int) = (gn t a).1 := by rw [← hs]; simp; omega
        show ((numT (s.size : Int)) ++ s).data.toList = _
        rw [ByteArray.data_append, Array.toList_append, hz, hns, ← hs, extract_seg, ← ha]
        exact seg_join (by omega) (by omega)
  · rw [textS_bad hc] at h; simp at h
theorem app_list (a b : ByteArray) : (a ++ b).data.toList = a.data.toList ++ b.data.toList := by simp [ByteArray.data_append]
theorem evS_seg {t : ByteArray} {a a' : Nat} {e : Ev} (ht : (t.size : Int) ≤ 8000) (h : evS t (some a) = (e, some a')) : (layE e).data.toList = seg t a a' := by
  obtain ⟨⟨q0, s1⟩, h1⟩ : ∃ x, numS t (some a) = x := ⟨_, rfl⟩
  obtain ⟨⟨q1, s2⟩, h2⟩ : ∃ x, numS t s1 = x := ⟨_, rfl⟩
  obtain ⟨⟨q2, s3⟩, h3⟩ : ∃ x, numS t s2 = x := ⟨_, rfl⟩
  obtain ⟨⟨q3, s4⟩, h4⟩ : ∃ x, numS t s3 = x := ⟨_, rfl⟩
  obtain ⟨⟨q4, s5⟩, h5⟩ : ∃ x, textS t s4 = x := ⟨_, rfl⟩
  obtain ⟨⟨q5, s6⟩, h6⟩ : ∃ x, textS t s5 = x := ⟨_, rfl⟩
  rw [evS_eq h1 h2 h3 h4 h5 h6] at h
  simp at h
  obtain ⟨rfl, rfl⟩ := h
  cases s5 with
  | none => rw [textS_none] at h6; simp at h6
  | some a5 =>
    have e6 := textS_le ht (by rw [h6])
    cases s4 with
    | none => rw [textS_none] at h5; simp at h5
    | some a4 =>
      have e5 := textS_le ht (by rw [h5])
      cases s3 with
      | none => rw [numS_none] at h4; simp at h4
      | some a3 =>
        have e4 := numS_le ht (by rw [h4])
        cases s2 with
        | none => rw [numS_none] at h3; simp at h3
        | some a2 =>
          have e3 := numS_le ht (by rw [h3])
          cases s1 with
          | none => rw [numS_none] at h2; simp at h2
          | some a1 =>
            have e2 := numS_le ht (by rw [h2])
            have e1 := numS_le ht (by rw [h1])
            unfold layE
            rw [app_list, app_list, app_list, app_list, app_list, numS_seg h1, numS_seg h2, numS_seg h3, numS_seg h4, textS_seg ht h5, textS_seg ht h6,
              seg_join (by omega) (by omega), seg_join (by omega) (by omega), seg_join (by omega) (by omega), seg_join (by omega) (by omega), seg_join (by omega) (by omega)]
theorem runS_seg {t : ByteArray} (ht : (t.size : Int) ≤ 8000) : ∀ (k : Nat) (l l' : List Ev) (a a' : Nat), a ≤ t.size → runS t k l (some a) = (l', some a') → ∃ es, l' = l ++ es ∧ es.length = k ∧ (catE es).data.toList = seg t a a' ∧ a ≤ a' ∧ a' ≤ t.size
  | 0, l, l', a, a', ha, h => by
    simp [runS] at h
    obtain ⟨rfl, rfl⟩ := h
    exact ⟨[], by simp, rfl, by simp [catE, seg_self], Nat.le_refl _, ha⟩
  | k + 1, l, l', a, a', ha, h => by
    obtain ⟨⟨e, s⟩, he⟩ : ∃ x, evS t (some a) = x := ⟨_, rfl⟩
    simp only [runS, he] at h
    cases s with
    | none => rw [runS_none] at h; simp at h
    | some a1 =>
      have hle := evS_le ht (a := a) (a' := a1) (by rw [he])
      obtain ⟨es, rfl, hl, hs, h1, h2⟩ := runS_seg ht k _ l' a1 a' hle.2 h
      refine ⟨e :: es, by simp, by simp [hl], ?_, by omega, h2⟩
      show (layE e ++ catE es).data.toList = _
      rw [app_list, evS_seg ht he, hs]
      exact seg_join (by omega) (by omega)
/-- What a row that was read to its end is: the bytes up to there. -/
theorem rowS_seg {t : ByteArray} {l : List Ev} {a : Nat} (ht : (t.size : Int) ≤ 8000) (h : rowS t (some 0) = (l, some a)) (hn : 0 ≤ (numS t (some 0)).1) : (layL l).data.toList = seg t 0 a ∧ 1 ≤ a ∧ a ≤ t.size := by
  obtain ⟨⟨n, s1⟩, h1⟩ : ∃ x, numS t (some 0) = x := ⟨_, rfl⟩
  rw [rowS, h1] at h
  rw [h1] at hn
  simp only at h hn
  cases s1 with
  | none => rw [runS_none] at h; simp at h
  | some a1 =>
    have hle := numS_le ht (a := 0) (a' := a1) (by rw [h1])
    obtain ⟨es, rfl, hl, hs, h2, h3⟩ := runS_seg ht n.toNat [] l a1 a hle.2 h
    refine ⟨?_, by omega, h3⟩
    unfold layL
    rw [app_list, hs, show ((l.length : Nat) : Int) = n by omega, numS_seg h1]
    exact seg_join (by omega) (by omega)
theorem rowS_neg {t : ByteArray} (hn : (numS t (some 0)).1 < 0) : rowS t (some 0) = ([], (numS t (some 0)).2) := by
  unfold rowS
  rw [show (numS t (some 0)).1.toNat = 0 by omega]; rfl
end Go.Proofs.YticnffakngpkfaaDoor
