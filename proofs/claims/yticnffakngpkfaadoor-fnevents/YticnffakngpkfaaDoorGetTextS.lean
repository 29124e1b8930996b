/-
  What spec.GetText answers, for every text and place, by what spec.GetNum answers there: contracts over the seat's program.
-/
import Derived.Test.YticnffakngpkfaaDoorGetNum
import Derived.RegionTactic
namespace Go.Proofs.YticnffakngpkfaaDoor.Get
open Go.RowKit

theorem rd_len : ∀ (f : Nat) (l : List UInt8) (k U u n : Nat), rd f l k U = (0, u, n) → k < n ∧ n ≤ k + l.length
  | 0, _, _, _, _, _, h => by simp [rd] at h
  | _ + 1, [], _, _, _, _, h => by simp [rd] at h
  | f + 1, c :: r, k, U, u, n, h => by
    unfold rd at h
    split at h
    · simp at h
    · split at h
      · split at h
        · simp at h
        · simp at h
          obtain ⟨_, rfl⟩ := h
          simp
      · have := rd_len f r (k + 1) _ u n h
        simp; omega
theorem gn_at {s : ByteArray} {a : Nat} (h : (gn s a).2.2 = 0) : 0 ≤ (gn s a).2.1 ∧ (gn s a).2.1 ≤ (s.size : Int) := by
  unfold gn numR at h ⊢
  by_cases h0 : (rd 10 (s.data.toList.drop a) 0 0).1 = 0
  · rw [if_pos h0]
    have := rd_len 10 (s.data.toList.drop a) 0 0 (rd 10 (s.data.toList.drop a) 0 0).2.1 (rd 10 (s.data.toList.drop a) 0 0).2.2 (by rw [← h0])
    have hl : (s.data.toList.drop a).length = s.size - a := by simp
    simp only
    omega
  · rw [if_neg h0] at h
    exact absurd h h0
theorem gnA_at {s : ByteArray} {p : Int} (h : (gnA s p).2.2 = 0) : (s.size : Int) ≤ 8000 ∧ 0 ≤ (gnA s p).2.1 ∧ (gnA s p).2.1 ≤ (s.size : Int) := by
  by_cases h1 : (s.size : Int) ≤ 8000
  · by_cases hp : p < 0
    · rw [gnA_neg h1 hp] at h; simp at h
    · obtain ⟨a, rfl⟩ := Int.eq_ofNat_of_zero_le (show 0 ≤ p by omega)
      rw [gnA_in h1] at h ⊢
      exact ⟨h1, gn_at h⟩
  · rw [gnA_size h1] at h; simp at h

theorem set3_alloc {w w1 : World} (hbel : Below w.heap.size w w1) (x y z : Value) (o : Obj) :
    Below w.heap.size w ((((w1.setCell ⟨w.heap.size, 0, none⟩ x).setCell ⟨w.heap.size, 1, none⟩ y).setCell ⟨w.heap.size, 2, none⟩ z).alloc o) := by
  have h3 := ((hbel.setCell (p := ⟨w.heap.size, 0, none⟩) (Nat.le_refl _) x).setCell (p := ⟨w.heap.size, 1, none⟩) (Nat.le_refl _) y).setCell (p := ⟨w.heap.size, 2, none⟩) (Nat.le_refl _) z
  exact h3.alloc h3.size _
set_option maxRecDepth 100000 in
theorem specGetText_bad (s : ByteArray) (p n q c d : Int) (w : World)
    (c1 : ∀ w, Calls Tryd.prog 62 #[.string s, .int .i64 p] w fun e w' => e = .returned (.agg #[.int .i64 n, .int .i64 q, .int .i64 c]) ∧ Below w.heap.size w w')
    (hd : (c ≠ 0 ∧ d = c) ∨ (c = 0 ∧ (n < 0 ∨ 8000 < n) ∧ d = 3)) :
    Calls Tryd.prog 63 #[.string s, .int .i64 p] w fun e w' => e = .returned (.agg #[.string ⟨#[]⟩, .int .i64 0, .int .i64 d]) ∧ Below w.heap.size w w' := by
  go_enter Tryd.func63, Tryd.ntmps63
  go_wp2_with fail
  refine (c1 _).mono ?_
  rintro e w1 ⟨rfl, hb1⟩
  obtain ⟨hc1, hf1⟩ := bcell hb1
  have hz1 := hb1.size
  have hbel : Below w.heap.size w w1 := ((Below.refl w.heap.size w).alloc (Nat.le_refl _) _).trans (hb1.mono (B' := w.heap.size) (by simp))
  simp at hc1 hf1 hz1
  have hc : ∀ o, w1.cell? ⟨w.heap.size, o, none⟩ = (w.alloc (.cells #[.string ⟨#[]⟩, .int .i64 0, .int .i64 0] 86)).cell? ⟨w.heap.size, o, none⟩ := fun o => by rw [hc1 _ _ (by omega)]
  have hf : ∀ o, w1.frozen? ⟨w.heap.size, o, none⟩ = false := fun o => by rw [hf1 _ _ (by omega)]; simp
  have hne : w.heap.size < w1.heap.size := by omega
  clear hc1 hf1 hb1 c1
  rcases hd with ⟨hc0, rfl⟩ | ⟨rfl, hn, rfl⟩
  · have hcb : (d != 0) = true := by simp [hc0]
    go_wp2
    refine bodyPost_ret (v := .agg #[.string ⟨#[]⟩, .int .i64 0, .int .i64 d]) (by simp [results, Tryd.results63, go_sem, hc, hne]) rfl ⟨rfl, ?_⟩
    exact set3_alloc hbel _ _ _ _
  · rcases hn with hn | hn
    · go_wp2
      refine bodyPost_ret (v := .agg #[.string ⟨#[]⟩, .int .i64 0, .int .i64 3]) (by simp [results, Tryd.results63, go_sem, hc, hne]) rfl ⟨rfl, ?_⟩
      exact set3_alloc hbel _ _ _ _
    · go_wp2
      refine bodyPost_ret (v := .agg #[.string ⟨#[]⟩, .int .i64 0, .int .i64 3]) (by simp [results, Tryd.results63, go_sem, hc, hne]) rfl ⟨rfl, ?_⟩
      exact set3_alloc hbel _ _ _ _

set_option maxRecDepth 100000 in
theorem specGetText_short (s : ByteArray) (p n q : Int) (w : World)
    (c1 : ∀ w, Calls Tryd.prog 62 #[.string s, .int .i64 p] w fun e w' => e = .returned (.agg #[.int .i64 n, .int .i64 q, .int .i64 0]) ∧ Below w.heap.size w w')
    (hs : (s.size : Int) ≤ 8000) (h0 : 0 ≤ n) (h1 : n ≤ 8000) (h2 : (s.size : Int) - n < q) :
    Calls Tryd.prog 63 #[.string s, .int .i64 p] w fun e w' => e = .returned (.agg #[.string ⟨#[]⟩, .int .i64 0, .int .i64 4]) ∧ Below w.heap.size w w' := by
  go_enter Tryd.func63, Tryd.ntmps63
  go_wp2_with fail
  refine (c1 _).mono ?_
  rintro e w1 ⟨rfl, hb1⟩
  obtain ⟨hc1, hf1⟩ := bcell hb1
  have hz1 := hb1.size
  have hbel : Below w.heap.size w w1 := ((Below.refl w.heap.size w).alloc (Nat.le_refl _) _).trans (hb1.mono (B' := w.heap.size) (by simp))
  simp at hc1 hf1 hz1
  have hc : ∀ o, w1.cell? ⟨w.heap.size, o, none⟩ = (w.alloc (.cells #[.string ⟨#[]⟩, .int .i64 0, .int .i64 0] 86)).cell? ⟨w.heap.size, o, none⟩ := fun o => by rw [hc1 _ _ (by omega)]
  have hf : ∀ o, w1.frozen? ⟨w.heap.size, o, none⟩ = false := fun o => by rw [hf1 _ _ (by omega)]; simp
  have hne : w.heap.size < w1.heap.size := by omega
  clear hc1 hf1 hb1 c1
  go_wp2
  refine bodyPost_ret (v := .agg #[.string ⟨#[]⟩, .int .i64 0, .int .i64 4]) (by simp [results, Tryd.results63, go_sem, hc, hne]) rfl ⟨rfl, ?_⟩
  exact set3_alloc hbel _ _ _ _

set_option maxRecDepth 100000 in
theorem specGetText_text (s : ByteArray) (p n q : Int) (w : World)
    (c1 : ∀ w, Calls Tryd.prog 62 #[.string s, .int .i64 p] w fun e w' => e = .returned (.agg #[.int .i64 n, .int .i64 q, .int .i64 0]) ∧ Below w.heap.size w w')
    (hs : (s.size : Int) ≤ 8000) (h0 : 0 ≤ n) (h1 : n ≤ 8000) (h2 : q ≤ (s.size : Int) - n) (h3 : 0 ≤ q) :
    Calls Tryd.prog 63 #[.string s, .int .i64 p] w fun e w' => e = .returned (.agg #[.string (s.extract q.toNat (q + n).toNat), .int .i64 (q + n), .int .i64 0]) ∧ Below w.heap.size w w' := by
  have hw : IntKind.i64.wrap (q + n) = q + n := by simp [IntKind.wrap, IntKind.bits, IntKind.signed]; omega
  go_enter Tryd.func63, Tryd.ntmps63
  go_wp2_with fail
  refine (c1 _).mono ?_
  rintro e w1 ⟨rfl, hb1⟩
  obtain ⟨hc1, hf1⟩ := bcell hb1
  have hz1 := hb1.size
  have hbel : Below w.heap.size w w1 := ((Below.refl w.heap.size w).alloc (Nat.le_refl _) _).trans (hb1.mono (B' := w.heap.size) (by simp))
  simp at hc1 hf1 hz1
  have hc : ∀ o, w1.cell? ⟨w.heap.size, o, none⟩ = (w.alloc (.cells #[.string ⟨#[]⟩, .int .i64 0, .int .i64 0] 86)).cell? ⟨w.heap.size, o, none⟩ := fun o => by rw [hc1 _ _ (by omega)]
  have hf : ∀ o, w1.frozen? ⟨w.heap.size, o, none⟩ = false := fun o => by rw [hf1 _ _ (by omega)]; simp
  have hne : w.heap.size < w1.heap.size := by omega
  clear hc1 hf1 hb1 c1
  go_wp2
  go_region
  go_wp2
  refine bodyPost_ret (v := .agg #[.string (s.extract q.toNat (q + n).toNat), .int .i64 (q + n), .int .i64 0]) (by simp [results, Tryd.results63, go_sem, hc, hne]) rfl ⟨rfl, ?_⟩
  exact (set3_alloc hbel _ _ _ _).drew
end Go.Proofs.YticnffakngpkfaaDoor.Get
