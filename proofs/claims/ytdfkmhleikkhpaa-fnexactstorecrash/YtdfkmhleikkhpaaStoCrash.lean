/-
  What spec.l02Is, spec.l01Min, spec.StoreCrash and impl.StoreCrash answer: contracts over the seat's program.
-/
import Derived.Test.YtdfkmhleikkhpaaStoM
namespace Go.Proofs.Ytdfkmhleikkhpaa
open Go.RowKit

set_option maxRecDepth 100000 in
theorem stoIs_any (n b : Int) (w : World) (h : 0 ≤ n) (h' : n ≤ b) :
    Calls Try.prog 15 #[.int .i64 n, .int .i64 0, .int .i64 b] w fun e w' => e = .returned (.bool true) ∧ w' = w := by
  go_enter Try.func15, Try.ntmps15
  go_wp2
  go_ret
  exact ⟨rfl, rfl⟩
theorem stoIs_no (n b : Int) (w : World) (h : ¬ (0 ≤ n ∧ n ≤ b)) :
    Calls Try.prog 15 #[.int .i64 n, .int .i64 0, .int .i64 b] w fun e w' => e = .returned (.bool false) ∧ w' = w := by
  by_cases h0 : 0 ≤ n
  · have h1 : decide (n ≤ b) = false := by simp; omega
    clear h
    go_enter Try.func15, Try.ntmps15
    go_wp2
    go_ret
    exact ⟨rfl, rfl⟩
  · clear h
    go_enter Try.func15, Try.ntmps15
    go_wp2
    go_ret
    exact ⟨rfl, rfl⟩
theorem stoMin_any (a b : Int) (w : World) :
    Calls Try.prog 16 #[.int .i64 a, .int .i64 b] w fun e w' => e = .returned (.int .i64 (min a b)) ∧ w' = w := by
  by_cases h : a < b
  · rw [Int.min_eq_left (by omega)]
    go_enter Try.func16, Try.ntmps16
    go_wp2
    go_ret
    exact ⟨rfl, rfl⟩
  · rw [Int.min_eq_right (by omega)]
    go_enter Try.func16, Try.ntmps16
    go_wp2
    go_ret
    exact ⟨rfl, rfl⟩

/-- How many bytes are left of a right Store. -/
def crK (s : ByteArray) (n k : Int) : Int := n + min (max k 0) (s.size - n)
def crN (s : ByteArray) (n k : Int) : Int := if 0 ≤ n ∧ n ≤ s.size then crK s n k else n
def crT (s : ByteArray) (n k : Int) : ByteArray := if 0 ≤ n ∧ n ≤ s.size then s.extract 0 (crK s n k).toNat else s

set_option maxRecDepth 100000 in
set_option maxHeartbeats 1000000 in
theorem specStoreCrash_any (s : ByteArray) (n k : Int) (w : World) (hlim : s.size ≤ 1099511627776) :
    Calls Try.prog 10 #[.agg #[.string s, .int .i64 n], .int .i64 k] w fun e w' => e = .returned (.agg #[.string (crT s n k), .int .i64 (crN s n k)]) ∧ Below w.heap.size w w' := by
  by_cases h : 0 ≤ n ∧ n ≤ s.size
  · obtain ⟨h0, h1⟩ := h
    have c1 := fun W => stoIs_any n s.size W h0 h1
    rw [show crT s n k = s.extract 0 (crK s n k).toNat from if_pos ⟨h0, h1⟩, show crN s n k = crK s n k from if_pos ⟨h0, h1⟩]
    have hk : 0 ≤ crK s n k ∧ crK s n k ≤ s.size := by unfold crK; omega
    have hw1 : IntKind.i64.wrap ((s.size : Int) - n) = s.size - n := by rw [IntKind.wrap_i64]; omega
    by_cases hk0 : 0 < k
    · have c2 := fun W => stoMin_any k (s.size - n) W
      have hm : n + min k (s.size - n) = crK s n k := by unfold crK; rw [Int.max_eq_left (by omega)]
      have hw : IntKind.i64.wrap (n + min k (s.size - n)) = crK s n k := by rw [hm, IntKind.wrap_i64]; omega
      generalize crK s n k = K at *
      go_enter Try.func10, Try.ntmps10
      go_wp2_with (first | (go_at_call 15; refine (c1 _).mono ?_; rintro e w0 ⟨rfl, rfl⟩) | (go_at_call 16; refine (c2 _).mono ?_; rintro e w0 ⟨rfl, rfl⟩))
      refine bodyPost_ret (v := .agg #[.string (s.extract 0 K.toNat), .int .i64 K]) (by simp [results, Try.results10, go_sem]) rfl ⟨rfl, below2 _ _ _⟩
    · have hm : n = crK s n k := by unfold crK; rw [Int.max_eq_right (by omega), Int.min_eq_left (by omega)]; omega
      rw [← hm]
      clear hm hk hw1
      go_enter Try.func10, Try.ntmps10
      go_wp2_with (first | (go_at_call 15; refine (c1 _).mono ?_; rintro e w0 ⟨rfl, rfl⟩))
      refine bodyPost_ret (v := .agg #[.string (s.extract 0 n.toNat), .int .i64 n]) (by simp [results, Try.results10, go_sem]) rfl ⟨rfl, ?_⟩
      repeat' first | exact below2 _ _ _ | refine Below.setCell ?_ (by first | exact Nat.le_refl _ | exact Nat.le_succ _) _
  · have c1 := fun W => stoIs_no n s.size W h
    rw [show crT s n k = s from if_neg h, show crN s n k = n from if_neg h]
    clear h
    go_enter Try.func10, Try.ntmps10
    go_wp2_with (first | (go_at_call 15; refine (c1 _).mono ?_; rintro e w0 ⟨rfl, rfl⟩))
    refine bodyPost_ret (v := .agg #[.string s, .int .i64 n]) (by simp [results, Try.results10, go_sem]) rfl ⟨rfl, ?_⟩
    repeat' first | exact below2 _ _ _ | refine Below.setCell ?_ (by first | exact Nat.le_refl _ | exact Nat.le_succ _) _

set_option maxRecDepth 100000 in
set_option maxHeartbeats 1000000 in
theorem implStoreCrash_any (s : ByteArray) (n k : Int) (w : World) (hlim : s.size ≤ 1099511627776) :
    Calls Try.prog 11 #[.agg #[.string s, .int .i64 n], .int .i64 k] w fun e w' => e = .returned (.agg #[.string (crT s n k), .int .i64 (crN s n k)]) ∧ Below w.heap.size w w' := by
  have hbA := below2 w (.cells #[.string s, .int .i64 n] 25) (.cells #[.string ⟨#[]⟩, .int .i64 0] 25)
  by_cases h : 0 ≤ n ∧ n ≤ s.size
  · obtain ⟨h0, h1⟩ := h
    have hsz : (s.extract 0 (crK s n k).toNat).size = (crK s n k).toNat := by rw [ByteArray.size_extract]; unfold crK; omega
    have c2 := fun W => allSynced_any (s.extract 0 (crK s n k).toNat) W (by rw [hsz]; unfold crK; omega)
    rw [hsz] at c2
    rw [show crT s n k = s.extract 0 (crK s n k).toNat from if_pos ⟨h0, h1⟩, show crN s n k = crK s n k from if_pos ⟨h0, h1⟩]
    have hk : 0 ≤ crK s n k ∧ crK s n k ≤ s.size := by unfold crK; omega
    have hw1 : IntKind.i64.wrap ((s.size : Int) - n) = s.size - n := by rw [IntKind.wrap_i64]; omega
    have hm : n + min (max k 0) (s.size - n) = crK s n k := rfl
    have hw : IntKind.i64.wrap (n + min (max k 0) (s.size - n)) = crK s n k := by rw [hm, IntKind.wrap_i64]; omega
    have hn0 : decide (n < 0) = false := by simp; omega
    have hn1 : decide ((s.size : Int) < n) = false := by simp; omega
    rw [show (((crK s n k).toNat : Nat) : Int) = crK s n k by omega] at c2
    by_cases hk0 : 0 < k
    · have _ht := True.intro
      generalize crK s n k = K at *
      go_enter Try.func11, Try.ntmps11
      go_wp2_with fail
      all_goals
        try rw [show n + ((s.size : Int) - n) = K by omega]
        try rw [show n + k = K by omega]
        refine (c2 _).mono ?_
        rintro e w1 ⟨rfl, hb1⟩
        have hz1 := hb1.size
        have hc : ∀ o, w1.cell? ⟨w.heap.size + 1, o, none⟩ = ((w.alloc (.cells #[.string s, .int .i64 n] 25)).alloc (.cells #[.string ⟨#[]⟩, .int .i64 0] 25)).cell? ⟨w.heap.size + 1, o, none⟩ := fun o => hb1.cell (p := ⟨w.heap.size + 1, o, none⟩) (by simp)
        have hf : ∀ o, w1.frozen? ⟨w.heap.size + 1, o, none⟩ = false := fun o => (hb1.frozen (p := ⟨w.heap.size + 1, o, none⟩) (by simp)).trans (by simp)
        have hbel := hbA.trans (hb1.mono hbA.size)
        clear hb1 hbA c2
        go_wp2
        refine bodyPost_ret (v := .agg #[.string (s.extract 0 K.toNat), .int .i64 K]) (by simp [results, Try.results11, go_sem, hc]) rfl ⟨rfl, ?_⟩
        exact (hbel.setCell (Nat.le_succ _) _).setCell (Nat.le_succ _) _
    · have _ht := True.intro
      have hK : crK s n k = n := by unfold crK; omega
      rw [hK] at c2 hw hm hk ⊢
      clear hK hm hsz hk
      go_enter Try.func11, Try.ntmps11
      go_wp2_with fail
      all_goals
        try rw [show n + ((s.size : Int) - n) = n by omega]
        try rw [show n + k = n by omega]
        refine (c2 _).mono ?_
        rintro e w1 ⟨rfl, hb1⟩
        have hz1 := hb1.size
        have hc : ∀ o, w1.cell? ⟨w.heap.size + 1, o, none⟩ = ((w.alloc (.cells #[.string s, .int .i64 n] 25)).alloc (.cells #[.string ⟨#[]⟩, .int .i64 0] 25)).cell? ⟨w.heap.size + 1, o, none⟩ := fun o => hb1.cell (p := ⟨w.heap.size + 1, o, none⟩) (by simp)
        have hf : ∀ o, w1.frozen? ⟨w.heap.size + 1, o, none⟩ = false := fun o => (hb1.frozen (p := ⟨w.heap.size + 1, o, none⟩) (by simp)).trans (by simp)
        have hbel := hbA.trans (hb1.mono hbA.size)
        clear hb1 hbA c2
        go_wp2
        refine bodyPost_ret (v := .agg #[.string (s.extract 0 n.toNat), .int .i64 n]) (by simp [results, Try.results11, go_sem, hc]) rfl ⟨rfl, ?_⟩
        exact (hbel.setCell (Nat.le_succ _) _).setCell (Nat.le_succ _) _
  · have c1 := fun W => asItIs_any s n W hlim
    rw [show crT s n k = s from if_neg h, show crN s n k = n from if_neg h]
    by_cases h0 : n < 0
    · clear h
      go_enter Try.func11, Try.ntmps11
      go_wp2_with fail
      refine (c1 _).mono ?_
      rintro e w1 ⟨rfl, hb1⟩
      have hz1 := hb1.size
      have hc : ∀ o, w1.cell? ⟨w.heap.size + 1, o, none⟩ = ((w.alloc (.cells #[.string s, .int .i64 n] 25)).alloc (.cells #[.string ⟨#[]⟩, .int .i64 0] 25)).cell? ⟨w.heap.size + 1, o, none⟩ := fun o => hb1.cell (p := ⟨w.heap.size + 1, o, none⟩) (by simp)
      have hf : ∀ o, w1.frozen? ⟨w.heap.size + 1, o, none⟩ = false := fun o => (hb1.frozen (p := ⟨w.heap.size + 1, o, none⟩) (by simp)).trans (by simp)
      have hbel := hbA.trans (hb1.mono hbA.size)
      clear hb1 hbA c1
      go_wp2
      refine bodyPost_ret (v := .agg #[.string s, .int .i64 n]) (by simp [results, Try.results11, go_sem, hc]) rfl ⟨rfl, ?_⟩
      exact (hbel.setCell (Nat.le_succ _) _).setCell (Nat.le_succ _) _
    · have hn0 : decide (n < 0) = false := by simp; omega
      have hn1 : (s.size : Int) < n := by omega
      clear h h0
      go_enter Try.func11, Try.ntmps11
      go_wp2_with fail
      refine (c1 _).mono ?_
      rintro e w1 ⟨rfl, hb1⟩
      have hz1 := hb1.size
      have hc : ∀ o, w1.cell? ⟨w.heap.size + 1, o, none⟩ = ((w.alloc (.cells #[.string s, .int .i64 n] 25)).alloc (.cells #[.string ⟨#[]⟩, .int .i64 0] 25)).cell? ⟨w.heap.size + 1, o, none⟩ := fun o => hb1.cell (p := ⟨w.heap.size + 1, o, none⟩) (by simp)
      have hf : ∀ o, w1.frozen? ⟨w.heap.size + 1, o, none⟩ = false := fun o => (hb1.frozen (p := ⟨w.heap.size + 1, o, none⟩) (by simp)).trans (by simp)
      have hbel := hbA.trans (hb1.mono hbA.size)
      clear hb1 hbA c1
      go_wp2
      refine bodyPost_ret (v := .agg #[.string s, .int .i64 n]) (by simp [results, Try.results11, go_sem, hc]) rfl ⟨rfl, ?_⟩
      exact (hbel.setCell (Nat.le_succ _) _).setCell (Nat.le_succ _) _
end Go.Proofs.Ytdfkmhleikkhpaa
