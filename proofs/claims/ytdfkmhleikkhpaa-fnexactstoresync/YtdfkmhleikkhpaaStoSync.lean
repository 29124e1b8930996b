/-
  What spec.StoreSync and impl.StoreSync answer, and the law FnExactStoreSync: contracts over the seat's program.
-/
import Derived.Test.YtdfkmhleikkhpaaStoM
import Derived.Test.YtdfkmhleikkhpaaLong
namespace Go.Proofs.Ytdfkmhleikkhpaa
open Go.RowKit

def syN (s : ByteArray) (n : Int) : Int := if (s.size : Int) ≤ 8000 then s.size else n

set_option maxRecDepth 100000 in
theorem specStoreSync_any (s : ByteArray) (n : Int) (w : World) (_hlim : s.size ≤ 1099511627776) :
    Calls Try.prog 6 #[.agg #[.string s, .int .i64 n]] w fun e w' => e = .returned (.agg #[.string s, .int .i64 (syN s n)]) ∧ Below w.heap.size w w' := by
  by_cases h : (s.size : Int) ≤ 8000
  · rw [show syN s n = s.size from if_pos h]
    go_enter Try.func6, Try.ntmps6
    go_wp2
    refine bodyPost_ret (v := .agg #[.string s, .int .i64 s.size]) (by simp [results, Try.results6, go_sem]) rfl ⟨rfl, ?_⟩
    repeat' first | exact below2 _ _ _ | refine Below.setCell ?_ (by first | exact Nat.le_refl _ | exact Nat.le_succ _) _
  · rw [show syN s n = n from if_neg h]
    go_enter Try.func6, Try.ntmps6
    go_wp2
    refine bodyPost_ret (v := .agg #[.string s, .int .i64 n]) (by simp [results, Try.results6, go_sem]) rfl ⟨rfl, ?_⟩
    repeat' first | exact below2 _ _ _ | refine Below.setCell ?_ (by first | exact Nat.le_refl _ | exact Nat.le_succ _) _

set_option maxRecDepth 100000 in
theorem implStoreSync_any (s : ByteArray) (n : Int) (w : World) (hlim : s.size ≤ 1099511627776) :
    Calls Try.prog 8 #[.agg #[.string s, .int .i64 n]] w fun e w' => e = .returned (.agg #[.string s, .int .i64 (syN s n)]) ∧ Below w.heap.size w w' := by
  have c1 := fun W => asItIs_any s n W hlim
  have c2 := fun W => allSynced_any s W hlim
  have hbA := below2 w (.cells #[.string s, .int .i64 n] 25) (.cells #[.string ⟨#[]⟩, .int .i64 0] 25)
  by_cases h : (s.size : Int) ≤ 8000
  · rw [show syN s n = s.size from if_pos h]
    have c3 := fun W => tooLong_no h W
    go_enter Try.func8, Try.ntmps8
    go_wp2_with (first | (go_at_call 12; refine (c3 _).mono ?_; rintro e w0 ⟨rfl, rfl⟩) | fail)
    refine (c2 _).mono ?_
    rintro e w1 ⟨rfl, hb1⟩
    have hz1 := hb1.size
    have hc : ∀ o, w1.cell? ⟨w.heap.size + 1, o, none⟩ = ((w.alloc (.cells #[.string s, .int .i64 n] 25)).alloc (.cells #[.string ⟨#[]⟩, .int .i64 0] 25)).cell? ⟨w.heap.size + 1, o, none⟩ := fun o => hb1.cell (p := ⟨w.heap.size + 1, o, none⟩) (by simp)
    have hf : ∀ o, w1.frozen? ⟨w.heap.size + 1, o, none⟩ = false := fun o => (hb1.frozen (p := ⟨w.heap.size + 1, o, none⟩) (by simp)).trans (by simp)
    have hbel := hbA.trans (hb1.mono hbA.size)
    clear hb1 hbA c1 c2
    go_wp2
    refine bodyPost_ret (v := .agg #[.string s, .int .i64 s.size]) (by simp [results, Try.results8, go_sem, hc]) rfl ⟨rfl, ?_⟩
    exact (hbel.setCell (Nat.le_succ _) _).setCell (Nat.le_succ _) _
  · rw [show syN s n = n from if_neg h]
    have c3 := fun W => tooLong_yes h W
    go_enter Try.func8, Try.ntmps8
    go_wp2_with (first | (go_at_call 12; refine (c3 _).mono ?_; rintro e w0 ⟨rfl, rfl⟩) | fail)
    refine (c1 _).mono ?_
    rintro e w1 ⟨rfl, hb1⟩
    have hz1 := hb1.size
    have hc : ∀ o, w1.cell? ⟨w.heap.size + 1, o, none⟩ = ((w.alloc (.cells #[.string s, .int .i64 n] 25)).alloc (.cells #[.string ⟨#[]⟩, .int .i64 0] 25)).cell? ⟨w.heap.size + 1, o, none⟩ := fun o => hb1.cell (p := ⟨w.heap.size + 1, o, none⟩) (by simp)
    have hf : ∀ o, w1.frozen? ⟨w.heap.size + 1, o, none⟩ = false := fun o => (hb1.frozen (p := ⟨w.heap.size + 1, o, none⟩) (by simp)).trans (by simp)
    have hbel := hbA.trans (hb1.mono hbA.size)
    clear hb1 hbA c1 c2
    go_wp2
    refine bodyPost_ret (v := .agg #[.string s, .int .i64 n]) (by simp [results, Try.results8, go_sem, hc]) rfl ⟨rfl, ?_⟩
    exact (hbel.setCell (Nat.le_succ _) _).setCell (Nat.le_succ _) _
end Go.Proofs.Ytdfkmhleikkhpaa
