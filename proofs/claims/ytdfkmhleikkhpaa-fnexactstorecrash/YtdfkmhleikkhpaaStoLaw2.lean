/-
  The law FnExactStoreCrash: spec.StoreCrash and impl.StoreCrash answer the same at every Store: a contract over the seat's program.
-/
import Derived.Test.YtdfkmhleikkhpaaStoCrash
namespace Go.Proofs.Ytdfkmhleikkhpaa
open Go.RowKit

set_option maxRecDepth 100000 in
set_option maxHeartbeats 1000000 in
theorem fnExactStoreCrash_walk (s : ByteArray) (n k : Int) (w : World) (hs : s.size ≤ maxLen) :
    Calls Try.prog 4 #[.agg #[.string s, .int .i64 n], .int .i64 k] w fun e w' => e = .returned (.bool true) ∧ Below w.heap.size w w' := by
  have c1 := fun w => szStore_any s n 1048576 w (by decide) (by decide) hs
  have c2 := fun w => toStore_any s n w
  by_cases hz : (s.size : Int) ≤ 1048576
  · rw [if_pos hz] at c1
    have hz0 : (0 : Int) ≤ 1048576 - (s.size : Int) := by omega
    have c3 := fun w => specStoreCrash_any s n k w (by omega)
    have c4 := fun w => implStoreCrash_any s n k w (by omega)
    generalize crT s n k = t at *
    generalize crN s n k = m at *
    generalize (1048576 : Int) - (s.size : Int) = L at *
    have c5 := fun w => eqStore_same t m w
    clear hs hz
    go_enter Try.func4, Try.ntmps4
    go_wp2_with fail
    refine (c1 _).mono ?_
    rintro e w1 ⟨rfl, hb1⟩
    have hbA : Below w.heap.size w w1 := ((Below.refl w.heap.size w).alloc (Nat.le_refl _) _).trans (hb1.mono (B' := w.heap.size) (by simp))
    have hz1 := hb1.size
    have hc : ∀ o, w1.cell? ⟨w.heap.size, o, none⟩ = (w.alloc (.cells #[.string s, .int .i64 n] 23)).cell? ⟨w.heap.size, o, none⟩ := fun o => hb1.cell (p := ⟨w.heap.size, o, none⟩) (by simp)
    simp at hz1
    clear hb1 c1
    go_wp2_with fail
    refine (c2 _).mono ?_
    rintro e w2 ⟨rfl, hb2⟩
    have hz2 := hb2.size
    have hc' : ∀ o, w2.cell? ⟨w.heap.size, o, none⟩ = (w.alloc (.cells #[.string s, .int .i64 n] 23)).cell? ⟨w.heap.size, o, none⟩ := fun o => by rw [hb2.cell (p := ⟨w.heap.size, o, none⟩) (by show w.heap.size < _; omega), hc o]
    have hbB := hbA.trans (hb2.mono hbA.size)
    clear hc hbA hb2
    go_wp2_with fail
    refine (c3 _).mono ?_
    rintro e w3 ⟨rfl, hb3⟩
    have hz3 := hb3.size
    have hc : ∀ o, (w3.alloc (.cells #[.string t, .int .i64 m] 25)).cell? ⟨w.heap.size, o, none⟩ = (w.alloc (.cells #[.string s, .int .i64 n] 23)).cell? ⟨w.heap.size, o, none⟩ := fun o => by rw [World.cell?_alloc_lt _ _ ⟨w.heap.size, o, none⟩ (by show w.heap.size < _; omega), hb3.cell (p := ⟨w.heap.size, o, none⟩) (by show w.heap.size < _; omega), hc' o]
    have hbC := hbB.trans (hb3.mono hbB.size)
    have hbD := hbC.alloc hbC.size (.cells #[.string t, .int .i64 m] 25)
    clear hc' hbB hb3 c3 hbC
    go_wp2_with fail
    refine (c2 _).mono ?_
    rintro e w4 ⟨rfl, hb4⟩
    have hz4 := hb4.size
    have hd : ∀ o, w4.cell? ⟨w3.heap.size, o, none⟩ = (w3.alloc (.cells #[.string t, .int .i64 m] 25)).cell? ⟨w3.heap.size, o, none⟩ := fun o => hb4.cell (p := ⟨w3.heap.size, o, none⟩) (by simp)
    have hbE := hbD.trans (hb4.mono hbD.size)
    simp at hz4
    clear hb4 hbD hc
    go_wp2_with fail
    refine (c4 _).mono ?_
    rintro e w5 ⟨rfl, hb5⟩
    have hz5 := hb5.size
    have hd' : ∀ o, w5.cell? ⟨w3.heap.size, o, none⟩ = (w3.alloc (.cells #[.string t, .int .i64 m] 25)).cell? ⟨w3.heap.size, o, none⟩ := fun o => (hb5.cell (p := ⟨w3.heap.size, o, none⟩) (by show w3.heap.size < _; omega)).trans (hd o)
    have hbF := hbE.trans (hb5.mono hbE.size)
    have hne : w3.heap.size < w5.heap.size := by omega
    clear hb5 hbE hd c4
    go_wp2_with fail
    refine (c5 _).mono ?_
    rintro e w6 ⟨rfl, hb6⟩
    have hbG := (hbF.alloc hbF.size (.cells #[.string t, .int .i64 m] 25)).trans (hb6.mono (by have := hbF.size; simp; omega))
    clear hb6 hd'
    go_wp2
    go_ret
    exact ⟨rfl, hbG⟩
  · rw [if_neg hz] at c1
    clear hs hz
    go_enter Try.func4, Try.ntmps4
    go_wp2_with fail
    refine (c1 _).mono ?_
    rintro e w1 ⟨rfl, hb1⟩
    go_wp2
    go_ret
    exact ⟨rfl, ((Below.refl w.heap.size w).alloc (Nat.le_refl _) _).trans (hb1.mono (B' := w.heap.size) (by simp))⟩
end Go.Proofs.Ytdfkmhleikkhpaa
