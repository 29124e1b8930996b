/-
  What impl.asItIs, impl.allSynced, laws.szStore, laws.toStore, laws.eqStore answer: contracts over the seat's program.
-/
import Derived.Test.YtdfkmhleikkhpaaClone
import Derived.Test.YtdfkmhleikkhpaaBel
import Derived.Deep.RegionHeld3
import Derived.Deep.CutRange
namespace Go.Proofs.Ytdfkmhleikkhpaa
open Go.RowKit

set_option maxRecDepth 100000 in
theorem asItIs_any (s : ByteArray) (n : Int) (w : World) (hlim : s.size ≤ 1099511627776) :
    Calls Try.prog 13 #[.agg #[.string s, .int .i64 n]] w fun e w' => e = .returned (.agg #[.string s, .int .i64 n]) ∧ Below w.heap.size w w' := by
  have hb0 := below2 w (.cells #[.string s, .int .i64 n] 25) (.cells #[.string ⟨#[]⟩, .int .i64 0] 25)
  have c1 := fun W => Clone_any s W hlim
  go_enter Try.func13, Try.ntmps13
  go_upto_region 1 with fail
  have x0 : ((w.alloc (.cells #[.string s, .int .i64 n] 25)).alloc (.cells #[.string ⟨#[]⟩, .int .i64 0] 25)).cell? ⟨w.heap.size, 0, none⟩ = some (.string s) := by simp [go_sem]
  have x1 : ((w.alloc (.cells #[.string s, .int .i64 n] 25)).alloc (.cells #[.string ⟨#[]⟩, .int .i64 0] 25)).cell? ⟨w.heap.size, 1, none⟩ = some (.int .i64 n) := by simp [go_sem]
  have x2 : ((w.alloc (.cells #[.string s, .int .i64 n] 25)).alloc (.cells #[.string ⟨#[]⟩, .int .i64 0] 25)).heap[w.heap.size + 1]? = some (.cells #[.string ⟨#[]⟩, .int .i64 0] 25 (0, 0)) := by
    have h := heap_alloc_new (w.alloc (.cells #[.string s, .int .i64 n] 25)) (.cells #[.string ⟨#[]⟩, .int .i64 0] 25)
    rw [World.size_alloc] at h; exact h
  have hz : ((w.alloc (.cells #[.string s, .int .i64 n] 25)).alloc (.cells #[.string ⟨#[]⟩, .int .i64 0] 25)).heap.size = w.heap.size + 1 + 1 := by simp
  generalize (w.alloc (.cells #[.string s, .int .i64 n] 25)).alloc (.cells #[.string ⟨#[]⟩, .int .i64 0] 25) = W at *
  have HX := hid x2
  have hA : w.heap.size < W.heap.size := by omega
  have hB : w.heap.size + 1 < W.heap.size := by omega
  clear x2 hz
  have hbd : Below W.heap.size W W.drew := (Below.refl _ _).drew
  go_region_held3 (fun w' => w'.cell? ⟨w.heap.size, 0, none⟩ = some (.string s) ∧ w'.cell? ⟨w.heap.size, 1, none⟩ = some (.int .i64 n)) (go_keep) (first | (go_at_call 17; refine (c1 _).mono ?_; rintro e w1 ⟨rfl, hq1⟩; have hb1 := hbd.trans (hq1.mono hbd.size); have z0 := (hb1.cell (p := ⟨w.heap.size, 0, none⟩) hA).trans x0; have z1 := (hb1.cell (p := ⟨w.heap.size, 1, none⟩) hA).trans x1; have HY := hid ((hb1.block (w.heap.size + 1) hB).trans HX.out); have y0 : w1.cell? ⟨w.heap.size + 1, 0, none⟩ = some (.string ⟨#[]⟩) := (by rw [Lib.cell_of_heap HY.out]; rfl); have y1 : w1.cell? ⟨w.heap.size + 1, 1, none⟩ = some (.int .i64 0) := (by rw [Lib.cell_of_heap HY.out]; rfl); have yf := Lib.frozen_of_heap HY.out))
  all_goals
    have hbel := hb0.trans (hb1.mono hb0.size)
    go_wp2
    refine bodyPost_ret (v := .agg #[.string s, .int .i64 n]) (by simp [results, Try.results13, go_sem, y0, y1]) rfl ⟨rfl, ?_⟩
    exact (hbel.setCell (Nat.le_succ _) _).setCell (Nat.le_succ _) _

theorem allSynced_any (s : ByteArray) (w : World) (hlim : s.size ≤ 1099511627776) :
    Calls Try.prog 14 #[.string s] w fun e w' => e = .returned (.agg #[.string s, .int .i64 s.size]) ∧ Below w.heap.size w w' := by
  have c1 := fun W => Clone_any s W hlim
  go_enter Try.func14, Try.ntmps14
  go_wp2_with fail
  refine (c1 _).mono ?_
  rintro e w1 ⟨rfl, hb1⟩
  obtain ⟨hc1, hf1⟩ := bcell hb1
  have hz1 := hb1.size
  have hbel : Below w.heap.size w w1 := ((Below.refl w.heap.size w).alloc (Nat.le_refl _) _).trans (hb1.mono (B' := w.heap.size) (by simp))
  simp at hc1 hf1 hz1
  have hc : ∀ o, w1.cell? ⟨w.heap.size, o, none⟩ = (w.alloc (.cells #[.string ⟨#[]⟩, .int .i64 0] 25)).cell? ⟨w.heap.size, o, none⟩ := fun o => by rw [hc1 _ _ (by omega)]
  have hf : ∀ o, w1.frozen? ⟨w.heap.size, o, none⟩ = false := fun o => by rw [hf1 _ _ (by omega)]; simp
  clear hc1 hf1 hb1 c1
  go_wp2
  refine bodyPost_ret (v := .agg #[.string s, .int .i64 s.size]) (by simp [results, Try.results14, go_sem, hc]) rfl ⟨rfl, ?_⟩
  exact (hbel.setCell (Nat.le_refl _) _).setCell (Nat.le_refl _) _

theorem szStore_any (s : ByteArray) (n left : Int) (w : World) (h0 : 0 ≤ left) (h1 : left ≤ 1048576) (hs : s.size ≤ maxLen) :
    Calls Try.prog 5 #[.agg #[.string s, .int .i64 n], .int .i64 left] w fun e w' =>
      e = .returned (.int .i64 (if (s.size : Int) ≤ left then left - (s.size : Int) else -1)) ∧ Below w.heap.size w w' := by
  unfold maxLen at hs
  by_cases hz : (s.size : Int) ≤ left
  · rw [if_pos hz]
    go_enter Try.func5, Try.ntmps5
    go_wp2
    go_ret
    exact ⟨rfl, (Below.refl _ _).alloc (Nat.le_refl _) _⟩
  · rw [if_neg hz]
    go_enter Try.func5, Try.ntmps5
    go_wp2
    go_ret
    exact ⟨rfl, (Below.refl _ _).alloc (Nat.le_refl _) _⟩

set_option maxRecDepth 100000 in
theorem toStore_any (s : ByteArray) (n : Int) (w : World) :
    Calls Try.prog 7 #[.agg #[.string s, .int .i64 n]] w fun e w' =>
      e = .returned (.agg #[.string s, .int .i64 n]) ∧ Below w.heap.size w w' := by
  go_enter Try.func7, Try.ntmps7
  go_wp2
  exact bodyPost_ret (v := .agg #[.string s, .int .i64 n]) (by simp [results, Try.results7, go_sem]) rfl ⟨rfl, (below2 _ _ _).alloc (by simp; omega) _⟩

theorem eqStore_same (s : ByteArray) (n : Int) (w : World) :
    Calls Try.prog 9 #[.agg #[.string s, .int .i64 n], .agg #[.string s, .int .i64 n]] w fun e w' => e = .returned (.bool true) ∧ Below w.heap.size w w' := by
  go_enter Try.func9, Try.ntmps9
  go_wp2
  go_ret
  exact ⟨rfl, ((Below.refl _ _).alloc (Nat.le_refl _) _).alloc (by simp) _⟩
end Go.Proofs.Ytdfkmhleikkhpaa
