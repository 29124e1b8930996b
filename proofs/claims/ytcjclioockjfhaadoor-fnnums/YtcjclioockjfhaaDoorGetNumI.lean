/-
  What impl.GetNum answers, for every text and place; the law FnExactGetNum: spec.GetNum and impl.GetNum answer the same.
-/
import Derived.Test.YtcjclioockjfhaaDoorNumAtI
import Derived.Test.YtcjclioockjfhaaDoorAsWalk
namespace Go.Proofs.YtcjclioockjfhaaDoor.Get
open Go.RowKit AsErr

theorem g_lt {w : World} (hg : w.cell? ⟨0, 0, none⟩ = some gErr) : 0 < w.heap.size := by
  rcases Nat.lt_or_ge 0 w.heap.size with h | h
  · exact h
  · simp [World.cell?, Array.getElem?_eq_none h] at hg

set_option maxRecDepth 100000 in
theorem implGetNum_code (s : ByteArray) (p c : Int) (w : World) (hg : w.cell? ⟨0, 0, none⟩ = some gErr)
    (c1 : ∀ w, Calls Tryd.prog 26 #[.string s, .int .i64 p] w fun e w' => e = .returned (.tuple #[.int .i64 0, .int .i64 0, .iface 62 (.agg #[.int .i64 c])]) ∧ w' = w) :
    Calls Tryd.prog 8 #[.string s, .int .i64 p] w fun e w' => e = .returned (.agg #[.int .i64 0, .int .i64 0, .int .i64 c]) ∧ Below w.heap.size w w' := by
  have hlt := g_lt hg
  have hg1 : Hid (∀ o, (w.alloc o).cell? ⟨0, 0, none⟩ = some gErr) := by
    show ∀ o, _
    intro o
    rw [World.cell?_alloc_lt _ _ ⟨0, 0, none⟩ hlt]; exact hg
  clear hg
  go_enter Tryd.func8, Tryd.ntmps8
  go_wp2_with fail
  refine (c1 _).mono ?_
  rintro e w1 ⟨rfl, rfl⟩
  go_wp2_with fail
  refine (codeOfBytes_any c _ (hg1.out _)).mono ?_
  rintro e w2 ⟨rfl, hb2⟩
  obtain ⟨hc2, hf2⟩ := bcell hb2
  have hz2 := hb2.size
  have hbel : Below w.heap.size w w2 := ((Below.refl w.heap.size w).alloc (Nat.le_refl _) _).trans (hb2.mono (B' := w.heap.size) (by simp))
  simp at hc2 hf2 hz2
  have hc : ∀ o, w2.cell? ⟨w.heap.size, o, none⟩ = (w.alloc (.cells #[.int .i64 0, .int .i64 0, .int .i64 0] 26)).cell? ⟨w.heap.size, o, none⟩ := fun o => by rw [hc2 _ _ (by omega)]
  have hf : ∀ o, w2.frozen? ⟨w.heap.size, o, none⟩ = false := fun o => by rw [hf2 _ _ (by omega)]; simp
  clear hc2 hf2 hb2 hg1 c1
  go_wp2
  refine bodyPost_ret (v := .agg #[.int .i64 0, .int .i64 0, .int .i64 c]) (by simp [results, Tryd.results8, go_sem, hc]) rfl ⟨rfl, ?_⟩
  exact ((hbel.setCell (Nat.le_refl _) _).setCell (Nat.le_refl _) _).setCell (Nat.le_refl _) _

set_option maxRecDepth 100000 in
theorem implGetNum_num (s : ByteArray) (p n q : Int) (w : World)
    (c1 : ∀ w, Calls Tryd.prog 26 #[.string s, .int .i64 p] w fun e w' => e = .returned (.tuple #[.int .i64 n, .int .i64 q, .nilIface]) ∧ w' = w) :
    Calls Tryd.prog 8 #[.string s, .int .i64 p] w fun e w' => e = .returned (.agg #[.int .i64 n, .int .i64 q, .int .i64 0]) ∧ Below w.heap.size w w' := by
  go_enter Tryd.func8, Tryd.ntmps8
  go_wp2_with (go_at_call 26; refine (c1 _).mono ?_; rintro e w1 ⟨rfl, rfl⟩)
  exact bodyPost_ret (v := .agg #[.int .i64 n, .int .i64 q, .int .i64 0]) (by simp [results, Tryd.results8, go_sem]) rfl ⟨rfl, (Below.refl _ _).alloc (Nat.le_refl _) _⟩

theorem implGetNum_any (s : ByteArray) (p : Int) (w : World) (h2 : p ≤ 9223372036854775807) (hg : w.cell? ⟨0, 0, none⟩ = some gErr) :
    Calls Tryd.prog 8 #[.string s, .int .i64 p] w fun e w' => e = .returned (numV (gnA s p)) ∧ Below w.heap.size w w' := by
  have c1 := fun w => numAt_any s p w h2
  by_cases h : (gnA s p).2.2 = 0
  · unfold rnV at c1
    unfold numV
    rw [h] at c1 ⊢
    exact implGetNum_num s p _ _ w c1
  · obtain ⟨e1, e2⟩ := (gnA_code s p).resolve_left h
    unfold rnV at c1
    rw [if_neg h, e1, e2] at c1
    unfold numV
    rw [e1, e2]
    exact implGetNum_code s p _ w hg c1
end Go.Proofs.YtcjclioockjfhaaDoor.Get
