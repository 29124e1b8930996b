/-
  What impl.Unseal answers, for every text: contracts over the seat's program, in a world in which errors.errorType holds its handle.
-/
import Derived.Test.YtcjclioockjfhaaDoorUnsD
namespace Go.Proofs.YtcjclioockjfhaaDoor.Unseal
open Go.RowKit Crc Join Seal AsErr

theorem g_lt {w : World} (hg : w.cell? ⟨0, 0, none⟩ = some gErr) : 0 < w.heap.size := by
  rcases Nat.lt_or_ge 0 w.heap.size with h | h
  · exact h
  · simp [World.cell?, Array.getElem?_eq_none h] at hg

set_option maxRecDepth 100000 in
/-- With a fault: its code alone. -/
theorem implUnseal_code (s : ByteArray) (c : Int) (w : World) (hg : w.cell? ⟨0, 0, none⟩ = some gErr)
    (c1 : ∀ w, Calls Tryd.prog 38 #[.string s] w fun e w' => e = .returned (.tuple #[.string ⟨#[]⟩, .iface 62 (.agg #[.int .i64 c])]) ∧ Below w.heap.size w w') :
    Calls Tryd.prog 17 #[.string s] w fun e w' => e = .returned (.agg #[.string ⟨#[]⟩, .int .i64 0, .int .i64 c]) ∧ Below w.heap.size w w' := by
  have hlt := g_lt hg
  go_enter Tryd.func17, Tryd.ntmps17
  go_wp2_with fail
  refine (c1 _).mono ?_
  rintro e w1 ⟨rfl, hb1⟩
  have hg1 : Hid (w1.cell? ⟨0, 0, none⟩ = some gErr) := by
    show _ = _
    rw [hb1.cell (by first | (simp; done) | (simp; omega)), World.cell?_alloc_lt _ _ ⟨0, 0, none⟩ hlt]; exact hg
  clear hg
  go_wp2_with fail
  refine (codeOfBytes_any c _ hg1.out).mono ?_
  rintro e w2 ⟨rfl, hb2⟩
  obtain ⟨hc1, hf1⟩ := bcell hb1
  have hz1 := hb1.size
  obtain ⟨hc2, hf2⟩ := bcell hb2
  have hz2 := hb2.size
  have hbel : Below w.heap.size w w2 := (((Below.refl w.heap.size w).alloc (Nat.le_refl _) _).trans (hb1.mono (B' := w.heap.size) (by simp))).trans (hb2.mono (B' := w.heap.size) (by simp at hz1; omega))
  simp at hc1 hf1 hz1
  have hc : ∀ o, w2.cell? ⟨w.heap.size, o, none⟩ = (w.alloc (.cells #[.string ⟨#[]⟩, .int .i64 0, .int .i64 0] 31)).cell? ⟨w.heap.size, o, none⟩ := fun o => by rw [hc2 _ _ (by omega), hc1 _ _ (by omega)]
  have hf : ∀ o, w2.frozen? ⟨w.heap.size, o, none⟩ = false := fun o => by rw [hf2 _ _ (by omega), hf1 _ _ (by omega)]; simp
  have hz : w.heap.size < w2.heap.size := by omega
  clear hc1 hf1 hc2 hf2 hb1 hb2 hz1 hz2 hg1 c1
  go_wp2
  refine bodyPost_ret (v := .agg #[.string ⟨#[]⟩, .int .i64 0, .int .i64 c]) (by simp [results, Tryd.results17, go_sem, hc]) rfl ⟨rfl, ?_⟩
  exact ((hbel.setCell (Nat.le_refl _) _).setCell (Nat.le_refl _) _).setCell (Nat.le_refl _) _

set_option maxRecDepth 100000 in
/-- Without one: the text. -/
theorem implUnseal_text (s t : ByteArray) (w : World)
    (c1 : ∀ w, Calls Tryd.prog 38 #[.string s] w fun e w' => e = .returned (.tuple #[.string t, .nilIface]) ∧ Below w.heap.size w w') :
    Calls Tryd.prog 17 #[.string s] w fun e w' => e = .returned (.agg #[.string t, .int .i64 0, .int .i64 0]) ∧ Below w.heap.size w w' := by
  go_enter Tryd.func17, Tryd.ntmps17
  go_wp2_with fail
  refine (c1 _).mono ?_
  rintro e w1 ⟨rfl, hb1⟩
  obtain ⟨hc1, hf1⟩ := bcell hb1
  have hz1 := hb1.size
  have hbel : Below w.heap.size w w1 := ((Below.refl w.heap.size w).alloc (Nat.le_refl _) _).trans (hb1.mono (B' := w.heap.size) (by simp))
  simp at hc1 hf1 hz1
  have hc : ∀ o, w1.cell? ⟨w.heap.size, o, none⟩ = (w.alloc (.cells #[.string ⟨#[]⟩, .int .i64 0, .int .i64 0] 31)).cell? ⟨w.heap.size, o, none⟩ := fun o => by rw [hc1 _ _ (by omega)]
  have hf : ∀ o, w1.frozen? ⟨w.heap.size, o, none⟩ = false := fun o => by rw [hf1 _ _ (by omega)]; simp
  clear hc1 hf1 hb1 c1
  go_wp2
  refine bodyPost_ret (v := .agg #[.string t, .int .i64 0, .int .i64 0]) (by simp [results, Tryd.results17, go_sem, hc]) rfl ⟨rfl, ?_⟩
  exact ((hbel.setCell (Nat.le_refl _) _).setCell (Nat.le_refl _) _).setCell (Nat.le_refl _) _
end Go.Proofs.YtcjclioockjfhaaDoor.Unseal
