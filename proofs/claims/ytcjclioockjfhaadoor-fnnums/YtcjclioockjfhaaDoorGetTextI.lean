/-
  What impl.GetText answers, for every text and place, by what impl.numAt answers there: contracts over the seat's program.
-/
import Derived.Test.YtcjclioockjfhaaDoorTextAt
import Derived.Test.YtcjclioockjfhaaDoorGetNumI
import Derived.Test.YtcjclioockjfhaaDoorClone
namespace Go.Proofs.YtcjclioockjfhaaDoor.Get
open Go.RowKit AsErr

set_option maxRecDepth 100000 in
theorem implGetText_code (s : ByteArray) (p c : Int) (w : World) (hg : w.cell? ⟨0, 0, none⟩ = some gErr)
    (c1 : ∀ w, Calls Tryd.prog 33 #[.string s, .int .i64 p] w fun e w' => e = .returned (.tuple #[.int .i64 0, .int .i64 0, .iface 62 (.agg #[.int .i64 c])]) ∧ w' = w) :
    Calls Tryd.prog 12 #[.string s, .int .i64 p] w fun e w' => e = .returned (.agg #[.string ⟨#[]⟩, .int .i64 0, .int .i64 c]) ∧ Below w.heap.size w w' := by
  have hlt := g_lt hg
  have hg1 : Hid (∀ o, (w.alloc o).cell? ⟨0, 0, none⟩ = some gErr) := by
    show ∀ o, _
    intro o
    rw [World.cell?_alloc_lt _ _ ⟨0, 0, none⟩ hlt]; exact hg
  clear hg
  go_enter Tryd.func12, Tryd.ntmps12
  go_wp2_with fail
  refine (c1 _).mono ?_
  rintro e w1 ⟨rfl, rfl⟩
  go_wp2_with fail
  refine (codeOfBytes_any c _ (hg1.out _)).mono ?_
  rintro e w2 ⟨rfl, hb2⟩
  obtain ⟨hc2, hf2⟩ := bcell hb2
  have hz2 := hb2.size
  have hbel : Below w.heap.size w w2 := ((Below.refl w.heap.size w).alloc (Nat.le_refl _) _).trans (hb2.mono (B' := w.heap.size) (by simp))
  simp at hc2 hf2 hz2
  have hc : ∀ o, w2.cell? ⟨w.heap.size, o, none⟩ = (w.alloc (.cells #[.string ⟨#[]⟩, .int .i64 0, .int .i64 0] 31)).cell? ⟨w.heap.size, o, none⟩ := fun o => by rw [hc2 _ _ (by omega)]
  have hf : ∀ o, w2.frozen? ⟨w.heap.size, o, none⟩ = false := fun o => by rw [hf2 _ _ (by omega)]; simp
  clear hc2 hf2 hb2 hg1 c1
  go_wp2
  refine bodyPost_ret (v := .agg #[.string ⟨#[]⟩, .int .i64 0, .int .i64 c]) (by simp [results, Tryd.results12, go_sem, hc]) rfl ⟨rfl, ?_⟩
  exact ((hbel.setCell (Nat.le_refl _) _).setCell (Nat.le_refl _) _).setCell (Nat.le_refl _) _

set_option maxRecDepth 100000 in
theorem implGetText_text (s : ByteArray) (p n q : Int) (w : World)
    (c1 : ∀ w, Calls Tryd.prog 33 #[.string s, .int .i64 p] w fun e w' => e = .returned (.tuple #[.int .i64 q, .int .i64 (q + n), .nilIface]) ∧ w' = w)
    (hs : (s.size : Int) ≤ 8000) (h0 : 0 ≤ n) (h2 : q + n ≤ (s.size : Int)) (h3 : 0 ≤ q) :
    Calls Tryd.prog 12 #[.string s, .int .i64 p] w fun e w' => e = .returned (.agg #[.string (s.extract q.toNat (q + n).toNat), .int .i64 (q + n), .int .i64 0]) ∧ Below w.heap.size w w' := by
  have c2 := fun w => Clone_any (s.extract q.toNat (q + n).toNat) w (by simp; omega)
  go_enter Tryd.func12, Tryd.ntmps12
  go_wp2_with fail
  refine (c1 _).mono ?_
  rintro e w1 ⟨rfl, rfl⟩
  go_wp2_with fail
  refine (c2 _).mono ?_
  rintro e w2 ⟨rfl, hb2⟩
  obtain ⟨hc2, hf2⟩ := bcell hb2
  have hz2 := hb2.size
  have hbel : Below w.heap.size w w2 := ((Below.refl w.heap.size w).alloc (Nat.le_refl _) _).trans (hb2.mono (B' := w.heap.size) (by simp))
  simp at hc2 hf2 hz2
  have hc : ∀ o, w2.cell? ⟨w.heap.size, o, none⟩ = (w.alloc (.cells #[.string ⟨#[]⟩, .int .i64 0, .int .i64 0] 31)).cell? ⟨w.heap.size, o, none⟩ := fun o => by rw [hc2 _ _ (by omega)]
  have hf : ∀ o, w2.frozen? ⟨w.heap.size, o, none⟩ = false := fun o => by rw [hf2 _ _ (by omega)]; simp
  clear hc2 hf2 hb2 c1 c2
  go_wp2
  refine bodyPost_ret (v := .agg #[.string (s.extract q.toNat (q + n).toNat), .int .i64 (q + n), .int .i64 0]) (by simp [results, Tryd.results12, go_sem, hc]) rfl ⟨rfl, ?_⟩
  exact ((hbel.setCell (Nat.le_refl _) _).setCell (Nat.le_refl _) _).setCell (Nat.le_refl _) _
end Go.Proofs.YtcjclioockjfhaaDoor.Get
