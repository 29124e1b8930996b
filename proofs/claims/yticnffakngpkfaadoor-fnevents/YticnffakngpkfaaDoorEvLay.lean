/-
  The bytes of an event: what impl.layEvent answers, for every right event: a contract over the seat's program.
-/
import Derived.Test.YticnffakngpkfaaDoorEvAll
import Derived.Test.YticnffakngpkfaaDoorPutT
import Derived.Lib.QuietBelow
namespace Go.Proofs.YticnffakngpkfaaDoor
open Go.RowKit Go.Sort Put

def numT (n : Int) : ByteArray := strOfNums (put 9 (foldI n).toNat)
theorem numT_size (n : Int) : (numT n).size ≤ 10 := putS_size _
theorem putT_size (s : ByteArray) : (putT s).size ≤ 10 + s.size := by
  unfold putT; rw [ByteArray.size_append]; have := putS_size (foldI (s.size : Int)).toNat; omega
def layE (e : Ev) : ByteArray := numT e.seq ++ numT e.time ++ numT e.run ++ numT e.kind ++ putT e.step ++ putT e.val

/-- What a right event's fields come to. -/
structure Okay (e : Ev) : Prop where
  q : 0 ≤ e.seq ∧ e.seq ≤ 1000000
  t : 0 ≤ e.time ∧ e.time ≤ 1000000
  r : 0 ≤ e.run ∧ e.run ≤ 1000000
  k : 0 ≤ e.kind ∧ e.kind ≤ 6
  s : e.step.size ≤ 20
  v : e.val.size ≤ 40
theorem nrB_size {s : ByteArray} (h : nrB s = true) : s.size ≤ 20 := by
  unfold nrB at h; simp at h; exact h.2.1
theorem okay_of {e : Ev} (h : evB e = true) : Okay e := by
  obtain ⟨q, t, r, k, s, v⟩ := e
  unfold evB numB timB at h
  simp at h
  obtain ⟨h1, h2, h3, h4⟩ := h
  have hk : (0 ≤ k ∧ k ≤ 6) ∧ s.size ≤ 20 ∧ v.size ≤ 40 := by
    rcases kindCases k with hk | hk | rfl | ⟨k1, k2, k3, k4, k5, k6⟩
    · rw [knd_bare hk] at h4
      simp at h4
      obtain ⟨rfl, rfl⟩ := h4
      exact ⟨by omega, by decide, by decide⟩
    · rw [knd_step hk] at h4
      simp at h4
      obtain ⟨h4, rfl⟩ := h4
      exact ⟨by omega, nrB_size h4, by decide⟩
    · rw [knd_set] at h4
      simp at h4
      exact ⟨by omega, nrB_size h4.1, h4.2⟩
    · rw [knd_out k1 k2 k3 k4 k5 k6] at h4; cases h4
  exact ⟨by show 0 ≤ q ∧ q ≤ 1000000; omega, by show 0 ≤ t ∧ t ≤ 1000000; omega, by show 0 ≤ r ∧ r ≤ 1000000; omega, hk.1, hk.2.1, hk.2.2⟩

theorem layE_size {e : Ev} (h : Okay e) : (layE e).size ≤ 120 := by
  unfold layE
  have h1 := numT_size e.seq
  have h2 := numT_size e.time
  have h3 := numT_size e.run
  have h4 := numT_size e.kind
  have h5 := putT_size e.step
  have h6 := putT_size e.val
  have h7 := h.s
  have h8 := h.v
  simp only [ByteArray.size_append]
  omega

set_option maxHeartbeats 4000000 in
set_option maxRecDepth 1000000 in
theorem layEvent_six (q t r k : Int) (s v S1 S2 S3 S4 S5 S6 : ByteArray) (w : World)
    (c1 : ∀ w, Calls Tryd.prog 42 #[.int .i64 q] w fun e w' => e = .returned (.string S1) ∧ Below w.heap.size w w')
    (c2 : ∀ w, Calls Tryd.prog 42 #[.int .i64 t] w fun e w' => e = .returned (.string S2) ∧ Below w.heap.size w w')
    (c3 : ∀ w, Calls Tryd.prog 42 #[.int .i64 r] w fun e w' => e = .returned (.string S3) ∧ Below w.heap.size w w')
    (c4 : ∀ w, Calls Tryd.prog 42 #[.int .i64 k] w fun e w' => e = .returned (.string S4) ∧ Below w.heap.size w w')
    (c5 : ∀ w, Calls Tryd.prog 44 #[.string s] w fun e w' => e = .returned (.string S5) ∧ Below w.heap.size w w')
    (c6 : ∀ w, Calls Tryd.prog 44 #[.string v] w fun e w' => e = .returned (.string S6) ∧ Below w.heap.size w w')
    (hz : S1.size + S2.size + S3.size + S4.size + S5.size + S6.size ≤ 1000000) :
    Calls Tryd.prog 22 #[.agg #[.int .i64 q, .int .i64 t, .int .i64 r, .int .i64 k, .string s, .string v]] w fun e w' => e = .returned (.string (S1 ++ S2 ++ S3 ++ S4 ++ S5 ++ S6)) ∧ Below w.heap.size w w' := by
  have mixed : Tryd.prog.follows .mixedOrders = true := by kernel_rfl
  obtain ⟨W, hW⟩ : ∃ W, W = w.alloc (.cells #[.int .i64 q, .int .i64 t, .int .i64 r, .int .i64 k, .string s, .string v] 32) := ⟨_, rfl⟩
  have k0 := cell_regrown (w := W) (a := ⟨w.heap.size, 0, none⟩) (v := .int .i64 q) (by rw [hW]; simp)
  have k1 := cell_regrown (w := W) (a := ⟨w.heap.size, 1, none⟩) (v := .int .i64 t) (by rw [hW]; simp)
  have k2 := cell_regrown (w := W) (a := ⟨w.heap.size, 2, none⟩) (v := .int .i64 r) (by rw [hW]; simp)
  have k3 := cell_regrown (w := W) (a := ⟨w.heap.size, 3, none⟩) (v := .int .i64 k) (by rw [hW]; simp)
  have k4 := cell_regrown (w := W) (a := ⟨w.heap.size, 4, none⟩) (v := .string s) (by rw [hW]; simp)
  have k5 := cell_regrown (w := W) (a := ⟨w.heap.size, 5, none⟩) (v := .string v) (by rw [hW]; simp)
  have d1 := fun d os => Calls.regrown_of (w := W) (d := d) (os := os) (c1 _)
  have d2 := fun d os => Calls.regrown_of (w := W) (d := d) (os := os) (c2 _)
  have d3 := fun d os => Calls.regrown_of (w := W) (d := d) (os := os) (c3 _)
  have d4 := fun d os => Calls.regrown_of (w := W) (d := d) (os := os) (c4 _)
  have d5 := fun d os => Calls.regrown_of (w := W) (d := d) (os := os) (c5 _)
  have d6 := fun d os => Calls.regrown_of (w := W) (d := d) (os := os) (c6 _)
  have hbW : Below w.heap.size w W := by rw [hW]; exact (Below.refl _ _).alloc (Nat.le_refl _) _
  have n1 : ¬ 9223372036854775807 < S1.size + S2.size := by omega
  have n2 : ¬ 9223372036854775807 < S1.size + S2.size + S3.size := by omega
  have n3 : ¬ 9223372036854775807 < S1.size + S2.size + S3.size + S4.size := by omega
  have n4 : ¬ 9223372036854775807 < S1.size + S2.size + S3.size + S4.size + S5.size := by omega
  have n5 : ¬ 9223372036854775807 < S1.size + S2.size + S3.size + S4.size + S5.size + S6.size := by omega
  have HW := hid hW
  clear c1 c2 c3 c4 c5 c6 hW hz
  go_enter Tryd.func22, Tryd.ntmps22
  go_wp2
  rw [← HW.out]
  refine wp_region_quiet_below mixed (by kernel_rfl) ?_
  repeat (quiet_step (first | (go_at_call_of 42 (Value.int IntKind.i64 q); exact d1 _ _) | (go_at_call_of 42 (Value.int IntKind.i64 t); exact d2 _ _) | (go_at_call_of 42 (Value.int IntKind.i64 r); exact d3 _ _) | (go_at_call_of 42 (Value.int IntKind.i64 k); exact d4 _ _) | (go_at_call_of 44 (Value.string s); exact d5 _ _) | (go_at_call_of 44 (Value.string v); exact d6 _ _)))
  refine wpQuiet_nil ?_
  intro _ hw'
  obtain ⟨⟨dq, osq⟩, hw''⟩ := hw'
  subst hw''
  go_wp2
  go_ret
  exact ⟨rfl, hbW.trans ((below_regrown W dq osq).mono hbW.size)⟩
end Go.Proofs.YticnffakngpkfaaDoor
