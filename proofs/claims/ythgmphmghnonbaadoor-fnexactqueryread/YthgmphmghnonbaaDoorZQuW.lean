/-
  Queries: what impl.wordsIn answers, and the deferred function of impl.QueryRead: contracts over the seat's program.
-/
import Derived.Test.YthgmphmghnonbaaDoorZFd
import Derived.Test.YthgmphmghnonbaaDoorZQuQm
import Derived.Recover
import Derived.Defers
namespace Go.Proofs.YthgmphmghnonbaaDoor
open Go.RowKit

theorem spN_pays (w : World) : PredGrows Tryd.prog 26 #[] spN w := by
  intro W x hx hb
  show Calls Tryd.prog 26 #[.int .i32 (x : Int)] W _
  have hs : ((x : Int) == 32) = spN x := by
    unfold spN
    by_cases h : x = 32
    · subst h; rfl
    · rw [beq_eq_false_iff_ne.2 h, beq_eq_false_iff_ne]; omega
  generalize spN x = B at *
  clear hx hb
  go_enter Tryd.func26, Tryd.ntmps26
  go_wp2
  go_ret
  exact ⟨rfl, Below.refl _ _⟩
theorem wordsIn_any (s : ByteArray) (w : World) (hs : s.size ≤ 4294967296) :
    Calls Tryd.prog 12 #[.string s] w fun e w' => ∃ A, e = .returned (.slice (some ⟨A, 0, none⟩) (wsOf s).length (wsOf s).length) ∧ w.heap.size ≤ A ∧
      w'.ownsRow w.heap.size 9 1 (.slice (some ⟨A, 0, none⟩) (wsOf s).length (wsOf s).length) (wsOf s).length ((wsOf s).map Value.string) ∧ Below w.heap.size w w' := by
  have cF : Calls Tryd.prog 25 #[.string s, .func (.func 26) #[] #[]] w _ := Any.strings_FieldsFunc_grows Sff.ff 26 #[] (enters_of Tryd.func26 (by kernel_rfl) rfl) spN s w hs (spN_pays w) (by kernel_rfl) (by kernel_rfl)
  change Calls _ _ _ _ (fun e w' => ∃ A, e = .returned (.slice (some ⟨A, 0, none⟩) (wsOf s).length (wsOf s).length) ∧ w.heap.size ≤ A ∧ w'.ownsRow w.heap.size 9 1 (.slice (some ⟨A, 0, none⟩) (wsOf s).length (wsOf s).length) (wsOf s).length ((wsOf s).map Value.string) ∧ Below w.heap.size w w') at cF
  generalize wsOf s = FS at cF ⊢
  go_enter Tryd.func12, Tryd.ntmps12
  go_wp2_with (go_at_call 25; refine cF.mono ?_; rintro e w' ⟨A, rfl, hA, hown, hb⟩)
  go_ret
  exact ⟨A, rfl, hA, hown, hb⟩
set_option maxRecDepth 100000 in
set_option maxHeartbeats 1000000 in
theorem catch_panicking (r o : Nat) (k : Int) (u : TypeId) (pv : Value) (older : List PanicEntry) (L : List Value) (T : TypeId) (w : World) (hk : w.cell? ⟨r, 1, none⟩ = some (.int .i64 k)) (ho : w.heap[o]? = some (.cells L.toArray T (0, 0))) (hL : L.length = 8) :
    CallsD Tryd.prog 13 #[.pointer (some ⟨r, 0, none⟩), .pointer (some ⟨o, 0, none⟩)] (.panicking ({ v := .iface u pv, recovered := false } :: older)) w fun e u' w' =>
      e = .returned (.tuple #[]) ∧ u' = .panicking ({ v := .iface u pv, recovered := true } :: older) ∧ w' = (((((((w.setCell ⟨o, 0, none⟩ (.bool false)).setCell ⟨o, 1, none⟩ (.slice none 0 0)).setCell ⟨o, 2, none⟩ (.string ⟨#[]⟩)).setCell ⟨o, 3, none⟩ (.string ⟨#[]⟩)).setCell ⟨o, 4, none⟩ (.bool false)).setCell ⟨o, 5, none⟩ (.int .i64 0)).setCell ⟨o, 6, none⟩ (.int .i64 k)).setCell ⟨o, 7, none⟩ (.int .i64 3) := by
  have hc : ∀ i, i < 8 → ∃ v, w.cell? ⟨o, i, none⟩ = some v := fun i hi => ⟨L[i], by rw [Lib.cell_of_heap ho]; simp⟩
  obtain ⟨v0, c0⟩ := hc 0 (by omega)
  obtain ⟨v1, c1⟩ := hc 1 (by omega)
  obtain ⟨v2, c2⟩ := hc 2 (by omega)
  obtain ⟨v3, c3⟩ := hc 3 (by omega)
  obtain ⟨v4, c4⟩ := hc 4 (by omega)
  obtain ⟨v5, c5⟩ := hc 5 (by omega)
  obtain ⟨v6, c6⟩ := hc 6 (by omega)
  obtain ⟨v7, c7⟩ := hc 7 (by omega)
  have z := fun i => Lib.frozen_of_heap ho i
  refine callsD_of_wpS Tryd.func13 rfl fun c₀ cs hu => ?_
  apply wpS_seq
  apply wpS_region
  simp [wpOpsS, go_sem, recoverD, hu, Tryd.ntmps13, Exit.thenS]
  refine wpS_cond (t := true) (by simp [Act.eval, Array.replicate]) ?_
  simp only [if_true]
  apply wpS_region
  simp [wpOpsS, go_sem, hk, c0, c1, c2, c3, c4, c5, c6, c7, z, bodyPostS, results, Tryd.results13]
theorem catch_idle (p q : Addr) (w : World) :
    CallsD Tryd.prog 13 #[.pointer (some p), .pointer (some q)] .returning w fun e u' w' => e = .returned (.tuple #[]) ∧ u' = .returning ∧ w' = w := by
  refine callsD_of_wpS Tryd.func13 rfl fun c₀ cs hu => ?_
  apply wpS_seq
  apply wpS_region
  simp [wpOpsS, go_sem, recoverD, hu, Tryd.ntmps13, Exit.thenS]
  refine wpS_cond (t := false) (by simp [Act.eval, Array.replicate]) ?_
  simp only [Bool.false_eq_true, if_false]
  refine wpS_of_wp (wp_skip ?_)
  cases c₀
  simp_all [bodyPostS, results, Tryd.results13]
end Go.Proofs.YthgmphmghnonbaaDoor
