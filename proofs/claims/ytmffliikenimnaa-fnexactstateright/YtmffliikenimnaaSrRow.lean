/-
  FnExactStateRight: for every Def and State the law returns true and writes nothing that was there: the row's proof, over the walk 'fnExactStateRight_walk'. Conditions: none beyond the row's own.
-/
import Derived.Test.YtmffliikenimnaaRows
import Derived.Test.YtmffliikenimnaaAggD
import Derived.Test.YtmffliikenimnaaSrLaw
import Derived.WalkKit
import Derived.ProofKit
import Derived.OpenShut
import Derived.ShutString
import Derived.ChangeOld
import Derived.Carry
import Derived.Below
namespace Go.Proofs.Ytmffliikenimnaa.fnExactStateRight
open Go.ChangeShapes Go.WideShapes Go.ChangeAt Go.RowKit
set_option linter.unusedVariables false

theorem own : ownKnob Try.prog.godebug = none := by kernel_rfl
theorem laidOut : laidOutB Try.prog = true := by kernel_rfl

set_option maxRecDepth 100000 in
theorem lifted (os : Os) (started : os.Started) (H : Type) (enc : TypeId × Value → H) :
    ReturnsInHanded {} Try.checked os 4 .any (Rows.fnExactStateRightSpec.pre6 enc Try.prog Try.f4 Rows.fnExactStateRightRow.domain false) (Rows.fnExactStateRightSpec.post enc Try.prog Try.f4 false true false false) := by
  refine returnsInHanded_of_change (C := Try.checked) own started (by kernel_rfl) Try.func4
    (ChangeSpec.witness6 (enc := enc) (C := Try.checked) false ⟨#[], #[.agg #[.slice none 0 0, .slice none 0 0], .agg #[.int .i64 0, .int .i64 0, .int .i64 0, .slice none 0 0, .slice none 0 0, .slice none 0 0, .int .i64 0]], []⟩ 8 (by kernel_rfl) (by kernel_rfl) (by kernel_rfl) (by kernel_rfl)) ?_
  intro W base args ds gs before hval0 hW hcnd _
  have hval : ∀ (j : Nat) t v, Try.f4.params[j]? = some t → args[j]? = some v → Value.okWide Try.prog W .any base t v := hval0
  have hW' := hW
  obtain ⟨p, q, hA0, hV, rfl, hfz, hnd⟩ := hW
  have hA : DataW.TrodAll enc Try.prog W 0 (fun _ => true) true Try.f4.params.toList args.toList ds p := hA0
  rw [Try.params4] at hA hval
  obtain ⟨v0, vs0, d0, ds0, p0, q0, hargs, rfl, rfl, h0, r0⟩ := trodAll_cons hA
  obtain ⟨v1, vs1, d1, ds1, p1, q1, rfl, rfl, rfl, hs, r1⟩ := trodAll_cons r0
  obtain ⟨rfl, rfl, rfl⟩ := trodAll_nil r1
  obtain rfl : args = #[v0, v1] := by cases args; simp_all
  obtain ⟨rfl, rfl⟩ := trodVars_none hV
  have h0k := h0
  obtain ⟨a1, a2, k1, k2, ss, fs, rfl, ⟨h1, F1, n1⟩, ⟨h2, F2, n2⟩⟩ := def_value Try.underlying25 (by kernel_rfl) (by kernel_rfl) Try.underlying22 Try.underlying9 (by kernel_rfl) Try.underlying23 Try.underlying62 (by kernel_rfl) (by kernel_rfl) Try.underlying9 Try.underlying9 (hval 0 25 v0 rfl rfl) h0
  have hsk := hs
  obtain ⟨st, bg, la, fa, a3, a4, a5, k3, k4, k5, wt, bs, vs, rfl, ⟨h3, F3, n3⟩, ⟨h4, F4, n4⟩, ⟨h5, F5, n5⟩⟩ := state_value Try.underlying36 (by kernel_rfl) (by kernel_rfl) Try.underlying2 Try.underlying2 Try.underlying2 Try.underlying2 Try.underlying22 Try.underlying22 Try.underlying9 (by kernel_rfl) Try.underlying34 Try.underlying69 (by kernel_rfl) (by kernel_rfl) Try.underlying9 Try.underlying9 (hval 1 36 v1 rfl rfl) hs
  have hlt : ∀ x ∈ p0, x.block < W.heap.size := fun x hx => hW'.lt x (by simp [hx])
  have hlt1 : ∀ x ∈ p1, x.block < W.heap.size := fun x hx => hW'.lt x (by simp [hx])
  clear hA0 hval0
  refine (fnExactStateRight_walk a1 a2 a3 a4 a5 k1 k2 k3 k4 k5 ss fs st bg la fa wt bs vs W h1 h2 h3 h4 h5 F1 F2 F3 F4 F5 n1 n2 n3 n4 n5).mono fun e W' ⟨he, bel⟩ => ?_
  subst he
  exact ⟨_, rfl, _, _, _, [], _, [], hW', trodAll_mk1 (shut_bool Try.underlying4 _), (trodAll_cons_mk (Below.trod laidOut (by kernel_rfl) (of_decide_eq_true (by kernel_rfl)) h0k bel hlt) (trodAll_cons_mk (Below.trod laidOut (by kernel_rfl) (of_decide_eq_true (by kernel_rfl)) hsk bel hlt1) trodAll_mk0)), rfl, bel.frame _, fun h => by cases h⟩

theorem over : Rows.fnExactStateRightRow.holds Try.pinned (OpenSpec.ofChange Rows.fnExactStateRightSpec) :=
  OpenClaim.holds_of_wide 4 Try.f4 rfl rfl rfl rfl rfl rfl rfl ⟨rfl, rfl, rfl, rfl, rfl⟩ rfl rfl rfl rfl rfl (by kernel_rfl) Try.func4 (by kernel_rfl)
    (of_decide_eq_true (by kernel_rfl)) (by unfold Func.isWrapper; rw [if_neg (by decide +kernel)]; exact ⟨rfl, rfl⟩)
    (fun os started H enc _ => lifted os started H enc)
end Go.Proofs.Ytmffliikenimnaa.fnExactStateRight
namespace Go.Proofs.Ytmffliikenimnaa
/-- THE STATEMENT. -/
theorem fnExactStateRight_holds : Rows.FnExactStateRightSaid := fnExactStateRight.over
#print axioms fnExactStateRight_holds
end Go.Proofs.Ytmffliikenimnaa
