/-
  FnExactServiceNew: for every Def the law returns true and writes nothing that was there: the row's proof, over the walk 'fnExactServiceNew_walk'. Conditions: none beyond the row's own.
-/
import Derived.Test.YtadidjhcgmeadaaRows
import Derived.Test.YtadidjhcgmeadaaAggD
import Derived.Test.YtadidjhcgmeadaaSnLaw
import Derived.WalkKit
import Derived.ProofKit
import Derived.OpenShut
import Derived.ShutString
import Derived.ChangeOld
import Derived.Carry
import Derived.Below
namespace Go.Proofs.Ytadidjhcgmeadaa.fnExactServiceNew
open Go.ChangeShapes Go.WideShapes Go.ChangeAt Go.RowKit
set_option linter.unusedVariables false

theorem slice_lt {W : World} {base : Nat} {t e : TypeId} (hu : Try.prog.underlying t = some (.slice e)) {a : Addr} {len cap : Nat} (h : Cell.okWide Try.prog W .any base t (.slice (some a) len cap)) : a.block < W.heap.size := by
  unfold Cell.okWide at h
  simp only [hu] at h
  unfold Cell.ok at h
  simp only [hu] at h
  obtain ⟨_, _, _, _, row, cells, hs, _⟩ := h
  rcases Nat.lt_or_ge a.block W.heap.size with h' | h'
  · exact h'
  · unfold World.shape? at hs
    simp [Array.getElem?_eq_none h'] at hs
set_option maxRecDepth 100000 in
/-- So do a Def's two. -/
theorem def_lt {W : World} {base : Nat} {a1 a2 : Option Addr} {n1 k1 n2 k2 : Nat} (hv : Value.okWide Try.prog W .any base 25 (.agg #[.slice a1 n1 k1, .slice a2 n2 k2])) :
    (∀ g o, a1 = some ⟨g, o, none⟩ → g < W.heap.size) ∧ ∀ g o, a2 = some ⟨g, o, none⟩ → g < W.heap.size := by
  unfold Value.okWide at hv
  rw [Try.underlying25] at hv
  obtain ⟨cs, hcs, _, ts, hts, _, hall⟩ := hv
  obtain rfl := (Value.agg.inj hcs)
  obtain rfl : ts = [22, 23] := Option.some.inj (hts.symm.trans (show Try.prog.cellTypes Try.prog.depth 25 = some [22, 23] by kernel_rfl))
  refine ⟨fun g o e => ?_, fun g o e => ?_⟩
  · subst e
    obtain ⟨u, hu, hc⟩ := hall 0 _ rfl
    obtain rfl : 22 = u := Option.some.inj hu
    exact slice_lt Try.underlying22 hc
  · subst e
    obtain ⟨u, hu, hc⟩ := hall 1 _ rfl
    obtain rfl : 23 = u := Option.some.inj hu
    exact slice_lt Try.underlying23 hc
theorem own : ownKnob Try.prog.godebug = none := by kernel_rfl
theorem laidOut : laidOutB Try.prog = true := by kernel_rfl

set_option maxRecDepth 100000 in
theorem lifted (os : Os) (started : os.Started) (H : Type) (enc : TypeId × Value → H) :
    ReturnsInHanded {} Try.checked os 3 .any (Rows.fnExactServiceNewSpec.pre6 enc Try.prog Try.f3 Rows.fnExactServiceNewRow.domain false) (Rows.fnExactServiceNewSpec.post enc Try.prog Try.f3 false true false false) := by
  refine returnsInHanded_of_change (C := Try.checked) own started (by kernel_rfl) Try.func3
    (ChangeSpec.witness6 (enc := enc) (C := Try.checked) false ⟨#[], #[.agg #[.slice none 0 0, .slice none 0 0]], []⟩ 8 (by kernel_rfl) (by kernel_rfl) (by kernel_rfl) (by kernel_rfl)) ?_
  intro W base args ds gs before hval0 hW hcnd _
  have hval : ∀ (j : Nat) t v, Try.f3.params[j]? = some t → args[j]? = some v → Value.okWide Try.prog W .any base t v := hval0
  have hW' := hW
  obtain ⟨p, q, hA0, hV, rfl, hfz, hnd⟩ := hW
  have hA : DataW.TrodAll enc Try.prog W 0 (fun _ => true) true Try.f3.params.toList args.toList ds p := hA0
  rw [Try.params3] at hA hval
  obtain ⟨v0, vs0, d0, ds0, p0, q0, hargs, rfl, rfl, h0, r0⟩ := trodAll_cons hA
  obtain ⟨rfl, rfl, rfl⟩ := trodAll_nil r0
  obtain rfl : args = #[v0] := by cases args; simp_all
  obtain ⟨rfl, rfl⟩ := trodVars_none hV
  have h0k := h0
  obtain ⟨a1, a2, k1, k2, ss, fs, rfl, ⟨h1, F1, n1⟩, ⟨h2, F2, n2⟩⟩ := def_value Try.underlying25 (by kernel_rfl) (by kernel_rfl) Try.underlying22 Try.underlying9 (by kernel_rfl) Try.underlying23 Try.underlying54 (by kernel_rfl) (by kernel_rfl) Try.underlying9 Try.underlying9 (hval 0 25 v0 rfl rfl) h0
  obtain ⟨g1, g2⟩ := def_lt (hval 0 25 _ rfl rfl)
  have hlt : ∀ x ∈ p0, x.block < W.heap.size := fun x hx => hW'.lt x (by simp [hx])
  clear hA0 hval0
  refine (fnExactServiceNew_walk a1 a2 k1 k2 ss fs W ⟨h1, h2, g1, g2⟩ F1 F2 n1 n2).mono fun e W' ⟨he, bel⟩ => ?_
  subst he
  exact ⟨_, rfl, _, _, _, [], _, [], hW', trodAll_mk1 (shut_bool Try.underlying4 _), (trodAll_cons_mk (Below.trod laidOut (by kernel_rfl) (of_decide_eq_true (by kernel_rfl)) h0k bel hlt) trodAll_mk0), rfl, bel.frame _, fun h => by cases h⟩

theorem over : Rows.fnExactServiceNewRow.holds Try.pinned (OpenSpec.ofChange Rows.fnExactServiceNewSpec) :=
  OpenClaim.holds_of_wide 3 Try.f3 rfl rfl rfl rfl rfl rfl rfl ⟨rfl, rfl, rfl, rfl, rfl⟩ rfl rfl rfl rfl rfl (by kernel_rfl) Try.func3 (by kernel_rfl)
    (of_decide_eq_true (by kernel_rfl)) (by unfold Func.isWrapper; rw [if_neg (by decide +kernel)]; exact ⟨rfl, rfl⟩)
    (fun os started H enc _ => lifted os started H enc)
end Go.Proofs.Ytadidjhcgmeadaa.fnExactServiceNew
namespace Go.Proofs.Ytadidjhcgmeadaa
/-- THE STATEMENT. -/
theorem fnExactServiceNew_holds : Rows.FnExactServiceNewSaid := fnExactServiceNew.over
#print axioms fnExactServiceNew_holds
end Go.Proofs.Ytadidjhcgmeadaa
