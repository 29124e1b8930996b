/-
  FnExactQueryRead: for every text the law returns true and writes nothing that was there: the row's proof over the walk 'fnExactQueryRead_walk', and its tied card. Condition: impl.kindNames holds the six names and impl.errWord an error of its own, as the card ties them to the program's text.
-/
import Derived.Test.YthgmphmghnonbaaDoorCards
import Derived.Test.YthgmphmghnonbaaDoorTie
import Derived.Test.YthgmphmghnonbaaDoorZQrLaw
import Derived.Test.YthgmphmghnonbaaDoorZKdNames
import Derived.WalkKit
import Derived.ProofKit
import Derived.OpenShut
import Derived.ShutString
import Derived.ChangeOld
import Derived.Carry
import Derived.Below
import Derived.OpenVars
import Derived.LaidMore
import Derived.LaidLaws
import Derived.Stop.LaidTwo
import Derived.Stop.Joined
namespace Go.Proofs.YthgmphmghnonbaaDoor.fnExactQueryRead
open Go.ChangeShapes Go.WideShapes Go.ChangeAt Go.RowKit
open Go.ChangeMaps (open_string shut_string)
set_option linter.unusedVariables false

theorem own : ownKnob Tryd.prog.godebug = none := by kernel_rfl
theorem laidOut : laidOutB Tryd.prog = true := by kernel_rfl
theorem star : "*" ++ "errors.errorString" = "*errors.errorString" := by decide
theorem rowE (u : TypeId) (h : Tryd.prog.typeName? 3 u = some "*errors.errorString") : u = 79 :=
  typeName_ptr_named (nm := "errors.errorString") (by rw [star]; kernel_rfl) (by kernel_rfl) (by decide) u (by rw [star]; exact h)
theorem gErr : Tryd.prog.globalNamed "loop.example/g00366/impl.errWord" = some 0 := by kernel_rfl
theorem tErr : (Tryd.prog.globals[0]?).map (·.type) = some 64 := by kernel_rfl
theorem cE : Tryd.prog.cellsOf 97 = 1 := by kernel_rfl
set_option maxRecDepth 100000 in
/-- What the row's list gives: the table's six cells, and the error's one. -/
theorem both_of_laid {W : World} (h : laidMetH Tryd.prog Rows.fnExactQueryReadRow.laid W) : KNames W ∧ ∃ a, W.cell? ⟨0, 0, none⟩ = some (errQ a) := by
  rw [MakeChecks.laidMetH_plain _ _ _ (by kernel_rfl)] at h
  obtain ⟨ps, ⟨_, _, cs0, f0, p0, q0, hg0, ht0, hv0, hd0, ⟨_, _, cs1, f1, p1, q1, hg1, ht1, hv1, hd1, _, E1⟩, E0⟩, hnd, hrows⟩ := h
  obtain rfl := Option.some.inj (gNames.symm.trans hg0)
  obtain rfl := Option.some.inj (tNames.symm.trans ht0)
  obtain rfl := Option.some.inj (gErr.symm.trans hg1)
  obtain rfl := Option.some.inj (tErr.symm.trans ht1)
  subst E1
  subst E0
  refine ⟨?_, ?_⟩
  · have hcs := cells_of_strs (ss := [[115, 116, 97, 114, 116], [101, 110, 116, 101, 114], [108, 101, 97, 118, 101], [115, 101, 116], [102, 97, 117, 108, 116], [101, 110, 100]]) Tryd.underlying78 Tryd.underlying9 (congrArg Prod.fst kCells) (congrArg Prod.snd kCells) hd0
    have hcell := fun i => World.var?_cell gNames hv0 i
    have ha : ∀ i : Nat, cs0[i]? = cs0.toList[i]? := fun i => Array.getElem?_toList.symm
    constructor
    all_goals
      rw [hcell, ha, hcs]
      rfl
  · obtain ⟨l1⟩ := cs1
    have ok1 : ∀ u v, l1 = [.iface u v] → Value.okWide Tryd.prog W .any 0 u v := fun u v e => by
      subst e
      exact (hrows 0 0 (by simp [MemPlace.row])).2 u v (by simpa using World.var?_cell gErr hv1 0)
    obtain ⟨a1, s1, rfl, _, _, _, rfl⟩ := errorString_of_trod Tryd.underlying64 rowE Tryd.underlying79 Tryd.underlying97 rfl rfl Tryd.underlying9 cE (congrArg Prod.fst kCells) hd1 ok1
    exact ⟨a1, by simpa using World.var?_cell gErr hv1 0⟩
/-- The door's own heap meets the condition. -/
theorem door_met (os : Os) (args : Array Value) : laidMetH Tryd.prog Rows.fnExactQueryReadRow.laid ((World.doorLaid Tryd.prog 400 os).forCall (fun _ _ => 0) ⟨#[], args, []⟩).memory :=
  laidMetH_of_parts3 (fuel := 8) (laidMet_of_run' 8 (by kernel_rfl) (by kernel_rfl)) (by kernel_rfl) (by kernel_rfl)

set_option maxRecDepth 100000 in
theorem lifted (os : Os) (started : os.Started) (H : Type) (enc : TypeId × Value → H) :
    ReturnsInHanded {} Tryd.checked os 3 .any (fun w args => (Rows.fnExactQueryReadSpec.pre enc Tryd.prog Tryd.f3 [] false w args ∧ laidMetH Tryd.prog Rows.fnExactQueryReadRow.laid w) ∧ sizedMet enc Tryd.prog Tryd.f3 (OpenSpec.ofChange Rows.fnExactQueryReadSpec) false w args)
      (Rows.fnExactQueryReadSpec.post enc Tryd.prog Tryd.f3 false true false false) := by
  refine returnsInHanded_of_change_and (C := Tryd.checked) (X := fun w _ => laidMetH Tryd.prog Rows.fnExactQueryReadRow.laid w) (fun _ _ _ hh h => h.of_heap hh) own started (by kernel_rfl) Tryd.func3
    (ChangeSpec.witness_shaped (enc := enc) (C := Tryd.checked) (os := os) (X := fun w _ => laidMetH Tryd.prog Rows.fnExactQueryReadRow.laid w) false (World.doorLaid Tryd.prog 400 os) #[.string ByteArray.empty] 8 rfl (World.shaped_of_RefB (by kernel_rfl) (by kernel_rfl)) (by kernel_rfl) (by kernel_rfl) (by kernel_rfl) (door_met os _)) ?_
  intro W base args ds gs before hval0 hW _ _ hL _
  have hval : ∀ (j : Nat) t v, Tryd.f3.params[j]? = some t → args[j]? = some v → Value.okWide Tryd.prog W .any base t v := hval0
  obtain ⟨hg, e1, hg1⟩ := both_of_laid hL
  have hW' := hW
  obtain ⟨p, q, hA0, hV, rfl, hfz, hnd⟩ := hW
  have hA : DataW.TrodAll enc Tryd.prog W 0 (fun _ => true) true Tryd.f3.params.toList args.toList ds p := hA0
  rw [Tryd.params3] at hA hval
  obtain ⟨v0, vs0, d0, ds0, p0, q0, hargs, rfl, rfl, h0, r0⟩ := trodAll_cons hA
  obtain ⟨rfl, rfl, rfl⟩ := trodAll_nil r0
  obtain rfl : args = #[v0] := by cases args; simp_all
  obtain ⟨y0, y1, rfl⟩ : ∃ y0 y1, gs = [y0, y1] := by
    match gs, hV with
    | [y0, y1], _ => exact ⟨y0, y1, rfl⟩
  obtain ⟨a0, rfl, rfl, rfl, w0⟩ := open_string Tryd.underlying9 (hval 0 9 v0 rfl rfl) h0
  clear hA0 hval0
  refine (fnExactQueryRead_walk a0 W hg1 hg).mono fun e W' ⟨he, bel⟩ => ?_
  subst he
  exact ⟨_, rfl, _, _, _, [], _, q, hW', trodAll_mk1 (shut_bool Tryd.underlying4 _), (trodAll_cons_mk (shut_string Tryd.underlying9 w0) trodAll_mk0), Below.trodVars laidOut bel (by kernel_rfl) hV, bel.frame _, fun h => by cases h⟩

theorem said : Rows.FnExactQueryReadSaid :=
  OpenClaim.holds_of_wide 3 Tryd.f3 rfl rfl rfl rfl rfl rfl rfl ⟨rfl, rfl, rfl, rfl, rfl⟩ rfl rfl rfl rfl rfl (by kernel_rfl) Tryd.func3 (by kernel_rfl)
    (of_decide_eq_true (by kernel_rfl)) (by unfold Func.isWrapper; rw [if_neg (by decide +kernel)]; exact ⟨rfl, rfl⟩)
    (fun os started H enc _ => lifted os started H enc)

theorem plain (f : FuncId) (fn : Func) (hf : Tryd.pinned.checked.prog.funcNamed Rows.fnExactQueryReadRow.func = some f) (hfn : Tryd.pinned.checked.prog.funcs[f]? = some fn) :
    true = Tryd.pinned.checked.prog.looks [] ∧ ∀ (j : Nat) t, fn.params[j]? = some t → Tryd.pinned.checked.prog.wantsStandIn t = false := by
  obtain rfl : f = 3 := Option.some.inj ((show Tryd.prog.funcNamed Rows.fnExactQueryReadRow.func = some 3 by kernel_rfl).symm.trans hf) |>.symm
  obtain rfl : fn = Tryd.f3 := (Option.some.inj (Tryd.func3.symm.trans hfn)).symm
  refine ⟨by kernel_rfl, fun j t ht => ?_⟩
  rw [Tryd.params3] at ht
  obtain rfl : t = 9 := by simpa using Array.mem_of_getElem? ht
  exact (show Tryd.prog.wantsStandIn 9 = false by kernel_rfl)
end Go.Proofs.YthgmphmghnonbaaDoor.fnExactQueryRead
namespace Go.Proofs.YthgmphmghnonbaaDoor
/-- THE CARD. -/
theorem fnExactQueryRead_card : Rows.FnExactQueryReadCardSaid :=
  Claim7.holds_tied_plain_at .later [] _ _ _ _ fnExactQueryRead.said (fun _ h => by cases h) (by kernel_rfl) (fun _ h => by cases h) fnExactQueryRead_row_tie rfl ⟨rfl, rfl⟩ (by kernel_rfl) rfl fnExactQueryRead.plain (by kernel_rfl)
#print axioms fnExactQueryRead_card
end Go.Proofs.YthgmphmghnonbaaDoor
