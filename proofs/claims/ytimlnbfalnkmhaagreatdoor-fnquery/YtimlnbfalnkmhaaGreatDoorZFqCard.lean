/-
  FnQuery: for every two slices of bytes the law returns true and writes nothing that was there: the row's proof over the walk 'fnQuery_walk', and its tied card. Condition: impl.kindNames holds the six names, impl.errWord an error of its own, internal/strconv.uint64pow10 the powers of ten, as the card ties them to the program's text.
-/
import Derived.Test.YtimlnbfalnkmhaaGreatDoorCards
import Derived.Test.YtimlnbfalnkmhaaGreatDoorTie
import Derived.Test.YtimlnbfalnkmhaaGreatDoorZFqLaw
import Derived.Test.YtimlnbfalnkmhaaGreatDoorZBsIn2
import Derived.WalkKit
import Derived.ProofKit
import Derived.OpenShut
import Derived.ChangeOld
import Derived.Carry
import Derived.Below
import Derived.OpenVars
import Derived.LaidMore
import Derived.LaidLaws
import Derived.Stop.LaidTwo
import Derived.Lib.LaidTab
import Derived.Stop.Joined
namespace Go.Proofs.YtimlnbfalnkmhaaGreatDoor
open Go.RowKit

theorem fnQuery_walk {ae : Addr} (a1 a2 : Option Addr) (n1 n2 c1 c2 : Nat) (w : World) (hA : n1 ≤ 1048576 → Bs w (.slice a1 n1 c1) n1) (hM : n2 ≤ 1048576 → Bs w (.slice a2 n2 c2) n2) (hK : KNames w) (hT : PowTab w) (her : w.cell? ⟨0, 0, none⟩ = some (errQ ae)) :
    Calls Tryz.prog 3 #[.slice a1 n1 c1, .slice a2 n2 c2] w fun e w' => e = .returned (.bool true) ∧ Below w.heap.size w w' := by
  by_cases hb : (n1 : Int) ≤ 1048576 ∧ (n2 : Int) ≤ 1048576
  · exact fnQuery_in a1 a2 n1 n2 c1 c2 w hb.1 hb.2 (hA (by omega)) (hM (by omega)) hK hT her
  · exact fnQuery_big a1 a2 n1 n2 c1 c2 w hb
end Go.Proofs.YtimlnbfalnkmhaaGreatDoor
namespace Go.Proofs.YtimlnbfalnkmhaaGreatDoor.fnQuery
open Go.ChangeShapes Go.WideShapes Go.ChangeAt Go.RowKit
set_option linter.unusedVariables false

theorem own : ownKnob Tryz.prog.godebug = none := by kernel_rfl
theorem laidOut : laidOutB Tryz.prog = true := by kernel_rfl
theorem star : "*" ++ "errors.errorString" = "*errors.errorString" := by decide
theorem rowE (u : TypeId) (h : Tryz.prog.typeName? 3 u = some "*errors.errorString") : u = 259 :=
  typeName_ptr_named (nm := "errors.errorString") (by rw [star]; kernel_rfl) (by kernel_rfl) (by decide) u (by rw [star]; exact h)
theorem gErr : Tryz.prog.globalNamed "loop.example/g00366/impl.errWord" = some 0 := by kernel_rfl
theorem tErr : (Tryz.prog.globals[0]?).map (·.type) = some 122 := by kernel_rfl
theorem cE : Tryz.prog.cellsOf 275 = 1 := by kernel_rfl
theorem gPow : Tryz.prog.globalNamed "internal/strconv.uint64pow10" = some 3 := by kernel_rfl
theorem tPow : (Tryz.prog.globals[3]?).map (·.type) = some 225 := by kernel_rfl
set_option maxRecDepth 100000 in
/-- What the row's list gives: the names' six cells, the powers of ten, and the error's one. -/
theorem both_of_laid {W : World} (h : laidMetH Tryz.prog Rows.fnQueryRow.laid W) : KNames W ∧ PowTab W ∧ ∃ a, W.cell? ⟨0, 0, none⟩ = some (errQ a) := by
  rw [MakeChecks.laidMetH_plain _ _ _ (by kernel_rfl)] at h
  obtain ⟨ps, ⟨_, _, csa, fa, pa, qa, hga, hta, hva, hda, ⟨_, _, csb, fb, pb, qb, hgb, htb, hvb, hdb, ⟨_, _, csT, fT, pT, qT, hgT, htT, hvT, hdT, ⟨_, _, cs0, f0, p0, q0, hg0, ht0, hv0, hd0, ⟨_, _, cs1, f1, p1, q1, hg1, ht1, hv1, hd1, _, E1⟩, E0⟩, ET⟩, Eb⟩, Ea⟩, hnd, hrows⟩ := h
  obtain rfl := Option.some.inj (gPow.symm.trans hgT)
  obtain rfl := Option.some.inj (tPow.symm.trans htT)
  obtain rfl := Option.some.inj (gNames.symm.trans hg0)
  obtain rfl := Option.some.inj (tNames.symm.trans ht0)
  obtain rfl := Option.some.inj (gErr.symm.trans hg1)
  obtain rfl := Option.some.inj (tErr.symm.trans ht1)
  subst E1
  subst E0
  subst ET
  subst Eb
  subst Ea
  refine ⟨?_, ?_, ?_⟩
  · have hcs := cells_of_strs (ss := [[115, 116, 97, 114, 116], [101, 110, 116, 101, 114], [108, 101, 97, 118, 101], [115, 101, 116], [102, 97, 117, 108, 116], [101, 110, 100]]) Tryz.underlying209 Tryz.underlying9 (congrArg Prod.fst kCells) (congrArg Prod.snd kCells) hd0
    have hcell := fun i => World.var?_cell gNames hv0 i
    have ha : ∀ i : Nat, cs0[i]? = cs0.toList[i]? := fun i => Array.getElem?_toList.symm
    constructor
    all_goals
      rw [hcell, ha, hcs]
      rfl
  · have hcT := Lib.cells_of_tab (zs := Lib.pow10Tab) Tryz.underlying225 Tryz.underlying112 (by kernel_rfl) (by kernel_rfl) hdT
    unfold PowTab Lib.TabIs
    rw [hvT, ← hcT]
  · obtain ⟨l1⟩ := cs1
    have ok1 : ∀ u v, l1 = [.iface u v] → Value.okWide Tryz.prog W .any 0 u v := fun u v e => by
      subst e
      exact (hrows 0 0 (by simp [MemPlace.row])).2 u v (by simpa using World.var?_cell gErr hv1 0)
    obtain ⟨a1, s1, rfl, _, _, _, rfl⟩ := errorString_of_trod Tryz.underlying122 rowE Tryz.underlying259 Tryz.underlying275 rfl rfl Tryz.underlying9 cE (congrArg Prod.fst kCells) hd1 ok1
    exact ⟨a1, by simpa using World.var?_cell gErr hv1 0⟩
/-- The door's own heap meets the condition. -/
theorem door_met (os : Os) (args : Array Value) : laidMetH Tryz.prog Rows.fnQueryRow.laid ((World.doorLaid Tryz.prog 400 os).forCall (fun _ _ => 0) ⟨#[], args, []⟩).memory :=
  laidMetH_of_parts3 (fuel := 8) (laidMet_of_run' 8 (by kernel_rfl) (by kernel_rfl)) (by kernel_rfl) (by kernel_rfl)

set_option maxRecDepth 100000 in
theorem lifted (os : Os) (started : os.Started) (H : Type) (enc : TypeId × Value → H) :
    ReturnsInHanded {} Tryz.checked os 3 .any (fun w args => (Rows.fnQuerySpec.pre enc Tryz.prog Tryz.f3 [] false w args ∧ laidMetH Tryz.prog Rows.fnQueryRow.laid w) ∧ sizedMet enc Tryz.prog Tryz.f3 (OpenSpec.ofChange Rows.fnQuerySpec) false w args)
      (Rows.fnQuerySpec.post enc Tryz.prog Tryz.f3 false true false false) := by
  refine returnsInHanded_of_change_and (C := Tryz.checked) (X := fun w _ => laidMetH Tryz.prog Rows.fnQueryRow.laid w) (fun _ _ _ hh h => h.of_heap hh) own started (by kernel_rfl) Tryz.func3
    (ChangeSpec.witness_shaped (enc := enc) (C := Tryz.checked) (os := os) (X := fun w _ => laidMetH Tryz.prog Rows.fnQueryRow.laid w) false (World.doorLaid Tryz.prog 400 os) #[.slice none 0 0, .slice none 0 0] 8 rfl (World.shaped_of_RefB (by kernel_rfl) (by kernel_rfl)) (by kernel_rfl) (by kernel_rfl) (by kernel_rfl) (door_met os _)) ?_
  intro W base args ds gs before hval0 hW _ _ hL _
  have hval : ∀ (j : Nat) t v, Tryz.f3.params[j]? = some t → args[j]? = some v → Value.okWide Tryz.prog W .any base t v := hval0
  obtain ⟨hK, hPw, e1, her⟩ := both_of_laid hL
  have hW' := hW
  obtain ⟨p, q, hA0, hV, rfl, hfz, hnd⟩ := hW
  have hA : DataW.TrodAll enc Tryz.prog W 0 (fun _ => true) true Tryz.f3.params.toList args.toList ds p := hA0
  rw [Tryz.params3] at hA hval
  obtain ⟨v0, vs0, d0, ds0, p0, q0, hargs, rfl, rfl, h0, r0⟩ := trodAll_cons hA
  obtain ⟨v1, vs1, d1, ds1, p1, q1, rfl, rfl, rfl, h1, r1⟩ := trodAll_cons r0
  obtain ⟨rfl, rfl, rfl⟩ := trodAll_nil r1
  obtain rfl : args = #[v0, v1] := by cases args; simp_all
  obtain ⟨y0, y1, rfl⟩ : ∃ y0 y1, gs = [y0, y1] := by
    match gs, hV with
    | [y0, y1], _ => exact ⟨y0, y1, rfl⟩
  have h0k := h0
  have h1k := h1
  obtain ⟨a0, len0, cap0, rfl⟩ := okWide_slice Tryz.underlying22 (hval 0 22 v0 rfl rfl)
  obtain ⟨a1, len1, cap1, rfl⟩ := okWide_slice Tryz.underlying22 (hval 1 22 v1 rfl rfl)
  have hlt0 : ∀ x ∈ p0, x.block < W.heap.size := fun x hx => hW'.lt x (by simp [hx])
  have hlt1 : ∀ x ∈ p1, x.block < W.heap.size := fun x hx => hW'.lt x (by simp [hx])
  clear hA0 hval0
  refine (fnQuery_walk a0 a1 len0 len1 cap0 cap1 W (fun h => bs_value Tryz.underlying22 Tryz.underlying5 (by kernel_rfl) h0k h) (fun h => bs_value Tryz.underlying22 Tryz.underlying5 (by kernel_rfl) h1k h) hK hPw her).mono fun e W' ⟨he, bel⟩ => ?_
  subst he
  exact ⟨_, rfl, _, _, _, [], _, q, hW', trodAll_mk1 (shut_bool Tryz.underlying4 _), (trodAll_cons_mk (Below.trod laidOut (by kernel_rfl) (of_decide_eq_true (by kernel_rfl)) h0k bel hlt0) (trodAll_cons_mk (Below.trod laidOut (by kernel_rfl) (of_decide_eq_true (by kernel_rfl)) h1k bel hlt1) trodAll_mk0)), Below.trodVars laidOut bel (by kernel_rfl) hV, bel.frame _, fun h => by cases h⟩

theorem said : Rows.FnQuerySaid :=
  OpenClaim.holds_of_wide 3 Tryz.f3 rfl rfl rfl rfl rfl rfl rfl ⟨rfl, rfl, rfl, rfl, rfl⟩ rfl rfl rfl rfl rfl (by kernel_rfl) Tryz.func3 (by kernel_rfl)
    (of_decide_eq_true (by kernel_rfl)) (by unfold Func.isWrapper; rw [if_neg (by decide +kernel)]; exact ⟨rfl, rfl⟩)
    (fun os started H enc _ => lifted os started H enc)

theorem plain (f : FuncId) (fn : Func) (hf : Tryz.pinned.checked.prog.funcNamed Rows.fnQueryRow.func = some f) (hfn : Tryz.pinned.checked.prog.funcs[f]? = some fn) :
    true = Tryz.pinned.checked.prog.looks [] ∧ ∀ (j : Nat) t, fn.params[j]? = some t → Tryz.pinned.checked.prog.wantsStandIn t = false := by
  obtain rfl : f = 3 := Option.some.inj ((show Tryz.prog.funcNamed Rows.fnQueryRow.func = some 3 by kernel_rfl).symm.trans hf) |>.symm
  obtain rfl : fn = Tryz.f3 := (Option.some.inj (Tryz.func3.symm.trans hfn)).symm
  refine ⟨by kernel_rfl, fun j t ht => ?_⟩
  rw [Tryz.params3] at ht
  obtain rfl : t = 22 := by simpa using Array.mem_of_getElem? ht
  exact (show Tryz.prog.wantsStandIn 22 = false by kernel_rfl)
end Go.Proofs.YtimlnbfalnkmhaaGreatDoor.fnQuery
namespace Go.Proofs.YtimlnbfalnkmhaaGreatDoor
/-- THE CARD. -/
theorem fnQuery_card : Rows.FnQueryCardSaid :=
  Claim7.holds_tied_plain_at .later [] _ _ _ _ fnQuery.said (fun _ h => by cases h) (by kernel_rfl) (fun _ h => by cases h) fnQuery_row_tie rfl ⟨rfl, rfl⟩ (by kernel_rfl) rfl fnQuery.plain (by kernel_rfl)
#print axioms fnQuery_card
end Go.Proofs.YtimlnbfalnkmhaaGreatDoor
