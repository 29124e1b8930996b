/-
  FnDurations: for every slice of bytes the law returns true and writes nothing that was there: the row's proof over the walk 'fnDurations_walk', and its tied card. Condition: the five errors of impl hold each an error of its own, as the card ties them to the program's text.
-/
import Derived.Test.YthggcdadipjiiaaGreatDoorCards
import Derived.Test.YthggcdadipjiiaaGreatDoorTie
import Derived.Test.YthggcdadipjiiaaGreatDoorZGen4
import Derived.Test.YthggcdadipjiiaaGreatDoorZFdLaw
import Derived.WalkKit
import Derived.ProofKit
import Derived.OpenShut
import Derived.ShutString
import Derived.ChangeOld
import Derived.Carry
import Derived.Below
import Derived.OpenVars
import Derived.LaidMore
import Derived.LaidLaws
import Derived.Stop.LaidTwo
import Derived.Stop.Joined
namespace Go.Proofs.YthggcdadipjiiaaGreatDoor
open Go.RowKit
set_option maxRecDepth 100000 in
theorem fnDurations_big (a1 : Option Addr) (n1 c1 : Nat) (w : World) (hb : ¬ (n1 : Int) ≤ 1048576) :
    Calls Tryz.prog 3 #[.slice a1 n1 c1] w fun e w' => e = .returned (.bool true) ∧ Below w.heap.size w w' := by
  have h1 : (1048576 : Int) < n1 := by omega
  clear hb
  go_enter Tryz.func3, Tryz.ntmps3
  go_wp2
  go_ret
  exact ⟨rfl, Below.refl _ _⟩
theorem fnDurations_all (p1 : Option Addr) (n1 c1 : Nat) (w : World) (h1 : n1 ≤ 1048576 → Bs w (.slice p1 n1 c1) n1) (e0 e1 e2 e3 e4 : Addr) (hEr : ErrsAt w e0 e1 e2 e3 e4) :
    Calls Tryz.prog 3 #[.slice p1 n1 c1] w fun e w' => e = .returned (.bool true) ∧ Below w.heap.size w w' := by
  by_cases hn : (n1 : Int) ≤ 1048576
  · exact fnDurations_walk p1 n1 c1 w (h1 (by omega)) hn e0 e1 e2 e3 e4 hEr
  · exact fnDurations_big p1 n1 c1 w hn
end Go.Proofs.YthggcdadipjiiaaGreatDoor
namespace Go.Proofs.YthggcdadipjiiaaGreatDoor.fnDurations
open Go.ChangeShapes Go.WideShapes Go.ChangeAt Go.RowKit
set_option linter.unusedVariables false

theorem own : ownKnob Tryz.prog.godebug = none := by kernel_rfl
theorem laidOut : laidOutB Tryz.prog = true := by kernel_rfl
theorem star : "*" ++ "errors.errorString" = "*errors.errorString" := by decide
theorem rowE (u : TypeId) (h : Tryz.prog.typeName? 3 u = some "*errors.errorString") : u = 216 :=
  typeName_ptr_named (nm := "errors.errorString") (by rw [star]; kernel_rfl) (by kernel_rfl) (by decide) u (by rw [star]; exact h)
theorem g0 : Tryz.prog.globalNamed "loop.example/g00366/impl.errWrong" = some 0 := by kernel_rfl
theorem g1 : Tryz.prog.globalNamed "loop.example/g00366/impl.errStatus" = some 1 := by kernel_rfl
theorem g2 : Tryz.prog.globalNamed "loop.example/g00366/impl.errEarly" = some 2 := by kernel_rfl
theorem g3 : Tryz.prog.globalNamed "loop.example/g00366/impl.errNoMark" = some 3 := by kernel_rfl
theorem g4 : Tryz.prog.globalNamed "loop.example/g00366/impl.errFull" = some 4 := by kernel_rfl
theorem t0 : (Tryz.prog.globals[0]?).map (·.type) = some 144 := by kernel_rfl
theorem t1 : (Tryz.prog.globals[1]?).map (·.type) = some 144 := by kernel_rfl
theorem t2 : (Tryz.prog.globals[2]?).map (·.type) = some 144 := by kernel_rfl
theorem t3 : (Tryz.prog.globals[3]?).map (·.type) = some 144 := by kernel_rfl
theorem t4 : (Tryz.prog.globals[4]?).map (·.type) = some 144 := by kernel_rfl
theorem cE : Tryz.prog.cellsOf 240 = 1 := by kernel_rfl
theorem cS : Tryz.prog.cellsOf 9 = 1 := by kernel_rfl

set_option maxRecDepth 100000 in
/-- What the row's list gives. -/
theorem errs_of_laid {W : World} (h : laidMetH Tryz.prog Rows.fnDurationsRow.laid W) : ∃ e0 e1 e2 e3 e4, ErrsAt W e0 e1 e2 e3 e4 := by
  rw [MakeChecks.laidMetH_plain _ _ _ (by kernel_rfl)] at h
  obtain ⟨ps, ⟨_, _, cs0, f0, p0, q0, hg0, ht0, hv0, hd0, ⟨_, _, cs1, f1, p1, q1, hg1, ht1, hv1, hd1, ⟨_, _, cs2, f2, p2, q2, hg2, ht2, hv2, hd2, ⟨_, _, cs3, f3, p3, q3, hg3, ht3, hv3, hd3, ⟨_, _, cs4, f4, p4, q4, hg4, ht4, hv4, hd4, _, E4⟩, E3⟩, E2⟩, E1⟩, E0⟩, hnd, hrows⟩ := h
  obtain rfl := Option.some.inj (g0.symm.trans hg0)
  obtain rfl := Option.some.inj (g1.symm.trans hg1)
  obtain rfl := Option.some.inj (g2.symm.trans hg2)
  obtain rfl := Option.some.inj (g3.symm.trans hg3)
  obtain rfl := Option.some.inj (g4.symm.trans hg4)
  obtain rfl := Option.some.inj (t0.symm.trans ht0)
  obtain rfl := Option.some.inj (t1.symm.trans ht1)
  obtain rfl := Option.some.inj (t2.symm.trans ht2)
  obtain rfl := Option.some.inj (t3.symm.trans ht3)
  obtain rfl := Option.some.inj (t4.symm.trans ht4)
  subst E4
  subst E3
  subst E2
  subst E1
  subst E0
  obtain ⟨l0⟩ := cs0
  obtain ⟨l1⟩ := cs1
  obtain ⟨l2⟩ := cs2
  obtain ⟨l3⟩ := cs3
  obtain ⟨l4⟩ := cs4
  have ok0 : ∀ u v, l0 = [.iface u v] → Value.okWide Tryz.prog W .any 0 u v := fun u v e => by
    subst e
    exact (hrows 0 0 (by simp [MemPlace.row])).2 u v (by simpa using World.var?_cell g0 hv0 0)
  have ok1 : ∀ u v, l1 = [.iface u v] → Value.okWide Tryz.prog W .any 0 u v := fun u v e => by
    subst e
    exact (hrows 1 0 (by simp [MemPlace.row])).2 u v (by simpa using World.var?_cell g1 hv1 0)
  have ok2 : ∀ u v, l2 = [.iface u v] → Value.okWide Tryz.prog W .any 0 u v := fun u v e => by
    subst e
    exact (hrows 2 0 (by simp [MemPlace.row])).2 u v (by simpa using World.var?_cell g2 hv2 0)
  have ok3 : ∀ u v, l3 = [.iface u v] → Value.okWide Tryz.prog W .any 0 u v := fun u v e => by
    subst e
    exact (hrows 3 0 (by simp [MemPlace.row])).2 u v (by simpa using World.var?_cell g3 hv3 0)
  have ok4 : ∀ u v, l4 = [.iface u v] → Value.okWide Tryz.prog W .any 0 u v := fun u v e => by
    subst e
    exact (hrows 4 0 (by simp [MemPlace.row])).2 u v (by simpa using World.var?_cell g4 hv4 0)
  obtain ⟨a0, s0, rfl, _, _, _, rfl⟩ := errorString_of_trod Tryz.underlying144 rowE Tryz.underlying216 Tryz.underlying240 rfl rfl Tryz.underlying9 cE cS hd0 ok0
  obtain ⟨a1, s1, rfl, _, _, _, rfl⟩ := errorString_of_trod Tryz.underlying144 rowE Tryz.underlying216 Tryz.underlying240 rfl rfl Tryz.underlying9 cE cS hd1 ok1
  obtain ⟨a2, s2, rfl, _, _, _, rfl⟩ := errorString_of_trod Tryz.underlying144 rowE Tryz.underlying216 Tryz.underlying240 rfl rfl Tryz.underlying9 cE cS hd2 ok2
  obtain ⟨a3, s3, rfl, _, _, _, rfl⟩ := errorString_of_trod Tryz.underlying144 rowE Tryz.underlying216 Tryz.underlying240 rfl rfl Tryz.underlying9 cE cS hd3 ok3
  obtain ⟨a4, s4, rfl, _, _, _, rfl⟩ := errorString_of_trod Tryz.underlying144 rowE Tryz.underlying216 Tryz.underlying240 rfl rfl Tryz.underlying9 cE cS hd4 ok4
  have hz4 := World.var?_cell g4 hv4 0
  refine ⟨a0, a1, a2, a3, a4, ?_⟩
  constructor
  · simpa using World.var?_cell g0 hv0 0
  · simpa using World.var?_cell g1 hv1 0
  · simpa using World.var?_cell g2 hv2 0
  · simpa using World.var?_cell g3 hv3 0
  · simpa using World.var?_cell g4 hv4 0
  · exact (hrows a0.block a0.off (by simp [MemPlace.row])).1
  · exact (hrows a1.block a1.off (by simp [MemPlace.row])).1
  · exact (hrows a2.block a2.off (by simp [MemPlace.row])).1
  · exact (hrows a3.block a3.off (by simp [MemPlace.row])).1
  · exact (hrows a4.block a4.off (by simp [MemPlace.row])).1
  iterate 10
    · rintro rfl
      simp [MemPlace.row] at hnd
  · rcases Nat.lt_or_ge 4 W.heap.size with h' | h'
    · exact h'
    · unfold World.var? at hv4
      simp [g4, Array.getElem?_eq_none h'] at hv4
/-- The door's own heap meets the condition. -/
theorem door_met (os : Os) (args : Array Value) : laidMetH Tryz.prog Rows.fnDurationsRow.laid ((World.doorLaid Tryz.prog 400 os).forCall (fun _ _ => 0) ⟨#[], args, []⟩).memory :=
  laidMetH_of_parts3 (fuel := 8) (laidMet_of_run' 8 (by kernel_rfl) (by kernel_rfl)) (by kernel_rfl) (by kernel_rfl)

set_option maxRecDepth 100000 in
theorem lifted (os : Os) (started : os.Started) (H : Type) (enc : TypeId × Value → H) :
    ReturnsInHanded {} Tryz.checked os 3 .any (fun w args => (Rows.fnDurationsSpec.pre enc Tryz.prog Tryz.f3 [] false w args ∧ laidMetH Tryz.prog Rows.fnDurationsRow.laid w) ∧ sizedMet enc Tryz.prog Tryz.f3 (OpenSpec.ofChange Rows.fnDurationsSpec) false w args)
      (Rows.fnDurationsSpec.post enc Tryz.prog Tryz.f3 false true false false) := by
  refine returnsInHanded_of_change_and (C := Tryz.checked) (X := fun w _ => laidMetH Tryz.prog Rows.fnDurationsRow.laid w) (fun _ _ _ hh h => h.of_heap hh) own started (by kernel_rfl) Tryz.func3
    (ChangeSpec.witness_shaped (enc := enc) (C := Tryz.checked) (os := os) (X := fun w _ => laidMetH Tryz.prog Rows.fnDurationsRow.laid w) false (World.doorLaid Tryz.prog 400 os) #[.slice none 0 0] 8 rfl (World.shaped_of_RefB (by kernel_rfl) (by kernel_rfl)) (by kernel_rfl) (by kernel_rfl) (by kernel_rfl) (door_met os _)) ?_
  intro W base args ds gs before hval0 hW _ _ hL _
  have hval : ∀ (j : Nat) t v, Tryz.f3.params[j]? = some t → args[j]? = some v → Value.okWide Tryz.prog W .any base t v := hval0
  obtain ⟨e0, e1, e2, e3, e4, hg⟩ := errs_of_laid hL
  have hW' := hW
  obtain ⟨p, q, hA0, hV, rfl, hfz, hnd⟩ := hW
  have hA : DataW.TrodAll enc Tryz.prog W 0 (fun _ => true) true Tryz.f3.params.toList args.toList ds p := hA0
  rw [Tryz.params3] at hA hval
  obtain ⟨v0, vs0, d0, ds0, p0, q0, hargs, rfl, rfl, h0, r0⟩ := trodAll_cons hA
  obtain ⟨rfl, rfl, rfl⟩ := trodAll_nil r0
  obtain rfl : args = #[v0] := by cases args; simp_all
  obtain ⟨y0, y1, y2, y3, y4, rfl⟩ : ∃ y0 y1 y2 y3 y4, gs = [y0, y1, y2, y3, y4] := by
    match gs, hV with
    | [y0, y1, y2, y3, y4], _ => exact ⟨y0, y1, y2, y3, y4, rfl⟩
  have h0k := h0
  obtain ⟨a0, len0, cap0, rfl⟩ := okWide_slice Tryz.underlying22 (hval 0 22 v0 rfl rfl)
  have hlt : ∀ x ∈ p0, x.block < W.heap.size := fun x hx => hW'.lt x (by simp [hx])
  clear hA0 hval0
  refine (fnDurations_all a0 len0 cap0 W (fun h => bs_value Tryz.underlying22 Tryz.underlying5 (by kernel_rfl) h0k h) e0 e1 e2 e3 e4 hg).mono fun e W' ⟨he, bel⟩ => ?_
  subst he
  exact ⟨_, rfl, _, _, _, [], _, q, hW', trodAll_mk1 (shut_bool Tryz.underlying4 _), (trodAll_cons_mk (Below.trod laidOut (by kernel_rfl) (of_decide_eq_true (by kernel_rfl)) h0k bel hlt) trodAll_mk0), Below.trodVars laidOut bel (by kernel_rfl) hV, bel.frame _, fun h => by cases h⟩

theorem said : Rows.FnDurationsSaid :=
  OpenClaim.holds_of_wide 3 Tryz.f3 rfl rfl rfl rfl rfl rfl rfl ⟨rfl, rfl, rfl, rfl, rfl⟩ rfl rfl rfl rfl rfl (by kernel_rfl) Tryz.func3 (by kernel_rfl)
    (of_decide_eq_true (by kernel_rfl)) (by unfold Func.isWrapper; rw [if_neg (by decide +kernel)]; exact ⟨rfl, rfl⟩)
    (fun os started H enc _ => lifted os started H enc)

theorem plain (f : FuncId) (fn : Func) (hf : Tryz.pinned.checked.prog.funcNamed Rows.fnDurationsRow.func = some f) (hfn : Tryz.pinned.checked.prog.funcs[f]? = some fn) :
    true = Tryz.pinned.checked.prog.looks [] ∧ ∀ (j : Nat) t, fn.params[j]? = some t → Tryz.pinned.checked.prog.wantsStandIn t = false := by
  obtain rfl : f = 3 := Option.some.inj ((show Tryz.prog.funcNamed Rows.fnDurationsRow.func = some 3 by kernel_rfl).symm.trans hf) |>.symm
  obtain rfl : fn = Tryz.f3 := (Option.some.inj (Tryz.func3.symm.trans hfn)).symm
  refine ⟨by kernel_rfl, fun j t ht => ?_⟩
  rw [Tryz.params3] at ht
  obtain rfl : t = 22 := by simpa using Array.mem_of_getElem? ht
  exact (show Tryz.prog.wantsStandIn 22 = false by kernel_rfl)
end Go.Proofs.YthggcdadipjiiaaGreatDoor.fnDurations
namespace Go.Proofs.YthggcdadipjiiaaGreatDoor
/-- THE CARD. -/
theorem fnDurations_card : Rows.FnDurationsCardSaid :=
  Claim7.holds_tied_plain_at .later [] _ _ _ _ fnDurations.said (fun _ h => by cases h) (by kernel_rfl) (fun _ h => by cases h) fnDurations_row_tie rfl ⟨rfl, rfl⟩ (by kernel_rfl) rfl fnDurations.plain (by kernel_rfl)
#print axioms fnDurations_card
end Go.Proofs.YthggcdadipjiiaaGreatDoor
