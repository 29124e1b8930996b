/-
  FnExactDurations: for every Def and every list of Events the law returns true and writes nothing that was there: the row's proof over the walk 'fnExactDurations_walk', and its tied card. Condition: the five errors of impl hold each an error of its own, as the card ties them to the program's text.
-/
import Derived.Test.YthggcdadipjiiaaGreatDoorCards
import Derived.Test.YthggcdadipjiiaaGreatDoorTie
import Derived.Test.YthggcdadipjiiaaGreatDoorZAgg3
import Derived.Test.YthggcdadipjiiaaGreatDoorZStrs4
import Derived.Test.YthggcdadipjiiaaGreatDoorZNm4
import Derived.Test.YthggcdadipjiiaaGreatDoorZDuLaw
import Derived.WalkKit
import Derived.ProofKit
import Derived.OpenShut
import Derived.ShutString
import Derived.ChangeOld
import Derived.Carry
import Derived.Below
import Derived.OpenVars
import Derived.LaidMore
import Derived.LaidLaws
import Derived.Stop.LaidTwo
import Derived.Stop.Joined
namespace Go.Proofs.YthggcdadipjiiaaGreatDoor.fnExactDurations
open Go.ChangeShapes Go.WideShapes Go.ChangeAt Go.RowKit
set_option linter.unusedVariables false

theorem own : ownKnob Tryz.prog.godebug = none := by kernel_rfl
theorem laidOut : laidOutB Tryz.prog = true := by kernel_rfl
theorem star : "*" ++ "errors.errorString" = "*errors.errorString" := by decide
theorem rowE (u : TypeId) (h : Tryz.prog.typeName? 3 u = some "*errors.errorString") : u = 216 :=
  typeName_ptr_named (nm := "errors.errorString") (by rw [star]; kernel_rfl) (by kernel_rfl) (by decide) u (by rw [star]; exact h)
theorem g0 : Tryz.prog.globalNamed "loop.example/g00366/impl.errWrong" = some 0 := by kernel_rfl
theorem g1 : Tryz.prog.globalNamed "loop.example/g00366/impl.errStatus" = some 1 := by kernel_rfl
theorem g2 : Tryz.prog.globalNamed "loop.example/g00366/impl.errEarly" = some 2 := by kernel_rfl
theorem g3 : Tryz.prog.globalNamed "loop.example/g00366/impl.errNoMark" = some 3 := by kernel_rfl
theorem g4 : Tryz.prog.globalNamed "loop.example/g00366/impl.errFull" = some 4 := by kernel_rfl
theorem t0 : (Tryz.prog.globals[0]?).map (·.type) = some 144 := by kernel_rfl
theorem t1 : (Tryz.prog.globals[1]?).map (·.type) = some 144 := by kernel_rfl
theorem t2 : (Tryz.prog.globals[2]?).map (·.type) = some 144 := by kernel_rfl
theorem t3 : (Tryz.prog.globals[3]?).map (·.type) = some 144 := by kernel_rfl
theorem t4 : (Tryz.prog.globals[4]?).map (·.type) = some 144 := by kernel_rfl
theorem cE : Tryz.prog.cellsOf 240 = 1 := by kernel_rfl
theorem cS : Tryz.prog.cellsOf 9 = 1 := by kernel_rfl

set_option maxRecDepth 100000 in
/-- What the row's list gives. -/
theorem errs_of_laid {W : World} (h : laidMetH Tryz.prog Rows.fnExactDurationsRow.laid W) : ∃ e0 e1 e2 e3 e4, ErrsAt W e0 e1 e2 e3 e4 := by
  rw [MakeChecks.laidMetH_plain _ _ _ (by kernel_rfl)] at h
  obtain ⟨ps, ⟨_, _, cs0, f0, p0, q0, hg0, ht0, hv0, hd0, ⟨_, _, cs1, f1, p1, q1, hg1, ht1, hv1, hd1, ⟨_, _, cs2, f2, p2, q2, hg2, ht2, hv2, hd2, ⟨_, _, cs3, f3, p3, q3, hg3, ht3, hv3, hd3, ⟨_, _, cs4, f4, p4, q4, hg4, ht4, hv4, hd4, _, E4⟩, E3⟩, E2⟩, E1⟩, E0⟩, hnd, hrows⟩ := h
  obtain rfl := Option.some.inj (g0.symm.trans hg0)
  obtain rfl := Option.some.inj (g1.symm.trans hg1)
  obtain rfl := Option.some.inj (g2.symm.trans hg2)
  obtain rfl := Option.some.inj (g3.symm.trans hg3)
  obtain rfl := Option.some.inj (g4.symm.trans hg4)
  obtain rfl := Option.some.inj (t0.symm.trans ht0)
  obtain rfl := Option.some.inj (t1.symm.trans ht1)
  obtain rfl := Option.some.inj (t2.symm.trans ht2)
  obtain rfl := Option.some.inj (t3.symm.trans ht3)
  obtain rfl := Option.some.inj (t4.symm.trans ht4)
  subst E4
  subst E3
  subst E2
  subst E1
  subst E0
  obtain ⟨l0⟩ := cs0
  obtain ⟨l1⟩ := cs1
  obtain ⟨l2⟩ := cs2
  obtain ⟨l3⟩ := cs3
  obtain ⟨l4⟩ := cs4
  have ok0 : ∀ u v, l0 = [.iface u v] → Value.okWide Tryz.prog W .any 0 u v := fun u v e => by
    subst e
    exact (hrows 0 0 (by simp [MemPlace.row])).2 u v (by simpa using World.var?_cell g0 hv0 0)
  have ok1 : ∀ u v, l1 = [.iface u v] → Value.okWide Tryz.prog W .any 0 u v := fun u v e => by
    subst e
    exact (hrows 1 0 (by simp [MemPlace.row])).2 u v (by simpa using World.var?_cell g1 hv1 0)
  have ok2 : ∀ u v, l2 = [.iface u v] → Value.okWide Tryz.prog W .any 0 u v := fun u v e => by
    subst e
    exact (hrows 2 0 (by simp [MemPlace.row])).2 u v (by simpa using World.var?_cell g2 hv2 0)
  have ok3 : ∀ u v, l3 = [.iface u v] → Value.okWide Tryz.prog W .any 0 u v := fun u v e => by
    subst e
    exact (hrows 3 0 (by simp [MemPlace.row])).2 u v (by simpa using World.var?_cell g3 hv3 0)
  have ok4 : ∀ u v, l4 = [.iface u v] → Value.okWide Tryz.prog W .any 0 u v := fun u v e => by
    subst e
    exact (hrows 4 0 (by simp [MemPlace.row])).2 u v (by simpa using World.var?_cell g4 hv4 0)
  obtain ⟨a0, s0, rfl, _, _, _, rfl⟩ := errorString_of_trod Tryz.underlying144 rowE Tryz.underlying216 Tryz.underlying240 rfl rfl Tryz.underlying9 cE cS hd0 ok0
  obtain ⟨a1, s1, rfl, _, _, _, rfl⟩ := errorString_of_trod Tryz.underlying144 rowE Tryz.underlying216 Tryz.underlying240 rfl rfl Tryz.underlying9 cE cS hd1 ok1
  obtain ⟨a2, s2, rfl, _, _, _, rfl⟩ := errorString_of_trod Tryz.underlying144 rowE Tryz.underlying216 Tryz.underlying240 rfl rfl Tryz.underlying9 cE cS hd2 ok2
  obtain ⟨a3, s3, rfl, _, _, _, rfl⟩ := errorString_of_trod Tryz.underlying144 rowE Tryz.underlying216 Tryz.underlying240 rfl rfl Tryz.underlying9 cE cS hd3 ok3
  obtain ⟨a4, s4, rfl, _, _, _, rfl⟩ := errorString_of_trod Tryz.underlying144 rowE Tryz.underlying216 Tryz.underlying240 rfl rfl Tryz.underlying9 cE cS hd4 ok4
  have hz4 := World.var?_cell g4 hv4 0
  refine ⟨a0, a1, a2, a3, a4, ?_⟩
  constructor
  · simpa using World.var?_cell g0 hv0 0
  · simpa using World.var?_cell g1 hv1 0
  · simpa using World.var?_cell g2 hv2 0
  · simpa using World.var?_cell g3 hv3 0
  · simpa using World.var?_cell g4 hv4 0
  · exact (hrows a0.block a0.off (by simp [MemPlace.row])).1
  · exact (hrows a1.block a1.off (by simp [MemPlace.row])).1
  · exact (hrows a2.block a2.off (by simp [MemPlace.row])).1
  · exact (hrows a3.block a3.off (by simp [MemPlace.row])).1
  · exact (hrows a4.block a4.off (by simp [MemPlace.row])).1
  iterate 10
    · rintro rfl
      simp [MemPlace.row] at hnd
  · rcases Nat.lt_or_ge 4 W.heap.size with h' | h'
    · exact h'
    · unfold World.var? at hv4
      simp [g4, Array.getElem?_eq_none h'] at hv4
/-- The door's own heap meets the condition. -/
theorem door_met (os : Os) (args : Array Value) : laidMetH Tryz.prog Rows.fnExactDurationsRow.laid ((World.doorLaid Tryz.prog 400 os).forCall (fun _ _ => 0) ⟨#[], args, []⟩).memory :=
  laidMetH_of_parts3 (fuel := 8) (laidMet_of_run' 8 (by kernel_rfl) (by kernel_rfl)) (by kernel_rfl) (by kernel_rfl)

set_option maxRecDepth 100000 in
/-- A slice that came in points into the heap. -/
theorem slice_lt {W : World} {base : Nat} {t e : TypeId} (hu : Tryz.prog.underlying t = some (.slice e)) {a : Addr} {len cap : Nat} (h : Cell.okWide Tryz.prog W .any base t (.slice (some a) len cap)) : a.block < W.heap.size := by
  unfold Cell.okWide at h
  simp only [hu] at h
  unfold Cell.ok at h
  simp only [hu] at h
  obtain ⟨_, _, _, _, row, cells, hs, _⟩ := h
  rcases Nat.lt_or_ge a.block W.heap.size with h' | h'
  · exact h'
  · unfold World.shape? at hs
    simp [Array.getElem?_eq_none h'] at hs
set_option maxRecDepth 100000 in
/-- So do a Def's two. -/
theorem def_lt {W : World} {base : Nat} {a1 a2 : Option Addr} {n1 k1 n2 k2 : Nat} (hv : Value.okWide Tryz.prog W .any base 39 (.agg #[.slice a1 n1 k1, .slice a2 n2 k2])) :
    (∀ g o, a1 = some ⟨g, o, none⟩ → g < W.heap.size) ∧ ∀ g o, a2 = some ⟨g, o, none⟩ → g < W.heap.size := by
  unfold Value.okWide at hv
  rw [Tryz.underlying39] at hv
  obtain ⟨cs, hcs, _, ts, hts, _, hall⟩ := hv
  obtain rfl := (Value.agg.inj hcs)
  obtain rfl : ts = [23, 37] := Option.some.inj (hts.symm.trans (show Tryz.prog.cellTypes Tryz.prog.depth 39 = some [23, 37] by kernel_rfl))
  refine ⟨fun g o e => ?_, fun g o e => ?_⟩
  · subst e
    obtain ⟨u, hu, hc⟩ := hall 0 _ rfl
    obtain rfl : 23 = u := Option.some.inj hu
    exact slice_lt Tryz.underlying23 hc
  · subst e
    obtain ⟨u, hu, hc⟩ := hall 1 _ rfl
    obtain rfl : 37 = u := Option.some.inj hu
    exact slice_lt Tryz.underlying37 hc

set_option maxRecDepth 100000 in
theorem lifted (os : Os) (started : os.Started) (H : Type) (enc : TypeId × Value → H) :
    ReturnsInHanded {} Tryz.checked os 4 .any (fun w args => (Rows.fnExactDurationsSpec.pre enc Tryz.prog Tryz.f4 [] false w args ∧ laidMetH Tryz.prog Rows.fnExactDurationsRow.laid w) ∧ sizedMet enc Tryz.prog Tryz.f4 (OpenSpec.ofChange Rows.fnExactDurationsSpec) false w args)
      (Rows.fnExactDurationsSpec.post enc Tryz.prog Tryz.f4 false true false false) := by
  refine returnsInHanded_of_change_and (C := Tryz.checked) (X := fun w _ => laidMetH Tryz.prog Rows.fnExactDurationsRow.laid w) (fun _ _ _ hh h => h.of_heap hh) own started (by kernel_rfl) Tryz.func4
    (ChangeSpec.witness_shaped (enc := enc) (C := Tryz.checked) (os := os) (X := fun w _ => laidMetH Tryz.prog Rows.fnExactDurationsRow.laid w) false (World.doorLaid Tryz.prog 400 os) #[.agg #[.slice none 0 0, .slice none 0 0], .slice none 0 0] 8 rfl (World.shaped_of_RefB (by kernel_rfl) (by kernel_rfl)) (by kernel_rfl) (by kernel_rfl) (by kernel_rfl) (door_met os _)) ?_
  intro W base args ds gs before hval0 hW _ _ hL _
  have hval : ∀ (j : Nat) t v, Tryz.f4.params[j]? = some t → args[j]? = some v → Value.okWide Tryz.prog W .any base t v := hval0
  obtain ⟨e0, e1, e2, e3, e4, hg⟩ := errs_of_laid hL
  have hW' := hW
  obtain ⟨p, q, hA0, hV, rfl, hfz, hnd⟩ := hW
  have hA : DataW.TrodAll enc Tryz.prog W 0 (fun _ => true) true Tryz.f4.params.toList args.toList ds p := hA0
  rw [Tryz.params4] at hA hval
  obtain ⟨v0, vs0, d0, ds0, p0, q0, hargs, rfl, rfl, h0, r0⟩ := trodAll_cons hA
  obtain ⟨v1, vs1, d1, ds1, p1, q1, rfl, rfl, rfl, hs, r1⟩ := trodAll_cons r0
  obtain ⟨rfl, rfl, rfl⟩ := trodAll_nil r1
  obtain rfl : args = #[v0, v1] := by cases args; simp_all
  obtain ⟨y0, y1, y2, y3, y4, rfl⟩ : ∃ y0 y1 y2 y3 y4, gs = [y0, y1, y2, y3, y4] := by
    match gs, hV with
    | [y0, y1, y2, y3, y4], _ => exact ⟨y0, y1, y2, y3, y4, rfl⟩
  have h0k := h0
  obtain ⟨a1, a2, k1, k2, ss, fs, rfl, ⟨h1, F1, n1⟩, ⟨h2, F2, n2⟩⟩ := def_value Tryz.underlying39 (by kernel_rfl) (by kernel_rfl) Tryz.underlying23 Tryz.underlying9 (by kernel_rfl) Tryz.underlying37 Tryz.underlying115 (by kernel_rfl) (by kernel_rfl) Tryz.underlying9 Tryz.underlying9 (hval 0 39 v0 rfl rfl) h0
  have hlD := def_lt (hval 0 39 _ rfl rfl)
  obtain ⟨b0, len, cap, rfl⟩ := okWide_slice Tryz.underlying40 (hval 1 40 v1 rfl rfl)
  have hsk := hs
  obtain ⟨es, hE, hF, hN⟩ := evs_value Tryz.underlying40 Tryz.underlying73 (by kernel_rfl) (by kernel_rfl) Tryz.underlying2 Tryz.underlying2 Tryz.underlying2 Tryz.underlying2 Tryz.underlying9 Tryz.underlying9 hs
  obtain rfl : len = es.length := by
    rcases hE with ⟨_, _, e, rfl⟩ | ⟨_, _, _, e, _⟩
    · injection e
    · injection e
  have hlt : ∀ x ∈ p0, x.block < W.heap.size := fun x hx => hW'.lt x (by simp [hx])
  have hlt1 : ∀ x ∈ p1, x.block < W.heap.size := fun x hx => hW'.lt x (by simp [hx])
  clear hA0 hval0
  refine (fnExactDurations_walk a1 a2 b0 k1 k2 cap ss fs es e0 e1 e2 e3 e4 W ⟨h1, h2, hlD.1, hlD.2⟩ hE F1 F2 hF n1 n2 hN hg).mono fun e W' ⟨he, bel⟩ => ?_
  subst he
  exact ⟨_, rfl, _, _, _, [], _, q, hW', trodAll_mk1 (shut_bool Tryz.underlying4 _), (trodAll_cons_mk (Below.trod laidOut (by kernel_rfl) (of_decide_eq_true (by kernel_rfl)) h0k bel hlt) (trodAll_cons_mk (Below.trod laidOut (by kernel_rfl) (of_decide_eq_true (by kernel_rfl)) hsk bel hlt1) trodAll_mk0)), Below.trodVars laidOut bel (by kernel_rfl) hV, bel.frame _, fun h => by cases h⟩

theorem said : Rows.FnExactDurationsSaid :=
  OpenClaim.holds_of_wide 4 Tryz.f4 rfl rfl rfl rfl rfl rfl rfl ⟨rfl, rfl, rfl, rfl, rfl⟩ rfl rfl rfl rfl rfl (by kernel_rfl) Tryz.func4 (by kernel_rfl)
    (of_decide_eq_true (by kernel_rfl)) (by unfold Func.isWrapper; rw [if_neg (by decide +kernel)]; exact ⟨rfl, rfl⟩)
    (fun os started H enc _ => lifted os started H enc)

theorem plain (f : FuncId) (fn : Func) (hf : Tryz.pinned.checked.prog.funcNamed Rows.fnExactDurationsRow.func = some f) (hfn : Tryz.pinned.checked.prog.funcs[f]? = some fn) :
    true = Tryz.pinned.checked.prog.looks [] ∧ ∀ (j : Nat) t, fn.params[j]? = some t → Tryz.pinned.checked.prog.wantsStandIn t = false := by
  obtain rfl : f = 4 := Option.some.inj ((show Tryz.prog.funcNamed Rows.fnExactDurationsRow.func = some 4 by kernel_rfl).symm.trans hf) |>.symm
  obtain rfl : fn = Tryz.f4 := (Option.some.inj (Tryz.func4.symm.trans hfn)).symm
  refine ⟨by kernel_rfl, fun j t ht => ?_⟩
  rw [Tryz.params4] at ht
  have hm : t = 39 ∨ t = 40 := by simpa using Array.mem_of_getElem? ht
  rcases hm with rfl | rfl
  · exact (show Tryz.prog.wantsStandIn 39 = false by kernel_rfl)
  · exact (show Tryz.prog.wantsStandIn 40 = false by kernel_rfl)
end Go.Proofs.YthggcdadipjiiaaGreatDoor.fnExactDurations
namespace Go.Proofs.YthggcdadipjiiaaGreatDoor
/-- THE CARD. -/
theorem fnExactDurations_card : Rows.FnExactDurationsCardSaid :=
  Claim7.holds_tied_plain_at .later [] _ _ _ _ fnExactDurations.said (fun _ h => by cases h) (by kernel_rfl) (fun _ h => by cases h) fnExactDurations_row_tie rfl ⟨rfl, rfl⟩ (by kernel_rfl) rfl fnExactDurations.plain (by kernel_rfl)
#print axioms fnExactDurations_card
end Go.Proofs.YthggcdadipjiiaaGreatDoor
