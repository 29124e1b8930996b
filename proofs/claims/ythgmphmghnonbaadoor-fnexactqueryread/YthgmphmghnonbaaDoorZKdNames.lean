/-
  A listed table of texts, its cells; what the rows' list gives: impl.kindNames holds the six names. Of no function: laws of reading.
-/
import Derived.Test.YthgmphmghnonbaaDoorRows
import Derived.Test.YthgmphmghnonbaaDoorZKd
import Derived.Lib.LaidTab
import Derived.OpenShut
import Derived.WalkKit
import Derived.ProofKit
import Derived.OpenVars
import Derived.LaidMore
import Derived.LaidLaws
import Derived.Stop.Joined
namespace Go.Proofs.YthgmphmghnonbaaDoor
open Go.ChangeShapes Go.WideShapes Go.RowKit

def strsData {H : Type} (ss : List (List UInt8)) : DataW H := .agg (ss.map fun s => .lit (.string s))
theorem str_of_list (s : ByteArray) : (⟨s.data.toList.toArray⟩ : ByteArray) = s := by
  cases s; rfl
/-- An array of texts that reads as the table holds the table's texts, cell for cell. -/
theorem cells_of_strs {H : Type} {enc : TypeId × Value → H} {P : Program} {w : World} {base : Nat} {sp : Nat → Bool} {held : Bool} {fuel : Nat} {t e : TypeId} {n : Nat} {cs : List Value} {ss : List (List UInt8)} {p : List MemPlace}
    (ht : P.underlying t = some (.array n e)) (he : P.underlying e = some .string) (hce : P.cellsOf e = 1) (hct : P.cellsOf t = n)
    (h : DataW.trod enc P w base sp held fuel t cs = some (strsData ss, p)) : cs = ss.map fun s => Value.string ⟨s.toArray⟩ := by
  obtain ⟨xs, m, _, hx, hlen, hn, hel⟩ := DataW.trod_array ht h
  have hxs : xs.map (·.1) = ss.map fun s => (DataW.lit (.string s) : DataW H) := by
    have := congrArg Prod.fst hx
    simpa [strsData] using this.symm
  have hsl : ss.length = n := by
    have := congrArg List.length hxs
    simp at this
    omega
  apply List.ext_getElem?
  intro i
  by_cases hi : i < n
  · have hf := hel i hi
    rw [hce, List.getElem?_eq_getElem (by omega)] at hf
    obtain ⟨z, hc, e2, _⟩ := DataW.trod_string he hf
    have h1 : cs[i]? = some (.string z) := by
      have := congrArg (·[0]?) hc
      simpa [List.getElem?_take, List.getElem?_drop] using this
    have h2 : (xs.map (·.1))[i]? = some (DataW.lit (.string z.data.toList) : DataW H) := by
      rw [List.getElem?_map, List.getElem?_eq_getElem (by omega)]
      simp [e2]
    rw [hxs] at h2
    simp only [List.getElem?_map, Option.map_eq_some_iff, DataW.lit.injEq, Lit.string.injEq] at h2
    obtain ⟨z', hz', e3⟩ := h2
    rw [h1, List.getElem?_map, hz', e3, Option.map_some, str_of_list]
  · rw [List.getElem?_eq_none (by omega), List.getElem?_eq_none (by simp; omega)]
end Go.Proofs.YthgmphmghnonbaaDoor
namespace Go.Proofs.YthgmphmghnonbaaDoor
open Go.ChangeShapes Go.WideShapes Go.ChangeAt Go.RowKit
set_option linter.unusedVariables false

theorem gNames : Tryd.prog.globalNamed "loop.example/g00366/impl.kindNames" = some 1 := by kernel_rfl
theorem tNames : (Tryd.prog.globals[1]?).map (·.type) = some 78 := by kernel_rfl
theorem kCells : (Tryd.prog.cellsOf 9, Tryd.prog.cellsOf 78) = (1, 6) := by kernel_rfl
/-- What the row's list gives: the variable's six cells. -/
theorem names_of_laid {W : World} (h : laidMetH Tryd.prog [("loop.example/g00366/impl.kindNames", Rows.laid_loop_example_g00366_impl_kindNames)] W) : KNames W := by
  rw [MakeChecks.laidMetH_plain _ _ _ (by kernel_rfl)] at h
  obtain ⟨ps, ⟨g0, t0, cs0, f0, p0, q0, hg0, ht0, hv0, hd0, _⟩, _, _⟩ := h
  obtain rfl := Option.some.inj (gNames.symm.trans hg0)
  obtain rfl := Option.some.inj (tNames.symm.trans ht0)
  have hcs := cells_of_strs (ss := [[115, 116, 97, 114, 116], [101, 110, 116, 101, 114], [108, 101, 97, 118, 101], [115, 101, 116], [102, 97, 117, 108, 116], [101, 110, 100]]) Tryd.underlying78 Tryd.underlying9 (congrArg Prod.fst kCells) (congrArg Prod.snd kCells) hd0
  have hcell := fun i => World.var?_cell gNames hv0 i
  have ha : ∀ i : Nat, cs0[i]? = cs0.toList[i]? := fun i => Array.getElem?_toList.symm
  constructor
  all_goals
    rw [hcell, ha, hcs]
    rfl
end Go.Proofs.YthgmphmghnonbaaDoor
