/-
  Texts put together: BsIn, KdNames.
-/
import Derived.Test.YtimlnbfalnkmhaaGreatDoorRows
import Derived.Test.YtimlnbfalnkmhaaGreatDoorZSrc
import Derived.WalkKit
import Derived.ProofKit
import Derived.OpenShut
import Derived.Deep.Slices
import Derived.DataReads
import Derived.Test.YtimlnbfalnkmhaaGreatDoorZKd2
import Derived.Lib.LaidTab
import Derived.OpenVars
import Derived.LaidMore
import Derived.LaidLaws
import Derived.Stop.Joined
/-
  A slice of bytes that came in as data: what it holds. Of no function: one law of reading.
-/
namespace Go.Proofs.YtimlnbfalnkmhaaGreatDoor
open Go.ChangeShapes Go.WideShapes Go.RowKit Go.Deep Go.WideElems

section
variable {H : Type} {enc : TypeId × Value → H} {P : Program} {w : World}

/-- A slice of bytes, read: each cell a byte. (Bs bounds the length besides: what is longer the law does not look at.) -/
theorem bs_value {t e : TypeId} {a0 : Option Addr} {len cap : Nat} {D : DataW H} {p : List MemPlace} (hsl : P.underlying t = some (.slice e)) (he : P.underlying e = some (.int .u8)) (hC : P.cellsOf e = 1)
    (h : DataW.Trod enc P w 0 (fun _ => true) true t (.slice a0 len cap) D p) (hlen : len ≤ 1048576) : Bs w (.slice a0 len cap) len := by
  obtain ⟨fuel, hf⟩ := h
  refine ⟨a0, cap, rfl, hlen, fun i hi => ?_⟩
  rcases open_slice hsl hf with ⟨hcs, _⟩ | ⟨a, len', cap', m, n, D', Pl, hcs, _, hl, hm, hmm, _, hel⟩
  · simp [Value.cells] at hcs
    omega
  · simp [Value.cells] at hcs
    obtain ⟨rfl, rfl, rfl⟩ := hcs
    simp only [if_true] at hmm
    subst hmm
    obtain ⟨cs', h1, h2⟩ := hel i (by omega)
    rw [hC] at h1
    obtain ⟨x, hx, _, hw⟩ := DataW.trod_int he h2
    subst hx
    obtain ⟨_, _, hc⟩ := World.cells?_some h1
    have hc0 := hc 0 (by decide)
    obtain ⟨cs0, g1, _⟩ := hel 0 (by omega)
    rw [hC] at g1
    have hspot : a.spot = none := by
      obtain ⟨_, hl0, hd⟩ := World.cells?_some g1
      have hd0 := hd 0 (by decide)
      rw [List.getElem?_eq_getElem (by omega)] at hd0
      have := World.cell?_spot hd0
      simpa [Addr.add] using this
    have hblk : a.block < w.heap.size := by
      have := World.cells?_block g1 (by decide)
      simpa [Addr.add] using this
    obtain ⟨b, o, s⟩ := a
    simp at hspot
    subst hspot
    rw [Addr.add_lit] at hc0
    rw [Addr.add_lit] at hc0
    have hb : 0 ≤ x ∧ x ≤ 255 := by simp [Lit.wf, IntKind.min, IntKind.max, IntKind.signed, IntKind.bits] at hw; omega
    exact ⟨b, o, x, rfl, hblk, by simpa using hc0, hb.1, hb.2⟩
end
end Go.Proofs.YtimlnbfalnkmhaaGreatDoor

/-
  A listed table of texts, its cells; what the rows' list gives: impl.kindNames holds the six names. Of no function: laws of reading.
-/
namespace Go.Proofs.YtimlnbfalnkmhaaGreatDoor
open Go.ChangeShapes Go.WideShapes Go.RowKit

def strsData {H : Type} (ss : List (List UInt8)) : DataW H := .agg (ss.map fun s => .lit (.string s))
theorem str_of_list (s : ByteArray) : (⟨s.data.toList.toArray⟩ : ByteArray) = s := by
  cases s; rfl
/-- An array of texts that reads as the table holds the table's texts, cell for cell. -/
theorem cells_of_strs {H : Type} {enc : TypeId × Value → H} {P : Program} {w : World} {base : Nat} {sp : Nat → Bool} {held : Bool} {fuel : Nat} {t e : TypeId} {n : Nat} {cs : List Value} {ss : List (List UInt8)} {p : List MemPlace}
    (ht : P.underlying t = some (.array n e)) (he : P.underlying e = some .string) (hce : P.cellsOf e = 1) (hct : P.cellsOf t = n)
    (h : DataW.trod enc P w base sp held fuel t cs = some (strsData ss, p)) : cs = ss.map fun s => Value.string ⟨s.toArray⟩ := by
  obtain ⟨xs, m, _, hx, hlen, hn, hel⟩ := DataW.trod_array ht h
  have hxs : xs.map (·.1) = ss.map fun s => (DataW.lit (.string s) : DataW H) := by
    have := congrArg Prod.fst hx
    simpa [strsData] using this.symm
  have hsl : ss.length = n := by
    have := congrArg List.length hxs
    simp at this
    omega
  apply List.ext_getElem?
  intro i
  by_cases hi : i < n
  · have hf := hel i hi
    rw [hce, List.getElem?_eq_getElem (by omega)] at hf
    obtain ⟨z, hc, e2, _⟩ := DataW.trod_string he hf
    have h1 : cs[i]? = some (.string z) := by
      have := congrArg (·[0]?) hc
      simpa [List.getElem?_take, List.getElem?_drop] using this
    have h2 : (xs.map (·.1))[i]? = some (DataW.lit (.string z.data.toList) : DataW H) := by
      rw [List.getElem?_map, List.getElem?_eq_getElem (by omega)]
      simp [e2]
    rw [hxs] at h2
    simp only [List.getElem?_map, Option.map_eq_some_iff, DataW.lit.injEq, Lit.string.injEq] at h2
    obtain ⟨z', hz', e3⟩ := h2
    rw [h1, List.getElem?_map, hz', e3, Option.map_some, str_of_list]
  · rw [List.getElem?_eq_none (by omega), List.getElem?_eq_none (by simp; omega)]
end Go.Proofs.YtimlnbfalnkmhaaGreatDoor
namespace Go.Proofs.YtimlnbfalnkmhaaGreatDoor
open Go.ChangeShapes Go.WideShapes Go.ChangeAt Go.RowKit
set_option linter.unusedVariables false

theorem gNames : Tryz.prog.globalNamed "loop.example/g00366/impl.kindNames" = some 1 := by kernel_rfl
theorem tNames : (Tryz.prog.globals[1]?).map (·.type) = some 209 := by kernel_rfl
theorem kCells : (Tryz.prog.cellsOf 9, Tryz.prog.cellsOf 209) = (1, 6) := by kernel_rfl
set_option maxRecDepth 100000 in
/-- What the row's list gives: the variable's six cells. -/
theorem names_of_laid {W : World} (h : laidMetH Tryz.prog [("loop.example/g00366/impl.kindNames", Rows.laid_loop_example_g00366_impl_kindNames)] W) : KNames W := by
  rw [MakeChecks.laidMetH_plain _ _ _ (by kernel_rfl)] at h
  obtain ⟨ps, ⟨g0, t0, cs0, f0, p0, q0, hg0, ht0, hv0, hd0, _⟩, _, _⟩ := h
  obtain rfl := Option.some.inj (gNames.symm.trans hg0)
  obtain rfl := Option.some.inj (tNames.symm.trans ht0)
  have hcs := cells_of_strs (ss := [[115, 116, 97, 114, 116], [101, 110, 116, 101, 114], [108, 101, 97, 118, 101], [115, 101, 116], [102, 97, 117, 108, 116], [101, 110, 100]]) Tryz.underlying209 Tryz.underlying9 (congrArg Prod.fst kCells) (congrArg Prod.snd kCells) hd0
  have hcell := fun i => World.var?_cell gNames hv0 i
  have ha : ∀ i : Nat, cs0[i]? = cs0.toList[i]? := fun i => Array.getElem?_toList.symm
  constructor
  all_goals
    rw [hcell, ha, hcs]
    rfl
end Go.Proofs.YtimlnbfalnkmhaaGreatDoor
