/-
  What ServiceNew tells of a Def. Of no function.
-/
import Derived.Test.YtadidjhcgmeadaaSvV
import Derived.Test.YtadidjhcgmeadaaDfMath
import Derived.Test.YtadidjhcgmeadaaPrSum
namespace Go.Proofs.Ytadidjhcgmeadaa
open Go.RowKit Go.Sort

open Classical in
noncomputable def snS (ss : List ByteArray) (fs : List Pr) : List ByteArray := if DefP ss fs then ss else []
open Classical in
noncomputable def snF (ss : List ByteArray) (fs : List Pr) : List Pr := if DefP ss fs then fs else []
open Classical in
noncomputable def snN (ss : List ByteArray) (fs : List Pr) : Int := if DefP ss fs then 1 else 0
theorem sn_yes {ss : List ByteArray} {fs : List Pr} (h : DefP ss fs) : snS ss fs = ss ∧ snF ss fs = fs ∧ snN ss fs = 1 := by simp [snS, snF, snN, h]
theorem sn_no {ss : List ByteArray} {fs : List Pr} (h : ¬ DefP ss fs) : snS ss fs = [] ∧ snF ss fs = [] ∧ snN ss fs = 0 := by simp [snS, snF, snN, h]
theorem sn_len (ss : List ByteArray) (fs : List Pr) : (snS ss fs).length ≤ 12 ∧ (snF ss fs).length ≤ 40 := by
  by_cases h : DefP ss fs
  · obtain ⟨e1, e2, _⟩ := sn_yes h
    rw [e1, e2]
    exact ⟨h.1.n2, h.2.m⟩
  · obtain ⟨e1, e2, _⟩ := sn_no h
    rw [e1, e2]
    simp
theorem sv_none (w : World) (lo : Nat) : SvOwn w lo (.slice none 0 0) (.slice none 0 0) (.slice none 0 0) [] [] [] := ⟨⟨World.ownsRow_nil _ _ _ _, World.ownsRow_nil _ _ _ _⟩, World.ownsRow_nil _ _ _ _⟩
end Go.Proofs.Ytadidjhcgmeadaa
