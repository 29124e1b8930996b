/-
  A slice of bytes that came in as data: what it holds. Of no function: one law of reading.
-/
import Derived.Test.YtcjclioockjfhaaDoorRows
import Derived.Test.YtcjclioockjfhaaDoorSrc
import Derived.WalkKit
import Derived.ProofKit
import Derived.OpenShut
import Derived.Deep.Slices
import Derived.DataReads
namespace Go.Proofs.YtcjclioockjfhaaDoor
open Go.ChangeShapes Go.WideShapes Go.RowKit Go.Deep Go.WideElems

section
variable {H : Type} {enc : TypeId × Value → H} {P : Program} {w : World}

/-- A slice of bytes, read: each cell a byte. (Bs bounds the length besides: what is longer the law does not look at.) -/
theorem bs_value {t e : TypeId} {a0 : Option Addr} {len cap : Nat} {D : DataW H} {p : List MemPlace} (hsl : P.underlying t = some (.slice e)) (he : P.underlying e = some (.int .u8)) (hC : P.cellsOf e = 1)
    (h : DataW.Trod enc P w 0 (fun _ => true) true t (.slice a0 len cap) D p) (hlen : len ≤ 1048576) : Bs w (.slice a0 len cap) len := by
  obtain ⟨fuel, hf⟩ := h
  refine ⟨a0, cap, rfl, hlen, fun i hi => ?_⟩
  rcases open_slice hsl hf with ⟨hcs, _⟩ | ⟨a, len', cap', m, n, D', Pl, hcs, _, hl, hm, hmm, _, hel⟩
  · simp [Value.cells] at hcs
    omega
  · simp [Value.cells] at hcs
    obtain ⟨rfl, rfl, rfl⟩ := hcs
    simp only [if_true] at hmm
    subst hmm
    obtain ⟨cs', h1, h2⟩ := hel i (by omega)
    rw [hC] at h1
    obtain ⟨x, hx, _, hw⟩ := DataW.trod_int he h2
    subst hx
    obtain ⟨_, _, hc⟩ := World.cells?_some h1
    have hc0 := hc 0 (by decide)
    obtain ⟨cs0, g1, _⟩ := hel 0 (by omega)
    rw [hC] at g1
    have hspot : a.spot = none := by
      obtain ⟨_, hl0, hd⟩ := World.cells?_some g1
      have hd0 := hd 0 (by decide)
      rw [List.getElem?_eq_getElem (by omega)] at hd0
      have := World.cell?_spot hd0
      simpa [Addr.add] using this
    have hblk : a.block < w.heap.size := by
      have := World.cells?_block g1 (by decide)
      simpa [Addr.add] using this
    obtain ⟨b, o, s⟩ := a
    simp at hspot
    subst hspot
    rw [Addr.add_lit] at hc0
    rw [Addr.add_lit] at hc0
    have hb : 0 ≤ x ∧ x ≤ 255 := by simp [Lit.wf, IntKind.min, IntKind.max, IntKind.signed, IntKind.bits] at hw; omega
    exact ⟨b, o, x, rfl, hblk, by simpa using hc0, hb.1, hb.2⟩
end
end Go.Proofs.YtcjclioockjfhaaDoor
