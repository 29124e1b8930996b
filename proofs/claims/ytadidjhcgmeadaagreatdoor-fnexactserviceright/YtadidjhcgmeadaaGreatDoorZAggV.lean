/-
  A Service that came in as data: what it holds. Of no function: one law of reading.
-/
import Derived.Test.YtadidjhcgmeadaaGreatDoorZAggD2
import Derived.Test.YtadidjhcgmeadaaGreatDoorZEvT5
namespace Go.Proofs.YtadidjhcgmeadaaGreatDoor
open Go.ChangeShapes Go.WideShapes Go.RowKit Go.Deep Go.WideElems

theorem list3 {α : Type} {l : List α} (h : l.length = 3) : ∃ a b c, l = [a, b, c] := by
  match l, h with
  | [a, b, c], _ => exact ⟨a, b, c, rfl⟩
theorem list4 {α : Type} {l : List α} (h : l.length = 4) : ∃ a b c d, l = [a, b, c, d] := by
  match l, h with
  | [a, b, c, d], _ => exact ⟨a, b, c, d, rfl⟩
section
variable {H : Type} {enc : TypeId × Value → H} {P : Program} {w : World}

theorem service_value {r : Reach} {b0 : Nat} {t e e2 e3 : TypeId} {g0 g1 g2 f0 f1 q0 q1 h0 h1 h2 h3 h4 h5 : Field} {V : Value} {D : DataW H} {p : List MemPlace}
    (ht : P.underlying t = some (.struct #[g0, g1, g2])) (hC : P.cellsOf t = 4) (o0 : g0.offset = 0 ∧ P.cellsOf g0.type = 2) (o1 : g1.offset = 2 ∧ P.cellsOf g1.type = 1) (o2 : g2.offset = 3 ∧ P.cellsOf g2.type = 1)
    (hd : P.underlying g0.type = some (.struct #[f0, f1])) (hone : oneCellFields P #[f0, f1] = true)
    (s0 : P.underlying f0.type = some (.slice e)) (s0e : P.underlying e = some .string) (s0c : P.cellsOf e = 1)
    (s1 : P.underlying f1.type = some (.slice e2)) (s1e : P.underlying e2 = some (.struct #[q0, q1])) (s1o : oneCellFields P #[q0, q1] = true) (s1c : P.cellsOf e2 = 2) (u0 : P.underlying q0.type = some .string) (u1 : P.underlying q1.type = some .string)
    (s2 : P.underlying g1.type = some (.slice e3)) (s2e : P.underlying e3 = some (.struct #[h0, h1, h2, h3, h4, h5])) (s2o : oneCellFields P #[h0, h1, h2, h3, h4, h5] = true) (s2c : P.cellsOf e3 = 6)
    (v0 : P.underlying h0.type = some (.int .i64)) (v1 : P.underlying h1.type = some (.int .i64)) (v2 : P.underlying h2.type = some (.int .i64)) (v3 : P.underlying h3.type = some (.int .i64)) (v4 : P.underlying h4.type = some .string) (v5 : P.underlying h5.type = some .string)
    (i2 : P.underlying g2.type = some (.int .i64))
    (hv : Value.okWide P w r b0 t V) (h : DataW.Trod enc P w 0 (fun _ => true) true t V D p) :
    ∃ (a1 a2 a6 : Option Addr) (k1 k2 k6 : Nat) (ss : List ByteArray) (fs : List Pr) (es : List Ev) (nx : Int), V = .agg #[.slice a1 ss.length k1, .slice a2 fs.length k2, .slice a6 es.length k6, .int .i64 nx] ∧ (StrSl w (.slice a1 ss.length k1) ss ∧ FitS ss ∧ ss.length ≤ maxLen) ∧ (PrSl w (.slice a2 fs.length k2) fs ∧ FitP fs ∧ fs.length ≤ maxLen) ∧ (EvSl w (.slice a6 es.length k6) es ∧ Fit es ∧ es.length ≤ maxLen) := by
  obtain ⟨cs, rfl, _⟩ := okWide_struct ht hv
  obtain ⟨fuel, hf'⟩ := h
  obtain ⟨xs, n, _, _, hl, hlen, hf⟩ := DataW.trod_struct ht hf'
  obtain ⟨c0, c1, c2, c3, e⟩ := list4 (hl.trans hC)
  rw [e] at hf
  obtain ⟨x0, x1, x2, rfl⟩ := list3 (show xs.length = 3 from hlen)
  have hd0 := hf 0 g0 rfl
  rw [o0.1, o0.2] at hd0
  have hd1 : DataW.trod enc P w 0 (fun _ => true) true n g0.type [c0, c1] = some x0 := hd0
  obtain ⟨ys, m, _, _, hl2, hlen2, hf2⟩ := DataW.trod_struct hd hd1
  obtain ⟨y0, y1, rfl⟩ := list2 (show ys.length = 2 from hlen2)
  obtain ⟨a1, k1, ss, e1, p1⟩ := strs_cells s0 s0e s0c (field_one (hone_of hone 0 f0 rfl) rfl (hf2 0 f0 rfl) rfl)
  obtain ⟨a2, k2, fs, e2', p2⟩ := prs_cells s1 s1e s1o s1c u0 u1 (field_one (hone_of hone 1 f1 rfl) rfl (hf2 1 f1 rfl) rfl)
  have hs2 : DataW.trod enc P w 0 (fun _ => true) true n g1.type [c2] = some x1 := field_one o1 rfl (hf 1 g1 rfl) rfl
  have hsl : ∃ a len cap, c2 = .slice a len cap := by
    rcases open_slice s2 hs2 with ⟨hcs, _⟩ | ⟨a, len', cap', m, n, D', Pl, hcs, _⟩
    · simp at hcs; exact ⟨_, _, _, hcs⟩
    · simp at hcs; exact ⟨_, _, _, hcs⟩
  obtain ⟨a6, len, k6, rfl⟩ := hsl
  obtain ⟨es, hE, hF, hN⟩ := evs_value s2 s2e s2o s2c v0 v1 v2 v3 v4 v5 (D := x1.1) (p := x1.2) ⟨n, by simpa [Value.cells] using hs2⟩
  obtain rfl : len = es.length := by
    rcases hE with ⟨_, _, e, rfl⟩ | ⟨_, _, _, e, _⟩
    · injection e
    · injection e
  obtain ⟨nx, rfl, _⟩ := field_int o2 rfl i2 (hf 2 g2 rfl) rfl
  refine ⟨a1, a2, a6, k1, k2, k6, ss, fs, es, nx, ?_, p1, p2, hE, hF, hN⟩
  congr 1
  apply Array.toList_inj.1
  simp at e1 e2'
  rw [e1, e2'] at e
  simpa [Value.cells] using e
end
end Go.Proofs.YtadidjhcgmeadaaGreatDoor
