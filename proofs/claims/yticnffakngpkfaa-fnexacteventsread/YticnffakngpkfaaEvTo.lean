/-
  What laws.toEventS answers: the same events in a new row: a contract over the seat's program.
-/
import Derived.Test.YticnffakngpkfaaEvSz
import Derived.Lib.Builder
namespace Go.Proofs.Yticnffakngpkfaa
open Go.RowKit

theorem Try.infoEv : (Try.prog.info? 26).map (fun i => (i.zero, i.size, i.bytes)) = some (some (.agg #[.int .i64 0, .int .i64 0, .int .i64 0, .int .i64 0, .string ⟨#[]⟩, .string ⟨#[]⟩]), 6, 64) := by kernel_rfl

theorem own_row6 {w : World} {base g n : Nat} {e : TypeId} {xs : List Value} (h : w.ownsRow base e 6 (.slice (some ⟨g, 0, none⟩) n n) n xs) : ∃ L : List Value, L.length = n * 6 ∧ w.heap[g]? = some (.cells L.toArray e (0, 0)) := by
  rcases h.2 with ⟨h1, _⟩ | ⟨g', cap, cur, h1, _, hh, _, _, hc, _⟩
  · cases h1
  · injection h1 with h1 _ h3
    injection h1 with h1
    injection h1 with h1 _ _
    subst h1; subst h3
    exact ⟨cur.toList, by simpa using hc, by simpa using hh⟩
theorem lt_of_heap {w : World} {g : Nat} {o : Obj} (h : w.heap[g]? = some o) : g < w.heap.size := by
  rcases Nat.lt_or_ge g w.heap.size with h' | h'
  · exact h'
  · simp [Array.getElem?_eq_none h'] at h
theorem cell_there {w : World} {g j : Nat} {L : List Value} {t : TypeId} (h : w.heap[g]? = some (.cells L.toArray t (0, 0))) (hj : j < L.length) : ∃ u, w.cell? ⟨g, j, none⟩ = some u := by
  refine ⟨L[j], ?_⟩
  rw [Lib.cell_of_heap h]
  simp [hj]
theorem flat_take {es : List Ev} {k : Nat} (h : k < es.length) : (es.take (k + 1)).flatMap Ev.cells = (es.take k).flatMap Ev.cells ++ es[k].cells := by
  rw [List.take_succ_eq_append_getElem h, List.flatMap_append]; simp
theorem block_set {w : World} {g i : Nat} {L : List Value} {t : TypeId} (h : w.heap[g]? = some (.cells L.toArray t (0, 0))) (v : Value) : (w.setCell ⟨g, i, none⟩ v).heap[g]? = some (.cells (L.set i v).toArray t (0, 0)) := by
  rw [setCell_eq_setRow w g i L.toArray t (0, 0) v h]
  have := setRow_heap w g L.toArray (L.toArray.setIfInBounds i v) t (0, 0) h
  simpa using this
theorem block_set6 {w : World} {g : Nat} {L : List Value} {t : TypeId} (h : w.heap[g]? = some (.cells L.toArray t (0, 0))) (i : Nat) (a b c d e f : Value) :
    ((((((w.setCell ⟨g, i, none⟩ a).setCell ⟨g, i + 1, none⟩ b).setCell ⟨g, i + 2, none⟩ c).setCell ⟨g, i + 3, none⟩ d).setCell ⟨g, i + 4, none⟩ e).setCell ⟨g, i + 5, none⟩ f).heap[g]? = some (.cells ((((((L.set i a).set (i + 1) b).set (i + 2) c).set (i + 3) d).set (i + 4) e).set (i + 5) f).toArray t (0, 0)) :=
  block_set (block_set (block_set (block_set (block_set (block_set h a) b) c) d) e) f
theorem set6_below {B : Nat} {w0 w : World} {g : Nat} (h : Below B w0 w) (hg : B ≤ g) (i : Nat) (a b c d e f : Value) :
    Below B w0 ((((((w.setCell ⟨g, i, none⟩ a).setCell ⟨g, i + 1, none⟩ b).setCell ⟨g, i + 2, none⟩ c).setCell ⟨g, i + 3, none⟩ d).setCell ⟨g, i + 4, none⟩ e).setCell ⟨g, i + 5, none⟩ f) :=
  (((((h.setCell (p := ⟨g, i, none⟩) hg a).setCell (p := ⟨g, i + 1, none⟩) hg b).setCell (p := ⟨g, i + 2, none⟩) hg c).setCell (p := ⟨g, i + 3, none⟩) hg d).setCell (p := ⟨g, i + 4, none⟩) hg e).setCell (p := ⟨g, i + 5, none⟩) hg f
theorem set6_len {L : List Value} {i : Nat} {a b c d e f : Value} : ((((((L.set i a).set (i + 1) b).set (i + 2) c).set (i + 3) d).set (i + 4) e).set (i + 5) f).length = L.length := by simp
theorem set6_take {L : List Value} {i : Nat} {a b c d e f : Value} (h : i + 6 ≤ L.length) : (((((((L.set i a).set (i + 1) b).set (i + 2) c).set (i + 3) d).set (i + 4) e).set (i + 5) f).take (i + 6)) = L.take i ++ [a, b, c, d, e, f] := by
  apply List.ext_getElem?
  intro j
  by_cases h0 : j < i
  · rw [List.getElem?_append_left (by simp; omega)]
    simp [show ¬ i = j by omega, show ¬ i + 1 = j by omega, show ¬ i + 2 = j by omega, show ¬ i + 3 = j by omega, show ¬ i + 4 = j by omega, show ¬ i + 5 = j by omega, h0, show j < i + 6 by omega]
  · obtain ⟨m, rfl⟩ : ∃ m, j = i + m := ⟨j - i, by omega⟩
    rw [List.getElem?_append_right (by simp; omega), show i + m - (L.take i).length = m by simp; omega]
    match m with
    | 0 => simp [List.getElem?_set]; omega
    | 1 => simp [List.getElem?_set]; omega
    | 2 => simp [List.getElem?_set]; omega
    | 3 => simp [List.getElem?_set]; omega
    | 4 => simp [List.getElem?_set]; omega
    | 5 => simp [List.getElem?_set]; omega
    | n + 6 => simp [List.getElem?_take]; omega
set_option maxRecDepth 100000 in
theorem toEventS_row (g o c : Nat) (es : List Ev) (w : World) (hE : EvsAt w g o es) (hn : es.length ≤ 1048576) :
    Calls Try.prog 12 #[.slice (some ⟨g, o, none⟩) es.length c] w fun e w' =>
      ∃ v, e = .returned v ∧ w'.ownsRow w.heap.size 26 6 v es.length (es.flatMap Ev.cells) ∧ Below w.heap.size w w' := by
  obtain ⟨i0, hi, hz0, hz1, hz2⟩ := info_parts Try.infoEv
  have HE := hid hE
  clear hE
  go_enter Try.func12, Try.ntmps12
  go_wp2_with (at_make; refine wpList_make_full _ rfl _ _ 32 rfl w.heap.size 26 i0 _ 6 Try.underlying32 hi hz0 hz1 _ _ _ _ es.length rfl rfl ?m1 ?m2 ?m3 ?m4 (Nat.le_refl _) ?_)
  case m1 => omega
  case m2 => omega
  case m3 => rw [hz2]; omega
  case m4 => unfold maxLen; omega
  intro w1 hown hgrow
  have hB1 : Below w.heap.size w w1 := (Below.refl _ _).grown hgrow (Nat.le_refl _) (fun k h => by cases h)
  obtain ⟨L0, hL0, hG0⟩ := own_row6 hown
  have H0 := hid hL0
  have HG0 := hid hG0
  clear hown hgrow hi hz0 hz1 hz2 hL0 hG0 i0
  go_wp2
  go_loopw [4] (fun i wr => ∃ (k : Nat) (L : List Value), k ≤ es.length ∧ i = .int .i64 k ∧ L.length = es.length * 6 ∧ L.take (k * 6) = (es.take k).flatMap Ev.cells ∧ wr.heap[w.heap.size]? = some (.cells L.toArray 26 (0, 0)) ∧ Below w.heap.size w wr) (fun i _ => es.length - (intOf i).toNat)
  case atStart => exact ⟨0, L0, Nat.zero_le _, rfl, H0.out, by simp, HG0.out, hB1⟩
  case round =>
    obtain ⟨k, L, hk, rfl, hL, hT, hG, hbel⟩ := hrel
    have HT := hid hT
    have HL := hid hL
    have HG := hid hG
    clear hT hL hG
    have hzr := lt_of_heap HG.out
    by_cases hlt : k < es.length
    · obtain ⟨c0, c1, c2, c3, c4, c5⟩ := (HE.out.stay hbel (Nat.le_refl _)).2 k hlt
      have HC := hid (flat_take hlt)
      have cz := fun w => toEvent_any es[k].seq es[k].time es[k].run es[k].kind es[k].step es[k].val w
      go_wp2_with fail
      refine (cz _).mono ?_
      rintro e w2 ⟨rfl, hb2⟩
      have hG2 : w2.heap[w.heap.size]? = some (.cells L.toArray 26 (0, 0)) := by rw [hb2.block _ hzr]; exact HG.out
      have hbel2 := hbel.trans (hb2.mono hbel.size)
      clear c0 c1 c2 c3 c4 c5 hb2 cz
      have hfz : ∀ j, w2.frozen? ⟨w.heap.size, j, none⟩ = false := fun j => Lib.frozen_of_heap hG2 j
      have hce : ∀ j, j < 6 → ∃ u, w2.cell? ⟨w.heap.size, k * 6 + j, none⟩ = some u := fun j hj => cell_there hG2 (by have := HL.out; omega)
      obtain ⟨u0, d0⟩ : ∃ u, w2.cell? ⟨w.heap.size, k * 6, none⟩ = some u := hce 0 (by decide)
      obtain ⟨u1, d1⟩ := hce 1 (by decide)
      obtain ⟨u2, d2⟩ := hce 2 (by decide)
      obtain ⟨u3, d3⟩ := hce 3 (by decide)
      obtain ⟨u4, d4⟩ := hce 4 (by decide)
      obtain ⟨u5, d5⟩ := hce 5 (by decide)
      have HG2 := hid hG2
      clear hG2 hce
      go_wp2
      go_roundw
      case rel =>
        refine ⟨k + 1, _, by omega, by go_num, ?_, ?_, block_set6 HG2.out _ _ _ _ _ _ _, set6_below hbel2 (Nat.le_refl _) _ _ _ _ _ _ _⟩
        · rw [set6_len]; exact HL.out
        · rw [show (k + 1) * 6 = k * 6 + 6 by omega, set6_take (by have := HL.out; omega), HT.out, HC.out]; rfl
      case measure => simp [intOf]; omega
    · have hke : k = es.length := by omega
      have HK := hid hke
      clear hke
      go_wp2
      go_ret
      refine ⟨_, rfl, ⟨flat_len es, .inr ⟨w.heap.size, es.length, L.toArray, rfl, Nat.le_refl _, HG.out, Nat.le_refl _, by unfold maxLen; omega, by simpa using HL.out, ?_⟩⟩, hbel⟩
      have := HT.out
      rw [HK.out, List.take_of_length_le (Nat.le_refl es.length)] at this
      simpa using this
theorem toEventS_none (a : Option Addr) (c : Nat) (w : World) :
    Calls Try.prog 12 #[.slice a 0 c] w fun e w' =>
      ∃ v, e = .returned v ∧ w'.ownsRow w.heap.size 26 6 v 0 [] ∧ Below w.heap.size w w' := by
  obtain ⟨i0, hi, hz0, hz1, hz2⟩ := info_parts Try.infoEv
  go_enter Try.func12, Try.ntmps12
  go_wp2_with (at_make; refine wpList_make_full _ rfl _ _ 32 rfl w.heap.size 26 i0 _ 6 Try.underlying32 hi hz0 hz1 _ _ _ _ 0 rfl rfl ?m1 ?m2 ?m3 ?m4 (Nat.le_refl _) ?_)
  case m1 => rfl
  case m2 => rfl
  case m3 => rw [hz2]; omega
  case m4 => unfold maxLen; omega
  intro w1 hown hgrow
  have hB1 : Below w.heap.size w w1 := (Below.refl _ _).grown hgrow (Nat.le_refl _) (fun k h => by cases h)
  have HO : Hid (w1.ownsRow w.heap.size 26 6 (.slice (some ⟨w.heap.size, 0, none⟩) 0 0) 0 []) := by
    have h0 := hown.1
    rw [Nat.zero_mul] at h0
    rw [List.eq_nil_of_length_eq_zero h0] at hown
    exact hown
  clear hown hgrow hi hz0 hz1 hz2 i0
  go_wp2
  go_loop [4] (fun i => i = .int .i64 0) (fun _ => 0)
  case atStart => exact rfl
  case round =>
    subst hrel
    go_wp2
    go_ret
    exact ⟨_, rfl, HO.out, hB1⟩
theorem toEventS_any (v : Value) (es : List Ev) (w : World) (h : EvSl w v es) (hn : es.length ≤ 1048576) :
    Calls Try.prog 12 #[v] w fun e w' =>
      ∃ v, e = .returned v ∧ w'.ownsRow w.heap.size 26 6 v es.length (es.flatMap Ev.cells) ∧ Below w.heap.size w w' := by
  rcases h with ⟨a, c, rfl, rfl⟩ | ⟨g, o, c, rfl, _, h⟩
  · exact toEventS_none a c w
  · exact toEventS_row g o c es w h hn
end Go.Proofs.Yticnffakngpkfaa
