/-
  Texts put together: EvSz, EvTo, EvEq, MkE, AggS, SoLaw.
-/
import Derived.Test.YtihpadabgfhegaaGreatDoorZImTold2
import Derived.Test.YtihpadabgfhegaaGreatDoorZEvAr3
import Derived.Lib.Builder
import Derived.Lib.QuietBelow
import Derived.Test.YtihpadabgfhegaaGreatDoorZMark4
import Derived.Test.YtihpadabgfhegaaGreatDoorZStOut
import Derived.Test.YtihpadabgfhegaaGreatDoorZAgg3
import Derived.DataReads
import Derived.Test.YtihpadabgfhegaaGreatDoorZLawA2
import Derived.Test.YtihpadabgfhegaaGreatDoorZSoFn
import Derived.Deep.RegionHeld3
import Derived.Deep.CutRange
/-
  What laws.szEventS answers: how much is left behind so many events and their texts: a contract over the seat's program.
-/
namespace Go.Proofs.YtihpadabgfhegaaGreatDoor
open Go.RowKit

def sumE : List Ev → Nat
  | [] => 0
  | e :: r => e.step.size + e.val.size + sumE r
theorem sumE_append (a b : List Ev) : sumE (a ++ b) = sumE a + sumE b := by
  induction a with
  | nil => simp [sumE]
  | cons e r ih => simp [sumE, ih]; omega
theorem sumE_take {es : List Ev} {k : Nat} (h : k < es.length) : sumE (es.take (k + 1)) = sumE (es.take k) + (es[k].step.size + es[k].val.size) := by
  rw [List.take_succ_eq_append_getElem h, sumE_append]; simp [sumE]
theorem sumE_le (es : List Ev) (k : Nat) : sumE (es.take k) ≤ sumE es := by
  have := sumE_append (es.take k) (es.drop k)
  rw [List.take_append_drop] at this; omega

/-- What is left. -/
def szR (left : Int) (es : List Ev) : Int := if (es.length : Int) + (sumE es : Int) ≤ left then left - (es.length : Int) - (sumE es : Int) else -1
theorem szR_yes {left : Int} {es : List Ev} (h : (es.length : Int) + (sumE es : Int) ≤ left) : szR left es = left - (es.length : Int) - (sumE es : Int) := if_pos h
theorem szR_no {left : Int} {es : List Ev} (h : left < (es.length : Int) + (sumE es : Int)) : szR left es = -1 := if_neg (by omega)
set_option maxRecDepth 100000 in
theorem szEventS_row (g o c : Nat) (es : List Ev) (left : Int) (w : World) (hE : EvsAt w g o es) (hF : Fit es) (h0 : 0 ≤ left) (h1 : left ≤ 1048576) (hn : es.length ≤ maxLen) :
    Calls Tryz.prog 30 #[.slice (some ⟨g, o, none⟩) es.length c, .int .i64 left] w fun e w' =>
      e = .returned (.int .i64 (szR left es)) ∧ Below w.heap.size w w' := by
  unfold maxLen at hn
  by_cases hz : (es.length : Int) ≤ left
  · have HE := hid hE
    clear hE
    go_enter Tryz.func30, Tryz.ntmps30
    go_wp2
    go_loopw [1, 5] (fun l i wr => ∃ k : Nat, k ≤ es.length ∧ i = .int .i64 k ∧ l = .int .i64 (left - (es.length : Int) - (sumE (es.take k) : Int)) ∧ 0 ≤ left - (es.length : Int) - (sumE (es.take k) : Int) ∧ Below w.heap.size w wr) (fun _ i _ => es.length - (intOf i).toNat)
    case atStart => exact ⟨0, Nat.zero_le _, rfl, by simp [sumE], by simp [sumE]; omega, Below.refl _ _⟩
    case round =>
      obtain ⟨k, hk, rfl, rfl, hl, hbel⟩ := hrel
      by_cases hlt : k < es.length
      · have hA := (HE.out.stay hbel (Nat.le_refl _)).2 k hlt
        obtain ⟨c0, c1, c2, c3, c4, c5⟩ := hA
        have hst := hid (sumE_take hlt)
        have hf := hF k hlt
        generalize es[k].seq = q0 at *
        generalize es[k].time = q1 at *
        generalize es[k].run = q2 at *
        generalize es[k].kind = q3 at *
        generalize es[k].step = q4 at *
        generalize es[k].val = q5 at *
        generalize hL : left - (es.length : Int) - (sumE (es.take k) : Int) = L at *
        have HL := hid hL
        have cz := fun w => szEvent_any q0 q1 q2 q3 q4 q5 L w hl (by omega) hf.1 hf.2
        clear hL hf
        by_cases hzz : (q4.size : Int) + (q5.size : Int) ≤ L
        · rw [if_pos hzz] at cz
          have hL0 : (0 : Int) ≤ L - (q4.size : Int) - (q5.size : Int) := by omega
          have hL1 : left - (es.length : Int) - (sumE (es.take (k + 1)) : Int) = L - (q4.size : Int) - (q5.size : Int) := by have := hst.out; have := HL.out; omega
          have HL1 := hid hL1
          clear hzz hL1
          generalize L - (q4.size : Int) - (q5.size : Int) = L2 at *
          go_wp2_with fail
          refine (cz _).mono ?_
          rintro e w1 ⟨rfl, hb1⟩
          have hbel1 := hbel.trans (hb1.mono hbel.size)
          clear c0 c1 c2 c3 c4 c5 hb1 cz
          go_wp2
          go_roundw
          case rel => exact ⟨k + 1, by omega, by go_num, by rw [HL1.out], by rw [HL1.out]; exact hL0, hbel1⟩
          case measure => simp [intOf]; omega
        · rw [if_neg hzz] at cz
          have hfin : szR left es = -1 := szR_no (by have := hst.out; have := HL.out; have := sumE_le es (k + 1); omega)
          have HF := hid hfin
          clear hzz hfin
          go_wp2_with fail
          refine (cz _).mono ?_
          rintro e w1 ⟨rfl, hb1⟩
          have hbel1 := hbel.trans (hb1.mono hbel.size)
          clear c0 c1 c2 c3 c4 c5 hb1 cz
          go_wp2
          go_ret
          exact ⟨by rw [HF.out]; rfl, hbel1⟩
      · have hk' : k = es.length := by omega
        have hT : es.take k = es := List.take_of_length_le (by omega)
        rw [hT] at hl
        have HT := hid hT
        have hfin := szR_yes (left := left) (es := es) (by omega)
        have HF := hid hfin
        clear hk' hT hfin
        go_wp2
        go_ret
        exact ⟨ret_int (by rw [HF.out, HT.out]), hbel⟩
  · have hfin := szR_no (left := left) (es := es) (by omega)
    have HF := hid hfin
    clear hfin hE
    go_enter Tryz.func30, Tryz.ntmps30
    go_wp2
    go_ret
    exact ⟨by rw [HF.out]; rfl, Below.refl _ _⟩
theorem szEventS_none (a : Option Addr) (c : Nat) (left : Int) (w : World) (h0 : 0 ≤ left) (h1 : left ≤ 1048576) :
    Calls Tryz.prog 30 #[.slice a 0 c, .int .i64 left] w fun e w' => e = .returned (.int .i64 left) ∧ w' = w := by
  go_enter Tryz.func30, Tryz.ntmps30
  go_wp2
  go_loop [1, 5] (fun l i => l = .int .i64 left ∧ i = .int .i64 0) (fun _ _ => 0)
  case atStart => exact ⟨rfl, rfl⟩
  case round =>
    obtain ⟨rfl, rfl⟩ := hrel
    go_wp2
    go_ret
    exact ⟨rfl, rfl⟩
end Go.Proofs.YtihpadabgfhegaaGreatDoor

/-
  What laws.toEventS answers: the same events in a new row: a contract over the seat's program.
-/
namespace Go.Proofs.YtihpadabgfhegaaGreatDoor
open Go.RowKit

theorem Tryz.infoEv : (Tryz.prog.info? 31).map (fun i => (i.zero, i.size, i.bytes)) = some (some (.agg #[.int .i64 0, .int .i64 0, .int .i64 0, .int .i64 0, .string ⟨#[]⟩, .string ⟨#[]⟩]), 6, 64) := by kernel_rfl

theorem own_row6 {w : World} {base g n : Nat} {e : TypeId} {xs : List Value} (h : w.ownsRow base e 6 (.slice (some ⟨g, 0, none⟩) n n) n xs) : ∃ L : List Value, L.length = n * 6 ∧ w.heap[g]? = some (.cells L.toArray e (0, 0)) := by
  rcases h.2 with ⟨h1, _⟩ | ⟨g', cap, cur, h1, _, hh, _, _, hc, _⟩
  · cases h1
  · injection h1 with h1 _ h3
    injection h1 with h1
    injection h1 with h1 _ _
    subst h1; subst h3
    exact ⟨cur.toList, by simpa using hc, by simpa using hh⟩
theorem lt_of_heap {w : World} {g : Nat} {o : Obj} (h : w.heap[g]? = some o) : g < w.heap.size := by
  rcases Nat.lt_or_ge g w.heap.size with h' | h'
  · exact h'
  · simp [Array.getElem?_eq_none h'] at h
theorem cell_there {w : World} {g j : Nat} {L : List Value} {t : TypeId} (h : w.heap[g]? = some (.cells L.toArray t (0, 0))) (hj : j < L.length) : ∃ u, w.cell? ⟨g, j, none⟩ = some u := by
  refine ⟨L[j], ?_⟩
  rw [Lib.cell_of_heap h]
  simp [hj]
theorem flat_take {es : List Ev} {k : Nat} (h : k < es.length) : (es.take (k + 1)).flatMap Ev.cells = (es.take k).flatMap Ev.cells ++ es[k].cells := by
  rw [List.take_succ_eq_append_getElem h, List.flatMap_append]; simp
theorem block_set {w : World} {g i : Nat} {L : List Value} {t : TypeId} (h : w.heap[g]? = some (.cells L.toArray t (0, 0))) (v : Value) : (w.setCell ⟨g, i, none⟩ v).heap[g]? = some (.cells (L.set i v).toArray t (0, 0)) := by
  rw [setCell_eq_setRow w g i L.toArray t (0, 0) v h]
  have := setRow_heap w g L.toArray (L.toArray.setIfInBounds i v) t (0, 0) h
  simpa using this
theorem block_set6 {w : World} {g : Nat} {L : List Value} {t : TypeId} (h : w.heap[g]? = some (.cells L.toArray t (0, 0))) (i : Nat) (a b c d e f : Value) :
    ((((((w.setCell ⟨g, i, none⟩ a).setCell ⟨g, i + 1, none⟩ b).setCell ⟨g, i + 2, none⟩ c).setCell ⟨g, i + 3, none⟩ d).setCell ⟨g, i + 4, none⟩ e).setCell ⟨g, i + 5, none⟩ f).heap[g]? = some (.cells ((((((L.set i a).set (i + 1) b).set (i + 2) c).set (i + 3) d).set (i + 4) e).set (i + 5) f).toArray t (0, 0)) :=
  block_set (block_set (block_set (block_set (block_set (block_set h a) b) c) d) e) f
theorem set6_below {B : Nat} {w0 w : World} {g : Nat} (h : Below B w0 w) (hg : B ≤ g) (i : Nat) (a b c d e f : Value) :
    Below B w0 ((((((w.setCell ⟨g, i, none⟩ a).setCell ⟨g, i + 1, none⟩ b).setCell ⟨g, i + 2, none⟩ c).setCell ⟨g, i + 3, none⟩ d).setCell ⟨g, i + 4, none⟩ e).setCell ⟨g, i + 5, none⟩ f) :=
  (((((h.setCell (p := ⟨g, i, none⟩) hg a).setCell (p := ⟨g, i + 1, none⟩) hg b).setCell (p := ⟨g, i + 2, none⟩) hg c).setCell (p := ⟨g, i + 3, none⟩) hg d).setCell (p := ⟨g, i + 4, none⟩) hg e).setCell (p := ⟨g, i + 5, none⟩) hg f
theorem set6_len {L : List Value} {i : Nat} {a b c d e f : Value} : ((((((L.set i a).set (i + 1) b).set (i + 2) c).set (i + 3) d).set (i + 4) e).set (i + 5) f).length = L.length := by simp
theorem set6_take {L : List Value} {i : Nat} {a b c d e f : Value} (h : i + 6 ≤ L.length) : (((((((L.set i a).set (i + 1) b).set (i + 2) c).set (i + 3) d).set (i + 4) e).set (i + 5) f).take (i + 6)) = L.take i ++ [a, b, c, d, e, f] := by
  apply List.ext_getElem?
  intro j
  by_cases h0 : j < i
  · rw [List.getElem?_append_left (by simp; omega)]
    simp [show ¬ i = j by omega, show ¬ i + 1 = j by omega, show ¬ i + 2 = j by omega, show ¬ i + 3 = j by omega, show ¬ i + 4 = j by omega, show ¬ i + 5 = j by omega, h0, show j < i + 6 by omega]
  · obtain ⟨m, rfl⟩ : ∃ m, j = i + m := ⟨j - i, by omega⟩
    rw [List.getElem?_append_right (by simp; omega), show i + m - (L.take i).length = m by simp; omega]
    match m with
    | 0 => simp [List.getElem?_set]; omega
    | 1 => simp [List.getElem?_set]; omega
    | 2 => simp [List.getElem?_set]; omega
    | 3 => simp [List.getElem?_set]; omega
    | 4 => simp [List.getElem?_set]; omega
    | 5 => simp [List.getElem?_set]; omega
    | n + 6 => simp [List.getElem?_take]; omega
set_option maxRecDepth 100000 in
theorem toEventS_row (g o c : Nat) (es : List Ev) (w : World) (hE : EvsAt w g o es) (hn : es.length ≤ 1048576) :
    Calls Tryz.prog 31 #[.slice (some ⟨g, o, none⟩) es.length c] w fun e w' =>
      ∃ v, e = .returned v ∧ w'.ownsRow w.heap.size 31 6 v es.length (es.flatMap Ev.cells) ∧ Below w.heap.size w w' := by
  obtain ⟨i0, hi, hz0, hz1, hz2⟩ := info_parts Tryz.infoEv
  have HE := hid hE
  clear hE
  go_enter Tryz.func31, Tryz.ntmps31
  go_wp2_with (at_make; refine wpList_make_full _ rfl _ _ 42 rfl w.heap.size 31 i0 _ 6 Tryz.underlying42 hi hz0 hz1 _ _ _ _ es.length rfl rfl ?m1 ?m2 ?m3 ?m4 (Nat.le_refl _) ?_)
  case m1 => omega
  case m2 => omega
  case m3 => rw [hz2]; omega
  case m4 => unfold maxLen; omega
  intro w1 hown hgrow
  have hB1 : Below w.heap.size w w1 := (Below.refl _ _).grown hgrow (Nat.le_refl _) (fun k h => by cases h)
  obtain ⟨L0, hL0, hG0⟩ := own_row6 hown
  have H0 := hid hL0
  have HG0 := hid hG0
  clear hown hgrow hi hz0 hz1 hz2 hL0 hG0 i0
  go_wp2
  go_loopw [4] (fun i wr => ∃ (k : Nat) (L : List Value), k ≤ es.length ∧ i = .int .i64 k ∧ L.length = es.length * 6 ∧ L.take (k * 6) = (es.take k).flatMap Ev.cells ∧ wr.heap[w.heap.size]? = some (.cells L.toArray 31 (0, 0)) ∧ Below w.heap.size w wr) (fun i _ => es.length - (intOf i).toNat)
  case atStart => exact ⟨0, L0, Nat.zero_le _, rfl, H0.out, by simp, HG0.out, hB1⟩
  case round =>
    obtain ⟨k, L, hk, rfl, hL, hT, hG, hbel⟩ := hrel
    have HT := hid hT
    have HL := hid hL
    have HG := hid hG
    clear hT hL hG
    have hzr := lt_of_heap HG.out
    by_cases hlt : k < es.length
    · obtain ⟨c0, c1, c2, c3, c4, c5⟩ := (HE.out.stay hbel (Nat.le_refl _)).2 k hlt
      have HC := hid (flat_take hlt)
      have cz := fun w => toEvent_any es[k].seq es[k].time es[k].run es[k].kind es[k].step es[k].val w
      go_wp2_with fail
      refine (cz _).mono ?_
      rintro e w2 ⟨rfl, hb2⟩
      have hG2 : w2.heap[w.heap.size]? = some (.cells L.toArray 31 (0, 0)) := by rw [hb2.block _ hzr]; exact HG.out
      have hbel2 := hbel.trans (hb2.mono hbel.size)
      clear c0 c1 c2 c3 c4 c5 hb2 cz
      have hfz : ∀ j, w2.frozen? ⟨w.heap.size, j, none⟩ = false := fun j => Lib.frozen_of_heap hG2 j
      have hce : ∀ j, j < 6 → ∃ u, w2.cell? ⟨w.heap.size, k * 6 + j, none⟩ = some u := fun j hj => cell_there hG2 (by have := HL.out; omega)
      obtain ⟨u0, d0⟩ : ∃ u, w2.cell? ⟨w.heap.size, k * 6, none⟩ = some u := hce 0 (by decide)
      obtain ⟨u1, d1⟩ := hce 1 (by decide)
      obtain ⟨u2, d2⟩ := hce 2 (by decide)
      obtain ⟨u3, d3⟩ := hce 3 (by decide)
      obtain ⟨u4, d4⟩ := hce 4 (by decide)
      obtain ⟨u5, d5⟩ := hce 5 (by decide)
      have HG2 := hid hG2
      clear hG2 hce
      go_wp2
      go_roundw
      case rel =>
        refine ⟨k + 1, _, by omega, by go_num, ?_, ?_, block_set6 HG2.out _ _ _ _ _ _ _, set6_below hbel2 (Nat.le_refl _) _ _ _ _ _ _ _⟩
        · rw [set6_len]; exact HL.out
        · rw [show (k + 1) * 6 = k * 6 + 6 by omega, set6_take (by have := HL.out; omega), HT.out, HC.out]; rfl
      case measure => simp [intOf]; omega
    · have hke : k = es.length := by omega
      have HK := hid hke
      clear hke
      go_wp2
      go_ret
      refine ⟨_, rfl, ⟨flat_len es, .inr ⟨w.heap.size, es.length, L.toArray, rfl, Nat.le_refl _, HG.out, Nat.le_refl _, by unfold maxLen; omega, by simpa using HL.out, ?_⟩⟩, hbel⟩
      have := HT.out
      rw [HK.out, List.take_of_length_le (Nat.le_refl es.length)] at this
      simpa using this
theorem toEventS_none (a : Option Addr) (c : Nat) (w : World) :
    Calls Tryz.prog 31 #[.slice a 0 c] w fun e w' =>
      ∃ v, e = .returned v ∧ w'.ownsRow w.heap.size 31 6 v 0 [] ∧ Below w.heap.size w w' := by
  obtain ⟨i0, hi, hz0, hz1, hz2⟩ := info_parts Tryz.infoEv
  go_enter Tryz.func31, Tryz.ntmps31
  go_wp2_with (at_make; refine wpList_make_full _ rfl _ _ 42 rfl w.heap.size 31 i0 _ 6 Tryz.underlying42 hi hz0 hz1 _ _ _ _ 0 rfl rfl ?m1 ?m2 ?m3 ?m4 (Nat.le_refl _) ?_)
  case m1 => rfl
  case m2 => rfl
  case m3 => rw [hz2]; omega
  case m4 => unfold maxLen; omega
  intro w1 hown hgrow
  have hB1 : Below w.heap.size w w1 := (Below.refl _ _).grown hgrow (Nat.le_refl _) (fun k h => by cases h)
  have HO : Hid (w1.ownsRow w.heap.size 31 6 (.slice (some ⟨w.heap.size, 0, none⟩) 0 0) 0 []) := by
    have h0 := hown.1
    rw [Nat.zero_mul] at h0
    rw [List.eq_nil_of_length_eq_zero h0] at hown
    exact hown
  clear hown hgrow hi hz0 hz1 hz2 i0
  go_wp2
  go_loop [4] (fun i => i = .int .i64 0) (fun _ => 0)
  case atStart => exact rfl
  case round =>
    subst hrel
    go_wp2
    go_ret
    exact ⟨_, rfl, HO.out, hB1⟩
theorem toEventS_any (v : Value) (es : List Ev) (w : World) (h : EvSl w v es) (hn : es.length ≤ 1048576) :
    Calls Tryz.prog 31 #[v] w fun e w' =>
      ∃ v, e = .returned v ∧ w'.ownsRow w.heap.size 31 6 v es.length (es.flatMap Ev.cells) ∧ Below w.heap.size w w' := by
  rcases h with ⟨a, c, rfl, rfl⟩ | ⟨g, o, c, rfl, _, h⟩
  · exact toEventS_none a c w
  · exact toEventS_row g o c es w h hn
end Go.Proofs.YtihpadabgfhegaaGreatDoor

/-
  What laws.eqEvent and laws.eqEventS answer at the same events: contracts over the seat's program.
-/
namespace Go.Proofs.YtihpadabgfhegaaGreatDoor
open Go.RowKit Go.Sort

theorem eqEvent_same (q t r k : Int) (s v : ByteArray) (w : World) :
    Calls Tryz.prog 66 #[.agg #[.int .i64 q, .int .i64 t, .int .i64 r, .int .i64 k, .string s, .string v], .agg #[.int .i64 q, .int .i64 t, .int .i64 r, .int .i64 k, .string s, .string v]] w fun e w' => e = .returned (.bool true) ∧ Below w.heap.size w w' := by
  go_enter Tryz.func66, Tryz.ntmps66
  go_wp2
  go_ret
  exact ⟨rfl, ((Below.refl _ _).alloc (Nat.le_refl _) _).alloc (by simp) _⟩

set_option maxHeartbeats 4000000 in
set_option maxRecDepth 1000000 in
theorem eqEventS_row (g1 o1 c1 g2 o2 c2 : Nat) (es : List Ev) (w : World) (hE1 : EvsAt w g1 o1 es) (hE2 : EvsAt w g2 o2 es) (hn : es.length ≤ maxLen) :
    Calls Tryz.prog 32 #[.slice (some ⟨g1, o1, none⟩) es.length c1, .slice (some ⟨g2, o2, none⟩) es.length c2] w fun e w' => e = .returned (.bool true) ∧ Below w.heap.size w w' := by
  unfold maxLen at hn
  have mixed : Tryz.prog.follows .mixedOrders = true := by kernel_rfl
  have HE1 := hid hE1
  have HE2 := hid hE2
  clear hE1 hE2
  go_enter Tryz.func32, Tryz.ntmps32
  go_wp2
  go_loopw [5] (fun i wr => ∃ k : Nat, k ≤ es.length ∧ i = .int .i64 k ∧ Below w.heap.size w wr) (fun i _ => es.length - (intOf i).toNat)
  case atStart => exact ⟨0, Nat.zero_le _, rfl, Below.refl _ _⟩
  case round =>
    obtain ⟨k, hk, rfl, hbel⟩ := hrel
    by_cases hlt : k < es.length
    · obtain ⟨a0, a1, a2, a3, a4, a5⟩ := (HE1.out.stay hbel (Nat.le_refl _)).2 k hlt
      obtain ⟨b0, b1, b2, b3, b4, b5⟩ := (HE2.out.stay hbel (Nat.le_refl _)).2 k hlt
      generalize es[k].seq = q0 at *
      generalize es[k].time = q1 at *
      generalize es[k].run = q2 at *
      generalize es[k].kind = q3 at *
      generalize es[k].step = q4 at *
      generalize es[k].val = q5 at *
      have k0 := cell_regrown a0
      have k1 := cell_regrown a1
      have k2 := cell_regrown a2
      have k3 := cell_regrown a3
      have k4 := cell_regrown a4
      have k5 := cell_regrown a5
      have l0 := cell_regrown b0
      have l1 := cell_regrown b1
      have l2 := cell_regrown b2
      have l3 := cell_regrown b3
      have l4 := cell_regrown b4
      have l5 := cell_regrown b5
      have d1 := fun d os => Calls.regrown_of (w := wr) (d := d) (os := os) (eqEvent_same q0 q1 q2 q3 q4 q5 _)
      clear a0 a1 a2 a3 a4 a5 b0 b1 b2 b3 b4 b5
      go_wp2
      refine wp_region_quiet_below mixed (by kernel_rfl) ?_
      repeat (quiet_step (first | (go_at_call 66; exact d1 _ _)))
      refine wpQuiet_nil ?_
      intro _ hw'
      obtain ⟨⟨dq, osq⟩, hw''⟩ := hw'
      subst hw''
      have hbX := hbel.trans ((below_regrown wr dq osq).mono hbel.size)
      clear k0 k1 k2 k3 k4 k5 l0 l1 l2 l3 l4 l5 d1
      go_wp2
      go_roundw
      case rel => exact ⟨k + 1, by omega, by go_num, hbX⟩
      case measure => simp [intOf]; omega
    · go_wp2
      go_ret
      exact ⟨rfl, hbel⟩
theorem eqEventS_none (a1 a2 : Option Addr) (c1 c2 : Nat) (w : World) :
    Calls Tryz.prog 32 #[.slice a1 0 c1, .slice a2 0 c2] w fun e w' => e = .returned (.bool true) ∧ Below w.heap.size w w' := by
  go_enter Tryz.func32, Tryz.ntmps32
  go_wp2
  go_loop [5] (fun i => i = .int .i64 0) (fun _ => 0)
  case atStart => exact rfl
  case round =>
    subst hrel
    go_wp2
    go_ret
    exact ⟨rfl, Below.refl _ _⟩
theorem eqEventS_any (v1 v2 : Value) (es : List Ev) (w : World) (h1 : EvSl w v1 es) (h2 : EvSl w v2 es) (hn : es.length ≤ maxLen) :
    Calls Tryz.prog 32 #[v1, v2] w fun e w' => e = .returned (.bool true) ∧ Below w.heap.size w w' := by
  rcases h1 with ⟨a, c, rfl, rfl⟩ | ⟨g, o, c, rfl, hp, h⟩
  · rcases h2 with ⟨a', c', rfl, _⟩ | ⟨g', o', c', rfl, hp', h'⟩
    · exact eqEventS_none a a' c c' w
    · simp at hp'
  · rcases h2 with ⟨a', c', rfl, h0⟩ | ⟨g', o', c', rfl, hp', h'⟩
    · rw [h0] at hp; simp at hp
    · exact eqEventS_row g o c g' o' c' es w h h' hn
end Go.Proofs.YtihpadabgfhegaaGreatDoor

/-
  What laws.markEventS does to a row of events, from any mark on: a contract over the seat's program.
-/
namespace Go.Proofs.YtihpadabgfhegaaGreatDoor
open Go.RowKit Go.Sort

/-- The event that bears the marks from a number on. -/
def mkEv (k : Int) : Ev := ⟨k, k + 1, k + 1 + 1, k + 1 + 1 + 1, markT (k + 1 + 1 + 1 + 1), markT (k + 1 + 1 + 1 + 1 + 1)⟩
def marks (k : Int) (n : Nat) : List Ev := (List.range n).map fun i : Nat => mkEv (k + 6 * (i : Int))
theorem marks_len (k : Int) (n : Nat) : (marks k n).length = n := by simp [marks]
theorem marks_succ (k : Int) (n : Nat) : (marks k (n + 1)).flatMap Ev.cells = (marks k n).flatMap Ev.cells ++ (mkEv (k + 6 * (n : Int))).cells := by
  simp [marks, List.range_succ]
theorem marks_at {k : Int} {n i : Nat} (h : i < (marks k n).length) : (marks k n)[i] = mkEv (k + 6 * (i : Int)) := by simp [marks]

set_option maxHeartbeats 1000000 in
set_option maxRecDepth 100000 in
theorem markEventS_row (g n c : Nat) (K : Int) (L : List Value) (w : World) (hG : w.heap[g]? = some (.cells L.toArray 31 (0, 0))) (hL : n * 6 ≤ L.length) (hK : 0 < K) (hn : K + 6 * (n : Int) ≤ 1000000000) :
    Calls Tryz.prog 33 #[.slice (some ⟨g, 0, none⟩) n c, .int .i64 K] w fun e w' =>
      ∃ L' : List Value, e = .returned (.int .i64 (K + 6 * (n : Int))) ∧ w'.heap[g]? = some (.cells L'.toArray 31 (0, 0)) ∧ L'.length = L.length ∧ L'.take (n * 6) = (marks K n).flatMap Ev.cells ∧ w.grownBy w' (some g) := by
  have HG := hid hG
  have HL := hid hL
  clear hG hL
  go_enter Tryz.func33, Tryz.ntmps33
  go_wp2
  go_loopw [1, 5] (fun kv i wr => ∃ (j : Nat) (M : List Value), j ≤ n ∧ i = .int .i64 j ∧ kv = .int .i64 (K + 6 * (j : Int)) ∧ M.length = L.length ∧ M.take (j * 6) = (marks K j).flatMap Ev.cells ∧ wr.heap[g]? = some (.cells M.toArray 31 (0, 0)) ∧ w.grownBy wr (some g)) (fun _ i _ => n - (intOf i).toNat)
  case atStart => exact ⟨0, L, Nat.zero_le _, rfl, by simp, rfl, by simp [marks], HG.out, World.grownBy.refl _ _⟩
  case round =>
    obtain ⟨j, M, hj, rfl, rfl, hM, hT, hGr, hgr⟩ := hrel
    have HM := hid hM
    have HT := hid hT
    have HGr := hid hGr
    have Hgr := hid hgr
    clear hM hT hGr hgr
    by_cases hlt : j < n
    · have hjl : j * 6 + 6 ≤ M.length := by have := HM.out; have := HL.out; omega
      have c4 := fun w => markText_any (K + 6 * (j : Int) + 1 + 1 + 1 + 1) w (by omega) (by omega)
      have c5 := fun w => markText_any (K + 6 * (j : Int) + 1 + 1 + 1 + 1 + 1) w (by omega) (by omega)
      have hce : ∀ t, t < 6 → ∃ u, wr.cell? ⟨g, j * 6 + t, none⟩ = some u := fun t ht => cell_there HGr.out (by omega)
      obtain ⟨u0, d0⟩ : ∃ u, wr.cell? ⟨g, j * 6, none⟩ = some u := hce 0 (by decide)
      obtain ⟨u1, d1⟩ := hce 1 (by decide)
      obtain ⟨u2, d2⟩ := hce 2 (by decide)
      obtain ⟨u3, d3⟩ := hce 3 (by decide)
      have hfz : ∀ t, wr.frozen? ⟨g, t, none⟩ = false := fun t => Lib.frozen_of_heap HGr.out t
      clear hce
      have HS := hid (set6_take (L := M) (i := j * 6) (a := .int .i64 (K + 6 * (j : Int))) (b := .int .i64 (K + 6 * (j : Int) + 1)) (c := .int .i64 (K + 6 * (j : Int) + 1 + 1)) (d := .int .i64 (K + 6 * (j : Int) + 1 + 1 + 1)) (e := .string (markT (K + 6 * (j : Int) + 1 + 1 + 1 + 1))) (f := .string (markT (K + 6 * (j : Int) + 1 + 1 + 1 + 1 + 1))) hjl)
      have HMS := hid (marks_succ K j)
      unfold mkEv at HMS
      generalize markT (K + 6 * (j : Int) + 1 + 1 + 1 + 1) = S4 at *
      generalize markT (K + 6 * (j : Int) + 1 + 1 + 1 + 1 + 1) = S5 at *
      go_wp2_with fail
      have hA := blk_set (i := j * 6 + 3) (blk_set (i := j * 6 + 2) (blk_set (i := j * 6 + 1) (blk_set (i := j * 6) HGr.out (.int .i64 (K + 6 * (j : Int)))) (.int .i64 (K + 6 * (j : Int) + 1))) (.int .i64 (K + 6 * (j : Int) + 1 + 1))) (.int .i64 (K + 6 * (j : Int) + 1 + 1 + 1))
      have hgA := grown_trans (grown_trans (grown_trans (grown_trans Hgr.out (grown_set _ g (j * 6) (.int .i64 (K + 6 * (j : Int))))) (grown_set _ g (j * 6 + 1) (.int .i64 (K + 6 * (j : Int) + 1)))) (grown_set _ g (j * 6 + 2) (.int .i64 (K + 6 * (j : Int) + 1 + 1)))) (grown_set _ g (j * 6 + 3) (.int .i64 (K + 6 * (j : Int) + 1 + 1 + 1)))
      refine (c4 _).mono ?_
      rintro e w2 ⟨rfl, hb2⟩
      have hB : w2.heap[g]? = _ := (hb2.block g (lt_heap hA)).trans hA
      have hgB := hid (grown_trans hgA (grown_below hb2))
      have z4 := cell_there hB (j := j * 6 + 4) (by simp; omega)
      obtain ⟨u4, z4⟩ := z4
      have hfz2 : ∀ t, w2.frozen? ⟨g, t, none⟩ = false := fun t => Lib.frozen_of_heap hB t
      have HB := hid hB
      clear hA hgA hB hb2 d0 d1 d2 d3 hfz c4 Hgr HGr
      go_wp2_with fail
      have hC := blk_set (i := j * 6 + 4) HB.out (.string S4)
      have hgC := grown_trans hgB.out (grown_set _ g (j * 6 + 4) (.string S4))
      refine (c5 _).mono ?_
      rintro e w3 ⟨rfl, hb3⟩
      have hD : w3.heap[g]? = _ := (hb3.block g (lt_heap hC)).trans hC
      have hgD := hid (grown_trans hgC (grown_below hb3))
      have z5 := cell_there hD (j := j * 6 + 5) (by simp; omega)
      obtain ⟨u5, z5⟩ := z5
      have hfz3 : ∀ t, w3.frozen? ⟨g, t, none⟩ = false := fun t => Lib.frozen_of_heap hD t
      have HD := hid hD
      clear hC hgC hD hb3 z4 hfz2 c5 hgB HB
      go_wp2
      go_roundw
      case rel =>
        refine ⟨j + 1, _, by omega, by go_num, by go_num, ?_, ?_, blk_set (i := j * 6 + 5) HD.out (.string S5), grown_trans hgD.out (grown_set _ g (j * 6 + 5) (.string S5))⟩
        · rw [set6_len]; exact HM.out
        · rw [show (j + 1) * 6 = j * 6 + 6 by omega, HS.out, HT.out, HMS.out]; rfl
      case measure => simp [intOf]; omega
    · have hje : j = n := by omega
      have HJ := hid hje
      clear hje
      go_wp2
      go_ret
      refine ⟨M, by rw [HJ.out]; rfl, HGr.out, HM.out, ?_, Hgr.out⟩
      have := HT.out
      rwa [HJ.out] at this
theorem markEventS_none (a : Option Addr) (c : Nat) (K : Int) (w : World) :
    Calls Tryz.prog 33 #[.slice a 0 c, .int .i64 K] w fun e w' => e = .returned (.int .i64 K) ∧ w' = w := by
  go_enter Tryz.func33, Tryz.ntmps33
  go_wp2
  go_loopw [1, 5] (fun kv i wr => kv = .int .i64 K ∧ i = .int .i64 0 ∧ wr = w) (fun _ _ _ => 0)
  case atStart => exact ⟨rfl, rfl, rfl⟩
  case round =>
    obtain ⟨rfl, rfl, rfl⟩ := hrel
    go_wp2
    go_ret
    exact ⟨rfl, rfl⟩
theorem markEventS_own (v : Value) (n base : Nat) (K : Int) (xs : List Value) (w : World) (h : w.ownsRow base 31 6 v n xs) (hK : 0 < K) (hn : K + 6 * (n : Int) ≤ 1000000000) :
    Calls Tryz.prog 33 #[v, .int .i64 K] w fun e w' => e = .returned (.int .i64 (K + 6 * (n : Int))) ∧ Chg (fun j => v.ownBlock = some j) w w' := by
  rcases h.2 with ⟨rfl, rfl⟩ | ⟨g, cap, cur, rfl, hb, hg, hc, hm, hs, ht⟩
  · refine (markEventS_none none 0 K w).mono ?_
    rintro e w' ⟨rfl, rfl⟩
    exact ⟨by simp, Chg.refl _ _⟩
  · have hg' : w.heap[g]? = some (.cells cur.toList.toArray 31 (0, 0)) := by simpa using hg
    refine (markEventS_row g n cap K cur.toList w hg' (by rw [Array.length_toList, hs]; omega) hK hn).mono ?_
    rintro e w' ⟨L', rfl, h1, h2, h3, h4⟩
    exact ⟨rfl, Chg.of_grown h4 rfl⟩
end Go.Proofs.YtihpadabgfhegaaGreatDoor

/-
  A slice of events that came in as data: what it holds. Of no function: one law of reading.
-/
namespace Go.Proofs.YtihpadabgfhegaaGreatDoor
open Go.ChangeShapes Go.WideShapes Go.RowKit Go.Deep Go.WideElems

section
variable {H : Type} {enc : TypeId × Value → H} {P : Program} {w : World}

theorem evat_of_cells {a : Addr} {i : Nat} {ev : Ev} (h : w.cells? 0 (a.add (i * 6)) 6 = some ev.cells) (hs : a.spot = none) : EvAt w a.block (a.off + i * 6) ev := by
  obtain ⟨b, o, s⟩ := a
  simp at hs
  subst hs
  obtain ⟨_, _, hc⟩ := World.cells?_some h
  rw [Addr.add_lit] at hc
  have key : ∀ j, j < 6 → w.cell? ⟨b, o + i * 6 + j, none⟩ = ev.cells[j]? := fun j hj => by
    have := hc j hj
    rwa [Addr.add_lit] at this
  exact ⟨key 0 (by decide), key 1 (by decide), key 2 (by decide), key 3 (by decide), key 4 (by decide), key 5 (by decide)⟩

/-- A slice of structs of four int64 and two strings, read: its events. -/
theorem evs_value {t e : TypeId} {f0 f1 f2 f3 f4 f5 : Field} {a0 : Option Addr} {len cap : Nat} {D : DataW H} {p : List MemPlace} (hsl : P.underlying t = some (.slice e)) (ht : P.underlying e = some (.struct #[f0, f1, f2, f3, f4, f5])) (hone : oneCellFields P #[f0, f1, f2, f3, f4, f5] = true) (hC : P.cellsOf e = 6)
    (u0 : P.underlying f0.type = some (.int .i64)) (u1 : P.underlying f1.type = some (.int .i64)) (u2 : P.underlying f2.type = some (.int .i64)) (u3 : P.underlying f3.type = some (.int .i64)) (u4 : P.underlying f4.type = some .string) (u5 : P.underlying f5.type = some .string)
    (h : DataW.Trod enc P w 0 (fun _ => true) true t (.slice a0 len cap) D p) : ∃ es : List Ev, EvSl w (.slice a0 len cap) es ∧ Fit es ∧ es.length ≤ maxLen := by
  obtain ⟨fuel, hf⟩ := h
  rcases open_slice hsl hf with ⟨hcs, _⟩ | ⟨a, len', cap', m, n, D', Pl, hcs, _, hl, hm, hmm, _, hel⟩
  · simp [Value.cells] at hcs
    obtain ⟨rfl, rfl, rfl⟩ := hcs
    exact ⟨[], .inl ⟨none, 0, rfl, rfl⟩, fun i hi => absurd hi (by simp), Nat.zero_le _⟩
  · simp [Value.cells] at hcs
    obtain ⟨rfl, rfl, rfl⟩ := hcs
    simp only [if_true] at hmm
    subst hmm
    have hex : ∀ i, i < len → ∃ ev : Ev, w.cells? 0 (a.add (i * 6)) 6 = some ev.cells ∧ ev.step.size ≤ maxLen ∧ ev.val.size ≤ maxLen := by
      intro i hi
      obtain ⟨cs', h1, h2⟩ := hel i (by omega)
      rw [hC] at h1
      obtain ⟨x0, x1, x2, x3, s, v, rfl, _, _, _, _, hs, hv⟩ := ev_cells ht hone hC u0 u1 u2 u3 u4 u5 h2
      exact ⟨⟨x0, x1, x2, x3, s, v⟩, h1, hs, hv⟩
    obtain ⟨f, hfx⟩ : ∃ f : Nat → Ev, ∀ i, i < len → w.cells? 0 (a.add (i * 6)) 6 = some (f i).cells ∧ (f i).step.size ≤ maxLen ∧ (f i).val.size ≤ maxLen := by
      refine ⟨fun i => if hi : i < len then Classical.choose (hex i hi) else ⟨0, 0, 0, 0, ByteArray.empty, ByteArray.empty⟩, fun i hi => ?_⟩
      simp only [dif_pos hi]
      exact Classical.choose_spec (hex i hi)
    refine ⟨(List.range len).map f, ?_, ?_, by simp; omega⟩
    · by_cases h0 : len = 0
      · subst h0
        exact .inl ⟨some a, m, rfl, rfl⟩
      · have hc0 := (hfx 0 (by omega)).1
        have hspot : a.spot = none := by
          obtain ⟨_, _, hc⟩ := World.cells?_some hc0
          have := World.cell?_spot (hc 0 (by decide))
          simpa [Addr.add] using this
        have hblk : a.block < w.heap.size := by
          have := World.cells?_block hc0 (by decide)
          simpa [Addr.add] using this
        refine .inr ⟨a.block, a.off, m, ?_, by simp; omega, hblk, fun i hi => ?_⟩
        · obtain ⟨b, o, s⟩ := a
          simp at hspot
          subst hspot
          simp
        · have hi' : i < len := by simpa using hi
          simpa using evat_of_cells (hfx i hi').1 hspot
    · intro i hi
      have hi' : i < len := by simpa using hi
      simpa using (hfx i hi').2
end
end Go.Proofs.YtihpadabgfhegaaGreatDoor

/-
  The law FnExactStateOf, walked: it answers true. (Made by mksolaw.py.)
-/
namespace Go.Proofs.YtihpadabgfhegaaGreatDoor
open Go.RowKit Go.Sort

theorem ofS_small {ss : List ByteArray} {fs : List Pr} (D : DefP ss fs) : ∀ (es : List Ev) (S : St), StP ss S → (ofS ss fs es S).2.wait.length ≤ 40 ∧ (ofS ss fs es S).2.busy.length ≤ 40 ∧ (ofS ss fs es S).2.vars.length ≤ 20
  | [], S, h => by have := stP_small h; exact ⟨this.1, this.2.1, this.2.2.1⟩
  | e :: r, S, h => by
    have q1 : ofS ss fs (e :: r) S = if (evS ss fs S e).1 = 0 then ofS ss fs r (evS ss fs S e).2 else ((evS ss fs S e).1, z0) := rfl
    rw [q1]
    by_cases hc : (evS ss fs S e).1 = 0
    · rw [if_pos hc]; exact ofS_small D r _ (evS_right D h hc)
    · rw [if_neg hc]; exact ⟨Nat.zero_le _, Nat.zero_le _, Nat.zero_le _⟩
theorem soS_small (ss : List ByteArray) (fs : List Pr) (es : List Ev) : (soS ss fs es).2.wait.length ≤ 40 ∧ (soS ss fs es).2.busy.length ≤ 40 ∧ (soS ss fs es).2.vars.length ≤ 20 := by
  by_cases h4 : 400 < es.length
  · rw [soS_big ss fs h4]; exact ⟨Nat.zero_le _, Nat.zero_le _, Nat.zero_le _⟩
  · by_cases h : DefP ss fs ∧ es.length ≤ 200
    · rw [soS_yes ss fs h4 h.1 h.2]; exact ofS_small h.1 es z0 (z0_right ss)
    · rw [soS_no ss fs h4 h]; exact ⟨Nat.zero_le _, Nat.zero_le _, Nat.zero_le _⟩
theorem szR_two (es : List Ev) {left : Int} (_h0 : 0 ≤ left) : szR left es = -1 ∨ (0 ≤ szR left es ∧ (es.length : Int) ≤ left) := by
  by_cases h : (es.length : Int) + (sumE es : Int) ≤ left
  · rw [szR_yes h]; right; constructor <;> omega
  · rw [szR_no (by omega)]; exact .inl rfl
theorem szEventS_all (v : Value) (es : List Ev) (left : Int) (w : World) (h : EvSl w v es) (hF : Fit es) (h0 : 0 ≤ left) (h1 : left ≤ 1048576) (hn : es.length ≤ maxLen) :
    Calls Tryz.prog 30 #[v, .int .i64 left] w fun e w' => e = .returned (.int .i64 (szR left es)) ∧ Below w.heap.size w w' := by
  rcases h with ⟨a, c, rfl, rfl⟩ | ⟨g, o, c, rfl, _, h⟩
  · refine (szEventS_none a c left w h0 h1).mono ?_
    rintro e w' ⟨rfl, rfl⟩
    exact ⟨by rw [szR_yes (by simp [sumE]; omega)]; simp [sumE], Below.refl _ _⟩
  · exact szEventS_row g o c es left w h hF h0 h1 hn
set_option maxRecDepth 100000 in
set_option maxHeartbeats 8000000 in
theorem fnExactStateOf_walk (a1 a2 a6 : Option Addr) (k1 k2 k6 : Nat) (ss : List ByteArray) (fs : List Pr) (es : List Ev) (e0 e1 e2 e3 e4 : Addr) (w : World) (hD : DefSl w a1 a2 k1 k2 ss fs) (hE : EvSl w (.slice a6 es.length k6) es) (F1 : FitS ss) (F2 : FitP fs) (FE : Fit es) (n1 : ss.length ≤ maxLen) (n2 : fs.length ≤ maxLen) (n6 : es.length ≤ maxLen) (hEr : ErrsAt w e0 e1 e2 e3 e4) :
    Calls Tryz.prog 5 #[defV a1 a2 k1 k2 ss fs, .slice a6 es.length k6] w fun x w' => x = .returned (.bool true) ∧ Below w.heap.size w w' := by
  have hb0 : Below w.heap.size w (w.alloc (.cells #[.slice a1 ss.length k1, .slice a2 fs.length k2] 49)) := (Below.refl _ _).alloc (Nat.le_refl _) _
  have hs0 : (w.alloc (.cells #[.slice a1 ss.length k1, .slice a2 fs.length k2] 49)).heap.size = w.heap.size + 1 := by simp
  have Kd0 := hid (show (w.alloc (.cells #[.slice a1 ss.length k1, .slice a2 fs.length k2] 49)).cell? ⟨w.heap.size, 0, none⟩ = some (.slice a1 ss.length k1) by simp [go_sem])
  have Kd1 := hid (show (w.alloc (.cells #[.slice a1 ss.length k1, .slice a2 fs.length k2] 49)).cell? ⟨w.heap.size, 1, none⟩ = some (.slice a2 fs.length k2) by simp [go_sem])
  have HB0 := hid hb0
  have HD := hid hD
  have HV := hid hE
  have HE := hid hEr
  have HF := hid FE
  have cz1 := hid (szDef_any a1 a2 k1 k2 ss fs 1048576 (w.alloc (.cells #[.slice a1 ss.length k1, .slice a2 fs.length k2] 49)) (hD.h1.stay hb0 (Nat.le_refl _)) (hD.h2.stay hb0 (Nat.le_refl _)) F1 F2 (by decide) (by decide) n1 n2)
  have cSp := hid (fun (p1 p2 p6 : Option Addr) (q1 q2 q6 : Nat) V hD hE => specStateOf_any p1 p2 p6 q1 q2 q6 ss fs es V hD hE F1 (fun i h => (FE i h).1) n1 n2)
  have cIm := hid (fun (p1 p2 p6 : Option Addr) (q1 q2 q6 : Nat) V hD hE hR => implStateOf_any p1 p2 p6 q1 q2 q6 ss fs es V hD hE F1 F2 (fun i h => (FE i h).1) n1 n2 e0 e1 e2 e3 e4 hR)
  have hsm := soS_small ss fs es
  generalize hrs : soS ss fs es = cs at *
  clear hrs
  obtain ⟨c, S'⟩ := cs
  simp only at hsm cSp cIm
  obtain ⟨hw3, hw4, hw5⟩ := hsm
  have HN6 := hid n6
  clear hD hE hEr hb0 F1 F2 FE n1 n2 n6
  go_enter Tryz.func5, Tryz.ntmps5
  go_wp2_with fail
  refine cz1.out.mono ?_
  generalize (w.alloc (.cells #[.slice a1 ss.length k1, .slice a2 fs.length k2] 49)) = V0 at *
  rintro x V1 ⟨r1, rfl, hr1, hb1⟩
  have HC1 := hid hb1
  have HB1 := hid (HB0.out.trans (hb1.mono HB0.out.size))
  have hz1 := hb1.size
  clear hb1 cz1
  rcases hr1 with rfl | ⟨r10, r11, m1, m2⟩
  · go_wp2_with fail
    go_ret
    exact ⟨rfl, HB1.out⟩
  have cz2 := hid (szEventS_all (.slice a6 es.length k6) es r1 V1 (HV.out.stay HB1.out (Nat.le_refl _)) HF.out r10 (by omega) HN6.out)
  have hr2 := szR_two es r10
  generalize szR r1 es = r2 at *
  go_wp2_with fail
  refine cz2.out.mono ?_
  rintro x V2 ⟨rfl, hb2⟩
  have HC2 := hid (HC1.out.trans (hb2.mono HC1.out.size))
  have HB2 := hid (HB1.out.trans (hb2.mono HB1.out.size))
  have hz2 := hb2.size
  clear hb2 cz2
  rcases hr2 with rfl | ⟨r20, m6'⟩
  · go_wp2_with fail
    go_ret
    exact ⟨rfl, HB2.out⟩
  have m6 : es.length ≤ 1048576 := by omega
  clear m6'
  have ca0 := (HC2.out.cell (p := ⟨w.heap.size, 0, none⟩) (by show w.heap.size < _; omega)).trans Kd0.out
  have ca1 := (HC2.out.cell (p := ⟨w.heap.size, 1, none⟩) (by show w.heap.size < _; omega)).trans Kd1.out
  go_wp2_with fail
  refine (toDef_own a1 a2 k1 k2 ss fs _ (HD.out.stay HB2.out) m1 m2).mono ?_
  rintro x V3 ⟨p1, p2, q1, q2, rfl, hO3, hb3⟩
  clear ca0 ca1
  have HC3 := hid (HC2.out.trans (hb3.mono HC2.out.size))
  have HB3 := hid (HB2.out.trans (hb3.mono HB2.out.size))
  have hz3 := hb3.size
  clear hb3
  go_wp2_with fail
  refine (toEventS_any (.slice a6 es.length k6) es _ (HV.out.stay HB3.out (Nat.le_refl _)) m6).mono ?_
  rintro x V4 ⟨vv, rfl, hu4, hb4⟩
  obtain ⟨p6, q6, rfl⟩ := ownB_form hu4
  have HC4 := hid (HC3.out.trans (hb4.mono HC3.out.size))
  have HB4 := hid (HB3.out.trans (hb4.mono HB3.out.size))
  have hz4 := hb4.size
  have cc := hid (cSp.out p1 p2 p6 q1 q2 q6 V4 (hO3.stay hb4).sl (sl_of_own hu4))
  clear hb4 hO3 hu4
  go_wp2_with fail
  refine cc.out.mono ?_
  rintro x V5 ⟨z3, z4, z5, rfl, hO5, hb5⟩
  obtain ⟨x3, x4, x5, y3, y4, y5, rfl, rfl, rfl⟩ := hO5.forms
  have HC5 := hid (HC4.out.trans (hb5.mono HC4.out.size))
  have HB5 := hid (HB4.out.trans (hb5.mono HB4.out.size))
  have hz5 := hb5.size
  clear hb5 cc
  have hb6 : Below V5.heap.size V5 (V5.alloc (.cells #[.int .i64 S'.status, .int .i64 S'.begun, .int .i64 S'.last, .slice x3 S'.wait.length y3, .slice x4 S'.busy.length y4, .slice x5 S'.vars.length y5, .int .i64 S'.faults, .int .i64 c] 35)) := (Below.refl _ _).alloc (Nat.le_refl _) _
  have HC6 := hid (HC5.out.trans (hb6.mono HC5.out.size))
  have HB6 := hid (HB5.out.trans (hb6.mono HB5.out.size))
  have hz6 := hb6.size
  have hk6 := heap_alloc_new V5 (.cells #[.int .i64 S'.status, .int .i64 S'.begun, .int .i64 S'.last, .slice x3 S'.wait.length y3, .slice x4 S'.busy.length y4, .slice x5 S'.vars.length y5, .int .i64 S'.faults, .int .i64 c] 35)
  have HOn := hid (hO5.stay hb6)
  have Hnl := hid (fun j (h : P3 (.slice x3 S'.wait.length y3) (.slice x4 S'.busy.length y4) (.slice x5 S'.vars.length y5) j) => (by rcases h with h | h | h; exact own_lt hO5.o3 j h; exact own_lt hO5.o4 j h; exact own_lt hO5.o5 j h))
  have hln := lt_heap hk6
  have HKn := hid hk6
  have hsn : V5.heap.size + 1 = (V5.alloc (.cells #[.int .i64 S'.status, .int .i64 S'.begun, .int .i64 S'.last, .slice x3 S'.wait.length y3, .slice x4 S'.busy.length y4, .slice x5 S'.vars.length y5, .int .i64 S'.faults, .int .i64 c] 35)).heap.size := by simp
  clear hb6 hk6 hO5
  unfold outV
  go_upto_region 9 with fail
  generalize (V5.alloc (.cells #[.int .i64 S'.status, .int .i64 S'.begun, .int .i64 S'.last, .slice x3 S'.wait.length y3, .slice x4 S'.busy.length y4, .slice x5 S'.vars.length y5, .int .i64 S'.faults, .int .i64 c] 35)) = V6 at *
  have HK8_6 := HKn
  have HO8_6 := HOn
  have H8l := Hnl
  have hB8 := hln
  clear HKn HOn Hnl hln
  have ca0 := (HC6.out.cell (p := ⟨w.heap.size, 0, none⟩) (by show w.heap.size < _; omega)).trans Kd0.out
  have ca1 := (HC6.out.cell (p := ⟨w.heap.size, 1, none⟩) (by show w.heap.size < _; omega)).trans Kd1.out
  go_wp2_with fail
  refine (toDef_own a1 a2 k1 k2 ss fs _ (HD.out.stay HB6.out) m1 m2).mono ?_
  rintro x V7 ⟨d1, d2, f1, f2, rfl, hO7, hb7⟩
  clear ca0 ca1
  have HC7 := hid (HC6.out.trans (hb7.mono HC6.out.size))
  have HB7 := hid (HB6.out.trans (hb7.mono HB6.out.size))
  have hz7 := hb7.size
  have HK8_7 := hid ((hb7.block _ (lt_heap HK8_6.out)).trans HK8_6.out)
  have HO8_7 := hid (StOwn.stay HO8_6.out hb7)
  clear HK8_6 HO8_6
  have Hdl := hid (fun j (h : (Value.slice d1 ss.length f1).ownBlock = some j ∨ (Value.slice d2 fs.length f2).ownBlock = some j) => (by rcases h with h | h; exact own_lt hO7.o1 j h; exact own_lt hO7.o2 j h : V6.heap.size ≤ j ∧ j < V7.heap.size))
  have hb8 : Below V7.heap.size V7 (V7.alloc (.cells #[.slice d1 ss.length f1, .slice d2 fs.length f2] 26)) := (Below.refl _ _).alloc (Nat.le_refl _) _
  have HC8 := hid (HC7.out.trans (hb8.mono HC7.out.size))
  have HB8 := hid (HB7.out.trans (hb8.mono HB7.out.size))
  have hz8 := hb8.size
  have HK8_8 := hid ((hb8.block _ (lt_heap HK8_7.out)).trans HK8_7.out)
  have HO8_8 := hid (StOwn.stay HO8_7.out hb8)
  clear HK8_7 HO8_7
  have HKd_8 := hid (heap_alloc_new V7 (.cells #[.slice d1 ss.length f1, .slice d2 fs.length f2] 26))
  have HOd_8 := hid (hO7.stay hb8)
  have hs8 : V7.heap.size + 1 = (V7.alloc (.cells #[.slice d1 ss.length f1, .slice d2 fs.length f2] 26)).heap.size := by simp
  clear hb7 hb8 hO7
  go_upto_region 10 with fail
  generalize (V7.alloc (.cells #[.slice d1 ss.length f1, .slice d2 fs.length f2] 26)) = V8 at *
  go_wp2_with fail
  refine (toEventS_any (.slice a6 es.length k6) es _ (HV.out.stay HB8.out (Nat.le_refl _)) m6).mono ?_
  rintro x V9 ⟨vv, rfl, hu9, hb9⟩
  obtain ⟨p6, q6, rfl⟩ := ownB_form hu9
  have HC9 := hid (HC8.out.trans (hb9.mono HC8.out.size))
  have HB9 := hid (HB8.out.trans (hb9.mono HB8.out.size))
  have hz9 := hb9.size
  have HK8_9 := hid ((hb9.block _ (lt_heap HK8_8.out)).trans HK8_8.out)
  have HKd_9 := hid ((hb9.block _ (lt_heap HKd_8.out)).trans HKd_8.out)
  have HO8_9 := hid (StOwn.stay HO8_8.out hb9)
  have HOd_9 := hid (DefOwn.stay HOd_8.out hb9)
  clear HK8_8 HKd_8 HO8_8 HOd_8
  have Hul := hid (fun j (h : (Value.slice p6 es.length q6).ownBlock = some j) => own_lt hu9 j h)
  have HOu_9 := hid hu9
  clear hb9 hu9
  have cd0 : V9.cell? ⟨V7.heap.size, 0, none⟩ = some (.slice d1 ss.length f1) := by rw [Lib.cell_of_heap HKd_9.out]; rfl
  have cd1 : V9.cell? ⟨V7.heap.size, 1, none⟩ = some (.slice d2 fs.length f2) := by rw [Lib.cell_of_heap HKd_9.out]; rfl
  have cc := hid (cIm.out d1 d2 p6 f1 f2 q6 V9 HOd_9.out.sl (sl_of_own HOu_9.out) (HE.out.stay HB9.out))
  go_wp2_with fail
  refine cc.out.mono ?_
  rintro x V10 ⟨z3, z4, z5, rfl, hO10, hb10⟩
  obtain ⟨x3q, x4q, x5q, y3q, y4q, y5q, rfl, rfl, rfl⟩ := hO10.forms
  clear cd0 cd1
  have HC10 := hid (HC9.out.trans (hb10.mono HC9.out.size))
  have HB10 := hid (HB9.out.trans (hb10.mono HB9.out.size))
  have hz10 := hb10.size
  have HK8_10 := hid ((hb10.block _ (lt_heap HK8_9.out)).trans HK8_9.out)
  have HKd_10 := hid ((hb10.block _ (lt_heap HKd_9.out)).trans HKd_9.out)
  have HO8_10 := hid (StOwn.stay HO8_9.out hb10)
  have HOd_10 := hid (DefOwn.stay HOd_9.out hb10)
  have HOu_10 := hid (ownB_stay HOu_9.out hb10)
  clear HK8_9 HKd_9 HO8_9 HOd_9 HOu_9
  clear hb10 cc
  have hb11 : Below V10.heap.size V10 (V10.alloc (.cells #[.int .i64 S'.status, .int .i64 S'.begun, .int .i64 S'.last, .slice x3q S'.wait.length y3q, .slice x4q S'.busy.length y4q, .slice x5q S'.vars.length y5q, .int .i64 S'.faults, .int .i64 c] 35)) := (Below.refl _ _).alloc (Nat.le_refl _) _
  have HC11 := hid (HC10.out.trans (hb11.mono HC10.out.size))
  have HB11 := hid (HB10.out.trans (hb11.mono HB10.out.size))
  have hz11 := hb11.size
  have HK8_11 := hid ((hb11.block _ (lt_heap HK8_10.out)).trans HK8_10.out)
  have HKd_11 := hid ((hb11.block _ (lt_heap HKd_10.out)).trans HKd_10.out)
  have HO8_11 := hid (StOwn.stay HO8_10.out hb11)
  have HOd_11 := hid (DefOwn.stay HOd_10.out hb11)
  have HOu_11 := hid (ownB_stay HOu_10.out hb11)
  clear HK8_10 HKd_10 HO8_10 HOd_10 HOu_10
  have hk11 := heap_alloc_new V10 (.cells #[.int .i64 S'.status, .int .i64 S'.begun, .int .i64 S'.last, .slice x3q S'.wait.length y3q, .slice x4q S'.busy.length y4q, .slice x5q S'.vars.length y5q, .int .i64 S'.faults, .int .i64 c] 35)
  have HOn := hid (hO10.stay hb11)
  have Hnl := hid (fun j (h : P3 (.slice x3q S'.wait.length y3q) (.slice x4q S'.busy.length y4q) (.slice x5q S'.vars.length y5q) j) => (by rcases h with h | h | h; exact own_lt hO10.o3 j h; exact own_lt hO10.o4 j h; exact own_lt hO10.o5 j h))
  have hln := lt_heap hk11
  have HKn := hid hk11
  have hsn : V10.heap.size + 1 = (V10.alloc (.cells #[.int .i64 S'.status, .int .i64 S'.begun, .int .i64 S'.last, .slice x3q S'.wait.length y3q, .slice x4q S'.busy.length y4q, .slice x5q S'.vars.length y5q, .int .i64 S'.faults, .int .i64 c] 35)).heap.size := by simp
  clear hb11 hk11 hO10
  unfold outV
  go_upto_region 12 with fail
  generalize (V10.alloc (.cells #[.int .i64 S'.status, .int .i64 S'.begun, .int .i64 S'.last, .slice x3q S'.wait.length y3q, .slice x4q S'.busy.length y4q, .slice x5q S'.vars.length y5q, .int .i64 S'.faults, .int .i64 c] 35)) = V11 at *
  have HKe_11 := HKn
  have HOe_11 := HOn
  have Hel := Hnl
  have hBe := hln
  clear HKn HOn Hnl hln
  have c80 : V11.cell? ⟨V5.heap.size, 0, none⟩ = some (.int .i64 S'.status) := by rw [Lib.cell_of_heap HK8_11.out]; rfl
  have c81 : V11.cell? ⟨V5.heap.size, 1, none⟩ = some (.int .i64 S'.begun) := by rw [Lib.cell_of_heap HK8_11.out]; rfl
  have c82 : V11.cell? ⟨V5.heap.size, 2, none⟩ = some (.int .i64 S'.last) := by rw [Lib.cell_of_heap HK8_11.out]; rfl
  have c83 : V11.cell? ⟨V5.heap.size, 3, none⟩ = some (.slice x3 S'.wait.length y3) := by rw [Lib.cell_of_heap HK8_11.out]; rfl
  have c84 : V11.cell? ⟨V5.heap.size, 4, none⟩ = some (.slice x4 S'.busy.length y4) := by rw [Lib.cell_of_heap HK8_11.out]; rfl
  have c85 : V11.cell? ⟨V5.heap.size, 5, none⟩ = some (.slice x5 S'.vars.length y5) := by rw [Lib.cell_of_heap HK8_11.out]; rfl
  have c86 : V11.cell? ⟨V5.heap.size, 6, none⟩ = some (.int .i64 S'.faults) := by rw [Lib.cell_of_heap HK8_11.out]; rfl
  have c87 : V11.cell? ⟨V5.heap.size, 7, none⟩ = some (.int .i64 c) := by rw [Lib.cell_of_heap HK8_11.out]; rfl
  have ce0 : V11.cell? ⟨V10.heap.size, 0, none⟩ = some (.int .i64 S'.status) := by rw [Lib.cell_of_heap HKe_11.out]; rfl
  have ce1 : V11.cell? ⟨V10.heap.size, 1, none⟩ = some (.int .i64 S'.begun) := by rw [Lib.cell_of_heap HKe_11.out]; rfl
  have ce2 : V11.cell? ⟨V10.heap.size, 2, none⟩ = some (.int .i64 S'.last) := by rw [Lib.cell_of_heap HKe_11.out]; rfl
  have ce3 : V11.cell? ⟨V10.heap.size, 3, none⟩ = some (.slice x3q S'.wait.length y3q) := by rw [Lib.cell_of_heap HKe_11.out]; rfl
  have ce4 : V11.cell? ⟨V10.heap.size, 4, none⟩ = some (.slice x4q S'.busy.length y4q) := by rw [Lib.cell_of_heap HKe_11.out]; rfl
  have ce5 : V11.cell? ⟨V10.heap.size, 5, none⟩ = some (.slice x5q S'.vars.length y5q) := by rw [Lib.cell_of_heap HKe_11.out]; rfl
  have ce6 : V11.cell? ⟨V10.heap.size, 6, none⟩ = some (.int .i64 S'.faults) := by rw [Lib.cell_of_heap HKe_11.out]; rfl
  have ce7 : V11.cell? ⟨V10.heap.size, 7, none⟩ = some (.int .i64 c) := by rw [Lib.cell_of_heap HKe_11.out]; rfl
  go_wp2_with fail
  refine (eqStateOut_same _ _ c S' _ _ _ _ _ _ _ HOe_11.out HO8_11.out (Nat.le_trans hw3 (by decide)) (Nat.le_trans hw4 (by decide)) (Nat.le_trans hw5 (by decide))).mono ?_
  rintro x V12 ⟨rfl, hb12⟩
  clear c80 c81 c82 c83 c84 c85 c86 c87 ce0 ce1 ce2 ce3 ce4 ce5 ce6 ce7
  have HC12 := hid (HC11.out.trans (hb12.mono HC11.out.size))
  have HB12 := hid (HB11.out.trans (hb12.mono HB11.out.size))
  have hz12 := hb12.size
  have HK8_12 := hid ((hb12.block _ (lt_heap HK8_11.out)).trans HK8_11.out)
  have HKd_12 := hid ((hb12.block _ (lt_heap HKd_11.out)).trans HKd_11.out)
  have HKe_12 := hid ((hb12.block _ (lt_heap HKe_11.out)).trans HKe_11.out)
  have HO8_12 := hid (StOwn.stay HO8_11.out hb12)
  have HOd_12 := hid (DefOwn.stay HOd_11.out hb12)
  have HOu_12 := hid (ownB_stay HOu_11.out hb12)
  have HOe_12 := hid (StOwn.stay HOe_11.out hb12)
  clear HK8_11 HKd_11 HKe_11 HO8_11 HOd_11 HOu_11 HOe_11
  clear hb12
  have ca0 := (HC12.out.cell (p := ⟨w.heap.size, 0, none⟩) (by show w.heap.size < _; omega)).trans Kd0.out
  have ca1 := (HC12.out.cell (p := ⟨w.heap.size, 1, none⟩) (by show w.heap.size < _; omega)).trans Kd1.out
  have cd0 : V12.cell? ⟨V7.heap.size, 0, none⟩ = some (.slice d1 ss.length f1) := by rw [Lib.cell_of_heap HKd_12.out]; rfl
  have cd1 : V12.cell? ⟨V7.heap.size, 1, none⟩ = some (.slice d2 fs.length f2) := by rw [Lib.cell_of_heap HKd_12.out]; rfl
  have hlA : w.heap.size < V12.heap.size := by have := HC12.out.size; omega
  have hlB : V7.heap.size < V12.heap.size := lt_heap HKd_12.out
  have hbR : Below V12.heap.size V12 V12.drew := (Below.refl _ _).drew
  go_wp2_with fail
  go_region_held3 (fun w' => w'.cell? ⟨w.heap.size, 0, none⟩ = some (.slice a1 ss.length k1) ∧ w'.cell? ⟨w.heap.size, 1, none⟩ = some (.slice a2 fs.length k2) ∧ w'.cell? ⟨V7.heap.size, 0, none⟩ = some (.slice d1 ss.length f1) ∧ w'.cell? ⟨V7.heap.size, 1, none⟩ = some (.slice d2 fs.length f2) ∧ Below V12.heap.size V12 w') (go_keep) (first | (go_at_call 20; refine (toDef_own a1 a2 k1 k2 ss fs _ ((HD.out.stay HB12.out).stay hbR) m1 m2).mono ?_; rintro x V13 ⟨i1, i2, j1, j2, rfl, hD13, hq13⟩; have hb13 := hbR.trans (hq13.mono hbR.size); have ka0_13 := (hb13.cell (p := ⟨w.heap.size, 0, none⟩) hlA).trans ca0; have ka1_13 := (hb13.cell (p := ⟨w.heap.size, 1, none⟩) hlA).trans ca1; have kb0_13 := (hb13.cell (p := ⟨V7.heap.size, 0, none⟩) hlB).trans cd0; have kb1_13 := (hb13.cell (p := ⟨V7.heap.size, 1, none⟩) hlB).trans cd1) | (go_at_call 24; refine (eqDef_same d1 d2 i1 i2 f1 f2 j1 j2 ss fs _ (HOd_12.out.stay hb13).sl.h1 (HOd_12.out.stay hb13).sl.h2 hD13.sl.h1 hD13.sl.h2 (Nat.le_trans m1 (by decide)) (Nat.le_trans m2 (by decide))).mono ?_; rintro x V14 ⟨rfl, hq14⟩; have hb14 := hb13.trans (hq14.mono hb13.size); have ka0_14 := (hb14.cell (p := ⟨w.heap.size, 0, none⟩) hlA).trans ca0; have ka1_14 := (hb14.cell (p := ⟨w.heap.size, 1, none⟩) hlA).trans ca1; have kb0_14 := (hb14.cell (p := ⟨V7.heap.size, 0, none⟩) hlB).trans cd0; have kb1_14 := (hb14.cell (p := ⟨V7.heap.size, 1, none⟩) hlB).trans cd1))
  have HC14 := hid (HC12.out.trans (hb14.mono HC12.out.size))
  have HB14 := hid (HB12.out.trans (hb14.mono HB12.out.size))
  have hz14 := hb14.size
  have HK8_14 := hid ((hb14.block _ (lt_heap HK8_12.out)).trans HK8_12.out)
  have HKd_14 := hid ((hb14.block _ (lt_heap HKd_12.out)).trans HKd_12.out)
  have HKe_14 := hid ((hb14.block _ (lt_heap HKe_12.out)).trans HKe_12.out)
  have HO8_14 := hid (StOwn.stay HO8_12.out hb14)
  have HOd_14 := hid (DefOwn.stay HOd_12.out hb14)
  have HOu_14 := hid (ownB_stay HOu_12.out hb14)
  have HOe_14 := hid (StOwn.stay HOe_12.out hb14)
  clear HK8_12 HKd_12 HKe_12 HO8_12 HOd_12 HOu_12 HOe_12
  clear hlA hlB hbR hq13 hD13 hb13 hq14 hb14 ka0_13 ka0_14 ka1_13 ka1_14 kb0_13 kb0_14 kb1_13 kb1_14
  clear cd0 cd1
  clear ca0 ca1
  go_wp2_with fail
  refine (toEventS_any (.slice a6 es.length k6) es _ (HV.out.stay HB14.out (Nat.le_refl _)) m6).mono ?_
  rintro x V15 ⟨vv, rfl, hu15, hb15⟩
  obtain ⟨p6z, q6z, rfl⟩ := ownB_form hu15
  have HC15 := hid (HC14.out.trans (hb15.mono HC14.out.size))
  have HB15 := hid (HB14.out.trans (hb15.mono HB14.out.size))
  have hz15 := hb15.size
  have HK8_15 := hid ((hb15.block _ (lt_heap HK8_14.out)).trans HK8_14.out)
  have HKd_15 := hid ((hb15.block _ (lt_heap HKd_14.out)).trans HKd_14.out)
  have HKe_15 := hid ((hb15.block _ (lt_heap HKe_14.out)).trans HKe_14.out)
  have HO8_15 := hid (StOwn.stay HO8_14.out hb15)
  have HOd_15 := hid (DefOwn.stay HOd_14.out hb15)
  have HOu_15 := hid (ownB_stay HOu_14.out hb15)
  have HOe_15 := hid (StOwn.stay HOe_14.out hb15)
  clear HK8_14 HKd_14 HKe_14 HO8_14 HOd_14 HOu_14 HOe_14
  have cc := hid (eqEventS_any (.slice p6 es.length q6) (.slice p6z es.length q6z) es V15 (sl_of_own HOu_15.out) (sl_of_own hu15) (Nat.le_trans m6 (by decide)))
  clear hb15 hu15
  go_wp2_with fail
  refine cc.out.mono ?_
  rintro x V16 ⟨rfl, hb16⟩
  have HC16 := hid (HC15.out.trans (hb16.mono HC15.out.size))
  have HB16 := hid (HB15.out.trans (hb16.mono HB15.out.size))
  have hz16 := hb16.size
  have HK8_16 := hid ((hb16.block _ (lt_heap HK8_15.out)).trans HK8_15.out)
  have HKd_16 := hid ((hb16.block _ (lt_heap HKd_15.out)).trans HKd_15.out)
  have HKe_16 := hid ((hb16.block _ (lt_heap HKe_15.out)).trans HKe_15.out)
  have HO8_16 := hid (StOwn.stay HO8_15.out hb16)
  have HOd_16 := hid (DefOwn.stay HOd_15.out hb16)
  have HOu_16 := hid (ownB_stay HOu_15.out hb16)
  have HOe_16 := hid (StOwn.stay HOe_15.out hb16)
  clear HK8_15 HKd_15 HKe_15 HO8_15 HOd_15 HOu_15 HOe_15
  clear hb16 cc
  have cd0 : V16.cell? ⟨V7.heap.size, 0, none⟩ = some (.slice d1 ss.length f1) := by rw [Lib.cell_of_heap HKd_16.out]; rfl
  have cd1 : V16.cell? ⟨V7.heap.size, 1, none⟩ = some (.slice d2 fs.length f2) := by rw [Lib.cell_of_heap HKd_16.out]; rfl
  go_wp2_with fail
  refine (markDef_own _ ss.length fs.length 1 _ _ _ _ _ HOd_16.out.o1 HOd_16.out.o2 (by decide) (by omega)).mono ?_
  rintro x V17 ⟨rfl, hc17⟩
  clear cd0 cd1
  have HC17 := hid (HC16.out.trans (hc17.below HC16.out.size (fun j h => by have := Hdl.out j h; have := HC6.out.size; omega)))
  have HB17 := hid (HB16.out.trans (hc17.below HB16.out.size (fun j h => by have := Hdl.out j h; have := HB6.out.size; omega)))
  have hz17 := hc17.size
  have HK8_17 := hid ((hc17.block _ (lt_heap HK8_16.out) (fun h => h.elim (fun h => own_ne HOd_16.out.o1 HK8_16.out (by decide) _ h rfl) (fun h => own_ne HOd_16.out.o2 HK8_16.out (by decide) _ h rfl))).trans HK8_16.out)
  have HKe_17 := hid ((hc17.block _ (lt_heap HKe_16.out) (fun h => h.elim (fun h => own_ne HOd_16.out.o1 HKe_16.out (by decide) _ h rfl) (fun h => own_ne HOd_16.out.o2 HKe_16.out (by decide) _ h rfl))).trans HKe_16.out)
  have HO8_17 := hid (HO8_16.out.chgT hc17 (fun g hg h => by have := H8l.out g (Or.inl hg); have := Hdl.out g h; omega) (fun g hg h => by have := H8l.out g (Or.inr (Or.inl hg)); have := Hdl.out g h; omega) (fun g hg h => by have := H8l.out g (Or.inr (Or.inr hg)); have := Hdl.out g h; omega))
  have HOu_17 := hid (own_chg HOu_16.out hc17 (fun g hg h => by have := Hul.out g hg; have := Hdl.out g h; omega))
  have HOe_17 := hid (HOe_16.out.chgT hc17 (fun g hg h => by have := Hel.out g (Or.inl hg); have := Hdl.out g h; omega) (fun g hg h => by have := Hel.out g (Or.inr (Or.inl hg)); have := Hdl.out g h; omega) (fun g hg h => by have := Hel.out g (Or.inr (Or.inr hg)); have := Hdl.out g h; omega))
  clear HK8_16 HKd_16 HKe_16 HO8_16 HOd_16 HOu_16 HOe_16 hc17
  have hK1 : 0 < (1 + (ss.length : Int) + 2 * (fs.length : Int)) ∧ (1 + (ss.length : Int) + 2 * (fs.length : Int)) ≤ 4000000 := by omega
  generalize (1 + (ss.length : Int) + 2 * (fs.length : Int)) = K1 at *
  go_wp2_with fail
  refine (markEventS_own _ es.length _ K1 _ _ HOu_17.out hK1.1 (by omega)).mono ?_
  rintro x V18 ⟨rfl, hc18⟩
  have HC18 := hid (HC17.out.trans (hc18.below HC17.out.size (fun j h => by have := Hul.out j h; have := HC6.out.size; omega)))
  have HB18 := hid (HB17.out.trans (hc18.below HB17.out.size (fun j h => by have := Hul.out j h; have := HB6.out.size; omega)))
  have hz18 := hc18.size
  have HK8_18 := hid ((hc18.block _ (lt_heap HK8_17.out) (fun h => own_ne HOu_17.out HK8_17.out (by decide) _ h rfl)).trans HK8_17.out)
  have HKe_18 := hid ((hc18.block _ (lt_heap HKe_17.out) (fun h => own_ne HOu_17.out HKe_17.out (by decide) _ h rfl)).trans HKe_17.out)
  have HO8_18 := hid (HO8_17.out.chgT hc18 (fun g hg h => by have := H8l.out g (Or.inl hg); have := Hul.out g h; omega) (fun g hg h => by have := H8l.out g (Or.inr (Or.inl hg)); have := Hul.out g h; omega) (fun g hg h => by have := H8l.out g (Or.inr (Or.inr hg)); have := Hul.out g h; omega))
  have HOe_18 := hid (HOe_17.out.chgT hc18 (fun g hg h => by have := Hel.out g (Or.inl hg); have := Hul.out g h; omega) (fun g hg h => by have := Hel.out g (Or.inr (Or.inl hg)); have := Hul.out g h; omega) (fun g hg h => by have := Hel.out g (Or.inr (Or.inr hg)); have := Hul.out g h; omega))
  clear HK8_17 HKe_17 HO8_17 HOu_17 HOe_17 hc18
  have hK2 : 0 < K1 + 6 * (es.length : Int) := by omega
  generalize K1 + 6 * (es.length : Int) = K2 at *
  have hK2n : decide (K2 < 0) = false := by simp; omega
  have c80 : V18.cell? ⟨V5.heap.size, 0, none⟩ = some (.int .i64 S'.status) := by rw [Lib.cell_of_heap HK8_18.out]; rfl
  have c81 : V18.cell? ⟨V5.heap.size, 1, none⟩ = some (.int .i64 S'.begun) := by rw [Lib.cell_of_heap HK8_18.out]; rfl
  have c82 : V18.cell? ⟨V5.heap.size, 2, none⟩ = some (.int .i64 S'.last) := by rw [Lib.cell_of_heap HK8_18.out]; rfl
  have c83 : V18.cell? ⟨V5.heap.size, 3, none⟩ = some (.slice x3 S'.wait.length y3) := by rw [Lib.cell_of_heap HK8_18.out]; rfl
  have c84 : V18.cell? ⟨V5.heap.size, 4, none⟩ = some (.slice x4 S'.busy.length y4) := by rw [Lib.cell_of_heap HK8_18.out]; rfl
  have c85 : V18.cell? ⟨V5.heap.size, 5, none⟩ = some (.slice x5 S'.vars.length y5) := by rw [Lib.cell_of_heap HK8_18.out]; rfl
  have c86 : V18.cell? ⟨V5.heap.size, 6, none⟩ = some (.int .i64 S'.faults) := by rw [Lib.cell_of_heap HK8_18.out]; rfl
  have c87 : V18.cell? ⟨V5.heap.size, 7, none⟩ = some (.int .i64 c) := by rw [Lib.cell_of_heap HK8_18.out]; rfl
  have ce0 : V18.cell? ⟨V10.heap.size, 0, none⟩ = some (.int .i64 S'.status) := by rw [Lib.cell_of_heap HKe_18.out]; rfl
  have ce1 : V18.cell? ⟨V10.heap.size, 1, none⟩ = some (.int .i64 S'.begun) := by rw [Lib.cell_of_heap HKe_18.out]; rfl
  have ce2 : V18.cell? ⟨V10.heap.size, 2, none⟩ = some (.int .i64 S'.last) := by rw [Lib.cell_of_heap HKe_18.out]; rfl
  have ce3 : V18.cell? ⟨V10.heap.size, 3, none⟩ = some (.slice x3q S'.wait.length y3q) := by rw [Lib.cell_of_heap HKe_18.out]; rfl
  have ce4 : V18.cell? ⟨V10.heap.size, 4, none⟩ = some (.slice x4q S'.busy.length y4q) := by rw [Lib.cell_of_heap HKe_18.out]; rfl
  have ce5 : V18.cell? ⟨V10.heap.size, 5, none⟩ = some (.slice x5q S'.vars.length y5q) := by rw [Lib.cell_of_heap HKe_18.out]; rfl
  have ce6 : V18.cell? ⟨V10.heap.size, 6, none⟩ = some (.int .i64 S'.faults) := by rw [Lib.cell_of_heap HKe_18.out]; rfl
  have ce7 : V18.cell? ⟨V10.heap.size, 7, none⟩ = some (.int .i64 c) := by rw [Lib.cell_of_heap HKe_18.out]; rfl
  go_wp2_with fail
  refine (eqStateOut_same _ _ c S' _ _ _ _ _ _ _ HOe_18.out HO8_18.out (Nat.le_trans hw3 (by decide)) (Nat.le_trans hw4 (by decide)) (Nat.le_trans hw5 (by decide))).mono ?_
  rintro x V19 ⟨rfl, hb19⟩
  clear c80 c81 c82 c83 c84 c85 c86 c87 ce0 ce1 ce2 ce3 ce4 ce5 ce6 ce7
  have HC19 := hid (HC18.out.trans (hb19.mono HC18.out.size))
  have HB19 := hid (HB18.out.trans (hb19.mono HB18.out.size))
  have hz19 := hb19.size
  have HK8_19 := hid ((hb19.block _ (lt_heap HK8_18.out)).trans HK8_18.out)
  have HKe_19 := hid ((hb19.block _ (lt_heap HKe_18.out)).trans HKe_18.out)
  have HO8_19 := hid (StOwn.stay HO8_18.out hb19)
  have HOe_19 := hid (StOwn.stay HOe_18.out hb19)
  clear HK8_18 HKe_18 HO8_18 HOe_18
  clear hb19
  have ce0 : V19.cell? ⟨V10.heap.size, 0, none⟩ = some (.int .i64 S'.status) := by rw [Lib.cell_of_heap HKe_19.out]; rfl
  have ce1 : V19.cell? ⟨V10.heap.size, 1, none⟩ = some (.int .i64 S'.begun) := by rw [Lib.cell_of_heap HKe_19.out]; rfl
  have ce2 : V19.cell? ⟨V10.heap.size, 2, none⟩ = some (.int .i64 S'.last) := by rw [Lib.cell_of_heap HKe_19.out]; rfl
  have ce3 : V19.cell? ⟨V10.heap.size, 3, none⟩ = some (.slice x3q S'.wait.length y3q) := by rw [Lib.cell_of_heap HKe_19.out]; rfl
  have ce4 : V19.cell? ⟨V10.heap.size, 4, none⟩ = some (.slice x4q S'.busy.length y4q) := by rw [Lib.cell_of_heap HKe_19.out]; rfl
  have ce5 : V19.cell? ⟨V10.heap.size, 5, none⟩ = some (.slice x5q S'.vars.length y5q) := by rw [Lib.cell_of_heap HKe_19.out]; rfl
  have ce6 : V19.cell? ⟨V10.heap.size, 6, none⟩ = some (.int .i64 S'.faults) := by rw [Lib.cell_of_heap HKe_19.out]; rfl
  have ce7 : V19.cell? ⟨V10.heap.size, 7, none⟩ = some (.int .i64 c) := by rw [Lib.cell_of_heap HKe_19.out]; rfl
  go_wp2_with fail
  refine (markStateOut_own _ c S' _ _ _ _ HOe_19.out (by omega)).mono ?_
  rintro x V20 ⟨rfl, hM, hc20⟩
  clear ce0 ce1 ce2 ce3 ce4 ce5 ce6 ce7
  have HC20 := hid (HC19.out.trans (hc20.below HC19.out.size (fun j h => by have := Hel.out j h; have := HC6.out.size; omega)))
  have HB20 := hid (HB19.out.trans (hc20.below HB19.out.size (fun j h => by have := Hel.out j h; have := HB6.out.size; omega)))
  have hz20 := hc20.size
  have HK8_20 := hid ((hc20.block _ (lt_heap HK8_19.out) (fun h => by rcases h with h | h | h; exact own_ne HOe_19.out.o3 HK8_19.out (by decide) _ h rfl; exact own_ne HOe_19.out.o4 HK8_19.out (by decide) _ h rfl; exact own_ne HOe_19.out.o5 HK8_19.out (by decide) _ h rfl)).trans HK8_19.out)
  have HKe_20 := hid ((hc20.block _ (lt_heap HKe_19.out) (fun h => by rcases h with h | h | h; exact own_ne HOe_19.out.o3 HKe_19.out (by decide) _ h rfl; exact own_ne HOe_19.out.o4 HKe_19.out (by decide) _ h rfl; exact own_ne HOe_19.out.o5 HKe_19.out (by decide) _ h rfl)).trans HKe_19.out)
  have HO8_20 := hid (HO8_19.out.chgT hc20 (fun g hg h => by have := H8l.out g (Or.inl hg); have := Hel.out g h; omega) (fun g hg h => by have := H8l.out g (Or.inr (Or.inl hg)); have := Hel.out g h; omega) (fun g hg h => by have := H8l.out g (Or.inr (Or.inr hg)); have := Hel.out g h; omega))
  clear HK8_19 HKe_19 HO8_19 HOe_19 hc20
  have HM_20 := hid hM
  clear hM
  have ce0 : V20.cell? ⟨V10.heap.size, 0, none⟩ = some (.int .i64 S'.status) := by rw [Lib.cell_of_heap HKe_20.out]; rfl
  have ce1 : V20.cell? ⟨V10.heap.size, 1, none⟩ = some (.int .i64 S'.begun) := by rw [Lib.cell_of_heap HKe_20.out]; rfl
  have ce2 : V20.cell? ⟨V10.heap.size, 2, none⟩ = some (.int .i64 S'.last) := by rw [Lib.cell_of_heap HKe_20.out]; rfl
  have ce3 : V20.cell? ⟨V10.heap.size, 3, none⟩ = some (.slice x3q S'.wait.length y3q) := by rw [Lib.cell_of_heap HKe_20.out]; rfl
  have ce4 : V20.cell? ⟨V10.heap.size, 4, none⟩ = some (.slice x4q S'.busy.length y4q) := by rw [Lib.cell_of_heap HKe_20.out]; rfl
  have ce5 : V20.cell? ⟨V10.heap.size, 5, none⟩ = some (.slice x5q S'.vars.length y5q) := by rw [Lib.cell_of_heap HKe_20.out]; rfl
  have ce6 : V20.cell? ⟨V10.heap.size, 6, none⟩ = some (.int .i64 S'.faults) := by rw [Lib.cell_of_heap HKe_20.out]; rfl
  have ce7 : V20.cell? ⟨V10.heap.size, 7, none⟩ = some (.int .i64 c) := by rw [Lib.cell_of_heap HKe_20.out]; rfl
  go_wp2_with fail
  refine (heldStateOut_own _ _ _ _ c S'.status S'.begun S'.last S'.faults _ _ _ _ HM_20.out (by omega)).mono ?_
  rintro x V21 ⟨rfl, hb21⟩
  clear ce0 ce1 ce2 ce3 ce4 ce5 ce6 ce7
  have HO8_21 := hid (HO8_20.out.stay hb21)
  have HM_21 := hid (HM_20.out.stay hb21)
  have HK8_21 := hid ((hb21.block _ (lt_heap HK8_20.out)).trans HK8_20.out)
  have HKe_21 := hid ((hb21.block _ (lt_heap HKe_20.out)).trans HKe_20.out)
  have HC21 := hid (HC20.out.trans (hb21.mono HC20.out.size))
  have HB21 := hid (HB20.out.trans (hb21.mono HB20.out.size))
  have hz21 := hb21.size
  clear HO8_20 HM_20 HK8_20 HKe_20 hb21
  have hK3 : 0 < 1 + (S'.wait.length : Int) + (S'.busy.length : Int) + 2 * (S'.vars.length : Int) := by omega
  have cH := hid (fun V (hV : Below V21.heap.size V21 V) => heldStateOut_own _ _ _ _ c S'.status S'.begun S'.last S'.faults _ _ _ V (HM_21.out.stay hV) (by omega))
  generalize 1 + (S'.wait.length : Int) + (S'.busy.length : Int) + 2 * (S'.vars.length : Int) = K3 at *
  have hK3n : decide (K3 < 0) = false := by simp; omega
  have hR21 := Below.refl V21.heap.size V21
  have ca0 := (HC21.out.cell (p := ⟨w.heap.size, 0, none⟩) (by show w.heap.size < _; omega)).trans Kd0.out
  have ca1 := (HC21.out.cell (p := ⟨w.heap.size, 1, none⟩) (by show w.heap.size < _; omega)).trans Kd1.out
  go_wp2_with fail
  refine (toDef_own a1 a2 k1 k2 ss fs _ (HD.out.stay HB21.out) m1 m2).mono ?_
  rintro x V22 ⟨p1p, p2p, q1p, q2p, rfl, hO22, hb22⟩
  clear ca0 ca1
  have HC22 := hid (HC21.out.trans (hb22.mono HC21.out.size))
  have HB22 := hid (HB21.out.trans (hb22.mono HB21.out.size))
  have hz22 := hb22.size
  have HK8_22 := hid ((hb22.block _ (lt_heap HK8_21.out)).trans HK8_21.out)
  have HKe_22 := hid ((hb22.block _ (lt_heap HKe_21.out)).trans HKe_21.out)
  have HO8_22 := hid (StOwn.stay HO8_21.out hb22)
  clear HK8_21 HKe_21 HO8_21
  have hR22 := hR21.trans (hb22.mono hR21.size)
  clear hR21
  clear hb22
  go_wp2_with fail
  refine (toEventS_any (.slice a6 es.length k6) es _ (HV.out.stay HB22.out (Nat.le_refl _)) m6).mono ?_
  rintro x V23 ⟨vv, rfl, hu23, hb23⟩
  obtain ⟨p6p, q6p, rfl⟩ := ownB_form hu23
  have HC23 := hid (HC22.out.trans (hb23.mono HC22.out.size))
  have HB23 := hid (HB22.out.trans (hb23.mono HB22.out.size))
  have hz23 := hb23.size
  have HK8_23 := hid ((hb23.block _ (lt_heap HK8_22.out)).trans HK8_22.out)
  have HKe_23 := hid ((hb23.block _ (lt_heap HKe_22.out)).trans HKe_22.out)
  have HO8_23 := hid (StOwn.stay HO8_22.out hb23)
  clear HK8_22 HKe_22 HO8_22
  have hR23 := hR22.trans (hb23.mono hR22.size)
  clear hR22
  have cc := hid (cIm.out p1p p2p p6p q1p q2p q6p V23 (hO22.stay hb23).sl (sl_of_own hu23) (HE.out.stay HB23.out))
  clear hb23 hO22 hu23
  go_wp2_with fail
  refine cc.out.mono ?_
  rintro x V24 ⟨z3, z4, z5, rfl, hO24, hb24⟩
  obtain ⟨x3p, x4p, x5p, y3p, y4p, y5p, rfl, rfl, rfl⟩ := hO24.forms
  have HC24 := hid (HC23.out.trans (hb24.mono HC23.out.size))
  have HB24 := hid (HB23.out.trans (hb24.mono HB23.out.size))
  have hz24 := hb24.size
  have HK8_24 := hid ((hb24.block _ (lt_heap HK8_23.out)).trans HK8_23.out)
  have HKe_24 := hid ((hb24.block _ (lt_heap HKe_23.out)).trans HKe_23.out)
  have HO8_24 := hid (StOwn.stay HO8_23.out hb24)
  clear HK8_23 HKe_23 HO8_23
  have hR24 := hR23.trans (hb24.mono hR23.size)
  clear hR23
  clear hb24 cc
  have hb25 : Below V24.heap.size V24 (V24.alloc (.cells #[.int .i64 S'.status, .int .i64 S'.begun, .int .i64 S'.last, .slice x3p S'.wait.length y3p, .slice x4p S'.busy.length y4p, .slice x5p S'.vars.length y5p, .int .i64 S'.faults, .int .i64 c] 35)) := (Below.refl _ _).alloc (Nat.le_refl _) _
  have HC25 := hid (HC24.out.trans (hb25.mono HC24.out.size))
  have HB25 := hid (HB24.out.trans (hb25.mono HB24.out.size))
  have hz25 := hb25.size
  have HK8_25 := hid ((hb25.block _ (lt_heap HK8_24.out)).trans HK8_24.out)
  have HKe_25 := hid ((hb25.block _ (lt_heap HKe_24.out)).trans HKe_24.out)
  have HO8_25 := hid (StOwn.stay HO8_24.out hb25)
  clear HK8_24 HKe_24 HO8_24
  have hR25 := hR24.trans (hb25.mono hR24.size)
  clear hR24
  have hk25 := heap_alloc_new V24 (.cells #[.int .i64 S'.status, .int .i64 S'.begun, .int .i64 S'.last, .slice x3p S'.wait.length y3p, .slice x4p S'.busy.length y4p, .slice x5p S'.vars.length y5p, .int .i64 S'.faults, .int .i64 c] 35)
  have HOn := hid (hO24.stay hb25)
  have Hnl := hid (fun j (h : P3 (.slice x3p S'.wait.length y3p) (.slice x4p S'.busy.length y4p) (.slice x5p S'.vars.length y5p) j) => (by rcases h with h | h | h; exact own_lt hO24.o3 j h; exact own_lt hO24.o4 j h; exact own_lt hO24.o5 j h))
  have hln := lt_heap hk25
  have HKn := hid hk25
  have hsn : V24.heap.size + 1 = (V24.alloc (.cells #[.int .i64 S'.status, .int .i64 S'.begun, .int .i64 S'.last, .slice x3p S'.wait.length y3p, .slice x4p S'.busy.length y4p, .slice x5p S'.vars.length y5p, .int .i64 S'.faults, .int .i64 c] 35)).heap.size := by simp
  clear hb25 hk25 hO24
  unfold outV
  go_upto_region 32 with fail
  generalize (V24.alloc (.cells #[.int .i64 S'.status, .int .i64 S'.begun, .int .i64 S'.last, .slice x3p S'.wait.length y3p, .slice x4p S'.busy.length y4p, .slice x5p S'.vars.length y5p, .int .i64 S'.faults, .int .i64 c] 35)) = V25 at *
  have HKp_25 := HKn
  have HOp_25 := HOn
  clear HKn HOn Hnl hln
  have c80 : V25.cell? ⟨V5.heap.size, 0, none⟩ = some (.int .i64 S'.status) := by rw [Lib.cell_of_heap HK8_25.out]; rfl
  have c81 : V25.cell? ⟨V5.heap.size, 1, none⟩ = some (.int .i64 S'.begun) := by rw [Lib.cell_of_heap HK8_25.out]; rfl
  have c82 : V25.cell? ⟨V5.heap.size, 2, none⟩ = some (.int .i64 S'.last) := by rw [Lib.cell_of_heap HK8_25.out]; rfl
  have c83 : V25.cell? ⟨V5.heap.size, 3, none⟩ = some (.slice x3 S'.wait.length y3) := by rw [Lib.cell_of_heap HK8_25.out]; rfl
  have c84 : V25.cell? ⟨V5.heap.size, 4, none⟩ = some (.slice x4 S'.busy.length y4) := by rw [Lib.cell_of_heap HK8_25.out]; rfl
  have c85 : V25.cell? ⟨V5.heap.size, 5, none⟩ = some (.slice x5 S'.vars.length y5) := by rw [Lib.cell_of_heap HK8_25.out]; rfl
  have c86 : V25.cell? ⟨V5.heap.size, 6, none⟩ = some (.int .i64 S'.faults) := by rw [Lib.cell_of_heap HK8_25.out]; rfl
  have c87 : V25.cell? ⟨V5.heap.size, 7, none⟩ = some (.int .i64 c) := by rw [Lib.cell_of_heap HK8_25.out]; rfl
  have cp0 : V25.cell? ⟨V24.heap.size, 0, none⟩ = some (.int .i64 S'.status) := by rw [Lib.cell_of_heap HKp_25.out]; rfl
  have cp1 : V25.cell? ⟨V24.heap.size, 1, none⟩ = some (.int .i64 S'.begun) := by rw [Lib.cell_of_heap HKp_25.out]; rfl
  have cp2 : V25.cell? ⟨V24.heap.size, 2, none⟩ = some (.int .i64 S'.last) := by rw [Lib.cell_of_heap HKp_25.out]; rfl
  have cp3 : V25.cell? ⟨V24.heap.size, 3, none⟩ = some (.slice x3p S'.wait.length y3p) := by rw [Lib.cell_of_heap HKp_25.out]; rfl
  have cp4 : V25.cell? ⟨V24.heap.size, 4, none⟩ = some (.slice x4p S'.busy.length y4p) := by rw [Lib.cell_of_heap HKp_25.out]; rfl
  have cp5 : V25.cell? ⟨V24.heap.size, 5, none⟩ = some (.slice x5p S'.vars.length y5p) := by rw [Lib.cell_of_heap HKp_25.out]; rfl
  have cp6 : V25.cell? ⟨V24.heap.size, 6, none⟩ = some (.int .i64 S'.faults) := by rw [Lib.cell_of_heap HKp_25.out]; rfl
  have cp7 : V25.cell? ⟨V24.heap.size, 7, none⟩ = some (.int .i64 c) := by rw [Lib.cell_of_heap HKp_25.out]; rfl
  go_wp2_with fail
  refine (eqStateOut_same _ _ c S' _ _ _ _ _ _ _ HOp_25.out HO8_25.out (Nat.le_trans hw3 (by decide)) (Nat.le_trans hw4 (by decide)) (Nat.le_trans hw5 (by decide))).mono ?_
  rintro x V26 ⟨rfl, hb26⟩
  clear c80 c81 c82 c83 c84 c85 c86 c87 cp0 cp1 cp2 cp3 cp4 cp5 cp6 cp7
  have hR26 := hR25.trans (hb26.mono hR25.size)
  have HKe_26 := hid ((hb26.block _ (lt_heap HKe_25.out)).trans HKe_25.out)
  have HB26 := hid (HB25.out.trans (hb26.mono HB25.out.size))
  have ce0 : V26.cell? ⟨V10.heap.size, 0, none⟩ = some (.int .i64 S'.status) := by rw [Lib.cell_of_heap HKe_26.out]; rfl
  have ce1 : V26.cell? ⟨V10.heap.size, 1, none⟩ = some (.int .i64 S'.begun) := by rw [Lib.cell_of_heap HKe_26.out]; rfl
  have ce2 : V26.cell? ⟨V10.heap.size, 2, none⟩ = some (.int .i64 S'.last) := by rw [Lib.cell_of_heap HKe_26.out]; rfl
  have ce3 : V26.cell? ⟨V10.heap.size, 3, none⟩ = some (.slice x3q S'.wait.length y3q) := by rw [Lib.cell_of_heap HKe_26.out]; rfl
  have ce4 : V26.cell? ⟨V10.heap.size, 4, none⟩ = some (.slice x4q S'.busy.length y4q) := by rw [Lib.cell_of_heap HKe_26.out]; rfl
  have ce5 : V26.cell? ⟨V10.heap.size, 5, none⟩ = some (.slice x5q S'.vars.length y5q) := by rw [Lib.cell_of_heap HKe_26.out]; rfl
  have ce6 : V26.cell? ⟨V10.heap.size, 6, none⟩ = some (.int .i64 S'.faults) := by rw [Lib.cell_of_heap HKe_26.out]; rfl
  have ce7 : V26.cell? ⟨V10.heap.size, 7, none⟩ = some (.int .i64 c) := by rw [Lib.cell_of_heap HKe_26.out]; rfl
  go_wp2_with fail
  refine (cH.out _ hR26).mono ?_
  rintro x V27 ⟨rfl, hb27⟩
  have HB27 := hid (HB26.out.trans (hb27.mono HB26.out.size))
  clear ce0 ce1 ce2 ce3 ce4 ce5 ce6 ce7
  go_wp2_with fail
  go_ret
  exact ⟨rfl, HB27.out⟩
end Go.Proofs.YtihpadabgfhegaaGreatDoor
