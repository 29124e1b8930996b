/-
  Texts put together: DuH, EvC, EvAr, EvSz, EvTo.
-/
import Derived.Test.YthggcdadipjiiaaGreatDoorZDuF3
import Derived.Test.YthggcdadipjiiaaGreatDoorZSpAdd
import Derived.Test.YthggcdadipjiiaaGreatDoorZNm4
import Derived.Test.YthggcdadipjiiaaGreatDoorZSpDo24
import Derived.Test.YthggcdadipjiiaaGreatDoorZDfV3
import Derived.Lib.Builder
/-
  How long steps lasted: how large what is told can get. Of no function.
-/
namespace Go.Proofs.YthggcdadipjiiaaGreatDoor
open Go.RowKit Go.Sort
set_option linter.unusedVariables false

theorem addD_of {s : ByteArray} {n : Int} {p q : Dur → Prop} (hpq : ∀ d, p d → q d) (hm : ∀ d, p d → q (d.more n)) (hn : q (newD s n)) : ∀ (l : List Dur), (∀ d ∈ l, p d) → ∀ d ∈ addD l s n, q d
  | [], _, d, h => by
    unfold addD at h
    rw [List.mem_singleton.1 h]; exact hn
  | x :: r, hl, d, h => by
    have hr : ∀ d ∈ r, p d := fun d hd => hl d (List.mem_cons_of_mem _ hd)
    have hx := hl x List.mem_cons_self
    unfold addD at h
    by_cases h1 : lt x.step s = true
    · rw [if_pos h1] at h
      rcases List.mem_cons.1 h with rfl | h
      · exact hpq _ hx
      · exact addD_of hpq hm hn r hr d h
    · rw [if_neg h1] at h
      by_cases h2 : x.step = s
      · rw [if_pos h2] at h
        rcases List.mem_cons.1 h with rfl | h
        · exact hm _ hx
        · exact hpq _ (hr d h)
      · rw [if_neg h2] at h
        rcases List.mem_cons.1 h with rfl | h
        · exact hn
        · rcases List.mem_cons.1 h with rfl | h
          · exact hpq _ hx
          · exact hpq _ (hr d h)
def DurI (i : Nat) (d : Dur) : Prop := 0 ≤ d.count ∧ d.count ≤ i ∧ -1000000 * (i : Int) ≤ d.sum ∧ d.sum ≤ 1000000 * (i : Int)
theorem DurI.b {i : Nat} {d : Dur} (h : DurI i d) (hi : i ≤ 1000) : DurB d := by
  obtain ⟨h1, h2, h3, h4⟩ := h
  unfold DurB
  refine ⟨h1, ?_, ?_, ?_⟩ <;> omega
theorem dursI_b {ss : List ByteArray} {fs : List Pr} {es : List Ev} (h : HistP ss fs es) (ht : ∀ j, (hj : j < es.length) → 0 ≤ es[j].time ∧ es[j].time ≤ 1000000) : ∀ i, i ≤ es.length → ∀ d ∈ dursI es i, DurI i d
  | 0, _, d, hd => by
    have hl := dursI_len es 0
    have : dursI es 0 = [] := List.eq_nil_of_length_eq_zero (by omega)
    rw [this] at hd
    exact absurd hd (by simp)
  | i + 1, hi, d, hd => by
    have ih := dursI_b h ht i (by omega)
    have hup : ∀ d, DurI i d → DurI (i + 1) d := fun d q => by
      obtain ⟨h1, h2, h3, h4⟩ := q
      refine ⟨h1, ?_, ?_, ?_⟩ <;> omega
    by_cases h3 : es[i].kind = 3
    · obtain ⟨k, hk, hki, h2, hr, hs, hL⟩ := leave_k h (show i < es.length by omega) h3
      rw [dursI_leave (by omega) h3 hk h2 hr hs hL] at hd
      have t1 := ht i (by omega)
      have t2 := ht k hk
      refine addD_of hup (fun d q => ?_) ?_ _ ih d hd
      · obtain ⟨h1, h2, h3, h4⟩ := q
        refine ⟨?_, ?_, ?_, ?_⟩ <;> simp only [Dur.more] <;> omega
      · refine ⟨?_, ?_, ?_, ?_⟩ <;> simp only [newD] <;> omega
    · rw [dursI_stay (by omega) h3] at hd
      exact hup d (ih d hd)
theorem HistP.time {ss : List ByteArray} {fs : List Pr} {es : List Ev} (h : HistP ss fs es) (j : Nat) (hj : j < es.length) : 0 ≤ es[j].time ∧ es[j].time ≤ 1000000 := by
  have := h.ev _ (List.getElem_mem hj)
  unfold evB timB at this
  simp only [Bool.and_eq_true, decide_eq_true_eq] at this
  exact this.2.2.1
theorem dursI_B {ss : List ByteArray} {fs : List Pr} {es : List Ev} (h : HistP ss fs es) {i : Nat} (hi : i ≤ es.length) : ∀ d ∈ dursI es i, DurB d := fun d hd => (dursI_b h h.time i hi d hd).b (by have := h.n; omega)
/-- What is taken, as a row of bools. -/
def tkL (es : List Ev) (i : Nat) : List Value := (List.range es.length).map fun k => .bool (tkn es i k)
theorem tkL_len (es : List Ev) (i : Nat) : (tkL es i).length = es.length := by simp [tkL]
theorem tkL_at (es : List Ev) (i : Nat) {k : Nat} (hk : k < es.length) : (tkL es i)[k]? = some (.bool (tkn es i k)) := by
  unfold tkL
  rw [List.getElem?_map, List.getElem?_range hk]
  rfl
theorem tkL_zero (es : List Ev) : tkL es 0 = List.replicate es.length (.bool false) := by
  refine List.ext_getElem? fun k => ?_
  by_cases hk : k < es.length
  · rw [tkL_at es 0 hk, tkn_at hk, List.getElem?_replicate, if_pos hk]
    simp
  · rw [List.getElem?_eq_none (by rw [tkL_len]; omega), List.getElem?_eq_none (by simp; omega)]
theorem tkL_stay {ss : List ByteArray} {fs : List Pr} {es : List Ev} (h : HistP ss fs es) {i : Nat} (hi : i < es.length) (h3 : es[i].kind ≠ 3) : tkL es (i + 1) = tkL es i := by
  refine List.ext_getElem? fun k => ?_
  by_cases hk : k < es.length
  · rw [tkL_at es _ hk, tkL_at es _ hk, tkn_stay h hi h3 hk]
  · rw [List.getElem?_eq_none (by rw [tkL_len]; omega), List.getElem?_eq_none (by rw [tkL_len]; omega)]
theorem tkL_leave {ss : List ByteArray} {fs : List Pr} {es : List Ev} (h : HistP ss fs es) {i k0 : Nat} (hi : i < es.length) (h3 : es[i].kind = 3) (hk0 : k0 < es.length) (h0 : k0 < i) (h2 : es[k0].kind = 2) (hr : es[k0].run = es[i].run) (hs : es[k0].step = es[i].step) (hL : nK 2 es[i].run es[i].step (es.take k0) = nK 3 es[i].run es[i].step (es.take i)) : (tkL es i).set k0 (.bool true) = tkL es (i + 1) := by
  refine List.ext_getElem? fun k => ?_
  by_cases hk : k < es.length
  · rw [tkL_at es _ hk, tkn_leave h hi h3 hk0 h0 h2 hr hs hL hk, List.getElem?_set, tkL_at es _ hk, tkL_len]
    by_cases e : k = k0
    · subst e; simp [hk]
    · rw [if_neg (fun q => e q.symm), if_neg e]
  · rw [List.getElem?_eq_none (by simp [tkL_len]; omega), List.getElem?_eq_none (by rw [tkL_len]; omega)]
end Go.Proofs.YthggcdadipjiiaaGreatDoor

/-
  An event's cells, and rows by their type. Of no function. (Cut off ItrC.)
-/
namespace Go.Proofs.YthggcdadipjiiaaGreatDoor
open Go.RowKit

theorem ev_one_cells (x : Ev) : ∀ u ∈ x.cells, u.oneCell' = true := by simp [Ev.cells, Value.oneCell']

theorem ev_new_cells (V : World) (x : Ev) (T : TypeId) : ∀ j u, x.cells[j]? = some u → (V.alloc (.cells #[.int .i64 x.seq, .int .i64 x.time, .int .i64 x.run, .int .i64 x.kind, .string x.step, .string x.val] T)).cell? ((⟨V.heap.size, 0, none⟩ : Addr).add j) = some u := by
  intro j u hj
  rw [Addr.add_lit, Lib.cell_of_heap (heap_alloc_new _ _), Nat.zero_add, ← hj]
  simp [Ev.cells]
/-- A row of one's own lies in a block of its type. -/
theorem own_type {w : World} {base size n : Nat} {e : TypeId} {v : Value} {xs : List Value} (h : w.ownsRow base e size v n xs) : ∀ k, v.ownBlock = some k → ∃ c t f, w.heap[k]? = some (.cells c t f) ∧ t = e := by
  intro k hk
  rcases h.2 with ⟨rfl, _⟩ | ⟨g, cap, cur, rfl, _, hgb, _⟩
  · cases hk
  · cases hk
    exact ⟨_, _, _, hgb, rfl⟩

end Go.Proofs.YthggcdadipjiiaaGreatDoor

/-
  What laws.szEvent and laws.toEvent answer, for every event: contracts over the seat's program.
-/
namespace Go.Proofs.YthggcdadipjiiaaGreatDoor
open Go.RowKit

theorem szEvent_any (q t r k : Int) (s v : ByteArray) (left : Int) (w : World) (h0 : 0 ≤ left) (h1 : left ≤ 1048576) (hs : s.size ≤ maxLen) (hv : v.size ≤ maxLen) :
    Calls Tryz.prog 33 #[.agg #[.int .i64 q, .int .i64 t, .int .i64 r, .int .i64 k, .string s, .string v], .int .i64 left] w fun e w' =>
      e = .returned (.int .i64 (if (s.size : Int) + (v.size : Int) ≤ left then left - (s.size : Int) - (v.size : Int) else -1)) ∧ Below w.heap.size w w' := by
  unfold maxLen at hs hv
  by_cases hz : (s.size : Int) + (v.size : Int) ≤ left
  · rw [if_pos hz]
    go_enter Tryz.func33, Tryz.ntmps33
    go_wp2
    go_ret
    exact ⟨rfl, (Below.refl _ _).alloc (Nat.le_refl _) _⟩
  · rw [if_neg hz]
    by_cases hz2 : (s.size : Int) ≤ left
    · go_enter Tryz.func33, Tryz.ntmps33
      go_wp2
      go_ret
      exact ⟨rfl, (Below.refl _ _).alloc (Nat.le_refl _) _⟩
    · go_enter Tryz.func33, Tryz.ntmps33
      go_wp2
      go_ret
      exact ⟨rfl, (Below.refl _ _).alloc (Nat.le_refl _) _⟩

set_option maxRecDepth 100000 in
theorem toEvent_any (q t r k : Int) (s v : ByteArray) (w : World) :
    Calls Tryz.prog 36 #[.agg #[.int .i64 q, .int .i64 t, .int .i64 r, .int .i64 k, .string s, .string v]] w fun e w' =>
      e = .returned (.agg #[.int .i64 q, .int .i64 t, .int .i64 r, .int .i64 k, .string s, .string v]) ∧ Below w.heap.size w w' := by
  go_enter Tryz.func36, Tryz.ntmps36
  go_wp2
  exact bodyPost_ret (v := .agg #[.int .i64 q, .int .i64 t, .int .i64 r, .int .i64 k, .string s, .string v]) (by simp [results, Tryz.results36, go_sem]) rfl ⟨rfl, (below2 _ _ _).alloc (by simp; omega) _⟩
end Go.Proofs.YthggcdadipjiiaaGreatDoor

/-
  What laws.szEventS answers: how much is left behind so many events and their texts: a contract over the seat's program.
-/
namespace Go.Proofs.YthggcdadipjiiaaGreatDoor
open Go.RowKit

def sumE : List Ev → Nat
  | [] => 0
  | e :: r => e.step.size + e.val.size + sumE r
theorem sumE_append (a b : List Ev) : sumE (a ++ b) = sumE a + sumE b := by
  induction a with
  | nil => simp [sumE]
  | cons e r ih => simp [sumE, ih]; omega
theorem sumE_take {es : List Ev} {k : Nat} (h : k < es.length) : sumE (es.take (k + 1)) = sumE (es.take k) + (es[k].step.size + es[k].val.size) := by
  rw [List.take_succ_eq_append_getElem h, sumE_append]; simp [sumE]
theorem sumE_le (es : List Ev) (k : Nat) : sumE (es.take k) ≤ sumE es := by
  have := sumE_append (es.take k) (es.drop k)
  rw [List.take_append_drop] at this; omega

/-- What is left. -/
def szR (left : Int) (es : List Ev) : Int := if (es.length : Int) + (sumE es : Int) ≤ left then left - (es.length : Int) - (sumE es : Int) else -1
theorem szR_yes {left : Int} {es : List Ev} (h : (es.length : Int) + (sumE es : Int) ≤ left) : szR left es = left - (es.length : Int) - (sumE es : Int) := if_pos h
theorem szR_no {left : Int} {es : List Ev} (h : left < (es.length : Int) + (sumE es : Int)) : szR left es = -1 := if_neg (by omega)
set_option maxRecDepth 100000 in
theorem szEventS_row (g o c : Nat) (es : List Ev) (left : Int) (w : World) (hE : EvsAt w g o es) (hF : Fit es) (h0 : 0 ≤ left) (h1 : left ≤ 1048576) (hn : es.length ≤ maxLen) :
    Calls Tryz.prog 9 #[.slice (some ⟨g, o, none⟩) es.length c, .int .i64 left] w fun e w' =>
      e = .returned (.int .i64 (szR left es)) ∧ Below w.heap.size w w' := by
  unfold maxLen at hn
  by_cases hz : (es.length : Int) ≤ left
  · have HE := hid hE
    clear hE
    go_enter Tryz.func9, Tryz.ntmps9
    go_wp2
    go_loopw [1, 5] (fun l i wr => ∃ k : Nat, k ≤ es.length ∧ i = .int .i64 k ∧ l = .int .i64 (left - (es.length : Int) - (sumE (es.take k) : Int)) ∧ 0 ≤ left - (es.length : Int) - (sumE (es.take k) : Int) ∧ Below w.heap.size w wr) (fun _ i _ => es.length - (intOf i).toNat)
    case atStart => exact ⟨0, Nat.zero_le _, rfl, by simp [sumE], by simp [sumE]; omega, Below.refl _ _⟩
    case round =>
      obtain ⟨k, hk, rfl, rfl, hl, hbel⟩ := hrel
      by_cases hlt : k < es.length
      · have hA := (HE.out.stay hbel (Nat.le_refl _)).2 k hlt
        obtain ⟨c0, c1, c2, c3, c4, c5⟩ := hA
        have hst := hid (sumE_take hlt)
        have hf := hF k hlt
        generalize es[k].seq = q0 at *
        generalize es[k].time = q1 at *
        generalize es[k].run = q2 at *
        generalize es[k].kind = q3 at *
        generalize es[k].step = q4 at *
        generalize es[k].val = q5 at *
        generalize hL : left - (es.length : Int) - (sumE (es.take k) : Int) = L at *
        have HL := hid hL
        have cz := fun w => szEvent_any q0 q1 q2 q3 q4 q5 L w hl (by omega) hf.1 hf.2
        clear hL hf
        by_cases hzz : (q4.size : Int) + (q5.size : Int) ≤ L
        · rw [if_pos hzz] at cz
          have hL0 : (0 : Int) ≤ L - (q4.size : Int) - (q5.size : Int) := by omega
          have hL1 : left - (es.length : Int) - (sumE (es.take (k + 1)) : Int) = L - (q4.size : Int) - (q5.size : Int) := by have := hst.out; have := HL.out; omega
          have HL1 := hid hL1
          clear hzz hL1
          generalize L - (q4.size : Int) - (q5.size : Int) = L2 at *
          go_wp2_with fail
          refine (cz _).mono ?_
          rintro e w1 ⟨rfl, hb1⟩
          have hbel1 := hbel.trans (hb1.mono hbel.size)
          clear c0 c1 c2 c3 c4 c5 hb1 cz
          go_wp2
          go_roundw
          case rel => exact ⟨k + 1, by omega, by go_num, by rw [HL1.out], by rw [HL1.out]; exact hL0, hbel1⟩
          case measure => simp [intOf]; omega
        · rw [if_neg hzz] at cz
          have hfin : szR left es = -1 := szR_no (by have := hst.out; have := HL.out; have := sumE_le es (k + 1); omega)
          have HF := hid hfin
          clear hzz hfin
          go_wp2_with fail
          refine (cz _).mono ?_
          rintro e w1 ⟨rfl, hb1⟩
          have hbel1 := hbel.trans (hb1.mono hbel.size)
          clear c0 c1 c2 c3 c4 c5 hb1 cz
          go_wp2
          go_ret
          exact ⟨by rw [HF.out]; rfl, hbel1⟩
      · have hk' : k = es.length := by omega
        have hT : es.take k = es := List.take_of_length_le (by omega)
        rw [hT] at hl
        have HT := hid hT
        have hfin := szR_yes (left := left) (es := es) (by omega)
        have HF := hid hfin
        clear hk' hT hfin
        go_wp2
        go_ret
        exact ⟨ret_int (by rw [HF.out, HT.out]), hbel⟩
  · have hfin := szR_no (left := left) (es := es) (by omega)
    have HF := hid hfin
    clear hfin hE
    go_enter Tryz.func9, Tryz.ntmps9
    go_wp2
    go_ret
    exact ⟨by rw [HF.out]; rfl, Below.refl _ _⟩
theorem szEventS_none (a : Option Addr) (c : Nat) (left : Int) (w : World) (h0 : 0 ≤ left) (h1 : left ≤ 1048576) :
    Calls Tryz.prog 9 #[.slice a 0 c, .int .i64 left] w fun e w' => e = .returned (.int .i64 left) ∧ w' = w := by
  go_enter Tryz.func9, Tryz.ntmps9
  go_wp2
  go_loop [1, 5] (fun l i => l = .int .i64 left ∧ i = .int .i64 0) (fun _ _ => 0)
  case atStart => exact ⟨rfl, rfl⟩
  case round =>
    obtain ⟨rfl, rfl⟩ := hrel
    go_wp2
    go_ret
    exact ⟨rfl, rfl⟩
end Go.Proofs.YthggcdadipjiiaaGreatDoor

/-
  What laws.toEventS answers: the same events in a new row: a contract over the seat's program.
-/
namespace Go.Proofs.YthggcdadipjiiaaGreatDoor
open Go.RowKit

theorem Tryz.infoEv : (Tryz.prog.info? 33).map (fun i => (i.zero, i.size, i.bytes)) = some (some (.agg #[.int .i64 0, .int .i64 0, .int .i64 0, .int .i64 0, .string ⟨#[]⟩, .string ⟨#[]⟩]), 6, 64) := by kernel_rfl

theorem own_row6 {w : World} {base g n : Nat} {e : TypeId} {xs : List Value} (h : w.ownsRow base e 6 (.slice (some ⟨g, 0, none⟩) n n) n xs) : ∃ L : List Value, L.length = n * 6 ∧ w.heap[g]? = some (.cells L.toArray e (0, 0)) := by
  rcases h.2 with ⟨h1, _⟩ | ⟨g', cap, cur, h1, _, hh, _, _, hc, _⟩
  · cases h1
  · injection h1 with h1 _ h3
    injection h1 with h1
    injection h1 with h1 _ _
    subst h1; subst h3
    exact ⟨cur.toList, by simpa using hc, by simpa using hh⟩
theorem lt_of_heap {w : World} {g : Nat} {o : Obj} (h : w.heap[g]? = some o) : g < w.heap.size := by
  rcases Nat.lt_or_ge g w.heap.size with h' | h'
  · exact h'
  · simp [Array.getElem?_eq_none h'] at h
theorem cell_there {w : World} {g j : Nat} {L : List Value} {t : TypeId} (h : w.heap[g]? = some (.cells L.toArray t (0, 0))) (hj : j < L.length) : ∃ u, w.cell? ⟨g, j, none⟩ = some u := by
  refine ⟨L[j], ?_⟩
  rw [Lib.cell_of_heap h]
  simp [hj]
theorem flat_take {es : List Ev} {k : Nat} (h : k < es.length) : (es.take (k + 1)).flatMap Ev.cells = (es.take k).flatMap Ev.cells ++ es[k].cells := by
  rw [List.take_succ_eq_append_getElem h, List.flatMap_append]; simp
theorem block_set {w : World} {g i : Nat} {L : List Value} {t : TypeId} (h : w.heap[g]? = some (.cells L.toArray t (0, 0))) (v : Value) : (w.setCell ⟨g, i, none⟩ v).heap[g]? = some (.cells (L.set i v).toArray t (0, 0)) := by
  rw [setCell_eq_setRow w g i L.toArray t (0, 0) v h]
  have := setRow_heap w g L.toArray (L.toArray.setIfInBounds i v) t (0, 0) h
  simpa using this
theorem block_set6 {w : World} {g : Nat} {L : List Value} {t : TypeId} (h : w.heap[g]? = some (.cells L.toArray t (0, 0))) (i : Nat) (a b c d e f : Value) :
    ((((((w.setCell ⟨g, i, none⟩ a).setCell ⟨g, i + 1, none⟩ b).setCell ⟨g, i + 2, none⟩ c).setCell ⟨g, i + 3, none⟩ d).setCell ⟨g, i + 4, none⟩ e).setCell ⟨g, i + 5, none⟩ f).heap[g]? = some (.cells ((((((L.set i a).set (i + 1) b).set (i + 2) c).set (i + 3) d).set (i + 4) e).set (i + 5) f).toArray t (0, 0)) :=
  block_set (block_set (block_set (block_set (block_set (block_set h a) b) c) d) e) f
theorem set6_below {B : Nat} {w0 w : World} {g : Nat} (h : Below B w0 w) (hg : B ≤ g) (i : Nat) (a b c d e f : Value) :
    Below B w0 ((((((w.setCell ⟨g, i, none⟩ a).setCell ⟨g, i + 1, none⟩ b).setCell ⟨g, i + 2, none⟩ c).setCell ⟨g, i + 3, none⟩ d).setCell ⟨g, i + 4, none⟩ e).setCell ⟨g, i + 5, none⟩ f) :=
  (((((h.setCell (p := ⟨g, i, none⟩) hg a).setCell (p := ⟨g, i + 1, none⟩) hg b).setCell (p := ⟨g, i + 2, none⟩) hg c).setCell (p := ⟨g, i + 3, none⟩) hg d).setCell (p := ⟨g, i + 4, none⟩) hg e).setCell (p := ⟨g, i + 5, none⟩) hg f
theorem set6_len {L : List Value} {i : Nat} {a b c d e f : Value} : ((((((L.set i a).set (i + 1) b).set (i + 2) c).set (i + 3) d).set (i + 4) e).set (i + 5) f).length = L.length := by simp
theorem set6_take {L : List Value} {i : Nat} {a b c d e f : Value} (h : i + 6 ≤ L.length) : (((((((L.set i a).set (i + 1) b).set (i + 2) c).set (i + 3) d).set (i + 4) e).set (i + 5) f).take (i + 6)) = L.take i ++ [a, b, c, d, e, f] := by
  apply List.ext_getElem?
  intro j
  by_cases h0 : j < i
  · rw [List.getElem?_append_left (by simp; omega)]
    simp [show ¬ i = j by omega, show ¬ i + 1 = j by omega, show ¬ i + 2 = j by omega, show ¬ i + 3 = j by omega, show ¬ i + 4 = j by omega, show ¬ i + 5 = j by omega, h0, show j < i + 6 by omega]
  · obtain ⟨m, rfl⟩ : ∃ m, j = i + m := ⟨j - i, by omega⟩
    rw [List.getElem?_append_right (by simp; omega), show i + m - (L.take i).length = m by simp; omega]
    match m with
    | 0 => simp [List.getElem?_set]; omega
    | 1 => simp [List.getElem?_set]; omega
    | 2 => simp [List.getElem?_set]; omega
    | 3 => simp [List.getElem?_set]; omega
    | 4 => simp [List.getElem?_set]; omega
    | 5 => simp [List.getElem?_set]; omega
    | n + 6 => simp [List.getElem?_take]; omega
set_option maxRecDepth 100000 in
theorem toEventS_row (g o c : Nat) (es : List Ev) (w : World) (hE : EvsAt w g o es) (hn : es.length ≤ 1048576) :
    Calls Tryz.prog 11 #[.slice (some ⟨g, o, none⟩) es.length c] w fun e w' =>
      ∃ v, e = .returned v ∧ w'.ownsRow w.heap.size 33 6 v es.length (es.flatMap Ev.cells) ∧ Below w.heap.size w w' := by
  obtain ⟨i0, hi, hz0, hz1, hz2⟩ := info_parts Tryz.infoEv
  have HE := hid hE
  clear hE
  go_enter Tryz.func11, Tryz.ntmps11
  go_wp2_with (at_make; refine wpList_make_full _ rfl _ _ 27 rfl w.heap.size 33 i0 _ 6 Tryz.underlying27 hi hz0 hz1 _ _ _ _ es.length rfl rfl ?m1 ?m2 ?m3 ?m4 (Nat.le_refl _) ?_)
  case m1 => omega
  case m2 => omega
  case m3 => rw [hz2]; omega
  case m4 => unfold maxLen; omega
  intro w1 hown hgrow
  have hB1 : Below w.heap.size w w1 := (Below.refl _ _).grown hgrow (Nat.le_refl _) (fun k h => by cases h)
  obtain ⟨L0, hL0, hG0⟩ := own_row6 hown
  have H0 := hid hL0
  have HG0 := hid hG0
  clear hown hgrow hi hz0 hz1 hz2 hL0 hG0 i0
  go_wp2
  go_loopw [4] (fun i wr => ∃ (k : Nat) (L : List Value), k ≤ es.length ∧ i = .int .i64 k ∧ L.length = es.length * 6 ∧ L.take (k * 6) = (es.take k).flatMap Ev.cells ∧ wr.heap[w.heap.size]? = some (.cells L.toArray 33 (0, 0)) ∧ Below w.heap.size w wr) (fun i _ => es.length - (intOf i).toNat)
  case atStart => exact ⟨0, L0, Nat.zero_le _, rfl, H0.out, by simp, HG0.out, hB1⟩
  case round =>
    obtain ⟨k, L, hk, rfl, hL, hT, hG, hbel⟩ := hrel
    have HT := hid hT
    have HL := hid hL
    have HG := hid hG
    clear hT hL hG
    have hzr := lt_of_heap HG.out
    by_cases hlt : k < es.length
    · obtain ⟨c0, c1, c2, c3, c4, c5⟩ := (HE.out.stay hbel (Nat.le_refl _)).2 k hlt
      have HC := hid (flat_take hlt)
      have cz := fun w => toEvent_any es[k].seq es[k].time es[k].run es[k].kind es[k].step es[k].val w
      go_wp2_with fail
      refine (cz _).mono ?_
      rintro e w2 ⟨rfl, hb2⟩
      have hG2 : w2.heap[w.heap.size]? = some (.cells L.toArray 33 (0, 0)) := by rw [hb2.block _ hzr]; exact HG.out
      have hbel2 := hbel.trans (hb2.mono hbel.size)
      clear c0 c1 c2 c3 c4 c5 hb2 cz
      have hfz : ∀ j, w2.frozen? ⟨w.heap.size, j, none⟩ = false := fun j => Lib.frozen_of_heap hG2 j
      have hce : ∀ j, j < 6 → ∃ u, w2.cell? ⟨w.heap.size, k * 6 + j, none⟩ = some u := fun j hj => cell_there hG2 (by have := HL.out; omega)
      obtain ⟨u0, d0⟩ : ∃ u, w2.cell? ⟨w.heap.size, k * 6, none⟩ = some u := hce 0 (by decide)
      obtain ⟨u1, d1⟩ := hce 1 (by decide)
      obtain ⟨u2, d2⟩ := hce 2 (by decide)
      obtain ⟨u3, d3⟩ := hce 3 (by decide)
      obtain ⟨u4, d4⟩ := hce 4 (by decide)
      obtain ⟨u5, d5⟩ := hce 5 (by decide)
      have HG2 := hid hG2
      clear hG2 hce
      go_wp2
      go_roundw
      case rel =>
        refine ⟨k + 1, _, by omega, by go_num, ?_, ?_, block_set6 HG2.out _ _ _ _ _ _ _, set6_below hbel2 (Nat.le_refl _) _ _ _ _ _ _ _⟩
        · rw [set6_len]; exact HL.out
        · rw [show (k + 1) * 6 = k * 6 + 6 by omega, set6_take (by have := HL.out; omega), HT.out, HC.out]; rfl
      case measure => simp [intOf]; omega
    · have hke : k = es.length := by omega
      have HK := hid hke
      clear hke
      go_wp2
      go_ret
      refine ⟨_, rfl, ⟨flat_len es, .inr ⟨w.heap.size, es.length, L.toArray, rfl, Nat.le_refl _, HG.out, Nat.le_refl _, by unfold maxLen; omega, by simpa using HL.out, ?_⟩⟩, hbel⟩
      have := HT.out
      rw [HK.out, List.take_of_length_le (Nat.le_refl es.length)] at this
      simpa using this
theorem toEventS_none (a : Option Addr) (c : Nat) (w : World) :
    Calls Tryz.prog 11 #[.slice a 0 c] w fun e w' =>
      ∃ v, e = .returned v ∧ w'.ownsRow w.heap.size 33 6 v 0 [] ∧ Below w.heap.size w w' := by
  obtain ⟨i0, hi, hz0, hz1, hz2⟩ := info_parts Tryz.infoEv
  go_enter Tryz.func11, Tryz.ntmps11
  go_wp2_with (at_make; refine wpList_make_full _ rfl _ _ 27 rfl w.heap.size 33 i0 _ 6 Tryz.underlying27 hi hz0 hz1 _ _ _ _ 0 rfl rfl ?m1 ?m2 ?m3 ?m4 (Nat.le_refl _) ?_)
  case m1 => rfl
  case m2 => rfl
  case m3 => rw [hz2]; omega
  case m4 => unfold maxLen; omega
  intro w1 hown hgrow
  have hB1 : Below w.heap.size w w1 := (Below.refl _ _).grown hgrow (Nat.le_refl _) (fun k h => by cases h)
  have HO : Hid (w1.ownsRow w.heap.size 33 6 (.slice (some ⟨w.heap.size, 0, none⟩) 0 0) 0 []) := by
    have h0 := hown.1
    rw [Nat.zero_mul] at h0
    rw [List.eq_nil_of_length_eq_zero h0] at hown
    exact hown
  clear hown hgrow hi hz0 hz1 hz2 i0
  go_wp2
  go_loop [4] (fun i => i = .int .i64 0) (fun _ => 0)
  case atStart => exact rfl
  case round =>
    subst hrel
    go_wp2
    go_ret
    exact ⟨_, rfl, HO.out, hB1⟩
theorem toEventS_any (v : Value) (es : List Ev) (w : World) (h : EvSl w v es) (hn : es.length ≤ 1048576) :
    Calls Tryz.prog 11 #[v] w fun e w' =>
      ∃ v, e = .returned v ∧ w'.ownsRow w.heap.size 33 6 v es.length (es.flatMap Ev.cells) ∧ Below w.heap.size w w' := by
  rcases h with ⟨a, c, rfl, rfl⟩ | ⟨g, o, c, rfl, _, h⟩
  · exact toEventS_none a c w
  · exact toEventS_row g o c es w h hn
end Go.Proofs.YthggcdadipjiiaaGreatDoor
