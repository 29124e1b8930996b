/-
 Texts put together: EvI, EvAr, EvSz, EvTo, Chg, OwnB, OwnC, EvC.
-/
import Derived.Test.YtookchpdbilbcaaGreatDoorZEvX11
import Derived.Laws.StructEq
import Derived.Lib.Builder
import Derived.Test.YtookchpdbilbcaaGreatDoorZAgg6
set_option maxRecDepth 100000
set_option maxHeartbeats 1000000
/-
 Events: what impl.kindRight and impl.EventRight answer, for every event: contracts over the seat's program.
-/
namespace Go.Proofs.YtookchpdbilbcaaGreatDoor
open Go.RowKit
theorem ZBm {s : ByteArray} (h : ¬ s = ByteArray.empty) : ¬ s.toList = [] := by
 intro e
 rw [ByteArray.toList_eq] at e
 exact h (ByteArray.ext (Array.toList_inj.1 e))
theorem ZHN {k : Int} {s v : ByteArray} (h1 : ¬ k = 1) (h2 : ¬ k = 2) (h3 : ¬ k = 3) (h4 : ¬ k = 4) (h5 : ¬ k = 5) (h6 : ¬ k = 6) : kndB k s v = false := by simp [kndB, h1, h2, h3, h4, h5, h6]
theorem ZGS {k : Int} {s v : ByteArray} (hk : k = 1 ∨ k = 6) : kndB k s v = (decide (s = ByteArray.empty) && decide (v = ByteArray.empty)) := by
 rcases hk with rfl | rfl <;> simp [kndB]
theorem ZF7 {k : Int} {s v : ByteArray} (hk : k = 2 ∨ k = 3 ∨ k = 5) : kndB k s v = (nrB s && decide (v = ByteArray.empty)) := by
 rcases hk with rfl | rfl | rfl <;> simp [kndB]
theorem ZH5 {s v : ByteArray} : kndB 4 s v = (nrB s && decide (v.size ≤ 40)) := by simp [kndB]
theorem ZDP (q t r k : Int) (s v : ByteArray) (w : World) (hk : k = 1 ∨ k = 6) :
  Calls Tryz.prog 123 #[.agg #[.int .i64 q, .int .i64 t, .int .i64 r, .int .i64 k, .string s, .string v]] w fun e w' => e = .returned (.bool (kndB k s v)) ∧ Below w.heap.size w w' := by
 rw [ZGS hk]
 by_cases hs : s = ByteArray.empty
 ·subst hs
  by_cases hv : v = ByteArray.empty
  ·subst hv
   rcases hk with rfl | rfl
   all_goals
    go_enter Tryz.func123, Tryz.ntmps123
    go_wp2
    go_ret
    exact ⟨rfl, below2 _ _ _⟩
  ·rw [show (decide (ByteArray.empty = ByteArray.empty) && decide (v = ByteArray.empty)) = false by simp [hv]]
   have hvb := ZBm hv
   clear hv
   rcases hk with rfl | rfl
   all_goals
    go_enter Tryz.func123, Tryz.ntmps123
    go_wp2
    go_ret
    exact ⟨rfl, below2 _ _ _⟩
 ·rw [show (decide (s = ByteArray.empty) && decide (v = ByteArray.empty)) = false by simp [hs]]
  have hsb := ZBm hs
  clear hs
  rcases hk with rfl | rfl
  all_goals
   go_enter Tryz.func123, Tryz.ntmps123
   go_wp2
   go_ret
   exact ⟨rfl, below2 _ _ _⟩
theorem ZDd (q t r k : Int) (s v : ByteArray) (w : World) (hs : s.size ≤ maxLen) (hk : k = 2 ∨ k = 3 ∨ k = 5) :
  Calls Tryz.prog 123 #[.agg #[.int .i64 q, .int .i64 t, .int .i64 r, .int .i64 k, .string s, .string v]] w fun e w' => e = .returned (.bool (kndB k s v)) ∧ Below w.heap.size w w' := by
 rw [ZF7 hk]
 have c1 := fun w => ZAm s w hs
 clear hs
 by_cases hv : v = ByteArray.empty
 ·subst hv
  rw [show (nrB s && decide (ByteArray.empty = ByteArray.empty)) = nrB s by simp]
  generalize nrB s = B at *
  rcases hk with rfl | rfl | rfl
  all_goals
   go_enter Tryz.func123, Tryz.ntmps123
   go_wp2_with (go_at_call 119; refine (c1 _).mono ?_; rintro e w1 ⟨rfl, rfl⟩)
   go_ret
   exact ⟨rfl, below2 _ _ _⟩
 ·rw [show (nrB s && decide (v = ByteArray.empty)) = false by simp [hv]]
  have hvb := ZBm hv
  clear hv
  rcases hk with rfl | rfl | rfl
  all_goals
   go_enter Tryz.func123, Tryz.ntmps123
   go_wp2
   go_ret
   exact ⟨rfl, below2 _ _ _⟩
theorem ZDz (q t r : Int) (s v : ByteArray) (w : World) (hs : s.size ≤ maxLen) :
  Calls Tryz.prog 123 #[.agg #[.int .i64 q, .int .i64 t, .int .i64 r, .int .i64 4, .string s, .string v]] w fun e w' => e = .returned (.bool (kndB 4 s v)) ∧ Below w.heap.size w w' := by
 rw [ZH5]
 have c1 := fun w => ZAm s w hs
 clear hs
 cases hn : nrB s with
 | true =>
  rw [hn] at c1
  clear hn
  rw [Bool.true_and, show decide (v.size ≤ 40) = decide ((v.size : Int) ≤ 40) by simp only [decide_eq_decide]; omega]
  go_enter Tryz.func123, Tryz.ntmps123
  go_wp2_with (go_at_call 119; refine (c1 _).mono ?_; rintro e w1 ⟨rfl, rfl⟩)
  go_ret
  exact ⟨rfl, below2 _ _ _⟩
 | false =>
  rw [hn] at c1
  clear hn
  go_enter Tryz.func123, Tryz.ntmps123
  go_wp2_with (go_at_call 119; refine (c1 _).mono ?_; rintro e w1 ⟨rfl, rfl⟩)
  go_ret
  exact ⟨rfl, below2 _ _ _⟩
theorem ZEl (q t r k : Int) (s v : ByteArray) (w : World) (h1 : (k == 1) = false) (h2 : (k == 2) = false) (h3 : (k == 3) = false) (h4 : (k == 4) = false) (h5 : (k == 5) = false) (h6 : (k == 6) = false) :
  Calls Tryz.prog 123 #[.agg #[.int .i64 q, .int .i64 t, .int .i64 r, .int .i64 k, .string s, .string v]] w fun e w' => e = .returned (.bool false) ∧ Below w.heap.size w w' := by
 go_enter Tryz.func123, Tryz.ntmps123
 go_wp2
 go_ret
 exact ⟨rfl, below2 _ _ _⟩
theorem kindCases (k : Int) : (k = 1 ∨ k = 6) ∨ (k = 2 ∨ k = 3 ∨ k = 5) ∨ k = 4 ∨ (¬ k = 1 ∧ ¬ k = 2 ∧ ¬ k = 3 ∧ ¬ k = 4 ∧ ¬ k = 5 ∧ ¬ k = 6) := by omega
theorem ZD6 (q t r k : Int) (s v : ByteArray) (w : World) (hs : s.size ≤ maxLen) :
  Calls Tryz.prog 123 #[.agg #[.int .i64 q, .int .i64 t, .int .i64 r, .int .i64 k, .string s, .string v]] w fun e w' => e = .returned (.bool (kndB k s v)) ∧ Below w.heap.size w w' := by
 rcases kindCases k with h | h | rfl | ⟨h1, h2, h3, h4, h5, h6⟩
 ·exact ZDP q t r k s v w h
 ·exact ZDd q t r k s v w hs h
 ·exact ZDz q t r s v w hs
 ·rw [ZHN h1 h2 h3 h4 h5 h6]
  exact ZEl q t r k s v w (by simpa using h1) (by simpa using h2) (by simpa using h3) (by simpa using h4) (by simpa using h5) (by simpa using h6)
theorem ZAM (q t r k : Int) (s v : ByteArray) (w : World) (hs : s.size ≤ maxLen) :
  Calls Tryz.prog 111 #[.agg #[.int .i64 q, .int .i64 t, .int .i64 r, .int .i64 k, .string s, .string v]] w fun e w' => e = .returned (.bool (evB ⟨q, t, r, k, s, v⟩)) ∧ Below w.heap.size w w' := by
 have c1 := fun w => ZBN q w
 have c2 := fun w => ZDp t w
 have c3 := fun w => ZBN r w
 have c4 := fun w => ZD6 q t r k s v w hs
 unfold evB
 generalize numB q = B1 at *
 generalize timB t = B2 at *
 generalize numB r = B3 at *
 generalize kndB k s v = B4 at *
 clear hs
 cases B1 with
 | false =>
  go_enter Tryz.func111, Tryz.ntmps111
  go_wp2_with fail
  refine (c1 _).mono ?_
  rintro e w1 ⟨rfl, rfl⟩
  go_wp2
  go_ret
  exact ⟨rfl, (bR _ _).alloc nL _⟩
 | true =>
  cases B2 with
  | false =>
   go_enter Tryz.func111, Tryz.ntmps111
   go_wp2_with fail
   refine (c1 _).mono ?_
   rintro e w1 ⟨rfl, rfl⟩
   go_wp2_with fail
   refine (c2 _).mono ?_
   rintro e w1 ⟨rfl, rfl⟩
   go_wp2
   go_ret
   exact ⟨ZAd (by simp), (bR _ _).alloc nL _⟩
  | true =>
   cases B3 with
   | false =>
    go_enter Tryz.func111, Tryz.ntmps111
    go_wp2_with fail
    refine (c1 _).mono ?_
    rintro e w1 ⟨rfl, rfl⟩
    go_wp2_with fail
    refine (c2 _).mono ?_
    rintro e w1 ⟨rfl, rfl⟩
    go_wp2_with fail
    refine (c3 _).mono ?_
    rintro e w1 ⟨rfl, rfl⟩
    go_wp2
    go_ret
    exact ⟨rfl, (bR _ _).alloc nL _⟩
   | true =>
    go_enter Tryz.func111, Tryz.ntmps111
    go_wp2_with fail
    refine (c1 _).mono ?_
    rintro e w1 ⟨rfl, rfl⟩
    go_wp2_with fail
    refine (c2 _).mono ?_
    rintro e w1 ⟨rfl, rfl⟩
    go_wp2_with fail
    refine (c3 _).mono ?_
    rintro e w1 ⟨rfl, rfl⟩
    go_wp2_with fail
    refine (c4 _).mono ?_
    rintro e w2 ⟨rfl, hb⟩
    go_wp2
    go_ret
    exact ⟨rfl, ((Below.refl w.heap.size w).alloc nL _).trans (hb.mono (B' := w.heap.size) (by simp))⟩
end Go.Proofs.YtookchpdbilbcaaGreatDoor
/-
 What laws.szEvent and laws.toEvent answer, for every event: contracts over the seat's program.
-/
namespace Go.Proofs.YtookchpdbilbcaaGreatDoor
open Go.RowKit
theorem ZFu (q t r k : Int) (s v : ByteArray) (left : Int) (w : World) (h0 : 0 ≤ left) (h1 : left ≤ 1048576) (hs : s.size ≤ maxLen) (hv : v.size ≤ maxLen) :
  Calls Tryz.prog 21 #[.agg #[.int .i64 q, .int .i64 t, .int .i64 r, .int .i64 k, .string s, .string v], .int .i64 left] w fun e w' =>
   e = .returned (.int .i64 (if (s.size : Int) + (v.size : Int) ≤ left then left - (s.size : Int) - (v.size : Int) else -1)) ∧ Below w.heap.size w w' := by
 unfold maxLen at hs hv
 by_cases hz : (s.size : Int) + (v.size : Int) ≤ left
 ·rw [if_pos hz]
  go_enter Tryz.func21, Tryz.ntmps21
  go_wp2
  go_ret
  exact ⟨rfl, (bR _ _).alloc nL _⟩
 ·rw [if_neg hz]
  by_cases hz2 : (s.size : Int) ≤ left
  ·go_enter Tryz.func21, Tryz.ntmps21
   go_wp2
   go_ret
   exact ⟨rfl, (bR _ _).alloc nL _⟩
  ·go_enter Tryz.func21, Tryz.ntmps21
   go_wp2
   go_ret
   exact ⟨rfl, (bR _ _).alloc nL _⟩
theorem ZFp (q t r k : Int) (s v : ByteArray) (w : World) :
  Calls Tryz.prog 25 #[.agg #[.int .i64 q, .int .i64 t, .int .i64 r, .int .i64 k, .string s, .string v]] w fun e w' =>
   e = .returned (.agg #[.int .i64 q, .int .i64 t, .int .i64 r, .int .i64 k, .string s, .string v]) ∧ Below w.heap.size w w' := by
 go_enter Tryz.func25, Tryz.ntmps25
 go_wp2
 exact bodyPost_ret (v := .agg #[.int .i64 q, .int .i64 t, .int .i64 r, .int .i64 k, .string s, .string v]) (by simp [results, Tryz.results25, go_sem]) rfl ⟨rfl, (below2 _ _ _).alloc (by simp; omega) _⟩
end Go.Proofs.YtookchpdbilbcaaGreatDoor
/-
 What laws.szEventS answers: how much is left behind so many events and their texts: a contract over the seat's program.
-/
namespace Go.Proofs.YtookchpdbilbcaaGreatDoor
open Go.RowKit
def sumE : List Ev → Nat
 | [] => 0
 | e :: r => e.step.size + e.val.size + sumE r
theorem ZCd (a b : List Ev) : sumE (a ++ b) = sumE a + sumE b := by
 induction a with
 | nil => simp [sumE]
 | cons e r ih => simp [sumE, ih]; omega
theorem ZIP {es : List Ev} {k : Nat} (h : k < es.length) : sumE (es.take (k + 1)) = sumE (es.take k) + (es[k].step.size + es[k].val.size) := by
 rw [List.take_succ_eq_append_getElem h, ZCd]; simp [sumE]
theorem sumE_le (es : List Ev) (k : Nat) : sumE (es.take k) ≤ sumE es := by
 have := ZCd (es.take k) (es.drop k)
 rw [List.take_append_drop] at this; omega
/-- What is left. -/
def szR (left : Int) (es : List Ev) : Int := if (es.length : Int) + (sumE es : Int) ≤ left then left - (es.length : Int) - (sumE es : Int) else -1
theorem ZDy {left : Int} {es : List Ev} (h : (es.length : Int) + (sumE es : Int) ≤ left) : szR left es = left - (es.length : Int) - (sumE es : Int) := if_pos h
theorem ZGV {left : Int} {es : List Ev} (h : left < (es.length : Int) + (sumE es : Int)) : szR left es = -1 := if_neg (by omega)
theorem ZE8 (g o c : Nat) (es : List Ev) (left : Int) (w : World) (hE : EvsAt w g o es) (hF : Fit es) (h0 : 0 ≤ left) (h1 : left ≤ 1048576) (hn : es.length ≤ maxLen) :
  Calls Tryz.prog 6 #[.slice (some ⟨g, o, none⟩) es.length c, .int .i64 left] w fun e w' =>
   e = .returned (.int .i64 (szR left es)) ∧ Below w.heap.size w w' := by
 unfold maxLen at hn
 by_cases hz : (es.length : Int) ≤ left
 ·have HE := hid hE
  clear hE
  go_enter Tryz.func6, Tryz.ntmps6
  go_wp2
  go_loopw [1, 5] (fun l i wr => ∃ k : Nat, k ≤ es.length ∧ i = .int .i64 k ∧ l = .int .i64 (left - (es.length : Int) - (sumE (es.take k) : Int)) ∧ 0 ≤ left - (es.length : Int) - (sumE (es.take k) : Int) ∧ Below w.heap.size w wr) (fun _ i _ => es.length - (intOf i).toNat)
  case atStart => exact ⟨0, Nat.zero_le _, rfl, by simp [sumE], by simp [sumE]; omega, Below.refl _ _⟩
  case round =>
   obtain ⟨k, hk, rfl, rfl, hl, hbel⟩ := hrel
   by_cases hlt : k < es.length
   ·have hA := (HE.out.stay hbel nL).2 k hlt
    obtain ⟨c0, c1, c2, c3, c4, c5⟩ := hA
    have hst := hid (ZIP hlt)
    have hf := hF k hlt
    generalize es[k].seq = q0 at *
    generalize es[k].time = q1 at *
    generalize es[k].run = q2 at *
    generalize es[k].kind = q3 at *
    generalize es[k].step = q4 at *
    generalize es[k].val = q5 at *
    generalize hL : left - (es.length : Int) - (sumE (es.take k) : Int) = L at *
    have HL := hid hL
    have cz := fun w => ZFu q0 q1 q2 q3 q4 q5 L w hl (by omega) hf.1 hf.2
    clear hL hf
    by_cases hzz : (q4.size : Int) + (q5.size : Int) ≤ L
    ·rw [if_pos hzz] at cz
     have hL0 : (0 : Int) ≤ L - (q4.size : Int) - (q5.size : Int) := by omega
     have hL1 : left - (es.length : Int) - (sumE (es.take (k + 1)) : Int) = L - (q4.size : Int) - (q5.size : Int) := by have := hst.out; have := HL.out; omega
     have HL1 := hid hL1
     clear hzz hL1
     generalize L - (q4.size : Int) - (q5.size : Int) = L2 at *
     go_wp2_with fail
     refine (cz _).mono ?_
     rintro e w1 ⟨rfl, hb1⟩
     have hbel1 := hbel.trans (hb1.mono hbel.size)
     clear c0 c1 c2 c3 c4 c5 hb1 cz
     go_wp2
     go_roundw
     case rel => exact ⟨k + 1, by omega, by go_num, by rw [HL1.out], by rw [HL1.out]; exact hL0, hbel1⟩
     case measure => simp [intOf]; omega
    ·rw [if_neg hzz] at cz
     have hfin : szR left es = -1 := ZGV (by have := hst.out; have := HL.out; have := sumE_le es (k + 1); omega)
     have HF := hid hfin
     clear hzz hfin
     go_wp2_with fail
     refine (cz _).mono ?_
     rintro e w1 ⟨rfl, hb1⟩
     have hbel1 := hbel.trans (hb1.mono hbel.size)
     clear c0 c1 c2 c3 c4 c5 hb1 cz
     go_wp2
     go_ret
     exact ⟨by rw [HF.out]; rfl, hbel1⟩
   ·have hk' : k = es.length := by omega
    have hT : es.take k = es := List.take_of_length_le (by omega)
    rw [hT] at hl
    have HT := hid hT
    have hfin := ZDy (left := left) (es := es) (by omega)
    have HF := hid hfin
    clear hk' hT hfin
    go_wp2
    go_ret
    exact ⟨ZBA (by rw [HF.out, HT.out]), hbel⟩
 ·have hfin := ZGV (left := left) (es := es) (by omega)
  have HF := hid hfin
  clear hfin hE
  go_enter Tryz.func6, Tryz.ntmps6
  go_wp2
  go_ret
  exact ⟨by rw [HF.out]; rfl, Below.refl _ _⟩
theorem ZD4 (a : Option Addr) (c : Nat) (left : Int) (w : World) (h0 : 0 ≤ left) (h1 : left ≤ 1048576) :
  Calls Tryz.prog 6 #[.slice a 0 c, .int .i64 left] w fun e w' => e = .returned (.int .i64 left) ∧ w' = w := by
 go_enter Tryz.func6, Tryz.ntmps6
 go_wp2
 go_loop [1, 5] (fun l i => l = .int .i64 left ∧ i = .int .i64 0) (fun _ _ => 0)
 case atStart => exact ⟨rfl, rfl⟩
 case round =>
  obtain ⟨rfl, rfl⟩ := hrel
  go_wp2
  go_ret
  exact ⟨rfl, rfl⟩
end Go.Proofs.YtookchpdbilbcaaGreatDoor
/-
 What laws.toEventS answers: the same events in a new row: a contract over the seat's program.
-/
namespace Go.Proofs.YtookchpdbilbcaaGreatDoor
open Go.RowKit
theorem Tryz.infoEv : (Tryz.prog.info? 57).map (fun i => (i.zero, i.size, i.bytes)) = some (some (.agg #[.int .i64 0, .int .i64 0, .int .i64 0, .int .i64 0, .string ⟨#[]⟩, .string ⟨#[]⟩]), 6, 64) := by kernel_rfl
theorem ZI7 {w : World} {base g n : Nat} {e : TypeId} {xs : List Value} (h : w.ownsRow base e 6 (.slice (some ⟨g, 0, none⟩) n n) n xs) : ∃ L : List Value, L.length = n * 6 ∧ w.heap[g]? = some (.cells L.toArray e (0, 0)) := by
 rcases h.2 with ⟨h1, _⟩ | ⟨g', cap, cur, h1, _, hh, _, _, hc, _⟩
 ·cases h1
 ·injection h1 with h1 _ h3
  injection h1 with h1
  injection h1 with h1 _ _
  subst h1; subst h3
  exact ⟨cur.toList, by simpa using hc, by simpa using hh⟩
theorem ZBD {w : World} {g : Nat} {o : Obj} (h : w.heap[g]? = some o) : g < w.heap.size := by
 rcases Nat.lt_or_ge g w.heap.size with h' | h'
 ·exact h'
 ·simp [Array.getElem?_eq_none h'] at h
theorem ZAv {w : World} {g j : Nat} {L : List Value} {t : TypeId} (h : w.heap[g]? = some (.cells L.toArray t (0, 0))) (hj : j < L.length) : ∃ u, w.cell? ⟨g, j, none⟩ = some u := by
 refine ⟨L[j], ?_⟩
 rw [Lib.cell_of_heap h]
 simp [hj]
theorem ZCu {es : List Ev} {k : Nat} (h : k < es.length) : (es.take (k + 1)).flatMap Ev.cells = (es.take k).flatMap Ev.cells ++ es[k].cells := by
 rw [List.take_succ_eq_append_getElem h, List.flatMap_append]; simp
theorem ZA2 {w : World} {g i : Nat} {L : List Value} {t : TypeId} (h : w.heap[g]? = some (.cells L.toArray t (0, 0))) (v : Value) : (w.setCell ⟨g, i, none⟩ v).heap[g]? = some (.cells (L.set i v).toArray t (0, 0)) := by
 rw [setCell_eq_setRow w g i L.toArray t (0, 0) v h]
 have := setRow_heap w g L.toArray (L.toArray.setIfInBounds i v) t (0, 0) h
 simpa using this
theorem ZDn {w : World} {g : Nat} {L : List Value} {t : TypeId} (h : w.heap[g]? = some (.cells L.toArray t (0, 0))) (i : Nat) (a b c d e f : Value) :
  ((((((w.setCell ⟨g, i, none⟩ a).setCell ⟨g, i + 1, none⟩ b).setCell ⟨g, i + 2, none⟩ c).setCell ⟨g, i + 3, none⟩ d).setCell ⟨g, i + 4, none⟩ e).setCell ⟨g, i + 5, none⟩ f).heap[g]? = some (.cells ((((((L.set i a).set (i + 1) b).set (i + 2) c).set (i + 3) d).set (i + 4) e).set (i + 5) f).toArray t (0, 0)) :=
 ZA2 (ZA2 (ZA2 (ZA2 (ZA2 (ZA2 h a) b) c) d) e) f
theorem ZHF {B : Nat} {w0 w : World} {g : Nat} (h : Below B w0 w) (hg : B ≤ g) (i : Nat) (a b c d e f : Value) :
  Below B w0 ((((((w.setCell ⟨g, i, none⟩ a).setCell ⟨g, i + 1, none⟩ b).setCell ⟨g, i + 2, none⟩ c).setCell ⟨g, i + 3, none⟩ d).setCell ⟨g, i + 4, none⟩ e).setCell ⟨g, i + 5, none⟩ f) :=
 (((((h.setCell (p := ⟨g, i, none⟩) hg a).setCell (p := ⟨g, i + 1, none⟩) hg b).setCell (p := ⟨g, i + 2, none⟩) hg c).setCell (p := ⟨g, i + 3, none⟩) hg d).setCell (p := ⟨g, i + 4, none⟩) hg e).setCell (p := ⟨g, i + 5, none⟩) hg f
theorem ZDu {L : List Value} {i : Nat} {a b c d e f : Value} : ((((((L.set i a).set (i + 1) b).set (i + 2) c).set (i + 3) d).set (i + 4) e).set (i + 5) f).length = L.length := by simp
theorem ZCw {L : List Value} {i : Nat} {a b c d e f : Value} (h : i + 6 ≤ L.length) : (((((((L.set i a).set (i + 1) b).set (i + 2) c).set (i + 3) d).set (i + 4) e).set (i + 5) f).take (i + 6)) = L.take i ++ [a, b, c, d, e, f] := by
 apply List.ext_getElem?
 intro j
 by_cases h0 : j < i
 ·rw [List.getElem?_append_left (by simp; omega)]
  simp [show ¬ i = j by omega, show ¬ i + 1 = j by omega, show ¬ i + 2 = j by omega, show ¬ i + 3 = j by omega, show ¬ i + 4 = j by omega, show ¬ i + 5 = j by omega, h0, show j < i + 6 by omega]
 ·obtain ⟨m, rfl⟩ : ∃ m, j = i + m := ⟨j - i, by omega⟩
  rw [List.getElem?_append_right (by simp; omega), show i + m - (L.take i).length = m by simp; omega]
  match m with
  | 0 => simp [List.getElem?_set]; omega
  | 1 => simp [List.getElem?_set]; omega
  | 2 => simp [List.getElem?_set]; omega
  | 3 => simp [List.getElem?_set]; omega
  | 4 => simp [List.getElem?_set]; omega
  | 5 => simp [List.getElem?_set]; omega
  | n + 6 => simp [List.getElem?_take]; omega
theorem ZEr (g o c : Nat) (es : List Ev) (w : World) (hE : EvsAt w g o es) (hn : es.length ≤ 1048576) :
  Calls Tryz.prog 9 #[.slice (some ⟨g, o, none⟩) es.length c] w fun e w' =>
   ∃ v, e = .returned v ∧ w'.ownsRow w.heap.size 57 6 v es.length (es.flatMap Ev.cells) ∧ Below w.heap.size w w' := by
 obtain ⟨i0, hi, hz0, hz1, hz2⟩ := info_parts Tryz.infoEv
 have HE := hid hE
 clear hE
 go_enter Tryz.func9, Tryz.ntmps9
 go_wp2_with (at_make; refine wpList_make_full _ rfl _ _ 34 rfl w.heap.size 57 i0 _ 6 Tryz.underlying34 hi hz0 hz1 _ _ _ _ es.length rfl rfl ?m1 ?m2 ?m3 ?m4 nL ?_)
 case m1 => omega
 case m2 => omega
 case m3 => rw [hz2]; omega
 case m4 => unfold maxLen; omega
 intro w1 hown hgrow
 have hB1 : Below w.heap.size w w1 := (bR _ _).grown hgrow nL (fun k h => by cases h)
 obtain ⟨L0, hL0, hG0⟩ := ZI7 hown
 have H0 := hid hL0
 have HG0 := hid hG0
 clear hown hgrow hi hz0 hz1 hz2 hL0 hG0 i0
 go_wp2
 go_loopw [4] (fun i wr => ∃ (k : Nat) (L : List Value), k ≤ es.length ∧ i = .int .i64 k ∧ L.length = es.length * 6 ∧ L.take (k * 6) = (es.take k).flatMap Ev.cells ∧ wr.heap[w.heap.size]? = some (.cells L.toArray 57 (0, 0)) ∧ Below w.heap.size w wr) (fun i _ => es.length - (intOf i).toNat)
 case atStart => exact ⟨0, L0, Nat.zero_le _, rfl, H0.out, by simp, HG0.out, hB1⟩
 case round =>
  obtain ⟨k, L, hk, rfl, hL, hT, hG, hbel⟩ := hrel
  have HT := hid hT
  have HL := hid hL
  have HG := hid hG
  clear hT hL hG
  have hzr := ZBD HG.out
  by_cases hlt : k < es.length
  ·obtain ⟨c0, c1, c2, c3, c4, c5⟩ := (HE.out.stay hbel nL).2 k hlt
   have HC := hid (ZCu hlt)
   have cz := fun w => ZFp es[k].seq es[k].time es[k].run es[k].kind es[k].step es[k].val w
   go_wp2_with fail
   refine (cz _).mono ?_
   rintro e w2 ⟨rfl, hb2⟩
   have hG2 : w2.heap[w.heap.size]? = some (.cells L.toArray 57 (0, 0)) := by rw [hb2.block _ hzr]; exact HG.out
   have hbel2 := hbel.trans (hb2.mono hbel.size)
   clear c0 c1 c2 c3 c4 c5 hb2 cz
   have hfz : ∀ j, w2.frozen? ⟨w.heap.size, j, none⟩ = false := fun j => Lib.frozen_of_heap hG2 j
   have hce : ∀ j, j < 6 → ∃ u, w2.cell? ⟨w.heap.size, k * 6 + j, none⟩ = some u := fun j hj => ZAv hG2 (by have := HL.out; omega)
   obtain ⟨u0, d0⟩ : ∃ u, w2.cell? ⟨w.heap.size, k * 6, none⟩ = some u := hce 0 (by decide)
   obtain ⟨u1, d1⟩ := hce 1 (by decide)
   obtain ⟨u2, d2⟩ := hce 2 (by decide)
   obtain ⟨u3, d3⟩ := hce 3 (by decide)
   obtain ⟨u4, d4⟩ := hce 4 (by decide)
   obtain ⟨u5, d5⟩ := hce 5 (by decide)
   have HG2 := hid hG2
   clear hG2 hce
   go_wp2
   go_roundw
   case rel =>
    refine ⟨k + 1, _, by omega, by go_num, ?_, ?_, ZDn HG2.out _ _ _ _ _ _ _, ZHF hbel2 nL _ _ _ _ _ _ _⟩
    ·rw [ZDu]; exact HL.out
    ·rw [show (k + 1) * 6 = k * 6 + 6 by omega, ZCw (by have := HL.out; omega), HT.out, HC.out]; rfl
   case measure => simp [intOf]; omega
  ·have hke : k = es.length := by omega
   have HK := hid hke
   clear hke
   go_wp2
   go_ret
   refine ⟨_, rfl, ⟨ZAg es, .inr ⟨w.heap.size, es.length, L.toArray, rfl, Nat.le_refl _, HG.out, Nat.le_refl _, by unfold maxLen; omega, by simpa using HL.out, ?_⟩⟩, hbel⟩
   have := HT.out
   rw [HK.out, List.take_of_length_le (Nat.le_refl es.length)] at this
   simpa using this
theorem ZEc (a : Option Addr) (c : Nat) (w : World) :
  Calls Tryz.prog 9 #[.slice a 0 c] w fun e w' =>
   ∃ v, e = .returned v ∧ w'.ownsRow w.heap.size 57 6 v 0 [] ∧ Below w.heap.size w w' := by
 obtain ⟨i0, hi, hz0, hz1, hz2⟩ := info_parts Tryz.infoEv
 go_enter Tryz.func9, Tryz.ntmps9
 go_wp2_with (at_make; refine wpList_make_full _ rfl _ _ 34 rfl w.heap.size 57 i0 _ 6 Tryz.underlying34 hi hz0 hz1 _ _ _ _ 0 rfl rfl ?m1 ?m2 ?m3 ?m4 nL ?_)
 case m1 => rfl
 case m2 => rfl
 case m3 => rw [hz2]; omega
 case m4 => unfold maxLen; omega
 intro w1 hown hgrow
 have hB1 : Below w.heap.size w w1 := (bR _ _).grown hgrow nL (fun k h => by cases h)
 have HO : Hid (w1.ownsRow w.heap.size 57 6 (.slice (some ⟨w.heap.size, 0, none⟩) 0 0) 0 []) := by
  have h0 := hown.1
  rw [Nat.zero_mul] at h0
  rw [List.eq_nil_of_length_eq_zero h0] at hown
  exact hown
 clear hown hgrow hi hz0 hz1 hz2 i0
 go_wp2
 go_loop [4] (fun i => i = .int .i64 0) (fun _ => 0)
 case atStart => exact rfl
 case round =>
  subst hrel
  go_wp2
  go_ret
  exact ⟨_, rfl, HO.out, hB1⟩
theorem ZE4 (v : Value) (es : List Ev) (w : World) (h : EvSl w v es) (hn : es.length ≤ 1048576) :
  Calls Tryz.prog 9 #[v] w fun e w' =>
   ∃ v, e = .returned v ∧ w'.ownsRow w.heap.size 57 6 v es.length (es.flatMap Ev.cells) ∧ Below w.heap.size w w' := by
 rcases h with ⟨a, c, rfl, rfl⟩ | ⟨g, o, c, rfl, _, h⟩
 ·exact ZEc a c w
 ·exact ZEr g o c es w h hn
end Go.Proofs.YtookchpdbilbcaaGreatDoor
/-
 Worlds that part in some blocks alone. Of no function.
-/
namespace Go.Proofs.YtookchpdbilbcaaGreatDoor
open Go.RowKit
/-- w' is w, but for the blocks of which p holds, and for what is new. -/
structure Chg (p : Nat → Prop) (w w' : World) : Prop where
 os : w'.os = w.os
 tape : w'.tape = w.tape
 output : w'.output = w.output
 size : w.heap.size ≤ w'.heap.size
 block : ∀ k, k < w.heap.size → ¬ p k → w'.heap[k]? = w.heap[k]?
theorem Chg.refl (p : Nat → Prop) (w : World) : Chg p w w := ⟨rfl, rfl, rfl, Nat.le_refl _, fun _ _ _ => rfl⟩
theorem Chg.trans {p : Nat → Prop} {w w1 w2 : World} (h : Chg p w w1) (k : Chg p w1 w2) : Chg p w w2 :=
 ⟨k.os.trans h.os, k.tape.trans h.tape, k.output.trans h.output, Nat.le_trans h.size k.size, fun i hi hp => (k.block i (Nat.lt_of_lt_of_le hi h.size) hp).trans (h.block i hi hp)⟩
theorem Chg.of_grown {p : Nat → Prop} {w w' : World} {b : Nat} (h : w.grownBy w' (some b)) (hb : p b) : Chg p w w' := ⟨h.os, h.tape, h.output, h.size, fun k hk hp => h.block k hk (fun e => by injection e with e; exact hp (e ▸ hb))⟩
theorem Chg.of_none {p : Nat → Prop} {w w' : World} (h : w.grownBy w' none) : Chg p w w' := ⟨h.os, h.tape, h.output, h.size, fun k hk _ => h.block k hk (by simp)⟩
theorem Chg.of_below {p : Nat → Prop} {w w' : World} (h : Below w.heap.size w w') : Chg p w w' := ⟨h.os, h.tape, h.output, h.size, fun k hk _ => h.block k hk⟩
theorem Chg.below {p : Nat → Prop} {w w' : World} {B : Nat} (h : Chg p w w') (hB : B ≤ w.heap.size) (hp : ∀ k, p k → B ≤ k) : Below B w w' := ⟨h.os, h.tape, h.output, h.size, fun k hk => h.block k (Nat.lt_of_lt_of_le hk hB) (fun h' => absurd (hp k h') (by omega))⟩
theorem Chg.mono {p q : Nat → Prop} {w w' : World} (h : Chg p w w') (hpq : ∀ k, p k → q k) : Chg q w w' := ⟨h.os, h.tape, h.output, h.size, fun k hk hq => h.block k hk (fun hp => hq (hpq k hp))⟩
theorem Chg.cell {p : Nat → Prop} {w w' : World} (h : Chg p w w') {g o : Nat} (hg : g < w.heap.size) (hp : ¬ p g) : w'.cell? ⟨g, o, none⟩ = w.cell? ⟨g, o, none⟩ := by
 unfold World.cell?; simp only []; rw [h.block g hg hp]
end Go.Proofs.YtookchpdbilbcaaGreatDoor
/-
 A row of one's own: it stays, its base may be lower, its forms. Of no function.
-/
namespace Go.Proofs.YtookchpdbilbcaaGreatDoor
open Go.RowKit
theorem ZAE {w w' : World} {base size n : Nat} {e : TypeId} {v : Value} {xs : List Value} (h : w.ownsRow base e size v n xs) (hb : Below w.heap.size w w') : w'.ownsRow base e size v n xs :=
 h.kept (ZAP (r := none) hb) (by cases v.ownBlock with
  | none => exact .inl rfl
  | some k => exact .inr (by simp))
theorem ZAI {w : World} {base base' size n : Nat} {e : TypeId} {v : Value} {xs : List Value} (h : w.ownsRow base e size v n xs) (hb : base' ≤ base) : w.ownsRow base' e size v n xs :=
 ⟨h.1, h.2.imp id (fun ⟨g, cap, cur, a, b, c⟩ => ⟨g, cap, cur, a, Nat.le_trans hb b, c⟩)⟩
theorem ZAD {w : World} {base size n : Nat} {e : TypeId} {v : Value} {xs : List Value} (h : w.ownsRow base e size v n xs) : ∃ a c, v = .slice a n c := by
 rcases h.2 with ⟨h0, rfl⟩ | ⟨g, cap, _, hv, _⟩
 ·exact ⟨none, 0, h0⟩
 ·exact ⟨_, cap, hv⟩
end Go.Proofs.YtookchpdbilbcaaGreatDoor
/-
 Rows of one's own where other blocks turn. Of no function.
-/
namespace Go.Proofs.YtookchpdbilbcaaGreatDoor
open Go.RowKit
/-- A row of one's own lies in no block of another type. -/
theorem ZAL {w : World} {base size n B : Nat} {e t : TypeId} {v : Value} {xs : List Value} {c : Array Value} {f : Nat × Nat} (h : w.ownsRow base e size v n xs) (hB : w.heap[B]? = some (.cells c t f)) (hne : e ≠ t) : ∀ g, v.ownBlock = some g → g ≠ B := by
 intro g hg he
 subst he
 rcases h.2 with ⟨hv, _⟩ | ⟨g', cap, cur, hv, _, hh, _⟩
 ·rw [hv] at hg; cases hg
 ·rw [hv] at hg
  injection hg with hg
  subst hg
  rw [hB] at hh
  injection hh with hh
  injection hh with _ h2 _
  exact hne h2.symm
/-- It stays where its block does. -/
theorem ZAJ {p : Nat → Prop} {w w' : World} {base size n : Nat} {e : TypeId} {v : Value} {xs : List Value} (h : w.ownsRow base e size v n xs) (hc : Chg p w w') (hp : ∀ g, v.ownBlock = some g → ¬ p g) : w'.ownsRow base e size v n xs := by
 refine ⟨h.1, ?_⟩
 rcases h.2 with h0 | ⟨g, cap, cur, hv, hb, hh, r⟩
 ·exact .inl h0
 ·exact .inr ⟨g, cap, cur, hv, hb, (hc.block g (ZAA hh) (hp g (by rw [hv]; rfl))).trans hh, r⟩
/-- Two rows in two blocks. -/
def Apart (v u : Value) : Prop := ∀ g, v.ownBlock = some g → u.ownBlock ≠ some g
theorem Apart.symm {v u : Value} (h : Apart v u) : Apart u v := fun g hg he => h g he hg
theorem ZEJ {w : World} {b1 b2 s1 s2 n1 n2 m : Nat} {e1 e2 : TypeId} {v u : Value} {xs ys : List Value} {w' : World} (h : w.ownsRow b1 e1 s1 v n1 xs) (h' : w'.ownsRow b2 e2 s2 u n2 ys) (hm : w.heap.size ≤ m) (hb : m ≤ b2) : Apart v u := fun g hg he => by
 have := (h.lt g hg).2
 have := (h'.lt g he).1
 omega
/-- Rows of two types lie apart. -/
theorem ZBX {w : World} {b1 b2 s1 s2 n1 n2 : Nat} {e1 e2 : TypeId} {v u : Value} {xs ys : List Value} (h : w.ownsRow b1 e1 s1 v n1 xs) (h' : w.ownsRow b2 e2 s2 u n2 ys) (hne : e1 ≠ e2) : Apart v u := fun g hg he => by
 rcases h'.2 with ⟨hv, _⟩ | ⟨g', cap, cur, hv, _, hh, _⟩
 ·rw [hv] at he; cases he
 ·rw [hv] at he
  injection he with he
  subst he
  exact ZAL h hh hne g' hg rfl
end Go.Proofs.YtookchpdbilbcaaGreatDoor
/-
 An event's cells, and rows by their type. Of no function. (Cut off ItrC.)
-/
namespace Go.Proofs.YtookchpdbilbcaaGreatDoor
open Go.RowKit
theorem ZBP (x : Ev) : ∀ u ∈ x.cells, u.oneCell' = true := by simp [Ev.cells, Value.oneCell']
theorem ZBK (V : World) (x : Ev) (T : TypeId) : ∀ j u, x.cells[j]? = some u → (V.alloc (.cells #[.int .i64 x.seq, .int .i64 x.time, .int .i64 x.run, .int .i64 x.kind, .string x.step, .string x.val] T)).cell? ((⟨V.heap.size, 0, none⟩ : Addr).add j) = some u := by
 intro j u hj
 rw [Addr.add_lit, Lib.cell_of_heap (heap_alloc_new _ _), Nat.zero_add, ← hj]
 simp [Ev.cells]
/-- A row of one's own lies in a block of its type. -/
theorem ZGI {w : World} {base size n : Nat} {e : TypeId} {v : Value} {xs : List Value} (h : w.ownsRow base e size v n xs) : ∀ k, v.ownBlock = some k → ∃ c t f, w.heap[k]? = some (.cells c t f) ∧ t = e := by
 intro k hk
 rcases h.2 with ⟨rfl, _⟩ | ⟨g, cap, cur, rfl, _, hgb, _⟩
 ·cases hk
 ·cases hk
  exact ⟨_, _, _, hgb, rfl⟩
end Go.Proofs.YtookchpdbilbcaaGreatDoor
