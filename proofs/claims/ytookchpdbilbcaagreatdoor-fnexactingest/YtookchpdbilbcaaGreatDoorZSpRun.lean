/-
 What spec.l04Run answers: the events of a run, in a new row: a contract over the seat's program.
-/
import Derived.Test.YtookchpdbilbcaaGreatDoorZEvI8
import Derived.Test.YtookchpdbilbcaaGreatDoorZDfV7
import Derived.Test.YtookchpdbilbcaaGreatDoorZImTold2
set_option maxRecDepth 100000
set_option maxHeartbeats 2000000
namespace Go.Proofs.YtookchpdbilbcaaGreatDoor
open Go.RowKit Go.Sort
theorem own_made6 (w : World) (T : TypeId) : (w.alloc (.cells #[] T)).ownsRow w.heap.size T 6 (.slice (some ⟨w.heap.size, 0, none⟩) 0 0) 0 [] :=
 ⟨rfl, .inr ⟨w.heap.size, 0, #[], rfl, Nat.le_refl _, by show (w.heap.push (Obj.cells #[] T))[w.heap.size]? = some _; simp, Nat.le_refl _, Nat.zero_le _, rfl, rfl⟩⟩
theorem ofRun_yes {es : List Ev} {k : Nat} {r : Int} (h : k < es.length) (hr : es[k].run = r) : ofRun (es.take (k + 1)) r = ofRun (es.take k) r ++ [es[k]] := by
 unfold ofRun
 rw [List.take_succ_eq_append_getElem h, List.filter_append]; simp [hr]
theorem ofRun_no {es : List Ev} {k : Nat} {r : Int} (h : k < es.length) (hr : ¬ es[k].run = r) : ofRun (es.take (k + 1)) r = ofRun (es.take k) r := by
 unfold ofRun
 rw [List.take_succ_eq_append_getElem h, List.filter_append]; simp [hr]
theorem l04Run_any (a : Option Addr) (c : Nat) (es : List Ev) (r : Int) (w : World) (hE : EvSl w (.slice a es.length c) es) (hn : es.length ≤ 1048576) :
  Calls Tryz.prog 46 #[.slice a es.length c, .int .i64 r] w fun e w' => ∃ v, e = .returned v ∧ w'.ownsRow w.heap.size 57 6 v (ofRun es r).length ((ofRun es r).flatMap Ev.cells) ∧ Below w.heap.size w w' := by
 have HE := hid hE
 clear hE
 obtain ⟨i0, hi, hz0, hz1, hz2⟩ := info_parts Tryz.infoEv
 go_enter Tryz.func46, Tryz.ntmps46
 go_wp2
 go_loopw [5, 6] (fun v i wr => ∃ k : Nat, k ≤ es.length ∧ i = .int .i64 k ∧ wr.ownsRow w.heap.size 57 6 v (ofRun (es.take k) r).length ((ofRun (es.take k) r).flatMap Ev.cells) ∧ Below w.heap.size w wr) (fun _ i _ => es.length - (intOf i).toNat)
 case atStart => exact ⟨0, Nat.zero_le _, rfl, own_made6 w _, (Below.refl _ _).alloc (Nat.le_refl _) _⟩
 case round =>
  obtain ⟨k, hk, rfl, hown, hbel⟩ := hrel
  have HO := hid hown
  have HB := hid hbel
  have hzr := hbel.size
  clear hown hbel
  by_cases hlt : k < es.length
  ·obtain ⟨g, o, rfl, hQ⟩ := HE.out.row (by omega)
   obtain ⟨c0, c1, c2, c3, c4, c5⟩ := (hQ.stay HB.out (Nat.le_refl _)).2 k hlt
   have HY := hid (ofRun_yes (r := r) hlt)
   have HN := hid (ofRun_no (r := r) hlt)
   have hle := Nat.le_trans (ofRun_len (es.take k) r) (List.length_take_le k es)
   clear hQ
   generalize es[k] = x at *
   by_cases hr : x.run = r
   ·subst hr
    have HF := hid (HY.out rfl)
    clear HY HN
    generalize ofRun (es.take k) x.run = P at *
    go_wp2_with (first | (at_builtin; refine wpList_append_own _ rfl _ _ 34 rfl w.heap.size 57 i0 _ 6 64 Tryz.underlying34 hi hz0 hz1 hz2 rfl (by decide) _ _ _ rfl (HO.out.alloc _) ⟨wr.heap.size, 0, none⟩ 1 1 x.cells rfl rfl (ev_new_cells wr x _) (ev_one_cells x) ?c3 ?c4 ?c5 ?_) | fail)
    case c3 => unfold maxLen; omega
    case c4 => omega
    case c5 => simp; omega
    intro v' w1 ho hg _
    have HBL := hid ((HB.out.alloc hzr _).grown hg (by simp; omega) (fun j e => (HO.out.lt j e).1))
    have HO1 := hid ho
    clear ho hg c0 c1 c2 c3 c4 c5
    go_wp2
    go_roundw
    case rel => exact ⟨k + 1, by omega, by go_num, by rw [HF.out, List.flatMap_append]; simpa using HO1.out, HBL.out⟩
    case measure => simp [intOf]; omega
   ·have HF := hid (HN.out hr)
    have hrb : (x.run == r) = false := by simpa using hr
    clear HY HN
    go_wp2
    go_roundw
    case rel => exact ⟨k + 1, by omega, by go_num, by rw [HF.out]; exact HO.out, HB.out⟩
    case measure => simp [intOf]; omega
  ·obtain rfl : k = es.length := by omega
   have hO := HO.out
   rw [List.take_length] at hO
   go_wp2
   go_ret
   exact ⟨_, rfl, hO, HB.out⟩
end Go.Proofs.YtookchpdbilbcaaGreatDoor
