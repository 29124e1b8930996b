/-
 What (*impl.keeper).take does of a right Service: a contract over the seat's program. (Made by mktk.py.)
-/
import Derived.Test.YtookchpdbilbcaaGreatDoorZImHo2
import Derived.Deep.RegionWith
set_option maxRecDepth 100000
set_option maxHeartbeats 4000000
namespace Go.Proofs.YtookchpdbilbcaaGreatDoor
open Go.RowKit Go.Sort Go.Maps
/-- What a batch tells of a right Service. -/
def tkR (ss : List ByteArray) (fs : List Pr) (es : List Ev) (nx : Int) (l : List Ev) : Int × Nat × List Ev × Int := if l.length = 0 ∨ 200 < l.length then (1, 0, [], 0) else inL ss fs l es nx 0
def TkPost (w0 : World) (g bm m : Nat) (a1 a2 : Option Addr) (k1 k2 : Nat) (ss : List ByteArray) (fs : List Pr) (R : Int × Nat × List Ev × Int) (x : Ending) (w' : World) : Prop :=
 x = .returned (.tuple #[.int .i64 (R.2.1 : Int), .int .i64 R.1]) ∧ (R.1 = 0 → ∃ u n, n ≤ m ∧ His w' w0.heap.size g 94 bm n a1 a2 k1 k2 u [.int .i64 R.2.2.2] ss fs R.2.2.1) ∧ Below w0.heap.size w0 w'
structure TkI (w0 : World) (g bm m : Nat) (a1 a2 : Option Addr) (k1 k2 : Nat) (ss : List ByteArray) (fs : List Pr) (es l : List Ev) (nx : Int) (k : Nat) (E : List Ev) (u : Value) (n : Nat) (wr : World) : Prop where
 h : His wr w0.heap.size g 94 bm n a1 a2 k1 k2 u [.int .i64 (nx + (k : Int))] ss fs E
 ll : E.length = es.length + k
 nn : n ≤ m + k
 r : RunsP ss fs E
 i : inL ss fs l es nx 0 = inL ss fs (l.drop k) E (nx + k) k
 b : Below w0.heap.size w0 wr
/-- Its last cell is written. -/
theorem His.rest {w : World} {lo B T bm n : Nat} {a1 a2 : Option Addr} {k1 k2 : Nat} {u x : Value} {ss : List ByteArray} {fs : List Pr} {E : List Ev} (h : His w lo B T bm n a1 a2 k1 k2 u [x] ss fs E) (y : Value) : His (w.setCell ⟨B, 4, none⟩ y) lo B T bm n a1 a2 k1 k2 u [y] ss fs E := by
 have hC : Chg (fun j => j = B) w (w.setCell ⟨B, 4, none⟩ y) := Chg.of_grown (grown_set _ B 4 _) rfl
 refine ⟨blk_set (L := [_, _, _, _, _]) (i := 4) h.blk _, own_chg h.own hC (own_ne h.own h.blk h.ty.2.2.symm), h.map.chg hC (fun e => h.bm_ne e.symm) (KT.of_chg hC (fun g c t f hp he ht => ?_)), h.lB, h.lm, h.ty⟩
 rw [show g = B from hp, h.blk] at he
 cases he
 exact ht.elim h.ty.1 h.ty.2.1
theorem take_in (w0 w : World) (g bm m : Nat) (a1 a2 a7 : Option Addr) (k1 k2 k7 : Nat) (u0 : Value) (ss : List ByteArray) (fs : List Pr) (es l : List Ev) (nx : Int) (e0 e1 e2 e3 e4 : Addr) (hb : Below w0.heap.size w0 w)
  (hH : His w w0.heap.size g 94 bm m a1 a2 k1 k2 u0 [.int .i64 nx] ss fs es) (hD : DefSl w0 a1 a2 k1 k2 ss fs) (hEr : ErrsAt w0 e0 e1 e2 e3 e4) (D : DefP ss fs) (hR : RunsP ss fs es) (hL : EvSl w0 (.slice a7 l.length k7) l)
  (F1 : ∀ i, (h : i < ss.length) → ss[i].size ≤ maxLen) (F2 : FitP fs) (FL : ∀ i, (h : i < l.length) → l[i].step.size ≤ maxLen) (WL : ∀ i, (h : i < l.length) → (Lit.int .i64 l[i].run).wf = true) (hnx : 1 ≤ nx ∧ nx ≤ 1000000) (hes : es.length ≤ 200) (hm : m ≤ 700) (hl0 : ¬ l.length = 0) (hl2 : ¬ 200 < l.length) :
  Calls Tryz.prog 28 #[.pointer (some ⟨g, 0, none⟩), .slice a7 l.length k7] w (TkPost w0 g bm (m + l.length) a1 a2 k1 k2 ss fs (inL ss fs l es nx 0)) := by
 have HL := hid hL
 have HI0 := hid (show TkI w0 g bm m a1 a2 k1 k2 ss fs es l nx 0 es u0 m w from ⟨by simpa using hH, by simp, by omega, hR, by simp, hb⟩)
 have HFL := hid FL
 have HWL := hid WL
 clear hH hb hL FL WL hR
 have b0 : ((l.length : Int) == 0) = false := beq_eq_false_iff_ne.2 (by omega)
 have b2 : decide ((200 : Int) < (l.length : Int)) = false := by simp; omega
 go_enter Tryz.func28, Tryz.ntmps28
 go_upto_region 4 with fail
 go_loopw [19] (fun i wr => ∃ k : Nat, k ≤ l.length ∧ i = .int .i64 k ∧ ∃ E u n, TkI w0 g bm m a1 a2 k1 k2 ss fs es l nx k E u n wr) (fun i _ => l.length - (intOf i).toNat)
 case atStart => exact ⟨0, Nat.zero_le _, rfl, es, u0, m, HI0.out⟩
 case round =>
  obtain ⟨k, hk, rfl, E, u, n, hI⟩ := hrel
  have HI := hid hI
  have hEl := hI.ll
  have hn := hI.nn
  clear hI HI0
  by_cases hlk : k < l.length
  ·obtain ⟨gl, ol, rfl, c0, c1, c2, c3, c4, c5⟩ := (HL.out.stay HI.out.b (Nat.le_refl _)).at_ hlk
   have HFk := hid (HFL.out k hlk)
   have HWk := hid (HWL.out k hlk)
   have HQ1 := hid (fun h => HI.out.i.trans (inL_full (ss := ss) (fs := fs) (E := E) (p := k) hlk h))
   have HQ2 := hid (fun h h' => HI.out.i.trans (inL_bad (ss := ss) (fs := fs) (E := E) (p := k) hlk h h'))
   have HQ3 := hid (fun h h' => HI.out.i.trans (inL_go (ss := ss) (fs := fs) (E := E) (p := k) hlk h h'))
   generalize l[k] = e at *
   obtain ⟨es0, et, er, ek, est, ev⟩ := e
   dsimp only at *
   have hbx : Below wr.heap.size wr (wr.alloc (.cells #[.int .i64 es0, .int .i64 et, .int .i64 er, .int .i64 ek, .string est, .string ev] 57)) := (Below.refl _ _).alloc (Nat.le_refl _) _
   have HX := hid (HI.out.h.stay hbx)
   have HBx := hid (HI.out.b.trans (hbx.mono HI.out.b.size))
   have HVx := hid (heap_alloc_new wr (.cells #[.int .i64 es0, .int .i64 et, .int .i64 er, .int .i64 ek, .string est, .string ev] 57))
   have hzx : (wr.alloc (.cells #[.int .i64 es0, .int .i64 et, .int .i64 er, .int .i64 ek, .string est, .string ev] 57)).heap.size = wr.heap.size + 1 := by simp
   have hgr := lt_heap HI.out.h.blk
   have HBr := hid hbx
   clear hbx
   go_upto_region 6 with fail
   clear c0 c1 c2 c3 c4 c5
   generalize (wr.alloc (.cells #[.int .i64 es0, .int .i64 et, .int .i64 er, .int .i64 ek, .string est, .string ev] 57)) = W at *
   have t4 : W.cell? ⟨g, 4, none⟩ = some (.int .i64 (nx + (k : Int))) := ce HX.out.blk rfl
   have f0 : W.cell? ⟨wr.heap.size, 0, none⟩ = some (.int .i64 es0) := ce HVx.out rfl
   have f1 : W.cell? ⟨wr.heap.size, 1, none⟩ = some (.int .i64 et) := ce HVx.out rfl
   have f2 : W.cell? ⟨wr.heap.size, 2, none⟩ = some (.int .i64 er) := ce HVx.out rfl
   have f3 : W.cell? ⟨wr.heap.size, 3, none⟩ = some (.int .i64 ek) := ce HVx.out rfl
   have f4 : W.cell? ⟨wr.heap.size, 4, none⟩ = some (.string est) := ce HVx.out rfl
   have f5 : W.cell? ⟨wr.heap.size, 5, none⟩ = some (.string ev) := ce HVx.out rfl
   have ff := Lib.frozen_of_heap HVx.out
   have tf := Lib.frozen_of_heap HX.out.blk
   by_cases hfl : 1000000 < nx + (k : Int)
   ·have bfl : decide (1000000 < nx + (k : Int)) = true := decide_eq_true hfl
    go_wp2
    unfold TkPost
    rw [HQ1.out hfl]
    exact bodyPost_ret (v := .tuple #[.int .i64 0, .int .i64 9]) (by simp [results, Tryz.results28, go_sem]) rfl ⟨rfl, fun h => absurd h (by decide), HBx.out⟩
   have bfl : decide (1000000 < nx + (k : Int)) = false := decide_eq_false hfl
   have HFl := hid hfl
   go_upto_region 9 with fail
   have hC1 : Chg (fun j => j = wr.heap.size) W (W.setCell ⟨wr.heap.size, 0, none⟩ (.int .i64 (nx + (k : Int)))) := Chg.of_grown (grown_set _ wr.heap.size 0 _) rfl
   have HV1 := hid (show (W.setCell ⟨wr.heap.size, 0, none⟩ (.int .i64 (nx + (k : Int)))).heap[wr.heap.size]? = some (.cells #[.int .i64 (nx + (k : Int)), .int .i64 et, .int .i64 er, .int .i64 ek, .string est, .string ev] 57 (0, 0)) from blk_set (L := [_, _, _, _, _, _]) (i := 0) HVx.out _)
   have hq1 : Below wr.heap.size W (W.setCell ⟨wr.heap.size, 0, none⟩ (.int .i64 (nx + (k : Int)))) := hC1.below (by omega) (fun j (h : j = _) => by omega)
   have HX1 := hid (show His (W.setCell ⟨wr.heap.size, 0, none⟩ (.int .i64 (nx + (k : Int)))) w0.heap.size g 94 bm n a1 a2 k1 k2 u [.int .i64 (nx + (k : Int))] ss fs E from HI.out.h.stay (HBr.out.trans hq1))
   have HB1 := hid (HBx.out.trans (hq1.mono HI.out.b.size))
   have hz1 := hC1.size
   clear hC1 hq1 t4 f0 f1 f2 f3 f4 f5 ff tf HVx HX HBx
   generalize (W.setCell ⟨wr.heap.size, 0, none⟩ (.int .i64 (nx + (k : Int)))) = W1 at *
   have t4 : W1.cell? ⟨g, 4, none⟩ = some (.int .i64 (nx + (k : Int))) := ce HX1.out.blk rfl
   have tf := Lib.frozen_of_heap HX1.out.blk
   have hwr : IntKind.i64.wrap (nx + (k : Int) + 1) = nx + (k : Int) + 1 := by rw [IntKind.wrap_i64]; omega
   go_upto_region 10 with fail
   have HX2 := hid (HX1.out.rest (.int .i64 (nx + (k : Int) + 1)))
   have hC2 : Chg (fun j => j = g) W1 (W1.setCell ⟨g, 4, none⟩ (.int .i64 (nx + (k : Int) + 1))) := Chg.of_grown (grown_set _ g 4 _) rfl
   have HV2 := hid ((hC2.block _ (lt_heap HV1.out) (fun (h : wr.heap.size = g) => by omega)).trans HV1.out)
   have HB2 := hid (HB1.out.trans (hC2.below HB1.out.size (fun j (h : j = g) => by have := HI.out.h.lB; omega)))
   have hz2 := hC2.size
   clear hC2 t4 tf HX1 HB1 HV1 hwr
   generalize (W1.setCell ⟨g, 4, none⟩ (.int .i64 (nx + (k : Int) + 1))) = W2 at *
   have f0 : W2.cell? ⟨wr.heap.size, 0, none⟩ = some (.int .i64 (nx + (k : Int))) := ce HV2.out rfl
   have f1 : W2.cell? ⟨wr.heap.size, 1, none⟩ = some (.int .i64 et) := ce HV2.out rfl
   have f2 : W2.cell? ⟨wr.heap.size, 2, none⟩ = some (.int .i64 er) := ce HV2.out rfl
   have f3 : W2.cell? ⟨wr.heap.size, 3, none⟩ = some (.int .i64 ek) := ce HV2.out rfl
   have f4 : W2.cell? ⟨wr.heap.size, 4, none⟩ = some (.string est) := ce HV2.out rfl
   have f5 : W2.cell? ⟨wr.heap.size, 5, none⟩ = some (.string ev) := ce HV2.out rfl
   obtain ⟨C, hCd⟩ : ∃ C, C = inC ss fs E (nx + (k : Int)) (⟨es0, et, er, ek, est, ev⟩ : Ev) := ⟨_, rfl⟩
   have cG := hid (show Calls Tryz.prog 52 #[.pointer (some ⟨g, 0, none⟩), .agg #[.int .i64 (nx + (k : Int)), .int .i64 et, .int .i64 er, .int .i64 ek, .string est, .string ev]] W2.drew (fun x w' => x = .returned (.int .i64 C) ∧ (C = 0 → ∃ u', His w' w0.heap.size g 94 bm (n + 1) a1 a2 k1 k2 u' [.int .i64 (nx + (k : Int) + 1)] ss fs (E ++ [(⟨nx + (k : Int), et, er, ek, est, ev⟩ : Ev)])) ∧ (¬ C = 0 → His w' w0.heap.size g 94 bm n a1 a2 k1 k2 u [.int .i64 (nx + (k : Int) + 1)] ss fs E) ∧ Chg (HisP g bm u) W2.drew w') from by
    rw [hCd]
    exact goOn_any w0 W2.drew g 94 bm n a1 a2 k1 k2 u [.int .i64 (nx + (k : Int) + 1)] ss fs E (⟨nx + (k : Int), et, er, ek, est, ev⟩ : Ev) e0 e1 e2 e3 e4 HB2.out.drew (HX2.out.stay (Below.refl _ W2).drew) hD hEr D HI.out.r F1 F2 HFk.out HWk.out (by omega) (by omega))
   have HCd := hid hCd
   clear hCd
   go_region_with (go_at_call 52; refine cG.out.mono ?_; rintro x W3 ⟨rfl, hy, _, hc⟩)
   have HB3 := hid (HB2.out.drew.trans (hc.below (HB2.out.drew.size) (fun j h => (HX2.out.low j h).1)))
   have HY := hid hy
   clear hc hy cG HX2 HB2 HV2 f0 f1 f2 f3 f4 f5
   by_cases hc0 : C = 0
   rotate_left
   ·have bc : (C != 0) = true := by simpa using hc0
    go_wp2
    unfold TkPost
    rw [HQ2.out HFl.out (by rw [← HCd.out]; exact hc0), ← HCd.out]
    exact bodyPost_ret (v := .tuple #[.int .i64 (k : Int), .int .i64 C]) (by simp [results, Tryz.results28, go_sem]) rfl ⟨rfl, fun h => absurd h hc0, HB3.out⟩
   subst hc0
   obtain ⟨u', hH'⟩ := HY.out rfl
   have HH := hid hH'
   clear hH'
   go_wp2
   have h9 : nx + ((k + 1 : Nat) : Int) = nx + (k : Int) + 1 := by omega
   go_roundw
   case rel => exact ⟨k + 1, by omega, by simp, E ++ [(⟨nx + (k : Int), et, er, ek, est, ev⟩ : Ev)], u', n + 1, ⟨h9.symm ▸ HH.out, by rw [List.length_append]; simp; omega, by omega, RunsP.snoc (e := (⟨es0, et, er, ek, est, ev⟩ : Ev)) HI.out.r HCd.out.symm, by rw [h9]; exact HQ3.out HFl.out HCd.out.symm, HB3.out⟩⟩
   case measure => simp [intOf]; omega
  ·obtain rfl : k = l.length := by omega
   obtain ⟨ua, uc, rfl⟩ := ownB_form HI.out.h.own
   have t2 : wr.cell? ⟨g, 2, none⟩ = some (.slice ua E.length uc) := ce HI.out.h.blk rfl
   have t4 : wr.cell? ⟨g, 4, none⟩ = some (.int .i64 (nx + (l.length : Int))) := ce HI.out.h.blk rfl
   have HQ := hid (show inL ss fs l es nx 0 = if 200 < E.length ∨ 1000000 < nx + (l.length : Int) then (9, 0, [], 0) else (0, l.length, E, nx + (l.length : Int)) from by rw [HI.out.i, List.drop_length, inL_nil])
   by_cases h1 : 200 < E.length
   ·have b1 : decide ((200 : Int) < (E.length : Int)) = true := by simp; omega
    go_wp2
    unfold TkPost
    rw [HQ.out, if_pos (.inl h1)]
    exact bodyPost_ret (v := .tuple #[.int .i64 0, .int .i64 9]) (by simp [results, Tryz.results28, go_sem]) rfl ⟨rfl, fun h => absurd h (by decide), HI.out.b⟩
   ·have b1 : decide ((200 : Int) < (E.length : Int)) = false := by simp; omega
    by_cases h3 : 1000000 < nx + (l.length : Int)
    ·go_wp2
     unfold TkPost
     rw [HQ.out, if_pos (.inr h3)]
     exact bodyPost_ret (v := .tuple #[.int .i64 0, .int .i64 9]) (by simp [results, Tryz.results28, go_sem]) rfl ⟨rfl, fun h => absurd h (by decide), HI.out.b⟩
    ·have b3 : decide (1000000 < nx + (l.length : Int)) = false := decide_eq_false h3
     go_wp2
     unfold TkPost
     rw [HQ.out, if_neg (by omega)]
     exact bodyPost_ret (v := .tuple #[.int .i64 (l.length : Int), .int .i64 0]) (by simp [results, Tryz.results28, go_sem]) rfl ⟨rfl, fun _ => ⟨_, n, by omega, HI.out.h⟩, HI.out.b⟩
theorem take_any (w0 w : World) (g bm m : Nat) (a1 a2 a7 : Option Addr) (k1 k2 k7 : Nat) (u0 : Value) (ss : List ByteArray) (fs : List Pr) (es l : List Ev) (nx : Int) (e0 e1 e2 e3 e4 : Addr) (hb : Below w0.heap.size w0 w)
  (hH : His w w0.heap.size g 94 bm m a1 a2 k1 k2 u0 [.int .i64 nx] ss fs es) (hD : DefSl w0 a1 a2 k1 k2 ss fs) (hEr : ErrsAt w0 e0 e1 e2 e3 e4) (D : DefP ss fs) (hR : RunsP ss fs es) (hL : EvSl w0 (.slice a7 l.length k7) l)
  (F1 : ∀ i, (h : i < ss.length) → ss[i].size ≤ maxLen) (F2 : FitP fs) (FL : ∀ i, (h : i < l.length) → l[i].step.size ≤ maxLen) (WL : ∀ i, (h : i < l.length) → (Lit.int .i64 l[i].run).wf = true) (hnx : 1 ≤ nx ∧ nx ≤ 1000000) (hes : es.length ≤ 200) (hm : m ≤ 700) (hln : l.length ≤ maxLen) :
  Calls Tryz.prog 28 #[.pointer (some ⟨g, 0, none⟩), .slice a7 l.length k7] w (TkPost w0 g bm (m + l.length) a1 a2 k1 k2 ss fs (tkR ss fs es nx l)) := by
 unfold tkR
 by_cases hl0 : l.length = 0
 ·rw [if_pos (.inl hl0)]
  clear hD hL hR FL WL F1 F2 hH
  unfold TkPost
  generalize l.length = n at *
  subst hl0
  go_enter Tryz.func28, Tryz.ntmps28
  go_wp2
  exact bodyPost_ret (v := .tuple #[.int .i64 0, .int .i64 1]) (by simp [results, Tryz.results28, go_sem]) rfl ⟨rfl, fun h => absurd h (by decide), hb⟩
 ·by_cases hl2 : 200 < l.length
  ·rw [if_pos (.inr hl2)]
   have b0 : ((l.length : Int) == 0) = false := beq_eq_false_iff_ne.2 (by omega)
   have b2 : decide ((200 : Int) < (l.length : Int)) = true := by simp; omega
   unfold TkPost
   unfold maxLen at hln
   clear hD hL hR F1 F2 FL WL hl2 hl0
   go_enter Tryz.func28, Tryz.ntmps28
   go_wp2
   exact bodyPost_ret (v := .tuple #[.int .i64 0, .int .i64 1]) (by simp [results, Tryz.results28, go_sem]) rfl ⟨rfl, fun h => absurd h (by decide), hb⟩
  ·rw [if_neg (fun h => h.elim hl0 hl2)]
   exact take_in w0 w g bm m a1 a2 a7 k1 k2 k7 u0 ss fs es l nx e0 e1 e2 e3 e4 hb hH hD hEr D hR hL F1 F2 FL WL hnx hes hm hl0 hl2
end Go.Proofs.YtookchpdbilbcaaGreatDoor
