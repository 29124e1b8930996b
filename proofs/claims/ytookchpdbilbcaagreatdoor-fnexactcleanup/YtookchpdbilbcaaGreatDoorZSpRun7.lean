/-
 Texts put together: SpRun, EvAM, EvAS, SpHist, SpSvR, SpOver, UnA.
-/
import Derived.Test.YtookchpdbilbcaaGreatDoorZEvI8
import Derived.Test.YtookchpdbilbcaaGreatDoorZDfV7
import Derived.Test.YtookchpdbilbcaaGreatDoorZImTold2
import Derived.Test.YtookchpdbilbcaaGreatDoorZEvX11
import Derived.Test.YtookchpdbilbcaaGreatDoorZSpRuns
import Derived.Test.YtookchpdbilbcaaGreatDoorZSpOf
import Derived.Deep.RegionHeld3
import Derived.Test.YtookchpdbilbcaaGreatDoorZTkM5
import Derived.Test.YtookchpdbilbcaaGreatDoorZRowL4
import Derived.Test.YtookchpdbilbcaaGreatDoorZSpOut4
set_option maxRecDepth 100000
set_option maxHeartbeats 4000000
/-
 What spec.l04Run answers: the events of a run, in a new row: a contract over the seat's program.
-/
namespace Go.Proofs.YtookchpdbilbcaaGreatDoor
open Go.RowKit Go.Sort
theorem ZIN (w : World) (T : TypeId) : (w.alloc (.cells #[] T)).ownsRow w.heap.size T 6 (.slice (some ⟨w.heap.size, 0, none⟩) 0 0) 0 [] :=
 ⟨rfl, .inr ⟨w.heap.size, 0, #[], rfl, Nat.le_refl _, by show (w.heap.push (Obj.cells #[] T))[w.heap.size]? = some _; simp, Nat.le_refl _, Nat.zero_le _, rfl, rfl⟩⟩
theorem ZHZ {es : List Ev} {k : Nat} {r : Int} (h : k < es.length) (hr : es[k].run = r) : ofRun (es.take (k + 1)) r = ofRun (es.take k) r ++ [es[k]] := by
 unfold ofRun
 rw [List.take_succ_eq_append_getElem h, List.filter_append]; simp [hr]
theorem ZJJ {es : List Ev} {k : Nat} {r : Int} (h : k < es.length) (hr : ¬ es[k].run = r) : ofRun (es.take (k + 1)) r = ofRun (es.take k) r := by
 unfold ofRun
 rw [List.take_succ_eq_append_getElem h, List.filter_append]; simp [hr]
theorem ZHL (a : Option Addr) (c : Nat) (es : List Ev) (r : Int) (w : World) (hE : EvSl w (.slice a es.length c) es) (hn : es.length ≤ 1048576) :
  Calls Tryz.prog 46 #[.slice a es.length c, .int .i64 r] w fun e w' => ∃ v, e = .returned v ∧ w'.ownsRow w.heap.size 57 6 v (ofRun es r).length ((ofRun es r).flatMap Ev.cells) ∧ Below w.heap.size w w' := by
 have HE := hid hE
 clear hE
 obtain ⟨i0, hi, hz0, hz1, hz2⟩ := info_parts Tryz.infoEv
 go_enter Tryz.func46, Tryz.ntmps46
 go_wp2
 go_loopw [5, 6] (fun v i wr => ∃ k : Nat, k ≤ es.length ∧ i = .int .i64 k ∧ wr.ownsRow w.heap.size 57 6 v (ofRun (es.take k) r).length ((ofRun (es.take k) r).flatMap Ev.cells) ∧ Below w.heap.size w wr) (fun _ i _ => es.length - (intOf i).toNat)
 case atStart => exact ⟨0, Nat.zero_le _, rfl, ZIN w _, (bR _ _).alloc nL _⟩
 case round =>
  obtain ⟨k, hk, rfl, hown, hbel⟩ := hrel
  have HO := hid hown
  have HB := hid hbel
  have hzr := hbel.size
  clear hown hbel
  by_cases hlt : k < es.length
  ·obtain ⟨g, o, rfl, hQ⟩ := HE.out.row (by omega)
   obtain ⟨c0, c1, c2, c3, c4, c5⟩ := (hQ.stay HB.out nL).2 k hlt
   have HY := hid (ZHZ (r := r) hlt)
   have HN := hid (ZJJ (r := r) hlt)
   have hle := Nat.le_trans (ZC4 (es.take k) r) (List.length_take_le k es)
   clear hQ
   generalize es[k] = x at *
   by_cases hr : x.run = r
   ·subst hr
    have HF := hid (HY.out rfl)
    clear HY HN
    generalize ofRun (es.take k) x.run = P at *
    go_wp2_with (first | (at_builtin; refine wpList_append_own _ rfl _ _ 34 rfl w.heap.size 57 i0 _ 6 64 Tryz.underlying34 hi hz0 hz1 hz2 rfl (by decide) _ _ _ rfl (HO.out.alloc _) ⟨wr.heap.size, 0, none⟩ 1 1 x.cells rfl rfl (ZBK wr x _) (ZBP x) ?c3 ?c4 ?c5 ?_) | fail)
    case c3 => unfold maxLen; omega
    case c4 => omega
    case c5 => simp; omega
    intro v' w1 ho hg _
    have HBL := hid ((HB.out.alloc hzr _).grown hg (by simp; omega) (fun j e => (HO.out.lt j e).1))
    have HO1 := hid ho
    clear ho hg c0 c1 c2 c3 c4 c5
    go_wp2
    go_roundw
    case rel => exact ⟨k + 1, by omega, by go_num, by rw [HF.out, List.flatMap_append]; simpa using HO1.out, HBL.out⟩
    case measure => simp [intOf]; omega
   ·have HF := hid (HN.out hr)
    have hrb : (x.run == r) = false := by simpa using hr
    clear HY HN
    go_wp2
    go_roundw
    case rel => exact ⟨k + 1, by omega, by go_num, by rw [HF.out]; exact HO.out, HB.out⟩
    case measure => simp [intOf]; omega
  ·obtain rfl : k = es.length := by omega
   have hO := HO.out
   rw [List.take_length] at hO
   go_wp2
   go_ret
   exact ⟨_, rfl, hO, HB.out⟩
end Go.Proofs.YtookchpdbilbcaaGreatDoor
/-
 All of a row of events are right, told by a Bool. Of no function.
-/
namespace Go.Proofs.YtookchpdbilbcaaGreatDoor
open Go.RowKit
def allB (es : List Ev) : Bool := es.all evB
theorem ZGP {es : List Ev} (h : ∀ j, (hj : j < es.length) → evB es[j] = true) : allB es = true := by
 unfold allB; rw [List.all_eq_true]
 intro x hx
 obtain ⟨j, hj, rfl⟩ := List.mem_iff_getElem.1 hx
 exact h j hj
theorem allB_no {es : List Ev} {j : Nat} (hj : j < es.length) (h : evB es[j] = false) : allB es = false := by
 unfold allB; rw [List.all_eq_false]
 exact ⟨es[j], List.getElem_mem hj, by simp [h]⟩
theorem ZI5 {es : List Ev} {k : Nat} {hk : k < es.length} (ha : ∀ j, j < k → (h : j < es.length) → evB es[j] = true) (ho : evB es[k] = true) : ∀ j, j < k + 1 → (h : j < es.length) → evB es[j] = true := by
 intro j hj h
 by_cases e : j = k
 ·subst e; exact ho
 ·exact ha j (by omega) h
end Go.Proofs.YtookchpdbilbcaaGreatDoor
/-
 What spec.l02All answers, for every row of events: a contract over the seat's program.
-/
namespace Go.Proofs.YtookchpdbilbcaaGreatDoor
open Go.RowKit
theorem ZGj (g o c : Nat) (es : List Ev) (w : World) (hE : EvsAt w g o es) (hF : Fit es) (hn : es.length ≤ maxLen) :
  Calls Tryz.prog 81 #[.slice (some ⟨g, o, none⟩) es.length c] w fun e w' => e = .returned (.bool (allB es && decide ((es.length : Int) ≤ 200))) ∧ Below w.heap.size w w' := by
 unfold maxLen at hn
 have HE := hid hE
 clear hE
 go_enter Tryz.func81, Tryz.ntmps81
 go_wp2
 go_loopw [3] (fun i wr => ∃ k : Nat, k ≤ es.length ∧ i = .int .i64 k ∧ (∀ j, j < k → (h : j < es.length) → evB es[j] = true) ∧ Below w.heap.size w wr) (fun i _ => es.length - (intOf i).toNat)
 case atStart => exact ⟨0, Nat.zero_le _, rfl, fun j hj => absurd hj (by omega), Below.refl _ _⟩
 case round =>
  obtain ⟨k, hk, rfl, hall, hbel⟩ := hrel
  have HA := hid hall
  clear hall
  by_cases hlt : k < es.length
  ·obtain ⟨c0, c1, c2, c3, c4, c5⟩ := (HE.out.stay hbel nL).2 k hlt
   have cz : ∀ w, Calls Tryz.prog 44 #[.agg #[.int .i64 es[k].seq, .int .i64 es[k].time, .int .i64 es[k].run, .int .i64 es[k].kind, .string es[k].step, .string es[k].val]] w fun e w' => e = .returned (.bool (evB es[k])) ∧ Below w.heap.size w w' := fun w => ZA8 es[k].seq es[k].time es[k].run es[k].kind es[k].step es[k].val w (hF k hlt).1
   cases hr : evB es[k] with
   | false =>
    rw [hr] at cz
    have HR := hid hr
    clear hr
    go_wp2_with fail
    refine (cz _).mono ?_
    rintro e w2 ⟨rfl, hb2⟩
    have hbel2 := hbel.trans (hb2.mono hbel.size)
    clear c0 c1 c2 c3 c4 c5 hb2 cz
    go_wp2
    go_ret
    exact ⟨ZAd (by rw [allB_no hlt HR.out]; rfl), hbel2⟩
   | true =>
    rw [hr] at cz
    have HR := hid hr
    clear hr
    go_wp2_with fail
    refine (cz _).mono ?_
    rintro e w2 ⟨rfl, hb2⟩
    have hbel2 := hbel.trans (hb2.mono hbel.size)
    clear c0 c1 c2 c3 c4 c5 hb2 cz
    go_wp2
    go_roundw
    case rel => exact ⟨k + 1, by omega, by go_num, ZI5 HA.out HR.out, hbel2⟩
    case measure => simp [intOf]; omega
  ·go_wp2
   go_ret
   exact ⟨ZAd (by rw [ZGP (fun j hj => HA.out j (by omega) hj)]; rfl), hbel⟩
theorem ZFh (a : Option Addr) (c : Nat) (w : World) :
  Calls Tryz.prog 81 #[.slice a 0 c] w fun e w' => e = .returned (.bool true) ∧ Below w.heap.size w w' := by
 go_enter Tryz.func81, Tryz.ntmps81
 go_wp2
 go_loop [3] (fun i => i = .int .i64 0) (fun _ => 0)
 case atStart => exact rfl
 case round =>
  subst hrel
  go_wp2
  go_ret
  exact ⟨rfl, Below.refl _ _⟩
theorem ZG0 (v : Value) (es : List Ev) (w : World) (h : EvSl w v es) (hF : Fit es) (hn : es.length ≤ maxLen) :
  Calls Tryz.prog 81 #[v] w fun e w' => e = .returned (.bool (allB es && decide ((es.length : Int) ≤ 200))) ∧ Below w.heap.size w w' := by
 rcases h with ⟨a, c, rfl, rfl⟩ | ⟨g, o, c, rfl, _, h⟩
 ·exact ZFh a c w
 ·exact ZGj g o c es w h hF hn
end Go.Proofs.YtookchpdbilbcaaGreatDoor
/-
 What spec.l04Right and spec.HistoryRight answer: contracts over the seat's program.
-/
namespace Go.Proofs.YtookchpdbilbcaaGreatDoor
open Go.RowKit Go.Sort Go.Shelf
theorem ZHR {ss : List ByteArray} {fs : List Pr} {es : List Ev} (h : HistP ss fs es) : allB es = true := ZGP (fun _ hj => h.ev _ (List.getElem_mem hj))
theorem ZEp (a1 a2 a6 : Option Addr) (k1 k2 k6 : Nat) (ss : List ByteArray) (fs : List Pr) (es : List Ev) (w : World) (hD : DefSl w a1 a2 k1 k2 ss fs) (hE : EvSl w (.slice a6 es.length k6) es) (D : DefP ss fs) (FE : Fit es) (n6 : es.length ≤ maxLen) :
  Calls Tryz.prog 63 #[defV a1 a2 k1 k2 ss fs, .slice a6 es.length k6] w fun x w' => RetB x (HistP ss fs es) ∧ Below w.heap.size w w' := by
 have hbW : Below w.heap.size w (w.alloc (.cells #[.slice a1 ss.length k1, .slice a2 fs.length k2] 33)) := (bR _ _).alloc nL _
 have HX := hid (heap_alloc_new w (.cells #[.slice a1 ss.length k1, .slice a2 fs.length k2] 33))
 have HDW := hid (hD.stay hbW)
 have HEW := hid (hE.stay hbW nL)
 have HBW := hid hbW
 have cR := hid (ZG0 (.slice a6 es.length k6) es _ HEW.out FE n6)
 have HFE := hid FE
 have HY := hid D
 have N6 := hid n6
 have hn6 : es.length ≤ 9223372036854775807 := by unfold maxLen at n6; omega
 clear hD hE hbW D FE n6
 have HNB := hid (show (allB es && decide ((es.length : Int) ≤ 200)) = false → ¬ HistP ss fs es from fun h H => by
  rw [ZHR H, Bool.true_and] at h
  have := H.n
  simp at h
  omega)
 have HYB := hid (show (allB es && decide ((es.length : Int) ≤ 200)) = true → es.length ≤ 200 from fun h => by
  simp at h
  omega)
 generalize hAB : (allB es && decide ((es.length : Int) ≤ 200)) = AB at *
 clear hAB
 go_enter Tryz.func63, Tryz.ntmps63
 go_wp2_with fail
 refine cR.out.mono ?_
 generalize hW : w.alloc (.cells #[.slice a1 ss.length k1, .slice a2 fs.length k2] 33) = W at *
 have hzW : W.heap.size = w.heap.size + 1 := by rw [← hW]; simp
 clear hW cR
 rintro x W1 ⟨rfl, hb1⟩
 have HB1 := hid hb1
 have hz1 := hb1.size
 clear hb1
 cases AB with
 | false =>
  have HN := hid (HNB.out rfl)
  go_wp2
  go_ret
  exact ⟨ZAT HN.out, HBW.out.trans (HB1.out.mono (by omega))⟩
 | true =>
  have h2 := HYB.out rfl
  clear HNB HYB
  go_wp2
  go_loopw [5] (fun i wr => ∃ k : Nat, (k ≤ es.length ∨ k = 1) ∧ 1 ≤ k ∧ i = .int .i64 k ∧ (∀ j, (h : j + 1 < es.length) → j + 1 < k → es[j].seq < es[j + 1].seq) ∧ Below W1.heap.size W1 wr) (fun i _ => es.length - (intOf i).toNat)
  case atStart => exact ⟨1, .inr rfl, Nat.le_refl _, rfl, fun j _ hj => absurd hj (by omega), Below.refl _ _⟩
  case round =>
   obtain ⟨k, hk, hk1, rfl, hall, hbel⟩ := hrel
   have HA := hid hall
   have HBr := hid hbel
   have HB := hid (HB1.out.trans (hbel.mono hz1))
   have hzr := hbel.size
   clear hall hbel
   by_cases hlt : k < es.length
   ·obtain ⟨g, o, rfl, hQ⟩ := HEW.out.row (by omega)
    obtain ⟨m, rfl⟩ : ∃ m, k = m + 1 := ⟨k - 1, by omega⟩
    have hQr := hQ.stay HB.out nL
    have d0 : wr.drew.cell? ⟨g, o + (m + 1) * 6, none⟩ = some (.int .i64 es[m + 1].seq) := (hQr.2 (m + 1) hlt).c0
    have d1 : wr.drew.cell? ⟨g, o + m * 6, none⟩ = some (.int .i64 es[m].seq) := (hQr.2 m (by omega)).c0
    have e1 : (((m + 1 : Nat) : Int) - 1) = (m : Int) := by omega
    have HS := hid (show ∀ h : es[m].seq < es[m + 1].seq, ∀ j, (hj : j + 1 < es.length) → j + 1 < m + 1 + 1 → es[j].seq < es[j + 1].seq from fun h j hj hjk => by
     by_cases e : j = m
     ·subst e; exact h
     ·exact HA.out j hj (by omega))
    have HN := hid (show ∀ h : es[m + 1].seq ≤ es[m].seq, ¬ HistP ss fs es from fun h hr => by have := hr.r m hlt; omega)
    clear hQ hQr
    generalize es[m + 1].seq = s1 at *
    generalize es[m].seq = s0 at *
    by_cases hle : s1 ≤ s0
    ·go_wp2_with fail
     go_region
     go_wp2
     go_ret
     exact ⟨ZAT (HN.out hle), (HBW.out.trans (HB.out.mono (by omega))).drew⟩
    ·go_wp2_with fail
     go_region
     go_wp2
     go_roundw
     case rel => exact ⟨m + 1 + 1, .inl (by omega), by omega, by go_num, HS.out (by omega), HBr.out.drew⟩
     case measure => simp [intOf]; omega
   ·have HRI := hid (show RiseP es from fun j hj => HA.out j hj (by omega))
    have cU := hid (ZBh a6 k6 es wr (HEW.out.stay HB.out nL) (by omega))
    clear HA
    obtain ⟨W2, rfl⟩ : ∃ q, q = wr := ⟨_, rfl⟩
    go_wp2_with fail
    refine cU.out.mono ?_
    rintro x W3 ⟨v, rs, rfl, hR, hO, hb3⟩
    have hI := ZE7 hO
    obtain ⟨ra, rc, rfl⟩ := hI.form
    have hrl := hR.len
    have HR := hid hR
    have HI := hid hI
    have HB3 := hid (HB.out.trans (hb3.mono (by omega)))
    have hz3 := hb3.size
    clear hR hI hO hb3 cU
    go_wp2
    go_loopw [7] (fun i wr => ∃ k : Nat, k ≤ rs.length ∧ i = .int .i64 k ∧ (∀ j, (hj : j < rs.length) → j < k → (ofS ss fs (ofRun es rs[j]) z0).1 = 0) ∧ Below W3.heap.size W3 wr) (fun i _ => rs.length - (intOf i).toNat)
    case atStart => exact ⟨0, Nat.zero_le _, rfl, fun j _ hj => absurd hj (by omega), Below.refl _ _⟩
    case round =>
     obtain ⟨k, hk, rfl, hall, hbel⟩ := hrel
     have HA := hid hall
     have HBr := hid hbel
     have hzr := hbel.size
     have HBW' := hid (HB3.out.trans (hbel.mono (by omega)))
     clear hall hbel
     by_cases hlt : k < rs.length
     ·obtain ⟨g, o, rfl, hg, hc⟩ := HI.out.row (by omega)
      have c0 := (HBr.out.cell (p := ⟨g, o + k, none⟩) hg).trans (hc k hlt)
      have hx := (HBW'.out.block _ (ZAA HX.out)).trans HX.out
      have d0 : wr.cell? ⟨w.heap.size, 0, none⟩ = some (.slice a1 ss.length k1) := ce hx rfl
      have d1 : wr.cell? ⟨w.heap.size, 1, none⟩ = some (.slice a2 fs.length k2) := ce hx rfl
      have HST := hid (fun h : (ofS ss fs (ofRun es rs[k]) z0).1 = 0 => show ∀ j, (hj : j < rs.length) → j < k + 1 → (ofS ss fs (ofRun es rs[j]) z0).1 = 0 from fun j hj hjk => by
       by_cases e : j = k
       ·subst e; exact h
       ·exact HA.out j hj (by omega))
      have HNO := hid (fun h : ¬ (ofS ss fs (ofRun es rs[k]) z0).1 = 0 => ZGL HR.out hlt h)
      have q1 : (0 : Int) ≤ (k : Int) := by omega
      have q2 : (k : Int) < (rs.length : Int) := by omega
      clear hc hx
      generalize rs[k] = r at *
      have hlen := Nat.le_trans (ZC4 es r) h2
      have hbR : Below wr.heap.size wr wr.drew := (bR _ _).drew
      have cB := hid (fun (X : World) (hX : Below wr.heap.size wr X) => ZHL a6 k6 es r X (HEW.out.stay (HBW'.out.trans (hX.mono (by omega))) nL) (by omega))
      have cC := hid (fun (X : World) (a : Option Addr) (c : Nat) (hX : Below wr.heap.size wr X) (hS : EvSl X (.slice a (ofRun es r).length c) (ofRun es r)) => ZH3 a1 a2 a k1 k2 c ss fs (ofRun es r) X (HDW.out.stay (HBW'.out.trans (hX.mono (by omega)))) hS HY.out (ZDs es r (p := fun e => e.step.size ≤ maxLen) (fun i hi => (HFE.out i hi).1)) (by omega))
      generalize hst : ofS ss fs (ofRun es r) z0 = cs at *
      clear hst
      obtain ⟨cc, S'⟩ := cs
      have hfd : ∀ (x0 x1 x2 x6 x7 : Int) (y3 y4 y5 : Option Addr) (n3 n4 n5 m3 m4 m5 : Nat) (w : World), (Instr.field 83 (.agg #[.int .i64 x0, .int .i64 x1, .int .i64 x2, .slice y3 n3 m3, .slice y4 n4 m4, .slice y5 n5 m5, .int .i64 x6, .int .i64 x7]) 1).run Tryz.prog w = .ok (.int .i64 x7) w := fun _ _ _ _ _ _ _ _ _ _ _ _ _ _ _ => by kernel_rfl
      have ld : w.heap.size < wr.heap.size := by omega
      have lg : g < wr.heap.size := by omega
      go_wp2_with fail
      go_region_held3 (fun w' => w'.cell? ⟨w.heap.size, 0, none⟩ = some (.slice a1 ss.length k1) ∧ w'.cell? ⟨w.heap.size, 1, none⟩ = some (.slice a2 fs.length k2) ∧ w'.cell? ⟨g, o + k, none⟩ = some (.int .i64 r)) (go_keep) (first
       | (go_at_call 46; refine (cB.out _ hbR).mono ?_; rintro x V2 ⟨v2, rfl, ho2, hq2⟩; obtain ⟨va, vc, rfl⟩ := ZAD ho2; have hb2 : Below wr.heap.size wr V2 := hbR.trans (hq2.mono hbR.size); have v20 := (hb2.cell (p := ⟨w.heap.size, 0, none⟩) ld).trans d0; have v21 := (hb2.cell (p := ⟨w.heap.size, 1, none⟩) ld).trans d1; have v22 := (hb2.cell (p := ⟨g, o + k, none⟩) lg).trans c0)
       | (go_at_call 45; refine (cC.out _ _ _ hb2 (ZAi ho2)).mono ?_; rintro x V3 ⟨u3, u4, u5, rfl, hO3, hq3⟩; obtain ⟨x3a, x4a, x5a, x3c, x4c, x5c, rfl, rfl, rfl⟩ := hO3.forms; unfold outV; have hb3 : Below wr.heap.size wr V3 := hb2.trans (hq3.mono hb2.size); have v30 := (hb3.cell (p := ⟨w.heap.size, 0, none⟩) ld).trans d0; have v31 := (hb3.cell (p := ⟨w.heap.size, 1, none⟩) ld).trans d1; have v32 := (hb3.cell (p := ⟨g, o + k, none⟩) lg).trans c0))
      have HB9 := hid hb3
      clear hb2 hb3 hq2 hq3 hO3 ho2 v20 v21 v22 v30 v31 v32 d0 d1 c0 cB cC hfd
      by_cases hcc : cc = 0
      ·subst hcc
       go_wp2
       go_roundw
       case rel => exact ⟨k + 1, by omega, by go_num, HST.out rfl, HBr.out.trans (HB9.out.mono (by omega))⟩
       case measure => simp [intOf]; omega
      ·have hce : (cc != 0) = true := by simpa using hcc
       rw [hce]
       go_wp2
       go_ret
       exact ⟨ZAT (HNO.out hcc), HBW.out.trans ((HBW'.out.trans (HB9.out.mono (by omega))).mono (by omega))⟩
     ·have HPH := hid (ZFG HR.out HY.out h2 HRI.out (fun j hj => HA.out j hj (by omega)))
      go_wp2
      go_ret
      exact ⟨ZBG HPH.out, HBW.out.trans (HBW'.out.mono (by omega))⟩
theorem ZBb (a1 a2 a6 : Option Addr) (k1 k2 k6 : Nat) (ss : List ByteArray) (fs : List Pr) (es : List Ev) (w : World) (hD : DefSl w a1 a2 k1 k2 ss fs) (hE : EvSl w (.slice a6 es.length k6) es) (F1 : ∀ i, (h : i < ss.length) → ss[i].size ≤ maxLen) (FE : Fit es) (n1 : ss.length ≤ maxLen) (n2 : fs.length ≤ maxLen) (n6 : es.length ≤ maxLen) :
  Calls Tryz.prog 42 #[defV a1 a2 k1 k2 ss fs, .slice a6 es.length k6] w fun x w' => RetB x (HistP ss fs es) ∧ Below w.heap.size w w' := by
 have hbW : Below w.heap.size w (w.alloc (.cells #[.slice a1 ss.length k1, .slice a2 fs.length k2] 33)) := (bR _ _).alloc nL _
 have HX := hid (heap_alloc_new w (.cells #[.slice a1 ss.length k1, .slice a2 fs.length k2] 33))
 have HDW := hid (hD.stay hbW)
 have HEW := hid (hE.stay hbW nL)
 have HBW := hid hbW
 have cR := hid (ZCM a1 a2 k1 k2 ss fs _ HDW.out.h1 HDW.out.h2 F1 n1 n2)
 have HFE := hid FE
 have N6 := hid n6
 have hn6 : es.length ≤ 9223372036854775807 := by unfold maxLen at n6; omega
 clear hD hE hbW F1 FE n1 n2 n6
 by_cases h4 : es.length ≤ 400
 case neg =>
  have HN := hid (show ¬ HistP ss fs es from fun h => by have := h.n; omega)
  clear cR
  go_enter Tryz.func42, Tryz.ntmps42
  go_wp2
  go_ret
  exact ⟨ZAT HN.out, HBW.out⟩
 case pos =>
  go_enter Tryz.func42, Tryz.ntmps42
  go_wp2_with fail
  refine cR.out.mono ?_
  generalize hW : w.alloc (.cells #[.slice a1 ss.length k1, .slice a2 fs.length k2] 33) = W at *
  have hzW : W.heap.size = w.heap.size + 1 := by rw [← hW]; simp
  clear hW cR
  rintro x W1 ⟨⟨B1, rfl, T⟩, hb1⟩
  have HB1 := hid hb1
  have HT := hid T
  have hz1 := hb1.size
  have hx := (hb1.block _ (ZAA HX.out)).trans HX.out
  have d0 : W1.cell? ⟨w.heap.size, 0, none⟩ = some (.slice a1 ss.length k1) := ce hx rfl
  have d1 : W1.cell? ⟨w.heap.size, 1, none⟩ = some (.slice a2 fs.length k2) := ce hx rfl
  clear T hb1 hx
  cases B1 with
  | false =>
   have HN := hid (show ¬ HistP ss fs es from fun h => absurd (HT.out.yes h.d) (by decide))
   go_wp2
   go_ret
   exact ⟨ZAT HN.out, HBW.out.trans (HB1.out.mono (by omega))⟩
  | true =>
   have HY := hid (show DefP ss fs from HT.out.1 rfl)
   have cL := hid (ZEp a1 a2 a6 k1 k2 k6 ss fs es W1 (HDW.out.stay HB1.out) (HEW.out.stay HB1.out nL) HY.out HFE.out N6.out)
   change Hid (Calls _ _ #[.agg #[.slice a1 ss.length k1, .slice a2 fs.length k2], .slice a6 es.length k6] _ _) at cL
   go_wp2_with fail
   refine cL.out.mono ?_
   rintro x W2 ⟨⟨B2, rfl, T2⟩, hb2⟩
   have HB2 := hid (HB1.out.trans (hb2.mono hz1))
   have HT2 := hid T2
   clear T2 hb2 cL
   cases B2 with
   | false =>
    go_wp2
    go_ret
    exact ⟨⟨false, rfl, HT2.out⟩, HBW.out.trans (HB2.out.mono (by omega))⟩
   | true =>
    go_wp2
    go_ret
    exact ⟨⟨true, rfl, HT2.out⟩, HBW.out.trans (HB2.out.mono (by omega))⟩
end Go.Proofs.YtookchpdbilbcaaGreatDoor
/-
 What spec.ServiceRight answers: a contract over the seat's program. (Made by mksvr.py.)
-/
namespace Go.Proofs.YtookchpdbilbcaaGreatDoor
open Go.RowKit Go.Sort
theorem ZAr (a1 a2 a6 : Option Addr) (k1 k2 k6 : Nat) (ss : List ByteArray) (fs : List Pr) (es : List Ev) (nx : Int) (w : World) (hD : DefSl w a1 a2 k1 k2 ss fs) (hE : EvSl w (.slice a6 es.length k6) es) (F1 : ∀ i, (h : i < ss.length) → ss[i].size ≤ maxLen) (FE : Fit es) (n1 : ss.length ≤ maxLen) (n2 : fs.length ≤ maxLen) (n6 : es.length ≤ maxLen) :
  Calls Tryz.prog 22 #[svV a1 a2 a6 k1 k2 k6 ss fs es nx] w fun x w' => RetB x (SvP ss fs es nx) ∧ Below w.heap.size w w' := by
 have hbW : Below w.heap.size w (w.alloc (.cells #[.slice a1 ss.length k1, .slice a2 fs.length k2, .slice a6 es.length k6, .int .i64 nx] 36)) := (bR _ _).alloc nL _
 have HX := hid (heap_alloc_new w (.cells #[.slice a1 ss.length k1, .slice a2 fs.length k2, .slice a6 es.length k6, .int .i64 nx] 36))
 have HDW := hid (hD.stay hbW)
 have HEW := hid (hE.stay hbW nL)
 have HBW := hid hbW
 have cR := hid (ZBb a1 a2 a6 k1 k2 k6 ss fs es _ HDW.out HEW.out F1 FE n1 n2 n6)
 change Hid (Calls _ _ #[.agg #[.slice a1 ss.length k1, .slice a2 fs.length k2], .slice a6 es.length k6] _ _) at cR
 have hn6 : es.length ≤ 9223372036854775807 := by unfold maxLen at n6; omega
 clear hD hE hbW F1 FE n1 n2 n6
 go_enter Tryz.func22, Tryz.ntmps22
 go_wp2_with fail
 refine cR.out.mono ?_
 generalize hW : (w.alloc (.cells #[.slice a1 ss.length k1, .slice a2 fs.length k2, .slice a6 es.length k6, .int .i64 nx] 36)) = W at *
 have hzW : W.heap.size = w.heap.size + 1 := by rw [← hW]; simp
 clear hW cR
 rintro x W1 ⟨⟨B1, rfl, T⟩, hb1⟩
 have HBn := hid hb1
 have HT := hid T
 have hz1 := hb1.size
 have HXn := hid ((hb1.block _ (ZAA HX.out)).trans HX.out)
 clear T hb1
 have c3 : W1.cell? ⟨w.heap.size, 3, none⟩ = some (.int .i64 nx) := ce HXn.out rfl
 cases B1 with
 | false =>
  have HN := hid (show ¬ SvP ss fs es nx from fun h => absurd (HT.out.yes h.h) (by decide))
  go_wp2
  go_ret
  exact ⟨ZAT HN.out, HBW.out.trans (HBn.out.mono (by omega))⟩
 | true =>
  have HP := hid (show HistP ss fs es from HT.out.1 rfl)
  have cN : Calls Tryz.prog 43 #[.int .i64 nx, .int .i64 1, .int .i64 1000000] W1 fun e w' => e = .returned (.bool (numB nx)) ∧ w' = W1 := ZBq nx 1 1000000 W1
  cases hnu : numB nx with
  | false =>
   have HN := hid (show ¬ SvP ss fs es nx from fun h => by have := h.n; rw [hnu] at this; cases this)
   rw [hnu] at cN
   clear hnu
   go_wp2_with fail
   refine cN.mono ?_
   rintro x _ ⟨rfl, rfl⟩
   go_wp2
   go_ret
   exact ⟨ZAT HN.out, HBW.out.trans (HBn.out.mono (by omega))⟩
  | true =>
   have HNU := hid hnu
   rw [hnu] at cN
   clear hnu
   go_wp2_with fail
   refine cN.mono ?_
   rintro x W2 ⟨rfl, hw2⟩
   subst hw2
   clear cN c3
   have fz := Lib.frozen_of_heap HXn.out
   have c0 : W2.cell? ⟨w.heap.size, 0, none⟩ = some (.slice a1 ss.length k1) := ce HXn.out rfl
   have c1 : W2.cell? ⟨w.heap.size, 1, none⟩ = some (.slice a2 fs.length k2) := ce HXn.out rfl
   have c2 : W2.cell? ⟨w.heap.size, 2, none⟩ = some (.slice a6 es.length k6) := ce HXn.out rfl
   have c3 : W2.cell? ⟨w.heap.size, 3, none⟩ = some (.int .i64 nx) := ce HXn.out rfl
   have hbox := ZAA HXn.out
   by_cases hL : 0 < es.length
   ·obtain ⟨g, o, rfl, hQ⟩ := HEW.out.row hL
    have q0 := ((hQ.stay HBn.out nL).2 (es.length - 1) (by omega)).c0
    have HYES := hid (show es[es.length - 1].seq < nx → SvP ss fs es nx from fun h => ⟨HP.out, HNU.out, fun _ => h⟩)
    have HNOT := hid (show ¬ es[es.length - 1].seq < nx → ¬ SvP ss fs es nx from fun h H => h (H.l hL))
    have d0 : W2.drew.cell? ⟨w.heap.size, 0, none⟩ = some (.slice a1 ss.length k1) := c0
    have d2 : W2.drew.cell? ⟨w.heap.size, 2, none⟩ = some (.slice (some ⟨g, o, none⟩) es.length k6) := c2
    have d3 : W2.drew.cell? ⟨w.heap.size, 3, none⟩ = some (.int .i64 nx) := c3
    have d4 : W2.drew.cell? ⟨g, o + (es.length - 1) * 6, none⟩ = some (.int .i64 es[es.length - 1].seq) := q0
    clear hQ q0
    generalize es[es.length - 1].seq = sq at *
    have HB9 := hid (HBW.out.trans ((HBn.out.drew).mono (by omega)))
    clear HBn HBW HEW HP
    generalize es.length = n at *
    obtain ⟨m, rfl⟩ : ∃ m, n = m + 1 := ⟨n - 1, by omega⟩
    rw [Nat.add_sub_cancel] at d4
    have e1 : (((m + 1 : Nat) : Int) - 1) = (m : Int) := by omega
    have r1 : (((m : Int) + 1) == 0) = false := by simp; omega
    have r2 : (m : Int) < (m : Int) + 1 := by omega
    have r3 : decide ((m : Int) < 0) = false := by simp
    have r4 : (0 : Int) ≤ (m : Int) := by omega
    have r5 : IntKind.i64.wrap (m : Int) = (m : Int) := by rw [IntKind.wrap_i64]; omega
    by_cases hsq : sq < nx
    ·go_wp2_with fail
     go_region
     go_wp2
     go_ret
     exact ⟨ZBG (HYES.out hsq), HB9.out⟩
    ·go_wp2_with fail
     go_region
     go_wp2
     go_ret
     refine ⟨?_, HB9.out⟩
     show RetB (.returned (.bool (decide (sq < nx)))) _
     rw [decide_eq_false (Int.not_lt.2 hsq)]
     exact ZAT (HNOT.out hsq)
   ·have HYES := hid (show SvP ss fs es nx from ⟨HP.out, HNU.out, fun h => absurd h hL⟩)
    have hL0 : es.length = 0 := by omega
    have HB9 := hid (HBW.out.trans ((HBn.out.drew).mono (by omega)))
    clear HBn HBW HEW HP
    rw [hL0] at c2
    go_wp2_with fail
    go_region
    go_wp2
    go_ret
    exact ⟨ZBG HYES.out, HB9.out⟩
end Go.Proofs.YtookchpdbilbcaaGreatDoor
/-
 What spec.l06Over answers: a contract over the seat's program.
-/
namespace Go.Proofs.YtookchpdbilbcaaGreatDoor
open Go.RowKit Go.Sort
/-- An end of that run, by that time. -/
def overB (r t : Int) (e : Ev) : Bool := decide (e.run = r) && (decide (e.kind = 6) && decide (e.time ≤ t))
theorem ZIR {r t : Int} {es : List Ev} {k : Nat} (hk : k < es.length) (h : (es.take k).any (overB r t) = false) (h' : overB r t es[k] = false) : (es.take (k + 1)).any (overB r t) = false := by
 rw [List.take_succ_eq_append_getElem hk, List.any_append, h]
 simp [h']
theorem over_at {r t : Int} {es : List Ev} {k : Nat} (hk : k < es.length) (h' : overB r t es[k] = true) : es.any (overB r t) = true := List.any_eq_true.2 ⟨es[k], List.getElem_mem hk, h'⟩
theorem ZF1 (a : Option Addr) (c : Nat) (es : List Ev) (r t : Int) (w : World) (hE : EvSl w (.slice a es.length c) es) (hn : es.length ≤ 1048576) :
  Calls Tryz.prog 36 #[.slice a es.length c, .int .i64 r, .int .i64 t] w fun e w' => e = .returned (.bool (es.any (overB r t))) ∧ w' = w := by
 have HE := hid hE
 clear hE
 go_enter Tryz.func36, Tryz.ntmps36
 go_wp2
 go_loopw [7] (fun i wr => ∃ k : Nat, k ≤ es.length ∧ i = .int .i64 k ∧ (es.take k).any (overB r t) = false ∧ wr = w) (fun i _ => es.length - (intOf i).toNat)
 case atStart => exact ⟨0, Nat.zero_le _, rfl, by simp, rfl⟩
 case round =>
  obtain ⟨k, hk, rfl, hno, hw⟩ := hrel
  rw [hw]
  have HNo := hid hno
  clear hno hw
  by_cases hlt : k < es.length
  ·obtain ⟨g, o, rfl, hQ⟩ := HE.out.row (by omega)
   obtain ⟨c0, c1, c2, c3, c4, c5⟩ := hQ.2 k hlt
   have HT := hid (ZIR (r := r) (t := t) hlt HNo.out)
   have HA := hid (over_at (r := r) (t := t) hlt)
   clear hQ HNo
   generalize es[k] = x at *
   by_cases h1 : x.run = r
   ·have e1 : (x.run == r) = true := by rw [beq_iff_eq]; exact h1
    by_cases h2 : x.kind = 6
    ·have e2 : (x.kind == 6) = true := by rw [beq_iff_eq]; exact h2
     by_cases h3 : x.time ≤ t
     ·have e3 : decide (x.time ≤ t) = true := decide_eq_true h3
      have HR := hid (HA.out (by simp [overB, h1, h2, h3]))
      clear HT HA h1 h2 h3
      go_wp2
      go_ret
      exact ⟨by rw [HR.out]; rfl, by first | rfl | trivial⟩
     ·have e3 : decide (x.time ≤ t) = false := decide_eq_false h3
      have HR := hid (HT.out (by simp [overB, h3]))
      clear HT HA h1 h2 h3
      go_wp2
      go_roundw
      case rel => exact ⟨k + 1, by omega, by go_num, HR.out, by first | rfl | trivial⟩
      case measure => simp [intOf]; omega
    ·have e2 : (x.kind == 6) = false := by rw [beq_eq_false_iff_ne]; exact h2
     have HR := hid (HT.out (by simp [overB, h2]))
     clear HT HA h1 h2
     go_wp2
     go_roundw
     case rel => exact ⟨k + 1, by omega, by go_num, HR.out, by first | rfl | trivial⟩
     case measure => simp [intOf]; omega
   ·have e1 : (x.run == r) = false := by rw [beq_eq_false_iff_ne]; exact h1
    have HR := hid (HT.out (by simp [overB, h1]))
    clear HT HA h1
    go_wp2
    go_roundw
    case rel => exact ⟨k + 1, by omega, by go_num, HR.out, by first | rfl | trivial⟩
    case measure => simp [intOf]; omega
  ·obtain rfl : k = es.length := by omega
   have h := HNo.out
   rw [List.take_length] at h
   have HR := hid h
   clear h HNo
   go_wp2
   go_ret
   exact ⟨by rw [HR.out]; rfl, by first | rfl | trivial⟩
end Go.Proofs.YtookchpdbilbcaaGreatDoor
/-
 What is listed and is not; an event made. Of no function. (Cut off SpIng.)
-/
namespace Go.Proofs.YtookchpdbilbcaaGreatDoor
open Go.RowKit Go.Sort
theorem ev_made (X : World) (q t r k : Int) (s v : ByteArray) : CellsSl (X.alloc (.cells #[.int .i64 q, .int .i64 t, .int .i64 r, .int .i64 k, .string s, .string v] 57)) (.slice (some ⟨X.heap.size, 0, none⟩) 1 1) 6 1 [.int .i64 q, .int .i64 t, .int .i64 r, .int .i64 k, .string s, .string v] :=
 ⟨rfl, by intro u hu; simp at hu; rcases hu with rfl | rfl | rfl | rfl | rfl | rfl <;> rfl, .inr ⟨⟨X.heap.size, 0, none⟩, 1, rfl, fun j u hj => by rw [Addr.add_lit, Lib.cell_of_heap (heap_alloc_new X _)]; simpa using hj⟩⟩
theorem ZAS {listed : Array Bool} {i : Nat} {C : Prop} (h : listed.getD i false = true) (h' : listed.getD i true = false) : C := by
 rw [ZAW h'] at h; cases h
end Go.Proofs.YtookchpdbilbcaaGreatDoor
