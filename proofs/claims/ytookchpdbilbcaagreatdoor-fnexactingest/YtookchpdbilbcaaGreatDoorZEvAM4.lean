/-
 Texts put together: EvAM, EvAS, SpHist, SpSvR.
-/
import Derived.Test.YtookchpdbilbcaaGreatDoorZEvX11
import Derived.Test.YtookchpdbilbcaaGreatDoorZDfV7
import Derived.Test.YtookchpdbilbcaaGreatDoorZSpRuns
import Derived.Test.YtookchpdbilbcaaGreatDoorZSpRun
import Derived.Test.YtookchpdbilbcaaGreatDoorZSpOf
import Derived.Deep.RegionHeld3
import Derived.Test.YtookchpdbilbcaaGreatDoorZSvM4
set_option maxRecDepth 100000
set_option maxHeartbeats 4000000
/-
 All of a row of events are right, told by a Bool. Of no function.
-/
namespace Go.Proofs.YtookchpdbilbcaaGreatDoor
open Go.RowKit
def allB (es : List Ev) : Bool := es.all evB
theorem allB_yes {es : List Ev} (h : ∀ j, (hj : j < es.length) → evB es[j] = true) : allB es = true := by
 unfold allB; rw [List.all_eq_true]
 intro x hx
 obtain ⟨j, hj, rfl⟩ := List.mem_iff_getElem.1 hx
 exact h j hj
theorem allB_no {es : List Ev} {j : Nat} (hj : j < es.length) (h : evB es[j] = false) : allB es = false := by
 unfold allB; rw [List.all_eq_false]
 exact ⟨es[j], List.getElem_mem hj, by simp [h]⟩
theorem allB_at {es : List Ev} (h : allB es = true) {j : Nat} (hj : j < es.length) : evB es[j] = true := List.all_eq_true.1 h _ (List.getElem_mem hj)
theorem all_step {es : List Ev} {k : Nat} {hk : k < es.length} (ha : ∀ j, j < k → (h : j < es.length) → evB es[j] = true) (ho : evB es[k] = true) : ∀ j, j < k + 1 → (h : j < es.length) → evB es[j] = true := by
 intro j hj h
 by_cases e : j = k
 ·subst e; exact ho
 ·exact ha j (by omega) h
end Go.Proofs.YtookchpdbilbcaaGreatDoor
/-
 What spec.l02All answers, for every row of events: a contract over the seat's program.
-/
namespace Go.Proofs.YtookchpdbilbcaaGreatDoor
open Go.RowKit
theorem l02All_row (g o c : Nat) (es : List Ev) (w : World) (hE : EvsAt w g o es) (hF : Fit es) (hn : es.length ≤ maxLen) :
  Calls Tryz.prog 81 #[.slice (some ⟨g, o, none⟩) es.length c] w fun e w' => e = .returned (.bool (allB es && decide ((es.length : Int) ≤ 200))) ∧ Below w.heap.size w w' := by
 unfold maxLen at hn
 have HE := hid hE
 clear hE
 go_enter Tryz.func81, Tryz.ntmps81
 go_wp2
 go_loopw [3] (fun i wr => ∃ k : Nat, k ≤ es.length ∧ i = .int .i64 k ∧ (∀ j, j < k → (h : j < es.length) → evB es[j] = true) ∧ Below w.heap.size w wr) (fun i _ => es.length - (intOf i).toNat)
 case atStart => exact ⟨0, Nat.zero_le _, rfl, fun j hj => absurd hj (by omega), Below.refl _ _⟩
 case round =>
  obtain ⟨k, hk, rfl, hall, hbel⟩ := hrel
  have HA := hid hall
  clear hall
  by_cases hlt : k < es.length
  ·obtain ⟨c0, c1, c2, c3, c4, c5⟩ := (HE.out.stay hbel (Nat.le_refl _)).2 k hlt
   have cz : ∀ w, Calls Tryz.prog 44 #[.agg #[.int .i64 es[k].seq, .int .i64 es[k].time, .int .i64 es[k].run, .int .i64 es[k].kind, .string es[k].step, .string es[k].val]] w fun e w' => e = .returned (.bool (evB es[k])) ∧ Below w.heap.size w w' := fun w => specEventRight_any es[k].seq es[k].time es[k].run es[k].kind es[k].step es[k].val w (hF k hlt).1
   cases hr : evB es[k] with
   | false =>
    rw [hr] at cz
    have HR := hid hr
    clear hr
    go_wp2_with fail
    refine (cz _).mono ?_
    rintro e w2 ⟨rfl, hb2⟩
    have hbel2 := hbel.trans (hb2.mono hbel.size)
    clear c0 c1 c2 c3 c4 c5 hb2 cz
    go_wp2
    go_ret
    exact ⟨ret_bool (by rw [allB_no hlt HR.out]; rfl), hbel2⟩
   | true =>
    rw [hr] at cz
    have HR := hid hr
    clear hr
    go_wp2_with fail
    refine (cz _).mono ?_
    rintro e w2 ⟨rfl, hb2⟩
    have hbel2 := hbel.trans (hb2.mono hbel.size)
    clear c0 c1 c2 c3 c4 c5 hb2 cz
    go_wp2
    go_roundw
    case rel => exact ⟨k + 1, by omega, by go_num, all_step HA.out HR.out, hbel2⟩
    case measure => simp [intOf]; omega
  ·go_wp2
   go_ret
   exact ⟨ret_bool (by rw [allB_yes (fun j hj => HA.out j (by omega) hj)]; rfl), hbel⟩
theorem l02All_none (a : Option Addr) (c : Nat) (w : World) :
  Calls Tryz.prog 81 #[.slice a 0 c] w fun e w' => e = .returned (.bool true) ∧ Below w.heap.size w w' := by
 go_enter Tryz.func81, Tryz.ntmps81
 go_wp2
 go_loop [3] (fun i => i = .int .i64 0) (fun _ => 0)
 case atStart => exact rfl
 case round =>
  subst hrel
  go_wp2
  go_ret
  exact ⟨rfl, Below.refl _ _⟩
theorem l02All_any (v : Value) (es : List Ev) (w : World) (h : EvSl w v es) (hF : Fit es) (hn : es.length ≤ maxLen) :
  Calls Tryz.prog 81 #[v] w fun e w' => e = .returned (.bool (allB es && decide ((es.length : Int) ≤ 200))) ∧ Below w.heap.size w w' := by
 rcases h with ⟨a, c, rfl, rfl⟩ | ⟨g, o, c, rfl, _, h⟩
 ·exact l02All_none a c w
 ·exact l02All_row g o c es w h hF hn
end Go.Proofs.YtookchpdbilbcaaGreatDoor
/-
 What spec.l04Right and spec.HistoryRight answer: contracts over the seat's program.
-/
namespace Go.Proofs.YtookchpdbilbcaaGreatDoor
open Go.RowKit Go.Sort Go.Shelf
theorem histP_all {ss : List ByteArray} {fs : List Pr} {es : List Ev} (h : HistP ss fs es) : allB es = true := allB_yes (fun _ hj => h.ev _ (List.getElem_mem hj))
theorem l04Right_any (a1 a2 a6 : Option Addr) (k1 k2 k6 : Nat) (ss : List ByteArray) (fs : List Pr) (es : List Ev) (w : World) (hD : DefSl w a1 a2 k1 k2 ss fs) (hE : EvSl w (.slice a6 es.length k6) es) (D : DefP ss fs) (FE : Fit es) (n6 : es.length ≤ maxLen) :
  Calls Tryz.prog 63 #[defV a1 a2 k1 k2 ss fs, .slice a6 es.length k6] w fun x w' => RetB x (HistP ss fs es) ∧ Below w.heap.size w w' := by
 have hbW : Below w.heap.size w (w.alloc (.cells #[.slice a1 ss.length k1, .slice a2 fs.length k2] 33)) := (Below.refl _ _).alloc (Nat.le_refl _) _
 have HX := hid (heap_alloc_new w (.cells #[.slice a1 ss.length k1, .slice a2 fs.length k2] 33))
 have HDW := hid (hD.stay hbW)
 have HEW := hid (hE.stay hbW (Nat.le_refl _))
 have HBW := hid hbW
 have cR := hid (l02All_any (.slice a6 es.length k6) es _ HEW.out FE n6)
 have HFE := hid FE
 have HY := hid D
 have N6 := hid n6
 have hn6 : es.length ≤ 9223372036854775807 := by unfold maxLen at n6; omega
 clear hD hE hbW D FE n6
 have HNB := hid (show (allB es && decide ((es.length : Int) ≤ 200)) = false → ¬ HistP ss fs es from fun h H => by
  rw [histP_all H, Bool.true_and] at h
  have := H.n
  simp at h
  omega)
 have HYB := hid (show (allB es && decide ((es.length : Int) ≤ 200)) = true → es.length ≤ 200 from fun h => by
  simp at h
  omega)
 generalize hAB : (allB es && decide ((es.length : Int) ≤ 200)) = AB at *
 clear hAB
 go_enter Tryz.func63, Tryz.ntmps63
 go_wp2_with fail
 refine cR.out.mono ?_
 generalize hW : w.alloc (.cells #[.slice a1 ss.length k1, .slice a2 fs.length k2] 33) = W at *
 have hzW : W.heap.size = w.heap.size + 1 := by rw [← hW]; simp
 clear hW cR
 rintro x W1 ⟨rfl, hb1⟩
 have HB1 := hid hb1
 have hz1 := hb1.size
 clear hb1
 cases AB with
 | false =>
  have HN := hid (HNB.out rfl)
  go_wp2
  go_ret
  exact ⟨retB_f HN.out, HBW.out.trans (HB1.out.mono (by omega))⟩
 | true =>
  have h2 := HYB.out rfl
  clear HNB HYB
  go_wp2
  go_loopw [5] (fun i wr => ∃ k : Nat, (k ≤ es.length ∨ k = 1) ∧ 1 ≤ k ∧ i = .int .i64 k ∧ (∀ j, (h : j + 1 < es.length) → j + 1 < k → es[j].seq < es[j + 1].seq) ∧ Below W1.heap.size W1 wr) (fun i _ => es.length - (intOf i).toNat)
  case atStart => exact ⟨1, .inr rfl, Nat.le_refl _, rfl, fun j _ hj => absurd hj (by omega), Below.refl _ _⟩
  case round =>
   obtain ⟨k, hk, hk1, rfl, hall, hbel⟩ := hrel
   have HA := hid hall
   have HBr := hid hbel
   have HB := hid (HB1.out.trans (hbel.mono hz1))
   have hzr := hbel.size
   clear hall hbel
   by_cases hlt : k < es.length
   ·obtain ⟨g, o, rfl, hQ⟩ := HEW.out.row (by omega)
    obtain ⟨m, rfl⟩ : ∃ m, k = m + 1 := ⟨k - 1, by omega⟩
    have hQr := hQ.stay HB.out (Nat.le_refl _)
    have d0 : wr.drew.cell? ⟨g, o + (m + 1) * 6, none⟩ = some (.int .i64 es[m + 1].seq) := (hQr.2 (m + 1) hlt).c0
    have d1 : wr.drew.cell? ⟨g, o + m * 6, none⟩ = some (.int .i64 es[m].seq) := (hQr.2 m (by omega)).c0
    have e1 : (((m + 1 : Nat) : Int) - 1) = (m : Int) := by omega
    have HS := hid (show ∀ h : es[m].seq < es[m + 1].seq, ∀ j, (hj : j + 1 < es.length) → j + 1 < m + 1 + 1 → es[j].seq < es[j + 1].seq from fun h j hj hjk => by
     by_cases e : j = m
     ·subst e; exact h
     ·exact HA.out j hj (by omega))
    have HN := hid (show ∀ h : es[m + 1].seq ≤ es[m].seq, ¬ HistP ss fs es from fun h hr => by have := hr.r m hlt; omega)
    clear hQ hQr
    generalize es[m + 1].seq = s1 at *
    generalize es[m].seq = s0 at *
    by_cases hle : s1 ≤ s0
    ·go_wp2_with fail
     go_region
     go_wp2
     go_ret
     exact ⟨retB_f (HN.out hle), (HBW.out.trans (HB.out.mono (by omega))).drew⟩
    ·go_wp2_with fail
     go_region
     go_wp2
     go_roundw
     case rel => exact ⟨m + 1 + 1, .inl (by omega), by omega, by go_num, HS.out (by omega), HBr.out.drew⟩
     case measure => simp [intOf]; omega
   ·have HRI := hid (show RiseP es from fun j hj => HA.out j hj (by omega))
    have cU := hid (l04Runs_any a6 k6 es wr (HEW.out.stay HB.out (Nat.le_refl _)) (by omega))
    clear HA
    obtain ⟨W2, rfl⟩ : ∃ q, q = wr := ⟨_, rfl⟩
    go_wp2_with fail
    refine cU.out.mono ?_
    rintro x W3 ⟨v, rs, rfl, hR, hO, hb3⟩
    have hI := intSl_own hO
    obtain ⟨ra, rc, rfl⟩ := hI.form
    have hrl := hR.len
    have HR := hid hR
    have HI := hid hI
    have HB3 := hid (HB.out.trans (hb3.mono (by omega)))
    have hz3 := hb3.size
    clear hR hI hO hb3 cU
    go_wp2
    go_loopw [7] (fun i wr => ∃ k : Nat, k ≤ rs.length ∧ i = .int .i64 k ∧ (∀ j, (hj : j < rs.length) → j < k → (ofS ss fs (ofRun es rs[j]) z0).1 = 0) ∧ Below W3.heap.size W3 wr) (fun i _ => rs.length - (intOf i).toNat)
    case atStart => exact ⟨0, Nat.zero_le _, rfl, fun j _ hj => absurd hj (by omega), Below.refl _ _⟩
    case round =>
     obtain ⟨k, hk, rfl, hall, hbel⟩ := hrel
     have HA := hid hall
     have HBr := hid hbel
     have hzr := hbel.size
     have HBW' := hid (HB3.out.trans (hbel.mono (by omega)))
     clear hall hbel
     by_cases hlt : k < rs.length
     ·obtain ⟨g, o, rfl, hg, hc⟩ := HI.out.row (by omega)
      have c0 := (HBr.out.cell (p := ⟨g, o + k, none⟩) hg).trans (hc k hlt)
      have hx := (HBW'.out.block _ (lt_heap HX.out)).trans HX.out
      have d0 : wr.cell? ⟨w.heap.size, 0, none⟩ = some (.slice a1 ss.length k1) := ce hx rfl
      have d1 : wr.cell? ⟨w.heap.size, 1, none⟩ = some (.slice a2 fs.length k2) := ce hx rfl
      have HST := hid (fun h : (ofS ss fs (ofRun es rs[k]) z0).1 = 0 => show ∀ j, (hj : j < rs.length) → j < k + 1 → (ofS ss fs (ofRun es rs[j]) z0).1 = 0 from fun j hj hjk => by
       by_cases e : j = k
       ·subst e; exact h
       ·exact HA.out j hj (by omega))
      have HNO := hid (fun h : ¬ (ofS ss fs (ofRun es rs[k]) z0).1 = 0 => histP_no HR.out hlt h)
      have q1 : (0 : Int) ≤ (k : Int) := by omega
      have q2 : (k : Int) < (rs.length : Int) := by omega
      clear hc hx
      generalize rs[k] = r at *
      have hlen := Nat.le_trans (ofRun_len es r) h2
      have hbR : Below wr.heap.size wr wr.drew := (Below.refl _ _).drew
      have cB := hid (fun (X : World) (hX : Below wr.heap.size wr X) => l04Run_any a6 k6 es r X (HEW.out.stay (HBW'.out.trans (hX.mono (by omega))) (Nat.le_refl _)) (by omega))
      have cC := hid (fun (X : World) (a : Option Addr) (c : Nat) (hX : Below wr.heap.size wr X) (hS : EvSl X (.slice a (ofRun es r).length c) (ofRun es r)) => l03Of_any a1 a2 a k1 k2 c ss fs (ofRun es r) X (HDW.out.stay (HBW'.out.trans (hX.mono (by omega)))) hS HY.out (ofRun_step es r (p := fun e => e.step.size ≤ maxLen) (fun i hi => (HFE.out i hi).1)) (by omega))
      generalize hst : ofS ss fs (ofRun es r) z0 = cs at *
      clear hst
      obtain ⟨cc, S'⟩ := cs
      have hfd : ∀ (x0 x1 x2 x6 x7 : Int) (y3 y4 y5 : Option Addr) (n3 n4 n5 m3 m4 m5 : Nat) (w : World), (Instr.field 83 (.agg #[.int .i64 x0, .int .i64 x1, .int .i64 x2, .slice y3 n3 m3, .slice y4 n4 m4, .slice y5 n5 m5, .int .i64 x6, .int .i64 x7]) 1).run Tryz.prog w = .ok (.int .i64 x7) w := fun _ _ _ _ _ _ _ _ _ _ _ _ _ _ _ => by kernel_rfl
      have ld : w.heap.size < wr.heap.size := by omega
      have lg : g < wr.heap.size := by omega
      go_wp2_with fail
      go_region_held3 (fun w' => w'.cell? ⟨w.heap.size, 0, none⟩ = some (.slice a1 ss.length k1) ∧ w'.cell? ⟨w.heap.size, 1, none⟩ = some (.slice a2 fs.length k2) ∧ w'.cell? ⟨g, o + k, none⟩ = some (.int .i64 r)) (go_keep) (first
       | (go_at_call 46; refine (cB.out _ hbR).mono ?_; rintro x V2 ⟨v2, rfl, ho2, hq2⟩; obtain ⟨va, vc, rfl⟩ := ownB_form ho2; have hb2 : Below wr.heap.size wr V2 := hbR.trans (hq2.mono hbR.size); have v20 := (hb2.cell (p := ⟨w.heap.size, 0, none⟩) ld).trans d0; have v21 := (hb2.cell (p := ⟨w.heap.size, 1, none⟩) ld).trans d1; have v22 := (hb2.cell (p := ⟨g, o + k, none⟩) lg).trans c0)
       | (go_at_call 45; refine (cC.out _ _ _ hb2 (sl_of_own ho2)).mono ?_; rintro x V3 ⟨u3, u4, u5, rfl, hO3, hq3⟩; obtain ⟨x3a, x4a, x5a, x3c, x4c, x5c, rfl, rfl, rfl⟩ := hO3.forms; unfold outV; have hb3 : Below wr.heap.size wr V3 := hb2.trans (hq3.mono hb2.size); have v30 := (hb3.cell (p := ⟨w.heap.size, 0, none⟩) ld).trans d0; have v31 := (hb3.cell (p := ⟨w.heap.size, 1, none⟩) ld).trans d1; have v32 := (hb3.cell (p := ⟨g, o + k, none⟩) lg).trans c0))
      have HB9 := hid hb3
      clear hb2 hb3 hq2 hq3 hO3 ho2 v20 v21 v22 v30 v31 v32 d0 d1 c0 cB cC hfd
      by_cases hcc : cc = 0
      ·subst hcc
       go_wp2
       go_roundw
       case rel => exact ⟨k + 1, by omega, by go_num, HST.out rfl, HBr.out.trans (HB9.out.mono (by omega))⟩
       case measure => simp [intOf]; omega
      ·have hce : (cc != 0) = true := by simpa using hcc
       rw [hce]
       go_wp2
       go_ret
       exact ⟨retB_f (HNO.out hcc), HBW.out.trans ((HBW'.out.trans (HB9.out.mono (by omega))).mono (by omega))⟩
     ·have HPH := hid (histP_yes HR.out HY.out h2 HRI.out (fun j hj => HA.out j hj (by omega)))
      go_wp2
      go_ret
      exact ⟨retB_t HPH.out, HBW.out.trans (HBW'.out.mono (by omega))⟩
theorem specHistoryRight_any (a1 a2 a6 : Option Addr) (k1 k2 k6 : Nat) (ss : List ByteArray) (fs : List Pr) (es : List Ev) (w : World) (hD : DefSl w a1 a2 k1 k2 ss fs) (hE : EvSl w (.slice a6 es.length k6) es) (F1 : ∀ i, (h : i < ss.length) → ss[i].size ≤ maxLen) (FE : Fit es) (n1 : ss.length ≤ maxLen) (n2 : fs.length ≤ maxLen) (n6 : es.length ≤ maxLen) :
  Calls Tryz.prog 42 #[defV a1 a2 k1 k2 ss fs, .slice a6 es.length k6] w fun x w' => RetB x (HistP ss fs es) ∧ Below w.heap.size w w' := by
 have hbW : Below w.heap.size w (w.alloc (.cells #[.slice a1 ss.length k1, .slice a2 fs.length k2] 33)) := (Below.refl _ _).alloc (Nat.le_refl _) _
 have HX := hid (heap_alloc_new w (.cells #[.slice a1 ss.length k1, .slice a2 fs.length k2] 33))
 have HDW := hid (hD.stay hbW)
 have HEW := hid (hE.stay hbW (Nat.le_refl _))
 have HBW := hid hbW
 have cR := hid (specDefRight_any a1 a2 k1 k2 ss fs _ HDW.out.h1 HDW.out.h2 F1 n1 n2)
 have HFE := hid FE
 have N6 := hid n6
 have hn6 : es.length ≤ 9223372036854775807 := by unfold maxLen at n6; omega
 clear hD hE hbW F1 FE n1 n2 n6
 by_cases h4 : es.length ≤ 400
 case neg =>
  have HN := hid (show ¬ HistP ss fs es from fun h => by have := h.n; omega)
  clear cR
  go_enter Tryz.func42, Tryz.ntmps42
  go_wp2
  go_ret
  exact ⟨retB_f HN.out, HBW.out⟩
 case pos =>
  go_enter Tryz.func42, Tryz.ntmps42
  go_wp2_with fail
  refine cR.out.mono ?_
  generalize hW : w.alloc (.cells #[.slice a1 ss.length k1, .slice a2 fs.length k2] 33) = W at *
  have hzW : W.heap.size = w.heap.size + 1 := by rw [← hW]; simp
  clear hW cR
  rintro x W1 ⟨⟨B1, rfl, T⟩, hb1⟩
  have HB1 := hid hb1
  have HT := hid T
  have hz1 := hb1.size
  have hx := (hb1.block _ (lt_heap HX.out)).trans HX.out
  have d0 : W1.cell? ⟨w.heap.size, 0, none⟩ = some (.slice a1 ss.length k1) := ce hx rfl
  have d1 : W1.cell? ⟨w.heap.size, 1, none⟩ = some (.slice a2 fs.length k2) := ce hx rfl
  clear T hb1 hx
  cases B1 with
  | false =>
   have HN := hid (show ¬ HistP ss fs es from fun h => absurd (HT.out.yes h.d) (by decide))
   go_wp2
   go_ret
   exact ⟨retB_f HN.out, HBW.out.trans (HB1.out.mono (by omega))⟩
  | true =>
   have HY := hid (show DefP ss fs from HT.out.1 rfl)
   have cL := hid (l04Right_any a1 a2 a6 k1 k2 k6 ss fs es W1 (HDW.out.stay HB1.out) (HEW.out.stay HB1.out (Nat.le_refl _)) HY.out HFE.out N6.out)
   change Hid (Calls _ _ #[.agg #[.slice a1 ss.length k1, .slice a2 fs.length k2], .slice a6 es.length k6] _ _) at cL
   go_wp2_with fail
   refine cL.out.mono ?_
   rintro x W2 ⟨⟨B2, rfl, T2⟩, hb2⟩
   have HB2 := hid (HB1.out.trans (hb2.mono hz1))
   have HT2 := hid T2
   clear T2 hb2 cL
   cases B2 with
   | false =>
    go_wp2
    go_ret
    exact ⟨⟨false, rfl, HT2.out⟩, HBW.out.trans (HB2.out.mono (by omega))⟩
   | true =>
    go_wp2
    go_ret
    exact ⟨⟨true, rfl, HT2.out⟩, HBW.out.trans (HB2.out.mono (by omega))⟩
end Go.Proofs.YtookchpdbilbcaaGreatDoor
/-
 What spec.ServiceRight answers: a contract over the seat's program. (Made by mksvr.py.)
-/
namespace Go.Proofs.YtookchpdbilbcaaGreatDoor
open Go.RowKit Go.Sort
theorem specServiceRight_any (a1 a2 a6 : Option Addr) (k1 k2 k6 : Nat) (ss : List ByteArray) (fs : List Pr) (es : List Ev) (nx : Int) (w : World) (hD : DefSl w a1 a2 k1 k2 ss fs) (hE : EvSl w (.slice a6 es.length k6) es) (F1 : ∀ i, (h : i < ss.length) → ss[i].size ≤ maxLen) (FE : Fit es) (n1 : ss.length ≤ maxLen) (n2 : fs.length ≤ maxLen) (n6 : es.length ≤ maxLen) :
  Calls Tryz.prog 22 #[svV a1 a2 a6 k1 k2 k6 ss fs es nx] w fun x w' => RetB x (SvP ss fs es nx) ∧ Below w.heap.size w w' := by
 have hbW : Below w.heap.size w (w.alloc (.cells #[.slice a1 ss.length k1, .slice a2 fs.length k2, .slice a6 es.length k6, .int .i64 nx] 36)) := (Below.refl _ _).alloc (Nat.le_refl _) _
 have HX := hid (heap_alloc_new w (.cells #[.slice a1 ss.length k1, .slice a2 fs.length k2, .slice a6 es.length k6, .int .i64 nx] 36))
 have HDW := hid (hD.stay hbW)
 have HEW := hid (hE.stay hbW (Nat.le_refl _))
 have HBW := hid hbW
 have cR := hid (specHistoryRight_any a1 a2 a6 k1 k2 k6 ss fs es _ HDW.out HEW.out F1 FE n1 n2 n6)
 change Hid (Calls _ _ #[.agg #[.slice a1 ss.length k1, .slice a2 fs.length k2], .slice a6 es.length k6] _ _) at cR
 have hn6 : es.length ≤ 9223372036854775807 := by unfold maxLen at n6; omega
 clear hD hE hbW F1 FE n1 n2 n6
 go_enter Tryz.func22, Tryz.ntmps22
 go_wp2_with fail
 refine cR.out.mono ?_
 generalize hW : (w.alloc (.cells #[.slice a1 ss.length k1, .slice a2 fs.length k2, .slice a6 es.length k6, .int .i64 nx] 36)) = W at *
 have hzW : W.heap.size = w.heap.size + 1 := by rw [← hW]; simp
 clear hW cR
 rintro x W1 ⟨⟨B1, rfl, T⟩, hb1⟩
 have HBn := hid hb1
 have HT := hid T
 have hz1 := hb1.size
 have HXn := hid ((hb1.block _ (lt_heap HX.out)).trans HX.out)
 clear T hb1
 have c3 : W1.cell? ⟨w.heap.size, 3, none⟩ = some (.int .i64 nx) := ce HXn.out rfl
 cases B1 with
 | false =>
  have HN := hid (show ¬ SvP ss fs es nx from fun h => absurd (HT.out.yes h.h) (by decide))
  go_wp2
  go_ret
  exact ⟨retB_f HN.out, HBW.out.trans (HBn.out.mono (by omega))⟩
 | true =>
  have HP := hid (show HistP ss fs es from HT.out.1 rfl)
  have cN : Calls Tryz.prog 43 #[.int .i64 nx, .int .i64 1, .int .i64 1000000] W1 fun e w' => e = .returned (.bool (numB nx)) ∧ w' = W1 := l02Is_any nx 1 1000000 W1
  cases hnu : numB nx with
  | false =>
   have HN := hid (show ¬ SvP ss fs es nx from fun h => by have := h.n; rw [hnu] at this; cases this)
   rw [hnu] at cN
   clear hnu
   go_wp2_with fail
   refine cN.mono ?_
   rintro x _ ⟨rfl, rfl⟩
   go_wp2
   go_ret
   exact ⟨retB_f HN.out, HBW.out.trans (HBn.out.mono (by omega))⟩
  | true =>
   have HNU := hid hnu
   rw [hnu] at cN
   clear hnu
   go_wp2_with fail
   refine cN.mono ?_
   rintro x W2 ⟨rfl, hw2⟩
   subst hw2
   clear cN c3
   have fz := Lib.frozen_of_heap HXn.out
   have c0 : W2.cell? ⟨w.heap.size, 0, none⟩ = some (.slice a1 ss.length k1) := ce HXn.out rfl
   have c1 : W2.cell? ⟨w.heap.size, 1, none⟩ = some (.slice a2 fs.length k2) := ce HXn.out rfl
   have c2 : W2.cell? ⟨w.heap.size, 2, none⟩ = some (.slice a6 es.length k6) := ce HXn.out rfl
   have c3 : W2.cell? ⟨w.heap.size, 3, none⟩ = some (.int .i64 nx) := ce HXn.out rfl
   have hbox := lt_heap HXn.out
   by_cases hL : 0 < es.length
   ·obtain ⟨g, o, rfl, hQ⟩ := HEW.out.row hL
    have q0 := ((hQ.stay HBn.out (Nat.le_refl _)).2 (es.length - 1) (by omega)).c0
    have HYES := hid (show es[es.length - 1].seq < nx → SvP ss fs es nx from fun h => ⟨HP.out, HNU.out, fun _ => h⟩)
    have HNOT := hid (show ¬ es[es.length - 1].seq < nx → ¬ SvP ss fs es nx from fun h H => h (H.l hL))
    have d0 : W2.drew.cell? ⟨w.heap.size, 0, none⟩ = some (.slice a1 ss.length k1) := c0
    have d2 : W2.drew.cell? ⟨w.heap.size, 2, none⟩ = some (.slice (some ⟨g, o, none⟩) es.length k6) := c2
    have d3 : W2.drew.cell? ⟨w.heap.size, 3, none⟩ = some (.int .i64 nx) := c3
    have d4 : W2.drew.cell? ⟨g, o + (es.length - 1) * 6, none⟩ = some (.int .i64 es[es.length - 1].seq) := q0
    clear hQ q0
    generalize es[es.length - 1].seq = sq at *
    have HB9 := hid (HBW.out.trans ((HBn.out.drew).mono (by omega)))
    clear HBn HBW HEW HP
    generalize es.length = n at *
    obtain ⟨m, rfl⟩ : ∃ m, n = m + 1 := ⟨n - 1, by omega⟩
    rw [Nat.add_sub_cancel] at d4
    have e1 : (((m + 1 : Nat) : Int) - 1) = (m : Int) := by omega
    have r1 : (((m : Int) + 1) == 0) = false := by simp; omega
    have r2 : (m : Int) < (m : Int) + 1 := by omega
    have r3 : decide ((m : Int) < 0) = false := by simp
    have r4 : (0 : Int) ≤ (m : Int) := by omega
    have r5 : IntKind.i64.wrap (m : Int) = (m : Int) := by rw [IntKind.wrap_i64]; omega
    by_cases hsq : sq < nx
    ·go_wp2_with fail
     go_region
     go_wp2
     go_ret
     exact ⟨retB_t (HYES.out hsq), HB9.out⟩
    ·go_wp2_with fail
     go_region
     go_wp2
     go_ret
     refine ⟨?_, HB9.out⟩
     show RetB (.returned (.bool (decide (sq < nx)))) _
     rw [decide_eq_false (Int.not_lt.2 hsq)]
     exact retB_f (HNOT.out hsq)
   ·have HYES := hid (show SvP ss fs es nx from ⟨HP.out, HNU.out, fun h => absurd h hL⟩)
    have hL0 : es.length = 0 := by omega
    have HB9 := hid (HBW.out.trans ((HBn.out.drew).mono (by omega)))
    clear HBn HBW HEW HP
    rw [hL0] at c2
    go_wp2_with fail
    go_region
    go_wp2
    go_ret
    exact ⟨retB_t HYES.out, HB9.out⟩
end Go.Proofs.YtookchpdbilbcaaGreatDoor
