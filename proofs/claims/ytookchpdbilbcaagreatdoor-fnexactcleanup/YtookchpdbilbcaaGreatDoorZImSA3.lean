/-
 Texts put together: ImSA, InM, FlLaw.
-/
import Derived.Test.YtookchpdbilbcaaGreatDoorZImTold2
import Derived.Test.YtookchpdbilbcaaGreatDoorZDfV7
import Derived.Test.YtookchpdbilbcaaGreatDoorZAgg6
import Derived.Test.YtookchpdbilbcaaGreatDoorZEvX11
import Derived.Lib.QuietBelow
set_option maxRecDepth 100000
set_option maxHeartbeats 4000000
/-
 What one event does, told of the State. Of no function. (Cut off ImSS.)
-/
namespace Go.Proofs.YtookchpdbilbcaaGreatDoor
open Go.RowKit Go.Maps Go.WideMaps Go.Sort
theorem evS_no {ss : List ByteArray} {fs : List Pr} {S : St} {e : Ev} (h : ¬ (evS ss fs S e).1 = 0) : (evS ss fs S e).2 = z0 := by
 unfold evS at h ⊢
 by_cases h1 : evB e = true
 ·rw [if_pos h1] at h ⊢
  unfold stepS at h ⊢
  by_cases h2 : awB S.status e.kind = true
  ·rw [if_pos h2] at h ⊢
   by_cases h3 : e.time < S.last
   ·rw [if_pos h3]
   ·rw [if_neg h3] at h ⊢; exact ZH1 h
  ·rw [if_neg h2]
 ·rw [if_neg h1]
theorem ZFV (ss : List ByteArray) (fs : List Pr) (S : St) (e : Ev) : ofS ss fs [e] S = evS ss fs S e := by
 have q1 : ofS ss fs [e] S = if (evS ss fs S e).1 = 0 then (0, (evS ss fs S e).2) else ((evS ss fs S e).1, z0) := rfl
 rw [q1]
 by_cases h : (evS ss fs S e).1 = 0
 ·rw [if_pos h, ← h]
 ·rw [if_neg h, ← evS_no h]
end Go.Proofs.YtookchpdbilbcaaGreatDoor
/-
 What Ingest tells of a right history and a batch. Of no function.
-/
namespace Go.Proofs.YtookchpdbilbcaaGreatDoor
open Go.RowKit Go.Sort
/-- The event with that Seq. -/
def inE (e : Ev) (n : Int) : Ev := ⟨n, e.time, e.run, e.kind, e.step, e.val⟩
/-- The code of an event behind a history. -/
def inC (ss : List ByteArray) (fs : List Pr) (E : List Ev) (nx : Int) (e : Ev) : Int := (evS ss fs (ofS ss fs (ofRun E e.run) z0).2 (inE e nx)).1
/-- The code, Many, the events and Next behind a batch. -/
def inL (ss : List ByteArray) (fs : List Pr) : List Ev → List Ev → Int → Nat → Int × Nat × List Ev × Int
 | [], E, nx, p => if 200 < E.length ∨ 1000000 < nx then (9, 0, [], 0) else (0, p, E, nx)
 | e :: l, E, nx, p => if 1000000 < nx then (9, 0, [], 0) else if inC ss fs E nx e = 0 then inL ss fs l (E ++ [inE e nx]) (nx + 1) (p + 1) else (inC ss fs E nx e, p, [], 0)
/-- Every run of it is right. -/
def RunsP (ss : List ByteArray) (fs : List Pr) (E : List Ev) : Prop := ∀ r, (ofS ss fs (ofRun E r) z0).1 = 0
theorem HistP.runs {ss : List ByteArray} {fs : List Pr} {es : List Ev} (h : HistP ss fs es) : RunsP ss fs es := fun r => by
 by_cases hr : ∃ e ∈ es, e.run = r
 ·obtain ⟨e, he, rfl⟩ := hr
  exact h.o e he
 ·have : ofRun es r = [] := by
   unfold ofRun
   rw [List.filter_eq_nil_iff]
   intro e he h'
   exact hr ⟨e, he, of_decide_eq_true h'⟩
  rw [this]
  rfl
theorem ZB4 (E : List Ev) (x : Ev) (r : Int) : ofRun (E ++ [x]) r = if x.run = r then ofRun E r ++ [x] else ofRun E r := by
 unfold ofRun
 rw [List.filter_append]
 by_cases h : x.run = r <;> simp [h]
theorem ZGA {ss : List ByteArray} {fs : List Pr} {a : List Ev} (x : Ev) (h : (ofS ss fs a z0).1 = 0) : ofS ss fs (a ++ [x]) z0 = evS ss fs (ofS ss fs a z0).2 x := by
 rw [ZAy, if_pos h, ZFV]
end Go.Proofs.YtookchpdbilbcaaGreatDoor
/-
 What laws.szFlow, szFlowS, toFlow, toFlowS, eqFlow, eqFlowS answer: contracts over the seat's program.
-/
namespace Go.Proofs.YtookchpdbilbcaaGreatDoor
open Go.RowKit Go.Sort
theorem ZGa (s v : ByteArray) (left : Int) (w : World) (h0 : 0 ≤ left) (h1 : left ≤ 1048576) (hs : s.size ≤ maxLen) (hv : v.size ≤ maxLen) :
  Calls Tryz.prog 61 #[.agg #[.string s, .string v], .int .i64 left] w fun e w' =>
   e = .returned (.int .i64 (if (s.size : Int) + (v.size : Int) ≤ left then left - (s.size : Int) - (v.size : Int) else -1)) ∧ Below w.heap.size w w' := by
 unfold maxLen at hs hv
 by_cases hz : (s.size : Int) + (v.size : Int) ≤ left
 ·rw [if_pos hz]
  go_enter Tryz.func61, Tryz.ntmps61
  go_wp2
  go_ret
  exact ⟨rfl, (bR _ _).alloc nL _⟩
 ·rw [if_neg hz]
  by_cases hz2 : (s.size : Int) ≤ left
  ·go_enter Tryz.func61, Tryz.ntmps61
   go_wp2
   go_ret
   exact ⟨rfl, (bR _ _).alloc nL _⟩
  ·go_enter Tryz.func61, Tryz.ntmps61
   go_wp2
   go_ret
   exact ⟨rfl, (bR _ _).alloc nL _⟩
theorem ZHE (s v : ByteArray) (w : World) :
  Calls Tryz.prog 66 #[.agg #[.string s, .string v]] w fun e w' => e = .returned (.agg #[.string s, .string v]) ∧ Below w.heap.size w w' := by
 go_enter Tryz.func66, Tryz.ntmps66
 go_wp2
 exact bodyPost_ret (v := .agg #[.string s, .string v]) (by simp [results, Tryz.results66, go_sem]) rfl ⟨rfl, (below2 _ _ _).alloc (by simp; omega) _⟩
theorem ZFx (s v : ByteArray) (w : World) :
  Calls Tryz.prog 74 #[.agg #[.string s, .string v], .agg #[.string s, .string v]] w fun e w' => e = .returned (.bool true) ∧ Below w.heap.size w w' := by
 go_enter Tryz.func74, Tryz.ntmps74
 go_wp2
 go_ret
 exact ⟨rfl, ((bR _ _).alloc nL _).alloc (by simp) _⟩
theorem ZFa (g o c : Nat) (es : List Pr) (left : Int) (w : World) (hE : PrsAt w g o es) (hF : FitP es) (h0 : 0 ≤ left) (h1 : left ≤ 1048576) (hn : es.length ≤ maxLen) :
  Calls Tryz.prog 41 #[.slice (some ⟨g, o, none⟩) es.length c, .int .i64 left] w fun e w' =>
   e = .returned (.int .i64 (szP left es)) ∧ Below w.heap.size w w' := by
 unfold maxLen at hn
 by_cases hz : (es.length : Int) ≤ left
 ·have HE := hid hE
  clear hE
  go_enter Tryz.func41, Tryz.ntmps41
  go_wp2
  go_loopw [1, 5] (fun l i wr => ∃ k : Nat, k ≤ es.length ∧ i = .int .i64 k ∧ l = .int .i64 (left - (es.length : Int) - (sumP (es.take k) : Int)) ∧ 0 ≤ left - (es.length : Int) - (sumP (es.take k) : Int) ∧ Below w.heap.size w wr) (fun _ i _ => es.length - (intOf i).toNat)
  case atStart => exact ⟨0, Nat.zero_le _, rfl, by simp [sumP], by simp [sumP]; omega, Below.refl _ _⟩
  case round =>
   obtain ⟨k, hk, rfl, rfl, hl, hbel⟩ := hrel
   by_cases hlt : k < es.length
   ·have hA := (HE.out.stay hbel nL).2 k hlt
    obtain ⟨c0, c1⟩ := hA
    have hst := hid (ZIV hlt)
    have hf := hF k hlt
    generalize es[k].fst = q4 at *
    generalize es[k].snd = q5 at *
    generalize hL : left - (es.length : Int) - (sumP (es.take k) : Int) = L at *
    have HL := hid hL
    have cz := fun w => ZGa q4 q5 L w hl (by omega) hf.1 hf.2
    clear hL hf
    by_cases hzz : (q4.size : Int) + (q5.size : Int) ≤ L
    ·rw [if_pos hzz] at cz
     have hL0 : (0 : Int) ≤ L - (q4.size : Int) - (q5.size : Int) := by omega
     have hL1 : left - (es.length : Int) - (sumP (es.take (k + 1)) : Int) = L - (q4.size : Int) - (q5.size : Int) := by have := hst.out; have := HL.out; omega
     have HL1 := hid hL1
     clear hzz hL1
     generalize L - (q4.size : Int) - (q5.size : Int) = L2 at *
     go_wp2_with fail
     refine (cz _).mono ?_
     rintro e w1 ⟨rfl, hb1⟩
     have hbel1 := hbel.trans (hb1.mono hbel.size)
     clear c0 c1 hb1 cz
     go_wp2
     go_roundw
     case rel => exact ⟨k + 1, by omega, by go_num, by rw [HL1.out], by rw [HL1.out]; exact hL0, hbel1⟩
     case measure => simp [intOf]; omega
    ·rw [if_neg hzz] at cz
     have hfin : szP left es = -1 := ZHO (by have := hst.out; have := HL.out; have := sumP_le es (k + 1); omega)
     have HF := hid hfin
     clear hzz hfin
     go_wp2_with fail
     refine (cz _).mono ?_
     rintro e w1 ⟨rfl, hb1⟩
     have hbel1 := hbel.trans (hb1.mono hbel.size)
     clear c0 c1 hb1 cz
     go_wp2
     go_ret
     exact ⟨by rw [HF.out]; rfl, hbel1⟩
   ·have hk' : k = es.length := by omega
    have hT : es.take k = es := List.take_of_length_le (by omega)
    rw [hT] at hl
    have HT := hid hT
    have hfin := ZFi (left := left) (es := es) (by omega)
    have HF := hid hfin
    clear hk' hT hfin
    go_wp2
    go_ret
    exact ⟨ZBA (by rw [HF.out, HT.out]), hbel⟩
 ·have hfin := ZHO (left := left) (es := es) (by omega)
  have HF := hid hfin
  clear hfin hE
  go_enter Tryz.func41, Tryz.ntmps41
  go_wp2
  go_ret
  exact ⟨by rw [HF.out]; rfl, Below.refl _ _⟩
theorem ZEm (a : Option Addr) (c : Nat) (left : Int) (w : World) (h0 : 0 ≤ left) (h1 : left ≤ 1048576) :
  Calls Tryz.prog 41 #[.slice a 0 c, .int .i64 left] w fun e w' => e = .returned (.int .i64 left) ∧ w' = w := by
 go_enter Tryz.func41, Tryz.ntmps41
 go_wp2
 go_loop [1, 5] (fun l i => l = .int .i64 left ∧ i = .int .i64 0) (fun _ _ => 0)
 case atStart => exact ⟨rfl, rfl⟩
 case round =>
  obtain ⟨rfl, rfl⟩ := hrel
  go_wp2
  go_ret
  exact ⟨rfl, rfl⟩
theorem ZCU (v : Value) (es : List Pr) (left : Int) (w : World) (h : PrSl w v es) (hF : FitP es) (h0 : 0 ≤ left) (h1 : left ≤ 1048576) (hn : es.length ≤ maxLen) :
  Calls Tryz.prog 41 #[v, .int .i64 left] w fun e w' => e = .returned (.int .i64 (szP left es)) ∧ Below w.heap.size w w' := by
 rcases h with ⟨a, c, rfl, rfl⟩ | ⟨g, o, c, rfl, _, h⟩
 ·refine (ZEm a c left w h0 h1).mono ?_
  rintro e w' ⟨rfl, rfl⟩
  exact ⟨ZBA (by rw [ZFi (by simp [sumP]; omega)]; simp [sumP]), Below.refl _ _⟩
 ·exact ZFa g o c es left w h hF h0 h1 hn
theorem Tryz.infoFlow : (Tryz.prog.info? 107).map (fun i => (i.zero, i.size, i.bytes)) = some (some (.agg #[.string ⟨#[]⟩, .string ⟨#[]⟩]), 2, 32) := by kernel_rfl
theorem ZFk (g o c : Nat) (es : List Pr) (w : World) (hE : PrsAt w g o es) (hn : es.length ≤ 1048576) :
  Calls Tryz.prog 48 #[.slice (some ⟨g, o, none⟩) es.length c] w fun e w' =>
   ∃ v, e = .returned v ∧ w'.ownsRow w.heap.size 107 2 v es.length (es.flatMap Pr.cells) ∧ Below w.heap.size w w' := by
 obtain ⟨i0, hi, hz0, hz1, hz2⟩ := info_parts Tryz.infoFlow
 have HE := hid hE
 clear hE
 go_enter Tryz.func48, Tryz.ntmps48
 go_wp2_with (at_make; refine wpList_make_full _ rfl _ _ 31 rfl w.heap.size 107 i0 _ 2 Tryz.underlying31 hi hz0 hz1 _ _ _ _ es.length rfl rfl ?m1 ?m2 ?m3 ?m4 nL ?_)
 case m1 => omega
 case m2 => omega
 case m3 => rw [hz2]; omega
 case m4 => unfold maxLen; omega
 intro w1 hown hgrow
 have hB1 : Below w.heap.size w w1 := (bR _ _).grown hgrow nL (fun k h => by cases h)
 obtain ⟨L0, hL0, hG0⟩ := ZI6 hown
 have H0 := hid hL0
 have HG0 := hid hG0
 clear hown hgrow hi hz0 hz1 hz2 hL0 hG0 i0
 go_wp2
 go_loopw [4] (fun i wr => ∃ (k : Nat) (L : List Value), k ≤ es.length ∧ i = .int .i64 k ∧ L.length = es.length * 2 ∧ L.take (k * 2) = (es.take k).flatMap Pr.cells ∧ wr.heap[w.heap.size]? = some (.cells L.toArray 107 (0, 0)) ∧ Below w.heap.size w wr) (fun i _ => es.length - (intOf i).toNat)
 case atStart => exact ⟨0, L0, Nat.zero_le _, rfl, H0.out, by simp, HG0.out, hB1⟩
 case round =>
  obtain ⟨k, L, hk, rfl, hL, hT, hG, hbel⟩ := hrel
  have HT := hid hT
  have HL := hid hL
  have HG := hid hG
  clear hT hL hG
  have hzr := ZAA HG.out
  by_cases hlt : k < es.length
  ·obtain ⟨c0, c1⟩ := (HE.out.stay hbel nL).2 k hlt
   have HC := hid (ZHM hlt)
   have cz := fun w => ZHE es[k].fst es[k].snd w
   go_wp2_with fail
   refine (cz _).mono ?_
   rintro e w2 ⟨rfl, hb2⟩
   have hG2 : w2.heap[w.heap.size]? = some (.cells L.toArray 107 (0, 0)) := by rw [hb2.block _ hzr]; exact HG.out
   have hbel2 := hbel.trans (hb2.mono hbel.size)
   clear c0 c1 hb2 cz
   have hfz : ∀ j, w2.frozen? ⟨w.heap.size, j, none⟩ = false := fun j => Lib.frozen_of_heap hG2 j
   have hce : ∀ j, j < 2 → ∃ u, w2.cell? ⟨w.heap.size, k * 2 + j, none⟩ = some u := fun j hj => ZHW hG2 (by have := HL.out; omega)
   obtain ⟨u0, d0⟩ : ∃ u, w2.cell? ⟨w.heap.size, k * 2, none⟩ = some u := hce 0 (by decide)
   obtain ⟨u1, d1⟩ := hce 1 (by decide)
   have HG2 := hid hG2
   clear hG2 hce
   go_wp2
   go_roundw
   case rel =>
    refine ⟨k + 1, _, by omega, by go_num, ?_, ?_, ZAG (ZAG HG2.out _) _, (hbel2.setCell (p := ⟨w.heap.size, k * 2, none⟩) nL _).setCell (p := ⟨w.heap.size, k * 2 + 1, none⟩) nL _⟩
    ·rw [List.length_set, List.length_set]; exact HL.out
    ·rw [show (k + 1) * 2 = k * 2 + 2 by omega, ZIa (by have := HL.out; omega), HT.out, HC.out]; rfl
   case measure => simp [intOf]; omega
  ·have hke : k = es.length := by omega
   have HK := hid hke
   clear hke
   go_wp2
   go_ret
   refine ⟨_, rfl, ⟨ZAQ es, .inr ⟨w.heap.size, es.length, L.toArray, rfl, Nat.le_refl _, HG.out, Nat.le_refl _, by unfold maxLen; omega, by simpa using HL.out, ?_⟩⟩, hbel⟩
   have := HT.out
   rw [HK.out, List.take_of_length_le (Nat.le_refl es.length)] at this
   simpa using this
theorem ZFK (a : Option Addr) (c : Nat) (w : World) :
  Calls Tryz.prog 48 #[.slice a 0 c] w fun e w' =>
   ∃ v, e = .returned v ∧ w'.ownsRow w.heap.size 107 2 v 0 [] ∧ Below w.heap.size w w' := by
 obtain ⟨i0, hi, hz0, hz1, hz2⟩ := info_parts Tryz.infoFlow
 go_enter Tryz.func48, Tryz.ntmps48
 go_wp2_with (at_make; refine wpList_make_full _ rfl _ _ 31 rfl w.heap.size 107 i0 _ 2 Tryz.underlying31 hi hz0 hz1 _ _ _ _ 0 rfl rfl ?m1 ?m2 ?m3 ?m4 nL ?_)
 case m1 => rfl
 case m2 => rfl
 case m3 => rw [hz2]; omega
 case m4 => unfold maxLen; omega
 intro w1 hown hgrow
 have hB1 : Below w.heap.size w w1 := (bR _ _).grown hgrow nL (fun k h => by cases h)
 have HO : Hid (w1.ownsRow w.heap.size 107 2 (.slice (some ⟨w.heap.size, 0, none⟩) 0 0) 0 []) := by
  have h0 := hown.1
  rw [Nat.zero_mul] at h0
  rw [List.eq_nil_of_length_eq_zero h0] at hown
  exact hown
 clear hown hgrow hi hz0 hz1 hz2 i0
 go_wp2
 go_loop [4] (fun i => i = .int .i64 0) (fun _ => 0)
 case atStart => exact rfl
 case round =>
  subst hrel
  go_wp2
  go_ret
  exact ⟨_, rfl, HO.out, hB1⟩
theorem ZFW (v : Value) (es : List Pr) (w : World) (h : PrSl w v es) (hn : es.length ≤ 1048576) :
  Calls Tryz.prog 48 #[v] w fun e w' =>
   ∃ v, e = .returned v ∧ w'.ownsRow w.heap.size 107 2 v es.length (es.flatMap Pr.cells) ∧ Below w.heap.size w w' := by
 rcases h with ⟨a, c, rfl, rfl⟩ | ⟨g, o, c, rfl, _, h⟩
 ·exact ZFK a c w
 ·exact ZFk g o c es w h hn
set_option maxRecDepth 1000000 in
theorem ZF2 (g1 o1 c1 g2 o2 c2 : Nat) (es : List Pr) (w : World) (hE1 : PrsAt w g1 o1 es) (hE2 : PrsAt w g2 o2 es) (hn : es.length ≤ maxLen) :
  Calls Tryz.prog 54 #[.slice (some ⟨g1, o1, none⟩) es.length c1, .slice (some ⟨g2, o2, none⟩) es.length c2] w fun e w' => e = .returned (.bool true) ∧ Below w.heap.size w w' := by
 unfold maxLen at hn
 have mixed : Tryz.prog.follows .mixedOrders = true := by kernel_rfl
 have HE1 := hid hE1
 have HE2 := hid hE2
 clear hE1 hE2
 go_enter Tryz.func54, Tryz.ntmps54
 go_wp2
 go_loopw [5] (fun i wr => ∃ k : Nat, k ≤ es.length ∧ i = .int .i64 k ∧ Below w.heap.size w wr) (fun i _ => es.length - (intOf i).toNat)
 case atStart => exact ⟨0, Nat.zero_le _, rfl, Below.refl _ _⟩
 case round =>
  obtain ⟨k, hk, rfl, hbel⟩ := hrel
  by_cases hlt : k < es.length
  ·obtain ⟨a0, a1⟩ := (HE1.out.stay hbel nL).2 k hlt
   obtain ⟨b0, b1⟩ := (HE2.out.stay hbel nL).2 k hlt
   generalize es[k].fst = q4 at *
   generalize es[k].snd = q5 at *
   have k0 := cell_regrown a0
   have k1 := cell_regrown a1
   have l0 := cell_regrown b0
   have l1 := cell_regrown b1
   have d1 := fun d os => Calls.regrown_of (w := wr) (d := d) (os := os) (ZFx q4 q5 _)
   clear a0 a1 b0 b1
   go_wp2
   refine wp_region_quiet_below mixed (by kernel_rfl) ?_
   repeat (quiet_step (first | (go_at_call 74; exact d1 _ _)))
   refine wpQuiet_nil ?_
   intro _ hw'
   obtain ⟨⟨dq, osq⟩, hw''⟩ := hw'
   subst hw''
   have hbX := hbel.trans ((below_regrown wr dq osq).mono hbel.size)
   clear k0 k1 l0 l1 d1
   go_wp2
   go_roundw
   case rel => exact ⟨k + 1, by omega, by go_num, hbX⟩
   case measure => simp [intOf]; omega
  ·go_wp2
   go_ret
   exact ⟨rfl, hbel⟩
theorem ZE6 (a1 a2 : Option Addr) (c1 c2 : Nat) (w : World) :
  Calls Tryz.prog 54 #[.slice a1 0 c1, .slice a2 0 c2] w fun e w' => e = .returned (.bool true) ∧ Below w.heap.size w w' := by
 go_enter Tryz.func54, Tryz.ntmps54
 go_wp2
 go_loop [5] (fun i => i = .int .i64 0) (fun _ => 0)
 case atStart => exact rfl
 case round =>
  subst hrel
  go_wp2
  go_ret
  exact ⟨rfl, Below.refl _ _⟩
theorem ZFn (v1 v2 : Value) (es : List Pr) (w : World) (h1 : PrSl w v1 es) (h2 : PrSl w v2 es) (hn : es.length ≤ maxLen) :
  Calls Tryz.prog 54 #[v1, v2] w fun e w' => e = .returned (.bool true) ∧ Below w.heap.size w w' := by
 rcases h1 with ⟨a, c, rfl, rfl⟩ | ⟨g, o, c, rfl, hp, h⟩
 ·rcases h2 with ⟨a', c', rfl, _⟩ | ⟨g', o', c', rfl, hp', h'⟩
  ·exact ZE6 a a' c c' w
  ·simp at hp'
 ·rcases h2 with ⟨a', c', rfl, h0⟩ | ⟨g', o', c', rfl, hp', h'⟩
  ·rw [h0] at hp; simp at hp
  ·exact ZF2 g o c g' o' c' es w h h' hn
end Go.Proofs.YtookchpdbilbcaaGreatDoor
