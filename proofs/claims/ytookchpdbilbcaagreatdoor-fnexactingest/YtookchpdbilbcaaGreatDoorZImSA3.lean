/-
 Texts put together: ImSA, InM, FlLaw.
-/
import Derived.Test.YtookchpdbilbcaaGreatDoorZImTold2
import Derived.Test.YtookchpdbilbcaaGreatDoorZDfV7
import Derived.Test.YtookchpdbilbcaaGreatDoorZAgg6
import Derived.Test.YtookchpdbilbcaaGreatDoorZEvX11
import Derived.Lib.QuietBelow
set_option maxRecDepth 100000
set_option maxHeartbeats 4000000
/-
 What one event does, told of the State. Of no function. (Cut off ImSS.)
-/
namespace Go.Proofs.YtookchpdbilbcaaGreatDoor
open Go.RowKit Go.Maps Go.WideMaps Go.Sort
theorem evS_no {ss : List ByteArray} {fs : List Pr} {S : St} {e : Ev} (h : ¬ (evS ss fs S e).1 = 0) : (evS ss fs S e).2 = z0 := by
 unfold evS at h ⊢
 by_cases h1 : evB e = true
 ·rw [if_pos h1] at h ⊢
  unfold stepS at h ⊢
  by_cases h2 : awB S.status e.kind = true
  ·rw [if_pos h2] at h ⊢
   by_cases h3 : e.time < S.last
   ·rw [if_pos h3]
   ·rw [if_neg h3] at h ⊢; exact doS_no h
  ·rw [if_neg h2]
 ·rw [if_neg h1]
theorem ofS_one (ss : List ByteArray) (fs : List Pr) (S : St) (e : Ev) : ofS ss fs [e] S = evS ss fs S e := by
 have q1 : ofS ss fs [e] S = if (evS ss fs S e).1 = 0 then (0, (evS ss fs S e).2) else ((evS ss fs S e).1, z0) := rfl
 rw [q1]
 by_cases h : (evS ss fs S e).1 = 0
 ·rw [if_pos h, ← h]
 ·rw [if_neg h, ← evS_no h]
theorem rS_ev {ss : List ByteArray} {fs : List Pr} {S : St} {e : Ev} (h : DefP ss fs ∧ StP ss S) : rS ss fs S e = evS ss fs S e := by
 unfold evS
 by_cases he : evB e = true
 ·rw [if_pos he, rS_yes ⟨h, he⟩]
 ·rw [if_neg he, rS_no (fun k => he k.2)]
/-- A row of one event, laid new. -/
theorem ev_one (w : World) (e : Ev) : EvSl (w.alloc (.cells #[.int .i64 e.seq, .int .i64 e.time, .int .i64 e.run, .int .i64 e.kind, .string e.step, .string e.val] 57)) (.slice (some ⟨w.heap.size, 0, none⟩) [e].length 1) [e] := by
 have h := heap_alloc_new w (.cells #[.int .i64 e.seq, .int .i64 e.time, .int .i64 e.run, .int .i64 e.kind, .string e.step, .string e.val] 57 (0, 0))
 refine .inr ⟨w.heap.size, 0, 1, rfl, by simp, lt_heap h, fun i hi => ?_⟩
 have hi0 : i = 0 := by simpa using hi
 subst hi0
 constructor <;> (rw [Lib.cell_of_heap h]; rfl)
end Go.Proofs.YtookchpdbilbcaaGreatDoor
/-
 What Ingest tells of a right history and a batch. Of no function.
-/
namespace Go.Proofs.YtookchpdbilbcaaGreatDoor
open Go.RowKit Go.Sort
/-- The event with that Seq. -/
def inE (e : Ev) (n : Int) : Ev := ⟨n, e.time, e.run, e.kind, e.step, e.val⟩
/-- The code of an event behind a history. -/
def inC (ss : List ByteArray) (fs : List Pr) (E : List Ev) (nx : Int) (e : Ev) : Int := (evS ss fs (ofS ss fs (ofRun E e.run) z0).2 (inE e nx)).1
/-- The code, Many, the events and Next behind a batch. -/
def inL (ss : List ByteArray) (fs : List Pr) : List Ev → List Ev → Int → Nat → Int × Nat × List Ev × Int
 | [], E, nx, p => if 200 < E.length ∨ 1000000 < nx then (9, 0, [], 0) else (0, p, E, nx)
 | e :: l, E, nx, p => if 1000000 < nx then (9, 0, [], 0) else if inC ss fs E nx e = 0 then inL ss fs l (E ++ [inE e nx]) (nx + 1) (p + 1) else (inC ss fs E nx e, p, [], 0)
/-- Every run of it is right. -/
def RunsP (ss : List ByteArray) (fs : List Pr) (E : List Ev) : Prop := ∀ r, (ofS ss fs (ofRun E r) z0).1 = 0
theorem HistP.runs {ss : List ByteArray} {fs : List Pr} {es : List Ev} (h : HistP ss fs es) : RunsP ss fs es := fun r => by
 by_cases hr : ∃ e ∈ es, e.run = r
 ·obtain ⟨e, he, rfl⟩ := hr
  exact h.o e he
 ·have : ofRun es r = [] := by
   unfold ofRun
   rw [List.filter_eq_nil_iff]
   intro e he h'
   exact hr ⟨e, he, of_decide_eq_true h'⟩
  rw [this]
  rfl
theorem ofRun_snoc (E : List Ev) (x : Ev) (r : Int) : ofRun (E ++ [x]) r = if x.run = r then ofRun E r ++ [x] else ofRun E r := by
 unfold ofRun
 rw [List.filter_append]
 by_cases h : x.run = r <;> simp [h]
theorem ofS_snoc {ss : List ByteArray} {fs : List Pr} {a : List Ev} (x : Ev) (h : (ofS ss fs a z0).1 = 0) : ofS ss fs (a ++ [x]) z0 = evS ss fs (ofS ss fs a z0).2 x := by
 rw [ofS_append, if_pos h, ofS_one]
theorem inC_right {ss : List ByteArray} {fs : List Pr} {E : List Ev} (h : RunsP ss fs E) (nx : Int) (e : Ev) : (ofS ss fs (ofRun E e.run ++ [inE e nx]) z0).1 = inC ss fs E nx e := by
 rw [ofS_snoc _ (h e.run)]
 rfl
theorem inC_form {ss : List ByteArray} {fs : List Pr} {E : List Ev} {nx : Int} {e : Ev} (h : evB (inE e nx) = false) : inC ss fs E nx e = 1 := by
 unfold inC evS
 rw [h]
 rfl
theorem RunsP.snoc {ss : List ByteArray} {fs : List Pr} {E : List Ev} (h : RunsP ss fs E) {nx : Int} {e : Ev} (h0 : inC ss fs E nx e = 0) : RunsP ss fs (E ++ [inE e nx]) := fun r => by
 rw [ofRun_snoc]
 by_cases hr : (inE e nx).run = r
 ·rw [if_pos hr]
  have hr' : e.run = r := hr
  rw [← hr', inC_right h]
  exact h0
 ·rw [if_neg hr]
  exact h r
theorem inL_nil (ss : List ByteArray) (fs : List Pr) (E : List Ev) (nx : Int) (p : Nat) : inL ss fs [] E nx p = if 200 < E.length ∨ 1000000 < nx then (9, 0, [], 0) else (0, p, E, nx) := rfl
theorem inL_full {ss : List ByteArray} {fs : List Pr} {l E : List Ev} {nx : Int} {p k : Nat} (hk : k < l.length) (h : 1000000 < nx) : inL ss fs (l.drop k) E nx p = (9, 0, [], 0) := by
 rw [List.drop_eq_getElem_cons hk, inL, if_pos h]
theorem inL_bad {ss : List ByteArray} {fs : List Pr} {l E : List Ev} {nx : Int} {p k : Nat} (hk : k < l.length) (h : ¬ 1000000 < nx) (hc : ¬ inC ss fs E nx l[k] = 0) : inL ss fs (l.drop k) E nx p = (inC ss fs E nx l[k], p, [], 0) := by
 rw [List.drop_eq_getElem_cons hk, inL, if_neg h, if_neg hc]
theorem inL_go {ss : List ByteArray} {fs : List Pr} {l E : List Ev} {nx : Int} {p k : Nat} (hk : k < l.length) (h : ¬ 1000000 < nx) (hc : inC ss fs E nx l[k] = 0) : inL ss fs (l.drop k) E nx p = inL ss fs (l.drop (k + 1)) (E ++ [inE l[k] nx]) (nx + 1) (p + 1) := by
 rw [List.drop_eq_getElem_cons hk, inL, if_neg h, if_pos hc]
end Go.Proofs.YtookchpdbilbcaaGreatDoor
/-
 What laws.szFlow, szFlowS, toFlow, toFlowS, eqFlow, eqFlowS answer: contracts over the seat's program.
-/
namespace Go.Proofs.YtookchpdbilbcaaGreatDoor
open Go.RowKit Go.Sort
theorem szFlow_any (s v : ByteArray) (left : Int) (w : World) (h0 : 0 ≤ left) (h1 : left ≤ 1048576) (hs : s.size ≤ maxLen) (hv : v.size ≤ maxLen) :
  Calls Tryz.prog 61 #[.agg #[.string s, .string v], .int .i64 left] w fun e w' =>
   e = .returned (.int .i64 (if (s.size : Int) + (v.size : Int) ≤ left then left - (s.size : Int) - (v.size : Int) else -1)) ∧ Below w.heap.size w w' := by
 unfold maxLen at hs hv
 by_cases hz : (s.size : Int) + (v.size : Int) ≤ left
 ·rw [if_pos hz]
  go_enter Tryz.func61, Tryz.ntmps61
  go_wp2
  go_ret
  exact ⟨rfl, (Below.refl _ _).alloc (Nat.le_refl _) _⟩
 ·rw [if_neg hz]
  by_cases hz2 : (s.size : Int) ≤ left
  ·go_enter Tryz.func61, Tryz.ntmps61
   go_wp2
   go_ret
   exact ⟨rfl, (Below.refl _ _).alloc (Nat.le_refl _) _⟩
  ·go_enter Tryz.func61, Tryz.ntmps61
   go_wp2
   go_ret
   exact ⟨rfl, (Below.refl _ _).alloc (Nat.le_refl _) _⟩
theorem toFlow_any (s v : ByteArray) (w : World) :
  Calls Tryz.prog 66 #[.agg #[.string s, .string v]] w fun e w' => e = .returned (.agg #[.string s, .string v]) ∧ Below w.heap.size w w' := by
 go_enter Tryz.func66, Tryz.ntmps66
 go_wp2
 exact bodyPost_ret (v := .agg #[.string s, .string v]) (by simp [results, Tryz.results66, go_sem]) rfl ⟨rfl, (below2 _ _ _).alloc (by simp; omega) _⟩
theorem eqFlow_same (s v : ByteArray) (w : World) :
  Calls Tryz.prog 74 #[.agg #[.string s, .string v], .agg #[.string s, .string v]] w fun e w' => e = .returned (.bool true) ∧ Below w.heap.size w w' := by
 go_enter Tryz.func74, Tryz.ntmps74
 go_wp2
 go_ret
 exact ⟨rfl, ((Below.refl _ _).alloc (Nat.le_refl _) _).alloc (by simp) _⟩
theorem szFlowS_row (g o c : Nat) (es : List Pr) (left : Int) (w : World) (hE : PrsAt w g o es) (hF : FitP es) (h0 : 0 ≤ left) (h1 : left ≤ 1048576) (hn : es.length ≤ maxLen) :
  Calls Tryz.prog 41 #[.slice (some ⟨g, o, none⟩) es.length c, .int .i64 left] w fun e w' =>
   e = .returned (.int .i64 (szP left es)) ∧ Below w.heap.size w w' := by
 unfold maxLen at hn
 by_cases hz : (es.length : Int) ≤ left
 ·have HE := hid hE
  clear hE
  go_enter Tryz.func41, Tryz.ntmps41
  go_wp2
  go_loopw [1, 5] (fun l i wr => ∃ k : Nat, k ≤ es.length ∧ i = .int .i64 k ∧ l = .int .i64 (left - (es.length : Int) - (sumP (es.take k) : Int)) ∧ 0 ≤ left - (es.length : Int) - (sumP (es.take k) : Int) ∧ Below w.heap.size w wr) (fun _ i _ => es.length - (intOf i).toNat)
  case atStart => exact ⟨0, Nat.zero_le _, rfl, by simp [sumP], by simp [sumP]; omega, Below.refl _ _⟩
  case round =>
   obtain ⟨k, hk, rfl, rfl, hl, hbel⟩ := hrel
   by_cases hlt : k < es.length
   ·have hA := (HE.out.stay hbel (Nat.le_refl _)).2 k hlt
    obtain ⟨c0, c1⟩ := hA
    have hst := hid (sumP_take hlt)
    have hf := hF k hlt
    generalize es[k].fst = q4 at *
    generalize es[k].snd = q5 at *
    generalize hL : left - (es.length : Int) - (sumP (es.take k) : Int) = L at *
    have HL := hid hL
    have cz := fun w => szFlow_any q4 q5 L w hl (by omega) hf.1 hf.2
    clear hL hf
    by_cases hzz : (q4.size : Int) + (q5.size : Int) ≤ L
    ·rw [if_pos hzz] at cz
     have hL0 : (0 : Int) ≤ L - (q4.size : Int) - (q5.size : Int) := by omega
     have hL1 : left - (es.length : Int) - (sumP (es.take (k + 1)) : Int) = L - (q4.size : Int) - (q5.size : Int) := by have := hst.out; have := HL.out; omega
     have HL1 := hid hL1
     clear hzz hL1
     generalize L - (q4.size : Int) - (q5.size : Int) = L2 at *
     go_wp2_with fail
     refine (cz _).mono ?_
     rintro e w1 ⟨rfl, hb1⟩
     have hbel1 := hbel.trans (hb1.mono hbel.size)
     clear c0 c1 hb1 cz
     go_wp2
     go_roundw
     case rel => exact ⟨k + 1, by omega, by go_num, by rw [HL1.out], by rw [HL1.out]; exact hL0, hbel1⟩
     case measure => simp [intOf]; omega
    ·rw [if_neg hzz] at cz
     have hfin : szP left es = -1 := szP_no (by have := hst.out; have := HL.out; have := sumP_le es (k + 1); omega)
     have HF := hid hfin
     clear hzz hfin
     go_wp2_with fail
     refine (cz _).mono ?_
     rintro e w1 ⟨rfl, hb1⟩
     have hbel1 := hbel.trans (hb1.mono hbel.size)
     clear c0 c1 hb1 cz
     go_wp2
     go_ret
     exact ⟨by rw [HF.out]; rfl, hbel1⟩
   ·have hk' : k = es.length := by omega
    have hT : es.take k = es := List.take_of_length_le (by omega)
    rw [hT] at hl
    have HT := hid hT
    have hfin := szP_yes (left := left) (es := es) (by omega)
    have HF := hid hfin
    clear hk' hT hfin
    go_wp2
    go_ret
    exact ⟨ret_int (by rw [HF.out, HT.out]), hbel⟩
 ·have hfin := szP_no (left := left) (es := es) (by omega)
  have HF := hid hfin
  clear hfin hE
  go_enter Tryz.func41, Tryz.ntmps41
  go_wp2
  go_ret
  exact ⟨by rw [HF.out]; rfl, Below.refl _ _⟩
theorem szFlowS_none (a : Option Addr) (c : Nat) (left : Int) (w : World) (h0 : 0 ≤ left) (h1 : left ≤ 1048576) :
  Calls Tryz.prog 41 #[.slice a 0 c, .int .i64 left] w fun e w' => e = .returned (.int .i64 left) ∧ w' = w := by
 go_enter Tryz.func41, Tryz.ntmps41
 go_wp2
 go_loop [1, 5] (fun l i => l = .int .i64 left ∧ i = .int .i64 0) (fun _ _ => 0)
 case atStart => exact ⟨rfl, rfl⟩
 case round =>
  obtain ⟨rfl, rfl⟩ := hrel
  go_wp2
  go_ret
  exact ⟨rfl, rfl⟩
theorem szFlowS_any (v : Value) (es : List Pr) (left : Int) (w : World) (h : PrSl w v es) (hF : FitP es) (h0 : 0 ≤ left) (h1 : left ≤ 1048576) (hn : es.length ≤ maxLen) :
  Calls Tryz.prog 41 #[v, .int .i64 left] w fun e w' => e = .returned (.int .i64 (szP left es)) ∧ Below w.heap.size w w' := by
 rcases h with ⟨a, c, rfl, rfl⟩ | ⟨g, o, c, rfl, _, h⟩
 ·refine (szFlowS_none a c left w h0 h1).mono ?_
  rintro e w' ⟨rfl, rfl⟩
  exact ⟨ret_int (by rw [szP_yes (by simp [sumP]; omega)]; simp [sumP]), Below.refl _ _⟩
 ·exact szFlowS_row g o c es left w h hF h0 h1 hn
theorem Tryz.infoFlow : (Tryz.prog.info? 107).map (fun i => (i.zero, i.size, i.bytes)) = some (some (.agg #[.string ⟨#[]⟩, .string ⟨#[]⟩]), 2, 32) := by kernel_rfl
theorem toFlowS_row (g o c : Nat) (es : List Pr) (w : World) (hE : PrsAt w g o es) (hn : es.length ≤ 1048576) :
  Calls Tryz.prog 48 #[.slice (some ⟨g, o, none⟩) es.length c] w fun e w' =>
   ∃ v, e = .returned v ∧ w'.ownsRow w.heap.size 107 2 v es.length (es.flatMap Pr.cells) ∧ Below w.heap.size w w' := by
 obtain ⟨i0, hi, hz0, hz1, hz2⟩ := info_parts Tryz.infoFlow
 have HE := hid hE
 clear hE
 go_enter Tryz.func48, Tryz.ntmps48
 go_wp2_with (at_make; refine wpList_make_full _ rfl _ _ 31 rfl w.heap.size 107 i0 _ 2 Tryz.underlying31 hi hz0 hz1 _ _ _ _ es.length rfl rfl ?m1 ?m2 ?m3 ?m4 (Nat.le_refl _) ?_)
 case m1 => omega
 case m2 => omega
 case m3 => rw [hz2]; omega
 case m4 => unfold maxLen; omega
 intro w1 hown hgrow
 have hB1 : Below w.heap.size w w1 := (Below.refl _ _).grown hgrow (Nat.le_refl _) (fun k h => by cases h)
 obtain ⟨L0, hL0, hG0⟩ := own_row2 hown
 have H0 := hid hL0
 have HG0 := hid hG0
 clear hown hgrow hi hz0 hz1 hz2 hL0 hG0 i0
 go_wp2
 go_loopw [4] (fun i wr => ∃ (k : Nat) (L : List Value), k ≤ es.length ∧ i = .int .i64 k ∧ L.length = es.length * 2 ∧ L.take (k * 2) = (es.take k).flatMap Pr.cells ∧ wr.heap[w.heap.size]? = some (.cells L.toArray 107 (0, 0)) ∧ Below w.heap.size w wr) (fun i _ => es.length - (intOf i).toNat)
 case atStart => exact ⟨0, L0, Nat.zero_le _, rfl, H0.out, by simp, HG0.out, hB1⟩
 case round =>
  obtain ⟨k, L, hk, rfl, hL, hT, hG, hbel⟩ := hrel
  have HT := hid hT
  have HL := hid hL
  have HG := hid hG
  clear hT hL hG
  have hzr := lt_heap HG.out
  by_cases hlt : k < es.length
  ·obtain ⟨c0, c1⟩ := (HE.out.stay hbel (Nat.le_refl _)).2 k hlt
   have HC := hid (pflat_take hlt)
   have cz := fun w => toFlow_any es[k].fst es[k].snd w
   go_wp2_with fail
   refine (cz _).mono ?_
   rintro e w2 ⟨rfl, hb2⟩
   have hG2 : w2.heap[w.heap.size]? = some (.cells L.toArray 107 (0, 0)) := by rw [hb2.block _ hzr]; exact HG.out
   have hbel2 := hbel.trans (hb2.mono hbel.size)
   clear c0 c1 hb2 cz
   have hfz : ∀ j, w2.frozen? ⟨w.heap.size, j, none⟩ = false := fun j => Lib.frozen_of_heap hG2 j
   have hce : ∀ j, j < 2 → ∃ u, w2.cell? ⟨w.heap.size, k * 2 + j, none⟩ = some u := fun j hj => cell_is hG2 (by have := HL.out; omega)
   obtain ⟨u0, d0⟩ : ∃ u, w2.cell? ⟨w.heap.size, k * 2, none⟩ = some u := hce 0 (by decide)
   obtain ⟨u1, d1⟩ := hce 1 (by decide)
   have HG2 := hid hG2
   clear hG2 hce
   go_wp2
   go_roundw
   case rel =>
    refine ⟨k + 1, _, by omega, by go_num, ?_, ?_, blk_set (blk_set HG2.out _) _, (hbel2.setCell (p := ⟨w.heap.size, k * 2, none⟩) (Nat.le_refl _) _).setCell (p := ⟨w.heap.size, k * 2 + 1, none⟩) (Nat.le_refl _) _⟩
    ·rw [List.length_set, List.length_set]; exact HL.out
    ·rw [show (k + 1) * 2 = k * 2 + 2 by omega, set2_take (by have := HL.out; omega), HT.out, HC.out]; rfl
   case measure => simp [intOf]; omega
  ·have hke : k = es.length := by omega
   have HK := hid hke
   clear hke
   go_wp2
   go_ret
   refine ⟨_, rfl, ⟨pflat_len es, .inr ⟨w.heap.size, es.length, L.toArray, rfl, Nat.le_refl _, HG.out, Nat.le_refl _, by unfold maxLen; omega, by simpa using HL.out, ?_⟩⟩, hbel⟩
   have := HT.out
   rw [HK.out, List.take_of_length_le (Nat.le_refl es.length)] at this
   simpa using this
theorem toFlowS_none (a : Option Addr) (c : Nat) (w : World) :
  Calls Tryz.prog 48 #[.slice a 0 c] w fun e w' =>
   ∃ v, e = .returned v ∧ w'.ownsRow w.heap.size 107 2 v 0 [] ∧ Below w.heap.size w w' := by
 obtain ⟨i0, hi, hz0, hz1, hz2⟩ := info_parts Tryz.infoFlow
 go_enter Tryz.func48, Tryz.ntmps48
 go_wp2_with (at_make; refine wpList_make_full _ rfl _ _ 31 rfl w.heap.size 107 i0 _ 2 Tryz.underlying31 hi hz0 hz1 _ _ _ _ 0 rfl rfl ?m1 ?m2 ?m3 ?m4 (Nat.le_refl _) ?_)
 case m1 => rfl
 case m2 => rfl
 case m3 => rw [hz2]; omega
 case m4 => unfold maxLen; omega
 intro w1 hown hgrow
 have hB1 : Below w.heap.size w w1 := (Below.refl _ _).grown hgrow (Nat.le_refl _) (fun k h => by cases h)
 have HO : Hid (w1.ownsRow w.heap.size 107 2 (.slice (some ⟨w.heap.size, 0, none⟩) 0 0) 0 []) := by
  have h0 := hown.1
  rw [Nat.zero_mul] at h0
  rw [List.eq_nil_of_length_eq_zero h0] at hown
  exact hown
 clear hown hgrow hi hz0 hz1 hz2 i0
 go_wp2
 go_loop [4] (fun i => i = .int .i64 0) (fun _ => 0)
 case atStart => exact rfl
 case round =>
  subst hrel
  go_wp2
  go_ret
  exact ⟨_, rfl, HO.out, hB1⟩
theorem toFlowS_any (v : Value) (es : List Pr) (w : World) (h : PrSl w v es) (hn : es.length ≤ 1048576) :
  Calls Tryz.prog 48 #[v] w fun e w' =>
   ∃ v, e = .returned v ∧ w'.ownsRow w.heap.size 107 2 v es.length (es.flatMap Pr.cells) ∧ Below w.heap.size w w' := by
 rcases h with ⟨a, c, rfl, rfl⟩ | ⟨g, o, c, rfl, _, h⟩
 ·exact toFlowS_none a c w
 ·exact toFlowS_row g o c es w h hn
set_option maxRecDepth 1000000 in
theorem eqFlowS_row (g1 o1 c1 g2 o2 c2 : Nat) (es : List Pr) (w : World) (hE1 : PrsAt w g1 o1 es) (hE2 : PrsAt w g2 o2 es) (hn : es.length ≤ maxLen) :
  Calls Tryz.prog 54 #[.slice (some ⟨g1, o1, none⟩) es.length c1, .slice (some ⟨g2, o2, none⟩) es.length c2] w fun e w' => e = .returned (.bool true) ∧ Below w.heap.size w w' := by
 unfold maxLen at hn
 have mixed : Tryz.prog.follows .mixedOrders = true := by kernel_rfl
 have HE1 := hid hE1
 have HE2 := hid hE2
 clear hE1 hE2
 go_enter Tryz.func54, Tryz.ntmps54
 go_wp2
 go_loopw [5] (fun i wr => ∃ k : Nat, k ≤ es.length ∧ i = .int .i64 k ∧ Below w.heap.size w wr) (fun i _ => es.length - (intOf i).toNat)
 case atStart => exact ⟨0, Nat.zero_le _, rfl, Below.refl _ _⟩
 case round =>
  obtain ⟨k, hk, rfl, hbel⟩ := hrel
  by_cases hlt : k < es.length
  ·obtain ⟨a0, a1⟩ := (HE1.out.stay hbel (Nat.le_refl _)).2 k hlt
   obtain ⟨b0, b1⟩ := (HE2.out.stay hbel (Nat.le_refl _)).2 k hlt
   generalize es[k].fst = q4 at *
   generalize es[k].snd = q5 at *
   have k0 := cell_regrown a0
   have k1 := cell_regrown a1
   have l0 := cell_regrown b0
   have l1 := cell_regrown b1
   have d1 := fun d os => Calls.regrown_of (w := wr) (d := d) (os := os) (eqFlow_same q4 q5 _)
   clear a0 a1 b0 b1
   go_wp2
   refine wp_region_quiet_below mixed (by kernel_rfl) ?_
   repeat (quiet_step (first | (go_at_call 74; exact d1 _ _)))
   refine wpQuiet_nil ?_
   intro _ hw'
   obtain ⟨⟨dq, osq⟩, hw''⟩ := hw'
   subst hw''
   have hbX := hbel.trans ((below_regrown wr dq osq).mono hbel.size)
   clear k0 k1 l0 l1 d1
   go_wp2
   go_roundw
   case rel => exact ⟨k + 1, by omega, by go_num, hbX⟩
   case measure => simp [intOf]; omega
  ·go_wp2
   go_ret
   exact ⟨rfl, hbel⟩
theorem eqFlowS_none (a1 a2 : Option Addr) (c1 c2 : Nat) (w : World) :
  Calls Tryz.prog 54 #[.slice a1 0 c1, .slice a2 0 c2] w fun e w' => e = .returned (.bool true) ∧ Below w.heap.size w w' := by
 go_enter Tryz.func54, Tryz.ntmps54
 go_wp2
 go_loop [5] (fun i => i = .int .i64 0) (fun _ => 0)
 case atStart => exact rfl
 case round =>
  subst hrel
  go_wp2
  go_ret
  exact ⟨rfl, Below.refl _ _⟩
theorem eqFlowS_any (v1 v2 : Value) (es : List Pr) (w : World) (h1 : PrSl w v1 es) (h2 : PrSl w v2 es) (hn : es.length ≤ maxLen) :
  Calls Tryz.prog 54 #[v1, v2] w fun e w' => e = .returned (.bool true) ∧ Below w.heap.size w w' := by
 rcases h1 with ⟨a, c, rfl, rfl⟩ | ⟨g, o, c, rfl, hp, h⟩
 ·rcases h2 with ⟨a', c', rfl, _⟩ | ⟨g', o', c', rfl, hp', h'⟩
  ·exact eqFlowS_none a a' c c' w
  ·simp at hp'
 ·rcases h2 with ⟨a', c', rfl, h0⟩ | ⟨g', o', c', rfl, hp', h'⟩
  ·rw [h0] at hp; simp at hp
  ·exact eqFlowS_row g o c g' o' c' es w h h' hn
end Go.Proofs.YtookchpdbilbcaaGreatDoor
