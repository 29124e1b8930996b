/-
  Texts put together: StNx, StGs, OfM.
-/
import Derived.Test.YtdggmeblnbabbaaGreatDoorZStDr
import Derived.Test.YtdggmeblnbabbaaGreatDoorZDrNx
import Derived.Test.YtdggmeblnbabbaaGreatDoorZSpStS
import Derived.Test.YtdggmeblnbabbaaGreatDoorZEvS3
import Derived.Test.YtdggmeblnbabbaaGreatDoorZEvI3
/-
  Draws: amid the draw of a State: what spec.l03Next and spec.StateStep answer of what stands in the boxes: contracts over the seat's program.
-/
namespace Go.Proofs.YtdggmeblnbabbaaGreatDoor
open Go.RowKit Go.Sort
set_option linter.unusedVariables false

theorem own_far {w : World} {base n c : Nat} {e : TypeId} {a : Option Addr} {l : List ByteArray} {b : Nat} (h : w.ownsRow base e 1 (.slice a n c) n (l.map Value.string)) (hb : b < base) : ∀ g o, a = some ⟨g, o, none⟩ → 0 < l.length → b < g := fun g o ha _ => by
  have := (h.lt g (by rw [ha]; rfl)).1; omega
theorem nextS_any {W : World} {b n : Nat} {V : Value} {lo k3 k4 k5 : Nat} {a3 a4 a5 : Option Addr} {S : St} (hd : Drw W b V n) (os : StOwn W lo (.slice a3 S.wait.length k3) (.slice a4 S.busy.length k4) (.slice a5 S.vars.length k5) S) (sm : SmS S) (hb : b < lo) (run sq : Int) :
    Calls Tryz.prog 19 #[.pointer (some ⟨b, 0, none⟩), stV a3 a4 a5 k3 k4 k5 S, .int .i64 run, .int .i64 sq] W fun e w' => ∃ v : Ev, e = .returned (.agg v.cells.toArray) ∧ v.step.size ≤ 100 ∧ v.val.size ≤ 100 ∧ Drw w' b V n ∧ W.grownBy w' (some b) :=
  drawNext_any b n V S.status S.begun S.last S.faults run sq a3 a4 a5 S.vars.length k3 k4 k5 S.wait S.busy W hd (str_of_own os.o3) (str_of_own os.o4) sm.sw sm.sb (by have := sm.w; omega) (by have := sm.b; omega) (own_far os.o3 hb) (own_far os.o4 hb) (by have := sm.l; omega)
theorem MdS.next {w W : World} {b gd gs n : Nat} {V u1 u2 : Value} {k3 k4 k5 : Nat} {a3 a4 a5 : Option Addr} {ss : List ByteArray} {fs : List Pr} {S : St} (h : MdS w W b gd gs n V u1 u2 (.slice a3 S.wait.length k3) (.slice a4 S.busy.length k4) (.slice a5 S.vars.length k5) ss fs S) (run sq : Int) :
    Calls Tryz.prog 19 #[.pointer (some ⟨b, 0, none⟩), stV a3 a4 a5 k3 k4 k5 S, .int .i64 run, .int .i64 sq] W fun e w' => ∃ v : Ev, e = .returned (.agg v.cells.toArray) ∧ v.step.size ≤ 100 ∧ v.val.size ≤ 100 ∧ Drw w' b V n ∧ W.grownBy w' (some b) :=
  nextS_any h.dr h.os h.sm (by have := h.l1; omega) run sq
theorem fit_small {l : List Pr} (h : ∀ f ∈ l, f.fst.size ≤ 100 ∧ f.snd.size ≤ 100) : FitP l := fun i hi => by
  have := h _ (List.getElem_mem hi); unfold maxLen; omega
/-- spec.StateStep at a right Def and a right State. -/
theorem MdS.step {w W : World} {b gd gs n : Nat} {V : Value} {k1 k2 k3 k4 k5 : Nat} {a1 a2 a3 a4 a5 : Option Addr} {ss : List ByteArray} {fs : List Pr} {S : St} (h : MdS w W b gd gs n V (.slice a1 ss.length k1) (.slice a2 fs.length k2) (.slice a3 S.wait.length k3) (.slice a4 S.busy.length k4) (.slice a5 S.vars.length k5) ss fs S) (D : DefP ss fs) (hP : StP ss S) (v : Ev) (hv : v.step.size ≤ 100) :
    Calls Tryz.prog 6 #[defV a1 a2 k1 k2 ss fs, stV a3 a4 a5 k3 k4 k5 S, evV v] W fun e w' => ∃ (c : Int) (v3 v4 v5 : Value) (T : St), e = .returned (outV c T v3 v4 v5) ∧ StOwn w' (w.heap.size + 2) v3 v4 v5 T ∧ (Apart (.slice a1 ss.length k1) v3 ∧ Apart (.slice a1 ss.length k1) v4) ∧ (c = 0 → StP ss T) ∧ Below W.heap.size W w' := by
  have hl := h.len
  have hsm := h.sm
  have hw : w.heap.size + 2 ≤ W.heap.size := by have := lt_heap h.hr2; omega
  refine (specStateStep_any a1 a2 a3 a4 a5 k1 k2 k3 k4 k5 ss fs S v W ⟨str_of_own h.o1, pr_of_own h.o2, fun g o e => (h.o1.lt g (by rw [e]; rfl)).2, fun g o e => (h.o2.lt g (by rw [e]; rfl)).2⟩ ⟨str_of_own h.os.o3, str_of_own h.os.o4, pr_of_own h.os.o5⟩ (fun i hi => by have := h.sh.1 _ (List.getElem_mem hi); unfold maxLen; omega) (fit_small hsm.sv) (by unfold maxLen; omega) (by unfold maxLen; omega) (by unfold maxLen; omega) (by have := hsm.w; unfold maxLen; omega) (by have := hsm.b; unfold maxLen; omega) (by have := hsm.v; unfold maxLen; omega)).mono ?_
  rintro e w' ⟨v3, v4, v5, hx, hO, hb⟩
  refine ⟨_, v3, v4, v5, _, hx, hO.le hw, ⟨apart_of h.o1 hO.o3 (Nat.le_refl _) (Nat.le_refl _), apart_of h.o1 hO.o4 (Nat.le_refl _) (Nat.le_refl _)⟩, fun h0 => ?_, hb⟩
  by_cases he : evB v = true
  · rw [rS_yes ⟨⟨D, hP⟩, he⟩] at h0 ⊢
    exact stepS_right D hP he h0
  · rw [rS_no (fun k => he k.2)] at h0
    exact absurd h0 (by decide)
/-- A block that is none of these turns. -/
theorem MdS.other {w W W' : World} {b gd gs n g : Nat} {V u1 u2 u3 u4 u5 : Value} {ss : List ByteArray} {fs : List Pr} {S : St} (h : MdS w W b gd gs n V u1 u2 u3 u4 u5 ss fs S) (hc : Chg (fun j => j = g) W W') {c : Array Value} {t : TypeId} {f : Nat × Nat} (hB : W.heap[g]? = some (.cells c t f)) (t1 : 9 ≠ t) (t2 : 41 ≠ t) (t3 : 58 ≠ t) (hg : gd < g ∧ gs < g) : MdS w W' b gd gs n V u1 u2 u3 u4 u5 ss fs S := by
  have h1 := h.l1
  have h2 := h.l2
  have h3 := h.l3
  exact ⟨h.dr.chg hc (fun k hk => by omega), (hc.block gd (lt_heap h.hd) (by omega)).trans h.hd, (hc.block gs (lt_heap h.hs) (by omega)).trans h.hs, (hc.block _ (lt_heap h.hr1) (by omega)).trans h.hr1, (hc.block _ (lt_heap h.hr2) (by omega)).trans h.hr2, own_chg h.o1 hc (own_ne h.o1 hB t1), own_chg h.o2 hc (own_ne h.o2 hB t2), h.os.turn hc hB t1 t3, grown_chg h.gr hc (fun k hk => by omega), h1, h2, h3, h.len, h.sh, h.sm, h.ap⟩
/-- How long a slice in a cell is. -/
def lenOf (x : Option Value) : Nat := match x with
  | some (.slice _ n _) => n
  | _ => 0
theorem begun_0 {ss : List ByteArray} {S : St} (h : StP ss S) : 0 ≤ S.begun ∧ S.begun ≤ 1000000 := by
  rcases h with ⟨_, h⟩ | ⟨_, h⟩ | ⟨_, _, h⟩
  · have := h.b0; omega
  · exact tim_iff.1 h.t1
  · exact tim_iff.1 h.t1
end Go.Proofs.YtdggmeblnbabbaaGreatDoor

/-
  Draws: ahead of three answers' blocks: where a Def and a State were drawn and boxed. Of no function.
-/
namespace Go.Proofs.YtdggmeblnbabbaaGreatDoor
open Go.RowKit Go.Sort
set_option linter.unusedVariables false

theorem Bs.stay9 {w w' : World} {V : Value} {n : Nat} (h : Bs w V n) (hb : Below w.heap.size w w') : Bs w' V n := by
  obtain ⟨a, c, rfl, hn, h⟩ := h
  refine ⟨a, c, rfl, hn, fun i hi => ?_⟩
  obtain ⟨g, o, x, rfl, hg1, hc, hx⟩ := h i hi
  exact ⟨g, o, x, rfl, Nat.lt_of_lt_of_le hg1 hb.size, by rw [hb.cell (p := ⟨g, o + i, none⟩) hg1]; exact hc, hx⟩
theorem Bs.fars {w : World} {V : Value} {n : Nat} (h : Bs w V n) : ∀ g o c, V = .slice (some ⟨g, o, none⟩) n c → 0 < n → g < w.heap.size := by
  obtain ⟨a, c, rfl, hn, h⟩ := h
  intro g o c' e h0
  obtain ⟨g', o', x, e', hg, _⟩ := h 0 h0
  rw [e'] at e
  injection e with e1
  injection e1 with e1
  injection e1 with e1
  omega
theorem GxS.start {w W0 W1 W2 : World} {b n : Nat} {V u1 u2 u3 u4 u5 : Value} {ss : List ByteArray} {fs : List Pr} {S : St} (hb0 : Below w.heap.size w W0) (hs0 : W0.heap.size = w.heap.size + 3)
    (hr : W0.heap[w.heap.size]? = some (.cells [.slice none 0 0, .slice none 0 0].toArray 26 (0, 0)) ∧ W0.heap[w.heap.size + 1]? = some (.cells [.int .i64 0, .int .i64 0, .int .i64 0, .slice none 0 0, .slice none 0 0, .slice none 0 0, .int .i64 0].toArray 29 (0, 0)) ∧ W0.heap[w.heap.size + 2]? = some (.cells [.int .i64 0, .int .i64 0, .int .i64 0, .int .i64 0, .string ⟨#[]⟩, .string ⟨#[]⟩].toArray 31 (0, 0)))
    (hbb : W0.heap.size ≤ b) (hB1 : Below W0.heap.size W0 W1) (h : StDr W1 W2 b n V u1 u2 u3 u4 u5 ss fs S) (hf : ∀ g o c, V = .slice (some ⟨g, o, none⟩) n c → 0 < n → g < w.heap.size) (hbW : b < W1.heap.size) :
    GxS w ((W2.alloc (.cells [u1, u2].toArray 26)).alloc (.cells (stLs u3 u4 u5 S).toArray 29)) b W2.heap.size (W2.heap.size + 1) W1.heap.size n V u1 u2 u3 u4 u5 ss fs S := by
  obtain ⟨r1, r2, r3⟩ := hr
  have g1 : W0.grownBy W2 (some b) := grown_trans (grown_below hB1) h.gr
  have kp : ∀ k o, W0.heap[k]? = some o → W2.heap[k]? = some o := fun k o hk => by
    have := lt_heap hk
    exact (g1.block k this (by simp; omega)).trans hk
  have hB : Below W2.heap.size W2 ((W2.alloc (.cells [u1, u2].toArray 26)).alloc (.cells (stLs u3 u4 u5 S).toArray 29)) := ((Below.refl _ _).alloc (Nat.le_refl _) _).alloc (by simp) _
  have kb : ∀ k o, W0.heap[k]? = some o → ((W2.alloc (.cells [u1, u2].toArray 26)).alloc (.cells (stLs u3 u4 u5 S).toArray 29)).heap[k]? = some o := fun k o hk => (hB.block _ (lt_heap (kp k o hk))).trans (kp k o hk)
  have q2 := heap_alloc_new (W2.alloc (.cells [u1, u2].toArray 26)) (.cells (stLs u3 u4 u5 S).toArray 29)
  rw [show (W2.alloc (.cells [u1, u2].toArray 26)).heap.size = W2.heap.size + 1 by simp] at q2
  have hz := h.gr.size
  refine ⟨h.dr.below hB, (Below.heap_alloc _ _ _ (by simp)).trans (heap_alloc_new W2 _), q2, ⟨_, _, kb _ _ r1⟩, ⟨_, _, _, _, _, _, _, kb _ _ r2⟩, ⟨⟨0, 0, 0, 0, ⟨#[]⟩, ⟨#[]⟩⟩, ⟨Nat.zero_le _, Nat.zero_le _⟩, kb _ _ r3⟩, ownB_stay h.o1 hB, ownB_stay h.o2 hB, h.os.stay hB, ?_, by omega, hbW, by omega, by omega, h.len, h.sh, h.sm, hf⟩
  have g2 : w.grownBy W2 none := ⟨g1.os.trans hb0.os, g1.tape.trans hb0.tape, g1.output.trans hb0.output, Nat.le_trans hb0.size g1.size, fun k hk _ => (g1.block k (Nat.lt_of_lt_of_le hk hb0.size) (by simp; omega)).trans (hb0.block k hk)⟩
  exact Below.trans ⟨g2.os, g2.tape, g2.output, g2.size, fun k hk => g2.block k hk (by simp)⟩ (hB.mono g2.size)
end Go.Proofs.YtdggmeblnbabbaaGreatDoor

/-
  What a row of events makes of the zero State, as StateOf tells it. Of no function.
-/
namespace Go.Proofs.YtdggmeblnbabbaaGreatDoor
open Go.RowKit Go.Sort

open Classical in
noncomputable def soS (ss : List ByteArray) (fs : List Pr) (es : List Ev) : Int × St := if 400 < es.length then (2, z0) else if DefP ss fs ∧ es.length ≤ 200 then ofS ss fs es z0 else (1, z0)
theorem soS_big (ss : List ByteArray) (fs : List Pr) {es : List Ev} (h : 400 < es.length) : soS ss fs es = (2, z0) := if_pos h
theorem soS_no (ss : List ByteArray) (fs : List Pr) {es : List Ev} (h : ¬ 400 < es.length) (h2 : ¬ (DefP ss fs ∧ es.length ≤ 200)) : soS ss fs es = (1, z0) := by unfold soS; rw [if_neg h, if_neg h2]
theorem soS_yes (ss : List ByteArray) (fs : List Pr) {es : List Ev} (h : ¬ 400 < es.length) (h1 : DefP ss fs) (h2 : es.length ≤ 200) : soS ss fs es = ofS ss fs es z0 := by unfold soS; rw [if_neg h, if_pos ⟨h1, h2⟩]
theorem z0_sl (w : World) : StSl w none none none 0 0 0 z0 := ⟨.inl ⟨none, 0, rfl, rfl⟩, .inl ⟨none, 0, rfl, rfl⟩, .inl ⟨none, 0, rfl, rfl⟩⟩
theorem z0_right (ss : List ByteArray) : StP ss z0 := .inl ⟨rfl, by constructor <;> rfl⟩
end Go.Proofs.YtdggmeblnbabbaaGreatDoor
