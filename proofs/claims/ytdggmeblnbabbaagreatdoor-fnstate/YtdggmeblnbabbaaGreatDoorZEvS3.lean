/-
  Texts put together: EvS, StGx, SrcP.
-/
import Derived.Test.YtdggmeblnbabbaaGreatDoorZDfMath5
import Derived.Test.YtdggmeblnbabbaaGreatDoorZStDr
import Derived.Test.YtdggmeblnbabbaaGreatDoorZBsIn6
/-
  Rows of events in memory: what it is that a slice holds these events, and that it stays so. Of no function.
-/
namespace Go.Proofs.YtdggmeblnbabbaaGreatDoor
open Go.RowKit

def Ev.cells (e : Ev) : List Value := [.int .i64 e.seq, .int .i64 e.time, .int .i64 e.run, .int .i64 e.kind, .string e.step, .string e.val]
/-- An event at a place. -/
structure EvAt (w : World) (g o : Nat) (e : Ev) : Prop where
  c0 : w.cell? ⟨g, o, none⟩ = some (.int .i64 e.seq)
  c1 : w.cell? ⟨g, o + 1, none⟩ = some (.int .i64 e.time)
  c2 : w.cell? ⟨g, o + 2, none⟩ = some (.int .i64 e.run)
  c3 : w.cell? ⟨g, o + 3, none⟩ = some (.int .i64 e.kind)
  c4 : w.cell? ⟨g, o + 4, none⟩ = some (.string e.step)
  c5 : w.cell? ⟨g, o + 5, none⟩ = some (.string e.val)
/-- A row of events, from a place on. -/
def EvsAt (w : World) (g o : Nat) (es : List Ev) : Prop := g < w.heap.size ∧ ∀ i, (h : i < es.length) → EvAt w g (o + i * 6) es[i]
/-- What a slice of events is: empty, or a row somewhere. -/
def EvSl (w : World) (v : Value) (es : List Ev) : Prop :=
  (∃ a c, v = .slice a 0 c ∧ es = []) ∨ ∃ g o c, v = .slice (some ⟨g, o, none⟩) es.length c ∧ 0 < es.length ∧ EvsAt w g o es

theorem EvAt.below {w w' : World} {B g o : Nat} {e : Ev} (h : EvAt w g o e) (hb : Below B w w') (hg : g < B) : EvAt w' g o e :=
  ⟨by rw [hb.cell (p := ⟨g, o, none⟩) hg]; exact h.c0, by rw [hb.cell (p := ⟨g, o + 1, none⟩) hg]; exact h.c1, by rw [hb.cell (p := ⟨g, o + 2, none⟩) hg]; exact h.c2,
   by rw [hb.cell (p := ⟨g, o + 3, none⟩) hg]; exact h.c3, by rw [hb.cell (p := ⟨g, o + 4, none⟩) hg]; exact h.c4, by rw [hb.cell (p := ⟨g, o + 5, none⟩) hg]; exact h.c5⟩
theorem EvsAt.below {w w' : World} {B g o : Nat} {es : List Ev} (h : EvsAt w g o es) (hb : Below B w w') (hg : g < B) : EvsAt w' g o es :=
  ⟨Nat.lt_of_lt_of_le h.1 hb.size, fun i hi => (h.2 i hi).below hb hg⟩
theorem EvsAt.stay {w w' : World} {B g o : Nat} {es : List Ev} (h : EvsAt w g o es) (hb : Below B w w') (hB : w.heap.size ≤ B) : EvsAt w' g o es := h.below hb (Nat.lt_of_lt_of_le h.1 hB)
theorem EvSl.stay {w w' : World} {B : Nat} {v : Value} {es : List Ev} (h : EvSl w v es) (hb : Below B w w') (hB : w.heap.size ≤ B) : EvSl w' v es := by
  rcases h with h | ⟨g, o, c, hv, hn, h⟩
  · exact .inl h
  · exact .inr ⟨g, o, c, hv, hn, h.stay hb hB⟩

theorem flat_at : ∀ (es : List Ev) (i j : Nat), (h : i < es.length) → j < 6 → (es.flatMap Ev.cells)[i * 6 + j]? = es[i].cells[j]?
  | [], i, _, h, _ => absurd h (by simp)
  | e :: r, 0, j, _, hj => by
    rw [List.flatMap_cons, List.getElem?_append_left (by simpa [Ev.cells] using hj)]
    simp
  | e :: r, i + 1, j, h, hj => by
    have hi : i < r.length := by simpa using h
    have h6 : e.cells.length = 6 := rfl
    rw [List.flatMap_cons, List.getElem?_append_right (by omega), h6, show (i + 1) * 6 + j - 6 = i * 6 + j by omega, flat_at r i j hi hj]
    simp
theorem flat_len (es : List Ev) : (es.flatMap Ev.cells).length = es.length * 6 := by
  induction es with
  | nil => rfl
  | cons e r ih => rw [List.flatMap_cons, List.length_append, ih]; simp [Ev.cells]; omega

theorem at_of_cells {w : World} {g : Nat} {es : List Ev} (hc : ∀ j u, (es.flatMap Ev.cells)[j]? = some u → w.cell? ((⟨g, 0, none⟩ : Addr).add j) = some u) (i : Nat) (h : i < es.length) : EvAt w g (0 + i * 6) es[i] := by
  have key : ∀ j u, j < 6 → es[i].cells[j]? = some u → w.cell? ⟨g, 0 + i * 6 + j, none⟩ = some u := by
    intro j u hj hu
    have := hc (i * 6 + j) u (by rw [flat_at es i j h hj]; exact hu)
    rw [Addr.add_lit] at this
    rwa [Nat.add_assoc]
  exact ⟨key 0 _ (by decide) rfl, key 1 _ (by decide) rfl, key 2 _ (by decide) rfl, key 3 _ (by decide) rfl, key 4 _ (by decide) rfl, key 5 _ (by decide) rfl⟩
/-- A row that a call owns, of events. -/
theorem sl_of_own {w : World} {base n : Nat} {e : TypeId} {v : Value} {es : List Ev} (h : w.ownsRow base e 6 v n (es.flatMap Ev.cells)) : EvSl w v es := by
  have hn : n = es.length := by have := h.1; rw [flat_len] at this; omega
  subst hn
  rcases h.2 with ⟨hv, h0⟩ | ⟨g, cap, cur, hv, _⟩
  · exact .inl ⟨none, 0, hv, List.eq_nil_of_length_eq_zero h0⟩
  · by_cases h0 : es.length = 0
    · exact .inl ⟨some ⟨g, 0, none⟩, cap, by rw [hv, h0], List.eq_nil_of_length_eq_zero h0⟩
    · have hlt := (h.lt g (by rw [hv]; rfl)).2
      exact .inr ⟨g, 0, cap, hv, by omega, hlt, fun i hi => at_of_cells (h.cells (by rw [hv]; rfl)) i hi⟩
/-- The texts of these events can be handed about. -/
def Fit (es : List Ev) : Prop := ∀ i, (h : i < es.length) → es[i].step.size ≤ maxLen ∧ es[i].val.size ≤ maxLen
end Go.Proofs.YtdggmeblnbabbaaGreatDoor

/-
  Draws: a Def and a State in their boxes, ahead of three answers' blocks that may be laid in any order. Of no function.
-/
namespace Go.Proofs.YtdggmeblnbabbaaGreatDoor
open Go.RowKit Go.Sort
set_option linter.unusedVariables false

/-- A block that is neither the source's nor its bytes' turns. -/
theorem drw_lay {X X' : World} {b n R : Nat} {V : Value} (h : Drw X b V n) (hc : Chg (fun j => j = R) X X') (hb : b ≠ R) (hf : ∀ g o c, V = .slice (some ⟨g, o, none⟩) n c → 0 < n → g ≠ R) : Drw X' b V n := by
  refine ⟨h.src.of_block (hc.block b h.src.lt hb), ?_, h.far⟩
  obtain ⟨a, c, rfl, hn, hbs⟩ := h.bs
  refine ⟨a, c, rfl, hn, fun i hi => ?_⟩
  obtain ⟨g, o, x, rfl, hg1, hx1, hx⟩ := hbs i hi
  exact ⟨g, o, x, rfl, Nat.lt_of_lt_of_le hg1 hc.size, by rw [hc.cell hg1 (hf g o c rfl (by omega))]; exact hx1, hx⟩
/-- An Event with short texts. -/
def ShE (v : Ev) : Prop := v.step.size ≤ 100 ∧ v.val.size ≤ 100
structure GxS (w X : World) (b gd gs lo n : Nat) (V u1 u2 u3 u4 u5 : Value) (ss : List ByteArray) (fs : List Pr) (S : St) : Prop where
  dr : Drw X b V n
  hd : X.heap[gd]? = some (.cells [u1, u2].toArray 26 (0, 0))
  hs : X.heap[gs]? = some (.cells (stLs u3 u4 u5 S).toArray 29 (0, 0))
  r1 : ∃ x0 x1, X.heap[w.heap.size]? = some (.cells [x0, x1].toArray 26 (0, 0))
  r2 : ∃ x0 x1 x2 x3 x4 x5 x6, X.heap[w.heap.size + 1]? = some (.cells [x0, x1, x2, x3, x4, x5, x6].toArray 29 (0, 0))
  r3 : ∃ v : Ev, ShE v ∧ X.heap[w.heap.size + 2]? = some (.cells v.cells.toArray 31 (0, 0))
  o1 : X.ownsRow lo 9 1 u1 ss.length (ss.map Value.string)
  o2 : X.ownsRow lo 41 2 u2 fs.length (fs.flatMap Pr.cells)
  os : StOwn X lo u3 u4 u5 S
  gr : Below w.heap.size w X
  l1 : w.heap.size + 3 ≤ b
  l2 : b < lo
  l3 : lo ≤ gd
  l4 : lo ≤ gs
  len : ss.length ≤ 5 ∧ fs.length ≤ 10
  sh : ShD ss fs
  sm : SmS S
  fr : ∀ g o c, V = .slice (some ⟨g, o, none⟩) n c → 0 < n → g < w.heap.size
theorem GxS.call {w X X' : World} {b gd gs lo n : Nat} {V u1 u2 u3 u4 u5 : Value} {ss : List ByteArray} {fs : List Pr} {S : St} (h : GxS w X b gd gs lo n V u1 u2 u3 u4 u5 ss fs S) (hd : Drw X' b V n) (hg : X.grownBy X' (some b)) : GxS w X' b gd gs lo n V u1 u2 u3 u4 u5 ss fs S := by
  have h1 := h.l1
  have h2 := h.l2
  have h3 := h.l3
  have h4 := h.l4
  have kp : ∀ k o, X.heap[k]? = some o → k ≠ b → X'.heap[k]? = some o := fun k o hk hn => (hg.block k (lt_heap hk) (by simp; exact hn)).trans hk
  obtain ⟨x0, x1, r1⟩ := h.r1
  obtain ⟨y0, y1, y2, y3, y4, y5, y6, r2⟩ := h.r2
  obtain ⟨v, hv, r3⟩ := h.r3
  exact ⟨hd, kp _ _ h.hd (by omega), kp _ _ h.hs (by omega), ⟨x0, x1, kp _ _ r1 (by omega)⟩, ⟨y0, y1, y2, y3, y4, y5, y6, kp _ _ r2 (by omega)⟩, ⟨v, hv, kp _ _ r3 (by omega)⟩, own_kept h.o1 h2 hg, own_kept h.o2 h2 hg, h.os.keptB h2 hg,
    ⟨hg.os.trans h.gr.os, hg.tape.trans h.gr.tape, hg.output.trans h.gr.output, Nat.le_trans h.gr.size hg.size, fun k hk => (hg.block k (Nat.lt_of_lt_of_le hk h.gr.size) (by simp; omega)).trans (h.gr.block k hk)⟩, h1, h2, h3, h4, h.len, h.sh, h.sm, h.fr⟩
theorem GxS.drew {w X : World} {b gd gs lo n : Nat} {V u1 u2 u3 u4 u5 : Value} {ss : List ByteArray} {fs : List Pr} {S : St} (h : GxS w X b gd gs lo n V u1 u2 u3 u4 u5 ss fs S) : GxS w X.drew b gd gs lo n V u1 u2 u3 u4 u5 ss fs S := h.call (h.dr.below (Below.refl _ _).drew) (grown_below (Below.refl _ _).drew)
/-- One of the answers' blocks is laid. -/
theorem GxS.lay {w X X' : World} {b gd gs lo n R : Nat} {V u1 u2 u3 u4 u5 : Value} {ss : List ByteArray} {fs : List Pr} {S : St} (h : GxS w X b gd gs lo n V u1 u2 u3 u4 u5 ss fs S) (hc : Chg (fun j => j = R) X X') (hR : w.heap.size ≤ R ∧ R ≤ w.heap.size + 2)
    (r1 : R = w.heap.size → ∃ x0 x1, X'.heap[w.heap.size]? = some (.cells [x0, x1].toArray 26 (0, 0)))
    (r2 : R = w.heap.size + 1 → ∃ x0 x1 x2 x3 x4 x5 x6, X'.heap[w.heap.size + 1]? = some (.cells [x0, x1, x2, x3, x4, x5, x6].toArray 29 (0, 0)))
    (r3 : R = w.heap.size + 2 → ∃ v : Ev, ShE v ∧ X'.heap[w.heap.size + 2]? = some (.cells v.cells.toArray 31 (0, 0))) : GxS w X' b gd gs lo n V u1 u2 u3 u4 u5 ss fs S := by
  have h1 := h.l1
  have h2 := h.l2
  have h3 := h.l3
  have h4 := h.l4
  have kp : ∀ k o, X.heap[k]? = some o → k ≠ R → X'.heap[k]? = some o := fun k o hk hn => (hc.block k (lt_heap hk) hn).trans hk
  have far : ∀ k, lo ≤ k → ¬ k = R := fun k hk => by omega
  refine ⟨drw_lay h.dr hc (by omega) (fun g o c e h0 => by have := h.fr g o c e h0; omega), kp _ _ h.hd (by omega), kp _ _ h.hs (by omega), ?_, ?_, ?_, own_chg h.o1 hc (fun g hg => far g (own_lt h.o1 g hg).1), own_chg h.o2 hc (fun g hg => far g (own_lt h.o2 g hg).1), h.os.chg hc far, ?_, h1, h2, h3, h4, h.len, h.sh, h.sm, h.fr⟩
  · by_cases e : R = w.heap.size
    · exact r1 e
    · obtain ⟨x0, x1, q⟩ := h.r1; exact ⟨x0, x1, kp _ _ q (fun k => e k.symm)⟩
  · by_cases e : R = w.heap.size + 1
    · exact r2 e
    · obtain ⟨y0, y1, y2, y3, y4, y5, y6, q⟩ := h.r2; exact ⟨y0, y1, y2, y3, y4, y5, y6, kp _ _ q (fun k => e k.symm)⟩
  · by_cases e : R = w.heap.size + 2
    · exact r3 e
    · obtain ⟨v, hv, q⟩ := h.r3; exact ⟨v, hv, kp _ _ q (fun k => e k.symm)⟩
  · exact ⟨hc.os.trans h.gr.os, hc.tape.trans h.gr.tape, hc.output.trans h.gr.output, Nat.le_trans h.gr.size hc.size, fun k hk => (hc.block k (Nat.lt_of_lt_of_le hk h.gr.size) (by omega)).trans (h.gr.block k hk)⟩
theorem GxS.cells {w X : World} {b gd gs lo n : Nat} {V u1 u2 u3 u4 u5 : Value} {ss : List ByteArray} {fs : List Pr} {S : St} (h : GxS w X b gd gs lo n V u1 u2 u3 u4 u5 ss fs S) :
    (X.cell? ⟨gd, 0, none⟩ = some u1 ∧ X.cell? ⟨gd, 1, none⟩ = some u2) ∧ X.cell? ⟨gs, 0, none⟩ = some (.int .i64 S.status) ∧ X.cell? ⟨gs, 1, none⟩ = some (.int .i64 S.begun) ∧ X.cell? ⟨gs, 2, none⟩ = some (.int .i64 S.last) ∧ X.cell? ⟨gs, 3, none⟩ = some u3 ∧ X.cell? ⟨gs, 4, none⟩ = some u4 ∧ X.cell? ⟨gs, 5, none⟩ = some u5 ∧ X.cell? ⟨gs, 6, none⟩ = some (.int .i64 S.faults) :=
  ⟨⟨by rw [Lib.cell_of_heap h.hd]; rfl, by rw [Lib.cell_of_heap h.hd]; rfl⟩, by rw [Lib.cell_of_heap h.hs]; rfl, by rw [Lib.cell_of_heap h.hs]; rfl, by rw [Lib.cell_of_heap h.hs]; rfl, by rw [Lib.cell_of_heap h.hs]; rfl, by rw [Lib.cell_of_heap h.hs]; rfl, by rw [Lib.cell_of_heap h.hs]; rfl, by rw [Lib.cell_of_heap h.hs]; rfl⟩
/-- What the answers' blocks R, R + 1 hold stays, or is what is told. -/
def Lays (R : Nat) (o1 o2 : Obj) (X X' : World) : Prop := (X'.heap[R]? = X.heap[R]? ∨ X'.heap[R]? = some o1) ∧ (X'.heap[R + 1]? = X.heap[R + 1]? ∨ X'.heap[R + 1]? = some o2)
theorem Lays.refl (R : Nat) (o1 o2 : Obj) (X : World) : Lays R o1 o2 X X := ⟨.inl rfl, .inl rfl⟩
theorem Lays.of {R : Nat} {o1 o2 : Obj} {X X' : World} (h1 : X'.heap[R]? = X.heap[R]?) (h2 : X'.heap[R + 1]? = X.heap[R + 1]?) : Lays R o1 o2 X X' := ⟨.inl h1, .inl h2⟩
theorem Lays.on1 {R : Nat} {o1 o2 : Obj} {X X' : World} (h : Lays R o1 o2 X X') (hx : X.heap[R]? = some o1) : X'.heap[R]? = some o1 := h.1.elim (fun e => e.trans hx) id
theorem Lays.on2 {R : Nat} {o1 o2 : Obj} {X X' : World} (h : Lays R o1 o2 X X') (hx : X.heap[R + 1]? = some o2) : X'.heap[R + 1]? = some o2 := h.2.elim (fun e => e.trans hx) id
/-- What DrawStateStep answers. -/
structure SsDr (w W : World) (u1 u2 u3 u4 u5 : Value) (ss : List ByteArray) (fs : List Pr) (S : St) : Prop where
  o1 : W.ownsRow w.heap.size 9 1 u1 ss.length (ss.map Value.string)
  o2 : W.ownsRow w.heap.size 41 2 u2 fs.length (fs.flatMap Pr.cells)
  os : StOwn W w.heap.size u3 u4 u5 S
  bl : Below w.heap.size w W
  len : ss.length ≤ 5 ∧ fs.length ≤ 10
  sh : ShD ss fs
  sm : SmS S
theorem GxS.fin {w X : World} {b gd gs lo n : Nat} {V u1 u2 u3 u4 u5 : Value} {ss : List ByteArray} {fs : List Pr} {S : St} (h : GxS w X b gd gs lo n V u1 u2 u3 u4 u5 ss fs S) : SsDr w X u1 u2 u3 u4 u5 ss fs S :=
  ⟨ownB_le h.o1 (by have := h.l1; have := h.l2; omega), ownB_le h.o2 (by have := h.l1; have := h.l2; omega), h.os.le (by have := h.l1; have := h.l2; omega), h.gr, h.len, h.sh, h.sm⟩
end Go.Proofs.YtdggmeblnbabbaaGreatDoor

/-
  Draws: what (*spec.l01Src).pick answers: one of some texts: a contract over the seat's program.
-/
namespace Go.Proofs.YtdggmeblnbabbaaGreatDoor
open Go.RowKit

theorem pick_any (b n g m : Nat) (V : Value) (S : List ByteArray) (w : World) (h : Drw w b V n) (hm : S.length = m) (h0 : 0 < m) (hm2 : m ≤ 100) (hgb : b < g)
    (hS : w.heap[g]? = some (.cells (S.map Value.string).toArray 9 (0, 0))) :
    Calls Tryz.prog 34 #[.pointer (some ⟨b, 0, none⟩), .slice (some ⟨g, 0, none⟩) m m] w fun e w' => ∃ s, e = .returned (.string s) ∧ s ∈ S ∧ Drw w' b V n ∧ w.grownBy w' (some b) := by
  have c1 := hid (srcN_any b n V (m : Int) w h (by omega))
  have HS := hid hS
  clear h hS
  go_enter Tryz.func34, Tryz.ntmps34
  go_wp2_with fail
  refine c1.out.mono ?_
  rintro e w1 ⟨r, rfl, ⟨r0, r1, r2⟩, hd, hg⟩
  obtain ⟨i, rfl⟩ := Int.eq_ofNat_of_zero_le r0
  have hi : i < S.length := by
    by_cases h1 : (1 : Int) < (m : Int)
    · have := r1 h1; omega
    · have := r2 (by omega); omega
  have hi' : i < m := by omega
  have hS1 : w1.heap[g]? = some (.cells (S.map Value.string).toArray 9 (0, 0)) := by rw [hg.block g (lt_heap HS.out) (by simp; omega)]; exact HS.out
  have hc : w1.cell? ⟨g, i, none⟩ = some (.string S[i]) := by
    rw [Lib.cell_of_heap hS1]
    simp [hi]
  have HM := hid (List.getElem_mem hi)
  generalize S[i] = s at *
  have HD := hid hd
  have HG := hid hg
  clear hd hg hS1 r0 r1 r2 hi
  go_wp2
  go_ret
  exact ⟨s, rfl, HM.out, HD.out, HG.out⟩
end Go.Proofs.YtdggmeblnbabbaaGreatDoor
