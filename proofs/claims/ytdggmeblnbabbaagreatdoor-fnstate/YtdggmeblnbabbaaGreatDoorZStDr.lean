/-
  Draws: a Def and a State amid their draw: the source, both in their boxes, their rows; the answer's own blocks. Of no function.
-/
import Derived.Test.YtdggmeblnbabbaaGreatDoorZOwnB7
import Derived.Test.YtdggmeblnbabbaaGreatDoorZRiseM5
import Derived.Test.YtdggmeblnbabbaaGreatDoorZEvI3
import Derived.Deep.AppendLies
namespace Go.Proofs.YtdggmeblnbabbaaGreatDoor
open Go.RowKit Go.Sort

theorem Chg.set {p : Nat → Prop} {w w' : World} (h : Chg p w w') {g : Nat} (hp : p g) (i : Nat) (v : Value) : Chg p w (w'.setCell ⟨g, i, none⟩ v) := h.trans (Chg.of_grown (grown_set w' g i v) hp)
theorem Chg.seq {w w' : World} {g : Nat} (h : Chg (fun j => j = g) w w') (i : Nat) (v : Value) : Chg (fun j => j = g) w (w'.setCell ⟨g, i, none⟩ v) := h.set (p := fun j => j = g) rfl i v
theorem Chg.drew {p : Nat → Prop} {w w' : World} (h : Chg p w w') : Chg p w w'.drew := h.trans (Chg.of_below ((Below.refl _ _).drew))
/-- Small texts and counts of a State. -/
structure SmS (S : St) : Prop where
  w : S.wait.length ≤ 60
  b : S.busy.length ≤ 60
  v : S.vars.length ≤ 60
  sw : ∀ s ∈ S.wait, s.size ≤ 100
  sb : ∀ s ∈ S.busy, s.size ≤ 100
  sv : ∀ f ∈ S.vars, f.fst.size ≤ 100 ∧ f.snd.size ≤ 100
  l : -10 ≤ S.last ∧ S.last ≤ 10000000
  g : -10 ≤ S.begun ∧ S.begun ≤ 10000000
theorem nr_small {s : ByteArray} (h : nrB s = true) : s.size ≤ 100 := by
  unfold nrB at h; simp only [Bool.and_eq_true, decide_eq_true_eq] at h; have := h.2.1; omega
theorem nil_small {α : Type} {l : List α} (h : l.length = 0) {P : α → Prop} : ∀ s ∈ l, P s := by
  intro s hs
  rw [List.eq_nil_of_length_eq_zero h] at hs; cases hs
theorem smS_beg {ss : List ByteArray} {fs : List Pr} {S : St} (hs : ShD ss fs) (h : BegP ss S) : SmS S := by
  have h1 := tim_iff.1 h.t1
  have h2 := tim_iff.1 h.t2
  refine ⟨by have := h.m; omega, by have := h.m; omega, by have := h.v.n; omega, fun s k => ?_, fun s k => ?_, fun f k => ?_, by omega, by omega⟩
  · have := hs.1 s (h.w.all s k); omega
  · have := hs.1 s (h.b.all s k); omega
  · obtain ⟨i, hi, rfl⟩ := List.mem_iff_getElem.1 k
    have := h.v.nm i hi
    exact ⟨nr_small this.1, by omega⟩
theorem smS_of {ss : List ByteArray} {fs : List Pr} {S : St} (hs : ShD ss fs) (h : StP ss S) : SmS S := by
  rcases h with ⟨_, h⟩ | ⟨_, h⟩ | ⟨_, _, h⟩
  · exact ⟨by have := h.w; omega, by have := h.b; omega, by have := h.v0; omega, nil_small h.w, nil_small h.b, nil_small h.v0, by have := h.l0; omega, by have := h.b0; omega⟩
  · exact smS_beg hs h
  · exact smS_beg hs h
def stLs (u3 u4 u5 : Value) (S : St) : List Value := [.int .i64 S.status, .int .i64 S.begun, .int .i64 S.last, u3, u4, u5, .int .i64 S.faults]
/-- A State's rows where one block turns. -/
theorem StOwn.keptB {w w' : World} {lo b : Nat} {v3 v4 v5 : Value} {S : St} (h : StOwn w lo v3 v4 v5 S) (hb : b < lo) (hg : w.grownBy w' (some b)) : StOwn w' lo v3 v4 v5 S := ⟨own_kept h.o3 hb hg, own_kept h.o4 hb hg, own_kept h.o5 hb hg, h.a34⟩
theorem StOwn.same {w : World} {lo : Nat} {v3 v4 v5 : Value} {S S' : St} (h : StOwn w lo v3 v4 v5 S) (hw : S'.wait = S.wait) (hb : S'.busy = S.busy) (hv : S'.vars = S.vars) : StOwn w lo v3 v4 v5 S' := ⟨by rw [hw]; exact h.o3, by rw [hb]; exact h.o4, by rw [hv]; exact h.o5, h.a34⟩
structure MdS (w W : World) (b gd gs n : Nat) (V u1 u2 u3 u4 u5 : Value) (ss : List ByteArray) (fs : List Pr) (S : St) : Prop where
  dr : Drw W b V n
  hd : W.heap[gd]? = some (.cells [u1, u2].toArray 26 (0, 0))
  hs : W.heap[gs]? = some (.cells (stLs u3 u4 u5 S).toArray 29 (0, 0))
  hr1 : W.heap[w.heap.size]? = some (.cells [.slice none 0 0, .slice none 0 0].toArray 26 (0, 0))
  hr2 : W.heap[w.heap.size + 1]? = some (.cells [.int .i64 0, .int .i64 0, .int .i64 0, .slice none 0 0, .slice none 0 0, .slice none 0 0, .int .i64 0].toArray 29 (0, 0))
  o1 : W.ownsRow (w.heap.size + 2) 9 1 u1 ss.length (ss.map Value.string)
  o2 : W.ownsRow (w.heap.size + 2) 41 2 u2 fs.length (fs.flatMap Pr.cells)
  os : StOwn W (w.heap.size + 2) u3 u4 u5 S
  gr : w.grownBy W (some b)
  l1 : b < w.heap.size
  l2 : w.heap.size + 1 < gd
  l3 : w.heap.size + 1 < gs
  len : ss.length ≤ 5 ∧ fs.length ≤ 10
  sh : ShD ss fs
  sm : SmS S
  ap : Apart u1 u3 ∧ Apart u1 u4
theorem MdS.call {w W W' : World} {b gd gs n : Nat} {V u1 u2 u3 u4 u5 : Value} {ss : List ByteArray} {fs : List Pr} {S : St} (h : MdS w W b gd gs n V u1 u2 u3 u4 u5 ss fs S) (hd : Drw W' b V n) (hg : W.grownBy W' (some b)) : MdS w W' b gd gs n V u1 u2 u3 u4 u5 ss fs S := by
  have h1 := h.l1
  have h2 := h.l2
  have h3 := h.l3
  exact ⟨hd, (hg.block gd (lt_heap h.hd) (by simp; omega)).trans h.hd, (hg.block gs (lt_heap h.hs) (by simp; omega)).trans h.hs, (hg.block _ (lt_heap h.hr1) (by simp; omega)).trans h.hr1, (hg.block _ (lt_heap h.hr2) (by simp; omega)).trans h.hr2, own_kept h.o1 (by omega) hg, own_kept h.o2 (by omega) hg, h.os.keptB (by omega) hg, grown_trans h.gr hg, h1, h2, h3, h.len, h.sh, h.sm, h.ap⟩
theorem MdS.below {w W W' : World} {b gd gs n : Nat} {V u1 u2 u3 u4 u5 : Value} {ss : List ByteArray} {fs : List Pr} {S : St} (h : MdS w W b gd gs n V u1 u2 u3 u4 u5 ss fs S) (hg : Below W.heap.size W W') : MdS w W' b gd gs n V u1 u2 u3 u4 u5 ss fs S := h.call (h.dr.below hg) (grown_below hg)
theorem MdS.alloc {w W : World} {b gd gs n : Nat} {V u1 u2 u3 u4 u5 : Value} {ss : List ByteArray} {fs : List Pr} {S : St} (h : MdS w W b gd gs n V u1 u2 u3 u4 u5 ss fs S) (o : Obj) : MdS w (W.alloc o) b gd gs n V u1 u2 u3 u4 u5 ss fs S := h.below ((Below.refl _ _).alloc (Nat.le_refl _) o)
theorem MdS.cells {w W : World} {b gd gs n : Nat} {V u1 u2 u3 u4 u5 : Value} {ss : List ByteArray} {fs : List Pr} {S : St} (h : MdS w W b gd gs n V u1 u2 u3 u4 u5 ss fs S) :
    (W.cell? ⟨gd, 0, none⟩ = some u1 ∧ W.cell? ⟨gd, 1, none⟩ = some u2) ∧ (W.cell? ⟨gs, 0, none⟩ = some (.int .i64 S.status) ∧ W.cell? ⟨gs, 1, none⟩ = some (.int .i64 S.begun) ∧ W.cell? ⟨gs, 2, none⟩ = some (.int .i64 S.last) ∧ W.cell? ⟨gs, 3, none⟩ = some u3 ∧ W.cell? ⟨gs, 4, none⟩ = some u4 ∧ W.cell? ⟨gs, 5, none⟩ = some u5 ∧ W.cell? ⟨gs, 6, none⟩ = some (.int .i64 S.faults)) ∧ ∀ j, W.frozen? ⟨gs, j, none⟩ = false :=
  ⟨⟨by rw [Lib.cell_of_heap h.hd]; rfl, by rw [Lib.cell_of_heap h.hd]; rfl⟩, ⟨by rw [Lib.cell_of_heap h.hs]; rfl, by rw [Lib.cell_of_heap h.hs]; rfl, by rw [Lib.cell_of_heap h.hs]; rfl, by rw [Lib.cell_of_heap h.hs]; rfl, by rw [Lib.cell_of_heap h.hs]; rfl, by rw [Lib.cell_of_heap h.hs]; rfl, by rw [Lib.cell_of_heap h.hs]; rfl⟩, fun j => Lib.frozen_of_heap h.hs j⟩
/-- The State's block turns: all its cells, its rows. -/
theorem MdS.turn {w W W' : World} {b gd gs n : Nat} {V u1 u2 u3 u4 u5 v3 v4 v5 : Value} {ss : List ByteArray} {fs : List Pr} {S S' : St} (h : MdS w W b gd gs n V u1 u2 u3 u4 u5 ss fs S) (hgd : gd ≠ gs) {p : Nat → Prop} (hc : Chg p W W') (hp : ∀ k, p k → k = gs ∨ u3.ownBlock = some k ∨ u4.ownBlock = some k) (hs : W'.heap[gs]? = some (.cells (stLs v3 v4 v5 S').toArray 29 (0, 0))) (ho : StOwn W' (w.heap.size + 2) v3 v4 v5 S') (sm : SmS S') (ap : Apart u1 v3 ∧ Apart u1 v4) : MdS w W' b gd gs n V u1 u2 v3 v4 v5 ss fs S' := by
  have h1 := h.l1
  have h2 := h.l2
  have h3 := h.l3
  have far : ∀ k, p k → w.heap.size + 1 < k := fun k hk => by
    rcases hp k hk with e | e | e
    · omega
    · have := (own_lt h.os.o3 k e).1; omega
    · have := (own_lt h.os.o4 k e).1; omega
  refine ⟨h.dr.chg hc (fun k hk => by have := far k hk; omega), (hc.block gd (lt_heap h.hd) (fun e => ?_)).trans h.hd, hs, (hc.block _ (lt_heap h.hr1) (fun e => by have := far _ e; omega)).trans h.hr1, (hc.block _ (lt_heap h.hr2) (fun e => by have := far _ e; omega)).trans h.hr2, own_chg h.o1 hc (fun g hg e => ?_), own_chg h.o2 hc (fun g hg e => ?_), ho, grown_chg h.gr hc (fun k hk => by have := far k hk; omega), h1, h2, h3, h.len, h.sh, sm, ap⟩
  · rcases hp _ e with e | e | e
    · exact hgd e
    · exact own_ne h.os.o3 h.hd (by decide) gd e rfl
    · exact own_ne h.os.o4 h.hd (by decide) gd e rfl
  · rcases hp _ e with e | e | e
    · subst e; exact own_ne h.o1 h.hs (by decide) g hg rfl
    · exact h.ap.1 g hg e
    · exact h.ap.2 g hg e
  · rcases hp _ e with e | e | e
    · subst e; exact own_ne h.o2 h.hs (by decide) g hg rfl
    · exact apart_ty h.o2 h.os.o3 (by decide) g hg e
    · exact apart_ty h.o2 h.os.o4 (by decide) g hg e
/-- A number of it is set. -/
theorem MdS.setS {w W : World} {b gd gs n i : Nat} {V u1 u2 u3 u4 u5 : Value} {ss : List ByteArray} {fs : List Pr} {S : St} (h : MdS w W b gd gs n V u1 u2 u3 u4 u5 ss fs S) (hgd : gd ≠ gs) (v : Value) (S' : St) (he : (stLs u3 u4 u5 S).set i v = stLs u3 u4 u5 S') (hw : S'.wait = S.wait) (hb : S'.busy = S.busy) (hv : S'.vars = S.vars) (sm : SmS S') : MdS w (W.setCell ⟨gs, i, none⟩ v) b gd gs n V u1 u2 u3 u4 u5 ss fs S' := by
  have hc : Chg (fun j => j = gs) W (W.setCell ⟨gs, i, none⟩ v) := (Chg.refl _ _).seq i v
  exact h.turn hgd hc (fun k hk => .inl hk) (by rw [← he]; exact blk_set h.hs v) ((h.os.turn hc h.hs (by decide) (by decide)).same hw hb hv) sm h.ap
/-- All of it is set. -/
theorem MdS.putS {w W : World} {b gd gs n : Nat} {V u1 u2 u3 u4 u5 v3 v4 v5 : Value} {ss : List ByteArray} {fs : List Pr} {S S' : St} (h : MdS w W b gd gs n V u1 u2 u3 u4 u5 ss fs S) (hgd : gd ≠ gs) (ho : StOwn W (w.heap.size + 2) v3 v4 v5 S') (sm : SmS S') (ap : Apart u1 v3 ∧ Apart u1 v4) :
    MdS w (((((((W.setCell ⟨gs, 0, none⟩ (.int .i64 S'.status)).setCell ⟨gs, 1, none⟩ (.int .i64 S'.begun)).setCell ⟨gs, 2, none⟩ (.int .i64 S'.last)).setCell ⟨gs, 3, none⟩ v3).setCell ⟨gs, 4, none⟩ v4).setCell ⟨gs, 5, none⟩ v5).setCell ⟨gs, 6, none⟩ (.int .i64 S'.faults)) b gd gs n V u1 u2 v3 v4 v5 ss fs S' := by
  have hc : Chg (fun j => j = gs) W (((((((W.setCell ⟨gs, 0, none⟩ (.int .i64 S'.status)).setCell ⟨gs, 1, none⟩ (.int .i64 S'.begun)).setCell ⟨gs, 2, none⟩ (.int .i64 S'.last)).setCell ⟨gs, 3, none⟩ v3).setCell ⟨gs, 4, none⟩ v4).setCell ⟨gs, 5, none⟩ v5).setCell ⟨gs, 6, none⟩ (.int .i64 S'.faults)) :=
    (((((((Chg.refl _ _).seq _ _).seq _ _).seq _ _).seq _ _).seq _ _).seq _ _).seq _ _
  exact h.turn hgd hc (fun k hk => .inl hk) (blk_set (blk_set (blk_set (blk_set (blk_set (blk_set (blk_set h.hs _) _) _) _) _) _) _) (ho.turn hc h.hs (by decide) (by decide)) sm ap
/-- One more text behind those that wait. -/
theorem MdS.app3 {w W W' : World} {b gd gs n g k : Nat} {V u1 u2 u3 u4 u5 : Value} {ss : List ByteArray} {fs : List Pr} {S : St} (h : MdS w W b gd gs n V u1 u2 u3 u4 u5 ss fs S) (hgd : gd ≠ gs) (x : ByteArray) (ho : W'.ownsRow (w.heap.size + 2) 9 1 (.slice (some ⟨g, 0, none⟩) (S.wait.length + 1) k) (S.wait.length + 1) (S.wait.map Value.string ++ [Value.string x])) (hg : W.grownBy W' u3.ownBlock) (hat : u3.ownBlock = some g ∨ g = W.heap.size) (sm : SmS { S with wait := S.wait ++ [x] }) :
    MdS w (W'.setCell ⟨gs, 3, none⟩ (.slice (some ⟨g, 0, none⟩) (S.wait.length + 1) k)) b gd gs n V u1 u2 (.slice (some ⟨g, 0, none⟩) (S.wait.length + 1) k) u4 u5 ss fs { S with wait := S.wait ++ [x] } := by
  have hc0 : Chg (fun j => j = gs ∨ u3.ownBlock = some j) W W' := ⟨hg.os, hg.tape, hg.output, hg.size, fun j hj hp => hg.block j hj (fun e => hp (.inr e.symm))⟩
  have hs0 := (hg.block gs (lt_heap h.hs) (fun e => own_ne h.os.o3 h.hs (by decide) gs e.symm rfl)).trans h.hs
  have hc1 : Chg (fun j => j = gs) W' (W'.setCell ⟨gs, 3, none⟩ (.slice (some ⟨g, 0, none⟩) (S.wait.length + 1) k)) := (Chg.refl _ _).seq _ _
  have far : ∀ (v : Value) (j : Nat), (∀ q, v.ownBlock = some q → q < W.heap.size) → (∀ q, v.ownBlock = some q → u3.ownBlock ≠ some q) → v.ownBlock = some j → j ≠ g := fun v j h1 h2 hj e => by
    subst e
    rcases hat with e | e
    · exact h2 _ hj e
    · have := h1 _ hj; omega
  have o4 := own_chg h.os.o4 (Chg.mono (q := fun j => u3.ownBlock = some j) ⟨hg.os, hg.tape, hg.output, hg.size, fun j hj hp => hg.block j hj (fun e => hp e.symm)⟩ (fun _ e => e)) (fun q hq e => h.os.a34 q e hq)
  have o5 := own_chg h.os.o5 (Chg.mono (q := fun j => u3.ownBlock = some j) ⟨hg.os, hg.tape, hg.output, hg.size, fun j hj hp => hg.block j hj (fun e => hp e.symm)⟩ (fun _ e => e)) (fun q hq e => apart_ty h.os.o5 h.os.o3 (by decide) q hq e)
  refine h.turn hgd (p := fun j => j = gs ∨ u3.ownBlock = some j) (hc0.trans (hc1.mono fun _ e => .inl e)) (fun j hj => hj.elim .inl fun e => .inr (.inl e)) (by
    have := blk_set (i := 3) hs0 (.slice (some ⟨g, 0, none⟩) (S.wait.length + 1) k)
    simpa [stLs] using this) ⟨?_, own_chg o4 hc1 (own_ne o4 hs0 (by decide)), own_chg o5 hc1 (own_ne o5 hs0 (by decide)), fun q hq e => ?_⟩ sm ⟨fun q hq e => ?_, h.ap.2⟩
  · have := own_chg ho hc1 (own_ne ho hs0 (by decide))
    simpa using this
  · injection hq with hq
    exact far u4 q (fun q hq => (own_lt h.os.o4 q hq).2) (fun q hq e => h.os.a34 q e hq) e hq.symm
  · injection e with e
    exact far u1 q (fun q hq => (own_lt h.o1 q hq).2) (fun q hq e => h.ap.1 q hq e) hq e.symm
/-- One more text behind those that are busy. -/
theorem MdS.app4 {w W W' : World} {b gd gs n g k : Nat} {V u1 u2 u3 u4 u5 : Value} {ss : List ByteArray} {fs : List Pr} {S : St} (h : MdS w W b gd gs n V u1 u2 u3 u4 u5 ss fs S) (hgd : gd ≠ gs) (x : ByteArray) (ho : W'.ownsRow (w.heap.size + 2) 9 1 (.slice (some ⟨g, 0, none⟩) (S.busy.length + 1) k) (S.busy.length + 1) (S.busy.map Value.string ++ [Value.string x])) (hg : W.grownBy W' u4.ownBlock) (hat : u4.ownBlock = some g ∨ g = W.heap.size) (sm : SmS { S with busy := S.busy ++ [x] }) :
    MdS w (W'.setCell ⟨gs, 4, none⟩ (.slice (some ⟨g, 0, none⟩) (S.busy.length + 1) k)) b gd gs n V u1 u2 u3 (.slice (some ⟨g, 0, none⟩) (S.busy.length + 1) k) u5 ss fs { S with busy := S.busy ++ [x] } := by
  have hc0 : Chg (fun j => j = gs ∨ u4.ownBlock = some j) W W' := ⟨hg.os, hg.tape, hg.output, hg.size, fun j hj hp => hg.block j hj (fun e => hp (.inr e.symm))⟩
  have hs0 := (hg.block gs (lt_heap h.hs) (fun e => own_ne h.os.o4 h.hs (by decide) gs e.symm rfl)).trans h.hs
  have hc1 : Chg (fun j => j = gs) W' (W'.setCell ⟨gs, 4, none⟩ (.slice (some ⟨g, 0, none⟩) (S.busy.length + 1) k)) := (Chg.refl _ _).seq _ _
  have far : ∀ (v : Value) (j : Nat), (∀ q, v.ownBlock = some q → q < W.heap.size) → (∀ q, v.ownBlock = some q → u4.ownBlock ≠ some q) → v.ownBlock = some j → j ≠ g := fun v j h1 h2 hj e => by
    subst e
    rcases hat with e | e
    · exact h2 _ hj e
    · have := h1 _ hj; omega
  have o3 := own_chg h.os.o3 (Chg.mono (q := fun j => u4.ownBlock = some j) ⟨hg.os, hg.tape, hg.output, hg.size, fun j hj hp => hg.block j hj (fun e => hp e.symm)⟩ (fun _ e => e)) (fun q hq e => h.os.a34 q hq e)
  have o5 := own_chg h.os.o5 (Chg.mono (q := fun j => u4.ownBlock = some j) ⟨hg.os, hg.tape, hg.output, hg.size, fun j hj hp => hg.block j hj (fun e => hp e.symm)⟩ (fun _ e => e)) (fun q hq e => apart_ty h.os.o5 h.os.o4 (by decide) q hq e)
  refine h.turn hgd (p := fun j => j = gs ∨ u4.ownBlock = some j) (hc0.trans (hc1.mono fun _ e => .inl e)) (fun j hj => hj.elim .inl fun e => .inr (.inr e)) (by
    have := blk_set (i := 4) hs0 (.slice (some ⟨g, 0, none⟩) (S.busy.length + 1) k)
    simpa [stLs] using this) ⟨own_chg o3 hc1 (own_ne o3 hs0 (by decide)), ?_, own_chg o5 hc1 (own_ne o5 hs0 (by decide)), fun q hq e => ?_⟩ sm ⟨h.ap.1, fun q hq e => ?_⟩
  · have := own_chg ho hc1 (own_ne ho hs0 (by decide))
    simpa using this
  · injection e with e
    exact far u3 q (fun q hq => (own_lt h.os.o3 q hq).2) (fun q hq e => h.os.a34 q hq e) hq e.symm
  · injection e with e
    exact far u1 q (fun q hq => (own_lt h.o1 q hq).2) (fun q hq e => h.ap.2 q hq e) hq e.symm
/-- Ahead of its first event. -/
theorem MdS.start {w W1 : World} {b n : Nat} {V u1 u2 : Value} {ss : List ByteArray} {fs : List Pr} (hb : b < w.heap.size) (h : DfDr ((w.alloc (.cells [.slice none 0 0, .slice none 0 0].toArray 26)).alloc (.cells [.int .i64 0, .int .i64 0, .int .i64 0, .slice none 0 0, .slice none 0 0, .slice none 0 0, .int .i64 0].toArray 29)) W1 b n V u1 u2 ss fs) :
    MdS w ((W1.alloc (.cells [u1, u2].toArray 26)).alloc (.cells [.int .i64 0, .int .i64 0, .int .i64 0, .slice none 0 0, .slice none 0 0, .slice none 0 0, .int .i64 0].toArray 29)) b W1.heap.size (W1.heap.size + 1) n V u1 u2 (.slice none 0 0) (.slice none 0 0) (.slice none 0 0) ss fs z0 := by
  have z0' : ((w.alloc (.cells [.slice none 0 0, .slice none 0 0].toArray 26)).alloc (.cells [.int .i64 0, .int .i64 0, .int .i64 0, .slice none 0 0, .slice none 0 0, .slice none 0 0, .int .i64 0].toArray 29)).heap.size = w.heap.size + 2 := by simp
  have r1 := (Below.heap_alloc (w.alloc (.cells [.slice none 0 0, .slice none 0 0].toArray 26)) (.cells [.int .i64 0, .int .i64 0, .int .i64 0, .slice none 0 0, .slice none 0 0, .slice none 0 0, .int .i64 0].toArray 29) w.heap.size (by simp)).trans (heap_alloc_new w _)
  have r2 := heap_alloc_new (w.alloc (.cells [.slice none 0 0, .slice none 0 0].toArray 26)) (.cells [.int .i64 0, .int .i64 0, .int .i64 0, .slice none 0 0, .slice none 0 0, .slice none 0 0, .int .i64 0].toArray 29)
  rw [show (w.alloc (.cells [.slice none 0 0, .slice none 0 0].toArray 26)).heap.size = w.heap.size + 1 by simp] at r2
  have g0 : w.grownBy ((w.alloc (.cells [.slice none 0 0, .slice none 0 0].toArray 26)).alloc (.cells [.int .i64 0, .int .i64 0, .int .i64 0, .slice none 0 0, .slice none 0 0, .slice none 0 0, .int .i64 0].toArray 29)) (some b) := grown_trans (World.grownBy_alloc _ _ _) (World.grownBy_alloc _ _ _)
  generalize (w.alloc (.cells [.slice none 0 0, .slice none 0 0].toArray 26)).alloc (.cells [.int .i64 0, .int .i64 0, .int .i64 0, .slice none 0 0, .slice none 0 0, .slice none 0 0, .int .i64 0].toArray 29) = W0 at *
  have hsz := h.gr.size
  have r1' := (h.gr.block _ (lt_heap r1) (by simp; omega)).trans r1
  have r2' := (h.gr.block _ (lt_heap r2) (by simp; omega)).trans r2
  have hB : Below W1.heap.size W1 ((W1.alloc (.cells [u1, u2].toArray 26)).alloc (.cells [.int .i64 0, .int .i64 0, .int .i64 0, .slice none 0 0, .slice none 0 0, .slice none 0 0, .int .i64 0].toArray 29)) := ((Below.refl _ _).alloc (Nat.le_refl _) _).alloc (by simp) _
  have q2 := heap_alloc_new (W1.alloc (.cells [u1, u2].toArray 26)) (.cells [.int .i64 0, .int .i64 0, .int .i64 0, .slice none 0 0, .slice none 0 0, .slice none 0 0, .int .i64 0].toArray 29)
  rw [show (W1.alloc (.cells [u1, u2].toArray 26)).heap.size = W1.heap.size + 1 by simp] at q2
  exact ⟨h.dr.below hB, (Below.heap_alloc _ _ _ (by simp)).trans (heap_alloc_new W1 _), q2, (hB.block _ (lt_heap r1')).trans r1', (hB.block _ (lt_heap r2')).trans r2', ownB_stay (ownB_le h.o1 (by omega)) hB, ownB_stay (ownB_le h.o2 (by omega)) hB, StOwn.none _ _, grown_trans g0 (grown_trans h.gr (grown_below hB)), hb, by omega, by omega, h.len, h.sh, smS_of h.sh (.inl ⟨rfl, by constructor <;> rfl⟩), ⟨fun g _ e => (by cases e), fun g _ e => (by cases e)⟩⟩
/-- What a Def and a State that were drawn are. -/
structure StDr (w W : World) (b n : Nat) (V u1 u2 u3 u4 u5 : Value) (ss : List ByteArray) (fs : List Pr) (S : St) : Prop where
  dr : Drw W b V n
  o1 : W.ownsRow w.heap.size 9 1 u1 ss.length (ss.map Value.string)
  o2 : W.ownsRow w.heap.size 41 2 u2 fs.length (fs.flatMap Pr.cells)
  os : StOwn W w.heap.size u3 u4 u5 S
  gr : w.grownBy W (some b)
  len : ss.length ≤ 5 ∧ fs.length ≤ 10
  sh : ShD ss fs
  sm : SmS S
theorem MdS.fin {w W W' : World} {b gd gs n : Nat} {V u1 u2 u3 u4 u5 : Value} {ss : List ByteArray} {fs : List Pr} {S : St} (h : MdS w W b gd gs n V u1 u2 u3 u4 u5 ss fs S) (hc : Chg (fun k => k = w.heap.size ∨ k = w.heap.size + 1) W W') : StDr w W' b n V u1 u2 u3 u4 u5 ss fs S := by
  have far : ∀ k, (k = w.heap.size ∨ k = w.heap.size + 1) → ¬ w.heap.size + 2 ≤ k := fun k hk => by omega
  exact ⟨h.dr.chg hc (fun k hk => by have := h.l1; omega), ownB_le (own_chg h.o1 hc (fun g hg e => far g e (own_lt h.o1 g hg).1)) (by omega), ownB_le (own_chg h.o2 hc (fun g hg e => far g e (own_lt h.o2 g hg).1)) (by omega), (h.os.chg hc (fun j hj e => far j e hj)).le (by omega), grown_chg h.gr hc (fun k hk => by omega), h.len, h.sh, h.sm⟩
/-- The end: both laid into the answer's blocks. -/
theorem MdS.ends {w W : World} {b gd gs n : Nat} {V u1 u2 u3 u4 u5 : Value} {ss : List ByteArray} {fs : List Pr} {S : St} (h : MdS w W b gd gs n V u1 u2 u3 u4 u5 ss fs S) (WF : World) (hWF : (((((((((W.setCell ⟨w.heap.size, 0, none⟩ u1).setCell ⟨w.heap.size, 1, none⟩ u2).setCell ⟨w.heap.size + 1, 0, none⟩ (.int .i64 S.status)).setCell ⟨w.heap.size + 1, 1, none⟩ (.int .i64 S.begun)).setCell ⟨w.heap.size + 1, 2, none⟩ (.int .i64 S.last)).setCell ⟨w.heap.size + 1, 3, none⟩ u3).setCell ⟨w.heap.size + 1, 4, none⟩ u4).setCell ⟨w.heap.size + 1, 5, none⟩ u5).setCell ⟨w.heap.size + 1, 6, none⟩ (.int .i64 S.faults)).drew = WF) :
    StDr w WF b n V u1 u2 u3 u4 u5 ss fs S ∧ (WF.cell? ⟨w.heap.size, 0, none⟩ = some u1 ∧ WF.cell? ⟨w.heap.size, 1, none⟩ = some u2) ∧ WF.cell? ⟨w.heap.size + 1, 0, none⟩ = some (.int .i64 S.status) ∧ WF.cell? ⟨w.heap.size + 1, 1, none⟩ = some (.int .i64 S.begun) ∧ WF.cell? ⟨w.heap.size + 1, 2, none⟩ = some (.int .i64 S.last) ∧ WF.cell? ⟨w.heap.size + 1, 3, none⟩ = some u3 ∧ WF.cell? ⟨w.heap.size + 1, 4, none⟩ = some u4 ∧ WF.cell? ⟨w.heap.size + 1, 5, none⟩ = some u5 ∧ WF.cell? ⟨w.heap.size + 1, 6, none⟩ = some (.int .i64 S.faults) := by
  have hcA : Chg (fun j => j = w.heap.size) W ((W.setCell ⟨w.heap.size, 0, none⟩ u1).setCell ⟨w.heap.size, 1, none⟩ u2) := ((Chg.refl _ _).seq _ _).seq _ _
  have hcB : Chg (fun j => j = w.heap.size + 1) ((W.setCell ⟨w.heap.size, 0, none⟩ u1).setCell ⟨w.heap.size, 1, none⟩ u2) (((((((((W.setCell ⟨w.heap.size, 0, none⟩ u1).setCell ⟨w.heap.size, 1, none⟩ u2).setCell ⟨w.heap.size + 1, 0, none⟩ (.int .i64 S.status)).setCell ⟨w.heap.size + 1, 1, none⟩ (.int .i64 S.begun)).setCell ⟨w.heap.size + 1, 2, none⟩ (.int .i64 S.last)).setCell ⟨w.heap.size + 1, 3, none⟩ u3).setCell ⟨w.heap.size + 1, 4, none⟩ u4).setCell ⟨w.heap.size + 1, 5, none⟩ u5).setCell ⟨w.heap.size + 1, 6, none⟩ (.int .i64 S.faults)) := (((((((Chg.refl _ _).seq _ _).seq _ _).seq _ _).seq _ _).seq _ _).seq _ _).seq _ _
  have r1 := blk_set (i := 1) (blk_set (L := [_, _]) (i := 0) h.hr1 u1) u2
  have r1' := (hcB.block _ (lt_heap r1) (by omega)).trans r1
  have r2 := (hcA.block _ (lt_heap h.hr2) (by omega)).trans h.hr2
  have r2' := blk_set (blk_set (blk_set (blk_set (blk_set (blk_set (blk_set (L := [_, _, _, _, _, _, _]) (i := 0) r2 (.int .i64 S.status)) (i := 1) (.int .i64 S.begun)) (i := 2) (.int .i64 S.last)) (i := 3) u3) (i := 4) u4) (i := 5) u5) (i := 6) (.int .i64 S.faults)
  have hcC := (hcA.mono (q := fun k => k = w.heap.size ∨ k = w.heap.size + 1) fun _ e => .inl e).trans (hcB.mono fun _ e => .inr e)
  generalize (((((((((W.setCell ⟨w.heap.size, 0, none⟩ u1).setCell ⟨w.heap.size, 1, none⟩ u2).setCell ⟨w.heap.size + 1, 0, none⟩ (.int .i64 S.status)).setCell ⟨w.heap.size + 1, 1, none⟩ (.int .i64 S.begun)).setCell ⟨w.heap.size + 1, 2, none⟩ (.int .i64 S.last)).setCell ⟨w.heap.size + 1, 3, none⟩ u3).setCell ⟨w.heap.size + 1, 4, none⟩ u4).setCell ⟨w.heap.size + 1, 5, none⟩ u5).setCell ⟨w.heap.size + 1, 6, none⟩ (.int .i64 S.faults)) = X at *
  subst hWF
  have q1 : X.drew.heap[w.heap.size]? = some (.cells [u1, u2].toArray 26 (0, 0)) := r1'
  have q2 : X.drew.heap[w.heap.size + 1]? = some (.cells (stLs u3 u4 u5 S).toArray 29 (0, 0)) := r2'
  refine ⟨h.fin hcC.drew, ⟨by rw [Lib.cell_of_heap q1]; rfl, by rw [Lib.cell_of_heap q1]; rfl⟩, by rw [Lib.cell_of_heap q2]; rfl, by rw [Lib.cell_of_heap q2]; rfl, by rw [Lib.cell_of_heap q2]; rfl, by rw [Lib.cell_of_heap q2]; rfl, by rw [Lib.cell_of_heap q2]; rfl, by rw [Lib.cell_of_heap q2]; rfl, by rw [Lib.cell_of_heap q2]; rfl⟩
end Go.Proofs.YtdggmeblnbabbaaGreatDoor
