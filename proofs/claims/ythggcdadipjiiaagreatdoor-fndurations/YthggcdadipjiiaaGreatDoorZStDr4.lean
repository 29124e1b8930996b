/-
  Texts put together: StDr, DrEvM, DrNxM, SrcP.
-/
import Derived.Test.YthggcdadipjiiaaGreatDoorZDuL6
import Derived.Test.YthggcdadipjiiaaGreatDoorZRiseM4
import Derived.Test.YthggcdadipjiiaaGreatDoorZSpStA5
import Derived.Deep.AppendLies
import Derived.Test.YthggcdadipjiiaaGreatDoorZNm4
import Derived.Test.YthggcdadipjiiaaGreatDoorZSpRun6
import Derived.Test.YthggcdadipjiiaaGreatDoorZStrs3
import Derived.Test.YthggcdadipjiiaaGreatDoorZSpSet24
import Derived.Deep.Cut
/-
  Draws: a Def and a State amid their draw: the source, both in their boxes, their rows; the answer's own blocks. Of no function.
-/
namespace Go.Proofs.YthggcdadipjiiaaGreatDoor
open Go.RowKit Go.Sort

theorem Chg.set {p : Nat → Prop} {w w' : World} (h : Chg p w w') {g : Nat} (hp : p g) (i : Nat) (v : Value) : Chg p w (w'.setCell ⟨g, i, none⟩ v) := h.trans (Chg.of_grown (grown_set w' g i v) hp)
theorem Chg.seq {w w' : World} {g : Nat} (h : Chg (fun j => j = g) w w') (i : Nat) (v : Value) : Chg (fun j => j = g) w (w'.setCell ⟨g, i, none⟩ v) := h.set (p := fun j => j = g) rfl i v
theorem Chg.drew {p : Nat → Prop} {w w' : World} (h : Chg p w w') : Chg p w w'.drew := h.trans (Chg.of_below ((Below.refl _ _).drew))
/-- Small texts and counts of a State. -/
structure SmS (S : St) : Prop where
  w : S.wait.length ≤ 60
  b : S.busy.length ≤ 60
  v : S.vars.length ≤ 60
  sw : ∀ s ∈ S.wait, s.size ≤ 100
  sb : ∀ s ∈ S.busy, s.size ≤ 100
  sv : ∀ f ∈ S.vars, f.fst.size ≤ 100 ∧ f.snd.size ≤ 100
  l : -10 ≤ S.last ∧ S.last ≤ 10000000
  g : -10 ≤ S.begun ∧ S.begun ≤ 10000000
theorem nr_small {s : ByteArray} (h : nrB s = true) : s.size ≤ 100 := by
  unfold nrB at h; simp only [Bool.and_eq_true, decide_eq_true_eq] at h; have := h.2.1; omega
theorem nil_small {α : Type} {l : List α} (h : l.length = 0) {P : α → Prop} : ∀ s ∈ l, P s := by
  intro s hs
  rw [List.eq_nil_of_length_eq_zero h] at hs; cases hs
theorem smS_beg {ss : List ByteArray} {fs : List Pr} {S : St} (hs : ShD ss fs) (h : BegP ss S) : SmS S := by
  have h1 := tim_iff.1 h.t1
  have h2 := tim_iff.1 h.t2
  refine ⟨by have := h.m; omega, by have := h.m; omega, by have := h.v.n; omega, fun s k => ?_, fun s k => ?_, fun f k => ?_, by omega, by omega⟩
  · have := hs.1 s (h.w.all s k); omega
  · have := hs.1 s (h.b.all s k); omega
  · obtain ⟨i, hi, rfl⟩ := List.mem_iff_getElem.1 k
    have := h.v.nm i hi
    exact ⟨nr_small this.1, by omega⟩
theorem smS_of {ss : List ByteArray} {fs : List Pr} {S : St} (hs : ShD ss fs) (h : StP ss S) : SmS S := by
  rcases h with ⟨_, h⟩ | ⟨_, h⟩ | ⟨_, _, h⟩
  · exact ⟨by have := h.w; omega, by have := h.b; omega, by have := h.v0; omega, nil_small h.w, nil_small h.b, nil_small h.v0, by have := h.l0; omega, by have := h.b0; omega⟩
  · exact smS_beg hs h
  · exact smS_beg hs h
def stLs (u3 u4 u5 : Value) (S : St) : List Value := [.int .i64 S.status, .int .i64 S.begun, .int .i64 S.last, u3, u4, u5, .int .i64 S.faults]
/-- A State's rows where one block turns. -/
theorem StOwn.keptB {w w' : World} {lo b : Nat} {v3 v4 v5 : Value} {S : St} (h : StOwn w lo v3 v4 v5 S) (hb : b < lo) (hg : w.grownBy w' (some b)) : StOwn w' lo v3 v4 v5 S := ⟨own_kept h.o3 hb hg, own_kept h.o4 hb hg, own_kept h.o5 hb hg, h.a34⟩
theorem StOwn.same {w : World} {lo : Nat} {v3 v4 v5 : Value} {S S' : St} (h : StOwn w lo v3 v4 v5 S) (hw : S'.wait = S.wait) (hb : S'.busy = S.busy) (hv : S'.vars = S.vars) : StOwn w lo v3 v4 v5 S' := ⟨by rw [hw]; exact h.o3, by rw [hb]; exact h.o4, by rw [hv]; exact h.o5, h.a34⟩
structure MdS (w W : World) (b gd gs n : Nat) (V u1 u2 u3 u4 u5 : Value) (ss : List ByteArray) (fs : List Pr) (S : St) : Prop where
  dr : Drw W b V n
  hd : W.heap[gd]? = some (.cells [u1, u2].toArray 26 (0, 0))
  hs : W.heap[gs]? = some (.cells (stLs u3 u4 u5 S).toArray 91 (0, 0))
  hr1 : W.heap[w.heap.size]? = some (.cells [.slice none 0 0, .slice none 0 0].toArray 26 (0, 0))
  hr2 : W.heap[w.heap.size + 1]? = some (.cells [.int .i64 0, .int .i64 0, .int .i64 0, .slice none 0 0, .slice none 0 0, .slice none 0 0, .int .i64 0].toArray 91 (0, 0))
  o1 : W.ownsRow (w.heap.size + 2) 9 1 u1 ss.length (ss.map Value.string)
  o2 : W.ownsRow (w.heap.size + 2) 116 2 u2 fs.length (fs.flatMap Pr.cells)
  os : StOwn W (w.heap.size + 2) u3 u4 u5 S
  gr : w.grownBy W (some b)
  l1 : b < w.heap.size
  l2 : w.heap.size + 1 < gd
  l3 : w.heap.size + 1 < gs
  len : ss.length ≤ 5 ∧ fs.length ≤ 10
  sh : ShD ss fs
  sm : SmS S
  ap : Apart u1 u3 ∧ Apart u1 u4
theorem MdS.call {w W W' : World} {b gd gs n : Nat} {V u1 u2 u3 u4 u5 : Value} {ss : List ByteArray} {fs : List Pr} {S : St} (h : MdS w W b gd gs n V u1 u2 u3 u4 u5 ss fs S) (hd : Drw W' b V n) (hg : W.grownBy W' (some b)) : MdS w W' b gd gs n V u1 u2 u3 u4 u5 ss fs S := by
  have h1 := h.l1
  have h2 := h.l2
  have h3 := h.l3
  exact ⟨hd, (hg.block gd (lt_heap h.hd) (by simp; omega)).trans h.hd, (hg.block gs (lt_heap h.hs) (by simp; omega)).trans h.hs, (hg.block _ (lt_heap h.hr1) (by simp; omega)).trans h.hr1, (hg.block _ (lt_heap h.hr2) (by simp; omega)).trans h.hr2, own_kept h.o1 (by omega) hg, own_kept h.o2 (by omega) hg, h.os.keptB (by omega) hg, grown_trans h.gr hg, h1, h2, h3, h.len, h.sh, h.sm, h.ap⟩
theorem MdS.below {w W W' : World} {b gd gs n : Nat} {V u1 u2 u3 u4 u5 : Value} {ss : List ByteArray} {fs : List Pr} {S : St} (h : MdS w W b gd gs n V u1 u2 u3 u4 u5 ss fs S) (hg : Below W.heap.size W W') : MdS w W' b gd gs n V u1 u2 u3 u4 u5 ss fs S := h.call (h.dr.below hg) (grown_below hg)
theorem MdS.alloc {w W : World} {b gd gs n : Nat} {V u1 u2 u3 u4 u5 : Value} {ss : List ByteArray} {fs : List Pr} {S : St} (h : MdS w W b gd gs n V u1 u2 u3 u4 u5 ss fs S) (o : Obj) : MdS w (W.alloc o) b gd gs n V u1 u2 u3 u4 u5 ss fs S := h.below ((Below.refl _ _).alloc (Nat.le_refl _) o)
theorem MdS.cells {w W : World} {b gd gs n : Nat} {V u1 u2 u3 u4 u5 : Value} {ss : List ByteArray} {fs : List Pr} {S : St} (h : MdS w W b gd gs n V u1 u2 u3 u4 u5 ss fs S) :
    (W.cell? ⟨gd, 0, none⟩ = some u1 ∧ W.cell? ⟨gd, 1, none⟩ = some u2) ∧ (W.cell? ⟨gs, 0, none⟩ = some (.int .i64 S.status) ∧ W.cell? ⟨gs, 1, none⟩ = some (.int .i64 S.begun) ∧ W.cell? ⟨gs, 2, none⟩ = some (.int .i64 S.last) ∧ W.cell? ⟨gs, 3, none⟩ = some u3 ∧ W.cell? ⟨gs, 4, none⟩ = some u4 ∧ W.cell? ⟨gs, 5, none⟩ = some u5 ∧ W.cell? ⟨gs, 6, none⟩ = some (.int .i64 S.faults)) ∧ ∀ j, W.frozen? ⟨gs, j, none⟩ = false :=
  ⟨⟨by rw [Lib.cell_of_heap h.hd]; rfl, by rw [Lib.cell_of_heap h.hd]; rfl⟩, ⟨by rw [Lib.cell_of_heap h.hs]; rfl, by rw [Lib.cell_of_heap h.hs]; rfl, by rw [Lib.cell_of_heap h.hs]; rfl, by rw [Lib.cell_of_heap h.hs]; rfl, by rw [Lib.cell_of_heap h.hs]; rfl, by rw [Lib.cell_of_heap h.hs]; rfl, by rw [Lib.cell_of_heap h.hs]; rfl⟩, fun j => Lib.frozen_of_heap h.hs j⟩
/-- The State's block turns: all its cells, its rows. -/
theorem MdS.turn {w W W' : World} {b gd gs n : Nat} {V u1 u2 u3 u4 u5 v3 v4 v5 : Value} {ss : List ByteArray} {fs : List Pr} {S S' : St} (h : MdS w W b gd gs n V u1 u2 u3 u4 u5 ss fs S) (hgd : gd ≠ gs) {p : Nat → Prop} (hc : Chg p W W') (hp : ∀ k, p k → k = gs ∨ u3.ownBlock = some k ∨ u4.ownBlock = some k) (hs : W'.heap[gs]? = some (.cells (stLs v3 v4 v5 S').toArray 91 (0, 0))) (ho : StOwn W' (w.heap.size + 2) v3 v4 v5 S') (sm : SmS S') (ap : Apart u1 v3 ∧ Apart u1 v4) : MdS w W' b gd gs n V u1 u2 v3 v4 v5 ss fs S' := by
  have h1 := h.l1
  have h2 := h.l2
  have h3 := h.l3
  have far : ∀ k, p k → w.heap.size + 1 < k := fun k hk => by
    rcases hp k hk with e | e | e
    · omega
    · have := (own_lt h.os.o3 k e).1; omega
    · have := (own_lt h.os.o4 k e).1; omega
  refine ⟨h.dr.chg hc (fun k hk => by have := far k hk; omega), (hc.block gd (lt_heap h.hd) (fun e => ?_)).trans h.hd, hs, (hc.block _ (lt_heap h.hr1) (fun e => by have := far _ e; omega)).trans h.hr1, (hc.block _ (lt_heap h.hr2) (fun e => by have := far _ e; omega)).trans h.hr2, own_chg h.o1 hc (fun g hg e => ?_), own_chg h.o2 hc (fun g hg e => ?_), ho, grown_chg h.gr hc (fun k hk => by have := far k hk; omega), h1, h2, h3, h.len, h.sh, sm, ap⟩
  · rcases hp _ e with e | e | e
    · exact hgd e
    · exact own_ne h.os.o3 h.hd (by decide) gd e rfl
    · exact own_ne h.os.o4 h.hd (by decide) gd e rfl
  · rcases hp _ e with e | e | e
    · subst e; exact own_ne h.o1 h.hs (by decide) g hg rfl
    · exact h.ap.1 g hg e
    · exact h.ap.2 g hg e
  · rcases hp _ e with e | e | e
    · subst e; exact own_ne h.o2 h.hs (by decide) g hg rfl
    · exact apart_ty h.o2 h.os.o3 (by decide) g hg e
    · exact apart_ty h.o2 h.os.o4 (by decide) g hg e
/-- Ahead of its first event. -/
theorem MdS.start {w W1 : World} {b n : Nat} {V u1 u2 : Value} {ss : List ByteArray} {fs : List Pr} (hb : b < w.heap.size) (h : DfDr ((w.alloc (.cells [.slice none 0 0, .slice none 0 0].toArray 26)).alloc (.cells [.int .i64 0, .int .i64 0, .int .i64 0, .slice none 0 0, .slice none 0 0, .slice none 0 0, .int .i64 0].toArray 91)) W1 b n V u1 u2 ss fs) :
    MdS w ((W1.alloc (.cells [u1, u2].toArray 26)).alloc (.cells [.int .i64 0, .int .i64 0, .int .i64 0, .slice none 0 0, .slice none 0 0, .slice none 0 0, .int .i64 0].toArray 91)) b W1.heap.size (W1.heap.size + 1) n V u1 u2 (.slice none 0 0) (.slice none 0 0) (.slice none 0 0) ss fs z0 := by
  have z0' : ((w.alloc (.cells [.slice none 0 0, .slice none 0 0].toArray 26)).alloc (.cells [.int .i64 0, .int .i64 0, .int .i64 0, .slice none 0 0, .slice none 0 0, .slice none 0 0, .int .i64 0].toArray 91)).heap.size = w.heap.size + 2 := by simp
  have r1 := (Below.heap_alloc (w.alloc (.cells [.slice none 0 0, .slice none 0 0].toArray 26)) (.cells [.int .i64 0, .int .i64 0, .int .i64 0, .slice none 0 0, .slice none 0 0, .slice none 0 0, .int .i64 0].toArray 91) w.heap.size (by simp)).trans (heap_alloc_new w _)
  have r2 := heap_alloc_new (w.alloc (.cells [.slice none 0 0, .slice none 0 0].toArray 26)) (.cells [.int .i64 0, .int .i64 0, .int .i64 0, .slice none 0 0, .slice none 0 0, .slice none 0 0, .int .i64 0].toArray 91)
  rw [show (w.alloc (.cells [.slice none 0 0, .slice none 0 0].toArray 26)).heap.size = w.heap.size + 1 by simp] at r2
  have g0 : w.grownBy ((w.alloc (.cells [.slice none 0 0, .slice none 0 0].toArray 26)).alloc (.cells [.int .i64 0, .int .i64 0, .int .i64 0, .slice none 0 0, .slice none 0 0, .slice none 0 0, .int .i64 0].toArray 91)) (some b) := grown_trans (World.grownBy_alloc _ _ _) (World.grownBy_alloc _ _ _)
  generalize (w.alloc (.cells [.slice none 0 0, .slice none 0 0].toArray 26)).alloc (.cells [.int .i64 0, .int .i64 0, .int .i64 0, .slice none 0 0, .slice none 0 0, .slice none 0 0, .int .i64 0].toArray 91) = W0 at *
  have hsz := h.gr.size
  have r1' := (h.gr.block _ (lt_heap r1) (by simp; omega)).trans r1
  have r2' := (h.gr.block _ (lt_heap r2) (by simp; omega)).trans r2
  have hB : Below W1.heap.size W1 ((W1.alloc (.cells [u1, u2].toArray 26)).alloc (.cells [.int .i64 0, .int .i64 0, .int .i64 0, .slice none 0 0, .slice none 0 0, .slice none 0 0, .int .i64 0].toArray 91)) := ((Below.refl _ _).alloc (Nat.le_refl _) _).alloc (by simp) _
  have q2 := heap_alloc_new (W1.alloc (.cells [u1, u2].toArray 26)) (.cells [.int .i64 0, .int .i64 0, .int .i64 0, .slice none 0 0, .slice none 0 0, .slice none 0 0, .int .i64 0].toArray 91)
  rw [show (W1.alloc (.cells [u1, u2].toArray 26)).heap.size = W1.heap.size + 1 by simp] at q2
  exact ⟨h.dr.below hB, (Below.heap_alloc _ _ _ (by simp)).trans (heap_alloc_new W1 _), q2, (hB.block _ (lt_heap r1')).trans r1', (hB.block _ (lt_heap r2')).trans r2', ownB_stay (ownB_le h.o1 (by omega)) hB, ownB_stay (ownB_le h.o2 (by omega)) hB, StOwn.none _ _, grown_trans g0 (grown_trans h.gr (grown_below hB)), hb, by omega, by omega, h.len, h.sh, smS_of h.sh (.inl ⟨rfl, by constructor <;> rfl⟩), ⟨fun g _ e => (by cases e), fun g _ e => (by cases e)⟩⟩
/-- What a Def and a State that were drawn are. -/
structure StDr (w W : World) (b n : Nat) (V u1 u2 u3 u4 u5 : Value) (ss : List ByteArray) (fs : List Pr) (S : St) : Prop where
  dr : Drw W b V n
  o1 : W.ownsRow w.heap.size 9 1 u1 ss.length (ss.map Value.string)
  o2 : W.ownsRow w.heap.size 116 2 u2 fs.length (fs.flatMap Pr.cells)
  os : StOwn W w.heap.size u3 u4 u5 S
  gr : w.grownBy W (some b)
  len : ss.length ≤ 5 ∧ fs.length ≤ 10
  sh : ShD ss fs
  sm : SmS S
theorem MdS.fin {w W W' : World} {b gd gs n : Nat} {V u1 u2 u3 u4 u5 : Value} {ss : List ByteArray} {fs : List Pr} {S : St} (h : MdS w W b gd gs n V u1 u2 u3 u4 u5 ss fs S) (hc : Chg (fun k => k = w.heap.size ∨ k = w.heap.size + 1) W W') : StDr w W' b n V u1 u2 u3 u4 u5 ss fs S := by
  have far : ∀ k, (k = w.heap.size ∨ k = w.heap.size + 1) → ¬ w.heap.size + 2 ≤ k := fun k hk => by omega
  exact ⟨h.dr.chg hc (fun k hk => by have := h.l1; omega), ownB_le (own_chg h.o1 hc (fun g hg e => far g e (own_lt h.o1 g hg).1)) (by omega), ownB_le (own_chg h.o2 hc (fun g hg e => far g e (own_lt h.o2 g hg).1)) (by omega), (h.os.chg hc (fun j hj e => far j e hj)).le (by omega), grown_chg h.gr hc (fun k hk => by omega), h.len, h.sh, h.sm⟩
/-- The end: both laid into the answer's blocks. -/
theorem MdS.ends {w W : World} {b gd gs n : Nat} {V u1 u2 u3 u4 u5 : Value} {ss : List ByteArray} {fs : List Pr} {S : St} (h : MdS w W b gd gs n V u1 u2 u3 u4 u5 ss fs S) (WF : World) (hWF : (((((((((W.setCell ⟨w.heap.size, 0, none⟩ u1).setCell ⟨w.heap.size, 1, none⟩ u2).setCell ⟨w.heap.size + 1, 0, none⟩ (.int .i64 S.status)).setCell ⟨w.heap.size + 1, 1, none⟩ (.int .i64 S.begun)).setCell ⟨w.heap.size + 1, 2, none⟩ (.int .i64 S.last)).setCell ⟨w.heap.size + 1, 3, none⟩ u3).setCell ⟨w.heap.size + 1, 4, none⟩ u4).setCell ⟨w.heap.size + 1, 5, none⟩ u5).setCell ⟨w.heap.size + 1, 6, none⟩ (.int .i64 S.faults)).drew = WF) :
    StDr w WF b n V u1 u2 u3 u4 u5 ss fs S ∧ (WF.cell? ⟨w.heap.size, 0, none⟩ = some u1 ∧ WF.cell? ⟨w.heap.size, 1, none⟩ = some u2) ∧ WF.cell? ⟨w.heap.size + 1, 0, none⟩ = some (.int .i64 S.status) ∧ WF.cell? ⟨w.heap.size + 1, 1, none⟩ = some (.int .i64 S.begun) ∧ WF.cell? ⟨w.heap.size + 1, 2, none⟩ = some (.int .i64 S.last) ∧ WF.cell? ⟨w.heap.size + 1, 3, none⟩ = some u3 ∧ WF.cell? ⟨w.heap.size + 1, 4, none⟩ = some u4 ∧ WF.cell? ⟨w.heap.size + 1, 5, none⟩ = some u5 ∧ WF.cell? ⟨w.heap.size + 1, 6, none⟩ = some (.int .i64 S.faults) := by
  have hcA : Chg (fun j => j = w.heap.size) W ((W.setCell ⟨w.heap.size, 0, none⟩ u1).setCell ⟨w.heap.size, 1, none⟩ u2) := ((Chg.refl _ _).seq _ _).seq _ _
  have hcB : Chg (fun j => j = w.heap.size + 1) ((W.setCell ⟨w.heap.size, 0, none⟩ u1).setCell ⟨w.heap.size, 1, none⟩ u2) (((((((((W.setCell ⟨w.heap.size, 0, none⟩ u1).setCell ⟨w.heap.size, 1, none⟩ u2).setCell ⟨w.heap.size + 1, 0, none⟩ (.int .i64 S.status)).setCell ⟨w.heap.size + 1, 1, none⟩ (.int .i64 S.begun)).setCell ⟨w.heap.size + 1, 2, none⟩ (.int .i64 S.last)).setCell ⟨w.heap.size + 1, 3, none⟩ u3).setCell ⟨w.heap.size + 1, 4, none⟩ u4).setCell ⟨w.heap.size + 1, 5, none⟩ u5).setCell ⟨w.heap.size + 1, 6, none⟩ (.int .i64 S.faults)) := (((((((Chg.refl _ _).seq _ _).seq _ _).seq _ _).seq _ _).seq _ _).seq _ _).seq _ _
  have r1 := blk_set (i := 1) (blk_set (L := [_, _]) (i := 0) h.hr1 u1) u2
  have r1' := (hcB.block _ (lt_heap r1) (by omega)).trans r1
  have r2 := (hcA.block _ (lt_heap h.hr2) (by omega)).trans h.hr2
  have r2' := blk_set (blk_set (blk_set (blk_set (blk_set (blk_set (blk_set (L := [_, _, _, _, _, _, _]) (i := 0) r2 (.int .i64 S.status)) (i := 1) (.int .i64 S.begun)) (i := 2) (.int .i64 S.last)) (i := 3) u3) (i := 4) u4) (i := 5) u5) (i := 6) (.int .i64 S.faults)
  have hcC := (hcA.mono (q := fun k => k = w.heap.size ∨ k = w.heap.size + 1) fun _ e => .inl e).trans (hcB.mono fun _ e => .inr e)
  generalize (((((((((W.setCell ⟨w.heap.size, 0, none⟩ u1).setCell ⟨w.heap.size, 1, none⟩ u2).setCell ⟨w.heap.size + 1, 0, none⟩ (.int .i64 S.status)).setCell ⟨w.heap.size + 1, 1, none⟩ (.int .i64 S.begun)).setCell ⟨w.heap.size + 1, 2, none⟩ (.int .i64 S.last)).setCell ⟨w.heap.size + 1, 3, none⟩ u3).setCell ⟨w.heap.size + 1, 4, none⟩ u4).setCell ⟨w.heap.size + 1, 5, none⟩ u5).setCell ⟨w.heap.size + 1, 6, none⟩ (.int .i64 S.faults)) = X at *
  subst hWF
  have q1 : X.drew.heap[w.heap.size]? = some (.cells [u1, u2].toArray 26 (0, 0)) := r1'
  have q2 : X.drew.heap[w.heap.size + 1]? = some (.cells (stLs u3 u4 u5 S).toArray 91 (0, 0)) := r2'
  refine ⟨h.fin hcC.drew, ⟨by rw [Lib.cell_of_heap q1]; rfl, by rw [Lib.cell_of_heap q1]; rfl⟩, by rw [Lib.cell_of_heap q2]; rfl, by rw [Lib.cell_of_heap q2]; rfl, by rw [Lib.cell_of_heap q2]; rfl, by rw [Lib.cell_of_heap q2]; rfl, by rw [Lib.cell_of_heap q2]; rfl, by rw [Lib.cell_of_heap q2]; rfl, by rw [Lib.cell_of_heap q2]; rfl⟩
end Go.Proofs.YthggcdadipjiiaaGreatDoor

/-
  Draws: an Event in its own variable, amid its draw. Of no function. (Cut off DrEv.)
-/
namespace Go.Proofs.YthggcdadipjiiaaGreatDoor
open Go.RowKit

/-- Amid a draw: the source, the event in its box, the answer's own block, still zero. -/
structure Mid (w W : World) (b g : Nat) (V : Value) (n : Nat) (e : Ev) : Prop where
  dr : Drw W b V n
  he : W.heap[g]? = some (.cells e.cells.toArray 33 (0, 0))
  hr : W.heap[w.heap.size]? = some (.cells [.int .i64 0, .int .i64 0, .int .i64 0, .int .i64 0, .string ⟨#[]⟩, .string ⟨#[]⟩].toArray 33 (0, 0))
  gr : w.grownBy W (some b)
  hg : w.heap.size < g
  hb : b < w.heap.size
  sz : e.step.size ≤ 100 ∧ e.val.size ≤ 100
theorem Mid.call {w W W' : World} {b g n : Nat} {V : Value} {e : Ev} (h : Mid w W b g V n e) (hd : Drw W' b V n) (hg : W.grownBy W' (some b)) : Mid w W' b g V n e :=
  ⟨hd, (hg.block g (lt_heap h.he) (by simp; have := h.hg; have := h.hb; omega)).trans h.he, (hg.block _ (lt_heap h.hr) (by simp; have := h.hb; omega)).trans h.hr, grown_trans h.gr hg, h.hg, h.hb, h.sz⟩
theorem Mid.alloc {w W : World} {b g n : Nat} {V : Value} {e : Ev} (h : Mid w W b g V n e) (o : Obj) : Mid w (W.alloc o) b g V n e :=
  ⟨h.dr.stay (r := none) (World.grownBy_alloc W o none) (fun k hk => by cases hk), (Below.heap_alloc W o g (lt_heap h.he)).trans h.he, (Below.heap_alloc W o _ (lt_heap h.hr)).trans h.hr, grown_trans h.gr (World.grownBy_alloc W o _), h.hg, h.hb, h.sz⟩
theorem Mid.set {w W : World} {b g n i : Nat} {V : Value} {e : Ev} (h : Mid w W b g V n e) (v : Value) (e' : Ev) (he : e.cells.set i v = e'.cells) (hs : e'.step.size ≤ 100 ∧ e'.val.size ≤ 100) : Mid w (W.setCell ⟨g, i, none⟩ v) b g V n e' :=
  ⟨h.dr.stay (r := some g) (grown_set W g i v) (fun k hk => by cases hk; have := h.hg; have := h.hb; omega), by rw [← he]; exact blk_set h.he v, (Below.heap_setCell W ⟨g, i, none⟩ v _ (by show w.heap.size ≠ g; have := h.hg; omega)).trans h.hr,
   ⟨h.gr.os, h.gr.tape, h.gr.output, by simpa [World.setCell] using h.gr.size, fun k hk hr => (Below.heap_setCell W ⟨g, i, none⟩ v k (by show k ≠ g; have := h.hg; omega)).trans (h.gr.block k hk hr)⟩, h.hg, h.hb, hs⟩
/-- The end: the event laid into the answer's block. -/
theorem Mid.fin {w W : World} {b g n : Nat} {V : Value} {e : Ev} (h : Mid w W b g V n e) (x0 x1 x2 x3 x4 x5 : Value) :
    Drw ((((((W.setCell ⟨w.heap.size, 0, none⟩ x0).setCell ⟨w.heap.size, 1, none⟩ x1).setCell ⟨w.heap.size, 2, none⟩ x2).setCell ⟨w.heap.size, 3, none⟩ x3).setCell ⟨w.heap.size, 4, none⟩ x4).setCell ⟨w.heap.size, 5, none⟩ x5) b V n ∧
    w.grownBy ((((((W.setCell ⟨w.heap.size, 0, none⟩ x0).setCell ⟨w.heap.size, 1, none⟩ x1).setCell ⟨w.heap.size, 2, none⟩ x2).setCell ⟨w.heap.size, 3, none⟩ x3).setCell ⟨w.heap.size, 4, none⟩ x4).setCell ⟨w.heap.size, 5, none⟩ x5) (some b) := by
  have one : ∀ (W : World) (i : Nat) (x : Value), Drw W b V n ∧ w.grownBy W (some b) → Drw (W.setCell ⟨w.heap.size, i, none⟩ x) b V n ∧ w.grownBy (W.setCell ⟨w.heap.size, i, none⟩ x) (some b) := fun W i x hx =>
    ⟨hx.1.stay (r := some w.heap.size) (grown_set W _ i x) (fun k hk => by cases hk; exact h.hb),
     ⟨hx.2.os, hx.2.tape, hx.2.output, by simpa [World.setCell] using hx.2.size, fun k hk hr => (Below.heap_setCell W ⟨w.heap.size, i, none⟩ x k (by show k ≠ w.heap.size; omega)).trans (hx.2.block k hk hr)⟩⟩
  exact one _ _ _ (one _ _ _ (one _ _ _ (one _ _ _ (one _ _ _ (one _ _ _ ⟨h.dr, h.gr⟩)))))
theorem Mid.cells {w W : World} {b g n : Nat} {V : Value} {q0 q1 q2 q3 : Int} {q4 q5 : ByteArray} (h : Mid w W b g V n ⟨q0, q1, q2, q3, q4, q5⟩) :
    (W.cell? ⟨g, 0, none⟩ = some (.int .i64 q0) ∧ W.cell? ⟨g, 1, none⟩ = some (.int .i64 q1) ∧ W.cell? ⟨g, 2, none⟩ = some (.int .i64 q2) ∧ W.cell? ⟨g, 3, none⟩ = some (.int .i64 q3) ∧ W.cell? ⟨g, 4, none⟩ = some (.string q4) ∧ W.cell? ⟨g, 5, none⟩ = some (.string q5)) ∧ (∀ j, W.frozen? ⟨g, j, none⟩ = false) :=
  ⟨⟨by rw [Lib.cell_of_heap h.he]; rfl, by rw [Lib.cell_of_heap h.he]; rfl, by rw [Lib.cell_of_heap h.he]; rfl, by rw [Lib.cell_of_heap h.he]; rfl, by rw [Lib.cell_of_heap h.he]; rfl, by rw [Lib.cell_of_heap h.he]; rfl⟩, fun j => Lib.frozen_of_heap h.he j⟩
theorem Mid.zero {w W : World} {b g n : Nat} {V : Value} {e : Ev} (h : Mid w W b g V n e) :
    (W.cell? ⟨w.heap.size, 0, none⟩ = some (.int .i64 0) ∧ W.cell? ⟨w.heap.size, 1, none⟩ = some (.int .i64 0) ∧ W.cell? ⟨w.heap.size, 2, none⟩ = some (.int .i64 0) ∧ W.cell? ⟨w.heap.size, 3, none⟩ = some (.int .i64 0) ∧ W.cell? ⟨w.heap.size, 4, none⟩ = some (.string ⟨#[]⟩) ∧ W.cell? ⟨w.heap.size, 5, none⟩ = some (.string ⟨#[]⟩)) ∧ (∀ j, W.frozen? ⟨w.heap.size, j, none⟩ = false) ∧ g ≠ w.heap.size ∧ w.heap.size ≠ g :=
  ⟨⟨by rw [Lib.cell_of_heap h.hr]; rfl, by rw [Lib.cell_of_heap h.hr]; rfl, by rw [Lib.cell_of_heap h.hr]; rfl, by rw [Lib.cell_of_heap h.hr]; rfl, by rw [Lib.cell_of_heap h.hr]; rfl, by rw [Lib.cell_of_heap h.hr]; rfl⟩, fun j => Lib.frozen_of_heap h.hr j, by have := h.hg; omega, by have := h.hg; omega⟩
theorem short_mem {s : ByteArray} {S : List ByteArray} (hs : s ∈ S) (h : ∀ x ∈ S, x.size ≤ 100) : s.size ≤ 100 := h s hs
end Go.Proofs.YthggcdadipjiiaaGreatDoor

/-
  Draws: amid the draw of (*spec.l01Src).l03Next: what stands where; spec.l01Min's answer is one of its two.
-/
namespace Go.Proofs.YthggcdadipjiiaaGreatDoor
open Go.RowKit

theorem l01Min_draw (x y : Int) (w : World) : Calls Tryz.prog 71 #[.int .i64 x, .int .i64 y] w fun e w' => (∃ t : Int, e = .returned (.int .i64 t) ∧ (t = x ∨ t = y)) ∧ w' = w := by
  by_cases h : x < y
  · go_enter Tryz.func71, Tryz.ntmps71
    go_wp2
    go_ret
    exact ⟨⟨x, rfl, .inl rfl⟩, rfl⟩
  · go_enter Tryz.func71, Tryz.ntmps71
    go_wp2
    go_ret
    exact ⟨⟨y, rfl, .inr rfl⟩, rfl⟩
/-- Ahead of the Event's box: the source, the State's box, the answer's block. -/
structure NxD (wb X : World) (z b n : Nat) (V : Value) (B : Obj) : Prop where
  dr : Drw X b V n
  bx : X.heap[z]? = some B
  hr : X.heap[wb.heap.size]? = some (.cells [.int .i64 0, .int .i64 0, .int .i64 0, .int .i64 0, .string ⟨#[]⟩, .string ⟨#[]⟩].toArray 33 (0, 0))
  gr : wb.grownBy X (some b)
  hb : b < z
  hz : z < wb.heap.size
theorem NxD.call {wb X X' : World} {z b n : Nat} {V : Value} {B : Obj} (h : NxD wb X z b n V B) (hd : Drw X' b V n) (hg : X.grownBy X' (some b)) : NxD wb X' z b n V B :=
  ⟨hd, (hg.block z (lt_heap h.bx) (by simp; have := h.hb; omega)).trans h.bx, (hg.block _ (lt_heap h.hr) (by simp; have := h.hb; have := h.hz; omega)).trans h.hr, grown_trans h.gr hg, h.hb, h.hz⟩
theorem NxD.alloc {wb X : World} {z b n : Nat} {V : Value} {B : Obj} (h : NxD wb X z b n V B) {o : Obj} : NxD wb (X.alloc o) z b n V B :=
  h.call (h.dr.below ((Below.refl _ _).alloc (Nat.le_refl _) o)) (World.grownBy_alloc X o _)
theorem NxD.drew {wb X : World} {z b n : Nat} {V : Value} {B : Obj} (h : NxD wb X z b n V B) : NxD wb X.drew z b n V B :=
  h.call (h.dr.below (Below.refl _ _).drew) (grown_below (Below.refl _ _).drew)
/-- An Event's box, empty. -/
def NxE (wb X : World) (g : Nat) : Prop := X.heap[g]? = some (.cells [.int .i64 0, .int .i64 0, .int .i64 0, .int .i64 0, .string ⟨#[]⟩, .string ⟨#[]⟩].toArray 33 (0, 0)) ∧ wb.heap.size < g
theorem NxE.call {wb X X' : World} {z b g n : Nat} {V : Value} {B : Obj} (h : NxE wb X g) (hG : NxD wb X z b n V B) (hg : X.grownBy X' (some b)) : NxE wb X' g :=
  ⟨(hg.block g (lt_heap h.1) (by simp; have := h.2; have := hG.hb; have := hG.hz; omega)).trans h.1, h.2⟩
theorem NxE.mid {wb X : World} {z b g n : Nat} {V : Value} {B : Obj} (h : NxE wb X g) (hG : NxD wb X z b n V B) : Mid wb X b g V n ⟨0, 0, 0, 0, ⟨#[]⟩, ⟨#[]⟩⟩ :=
  ⟨hG.dr, h.1, hG.hr, hG.gr, h.2, by have := hG.hb; have := hG.hz; omega, ⟨Nat.zero_le _, Nat.zero_le _⟩⟩
/-- Amid the draw of the Event. -/
structure NxM (wb W : World) (z b g n : Nat) (V : Value) (B : Obj) (e : Ev) : Prop where
  md : Mid wb W b g V n e
  bx : W.heap[z]? = some B
  hb : b < z
  hz : z < wb.heap.size
theorem NxM.call {wb W W' : World} {z b g n : Nat} {V : Value} {B : Obj} {e : Ev} (h : NxM wb W z b g n V B e) (hd : Drw W' b V n) (hg : W.grownBy W' (some b)) : NxM wb W' z b g n V B e :=
  ⟨h.md.call hd hg, (hg.block z (lt_heap h.bx) (by simp; have := h.hb; omega)).trans h.bx, h.hb, h.hz⟩
theorem NxM.alloc {wb W : World} {z b g n : Nat} {V : Value} {B : Obj} {e : Ev} (h : NxM wb W z b g n V B e) (o : Obj) : NxM wb (W.alloc o) z b g n V B e :=
  ⟨h.md.alloc o, (Below.heap_alloc W o _ (lt_heap h.bx)).trans h.bx, h.hb, h.hz⟩
theorem NxM.set {wb W : World} {z b g n i : Nat} {V : Value} {B : Obj} {e : Ev} (h : NxM wb W z b g n V B e) (v : Value) (e' : Ev) (he : e.cells.set i v = e'.cells) (hs : e'.step.size ≤ 100 ∧ e'.val.size ≤ 100) : NxM wb (W.setCell ⟨g, i, none⟩ v) z b g n V B e' :=
  ⟨h.md.set v e' he hs, (Below.heap_setCell W ⟨g, i, none⟩ v _ (by show z ≠ g; have := h.md.hg; have := h.hz; omega)).trans h.bx, h.hb, h.hz⟩
/-- A State's value. -/
def sV (st bg lt fl : Int) (A3 A4 A5 : Option Addr) (n3 n4 n5 c3 c4 c5 : Nat) : Array Value := #[.int .i64 st, .int .i64 bg, .int .i64 lt, .slice A3 n3 c3, .slice A4 n4 c4, .slice A5 n5 c5, .int .i64 fl]
/-- A row of texts behind the source's block stays through draws. -/
theorem StrSl.far {w W : World} {b c n : Nat} {A : Option Addr} {l : List ByteArray} (h : StrSl w (.slice A n c) l) (hg : w.grownBy W (some b)) (hf : ∀ g o, A = some ⟨g, o, none⟩ → 0 < l.length → b < g) : StrSl W (.slice A n c) l := by
  rcases h with h | ⟨g, o, c', hv, hn, h1, h2⟩
  · exact .inl h
  · injection hv with e1 e2 e3
    subst e1; subst e2; subst e3
    have hbg := hf g o rfl hn.1
    refine .inr ⟨g, o, _, rfl, hn, Nat.lt_of_lt_of_le h1 hg.size, fun i hi => ?_⟩
    rw [World.cell?_of_block (w := w) (a := ⟨g, o + i, none⟩) (hg.block g h1 (by simp; omega))]
    exact h2 i hi
end Go.Proofs.YthggcdadipjiiaaGreatDoor

/-
  Draws: what (*spec.l01Src).pick answers: one of some texts: a contract over the seat's program.
-/
namespace Go.Proofs.YthggcdadipjiiaaGreatDoor
open Go.RowKit

theorem pick_any (b n g m : Nat) (V : Value) (S : List ByteArray) (w : World) (h : Drw w b V n) (hm : S.length = m) (h0 : 0 < m) (hm2 : m ≤ 100) (hgb : b < g)
    (hS : w.heap[g]? = some (.cells (S.map Value.string).toArray 9 (0, 0))) :
    Calls Tryz.prog 78 #[.pointer (some ⟨b, 0, none⟩), .slice (some ⟨g, 0, none⟩) m m] w fun e w' => ∃ s, e = .returned (.string s) ∧ s ∈ S ∧ Drw w' b V n ∧ w.grownBy w' (some b) := by
  have c1 := hid (srcN_any b n V (m : Int) w h (by omega))
  have HS := hid hS
  clear h hS
  go_enter Tryz.func78, Tryz.ntmps78
  go_wp2_with fail
  refine c1.out.mono ?_
  rintro e w1 ⟨r, rfl, ⟨r0, r1, r2⟩, hd, hg⟩
  obtain ⟨i, rfl⟩ := Int.eq_ofNat_of_zero_le r0
  have hi : i < S.length := by
    by_cases h1 : (1 : Int) < (m : Int)
    · have := r1 h1; omega
    · have := r2 (by omega); omega
  have hi' : i < m := by omega
  have hS1 : w1.heap[g]? = some (.cells (S.map Value.string).toArray 9 (0, 0)) := by rw [hg.block g (lt_heap HS.out) (by simp; omega)]; exact HS.out
  have hc : w1.cell? ⟨g, i, none⟩ = some (.string S[i]) := by
    rw [Lib.cell_of_heap hS1]
    simp [hi]
  have HM := hid (List.getElem_mem hi)
  generalize S[i] = s at *
  have HD := hid hd
  have HG := hid hg
  clear hd hg hS1 r0 r1 r2 hi
  go_wp2
  go_ret
  exact ⟨s, rfl, HM.out, HD.out, HG.out⟩
end Go.Proofs.YthggcdadipjiiaaGreatDoor
