/-
  Draws: amid spec.DrawStateOf's draw: the source, a Def and a State in their boxes, the events drawn so far. Of no function.
-/
import Derived.Test.YtdggmeblnbabbaaGreatDoorZStNx3
namespace Go.Proofs.YtdggmeblnbabbaaGreatDoor
open Go.RowKit Go.Sort
set_option linter.unusedVariables false

structure MdO (w W : World) (b lo gd gs n : Nat) (V u1 u2 u3 u4 u5 v : Value) (ss : List ByteArray) (fs : List Pr) (S : St) (l : List Ev) : Prop where
  dr : Drw W b V n
  hd : W.heap[gd]? = some (.cells [u1, u2].toArray 26 (0, 0))
  hs : W.heap[gs]? = some (.cells (stLs u3 u4 u5 S).toArray 29 (0, 0))
  r1 : W.heap[w.heap.size]? = some (.cells [.slice none 0 0, .slice none 0 0].toArray 26 (0, 0))
  o1 : W.ownsRow lo 9 1 u1 ss.length (ss.map Value.string)
  o2 : W.ownsRow lo 41 2 u2 fs.length (fs.flatMap Pr.cells)
  os : StOwn W lo u3 u4 u5 S
  ol : W.ownsRow lo 31 6 v l.length (l.flatMap Ev.cells)
  gr : Below w.heap.size w W
  l1 : w.heap.size + 1 ≤ b
  l2 : b < lo
  l3 : lo ≤ gd
  l4 : lo ≤ gs
  len : ss.length ≤ 5 ∧ fs.length ≤ 10
  sh : ShD ss fs
  sm : SmS S
  fr : ∀ g o c, V = .slice (some ⟨g, o, none⟩) n c → 0 < n → g < w.heap.size
  se : ∀ e ∈ l, ShE e
theorem MdO.call {w W W' : World} {b lo gd gs n : Nat} {V u1 u2 u3 u4 u5 v : Value} {ss : List ByteArray} {fs : List Pr} {S : St} {l : List Ev} (h : MdO w W b lo gd gs n V u1 u2 u3 u4 u5 v ss fs S l) (hd : Drw W' b V n) (hg : W.grownBy W' (some b)) : MdO w W' b lo gd gs n V u1 u2 u3 u4 u5 v ss fs S l := by
  have h1 := h.l1
  have h2 := h.l2
  have h3 := h.l3
  have h4 := h.l4
  have kp : ∀ k o, W.heap[k]? = some o → k ≠ b → W'.heap[k]? = some o := fun k o hk hn => (hg.block k (lt_heap hk) (by simp; exact hn)).trans hk
  exact ⟨hd, kp _ _ h.hd (by omega), kp _ _ h.hs (by omega), kp _ _ h.r1 (by omega), own_kept h.o1 h2 hg, own_kept h.o2 h2 hg, h.os.keptB h2 hg, own_kept h.ol h2 hg,
    ⟨hg.os.trans h.gr.os, hg.tape.trans h.gr.tape, hg.output.trans h.gr.output, Nat.le_trans h.gr.size hg.size, fun k hk => (hg.block k (Nat.lt_of_lt_of_le hk h.gr.size) (by simp; omega)).trans (h.gr.block k hk)⟩, h1, h2, h3, h4, h.len, h.sh, h.sm, h.fr, h.se⟩
theorem MdO.below {w W W' : World} {b lo gd gs n : Nat} {V u1 u2 u3 u4 u5 v : Value} {ss : List ByteArray} {fs : List Pr} {S : St} {l : List Ev} (h : MdO w W b lo gd gs n V u1 u2 u3 u4 u5 v ss fs S l) (hg : Below W.heap.size W W') : MdO w W' b lo gd gs n V u1 u2 u3 u4 u5 v ss fs S l := h.call (h.dr.below hg) (grown_below hg)
theorem MdO.alloc {w W : World} {b lo gd gs n : Nat} {V u1 u2 u3 u4 u5 v : Value} {ss : List ByteArray} {fs : List Pr} {S : St} {l : List Ev} (h : MdO w W b lo gd gs n V u1 u2 u3 u4 u5 v ss fs S l) (o : Obj) : MdO w (W.alloc o) b lo gd gs n V u1 u2 u3 u4 u5 v ss fs S l := h.below ((Below.refl _ _).alloc (Nat.le_refl _) o)
/-- What lies behind the source turns. -/
theorem MdO.turn {w W W' : World} {b lo gd gs n : Nat} {V u1 u2 u3 u4 u5 v v3 v4 v5 v' : Value} {ss : List ByteArray} {fs : List Pr} {S S' : St} {l l' : List Ev} (h : MdO w W b lo gd gs n V u1 u2 u3 u4 u5 v ss fs S l) {p : Nat → Prop} (hc : Chg p W W') (hp : ∀ k, p k → lo ≤ k ∧ k ≠ gd ∧ u1.ownBlock ≠ some k ∧ u2.ownBlock ≠ some k) (hs : W'.heap[gs]? = some (.cells (stLs v3 v4 v5 S').toArray 29 (0, 0))) (os : StOwn W' lo v3 v4 v5 S') (ol : W'.ownsRow lo 31 6 v' l'.length (l'.flatMap Ev.cells)) (sm : SmS S') (se : ∀ e ∈ l', ShE e) : MdO w W' b lo gd gs n V u1 u2 v3 v4 v5 v' ss fs S' l' := by
  have h1 := h.l1
  have h2 := h.l2
  have h3 := h.l3
  have h4 := h.l4
  have drw : Drw W' b V n := by
    refine ⟨h.dr.src.of_block (hc.block b h.dr.src.lt (fun e => by have := (hp b e).1; omega)), ?_, h.dr.far⟩
    obtain ⟨a, c, rfl, hn, hbs⟩ := h.dr.bs
    refine ⟨a, c, rfl, hn, fun i hi => ?_⟩
    obtain ⟨g, o, x, rfl, hg1, hx1, hx⟩ := hbs i hi
    have hf := h.fr g o c rfl (by omega)
    exact ⟨g, o, x, rfl, Nat.lt_of_lt_of_le hg1 hc.size, by rw [hc.cell hg1 (fun e => by have := (hp g e).1; omega)]; exact hx1, hx⟩
  exact ⟨drw, (hc.block gd (lt_heap h.hd) (fun e => (hp gd e).2.1 rfl)).trans h.hd, hs, (hc.block _ (lt_heap h.r1) (fun e => by have := (hp _ e).1; omega)).trans h.r1, own_chg h.o1 hc (fun g hg e => (hp g e).2.2.1 hg), own_chg h.o2 hc (fun g hg e => (hp g e).2.2.2 hg), os, ol,
    ⟨hc.os.trans h.gr.os, hc.tape.trans h.gr.tape, hc.output.trans h.gr.output, Nat.le_trans h.gr.size hc.size, fun k hk => (hc.block k (Nat.lt_of_lt_of_le hk h.gr.size) (fun e => by have := (hp k e).1; omega)).trans (h.gr.block k hk)⟩, h1, h2, h3, h4, h.len, h.sh, sm, h.fr, se⟩
theorem ne_blocks {w : World} {g1 g2 : Nat} {c1 c2 : Array Value} {t1 t2 : TypeId} {f1 f2 : Nat × Nat} (h1 : w.heap[g1]? = some (.cells c1 t1 f1)) (h2 : w.heap[g2]? = some (.cells c2 t2 f2)) (hn : t1 ≠ t2) : g1 ≠ g2 := fun e => by
  subst e
  rw [h1] at h2
  injection h2 with h2
  injection h2 with _ h2
  exact hn h2
/-- The State is set anew. -/
theorem MdO.putS {w W : World} {b lo gd gs n : Nat} {V u1 u2 u3 u4 u5 v v3 v4 v5 : Value} {ss : List ByteArray} {fs : List Pr} {S S' : St} {l : List Ev} (h : MdO w W b lo gd gs n V u1 u2 u3 u4 u5 v ss fs S l) (ho : StOwn W lo v3 v4 v5 S') (sm : SmS S') :
    MdO w (((((((W.setCell ⟨gs, 0, none⟩ (.int .i64 S'.status)).setCell ⟨gs, 1, none⟩ (.int .i64 S'.begun)).setCell ⟨gs, 2, none⟩ (.int .i64 S'.last)).setCell ⟨gs, 3, none⟩ v3).setCell ⟨gs, 4, none⟩ v4).setCell ⟨gs, 5, none⟩ v5).setCell ⟨gs, 6, none⟩ (.int .i64 S'.faults)) b lo gd gs n V u1 u2 v3 v4 v5 v ss fs S' l := by
  have hc : Chg (fun j => j = gs) W (((((((W.setCell ⟨gs, 0, none⟩ (.int .i64 S'.status)).setCell ⟨gs, 1, none⟩ (.int .i64 S'.begun)).setCell ⟨gs, 2, none⟩ (.int .i64 S'.last)).setCell ⟨gs, 3, none⟩ v3).setCell ⟨gs, 4, none⟩ v4).setCell ⟨gs, 5, none⟩ v5).setCell ⟨gs, 6, none⟩ (.int .i64 S'.faults)) :=
    (((((((Chg.refl _ _).seq _ _).seq _ _).seq _ _).seq _ _).seq _ _).seq _ _).seq _ _
  refine h.turn hc (fun k hk => ?_) (blk_set (blk_set (blk_set (blk_set (blk_set (blk_set (blk_set h.hs _) _) _) _) _) _) _) (ho.turn hc h.hs (by decide) (by decide)) (own_chg h.ol hc (own_ne h.ol h.hs (by decide))) sm h.se
  subst hk
  exact ⟨h.l4, fun e => ne_blocks h.hd h.hs (by decide) e.symm, fun e => own_ne h.o1 h.hs (by decide) _ e rfl, fun e => own_ne h.o2 h.hs (by decide) _ e rfl⟩
/-- One more event. -/
theorem MdO.app {w W W' : World} {b lo gd gs n : Nat} {V u1 u2 u3 u4 u5 v v' : Value} {ss : List ByteArray} {fs : List Pr} {S : St} {l : List Ev} (h : MdO w W b lo gd gs n V u1 u2 u3 u4 u5 v ss fs S l) (e : Ev) (he : ShE e) (ho : W'.ownsRow lo 31 6 v' (l.length + 1) (l.flatMap Ev.cells ++ e.cells)) (hg : W.grownBy W' v.ownBlock) : MdO w W' b lo gd gs n V u1 u2 u3 u4 u5 v' ss fs S (l ++ [e]) := by
  have hc : Chg (fun j => v.ownBlock = some j) W W' := ⟨hg.os, hg.tape, hg.output, hg.size, fun j hj hp => hg.block j hj (fun e => hp e.symm)⟩
  refine h.turn hc (fun k hk => ⟨(own_lt h.ol k hk).1, own_ne h.ol h.hd (by decide) k hk, fun q => apart_ty h.ol h.o1 (by decide) k hk q, fun q => apart_ty h.ol h.o2 (by decide) k hk q⟩) ((hc.block _ (lt_heap h.hs) (fun q => own_ne h.ol h.hs (by decide) _ q rfl)).trans h.hs) ?_ (by simpa using ho) h.sm (fun x hx => (List.mem_append.1 hx).elim (h.se x) (fun hx => by simp at hx; subst hx; exact he))
  exact ⟨own_chg h.os.o3 hc (fun g hg q => apart_ty h.os.o3 h.ol (by decide) g hg q), own_chg h.os.o4 hc (fun g hg q => apart_ty h.os.o4 h.ol (by decide) g hg q), own_chg h.os.o5 hc (fun g hg q => apart_ty h.os.o5 h.ol (by decide) g hg q), h.os.a34⟩
theorem MdO.cells {w W : World} {b lo gd gs n : Nat} {V u1 u2 u3 u4 u5 v : Value} {ss : List ByteArray} {fs : List Pr} {S : St} {l : List Ev} (h : MdO w W b lo gd gs n V u1 u2 u3 u4 u5 v ss fs S l) :
    (W.cell? ⟨gd, 0, none⟩ = some u1 ∧ W.cell? ⟨gd, 1, none⟩ = some u2) ∧ (W.cell? ⟨gs, 0, none⟩ = some (.int .i64 S.status) ∧ W.cell? ⟨gs, 1, none⟩ = some (.int .i64 S.begun) ∧ W.cell? ⟨gs, 2, none⟩ = some (.int .i64 S.last) ∧ W.cell? ⟨gs, 3, none⟩ = some u3 ∧ W.cell? ⟨gs, 4, none⟩ = some u4 ∧ W.cell? ⟨gs, 5, none⟩ = some u5 ∧ W.cell? ⟨gs, 6, none⟩ = some (.int .i64 S.faults)) ∧ ∀ j, W.frozen? ⟨gs, j, none⟩ = false :=
  ⟨⟨by rw [Lib.cell_of_heap h.hd]; rfl, by rw [Lib.cell_of_heap h.hd]; rfl⟩, ⟨by rw [Lib.cell_of_heap h.hs]; rfl, by rw [Lib.cell_of_heap h.hs]; rfl, by rw [Lib.cell_of_heap h.hs]; rfl, by rw [Lib.cell_of_heap h.hs]; rfl, by rw [Lib.cell_of_heap h.hs]; rfl, by rw [Lib.cell_of_heap h.hs]; rfl, by rw [Lib.cell_of_heap h.hs]; rfl⟩, fun j => Lib.frozen_of_heap h.hs j⟩
/-- What DrawStateOf answers. -/
structure SoDr (w W : World) (u1 u2 v : Value) (ss : List ByteArray) (fs : List Pr) (l : List Ev) : Prop where
  o1 : W.ownsRow w.heap.size 9 1 u1 ss.length (ss.map Value.string)
  o2 : W.ownsRow w.heap.size 41 2 u2 fs.length (fs.flatMap Pr.cells)
  ol : W.ownsRow w.heap.size 31 6 v l.length (l.flatMap Ev.cells)
  bl : Below w.heap.size w W
  len : ss.length ≤ 5 ∧ fs.length ≤ 10
  sh : ShD ss fs
  se : ∀ e ∈ l, ShE e
theorem MdO.fin {w W : World} {b lo gd gs n : Nat} {V u1 u2 u3 u4 u5 v : Value} {ss : List ByteArray} {fs : List Pr} {S : St} {l : List Ev} (h : MdO w W b lo gd gs n V u1 u2 u3 u4 u5 v ss fs S l) : SoDr w ((W.setCell ⟨w.heap.size, 0, none⟩ u1).setCell ⟨w.heap.size, 1, none⟩ u2) u1 u2 v ss fs l := by
  have h1 := h.l1
  have h2 := h.l2
  have hc : Chg (fun j => j = w.heap.size) W ((W.setCell ⟨w.heap.size, 0, none⟩ u1).setCell ⟨w.heap.size, 1, none⟩ u2) := ((Chg.refl _ _).seq _ _).seq _ _
  exact ⟨ownB_le (own_chg h.o1 hc (fun g hg e => by have := (own_lt h.o1 g hg).1; omega)) (by omega), ownB_le (own_chg h.o2 hc (fun g hg e => by have := (own_lt h.o2 g hg).1; omega)) (by omega), ownB_le (own_chg h.ol hc (fun g hg e => by have := (own_lt h.ol g hg).1; omega)) (by omega),
    h.gr.trans (hc.below h.gr.size (fun k hk => by omega)), h.len, h.sh, h.se⟩
/-- spec.StateStep at a right Def and a right State. -/
theorem MdO.step {w W : World} {b lo gd gs n : Nat} {V v : Value} {k1 k2 k3 k4 k5 : Nat} {a1 a2 a3 a4 a5 : Option Addr} {ss : List ByteArray} {fs : List Pr} {S : St} {l : List Ev} (h : MdO w W b lo gd gs n V (.slice a1 ss.length k1) (.slice a2 fs.length k2) (.slice a3 S.wait.length k3) (.slice a4 S.busy.length k4) (.slice a5 S.vars.length k5) v ss fs S l) (D : DefP ss fs) (hP : StP ss S) (e : Ev) (hv : e.step.size ≤ 100) :
    Calls Tryz.prog 6 #[defV a1 a2 k1 k2 ss fs, stV a3 a4 a5 k3 k4 k5 S, evV e] W fun x w' => ∃ (c : Int) (v3 v4 v5 : Value) (T : St), x = .returned (outV c T v3 v4 v5) ∧ StOwn w' lo v3 v4 v5 T ∧ (c = 0 → StP ss T) ∧ Below W.heap.size W w' := by
  have hl := h.len
  have hsm := h.sm
  have hw : lo ≤ W.heap.size := by have := lt_heap h.hd; have := h.l3; omega
  refine (specStateStep_any a1 a2 a3 a4 a5 k1 k2 k3 k4 k5 ss fs S e W ⟨str_of_own h.o1, pr_of_own h.o2, fun g o e => (h.o1.lt g (by rw [e]; rfl)).2, fun g o e => (h.o2.lt g (by rw [e]; rfl)).2⟩ ⟨str_of_own h.os.o3, str_of_own h.os.o4, pr_of_own h.os.o5⟩ (fun i hi => by have := h.sh.1 _ (List.getElem_mem hi); unfold maxLen; omega) (fit_small hsm.sv) (by unfold maxLen; omega) (by unfold maxLen; omega) (by unfold maxLen; omega) (by have := hsm.w; unfold maxLen; omega) (by have := hsm.b; unfold maxLen; omega) (by have := hsm.v; unfold maxLen; omega)).mono ?_
  rintro x w' ⟨v3, v4, v5, hx, hO, hb⟩
  refine ⟨_, v3, v4, v5, _, hx, hO.le hw, fun h0 => ?_, hb⟩
  by_cases he : evB e = true
  · rw [rS_yes ⟨⟨D, hP⟩, he⟩] at h0 ⊢
    exact stepS_right D hP he h0
  · rw [rS_no (fun k => he k.2)] at h0
    exact absurd h0 (by decide)
end Go.Proofs.YtdggmeblnbabbaaGreatDoor
