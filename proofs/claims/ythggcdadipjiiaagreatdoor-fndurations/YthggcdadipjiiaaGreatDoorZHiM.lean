/-
  Draws: amid spec.l04History's draw: the source, a Def in its box, the events drawn so far. Of no function.
-/
import Derived.Test.YthggcdadipjiiaaGreatDoorZStDr4
import Derived.Test.YthggcdadipjiiaaGreatDoorZDrNx
import Derived.Test.YthggcdadipjiiaaGreatDoorZDuE3
import Derived.Test.YthggcdadipjiiaaGreatDoorZDuG2
namespace Go.Proofs.YthggcdadipjiiaaGreatDoor
open Go.RowKit Go.Sort
set_option linter.unusedVariables false

def ShEv (v : Ev) : Prop := v.step.size ≤ 100 ∧ v.val.size ≤ 100
structure MdH (w W : World) (b lo gd n : Nat) (V u1 u2 v : Value) (ss : List ByteArray) (fs : List Pr) (l : List Ev) : Prop where
  dr : Drw W b V n
  hd : W.heap[gd]? = some (.cells [u1, u2].toArray 26 (0, 0))
  r1 : W.heap[w.heap.size]? = some (.cells [.slice none 0 0, .slice none 0 0].toArray 26 (0, 0))
  o1 : W.ownsRow lo 9 1 u1 ss.length (ss.map Value.string)
  o2 : W.ownsRow lo 116 2 u2 fs.length (fs.flatMap Pr.cells)
  ol : W.ownsRow lo 33 6 v l.length (l.flatMap Ev.cells)
  gr : w.grownBy W (some b)
  l1 : b < w.heap.size
  l2 : w.heap.size + 1 ≤ lo
  l3 : lo ≤ gd
  len : ss.length ≤ 5 ∧ fs.length ≤ 10
  sh : ShD ss fs
  se : ∀ e ∈ l, ShEv e
theorem MdH.call {w W W' : World} {b lo gd n : Nat} {V u1 u2 v : Value} {ss : List ByteArray} {fs : List Pr} {l : List Ev} (h : MdH w W b lo gd n V u1 u2 v ss fs l) (hd : Drw W' b V n) (hg : W.grownBy W' (some b)) : MdH w W' b lo gd n V u1 u2 v ss fs l := by
  have h1 := h.l1
  have h2 := h.l2
  have h3 := h.l3
  have kp : ∀ k o, W.heap[k]? = some o → k ≠ b → W'.heap[k]? = some o := fun k o hk hn => (hg.block k (lt_heap hk) (by simp; exact hn)).trans hk
  exact ⟨hd, kp _ _ h.hd (by omega), kp _ _ h.r1 (by omega), own_kept h.o1 (by omega) hg, own_kept h.o2 (by omega) hg, own_kept h.ol (by omega) hg, grown_trans h.gr hg, h1, h2, h3, h.len, h.sh, h.se⟩
theorem MdH.below {w W W' : World} {b lo gd n : Nat} {V u1 u2 v : Value} {ss : List ByteArray} {fs : List Pr} {l : List Ev} (h : MdH w W b lo gd n V u1 u2 v ss fs l) (hg : Below W.heap.size W W') : MdH w W' b lo gd n V u1 u2 v ss fs l := h.call (h.dr.below hg) (grown_below hg)
theorem MdH.alloc {w W : World} {b lo gd n : Nat} {V u1 u2 v : Value} {ss : List ByteArray} {fs : List Pr} {l : List Ev} (h : MdH w W b lo gd n V u1 u2 v ss fs l) (o : Obj) : MdH w (W.alloc o) b lo gd n V u1 u2 v ss fs l := h.below ((Below.refl _ _).alloc (Nat.le_refl _) o)
theorem MdH.turn {w W W' : World} {b lo gd n : Nat} {V u1 u2 v v' : Value} {ss : List ByteArray} {fs : List Pr} {l l' : List Ev} (h : MdH w W b lo gd n V u1 u2 v ss fs l) {p : Nat → Prop} (hc : Chg p W W') (hp : ∀ k, p k → lo ≤ k ∧ k ≠ gd ∧ u1.ownBlock ≠ some k ∧ u2.ownBlock ≠ some k) (ol : W'.ownsRow lo 33 6 v' l'.length (l'.flatMap Ev.cells)) (se : ∀ e ∈ l', ShEv e) : MdH w W' b lo gd n V u1 u2 v' ss fs l' := by
  have h1 := h.l1
  have h2 := h.l2
  exact ⟨h.dr.chg hc (fun k hk => by have := (hp k hk).1; omega), (hc.block gd (lt_heap h.hd) (fun e => (hp gd e).2.1 rfl)).trans h.hd, (hc.block _ (lt_heap h.r1) (fun e => by have := (hp _ e).1; omega)).trans h.r1, own_chg h.o1 hc (fun g hg e => (hp g e).2.2.1 hg), own_chg h.o2 hc (fun g hg e => (hp g e).2.2.2 hg), ol,
    grown_chg h.gr hc (fun k hk => by have := (hp k hk).1; omega), h1, h2, h.l3, h.len, h.sh, se⟩
/-- The events' own row turns. -/
theorem MdH.evs {w W W' : World} {b lo gd n : Nat} {V u1 u2 v v' : Value} {ss : List ByteArray} {fs : List Pr} {l l' : List Ev} (h : MdH w W b lo gd n V u1 u2 v ss fs l) (hc : Chg (fun j => v.ownBlock = some j) W W') (ol : W'.ownsRow lo 33 6 v' l'.length (l'.flatMap Ev.cells)) (se : ∀ e ∈ l', ShEv e) : MdH w W' b lo gd n V u1 u2 v' ss fs l' :=
  h.turn hc (fun k hk => ⟨(own_lt h.ol k hk).1, own_ne h.ol h.hd (by decide) k hk, fun q => apart_ty h.ol h.o1 (by decide) k hk q, fun q => apart_ty h.ol h.o2 (by decide) k hk q⟩) ol se
theorem MdH.app {w W W' : World} {b lo gd n : Nat} {V u1 u2 v v' : Value} {ss : List ByteArray} {fs : List Pr} {l : List Ev} (h : MdH w W b lo gd n V u1 u2 v ss fs l) (e : Ev) (he : ShEv e) (ho : W'.ownsRow lo 33 6 v' (l.length + 1) (l.flatMap Ev.cells ++ e.cells)) (hg : W.grownBy W' v.ownBlock) : MdH w W' b lo gd n V u1 u2 v' ss fs (l ++ [e]) :=
  h.evs ⟨hg.os, hg.tape, hg.output, hg.size, fun j hj hp => hg.block j hj (fun e => hp e.symm)⟩ (by simpa using ho) (fun x hx => (List.mem_append.1 hx).elim (h.se x) (fun hx => by simp at hx; subst hx; exact he))
theorem evs_set : ∀ (l : List Ev) (i j : Nat) (u : Value) (e' : Ev), (h : i < l.length) → j < 6 → l[i].cells.set j u = e'.cells → (l.flatMap Ev.cells).set (i * 6 + j) u = (l.set i e').flatMap Ev.cells
  | [], i, _, _, _, h, _, _ => absurd h (by simp)
  | x :: r, 0, j, u, e', _, hj, hc => by
    have hx : x.cells.length = 6 := rfl
    rw [List.flatMap_cons, List.set_cons_zero, List.flatMap_cons, Nat.zero_mul, Nat.zero_add, List.set_append_left _ _ (by rw [hx]; exact hj)]
    rw [show x.cells.set j u = e'.cells from hc]
  | x :: r, i + 1, j, u, e', h, hj, hc => by
    have hx : x.cells.length = 6 := rfl
    have hi : i < r.length := by simpa using h
    rw [List.flatMap_cons, List.set_cons_succ, List.flatMap_cons, List.set_append_right _ _ (by rw [hx]; omega), hx, show (i + 1) * 6 + j - 6 = i * 6 + j by omega, evs_set r i j u e' hi hj (by simpa using hc)]
/-- A number of one event set. -/
theorem MdH.setE {w W : World} {b lo gd n g c i j : Nat} {V u1 u2 : Value} {ss : List ByteArray} {fs : List Pr} {l : List Ev} (h : MdH w W b lo gd n V u1 u2 (.slice (some ⟨g, 0, none⟩) l.length c) ss fs l) (hi : i < l.length) (hj : j < 6) (u : Value) (e' : Ev) (hc : l[i].cells.set j u = e'.cells) (he : ShEv e') : MdH w (W.setCell ⟨g, i * 6 + j, none⟩ u) b lo gd n V u1 u2 (.slice (some ⟨g, 0, none⟩) l.length c) ss fs (l.set i e') := by
  have ho := own_setc (i := i * 6 + j) h.ol u
  rw [evs_set l i j u e' hi hj hc] at ho
  refine h.evs (Chg.of_grown (grown_set W g (i * 6 + j) u) rfl) (by rw [List.length_set]; exact ho) (fun x hx => ?_)
  rcases List.mem_or_eq_of_mem_set hx with hx | rfl
  · exact h.se x hx
  · exact he
theorem MdH.cells {w W : World} {b lo gd n : Nat} {V u1 u2 v : Value} {ss : List ByteArray} {fs : List Pr} {l : List Ev} (h : MdH w W b lo gd n V u1 u2 v ss fs l) : W.cell? ⟨gd, 0, none⟩ = some u1 ∧ W.cell? ⟨gd, 1, none⟩ = some u2 :=
  ⟨by rw [Lib.cell_of_heap h.hd]; rfl, by rw [Lib.cell_of_heap h.hd]; rfl⟩
/-- What l04History answers. -/
structure HiDr (w W : World) (b n : Nat) (V u1 u2 v : Value) (ss : List ByteArray) (fs : List Pr) (l : List Ev) : Prop where
  dr : Drw W b V n
  o1 : W.ownsRow w.heap.size 9 1 u1 ss.length (ss.map Value.string)
  o2 : W.ownsRow w.heap.size 116 2 u2 fs.length (fs.flatMap Pr.cells)
  ol : W.ownsRow w.heap.size 33 6 v l.length (l.flatMap Ev.cells)
  gr : w.grownBy W (some b)
  len : ss.length ≤ 5 ∧ fs.length ≤ 10
  sh : ShD ss fs
  se : ∀ e ∈ l, ShEv e
theorem MdH.fin {w W : World} {b lo gd n : Nat} {V u1 u2 v : Value} {ss : List ByteArray} {fs : List Pr} {l : List Ev} (h : MdH w W b lo gd n V u1 u2 v ss fs l) : HiDr w ((W.setCell ⟨w.heap.size, 0, none⟩ u1).setCell ⟨w.heap.size, 1, none⟩ u2) b n V u1 u2 v ss fs l := by
  have h1 := h.l1
  have h2 := h.l2
  have hc : Chg (fun j => j = w.heap.size) W ((W.setCell ⟨w.heap.size, 0, none⟩ u1).setCell ⟨w.heap.size, 1, none⟩ u2) := ((Chg.refl _ _).seq _ _).seq _ _
  exact ⟨h.dr.chg hc (fun k hk => by omega), ownB_le (own_chg h.o1 hc (fun g hg e => by have := (own_lt h.o1 g hg).1; omega)) (by omega), ownB_le (own_chg h.o2 hc (fun g hg e => by have := (own_lt h.o2 g hg).1; omega)) (by omega), ownB_le (own_chg h.ol hc (fun g hg e => by have := (own_lt h.ol g hg).1; omega)) (by omega),
    grown_chg h.gr hc (fun k hk => by omega), h.len, h.sh, h.se⟩
theorem own_made6' (w : World) (T : TypeId) : (w.alloc (.cells #[] T)).ownsRow w.heap.size T 6 (.slice (some ⟨w.heap.size, 0, none⟩) 0 0) 0 [] :=
  ⟨rfl, .inr ⟨w.heap.size, 0, #[], rfl, Nat.le_refl _, by show (w.heap.push (Obj.cells #[] T))[w.heap.size]? = some _; simp, Nat.le_refl _, Nat.zero_le _, rfl, rfl⟩⟩
theorem MdH.start {w W0 W1 : World} {b n : Nat} {V u1 u2 : Value} {ss : List ByteArray} {fs : List Pr} (hs0 : W0.heap.size = w.heap.size + 1) (hg0 : w.grownBy W0 (some b))
    (r1 : W0.heap[w.heap.size]? = some (.cells [.slice none 0 0, .slice none 0 0].toArray 26 (0, 0))) (hb : b < w.heap.size) (h : DfDr W0 W1 b n V u1 u2 ss fs) :
    MdH w ((W1.alloc (.cells [u1, u2].toArray 26)).alloc (.cells #[] 33)) b (w.heap.size + 1) W1.heap.size n V u1 u2 (.slice (some ⟨W1.heap.size + 1, 0, none⟩) 0 0) ss fs [] := by
  have hB : Below W1.heap.size W1 ((W1.alloc (.cells [u1, u2].toArray 26)).alloc (.cells #[] 33)) := ((Below.refl _ _).alloc (Nat.le_refl _) _).alloc (by simp) _
  have hz := h.gr.size
  have kp : ∀ k o, W0.heap[k]? = some o → k ≠ b → W1.heap[k]? = some o := fun k o hk hn => (h.gr.block k (lt_heap hk) (by simp; exact hn)).trans hk
  have qe := own_made6' (W1.alloc (.cells [u1, u2].toArray 26)) 33
  rw [show (W1.alloc (.cells [u1, u2].toArray 26)).heap.size = W1.heap.size + 1 by simp] at qe
  have hr := kp _ _ r1 (by omega)
  exact ⟨h.dr.below hB, (Below.heap_alloc _ _ _ (by simp)).trans (heap_alloc_new W1 _), (hB.block _ (lt_heap hr)).trans hr, by rw [← hs0]; exact ownB_stay h.o1 hB, by rw [← hs0]; exact ownB_stay h.o2 hB, ownB_le qe (by omega), grown_trans (grown_trans hg0 h.gr) (grown_below hB), hb, Nat.le_refl _, by omega, h.len, h.sh, fun e he => by cases he⟩
theorem own_farH {w : World} {base n c : Nat} {e : TypeId} {a : Option Addr} {l : List ByteArray} {b : Nat} (h : w.ownsRow base e 1 (.slice a n c) n (l.map Value.string)) (hb : b < base) : ∀ g o, a = some ⟨g, o, none⟩ → 0 < l.length → b < g := fun g o ha _ => by
  have := (h.lt g (by rw [ha]; rfl)).1; omega
theorem nextH_any {W : World} {b n : Nat} {V : Value} {lo k3 k4 k5 : Nat} {a3 a4 a5 : Option Addr} {S : St} (hd : Drw W b V n) (os : StOwn W lo (.slice a3 S.wait.length k3) (.slice a4 S.busy.length k4) (.slice a5 S.vars.length k5) S) (sm : SmS S) (hb : b < lo) (run sq : Int) :
    Calls Tryz.prog 49 #[.pointer (some ⟨b, 0, none⟩), stV a3 a4 a5 k3 k4 k5 S, .int .i64 run, .int .i64 sq] W fun e w' => ∃ v : Ev, e = .returned (.agg v.cells.toArray) ∧ v.step.size ≤ 100 ∧ v.val.size ≤ 100 ∧ Drw w' b V n ∧ W.grownBy w' (some b) ∧ KdE v.kind :=
  drawNextK_any b n V S.status S.begun S.last S.faults run sq a3 a4 a5 S.vars.length k3 k4 k5 S.wait S.busy W hd (str_of_own os.o3) (str_of_own os.o4) sm.sw sm.sb (by have := sm.w; omega) (by have := sm.b; omega) (own_farH os.o3 hb) (own_farH os.o4 hb) (by have := sm.l; omega)
theorem ofS_stP {ss : List ByteArray} {fs : List Pr} (D : DefP ss fs) : ∀ (es : List Ev) (S : St), StP ss S → StP ss (ofS ss fs es S).2
  | [], S, h => h
  | x :: r, S, h => by
    unfold ofS
    by_cases h0 : (evS ss fs S x).1 = 0
    · rw [if_pos h0]; exact ofS_stP D r _ (evS_st D h h0)
    · rw [if_neg h0]; exact z0_right ss
end Go.Proofs.YthggcdadipjiiaaGreatDoor
