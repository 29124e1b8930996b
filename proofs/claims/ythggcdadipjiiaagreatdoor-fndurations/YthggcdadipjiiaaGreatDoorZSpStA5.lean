/-
  Texts put together: SpStA, OfM, OfR, HistM, DuM.
-/
import Derived.Test.YthggcdadipjiiaaGreatDoorZSpStepG
import Derived.Test.YthggcdadipjiiaaGreatDoorZIsErr4
import Derived.Test.YthggcdadipjiiaaGreatDoorZDfV3
import Derived.Test.YthggcdadipjiiaaGreatDoorZEvT5
import Derived.Test.YthggcdadipjiiaaGreatDoorZNm4
import Derived.Test.YthggcdadipjiiaaGreatDoorZKeyM3
/-
  What spec.l03Step answers at every right event: a contract over the seat's program. (Cut off SpStS.)
-/
namespace Go.Proofs.YthggcdadipjiiaaGreatDoor
open Go.RowKit Go.Sort

abbrev stV (a3 a4 a5 : Option Addr) (k3 k4 k5 : Nat) (S : St) : Value := .agg #[.int .i64 S.status, .int .i64 S.begun, .int .i64 S.last, .slice a3 S.wait.length k3, .slice a4 S.busy.length k4, .slice a5 S.vars.length k5, .int .i64 S.faults]
theorem ev_kind {e : Ev} (h : evB e = true) : e.kind = 1 ∨ e.kind = 2 ∨ e.kind = 3 ∨ e.kind = 4 ∨ e.kind = 5 ∨ e.kind = 6 := by
  have hk := (ev_parts h).2
  unfold kndB at hk
  split at hk
  · omega
  · split at hk
    · omega
    · split at hk
      · omega
      · cases hk
theorem ev_size {e : Ev} (h : evB e = true) : e.step.size ≤ 20 ∧ e.val.size ≤ 40 := by
  have hk := (ev_parts h).2
  unfold kndB at hk
  have nz : ∀ s : ByteArray, nrB s = true → s.size ≤ 20 := fun s h => by unfold nrB at h; simp only [Bool.and_eq_true, decide_eq_true_eq] at h; exact h.2.1
  split at hk
  · simp only [Bool.and_eq_true, decide_eq_true_eq] at hk
    rw [hk.1, hk.2]; decide
  · split at hk
    · simp only [Bool.and_eq_true, decide_eq_true_eq] at hk
      rw [hk.2]
      exact ⟨nz _ hk.1, by decide⟩
    · split at hk
      · simp only [Bool.and_eq_true, decide_eq_true_eq] at hk
        exact ⟨nz _ hk.1, hk.2⟩
      · cases hk
/-- What is small of a right State. -/
theorem stP_small {ss : List ByteArray} {S : St} (h : StP ss S) : S.wait.length ≤ 40 ∧ S.busy.length ≤ 40 ∧ S.vars.length ≤ 20 ∧ 0 ≤ S.faults := by
  rcases h with ⟨_, h⟩ | ⟨_, h⟩ | ⟨_, _, h⟩
  · have := h.w; have := h.b; have := h.v0; have := h.f0; omega
  · have := h.m; have := h.v.n; have := tim_iff.1 h.f; omega
  · have := h.m; have := h.v.n; have := tim_iff.1 h.f; omega
structure StSl (w : World) (a3 a4 a5 : Option Addr) (k3 k4 k5 : Nat) (S : St) : Prop where
  h3 : StrSl w (.slice a3 S.wait.length k3) S.wait
  h4 : StrSl w (.slice a4 S.busy.length k4) S.busy
  h5 : PrSl w (.slice a5 S.vars.length k5) S.vars
theorem StSl.stay {w w' : World} {a3 a4 a5 : Option Addr} {k3 k4 k5 : Nat} {S : St} (h : StSl w a3 a4 a5 k3 k4 k5 S) (hb : Below w.heap.size w w') : StSl w' a3 a4 a5 k3 k4 k5 S := ⟨h.h3.stay hb (Nat.le_refl _), h.h4.stay hb (Nat.le_refl _), h.h5.stay hb (Nat.le_refl _)⟩
theorem StepPost.mono {n m : Nat} {w w0 : World} {c : Int} {S : St} {x : Ending} {w' : World} (h : StepPost n w c S x w') (hn : m ≤ n) (hb : Below w0.heap.size w0 w) : StepPost m w0 c S x w' := by
  obtain ⟨u3, u4, u5, hx, hO, hB⟩ := h
  exact ⟨u3, u4, u5, hx, ⟨ownB_le hO.o3 hn, ownB_le hO.o4 hn, ownB_le hO.o5 hn, hO.a34⟩, hb.trans (hB.mono hb.size)⟩
theorem l03Step_any (a1 a2 a3 a4 a5 : Option Addr) (k1 k2 k3 k4 k5 : Nat) (ss : List ByteArray) (fs : List Pr) (S : St) (e : Ev) (w : World) (hD : DefSl w a1 a2 k1 k2 ss fs) (hT : StSl w a3 a4 a5 k3 k4 k5 S) (h0 : 0 < ss.length) (hfl : fs.length ≤ 40) (n3 : S.wait.length ≤ 1000) (n4 : S.busy.length ≤ 1000) (n5 : S.vars.length ≤ 1000) (hf0 : 0 ≤ S.faults) (hkk : e.kind = 1 ∨ e.kind = 2 ∨ e.kind = 3 ∨ e.kind = 4 ∨ e.kind = 5 ∨ e.kind = 6) :
    Calls Tryz.prog 50 #[defV a1 a2 k1 k2 ss fs, stV a3 a4 a5 k3 k4 k5 S, evV e] w fun x w' => StepPost w.heap.size w (stepS ss fs S e).1 (stepS ss fs S e).2 x w' := by
  unfold stepS
  by_cases hk : e.kind = 1
  · by_cases hs : S.status = 0
    · rw [if_pos (show awB S.status e.kind = true by unfold awB; rw [if_pos hk, hs]; rfl)]
      by_cases ht : e.time < S.last
      · rw [if_pos ht]; exact l03Step_early1 a1 a2 a3 a4 a5 k1 k2 k3 k4 k5 ss fs _ _ _ _ _ _ _ _ _ _ _ _ _ w hk hs ht
      · rw [if_neg ht]; exact l03Step_go1 a1 a2 a3 a4 a5 k1 k2 k3 k4 k5 ss fs _ _ _ _ _ _ _ _ _ _ _ _ _ w hD.h1 hD.h2 hT.h3 hT.h4 hT.h5 h0 hfl hD.l1 hD.l2 n3 n4 n5 hf0 hkk hk hs ht
    · rw [if_neg (show ¬ awB S.status e.kind = true by unfold awB; rw [if_pos hk]; simpa using hs)]
      exact l03Step_state1 a1 a2 a3 a4 a5 k1 k2 k3 k4 k5 ss fs _ _ _ _ _ _ _ _ _ _ _ _ _ w (by rw [hk]; rfl) hs
  · by_cases hs : S.status = 1
    · rw [if_pos (show awB S.status e.kind = true by unfold awB; rw [if_neg hk, hs]; rfl)]
      by_cases ht : e.time < S.last
      · rw [if_pos ht]; exact l03Step_early2 a1 a2 a3 a4 a5 k1 k2 k3 k4 k5 ss fs _ _ _ _ _ _ _ _ _ _ _ _ _ w hk hs ht
      · rw [if_neg ht]; exact l03Step_go2 a1 a2 a3 a4 a5 k1 k2 k3 k4 k5 ss fs _ _ _ _ _ _ _ _ _ _ _ _ _ w hD.h1 hD.h2 hT.h3 hT.h4 hT.h5 h0 hfl hD.l1 hD.l2 n3 n4 n5 hf0 hkk hk hs ht
    · rw [if_neg (show ¬ awB S.status e.kind = true by unfold awB; rw [if_neg hk]; simpa using hs)]
      exact l03Step_state2 a1 a2 a3 a4 a5 k1 k2 k3 k4 k5 ss fs _ _ _ _ _ _ _ _ _ _ _ _ _ w hk hs
open Classical in
/-- What StateStep answers. -/
noncomputable def rS (ss : List ByteArray) (fs : List Pr) (S : St) (e : Ev) : Int × St := if (DefP ss fs ∧ StP ss S) ∧ evB e = true then stepS ss fs S e else (1, z0)
theorem StOwn.le {w : World} {lo m : Nat} {v3 v4 v5 : Value} {S : St} (h : StOwn w lo v3 v4 v5 S) (hn : m ≤ lo) : StOwn w m v3 v4 v5 S := ⟨ownB_le h.o3 hn, ownB_le h.o4 hn, ownB_le h.o5 hn, h.a34⟩
theorem StOwn.forms {w : World} {lo : Nat} {v3 v4 v5 : Value} {S : St} (h : StOwn w lo v3 v4 v5 S) : ∃ a3 a4 a5 k3 k4 k5, v3 = .slice a3 S.wait.length k3 ∧ v4 = .slice a4 S.busy.length k4 ∧ v5 = .slice a5 S.vars.length k5 := by
  obtain ⟨a3, k3, h3⟩ := ownB_form h.o3
  obtain ⟨a4, k4, h4⟩ := ownB_form h.o4
  obtain ⟨a5, k5, h5⟩ := ownB_form h.o5
  exact ⟨a3, a4, a5, k3, k4, k5, h3, h4, h5⟩
end Go.Proofs.YthggcdadipjiiaaGreatDoor

/-
  What a row of events makes of the zero State, as StateOf tells it. Of no function.
-/
namespace Go.Proofs.YthggcdadipjiiaaGreatDoor
open Go.RowKit Go.Sort

open Classical in
noncomputable def soS (ss : List ByteArray) (fs : List Pr) (es : List Ev) : Int × St := if 400 < es.length then (2, z0) else if DefP ss fs ∧ es.length ≤ 200 then ofS ss fs es z0 else (1, z0)
theorem soS_big (ss : List ByteArray) (fs : List Pr) {es : List Ev} (h : 400 < es.length) : soS ss fs es = (2, z0) := if_pos h
theorem soS_no (ss : List ByteArray) (fs : List Pr) {es : List Ev} (h : ¬ 400 < es.length) (h2 : ¬ (DefP ss fs ∧ es.length ≤ 200)) : soS ss fs es = (1, z0) := by unfold soS; rw [if_neg h, if_neg h2]
theorem soS_yes (ss : List ByteArray) (fs : List Pr) {es : List Ev} (h : ¬ 400 < es.length) (h1 : DefP ss fs) (h2 : es.length ≤ 200) : soS ss fs es = ofS ss fs es z0 := by unfold soS; rw [if_neg h, if_pos ⟨h1, h2⟩]
theorem z0_sl (w : World) : StSl w none none none 0 0 0 z0 := ⟨.inl ⟨none, 0, rfl, rfl⟩, .inl ⟨none, 0, rfl, rfl⟩, .inl ⟨none, 0, rfl, rfl⟩⟩
theorem z0_right (ss : List ByteArray) : StP ss z0 := .inl ⟨rfl, by constructor <;> rfl⟩
end Go.Proofs.YthggcdadipjiiaaGreatDoor

/-
  The events of a run. Of no function. (Cut off ItrE.)
-/
namespace Go.Proofs.YthggcdadipjiiaaGreatDoor
open Go.RowKit

def ofRun (es : List Ev) (r : Int) : List Ev := es.filter fun e => decide (e.run = r)
end Go.Proofs.YthggcdadipjiiaaGreatDoor

/-
  A history that is right. Of no function.
-/
namespace Go.Proofs.YthggcdadipjiiaaGreatDoor
open Go.RowKit

structure HistP (ss : List ByteArray) (fs : List Pr) (es : List Ev) : Prop where
  d : DefP ss fs
  n : es.length ≤ 200
  r : RiseP es
  o : ∀ e ∈ es, (ofS ss fs (ofRun es e.run) z0).1 = 0
theorem ofRun_len (es : List Ev) (r : Int) : (ofRun es r).length ≤ es.length := List.length_filter_le _ _
theorem ofRun_step (es : List Ev) (r : Int) {p : Ev → Prop} (h : ∀ i, (hi : i < es.length) → p es[i]) : ∀ i, (hi : i < (ofRun es r).length) → p (ofRun es r)[i] := fun i hi => by
  have hm : (ofRun es r)[i] ∈ es := (List.mem_filter.1 (List.getElem_mem hi)).1
  obtain ⟨j, hj, he⟩ := List.mem_iff_getElem.1 hm
  rw [← he]
  exact h j hj
theorem histP_yes {ss : List ByteArray} {fs : List Pr} {es : List Ev} {rs : List Int} (hR : IsRuns es rs) (d : DefP ss fs) (n : es.length ≤ 200) (r : RiseP es) (h : ∀ j, (hj : j < rs.length) → (ofS ss fs (ofRun es rs[j]) z0).1 = 0) : HistP ss fs es :=
  ⟨d, n, r, fun e he => by
    obtain ⟨j, hj, hr⟩ := List.mem_iff_getElem.1 ((hR.mem e.run).2 ⟨e, he, rfl⟩)
    rw [← hr]
    exact h j hj⟩
theorem histP_no {ss : List ByteArray} {fs : List Pr} {es : List Ev} {rs : List Int} (hR : IsRuns es rs) {j : Nat} (hj : j < rs.length) (h : ¬ (ofS ss fs (ofRun es rs[j]) z0).1 = 0) : ¬ HistP ss fs es := fun H => by
  obtain ⟨e, he, hr⟩ := (hR.mem rs[j]).1 (List.getElem_mem hj)
  refine h ?_
  rw [← hr]
  exact H.o e he
/-- Whatever goes through is right. -/
theorem ofS_right {ss : List ByteArray} {fs : List Pr} : ∀ (es : List Ev) (S : St), (ofS ss fs es S).1 = 0 → ∀ e ∈ es, evB e = true
  | [], _, _, _, he => absurd he (by simp)
  | x :: r, S, h, e, he => by
    have hx : (evS ss fs S x).1 = 0 := by
      by_cases q : (evS ss fs S x).1 = 0
      · exact q
      · simp only [ofS, if_neg q] at h
        exact absurd h q
    have hb : evB x = true := by
      by_cases q : evB x = true
      · exact q
      · simp only [evS, if_neg q] at hx
        exact absurd hx (by decide)
    rcases List.mem_cons.1 he with rfl | he
    · exact hb
    · simp only [ofS, if_pos hx] at h
      exact ofS_right r _ h e he
theorem HistP.ev {ss : List ByteArray} {fs : List Pr} {es : List Ev} (h : HistP ss fs es) : ∀ e ∈ es, evB e = true := fun e he =>
  ofS_right _ _ (h.o e he) e (List.mem_filter.2 ⟨he, by simp⟩)
end Go.Proofs.YthggcdadipjiiaaGreatDoor

/-
  How long steps lasted: what is told of each, by the lastings alone; the same, told in another order. Of no function.
-/
namespace Go.Proofs.YthggcdadipjiiaaGreatDoor
open Go.RowKit Go.Sort
set_option linter.unusedVariables false

/-- What is told of a step. -/
structure Dur where
  step : ByteArray
  count : Int
  sum : Int
  least : Int
  most : Int
def Dur.cells (d : Dur) : List Value := [.string d.step, .int .i64 d.count, .int .i64 d.sum, .int .i64 d.least, .int .i64 d.most]
/-- It tells of just these lastings. -/
structure DurOf (d : Dur) (l : List Int) : Prop where
  c : d.count = l.length
  s : d.sum = l.sum
  l0 : d.least ∈ l
  l1 : ∀ x ∈ l, d.least ≤ x
  m0 : d.most ∈ l
  m1 : ∀ x ∈ l, x ≤ d.most
theorem sum_perm {l m : List Int} (h : l.Perm m) : l.sum = m.sum := by
  induction h with
  | nil => rfl
  | cons x _ ih => simp [ih]
  | swap x y l => simp; omega
  | trans _ _ i1 i2 => exact i1.trans i2
theorem DurOf.eq {d e : Dur} {l m : List Int} (h : DurOf d l) (k : DurOf e m) (hp : l.Perm m) (hs : d.step = e.step) : d = e := by
  obtain ⟨s, c, u, a, b⟩ := d
  obtain ⟨s', c', u', a', b'⟩ := e
  have h1 := h.c
  have h2 := k.c
  have h3 := h.s
  have h4 := k.s
  have hl := hp.length_eq
  have hsum := sum_perm hp
  have q1 := h.l1 a' (hp.mem_iff.2 k.l0)
  have q2 := k.l1 a (hp.mem_iff.1 h.l0)
  have q3 := h.m1 b' (hp.mem_iff.2 k.m0)
  have q4 := k.m1 b (hp.mem_iff.1 h.m0)
  simp only at h1 h2 h3 h4 hs q1 q2 q3 q4
  subst hs
  have e1 : c = c' := by omega
  have e2 : u = u' := by omega
  have e3 : a = a' := by omega
  have e4 : b = b' := by omega
  subst e1; subst e2; subst e3; subst e4; rfl
/-- They tell of the steps that lasted, in order. -/
structure IsDurs (out : List Dur) (D : ByteArray → List Int) : Prop where
  rise : out.Pairwise (fun a b => lt a.step b.step = true)
  mem : ∀ s, (∃ e ∈ out, e.step = s) ↔ D s ≠ []
  tell : ∀ e ∈ out, DurOf e (D e.step)
theorem rise_eq : ∀ {l m : List Dur}, l.Pairwise (fun a b => lt a.step b.step = true) → m.Pairwise (fun a b => lt a.step b.step = true) → (∀ e, e ∈ l ↔ e ∈ m) → l = m
  | [], [], _, _, _ => rfl
  | [], y :: m, _, _, h => absurd ((h y).2 List.mem_cons_self) (by simp)
  | x :: l, [], _, _, h => absurd ((h x).1 List.mem_cons_self) (by simp)
  | x :: l, y :: m, hl, hm, h => by
    obtain ⟨hx, hl'⟩ := List.pairwise_cons.1 hl
    obtain ⟨hy, hm'⟩ := List.pairwise_cons.1 hm
    have e : x = y := by
      rcases List.mem_cons.1 ((h x).1 List.mem_cons_self) with e | e
      · exact e
      · rcases List.mem_cons.1 ((h y).2 List.mem_cons_self) with e' | e'
        · exact e'.symm
        · have := lt_as (hy x e); rw [hx y e'] at this; cases this
    subst e
    refine congrArg (x :: ·) (rise_eq hl' hm' fun e => ⟨fun he => ?_, fun he => ?_⟩)
    · rcases List.mem_cons.1 ((h e).1 (List.mem_cons_of_mem _ he)) with q | q
      · exact absurd rfl (lt_ne (q ▸ hx e he))
      · exact q
    · rcases List.mem_cons.1 ((h e).2 (List.mem_cons_of_mem _ he)) with q | q
      · exact absurd rfl (lt_ne (q ▸ hy e he))
      · exact q
theorem nil_perm {l m : List Int} (h : l.Perm m) : l ≠ [] ↔ m ≠ [] := by
  constructor
  · rintro h1 rfl; exact h1 h.eq_nil
  · rintro h1 rfl; exact h1 h.symm.eq_nil
theorem IsDurs.sub {out out' : List Dur} {D D' : ByteArray → List Int} (h : IsDurs out D) (h' : IsDurs out' D') (hp : ∀ s, (D s).Perm (D' s)) {e : Dur} (he : e ∈ out) : e ∈ out' := by
  obtain ⟨e', h1, h2⟩ := (h'.mem e.step).2 ((nil_perm (hp e.step)).1 ((h.mem e.step).1 ⟨e, he, rfl⟩))
  have := (h.tell e he).eq (h'.tell e' h1) (by rw [h2]; exact hp e.step) h2.symm
  rw [this]; exact h1
/-- What is told of the same lastings, in whatever order, is the same. -/
theorem IsDurs.uniq {out out' : List Dur} {D D' : ByteArray → List Int} (h : IsDurs out D) (h' : IsDurs out' D') (hp : ∀ s, (D s).Perm (D' s)) : out = out' :=
  rise_eq h.rise h'.rise fun e => ⟨fun he => h.sub h' hp he, fun he => h'.sub h (fun s => (hp s).symm) he⟩
theorem byt_inj {a b : ByteArray} (h : a.toList = b.toList) : a = b := by
  rw [ByteArray.toList_eq, ByteArray.toList_eq] at h
  exact ByteArray.ext (Array.toList_inj.1 h)
def minI (a b : Int) : Int := if a < b then a else b
def maxI (a b : Int) : Int := if b < a then a else b
def Dur.more (d : Dur) (n : Int) : Dur := ⟨d.step, d.count + 1, d.sum + n, minI d.least n, maxI d.most n⟩
theorem DurOf.more {d : Dur} {l : List Int} (h : DurOf d l) (n : Int) : DurOf (d.more n) (l ++ [n]) := by
  have h1 := h.c
  have h2 := h.s
  refine ⟨?_, ?_, ?_, fun x hx => ?_, ?_, fun x hx => ?_⟩
  · show d.count + 1 = _; simp; omega
  · show d.sum + n = _; simp; omega
  · show minI d.least n ∈ _
    unfold minI
    split
    · exact List.mem_append_left _ h.l0
    · simp
  · show minI d.least n ≤ x
    unfold minI
    rcases List.mem_append.1 hx with hx | hx
    · have := h.l1 x hx; split <;> omega
    · have : x = n := by simpa using hx
      split <;> omega
  · show maxI d.most n ∈ _
    unfold maxI
    split
    · exact List.mem_append_left _ h.m0
    · simp
  · show x ≤ maxI d.most n
    unfold maxI
    rcases List.mem_append.1 hx with hx | hx
    · have := h.m1 x hx; split <;> omega
    · have : x = n := by simpa using hx
      split <;> omega
def newD (s : ByteArray) (n : Int) : Dur := ⟨s, 1, n, n, n⟩
theorem newD_of (s : ByteArray) (n : Int) : DurOf (newD s n) [n] := ⟨rfl, by simp [newD], by simp [newD], by simp [newD], by simp [newD], by simp [newD]⟩
/-- A lasting is put to a step's. -/
def addD : List Dur → ByteArray → Int → List Dur
  | [], s, n => [newD s n]
  | d :: r, s, n => if lt d.step s = true then d :: addD r s n else if d.step = s then d.more n :: r else newD s n :: d :: r
theorem addD_mem {s : ByteArray} {n : Int} {e : Dur} : ∀ {l : List Dur}, l.Pairwise (fun a b => lt a.step b.step = true) → (e ∈ addD l s n ↔ (e ∈ l ∧ e.step ≠ s) ∨ (∃ d ∈ l, d.step = s ∧ e = d.more n) ∨ ((∀ d ∈ l, d.step ≠ s) ∧ e = newD s n))
  | [], _ => by simp [addD]
  | x :: r, h => by
    obtain ⟨hx, hr⟩ := List.pairwise_cons.1 h
    unfold addD
    by_cases h1 : lt x.step s = true
    · rw [if_pos h1]
      have hn := lt_ne h1
      rw [List.mem_cons, addD_mem hr]
      constructor
      · rintro (rfl | ⟨h2, h3⟩ | ⟨d, h2, h3, h4⟩ | ⟨h2, h3⟩)
        · exact .inl ⟨List.mem_cons_self, hn⟩
        · exact .inl ⟨List.mem_cons_of_mem _ h2, h3⟩
        · exact .inr (.inl ⟨d, List.mem_cons_of_mem _ h2, h3, h4⟩)
        · exact .inr (.inr ⟨fun d hd => by
            rcases List.mem_cons.1 hd with rfl | hd
            · exact hn
            · exact h2 d hd, h3⟩)
      · rintro (⟨h2, h3⟩ | ⟨d, h2, h3, h4⟩ | ⟨h2, h3⟩)
        · rcases List.mem_cons.1 h2 with rfl | h2
          · exact .inl rfl
          · exact .inr (.inl ⟨h2, h3⟩)
        · rcases List.mem_cons.1 h2 with rfl | h2
          · exact absurd h3 hn
          · exact .inr (.inr (.inl ⟨d, h2, h3, h4⟩))
        · exact .inr (.inr (.inr ⟨fun d hd => h2 d (List.mem_cons_of_mem _ hd), h3⟩))
    · rw [if_neg h1]
      by_cases h2 : x.step = s
      · rw [if_pos h2, List.mem_cons]
        constructor
        · rintro (rfl | h3)
          · exact .inr (.inl ⟨x, List.mem_cons_self, h2, rfl⟩)
          · exact .inl ⟨List.mem_cons_of_mem _ h3, fun q => lt_ne (hx e h3) (h2.trans q.symm)⟩
        · rintro (⟨h3, h4⟩ | ⟨d, h3, h4, rfl⟩ | ⟨h3, _⟩)
          · rcases List.mem_cons.1 h3 with rfl | h3
            · exact absurd h2 h4
            · exact .inr h3
          · rcases List.mem_cons.1 h3 with rfl | h3
            · exact .inl rfl
            · exact absurd (h2.trans h4.symm) (lt_ne (hx d h3))
          · exact absurd h2 (h3 x List.mem_cons_self)
      · rw [if_neg h2, List.mem_cons]
        have hsx : lt s x.step = true := by
          rcases less_tri x.step.toList s.toList with h | h | h
          · exact absurd h h1
          · exact absurd (byt_inj h) h2
          · exact h
        have hall : ∀ d ∈ x :: r, d.step ≠ s := fun d hd => by
          rcases List.mem_cons.1 hd with rfl | hd
          · exact h2
          · exact (lt_ne (lt_tr hsx (hx d hd))).symm
        constructor
        · rintro (rfl | h3)
          · exact .inr (.inr ⟨hall, rfl⟩)
          · exact .inl ⟨h3, hall e h3⟩
        · rintro (⟨h3, _⟩ | ⟨d, h3, h4, _⟩ | ⟨_, rfl⟩)
          · exact .inr h3
          · exact absurd h4 (hall d h3)
          · exact .inl rfl
theorem addD_step {s : ByteArray} {n : Int} {l : List Dur} (h : l.Pairwise (fun a b => lt a.step b.step = true)) {e : Dur} (he : e ∈ addD l s n) : e.step = s ∨ ∃ d ∈ l, d.step = e.step := by
  rcases (addD_mem h).1 he with ⟨h1, _⟩ | ⟨d, h1, h2, rfl⟩ | ⟨_, rfl⟩
  · exact .inr ⟨e, h1, rfl⟩
  · exact .inl h2
  · exact .inl rfl
theorem addD_rise {s : ByteArray} {n : Int} : ∀ {l : List Dur}, l.Pairwise (fun a b => lt a.step b.step = true) → (addD l s n).Pairwise (fun a b => lt a.step b.step = true)
  | [], _ => by simp [addD]
  | x :: r, h => by
    obtain ⟨hx, hr⟩ := List.pairwise_cons.1 h
    unfold addD
    by_cases h1 : lt x.step s = true
    · rw [if_pos h1]
      refine List.pairwise_cons.2 ⟨fun e he => ?_, addD_rise hr⟩
      rcases addD_step hr he with q | ⟨d, hd, q⟩
      · rw [q]; exact h1
      · rw [← q]; exact hx d hd
    · rw [if_neg h1]
      by_cases h2 : x.step = s
      · rw [if_pos h2]
        exact List.pairwise_cons.2 ⟨fun e he => hx e he, hr⟩
      · rw [if_neg h2]
        have hsx : lt s x.step = true := by
          rcases less_tri x.step.toList s.toList with h | h | h
          · exact absurd h h1
          · exact absurd (byt_inj h) h2
          · exact h
        refine List.pairwise_cons.2 ⟨fun e he => ?_, h⟩
        rcases List.mem_cons.1 he with rfl | he
        · exact hsx
        · exact lt_tr hsx (hx e he)
theorem IsDurs.add {out : List Dur} {D D' : ByteArray → List Int} (h : IsDurs out D) (s : ByteArray) (n : Int) (h1 : D' s = D s ++ [n]) (h2 : ∀ t, t ≠ s → D' t = D t) : IsDurs (addD out s n) D' := by
  refine ⟨addD_rise h.rise, fun t => ⟨fun ⟨e, he, ht⟩ => ?_, fun ht => ?_⟩, fun e he => ?_⟩
  · by_cases q : t = s
    · rw [q, h1]; simp
    · rw [h2 t q]
      rcases (addD_mem h.rise).1 he with ⟨k1, _⟩ | ⟨d, _, k2, rfl⟩ | ⟨_, rfl⟩
      · exact (h.mem t).1 ⟨e, k1, ht⟩
      · exact absurd (ht.symm.trans k2) q
      · exact absurd ht.symm q
  · by_cases q : t = s
    · subst q
      by_cases hd : ∃ d ∈ out, d.step = t
      · obtain ⟨d, k1, k2⟩ := hd
        exact ⟨d.more n, (addD_mem h.rise).2 (.inr (.inl ⟨d, k1, k2, rfl⟩)), k2⟩
      · exact ⟨newD t n, (addD_mem h.rise).2 (.inr (.inr ⟨fun d k1 k2 => hd ⟨d, k1, k2⟩, rfl⟩)), rfl⟩
    · rw [h2 t q] at ht
      obtain ⟨d, k1, k2⟩ := (h.mem t).2 ht
      exact ⟨d, (addD_mem h.rise).2 (.inl ⟨k1, fun e => q (k2.symm.trans e)⟩), k2⟩
  · rcases (addD_mem h.rise).1 he with ⟨k1, k2⟩ | ⟨d, k1, k2, rfl⟩ | ⟨k1, rfl⟩
    · rw [h2 _ k2]; exact h.tell e k1
    · show DurOf (d.more n) (D' d.step)
      rw [k2, h1, ← k2]
      exact (h.tell d k1).more n
    · show DurOf (newD s n) (D' s)
      have : D s = [] := by
        by_cases q : D s = []
        · exact q
        · obtain ⟨d, q1, q2⟩ := (h.mem s).2 q
          exact absurd q2 (k1 d q1)
      rw [h1, this]
      exact newD_of s n
theorem isDurs_nil {D : ByteArray → List Int} (h : ∀ s, D s = []) : IsDurs [] D := ⟨List.Pairwise.nil, fun s => by simp [h s], fun e he => by cases he⟩
end Go.Proofs.YthggcdadipjiiaaGreatDoor
