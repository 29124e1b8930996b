/-
  Texts put together: DuE, DuF, DuI.
-/
import Derived.Test.YthggcdadipjiiaaGreatDoorZSpStA5
/-
  How long steps lasted in a history: each that was left was entered ahead of it, as often; the lastings by runs, and as they come. Of no function.
-/
namespace Go.Proofs.YthggcdadipjiiaaGreatDoor
open Go.RowKit Go.Sort
set_option linter.unusedVariables false

/-- How many events of a kind, at a step. -/
def nS (k : Int) (s : ByteArray) (es : List Ev) : Nat := es.countP fun e => decide (e.kind = k ∧ e.step = s)
def nB (s : ByteArray) (l : List ByteArray) : Nat := l.countP fun x => decide (x = s)
theorem doS_busy {ss : List ByteArray} {fs : List Pr} {S : St} {e : Ev} (h0 : (doS ss fs S e).1 = 0) (s : ByteArray) : nB s (doS ss fs S e).2.busy + nS 3 s [e] = nB s S.busy + nS 2 s [e] := by
  unfold doS at h0 ⊢
  by_cases k1 : e.kind = 1
  · rw [if_pos k1]; simp [nS, k1]
  · rw [if_neg k1] at h0 ⊢
    by_cases k2 : e.kind = 2
    · rw [if_pos k2] at h0 ⊢
      by_cases hm : atI S.wait e.step < 0
      · rw [if_pos hm] at h0; exact absurd h0 (by decide)
      · rw [if_neg hm]
        have := (put_perm S.busy e.step).countP_eq (fun x => decide (x = s))
        show nB s (putT S.busy e.step) + _ = _
        unfold nB nS
        rw [this]
        by_cases q : e.step = s <;> simp [k2, q]
    · rw [if_neg k2] at h0 ⊢
      by_cases k3 : e.kind = 3
      · rw [if_pos k3] at h0 ⊢
        by_cases hm : atI S.busy e.step < 0
        · rw [if_pos hm] at h0; exact absurd h0 (by decide)
        · rw [if_neg hm] at h0 ⊢
          by_cases hf : 40 < (putF e.step fs S.wait).length + (outT S.busy (atI S.busy e.step).toNat).length
          · rw [if_pos hf] at h0; exact absurd h0 (by decide)
          · rw [if_neg hf]
            obtain ⟨k, hk, ek, hx⟩ := atI_in (at_lt hm).2
            have hkk : (atI S.busy e.step).toNat = k := by rw [ek]; simp
            have hp := (out_perm hk).countP_eq (fun x => decide (x = s))
            show nB s (outT S.busy (atI S.busy e.step).toNat) + _ = _
            rw [hkk]
            rw [hx.1] at hp
            unfold nB nS
            by_cases q : e.step = s
            · simp [q] at hp; simp [k3, q]; omega
            · simp [q] at hp; simp [k3, q]; omega
      · rw [if_neg k3] at h0 ⊢
        by_cases k4 : e.kind = 4
        · rw [if_pos k4] at h0 ⊢
          by_cases hf : 20 < (setV S.vars ⟨e.step, e.val⟩).length
          · rw [if_pos hf] at h0; exact absurd h0 (by decide)
          · rw [if_neg hf]; simp [nS, k4]
        · rw [if_neg k4] at h0 ⊢
          by_cases k5 : e.kind = 5
          · rw [if_pos k5] at h0 ⊢
            by_cases hm : atI S.busy e.step < 0
            · rw [if_pos hm] at h0; exact absurd h0 (by decide)
            · rw [if_neg hm] at h0 ⊢
              by_cases hf : 1000000 ≤ S.faults
              · rw [if_pos hf] at h0; exact absurd h0 (by decide)
              · rw [if_neg hf]; simp [nS, k5]
          · rw [if_neg k5] at h0 ⊢
            by_cases hm : 0 < S.wait.length + S.busy.length
            · rw [if_pos hm] at h0; exact absurd h0 (by decide)
            · rw [if_neg hm]; simp [nS, k2, k3]
theorem evS_busy {ss : List ByteArray} {fs : List Pr} {S : St} {e : Ev} (h0 : (evS ss fs S e).1 = 0) (s : ByteArray) : nB s (evS ss fs S e).2.busy + nS 3 s [e] = nB s S.busy + nS 2 s [e] := by
  unfold evS at h0 ⊢
  by_cases he : evB e = true
  · rw [if_pos he] at h0 ⊢
    unfold stepS at h0 ⊢
    by_cases ha : awB S.status e.kind = true
    · rw [if_pos ha] at h0 ⊢
      by_cases hl : e.time < S.last
      · rw [if_pos hl] at h0; exact absurd h0 (by decide)
      · rw [if_neg hl] at h0 ⊢; exact doS_busy h0 s
    · rw [if_neg ha] at h0; exact absurd h0 (by decide)
  · rw [if_neg he] at h0; exact absurd h0 (by decide)
theorem nS_cons (k : Int) (s : ByteArray) (e : Ev) (r : List Ev) : nS k s (e :: r) = nS k s [e] + nS k s r := by
  unfold nS; rw [show e :: r = [e] ++ r from rfl, List.countP_append]
theorem ofS_busy {ss : List ByteArray} {fs : List Pr} (s : ByteArray) : ∀ (es : List Ev) (S : St), (ofS ss fs es S).1 = 0 → nB s (ofS ss fs es S).2.busy + nS 3 s es = nB s S.busy + nS 2 s es
  | [], S, _ => by simp [ofS, nS]
  | e :: r, S, h => by
    unfold ofS at h ⊢
    by_cases h0 : (evS ss fs S e).1 = 0
    · rw [if_pos h0] at h ⊢
      have h1 := ofS_busy s r _ h
      have h2 := evS_busy h0 s
      rw [nS_cons 3, nS_cons 2]; omega
    · rw [if_neg h0] at h; exact absurd h h0
theorem ofS_pre {ss : List ByteArray} {fs : List Pr} : ∀ (a b : List Ev) (S : St), (ofS ss fs (a ++ b) S).1 = 0 → (ofS ss fs a S).1 = 0
  | [], _, _, _ => rfl
  | e :: r, b, S, h => by
    rw [List.cons_append] at h
    unfold ofS at h ⊢
    by_cases h0 : (evS ss fs S e).1 = 0
    · rw [if_pos h0] at h ⊢; exact ofS_pre r b _ h
    · rw [if_neg h0] at h; exact absurd h h0
/-- Of that kind, run and step? -/
def isK (k r : Int) (s : ByteArray) (e : Ev) : Bool := decide (e.kind = k ∧ e.run = r ∧ e.step = s)
def nK (k r : Int) (s : ByteArray) (es : List Ev) : Nat := es.countP (isK k r s)
theorem nK_run (k r : Int) (s : ByteArray) (es : List Ev) : nK k r s es = nS k s (ofRun es r) := by
  unfold nK nS ofRun
  rw [List.countP_filter]
  congr 1
  funext e
  unfold isK
  by_cases h1 : e.kind = k <;> by_cases h2 : e.run = r <;> by_cases h3 : e.step = s <;> simp [h1, h2, h3]
/-- What was left was entered ahead of it, as often. -/
theorem HistP.bal {ss : List ByteArray} {fs : List Pr} {es : List Ev} (h : HistP ss fs es) (i : Nat) (r : Int) (s : ByteArray) : nK 3 r s (es.take i) ≤ nK 2 r s (es.take i) := by
  rw [nK_run, nK_run]
  by_cases hr : ∃ e ∈ es, e.run = r
  · obtain ⟨e, he, rfl⟩ := hr
    have h0 := h.o e he
    have hsp : ofRun es e.run = ofRun (es.take i) e.run ++ ofRun (es.drop i) e.run := by
      unfold ofRun; rw [← List.filter_append, List.take_append_drop]
    rw [hsp] at h0
    have := ofS_busy s _ _ (ofS_pre _ _ _ h0)
    have hz : nB s z0.busy = 0 := rfl
    omega
  · have : ofRun (es.take i) r = [] := by
      unfold ofRun
      rw [List.filter_eq_nil_iff]
      intro e he
      simpa using fun q => hr ⟨e, List.mem_of_mem_take he, q⟩
    rw [this]; simp [nS]
def ents (es : List Ev) (r : Int) (s : ByteArray) : List Ev := es.filter (isK 2 r s)
def lvs (es : List Ev) (r : Int) (s : ByteArray) : List Ev := es.filter (isK 3 r s)
/-- How long a step lasted in a run, each time that it was left. -/
def lastL (es : List Ev) (r : Int) (s : ByteArray) : List Int := List.zipWith (fun a b => a.time - b.time) (lvs es r s) (ents es r s)
def tOf (l : List Ev) (j : Nat) : Int := match l[j]? with
  | some e => e.time
  | none => 0
/-- What an event makes last. -/
def outE (es : List Ev) (i : Nat) : List (Int × ByteArray × Int) := match es[i]? with
  | some e => if e.kind = 3 then [(e.run, e.step, e.time - tOf (ents es e.run e.step) (nK 3 e.run e.step (es.take i)))] else []
  | none => []
/-- What lasted, as it comes. -/
def outs (es : List Ev) : Nat → List (Int × ByteArray × Int)
  | 0 => []
  | i + 1 => outs es i ++ outE es i
theorem zip_snoc {A B : List Ev} {e : Ev} (h : A.length < B.length) : List.zipWith (fun a b => a.time - b.time) (A ++ [e]) B = List.zipWith (fun a b => a.time - b.time) A B ++ [e.time - tOf B A.length] := by
  induction A generalizing B with
  | nil =>
    cases B with
    | nil => simp at h
    | cons b r => simp [tOf]
  | cons a A ih =>
    cases B with
    | nil => simp at h
    | cons b r =>
      have h' : A.length < r.length := by simpa using h
      have := ih h'
      simp only [List.cons_append, List.zipWith_cons_cons, this]
      simp [tOf]
theorem nK_len (k r : Int) (s : ByteArray) (es : List Ev) : (es.filter (isK k r s)).length = nK k r s es := by unfold nK; rw [List.countP_eq_length_filter]
theorem nK_le (k r : Int) (s : ByteArray) (es : List Ev) (i : Nat) : nK k r s (es.take i) ≤ nK k r s es := by
  unfold nK; conv => rhs; rw [← List.take_append_drop i es]
  rw [List.countP_append]; omega
/-- As they come, by run and step. -/
theorem outs_by {ss : List ByteArray} {fs : List Pr} {es : List Ev} (h : HistP ss fs es) (r : Int) (s : ByteArray) : ∀ i, i ≤ es.length → ((outs es i).filter fun t => decide (t.1 = r ∧ t.2.1 = s)).map (·.2.2) = List.zipWith (fun a b => a.time - b.time) (lvs (es.take i) r s) (ents es r s)
  | 0, _ => by simp [outs, lvs]
  | i + 1, hi => by
    have hlt : i < es.length := by omega
    have ih := outs_by h r s i (by omega)
    unfold outs
    rw [List.filter_append, List.map_append, ih]
    have hl : lvs (es.take (i + 1)) r s = lvs (es.take i) r s ++ (if isK 3 r s es[i] = true then [es[i]] else []) := by
      unfold lvs
      rw [List.take_succ_eq_append_getElem hlt, List.filter_append]
      congr 1
      by_cases q : isK 3 r s es[i] = true <;> simp [q]
    rw [hl]
    unfold outE
    rw [List.getElem?_eq_getElem hlt]
    by_cases hk : isK 3 r s es[i] = true
    · rw [if_pos hk]
      have hk' := hk
      simp only [isK, decide_eq_true_eq] at hk'
      obtain ⟨k1, k2, k3⟩ := hk'
      have hb := h.bal (i + 1) r s
      have h1 : nK 3 r s (es.take (i + 1)) = nK 3 r s (es.take i) + 1 := by
        unfold nK; rw [List.take_succ_eq_append_getElem hlt, List.countP_append]; simp [hk]
      have hlen : (lvs (es.take i) r s).length < (ents es r s).length := by
        have e1 : (lvs (es.take i) r s).length = nK 3 r s (es.take i) := nK_len 3 r s (es.take i)
        have e2 : (ents es r s).length = nK 2 r s es := nK_len 2 r s es
        have := nK_le 2 r s es (i + 1)
        omega
      rw [zip_snoc hlen]
      simp only [k1, if_true, k2, k3]
      have e1 : (lvs (es.take i) r s).length = nK 3 r s (es.take i) := nK_len 3 r s (es.take i)
      rw [e1]
      simp
    · rw [if_neg hk, List.append_nil]
      have : (List.filter (fun t => decide (t.1 = r ∧ t.2.1 = s)) (if es[i].kind = 3 then [(es[i].run, es[i].step, es[i].time - tOf (ents es es[i].run es[i].step) (nK 3 es[i].run es[i].step (es.take i)))] else [])) = [] := by
        by_cases k1 : es[i].kind = 3
        · rw [if_pos k1]
          rw [List.filter_eq_nil_iff]
          intro t ht
          simp at ht
          subst ht
          simp only [isK, decide_eq_true_eq] at hk
          simpa using fun k2 k3 => hk ⟨k1, k2, k3⟩
        · rw [if_neg k1]; rfl
      simp only [this, List.map_nil, List.append_nil]
theorem flat_congr {α β : Type} {f g : α → List β} : ∀ {l : List α}, (∀ a ∈ l, f a = g a) → l.flatMap f = l.flatMap g
  | [], _ => rfl
  | x :: r, h => by
    rw [List.flatMap_cons, List.flatMap_cons, h x List.mem_cons_self, flat_congr (l := r) (fun a ha => h a (List.mem_cons_of_mem _ ha))]
/-- By runs, each once, they are all. -/
theorem by_runs {α : Type} (f : α → Int) : ∀ (rs : List Int) (L : List α) (p : α → Bool), rs.Nodup → (∀ t ∈ L, p t = true → f t ∈ rs) → (L.filter p).Perm (rs.flatMap fun r => L.filter fun t => decide (f t = r) && p t)
  | [], L, p, _, h => by
    have : L.filter p = [] := by
      rw [List.filter_eq_nil_iff]
      intro t ht hp
      exact absurd (h t ht hp) (by simp)
    rw [this]; exact List.Perm.refl _
  | r :: rs, L, p, hn, h => by
    obtain ⟨h1, h2⟩ := List.nodup_cons.1 hn
    have ih := by_runs f rs L (fun t => !decide (f t = r) && p t) h2 (fun t ht hp => by
      simp at hp
      rcases List.mem_cons.1 (h t ht hp.2) with q | q
      · exact absurd q hp.1
      · exact q)
    have e1 : (rs.flatMap fun r' => L.filter fun t => decide (f t = r') && (!decide (f t = r) && p t)) = rs.flatMap fun r' => L.filter fun t => decide (f t = r') && p t := by
      refine flat_congr fun r' hr' => List.filter_congr fun t _ => ?_
      by_cases q : f t = r'
      · have : ¬ f t = r := fun q' => h1 (by rw [← q', q]; exact hr')
        simp [q]
        intro _ q'; exact this (q.trans q')
      · simp [q]
    rw [e1] at ih
    rw [List.flatMap_cons]
    refine (List.Perm.append_left _ ih).symm.trans ?_ |>.symm
    have e2 : (L.filter fun t => decide (f t = r) && p t) = (L.filter p).filter fun t => decide (f t = r) := by rw [List.filter_filter]
    have e3 : (L.filter fun t => !decide (f t = r) && p t) = (L.filter p).filter fun t => !decide (f t = r) := by rw [List.filter_filter]
    rw [e2, e3]
    exact List.filter_append_perm _ _
end Go.Proofs.YthggcdadipjiiaaGreatDoor

/-
  How long steps lasted in a history: what spec.Durations gathers, event by event, and what it is. Of no function.
-/
namespace Go.Proofs.YthggcdadipjiiaaGreatDoor
open Go.RowKit Go.Sort
set_option linter.unusedVariables false

/-- What is told of what lasted, as it comes. -/
def dursI (es : List Ev) (i : Nat) : List Dur := (outs es i).foldl (fun o t => addD o t.2.1 t.2.2) []
/-- A step's lastings among these. -/
def ofS' (L : List (Int × ByteArray × Int)) (s : ByteArray) : List Int := (L.filter fun t => decide (t.2.1 = s)).map (·.2.2)
theorem isDurs_fold : ∀ (L M : List (Int × ByteArray × Int)) (o : List Dur), IsDurs o (ofS' M) → IsDurs (L.foldl (fun o t => addD o t.2.1 t.2.2) o) (ofS' (M ++ L))
  | [], M, o, h => by simpa using h
  | t :: L, M, o, h => by
    have h1 : IsDurs (addD o t.2.1 t.2.2) (ofS' (M ++ [t])) := h.add t.2.1 t.2.2 (by unfold ofS'; simp) (fun s hs => by unfold ofS'; simp [Ne.symm hs])
    have := isDurs_fold L (M ++ [t]) _ h1
    rw [List.append_assoc] at this
    exact this
theorem dursI_is (es : List Ev) (i : Nat) : IsDurs (dursI es i) (ofS' (outs es i)) := by
  have := isDurs_fold (outs es i) [] [] (isDurs_nil (fun s => rfl))
  simpa [dursI] using this
theorem outs_run {es : List Ev} : ∀ (i : Nat), ∀ t ∈ outs es i, ∃ e ∈ es, e.run = t.1 ∧ e.step = t.2.1 ∧ e.kind = 3
  | 0, t, h => by simp [outs] at h
  | i + 1, t, h => by
    unfold outs at h
    rcases List.mem_append.1 h with h | h
    · exact outs_run i t h
    · unfold outE at h
      cases he : es[i]? with
      | none => rw [he] at h; cases h
      | some e =>
        rw [he] at h
        by_cases hk : e.kind = 3
        · simp only [hk, if_true, List.mem_singleton] at h
          subst h
          exact ⟨e, List.mem_of_getElem? he, rfl, rfl, hk⟩
        · simp only [hk, if_false] at h; cases h
/-- By runs, each once, they are what impl.Durations gathers. -/
theorem durs_perm {ss : List ByteArray} {fs : List Pr} {es : List Ev} {rs : List Int} (h : HistP ss fs es) (hR : IsRuns es rs) (s : ByteArray) : (ofS' (outs es es.length) s).Perm (rs.flatMap fun r => lastL es r s) := by
  unfold ofS'
  have hn : rs.Nodup := hR.rise.imp (fun h => by omega)
  have hp := by_runs (fun t : Int × ByteArray × Int => t.1) rs (outs es es.length) (fun t => decide (t.2.1 = s)) hn (fun t ht _ => by
    obtain ⟨e, he, h1, _⟩ := outs_run _ t ht
    exact (hR.mem _).2 ⟨e, he, h1⟩)
  have hm := hp.map (·.2.2)
  rw [List.map_flatMap] at hm
  refine hm.trans (List.Perm.of_eq (flat_congr fun r _ => ?_))
  have := outs_by h r s es.length (Nat.le_refl _)
  rw [List.take_length] at this
  show List.map _ _ = lastL es r s
  unfold lastL
  rw [← this]
  congr 1
  refine List.filter_congr fun t _ => ?_
  by_cases h1 : t.1 = r <;> by_cases h2 : t.2.1 = s <;> simp [h1, h2]
/-- Is an enter taken when so many events have gone by? -/
def tkn (es : List Ev) (i k : Nat) : Bool := match es[k]? with
  | some e => decide (k < i ∧ e.kind = 2 ∧ nK 2 e.run e.step (es.take k) < nK 3 e.run e.step (es.take i))
  | none => false
theorem nK_succ {es : List Ev} {k : Nat} (h : k < es.length) (q r : Int) (s : ByteArray) : nK q r s (es.take (k + 1)) = nK q r s (es.take k) + if isK q r s es[k] = true then 1 else 0 := by
  unfold nK
  rw [List.take_succ_eq_append_getElem h, List.countP_append]
  by_cases e : isK q r s es[k] = true <;> simp [e]
theorem nK_mono (es : List Ev) (q r : Int) (s : ByteArray) {i j : Nat} (h : i ≤ j) : nK q r s (es.take i) ≤ nK q r s (es.take j) := by
  have := nK_le q r s (es.take j) i
  rwa [List.take_take, Nat.min_eq_left h] at this
/-- The enter with so many of its like ahead of it. -/
theorem find_k {es : List Ev} {r : Int} {s : ByteArray} {L : Nat} : ∀ i, i ≤ es.length → L < nK 2 r s (es.take i) → ∃ k, ∃ hk : k < es.length, k < i ∧ isK 2 r s es[k] = true ∧ nK 2 r s (es.take k) = L
  | 0, _, h => by simp [nK] at h
  | i + 1, hi, h => by
    have hlt : i < es.length := by omega
    rw [nK_succ hlt] at h
    by_cases h1 : L < nK 2 r s (es.take i)
    · obtain ⟨k, hk, h2, h3⟩ := find_k i (by omega) h1
      exact ⟨k, hk, by omega, h3⟩
    · by_cases e : isK 2 r s es[i] = true
      · rw [if_pos e] at h
        exact ⟨i, hlt, by omega, e, by omega⟩
      · rw [if_neg e] at h; omega
theorem ents_at {es : List Ev} {r : Int} {s : ByteArray} {k : Nat} (hk : k < es.length) (h : isK 2 r s es[k] = true) : tOf (ents es r s) (nK 2 r s (es.take k)) = es[k].time := by
  have e : ents es r s = (es.take k).filter (isK 2 r s) ++ es[k] :: (es.drop (k + 1)).filter (isK 2 r s) := by
    unfold ents
    conv => lhs; rw [← List.take_append_drop k es, List.drop_eq_getElem_cons hk]
    rw [List.filter_append, List.filter_cons_of_pos h]
  unfold tOf
  rw [e, ← nK_len, List.getElem?_append_right (Nat.le_refl _)]
  simp
end Go.Proofs.YthggcdadipjiiaaGreatDoor

/-
  How long steps lasted, told step by step in the steps' order: the same. Of no function.
-/
namespace Go.Proofs.YthggcdadipjiiaaGreatDoor
open Go.RowKit Go.Sort
set_option linter.unusedVariables false

theorem evS_busy_step {ss : List ByteArray} {fs : List Pr} {S : St} {e : Ev} (hS : StP ss S) (h0 : (evS ss fs S e).1 = 0) (h3 : e.kind = 3) : e.step ∈ ss := by
  unfold evS at h0
  by_cases he : evB e = true
  · rw [if_pos he] at h0
    unfold stepS at h0
    by_cases ha : awB S.status e.kind = true
    · rw [if_pos ha] at h0
      have h1 : S.status = 1 := (aw_st ha).2 (by omega)
      by_cases hl : e.time < S.last
      · rw [if_pos hl] at h0; exact absurd h0 (by decide)
      · rw [if_neg hl] at h0
        unfold doS at h0
        rw [if_neg (by omega), if_neg (by omega), if_pos h3] at h0
        by_cases hb : atI S.busy e.step < 0
        · rw [if_pos hb] at h0; exact absurd h0 (by decide)
        · exact ((stP_1 h1).1 hS).b.all _ (at_lt hb).2
    · rw [if_neg ha] at h0; exact absurd h0 (by decide)
  · rw [if_neg he] at h0; exact absurd h0 (by decide)
theorem evS_st {ss : List ByteArray} {fs : List Pr} {S : St} {e : Ev} (D : DefP ss fs) (hS : StP ss S) (h0 : (evS ss fs S e).1 = 0) : StP ss (evS ss fs S e).2 := by
  unfold evS at h0 ⊢
  by_cases he : evB e = true
  · rw [if_pos he] at h0 ⊢
    exact stepS_right D hS he h0
  · rw [if_neg he] at h0; exact absurd h0 (by decide)
theorem ofS_stepIn {ss : List ByteArray} {fs : List Pr} (D : DefP ss fs) : ∀ (es : List Ev) (S : St), StP ss S → (ofS ss fs es S).1 = 0 → ∀ e ∈ es, e.kind = 3 → e.step ∈ ss
  | [], _, _, _, e, he, _ => absurd he (by simp)
  | x :: r, S, hS, h, e, he, h3 => by
    unfold ofS at h
    by_cases h0 : (evS ss fs S x).1 = 0
    · rw [if_pos h0] at h
      rcases List.mem_cons.1 he with rfl | he
      · exact evS_busy_step hS h0 h3
      · exact ofS_stepIn D r _ (evS_st D hS h0) h e he h3
    · rw [if_neg h0] at h; exact absurd h h0
/-- A step that was left stands in the Def. -/
theorem HistP.step {ss : List ByteArray} {fs : List Pr} {es : List Ev} (h : HistP ss fs es) : ∀ e ∈ es, e.kind = 3 → e.step ∈ ss := fun e he h3 =>
  ofS_stepIn h.d _ _ (z0_right ss) (h.o e he) e (List.mem_filter.2 ⟨he, by simp⟩) h3

/-- What is told of a step that lasted so long each time. -/
def durL (s : ByteArray) : List Int → Dur
  | [] => newD s 0
  | x :: r => r.foldl Dur.more (newD s x)
theorem fold_step : ∀ (r : List Int) (d : Dur), (r.foldl Dur.more d).step = d.step
  | [], _ => rfl
  | _ :: r, d => fold_step r _
theorem fold_of : ∀ (r l : List Int) (d : Dur), DurOf d l → DurOf (r.foldl Dur.more d) (l ++ r)
  | [], l, d, h => by simpa using h
  | x :: r, l, d, h => by
    have := fold_of r (l ++ [x]) (d.more x) (h.more x)
    simpa using this
theorem durL_step (s : ByteArray) (l : List Int) : (durL s l).step = s := by
  cases l with
  | nil => rfl
  | cons x r => exact fold_step r _
theorem durL_of (s : ByteArray) {l : List Int} (h : l ≠ []) : DurOf (durL s l) l := by
  cases l with
  | nil => exact absurd rfl h
  | cons x r => exact fold_of r [x] _ (newD_of s x)
theorem fold_vals : ∀ (r : List Int) (d : Dur), r.foldl Dur.more d = ⟨d.step, d.count + r.length, d.sum + r.sum, r.foldl minI d.least, r.foldl maxI d.most⟩
  | [], d => by simp
  | x :: r, d => by
    rw [List.foldl_cons, fold_vals r (d.more x)]
    simp only [Dur.more, List.length_cons, List.sum_cons, List.foldl_cons]
    congr 1
    · omega
    · omega
theorem durL_vals (s : ByteArray) (x : Int) (r : List Int) : durL s (x :: r) = ⟨s, ((x :: r).length : Int), (x :: r).sum, r.foldl minI x, r.foldl maxI x⟩ := by
  show r.foldl Dur.more (newD s x) = _
  rw [fold_vals]
  simp only [newD, List.length_cons, List.sum_cons]
  congr 1
  omega
/-- What is told of these steps, those that lasted. -/
def dursS (D : ByteArray → List Int) (st : List ByteArray) : List Dur := st.filterMap fun s => if D s = [] then none else some (durL s (D s))
theorem dursS_mem {D : ByteArray → List Int} {st : List ByteArray} {e : Dur} : e ∈ dursS D st ↔ ∃ s ∈ st, D s ≠ [] ∧ e = durL s (D s) := by
  unfold dursS
  rw [List.mem_filterMap]
  constructor
  · rintro ⟨s, hs, h⟩
    by_cases hD : D s = []
    · rw [if_pos hD] at h; cases h
    · rw [if_neg hD] at h; cases h; exact ⟨s, hs, hD, rfl⟩
  · rintro ⟨s, hs, hD, rfl⟩
    exact ⟨s, hs, if_neg hD⟩
theorem isDurs_S {D : ByteArray → List Int} {st : List ByteArray} (hst : st.Pairwise (fun a b => lt a b = true)) (hm : ∀ s, D s ≠ [] → s ∈ st) : IsDurs (dursS D st) D := by
  refine ⟨?_, fun s => ⟨?_, fun h => ?_⟩, fun e he => ?_⟩
  · unfold dursS
    rw [List.pairwise_filterMap]
    refine hst.imp ?_
    intro a b hab x hx y hy
    by_cases ha : D a = []
    · rw [if_pos ha] at hx; cases hx
    · rw [if_neg ha] at hx
      cases hx
      by_cases hb : D b = []
      · rw [if_pos hb] at hy; cases hy
      · rw [if_neg hb] at hy
        cases hy
        rw [durL_step, durL_step]; exact hab
  · rintro ⟨e, he, rfl⟩
    obtain ⟨t, ht, hD, rfl⟩ := dursS_mem.1 he
    rw [durL_step]; exact hD
  · exact ⟨_, dursS_mem.2 ⟨s, hm s h, h, rfl⟩, durL_step _ _⟩
  · obtain ⟨t, ht, hD, rfl⟩ := dursS_mem.1 he
    rw [durL_step]; exact durL_of t hD
theorem dursS_take {D : ByteArray → List Int} {st : List ByteArray} {k : Nat} (h : k < st.length) : dursS D (st.take (k + 1)) = dursS D (st.take k) ++ (if D st[k] = [] then [] else [durL st[k] (D st[k])]) := by
  unfold dursS
  rw [List.take_succ_eq_append_getElem h, List.filterMap_append]
  congr 1
  by_cases hD : D st[k] = [] <;> simp [hD]
theorem dursS_len (D : ByteArray → List Int) (st : List ByteArray) : (dursS D st).length ≤ st.length := List.length_filterMap_le _ _
/-- The steps in their order. -/
theorem steps_sorted {ss : List ByteArray} (hnd : ss.Nodup) : ∃ st : List ByteArray, st.map txt = srt (ss.map txt) ∧ st.Perm ss ∧ st.Pairwise (fun a b => lt a b = true) := by
  have ht : ∀ t : Tx, txt ⟨t.toArray⟩ = t := fun t => by simp [txt]
  have hmk : ∀ s : ByteArray, (⟨(txt s).toArray⟩ : ByteArray) = s := fun s => by simp [txt]
  have h1 : ((srt (ss.map txt)).map fun t => (⟨t.toArray⟩ : ByteArray)).map txt = srt (ss.map txt) := by
    rw [List.map_map]
    conv => rhs; rw [← List.map_id (srt (ss.map txt))]
    exact List.map_congr_left fun t _ => ht t
  have h2 : ((srt (ss.map txt)).map fun t => (⟨t.toArray⟩ : ByteArray)).Perm ss := by
    refine ((srt_perm (ss.map txt)).map _).trans ?_
    rw [List.map_map]
    have : (ss.map ((fun t => (⟨t.toArray⟩ : ByteArray)) ∘ txt)) = ss := by
      conv => rhs; rw [← List.map_id ss]
      exact List.map_congr_left fun t _ => hmk t
    rw [this]
  generalize (srt (ss.map txt)).map (fun t => (⟨t.toArray⟩ : ByteArray)) = st at *
  refine ⟨st, h1, h2, ?_⟩
  have ha : Asc (st.map txt) := by rw [h1]; exact srt_asc _
  have hn : st.Nodup := h2.nodup_iff.2 hnd
  unfold Asc at ha
  rw [List.pairwise_map] at ha
  refine (ha.and hn).imp ?_
  rintro a b ⟨hab, hne⟩
  rcases less_tri a.toList b.toList with h | h | h
  · exact h
  · exact absurd (toList_inj h) hne
  · exact absurd (leB_anti hab (leB_of_lt (show lt b a = true from h))) (fun e => hne (by rw [← hmk a, ← hmk b, e]))
end Go.Proofs.YthggcdadipjiiaaGreatDoor
