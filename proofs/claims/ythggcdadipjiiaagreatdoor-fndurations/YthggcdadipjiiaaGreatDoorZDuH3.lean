/-
  Texts put together: DuH, DuJ, DuW.
-/
import Derived.Test.YthggcdadipjiiaaGreatDoorZDuG2
import Derived.Test.YthggcdadipjiiaaGreatDoorZSpAdd
import Derived.Test.YthggcdadipjiiaaGreatDoorZDuE3
/-
  How long steps lasted: how large what is told can get. Of no function.
-/
namespace Go.Proofs.YthggcdadipjiiaaGreatDoor
open Go.RowKit Go.Sort
set_option linter.unusedVariables false

theorem addD_of {s : ByteArray} {n : Int} {p q : Dur → Prop} (hpq : ∀ d, p d → q d) (hm : ∀ d, p d → q (d.more n)) (hn : q (newD s n)) : ∀ (l : List Dur), (∀ d ∈ l, p d) → ∀ d ∈ addD l s n, q d
  | [], _, d, h => by
    unfold addD at h
    rw [List.mem_singleton.1 h]; exact hn
  | x :: r, hl, d, h => by
    have hr : ∀ d ∈ r, p d := fun d hd => hl d (List.mem_cons_of_mem _ hd)
    have hx := hl x List.mem_cons_self
    unfold addD at h
    by_cases h1 : lt x.step s = true
    · rw [if_pos h1] at h
      rcases List.mem_cons.1 h with rfl | h
      · exact hpq _ hx
      · exact addD_of hpq hm hn r hr d h
    · rw [if_neg h1] at h
      by_cases h2 : x.step = s
      · rw [if_pos h2] at h
        rcases List.mem_cons.1 h with rfl | h
        · exact hm _ hx
        · exact hpq _ (hr d h)
      · rw [if_neg h2] at h
        rcases List.mem_cons.1 h with rfl | h
        · exact hn
        · rcases List.mem_cons.1 h with rfl | h
          · exact hpq _ hx
          · exact hpq _ (hr d h)
def DurI (i : Nat) (d : Dur) : Prop := 0 ≤ d.count ∧ d.count ≤ i ∧ -1000000 * (i : Int) ≤ d.sum ∧ d.sum ≤ 1000000 * (i : Int)
theorem DurI.b {i : Nat} {d : Dur} (h : DurI i d) (hi : i ≤ 1000) : DurB d := by
  obtain ⟨h1, h2, h3, h4⟩ := h
  unfold DurB
  refine ⟨h1, ?_, ?_, ?_⟩ <;> omega
theorem dursI_b {ss : List ByteArray} {fs : List Pr} {es : List Ev} (h : HistP ss fs es) (ht : ∀ j, (hj : j < es.length) → 0 ≤ es[j].time ∧ es[j].time ≤ 1000000) : ∀ i, i ≤ es.length → ∀ d ∈ dursI es i, DurI i d
  | 0, _, d, hd => by
    have hl := dursI_len es 0
    have : dursI es 0 = [] := List.eq_nil_of_length_eq_zero (by omega)
    rw [this] at hd
    exact absurd hd (by simp)
  | i + 1, hi, d, hd => by
    have ih := dursI_b h ht i (by omega)
    have hup : ∀ d, DurI i d → DurI (i + 1) d := fun d q => by
      obtain ⟨h1, h2, h3, h4⟩ := q
      refine ⟨h1, ?_, ?_, ?_⟩ <;> omega
    by_cases h3 : es[i].kind = 3
    · obtain ⟨k, hk, hki, h2, hr, hs, hL⟩ := leave_k h (show i < es.length by omega) h3
      rw [dursI_leave (by omega) h3 hk h2 hr hs hL] at hd
      have t1 := ht i (by omega)
      have t2 := ht k hk
      refine addD_of hup (fun d q => ?_) ?_ _ ih d hd
      · obtain ⟨h1, h2, h3, h4⟩ := q
        refine ⟨?_, ?_, ?_, ?_⟩ <;> simp only [Dur.more] <;> omega
      · refine ⟨?_, ?_, ?_, ?_⟩ <;> simp only [newD] <;> omega
    · rw [dursI_stay (by omega) h3] at hd
      exact hup d (ih d hd)
theorem HistP.time {ss : List ByteArray} {fs : List Pr} {es : List Ev} (h : HistP ss fs es) (j : Nat) (hj : j < es.length) : 0 ≤ es[j].time ∧ es[j].time ≤ 1000000 := by
  have := h.ev _ (List.getElem_mem hj)
  unfold evB timB at this
  simp only [Bool.and_eq_true, decide_eq_true_eq] at this
  exact this.2.2.1
theorem dursI_B {ss : List ByteArray} {fs : List Pr} {es : List Ev} (h : HistP ss fs es) {i : Nat} (hi : i ≤ es.length) : ∀ d ∈ dursI es i, DurB d := fun d hd => (dursI_b h h.time i hi d hd).b (by have := h.n; omega)
/-- What is taken, as a row of bools. -/
def tkL (es : List Ev) (i : Nat) : List Value := (List.range es.length).map fun k => .bool (tkn es i k)
theorem tkL_len (es : List Ev) (i : Nat) : (tkL es i).length = es.length := by simp [tkL]
theorem tkL_at (es : List Ev) (i : Nat) {k : Nat} (hk : k < es.length) : (tkL es i)[k]? = some (.bool (tkn es i k)) := by
  unfold tkL
  rw [List.getElem?_map, List.getElem?_range hk]
  rfl
theorem tkL_zero (es : List Ev) : tkL es 0 = List.replicate es.length (.bool false) := by
  refine List.ext_getElem? fun k => ?_
  by_cases hk : k < es.length
  · rw [tkL_at es 0 hk, tkn_at hk, List.getElem?_replicate, if_pos hk]
    simp
  · rw [List.getElem?_eq_none (by rw [tkL_len]; omega), List.getElem?_eq_none (by simp; omega)]
theorem tkL_stay {ss : List ByteArray} {fs : List Pr} {es : List Ev} (h : HistP ss fs es) {i : Nat} (hi : i < es.length) (h3 : es[i].kind ≠ 3) : tkL es (i + 1) = tkL es i := by
  refine List.ext_getElem? fun k => ?_
  by_cases hk : k < es.length
  · rw [tkL_at es _ hk, tkL_at es _ hk, tkn_stay h hi h3 hk]
  · rw [List.getElem?_eq_none (by rw [tkL_len]; omega), List.getElem?_eq_none (by rw [tkL_len]; omega)]
theorem tkL_leave {ss : List ByteArray} {fs : List Pr} {es : List Ev} (h : HistP ss fs es) {i k0 : Nat} (hi : i < es.length) (h3 : es[i].kind = 3) (hk0 : k0 < es.length) (h0 : k0 < i) (h2 : es[k0].kind = 2) (hr : es[k0].run = es[i].run) (hs : es[k0].step = es[i].step) (hL : nK 2 es[i].run es[i].step (es.take k0) = nK 3 es[i].run es[i].step (es.take i)) : (tkL es i).set k0 (.bool true) = tkL es (i + 1) := by
  refine List.ext_getElem? fun k => ?_
  by_cases hk : k < es.length
  · rw [tkL_at es _ hk, tkn_leave h hi h3 hk0 h0 h2 hr hs hL hk, List.getElem?_set, tkL_at es _ hk, tkL_len]
    by_cases e : k = k0
    · subst e; simp [hk]
    · rw [if_neg (fun q => e q.symm), if_neg e]
  · rw [List.getElem?_eq_none (by simp [tkL_len]; omega), List.getElem?_eq_none (by rw [tkL_len]; omega)]
end Go.Proofs.YthggcdadipjiiaaGreatDoor

/-
  How long steps lasted: that impl's way of telling it tells the same; bounds. Of no function.
-/
namespace Go.Proofs.YthggcdadipjiiaaGreatDoor
open Go.RowKit Go.Sort
set_option linter.unusedVariables false

/-- The lastings of a step, run by run. -/
def lasR (es : List Ev) (rs : List Int) (s : ByteArray) : List Int := rs.flatMap fun r => lastL es r s
theorem lastL_len (es : List Ev) (r : Int) (s : ByteArray) : (lastL es r s).length ≤ es.length := by
  unfold lastL lvs
  rw [List.length_zipWith]
  have := List.length_filter_le (isK 3 r s) es
  omega
theorem lasR_len (es : List Ev) (s : ByteArray) : ∀ rs : List Int, (lasR es rs s).length ≤ rs.length * es.length
  | [] => by simp [lasR]
  | r :: rs => by
    have h1 := lastL_len es r s
    have h2 := lasR_len es s rs
    unfold lasR at h2 ⊢
    rw [List.flatMap_cons, List.length_append, List.length_cons, Nat.succ_mul]
    omega
theorem lasR_take {es : List Ev} {rs : List Int} {s : ByteArray} {k : Nat} (h : k < rs.length) : lasR es (rs.take (k + 1)) s = lasR es (rs.take k) s ++ lastL es rs[k] s := by
  unfold lasR
  rw [List.take_succ_eq_append_getElem h, List.flatMap_append]
  simp
theorem lastL_B {ss : List ByteArray} {fs : List Pr} {es : List Ev} (h : HistP ss fs es) (r : Int) (s : ByteArray) : ∀ y ∈ lastL es r s, -1000000 ≤ y ∧ y ≤ 1000000 := by
  have ht : ∀ e ∈ es, 0 ≤ e.time ∧ e.time ≤ 1000000 := fun e he => by
    obtain ⟨j, hj, rfl⟩ := List.mem_iff_getElem.1 he
    exact h.time j hj
  intro y hy
  obtain ⟨i, hi, rfl⟩ := List.mem_iff_getElem.1 hy
  unfold lastL at hi ⊢
  rw [List.length_zipWith] at hi
  rw [List.getElem_zipWith]
  have h1 := ht _ (List.mem_filter.1 (List.getElem_mem (show i < (lvs es r s).length by omega))).1
  have h2 := ht _ (List.mem_filter.1 (List.getElem_mem (show i < (ents es r s).length by omega))).1
  omega
theorem lasR_B {ss : List ByteArray} {fs : List Pr} {es : List Ev} (h : HistP ss fs es) (rs : List Int) (s : ByteArray) : ∀ y ∈ lasR es rs s, -1000000 ≤ y ∧ y ≤ 1000000 := by
  intro y hy
  obtain ⟨r, _, hr⟩ := List.mem_flatMap.1 hy
  exact lastL_B h r s y hr
theorem lasR_step {ss : List ByteArray} {fs : List Pr} {es : List Ev} (h : HistP ss fs es) (rs : List Int) (s : ByteArray) (hne : lasR es rs s ≠ []) : s ∈ ss := by
  obtain ⟨y, hy⟩ := List.exists_mem_of_ne_nil _ hne
  obtain ⟨r, _, hr⟩ := List.mem_flatMap.1 hy
  obtain ⟨i, hi, _⟩ := List.mem_iff_getElem.1 hr
  unfold lastL at hi
  rw [List.length_zipWith] at hi
  have hm := List.mem_filter.1 (List.getElem_mem (show i < (lvs es r s).length by omega))
  have hk : isK 3 r s (lvs es r s)[i] = true := hm.2
  unfold isK at hk
  obtain ⟨h1, _, h3⟩ := of_decide_eq_true hk
  rw [← h3]
  exact h.step _ hm.1 h1
/-- The same is told. -/
theorem durs_same {ss : List ByteArray} {fs : List Pr} {es : List Ev} {rs : List Int} {st : List ByteArray} (h : HistP ss fs es) (hR : IsRuns es rs) (hp : st.Perm ss) (hst : st.Pairwise (fun a b => lt a b = true)) : dursS (lasR es rs) st = dursI es es.length :=
  ((dursI_is es es.length).uniq (isDurs_S hst fun s hs => hp.mem_iff.2 (lasR_step h rs s hs)) (fun s => durs_perm h hR s)).symm
end Go.Proofs.YthggcdadipjiiaaGreatDoor

/-
  What is told of steps that lasted: what the law FnDurations asks of it. Of no function.
-/
namespace Go.Proofs.YthggcdadipjiiaaGreatDoor
open Go.RowKit Go.Sort
set_option linter.unusedVariables false

/-- Times of a run never fall. -/
theorem evS_last {ss : List ByteArray} {fs : List Pr} {S : St} {e : Ev} (h0 : (evS ss fs S e).1 = 0) : S.last ≤ e.time ∧ (evS ss fs S e).2.last = e.time := by
  unfold evS at h0 ⊢
  by_cases he : evB e = true
  · rw [if_pos he] at h0 ⊢
    unfold stepS at h0 ⊢
    by_cases ha : awB S.status e.kind = true
    · rw [if_pos ha] at h0 ⊢
      by_cases hl : e.time < S.last
      · rw [if_pos hl] at h0; exact absurd h0 (by decide)
      · rw [if_neg hl] at h0 ⊢
        refine ⟨by omega, ?_⟩
        unfold doS at h0 ⊢
        by_cases k1 : e.kind = 1
        · rw [if_pos k1]
        · rw [if_neg k1] at h0 ⊢
          by_cases k2 : e.kind = 2
          · rw [if_pos k2] at h0 ⊢
            by_cases hw : atI S.wait e.step < 0
            · rw [if_pos hw] at h0; exact absurd h0 (by decide)
            · rw [if_neg hw]
          · rw [if_neg k2] at h0 ⊢
            by_cases k3 : e.kind = 3
            · rw [if_pos k3] at h0 ⊢
              by_cases hw : atI S.busy e.step < 0
              · rw [if_pos hw] at h0; exact absurd h0 (by decide)
              · rw [if_neg hw] at h0 ⊢
                by_cases hm : 40 < (putF e.step fs S.wait).length + (outT S.busy (atI S.busy e.step).toNat).length
                · rw [if_pos hm] at h0; exact absurd h0 (by decide)
                · rw [if_neg hm]
            · rw [if_neg k3] at h0 ⊢
              by_cases k4 : e.kind = 4
              · rw [if_pos k4] at h0 ⊢
                by_cases hm : 20 < (setV S.vars ⟨e.step, e.val⟩).length
                · rw [if_pos hm] at h0; exact absurd h0 (by decide)
                · rw [if_neg hm]
              · rw [if_neg k4] at h0 ⊢
                by_cases k5 : e.kind = 5
                · rw [if_pos k5] at h0 ⊢
                  by_cases hw : atI S.busy e.step < 0
                  · rw [if_pos hw] at h0; exact absurd h0 (by decide)
                  · rw [if_neg hw] at h0 ⊢
                    by_cases hf : 1000000 ≤ S.faults
                    · rw [if_pos hf] at h0; exact absurd h0 (by decide)
                    · rw [if_neg hf]
                · rw [if_neg k5] at h0 ⊢
                  by_cases hm : 0 < S.wait.length + S.busy.length
                  · rw [if_pos hm] at h0; exact absurd h0 (by decide)
                  · rw [if_neg hm]
    · rw [if_neg ha] at h0; exact absurd h0 (by decide)
  · rw [if_neg he] at h0; exact absurd h0 (by decide)
theorem ofS_mono {ss : List ByteArray} {fs : List Pr} : ∀ (l : List Ev) (S : St), (ofS ss fs l S).1 = 0 → l.Pairwise (fun a b => a.time ≤ b.time) ∧ ∀ e ∈ l, S.last ≤ e.time
  | [], _, _ => ⟨List.Pairwise.nil, fun e he => by cases he⟩
  | x :: r, S, h => by
    unfold ofS at h
    by_cases h0 : (evS ss fs S x).1 = 0
    · rw [if_pos h0] at h
      obtain ⟨h1, h2⟩ := evS_last h0
      obtain ⟨i1, i2⟩ := ofS_mono r _ h
      rw [h2] at i2
      refine ⟨List.Pairwise.cons (fun e he => i2 e he) i1, fun e he => ?_⟩
      rcases List.mem_cons.1 he with rfl | he
      · exact h1
      · have := i2 e he; omega
    · rw [if_neg h0] at h; exact absurd h h0
theorem HistP.mono {ss : List ByteArray} {fs : List Pr} {es : List Ev} (h : HistP ss fs es) {k i : Nat} (hk : k < es.length) (hi : i < es.length) (hki : k < i) (hr : es[k].run = es[i].run) : es[k].time ≤ es[i].time := by
  have h1 := (ofS_mono _ _ (h.o _ (List.getElem_mem hi))).1
  unfold ofRun at h1
  rw [List.pairwise_filter] at h1
  rw [List.pairwise_iff_getElem] at h1
  exact h1 k i hk hi hki (by simp [hr]) (by simp)
/-- None lasted less than nothing. -/
theorem outs_pos {ss : List ByteArray} {fs : List Pr} {es : List Ev} (h : HistP ss fs es) : ∀ i, i ≤ es.length → ∀ t ∈ outs es i, 0 ≤ t.2.2
  | 0, _, t, ht => by simp [outs] at ht
  | i + 1, hi, t, ht => by
    unfold outs at ht
    rcases List.mem_append.1 ht with ht | ht
    · exact outs_pos h i (by omega) t ht
    · have hlt : i < es.length := by omega
      unfold outE at ht
      rw [List.getElem?_eq_getElem hlt] at ht
      simp only at ht
      by_cases h3 : es[i].kind = 3
      · rw [if_pos h3] at ht
        obtain rfl := List.mem_singleton.1 ht
        obtain ⟨k, hk, hki, h2, hr, hs, hL⟩ := leave_k h hlt h3
        have he := ents_at (es := es) (r := es[i].run) (s := es[i].step) hk (by simp [isK, h2, hr, hs])
        have := h.mono hk hlt hki hr
        show 0 ≤ es[i].time - tOf (ents es es[i].run es[i].step) (nK 3 es[i].run es[i].step (es.take i))
        rw [← hL, he]
        omega
      · rw [if_neg h3] at ht; cases ht
/-- As many as were left. -/
theorem outs_count (es : List Ev) (s : ByteArray) : ∀ i, i ≤ es.length → (ofS' (outs es i) s).length = nS 3 s (es.take i)
  | 0, _ => by simp [outs, ofS', nS]
  | i + 1, hi => by
    have hlt : i < es.length := by omega
    have ih := outs_count es s i (by omega)
    rw [List.take_succ_eq_append_getElem hlt]
    have hn : nS 3 s (es.take i ++ [es[i]]) = nS 3 s (es.take i) + nS 3 s [es[i]] := by unfold nS; rw [List.countP_append]
    have ho : (((outE es i).filter fun t => decide (t.2.1 = s)).map (·.2.2)).length = nS 3 s [es[i]] := by
      unfold outE nS
      rw [List.getElem?_eq_getElem hlt]
      simp only
      by_cases h3 : es[i].kind = 3 <;> by_cases hs : es[i].step = s <;> simp [h3, hs]
    rw [hn, ← ih, ← ho]
    unfold ofS'
    rw [show outs es (i + 1) = outs es i ++ outE es i from rfl, List.filter_append, List.map_append, List.length_append]
theorem sum_le {a : Int} : ∀ {l : List Int}, (∀ x ∈ l, a ≤ x) → (l.length : Int) * a ≤ l.sum
  | [], _ => by simp
  | x :: r, h => by
    have ih := sum_le (a := a) (l := r) (fun y hy => h y (List.mem_cons_of_mem _ hy))
    have hx := h x List.mem_cons_self
    rw [List.sum_cons, List.length_cons, show ((r.length + 1 : Nat) : Int) = (r.length : Int) + 1 by omega, Int.add_mul, Int.one_mul]
    omega
theorem sum_ge {a : Int} : ∀ {l : List Int}, (∀ x ∈ l, x ≤ a) → l.sum ≤ (l.length : Int) * a
  | [], _ => by simp
  | x :: r, h => by
    have ih := sum_ge (a := a) (l := r) (fun y hy => h y (List.mem_cons_of_mem _ hy))
    have hx := h x List.mem_cons_self
    rw [List.sum_cons, List.length_cons, show ((r.length + 1 : Nat) : Int) = (r.length : Int) + 1 by omega, Int.add_mul, Int.one_mul]
    omega
/-- What the law asks of what is told. -/
structure DurLw (es : List Ev) (d : Dur) : Prop where
  n : d.count = (nS 3 d.step es : Int)
  n0 : 0 < d.count
  n1 : d.count ≤ 200
  l0 : 0 ≤ d.least
  m0 : d.least ≤ d.most
  m1 : d.most ≤ 1000000
  s0 : d.count * d.least ≤ d.sum
  s1 : d.sum ≤ d.count * d.most
  p0 : 0 ≤ d.count * d.least
  p1 : d.count * d.most ≤ 200000000
theorem durs_law {ss : List ByteArray} {fs : List Pr} {es : List Ev} (h : HistP ss fs es) : ∀ d ∈ dursI es es.length, DurLw es d := fun d hd => by
  have hI := dursI_is es es.length
  have hD := hI.tell d hd
  have hne : ofS' (outs es es.length) d.step ≠ [] := (hI.mem d.step).1 ⟨d, hd, rfl⟩
  have hc := outs_count es d.step es.length (Nat.le_refl _)
  rw [List.take_length] at hc
  have hpos : ∀ x ∈ ofS' (outs es es.length) d.step, 0 ≤ x := fun x hx => by
    obtain ⟨t, ht, rfl⟩ := List.mem_map.1 hx
    exact outs_pos h _ (Nat.le_refl _) t (List.mem_filter.1 ht).1
  have hb := durs_perm h (runs_sorted es) d.step
  have hmax : ∀ x ∈ ofS' (outs es es.length) d.step, x ≤ 1000000 := fun x hx => (lasR_B h _ d.step x (hb.mem_iff.1 hx)).2
  have h1 := sum_le hD.l1
  have h2 := sum_ge hD.m1
  rw [← hD.s, ← hD.c] at h1 h2
  have hl0 := hpos _ hD.l0
  have hm1 := hmax _ hD.m0
  have hlm := hD.m1 _ hD.l0
  have hlen : (ofS' (outs es es.length) d.step).length ≤ 200 := by
    rw [hc]; unfold nS
    exact Nat.le_trans List.countP_le_length h.n
  have hn0 : 0 < (ofS' (outs es es.length) d.step).length := List.length_pos_iff.2 hne
  have hcount := hD.c
  refine ⟨by rw [hcount, hc], by omega, by omega, hl0, hlm, hm1, h1, h2, Int.mul_nonneg (by omega) hl0, ?_⟩
  have a1 : d.count * d.most ≤ 200 * d.most := Int.mul_le_mul_of_nonneg_right (by omega) (by omega)
  omega
end Go.Proofs.YthggcdadipjiiaaGreatDoor
