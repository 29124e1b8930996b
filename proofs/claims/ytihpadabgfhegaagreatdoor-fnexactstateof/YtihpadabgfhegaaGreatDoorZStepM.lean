/-
  What an event does to a State, and that a right State stays right: plain mathematics. Of no function.
-/
import Derived.Test.YtihpadabgfhegaaGreatDoorZKeyM3
import Derived.Test.YtihpadabgfhegaaGreatDoorZRiseM3
namespace Go.Proofs.YtihpadabgfhegaaGreatDoor
open Go.RowKit Go.Sort

def z0 : St := ⟨0, 0, 0, [], [], [], 0⟩
/-- What an event that may come does: its code, and the State behind it. -/
def doS (ss : List ByteArray) (fs : List Pr) (S : St) (e : Ev) : Int × St :=
  if e.kind = 1 then (0, { S with status := 1, begun := e.time, last := e.time, wait := ss.take 1 })
  else if e.kind = 2 then (if atI S.wait e.step < 0 then (6, z0) else (0, { S with wait := outT S.wait (atI S.wait e.step).toNat, busy := putT S.busy e.step, last := e.time }))
  else if e.kind = 3 then (if atI S.busy e.step < 0 then (6, z0) else if 40 < (putF e.step fs S.wait).length + (outT S.busy (atI S.busy e.step).toNat).length then (9, z0) else (0, { S with wait := putF e.step fs S.wait, busy := outT S.busy (atI S.busy e.step).toNat, last := e.time }))
  else if e.kind = 4 then (if 20 < (setV S.vars ⟨e.step, e.val⟩).length then (9, z0) else (0, { S with vars := setV S.vars ⟨e.step, e.val⟩, last := e.time }))
  else if e.kind = 5 then (if atI S.busy e.step < 0 then (6, z0) else if 1000000 ≤ S.faults then (9, z0) else (0, { S with faults := S.faults + 1, last := e.time }))
  else if 0 < S.wait.length + S.busy.length then (10, z0) else (0, { S with status := 2, last := e.time })
/-- What a right event does. -/
def stepS (ss : List ByteArray) (fs : List Pr) (S : St) (e : Ev) : Int × St :=
  if awB S.status e.kind = true then (if e.time < S.last then (8, z0) else doS ss fs S e) else (10, z0)
/-- What any event does. -/
def evS (ss : List ByteArray) (fs : List Pr) (S : St) (e : Ev) : Int × St := if evB e = true then stepS ss fs S e else (1, z0)
/-- What events do, one after the other, up to the first that is refused. -/
def ofS (ss : List ByteArray) (fs : List Pr) : List Ev → St → Int × St
  | [], S => (0, S)
  | e :: r, S => if (evS ss fs S e).1 = 0 then ofS ss fs r (evS ss fs S e).2 else ((evS ss fs S e).1, z0)

theorem putF_mem {s : ByteArray} {x : ByteArray} : ∀ (fs : List Pr) (l : List ByteArray), x ∈ putF s fs l → x ∈ l ∨ ∃ f ∈ fs, f.snd = x
  | [], _, h => .inl h
  | f :: r, l, h => by
    rcases putF_mem r _ h with h | ⟨g, hg, e⟩
    · by_cases e : f.fst = s
      · rw [if_pos e] at h
        rcases List.mem_cons.1 ((put_perm l f.snd).mem_iff.1 h) with rfl | h
        · exact .inr ⟨f, List.mem_cons_self, rfl⟩
        · exact .inl h
      · rw [if_neg e] at h; exact .inl h
    · exact .inr ⟨g, List.mem_cons_of_mem _ hg, e⟩
theorem marks_of {ss l : List ByteArray} (h1 : ∀ x ∈ l, x ∈ ss) (h2 : Asc (l.map txt)) : MarksP ss l := ⟨fun _ hi => h1 _ (List.getElem_mem hi), asc_sorted h2⟩
theorem MarksP.all {ss l : List ByteArray} (h : MarksP ss l) : ∀ x ∈ l, x ∈ ss := fun x hx => by
  obtain ⟨i, hi, rfl⟩ := List.mem_iff_getElem.1 hx
  exact h.mem i hi
theorem MarksP.asc {ss l : List ByteArray} (h : MarksP ss l) : Asc (l.map txt) := sorted_asc h.sorted
theorem out_mem {l : List ByteArray} {k : Nat} {x : ByteArray} (h : x ∈ outT l k) : x ∈ l := by
  unfold outT at h
  rcases List.mem_append.1 h with h | h
  · exact List.mem_of_mem_take h
  · exact List.mem_of_mem_drop h
theorem out_len {l : List ByteArray} {k : Nat} (h : k < l.length) : (outT l k).length = l.length - 1 := by unfold outT; simp; omega
theorem put_len (l : List ByteArray) (t : ByteArray) : (putT l t).length = l.length + 1 := (put_perm l t).length_eq
theorem at_lt {l : List ByteArray} {t : ByteArray} (h : ¬ atI l t < 0) : (atI l t).toNat < l.length ∧ t ∈ l := by
  have hm := atI_ge.1 (show 0 ≤ atI l t by omega)
  obtain ⟨k, hk, e, _⟩ := atI_in hm
  exact ⟨by rw [e]; simpa using hk, hm⟩
theorem marks_out {ss l : List ByteArray} (h : MarksP ss l) (k : Nat) : MarksP ss (outT l k) := marks_of (fun x hx => h.all x (out_mem hx)) (out_asc h.asc k)
theorem marks_put {ss l : List ByteArray} (h : MarksP ss l) {t : ByteArray} (ht : t ∈ ss) : MarksP ss (putT l t) := marks_of (fun x hx => by
  rcases List.mem_cons.1 ((put_perm l t).mem_iff.1 hx) with rfl | hx
  · exact ht
  · exact h.all x hx) (put_asc h.asc t)
theorem marks_putF {ss l : List ByteArray} {fs : List Pr} (h : MarksP ss l) (hf : FlowsP ss fs) (s : ByteArray) : MarksP ss (putF s fs l) := marks_of (fun x hx => by
  rcases putF_mem fs l hx with hx | ⟨f, hf', rfl⟩
  · exact h.all x hx
  · obtain ⟨i, hi, rfl⟩ := List.mem_iff_getElem.1 hf'
    exact (hf.fl i hi).2) (by rw [putF_srt s h.asc]; exact srt_asc _)
theorem ev_parts {e : Ev} (h : evB e = true) : timB e.time = true ∧ kndB e.kind e.step e.val = true := by
  unfold evB at h
  simp only [Bool.and_eq_true] at h
  exact ⟨h.2.2.1, h.2.2.2⟩
theorem knd_set' {s v : ByteArray} : kndB 4 s v = (nrB s && decide (v.size ≤ 40)) := by simp [kndB]
theorem aw_st {st k : Int} (h : awB st k = true) : (k = 1 → st = 0) ∧ (k ≠ 1 → st = 1) := by
  unfold awB at h
  by_cases e : k = 1
  · rw [if_pos e] at h; exact ⟨fun _ => by simpa using h, fun h' => absurd e h'⟩
  · rw [if_neg e] at h; exact ⟨fun h' => absurd h' e, fun _ => by simpa using h⟩
theorem tim_iff {n : Int} : timB n = true ↔ 0 ≤ n ∧ n ≤ 1000000 := by unfold timB; simp
/-- A right event that may happen leaves a right State right. -/
theorem stepS_right {ss : List ByteArray} {fs : List Pr} {S : St} {e : Ev} (D : DefP ss fs) (hS : StP ss S) (he : evB e = true) (h0 : (stepS ss fs S e).1 = 0) : StP ss (stepS ss fs S e).2 := by
  obtain ⟨ht, hk⟩ := ev_parts he
  unfold stepS at h0 ⊢
  by_cases ha : awB S.status e.kind = true
  · rw [if_pos ha] at h0 ⊢
    by_cases hl : e.time < S.last
    · rw [if_pos hl] at h0; exact absurd h0 (by decide)
    · rw [if_neg hl] at h0 ⊢
      obtain ⟨a1, a2⟩ := aw_st ha
      unfold doS at h0 ⊢
      by_cases k1 : e.kind = 1
      · rw [if_pos k1]
        have hn := (stP_0 (a1 k1)).1 hS
        refine .inr (.inl ⟨rfl, ?_⟩)
        have hv : S.vars = [] := List.eq_nil_of_length_eq_zero hn.v0
        refine ⟨ht, ht, Int.le_refl _, ?_, ⟨fun i hi => ?_, fun i hi => ?_⟩, ⟨fun i hi => ?_, fun i hi => ?_⟩, ?_, ?_⟩
        · show (ss.take 1).length + S.busy.length ≤ 40
          rw [hn.b, List.length_take]; omega
        · exact List.mem_of_mem_take (List.getElem_mem hi)
        · exfalso
          have : (ss.take 1).length ≤ 1 := by rw [List.length_take]; omega
          change i + 1 < (ss.take 1).length at hi
          omega
        · exfalso; change i < S.busy.length at hi; rw [hn.b] at hi; omega
        · exfalso; change i + 1 < S.busy.length at hi; rw [hn.b] at hi; omega
        · show VarsP S.vars
          rw [hv]
          exact ⟨by simp, fun i hi => absurd hi (by simp), fun i hi => absurd hi (by simp)⟩
        · show timB S.faults = true
          rw [hn.f0]; decide
      · rw [if_neg k1] at h0 ⊢
        have hB := (stP_1 (a2 k1)).1 hS
        have hle : S.begun ≤ e.time := by have := hB.le; omega
        by_cases k2 : e.kind = 2
        · rw [if_pos k2] at h0 ⊢
          by_cases hm : atI S.wait e.step < 0
          · rw [if_pos hm] at h0; exact absurd h0 (by decide)
          · rw [if_neg hm]
            obtain ⟨q1, q2⟩ := at_lt hm
            refine .inr (.inl ⟨a2 k1, hB.t1, ht, hle, ?_, marks_out hB.w _, marks_put hB.b (hB.w.all _ q2), hB.v, hB.f⟩)
            show (outT _ _).length + (putT _ _).length ≤ 40
            rw [out_len q1, put_len]; have := hB.m; omega
        · rw [if_neg k2] at h0 ⊢
          by_cases k3 : e.kind = 3
          · rw [if_pos k3] at h0 ⊢
            by_cases hm : atI S.busy e.step < 0
            · rw [if_pos hm] at h0; exact absurd h0 (by decide)
            · rw [if_neg hm] at h0 ⊢
              by_cases hf : 40 < (putF e.step fs S.wait).length + (outT S.busy (atI S.busy e.step).toNat).length
              · rw [if_pos hf] at h0; exact absurd h0 (by decide)
              · rw [if_neg hf]
                exact .inr (.inl ⟨a2 k1, hB.t1, ht, hle, Nat.le_of_not_lt hf, marks_putF hB.w D.2 _, marks_out hB.b _, hB.v, hB.f⟩)
          · rw [if_neg k3] at h0 ⊢
            by_cases k4 : e.kind = 4
            · rw [if_pos k4] at h0 ⊢
              by_cases hf : 20 < (setV S.vars ⟨e.step, e.val⟩).length
              · rw [if_pos hf] at h0; exact absurd h0 (by decide)
              · rw [if_neg hf]
                rw [k4, knd_set'] at hk
                simp only [Bool.and_eq_true, decide_eq_true_eq] at hk
                refine .inr (.inl ⟨a2 k1, hB.t1, ht, hle, hB.m, hB.w, hB.b, ⟨Nat.le_of_not_lt hf, fun i hi => ?_, of_rise (setV_rise (rise_of hB.v.rise) _)⟩, hB.f⟩)
                rcases setV_mem (List.getElem_mem hi) with h | h
                · rw [h]; exact hk
                · obtain ⟨j, hj, e1⟩ := List.mem_iff_getElem.1 h
                  rw [← e1]; exact hB.v.nm j hj
            · rw [if_neg k4] at h0 ⊢
              by_cases k5 : e.kind = 5
              · rw [if_pos k5] at h0 ⊢
                by_cases hm : atI S.busy e.step < 0
                · rw [if_pos hm] at h0; exact absurd h0 (by decide)
                · rw [if_neg hm] at h0 ⊢
                  by_cases hf : 1000000 ≤ S.faults
                  · rw [if_pos hf] at h0; exact absurd h0 (by decide)
                  · rw [if_neg hf]
                    refine .inr (.inl ⟨a2 k1, hB.t1, ht, hle, hB.m, hB.w, hB.b, hB.v, ?_⟩)
                    have := tim_iff.1 hB.f
                    exact tim_iff.2 ⟨by show 0 ≤ S.faults + 1; omega, by show S.faults + 1 ≤ _; omega⟩
              · rw [if_neg k5] at h0 ⊢
                by_cases hm : 0 < S.wait.length + S.busy.length
                · rw [if_pos hm] at h0; exact absurd h0 (by decide)
                · rw [if_neg hm]
                  exact .inr (.inr ⟨rfl, ⟨by show S.wait.length = 0; omega, by show S.busy.length = 0; omega⟩, hB.t1, ht, hle, hB.m, hB.w, hB.b, hB.v, hB.f⟩)
  · rw [if_neg ha] at h0; exact absurd h0 (by decide)
end Go.Proofs.YtihpadabgfhegaaGreatDoor
