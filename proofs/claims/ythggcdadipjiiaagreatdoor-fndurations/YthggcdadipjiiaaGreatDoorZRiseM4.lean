/-
  Texts put together: RiseM, ImSr, Ev, StepM.
-/
import Derived.Test.YthggcdadipjiiaaGreatDoorZKeyM3
import Derived.Test.YthggcdadipjiiaaGreatDoorZSpSet
import Derived.Test.YthggcdadipjiiaaGreatDoorZImLv
import Derived.Test.YthggcdadipjiiaaGreatDoorZEvT5
/-
  Pairs that rise by name, and one set among them: plain mathematics. Of no function.
-/
namespace Go.Proofs.YthggcdadipjiiaaGreatDoor
open Go.RowKit Go.Sort

theorem lt_tr {a b c : ByteArray} (h1 : lt a b = true) (h2 : lt b c = true) : lt a c = true := by
  rw [lt_txt, decide_eq_true_eq] at *
  exact List.lt_trans h1 h2
theorem lt_ne {a b : ByteArray} (h : lt a b = true) : a ≠ b := fun e => by subst e; unfold lt at h; rw [less_irr] at h; cases h
theorem lt_as {a b : ByteArray} (h : lt a b = true) : lt b a = false := less_asym _ _ h
/-- Rising by name. -/
def Rise (l : List Pr) : Prop := l.Pairwise (fun a b => lt a.fst b.fst = true)
theorem rise_of {l : List Pr} (h : ∀ i, (hi : i + 1 < l.length) → lt l[i].fst l[i + 1].fst = true) : Rise l := by
  have step : ∀ d i, (hi : i + (d + 1) < l.length) → lt l[i].fst l[i + (d + 1)].fst = true := by
    intro d
    induction d with
    | zero => intro i hi; exact h i hi
    | succ d ih => intro i hi; exact lt_tr (ih i (by omega)) (h (i + (d + 1)) (by omega))
  unfold Rise
  rw [List.pairwise_iff_getElem]
  intro i j hi hj hij
  have := step (j - i - 1) i (by omega)
  rwa [show l[i + (j - i - 1 + 1)]'(by omega) = l[j] from by congr 1; omega] at this
theorem of_rise {l : List Pr} (h : Rise l) : ∀ i, (hi : i + 1 < l.length) → lt l[i].fst l[i + 1].fst = true := by
  intro i hi
  unfold Rise at h
  rw [List.pairwise_iff_getElem] at h
  exact h i (i + 1) (by omega) hi (by omega)
theorem kV_take (l : List Pr) (t : ByteArray) : l.take (kV l t) = l.takeWhile (fun p => lt p.fst t) := take_while _ l
theorem kV_le (l : List Pr) (t : ByteArray) : kV l t ≤ l.length := (List.takeWhile_sublist _).length_le
theorem kV_lo {l : List Pr} {t : ByteArray} {p : Pr} (h : p ∈ l.take (kV l t)) : lt p.fst t = true := by
  rw [kV_take] at h
  exact List.all_eq_true.1 List.all_takeWhile p h
theorem kV_at {l : List Pr} {t : ByteArray} (h : kV l t < l.length) : lt l[kV l t].fst t = false := by
  have h0 := List.head?_dropWhile_not (fun p : Pr => lt p.fst t) l
  have hd : l.drop (kV l t) = l.dropWhile (fun p => lt p.fst t) := drop_while _ l
  have he : (l.drop (kV l t)).head? = some l[kV l t] := by rw [List.head?_drop, List.getElem?_eq_getElem h]
  rw [← hd, he] at h0
  simpa using h0
theorem kV_hi {l : List Pr} (hr : Rise l) {t : ByteArray} {j : Nat} (hj : kV l t ≤ j) (h : j < l.length) : lt l[j].fst t = false := by
  by_cases e : j = kV l t
  · subst e; exact kV_at h
  · have hk : kV l t < l.length := by omega
    have h1 := kV_at hk
    unfold Rise at hr
    rw [List.pairwise_iff_getElem] at hr
    have h2 := hr (kV l t) j hk h (by omega)
    cases hc : lt l[j].fst t with
    | false => rfl
    | true => rw [lt_tr h2 hc] at h1; cases h1
/-- A name that is there. -/
theorem setV_old {l : List Pr} {v : Pr} (h : kV l v.fst < l.length) (he : l[kV l v.fst].fst = v.fst) : setV l v = l.take (kV l v.fst) ++ [v] ++ l.drop (kV l v.fst + 1) := by
  unfold setV nV
  rw [List.getElem?_eq_getElem h]
  simp only [he, if_true]
theorem setV_new {l : List Pr} {v : Pr} (he : (h : kV l v.fst < l.length) → l[kV l v.fst].fst ≠ v.fst) : setV l v = l.take (kV l v.fst) ++ [v] ++ l.drop (kV l v.fst) := by
  unfold setV nV
  by_cases h : kV l v.fst < l.length
  · rw [List.getElem?_eq_getElem h]
    simp only [he h, if_false]
  · rw [List.getElem?_eq_none (by omega)]
theorem setV_old_len {l : List Pr} {v : Pr} (h : kV l v.fst < l.length) (he : l[kV l v.fst].fst = v.fst) : (setV l v).length = l.length := by
  rw [setV_old h he]; simp; omega
theorem setV_new_len {l : List Pr} {v : Pr} (he : (h : kV l v.fst < l.length) → l[kV l v.fst].fst ≠ v.fst) : (setV l v).length = l.length + 1 := by
  rw [setV_new he]; have := kV_le l v.fst; simp; omega
theorem setV_mem {l : List Pr} {v p : Pr} (h : p ∈ setV l v) : p = v ∨ p ∈ l := by
  unfold setV at h
  rcases List.mem_append.1 h with h | h
  · rcases List.mem_append.1 h with h | h
    · exact .inr (List.mem_of_mem_take h)
    · exact .inl (List.mem_singleton.1 h)
  · exact .inr (List.mem_of_mem_drop h)
theorem nV_hi {l : List Pr} (hr : Rise l) {t : ByteArray} {p : Pr} (h : p ∈ l.drop (nV l t)) : lt t p.fst = true := by
  obtain ⟨j, hj, rfl⟩ := List.mem_iff_getElem.1 h
  rw [List.getElem_drop]
  rw [List.length_drop] at hj
  have key : ∀ i, (hi : i < l.length) → kV l t ≤ i → l[i].fst ≠ t → lt t l[i].fst = true := by
    intro i hi hk hne
    have h1 := kV_hi hr hk hi
    rcases less_tri l[i].fst.toList t.toList with h' | h' | h'
    · unfold lt at h1; rw [h'] at h1; cases h1
    · exact absurd (toList_inj h') hne
    · exact h'
  unfold nV at hj ⊢
  by_cases hk : kV l t < l.length
  · rw [List.getElem?_eq_getElem hk] at hj
    simp only [List.getElem?_eq_getElem hk]
    by_cases e : l[kV l t].fst = t
    · simp only [e, if_true] at hj ⊢
      have hr' := hr
      unfold Rise at hr'
      rw [List.pairwise_iff_getElem] at hr'
      have := hr' (kV l t) (kV l t + 1 + j) hk (by omega) (by omega)
      rwa [e] at this
    · simp only [e, if_false] at hj ⊢
      refine key _ (by omega) (by omega) ?_
      by_cases e0 : j = 0
      · subst e0; simpa using e
      · intro e1
        have hr' := hr
        unfold Rise at hr'
        rw [List.pairwise_iff_getElem] at hr'
        have h2 := hr' (kV l t) (kV l t + j) hk (by omega) (by omega)
        rw [e1] at h2
        rw [kV_at hk] at h2
        cases h2
  · rw [List.getElem?_eq_none (by omega)] at hj
    simp only [] at hj
    omega
theorem setV_rise {l : List Pr} (hr : Rise l) (v : Pr) : Rise (setV l v) := by
  have hlo : ∀ p ∈ l.take (kV l v.fst), lt p.fst v.fst = true := fun p hp => kV_lo hp
  have hhi : ∀ p ∈ l.drop (nV l v.fst), lt v.fst p.fst = true := fun p hp => nV_hi hr hp
  unfold Rise at *
  unfold setV
  rw [List.append_assoc, List.pairwise_append]
  refine ⟨hr.sublist (List.take_sublist _ _), ?_, ?_⟩
  · show List.Pairwise _ (v :: l.drop (nV l v.fst))
    rw [List.pairwise_cons]
    exact ⟨hhi, hr.sublist (List.drop_sublist _ _)⟩
  · intro a ha b hb
    rcases List.mem_append.1 hb with hb | hb
    · obtain rfl := List.mem_singleton.1 hb
      exact hlo a ha
    · exact lt_tr (hlo a ha) (hhi b hb)
end Go.Proofs.YthggcdadipjiiaaGreatDoor

/-
  What the methods start, awaits and deed of impl.stand do: contracts over the seat's program.
-/
namespace Go.Proofs.YthggcdadipjiiaaGreatDoor
open Go.RowKit Go.Maps Go.WideMaps Go.Sort

set_option maxRecDepth 100000 in
set_option maxHeartbeats 2000000 in
theorem start_any (B bw bb : Nat) (g o k1 : Nat) (ss : List ByteArray) (fv vv : Value) (st bg la fa : Int) (q t r k : Int) (s v : ByteArray) (w : World) (hS : StB w B (.slice (some ⟨g, o, none⟩) ss.length k1) fv st bg la bw bb vv fa) (n : Nat) (wl : List Tx) (hM : MapAt w bw n wl) (hR : StrsAt w g o ss) (hgB : g ≠ B) (h0 : 0 < ss.length) (hlen : ss.length ≤ maxLen) (hs0 : ss[0].size ≤ maxLen) (hl : wl.length ≤ 1000) (hn : n ≤ 100000) :
    Calls Tryz.prog 153 #[.pointer (some ⟨B, 0, none⟩), .agg #[.int .i64 q, .int .i64 t, .int .i64 r, .int .i64 k, .string s, .string v]] w fun e w' => e = .returned .nilIface ∧ StB w' B (.slice (some ⟨g, o, none⟩) ss.length k1) fv 1 t la bw bb vv fa ∧ MapAt w' bw (n + 1) (txt ss[0] :: wl) ∧ Chg (fun i => i = B ∨ i = bw) w w' := by
  have x2 := hS.cell 2
  change _ = some (Value.int .i64 st) at x2
  have x3 := hS.cell 3
  change _ = some (Value.int .i64 bg) at x3
  have f2 := hS.frozen 2
  have f3 := hS.frozen 3
  have hnw : B ≠ bw := hS.ne hM
  have hBl := hS.lt
  have hC : Chg (fun i => i = B ∨ i = bw) w ((w.setCell ⟨B, 2, none⟩ (.int .i64 1)).setCell ⟨B, 3, none⟩ (.int .i64 t)) := ((chg_set w B 2 _).trans (chg_set _ B 3 _)).mono (fun i h => .inl h)
  have hS2 : StB ((w.setCell ⟨B, 2, none⟩ (.int .i64 1)).setCell ⟨B, 3, none⟩ (.int .i64 t)) B (.slice (some ⟨g, o, none⟩) ss.length k1) fv 1 t la bw bb vv fa := blk_set (hS.set 2 (.int .i64 1)) (.int .i64 t)
  have hM2 := map_set (i := 3) (map_set (i := 2) hM hnw (.int .i64 1)) hnw (.int .i64 t)
  have hR2 : StrsAt ((w.setCell ⟨B, 2, none⟩ (.int .i64 1)).setCell ⟨B, 3, none⟩ (.int .i64 t)) g o ss := ⟨by simpa using hR.1, fun i hi => (((chg_set w B 2 (.int .i64 1)).trans (chg_set _ B 3 (.int .i64 t))).cell hR.1 hgB).trans (hR.2 i hi)⟩
  unfold maxLen at hlen
  clear hM hS hR
  go_enter Tryz.func153, Tryz.ntmps153
  go_wp2
  generalize (w.setCell ⟨B, 2, none⟩ (.int .i64 1)).setCell ⟨B, 3, none⟩ (.int .i64 t) = V at *
  have hbW : Below V.heap.size V (V.alloc (.cells #[.int .i64 q, .int .i64 t, .int .i64 r, .int .i64 k, .string s, .string v] 33)) := (Below.refl _ _).alloc (Nat.le_refl _) _
  have HS2 := hid (hS2.stay hbW)
  have HM2 := hid (hM2.stay hbW)
  have HC2 := hid (hC.trans (Chg.of_below hbW))
  have c0 := (hR2.stay hbW (Nat.le_refl _)).2 0 h0
  rw [Nat.add_zero] at c0
  have z0 := HS2.out.cell 0
  change _ = some (Value.slice (some ⟨g, o, none⟩) ss.length k1) at z0
  have z5 := HS2.out.cell 5
  change _ = some (Value.map (some bw)) at z5
  clear x2 x3 f2 f3 hC hS2 hM2 hR2
  generalize hs00 : ss[0] = s0 at *
  have HZ := hid hs00
  clear hs00
  generalize V.alloc (.cells #[.int .i64 q, .int .i64 t, .int .i64 r, .int .i64 k, .string s, .string v] 33) = W at *
  have hdW : W.grownBy W.drew none := ⟨rfl, rfl, rfl, Nat.le_refl _, fun _ _ _ => rfl⟩
  obtain ⟨c, w2, ⟨hrun, hupd⟩, ⟨hc0, hc1⟩, hM3, hg3⟩ := inc_runs (HM2.out.kept hdW (by simp)) hs0 (by omega) (by omega)
  have HM3 := hid hM3
  have HC3 := hid ((HC2.out.trans (Chg.of_none hdW)).trans (Chg.of_grown hg3 (.inr rfl)))
  have HS3 := hid (show StB w2 B (.slice (some ⟨g, o, none⟩) ss.length k1) fv 1 t la bw bb vv fa from HS2.out.chg (Chg.trans (p := fun i => i = bw) (Chg.of_none hdW) (Chg.of_grown hg3 rfl)) hnw)
  have hpos : (0 : Int) < (ss.length : Int) := by omega
  clear hM3 hg3
  go_region
  go_wp2
  go_ret
  exact ⟨rfl, HS3.out, by rw [HZ.out]; exact HM3.out, HC3.out⟩
/-- May an event of that kind come to a run of that status? -/
def awB (st k : Int) : Bool := if k = 1 then st == 0 else st == 1
theorem awaits_any (B bw bb : Nat) (sv fv vv : Value) (st bg la fa k : Int) (w : World) (hS : StB w B sv fv st bg la bw bb vv fa) :
    Calls Tryz.prog 135 #[.pointer (some ⟨B, 0, none⟩), .int .i64 k] w fun e w' => e = .returned (.bool (awB st k)) ∧ w' = w := by
  have x2 := hS.cell 2
  change _ = some (Value.int .i64 st) at x2
  clear hS
  by_cases hk : k = 1
  · subst hk
    have HA := hid (show awB st 1 = (st == 0) from rfl)
    generalize awB st 1 = A at *
    go_enter Tryz.func135, Tryz.ntmps135
    go_wp2
    go_ret
    exact ⟨ret_bool HA.out.symm, rfl⟩
  · have HA := hid (show awB st k = (st == 1) from if_neg hk)
    have hkb : (k == 1) = false := by simpa using hk
    generalize awB st k = A at *
    clear hk
    go_enter Tryz.func135, Tryz.ntmps135
    go_wp2
    go_ret
    exact ⟨ret_bool HA.out.symm, rfl⟩
theorem deed_1 (B : Nat) (w : World) :
    Calls Tryz.prog 136 #[.pointer (some ⟨B, 0, none⟩), .int .i64 1] w fun e w' => e = .returned (.func (.func 153) #[.pointer (some ⟨B, 0, none⟩)] #[]) ∧ w' = w := by
  go_enter Tryz.func136, Tryz.ntmps136
  go_wp2
  go_ret
  exact ⟨rfl, rfl⟩
theorem deed_2 (B : Nat) (w : World) :
    Calls Tryz.prog 136 #[.pointer (some ⟨B, 0, none⟩), .int .i64 2] w fun e w' => e = .returned (.func (.func 154) #[.pointer (some ⟨B, 0, none⟩)] #[]) ∧ w' = w := by
  go_enter Tryz.func136, Tryz.ntmps136
  go_wp2
  go_ret
  exact ⟨rfl, rfl⟩
theorem deed_3 (B : Nat) (w : World) :
    Calls Tryz.prog 136 #[.pointer (some ⟨B, 0, none⟩), .int .i64 3] w fun e w' => e = .returned (.func (.func 155) #[.pointer (some ⟨B, 0, none⟩)] #[]) ∧ w' = w := by
  go_enter Tryz.func136, Tryz.ntmps136
  go_wp2
  go_ret
  exact ⟨rfl, rfl⟩
theorem deed_4 (B : Nat) (w : World) :
    Calls Tryz.prog 136 #[.pointer (some ⟨B, 0, none⟩), .int .i64 4] w fun e w' => e = .returned (.func (.func 156) #[.pointer (some ⟨B, 0, none⟩)] #[]) ∧ w' = w := by
  go_enter Tryz.func136, Tryz.ntmps136
  go_wp2
  go_ret
  exact ⟨rfl, rfl⟩
theorem deed_5 (B : Nat) (w : World) :
    Calls Tryz.prog 136 #[.pointer (some ⟨B, 0, none⟩), .int .i64 5] w fun e w' => e = .returned (.func (.func 157) #[.pointer (some ⟨B, 0, none⟩)] #[]) ∧ w' = w := by
  go_enter Tryz.func136, Tryz.ntmps136
  go_wp2
  go_ret
  exact ⟨rfl, rfl⟩
theorem deed_6 (B : Nat) (w : World) :
    Calls Tryz.prog 136 #[.pointer (some ⟨B, 0, none⟩), .int .i64 6] w fun e w' => e = .returned (.func (.func 158) #[.pointer (some ⟨B, 0, none⟩)] #[]) ∧ w' = w := by
  go_enter Tryz.func136, Tryz.ntmps136
  go_wp2
  go_ret
  exact ⟨rfl, rfl⟩
end Go.Proofs.YthggcdadipjiiaaGreatDoor

/-
  Events: what it is for one to be right; what impl.isNumber answers: a contract over the seat's program.
-/
namespace Go.Proofs.YthggcdadipjiiaaGreatDoor
open Go.RowKit

theorem isNumber_any (n : Int) (w : World) :
    Calls Tryz.prog 150 #[.int .i64 n] w fun e w' => e = .returned (.bool (numB n)) ∧ w' = w := by
  refine rng_walk (fun h1 h2 w => ?_) (fun h1 h2 w => ?_) (fun h1 w => ?_) w
  all_goals
    go_enter Tryz.func150, Tryz.ntmps150
    go_wp2
    go_ret
    exact ⟨rfl, rfl⟩
end Go.Proofs.YthggcdadipjiiaaGreatDoor

/-
  What an event does to a State, and that a right State stays right: plain mathematics. Of no function.
-/
namespace Go.Proofs.YthggcdadipjiiaaGreatDoor
open Go.RowKit Go.Sort

def z0 : St := ⟨0, 0, 0, [], [], [], 0⟩
/-- What an event that may come does: its code, and the State behind it. -/
def doS (ss : List ByteArray) (fs : List Pr) (S : St) (e : Ev) : Int × St :=
  if e.kind = 1 then (0, { S with status := 1, begun := e.time, last := e.time, wait := ss.take 1 })
  else if e.kind = 2 then (if atI S.wait e.step < 0 then (6, z0) else (0, { S with wait := outT S.wait (atI S.wait e.step).toNat, busy := putT S.busy e.step, last := e.time }))
  else if e.kind = 3 then (if atI S.busy e.step < 0 then (6, z0) else if 40 < (putF e.step fs S.wait).length + (outT S.busy (atI S.busy e.step).toNat).length then (9, z0) else (0, { S with wait := putF e.step fs S.wait, busy := outT S.busy (atI S.busy e.step).toNat, last := e.time }))
  else if e.kind = 4 then (if 20 < (setV S.vars ⟨e.step, e.val⟩).length then (9, z0) else (0, { S with vars := setV S.vars ⟨e.step, e.val⟩, last := e.time }))
  else if e.kind = 5 then (if atI S.busy e.step < 0 then (6, z0) else if 1000000 ≤ S.faults then (9, z0) else (0, { S with faults := S.faults + 1, last := e.time }))
  else if 0 < S.wait.length + S.busy.length then (10, z0) else (0, { S with status := 2, last := e.time })
/-- What a right event does. -/
def stepS (ss : List ByteArray) (fs : List Pr) (S : St) (e : Ev) : Int × St :=
  if awB S.status e.kind = true then (if e.time < S.last then (8, z0) else doS ss fs S e) else (10, z0)
/-- What any event does. -/
def evS (ss : List ByteArray) (fs : List Pr) (S : St) (e : Ev) : Int × St := if evB e = true then stepS ss fs S e else (1, z0)
/-- What events do, one after the other, up to the first that is refused. -/
def ofS (ss : List ByteArray) (fs : List Pr) : List Ev → St → Int × St
  | [], S => (0, S)
  | e :: r, S => if (evS ss fs S e).1 = 0 then ofS ss fs r (evS ss fs S e).2 else ((evS ss fs S e).1, z0)

theorem putF_mem {s : ByteArray} {x : ByteArray} : ∀ (fs : List Pr) (l : List ByteArray), x ∈ putF s fs l → x ∈ l ∨ ∃ f ∈ fs, f.snd = x
  | [], _, h => .inl h
  | f :: r, l, h => by
    rcases putF_mem r _ h with h | ⟨g, hg, e⟩
    · by_cases e : f.fst = s
      · rw [if_pos e] at h
        rcases List.mem_cons.1 ((put_perm l f.snd).mem_iff.1 h) with rfl | h
        · exact .inr ⟨f, List.mem_cons_self, rfl⟩
        · exact .inl h
      · rw [if_neg e] at h; exact .inl h
    · exact .inr ⟨g, List.mem_cons_of_mem _ hg, e⟩
theorem marks_of {ss l : List ByteArray} (h1 : ∀ x ∈ l, x ∈ ss) (h2 : Asc (l.map txt)) : MarksP ss l := ⟨fun _ hi => h1 _ (List.getElem_mem hi), asc_sorted h2⟩
theorem MarksP.all {ss l : List ByteArray} (h : MarksP ss l) : ∀ x ∈ l, x ∈ ss := fun x hx => by
  obtain ⟨i, hi, rfl⟩ := List.mem_iff_getElem.1 hx
  exact h.mem i hi
theorem MarksP.asc {ss l : List ByteArray} (h : MarksP ss l) : Asc (l.map txt) := sorted_asc h.sorted
theorem out_mem {l : List ByteArray} {k : Nat} {x : ByteArray} (h : x ∈ outT l k) : x ∈ l := by
  unfold outT at h
  rcases List.mem_append.1 h with h | h
  · exact List.mem_of_mem_take h
  · exact List.mem_of_mem_drop h
theorem out_len {l : List ByteArray} {k : Nat} (h : k < l.length) : (outT l k).length = l.length - 1 := by unfold outT; simp; omega
theorem put_len (l : List ByteArray) (t : ByteArray) : (putT l t).length = l.length + 1 := (put_perm l t).length_eq
theorem at_lt {l : List ByteArray} {t : ByteArray} (h : ¬ atI l t < 0) : (atI l t).toNat < l.length ∧ t ∈ l := by
  have hm := atI_ge.1 (show 0 ≤ atI l t by omega)
  obtain ⟨k, hk, e, _⟩ := atI_in hm
  exact ⟨by rw [e]; simpa using hk, hm⟩
theorem marks_out {ss l : List ByteArray} (h : MarksP ss l) (k : Nat) : MarksP ss (outT l k) := marks_of (fun x hx => h.all x (out_mem hx)) (out_asc h.asc k)
theorem marks_put {ss l : List ByteArray} (h : MarksP ss l) {t : ByteArray} (ht : t ∈ ss) : MarksP ss (putT l t) := marks_of (fun x hx => by
  rcases List.mem_cons.1 ((put_perm l t).mem_iff.1 hx) with rfl | hx
  · exact ht
  · exact h.all x hx) (put_asc h.asc t)
theorem marks_putF {ss l : List ByteArray} {fs : List Pr} (h : MarksP ss l) (hf : FlowsP ss fs) (s : ByteArray) : MarksP ss (putF s fs l) := marks_of (fun x hx => by
  rcases putF_mem fs l hx with hx | ⟨f, hf', rfl⟩
  · exact h.all x hx
  · obtain ⟨i, hi, rfl⟩ := List.mem_iff_getElem.1 hf'
    exact (hf.fl i hi).2) (by rw [putF_srt s h.asc]; exact srt_asc _)
theorem ev_parts {e : Ev} (h : evB e = true) : timB e.time = true ∧ kndB e.kind e.step e.val = true := by
  unfold evB at h
  simp only [Bool.and_eq_true] at h
  exact ⟨h.2.2.1, h.2.2.2⟩
theorem knd_set' {s v : ByteArray} : kndB 4 s v = (nrB s && decide (v.size ≤ 40)) := by simp [kndB]
theorem aw_st {st k : Int} (h : awB st k = true) : (k = 1 → st = 0) ∧ (k ≠ 1 → st = 1) := by
  unfold awB at h
  by_cases e : k = 1
  · rw [if_pos e] at h; exact ⟨fun _ => by simpa using h, fun h' => absurd e h'⟩
  · rw [if_neg e] at h; exact ⟨fun h' => absurd h' e, fun _ => by simpa using h⟩
theorem tim_iff {n : Int} : timB n = true ↔ 0 ≤ n ∧ n ≤ 1000000 := by unfold timB; simp
/-- A right event that may happen leaves a right State right. -/
theorem stepS_right {ss : List ByteArray} {fs : List Pr} {S : St} {e : Ev} (D : DefP ss fs) (hS : StP ss S) (he : evB e = true) (h0 : (stepS ss fs S e).1 = 0) : StP ss (stepS ss fs S e).2 := by
  obtain ⟨ht, hk⟩ := ev_parts he
  unfold stepS at h0 ⊢
  by_cases ha : awB S.status e.kind = true
  · rw [if_pos ha] at h0 ⊢
    by_cases hl : e.time < S.last
    · rw [if_pos hl] at h0; exact absurd h0 (by decide)
    · rw [if_neg hl] at h0 ⊢
      obtain ⟨a1, a2⟩ := aw_st ha
      unfold doS at h0 ⊢
      by_cases k1 : e.kind = 1
      · rw [if_pos k1]
        have hn := (stP_0 (a1 k1)).1 hS
        refine .inr (.inl ⟨rfl, ?_⟩)
        have hv : S.vars = [] := List.eq_nil_of_length_eq_zero hn.v0
        refine ⟨ht, ht, Int.le_refl _, ?_, ⟨fun i hi => ?_, fun i hi => ?_⟩, ⟨fun i hi => ?_, fun i hi => ?_⟩, ?_, ?_⟩
        · show (ss.take 1).length + S.busy.length ≤ 40
          rw [hn.b, List.length_take]; omega
        · exact List.mem_of_mem_take (List.getElem_mem hi)
        · exfalso
          have : (ss.take 1).length ≤ 1 := by rw [List.length_take]; omega
          change i + 1 < (ss.take 1).length at hi
          omega
        · exfalso; change i < S.busy.length at hi; rw [hn.b] at hi; omega
        · exfalso; change i + 1 < S.busy.length at hi; rw [hn.b] at hi; omega
        · show VarsP S.vars
          rw [hv]
          exact ⟨by simp, fun i hi => absurd hi (by simp), fun i hi => absurd hi (by simp)⟩
        · show timB S.faults = true
          rw [hn.f0]; decide
      · rw [if_neg k1] at h0 ⊢
        have hB := (stP_1 (a2 k1)).1 hS
        have hle : S.begun ≤ e.time := by have := hB.le; omega
        by_cases k2 : e.kind = 2
        · rw [if_pos k2] at h0 ⊢
          by_cases hm : atI S.wait e.step < 0
          · rw [if_pos hm] at h0; exact absurd h0 (by decide)
          · rw [if_neg hm]
            obtain ⟨q1, q2⟩ := at_lt hm
            refine .inr (.inl ⟨a2 k1, hB.t1, ht, hle, ?_, marks_out hB.w _, marks_put hB.b (hB.w.all _ q2), hB.v, hB.f⟩)
            show (outT _ _).length + (putT _ _).length ≤ 40
            rw [out_len q1, put_len]; have := hB.m; omega
        · rw [if_neg k2] at h0 ⊢
          by_cases k3 : e.kind = 3
          · rw [if_pos k3] at h0 ⊢
            by_cases hm : atI S.busy e.step < 0
            · rw [if_pos hm] at h0; exact absurd h0 (by decide)
            · rw [if_neg hm] at h0 ⊢
              by_cases hf : 40 < (putF e.step fs S.wait).length + (outT S.busy (atI S.busy e.step).toNat).length
              · rw [if_pos hf] at h0; exact absurd h0 (by decide)
              · rw [if_neg hf]
                exact .inr (.inl ⟨a2 k1, hB.t1, ht, hle, Nat.le_of_not_lt hf, marks_putF hB.w D.2 _, marks_out hB.b _, hB.v, hB.f⟩)
          · rw [if_neg k3] at h0 ⊢
            by_cases k4 : e.kind = 4
            · rw [if_pos k4] at h0 ⊢
              by_cases hf : 20 < (setV S.vars ⟨e.step, e.val⟩).length
              · rw [if_pos hf] at h0; exact absurd h0 (by decide)
              · rw [if_neg hf]
                rw [k4, knd_set'] at hk
                simp only [Bool.and_eq_true, decide_eq_true_eq] at hk
                refine .inr (.inl ⟨a2 k1, hB.t1, ht, hle, hB.m, hB.w, hB.b, ⟨Nat.le_of_not_lt hf, fun i hi => ?_, of_rise (setV_rise (rise_of hB.v.rise) _)⟩, hB.f⟩)
                rcases setV_mem (List.getElem_mem hi) with h | h
                · rw [h]; exact hk
                · obtain ⟨j, hj, e1⟩ := List.mem_iff_getElem.1 h
                  rw [← e1]; exact hB.v.nm j hj
            · rw [if_neg k4] at h0 ⊢
              by_cases k5 : e.kind = 5
              · rw [if_pos k5] at h0 ⊢
                by_cases hm : atI S.busy e.step < 0
                · rw [if_pos hm] at h0; exact absurd h0 (by decide)
                · rw [if_neg hm] at h0 ⊢
                  by_cases hf : 1000000 ≤ S.faults
                  · rw [if_pos hf] at h0; exact absurd h0 (by decide)
                  · rw [if_neg hf]
                    refine .inr (.inl ⟨a2 k1, hB.t1, ht, hle, hB.m, hB.w, hB.b, hB.v, ?_⟩)
                    have := tim_iff.1 hB.f
                    exact tim_iff.2 ⟨by show 0 ≤ S.faults + 1; omega, by show S.faults + 1 ≤ _; omega⟩
              · rw [if_neg k5] at h0 ⊢
                by_cases hm : 0 < S.wait.length + S.busy.length
                · rw [if_pos hm] at h0; exact absurd h0 (by decide)
                · rw [if_neg hm]
                  exact .inr (.inr ⟨rfl, ⟨by show S.wait.length = 0; omega, by show S.busy.length = 0; omega⟩, hB.t1, ht, hle, hB.m, hB.w, hB.b, hB.v, hB.f⟩)
  · rw [if_neg ha] at h0; exact absurd h0 (by decide)
end Go.Proofs.YthggcdadipjiiaaGreatDoor
