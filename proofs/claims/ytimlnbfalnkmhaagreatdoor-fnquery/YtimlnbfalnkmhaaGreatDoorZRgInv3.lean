/-
  Texts put together: RgInv, RgInB, RgOk.
-/
import Derived.Orders
import Derived.WalkKit
import Derived.Below
/-
  A region that draws its order, by an invariant: what holds amid it, whatever has come up by then. Of no function.
-/
namespace Go.Proofs.YtimlnbfalnkmhaaGreatDoor
open Go.RowKit

theorem all_of_ready {md : Region.Mode} {ops : Array Oper} {listed : Array Bool} (hac : ∀ (i : Nat) (o : Oper), ops[i]? = some o → ∀ e ∈ o.after, e.on < i) (hs : listed.size = ops.size) (h : Region.ready md ops listed = []) : ∀ i, i < ops.size → listed.getD i false = true := by
  intro i
  induction i using Nat.strongRecOn with
  | ind i ih =>
    intro hi
    cases hb : listed.getD i false with
    | true => rfl
    | false =>
      exfalso
      have : i ∈ Region.ready md ops listed := mem_ready.2 ⟨by
        have hl : i < listed.size := by omega
        simp [hl] at hb ⊢; exact hb, ops[i], Array.getElem?_eq_getElem hi, fun e he _ => ih e.on (hac i _ (Array.getElem?_eq_getElem hi) e he) (by have := hac i _ (Array.getElem?_eq_getElem hi) e he; omega)⟩
      rw [h] at this
      cases this
theorem count_listed {listed : Array Bool} {i : Nat} (h : listed.getD i true = false) : (listed.setIfInBounds i true).toList.count false + 1 = listed.toList.count false := by
  have hl : i < listed.size := by
    rcases Nat.lt_or_ge i listed.size with h' | h'
    · exact h'
    · simp [Array.getElem?_eq_none h'] at h
  have hv : listed.toList[i]'(by simpa using hl) = false := by simp [hl] at h; simpa using h
  have hpos : 0 < listed.toList.count false := List.count_pos_iff.2 (by rw [← hv]; exact List.getElem_mem _)
  rw [Array.toList_setIfInBounds, List.count_set (by simpa using hl), hv]
  simp only [beq_self_eq_true, if_true, show (true == false) = false from rfl, Bool.false_eq_true, if_false]
  omega
theorem any_inv {P : Program} {md : Region.Mode} {ops : Array Oper} {Q : Exit → Act → World → Prop} (R : Array Bool → Act → World → Prop) (hac : ∀ (i : Nat) (o : Oper), ops[i]? = some o → ∀ e ∈ o.after, e.on < i)
    (hstep : ∀ (i : Nat) (listed : Array Bool) (a : Act) (w : World), R listed a w → listed.getD i true = false → (∃ o : Oper, ops[i]? = some o ∧ ∀ e ∈ o.after, Region.binds md e = true → listed.getD e.on false = true) → wpOp P ops Q i (fun a' w' => R (listed.setIfInBounds i true) a' w') a w)
    (hend : ∀ (listed : Array Bool) (a : Act) (w : World), R listed a w → (∀ i, i < ops.size → listed.getD i false = true) → Q .normal a w) :
    ∀ (fuel : Nat) (listed : Array Bool) (a : Act) (w : World), listed.size = ops.size → listed.toList.count false ≤ fuel → R listed a w → wpAny P md ops Q fuel listed a w := by
  intro fuel
  induction fuel with
  | zero =>
    intro listed a w hs hc hR
    have hr : Region.ready md ops listed = [] := by
      refine List.eq_nil_iff_forall_not_mem.2 fun i hi => ?_
      have := count_listed (mem_ready.1 hi).1
      omega
    exact ⟨hr, hend listed a w hR (all_of_ready hac hs hr)⟩
  | succ n ih =>
    intro listed a w hs hc hR
    refine ⟨fun hr => hend listed a w hR (all_of_ready hac hs hr), fun i hi => ?_⟩
    obtain ⟨h1, h2⟩ := mem_ready.1 hi
    have hcl := count_listed h1
    exact wpOp_mono (fun a' w' h => ih _ a' w' (by simpa using hs) (by omega) h) (hstep i listed a w hR h1 h2)
/-- A region that draws its order, by an invariant over what has come up. -/
theorem wp_region_inv {P : Program} {ops : Array Oper} {Q : Exit → Act → World → Prop} {id : Nat} {a : Act} {w : World} (hm : P.follows .mixedOrders = true) (R : Array Bool → Act → World → Prop) (hac : ∀ (i : Nat) (o : Oper), ops[i]? = some o → ∀ e ∈ o.after, e.on < i)
    (h0 : R (Array.replicate ops.size false) a w.drew)
    (hstep : ∀ (i : Nat) (listed : Array Bool) (a : Act) (w : World), R listed a w → listed.getD i true = false → (∃ o : Oper, ops[i]? = some o ∧ ∀ e ∈ o.after, Region.binds .any e = true → listed.getD e.on false = true) → wpOp P ops Q i (fun a' w' => R (listed.setIfInBounds i true) a' w') a w)
    (hend : ∀ (listed : Array Bool) (a : Act) (w : World), R listed a w → (∀ i, i < ops.size → listed.getD i false = true) → Q .normal a w) : (Code.region id ops true).wp P Q a w :=
  wp_region_any hm (any_inv R hac hstep hend ops.size _ a _ (by simp) (by simp) h0)
/-- Each operation waits for earlier ones alone. -/
def acB (ops : Array Oper) : Bool := (List.range ops.size).all fun i => match ops[i]? with
  | some o => o.after.all fun e => decide (e.on < i)
  | none => true
theorem ac_of {ops : Array Oper} (h : acB ops = true) (i : Nat) (o : Oper) (ho : ops[i]? = some o) (e : Edge) (he : e ∈ o.after) : e.on < i := by
  have hi := List.all_eq_true.1 h i (List.mem_range.2 (Array.getElem?_eq_some_iff.1 ho).1)
  simp only [ho] at hi
  simpa using Array.all_eq_true_iff_forall_mem.1 hi e he
theorem getD_unl {listed : Array Bool} {i : Nat} (h : listed.getD i true = false) : listed.getD i false = false := by
  rw [Array.getD_eq_getD_getElem?] at h ⊢
  cases hq : listed[i]? with
  | none => rw [hq] at h; cases h
  | some q => rw [hq] at h; exact h
theorem getD_self {listed : Array Bool} {i : Nat} (h : listed.getD i true = false) : (listed.setIfInBounds i true).getD i false = true := by
  have hl : i < listed.size := by
    rcases Nat.lt_or_ge i listed.size with h' | h'
    · exact h'
    · simp [Array.getElem?_eq_none h'] at h
  simp [hl]
theorem getD_other {listed : Array Bool} {i j : Nat} (h : i ≠ j) (hj : (listed.setIfInBounds i true).getD j false = true) : listed.getD j false = true := by rwa [getD_set_ne false h] at hj
theorem getD_otherF {listed : Array Bool} {i j : Nat} (h : i ≠ j) (hj : (listed.setIfInBounds i true).getD j false = false) : listed.getD j false = false := by rwa [getD_set_ne false h] at hj
theorem unl_absurd {listed : Array Bool} {i : Nat} {C : Prop} (h : listed.getD i false = true) (h' : listed.getD i true = false) : C := by
  rw [getD_unl h'] at h; cases h
theorem op_go {P : Program} {ops : Array Oper} {Q : Exit → Act → World → Prop} {i : Nat} {o : Oper} {K : Act → World → Prop} {a : Act} {w : World} (hi : ops[i]? = some o) (hg : o.guard = none) (h : o.wp P a w K Q) : wpOp P ops Q i K a w := by
  unfold wpOp
  rw [hi]
  simp only [show Region.wanted o (yielded ops a.tmps) = true by simp [Region.wanted, hg], if_true]
  exact .inl h
end Go.Proofs.YtimlnbfalnkmhaaGreatDoor

/-
  A region that draws its order, by an invariant, where an edge that binds no order of ours may go to a later operation. Of no function.
-/
namespace Go.Proofs.YtimlnbfalnkmhaaGreatDoor
open Go.RowKit

theorem all_of_readyB {md : Region.Mode} {ops : Array Oper} {listed : Array Bool} (hac : ∀ (i : Nat) (o : Oper), ops[i]? = some o → ∀ e ∈ o.after, Region.binds md e = true → e.on < i) (hs : listed.size = ops.size) (h : Region.ready md ops listed = []) : ∀ i, i < ops.size → listed.getD i false = true := by
  intro i
  induction i using Nat.strongRecOn with
  | ind i ih =>
    intro hi
    cases hb : listed.getD i false with
    | true => rfl
    | false =>
      exfalso
      have : i ∈ Region.ready md ops listed := mem_ready.2 ⟨by
        have hl : i < listed.size := by omega
        simp [hl] at hb ⊢; exact hb, ops[i], Array.getElem?_eq_getElem hi, fun e he hbn => ih e.on (hac i _ (Array.getElem?_eq_getElem hi) e he hbn) (by have := hac i _ (Array.getElem?_eq_getElem hi) e he hbn; omega)⟩
      rw [h] at this
      cases this
theorem any_invB {P : Program} {md : Region.Mode} {ops : Array Oper} {Q : Exit → Act → World → Prop} (R : Array Bool → Act → World → Prop) (hac : ∀ (i : Nat) (o : Oper), ops[i]? = some o → ∀ e ∈ o.after, Region.binds md e = true → e.on < i)
    (hstep : ∀ (i : Nat) (listed : Array Bool) (a : Act) (w : World), R listed a w → listed.getD i true = false → (∃ o : Oper, ops[i]? = some o ∧ ∀ e ∈ o.after, Region.binds md e = true → listed.getD e.on false = true) → wpOp P ops Q i (fun a' w' => R (listed.setIfInBounds i true) a' w') a w)
    (hend : ∀ (listed : Array Bool) (a : Act) (w : World), R listed a w → (∀ i, i < ops.size → listed.getD i false = true) → Q .normal a w) :
    ∀ (fuel : Nat) (listed : Array Bool) (a : Act) (w : World), listed.size = ops.size → listed.toList.count false ≤ fuel → R listed a w → wpAny P md ops Q fuel listed a w := by
  intro fuel
  induction fuel with
  | zero =>
    intro listed a w hs hc hR
    have hr : Region.ready md ops listed = [] := by
      refine List.eq_nil_iff_forall_not_mem.2 fun i hi => ?_
      have := count_listed (mem_ready.1 hi).1
      omega
    exact ⟨hr, hend listed a w hR (all_of_readyB hac hs hr)⟩
  | succ n ih =>
    intro listed a w hs hc hR
    refine ⟨fun hr => hend listed a w hR (all_of_readyB hac hs hr), fun i hi => ?_⟩
    obtain ⟨h1, h2⟩ := mem_ready.1 hi
    have hcl := count_listed h1
    exact wpOp_mono (fun a' w' h => ih _ a' w' (by simpa using hs) (by omega) h) (hstep i listed a w hR h1 h2)
theorem wp_region_invB {P : Program} {ops : Array Oper} {Q : Exit → Act → World → Prop} {id : Nat} {a : Act} {w : World} (hm : P.follows .mixedOrders = true) (R : Array Bool → Act → World → Prop) (hac : ∀ (i : Nat) (o : Oper), ops[i]? = some o → ∀ e ∈ o.after, Region.binds .any e = true → e.on < i)
    (h0 : R (Array.replicate ops.size false) a w.drew)
    (hstep : ∀ (i : Nat) (listed : Array Bool) (a : Act) (w : World), R listed a w → listed.getD i true = false → (∃ o : Oper, ops[i]? = some o ∧ ∀ e ∈ o.after, Region.binds .any e = true → listed.getD e.on false = true) → wpOp P ops Q i (fun a' w' => R (listed.setIfInBounds i true) a' w') a w)
    (hend : ∀ (listed : Array Bool) (a : Act) (w : World), R listed a w → (∀ i, i < ops.size → listed.getD i false = true) → Q .normal a w) : (Code.region id ops true).wp P Q a w :=
  wp_region_any hm (any_invB R hac hstep hend ops.size _ a _ (by simp) (by simp) h0)
def acBB (ops : Array Oper) : Bool := (List.range ops.size).all fun i => match ops[i]? with
  | some o => o.after.all fun e => !Region.binds .any e || decide (e.on < i)
  | none => true
theorem ac_ofB {ops : Array Oper} (h : acBB ops = true) (i : Nat) (o : Oper) (ho : ops[i]? = some o) (e : Edge) (he : e ∈ o.after) (hb : Region.binds .any e = true) : e.on < i := by
  have hi := List.all_eq_true.1 h i (List.mem_range.2 (Array.getElem?_eq_some_iff.1 ho).1)
  simp only [ho] at hi
  have := Array.all_eq_true_iff_forall_mem.1 hi e he
  simpa [hb] using this
end Go.Proofs.YtimlnbfalnkmhaaGreatDoor

/-
  A region that draws its order, operation by operation: what each operation's slot holds, whatever has come up by then; and one operation that comes last. Of no function.
-/
namespace Go.Proofs.YtimlnbfalnkmhaaGreatDoor
open Go.RowKit

/-- The slots' values by operation, one of them new. -/
def upd (v : Nat → Value) (i : Nat) (x : Value) : Nat → Value := fun j => if j = i then x else v j
theorem upd_self (v : Nat → Value) (i : Nat) (x : Value) : upd v i x i = x := if_pos rfl
theorem upd_ne {v : Nat → Value} {i j : Nat} {x : Value} (h : ¬ j = i) : upd v i x j = v j := if_neg h
def depB (ops : Array Oper) (i d : Nat) : Bool := match ops[i]? with
  | some o => o.after.any fun e => e.on == d && Region.binds .any e
  | none => false
/-- A table: what each operation waits for, at first or second hand. -/
def tabB (ops : Array Oper) (T : List (List Nat)) : Bool := (List.range ops.size).all fun i => (T.getD i []).all fun d => depB ops i d || (List.range i).any fun k => depB ops i k && (T.getD k []).contains d
def Closed (ops : Array Oper) (listed : Array Bool) : Prop := ∀ i, listed.getD i false = true → ∀ d, depB ops i d = true → listed.getD d false = true
theorem tab_listed {ops : Array Oper} {T : List (List Nat)} (hT : tabB ops T = true) {listed : Array Bool} (hc : Closed ops listed) : ∀ i, i < ops.size → (∀ d, depB ops i d = true → listed.getD d false = true) → ∀ d ∈ T.getD i [], listed.getD d false = true := by
  intro i
  induction i using Nat.strongRecOn with
  | ind i ih =>
    intro hi hd d hm
    have h1 := List.all_eq_true.1 (List.all_eq_true.1 hT i (List.mem_range.2 hi)) d hm
    rcases Bool.or_eq_true_iff.1 h1 with h | h
    · exact hd d h
    · obtain ⟨k, hk, h2⟩ := List.any_eq_true.1 h
      obtain ⟨h3, h4⟩ := Bool.and_eq_true_iff.1 h2
      have hk' := List.mem_range.1 hk
      exact ih k hk' (by omega) (hc k (hd k h3)) d (by simpa using h4)
/-- What is told behind an operation. -/
def OkP (mk : (Nat → Value) → Act) (Ok : Nat → Value → World → Prop) (G : World → Prop) (S : World → World → Prop) (v : Nat → Value) (i : Nat) (X : World) (a' : Act) (X' : World) : Prop := ∃ x, a' = mk (upd v i x) ∧ Ok i x X' ∧ G X' ∧ S X X'
theorem upd_id {v : Nat → Value} {i : Nat} {x : Value} (h : v i = x) : upd v i x = v := by
  funext j
  unfold upd
  by_cases e : j = i
  · rw [if_pos e, e, h]
  · rw [if_neg e]
theorem upd_on {v v' : Nat → Value} {i : Nat} {x : Value} (h : v' = v) (q : v i = x) : upd v' i x = v := by
  subst h
  exact upd_id q
theorem dep_of {ops : Array Oper} {listed : Array Bool} {i : Nat} (h : ∃ o : Oper, ops[i]? = some o ∧ ∀ e ∈ o.after, Region.binds .any e = true → listed.getD e.on false = true) : ∀ d, depB ops i d = true → listed.getD d false = true := by
  obtain ⟨o, ho, h⟩ := h
  intro d hd
  unfold depB at hd
  rw [ho] at hd
  obtain ⟨k, hk, h2⟩ := Array.any_eq_true.1 hd
  simp only [Bool.and_eq_true, beq_iff_eq] at h2
  obtain ⟨rfl, hb⟩ := h2
  exact h _ (Array.getElem_mem hk) hb
theorem getD_lt {listed : Array Bool} {i : Nat} (h : listed.getD i true = false) : i < listed.size := by
  rcases Nat.lt_or_ge i listed.size with h' | h'
  · exact h'
  · simp [Array.getElem?_eq_none h'] at h
theorem getD_rep (n i : Nat) : (Array.replicate n false).getD i false = false := by
  rw [Array.getD_eq_getD_getElem?, Array.getElem?_replicate]
  split <;> rfl
theorem closed_set {ops : Array Oper} {listed : Array Bool} {i : Nat} (hc : Closed ops listed) (hd : ∀ d, depB ops i d = true → listed.getD d false = true) : Closed ops (listed.setIfInBounds i true) := by
  intro j hj d hdj
  by_cases e : i = j
  · subst e; exact getD_set_true (hd d hdj)
  · exact getD_set_true (hc j (getD_other e hj) d hdj)
/-- The law: 'L' operations whose slots hold what Ok says from when they come up on, then, maybe, one that is the last. -/
theorem wp_region_okL {P : Program} {ops : Array Oper} {Q : Exit → Act → World → Prop} {id : Nat} {a : Act} {w : World} (hm : P.follows .mixedOrders = true) (L : Nat) (T : List (List Nat)) (mk : (Nat → Value) → Act) (v0 : Nat → Value) (Ok : Nat → Value → World → Prop) (G : World → Prop) (S : World → World → Prop)
    (hb : (acBB ops && tabB ops T && (ops.size == L || ops.size == L + 1 && (List.range L).all (T.getD L []).contains)) = true) (ha : a = mk v0) (hG : G w.drew)
    (mono : ∀ i x X X', i < L → G X → S X X' → Ok i x X → Ok i x X')
    (step : ∀ i v X, i < L → G X → (∀ d ∈ T.getD i [], Ok d (v d) X) → (∀ j, i ∈ T.getD j [] → v j = v0 j) → ∀ K, Hid (∀ x v' a' X', v' = v → a' = mk (upd v' i x) → Ok i x X' → G X' → S X X' → K a' X') → wpOp P ops Q i K (mk v) X)
    (last : ops.size = L + 1 → ∀ v X, G X → (∀ d, d < L → Ok d (v d) X) → wpOp P ops Q L (fun a' X' => Q .normal a' X') (mk v) X)
    (fin : ops.size = L → ∀ v X, G X → (∀ d, d < L → Ok d (v d) X) → Q .normal (mk v) X) : (Code.region id ops true).wp P Q a w := by
  simp only [Bool.and_eq_true, Bool.or_eq_true, beq_iff_eq] at hb
  obtain ⟨⟨hac, hT⟩, hL⟩ := hb
  refine wp_region_invB hm (fun listed a X => listed.size = ops.size ∧ (((∀ i, i < ops.size → listed.getD i false = true) ∧ Q .normal a X) ∨ ((∀ i, L ≤ i → listed.getD i false = false) ∧ Closed ops listed ∧ ∃ v, a = mk v ∧ G X ∧ (∀ i, listed.getD i false = true → Ok i (v i) X) ∧ ∀ j, listed.getD j false = false → v j = v0 j))) (ac_ofB hac) ?_ ?_ ?_
  · refine ⟨by simp, .inr ⟨fun i _ => getD_rep _ _, fun i hi => ?_, v0, ha, hG, fun i hi => ?_, fun _ _ => rfl⟩⟩
    all_goals
      rw [getD_rep] at hi
      cases hi
  · rintro i listed a X ⟨hs, h⟩ hun hdep
    have hil := getD_lt hun
    have hi : i < ops.size := by omega
    have hd := dep_of hdep
    rcases h with ⟨hall, _⟩ | ⟨hno, hc, v, rfl, hG, hok, hun0⟩
    · exact absurd (getD_unl hun) (by rw [hall i hi]; decide)
    · have hTi := tab_listed hT hc i hi hd
      by_cases hlt : i < L
      · refine wpOp_mono ?_ (step i v X hlt hG (fun d hdm => hok d (hTi d hdm)) (fun j hj => hun0 j (Bool.eq_false_iff.2 fun hjl => by
          have hjs : j < ops.size := by
            rcases Nat.lt_or_ge j listed.size with h' | h'
            · omega
            · rw [Array.getD_eq_getD_getElem?, Array.getElem?_eq_none h'] at hjl; cases hjl
          exact unl_absurd (tab_listed hT hc j hjs (hc j hjl) i hj) hun)) (OkP mk Ok G S v i X) (show ∀ x v' a' X', _ from fun x v' a' X' hv ha ok g s => by subst hv; exact ⟨x, ha, ok, g, s⟩))
        rintro a' X' ⟨x, rfl, h1, h2, h3⟩
        refine ⟨by simpa using hs, .inr ⟨fun j hj => ?_, closed_set hc hd, upd v i x, rfl, h2, fun j hj => ?_, fun j hj => ?_⟩⟩
        · rw [getD_set_ne false (by omega)]; exact hno j hj
        · by_cases e : j = i
          · subst e; rw [upd_self]; exact h1
          · rw [upd_ne e]
            have hj' := getD_other (fun h => e h.symm) hj
            exact mono j _ X X' (by
              rcases Nat.lt_or_ge j L with h' | h'
              · exact h'
              · rw [hno j h'] at hj'; cases hj') hG h3 (hok j hj')
        · by_cases e : j = i
          · subst e; rw [getD_self hun] at hj; cases hj
          · rw [upd_ne e]; exact hun0 j (getD_otherF (fun h => e h.symm) hj)
      · have hsz : ops.size = L + 1 := by
          rcases hL with h | h
          · omega
          · exact h.1
        obtain rfl : i = L := by omega
        have hLL : (List.range i).all (T.getD i []).contains = true := by
          rcases hL with h | h
          · omega
          · exact h.2
        have hall : ∀ d, d < i → listed.getD d false = true := fun d hdl => hTi d (by
          have := List.all_eq_true.1 hLL d (List.mem_range.2 hdl)
          simpa using this)
        refine wpOp_mono ?_ (last hsz v X hG (fun d hdl => hok d (hall d hdl)))
        intro a' X' hq
        refine ⟨by simpa using hs, .inl ⟨fun j hj => ?_, hq⟩⟩
        by_cases e : i = j
        · subst e; exact getD_self hun
        · exact getD_set_true (hall j (by omega))
  · rintro listed a X ⟨hs, h⟩ hall
    rcases h with ⟨_, hq⟩ | ⟨hno, hc, v, rfl, hG, hok, hun0⟩
    · exact hq
    · have hsz : ops.size = L := by
        rcases hL with h | h
        · exact h
        · have h1 := hno L (Nat.le_refl _)
          rw [hall L (by omega)] at h1; cases h1
      exact fin hsz v X hG (fun d hdl => hok d (hall d (by omega)))
/-- The same without a last one. -/
theorem wp_region_ok {P : Program} {ops : Array Oper} {Q : Exit → Act → World → Prop} {id : Nat} {a : Act} {w : World} (hm : P.follows .mixedOrders = true) (L : Nat) (T : List (List Nat)) (mk : (Nat → Value) → Act) (v0 : Nat → Value) (Ok : Nat → Value → World → Prop) (G : World → Prop) (S : World → World → Prop)
    (hb : (acBB ops && tabB ops T && ops.size == L) = true) (ha : a = mk v0) (hG : G w.drew)
    (mono : ∀ i x X X', i < L → G X → S X X' → Ok i x X → Ok i x X')
    (step : ∀ i v X, i < L → G X → (∀ d ∈ T.getD i [], Ok d (v d) X) → (∀ j, i ∈ T.getD j [] → v j = v0 j) → ∀ K, Hid (∀ x v' a' X', v' = v → a' = mk (upd v' i x) → Ok i x X' → G X' → S X X' → K a' X') → wpOp P ops Q i K (mk v) X)
    (fin : ∀ v X, G X → (∀ d, d < L → Ok d (v d) X) → Q .normal (mk v) X) : (Code.region id ops true).wp P Q a w := by
  have h := hb
  simp only [Bool.and_eq_true, beq_iff_eq] at h
  obtain ⟨⟨h1, h2⟩, h3⟩ := h
  exact wp_region_okL hm L T mk v0 Ok G S (by simp [h1, h2, h3]) ha hG mono step (fun h => by omega) (fun _ => fin)
/-- An operation whose guard is false. -/
theorem op_skip {P : Program} {ops : Array Oper} {Q : Exit → Act → World → Prop} {i : Nat} {o : Oper} {K : Act → World → Prop} {a : Act} {w : World} (hi : ops[i]? = some o) (hg : Region.wanted o (yielded ops a.tmps) = false) (h : K (a.put o.dst undef) w) : wpOp P ops Q i K a w := by
  unfold wpOp
  rw [hi]
  simp only [hg, Bool.false_eq_true, if_false]
  exact h
theorem op_want {P : Program} {ops : Array Oper} {Q : Exit → Act → World → Prop} {i : Nat} {o : Oper} {K : Act → World → Prop} {a : Act} {w : World} (hi : ops[i]? = some o) (hg : Region.wanted o (yielded ops a.tmps) = true) (h : o.wp P a w K Q) : wpOp P ops Q i K a w := by
  unfold wpOp
  rw [hi]
  simp only [hg, if_true]
  exact .inl h
end Go.Proofs.YtimlnbfalnkmhaaGreatDoor
