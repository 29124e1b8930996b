/-
  Texts put together: QrB, SpAp, RgTwo.
-/
import Derived.Test.YtimlnbfalnkmhaaGreatDoorZQrM
import Derived.Test.YtimlnbfalnkmhaaGreatDoorZGen2
import Derived.Deep.RegionLaw
import Derived.Test.YtimlnbfalnkmhaaGreatDoorZRgInv3
/-
  What is read is right; where it may not go on is no farther than there are words. Of no function.
-/
namespace Go.Proofs.YtimlnbfalnkmhaaGreatDoor
open Go.RowKit
set_option linter.unusedVariables false

theorem rCond_ok {ws : List ByteArray} {k : Nat} {c : Cd} (h : rCond ws k = .ok c) : cdB c = true := by
  unfold rCond at h
  by_cases h1 : isF (nw ws k) = true
  · rw [if_pos h1] at h
    by_cases h2 : numF (nw ws k) = true
    · rw [if_pos h2] at h
      by_cases h3 : numO (nw ws (k + 1)) = true
      · rw [if_pos h3] at h
        by_cases h4 : numOk (nw ws (k + 2)) 1000000 = true
        · rw [if_pos h4] at h
          cases h
          unfold numOk at h4
          simp only [Bool.and_eq_true, decide_eq_true_eq] at h4
          unfold cdB
          simp only
          rw [if_pos h2]
          simp [h3, h4.1, h4.2]
        · rw [if_neg h4] at h; cases h
      · rw [if_neg h3] at h; cases h
    · rw [if_neg h2] at h
      by_cases h3 : wrdO (nw ws (k + 1)) = true
      · rw [if_pos h3] at h
        by_cases h4 : wrdR (nw ws k) (nw ws (k + 2)) = true
        · rw [if_pos h4] at h
          cases h
          have hw : wrdF (nw ws k) = true := by
            unfold isF at h1
            rcases Bool.or_eq_true_iff.1 h1 with h | h
            · exact absurd h h2
            · exact h
          unfold cdB
          simp only
          rw [if_neg h2]
          simp [hw, h3, h4]
        · rw [if_neg h4] at h; cases h
      · rw [if_neg h3] at h; cases h
  · rw [if_neg h1] at h; cases h
theorem rMoreXok {ws : List ByteArray} : ∀ (m k : Nat) (acc : List Cd) (r : List Cd × Nat), rMore ws m k acc = .ok r → (∀ c ∈ acc, cdB c = true) → (∀ c ∈ r.1, cdB c = true) ∧ r.1.length ≤ acc.length + m
  | 0, k, acc, r, h, ha => by cases h; exact ⟨ha, Nat.le_refl _⟩
  | m + 1, k, acc, r, h, ha => by
    unfold rMore at h
    by_cases h1 : nw ws k = qAnd
    · rw [if_pos h1] at h
      cases hc : rCond ws (k + 1) with
      | ok c =>
        rw [hc] at h
        obtain ⟨i1, i2⟩ := rMoreXok m _ _ r h (fun x hx => (List.mem_append.1 hx).elim (ha x) (fun hx => by obtain rfl := List.mem_singleton.1 hx; exact rCond_ok hc))
        refine ⟨i1, ?_⟩
        simp at i2; omega
      | error e => rw [hc] at h; cases h
    · rw [if_neg h1] at h
      cases h
      exact ⟨ha, by simp⟩
theorem rCondsXok {ws : List ByteArray} {k : Nat} {r : List Cd × Nat} (h : rConds ws k = .ok r) : (∀ c ∈ r.1, cdB c = true) ∧ r.1.length ≤ 6 := by
  unfold rConds at h
  by_cases h1 : nw ws k = qWhere
  · rw [if_pos h1] at h
    cases hc : rCond ws (k + 1) with
    | ok c =>
      rw [hc] at h
      have := rMoreXok 5 _ _ r h (fun x hx => by obtain rfl := List.mem_singleton.1 hx; exact rCond_ok hc)
      exact ⟨this.1, by have := this.2; simp at this; omega⟩
    | error e => rw [hc] at h; cases h
  · rw [if_neg h1] at h
    cases h
    exact ⟨fun c hc => (by cases hc), Nat.zero_le _⟩
theorem rEnd_ok {ws : List ByteArray} {k : Nat} {q p : Qy} (h : rEnd ws k q = .ok p) : p = q := by
  unfold rEnd at h
  split at h
  · cases h; rfl
  · cases h
theorem rQ_ok {ws : List ByteArray} {q : Qy} (h : rQ ws = .ok q) : qyB q = true := by
  unfold rQ at h
  by_cases h0 : nw ws 0 = qCount
  · rw [if_pos h0] at h
    cases hc : rConds ws 1 with
    | error e => rw [hc] at h; cases h
    | ok r =>
      obtain ⟨cs, k⟩ := r
      rw [hc] at h
      simp only at h
      obtain ⟨c1, c2⟩ := rCondsXok hc
      unfold rCnt at h
      cases hb : rBy ws k with
      | error e => rw [hb] at h; cases h
      | ok r =>
        obtain ⟨b, k1⟩ := r
        rw [hb] at h
        simp only at h
        obtain rfl := rEnd_ok h
        have hbb : b = noW ∨ isF b = true := by
          unfold rBy at hb
          by_cases h1 : nw ws k = qBy
          · rw [if_pos h1] at hb
            by_cases h2 : isF (nw ws (k + 1)) = true
            · rw [if_pos h2] at hb; cases hb; exact .inr h2
            · rw [if_neg h2] at hb; cases hb
          · rw [if_neg h1] at hb; cases hb; exact .inl rfl
        unfold qyB byB
        simp only [if_true, Bool.and_eq_true, decide_eq_true_eq, List.all_eq_true, Bool.or_eq_true]
        exact ⟨c2, c1, hbb, by simp⟩
  · rw [if_neg h0] at h
    by_cases h1 : nw ws 0 = qFind
    · rw [if_pos h1] at h
      cases hc : rConds ws 1 with
      | error e => rw [hc] at h; cases h
      | ok r =>
        obtain ⟨cs, k⟩ := r
        rw [hc] at h
        simp only at h
        obtain ⟨c1, c2⟩ := rCondsXok hc
        unfold rFnd at h
        cases ho : rOrd ws k with
        | error e => rw [ho] at h; cases h
        | ok r =>
          obtain ⟨o, d, k1⟩ := r
          rw [ho] at h
          simp only at h
          cases hl : rLim ws k1 with
          | error e => rw [hl] at h; cases h
          | ok r =>
            obtain ⟨lm, k2⟩ := r
            rw [hl] at h
            simp only at h
            obtain rfl := rEnd_ok h
            have hoo : numF o = true ∨ (o = noW ∧ d = false) := by
              unfold rOrd at ho
              by_cases h1 : nw ws k = qOrder
              · rw [if_pos h1] at ho
                by_cases h2 : numF (nw ws (k + 1)) = true
                · rw [if_pos h2] at ho; cases ho; exact .inl h2
                · rw [if_neg h2] at ho; cases ho
              · rw [if_neg h1] at ho; cases ho; exact .inr ⟨rfl, rfl⟩
            have hll : -1 ≤ lm ∧ lm ≤ 200 := by
              unfold rLim at hl
              by_cases h1 : nw ws k1 = qLimit
              · rw [if_pos h1] at hl
                by_cases h2 : numOk (nw ws (k1 + 1)) 200 = true
                · rw [if_pos h2] at hl
                  cases hl
                  unfold numOk at h2
                  simp only [Bool.and_eq_true, decide_eq_true_eq] at h2
                  omega
                · rw [if_neg h2] at hl; cases hl
              · rw [if_neg h1] at hl; cases hl; omega
            unfold qyB byB
            simp only [Bool.false_eq_true, if_false, Bool.and_eq_true, decide_eq_true_eq, List.all_eq_true, Bool.or_eq_true, Bool.not_eq_true']
            exact ⟨c2, c1, trivial, hoo, hll.1, hll.2⟩
    · rw [if_neg h1] at h; cases h
theorem nw_ne_lt {ws : List ByteArray} {k : Nat} {x : ByteArray} (h : nw ws k = x) (hx : x ≠ noW) : k < ws.length := nw_lt h hx
theorem rMoreXerr {ws : List ByteArray} : ∀ (m k : Nat) (acc : List Cd) (e : Nat), k ≤ ws.length → rMore ws m k acc = .error e → e ≤ ws.length
  | 0, k, acc, e, hk, h => by cases h
  | m + 1, k, acc, e, hk, h => by
    unfold rMore at h
    by_cases h1 : nw ws k = qAnd
    · rw [if_pos h1] at h
      have := nw_ne_lt h1 (by decide)
      cases hc : rCond ws (k + 1) with
      | ok c => rw [hc] at h; exact rMoreXerr m _ _ e (by have := rCond_lt hc; omega) h
      | error e' => rw [hc] at h; cases h; exact rCond_err hc (by omega)
    · rw [if_neg h1] at h; cases h
theorem rCondsXerr {ws : List ByteArray} {k e : Nat} (hk : k ≤ ws.length) (h : rConds ws k = .error e) : e ≤ ws.length := by
  unfold rConds at h
  by_cases h1 : nw ws k = qWhere
  · rw [if_pos h1] at h
    have := nw_ne_lt h1 (by decide)
    cases hc : rCond ws (k + 1) with
    | ok c => rw [hc] at h; exact rMoreXerr _ _ _ e (by have := rCond_lt hc; omega) h
    | error e' => rw [hc] at h; cases h; exact rCond_err hc (by omega)
  · rw [if_neg h1] at h; cases h
theorem rEnd_err {ws : List ByteArray} {k e : Nat} {q : Qy} (hk : k ≤ ws.length) (h : rEnd ws k q = .error e) : e ≤ ws.length := by
  unfold rEnd at h
  split at h
  · cases h
  · cases h; exact hk
theorem rQ_err {ws : List ByteArray} {e : Nat} (h : rQ ws = .error e) : e ≤ ws.length := by
  unfold rQ at h
  by_cases h0 : nw ws 0 = qCount
  · rw [if_pos h0] at h
    have hl := nw_ne_lt h0 (by decide)
    cases hc : rConds ws 1 with
    | error e' => rw [hc] at h; cases h; exact rCondsXerr (by omega) hc
    | ok r =>
      have hk := rConds_lt (by omega) hc
      obtain ⟨cs, k⟩ := r
      rw [hc] at h
      simp only at h hk
      unfold rCnt rBy at h
      by_cases h1 : nw ws k = qBy
      · have h1l := nw_ne_lt h1 (by decide)
        rw [if_pos h1] at h
        by_cases h2 : isF (nw ws (k + 1)) = true
        · rw [if_pos h2] at h
          exact rEnd_err (by have := isF_lt h2; omega) h
        · rw [if_neg h2] at h; cases h; omega
      · rw [if_neg h1] at h
        exact rEnd_err hk h
  · rw [if_neg h0] at h
    by_cases h1 : nw ws 0 = qFind
    · rw [if_pos h1] at h
      have hl := nw_ne_lt h1 (by decide)
      cases hc : rConds ws 1 with
      | error e' => rw [hc] at h; cases h; exact rCondsXerr (by omega) hc
      | ok r =>
        have hk := rConds_lt (by omega) hc
        obtain ⟨cs, k⟩ := r
        rw [hc] at h
        simp only at h hk
        unfold rFnd at h
        cases ho : rOrd ws k with
        | error e' =>
          rw [ho] at h
          cases h
          unfold rOrd at ho
          by_cases h1 : nw ws k = qOrder
          · have := nw_ne_lt h1 (by decide)
            rw [if_pos h1] at ho
            split at ho
            · cases ho
            · cases ho; omega
          · rw [if_neg h1] at ho; cases ho
        | ok r =>
          obtain ⟨o, d, k1⟩ := r
          rw [ho] at h
          simp only at h
          have hk1 : k1 ≤ ws.length := by
            unfold rOrd at ho
            by_cases h1 : nw ws k = qOrder
            · rw [if_pos h1] at ho
              by_cases h2 : numF (nw ws (k + 1)) = true
              · rw [if_pos h2] at ho
                have hn := numF_lt h2
                by_cases h3 : nw ws (k + 2) = qDesc
                · have := nw_ne_lt h3 (by decide)
                  rw [if_pos h3] at ho; cases ho; omega
                · rw [if_neg h3] at ho; cases ho; omega
              · rw [if_neg h2] at ho; cases ho
            · rw [if_neg h1] at ho; cases ho; exact hk
          cases hl : rLim ws k1 with
          | error e' =>
            rw [hl] at h
            cases h
            unfold rLim at hl
            by_cases h1 : nw ws k1 = qLimit
            · have := nw_ne_lt h1 (by decide)
              rw [if_pos h1] at hl
              split at hl
              · cases hl
              · cases hl; omega
            · rw [if_neg h1] at hl; cases hl
          | ok r =>
            obtain ⟨lm, k2⟩ := r
            rw [hl] at h
            simp only at h
            have hk2 : k2 ≤ ws.length := by
              unfold rLim at hl
              by_cases h1 : nw ws k1 = qLimit
              · rw [if_pos h1] at hl
                by_cases h2 : numOk (nw ws (k1 + 1)) 200 = true
                · rw [if_pos h2] at hl
                  have := numOk_lt h2
                  cases hl; omega
                · rw [if_neg h2] at hl; cases hl
              · rw [if_neg h1] at hl; cases hl; exact hk1
            exact rEnd_err hk2 h
    · rw [if_neg h1] at h; cases h; exact Nat.zero_le _
end Go.Proofs.YtimlnbfalnkmhaaGreatDoor

/-
  append onto a row of one's own, as one operation of a region that draws. Of no function.
-/
namespace Go.Proofs.YtimlnbfalnkmhaaGreatDoor
open Go.RowKit

theorem step_append_own {P : Program} {w : World} {ops : Array Oper} {o : Oper} {a : Act} {K : Act → World → Prop} {Q : Exit → Act → World → Prop} {E : Prop} (hgd : o.guard = none) (s x : Operand) (t : TypeId)
    (ho : o.op = .call { callee := .builtin .append, args := #[s, x], argTypes := #[t, t] })
    (base : Nat) (e : TypeId) (i : TypeInfo) (z : Value) (size bytes : Nat) (ht : P.underlying t = some (.slice e)) (hi : P.info? e = some i) (hz : i.zero = some z)
    (hsize : i.size = size) (hby : i.bytes = bytes) (hzs : z.cells.size = size) (hsz : 0 < size)
    (v : Value) (n : Nat) (xs : List Value) (hs : a.eval s = v) (hown : w.ownsRow base e size v n xs)
    (ad : Addr) (m c : Nat) (news : List Value) (hx : a.eval x = .slice (some ad) m c) (hl : news.length = m * size) (hnews : ∀ j u, news[j]? = some u → w.cell? (ad.add j) = some u) (h1 : ∀ u ∈ news, u.oneCell' = true)
    (h63 : n + m ≤ maxLen) (hbytes : (n + m) * bytes ≤ 140737488355328) (hbase : base ≤ w.heap.size)
    (h : ∀ v' w', w'.ownsRow base e size v' (n + m) (xs ++ news) → w.grownBy w' v.ownBlock → (v' = .slice none 0 0 ↔ v = .slice none 0 0 ∧ m = 0) → K (a.put o.dst v') w') :
    if Region.wanted o (yielded ops a.tmps) = true then Oper.wp P o a w K Q else E := by
  rw [if_pos (show Region.wanted o (yielded ops a.tmps) = true by simp [Region.wanted, hgd])]
  exact wp_append_own w s x t ho base e i z size bytes ht hi hz hsize hby hzs hsz v n xs hs hown ad m c news hx hl hnews h1 h63 hbytes hbase h
end Go.Proofs.YtimlnbfalnkmhaaGreatDoor

/-
  A region that draws its order, whose two last operations come last, one behind the other. Of no function.
-/
namespace Go.Proofs.YtimlnbfalnkmhaaGreatDoor
open Go.RowKit

theorem wp_region_two {P : Program} {ops : Array Oper} {Q : Exit → Act → World → Prop} {id : Nat} {a : Act} {w : World} (hm : P.follows .mixedOrders = true) (L : Nat) (T : List (List Nat)) (mk : (Nat → Value) → Act) (v0 : Nat → Value) (Ok : Nat → Value → World → Prop) (G : World → Prop) (S : World → World → Prop)
    (hb : (acBB ops && tabB ops T && (ops.size == L + 2) && (List.range L).all (T.getD L []).contains && (T.getD (L + 1) []).contains L) = true) (ha : a = mk v0) (hG : G w.drew)
    (mono : ∀ i x X X', i < L → G X → S X X' → Ok i x X → Ok i x X')
    (step : ∀ i v X, i < L → G X → (∀ d ∈ T.getD i [], Ok d (v d) X) → (∀ j, i ∈ T.getD j [] → v j = v0 j) → ∀ K, Hid (∀ x v' a' X', v' = v → a' = mk (upd v' i x) → Ok i x X' → G X' → S X X' → K a' X') → wpOp P ops Q i K (mk v) X)
    (last : ∀ v X, G X → (∀ d, d < L → Ok d (v d) X) → wpOp P ops Q L (fun a' X' => wpOp P ops Q (L + 1) (fun a'' X'' => Q .normal a'' X'') a' X') (mk v) X) : (Code.region id ops true).wp P Q a w := by
  simp only [Bool.and_eq_true, beq_iff_eq] at hb
  obtain ⟨⟨⟨⟨hac, hT⟩, hsz⟩, hLL⟩, hL1⟩ := hb
  refine wp_region_invB hm (fun listed a X => listed.size = ops.size ∧ (((∀ i, i < ops.size → listed.getD i false = true) ∧ Q .normal a X) ∨ ((∀ i, i ≤ L → listed.getD i false = true) ∧ wpOp P ops Q (L + 1) (fun a' X' => Q .normal a' X') a X ∧ listed.getD (L + 1) false = false) ∨ ((∀ i, L ≤ i → listed.getD i false = false) ∧ Closed ops listed ∧ ∃ v, a = mk v ∧ G X ∧ (∀ i, listed.getD i false = true → Ok i (v i) X) ∧ ∀ j, listed.getD j false = false → v j = v0 j))) (ac_ofB hac) ?_ ?_ ?_
  · refine ⟨by simp, .inr (.inr ⟨fun i _ => getD_rep _ _, fun i hi => ?_, v0, ha, hG, fun i hi => ?_, fun _ _ => rfl⟩)⟩
    all_goals
      rw [getD_rep] at hi
      cases hi
  · rintro i listed a X ⟨hs, h⟩ hun hdep
    have hil := getD_lt hun
    have hi : i < ops.size := by omega
    have hd := dep_of hdep
    rcases h with ⟨hall, _⟩ | ⟨hall, hw, _⟩ | ⟨hno, hc, v, rfl, hG, hok, hun0⟩
    · exact absurd (getD_unl hun) (by rw [hall i hi]; decide)
    · have hi2 : i = L + 1 := by
        rcases Nat.lt_or_ge L i with h | h
        · omega
        · exact absurd (getD_unl hun) (by rw [hall i h]; decide)
      subst hi2
      refine wpOp_mono ?_ hw
      intro a' X' hq
      refine ⟨by simpa using hs, .inl ⟨fun j hj => ?_, hq⟩⟩
      by_cases e : L + 1 = j
      · subst e; exact getD_self hun
      · exact getD_set_true (hall j (by omega))
    · have hTi := tab_listed hT hc i hi hd
      by_cases hlt : i < L
      · refine wpOp_mono ?_ (step i v X hlt hG (fun d hdm => hok d (hTi d hdm)) (fun j hj => hun0 j (Bool.eq_false_iff.2 fun hjl => by
          have hjs : j < ops.size := by
            rcases Nat.lt_or_ge j listed.size with h' | h'
            · omega
            · rw [Array.getD_eq_getD_getElem?, Array.getElem?_eq_none h'] at hjl; cases hjl
          exact unl_absurd (tab_listed hT hc j hjs (hc j hjl) i hj) hun)) (OkP mk Ok G S v i X) (show ∀ x v' a' X', _ from fun x v' a' X' hv ha ok g s => by subst hv; exact ⟨x, ha, ok, g, s⟩))
        rintro a' X' ⟨x, rfl, h1, h2, h3⟩
        refine ⟨by simpa using hs, .inr (.inr ⟨fun j hj => ?_, closed_set hc hd, upd v i x, rfl, h2, fun j hj => ?_, fun j hj => ?_⟩)⟩
        · rw [getD_set_ne false (by omega)]; exact hno j hj
        · by_cases e : j = i
          · subst e; rw [upd_self]; exact h1
          · rw [upd_ne e]
            have hj' := getD_other (fun h => e h.symm) hj
            exact mono j _ X X' (by
              rcases Nat.lt_or_ge j L with h' | h'
              · exact h'
              · rw [hno j h'] at hj'; cases hj') hG h3 (hok j hj')
        · by_cases e : j = i
          · subst e; rw [getD_self hun] at hj; cases hj
          · rw [upd_ne e]; exact hun0 j (getD_otherF (fun h => e h.symm) hj)
      · by_cases hiL : i = L
        · subst hiL
          have hall : ∀ d, d < i → listed.getD d false = true := fun d hdl => hTi d (by
            have := List.all_eq_true.1 hLL d (List.mem_range.2 hdl)
            simpa using this)
          refine wpOp_mono ?_ (last v X hG (fun d hdl => hok d (hall d hdl)))
          intro a' X' hq
          refine ⟨by simpa using hs, .inr (.inl ⟨fun j hj => ?_, hq, ?_⟩)⟩
          · by_cases e : i = j
            · subst e; exact getD_self hun
            · exact getD_set_true (hall j (by omega))
          · rw [getD_set_ne false (by omega)]; exact hno _ (by omega)
        · obtain rfl : i = L + 1 := by omega
          have := hTi L (by simpa using hL1)
          rw [hno L (Nat.le_refl _)] at this
          cases this
  · rintro listed a X ⟨hs, h⟩ hall
    rcases h with ⟨_, hq⟩ | ⟨_, _, h0⟩ | ⟨hno, _⟩
    · exact hq
    · rw [hall (L + 1) (by omega)] at h0; cases h0
    · have h1 := hno L (Nat.le_refl _)
      rw [hall L (by omega)] at h1; cases h1
end Go.Proofs.YtimlnbfalnkmhaaGreatDoor
