/-
  Texts put together: RgThr, ApCe.
-/
import Derived.Test.YtimlnbfalnkmhaaGreatDoorZRgInv3
import Derived.Test.YtimlnbfalnkmhaaGreatDoorZSrcA5
import Derived.Test.YtimlnbfalnkmhaaGreatDoorZOwnB6
import Derived.Laws.AppendOwnNone
/-
  A region that draws its order, whose last operations come last, one behind the other. Of no function.
-/
namespace Go.Proofs.YtimlnbfalnkmhaaGreatDoor
open Go.RowKit

/-- Operations one behind the other. -/
def tailWp (P : Program) (ops : Array Oper) (Q : Exit → Act → World → Prop) : Nat → Nat → Act → World → Prop
  | _, 0, a, X => Q .normal a X
  | L, t + 1, a, X => wpOp P ops Q L (fun a' X' => tailWp P ops Q (L + 1) t a' X') a X
theorem wp_region_tail {P : Program} {ops : Array Oper} {Q : Exit → Act → World → Prop} {id : Nat} {a : Act} {w : World} (hm : P.follows .mixedOrders = true) (L t : Nat) (T : List (List Nat)) (mk : (Nat → Value) → Act) (v0 : Nat → Value) (Ok : Nat → Value → World → Prop) (G : World → Prop) (S : World → World → Prop)
    (hb : (acBB ops && tabB ops T && (ops.size == L + (t + 1)) && (List.range (t + 1)).all fun j => (List.range (L + j)).all (T.getD (L + j) []).contains) = true) (ha : a = mk v0) (hG : G w.drew)
    (mono : ∀ i x X X', i < L → G X → S X X' → Ok i x X → Ok i x X')
    (step : ∀ i v X, i < L → G X → (∀ d ∈ T.getD i [], Ok d (v d) X) → (∀ j, i ∈ T.getD j [] → v j = v0 j) → ∀ K, Hid (∀ x v' a' X', v' = v → a' = mk (upd v' i x) → Ok i x X' → G X' → S X X' → K a' X') → wpOp P ops Q i K (mk v) X)
    (last : ∀ v X, G X → (∀ d, d < L → Ok d (v d) X) → tailWp P ops Q L (t + 1) (mk v) X) : (Code.region id ops true).wp P Q a w := by
  simp only [Bool.and_eq_true, beq_iff_eq] at hb
  obtain ⟨⟨⟨hac, hT⟩, hsz⟩, hLL⟩ := hb
  have hTl : ∀ j, j < t + 1 → ∀ d, d < L + j → d ∈ T.getD (L + j) [] := fun j hj d hd => by
    have := List.all_eq_true.1 (List.all_eq_true.1 hLL j (List.mem_range.2 hj)) d (List.mem_range.2 hd)
    simpa using this
  refine wp_region_invB hm (fun listed a X => listed.size = ops.size ∧ Closed ops listed ∧ ((∃ j, 0 < j ∧ j ≤ t + 1 ∧ (∀ i, i < L + j → listed.getD i false = true) ∧ (∀ i, L + j ≤ i → listed.getD i false = false) ∧ tailWp P ops Q (L + j) (t + 1 - j) a X) ∨ ((∀ i, L ≤ i → listed.getD i false = false) ∧ ∃ v, a = mk v ∧ G X ∧ (∀ i, listed.getD i false = true → Ok i (v i) X) ∧ ∀ j, listed.getD j false = false → v j = v0 j))) (ac_ofB hac) ?_ ?_ ?_
  · refine ⟨by simp, fun i hi => ?_, .inr ⟨fun i _ => getD_rep _ _, v0, ha, hG, fun i hi => ?_, fun _ _ => rfl⟩⟩
    all_goals
      rw [getD_rep] at hi
      cases hi
  · rintro i listed a X ⟨hs, hc, h⟩ hun hdep
    have hil := getD_lt hun
    have hi : i < ops.size := by omega
    have hd := dep_of hdep
    have hTi := tab_listed hT hc i hi hd
    rcases h with ⟨j, hj0, hj1, hyes, hno, hw⟩ | ⟨hno, v, rfl, hG, hok, hun0⟩
    · have hge : L + j ≤ i := by
        rcases Nat.lt_or_ge i (L + j) with h | h
        · exact absurd (getD_unl hun) (by rw [hyes i h]; decide)
        · exact h
      have hi2 : i = L + j := by
        rcases Nat.lt_or_ge (L + j) i with h | h
        · have h1 := hTi (L + j) (by
            have h2 := hTl (i - L) (by omega) (L + j) (by omega)
            rwa [show L + (i - L) = i by omega] at h2)
          rw [hno (L + j) (Nat.le_refl _)] at h1; cases h1
        · omega
      subst hi2
      have e9 : t + 1 - j = (t + 1 - (j + 1)) + 1 := by omega
      rw [e9] at hw
      refine wpOp_mono ?_ hw
      intro a' X' hq
      refine ⟨by simpa using hs, closed_set hc hd, .inl ⟨j + 1, by omega, by omega, fun k hk => ?_, fun k hk => ?_, hq⟩⟩
      · by_cases e : L + j = k
        · subst e; exact getD_self hun
        · exact getD_set_true (hyes k (by omega))
      · rw [getD_set_ne false (by omega)]; exact hno k (by omega)
    · by_cases hlt : i < L
      · refine wpOp_mono ?_ (step i v X hlt hG (fun d hdm => hok d (hTi d hdm)) (fun j hj => hun0 j (Bool.eq_false_iff.2 fun hjl => by
          have hjs : j < ops.size := by
            rcases Nat.lt_or_ge j listed.size with h' | h'
            · omega
            · rw [Array.getD_eq_getD_getElem?, Array.getElem?_eq_none h'] at hjl; cases hjl
          exact unl_absurd (tab_listed hT hc j hjs (hc j hjl) i hj) hun)) (OkP mk Ok G S v i X) (show ∀ x v' a' X', _ from fun x v' a' X' hv ha ok g s => by subst hv; exact ⟨x, ha, ok, g, s⟩))
        rintro a' X' ⟨x, rfl, h1, h2, h3⟩
        refine ⟨by simpa using hs, closed_set hc hd, .inr ⟨fun j hj => ?_, upd v i x, rfl, h2, fun j hj => ?_, fun j hj => ?_⟩⟩
        · rw [getD_set_ne false (by omega)]; exact hno j hj
        · by_cases e : j = i
          · subst e; rw [upd_self]; exact h1
          · rw [upd_ne e]
            have hj' := getD_other (fun h => e h.symm) hj
            exact mono j _ X X' (by
              rcases Nat.lt_or_ge j L with h' | h'
              · exact h'
              · rw [hno j h'] at hj'; cases hj') hG h3 (hok j hj')
        · by_cases e : j = i
          · subst e; rw [getD_self hun] at hj; cases hj
          · rw [upd_ne e]; exact hun0 j (getD_otherF (fun h => e h.symm) hj)
      · have hi2 : i = L := by
          rcases Nat.lt_or_ge L i with h | h
          · have h1 := hTi L (by
              have h2 := hTl (i - L) (by omega) L (by omega)
              rwa [show L + (i - L) = i by omega] at h2)
            rw [hno L (Nat.le_refl _)] at h1; cases h1
          · omega
        subst hi2
        have hall : ∀ d, d < i → listed.getD d false = true := fun d hdl => hTi d (hTl 0 (by omega) d hdl)
        refine wpOp_mono ?_ (last v X hG (fun d hdl => hok d (hall d hdl)))
        intro a' X' hq
        refine ⟨by simpa using hs, closed_set hc hd, .inl ⟨1, by omega, by omega, fun k hk => ?_, fun k hk => ?_, hq⟩⟩
        · by_cases e : i = k
          · subst e; exact getD_self hun
          · exact getD_set_true (hall k (by omega))
        · rw [getD_set_ne false (by omega)]; exact hno k (by omega)
  · rintro listed a X ⟨hs, hc, h⟩ hall
    rcases h with ⟨j, hj0, hj1, hyes, hno, hw⟩ | ⟨hno, _⟩
    · have hj : j = t + 1 := by
        rcases Nat.lt_or_ge j (t + 1) with h | h
        · have h1 := hno (L + j) (Nat.le_refl _)
          rw [hall (L + j) (by omega)] at h1; cases h1
        · omega
      subst hj
      rw [Nat.sub_self] at hw
      exact hw
    · have h1 := hno L (Nat.le_refl _)
      rw [hall L (by omega)] at h1; cases h1
/-- Three. -/
theorem wp_region_three {P : Program} {ops : Array Oper} {Q : Exit → Act → World → Prop} {id : Nat} {a : Act} {w : World} (hm : P.follows .mixedOrders = true) (L : Nat) (T : List (List Nat)) (mk : (Nat → Value) → Act) (v0 : Nat → Value) (Ok : Nat → Value → World → Prop) (G : World → Prop) (S : World → World → Prop)
    (hb : (acBB ops && tabB ops T && (ops.size == L + 3) && (List.range 3).all fun j => (List.range (L + j)).all (T.getD (L + j) []).contains) = true) (ha : a = mk v0) (hG : G w.drew)
    (mono : ∀ i x X X', i < L → G X → S X X' → Ok i x X → Ok i x X')
    (step : ∀ i v X, i < L → G X → (∀ d ∈ T.getD i [], Ok d (v d) X) → (∀ j, i ∈ T.getD j [] → v j = v0 j) → ∀ K, Hid (∀ x v' a' X', v' = v → a' = mk (upd v' i x) → Ok i x X' → G X' → S X X' → K a' X') → wpOp P ops Q i K (mk v) X)
    (last : ∀ v X, G X → (∀ d, d < L → Ok d (v d) X) → wpOp P ops Q L (fun a' X' => wpOp P ops Q (L + 1) (fun a2 X2 => wpOp P ops Q (L + 2) (fun a3 X3 => Q .normal a3 X3) a2 X2) a' X') (mk v) X) : (Code.region id ops true).wp P Q a w :=
  wp_region_tail hm L 2 T mk v0 Ok G S hb ha hG mono step last
end Go.Proofs.YtimlnbfalnkmhaaGreatDoor

/-
  The cells of a slice that came in; append of none. Of no function.
-/
namespace Go.Proofs.YtimlnbfalnkmhaaGreatDoor
open Go.RowKit

theorem strs_one (l : List ByteArray) : ∀ u ∈ l.map Value.string, u.oneCell' = true := by
  intro u hu
  obtain ⟨s, _, rfl⟩ := List.mem_map.1 hu
  rfl
theorem run_append_own_nil {P : Program} {w : World} (base : Nat) (t ty e : TypeId) (i : TypeInfo) (size c : Nat) (ht : P.underlying t = some (.slice e)) (hi : P.info? e = some i)
    (v : Value) (n : Nat) (xs : List Value) (hown : w.ownsRow base e size v n xs) :
    (Builtin.append_ #[t, t] ty #[v, .slice none 0 c]).run P w = .ok v w := by
  rcases hown.2 with ⟨rfl, rfl⟩ | ⟨g, cap, cur, rfl, _, _, hnc, _⟩
  · simp [Builtin.append_, run_underlying ht, sizeOf, typeInfo, hi, Builtin.lenOf, Builtin.firstCells]
  · simp [Builtin.append_, run_underlying ht, sizeOf, typeInfo, hi, Builtin.lenOf, Builtin.firstCells, hnc, storeCells]
/-- The cells of a slice: news, one for each cell, at an address, or none at all. -/
def CellsSl (w : World) (v : Value) (size n : Nat) (news : List Value) : Prop :=
  news.length = n * size ∧ (∀ u ∈ news, u.oneCell' = true) ∧ ((∃ c, v = .slice none 0 c ∧ n = 0) ∨ ∃ ad c, v = .slice (some ad) n c ∧ ∀ j u, news[j]? = some u → w.cell? (ad.add j) = some u)
theorem StrSl.cellsSl {w : World} {v : Value} {ss : List ByteArray} (h : StrSl w v ss) : CellsSl w v 1 ss.length (ss.map Value.string) := by
  refine ⟨by simp, strs_one _, ?_⟩
  rcases h with ⟨a, c, rfl, rfl⟩ | ⟨g, o, c, rfl, _, h⟩
  · rcases a with _ | ad
    · exact .inl ⟨c, rfl, rfl⟩
    · exact .inr ⟨ad, c, rfl, fun j u hj => by simp at hj⟩
  · refine .inr ⟨⟨g, o, none⟩, c, rfl, fun j u hj => ?_⟩
    rw [Addr.add_lit]
    rw [List.getElem?_map] at hj
    obtain ⟨s, hs, rfl⟩ := Option.map_eq_some_iff.1 hj
    obtain ⟨hlt, rfl⟩ := List.getElem?_eq_some_iff.1 hs
    exact h.2 j hlt
theorem prs_one (l : List Pr) : ∀ u ∈ l.flatMap Pr.cells, u.oneCell' = true := by
  intro u hu
  obtain ⟨p, _, hp⟩ := List.mem_flatMap.1 hu
  simp [Pr.cells] at hp
  rcases hp with rfl | rfl <;> rfl
theorem PrsAt.cell {w : World} {g o : Nat} {ps : List Pr} (h : PrsAt w g o ps) (j : Nat) (u : Value) (hj : (ps.flatMap Pr.cells)[j]? = some u) : w.cell? ⟨g, o + j, none⟩ = some u := by
  have hl : j < ps.length * 2 := by
    obtain ⟨hlt, _⟩ := List.getElem?_eq_some_iff.1 hj
    rw [pflat_len] at hlt; exact hlt
  have hi : j / 2 < ps.length := by omega
  have e : j = j / 2 * 2 + j % 2 := by omega
  have hm : j % 2 < 2 := by omega
  have k := h.2 (j / 2) hi
  rw [e, pflat_at ps (j / 2) (j % 2) hi hm] at hj
  rw [e]
  rcases (show j % 2 = 0 ∨ j % 2 = 1 by omega) with e0 | e0
  · rw [e0] at hj ⊢
    simp [Pr.cells] at hj
    subst hj
    rw [← Nat.add_assoc]; exact k.c0
  · rw [e0] at hj ⊢
    simp [Pr.cells] at hj
    subst hj
    rw [← Nat.add_assoc]; exact k.c1
theorem PrSl.cellsSl {w : World} {v : Value} {ps : List Pr} (h : PrSl w v ps) : CellsSl w v 2 ps.length (ps.flatMap Pr.cells) := by
  refine ⟨pflat_len ps, prs_one _, ?_⟩
  rcases h with ⟨a, c, rfl, rfl⟩ | ⟨g, o, c, rfl, _, h⟩
  · rcases a with _ | ad
    · exact .inl ⟨c, rfl, rfl⟩
    · exact .inr ⟨ad, c, rfl, fun j u hj => by simp at hj⟩
  · refine .inr ⟨⟨g, o, none⟩, c, rfl, fun j u hj => ?_⟩
    rw [Addr.add_lit]
    exact h.cell j u hj
end Go.Proofs.YtimlnbfalnkmhaaGreatDoor
