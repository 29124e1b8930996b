/-
  The law FnExactQueryRead answers true of every text: its walk.
-/
import Derived.Test.YthgmphmghnonbaaDoorZQuZ
import Derived.Test.YthgmphmghnonbaaDoorZQpZ
import Derived.Test.YthgmphmghnonbaaDoorZQoL
namespace Go.Proofs.YthgmphmghnonbaaDoor
open Go.RowKit

theorem rowChg {p : Nat → Prop} {w w' : World} {base size n : Nat} {e : TypeId} {v : Value} {xs : List Value} (h : w.ownsRow base e size v n xs) (hc : Chg p w w') (hp : ∀ g, v.ownBlock = some g → ¬ p g) : w'.ownsRow base e size v n xs := by
  refine ⟨h.1, ?_⟩
  rcases h.2 with h0 | ⟨g, cap, cur, hv, hb, hh, r⟩
  · exact .inl h0
  · exact .inr ⟨g, cap, cur, hv, hb, (hc.block g (lt_heap hh) (hp g (by rw [hv]; rfl))).trans hh, r⟩
theorem rMore_len {ws : List ByteArray} : ∀ (m k : Nat) (acc : List Cd) (r : List Cd × Nat), rMore ws m k acc = .ok r → r.1.length ≤ acc.length + m
  | 0, k, acc, r, h => by cases h; simp
  | m + 1, k, acc, r, h => by
    unfold rMore at h
    split at h
    · cases hc : rCond ws (k + 1) with
      | ok c => rw [hc] at h; have := rMore_len m _ _ r h; simp at this; omega
      | error e => rw [hc] at h; cases h
    · cases h; simp
theorem rConds_len {ws : List ByteArray} {k : Nat} {r : List Cd × Nat} (h : rConds ws k = .ok r) : r.1.length ≤ 6 := by
  unfold rConds at h
  split at h
  · cases hc : rCond ws (k + 1) with
    | ok c => rw [hc] at h; have := rMore_len _ _ _ r h; simp at this; omega
    | error e => rw [hc] at h; cases h
  · cases h; simp
theorem rEnd_cs {ws : List ByteArray} {k : Nat} {p q : Qy} (h : rEnd ws k p = .ok q) : q = p := by
  unfold rEnd at h
  split at h
  · cases h; rfl
  · cases h
theorem rQ_len {ws : List ByteArray} {q : Qy} (h : rQ ws = .ok q) : q.cs.length ≤ 6 := by
  unfold rQ at h
  split at h
  · cases hc : rConds ws 1 with
    | ok r =>
      obtain ⟨cs, k⟩ := r
      rw [hc] at h
      have hl := rConds_len hc
      simp only [rCnt] at h
      split at h
      · rw [rEnd_cs h]; exact hl
      · cases h
    | error e => rw [hc] at h; cases h
  · split at h
    · cases hc : rConds ws 1 with
      | ok r =>
        obtain ⟨cs, k⟩ := r
        rw [hc] at h
        have hl := rConds_len hc
        simp only [rFnd] at h
        split at h
        · split at h
          · rw [rEnd_cs h]; exact hl
          · cases h
        · cases h
      | error e => rw [hc] at h; cases h
    · cases h
theorem qoS_len (s : ByteArray) : (qoS s).1.cs.length ≤ 6 := by
  by_cases h8 : 8000 < s.size
  · rw [qoS_long h8]; simp [qZ]
  · cases hq : rQ (wsOf s) with
    | ok q => rw [qoS_ok h8 hq]; exact rQ_len hq
    | error k => rw [qoS_err h8 hq]; simp [qZ]
set_option maxRecDepth 100000 in
set_option maxHeartbeats 4000000 in
theorem fnExactQueryRead_walk {a : Addr} (s : ByteArray) (w : World) (her : w.cell? ⟨0, 0, none⟩ = some (errQ a)) (hK : KNames w) :
    Calls Tryd.prog 3 #[.string s] w fun e w' => e = .returned (.bool true) ∧ Below w.heap.size w w' := by
  by_cases hbig : (1048576 : Int) < (s.size : Int)
  · go_enter Tryd.func3, Tryd.ntmps3
    go_wp2
    go_ret
    exact ⟨rfl, Below.refl _ _⟩
  · have hl6 := qoS_len s
    have cS := fun W => specQueryRead_any s W
    have cI := fun W (h1 : Hid (W.cell? ⟨0, 0, none⟩ = some (errQ a))) (h2 : Hid (KNames W)) => implQueryRead_any (a := a) s W h1.out h2.out
    generalize qoS s = R at hl6 cS cI
    obtain ⟨⟨c0, cs, s2, s3, c4, n5⟩, n6, n7⟩ := R
    have C1 : Hid (∀ W, Calls Tryd.prog 4 #[.string s] W fun e w' => ∃ x k, e = .returned (.agg #[.bool c0, .slice x cs.length k, .string s2, .string s3, .bool c4, .int .i64 n5, .int .i64 n6, .int .i64 n7]) ∧ w'.ownsRow W.heap.size 45 4 (.slice x cs.length k) cs.length (cs.flatMap Cd.cells) ∧ Below W.heap.size W w') := hid (fun W => (cS W).mono (by
      rintro e w' ⟨v, he, ho, hb⟩
      obtain ⟨x, k, rfl⟩ := ownB_form ho
      exact ⟨x, k, he, ho, hb⟩))
    have C2 : Hid (∀ W, Hid (W.cell? ⟨0, 0, none⟩ = some (errQ a)) → Hid (KNames W) → Calls Tryd.prog 5 #[.string s] W fun e w' => ∃ x k, e = .returned (.agg #[.bool c0, .slice x cs.length k, .string s2, .string s3, .bool c4, .int .i64 n5, .int .i64 n6, .int .i64 n7]) ∧ w'.ownsRow W.heap.size 45 4 (.slice x cs.length k) cs.length (cs.flatMap Cd.cells) ∧ Below W.heap.size W w') := hid (fun W h1 h2 => (cI W h1 h2).mono (by
      rintro e w' ⟨v, he, ho, hb⟩
      obtain ⟨x, k, rfl⟩ := ownB_form ho
      exact ⟨x, k, he, ho, hb⟩))
    clear cS cI
    simp only at hl6
    have hER := hid her
    have hKN := hid hK
    have hg1 := gt_cell her
    have E : Hid (∀ W, Below w.heap.size w W → W.cell? ⟨0, 0, none⟩ = some (errQ a)) := hid (fun W hb => (hb.cell (p := ⟨_, 0, none⟩) hg1).trans hER.out)
    have Kn : Hid (∀ W, Below w.heap.size w W → KNames W) := hid (fun W hb => hKN.out.below hb (Nat.le_refl _))
    clear her hK hER hKN
    go_enter Tryd.func3, Tryd.ntmps3
    go_wp2_with fail
    refine (C1.out _).mono ?_
    rintro e W1 ⟨a1, k1, rfl, o1, b1⟩
    have B1 := hid (b1.alloc b1.size (.cells #[.bool c0, .slice a1 cs.length k1, .string s2, .string s3, .bool c4, .int .i64 n5, .int .i64 n6, .int .i64 n7] 26))
    have O1 := hid (ownB_stay o1 ((Below.refl _ _).alloc (Nat.le_refl _) (.cells #[.bool c0, .slice a1 cs.length k1, .string s2, .string s3, .bool c4, .int .i64 n5, .int .i64 n6, .int .i64 n7] 26)))
    have T3 := hid (NewB.made (w := w) (W := W1) [.bool c0, .slice a1 cs.length k1, .string s2, .string s3, .bool c4, .int .i64 n5, .int .i64 n6, .int .i64 n7] 26 b1.size)
    have l1 := hid (fun j (e : (Value.slice a1 cs.length k1).ownBlock = some j) => (o1.lt j e).2)
    have z1 := b1.size
    clear o1 b1
    go_wp2_with fail
    have hU1 : (W1.alloc (.cells #[.bool c0, .slice a1 cs.length k1, .string s2, .string s3, .bool c4, .int .i64 n5, .int .i64 n6, .int .i64 n7] 26)).heap.size = W1.heap.size + 1 := by simp
    generalize W1.alloc (.cells #[.bool c0, .slice a1 cs.length k1, .string s2, .string s3, .bool c4, .int .i64 n5, .int .i64 n6, .int .i64 n7] 26) = U1 at *
    refine (C2.out _ (hid (E.out _ B1.out)) (hid (Kn.out _ B1.out))).mono ?_
    rintro e W2 ⟨a2, k2, rfl, o2, b2⟩
    have B2 := hid ((B1.out.trans (b2.mono B1.out.size)).alloc (by have := b2.size; omega) (.cells #[.bool c0, .slice a2 cs.length k2, .string s2, .string s3, .bool c4, .int .i64 n5, .int .i64 n6, .int .i64 n7] 26))
    have O1a := hid (ownB_stay (ownB_stay O1.out b2) ((Below.refl _ _).alloc (Nat.le_refl _) (.cells #[.bool c0, .slice a2 cs.length k2, .string s2, .string s3, .bool c4, .int .i64 n5, .int .i64 n6, .int .i64 n7] 26)))
    have O2 := hid (ownB_stay o2 ((Below.refl _ _).alloc (Nat.le_refl _) (.cells #[.bool c0, .slice a2 cs.length k2, .string s2, .string s3, .bool c4, .int .i64 n5, .int .i64 n6, .int .i64 n7] 26)))
    have T3a := hid ((T3.out.below b2).alloc (.cells #[.bool c0, .slice a2 cs.length k2, .string s2, .string s3, .bool c4, .int .i64 n5, .int .i64 n6, .int .i64 n7] 26))
    have T4 := hid (NewB.made (w := w) (W := W2) [.bool c0, .slice a2 cs.length k2, .string s2, .string s3, .bool c4, .int .i64 n5, .int .i64 n6, .int .i64 n7] 26 (by have := b2.size; omega))
    have l2 := hid (fun j (e : (Value.slice a2 cs.length k2).ownBlock = some j) => o2.lt j e)
    have z2 := b2.size
    clear o2 b2 O1 T3 B1
    generalize hU2 : W2.alloc (.cells #[.bool c0, .slice a2 cs.length k2, .string s2, .string s3, .bool c4, .int .i64 n5, .int .i64 n6, .int .i64 n7] 26) = U2 at *
    have x0 : U2.cell? ⟨W1.heap.size, 0, none⟩ = some (.bool c0) := T3a.out.cell 0
    have x1 : U2.cell? ⟨W1.heap.size, 1, none⟩ = some (.slice a1 cs.length k1) := T3a.out.cell 1
    have x2 : U2.cell? ⟨W1.heap.size, 2, none⟩ = some (.string s2) := T3a.out.cell 2
    have x3 : U2.cell? ⟨W1.heap.size, 3, none⟩ = some (.string s3) := T3a.out.cell 3
    have x4 : U2.cell? ⟨W1.heap.size, 4, none⟩ = some (.bool c4) := T3a.out.cell 4
    have x5 : U2.cell? ⟨W1.heap.size, 5, none⟩ = some (.int .i64 n5) := T3a.out.cell 5
    have x6 : U2.cell? ⟨W1.heap.size, 6, none⟩ = some (.int .i64 n6) := T3a.out.cell 6
    have x7 : U2.cell? ⟨W1.heap.size, 7, none⟩ = some (.int .i64 n7) := T3a.out.cell 7
    have y0 : U2.cell? ⟨W2.heap.size, 0, none⟩ = some (.bool c0) := T4.out.cell 0
    have y1 : U2.cell? ⟨W2.heap.size, 1, none⟩ = some (.slice a2 cs.length k2) := T4.out.cell 1
    have y2 : U2.cell? ⟨W2.heap.size, 2, none⟩ = some (.string s2) := T4.out.cell 2
    have y3 : U2.cell? ⟨W2.heap.size, 3, none⟩ = some (.string s3) := T4.out.cell 3
    have y4 : U2.cell? ⟨W2.heap.size, 4, none⟩ = some (.bool c4) := T4.out.cell 4
    have y5 : U2.cell? ⟨W2.heap.size, 5, none⟩ = some (.int .i64 n5) := T4.out.cell 5
    have y6 : U2.cell? ⟨W2.heap.size, 6, none⟩ = some (.int .i64 n6) := T4.out.cell 6
    have y7 : U2.cell? ⟨W2.heap.size, 7, none⟩ = some (.int .i64 n7) := T4.out.cell 7
    have cE := hid (eqQueryOut_same a2 a1 k2 k1 cs c0 c4 s2 s3 n5 n6 n7 U2 (cd_of_own O2.out) (cd_of_own O1a.out) (by unfold maxLen; omega))
    go_wp2_with fail
    refine cE.out.mono ?_
    rintro e W3 ⟨rfl, b3⟩
    clear x0 x1 x2 x3 x4 x5 x6 x7 y0 y1 y2 y3 y4 y5 y6 y7
    have B3 := hid (B2.out.trans (b3.mono B2.out.size))
    have O13 := hid (ownB_stay O1a.out b3)
    have O23 := hid (ownB_stay O2.out b3)
    have T33 := hid (T3a.out.below b3)
    have T43 := hid (T4.out.below b3)
    clear b3 cE B2 O1a O2 T3a T4 hU2
    have y0 : W3.cell? ⟨W2.heap.size, 0, none⟩ = some (.bool c0) := T43.out.cell 0
    have y1 : W3.cell? ⟨W2.heap.size, 1, none⟩ = some (.slice a2 cs.length k2) := T43.out.cell 1
    have y2 : W3.cell? ⟨W2.heap.size, 2, none⟩ = some (.string s2) := T43.out.cell 2
    have y3 : W3.cell? ⟨W2.heap.size, 3, none⟩ = some (.string s3) := T43.out.cell 3
    have y4 : W3.cell? ⟨W2.heap.size, 4, none⟩ = some (.bool c4) := T43.out.cell 4
    have y5 : W3.cell? ⟨W2.heap.size, 5, none⟩ = some (.int .i64 n5) := T43.out.cell 5
    have y6 : W3.cell? ⟨W2.heap.size, 6, none⟩ = some (.int .i64 n6) := T43.out.cell 6
    have y7 : W3.cell? ⟨W2.heap.size, 7, none⟩ = some (.int .i64 n7) := T43.out.cell 7
    have cM := hid (markQueryOut_own a2 cs.length k2 U1.heap.size c0 c4 s2 s3 n5 n6 n7 1 _ W3 O23.out (by omega) (by omega))
    go_wp2_with fail
    refine cM.out.mono ?_
    rintro e W4 ⟨rfl, o4, g4⟩
    clear y0 y1 y2 y3 y4 y5 y6 y7
    have B4 := hid (B3.out.trans (g4.below B3.out.size (fun j h => by have := l2.out j h; omega)))
    have O14 := hid (rowChg O13.out g4 (fun j h h2 => by have := l1.out j h; have := l2.out j h2; omega))
    have T34 : Hid (NewB w W4 W1.heap.size [.bool c0, .slice a1 cs.length k1, .string s2, .string s3, .bool c4, .int .i64 n5, .int .i64 n6, .int .i64 n7] 26) := hid ⟨(g4.block _ (lt_heap T33.out.blk) (fun h => by have := l2.out _ h; omega)).trans T33.out.blk, T33.out.ge⟩
    have T44 : Hid (NewB w W4 W2.heap.size [.bool c0, .slice a2 cs.length k2, .string s2, .string s3, .bool c4, .int .i64 n5, .int .i64 n6, .int .i64 n7] 26) := hid ⟨(g4.block _ (lt_heap T43.out.blk) (fun h => by have := l2.out _ h; omega)).trans T43.out.blk, T43.out.ge⟩
    have O24 := hid o4
    clear o4 g4 cM B3 O13 O23 T33 T43
    have y0 : W4.cell? ⟨W2.heap.size, 0, none⟩ = some (.bool c0) := T44.out.cell 0
    have y1 : W4.cell? ⟨W2.heap.size, 1, none⟩ = some (.slice a2 cs.length k2) := T44.out.cell 1
    have y2 : W4.cell? ⟨W2.heap.size, 2, none⟩ = some (.string s2) := T44.out.cell 2
    have y3 : W4.cell? ⟨W2.heap.size, 3, none⟩ = some (.string s3) := T44.out.cell 3
    have y4 : W4.cell? ⟨W2.heap.size, 4, none⟩ = some (.bool c4) := T44.out.cell 4
    have y5 : W4.cell? ⟨W2.heap.size, 5, none⟩ = some (.int .i64 n5) := T44.out.cell 5
    have y6 : W4.cell? ⟨W2.heap.size, 6, none⟩ = some (.int .i64 n6) := T44.out.cell 6
    have y7 : W4.cell? ⟨W2.heap.size, 7, none⟩ = some (.int .i64 n7) := T44.out.cell 7
    have cH := hid (heldQueryOut_own a2 cs.length k2 U1.heap.size c0 c4 s2 s3 n5 n6 n7 1 W4 O24.out (by omega) (by omega))
    have z : ¬ (1 + 4 * (cs.length : Int) < 0) := by omega
    go_wp2_with fail
    refine cH.out.mono ?_
    rintro e W5 ⟨rfl, b5⟩
    clear y0 y1 y2 y3 y4 y5 y6 y7
    have B5 := hid (B4.out.trans (b5.mono B4.out.size))
    have O15 := hid (ownB_stay O14.out b5)
    have O25 := hid (ownB_stay O24.out b5)
    have T35 := hid (T34.out.below b5)
    have T45 := hid (T44.out.below b5)
    clear b5 cH B4 O14 O24 T34 T44
    go_wp2_with fail
    refine (C2.out _ (hid (E.out _ B5.out)) (hid (Kn.out _ B5.out))).mono ?_
    rintro e W6 ⟨a3, k3, rfl, o6, b6⟩
    have b7 := (b6.alloc b6.size (.cells #[.bool c0, .slice a3 cs.length k3, .string s2, .string s3, .bool c4, .int .i64 n5, .int .i64 n6, .int .i64 n7] 26))
    have B6 := hid (B5.out.trans (b7.mono B5.out.size))
    have O16 := hid (ownB_stay O15.out b7)
    have O26 := hid (ownB_stay O25.out b7)
    have T36 := hid (T35.out.below b7)
    have T46 := hid (T45.out.below b7)
    have O36 := hid (ownB_stay o6 ((Below.refl _ _).alloc (Nat.le_refl _) (.cells #[.bool c0, .slice a3 cs.length k3, .string s2, .string s3, .bool c4, .int .i64 n5, .int .i64 n6, .int .i64 n7] 26)))
    have T56 := hid (NewB.made (w := w) (W := W6) [.bool c0, .slice a3 cs.length k3, .string s2, .string s3, .bool c4, .int .i64 n5, .int .i64 n6, .int .i64 n7] 26 (by have := b6.size; have := B5.out.size; omega))
    clear o6 b6 b7 B5 O15 O25 T35 T45
    generalize hU6 : W6.alloc (.cells #[.bool c0, .slice a3 cs.length k3, .string s2, .string s3, .bool c4, .int .i64 n5, .int .i64 n6, .int .i64 n7] 26) = U6 at *
    have x0 : U6.cell? ⟨W1.heap.size, 0, none⟩ = some (.bool c0) := T36.out.cell 0
    have x1 : U6.cell? ⟨W1.heap.size, 1, none⟩ = some (.slice a1 cs.length k1) := T36.out.cell 1
    have x2 : U6.cell? ⟨W1.heap.size, 2, none⟩ = some (.string s2) := T36.out.cell 2
    have x3 : U6.cell? ⟨W1.heap.size, 3, none⟩ = some (.string s3) := T36.out.cell 3
    have x4 : U6.cell? ⟨W1.heap.size, 4, none⟩ = some (.bool c4) := T36.out.cell 4
    have x5 : U6.cell? ⟨W1.heap.size, 5, none⟩ = some (.int .i64 n5) := T36.out.cell 5
    have x6 : U6.cell? ⟨W1.heap.size, 6, none⟩ = some (.int .i64 n6) := T36.out.cell 6
    have x7 : U6.cell? ⟨W1.heap.size, 7, none⟩ = some (.int .i64 n7) := T36.out.cell 7
    have v0 : U6.cell? ⟨W6.heap.size, 0, none⟩ = some (.bool c0) := T56.out.cell 0
    have v1 : U6.cell? ⟨W6.heap.size, 1, none⟩ = some (.slice a3 cs.length k3) := T56.out.cell 1
    have v2 : U6.cell? ⟨W6.heap.size, 2, none⟩ = some (.string s2) := T56.out.cell 2
    have v3 : U6.cell? ⟨W6.heap.size, 3, none⟩ = some (.string s3) := T56.out.cell 3
    have v4 : U6.cell? ⟨W6.heap.size, 4, none⟩ = some (.bool c4) := T56.out.cell 4
    have v5 : U6.cell? ⟨W6.heap.size, 5, none⟩ = some (.int .i64 n5) := T56.out.cell 5
    have v6 : U6.cell? ⟨W6.heap.size, 6, none⟩ = some (.int .i64 n6) := T56.out.cell 6
    have v7 : U6.cell? ⟨W6.heap.size, 7, none⟩ = some (.int .i64 n7) := T56.out.cell 7
    have cE := hid (eqQueryOut_same a3 a1 k3 k1 cs c0 c4 s2 s3 n5 n6 n7 U6 (cd_of_own O36.out) (cd_of_own O16.out) (by unfold maxLen; omega))
    go_wp2_with fail
    refine cE.out.mono ?_
    rintro e W7 ⟨rfl, b7⟩
    clear x0 x1 x2 x3 x4 x5 x6 x7 v0 v1 v2 v3 v4 v5 v6 v7
    have B7 := hid (B6.out.trans (b7.mono B6.out.size))
    have O27 := hid (ownB_stay O26.out b7)
    have T47 := hid (T46.out.below b7)
    clear b7 cE B6 O16 O26 O36 T36 T46 T56 hU6
    have y0 : W7.cell? ⟨W2.heap.size, 0, none⟩ = some (.bool c0) := T47.out.cell 0
    have y1 : W7.cell? ⟨W2.heap.size, 1, none⟩ = some (.slice a2 cs.length k2) := T47.out.cell 1
    have y2 : W7.cell? ⟨W2.heap.size, 2, none⟩ = some (.string s2) := T47.out.cell 2
    have y3 : W7.cell? ⟨W2.heap.size, 3, none⟩ = some (.string s3) := T47.out.cell 3
    have y4 : W7.cell? ⟨W2.heap.size, 4, none⟩ = some (.bool c4) := T47.out.cell 4
    have y5 : W7.cell? ⟨W2.heap.size, 5, none⟩ = some (.int .i64 n5) := T47.out.cell 5
    have y6 : W7.cell? ⟨W2.heap.size, 6, none⟩ = some (.int .i64 n6) := T47.out.cell 6
    have y7 : W7.cell? ⟨W2.heap.size, 7, none⟩ = some (.int .i64 n7) := T47.out.cell 7
    have cH := hid (heldQueryOut_own a2 cs.length k2 U1.heap.size c0 c4 s2 s3 n5 n6 n7 1 W7 O27.out (by omega) (by omega))
    go_wp2_with fail
    refine cH.out.mono ?_
    rintro e W8 ⟨rfl, b8⟩
    clear y0 y1 y2 y3 y4 y5 y6 y7
    have B8 := hid (B7.out.trans (b8.mono B7.out.size))
    clear b8 cH B7 O27 T47
    go_wp2_with fail
    go_ret
    exact ⟨rfl, B8.out⟩
end Go.Proofs.YthgmphmghnonbaaDoor
