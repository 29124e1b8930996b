/-
  Queries: what impl.verb and impl.queryWords answer: contracts over the seat's program.
-/
import Derived.Test.YtimlnbfalnkmhaaGreatDoorZImCW2
namespace Go.Proofs.YtimlnbfalnkmhaaGreatDoor
open Go.RowKit
set_option linter.unusedVariables false

def vbW (b : Bool) : ByteArray := if b = true then qCount else qFind
theorem verb_any (q : Qy) (a : Option Addr) (k : Nat) (w : World) :
    Calls Tryz.prog 83 #[qyV q a k] w fun e w' => e = .returned (.string (vbW q.cnt)) ∧ Below w.heap.size w w' := by
  obtain ⟨cnt, cs, by', ord, dwn, lim⟩ := q
  unfold qyV
  simp only
  cases cnt
  all_goals (
    go_enter Tryz.func83, Tryz.ntmps83
    go_wp2
    go_ret
    exact ⟨rfl, (Below.refl _ _).alloc (Nat.le_refl _) _⟩)
theorem one_at {X : World} {g : Nat} {x : Value} {T : TypeId} {B : Nat} (h : X.heap[g]? = some (.cells #[x] T (0, 0))) (hB : B ≤ g) : X.ownsRow B T 1 (.slice (some ⟨g, 0, none⟩) 1 1) 1 [x] :=
  ⟨rfl, .inr ⟨g, 1, #[x], rfl, hB, h, Nat.le_refl _, by unfold maxLen; omega, rfl, rfl⟩⟩
theorem two_new (V : World) (x y : Value) (T : TypeId) : ∀ j u, [x, y][j]? = some u → (V.alloc (.cells #[x, y] T)).cell? ((⟨V.heap.size, 0, none⟩ : Addr).add j) = some u := by
  intro j u hj
  rw [Addr.add_lit, Lib.cell_of_heap (heap_alloc_new _ _), Nat.zero_add, ← hj]
  simp
theorem own_at {w : World} {B n : Nat} {T : TypeId} {a : Option Addr} {c : Nat} {l : List ByteArray} (h : w.ownsRow B T 1 (.slice a n c) n (l.map Value.string)) : (a = none ∧ n = 0 ∧ c = 0) ∨ ∃ g, a = some ⟨g, 0, none⟩ ∧ ∀ j u, (l.map Value.string)[j]? = some u → w.cell? ((⟨g, 0, none⟩ : Addr).add j) = some u := by
  rcases h.2 with ⟨hv, h0⟩ | ⟨g, cap, cur, hv, _⟩
  · injection hv with h1 h2 h3; exact .inl ⟨h1, h2, h3⟩
  · injection hv with h1 _ _
    subst h1
    exact .inr ⟨g, rfl, fun j u hj => h.cells rfl j u hj⟩
set_option maxRecDepth 100000 in
set_option maxHeartbeats 4000000 in
theorem queryWords_any (q : Qy) (a : Option Addr) (k : Nat) (w : World) (hC : CdSl w (.slice a q.cs.length k) q.cs) (hT : PowTab w) (hq : qyB q = true) :
    Calls Tryz.prog 34 #[qyV q a k] w fun e w' => ∃ u, e = .returned u ∧ w'.ownsRow w.heap.size 9 1 u (qW q).length ((qW q).map Value.string) ∧ Below w.heap.size w w' := by
  have mixed : Tryz.prog.follows .mixedOrders = true := by kernel_rfl
  obtain ⟨i0, hi, hz0, hz1, hz2⟩ := info_parts Tryz.infoStr
  have hvb := fun W => verb_any q a k W
  obtain ⟨cnt, cs, by', ord, dwn, lim⟩ := q
  unfold qyV at hvb ⊢
  simp only at hC hvb ⊢
  have hqq := hq
  unfold qyB at hqq
  simp only [Bool.and_eq_true, decide_eq_true_eq] at hqq
  obtain ⟨h6, hall, hby⟩ := hqq
  have hlm : lim ≠ -1 → 0 ≤ lim ∧ lim ≤ 1000000 := fun h => by
    unfold byB at hby; cases cnt <;> simp at hby <;> omega
  have e1 : (by'.toList == []) = decide (by' = noW) := lit_b by' [] noW rfl
  have e2 : (ord.toList == []) = decide (ord = noW) := lit_b ord [] noW rfl
  have e3 : (lim == -1) = decide (lim = -1) := rfl
  have HALL := hid (List.all_eq_true.1 hall)
  clear hby hall hq
  have hb0 : Below w.heap.size w (w.alloc (.cells #[.bool cnt, .slice a cs.length k, .string by', .string ord, .bool dwn, .int .i64 lim] 25)) := (Below.refl _ _).alloc (Nat.le_refl _) _
  have HB0 := hid hb0
  have HC := hid (hC.stayQ hb0)
  have HT := hid (hT.below hb0 (Nat.le_refl _))
  have HA := hid (heap_alloc_new w (.cells #[.bool cnt, .slice a cs.length k, .string by', .string ord, .bool dwn, .int .i64 lim] 25))
  have hs0 : (w.alloc (.cells #[.bool cnt, .slice a cs.length k, .string by', .string ord, .bool dwn, .int .i64 lim] 25)).heap.size = w.heap.size + 1 := by simp
  clear hb0 hC hT
  have HQ : Hid (qW ⟨cnt, cs, by', ord, dwn, lim⟩ = (((vbW cnt :: csW cs) ++ byW ⟨cnt, cs, by', ord, dwn, lim⟩) ++ orW ⟨cnt, cs, by', ord, dwn, lim⟩ ++ dwW ⟨cnt, cs, by', ord, dwn, lim⟩) ++ liW ⟨cnt, cs, by', ord, dwn, lim⟩) := hid (by unfold qW tlW vbW; simp)
  have hq0 : (0 : Int) ≤ (cs.length : Int) := by omega
  go_enter Tryz.func34, Tryz.ntmps34
  go_upto_region 1 with fail
  generalize w.alloc (.cells #[.bool cnt, .slice a cs.length k, .string by', .string ord, .bool dwn, .int .i64 lim] 25) = W0 at *
  have KQ := hid (show ∀ X, Below W0.heap.size W0 X → X.cell? ⟨w.heap.size, 0, none⟩ = some (.bool cnt) ∧ X.cell? ⟨w.heap.size, 1, none⟩ = some (.slice a cs.length k) ∧ X.cell? ⟨w.heap.size, 2, none⟩ = some (.string by') ∧ X.cell? ⟨w.heap.size, 3, none⟩ = some (.string ord) ∧ X.cell? ⟨w.heap.size, 4, none⟩ = some (.bool dwn) ∧ X.cell? ⟨w.heap.size, 5, none⟩ = some (.int .i64 lim) ∧ Below w.heap.size w X from fun X hX => by
    obtain ⟨x0, x1, x2, x3, x4, x5⟩ := cells6 (w := w) ((hX.block _ (lt_heap HA.out)).trans HA.out)
    exact ⟨x0, x1, x2, x3, x4, x5, HB0.out.trans (hX.mono (by omega))⟩)
  clear HA HB0
  go_cut [3] from 4 to 10 (fun v wx => wx.ownsRow W0.heap.size 9 1 v (vbW cnt :: csW cs).length ((vbW cnt :: csW cs).map Value.string) ∧ Below W0.heap.size W0 wx)
  case first =>
    refine wp_region_two mixed 6 [[],[0],[0,1],[],[3],[3,4],[0,1,2,3,4,5],[0,1,2,3,4,5,6]] (fun v => { tmps := #[.agg #[.bool cnt, .slice a cs.length k, .string by', .string ord, .bool dwn, .int .i64 lim], .pointer (some ⟨w.heap.size, 0, none⟩), .slice none 0 0, undef, v 0, v 1, v 2, v 3, v 4, v 5, undef, undef, undef, undef, undef, undef, undef, undef, undef, undef, undef, undef, undef, undef, undef, undef, undef, undef, undef, undef, undef, undef, undef, undef, undef, undef, undef, undef, undef, undef, undef, undef], defers := [] }) (fun i9 => match i9 with | _ => undef) (fun i9 x X => match i9 with
      | 0 => x = .agg #[.bool cnt, .slice a cs.length k, .string by', .string ord, .bool dwn, .int .i64 lim]
      | 1 => x = .string (vbW cnt)
      | 2 => ∃ g9 : Nat, x = .slice (some ⟨g9, 0, none⟩) 1 1 ∧ W0.heap.size ≤ g9 ∧ X.heap[g9]? = some (.cells #[.string (vbW cnt)] 9 (0, 0))
      | 3 => x = .pointer (some ⟨w.heap.size, 1, none⟩)
      | 4 => x = .slice a cs.length k
      | 5 => ∃ (a8 : Option Addr) (c8 : Nat), x = .slice a8 (csW cs).length c8 ∧ X.ownsRow W0.heap.size 9 1 (.slice a8 (csW cs).length c8) (csW cs).length ((csW cs).map Value.string)
      | _ => True) (fun X => Below W0.heap.size W0 X) (fun X X' => Below X.heap.size X X') (by kernel_rfl) rfl ((Below.refl _ _).drew) ?mono ?step ?last
    case mono =>
      intro i9 x X X' hi9 hG hS h
      match i9, hi9 with
      | 0, _ | 1, _ | 3, _ | 4, _ => exact h
      | 2, _ => obtain ⟨g9, e9, hl9, hG9⟩ := h; exact ⟨g9, e9, hl9, (hS.block _ (lt_heap hG9)).trans hG9⟩
      | 5, _ => obtain ⟨a8, c8, e8, ho8⟩ := h; exact ⟨a8, c8, e8, ownB_stay ho8 hS⟩
    case step =>
      intro i9 v X hi9 hG hd hu K hK
      have HU := hid hu
      clear hu
      obtain ⟨x0, x1, x2, x3, x4, x5, _⟩ := KQ.out X hG
      match i9, hi9 with
      | 0, _ =>
        refine op_go rfl rfl ?_
        go_simp
        exact hK.out _ v _ _ rfl rfl rfl hG (Below.refl _ _)
      | 1, _ =>
        have q0 : v 0 = .agg #[.bool cnt, .slice a cs.length k, .string by', .string ord, .bool dwn, .int .i64 lim] := hd 0 (by decide)
        refine op_go rfl rfl ?_
        go_simp
        refine (hvb X).mono ?_
        rintro e X' ⟨rfl, hb'⟩
        exact hK.out _ (upd v 0 _) _ _ (upd_on rfl q0) rfl rfl (hG.trans (hb'.mono hG.size)) hb'
      | 2, _ =>
        have q1 : v 1 = .string (vbW cnt) := hd 1 (by decide)
        refine op_go rfl rfl ?_
        go_simp
        exact hK.out _ (upd v 1 _) _ _ (upd_on rfl q1) rfl ⟨X.heap.size, rfl, hG.size, heap_alloc_new X _⟩ (hG.trans (((Below.refl _ X).alloc (Nat.le_refl _) _).mono hG.size)) ((Below.refl _ X).alloc (Nat.le_refl _) _)
      | 3, _ =>
        refine op_go rfl rfl ?_
        go_simp
        exact hK.out _ v _ _ rfl rfl rfl hG (Below.refl _ _)
      | 4, _ =>
        have q3 : v 3 = .pointer (some ⟨w.heap.size, 1, none⟩) := hd 3 (by decide)
        refine op_go rfl rfl ?_
        go_simp
        exact hK.out _ (upd v 3 _) _ _ (upd_on rfl q3) rfl rfl hG (Below.refl _ _)
      | 5, _ =>
        have q4 : v 4 = .slice a cs.length k := hd 4 (by decide)
        refine op_go rfl rfl ?_
        go_simp
        refine (condWords_any cs _ X (HC.out.stayQ hG) h6 (HT.out.below hG (Nat.le_refl _)) HALL.out).mono ?_
        rintro e X' ⟨u8, rfl, ho, hb'⟩
        obtain ⟨a8, c8, rfl⟩ := ownB_form ho
        exact hK.out _ (upd v 4 _) _ _ (upd_on rfl q4) rfl ⟨a8, c8, rfl, ownB_le ho hG.size⟩ (hG.trans (hb'.mono hG.size)) hb'
    case last =>
      intro v X hG hd
      obtain ⟨x0, x1, x2, x3, x4, x5, _⟩ := KQ.out X hG
      obtain ⟨g9, q2, hl9, hG9⟩ : ∃ g9 : Nat, v 2 = .slice (some ⟨g9, 0, none⟩) 1 1 ∧ W0.heap.size ≤ g9 ∧ X.heap[g9]? = some (.cells #[.string (vbW cnt)] 9 (0, 0)) := hd 2 (by decide)
      obtain ⟨a8, c8, q5, ho8⟩ : ∃ (a8 : Option Addr) (c8 : Nat), v 5 = .slice a8 (csW cs).length c8 ∧ X.ownsRow W0.heap.size 9 1 (.slice a8 (csW cs).length c8) (csW cs).length ((csW cs).map Value.string) := hd 5 (by decide)
      refine op_go rfl rfl ?_
      have OX := one_at hG9 hl9
      rcases own_at ho8 with ⟨rfl, h0, rfl⟩ | ⟨g8, rfl, hc8⟩
      · have hn0 : csW cs = [] := List.eq_nil_of_length_eq_zero h0
        rw [h0] at q5
        go_simp
        refine op_go rfl rfl ?_
        go_simp
        go_wp2_with fail
        go_meet
        exact ⟨by rw [hn0]; exact OX, hG⟩
      · refine wp_append_own X (.tmp 6) (.tmp 9) 64 rfl W0.heap.size 9 i0 _ 1 16 Tryz.underlying64 hi hz0 hz1 hz2 rfl (by decide) _ 1 _ (by exact q2) OX ⟨g8, 0, none⟩ (csW cs).length c8 ((csW cs).map Value.string) (by exact q5) (by simp) hc8 (by intro u hu; simp at hu; obtain ⟨_, _, rfl⟩ := hu; rfl) (by unfold maxLen; have := csW_len cs; omega) (by have := csW_len cs; omega) hG.size ?_
        intro v' w1 ho hg _
        have B1 := hid (hG.grown hg hG.size (fun j e => (OX.lt j e).1))
        have hL1 : 1 + (csW cs).length = (vbW cnt :: csW cs).length := by rw [List.length_cons]; omega
        have O1 : Hid (w1.ownsRow W0.heap.size 9 1 v' (vbW cnt :: csW cs).length ((vbW cnt :: csW cs).map Value.string)) := hid (by rw [← hL1]; exact ho)
        clear ho hg OX hd
        refine op_go rfl rfl ?_
        go_simp
        go_wp2_with fail
        go_meet
        exact ⟨O1.out, B1.out⟩
  case rest =>
    have hl0 : (vbW cnt :: csW cs).length ≤ 25 := by rw [List.length_cons, csW_len]; omega
    clear hvb HALL HC
    generalize (vbW cnt :: csW cs) = l0 at *
    have HS0 := hid hs0
    clear hs0
    rename World => X1
    obtain ⟨ho, hb⟩ := hcut
    obtain ⟨va, vc, rfl⟩ := ownB_form ho
    have O := hid ho
    have B := hid hb
    have hsz := hb.size
    clear ho hb
    obtain ⟨x0, x1, x2, x3, x4, x5, hbw⟩ := KQ.out _ B.out
    have HBW := hid hbw
    clear hbw
    generalize hd0 : decide (by' = noW) = b0 at *
    go_upto_if 13 with fail
    go_cut [3] from 14 to 18 (fun v wx => wx.ownsRow W0.heap.size 9 1 v (l0 ++ byW ⟨cnt, cs, by', ord, dwn, lim⟩).length ((l0 ++ byW ⟨cnt, cs, by', ord, dwn, lim⟩).map Value.string) ∧ Below W0.heap.size W0 wx)
    case first =>
      cases b0 with
      | true =>
        have hw : byW ⟨cnt, cs, by', ord, dwn, lim⟩ = [] := by have h := of_decide_eq_true hd0; unfold byW; rw [if_pos (show by' = noW from h)]
        go_wp2_with fail
        go_meet
        exact ⟨by rw [hw, List.append_nil]; exact O.out, B.out⟩
      | false =>
        have hne : ¬ (by' = noW) := of_decide_eq_false hd0
        have hw : byW ⟨cnt, cs, by', ord, dwn, lim⟩ = [qBy, by'] := by unfold byW; rw [if_neg (show ¬ (by' = noW) from hne)]
        have wn := two_new X1 (.string qBy) (.string by') 9
        go_wp2_with (first | (at_builtin; refine wpList_append_own _ rfl _ _ 64 rfl W0.heap.size 9 i0 _ 1 16 Tryz.underlying64 hi hz0 hz1 hz2 rfl (by decide) _ _ _ rfl (O.out.alloc _) ⟨X1.heap.size, 0, none⟩ 2 2 [.string qBy, .string by'] rfl rfl ?c1 ?c2 ?c3 ?c4 ?c5 ?_) | fail)
        case c1 => exact wn
        case c2 => simp [Value.oneCell']
        case c3 => unfold maxLen; omega
        case c4 => omega
        case c5 => simp; omega
        intro v' w1 ho hg _
        have B1 := hid ((B.out.alloc hsz _).grown hg (by simp; omega) (fun j e => (O.out.lt j e).1))
        have O1 : Hid (w1.ownsRow W0.heap.size 9 1 v' (l0 ++ [qBy, by']).length ((l0 ++ [qBy, by']).map Value.string)) := hid (by rw [List.length_append, List.map_append]; exact ho)
        obtain ⟨a', c', rfl⟩ := ownB_form ho
        clear ho hg wn
        go_wp2_with fail
        go_meet
        exact ⟨by rw [hw]; exact O1.out, B1.out⟩
    case rest =>
      have hl1 : (l0 ++ byW ⟨cnt, cs, by', ord, dwn, lim⟩).length ≤ 27 := by rw [List.length_append]; unfold byW; split <;> simp <;> omega
      clear x0 x1 x2 x3 x4 x5 HBW O B hsz e1 hd0
      generalize (l0 ++ byW ⟨cnt, cs, by', ord, dwn, lim⟩) = l1 at *
      rename World => X2
      obtain ⟨ho, hb⟩ := hcut
      obtain ⟨va, vc, rfl⟩ := ownB_form ho
      have O := hid ho
      have B := hid hb
      have hsz := hb.size
      clear ho hb
      obtain ⟨x0, x1, x2, x3, x4, x5, hbw⟩ := KQ.out _ B.out
      have HBW := hid hbw
      clear hbw
      generalize hd1 : decide (ord = noW) = b1 at *
      go_upto_if 21 with fail
      go_cut [3] from 22 to 26 (fun v wx => wx.ownsRow W0.heap.size 9 1 v (l1 ++ orW ⟨cnt, cs, by', ord, dwn, lim⟩).length ((l1 ++ orW ⟨cnt, cs, by', ord, dwn, lim⟩).map Value.string) ∧ Below W0.heap.size W0 wx)
      case first =>
        cases b1 with
        | true =>
          have hw : orW ⟨cnt, cs, by', ord, dwn, lim⟩ = [] := by have h := of_decide_eq_true hd1; unfold orW; rw [if_pos (show ord = noW from h)]
          go_wp2_with fail
          go_meet
          exact ⟨by rw [hw, List.append_nil]; exact O.out, B.out⟩
        | false =>
          have hne : ¬ (ord = noW) := of_decide_eq_false hd1
          have hw : orW ⟨cnt, cs, by', ord, dwn, lim⟩ = [qOrder, ord] := by unfold orW; rw [if_neg (show ¬ (ord = noW) from hne)]
          have wn := two_new X2 (.string qOrder) (.string ord) 9
          go_wp2_with (first | (at_builtin; refine wpList_append_own _ rfl _ _ 64 rfl W0.heap.size 9 i0 _ 1 16 Tryz.underlying64 hi hz0 hz1 hz2 rfl (by decide) _ _ _ rfl (O.out.alloc _) ⟨X2.heap.size, 0, none⟩ 2 2 [.string qOrder, .string ord] rfl rfl ?c1 ?c2 ?c3 ?c4 ?c5 ?_) | fail)
          case c1 => exact wn
          case c2 => simp [Value.oneCell']
          case c3 => unfold maxLen; omega
          case c4 => omega
          case c5 => simp; omega
          intro v' w1 ho hg _
          have B1 := hid ((B.out.alloc hsz _).grown hg (by simp; omega) (fun j e => (O.out.lt j e).1))
          have O1 : Hid (w1.ownsRow W0.heap.size 9 1 v' (l1 ++ [qOrder, ord]).length ((l1 ++ [qOrder, ord]).map Value.string)) := hid (by rw [List.length_append, List.map_append]; exact ho)
          obtain ⟨a', c', rfl⟩ := ownB_form ho
          clear ho hg wn
          go_wp2_with fail
          go_meet
          exact ⟨by rw [hw]; exact O1.out, B1.out⟩
      case rest =>
        have hl2 : (l1 ++ orW ⟨cnt, cs, by', ord, dwn, lim⟩).length ≤ 29 := by rw [List.length_append]; unfold orW; split <;> simp <;> omega
        clear x0 x1 x2 x3 x4 x5 HBW O B hsz e2 hd1
        generalize (l1 ++ orW ⟨cnt, cs, by', ord, dwn, lim⟩) = l2 at *
        rename World => X3
        obtain ⟨ho, hb⟩ := hcut
        obtain ⟨va, vc, rfl⟩ := ownB_form ho
        have O := hid ho
        have B := hid hb
        have hsz := hb.size
        clear ho hb
        obtain ⟨x0, x1, x2, x3, x4, x5, hbw⟩ := KQ.out _ B.out
        have HBW := hid hbw
        clear hbw
        go_upto_if 28 with fail
        go_cut [3] from 29 to 31 (fun v wx => wx.ownsRow W0.heap.size 9 1 v (l2 ++ dwW ⟨cnt, cs, by', ord, dwn, lim⟩).length ((l2 ++ dwW ⟨cnt, cs, by', ord, dwn, lim⟩).map Value.string) ∧ Below W0.heap.size W0 wx)
        case first =>
          cases dwn with
          | true =>
            have hw : ∀ d, d = true → dwW ⟨cnt, cs, by', ord, d, lim⟩ = [qDesc] := fun d h => by subst h; rfl
            have wn := one_new X3 (.string qDesc) 9
            go_wp2_with (first | (at_builtin; refine wpList_append_own _ rfl _ _ 64 rfl W0.heap.size 9 i0 _ 1 16 Tryz.underlying64 hi hz0 hz1 hz2 rfl (by decide) _ _ _ rfl (O.out.alloc _) ⟨X3.heap.size, 0, none⟩ 1 1 [.string qDesc] rfl rfl ?c1 ?c2 ?c3 ?c4 ?c5 ?_) | fail)
            case c1 => exact wn
            case c2 => simp [Value.oneCell']
            case c3 => unfold maxLen; omega
            case c4 => omega
            case c5 => simp; omega
            intro v' w1 ho hg _
            have B1 := hid ((B.out.alloc hsz _).grown hg (by simp; omega) (fun j e => (O.out.lt j e).1))
            have O1 : Hid (w1.ownsRow W0.heap.size 9 1 v' (l2 ++ [qDesc]).length ((l2 ++ [qDesc]).map Value.string)) := hid (by rw [List.length_append, List.map_append]; exact ho)
            obtain ⟨a', c', rfl⟩ := ownB_form ho
            clear ho hg wn
            go_wp2_with fail
            go_meet
            exact ⟨by rw [hw _ rfl]; exact O1.out, B1.out⟩
          | false =>
            have hw : ∀ d, d = false → dwW ⟨cnt, cs, by', ord, d, lim⟩ = [] := fun d h => by subst h; rfl
            go_wp2_with fail
            go_meet
            exact ⟨by rw [hw _ rfl, List.append_nil]; exact O.out, B.out⟩
        case rest =>
          have hl3 : (l2 ++ dwW ⟨cnt, cs, by', ord, dwn, lim⟩).length ≤ 31 := by rw [List.length_append]; unfold dwW; split <;> simp <;> omega
          clear x0 x1 x2 x3 x4 x5 HBW O B hsz
          generalize (l2 ++ dwW ⟨cnt, cs, by', ord, dwn, lim⟩) = l3 at *
          rename World => X4
          obtain ⟨ho, hb⟩ := hcut
          obtain ⟨va, vc, rfl⟩ := ownB_form ho
          have O := hid ho
          have B := hid hb
          have hsz := hb.size
          clear ho hb
          obtain ⟨x0, x1, x2, x3, x4, x5, hbw⟩ := KQ.out _ B.out
          have HBW := hid hbw
          clear hbw
          generalize hd3 : decide (lim = -1) = b3 at *
          have e4 : (lim != -1) = !b3 := by show (!(lim == -1)) = _; rw [e3]
          go_upto_if 34 with fail
          go_cut [3] from 35 to 40 (fun v wx => wx.ownsRow W0.heap.size 9 1 v (l3 ++ liW ⟨cnt, cs, by', ord, dwn, lim⟩).length ((l3 ++ liW ⟨cnt, cs, by', ord, dwn, lim⟩).map Value.string) ∧ Below W0.heap.size W0 wx)
          case first =>
            cases b3 with
            | true =>
              have hw : liW ⟨cnt, cs, by', ord, dwn, lim⟩ = [] := by have h := of_decide_eq_true hd3; unfold liW; rw [if_pos (show lim = -1 from h)]
              go_wp2_with fail
              go_meet
              exact ⟨by rw [hw, List.append_nil]; exact O.out, B.out⟩
            | false =>
              have hne : ¬ (lim = -1) := of_decide_eq_false hd3
              have hw : liW ⟨cnt, cs, by', ord, dwn, lim⟩ = [qLimit, decI lim] := by unfold liW; rw [if_neg (show ¬ (lim = -1) from hne)]
              have cD := digits_any lim X4 (hlm hne).1 (hlm hne).2 (HT.out.below B.out (Nat.le_refl _))
              go_wp2_with fail
              refine cD.mono ?_
              rintro e w5 ⟨rfl, hb5⟩
              have O5 := hid (ownB_stay O.out hb5)
              have B5 := hid (B.out.trans (hb5.mono hsz))
              have hsz5 := B5.out.size
              clear hb5 cD
              have wn := two_new w5 (.string qLimit) (.string (decI lim)) 9
              go_wp2_with (first | (at_builtin; refine wpList_append_own _ rfl _ _ 64 rfl W0.heap.size 9 i0 _ 1 16 Tryz.underlying64 hi hz0 hz1 hz2 rfl (by decide) _ _ _ rfl (O5.out.alloc _) ⟨w5.heap.size, 0, none⟩ 2 2 [.string qLimit, .string (decI lim)] rfl rfl ?c1 ?c2 ?c3 ?c4 ?c5 ?_) | fail)
              case c1 => exact wn
              case c2 => simp [Value.oneCell']
              case c3 => unfold maxLen; omega
              case c4 => omega
              case c5 => simp; omega
              intro v' w1 ho hg _
              have B1 := hid ((B5.out.alloc hsz5 _).grown hg (by simp; omega) (fun j e => (O5.out.lt j e).1))
              have O1 : Hid (w1.ownsRow W0.heap.size 9 1 v' (l3 ++ [qLimit, decI lim]).length ((l3 ++ [qLimit, decI lim]).map Value.string)) := hid (by rw [List.length_append, List.map_append]; exact ho)
              obtain ⟨a', c', rfl⟩ := ownB_form ho
              clear ho hg wn
              go_wp2_with fail
              go_meet
              exact ⟨by rw [hw]; exact O1.out, B1.out⟩
          case rest =>
            have hl4 : (l3 ++ liW ⟨cnt, cs, by', ord, dwn, lim⟩).length ≤ 33 := by rw [List.length_append]; unfold liW; split <;> simp <;> omega
            clear x0 x1 x2 x3 x4 x5 HBW O B hsz e3 e4 hd3
            rename World => X5
            obtain ⟨ho, hb⟩ := hcut
            obtain ⟨va, vc, rfl⟩ := ownB_form ho
            have O := hid ho
            have B := hid hb
            clear ho hb
            obtain ⟨x0, x1, x2, x3, x4, x5, hbw⟩ := KQ.out _ B.out
            have HBW := hid hbw
            clear hbw x0 x1 x2 x3 x4 x5
            have O9 := hid (ownB_le (base' := w.heap.size) O.out (show w.heap.size ≤ W0.heap.size by have := HS0.out; omega))
            clear O
            go_wp2_with fail
            go_ret
            exact ⟨_, rfl, by rw [HQ.out]; exact O9.out, HBW.out⟩
end Go.Proofs.YtimlnbfalnkmhaaGreatDoor
