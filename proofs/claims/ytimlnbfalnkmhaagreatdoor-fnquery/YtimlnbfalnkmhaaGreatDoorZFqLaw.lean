/-
  The law FnQuery answers true of every two slices of bytes: its walk.
-/
import Derived.Test.YtimlnbfalnkmhaaGreatDoorZSrcC2
import Derived.Test.YtimlnbfalnkmhaaGreatDoorZQoM5
import Derived.Test.YtimlnbfalnkmhaaGreatDoorZImCW2
import Derived.Test.YtimlnbfalnkmhaaGreatDoorZQuQ4
import Derived.Test.YtimlnbfalnkmhaaGreatDoorZQpZ
import Derived.Test.YtimlnbfalnkmhaaGreatDoorZLwQ
import Derived.Deep.CutBlock
namespace Go.Proofs.YtimlnbfalnkmhaaGreatDoor
open Go.RowKit
set_option linter.unusedVariables false

set_option maxHeartbeats 1000000 in
set_option maxRecDepth 100000 in
theorem fnQuery_big (a1 a2 : Option Addr) (n1 n2 c1 c2 : Nat) (w : World) (hb : ¬ ((n1 : Int) ≤ 1048576 ∧ (n2 : Int) ≤ 1048576)) :
    Calls Tryz.prog 3 #[.slice a1 n1 c1, .slice a2 n2 c2] w fun e w' => e = .returned (.bool true) ∧ Below w.heap.size w w' := by
  by_cases h1 : (n1 : Int) ≤ 1048576
  · have h2 : (1048576 : Int) < n2 := by omega
    clear hb
    go_enter Tryz.func3, Tryz.ntmps3
    go_wp2
    go_ret
    exact ⟨rfl, Below.refl _ _⟩
  · have h1 : (1048576 : Int) < n1 := by omega
    clear hb
    go_enter Tryz.func3, Tryz.ntmps3
    go_wp2
    go_ret
    exact ⟨rfl, Below.refl _ _⟩
theorem six_cells {X : World} {g : Nat} {q : Qy} {u : Value} (h : X.heap[g]? = some (.cells (qyL q u).toArray 25 (0, 0))) : X.cell? ⟨g, 0, none⟩ = some (.bool q.cnt) ∧ X.cell? ⟨g, 1, none⟩ = some u ∧ X.cell? ⟨g, 2, none⟩ = some (.string q.by') ∧ X.cell? ⟨g, 3, none⟩ = some (.string q.ord) ∧ X.cell? ⟨g, 4, none⟩ = some (.bool q.dwn) ∧ X.cell? ⟨g, 5, none⟩ = some (.int .i64 q.lim) :=
  ⟨by rw [Lib.cell_of_heap h]; rfl, by rw [Lib.cell_of_heap h]; rfl, by rw [Lib.cell_of_heap h]; rfl, by rw [Lib.cell_of_heap h]; rfl, by rw [Lib.cell_of_heap h]; rfl, by rw [Lib.cell_of_heap h]; rfl⟩
abbrev qoL (q : Qy) (u : Value) (x y : Int) : List Value := [.bool q.cnt, u, .string q.by', .string q.ord, .bool q.dwn, .int .i64 q.lim, .int .i64 x, .int .i64 y]
theorem eight_cells {X : World} {g : Nat} {q : Qy} {u : Value} {x y : Int} (h : X.heap[g]? = some (.cells (qoL q u x y).toArray 30 (0, 0))) : X.cell? ⟨g, 0, none⟩ = some (.bool q.cnt) ∧ X.cell? ⟨g, 1, none⟩ = some u ∧ X.cell? ⟨g, 2, none⟩ = some (.string q.by') ∧ X.cell? ⟨g, 3, none⟩ = some (.string q.ord) ∧ X.cell? ⟨g, 4, none⟩ = some (.bool q.dwn) ∧ X.cell? ⟨g, 5, none⟩ = some (.int .i64 q.lim) ∧ X.cell? ⟨g, 6, none⟩ = some (.int .i64 x) ∧ X.cell? ⟨g, 7, none⟩ = some (.int .i64 y) :=
  ⟨by rw [Lib.cell_of_heap h]; rfl, by rw [Lib.cell_of_heap h]; rfl, by rw [Lib.cell_of_heap h]; rfl, by rw [Lib.cell_of_heap h]; rfl, by rw [Lib.cell_of_heap h]; rfl, by rw [Lib.cell_of_heap h]; rfl, by rw [Lib.cell_of_heap h]; rfl, by rw [Lib.cell_of_heap h]; rfl⟩
set_option maxRecDepth 100000 in
set_option maxHeartbeats 8000000 in
theorem fnQuery_in {ae : Addr} (a1 a2 : Option Addr) (n1 n2 c1 c2 : Nat) (w : World) (h1 : (n1 : Int) ≤ 1048576) (h2 : (n2 : Int) ≤ 1048576) (hA : Bs w (.slice a1 n1 c1) n1) (hM : Bs w (.slice a2 n2 c2) n2) (hK : KNames w) (hT : PowTab w) (her : w.cell? ⟨0, 0, none⟩ = some (errQ ae)) :
    Calls Tryz.prog 3 #[.slice a1 n1 c1, .slice a2 n2 c2] w fun e w' => e = .returned (.bool true) ∧ Below w.heap.size w w' := by
  have mixed : Tryz.prog.follows .mixedOrders = true := by kernel_rfl
  have cD := hid (drawQueryText_any (.slice a1 n1 c1) n1 w hA)
  have cR := hid (fun W hb => drawQueryRead_any (.slice a2 n2 c2) n2 W (hM.stayQ hb))
  have hg1 := gt_cell her
  have Kn := hid (fun W (hb : Below w.heap.size w W) => hK.below hb (Nat.le_refl _))
  have Pw := hid (fun W (hb : Below w.heap.size w W) => hT.below hb (Nat.le_refl _))
  have Er := hid (fun W (hb : Below w.heap.size w W) => (hb.cell (p := ⟨_, 0, none⟩) hg1).trans her)
  clear hK hT her hA hM
  go_enter Tryz.func3, Tryz.ntmps3
  go_wp2_with fail
  refine cD.out.mono ?_
  rintro e W1 ⟨q, A, ca, he, hM, hb1⟩
  replace he : e = .returned (.agg #[.bool q.cnt, .slice A q.cs.length ca, .string q.by', .string q.ord, .bool q.dwn, .int .i64 q.lim]) := he
  subst he
  clear cD
  have hb2 := (Below.refl _ W1).alloc (Nat.le_refl _) (.cells #[.bool q.cnt, .slice A q.cs.length ca, .string q.by', .string q.ord, .bool q.dwn, .int .i64 q.lim] 25)
  have B2 := hid (hb1.trans (hb2.mono hb1.size))
  have M2 := hid (hM.stay hb2)
  have X2 : Hid ((W1.alloc (.cells #[.bool q.cnt, .slice A q.cs.length ca, .string q.by', .string q.ord, .bool q.dwn, .int .i64 q.lim] 25)).heap[W1.heap.size]? = some (.cells (qyL q (.slice A q.cs.length ca)).toArray 25 (0, 0))) := hid (heap_alloc_new W1 _)
  clear hb1 hb2 hM
  go_upto_region 4 with fail
  generalize W1.alloc (.cells #[.bool q.cnt, .slice A q.cs.length ca, .string q.by', .string q.ord, .bool q.dwn, .int .i64 q.lim] 25) = W2 at *
  generalize W1.heap.size = g at *
  obtain ⟨y0, y1, y2, y3, y4, y5⟩ := six_cells X2.out
  have cT := hid (implQueryText_any q A ca W2 M2.out.sl M2.out.wrd M2.out.len (Kn.out _ B2.out) (Pw.out _ B2.out))
  have hts : (if qyB q = true then qT q else noW).size ≤ 700 := by
    split
    · rename_i h; exact qT_size8 h
    · decide
  unfold qyV at cT
  go_wp2_with fail
  refine cT.out.mono ?_
  rintro e W3 ⟨rfl, hb3⟩
  have B3 := hid (B2.out.trans (hb3.mono B2.out.size))
  have M3 := hid (M2.out.stay hb3)
  have X3 := hid ((hb3.block _ (lt_heap X2.out)).trans X2.out)
  clear hb3 B2 M2 X2 cT y0 y1 y2 y3 y4 y5
  have cS := hid (fun X (hb : Below W3.heap.size W3 X) => specQueryText_any q A ca X (M3.out.stay hb).sl (M3.out.stay hb).wrd (M3.out.stay hb).len)
  have cP := hid (fun X (hb : Below W3.heap.size W3 X) => implQueryRight_any q A ca X (M3.out.stay hb).sl (M3.out.stay hb).wrd (M3.out.stay hb).len (Kn.out _ (B3.out.trans (hb.mono B3.out.size))))
  have cQ := hid (fun X (hb : Below W3.heap.size W3 X) => specQueryRight_any q A ca X (M3.out.stay hb).sl (M3.out.stay hb).wrd (M3.out.stay hb).len)
  unfold qyV at cS cP cQ
  generalize htt : (if qyB q = true then qT q else noW) = t at *
  generalize hqb : qyB q = bq at *
  have Htt := hid htt
  have Hqb := hid hqb
  clear htt hqb
  have nb1 : (bq != bq) = false := by simp
  have nb2 : (t.toList != t.toList) = false := by simp
  go_upto_region 5 with fail
  refine wp_region_ok mixed 11 [[],[],[1],[0,1,2],[0,1,2,3],[0,1,2,3,4],[0,1,2,3,4,5],[0,1,2,3,4],[0,1,2,3,4,7],[0,1,2,3,4,5,6,7,8],[0,1,2,3,4,5,6,7,8,9]] (fun v => { tmps := #[.slice a1 n1 c1, .slice a2 n2 c2, undef, undef, .bool false, .pointer (some ⟨g, 0, none⟩), .string t, undef, undef, undef, undef, undef, undef, undef, undef, .slice a1 n1 c1, .int .i64 (n1 : Int), .bool (decide (1048576 < (n1 : Int))), .bool (decide (1048576 < (n1 : Int))), .slice a2 n2 c2, .int .i64 (n2 : Int), .bool (decide (1048576 < (n2 : Int))), .bool (decide (1048576 < (n1 : Int)) || decide (1048576 < (n2 : Int))), .slice a1 n1 c1, .agg #[.bool q.cnt, .slice A q.cs.length ca, .string q.by', .string q.ord, .bool q.dwn, .int .i64 q.lim], .agg #[.bool q.cnt, .slice A q.cs.length ca, .string q.by', .string q.ord, .bool q.dwn, .int .i64 q.lim], .string t, v 0, v 1, v 2, v 3, v 4, v 5, v 6, v 7, v 8, v 9, v 10, undef, undef, undef, undef, undef, undef, undef, undef, undef, undef, undef, undef, undef, undef, undef, undef, undef, undef, undef, undef, undef, undef, undef, undef, undef, undef, undef, undef, undef, undef, undef, undef, undef, undef, undef, undef, undef, undef, undef, undef, undef, undef, undef, undef, undef, undef, undef, undef, undef, undef, undef, undef, undef, undef, undef, undef, undef, undef, undef, undef, undef, undef, undef, undef, undef, undef, undef, undef, undef, undef, undef, undef, undef, undef, undef, undef, undef, undef, undef, undef, undef, undef, undef, undef, undef, undef, undef, undef, undef, undef, undef, undef, undef, undef, undef, undef, undef, undef, undef, undef, undef, undef, undef, undef, undef, undef], defers := [] }) (fun i9 => match i9 with | _ => undef) (fun i9 x X => match i9 with
    | 0 => x = .string t
    | 1 => x = .agg #[.bool q.cnt, .slice A q.cs.length ca, .string q.by', .string q.ord, .bool q.dwn, .int .i64 q.lim]
    | 2 => x = .string t
    | 3 => x = .bool false
    | 4 => x = .bool false
    | 5 => x = .agg #[.bool q.cnt, .slice A q.cs.length ca, .string q.by', .string q.ord, .bool q.dwn, .int .i64 q.lim]
    | 6 => x = .bool bq
    | 7 => x = .agg #[.bool q.cnt, .slice A q.cs.length ca, .string q.by', .string q.ord, .bool q.dwn, .int .i64 q.lim]
    | 8 => x = .bool bq
    | 9 => x = .bool false
    | 10 => x = .bool false
    | _ => True) (fun X => Below W3.heap.size W3 X) (fun X X' => Below X.heap.size X X') (by kernel_rfl) rfl ((Below.refl _ _).drew) ?mono ?step ?fin
  case mono =>
    intro i9 x X X' hi9 hG hS h
    match i9, hi9 with
    | 0, _ | 1, _ | 2, _ | 3, _ | 4, _ | 5, _ | 6, _ | 7, _ | 8, _ | 9, _ | 10, _ => exact h
  case step =>
    intro i9 v X hi9 hG hd hu K hK
    have HU := hid hu
    clear hu
    obtain ⟨y0, y1, y2, y3, y4, y5⟩ := six_cells ((hG.block _ (lt_heap X3.out)).trans X3.out)
    match i9, hi9 with
    | 0, _ =>
      refine op_go rfl rfl ?_
      go_simp
      exact hK.out _ v _ _ rfl rfl rfl hG (Below.refl _ _)
    | 1, _ =>
      refine op_go rfl rfl ?_
      go_simp
      exact hK.out _ v _ _ rfl rfl rfl hG (Below.refl _ _)
    | 2, _ =>
      have q1 : v 1 = .agg #[.bool q.cnt, .slice A q.cs.length ca, .string q.by', .string q.ord, .bool q.dwn, .int .i64 q.lim] := hd 1 (by decide)
      refine op_go rfl rfl ?_
      go_simp
      refine (cS.out X hG).mono ?_
      rintro e X' ⟨rfl, hb'⟩
      exact hK.out _ (upd v 1 _) _ _ (upd_on rfl q1) rfl rfl (hG.trans (hb'.mono hG.size)) hb'
    | 3, _ =>
      have q0 : v 0 = .string t := hd 0 (by decide)
      have q2 : v 2 = .string t := hd 2 (by decide)
      refine op_go rfl rfl ?_
      go_simp
      exact hK.out _ (upd (upd v 0 _) 2 _) _ _ (upd_on (upd_on rfl q0) q2) rfl rfl hG (Below.refl _ _)
    | 4, _ =>
      have q3 : v 3 = .bool false := hd 3 (by decide)
      refine op_go rfl rfl ?_
      go_simp
      exact hK.out _ (upd v 3 _) _ _ (upd_on rfl q3) rfl rfl hG (Below.refl _ _)
    | 5, _ =>
      have q4 : v 4 = .bool false := hd 4 (by decide)
      refine op_want rfl (by simp [Region.wanted, yielded, q4]) ?_
      go_simp
      exact hK.out _ (upd v 4 _) _ _ (upd_on rfl q4) rfl rfl hG (Below.refl _ _)
    | 6, _ =>
      have q4 : v 4 = .bool false := hd 4 (by decide)
      have q5 : v 5 = .agg #[.bool q.cnt, .slice A q.cs.length ca, .string q.by', .string q.ord, .bool q.dwn, .int .i64 q.lim] := hd 5 (by decide)
      refine op_want rfl (by simp [Region.wanted, yielded, q4]) ?_
      go_simp
      refine (cP.out X hG).mono ?_
      rintro e X' ⟨rfl, hb'⟩
      exact hK.out _ (upd (upd v 4 _) 5 _) _ _ (upd_on (upd_on rfl q4) q5) rfl rfl (hG.trans (hb'.mono hG.size)) hb'
    | 7, _ =>
      have q4 : v 4 = .bool false := hd 4 (by decide)
      refine op_want rfl (by simp [Region.wanted, yielded, q4]) ?_
      go_simp
      exact hK.out _ (upd v 4 _) _ _ (upd_on rfl q4) rfl rfl hG (Below.refl _ _)
    | 8, _ =>
      have q4 : v 4 = .bool false := hd 4 (by decide)
      have q7 : v 7 = .agg #[.bool q.cnt, .slice A q.cs.length ca, .string q.by', .string q.ord, .bool q.dwn, .int .i64 q.lim] := hd 7 (by decide)
      refine op_want rfl (by simp [Region.wanted, yielded, q4]) ?_
      go_simp
      refine (cQ.out X hG).mono ?_
      rintro e X' ⟨rfl, hb'⟩
      exact hK.out _ (upd (upd v 4 _) 7 _) _ _ (upd_on (upd_on rfl q4) q7) rfl rfl (hG.trans (hb'.mono hG.size)) hb'
    | 9, _ =>
      have q4 : v 4 = .bool false := hd 4 (by decide)
      have q6 : v 6 = .bool bq := hd 6 (by decide)
      have q8 : v 8 = .bool bq := hd 8 (by decide)
      refine op_want rfl (by simp [Region.wanted, yielded, q4]) ?_
      go_simp
      exact hK.out _ (upd (upd (upd v 4 _) 6 _) 8 _) _ _ (upd_on (upd_on (upd_on rfl q4) q6) q8) rfl rfl hG (Below.refl _ _)
    | 10, _ =>
      have q4 : v 4 = .bool false := hd 4 (by decide)
      have q9 : v 9 = .bool false := hd 9 (by decide)
      refine op_go rfl rfl ?_
      go_simp
      exact hK.out _ (upd (upd v 4 _) 9 _) _ _ (upd_on (upd_on rfl q4) q9) rfl rfl hG (Below.refl _ _)
  case fin =>
    intro v X hG hd
    have q10 : v 10 = .bool false := hd 10 (by decide)
    generalize v 10 = s10 at *
    subst q10
    have B4 := hid (B3.out.trans (hG.mono B3.out.size))
    have M4 := hid (M3.out.stay hG)
    have X4 := hid ((hG.block _ (lt_heap X3.out)).trans X3.out)
    clear hG hd cS cP cQ nb1 nb2 B3 M3 X3
    have e0 : t.toList.isEmpty = !bq := by
      have hl : (t.toList == []) = decide (t = noW) := lit_b t [] noW rfl
      have hm : t.toList.isEmpty = (t.toList == []) := by cases t.toList <;> rfl
      rw [hm, hl]
      have h1 := Htt.out
      have h2 := Hqb.out
      cases bq with
      | true => subst h1; simp [qT_ne h2]
      | false => subst h1; simp
    go_upto_if 39 with fail
    go_cut [] from 40 to 80 (fun wx => Below w.heap.size w wx)
    case first =>
      cases bq with
      | false =>
        go_wp2_with fail
        go_meet
        exact B4.out
      | true =>
        have ht : t = qT q := by have h1 := Htt.out; rw [if_pos rfl] at h1; exact h1.symm
        have HtQ := hid ht
        clear ht
        go_wp2_with fail
        go_loopw [7, 8] (fun tv iv wr => ∃ k : Nat, iv = .int .i64 (k : Int) ∧ k ≤ t.size ∧ tv = .string (widB t k) ∧ wr = X) (fun _ iv _ => t.size - (intOf iv).toNat)
        case atStart => exact ⟨0, rfl, Nat.zero_le _, rfl, rfl⟩
        case round =>
          obtain ⟨k, rfl, hk, rfl, rfl⟩ := hrel
          by_cases hlt : k < t.size
          · have zk : (k : Int) < (t.size : Int) := by omega
            have hs := hid (widB_succ hlt)
            have hws := widB_size t k
            have zc := hid (UInt8.toNat_inj (a := t[k]) (b := 32))
            generalize widB t k = S at *
            go_upto_if 56 with fail
            generalize hcb : ((t[k].toNat : Int) == 32) = cb at *
            cases cb with
            | true =>
              have h32 : t[k] = 32 := by have h9 := of_decide_eq_true hcb; exact UInt8.toNat_inj.1 (by have : (32 : UInt8).toNat = 32 := rfl; omega)
              go_wp2_with fail
              go_roundw
              case rel => exact ⟨k + 1, by go_num, by omega, by rw [hs.out, if_pos h32], by trivial⟩
              case measure => simp [intOf]; omega
            | false =>
              have h32 : ¬ t[k] = 32 := by intro h9; rw [h9] at hcb; cases hcb
              go_wp2_with fail
              go_roundw
              case rel => exact ⟨k + 1, by go_num, by omega, by rw [hs.out, if_neg h32], by trivial⟩
              case measure => simp [intOf]; omega
          · obtain rfl : k = t.size := by omega
            have hwl := hid (wide_list t)
            have hws := widB_size t t.size
            have cI := hid (fun W (hb : Below w.heap.size w W) => implQueryRead_any (a := ae) t W (Er.out W hb) (Kn.out W hb))
            have cJ := hid (fun W (hb : Below w.heap.size w W) => implQueryRead_any (a := ae) ((spW ++ widB t t.size) ++ spW) W (Er.out W hb) (Kn.out W hb))
            have e1 : qoS t = (q, 0, 0) := by rw [HtQ.out]; exact qoS_qT Hqb.out
            have e2 : qoS ((spW ++ widB t t.size) ++ spW) = (q, 0, 0) := qoS_wide Hqb.out (by rw [hwl.out, ← HtQ.out])
            rw [e1] at cI
            rw [e2] at cJ
            clear e1 e2 hwl
            generalize widB t t.size = S at *
            go_wp2_with fail
            refine (cI.out _ B4.out).mono ?_
            rintro e W5 ⟨v9, he, ho, hb5⟩
            obtain ⟨A3, k3, rfl⟩ := ownB_form ho
            replace he : e = .returned (.agg #[.bool q.cnt, .slice A3 q.cs.length k3, .string q.by', .string q.ord, .bool q.dwn, .int .i64 q.lim, .int .i64 0, .int .i64 0]) := he
            subst he
            have hb6 := hb5.alloc hb5.size (.cells #[.bool q.cnt, .slice A3 q.cs.length k3, .string q.by', .string q.ord, .bool q.dwn, .int .i64 q.lim, .int .i64 0, .int .i64 0] 30)
            have hc6 := (cd_of_own ho).stayQ ((Below.refl _ W5).alloc (Nat.le_refl _) (.cells #[.bool q.cnt, .slice A3 q.cs.length k3, .string q.by', .string q.ord, .bool q.dwn, .int .i64 q.lim, .int .i64 0, .int .i64 0] 30))
            have X6 : Hid ((W5.alloc (.cells #[.bool q.cnt, .slice A3 q.cs.length k3, .string q.by', .string q.ord, .bool q.dwn, .int .i64 q.lim, .int .i64 0, .int .i64 0] 30)).heap[W5.heap.size]? = some (.cells (qoL q (.slice A3 q.cs.length k3) 0 0).toArray 30 (0, 0))) := hid (heap_alloc_new W5 _)
            have B6 := hid (B4.out.trans (hb6.mono B4.out.size))
            have M6 := hid (M4.out.stay hb6)
            have Y6 := hid ((hb6.block _ (lt_heap X4.out)).trans X4.out)
            have C6 := hid hc6
            clear ho hb5 hb6 hc6 B4 M4 X4 cI
            go_upto_region 16 with fail
            generalize W5.alloc (.cells #[.bool q.cnt, .slice A3 q.cs.length k3, .string q.by', .string q.ord, .bool q.dwn, .int .i64 q.lim, .int .i64 0, .int .i64 0] 30) = W6 at *
            generalize W5.heap.size = gx at *
            have cL := hid (fun (A1 A2 : Option Addr) (k1 k2 : Nat) (X : World) (h1 : CdSl X (.slice A1 q.cs.length k1) q.cs) (h2 : CdSl X (.slice A2 q.cs.length k2) q.cs) => lwQuery_same q A1 A2 k1 k2 X h1 h2 M6.out.len)
            unfold qyV at cL
            have hf0 : ∀ (A9 : Option Addr) (k9 : Nat) (X : World), (Instr.field 30 (.agg #[.bool q.cnt, .slice A9 q.cs.length k9, .string q.by', .string q.ord, .bool q.dwn, .int .i64 q.lim, .int .i64 0, .int .i64 0]) 0).run Tryz.prog X = .ok (.agg #[.bool q.cnt, .slice A9 q.cs.length k9, .string q.by', .string q.ord, .bool q.dwn, .int .i64 q.lim]) X := fun _ _ _ => by kernel_rfl
            have nb0 : ((0 : Int) != 0) = false := rfl
            refine wp_region_ok mixed 20 [[],[0],[0,1],[0,1,2],[0,1,2,3],[0,1,2,3,4],[0,1,2,3],[0,1,2,3,4,5,6],[0,1,2,3,4,5,6,7],[0,1,2,3,4,5,6,7,8],[0,1,2,3,4,5,6,7,8,9],[0,1,2,3,4,5,6,7,8,9,10],[0,1,2,3,4,5,6,7,8,9,10,11],[0,1,2,3,4,5,6,7,8,9,10,11,12],[0,1,2,3,4,5,6,7,8,9,10,11,12,13],[0,1,2,3,4,5,6,7,8,9,10,11,12,13,14],[0,1,2,3,4,5,6,7,8,9,10],[0,1,2,3,4,5,6,7,8,9,10,11,12,13,14,15,16],[0,1,2,3,4,5,6,7,8,9,10,11,12,13,14,15,16,17],[0,1,2,3,4,5,6,7,8,9,10,11,12,13,14,15,16,17,18]] (fun z => { tmps := #[.slice a1 n1 c1, .slice a2 n2 c2, undef, undef, .bool false, .pointer (some ⟨g, 0, none⟩), .string t, .string S, .int .i64 (t.size : Int), .pointer (some ⟨gx, 0, none⟩), undef, undef, undef, undef, undef, .slice a1 n1 c1, .int .i64 (n1 : Int), .bool (decide (1048576 < (n1 : Int))), .bool (decide (1048576 < (n1 : Int))), .slice a2 n2 c2, .int .i64 (n2 : Int), .bool (decide (1048576 < (n2 : Int))), .bool (decide (1048576 < (n1 : Int)) || decide (1048576 < (n2 : Int))), .slice a1 n1 c1, .agg #[.bool q.cnt, .slice A q.cs.length ca, .string q.by', .string q.ord, .bool q.dwn, .int .i64 q.lim], .agg #[.bool q.cnt, .slice A q.cs.length ca, .string q.by', .string q.ord, .bool q.dwn, .int .i64 q.lim], .string t, v 0, v 1, v 2, v 3, v 4, v 5, v 6, v 7, v 8, v 9, .bool false, .string t, .bool true, .int .i64 (t.size : Int), .string t, .int .i64 (t.size : Int), .bool false, u44, u45, u46, u47, u48, u49, u50, u51, u52, u53, u54, u55, u56, u57, u58, .string t, .agg #[.bool q.cnt, .slice A3 q.cs.length k3, .string q.by', .string q.ord, .bool q.dwn, .int .i64 q.lim, .int .i64 0, .int .i64 0], z 0, z 1, z 2, z 3, z 4, z 5, z 6, z 7, z 8, z 9, z 10, z 11, z 12, z 13, z 14, z 15, z 16, z 17, z 18, z 19, undef, undef, undef, undef, undef, undef, undef, undef, undef, undef, undef, undef, undef, undef, undef, undef, undef, undef, undef, undef, undef, undef, undef, undef, undef, undef, undef, undef, undef, undef, undef, undef, undef, undef, undef, undef, undef, undef, undef, undef, undef, undef, undef, undef, undef, undef, undef, undef, undef, undef, undef, undef, undef, undef, undef, undef, undef, undef, undef, undef, undef, undef, undef], defers := [] }) (fun i9 => match i9 with | _ => undef) (fun i9 x X => match i9 with
              | 0 => x = .pointer (some ⟨gx, 7, none⟩)
              | 1 => x = .int .i64 0
              | 2 => x = .bool false
              | 3 => x = .bool false
              | 4 => x = .pointer (some ⟨gx, 0, none⟩)
              | 5 => x = .agg #[.bool q.cnt, .slice A3 q.cs.length k3, .string q.by', .string q.ord, .bool q.dwn, .int .i64 q.lim]
              | 6 => x = .agg #[.bool q.cnt, .slice A q.cs.length ca, .string q.by', .string q.ord, .bool q.dwn, .int .i64 q.lim]
              | 7 => x = .bool true
              | 8 => x = .bool false
              | 9 => x = .bool false
              | 10 => x = .bool false
              | 11 => x = .string S
              | 12 => x = .string (spW ++ S)
              | 13 => x = .string ((spW ++ S) ++ spW)
              | 14 => ∃ (A9 : Option Addr) (k9 : Nat), x = .agg #[.bool q.cnt, .slice A9 q.cs.length k9, .string q.by', .string q.ord, .bool q.dwn, .int .i64 q.lim, .int .i64 0, .int .i64 0] ∧ CdSl X (.slice A9 q.cs.length k9) q.cs
              | 15 => ∃ (A9 : Option Addr) (k9 : Nat), x = .agg #[.bool q.cnt, .slice A9 q.cs.length k9, .string q.by', .string q.ord, .bool q.dwn, .int .i64 q.lim] ∧ CdSl X (.slice A9 q.cs.length k9) q.cs
              | 16 => x = .agg #[.bool q.cnt, .slice A q.cs.length ca, .string q.by', .string q.ord, .bool q.dwn, .int .i64 q.lim]
              | 17 => x = .bool true
              | 18 => x = .bool false
              | 19 => x = .bool false
              | _ => True) (fun X => Below W6.heap.size W6 X) (fun X X' => Below X.heap.size X X') (by kernel_rfl) rfl ((Below.refl _ _).drew) ?monok ?stepk ?fink
            case monok =>
              intro i9 x X X' hi9 hG hS h
              match i9, hi9 with
              | 0, _ | 1, _ | 2, _ | 3, _ | 4, _ | 5, _ | 6, _ | 7, _ | 8, _ | 9, _ | 10, _ | 11, _ | 12, _ | 13, _ | 16, _ | 17, _ | 18, _ | 19, _ => exact h
              | 14, _ => obtain ⟨A9, k9, e9, hC9⟩ := h; exact ⟨A9, k9, e9, hC9.stayQ hS⟩
              | 15, _ => obtain ⟨A9, k9, e9, hC9⟩ := h; exact ⟨A9, k9, e9, hC9.stayQ hS⟩
              | n9 + 20, h9 => exact absurd h9 (by omega)
            case stepk =>
              intro i9 z X hi9 hG hd hu K hK
              have HU := hid hu
              clear hu
              obtain ⟨y0, y1, y2, y3, y4, y5⟩ := six_cells ((hG.block _ (lt_heap Y6.out)).trans Y6.out)
              obtain ⟨x0, x1, x2, x3, x4, x5, x6, x7⟩ := eight_cells ((hG.block _ (lt_heap X6.out)).trans X6.out)
              match i9, hi9 with
              | 0, _ =>
                refine op_go rfl rfl ?_
                go_simp
                exact hK.out _ z _ _ rfl rfl rfl hG (Below.refl _ _)
              | 1, _ =>
                have q0 : z 0 = .pointer (some ⟨gx, 7, none⟩) := hd 0 (by decide)
                refine op_go rfl rfl ?_
                go_simp
                exact hK.out _ (upd z 0 _) _ _ (upd_on rfl q0) rfl rfl hG (Below.refl _ _)
              | 2, _ =>
                have q1 : z 1 = .int .i64 0 := hd 1 (by decide)
                refine op_go rfl rfl ?_
                go_simp
                exact hK.out _ (upd z 1 _) _ _ (upd_on rfl q1) rfl rfl hG (Below.refl _ _)
              | 3, _ =>
                have q2 : z 2 = .bool false := hd 2 (by decide)
                refine op_go rfl rfl ?_
                go_simp
                exact hK.out _ (upd z 2 _) _ _ (upd_on rfl q2) rfl rfl hG (Below.refl _ _)
              | 4, _ =>
                have q3 : z 3 = .bool false := hd 3 (by decide)
                refine op_want rfl (by simp [Region.wanted, yielded, q3]) ?_
                go_simp
                exact hK.out _ (upd z 3 _) _ _ (upd_on rfl q3) rfl rfl hG (Below.refl _ _)
              | 5, _ =>
                have q3 : z 3 = .bool false := hd 3 (by decide)
                have q4 : z 4 = .pointer (some ⟨gx, 0, none⟩) := hd 4 (by decide)
                refine op_want rfl (by simp [Region.wanted, yielded, q3]) ?_
                go_simp
                exact hK.out _ (upd (upd z 3 _) 4 _) _ _ (upd_on (upd_on rfl q3) q4) rfl rfl hG (Below.refl _ _)
              | 6, _ =>
                have q3 : z 3 = .bool false := hd 3 (by decide)
                refine op_want rfl (by simp [Region.wanted, yielded, q3]) ?_
                go_simp
                exact hK.out _ (upd z 3 _) _ _ (upd_on rfl q3) rfl rfl hG (Below.refl _ _)
              | 7, _ =>
                have q3 : z 3 = .bool false := hd 3 (by decide)
                have q5 : z 5 = .agg #[.bool q.cnt, .slice A3 q.cs.length k3, .string q.by', .string q.ord, .bool q.dwn, .int .i64 q.lim] := hd 5 (by decide)
                have q6 : z 6 = .agg #[.bool q.cnt, .slice A q.cs.length ca, .string q.by', .string q.ord, .bool q.dwn, .int .i64 q.lim] := hd 6 (by decide)
                refine op_want rfl (by simp [Region.wanted, yielded, q3]) ?_
                go_simp
                refine (cL.out _ _ _ _ X (C6.out.stayQ hG) ((M6.out.stay hG).sl)).mono ?_
                rintro e X' ⟨rfl, hb'⟩
                exact hK.out _ (upd (upd (upd z 3 _) 5 _) 6 _) _ _ (upd_on (upd_on (upd_on rfl q3) q5) q6) rfl rfl (hG.trans (hb'.mono hG.size)) hb'
              | 8, _ =>
                have q3 : z 3 = .bool false := hd 3 (by decide)
                have q7 : z 7 = .bool true := hd 7 (by decide)
                refine op_want rfl (by simp [Region.wanted, yielded, q3]) ?_
                go_simp
                exact hK.out _ (upd (upd z 3 _) 7 _) _ _ (upd_on (upd_on rfl q3) q7) rfl rfl hG (Below.refl _ _)
              | 9, _ =>
                have q3 : z 3 = .bool false := hd 3 (by decide)
                have q8 : z 8 = .bool false := hd 8 (by decide)
                refine op_go rfl rfl ?_
                go_simp
                exact hK.out _ (upd (upd z 3 _) 8 _) _ _ (upd_on (upd_on rfl q3) q8) rfl rfl hG (Below.refl _ _)
              | 10, _ =>
                have q9 : z 9 = .bool false := hd 9 (by decide)
                refine op_go rfl rfl ?_
                go_simp
                exact hK.out _ (upd z 9 _) _ _ (upd_on rfl q9) rfl rfl hG (Below.refl _ _)
              | 11, _ =>
                have q10 : z 10 = .bool false := hd 10 (by decide)
                refine op_want rfl (by simp [Region.wanted, yielded, q10]) ?_
                go_simp
                exact hK.out _ (upd z 10 _) _ _ (upd_on rfl q10) rfl rfl hG (Below.refl _ _)
              | 12, _ =>
                have q10 : z 10 = .bool false := hd 10 (by decide)
                have q11 : z 11 = .string S := hd 11 (by decide)
                have hz9 : ¬ 9223372036854775807 < 1 + S.size := by omega
                refine op_want rfl (by simp [Region.wanted, yielded, q10]) ?_
                go_simp
                exact hK.out _ (upd (upd z 10 _) 11 _) _ _ (upd_on (upd_on rfl q10) q11) rfl rfl hG (Below.refl _ _)
              | 13, _ =>
                have q10 : z 10 = .bool false := hd 10 (by decide)
                have q12 : z 12 = .string (spW ++ S) := hd 12 (by decide)
                have hz9 : ¬ 9223372036854775807 < 1 + S.size + 1 := by omega
                refine op_want rfl (by simp [Region.wanted, yielded, q10]) ?_
                go_simp
                exact hK.out _ (upd (upd z 10 _) 12 _) _ _ (upd_on (upd_on rfl q10) q12) rfl rfl hG (Below.refl _ _)
              | 14, _ =>
                have q10 : z 10 = .bool false := hd 10 (by decide)
                have q13 : z 13 = .string ((spW ++ S) ++ spW) := hd 13 (by decide)
                refine op_want rfl (by simp [Region.wanted, yielded, q10]) ?_
                go_simp
                refine (cJ.out X (B6.out.trans (hG.mono B6.out.size))).mono ?_
                rintro e X' ⟨v9, he, ho, hb'⟩
                obtain ⟨A9, k9, rfl⟩ := ownB_form ho
                replace he : e = .returned (.agg #[.bool q.cnt, .slice A9 q.cs.length k9, .string q.by', .string q.ord, .bool q.dwn, .int .i64 q.lim, .int .i64 0, .int .i64 0]) := he
                subst he
                exact hK.out _ (upd (upd z 10 _) 13 _) _ _ (upd_on (upd_on rfl q10) q13) rfl ⟨A9, k9, rfl, cd_of_own ho⟩ (hG.trans (hb'.mono hG.size)) hb'
              | 15, _ =>
                have q10 : z 10 = .bool false := hd 10 (by decide)
                obtain ⟨A9, k9, q14, hC9⟩ : ∃ (A9 : Option Addr) (k9 : Nat), z 14 = .agg #[.bool q.cnt, .slice A9 q.cs.length k9, .string q.by', .string q.ord, .bool q.dwn, .int .i64 q.lim, .int .i64 0, .int .i64 0] ∧ CdSl X (.slice A9 q.cs.length k9) q.cs := hd 14 (by decide)
                have hfr := hf0 A9 k9 X
                clear hf0
                refine op_want rfl (by simp [Region.wanted, yielded, q10]) ?_
                go_simp
                exact hK.out _ (upd (upd z 10 _) 14 _) _ _ (upd_on (upd_on rfl q10) q14) rfl ⟨A9, k9, rfl, hC9⟩ hG (Below.refl _ _)
              | 16, _ =>
                have q10 : z 10 = .bool false := hd 10 (by decide)
                refine op_want rfl (by simp [Region.wanted, yielded, q10]) ?_
                go_simp
                exact hK.out _ (upd z 10 _) _ _ (upd_on rfl q10) rfl rfl hG (Below.refl _ _)
              | 17, _ =>
                have q10 : z 10 = .bool false := hd 10 (by decide)
                obtain ⟨A9, k9, q15, hC9⟩ : ∃ (A9 : Option Addr) (k9 : Nat), z 15 = .agg #[.bool q.cnt, .slice A9 q.cs.length k9, .string q.by', .string q.ord, .bool q.dwn, .int .i64 q.lim] ∧ CdSl X (.slice A9 q.cs.length k9) q.cs := hd 15 (by decide)
                have q16 : z 16 = .agg #[.bool q.cnt, .slice A q.cs.length ca, .string q.by', .string q.ord, .bool q.dwn, .int .i64 q.lim] := hd 16 (by decide)
                refine op_want rfl (by simp [Region.wanted, yielded, q10]) ?_
                go_simp
                refine (cL.out _ _ _ _ X (hC9) ((M6.out.stay hG).sl)).mono ?_
                rintro e X' ⟨rfl, hb'⟩
                exact hK.out _ (upd (upd (upd z 10 _) 15 _) 16 _) _ _ (upd_on (upd_on (upd_on rfl q10) q15) q16) rfl rfl (hG.trans (hb'.mono hG.size)) hb'
              | 18, _ =>
                have q10 : z 10 = .bool false := hd 10 (by decide)
                have q17 : z 17 = .bool true := hd 17 (by decide)
                refine op_want rfl (by simp [Region.wanted, yielded, q10]) ?_
                go_simp
                exact hK.out _ (upd (upd z 10 _) 17 _) _ _ (upd_on (upd_on rfl q10) q17) rfl rfl hG (Below.refl _ _)
              | 19, _ =>
                have q10 : z 10 = .bool false := hd 10 (by decide)
                have q18 : z 18 = .bool false := hd 18 (by decide)
                refine op_go rfl rfl ?_
                go_simp
                exact hK.out _ (upd (upd z 10 _) 18 _) _ _ (upd_on (upd_on rfl q10) q18) rfl rfl hG (Below.refl _ _)
              | n9 + 20, h9 => exact absurd h9 (by omega)
            case fink =>
              intro z X hG hd
              have q19 : z 19 = .bool false := hd 19 (by decide)
              generalize z 19 = s19 at *
              subst q19
              have B7 := hid (B6.out.trans (hG.mono B6.out.size))
              clear hG hd cL cJ hf0 nb0 B6 M6 X6 Y6 C6
              go_wp2_with fail
              go_meet
              exact B7.out
    case rest =>
      have B8 := hid hcut
      clear hcut B4 M4 X4 Htt Hqb hts e0
      go_wp2_with fail
      refine (cR.out wc B8.out).mono ?_
      rintro e W9 ⟨u, rfl, hus, hb9⟩
      have B9 := hid (B8.out.trans (hb9.mono B8.out.size))
      clear hb9 B8 cR
      have cI := hid (fun W (hb : Below w.heap.size w W) => implQueryRead_any (a := ae) u W (Er.out W hb) (Kn.out W hb))
      have cJ := hid (fun W => specQueryRead_any u W)
      have hto := hid (qoS_told u)
      have hsm := hid (qoS_small u)
      rw [← cntB_all] at hto
      generalize qoS u = R at *
      obtain ⟨p, n6, n7⟩ := R
      simp only at hto hsm
      go_wp2_with fail
      refine (cI.out _ B9.out).mono ?_
      rintro e W10 ⟨v9, he, ho, hb5⟩
      obtain ⟨A5, k5, rfl⟩ := ownB_form ho
      replace he : e = .returned (.agg #[.bool p.cnt, .slice A5 p.cs.length k5, .string p.by', .string p.ord, .bool p.dwn, .int .i64 p.lim, .int .i64 n6, .int .i64 n7]) := he
      subst he
      have hb6 := hb5.alloc hb5.size (.cells #[.bool p.cnt, .slice A5 p.cs.length k5, .string p.by', .string p.ord, .bool p.dwn, .int .i64 p.lim, .int .i64 n6, .int .i64 n7] 30)
      have PC := hid ((cd_of_own ho).stayQ ((Below.refl _ W10).alloc (Nat.le_refl _) (.cells #[.bool p.cnt, .slice A5 p.cs.length k5, .string p.by', .string p.ord, .bool p.dwn, .int .i64 p.lim, .int .i64 n6, .int .i64 n7] 30)))
      have PX : Hid ((W10.alloc (.cells #[.bool p.cnt, .slice A5 p.cs.length k5, .string p.by', .string p.ord, .bool p.dwn, .int .i64 p.lim, .int .i64 n6, .int .i64 n7] 30)).heap[W10.heap.size]? = some (.cells (qoL p (.slice A5 p.cs.length k5) n6 n7).toArray 30 (0, 0))) := hid (heap_alloc_new W10 _)
      have B11 := hid (B9.out.trans (hb6.mono B9.out.size))
      clear ho hb5 hb6 B9
      go_upto_region 20 with fail
      generalize W10.alloc (.cells #[.bool p.cnt, .slice A5 p.cs.length k5, .string p.by', .string p.ord, .bool p.dwn, .int .i64 p.lim, .int .i64 n6, .int .i64 n7] 30) = W11 at *
      generalize W10.heap.size = gy at *
      go_wp2_with fail
      refine (cJ.out _).mono ?_
      rintro e W12 ⟨v9, he, ho, hb5⟩
      obtain ⟨A6, k6, rfl⟩ := ownB_form ho
      replace he : e = .returned (.agg #[.bool p.cnt, .slice A6 p.cs.length k6, .string p.by', .string p.ord, .bool p.dwn, .int .i64 p.lim, .int .i64 n6, .int .i64 n7]) := he
      subst he
      have hb6 := hb5.alloc hb5.size (.cells #[.bool p.cnt, .slice A6 p.cs.length k6, .string p.by', .string p.ord, .bool p.dwn, .int .i64 p.lim, .int .i64 n6, .int .i64 n7] 30)
      have RC := hid ((cd_of_own ho).stayQ ((Below.refl _ W12).alloc (Nat.le_refl _) (.cells #[.bool p.cnt, .slice A6 p.cs.length k6, .string p.by', .string p.ord, .bool p.dwn, .int .i64 p.lim, .int .i64 n6, .int .i64 n7] 30)))
      have RX : Hid ((W12.alloc (.cells #[.bool p.cnt, .slice A6 p.cs.length k6, .string p.by', .string p.ord, .bool p.dwn, .int .i64 p.lim, .int .i64 n6, .int .i64 n7] 30)).heap[W12.heap.size]? = some (.cells (qoL p (.slice A6 p.cs.length k6) n6 n7).toArray 30 (0, 0))) := hid (heap_alloc_new W12 _)
      have B13 := hid (B11.out.trans (hb6.mono B11.out.size))
      have PC2 := hid (PC.out.stayQ hb6)
      have PX2 := hid ((hb6.block _ (lt_heap PX.out)).trans PX.out)
      clear PC PX
      clear ho hb5 hb6 B11
      go_upto_region 21 with fail
      generalize W12.alloc (.cells #[.bool p.cnt, .slice A6 p.cs.length k6, .string p.by', .string p.ord, .bool p.dwn, .int .i64 p.lim, .int .i64 n6, .int .i64 n7] 30) = W13 at *
      generalize W12.heap.size = gz at *
      obtain ⟨x0, x1, x2, x3, x4, x5, x6, x7⟩ := eight_cells PX2.out
      obtain ⟨z0, z1, z2, z3, z4, z5, z6, z7⟩ := eight_cells RX.out
      have e7 : (n7 != n7) = false := by simp
      have e6 : (n6 != n6) = false := by simp
      have cL := hid (lwQuery_same p A5 A6 k5 k6 W13 PC2.out RC.out (by have := hsm.out.1; unfold maxLen; omega))
      unfold qyV at cL
      go_wp2_with fail
      refine cL.out.mono ?_
      rintro e W14 ⟨rfl, hb14⟩
      have B14 := hid (B13.out.trans (hb14.mono B13.out.size))
      have C14 := hid (PC2.out.stayQ hb14)
      have X14 := hid ((hb14.block _ (lt_heap PX2.out)).trans PX2.out)
      clear hb14 B13 PC2 PX2 RC RX cL e7 e6 x0 x1 x2 x3 x4 x5 x6 x7 z0 z1 z2 z3 z4 z5 z6 z7 cI cJ
      go_wp2_with fail
      go_loopw [13, 14] (fun nv iv wr => ∃ k : Nat, iv = .int .i64 (k : Int) ∧ k ≤ u.size ∧ nv = .int .i64 (cntB u k : Int) ∧ wr = W14) (fun _ iv _ => u.size - (intOf iv).toNat)
      case atStart => exact ⟨0, rfl, Nat.zero_le _, rfl, rfl⟩
      case round =>
        obtain ⟨k, rfl, hk, rfl, rfl⟩ := hrel
        by_cases hlt : k < u.size
        · have zk : (k : Int) < (u.size : Int) := by omega
          have hs := hid (cntB_succ hlt)
          have hcl := cntB_le u k
          generalize cntB u k = N at *
          have wr1 : IntKind.i64.wrap ((N : Int) + 1) = (N : Int) + 1 := by rw [IntKind.wrap_i64]; omega
          by_cases h32 : u[k] = 32
          · have q1 : ((u[k].toNat : Int) == 32) = true := by rw [h32]; rfl
            have q2 : ((u[k].toNat : Int) != 32) = false := by rw [h32]; rfl
            have H32 := hid h32
            clear h32
            go_wp2_with fail
            go_roundw
            case rel => exact ⟨k + 1, by go_num, by omega, by rw [hs.out, if_neg (fun h => h.1 H32.out)]; rfl, by trivial⟩
            case measure => simp [intOf]; omega
          · have hn32 : ¬ ((u[k].toNat : Int) = 32) := by intro h9; exact h32 (UInt8.toNat_inj.1 (by have : (32 : UInt8).toNat = 32 := rfl; omega))
            have q1 : ((u[k].toNat : Int) == 32) = false := by simpa using hn32
            have q2 : ((u[k].toNat : Int) != 32) = true := by simpa using hn32
            clear hn32
            have H32 := hid h32
            clear h32
            cases k with
            | zero =>
              go_wp2_with fail
              go_roundw
              case rel => exact ⟨1, by go_num, by omega, by rw [hs.out, if_pos ⟨H32.out, .inl rfl⟩]; go_num, by trivial⟩
              case measure => simp [intOf]; omega
            | succ j =>
              have wr2 : IntKind.i64.wrap ((j : Int) + 1 - 1) = (j : Int) := by rw [IntKind.wrap_i64]; omega
              have hj : j < u.size := by omega
              have zj : (j : Int) < (u.size : Int) := by omega
              have q3 : (((j : Int) + 1) == 0) = false := by simp; omega
              by_cases h33 : u[j] = 32
              · have q4 : ((u[j].toNat : Int) == 32) = true := by rw [h33]; rfl
                have H33 := hid h33
                clear h33
                go_wp2_with fail
                go_roundw
                case rel => exact ⟨j + 1 + 1, by go_num, by omega, by rw [hs.out, if_pos ⟨H32.out, .inr ⟨by omega, H33.out⟩⟩]; go_num, by trivial⟩
                case measure => simp [intOf]; omega
              · have hn33 : ¬ ((u[j].toNat : Int) = 32) := by intro h9; exact h33 (UInt8.toNat_inj.1 (by have : (32 : UInt8).toNat = 32 := rfl; omega))
                have q4 : ((u[j].toNat : Int) == 32) = false := by simpa using hn33
                clear hn33
                have H33 := hid h33
                clear h33
                go_wp2_with fail
                go_roundw
                case rel => exact ⟨j + 1 + 1, by go_num, by omega, by rw [hs.out, if_neg (fun h => h.2.elim (fun e => by omega) (fun ⟨_, e⟩ => H33.out e))]; rfl, by trivial⟩
                case measure => simp [intOf]; omega
        · obtain rfl : k = u.size := by omega
          have hto2 := hid hto.out.2
          have hle := hto.out.1
          have hcl := cntB_le u u.size
          clear hto
          generalize cntB u u.size = N at *
          obtain ⟨x0, x1, x2, x3, x4, x5, x6, x7⟩ := eight_cells X14.out
          have q1 : decide (n6 ≤ (N : Int)) = true := decide_eq_true hle
          by_cases h0 : n7 = 0
          · have q2 : (n7 != 0) = false := by simp [h0]
            have cP := hid (implQueryRight_any p A5 k5 _ C14.out (fun c hc => by have := hsm.out.2 c hc; unfold maxLen; omega) (by have := hsm.out.1; unfold maxLen; omega) (Kn.out _ B14.out))
            rw [hto2.out h0] at cP
            unfold qyV at cP
            clear h0
            go_wp2_with fail
            refine cP.out.mono ?_
            rintro e W15 ⟨rfl, hb15⟩
            have B15 := hid (B14.out.trans (hb15.mono B14.out.size))
            clear hb15
            go_wp2_with fail
            go_ret
            exact ⟨rfl, B15.out⟩
          · have q2 : (n7 != 0) = true := by simp [h0]
            clear h0
            go_wp2_with fail
            go_ret
            exact ⟨rfl, B14.out⟩
end Go.Proofs.YtimlnbfalnkmhaaGreatDoor
