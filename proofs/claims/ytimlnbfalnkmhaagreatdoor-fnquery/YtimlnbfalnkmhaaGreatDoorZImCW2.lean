/-
  Texts put together: ImCW, ImQT.
-/
import Derived.Test.YtimlnbfalnkmhaaGreatDoorZImDg2
import Derived.Test.YtimlnbfalnkmhaaGreatDoorZQrB3
import Derived.Deep.CutBlock
/-
  Queries: what impl.condWords answers: a contract over the seat's program.
-/
namespace Go.Proofs.YtimlnbfalnkmhaaGreatDoor
open Go.RowKit
set_option linter.unusedVariables false

theorem csW_snoc (l : List Cd) (c : Cd) : csW (l ++ [c]) = csW l ++ cdW (if l.length = 0 then qWhere else qAnd) c := by
  cases l with
  | nil => simp [csW, mrW]
  | cons d r => simp [csW, mrW]
theorem csW_take {l : List Cd} {k : Nat} (h : k < l.length) : csW (l.take (k + 1)) = csW (l.take k) ++ cdW (if k = 0 then qWhere else qAnd) l[k] := by
  rw [List.take_succ_eq_append_getElem h, csW_snoc, List.length_take, Nat.min_eq_left (by omega)]
theorem four_new {X : World} {g : Nat} {x0 x1 x2 x3 : Value} {T : TypeId} (h : X.heap[g]? = some (.cells #[x0, x1, x2, x3] T (0, 0))) : ∀ j u, [x0, x1, x2, x3][j]? = some u → X.cell? ((⟨g, 0, none⟩ : Addr).add j) = some u := by
  intro j u hj
  rw [Addr.add_lit, Lib.cell_of_heap h, Nat.zero_add, ← hj]
  simp
set_option maxRecDepth 100000 in
set_option maxHeartbeats 4000000 in
theorem condWords_any (cs : List Cd) (v : Value) (w : World) (hC : CdSl w v cs) (hn : cs.length ≤ 6) (hT : PowTab w) (hB : ∀ c ∈ cs, cdB c = true) :
    Calls Tryz.prog 84 #[v] w fun e w' => ∃ u, e = .returned u ∧ w'.ownsRow w.heap.size 9 1 u (csW cs).length ((csW cs).map Value.string) ∧ Below w.heap.size w w' := by
  have mixed : Tryz.prog.follows .mixedOrders = true := by kernel_rfl
  obtain ⟨i0, hi, hz0, hz1, hz2⟩ := info_parts Tryz.infoStr
  have hv : ∃ a c, v = .slice a cs.length c := by
    rcases hC with ⟨a, c, rfl, rfl⟩ | ⟨g, o, c, rfl, _, _⟩
    · exact ⟨a, c, rfl⟩
    · exact ⟨_, c, rfl⟩
  obtain ⟨a0, c0, rfl⟩ := hv
  have HC := hid hC
  have HT := hid hT
  have HB := hid hB
  clear hC hT hB
  have hq0 : (0 : Int) ≤ (cs.length : Int) := by omega
  go_enter Tryz.func84, Tryz.ntmps84
  go_wp2
  go_loopw [3, 4, 9] (fun v lv iv wr => ∃ k : Nat, iv = .int .i64 (k : Int) ∧ k ≤ cs.length ∧ lv = .string (if k = 0 then qWhere else qAnd) ∧ wr.ownsRow w.heap.size 9 1 v (4 * k) ((csW (cs.take k)).map Value.string) ∧ Below w.heap.size w wr) (fun _ _ iv _ => cs.length - (intOf iv).toNat)
  case atStart => exact ⟨0, rfl, Nat.zero_le _, rfl, ⟨rfl, .inl ⟨rfl, rfl⟩⟩, Below.refl _ _⟩
  case round =>
    obtain ⟨k, rfl, hk, rfl, hown, hbel⟩ := hrel
    obtain ⟨va, vc, rfl⟩ := ownB_form hown
    have O := hid hown
    have B := hid hbel
    have hsz := hbel.size
    clear hown hbel
    by_cases hlt : k < cs.length
    · have zk : (k : Int) < (cs.length : Int) := by omega
      obtain ⟨g, o, rfl, hE⟩ := (HC.out.stayQ B.out).rowQ (by omega)
      obtain ⟨z0, z1, z2, z3⟩ := hE.2 k hlt
      have hcb := HB.out _ (List.getElem_mem hlt)
      have hsn := hid (csW_take hlt)
      clear hE
      generalize cs[k] = c at *
      have hNr : numF c.fld = true → 0 ≤ c.n ∧ c.n ≤ 1000000 := fun h => by rw [cdB_num h] at hcb; simp only [Bool.and_eq_true, decide_eq_true_eq] at hcb; exact hcb.2.2.2
      have c1 := hid (fun W => condOf_whole c W)
      have c2 := hid (fun W hW => operand_any c W hW hNr)
      clear hNr hcb
      obtain ⟨f, ox, t, n⟩ := c
      simp only at z0 z1 z2 z3
      generalize hld : (if k = 0 then qWhere else qAnd) = ld at *
      clear hld
      unfold cdW at hsn
      simp only at hsn
      generalize opnd ⟨f, ox, t, n⟩ = op at *
      have hb5 : Below wr.heap.size wr (wr.alloc (.cells #[.string f, .string ox, .string t, .int .i64 n] 67)) := (Below.refl _ _).alloc (Nat.le_refl _) _
      have HB5 := hid hb5
      have HA := hid (heap_alloc_new wr (.cells #[.string f, .string ox, .string t, .int .i64 n] 67))
      clear hb5
      go_upto_region 6 with fail
      generalize wr.alloc (.cells #[.string f, .string ox, .string t, .int .i64 n] 67) = W5 at *
      clear z0 z1 z2 z3
      have z0 : W5.cell? ⟨wr.heap.size, 0, none⟩ = some (.string f) := by rw [Lib.cell_of_heap HA.out]; rfl
      have z1 : W5.cell? ⟨wr.heap.size, 1, none⟩ = some (.string ox) := by rw [Lib.cell_of_heap HA.out]; rfl
      have z2 : W5.cell? ⟨wr.heap.size, 2, none⟩ = some (.string t) := by rw [Lib.cell_of_heap HA.out]; rfl
      have z3 : W5.cell? ⟨wr.heap.size, 3, none⟩ = some (.int .i64 n) := by rw [Lib.cell_of_heap HA.out]; rfl
      have hl5 := lt_heap HA.out
      have O5 := hid (ownB_stay O.out HB5.out)
      have B5 := hid (B.out.trans (HB5.out.mono hsz))
      have T5 := hid (HT.out.below B5.out (Nat.le_refl _))
      have hs5 := B5.out.size
      clear HB5 HA O B
      generalize hdb : wr.heap.size = gb at *
      clear hdb
      refine wp_region_two mixed 10 [[],[],[],[2],[],[4],[],[6],[6,7],[1,2,3,4,5,6,7,8],[0,1,2,3,4,5,6,7,8,9],[0,1,2,3,4,5,6,7,8,9,10]] (fun v => { tmps := #[.slice (some ⟨g, o, none⟩) cs.length c0, undef, .slice none 0 0, .slice va (4 * k) vc, .string ld, undef, .pointer (some ⟨gb, 0, none⟩), .slice (some ⟨g, o, none⟩) cs.length c0, .int .i64 (cs.length : Int), .int .i64 (k : Int), .bool true, .pointer (some ⟨g, o + k * 4, none⟩), .agg #[.string f, .string ox, .string t, .int .i64 n], v 0, v 1, v 2, v 3, v 4, v 5, v 6, v 7, v 8, v 9, u23, u24, undef], defers := [] }) (fun i9 => match i9 with | 0 => u13 | 1 => u14 | 2 => u15 | 3 => u16 | 4 => u17 | 5 => u18 | 6 => u19 | 7 => u20 | 8 => u21 | 9 => u22 | _ => undef) (fun i9 x X => match i9 with
        | 0 => x = .slice va (4 * k) vc
        | 1 => x = .string ld
        | 2 => x = .pointer (some ⟨gb, 0, none⟩)
        | 3 => x = .string f
        | 4 => x = .pointer (some ⟨gb, 1, none⟩)
        | 5 => x = .string ox
        | 6 => x = .agg #[.string f, .string ox, .string t, .int .i64 n]
        | 7 => x = .iface (cdT ⟨f, ox, t, n⟩) (.agg #[.string f, .string ox, .string t, .int .i64 n])
        | 8 => x = .string op
        | 9 => ∃ g9 : Nat, x = .slice (some ⟨g9, 0, none⟩) 4 4 ∧ W5.heap.size ≤ g9 ∧ X.heap[g9]? = some (.cells #[.string ld, .string f, .string ox, .string op] 9 (0, 0))
        | _ => True) (fun X => Below W5.heap.size W5 X) (fun X X' => Below X.heap.size X X') (by kernel_rfl) rfl ((Below.refl _ _).drew) ?mono ?step ?last
      case mono =>
        intro i9 x X X' hi9 hG hS h
        match i9, hi9 with
        | 0, _ | 1, _ | 2, _ | 3, _ | 4, _ | 5, _ | 6, _ | 7, _ | 8, _ => exact h
        | 9, _ => obtain ⟨g9, e9, hl9, hG9⟩ := h; exact ⟨g9, e9, hl9, (hS.block _ (lt_heap hG9)).trans hG9⟩
      case step =>
        intro i9 v X hi9 hG hd hu K hK
        have HU := hid hu
        clear hu
        have e0 := (hG.cell (p := ⟨gb, 0, none⟩) hl5).trans z0
        have e1 := (hG.cell (p := ⟨gb, 1, none⟩) hl5).trans z1
        have e2 := (hG.cell (p := ⟨gb, 2, none⟩) hl5).trans z2
        have e3 := (hG.cell (p := ⟨gb, 3, none⟩) hl5).trans z3
        match i9, hi9 with
        | 0, _ =>
          refine op_go rfl rfl ?_
          go_simp
          exact hK.out _ v _ _ rfl rfl rfl hG (Below.refl _ _)
        | 1, _ =>
          refine op_go rfl rfl ?_
          go_simp
          exact hK.out _ v _ _ rfl rfl rfl hG (Below.refl _ _)
        | 2, _ =>
          refine op_go rfl rfl ?_
          go_simp
          exact hK.out _ v _ _ rfl rfl rfl hG (Below.refl _ _)
        | 3, _ =>
          have q2 : v 2 = .pointer (some ⟨gb, 0, none⟩) := hd 2 (by decide)
          refine op_go rfl rfl ?_
          go_simp
          exact hK.out _ (upd v 2 _) _ _ (upd_on rfl q2) rfl rfl hG (Below.refl _ _)
        | 4, _ =>
          refine op_go rfl rfl ?_
          go_simp
          exact hK.out _ v _ _ rfl rfl rfl hG (Below.refl _ _)
        | 5, _ =>
          have q4 : v 4 = .pointer (some ⟨gb, 1, none⟩) := hd 4 (by decide)
          refine op_go rfl rfl ?_
          go_simp
          exact hK.out _ (upd v 4 _) _ _ (upd_on rfl q4) rfl rfl hG (Below.refl _ _)
        | 6, _ =>
          refine op_go rfl rfl ?_
          go_simp
          exact hK.out _ v _ _ rfl rfl rfl hG (Below.refl _ _)
        | 7, _ =>
          have q6 : v 6 = .agg #[.string f, .string ox, .string t, .int .i64 n] := hd 6 (by decide)
          refine op_go rfl rfl ?_
          go_simp
          refine (c1.out X).mono ?_
          rintro e X' ⟨rfl, hb'⟩
          exact hK.out _ (upd v 6 _) _ _ (upd_on rfl q6) rfl rfl (hG.trans (hb'.mono hG.size)) hb'
        | 8, _ =>
          have q7 : v 7 = .iface (cdT ⟨f, ox, t, n⟩) (.agg #[.string f, .string ox, .string t, .int .i64 n]) := hd 7 (by decide)
          refine op_go rfl rfl ?_
          go_simp
          refine (c2.out X (T5.out.below hG (Nat.le_refl _))).mono ?_
          rintro e X' ⟨rfl, hb'⟩
          exact hK.out _ (upd v 7 _) _ _ (upd_on rfl q7) rfl rfl (hG.trans (hb'.mono hG.size)) hb'
        | 9, _ =>
          have q1 : v 1 = .string ld := hd 1 (by decide)
          have q3 : v 3 = .string f := hd 3 (by decide)
          have q5 : v 5 = .string ox := hd 5 (by decide)
          have q8 : v 8 = .string op := hd 8 (by decide)
          refine op_go rfl rfl ?_
          go_simp
          exact hK.out _ (upd (upd (upd (upd v 1 _) 3 _) 5 _) 8 _) _ _ (upd_on (upd_on (upd_on (upd_on rfl q1) q3) q5) q8) rfl ⟨X.heap.size, rfl, hG.size, heap_alloc_new X _⟩ (hG.trans (((Below.refl _ X).alloc (Nat.le_refl _) _).mono hG.size)) ((Below.refl _ X).alloc (Nat.le_refl _) _)
      case last =>
        intro v X hG hd
        have e0 := (hG.cell (p := ⟨gb, 0, none⟩) hl5).trans z0
        have e1 := (hG.cell (p := ⟨gb, 1, none⟩) hl5).trans z1
        have e2 := (hG.cell (p := ⟨gb, 2, none⟩) hl5).trans z2
        have e3 := (hG.cell (p := ⟨gb, 3, none⟩) hl5).trans z3
        have q0 : v 0 = .slice va (4 * k) vc := hd 0 (by decide)
        obtain ⟨g9, q9, hl9, hG9⟩ : ∃ g9 : Nat, v 9 = .slice (some ⟨g9, 0, none⟩) 4 4 ∧ W5.heap.size ≤ g9 ∧ X.heap[g9]? = some (.cells #[.string ld, .string f, .string ox, .string op] 9 (0, 0)) := hd 9 (by decide)
        refine op_go rfl rfl ?_
        have OX := ownB_stay O5.out hG
        have BX := B5.out.trans (hG.mono hs5)
        have hsX := BX.size
        refine wp_append_own X (.tmp 13) (.tmp 22) 64 rfl w.heap.size 9 i0 _ 1 16 Tryz.underlying64 hi hz0 hz1 hz2 rfl (by decide) _ (4 * k) _ (by exact q0) OX ⟨g9, 0, none⟩ 4 4 [.string ld, .string f, .string ox, .string op] (by exact q9) rfl (four_new hG9) (by intro u hu; simp at hu; rcases hu with rfl | rfl | rfl | rfl <;> rfl) (by unfold maxLen; omega) (by omega) hsX ?_
        intro v' w1 ho hg _
        have B1 := hid (BX.grown hg hsX (fun j e => (OX.lt j e).1))
        have O1 : Hid (w1.ownsRow w.heap.size 9 1 v' (4 * (k + 1)) ((csW (cs.take (k + 1))).map Value.string)) := hid (by rw [hsn.out, List.map_append]; exact ho)
        clear ho hg OX BX O5 B5 T5 c1 c2 hd
        refine op_go rfl rfl ?_
        go_simp
        go_wp2_with fail
        go_roundw
        case rel => exact ⟨k + 1, by go_num, by omega, rfl, O1.out, B1.out⟩
        case measure => simp [intOf]; omega
    · obtain rfl : k = cs.length := by omega
      have O1 : Hid (wr.ownsRow w.heap.size 9 1 (.slice va (4 * cs.length) vc) (csW cs).length ((csW cs).map Value.string)) := hid (by have := O.out; rw [List.take_length] at this; rw [csW_len]; exact this)
      clear O HC HB
      generalize (if cs.length = 0 then qWhere else qAnd) = ld at *
      go_wp2
      go_ret
      exact ⟨_, rfl, O1.out, B.out⟩
end Go.Proofs.YtimlnbfalnkmhaaGreatDoor

/-
  Queries: what impl.countRight, findRight, QueryRight answer: contracts over the seat's program.
-/
namespace Go.Proofs.YtimlnbfalnkmhaaGreatDoor
open Go.RowKit Go.Lib
set_option linter.unusedVariables false

theorem cells6 {w : World} {X : World} {b : Nat} {x0 x1 x2 x3 x4 x5 : Value} {T : TypeId} {f : Nat × Nat} (h : X.heap[b]? = some (.cells #[x0, x1, x2, x3, x4, x5] T f)) : X.cell? ⟨b, 0, none⟩ = some x0 ∧ X.cell? ⟨b, 1, none⟩ = some x1 ∧ X.cell? ⟨b, 2, none⟩ = some x2 ∧ X.cell? ⟨b, 3, none⟩ = some x3 ∧ X.cell? ⟨b, 4, none⟩ = some x4 ∧ X.cell? ⟨b, 5, none⟩ = some x5 :=
  ⟨by rw [Lib.cell_of_heap h]; rfl, by rw [Lib.cell_of_heap h]; rfl, by rw [Lib.cell_of_heap h]; rfl, by rw [Lib.cell_of_heap h]; rfl, by rw [Lib.cell_of_heap h]; rfl, by rw [Lib.cell_of_heap h]; rfl⟩
set_option maxRecDepth 100000 in
set_option maxHeartbeats 2000000 in
theorem countRight_any (q : Qy) (a : Option Addr) (k : Nat) (w : World) (hc : q.cnt = true) :
    Calls Tryz.prog 38 #[qyV q a k] w fun e w' => e = .returned (.bool (byB q)) ∧ Below w.heap.size w w' := by
  obtain ⟨cnt, cs, by', ord, dwn, lim⟩ := q
  simp only at hc
  subst hc
  unfold qyV byB
  simp only [if_true]
  have c1 := fun w => isField_any by' w
  have e1 : (by'.toList == []) = decide (by' = noW) := lit_b by' [] noW rfl
  have e2 : (ord.toList == []) = decide (ord = noW) := lit_b ord [] noW rfl
  have e3 : (lim == -1) = decide (lim = -1) := rfl
  generalize decide (by' = noW) = b1 at *
  generalize isF by' = b2 at *
  generalize decide (ord = noW) = b3 at *
  generalize decide (lim = -1) = b5 at *
  have hb0 : Below w.heap.size w (w.alloc (.cells #[.bool true, .slice a cs.length k, .string by', .string ord, .bool dwn, .int .i64 lim] 25)) := (Below.refl _ _).alloc (Nat.le_refl _) _
  have HB0 := hid hb0
  clear hb0
  cases b1 <;> cases b2 <;> cases b3 <;> cases dwn
  all_goals (
    go_enter Tryz.func38, Tryz.ntmps38
    go_wp2_with (go_at_call 88; refine (c1 _).mono ?_; rintro e w1 ⟨rfl, rfl⟩)
    go_ret
    exact ⟨rfl, HB0.out⟩)
set_option maxRecDepth 100000 in
set_option maxHeartbeats 2000000 in
theorem findRight_any (q : Qy) (a : Option Addr) (k : Nat) (w : World) (hc : q.cnt = false) :
    Calls Tryz.prog 39 #[qyV q a k] w fun e w' => e = .returned (.bool (byB q)) ∧ Below w.heap.size w w' := by
  obtain ⟨cnt, cs, by', ord, dwn, lim⟩ := q
  simp only at hc
  subst hc
  unfold qyV byB
  simp only [Bool.false_eq_true, if_false]
  have c1 := fun w => isNumberField_any ord w
  have e1 : (by'.toList == []) = decide (by' = noW) := lit_b by' [] noW rfl
  have e2 : (ord.toList == []) = decide (ord = noW) := lit_b ord [] noW rfl
  generalize decide (by' = noW) = b1 at *
  generalize decide (ord = noW) = b3 at *
  generalize numF ord = b4 at *
  have e5 := hid (rfl : decide (-1 ≤ lim) = decide (-1 ≤ lim))
  generalize hb5 : decide (-1 ≤ lim) = b5 at *
  generalize hb6 : decide (lim ≤ 200) = b6 at *
  have hb0 : Below w.heap.size w (w.alloc (.cells #[.bool false, .slice a cs.length k, .string by', .string ord, .bool dwn, .int .i64 lim] 25)) := (Below.refl _ _).alloc (Nat.le_refl _) _
  have HB0 := hid hb0
  clear hb0 e5
  cases b1 <;> cases b3 <;> cases b4 <;> cases dwn <;> cases b5
  all_goals (
    go_enter Tryz.func39, Tryz.ntmps39
    go_wp2_with (go_at_call 89; refine (c1 _).mono ?_; rintro e w1 ⟨rfl, rfl⟩)
    go_ret
    exact ⟨rfl, HB0.out⟩)
set_option maxRecDepth 100000 in
set_option maxHeartbeats 2000000 in
theorem implQueryRight_any (q : Qy) (a : Option Addr) (k : Nat) (w : World) (hC : CdSl w (.slice a q.cs.length k) q.cs) (hF : ∀ c ∈ q.cs, c.wrd.size ≤ maxLen) (hn : q.cs.length ≤ maxLen) (hK : KNames w) :
    Calls Tryz.prog 9 #[qyV q a k] w fun e w' => e = .returned (.bool (qyB q)) ∧ Below w.heap.size w w' := by
  have hq : Hid (qyB q = (decide (q.cs.length ≤ 6) && q.cs.all cdB && byB q)) := hid (by unfold qyB; rw [Bool.and_assoc])
  have cN := fun W h => countRight_any q a k W h
  have cI := fun W h => findRight_any q a k W h
  have hb0 : Below w.heap.size w (w.alloc (.cells #[.bool q.cnt, .slice a q.cs.length k, .string q.by', .string q.ord, .bool q.dwn, .int .i64 q.lim] 25)) := (Below.refl _ _).alloc (Nat.le_refl _) _
  have HB0 := hid hb0
  have cR := condsRight_any q.cs _ _ (hC.stayQ hb0) hn (hK.below hb0 (Nat.le_refl _)) hF
  have HA := hid (heap_alloc_new w (.cells #[.bool q.cnt, .slice a q.cs.length k, .string q.by', .string q.ord, .bool q.dwn, .int .i64 q.lim] 25))
  clear hb0 hC hF hK hn
  generalize qyB q = qb at *
  generalize byB q = bb at *
  obtain ⟨cnt, cs, by', ord, dwn, lim⟩ := q
  unfold qyV at cN cI ⊢
  simp only at cR cN cI hq HB0 HA ⊢
  have K := hid (show ∀ X, Below (w.alloc (.cells #[.bool cnt, .slice a cs.length k, .string by', .string ord, .bool dwn, .int .i64 lim] 25)).heap.size (w.alloc (.cells #[.bool cnt, .slice a cs.length k, .string by', .string ord, .bool dwn, .int .i64 lim] 25)) X → X.cell? ⟨w.heap.size, 0, none⟩ = some (.bool cnt) ∧ X.cell? ⟨w.heap.size, 1, none⟩ = some (.slice a cs.length k) ∧ X.cell? ⟨w.heap.size, 2, none⟩ = some (.string by') ∧ X.cell? ⟨w.heap.size, 3, none⟩ = some (.string ord) ∧ X.cell? ⟨w.heap.size, 4, none⟩ = some (.bool dwn) ∧ X.cell? ⟨w.heap.size, 5, none⟩ = some (.int .i64 lim) ∧ Below w.heap.size w X from fun X hX => by
    obtain ⟨x0, x1, x2, x3, x4, x5⟩ := cells6 (w := w) ((hX.block _ (lt_heap HA.out)).trans HA.out)
    exact ⟨x0, x1, x2, x3, x4, x5, HB0.out.trans (hX.mono HB0.out.size)⟩)
  clear HA HB0
  generalize hg : (decide (cs.length ≤ 6) && cs.all cdB) = g at *
  clear hg
  have CR := hid cR
  have CN := hid cN
  have CI := hid cI
  clear cR cN cI
  cases g with
  | false =>
    go_enter Tryz.func9, Tryz.ntmps9
    go_wp2_with (go_at_call 37; refine CR.out.mono ?_; rintro e w1 ⟨rfl, hb⟩; obtain ⟨x0, x1, x2, x3, x4, x5, hbw⟩ := K.out _ hb; have HBW := hid hbw; clear hb hbw)
    go_ret
    exact ⟨by rw [hq.out]; rfl, HBW.out⟩
  | true =>
    cases cnt with
    | true =>
      go_enter Tryz.func9, Tryz.ntmps9
      go_wp2_with (first | (go_at_call 37; refine CR.out.mono ?_; rintro e w1 ⟨rfl, hb⟩; obtain ⟨x0, x1, x2, x3, x4, x5, hbw⟩ := K.out _ hb; have HBW := hid hbw; clear hb hbw) | (go_at_call 38; refine (CN.out _ (by trivial)).mono ?_; rintro e w2 ⟨rfl, hb⟩; have HBX := hid (HBW.out.trans (hb.mono HBW.out.size)); clear hb))
      go_ret
      exact ⟨by rw [hq.out]; rfl, HBX.out⟩
    | false =>
      go_enter Tryz.func9, Tryz.ntmps9
      go_wp2_with (first | (go_at_call 37; refine CR.out.mono ?_; rintro e w1 ⟨rfl, hb⟩; obtain ⟨x0, x1, x2, x3, x4, x5, hbw⟩ := K.out _ hb; have HBW := hid hbw; clear hb hbw) | (go_at_call 39; refine (CI.out _ (by trivial)).mono ?_; rintro e w2 ⟨rfl, hb⟩; have HBX := hid (HBW.out.trans (hb.mono HBW.out.size)); clear hb))
      go_ret
      exact ⟨by rw [hq.out]; rfl, HBX.out⟩
end Go.Proofs.YtimlnbfalnkmhaaGreatDoor
