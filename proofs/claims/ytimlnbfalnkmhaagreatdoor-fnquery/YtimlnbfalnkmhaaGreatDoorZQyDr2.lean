/-
  Texts put together: QyDr, SqQ.
-/
import Derived.Test.YtimlnbfalnkmhaaGreatDoorZCdRow5
import Derived.Test.YtimlnbfalnkmhaaGreatDoorZKd2
import Derived.Test.YtimlnbfalnkmhaaGreatDoorZQpF4
import Derived.Deep.CutBlock
/-
  Draws: a Query amid its draw: the source, the Query in its box, its row of Conds. Of no function.
-/
namespace Go.Proofs.YtimlnbfalnkmhaaGreatDoor
open Go.RowKit
set_option linter.unusedVariables false

abbrev qyL (q : Qy) (u : Value) : List Value := [.bool q.cnt, u, .string q.by', .string q.ord, .bool q.dwn, .int .i64 q.lim]
def qyZ : Qy := ⟨false, [], ⟨#[]⟩, ⟨#[]⟩, false, 0⟩
/-- A small Query. -/
def QySm (q : Qy) : Prop := q.cs.length ≤ 10 ∧ (∀ c ∈ q.cs, CdSm c) ∧ q.by'.size ≤ 20 ∧ q.ord.size ≤ 20
/-- Amid the draw of a Query. -/
structure MdQ (w W : World) (b g n : Nat) (V u : Value) (q : Qy) : Prop where
  dr : Drw W b V n
  hd : W.heap[g]? = some (.cells (qyL q u).toArray 25 (0, 0))
  hr : W.heap[w.heap.size]? = some (.cells (qyL qyZ (.slice none 0 0)).toArray 25 (0, 0))
  o1 : W.ownsRow (w.heap.size + 1) 67 4 u q.cs.length (q.cs.flatMap Cd.cells)
  gr : w.grownBy W (some b)
  hg : w.heap.size < g
  hb : b < w.heap.size
theorem MdQ.call {w W W' : World} {b g n : Nat} {V u : Value} {q : Qy} (h : MdQ w W b g n V u q) (hd : Drw W' b V n) (hg : W.grownBy W' (some b)) : MdQ w W' b g n V u q :=
  ⟨hd, (hg.block g (lt_heap h.hd) (by simp; have := h.hg; have := h.hb; omega)).trans h.hd, (hg.block _ (lt_heap h.hr) (by simp; have := h.hb; omega)).trans h.hr, own_kept h.o1 (by have := h.hb; omega) hg, grown_trans h.gr hg, h.hg, h.hb⟩
theorem MdQ.below {w W W' : World} {b g n : Nat} {V u : Value} {q : Qy} (h : MdQ w W b g n V u q) (hg : Below W.heap.size W W') : MdQ w W' b g n V u q :=
  h.call (h.dr.below hg) (grown_below hg)
/-- A field of it is laid anew, not its Conds. -/
theorem MdQ.set {w W : World} {b g n : Nat} {V u : Value} {q q' : Qy} (h : MdQ w W b g n V u q) (i : Nat) (v : Value) (he : (qyL q u).set i v = qyL q' u) (hc : q'.cs = q.cs) : MdQ w (W.setCell ⟨g, i, none⟩ v) b g n V u q' := by
  have hch : Chg (fun j => j = g) W (W.setCell ⟨g, i, none⟩ v) := Chg.of_grown (grown_set W g i v) rfl
  refine ⟨h.dr.chg hch (fun k hk => by subst hk; have := h.hg; have := h.hb; omega), ?_, (hch.block _ (lt_heap h.hr) (fun e => by have := h.hg; omega)).trans h.hr, ?_, grown_chg h.gr hch (fun k hk => by subst hk; have := h.hg; omega), h.hg, h.hb⟩
  · have := blk_set (i := i) h.hd v
    rw [he] at this
    exact this
  · rw [hc]; exact own_chg h.o1 hch (own_ne h.o1 h.hd (by decide))
/-- Its Conds are laid anew. -/
theorem MdQ.row {w W W' : World} {b g n : Nat} {V u u' : Value} {q : Qy} {cs : List Cd} (h : MdQ w W b g n V u q) (hc : Chg (fun j => u.ownBlock = some j) W W') (ho : W'.ownsRow (w.heap.size + 1) 67 4 u' cs.length (cs.flatMap Cd.cells)) : MdQ w (W'.setCell ⟨g, 1, none⟩ u') b g n V u' ⟨q.cnt, cs, q.by', q.ord, q.dwn, q.lim⟩ := by
  have hd' := (hc.block g (lt_heap h.hd) (fun e => own_ne h.o1 h.hd (by decide) g e rfl)).trans h.hd
  have hr' := (hc.block _ (lt_heap h.hr) (fun e => own_ne h.o1 h.hr (by decide) _ e rfl)).trans h.hr
  have hc2 : Chg (fun j => j = g) W' (W'.setCell ⟨g, 1, none⟩ u') := Chg.of_grown (grown_set W' g 1 u') rfl
  refine ⟨(h.dr.chg hc (fun k hk => by have := (own_lt h.o1 k hk).1; have := h.hb; omega)).chg hc2 (fun k hk => by subst hk; have := h.hg; have := h.hb; omega), blk_set (i := 1) hd' u', (hc2.block _ (lt_heap hr') (fun e => by have := h.hg; omega)).trans hr', own_chg ho hc2 (own_ne ho hd' (by decide)), grown_chg (grown_chg h.gr hc (fun k hk => by have := (own_lt h.o1 k hk).1; omega)) hc2 (fun k hk => by subst hk; have := h.hg; omega), h.hg, h.hb⟩
theorem MdQ.cells {w W : World} {b g n : Nat} {V u : Value} {q : Qy} (h : MdQ w W b g n V u q) : W.cell? ⟨g, 0, none⟩ = some (.bool q.cnt) ∧ W.cell? ⟨g, 1, none⟩ = some u ∧ W.cell? ⟨g, 2, none⟩ = some (.string q.by') ∧ W.cell? ⟨g, 3, none⟩ = some (.string q.ord) ∧ W.cell? ⟨g, 4, none⟩ = some (.bool q.dwn) ∧ W.cell? ⟨g, 5, none⟩ = some (.int .i64 q.lim) ∧ ∀ j, W.frozen? ⟨g, j, none⟩ = false :=
  ⟨by rw [Lib.cell_of_heap h.hd]; rfl, by rw [Lib.cell_of_heap h.hd]; rfl, by rw [Lib.cell_of_heap h.hd]; rfl, by rw [Lib.cell_of_heap h.hd]; rfl, by rw [Lib.cell_of_heap h.hd]; rfl, by rw [Lib.cell_of_heap h.hd]; rfl, fun j => Lib.frozen_of_heap h.hd j⟩
theorem MdQ.rcells {w W : World} {b g n : Nat} {V u : Value} {q : Qy} (h : MdQ w W b g n V u q) : W.cell? ⟨w.heap.size, 0, none⟩ = some (.bool false) ∧ W.cell? ⟨w.heap.size, 1, none⟩ = some (.slice none 0 0) ∧ W.cell? ⟨w.heap.size, 2, none⟩ = some (.string ⟨#[]⟩) ∧ W.cell? ⟨w.heap.size, 3, none⟩ = some (.string ⟨#[]⟩) ∧ W.cell? ⟨w.heap.size, 4, none⟩ = some (.bool false) ∧ W.cell? ⟨w.heap.size, 5, none⟩ = some (.int .i64 0) ∧ ∀ j, W.frozen? ⟨w.heap.size, j, none⟩ = false :=
  ⟨by rw [Lib.cell_of_heap h.hr]; rfl, by rw [Lib.cell_of_heap h.hr]; rfl, by rw [Lib.cell_of_heap h.hr]; rfl, by rw [Lib.cell_of_heap h.hr]; rfl, by rw [Lib.cell_of_heap h.hr]; rfl, by rw [Lib.cell_of_heap h.hr]; rfl, fun j => Lib.frozen_of_heap h.hr j⟩
/-- A Query that was drawn: its row is the call's own. -/
structure QyDr (w W : World) (b n : Nat) (V u : Value) (q : Qy) : Prop where
  dr : Drw W b V n
  o1 : W.ownsRow w.heap.size 67 4 u q.cs.length (q.cs.flatMap Cd.cells)
  gr : w.grownBy W (some b)
  sm : QySm q
abbrev qyFin (W : World) (m : Nat) (q : Qy) (u : Value) : World :=
  (((((W.setCell ⟨m, 0, none⟩ (.bool q.cnt)).setCell ⟨m, 1, none⟩ u).setCell ⟨m, 2, none⟩ (.string q.by')).setCell ⟨m, 3, none⟩ (.string q.ord)).setCell ⟨m, 4, none⟩ (.bool q.dwn)).setCell ⟨m, 5, none⟩ (.int .i64 q.lim)
/-- It is told. -/
theorem MdQ.fin {w W : World} {b g n : Nat} {V u : Value} {q : Qy} (h : MdQ w W b g n V u q) (hs : QySm q) :
    (qyFin W w.heap.size q u).heap[w.heap.size]? = some (.cells (qyL q u).toArray 25 (0, 0)) ∧ QyDr w (qyFin W w.heap.size q u) b n V u q := by
  have hc : Chg (fun j => j = w.heap.size) W (qyFin W w.heap.size q u) :=
    chg_at (chg_at (chg_at (chg_at (chg_at (chg_at (Chg.refl _ _) _ _) _ _) _ _) _ _) _ _) _ _
  have hx := blk_set (i := 5) (blk_set (i := 4) (blk_set (i := 3) (blk_set (i := 2) (blk_set (i := 1) (blk_set (i := 0) h.hr (.bool q.cnt)) u) (.string q.by')) (.string q.ord)) (.bool q.dwn)) (.int .i64 q.lim)
  exact ⟨hx, h.dr.chg hc (fun k hk => by subst hk; exact h.hb), ownB_le (own_chg h.o1 hc (own_ne h.o1 h.hr (by decide))) (by omega), grown_chg h.gr hc (fun k hk => by omega), hs⟩
end Go.Proofs.YtimlnbfalnkmhaaGreatDoor

/-
  What spec.QueryRight answers: a contract over the seat's program.
-/
namespace Go.Proofs.YtimlnbfalnkmhaaGreatDoor
open Go.RowKit
set_option linter.unusedVariables false

def qyV (q : Qy) (a : Option Addr) (k : Nat) : Value := .agg #[.bool q.cnt, .slice a q.cs.length k, .string q.by', .string q.ord, .bool q.dwn, .int .i64 q.lim]
theorem all_false {cs : List Cd} {i : Nat} (h : i < cs.length) (hc : cdB cs[i] = false) : cs.all cdB = false := by
  rw [List.all_eq_false]
  exact ⟨_, List.getElem_mem h, by simp [hc]⟩
set_option maxRecDepth 100000 in
set_option maxHeartbeats 4000000 in
theorem specQueryRight_any (q : Qy) (a : Option Addr) (k : Nat) (w : World) (hC : CdSl w (.slice a q.cs.length k) q.cs) (hF : ∀ c ∈ q.cs, c.wrd.size ≤ maxLen) (hn : q.cs.length ≤ maxLen) :
    Calls Tryz.prog 10 #[qyV q a k] w fun e w' => e = .returned (.bool (qyB q)) ∧ Below w.heap.size w w' := by
  obtain ⟨cnt, cs, by', ord, dwn, lim⟩ := q
  unfold qyV
  simp only at hC hF hn ⊢
  unfold maxLen at hn
  have c1 := hid (fun w => l05Field_any by' w)
  have c2 := hid (fun w => l05Number_any ord w)
  have c3 := hid (fun w => l02Is_any lim 0 200 w)
  have e1 : (by'.toList == []) = decide (by' = noW) := lit_b by' [] noW rfl
  have e2 : (ord.toList == []) = decide (ord = noW) := lit_b ord [] noW rfl
  have e3 : (lim == -1) = decide (lim = -1) := rfl
  have HQ : Hid (qyB ⟨cnt, cs, by', ord, dwn, lim⟩ = (decide (cs.length ≤ 6) && (cs.all cdB && (((decide (by' = noW) || (cnt && isF by')) && ((decide (ord = noW) && !dwn) || (!cnt && numF ord))) && (decide (lim = -1) || (!cnt && (decide (0 ≤ lim) && decide (lim ≤ 200)))))))) := hid (by
    unfold qyB byB
    simp only
    have hlim : (decide (-1 ≤ lim) && decide (lim ≤ 200)) = (decide (lim = -1) || (decide (0 ≤ lim) && decide (lim ≤ 200))) := by
      by_cases h1 : lim = -1
      · subst h1; rfl
      · by_cases h2 : 0 ≤ lim <;> by_cases h3 : lim ≤ 200 <;> simp [h1, h2, h3] <;> omega
    cases cnt with
    | true => simp [Bool.and_assoc]
    | false => simp only [Bool.false_eq_true, if_false]; rw [hlim]; simp [Bool.and_assoc, Bool.or_comm])
  have hb0 : Below w.heap.size w (w.alloc (.cells #[.bool cnt, .slice a cs.length k, .string by', .string ord, .bool dwn, .int .i64 lim] 25)) := (Below.refl _ _).alloc (Nat.le_refl _) _
  have HB0 := hid hb0
  have HC := hid hC
  have HF := hid hF
  have HA := hid (heap_alloc_new w (.cells #[.bool cnt, .slice a cs.length k, .string by', .string ord, .bool dwn, .int .i64 lim] 25))
  have hs0 : (w.alloc (.cells #[.bool cnt, .slice a cs.length k, .string by', .string ord, .bool dwn, .int .i64 lim] 25)).heap.size = w.heap.size + 1 := by simp
  clear hb0 hC hF
  have hq0 : (0 : Int) ≤ (cs.length : Int) := by omega
  go_enter Tryz.func10, Tryz.ntmps10
  go_upto_region 1 with fail
  generalize w.alloc (.cells #[.bool cnt, .slice a cs.length k, .string by', .string ord, .bool dwn, .int .i64 lim] 25) = W0 at *
  have K := hid (show ∀ X, Below W0.heap.size W0 X → X.cell? ⟨w.heap.size, 0, none⟩ = some (.bool cnt) ∧ X.cell? ⟨w.heap.size, 1, none⟩ = some (.slice a cs.length k) ∧ X.cell? ⟨w.heap.size, 2, none⟩ = some (.string by') ∧ X.cell? ⟨w.heap.size, 3, none⟩ = some (.string ord) ∧ X.cell? ⟨w.heap.size, 4, none⟩ = some (.bool dwn) ∧ X.cell? ⟨w.heap.size, 5, none⟩ = some (.int .i64 lim) ∧ Below w.heap.size w X from fun X hX => by
    have h := (hX.block _ (lt_heap HA.out)).trans HA.out
    exact ⟨by rw [Lib.cell_of_heap h]; rfl, by rw [Lib.cell_of_heap h]; rfl, by rw [Lib.cell_of_heap h]; rfl, by rw [Lib.cell_of_heap h]; rfl, by rw [Lib.cell_of_heap h]; rfl, by rw [Lib.cell_of_heap h]; rfl, HB0.out.trans (hX.mono HB0.out.size)⟩)
  clear HB0 HA
  go_wp2_with fail
  go_loopw [3] (fun iv wr => ∃ i : Nat, iv = .int .i64 i ∧ i ≤ cs.length ∧ (∀ j, j < i → (h : j < cs.length) → cdB cs[j] = true) ∧ Below W0.heap.size W0 wr) (fun iv _ => cs.length - (intOf iv).toNat)
  case atStart => exact ⟨0, rfl, Nat.zero_le _, fun j h => absurd h (by omega), Below.refl _ _⟩
  case round =>
    obtain ⟨i, rfl, hi, hall, hbr⟩ := hrel
    have HALL := hid hall
    have HBR := hid hbr
    clear hall hbr
    obtain ⟨x0, x1, x2, x3, x4, x5, hbw⟩ := K.out _ HBR.out
    have HBW := hid hbw
    clear hbw
    by_cases hlt : i < cs.length
    · obtain ⟨g, o, rfl, hE⟩ := (HC.out.stayQ HBW.out).rowQ (by omega)
      obtain ⟨z0, z1, z2, z3⟩ := hE.2 i hlt
      have hsz := HF.out _ (List.getElem_mem hlt)
      have hcc : cs[i] = ⟨cs[i].fld, cs[i].op, cs[i].wrd, cs[i].n⟩ := rfl
      have cL := l05Cond_any cs[i].fld cs[i].op cs[i].wrd cs[i].n
      rw [← hcc] at cL
      have hst := hid (show cdB cs[i] = true → ∀ j, j < i + 1 → (h : j < cs.length) → cdB cs[j] = true from fun hc j hj h => by
        by_cases e : j = i
        · subst e; exact hc
        · exact HALL.out j (by omega) h)
      have hno := hid (fun hc : cdB cs[i] = false => all_false hlt hc)
      clear hE hcc
      generalize cs[i].fld = f0 at *
      generalize cs[i].op = o0 at *
      generalize cs[i].wrd = t0 at *
      generalize cs[i].n = n0 at *
      generalize hcb : cdB cs[i] = cb at *
      clear hcb
      have q1 : (0 : Int) ≤ (i : Int) := by omega
      have q2 : (i : Int) < (cs.length : Int) := by omega
      go_wp2_with fail
      refine (cL _ hsz).mono ?_
      rintro e w1 ⟨rfl, hb1⟩
      have HB1 := hid (HBR.out.trans (hb1.mono HBR.out.size))
      have HB2 := hid (HBW.out.trans (hb1.mono HBW.out.size))
      clear hb1 cL x0 x1 x2 x3 x4 x5 z0 z1 z2 z3
      cases cb with
      | true =>
        go_wp2
        go_roundw
        case rel => exact ⟨i + 1, by go_num, by omega, hst.out (by trivial), HB1.out⟩
        case measure => simp [intOf]; omega
      | false =>
        go_wp2
        go_ret
        exact ⟨by rw [HQ.out, hno.out (by trivial)]; simp, HB2.out⟩
    · have hAll : cs.all cdB = true := by
        rw [List.all_eq_true]
        intro c hc
        obtain ⟨j, hj, rfl⟩ := List.mem_iff_getElem.1 hc
        exact HALL.out j (by omega) hj
      rw [hAll, Bool.true_and] at HQ
      have HQ2 := HQ
      clear hAll HALL HC HF
      generalize decide (by' = noW) = b1 at *
      generalize isF by' = b2 at *
      generalize decide (ord = noW) = b3 at *
      generalize numF ord = b4 at *
      generalize decide (lim = -1) = b5 at *
      generalize (decide (0 ≤ lim) && decide (lim ≤ 200)) = b6 at *
      obtain rfl : i = cs.length := by omega
      clear HBW
      go_upto_region 6 with fail
      clear x0 x1 x2 x3 x4 x5 hlt hi
      go_cut [4] from 21 to 32 (fun s wx => s = .bool (b1 || (cnt && b2)) ∧ Below W0.heap.size W0 wx)
      case first =>
        obtain ⟨x0, x1, x2, x3, x4, x5, hbw⟩ := K.out _ HBR.out
        have HBW := hid hbw
        clear hbw
        cases b1 with
        | true =>
          go_wp2_with fail
          go_meet
          exact ⟨rfl, HBR.out⟩
        | false =>
          cases cnt with
          | false =>
            go_wp2_with fail
            go_meet
            exact ⟨rfl, HBR.out⟩
          | true =>
            go_wp2_with fail
            refine (c1.out _).mono ?_
            rintro e w1 ⟨rfl, hb1⟩
            have HB1 := hid (HBR.out.trans (hb1.mono HBR.out.size))
            clear hb1
            go_wp2_with fail
            go_meet
            exact ⟨rfl, HB1.out⟩
      case rest =>
        obtain ⟨hs4, hb4⟩ := hcut
        subst hs4
        clear HBR
        have HBR := hid hb4
        clear hb4
        generalize hr1 : (b1 || (cnt && b2)) = r1 at *
        clear c1 e1 hr1 b1 b2
        go_upto_region 7 with fail
        go_cut [5] from 33 to 50 (fun s wx => s = .bool ((b3 && !dwn) || (!cnt && b4)) ∧ Below W0.heap.size W0 wx)
        case first =>
          obtain ⟨x0, x1, x2, x3, x4, x5, hbw⟩ := K.out _ HBR.out
          have HBW := hid hbw
          clear hbw
          cases b3 <;> cases dwn <;> cases cnt
          all_goals first
            | (go_wp2_with fail
               go_meet
               exact ⟨rfl, HBR.out⟩)
            | (go_wp2_with fail
               refine (c2.out _).mono ?_
               rintro e w1 ⟨rfl, hb1⟩
               have HB1 := hid (HBR.out.trans (hb1.mono HBR.out.size))
               clear hb1
               go_wp2_with fail
               go_meet
               exact ⟨rfl, HB1.out⟩)
        case rest =>
          obtain ⟨hs4, hb4⟩ := hcut
          subst hs4
          clear HBR
          have HBR := hid hb4
          clear hb4
          generalize hr2 : ((b3 && !dwn) || (!cnt && b4)) = r2 at *
          clear c2 e2 hr2 b3 b4
          go_upto_region 8 with fail
          go_cut [6] from 51 to 63 (fun s wx => s = .bool (b5 || (!cnt && b6)) ∧ Below W0.heap.size W0 wx)
          case first =>
            obtain ⟨x0, x1, x2, x3, x4, x5, hbw⟩ := K.out _ HBR.out
            have HBW := hid hbw
            clear hbw
            cases b5 <;> cases cnt
            all_goals first
              | (go_wp2_with fail
                 go_meet
                 exact ⟨rfl, HBR.out⟩)
              | (go_wp2_with fail
                 refine (c3.out _).mono ?_
                 rintro e w1 ⟨rfl, rfl⟩
                 go_wp2_with fail
                 go_meet
                 exact ⟨rfl, HBR.out⟩)
          case rest =>
            obtain ⟨hs4, hb4⟩ := hcut
            subst hs4
            clear HBR
            have HBR := hid hb4
            clear hb4
            generalize hr3 : (b5 || (!cnt && b6)) = r3 at *
            clear c3 e3 hr3 b5 b6
            obtain ⟨x0, x1, x2, x3, x4, x5, hbw⟩ := K.out _ HBR.out
            have HBW := hid hbw
            clear hbw
            have e6 : decide ((cs.length : Int) ≤ 6) = decide (cs.length ≤ 6) := by congr 1; exact propext ⟨fun h => by omega, fun h => by omega⟩
            generalize hg : decide (cs.length ≤ 6) = g at *
            cases g <;> cases r1 <;> cases r2 <;> cases r3
            all_goals (
              go_wp2_with fail
              go_ret
              exact ⟨by rw [HQ.out]; rfl, HBW.out⟩)
end Go.Proofs.YtimlnbfalnkmhaaGreatDoor
