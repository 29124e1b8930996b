/-
  Queries: what (*spec.l05Reader).query answers, an order that is none: a contract over the seat's program.
-/
import Derived.Test.YtimlnbfalnkmhaaGreatDoorZSqM3
namespace Go.Proofs.YtimlnbfalnkmhaaGreatDoor
open Go.RowKit

set_option maxRecDepth 100000 in
set_option linter.unusedSimpArgs false in
set_option maxHeartbeats 8000000 in
theorem squery_fx2 {b : Nat} {sv : Value} {ws : List ByteArray} (w : World) (h : RdS w b sv ws 0 false) (hC : ¬ nw ws 0 = qCount) (hN : nw ws 0 = qFind) {cs0 : List Cd} {k0 : Nat} (hcs0 : rConds ws 1 = .ok (cs0, k0)) (hO : nw ws k0 = qOrder) (hOF : numF (nw ws (k0 + 1)) = false) :
    Calls Tryz.prog 52 #[.pointer (some ⟨b, 0, none⟩)] w fun e w' => EndSQ w b sv ws (rQ ws) e w' := by
  have mixed : Tryz.prog.follows .mixedOrders = true := by kernel_rfl
  obtain ⟨sa, sc, rfl, _⟩ := h.hw
  have hbl := lt_heap h.hb
  have hln := h.ln
  have H : Hid (SQ w ((w.alloc (.cells #[.bool false, .slice none 0 0, .string ⟨#[]⟩, .string ⟨#[]⟩, .bool false, .int .i64 0] 25)).alloc (.cells #[.bool false, .slice none 0 0, .string ⟨#[]⟩, .string ⟨#[]⟩, .bool false, .int .i64 (-1)] 25)) b (.slice sa ws.length sc) ws 0 false false (.slice none 0 0) [] ⟨#[]⟩ ⟨#[]⟩ false (-1)) := hid ⟨((RdT.refl h).alloc _).alloc _, (NewB.made (w := w) (W := w) [.bool false, .slice none 0 0, .string ⟨#[]⟩, .string ⟨#[]⟩, .bool false, .int .i64 0] 25 (Nat.le_refl _)).alloc _, by have := NewB.made (w := w) (W := w.alloc (.cells #[.bool false, .slice none 0 0, .string ⟨#[]⟩, .string ⟨#[]⟩, .bool false, .int .i64 0] 25)) [.bool false, .slice none 0 0, .string ⟨#[]⟩, .string ⟨#[]⟩, .bool false, .int .i64 (-1)] 25 (by simp); simpa using this, nilOwn _ _ _ _, by simp⟩
  clear h
  generalize hR' : rQ ws = R
  have hR := hid hR'
  clear hR'
  have e0 : ((nw ws 0).toList == [99, 111, 117, 110, 116]) = decide (nw ws 0 = qCount) := lit_b _ _ _ rfl
  have e1 : ((nw ws 0).toList == [102, 105, 110, 100]) = decide (nw ws 0 = qFind) := lit_b _ _ _ rfl
  go_enter Tryz.func52, Tryz.ntmps52
  go_wp2_with fail
  generalize (w.alloc (.cells #[.bool false, .slice none 0 0, .string ⟨#[]⟩, .string ⟨#[]⟩, .bool false, .int .i64 0] 25)).alloc (.cells #[.bool false, .slice none 0 0, .string ⟨#[]⟩, .string ⟨#[]⟩, .bool false, .int .i64 (-1)] 25) = X at *
  have q0 : X.cell? ⟨w.heap.size + 1, 0, none⟩ = some (.bool false) := H.out.Q.cell 0
  have q1 : X.cell? ⟨w.heap.size + 1, 1, none⟩ = some (.slice none 0 0) := H.out.Q.cell 1
  have q2 : X.cell? ⟨w.heap.size + 1, 2, none⟩ = some (.string ⟨#[]⟩) := H.out.Q.cell 2
  have q3 : X.cell? ⟨w.heap.size + 1, 3, none⟩ = some (.string ⟨#[]⟩) := H.out.Q.cell 3
  have q4 : X.cell? ⟨w.heap.size + 1, 4, none⟩ = some (.bool false) := H.out.Q.cell 4
  have q5 : X.cell? ⟨w.heap.size + 1, 5, none⟩ = some (.int .i64 (-1)) := H.out.Q.cell 5
  have g0 := H.out.Q.frozen 0
  have g1 := H.out.Q.frozen 1
  have g2 := H.out.Q.frozen 2
  have g3 := H.out.Q.frozen 3
  have g4 := H.out.Q.frozen 4
  have g5 := H.out.Q.frozen 5
  have hk0 : 0 < ws.length := nw_lt hN (by decide)
  rw [decide_eq_false hC] at e0
  rw [decide_eq_true hN] at e1
  have HC0 := hid hC
  have HN0 := hid hN
  clear hC hN
  go_upto_region 5 with (first
    | (go_at_call 100; refine (word_in _ H.out.D.rd hk0).mono ?_; rintro e w1 ⟨rfl, hr, hg⟩; have H1 := hid (H.out.call hr hg); clear H hr hg q0 q1 q2 q3 q4 q5 g0 g1 g2 g3 g4 g5; have q0 : w1.cell? ⟨w.heap.size + 1, 0, none⟩ = some (.bool false) := H1.out.Q.cell 0; have q1 : w1.cell? ⟨w.heap.size + 1, 1, none⟩ = some (.slice none 0 0) := H1.out.Q.cell 1; have q2 : w1.cell? ⟨w.heap.size + 1, 2, none⟩ = some (.string ⟨#[]⟩) := H1.out.Q.cell 2; have q3 : w1.cell? ⟨w.heap.size + 1, 3, none⟩ = some (.string ⟨#[]⟩) := H1.out.Q.cell 3; have q4 : w1.cell? ⟨w.heap.size + 1, 4, none⟩ = some (.bool false) := H1.out.Q.cell 4; have q5 : w1.cell? ⟨w.heap.size + 1, 5, none⟩ = some (.int .i64 (-1)) := H1.out.Q.cell 5; have g0 := H1.out.Q.frozen 0; have g1 := H1.out.Q.frozen 1; have g2 := H1.out.Q.frozen 2; have g3 := H1.out.Q.frozen 3; have g4 := H1.out.Q.frozen 4; have g5 := H1.out.Q.frozen 5; have H2 := hid (H1.out.sC false); have p0 : (w1.setCell ⟨w.heap.size + 1, 0, none⟩ (.bool false)).cell? ⟨w.heap.size + 1, 0, none⟩ = some (.bool false) := H2.out.Q.cell 0; have p1 : (w1.setCell ⟨w.heap.size + 1, 0, none⟩ (.bool false)).cell? ⟨w.heap.size + 1, 1, none⟩ = some (.slice none 0 0) := H2.out.Q.cell 1; have p2 : (w1.setCell ⟨w.heap.size + 1, 0, none⟩ (.bool false)).cell? ⟨w.heap.size + 1, 2, none⟩ = some (.string ⟨#[]⟩) := H2.out.Q.cell 2; have p3 : (w1.setCell ⟨w.heap.size + 1, 0, none⟩ (.bool false)).cell? ⟨w.heap.size + 1, 3, none⟩ = some (.string ⟨#[]⟩) := H2.out.Q.cell 3; have p4 : (w1.setCell ⟨w.heap.size + 1, 0, none⟩ (.bool false)).cell? ⟨w.heap.size + 1, 4, none⟩ = some (.bool false) := H2.out.Q.cell 4; have p5 : (w1.setCell ⟨w.heap.size + 1, 0, none⟩ (.bool false)).cell? ⟨w.heap.size + 1, 5, none⟩ = some (.int .i64 (-1)) := H2.out.Q.cell 5; have d0 := H2.out.Q.frozen 0; have d1 := H2.out.Q.frozen 1; have d2 := H2.out.Q.frozen 2; have d3 := H2.out.Q.frozen 3; have d4 := H2.out.Q.frozen 4; have d5 := H2.out.Q.frozen 5)
    | (go_at_call 101; refine (need_yes _ H2.out.D.rd).mono ?_; rintro e w2 ⟨rfl, rfl⟩))
  clear H1 q0 q1 q2 q3 q4 q5 g0 g1 g2 g3 g4 g5
  have H := H2
  clear H2 p0 p1 p2 p3 p4 p5 d0 d1 d2 d3 d4 d5
  generalize w1.setCell ⟨w.heap.size + 1, 0, none⟩ (.bool false) = X at *
  have q0 : X.cell? ⟨w.heap.size + 1, 0, none⟩ = some (.bool false) := H.out.Q.cell 0
  have q1 : X.cell? ⟨w.heap.size + 1, 1, none⟩ = some (.slice none 0 0) := H.out.Q.cell 1
  have q2 : X.cell? ⟨w.heap.size + 1, 2, none⟩ = some (.string ⟨#[]⟩) := H.out.Q.cell 2
  have q3 : X.cell? ⟨w.heap.size + 1, 3, none⟩ = some (.string ⟨#[]⟩) := H.out.Q.cell 3
  have q4 : X.cell? ⟨w.heap.size + 1, 4, none⟩ = some (.bool false) := H.out.Q.cell 4
  have q5 : X.cell? ⟨w.heap.size + 1, 5, none⟩ = some (.int .i64 (-1)) := H.out.Q.cell 5
  have g0 := H.out.Q.frozen 0
  have g1 := H.out.Q.frozen 1
  have g2 := H.out.Q.frozen 2
  have g3 := H.out.Q.frozen 3
  have g4 := H.out.Q.frozen 4
  have g5 := H.out.Q.frozen 5
  go_cut [22] from 21 to 22 (fun s wx => (s = .bool true ∧ nw ws 1 = qWhere ∧ SQ w wx b (.slice sa ws.length sc) ws (2) false (false) (.slice none 0 0) ([]) (⟨#[]⟩) (⟨#[]⟩) (false) (-1)) ∨ (s = .bool false ∧ nw ws 1 ≠ qWhere ∧ SQ w wx b (.slice sa ws.length sc) ws (1) false (false) (.slice none 0 0) ([]) (⟨#[]⟩) (⟨#[]⟩) (false) (-1)))
  case first =>
    by_cases hW : nw ws 1 = qWhere
    · have hk : 1 < ws.length := nw_lt hW (by decide)
      go_wp2_with (go_at_call 102; refine (is_yes qWhere _ H.out.D.rd hk hW).mono ?_; rintro e w1 ⟨rfl, hr, hg⟩; have H1 := hid (H.out.call hr hg); clear H hr hg q0 q1 q2 q3 q4 q5 g0 g1 g2 g3 g4 g5)
      go_meet
      exact .inl ⟨rfl, hW, H1.out⟩
    · skip
      go_wp2_with (go_at_call 102; refine (is_no qWhere _ H.out.D.rd hW).mono ?_; rintro e w1 ⟨rfl, hr, hg⟩; have H1 := hid (H.out.call hr hg); clear H hr hg q0 q1 q2 q3 q4 q5 g0 g1 g2 g3 g4 g5)
      go_meet
      exact .inr ⟨rfl, hW, H1.out⟩
  case rest =>
    rename World => X1
    clear H q0 q1 q2 q3 q4 q5 g0 g1 g2 g3 g4 g5
    have hcut9 := hcut
    clear hcut
    go_upto_if 22 with fail
    go_cut [] from 23 to 44 (fun wx => ∃ (cs : List Cd) (k1 : Nat) (bad1 : Bool) (va : Option Addr) (vc : Nat), WhR ws k1 bad1 cs ∧ SQ w wx b (.slice sa ws.length sc) ws (k1) bad1 (false) (.slice va cs.length vc) (cs) (⟨#[]⟩) (⟨#[]⟩) (false) (-1))
    case first =>
      rcases hcut9 with ⟨rfl, hW, hS⟩ | ⟨rfl, hW, hS⟩
      · have H := hid hS
        clear hS
        go_upto_region 6 with fail
        generalize X1 = X at *
        have q0 : X.cell? ⟨w.heap.size + 1, 0, none⟩ = some (.bool false) := H.out.Q.cell 0
        have q1 : X.cell? ⟨w.heap.size + 1, 1, none⟩ = some (.slice none 0 0) := H.out.Q.cell 1
        have q2 : X.cell? ⟨w.heap.size + 1, 2, none⟩ = some (.string ⟨#[]⟩) := H.out.Q.cell 2
        have q3 : X.cell? ⟨w.heap.size + 1, 3, none⟩ = some (.string ⟨#[]⟩) := H.out.Q.cell 3
        have q4 : X.cell? ⟨w.heap.size + 1, 4, none⟩ = some (.bool false) := H.out.Q.cell 4
        have q5 : X.cell? ⟨w.heap.size + 1, 5, none⟩ = some (.int .i64 (-1)) := H.out.Q.cell 5
        have g0 := H.out.Q.frozen 0
        have g1 := H.out.Q.frozen 1
        have g2 := H.out.Q.frozen 2
        have g3 := H.out.Q.frozen 3
        have g4 := H.out.Q.frozen 4
        have g5 := H.out.Q.frozen 5
        go_cut [] from 23 to 29 (fun wx => ∃ (c : Cd) (k2 : Nat) (bad2 : Bool) (va2 : Option Addr) (vc2 : Nat), CdR ws (2) k2 bad2 c ∧ SQ w wx b (.slice sa ws.length sc) ws (k2) bad2 (false) (.slice va2 ([c]).length vc2) ([c]) (⟨#[]⟩) (⟨#[]⟩) (false) (-1))
        case first =>
          have H9 := hid H.out.drew
          clear q0 q1 q2 q3 q4 q5 g0 g1 g2 g3 g4 g5
          have q0 : X.drew.cell? ⟨w.heap.size + 1, 0, none⟩ = some (.bool false) := H9.out.Q.cell 0
          have q1 : X.drew.cell? ⟨w.heap.size + 1, 1, none⟩ = some (.slice none 0 0) := H9.out.Q.cell 1
          have q2 : X.drew.cell? ⟨w.heap.size + 1, 2, none⟩ = some (.string ⟨#[]⟩) := H9.out.Q.cell 2
          have q3 : X.drew.cell? ⟨w.heap.size + 1, 3, none⟩ = some (.string ⟨#[]⟩) := H9.out.Q.cell 3
          have q4 : X.drew.cell? ⟨w.heap.size + 1, 4, none⟩ = some (.bool false) := H9.out.Q.cell 4
          have q5 : X.drew.cell? ⟨w.heap.size + 1, 5, none⟩ = some (.int .i64 (-1)) := H9.out.Q.cell 5
          have g0 := H9.out.Q.frozen 0
          have g1 := H9.out.Q.frozen 1
          have g2 := H9.out.Q.frozen 2
          have g3 := H9.out.Q.frozen 3
          have g4 := H9.out.Q.frozen 4
          have g5 := H9.out.Q.frozen 5
          obtain ⟨i0, hi, hz0, hz1, hz2⟩ := info_parts Tryz.infoCd
          have hcl : ([] : List Cd).length ≤ 5 := by simp
          go_region_law (first | (refine step_call rfl 103 _ _ rfl #[.pointer (some ⟨b, 0, none⟩)] (by first | (simp [Act.eval]; done) | simp [Act.eval, Act.put]) (enters_of Tryz.func103 (by kernel_rfl) rfl _ _) ?_; refine (scond_one _ H9.out.D.rd).mono ?_; rintro e w4 ⟨c, k2, bad2, hcr, rfl, hr, hg⟩; have HC := hid hcr; have H4 := hid (H9.out.call hr hg); have H5 := hid (H4.out.below ((Below.refl _ _).alloc (Nat.le_refl _) (.cells #[.string c.fld, .string c.op, .string c.wrd, .int .i64 c.n] 67))); clear H9 hr hg hcr; have r1 := H4.out.Q.cell 1; have r5 := H5.out.Q.cell 1; refine ⟨_, rfl, ?_⟩) | (refine step_append_own rfl (.tmp 24) (.tmp 27) 23 rfl (w.heap.size + 2) 67 i0 _ 4 56 Tryz.underlying23 hi hz0 hz1 hz2 rfl (by decide) _ _ _ (by first | (simp [Act.eval]; done) | simp [Act.eval, Act.put]) H5.out.O ⟨w4.heap.size, 0, none⟩ 1 1 [.string c.fld, .string c.op, .string c.wrd, .int .i64 c.n] (by first | (simp [Act.eval]; done) | simp [Act.eval, Act.put]) rfl (cd_new w4 c 67) (cd_one c) (by have := hcl; unfold maxLen; omega) (by have := hcl; omega) H5.out.hs ?_; intro v5 w5 ho hgr _; obtain ⟨va5, vc5, rfl⟩ := own_forms ho; have O5 := hid ho; have G5 := hid hgr; have g5 := (H5.out.Q.grow hgr (fun j e => by have := (H5.out.O.lt j e).1; omega)).frozen 1; have r6 := (H5.out.Q.grow hgr (fun j e => by have := (H5.out.O.lt j e).1; omega)).cell 1; clear ho hgr))
          all_goals go_wp2_with fail
          all_goals go_meet
          all_goals exact ⟨c, k2, bad2, va5, vc5, HC.out, by have := H5.out.app (cs' := [c]) G5.out (by have := O5.out; simpa [cd_snoc, Cd.cells] using this); simpa using this⟩
        case rest =>
          obtain ⟨c, k2, bad2, va2, vc2, hcr, hS⟩ := hcut
          rename World => X3
          have H3 := hid hS
          clear hS H q0 q1 q2 q3 q4 q5 g0 g1 g2 g3 g4 g5
          have hM3 : Hid (MoR ws k2 bad2 [c]) := hid (by rcases hcr with ⟨h1, h2⟩ | ⟨h1, h2⟩; exact .inl ⟨h1, (rConds_ok hW h2).symm⟩; exact .inr ⟨h1, rConds_err hW h2⟩)
          clear hcr hW
          go_wp2_with fail
          go_loopw [] (fun wx => ∃ (cs : List Cd) (k3 : Nat) (bad3 : Bool) (va : Option Addr) (vc : Nat), 1 ≤ cs.length ∧ cs.length ≤ 6 ∧ Hid (MoR ws k3 bad3 cs) ∧ SQ w wx b (.slice sa ws.length sc) ws (k3) bad3 (false) (.slice va cs.length vc) (cs) (⟨#[]⟩) (⟨#[]⟩) (false) (-1)) (fun wx => 6 - lenC ((wx.cell? ⟨w.heap.size + 1, 1, none⟩).getD undef))
          case atStart => exact ⟨[c], k2, bad2, va2, vc2, by simp, by simp, hM3, H3.out⟩
          case round =>
            clear H3 hM3
            obtain ⟨cs, k3, bad3, va, vc, h1, h6, hM, hS⟩ := hrel
            have H := hid hS
            clear hS
            generalize wr = X at *
            have q0 : X.cell? ⟨w.heap.size + 1, 0, none⟩ = some (.bool false) := H.out.Q.cell 0
            have q1 : X.cell? ⟨w.heap.size + 1, 1, none⟩ = some (.slice va cs.length vc) := H.out.Q.cell 1
            have q2 : X.cell? ⟨w.heap.size + 1, 2, none⟩ = some (.string ⟨#[]⟩) := H.out.Q.cell 2
            have q3 : X.cell? ⟨w.heap.size + 1, 3, none⟩ = some (.string ⟨#[]⟩) := H.out.Q.cell 3
            have q4 : X.cell? ⟨w.heap.size + 1, 4, none⟩ = some (.bool false) := H.out.Q.cell 4
            have q5 : X.cell? ⟨w.heap.size + 1, 5, none⟩ = some (.int .i64 (-1)) := H.out.Q.cell 5
            have g0 := H.out.Q.frozen 0
            have g1 := H.out.Q.frozen 1
            have g2 := H.out.Q.frozen 2
            have g3 := H.out.Q.frozen 3
            have g4 := H.out.Q.frozen 4
            have g5 := H.out.Q.frozen 5
            by_cases hlt : cs.length < 6
            · have zl : (cs.length : Int) < 6 := by omega
              rcases hM.out with ⟨rfl, hm⟩ | ⟨rfl, hm⟩
              · obtain ⟨m, hm9⟩ : ∃ m, 6 - cs.length = m + 1 := ⟨5 - cs.length, by omega⟩
                rw [hm9] at hm
                have hmm := hid hm
                clear hm hM
                by_cases ha : nw ws k3 = qAnd
                · have hk : k3 < ws.length := nw_lt ha (by decide)
                  go_upto_region 8 with (go_at_call 102; refine (is_yes qAnd _ H.out.D.rd hk ha).mono ?_; rintro e w1 ⟨rfl, hr, hg⟩; have H1 := hid (H.out.call hr hg); clear H hr hg)
                  have H := H1
                  have hx := hid (q1)
                  clear H1 q0 q1 q2 q3 q4 q5 g0 g1 g2 g3 g4 g5
                  generalize w1 = Y at *
                  have q0 : Y.cell? ⟨w.heap.size + 1, 0, none⟩ = some (.bool false) := H.out.Q.cell 0
                  have q1 : Y.cell? ⟨w.heap.size + 1, 1, none⟩ = some (.slice va cs.length vc) := H.out.Q.cell 1
                  have q2 : Y.cell? ⟨w.heap.size + 1, 2, none⟩ = some (.string ⟨#[]⟩) := H.out.Q.cell 2
                  have q3 : Y.cell? ⟨w.heap.size + 1, 3, none⟩ = some (.string ⟨#[]⟩) := H.out.Q.cell 3
                  have q4 : Y.cell? ⟨w.heap.size + 1, 4, none⟩ = some (.bool false) := H.out.Q.cell 4
                  have q5 : Y.cell? ⟨w.heap.size + 1, 5, none⟩ = some (.int .i64 (-1)) := H.out.Q.cell 5
                  have g0 := H.out.Q.frozen 0
                  have g1 := H.out.Q.frozen 1
                  have g2 := H.out.Q.frozen 2
                  have g3 := H.out.Q.frozen 3
                  have g4 := H.out.Q.frozen 4
                  have g5 := H.out.Q.frozen 5
                  have H9 := hid H.out.drew
                  clear q0 q1 q2 q3 q4 q5 g0 g1 g2 g3 g4 g5
                  have q0 : Y.drew.cell? ⟨w.heap.size + 1, 0, none⟩ = some (.bool false) := H9.out.Q.cell 0
                  have q1 : Y.drew.cell? ⟨w.heap.size + 1, 1, none⟩ = some (.slice va cs.length vc) := H9.out.Q.cell 1
                  have q2 : Y.drew.cell? ⟨w.heap.size + 1, 2, none⟩ = some (.string ⟨#[]⟩) := H9.out.Q.cell 2
                  have q3 : Y.drew.cell? ⟨w.heap.size + 1, 3, none⟩ = some (.string ⟨#[]⟩) := H9.out.Q.cell 3
                  have q4 : Y.drew.cell? ⟨w.heap.size + 1, 4, none⟩ = some (.bool false) := H9.out.Q.cell 4
                  have q5 : Y.drew.cell? ⟨w.heap.size + 1, 5, none⟩ = some (.int .i64 (-1)) := H9.out.Q.cell 5
                  have g0 := H9.out.Q.frozen 0
                  have g1 := H9.out.Q.frozen 1
                  have g2 := H9.out.Q.frozen 2
                  have g3 := H9.out.Q.frozen 3
                  have g4 := H9.out.Q.frozen 4
                  have g5 := H9.out.Q.frozen 5
                  obtain ⟨i0, hi, hz0, hz1, hz2⟩ := info_parts Tryz.infoCd
                  have hcl : (cs : List Cd).length ≤ 5 := by omega
                  go_region_law (first | (refine step_call rfl 103 _ _ rfl #[.pointer (some ⟨b, 0, none⟩)] (by first | (simp [Act.eval]; done) | simp [Act.eval, Act.put]) (enters_of Tryz.func103 (by kernel_rfl) rfl _ _) ?_; refine (scond_one _ H9.out.D.rd).mono ?_; rintro e w4 ⟨c, k2, bad2, hcr, rfl, hr, hg⟩; have HC := hid hcr; have H4 := hid (H9.out.call hr hg); have H5 := hid (H4.out.below ((Below.refl _ _).alloc (Nat.le_refl _) (.cells #[.string c.fld, .string c.op, .string c.wrd, .int .i64 c.n] 67))); clear H9 hr hg hcr; have r1 := H4.out.Q.cell 1; have r5 := H5.out.Q.cell 1; refine ⟨_, rfl, ?_⟩) | (refine step_append_own rfl (.tmp 39) (.tmp 42) 23 rfl (w.heap.size + 2) 67 i0 _ 4 56 Tryz.underlying23 hi hz0 hz1 hz2 rfl (by decide) _ _ _ (by first | (simp [Act.eval]; done) | simp [Act.eval, Act.put]) H5.out.O ⟨w4.heap.size, 0, none⟩ 1 1 [.string c.fld, .string c.op, .string c.wrd, .int .i64 c.n] (by first | (simp [Act.eval]; done) | simp [Act.eval, Act.put]) rfl (cd_new w4 c 67) (cd_one c) (by have := hcl; unfold maxLen; omega) (by have := hcl; omega) H5.out.hs ?_; intro v5 w5 ho hgr _; obtain ⟨va5, vc5, rfl⟩ := own_forms ho; have O5 := hid ho; have G5 := hid hgr; have g5 := (H5.out.Q.grow hgr (fun j e => by have := (H5.out.O.lt j e).1; omega)).frozen 1; have r6 := (H5.out.Q.grow hgr (fun j e => by have := (H5.out.O.lt j e).1; omega)).cell 1; clear ho hgr))
                  all_goals go_wp2_with fail
                  all_goals go_roundw
                  all_goals first | exact ⟨cs ++ [c], k2, bad2, va5, vc5, by simp, by simp; omega, (hid (by have h5 : 6 - (cs ++ [c]).length = m := (by simp; omega); unfold MoR; rw [h5]; rcases HC.out with ⟨e1, e2⟩ | ⟨e1, e2⟩; exact .inl ⟨e1, (rMore_ok ha e2).symm.trans hmm.out⟩; exact .inr ⟨e1, hmm.out.symm.trans (rMore_err ha e2)⟩)), (by have := H5.out.app (cs' := cs ++ [c]) G5.out (by have := O5.out; simpa [cd_snoc, Cd.cells] using this); simpa using this)⟩ | (have y1 := (H5.out.app (cs' := cs ++ [c]) G5.out (by have := O5.out; simpa [cd_snoc, Cd.cells] using this)).Q.cell 1; simp at y1; simp [hx.out, y1, lenC]; omega)
                · go_wp2_with (go_at_call 102; refine (is_no qAnd _ H.out.D.rd ha).mono ?_; rintro e w1 ⟨rfl, hr, hg⟩; have H1 := hid (H.out.call hr hg); clear H hr hg)
                  go_meet
                  exact ⟨cs, k3, false, va, vc, .inl ⟨rfl, by rw [← hmm.out, rMore, if_neg ha]⟩, H1.out⟩
              · go_wp2_with (go_at_call 102; refine (is_bad qAnd _ H.out.D.rd).mono ?_; rintro e w1 ⟨rfl, hr, hg⟩; have H1 := hid (H.out.call hr hg); clear H hr hg)
                go_meet
                exact ⟨cs, k3, true, va, vc, .inr ⟨rfl, hm⟩, H1.out⟩
            · have z6 : cs.length = 6 := by omega
              have zl : ¬ ((cs.length : Int) < 6) := by omega
              have hF : WhR ws k3 bad3 cs := by rcases hM.out with ⟨e1, e2⟩ | ⟨e1, e2⟩; exact .inl ⟨e1, by rw [← e2, z6]; rfl⟩; exact .inr ⟨e1, e2⟩
              have HF := hid hF
              clear z6 hF hM
              go_wp2
              go_meet
              exact ⟨cs, k3, bad3, va, vc, HF.out, H.out⟩
      · go_wp2
        go_meet
        exact ⟨[], 1, false, none, 0, .inl ⟨rfl, by rw [rConds, if_neg hW]⟩, hS⟩
    case rest =>
      obtain ⟨cs, k1, bad1, va, vc, hWR, hS⟩ := hcut
      rename World => X2
      have H := hid hS
      clear hS hcut9
      generalize X2 = X at *
      have q0 : X.cell? ⟨w.heap.size + 1, 0, none⟩ = some (.bool false) := H.out.Q.cell 0
      have q1 : X.cell? ⟨w.heap.size + 1, 1, none⟩ = some (.slice va cs.length vc) := H.out.Q.cell 1
      have q2 : X.cell? ⟨w.heap.size + 1, 2, none⟩ = some (.string ⟨#[]⟩) := H.out.Q.cell 2
      have q3 : X.cell? ⟨w.heap.size + 1, 3, none⟩ = some (.string ⟨#[]⟩) := H.out.Q.cell 3
      have q4 : X.cell? ⟨w.heap.size + 1, 4, none⟩ = some (.bool false) := H.out.Q.cell 4
      have q5 : X.cell? ⟨w.heap.size + 1, 5, none⟩ = some (.int .i64 (-1)) := H.out.Q.cell 5
      have g0 := H.out.Q.frozen 0
      have g1 := H.out.Q.frozen 1
      have g2 := H.out.Q.frozen 2
      have g3 := H.out.Q.frozen 3
      have g4 := H.out.Q.frozen 4
      have g5 := H.out.Q.frozen 5
      have hd1 : ¬ qLimit = qDesc := by decide
      have hd2 : ¬ qLimit = qOrder := by decide
      have hfc : ¬ qFind = qCount := by decide
      rcases hWR with ⟨rfl, hcs⟩ | ⟨rfl, hcs⟩
      · have e9 : k0 = k1 := by rw [hcs0] at hcs; cases hcs; rfl
        rw [e9] at hO hOF
        clear e9 hcs0
        have hk : k1 < ws.length := nw_lt hO (by decide)
        go_wp2_with (go_at_call 102; refine (is_yes qOrder _ H.out.D.rd hk hO).mono ?_; rintro e w1 ⟨rfl, hr, hg⟩; have H1 := hid (H.out.call hr hg); clear H hr hg q0 q1 q2 q3 q4 q5 g0 g1 g2 g3 g4 g5; have q0 : w1.cell? ⟨w.heap.size + 1, 0, none⟩ = some (.bool false) := H1.out.Q.cell 0; have q1 : w1.cell? ⟨w.heap.size + 1, 1, none⟩ = some (.slice va cs.length vc) := H1.out.Q.cell 1; have q2 : w1.cell? ⟨w.heap.size + 1, 2, none⟩ = some (.string ⟨#[]⟩) := H1.out.Q.cell 2; have q3 : w1.cell? ⟨w.heap.size + 1, 3, none⟩ = some (.string ⟨#[]⟩) := H1.out.Q.cell 3; have q4 : w1.cell? ⟨w.heap.size + 1, 4, none⟩ = some (.bool false) := H1.out.Q.cell 4; have q5 : w1.cell? ⟨w.heap.size + 1, 5, none⟩ = some (.int .i64 (-1)) := H1.out.Q.cell 5; have g0 := H1.out.Q.frozen 0; have g1 := H1.out.Q.frozen 1; have g2 := H1.out.Q.frozen 2; have g3 := H1.out.Q.frozen 3; have g4 := H1.out.Q.frozen 4; have g5 := H1.out.Q.frozen 5)
        have H := H1
        clear H1 q0 q1 q2 q3 q4 q5 g0 g1 g2 g3 g4 g5
        generalize w1 = X at *
        have q0 : X.cell? ⟨w.heap.size + 1, 0, none⟩ = some (.bool false) := H.out.Q.cell 0
        have q1 : X.cell? ⟨w.heap.size + 1, 1, none⟩ = some (.slice va cs.length vc) := H.out.Q.cell 1
        have q2 : X.cell? ⟨w.heap.size + 1, 2, none⟩ = some (.string ⟨#[]⟩) := H.out.Q.cell 2
        have q3 : X.cell? ⟨w.heap.size + 1, 3, none⟩ = some (.string ⟨#[]⟩) := H.out.Q.cell 3
        have q4 : X.cell? ⟨w.heap.size + 1, 4, none⟩ = some (.bool false) := H.out.Q.cell 4
        have q5 : X.cell? ⟨w.heap.size + 1, 5, none⟩ = some (.int .i64 (-1)) := H.out.Q.cell 5
        have g0 := H.out.Q.frozen 0
        have g1 := H.out.Q.frozen 1
        have g2 := H.out.Q.frozen 2
        have g3 := H.out.Q.frozen 3
        have g4 := H.out.Q.frozen 4
        have g5 := H.out.Q.frozen 5
        skip
        go_wp2_with (go_at_call 100; refine (word_any _ H.out.D.rd).mono ?_; rintro e w1 ⟨rfl, hr, hg⟩; have H1 := hid (H.out.call hr hg); clear H hr hg q0 q1 q2 q3 q4 q5 g0 g1 g2 g3 g4 g5; have q0 : w1.cell? ⟨w.heap.size + 1, 0, none⟩ = some (.bool false) := H1.out.Q.cell 0; have q1 : w1.cell? ⟨w.heap.size + 1, 1, none⟩ = some (.slice va cs.length vc) := H1.out.Q.cell 1; have q2 : w1.cell? ⟨w.heap.size + 1, 2, none⟩ = some (.string ⟨#[]⟩) := H1.out.Q.cell 2; have q3 : w1.cell? ⟨w.heap.size + 1, 3, none⟩ = some (.string ⟨#[]⟩) := H1.out.Q.cell 3; have q4 : w1.cell? ⟨w.heap.size + 1, 4, none⟩ = some (.bool false) := H1.out.Q.cell 4; have q5 : w1.cell? ⟨w.heap.size + 1, 5, none⟩ = some (.int .i64 (-1)) := H1.out.Q.cell 5; have g0 := H1.out.Q.frozen 0; have g1 := H1.out.Q.frozen 1; have g2 := H1.out.Q.frozen 2; have g3 := H1.out.Q.frozen 3; have g4 := H1.out.Q.frozen 4; have g5 := H1.out.Q.frozen 5)
        have H := hid (H1.out.sO (nw ws (k1 + 1)))
        clear H1 q0 q1 q2 q3 q4 q5 g0 g1 g2 g3 g4 g5
        generalize w1.setCell ⟨w.heap.size + 1, 3, none⟩ (.string (nw ws (k1 + 1))) = X at *
        have q0 : X.cell? ⟨w.heap.size + 1, 0, none⟩ = some (.bool false) := H.out.Q.cell 0
        have q1 : X.cell? ⟨w.heap.size + 1, 1, none⟩ = some (.slice va cs.length vc) := H.out.Q.cell 1
        have q2 : X.cell? ⟨w.heap.size + 1, 2, none⟩ = some (.string ⟨#[]⟩) := H.out.Q.cell 2
        have q3 : X.cell? ⟨w.heap.size + 1, 3, none⟩ = some (.string (nw ws (k1 + 1))) := H.out.Q.cell 3
        have q4 : X.cell? ⟨w.heap.size + 1, 4, none⟩ = some (.bool false) := H.out.Q.cell 4
        have q5 : X.cell? ⟨w.heap.size + 1, 5, none⟩ = some (.int .i64 (-1)) := H.out.Q.cell 5
        have g0 := H.out.Q.frozen 0
        have g1 := H.out.Q.frozen 1
        have g2 := H.out.Q.frozen 2
        have g3 := H.out.Q.frozen 3
        have g4 := H.out.Q.frozen 4
        have g5 := H.out.Q.frozen 5
        go_wp2_with (first | (go_at_call 35; refine (l05Number_any (nw ws (k1 + 1)) _).mono ?_; rintro e w3 ⟨he, hb9⟩; rw [hOF] at he; subst he; have H3 := hid (H.out.below hb9); clear H hb9 q0 q1 q2 q3 q4 q5 g0 g1 g2 g3 g4 g5) | (go_at_call 101; refine (need_f _ H3.out.D.rd).mono ?_; rintro e w4 ⟨rfl, hr, hg⟩; have H1 := hid (H3.out.call hr hg); clear H3 hr hg; have q0 : w4.cell? ⟨w.heap.size + 1, 0, none⟩ = some (.bool false) := H1.out.Q.cell 0; have q1 : w4.cell? ⟨w.heap.size + 1, 1, none⟩ = some (.slice va cs.length vc) := H1.out.Q.cell 1; have q2 : w4.cell? ⟨w.heap.size + 1, 2, none⟩ = some (.string ⟨#[]⟩) := H1.out.Q.cell 2; have q3 : w4.cell? ⟨w.heap.size + 1, 3, none⟩ = some (.string (nw ws (k1 + 1))) := H1.out.Q.cell 3; have q4 : w4.cell? ⟨w.heap.size + 1, 4, none⟩ = some (.bool false) := H1.out.Q.cell 4; have q5 : w4.cell? ⟨w.heap.size + 1, 5, none⟩ = some (.int .i64 (-1)) := H1.out.Q.cell 5; have g0 := H1.out.Q.frozen 0; have g1 := H1.out.Q.frozen 1; have g2 := H1.out.Q.frozen 2; have g3 := H1.out.Q.frozen 3; have g4 := H1.out.Q.frozen 4; have g5 := H1.out.Q.frozen 5))
        have H := H1
        clear H1 q0 q1 q2 q3 q4 q5 g0 g1 g2 g3 g4 g5
        generalize w4 = X at *
        have q0 : X.cell? ⟨w.heap.size + 1, 0, none⟩ = some (.bool false) := H.out.Q.cell 0
        have q1 : X.cell? ⟨w.heap.size + 1, 1, none⟩ = some (.slice va cs.length vc) := H.out.Q.cell 1
        have q2 : X.cell? ⟨w.heap.size + 1, 2, none⟩ = some (.string ⟨#[]⟩) := H.out.Q.cell 2
        have q3 : X.cell? ⟨w.heap.size + 1, 3, none⟩ = some (.string (nw ws (k1 + 1))) := H.out.Q.cell 3
        have q4 : X.cell? ⟨w.heap.size + 1, 4, none⟩ = some (.bool false) := H.out.Q.cell 4
        have q5 : X.cell? ⟨w.heap.size + 1, 5, none⟩ = some (.int .i64 (-1)) := H.out.Q.cell 5
        have g0 := H.out.Q.frozen 0
        have g1 := H.out.Q.frozen 1
        have g2 := H.out.Q.frozen 2
        have g3 := H.out.Q.frozen 3
        have g4 := H.out.Q.frozen 4
        have g5 := H.out.Q.frozen 5
        go_wp2_with (go_at_call 102; refine (is_bad qDesc _ H.out.D.rd).mono ?_; rintro e w1 ⟨rfl, hr, hg⟩; have H1 := hid (H.out.call hr hg); clear H hr hg q0 q1 q2 q3 q4 q5 g0 g1 g2 g3 g4 g5; have q0 : w1.cell? ⟨w.heap.size + 1, 0, none⟩ = some (.bool false) := H1.out.Q.cell 0; have q1 : w1.cell? ⟨w.heap.size + 1, 1, none⟩ = some (.slice va cs.length vc) := H1.out.Q.cell 1; have q2 : w1.cell? ⟨w.heap.size + 1, 2, none⟩ = some (.string ⟨#[]⟩) := H1.out.Q.cell 2; have q3 : w1.cell? ⟨w.heap.size + 1, 3, none⟩ = some (.string (nw ws (k1 + 1))) := H1.out.Q.cell 3; have q4 : w1.cell? ⟨w.heap.size + 1, 4, none⟩ = some (.bool false) := H1.out.Q.cell 4; have q5 : w1.cell? ⟨w.heap.size + 1, 5, none⟩ = some (.int .i64 (-1)) := H1.out.Q.cell 5; have g0 := H1.out.Q.frozen 0; have g1 := H1.out.Q.frozen 1; have g2 := H1.out.Q.frozen 2; have g3 := H1.out.Q.frozen 3; have g4 := H1.out.Q.frozen 4; have g5 := H1.out.Q.frozen 5)
        have H := hid (H1.out.sD false)
        clear H1 q0 q1 q2 q3 q4 q5 g0 g1 g2 g3 g4 g5
        generalize w1.setCell ⟨w.heap.size + 1, 4, none⟩ (.bool false) = X at *
        have q0 : X.cell? ⟨w.heap.size + 1, 0, none⟩ = some (.bool false) := H.out.Q.cell 0
        have q1 : X.cell? ⟨w.heap.size + 1, 1, none⟩ = some (.slice va cs.length vc) := H.out.Q.cell 1
        have q2 : X.cell? ⟨w.heap.size + 1, 2, none⟩ = some (.string ⟨#[]⟩) := H.out.Q.cell 2
        have q3 : X.cell? ⟨w.heap.size + 1, 3, none⟩ = some (.string (nw ws (k1 + 1))) := H.out.Q.cell 3
        have q4 : X.cell? ⟨w.heap.size + 1, 4, none⟩ = some (.bool false) := H.out.Q.cell 4
        have q5 : X.cell? ⟨w.heap.size + 1, 5, none⟩ = some (.int .i64 (-1)) := H.out.Q.cell 5
        have g0 := H.out.Q.frozen 0
        have g1 := H.out.Q.frozen 1
        have g2 := H.out.Q.frozen 2
        have g3 := H.out.Q.frozen 3
        have g4 := H.out.Q.frozen 4
        have g5 := H.out.Q.frozen 5
        go_wp2_with (go_at_call 102; refine (is_bad qLimit _ H.out.D.rd).mono ?_; rintro e w1 ⟨rfl, hr, hg⟩; have H1 := hid (H.out.call hr hg); clear H hr hg q0 q1 q2 q3 q4 q5 g0 g1 g2 g3 g4 g5; have q0 : w1.cell? ⟨w.heap.size + 1, 0, none⟩ = some (.bool false) := H1.out.Q.cell 0; have q1 : w1.cell? ⟨w.heap.size + 1, 1, none⟩ = some (.slice va cs.length vc) := H1.out.Q.cell 1; have q2 : w1.cell? ⟨w.heap.size + 1, 2, none⟩ = some (.string ⟨#[]⟩) := H1.out.Q.cell 2; have q3 : w1.cell? ⟨w.heap.size + 1, 3, none⟩ = some (.string (nw ws (k1 + 1))) := H1.out.Q.cell 3; have q4 : w1.cell? ⟨w.heap.size + 1, 4, none⟩ = some (.bool false) := H1.out.Q.cell 4; have q5 : w1.cell? ⟨w.heap.size + 1, 5, none⟩ = some (.int .i64 (-1)) := H1.out.Q.cell 5; have g0 := H1.out.Q.frozen 0; have g1 := H1.out.Q.frozen 1; have g2 := H1.out.Q.frozen 2; have g3 := H1.out.Q.frozen 3; have g4 := H1.out.Q.frozen 4; have g5 := H1.out.Q.frozen 5)
        have H := H1
        clear H1 q0 q1 q2 q3 q4 q5 g0 g1 g2 g3 g4 g5
        generalize w1 = X at *
        have q0 : X.cell? ⟨w.heap.size + 1, 0, none⟩ = some (.bool false) := H.out.Q.cell 0
        have q1 : X.cell? ⟨w.heap.size + 1, 1, none⟩ = some (.slice va cs.length vc) := H.out.Q.cell 1
        have q2 : X.cell? ⟨w.heap.size + 1, 2, none⟩ = some (.string ⟨#[]⟩) := H.out.Q.cell 2
        have q3 : X.cell? ⟨w.heap.size + 1, 3, none⟩ = some (.string (nw ws (k1 + 1))) := H.out.Q.cell 3
        have q4 : X.cell? ⟨w.heap.size + 1, 4, none⟩ = some (.bool false) := H.out.Q.cell 4
        have q5 : X.cell? ⟨w.heap.size + 1, 5, none⟩ = some (.int .i64 (-1)) := H.out.Q.cell 5
        have g0 := H.out.Q.frozen 0
        have g1 := H.out.Q.frozen 1
        have g2 := H.out.Q.frozen 2
        have g3 := H.out.Q.frozen 3
        have g4 := H.out.Q.frozen 4
        have g5 := H.out.Q.frozen 5
        obtain rfl : R = .error (k1 + 1) := by rw [← hR.out]; simp [rQ, rCnt, rFnd, rBy, rOrd, rLim, rEnd, HN0.out, hfc, hcs, hO, hOF]
        have e1 : X.cell? ⟨b, 1, none⟩ = some (.int .i64 ((k1 + 1 : Nat) : Int)) := by rw [Lib.cell_of_heap H.out.D.rd.hb]; rfl
        have e2 : X.cell? ⟨b, 2, none⟩ = some (.bool true) := by rw [Lib.cell_of_heap H.out.D.rd.hb]; rfl
        have f2 : X.frozen? ⟨b, 2, none⟩ = false := Lib.frozen_of_heap H.out.D.rd.hb 2
        have e0 : X.cell? ⟨b, 0, none⟩ = some (.slice sa ws.length sc) := by rw [Lib.cell_of_heap H.out.D.rd.hb]; rfl
        go_upto_region 20 with fail
        go_region
        have H9 := hid (H.out.call (H.out.D.rd.setb true).1 (H.out.D.rd.setb true).2).drew
        clear H e0 e1 e2 f2 q0 q1 q2 q3 q4 q5 g0 g1 g2 g3 g4 g5
        generalize (X.setCell ⟨b, 2, none⟩ (.bool true)).drew = Y at *
        have q0 : Y.cell? ⟨w.heap.size + 1, 0, none⟩ = some (.bool false) := H9.out.Q.cell 0
        have q1 : Y.cell? ⟨w.heap.size + 1, 1, none⟩ = some (.slice va cs.length vc) := H9.out.Q.cell 1
        have q2 : Y.cell? ⟨w.heap.size + 1, 2, none⟩ = some (.string ⟨#[]⟩) := H9.out.Q.cell 2
        have q3 : Y.cell? ⟨w.heap.size + 1, 3, none⟩ = some (.string (nw ws (k1 + 1))) := H9.out.Q.cell 3
        have q4 : Y.cell? ⟨w.heap.size + 1, 4, none⟩ = some (.bool false) := H9.out.Q.cell 4
        have q5 : Y.cell? ⟨w.heap.size + 1, 5, none⟩ = some (.int .i64 (-1)) := H9.out.Q.cell 5
        have g0 := H9.out.Q.frozen 0
        have g1 := H9.out.Q.frozen 1
        have g2 := H9.out.Q.frozen 2
        have g3 := H9.out.Q.frozen 3
        have g4 := H9.out.Q.frozen 4
        have g5 := H9.out.Q.frozen 5
        have p0 := H9.out.P.cell 0
        have p1 := H9.out.P.cell 1
        have p2 := H9.out.P.cell 2
        have p3 := H9.out.P.cell 3
        have p4 := H9.out.P.cell 4
        have p5 := H9.out.P.cell 5
        have f0 := H9.out.P.frozen 0
        have f1 := H9.out.P.frozen 1
        have f2 := H9.out.P.frozen 2
        have f3 := H9.out.P.frozen 3
        have f4 := H9.out.P.frozen 4
        have f5 := H9.out.P.frozen 5
        go_wp2
        refine bodyPost_ret (v := .agg #[.bool false, .slice va cs.length vc, .string ⟨#[]⟩, .string (nw ws (k1 + 1)), .bool false, .int .i64 (-1)]) (by simp [results, Tryz.results52, go_sem, p0, p1, p2, p3, p4, p5]) rfl ?_
        suffices hF : RdT w _ b (.slice sa ws.length sc) ws (k1 + 1) true from ⟨⟨_, _, _, _, _, _, _, _, rfl⟩, hF.rd, hF.gr⟩
        exact ((((((H9.out.D.set (g := w.heap.size) (Nat.le_refl _) 0 _).set (g := w.heap.size) (Nat.le_refl _) 1 _).set (g := w.heap.size) (Nat.le_refl _) 2 _).set (g := w.heap.size) (Nat.le_refl _) 3 _).set (g := w.heap.size) (Nat.le_refl _) 4 _).set (g := w.heap.size) (Nat.le_refl _) 5 _)
      · rw [hcs0] at hcs
        cases hcs
end Go.Proofs.YtimlnbfalnkmhaaGreatDoor
