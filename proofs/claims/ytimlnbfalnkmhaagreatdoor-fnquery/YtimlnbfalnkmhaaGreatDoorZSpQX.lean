/-
  What spec.QueryText answers: a contract over the seat's program.
-/
import Derived.Test.YtimlnbfalnkmhaaGreatDoorZQwM3
import Derived.Test.YtimlnbfalnkmhaaGreatDoorZImCW2
import Derived.Test.YtimlnbfalnkmhaaGreatDoorZImQW
import Derived.Test.YtimlnbfalnkmhaaGreatDoorZQyDr2
namespace Go.Proofs.YtimlnbfalnkmhaaGreatDoor
open Go.RowKit
set_option linter.unusedVariables false

set_option maxRecDepth 100000 in
set_option maxHeartbeats 4000000 in
theorem specQueryText_any (q : Qy) (a : Option Addr) (k : Nat) (w : World) (hC : CdSl w (.slice a q.cs.length k) q.cs) (hF : ∀ c ∈ q.cs, c.wrd.size ≤ maxLen) (hn : q.cs.length ≤ maxLen) :
    Calls Tryz.prog 8 #[qyV q a k] w fun e w' => e = .returned (.string (if qyB q = true then qT q else noW)) ∧ Below w.heap.size w w' := by
  have hb0 : Below w.heap.size w (w.alloc (.cells #[.bool q.cnt, .slice a q.cs.length k, .string q.by', .string q.ord, .bool q.dwn, .int .i64 q.lim] 25)) := (Below.refl _ _).alloc (Nat.le_refl _) _
  have HB0 := hid hb0
  have HC := hid (hC.stayQ hb0)
  have cR := specQueryRight_any q a k _ (hC.stayQ hb0) hF hn
  have HA := hid (heap_alloc_new w (.cells #[.bool q.cnt, .slice a q.cs.length k, .string q.by', .string q.ord, .bool q.dwn, .int .i64 q.lim] 25))
  clear hb0 hC hF hn
  by_cases hqb : qyB q = true
  · rw [if_pos hqb]
    rw [hqb] at cR
    have HW := hid (wd_all hqb)
    obtain ⟨h6, hall, hby, hord, hlim⟩ := by_parts hqb
    rw [qT_jnB]
    obtain ⟨cnt, cs, by', ord, dwn, lim⟩ := q
    unfold qyV at cR ⊢
    simp only at cR HB0 HA HC h6 hall hby hord hlim ⊢
    have HALL := hid hall
    have HBY := hid hby
    have HORD := hid hord
    have HLIM := hid hlim
    have HQ : Hid (qW ⟨cnt, cs, by', ord, dwn, lim⟩ = (((vbW cnt :: csW cs) ++ byW ⟨cnt, cs, by', ord, dwn, lim⟩) ++ orW ⟨cnt, cs, by', ord, dwn, lim⟩ ++ dwW ⟨cnt, cs, by', ord, dwn, lim⟩) ++ liW ⟨cnt, cs, by', ord, dwn, lim⟩) := hid (by unfold qW tlW vbW; simp)
    have HQB := hid hqb
    clear hall hby hord hlim hqb
    have CR := hid cR
    clear cR
    have KQ := hid (show ∀ X, Below (w.alloc (.cells #[.bool cnt, .slice a cs.length k, .string by', .string ord, .bool dwn, .int .i64 lim] 25)).heap.size (w.alloc (.cells #[.bool cnt, .slice a cs.length k, .string by', .string ord, .bool dwn, .int .i64 lim] 25)) X → X.cell? ⟨w.heap.size, 0, none⟩ = some (.bool cnt) ∧ X.cell? ⟨w.heap.size, 1, none⟩ = some (.slice a cs.length k) ∧ X.cell? ⟨w.heap.size, 2, none⟩ = some (.string by') ∧ X.cell? ⟨w.heap.size, 3, none⟩ = some (.string ord) ∧ X.cell? ⟨w.heap.size, 4, none⟩ = some (.bool dwn) ∧ X.cell? ⟨w.heap.size, 5, none⟩ = some (.int .i64 lim) ∧ Below w.heap.size w X from fun X hX => by
      obtain ⟨x0, x1, x2, x3, x4, x5⟩ := cells6 (w := w) ((hX.block _ (lt_heap HA.out)).trans HA.out)
      exact ⟨x0, x1, x2, x3, x4, x5, HB0.out.trans (hX.mono HB0.out.size)⟩)
    have hs0 : (w.alloc (.cells #[.bool cnt, .slice a cs.length k, .string by', .string ord, .bool dwn, .int .i64 lim] 25)).heap.size = w.heap.size + 1 := by simp
    clear HA HB0
    have hq0 : (0 : Int) ≤ (cs.length : Int) := by omega
    go_enter Tryz.func8, Tryz.ntmps8
    go_upto_region 1 with fail
    generalize w.alloc (.cells #[.bool cnt, .slice a cs.length k, .string by', .string ord, .bool dwn, .int .i64 lim] 25) = W0 at *
    have HS0 := hid hs0
    clear hs0
    obtain ⟨x0, x1, x2, x3, x4, x5, hbw⟩ := KQ.out _ (Below.refl _ _)
    clear hbw
    go_upto_region 3 with (go_at_call 10; refine CR.out.mono ?_; rintro e w1 ⟨rfl, hb⟩; have B1 := hid hb; clear x0 x1 x2 x3 x4 x5 hb)
    have B1 := B1
    obtain ⟨x0, x1, x2, x3, x4, x5, hbw⟩ := KQ.out _ B1.out
    clear hbw
    go_upto_if 10 with fail
    go_cut [3] from 10 to 10 (fun tv wx => tv = .string (vbW cnt) ∧ wx = w1)
    case first =>
      cases cnt
      all_goals (
        go_wp2_with fail
        go_meet
        exact ⟨rfl, rfl⟩)
    case rest =>
      obtain ⟨hs, hw⟩ := hcut
      subst hs
      subst hw
      clear x0 x1 x2 x3 x4 x5
      rename World => w1
      have hn1 : vbW cnt :: csW cs ≠ [] := by simp
      have HVB : Hid (WdOk (vbW cnt)) := hid (by unfold vbW; split <;> exact wd_cst (by decide))
      generalize hV : vbW cnt = vb at *
      go_wp2_with fail
      go_loopw [3, 4] (fun tv iv wr => ∃ k : Nat, iv = .int .i64 (k : Int) ∧ k ≤ cs.length ∧ tv = .string (jnB (vb :: csW (cs.take k))) ∧ Below W0.heap.size W0 wr) (fun _ iv _ => cs.length - (intOf iv).toNat)
      case atStart => exact ⟨0, rfl, Nat.zero_le _, by rw [List.take_zero]; exact congrArg Value.string (jnB_one vb).symm, B1.out⟩
      case round =>
        obtain ⟨k1, rfl, hk, rfl, hbel⟩ := hrel
        have B := hid hbel
        have hsz := hbel.size
        clear hbel
        obtain ⟨x0, x1, x2, x3, x4, x5, hbw⟩ := KQ.out _ B.out
        have HBW := hid hbw
        clear hbw
        by_cases hlt : k1 < cs.length
        · have zk : (k1 : Int) < (cs.length : Int) := by omega
          obtain ⟨g, o, rfl, hE⟩ := (HC.out.stayQ B.out).rowQ (by omega)
          obtain ⟨z0, z1, z2, z3⟩ := hE.2 k1 hlt
          have hcb := HALL.out _ (List.getElem_mem hlt)
          have hsn := hid (csW_take hlt)
          clear hE
          generalize cs[k1] = c at *
          obtain ⟨d0, d1, d2⟩ := wd_cd hcb
          have hNr : numF c.fld = true → 0 ≤ c.n ∧ c.n ≤ 1000000 := fun h => by rw [cdB_num h] at hcb; simp only [Bool.and_eq_true, decide_eq_true_eq] at hcb; exact hcb.2.2.2
          have HT : Hid (jnB (vb :: csW (cs.take (k1 + 1))) = (((((jnB (vb :: csW (cs.take k1)) ++ (spW ++ (if k1 = 0 then qWhere else qAnd) ++ spW)) ++ c.fld) ++ spW) ++ c.op) ++ spW) ++ opnd c) := hid (by rw [hsn.out, ← List.cons_append, jnB_cd _ _ (by simp)])
          have hjs : (jnB (vb :: csW (cs.take k1))).size ≤ 1000 := by
            have h1 := jnB_size (ws := vb :: csW (cs.take k1)) (fun x hx => by
              rcases List.mem_cons.1 hx with rfl | hx
              · exact HVB.out
              · exact wd_csW (fun c hc => HALL.out c (List.mem_of_mem_take hc)) x hx)
            rw [List.length_cons, csW_len, List.length_take] at h1
            omega
          clear hsn hcb
          generalize jnB (vb :: csW (cs.take k1)) = T at *
          have s0 := d0.2.1
          have s1 := d1.2.1
          have s2 := d2.2.1
          clear d0 d1 d2
          have c1 := hid (fun W => l05Number_any c.fld W)
          have c2 := hid (fun W h => l01Dec_any c.n W (hNr h).1 (by have := (hNr h).2; omega))
          have hop : Hid (opnd c = if numF c.fld then decI c.n else c.wrd) := hid rfl
          generalize opnd c = ow at *
          clear hNr
          obtain ⟨f, ox, t, n⟩ := c
          simp only at z0 z1 z2 z3 HT s0 s1 c1 c2 hop
          generalize numF f = nf at *
          have hb5 : Below wr.heap.size wr (wr.alloc (.cells #[.string f, .string ox, .string t, .int .i64 n] 67)) := (Below.refl _ _).alloc (Nat.le_refl _) _
          have HB5 := hid hb5
          have HA5 := hid (heap_alloc_new wr (.cells #[.string f, .string ox, .string t, .int .i64 n] 67))
          clear hb5
          go_upto_region 10 with fail
          generalize wr.alloc (.cells #[.string f, .string ox, .string t, .int .i64 n] 67) = W5 at *
          clear z0 z1 z2 z3
          have z0 : W5.cell? ⟨wr.heap.size, 0, none⟩ = some (.string f) := by rw [Lib.cell_of_heap HA5.out]; rfl
          have z1 : W5.cell? ⟨wr.heap.size, 1, none⟩ = some (.string ox) := by rw [Lib.cell_of_heap HA5.out]; rfl
          have z2 : W5.cell? ⟨wr.heap.size, 2, none⟩ = some (.string t) := by rw [Lib.cell_of_heap HA5.out]; rfl
          have z3 : W5.cell? ⟨wr.heap.size, 3, none⟩ = some (.int .i64 n) := by rw [Lib.cell_of_heap HA5.out]; rfl
          have hl5 := lt_heap HA5.out
          have B5 := hid (B.out.trans (HB5.out.mono hsz))
          have hs5 := B5.out.size
          clear HB5 HA5 B x0 x1 x2 x3 x4 x5 HBW
          generalize hgb : wr.heap.size = gb at *
          clear hgb hsz
          have v1 : (⟨#[32, 119, 104, 101, 114, 101, 32]⟩ : ByteArray).size = 7 := rfl
          have v2 : (⟨#[32, 97, 110, 100, 32]⟩ : ByteArray).size = 5 := rfl
          have v3 : (⟨#[32]⟩ : ByteArray).size = 1 := rfl
          have hk0 : (k1 = 0 ∧ ((k1 : Int) == 0) = true) ∨ (¬ k1 = 0 ∧ ((k1 : Int) == 0) = false) := by
            by_cases h0 : k1 = 0
            · exact .inl ⟨h0, by simp [h0]⟩
            · exact .inr ⟨h0, by simp; omega⟩
          rcases hk0 with ⟨h0, h0'⟩ | ⟨h0, h0'⟩
          · rw [if_pos h0, show (spW ++ qWhere ++ spW : ByteArray) = ⟨#[32, 119, 104, 101, 114, 101, 32]⟩ by decide] at HT
            subst h0
            cases nf with
            | true =>
              have e9 : ow = decI n := hop.out
              rw [e9] at s2 HT
              generalize decI n = dn at *
              go_wp2_with (first | (go_at_call 35; refine (c1.out _).mono ?_; rintro e w5 ⟨rfl, hb5⟩; have B6 := hid (B5.out.trans (hb5.mono hs5)); have y2 := (hb5.cell (p := ⟨gb, 2, none⟩) hl5).trans z2; have y3 := (hb5.cell (p := ⟨gb, 3, none⟩) hl5).trans z3; have hs6 := B6.out.size; clear hb5 z0 z1 z2 z3) | (go_at_call 36; refine (c2.out _ (by trivial)).mono ?_; rintro e w6 ⟨rfl, hb6⟩; have B7 := hid (B6.out.trans (hb6.mono hs6)); clear hb6))
              exact ⟨⟨0 + 1, by go_num, by omega, by rw [HT.out], B7.out⟩, by simp [intOf]; omega⟩
            | false =>
              have e9 : ow = t := hop.out
              rw [e9] at s2 HT
              go_wp2_with (go_at_call 35; refine (c1.out _).mono ?_; rintro e w5 ⟨rfl, hb5⟩; have B6 := hid (B5.out.trans (hb5.mono hs5)); have y2 := (hb5.cell (p := ⟨gb, 2, none⟩) hl5).trans z2; have y3 := (hb5.cell (p := ⟨gb, 3, none⟩) hl5).trans z3; have hs6 := B6.out.size; clear hb5 z0 z1 z2 z3)
              exact ⟨⟨0 + 1, by go_num, by omega, by rw [HT.out], B6.out⟩, by simp [intOf]; omega⟩
          · rw [if_neg h0, show (spW ++ qAnd ++ spW : ByteArray) = ⟨#[32, 97, 110, 100, 32]⟩ by decide] at HT
            cases nf with
            | true =>
              have e9 : ow = decI n := hop.out
              rw [e9] at s2 HT
              generalize decI n = dn at *
              go_wp2_with (first | (go_at_call 35; refine (c1.out _).mono ?_; rintro e w5 ⟨rfl, hb5⟩; have B6 := hid (B5.out.trans (hb5.mono hs5)); have y2 := (hb5.cell (p := ⟨gb, 2, none⟩) hl5).trans z2; have y3 := (hb5.cell (p := ⟨gb, 3, none⟩) hl5).trans z3; have hs6 := B6.out.size; clear hb5 z0 z1 z2 z3) | (go_at_call 36; refine (c2.out _ (by trivial)).mono ?_; rintro e w6 ⟨rfl, hb6⟩; have B7 := hid (B6.out.trans (hb6.mono hs6)); clear hb6))
              exact ⟨⟨k1 + 1, by go_num, by omega, by rw [HT.out], B7.out⟩, by simp [intOf]; omega⟩
            | false =>
              have e9 : ow = t := hop.out
              rw [e9] at s2 HT
              go_wp2_with (go_at_call 35; refine (c1.out _).mono ?_; rintro e w5 ⟨rfl, hb5⟩; have B6 := hid (B5.out.trans (hb5.mono hs5)); have y2 := (hb5.cell (p := ⟨gb, 2, none⟩) hl5).trans z2; have y3 := (hb5.cell (p := ⟨gb, 3, none⟩) hl5).trans z3; have hs6 := B6.out.size; clear hb5 z0 z1 z2 z3)
              exact ⟨⟨k1 + 1, by go_num, by omega, by rw [HT.out], B6.out⟩, by simp [intOf]; omega⟩
        · -- TAIL
          obtain rfl : k1 = cs.length := by omega
          clear HVB HALL HC B1 x0 x1 x2 x3 x4 x5 HBW
          rw [List.take_length]
          have HP0 := hid (jnB_pre (A := (vb :: csW cs)) HQB.out (by rw [HQ.out, List.append_assoc, List.append_assoc, List.append_assoc]))
          have HP1 := hid (jnB_pre (A := ((vb :: csW cs) ++ byW ⟨cnt, cs, by', ord, dwn, lim⟩)) HQB.out (by rw [HQ.out, List.append_assoc, List.append_assoc]))
          have HP2 := hid (jnB_pre (A := (((vb :: csW cs) ++ byW ⟨cnt, cs, by', ord, dwn, lim⟩) ++ orW ⟨cnt, cs, by', ord, dwn, lim⟩)) HQB.out (by rw [HQ.out, List.append_assoc]))
          have HP3 := hid (jnB_pre (A := ((((vb :: csW cs) ++ byW ⟨cnt, cs, by', ord, dwn, lim⟩) ++ orW ⟨cnt, cs, by', ord, dwn, lim⟩) ++ dwW ⟨cnt, cs, by', ord, dwn, lim⟩)) HQB.out (by rw [HQ.out]))
          have hl0 : (vb :: csW cs) ≠ [] := by simp
          have W1 : ∀ x : ByteArray, WdOk x → x.size ≤ 20 := fun x h => h.2.1
          generalize (vb :: csW cs) = l0 at *
          have e0 : (by'.toList == []) = decide (by' = noW) := lit_b by' [] noW rfl
          have e1 : (ord.toList == []) = decide (ord = noW) := lit_b ord [] noW rfl
          obtain ⟨x0, x1, x2, x3, x4, x5, hbw⟩ := KQ.out _ B.out
          clear hbw
          have hz := HP0.out
          have hsz := B.out.size
          generalize hd0 : decide (by' = noW) = b0 at *
          go_upto_if 52 with fail
          go_cut [3] from 53 to 57 (fun tv wx => tv = .string (jnB (l0 ++ byW ⟨cnt, cs, by', ord, dwn, lim⟩)) ∧ Below W0.heap.size W0 wx)
          case first =>
            cases b0 with
            | true =>
              have hw : byW ⟨cnt, cs, by', ord, dwn, lim⟩ = [] := by have h := of_decide_eq_true hd0; unfold byW; rw [if_pos (show by' = noW from h)]
              go_wp2_with fail
              go_meet
              exact ⟨by rw [hw, List.append_nil], B.out⟩
            | false =>
              have hne : ¬ (by' = noW) := of_decide_eq_false hd0
              have hw : byW ⟨cnt, cs, by', ord, dwn, lim⟩ = [qBy, by'] := by unfold byW; rw [if_neg (show ¬ (by' = noW) from hne)]
              have hxs : by'.size ≤ 20 := W1 _ (wd_fld (HBY.out.resolve_left hne))
              have HE : Hid (jnB (l0 ++ [qBy, by']) = (jnB l0 ++ ⟨#[32, 98, 121, 32]⟩) ++ by') := hid (by rw [jnB_two _ _ hl0, show (spW ++ qBy ++ spW : ByteArray) = ⟨#[32, 98, 121, 32]⟩ by decide])
              have hv : (⟨#[32, 98, 121, 32]⟩ : ByteArray).size = 4 := rfl
              generalize jnB l0 = T at *
              go_wp2_with fail
              go_meet
              exact ⟨by rw [hw, HE.out], B.out⟩
          case rest =>
            obtain ⟨hs, hb⟩ := hcut
            subst hs
            clear x0 x1 x2 x3 x4 x5 B hz hsz e0 hd0
            have B := hid hb
            clear hb
            have hl1 : l0 ++ byW ⟨cnt, cs, by', ord, dwn, lim⟩ ≠ [] := by simp [hl0]
            generalize (l0 ++ byW ⟨cnt, cs, by', ord, dwn, lim⟩) = l1 at *
            obtain ⟨x0, x1, x2, x3, x4, x5, hbw⟩ := KQ.out _ B.out
            clear hbw
            have hz := HP1.out
            have hsz := B.out.size
            generalize hd1 : decide (ord = noW) = b1 at *
            go_upto_if 60 with fail
            go_cut [3] from 61 to 65 (fun tv wx => tv = .string (jnB (l1 ++ orW ⟨cnt, cs, by', ord, dwn, lim⟩)) ∧ Below W0.heap.size W0 wx)
            case first =>
              cases b1 with
              | true =>
                have hw : orW ⟨cnt, cs, by', ord, dwn, lim⟩ = [] := by have h := of_decide_eq_true hd1; unfold orW; rw [if_pos (show ord = noW from h)]
                go_wp2_with fail
                go_meet
                exact ⟨by rw [hw, List.append_nil], B.out⟩
              | false =>
                have hne : ¬ (ord = noW) := of_decide_eq_false hd1
                have hw : orW ⟨cnt, cs, by', ord, dwn, lim⟩ = [qOrder, ord] := by unfold orW; rw [if_neg (show ¬ (ord = noW) from hne)]
                have hxs : ord.size ≤ 20 := W1 _ (wd_num (HORD.out.resolve_left hne))
                have HE : Hid (jnB (l1 ++ [qOrder, ord]) = (jnB l1 ++ ⟨#[32, 111, 114, 100, 101, 114, 32]⟩) ++ ord) := hid (by rw [jnB_two _ _ hl1, show (spW ++ qOrder ++ spW : ByteArray) = ⟨#[32, 111, 114, 100, 101, 114, 32]⟩ by decide])
                have hv : (⟨#[32, 111, 114, 100, 101, 114, 32]⟩ : ByteArray).size = 7 := rfl
                generalize jnB l1 = T at *
                go_wp2_with fail
                go_meet
                exact ⟨by rw [hw, HE.out], B.out⟩
            case rest =>
              obtain ⟨hs, hb⟩ := hcut
              subst hs
              clear x0 x1 x2 x3 x4 x5 B hz hsz e1 hd1
              have B := hid hb
              clear hb
              have hl2 : l1 ++ orW ⟨cnt, cs, by', ord, dwn, lim⟩ ≠ [] := by simp [hl1]
              generalize (l1 ++ orW ⟨cnt, cs, by', ord, dwn, lim⟩) = l2 at *
              obtain ⟨x0, x1, x2, x3, x4, x5, hbw⟩ := KQ.out _ B.out
              clear hbw
              have hz := HP2.out
              have hsz := B.out.size
              go_upto_if 67 with fail
              go_cut [3] from 68 to 69 (fun tv wx => tv = .string (jnB (l2 ++ dwW ⟨cnt, cs, by', ord, dwn, lim⟩)) ∧ Below W0.heap.size W0 wx)
              case first =>
                cases dwn with
                | true =>
                  have hw : ∀ d, d = true → dwW ⟨cnt, cs, by', ord, d, lim⟩ = [qDesc] := fun d h => by subst h; rfl
                  have HE : Hid (jnB (l2 ++ [qDesc]) = jnB l2 ++ ⟨#[32, 100, 101, 115, 99]⟩) := hid (by rw [jnB_snoc _ hl2, ByteArray.append_assoc, show (spW ++ qDesc : ByteArray) = ⟨#[32, 100, 101, 115, 99]⟩ by decide])
                  have hv : (⟨#[32, 100, 101, 115, 99]⟩ : ByteArray).size = 5 := rfl
                  generalize jnB l2 = T at *
                  go_wp2_with fail
                  go_meet
                  exact ⟨by rw [hw _ rfl, HE.out], B.out⟩
                | false =>
                  have hw : ∀ d, d = false → dwW ⟨cnt, cs, by', ord, d, lim⟩ = [] := fun d h => by subst h; rfl
                  go_wp2_with fail
                  go_meet
                  exact ⟨by rw [hw _ rfl, List.append_nil], B.out⟩
              case rest =>
                obtain ⟨hs, hb⟩ := hcut
                subst hs
                clear x0 x1 x2 x3 x4 x5 B hz hsz
                have B := hid hb
                clear hb
                have hl3 : l2 ++ dwW ⟨cnt, cs, by', ord, dwn, lim⟩ ≠ [] := by simp [hl2]
                generalize (l2 ++ dwW ⟨cnt, cs, by', ord, dwn, lim⟩) = l3 at *
                obtain ⟨x0, x1, x2, x3, x4, x5, hbw⟩ := KQ.out _ B.out
                clear hbw
                have hz := HP3.out
                have hsz := B.out.size
                have hlb : (lim = -1 ∧ ¬ (0 ≤ lim)) ∨ (0 ≤ lim ∧ lim ≤ 200) := by have := HLIM.out; omega
                go_upto_if 72 with fail
                generalize hd3 : decide (0 ≤ lim) = b3 at *
                go_cut [3] from 73 to 78 (fun tv wx => tv = .string (jnB (l3 ++ liW ⟨cnt, cs, by', ord, dwn, lim⟩)) ∧ Below W0.heap.size W0 wx)
                case first =>
                  cases b3 with
                  | true =>
                    have hq1 : 0 ≤ lim := of_decide_eq_true hd3
                    have hq2 : lim ≤ 200 := by omega
                    have hw : liW ⟨cnt, cs, by', ord, dwn, lim⟩ = [qLimit, decI lim] := by unfold liW; rw [if_neg (show ¬ (lim = -1) by omega)]
                    have hxs : (decI lim).size ≤ 20 := W1 _ (wd_dec hq1 (by omega))
                    have cD := hid (fun W => l01Dec_any lim W hq1 (by omega))
                    have HE : Hid (jnB (l3 ++ [qLimit, decI lim]) = (jnB l3 ++ ⟨#[32, 108, 105, 109, 105, 116, 32]⟩) ++ (decI lim)) := hid (by rw [jnB_two _ _ hl3, show (spW ++ qLimit ++ spW : ByteArray) = ⟨#[32, 108, 105, 109, 105, 116, 32]⟩ by decide])
                    have hv : (⟨#[32, 108, 105, 109, 105, 116, 32]⟩ : ByteArray).size = 7 := rfl
                    generalize jnB l3 = T at *
                    generalize decI lim = dn at *
                    go_wp2_with (go_at_call 36; refine (cD.out _).mono ?_; rintro e w6 ⟨rfl, hb6⟩; have B7 := hid (B.out.trans (hb6.mono hsz)); clear hb6)
                    go_meet
                    exact ⟨by rw [hw, HE.out], B7.out⟩
                  | false =>
                    have hq1 : ¬ (0 ≤ lim) := of_decide_eq_false hd3
                    have hw : liW ⟨cnt, cs, by', ord, dwn, lim⟩ = [] := by unfold liW; rw [if_pos (show lim = -1 by omega)]
                    go_wp2_with fail
                    go_meet
                    exact ⟨by rw [hw, List.append_nil], B.out⟩
                case rest =>
                  obtain ⟨hs, hb⟩ := hcut
                  subst hs
                  clear x0 x1 x2 x3 x4 x5 B hz hsz
                  have B := hid hb
                  clear hb
                  have hl4 : l3 ++ liW ⟨cnt, cs, by', ord, dwn, lim⟩ ≠ [] := by simp [hl3]
                  have HBW := hid (KQ.out _ B.out).2.2.2.2.2.2
                  go_wp2_with fail
                  go_ret
                  exact ⟨by rw [HQ.out]; rfl, HBW.out⟩
  · rw [if_neg hqb]
    rw [show qyB q = false by simpa using hqb] at cR
    obtain ⟨cnt, cs, by', ord, dwn, lim⟩ := q
    unfold qyV at cR ⊢
    simp only at cR HB0 HA ⊢
    have CR := hid cR
    clear cR HC hqb
    obtain ⟨x0, x1, x2, x3, x4, x5⟩ := cells6 (w := w) HA.out
    go_enter Tryz.func8, Tryz.ntmps8
    go_wp2_with (go_at_call 10; refine CR.out.mono ?_; rintro e w1 ⟨rfl, hb⟩; have HBW := hid (HB0.out.trans (hb.mono HB0.out.size)); clear hb)
    go_ret
    exact ⟨rfl, HBW.out⟩
end Go.Proofs.YtimlnbfalnkmhaaGreatDoor
