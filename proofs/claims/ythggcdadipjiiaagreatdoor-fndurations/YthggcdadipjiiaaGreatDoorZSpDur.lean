/-
  What spec.Durations answers: a contract over the seat's program.
-/
import Derived.Test.YthggcdadipjiiaaGreatDoorZDuH3
import Derived.Test.YthggcdadipjiiaaGreatDoorZSpStA5
import Derived.Test.YthggcdadipjiiaaGreatDoorZSpSet24
import Derived.Laws.OwnMore
import Derived.Test.YthggcdadipjiiaaGreatDoorZSpRun6
import Derived.Deep.QuietTactic
import Derived.BigQuiet
import Derived.Deep.RegionHeld3
namespace Go.Proofs.YthggcdadipjiiaaGreatDoor
open Go.RowKit Go.Sort Go.Shelf
set_option linter.unusedVariables false
theorem own_blkc {w : World} {base size g c n : Nat} {e : TypeId} {xs : List Value} (h : w.ownsRow base e size (.slice (some ⟨g, 0, none⟩) n c) n xs) : ∃ L, w.heap[g]? = some (.cells L e (0, 0)) := by
  rcases h.2 with ⟨h0, _⟩ | ⟨g', cap, cur, hv, hb, hh, hle, hcm, hcs, hct⟩
  · cases h0
  · injection hv with e1 _ _
    injection e1 with e1
    injection e1 with e1 _
    subst e1
    exact ⟨_, hh⟩
theorem durs_own {w : World} {base n c g : Nat} {e : TypeId} {l : List Dur} (h : w.ownsRow base e 5 (.slice (some ⟨g, 0, none⟩) n c) n (dflat l)) : DursAt w g 0 l ∧ n ≤ c ∧ c ≤ maxLen := by
  refine ⟨⟨(h.lt g rfl).2, fun j u hj => ?_⟩, ?_⟩
  · rw [Nat.zero_add]; exact (own_cellf h).1 j u hj
  · rcases h.2 with ⟨h0, _⟩ | ⟨g', cap, cur, hv, hb, hh, hle, hcm, hcs, hct⟩
    · cases h0
    · injection hv with _ _ e3
      subst e3
      exact ⟨hle, hcm⟩
theorem bel_dn {B : Nat} {w w' : World} (h : Below B w w') (n : Nat) : Below B w (w'.drewN n) := ⟨h.os, h.tape, h.output, h.size, h.block⟩
theorem Tryz.infoBool : (Tryz.prog.info? 4).map (fun i => (i.zero, i.size, i.bytes)) = some (some (.bool false), 1, 1) := by kernel_rfl
theorem addD_pos (l : List Dur) (s : ByteArray) (n : Int) : 0 < (addD l s n).length := by
  cases l with
  | nil => simp [addD]
  | cons d r =>
    unfold addD
    split
    · simp
    · split <;> simp
set_option maxRecDepth 100000 in
set_option maxHeartbeats 4000000 in
theorem spDur_of (a1 a2 a6 : Option Addr) (k1 k2 k6 : Nat) (ss : List ByteArray) (fs : List Pr) (es : List Ev) (w : World) (hE : EvSl w (.slice a6 es.length k6) es) (n6 : es.length ≤ maxLen)
    (cR : ∀ X, Below w.heap.size w X → Calls Tryz.prog 29 #[defV a1 a2 k1 k2 ss fs, .slice a6 es.length k6] X fun x w' => RetB x (HistP ss fs es) ∧ Below X.heap.size X w') :
    Calls Tryz.prog 7 #[defV a1 a2 k1 k2 ss fs, .slice a6 es.length k6] w fun e w' => ∃ l b m, e = .returned (.slice b l.length m) ∧ w'.ownsRow w.heap.size 35 5 (.slice b l.length m) l.length (dflat l) ∧ Below w.heap.size w w' ∧ (HistP ss fs es → l = dursI es es.length) ∧ (¬ HistP ss fs es → l = []) := by
  have mixed : Tryz.prog.follows .mixedOrders = true := by kernel_rfl
  have hbW : Below w.heap.size w (w.alloc (.cells #[.slice a1 ss.length k1, .slice a2 fs.length k2] 26)) := (Below.refl _ _).alloc (Nat.le_refl _) _
  have hW0 := hid (show (w.alloc (.cells #[.slice a1 ss.length k1, .slice a2 fs.length k2] 26)).heap.size = w.heap.size + 1 by simp)
  have HX := hid (heap_alloc_new w (.cells #[.slice a1 ss.length k1, .slice a2 fs.length k2] 26))
  have HEw := hid hE
  have HEW := hid (hE.stay hbW (Nat.le_refl _))
  have HBW := hid hbW
  have CR := hid cR
  have N6 := hid n6
  clear hE hbW cR n6
  go_enter Tryz.func7, Tryz.ntmps7
  go_wp2_with fail
  generalize hW : w.alloc (.cells #[.slice a1 ss.length k1, .slice a2 fs.length k2] 26) = W at *
  clear hW
  have HO0 := hid (ownB_le (own_made5 W 35) HBW.out.size)
  have HB0 := hid (HBW.out.alloc HBW.out.size (.cells #[] 35))
  have HE0 := hid (HEW.out.stay ((Below.refl W.heap.size W).alloc (Nat.le_refl _) (.cells #[] 35)) (Nat.le_refl _))
  refine (CR.out _ HB0.out).mono ?_
  generalize hX : W.alloc (.cells #[] 35) = X at *
  have hzX : X.heap.size = w.heap.size + 1 + 1 := by rw [← hX]; simp [hW0.out]
  rw [hW0.out] at *
  clear hX HX HEW HBW CR
  rintro x W1 ⟨⟨B1, rfl, T⟩, hb1⟩
  have HO1 := hid (ownB_stay HO0.out hb1)
  have HE1 := hid (HE0.out.stay hb1 (Nat.le_refl _))
  have HB1 := hid (HB0.out.trans (hb1.mono HB0.out.size))
  have hz1 := hb1.size
  have HT := hid T
  clear hb1 T HO0 HE0 HB0
  cases B1 with
  | false =>
    have HN := hid (show ¬ HistP ss fs es from fun h => absurd (HT.out.yes h) (by decide))
    go_wp2
    go_ret
    exact ⟨[], _, _, rfl, HO1.out, HB1.out, fun h => absurd h HN.out, fun _ => rfl⟩
  | true =>
    have HY := hid (show HistP ss fs es from HT.out.1 rfl)
    have h200 := HY.out.n
    clear HT
    obtain ⟨i0, hi, hz0, hzz, hz2⟩ := info_parts Tryz.infoBool
    go_wp2_with (at_make; refine wpList_make_full _ rfl _ _ 68 rfl W1.heap.size 4 i0 _ 1 Tryz.underlying68 hi hz0 hzz _ _ _ _ es.length rfl rfl ?m1 ?m2 ?m3 ?m4 (Nat.le_refl _) ?_)
    case m1 => omega
    case m2 => omega
    case m3 => rw [hz2]; omega
    case m4 => unfold maxLen; omega
    intro W2 hown hgrow
    have hB2 : Below W1.heap.size W1 W2 := (Below.refl _ _).grown hgrow (Nat.le_refl _) (fun k h => by cases h)
    have HO2 := hid (ownB_stay HO1.out hB2)
    have HE2 := hid (HE1.out.stay hB2 (Nat.le_refl _))
    have HB2 := hid (HB1.out.trans (hB2.mono (by have := HB1.out.size; omega)))
    rw [toList_madeCells_one, ← tkL_zero] at hown
    have HT2 := hid (ownB_le hown (show w.heap.size ≤ W1.heap.size by omega))
    have HG := hid (show w.heap.size ≤ W1.heap.size by omega)
    generalize W1.heap.size = G at *
    clear hown hgrow hi hz0 hzz hz2 hB2 HO1 HE1 HB1 i0 hz1
    go_wp2
    go_loopw [5, 7] (fun v q wr => ∃ (i gb m : Nat), i ≤ es.length ∧ q = .int .i64 i ∧ v = .slice (some ⟨gb, 0, none⟩) (dursI es i).length m ∧ wr.ownsRow w.heap.size 35 5 (.slice (some ⟨gb, 0, none⟩) (dursI es i).length m) (dursI es i).length (dflat (dursI es i)) ∧ wr.ownsRow w.heap.size 4 1 (.slice (some ⟨G, 0, none⟩) es.length es.length) es.length (tkL es i) ∧ EvSl wr (.slice a6 es.length k6) es ∧ Below w.heap.size w wr) (fun _ i _ => es.length - (intOf i).toNat)
    case atStart => exact ⟨0, _, _, Nat.zero_le _, rfl, rfl, HO2.out, HT2.out, HE2.out, HB2.out⟩
    case round =>
      obtain ⟨i, gb, m, hi, rfl, rfl, hO, hT, hE, hB⟩ := hrel
      have HO := hid hO
      have HT := hid hT
      have HE := hid hE
      have HB := hid hB
      clear hO hT hE hB HO2 HT2 HE2 HB2
      by_cases hlt : i < es.length
      · have hEi := HE.out
        obtain ⟨g, o, rfl, hQ⟩ := hEi.row (by omega)
        have d3 := (hQ.2 i hlt).c3
        clear hEi
        have HQ := hid hQ
        clear hQ
        by_cases h3 : es[i].kind = 3
        · obtain ⟨k0, hk0, h0, h2, hr, hs, hL⟩ := leave_k HY.out hlt h3
          obtain ⟨hF, hP⟩ := leave_first hlt hk0 h0 h2 hr hs hL
          have HOL := hid (dursI_leave hlt h3 hk0 h2 hr hs hL)
          have HTL := hid (tkL_leave HY.out hlt h3 hk0 h0 h2 hr hs hL)
          have HF := hid hF
          have HP := hid hP
          have HK := hid (And.intro h2 (And.intro hr hs))
          have HDB := hid (dursI_B HY.out (Nat.le_of_lt hlt))
          have HDL := hid (dursI_len es i)
          rw [h3] at d3
          clear hL hF hP h2 hr hs
          obtain ⟨W3, rfl⟩ : ∃ q, q = wr := ⟨_, rfl⟩
          go_wp2
          go_loopw [5, 8] (fun v q wk => ∃ k : Nat, k ≤ k0 ∧ q = .int .i64 k ∧ v = .slice (some ⟨gb, 0, none⟩) (dursI es i).length m ∧ Below W3.heap.size W3 wk) (fun _ k _ => i - (intOf k).toNat)
          case atStart => exact ⟨0, Nat.zero_le _, rfl, rfl, Below.refl _ _⟩
          case round =>
            obtain ⟨k, hk, rfl, rfl, hbk⟩ := hrel
            have HOk := hid (ownB_stay HO.out hbk)
            have HTk := hid (ownB_stay HT.out hbk)
            have HEk := hid (HE.out.stay hbk (Nat.le_refl _))
            have HBk := hid (HB.out.trans (hbk.mono HB.out.size))
            have hQk := HQ.out.stay hbk (Nat.le_refl _)
            have HBB := hid hbk
            clear hbk d3
            have hki : k < i := by omega
            have hkn : k < es.length := by omega
            have ct : wr.cell? ⟨G, k, none⟩ = some (.bool (tkn es i k)) := (own_cellf HTk.out).1 k _ (tkL_at es i hkn)
            obtain ⟨c0, c1, c2, c3, c4, c5⟩ := hQk.2 k hkn
            obtain ⟨e0, e1, e2, e3, e4, e5⟩ := hQk.2 i hlt
            clear hQk c0 c5 e0 e3 e5
            have q1 : (0 : Int) ≤ (k : Int) := by omega
            have q2 : (k : Int) < (es.length : Int) := by omega
            have q3 : (0 : Int) ≤ (i : Int) := by omega
            have q4 : (i : Int) < (es.length : Int) := by omega
            have q5 : (k : Int) < (i : Int) := by omega
            by_cases hkk : k = k0
            · subst hkk
              obtain ⟨h2, hr, hs⟩ := HK.out
              rw [HF.out] at ct
              rw [h2] at c3
              rw [hr] at c2
              rw [hs] at c4
              clear HP HF HK h2 hr hs h3
              have HBD := hid (show -1000000000 ≤ es[i].time - es[k].time ∧ es[i].time - es[k].time ≤ 1000000000 by have t1 := HY.out.time i hlt; have t2 := HY.out.time k hkn; omega)
              generalize es[i].run = ri at *
              generalize hS : es[i].step = si at *
              generalize hT1 : es[i].time = t1 at *
              generalize hT2 : es[k].time = t2 at *
              go_wp2_with fail
              go_quiet (fail)
              have HO3 := hid (ownB_stay HOk.out (bel_dn (Below.refl _ _) nq))
              have HT3 := hid (ownB_stay HTk.out (bel_dn (Below.refl _ _) nq))
              have HE3 := hid (HEk.out.stay (bel_dn (Below.refl _ _) nq) (Nat.le_refl _))
              have HB3 := hid (bel_dn HBk.out nq)
              clear ct c2 c3 c4 e2 HOk HTk HEk HBk HBB c1 e1 e4
              generalize wr.drewN nq = W4 at *
              obtain ⟨hC4, hF4⟩ := own_cellf HT3.out
              have ct : W4.cell? ⟨G, k, none⟩ = some (.bool (tkn es i k)) := hC4 k _ (tkL_at es i hkn)
              have ft := hF4 k
              go_wp2_with fail
              have HT5 := hid (own_setc (i := k) HT3.out (.bool true))
              rw [HTL.out] at HT5
              have hC5 : Chg (fun j => j = G) W4 (W4.setCell ⟨G, k, none⟩ (.bool true)) := Chg.of_grown (grown_set W4 G k (.bool true)) rfl
              have HO5 := hid (own_chg HO3.out hC5 (own_ne HO3.out (own_blkc HT3.out).choose_spec (by decide)))
              have HB5 := hid (HB3.out.setCell (p := ⟨G, k, none⟩) HG.out (.bool true))
              have hE5 := HEw.out.stay HB5.out (Nat.le_refl _)
              obtain ⟨g9, o9, he9, hQ5⟩ := hE5.row (by omega)
              injection he9 with he9
              injection he9 with e1 e2
              subst e1; subst e2
              obtain ⟨_, c1, _, _, _, _⟩ := hQ5.2 k hkn
              obtain ⟨_, e1, _, _, e4, _⟩ := hQ5.2 i hlt
              rw [hT2] at c1
              rw [hT1] at e1
              rw [hS] at e4
              obtain ⟨hD5, hcap, hcm⟩ := durs_own HO5.out
              have lg := hQ5.1
              generalize W4.setCell ⟨G, k, none⟩ (.bool true) = W5 at *
              have cD := hid (fun (X : World) (hX : Below W5.heap.size W5 X) => l04Add_any gb 0 m (dursI es i) si (t1 - t2) X (hD5.stay hX (Nat.le_refl _)) hcap (by have := HDL.out; omega) hcm HDB.out HBD.out)
              have hbR : Below W5.heap.size W5 W5.drew := (Below.refl _ _).drew
              clear hQ5 hE5 hD5 ct ft hC4 hF4 hC5
              -- REGION14
              refine wp_region_ok mixed 19 [[],[],[],[1,2],[1,2,3],[1,2,3,4],[],[],[6,7],[6,7,8],[6,7,8,9],[],[],[11,12],[11,12,13],[11,12,13,14],[6,7,8,9,10,11,12,13,14,15],[0,1,2,3,4,5,6,7,8,9,10,11,12,13,14,15,16],[0,1,2,3,4,5,6,7,8,9,10,11,12,13,14,15,16,17]] (fun v => { tmps := #[defV a1 a2 k1 k2 ss fs, .slice (some ⟨g, o, none⟩) es.length k6, .pointer (some ⟨w.heap.size, 0, none⟩), undef, .slice none 0 0, v 18, .slice (some ⟨G, 0, none⟩) es.length es.length, .int .i64 (i : Nat), .int .i64 (k : Nat), .slice (some ⟨w.heap.size + 1, 0, none⟩) 0 0, .agg #[.slice a1 ss.length k1, .slice a2 fs.length k2], .slice (some ⟨g, o, none⟩) es.length k6, .bool true, .bool false, undef, .slice (some ⟨g, o, none⟩) es.length k6, .int .i64 (es.length : Nat), .slice (some ⟨G, 0, none⟩) es.length es.length, .int .i64 (i : Nat), .slice (some ⟨g, o, none⟩) es.length k6, .int .i64 (es.length : Nat), .bool true, u22, u23, .slice (some ⟨g, o, none⟩) es.length k6, .int .i64 (i : Nat), .pointer (some ⟨g, o + i * 6, none⟩), .pointer (some ⟨g, o + i * 6 + 3, none⟩), .int .i64 3, .bool false, .int .i64 (k : Nat), .int .i64 (i : Nat), .bool true, u33, u34, .slice (some ⟨G, 0, none⟩) es.length es.length, .int .i64 (k : Nat), .pointer (some ⟨G, k, none⟩), .bool false, .bool true, .bool true, .slice (some ⟨g, o, none⟩) es.length k6, .int .i64 (k : Nat), .pointer (some ⟨g, o + k * 6, none⟩), .pointer (some ⟨g, o + k * 6 + 3, none⟩), .int .i64 2, .bool true, .bool true, .bool true, .slice (some ⟨g, o, none⟩) es.length k6, .int .i64 (k : Nat), .pointer (some ⟨g, o + k * 6, none⟩), .pointer (some ⟨g, o + k * 6 + 2, none⟩), .int .i64 ri, .slice (some ⟨g, o, none⟩) es.length k6, .int .i64 (i : Nat), .pointer (some ⟨g, o + i * 6, none⟩), .pointer (some ⟨g, o + i * 6 + 2, none⟩), .int .i64 ri, .bool true, .bool true, .bool true, .slice (some ⟨g, o, none⟩) es.length k6, .int .i64 (k : Nat), .pointer (some ⟨g, o + k * 6, none⟩), .pointer (some ⟨g, o + k * 6 + 4, none⟩), .string si, .slice (some ⟨g, o, none⟩) es.length k6, .int .i64 (i : Nat), .pointer (some ⟨g, o + i * 6, none⟩), .pointer (some ⟨g, o + i * 6 + 4, none⟩), .string si, .bool true, .bool true, .slice (some ⟨G, 0, none⟩) es.length es.length, .int .i64 (k : Nat), .pointer (some ⟨G, k, none⟩), v 0, v 1, v 2, v 3, v 4, v 5, v 6, v 7, v 8, v 9, v 10, v 11, v 12, v 13, v 14, v 15, v 16, v 17, undef], defers := [] }) (fun i9 => match i9 with | 0 => u77 | 1 => u78 | 2 => u79 | 3 => u80 | 4 => u81 | 5 => u82 | 6 => u83 | 7 => u84 | 8 => u85 | 9 => u86 | 10 => u87 | 11 => u88 | 12 => u89 | 13 => u90 | 14 => u91 | 15 => u92 | 16 => u93 | 17 => u94 | 18 => .slice (some ⟨gb, 0, none⟩) (dursI es i).length m | _ => undef) (fun i9 x X => match i9 with
                | 0 => x = .slice (some ⟨gb, 0, none⟩) (dursI es i).length m
                | 1 => x = .slice (some ⟨g, o, none⟩) es.length k6
                | 2 => x = .int .i64 (i : Nat)
                | 3 => x = .pointer (some ⟨g, o + i * 6, none⟩)
                | 4 => x = .pointer (some ⟨g, o + i * 6 + 4, none⟩)
                | 5 => x = .string si
                | 6 => x = .slice (some ⟨g, o, none⟩) es.length k6
                | 7 => x = .int .i64 (i : Nat)
                | 8 => x = .pointer (some ⟨g, o + i * 6, none⟩)
                | 9 => x = .pointer (some ⟨g, o + i * 6 + 1, none⟩)
                | 10 => x = .int .i64 t1
                | 11 => x = .slice (some ⟨g, o, none⟩) es.length k6
                | 12 => x = .int .i64 (k : Nat)
                | 13 => x = .pointer (some ⟨g, o + k * 6, none⟩)
                | 14 => x = .pointer (some ⟨g, o + k * 6 + 1, none⟩)
                | 15 => x = .int .i64 t2
                | 16 => x = .int .i64 (t1 - t2)
                | 17 => ∃ b9 m9, x = .slice b9 (addD (dursI es i) si (t1 - t2)).length m9 ∧ X.ownsRow W5.heap.size 35 5 (.slice b9 (addD (dursI es i) si (t1 - t2)).length m9) (addD (dursI es i) si (t1 - t2)).length (dflat (addD (dursI es i) si (t1 - t2)))
                | 18 => ∃ b9 m9, x = .slice b9 (addD (dursI es i) si (t1 - t2)).length m9 ∧ X.ownsRow W5.heap.size 35 5 (.slice b9 (addD (dursI es i) si (t1 - t2)).length m9) (addD (dursI es i) si (t1 - t2)).length (dflat (addD (dursI es i) si (t1 - t2)))
                | _ => True) (fun X => Below W5.heap.size W5 X) (fun X X' => Below X.heap.size X X') (by kernel_rfl) rfl (hbR) ?mono ?step ?fin
              case mono =>
                intro i9 x X X' hi9 hG hS h
                match i9, hi9 with
                | 0, _ | 1, _ | 2, _ | 3, _ | 4, _ | 5, _ | 6, _ | 7, _ | 8, _ | 9, _ | 10, _ | 11, _ | 12, _ | 13, _ | 14, _ | 15, _ | 16, _ => exact h
                | 17, _ => obtain ⟨b9, m9, e9, hO⟩ := h; exact ⟨b9, m9, e9, ownB_stay hO hS⟩
                | 18, _ => obtain ⟨b9, m9, e9, hO⟩ := h; exact ⟨b9, m9, e9, ownB_stay hO hS⟩
                | n9 + 19, h9 => exact absurd h9 (by omega)
              case step =>
                intro i9 v X hi9 hG hd hu K hK
                have HU := hid hu
                clear hu
                have c9 := (hG.cell (p := ⟨g, o + k * 6 + 1, none⟩) lg).trans c1
                have x1 := (hG.cell (p := ⟨g, o + i * 6 + 1, none⟩) lg).trans e1
                have x4 := (hG.cell (p := ⟨g, o + i * 6 + 4, none⟩) lg).trans e4
                match i9, hi9 with
                | 0, _ =>
                  have q18 : v 18 = .slice (some ⟨gb, 0, none⟩) (dursI es i).length m := HU.out 18 (by decide)
                  refine op_go rfl rfl ?_
                  go_simp
                  exact hK.out _ (upd v 18 _) _ _ (upd_on rfl q18) rfl rfl hG (Below.refl _ _)
                | 1, _ =>
                  refine op_go rfl rfl ?_
                  go_simp
                  exact hK.out _ v _ _ rfl rfl rfl hG (Below.refl _ _)
                | 2, _ =>
                  refine op_go rfl rfl ?_
                  go_simp
                  exact hK.out _ v _ _ rfl rfl rfl hG (Below.refl _ _)
                | 3, _ =>
                  have q1 : v 1 = .slice (some ⟨g, o, none⟩) es.length k6 := hd 1 (by decide)
                  have q2 : v 2 = .int .i64 (i : Nat) := hd 2 (by decide)
                  refine op_go rfl rfl ?_
                  go_simp
                  exact hK.out _ (upd (upd v 1 _) 2 _) _ _ (upd_on (upd_on rfl q1) q2) rfl rfl hG (Below.refl _ _)
                | 4, _ =>
                  have q3 : v 3 = .pointer (some ⟨g, o + i * 6, none⟩) := hd 3 (by decide)
                  refine op_go rfl rfl ?_
                  go_simp
                  exact hK.out _ (upd v 3 _) _ _ (upd_on rfl q3) rfl rfl hG (Below.refl _ _)
                | 5, _ =>
                  have q4 : v 4 = .pointer (some ⟨g, o + i * 6 + 4, none⟩) := hd 4 (by decide)
                  refine op_go rfl rfl ?_
                  go_simp
                  exact hK.out _ (upd v 4 _) _ _ (upd_on rfl q4) rfl rfl hG (Below.refl _ _)
                | 6, _ =>
                  refine op_go rfl rfl ?_
                  go_simp
                  exact hK.out _ v _ _ rfl rfl rfl hG (Below.refl _ _)
                | 7, _ =>
                  refine op_go rfl rfl ?_
                  go_simp
                  exact hK.out _ v _ _ rfl rfl rfl hG (Below.refl _ _)
                | 8, _ =>
                  have q6 : v 6 = .slice (some ⟨g, o, none⟩) es.length k6 := hd 6 (by decide)
                  have q7 : v 7 = .int .i64 (i : Nat) := hd 7 (by decide)
                  refine op_go rfl rfl ?_
                  go_simp
                  exact hK.out _ (upd (upd v 6 _) 7 _) _ _ (upd_on (upd_on rfl q6) q7) rfl rfl hG (Below.refl _ _)
                | 9, _ =>
                  have q8 : v 8 = .pointer (some ⟨g, o + i * 6, none⟩) := hd 8 (by decide)
                  refine op_go rfl rfl ?_
                  go_simp
                  exact hK.out _ (upd v 8 _) _ _ (upd_on rfl q8) rfl rfl hG (Below.refl _ _)
                | 10, _ =>
                  have q9 : v 9 = .pointer (some ⟨g, o + i * 6 + 1, none⟩) := hd 9 (by decide)
                  refine op_go rfl rfl ?_
                  go_simp
                  exact hK.out _ (upd v 9 _) _ _ (upd_on rfl q9) rfl rfl hG (Below.refl _ _)
                | 11, _ =>
                  refine op_go rfl rfl ?_
                  go_simp
                  exact hK.out _ v _ _ rfl rfl rfl hG (Below.refl _ _)
                | 12, _ =>
                  refine op_go rfl rfl ?_
                  go_simp
                  exact hK.out _ v _ _ rfl rfl rfl hG (Below.refl _ _)
                | 13, _ =>
                  have q11 : v 11 = .slice (some ⟨g, o, none⟩) es.length k6 := hd 11 (by decide)
                  have q12 : v 12 = .int .i64 (k : Nat) := hd 12 (by decide)
                  refine op_go rfl rfl ?_
                  go_simp
                  exact hK.out _ (upd (upd v 11 _) 12 _) _ _ (upd_on (upd_on rfl q11) q12) rfl rfl hG (Below.refl _ _)
                | 14, _ =>
                  have q13 : v 13 = .pointer (some ⟨g, o + k * 6, none⟩) := hd 13 (by decide)
                  refine op_go rfl rfl ?_
                  go_simp
                  exact hK.out _ (upd v 13 _) _ _ (upd_on rfl q13) rfl rfl hG (Below.refl _ _)
                | 15, _ =>
                  have q14 : v 14 = .pointer (some ⟨g, o + k * 6 + 1, none⟩) := hd 14 (by decide)
                  refine op_go rfl rfl ?_
                  go_simp
                  exact hK.out _ (upd v 14 _) _ _ (upd_on rfl q14) rfl rfl hG (Below.refl _ _)
                | 16, _ =>
                  have q10 : v 10 = .int .i64 t1 := hd 10 (by decide)
                  have q15 : v 15 = .int .i64 t2 := hd 15 (by decide)
                  have w9 : IntKind.i64.wrap (t1 - t2) = t1 - t2 := by have b9 := HBD.out; rw [IntKind.wrap_i64]; omega
                  refine op_go rfl rfl ?_
                  go_simp
                  exact hK.out _ (upd (upd v 10 _) 15 _) _ _ (upd_on (upd_on rfl q10) q15) rfl rfl hG (Below.refl _ _)
                | 17, _ =>
                  have q0 : v 0 = .slice (some ⟨gb, 0, none⟩) (dursI es i).length m := hd 0 (by decide)
                  have q5 : v 5 = .string si := hd 5 (by decide)
                  have q16 : v 16 = .int .i64 (t1 - t2) := hd 16 (by decide)
                  refine op_go rfl rfl ?_
                  go_simp
                  refine (cD.out X hG).mono ?_
                  rintro e X' ⟨b9, m9, rfl, hO, hb'⟩
                  exact hK.out _ (upd (upd (upd v 0 _) 5 _) 16 _) _ _ (upd_on (upd_on (upd_on rfl q0) q5) q16) rfl ⟨b9, m9, rfl, ownB_le hO hG.size⟩ (hG.trans (hb'.mono hG.size)) hb'
                | 18, _ =>
                  obtain ⟨b9, m9, qv, hO9⟩ : ∃ b9 m9, v 17 = .slice b9 (addD (dursI es i) si (t1 - t2)).length m9 ∧ X.ownsRow W5.heap.size 35 5 (.slice b9 (addD (dursI es i) si (t1 - t2)).length m9) (addD (dursI es i) si (t1 - t2)).length (dflat (addD (dursI es i) si (t1 - t2))) := hd 17 (by decide)
                  refine op_go rfl rfl ?_
                  go_simp
                  exact hK.out _ (upd v 17 _) _ _ (upd_on rfl qv) rfl ⟨b9, m9, rfl, hO9⟩ hG (Below.refl _ _)
                | n9 + 19, h9 => exact absurd h9 (by omega)
              case fin =>
                intro v X hG hd
                obtain ⟨b9, m9, q18, hO9⟩ : ∃ b9 m9, v 18 = .slice b9 (addD (dursI es i) si (t1 - t2)).length m9 ∧ X.ownsRow W5.heap.size 35 5 (.slice b9 (addD (dursI es i) si (t1 - t2)).length m9) (addD (dursI es i) si (t1 - t2)).length (dflat (addD (dursI es i) si (t1 - t2))) := hd 18 (by decide)
                rw [q18]
                rw [← HOL.out] at hO9 ⊢
                obtain ⟨gb9, rfl⟩ := own_some' hO9 (by rw [HOL.out]; exact addD_pos _ _ _)
                have HO9 := hid (ownB_le hO9 HB5.out.size)
                have HT9 := hid (ownB_stay HT5.out hG)
                have HB9 := hid (HB5.out.trans (hG.mono HB5.out.size))
                have HE9 := hid (HEw.out.stay HB9.out (Nat.le_refl _))
                clear hd hG hO9 q18 cD c1 e1 e4 HB5 HT5 HO5
                go_wp2
                go_roundw
                case rel => exact ⟨i + 1, gb9, m9, by omega, by go_num, rfl, HO9.out, HT9.out, HE9.out, HB9.out⟩
                case measure => simp [intOf]; omega
              -- END14
            · have HN := hid (show ¬ (tkn es i k = false ∧ es[k].kind = 2 ∧ es[k].run = es[i].run ∧ es[k].step = es[i].step) from fun ⟨h1, h2, h3, h4⟩ => by have := HP.out k (by omega) hkn h2 h3 h4; rw [h1] at this; cases this)
              have HM := hid (show k + 1 ≤ k0 by omega)
              clear HK HF HP HOL HTL HDB HDL c1 e1 h3
              generalize tkn es i k = T at *
              generalize es[k].kind = kd at *
              generalize es[k].run = rk at *
              generalize es[i].run = ri at *
              generalize es[k].step = sk at *
              generalize es[i].step = si at *
              cases T with
              | true =>
                go_wp2_with fail
                go_quiet (fail)
                go_wp2
                go_roundw
                case rel => exact ⟨k + 1, HM.out, by go_num, rfl, bel_dn HBB.out _⟩
                case measure => simp [intOf]; omega
              | false =>
                by_cases hk2 : kd = 2
                · subst hk2
                  by_cases hrr : rk = ri
                  · subst hrr
                    by_cases hss : sk = si
                    · exact absurd ⟨rfl, rfl, rfl, hss⟩ HN.out
                    · have b4 : (sk.toList == si.toList) = false := beq_eq_false_iff_ne.2 fun h => hss (byt_inj h)
                      clear HN
                      go_wp2_with fail
                      go_quiet (fail)
                      go_wp2
                      go_roundw
                      case rel => exact ⟨k + 1, HM.out, by go_num, rfl, bel_dn HBB.out _⟩
                      case measure => simp [intOf]; omega
                  · have b3 : (rk == ri) = false := beq_eq_false_iff_ne.2 hrr
                    clear hrr HN
                    go_wp2_with fail
                    go_quiet (fail)
                    go_wp2
                    go_roundw
                    case rel => exact ⟨k + 1, HM.out, by go_num, rfl, bel_dn HBB.out _⟩
                    case measure => simp [intOf]; omega
                · have b2 : (kd == 2) = false := beq_eq_false_iff_ne.2 hk2
                  clear hk2 HN
                  go_wp2_with fail
                  go_quiet (fail)
                  go_wp2
                  go_roundw
                  case rel => exact ⟨k + 1, HM.out, by go_num, rfl, bel_dn HBB.out _⟩
                  case measure => simp [intOf]; omega
        · have b3 : (es[i].kind == 3) = false := beq_eq_false_iff_ne.2 h3
          have HOL := hid (dursI_stay hlt h3)
          have HTL := hid (tkL_stay HY.out hlt h3)
          clear h3
          go_wp2
          go_roundw
          case rel => exact ⟨i + 1, gb, m, by omega, by go_num, by rw [HOL.out], by rw [HOL.out]; exact HO.out, by rw [HTL.out]; exact HT.out, HE.out, HB.out⟩
          case measure => simp [intOf]; omega
      · obtain rfl : i = es.length := by omega
        go_wp2
        go_ret
        exact ⟨_, _, _, rfl, HO.out, HB.out, fun _ => rfl, fun h => absurd HY.out h⟩
end Go.Proofs.YthggcdadipjiiaaGreatDoor
