/-
  Draws: what (*spec.l01Src).l03State answers: a Def and a State, small: a contract over the seat's program.
-/
import Derived.Test.YtdggmeblnbabbaaGreatDoorZStDr
import Derived.Test.YtdggmeblnbabbaaGreatDoorZStNx3
import Derived.Test.YtdggmeblnbabbaaGreatDoorZDrD1
import Derived.Deep.CutBlock
namespace Go.Proofs.YtdggmeblnbabbaaGreatDoor
open Go.RowKit Go.Sort
set_option linter.unusedVariables false

set_option maxHeartbeats 4000000 in
set_option maxRecDepth 100000 in
theorem drawState_any (b n : Nat) (V : Value) (w : World) (h : Drw w b V n) :
    Calls Tryz.prog 16 #[.pointer (some ⟨b, 0, none⟩)] w fun e w' => ∃ u1 u2 u3 u4 u5 ss fs S, e = .returned (.tuple #[.agg #[u1, u2], .agg #[.int .i64 S.status, .int .i64 S.begun, .int .i64 S.last, u3, u4, u5, .int .i64 S.faults]]) ∧ StDr w w' b n V u1 u2 u3 u4 u5 ss fs S := by
  have mixed : Tryz.prog.follows .mixedOrders = true := by kernel_rfl
  have hlt := h.src.lt
  have cN := hid (fun most w h h2 => srcN_any b n V most w h h2)
  have cO := hid (fun most w h h2 => one_any b n V most w h h2)
  have cD := hid (fun w h => drawDef_any b n V w h)
  obtain ⟨i0, hi, hz0, hz1, hz2⟩ := info_parts Tryz.infoStr
  have H := hid h
  clear h
  go_enter Tryz.func16, Tryz.ntmps16
  go_wp2_with fail
  refine (cD.out _ ((H.out.below ((Below.refl _ _).alloc (Nat.le_refl _) _)).below ((Below.refl _ _).alloc (Nat.le_refl _) _))).mono ?_
  rintro e W1 ⟨u1, u2, ss, fs, rfl, hD⟩
  obtain ⟨a1, k1, rfl⟩ := ownB_form hD.o1
  obtain ⟨a2, k2, rfl⟩ := ownB_form hD.o2
  have M := hid (MdS.start hlt hD)
  clear hD H
  go_upto_region 3 with fail
  generalize (W1.alloc (.cells [.slice a1 ss.length k1, .slice a2 fs.length k2].toArray 26)).alloc (.cells [.int .i64 0, .int .i64 0, .int .i64 0, .slice none 0 0, .slice none 0 0, .slice none 0 0, .int .i64 0].toArray 29) = W3 at *
  generalize W1.heap.size = gd at *
  have hgd : gd ≠ gd + 1 := by omega
  have F1 := hid (show ∀ i, (h : i < ss.length) → ss[i].size ≤ maxLen from fun i h => by have := M.out.sh.1 _ (List.getElem_mem h); unfold maxLen; omega)
  have N1 : ss.length ≤ maxLen := by have := M.out.len; unfold maxLen; omega
  have N2 : fs.length ≤ maxLen := by have := M.out.len; unfold maxLen; omega
  obtain ⟨at0, mx, size, _, _, _, hsz, hb3⟩ := M.out.dr.src
  have e3 : W3.cell? ⟨b, 3, none⟩ = some (.int .i64 size) := by rw [Lib.cell_of_heap hb3]; rfl
  obtain ⟨s0, s1⟩ := hsz
  clear hb3
  go_wp2_with fail
  refine (cN.out (12 + size) _ M.out.dr (by omega)).mono ?_
  rintro e W4 ⟨r1, rfl, ⟨l1, v1, v1'⟩, hd1, hg1⟩
  have v1 := v1 (by omega)
  have M4 := hid (M.out.call hd1 hg1)
  clear hd1 hg1 M v1' e3
  go_upto_block 0 with fail
  go_cut [] from 18 to 36 (fun wx => ∃ u3 u4 u5 S, MdS w wx b gd (gd + 1) n V (.slice a1 ss.length k1) (.slice a2 fs.length k2) u3 u4 u5 ss fs S ∧ StP ss S)
  case first =>
    go_wp2_with fail
    go_loopw [6] (fun kv wr => ∃ (k : Int) (u3 u4 u5 : Value) (S : St), kv = .int .i64 k ∧ 0 ≤ k ∧ k ≤ 24 ∧ StP ss S ∧ MdS w wr b gd (gd + 1) n V (.slice a1 ss.length k1) (.slice a2 fs.length k2) u3 u4 u5 ss fs S) (fun kv _ => (intOf kv).toNat)
    case atStart => exact ⟨r1, _, _, _, _, rfl, by omega, by omega, .inl ⟨rfl, by constructor <;> rfl⟩, M4.out⟩
    case round =>
      obtain ⟨k, u3, u4, u5, S, rfl, hk0, hk1, hP, hM⟩ := hrel
      have HP := hid hP
      clear hP M4
      obtain ⟨a3, a4, a5, k3, k4, k5, rfl, rfl, rfl⟩ := hM.os.forms
      have M := hid hM
      clear hM
      obtain ⟨⟨d0, d1⟩, ⟨y0, y1, y2, y3, y4, y5, y6⟩, yf⟩ := M.out.cells
      by_cases hk : 0 < k
      · have c := specDefRight_any a1 a2 k1 k2 ss fs wr (str_of_own M.out.o1) (pr_of_own M.out.o2) F1.out N1 N2
        by_cases D : DefP ss fs
        · replace c := calls_yes c D
          go_wp2_with fail
          refine c.mono ?_
          rintro e W5 ⟨rfl, hb5⟩
          have M5 := hid (M.out.below hb5)
          clear hb5 c M d0 d1 y0 y1 y2 y3 y4 y5 y6 yf
          have HD := hid D
          clear D
          go_upto_region 6 with fail
          refine wp_region_okL mixed 7 [[],[],[],[],[2,3],[0,1,2,3,4],[],[0,1,2,3,4,5,6]] (fun v => { tmps := #[.pointer (some ⟨b, 0, none⟩), undef, .pointer (some ⟨w.heap.size, 0, none⟩), .pointer (some ⟨w.heap.size + 1, 0, none⟩), .pointer (some ⟨gd, 0, none⟩), .pointer (some ⟨gd + 1, 0, none⟩), .int .i64 k, v 6, .pointer (some ⟨b, 0, none⟩), .agg #[.slice a1 ss.length k1, .slice a2 fs.length k2], .agg #[.int .i64 0, .int .i64 0, .int .i64 0, .slice none 0 0, .slice none 0 0, .slice none 0 0, .int .i64 0], .pointer (some ⟨b, 0, none⟩), .pointer (some ⟨b, 0, none⟩), .pointer (some ⟨b, 0, none⟩), .pointer (some ⟨b, 3, none⟩), .int .i64 size, .int .i64 (12 + size), .int .i64 r1, .int .i64 k, .bool true, .bool true, .agg #[.slice a1 ss.length k1, .slice a2 fs.length k2], .bool true, .bool true, u24, u25, v 0, v 1, v 2, v 3, v 4, v 5, u32, u33, u34, u35, u36, undef, undef, undef, undef, undef, undef, undef, undef, undef, undef, undef, undef, undef, undef, undef, undef, undef, undef, undef, undef, undef, undef, undef, undef, undef, undef, undef, undef, undef, undef, undef, undef, undef, undef, undef, undef, undef, undef, undef, undef, undef, undef, undef, undef, undef], defers := [] }) (fun i9 => match i9 with | 0 => u26 | 1 => u27 | 2 => u28 | 3 => u29 | 4 => u30 | 5 => u31 | 6 => u7 | _ => undef) (fun i9 x X => match i9 with
            | 0 => x = .agg #[.slice a1 ss.length k1, .slice a2 fs.length k2]
            | 1 => x = .agg #[.int .i64 S.status, .int .i64 S.begun, .int .i64 S.last, .slice a3 S.wait.length k3, .slice a4 S.busy.length k4, .slice a5 S.vars.length k5, .int .i64 S.faults]
            | 2 => x = .pointer (some ⟨b, 0, none⟩)
            | 3 => x = .agg #[.int .i64 S.status, .int .i64 S.begun, .int .i64 S.last, .slice a3 S.wait.length k3, .slice a4 S.busy.length k4, .slice a5 S.vars.length k5, .int .i64 S.faults]
            | 4 => ∃ q9 : Ev, x = .agg q9.cells.toArray ∧ q9.step.size ≤ 100 ∧ q9.val.size ≤ 100
            | 5 => ∃ (c : Int) (v3 v4 v5 : Value) (T : St), x = .agg #[.int .i64 T.status, .int .i64 T.begun, .int .i64 T.last, v3, v4, v5, .int .i64 T.faults, .int .i64 c] ∧ StOwn X (w.heap.size + 2) v3 v4 v5 T ∧ (Apart (.slice a1 ss.length k1) v3 ∧ Apart (.slice a1 ss.length k1) v4) ∧ (c = 0 → StP ss T)
            | 6 => ∃ g : Nat, x = .pointer (some ⟨g, 0, none⟩) ∧ X.heap[g]? = some (.cells [.int .i64 0, .int .i64 0, .int .i64 0, .slice none 0 0, .slice none 0 0, .slice none 0 0, .int .i64 0, .int .i64 0].toArray 35 (0, 0)) ∧ gd + 1 < g
            | _ => True) (fun X => MdS w X b gd (gd + 1) n V (.slice a1 ss.length k1) (.slice a2 fs.length k2) (.slice a3 S.wait.length k3) (.slice a4 S.busy.length k4) (.slice a5 S.vars.length k5) ss fs S) (fun X X' => X.grownBy X' (some b)) (by kernel_rfl) rfl (M5.out.below (Below.refl _ _).drew) ?mono ?step ?last (fun h => absurd h (by decide))
          case mono =>
            intro i9 x X X' hi9 hG hS h
            match i9, hi9 with
            | 0, _ | 1, _ | 2, _ | 3, _ => exact h
            | 4, _ => exact h
            | 5, _ => obtain ⟨c, v3, v4, v5, T, e, hO, hA, hT⟩ := h; exact ⟨c, v3, v4, v5, T, e, hO.keptB (by have := hG.l1; omega) hS, hA, hT⟩
            | 6, _ => obtain ⟨g, e, hB, hgg⟩ := h; exact ⟨g, e, (hS.block g (lt_heap hB) (by simp; have := hG.l1; have := hG.l2; omega)).trans hB, hgg⟩
          case step =>
            intro i9 v X hi9 hG hd hu K hK
            have HU := hid hu
            clear hu
            obtain ⟨⟨d0, d1⟩, ⟨y0, y1, y2, y3, y4, y5, y6⟩, yf⟩ := hG.cells
            match i9, hi9 with
            | 0, _ =>
              refine op_go rfl rfl ?_
              go_simp
              exact hK.out _ v _ _ rfl rfl rfl hG (World.grownBy.refl _ _)
            | 1, _ =>
              refine op_go rfl rfl ?_
              go_simp
              exact hK.out _ v _ _ rfl rfl rfl hG (World.grownBy.refl _ _)
            | 2, _ =>
              refine op_go rfl rfl ?_
              go_simp
              exact hK.out _ v _ _ rfl rfl rfl hG (World.grownBy.refl _ _)
            | 3, _ =>
              refine op_go rfl rfl ?_
              go_simp
              exact hK.out _ v _ _ rfl rfl rfl hG (World.grownBy.refl _ _)
            | 4, _ =>
              have q2 : v 2 = .pointer (some ⟨b, 0, none⟩) := hd 2 (by decide)
              have q3 : v 3 = .agg #[.int .i64 S.status, .int .i64 S.begun, .int .i64 S.last, .slice a3 S.wait.length k3, .slice a4 S.busy.length k4, .slice a5 S.vars.length k5, .int .i64 S.faults] := hd 3 (by decide)
              refine op_go rfl rfl ?_
              go_simp
              refine (MdS.next hG 1 1).mono ?_
              rintro e X' ⟨v9, rfl, z1, z2, hd', hg'⟩
              exact hK.out _ (upd (upd v 2 _) 3 _) _ _ (upd_on (upd_on rfl q2) q3) rfl ⟨v9, rfl, z1, z2⟩ (hG.call hd' hg') hg'
            | 5, _ =>
              have q0 : v 0 = .agg #[.slice a1 ss.length k1, .slice a2 fs.length k2] := hd 0 (by decide)
              have q1 : v 1 = .agg #[.int .i64 S.status, .int .i64 S.begun, .int .i64 S.last, .slice a3 S.wait.length k3, .slice a4 S.busy.length k4, .slice a5 S.vars.length k5, .int .i64 S.faults] := hd 1 (by decide)
              obtain ⟨v9, qv, z1, z2⟩ : ∃ q9 : Ev, v 4 = .agg q9.cells.toArray ∧ q9.step.size ≤ 100 ∧ q9.val.size ≤ 100 := hd 4 (by decide)
              refine op_go rfl rfl ?_
              go_simp
              refine (MdS.step hG HD.out HP.out v9 z1).mono ?_
              rintro e X' ⟨c, v3, v4, v5, T, rfl, hO, hA, hT, hb'⟩
              exact hK.out _ (upd (upd (upd v 0 _) 1 _) 4 _) _ _ (upd_on (upd_on (upd_on rfl q0) q1) qv) rfl ⟨c, v3, v4, v5, T, rfl, hO, hA, hT⟩ (hG.below hb') (grown_below hb')
            | 6, _ =>
              refine op_go rfl rfl ?_
              go_simp
              exact hK.out _ v _ _ rfl rfl ⟨_, rfl, heap_alloc_new _ _, lt_heap hG.hs⟩ (hG.alloc _) (World.grownBy_alloc _ _ _)
          case last =>
            intro _ v X hG hd
            obtain ⟨⟨d0, d1⟩, ⟨y0, y1, y2, y3, y4, y5, y6⟩, yf⟩ := hG.cells
            obtain ⟨c9, v3, v4, v5, T, qo, hO, hA, hT⟩ : ∃ (c : Int) (v3 v4 v5 : Value) (T : St), v 5 = .agg #[.int .i64 T.status, .int .i64 T.begun, .int .i64 T.last, v3, v4, v5, .int .i64 T.faults, .int .i64 c] ∧ StOwn X (w.heap.size + 2) v3 v4 v5 T ∧ (Apart (.slice a1 ss.length k1) v3 ∧ Apart (.slice a1 ss.length k1) v4) ∧ (c = 0 → StP ss T) := hd 5 (by decide)
            obtain ⟨g, qg, hB, hgg⟩ : ∃ g : Nat, v 6 = .pointer (some ⟨g, 0, none⟩) ∧ X.heap[g]? = some (.cells [.int .i64 0, .int .i64 0, .int .i64 0, .slice none 0 0, .slice none 0 0, .slice none 0 0, .int .i64 0, .int .i64 0].toArray 35 (0, 0)) ∧ gd + 1 < g := hd 6 (by decide)
            obtain ⟨b3, b4, b5, j3, j4, j5, rfl, rfl, rfl⟩ := hO.forms
            have e0 : X.cell? ⟨g, 0, none⟩ = some (.int .i64 0) := by rw [Lib.cell_of_heap hB]; rfl
            have e1 : X.cell? ⟨g, 1, none⟩ = some (.int .i64 0) := by rw [Lib.cell_of_heap hB]; rfl
            have e2 : X.cell? ⟨g, 2, none⟩ = some (.int .i64 0) := by rw [Lib.cell_of_heap hB]; rfl
            have e3 : X.cell? ⟨g, 3, none⟩ = some (.slice none 0 0) := by rw [Lib.cell_of_heap hB]; rfl
            have e4 : X.cell? ⟨g, 4, none⟩ = some (.slice none 0 0) := by rw [Lib.cell_of_heap hB]; rfl
            have e5 : X.cell? ⟨g, 5, none⟩ = some (.slice none 0 0) := by rw [Lib.cell_of_heap hB]; rfl
            have e6 : X.cell? ⟨g, 6, none⟩ = some (.int .i64 0) := by rw [Lib.cell_of_heap hB]; rfl
            have e7 : X.cell? ⟨g, 7, none⟩ = some (.int .i64 0) := by rw [Lib.cell_of_heap hB]; rfl
            have fz : ∀ j, X.frozen? ⟨g, j, none⟩ = false := fun j => Lib.frozen_of_heap hB j
            refine op_go rfl rfl ?_
            go_simp
            generalize hW6 : (((((((X.setCell ⟨g, 0, none⟩ (.int .i64 T.status)).setCell ⟨g, 1, none⟩ (.int .i64 T.begun)).setCell ⟨g, 2, none⟩ (.int .i64 T.last)).setCell ⟨g, 3, none⟩ (.slice b3 T.wait.length j3)).setCell ⟨g, 4, none⟩ (.slice b4 T.busy.length j4)).setCell ⟨g, 5, none⟩ (.slice b5 T.vars.length j5)).setCell ⟨g, 6, none⟩ (.int .i64 T.faults)).setCell ⟨g, 7, none⟩ (.int .i64 c9) = W6
            have HB6 : W6.heap[g]? = some (.cells [.int .i64 T.status, .int .i64 T.begun, .int .i64 T.last, .slice b3 T.wait.length j3, .slice b4 T.busy.length j4, .slice b5 T.vars.length j5, .int .i64 T.faults, .int .i64 c9].toArray 35 (0, 0)) := by rw [← hW6]; exact blk_set (blk_set (blk_set (blk_set (blk_set (blk_set (blk_set (blk_set hB _) _) _) _) _) _) _) _
            have hc6 : Chg (fun j => j = g) X W6 := by rw [← hW6]; exact ((((((((Chg.refl _ _).seq _ _).seq _ _).seq _ _).seq _ _).seq _ _).seq _ _).seq _ _).seq _ _
            have M6 := hid (hG.other hc6 hB (by decide) (by decide) (by decide) (by omega))
            have O6 := hid (hO.turn hc6 hB (by decide) (by decide))
            have HA := hid hA
            have HT := hid hT
            clear e0 e1 e2 e3 e4 e5 e6 e7 hW6 hc6 hG hd hB hO hA hT qo qg fz d0 d1 y0 y1 y2 y3 y4 y5 y6 yf M5
            obtain ⟨⟨d0, d1⟩, ⟨y0, y1, y2, y3, y4, y5, y6⟩, yf⟩ := M6.out.cells
            have x0 : W6.cell? ⟨g, 0, none⟩ = some (.int .i64 T.status) := by rw [Lib.cell_of_heap HB6]; rfl
            have x1 : W6.cell? ⟨g, 1, none⟩ = some (.int .i64 T.begun) := by rw [Lib.cell_of_heap HB6]; rfl
            have x2 : W6.cell? ⟨g, 2, none⟩ = some (.int .i64 T.last) := by rw [Lib.cell_of_heap HB6]; rfl
            have x3 : W6.cell? ⟨g, 3, none⟩ = some (.slice b3 T.wait.length j3) := by rw [Lib.cell_of_heap HB6]; rfl
            have x4 : W6.cell? ⟨g, 4, none⟩ = some (.slice b4 T.busy.length j4) := by rw [Lib.cell_of_heap HB6]; rfl
            have x5 : W6.cell? ⟨g, 5, none⟩ = some (.slice b5 T.vars.length j5) := by rw [Lib.cell_of_heap HB6]; rfl
            have x6 : W6.cell? ⟨g, 6, none⟩ = some (.int .i64 T.faults) := by rw [Lib.cell_of_heap HB6]; rfl
            have x7 : W6.cell? ⟨g, 7, none⟩ = some (.int .i64 c9) := by rw [Lib.cell_of_heap HB6]; rfl
            clear HB6
            by_cases hc9 : c9 = 0
            · have hT0 := hid (HT.out hc9)
              subst hc9
              go_wp2
              go_roundw
              case rel => exact ⟨k - 1, _, _, _, T, by go_num, by omega, by omega, hT0.out, M6.out.putS hgd O6.out (smS_of M6.out.sh hT0.out) HA.out⟩
              case measure => simp [intOf]; omega
            · go_wp2
              go_roundw
              case rel => exact ⟨k - 1, _, _, _, S, by go_num, by omega, by omega, HP.out, M6.out⟩
              case measure => simp [intOf]; omega
        · replace c := calls_no c D
          go_wp2_with fail
          refine c.mono ?_
          rintro e W5 ⟨rfl, hb5⟩
          have M5 := hid (M.out.below hb5)
          clear hb5 c M d0 d1 y0 y1 y2 y3 y4 y5 y6 yf
          go_wp2
          go_meet
          case rel => exact ⟨_, _, _, _, M5.out, HP.out⟩
      · go_wp2
        go_meet
        case rel => exact ⟨_, _, _, _, M.out, HP.out⟩
  case rest =>
    obtain ⟨u3, u4, u5, S, hM, hP⟩ := hcut
    clear M4
    have HP := hid hP
    clear hP
    have M := hid hM
    clear hM
    go_wp2_with fail
    refine (cO.out 20 _ M.out.dr (by decide)).mono ?_
    rintro e W2 ⟨c, rfl, hd2, hg2⟩
    have M2 := hid (M.out.call hd2 hg2)
    clear hd2 hg2 M
    go_upto_if 38 with fail
    go_cut [] from 39 to 79 (fun wx => ∃ u3 u4 u5 S, MdS w wx b gd (gd + 1) n V (.slice a1 ss.length k1) (.slice a2 fs.length k2) u3 u4 u5 ss fs S)
    case first =>
      cases c with
      | false =>
        go_wp2
        go_meet
        case rel => exact ⟨_, _, _, _, M2.out⟩
      | true =>
        go_wp2_with fail
        refine (cN.out 5 _ M2.out.dr (by decide)).mono ?_
        rintro e W3 ⟨r2, rfl, ⟨l2, v2, v2'⟩, hd3, hg3⟩
        have v2 := v2 (by decide)
        have M3 := hid (M2.out.call hd3 hg3)
        clear hd3 hg3 M2 v2'
        have hr2 : r2 = 0 ∨ r2 = 1 ∨ r2 = 2 ∨ r2 = 3 ∨ r2 = 4 := by omega
        obtain ⟨a3, a4, a5, k3, k4, k5, rfl, rfl, rfl⟩ := M3.out.os.forms
        rcases hr2 with rfl | rfl | rfl | rfl | rfl
        · go_wp2_with fail
          refine (cN.out 5 _ M3.out.dr (by decide)).mono ?_
          rintro e W5 ⟨r3, rfl, ⟨l3, v3, _⟩, hd5, hg5⟩
          have v3 := v3 (by decide)
          have M5 := hid (M3.out.call hd5 hg5)
          clear hd5 hg5 M3
          obtain ⟨⟨d0, d1⟩, ⟨y0, y1, y2, y3, y4, y5, y6⟩, yf⟩ := M5.out.cells
          go_wp2
          go_meet
          case rel => exact ⟨_, _, _, { S with status := r3 - 1 }, M5.out.setS (i := 0) hgd (.int .i64 (r3 - 1)) { S with status := r3 - 1 } rfl rfl rfl rfl ⟨M5.out.sm.w, M5.out.sm.b, M5.out.sm.v, M5.out.sm.sw, M5.out.sm.sb, M5.out.sm.sv, M5.out.sm.l, M5.out.sm.g⟩⟩
        · have hp := stP_small HP.out
          obtain ⟨⟨d0, d1⟩, ⟨y0, y1, y2, y3, y4, y5, y6⟩, yf⟩ := M3.out.cells
          have MA := hid (M3.out.alloc (.cells [.string ⟨#[97]⟩].toArray 9))
          have NW := World.news_of_block (heap_alloc_new W3 (.cells [.string ⟨#[97]⟩].toArray 9))
          go_wp2_with (at_builtin; refine wpList_append_lies _ rfl _ _ 23 rfl (w.heap.size + 2) 9 i0 _ 1 16 Tryz.underlying23 hi hz0 hz1 hz2 rfl (by decide) _ _ _ rfl MA.out.os.o3 ⟨W3.heap.size, 0, none⟩ 1 1 [.string ⟨#[97]⟩] rfl rfl NW ?c1 (by decide) ?c2 ?c3 ?c4 _ rfl ?_)
          case c1 => first | rfl | (intro u hu; simp at hu; subst hu; rfl)
          case c2 => unfold maxLen; omega
          case c3 => omega
          case c4 => have := lt_heap MA.out.hr2; omega
          intro g k9 W5 ho hg hat hlt5
          have hs5 := (hg.block (gd + 1) (lt_heap MA.out.hs) (fun e => own_ne MA.out.os.o3 MA.out.hs (by decide) _ e.symm rfl)).trans MA.out.hs
          have q3 : W5.cell? ⟨gd + 1, 3, none⟩ = some (.slice a3 S.wait.length k3) := by rw [Lib.cell_of_heap hs5]; rfl
          have f3 : W5.frozen? ⟨gd + 1, 3, none⟩ = false := Lib.frozen_of_heap hs5 3
          have M6 := hid (MA.out.app3 hgd ⟨#[97]⟩ ho hg (hat.imp id fun e => e.trans (by simp)) ⟨by simp; omega, M3.out.sm.b, M3.out.sm.v, fun s hs => (List.mem_append.1 hs).elim (M3.out.sm.sw s) (fun hs => by simp at hs; subst hs; decide), M3.out.sm.sb, M3.out.sm.sv, M3.out.sm.l, M3.out.sm.g⟩)
          clear hs5 ho hg hat hlt5 MA NW M3 d0 d1 y0 y1 y2 y3 y4 y5 y6 yf
          go_wp2
          go_meet
          case rel => exact ⟨_, _, _, _, M6.out⟩
        · go_wp2_with fail
          have hN := heap_alloc_new W3 (.cells (([-1, 1000000, 1000001] : List Int).map (Value.int .i64)).toArray 2)
          refine (cN.out 3 _ (M3.out.alloc _).dr (by decide)).mono ?_
          rintro e W5 ⟨r7, rfl, ⟨l7, u7, _⟩, hd7, hg7⟩
          have u7 := u7 (by decide)
          have M5 := hid ((M3.out.alloc _).call hd7 hg7)
          have hN7 := (hg7.block W3.heap.size (by simp) (by simp; have h1 := M3.out.dr.src.lt; omega)).trans hN
          clear M3 hN hg7 hd7
          obtain ⟨i, rfl⟩ := Int.eq_ofNat_of_zero_le l7
          have hi3 : i < (([-1, 1000000, 1000001] : List Int).map (Value.int .i64)).length := by show i < 3; omega
          have hc := cell_lit hN7 hi3
          rw [List.getElem_map] at hc
          generalize ([-1, 1000000, 1000001] : List Int)[i]'(by show i < 3; omega) = E at *
          clear hN7 hi3
          obtain ⟨⟨d0, d1⟩, ⟨y0, y1, y2, y3, y4, y5, y6⟩, yf⟩ := M5.out.cells
          go_wp2
          go_meet
          case rel => exact ⟨_, _, _, { S with faults := E }, M5.out.setS (i := 6) hgd (.int .i64 E) { S with faults := E } rfl rfl rfl rfl ⟨M5.out.sm.w, M5.out.sm.b, M5.out.sm.v, M5.out.sm.sw, M5.out.sm.sb, M5.out.sm.sv, M5.out.sm.l, M5.out.sm.g⟩⟩
        · have hp := stP_small HP.out
          have hb40 : S.busy.length ≤ 41 := by omega
          clear hp HP
          go_wp2_with fail
          go_loopw [] (fun wr => ∃ (u3 u4 u5 : Value) (S : St), S.busy.length ≤ 41 ∧ MdS w wr b gd (gd + 1) n V (.slice a1 ss.length k1) (.slice a2 fs.length k2) u3 u4 u5 ss fs S) (fun wr => 41 - lenOf (wr.cell? ⟨gd + 1, 4, none⟩))
          case atStart => exact ⟨_, _, _, _, hb40, M3.out⟩
          case round =>
            obtain ⟨u3, u4, u5, T, hT, hM⟩ := hrel
            clear M3
            obtain ⟨a3, a4, a5, k3, k4, k5, rfl, rfl, rfl⟩ := hM.os.forms
            have M := hid hM
            have HL := hid hM.cells.2.1.2.2.2.2.1
            clear hM
            go_upto_region 19 with fail
            refine wp_region_ok mixed 7 [[],[0],[0,1],[],[3],[3,4],[0,1,2,3,4,5]] (fun v => { tmps := #[.pointer (some ⟨b, 0, none⟩), undef, .pointer (some ⟨w.heap.size, 0, none⟩), .pointer (some ⟨w.heap.size + 1, 0, none⟩), .pointer (some ⟨gd, 0, none⟩), .pointer (some ⟨gd + 1, 0, none⟩), u6, u7, .pointer (some ⟨b, 0, none⟩), .agg #[.slice a1 ss.length k1, .slice a2 fs.length k2], .agg #[.int .i64 0, .int .i64 0, .int .i64 0, .slice none 0 0, .slice none 0 0, .slice none 0 0, .int .i64 0], .pointer (some ⟨b, 0, none⟩), .pointer (some ⟨b, 0, none⟩), .pointer (some ⟨b, 0, none⟩), .pointer (some ⟨b, 3, none⟩), .int .i64 size, .int .i64 (12 + size), .int .i64 r1, u18, u19, u20, u21, u22, u23, u24, u25, u26, u27, u28, u29, u30, u31, u32, u33, u34, u35, u36, .pointer (some ⟨b, 0, none⟩), .bool true, .pointer (some ⟨b, 0, none⟩), .int .i64 3, undef, undef, undef, undef, .bool false, .bool false, undef, undef, undef, undef, .bool false, .bool false, undef, undef, undef, undef, undef, .bool false, .bool false, undef, undef, undef, undef, undef, undef, .bool true, .bool true, v 0, v 1, v 2, v 3, v 4, v 5, v 6, u75, u76, u77, u78, u79, undef, undef], defers := [] }) (fun i9 => match i9 with | 0 => u68 | 1 => u69 | 2 => u70 | 3 => u71 | 4 => u72 | 5 => u73 | 6 => u74 | _ => undef) (fun i9 x X => match i9 with
              | 0 => x = .pointer (some ⟨gd + 1, 4, none⟩)
              | 1 => x = .slice a4 T.busy.length k4
              | 2 => x = .int .i64 T.busy.length
              | 3 => x = .pointer (some ⟨b, 0, none⟩)
              | 4 => ∃ r : Int, x = .int .i64 r ∧ (0 ≤ r ∧ r < 4)
              | 5 => ∃ r : Int, x = .int .i64 r ∧ (38 ≤ r ∧ r < 42)
              | 6 => ∃ c : Bool, x = .bool c ∧ (c = true → T.busy.length < 41)
              | _ => True) (fun X => MdS w X b gd (gd + 1) n V (.slice a1 ss.length k1) (.slice a2 fs.length k2) (.slice a3 T.wait.length k3) (.slice a4 T.busy.length k4) (.slice a5 T.vars.length k5) ss fs T) (fun X X' => X.grownBy X' (some b)) (by kernel_rfl) rfl (M.out.below (Below.refl _ _).drew) ?mono9 ?step9 ?fin9
            case mono9 =>
              intro i9 x X X' hi9 hG hS h
              match i9, hi9 with
              | 0, _ | 1, _ | 2, _ | 3, _ => exact h
              | 4, _ => exact h
              | 5, _ => exact h
              | 6, _ => exact h
            case step9 =>
              intro i9 v X hi9 hG hd hu K hK
              have HU := hid hu
              clear hu
              obtain ⟨⟨d0, d1⟩, ⟨y0, y1, y2, y3, y4, y5, y6⟩, yf⟩ := hG.cells
              match i9, hi9 with
              | 0, _ =>
                refine op_go rfl rfl ?_
                go_simp
                exact hK.out _ v _ _ rfl rfl rfl hG (World.grownBy.refl _ _)
              | 1, _ =>
                have q0 : v 0 = .pointer (some ⟨gd + 1, 4, none⟩) := hd 0 (by decide)
                refine op_go rfl rfl ?_
                go_simp
                exact hK.out _ (upd v 0 _) _ _ (upd_on rfl q0) rfl rfl hG (World.grownBy.refl _ _)
              | 2, _ =>
                have q1 : v 1 = .slice a4 T.busy.length k4 := hd 1 (by decide)
                refine op_go rfl rfl ?_
                go_simp
                exact hK.out _ (upd v 1 _) _ _ (upd_on rfl q1) rfl rfl hG (World.grownBy.refl _ _)
              | 3, _ =>
                refine op_go rfl rfl ?_
                go_simp
                exact hK.out _ v _ _ rfl rfl rfl hG (World.grownBy.refl _ _)
              | 4, _ =>
                have q3 : v 3 = .pointer (some ⟨b, 0, none⟩) := hd 3 (by decide)
                refine op_go rfl rfl ?_
                go_simp
                refine (cN.out _ _ hG.dr (by decide)).mono ?_
                rintro e X' ⟨r, rfl, ⟨l, u, u'⟩, hd', hg'⟩
                exact hK.out _ (upd v 3 _) _ _ (upd_on rfl q3) rfl ⟨r, rfl, l, u (by decide)⟩ (hG.call hd' hg') hg'
              | 5, _ =>
                obtain ⟨r72, q72, z72⟩ : ∃ r : Int, v 4 = .int .i64 r ∧ (0 ≤ r ∧ r < 4) := hd 4 (by decide)
                have hw : IntKind.i64.wrap (38 + r72) = 38 + r72 := by rw [IntKind.wrap_i64]; omega
                refine op_go rfl rfl ?_
                go_simp
                exact hK.out _ (upd v 4 _) _ _ (upd_on rfl q72) rfl ⟨_, rfl, by omega, by omega⟩ hG (World.grownBy.refl _ _)
              | 6, _ =>
                have q2 : v 2 = .int .i64 T.busy.length := hd 2 (by decide)
                obtain ⟨r73, q73, z73⟩ : ∃ r : Int, v 5 = .int .i64 r ∧ (38 ≤ r ∧ r < 42) := hd 5 (by decide)
                refine op_go rfl rfl ?_
                go_simp
                exact hK.out _ (upd (upd v 2 _) 5 _) _ _ (upd_on (upd_on rfl q2) q73) rfl ⟨_, rfl, fun h => by simp at h; omega⟩ hG (World.grownBy.refl _ _)
            case fin9 =>
              intro v X hG hd
              obtain ⟨c, qc, hc⟩ : ∃ c : Bool, v 6 = .bool c ∧ (c = true → T.busy.length < 41) := hd 6 (by decide)
              have M := hid hG
              rw [qc]
              clear hG hd
              cases c with
              | false =>
                go_wp2
                go_meet
                case rel => exact ⟨_, _, _, _, M.out⟩
              | true =>
                have hlt4 := hc rfl
                obtain ⟨⟨d0, d1⟩, ⟨y0, y1, y2, y3, y4, y5, y6⟩, yf⟩ := M.out.cells
                have MA := hid (M.out.alloc (.cells [.string ⟨#[97]⟩].toArray 9))
                have NW := World.news_of_block (heap_alloc_new X (.cells [.string ⟨#[97]⟩].toArray 9))
                go_wp2_with (at_builtin; refine wpList_append_lies _ rfl _ _ 23 rfl (w.heap.size + 2) 9 i0 _ 1 16 Tryz.underlying23 hi hz0 hz1 hz2 rfl (by decide) _ _ _ rfl MA.out.os.o4 ⟨X.heap.size, 0, none⟩ 1 1 [.string ⟨#[97]⟩] rfl rfl NW ?c1 (by decide) ?c2 ?c3 ?c4 _ rfl ?_)
                case c1 => first | rfl | (intro u hu; simp at hu; subst hu; rfl)
                case c2 => unfold maxLen; omega
                case c3 => omega
                case c4 => have h1 := lt_heap MA.out.hr2; have h2 := lt_heap M.out.hr2; first | omega | (simp; omega)
                intro g k9 W5 ho hg hat hlt5
                have hs5 := (hg.block (gd + 1) (lt_heap MA.out.hs) (fun e => own_ne MA.out.os.o4 MA.out.hs (by decide) _ e.symm rfl)).trans MA.out.hs
                have q3 : W5.cell? ⟨gd + 1, 4, none⟩ = some (.slice a4 T.busy.length k4) := by rw [Lib.cell_of_heap hs5]; rfl
                have f3 : W5.frozen? ⟨gd + 1, 4, none⟩ = false := Lib.frozen_of_heap hs5 4
                have M6 := hid (MA.out.app4 hgd ⟨#[97]⟩ ho hg (hat.imp id fun e => e.trans (by simp)) ⟨M.out.sm.w, by simp; omega, M.out.sm.v, M.out.sm.sw, fun s hs => (List.mem_append.1 hs).elim (M.out.sm.sb s) (fun hs => by simp at hs; subst hs; decide), M.out.sm.sv, M.out.sm.l, M.out.sm.g⟩)
                clear hs5 ho hg hat hlt5 MA NW M d0 d1 y0 y1 y2 y3 y4 y5 y6 yf
                go_wp2
                go_roundw
                case rel => exact ⟨_, _, _, _, by simp; omega, M6.out⟩
                case measure => rw [HL.out, M6.out.cells.2.1.2.2.2.2.1]; simp [lenOf]; omega
        · obtain ⟨⟨d0, d1⟩, ⟨y0, y1, y2, y3, y4, y5, y6⟩, yf⟩ := M3.out.cells
          have hg9 := begun_0 HP.out
          go_wp2
          go_meet
          case rel => exact ⟨_, _, _, { S with last := S.begun - 1 }, M3.out.setS (i := 2) hgd (.int .i64 (S.begun - 1)) { S with last := S.begun - 1 } rfl rfl rfl rfl ⟨M3.out.sm.w, M3.out.sm.b, M3.out.sm.v, M3.out.sm.sw, M3.out.sm.sb, M3.out.sm.sv, ⟨by show -10 ≤ S.begun - 1; omega, by show S.begun - 1 ≤ 10000000; omega⟩, M3.out.sm.g⟩⟩
    case rest =>
      obtain ⟨u3, u4, u5, S, hM⟩ := hcut
      clear M2
      have M := hid hM
      clear hM
      obtain ⟨a3, a4, a5, k3, k4, k5, rfl, rfl, rfl⟩ := M.out.os.forms
      obtain ⟨⟨d0, d1⟩, ⟨y0, y1, y2, y3, y4, y5, y6⟩, yf⟩ := M.out.cells
      have R1 := M.out.hr1
      have R2 := M.out.hr2
      have p0 : wc.cell? ⟨w.heap.size, 0, none⟩ = some (.slice none 0 0) := by rw [Lib.cell_of_heap R1]; rfl
      have p1 : wc.cell? ⟨w.heap.size, 1, none⟩ = some (.slice none 0 0) := by rw [Lib.cell_of_heap R1]; rfl
      have t0 : wc.cell? ⟨w.heap.size + 1, 0, none⟩ = some (.int .i64 0) := by rw [Lib.cell_of_heap R2]; rfl
      have t1 : wc.cell? ⟨w.heap.size + 1, 1, none⟩ = some (.int .i64 0) := by rw [Lib.cell_of_heap R2]; rfl
      have t2 : wc.cell? ⟨w.heap.size + 1, 2, none⟩ = some (.int .i64 0) := by rw [Lib.cell_of_heap R2]; rfl
      have t3 : wc.cell? ⟨w.heap.size + 1, 3, none⟩ = some (.slice none 0 0) := by rw [Lib.cell_of_heap R2]; rfl
      have t4 : wc.cell? ⟨w.heap.size + 1, 4, none⟩ = some (.slice none 0 0) := by rw [Lib.cell_of_heap R2]; rfl
      have t5 : wc.cell? ⟨w.heap.size + 1, 5, none⟩ = some (.slice none 0 0) := by rw [Lib.cell_of_heap R2]; rfl
      have t6 : wc.cell? ⟨w.heap.size + 1, 6, none⟩ = some (.int .i64 0) := by rw [Lib.cell_of_heap R2]; rfl
      have pf : ∀ j, wc.frozen? ⟨w.heap.size, j, none⟩ = false := fun j => Lib.frozen_of_heap R1 j
      have tf : ∀ j, wc.frozen? ⟨w.heap.size + 1, j, none⟩ = false := fun j => Lib.frozen_of_heap R2 j
      clear R1 R2
      have l2 := M.out.l2
      have n11 : ¬ gd + 1 = w.heap.size := by omega
      have n12 : ¬ w.heap.size = gd + 1 := by omega
      have n13 : ¬ gd + 1 = w.heap.size + 1 := by omega
      have n14 : ¬ w.heap.size + 1 = gd + 1 := by omega
      have n15 : ¬ gd = w.heap.size := by omega
      have n16 : ¬ w.heap.size = gd := by omega
      have n17 : ¬ gd = w.heap.size + 1 := by omega
      have n18 : ¬ w.heap.size + 1 = gd := by omega
      clear l2
      go_upto_region 21 with fail
      go_region
      obtain ⟨WF, hWF⟩ : ∃ WF, (((((((((wc.setCell ⟨w.heap.size, 0, none⟩ (.slice a1 ss.length k1)).setCell ⟨w.heap.size, 1, none⟩ (.slice a2 fs.length k2)).setCell ⟨w.heap.size + 1, 0, none⟩ (.int .i64 S.status)).setCell ⟨w.heap.size + 1, 1, none⟩ (.int .i64 S.begun)).setCell ⟨w.heap.size + 1, 2, none⟩ (.int .i64 S.last)).setCell ⟨w.heap.size + 1, 3, none⟩ (.slice a3 S.wait.length k3)).setCell ⟨w.heap.size + 1, 4, none⟩ (.slice a4 S.busy.length k4)).setCell ⟨w.heap.size + 1, 5, none⟩ (.slice a5 S.vars.length k5)).setCell ⟨w.heap.size + 1, 6, none⟩ (.int .i64 S.faults)).drew = WF := ⟨_, rfl⟩
      obtain ⟨SD, ⟨f0, f1⟩, g0, g1, g2, g3, g4, g5, g6⟩ := M.out.ends WF hWF
      rw [hWF]
      have SD := hid SD
      clear hWF M d0 d1 y0 y1 y2 y3 y4 y5 y6 yf p0 p1 t0 t1 t2 t3 t4 t5 t6 pf tf n11 n12 n13 n14 n15 n16 n17 n18
      go_wp2
      exact bodyPost_ret (v := .tuple #[.agg #[.slice a1 ss.length k1, .slice a2 fs.length k2], .agg #[.int .i64 S.status, .int .i64 S.begun, .int .i64 S.last, .slice a3 S.wait.length k3, .slice a4 S.busy.length k4, .slice a5 S.vars.length k5, .int .i64 S.faults]]) (by simp [results, Tryz.results16, go_sem, f0, f1, g0, g1, g2, g3, g4, g5, g6]) rfl ⟨_, _, _, _, _, _, _, S, rfl, SD.out⟩
end Go.Proofs.YtdggmeblnbabbaaGreatDoor
