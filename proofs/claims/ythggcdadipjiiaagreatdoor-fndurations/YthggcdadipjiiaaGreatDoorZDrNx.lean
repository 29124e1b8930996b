/-
  Draws: what (*spec.l01Src).l03Next answers: some Event, its texts short: a contract over the seat's program.
-/
import Derived.Test.YthggcdadipjiiaaGreatDoorZStDr4
import Derived.Deep.CutBlock
namespace Go.Proofs.YthggcdadipjiiaaGreatDoor
open Go.RowKit
set_option linter.unusedVariables false

/-- A kind that is told. -/
def KdE (k : Int) : Prop := k = 1 ∨ k = 2 ∨ k = 3 ∨ k = 4 ∨ k = 5 ∨ k = 6
set_option maxHeartbeats 4000000 in
set_option maxRecDepth 100000 in
theorem drawNextK_any (b n : Nat) (V : Value) (st bg lt fl run sq : Int) (A3 A4 A5 : Option Addr) (n5 c3 c4 c5 : Nat) (ws bs : List ByteArray) (w : World) (h : Drw w b V n) (h3 : StrSl w (.slice A3 ws.length c3) ws) (h4 : StrSl w (.slice A4 bs.length c4) bs) (s3 : ∀ s ∈ ws, s.size ≤ 100) (s4 : ∀ s ∈ bs, s.size ≤ 100) (m3 : ws.length ≤ 1000) (m4 : bs.length ≤ 1000)
    (f3 : ∀ g o, A3 = some ⟨g, o, none⟩ → 0 < ws.length → b < g) (f4 : ∀ g o, A4 = some ⟨g, o, none⟩ → 0 < bs.length → b < g) (hl : -4611686018427387904 ≤ lt ∧ lt ≤ 4611686018427387904) :
    Calls Tryz.prog 49 #[.pointer (some ⟨b, 0, none⟩), .agg #[.int .i64 st, .int .i64 bg, .int .i64 lt, .slice A3 ws.length c3, .slice A4 bs.length c4, .slice A5 n5 c5, .int .i64 fl], .int .i64 run, .int .i64 sq] w fun e w' => ∃ v : Ev, e = .returned (.agg v.cells.toArray) ∧ v.step.size ≤ 100 ∧ v.val.size ≤ 100 ∧ Drw w' b V n ∧ w.grownBy w' (some b) ∧ KdE v.kind := by
  have mixed : Tryz.prog.follows .mixedOrders = true := by kernel_rfl
  have hlt := h.src.lt
  have cN := hid (fun most w h h2 => srcN_any b n V most w h h2)
  have cO := hid (fun most w h h2 => one_any b n V most w h h2)
  have cP := hid (fun g m S w h hm h0 hm2 hgb hS => pick_any b n g m V S w h hm h0 hm2 hgb hS)
  have H := hid h
  have h3 := hid (h3.stay ((Below.refl w.heap.size w).alloc (Nat.le_refl _) (.cells #[.int .i64 st, .int .i64 bg, .int .i64 lt, .slice A3 ws.length c3, .slice A4 bs.length c4, .slice A5 n5 c5, .int .i64 fl] 91)) (Nat.le_refl _))
  have h4 := hid (h4.stay ((Below.refl w.heap.size w).alloc (Nat.le_refl _) (.cells #[.int .i64 st, .int .i64 bg, .int .i64 lt, .slice A3 ws.length c3, .slice A4 bs.length c4, .slice A5 n5 c5, .int .i64 fl] 91)) (Nat.le_refl _))
  have s3 := hid s3
  have s4 := hid s4
  have f3 := hid f3
  have f4 := hid f4
  clear h
  go_enter Tryz.func49, Tryz.ntmps49
  have HS1 : Hid ((w.alloc (.cells #[.int .i64 st, .int .i64 bg, .int .i64 lt, .slice A3 ws.length c3, .slice A4 bs.length c4, .slice A5 n5 c5, .int .i64 fl] 91)).heap.size = w.heap.size + 1) := hid (by simp)
  have HG : Hid (NxD (w.alloc (.cells #[.int .i64 st, .int .i64 bg, .int .i64 lt, .slice A3 ws.length c3, .slice A4 bs.length c4, .slice A5 n5 c5, .int .i64 fl] 91)) ((w.alloc (.cells #[.int .i64 st, .int .i64 bg, .int .i64 lt, .slice A3 ws.length c3, .slice A4 bs.length c4, .slice A5 n5 c5, .int .i64 fl] 91)).alloc (.cells [.int .i64 0, .int .i64 0, .int .i64 0, .int .i64 0, .string ⟨#[]⟩, .string ⟨#[]⟩].toArray 33)) w.heap.size b n V (.cells #[.int .i64 st, .int .i64 bg, .int .i64 lt, .slice A3 ws.length c3, .slice A4 bs.length c4, .slice A5 n5 c5, .int .i64 fl] 91)) :=
    hid ⟨(H.out.below ((Below.refl _ _).alloc (Nat.le_refl _) _)).below ((Below.refl _ _).alloc (Nat.le_refl _) _), (Below.heap_alloc _ _ _ (by simp)).trans (heap_alloc_new w _), heap_alloc_new _ _, World.grownBy_alloc _ _ _, hlt, by simp⟩
  have HW := hid (World.grownBy_alloc w (.cells #[.int .i64 st, .int .i64 bg, .int .i64 lt, .slice A3 ws.length c3, .slice A4 bs.length c4, .slice A5 n5 c5, .int .i64 fl] 91) (some b))
  go_upto_region 1 with fail
  generalize w.alloc (.cells #[.int .i64 st, .int .i64 bg, .int .i64 lt, .slice A3 ws.length c3, .slice A4 bs.length c4, .slice A5 n5 c5, .int .i64 fl] 91) = WB at *
  refine wp_region_okL mixed 10 [[],[],[1],[],[3],[1,2,3,4],[1,2,3,4,5],[],[0,1,2,3,4,5,6,7],[],[0,1,2,3,4,5,6,7,8,9]] (fun v => { tmps := #[.pointer (some ⟨b, 0, none⟩), .agg #[.int .i64 st, .int .i64 bg, .int .i64 lt, .slice A3 ws.length c3, .slice A4 bs.length c4, .slice A5 n5 c5, .int .i64 fl], .int .i64 run, .int .i64 sq, undef, .pointer (some ⟨w.heap.size, 0, none⟩), undef, undef, .pointer (some ⟨w.heap.size + 1, 0, none⟩), v 9, undef, v 0, v 1, v 2, v 3, v 4, v 5, v 6, v 7, v 8, undef, undef, undef, undef, undef, undef, undef, undef, undef, undef, undef, undef, undef, undef, undef, undef, undef, undef, undef, undef, undef, undef, undef, undef, undef, undef, undef, undef, undef, undef, undef, undef, undef, undef, undef, undef, undef, undef, undef, undef, undef, undef, undef, undef, undef, undef, undef, undef, undef, undef, undef, undef, undef, undef, undef, undef, undef, undef, undef, undef, undef, undef, undef, undef, undef, undef, undef, undef, undef], defers := [] }) (fun i9 => match i9 with | _ => undef) (fun i9 x X => match i9 with
    | 0 => x = .int .i64 sq
    | 1 => x = .pointer (some ⟨w.heap.size, 2, none⟩)
    | 2 => x = .int .i64 lt
    | 3 => x = .pointer (some ⟨b, 0, none⟩)
    | 4 => ∃ r : Int, x = .int .i64 r
    | 5 => ∃ r : Int, x = .int .i64 r
    | 6 => ∃ r : Int, x = .int .i64 r
    | 7 => x = .int .i64 run
    | 8 => ∃ r : Int, x = .agg #[.int .i64 sq, .int .i64 r, .int .i64 run, .int .i64 1, .string ⟨#[]⟩, .string ⟨#[]⟩]
    | 9 => ∃ g : Nat, x = .pointer (some ⟨g, 0, none⟩) ∧ NxE WB X g
    | _ => True) (fun X => NxD WB X w.heap.size b n V (.cells #[.int .i64 st, .int .i64 bg, .int .i64 lt, .slice A3 ws.length c3, .slice A4 bs.length c4, .slice A5 n5 c5, .int .i64 fl] 91)) (fun X X' => X.grownBy X' (some b)) (by kernel_rfl) rfl (HG.out.drew) ?mono ?step ?last (fun h => absurd h (by decide))
  case mono =>
    intro i9 x X X' hi9 hG hS h
    match i9, hi9 with
    | 0, _ | 1, _ | 2, _ | 3, _ | 7, _ => exact h
    | 4, _ => exact h
    | 5, _ => exact h
    | 6, _ => exact h
    | 8, _ => exact h
    | 9, _ => obtain ⟨g, e, hM⟩ := h; exact ⟨g, e, hM.call hG hS⟩
  case step =>
    intro i9 v X hi9 hG hd hu K hK
    have HU := hid hu
    clear hu
    have d0 : X.cell? ⟨w.heap.size, 2, none⟩ = some (.int .i64 lt) := by rw [Lib.cell_of_heap hG.bx]; rfl
    match i9, hi9 with
    | 0, _ =>
      refine op_go rfl rfl ?_
      go_simp
      exact hK.out _ v _ _ rfl rfl rfl hG (World.grownBy.refl _ _)
    | 1, _ =>
      refine op_go rfl rfl ?_
      go_simp
      exact hK.out _ v _ _ rfl rfl rfl hG (World.grownBy.refl _ _)
    | 2, _ =>
      have q1 : v 1 = .pointer (some ⟨w.heap.size, 2, none⟩) := hd 1 (by decide)
      refine op_go rfl rfl ?_
      go_simp
      exact hK.out _ (upd v 1 _) _ _ (upd_on rfl q1) rfl rfl hG (World.grownBy.refl _ _)
    | 3, _ =>
      refine op_go rfl rfl ?_
      go_simp
      exact hK.out _ v _ _ rfl rfl rfl hG (World.grownBy.refl _ _)
    | 4, _ =>
      have q3 : v 3 = .pointer (some ⟨b, 0, none⟩) := hd 3 (by decide)
      refine op_go rfl rfl ?_
      go_simp
      refine (cN.out _ _ hG.dr (by decide)).mono ?_
      rintro e X' ⟨r, rfl, ⟨l, u, u'⟩, hd', hg'⟩
      exact hK.out _ (upd v 3 _) _ _ (upd_on rfl q3) rfl ⟨r, rfl⟩ (hG.call hd' hg') hg'
    | 5, _ =>
      have q2 : v 2 = .int .i64 lt := hd 2 (by decide)
      obtain ⟨r5, qa⟩ : ∃ r : Int, v 4 = .int .i64 r := hd 4 (by decide)
      refine op_go rfl rfl ?_
      go_simp
      exact hK.out _ (upd (upd v 2 _) 4 _) _ _ (upd_on (upd_on rfl q2) qa) rfl ⟨_, rfl⟩ hG (World.grownBy.refl _ _)
    | 6, _ =>
      obtain ⟨r6, qb⟩ : ∃ r : Int, v 5 = .int .i64 r := hd 5 (by decide)
      refine op_go rfl rfl ?_
      go_simp
      refine (l01Min_draw _ _ _).mono ?_
      rintro e X' ⟨⟨t, rfl, _⟩, rfl⟩
      exact hK.out _ (upd v 5 _) _ _ (upd_on rfl qb) rfl ⟨t, rfl⟩ hG (World.grownBy.refl _ _)
    | 7, _ =>
      refine op_go rfl rfl ?_
      go_simp
      exact hK.out _ v _ _ rfl rfl rfl hG (World.grownBy.refl _ _)
    | 8, _ =>
      have q0 : v 0 = .int .i64 sq := hd 0 (by decide)
      obtain ⟨r7, qc⟩ : ∃ r : Int, v 6 = .int .i64 r := hd 6 (by decide)
      have q7 : v 7 = .int .i64 run := hd 7 (by decide)
      refine op_go rfl rfl ?_
      go_simp
      exact hK.out _ (upd (upd (upd v 0 _) 6 _) 7 _) _ _ (upd_on (upd_on (upd_on rfl q0) qc) q7) rfl ⟨_, rfl⟩ hG (World.grownBy.refl _ _)
    | 9, _ =>
      refine op_go rfl rfl ?_
      go_simp
      exact hK.out _ v _ _ rfl rfl ⟨_, rfl, heap_alloc_new _ _, lt_heap hG.hr⟩ hG.alloc (World.grownBy_alloc _ _ _)
  case last =>
    intro _ v X hG hd
    have d0 : X.cell? ⟨w.heap.size, 2, none⟩ = some (.int .i64 lt) := by rw [Lib.cell_of_heap hG.bx]; rfl
    obtain ⟨r, qe⟩ : ∃ r : Int, v 8 = .agg #[.int .i64 sq, .int .i64 r, .int .i64 run, .int .i64 1, .string ⟨#[]⟩, .string ⟨#[]⟩] := hd 8 (by decide)
    obtain ⟨g, qg, hM⟩ : ∃ g : Nat, v 9 = .pointer (some ⟨g, 0, none⟩) ∧ NxE WB X g := hd 9 (by decide)
    have M0 := hM.mid hG
    obtain ⟨⟨y0, y1, y2, y3, y4, y5⟩, yf⟩ := M0.cells
    refine op_go rfl rfl ?_
    go_simp
    have Z0 : (⟨#[]⟩ : ByteArray).size ≤ 100 ∧ (⟨#[]⟩ : ByteArray).size ≤ 100 := ⟨Nat.zero_le _, Nat.zero_le _⟩
    have M := hid (NxM.set (i := 5) (NxM.set (i := 4) (NxM.set (i := 3) (NxM.set (i := 2) (NxM.set (i := 1) (NxM.set (i := 0) (⟨M0, hG.bx, hG.hb, hG.hz⟩ : NxM WB X w.heap.size b g n V _ _) (.int .i64 sq) ⟨sq, 0, 0, 0, ⟨#[]⟩, ⟨#[]⟩⟩ rfl Z0) (.int .i64 r) ⟨sq, r, 0, 0, ⟨#[]⟩, ⟨#[]⟩⟩ rfl Z0) (.int .i64 run) ⟨sq, r, run, 0, ⟨#[]⟩, ⟨#[]⟩⟩ rfl Z0) (.int .i64 1) ⟨sq, r, run, 1, ⟨#[]⟩, ⟨#[]⟩⟩ rfl Z0) (.string ⟨#[]⟩) ⟨sq, r, run, 1, ⟨#[]⟩, ⟨#[]⟩⟩ rfl Z0) (.string ⟨#[]⟩) ⟨sq, r, run, 1, ⟨#[]⟩, ⟨#[]⟩⟩ rfl Z0)
    generalize (((((X.setCell ⟨g, 0, none⟩ (.int .i64 sq)).setCell ⟨g, 1, none⟩ (.int .i64 r)).setCell ⟨g, 2, none⟩ (.int .i64 run)).setCell ⟨g, 3, none⟩ (.int .i64 1)).setCell ⟨g, 4, none⟩ (.string ⟨#[]⟩)).setCell ⟨g, 5, none⟩ (.string ⟨#[]⟩) = W1 at *
    clear hG hd hM M0 y0 y1 y2 y3 y4 y5 yf d0 HG H Z0
    have x0 : W1.cell? ⟨w.heap.size, 0, none⟩ = some (.int .i64 st) := by rw [Lib.cell_of_heap M.out.bx]; rfl
    go_upto_region 2 with fail
    go_cut [27] from 20 to 27 (fun s27 wx => ∃ c : Bool, s27 = .bool c ∧ NxM WB wx w.heap.size b g n V (.cells #[.int .i64 st, .int .i64 bg, .int .i64 lt, .slice A3 ws.length c3, .slice A4 bs.length c4, .slice A5 n5 c5, .int .i64 fl] 91) ⟨sq, r, run, 1, ⟨#[]⟩, ⟨#[]⟩⟩)
    case first =>
      by_cases hst : st = 1
      · have b0 : (st == 1) = true := by simp [hst]
        go_wp2_with fail
        go_meet
        case rel => exact ⟨_, rfl, M.out⟩
      · have b0 : (st == 1) = false := by simp [hst]
        go_wp2_with fail
        refine (cO.out 10 _ M.out.md.dr (by decide)).mono ?_
        rintro e W2 ⟨c, rfl, hd2, hg2⟩
        have M2 := hid (M.out.call hd2 hg2)
        clear hd2 hg2 M x0
        go_wp2
        go_meet
        case rel => exact ⟨_, rfl, M2.out⟩
    case rest =>
      obtain ⟨c, rfl, hM⟩ := hcut
      clear M x0
      have M := hid hM
      clear hM
      cases c with
      | true =>
        obtain ⟨⟨y0, y1, y2, y3, y4, y5⟩, yf⟩ := M.out.md.cells
        have ZZ := M.out.md.zero
        simp only [HS1.out] at ZZ
        obtain ⟨⟨z0, z1, z2, z3, z4, z5⟩, zf, zg, zg'⟩ := ZZ
        go_wp2
        refine bodyPost_ret (v := .agg #[.int .i64 sq, .int .i64 r, .int .i64 run, .int .i64 1, .string ⟨#[]⟩, .string ⟨#[]⟩]) (by simp [results, Tryz.results49, go_sem, z0, z1, z2, z3, z4, z5]) rfl ?_
        have MF := fun x0 x1 x2 x3 x4 x5 => M.out.md.fin x0 x1 x2 x3 x4 x5
        simp only [HS1.out] at MF
        exact ⟨⟨sq, r, run, 1, ⟨#[]⟩, ⟨#[]⟩⟩, rfl, M.out.md.sz.1, M.out.md.sz.2, (MF _ _ _ _ _ _).1, grown_trans HW.out (MF _ _ _ _ _ _).2, show KdE 1 from by unfold KdE; decide⟩
      | false =>
        go_wp2_with fail
        refine (cN.out 8 _ M.out.md.dr (by decide)).mono ?_
        rintro e W3 ⟨r8, rfl, ⟨l8, u8, _⟩, hd3, hg3⟩
        have u8 := u8 (by decide)
        have M2 := hid (M.out.call hd3 hg3)
        clear hd3 hg3 M
        have M := M2
        clear M2
        go_upto_block 0 with fail
        go_cut [9] from 31 to 51 (fun s9 wx => s9 = .pointer (some ⟨g, 0, none⟩) ∧ ∃ k : Int, KdE k ∧ NxM WB wx w.heap.size b g n V (.cells #[.int .i64 st, .int .i64 bg, .int .i64 lt, .slice A3 ws.length c3, .slice A4 bs.length c4, .slice A5 n5 c5, .int .i64 fl] 91) ⟨sq, r, run, k, ⟨#[]⟩, ⟨#[]⟩⟩)
        case first =>
          obtain ⟨⟨y0, y1, y2, y3, y4, y5⟩, yf⟩ := M.out.md.cells
          have hr8 : r8 = 0 ∨ r8 = 1 ∨ r8 = 2 ∨ r8 = 3 ∨ r8 = 4 ∨ 5 ≤ r8 := by omega
          rcases hr8 with rfl | rfl | rfl | rfl | rfl | h5
          · go_wp2_with fail
            have M2 := hid (M.out.set (i := 3) (.int .i64 4) ⟨sq, r, run, 4, ⟨#[]⟩, ⟨#[]⟩⟩ rfl M.out.md.sz)
            clear M y0 y1 y2 y3 y4 y5 yf
            have hgs : (W3.setCell ⟨g, 3, none⟩ (.int .i64 4)).heap.size = W3.heap.size := by simp
            generalize W3.setCell ⟨g, 3, none⟩ (.int .i64 4) = W4 at *
            refine (cP.out _ 2 [⟨#[120]⟩, ⟨#[121]⟩] _ (M2.out.alloc _).md.dr rfl (by decide) (by decide) (by rw [← hgs]; exact M2.out.md.dr.src.lt) (by rw [← hgs]; exact heap_alloc_new W4 _)).mono ?_
            rintro e W5 ⟨s1, rfl, hs, hd5, hg5⟩
            have hs1 : s1.size ≤ 100 := short_mem hs (by decide)
            have M3 := hid (((M2.out.alloc _).call hd5 hg5))
            clear hd5 hg5 hs M2
            obtain ⟨⟨y0, y1, y2, y3, y4, y5⟩, yf⟩ := M3.out.md.cells
            go_wp2_with fail
            have M4 := hid (M3.out.set (i := 4) (.string s1) ⟨sq, r, run, 4, s1, ⟨#[]⟩⟩ rfl ⟨hs1, M3.out.md.sz.2⟩)
            clear M3 y0 y1 y2 y3 y4 y5 yf
            have hgs2 : (W5.setCell ⟨g, 4, none⟩ (.string s1)).heap.size = W5.heap.size := by simp
            generalize W5.setCell ⟨g, 4, none⟩ (.string s1) = W6 at *
            refine (cP.out _ 2 [⟨#[49]⟩, ⟨#[116, 119, 111]⟩] _ (M4.out.alloc _).md.dr rfl (by decide) (by decide) (by rw [← hgs2]; exact M4.out.md.dr.src.lt) (by rw [← hgs2]; exact heap_alloc_new W6 _)).mono ?_
            rintro e W7 ⟨s2, rfl, hs, hd7, hg7⟩
            have hs2 : s2.size ≤ 100 := short_mem hs (by decide)
            have M5 := hid (((M4.out.alloc _).call hd7 hg7))
            clear hd7 hg7 hs M4
            obtain ⟨⟨y0, y1, y2, y3, y4, y5⟩, yf⟩ := M5.out.md.cells
            have ZZ := M5.out.md.zero
            simp only [HS1.out] at ZZ
            obtain ⟨⟨z0, z1, z2, z3, z4, z5⟩, zf, zg, zg'⟩ := ZZ
            go_wp2
            refine bodyPost_ret (v := .agg #[.int .i64 sq, .int .i64 r, .int .i64 run, .int .i64 4, .string s1, .string s2]) (by simp [results, Tryz.results49, go_sem, z0, z1, z2, z3, z4, z5]) rfl ?_
            have M6 := hid (M5.out.set (i := 5) (.string s2) ⟨sq, r, run, 4, s1, s2⟩ rfl ⟨hs1, hs2⟩)
            have MF := fun x0 x1 x2 x3 x4 x5 => M6.out.md.fin x0 x1 x2 x3 x4 x5
            simp only [HS1.out] at MF
            exact ⟨⟨sq, r, run, 4, s1, s2⟩, rfl, M6.out.md.sz.1, M6.out.md.sz.2, (MF _ _ _ _ _ _).1, grown_trans HW.out (MF _ _ _ _ _ _).2, show KdE 4 from by unfold KdE; decide⟩
          · go_wp2_with fail
            go_meet
            case rel => exact ⟨rfl, 5, by unfold KdE; decide, M.out.set (i := 3) (.int .i64 5) ⟨sq, r, run, 5, ⟨#[]⟩, ⟨#[]⟩⟩ rfl M.out.md.sz⟩
          · go_wp2_with fail
            go_meet
            case rel => exact ⟨rfl, 3, by unfold KdE; decide, M.out.set (i := 3) (.int .i64 3) ⟨sq, r, run, 3, ⟨#[]⟩, ⟨#[]⟩⟩ rfl M.out.md.sz⟩
          · go_wp2_with fail
            go_meet
            case rel => exact ⟨rfl, 3, by unfold KdE; decide, M.out.set (i := 3) (.int .i64 3) ⟨sq, r, run, 3, ⟨#[]⟩, ⟨#[]⟩⟩ rfl M.out.md.sz⟩
          · go_wp2_with fail
            go_meet
            case rel => exact ⟨rfl, 3, by unfold KdE; decide, M.out.set (i := 3) (.int .i64 3) ⟨sq, r, run, 3, ⟨#[]⟩, ⟨#[]⟩⟩ rfl M.out.md.sz⟩
          · have b0 : (r8 == 0) = false := by simp; omega
            have b1 : (r8 == 1) = false := by simp; omega
            have b2 : (r8 == 2) = false := by simp; omega
            have b3 : (r8 == 3) = false := by simp; omega
            have b4 : (r8 == 4) = false := by simp; omega
            go_wp2_with fail
            go_meet
            case rel => exact ⟨rfl, 2, by unfold KdE; decide, M.out.set (i := 3) (.int .i64 2) ⟨sq, r, run, 2, ⟨#[]⟩, ⟨#[]⟩⟩ rfl M.out.md.sz⟩
        case rest =>
          obtain ⟨rfl, k, hK, hM⟩ := hcut
          have HK := hid hK
          clear hK
          clear M
          have M := hid hM
          clear hM
          obtain ⟨⟨y0, y1, y2, y3, y4, y5⟩, yf⟩ := M.out.md.cells
          have x4 : wc.cell? ⟨w.heap.size, 4, none⟩ = some (.slice A4 bs.length c4) := by rw [Lib.cell_of_heap M.out.bx]; rfl
          have x3 : wc.cell? ⟨w.heap.size, 3, none⟩ = some (.slice A3 ws.length c3) := by rw [Lib.cell_of_heap M.out.bx]; rfl
          go_upto_if 56 with fail
          go_cut [10] from 57 to 58 (fun s10 wx => wx = wc ∧ ∃ A l c, s10 = .slice A l.length c ∧ StrSl wc (.slice A l.length c) l ∧ (∀ s ∈ l, s.size ≤ 100) ∧ l.length ≤ 1000 ∧ (∀ g o, A = some ⟨g, o, none⟩ → 0 < l.length → b < g))
          case first =>
            by_cases hk : k = 2
            · have b0 : (k == 2) = true := by simp [hk]
              go_wp2_with fail
              go_meet
              case rel => exact ⟨rfl, A3, ws, c3, rfl, h3.out.far M.out.md.gr f3.out, s3.out, m3, f3.out⟩
            · have b0 : (k == 2) = false := by simp [hk]
              go_wp2_with fail
              go_meet
              case rel => exact ⟨rfl, A4, bs, c4, rfl, h4.out.far M.out.md.gr f4.out, s4.out, m4, f4.out⟩
          case rest =>
            obtain ⟨rfl, A, l, c, rfl, hl, sl, ml, fl⟩ := hcut
            have hl := hid hl
            have sl := hid sl
            have fl9 := hid fl
            clear fl
            by_cases h0 : 0 < l.length
            · have b1 : decide ((l.length : Int) > 0) = true := decide_eq_true (by omega)
              clear y0 y1 y2 y3 y4 y5 yf
              go_wp2_with fail
              refine (cN.out (l.length : Int) _ M.out.md.dr (by omega)).mono ?_
              rintro e W4 ⟨r9, rfl, ⟨l9, u9, v9⟩, hd4, hg4⟩
              obtain ⟨i, rfl⟩ := Int.eq_ofNat_of_zero_le l9
              have hi : i < l.length := (Decidable.em ((1 : Int) < (l.length : Int))).elim (fun h1 => by have := u9 h1; omega) (fun h1 => by have := v9 (by omega); omega)
              obtain ⟨gg, oo, rfl, hE⟩ := (hl.out.far hg4 fl9.out).row h0
              have hc := hE.2 i hi
              have hs : l[i].size ≤ 100 := sl.out _ (List.getElem_mem hi)
              generalize l[i] = s1 at *
              have M2 := hid (M.out.call hd4 hg4)
              clear hd4 hg4 M u9 v9 hE x3 x4 hl sl fl9
              obtain ⟨⟨y0, y1, y2, y3, y4, y5⟩, yf⟩ := M2.out.md.cells
              have ZZ := M2.out.md.zero
              simp only [HS1.out] at ZZ
              obtain ⟨⟨z0, z1, z2, z3, z4, z5⟩, zf, zg, zg'⟩ := ZZ
              go_wp2
              refine bodyPost_ret (v := .agg #[.int .i64 sq, .int .i64 r, .int .i64 run, .int .i64 k, .string s1, .string ⟨#[]⟩]) (by simp [results, Tryz.results49, go_sem, z0, z1, z2, z3, z4, z5]) rfl ?_
              have M3 := hid (M2.out.set (i := 4) (.string s1) ⟨sq, r, run, k, s1, ⟨#[]⟩⟩ rfl ⟨hs, M2.out.md.sz.2⟩)
              have MF := fun x0 x1 x2 x3 x4 x5 => M3.out.md.fin x0 x1 x2 x3 x4 x5
              simp only [HS1.out] at MF
              exact ⟨⟨sq, r, run, k, s1, ⟨#[]⟩⟩, rfl, M3.out.md.sz.1, M3.out.md.sz.2, (MF _ _ _ _ _ _).1, grown_trans HW.out (MF _ _ _ _ _ _).2, HK.out⟩
            · have b1 : decide ((l.length : Int) > 0) = false := decide_eq_false (by omega)
              clear hl sl fl9
              by_cases hz : ws.length = 0 ∧ bs.length = 0
              · have b2 : ((ws.length : Int) + (bs.length : Int) == 0) = true := by simp; omega
                obtain ⟨⟨y0, y1, y2, y3, y4, y5⟩, yf⟩ := M.out.md.cells
                have ZZ := M.out.md.zero
                simp only [HS1.out] at ZZ
                obtain ⟨⟨z0, z1, z2, z3, z4, z5⟩, zf, zg, zg'⟩ := ZZ
                go_wp2
                refine bodyPost_ret (v := .agg #[.int .i64 sq, .int .i64 r, .int .i64 run, .int .i64 6, .string ⟨#[]⟩, .string ⟨#[]⟩]) (by simp [results, Tryz.results49, go_sem, z0, z1, z2, z3, z4, z5]) rfl ?_
                have MF := fun x0 x1 x2 x3 x4 x5 => M.out.md.fin x0 x1 x2 x3 x4 x5
                simp only [HS1.out] at MF
                exact ⟨⟨sq, r, run, 6, ⟨#[]⟩, ⟨#[]⟩⟩, rfl, M.out.md.sz.1, M.out.md.sz.2, (MF _ _ _ _ _ _).1, grown_trans HW.out (MF _ _ _ _ _ _).2, show KdE 6 from by unfold KdE; decide⟩
              · have b2 : ((ws.length : Int) + (bs.length : Int) == 0) = false := by simp; omega
                go_wp2_with fail
                refine (cP.out _ 2 [⟨#[97]⟩, ⟨#[98]⟩] _ (M.out.alloc _).md.dr rfl (by decide) (by decide) (M.out.md.dr.src.lt) (heap_alloc_new wc _)).mono ?_
                rintro e W5 ⟨s1, rfl, hs, hd5, hg5⟩
                have hs1 : s1.size ≤ 100 := short_mem hs (by decide)
                have M2 := hid (((M.out.alloc _).call hd5 hg5))
                clear hd5 hg5 hs M x3 x4 y0 y1 y2 y3 y4 y5 yf
                obtain ⟨⟨y0, y1, y2, y3, y4, y5⟩, yf⟩ := M2.out.md.cells
                have ZZ := M2.out.md.zero
                simp only [HS1.out] at ZZ
                obtain ⟨⟨z0, z1, z2, z3, z4, z5⟩, zf, zg, zg'⟩ := ZZ
                go_wp2
                refine bodyPost_ret (v := .agg #[.int .i64 sq, .int .i64 r, .int .i64 run, .int .i64 k, .string s1, .string ⟨#[]⟩]) (by simp [results, Tryz.results49, go_sem, z0, z1, z2, z3, z4, z5]) rfl ?_
                have M3 := hid (M2.out.set (i := 4) (.string s1) ⟨sq, r, run, k, s1, ⟨#[]⟩⟩ rfl ⟨hs1, M2.out.md.sz.2⟩)
                have MF := fun x0 x1 x2 x3 x4 x5 => M3.out.md.fin x0 x1 x2 x3 x4 x5
                simp only [HS1.out] at MF
                exact ⟨⟨sq, r, run, k, s1, ⟨#[]⟩⟩, rfl, M3.out.md.sz.1, M3.out.md.sz.2, (MF _ _ _ _ _ _).1, grown_trans HW.out (MF _ _ _ _ _ _).2, HK.out⟩
end Go.Proofs.YthggcdadipjiiaaGreatDoor
