/-
  What (*spec.l01Src).l05Query draws: a contract over the seat's program.
-/
import Derived.Test.YtimlnbfalnkmhaaGreatDoorZDrCd
import Derived.Test.YtimlnbfalnkmhaaGreatDoorZQyDr2
import Derived.Test.YtimlnbfalnkmhaaGreatDoorZRgThr2
import Derived.Test.YtimlnbfalnkmhaaGreatDoorZSrcA5
import Derived.Deep.CutBlock
namespace Go.Proofs.YtimlnbfalnkmhaaGreatDoor
open Go.RowKit
set_option linter.unusedVariables false

/-- A small Query amid its draw, in memory. -/
def MQ (w W : World) (b g n : Nat) (V : Value) (m : Nat) : Prop := ∃ (q : Qy) (A : Option Addr) (c : Nat), q.cs.length ≤ m ∧ QySm q ∧ MdQ w W b g n V (.slice A q.cs.length c) q
theorem MdQ.mq {w W : World} {b g n m : Nat} {V u : Value} {q : Qy} (h : MdQ w W b g n V u q) (hm : q.cs.length ≤ m) (hs : QySm q) : MQ w W b g n V m := by
  obtain ⟨A, c, rfl⟩ := ownB_form h.o1
  exact ⟨q, A, c, hm, hs, h⟩
def MQe (w W : World) (b g n : Nat) (V : Value) (m : Nat) : Prop := ∃ (q : Qy) (A : Option Addr) (c : Nat), q.cs.length = m ∧ QySm q ∧ MdQ w W b g n V (.slice A q.cs.length c) q
theorem MdQ.mqe {w W : World} {b g n m : Nat} {V u : Value} {q : Qy} (h : MdQ w W b g n V u q) (hm : q.cs.length = m) (hs : QySm q) : MQe w W b g n V m := by
  obtain ⟨A, c, rfl⟩ := ownB_form h.o1
  exact ⟨q, A, c, hm, hs, h⟩
theorem MQe.le {w W : World} {b g n m k : Nat} {V : Value} (h : MQe w W b g n V m) (hk : m ≤ k) : MQ w W b g n V k := by
  obtain ⟨q, A, c, h1, h2, h3⟩ := h
  exact ⟨q, A, c, by omega, h2, h3⟩
theorem MQ.le {w W : World} {b g n m k : Nat} {V : Value} (h : MQ w W b g n V m) (hk : m ≤ k) : MQ w W b g n V k := by
  obtain ⟨q, A, c, h1, h2, h3⟩ := h
  exact ⟨q, A, c, by omega, h2, h3⟩
theorem cd_newL {X : World} {g : Nat} {d : Cd} {T : TypeId} (h : X.heap[g]? = some (.cells (cdL d).toArray T (0, 0))) : ∀ j u, (cdL d)[j]? = some u → X.cell? ((⟨g, 0, none⟩ : Addr).add j) = some u := by
  intro j u hj
  rw [Addr.add_lit, Lib.cell_of_heap h, Nat.zero_add, ← hj]
  simp
theorem sm_run (y : Int) (h0 : -2000000 ≤ y) (h1 : y ≤ 2000000) : CdSm ⟨⟨#[114, 117, 110]⟩, ⟨#[61]⟩, ⟨#[]⟩, y⟩ := ⟨by show (3 : Nat) ≤ 20; decide, by show (1 : Nat) ≤ 20; decide, by show (0 : Nat) ≤ 20; decide, h0, h1⟩
theorem sm_snoc {q : Qy} (h : QySm q) (d : Cd) (hd : CdSm d) (hl : q.cs.length ≤ 9) : QySm ⟨q.cnt, q.cs ++ [d], q.by', q.ord, q.dwn, q.lim⟩ :=
  ⟨by simp; omega, fun c hc => (List.mem_append.1 hc).elim (h.2.1 c) (fun e => by obtain rfl := List.mem_singleton.1 e; exact hd), h.2.2.1, h.2.2.2⟩
abbrev S3 : List ByteArray := [qSeq, qTime, qRun]
abbrev S2 : List ByteArray := [qRun, ⟨#[120]⟩]
theorem small_S6 : ∀ x ∈ S6, x.size ≤ 20 := by decide
theorem small_S3 : ∀ x ∈ S3, x.size ≤ 20 := by decide
theorem small_S2 : ∀ x ∈ S2, x.size ≤ 20 := by decide
set_option maxRecDepth 100000 in
set_option maxHeartbeats 8000000 in
theorem drawQuery_any (b n : Nat) (V : Value) (w : World) (h : Drw w b V n) :
    Calls Tryz.prog 32 #[.pointer (some ⟨b, 0, none⟩)] w fun e w' => ∃ (q : Qy) (A : Option Addr) (c : Nat), e = .returned (qyV q A c) ∧ QyDr w w' b n V (.slice A q.cs.length c) q := by
  have mixed : Tryz.prog.follows .mixedOrders = true := by kernel_rfl
  obtain ⟨i0, hi, hz0, hz1, hz2⟩ := info_parts Tryz.infoCd
  have hbw := h.src.lt
  have cN := hid (fun most w h h2 => srcN_any b n V most w h h2)
  have cO := hid (fun most w h h2 => one_any b n V most w h h2)
  have cC := hid (fun w h => drawCond_any b n V w h)
  have H := hid h
  clear h
  go_enter Tryz.func32, Tryz.ntmps32
  go_wp2_with fail
  have hbz := (Below.refl _ w).alloc (Nat.le_refl _) (.cells #[.bool false, .slice none 0 0, .string ⟨#[]⟩, .string ⟨#[]⟩, .bool false, .int .i64 0] 25)
  refine (cO.out 3 _ (H.out.below hbz) (by decide)).mono ?_
  rintro e w1 ⟨c0, rfl, hd, hg⟩
  have M : Hid (MQ w (w1.alloc (.cells #[.bool c0, .slice none 0 0, .string ⟨#[]⟩, .string ⟨#[]⟩, .bool false, .int .i64 (-1)] 25)) b w1.heap.size n V 0) := hid (by
    have hba := (Below.refl _ w1).alloc (Nat.le_refl _) (.cells #[.bool c0, .slice none 0 0, .string ⟨#[]⟩, .string ⟨#[]⟩, .bool false, .int .i64 (-1)] 25)
    have hsz := hg.size
    have hsz' : w.heap.size + 1 ≤ w1.heap.size := by simpa using hsz
    refine MdQ.mq (u := .slice none 0 0) (q := ⟨c0, [], ⟨#[]⟩, ⟨#[]⟩, false, -1⟩) ⟨hd.below hba, heap_alloc_new w1 _, ?_, World.ownsRow_nil _ _ _ _, grown_trans (grown_trans (grown_below hbz) hg) (grown_below hba), by omega, hbw⟩ (Nat.le_refl _) ⟨by simp, fun c hc => absurd hc (by simp), by show (0 : Nat) ≤ 20; decide, by show (0 : Nat) ≤ 20; decide⟩
    rw [hba.block _ (by omega), hg.block _ (by simp) (by simp; omega)]
    exact heap_alloc_new w _)
  clear hbz hg hd H
  go_upto_region 2 with fail
  generalize w1.alloc (.cells #[.bool c0, .slice none 0 0, .string ⟨#[]⟩, .string ⟨#[]⟩, .bool false, .int .i64 (-1)] 25) = W2 at *
  generalize w1.heap.size = g at *
  obtain ⟨q, A, ca, hl, hs, hM⟩ := M.out
  go_wp2_with fail
  refine (cN.out 3 _ hM.dr (by decide)).mono ?_
  rintro e W3 ⟨k0, rfl, ⟨l1, v1, _⟩, hd1, hg1⟩
  have v1 := v1 (by decide)
  have M3 : Hid (MQ w W3 b g n V 0) := hid ((hM.call hd1 hg1).mq hl hs)
  clear hd1 hg1 hM hs hl M
  have M := M3
  clear M3 A ca q
  go_upto_block 0 with fail
  go_cut [] from 10 to 20 (fun wx => MQ w wx b g n V 2)
  case first =>
    go_wp2_with fail
    go_loopw [4] (fun kv wr => ∃ (k : Int) (m : Nat), kv = .int .i64 k ∧ 0 ≤ k ∧ (m : Int) + k ≤ 2 ∧ MQ w wr b g n V m) (fun kv _ => (intOf kv).toNat)
    case atStart => exact ⟨k0, 0, rfl, by omega, by omega, M.out⟩
    case round =>
      obtain ⟨k, m, rfl, hk0, hk1, hM0⟩ := hrel
      clear M
      have M := hid hM0
      clear hM0
      by_cases hk : 0 < k
      · go_upto_region 5 with fail
        obtain ⟨q, A, ca, hl, hs, hM⟩ := M.out
        have hSm := hid hs
        have MM := hid hM
        clear hM hs M
        have hl2 : q.cs.length ≤ 1 := by omega
        refine wp_region_three mixed 5 [[],[0],[],[2],[2,3],[0,1,2,3,4],[0,1,2,3,4,5],[0,1,2,3,4,5,6]] (fun v => { tmps := #[.pointer (some ⟨b, 0, none⟩), undef, .pointer (some ⟨w.heap.size, 0, none⟩), .pointer (some ⟨g, 0, none⟩), .int .i64 k, .pointer (some ⟨b, 0, none⟩), .bool c0, .agg #[.bool c0, .slice none 0 0, .string { data := #[] }, .string { data := #[] }, .bool false, .int .i64 (-1)], .pointer (some ⟨b, 0, none⟩), .int .i64 k0, .int .i64 k, .bool true, u12, u13, v 0, v 1, v 2, v 3, v 4, u19, u20, undef, undef, undef, undef, undef, undef, undef, undef, undef, undef, undef, undef, undef, undef, undef, undef, undef, undef, undef, undef, undef, undef, undef, undef, undef, undef, undef, undef, undef, undef, undef, undef, undef, undef, undef, undef, undef, undef, undef, undef, undef, undef, undef, undef, undef, undef, undef, undef, undef, undef, undef, undef, undef, undef, undef, undef, undef, undef, undef, undef, undef, undef, undef, undef, undef, undef, undef, undef, undef, undef, undef, undef, undef, undef, undef, undef, undef, undef, undef, undef, undef, undef, undef, undef, undef, undef, undef, undef, undef, undef, undef], defers := [] }) (fun i9 => match i9 with | 0 => u14 | 1 => u15 | 2 => u16 | 3 => u17 | 4 => u18 | _ => undef) (fun i9 x X => match i9 with
          | 0 => x = .pointer (some ⟨g, 1, none⟩)
          | 1 => x = .slice A q.cs.length ca
          | 2 => x = .pointer (some ⟨b, 0, none⟩)
          | 3 => ∃ (d0 d1 d2 : ByteArray) (d3 : Int), x = .agg #[.string d0, .string d1, .string d2, .int .i64 d3] ∧ CdSm ⟨d0, d1, d2, d3⟩
          | 4 => ∃ (g9 : Nat) (d0 d1 d2 : ByteArray) (d3 : Int), x = .slice (some ⟨g9, 0, none⟩) 1 1 ∧ w.heap.size < g9 ∧ CdSm ⟨d0, d1, d2, d3⟩ ∧ X.heap[g9]? = some (.cells (cdL ⟨d0, d1, d2, d3⟩).toArray 67 (0, 0))
          | _ => True) (fun X => MdQ w X b g n V (.slice A q.cs.length ca) q) (fun X X' => X.grownBy X' (some b)) (by kernel_rfl) rfl (MM.out.below (Below.refl _ _).drew) ?mono ?step ?last
        case mono =>
          intro i9 x X X' hi9 hG hS h
          match i9, hi9 with
          | 0, _ | 1, _ | 2, _ => exact h
          | 3, _ => exact h
          | 4, _ => obtain ⟨g9, d0, d1, d2, d3, e9, hl9, hsm, hG9⟩ := h; exact ⟨g9, d0, d1, d2, d3, e9, hl9, hsm, (hS.block _ (lt_heap hG9) (by simp; omega)).trans hG9⟩
        case step =>
          intro i9 v X hi9 hG hd hu K hK
          have HU := hid hu
          clear hu
          obtain ⟨y0, y1, y2, y3, y4, y5, yf⟩ := hG.cells
          match i9, hi9 with
          | 0, _ =>
            refine op_go rfl rfl ?_
            go_simp
            exact hK.out _ v _ _ rfl rfl rfl hG (World.grownBy.refl _ _)
          | 1, _ =>
            have q0 : v 0 = .pointer (some ⟨g, 1, none⟩) := hd 0 (by decide)
            refine op_go rfl rfl ?_
            go_simp
            exact hK.out _ (upd v 0 _) _ _ (upd_on rfl q0) rfl rfl hG (World.grownBy.refl _ _)
          | 2, _ =>
            refine op_go rfl rfl ?_
            go_simp
            exact hK.out _ v _ _ rfl rfl rfl hG (World.grownBy.refl _ _)
          | 3, _ =>
            have q2 : v 2 = .pointer (some ⟨b, 0, none⟩) := hd 2 (by decide)
            refine op_go rfl rfl ?_
            go_simp
            refine (cC.out _ hG.dr).mono ?_
            rintro e X' ⟨⟨d0, d1, d2, d3⟩, hx, hsm, hd', hg'⟩
            replace hx : e = .returned (.agg #[.string d0, .string d1, .string d2, .int .i64 d3]) := hx
            subst hx
            exact hK.out _ (upd v 2 _) _ _ (upd_on rfl q2) rfl ⟨d0, d1, d2, d3, rfl, hsm⟩ (hG.call hd' hg') hg'
          | 4, _ =>
            obtain ⟨d0, d1, d2, d3, q3, hsm⟩ : ∃ (d0 d1 d2 : ByteArray) (d3 : Int), v 3 = .agg #[.string d0, .string d1, .string d2, .int .i64 d3] ∧ CdSm ⟨d0, d1, d2, d3⟩ := hd 3 (by decide)
            refine op_go rfl rfl ?_
            go_simp
            exact hK.out _ (upd v 3 _) _ _ (upd_on rfl q3) rfl ⟨X.heap.size, d0, d1, d2, d3, rfl, by have := hG.gr.size; have := lt_heap hG.hr; omega, hsm, heap_alloc_new X _⟩ (hG.below ((Below.refl _ X).alloc (Nat.le_refl _) _)) (grown_below ((Below.refl _ X).alloc (Nat.le_refl _) _))
        case last =>
          intro v X hG hd
          obtain ⟨y0, y1, y2, y3, y4, y5, yf⟩ := hG.cells
          have q1 : v 1 = .slice A q.cs.length ca := hd 1 (by decide)
          obtain ⟨g9, d0, d1, d2, d3, q4, hl9, hsm, hG9⟩ : ∃ (g9 : Nat) (d0 d1 d2 : ByteArray) (d3 : Int), v 4 = .slice (some ⟨g9, 0, none⟩) 1 1 ∧ w.heap.size < g9 ∧ CdSm ⟨d0, d1, d2, d3⟩ ∧ X.heap[g9]? = some (.cells (cdL ⟨d0, d1, d2, d3⟩).toArray 67 (0, 0)) := hd 4 (by decide)
          refine op_go rfl rfl ?_
          have OX := hG.o1
          have hsX : w.heap.size + 1 ≤ X.heap.size := by have := lt_heap hG.hr; omega
          have hs1 := hid hSm.out.1
          refine wp_append_own X (.tmp 15) (.tmp 18) 23 rfl (w.heap.size + 1) 67 i0 _ 4 56 Tryz.underlying23 hi hz0 hz1 hz2 rfl (by decide) _ q.cs.length _ (by exact q1) OX ⟨g9, 0, none⟩ 1 1 (cdL ⟨d0, d1, d2, d3⟩) (by exact q4) rfl (cd_newL hG9) (by intro u hu; simp at hu; rcases hu with rfl | rfl | rfl | rfl <;> rfl) (by unfold maxLen; omega) (by omega) hsX ?_
          intro v' w1 ho hg _
          obtain ⟨a2, c2, rfl⟩ := ownB_form ho
          have ho2 : w1.ownsRow (w.heap.size + 1) 67 4 (.slice a2 (q.cs ++ [(⟨d0, d1, d2, d3⟩ : Cd)]).length c2) (q.cs ++ [(⟨d0, d1, d2, d3⟩ : Cd)]).length ((q.cs ++ [(⟨d0, d1, d2, d3⟩ : Cd)]).flatMap Cd.cells) := by rw [show (q.cs ++ [(⟨d0, d1, d2, d3⟩ : Cd)]).length = q.cs.length + 1 by simp, cd_snoc]; exact ho
          have N : Hid (MQe w (w1.setCell ⟨g, 1, none⟩ (.slice a2 (q.cs.length + 1) c2)) b g n V (q.cs.length + 1)) := hid (by
            have h9 := (hG.row (grownChg hg) ho2).mqe (m := q.cs.length + 1) (by simp) (sm_snoc hSm.out _ hsm (by omega))
            rw [show (q.cs ++ [(⟨d0, d1, d2, d3⟩ : Cd)]).length = q.cs.length + 1 by simp] at h9
            exact h9)
          have hx := (hg.block g (lt_heap hG.hd) (fun e => own_ne hG.o1 hG.hd (by decide) g e.symm rfl)).trans hG.hd
          have d0 : w1.cell? ⟨g, 1, none⟩ = some (.slice A q.cs.length ca) := by rw [Lib.cell_of_heap hx]; rfl
          have df := Lib.frozen_of_heap hx
          clear ho hg OX ho2 hd hG9 hx y0 y1 y2 y3 y4 y5 yf
          refine op_go rfl rfl ?_
          go_simp
          refine op_go rfl rfl ?_
          go_simp
          clear d0 df
          generalize w1.setCell ⟨g, 1, none⟩ (.slice a2 (q.cs.length + 1) c2) = W9 at *
          clear hG MM
          go_wp2_with fail
          go_roundw
          case rel => exact ⟨k - 1, q.cs.length + 1, by go_num, by omega, by omega, N.out.le (Nat.le_refl _)⟩
          case measure => simp [intOf]; omega
      · have hk9 : k = 0 := by omega
        subst hk9
        go_wp2_with fail
        go_meet
        exact M.out.le (by omega)
  case rest =>
    have M : Hid (MQ w wc b g n V 2) := hid hcut
    clear hcut
    obtain ⟨q, A, ca, hl, hs, hM⟩ := M.out
    have hSm := hid hs
    have MM := hid hM
    clear hM hs M
    obtain ⟨y0, y1, y2, y3, y4, y5, yf⟩ := MM.out.cells
    go_upto_region 6 with fail
    go_cut [26] from 21 to 26 (fun s wx => ∃ c : Bool, s = .bool c ∧ MdQ w wx b g n V (.slice A q.cs.length ca) q)
    case first =>
      generalize hcn : q.cnt = cn at *
      cases cn with
      | true =>
        go_wp2_with fail
        refine (cO.out _ _ MM.out.dr (by decide)).mono ?_
        rintro e W4 ⟨c, rfl, hd4, hg4⟩
        have M4 := hid (MM.out.call hd4 hg4)
        clear hd4 hg4 y0 y1 y2 y3 y4 y5 yf
        go_wp2_with fail
        go_meet
        exact ⟨c, rfl, M4.out⟩
      | false =>
        go_wp2_with fail
        go_meet
        exact ⟨false, rfl, MM.out⟩
    case rest =>
    obtain ⟨c6, rfl, hM9⟩ := hcut
    clear y0 y1 y2 y3 y4 y5 yf MM
    have MM := hid hM9
    clear hM9
    obtain ⟨y0, y1, y2, y3, y4, y5, yf⟩ := MM.out.cells
    go_upto_if 26 with fail
    go_cut [] from 27 to 30 (fun wx => MQ w wx b g n V 2)
    case first =>
      cases c6 with
      | false =>
        go_wp2_with fail
        go_meet
        exact MM.out.mq hl hSm.out
      | true =>
        go_wp2_with fail
        refine (pick_new b n wc.heap.size 6 V S6 _ MM.out.dr rfl rfl (by decide) (by decide)).mono ?_
        rintro e W4 ⟨f, rfl, hf, hd4, hg4⟩
        have hsf : f.size ≤ 20 := small_S6 f hf
        have M4 := hid (MM.out.call hd4 hg4)
        clear hd4 hg4 y0 y1 y2 y3 y4 y5 yf MM hf
        have MM := M4
        clear M4
        obtain ⟨y0, y1, y2, y3, y4, y5, yf⟩ := MM.out.cells
        have M5 := hid (MM.out.set (q' := ⟨q.cnt, q.cs, f, q.ord, q.dwn, q.lim⟩) 2 (.string f) rfl rfl)
        go_wp2_with fail
        go_meet
        exact M5.out.mq hl ⟨hSm.out.1, hSm.out.2.1, hsf, hSm.out.2.2.2⟩
    case rest =>
    clear y0 y1 y2 y3 y4 y5 yf MM hSm hl
    have M : Hid (MQ w wc b g n V 2) := hid hcut
    clear hcut
    obtain ⟨q, A, ca, hl, hs, hM⟩ := M.out
    have hSm := hid hs
    have MM := hid hM
    clear hM hs M
    obtain ⟨y0, y1, y2, y3, y4, y5, yf⟩ := MM.out.cells
    go_upto_region 8 with fail
    go_cut [37] from 31 to 37 (fun s wx => ∃ c : Bool, s = .bool c ∧ MdQ w wx b g n V (.slice A q.cs.length ca) q)
    case first =>
      generalize hcn : q.cnt = cn at *
      cases cn with
      | true =>
        go_wp2_with fail
        go_meet
        exact ⟨false, rfl, MM.out⟩
      | false =>
        go_wp2_with fail
        refine (cO.out _ _ MM.out.dr (by decide)).mono ?_
        rintro e W4 ⟨c, rfl, hd4, hg4⟩
        have M4 := hid (MM.out.call hd4 hg4)
        clear hd4 hg4 y0 y1 y2 y3 y4 y5 yf
        go_wp2_with fail
        go_meet
        exact ⟨c, rfl, M4.out⟩
    case rest =>
    obtain ⟨c8, rfl, hM9⟩ := hcut
    clear y0 y1 y2 y3 y4 y5 yf MM
    have MM := hid hM9
    clear hM9
    obtain ⟨y0, y1, y2, y3, y4, y5, yf⟩ := MM.out.cells
    go_upto_if 37 with fail
    go_cut [] from 38 to 44 (fun wx => MQ w wx b g n V 2)
    case first =>
      cases c8 with
      | false =>
        go_wp2_with fail
        go_meet
        exact MM.out.mq hl hSm.out
      | true =>
        go_wp2_with fail
        refine (pick_new b n wc.heap.size 3 V S3 _ MM.out.dr rfl rfl (by decide) (by decide)).mono ?_
        rintro e W4 ⟨f, rfl, hf, hd4, hg4⟩
        have hsf : f.size ≤ 20 := small_S3 f hf
        have M4 := hid (MM.out.call hd4 hg4)
        clear hd4 hg4 y0 y1 y2 y3 y4 y5 yf MM hf
        have MM := M4
        clear M4
        obtain ⟨y0, y1, y2, y3, y4, y5, yf⟩ := MM.out.cells
        have M5 := hid (MM.out.set (q' := ⟨q.cnt, q.cs, q.by', f, q.dwn, q.lim⟩) 3 (.string f) rfl rfl)
        go_upto_region 10 with fail
        generalize W4.setCell ⟨g, 3, none⟩ (.string f) = W5 at *
        clear y0 y1 y2 y3 y4 y5 yf MM
        go_wp2_with fail
        refine (cO.out _ _ M5.out.dr (by decide)).mono ?_
        rintro e W6 ⟨c, rfl, hd4, hg4⟩
        have M6 := hid (M5.out.call hd4 hg4)
        clear hd4 hg4 M5
        obtain ⟨y0, y1, y2, y3, y4, y5, yf⟩ := M6.out.cells
        have M7 := hid (M6.out.set (q' := ⟨q.cnt, q.cs, q.by', f, c, q.lim⟩) 4 (.bool c) rfl rfl)
        go_wp2_with fail
        go_meet
        exact M7.out.mq hl ⟨hSm.out.1, hSm.out.2.1, hSm.out.2.2.1, hsf⟩
    case rest =>
    clear y0 y1 y2 y3 y4 y5 yf MM hSm hl
    have M : Hid (MQ w wc b g n V 2) := hid hcut
    clear hcut
    obtain ⟨q, A, ca, hl, hs, hM⟩ := M.out
    have hSm := hid hs
    have MM := hid hM
    clear hM hs M
    obtain ⟨y0, y1, y2, y3, y4, y5, yf⟩ := MM.out.cells
    go_upto_region 11 with fail
    go_cut [51] from 45 to 51 (fun s wx => ∃ c : Bool, s = .bool c ∧ MdQ w wx b g n V (.slice A q.cs.length ca) q)
    case first =>
      generalize hcn : q.cnt = cn at *
      cases cn with
      | true =>
        go_wp2_with fail
        go_meet
        exact ⟨false, rfl, MM.out⟩
      | false =>
        go_wp2_with fail
        refine (cO.out _ _ MM.out.dr (by decide)).mono ?_
        rintro e W4 ⟨c, rfl, hd4, hg4⟩
        have M4 := hid (MM.out.call hd4 hg4)
        clear hd4 hg4 y0 y1 y2 y3 y4 y5 yf
        go_wp2_with fail
        go_meet
        exact ⟨c, rfl, M4.out⟩
    case rest =>
    obtain ⟨c11, rfl, hM9⟩ := hcut
    clear y0 y1 y2 y3 y4 y5 yf MM
    have MM := hid hM9
    clear hM9
    obtain ⟨y0, y1, y2, y3, y4, y5, yf⟩ := MM.out.cells
    go_upto_if 51 with fail
    go_cut [] from 52 to 54 (fun wx => MQ w wx b g n V 2)
    case first =>
      cases c11 with
      | false =>
        go_wp2_with fail
        go_meet
        exact MM.out.mq hl hSm.out
      | true =>
        go_wp2_with fail
        refine (cN.out _ _ MM.out.dr (by decide)).mono ?_
        rintro e W4 ⟨r, rfl, _, hd4, hg4⟩
        have M4 := hid (MM.out.call hd4 hg4)
        clear hd4 hg4 y0 y1 y2 y3 y4 y5 yf MM
        have MM := M4
        clear M4
        obtain ⟨y0, y1, y2, y3, y4, y5, yf⟩ := MM.out.cells
        have M5 := hid (MM.out.set (q' := ⟨q.cnt, q.cs, q.by', q.ord, q.dwn, r⟩) 5 (.int .i64 r) rfl rfl)
        go_wp2_with fail
        go_meet
        exact M5.out.mq hl hSm.out
    case rest =>
    clear y0 y1 y2 y3 y4 y5 yf MM hSm hl
    have M : Hid (MQ w wc b g n V 2) := hid hcut
    clear hcut
    obtain ⟨q, A, ca, hl, hs, hM⟩ := M.out
    have hSm := hid hs
    have MM := hid hM
    clear hM hs M
    go_wp2_with fail
    refine (cO.out 15 _ MM.out.dr (by decide)).mono ?_
    rintro e W4 ⟨c9, rfl, hd4, hg4⟩
    have M4 := hid (MM.out.call hd4 hg4)
    clear hd4 hg4 MM
    have MM := M4
    clear M4
    go_upto_if 56 with fail
    go_cut [] from 57 to 110 (fun wx => MQ w wx b g n V 10)
    case first =>
      cases c9 with
      | false =>
        go_wp2_with fail
        go_meet
        exact MM.out.mq (by omega) hSm.out
      | true =>
        go_wp2_with fail
        refine (cN.out 6 _ MM.out.dr (by decide)).mono ?_
        rintro e W5 ⟨r, rfl, ⟨r0, r1, _⟩, hd4, hg4⟩
        have r2 := r1 (by decide)
        have M4 := hid (MM.out.call hd4 hg4)
        clear hd4 hg4 MM r1
        have MM := M4
        clear M4
        obtain ⟨y0, y1, y2, y3, y4, y5, yf⟩ := MM.out.cells
        have hr : r = 0 ∨ r = 1 ∨ r = 2 ∨ r = 3 ∨ r = 4 ∨ r = 5 := by omega
        clear r0 r2
        rcases hr with rfl | rfl | rfl | rfl | rfl | rfl
        · go_wp2_with fail
          have hba := (Below.refl _ W5).alloc (Nat.le_refl _) (.cells #[.int .i64 (-2), .int .i64 0, .int .i64 200, .int .i64 201] 2)
          refine (cN.out 4 _ (MM.out.dr.below hba) (by decide)).mono ?_
          rintro e W6 ⟨r, rfl, ⟨r0, r1, _⟩, hd4, hg4⟩
          have r2 := r1 (by decide)
          have M4 := hid ((MM.out.below hba).call hd4 hg4)
          have hL := (hg4.block W5.heap.size (by simp) (by have := MM.out.dr.src.lt; simp; omega)).trans (heap_alloc_new W5 (.cells #[.int .i64 (-2), .int .i64 0, .int .i64 200, .int .i64 201] 2))
          clear hd4 hg4 y0 y1 y2 y3 y4 y5 yf MM r1 hba
          obtain ⟨y0, y1, y2, y3, y4, y5, yf⟩ := M4.out.cells
          obtain ⟨x, hx⟩ : ∃ x : Int, W6.cell? ⟨W5.heap.size, r.toNat, none⟩ = some (.int .i64 x) := by
            have hr : r = 0 ∨ r = 1 ∨ r = 2 ∨ r = 3 := by omega
            rcases hr with rfl | rfl | rfl | rfl
            all_goals (rw [Lib.cell_of_heap hL]; exact ⟨_, rfl⟩)
          obtain ⟨j, rfl⟩ := Int.eq_ofNat_of_zero_le r0
          rw [Int.toNat_natCast] at hx
          clear hL
          have M7 := hid (M4.out.set (q' := ⟨q.cnt, q.cs, q.by', q.ord, q.dwn, x⟩) 5 (.int .i64 x) rfl rfl)
          have r3 : (j : Int) < 4 := r2
          go_wp2_with fail
          go_meet
          exact M7.out.mq (by show q.cs.length ≤ 10; omega) hSm.out
        · have M7 := hid (MM.out.set (q' := ⟨q.cnt, q.cs, q.by', q.ord, true, q.lim⟩) 4 (.bool true) rfl rfl)
          go_wp2_with fail
          go_meet
          exact M7.out.mq (by show q.cs.length ≤ 10; omega) hSm.out
        · go_wp2_with fail
          refine (pick_new b n W5.heap.size 2 V S2 _ MM.out.dr rfl rfl (by decide) (by decide)).mono ?_
          rintro e W6 ⟨f, rfl, hf, hd4, hg4⟩
          have hsf : f.size ≤ 20 := small_S2 f hf
          have M4 := hid (MM.out.call hd4 hg4)
          clear hd4 hg4 y0 y1 y2 y3 y4 y5 yf MM hf
          obtain ⟨y0, y1, y2, y3, y4, y5, yf⟩ := M4.out.cells
          have M7 := hid (M4.out.set (q' := ⟨q.cnt, q.cs, f, q.ord, q.dwn, q.lim⟩) 2 (.string f) rfl rfl)
          go_wp2_with fail
          go_meet
          exact M7.out.mq (by show q.cs.length ≤ 10; omega) ⟨hSm.out.1, hSm.out.2.1, hsf, hSm.out.2.2.2⟩
        · clear y0 y1 y2 y3 y4 y5 yf
          go_wp2_with fail
          go_loopg [] (8 - q.cs.length) (fun k wr => ∃ (q : Qy) (A : Option Addr) (c : Nat), q.cs.length + k = 8 ∧ QySm q ∧ MdQ w wr b g n V (.slice A q.cs.length c) q)
          case atStart => exact ⟨q, A, ca, by omega, hSm.out, MM.out⟩
          case round =>
            obtain ⟨q, A, ca, hl8, hs, hM⟩ := hrel
            clear MM hSm
            have hSm := hid hs
            have MM := hid hM
            clear hM hs hl
            have hw : ∀ r : Int, 0 ≤ r → r < 3 → IntKind.i64.wrap (5 + r) = 5 + r := fun r h0 h1 => by rw [IntKind.wrap_i64]; omega
            have hq9 : (0 : Int) ≤ (q.cs.length : Int) := by omega
            go_upto_region 23 with fail
            refine wp_region_ok mixed 7 [[],[0],[0,1],[],[3],[3,4],[0,1,2,3,4,5]] (fun v => { tmps := #[.pointer (some ⟨b, 0, none⟩), undef, .pointer (some ⟨w.heap.size, 0, none⟩), .pointer (some ⟨g, 0, none⟩), u4, .pointer (some ⟨b, 0, none⟩), .bool c0, .agg #[.bool c0, .slice none 0 0, .string { data := #[] }, .string { data := #[] }, .bool false, .int .i64 (-1)], .pointer (some ⟨b, 0, none⟩), .int .i64 k0, u10, u11, u12, u13, u14, u15, u16, u17, u18, u19, u20, u21, u22, u23, u24, u25, .bool c6, u27, u28, u29, u30, u31, u32, u33, u34, u35, u36, .bool c8, u38, u39, u40, u41, u42, u43, u44, u45, u46, u47, u48, u49, u50, .bool c11, u52, u53, u54, .pointer (some ⟨b, 0, none⟩), .bool true, .pointer (some ⟨b, 0, none⟩), .int .i64 3, undef, undef, undef, undef, undef, undef, undef, undef, undef, undef, undef, .bool false, .bool false, undef, undef, undef, undef, undef, undef, .bool false, .bool false, undef, .bool false, .bool false, undef, undef, undef, undef, .bool true, .bool true, v 0, v 1, v 2, v 3, v 4, v 5, v 6, u96, u97, u98, u99, u100, u101, u102, undef, undef, undef, undef, undef, undef, undef, undef, undef], defers := [] }) (fun i9 => match i9 with | 0 => u89 | 1 => u90 | 2 => u91 | 3 => u92 | 4 => u93 | 5 => u94 | 6 => u95 | _ => undef) (fun i9 x X => match i9 with
              | 0 => x = .pointer (some ⟨g, 1, none⟩)
              | 1 => x = .slice A q.cs.length ca
              | 2 => x = .int .i64 (q.cs.length : Int)
              | 3 => x = .pointer (some ⟨b, 0, none⟩)
              | 4 => ∃ r : Int, x = .int .i64 r ∧ 0 ≤ r ∧ r < 3
              | 5 => ∃ r : Int, x = .int .i64 (5 + r) ∧ 0 ≤ r ∧ r < 3
              | 6 => ∃ c : Bool, x = .bool c ∧ (c = true → q.cs.length ≤ 6)
              | _ => True) (fun X => MdQ w X b g n V (.slice A q.cs.length ca) q) (fun X X' => X.grownBy X' (some b)) (by kernel_rfl) rfl (MM.out.below (Below.refl _ _).drew) ?mono ?step ?fin
            case mono =>
              intro i9 x X X' hi9 hG hS h
              match i9, hi9 with
              | 0, _ | 1, _ | 2, _ | 3, _ => exact h
              | 4, _ => exact h
              | 5, _ => exact h
              | 6, _ => exact h
            case step =>
              intro i9 v X hi9 hG hd hu K hK
              have HU := hid hu
              clear hu
              obtain ⟨y0, y1, y2, y3, y4, y5, yf⟩ := hG.cells
              match i9, hi9 with
              | 0, _ =>
                refine op_go rfl rfl ?_
                go_simp
                exact hK.out _ v _ _ rfl rfl rfl hG (World.grownBy.refl _ _)
              | 1, _ =>
                have q0 : v 0 = .pointer (some ⟨g, 1, none⟩) := hd 0 (by decide)
                refine op_go rfl rfl ?_
                go_simp
                exact hK.out _ (upd v 0 _) _ _ (upd_on rfl q0) rfl rfl hG (World.grownBy.refl _ _)
              | 2, _ =>
                have q1 : v 1 = .slice A q.cs.length ca := hd 1 (by decide)
                refine op_go rfl rfl ?_
                go_simp
                exact hK.out _ (upd v 1 _) _ _ (upd_on rfl q1) rfl rfl hG (World.grownBy.refl _ _)
              | 3, _ =>
                refine op_go rfl rfl ?_
                go_simp
                exact hK.out _ v _ _ rfl rfl rfl hG (World.grownBy.refl _ _)
              | 4, _ =>
                have q3 : v 3 = .pointer (some ⟨b, 0, none⟩) := hd 3 (by decide)
                refine op_go rfl rfl ?_
                go_simp
                refine (cN.out 3 _ hG.dr (by decide)).mono ?_
                rintro e X' ⟨r, rfl, ⟨l, u, _⟩, hd', hg'⟩
                exact hK.out _ (upd v 3 _) _ _ (upd_on rfl q3) rfl ⟨r, rfl, l, u (by decide)⟩ (hG.call hd' hg') hg'
              | 5, _ =>
                obtain ⟨r, q4, h0, h3⟩ : ∃ r : Int, v 4 = .int .i64 r ∧ 0 ≤ r ∧ r < 3 := hd 4 (by decide)
                have hw9 := hw r h0 h3
                refine op_go rfl rfl ?_
                go_simp
                exact hK.out _ (upd v 4 _) _ _ (upd_on rfl q4) rfl ⟨r, rfl, h0, h3⟩ hG (World.grownBy.refl _ _)
              | 6, _ =>
                have q2 : v 2 = .int .i64 (q.cs.length : Int) := hd 2 (by decide)
                obtain ⟨r, q5, h0, h3⟩ : ∃ r : Int, v 5 = .int .i64 (5 + r) ∧ 0 ≤ r ∧ r < 3 := hd 5 (by decide)
                refine op_go rfl rfl ?_
                go_simp
                exact hK.out _ (upd (upd v 2 _) 5 _) _ _ (upd_on (upd_on rfl q2) q5) rfl ⟨_, rfl, fun h => by have := of_decide_eq_true h; omega⟩ hG (World.grownBy.refl _ _)
            case fin =>
              intro v X hG hd
              obtain ⟨c, q6, hc6⟩ : ∃ c : Bool, v 6 = .bool c ∧ (c = true → q.cs.length ≤ 6) := hd 6 (by decide)
              clear MM hw
              have MM := hid hG
              clear hG hd
              generalize v 6 = s6 at *
              subst q6
              cases c with
              | false =>
                go_wp2_with fail
                go_meet
                exact MM.out.mq (by omega) hSm.out
              | true =>
                have hl6 := hc6 rfl
                clear hc6
                go_upto_region 24 with fail
                refine wp_region_three mixed 5 [[],[0],[],[2],[2,3],[0,1,2,3,4],[0,1,2,3,4,5],[0,1,2,3,4,5,6]] (fun y => { tmps := #[.pointer (some ⟨b, 0, none⟩), undef, .pointer (some ⟨w.heap.size, 0, none⟩), .pointer (some ⟨g, 0, none⟩), u4, .pointer (some ⟨b, 0, none⟩), .bool c0, .agg #[.bool c0, .slice none 0 0, .string { data := #[] }, .string { data := #[] }, .bool false, .int .i64 (-1)], .pointer (some ⟨b, 0, none⟩), .int .i64 k0, u10, u11, u12, u13, u14, u15, u16, u17, u18, u19, u20, u21, u22, u23, u24, u25, .bool c6, u27, u28, u29, u30, u31, u32, u33, u34, u35, u36, .bool c8, u38, u39, u40, u41, u42, u43, u44, u45, u46, u47, u48, u49, u50, .bool c11, u52, u53, u54, .pointer (some ⟨b, 0, none⟩), .bool true, .pointer (some ⟨b, 0, none⟩), .int .i64 3, undef, undef, undef, undef, undef, undef, undef, undef, undef, undef, undef, .bool false, .bool false, undef, undef, undef, undef, undef, undef, .bool false, .bool false, undef, .bool false, .bool false, undef, undef, undef, undef, .bool true, .bool true, v 0, v 1, v 2, v 3, v 4, v 5, .bool true, y 0, y 1, y 2, y 3, y 4, u101, u102, undef, undef, undef, undef, undef, undef, undef, undef, undef], defers := [] }) (fun i9 => match i9 with | 0 => u96 | 1 => u97 | 2 => u98 | 3 => u99 | 4 => u100 | _ => undef) (fun i9 x X => match i9 with
                  | 0 => x = .pointer (some ⟨g, 1, none⟩)
                  | 1 => x = .slice A q.cs.length ca
                  | 2 => x = .pointer (some ⟨b, 0, none⟩)
                  | 3 => ∃ (d0 d1 d2 : ByteArray) (d3 : Int), x = .agg #[.string d0, .string d1, .string d2, .int .i64 d3] ∧ CdSm ⟨d0, d1, d2, d3⟩
                  | 4 => ∃ (g9 : Nat) (d0 d1 d2 : ByteArray) (d3 : Int), x = .slice (some ⟨g9, 0, none⟩) 1 1 ∧ w.heap.size < g9 ∧ CdSm ⟨d0, d1, d2, d3⟩ ∧ X.heap[g9]? = some (.cells (cdL ⟨d0, d1, d2, d3⟩).toArray 67 (0, 0))
                  | _ => True) (fun X => MdQ w X b g n V (.slice A q.cs.length ca) q) (fun X X' => X.grownBy X' (some b)) (by kernel_rfl) rfl (MM.out.below (Below.refl _ _).drew) ?monoq ?stepq ?lastq
                case monoq =>
                  intro i9 x X X' hi9 hG hS h
                  match i9, hi9 with
                  | 0, _ | 1, _ | 2, _ => exact h
                  | 3, _ => exact h
                  | 4, _ => obtain ⟨g9, d0, d1, d2, d3, e9, hl9, hsm, hG9⟩ := h; exact ⟨g9, d0, d1, d2, d3, e9, hl9, hsm, (hS.block _ (lt_heap hG9) (by simp; omega)).trans hG9⟩
                case stepq =>
                  intro i9 y X hi9 hG hd hu K hK
                  have HU := hid hu
                  clear hu
                  obtain ⟨y0, y1, y2, y3, y4, y5, yf⟩ := hG.cells
                  match i9, hi9 with
                  | 0, _ =>
                    refine op_go rfl rfl ?_
                    go_simp
                    exact hK.out _ y _ _ rfl rfl rfl hG (World.grownBy.refl _ _)
                  | 1, _ =>
                    have q0 : y 0 = .pointer (some ⟨g, 1, none⟩) := hd 0 (by decide)
                    refine op_go rfl rfl ?_
                    go_simp
                    exact hK.out _ (upd y 0 _) _ _ (upd_on rfl q0) rfl rfl hG (World.grownBy.refl _ _)
                  | 2, _ =>
                    refine op_go rfl rfl ?_
                    go_simp
                    exact hK.out _ y _ _ rfl rfl rfl hG (World.grownBy.refl _ _)
                  | 3, _ =>
                    have q2 : y 2 = .pointer (some ⟨b, 0, none⟩) := hd 2 (by decide)
                    refine op_go rfl rfl ?_
                    go_simp
                    refine (cC.out _ hG.dr).mono ?_
                    rintro e X' ⟨⟨d0, d1, d2, d3⟩, hx, hsm, hd', hg'⟩
                    replace hx : e = .returned (.agg #[.string d0, .string d1, .string d2, .int .i64 d3]) := hx
                    subst hx
                    exact hK.out _ (upd y 2 _) _ _ (upd_on rfl q2) rfl ⟨d0, d1, d2, d3, rfl, hsm⟩ (hG.call hd' hg') hg'
                  | 4, _ =>
                    obtain ⟨d0, d1, d2, d3, q3, hsm⟩ : ∃ (d0 d1 d2 : ByteArray) (d3 : Int), y 3 = .agg #[.string d0, .string d1, .string d2, .int .i64 d3] ∧ CdSm ⟨d0, d1, d2, d3⟩ := hd 3 (by decide)
                    refine op_go rfl rfl ?_
                    go_simp
                    exact hK.out _ (upd y 3 _) _ _ (upd_on rfl q3) rfl ⟨X.heap.size, d0, d1, d2, d3, rfl, by have := hG.gr.size; have := lt_heap hG.hr; omega, hsm, heap_alloc_new X _⟩ (hG.below ((Below.refl _ X).alloc (Nat.le_refl _) _)) (grown_below ((Below.refl _ X).alloc (Nat.le_refl _) _))
                case lastq =>
                  intro y X hG hd
                  obtain ⟨y0, y1, y2, y3, y4, y5, yf⟩ := hG.cells
                  have q1 : y 1 = .slice A q.cs.length ca := hd 1 (by decide)
                  obtain ⟨g9, d0, d1, d2, d3, q4, hl9, hsm, hG9⟩ : ∃ (g9 : Nat) (d0 d1 d2 : ByteArray) (d3 : Int), y 4 = .slice (some ⟨g9, 0, none⟩) 1 1 ∧ w.heap.size < g9 ∧ CdSm ⟨d0, d1, d2, d3⟩ ∧ X.heap[g9]? = some (.cells (cdL ⟨d0, d1, d2, d3⟩).toArray 67 (0, 0)) := hd 4 (by decide)
                  refine op_go rfl rfl ?_
                  have OX := hG.o1
                  have hsX : w.heap.size + 1 ≤ X.heap.size := by have := lt_heap hG.hr; omega
                  have hs1 := hid hSm.out.1
                  refine wp_append_own X (.tmp 97) (.tmp 100) 23 rfl (w.heap.size + 1) 67 i0 _ 4 56 Tryz.underlying23 hi hz0 hz1 hz2 rfl (by decide) _ q.cs.length _ (by exact q1) OX ⟨g9, 0, none⟩ 1 1 (cdL ⟨d0, d1, d2, d3⟩) (by exact q4) rfl (cd_newL hG9) (by intro u hu; simp at hu; rcases hu with rfl | rfl | rfl | rfl <;> rfl) (by unfold maxLen; omega) (by omega) hsX ?_
                  intro v' w1 ho hg _
                  obtain ⟨a2, c2, rfl⟩ := ownB_form ho
                  have ho2 : w1.ownsRow (w.heap.size + 1) 67 4 (.slice a2 (q.cs ++ [(⟨d0, d1, d2, d3⟩ : Cd)]).length c2) (q.cs ++ [(⟨d0, d1, d2, d3⟩ : Cd)]).length ((q.cs ++ [(⟨d0, d1, d2, d3⟩ : Cd)]).flatMap Cd.cells) := by rw [show (q.cs ++ [(⟨d0, d1, d2, d3⟩ : Cd)]).length = q.cs.length + 1 by simp, cd_snoc]; exact ho
                  have N : Hid (MQe w (w1.setCell ⟨g, 1, none⟩ (.slice a2 (q.cs.length + 1) c2)) b g n V (q.cs.length + 1)) := hid (by
                    have h9 := (hG.row (grownChg hg) ho2).mqe (m := q.cs.length + 1) (by simp) (sm_snoc hSm.out _ hsm (by omega))
                    rw [show (q.cs ++ [(⟨d0, d1, d2, d3⟩ : Cd)]).length = q.cs.length + 1 by simp] at h9
                    exact h9)
                  have hx := (hg.block g (lt_heap hG.hd) (fun e => own_ne hG.o1 hG.hd (by decide) g e.symm rfl)).trans hG.hd
                  have d0 : w1.cell? ⟨g, 1, none⟩ = some (.slice A q.cs.length ca) := by rw [Lib.cell_of_heap hx]; rfl
                  have df := Lib.frozen_of_heap hx
                  clear ho hg OX ho2 hd hG9 hx y0 y1 y2 y3 y4 y5 yf
                  refine op_go rfl rfl ?_
                  go_simp
                  refine op_go rfl rfl ?_
                  go_simp
                  clear d0 df
                  generalize w1.setCell ⟨g, 1, none⟩ (.slice a2 (q.cs.length + 1) c2) = W9 at *
                  clear hG MM
                  obtain ⟨q2, A2, ca2, hl2, hs2, hM2⟩ := N.out
                  go_wp2_with fail
                  go_roundg (gk - 1)
                  case measure => omega
                  case rel => exact ⟨q2, A2, ca2, by omega, hs2, hM2⟩
        · have HOA := hid (MM.out.below ((Below.refl _ _).alloc (Nat.le_refl _) (.cells #[.string ⟨#[107, 105, 110, 100]⟩, .string ⟨#[60]⟩, .string ⟨#[115, 101, 116]⟩, .int .i64 0] 67)))
          have hsz : w.heap.size + 1 ≤ (W5.alloc (.cells #[.string ⟨#[107, 105, 110, 100]⟩, .string ⟨#[60]⟩, .string ⟨#[115, 101, 116]⟩, .int .i64 0] 67)).heap.size := by have := lt_heap HOA.out.hr; omega
          have HC1 := hid (cd_newL (d := ⟨⟨#[107, 105, 110, 100]⟩, ⟨#[60]⟩, ⟨#[115, 101, 116]⟩, 0⟩) (heap_alloc_new W5 (.cells #[.string ⟨#[107, 105, 110, 100]⟩, .string ⟨#[60]⟩, .string ⟨#[115, 101, 116]⟩, .int .i64 0] 67)))
          have hs1 := hSm.out.1
          go_wp2_with (first | (at_builtin; refine wpList_append_own _ rfl _ _ 23 rfl (w.heap.size + 1) 67 i0 _ 4 56 Tryz.underlying23 hi hz0 hz1 hz2 rfl (by decide) _ _ _ rfl HOA.out.o1 ⟨W5.heap.size, 0, none⟩ 1 1 (cdL ⟨⟨#[107, 105, 110, 100]⟩, ⟨#[60]⟩, ⟨#[115, 101, 116]⟩, 0⟩) rfl rfl HC1.out ?c2 ?c3 ?c4 hsz ?_) | fail)
          case c2 => intro u hu; simp at hu; rcases hu with rfl | rfl | rfl | rfl <;> rfl
          case c3 => unfold maxLen; omega
          case c4 => omega
          intro v' w1 ho hg _
          obtain ⟨a2, c2, rfl⟩ := ownB_form ho
          have ho2 : w1.ownsRow (w.heap.size + 1) 67 4 (.slice a2 (q.cs ++ [(⟨⟨#[107, 105, 110, 100]⟩, ⟨#[60]⟩, ⟨#[115, 101, 116]⟩, 0⟩ : Cd)]).length c2) (q.cs ++ [(⟨⟨#[107, 105, 110, 100]⟩, ⟨#[60]⟩, ⟨#[115, 101, 116]⟩, 0⟩ : Cd)]).length ((q.cs ++ [(⟨⟨#[107, 105, 110, 100]⟩, ⟨#[60]⟩, ⟨#[115, 101, 116]⟩, 0⟩ : Cd)]).flatMap Cd.cells) := by rw [show (q.cs ++ [(⟨⟨#[107, 105, 110, 100]⟩, ⟨#[60]⟩, ⟨#[115, 101, 116]⟩, 0⟩ : Cd)]).length = q.cs.length + 1 by simp, cd_snoc]; exact ho
          have N : Hid (MQe w (w1.setCell ⟨g, 1, none⟩ (.slice a2 (q.cs.length + 1) c2)) b g n V (q.cs.length + 1)) := hid (by
            have h9 := (HOA.out.row (grownChg hg) ho2).mqe (m := q.cs.length + 1) (by simp) (sm_snoc hSm.out _ ⟨by decide, by decide, by decide, by decide, by decide⟩ (by omega))
            rw [show (q.cs ++ [(⟨⟨#[107, 105, 110, 100]⟩, ⟨#[60]⟩, ⟨#[115, 101, 116]⟩, 0⟩ : Cd)]).length = q.cs.length + 1 by simp] at h9
            exact h9)
          have hx := (hg.block g (lt_heap HOA.out.hd) (fun e => own_ne HOA.out.o1 HOA.out.hd (by decide) g e.symm rfl)).trans HOA.out.hd
          have d0 : w1.cell? ⟨g, 1, none⟩ = some (.slice A q.cs.length ca) := by rw [Lib.cell_of_heap hx]; rfl
          have df := Lib.frozen_of_heap hx
          clear ho hg ho2 hx HOA HC1 y0 y1 y2 y3 y4 y5 yf MM
          go_wp2_with fail
          go_meet
          exact N.out.le (by omega)
        · go_upto_region 15 with fail
          refine wp_region_three mixed 9 [[],[0],[],[],[3],[2,3,4],[2,3,4,5],[2,3,4,5,6],[2,3,4,5,6,7],[0,1,2,3,4,5,6,7,8],[0,1,2,3,4,5,6,7,8,9],[0,1,2,3,4,5,6,7,8,9,10]] (fun v => { tmps := #[.pointer (some ⟨b, 0, none⟩), undef, .pointer (some ⟨w.heap.size, 0, none⟩), .pointer (some ⟨g, 0, none⟩), u4, .pointer (some ⟨b, 0, none⟩), .bool c0, .agg #[.bool c0, .slice none 0 0, .string { data := #[] }, .string { data := #[] }, .bool false, .int .i64 (-1)], .pointer (some ⟨b, 0, none⟩), .int .i64 k0, u10, u11, u12, u13, u14, u15, u16, u17, u18, u19, u20, u21, u22, u23, u24, u25, .bool c6, u27, u28, u29, u30, u31, u32, u33, u34, u35, u36, .bool c8, u38, u39, u40, u41, u42, u43, u44, u45, u46, u47, u48, u49, u50, .bool c11, u52, u53, u54, .pointer (some ⟨b, 0, none⟩), .bool true, .pointer (some ⟨b, 0, none⟩), .int .i64 5, v 0, v 1, v 2, v 3, v 4, v 5, v 6, v 7, v 8, undef, undef, .bool false, .bool false, undef, undef, undef, undef, undef, undef, .bool false, .bool false, undef, .bool false, .bool false, undef, undef, undef, undef, .bool false, .bool false, undef, undef, undef, undef, undef, undef, undef, undef, undef, undef, undef, undef, undef, undef, .bool false, .bool false, undef, undef, undef, undef, undef, undef, undef], defers := [] }) (fun i9 => match i9 with | _ => undef) (fun i9 x X => match i9 with
            | 0 => x = .pointer (some ⟨g, 1, none⟩)
            | 1 => x = .slice A q.cs.length ca
            | 2 => ∃ g8 : Nat, x = .slice (some ⟨g8, 0, none⟩) 3 3 ∧ w.heap.size < g8 ∧ X.heap[g8]? = some (.cells #[.int .i64 (-1), .int .i64 1000000, .int .i64 1000001] 2 (0, 0))
            | 3 => x = .pointer (some ⟨b, 0, none⟩)
            | 4 => ∃ r : Nat, x = .int .i64 (r : Int) ∧ r < 3
            | 5 => ∃ (g8 r : Nat), x = .pointer (some ⟨g8, r, none⟩) ∧ r < 3 ∧ w.heap.size < g8 ∧ X.heap[g8]? = some (.cells #[.int .i64 (-1), .int .i64 1000000, .int .i64 1000001] 2 (0, 0))
            | 6 => ∃ y : Int, x = .int .i64 y ∧ -2000000 ≤ y ∧ y ≤ 2000000
            | 7 => ∃ y : Int, x = .agg #[.string ⟨#[114, 117, 110]⟩, .string ⟨#[61]⟩, .string ⟨#[]⟩, .int .i64 y] ∧ -2000000 ≤ y ∧ y ≤ 2000000
            | 8 => ∃ (g9 : Nat) (d0 d1 d2 : ByteArray) (d3 : Int), x = .slice (some ⟨g9, 0, none⟩) 1 1 ∧ w.heap.size < g9 ∧ CdSm ⟨d0, d1, d2, d3⟩ ∧ X.heap[g9]? = some (.cells (cdL ⟨d0, d1, d2, d3⟩).toArray 67 (0, 0))
            | _ => True) (fun X => MdQ w X b g n V (.slice A q.cs.length ca) q) (fun X X' => X.grownBy X' (some b)) (by kernel_rfl) rfl (MM.out.below (Below.refl _ _).drew) ?mono ?step ?last
          case mono =>
            intro i9 x X X' hi9 hG hS h
            match i9, hi9 with
            | 0, _ | 1, _ | 3, _ => exact h
            | 2, _ => obtain ⟨g8, e8, hl8, hG8⟩ := h; exact ⟨g8, e8, hl8, (hS.block _ (lt_heap hG8) (by simp; omega)).trans hG8⟩
            | 4, _ => exact h
            | 5, _ => obtain ⟨g8, r, e8, h3, hl8, hG8⟩ := h; exact ⟨g8, r, e8, h3, hl8, (hS.block _ (lt_heap hG8) (by simp; omega)).trans hG8⟩
            | 6, _ => exact h
            | 7, _ => exact h
            | 8, _ => obtain ⟨g9, d0, d1, d2, d3, e9, hl9, hsm, hG9⟩ := h; exact ⟨g9, d0, d1, d2, d3, e9, hl9, hsm, (hS.block _ (lt_heap hG9) (by simp; omega)).trans hG9⟩
          case step =>
            intro i9 v X hi9 hG hd hu K hK
            have HU := hid hu
            clear hu
            obtain ⟨y0, y1, y2, y3, y4, y5, yf⟩ := hG.cells
            match i9, hi9 with
            | 0, _ =>
              refine op_go rfl rfl ?_
              go_simp
              exact hK.out _ v _ _ rfl rfl rfl hG (World.grownBy.refl _ _)
            | 1, _ =>
              have q0 : v 0 = .pointer (some ⟨g, 1, none⟩) := hd 0 (by decide)
              refine op_go rfl rfl ?_
              go_simp
              exact hK.out _ (upd v 0 _) _ _ (upd_on rfl q0) rfl rfl hG (World.grownBy.refl _ _)
            | 2, _ =>
              refine op_go rfl rfl ?_
              go_simp
              exact hK.out _ v _ _ rfl rfl ⟨X.heap.size, rfl, by have := lt_heap hG.hr; omega, heap_alloc_new X _⟩ (hG.below ((Below.refl _ X).alloc (Nat.le_refl _) _)) (grown_below ((Below.refl _ X).alloc (Nat.le_refl _) _))
            | 3, _ =>
              refine op_go rfl rfl ?_
              go_simp
              exact hK.out _ v _ _ rfl rfl rfl hG (World.grownBy.refl _ _)
            | 4, _ =>
              have q3 : v 3 = .pointer (some ⟨b, 0, none⟩) := hd 3 (by decide)
              refine op_go rfl rfl ?_
              go_simp
              refine (cN.out 3 _ hG.dr (by decide)).mono ?_
              rintro e X' ⟨r, rfl, ⟨l, u, _⟩, hd', hg'⟩
              have u := u (by decide)
              obtain ⟨r, rfl⟩ := Int.eq_ofNat_of_zero_le l
              exact hK.out _ (upd v 3 _) _ _ (upd_on rfl q3) rfl ⟨r, rfl, by omega⟩ (hG.call hd' hg') hg'
            | 5, _ =>
              obtain ⟨g8, q2, hl8, hG8⟩ : ∃ g8 : Nat, v 2 = .slice (some ⟨g8, 0, none⟩) 3 3 ∧ w.heap.size < g8 ∧ X.heap[g8]? = some (.cells #[.int .i64 (-1), .int .i64 1000000, .int .i64 1000001] 2 (0, 0)) := hd 2 (by decide)
              obtain ⟨r, q4, h3⟩ : ∃ r : Nat, v 4 = .int .i64 (r : Int) ∧ r < 3 := hd 4 (by decide)
              have z3 : (r : Int) < 3 := by omega
              refine op_go rfl rfl ?_
              go_simp
              exact hK.out _ (upd (upd v 2 _) 4 _) _ _ (upd_on (upd_on rfl q2) q4) rfl ⟨g8, r, rfl, h3, hl8, hG8⟩ hG (World.grownBy.refl _ _)
            | 6, _ =>
              obtain ⟨g8, r, q5, h3, hl8, hG8⟩ : ∃ (g8 r : Nat), v 5 = .pointer (some ⟨g8, r, none⟩) ∧ r < 3 ∧ w.heap.size < g8 ∧ X.heap[g8]? = some (.cells #[.int .i64 (-1), .int .i64 1000000, .int .i64 1000001] 2 (0, 0)) := hd 5 (by decide)
              obtain ⟨y, hc, h0, h1⟩ : ∃ y : Int, X.cell? ⟨g8, r, none⟩ = some (.int .i64 y) ∧ -2000000 ≤ y ∧ y ≤ 2000000 := by
                rw [Lib.cell_of_heap hG8]
                match r, h3 with
                | 0, _ => exact ⟨_, rfl, by decide, by decide⟩
                | 1, _ => exact ⟨_, rfl, by decide, by decide⟩
                | 2, _ => exact ⟨_, rfl, by decide, by decide⟩
              refine op_go rfl rfl ?_
              go_simp
              exact hK.out _ (upd v 5 _) _ _ (upd_on rfl q5) rfl ⟨y, rfl, h0, h1⟩ hG (World.grownBy.refl _ _)
            | 7, _ =>
              obtain ⟨y, q6, h0, h1⟩ : ∃ y : Int, v 6 = .int .i64 y ∧ -2000000 ≤ y ∧ y ≤ 2000000 := hd 6 (by decide)
              refine op_go rfl rfl ?_
              go_simp
              exact hK.out _ (upd v 6 _) _ _ (upd_on rfl q6) rfl ⟨y, rfl, h0, h1⟩ hG (World.grownBy.refl _ _)
            | 8, _ =>
              obtain ⟨y, q7, h0, h1⟩ : ∃ y : Int, v 7 = .agg #[.string ⟨#[114, 117, 110]⟩, .string ⟨#[61]⟩, .string ⟨#[]⟩, .int .i64 y] ∧ -2000000 ≤ y ∧ y ≤ 2000000 := hd 7 (by decide)
              refine op_go rfl rfl ?_
              go_simp
              exact hK.out _ (upd v 7 _) _ _ (upd_on rfl q7) rfl ⟨X.heap.size, _, _, _, y, rfl, by have := hG.gr.size; have := lt_heap hG.hr; omega, sm_run y h0 h1, heap_alloc_new X _⟩ (hG.below ((Below.refl _ X).alloc (Nat.le_refl _) _)) (grown_below ((Below.refl _ X).alloc (Nat.le_refl _) _))
          case last =>
            intro v X hG hd
            obtain ⟨y0, y1, y2, y3, y4, y5, yf⟩ := hG.cells
            have q1 : v 1 = .slice A q.cs.length ca := hd 1 (by decide)
            obtain ⟨g9, d0, d1, d2, d3, q8, hl9, hsm, hG9⟩ : ∃ (g9 : Nat) (d0 d1 d2 : ByteArray) (d3 : Int), v 8 = .slice (some ⟨g9, 0, none⟩) 1 1 ∧ w.heap.size < g9 ∧ CdSm ⟨d0, d1, d2, d3⟩ ∧ X.heap[g9]? = some (.cells (cdL ⟨d0, d1, d2, d3⟩).toArray 67 (0, 0)) := hd 8 (by decide)
            refine op_go rfl rfl ?_
            have OX := hG.o1
            have hsX : w.heap.size + 1 ≤ X.heap.size := by have := lt_heap hG.hr; omega
            have hs1 := hid hSm.out.1
            refine wp_append_own X (.tmp 60) (.tmp 67) 23 rfl (w.heap.size + 1) 67 i0 _ 4 56 Tryz.underlying23 hi hz0 hz1 hz2 rfl (by decide) _ q.cs.length _ (by exact q1) OX ⟨g9, 0, none⟩ 1 1 (cdL ⟨d0, d1, d2, d3⟩) (by exact q8) rfl (cd_newL hG9) (by intro u hu; simp at hu; rcases hu with rfl | rfl | rfl | rfl <;> rfl) (by unfold maxLen; omega) (by omega) hsX ?_
            intro v' w1 ho hg _
            obtain ⟨a2, c2, rfl⟩ := ownB_form ho
            have ho2 : w1.ownsRow (w.heap.size + 1) 67 4 (.slice a2 (q.cs ++ [(⟨d0, d1, d2, d3⟩ : Cd)]).length c2) (q.cs ++ [(⟨d0, d1, d2, d3⟩ : Cd)]).length ((q.cs ++ [(⟨d0, d1, d2, d3⟩ : Cd)]).flatMap Cd.cells) := by rw [show (q.cs ++ [(⟨d0, d1, d2, d3⟩ : Cd)]).length = q.cs.length + 1 by simp, cd_snoc]; exact ho
            have N : Hid (MQe w (w1.setCell ⟨g, 1, none⟩ (.slice a2 (q.cs.length + 1) c2)) b g n V (q.cs.length + 1)) := hid (by
              have h9 := (hG.row (grownChg hg) ho2).mqe (m := q.cs.length + 1) (by simp) (sm_snoc hSm.out _ hsm (by omega))
              rw [show (q.cs ++ [(⟨d0, d1, d2, d3⟩ : Cd)]).length = q.cs.length + 1 by simp] at h9
              exact h9)
            have hx := (hg.block g (lt_heap hG.hd) (fun e => own_ne hG.o1 hG.hd (by decide) g e.symm rfl)).trans hG.hd
            have d0 : w1.cell? ⟨g, 1, none⟩ = some (.slice A q.cs.length ca) := by rw [Lib.cell_of_heap hx]; rfl
            have df := Lib.frozen_of_heap hx
            clear ho hg OX ho2 hd hG9 hx y0 y1 y2 y3 y4 y5 yf
            refine op_go rfl rfl ?_
            go_simp
            refine op_go rfl rfl ?_
            go_simp
            clear d0 df
            generalize w1.setCell ⟨g, 1, none⟩ (.slice a2 (q.cs.length + 1) c2) = W9 at *
            clear hG MM
            go_wp2_with fail
            go_meet
            exact N.out.le (by omega)
    case rest =>
      have M : Hid (MQ w wc b g n V 10) := hid hcut
      clear hcut MM hSm hl
      obtain ⟨q, A, ca, hl, hs, hM⟩ := M.out
      have hSm := hid hs
      have MM := hid hM
      clear hM hs M
      obtain ⟨y0, y1, y2, y3, y4, y5, yf⟩ := MM.out.cells
      obtain ⟨r0, r1, r2, r3, r4, r5, rf⟩ := MM.out.rcells
      go_wp2_with fail
      obtain ⟨hx, hT⟩ := MM.out.fin hSm.out
      have z : ∀ i, (qyFin wc w.heap.size q (.slice A q.cs.length ca)).cell? ⟨w.heap.size, i, none⟩ = (qyL q (.slice A q.cs.length ca)).toArray[i]? := fun i => by rw [Lib.cell_of_heap hx]
      have z0 := z 0
      have z1 := z 1
      have z2 := z 2
      have z3 := z 3
      have z4 := z 4
      have z5 := z 5
      simp only [qyFin] at z0 z1 z2 z3 z4 z5
      refine bodyPost_ret (v := qyV q A ca) (by simp [results, Tryz.results32, go_sem, qyV, z0, z1, z2, z3, z4, z5]) rfl ?_
      exact ⟨q, A, ca, rfl, hT⟩
end Go.Proofs.YtimlnbfalnkmhaaGreatDoor
