/-
  Draws: what spec.DrawStateStep answers: a Def, a State, an Event, small: a contract over the seat's program.
-/
import Derived.Test.YtdggmeblnbabbaaGreatDoorZEvS3
import Derived.Test.YtdggmeblnbabbaaGreatDoorZStNx3
import Derived.Test.YtdggmeblnbabbaaGreatDoorZDrSt
import Derived.Test.YtdggmeblnbabbaaGreatDoorZDrEv
namespace Go.Proofs.YtdggmeblnbabbaaGreatDoor
open Go.RowKit Go.Sort
set_option linter.unusedVariables false

set_option maxHeartbeats 4000000 in
set_option maxRecDepth 100000 in
theorem drawStateStep_any (V : Value) (n : Nat) (w : World) (h : Bs w V n) :
    Calls Tryz.prog 4 #[V] w fun e w' => ∃ u1 u2 u3 u4 u5 ss fs S E, e = .returned (.tuple #[.agg #[u1, u2], .agg #[.int .i64 S.status, .int .i64 S.begun, .int .i64 S.last, u3, u4, u5, .int .i64 S.faults], .agg E.cells.toArray]) ∧ ShE E ∧ SsDr w w' u1 u2 u3 u4 u5 ss fs S := by
  have mixed : Tryz.prog.follows .mixedOrders = true := by kernel_rfl
  have hb0 : Below w.heap.size w (((w.alloc (.cells [.slice none 0 0, .slice none 0 0].toArray 26)).alloc (.cells [.int .i64 0, .int .i64 0, .int .i64 0, .slice none 0 0, .slice none 0 0, .slice none 0 0, .int .i64 0].toArray 29)).alloc (.cells [.int .i64 0, .int .i64 0, .int .i64 0, .int .i64 0, .string ⟨#[]⟩, .string ⟨#[]⟩].toArray 31)) := ((((Below.refl _ _).alloc (Nat.le_refl _) _)).alloc (by simp) _).alloc (by simp; omega) _
  have cS := hid (source_any V n _ (h.stay9 hb0))
  have HF := hid h.fars
  have HB0 := hid hb0
  have hs0 : (((w.alloc (.cells [.slice none 0 0, .slice none 0 0].toArray 26)).alloc (.cells [.int .i64 0, .int .i64 0, .int .i64 0, .slice none 0 0, .slice none 0 0, .slice none 0 0, .int .i64 0].toArray 29)).alloc (.cells [.int .i64 0, .int .i64 0, .int .i64 0, .int .i64 0, .string ⟨#[]⟩, .string ⟨#[]⟩].toArray 31)).heap.size = w.heap.size + 3 := by simp
  have r1 : (((w.alloc (.cells [.slice none 0 0, .slice none 0 0].toArray 26)).alloc (.cells [.int .i64 0, .int .i64 0, .int .i64 0, .slice none 0 0, .slice none 0 0, .slice none 0 0, .int .i64 0].toArray 29)).alloc (.cells [.int .i64 0, .int .i64 0, .int .i64 0, .int .i64 0, .string ⟨#[]⟩, .string ⟨#[]⟩].toArray 31)).heap[w.heap.size]? = some (.cells [.slice none 0 0, .slice none 0 0].toArray 26 (0, 0)) := (Below.heap_alloc _ _ _ (by simp; omega)).trans ((Below.heap_alloc _ _ _ (by simp)).trans (heap_alloc_new w _))
  have r2 : (((w.alloc (.cells [.slice none 0 0, .slice none 0 0].toArray 26)).alloc (.cells [.int .i64 0, .int .i64 0, .int .i64 0, .slice none 0 0, .slice none 0 0, .slice none 0 0, .int .i64 0].toArray 29)).alloc (.cells [.int .i64 0, .int .i64 0, .int .i64 0, .int .i64 0, .string ⟨#[]⟩, .string ⟨#[]⟩].toArray 31)).heap[w.heap.size + 1]? = some (.cells [.int .i64 0, .int .i64 0, .int .i64 0, .slice none 0 0, .slice none 0 0, .slice none 0 0, .int .i64 0].toArray 29 (0, 0)) := (Below.heap_alloc _ _ _ (by simp)).trans (by have q := heap_alloc_new (w.alloc (.cells [.slice none 0 0, .slice none 0 0].toArray 26)) (.cells [.int .i64 0, .int .i64 0, .int .i64 0, .slice none 0 0, .slice none 0 0, .slice none 0 0, .int .i64 0].toArray 29); rw [show (w.alloc (.cells [.slice none 0 0, .slice none 0 0].toArray 26)).heap.size = w.heap.size + 1 by simp] at q; exact q)
  have r3 : (((w.alloc (.cells [.slice none 0 0, .slice none 0 0].toArray 26)).alloc (.cells [.int .i64 0, .int .i64 0, .int .i64 0, .slice none 0 0, .slice none 0 0, .slice none 0 0, .int .i64 0].toArray 29)).alloc (.cells [.int .i64 0, .int .i64 0, .int .i64 0, .int .i64 0, .string ⟨#[]⟩, .string ⟨#[]⟩].toArray 31)).heap[w.heap.size + 2]? = some (.cells [.int .i64 0, .int .i64 0, .int .i64 0, .int .i64 0, .string ⟨#[]⟩, .string ⟨#[]⟩].toArray 31 (0, 0)) := by have q := heap_alloc_new ((w.alloc (.cells [.slice none 0 0, .slice none 0 0].toArray 26)).alloc (.cells [.int .i64 0, .int .i64 0, .int .i64 0, .slice none 0 0, .slice none 0 0, .slice none 0 0, .int .i64 0].toArray 29)) (.cells [.int .i64 0, .int .i64 0, .int .i64 0, .int .i64 0, .string ⟨#[]⟩, .string ⟨#[]⟩].toArray 31); rw [show ((w.alloc (.cells [.slice none 0 0, .slice none 0 0].toArray 26)).alloc (.cells [.int .i64 0, .int .i64 0, .int .i64 0, .slice none 0 0, .slice none 0 0, .slice none 0 0, .int .i64 0].toArray 29)).heap.size = w.heap.size + 2 by simp] at q; exact q
  have HR := hid (And.intro r1 (And.intro r2 r3))
  have HS0 := hid hs0
  clear h hb0 hs0 r1 r2 r3
  go_enter Tryz.func4, Tryz.ntmps4
  go_wp2_with fail
  refine cS.out.mono ?_
  rintro e W1 ⟨b, rfl, hbb, hD, hB1⟩
  have cO := hid (fun most w h h2 => one_any b n V most w h h2)
  have cE := hid (fun w h => drawEvent_any b n V w h)
  have HD := hid hD
  have HB1 := hid hB1
  clear hD hB1 cS
  go_wp2_with fail
  refine (drawState_any b n V _ HD.out).mono ?_
  rintro e W2 ⟨u1, u2, u3, u4, u5, ss, fs, S, rfl, hT⟩
  obtain ⟨a1, k1, rfl⟩ := ownB_form hT.o1
  obtain ⟨a2, k2, rfl⟩ := ownB_form hT.o2
  obtain ⟨a3, a4, a5, k3, k4, k5, rfl, rfl, rfl⟩ := hT.os.forms
  have M := hid (GxS.start HB0.out HS0.out HR.out hbb HB1.out hT HF.out HD.out.src.lt)
  clear HB0 HR HB1 HD hT
  rw [HS0.out] at hbb
  go_upto_region 3 with fail
  have M2 : Hid (GxS w ((W2.alloc (.cells [.slice a1 ss.length k1, .slice a2 fs.length k2].toArray 26)).alloc (.cells [.int .i64 S.status, .int .i64 S.begun, .int .i64 S.last, .slice a3 S.wait.length k3, .slice a4 S.busy.length k4, .slice a5 S.vars.length k5, .int .i64 S.faults].toArray 29)) b W2.heap.size (W2.heap.size + 1) W1.heap.size n V (.slice a1 ss.length k1) (.slice a2 fs.length k2) (.slice a3 S.wait.length k3) (.slice a4 S.busy.length k4) (.slice a5 S.vars.length k5) ss fs S) := M
  clear M
  have M := M2
  clear M2
  generalize ((W2.alloc (.cells [.slice a1 ss.length k1, .slice a2 fs.length k2].toArray 26)).alloc (.cells [.int .i64 S.status, .int .i64 S.begun, .int .i64 S.last, .slice a3 S.wait.length k3, .slice a4 S.busy.length k4, .slice a5 S.vars.length k5, .int .i64 S.faults].toArray 29)) = W3 at *
  generalize W2.heap.size = gd at *
  generalize W1.heap.size = lo at *
  go_wp2_with fail
  refine (cO.out 3 _ M.out.dr (by decide)).mono ?_
  rintro e W4 ⟨c, rfl, hd4, hg4⟩
  have M4 := hid (M.out.call hd4 hg4)
  clear hd4 hg4 M
  cases c with
  | true =>
    go_upto_region 4 with fail
    refine wp_region_ok mixed 7 [[],[],[],[2],[0],[1],[2,3]] (fun v => { tmps := #[V, undef, .pointer (some ⟨w.heap.size, 0, none⟩), .pointer (some ⟨w.heap.size + 1, 0, none⟩), .pointer (some ⟨w.heap.size + 1 + 1, 0, none⟩), .pointer (some ⟨b, 0, none⟩), .pointer (some ⟨gd, 0, none⟩), .pointer (some ⟨gd + 1, 0, none⟩), V, .pointer (some ⟨b, 0, none⟩), .tuple #[.agg #[.slice a1 ss.length k1, .slice a2 fs.length k2], .agg #[.int .i64 S.status, .int .i64 S.begun, .int .i64 S.last, .slice a3 S.wait.length k3, .slice a4 S.busy.length k4, .slice a5 S.vars.length k5, .int .i64 S.faults]], .pointer (some ⟨b, 0, none⟩), .tuple #[.agg #[.slice a1 ss.length k1, .slice a2 fs.length k2], .agg #[.int .i64 S.status, .int .i64 S.begun, .int .i64 S.last, .slice a3 S.wait.length k3, .slice a4 S.busy.length k4, .slice a5 S.vars.length k5, .int .i64 S.faults]], .agg #[.slice a1 ss.length k1, .slice a2 fs.length k2], .agg #[.int .i64 S.status, .int .i64 S.begun, .int .i64 S.last, .slice a3 S.wait.length k3, .slice a4 S.busy.length k4, .slice a5 S.vars.length k5, .int .i64 S.faults], .pointer (some ⟨b, 0, none⟩), .bool true, v 0, v 1, v 2, v 3, undef, undef, undef, undef, undef], defers := [] }) (fun i9 => match i9 with | _ => undef) (fun i9 x X => match i9 with
      | 0 => x = .agg #[.slice a1 ss.length k1, .slice a2 fs.length k2]
      | 1 => x = .agg #[.int .i64 S.status, .int .i64 S.begun, .int .i64 S.last, .slice a3 S.wait.length k3, .slice a4 S.busy.length k4, .slice a5 S.vars.length k5, .int .i64 S.faults]
      | 2 => x = .pointer (some ⟨b, 0, none⟩)
      | 3 => ∃ (j0 j1 j2 j3 : Int) (j4 j5 : ByteArray), x = .agg #[.int .i64 j0, .int .i64 j1, .int .i64 j2, .int .i64 j3, .string j4, .string j5] ∧ ShE ⟨j0, j1, j2, j3, j4, j5⟩
      | 4 => X.heap[w.heap.size]? = some (.cells [.slice a1 ss.length k1, .slice a2 fs.length k2].toArray 26 (0, 0))
      | 5 => X.heap[w.heap.size + 1]? = some (.cells [.int .i64 S.status, .int .i64 S.begun, .int .i64 S.last, .slice a3 S.wait.length k3, .slice a4 S.busy.length k4, .slice a5 S.vars.length k5, .int .i64 S.faults].toArray 29 (0, 0))
      | 6 => True
      | _ => True) (fun X => GxS w X b gd (gd + 1) lo n V (.slice a1 ss.length k1) (.slice a2 fs.length k2) (.slice a3 S.wait.length k3) (.slice a4 S.busy.length k4) (.slice a5 S.vars.length k5) ss fs S) (fun X X' => Lays w.heap.size (.cells [.slice a1 ss.length k1, .slice a2 fs.length k2].toArray 26 (0, 0)) (.cells [.int .i64 S.status, .int .i64 S.begun, .int .i64 S.last, .slice a3 S.wait.length k3, .slice a4 S.busy.length k4, .slice a5 S.vars.length k5, .int .i64 S.faults].toArray 29 (0, 0)) X X') (by kernel_rfl) rfl (M4.out.drew) ?mono17 ?step17 ?fin17
    case mono17 =>
      intro i9 x X X' hi9 hG hS h
      match i9, hi9 with
      | 0, _ | 1, _ | 2, _ => exact h
      | 3, _ => exact h
      | 4, _ => exact hS.on1 h
      | 5, _ => exact hS.on2 h
      | 6, _ => trivial
    case step17 =>
      intro i9 v X hi9 hG hd hu K hK
      have HU := hid hu
      clear hu
      obtain ⟨⟨d0, d1⟩, y0, y1, y2, y3, y4, y5, y6⟩ := hG.cells
      match i9, hi9 with
      | 0, _ =>
        refine op_go rfl rfl ?_
        go_simp
        exact hK.out _ v _ _ rfl rfl rfl hG (Lays.refl _ _ _ _)
      | 1, _ =>
        refine op_go rfl rfl ?_
        go_simp
        exact hK.out _ v _ _ rfl rfl rfl hG (Lays.refl _ _ _ _)
      | 2, _ =>
        refine op_go rfl rfl ?_
        go_simp
        exact hK.out _ v _ _ rfl rfl rfl hG (Lays.refl _ _ _ _)
      | 3, _ =>
        have q2 : v 2 = .pointer (some ⟨b, 0, none⟩) := hd 2 (by decide)
        refine op_go rfl rfl ?_
        go_simp
        refine (cE.out _ hG.dr).mono ?_
        rintro e X' ⟨⟨j0, j1, j2, j3, j4, j5⟩, rfl, z1, z2, hd', hg'⟩
        exact hK.out _ (upd v 2 _) _ _ (upd_on rfl q2) rfl ⟨j0, j1, j2, j3, j4, j5, rfl, z1, z2⟩ (hG.call hd' hg') (Lays.of (hg'.block _ (lt_heap (hG.r1.choose_spec.choose_spec)) (by simp; have := hG.l1; omega)) (by obtain ⟨_, _, _, _, _, _, _, hx9⟩ := hG.r2; exact hg'.block _ (lt_heap hx9) (by simp; have := hG.l1; omega)))
      | 4, _ =>
        have q0 : v 0 = .agg #[.slice a1 ss.length k1, .slice a2 fs.length k2] := hd 0 (by decide)
        obtain ⟨x0, x1, hx1⟩ := hG.r1
        have e0 : X.cell? ⟨w.heap.size, 0, none⟩ = some x0 := by rw [Lib.cell_of_heap hx1]; rfl
        have e1 : X.cell? ⟨w.heap.size, 1, none⟩ = some x1 := by rw [Lib.cell_of_heap hx1]; rfl
        have ef : ∀ j, X.frozen? ⟨w.heap.size, j, none⟩ = false := fun j => Lib.frozen_of_heap hx1 j
        refine op_go rfl rfl ?_
        go_simp
        have hn := blk_set (i := 1) (blk_set (i := 0) (hx1) (.slice a1 ss.length k1)) (.slice a2 fs.length k2)
        have hc : Chg (fun j => j = w.heap.size) X ((X.setCell ⟨w.heap.size, 0, none⟩ (.slice a1 ss.length k1)).setCell ⟨w.heap.size, 1, none⟩ (.slice a2 fs.length k2)) := ((Chg.refl _ _).seq _ _).seq _ _
        have hG2 := hG.lay hc ⟨by omega, by omega⟩ (fun _ => ⟨_, _, hn⟩) (fun e => by omega) (fun e => by omega)
        obtain ⟨_, _, _, _, _, _, _, hx9⟩ := hG.r2
        exact hK.out undef (upd v 0 _) _ _ (upd_on rfl q0) rfl hn hG2 ⟨.inr hn, .inl (hc.block _ (lt_heap hx9) (by omega))⟩
      | 5, _ =>
        have q1 : v 1 = .agg #[.int .i64 S.status, .int .i64 S.begun, .int .i64 S.last, .slice a3 S.wait.length k3, .slice a4 S.busy.length k4, .slice a5 S.vars.length k5, .int .i64 S.faults] := hd 1 (by decide)
        obtain ⟨x0, x1, x2, x3, x4, x5, x6, hx1⟩ := hG.r2
        have e0 : X.cell? ⟨w.heap.size + 1, 0, none⟩ = some x0 := by rw [Lib.cell_of_heap hx1]; rfl
        have e1 : X.cell? ⟨w.heap.size + 1, 1, none⟩ = some x1 := by rw [Lib.cell_of_heap hx1]; rfl
        have e2 : X.cell? ⟨w.heap.size + 1, 2, none⟩ = some x2 := by rw [Lib.cell_of_heap hx1]; rfl
        have e3 : X.cell? ⟨w.heap.size + 1, 3, none⟩ = some x3 := by rw [Lib.cell_of_heap hx1]; rfl
        have e4 : X.cell? ⟨w.heap.size + 1, 4, none⟩ = some x4 := by rw [Lib.cell_of_heap hx1]; rfl
        have e5 : X.cell? ⟨w.heap.size + 1, 5, none⟩ = some x5 := by rw [Lib.cell_of_heap hx1]; rfl
        have e6 : X.cell? ⟨w.heap.size + 1, 6, none⟩ = some x6 := by rw [Lib.cell_of_heap hx1]; rfl
        have ef : ∀ j, X.frozen? ⟨w.heap.size + 1, j, none⟩ = false := fun j => Lib.frozen_of_heap hx1 j
        refine op_go rfl rfl ?_
        go_simp
        have hn := blk_set (i := 6) (blk_set (i := 5) (blk_set (i := 4) (blk_set (i := 3) (blk_set (i := 2) (blk_set (i := 1) (blk_set (i := 0) (hx1) (.int .i64 S.status)) (.int .i64 S.begun)) (.int .i64 S.last)) (.slice a3 S.wait.length k3)) (.slice a4 S.busy.length k4)) (.slice a5 S.vars.length k5)) (.int .i64 S.faults)
        have hc : Chg (fun j => j = w.heap.size + 1) X (((((((X.setCell ⟨w.heap.size + 1, 0, none⟩ (.int .i64 S.status)).setCell ⟨w.heap.size + 1, 1, none⟩ (.int .i64 S.begun)).setCell ⟨w.heap.size + 1, 2, none⟩ (.int .i64 S.last)).setCell ⟨w.heap.size + 1, 3, none⟩ (.slice a3 S.wait.length k3)).setCell ⟨w.heap.size + 1, 4, none⟩ (.slice a4 S.busy.length k4)).setCell ⟨w.heap.size + 1, 5, none⟩ (.slice a5 S.vars.length k5)).setCell ⟨w.heap.size + 1, 6, none⟩ (.int .i64 S.faults)) := (((((((Chg.refl _ _).seq _ _).seq _ _).seq _ _).seq _ _).seq _ _).seq _ _).seq _ _
        have hG2 := hG.lay hc ⟨by omega, by omega⟩ (fun e => by omega) (fun _ => ⟨_, _, _, _, _, _, _, hn⟩) (fun e => by omega)
        obtain ⟨_, _, hx9⟩ := hG.r1
        exact hK.out undef (upd v 1 _) _ _ (upd_on rfl q1) rfl hn hG2 ⟨.inl (hc.block _ (lt_heap hx9) (by omega)), .inr hn⟩
      | 6, _ =>
        obtain ⟨j0, j1, j2, j3, j4, j5, qv, z9⟩ : ∃ (j0 j1 j2 j3 : Int) (j4 j5 : ByteArray), v 3 = .agg #[.int .i64 j0, .int .i64 j1, .int .i64 j2, .int .i64 j3, .string j4, .string j5] ∧ ShE ⟨j0, j1, j2, j3, j4, j5⟩ := hd 3 (by decide)
        obtain ⟨⟨x0, x1, x2, x3, x4, x5⟩, _, hx1⟩ := hG.r3
        have hx1 : X.heap[w.heap.size + 1 + 1]? = some (.cells [.int .i64 x0, .int .i64 x1, .int .i64 x2, .int .i64 x3, .string x4, .string x5].toArray 31 (0, 0)) := hx1
        have e0 : X.cell? ⟨w.heap.size + 1 + 1, 0, none⟩ = some (.int .i64 x0) := by rw [Lib.cell_of_heap hx1]; rfl
        have e1 : X.cell? ⟨w.heap.size + 1 + 1, 1, none⟩ = some (.int .i64 x1) := by rw [Lib.cell_of_heap hx1]; rfl
        have e2 : X.cell? ⟨w.heap.size + 1 + 1, 2, none⟩ = some (.int .i64 x2) := by rw [Lib.cell_of_heap hx1]; rfl
        have e3 : X.cell? ⟨w.heap.size + 1 + 1, 3, none⟩ = some (.int .i64 x3) := by rw [Lib.cell_of_heap hx1]; rfl
        have e4 : X.cell? ⟨w.heap.size + 1 + 1, 4, none⟩ = some (.string x4) := by rw [Lib.cell_of_heap hx1]; rfl
        have e5 : X.cell? ⟨w.heap.size + 1 + 1, 5, none⟩ = some (.string x5) := by rw [Lib.cell_of_heap hx1]; rfl
        have ef : ∀ j, X.frozen? ⟨w.heap.size + 1 + 1, j, none⟩ = false := fun j => Lib.frozen_of_heap hx1 j
        refine op_go rfl rfl ?_
        go_simp
        have hn := blk_set (i := 5) (blk_set (i := 4) (blk_set (i := 3) (blk_set (i := 2) (blk_set (i := 1) (blk_set (i := 0) (hx1) (.int .i64 j0)) (.int .i64 j1)) (.int .i64 j2)) (.int .i64 j3)) (.string j4)) (.string j5)
        have hc : Chg (fun j => j = w.heap.size + 1 + 1) X ((((((X.setCell ⟨w.heap.size + 1 + 1, 0, none⟩ (.int .i64 j0)).setCell ⟨w.heap.size + 1 + 1, 1, none⟩ (.int .i64 j1)).setCell ⟨w.heap.size + 1 + 1, 2, none⟩ (.int .i64 j2)).setCell ⟨w.heap.size + 1 + 1, 3, none⟩ (.int .i64 j3)).setCell ⟨w.heap.size + 1 + 1, 4, none⟩ (.string j4)).setCell ⟨w.heap.size + 1 + 1, 5, none⟩ (.string j5)) := ((((((Chg.refl _ _).seq _ _).seq _ _).seq _ _).seq _ _).seq _ _).seq _ _
        have hG2 := hG.lay hc ⟨by omega, by omega⟩ (fun e => by omega) (fun e => by omega) (fun _ => ⟨⟨j0, j1, j2, j3, j4, j5⟩, z9, hn⟩)
        obtain ⟨_, _, hx8⟩ := hG.r1
        obtain ⟨_, _, _, _, _, _, _, hx9⟩ := hG.r2
        exact hK.out undef (upd v 3 _) _ _ (upd_on rfl qv) rfl trivial hG2 (Lays.of (hc.block _ (lt_heap hx8) (by omega)) (hc.block _ (lt_heap hx9) (by omega)))
    case fin17 =>
      intro v X hG hd
      have hx1 : X.heap[w.heap.size]? = some (.cells [.slice a1 ss.length k1, .slice a2 fs.length k2].toArray 26 (0, 0)) := hd 4 (by decide)
      have hx2 : X.heap[w.heap.size + 1]? = some (.cells [.int .i64 S.status, .int .i64 S.begun, .int .i64 S.last, .slice a3 S.wait.length k3, .slice a4 S.busy.length k4, .slice a5 S.vars.length k5, .int .i64 S.faults].toArray 29 (0, 0)) := hd 5 (by decide)
      obtain ⟨⟨j0, j1, j2, j3, j4, j5⟩, z9, hx3⟩ := hG.r3
      have hx3 : X.heap[w.heap.size + 1 + 1]? = some (.cells [.int .i64 j0, .int .i64 j1, .int .i64 j2, .int .i64 j3, .string j4, .string j5].toArray 31 (0, 0)) := hx3
      have f0 : X.cell? ⟨w.heap.size, 0, none⟩ = some (.slice a1 ss.length k1) := by rw [Lib.cell_of_heap hx1]; rfl
      have f1 : X.cell? ⟨w.heap.size, 1, none⟩ = some (.slice a2 fs.length k2) := by rw [Lib.cell_of_heap hx1]; rfl
      have g0 : X.cell? ⟨w.heap.size + 1, 0, none⟩ = some (.int .i64 S.status) := by rw [Lib.cell_of_heap hx2]; rfl
      have g1 : X.cell? ⟨w.heap.size + 1, 1, none⟩ = some (.int .i64 S.begun) := by rw [Lib.cell_of_heap hx2]; rfl
      have g2 : X.cell? ⟨w.heap.size + 1, 2, none⟩ = some (.int .i64 S.last) := by rw [Lib.cell_of_heap hx2]; rfl
      have g3 : X.cell? ⟨w.heap.size + 1, 3, none⟩ = some (.slice a3 S.wait.length k3) := by rw [Lib.cell_of_heap hx2]; rfl
      have g4 : X.cell? ⟨w.heap.size + 1, 4, none⟩ = some (.slice a4 S.busy.length k4) := by rw [Lib.cell_of_heap hx2]; rfl
      have g5 : X.cell? ⟨w.heap.size + 1, 5, none⟩ = some (.slice a5 S.vars.length k5) := by rw [Lib.cell_of_heap hx2]; rfl
      have g6 : X.cell? ⟨w.heap.size + 1, 6, none⟩ = some (.int .i64 S.faults) := by rw [Lib.cell_of_heap hx2]; rfl
      have t0 : X.cell? ⟨w.heap.size + 1 + 1, 0, none⟩ = some (.int .i64 j0) := by rw [Lib.cell_of_heap hx3]; rfl
      have t1 : X.cell? ⟨w.heap.size + 1 + 1, 1, none⟩ = some (.int .i64 j1) := by rw [Lib.cell_of_heap hx3]; rfl
      have t2 : X.cell? ⟨w.heap.size + 1 + 1, 2, none⟩ = some (.int .i64 j2) := by rw [Lib.cell_of_heap hx3]; rfl
      have t3 : X.cell? ⟨w.heap.size + 1 + 1, 3, none⟩ = some (.int .i64 j3) := by rw [Lib.cell_of_heap hx3]; rfl
      have t4 : X.cell? ⟨w.heap.size + 1 + 1, 4, none⟩ = some (.string j4) := by rw [Lib.cell_of_heap hx3]; rfl
      have t5 : X.cell? ⟨w.heap.size + 1 + 1, 5, none⟩ = some (.string j5) := by rw [Lib.cell_of_heap hx3]; rfl
      have SD := hid hG.fin
      clear hG hd hx1 hx2 hx3
      go_wp2
      exact bodyPost_ret (v := .tuple #[.agg #[.slice a1 ss.length k1, .slice a2 fs.length k2], .agg #[.int .i64 S.status, .int .i64 S.begun, .int .i64 S.last, .slice a3 S.wait.length k3, .slice a4 S.busy.length k4, .slice a5 S.vars.length k5, .int .i64 S.faults], .agg #[.int .i64 j0, .int .i64 j1, .int .i64 j2, .int .i64 j3, .string j4, .string j5]]) (by simp [results, Tryz.results4, go_sem, f0, f1, g0, g1, g2, g3, g4, g5, g6, t0, t1, t2, t3, t4, t5]) rfl ⟨_, _, _, _, _, _, _, S, ⟨j0, j1, j2, j3, j4, j5⟩, rfl, z9, SD.out⟩
  | false =>
    go_upto_region 5 with fail
    refine wp_region_ok mixed 8 [[],[],[],[],[2,3],[0],[1],[2,3,4]] (fun v => { tmps := #[V, undef, .pointer (some ⟨w.heap.size, 0, none⟩), .pointer (some ⟨w.heap.size + 1, 0, none⟩), .pointer (some ⟨w.heap.size + 1 + 1, 0, none⟩), .pointer (some ⟨b, 0, none⟩), .pointer (some ⟨gd, 0, none⟩), .pointer (some ⟨gd + 1, 0, none⟩), V, .pointer (some ⟨b, 0, none⟩), .tuple #[.agg #[.slice a1 ss.length k1, .slice a2 fs.length k2], .agg #[.int .i64 S.status, .int .i64 S.begun, .int .i64 S.last, .slice a3 S.wait.length k3, .slice a4 S.busy.length k4, .slice a5 S.vars.length k5, .int .i64 S.faults]], .pointer (some ⟨b, 0, none⟩), .tuple #[.agg #[.slice a1 ss.length k1, .slice a2 fs.length k2], .agg #[.int .i64 S.status, .int .i64 S.begun, .int .i64 S.last, .slice a3 S.wait.length k3, .slice a4 S.busy.length k4, .slice a5 S.vars.length k5, .int .i64 S.faults]], .agg #[.slice a1 ss.length k1, .slice a2 fs.length k2], .agg #[.int .i64 S.status, .int .i64 S.begun, .int .i64 S.last, .slice a3 S.wait.length k3, .slice a4 S.busy.length k4, .slice a5 S.vars.length k5, .int .i64 S.faults], .pointer (some ⟨b, 0, none⟩), .bool false, undef, undef, undef, undef, v 0, v 1, v 2, v 3, v 4], defers := [] }) (fun i9 => match i9 with | _ => undef) (fun i9 x X => match i9 with
      | 0 => x = .agg #[.slice a1 ss.length k1, .slice a2 fs.length k2]
      | 1 => x = .agg #[.int .i64 S.status, .int .i64 S.begun, .int .i64 S.last, .slice a3 S.wait.length k3, .slice a4 S.busy.length k4, .slice a5 S.vars.length k5, .int .i64 S.faults]
      | 2 => x = .pointer (some ⟨b, 0, none⟩)
      | 3 => x = .agg #[.int .i64 S.status, .int .i64 S.begun, .int .i64 S.last, .slice a3 S.wait.length k3, .slice a4 S.busy.length k4, .slice a5 S.vars.length k5, .int .i64 S.faults]
      | 4 => ∃ (j0 j1 j2 j3 : Int) (j4 j5 : ByteArray), x = .agg #[.int .i64 j0, .int .i64 j1, .int .i64 j2, .int .i64 j3, .string j4, .string j5] ∧ ShE ⟨j0, j1, j2, j3, j4, j5⟩
      | 5 => X.heap[w.heap.size]? = some (.cells [.slice a1 ss.length k1, .slice a2 fs.length k2].toArray 26 (0, 0))
      | 6 => X.heap[w.heap.size + 1]? = some (.cells [.int .i64 S.status, .int .i64 S.begun, .int .i64 S.last, .slice a3 S.wait.length k3, .slice a4 S.busy.length k4, .slice a5 S.vars.length k5, .int .i64 S.faults].toArray 29 (0, 0))
      | 7 => True
      | _ => True) (fun X => GxS w X b gd (gd + 1) lo n V (.slice a1 ss.length k1) (.slice a2 fs.length k2) (.slice a3 S.wait.length k3) (.slice a4 S.busy.length k4) (.slice a5 S.vars.length k5) ss fs S) (fun X X' => Lays w.heap.size (.cells [.slice a1 ss.length k1, .slice a2 fs.length k2].toArray 26 (0, 0)) (.cells [.int .i64 S.status, .int .i64 S.begun, .int .i64 S.last, .slice a3 S.wait.length k3, .slice a4 S.busy.length k4, .slice a5 S.vars.length k5, .int .i64 S.faults].toArray 29 (0, 0)) X X') (by kernel_rfl) rfl (M4.out.drew) ?mono21 ?step21 ?fin21
    case mono21 =>
      intro i9 x X X' hi9 hG hS h
      match i9, hi9 with
      | 0, _ | 1, _ | 2, _ | 3, _ => exact h
      | 4, _ => exact h
      | 5, _ => exact hS.on1 h
      | 6, _ => exact hS.on2 h
      | 7, _ => trivial
    case step21 =>
      intro i9 v X hi9 hG hd hu K hK
      have HU := hid hu
      clear hu
      obtain ⟨⟨d0, d1⟩, y0, y1, y2, y3, y4, y5, y6⟩ := hG.cells
      match i9, hi9 with
      | 0, _ =>
        refine op_go rfl rfl ?_
        go_simp
        exact hK.out _ v _ _ rfl rfl rfl hG (Lays.refl _ _ _ _)
      | 1, _ =>
        refine op_go rfl rfl ?_
        go_simp
        exact hK.out _ v _ _ rfl rfl rfl hG (Lays.refl _ _ _ _)
      | 2, _ =>
        refine op_go rfl rfl ?_
        go_simp
        exact hK.out _ v _ _ rfl rfl rfl hG (Lays.refl _ _ _ _)
      | 3, _ =>
        refine op_go rfl rfl ?_
        go_simp
        exact hK.out _ v _ _ rfl rfl rfl hG (Lays.refl _ _ _ _)
      | 4, _ =>
        have q2 : v 2 = .pointer (some ⟨b, 0, none⟩) := hd 2 (by decide)
        have q3 : v 3 = .agg #[.int .i64 S.status, .int .i64 S.begun, .int .i64 S.last, .slice a3 S.wait.length k3, .slice a4 S.busy.length k4, .slice a5 S.vars.length k5, .int .i64 S.faults] := hd 3 (by decide)
        refine op_go rfl rfl ?_
        go_simp
        refine (nextS_any hG.dr hG.os hG.sm hG.l2 1 1).mono ?_
        rintro e X' ⟨⟨j0, j1, j2, j3, j4, j5⟩, rfl, z1, z2, hd', hg'⟩
        exact hK.out _ (upd (upd v 2 _) 3 _) _ _ (upd_on (upd_on rfl q2) q3) rfl ⟨j0, j1, j2, j3, j4, j5, rfl, z1, z2⟩ (hG.call hd' hg') (Lays.of (hg'.block _ (lt_heap (hG.r1.choose_spec.choose_spec)) (by simp; have := hG.l1; omega)) (by obtain ⟨_, _, _, _, _, _, _, hx9⟩ := hG.r2; exact hg'.block _ (lt_heap hx9) (by simp; have := hG.l1; omega)))
      | 5, _ =>
        have q0 : v 0 = .agg #[.slice a1 ss.length k1, .slice a2 fs.length k2] := hd 0 (by decide)
        obtain ⟨x0, x1, hx1⟩ := hG.r1
        have e0 : X.cell? ⟨w.heap.size, 0, none⟩ = some x0 := by rw [Lib.cell_of_heap hx1]; rfl
        have e1 : X.cell? ⟨w.heap.size, 1, none⟩ = some x1 := by rw [Lib.cell_of_heap hx1]; rfl
        have ef : ∀ j, X.frozen? ⟨w.heap.size, j, none⟩ = false := fun j => Lib.frozen_of_heap hx1 j
        refine op_go rfl rfl ?_
        go_simp
        have hn := blk_set (i := 1) (blk_set (i := 0) (hx1) (.slice a1 ss.length k1)) (.slice a2 fs.length k2)
        have hc : Chg (fun j => j = w.heap.size) X ((X.setCell ⟨w.heap.size, 0, none⟩ (.slice a1 ss.length k1)).setCell ⟨w.heap.size, 1, none⟩ (.slice a2 fs.length k2)) := ((Chg.refl _ _).seq _ _).seq _ _
        have hG2 := hG.lay hc ⟨by omega, by omega⟩ (fun _ => ⟨_, _, hn⟩) (fun e => by omega) (fun e => by omega)
        obtain ⟨_, _, _, _, _, _, _, hx9⟩ := hG.r2
        exact hK.out undef (upd v 0 _) _ _ (upd_on rfl q0) rfl hn hG2 ⟨.inr hn, .inl (hc.block _ (lt_heap hx9) (by omega))⟩
      | 6, _ =>
        have q1 : v 1 = .agg #[.int .i64 S.status, .int .i64 S.begun, .int .i64 S.last, .slice a3 S.wait.length k3, .slice a4 S.busy.length k4, .slice a5 S.vars.length k5, .int .i64 S.faults] := hd 1 (by decide)
        obtain ⟨x0, x1, x2, x3, x4, x5, x6, hx1⟩ := hG.r2
        have e0 : X.cell? ⟨w.heap.size + 1, 0, none⟩ = some x0 := by rw [Lib.cell_of_heap hx1]; rfl
        have e1 : X.cell? ⟨w.heap.size + 1, 1, none⟩ = some x1 := by rw [Lib.cell_of_heap hx1]; rfl
        have e2 : X.cell? ⟨w.heap.size + 1, 2, none⟩ = some x2 := by rw [Lib.cell_of_heap hx1]; rfl
        have e3 : X.cell? ⟨w.heap.size + 1, 3, none⟩ = some x3 := by rw [Lib.cell_of_heap hx1]; rfl
        have e4 : X.cell? ⟨w.heap.size + 1, 4, none⟩ = some x4 := by rw [Lib.cell_of_heap hx1]; rfl
        have e5 : X.cell? ⟨w.heap.size + 1, 5, none⟩ = some x5 := by rw [Lib.cell_of_heap hx1]; rfl
        have e6 : X.cell? ⟨w.heap.size + 1, 6, none⟩ = some x6 := by rw [Lib.cell_of_heap hx1]; rfl
        have ef : ∀ j, X.frozen? ⟨w.heap.size + 1, j, none⟩ = false := fun j => Lib.frozen_of_heap hx1 j
        refine op_go rfl rfl ?_
        go_simp
        have hn := blk_set (i := 6) (blk_set (i := 5) (blk_set (i := 4) (blk_set (i := 3) (blk_set (i := 2) (blk_set (i := 1) (blk_set (i := 0) (hx1) (.int .i64 S.status)) (.int .i64 S.begun)) (.int .i64 S.last)) (.slice a3 S.wait.length k3)) (.slice a4 S.busy.length k4)) (.slice a5 S.vars.length k5)) (.int .i64 S.faults)
        have hc : Chg (fun j => j = w.heap.size + 1) X (((((((X.setCell ⟨w.heap.size + 1, 0, none⟩ (.int .i64 S.status)).setCell ⟨w.heap.size + 1, 1, none⟩ (.int .i64 S.begun)).setCell ⟨w.heap.size + 1, 2, none⟩ (.int .i64 S.last)).setCell ⟨w.heap.size + 1, 3, none⟩ (.slice a3 S.wait.length k3)).setCell ⟨w.heap.size + 1, 4, none⟩ (.slice a4 S.busy.length k4)).setCell ⟨w.heap.size + 1, 5, none⟩ (.slice a5 S.vars.length k5)).setCell ⟨w.heap.size + 1, 6, none⟩ (.int .i64 S.faults)) := (((((((Chg.refl _ _).seq _ _).seq _ _).seq _ _).seq _ _).seq _ _).seq _ _).seq _ _
        have hG2 := hG.lay hc ⟨by omega, by omega⟩ (fun e => by omega) (fun _ => ⟨_, _, _, _, _, _, _, hn⟩) (fun e => by omega)
        obtain ⟨_, _, hx9⟩ := hG.r1
        exact hK.out undef (upd v 1 _) _ _ (upd_on rfl q1) rfl hn hG2 ⟨.inl (hc.block _ (lt_heap hx9) (by omega)), .inr hn⟩
      | 7, _ =>
        obtain ⟨j0, j1, j2, j3, j4, j5, qv, z9⟩ : ∃ (j0 j1 j2 j3 : Int) (j4 j5 : ByteArray), v 4 = .agg #[.int .i64 j0, .int .i64 j1, .int .i64 j2, .int .i64 j3, .string j4, .string j5] ∧ ShE ⟨j0, j1, j2, j3, j4, j5⟩ := hd 4 (by decide)
        obtain ⟨⟨x0, x1, x2, x3, x4, x5⟩, _, hx1⟩ := hG.r3
        have hx1 : X.heap[w.heap.size + 1 + 1]? = some (.cells [.int .i64 x0, .int .i64 x1, .int .i64 x2, .int .i64 x3, .string x4, .string x5].toArray 31 (0, 0)) := hx1
        have e0 : X.cell? ⟨w.heap.size + 1 + 1, 0, none⟩ = some (.int .i64 x0) := by rw [Lib.cell_of_heap hx1]; rfl
        have e1 : X.cell? ⟨w.heap.size + 1 + 1, 1, none⟩ = some (.int .i64 x1) := by rw [Lib.cell_of_heap hx1]; rfl
        have e2 : X.cell? ⟨w.heap.size + 1 + 1, 2, none⟩ = some (.int .i64 x2) := by rw [Lib.cell_of_heap hx1]; rfl
        have e3 : X.cell? ⟨w.heap.size + 1 + 1, 3, none⟩ = some (.int .i64 x3) := by rw [Lib.cell_of_heap hx1]; rfl
        have e4 : X.cell? ⟨w.heap.size + 1 + 1, 4, none⟩ = some (.string x4) := by rw [Lib.cell_of_heap hx1]; rfl
        have e5 : X.cell? ⟨w.heap.size + 1 + 1, 5, none⟩ = some (.string x5) := by rw [Lib.cell_of_heap hx1]; rfl
        have ef : ∀ j, X.frozen? ⟨w.heap.size + 1 + 1, j, none⟩ = false := fun j => Lib.frozen_of_heap hx1 j
        refine op_go rfl rfl ?_
        go_simp
        have hn := blk_set (i := 5) (blk_set (i := 4) (blk_set (i := 3) (blk_set (i := 2) (blk_set (i := 1) (blk_set (i := 0) (hx1) (.int .i64 j0)) (.int .i64 j1)) (.int .i64 j2)) (.int .i64 j3)) (.string j4)) (.string j5)
        have hc : Chg (fun j => j = w.heap.size + 1 + 1) X ((((((X.setCell ⟨w.heap.size + 1 + 1, 0, none⟩ (.int .i64 j0)).setCell ⟨w.heap.size + 1 + 1, 1, none⟩ (.int .i64 j1)).setCell ⟨w.heap.size + 1 + 1, 2, none⟩ (.int .i64 j2)).setCell ⟨w.heap.size + 1 + 1, 3, none⟩ (.int .i64 j3)).setCell ⟨w.heap.size + 1 + 1, 4, none⟩ (.string j4)).setCell ⟨w.heap.size + 1 + 1, 5, none⟩ (.string j5)) := ((((((Chg.refl _ _).seq _ _).seq _ _).seq _ _).seq _ _).seq _ _).seq _ _
        have hG2 := hG.lay hc ⟨by omega, by omega⟩ (fun e => by omega) (fun e => by omega) (fun _ => ⟨⟨j0, j1, j2, j3, j4, j5⟩, z9, hn⟩)
        obtain ⟨_, _, hx8⟩ := hG.r1
        obtain ⟨_, _, _, _, _, _, _, hx9⟩ := hG.r2
        exact hK.out undef (upd v 4 _) _ _ (upd_on rfl qv) rfl trivial hG2 (Lays.of (hc.block _ (lt_heap hx8) (by omega)) (hc.block _ (lt_heap hx9) (by omega)))
    case fin21 =>
      intro v X hG hd
      have hx1 : X.heap[w.heap.size]? = some (.cells [.slice a1 ss.length k1, .slice a2 fs.length k2].toArray 26 (0, 0)) := hd 5 (by decide)
      have hx2 : X.heap[w.heap.size + 1]? = some (.cells [.int .i64 S.status, .int .i64 S.begun, .int .i64 S.last, .slice a3 S.wait.length k3, .slice a4 S.busy.length k4, .slice a5 S.vars.length k5, .int .i64 S.faults].toArray 29 (0, 0)) := hd 6 (by decide)
      obtain ⟨⟨j0, j1, j2, j3, j4, j5⟩, z9, hx3⟩ := hG.r3
      have hx3 : X.heap[w.heap.size + 1 + 1]? = some (.cells [.int .i64 j0, .int .i64 j1, .int .i64 j2, .int .i64 j3, .string j4, .string j5].toArray 31 (0, 0)) := hx3
      have f0 : X.cell? ⟨w.heap.size, 0, none⟩ = some (.slice a1 ss.length k1) := by rw [Lib.cell_of_heap hx1]; rfl
      have f1 : X.cell? ⟨w.heap.size, 1, none⟩ = some (.slice a2 fs.length k2) := by rw [Lib.cell_of_heap hx1]; rfl
      have g0 : X.cell? ⟨w.heap.size + 1, 0, none⟩ = some (.int .i64 S.status) := by rw [Lib.cell_of_heap hx2]; rfl
      have g1 : X.cell? ⟨w.heap.size + 1, 1, none⟩ = some (.int .i64 S.begun) := by rw [Lib.cell_of_heap hx2]; rfl
      have g2 : X.cell? ⟨w.heap.size + 1, 2, none⟩ = some (.int .i64 S.last) := by rw [Lib.cell_of_heap hx2]; rfl
      have g3 : X.cell? ⟨w.heap.size + 1, 3, none⟩ = some (.slice a3 S.wait.length k3) := by rw [Lib.cell_of_heap hx2]; rfl
      have g4 : X.cell? ⟨w.heap.size + 1, 4, none⟩ = some (.slice a4 S.busy.length k4) := by rw [Lib.cell_of_heap hx2]; rfl
      have g5 : X.cell? ⟨w.heap.size + 1, 5, none⟩ = some (.slice a5 S.vars.length k5) := by rw [Lib.cell_of_heap hx2]; rfl
      have g6 : X.cell? ⟨w.heap.size + 1, 6, none⟩ = some (.int .i64 S.faults) := by rw [Lib.cell_of_heap hx2]; rfl
      have t0 : X.cell? ⟨w.heap.size + 1 + 1, 0, none⟩ = some (.int .i64 j0) := by rw [Lib.cell_of_heap hx3]; rfl
      have t1 : X.cell? ⟨w.heap.size + 1 + 1, 1, none⟩ = some (.int .i64 j1) := by rw [Lib.cell_of_heap hx3]; rfl
      have t2 : X.cell? ⟨w.heap.size + 1 + 1, 2, none⟩ = some (.int .i64 j2) := by rw [Lib.cell_of_heap hx3]; rfl
      have t3 : X.cell? ⟨w.heap.size + 1 + 1, 3, none⟩ = some (.int .i64 j3) := by rw [Lib.cell_of_heap hx3]; rfl
      have t4 : X.cell? ⟨w.heap.size + 1 + 1, 4, none⟩ = some (.string j4) := by rw [Lib.cell_of_heap hx3]; rfl
      have t5 : X.cell? ⟨w.heap.size + 1 + 1, 5, none⟩ = some (.string j5) := by rw [Lib.cell_of_heap hx3]; rfl
      have SD := hid hG.fin
      clear hG hd hx1 hx2 hx3
      go_wp2
      exact bodyPost_ret (v := .tuple #[.agg #[.slice a1 ss.length k1, .slice a2 fs.length k2], .agg #[.int .i64 S.status, .int .i64 S.begun, .int .i64 S.last, .slice a3 S.wait.length k3, .slice a4 S.busy.length k4, .slice a5 S.vars.length k5, .int .i64 S.faults], .agg #[.int .i64 j0, .int .i64 j1, .int .i64 j2, .int .i64 j3, .string j4, .string j5]]) (by simp [results, Tryz.results4, go_sem, f0, f1, g0, g1, g2, g3, g4, g5, g6, t0, t1, t2, t3, t4, t5]) rfl ⟨_, _, _, _, _, _, _, S, ⟨j0, j1, j2, j3, j4, j5⟩, rfl, z9, SD.out⟩
end Go.Proofs.YtdggmeblnbabbaaGreatDoor
