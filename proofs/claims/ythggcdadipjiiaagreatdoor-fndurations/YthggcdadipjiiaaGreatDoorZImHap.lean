/-
  What the method happen of impl.stand does, one kind of event after the other: contracts over the seat's program. (Made by mkhap.py.)
-/
import Derived.Test.YthggcdadipjiiaaGreatDoorZClnV2
import Derived.Test.YthggcdadipjiiaaGreatDoorZRiseM4
import Derived.Test.YthggcdadipjiiaaGreatDoorZDfV3
namespace Go.Proofs.YthggcdadipjiiaaGreatDoor
open Go.RowKit Go.Maps Go.WideMaps Go.Sort

/-- The blocks of a stand. -/
def Pst (B bw bb : Nat) (vv : Value) (j : Nat) : Prop := j = B ∨ j = bw ∨ j = bb ∨ vv.ownBlock = some j
theorem Stand.out {w : World} {lo B bw bb : Nat} {sv fv vv : Value} {n : Nat} {S : St} (h : Stand w lo B bw bb sv fv vv n S) {j : Nat} (hj : w.heap.size ≤ j) : ¬ Pst B bw bb vv j := by
  rintro (e | e | e | e)
  · have := h.blk.lt; omega
  · have := h.mw.lt; omega
  · have := h.mb.lt; omega
  · have := (h.ov.lt j e).2; omega
theorem Stand.lo {w : World} {lo B bw bb : Nat} {sv fv vv : Value} {n : Nat} {S : St} (h : Stand w lo B bw bb sv fv vv n S) : ∀ j, Pst B bw bb vv j → lo ≤ j := by
  rintro j (rfl | rfl | rfl | e)
  · exact h.lB
  · exact h.lw
  · exact h.lb
  · exact (h.ov.lt j e).1
theorem stand_last {w : World} {lo B bw bb : Nat} {sv fv vv : Value} {n : Nat} {S : St} (h : Stand w lo B bw bb sv fv vv n S) (t : Int) : Stand (w.setCell ⟨B, 4, none⟩ (.int .i64 t)) lo B bw bb sv fv vv n { S with last := t } :=
  ⟨h.blk.set 4 _, map_set h.mw (h.blk.ne h.mw) _, map_set h.mb (h.blk.ne h.mb) _, own_chg h.ov (chg_set w B 4 _) (own_ne h.ov h.blk (by decide)), h.wb, h.lw, h.lb, h.lB⟩
set_option maxRecDepth 100000 in
set_option maxHeartbeats 4000000 in
theorem happen_wrong (lo B bw bb n : Nat) (sv fv vv : Value) (S : St) (q t r k : Int) (s v : ByteArray) (w : World) (hS : Stand w lo B bw bb sv fv vv n S) (hs : s.size ≤ maxLen) (hev : evB ⟨q, t, r, k, s, v⟩ = false) (a0 : Addr) (hg : w.cell? ⟨0, 0, none⟩ = some (errV a0)) (hgl : 0 < w.heap.size) :
    Calls Tryz.prog 105 #[.pointer (some ⟨B, 0, none⟩), .agg #[.int .i64 q, .int .i64 t, .int .i64 r, .int .i64 k, .string s, .string v]] w fun x w' => x = .returned (errV a0) ∧ Below w.heap.size w w' := by
  have hbW : Below w.heap.size w (w.alloc (.cells #[.int .i64 q, .int .i64 t, .int .i64 r, .int .i64 k, .string s, .string v] 33)) := (Below.refl _ _).alloc (Nat.le_refl _) _
  have HS := hid (hS.stay hbW)
  have HBW := hid hbW
  have hnE := hS.out (Nat.le_refl _)
  skip
  have cE := hid (implEventRight_any q t r k s v (w.alloc (.cells #[.int .i64 q, .int .i64 t, .int .i64 r, .int .i64 k, .string s, .string v] 33)) hs)
  rw [hev] at cE
  have E0 := hid (show (w.alloc (.cells #[.int .i64 q, .int .i64 t, .int .i64 r, .int .i64 k, .string s, .string v] 33)).cell? ⟨w.heap.size, 0, none⟩ = some (.int .i64 q) by simp [go_sem])
  have E1 := hid (show (w.alloc (.cells #[.int .i64 q, .int .i64 t, .int .i64 r, .int .i64 k, .string s, .string v] 33)).cell? ⟨w.heap.size, 1, none⟩ = some (.int .i64 t) by simp [go_sem])
  have E2 := hid (show (w.alloc (.cells #[.int .i64 q, .int .i64 t, .int .i64 r, .int .i64 k, .string s, .string v] 33)).cell? ⟨w.heap.size, 2, none⟩ = some (.int .i64 r) by simp [go_sem])
  have E3 := hid (show (w.alloc (.cells #[.int .i64 q, .int .i64 t, .int .i64 r, .int .i64 k, .string s, .string v] 33)).cell? ⟨w.heap.size, 3, none⟩ = some (.int .i64 k) by simp [go_sem])
  have E4 := hid (show (w.alloc (.cells #[.int .i64 q, .int .i64 t, .int .i64 r, .int .i64 k, .string s, .string v] 33)).cell? ⟨w.heap.size, 4, none⟩ = some (.string s) by simp [go_sem])
  have E5 := hid (show (w.alloc (.cells #[.int .i64 q, .int .i64 t, .int .i64 r, .int .i64 k, .string s, .string v] 33)).cell? ⟨w.heap.size, 5, none⟩ = some (.string v) by simp [go_sem])
  have hWs : (w.alloc (.cells #[.int .i64 q, .int .i64 t, .int .i64 r, .int .i64 k, .string s, .string v] 33)).heap.size = w.heap.size + 1 := by simp
  clear hS hbW
  go_enter Tryz.func105, Tryz.ntmps105
  go_wp2_with fail
  refine cE.out.mono ?_
  generalize (w.alloc (.cells #[.int .i64 q, .int .i64 t, .int .i64 r, .int .i64 k, .string s, .string v] 33)) = W at *
  rintro x W1 ⟨rfl, hb1⟩
  have hz1 := hb1.size
  have HS1 := hid (HS.out.stay hb1)
  have HB1 := hid (HBW.out.trans (hb1.mono HBW.out.size))
  have e0 := (hb1.cell (p := ⟨w.heap.size, 0, none⟩) (by show w.heap.size < _; omega)).trans E0.out
  have e1 := (hb1.cell (p := ⟨w.heap.size, 1, none⟩) (by show w.heap.size < _; omega)).trans E1.out
  have e2 := (hb1.cell (p := ⟨w.heap.size, 2, none⟩) (by show w.heap.size < _; omega)).trans E2.out
  have e3 := (hb1.cell (p := ⟨w.heap.size, 3, none⟩) (by show w.heap.size < _; omega)).trans E3.out
  have e4 := (hb1.cell (p := ⟨w.heap.size, 4, none⟩) (by show w.heap.size < _; omega)).trans E4.out
  have e5 := (hb1.cell (p := ⟨w.heap.size, 5, none⟩) (by show w.heap.size < _; omega)).trans E5.out
  clear hb1 HS cE HBW E0 E1 E2 E3 E4 E5
  have xg := (HB1.out.cell (p := ⟨0, 0, none⟩) hgl).trans hg
  clear hg
  go_wp2
  go_ret
  exact ⟨rfl, HB1.out⟩
set_option maxRecDepth 100000 in
set_option maxHeartbeats 4000000 in
theorem happen_state (lo B bw bb n : Nat) (sv fv vv : Value) (S : St) (q t r k : Int) (s v : ByteArray) (w : World) (hS : Stand w lo B bw bb sv fv vv n S) (hs : s.size ≤ maxLen) (hev : evB ⟨q, t, r, k, s, v⟩ = true) (haw : awB S.status k = false) (a1 : Addr) (hg : w.cell? ⟨1, 0, none⟩ = some (errV a1)) (hgl : 1 < w.heap.size) :
    Calls Tryz.prog 105 #[.pointer (some ⟨B, 0, none⟩), .agg #[.int .i64 q, .int .i64 t, .int .i64 r, .int .i64 k, .string s, .string v]] w fun x w' => x = .returned (errV a1) ∧ Below w.heap.size w w' := by
  have hbW : Below w.heap.size w (w.alloc (.cells #[.int .i64 q, .int .i64 t, .int .i64 r, .int .i64 k, .string s, .string v] 33)) := (Below.refl _ _).alloc (Nat.le_refl _) _
  have HS := hid (hS.stay hbW)
  have HBW := hid hbW
  have hnE := hS.out (Nat.le_refl _)
  have cE := hid (implEventRight_any q t r k s v (w.alloc (.cells #[.int .i64 q, .int .i64 t, .int .i64 r, .int .i64 k, .string s, .string v] 33)) hs)
  rw [hev] at cE
  have E0 := hid (show (w.alloc (.cells #[.int .i64 q, .int .i64 t, .int .i64 r, .int .i64 k, .string s, .string v] 33)).cell? ⟨w.heap.size, 0, none⟩ = some (.int .i64 q) by simp [go_sem])
  have E1 := hid (show (w.alloc (.cells #[.int .i64 q, .int .i64 t, .int .i64 r, .int .i64 k, .string s, .string v] 33)).cell? ⟨w.heap.size, 1, none⟩ = some (.int .i64 t) by simp [go_sem])
  have E2 := hid (show (w.alloc (.cells #[.int .i64 q, .int .i64 t, .int .i64 r, .int .i64 k, .string s, .string v] 33)).cell? ⟨w.heap.size, 2, none⟩ = some (.int .i64 r) by simp [go_sem])
  have E3 := hid (show (w.alloc (.cells #[.int .i64 q, .int .i64 t, .int .i64 r, .int .i64 k, .string s, .string v] 33)).cell? ⟨w.heap.size, 3, none⟩ = some (.int .i64 k) by simp [go_sem])
  have E4 := hid (show (w.alloc (.cells #[.int .i64 q, .int .i64 t, .int .i64 r, .int .i64 k, .string s, .string v] 33)).cell? ⟨w.heap.size, 4, none⟩ = some (.string s) by simp [go_sem])
  have E5 := hid (show (w.alloc (.cells #[.int .i64 q, .int .i64 t, .int .i64 r, .int .i64 k, .string s, .string v] 33)).cell? ⟨w.heap.size, 5, none⟩ = some (.string v) by simp [go_sem])
  have hWs : (w.alloc (.cells #[.int .i64 q, .int .i64 t, .int .i64 r, .int .i64 k, .string s, .string v] 33)).heap.size = w.heap.size + 1 := by simp
  clear hS hbW
  go_enter Tryz.func105, Tryz.ntmps105
  go_wp2_with fail
  refine cE.out.mono ?_
  generalize (w.alloc (.cells #[.int .i64 q, .int .i64 t, .int .i64 r, .int .i64 k, .string s, .string v] 33)) = W at *
  rintro x W1 ⟨rfl, hb1⟩
  have hz1 := hb1.size
  have HS1 := hid (HS.out.stay hb1)
  have HB1 := hid (HBW.out.trans (hb1.mono HBW.out.size))
  have e0 := (hb1.cell (p := ⟨w.heap.size, 0, none⟩) (by show w.heap.size < _; omega)).trans E0.out
  have e1 := (hb1.cell (p := ⟨w.heap.size, 1, none⟩) (by show w.heap.size < _; omega)).trans E1.out
  have e2 := (hb1.cell (p := ⟨w.heap.size, 2, none⟩) (by show w.heap.size < _; omega)).trans E2.out
  have e3 := (hb1.cell (p := ⟨w.heap.size, 3, none⟩) (by show w.heap.size < _; omega)).trans E3.out
  have e4 := (hb1.cell (p := ⟨w.heap.size, 4, none⟩) (by show w.heap.size < _; omega)).trans E4.out
  have e5 := (hb1.cell (p := ⟨w.heap.size, 5, none⟩) (by show w.heap.size < _; omega)).trans E5.out
  clear hb1 HS cE HBW E0 E1 E2 E3 E4 E5
  have xg := (HB1.out.cell (p := ⟨1, 0, none⟩) hgl).trans hg
  clear hg
  have cA := hid (awaits_any B bw bb sv fv vv S.status S.begun S.last S.faults k W1 HS1.out.blk)
  rw [haw] at cA
  go_wp2_with fail
  refine cA.out.mono ?_
  rintro x Wq ⟨rfl, hq⟩
  rw [hq]
  clear hq Wq
  go_wp2
  go_ret
  exact ⟨rfl, HB1.out⟩
set_option maxRecDepth 100000 in
set_option maxHeartbeats 4000000 in
theorem happen_early (lo B bw bb n : Nat) (sv fv vv : Value) (S : St) (q t r k : Int) (s v : ByteArray) (w : World) (hS : Stand w lo B bw bb sv fv vv n S) (hs : s.size ≤ maxLen) (hev : evB ⟨q, t, r, k, s, v⟩ = true) (haw : awB S.status k = true) (ht : t < S.last) (a2 : Addr) (hg : w.cell? ⟨2, 0, none⟩ = some (errV a2)) (hgl : 2 < w.heap.size) :
    Calls Tryz.prog 105 #[.pointer (some ⟨B, 0, none⟩), .agg #[.int .i64 q, .int .i64 t, .int .i64 r, .int .i64 k, .string s, .string v]] w fun x w' => x = .returned (errV a2) ∧ Below w.heap.size w w' := by
  have mixed : Tryz.prog.follows .mixedOrders = true := by kernel_rfl
  have hbW : Below w.heap.size w (w.alloc (.cells #[.int .i64 q, .int .i64 t, .int .i64 r, .int .i64 k, .string s, .string v] 33)) := (Below.refl _ _).alloc (Nat.le_refl _) _
  have HS := hid (hS.stay hbW)
  have HBW := hid hbW
  have hnE := hS.out (Nat.le_refl _)
  have cE := hid (implEventRight_any q t r k s v (w.alloc (.cells #[.int .i64 q, .int .i64 t, .int .i64 r, .int .i64 k, .string s, .string v] 33)) hs)
  rw [hev] at cE
  have E0 := hid (show (w.alloc (.cells #[.int .i64 q, .int .i64 t, .int .i64 r, .int .i64 k, .string s, .string v] 33)).cell? ⟨w.heap.size, 0, none⟩ = some (.int .i64 q) by simp [go_sem])
  have E1 := hid (show (w.alloc (.cells #[.int .i64 q, .int .i64 t, .int .i64 r, .int .i64 k, .string s, .string v] 33)).cell? ⟨w.heap.size, 1, none⟩ = some (.int .i64 t) by simp [go_sem])
  have E2 := hid (show (w.alloc (.cells #[.int .i64 q, .int .i64 t, .int .i64 r, .int .i64 k, .string s, .string v] 33)).cell? ⟨w.heap.size, 2, none⟩ = some (.int .i64 r) by simp [go_sem])
  have E3 := hid (show (w.alloc (.cells #[.int .i64 q, .int .i64 t, .int .i64 r, .int .i64 k, .string s, .string v] 33)).cell? ⟨w.heap.size, 3, none⟩ = some (.int .i64 k) by simp [go_sem])
  have E4 := hid (show (w.alloc (.cells #[.int .i64 q, .int .i64 t, .int .i64 r, .int .i64 k, .string s, .string v] 33)).cell? ⟨w.heap.size, 4, none⟩ = some (.string s) by simp [go_sem])
  have E5 := hid (show (w.alloc (.cells #[.int .i64 q, .int .i64 t, .int .i64 r, .int .i64 k, .string s, .string v] 33)).cell? ⟨w.heap.size, 5, none⟩ = some (.string v) by simp [go_sem])
  have hWs : (w.alloc (.cells #[.int .i64 q, .int .i64 t, .int .i64 r, .int .i64 k, .string s, .string v] 33)).heap.size = w.heap.size + 1 := by simp
  clear hS hbW
  go_enter Tryz.func105, Tryz.ntmps105
  go_wp2_with fail
  refine cE.out.mono ?_
  generalize (w.alloc (.cells #[.int .i64 q, .int .i64 t, .int .i64 r, .int .i64 k, .string s, .string v] 33)) = W at *
  rintro x W1 ⟨rfl, hb1⟩
  have hz1 := hb1.size
  have HS1 := hid (HS.out.stay hb1)
  have HB1 := hid (HBW.out.trans (hb1.mono HBW.out.size))
  have e0 := (hb1.cell (p := ⟨w.heap.size, 0, none⟩) (by show w.heap.size < _; omega)).trans E0.out
  have e1 := (hb1.cell (p := ⟨w.heap.size, 1, none⟩) (by show w.heap.size < _; omega)).trans E1.out
  have e2 := (hb1.cell (p := ⟨w.heap.size, 2, none⟩) (by show w.heap.size < _; omega)).trans E2.out
  have e3 := (hb1.cell (p := ⟨w.heap.size, 3, none⟩) (by show w.heap.size < _; omega)).trans E3.out
  have e4 := (hb1.cell (p := ⟨w.heap.size, 4, none⟩) (by show w.heap.size < _; omega)).trans E4.out
  have e5 := (hb1.cell (p := ⟨w.heap.size, 5, none⟩) (by show w.heap.size < _; omega)).trans E5.out
  clear hb1 HS cE HBW E0 E1 E2 E3 E4 E5
  have xg := (HB1.out.cell (p := ⟨2, 0, none⟩) hgl).trans hg
  clear hg
  have cA := hid (awaits_any B bw bb sv fv vv S.status S.begun S.last S.faults k W1 HS1.out.blk)
  rw [haw] at cA
  go_wp2_with fail
  refine cA.out.mono ?_
  rintro x Wq ⟨rfl, hq⟩
  rw [hq]
  clear hq Wq
  have x4 := HS1.out.blk.cell 4
  change _ = some (Value.int .i64 S.last) at x4
  have q1 := cell_regrown e1
  have q4 := cell_regrown x4
  go_wp2_with fail
  refine wp_region_quiet_below mixed (by kernel_rfl) ?_
  repeat (go_big_quiet_step (fail))
  refine wpQuiet_nil ?_
  intro W2 hw'
  have HR2 := hid (show Below W1.heap.size W1 W2 by obtain ⟨⟨dq, osq⟩, hw''⟩ := hw'; subst hw''; exact below_regrown W1 dq osq)
  have xg2 := (HR2.out.cell (block_lt_of_cell xg)).trans xg
  clear hw' q1 q4 xg
  go_wp2
  go_ret
  exact ⟨rfl, HB1.out.trans (HR2.out.mono HB1.out.size)⟩
set_option maxRecDepth 100000 in
set_option maxHeartbeats 4000000 in
theorem happen_ok1 (lo B bw bb n : Nat) (sv fv vv : Value) (S : St) (q t r : Int) (s v : ByteArray) (w : World) (hS : Stand w lo B bw bb sv fv vv n S) (hs : s.size ≤ maxLen) (hev : evB ⟨q, t, r, 1, s, v⟩ = true) (haw : awB S.status 1 = true) (ht : ¬ t < S.last) (m : Nat) (S' : St) (hM : ∀ W, Below w.heap.size w W → Calls Tryz.prog 153 #[.pointer (some ⟨B, 0, none⟩), .agg #[.int .i64 q, .int .i64 t, .int .i64 r, .int .i64 1, .string s, .string v]] W fun x w' => ∃ vv', x = .returned .nilIface ∧ Stand w' lo B bw bb sv fv vv' m S' ∧ Chg (Pst B bw bb vv) W w') :
    Calls Tryz.prog 105 #[.pointer (some ⟨B, 0, none⟩), .agg #[.int .i64 q, .int .i64 t, .int .i64 r, .int .i64 1, .string s, .string v]] w fun x w' => ∃ vv', x = .returned .nilIface ∧ Stand w' lo B bw bb sv fv vv' m { S' with last := t } ∧ Chg (Pst B bw bb vv) w w' := by
  have ht' : decide (t < S.last) = false := decide_eq_false ht
  clear ht
  have mixed : Tryz.prog.follows .mixedOrders = true := by kernel_rfl
  have hbW : Below w.heap.size w (w.alloc (.cells #[.int .i64 q, .int .i64 t, .int .i64 r, .int .i64 1, .string s, .string v] 33)) := (Below.refl _ _).alloc (Nat.le_refl _) _
  have HS := hid (hS.stay hbW)
  have HBW := hid hbW
  have hnE := hS.out (Nat.le_refl _)
  have cE := hid (implEventRight_any q t r 1 s v (w.alloc (.cells #[.int .i64 q, .int .i64 t, .int .i64 r, .int .i64 1, .string s, .string v] 33)) hs)
  rw [hev] at cE
  have E0 := hid (show (w.alloc (.cells #[.int .i64 q, .int .i64 t, .int .i64 r, .int .i64 1, .string s, .string v] 33)).cell? ⟨w.heap.size, 0, none⟩ = some (.int .i64 q) by simp [go_sem])
  have E1 := hid (show (w.alloc (.cells #[.int .i64 q, .int .i64 t, .int .i64 r, .int .i64 1, .string s, .string v] 33)).cell? ⟨w.heap.size, 1, none⟩ = some (.int .i64 t) by simp [go_sem])
  have E2 := hid (show (w.alloc (.cells #[.int .i64 q, .int .i64 t, .int .i64 r, .int .i64 1, .string s, .string v] 33)).cell? ⟨w.heap.size, 2, none⟩ = some (.int .i64 r) by simp [go_sem])
  have E3 := hid (show (w.alloc (.cells #[.int .i64 q, .int .i64 t, .int .i64 r, .int .i64 1, .string s, .string v] 33)).cell? ⟨w.heap.size, 3, none⟩ = some (.int .i64 1) by simp [go_sem])
  have E4 := hid (show (w.alloc (.cells #[.int .i64 q, .int .i64 t, .int .i64 r, .int .i64 1, .string s, .string v] 33)).cell? ⟨w.heap.size, 4, none⟩ = some (.string s) by simp [go_sem])
  have E5 := hid (show (w.alloc (.cells #[.int .i64 q, .int .i64 t, .int .i64 r, .int .i64 1, .string s, .string v] 33)).cell? ⟨w.heap.size, 5, none⟩ = some (.string v) by simp [go_sem])
  have hWs : (w.alloc (.cells #[.int .i64 q, .int .i64 t, .int .i64 r, .int .i64 1, .string s, .string v] 33)).heap.size = w.heap.size + 1 := by simp
  clear hS hbW
  go_enter Tryz.func105, Tryz.ntmps105
  go_wp2_with fail
  refine cE.out.mono ?_
  generalize (w.alloc (.cells #[.int .i64 q, .int .i64 t, .int .i64 r, .int .i64 1, .string s, .string v] 33)) = W at *
  rintro x W1 ⟨rfl, hb1⟩
  have hz1 := hb1.size
  have HS1 := hid (HS.out.stay hb1)
  have HB1 := hid (HBW.out.trans (hb1.mono HBW.out.size))
  have e0 := (hb1.cell (p := ⟨w.heap.size, 0, none⟩) (by show w.heap.size < _; omega)).trans E0.out
  have e1 := (hb1.cell (p := ⟨w.heap.size, 1, none⟩) (by show w.heap.size < _; omega)).trans E1.out
  have e2 := (hb1.cell (p := ⟨w.heap.size, 2, none⟩) (by show w.heap.size < _; omega)).trans E2.out
  have e3 := (hb1.cell (p := ⟨w.heap.size, 3, none⟩) (by show w.heap.size < _; omega)).trans E3.out
  have e4 := (hb1.cell (p := ⟨w.heap.size, 4, none⟩) (by show w.heap.size < _; omega)).trans E4.out
  have e5 := (hb1.cell (p := ⟨w.heap.size, 5, none⟩) (by show w.heap.size < _; omega)).trans E5.out
  clear hb1 HS cE HBW E0 E1 E2 E3 E4 E5
  have cA := hid (awaits_any B bw bb sv fv vv S.status S.begun S.last S.faults 1 W1 HS1.out.blk)
  rw [haw] at cA
  go_wp2_with fail
  refine cA.out.mono ?_
  rintro x Wq ⟨rfl, hq⟩
  rw [hq]
  clear hq Wq
  have x4 := HS1.out.blk.cell 4
  change _ = some (Value.int .i64 S.last) at x4
  have q1 := cell_regrown e1
  have q4 := cell_regrown x4
  go_wp2_with fail
  refine wp_region_quiet_below mixed (by kernel_rfl) ?_
  repeat (go_big_quiet_step (fail))
  refine wpQuiet_nil ?_
  intro W2 hw'
  have HR2 := hid (show Below W1.heap.size W1 W2 by obtain ⟨⟨dq, osq⟩, hw''⟩ := hw'; subst hw''; exact below_regrown W1 dq osq)
  have HS2 := hid (HS1.out.stay HR2.out)
  have HB2 := hid (HB1.out.trans (HR2.out.mono HB1.out.size))
  have hz2 := HR2.out.size
  replace e0 := (HR2.out.cell (p := ⟨w.heap.size, 0, none⟩) (by show w.heap.size < _; omega)).trans e0
  replace e1 := (HR2.out.cell (p := ⟨w.heap.size, 1, none⟩) (by show w.heap.size < _; omega)).trans e1
  replace e2 := (HR2.out.cell (p := ⟨w.heap.size, 2, none⟩) (by show w.heap.size < _; omega)).trans e2
  replace e3 := (HR2.out.cell (p := ⟨w.heap.size, 3, none⟩) (by show w.heap.size < _; omega)).trans e3
  replace e4 := (HR2.out.cell (p := ⟨w.heap.size, 4, none⟩) (by show w.heap.size < _; omega)).trans e4
  replace e5 := (HR2.out.cell (p := ⟨w.heap.size, 5, none⟩) (by show w.heap.size < _; omega)).trans e5
  clear hw' q1 q4 x4 HS1
  have cD := hid (deed_1 B W2)
  go_wp2_with fail
  refine cD.out.mono ?_
  rintro x Wq ⟨rfl, hq⟩
  rw [hq]
  clear hq Wq
  have cM := hid (hM W2 HB2.out)
  go_wp2_with fail
  refine cM.out.mono ?_
  rintro x W3 ⟨vv', rfl, hS3, hC3⟩
  have HS3 := hid hS3
  have y1 := (hC3.cell (g := w.heap.size) (o := 1) (block_lt_of_cell e1) hnE).trans e1
  have HC3 := hid ((Chg.of_below HB2.out).trans hC3)
  have x4 := HS3.out.blk.cell 4
  change _ = some (Value.int .i64 S'.last) at x4
  have z := HS3.out.blk.frozen
  clear hS3 hC3 e0 e1 e2 e3 e4 e5
  go_wp2
  go_ret
  exact ⟨vv', rfl, stand_last HS3.out t, HC3.out.trans ((chg_set W3 B 4 _).mono (fun j h => .inl h))⟩
set_option maxRecDepth 100000 in
set_option maxHeartbeats 4000000 in
theorem happen_err2 (lo B bw bb n : Nat) (sv fv vv : Value) (S : St) (q t r : Int) (s v : ByteArray) (w : World) (hS : Stand w lo B bw bb sv fv vv n S) (hs : s.size ≤ maxLen) (hev : evB ⟨q, t, r, 2, s, v⟩ = true) (haw : awB S.status 2 = true) (ht : ¬ t < S.last) (a : Addr) (hM : ∀ W, Below w.heap.size w W → Calls Tryz.prog 154 #[.pointer (some ⟨B, 0, none⟩), .agg #[.int .i64 q, .int .i64 t, .int .i64 r, .int .i64 2, .string s, .string v]] W fun x w' => x = .returned (errV a) ∧ Chg (Pst B bw bb vv) W w') :
    Calls Tryz.prog 105 #[.pointer (some ⟨B, 0, none⟩), .agg #[.int .i64 q, .int .i64 t, .int .i64 r, .int .i64 2, .string s, .string v]] w fun x w' => x = .returned (errV a) ∧ Chg (Pst B bw bb vv) w w' := by
  have ht' : decide (t < S.last) = false := decide_eq_false ht
  clear ht
  have mixed : Tryz.prog.follows .mixedOrders = true := by kernel_rfl
  have hbW : Below w.heap.size w (w.alloc (.cells #[.int .i64 q, .int .i64 t, .int .i64 r, .int .i64 2, .string s, .string v] 33)) := (Below.refl _ _).alloc (Nat.le_refl _) _
  have HS := hid (hS.stay hbW)
  have HBW := hid hbW
  have hnE := hS.out (Nat.le_refl _)
  have cE := hid (implEventRight_any q t r 2 s v (w.alloc (.cells #[.int .i64 q, .int .i64 t, .int .i64 r, .int .i64 2, .string s, .string v] 33)) hs)
  rw [hev] at cE
  have E0 := hid (show (w.alloc (.cells #[.int .i64 q, .int .i64 t, .int .i64 r, .int .i64 2, .string s, .string v] 33)).cell? ⟨w.heap.size, 0, none⟩ = some (.int .i64 q) by simp [go_sem])
  have E1 := hid (show (w.alloc (.cells #[.int .i64 q, .int .i64 t, .int .i64 r, .int .i64 2, .string s, .string v] 33)).cell? ⟨w.heap.size, 1, none⟩ = some (.int .i64 t) by simp [go_sem])
  have E2 := hid (show (w.alloc (.cells #[.int .i64 q, .int .i64 t, .int .i64 r, .int .i64 2, .string s, .string v] 33)).cell? ⟨w.heap.size, 2, none⟩ = some (.int .i64 r) by simp [go_sem])
  have E3 := hid (show (w.alloc (.cells #[.int .i64 q, .int .i64 t, .int .i64 r, .int .i64 2, .string s, .string v] 33)).cell? ⟨w.heap.size, 3, none⟩ = some (.int .i64 2) by simp [go_sem])
  have E4 := hid (show (w.alloc (.cells #[.int .i64 q, .int .i64 t, .int .i64 r, .int .i64 2, .string s, .string v] 33)).cell? ⟨w.heap.size, 4, none⟩ = some (.string s) by simp [go_sem])
  have E5 := hid (show (w.alloc (.cells #[.int .i64 q, .int .i64 t, .int .i64 r, .int .i64 2, .string s, .string v] 33)).cell? ⟨w.heap.size, 5, none⟩ = some (.string v) by simp [go_sem])
  have hWs : (w.alloc (.cells #[.int .i64 q, .int .i64 t, .int .i64 r, .int .i64 2, .string s, .string v] 33)).heap.size = w.heap.size + 1 := by simp
  clear hS hbW
  go_enter Tryz.func105, Tryz.ntmps105
  go_wp2_with fail
  refine cE.out.mono ?_
  generalize (w.alloc (.cells #[.int .i64 q, .int .i64 t, .int .i64 r, .int .i64 2, .string s, .string v] 33)) = W at *
  rintro x W1 ⟨rfl, hb1⟩
  have hz1 := hb1.size
  have HS1 := hid (HS.out.stay hb1)
  have HB1 := hid (HBW.out.trans (hb1.mono HBW.out.size))
  have e0 := (hb1.cell (p := ⟨w.heap.size, 0, none⟩) (by show w.heap.size < _; omega)).trans E0.out
  have e1 := (hb1.cell (p := ⟨w.heap.size, 1, none⟩) (by show w.heap.size < _; omega)).trans E1.out
  have e2 := (hb1.cell (p := ⟨w.heap.size, 2, none⟩) (by show w.heap.size < _; omega)).trans E2.out
  have e3 := (hb1.cell (p := ⟨w.heap.size, 3, none⟩) (by show w.heap.size < _; omega)).trans E3.out
  have e4 := (hb1.cell (p := ⟨w.heap.size, 4, none⟩) (by show w.heap.size < _; omega)).trans E4.out
  have e5 := (hb1.cell (p := ⟨w.heap.size, 5, none⟩) (by show w.heap.size < _; omega)).trans E5.out
  clear hb1 HS cE HBW E0 E1 E2 E3 E4 E5
  have cA := hid (awaits_any B bw bb sv fv vv S.status S.begun S.last S.faults 2 W1 HS1.out.blk)
  rw [haw] at cA
  go_wp2_with fail
  refine cA.out.mono ?_
  rintro x Wq ⟨rfl, hq⟩
  rw [hq]
  clear hq Wq
  have x4 := HS1.out.blk.cell 4
  change _ = some (Value.int .i64 S.last) at x4
  have q1 := cell_regrown e1
  have q4 := cell_regrown x4
  go_wp2_with fail
  refine wp_region_quiet_below mixed (by kernel_rfl) ?_
  repeat (go_big_quiet_step (fail))
  refine wpQuiet_nil ?_
  intro W2 hw'
  have HR2 := hid (show Below W1.heap.size W1 W2 by obtain ⟨⟨dq, osq⟩, hw''⟩ := hw'; subst hw''; exact below_regrown W1 dq osq)
  have HS2 := hid (HS1.out.stay HR2.out)
  have HB2 := hid (HB1.out.trans (HR2.out.mono HB1.out.size))
  have hz2 := HR2.out.size
  replace e0 := (HR2.out.cell (p := ⟨w.heap.size, 0, none⟩) (by show w.heap.size < _; omega)).trans e0
  replace e1 := (HR2.out.cell (p := ⟨w.heap.size, 1, none⟩) (by show w.heap.size < _; omega)).trans e1
  replace e2 := (HR2.out.cell (p := ⟨w.heap.size, 2, none⟩) (by show w.heap.size < _; omega)).trans e2
  replace e3 := (HR2.out.cell (p := ⟨w.heap.size, 3, none⟩) (by show w.heap.size < _; omega)).trans e3
  replace e4 := (HR2.out.cell (p := ⟨w.heap.size, 4, none⟩) (by show w.heap.size < _; omega)).trans e4
  replace e5 := (HR2.out.cell (p := ⟨w.heap.size, 5, none⟩) (by show w.heap.size < _; omega)).trans e5
  clear hw' q1 q4 x4 HS1
  have cD := hid (deed_2 B W2)
  go_wp2_with fail
  refine cD.out.mono ?_
  rintro x Wq ⟨rfl, hq⟩
  rw [hq]
  clear hq Wq
  have cM := hid (hM W2 HB2.out)
  go_wp2_with fail
  refine cM.out.mono ?_
  rintro x W3 ⟨rfl, hC3⟩
  have HC3 := hid ((Chg.of_below HB2.out).trans hC3)
  clear hC3 e0 e1 e2 e3 e4 e5
  go_wp2
  go_ret
  exact ⟨rfl, HC3.out⟩
set_option maxRecDepth 100000 in
set_option maxHeartbeats 4000000 in
theorem happen_ok2 (lo B bw bb n : Nat) (sv fv vv : Value) (S : St) (q t r : Int) (s v : ByteArray) (w : World) (hS : Stand w lo B bw bb sv fv vv n S) (hs : s.size ≤ maxLen) (hev : evB ⟨q, t, r, 2, s, v⟩ = true) (haw : awB S.status 2 = true) (ht : ¬ t < S.last) (m : Nat) (S' : St) (hM : ∀ W, Below w.heap.size w W → Calls Tryz.prog 154 #[.pointer (some ⟨B, 0, none⟩), .agg #[.int .i64 q, .int .i64 t, .int .i64 r, .int .i64 2, .string s, .string v]] W fun x w' => ∃ vv', x = .returned .nilIface ∧ Stand w' lo B bw bb sv fv vv' m S' ∧ Chg (Pst B bw bb vv) W w') :
    Calls Tryz.prog 105 #[.pointer (some ⟨B, 0, none⟩), .agg #[.int .i64 q, .int .i64 t, .int .i64 r, .int .i64 2, .string s, .string v]] w fun x w' => ∃ vv', x = .returned .nilIface ∧ Stand w' lo B bw bb sv fv vv' m { S' with last := t } ∧ Chg (Pst B bw bb vv) w w' := by
  have ht' : decide (t < S.last) = false := decide_eq_false ht
  clear ht
  have mixed : Tryz.prog.follows .mixedOrders = true := by kernel_rfl
  have hbW : Below w.heap.size w (w.alloc (.cells #[.int .i64 q, .int .i64 t, .int .i64 r, .int .i64 2, .string s, .string v] 33)) := (Below.refl _ _).alloc (Nat.le_refl _) _
  have HS := hid (hS.stay hbW)
  have HBW := hid hbW
  have hnE := hS.out (Nat.le_refl _)
  have cE := hid (implEventRight_any q t r 2 s v (w.alloc (.cells #[.int .i64 q, .int .i64 t, .int .i64 r, .int .i64 2, .string s, .string v] 33)) hs)
  rw [hev] at cE
  have E0 := hid (show (w.alloc (.cells #[.int .i64 q, .int .i64 t, .int .i64 r, .int .i64 2, .string s, .string v] 33)).cell? ⟨w.heap.size, 0, none⟩ = some (.int .i64 q) by simp [go_sem])
  have E1 := hid (show (w.alloc (.cells #[.int .i64 q, .int .i64 t, .int .i64 r, .int .i64 2, .string s, .string v] 33)).cell? ⟨w.heap.size, 1, none⟩ = some (.int .i64 t) by simp [go_sem])
  have E2 := hid (show (w.alloc (.cells #[.int .i64 q, .int .i64 t, .int .i64 r, .int .i64 2, .string s, .string v] 33)).cell? ⟨w.heap.size, 2, none⟩ = some (.int .i64 r) by simp [go_sem])
  have E3 := hid (show (w.alloc (.cells #[.int .i64 q, .int .i64 t, .int .i64 r, .int .i64 2, .string s, .string v] 33)).cell? ⟨w.heap.size, 3, none⟩ = some (.int .i64 2) by simp [go_sem])
  have E4 := hid (show (w.alloc (.cells #[.int .i64 q, .int .i64 t, .int .i64 r, .int .i64 2, .string s, .string v] 33)).cell? ⟨w.heap.size, 4, none⟩ = some (.string s) by simp [go_sem])
  have E5 := hid (show (w.alloc (.cells #[.int .i64 q, .int .i64 t, .int .i64 r, .int .i64 2, .string s, .string v] 33)).cell? ⟨w.heap.size, 5, none⟩ = some (.string v) by simp [go_sem])
  have hWs : (w.alloc (.cells #[.int .i64 q, .int .i64 t, .int .i64 r, .int .i64 2, .string s, .string v] 33)).heap.size = w.heap.size + 1 := by simp
  clear hS hbW
  go_enter Tryz.func105, Tryz.ntmps105
  go_wp2_with fail
  refine cE.out.mono ?_
  generalize (w.alloc (.cells #[.int .i64 q, .int .i64 t, .int .i64 r, .int .i64 2, .string s, .string v] 33)) = W at *
  rintro x W1 ⟨rfl, hb1⟩
  have hz1 := hb1.size
  have HS1 := hid (HS.out.stay hb1)
  have HB1 := hid (HBW.out.trans (hb1.mono HBW.out.size))
  have e0 := (hb1.cell (p := ⟨w.heap.size, 0, none⟩) (by show w.heap.size < _; omega)).trans E0.out
  have e1 := (hb1.cell (p := ⟨w.heap.size, 1, none⟩) (by show w.heap.size < _; omega)).trans E1.out
  have e2 := (hb1.cell (p := ⟨w.heap.size, 2, none⟩) (by show w.heap.size < _; omega)).trans E2.out
  have e3 := (hb1.cell (p := ⟨w.heap.size, 3, none⟩) (by show w.heap.size < _; omega)).trans E3.out
  have e4 := (hb1.cell (p := ⟨w.heap.size, 4, none⟩) (by show w.heap.size < _; omega)).trans E4.out
  have e5 := (hb1.cell (p := ⟨w.heap.size, 5, none⟩) (by show w.heap.size < _; omega)).trans E5.out
  clear hb1 HS cE HBW E0 E1 E2 E3 E4 E5
  have cA := hid (awaits_any B bw bb sv fv vv S.status S.begun S.last S.faults 2 W1 HS1.out.blk)
  rw [haw] at cA
  go_wp2_with fail
  refine cA.out.mono ?_
  rintro x Wq ⟨rfl, hq⟩
  rw [hq]
  clear hq Wq
  have x4 := HS1.out.blk.cell 4
  change _ = some (Value.int .i64 S.last) at x4
  have q1 := cell_regrown e1
  have q4 := cell_regrown x4
  go_wp2_with fail
  refine wp_region_quiet_below mixed (by kernel_rfl) ?_
  repeat (go_big_quiet_step (fail))
  refine wpQuiet_nil ?_
  intro W2 hw'
  have HR2 := hid (show Below W1.heap.size W1 W2 by obtain ⟨⟨dq, osq⟩, hw''⟩ := hw'; subst hw''; exact below_regrown W1 dq osq)
  have HS2 := hid (HS1.out.stay HR2.out)
  have HB2 := hid (HB1.out.trans (HR2.out.mono HB1.out.size))
  have hz2 := HR2.out.size
  replace e0 := (HR2.out.cell (p := ⟨w.heap.size, 0, none⟩) (by show w.heap.size < _; omega)).trans e0
  replace e1 := (HR2.out.cell (p := ⟨w.heap.size, 1, none⟩) (by show w.heap.size < _; omega)).trans e1
  replace e2 := (HR2.out.cell (p := ⟨w.heap.size, 2, none⟩) (by show w.heap.size < _; omega)).trans e2
  replace e3 := (HR2.out.cell (p := ⟨w.heap.size, 3, none⟩) (by show w.heap.size < _; omega)).trans e3
  replace e4 := (HR2.out.cell (p := ⟨w.heap.size, 4, none⟩) (by show w.heap.size < _; omega)).trans e4
  replace e5 := (HR2.out.cell (p := ⟨w.heap.size, 5, none⟩) (by show w.heap.size < _; omega)).trans e5
  clear hw' q1 q4 x4 HS1
  have cD := hid (deed_2 B W2)
  go_wp2_with fail
  refine cD.out.mono ?_
  rintro x Wq ⟨rfl, hq⟩
  rw [hq]
  clear hq Wq
  have cM := hid (hM W2 HB2.out)
  go_wp2_with fail
  refine cM.out.mono ?_
  rintro x W3 ⟨vv', rfl, hS3, hC3⟩
  have HS3 := hid hS3
  have y1 := (hC3.cell (g := w.heap.size) (o := 1) (block_lt_of_cell e1) hnE).trans e1
  have HC3 := hid ((Chg.of_below HB2.out).trans hC3)
  have x4 := HS3.out.blk.cell 4
  change _ = some (Value.int .i64 S'.last) at x4
  have z := HS3.out.blk.frozen
  clear hS3 hC3 e0 e1 e2 e3 e4 e5
  go_wp2
  go_ret
  exact ⟨vv', rfl, stand_last HS3.out t, HC3.out.trans ((chg_set W3 B 4 _).mono (fun j h => .inl h))⟩
set_option maxRecDepth 100000 in
set_option maxHeartbeats 4000000 in
theorem happen_err3 (lo B bw bb n : Nat) (sv fv vv : Value) (S : St) (q t r : Int) (s v : ByteArray) (w : World) (hS : Stand w lo B bw bb sv fv vv n S) (hs : s.size ≤ maxLen) (hev : evB ⟨q, t, r, 3, s, v⟩ = true) (haw : awB S.status 3 = true) (ht : ¬ t < S.last) (a : Addr) (hM : ∀ W, Below w.heap.size w W → Calls Tryz.prog 155 #[.pointer (some ⟨B, 0, none⟩), .agg #[.int .i64 q, .int .i64 t, .int .i64 r, .int .i64 3, .string s, .string v]] W fun x w' => x = .returned (errV a) ∧ Chg (Pst B bw bb vv) W w') :
    Calls Tryz.prog 105 #[.pointer (some ⟨B, 0, none⟩), .agg #[.int .i64 q, .int .i64 t, .int .i64 r, .int .i64 3, .string s, .string v]] w fun x w' => x = .returned (errV a) ∧ Chg (Pst B bw bb vv) w w' := by
  have ht' : decide (t < S.last) = false := decide_eq_false ht
  clear ht
  have mixed : Tryz.prog.follows .mixedOrders = true := by kernel_rfl
  have hbW : Below w.heap.size w (w.alloc (.cells #[.int .i64 q, .int .i64 t, .int .i64 r, .int .i64 3, .string s, .string v] 33)) := (Below.refl _ _).alloc (Nat.le_refl _) _
  have HS := hid (hS.stay hbW)
  have HBW := hid hbW
  have hnE := hS.out (Nat.le_refl _)
  have cE := hid (implEventRight_any q t r 3 s v (w.alloc (.cells #[.int .i64 q, .int .i64 t, .int .i64 r, .int .i64 3, .string s, .string v] 33)) hs)
  rw [hev] at cE
  have E0 := hid (show (w.alloc (.cells #[.int .i64 q, .int .i64 t, .int .i64 r, .int .i64 3, .string s, .string v] 33)).cell? ⟨w.heap.size, 0, none⟩ = some (.int .i64 q) by simp [go_sem])
  have E1 := hid (show (w.alloc (.cells #[.int .i64 q, .int .i64 t, .int .i64 r, .int .i64 3, .string s, .string v] 33)).cell? ⟨w.heap.size, 1, none⟩ = some (.int .i64 t) by simp [go_sem])
  have E2 := hid (show (w.alloc (.cells #[.int .i64 q, .int .i64 t, .int .i64 r, .int .i64 3, .string s, .string v] 33)).cell? ⟨w.heap.size, 2, none⟩ = some (.int .i64 r) by simp [go_sem])
  have E3 := hid (show (w.alloc (.cells #[.int .i64 q, .int .i64 t, .int .i64 r, .int .i64 3, .string s, .string v] 33)).cell? ⟨w.heap.size, 3, none⟩ = some (.int .i64 3) by simp [go_sem])
  have E4 := hid (show (w.alloc (.cells #[.int .i64 q, .int .i64 t, .int .i64 r, .int .i64 3, .string s, .string v] 33)).cell? ⟨w.heap.size, 4, none⟩ = some (.string s) by simp [go_sem])
  have E5 := hid (show (w.alloc (.cells #[.int .i64 q, .int .i64 t, .int .i64 r, .int .i64 3, .string s, .string v] 33)).cell? ⟨w.heap.size, 5, none⟩ = some (.string v) by simp [go_sem])
  have hWs : (w.alloc (.cells #[.int .i64 q, .int .i64 t, .int .i64 r, .int .i64 3, .string s, .string v] 33)).heap.size = w.heap.size + 1 := by simp
  clear hS hbW
  go_enter Tryz.func105, Tryz.ntmps105
  go_wp2_with fail
  refine cE.out.mono ?_
  generalize (w.alloc (.cells #[.int .i64 q, .int .i64 t, .int .i64 r, .int .i64 3, .string s, .string v] 33)) = W at *
  rintro x W1 ⟨rfl, hb1⟩
  have hz1 := hb1.size
  have HS1 := hid (HS.out.stay hb1)
  have HB1 := hid (HBW.out.trans (hb1.mono HBW.out.size))
  have e0 := (hb1.cell (p := ⟨w.heap.size, 0, none⟩) (by show w.heap.size < _; omega)).trans E0.out
  have e1 := (hb1.cell (p := ⟨w.heap.size, 1, none⟩) (by show w.heap.size < _; omega)).trans E1.out
  have e2 := (hb1.cell (p := ⟨w.heap.size, 2, none⟩) (by show w.heap.size < _; omega)).trans E2.out
  have e3 := (hb1.cell (p := ⟨w.heap.size, 3, none⟩) (by show w.heap.size < _; omega)).trans E3.out
  have e4 := (hb1.cell (p := ⟨w.heap.size, 4, none⟩) (by show w.heap.size < _; omega)).trans E4.out
  have e5 := (hb1.cell (p := ⟨w.heap.size, 5, none⟩) (by show w.heap.size < _; omega)).trans E5.out
  clear hb1 HS cE HBW E0 E1 E2 E3 E4 E5
  have cA := hid (awaits_any B bw bb sv fv vv S.status S.begun S.last S.faults 3 W1 HS1.out.blk)
  rw [haw] at cA
  go_wp2_with fail
  refine cA.out.mono ?_
  rintro x Wq ⟨rfl, hq⟩
  rw [hq]
  clear hq Wq
  have x4 := HS1.out.blk.cell 4
  change _ = some (Value.int .i64 S.last) at x4
  have q1 := cell_regrown e1
  have q4 := cell_regrown x4
  go_wp2_with fail
  refine wp_region_quiet_below mixed (by kernel_rfl) ?_
  repeat (go_big_quiet_step (fail))
  refine wpQuiet_nil ?_
  intro W2 hw'
  have HR2 := hid (show Below W1.heap.size W1 W2 by obtain ⟨⟨dq, osq⟩, hw''⟩ := hw'; subst hw''; exact below_regrown W1 dq osq)
  have HS2 := hid (HS1.out.stay HR2.out)
  have HB2 := hid (HB1.out.trans (HR2.out.mono HB1.out.size))
  have hz2 := HR2.out.size
  replace e0 := (HR2.out.cell (p := ⟨w.heap.size, 0, none⟩) (by show w.heap.size < _; omega)).trans e0
  replace e1 := (HR2.out.cell (p := ⟨w.heap.size, 1, none⟩) (by show w.heap.size < _; omega)).trans e1
  replace e2 := (HR2.out.cell (p := ⟨w.heap.size, 2, none⟩) (by show w.heap.size < _; omega)).trans e2
  replace e3 := (HR2.out.cell (p := ⟨w.heap.size, 3, none⟩) (by show w.heap.size < _; omega)).trans e3
  replace e4 := (HR2.out.cell (p := ⟨w.heap.size, 4, none⟩) (by show w.heap.size < _; omega)).trans e4
  replace e5 := (HR2.out.cell (p := ⟨w.heap.size, 5, none⟩) (by show w.heap.size < _; omega)).trans e5
  clear hw' q1 q4 x4 HS1
  have cD := hid (deed_3 B W2)
  go_wp2_with fail
  refine cD.out.mono ?_
  rintro x Wq ⟨rfl, hq⟩
  rw [hq]
  clear hq Wq
  have cM := hid (hM W2 HB2.out)
  go_wp2_with fail
  refine cM.out.mono ?_
  rintro x W3 ⟨rfl, hC3⟩
  have HC3 := hid ((Chg.of_below HB2.out).trans hC3)
  clear hC3 e0 e1 e2 e3 e4 e5
  go_wp2
  go_ret
  exact ⟨rfl, HC3.out⟩
set_option maxRecDepth 100000 in
set_option maxHeartbeats 4000000 in
theorem happen_ok3 (lo B bw bb n : Nat) (sv fv vv : Value) (S : St) (q t r : Int) (s v : ByteArray) (w : World) (hS : Stand w lo B bw bb sv fv vv n S) (hs : s.size ≤ maxLen) (hev : evB ⟨q, t, r, 3, s, v⟩ = true) (haw : awB S.status 3 = true) (ht : ¬ t < S.last) (m : Nat) (S' : St) (hM : ∀ W, Below w.heap.size w W → Calls Tryz.prog 155 #[.pointer (some ⟨B, 0, none⟩), .agg #[.int .i64 q, .int .i64 t, .int .i64 r, .int .i64 3, .string s, .string v]] W fun x w' => ∃ vv', x = .returned .nilIface ∧ Stand w' lo B bw bb sv fv vv' m S' ∧ Chg (Pst B bw bb vv) W w') :
    Calls Tryz.prog 105 #[.pointer (some ⟨B, 0, none⟩), .agg #[.int .i64 q, .int .i64 t, .int .i64 r, .int .i64 3, .string s, .string v]] w fun x w' => ∃ vv', x = .returned .nilIface ∧ Stand w' lo B bw bb sv fv vv' m { S' with last := t } ∧ Chg (Pst B bw bb vv) w w' := by
  have ht' : decide (t < S.last) = false := decide_eq_false ht
  clear ht
  have mixed : Tryz.prog.follows .mixedOrders = true := by kernel_rfl
  have hbW : Below w.heap.size w (w.alloc (.cells #[.int .i64 q, .int .i64 t, .int .i64 r, .int .i64 3, .string s, .string v] 33)) := (Below.refl _ _).alloc (Nat.le_refl _) _
  have HS := hid (hS.stay hbW)
  have HBW := hid hbW
  have hnE := hS.out (Nat.le_refl _)
  have cE := hid (implEventRight_any q t r 3 s v (w.alloc (.cells #[.int .i64 q, .int .i64 t, .int .i64 r, .int .i64 3, .string s, .string v] 33)) hs)
  rw [hev] at cE
  have E0 := hid (show (w.alloc (.cells #[.int .i64 q, .int .i64 t, .int .i64 r, .int .i64 3, .string s, .string v] 33)).cell? ⟨w.heap.size, 0, none⟩ = some (.int .i64 q) by simp [go_sem])
  have E1 := hid (show (w.alloc (.cells #[.int .i64 q, .int .i64 t, .int .i64 r, .int .i64 3, .string s, .string v] 33)).cell? ⟨w.heap.size, 1, none⟩ = some (.int .i64 t) by simp [go_sem])
  have E2 := hid (show (w.alloc (.cells #[.int .i64 q, .int .i64 t, .int .i64 r, .int .i64 3, .string s, .string v] 33)).cell? ⟨w.heap.size, 2, none⟩ = some (.int .i64 r) by simp [go_sem])
  have E3 := hid (show (w.alloc (.cells #[.int .i64 q, .int .i64 t, .int .i64 r, .int .i64 3, .string s, .string v] 33)).cell? ⟨w.heap.size, 3, none⟩ = some (.int .i64 3) by simp [go_sem])
  have E4 := hid (show (w.alloc (.cells #[.int .i64 q, .int .i64 t, .int .i64 r, .int .i64 3, .string s, .string v] 33)).cell? ⟨w.heap.size, 4, none⟩ = some (.string s) by simp [go_sem])
  have E5 := hid (show (w.alloc (.cells #[.int .i64 q, .int .i64 t, .int .i64 r, .int .i64 3, .string s, .string v] 33)).cell? ⟨w.heap.size, 5, none⟩ = some (.string v) by simp [go_sem])
  have hWs : (w.alloc (.cells #[.int .i64 q, .int .i64 t, .int .i64 r, .int .i64 3, .string s, .string v] 33)).heap.size = w.heap.size + 1 := by simp
  clear hS hbW
  go_enter Tryz.func105, Tryz.ntmps105
  go_wp2_with fail
  refine cE.out.mono ?_
  generalize (w.alloc (.cells #[.int .i64 q, .int .i64 t, .int .i64 r, .int .i64 3, .string s, .string v] 33)) = W at *
  rintro x W1 ⟨rfl, hb1⟩
  have hz1 := hb1.size
  have HS1 := hid (HS.out.stay hb1)
  have HB1 := hid (HBW.out.trans (hb1.mono HBW.out.size))
  have e0 := (hb1.cell (p := ⟨w.heap.size, 0, none⟩) (by show w.heap.size < _; omega)).trans E0.out
  have e1 := (hb1.cell (p := ⟨w.heap.size, 1, none⟩) (by show w.heap.size < _; omega)).trans E1.out
  have e2 := (hb1.cell (p := ⟨w.heap.size, 2, none⟩) (by show w.heap.size < _; omega)).trans E2.out
  have e3 := (hb1.cell (p := ⟨w.heap.size, 3, none⟩) (by show w.heap.size < _; omega)).trans E3.out
  have e4 := (hb1.cell (p := ⟨w.heap.size, 4, none⟩) (by show w.heap.size < _; omega)).trans E4.out
  have e5 := (hb1.cell (p := ⟨w.heap.size, 5, none⟩) (by show w.heap.size < _; omega)).trans E5.out
  clear hb1 HS cE HBW E0 E1 E2 E3 E4 E5
  have cA := hid (awaits_any B bw bb sv fv vv S.status S.begun S.last S.faults 3 W1 HS1.out.blk)
  rw [haw] at cA
  go_wp2_with fail
  refine cA.out.mono ?_
  rintro x Wq ⟨rfl, hq⟩
  rw [hq]
  clear hq Wq
  have x4 := HS1.out.blk.cell 4
  change _ = some (Value.int .i64 S.last) at x4
  have q1 := cell_regrown e1
  have q4 := cell_regrown x4
  go_wp2_with fail
  refine wp_region_quiet_below mixed (by kernel_rfl) ?_
  repeat (go_big_quiet_step (fail))
  refine wpQuiet_nil ?_
  intro W2 hw'
  have HR2 := hid (show Below W1.heap.size W1 W2 by obtain ⟨⟨dq, osq⟩, hw''⟩ := hw'; subst hw''; exact below_regrown W1 dq osq)
  have HS2 := hid (HS1.out.stay HR2.out)
  have HB2 := hid (HB1.out.trans (HR2.out.mono HB1.out.size))
  have hz2 := HR2.out.size
  replace e0 := (HR2.out.cell (p := ⟨w.heap.size, 0, none⟩) (by show w.heap.size < _; omega)).trans e0
  replace e1 := (HR2.out.cell (p := ⟨w.heap.size, 1, none⟩) (by show w.heap.size < _; omega)).trans e1
  replace e2 := (HR2.out.cell (p := ⟨w.heap.size, 2, none⟩) (by show w.heap.size < _; omega)).trans e2
  replace e3 := (HR2.out.cell (p := ⟨w.heap.size, 3, none⟩) (by show w.heap.size < _; omega)).trans e3
  replace e4 := (HR2.out.cell (p := ⟨w.heap.size, 4, none⟩) (by show w.heap.size < _; omega)).trans e4
  replace e5 := (HR2.out.cell (p := ⟨w.heap.size, 5, none⟩) (by show w.heap.size < _; omega)).trans e5
  clear hw' q1 q4 x4 HS1
  have cD := hid (deed_3 B W2)
  go_wp2_with fail
  refine cD.out.mono ?_
  rintro x Wq ⟨rfl, hq⟩
  rw [hq]
  clear hq Wq
  have cM := hid (hM W2 HB2.out)
  go_wp2_with fail
  refine cM.out.mono ?_
  rintro x W3 ⟨vv', rfl, hS3, hC3⟩
  have HS3 := hid hS3
  have y1 := (hC3.cell (g := w.heap.size) (o := 1) (block_lt_of_cell e1) hnE).trans e1
  have HC3 := hid ((Chg.of_below HB2.out).trans hC3)
  have x4 := HS3.out.blk.cell 4
  change _ = some (Value.int .i64 S'.last) at x4
  have z := HS3.out.blk.frozen
  clear hS3 hC3 e0 e1 e2 e3 e4 e5
  go_wp2
  go_ret
  exact ⟨vv', rfl, stand_last HS3.out t, HC3.out.trans ((chg_set W3 B 4 _).mono (fun j h => .inl h))⟩
set_option maxRecDepth 100000 in
set_option maxHeartbeats 4000000 in
theorem happen_err4 (lo B bw bb n : Nat) (sv fv vv : Value) (S : St) (q t r : Int) (s v : ByteArray) (w : World) (hS : Stand w lo B bw bb sv fv vv n S) (hs : s.size ≤ maxLen) (hev : evB ⟨q, t, r, 4, s, v⟩ = true) (haw : awB S.status 4 = true) (ht : ¬ t < S.last) (a : Addr) (hM : ∀ W, Below w.heap.size w W → Calls Tryz.prog 156 #[.pointer (some ⟨B, 0, none⟩), .agg #[.int .i64 q, .int .i64 t, .int .i64 r, .int .i64 4, .string s, .string v]] W fun x w' => x = .returned (errV a) ∧ Chg (Pst B bw bb vv) W w') :
    Calls Tryz.prog 105 #[.pointer (some ⟨B, 0, none⟩), .agg #[.int .i64 q, .int .i64 t, .int .i64 r, .int .i64 4, .string s, .string v]] w fun x w' => x = .returned (errV a) ∧ Chg (Pst B bw bb vv) w w' := by
  have ht' : decide (t < S.last) = false := decide_eq_false ht
  clear ht
  have mixed : Tryz.prog.follows .mixedOrders = true := by kernel_rfl
  have hbW : Below w.heap.size w (w.alloc (.cells #[.int .i64 q, .int .i64 t, .int .i64 r, .int .i64 4, .string s, .string v] 33)) := (Below.refl _ _).alloc (Nat.le_refl _) _
  have HS := hid (hS.stay hbW)
  have HBW := hid hbW
  have hnE := hS.out (Nat.le_refl _)
  have cE := hid (implEventRight_any q t r 4 s v (w.alloc (.cells #[.int .i64 q, .int .i64 t, .int .i64 r, .int .i64 4, .string s, .string v] 33)) hs)
  rw [hev] at cE
  have E0 := hid (show (w.alloc (.cells #[.int .i64 q, .int .i64 t, .int .i64 r, .int .i64 4, .string s, .string v] 33)).cell? ⟨w.heap.size, 0, none⟩ = some (.int .i64 q) by simp [go_sem])
  have E1 := hid (show (w.alloc (.cells #[.int .i64 q, .int .i64 t, .int .i64 r, .int .i64 4, .string s, .string v] 33)).cell? ⟨w.heap.size, 1, none⟩ = some (.int .i64 t) by simp [go_sem])
  have E2 := hid (show (w.alloc (.cells #[.int .i64 q, .int .i64 t, .int .i64 r, .int .i64 4, .string s, .string v] 33)).cell? ⟨w.heap.size, 2, none⟩ = some (.int .i64 r) by simp [go_sem])
  have E3 := hid (show (w.alloc (.cells #[.int .i64 q, .int .i64 t, .int .i64 r, .int .i64 4, .string s, .string v] 33)).cell? ⟨w.heap.size, 3, none⟩ = some (.int .i64 4) by simp [go_sem])
  have E4 := hid (show (w.alloc (.cells #[.int .i64 q, .int .i64 t, .int .i64 r, .int .i64 4, .string s, .string v] 33)).cell? ⟨w.heap.size, 4, none⟩ = some (.string s) by simp [go_sem])
  have E5 := hid (show (w.alloc (.cells #[.int .i64 q, .int .i64 t, .int .i64 r, .int .i64 4, .string s, .string v] 33)).cell? ⟨w.heap.size, 5, none⟩ = some (.string v) by simp [go_sem])
  have hWs : (w.alloc (.cells #[.int .i64 q, .int .i64 t, .int .i64 r, .int .i64 4, .string s, .string v] 33)).heap.size = w.heap.size + 1 := by simp
  clear hS hbW
  go_enter Tryz.func105, Tryz.ntmps105
  go_wp2_with fail
  refine cE.out.mono ?_
  generalize (w.alloc (.cells #[.int .i64 q, .int .i64 t, .int .i64 r, .int .i64 4, .string s, .string v] 33)) = W at *
  rintro x W1 ⟨rfl, hb1⟩
  have hz1 := hb1.size
  have HS1 := hid (HS.out.stay hb1)
  have HB1 := hid (HBW.out.trans (hb1.mono HBW.out.size))
  have e0 := (hb1.cell (p := ⟨w.heap.size, 0, none⟩) (by show w.heap.size < _; omega)).trans E0.out
  have e1 := (hb1.cell (p := ⟨w.heap.size, 1, none⟩) (by show w.heap.size < _; omega)).trans E1.out
  have e2 := (hb1.cell (p := ⟨w.heap.size, 2, none⟩) (by show w.heap.size < _; omega)).trans E2.out
  have e3 := (hb1.cell (p := ⟨w.heap.size, 3, none⟩) (by show w.heap.size < _; omega)).trans E3.out
  have e4 := (hb1.cell (p := ⟨w.heap.size, 4, none⟩) (by show w.heap.size < _; omega)).trans E4.out
  have e5 := (hb1.cell (p := ⟨w.heap.size, 5, none⟩) (by show w.heap.size < _; omega)).trans E5.out
  clear hb1 HS cE HBW E0 E1 E2 E3 E4 E5
  have cA := hid (awaits_any B bw bb sv fv vv S.status S.begun S.last S.faults 4 W1 HS1.out.blk)
  rw [haw] at cA
  go_wp2_with fail
  refine cA.out.mono ?_
  rintro x Wq ⟨rfl, hq⟩
  rw [hq]
  clear hq Wq
  have x4 := HS1.out.blk.cell 4
  change _ = some (Value.int .i64 S.last) at x4
  have q1 := cell_regrown e1
  have q4 := cell_regrown x4
  go_wp2_with fail
  refine wp_region_quiet_below mixed (by kernel_rfl) ?_
  repeat (go_big_quiet_step (fail))
  refine wpQuiet_nil ?_
  intro W2 hw'
  have HR2 := hid (show Below W1.heap.size W1 W2 by obtain ⟨⟨dq, osq⟩, hw''⟩ := hw'; subst hw''; exact below_regrown W1 dq osq)
  have HS2 := hid (HS1.out.stay HR2.out)
  have HB2 := hid (HB1.out.trans (HR2.out.mono HB1.out.size))
  have hz2 := HR2.out.size
  replace e0 := (HR2.out.cell (p := ⟨w.heap.size, 0, none⟩) (by show w.heap.size < _; omega)).trans e0
  replace e1 := (HR2.out.cell (p := ⟨w.heap.size, 1, none⟩) (by show w.heap.size < _; omega)).trans e1
  replace e2 := (HR2.out.cell (p := ⟨w.heap.size, 2, none⟩) (by show w.heap.size < _; omega)).trans e2
  replace e3 := (HR2.out.cell (p := ⟨w.heap.size, 3, none⟩) (by show w.heap.size < _; omega)).trans e3
  replace e4 := (HR2.out.cell (p := ⟨w.heap.size, 4, none⟩) (by show w.heap.size < _; omega)).trans e4
  replace e5 := (HR2.out.cell (p := ⟨w.heap.size, 5, none⟩) (by show w.heap.size < _; omega)).trans e5
  clear hw' q1 q4 x4 HS1
  have cD := hid (deed_4 B W2)
  go_wp2_with fail
  refine cD.out.mono ?_
  rintro x Wq ⟨rfl, hq⟩
  rw [hq]
  clear hq Wq
  have cM := hid (hM W2 HB2.out)
  go_wp2_with fail
  refine cM.out.mono ?_
  rintro x W3 ⟨rfl, hC3⟩
  have HC3 := hid ((Chg.of_below HB2.out).trans hC3)
  clear hC3 e0 e1 e2 e3 e4 e5
  go_wp2
  go_ret
  exact ⟨rfl, HC3.out⟩
set_option maxRecDepth 100000 in
set_option maxHeartbeats 4000000 in
theorem happen_ok4 (lo B bw bb n : Nat) (sv fv vv : Value) (S : St) (q t r : Int) (s v : ByteArray) (w : World) (hS : Stand w lo B bw bb sv fv vv n S) (hs : s.size ≤ maxLen) (hev : evB ⟨q, t, r, 4, s, v⟩ = true) (haw : awB S.status 4 = true) (ht : ¬ t < S.last) (m : Nat) (S' : St) (hM : ∀ W, Below w.heap.size w W → Calls Tryz.prog 156 #[.pointer (some ⟨B, 0, none⟩), .agg #[.int .i64 q, .int .i64 t, .int .i64 r, .int .i64 4, .string s, .string v]] W fun x w' => ∃ vv', x = .returned .nilIface ∧ Stand w' lo B bw bb sv fv vv' m S' ∧ Chg (Pst B bw bb vv) W w') :
    Calls Tryz.prog 105 #[.pointer (some ⟨B, 0, none⟩), .agg #[.int .i64 q, .int .i64 t, .int .i64 r, .int .i64 4, .string s, .string v]] w fun x w' => ∃ vv', x = .returned .nilIface ∧ Stand w' lo B bw bb sv fv vv' m { S' with last := t } ∧ Chg (Pst B bw bb vv) w w' := by
  have ht' : decide (t < S.last) = false := decide_eq_false ht
  clear ht
  have mixed : Tryz.prog.follows .mixedOrders = true := by kernel_rfl
  have hbW : Below w.heap.size w (w.alloc (.cells #[.int .i64 q, .int .i64 t, .int .i64 r, .int .i64 4, .string s, .string v] 33)) := (Below.refl _ _).alloc (Nat.le_refl _) _
  have HS := hid (hS.stay hbW)
  have HBW := hid hbW
  have hnE := hS.out (Nat.le_refl _)
  have cE := hid (implEventRight_any q t r 4 s v (w.alloc (.cells #[.int .i64 q, .int .i64 t, .int .i64 r, .int .i64 4, .string s, .string v] 33)) hs)
  rw [hev] at cE
  have E0 := hid (show (w.alloc (.cells #[.int .i64 q, .int .i64 t, .int .i64 r, .int .i64 4, .string s, .string v] 33)).cell? ⟨w.heap.size, 0, none⟩ = some (.int .i64 q) by simp [go_sem])
  have E1 := hid (show (w.alloc (.cells #[.int .i64 q, .int .i64 t, .int .i64 r, .int .i64 4, .string s, .string v] 33)).cell? ⟨w.heap.size, 1, none⟩ = some (.int .i64 t) by simp [go_sem])
  have E2 := hid (show (w.alloc (.cells #[.int .i64 q, .int .i64 t, .int .i64 r, .int .i64 4, .string s, .string v] 33)).cell? ⟨w.heap.size, 2, none⟩ = some (.int .i64 r) by simp [go_sem])
  have E3 := hid (show (w.alloc (.cells #[.int .i64 q, .int .i64 t, .int .i64 r, .int .i64 4, .string s, .string v] 33)).cell? ⟨w.heap.size, 3, none⟩ = some (.int .i64 4) by simp [go_sem])
  have E4 := hid (show (w.alloc (.cells #[.int .i64 q, .int .i64 t, .int .i64 r, .int .i64 4, .string s, .string v] 33)).cell? ⟨w.heap.size, 4, none⟩ = some (.string s) by simp [go_sem])
  have E5 := hid (show (w.alloc (.cells #[.int .i64 q, .int .i64 t, .int .i64 r, .int .i64 4, .string s, .string v] 33)).cell? ⟨w.heap.size, 5, none⟩ = some (.string v) by simp [go_sem])
  have hWs : (w.alloc (.cells #[.int .i64 q, .int .i64 t, .int .i64 r, .int .i64 4, .string s, .string v] 33)).heap.size = w.heap.size + 1 := by simp
  clear hS hbW
  go_enter Tryz.func105, Tryz.ntmps105
  go_wp2_with fail
  refine cE.out.mono ?_
  generalize (w.alloc (.cells #[.int .i64 q, .int .i64 t, .int .i64 r, .int .i64 4, .string s, .string v] 33)) = W at *
  rintro x W1 ⟨rfl, hb1⟩
  have hz1 := hb1.size
  have HS1 := hid (HS.out.stay hb1)
  have HB1 := hid (HBW.out.trans (hb1.mono HBW.out.size))
  have e0 := (hb1.cell (p := ⟨w.heap.size, 0, none⟩) (by show w.heap.size < _; omega)).trans E0.out
  have e1 := (hb1.cell (p := ⟨w.heap.size, 1, none⟩) (by show w.heap.size < _; omega)).trans E1.out
  have e2 := (hb1.cell (p := ⟨w.heap.size, 2, none⟩) (by show w.heap.size < _; omega)).trans E2.out
  have e3 := (hb1.cell (p := ⟨w.heap.size, 3, none⟩) (by show w.heap.size < _; omega)).trans E3.out
  have e4 := (hb1.cell (p := ⟨w.heap.size, 4, none⟩) (by show w.heap.size < _; omega)).trans E4.out
  have e5 := (hb1.cell (p := ⟨w.heap.size, 5, none⟩) (by show w.heap.size < _; omega)).trans E5.out
  clear hb1 HS cE HBW E0 E1 E2 E3 E4 E5
  have cA := hid (awaits_any B bw bb sv fv vv S.status S.begun S.last S.faults 4 W1 HS1.out.blk)
  rw [haw] at cA
  go_wp2_with fail
  refine cA.out.mono ?_
  rintro x Wq ⟨rfl, hq⟩
  rw [hq]
  clear hq Wq
  have x4 := HS1.out.blk.cell 4
  change _ = some (Value.int .i64 S.last) at x4
  have q1 := cell_regrown e1
  have q4 := cell_regrown x4
  go_wp2_with fail
  refine wp_region_quiet_below mixed (by kernel_rfl) ?_
  repeat (go_big_quiet_step (fail))
  refine wpQuiet_nil ?_
  intro W2 hw'
  have HR2 := hid (show Below W1.heap.size W1 W2 by obtain ⟨⟨dq, osq⟩, hw''⟩ := hw'; subst hw''; exact below_regrown W1 dq osq)
  have HS2 := hid (HS1.out.stay HR2.out)
  have HB2 := hid (HB1.out.trans (HR2.out.mono HB1.out.size))
  have hz2 := HR2.out.size
  replace e0 := (HR2.out.cell (p := ⟨w.heap.size, 0, none⟩) (by show w.heap.size < _; omega)).trans e0
  replace e1 := (HR2.out.cell (p := ⟨w.heap.size, 1, none⟩) (by show w.heap.size < _; omega)).trans e1
  replace e2 := (HR2.out.cell (p := ⟨w.heap.size, 2, none⟩) (by show w.heap.size < _; omega)).trans e2
  replace e3 := (HR2.out.cell (p := ⟨w.heap.size, 3, none⟩) (by show w.heap.size < _; omega)).trans e3
  replace e4 := (HR2.out.cell (p := ⟨w.heap.size, 4, none⟩) (by show w.heap.size < _; omega)).trans e4
  replace e5 := (HR2.out.cell (p := ⟨w.heap.size, 5, none⟩) (by show w.heap.size < _; omega)).trans e5
  clear hw' q1 q4 x4 HS1
  have cD := hid (deed_4 B W2)
  go_wp2_with fail
  refine cD.out.mono ?_
  rintro x Wq ⟨rfl, hq⟩
  rw [hq]
  clear hq Wq
  have cM := hid (hM W2 HB2.out)
  go_wp2_with fail
  refine cM.out.mono ?_
  rintro x W3 ⟨vv', rfl, hS3, hC3⟩
  have HS3 := hid hS3
  have y1 := (hC3.cell (g := w.heap.size) (o := 1) (block_lt_of_cell e1) hnE).trans e1
  have HC3 := hid ((Chg.of_below HB2.out).trans hC3)
  have x4 := HS3.out.blk.cell 4
  change _ = some (Value.int .i64 S'.last) at x4
  have z := HS3.out.blk.frozen
  clear hS3 hC3 e0 e1 e2 e3 e4 e5
  go_wp2
  go_ret
  exact ⟨vv', rfl, stand_last HS3.out t, HC3.out.trans ((chg_set W3 B 4 _).mono (fun j h => .inl h))⟩
set_option maxRecDepth 100000 in
set_option maxHeartbeats 4000000 in
theorem happen_err5 (lo B bw bb n : Nat) (sv fv vv : Value) (S : St) (q t r : Int) (s v : ByteArray) (w : World) (hS : Stand w lo B bw bb sv fv vv n S) (hs : s.size ≤ maxLen) (hev : evB ⟨q, t, r, 5, s, v⟩ = true) (haw : awB S.status 5 = true) (ht : ¬ t < S.last) (a : Addr) (hM : ∀ W, Below w.heap.size w W → Calls Tryz.prog 157 #[.pointer (some ⟨B, 0, none⟩), .agg #[.int .i64 q, .int .i64 t, .int .i64 r, .int .i64 5, .string s, .string v]] W fun x w' => x = .returned (errV a) ∧ Chg (Pst B bw bb vv) W w') :
    Calls Tryz.prog 105 #[.pointer (some ⟨B, 0, none⟩), .agg #[.int .i64 q, .int .i64 t, .int .i64 r, .int .i64 5, .string s, .string v]] w fun x w' => x = .returned (errV a) ∧ Chg (Pst B bw bb vv) w w' := by
  have ht' : decide (t < S.last) = false := decide_eq_false ht
  clear ht
  have mixed : Tryz.prog.follows .mixedOrders = true := by kernel_rfl
  have hbW : Below w.heap.size w (w.alloc (.cells #[.int .i64 q, .int .i64 t, .int .i64 r, .int .i64 5, .string s, .string v] 33)) := (Below.refl _ _).alloc (Nat.le_refl _) _
  have HS := hid (hS.stay hbW)
  have HBW := hid hbW
  have hnE := hS.out (Nat.le_refl _)
  have cE := hid (implEventRight_any q t r 5 s v (w.alloc (.cells #[.int .i64 q, .int .i64 t, .int .i64 r, .int .i64 5, .string s, .string v] 33)) hs)
  rw [hev] at cE
  have E0 := hid (show (w.alloc (.cells #[.int .i64 q, .int .i64 t, .int .i64 r, .int .i64 5, .string s, .string v] 33)).cell? ⟨w.heap.size, 0, none⟩ = some (.int .i64 q) by simp [go_sem])
  have E1 := hid (show (w.alloc (.cells #[.int .i64 q, .int .i64 t, .int .i64 r, .int .i64 5, .string s, .string v] 33)).cell? ⟨w.heap.size, 1, none⟩ = some (.int .i64 t) by simp [go_sem])
  have E2 := hid (show (w.alloc (.cells #[.int .i64 q, .int .i64 t, .int .i64 r, .int .i64 5, .string s, .string v] 33)).cell? ⟨w.heap.size, 2, none⟩ = some (.int .i64 r) by simp [go_sem])
  have E3 := hid (show (w.alloc (.cells #[.int .i64 q, .int .i64 t, .int .i64 r, .int .i64 5, .string s, .string v] 33)).cell? ⟨w.heap.size, 3, none⟩ = some (.int .i64 5) by simp [go_sem])
  have E4 := hid (show (w.alloc (.cells #[.int .i64 q, .int .i64 t, .int .i64 r, .int .i64 5, .string s, .string v] 33)).cell? ⟨w.heap.size, 4, none⟩ = some (.string s) by simp [go_sem])
  have E5 := hid (show (w.alloc (.cells #[.int .i64 q, .int .i64 t, .int .i64 r, .int .i64 5, .string s, .string v] 33)).cell? ⟨w.heap.size, 5, none⟩ = some (.string v) by simp [go_sem])
  have hWs : (w.alloc (.cells #[.int .i64 q, .int .i64 t, .int .i64 r, .int .i64 5, .string s, .string v] 33)).heap.size = w.heap.size + 1 := by simp
  clear hS hbW
  go_enter Tryz.func105, Tryz.ntmps105
  go_wp2_with fail
  refine cE.out.mono ?_
  generalize (w.alloc (.cells #[.int .i64 q, .int .i64 t, .int .i64 r, .int .i64 5, .string s, .string v] 33)) = W at *
  rintro x W1 ⟨rfl, hb1⟩
  have hz1 := hb1.size
  have HS1 := hid (HS.out.stay hb1)
  have HB1 := hid (HBW.out.trans (hb1.mono HBW.out.size))
  have e0 := (hb1.cell (p := ⟨w.heap.size, 0, none⟩) (by show w.heap.size < _; omega)).trans E0.out
  have e1 := (hb1.cell (p := ⟨w.heap.size, 1, none⟩) (by show w.heap.size < _; omega)).trans E1.out
  have e2 := (hb1.cell (p := ⟨w.heap.size, 2, none⟩) (by show w.heap.size < _; omega)).trans E2.out
  have e3 := (hb1.cell (p := ⟨w.heap.size, 3, none⟩) (by show w.heap.size < _; omega)).trans E3.out
  have e4 := (hb1.cell (p := ⟨w.heap.size, 4, none⟩) (by show w.heap.size < _; omega)).trans E4.out
  have e5 := (hb1.cell (p := ⟨w.heap.size, 5, none⟩) (by show w.heap.size < _; omega)).trans E5.out
  clear hb1 HS cE HBW E0 E1 E2 E3 E4 E5
  have cA := hid (awaits_any B bw bb sv fv vv S.status S.begun S.last S.faults 5 W1 HS1.out.blk)
  rw [haw] at cA
  go_wp2_with fail
  refine cA.out.mono ?_
  rintro x Wq ⟨rfl, hq⟩
  rw [hq]
  clear hq Wq
  have x4 := HS1.out.blk.cell 4
  change _ = some (Value.int .i64 S.last) at x4
  have q1 := cell_regrown e1
  have q4 := cell_regrown x4
  go_wp2_with fail
  refine wp_region_quiet_below mixed (by kernel_rfl) ?_
  repeat (go_big_quiet_step (fail))
  refine wpQuiet_nil ?_
  intro W2 hw'
  have HR2 := hid (show Below W1.heap.size W1 W2 by obtain ⟨⟨dq, osq⟩, hw''⟩ := hw'; subst hw''; exact below_regrown W1 dq osq)
  have HS2 := hid (HS1.out.stay HR2.out)
  have HB2 := hid (HB1.out.trans (HR2.out.mono HB1.out.size))
  have hz2 := HR2.out.size
  replace e0 := (HR2.out.cell (p := ⟨w.heap.size, 0, none⟩) (by show w.heap.size < _; omega)).trans e0
  replace e1 := (HR2.out.cell (p := ⟨w.heap.size, 1, none⟩) (by show w.heap.size < _; omega)).trans e1
  replace e2 := (HR2.out.cell (p := ⟨w.heap.size, 2, none⟩) (by show w.heap.size < _; omega)).trans e2
  replace e3 := (HR2.out.cell (p := ⟨w.heap.size, 3, none⟩) (by show w.heap.size < _; omega)).trans e3
  replace e4 := (HR2.out.cell (p := ⟨w.heap.size, 4, none⟩) (by show w.heap.size < _; omega)).trans e4
  replace e5 := (HR2.out.cell (p := ⟨w.heap.size, 5, none⟩) (by show w.heap.size < _; omega)).trans e5
  clear hw' q1 q4 x4 HS1
  have cD := hid (deed_5 B W2)
  go_wp2_with fail
  refine cD.out.mono ?_
  rintro x Wq ⟨rfl, hq⟩
  rw [hq]
  clear hq Wq
  have cM := hid (hM W2 HB2.out)
  go_wp2_with fail
  refine cM.out.mono ?_
  rintro x W3 ⟨rfl, hC3⟩
  have HC3 := hid ((Chg.of_below HB2.out).trans hC3)
  clear hC3 e0 e1 e2 e3 e4 e5
  go_wp2
  go_ret
  exact ⟨rfl, HC3.out⟩
set_option maxRecDepth 100000 in
set_option maxHeartbeats 4000000 in
theorem happen_ok5 (lo B bw bb n : Nat) (sv fv vv : Value) (S : St) (q t r : Int) (s v : ByteArray) (w : World) (hS : Stand w lo B bw bb sv fv vv n S) (hs : s.size ≤ maxLen) (hev : evB ⟨q, t, r, 5, s, v⟩ = true) (haw : awB S.status 5 = true) (ht : ¬ t < S.last) (m : Nat) (S' : St) (hM : ∀ W, Below w.heap.size w W → Calls Tryz.prog 157 #[.pointer (some ⟨B, 0, none⟩), .agg #[.int .i64 q, .int .i64 t, .int .i64 r, .int .i64 5, .string s, .string v]] W fun x w' => ∃ vv', x = .returned .nilIface ∧ Stand w' lo B bw bb sv fv vv' m S' ∧ Chg (Pst B bw bb vv) W w') :
    Calls Tryz.prog 105 #[.pointer (some ⟨B, 0, none⟩), .agg #[.int .i64 q, .int .i64 t, .int .i64 r, .int .i64 5, .string s, .string v]] w fun x w' => ∃ vv', x = .returned .nilIface ∧ Stand w' lo B bw bb sv fv vv' m { S' with last := t } ∧ Chg (Pst B bw bb vv) w w' := by
  have ht' : decide (t < S.last) = false := decide_eq_false ht
  clear ht
  have mixed : Tryz.prog.follows .mixedOrders = true := by kernel_rfl
  have hbW : Below w.heap.size w (w.alloc (.cells #[.int .i64 q, .int .i64 t, .int .i64 r, .int .i64 5, .string s, .string v] 33)) := (Below.refl _ _).alloc (Nat.le_refl _) _
  have HS := hid (hS.stay hbW)
  have HBW := hid hbW
  have hnE := hS.out (Nat.le_refl _)
  have cE := hid (implEventRight_any q t r 5 s v (w.alloc (.cells #[.int .i64 q, .int .i64 t, .int .i64 r, .int .i64 5, .string s, .string v] 33)) hs)
  rw [hev] at cE
  have E0 := hid (show (w.alloc (.cells #[.int .i64 q, .int .i64 t, .int .i64 r, .int .i64 5, .string s, .string v] 33)).cell? ⟨w.heap.size, 0, none⟩ = some (.int .i64 q) by simp [go_sem])
  have E1 := hid (show (w.alloc (.cells #[.int .i64 q, .int .i64 t, .int .i64 r, .int .i64 5, .string s, .string v] 33)).cell? ⟨w.heap.size, 1, none⟩ = some (.int .i64 t) by simp [go_sem])
  have E2 := hid (show (w.alloc (.cells #[.int .i64 q, .int .i64 t, .int .i64 r, .int .i64 5, .string s, .string v] 33)).cell? ⟨w.heap.size, 2, none⟩ = some (.int .i64 r) by simp [go_sem])
  have E3 := hid (show (w.alloc (.cells #[.int .i64 q, .int .i64 t, .int .i64 r, .int .i64 5, .string s, .string v] 33)).cell? ⟨w.heap.size, 3, none⟩ = some (.int .i64 5) by simp [go_sem])
  have E4 := hid (show (w.alloc (.cells #[.int .i64 q, .int .i64 t, .int .i64 r, .int .i64 5, .string s, .string v] 33)).cell? ⟨w.heap.size, 4, none⟩ = some (.string s) by simp [go_sem])
  have E5 := hid (show (w.alloc (.cells #[.int .i64 q, .int .i64 t, .int .i64 r, .int .i64 5, .string s, .string v] 33)).cell? ⟨w.heap.size, 5, none⟩ = some (.string v) by simp [go_sem])
  have hWs : (w.alloc (.cells #[.int .i64 q, .int .i64 t, .int .i64 r, .int .i64 5, .string s, .string v] 33)).heap.size = w.heap.size + 1 := by simp
  clear hS hbW
  go_enter Tryz.func105, Tryz.ntmps105
  go_wp2_with fail
  refine cE.out.mono ?_
  generalize (w.alloc (.cells #[.int .i64 q, .int .i64 t, .int .i64 r, .int .i64 5, .string s, .string v] 33)) = W at *
  rintro x W1 ⟨rfl, hb1⟩
  have hz1 := hb1.size
  have HS1 := hid (HS.out.stay hb1)
  have HB1 := hid (HBW.out.trans (hb1.mono HBW.out.size))
  have e0 := (hb1.cell (p := ⟨w.heap.size, 0, none⟩) (by show w.heap.size < _; omega)).trans E0.out
  have e1 := (hb1.cell (p := ⟨w.heap.size, 1, none⟩) (by show w.heap.size < _; omega)).trans E1.out
  have e2 := (hb1.cell (p := ⟨w.heap.size, 2, none⟩) (by show w.heap.size < _; omega)).trans E2.out
  have e3 := (hb1.cell (p := ⟨w.heap.size, 3, none⟩) (by show w.heap.size < _; omega)).trans E3.out
  have e4 := (hb1.cell (p := ⟨w.heap.size, 4, none⟩) (by show w.heap.size < _; omega)).trans E4.out
  have e5 := (hb1.cell (p := ⟨w.heap.size, 5, none⟩) (by show w.heap.size < _; omega)).trans E5.out
  clear hb1 HS cE HBW E0 E1 E2 E3 E4 E5
  have cA := hid (awaits_any B bw bb sv fv vv S.status S.begun S.last S.faults 5 W1 HS1.out.blk)
  rw [haw] at cA
  go_wp2_with fail
  refine cA.out.mono ?_
  rintro x Wq ⟨rfl, hq⟩
  rw [hq]
  clear hq Wq
  have x4 := HS1.out.blk.cell 4
  change _ = some (Value.int .i64 S.last) at x4
  have q1 := cell_regrown e1
  have q4 := cell_regrown x4
  go_wp2_with fail
  refine wp_region_quiet_below mixed (by kernel_rfl) ?_
  repeat (go_big_quiet_step (fail))
  refine wpQuiet_nil ?_
  intro W2 hw'
  have HR2 := hid (show Below W1.heap.size W1 W2 by obtain ⟨⟨dq, osq⟩, hw''⟩ := hw'; subst hw''; exact below_regrown W1 dq osq)
  have HS2 := hid (HS1.out.stay HR2.out)
  have HB2 := hid (HB1.out.trans (HR2.out.mono HB1.out.size))
  have hz2 := HR2.out.size
  replace e0 := (HR2.out.cell (p := ⟨w.heap.size, 0, none⟩) (by show w.heap.size < _; omega)).trans e0
  replace e1 := (HR2.out.cell (p := ⟨w.heap.size, 1, none⟩) (by show w.heap.size < _; omega)).trans e1
  replace e2 := (HR2.out.cell (p := ⟨w.heap.size, 2, none⟩) (by show w.heap.size < _; omega)).trans e2
  replace e3 := (HR2.out.cell (p := ⟨w.heap.size, 3, none⟩) (by show w.heap.size < _; omega)).trans e3
  replace e4 := (HR2.out.cell (p := ⟨w.heap.size, 4, none⟩) (by show w.heap.size < _; omega)).trans e4
  replace e5 := (HR2.out.cell (p := ⟨w.heap.size, 5, none⟩) (by show w.heap.size < _; omega)).trans e5
  clear hw' q1 q4 x4 HS1
  have cD := hid (deed_5 B W2)
  go_wp2_with fail
  refine cD.out.mono ?_
  rintro x Wq ⟨rfl, hq⟩
  rw [hq]
  clear hq Wq
  have cM := hid (hM W2 HB2.out)
  go_wp2_with fail
  refine cM.out.mono ?_
  rintro x W3 ⟨vv', rfl, hS3, hC3⟩
  have HS3 := hid hS3
  have y1 := (hC3.cell (g := w.heap.size) (o := 1) (block_lt_of_cell e1) hnE).trans e1
  have HC3 := hid ((Chg.of_below HB2.out).trans hC3)
  have x4 := HS3.out.blk.cell 4
  change _ = some (Value.int .i64 S'.last) at x4
  have z := HS3.out.blk.frozen
  clear hS3 hC3 e0 e1 e2 e3 e4 e5
  go_wp2
  go_ret
  exact ⟨vv', rfl, stand_last HS3.out t, HC3.out.trans ((chg_set W3 B 4 _).mono (fun j h => .inl h))⟩
set_option maxRecDepth 100000 in
set_option maxHeartbeats 4000000 in
theorem happen_err6 (lo B bw bb n : Nat) (sv fv vv : Value) (S : St) (q t r : Int) (s v : ByteArray) (w : World) (hS : Stand w lo B bw bb sv fv vv n S) (hs : s.size ≤ maxLen) (hev : evB ⟨q, t, r, 6, s, v⟩ = true) (haw : awB S.status 6 = true) (ht : ¬ t < S.last) (a : Addr) (hM : ∀ W, Below w.heap.size w W → Calls Tryz.prog 158 #[.pointer (some ⟨B, 0, none⟩), .agg #[.int .i64 q, .int .i64 t, .int .i64 r, .int .i64 6, .string s, .string v]] W fun x w' => x = .returned (errV a) ∧ Chg (Pst B bw bb vv) W w') :
    Calls Tryz.prog 105 #[.pointer (some ⟨B, 0, none⟩), .agg #[.int .i64 q, .int .i64 t, .int .i64 r, .int .i64 6, .string s, .string v]] w fun x w' => x = .returned (errV a) ∧ Chg (Pst B bw bb vv) w w' := by
  have ht' : decide (t < S.last) = false := decide_eq_false ht
  clear ht
  have mixed : Tryz.prog.follows .mixedOrders = true := by kernel_rfl
  have hbW : Below w.heap.size w (w.alloc (.cells #[.int .i64 q, .int .i64 t, .int .i64 r, .int .i64 6, .string s, .string v] 33)) := (Below.refl _ _).alloc (Nat.le_refl _) _
  have HS := hid (hS.stay hbW)
  have HBW := hid hbW
  have hnE := hS.out (Nat.le_refl _)
  have cE := hid (implEventRight_any q t r 6 s v (w.alloc (.cells #[.int .i64 q, .int .i64 t, .int .i64 r, .int .i64 6, .string s, .string v] 33)) hs)
  rw [hev] at cE
  have E0 := hid (show (w.alloc (.cells #[.int .i64 q, .int .i64 t, .int .i64 r, .int .i64 6, .string s, .string v] 33)).cell? ⟨w.heap.size, 0, none⟩ = some (.int .i64 q) by simp [go_sem])
  have E1 := hid (show (w.alloc (.cells #[.int .i64 q, .int .i64 t, .int .i64 r, .int .i64 6, .string s, .string v] 33)).cell? ⟨w.heap.size, 1, none⟩ = some (.int .i64 t) by simp [go_sem])
  have E2 := hid (show (w.alloc (.cells #[.int .i64 q, .int .i64 t, .int .i64 r, .int .i64 6, .string s, .string v] 33)).cell? ⟨w.heap.size, 2, none⟩ = some (.int .i64 r) by simp [go_sem])
  have E3 := hid (show (w.alloc (.cells #[.int .i64 q, .int .i64 t, .int .i64 r, .int .i64 6, .string s, .string v] 33)).cell? ⟨w.heap.size, 3, none⟩ = some (.int .i64 6) by simp [go_sem])
  have E4 := hid (show (w.alloc (.cells #[.int .i64 q, .int .i64 t, .int .i64 r, .int .i64 6, .string s, .string v] 33)).cell? ⟨w.heap.size, 4, none⟩ = some (.string s) by simp [go_sem])
  have E5 := hid (show (w.alloc (.cells #[.int .i64 q, .int .i64 t, .int .i64 r, .int .i64 6, .string s, .string v] 33)).cell? ⟨w.heap.size, 5, none⟩ = some (.string v) by simp [go_sem])
  have hWs : (w.alloc (.cells #[.int .i64 q, .int .i64 t, .int .i64 r, .int .i64 6, .string s, .string v] 33)).heap.size = w.heap.size + 1 := by simp
  clear hS hbW
  go_enter Tryz.func105, Tryz.ntmps105
  go_wp2_with fail
  refine cE.out.mono ?_
  generalize (w.alloc (.cells #[.int .i64 q, .int .i64 t, .int .i64 r, .int .i64 6, .string s, .string v] 33)) = W at *
  rintro x W1 ⟨rfl, hb1⟩
  have hz1 := hb1.size
  have HS1 := hid (HS.out.stay hb1)
  have HB1 := hid (HBW.out.trans (hb1.mono HBW.out.size))
  have e0 := (hb1.cell (p := ⟨w.heap.size, 0, none⟩) (by show w.heap.size < _; omega)).trans E0.out
  have e1 := (hb1.cell (p := ⟨w.heap.size, 1, none⟩) (by show w.heap.size < _; omega)).trans E1.out
  have e2 := (hb1.cell (p := ⟨w.heap.size, 2, none⟩) (by show w.heap.size < _; omega)).trans E2.out
  have e3 := (hb1.cell (p := ⟨w.heap.size, 3, none⟩) (by show w.heap.size < _; omega)).trans E3.out
  have e4 := (hb1.cell (p := ⟨w.heap.size, 4, none⟩) (by show w.heap.size < _; omega)).trans E4.out
  have e5 := (hb1.cell (p := ⟨w.heap.size, 5, none⟩) (by show w.heap.size < _; omega)).trans E5.out
  clear hb1 HS cE HBW E0 E1 E2 E3 E4 E5
  have cA := hid (awaits_any B bw bb sv fv vv S.status S.begun S.last S.faults 6 W1 HS1.out.blk)
  rw [haw] at cA
  go_wp2_with fail
  refine cA.out.mono ?_
  rintro x Wq ⟨rfl, hq⟩
  rw [hq]
  clear hq Wq
  have x4 := HS1.out.blk.cell 4
  change _ = some (Value.int .i64 S.last) at x4
  have q1 := cell_regrown e1
  have q4 := cell_regrown x4
  go_wp2_with fail
  refine wp_region_quiet_below mixed (by kernel_rfl) ?_
  repeat (go_big_quiet_step (fail))
  refine wpQuiet_nil ?_
  intro W2 hw'
  have HR2 := hid (show Below W1.heap.size W1 W2 by obtain ⟨⟨dq, osq⟩, hw''⟩ := hw'; subst hw''; exact below_regrown W1 dq osq)
  have HS2 := hid (HS1.out.stay HR2.out)
  have HB2 := hid (HB1.out.trans (HR2.out.mono HB1.out.size))
  have hz2 := HR2.out.size
  replace e0 := (HR2.out.cell (p := ⟨w.heap.size, 0, none⟩) (by show w.heap.size < _; omega)).trans e0
  replace e1 := (HR2.out.cell (p := ⟨w.heap.size, 1, none⟩) (by show w.heap.size < _; omega)).trans e1
  replace e2 := (HR2.out.cell (p := ⟨w.heap.size, 2, none⟩) (by show w.heap.size < _; omega)).trans e2
  replace e3 := (HR2.out.cell (p := ⟨w.heap.size, 3, none⟩) (by show w.heap.size < _; omega)).trans e3
  replace e4 := (HR2.out.cell (p := ⟨w.heap.size, 4, none⟩) (by show w.heap.size < _; omega)).trans e4
  replace e5 := (HR2.out.cell (p := ⟨w.heap.size, 5, none⟩) (by show w.heap.size < _; omega)).trans e5
  clear hw' q1 q4 x4 HS1
  have cD := hid (deed_6 B W2)
  go_wp2_with fail
  refine cD.out.mono ?_
  rintro x Wq ⟨rfl, hq⟩
  rw [hq]
  clear hq Wq
  have cM := hid (hM W2 HB2.out)
  go_wp2_with fail
  refine cM.out.mono ?_
  rintro x W3 ⟨rfl, hC3⟩
  have HC3 := hid ((Chg.of_below HB2.out).trans hC3)
  clear hC3 e0 e1 e2 e3 e4 e5
  go_wp2
  go_ret
  exact ⟨rfl, HC3.out⟩
set_option maxRecDepth 100000 in
set_option maxHeartbeats 4000000 in
theorem happen_ok6 (lo B bw bb n : Nat) (sv fv vv : Value) (S : St) (q t r : Int) (s v : ByteArray) (w : World) (hS : Stand w lo B bw bb sv fv vv n S) (hs : s.size ≤ maxLen) (hev : evB ⟨q, t, r, 6, s, v⟩ = true) (haw : awB S.status 6 = true) (ht : ¬ t < S.last) (m : Nat) (S' : St) (hM : ∀ W, Below w.heap.size w W → Calls Tryz.prog 158 #[.pointer (some ⟨B, 0, none⟩), .agg #[.int .i64 q, .int .i64 t, .int .i64 r, .int .i64 6, .string s, .string v]] W fun x w' => ∃ vv', x = .returned .nilIface ∧ Stand w' lo B bw bb sv fv vv' m S' ∧ Chg (Pst B bw bb vv) W w') :
    Calls Tryz.prog 105 #[.pointer (some ⟨B, 0, none⟩), .agg #[.int .i64 q, .int .i64 t, .int .i64 r, .int .i64 6, .string s, .string v]] w fun x w' => ∃ vv', x = .returned .nilIface ∧ Stand w' lo B bw bb sv fv vv' m { S' with last := t } ∧ Chg (Pst B bw bb vv) w w' := by
  have ht' : decide (t < S.last) = false := decide_eq_false ht
  clear ht
  have mixed : Tryz.prog.follows .mixedOrders = true := by kernel_rfl
  have hbW : Below w.heap.size w (w.alloc (.cells #[.int .i64 q, .int .i64 t, .int .i64 r, .int .i64 6, .string s, .string v] 33)) := (Below.refl _ _).alloc (Nat.le_refl _) _
  have HS := hid (hS.stay hbW)
  have HBW := hid hbW
  have hnE := hS.out (Nat.le_refl _)
  have cE := hid (implEventRight_any q t r 6 s v (w.alloc (.cells #[.int .i64 q, .int .i64 t, .int .i64 r, .int .i64 6, .string s, .string v] 33)) hs)
  rw [hev] at cE
  have E0 := hid (show (w.alloc (.cells #[.int .i64 q, .int .i64 t, .int .i64 r, .int .i64 6, .string s, .string v] 33)).cell? ⟨w.heap.size, 0, none⟩ = some (.int .i64 q) by simp [go_sem])
  have E1 := hid (show (w.alloc (.cells #[.int .i64 q, .int .i64 t, .int .i64 r, .int .i64 6, .string s, .string v] 33)).cell? ⟨w.heap.size, 1, none⟩ = some (.int .i64 t) by simp [go_sem])
  have E2 := hid (show (w.alloc (.cells #[.int .i64 q, .int .i64 t, .int .i64 r, .int .i64 6, .string s, .string v] 33)).cell? ⟨w.heap.size, 2, none⟩ = some (.int .i64 r) by simp [go_sem])
  have E3 := hid (show (w.alloc (.cells #[.int .i64 q, .int .i64 t, .int .i64 r, .int .i64 6, .string s, .string v] 33)).cell? ⟨w.heap.size, 3, none⟩ = some (.int .i64 6) by simp [go_sem])
  have E4 := hid (show (w.alloc (.cells #[.int .i64 q, .int .i64 t, .int .i64 r, .int .i64 6, .string s, .string v] 33)).cell? ⟨w.heap.size, 4, none⟩ = some (.string s) by simp [go_sem])
  have E5 := hid (show (w.alloc (.cells #[.int .i64 q, .int .i64 t, .int .i64 r, .int .i64 6, .string s, .string v] 33)).cell? ⟨w.heap.size, 5, none⟩ = some (.string v) by simp [go_sem])
  have hWs : (w.alloc (.cells #[.int .i64 q, .int .i64 t, .int .i64 r, .int .i64 6, .string s, .string v] 33)).heap.size = w.heap.size + 1 := by simp
  clear hS hbW
  go_enter Tryz.func105, Tryz.ntmps105
  go_wp2_with fail
  refine cE.out.mono ?_
  generalize (w.alloc (.cells #[.int .i64 q, .int .i64 t, .int .i64 r, .int .i64 6, .string s, .string v] 33)) = W at *
  rintro x W1 ⟨rfl, hb1⟩
  have hz1 := hb1.size
  have HS1 := hid (HS.out.stay hb1)
  have HB1 := hid (HBW.out.trans (hb1.mono HBW.out.size))
  have e0 := (hb1.cell (p := ⟨w.heap.size, 0, none⟩) (by show w.heap.size < _; omega)).trans E0.out
  have e1 := (hb1.cell (p := ⟨w.heap.size, 1, none⟩) (by show w.heap.size < _; omega)).trans E1.out
  have e2 := (hb1.cell (p := ⟨w.heap.size, 2, none⟩) (by show w.heap.size < _; omega)).trans E2.out
  have e3 := (hb1.cell (p := ⟨w.heap.size, 3, none⟩) (by show w.heap.size < _; omega)).trans E3.out
  have e4 := (hb1.cell (p := ⟨w.heap.size, 4, none⟩) (by show w.heap.size < _; omega)).trans E4.out
  have e5 := (hb1.cell (p := ⟨w.heap.size, 5, none⟩) (by show w.heap.size < _; omega)).trans E5.out
  clear hb1 HS cE HBW E0 E1 E2 E3 E4 E5
  have cA := hid (awaits_any B bw bb sv fv vv S.status S.begun S.last S.faults 6 W1 HS1.out.blk)
  rw [haw] at cA
  go_wp2_with fail
  refine cA.out.mono ?_
  rintro x Wq ⟨rfl, hq⟩
  rw [hq]
  clear hq Wq
  have x4 := HS1.out.blk.cell 4
  change _ = some (Value.int .i64 S.last) at x4
  have q1 := cell_regrown e1
  have q4 := cell_regrown x4
  go_wp2_with fail
  refine wp_region_quiet_below mixed (by kernel_rfl) ?_
  repeat (go_big_quiet_step (fail))
  refine wpQuiet_nil ?_
  intro W2 hw'
  have HR2 := hid (show Below W1.heap.size W1 W2 by obtain ⟨⟨dq, osq⟩, hw''⟩ := hw'; subst hw''; exact below_regrown W1 dq osq)
  have HS2 := hid (HS1.out.stay HR2.out)
  have HB2 := hid (HB1.out.trans (HR2.out.mono HB1.out.size))
  have hz2 := HR2.out.size
  replace e0 := (HR2.out.cell (p := ⟨w.heap.size, 0, none⟩) (by show w.heap.size < _; omega)).trans e0
  replace e1 := (HR2.out.cell (p := ⟨w.heap.size, 1, none⟩) (by show w.heap.size < _; omega)).trans e1
  replace e2 := (HR2.out.cell (p := ⟨w.heap.size, 2, none⟩) (by show w.heap.size < _; omega)).trans e2
  replace e3 := (HR2.out.cell (p := ⟨w.heap.size, 3, none⟩) (by show w.heap.size < _; omega)).trans e3
  replace e4 := (HR2.out.cell (p := ⟨w.heap.size, 4, none⟩) (by show w.heap.size < _; omega)).trans e4
  replace e5 := (HR2.out.cell (p := ⟨w.heap.size, 5, none⟩) (by show w.heap.size < _; omega)).trans e5
  clear hw' q1 q4 x4 HS1
  have cD := hid (deed_6 B W2)
  go_wp2_with fail
  refine cD.out.mono ?_
  rintro x Wq ⟨rfl, hq⟩
  rw [hq]
  clear hq Wq
  have cM := hid (hM W2 HB2.out)
  go_wp2_with fail
  refine cM.out.mono ?_
  rintro x W3 ⟨vv', rfl, hS3, hC3⟩
  have HS3 := hid hS3
  have y1 := (hC3.cell (g := w.heap.size) (o := 1) (block_lt_of_cell e1) hnE).trans e1
  have HC3 := hid ((Chg.of_below HB2.out).trans hC3)
  have x4 := HS3.out.blk.cell 4
  change _ = some (Value.int .i64 S'.last) at x4
  have z := HS3.out.blk.frozen
  clear hS3 hC3 e0 e1 e2 e3 e4 e5
  go_wp2
  go_ret
  exact ⟨vv', rfl, stand_last HS3.out t, HC3.out.trans ((chg_set W3 B 4 _).mono (fun j h => .inl h))⟩
end Go.Proofs.YthggcdadipjiiaaGreatDoor
