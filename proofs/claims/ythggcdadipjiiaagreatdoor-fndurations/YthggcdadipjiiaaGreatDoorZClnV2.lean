/-
  Texts put together: ClnV, ImStd.
-/
import Derived.Test.YthggcdadipjiiaaGreatDoorZSpOut6
import Derived.Lib.SliceRun
import Derived.Test.YthggcdadipjiiaaGreatDoorZSpStA5
import Derived.Test.YthggcdadipjiiaaGreatDoorZImSet
import Derived.Test.YthggcdadipjiiaaGreatDoorZSpSet24
/-
  What slices.Clone answers at a row of pairs: a new row: a contract over the seat's program.
-/
namespace Go.Proofs.YthggcdadipjiiaaGreatDoor
open Go.RowKit Go.Sort

set_option maxRecDepth 100000 in
set_option maxHeartbeats 2000000 in
theorem cloneV_any (a5 : Option Addr) (k5 : Nat) (vs : List Pr) (w : World) (h5 : PrSl w (.slice a5 vs.length k5) vs) (n5 : vs.length ≤ 1048576) :
    Calls Tryz.prog 133 #[.slice a5 vs.length k5] w fun e w' => ∃ b c, e = .returned (.slice b vs.length c) ∧ w'.ownsRow w.heap.size 138 2 (.slice b vs.length c) vs.length (vs.flatMap Pr.cells) ∧ Below w.heap.size w w' := by
  obtain ⟨j0, hj, hj0, hj1, hj2⟩ := info_parts Tryz.infoVar
  cases a5 with
  | none =>
    have hv : vs = [] := by
      rcases h5 with ⟨_, _, _, h⟩ | ⟨_, _, _, h, _⟩
      · exact h
      · cases h
    subst hv
    have hnil := fun w => Lib.run_eql_slice_nil (P := Tryz.prog) w 89 138 none 0 k5 0 0 Tryz.underlying89
    go_enter Tryz.func133, Tryz.ntmps133
    go_wp2
    go_ret
    exact ⟨none, 0, rfl, World.ownsRow_nil _ _ _ _, Below.refl _ _⟩
  | some ad =>
    have hb0 : Below w.heap.size w (w.alloc (.cells #[] 138)) := (Below.refl _ _).alloc (Nat.le_refl _) _
    have HW := hid (own_made2 w 138)
    have HX := hid (h5.stay hb0 (Nat.le_refl _)).cellsSl
    have HB := hid hb0
    have N5 := hid n5
    clear h5 hb0 n5
    have hnil := fun w => Lib.run_eql_slice_nil (P := Tryz.prog) w 89 138 (some ad) vs.length k5 0 0 Tryz.underlying89
    go_enter Tryz.func133, Tryz.ntmps133
    go_wp2_with (first | (at_builtin; refine wpList_append_sl rfl _ _ 89 rfl w.heap.size 138 j0 _ 2 32 Tryz.underlying89 hj hj0 hj1 hj2 rfl (by decide) _ 0 [] rfl HW.out vs.length (vs.flatMap Pr.cells) _ rfl HX.out ?c2 ?c3 ?c4 ?_) | fail)
    case c2 => have := N5.out; unfold maxLen; omega
    case c3 => have := N5.out; omega
    case c4 => simp
    intro v1 w1 ho1 hg1
    obtain ⟨b, c, rfl⟩ := ownB_form ho1
    have HO := hid ho1
    have HB1 := hid (HB.out.grown hg1 (by simp) (fun j hj => (HW.out.lt j hj).1))
    clear ho1 hg1
    go_wp2
    go_ret
    exact ⟨b, c, rfl, HO.out, HB1.out⟩
end Go.Proofs.YthggcdadipjiiaaGreatDoor

/-
  impl.stand as a whole, and what impl.standOf makes: contracts over the seat's program. (Made by mkstof.py.)
-/
namespace Go.Proofs.YthggcdadipjiiaaGreatDoor
open Go.RowKit Go.Maps Go.WideMaps Go.Sort

theorem MapAt.mono {w : World} {b n m : Nat} {l : List Tx} (h : MapAt w b n l) (hm : n ≤ m) : MapAt w b m l := let ⟨D, h1, h2⟩ := h; ⟨D, h1.mono hm, h2⟩
/-- A stand: its block, its two maps, its row of vars; all above lo. -/
structure Stand (w : World) (lo B bw bb : Nat) (sv fv vv : Value) (n : Nat) (S : St) : Prop where
  blk : StB w B sv fv S.status S.begun S.last bw bb vv S.faults
  mw : MapAt w bw n (S.wait.map txt)
  mb : MapAt w bb n (S.busy.map txt)
  ov : w.ownsRow lo 138 2 vv S.vars.length (S.vars.flatMap Pr.cells)
  wb : bw ≠ bb
  lw : lo ≤ bw
  lb : lo ≤ bb
  lB : lo ≤ B
theorem Stand.stay {w w' : World} {lo B bw bb : Nat} {sv fv vv : Value} {n : Nat} {S : St} (h : Stand w lo B bw bb sv fv vv n S) (hb : Below w.heap.size w w') : Stand w' lo B bw bb sv fv vv n S := ⟨h.blk.stay hb, h.mw.stay hb, h.mb.stay hb, ownB_stay h.ov hb, h.wb, h.lw, h.lb, h.lB⟩
/-- A map's block is no row's. -/
theorem map_own_ne {w : World} {b n m base size : Nat} {l : List Tx} {e : TypeId} {v : Value} {xs : List Value} (h : MapAt w b n l) (ho : w.ownsRow base e size v m xs) : ∀ g, v.ownBlock = some g → g ≠ b := by
  intro g hg he
  subst he
  obtain ⟨D, ⟨es, clock, hb, _⟩, _⟩ := h
  rcases ho.2 with ⟨hv, _⟩ | ⟨g', cap, cur, hv, _, hh, _⟩
  · rw [hv] at hg; cases hg
  · rw [hv] at hg
    injection hg with hg
    subst hg
    rw [hb] at hh
    cases hh
set_option maxRecDepth 100000 in
set_option maxHeartbeats 4000000 in
theorem standOf_any (a1 a2 a3 a4 a5 : Option Addr) (k1 k2 k3 k4 k5 : Nat) (ss : List ByteArray) (fs : List Pr) (S : St) (w : World) (hT : StSl w a3 a4 a5 k3 k4 k5 S) (F3 : ∀ i, (h : i < S.wait.length) → S.wait[i].size ≤ maxLen) (F4 : ∀ i, (h : i < S.busy.length) → S.busy[i].size ≤ maxLen) (n3 : S.wait.length ≤ 1048576) (n4 : S.busy.length ≤ 1048576) (n5 : S.vars.length ≤ 1048576) :
    Calls Tryz.prog 104 #[defV a1 a2 k1 k2 ss fs, stV a3 a4 a5 k3 k4 k5 S] w fun x w' => ∃ B bw bb b5 c5, x = .returned (.pointer (some ⟨B, 0, none⟩)) ∧ Stand w' w.heap.size B bw bb (.slice a1 ss.length k1) (.slice a2 fs.length k2) (.slice b5 S.vars.length c5) (S.wait.length + S.busy.length) S ∧ Below w.heap.size w w' := by
  have hbW : Below w.heap.size w ((w.alloc (.cells #[.slice a1 ss.length k1, .slice a2 fs.length k2] 26)).alloc (.cells #[.int .i64 S.status, .int .i64 S.begun, .int .i64 S.last, .slice a3 S.wait.length k3, .slice a4 S.busy.length k4, .slice a5 S.vars.length k5, .int .i64 S.faults] 91)) := below2 _ _ _
  have hWs : ((w.alloc (.cells #[.slice a1 ss.length k1, .slice a2 fs.length k2] 26)).alloc (.cells #[.int .i64 S.status, .int .i64 S.begun, .int .i64 S.last, .slice a3 S.wait.length k3, .slice a4 S.busy.length k4, .slice a5 S.vars.length k5, .int .i64 S.faults] 91)).heap.size = w.heap.size + 1 + 1 := by simp
  have H3 := hid (hT.h3.stay hbW (Nat.le_refl _))
  have H4 := hid (hT.h4.stay hbW (Nat.le_refl _))
  have H5 := hid (hT.h5.stay hbW (Nat.le_refl _))
  have d0 : ((w.alloc (.cells #[.slice a1 ss.length k1, .slice a2 fs.length k2] 26)).alloc (.cells #[.int .i64 S.status, .int .i64 S.begun, .int .i64 S.last, .slice a3 S.wait.length k3, .slice a4 S.busy.length k4, .slice a5 S.vars.length k5, .int .i64 S.faults] 91)).cell? ⟨w.heap.size, 0, none⟩ = some (.slice a1 ss.length k1) := by simp [go_sem]
  have d1 : ((w.alloc (.cells #[.slice a1 ss.length k1, .slice a2 fs.length k2] 26)).alloc (.cells #[.int .i64 S.status, .int .i64 S.begun, .int .i64 S.last, .slice a3 S.wait.length k3, .slice a4 S.busy.length k4, .slice a5 S.vars.length k5, .int .i64 S.faults] 91)).cell? ⟨w.heap.size, 1, none⟩ = some (.slice a2 fs.length k2) := by simp [go_sem]
  have t0 : ((w.alloc (.cells #[.slice a1 ss.length k1, .slice a2 fs.length k2] 26)).alloc (.cells #[.int .i64 S.status, .int .i64 S.begun, .int .i64 S.last, .slice a3 S.wait.length k3, .slice a4 S.busy.length k4, .slice a5 S.vars.length k5, .int .i64 S.faults] 91)).cell? ⟨w.heap.size + 1, 0, none⟩ = some (.int .i64 S.status) := by simp [go_sem]
  have t1 : ((w.alloc (.cells #[.slice a1 ss.length k1, .slice a2 fs.length k2] 26)).alloc (.cells #[.int .i64 S.status, .int .i64 S.begun, .int .i64 S.last, .slice a3 S.wait.length k3, .slice a4 S.busy.length k4, .slice a5 S.vars.length k5, .int .i64 S.faults] 91)).cell? ⟨w.heap.size + 1, 1, none⟩ = some (.int .i64 S.begun) := by simp [go_sem]
  have t2 : ((w.alloc (.cells #[.slice a1 ss.length k1, .slice a2 fs.length k2] 26)).alloc (.cells #[.int .i64 S.status, .int .i64 S.begun, .int .i64 S.last, .slice a3 S.wait.length k3, .slice a4 S.busy.length k4, .slice a5 S.vars.length k5, .int .i64 S.faults] 91)).cell? ⟨w.heap.size + 1, 2, none⟩ = some (.int .i64 S.last) := by simp [go_sem]
  have t3 : ((w.alloc (.cells #[.slice a1 ss.length k1, .slice a2 fs.length k2] 26)).alloc (.cells #[.int .i64 S.status, .int .i64 S.begun, .int .i64 S.last, .slice a3 S.wait.length k3, .slice a4 S.busy.length k4, .slice a5 S.vars.length k5, .int .i64 S.faults] 91)).cell? ⟨w.heap.size + 1, 3, none⟩ = some (.slice a3 S.wait.length k3) := by simp [go_sem]
  have t4 : ((w.alloc (.cells #[.slice a1 ss.length k1, .slice a2 fs.length k2] 26)).alloc (.cells #[.int .i64 S.status, .int .i64 S.begun, .int .i64 S.last, .slice a3 S.wait.length k3, .slice a4 S.busy.length k4, .slice a5 S.vars.length k5, .int .i64 S.faults] 91)).cell? ⟨w.heap.size + 1, 4, none⟩ = some (.slice a4 S.busy.length k4) := by simp [go_sem]
  have t5 : ((w.alloc (.cells #[.slice a1 ss.length k1, .slice a2 fs.length k2] 26)).alloc (.cells #[.int .i64 S.status, .int .i64 S.begun, .int .i64 S.last, .slice a3 S.wait.length k3, .slice a4 S.busy.length k4, .slice a5 S.vars.length k5, .int .i64 S.faults] 91)).cell? ⟨w.heap.size + 1, 5, none⟩ = some (.slice a5 S.vars.length k5) := by simp [go_sem]
  have t6 : ((w.alloc (.cells #[.slice a1 ss.length k1, .slice a2 fs.length k2] 26)).alloc (.cells #[.int .i64 S.status, .int .i64 S.begun, .int .i64 S.last, .slice a3 S.wait.length k3, .slice a4 S.busy.length k4, .slice a5 S.vars.length k5, .int .i64 S.faults] 91)).cell? ⟨w.heap.size + 1, 6, none⟩ = some (.int .i64 S.faults) := by simp [go_sem]
  have HBW := hid hbW
  clear hT hbW
  go_enter Tryz.func104, Tryz.ntmps104
  go_wp2
  generalize ((w.alloc (.cells #[.slice a1 ss.length k1, .slice a2 fs.length k2] 26)).alloc (.cells #[.int .i64 S.status, .int .i64 S.begun, .int .i64 S.last, .slice a3 S.wait.length k3, .slice a4 S.busy.length k4, .slice a5 S.vars.length k5, .int .i64 S.faults] 91)) = W at *
  have hbd : Below W.heap.size W W.drew := (Below.refl _ _).drew
  have l0z : w.heap.size < W.heap.size := by omega
  have l1z : w.heap.size + 1 < W.heap.size := by omega
  go_region_held3 (fun w' => w'.cell? ⟨w.heap.size, 0, none⟩ = some (.slice a1 ss.length k1) ∧ w'.cell? ⟨w.heap.size, 1, none⟩ = some (.slice a2 fs.length k2) ∧ w'.cell? ⟨w.heap.size + 1, 0, none⟩ = some (.int .i64 S.status) ∧ w'.cell? ⟨w.heap.size + 1, 1, none⟩ = some (.int .i64 S.begun) ∧ w'.cell? ⟨w.heap.size + 1, 2, none⟩ = some (.int .i64 S.last) ∧ w'.cell? ⟨w.heap.size + 1, 3, none⟩ = some (.slice a3 S.wait.length k3) ∧ w'.cell? ⟨w.heap.size + 1, 4, none⟩ = some (.slice a4 S.busy.length k4) ∧ w'.cell? ⟨w.heap.size + 1, 5, none⟩ = some (.slice a5 S.vars.length k5) ∧ w'.cell? ⟨w.heap.size + 1, 6, none⟩ = some (.int .i64 S.faults)) (go_keep) (first | (go_at_call_of 132 (Value.slice a3 S.wait.length k3); refine (marksOf_any _ S.wait W.drew (H3.out.stay hbd (Nat.le_refl _)) F3 n3).mono ?_; rintro e W1 ⟨rfl, hM1, hq1⟩; have hb1 := hbd.trans (hq1.mono hbd.size); have l0a := Nat.lt_of_lt_of_le l0z hb1.size; have l1a := Nat.lt_of_lt_of_le l1z hb1.size; have ad0 := (hb1.cell (p := ⟨w.heap.size, 0, none⟩) l0z).trans d0; have ad1 := (hb1.cell (p := ⟨w.heap.size, 1, none⟩) l0z).trans d1; have at0 := (hb1.cell (p := ⟨w.heap.size + 1, 0, none⟩) l1z).trans t0; have at1 := (hb1.cell (p := ⟨w.heap.size + 1, 1, none⟩) l1z).trans t1; have at2 := (hb1.cell (p := ⟨w.heap.size + 1, 2, none⟩) l1z).trans t2; have at3 := (hb1.cell (p := ⟨w.heap.size + 1, 3, none⟩) l1z).trans t3; have at4 := (hb1.cell (p := ⟨w.heap.size + 1, 4, none⟩) l1z).trans t4; have at5 := (hb1.cell (p := ⟨w.heap.size + 1, 5, none⟩) l1z).trans t5; have at6 := (hb1.cell (p := ⟨w.heap.size + 1, 6, none⟩) l1z).trans t6) | (go_at_call_of 132 (Value.slice a4 S.busy.length k4); refine (marksOf_any _ S.busy W1 (H4.out.stay hb1 (Nat.le_refl _)) F4 n4).mono ?_; rintro e W2 ⟨rfl, hM2, hb2⟩; have l0b := Nat.lt_of_lt_of_le l0a hb2.size; have l1b := Nat.lt_of_lt_of_le l1a hb2.size; have bd0 := (hb2.cell (p := ⟨w.heap.size, 0, none⟩) l0a).trans ad0; have bd1 := (hb2.cell (p := ⟨w.heap.size, 1, none⟩) l0a).trans ad1; have bt0 := (hb2.cell (p := ⟨w.heap.size + 1, 0, none⟩) l1a).trans at0; have bt1 := (hb2.cell (p := ⟨w.heap.size + 1, 1, none⟩) l1a).trans at1; have bt2 := (hb2.cell (p := ⟨w.heap.size + 1, 2, none⟩) l1a).trans at2; have bt3 := (hb2.cell (p := ⟨w.heap.size + 1, 3, none⟩) l1a).trans at3; have bt4 := (hb2.cell (p := ⟨w.heap.size + 1, 4, none⟩) l1a).trans at4; have bt5 := (hb2.cell (p := ⟨w.heap.size + 1, 5, none⟩) l1a).trans at5; have bt6 := (hb2.cell (p := ⟨w.heap.size + 1, 6, none⟩) l1a).trans at6) | (go_at_call 133; refine (cloneV_any a5 k5 S.vars W2 ((H5.out.stay hb1 (Nat.le_refl _)).stay hb2 (Nat.le_refl _)) n5).mono ?_; rintro e W3 ⟨b5, c5, rfl, hO3, hb3⟩; have cd0 := (hb3.cell (p := ⟨w.heap.size, 0, none⟩) l0b).trans bd0; have cd1 := (hb3.cell (p := ⟨w.heap.size, 1, none⟩) l0b).trans bd1; have ct0 := (hb3.cell (p := ⟨w.heap.size + 1, 0, none⟩) l1b).trans bt0; have ct1 := (hb3.cell (p := ⟨w.heap.size + 1, 1, none⟩) l1b).trans bt1; have ct2 := (hb3.cell (p := ⟨w.heap.size + 1, 2, none⟩) l1b).trans bt2; have ct3 := (hb3.cell (p := ⟨w.heap.size + 1, 3, none⟩) l1b).trans bt3; have ct4 := (hb3.cell (p := ⟨w.heap.size + 1, 4, none⟩) l1b).trans bt4; have ct5 := (hb3.cell (p := ⟨w.heap.size + 1, 5, none⟩) l1b).trans bt5; have ct6 := (hb3.cell (p := ⟨w.heap.size + 1, 6, none⟩) l1b).trans bt6))
  have HM1 := hid hM1
  have HM2 := hid hM2
  have HO3 := hid hO3
  have HQ2 := hid hb2
  have HQ3 := hid hb3
  have HB1 := hid (HBW.out.trans (hb1.mono HBW.out.size))
  clear hM1 hM2 hO3 hq1 hb1 hb2 hb3 H3 H4 H5
  go_wp2
  go_ret
  have hbA : Below W3.heap.size W3 (W3.alloc (.cells (stL (.slice a1 ss.length k1) (.slice a2 fs.length k2) S.status S.begun S.last (w.heap.size + 1 + 1) W1.heap.size (.slice b5 S.vars.length c5) S.faults).toArray 174 (0, 0))) := (Below.refl _ _).alloc (Nat.le_refl _) _
  have z1 := HB1.out.size
  have z2 := HQ2.out.size
  have z3 := HQ3.out.size
  have hlt := HM1.out.lt
  have hWd : W.drew.heap.size = W.heap.size := rfl
  rw [hWd] at hlt
  have hM1 : MapAt W1 (w.heap.size + 1 + 1) S.wait.length (S.wait.map txt) := by have h := HM1.out; rw [hWd, hWs] at h; exact h
  have hB3 := HB1.out.trans ((HQ2.out.trans (HQ3.out.mono HQ2.out.size)).mono (B' := w.heap.size) (by omega))
  exact ⟨W3.heap.size, w.heap.size + 1 + 1, W1.heap.size, b5, c5, rfl, ⟨heap_alloc_new W3 _, ((((hM1.stay HQ2.out).stay HQ3.out).stay hbA).mono (Nat.le_add_right _ _)), (((HM2.out.stay HQ3.out).stay hbA).mono (Nat.le_add_left _ _)), ownB_le (ownB_stay HO3.out hbA) (by omega), by omega, by omega, by omega, by omega⟩, hB3.trans (hbA.mono (by omega))⟩
end Go.Proofs.YthggcdadipjiiaaGreatDoor
