/-
  Texts put together: ImEnt, ImSm.
-/
import Derived.Test.YthggcdadipjiiaaGreatDoorZSpSet24
import Derived.Test.YthggcdadipjiiaaGreatDoorZIsErr4
import Derived.Deep.RegionHeld3
/-
  What the method enter of impl.stand does: contracts over the seat's program.
-/
namespace Go.Proofs.YthggcdadipjiiaaGreatDoor
open Go.RowKit Go.Maps Go.WideMaps

set_option maxRecDepth 100000 in
set_option maxHeartbeats 2000000 in
theorem enter_no (B bw n : Nat) (wl : List Tx) (q t r k : Int) (s v : ByteArray) (a3 : Addr) (w : World) (h5 : w.cell? ⟨B, 5, none⟩ = some (.map (some bw))) (hB : B < w.heap.size) (hM : MapAt w bw n wl) (hs : s.size ≤ maxLen) (hc : wl.count (txt s) = 0)
    (hg : w.cell? ⟨3, 0, none⟩ = some (errV a3)) (hgl : 3 < w.heap.size) :
    Calls Tryz.prog 154 #[.pointer (some ⟨B, 0, none⟩), .agg #[.int .i64 q, .int .i64 t, .int .i64 r, .int .i64 k, .string s, .string v]] w fun e w' => e = .returned (errV a3) ∧ Below w.heap.size w w' := by
  have hbW : Below w.heap.size w (w.alloc (.cells #[.int .i64 q, .int .i64 t, .int .i64 r, .int .i64 k, .string s, .string v] 33)) := (Below.refl _ _).alloc (Nat.le_refl _) _
  have HM := hid hM
  have x5 := (hbW.cell (p := ⟨B, 5, none⟩) hB).trans h5
  have xg := (hbW.cell (p := ⟨3, 0, none⟩) hgl).trans hg
  have y4 : (w.alloc (.cells #[.int .i64 q, .int .i64 t, .int .i64 r, .int .i64 k, .string s, .string v] 33)).cell? ⟨w.heap.size, 4, none⟩ = some (.string s) := by simp [go_sem]
  clear hM h5 hg
  go_enter Tryz.func154, Tryz.ntmps154
  go_wp2
  generalize w.alloc (.cells #[.int .i64 q, .int .i64 t, .int .i64 r, .int .i64 k, .string s, .string v] 33) = W at *
  have hd := hbW.drew
  have cT := hid (take_no bw n wl s W.drew ((HM.out.stay hbW).kept (World.grownBy.but (a := W) (c := W.drew) ⟨rfl, rfl, rfl, Nat.le_refl _, fun _ _ _ => rfl⟩ none) (by simp)) hs hc)
  go_region_held3 (fun w' => w'.cell? ⟨B, 5, none⟩ = some (.map (some bw)) ∧ w'.cell? ⟨w.heap.size, 4, none⟩ = some (.string s)) (go_keep) (first | (go_at_call 164; refine cT.out.mono ?_; rintro e w1 ⟨rfl, rfl⟩))
  go_wp2
  go_ret
  exact ⟨rfl, hd⟩
/-- 'm[k]++' at a map that counts: the two runs, and what comes of it. -/
theorem inc_runs {w : World} {b n : Nat} {l : List Tx} {s : ByteArray} (h : MapAt w b n l) (hs : s.size ≤ maxLen) (hn : n ≤ 1048576) (hl : l.length ≤ 1048576) :
    ∃ (c : Int) (w' : World), ((Instr.lookup 170 (.map (some b)) (.string s) false).run Tryz.prog w = .ok (.int .i64 c) w ∧ (Instr.mapUpdate 170 (.map (some b)) (.string s) (.int .i64 (c + 1))).run Tryz.prog w = .ok () w') ∧ (0 ≤ c ∧ c ≤ 1048576) ∧ MapAt w' b (n + 1) (txt s :: l) ∧ w.grownBy w' (some b) := by
  obtain ⟨D, hown, hD⟩ := h
  have hkey := keyOf_string_mk Tryz.underlying9 hs
  obtain ⟨c, hrun, hat, _⟩ := hown.lookup_int Tryz.strKeyed Tryz.underlying170 Tryz.underlying2 (Tryz.zeroI64 _) hkey
  have hc := mapOf_at (t := txt s) hD hat
  have hcl := count_le (l := l) (txt s)
  obtain ⟨w', hupd, hown', hgrow⟩ := hown.update Tryz.strKeyed Tryz.underlying170 (by unfold maxLen; omega) hkey (plainElem_int Tryz.underlying2 (WalkArith.wf_i64 (n := c + 1) (by omega)))
  refine ⟨c, w', ⟨hrun, hupd⟩, by omega, ⟨_, hown', ?_⟩, hgrow⟩
  rw [show c + 1 = ((l.count (txt s) + 1 : Nat) : Int) by rw [hc]; omega]
  exact mapOf_put hD (txt s) _ (by omega) (fun u => count_cons_if u)
theorem map_ne {w : World} {b n g : Nat} {l : List Tx} {L : List Value} {T : TypeId} (h : MapAt w b n l) (hg : w.heap[g]? = some (.cells L.toArray T (0, 0))) : g ≠ b := by
  obtain ⟨D, hown, _⟩ := h
  obtain ⟨es, clock, hb, _⟩ := hown
  intro e
  rw [e, hb] at hg
  cases hg
set_option maxRecDepth 100000 in
set_option maxHeartbeats 2000000 in
theorem enter_yes (B bw bb n : Nat) (wl bl : List Tx) (q t r k : Int) (s v : ByteArray) (w : World) (h5 : w.cell? ⟨B, 5, none⟩ = some (.map (some bw))) (h6 : w.cell? ⟨B, 6, none⟩ = some (.map (some bb))) (hB : B < w.heap.size) (hBw : B ≠ bw) (hwb : bw ≠ bb) (hM : MapAt w bw n wl) (hN : MapAt w bb n bl) (hs : s.size ≤ maxLen) (hc : 0 < wl.count (txt s)) (hl : wl.length ≤ 1048576) (hl2 : bl.length ≤ 1048576) (hn : n ≤ 1048576) :
    Calls Tryz.prog 154 #[.pointer (some ⟨B, 0, none⟩), .agg #[.int .i64 q, .int .i64 t, .int .i64 r, .int .i64 k, .string s, .string v]] w fun e w' => e = .returned .nilIface ∧ MapAt w' bw (n + 1) (wl.erase (txt s)) ∧ MapAt w' bb (n + 1) (txt s :: bl) ∧ Chg (fun i => i = bw ∨ i = bb) w w' := by
  have hbW : Below w.heap.size w (w.alloc (.cells #[.int .i64 q, .int .i64 t, .int .i64 r, .int .i64 k, .string s, .string v] 33)) := (Below.refl _ _).alloc (Nat.le_refl _) _
  have x5 := (hbW.cell (p := ⟨B, 5, none⟩) hB).trans h5
  have x6 := (hbW.cell (p := ⟨B, 6, none⟩) hB).trans h6
  have y4 : (w.alloc (.cells #[.int .i64 q, .int .i64 t, .int .i64 r, .int .i64 k, .string s, .string v] 33)).cell? ⟨w.heap.size, 4, none⟩ = some (.string s) := by simp [go_sem]
  have HM := hid (hM.stay hbW)
  have HN := hid (hN.stay hbW)
  have hbl := hM.lt
  have hsz : w.heap.size < (w.alloc (.cells #[.int .i64 q, .int .i64 t, .int .i64 r, .int .i64 k, .string s, .string v] 33)).heap.size := by simp
  clear hM hN h5 h6
  go_enter Tryz.func154, Tryz.ntmps154
  go_wp2
  generalize w.alloc (.cells #[.int .i64 q, .int .i64 t, .int .i64 r, .int .i64 k, .string s, .string v] 33) = W at *
  have hdW : W.grownBy W.drew none := ⟨rfl, rfl, rfl, Nat.le_refl _, fun _ _ _ => rfl⟩
  have cT := hid (take_yes bw n wl s W.drew (HM.out.kept hdW (by simp)) hs hc hl hn)
  have hBb : B < W.heap.size := by omega
  have heb : w.heap.size ≠ bw := by omega
  go_region_held3 (fun w' => w'.cell? ⟨B, 5, none⟩ = some (.map (some bw)) ∧ w'.cell? ⟨w.heap.size, 4, none⟩ = some (.string s)) (go_keep) (first | (go_at_call 164; refine cT.out.mono ?_; rintro e w1 ⟨rfl, hM1, hg1⟩; have z5 := (World.cell?_of_block (a := ⟨B, 5, none⟩) (hg1.block B hBb (fun e => hBw (by injection e)))).trans x5; have z6 := (World.cell?_of_block (a := ⟨B, 6, none⟩) (hg1.block B hBb (fun e => hBw (by injection e)))).trans x6; have z4 := (World.cell?_of_block (a := ⟨w.heap.size, 4, none⟩) (hg1.block w.heap.size hsz (fun e => heb (by injection e)))).trans y4))
  have HN1 := hid ((HN.out.kept hdW (by simp)).kept hg1 (by simpa using fun e => hwb e.symm))
  have HM1 := hid hM1
  have HC1 := hid (((Chg.of_below (p := fun i => i = bw ∨ i = bb) hbW).trans (Chg.of_none hdW)).trans (Chg.of_grown hg1 (.inl rfl)))
  clear hM1 hg1 x5 x6 y4 z5 cT HM HN
  go_wp2
  have hd1 : w1.grownBy w1.drew none := ⟨rfl, rfl, rfl, Nat.le_refl _, fun _ _ _ => rfl⟩
  obtain ⟨c, w2, ⟨hrun, hupd⟩, ⟨hc0, hc1⟩, hN2, hg2⟩ := inc_runs (HN1.out.kept hd1 (by simp)) hs hn hl2
  have HN2 := hid hN2
  have HM2 := hid (((HM1.out.kept hd1 (by simp)).kept hg2 (by simpa using hwb)))
  have HC2 := hid ((HC1.out.trans (Chg.of_none hd1)).trans (Chg.of_grown hg2 (.inr rfl)))
  clear hN2 hg2 HN1 HM1 HC1
  go_region
  go_wp2
  go_ret
  exact ⟨rfl, HM2.out, HN2.out, HC2.out⟩
end Go.Proofs.YthggcdadipjiiaaGreatDoor

/-
  impl.stand in memory; what its methods start, fault and end do: contracts over the seat's program.
-/
namespace Go.Proofs.YthggcdadipjiiaaGreatDoor
open Go.RowKit Go.Maps Go.WideMaps Go.Sort

/-- The nine cells of a stand. -/
def stL (sv fv : Value) (st bg la : Int) (bw bb : Nat) (vv : Value) (fa : Int) : List Value := [sv, fv, .int .i64 st, .int .i64 bg, .int .i64 la, .map (some bw), .map (some bb), vv, .int .i64 fa]
/-- Block B is a stand. -/
def StB (w : World) (B : Nat) (sv fv : Value) (st bg la : Int) (bw bb : Nat) (vv : Value) (fa : Int) : Prop := w.heap[B]? = some (.cells (stL sv fv st bg la bw bb vv fa).toArray 174 (0, 0))
theorem StB.lt {w : World} {B bw bb : Nat} {sv fv vv : Value} {st bg la fa : Int} (h : StB w B sv fv st bg la bw bb vv fa) : B < w.heap.size := err_lt h
theorem StB.cell {w : World} {B bw bb : Nat} {sv fv vv : Value} {st bg la fa : Int} (h : StB w B sv fv st bg la bw bb vv fa) (o : Nat) : w.cell? ⟨B, o, none⟩ = (stL sv fv st bg la bw bb vv fa)[o]? := by rw [Lib.cell_of_heap h]; simp
theorem StB.frozen {w : World} {B bw bb : Nat} {sv fv vv : Value} {st bg la fa : Int} (h : StB w B sv fv st bg la bw bb vv fa) (o : Nat) : w.frozen? ⟨B, o, none⟩ = false := Lib.frozen_of_heap h o
theorem StB.stay {w w' : World} {B bw bb : Nat} {sv fv vv : Value} {st bg la fa : Int} (h : StB w B sv fv st bg la bw bb vv fa) (hb : Below w.heap.size w w') : StB w' B sv fv st bg la bw bb vv fa := (hb.block B h.lt).trans h
theorem StB.chg {p : Nat → Prop} {w w' : World} {B bw bb : Nat} {sv fv vv : Value} {st bg la fa : Int} (h : StB w B sv fv st bg la bw bb vv fa) (hc : Chg p w w') (hp : ¬ p B) : StB w' B sv fv st bg la bw bb vv fa := (hc.block B h.lt hp).trans h
theorem StB.ne {w : World} {B bw bb b n : Nat} {sv fv vv : Value} {st bg la fa : Int} {l : List Tx} (h : StB w B sv fv st bg la bw bb vv fa) (hm : MapAt w b n l) : B ≠ b := map_ne hm h
theorem StB.set {w : World} {B bw bb : Nat} {sv fv vv : Value} {st bg la fa : Int} (h : StB w B sv fv st bg la bw bb vv fa) (i : Nat) (x : Value) : (w.setCell ⟨B, i, none⟩ x).heap[B]? = some (.cells ((stL sv fv st bg la bw bb vv fa).set i x).toArray 174 (0, 0)) := blk_set h x
theorem chg_set (w : World) (b i : Nat) (x : Value) : Chg (fun j => j = b) w (w.setCell ⟨b, i, none⟩ x) := Chg.of_grown (grown_set w b i x) rfl
theorem map_set {w : World} {b n g i : Nat} {l : List Tx} (h : MapAt w b n l) (hg : g ≠ b) (x : Value) : MapAt (w.setCell ⟨g, i, none⟩ x) b n l := let ⟨D, h1, h2⟩ := h; ⟨D, h1.setCell (a := ⟨g, i, none⟩) (fun e => hg e.symm) x, h2⟩
/-- 'm[k]' at a map that counts. -/
theorem look_run {w : World} {b n : Nat} {l : List Tx} {s : ByteArray} (h : MapAt w b n l) (hs : s.size ≤ maxLen) : (Instr.lookup 170 (.map (some b)) (.string s) false).run Tryz.prog w = .ok (.int .i64 (l.count (txt s))) w := by
  obtain ⟨D, hown, hD⟩ := h
  obtain ⟨c, hrun, hat, _⟩ := hown.lookup_int Tryz.strKeyed Tryz.underlying170 Tryz.underlying2 (Tryz.zeroI64 _) (keyOf_string_mk Tryz.underlying9 hs)
  rw [hrun, mapOf_at (t := txt s) hD hat]
set_option maxRecDepth 100000 in
set_option maxHeartbeats 2000000 in
theorem fault_none (B bw bb : Nat) (sv fv vv : Value) (st bg la fa : Int) (q t r k : Int) (s v : ByteArray) (w : World) (hS : StB w B sv fv st bg la bw bb vv fa) (n : Nat) (bl : List Tx) (hM : MapAt w bb n bl) (hs : s.size ≤ maxLen) (hc : bl.count (txt s) = 0) (a3 : Addr) (hg : w.cell? ⟨3, 0, none⟩ = some (errV a3)) (hgl : 3 < w.heap.size) :
    Calls Tryz.prog 157 #[.pointer (some ⟨B, 0, none⟩), .agg #[.int .i64 q, .int .i64 t, .int .i64 r, .int .i64 k, .string s, .string v]] w fun e w' => e = .returned (errV a3) ∧ Below w.heap.size w w' := by
  have hbW : Below w.heap.size w (w.alloc (.cells #[.int .i64 q, .int .i64 t, .int .i64 r, .int .i64 k, .string s, .string v] 33)) := (Below.refl _ _).alloc (Nat.le_refl _) _
  have HS := hid (hS.stay hbW)
  have y4 : (w.alloc (.cells #[.int .i64 q, .int .i64 t, .int .i64 r, .int .i64 k, .string s, .string v] 33)).cell? ⟨w.heap.size, 4, none⟩ = some (.string s) := by simp [go_sem]
  have HM := hid (hM.stay hbW)
  have x6 := HS.out.cell 6
  change _ = some (Value.map (some bb)) at x6
  have xg := (hbW.cell (p := ⟨3, 0, none⟩) hgl).trans hg
  clear hM hS hg
  go_enter Tryz.func157, Tryz.ntmps157
  go_wp2
  generalize w.alloc (.cells #[.int .i64 q, .int .i64 t, .int .i64 r, .int .i64 k, .string s, .string v] 33) = W at *
  have hdW : W.grownBy W.drew none := ⟨rfl, rfl, rfl, Nat.le_refl _, fun _ _ _ => rfl⟩
  have hrun := look_run (HM.out.kept hdW (by simp)) hs
  rw [hc] at hrun
  have hd := hid hbW.drew
  go_region
  go_wp2
  go_ret
  exact ⟨rfl, hd.out⟩
set_option maxRecDepth 100000 in
set_option maxHeartbeats 2000000 in
theorem fault_full (B bw bb : Nat) (sv fv vv : Value) (st bg la fa : Int) (q t r k : Int) (s v : ByteArray) (w : World) (hS : StB w B sv fv st bg la bw bb vv fa) (n : Nat) (bl : List Tx) (hM : MapAt w bb n bl) (hs : s.size ≤ maxLen) (hc : 0 < bl.count (txt s)) (hf : fa = 1000000) (a4 : Addr) (hg : w.cell? ⟨4, 0, none⟩ = some (errV a4)) (hgl : 4 < w.heap.size) :
    Calls Tryz.prog 157 #[.pointer (some ⟨B, 0, none⟩), .agg #[.int .i64 q, .int .i64 t, .int .i64 r, .int .i64 k, .string s, .string v]] w fun e w' => e = .returned (errV a4) ∧ Below w.heap.size w w' := by
  subst hf
  have hbW : Below w.heap.size w (w.alloc (.cells #[.int .i64 q, .int .i64 t, .int .i64 r, .int .i64 k, .string s, .string v] 33)) := (Below.refl _ _).alloc (Nat.le_refl _) _
  have HS := hid (hS.stay hbW)
  have y4 : (w.alloc (.cells #[.int .i64 q, .int .i64 t, .int .i64 r, .int .i64 k, .string s, .string v] 33)).cell? ⟨w.heap.size, 4, none⟩ = some (.string s) := by simp [go_sem]
  have HM := hid (hM.stay hbW)
  have x6 := HS.out.cell 6
  change _ = some (Value.map (some bb)) at x6
  have xg := (hbW.cell (p := ⟨4, 0, none⟩) hgl).trans hg
  have x8 := HS.out.cell 8
  change _ = some (Value.int .i64 1000000) at x8
  clear hM hS hg
  go_enter Tryz.func157, Tryz.ntmps157
  go_wp2
  generalize w.alloc (.cells #[.int .i64 q, .int .i64 t, .int .i64 r, .int .i64 k, .string s, .string v] 33) = W at *
  have hdW : W.grownBy W.drew none := ⟨rfl, rfl, rfl, Nat.le_refl _, fun _ _ _ => rfl⟩
  have hrun := look_run (HM.out.kept hdW (by simp)) hs
  have hne : (((bl.count (txt s) : Nat) : Int) == 0) = false := by simp; omega
  generalize ((bl.count (txt s) : Nat) : Int) = c at *
  have hd := hid hbW.drew
  go_region
  go_wp2
  go_ret
  exact ⟨rfl, hd.out⟩
set_option maxRecDepth 100000 in
set_option maxHeartbeats 2000000 in
theorem fault_yes (B bw bb : Nat) (sv fv vv : Value) (st bg la fa : Int) (q t r k : Int) (s v : ByteArray) (w : World) (hS : StB w B sv fv st bg la bw bb vv fa) (n : Nat) (bl : List Tx) (hM : MapAt w bb n bl) (hs : s.size ≤ maxLen) (hc : 0 < bl.count (txt s)) (hf0 : 0 ≤ fa) (hf : fa < 1000000) :
    Calls Tryz.prog 157 #[.pointer (some ⟨B, 0, none⟩), .agg #[.int .i64 q, .int .i64 t, .int .i64 r, .int .i64 k, .string s, .string v]] w fun e w' => e = .returned .nilIface ∧ StB w' B sv fv st bg la bw bb vv (fa + 1) ∧ Chg (fun j => j = B) w w' := by
  have hbW : Below w.heap.size w (w.alloc (.cells #[.int .i64 q, .int .i64 t, .int .i64 r, .int .i64 k, .string s, .string v] 33)) := (Below.refl _ _).alloc (Nat.le_refl _) _
  have HS := hid (hS.stay hbW)
  have y4 : (w.alloc (.cells #[.int .i64 q, .int .i64 t, .int .i64 r, .int .i64 k, .string s, .string v] 33)).cell? ⟨w.heap.size, 4, none⟩ = some (.string s) := by simp [go_sem]
  have HM := hid (hM.stay hbW)
  have x6 := HS.out.cell 6
  change _ = some (Value.map (some bb)) at x6
  have x8 := HS.out.cell 8
  change _ = some (Value.int .i64 fa) at x8
  have f8 := HS.out.frozen 8
  clear hM hS
  go_enter Tryz.func157, Tryz.ntmps157
  go_wp2
  generalize w.alloc (.cells #[.int .i64 q, .int .i64 t, .int .i64 r, .int .i64 k, .string s, .string v] 33) = W at *
  have hdW : W.grownBy W.drew none := ⟨rfl, rfl, rfl, Nat.le_refl _, fun _ _ _ => rfl⟩
  have hrun := look_run (HM.out.kept hdW (by simp)) hs
  have hne : (((bl.count (txt s) : Nat) : Int) == 0) = false := by simp; omega
  have hfe : (fa == 1000000) = false := by simp; omega
  generalize ((bl.count (txt s) : Nat) : Int) = c at *
  have HC := hid ((Chg.of_below (p := fun j => j = B) hbW).trans (Chg.of_none hdW))
  have HSd := hid (show StB W.drew B sv fv st bg la bw bb vv fa from HS.out)
  go_region
  go_wp2
  go_ret
  exact ⟨rfl, HSd.out.set 8 _, HC.out.trans (chg_set _ _ _ _)⟩
set_option maxRecDepth 100000 in
set_option maxHeartbeats 2000000 in
theorem end_no (B bw bb : Nat) (sv fv vv : Value) (st bg la fa : Int) (q t r k : Int) (s v : ByteArray) (w : World) (hS : StB w B sv fv st bg la bw bb vv fa) (n : Nat) (wl bl : List Tx) (hM : MapAt w bw n wl) (hN : MapAt w bb n bl) (hl : wl.length ≤ 1048576) (hl2 : bl.length ≤ 1048576) (hwb : bw ≠ bb) (hc : 0 < wl.length + bl.length) (a1 : Addr) (hg : w.cell? ⟨1, 0, none⟩ = some (errV a1)) (hgl : 1 < w.heap.size) :
    Calls Tryz.prog 158 #[.pointer (some ⟨B, 0, none⟩), .agg #[.int .i64 q, .int .i64 t, .int .i64 r, .int .i64 k, .string s, .string v]] w fun e w' => e = .returned (errV a1) ∧ Below w.heap.size w w' := by
  have mixed : Tryz.prog.follows .mixedOrders = true := by kernel_rfl
  have hbW : Below w.heap.size w (w.alloc (.cells #[.int .i64 q, .int .i64 t, .int .i64 r, .int .i64 k, .string s, .string v] 33)) := (Below.refl _ _).alloc (Nat.le_refl _) _
  have HS := hid (hS.stay hbW)
  have HM := hid (hM.stay hbW)
  have HN := hid (hN.stay hbW)
  have x5 := HS.out.cell 5
  have x6 := HS.out.cell 6
  change _ = some (Value.map (some bw)) at x5
  change _ = some (Value.map (some bb)) at x6
  have xg := (hbW.cell (p := ⟨1, 0, none⟩) hgl).trans hg
  have hsz : w.heap.size < (w.alloc (.cells #[.int .i64 q, .int .i64 t, .int .i64 r, .int .i64 k, .string s, .string v] 33)).heap.size := by simp
  clear hM hN hS hg
  obtain ⟨f, hf1, hf2⟩ : ∃ f : Nat → Nat, f bw = wl.length ∧ f bb = bl.length := ⟨fun b => if b = bw then wl.length else bl.length, by simp, if_neg (fun e => hwb e.symm)⟩
  have F1 := hid hf1
  have F2 := hid hf2
  have hgt : decide ((0 : Int) < (f bw : Int) + (f bb : Int)) = true := decide_eq_true (by omega)
  have hfb : f bw ≤ 1048576 ∧ f bb ≤ 1048576 := by omega
  obtain ⟨hfb1, hfb2⟩ := hfb
  clear hf1 hf2
  go_enter Tryz.func158, Tryz.ntmps158
  go_wp2
  generalize w.alloc (.cells #[.int .i64 q, .int .i64 t, .int .i64 r, .int .i64 k, .string s, .string v] 33) = W at *
  have dA : ∀ b, (b = bw ∨ b = bb) → ∀ d os, Calls Tryz.prog 165 #[.map (some b)] (grow (redrawn W d) os) fun e w' => e = .returned (.int .i64 (f b)) ∧ _ := fun b hb d os => Calls.regrown_of (w := W) (d := d) (os := os) (by
    rcases hb with rfl | rfl
    · rw [F1.out]; exact many_any _ n wl _ (HM.out.stay (below_regrown W d os)) hl
    · rw [F2.out]; exact many_any _ n bl _ (HN.out.stay (below_regrown W d os)) hl2)
  have x5' := cell_regrown x5
  have x6' := cell_regrown x6
  clear x5 x6
  refine wp_region_quiet_below mixed (by kernel_rfl) ?_
  repeat (go_big_quiet_step ((go_at_call 165; exact dA _ (by first | exact .inl rfl | exact .inr rfl) _ _)))
  refine wpQuiet_nil ?_
  intro _ hw'
  obtain ⟨⟨dq, osq⟩, hw''⟩ := hw'
  subst hw''
  have xg2 := ((below_regrown W dq osq).cell (p := ⟨1, 0, none⟩) (by show 1 < _; omega)).trans xg
  have hd := hid (hbW.trans ((below_regrown W dq osq).mono hbW.size))
  clear dA x5' x6' xg
  go_wp2
  go_ret
  exact ⟨rfl, hd.out⟩
set_option maxRecDepth 100000 in
set_option maxHeartbeats 2000000 in
theorem end_yes (B bw bb : Nat) (sv fv vv : Value) (st bg la fa : Int) (q t r k : Int) (s v : ByteArray) (w : World) (hS : StB w B sv fv st bg la bw bb vv fa) (n : Nat) (wl bl : List Tx) (hM : MapAt w bw n wl) (hN : MapAt w bb n bl) (hl : wl.length ≤ 1048576) (hl2 : bl.length ≤ 1048576) (hwb : bw ≠ bb) (hc : wl.length + bl.length = 0) :
    Calls Tryz.prog 158 #[.pointer (some ⟨B, 0, none⟩), .agg #[.int .i64 q, .int .i64 t, .int .i64 r, .int .i64 k, .string s, .string v]] w fun e w' => e = .returned .nilIface ∧ StB w' B sv fv 2 bg la bw bb vv fa ∧ Chg (fun j => j = B) w w' := by
  have mixed : Tryz.prog.follows .mixedOrders = true := by kernel_rfl
  have hbW : Below w.heap.size w (w.alloc (.cells #[.int .i64 q, .int .i64 t, .int .i64 r, .int .i64 k, .string s, .string v] 33)) := (Below.refl _ _).alloc (Nat.le_refl _) _
  have HS := hid (hS.stay hbW)
  have HM := hid (hM.stay hbW)
  have HN := hid (hN.stay hbW)
  have x5 := HS.out.cell 5
  have x6 := HS.out.cell 6
  change _ = some (Value.map (some bw)) at x5
  change _ = some (Value.map (some bb)) at x6
  clear hM hN hS
  obtain ⟨f, hf1, hf2⟩ : ∃ f : Nat → Nat, f bw = wl.length ∧ f bb = bl.length := ⟨fun b => if b = bw then wl.length else bl.length, by simp, if_neg (fun e => hwb e.symm)⟩
  have F1 := hid hf1
  have F2 := hid hf2
  have hgt : decide ((0 : Int) < (f bw : Int) + (f bb : Int)) = false := decide_eq_false (by omega)
  have hfb : f bw ≤ 1048576 ∧ f bb ≤ 1048576 := by omega
  obtain ⟨hfb1, hfb2⟩ := hfb
  clear hf1 hf2
  go_enter Tryz.func158, Tryz.ntmps158
  go_wp2
  generalize w.alloc (.cells #[.int .i64 q, .int .i64 t, .int .i64 r, .int .i64 k, .string s, .string v] 33) = W at *
  have dA : ∀ b, (b = bw ∨ b = bb) → ∀ d os, Calls Tryz.prog 165 #[.map (some b)] (grow (redrawn W d) os) fun e w' => e = .returned (.int .i64 (f b)) ∧ _ := fun b hb d os => Calls.regrown_of (w := W) (d := d) (os := os) (by
    rcases hb with rfl | rfl
    · rw [F1.out]; exact many_any _ n wl _ (HM.out.stay (below_regrown W d os)) hl
    · rw [F2.out]; exact many_any _ n bl _ (HN.out.stay (below_regrown W d os)) hl2)
  have x5' := cell_regrown x5
  have x6' := cell_regrown x6
  clear x5 x6
  refine wp_region_quiet_below mixed (by kernel_rfl) ?_
  repeat (go_big_quiet_step ((go_at_call 165; exact dA _ (by first | exact .inl rfl | exact .inr rfl) _ _)))
  refine wpQuiet_nil ?_
  intro _ hw'
  obtain ⟨⟨dq, osq⟩, hw''⟩ := hw'
  subst hw''
  have HSr := hid (HS.out.stay (below_regrown W dq osq))
  have x2 := HSr.out.cell 2
  change _ = some (Value.int .i64 st) at x2
  have f2 := HSr.out.frozen 2
  have HC := hid ((Chg.of_below (p := fun j => j = B) hbW).trans (Chg.of_below (below_regrown W dq osq)))
  clear dA x5' x6'
  go_wp2
  go_ret
  exact ⟨rfl, HSr.out.set 2 _, HC.out.trans (chg_set _ _ _ _)⟩
end Go.Proofs.YthggcdadipjiiaaGreatDoor
