/-
  Texts put together: VaEq, SaEq, StOut, LawC, MkE.
-/
import Derived.Test.YtadidjhcgmeadaaGreatDoorZAgg6
import Derived.Test.YtadidjhcgmeadaaGreatDoorZSpPut5
import Derived.Lib.QuietBelow
import Derived.Test.YtadidjhcgmeadaaGreatDoorZDfMath4
import Derived.Test.YtadidjhcgmeadaaGreatDoorZMark3
import Derived.Test.YtadidjhcgmeadaaGreatDoorZEvI4
import Derived.Test.YtadidjhcgmeadaaGreatDoorZFlLaw5
import Derived.Test.YtadidjhcgmeadaaGreatDoorZEvTo2
/-
  What laws.eqVar and eqVarS answer: contracts over the seat's program.
-/
namespace Go.Proofs.YtadidjhcgmeadaaGreatDoor
open Go.RowKit Go.Sort

theorem eqVar_same (s v : ByteArray) (w : World) :
    Calls Tryz.prog 120 #[.agg #[.string s, .string v], .agg #[.string s, .string v]] w fun e w' => e = .returned (.bool true) ∧ Below w.heap.size w w' := by
  go_enter Tryz.func120, Tryz.ntmps120
  go_wp2
  go_ret
  exact ⟨rfl, ((Below.refl _ _).alloc (Nat.le_refl _) _).alloc (by simp) _⟩

set_option maxHeartbeats 4000000 in
set_option maxRecDepth 1000000 in
theorem eqVarS_row (g1 o1 c1 g2 o2 c2 : Nat) (es : List Pr) (w : World) (hE1 : PrsAt w g1 o1 es) (hE2 : PrsAt w g2 o2 es) (hn : es.length ≤ maxLen) :
    Calls Tryz.prog 94 #[.slice (some ⟨g1, o1, none⟩) es.length c1, .slice (some ⟨g2, o2, none⟩) es.length c2] w fun e w' => e = .returned (.bool true) ∧ Below w.heap.size w w' := by
  unfold maxLen at hn
  have mixed : Tryz.prog.follows .mixedOrders = true := by kernel_rfl
  have HE1 := hid hE1
  have HE2 := hid hE2
  clear hE1 hE2
  go_enter Tryz.func94, Tryz.ntmps94
  go_wp2
  go_loopw [5] (fun i wr => ∃ k : Nat, k ≤ es.length ∧ i = .int .i64 k ∧ Below w.heap.size w wr) (fun i _ => es.length - (intOf i).toNat)
  case atStart => exact ⟨0, Nat.zero_le _, rfl, Below.refl _ _⟩
  case round =>
    obtain ⟨k, hk, rfl, hbel⟩ := hrel
    by_cases hlt : k < es.length
    · obtain ⟨a0, a1⟩ := (HE1.out.stay hbel (Nat.le_refl _)).2 k hlt
      obtain ⟨b0, b1⟩ := (HE2.out.stay hbel (Nat.le_refl _)).2 k hlt
      generalize es[k].fst = q4 at *
      generalize es[k].snd = q5 at *
      have k0 := cell_regrown a0
      have k1 := cell_regrown a1
      have l0 := cell_regrown b0
      have l1 := cell_regrown b1
      have d1 := fun d os => Calls.regrown_of (w := wr) (d := d) (os := os) (eqVar_same q4 q5 _)
      clear a0 a1 b0 b1
      go_wp2
      refine wp_region_quiet_below mixed (by kernel_rfl) ?_
      repeat (quiet_step (first | (go_at_call 120; exact d1 _ _)))
      refine wpQuiet_nil ?_
      intro _ hw'
      obtain ⟨⟨dq, osq⟩, hw''⟩ := hw'
      subst hw''
      have hbX := hbel.trans ((below_regrown wr dq osq).mono hbel.size)
      clear k0 k1 l0 l1 d1
      go_wp2
      go_roundw
      case rel => exact ⟨k + 1, by omega, by go_num, hbX⟩
      case measure => simp [intOf]; omega
    · go_wp2
      go_ret
      exact ⟨rfl, hbel⟩
theorem eqVarS_none (a1 a2 : Option Addr) (c1 c2 : Nat) (w : World) :
    Calls Tryz.prog 94 #[.slice a1 0 c1, .slice a2 0 c2] w fun e w' => e = .returned (.bool true) ∧ Below w.heap.size w w' := by
  go_enter Tryz.func94, Tryz.ntmps94
  go_wp2
  go_loop [5] (fun i => i = .int .i64 0) (fun _ => 0)
  case atStart => exact rfl
  case round =>
    subst hrel
    go_wp2
    go_ret
    exact ⟨rfl, Below.refl _ _⟩
theorem eqVarS_any (v1 v2 : Value) (es : List Pr) (w : World) (h1 : PrSl w v1 es) (h2 : PrSl w v2 es) (hn : es.length ≤ maxLen) :
    Calls Tryz.prog 94 #[v1, v2] w fun e w' => e = .returned (.bool true) ∧ Below w.heap.size w w' := by
  rcases h1 with ⟨a, c, rfl, rfl⟩ | ⟨g, o, c, rfl, hp, h⟩
  · rcases h2 with ⟨a', c', rfl, _⟩ | ⟨g', o', c', rfl, hp', h'⟩
    · exact eqVarS_none a a' c c' w
    · simp at hp'
  · rcases h2 with ⟨a', c', rfl, h0⟩ | ⟨g', o', c', rfl, hp', h'⟩
    · rw [h0] at hp; simp at hp
    · exact eqVarS_row g o c g' o' c' es w h h' hn
end Go.Proofs.YtadidjhcgmeadaaGreatDoor

/-
  What laws.eqState answers: a contract over the seat's program. (Cut off SaLaw.)
-/
namespace Go.Proofs.YtadidjhcgmeadaaGreatDoor
open Go.RowKit Go.Sort

set_option maxRecDepth 100000 in
set_option maxHeartbeats 2000000 in
theorem eqState_same (a3 a4 a5 b3 b4 b5 : Option Addr) (k3 k4 k5 c3 c4 c5 : Nat) (st bg la fa : Int) (wt bs : List ByteArray) (vs : List Pr) (w : World) (h3 : StrSl w (.slice a3 wt.length k3) wt) (h4 : StrSl w (.slice a4 bs.length k4) bs) (h5 : PrSl w (.slice a5 vs.length k5) vs) (g3 : StrSl w (.slice b3 wt.length c3) wt) (g4 : StrSl w (.slice b4 bs.length c4) bs) (g5 : PrSl w (.slice b5 vs.length c5) vs) (n3 : wt.length ≤ maxLen) (n4 : bs.length ≤ maxLen) (n5 : vs.length ≤ maxLen) :
    Calls Tryz.prog 58 #[.agg #[.int .i64 st, .int .i64 bg, .int .i64 la, .slice a3 wt.length k3, .slice a4 bs.length k4, .slice a5 vs.length k5, .int .i64 fa], .agg #[.int .i64 st, .int .i64 bg, .int .i64 la, .slice b3 wt.length c3, .slice b4 bs.length c4, .slice b5 vs.length c5, .int .i64 fa]] w fun e w' => e = .returned (.bool true) ∧ Below w.heap.size w w' := by
  have hb3 := below2 w (.cells #[.int .i64 st, .int .i64 bg, .int .i64 la, .slice a3 wt.length k3, .slice a4 bs.length k4, .slice a5 vs.length k5, .int .i64 fa] 41) (.cells #[.int .i64 st, .int .i64 bg, .int .i64 la, .slice b3 wt.length c3, .slice b4 bs.length c4, .slice b5 vs.length c5, .int .i64 fa] 41)
  have c1 := eqStringS_any _ _ wt _ (h3.stay hb3 (Nat.le_refl _)) (g3.stay hb3 (Nat.le_refl _)) n3
  have HB := hid hb3
  have H4 := hid h4
  have H5 := hid h5
  have J4 := hid g4
  have J5 := hid g5
  have N4 := hid n4
  have N5 := hid n5
  clear h3 h4 h5 g3 g4 g5 n3 n4 n5 hb3
  go_enter Tryz.func58, Tryz.ntmps58
  go_wp2_with fail
  refine c1.mono ?_
  rintro e w1 ⟨rfl, hb1⟩
  have y4 := (hb1.cell (p := ⟨w.heap.size, 4, none⟩) (by simp; omega)).trans (by simp [go_sem] : _ = some (.slice a4 bs.length k4))
  have y5 := (hb1.cell (p := ⟨w.heap.size, 5, none⟩) (by simp; omega)).trans (by simp [go_sem] : _ = some (.slice a5 vs.length k5))
  have y6 := (hb1.cell (p := ⟨w.heap.size, 6, none⟩) (by simp; omega)).trans (by simp [go_sem] : _ = some (.int .i64 fa))
  have x4 := (hb1.cell (p := ⟨w.heap.size + 1, 4, none⟩) (by simp)).trans (by simp [go_sem] : _ = some (.slice b4 bs.length c4))
  have x5 := (hb1.cell (p := ⟨w.heap.size + 1, 5, none⟩) (by simp)).trans (by simp [go_sem] : _ = some (.slice b5 vs.length c5))
  have x6 := (hb1.cell (p := ⟨w.heap.size + 1, 6, none⟩) (by simp)).trans (by simp [go_sem] : _ = some (.int .i64 fa))
  have hz1 : w.heap.size + 1 < w1.heap.size := by have := hb1.size; simp at this; omega
  have hz0 : w.heap.size < w1.heap.size := by omega
  have HB1 := hid (HB.out.trans (hb1.mono (by simp; omega)))
  clear hb1 c1
  go_wp2_with fail
  refine (eqStringS_any _ _ bs _ (H4.out.stay HB1.out (Nat.le_refl _)) (J4.out.stay HB1.out (Nat.le_refl _)) N4.out).mono ?_
  rintro e w2 ⟨rfl, hb2⟩
  have u5 := (hb2.cell (p := ⟨w.heap.size, 5, none⟩) hz0).trans y5
  have u6 := (hb2.cell (p := ⟨w.heap.size, 6, none⟩) hz0).trans y6
  have v5 := (hb2.cell (p := ⟨w.heap.size + 1, 5, none⟩) hz1).trans x5
  have v6 := (hb2.cell (p := ⟨w.heap.size + 1, 6, none⟩) hz1).trans x6
  have hz2 := hb2.size
  have HB2 := hid (HB1.out.trans (hb2.mono HB1.out.size))
  clear hb2 y4 y5 y6 x4 x5 x6
  go_wp2_with fail
  refine (eqVarS_any _ _ vs _ (H5.out.stay HB2.out (Nat.le_refl _)) (J5.out.stay HB2.out (Nat.le_refl _)) N5.out).mono ?_
  rintro e w3 ⟨rfl, hb3⟩
  have y6 := (hb3.cell (p := ⟨w.heap.size, 6, none⟩) (by show w.heap.size < _; omega)).trans u6
  have x6 := (hb3.cell (p := ⟨w.heap.size + 1, 6, none⟩) (by show w.heap.size + 1 < _; omega)).trans v6
  have HB3 := hid (HB2.out.trans (hb3.mono HB2.out.size))
  clear hb3 u5 u6 v5 v6 hz0 hz1 hz2
  go_wp2
  go_ret
  exact ⟨rfl, HB3.out⟩
end Go.Proofs.YtadidjhcgmeadaaGreatDoor

/-
  What laws.eqStateOut, markDef, markState, markStateOut, heldState and heldStateOut do: contracts over the seat's program.
-/
namespace Go.Proofs.YtadidjhcgmeadaaGreatDoor
open Go.RowKit Go.Sort

theorem Chg.of_row {p : Nat → Prop} {w w' : World} {r : Option Nat} (h : w.grownBy w' r) (hp : ∀ j, r = some j → p j) : Chg p w w' := ⟨h.os, h.tape, h.output, h.size, fun k hk hq => h.block k hk (fun e => hq (hp k e.symm))⟩
set_option maxRecDepth 100000 in
set_option maxHeartbeats 2000000 in
theorem eqStateOut_same (lo lo' : Nat) (c : Int) (S : St) (u3 u4 u5 v3 v4 v5 : Value) (w : World) (hO : StOwn w lo u3 u4 u5 S) (hO' : StOwn w lo' v3 v4 v5 S) (n3 : S.wait.length ≤ maxLen) (n4 : S.busy.length ≤ maxLen) (n5 : S.vars.length ≤ maxLen) :
    Calls Tryz.prog 18 #[outV c S u3 u4 u5, outV c S v3 v4 v5] w fun e w' => e = .returned (.bool true) ∧ Below w.heap.size w w' := by
  obtain ⟨a3, a4, a5, k3, k4, k5, rfl, rfl, rfl⟩ := hO.forms
  obtain ⟨b3, b4, b5, c3, c4, c5, rfl, rfl, rfl⟩ := hO'.forms
  have hb := below2 w (.cells #[.int .i64 S.status, .int .i64 S.begun, .int .i64 S.last, .slice a3 S.wait.length k3, .slice a4 S.busy.length k4, .slice a5 S.vars.length k5, .int .i64 S.faults, .int .i64 c] 43) (.cells #[.int .i64 S.status, .int .i64 S.begun, .int .i64 S.last, .slice b3 S.wait.length c3, .slice b4 S.busy.length c4, .slice b5 S.vars.length c5, .int .i64 S.faults, .int .i64 c] 43)
  have h1 := hO.stay hb
  have h2 := hO'.stay hb
  have cE := hid (eqState_same a3 a4 a5 b3 b4 b5 k3 k4 k5 c3 c4 c5 S.status S.begun S.last S.faults S.wait S.busy S.vars _ (str_of_own h1.o3) (str_of_own h1.o4) (pr_of_own h1.o5) (str_of_own h2.o3) (str_of_own h2.o4) (pr_of_own h2.o5) n3 n4 n5)
  have HB := hid hb
  clear h1 h2 hO hO' hb
  unfold outV
  go_enter Tryz.func18, Tryz.ntmps18
  go_wp2_with fail
  refine cE.out.mono ?_
  rintro e W1 ⟨rfl, hb1⟩
  have x7 := (hb1.cell (p := ⟨w.heap.size, 7, none⟩) (by simp; omega)).trans (by simp [go_sem] : _ = some (.int .i64 c))
  have y7 := (hb1.cell (p := ⟨w.heap.size + 1, 7, none⟩) (by simp)).trans (by simp [go_sem] : _ = some (.int .i64 c))
  have HB1 := hid (HB.out.trans (hb1.mono HB.out.size))
  clear hb1 cE
  go_wp2
  go_ret
  exact ⟨rfl, HB1.out⟩
set_option maxRecDepth 100000 in
set_option maxHeartbeats 2000000 in
theorem markDef_own (lo n1 n2 : Nat) (K : Int) (u1 u2 : Value) (xs ys : List Value) (w : World) (o1 : w.ownsRow lo 9 1 u1 n1 xs) (o2 : w.ownsRow lo 114 2 u2 n2 ys) (hK : 0 < K) (hn : K + (n1 : Int) + 2 * (n2 : Int) ≤ 1000000000) :
    Calls Tryz.prog 19 #[.agg #[u1, u2], .int .i64 K] w fun e w' => e = .returned (.int .i64 (K + (n1 : Int) + 2 * (n2 : Int))) ∧ Chg (fun j => u1.ownBlock = some j ∨ u2.ownBlock = some j) w w' := by
  obtain ⟨a1, k1, rfl⟩ := ownB_form o1
  obtain ⟨a2, k2, rfl⟩ := ownB_form o2
  have hb : Below w.heap.size w (w.alloc (.cells #[.slice a1 n1 k1, .slice a2 n2 k2] 32)) := (Below.refl _ _).alloc (Nat.le_refl _) _
  have H1 := hid o1
  have O2 := hid (ownB_stay o2 hb)
  have hne : ¬ (Value.slice a1 n1 k1).ownBlock = some w.heap.size := fun e => by have := (o1.lt _ e).2; omega
  have HA := hid (apart_ty o1 o2 (by decide))
  have cM := hid (markStringS_own _ n1 lo K xs _ (ownB_stay o1 hb) hK (by omega))
  have d1 : (w.alloc (.cells #[.slice a1 n1 k1, .slice a2 n2 k2] 32)).cell? ⟨w.heap.size, 1, none⟩ = some (.slice a2 n2 k2) := by simp [go_sem]
  have D1 := hid d1
  have HB := hid hb
  clear o1 o2 hb d1
  go_enter Tryz.func19, Tryz.ntmps19
  go_wp2_with fail
  refine cM.out.mono ?_
  generalize w.alloc (.cells #[.slice a1 n1 k1, .slice a2 n2 k2] 32) = W at *
  rintro e W1 ⟨rfl, _, hg1⟩
  have hC1 : Chg (fun j => (Value.slice a1 n1 k1).ownBlock = some j) W W1 := Chg.of_row hg1 (fun j h => h)
  have d1 := (hC1.cell (g := w.heap.size) (o := 1) (block_lt_of_cell D1.out) hne).trans D1.out
  have cN := hid (markFlowS_own _ n2 lo (K + (n1 : Int)) ys W1 (own_chg O2.out hC1 (fun g hg he => HA.out g he hg)) (by omega) (by omega))
  have HC1 := hid hC1
  clear hC1 hg1 cM
  go_wp2_with fail
  refine cN.out.mono ?_
  rintro e W2 ⟨rfl, _, hg2⟩
  have HC2 := hid (Chg.of_row (p := fun j => (Value.slice a2 n2 k2).ownBlock = some j) hg2 (fun j h => h))
  clear hg2 cN d1
  go_wp2
  go_ret
  exact ⟨rfl, ((Chg.of_below HB.out).trans (HC1.out.mono (fun j h => .inl h))).trans (HC2.out.mono (fun j h => .inr h))⟩
/-- The blocks of three rows. -/
def P3 (u3 u4 u5 : Value) (j : Nat) : Prop := u3.ownBlock = some j ∨ u4.ownBlock = some j ∨ u5.ownBlock = some j
/-- Marked rows. -/
structure Mkd (w : World) (lo n3 n4 n5 : Nat) (K : Int) (u3 u4 u5 : Value) : Prop where
  o3 : w.ownsRow lo 9 1 u3 n3 ((mkS K n3).map Value.string)
  o4 : w.ownsRow lo 9 1 u4 n4 ((mkS (K + (n3 : Int)) n4).map Value.string)
  o5 : w.ownsRow lo 155 2 u5 n5 ((mkP (K + (n3 : Int) + (n4 : Int)) n5).flatMap Pr.cells)
theorem Mkd.stay {w w' : World} {lo n3 n4 n5 : Nat} {K : Int} {u3 u4 u5 : Value} (h : Mkd w lo n3 n4 n5 K u3 u4 u5) (hb : Below w.heap.size w w') : Mkd w' lo n3 n4 n5 K u3 u4 u5 := ⟨ownB_stay h.o3 hb, ownB_stay h.o4 hb, ownB_stay h.o5 hb⟩
set_option maxRecDepth 100000 in
set_option maxHeartbeats 2000000 in
theorem markState_own (lo n3 n4 n5 : Nat) (K st bg la fa : Int) (u3 u4 u5 : Value) (xs ys zs : List Value) (w : World) (o3 : w.ownsRow lo 9 1 u3 n3 xs) (o4 : w.ownsRow lo 9 1 u4 n4 ys) (o5 : w.ownsRow lo 155 2 u5 n5 zs) (a34 : Apart u3 u4) (hK : 0 < K) (hn : K + (n3 : Int) + (n4 : Int) + 2 * (n5 : Int) ≤ 1000000000) :
    Calls Tryz.prog 62 #[.agg #[.int .i64 st, .int .i64 bg, .int .i64 la, u3, u4, u5, .int .i64 fa], .int .i64 K] w fun e w' => e = .returned (.int .i64 (K + (n3 : Int) + (n4 : Int) + 2 * (n5 : Int))) ∧ Mkd w' lo n3 n4 n5 K u3 u4 u5 ∧ Chg (P3 u3 u4 u5) w w' := by
  have a35 := apart_ty o3 o5 (by decide)
  have a45 := apart_ty o4 o5 (by decide)
  obtain ⟨a3, k3, rfl⟩ := ownB_form o3
  obtain ⟨a4, k4, rfl⟩ := ownB_form o4
  obtain ⟨a5, k5, rfl⟩ := ownB_form o5
  have hb : Below w.heap.size w (w.alloc (.cells #[.int .i64 st, .int .i64 bg, .int .i64 la, .slice a3 n3 k3, .slice a4 n4 k4, .slice a5 n5 k5, .int .i64 fa] 41)) := (Below.refl _ _).alloc (Nat.le_refl _) _
  have O4 := hid (ownB_stay o4 hb)
  have O5 := hid (ownB_stay o5 hb)
  have hn3 : ¬ (Value.slice a3 n3 k3).ownBlock = some w.heap.size := fun e => by have := (o3.lt _ e).2; omega
  have hn4 : ¬ (Value.slice a4 n4 k4).ownBlock = some w.heap.size := fun e => by have := (o4.lt _ e).2; omega
  have A34 := hid a34
  have A35 := hid a35
  have A45 := hid a45
  have cM := hid (markStringS_own _ n3 lo K xs _ (ownB_stay o3 hb) hK (by omega))
  have D4 := hid (show (w.alloc (.cells #[.int .i64 st, .int .i64 bg, .int .i64 la, .slice a3 n3 k3, .slice a4 n4 k4, .slice a5 n5 k5, .int .i64 fa] 41)).cell? ⟨w.heap.size, 4, none⟩ = some (.slice a4 n4 k4) by simp [go_sem])
  have D5 := hid (show (w.alloc (.cells #[.int .i64 st, .int .i64 bg, .int .i64 la, .slice a3 n3 k3, .slice a4 n4 k4, .slice a5 n5 k5, .int .i64 fa] 41)).cell? ⟨w.heap.size, 5, none⟩ = some (.slice a5 n5 k5) by simp [go_sem])
  have HB := hid hb
  clear o3 o4 o5 hb a34 a35 a45
  go_enter Tryz.func62, Tryz.ntmps62
  go_wp2_with fail
  refine cM.out.mono ?_
  generalize w.alloc (.cells #[.int .i64 st, .int .i64 bg, .int .i64 la, .slice a3 n3 k3, .slice a4 n4 k4, .slice a5 n5 k5, .int .i64 fa] 41) = W at *
  rintro e W1 ⟨rfl, hm1, hg1⟩
  have hC1 : Chg (fun j => (Value.slice a3 n3 k3).ownBlock = some j) W W1 := Chg.of_row hg1 (fun j h => h)
  have d4 := (hC1.cell (g := w.heap.size) (o := 4) (block_lt_of_cell D4.out) hn3).trans D4.out
  have D51 := hid ((hC1.cell (g := w.heap.size) (o := 5) (block_lt_of_cell D5.out) hn3).trans D5.out)
  have cN := hid (markStringS_own _ n4 lo (K + (n3 : Int)) ys W1 (own_chg O4.out hC1 (fun g hg he => A34.out g he hg)) (by omega) (by omega))
  have O51 := hid (own_chg O5.out hC1 (fun g hg he => A35.out g he hg))
  have M1 := hid hm1
  have HC1 := hid hC1
  clear hC1 hg1 cM hm1
  go_wp2_with fail
  refine cN.out.mono ?_
  rintro e W2 ⟨rfl, hm2, hg2⟩
  have hC2 : Chg (fun j => (Value.slice a4 n4 k4).ownBlock = some j) W1 W2 := Chg.of_row hg2 (fun j h => h)
  have d5 := (hC2.cell (g := w.heap.size) (o := 5) (block_lt_of_cell D51.out) hn4).trans D51.out
  have cQ := hid (markVarS_own _ n5 lo (K + (n3 : Int) + (n4 : Int)) zs W2 (own_chg O51.out hC2 (fun g hg he => A45.out g he hg)) (by omega) (by omega))
  have M12 := hid (own_chg M1.out hC2 (fun g hg he => A34.out g hg he))
  have M2 := hid hm2
  have HC2 := hid hC2
  clear hC2 hg2 cN hm2 d4
  go_wp2_with fail
  refine cQ.out.mono ?_
  rintro e W3 ⟨rfl, hm3, hg3⟩
  have HC3 := hid (Chg.of_row (p := fun j => (Value.slice a5 n5 k5).ownBlock = some j) hg3 (fun j h => h))
  have M13 := hid (own_chg M12.out HC3.out (fun g hg he => A35.out g hg he))
  have M23 := hid (own_chg M2.out HC3.out (fun g hg he => A45.out g hg he))
  have M3 := hid hm3
  clear hg3 cQ hm3 d5
  go_wp2
  go_ret
  exact ⟨rfl, ⟨M13.out, M23.out, M3.out⟩, (((Chg.of_below HB.out).trans (HC1.out.mono (fun j h => .inl h))).trans (HC2.out.mono (fun j h => .inr (.inl h)))).trans (HC3.out.mono (fun j h => .inr (.inr h)))⟩
set_option maxRecDepth 100000 in
set_option maxHeartbeats 2000000 in
theorem markStateOut_own (lo : Nat) (c : Int) (S : St) (u3 u4 u5 : Value) (w : World) (hO : StOwn w lo u3 u4 u5 S) (hn : (S.wait.length : Int) + (S.busy.length : Int) + 2 * (S.vars.length : Int) ≤ 999999) :
    Calls Tryz.prog 21 #[outV c S u3 u4 u5, .int .i64 1] w fun e w' => e = .returned (.int .i64 (1 + (S.wait.length : Int) + (S.busy.length : Int) + 2 * (S.vars.length : Int))) ∧ Mkd w' lo S.wait.length S.busy.length S.vars.length 1 u3 u4 u5 ∧ Chg (P3 u3 u4 u5) w w' := by
  obtain ⟨a3, a4, a5, k3, k4, k5, rfl, rfl, rfl⟩ := hO.forms
  have hb : Below w.heap.size w (w.alloc (.cells #[.int .i64 S.status, .int .i64 S.begun, .int .i64 S.last, .slice a3 S.wait.length k3, .slice a4 S.busy.length k4, .slice a5 S.vars.length k5, .int .i64 S.faults, .int .i64 c] 43)) := (Below.refl _ _).alloc (Nat.le_refl _) _
  have h1 := hO.stay hb
  have cM := hid (markState_own lo _ _ _ 1 S.status S.begun S.last S.faults _ _ _ _ _ _ _ h1.o3 h1.o4 h1.o5 h1.a34 (by omega) (by omega))
  have HB := hid hb
  clear h1 hO hb
  unfold outV
  go_enter Tryz.func21, Tryz.ntmps21
  go_wp2_with fail
  refine cM.out.mono ?_
  rintro e W1 ⟨rfl, hM, hC⟩
  have HM := hid hM
  have HC := hid hC
  clear hM hC cM
  go_wp2
  go_ret
  exact ⟨rfl, HM.out, (Chg.of_below HB.out).trans HC.out⟩
set_option maxRecDepth 100000 in
set_option maxHeartbeats 2000000 in
theorem heldState_own (lo n3 n4 n5 : Nat) (st bg la fa : Int) (u3 u4 u5 : Value) (w : World) (h : Mkd w lo n3 n4 n5 1 u3 u4 u5) (hn : (n3 : Int) + (n4 : Int) + 2 * (n5 : Int) ≤ 999999) :
    Calls Tryz.prog 63 #[.agg #[.int .i64 st, .int .i64 bg, .int .i64 la, u3, u4, u5, .int .i64 fa], .int .i64 1] w fun e w' => e = .returned (.int .i64 (1 + (n3 : Int) + (n4 : Int) + 2 * (n5 : Int))) ∧ Below w.heap.size w w' := by
  obtain ⟨a3, k3, rfl⟩ := ownB_form h.o3
  obtain ⟨a4, k4, rfl⟩ := ownB_form h.o4
  obtain ⟨a5, k5, rfl⟩ := ownB_form h.o5
  have hb : Below w.heap.size w (w.alloc (.cells #[.int .i64 st, .int .i64 bg, .int .i64 la, .slice a3 n3 k3, .slice a4 n4 k4, .slice a5 n5 k5, .int .i64 fa] 41)) := (Below.refl _ _).alloc (Nat.le_refl _) _
  have HH := hid (h.stay hb)
  have cM := hid (heldStringS_own _ n3 lo 1 _ HH.out.o3 (by omega) (by omega))
  have D4 := hid (show (w.alloc (.cells #[.int .i64 st, .int .i64 bg, .int .i64 la, .slice a3 n3 k3, .slice a4 n4 k4, .slice a5 n5 k5, .int .i64 fa] 41)).cell? ⟨w.heap.size, 4, none⟩ = some (.slice a4 n4 k4) by simp [go_sem])
  have D5 := hid (show (w.alloc (.cells #[.int .i64 st, .int .i64 bg, .int .i64 la, .slice a3 n3 k3, .slice a4 n4 k4, .slice a5 n5 k5, .int .i64 fa] 41)).cell? ⟨w.heap.size, 5, none⟩ = some (.slice a5 n5 k5) by simp [go_sem])
  have HB := hid hb
  clear h hb
  go_enter Tryz.func63, Tryz.ntmps63
  go_wp2_with fail
  refine cM.out.mono ?_
  generalize w.alloc (.cells #[.int .i64 st, .int .i64 bg, .int .i64 la, .slice a3 n3 k3, .slice a4 n4 k4, .slice a5 n5 k5, .int .i64 fa] 41) = W at *
  rintro e W1 ⟨rfl, hb1⟩
  have d4 := (hb1.cell (block_lt_of_cell D4.out)).trans D4.out
  have D51 := hid ((hb1.cell (block_lt_of_cell D5.out)).trans D5.out)
  have H1 := hid (HH.out.stay hb1)
  have HB1 := hid (HB.out.trans (hb1.mono HB.out.size))
  have cN := hid (heldStringS_own _ n4 lo (1 + (n3 : Int)) W1 H1.out.o4 (by omega) (by omega))
  have hp1 : ¬ 1 + (n3 : Int) < 0 := by omega
  clear hb1 cM
  go_wp2_with fail
  refine cN.out.mono ?_
  rintro e W2 ⟨rfl, hb2⟩
  have d5 := (hb2.cell (block_lt_of_cell D51.out)).trans D51.out
  have H2 := hid (H1.out.stay hb2)
  have HB2 := hid (HB1.out.trans (hb2.mono HB1.out.size))
  have cQ := hid (heldVarS_own _ n5 lo (1 + (n3 : Int) + (n4 : Int)) W2 H2.out.o5 (by omega) (by omega))
  have hp2 : ¬ 1 + (n3 : Int) + (n4 : Int) < 0 := by omega
  clear hb2 cN d4
  go_wp2_with fail
  refine cQ.out.mono ?_
  rintro e W3 ⟨rfl, hb3⟩
  have HB3 := hid (HB2.out.trans (hb3.mono HB2.out.size))
  have hp3 : ¬ 1 + (n3 : Int) + (n4 : Int) + 2 * (n5 : Int) < 0 := by omega
  clear hb3 cQ d5
  go_wp2
  go_ret
  exact ⟨rfl, HB3.out⟩
set_option maxRecDepth 100000 in
set_option maxHeartbeats 2000000 in
theorem heldStateOut_own (lo n3 n4 n5 : Nat) (c st bg la fa : Int) (u3 u4 u5 : Value) (w : World) (h : Mkd w lo n3 n4 n5 1 u3 u4 u5) (hn : (n3 : Int) + (n4 : Int) + 2 * (n5 : Int) ≤ 999999) :
    Calls Tryz.prog 22 #[.agg #[.int .i64 st, .int .i64 bg, .int .i64 la, u3, u4, u5, .int .i64 fa, .int .i64 c], .int .i64 1] w fun e w' => e = .returned (.int .i64 (1 + (n3 : Int) + (n4 : Int) + 2 * (n5 : Int))) ∧ Below w.heap.size w w' := by
  obtain ⟨a3, k3, rfl⟩ := ownB_form h.o3
  obtain ⟨a4, k4, rfl⟩ := ownB_form h.o4
  obtain ⟨a5, k5, rfl⟩ := ownB_form h.o5
  have hb : Below w.heap.size w (w.alloc (.cells #[.int .i64 st, .int .i64 bg, .int .i64 la, .slice a3 n3 k3, .slice a4 n4 k4, .slice a5 n5 k5, .int .i64 fa, .int .i64 c] 43)) := (Below.refl _ _).alloc (Nat.le_refl _) _
  have cM := hid (heldState_own lo n3 n4 n5 st bg la fa _ _ _ _ (h.stay hb) hn)
  have HB := hid hb
  clear h hb
  go_enter Tryz.func22, Tryz.ntmps22
  go_wp2_with fail
  refine cM.out.mono ?_
  rintro e W1 ⟨rfl, hb1⟩
  have HB1 := hid (HB.out.trans (hb1.mono HB.out.size))
  have hp3 : ¬ 1 + (n3 : Int) + (n4 : Int) + 2 * (n5 : Int) < 0 := by omega
  clear hb1 cM
  go_wp2
  go_ret
  exact ⟨rfl, HB1.out⟩
end Go.Proofs.YtadidjhcgmeadaaGreatDoor

/-
  A State's rows: what is known of them. Of no function. (Cut off LawA.)
-/
namespace Go.Proofs.YtadidjhcgmeadaaGreatDoor
open Go.RowKit Go.Sort

theorem StOwn.sl {w : World} {lo k3 k4 k5 : Nat} {a3 a4 a5 : Option Addr} {S : St} (h : StOwn w lo (.slice a3 S.wait.length k3) (.slice a4 S.busy.length k4) (.slice a5 S.vars.length k5) S) : StSl w a3 a4 a5 k3 k4 k5 S := ⟨str_of_own h.o3, str_of_own h.o4, pr_of_own h.o5⟩
theorem StOwn.chgT {p : Nat → Prop} {w w' : World} {lo : Nat} {v3 v4 v5 : Value} {S : St} (h : StOwn w lo v3 v4 v5 S) (hc : Chg p w w') (h3 : ∀ g, v3.ownBlock = some g → ¬ p g) (h4 : ∀ g, v4.ownBlock = some g → ¬ p g) (h5 : ∀ g, v5.ownBlock = some g → ¬ p g) : StOwn w' lo v3 v4 v5 S := ⟨own_chg h.o3 hc h3, own_chg h.o4 hc h4, own_chg h.o5 hc h5, h.a34⟩
end Go.Proofs.YtadidjhcgmeadaaGreatDoor

/-
  What laws.markEventS does to a row of events, from any mark on: a contract over the seat's program.
-/
namespace Go.Proofs.YtadidjhcgmeadaaGreatDoor
open Go.RowKit Go.Sort

/-- The event that bears the marks from a number on. -/
def mkEv (k : Int) : Ev := ⟨k, k + 1, k + 1 + 1, k + 1 + 1 + 1, markT (k + 1 + 1 + 1 + 1), markT (k + 1 + 1 + 1 + 1 + 1)⟩
def marks (k : Int) (n : Nat) : List Ev := (List.range n).map fun i : Nat => mkEv (k + 6 * (i : Int))
theorem marks_len (k : Int) (n : Nat) : (marks k n).length = n := by simp [marks]
theorem marks_succ (k : Int) (n : Nat) : (marks k (n + 1)).flatMap Ev.cells = (marks k n).flatMap Ev.cells ++ (mkEv (k + 6 * (n : Int))).cells := by
  simp [marks, List.range_succ]
theorem marks_at {k : Int} {n i : Nat} (h : i < (marks k n).length) : (marks k n)[i] = mkEv (k + 6 * (i : Int)) := by simp [marks]

set_option maxHeartbeats 1000000 in
set_option maxRecDepth 100000 in
theorem markEventS_row (g n c : Nat) (K : Int) (L : List Value) (w : World) (hG : w.heap[g]? = some (.cells L.toArray 76 (0, 0))) (hL : n * 6 ≤ L.length) (hK : 0 < K) (hn : K + 6 * (n : Int) ≤ 1000000000) :
    Calls Tryz.prog 20 #[.slice (some ⟨g, 0, none⟩) n c, .int .i64 K] w fun e w' =>
      ∃ L' : List Value, e = .returned (.int .i64 (K + 6 * (n : Int))) ∧ w'.heap[g]? = some (.cells L'.toArray 76 (0, 0)) ∧ L'.length = L.length ∧ L'.take (n * 6) = (marks K n).flatMap Ev.cells ∧ w.grownBy w' (some g) := by
  have HG := hid hG
  have HL := hid hL
  clear hG hL
  go_enter Tryz.func20, Tryz.ntmps20
  go_wp2
  go_loopw [1, 5] (fun kv i wr => ∃ (j : Nat) (M : List Value), j ≤ n ∧ i = .int .i64 j ∧ kv = .int .i64 (K + 6 * (j : Int)) ∧ M.length = L.length ∧ M.take (j * 6) = (marks K j).flatMap Ev.cells ∧ wr.heap[g]? = some (.cells M.toArray 76 (0, 0)) ∧ w.grownBy wr (some g)) (fun _ i _ => n - (intOf i).toNat)
  case atStart => exact ⟨0, L, Nat.zero_le _, rfl, by simp, rfl, by simp [marks], HG.out, World.grownBy.refl _ _⟩
  case round =>
    obtain ⟨j, M, hj, rfl, rfl, hM, hT, hGr, hgr⟩ := hrel
    have HM := hid hM
    have HT := hid hT
    have HGr := hid hGr
    have Hgr := hid hgr
    clear hM hT hGr hgr
    by_cases hlt : j < n
    · have hjl : j * 6 + 6 ≤ M.length := by have := HM.out; have := HL.out; omega
      have c4 := fun w => markText_any (K + 6 * (j : Int) + 1 + 1 + 1 + 1) w (by omega) (by omega)
      have c5 := fun w => markText_any (K + 6 * (j : Int) + 1 + 1 + 1 + 1 + 1) w (by omega) (by omega)
      have hce : ∀ t, t < 6 → ∃ u, wr.cell? ⟨g, j * 6 + t, none⟩ = some u := fun t ht => cell_there HGr.out (by omega)
      obtain ⟨u0, d0⟩ : ∃ u, wr.cell? ⟨g, j * 6, none⟩ = some u := hce 0 (by decide)
      obtain ⟨u1, d1⟩ := hce 1 (by decide)
      obtain ⟨u2, d2⟩ := hce 2 (by decide)
      obtain ⟨u3, d3⟩ := hce 3 (by decide)
      have hfz : ∀ t, wr.frozen? ⟨g, t, none⟩ = false := fun t => Lib.frozen_of_heap HGr.out t
      clear hce
      have HS := hid (set6_take (L := M) (i := j * 6) (a := .int .i64 (K + 6 * (j : Int))) (b := .int .i64 (K + 6 * (j : Int) + 1)) (c := .int .i64 (K + 6 * (j : Int) + 1 + 1)) (d := .int .i64 (K + 6 * (j : Int) + 1 + 1 + 1)) (e := .string (markT (K + 6 * (j : Int) + 1 + 1 + 1 + 1))) (f := .string (markT (K + 6 * (j : Int) + 1 + 1 + 1 + 1 + 1))) hjl)
      have HMS := hid (marks_succ K j)
      unfold mkEv at HMS
      generalize markT (K + 6 * (j : Int) + 1 + 1 + 1 + 1) = S4 at *
      generalize markT (K + 6 * (j : Int) + 1 + 1 + 1 + 1 + 1) = S5 at *
      go_wp2_with fail
      have hA := blk_set (i := j * 6 + 3) (blk_set (i := j * 6 + 2) (blk_set (i := j * 6 + 1) (blk_set (i := j * 6) HGr.out (.int .i64 (K + 6 * (j : Int)))) (.int .i64 (K + 6 * (j : Int) + 1))) (.int .i64 (K + 6 * (j : Int) + 1 + 1))) (.int .i64 (K + 6 * (j : Int) + 1 + 1 + 1))
      have hgA := grown_trans (grown_trans (grown_trans (grown_trans Hgr.out (grown_set _ g (j * 6) (.int .i64 (K + 6 * (j : Int))))) (grown_set _ g (j * 6 + 1) (.int .i64 (K + 6 * (j : Int) + 1)))) (grown_set _ g (j * 6 + 2) (.int .i64 (K + 6 * (j : Int) + 1 + 1)))) (grown_set _ g (j * 6 + 3) (.int .i64 (K + 6 * (j : Int) + 1 + 1 + 1)))
      refine (c4 _).mono ?_
      rintro e w2 ⟨rfl, hb2⟩
      have hB : w2.heap[g]? = _ := (hb2.block g (lt_heap hA)).trans hA
      have hgB := hid (grown_trans hgA (grown_below hb2))
      have z4 := cell_there hB (j := j * 6 + 4) (by simp; omega)
      obtain ⟨u4, z4⟩ := z4
      have hfz2 : ∀ t, w2.frozen? ⟨g, t, none⟩ = false := fun t => Lib.frozen_of_heap hB t
      have HB := hid hB
      clear hA hgA hB hb2 d0 d1 d2 d3 hfz c4 Hgr HGr
      go_wp2_with fail
      have hC := blk_set (i := j * 6 + 4) HB.out (.string S4)
      have hgC := grown_trans hgB.out (grown_set _ g (j * 6 + 4) (.string S4))
      refine (c5 _).mono ?_
      rintro e w3 ⟨rfl, hb3⟩
      have hD : w3.heap[g]? = _ := (hb3.block g (lt_heap hC)).trans hC
      have hgD := hid (grown_trans hgC (grown_below hb3))
      have z5 := cell_there hD (j := j * 6 + 5) (by simp; omega)
      obtain ⟨u5, z5⟩ := z5
      have hfz3 : ∀ t, w3.frozen? ⟨g, t, none⟩ = false := fun t => Lib.frozen_of_heap hD t
      have HD := hid hD
      clear hC hgC hD hb3 z4 hfz2 c5 hgB HB
      go_wp2
      go_roundw
      case rel =>
        refine ⟨j + 1, _, by omega, by go_num, by go_num, ?_, ?_, blk_set (i := j * 6 + 5) HD.out (.string S5), grown_trans hgD.out (grown_set _ g (j * 6 + 5) (.string S5))⟩
        · rw [set6_len]; exact HM.out
        · rw [show (j + 1) * 6 = j * 6 + 6 by omega, HS.out, HT.out, HMS.out]; rfl
      case measure => simp [intOf]; omega
    · have hje : j = n := by omega
      have HJ := hid hje
      clear hje
      go_wp2
      go_ret
      refine ⟨M, by rw [HJ.out]; rfl, HGr.out, HM.out, ?_, Hgr.out⟩
      have := HT.out
      rwa [HJ.out] at this
theorem markEventS_none (a : Option Addr) (c : Nat) (K : Int) (w : World) :
    Calls Tryz.prog 20 #[.slice a 0 c, .int .i64 K] w fun e w' => e = .returned (.int .i64 K) ∧ w' = w := by
  go_enter Tryz.func20, Tryz.ntmps20
  go_wp2
  go_loopw [1, 5] (fun kv i wr => kv = .int .i64 K ∧ i = .int .i64 0 ∧ wr = w) (fun _ _ _ => 0)
  case atStart => exact ⟨rfl, rfl, rfl⟩
  case round =>
    obtain ⟨rfl, rfl, rfl⟩ := hrel
    go_wp2
    go_ret
    exact ⟨rfl, rfl⟩
theorem markEventS_own (v : Value) (n base : Nat) (K : Int) (xs : List Value) (w : World) (h : w.ownsRow base 76 6 v n xs) (hK : 0 < K) (hn : K + 6 * (n : Int) ≤ 1000000000) :
    Calls Tryz.prog 20 #[v, .int .i64 K] w fun e w' => e = .returned (.int .i64 (K + 6 * (n : Int))) ∧ Chg (fun j => v.ownBlock = some j) w w' := by
  rcases h.2 with ⟨rfl, rfl⟩ | ⟨g, cap, cur, rfl, hb, hg, hc, hm, hs, ht⟩
  · refine (markEventS_none none 0 K w).mono ?_
    rintro e w' ⟨rfl, rfl⟩
    exact ⟨by simp, Chg.refl _ _⟩
  · have hg' : w.heap[g]? = some (.cells cur.toList.toArray 76 (0, 0)) := by simpa using hg
    refine (markEventS_row g n cap K cur.toList w hg' (by rw [Array.length_toList, hs]; omega) hK hn).mono ?_
    rintro e w' ⟨L', rfl, h1, h2, h3, h4⟩
    exact ⟨rfl, Chg.of_grown h4 rfl⟩
end Go.Proofs.YtadidjhcgmeadaaGreatDoor
