/-
 Texts put together: HdE, EvEq, SvEq, SoMk.
-/
import Derived.Test.YtookchpdbilbcaaGreatDoorZMkF5
import Derived.Test.YtookchpdbilbcaaGreatDoorZRowL4
import Derived.Lib.QuietBelow
import Derived.Test.YtookchpdbilbcaaGreatDoorZEvX11
import Derived.Test.YtookchpdbilbcaaGreatDoorZDfLaw5
import Derived.Deep.CutRange
set_option maxRecDepth 100000
set_option maxHeartbeats 4000000
/-
 What laws.markEventS and laws.heldEventS answer of rows from any mark on, the slice maybe cut: contracts over the seat's program.
-/
namespace Go.Proofs.YtookchpdbilbcaaGreatDoor
open Go.RowKit Go.Sort
set_option maxRecDepth 1000000 in
theorem ZCj (g o c n : Nat) (K : Int) (w : World) (hE : EvsAt w g o (marks K n)) (hK : 0 < K) (hn : K + 6 * (n : Int) ≤ 1000000000) :
  Calls Tryz.prog 58 #[.slice (some ⟨g, o, none⟩) n c, .int .i64 K] w fun e w' => e = .returned (.int .i64 (K + 6 * (n : Int))) ∧ Below w.heap.size w w' := by
 have mixed : Tryz.prog.follows .mixedOrders = true := by kernel_rfl
 have HE := hid hE
 clear hE
 go_enter Tryz.func58, Tryz.ntmps58
 go_wp2
 go_loopw [1, 5] (fun kv i wr => ∃ j : Nat, j ≤ n ∧ i = .int .i64 j ∧ kv = .int .i64 (K + 6 * (j : Int)) ∧ Below w.heap.size w wr) (fun _ i _ => n - (intOf i).toNat)
 case atStart => exact ⟨0, Nat.zero_le _, rfl, by simp, Below.refl _ _⟩
 case round =>
  obtain ⟨j, hj, rfl, rfl, hbel⟩ := hrel
  by_cases hlt : j < n
  ·have hA := (HE.out.stay hbel nL).2 j (by rw [ZBR]; exact hlt)
   rw [ZIn] at hA
   unfold mkEv at hA
   obtain ⟨a0, a1, a2, a3, a4, a5⟩ := hA
   simp only at a0 a1 a2 a3 a4 a5
   have c4 := fun w => ZAU (K + 6 * (j : Int) + 1 + 1 + 1 + 1) w (by omega) (by omega)
   have c5 := fun w => ZAU (K + 6 * (j : Int) + 1 + 1 + 1 + 1 + 1) w (by omega) (by omega)
   generalize markT (K + 6 * (j : Int) + 1 + 1 + 1 + 1) = S4 at *
   generalize markT (K + 6 * (j : Int) + 1 + 1 + 1 + 1 + 1) = S5 at *
   have k4 := cell_regrown a4
   have d4 := fun d os => Calls.regrown_of (w := wr) (d := d) (os := os) (c4 _)
   have H5 := hid a5
   clear c4 a4 a5
   go_wp2
   refine wp_region_quiet_below mixed (by kernel_rfl) ?_
   repeat (quiet_step (first | (go_at_call 32; exact d4 _ _)))
   refine wpQuiet_nil ?_
   intro w2 hw'
   obtain ⟨⟨dq, osq⟩, hw''⟩ := hw'
   have hbX := below_regrown wr dq osq
   have a5' := cell_regrown H5.out dq osq
   rw [← hw''] at hbX a5'
   have hbel2 := hbel.trans (hbX.mono hbel.size)
   clear hw'' d4 k4 a0 a1 a2 a3 hbX H5
   have k5 := cell_regrown a5'
   have d5 := fun d os => Calls.regrown_of (w := w2) (d := d) (os := os) (c5 _)
   clear c5 a5'
   go_wp2
   refine wp_region_quiet_below mixed (by kernel_rfl) ?_
   repeat (quiet_step (first | (go_at_call 32; exact d5 _ _)))
   refine wpQuiet_nil ?_
   intro _ hw'
   obtain ⟨⟨dr, osr⟩, hw''⟩ := hw'
   subst hw''
   have hbel3 := hbel2.trans ((below_regrown w2 dr osr).mono hbel2.size)
   clear d5 k5
   go_wp2
   go_roundw
   case rel => exact ⟨j + 1, by omega, by go_num, by go_num, hbel3⟩
   case measure => simp [intOf]; omega
  ·have hje : j = n := by omega
   have HJ := hid hje
   clear hje
   go_wp2
   go_ret
   exact ⟨by rw [HJ.out]; rfl, hbel⟩
theorem ZCr (v : Value) (n base : Nat) (K : Int) (xs : List Value) (w : World) (h : RowL w base 57 6 v n xs) (hK : 0 < K) (hn : K + 6 * (n : Int) ≤ 1000000000) :
  Calls Tryz.prog 15 #[v, .int .i64 K] w fun e w' => e = .returned (.int .i64 (K + 6 * (n : Int))) ∧ RowL w' base 57 6 v n ((marks K n).flatMap Ev.cells) ∧ Chg (fun j => 0 < n ∧ v.ownBlock = some j) w w' := by
 by_cases h0 : 0 < n
 ·obtain ⟨g, cap, L, rfl, hb, hg, hL, _⟩ := h.2.2 h0
  refine (ZDS g n cap K L w hg hL hK hn).mono ?_
  rintro e w' ⟨L', rfl, h1, h2, h3, h4⟩
  exact ⟨rfl, ⟨by rw [ZAg, ZBR], ⟨_, _, rfl⟩, fun _ => ⟨g, cap, L', rfl, hb, h1, by omega, h3⟩⟩, Chg.of_grown h4 ⟨h0, rfl⟩⟩
 ·obtain rfl : n = 0 := by omega
  obtain ⟨a, c, rfl⟩ := h.2.1
  refine (ZCN a c K w).mono ?_
  rintro e w' ⟨rfl, hq⟩
  refine ⟨by simp, ⟨by simp [marks], ⟨_, _, rfl⟩, fun h => absurd h (by omega)⟩, ?_⟩
  rw [hq]
  exact Chg.refl _ _
theorem ZCg (v : Value) (n base : Nat) (K : Int) (w : World) (h : RowL w base 57 6 v n ((marks K n).flatMap Ev.cells)) (hK : 0 < K) (hn : K + 6 * (n : Int) ≤ 1000000000) :
  Calls Tryz.prog 58 #[v, .int .i64 K] w fun e w' => e = .returned (.int .i64 (K + 6 * (n : Int))) ∧ Below w.heap.size w w' := by
 have hs : EvSl w v (marks K n) := RowL.sl (es := marks K n) (by rw [ZBR]; exact h)
 rcases hs with ⟨a, c, rfl, h0⟩ | ⟨g, o, c, rfl, _, hE⟩
 ·have : n = 0 := by rw [← ZBR K n, h0]; rfl
  subst this
  refine (ZCO a c K w).mono ?_
  rintro e w' ⟨rfl, hq⟩
  exact ⟨by simp, by rw [hq]; exact Below.refl _ _⟩
 ·rw [ZBR]
  exact ZCj g o c n K w hE hK hn
end Go.Proofs.YtookchpdbilbcaaGreatDoor
/-
 What laws.eqEvent and laws.eqEventS answer at the same events: contracts over the seat's program.
-/
namespace Go.Proofs.YtookchpdbilbcaaGreatDoor
open Go.RowKit Go.Sort
theorem ZEo (q t r k : Int) (s v : ByteArray) (w : World) :
  Calls Tryz.prog 30 #[.agg #[.int .i64 q, .int .i64 t, .int .i64 r, .int .i64 k, .string s, .string v], .agg #[.int .i64 q, .int .i64 t, .int .i64 r, .int .i64 k, .string s, .string v]] w fun e w' => e = .returned (.bool true) ∧ Below w.heap.size w w' := by
 go_enter Tryz.func30, Tryz.ntmps30
 go_wp2
 go_ret
 exact ⟨rfl, ((bR _ _).alloc nL _).alloc (by simp) _⟩
set_option maxRecDepth 1000000 in
theorem ZEy (g1 o1 c1 g2 o2 c2 : Nat) (es : List Ev) (w : World) (hE1 : EvsAt w g1 o1 es) (hE2 : EvsAt w g2 o2 es) (hn : es.length ≤ maxLen) :
  Calls Tryz.prog 13 #[.slice (some ⟨g1, o1, none⟩) es.length c1, .slice (some ⟨g2, o2, none⟩) es.length c2] w fun e w' => e = .returned (.bool true) ∧ Below w.heap.size w w' := by
 unfold maxLen at hn
 have mixed : Tryz.prog.follows .mixedOrders = true := by kernel_rfl
 have HE1 := hid hE1
 have HE2 := hid hE2
 clear hE1 hE2
 go_enter Tryz.func13, Tryz.ntmps13
 go_wp2
 go_loopw [5] (fun i wr => ∃ k : Nat, k ≤ es.length ∧ i = .int .i64 k ∧ Below w.heap.size w wr) (fun i _ => es.length - (intOf i).toNat)
 case atStart => exact ⟨0, Nat.zero_le _, rfl, Below.refl _ _⟩
 case round =>
  obtain ⟨k, hk, rfl, hbel⟩ := hrel
  by_cases hlt : k < es.length
  ·obtain ⟨a0, a1, a2, a3, a4, a5⟩ := (HE1.out.stay hbel nL).2 k hlt
   obtain ⟨b0, b1, b2, b3, b4, b5⟩ := (HE2.out.stay hbel nL).2 k hlt
   generalize es[k].seq = q0 at *
   generalize es[k].time = q1 at *
   generalize es[k].run = q2 at *
   generalize es[k].kind = q3 at *
   generalize es[k].step = q4 at *
   generalize es[k].val = q5 at *
   have k0 := cell_regrown a0
   have k1 := cell_regrown a1
   have k2 := cell_regrown a2
   have k3 := cell_regrown a3
   have k4 := cell_regrown a4
   have k5 := cell_regrown a5
   have l0 := cell_regrown b0
   have l1 := cell_regrown b1
   have l2 := cell_regrown b2
   have l3 := cell_regrown b3
   have l4 := cell_regrown b4
   have l5 := cell_regrown b5
   have d1 := fun d os => Calls.regrown_of (w := wr) (d := d) (os := os) (ZEo q0 q1 q2 q3 q4 q5 _)
   clear a0 a1 a2 a3 a4 a5 b0 b1 b2 b3 b4 b5
   go_wp2
   refine wp_region_quiet_below mixed (by kernel_rfl) ?_
   repeat (quiet_step (first | (go_at_call 30; exact d1 _ _)))
   refine wpQuiet_nil ?_
   intro _ hw'
   obtain ⟨⟨dq, osq⟩, hw''⟩ := hw'
   subst hw''
   have hbX := hbel.trans ((below_regrown wr dq osq).mono hbel.size)
   clear k0 k1 k2 k3 k4 k5 l0 l1 l2 l3 l4 l5 d1
   go_wp2
   go_roundw
   case rel => exact ⟨k + 1, by omega, by go_num, hbX⟩
   case measure => simp [intOf]; omega
  ·go_wp2
   go_ret
   exact ⟨rfl, hbel⟩
theorem ZEa (a1 a2 : Option Addr) (c1 c2 : Nat) (w : World) :
  Calls Tryz.prog 13 #[.slice a1 0 c1, .slice a2 0 c2] w fun e w' => e = .returned (.bool true) ∧ Below w.heap.size w w' := by
 go_enter Tryz.func13, Tryz.ntmps13
 go_wp2
 go_loop [5] (fun i => i = .int .i64 0) (fun _ => 0)
 case atStart => exact rfl
 case round =>
  subst hrel
  go_wp2
  go_ret
  exact ⟨rfl, Below.refl _ _⟩
theorem ZEk (v1 v2 : Value) (es : List Ev) (w : World) (h1 : EvSl w v1 es) (h2 : EvSl w v2 es) (hn : es.length ≤ maxLen) :
  Calls Tryz.prog 13 #[v1, v2] w fun e w' => e = .returned (.bool true) ∧ Below w.heap.size w w' := by
 rcases h1 with ⟨a, c, rfl, rfl⟩ | ⟨g, o, c, rfl, hp, h⟩
 ·rcases h2 with ⟨a', c', rfl, _⟩ | ⟨g', o', c', rfl, hp', h'⟩
  ·exact ZEa a a' c c' w
  ·simp at hp'
 ·rcases h2 with ⟨a', c', rfl, h0⟩ | ⟨g', o', c', rfl, hp', h'⟩
  ·rw [h0] at hp; simp at hp
  ·exact ZEy g o c g' o' c' es w h h' hn
end Go.Proofs.YtookchpdbilbcaaGreatDoor
/-
 What laws.eqService answers: a contract over the seat's program.
-/
namespace Go.Proofs.YtookchpdbilbcaaGreatDoor
open Go.RowKit Go.Sort
theorem ZBd (a1 a2 a6 b1 b2 b6 : Option Addr) (k1 k2 k6 c1 c2 c6 : Nat) (ss : List ByteArray) (fs : List Pr) (es : List Ev) (nx : Int) (w : World) (hD : DefSl w a1 a2 k1 k2 ss fs) (hE : EvSl w (.slice a6 es.length k6) es) (hD' : DefSl w b1 b2 c1 c2 ss fs) (hE' : EvSl w (.slice b6 es.length c6) es) (n1 : ss.length ≤ maxLen) (n2 : fs.length ≤ maxLen) (n6 : es.length ≤ maxLen) :
  Calls Tryz.prog 12 #[svV a1 a2 a6 k1 k2 k6 ss fs es nx, svV b1 b2 b6 c1 c2 c6 ss fs es nx] w fun x w' => x = .returned (.bool true) ∧ Below w.heap.size w w' := by
 have hb2 : Below w.heap.size w ((w.alloc (.cells #[.slice a1 ss.length k1, .slice a2 fs.length k2, .slice a6 es.length k6, .int .i64 nx] 36)).alloc (.cells #[.slice b1 ss.length c1, .slice b2 fs.length c2, .slice b6 es.length c6, .int .i64 nx] 36)) := below2 _ _ _
 have hs2 : ((w.alloc (.cells #[.slice a1 ss.length k1, .slice a2 fs.length k2, .slice a6 es.length k6, .int .i64 nx] 36)).alloc (.cells #[.slice b1 ss.length c1, .slice b2 fs.length c2, .slice b6 es.length c6, .int .i64 nx] 36)).heap.size = w.heap.size + 1 + 1 := by simp
 have hB := heap_alloc_new (w.alloc (.cells #[.slice a1 ss.length k1, .slice a2 fs.length k2, .slice a6 es.length k6, .int .i64 nx] 36)) (.cells #[.slice b1 ss.length c1, .slice b2 fs.length c2, .slice b6 es.length c6, .int .i64 nx] 36)
 have hA := (Below.heap_alloc (w.alloc (.cells #[.slice a1 ss.length k1, .slice a2 fs.length k2, .slice a6 es.length k6, .int .i64 nx] 36)) (.cells #[.slice b1 ss.length c1, .slice b2 fs.length c2, .slice b6 es.length c6, .int .i64 nx] 36) w.heap.size (by simp)).trans (heap_alloc_new w (.cells #[.slice a1 ss.length k1, .slice a2 fs.length k2, .slice a6 es.length k6, .int .i64 nx] 36))
 rw [World.size_alloc] at hB
 have HA := hid hA
 have HBB := hid hB
 have HB2 := hid hb2
 have c1' := hid (ZHJ a1 a2 b1 b2 k1 k2 c1 c2 ss fs _ (hD.stay hb2).h1 (hD.stay hb2).h2 (hD'.stay hb2).h1 (hD'.stay hb2).h2 n1 n2)
 have HE := hid (hE.stay hb2 nL)
 have HE' := hid (hE'.stay hb2 nL)
 have HN6 := hid n6
 clear hD hD' hE hE' hb2 hA hB n1 n2 n6
 go_enter Tryz.func12, Tryz.ntmps12
 go_wp2_with fail
 refine c1'.out.mono ?_
 generalize ((w.alloc (.cells #[.slice a1 ss.length k1, .slice a2 fs.length k2, .slice a6 es.length k6, .int .i64 nx] 36)).alloc (.cells #[.slice b1 ss.length c1, .slice b2 fs.length c2, .slice b6 es.length c6, .int .i64 nx] 36)) = V0 at *
 rintro x V1 ⟨rfl, hb1⟩
 have hA1 := (hb1.block _ (ZAA HA.out)).trans HA.out
 have hB1 := (hb1.block _ (ZAA HBB.out)).trans HBB.out
 have c2' := hid (ZEk (.slice a6 es.length k6) (.slice b6 es.length c6) es V1 (HE.out.stay hb1 nL) (HE'.out.stay hb1 nL) HN6.out)
 have x2 : V1.cell? ⟨w.heap.size, 2, none⟩ = some (.slice a6 es.length k6) := ce hA1 rfl
 have y2 : V1.cell? ⟨w.heap.size + 1, 2, none⟩ = some (.slice b6 es.length c6) := ce hB1 rfl
 have HB1 := hid (HB2.out.trans (hb1.mono HB2.out.size))
 have HA1 := hid hA1
 have HBB1 := hid hB1
 clear hb1 hA1 hB1 c1' HA HBB
 go_wp2_with fail
 refine c2'.out.mono ?_
 rintro x V2 ⟨rfl, hb2⟩
 have hA2 := (hb2.block _ (ZAA HA1.out)).trans HA1.out
 have hB2 := (hb2.block _ (ZAA HBB1.out)).trans HBB1.out
 have x3 : V2.cell? ⟨w.heap.size, 3, none⟩ = some (.int .i64 nx) := ce hA2 rfl
 have y3 : V2.cell? ⟨w.heap.size + 1, 3, none⟩ = some (.int .i64 nx) := ce hB2 rfl
 have HB9 := hid (HB1.out.trans (hb2.mono HB1.out.size))
 clear hb2 hA2 hB2 c2' x2 y2
 go_wp2
 go_ret
 exact ⟨rfl, HB9.out⟩
end Go.Proofs.YtookchpdbilbcaaGreatDoor
/-
 Marks of a Service and of a ServiceOut with events, and when two ServiceOuts are the same: contracts over the seat's program.
-/
namespace Go.Proofs.YtookchpdbilbcaaGreatDoor
open Go.RowKit Go.Sort
/-- Which blocks a Service's rows have. -/
def SvB (u1 u2 u6 : Value) (n6 j : Nat) : Prop := u1.ownBlock = some j ∨ u2.ownBlock = some j ∨ (0 < n6 ∧ u6.ownBlock = some j)
structure MkSv (w : World) (lo n1 n2 n6 : Nat) (K : Int) (u1 u2 u6 : Value) : Prop where
 d : MkOwn w lo n1 n2 K u1 u2
 e : RowL w lo 57 6 u6 n6 ((marks (K + (n1 : Int) + 2 * (n2 : Int)) n6).flatMap Ev.cells)
theorem MkSv.stay {w w' : World} {lo n1 n2 n6 : Nat} {K : Int} {u1 u2 u6 : Value} (h : MkSv w lo n1 n2 n6 K u1 u2 u6) (hb : Below w.heap.size w w') : MkSv w' lo n1 n2 n6 K u1 u2 u6 := ⟨h.d.stay hb, h.e.stay hb⟩
theorem new2o (w : World) (o1 o2 : Obj) : ((w.alloc o1).alloc o2).heap[w.heap.size]? = some o1 ∧ ((w.alloc o1).alloc o2).heap[w.heap.size + 1]? = some o2 := by
 have h2 := heap_alloc_new (w.alloc o1) o2
 rw [World.size_alloc] at h2
 exact ⟨(Below.heap_alloc _ _ _ (by simp)).trans (heap_alloc_new w o1), h2⟩
theorem ZBf (lo n1 n2 n6 : Nat) (K nx : Int) (a1 a2 a6 : Option Addr) (k1 k2 k6 : Nat) (xs ys zs : List Value) (w : World) (o1 : w.ownsRow lo 9 1 (.slice a1 n1 k1) n1 xs) (o2 : w.ownsRow lo 107 2 (.slice a2 n2 k2) n2 ys) (o6 : RowL w lo 57 6 (.slice a6 n6 k6) n6 zs) (hK : 0 < K) (hn : K + (n1 : Int) + 2 * (n2 : Int) + 6 * (n6 : Int) ≤ 1000000000) :
  Calls Tryz.prog 14 #[.agg #[.slice a1 n1 k1, .slice a2 n2 k2, .slice a6 n6 k6, .int .i64 nx], .int .i64 K] w fun e w' => e = .returned (.int .i64 (K + (n1 : Int) + 2 * (n2 : Int) + 6 * (n6 : Int))) ∧ MkSv w' lo n1 n2 n6 K (.slice a1 n1 k1) (.slice a2 n2 k2) (.slice a6 n6 k6) ∧ Chg (SvB (.slice a1 n1 k1) (.slice a2 n2 k2) (.slice a6 n6 k6) n6) w w' := by
 have HB := hid (show Below w.heap.size w (w.alloc (.cells #[.slice a1 n1 k1, .slice a2 n2 k2, .slice a6 n6 k6, .int .i64 nx] 36)) from (bR _ _).alloc nL _)
 have HX := hid (heap_alloc_new w (.cells #[.slice a1 n1 k1, .slice a2 n2 k2, .slice a6 n6 k6, .int .i64 nx] 36))
 have H1 := hid o1
 have H2 := hid o2
 have H6 := hid o6
 clear o1 o2 o6
 go_enter Tryz.func14, Tryz.ntmps14
 go_upto_region 1 with fail
 generalize w.alloc (.cells #[.slice a1 n1 k1, .slice a2 n2 k2, .slice a6 n6 k6, .int .i64 nx] 36) = W at *
 have x0 : W.cell? ⟨w.heap.size, 0, none⟩ = some (.slice a1 n1 k1) := ce HX.out rfl
 have x1 : W.cell? ⟨w.heap.size, 1, none⟩ = some (.slice a2 n2 k2) := ce HX.out rfl
 go_wp2_with fail
 refine (ZFR lo n1 n2 K a1 a2 k1 k2 xs ys W (ZAE H1.out HB.out) (ZAE H2.out HB.out) hK (by omega)).mono ?_
 rintro e W1 ⟨rfl, hm, hC⟩
 have hne : ¬ ((Value.slice a1 n1 k1).ownBlock = some w.heap.size ∨ (Value.slice a2 n2 k2).ownBlock = some w.heap.size) := fun h => by
  rcases h with h | h
  ·have := (H1.out.lt _ h).2; omega
  ·have := (H2.out.lt _ h).2; omega
 have x2 : W1.cell? ⟨w.heap.size, 2, none⟩ = some (.slice a6 n6 k6) := (hC.cell (ZAA HX.out) hne).trans (ce HX.out rfl)
 have HM := hid hm
 have HC := hid hC
 clear hm hC x0 x1 hne
 go_wp2_with fail
 have h61 : RowL W1 lo 57 6 (.slice a6 n6 k6) n6 zs := (H6.out.stay HB.out).chg HC.out (fun g c _ hg h => by
  rcases h with h | h
  ·exact ZAL (ZAE H1.out HB.out) hg (by decide) _ h rfl
  ·exact ZAL (ZAE H2.out HB.out) hg (by decide) _ h rfl)
 refine (ZCr (.slice a6 n6 k6) n6 lo (K + (n1 : Int) + 2 * (n2 : Int)) zs W1 h61 (by omega) (by omega)).mono ?_
 rintro e W2 ⟨rfl, hr2, hc2⟩
 have ho : ∀ (tt : TypeId) (sz m : Nat) (v : Value) (ws : List Value), tt ≠ 57 → W1.ownsRow lo tt sz v m ws → W2.ownsRow lo tt sz v m ws := fun tt sz m v ws htt hv => ZAJ hv hc2 (fun g hg h => by
  obtain ⟨gg, cap, L, e1, _, e3, _⟩ := h61.2.2 h.1
  have e2 : gg = g := by have := h.2; rw [e1] at this; injection this
  subst e2
  exact ZAL hv e3 htt _ hg rfl)
 have HM2 := hid (show MkOwn W2 lo n1 n2 K (.slice a1 n1 k1) (.slice a2 n2 k2) from ⟨ho _ _ _ _ _ (by decide) HM.out.o1, ho _ _ _ _ _ (by decide) HM.out.o2⟩)
 have HR2 := hid hr2
 have HC2 := hid hc2
 clear hr2 hc2 ho h61
 go_wp2
 go_ret
 exact ⟨rfl, ⟨HM2.out, HR2.out⟩, (Chg.of_below HB.out).trans ((HC.out.mono (fun j h => h.elim (fun h => .inl h) (fun h => .inr (.inl h)))).trans (HC2.out.mono (fun j h => .inr (.inr h))))⟩
theorem ZDH (lo n1 n2 n6 : Nat) (K nx : Int) (a1 a2 a6 : Option Addr) (k1 k2 k6 : Nat) (w : World) (h : MkSv w lo n1 n2 n6 K (.slice a1 n1 k1) (.slice a2 n2 k2) (.slice a6 n6 k6)) (hK : 0 < K) (hn : K + (n1 : Int) + 2 * (n2 : Int) + 6 * (n6 : Int) ≤ 1000000000) :
  Calls Tryz.prog 33 #[.agg #[.slice a1 n1 k1, .slice a2 n2 k2, .slice a6 n6 k6, .int .i64 nx], .int .i64 K] w fun e w' => e = .returned (.int .i64 (K + (n1 : Int) + 2 * (n2 : Int) + 6 * (n6 : Int))) ∧ Below w.heap.size w w' := by
 have HB := hid (show Below w.heap.size w (w.alloc (.cells #[.slice a1 n1 k1, .slice a2 n2 k2, .slice a6 n6 k6, .int .i64 nx] 36)) from (bR _ _).alloc nL _)
 have HX := hid (heap_alloc_new w (.cells #[.slice a1 n1 k1, .slice a2 n2 k2, .slice a6 n6 k6, .int .i64 nx] 36))
 have HH := hid h
 have b2 : ((K + (n1 : Int) + 2 * (n2 : Int)) < 0) = False := by simp; omega
 clear h
 go_enter Tryz.func33, Tryz.ntmps33
 go_upto_region 1 with fail
 generalize w.alloc (.cells #[.slice a1 n1 k1, .slice a2 n2 k2, .slice a6 n6 k6, .int .i64 nx] 36) = W at *
 have x0 : W.cell? ⟨w.heap.size, 0, none⟩ = some (.slice a1 n1 k1) := ce HX.out rfl
 have x1 : W.cell? ⟨w.heap.size, 1, none⟩ = some (.slice a2 n2 k2) := ce HX.out rfl
 go_wp2_with fail
 refine (ZFm lo n1 n2 K a1 a2 k1 k2 W (HH.out.d.stay HB.out) hK (by omega)).mono ?_
 rintro e W1 ⟨rfl, hb1⟩
 have HB1 := hid (HB.out.trans (hb1.mono HB.out.size))
 have x2 : W1.cell? ⟨w.heap.size, 2, none⟩ = some (.slice a6 n6 k6) := by rw [Lib.cell_of_heap ((hb1.block _ (ZAA HX.out)).trans HX.out)]; rfl
 clear hb1 x0 x1
 go_wp2_with fail
 have b3 : ((K + (n1 : Int) + 2 * (n2 : Int) + 6 * (n6 : Int)) < 0) = False := by simp; omega
 refine (ZCg (.slice a6 n6 k6) n6 lo (K + (n1 : Int) + 2 * (n2 : Int)) W1 (HH.out.e.stay HB1.out) (by omega) (by omega)).mono ?_
 rintro e W2 ⟨rfl, hq⟩
 have HB2 := hid (HB1.out.trans (hq.mono HB1.out.size))
 clear hq
 go_wp2
 go_ret
 exact ⟨rfl, HB2.out⟩
theorem ZB6 (lo n1 n2 n6 : Nat) (K nx mm cc : Int) (a1 a2 a6 : Option Addr) (k1 k2 k6 : Nat) (xs ys zs : List Value) (w : World) (o1 : w.ownsRow lo 9 1 (.slice a1 n1 k1) n1 xs) (o2 : w.ownsRow lo 107 2 (.slice a2 n2 k2) n2 ys) (o6 : RowL w lo 57 6 (.slice a6 n6 k6) n6 zs) (hK : 0 < K) (hn : K + (n1 : Int) + 2 * (n2 : Int) + 6 * (n6 : Int) ≤ 1000000000) :
  Calls Tryz.prog 16 #[.agg #[.slice a1 n1 k1, .slice a2 n2 k2, .slice a6 n6 k6, .int .i64 nx, .int .i64 mm, .int .i64 cc], .int .i64 K] w fun e w' => e = .returned (.int .i64 (K + (n1 : Int) + 2 * (n2 : Int) + 6 * (n6 : Int))) ∧ MkSv w' lo n1 n2 n6 K (.slice a1 n1 k1) (.slice a2 n2 k2) (.slice a6 n6 k6) ∧ Chg (SvB (.slice a1 n1 k1) (.slice a2 n2 k2) (.slice a6 n6 k6) n6) w w' := by
 have HB := hid (show Below w.heap.size w (w.alloc (.cells #[.slice a1 n1 k1, .slice a2 n2 k2, .slice a6 n6 k6, .int .i64 nx, .int .i64 mm, .int .i64 cc] 38)) from (bR _ _).alloc nL _)
 have HX := hid (heap_alloc_new w (.cells #[.slice a1 n1 k1, .slice a2 n2 k2, .slice a6 n6 k6, .int .i64 nx, .int .i64 mm, .int .i64 cc] 38))
 have b3 : ((K + (n1 : Int) + 2 * (n2 : Int) + 6 * (n6 : Int)) < 0) = False := by simp; omega
 go_enter Tryz.func16, Tryz.ntmps16
 go_upto_region 1 with fail
 generalize w.alloc (.cells #[.slice a1 n1 k1, .slice a2 n2 k2, .slice a6 n6 k6, .int .i64 nx, .int .i64 mm, .int .i64 cc] 38) = W at *
 have x0 : W.cell? ⟨w.heap.size, 0, none⟩ = some (.slice a1 n1 k1) := ce HX.out rfl
 have x1 : W.cell? ⟨w.heap.size, 1, none⟩ = some (.slice a2 n2 k2) := ce HX.out rfl
 have x2 : W.cell? ⟨w.heap.size, 2, none⟩ = some (.slice a6 n6 k6) := ce HX.out rfl
 have x3 : W.cell? ⟨w.heap.size, 3, none⟩ = some (.int .i64 nx) := ce HX.out rfl
 go_wp2_with fail
 refine (ZBf lo n1 n2 n6 K nx a1 a2 a6 k1 k2 k6 xs ys zs W (ZAE o1 HB.out) (ZAE o2 HB.out) (o6.stay HB.out) hK hn).mono ?_
 rintro e W2 ⟨rfl, hm, hc⟩
 have HM := hid hm
 have HC := hid hc
 clear hm hc
 go_wp2
 go_ret
 exact ⟨rfl, HM.out, (Chg.of_below HB.out).trans HC.out⟩
theorem ZBF (lo n1 n2 n6 : Nat) (K nx mm cc : Int) (a1 a2 a6 : Option Addr) (k1 k2 k6 : Nat)  (w : World) (h : MkSv w lo n1 n2 n6 K (.slice a1 n1 k1) (.slice a2 n2 k2) (.slice a6 n6 k6)) (hK : 0 < K) (hn : K + (n1 : Int) + 2 * (n2 : Int) + 6 * (n6 : Int) ≤ 1000000000) :
  Calls Tryz.prog 17 #[.agg #[.slice a1 n1 k1, .slice a2 n2 k2, .slice a6 n6 k6, .int .i64 nx, .int .i64 mm, .int .i64 cc], .int .i64 K] w fun e w' => e = .returned (.int .i64 (K + (n1 : Int) + 2 * (n2 : Int) + 6 * (n6 : Int))) ∧ Below w.heap.size w w' := by
 have HB := hid (show Below w.heap.size w (w.alloc (.cells #[.slice a1 n1 k1, .slice a2 n2 k2, .slice a6 n6 k6, .int .i64 nx, .int .i64 mm, .int .i64 cc] 38)) from (bR _ _).alloc nL _)
 have HX := hid (heap_alloc_new w (.cells #[.slice a1 n1 k1, .slice a2 n2 k2, .slice a6 n6 k6, .int .i64 nx, .int .i64 mm, .int .i64 cc] 38))
 have b3 : ((K + (n1 : Int) + 2 * (n2 : Int) + 6 * (n6 : Int)) < 0) = False := by simp; omega
 go_enter Tryz.func17, Tryz.ntmps17
 go_upto_region 1 with fail
 generalize w.alloc (.cells #[.slice a1 n1 k1, .slice a2 n2 k2, .slice a6 n6 k6, .int .i64 nx, .int .i64 mm, .int .i64 cc] 38) = W at *
 have x0 : W.cell? ⟨w.heap.size, 0, none⟩ = some (.slice a1 n1 k1) := ce HX.out rfl
 have x1 : W.cell? ⟨w.heap.size, 1, none⟩ = some (.slice a2 n2 k2) := ce HX.out rfl
 have x2 : W.cell? ⟨w.heap.size, 2, none⟩ = some (.slice a6 n6 k6) := ce HX.out rfl
 have x3 : W.cell? ⟨w.heap.size, 3, none⟩ = some (.int .i64 nx) := ce HX.out rfl
 go_wp2_with fail
 refine (ZDH lo n1 n2 n6 K nx a1 a2 a6 k1 k2 k6 W (h.stay HB.out) hK hn).mono ?_
 rintro e W2 ⟨rfl, hq⟩
 have HB2 := hid (HB.out.trans (hq.mono HB.out.size))
 clear hq
 go_wp2
 go_ret
 exact ⟨rfl, HB2.out⟩
theorem ZAk (a1 a2 a6 b1 b2 b6 : Option Addr) (k1 k2 k6 c1 c2 c6 : Nat) (ss : List ByteArray) (fs : List Pr) (es : List Ev) (nx mm cc : Int) (w : World) (hD : DefSl w a1 a2 k1 k2 ss fs) (hE : EvSl w (.slice a6 es.length k6) es) (hD' : DefSl w b1 b2 c1 c2 ss fs) (hE' : EvSl w (.slice b6 es.length c6) es) (n1 : ss.length ≤ maxLen) (n2 : fs.length ≤ maxLen) (n6 : es.length ≤ maxLen) :
  Calls Tryz.prog 11 #[.agg #[.slice a1 ss.length k1, .slice a2 fs.length k2, .slice a6 es.length k6, .int .i64 nx, .int .i64 mm, .int .i64 cc], .agg #[.slice b1 ss.length c1, .slice b2 fs.length c2, .slice b6 es.length c6, .int .i64 nx, .int .i64 mm, .int .i64 cc]] w fun e w' => e = .returned (.bool true) ∧ Below w.heap.size w w' := by
 have HB := hid (below2 w (.cells #[.slice a1 ss.length k1, .slice a2 fs.length k2, .slice a6 es.length k6, .int .i64 nx, .int .i64 mm, .int .i64 cc] 38) (.cells #[.slice b1 ss.length c1, .slice b2 fs.length c2, .slice b6 es.length c6, .int .i64 nx, .int .i64 mm, .int .i64 cc] 38))
 obtain ⟨hx, hy⟩ := new2o w (.cells #[.slice a1 ss.length k1, .slice a2 fs.length k2, .slice a6 es.length k6, .int .i64 nx, .int .i64 mm, .int .i64 cc] 38) (.cells #[.slice b1 ss.length c1, .slice b2 fs.length c2, .slice b6 es.length c6, .int .i64 nx, .int .i64 mm, .int .i64 cc] 38)
 have HX := hid hx
 have HY := hid hy
 have cE := hid (fun V (hV : Below w.heap.size w V) => ZBd a1 a2 a6 b1 b2 b6 k1 k2 k6 c1 c2 c6 ss fs es nx V (hD.stay hV) (hE.stay hV nL) (hD'.stay hV) (hE'.stay hV nL) n1 n2 n6)
 clear hx hy hD hE hD' hE'
 go_enter Tryz.func11, Tryz.ntmps11
 go_upto_region 1 with fail
 generalize (w.alloc (.cells #[.slice a1 ss.length k1, .slice a2 fs.length k2, .slice a6 es.length k6, .int .i64 nx, .int .i64 mm, .int .i64 cc] 38)).alloc (.cells #[.slice b1 ss.length c1, .slice b2 fs.length c2, .slice b6 es.length c6, .int .i64 nx, .int .i64 mm, .int .i64 cc] 38) = W at *
 have x0 : W.cell? ⟨w.heap.size, 0, none⟩ = some (.slice a1 ss.length k1) := ce HX.out rfl
 have y0 : W.cell? ⟨w.heap.size + 1, 0, none⟩ = some (.slice b1 ss.length c1) := ce HY.out rfl
 have x1 : W.cell? ⟨w.heap.size, 1, none⟩ = some (.slice a2 fs.length k2) := ce HX.out rfl
 have y1 : W.cell? ⟨w.heap.size + 1, 1, none⟩ = some (.slice b2 fs.length c2) := ce HY.out rfl
 have x2 : W.cell? ⟨w.heap.size, 2, none⟩ = some (.slice a6 es.length k6) := ce HX.out rfl
 have y2 : W.cell? ⟨w.heap.size + 1, 2, none⟩ = some (.slice b6 es.length c6) := ce HY.out rfl
 have x3 : W.cell? ⟨w.heap.size, 3, none⟩ = some (.int .i64 nx) := ce HX.out rfl
 have y3 : W.cell? ⟨w.heap.size + 1, 3, none⟩ = some (.int .i64 nx) := ce HY.out rfl
 go_wp2_with fail
 refine (cE.out W HB.out).mono ?_
 rintro e W1 ⟨rfl, hq⟩
 have HB1 := hid (HB.out.trans (hq.mono HB.out.size))
 have HX1 := hid ((hq.block _ (ZAA HX.out)).trans HX.out)
 have HY1 := hid ((hq.block _ (ZAA HY.out)).trans HY.out)
 clear hq x0 x1 x2 x3 y0 y1 y2 y3
 have x4 : W1.cell? ⟨w.heap.size, 4, none⟩ = some (.int .i64 mm) := ce HX1.out rfl
 have x5 : W1.cell? ⟨w.heap.size, 5, none⟩ = some (.int .i64 cc) := ce HX1.out rfl
 have y4 : W1.cell? ⟨w.heap.size + 1, 4, none⟩ = some (.int .i64 mm) := ce HY1.out rfl
 have y5 : W1.cell? ⟨w.heap.size + 1, 5, none⟩ = some (.int .i64 cc) := ce HY1.out rfl
 go_wp2
 go_ret
 exact ⟨rfl, HB1.out⟩
end Go.Proofs.YtookchpdbilbcaaGreatDoor
