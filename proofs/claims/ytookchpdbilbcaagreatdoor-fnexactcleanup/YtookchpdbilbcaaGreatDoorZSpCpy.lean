/-
 What spec.l06Copy answers: the same Service in rows of its own: a contract over the seat's program. (Made by mkcpy.py.)
-/
import Derived.Test.YtookchpdbilbcaaGreatDoorZRowL4
import Derived.Test.YtookchpdbilbcaaGreatDoorZDfLaw5
import Derived.Test.YtookchpdbilbcaaGreatDoorZEvX11
import Derived.Deep.CutRange
set_option maxRecDepth 100000
set_option maxHeartbeats 8000000
namespace Go.Proofs.YtookchpdbilbcaaGreatDoor
open Go.RowKit Go.Sort
theorem ZAZ {w w' : World} {b1 b2 s1 s2 n1 n2 : Nat} {e1 e2 : TypeId} {v u : Value} {xs ys : List Value} (h : w.ownsRow b1 e1 s1 v n1 xs) (h' : w.ownsRow b2 e2 s2 u n2 ys) (hne : e1 ≠ e2) (hg : w.grownBy w' u.ownBlock) : w'.ownsRow b1 e1 s1 v n1 xs := by
 refine h.kept hg ?_
 cases hv : v.ownBlock with
 | none => exact .inl rfl
 | some g => exact .inr (fun e => ZBX h h' hne g hv e.symm)
structure CpS (B : Nat) (w W : World) (a1 a2 a6 : Option Addr) (k1 k2 k6 : Nat) (ss : List ByteArray) (fs : List Pr) (es : List Ev) (nx : Int) (listed : Array Bool) (x3 x4 x5 x6 x7 x8 x9 x10 x11 x12 x13 x14 x15 x16 x17 x18 x19 x20 : Value) (X : World) : Prop where
 b : Below B W X
 p0 : listed.getD 0 false = true → listed.getD 4 false = false → X.ownsRow B 9 1 x3 0 []
 p1 : listed.getD 1 false = true → x4 = .pointer (some ⟨w.heap.size, 0, none⟩)
 p2 : listed.getD 2 false = true → x5 = .pointer (some ⟨w.heap.size, 0, none⟩)
 p3 : listed.getD 3 false = true → x6 = .slice a1 ss.length k1
 p4 : listed.getD 4 false = true → X.ownsRow B 9 1 x7 ss.length (ss.map Value.string)
 p5 : listed.getD 5 false = true → listed.getD 9 false = false → X.ownsRow B 107 2 x8 0 []
 p6 : listed.getD 6 false = true → x9 = .pointer (some ⟨w.heap.size, 0, none⟩)
 p7 : listed.getD 7 false = true → x10 = .pointer (some ⟨w.heap.size, 1, none⟩)
 p8 : listed.getD 8 false = true → x11 = .slice a2 fs.length k2
 p9 : listed.getD 9 false = true → X.ownsRow B 107 2 x12 fs.length (fs.flatMap Pr.cells)
 p10 : listed.getD 10 false = true → x13 = .agg #[x7, x12] ∧ listed.getD 4 false = true ∧ listed.getD 9 false = true
 p11 : listed.getD 11 false = true → listed.getD 14 false = false → X.ownsRow B 57 6 x14 0 []
 p12 : listed.getD 12 false = true → x15 = .pointer (some ⟨w.heap.size, 2, none⟩)
 p13 : listed.getD 13 false = true → x16 = .slice a6 es.length k6
 p14 : listed.getD 14 false = true → X.ownsRow B 57 6 x17 es.length (es.flatMap Ev.cells)
 p15 : listed.getD 15 false = true → x18 = .pointer (some ⟨w.heap.size, 3, none⟩)
 p16 : listed.getD 16 false = true → x19 = .int .i64 nx
 p17 : listed.getD 17 false = true → x20 = .agg #[x7, x12, x17, .int .i64 nx] ∧ listed.getD 4 false = true ∧ listed.getD 9 false = true ∧ listed.getD 14 false = true
def CpF (w : World) (ss : List ByteArray) (fs : List Pr) (es : List Ev) (nx : Int) (X : World) : Prop := ∃ b1 b2 b6 c1 c2 c6, X.heap[w.heap.size + 1]? = some (.cells #[.slice b1 ss.length c1, .slice b2 fs.length c2, .slice b6 es.length c6, .int .i64 nx] 36 (0, 0)) ∧ SvOwn X w.heap.size (.slice b1 ss.length c1) (.slice b2 fs.length c2) (.slice b6 es.length c6) ss fs es ∧ Below w.heap.size w X
def CpR (B : Nat) (w W : World) (a1 a2 a6 : Option Addr) (k1 k2 k6 : Nat) (ss : List ByteArray) (fs : List Pr) (es : List Ev) (nx : Int) (listed : Array Bool) (a : Act) (X : World) : Prop :=
 ∃ x3 x4 x5 x6 x7 x8 x9 x10 x11 x12 x13 x14 x15 x16 x17 x18 x19 x20 : Value, a = { tmps := #[svV a1 a2 a6 k1 k2 k6 ss fs es nx, .pointer (some ⟨w.heap.size, 0, none⟩), .pointer (some ⟨w.heap.size + 1, 0, none⟩), x3, x4, x5, x6, x7, x8, x9, x10, x11, x12, x13, x14, x15, x16, x17, x18, x19, x20], defers := [] } ∧
  ((listed.getD 18 false = true ∧ (∀ i, i < 18 → listed.getD i false = true) ∧ CpF w ss fs es nx X) ∨ (listed.getD 18 false = false ∧ CpS B w W a1 a2 a6 k1 k2 k6 ss fs es nx listed x3 x4 x5 x6 x7 x8 x9 x10 x11 x12 x13 x14 x15 x16 x17 x18 x19 x20 X))
theorem ZFX (a1 a2 a6 : Option Addr) (k1 k2 k6 : Nat) (ss : List ByteArray) (fs : List Pr) (es : List Ev) (nx : Int) (w : World) (hD : DefSl w a1 a2 k1 k2 ss fs) (hE : EvSl w (.slice a6 es.length k6) es) (n1 : ss.length ≤ 1048576) (n2 : fs.length ≤ 1048576) (n6 : es.length ≤ 1048576) :
  Calls Tryz.prog 35 #[svV a1 a2 a6 k1 k2 k6 ss fs es nx] w fun x w' => ∃ b1 b2 b6 c1 c2 c6, x = .returned (svV b1 b2 b6 c1 c2 c6 ss fs es nx) ∧ SvOwn w' w.heap.size (.slice b1 ss.length c1) (.slice b2 fs.length c2) (.slice b6 es.length c6) ss fs es ∧ Below w.heap.size w w' := by
 have mixed : Tryz.prog.follows .mixedOrders = true := by kernel_rfl
 obtain ⟨i0, hi, hz0, hz1, hz2⟩ := info_parts Tryz.infoStr
 obtain ⟨j0, hj, hj0, hj1, hj2⟩ := info_parts Tryz.infoFlow
 obtain ⟨m0, hm, hm0, hm1, hm2⟩ := info_parts Tryz.infoEvt
 have hbW : Below w.heap.size w ((w.alloc (.cells #[.slice a1 ss.length k1, .slice a2 fs.length k2, .slice a6 es.length k6, .int .i64 nx] 36)).alloc (.cells #[.slice none 0 0, .slice none 0 0, .slice none 0 0, .int .i64 0] 36)) := below2 _ _ _
 have HZW := hid (show ((w.alloc (.cells #[.slice a1 ss.length k1, .slice a2 fs.length k2, .slice a6 es.length k6, .int .i64 nx] 36)).alloc (.cells #[.slice none 0 0, .slice none 0 0, .slice none 0 0, .int .i64 0] 36)).heap.size = w.heap.size + 1 + 1 by simp)
 have hXB := heap_alloc_new (w.alloc (.cells #[.slice a1 ss.length k1, .slice a2 fs.length k2, .slice a6 es.length k6, .int .i64 nx] 36)) (.cells #[.slice none 0 0, .slice none 0 0, .slice none 0 0, .int .i64 0] 36)
 have hXA := (Below.heap_alloc (w.alloc (.cells #[.slice a1 ss.length k1, .slice a2 fs.length k2, .slice a6 es.length k6, .int .i64 nx] 36)) (.cells #[.slice none 0 0, .slice none 0 0, .slice none 0 0, .int .i64 0] 36) w.heap.size (by simp)).trans (heap_alloc_new w (.cells #[.slice a1 ss.length k1, .slice a2 fs.length k2, .slice a6 es.length k6, .int .i64 nx] 36))
 rw [World.size_alloc] at hXB
 have hDW := hD.stay hbW
 have hEW := hE.stay hbW nL
 go_enter Tryz.func35, Tryz.ntmps35
 go_upto_region 1 with fail
 generalize ((w.alloc (.cells #[.slice a1 ss.length k1, .slice a2 fs.length k2, .slice a6 es.length k6, .int .i64 nx] 36)).alloc (.cells #[.slice none 0 0, .slice none 0 0, .slice none 0 0, .int .i64 0] 36)) = W at *
 refine ZAR mixed (CpR W.heap.size w W a1 a2 a6 k1 k2 k6 ss fs es nx) ?ac ?start ?step ?fin
 case ac => exact ZCG (by kernel_rfl)
 case start =>
  refine ⟨undef, undef, undef, undef, undef, undef, undef, undef, undef, undef, undef, undef, undef, undef, undef, undef, undef, undef, rfl, .inr ⟨rfl, ?_⟩⟩
  constructor
  ·exact (Below.refl _ W).drew
  all_goals (intro h; simp at h)
 case step =>
  rintro i listed a X ⟨x3, x4, x5, x6, x7, x8, x9, x10, x11, x12, x13, x14, x15, x16, x17, x18, x19, x20, rfl, hR⟩ hun ⟨o, ho, hdep⟩
  have hlt : i < 19 := (Array.getElem?_eq_some_iff.1 ho).1
  rcases hR with ⟨h18, hall, _⟩ | ⟨h18, hS⟩
  ·exfalso
   by_cases e : i = 18
   ·subst e
    rw [Array.getD_eq_getD_getElem?] at hun h18
    cases hq : listed[18]? with
    | none => rw [hq] at h18; cases h18
    | some q => rw [hq] at h18 hun; simp at h18 hun; rw [h18] at hun; cases hun
   ·have h := hall i (by omega)
    rw [Array.getD_eq_getD_getElem?] at hun h
    cases hq : listed[i]? with
    | none => rw [hq] at h; cases h
    | some q => rw [hq] at h hun; simp at h hun; rw [h] at hun; cases hun
  ·have c0 : X.cell? ⟨w.heap.size, 0, none⟩ = some (.slice a1 ss.length k1) := (hS.b.cell (p := ⟨w.heap.size, 0, none⟩) (ZAA hXA)).trans (ce hXA rfl)
   have c1 : X.cell? ⟨w.heap.size, 1, none⟩ = some (.slice a2 fs.length k2) := (hS.b.cell (p := ⟨w.heap.size, 1, none⟩) (ZAA hXA)).trans (ce hXA rfl)
   have c2 : X.cell? ⟨w.heap.size, 2, none⟩ = some (.slice a6 es.length k6) := (hS.b.cell (p := ⟨w.heap.size, 2, none⟩) (ZAA hXA)).trans (ce hXA rfl)
   have c3 : X.cell? ⟨w.heap.size, 3, none⟩ = some (.int .i64 nx) := (hS.b.cell (p := ⟨w.heap.size, 3, none⟩) (ZAA hXA)).trans (ce hXA rfl)
   match i, hlt with
   | 0, _ =>
    obtain rfl := Option.some.inj ho
    refine ZAH rfl rfl ?_
    go_simp
    refine ⟨.slice (some ⟨X.heap.size, 0, none⟩) 0 0, x4, x5, x6, x7, x8, x9, x10, x11, x12, x13, x14, x15, x16, x17, x18, x19, x20, rfl, .inr ⟨by rw [getD_set_ne false (by decide)]; exact h18, ?_⟩⟩
    constructor
    ·exact hS.b.alloc hS.b.size _
    ·intro _ _; exact ZCs X 1 9 hS.b.size
    ·exact fun h => hS.p1 (gO h)
    ·exact fun h => hS.p2 (gO h)
    ·exact fun h => hS.p3 (gO h)
    ·exact fun h => (hS.p4 (gO h)).alloc _
    ·exact fun h h' => (hS.p5 (gO h) (gF h')).alloc _
    ·exact fun h => hS.p6 (gO h)
    ·exact fun h => hS.p7 (gO h)
    ·exact fun h => hS.p8 (gO h)
    ·exact fun h => (hS.p9 (gO h)).alloc _
    ·exact fun h => ⟨(hS.p10 (gO h)).1, getD_set_true (hS.p10 (gO h)).2.1, getD_set_true (hS.p10 (gO h)).2.2⟩
    ·exact fun h h' => (hS.p11 (gO h) (gF h')).alloc _
    ·exact fun h => hS.p12 (gO h)
    ·exact fun h => hS.p13 (gO h)
    ·exact fun h => (hS.p14 (gO h)).alloc _
    ·exact fun h => hS.p15 (gO h)
    ·exact fun h => hS.p16 (gO h)
    ·exact fun h => ⟨(hS.p17 (gO h)).1, getD_set_true (hS.p17 (gO h)).2.1, getD_set_true (hS.p17 (gO h)).2.2.1, getD_set_true (hS.p17 (gO h)).2.2.2⟩
   | 1, _ =>
    obtain rfl := Option.some.inj ho
    refine ZAH rfl rfl ?_
    go_simp
    refine ⟨x3, .pointer (some ⟨w.heap.size, 0, none⟩), x5, x6, x7, x8, x9, x10, x11, x12, x13, x14, x15, x16, x17, x18, x19, x20, rfl, .inr ⟨by rw [getD_set_ne false (by decide)]; exact h18, ?_⟩⟩
    constructor
    ·exact hS.b
    ·exact fun h h' => hS.p0 (gO h) (gF h')
    ·intro _; exact rfl
    ·exact fun h => hS.p2 (gO h)
    ·exact fun h => hS.p3 (gO h)
    ·exact fun h => hS.p4 (gO h)
    ·exact fun h h' => hS.p5 (gO h) (gF h')
    ·exact fun h => hS.p6 (gO h)
    ·exact fun h => hS.p7 (gO h)
    ·exact fun h => hS.p8 (gO h)
    ·exact fun h => hS.p9 (gO h)
    ·exact fun h => ⟨(hS.p10 (gO h)).1, getD_set_true (hS.p10 (gO h)).2.1, getD_set_true (hS.p10 (gO h)).2.2⟩
    ·exact fun h h' => hS.p11 (gO h) (gF h')
    ·exact fun h => hS.p12 (gO h)
    ·exact fun h => hS.p13 (gO h)
    ·exact fun h => hS.p14 (gO h)
    ·exact fun h => hS.p15 (gO h)
    ·exact fun h => hS.p16 (gO h)
    ·exact fun h => ⟨(hS.p17 (gO h)).1, getD_set_true (hS.p17 (gO h)).2.1, getD_set_true (hS.p17 (gO h)).2.2.1, getD_set_true (hS.p17 (gO h)).2.2.2⟩
   | 2, _ =>
    obtain rfl := Option.some.inj ho
    have q1 := hdep ⟨1, .data⟩ (by simp) rfl
    obtain rfl := hS.p1 q1
    refine ZAH rfl rfl ?_
    go_simp
    refine ⟨x3, .pointer (some ⟨w.heap.size, 0, none⟩), .pointer (some ⟨w.heap.size, 0, none⟩), x6, x7, x8, x9, x10, x11, x12, x13, x14, x15, x16, x17, x18, x19, x20, rfl, .inr ⟨by rw [getD_set_ne false (by decide)]; exact h18, ?_⟩⟩
    constructor
    ·exact hS.b
    ·exact fun h h' => hS.p0 (gO h) (gF h')
    ·exact fun h => hS.p1 (gO h)
    ·intro _; exact rfl
    ·exact fun h => hS.p3 (gO h)
    ·exact fun h => hS.p4 (gO h)
    ·exact fun h h' => hS.p5 (gO h) (gF h')
    ·exact fun h => hS.p6 (gO h)
    ·exact fun h => hS.p7 (gO h)
    ·exact fun h => hS.p8 (gO h)
    ·exact fun h => hS.p9 (gO h)
    ·exact fun h => ⟨(hS.p10 (gO h)).1, getD_set_true (hS.p10 (gO h)).2.1, getD_set_true (hS.p10 (gO h)).2.2⟩
    ·exact fun h h' => hS.p11 (gO h) (gF h')
    ·exact fun h => hS.p12 (gO h)
    ·exact fun h => hS.p13 (gO h)
    ·exact fun h => hS.p14 (gO h)
    ·exact fun h => hS.p15 (gO h)
    ·exact fun h => hS.p16 (gO h)
    ·exact fun h => ⟨(hS.p17 (gO h)).1, getD_set_true (hS.p17 (gO h)).2.1, getD_set_true (hS.p17 (gO h)).2.2.1, getD_set_true (hS.p17 (gO h)).2.2.2⟩
   | 3, _ =>
    obtain rfl := Option.some.inj ho
    have q2 := hdep ⟨2, .data⟩ (by simp) rfl
    obtain rfl := hS.p2 q2
    refine ZAH rfl rfl ?_
    go_simp
    refine ⟨x3, x4, .pointer (some ⟨w.heap.size, 0, none⟩), .slice a1 ss.length k1, x7, x8, x9, x10, x11, x12, x13, x14, x15, x16, x17, x18, x19, x20, rfl, .inr ⟨by rw [getD_set_ne false (by decide)]; exact h18, ?_⟩⟩
    constructor
    ·exact hS.b
    ·exact fun h h' => hS.p0 (gO h) (gF h')
    ·exact fun h => hS.p1 (gO h)
    ·exact fun h => hS.p2 (gO h)
    ·intro _; exact rfl
    ·exact fun h => hS.p4 (gO h)
    ·exact fun h h' => hS.p5 (gO h) (gF h')
    ·exact fun h => hS.p6 (gO h)
    ·exact fun h => hS.p7 (gO h)
    ·exact fun h => hS.p8 (gO h)
    ·exact fun h => hS.p9 (gO h)
    ·exact fun h => ⟨(hS.p10 (gO h)).1, getD_set_true (hS.p10 (gO h)).2.1, getD_set_true (hS.p10 (gO h)).2.2⟩
    ·exact fun h h' => hS.p11 (gO h) (gF h')
    ·exact fun h => hS.p12 (gO h)
    ·exact fun h => hS.p13 (gO h)
    ·exact fun h => hS.p14 (gO h)
    ·exact fun h => hS.p15 (gO h)
    ·exact fun h => hS.p16 (gO h)
    ·exact fun h => ⟨(hS.p17 (gO h)).1, getD_set_true (hS.p17 (gO h)).2.1, getD_set_true (hS.p17 (gO h)).2.2.1, getD_set_true (hS.p17 (gO h)).2.2.2⟩
   | 4, _ =>
    obtain rfl := Option.some.inj ho
    have q0 := hdep ⟨0, .data⟩ (by simp) rfl
    have q3 := hdep ⟨3, .data⟩ (by simp) rfl
    obtain rfl := hS.p3 q3
    have hO0 := hS.p0 q0 (ZAW hun)
    have hX := (hDW.h1.stay hS.b nL).cellsSl
    refine ZAH rfl rfl ?_
    refine ZAa _ _ 22 rfl W.heap.size 9 _ _ 1 16 Tryz.underlying22 hi hz0 hz1 hz2 rfl (by decide) _ 0 [] rfl hO0 ss.length _ _ rfl hX (by have := n1; unfold maxLen; omega) (by have := n1; omega) hS.b.size ?_
    intro v' X' ho' hg
    rw [Nat.zero_add, List.nil_append] at ho'
    refine ⟨x3, x4, x5, .slice a1 ss.length k1, v', x8, x9, x10, x11, x12, x13, x14, x15, x16, x17, x18, x19, x20, rfl, .inr ⟨by rw [getD_set_ne false (by decide)]; exact h18, ?_⟩⟩
    constructor
    ·exact hS.b.grown hg hS.b.size (fun k e => (hO0.lt k e).1)
    ·exact fun _ h' => uS h' hun
    ·exact fun h => hS.p1 (gO h)
    ·exact fun h => hS.p2 (gO h)
    ·exact fun h => hS.p3 (gO h)
    ·intro _; exact ho'
    ·exact fun h h' => ZAZ (hS.p5 (gO h) (gF h')) hO0 (by decide) hg
    ·exact fun h => hS.p6 (gO h)
    ·exact fun h => hS.p7 (gO h)
    ·exact fun h => hS.p8 (gO h)
    ·exact fun h => ZAZ (hS.p9 (gO h)) hO0 (by decide) hg
    ·exact fun h => absurd (hS.p10 (gO h)).2.1 (by rw [ZAW hun]; decide)
    ·exact fun h h' => ZAZ (hS.p11 (gO h) (gF h')) hO0 (by decide) hg
    ·exact fun h => hS.p12 (gO h)
    ·exact fun h => hS.p13 (gO h)
    ·exact fun h => ZAZ (hS.p14 (gO h)) hO0 (by decide) hg
    ·exact fun h => hS.p15 (gO h)
    ·exact fun h => hS.p16 (gO h)
    ·exact fun h => absurd (hS.p17 (gO h)).2.1 (by rw [ZAW hun]; decide)
   | 5, _ =>
    obtain rfl := Option.some.inj ho
    refine ZAH rfl rfl ?_
    go_simp
    refine ⟨x3, x4, x5, x6, x7, .slice (some ⟨X.heap.size, 0, none⟩) 0 0, x9, x10, x11, x12, x13, x14, x15, x16, x17, x18, x19, x20, rfl, .inr ⟨by rw [getD_set_ne false (by decide)]; exact h18, ?_⟩⟩
    constructor
    ·exact hS.b.alloc hS.b.size _
    ·exact fun h h' => (hS.p0 (gO h) (gF h')).alloc _
    ·exact fun h => hS.p1 (gO h)
    ·exact fun h => hS.p2 (gO h)
    ·exact fun h => hS.p3 (gO h)
    ·exact fun h => (hS.p4 (gO h)).alloc _
    ·intro _ _; exact ZCs X 2 107 hS.b.size
    ·exact fun h => hS.p6 (gO h)
    ·exact fun h => hS.p7 (gO h)
    ·exact fun h => hS.p8 (gO h)
    ·exact fun h => (hS.p9 (gO h)).alloc _
    ·exact fun h => ⟨(hS.p10 (gO h)).1, getD_set_true (hS.p10 (gO h)).2.1, getD_set_true (hS.p10 (gO h)).2.2⟩
    ·exact fun h h' => (hS.p11 (gO h) (gF h')).alloc _
    ·exact fun h => hS.p12 (gO h)
    ·exact fun h => hS.p13 (gO h)
    ·exact fun h => (hS.p14 (gO h)).alloc _
    ·exact fun h => hS.p15 (gO h)
    ·exact fun h => hS.p16 (gO h)
    ·exact fun h => ⟨(hS.p17 (gO h)).1, getD_set_true (hS.p17 (gO h)).2.1, getD_set_true (hS.p17 (gO h)).2.2.1, getD_set_true (hS.p17 (gO h)).2.2.2⟩
   | 6, _ =>
    obtain rfl := Option.some.inj ho
    refine ZAH rfl rfl ?_
    go_simp
    refine ⟨x3, x4, x5, x6, x7, x8, .pointer (some ⟨w.heap.size, 0, none⟩), x10, x11, x12, x13, x14, x15, x16, x17, x18, x19, x20, rfl, .inr ⟨by rw [getD_set_ne false (by decide)]; exact h18, ?_⟩⟩
    constructor
    ·exact hS.b
    ·exact fun h h' => hS.p0 (gO h) (gF h')
    ·exact fun h => hS.p1 (gO h)
    ·exact fun h => hS.p2 (gO h)
    ·exact fun h => hS.p3 (gO h)
    ·exact fun h => hS.p4 (gO h)
    ·exact fun h h' => hS.p5 (gO h) (gF h')
    ·intro _; exact rfl
    ·exact fun h => hS.p7 (gO h)
    ·exact fun h => hS.p8 (gO h)
    ·exact fun h => hS.p9 (gO h)
    ·exact fun h => ⟨(hS.p10 (gO h)).1, getD_set_true (hS.p10 (gO h)).2.1, getD_set_true (hS.p10 (gO h)).2.2⟩
    ·exact fun h h' => hS.p11 (gO h) (gF h')
    ·exact fun h => hS.p12 (gO h)
    ·exact fun h => hS.p13 (gO h)
    ·exact fun h => hS.p14 (gO h)
    ·exact fun h => hS.p15 (gO h)
    ·exact fun h => hS.p16 (gO h)
    ·exact fun h => ⟨(hS.p17 (gO h)).1, getD_set_true (hS.p17 (gO h)).2.1, getD_set_true (hS.p17 (gO h)).2.2.1, getD_set_true (hS.p17 (gO h)).2.2.2⟩
   | 7, _ =>
    obtain rfl := Option.some.inj ho
    have q6 := hdep ⟨6, .data⟩ (by simp) rfl
    obtain rfl := hS.p6 q6
    refine ZAH rfl rfl ?_
    go_simp
    refine ⟨x3, x4, x5, x6, x7, x8, .pointer (some ⟨w.heap.size, 0, none⟩), .pointer (some ⟨w.heap.size, 1, none⟩), x11, x12, x13, x14, x15, x16, x17, x18, x19, x20, rfl, .inr ⟨by rw [getD_set_ne false (by decide)]; exact h18, ?_⟩⟩
    constructor
    ·exact hS.b
    ·exact fun h h' => hS.p0 (gO h) (gF h')
    ·exact fun h => hS.p1 (gO h)
    ·exact fun h => hS.p2 (gO h)
    ·exact fun h => hS.p3 (gO h)
    ·exact fun h => hS.p4 (gO h)
    ·exact fun h h' => hS.p5 (gO h) (gF h')
    ·exact fun h => hS.p6 (gO h)
    ·intro _; exact rfl
    ·exact fun h => hS.p8 (gO h)
    ·exact fun h => hS.p9 (gO h)
    ·exact fun h => ⟨(hS.p10 (gO h)).1, getD_set_true (hS.p10 (gO h)).2.1, getD_set_true (hS.p10 (gO h)).2.2⟩
    ·exact fun h h' => hS.p11 (gO h) (gF h')
    ·exact fun h => hS.p12 (gO h)
    ·exact fun h => hS.p13 (gO h)
    ·exact fun h => hS.p14 (gO h)
    ·exact fun h => hS.p15 (gO h)
    ·exact fun h => hS.p16 (gO h)
    ·exact fun h => ⟨(hS.p17 (gO h)).1, getD_set_true (hS.p17 (gO h)).2.1, getD_set_true (hS.p17 (gO h)).2.2.1, getD_set_true (hS.p17 (gO h)).2.2.2⟩
   | 8, _ =>
    obtain rfl := Option.some.inj ho
    have q7 := hdep ⟨7, .data⟩ (by simp) rfl
    obtain rfl := hS.p7 q7
    refine ZAH rfl rfl ?_
    go_simp
    refine ⟨x3, x4, x5, x6, x7, x8, x9, .pointer (some ⟨w.heap.size, 1, none⟩), .slice a2 fs.length k2, x12, x13, x14, x15, x16, x17, x18, x19, x20, rfl, .inr ⟨by rw [getD_set_ne false (by decide)]; exact h18, ?_⟩⟩
    constructor
    ·exact hS.b
    ·exact fun h h' => hS.p0 (gO h) (gF h')
    ·exact fun h => hS.p1 (gO h)
    ·exact fun h => hS.p2 (gO h)
    ·exact fun h => hS.p3 (gO h)
    ·exact fun h => hS.p4 (gO h)
    ·exact fun h h' => hS.p5 (gO h) (gF h')
    ·exact fun h => hS.p6 (gO h)
    ·exact fun h => hS.p7 (gO h)
    ·intro _; exact rfl
    ·exact fun h => hS.p9 (gO h)
    ·exact fun h => ⟨(hS.p10 (gO h)).1, getD_set_true (hS.p10 (gO h)).2.1, getD_set_true (hS.p10 (gO h)).2.2⟩
    ·exact fun h h' => hS.p11 (gO h) (gF h')
    ·exact fun h => hS.p12 (gO h)
    ·exact fun h => hS.p13 (gO h)
    ·exact fun h => hS.p14 (gO h)
    ·exact fun h => hS.p15 (gO h)
    ·exact fun h => hS.p16 (gO h)
    ·exact fun h => ⟨(hS.p17 (gO h)).1, getD_set_true (hS.p17 (gO h)).2.1, getD_set_true (hS.p17 (gO h)).2.2.1, getD_set_true (hS.p17 (gO h)).2.2.2⟩
   | 9, _ =>
    obtain rfl := Option.some.inj ho
    have q5 := hdep ⟨5, .data⟩ (by simp) rfl
    have q8 := hdep ⟨8, .data⟩ (by simp) rfl
    obtain rfl := hS.p8 q8
    have hO0 := hS.p5 q5 (ZAW hun)
    have hX := (hDW.h2.stay hS.b nL).cellsSl
    refine ZAH rfl rfl ?_
    refine ZAa _ _ 31 rfl W.heap.size 107 _ _ 2 32 Tryz.underlying31 hj hj0 hj1 hj2 rfl (by decide) _ 0 [] rfl hO0 fs.length _ _ rfl hX (by have := n2; unfold maxLen; omega) (by have := n2; omega) hS.b.size ?_
    intro v' X' ho' hg
    rw [Nat.zero_add, List.nil_append] at ho'
    refine ⟨x3, x4, x5, x6, x7, x8, x9, x10, .slice a2 fs.length k2, v', x13, x14, x15, x16, x17, x18, x19, x20, rfl, .inr ⟨by rw [getD_set_ne false (by decide)]; exact h18, ?_⟩⟩
    constructor
    ·exact hS.b.grown hg hS.b.size (fun k e => (hO0.lt k e).1)
    ·exact fun h h' => ZAZ (hS.p0 (gO h) (gF h')) hO0 (by decide) hg
    ·exact fun h => hS.p1 (gO h)
    ·exact fun h => hS.p2 (gO h)
    ·exact fun h => hS.p3 (gO h)
    ·exact fun h => ZAZ (hS.p4 (gO h)) hO0 (by decide) hg
    ·exact fun _ h' => uS h' hun
    ·exact fun h => hS.p6 (gO h)
    ·exact fun h => hS.p7 (gO h)
    ·exact fun h => hS.p8 (gO h)
    ·intro _; exact ho'
    ·exact fun h => absurd (hS.p10 (gO h)).2.2 (by rw [ZAW hun]; decide)
    ·exact fun h h' => ZAZ (hS.p11 (gO h) (gF h')) hO0 (by decide) hg
    ·exact fun h => hS.p12 (gO h)
    ·exact fun h => hS.p13 (gO h)
    ·exact fun h => ZAZ (hS.p14 (gO h)) hO0 (by decide) hg
    ·exact fun h => hS.p15 (gO h)
    ·exact fun h => hS.p16 (gO h)
    ·exact fun h => absurd (hS.p17 (gO h)).2.2.1 (by rw [ZAW hun]; decide)
   | 10, _ =>
    obtain rfl := Option.some.inj ho
    have q4 := hdep ⟨4, .data⟩ (by simp) rfl
    have q9 := hdep ⟨9, .data⟩ (by simp) rfl
    obtain ⟨b1, d1, rfl⟩ := ZAD (hS.p4 q4)
    obtain ⟨b2, d2, rfl⟩ := ZAD (hS.p9 q9)
    refine ZAH rfl rfl ?_
    go_simp
    refine ⟨x3, x4, x5, x6, .slice b1 ss.length d1, x8, x9, x10, x11, .slice b2 fs.length d2, .agg #[.slice b1 ss.length d1, .slice b2 fs.length d2], x14, x15, x16, x17, x18, x19, x20, rfl, .inr ⟨by rw [getD_set_ne false (by decide)]; exact h18, ?_⟩⟩
    constructor
    ·exact hS.b
    ·exact fun h h' => hS.p0 (gO h) (gF h')
    ·exact fun h => hS.p1 (gO h)
    ·exact fun h => hS.p2 (gO h)
    ·exact fun h => hS.p3 (gO h)
    ·exact fun h => hS.p4 (gO h)
    ·exact fun h h' => hS.p5 (gO h) (gF h')
    ·exact fun h => hS.p6 (gO h)
    ·exact fun h => hS.p7 (gO h)
    ·exact fun h => hS.p8 (gO h)
    ·exact fun h => hS.p9 (gO h)
    ·intro _; exact ⟨rfl, getD_set_true q4, getD_set_true q9⟩
    ·exact fun h h' => hS.p11 (gO h) (gF h')
    ·exact fun h => hS.p12 (gO h)
    ·exact fun h => hS.p13 (gO h)
    ·exact fun h => hS.p14 (gO h)
    ·exact fun h => hS.p15 (gO h)
    ·exact fun h => hS.p16 (gO h)
    ·exact fun h => ⟨(hS.p17 (gO h)).1, getD_set_true (hS.p17 (gO h)).2.1, getD_set_true (hS.p17 (gO h)).2.2.1, getD_set_true (hS.p17 (gO h)).2.2.2⟩
   | 11, _ =>
    obtain rfl := Option.some.inj ho
    refine ZAH rfl rfl ?_
    go_simp
    refine ⟨x3, x4, x5, x6, x7, x8, x9, x10, x11, x12, x13, .slice (some ⟨X.heap.size, 0, none⟩) 0 0, x15, x16, x17, x18, x19, x20, rfl, .inr ⟨by rw [getD_set_ne false (by decide)]; exact h18, ?_⟩⟩
    constructor
    ·exact hS.b.alloc hS.b.size _
    ·exact fun h h' => (hS.p0 (gO h) (gF h')).alloc _
    ·exact fun h => hS.p1 (gO h)
    ·exact fun h => hS.p2 (gO h)
    ·exact fun h => hS.p3 (gO h)
    ·exact fun h => (hS.p4 (gO h)).alloc _
    ·exact fun h h' => (hS.p5 (gO h) (gF h')).alloc _
    ·exact fun h => hS.p6 (gO h)
    ·exact fun h => hS.p7 (gO h)
    ·exact fun h => hS.p8 (gO h)
    ·exact fun h => (hS.p9 (gO h)).alloc _
    ·exact fun h => ⟨(hS.p10 (gO h)).1, getD_set_true (hS.p10 (gO h)).2.1, getD_set_true (hS.p10 (gO h)).2.2⟩
    ·intro _ _; exact ZCs X 6 57 hS.b.size
    ·exact fun h => hS.p12 (gO h)
    ·exact fun h => hS.p13 (gO h)
    ·exact fun h => (hS.p14 (gO h)).alloc _
    ·exact fun h => hS.p15 (gO h)
    ·exact fun h => hS.p16 (gO h)
    ·exact fun h => ⟨(hS.p17 (gO h)).1, getD_set_true (hS.p17 (gO h)).2.1, getD_set_true (hS.p17 (gO h)).2.2.1, getD_set_true (hS.p17 (gO h)).2.2.2⟩
   | 12, _ =>
    obtain rfl := Option.some.inj ho
    refine ZAH rfl rfl ?_
    go_simp
    refine ⟨x3, x4, x5, x6, x7, x8, x9, x10, x11, x12, x13, x14, .pointer (some ⟨w.heap.size, 2, none⟩), x16, x17, x18, x19, x20, rfl, .inr ⟨by rw [getD_set_ne false (by decide)]; exact h18, ?_⟩⟩
    constructor
    ·exact hS.b
    ·exact fun h h' => hS.p0 (gO h) (gF h')
    ·exact fun h => hS.p1 (gO h)
    ·exact fun h => hS.p2 (gO h)
    ·exact fun h => hS.p3 (gO h)
    ·exact fun h => hS.p4 (gO h)
    ·exact fun h h' => hS.p5 (gO h) (gF h')
    ·exact fun h => hS.p6 (gO h)
    ·exact fun h => hS.p7 (gO h)
    ·exact fun h => hS.p8 (gO h)
    ·exact fun h => hS.p9 (gO h)
    ·exact fun h => ⟨(hS.p10 (gO h)).1, getD_set_true (hS.p10 (gO h)).2.1, getD_set_true (hS.p10 (gO h)).2.2⟩
    ·exact fun h h' => hS.p11 (gO h) (gF h')
    ·intro _; exact rfl
    ·exact fun h => hS.p13 (gO h)
    ·exact fun h => hS.p14 (gO h)
    ·exact fun h => hS.p15 (gO h)
    ·exact fun h => hS.p16 (gO h)
    ·exact fun h => ⟨(hS.p17 (gO h)).1, getD_set_true (hS.p17 (gO h)).2.1, getD_set_true (hS.p17 (gO h)).2.2.1, getD_set_true (hS.p17 (gO h)).2.2.2⟩
   | 13, _ =>
    obtain rfl := Option.some.inj ho
    have q12 := hdep ⟨12, .data⟩ (by simp) rfl
    obtain rfl := hS.p12 q12
    refine ZAH rfl rfl ?_
    go_simp
    refine ⟨x3, x4, x5, x6, x7, x8, x9, x10, x11, x12, x13, x14, .pointer (some ⟨w.heap.size, 2, none⟩), .slice a6 es.length k6, x17, x18, x19, x20, rfl, .inr ⟨by rw [getD_set_ne false (by decide)]; exact h18, ?_⟩⟩
    constructor
    ·exact hS.b
    ·exact fun h h' => hS.p0 (gO h) (gF h')
    ·exact fun h => hS.p1 (gO h)
    ·exact fun h => hS.p2 (gO h)
    ·exact fun h => hS.p3 (gO h)
    ·exact fun h => hS.p4 (gO h)
    ·exact fun h h' => hS.p5 (gO h) (gF h')
    ·exact fun h => hS.p6 (gO h)
    ·exact fun h => hS.p7 (gO h)
    ·exact fun h => hS.p8 (gO h)
    ·exact fun h => hS.p9 (gO h)
    ·exact fun h => ⟨(hS.p10 (gO h)).1, getD_set_true (hS.p10 (gO h)).2.1, getD_set_true (hS.p10 (gO h)).2.2⟩
    ·exact fun h h' => hS.p11 (gO h) (gF h')
    ·exact fun h => hS.p12 (gO h)
    ·intro _; exact rfl
    ·exact fun h => hS.p14 (gO h)
    ·exact fun h => hS.p15 (gO h)
    ·exact fun h => hS.p16 (gO h)
    ·exact fun h => ⟨(hS.p17 (gO h)).1, getD_set_true (hS.p17 (gO h)).2.1, getD_set_true (hS.p17 (gO h)).2.2.1, getD_set_true (hS.p17 (gO h)).2.2.2⟩
   | 14, _ =>
    obtain rfl := Option.some.inj ho
    have q11 := hdep ⟨11, .data⟩ (by simp) rfl
    have q13 := hdep ⟨13, .data⟩ (by simp) rfl
    obtain rfl := hS.p13 q13
    have hO0 := hS.p11 q11 (ZAW hun)
    have hX := (hEW.stay hS.b nL).cellsSl
    refine ZAH rfl rfl ?_
    refine ZAa _ _ 34 rfl W.heap.size 57 _ _ 6 64 Tryz.underlying34 hm hm0 hm1 hm2 rfl (by decide) _ 0 [] rfl hO0 es.length _ _ rfl hX (by have := n6; unfold maxLen; omega) (by have := n6; omega) hS.b.size ?_
    intro v' X' ho' hg
    rw [Nat.zero_add, List.nil_append] at ho'
    refine ⟨x3, x4, x5, x6, x7, x8, x9, x10, x11, x12, x13, x14, x15, .slice a6 es.length k6, v', x18, x19, x20, rfl, .inr ⟨by rw [getD_set_ne false (by decide)]; exact h18, ?_⟩⟩
    constructor
    ·exact hS.b.grown hg hS.b.size (fun k e => (hO0.lt k e).1)
    ·exact fun h h' => ZAZ (hS.p0 (gO h) (gF h')) hO0 (by decide) hg
    ·exact fun h => hS.p1 (gO h)
    ·exact fun h => hS.p2 (gO h)
    ·exact fun h => hS.p3 (gO h)
    ·exact fun h => ZAZ (hS.p4 (gO h)) hO0 (by decide) hg
    ·exact fun h h' => ZAZ (hS.p5 (gO h) (gF h')) hO0 (by decide) hg
    ·exact fun h => hS.p6 (gO h)
    ·exact fun h => hS.p7 (gO h)
    ·exact fun h => hS.p8 (gO h)
    ·exact fun h => ZAZ (hS.p9 (gO h)) hO0 (by decide) hg
    ·exact fun h => ⟨(hS.p10 (gO h)).1, getD_set_true (hS.p10 (gO h)).2.1, getD_set_true (hS.p10 (gO h)).2.2⟩
    ·exact fun _ h' => uS h' hun
    ·exact fun h => hS.p12 (gO h)
    ·exact fun h => hS.p13 (gO h)
    ·intro _; exact ho'
    ·exact fun h => hS.p15 (gO h)
    ·exact fun h => hS.p16 (gO h)
    ·exact fun h => absurd (hS.p17 (gO h)).2.2.2 (by rw [ZAW hun]; decide)
   | 15, _ =>
    obtain rfl := Option.some.inj ho
    refine ZAH rfl rfl ?_
    go_simp
    refine ⟨x3, x4, x5, x6, x7, x8, x9, x10, x11, x12, x13, x14, x15, x16, x17, .pointer (some ⟨w.heap.size, 3, none⟩), x19, x20, rfl, .inr ⟨by rw [getD_set_ne false (by decide)]; exact h18, ?_⟩⟩
    constructor
    ·exact hS.b
    ·exact fun h h' => hS.p0 (gO h) (gF h')
    ·exact fun h => hS.p1 (gO h)
    ·exact fun h => hS.p2 (gO h)
    ·exact fun h => hS.p3 (gO h)
    ·exact fun h => hS.p4 (gO h)
    ·exact fun h h' => hS.p5 (gO h) (gF h')
    ·exact fun h => hS.p6 (gO h)
    ·exact fun h => hS.p7 (gO h)
    ·exact fun h => hS.p8 (gO h)
    ·exact fun h => hS.p9 (gO h)
    ·exact fun h => ⟨(hS.p10 (gO h)).1, getD_set_true (hS.p10 (gO h)).2.1, getD_set_true (hS.p10 (gO h)).2.2⟩
    ·exact fun h h' => hS.p11 (gO h) (gF h')
    ·exact fun h => hS.p12 (gO h)
    ·exact fun h => hS.p13 (gO h)
    ·exact fun h => hS.p14 (gO h)
    ·intro _; exact rfl
    ·exact fun h => hS.p16 (gO h)
    ·exact fun h => ⟨(hS.p17 (gO h)).1, getD_set_true (hS.p17 (gO h)).2.1, getD_set_true (hS.p17 (gO h)).2.2.1, getD_set_true (hS.p17 (gO h)).2.2.2⟩
   | 16, _ =>
    obtain rfl := Option.some.inj ho
    have q15 := hdep ⟨15, .data⟩ (by simp) rfl
    obtain rfl := hS.p15 q15
    refine ZAH rfl rfl ?_
    go_simp
    refine ⟨x3, x4, x5, x6, x7, x8, x9, x10, x11, x12, x13, x14, x15, x16, x17, .pointer (some ⟨w.heap.size, 3, none⟩), .int .i64 nx, x20, rfl, .inr ⟨by rw [getD_set_ne false (by decide)]; exact h18, ?_⟩⟩
    constructor
    ·exact hS.b
    ·exact fun h h' => hS.p0 (gO h) (gF h')
    ·exact fun h => hS.p1 (gO h)
    ·exact fun h => hS.p2 (gO h)
    ·exact fun h => hS.p3 (gO h)
    ·exact fun h => hS.p4 (gO h)
    ·exact fun h h' => hS.p5 (gO h) (gF h')
    ·exact fun h => hS.p6 (gO h)
    ·exact fun h => hS.p7 (gO h)
    ·exact fun h => hS.p8 (gO h)
    ·exact fun h => hS.p9 (gO h)
    ·exact fun h => ⟨(hS.p10 (gO h)).1, getD_set_true (hS.p10 (gO h)).2.1, getD_set_true (hS.p10 (gO h)).2.2⟩
    ·exact fun h h' => hS.p11 (gO h) (gF h')
    ·exact fun h => hS.p12 (gO h)
    ·exact fun h => hS.p13 (gO h)
    ·exact fun h => hS.p14 (gO h)
    ·exact fun h => hS.p15 (gO h)
    ·intro _; exact rfl
    ·exact fun h => ⟨(hS.p17 (gO h)).1, getD_set_true (hS.p17 (gO h)).2.1, getD_set_true (hS.p17 (gO h)).2.2.1, getD_set_true (hS.p17 (gO h)).2.2.2⟩
   | 17, _ =>
    obtain rfl := Option.some.inj ho
    have q10 := hdep ⟨10, .data⟩ (by simp) rfl
    have q14 := hdep ⟨14, .data⟩ (by simp) rfl
    have q16 := hdep ⟨16, .data⟩ (by simp) rfl
    obtain ⟨rfl, q4, q9⟩ := hS.p10 q10
    obtain rfl := hS.p16 q16
    obtain ⟨b1, d1, rfl⟩ := ZAD (hS.p4 q4)
    obtain ⟨b2, d2, rfl⟩ := ZAD (hS.p9 q9)
    obtain ⟨b6, d6, rfl⟩ := ZAD (hS.p14 q14)
    refine ZAH rfl rfl ?_
    go_simp
    refine ⟨x3, x4, x5, x6, .slice b1 ss.length d1, x8, x9, x10, x11, .slice b2 fs.length d2, .agg #[.slice b1 ss.length d1, .slice b2 fs.length d2], x14, x15, x16, .slice b6 es.length d6, x18, .int .i64 nx, .agg #[.slice b1 ss.length d1, .slice b2 fs.length d2, .slice b6 es.length d6, .int .i64 nx], rfl, .inr ⟨by rw [getD_set_ne false (by decide)]; exact h18, ?_⟩⟩
    constructor
    ·exact hS.b
    ·exact fun h h' => hS.p0 (gO h) (gF h')
    ·exact fun h => hS.p1 (gO h)
    ·exact fun h => hS.p2 (gO h)
    ·exact fun h => hS.p3 (gO h)
    ·exact fun h => hS.p4 (gO h)
    ·exact fun h h' => hS.p5 (gO h) (gF h')
    ·exact fun h => hS.p6 (gO h)
    ·exact fun h => hS.p7 (gO h)
    ·exact fun h => hS.p8 (gO h)
    ·exact fun h => hS.p9 (gO h)
    ·exact fun h => ⟨(hS.p10 (gO h)).1, getD_set_true (hS.p10 (gO h)).2.1, getD_set_true (hS.p10 (gO h)).2.2⟩
    ·exact fun h h' => hS.p11 (gO h) (gF h')
    ·exact fun h => hS.p12 (gO h)
    ·exact fun h => hS.p13 (gO h)
    ·exact fun h => hS.p14 (gO h)
    ·exact fun h => hS.p15 (gO h)
    ·exact fun h => hS.p16 (gO h)
    ·intro _; exact ⟨rfl, getD_set_true q4, getD_set_true q9, getD_set_true q14⟩
   | 18, _ =>
    obtain rfl := Option.some.inj ho
    have q17 := hdep ⟨17, .data⟩ (by simp) rfl
    obtain ⟨rfl, q4, q9, q14⟩ := hS.p17 q17
    have hO4 := hS.p4 q4
    have hO9 := hS.p9 q9
    have hO14 := hS.p14 q14
    obtain ⟨b1, d1, rfl⟩ := ZAD hO4
    obtain ⟨b2, d2, rfl⟩ := ZAD hO9
    obtain ⟨b6, d6, rfl⟩ := ZAD hO14
    have hR := (hS.b.block _ (ZAA hXB)).trans hXB
    have r0 : X.cell? ⟨w.heap.size + 1, 0, none⟩ = some (.slice none 0 0) := ce hR rfl
    have r1 : X.cell? ⟨w.heap.size + 1, 1, none⟩ = some (.slice none 0 0) := ce hR rfl
    have r2 : X.cell? ⟨w.heap.size + 1, 2, none⟩ = some (.slice none 0 0) := ce hR rfl
    have r3 : X.cell? ⟨w.heap.size + 1, 3, none⟩ = some (.int .i64 0) := ce hR rfl
    have rf := Lib.frozen_of_heap hR
    refine ZAH rfl rfl ?_
    go_simp
    have hC : Chg (fun j => j = w.heap.size + 1) X ((((X.setCell ⟨w.heap.size + 1, 0, none⟩ (.slice b1 ss.length d1)).setCell ⟨w.heap.size + 1, 1, none⟩ (.slice b2 fs.length d2)).setCell ⟨w.heap.size + 1, 2, none⟩ (.slice b6 es.length d6)).setCell ⟨w.heap.size + 1, 3, none⟩ (.int .i64 nx)) := (((Chg.of_grown (p := fun j => j = w.heap.size + 1) (ZAF _ (w.heap.size + 1) 0 _) rfl).trans (Chg.of_grown (ZAF _ (w.heap.size + 1) 1 _) rfl)).trans (Chg.of_grown (ZAF _ (w.heap.size + 1) 2 _) rfl)).trans (Chg.of_grown (ZAF _ (w.heap.size + 1) 3 _) rfl)
    have hz := HZW.out
    have hzb := hS.b.size
    refine ⟨x3, x4, x5, x6, .slice b1 ss.length d1, x8, x9, x10, x11, .slice b2 fs.length d2, x13, x14, x15, x16, .slice b6 es.length d6, x18, x19, .agg #[.slice b1 ss.length d1, .slice b2 fs.length d2, .slice b6 es.length d6, .int .i64 nx], rfl, .inl ⟨ZAX hun, ?_, b1, b2, b6, d1, d2, d6, ?_, ?_, ?_⟩⟩
    ·intro j hj
     rw [getD_set_ne false (by omega)]
     match j, hj with
     | 0, _ => exact hdep ⟨0, .phase⟩ (by simp) rfl
     | 1, _ => exact hdep ⟨1, .phase⟩ (by simp) rfl
     | 2, _ => exact hdep ⟨2, .phase⟩ (by simp) rfl
     | 3, _ => exact hdep ⟨3, .phase⟩ (by simp) rfl
     | 4, _ => exact hdep ⟨4, .phase⟩ (by simp) rfl
     | 5, _ => exact hdep ⟨5, .phase⟩ (by simp) rfl
     | 6, _ => exact hdep ⟨6, .phase⟩ (by simp) rfl
     | 7, _ => exact hdep ⟨7, .phase⟩ (by simp) rfl
     | 8, _ => exact hdep ⟨8, .phase⟩ (by simp) rfl
     | 9, _ => exact hdep ⟨9, .phase⟩ (by simp) rfl
     | 10, _ => exact hdep ⟨10, .phase⟩ (by simp) rfl
     | 11, _ => exact hdep ⟨11, .phase⟩ (by simp) rfl
     | 12, _ => exact hdep ⟨12, .phase⟩ (by simp) rfl
     | 13, _ => exact hdep ⟨13, .phase⟩ (by simp) rfl
     | 14, _ => exact hdep ⟨14, .phase⟩ (by simp) rfl
     | 15, _ => exact hdep ⟨15, .phase⟩ (by simp) rfl
     | 16, _ => exact hdep ⟨16, .phase⟩ (by simp) rfl
     | 17, _ => exact hdep ⟨17, .phase⟩ (by simp) rfl
     | n + 18, h => exact absurd h (by omega)
    ·exact ZAG (L := [_, _, _, _]) (i := 3) (ZAG (L := [_, _, _, _]) (i := 2) (ZAG (L := [_, _, _, _]) (i := 1) (ZAG (L := [_, _, _, _]) (i := 0) hR _) _) _) _
    ·exact SvOwn.chg ⟨⟨ZAI hO4 (by omega), ZAI hO9 (by omega)⟩, ZAI hO14 (by omega)⟩ hC (ZAL hO4 hR (by decide)) (ZAL hO9 hR (by decide)) (ZAL hO14 hR (by decide))
    ·exact (hbW.trans (hS.b.mono (by omega))).trans (hC.below (by omega) (fun j (h : j = _) => by omega))
 case fin =>
  rintro listed a X ⟨x3, x4, x5, x6, x7, x8, x9, x10, x11, x12, x13, x14, x15, x16, x17, x18, x19, x20, rfl, hR⟩ hall
  have h18 : listed.getD 18 false = true := hall 18 (by decide)
  rcases hR with ⟨_, _, hF⟩ | ⟨h, _⟩
  ·obtain ⟨b1, b2, b6, c1, c2, c6, hb, hO, hB⟩ := hF
   have r0 : X.cell? ⟨w.heap.size + 1, 0, none⟩ = some (.slice b1 ss.length c1) := ce hb rfl
   have r1 : X.cell? ⟨w.heap.size + 1, 1, none⟩ = some (.slice b2 fs.length c2) := ce hb rfl
   have r2 : X.cell? ⟨w.heap.size + 1, 2, none⟩ = some (.slice b6 es.length c6) := ce hb rfl
   have r3 : X.cell? ⟨w.heap.size + 1, 3, none⟩ = some (.int .i64 nx) := ce hb rfl
   go_wp2
   exact bodyPost_ret (v := svV b1 b2 b6 c1 c2 c6 ss fs es nx) (by simp [results, Tryz.results35, go_sem, r0, r1, r2, r3]) rfl ⟨b1, b2, b6, c1, c2, c6, rfl, hO, hB⟩
  ·rw [h18] at h; cases h
end Go.Proofs.YtookchpdbilbcaaGreatDoor
