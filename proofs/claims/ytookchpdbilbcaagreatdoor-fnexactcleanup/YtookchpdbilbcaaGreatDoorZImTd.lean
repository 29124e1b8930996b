/-
 What (*impl.keeper).told answers: the Service, in memory of its own: a contract over the seat's program. (Made by mktd.py.)
-/
import Derived.Test.YtookchpdbilbcaaGreatDoorZImGa
import Derived.Test.YtookchpdbilbcaaGreatDoorZImHo2
set_option maxRecDepth 100000
set_option maxHeartbeats 4000000
namespace Go.Proofs.YtookchpdbilbcaaGreatDoor
open Go.RowKit Go.Sort Go.Maps
structure TdS (g z : Nat) (a1 a2 ua : Option Addr) (k1 k2 uc : Nat) (ss : List ByteArray) (fs : List Pr) (E : List Ev) (nx : Int) (V : World) (listed : Array Bool) (x3 x4 x5 x6 x7 x8 x9 x10 x11 x12 x13 x14 x15 x16 x17 x18 x19 x20 : Value) (X : World) : Prop where
 hb0 : listed.getD 18 false = false → Below V.heap.size V X
 p0 : listed.getD 0 false = true → x3 = .pointer (some ⟨g, 0, none⟩)
 p1 : listed.getD 1 false = true → x4 = .pointer (some ⟨g, 0, none⟩)
 p2 : listed.getD 2 false = true → x5 = .pointer (some ⟨g, 0, none⟩)
 p3 : listed.getD 3 false = true → x6 = .pointer (some ⟨g, 0, none⟩)
 p4 : listed.getD 4 false = true → x7 = .agg #[.slice a1 ss.length k1, .slice a2 fs.length k2]
 p5 : listed.getD 5 false = true → listed.getD 18 false = false → (∃ b1 b2 c1 c2, x8 = .agg #[.slice b1 ss.length c1, .slice b2 fs.length c2] ∧ DefOwn X V.heap.size (.slice b1 ss.length c1) (.slice b2 fs.length c2) ss fs)
 p6 : listed.getD 6 false = true → x9 = .pointer (some ⟨g, 0, none⟩)
 p7 : listed.getD 7 false = true → x10 = .pointer (some ⟨g, 0, none⟩)
 p8 : listed.getD 8 false = true → x11 = .pointer (some ⟨g, 0, none⟩)
 p9 : listed.getD 9 false = true → x12 = .pointer (some ⟨g, 2, none⟩)
 p10 : listed.getD 10 false = true → x13 = .slice ua E.length uc
 p11 : listed.getD 11 false = true → listed.getD 18 false = false → (∃ Bs, x14 = .func (.func 91) #[] #[.pointer (some ⟨Bs, 0, none⟩)] ∧ X.heap[Bs]? = some (.cells #[.slice ua E.length uc] 34 (0, 0)))
 p12 : listed.getD 12 false = true → listed.getD 18 false = false → (RowL X V.heap.size 57 6 x15 E.length (E.flatMap Ev.cells))
 p13 : listed.getD 13 false = true → x16 = .pointer (some ⟨g, 0, none⟩)
 p14 : listed.getD 14 false = true → x17 = .pointer (some ⟨g, 0, none⟩)
 p15 : listed.getD 15 false = true → x18 = .pointer (some ⟨g, 4, none⟩)
 p16 : listed.getD 16 false = true → x19 = .int .i64 nx
 p17 : listed.getD 17 false = true → listed.getD 18 false = false → (∃ b1 b2 c1 c2 v6a v6c, x20 = .agg #[.slice b1 ss.length c1, .slice b2 fs.length c2, .slice v6a E.length v6c, .int .i64 nx] ∧ DefOwn X V.heap.size (.slice b1 ss.length c1) (.slice b2 fs.length c2) ss fs ∧ RowL X V.heap.size 57 6 (.slice v6a E.length v6c) E.length (E.flatMap Ev.cells))
 p18 : listed.getD 18 false = true → (∀ j, j < 18 → listed.getD j false = true) ∧ (Below z V X ∧ ∃ b1 b2 c1 c2 v6a v6c, X.heap[z]? = some (.cells #[.slice b1 ss.length c1, .slice b2 fs.length c2, .slice v6a E.length v6c, .int .i64 nx] 36 (0, 0)) ∧ DefOwn X (z + 1) (.slice b1 ss.length c1) (.slice b2 fs.length c2) ss fs ∧ RowL X (z + 1) 57 6 (.slice v6a E.length v6c) E.length (E.flatMap Ev.cells))
def TdR (mk : Value → Value → Value → Value → Value → Value → Value → Value → Value → Value → Value → Value → Value → Value → Value → Value → Value → Value → Act) (g z : Nat) (a1 a2 ua : Option Addr) (k1 k2 uc : Nat) (ss : List ByteArray) (fs : List Pr) (E : List Ev) (nx : Int) (V : World) (listed : Array Bool) (a : Act) (X : World) : Prop := ∃ x3 x4 x5 x6 x7 x8 x9 x10 x11 x12 x13 x14 x15 x16 x17 x18 x19 x20 : Value, a = mk x3 x4 x5 x6 x7 x8 x9 x10 x11 x12 x13 x14 x15 x16 x17 x18 x19 x20 ∧ TdS g z a1 a2 ua k1 k2 uc ss fs E nx V listed x3 x4 x5 x6 x7 x8 x9 x10 x11 x12 x13 x14 x15 x16 x17 x18 x19 x20 X
theorem ZGl (w : World) (a : Option Addr) (c n : Nat) : Calls Tryz.prog 72 #[.slice a n c] w fun x w' => x = .returned (.func (.func 91) #[] #[.pointer (some ⟨w.heap.size, 0, none⟩)]) ∧ Below w.heap.size w w' ∧ w'.heap[w.heap.size]? = some (.cells #[.slice a n c] 34 (0, 0)) := by
 go_enter Tryz.func72, Tryz.ntmps72
 go_wp2
 go_ret
 exact ⟨rfl, (bR _ _).alloc nL _, heap_alloc_new _ _⟩
/-- A Service that is told, its Events' slice maybe cut. -/
structure SvL (w : World) (lo : Nat) (b1 b2 b6 : Option Addr) (c1 c2 c6 : Nat) (ss : List ByteArray) (fs : List Pr) (es : List Ev) : Prop where
 d : DefOwn w lo (.slice b1 ss.length c1) (.slice b2 fs.length c2) ss fs
 e : RowL w lo 57 6 (.slice b6 es.length c6) es.length (es.flatMap Ev.cells)
theorem ZHo (w : World) (g bm n lo : Nat) (a1 a2 : Option Addr) (k1 k2 : Nat) (u : Value) (ss : List ByteArray) (fs : List Pr) (E : List Ev) (nx : Int)
  (hH : His w lo g 94 bm n a1 a2 k1 k2 u [.int .i64 nx] ss fs E) (hD : DefSl w a1 a2 k1 k2 ss fs) (F1 : ∀ i, (h : i < ss.length) → ss[i].size ≤ 1000) (F2 : ∀ i, (h : i < fs.length) → fs[i].fst.size ≤ 1000 ∧ fs[i].snd.size ≤ 1000) (n1 : ss.length ≤ 1048576) (n2 : fs.length ≤ 1048576) (hF : ∀ x ∈ E, x.step.size ≤ 1048576 ∧ x.val.size ≤ 1048576) (hE : E.length ≤ 1048576) :
  Calls Tryz.prog 51 #[.pointer (some ⟨g, 0, none⟩)] w fun x w' => ∃ b1 b2 b6 c1 c2 c6, x = .returned (.agg #[.slice b1 ss.length c1, .slice b2 fs.length c2, .slice b6 E.length c6, .int .i64 nx]) ∧ SvL w' w.heap.size b1 b2 b6 c1 c2 c6 ss fs E ∧ Below w.heap.size w w' := by
 have mixed : Tryz.prog.follows .mixedOrders = true := by kernel_rfl
 obtain ⟨ua, uc, rfl⟩ := ZAD hH.own
 have hbv : Below w.heap.size w (w.alloc (.cells #[.slice none 0 0, .slice none 0 0, .slice none 0 0, .int .i64 0] 36)) := (bR _ _).alloc nL _
 have HR := hid (heap_alloc_new w (.cells #[.slice none 0 0, .slice none 0 0, .slice none 0 0, .int .i64 0] 36))
 have hzv : (w.alloc (.cells #[.slice none 0 0, .slice none 0 0, .slice none 0 0, .int .i64 0] 36)).heap.size = w.heap.size + 1 := by simp
 go_enter Tryz.func51, Tryz.ntmps51
 go_upto_region 1 with fail
 generalize w.alloc (.cells #[.slice none 0 0, .slice none 0 0, .slice none 0 0, .int .i64 0] 36) = V at *
 have HH := hid (hH.stay hbv)
 have hnH := ZAA hH.blk
 have cD := hid (fun (X : World) (hX : Below V.heap.size V X) => ZG8 a1 a2 k1 k2 ss fs X ((hD.stay hbv).stay hX) F1 F2 n1 n2)
 have cG := hid (fun (X : World) (Bs : Nat) (hX : Below V.heap.size V X) (hB : X.heap[Bs]? = some (.cells #[.slice ua E.length uc] 34 (0, 0))) => ZEw 91 X.heap.size #[.pointer (some ⟨Bs, 0, none⟩)] E X (enters_of Tryz.func91 (by kernel_rfl) rfl) (ZFJ tyG Bs ua uc E X X X.heap.size nL (bR _ _) ((ZAi HH.out.own).stay hX nL) (ce hB rfl) (ZAA hB) (Nat.le_trans hE (by decide))) nL hE hF (fun W v m ys h hm => ZFL W X.heap.size v m ys h hm))
 have HBv := hid hbv
 clear hD F1 F2 hF hbv hH
 refine ZAR mixed (TdR (fun x3 x4 x5 x6 x7 x8 x9 x10 x11 x12 x13 x14 x15 x16 x17 x18 x19 x20 => { tmps := #[.pointer (some ⟨g, 0, none⟩), undef, .pointer (some ⟨w.heap.size, 0, none⟩), x3, x4, x5, x6, x7, x8, x9, x10, x11, x12, x13, x14, x15, x16, x17, x18, x19, x20], defers := [] }) g w.heap.size a1 a2 ua k1 k2 uc ss fs E nx V) ?ac ?start ?step ?fin
 case ac => exact ZCG (by kernel_rfl)
 case start =>
  refine ⟨undef, undef, undef, undef, undef, undef, undef, undef, undef, undef, undef, undef, undef, undef, undef, undef, undef, undef, rfl, ?_⟩
  constructor
  ·exact fun _ => (Below.refl _ V).drew
  all_goals (intro h; simp at h)
 case step =>
  rintro i listed a X ⟨x3, x4, x5, x6, x7, x8, x9, x10, x11, x12, x13, x14, x15, x16, x17, x18, x19, x20, rfl, hS⟩ hun ⟨op9, ho, hdep⟩
  have hlt : i < 19 := (Array.getElem?_eq_some_iff.1 ho).1
  have hL : listed.getD 18 false = false := by
   by_cases hi : i = 18
   ·subst hi; exact ZAW hun
   ·exact Bool.eq_false_iff.2 (fun h => ZAB ((hS.p18 h).1 i (by omega)) hun)
  have hb9 := hS.hb0 hL
  have d0 : X.cell? ⟨g, 0, none⟩ = some (.slice a1 ss.length k1) := (hb9.cell (p := ⟨g, 0, none⟩) (ZAA HH.out.blk)).trans (ce HH.out.blk rfl)
  have d1 : X.cell? ⟨g, 1, none⟩ = some (.slice a2 fs.length k2) := (hb9.cell (p := ⟨g, 1, none⟩) (ZAA HH.out.blk)).trans (ce HH.out.blk rfl)
  have d2 : X.cell? ⟨g, 2, none⟩ = some (.slice ua E.length uc) := (hb9.cell (p := ⟨g, 2, none⟩) (ZAA HH.out.blk)).trans (ce HH.out.blk rfl)
  have d3 : X.cell? ⟨g, 3, none⟩ = some (.map (some bm)) := (hb9.cell (p := ⟨g, 3, none⟩) (ZAA HH.out.blk)).trans (ce HH.out.blk rfl)
  have d4 : X.cell? ⟨g, 4, none⟩ = some (.int .i64 nx) := (hb9.cell (p := ⟨g, 4, none⟩) (ZAA HH.out.blk)).trans (ce HH.out.blk rfl)
  match i, hlt with
  | 0, _ =>
   obtain rfl := Option.some.inj ho
   refine ZAH rfl rfl ?_
   go_simp
   refine ⟨.pointer (some ⟨g, 0, none⟩), x4, x5, x6, x7, x8, x9, x10, x11, x12, x13, x14, x15, x16, x17, x18, x19, x20, rfl, ?_⟩
   exact ⟨fun _ => hb9, fun _ => rfl, fun h => hS.p1 (gO h), fun h => hS.p2 (gO h), fun h => hS.p3 (gO h), fun h => hS.p4 (gO h), fun h h' => hS.p5 (gO h) (gF h'), fun h => hS.p6 (gO h), fun h => hS.p7 (gO h), fun h => hS.p8 (gO h), fun h => hS.p9 (gO h), fun h => hS.p10 (gO h), fun h h' => hS.p11 (gO h) (gF h'), fun h h' => hS.p12 (gO h) (gF h'), fun h => hS.p13 (gO h), fun h => hS.p14 (gO h), fun h => hS.p15 (gO h), fun h => hS.p16 (gO h), fun h h' => hS.p17 (gO h) (gF h'), fun h => ZAB ((hS.p18 (gO h)).1 0 (by decide)) hun⟩
  | 1, _ =>
   obtain rfl := Option.some.inj ho
   have q0 := hdep ⟨0, .data⟩ (by simp) rfl
   obtain rfl := hS.p0 q0
   refine ZAH rfl rfl ?_
   go_simp
   refine ⟨.pointer (some ⟨g, 0, none⟩), .pointer (some ⟨g, 0, none⟩), x5, x6, x7, x8, x9, x10, x11, x12, x13, x14, x15, x16, x17, x18, x19, x20, rfl, ?_⟩
   exact ⟨fun _ => hb9, fun h => hS.p0 (gO h), fun _ => rfl, fun h => hS.p2 (gO h), fun h => hS.p3 (gO h), fun h => hS.p4 (gO h), fun h h' => hS.p5 (gO h) (gF h'), fun h => hS.p6 (gO h), fun h => hS.p7 (gO h), fun h => hS.p8 (gO h), fun h => hS.p9 (gO h), fun h => hS.p10 (gO h), fun h h' => hS.p11 (gO h) (gF h'), fun h h' => hS.p12 (gO h) (gF h'), fun h => hS.p13 (gO h), fun h => hS.p14 (gO h), fun h => hS.p15 (gO h), fun h => hS.p16 (gO h), fun h h' => hS.p17 (gO h) (gF h'), fun h => ZAB ((hS.p18 (gO h)).1 1 (by decide)) hun⟩
  | 2, _ =>
   obtain rfl := Option.some.inj ho
   have q1 := hdep ⟨1, .data⟩ (by simp) rfl
   obtain rfl := hS.p1 q1
   refine ZAH rfl rfl ?_
   go_simp
   refine ⟨x3, .pointer (some ⟨g, 0, none⟩), .pointer (some ⟨g, 0, none⟩), x6, x7, x8, x9, x10, x11, x12, x13, x14, x15, x16, x17, x18, x19, x20, rfl, ?_⟩
   exact ⟨fun _ => hb9, fun h => hS.p0 (gO h), fun h => hS.p1 (gO h), fun _ => rfl, fun h => hS.p3 (gO h), fun h => hS.p4 (gO h), fun h h' => hS.p5 (gO h) (gF h'), fun h => hS.p6 (gO h), fun h => hS.p7 (gO h), fun h => hS.p8 (gO h), fun h => hS.p9 (gO h), fun h => hS.p10 (gO h), fun h h' => hS.p11 (gO h) (gF h'), fun h h' => hS.p12 (gO h) (gF h'), fun h => hS.p13 (gO h), fun h => hS.p14 (gO h), fun h => hS.p15 (gO h), fun h => hS.p16 (gO h), fun h h' => hS.p17 (gO h) (gF h'), fun h => ZAB ((hS.p18 (gO h)).1 2 (by decide)) hun⟩
  | 3, _ =>
   obtain rfl := Option.some.inj ho
   have q2 := hdep ⟨2, .data⟩ (by simp) rfl
   obtain rfl := hS.p2 q2
   refine ZAH rfl rfl ?_
   go_simp
   refine ⟨x3, x4, .pointer (some ⟨g, 0, none⟩), .pointer (some ⟨g, 0, none⟩), x7, x8, x9, x10, x11, x12, x13, x14, x15, x16, x17, x18, x19, x20, rfl, ?_⟩
   exact ⟨fun _ => hb9, fun h => hS.p0 (gO h), fun h => hS.p1 (gO h), fun h => hS.p2 (gO h), fun _ => rfl, fun h => hS.p4 (gO h), fun h h' => hS.p5 (gO h) (gF h'), fun h => hS.p6 (gO h), fun h => hS.p7 (gO h), fun h => hS.p8 (gO h), fun h => hS.p9 (gO h), fun h => hS.p10 (gO h), fun h h' => hS.p11 (gO h) (gF h'), fun h h' => hS.p12 (gO h) (gF h'), fun h => hS.p13 (gO h), fun h => hS.p14 (gO h), fun h => hS.p15 (gO h), fun h => hS.p16 (gO h), fun h h' => hS.p17 (gO h) (gF h'), fun h => ZAB ((hS.p18 (gO h)).1 3 (by decide)) hun⟩
  | 4, _ =>
   obtain rfl := Option.some.inj ho
   have q3 := hdep ⟨3, .data⟩ (by simp) rfl
   obtain rfl := hS.p3 q3
   refine ZAH rfl rfl ?_
   go_simp
   refine ⟨x3, x4, x5, .pointer (some ⟨g, 0, none⟩), .agg #[.slice a1 ss.length k1, .slice a2 fs.length k2], x8, x9, x10, x11, x12, x13, x14, x15, x16, x17, x18, x19, x20, rfl, ?_⟩
   exact ⟨fun _ => hb9, fun h => hS.p0 (gO h), fun h => hS.p1 (gO h), fun h => hS.p2 (gO h), fun h => hS.p3 (gO h), fun _ => rfl, fun h h' => hS.p5 (gO h) (gF h'), fun h => hS.p6 (gO h), fun h => hS.p7 (gO h), fun h => hS.p8 (gO h), fun h => hS.p9 (gO h), fun h => hS.p10 (gO h), fun h h' => hS.p11 (gO h) (gF h'), fun h h' => hS.p12 (gO h) (gF h'), fun h => hS.p13 (gO h), fun h => hS.p14 (gO h), fun h => hS.p15 (gO h), fun h => hS.p16 (gO h), fun h h' => hS.p17 (gO h) (gF h'), fun h => ZAB ((hS.p18 (gO h)).1 4 (by decide)) hun⟩
  | 5, _ =>
   obtain rfl := Option.some.inj ho
   have q4 := hdep ⟨4, .data⟩ (by simp) rfl
   obtain rfl := hS.p4 q4
   refine ZAH rfl rfl ?_
   go_simp
   refine (cD.out X hb9).mono ?_
   rintro x X' ⟨b1, b2, c1, c2, rfl, h1, hq⟩
   refine ⟨x3, x4, x5, x6, .agg #[.slice a1 ss.length k1, .slice a2 fs.length k2], _, x9, x10, x11, x12, x13, x14, x15, x16, x17, x18, x19, x20, rfl, ?_⟩
   exact ⟨fun _ => hb9.trans (hq.mono hb9.size), fun h => hS.p0 (gO h), fun h => hS.p1 (gO h), fun h => hS.p2 (gO h), fun h => hS.p3 (gO h), fun h => hS.p4 (gO h), fun _ _ => ⟨b1, b2, c1, c2, rfl, ⟨ZAI h1.o1 hb9.size, ZAI h1.o2 hb9.size⟩⟩, fun h => hS.p6 (gO h), fun h => hS.p7 (gO h), fun h => hS.p8 (gO h), fun h => hS.p9 (gO h), fun h => hS.p10 (gO h), fun h h' => (hS.p11 (gO h) (gF h')).imp fun Bs hB => ⟨hB.1, (hq.block Bs (ZAA hB.2)).trans hB.2⟩, fun h h' => (hS.p12 (gO h) (gF h')).stay hq, fun h => hS.p13 (gO h), fun h => hS.p14 (gO h), fun h => hS.p15 (gO h), fun h => hS.p16 (gO h), fun h h' => let ⟨b1, b2, c1, c2, v6a, v6c, e1, e2, e3⟩ := (hS.p17 (gO h) (gF h')); ⟨b1, b2, c1, c2, v6a, v6c, e1, e2.stay hq, e3.stay hq⟩, fun h => ZAB ((hS.p18 (gO h)).1 5 (by decide)) hun⟩
  | 6, _ =>
   obtain rfl := Option.some.inj ho
   refine ZAH rfl rfl ?_
   go_simp
   refine ⟨x3, x4, x5, x6, x7, x8, .pointer (some ⟨g, 0, none⟩), x10, x11, x12, x13, x14, x15, x16, x17, x18, x19, x20, rfl, ?_⟩
   exact ⟨fun _ => hb9, fun h => hS.p0 (gO h), fun h => hS.p1 (gO h), fun h => hS.p2 (gO h), fun h => hS.p3 (gO h), fun h => hS.p4 (gO h), fun h h' => hS.p5 (gO h) (gF h'), fun _ => rfl, fun h => hS.p7 (gO h), fun h => hS.p8 (gO h), fun h => hS.p9 (gO h), fun h => hS.p10 (gO h), fun h h' => hS.p11 (gO h) (gF h'), fun h h' => hS.p12 (gO h) (gF h'), fun h => hS.p13 (gO h), fun h => hS.p14 (gO h), fun h => hS.p15 (gO h), fun h => hS.p16 (gO h), fun h h' => hS.p17 (gO h) (gF h'), fun h => ZAB ((hS.p18 (gO h)).1 6 (by decide)) hun⟩
  | 7, _ =>
   obtain rfl := Option.some.inj ho
   have q6 := hdep ⟨6, .data⟩ (by simp) rfl
   obtain rfl := hS.p6 q6
   refine ZAH rfl rfl ?_
   go_simp
   refine ⟨x3, x4, x5, x6, x7, x8, .pointer (some ⟨g, 0, none⟩), .pointer (some ⟨g, 0, none⟩), x11, x12, x13, x14, x15, x16, x17, x18, x19, x20, rfl, ?_⟩
   exact ⟨fun _ => hb9, fun h => hS.p0 (gO h), fun h => hS.p1 (gO h), fun h => hS.p2 (gO h), fun h => hS.p3 (gO h), fun h => hS.p4 (gO h), fun h h' => hS.p5 (gO h) (gF h'), fun h => hS.p6 (gO h), fun _ => rfl, fun h => hS.p8 (gO h), fun h => hS.p9 (gO h), fun h => hS.p10 (gO h), fun h h' => hS.p11 (gO h) (gF h'), fun h h' => hS.p12 (gO h) (gF h'), fun h => hS.p13 (gO h), fun h => hS.p14 (gO h), fun h => hS.p15 (gO h), fun h => hS.p16 (gO h), fun h h' => hS.p17 (gO h) (gF h'), fun h => ZAB ((hS.p18 (gO h)).1 7 (by decide)) hun⟩
  | 8, _ =>
   obtain rfl := Option.some.inj ho
   have q7 := hdep ⟨7, .data⟩ (by simp) rfl
   obtain rfl := hS.p7 q7
   refine ZAH rfl rfl ?_
   go_simp
   refine ⟨x3, x4, x5, x6, x7, x8, x9, .pointer (some ⟨g, 0, none⟩), .pointer (some ⟨g, 0, none⟩), x12, x13, x14, x15, x16, x17, x18, x19, x20, rfl, ?_⟩
   exact ⟨fun _ => hb9, fun h => hS.p0 (gO h), fun h => hS.p1 (gO h), fun h => hS.p2 (gO h), fun h => hS.p3 (gO h), fun h => hS.p4 (gO h), fun h h' => hS.p5 (gO h) (gF h'), fun h => hS.p6 (gO h), fun h => hS.p7 (gO h), fun _ => rfl, fun h => hS.p9 (gO h), fun h => hS.p10 (gO h), fun h h' => hS.p11 (gO h) (gF h'), fun h h' => hS.p12 (gO h) (gF h'), fun h => hS.p13 (gO h), fun h => hS.p14 (gO h), fun h => hS.p15 (gO h), fun h => hS.p16 (gO h), fun h h' => hS.p17 (gO h) (gF h'), fun h => ZAB ((hS.p18 (gO h)).1 8 (by decide)) hun⟩
  | 9, _ =>
   obtain rfl := Option.some.inj ho
   have q8 := hdep ⟨8, .data⟩ (by simp) rfl
   obtain rfl := hS.p8 q8
   refine ZAH rfl rfl ?_
   go_simp
   refine ⟨x3, x4, x5, x6, x7, x8, x9, x10, .pointer (some ⟨g, 0, none⟩), .pointer (some ⟨g, 2, none⟩), x13, x14, x15, x16, x17, x18, x19, x20, rfl, ?_⟩
   exact ⟨fun _ => hb9, fun h => hS.p0 (gO h), fun h => hS.p1 (gO h), fun h => hS.p2 (gO h), fun h => hS.p3 (gO h), fun h => hS.p4 (gO h), fun h h' => hS.p5 (gO h) (gF h'), fun h => hS.p6 (gO h), fun h => hS.p7 (gO h), fun h => hS.p8 (gO h), fun _ => rfl, fun h => hS.p10 (gO h), fun h h' => hS.p11 (gO h) (gF h'), fun h h' => hS.p12 (gO h) (gF h'), fun h => hS.p13 (gO h), fun h => hS.p14 (gO h), fun h => hS.p15 (gO h), fun h => hS.p16 (gO h), fun h h' => hS.p17 (gO h) (gF h'), fun h => ZAB ((hS.p18 (gO h)).1 9 (by decide)) hun⟩
  | 10, _ =>
   obtain rfl := Option.some.inj ho
   have q9 := hdep ⟨9, .data⟩ (by simp) rfl
   obtain rfl := hS.p9 q9
   refine ZAH rfl rfl ?_
   go_simp
   refine ⟨x3, x4, x5, x6, x7, x8, x9, x10, x11, .pointer (some ⟨g, 2, none⟩), .slice ua E.length uc, x14, x15, x16, x17, x18, x19, x20, rfl, ?_⟩
   exact ⟨fun _ => hb9, fun h => hS.p0 (gO h), fun h => hS.p1 (gO h), fun h => hS.p2 (gO h), fun h => hS.p3 (gO h), fun h => hS.p4 (gO h), fun h h' => hS.p5 (gO h) (gF h'), fun h => hS.p6 (gO h), fun h => hS.p7 (gO h), fun h => hS.p8 (gO h), fun h => hS.p9 (gO h), fun _ => rfl, fun h h' => hS.p11 (gO h) (gF h'), fun h h' => hS.p12 (gO h) (gF h'), fun h => hS.p13 (gO h), fun h => hS.p14 (gO h), fun h => hS.p15 (gO h), fun h => hS.p16 (gO h), fun h h' => hS.p17 (gO h) (gF h'), fun h => ZAB ((hS.p18 (gO h)).1 10 (by decide)) hun⟩
  | 11, _ =>
   obtain rfl := Option.some.inj ho
   have q10 := hdep ⟨10, .data⟩ (by simp) rfl
   obtain rfl := hS.p10 q10
   refine ZAH rfl rfl ?_
   go_simp
   refine (ZGl X ua uc E.length).mono ?_
   rintro x X' ⟨rfl, hq, hh⟩
   refine ⟨x3, x4, x5, x6, x7, x8, x9, x10, x11, x12, .slice ua E.length uc, _, x15, x16, x17, x18, x19, x20, rfl, ?_⟩
   exact ⟨fun _ => hb9.trans (hq.mono hb9.size), fun h => hS.p0 (gO h), fun h => hS.p1 (gO h), fun h => hS.p2 (gO h), fun h => hS.p3 (gO h), fun h => hS.p4 (gO h), fun h h' => let ⟨b1, b2, c1, c2, e1, e2⟩ := (hS.p5 (gO h) (gF h')); ⟨b1, b2, c1, c2, e1, e2.stay hq⟩, fun h => hS.p6 (gO h), fun h => hS.p7 (gO h), fun h => hS.p8 (gO h), fun h => hS.p9 (gO h), fun h => hS.p10 (gO h), fun _ _ => ⟨_, rfl, hh⟩, fun h h' => (hS.p12 (gO h) (gF h')).stay hq, fun h => hS.p13 (gO h), fun h => hS.p14 (gO h), fun h => hS.p15 (gO h), fun h => hS.p16 (gO h), fun h h' => let ⟨b1, b2, c1, c2, v6a, v6c, e1, e2, e3⟩ := (hS.p17 (gO h) (gF h')); ⟨b1, b2, c1, c2, v6a, v6c, e1, e2.stay hq, e3.stay hq⟩, fun h => ZAB ((hS.p18 (gO h)).1 11 (by decide)) hun⟩
  | 12, _ =>
   obtain rfl := Option.some.inj ho
   have q11 := hdep ⟨11, .data⟩ (by simp) rfl
   obtain ⟨Bs, rfl, hB⟩ := hS.p11 q11 hL
   refine ZAH rfl rfl ?_
   go_simp
   refine (cG.out X Bs hb9 hB).mono ?_
   rintro x X' ⟨v, rfl, h1, hq⟩
   refine ⟨x3, x4, x5, x6, x7, x8, x9, x10, x11, x12, x13, _, _, x16, x17, x18, x19, x20, rfl, ?_⟩
   exact ⟨fun _ => hb9.trans (hq.mono hb9.size), fun h => hS.p0 (gO h), fun h => hS.p1 (gO h), fun h => hS.p2 (gO h), fun h => hS.p3 (gO h), fun h => hS.p4 (gO h), fun h h' => let ⟨b1, b2, c1, c2, e1, e2⟩ := (hS.p5 (gO h) (gF h')); ⟨b1, b2, c1, c2, e1, e2.stay hq⟩, fun h => hS.p6 (gO h), fun h => hS.p7 (gO h), fun h => hS.p8 (gO h), fun h => hS.p9 (gO h), fun h => hS.p10 (gO h), fun h h' => (hS.p11 (gO h) (gF h')).imp fun Bs hB => ⟨hB.1, (hq.block Bs (ZAA hB.2)).trans hB.2⟩, fun _ _ => h1.le hb9.size, fun h => hS.p13 (gO h), fun h => hS.p14 (gO h), fun h => hS.p15 (gO h), fun h => hS.p16 (gO h), fun h h' => let ⟨b1, b2, c1, c2, v6a, v6c, e1, e2, e3⟩ := (hS.p17 (gO h) (gF h')); ⟨b1, b2, c1, c2, v6a, v6c, e1, e2.stay hq, e3.stay hq⟩, fun h => ZAB ((hS.p18 (gO h)).1 12 (by decide)) hun⟩
  | 13, _ =>
   obtain rfl := Option.some.inj ho
   refine ZAH rfl rfl ?_
   go_simp
   refine ⟨x3, x4, x5, x6, x7, x8, x9, x10, x11, x12, x13, x14, x15, .pointer (some ⟨g, 0, none⟩), x17, x18, x19, x20, rfl, ?_⟩
   exact ⟨fun _ => hb9, fun h => hS.p0 (gO h), fun h => hS.p1 (gO h), fun h => hS.p2 (gO h), fun h => hS.p3 (gO h), fun h => hS.p4 (gO h), fun h h' => hS.p5 (gO h) (gF h'), fun h => hS.p6 (gO h), fun h => hS.p7 (gO h), fun h => hS.p8 (gO h), fun h => hS.p9 (gO h), fun h => hS.p10 (gO h), fun h h' => hS.p11 (gO h) (gF h'), fun h h' => hS.p12 (gO h) (gF h'), fun _ => rfl, fun h => hS.p14 (gO h), fun h => hS.p15 (gO h), fun h => hS.p16 (gO h), fun h h' => hS.p17 (gO h) (gF h'), fun h => ZAB ((hS.p18 (gO h)).1 13 (by decide)) hun⟩
  | 14, _ =>
   obtain rfl := Option.some.inj ho
   have q13 := hdep ⟨13, .data⟩ (by simp) rfl
   obtain rfl := hS.p13 q13
   refine ZAH rfl rfl ?_
   go_simp
   refine ⟨x3, x4, x5, x6, x7, x8, x9, x10, x11, x12, x13, x14, x15, .pointer (some ⟨g, 0, none⟩), .pointer (some ⟨g, 0, none⟩), x18, x19, x20, rfl, ?_⟩
   exact ⟨fun _ => hb9, fun h => hS.p0 (gO h), fun h => hS.p1 (gO h), fun h => hS.p2 (gO h), fun h => hS.p3 (gO h), fun h => hS.p4 (gO h), fun h h' => hS.p5 (gO h) (gF h'), fun h => hS.p6 (gO h), fun h => hS.p7 (gO h), fun h => hS.p8 (gO h), fun h => hS.p9 (gO h), fun h => hS.p10 (gO h), fun h h' => hS.p11 (gO h) (gF h'), fun h h' => hS.p12 (gO h) (gF h'), fun h => hS.p13 (gO h), fun _ => rfl, fun h => hS.p15 (gO h), fun h => hS.p16 (gO h), fun h h' => hS.p17 (gO h) (gF h'), fun h => ZAB ((hS.p18 (gO h)).1 14 (by decide)) hun⟩
  | 15, _ =>
   obtain rfl := Option.some.inj ho
   have q14 := hdep ⟨14, .data⟩ (by simp) rfl
   obtain rfl := hS.p14 q14
   refine ZAH rfl rfl ?_
   go_simp
   refine ⟨x3, x4, x5, x6, x7, x8, x9, x10, x11, x12, x13, x14, x15, x16, .pointer (some ⟨g, 0, none⟩), .pointer (some ⟨g, 4, none⟩), x19, x20, rfl, ?_⟩
   exact ⟨fun _ => hb9, fun h => hS.p0 (gO h), fun h => hS.p1 (gO h), fun h => hS.p2 (gO h), fun h => hS.p3 (gO h), fun h => hS.p4 (gO h), fun h h' => hS.p5 (gO h) (gF h'), fun h => hS.p6 (gO h), fun h => hS.p7 (gO h), fun h => hS.p8 (gO h), fun h => hS.p9 (gO h), fun h => hS.p10 (gO h), fun h h' => hS.p11 (gO h) (gF h'), fun h h' => hS.p12 (gO h) (gF h'), fun h => hS.p13 (gO h), fun h => hS.p14 (gO h), fun _ => rfl, fun h => hS.p16 (gO h), fun h h' => hS.p17 (gO h) (gF h'), fun h => ZAB ((hS.p18 (gO h)).1 15 (by decide)) hun⟩
  | 16, _ =>
   obtain rfl := Option.some.inj ho
   have q15 := hdep ⟨15, .data⟩ (by simp) rfl
   obtain rfl := hS.p15 q15
   refine ZAH rfl rfl ?_
   go_simp
   refine ⟨x3, x4, x5, x6, x7, x8, x9, x10, x11, x12, x13, x14, x15, x16, x17, .pointer (some ⟨g, 4, none⟩), .int .i64 nx, x20, rfl, ?_⟩
   exact ⟨fun _ => hb9, fun h => hS.p0 (gO h), fun h => hS.p1 (gO h), fun h => hS.p2 (gO h), fun h => hS.p3 (gO h), fun h => hS.p4 (gO h), fun h h' => hS.p5 (gO h) (gF h'), fun h => hS.p6 (gO h), fun h => hS.p7 (gO h), fun h => hS.p8 (gO h), fun h => hS.p9 (gO h), fun h => hS.p10 (gO h), fun h h' => hS.p11 (gO h) (gF h'), fun h h' => hS.p12 (gO h) (gF h'), fun h => hS.p13 (gO h), fun h => hS.p14 (gO h), fun h => hS.p15 (gO h), fun _ => rfl, fun h h' => hS.p17 (gO h) (gF h'), fun h => ZAB ((hS.p18 (gO h)).1 16 (by decide)) hun⟩
  | 17, _ =>
   obtain rfl := Option.some.inj ho
   have q5 := hdep ⟨5, .data⟩ (by simp) rfl
   have q12 := hdep ⟨12, .data⟩ (by simp) rfl
   have q16 := hdep ⟨16, .data⟩ (by simp) rfl
   obtain rfl := hS.p16 q16
   obtain ⟨b1, b2, c1, c2, rfl, h1⟩ := hS.p5 q5 hL
   have h2 := hS.p12 q12 hL
   obtain ⟨v6a, v6c, rfl⟩ := h2.2.1
   refine ZAH rfl rfl ?_
   go_simp
   refine ⟨x3, x4, x5, x6, x7, _, x9, x10, x11, x12, x13, x14, _, x16, x17, x18, .int .i64 nx, _, rfl, ?_⟩
   exact ⟨fun _ => hb9, fun h => hS.p0 (gO h), fun h => hS.p1 (gO h), fun h => hS.p2 (gO h), fun h => hS.p3 (gO h), fun h => hS.p4 (gO h), fun h h' => hS.p5 (gO h) (gF h'), fun h => hS.p6 (gO h), fun h => hS.p7 (gO h), fun h => hS.p8 (gO h), fun h => hS.p9 (gO h), fun h => hS.p10 (gO h), fun h h' => hS.p11 (gO h) (gF h'), fun h h' => hS.p12 (gO h) (gF h'), fun h => hS.p13 (gO h), fun h => hS.p14 (gO h), fun h => hS.p15 (gO h), fun h => hS.p16 (gO h), fun _ _ => ⟨b1, b2, c1, c2, v6a, v6c, rfl, h1, h2⟩, fun h => ZAB ((hS.p18 (gO h)).1 17 (by decide)) hun⟩
  | 18, _ =>
   obtain rfl := Option.some.inj ho
   have q17 := hdep ⟨17, .data⟩ (by simp) rfl
   obtain ⟨b1, b2, c1, c2, v6a, v6c, rfl, h1, h2⟩ := hS.p17 q17 hL
   have HRx := (hb9.block _ (ZAA HR.out)).trans HR.out
   have s0 : X.cell? ⟨w.heap.size, 0, none⟩ = some (.slice none 0 0) := ce HRx rfl
   have s1 : X.cell? ⟨w.heap.size, 1, none⟩ = some (.slice none 0 0) := ce HRx rfl
   have s2 : X.cell? ⟨w.heap.size, 2, none⟩ = some (.slice none 0 0) := ce HRx rfl
   have s3 : X.cell? ⟨w.heap.size, 3, none⟩ = some (.int .i64 0) := ce HRx rfl
   have sf := Lib.frozen_of_heap HRx
   refine ZAH rfl rfl ?_
   go_simp
   have hF := (ZAG (L := [_, _, _, _]) (i := 3) (ZAG (L := [_, _, _, _]) (i := 2) (ZAG (L := [_, _, _, _]) (i := 1) (ZAG (L := [_, _, _, _]) (i := 0) HRx (.slice b1 ss.length c1)) (.slice b2 fs.length c2)) (.slice v6a E.length v6c)) (.int .i64 nx))
   have hC := ((((Chg.of_grown (p := fun j => j = w.heap.size) (ZAF X w.heap.size 0 (.slice b1 ss.length c1)) rfl).trans (Chg.of_grown (ZAF _ w.heap.size 1 (.slice b2 fs.length c2)) rfl)).trans (Chg.of_grown (ZAF _ w.heap.size 2 (.slice v6a E.length v6c)) rfl)).trans (Chg.of_grown (ZAF _ w.heap.size 3 (.int .i64 nx)) rfl))
   refine ⟨x3, x4, x5, x6, x7, x8, x9, x10, x11, x12, x13, x14, x15, x16, x17, x18, x19, _, rfl, ?_⟩
   constructor
   ·exact fun h => absurd h (by rw [ZAX hun]; decide)
   ·exact fun h => hS.p0 (gO h)
   ·exact fun h => hS.p1 (gO h)
   ·exact fun h => hS.p2 (gO h)
   ·exact fun h => hS.p3 (gO h)
   ·exact fun h => hS.p4 (gO h)
   ·exact fun _ h' => uS h' hun
   ·exact fun h => hS.p6 (gO h)
   ·exact fun h => hS.p7 (gO h)
   ·exact fun h => hS.p8 (gO h)
   ·exact fun h => hS.p9 (gO h)
   ·exact fun h => hS.p10 (gO h)
   ·exact fun _ h' => uS h' hun
   ·exact fun _ h' => uS h' hun
   ·exact fun h => hS.p13 (gO h)
   ·exact fun h => hS.p14 (gO h)
   ·exact fun h => hS.p15 (gO h)
   ·exact fun h => hS.p16 (gO h)
   ·exact fun _ h' => uS h' hun
   ·exact fun _ => ⟨fun j hj => by
     rw [getD_set_ne false (by omega)]
     match j, hj with
     | 0, _ => exact hdep ⟨0, .phase⟩ (by simp) rfl
     | 1, _ => exact hdep ⟨1, .phase⟩ (by simp) rfl
     | 2, _ => exact hdep ⟨2, .phase⟩ (by simp) rfl
     | 3, _ => exact hdep ⟨3, .phase⟩ (by simp) rfl
     | 4, _ => exact hdep ⟨4, .phase⟩ (by simp) rfl
     | 5, _ => exact hdep ⟨5, .phase⟩ (by simp) rfl
     | 6, _ => exact hdep ⟨6, .phase⟩ (by simp) rfl
     | 7, _ => exact hdep ⟨7, .phase⟩ (by simp) rfl
     | 8, _ => exact hdep ⟨8, .phase⟩ (by simp) rfl
     | 9, _ => exact hdep ⟨9, .phase⟩ (by simp) rfl
     | 10, _ => exact hdep ⟨10, .phase⟩ (by simp) rfl
     | 11, _ => exact hdep ⟨11, .phase⟩ (by simp) rfl
     | 12, _ => exact hdep ⟨12, .phase⟩ (by simp) rfl
     | 13, _ => exact hdep ⟨13, .phase⟩ (by simp) rfl
     | 14, _ => exact hdep ⟨14, .phase⟩ (by simp) rfl
     | 15, _ => exact hdep ⟨15, .phase⟩ (by simp) rfl
     | 16, _ => exact hdep ⟨16, .phase⟩ (by simp) rfl
     | 17, _ => exact hdep ⟨17, .phase⟩ (by simp) rfl
     | n9 + 18, h9 => exact absurd h9 (by omega)
     , ⟨(hb9.mono (by omega)).trans (hC.below (by have := hb9.size; omega) (fun j (h : j = _) => by omega)), b1, b2, c1, c2, v6a, v6c, hF, ⟨ZAJ (ZAI h1.o1 (by omega)) hC (ZAL h1.o1 HRx (by decide)), ZAJ (ZAI h1.o2 (by omega)) hC (ZAL h1.o2 HRx (by decide))⟩, (h2.le (by omega)).chg hC (fun g9 c9 _ h9 (e9 : g9 = w.heap.size) => by rw [e9, HRx] at h9; injection h9 with h9; injection h9 with _ h9 _; exact absurd h9 (by decide))⟩⟩
 case fin =>
  rintro listed a X ⟨x3, x4, x5, x6, x7, x8, x9, x10, x11, x12, x13, x14, x15, x16, x17, x18, x19, x20, rfl, hS⟩ hall
  obtain ⟨_, hbX, b1, b2, c1, c2, v6a, v6c, hT, hO, hL⟩ := hS.p18 (hall 18 (by decide))
  clear hS hall cD cG
  have r0 : X.cell? ⟨w.heap.size, 0, none⟩ = some (.slice b1 ss.length c1) := ce hT rfl
  have r1 : X.cell? ⟨w.heap.size, 1, none⟩ = some (.slice b2 fs.length c2) := ce hT rfl
  have r2 : X.cell? ⟨w.heap.size, 2, none⟩ = some (.slice v6a E.length v6c) := ce hT rfl
  have r3 : X.cell? ⟨w.heap.size, 3, none⟩ = some (.int .i64 nx) := ce hT rfl
  have HO := hid hO
  have HLl := hid hL
  have HX := hid hbX
  clear hO hL hbX hT
  go_wp2
  refine bodyPost_ret (v := .agg #[.slice b1 ss.length c1, .slice b2 fs.length c2, .slice v6a E.length v6c, .int .i64 nx]) (by simp [results, Tryz.results51, go_sem, r0, r1, r2, r3]) rfl ⟨b1, b2, v6a, c1, c2, v6c, rfl, ⟨⟨ZAI HO.out.o1 (by omega), ZAI HO.out.o2 (by omega)⟩, HLl.out.le (by omega)⟩, HBv.out.trans HX.out⟩
end Go.Proofs.YtookchpdbilbcaaGreatDoor
