/-
 What impl.ownDef answers: the same Def in rows of its own: a contract over the seat's program. (Made by mkown.py.)
-/
import Derived.Test.YtookchpdbilbcaaGreatDoorZRowL4
import Derived.Test.YtookchpdbilbcaaGreatDoorZDfLaw5
import Derived.Test.YtookchpdbilbcaaGreatDoorZEvX11
import Derived.Deep.CutRange
set_option maxRecDepth 100000
set_option maxHeartbeats 8000000
namespace Go.Proofs.YtookchpdbilbcaaGreatDoor
open Go.RowKit Go.Sort
theorem ZB3 (X : World) (L : List Value) (T : TypeId) {z : Nat} (h : L.length = 1 * z) (h1 : ∀ u ∈ L, u.oneCell' = true) : CellsSl (X.alloc (.cells L.toArray T)) (.slice (some ⟨X.heap.size, 0, none⟩) 1 1) z 1 L :=
 ⟨h, h1, .inr ⟨⟨X.heap.size, 0, none⟩, 1, rfl, fun j u hj => by
  rw [Addr.add_lit, Lib.cell_of_heap (heap_alloc_new X _)]
  simpa using hj⟩⟩
theorem ZAB {listed : Array Bool} {i : Nat} {C : Prop} (h : listed.getD i false = true) (h' : listed.getD i true = false) : C := by
 rw [ZAW h'] at h; cases h
theorem ZJO {p : Nat → Prop} {w w' : World} (h : Chg p w.drew w') : Chg p w w' := ⟨h.os, h.tape, h.output, h.size, h.block⟩
structure Ow5A (T : Nat) (W : World) (b : Option Addr) (n c : Nat) (s : ByteArray) (listed : Array Bool) (x15 x16 x17 x18 x19 : Value) (X : World) : Prop where
 hb : Below W.heap.size W X
 p0 : listed.getD 0 false = true → x15 = .pointer (some ⟨T, 0, none⟩)
 p1 : listed.getD 1 false = true → x16 = .slice b n c ∧ listed.getD 0 false = true
 p2 : listed.getD 2 false = true → x17 = .string s
 p3 : listed.getD 3 false = true → x18 = .string s ∧ listed.getD 2 false = true
 p4 : listed.getD 4 false = true → CellsSl X x19 1 1 [.string s] ∧ listed.getD 2 false = true ∧ listed.getD 3 false = true
def Ow5F (B T : Nat) (W : World) (u : Option Nat) (v2 : Value) (n : Nat) (L : List Value) (X : World) : Prop := ∃ b c, X.heap[T]? = some (.cells #[.slice b (n + 1) c, v2] 33 (0, 0)) ∧ X.ownsRow B 9 1 (.slice b (n + 1) c) (n + 1) L ∧ Chg (fun j => u = some j ∨ j = T) W X
def Ow5R (mk : Value → Value → Value → Value → Value → Value → Value → Act) (B T : Nat) (W : World) (b : Option Addr) (n c : Nat) (v2 : Value) (L : List Value) (s : ByteArray) (listed : Array Bool) (a : Act) (X : World) : Prop :=
 ∃ x15 x16 x17 x18 x19 x20 x21 : Value, a = mk x15 x16 x17 x18 x19 x20 x21 ∧
  ((listed.getD 7 false = true ∧ (∀ i, i < 7 → listed.getD i false = true) ∧ Ow5F B T W (Value.slice b n c).ownBlock v2 n (L ++ [.string s]) X) ∨
   (listed.getD 7 false = false ∧ listed.getD 5 false = true ∧ (∀ i, i < 5 → listed.getD i false = true) ∧ Chg (fun j => (Value.slice b n c).ownBlock = some j) W X ∧ X.ownsRow B 9 1 x20 (n + 1) (L ++ [.string s]) ∧ (listed.getD 6 false = true → x21 = .pointer (some ⟨T, 0, none⟩))) ∨
   (listed.getD 7 false = false ∧ listed.getD 6 false = false ∧ listed.getD 5 false = false ∧ Ow5A T W b n c s listed x15 x16 x17 x18 x19 X))
structure Ow10A (T : Nat) (W : World) (b : Option Addr) (n c : Nat) (f : Nat) (s t : ByteArray) (listed : Array Bool) (x30 x31 x32 x33 x34 x35 x36 x37 x38 x39 : Value) (X : World) : Prop where
 hb : Below W.heap.size W X
 p0 : listed.getD 0 false = true → x30 = .pointer (some ⟨T, 1, none⟩)
 p1 : listed.getD 1 false = true → x31 = .slice b n c ∧ listed.getD 0 false = true
 p2 : listed.getD 2 false = true → x32 = .pointer (some ⟨f, 0, none⟩)
 p3 : listed.getD 3 false = true → x33 = .string s ∧ listed.getD 2 false = true
 p4 : listed.getD 4 false = true → x34 = .string s ∧ listed.getD 2 false = true ∧ listed.getD 3 false = true
 p5 : listed.getD 5 false = true → x35 = .pointer (some ⟨f, 1, none⟩)
 p6 : listed.getD 6 false = true → x36 = .string t ∧ listed.getD 5 false = true
 p7 : listed.getD 7 false = true → x37 = .string t ∧ listed.getD 5 false = true ∧ listed.getD 6 false = true
 p8 : listed.getD 8 false = true → x38 = .agg #[.string s, .string t] ∧ listed.getD 2 false = true ∧ listed.getD 3 false = true ∧ listed.getD 4 false = true ∧ listed.getD 5 false = true ∧ listed.getD 6 false = true ∧ listed.getD 7 false = true
 p9 : listed.getD 9 false = true → CellsSl X x39 2 1 [.string s, .string t] ∧ listed.getD 2 false = true ∧ listed.getD 3 false = true ∧ listed.getD 4 false = true ∧ listed.getD 5 false = true ∧ listed.getD 6 false = true ∧ listed.getD 7 false = true ∧ listed.getD 8 false = true
def Ow10F (B T : Nat) (W : World) (u : Option Nat) (v2 : Value) (n : Nat) (L : List Value) (X : World) : Prop := ∃ b c, X.heap[T]? = some (.cells #[v2, .slice b (n + 1) c] 33 (0, 0)) ∧ X.ownsRow B 107 2 (.slice b (n + 1) c) (n + 1) L ∧ Chg (fun j => u = some j ∨ j = T) W X
def Ow10R (mk : Value → Value → Value → Value → Value → Value → Value → Value → Value → Value → Value → Value → Act) (B T : Nat) (W : World) (b : Option Addr) (n c : Nat) (v2 : Value) (L : List Value) (f : Nat) (s t : ByteArray) (listed : Array Bool) (a : Act) (X : World) : Prop :=
 ∃ x30 x31 x32 x33 x34 x35 x36 x37 x38 x39 x40 x41 : Value, a = mk x30 x31 x32 x33 x34 x35 x36 x37 x38 x39 x40 x41 ∧
  ((listed.getD 12 false = true ∧ (∀ i, i < 12 → listed.getD i false = true) ∧ Ow10F B T W (Value.slice b n c).ownBlock v2 n (L ++ [.string s, .string t]) X) ∨
   (listed.getD 12 false = false ∧ listed.getD 10 false = true ∧ (∀ i, i < 10 → listed.getD i false = true) ∧ Chg (fun j => (Value.slice b n c).ownBlock = some j) W X ∧ X.ownsRow B 107 2 x40 (n + 1) (L ++ [.string s, .string t]) ∧ (listed.getD 11 false = true → x41 = .pointer (some ⟨T, 1, none⟩))) ∨
   (listed.getD 12 false = false ∧ listed.getD 11 false = false ∧ listed.getD 10 false = false ∧ Ow10A T W b n c f s t listed x30 x31 x32 x33 x34 x35 x36 x37 x38 x39 X))
def L1 (w W : World) (ss : List ByteArray) (k : Nat) (wr : World) : Prop := ∃ b c, wr.heap[w.heap.size + 1 + 1]? = some (.cells #[.slice b k c, .slice none 0 0] 33 (0, 0)) ∧ wr.ownsRow (w.heap.size + 3) 9 1 (.slice b k c) k ((ss.take k).map Value.string) ∧ Below (w.heap.size + 2) W wr
def L2 (w W : World) (ss : List ByteArray) (fs : List Pr) (k : Nat) (wr : World) : Prop := ∃ b1 c1 b2 c2, wr.heap[w.heap.size + 1 + 1]? = some (.cells #[.slice b1 ss.length c1, .slice b2 k c2] 33 (0, 0)) ∧ wr.ownsRow (w.heap.size + 3) 9 1 (.slice b1 ss.length c1) ss.length (ss.map Value.string) ∧ wr.ownsRow (w.heap.size + 3) 107 2 (.slice b2 k c2) k ((fs.take k).flatMap Pr.cells) ∧ Below (w.heap.size + 2) W wr
theorem ZG8 (a1 a2 : Option Addr) (k1 k2 : Nat) (ss : List ByteArray) (fs : List Pr) (w : World) (hD : DefSl w a1 a2 k1 k2 ss fs) (F1 : ∀ i, (h : i < ss.length) → ss[i].size ≤ 1000) (F2 : ∀ i, (h : i < fs.length) → fs[i].fst.size ≤ 1000 ∧ fs[i].snd.size ≤ 1000) (n1 : ss.length ≤ 1048576) (n2 : fs.length ≤ 1048576) :
  Calls Tryz.prog 70 #[.agg #[.slice a1 ss.length k1, .slice a2 fs.length k2]] w fun x w' => ∃ b1 b2 c1 c2, x = .returned (.agg #[.slice b1 ss.length c1, .slice b2 fs.length c2]) ∧ DefOwn w' w.heap.size (.slice b1 ss.length c1) (.slice b2 fs.length c2) ss fs ∧ Below w.heap.size w w' := by
 have mixed : Tryz.prog.follows .mixedOrders = true := by kernel_rfl
 obtain ⟨i0, hi, hz0, hz1, hz2⟩ := info_parts Tryz.infoStr
 obtain ⟨j0, hj, hj0, hj1, hj2⟩ := info_parts Tryz.infoFlow
 have HBW := hid (show Below w.heap.size w (((w.alloc (.cells #[.slice a1 ss.length k1, .slice a2 fs.length k2] 33)).alloc (.cells #[.slice none 0 0, .slice none 0 0] 33)).alloc (.cells #[.slice none 0 0, .slice none 0 0] 33)) from ((below2 _ _ _).alloc (by simp; omega) _))
 have HZ := hid (show (((w.alloc (.cells #[.slice a1 ss.length k1, .slice a2 fs.length k2] 33)).alloc (.cells #[.slice none 0 0, .slice none 0 0] 33)).alloc (.cells #[.slice none 0 0, .slice none 0 0] 33)).heap.size = w.heap.size + 1 + 1 + 1 by simp)
 have HT := hid (show (((w.alloc (.cells #[.slice a1 ss.length k1, .slice a2 fs.length k2] 33)).alloc (.cells #[.slice none 0 0, .slice none 0 0] 33)).alloc (.cells #[.slice none 0 0, .slice none 0 0] 33)).heap[w.heap.size + 1 + 1]? = some (.cells #[.slice none 0 0, .slice none 0 0] 33 (0, 0)) by have h := heap_alloc_new ((w.alloc (.cells #[.slice a1 ss.length k1, .slice a2 fs.length k2] 33)).alloc (.cells #[.slice none 0 0, .slice none 0 0] 33)) (.cells #[.slice none 0 0, .slice none 0 0] 33); rw [World.size_alloc, World.size_alloc] at h; exact h)
 have HR := hid (show (((w.alloc (.cells #[.slice a1 ss.length k1, .slice a2 fs.length k2] 33)).alloc (.cells #[.slice none 0 0, .slice none 0 0] 33)).alloc (.cells #[.slice none 0 0, .slice none 0 0] 33)).heap[w.heap.size + 1]? = some (.cells #[.slice none 0 0, .slice none 0 0] 33 (0, 0)) by have h := heap_alloc_new (w.alloc (.cells #[.slice a1 ss.length k1, .slice a2 fs.length k2] 33)) (.cells #[.slice none 0 0, .slice none 0 0] 33); rw [World.size_alloc] at h; exact (Below.heap_alloc _ _ _ (by simp)).trans h)
 have HA := hid (show (((w.alloc (.cells #[.slice a1 ss.length k1, .slice a2 fs.length k2] 33)).alloc (.cells #[.slice none 0 0, .slice none 0 0] 33)).alloc (.cells #[.slice none 0 0, .slice none 0 0] 33)).heap[w.heap.size]? = some (.cells #[.slice a1 ss.length k1, .slice a2 fs.length k2] 33 (0, 0)) from (Below.heap_alloc _ _ _ (by simp; omega)).trans ((Below.heap_alloc _ _ _ (by simp)).trans (heap_alloc_new w (.cells #[.slice a1 ss.length k1, .slice a2 fs.length k2] 33))))
 have HD := hid hD
 go_enter Tryz.func70, Tryz.ntmps70
 go_upto_region 2 with fail
 generalize (((w.alloc (.cells #[.slice a1 ss.length k1, .slice a2 fs.length k2] 33)).alloc (.cells #[.slice none 0 0, .slice none 0 0] 33)).alloc (.cells #[.slice none 0 0, .slice none 0 0] 33)) = W at *
 have x0 : W.cell? ⟨w.heap.size, 0, none⟩ = some (.slice a1 ss.length k1) := ce HA.out rfl
 go_wp2_with fail
 go_loopw [11] (fun i wr => ∃ k : Nat, k ≤ ss.length ∧ i = .int .i64 k ∧ L1 w W ss k wr) (fun i _ => ss.length - (intOf i).toNat)
 case atStart => exact ⟨0, Nat.zero_le _, rfl, none, 0, HT.out, ⟨by simp, .inl ⟨rfl, rfl⟩⟩, Below.refl _ _⟩
 case round =>
  obtain ⟨k, hk, rfl, b, c, hT, hO, hbr⟩ := hrel
  replace hT := hid hT
  obtain ⟨L, hL⟩ : ∃ L, L = (ss.take k).map Value.string := ⟨_, rfl⟩
  rw [← hL] at hO
  have hOw := hid hO
  clear hO
  replace hL := hid hL
  replace hbr := hid hbr
  have hszr : w.heap.size + 3 ≤ wr.heap.size := by have := hbr.out.size; have := HZ.out; omega
  have HN := hid (show k ≤ 1048576 by omega)
  by_cases hlk : k < ss.length
  ·have c0 : ∃ g o, a1 = some ⟨g, o, none⟩ ∧ wr.cell? ⟨g, o + k, none⟩ = some (.string ss[k]) := by
    have hs := HD.out.h1.stay (HBW.out.trans (hbr.out.mono (by omega))) nL
    rcases hs with ⟨a, c, e, rfl⟩ | ⟨g, o, c, e, _, h⟩
    ·exact absurd hlk (by simp)
    ·injection e with e _ _
     exact ⟨g, o, e, h.2 k hlk⟩
   obtain ⟨g, o, rfl, c0⟩ := c0
   have hBW : w.heap.size + 3 ≤ wr.heap.size := hszr
   go_upto_region 5 with fail
   refine ZAR mixed (Ow5R (fun x15 x16 x17 x18 x19 x20 x21 => { tmps := #[.agg #[.slice (some ⟨g, o, none⟩) ss.length k1, .slice a2 fs.length k2], .pointer (some ⟨w.heap.size, 0, none⟩), .pointer (some ⟨w.heap.size + 1, 0, none⟩), .pointer (some ⟨w.heap.size + 1 + 1, 0, none⟩), undef, .string ss[k], undef, undef, .pointer (some ⟨w.heap.size, 0, none⟩), .slice (some ⟨g, o, none⟩) ss.length k1, .int .i64 (ss.length : Int), .int .i64 (k : Int), .bool true, .pointer (some ⟨g, o + k, none⟩), .string ss[k], x15, x16, x17, x18, x19, x20, x21, u22, undef, undef, undef, undef, undef, undef, undef, undef, undef, undef, undef, undef, undef, undef, undef, undef, undef, undef, undef, undef, undef], defers := [] }) (w.heap.size + 3) (w.heap.size + 1 + 1) wr b (k) c ((.slice none 0 0)) (L) ss[k]) ?ac ?start ?step ?fin
   case ac => exact ZCG (by kernel_rfl)
   case start =>
    refine ⟨u15, u16, u17, u18, u19, u20, u21, rfl, .inr (.inr ⟨rfl, rfl, rfl, ?_⟩)⟩
    constructor
    ·exact (Below.refl _ wr).drew
    all_goals (intro h; simp at h)
   case step =>
    rintro i listed a X ⟨x15, x16, x17, x18, x19, x20, x21, rfl, hR⟩ hun ⟨o, ho, hdep⟩
    have hlt : i < 8 := (Array.getElem?_eq_some_iff.1 ho).1
    rcases hR with ⟨hst, hall, _⟩ | ⟨hst, hap, hall, hC, hO, hfa⟩ | ⟨hst, hfa, hap, hS⟩
    ·by_cases e : i = 7
     ·subst e; exact ZAB hst hun
     ·exact ZAB (hall i (by omega)) hun
    ·match i, hlt with
     | 0, _ => exact ZAB (hall 0 (by decide)) hun
     | 1, _ => exact ZAB (hall 1 (by decide)) hun
     | 2, _ => exact ZAB (hall 2 (by decide)) hun
     | 3, _ => exact ZAB (hall 3 (by decide)) hun
     | 4, _ => exact ZAB (hall 4 (by decide)) hun
     | 5, _ => exact ZAB hap hun
     | 6, _ =>
      obtain rfl := Option.some.inj ho
      refine ZAH rfl rfl ?_
      go_simp
      refine ⟨x15, x16, x17, x18, x19, x20, .pointer (some ⟨w.heap.size + 1 + 1, 0, none⟩), rfl, .inr (.inl ⟨by rw [getD_set_ne false (by decide)]; exact hst, by rw [getD_set_ne false (by decide)]; exact hap, fun j hj => getD_set_true (hall j hj), hC, hO, fun _ => rfl⟩)⟩
     | 7, _ =>
      obtain rfl := Option.some.inj ho
      have q6 := hdep ⟨6, .data⟩ (by simp) rfl
      obtain rfl := hfa q6
      obtain ⟨b9, c9, rfl⟩ := ZAD hO
      have hR := (hC.block _ (ZAA hT.out) (fun e => ZAL hOw.out hT.out (by decide) _ e rfl)).trans hT.out
      have r0 : X.cell? ⟨w.heap.size + 1 + 1, 0, none⟩ = some (.slice b k c) := ce hR rfl
      have rf := Lib.frozen_of_heap hR
      refine ZAH rfl rfl ?_
      go_simp
      refine ⟨x15, x16, x17, x18, x19, .slice b9 (k + 1) c9, .pointer (some ⟨w.heap.size + 1 + 1, 0, none⟩), rfl, .inl ⟨ZAX hun, fun j hj => ?_, b9, c9, ?_, ?_, ?_⟩⟩
      ·by_cases e : j = 6
       ·subst e; exact getD_set_true q6
       ·by_cases e : j = 5
        ·subst e; exact getD_set_true hap
        ·exact getD_set_true (hall j (by omega))
      ·exact ZAG (L := [_, _]) (i := 0) hR _
      ·exact ZAJ hO (Chg.of_grown (p := fun j => j = w.heap.size + 1 + 1) (ZAF _ (w.heap.size + 1 + 1) 0 _) rfl) (ZAL hO hR (by decide))
      ·exact (hC.mono (fun _ h => .inl h)).trans (Chg.of_grown (ZAF _ (w.heap.size + 1 + 1) 0 _) (.inr rfl))
    ·have c0 : X.cell? ⟨w.heap.size + 1 + 1, 0, none⟩ = some (.slice b k c) := (hS.hb.cell (p := ⟨w.heap.size + 1 + 1, 0, none⟩) (ZAA hT.out)).trans (ce hT.out rfl)
     match i, hlt with
     | 0, _ =>
      obtain rfl := Option.some.inj ho
      refine ZAH rfl rfl ?_
      go_simp
      refine ⟨.pointer (some ⟨w.heap.size + 1 + 1, 0, none⟩), x16, x17, x18, x19, x20, x21, rfl, .inr (.inr ⟨by rw [getD_set_ne false (by decide)]; exact hst, by rw [getD_set_ne false (by decide)]; exact hfa, by rw [getD_set_ne false (by decide)]; exact hap, ?_⟩)⟩
      constructor
      ·exact hS.hb
      ·exact fun _ => rfl
      ·exact fun h => ZAB (hS.p1 (gO h)).2 hun
      ·exact fun h => hS.p2 (gO h)
      ·intro h; have g := hS.p3 (gO h); exact ⟨g.1, getD_set_true g.2⟩
      ·intro h; have g := hS.p4 (gO h); exact ⟨g.1, getD_set_true g.2.1, getD_set_true g.2.2⟩
     | 1, _ =>
      obtain rfl := Option.some.inj ho
      have q0 := hdep ⟨0, .data⟩ (by simp) rfl
      obtain rfl := hS.p0 q0
      refine ZAH rfl rfl ?_
      go_simp
      refine ⟨.pointer (some ⟨w.heap.size + 1 + 1, 0, none⟩), .slice b k c, x17, x18, x19, x20, x21, rfl, .inr (.inr ⟨by rw [getD_set_ne false (by decide)]; exact hst, by rw [getD_set_ne false (by decide)]; exact hfa, by rw [getD_set_ne false (by decide)]; exact hap, ?_⟩)⟩
      constructor
      ·exact hS.hb
      ·exact fun h => hS.p0 (gO h)
      ·exact fun _ => ⟨rfl, getD_set_true q0⟩
      ·exact fun h => hS.p2 (gO h)
      ·intro h; have g := hS.p3 (gO h); exact ⟨g.1, getD_set_true g.2⟩
      ·intro h; have g := hS.p4 (gO h); exact ⟨g.1, getD_set_true g.2.1, getD_set_true g.2.2⟩
     | 2, _ =>
      obtain rfl := Option.some.inj ho
      refine ZAH rfl rfl ?_
      go_simp
      refine ⟨x15, x16, .string ss[k], x18, x19, x20, x21, rfl, .inr (.inr ⟨by rw [getD_set_ne false (by decide)]; exact hst, by rw [getD_set_ne false (by decide)]; exact hfa, by rw [getD_set_ne false (by decide)]; exact hap, ?_⟩)⟩
      constructor
      ·exact hS.hb
      ·exact fun h => hS.p0 (gO h)
      ·intro h; have g := hS.p1 (gO h); exact ⟨g.1, getD_set_true g.2⟩
      ·exact fun _ => rfl
      ·exact fun h => ZAB (hS.p3 (gO h)).2 hun
      ·exact fun h => ZAB (hS.p4 (gO h)).2.1 hun
     | 3, _ =>
      obtain rfl := Option.some.inj ho
      have q2 := hdep ⟨2, .data⟩ (by simp) rfl
      obtain rfl := hS.p2 q2
      refine ZAH rfl rfl ?_
      go_simp
      refine (ZA1 ss[k] X (by have := F1 k hlk; omega)).mono ?_
      rintro e X' ⟨rfl, hb'⟩
      refine ⟨x15, x16, .string ss[k], .string ss[k], x19, x20, x21, rfl, .inr (.inr ⟨by rw [getD_set_ne false (by decide)]; exact hst, by rw [getD_set_ne false (by decide)]; exact hfa, by rw [getD_set_ne false (by decide)]; exact hap, ?_⟩)⟩
      constructor
      ·exact hS.hb.trans (hb'.mono hS.hb.size)
      ·exact fun h => hS.p0 (gO h)
      ·intro h; have g := hS.p1 (gO h); exact ⟨g.1, getD_set_true g.2⟩
      ·exact fun h => hS.p2 (gO h)
      ·exact fun _ => ⟨rfl, getD_set_true q2⟩
      ·exact fun h => ZAB (hS.p4 (gO h)).2.2 hun
     | 4, _ =>
      obtain rfl := Option.some.inj ho
      have q3 := hdep ⟨3, .data⟩ (by simp) rfl
      obtain ⟨rfl, e3_2⟩ := hS.p3 q3
      refine ZAH rfl rfl ?_
      go_simp
      refine ⟨x15, x16, x17, .string ss[k], .slice (some ⟨X.heap.size, 0, none⟩) 1 1, x20, x21, rfl, .inr (.inr ⟨by rw [getD_set_ne false (by decide)]; exact hst, by rw [getD_set_ne false (by decide)]; exact hfa, by rw [getD_set_ne false (by decide)]; exact hap, ?_⟩)⟩
      constructor
      ·exact hS.hb.alloc hS.hb.size _
      ·exact fun h => hS.p0 (gO h)
      ·intro h; have g := hS.p1 (gO h); exact ⟨g.1, getD_set_true g.2⟩
      ·exact fun h => hS.p2 (gO h)
      ·intro h; have g := hS.p3 (gO h); exact ⟨g.1, getD_set_true g.2⟩
      ·exact fun _ => ⟨ZB3 X [.string ss[k]] _ rfl (by simp; rfl), getD_set_true e3_2, getD_set_true q3⟩
     | 5, _ =>
      obtain rfl := Option.some.inj ho
      have q1 := hdep ⟨1, .data⟩ (by simp) rfl
      have q4 := hdep ⟨4, .data⟩ (by simp) rfl
      obtain ⟨rfl, e1_0⟩ := hS.p1 q1
      obtain ⟨hX, e4_2, e4_3⟩ := hS.p4 q4
      refine ZAH rfl rfl ?_
      have hO0 := ZAE hOw.out hS.hb
      refine ZAa _ _ 22 rfl (w.heap.size + 3) 9 _ _ 1 16 Tryz.underlying22 hi hz0 hz1 hz2 rfl (by decide) _ (k) _ rfl hO0 1 _ _ rfl hX (by have := HN.out; unfold maxLen; omega) (by have := HN.out; omega) (Nat.le_trans hBW hS.hb.size) ?_
      intro v' X' ho' hg
      refine ⟨x15, .slice b k c, x17, x18, x19, v', x21, rfl, .inr (.inl ⟨by rw [getD_set_ne false (by decide)]; exact hst, ZAX hun, fun j hj => ?_, ?_, ho', fun h => absurd (gO h) (by rw [hfa]; decide)⟩)⟩
      ·match j, hj with
       | 0, _ => exact getD_set_true e1_0
       | 1, _ => exact getD_set_true q1
       | 2, _ => exact getD_set_true e4_2
       | 3, _ => exact getD_set_true e4_3
       | 4, _ => exact getD_set_true q4
      ·refine (Chg.of_below hS.hb).trans ?_
       exact ⟨hg.os, hg.tape, hg.output, hg.size, fun k hk hp => hg.block k hk (fun e => hp e.symm)⟩
     | 6, _ =>
      obtain rfl := Option.some.inj ho
      exact absurd (hdep ⟨5, .phase⟩ (by simp) rfl) (by rw [hap]; decide)
     | 7, _ =>
      obtain rfl := Option.some.inj ho
      exact absurd (hdep ⟨5, .data⟩ (by simp) rfl) (by rw [hap]; decide)
   case fin =>
    rintro listed a X ⟨x15, x16, x17, x18, x19, x20, x21, rfl, hR⟩ hall
    have hst : listed.getD 7 false = true := hall 7 (by decide)
    rcases hR with ⟨_, _, b9, c9, hT', hO', hC⟩ | ⟨h, _⟩ | ⟨h, _⟩
    ·replace hT' := hid hT'
     replace hO' := hid hO'
     replace hC := hid hC
     go_wp2_with fail
     refine ⟨⟨k + 1, by omega, by simp, b9, c9, hT'.out, ?_, ?_⟩, by simp [intOf]; omega⟩
     ·have h := hO'.out
      rw [hL.out] at h
      rw [List.take_succ_eq_append_getElem hlk, List.map_append]
      exact h
     ·exact hbr.out.trans (hC.out.below (by omega) (fun j h => by
       rcases h with h | h
       ·have := (hOw.out.lt j h).1; omega
       ·omega))
    ·rw [hst] at h; cases h
    ·rw [hst] at h; cases h
  ·have x1 : wr.cell? ⟨w.heap.size, 1, none⟩ = some (.slice a2 fs.length k2) := ((hbr.out.cell (p := ⟨w.heap.size, 1, none⟩) (show w.heap.size < w.heap.size + 2 by omega)).trans (ce HA.out rfl))
   obtain rfl : k = ss.length := by omega
   rw [hL.out, List.take_length] at hOw
   go_wp2_with fail
   go_loopw [26] (fun i wr => ∃ k : Nat, k ≤ fs.length ∧ i = .int .i64 k ∧ L2 w W ss fs k wr) (fun i _ => fs.length - (intOf i).toNat)
   case atStart => exact ⟨0, Nat.zero_le _, rfl, b, c, none, 0, hT.out, hOw.out, ⟨by simp, .inl ⟨rfl, rfl⟩⟩, hbr.out⟩
   case round =>
    clear hT hOw hbr hszr HN x1
    obtain ⟨k', hk', rfl, b1, c1, b2, c2, hT, hO1, hO2, hbr⟩ := hrel
    replace hT := hid hT
    replace hO1 := hid hO1
    replace hbr := hid hbr
    obtain ⟨L, hL⟩ : ∃ L, L = (fs.take k').flatMap Pr.cells := ⟨_, rfl⟩
    rw [← hL] at hO2
    have hOw := hid hO2
    clear hO2
    replace hL := hid hL
    have hszr : w.heap.size + 3 ≤ wr.heap.size := by have := hbr.out.size; have := HZ.out; omega
    have HN := hid (show k' ≤ 1048576 by omega)
    by_cases hlk' : k' < fs.length
    ·have c0 : ∃ g o, a2 = some ⟨g, o, none⟩ ∧ wr.cell? ⟨g, o + k' * 2, none⟩ = some (.string fs[k'].fst) ∧ wr.cell? ⟨g, o + k' * 2 + 1, none⟩ = some (.string fs[k'].snd) := by
      have hs := HD.out.h2.stay (HBW.out.trans (hbr.out.mono (by omega))) nL
      rcases hs with ⟨a, c, e, rfl⟩ | ⟨g, o, c, e, _, h⟩
      ·exact absurd hlk' (by simp)
      ·injection e with e _ _
       exact ⟨g, o, e, (h.2 k' hlk').c0, (h.2 k' hlk').c1⟩
     obtain ⟨g, o, rfl, y0, y1⟩ := c0
     go_upto_region 10 with fail
     have HWf := hid (show Below wr.heap.size wr (wr.alloc (.cells #[.string fs[k'].fst, .string fs[k'].snd] 107)) from (bR _ _).alloc nL _)
     have hfx := hid (heap_alloc_new wr (.cells #[.string fs[k'].fst, .string fs[k'].snd] 107))
     generalize wr.alloc (.cells #[.string fs[k'].fst, .string fs[k'].snd] 107) = Wf at *
     have hBW : w.heap.size + 3 ≤ Wf.heap.size := Nat.le_trans hszr HWf.out.size
     have hTf := hid ((HWf.out.block _ (ZAA hT.out)).trans hT.out)
     have hOf := hid (ZAE hOw.out HWf.out)
     refine ZAR mixed (Ow10R (fun x30 x31 x32 x33 x34 x35 x36 x37 x38 x39 x40 x41 => { tmps := #[.agg #[.slice a1 ss.length k1, .slice (some ⟨g, o, none⟩) fs.length k2], .pointer (some ⟨w.heap.size, 0, none⟩), .pointer (some ⟨w.heap.size + 1, 0, none⟩), .pointer (some ⟨w.heap.size + 1 + 1, 0, none⟩), undef, u5, undef, .pointer (some ⟨wr.heap.size, 0, none⟩), .pointer (some ⟨w.heap.size, 0, none⟩), .slice a1 ss.length k1, .int .i64 (ss.length : Int), .int .i64 (ss.length : Int), .bool false, u13, u14, u15, u16, u17, u18, u19, u20, u21, u22, .pointer (some ⟨w.heap.size, 1, none⟩), .slice (some ⟨g, o, none⟩) fs.length k2, .int .i64 (fs.length : Int), .int .i64 (k' : Int), .bool true, .pointer (some ⟨g, o + k' * 2, none⟩), .agg #[.string fs[k'].fst, .string fs[k'].snd], x30, x31, x32, x33, x34, x35, x36, x37, x38, x39, x40, x41, u42, undef], defers := [] }) (w.heap.size + 3) (w.heap.size + 1 + 1) Wf b2 (k') c2 ((.slice b1 ss.length c1)) (L) wr.heap.size fs[k'].fst fs[k'].snd) ?ac ?start ?step ?fin
     case ac => exact ZCG (by kernel_rfl)
     case start =>
      refine ⟨u30, u31, u32, u33, u34, u35, u36, u37, u38, u39, u40, u41, rfl, .inr (.inr ⟨rfl, rfl, rfl, ?_⟩)⟩
      constructor
      ·exact (Below.refl _ Wf).drew
      all_goals (intro h; simp at h)
     case step =>
      rintro i listed a X ⟨x30, x31, x32, x33, x34, x35, x36, x37, x38, x39, x40, x41, rfl, hR⟩ hun ⟨o, ho, hdep⟩
      have hlt : i < 13 := (Array.getElem?_eq_some_iff.1 ho).1
      rcases hR with ⟨hst, hall, _⟩ | ⟨hst, hap, hall, hC, hO, hfa⟩ | ⟨hst, hfa, hap, hS⟩
      ·by_cases e : i = 12
       ·subst e; exact ZAB hst hun
       ·exact ZAB (hall i (by omega)) hun
      ·match i, hlt with
       | 0, _ => exact ZAB (hall 0 (by decide)) hun
       | 1, _ => exact ZAB (hall 1 (by decide)) hun
       | 2, _ => exact ZAB (hall 2 (by decide)) hun
       | 3, _ => exact ZAB (hall 3 (by decide)) hun
       | 4, _ => exact ZAB (hall 4 (by decide)) hun
       | 5, _ => exact ZAB (hall 5 (by decide)) hun
       | 6, _ => exact ZAB (hall 6 (by decide)) hun
       | 7, _ => exact ZAB (hall 7 (by decide)) hun
       | 8, _ => exact ZAB (hall 8 (by decide)) hun
       | 9, _ => exact ZAB (hall 9 (by decide)) hun
       | 10, _ => exact ZAB hap hun
       | 11, _ =>
        obtain rfl := Option.some.inj ho
        refine ZAH rfl rfl ?_
        go_simp
        refine ⟨x30, x31, x32, x33, x34, x35, x36, x37, x38, x39, x40, .pointer (some ⟨w.heap.size + 1 + 1, 1, none⟩), rfl, .inr (.inl ⟨by rw [getD_set_ne false (by decide)]; exact hst, by rw [getD_set_ne false (by decide)]; exact hap, fun j hj => getD_set_true (hall j hj), hC, hO, fun _ => rfl⟩)⟩
       | 12, _ =>
        obtain rfl := Option.some.inj ho
        have q11 := hdep ⟨11, .data⟩ (by simp) rfl
        obtain rfl := hfa q11
        obtain ⟨b9, c9, rfl⟩ := ZAD hO
        have hR := (hC.block _ (ZAA hTf.out) (fun e => ZAL hOf.out hTf.out (by decide) _ e rfl)).trans hTf.out
        have r0 : X.cell? ⟨w.heap.size + 1 + 1, 1, none⟩ = some (.slice b2 k' c2) := ce hR rfl
        have rf := Lib.frozen_of_heap hR
        refine ZAH rfl rfl ?_
        go_simp
        refine ⟨x30, x31, x32, x33, x34, x35, x36, x37, x38, x39, .slice b9 (k' + 1) c9, .pointer (some ⟨w.heap.size + 1 + 1, 1, none⟩), rfl, .inl ⟨ZAX hun, fun j hj => ?_, b9, c9, ?_, ?_, ?_⟩⟩
        ·by_cases e : j = 11
         ·subst e; exact getD_set_true q11
         ·by_cases e : j = 10
          ·subst e; exact getD_set_true hap
          ·exact getD_set_true (hall j (by omega))
        ·exact ZAG (L := [_, _]) (i := 1) hR _
        ·exact ZAJ hO (Chg.of_grown (p := fun j => j = w.heap.size + 1 + 1) (ZAF _ (w.heap.size + 1 + 1) 1 _) rfl) (ZAL hO hR (by decide))
        ·exact (hC.mono (fun _ h => .inl h)).trans (Chg.of_grown (ZAF _ (w.heap.size + 1 + 1) 1 _) (.inr rfl))
      ·have c0 : X.cell? ⟨w.heap.size + 1 + 1, 1, none⟩ = some (.slice b2 k' c2) := (hS.hb.cell (p := ⟨w.heap.size + 1 + 1, 1, none⟩) (ZAA hTf.out)).trans (ce hTf.out rfl)
       have f0 : X.cell? ⟨wr.heap.size, 0, none⟩ = some (.string fs[k'].fst) := (hS.hb.cell (p := ⟨wr.heap.size, 0, none⟩) (ZAA hfx.out)).trans (ce hfx.out rfl)
       have f1 : X.cell? ⟨wr.heap.size, 1, none⟩ = some (.string fs[k'].snd) := (hS.hb.cell (p := ⟨wr.heap.size, 1, none⟩) (ZAA hfx.out)).trans (ce hfx.out rfl)
       match i, hlt with
       | 0, _ =>
        obtain rfl := Option.some.inj ho
        refine ZAH rfl rfl ?_
        go_simp
        refine ⟨.pointer (some ⟨w.heap.size + 1 + 1, 1, none⟩), x31, x32, x33, x34, x35, x36, x37, x38, x39, x40, x41, rfl, .inr (.inr ⟨by rw [getD_set_ne false (by decide)]; exact hst, by rw [getD_set_ne false (by decide)]; exact hfa, by rw [getD_set_ne false (by decide)]; exact hap, ?_⟩)⟩
        constructor
        ·exact hS.hb
        ·exact fun _ => rfl
        ·exact fun h => ZAB (hS.p1 (gO h)).2 hun
        ·exact fun h => hS.p2 (gO h)
        ·intro h; have g := hS.p3 (gO h); exact ⟨g.1, getD_set_true g.2⟩
        ·intro h; have g := hS.p4 (gO h); exact ⟨g.1, getD_set_true g.2.1, getD_set_true g.2.2⟩
        ·exact fun h => hS.p5 (gO h)
        ·intro h; have g := hS.p6 (gO h); exact ⟨g.1, getD_set_true g.2⟩
        ·intro h; have g := hS.p7 (gO h); exact ⟨g.1, getD_set_true g.2.1, getD_set_true g.2.2⟩
        ·intro h; have g := hS.p8 (gO h); exact ⟨g.1, getD_set_true g.2.1, getD_set_true g.2.2.1, getD_set_true g.2.2.2.1, getD_set_true g.2.2.2.2.1, getD_set_true g.2.2.2.2.2.1, getD_set_true g.2.2.2.2.2.2⟩
        ·intro h; have g := hS.p9 (gO h); exact ⟨g.1, getD_set_true g.2.1, getD_set_true g.2.2.1, getD_set_true g.2.2.2.1, getD_set_true g.2.2.2.2.1, getD_set_true g.2.2.2.2.2.1, getD_set_true g.2.2.2.2.2.2.1, getD_set_true g.2.2.2.2.2.2.2⟩
       | 1, _ =>
        obtain rfl := Option.some.inj ho
        have q0 := hdep ⟨0, .data⟩ (by simp) rfl
        obtain rfl := hS.p0 q0
        refine ZAH rfl rfl ?_
        go_simp
        refine ⟨.pointer (some ⟨w.heap.size + 1 + 1, 1, none⟩), .slice b2 k' c2, x32, x33, x34, x35, x36, x37, x38, x39, x40, x41, rfl, .inr (.inr ⟨by rw [getD_set_ne false (by decide)]; exact hst, by rw [getD_set_ne false (by decide)]; exact hfa, by rw [getD_set_ne false (by decide)]; exact hap, ?_⟩)⟩
        constructor
        ·exact hS.hb
        ·exact fun h => hS.p0 (gO h)
        ·exact fun _ => ⟨rfl, getD_set_true q0⟩
        ·exact fun h => hS.p2 (gO h)
        ·intro h; have g := hS.p3 (gO h); exact ⟨g.1, getD_set_true g.2⟩
        ·intro h; have g := hS.p4 (gO h); exact ⟨g.1, getD_set_true g.2.1, getD_set_true g.2.2⟩
        ·exact fun h => hS.p5 (gO h)
        ·intro h; have g := hS.p6 (gO h); exact ⟨g.1, getD_set_true g.2⟩
        ·intro h; have g := hS.p7 (gO h); exact ⟨g.1, getD_set_true g.2.1, getD_set_true g.2.2⟩
        ·intro h; have g := hS.p8 (gO h); exact ⟨g.1, getD_set_true g.2.1, getD_set_true g.2.2.1, getD_set_true g.2.2.2.1, getD_set_true g.2.2.2.2.1, getD_set_true g.2.2.2.2.2.1, getD_set_true g.2.2.2.2.2.2⟩
        ·intro h; have g := hS.p9 (gO h); exact ⟨g.1, getD_set_true g.2.1, getD_set_true g.2.2.1, getD_set_true g.2.2.2.1, getD_set_true g.2.2.2.2.1, getD_set_true g.2.2.2.2.2.1, getD_set_true g.2.2.2.2.2.2.1, getD_set_true g.2.2.2.2.2.2.2⟩
       | 2, _ =>
        obtain rfl := Option.some.inj ho
        refine ZAH rfl rfl ?_
        go_simp
        refine ⟨x30, x31, .pointer (some ⟨wr.heap.size, 0, none⟩), x33, x34, x35, x36, x37, x38, x39, x40, x41, rfl, .inr (.inr ⟨by rw [getD_set_ne false (by decide)]; exact hst, by rw [getD_set_ne false (by decide)]; exact hfa, by rw [getD_set_ne false (by decide)]; exact hap, ?_⟩)⟩
        constructor
        ·exact hS.hb
        ·exact fun h => hS.p0 (gO h)
        ·intro h; have g := hS.p1 (gO h); exact ⟨g.1, getD_set_true g.2⟩
        ·exact fun _ => rfl
        ·exact fun h => ZAB (hS.p3 (gO h)).2 hun
        ·exact fun h => ZAB (hS.p4 (gO h)).2.1 hun
        ·exact fun h => hS.p5 (gO h)
        ·intro h; have g := hS.p6 (gO h); exact ⟨g.1, getD_set_true g.2⟩
        ·intro h; have g := hS.p7 (gO h); exact ⟨g.1, getD_set_true g.2.1, getD_set_true g.2.2⟩
        ·exact fun h => ZAB (hS.p8 (gO h)).2.1 hun
        ·exact fun h => ZAB (hS.p9 (gO h)).2.1 hun
       | 3, _ =>
        obtain rfl := Option.some.inj ho
        have q2 := hdep ⟨2, .data⟩ (by simp) rfl
        obtain rfl := hS.p2 q2
        refine ZAH rfl rfl ?_
        go_simp
        refine ⟨x30, x31, .pointer (some ⟨wr.heap.size, 0, none⟩), .string fs[k'].fst, x34, x35, x36, x37, x38, x39, x40, x41, rfl, .inr (.inr ⟨by rw [getD_set_ne false (by decide)]; exact hst, by rw [getD_set_ne false (by decide)]; exact hfa, by rw [getD_set_ne false (by decide)]; exact hap, ?_⟩)⟩
        constructor
        ·exact hS.hb
        ·exact fun h => hS.p0 (gO h)
        ·intro h; have g := hS.p1 (gO h); exact ⟨g.1, getD_set_true g.2⟩
        ·exact fun h => hS.p2 (gO h)
        ·exact fun _ => ⟨rfl, getD_set_true q2⟩
        ·exact fun h => ZAB (hS.p4 (gO h)).2.2 hun
        ·exact fun h => hS.p5 (gO h)
        ·intro h; have g := hS.p6 (gO h); exact ⟨g.1, getD_set_true g.2⟩
        ·intro h; have g := hS.p7 (gO h); exact ⟨g.1, getD_set_true g.2.1, getD_set_true g.2.2⟩
        ·exact fun h => ZAB (hS.p8 (gO h)).2.2.1 hun
        ·exact fun h => ZAB (hS.p9 (gO h)).2.2.1 hun
       | 4, _ =>
        obtain rfl := Option.some.inj ho
        have q3 := hdep ⟨3, .data⟩ (by simp) rfl
        obtain ⟨rfl, e3_2⟩ := hS.p3 q3
        refine ZAH rfl rfl ?_
        go_simp
        refine (ZA1 fs[k'].fst X (by have := (F2 k' hlk').1; omega)).mono ?_
        rintro e X' ⟨rfl, hb'⟩
        refine ⟨x30, x31, x32, .string fs[k'].fst, .string fs[k'].fst, x35, x36, x37, x38, x39, x40, x41, rfl, .inr (.inr ⟨by rw [getD_set_ne false (by decide)]; exact hst, by rw [getD_set_ne false (by decide)]; exact hfa, by rw [getD_set_ne false (by decide)]; exact hap, ?_⟩)⟩
        constructor
        ·exact hS.hb.trans (hb'.mono hS.hb.size)
        ·exact fun h => hS.p0 (gO h)
        ·intro h; have g := hS.p1 (gO h); exact ⟨g.1, getD_set_true g.2⟩
        ·exact fun h => hS.p2 (gO h)
        ·intro h; have g := hS.p3 (gO h); exact ⟨g.1, getD_set_true g.2⟩
        ·exact fun _ => ⟨rfl, getD_set_true e3_2, getD_set_true q3⟩
        ·exact fun h => hS.p5 (gO h)
        ·intro h; have g := hS.p6 (gO h); exact ⟨g.1, getD_set_true g.2⟩
        ·intro h; have g := hS.p7 (gO h); exact ⟨g.1, getD_set_true g.2.1, getD_set_true g.2.2⟩
        ·exact fun h => ZAB (hS.p8 (gO h)).2.2.2.1 hun
        ·exact fun h => ZAB (hS.p9 (gO h)).2.2.2.1 hun
       | 5, _ =>
        obtain rfl := Option.some.inj ho
        refine ZAH rfl rfl ?_
        go_simp
        refine ⟨x30, x31, x32, x33, x34, .pointer (some ⟨wr.heap.size, 1, none⟩), x36, x37, x38, x39, x40, x41, rfl, .inr (.inr ⟨by rw [getD_set_ne false (by decide)]; exact hst, by rw [getD_set_ne false (by decide)]; exact hfa, by rw [getD_set_ne false (by decide)]; exact hap, ?_⟩)⟩
        constructor
        ·exact hS.hb
        ·exact fun h => hS.p0 (gO h)
        ·intro h; have g := hS.p1 (gO h); exact ⟨g.1, getD_set_true g.2⟩
        ·exact fun h => hS.p2 (gO h)
        ·intro h; have g := hS.p3 (gO h); exact ⟨g.1, getD_set_true g.2⟩
        ·intro h; have g := hS.p4 (gO h); exact ⟨g.1, getD_set_true g.2.1, getD_set_true g.2.2⟩
        ·exact fun _ => rfl
        ·exact fun h => ZAB (hS.p6 (gO h)).2 hun
        ·exact fun h => ZAB (hS.p7 (gO h)).2.1 hun
        ·exact fun h => ZAB (hS.p8 (gO h)).2.2.2.2.1 hun
        ·exact fun h => ZAB (hS.p9 (gO h)).2.2.2.2.1 hun
       | 6, _ =>
        obtain rfl := Option.some.inj ho
        have q5 := hdep ⟨5, .data⟩ (by simp) rfl
        obtain rfl := hS.p5 q5
        refine ZAH rfl rfl ?_
        go_simp
        refine ⟨x30, x31, x32, x33, x34, .pointer (some ⟨wr.heap.size, 1, none⟩), .string fs[k'].snd, x37, x38, x39, x40, x41, rfl, .inr (.inr ⟨by rw [getD_set_ne false (by decide)]; exact hst, by rw [getD_set_ne false (by decide)]; exact hfa, by rw [getD_set_ne false (by decide)]; exact hap, ?_⟩)⟩
        constructor
        ·exact hS.hb
        ·exact fun h => hS.p0 (gO h)
        ·intro h; have g := hS.p1 (gO h); exact ⟨g.1, getD_set_true g.2⟩
        ·exact fun h => hS.p2 (gO h)
        ·intro h; have g := hS.p3 (gO h); exact ⟨g.1, getD_set_true g.2⟩
        ·intro h; have g := hS.p4 (gO h); exact ⟨g.1, getD_set_true g.2.1, getD_set_true g.2.2⟩
        ·exact fun h => hS.p5 (gO h)
        ·exact fun _ => ⟨rfl, getD_set_true q5⟩
        ·exact fun h => ZAB (hS.p7 (gO h)).2.2 hun
        ·exact fun h => ZAB (hS.p8 (gO h)).2.2.2.2.2.1 hun
        ·exact fun h => ZAB (hS.p9 (gO h)).2.2.2.2.2.1 hun
       | 7, _ =>
        obtain rfl := Option.some.inj ho
        have q6 := hdep ⟨6, .data⟩ (by simp) rfl
        obtain ⟨rfl, e6_5⟩ := hS.p6 q6
        refine ZAH rfl rfl ?_
        go_simp
        refine (ZA1 fs[k'].snd X (by have := (F2 k' hlk').2; omega)).mono ?_
        rintro e X' ⟨rfl, hb'⟩
        refine ⟨x30, x31, x32, x33, x34, x35, .string fs[k'].snd, .string fs[k'].snd, x38, x39, x40, x41, rfl, .inr (.inr ⟨by rw [getD_set_ne false (by decide)]; exact hst, by rw [getD_set_ne false (by decide)]; exact hfa, by rw [getD_set_ne false (by decide)]; exact hap, ?_⟩)⟩
        constructor
        ·exact hS.hb.trans (hb'.mono hS.hb.size)
        ·exact fun h => hS.p0 (gO h)
        ·intro h; have g := hS.p1 (gO h); exact ⟨g.1, getD_set_true g.2⟩
        ·exact fun h => hS.p2 (gO h)
        ·intro h; have g := hS.p3 (gO h); exact ⟨g.1, getD_set_true g.2⟩
        ·intro h; have g := hS.p4 (gO h); exact ⟨g.1, getD_set_true g.2.1, getD_set_true g.2.2⟩
        ·exact fun h => hS.p5 (gO h)
        ·intro h; have g := hS.p6 (gO h); exact ⟨g.1, getD_set_true g.2⟩
        ·exact fun _ => ⟨rfl, getD_set_true e6_5, getD_set_true q6⟩
        ·exact fun h => ZAB (hS.p8 (gO h)).2.2.2.2.2.2 hun
        ·exact fun h => ZAB (hS.p9 (gO h)).2.2.2.2.2.2.1 hun
       | 8, _ =>
        obtain rfl := Option.some.inj ho
        have q4 := hdep ⟨4, .data⟩ (by simp) rfl
        have q7 := hdep ⟨7, .data⟩ (by simp) rfl
        obtain ⟨rfl, e4_2, e4_3⟩ := hS.p4 q4
        obtain ⟨rfl, e7_5, e7_6⟩ := hS.p7 q7
        refine ZAH rfl rfl ?_
        go_simp
        refine ⟨x30, x31, x32, x33, .string fs[k'].fst, x35, x36, .string fs[k'].snd, .agg #[.string fs[k'].fst, .string fs[k'].snd], x39, x40, x41, rfl, .inr (.inr ⟨by rw [getD_set_ne false (by decide)]; exact hst, by rw [getD_set_ne false (by decide)]; exact hfa, by rw [getD_set_ne false (by decide)]; exact hap, ?_⟩)⟩
        constructor
        ·exact hS.hb
        ·exact fun h => hS.p0 (gO h)
        ·intro h; have g := hS.p1 (gO h); exact ⟨g.1, getD_set_true g.2⟩
        ·exact fun h => hS.p2 (gO h)
        ·intro h; have g := hS.p3 (gO h); exact ⟨g.1, getD_set_true g.2⟩
        ·intro h; have g := hS.p4 (gO h); exact ⟨g.1, getD_set_true g.2.1, getD_set_true g.2.2⟩
        ·exact fun h => hS.p5 (gO h)
        ·intro h; have g := hS.p6 (gO h); exact ⟨g.1, getD_set_true g.2⟩
        ·intro h; have g := hS.p7 (gO h); exact ⟨g.1, getD_set_true g.2.1, getD_set_true g.2.2⟩
        ·exact fun _ => ⟨rfl, getD_set_true e4_2, getD_set_true e4_3, getD_set_true q4, getD_set_true e7_5, getD_set_true e7_6, getD_set_true q7⟩
        ·exact fun h => ZAB (hS.p9 (gO h)).2.2.2.2.2.2.2 hun
       | 9, _ =>
        obtain rfl := Option.some.inj ho
        have q8 := hdep ⟨8, .data⟩ (by simp) rfl
        obtain ⟨rfl, e8_2, e8_3, e8_4, e8_5, e8_6, e8_7⟩ := hS.p8 q8
        refine ZAH rfl rfl ?_
        go_simp
        refine ⟨x30, x31, x32, x33, x34, x35, x36, x37, .agg #[.string fs[k'].fst, .string fs[k'].snd], .slice (some ⟨X.heap.size, 0, none⟩) 1 1, x40, x41, rfl, .inr (.inr ⟨by rw [getD_set_ne false (by decide)]; exact hst, by rw [getD_set_ne false (by decide)]; exact hfa, by rw [getD_set_ne false (by decide)]; exact hap, ?_⟩)⟩
        constructor
        ·exact hS.hb.alloc hS.hb.size _
        ·exact fun h => hS.p0 (gO h)
        ·intro h; have g := hS.p1 (gO h); exact ⟨g.1, getD_set_true g.2⟩
        ·exact fun h => hS.p2 (gO h)
        ·intro h; have g := hS.p3 (gO h); exact ⟨g.1, getD_set_true g.2⟩
        ·intro h; have g := hS.p4 (gO h); exact ⟨g.1, getD_set_true g.2.1, getD_set_true g.2.2⟩
        ·exact fun h => hS.p5 (gO h)
        ·intro h; have g := hS.p6 (gO h); exact ⟨g.1, getD_set_true g.2⟩
        ·intro h; have g := hS.p7 (gO h); exact ⟨g.1, getD_set_true g.2.1, getD_set_true g.2.2⟩
        ·intro h; have g := hS.p8 (gO h); exact ⟨g.1, getD_set_true g.2.1, getD_set_true g.2.2.1, getD_set_true g.2.2.2.1, getD_set_true g.2.2.2.2.1, getD_set_true g.2.2.2.2.2.1, getD_set_true g.2.2.2.2.2.2⟩
        ·exact fun _ => ⟨ZB3 X [.string fs[k'].fst, .string fs[k'].snd] _ rfl (by simp; exact ⟨rfl, rfl⟩), getD_set_true e8_2, getD_set_true e8_3, getD_set_true e8_4, getD_set_true e8_5, getD_set_true e8_6, getD_set_true e8_7, getD_set_true q8⟩
       | 10, _ =>
        obtain rfl := Option.some.inj ho
        have q1 := hdep ⟨1, .data⟩ (by simp) rfl
        have q9 := hdep ⟨9, .data⟩ (by simp) rfl
        obtain ⟨rfl, e1_0⟩ := hS.p1 q1
        obtain ⟨hX, e9_2, e9_3, e9_4, e9_5, e9_6, e9_7, e9_8⟩ := hS.p9 q9
        refine ZAH rfl rfl ?_
        have hO0 := ZAE hOf.out hS.hb
        refine ZAa _ _ 31 rfl (w.heap.size + 3) 107 _ _ 2 32 Tryz.underlying31 hj hj0 hj1 hj2 rfl (by decide) _ (k') _ rfl hO0 1 _ _ rfl hX (by have := HN.out; unfold maxLen; omega) (by have := HN.out; omega) (Nat.le_trans hBW hS.hb.size) ?_
        intro v' X' ho' hg
        refine ⟨x30, .slice b2 k' c2, x32, x33, x34, x35, x36, x37, x38, x39, v', x41, rfl, .inr (.inl ⟨by rw [getD_set_ne false (by decide)]; exact hst, ZAX hun, fun j hj => ?_, ?_, ho', fun h => absurd (gO h) (by rw [hfa]; decide)⟩)⟩
        ·match j, hj with
         | 0, _ => exact getD_set_true e1_0
         | 1, _ => exact getD_set_true q1
         | 2, _ => exact getD_set_true e9_2
         | 3, _ => exact getD_set_true e9_3
         | 4, _ => exact getD_set_true e9_4
         | 5, _ => exact getD_set_true e9_5
         | 6, _ => exact getD_set_true e9_6
         | 7, _ => exact getD_set_true e9_7
         | 8, _ => exact getD_set_true e9_8
         | 9, _ => exact getD_set_true q9
        ·refine (Chg.of_below hS.hb).trans ?_
         exact ⟨hg.os, hg.tape, hg.output, hg.size, fun k hk hp => hg.block k hk (fun e => hp e.symm)⟩
       | 11, _ =>
        obtain rfl := Option.some.inj ho
        exact absurd (hdep ⟨10, .phase⟩ (by simp) rfl) (by rw [hap]; decide)
       | 12, _ =>
        obtain rfl := Option.some.inj ho
        exact absurd (hdep ⟨10, .data⟩ (by simp) rfl) (by rw [hap]; decide)
     case fin =>
      rintro listed a X ⟨x30, x31, x32, x33, x34, x35, x36, x37, x38, x39, x40, x41, rfl, hR⟩ hall
      have hst : listed.getD 12 false = true := hall 12 (by decide)
      rcases hR with ⟨_, _, b9, c9, hT', hO', hC⟩ | ⟨h, _⟩ | ⟨h, _⟩
      ·replace hT' := hid hT'
       replace hO' := hid hO'
       replace hC := hid hC
       go_wp2_with fail
       have hO1f := ZAE hO1.out HWf.out
       refine ⟨⟨k' + 1, by omega, by simp, b1, c1, b9, c9, hT'.out, ?_, ?_, ?_⟩, by simp [intOf]; omega⟩
       ·refine ZAJ hO1f hC.out (fun g hg h => ?_)
        rcases h with h | h
        ·exact ZBX hO1f hOf.out (by decide) g hg h
        ·exact ZAL hO1f hTf.out (by decide) g hg h
       ·have h := hO'.out
        rw [hL.out] at h
        rw [List.take_succ_eq_append_getElem hlk', List.flatMap_append]
        exact h
       ·exact hbr.out.trans ((HWf.out.mono (by omega)).trans (hC.out.below (by omega) (fun j h => by
         rcases h with h | h
         ·have := (hOf.out.lt j h).1; omega
         ·omega)))
      ·rw [hst] at h; cases h
      ·rw [hst] at h; cases h
    ·obtain rfl : k' = fs.length := by omega
     rw [hL.out, List.take_length] at hOw
     have t0 : wr.cell? ⟨w.heap.size + 1 + 1, 0, none⟩ = some (.slice b1 ss.length c1) := ce hT.out rfl
     have t1 : wr.cell? ⟨w.heap.size + 1 + 1, 1, none⟩ = some (.slice b2 fs.length c2) := ce hT.out rfl
     have hR := hid ((hbr.out.block (w.heap.size + 1) (by omega)).trans HR.out)
     have r0 : wr.cell? ⟨w.heap.size + 1, 0, none⟩ = some (.slice none 0 0) := ce hR.out rfl
     have r1 : wr.cell? ⟨w.heap.size + 1, 1, none⟩ = some (.slice none 0 0) := ce hR.out rfl
     have rf := Lib.frozen_of_heap hR.out
     go_wp2_with fail
     have hC : Chg (fun j => j = w.heap.size + 1) wr ((wr.setCell ⟨w.heap.size + 1, 0, none⟩ (.slice b1 ss.length c1)).setCell ⟨w.heap.size + 1, 1, none⟩ (.slice b2 fs.length c2)) := (Chg.of_grown (p := fun j => j = w.heap.size + 1) (ZAF _ (w.heap.size + 1) 0 _) rfl).trans (Chg.of_grown (ZAF _ (w.heap.size + 1) 1 _) rfl)
     have hF := ZAG (L := [_, _]) (i := 1) (ZAG (L := [_, _]) (i := 0) hR.out (.slice b1 ss.length c1)) (.slice b2 fs.length c2)
     have z0 : ((wr.setCell ⟨w.heap.size + 1, 0, none⟩ (.slice b1 ss.length c1)).setCell ⟨w.heap.size + 1, 1, none⟩ (.slice b2 fs.length c2)).cell? ⟨w.heap.size + 1, 0, none⟩ = some (.slice b1 ss.length c1) := ce hF rfl
     have z1 : ((wr.setCell ⟨w.heap.size + 1, 0, none⟩ (.slice b1 ss.length c1)).setCell ⟨w.heap.size + 1, 1, none⟩ (.slice b2 fs.length c2)).cell? ⟨w.heap.size + 1, 1, none⟩ = some (.slice b2 fs.length c2) := ce hF rfl
     exact bodyPost_ret (v := .agg #[.slice b1 ss.length c1, .slice b2 fs.length c2]) (by simp [results, Tryz.results70, go_sem, z0, z1]) rfl ⟨b1, b2, c1, c2, rfl, ⟨ZAI (ZAJ hO1.out hC (ZAL hO1.out hR.out (by decide))) (by omega), ZAI (ZAJ hOw.out hC (ZAL hOw.out hR.out (by decide))) (by omega)⟩, HBW.out.trans ((hbr.out.mono (by omega)).trans (hC.below (by omega) (fun j (h : j = _) => by omega)))⟩
end Go.Proofs.YtookchpdbilbcaaGreatDoor
