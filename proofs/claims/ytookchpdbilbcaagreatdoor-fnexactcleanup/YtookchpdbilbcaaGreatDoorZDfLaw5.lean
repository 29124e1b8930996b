/-
 Texts put together: DfLaw, DfOw, SvV, HisM, ApSl.
-/
import Derived.Test.YtookchpdbilbcaaGreatDoorZStLaw3
import Derived.Test.YtookchpdbilbcaaGreatDoorZImSA3
import Derived.Test.YtookchpdbilbcaaGreatDoorZEvI8
import Derived.Test.YtookchpdbilbcaaGreatDoorZDfV7
import Derived.Test.YtookchpdbilbcaaGreatDoorZEvX11
import Derived.Test.YtookchpdbilbcaaGreatDoorZSpSet23
import Derived.Laws.AppendOwnNone
import Derived.Maps.AppendAt
import Derived.OwnWalk
set_option maxRecDepth 100000
set_option maxHeartbeats 1000000
/-
 What laws.szDef, toDef and eqDef answer, for every Def: contracts over the seat's program.
-/
namespace Go.Proofs.YtookchpdbilbcaaGreatDoor
open Go.RowKit Go.Sort
theorem ZHx (a1 a2 : Option Addr) (k1 k2 : Nat) (ss : List ByteArray) (fs : List Pr) (left : Int) (w : World) (h1 : StrSl w (.slice a1 ss.length k1) ss) (h2 : PrSl w (.slice a2 fs.length k2) fs) (F1 : FitS ss) (F2 : FitP fs) (h0 : 0 ≤ left) (hl : left ≤ 1048576) (n1 : ss.length ≤ maxLen) (n2 : fs.length ≤ maxLen) :
  Calls Tryz.prog 20 #[.agg #[.slice a1 ss.length k1, .slice a2 fs.length k2], .int .i64 left] w fun e w' => ∃ r : Int, e = .returned (.int .i64 r) ∧ (r = -1 ∨ 0 ≤ r ∧ r ≤ left ∧ ss.length ≤ 1048576 ∧ fs.length ≤ 1048576) ∧ Below w.heap.size w w' := by
 have hbW : Below w.heap.size w (w.alloc (.cells #[.slice a1 ss.length k1, .slice a2 fs.length k2] 25)) := (bR _ _).alloc nL _
 have c1 := ZEW _ ss left _ (h1.stay hbW nL) F1 h0 hl n1
 have H2 := hid h2
 have HF2 := hid F2
 have N2 := hid n2
 clear h1 h2 F1 F2 n1 n2
 by_cases hz : (ss.length : Int) + (sumS ss : Int) ≤ left
 ·rw [ZFv hz] at c1
  have hL : (0 : Int) ≤ left - (ss.length : Int) - (sumS ss : Int) := by omega
  have hL2 : left - (ss.length : Int) - (sumS ss : Int) ≤ left := by omega
  have HN := hid (show ss.length ≤ 1048576 by omega)
  generalize left - (ss.length : Int) - (sumS ss : Int) = L at *
  by_cases hz2 : (fs.length : Int) + (sumP fs : Int) ≤ L
  ·have HR := hid (ZFi hz2)
   have HS := hid (show 0 ≤ L - (fs.length : Int) - (sumP fs : Int) ∧ L - (fs.length : Int) - (sumP fs : Int) ≤ left ∧ fs.length ≤ 1048576 by omega)
   clear hz hz2
   go_enter Tryz.func20, Tryz.ntmps20
   go_wp2_with fail
   refine c1.mono ?_
   rintro e w1 ⟨rfl, hb1⟩
   obtain ⟨hc1, hf1⟩ := bcell hb1
   have hbA := hbW.trans (hb1.mono (by simp))
   simp at hc1 hf1
   have HB := hid hbA
   clear hb1 c1 hbW hbA
   go_wp2_with fail
   refine (ZCU _ fs L _ (H2.out.stay HB.out nL) HF2.out hL (by omega) N2.out).mono ?_
   rw [HR.out]
   rintro e w2 ⟨rfl, hb2⟩
   have hbB := HB.out.trans (hb2.mono HB.out.size)
   have hS := HS.out.1
   clear hb2 hc1 hf1
   generalize L - (fs.length : Int) - (sumP fs : Int) = L2 at *
   go_wp2
   go_ret
   exact ⟨L2, rfl, .inr ⟨HS.out.1, HS.out.2.1, HN.out, HS.out.2.2⟩, hbB⟩
  ·have HR := hid (ZHO (left := L) (es := fs) (by omega))
   clear hz hz2
   go_enter Tryz.func20, Tryz.ntmps20
   go_wp2_with fail
   refine c1.mono ?_
   rintro e w1 ⟨rfl, hb1⟩
   obtain ⟨hc1, hf1⟩ := bcell hb1
   have hbA := hbW.trans (hb1.mono (by simp))
   simp at hc1 hf1
   have HB := hid hbA
   clear hb1 c1 hbW hbA
   go_wp2_with fail
   refine (ZCU _ fs L _ (H2.out.stay HB.out nL) HF2.out hL (by omega) N2.out).mono ?_
   rw [HR.out]
   rintro e w2 ⟨rfl, hb2⟩
   have hbB := HB.out.trans (hb2.mono HB.out.size)
   clear hb2 hc1 hf1
   go_wp2
   go_ret
   exact ⟨-1, rfl, .inl rfl, hbB⟩
 ·rw [ZIE (by omega)] at c1
  clear hz
  go_enter Tryz.func20, Tryz.ntmps20
  go_wp2_with fail
  refine c1.mono ?_
  rintro e w1 ⟨rfl, hb1⟩
  have hbA := hbW.trans (hb1.mono (by simp))
  clear hb1 c1 hbW
  go_wp2
  go_ret
  exact ⟨-1, rfl, .inl rfl, hbA⟩
theorem ZHe (a1 a2 : Option Addr) (k1 k2 : Nat) (ss : List ByteArray) (fs : List Pr) (w : World) (h1 : StrSl w (.slice a1 ss.length k1) ss) (h2 : PrSl w (.slice a2 fs.length k2) fs) (n1 : ss.length ≤ 1048576) (n2 : fs.length ≤ 1048576) :
  Calls Tryz.prog 24 #[.agg #[.slice a1 ss.length k1, .slice a2 fs.length k2]] w fun e w' => ∃ b1 b2 c1 c2 m, e = .returned (.agg #[.slice b1 ss.length c1, .slice b2 fs.length c2]) ∧ w'.ownsRow w.heap.size 9 1 (.slice b1 ss.length c1) ss.length (ss.map Value.string) ∧ w'.ownsRow m 107 2 (.slice b2 fs.length c2) fs.length (fs.flatMap Pr.cells) ∧ w.heap.size ≤ m ∧ (∀ g, (Value.slice b1 ss.length c1).ownBlock = some g → g < m) ∧ Below w.heap.size w w' := by
 have H1 := hid h1
 have H2 := hid h2
 have N1 := hid n1
 have N2 := hid n2
 clear h1 h2
 go_enter Tryz.func24, Tryz.ntmps24
 go_wp2_with fail
 have hb3 : Below w.heap.size w (((w.alloc (.cells #[.slice a1 ss.length k1, .slice a2 fs.length k2] 25)).alloc (.cells #[.slice none 0 0, .slice none 0 0] 33)).alloc (.cells #[.slice none 0 0, .slice none 0 0] 33)) := (((bR _ _).alloc nL _).alloc (by simp) _).alloc (by simp; omega) _
 refine (ZEV _ ss _ (H1.out.stay hb3 nL) N1.out).mono ?_
 rintro e w1 ⟨v1, rfl, ho1, hb1⟩
 obtain ⟨b1, c1, rfl⟩ := ZAD ho1
 obtain ⟨hc1, hf1⟩ := bcell hb1
 have hz1 := hb1.size
 have HB1 := hid (hb3.trans (hb1.mono (by simp; omega)))
 simp at hc1 hf1 hz1 ho1
 have HO1 := hid ho1
 clear hb1 hb3 ho1
 go_wp2_with fail
 have hb4 := HB1.out.setCell (p := ⟨w.heap.size + 1 + 1, 0, none⟩) (by show w.heap.size ≤ w.heap.size + 1 + 1; omega) (.slice b1 ss.length c1)
 have ho4 := ownsRow_setCell_below HO1.out (a := ⟨w.heap.size + 1 + 1, 0, none⟩) (by show w.heap.size + 1 + 1 < w.heap.size + 1 + 1 + 1; omega) (.slice b1 ss.length c1)
 refine (ZFW _ fs _ (H2.out.stay hb4 nL) N2.out).mono ?_
 rintro e w2 ⟨v2, rfl, ho2, hb2⟩
 obtain ⟨b2, c2, rfl⟩ := ZAD ho2
 have HO1b := hid (ZAE ho4 hb2)
 have HL := hid (fun g (hg : (Value.slice b1 ss.length c1).ownBlock = some g) => (ho4.lt g hg).2)
 have HB2 := hid (hb4.trans (hb2.mono (by have := HB1.out.size; simpa using this)))
 have hz2 := hb2.size
 obtain ⟨hc2, hf2⟩ := bcell hb2
 have hzz : (w1.setCell ⟨w.heap.size + 1 + 1, 0, none⟩ (.slice b1 ss.length c1)).heap.size = w1.heap.size := by simp
 rw [hzz] at ho2 hz2 hc2 hf2 HL
 have HO2 := hid ho2
 have p1 : w.heap.size + 1 < w1.heap.size := by omega
 have p2 : w.heap.size + 1 + 1 < w1.heap.size := by omega
 have y0 : w2.cell? ⟨w.heap.size + 1 + 1, 0, none⟩ = some (.slice b1 ss.length c1) := by rw [hc2 _ _ p2]; simp [go_sem, hc1]
 have y1 : w2.cell? ⟨w.heap.size + 1 + 1, 1, none⟩ = some (.slice none 0 0) := by rw [hc2 _ _ p2]; simp [go_sem, hc1]
 have y2 : w2.cell? ⟨w.heap.size + 1, 0, none⟩ = some (.slice none 0 0) := by rw [hc2 _ _ p1]; simp [go_sem, hc1]
 have y3 : w2.cell? ⟨w.heap.size + 1, 1, none⟩ = some (.slice none 0 0) := by rw [hc2 _ _ p1]; simp [go_sem, hc1]
 have f1 : ∀ o, w2.frozen? ⟨w.heap.size + 1 + 1, o, none⟩ = false := fun o => by rw [hf2 _ _ p2]; simp [go_sem, hf1]
 have f2 : ∀ o, w2.frozen? ⟨w.heap.size + 1, o, none⟩ = false := fun o => by rw [hf2 _ _ p1]; simp [go_sem, hf1]
 clear hb2 hb4 ho4 ho2 hzz hc1 hf1 hc2 hf2
 go_wp2
 refine bodyPost_ret (v := .agg #[.slice b1 ss.length c1, .slice b2 fs.length c2]) (by simp [results, Tryz.results24, go_sem, y2, y3]) rfl ⟨b1, b2, c1, c2, w1.heap.size, rfl, ?_, ?_, by omega, HL.out, ?_⟩
 ·refine ZAI ?_ (Nat.le_trans (show w.heap.size ≤ w.heap.size + 1 + 1 + 1 by omega) nL)
  exact ownsRow_setCell_below (ownsRow_setCell_below (ownsRow_setCell_below HO1b.out (by show w.heap.size + 1 + 1 < _; omega) _) (by show w.heap.size + 1 < _; omega) _) (by show w.heap.size + 1 < _; omega) _
 ·exact ownsRow_setCell_below (ownsRow_setCell_below (ownsRow_setCell_below HO2.out (by show w.heap.size + 1 + 1 < _; omega) _) (by show w.heap.size + 1 < _; omega) _) (by show w.heap.size + 1 < _; omega) _
 ·exact ((HB2.out.setCell (by show w.heap.size ≤ w.heap.size + 1 + 1; omega) _).setCell (by show w.heap.size ≤ w.heap.size + 1; omega) _).setCell (by show w.heap.size ≤ w.heap.size + 1; omega) _
theorem ZHJ (a1 a2 a3 a4 : Option Addr) (k1 k2 k3 k4 : Nat) (ss : List ByteArray) (fs : List Pr) (w : World) (h1 : StrSl w (.slice a1 ss.length k1) ss) (h2 : PrSl w (.slice a2 fs.length k2) fs) (h3 : StrSl w (.slice a3 ss.length k3) ss) (h4 : PrSl w (.slice a4 fs.length k4) fs) (n1 : ss.length ≤ maxLen) (n2 : fs.length ≤ maxLen) :
  Calls Tryz.prog 29 #[.agg #[.slice a1 ss.length k1, .slice a2 fs.length k2], .agg #[.slice a3 ss.length k3, .slice a4 fs.length k4]] w fun e w' => e = .returned (.bool true) ∧ Below w.heap.size w w' := by
 have H1 := hid h1
 have H2 := hid h2
 have H3 := hid h3
 have H4 := hid h4
 have N1 := hid n1
 have N2 := hid n2
 clear h1 h2 h3 h4 n1 n2
 go_enter Tryz.func29, Tryz.ntmps29
 go_wp2_with fail
 have hb3 := below2 w (.cells #[.slice a1 ss.length k1, .slice a2 fs.length k2] 33) (.cells #[.slice a3 ss.length k3, .slice a4 fs.length k4] 33)
 refine (ZEF _ _ ss _ (H1.out.stay hb3 nL) (H3.out.stay hb3 nL) N1.out).mono ?_
 rintro e w1 ⟨rfl, hb1⟩
 have HB := hid (hb3.trans (hb1.mono (by simp; omega)))
 obtain ⟨hc1, hf1⟩ := bcell hb1
 have hz1 := hb1.size
 simp at hc1 hf1 hz1
 clear hb1 hb3
 go_wp2_with fail
 refine (ZFn _ _ fs _ (H2.out.stay HB.out nL) (H4.out.stay HB.out nL) N2.out).mono ?_
 rintro e w2 ⟨rfl, hb2⟩
 have hbB := HB.out.trans (hb2.mono HB.out.size)
 clear hb2 hc1 hf1
 go_wp2
 go_ret
 exact ⟨rfl, hbB⟩
end Go.Proofs.YtookchpdbilbcaaGreatDoor
/-
 What laws.toDef makes, in one word. A contract over the seat's program.
-/
namespace Go.Proofs.YtookchpdbilbcaaGreatDoor
open Go.RowKit Go.Sort
structure DefOwn (w : World) (lo : Nat) (u1 u2 : Value) (ss : List ByteArray) (fs : List Pr) : Prop where
 o1 : w.ownsRow lo 9 1 u1 ss.length (ss.map Value.string)
 o2 : w.ownsRow lo 107 2 u2 fs.length (fs.flatMap Pr.cells)
theorem DefOwn.stay {w w' : World} {lo : Nat} {u1 u2 : Value} {ss : List ByteArray} {fs : List Pr} (h : DefOwn w lo u1 u2 ss fs) (hb : Below w.heap.size w w') : DefOwn w' lo u1 u2 ss fs := ⟨ZAE h.o1 hb, ZAE h.o2 hb⟩
theorem ZCB {w : World} {lo size n k : Nat} {e : TypeId} {a : Option Addr} {xs : List Value} (h : w.ownsRow lo e size (.slice a n k) n xs) : ∀ g o, a = some ⟨g, o, none⟩ → g < w.heap.size := fun g o ha => (h.lt g (by rw [ha]; rfl)).2
theorem DefOwn.sl {w : World} {lo k1 k2 : Nat} {a1 a2 : Option Addr} {ss : List ByteArray} {fs : List Pr} (h : DefOwn w lo (.slice a1 ss.length k1) (.slice a2 fs.length k2) ss fs) : DefSl w a1 a2 k1 k2 ss fs := ⟨ZAz h.o1, ZAh h.o2, ZCB h.o1, ZCB h.o2⟩
theorem ZIQ (a1 a2 : Option Addr) (k1 k2 : Nat) (ss : List ByteArray) (fs : List Pr) (w : World) (h : DefSl w a1 a2 k1 k2 ss fs) (n1 : ss.length ≤ 1048576) (n2 : fs.length ≤ 1048576) :
  Calls Tryz.prog 24 #[.agg #[.slice a1 ss.length k1, .slice a2 fs.length k2]] w fun x w' => ∃ b1 b2 c1 c2, x = .returned (.agg #[.slice b1 ss.length c1, .slice b2 fs.length c2]) ∧ DefOwn w' w.heap.size (.slice b1 ss.length c1) (.slice b2 fs.length c2) ss fs ∧ Below w.heap.size w w' := by
 refine (ZHe a1 a2 k1 k2 ss fs w h.h1 h.h2 n1 n2).mono ?_
 rintro x w' ⟨b1, b2, c1, c2, m, hx, o1, o2, hm, _, hb⟩
 exact ⟨b1, b2, c1, c2, hx, ⟨o1, ZAI o2 hm⟩, hb⟩
end Go.Proofs.YtookchpdbilbcaaGreatDoor
/-
 A Service's rows. Of no function.
-/
namespace Go.Proofs.YtookchpdbilbcaaGreatDoor
open Go.RowKit Go.Sort
abbrev svV (a1 a2 a6 : Option Addr) (k1 k2 k6 : Nat) (ss : List ByteArray) (fs : List Pr) (es : List Ev) (nx : Int) : Value := .agg #[.slice a1 ss.length k1, .slice a2 fs.length k2, .slice a6 es.length k6, .int .i64 nx]
structure SvOwn (w : World) (lo : Nat) (u1 u2 u6 : Value) (ss : List ByteArray) (fs : List Pr) (es : List Ev) : Prop where
 d : DefOwn w lo u1 u2 ss fs
 o6 : w.ownsRow lo 57 6 u6 es.length (es.flatMap Ev.cells)
theorem SvOwn.stay {w w' : World} {lo : Nat} {u1 u2 u6 : Value} {ss : List ByteArray} {fs : List Pr} {es : List Ev} (h : SvOwn w lo u1 u2 u6 ss fs es) (hb : Below w.heap.size w w') : SvOwn w' lo u1 u2 u6 ss fs es := ⟨h.d.stay hb, ZAE h.o6 hb⟩
theorem SvOwn.chg {p : Nat → Prop} {w w' : World} {lo : Nat} {u1 u2 u6 : Value} {ss : List ByteArray} {fs : List Pr} {es : List Ev} (h : SvOwn w lo u1 u2 u6 ss fs es) (hc : Chg p w w') (h1 : ∀ g, u1.ownBlock = some g → ¬ p g) (h2 : ∀ g, u2.ownBlock = some g → ¬ p g) (h6 : ∀ g, u6.ownBlock = some g → ¬ p g) : SvOwn w' lo u1 u2 u6 ss fs es := ⟨⟨ZAJ h.d.o1 hc h1, ZAJ h.d.o2 hc h2⟩, ZAJ h.o6 hc h6⟩
end Go.Proofs.YtookchpdbilbcaaGreatDoor
/-
 A history that is gone on with: its events in a row of its own, and in a map by its run how each run stands. Of no function.
-/
namespace Go.Proofs.YtookchpdbilbcaaGreatDoor
open Go.RowKit Go.Sort Go.Maps
/-- How an entry reads: as the very value. -/
def heldE (v : Value) : Option (DataW Value × List MemPlace) := some (.held v, [])
/-- A State, its rows anywhere. -/
def stU (S : St) (u3 u4 u5 : Value) : Value := .agg #[.int .i64 S.status, .int .i64 S.begun, .int .i64 S.last, u3, u4, u5, .int .i64 S.faults]
def zSt : Value := .agg #[.int .i64 0, .int .i64 0, .int .i64 0, .slice none 0 0, .slice none 0 0, .slice none 0 0, .int .i64 0]
/-- How a run stands. -/
def runS (ss : List ByteArray) (fs : List Pr) (E : List Ev) (r : Int) : St := (ofS ss fs (ofRun E r) z0).2
/-- Blocks of texts and of Vars stay. -/
structure KT (w w' : World) : Prop where
 size : w.heap.size ≤ w'.heap.size
 at_ : ∀ (g : Nat) (c : Array Value) (t : TypeId) (f : Nat × Nat), w.heap[g]? = some (Obj.cells c t f) → (t = 9 ∨ t = 143) → w'.heap[g]? = some (Obj.cells c t f)
theorem KT.refl (w : World) : KT w w := ⟨Nat.le_refl _, fun _ _ _ _ h _ => h⟩
theorem KT.trans {w w1 w2 : World} (h : KT w w1) (k : KT w1 w2) : KT w w2 := ⟨Nat.le_trans h.size k.size, fun g c t f e ht => k.at_ g c t f (h.at_ g c t f e ht) ht⟩
theorem KT.of_below {w w' : World} (h : Below w.heap.size w w') : KT w w' := ⟨h.size, fun g _ _ _ e _ => (h.block g (ZAA e)).trans e⟩
theorem KT.of_chg {p : Nat → Prop} {w w' : World} (h : Chg p w w') (hp : ∀ (g : Nat) (c : Array Value) (t : TypeId) (f : Nat × Nat), p g → w.heap[g]? = some (Obj.cells c t f) → ¬ (t = 9 ∨ t = 143)) : KT w w' := ⟨h.size, fun g c t f e ht => (h.block g (ZAA e) (fun hg => hp g c t f hg e ht)).trans e⟩
theorem ZIc {w w' : World} {base size n : Nat} {e : TypeId} {v : Value} {xs : List Value} (h : w.ownsRow base e size v n xs) (hk : KT w w') (he : e = 9 ∨ e = 143) : w'.ownsRow base e size v n xs := by
 refine ⟨h.1, ?_⟩
 rcases h.2 with h0 | ⟨g, cap, cur, hv, hb, hh, r⟩
 ·exact .inl h0
 ·exact .inr ⟨g, cap, cur, hv, hb, hk.at_ _ _ _ _ hh he, r⟩
theorem StOwn.kt {w w' : World} {lo : Nat} {v3 v4 v5 : Value} {S : St} (h : StOwn w lo v3 v4 v5 S) (hk : KT w w') : StOwn w' lo v3 v4 v5 S := ⟨ZIc h.o3 hk (.inl rfl), ZIc h.o4 hk (.inl rfl), ZIc h.o5 hk (.inr rfl), h.a34⟩
/-- What a datum says of the runs of a history. -/
structure StOf (w : World) (ss : List ByteArray) (fs : List Pr) (E : List Ev) (D : DataW Value) : Prop where
 m : IsMap D
 at_ : ∀ r, ∃ u3 u4 u5, D.atKey (.int .i64 r) (.held zSt) = .held (stU (runS ss fs E r) u3 u4 u5) ∧ StOwn w 0 u3 u4 u5 (runS ss fs E r)
 has : ∀ r, Maps.has D (.int .i64 r) = !(ofRun E r).isEmpty
theorem StOf.nil (w : World) (ss : List ByteArray) (fs : List Pr) : StOf w ss fs [] (.map []) := ⟨isMap_empty, fun r => ⟨.slice none 0 0, .slice none 0 0, .slice none 0 0, by simp [DataW.atKey]; rfl, StOwn.none _ _⟩, fun r => by simp [Maps.has, ofRun]⟩
theorem StOf.kt {w w' : World} {ss : List ByteArray} {fs : List Pr} {E : List Ev} {D : DataW Value} (h : StOf w ss fs E D) (hk : KT w w') : StOf w' ss fs E D := ⟨h.m, fun r => let ⟨u3, u4, u5, e, ho⟩ := h.at_ r; ⟨u3, u4, u5, e, ho.kt hk⟩, h.has⟩
theorem ZIU {ss : List ByteArray} {fs : List Pr} {E : List Ev} (hR : RunsP ss fs E) (x : Ev) (r : Int) : runS ss fs (E ++ [x]) r = if x.run = r then (evS ss fs (runS ss fs E r) x).2 else runS ss fs E r := by
 unfold runS
 rw [ZB4]
 by_cases h : x.run = r
 ·rw [if_pos h, if_pos h, ZGA x (hR r)]
 ·rw [if_neg h, if_neg h]
theorem StOf.put {w : World} {ss : List ByteArray} {fs : List Pr} {E : List Ev} {D : DataW Value} (h : StOf w ss fs E D) (hR : RunsP ss fs E) (x : Ev) {u3 u4 u5 : Value} (ho : StOwn w 0 u3 u4 u5 (evS ss fs (runS ss fs E x.run) x).2) :
  StOf w ss fs (E ++ [x]) (D.put (.int .i64 x.run) (.held (stU (evS ss fs (runS ss fs E x.run) x).2 u3 u4 u5))) := by
 refine ⟨h.m.put _ _, fun r => ?_, fun r => ?_⟩
 ·rw [ZIU hR]
  by_cases e : x.run = r
  ·subst e
   rw [if_pos rfl, atKey_put_same h.m (show WideAt.IsKeyLit (.int .i64 x.run) from trivial)]
   exact ⟨u3, u4, u5, rfl, ho⟩
  ·rw [if_neg e, atKey_put_other (fun h' => e (by injection h' with _ h'; exact h'.symm))]
   exact h.at_ r
 ·rw [ZB4]
  by_cases e : x.run = r
  ·subst e
   rw [if_pos rfl, has_put_same h.m (show WideAt.IsKeyLit (.int .i64 x.run) from trivial)]
   simp
  ·rw [if_neg e, has_put_other (fun h' => e (by injection h' with _ h'; exact h'.symm))]
   exact h.has r
/-- Block bm is a map that says how the runs stand. -/
def StMap (w : World) (bm n : Nat) (ss : List ByteArray) (fs : List Pr) (E : List Ev) : Prop := ∃ D, w.ownsMap Tryz.prog 2 heldE bm n D ∧ StOf w ss fs E D
theorem StMap.lt {w : World} {b n : Nat} {ss : List ByteArray} {fs : List Pr} {E : List Ev} (h : StMap w b n ss fs E) : b < w.heap.size := let ⟨_, h, _⟩ := h; h.lt
theorem StMap.obj {w : World} {b n : Nat} {ss : List ByteArray} {fs : List Pr} {E : List Ev} (h : StMap w b n ss fs E) : ∃ es c, w.heap[b]? = some (.map es c) := let ⟨_, ⟨es, c, h, _⟩, _⟩ := h; ⟨es, c, h⟩
theorem StMap.chg {p : Nat → Prop} {w w' : World} {b n : Nat} {ss : List ByteArray} {fs : List Pr} {E : List Ev} (h : StMap w b n ss fs E) (hc : Chg p w w') (hp : ¬ p b) (hk : KT w w') : StMap w' b n ss fs E := by
 have hlt := h.lt
 obtain ⟨D, ⟨es, c, hb, F, hs, hD⟩, hO⟩ := h
 exact ⟨D, ⟨es, c, (hc.block b hlt hp).trans hb, F, hs, hD⟩, hO.kt hk⟩
theorem StMap.stay {w w' : World} {b n : Nat} {ss : List ByteArray} {fs : List Pr} {E : List Ev} (h : StMap w b n ss fs E) (hb : Below w.heap.size w w') : StMap w' b n ss fs E := h.chg (p := fun _ => False) (Chg.of_below hb) (fun h => h) (KT.of_below hb)
/-- A history in block B (its first four cells), the rest as it may be. -/
structure His (w : World) (lo B T bm n : Nat) (a1 a2 : Option Addr) (k1 k2 : Nat) (u : Value) (rest : List Value) (ss : List ByteArray) (fs : List Pr) (E : List Ev) : Prop where
 blk : w.heap[B]? = some (.cells (.slice a1 ss.length k1 :: .slice a2 fs.length k2 :: u :: .map (some bm) :: rest).toArray T (0, 0))
 own : w.ownsRow lo 57 6 u E.length (E.flatMap Ev.cells)
 map : StMap w bm n ss fs E
 lB : lo ≤ B
 lm : lo ≤ bm
 ty : T ≠ 9 ∧ T ≠ 143 ∧ T ≠ 57
theorem His.bm_ne {w : World} {lo B T bm n : Nat} {a1 a2 : Option Addr} {k1 k2 : Nat} {u : Value} {rest : List Value} {ss : List ByteArray} {fs : List Pr} {E : List Ev} (h : His w lo B T bm n a1 a2 k1 k2 u rest ss fs E) : B ≠ bm := fun e => by
 obtain ⟨es, c, hb⟩ := h.map.obj
 have := h.blk
 rw [e, hb] at this
 cases this
theorem His.u_ne {w : World} {lo B T bm n : Nat} {a1 a2 : Option Addr} {k1 k2 : Nat} {u : Value} {rest : List Value} {ss : List ByteArray} {fs : List Pr} {E : List Ev} (h : His w lo B T bm n a1 a2 k1 k2 u rest ss fs E) : ∀ g, u.ownBlock = some g → g ≠ B ∧ g ≠ bm := fun g hg => ⟨ZAL h.own h.blk h.ty.2.2.symm g hg, fun e => by
 obtain ⟨es, c, hb⟩ := h.map.obj
 rcases h.own.2 with ⟨hv, _⟩ | ⟨g', cap, cur, hv, _, hh, _⟩
 ·rw [hv] at hg; cases hg
 ·rw [hv] at hg
  injection hg with hg
  subst hg
  have e' : g' = bm := e
  rw [e', hb] at hh
  cases hh⟩
theorem His.stay {w w' : World} {lo B T bm n : Nat} {a1 a2 : Option Addr} {k1 k2 : Nat} {u : Value} {rest : List Value} {ss : List ByteArray} {fs : List Pr} {E : List Ev} (h : His w lo B T bm n a1 a2 k1 k2 u rest ss fs E) (hb : Below w.heap.size w w') : His w' lo B T bm n a1 a2 k1 k2 u rest ss fs E :=
 ⟨(hb.block B (ZAA h.blk)).trans h.blk, ZAE h.own hb, h.map.stay hb, h.lB, h.lm, h.ty⟩
/-- Which blocks a history has. -/
def HisP (B bm : Nat) (u : Value) (j : Nat) : Prop := j = B ∨ j = bm ∨ u.ownBlock = some j
theorem His.low {w : World} {lo B T bm n : Nat} {a1 a2 : Option Addr} {k1 k2 : Nat} {u : Value} {rest : List Value} {ss : List ByteArray} {fs : List Pr} {E : List Ev} (h : His w lo B T bm n a1 a2 k1 k2 u rest ss fs E) : ∀ j, HisP B bm u j → lo ≤ j ∧ j < w.heap.size := fun j hj => by
 rcases hj with rfl | rfl | hj
 ·exact ⟨h.lB, ZAA h.blk⟩
 ·exact ⟨h.lm, h.map.lt⟩
 ·exact h.own.lt j hj
theorem ZGg {ss : List ByteArray} {fs : List Pr} {E : List Ev} (D : DefP ss fs) (hR : RunsP ss fs E) (r : Int) : StP ss (runS ss fs E r) := by
 have key : ∀ (l : List Ev) (S : St), StP ss S → (ofS ss fs l S).1 = 0 → StP ss (ofS ss fs l S).2 := by
  intro l
  induction l with
  | nil => intro S hS _; exact hS
  | cons x l ih =>
   intro S hS h
   rw [show x :: l = [x] ++ l from rfl, ZAy, ZFV] at h ⊢
   by_cases hc : (evS ss fs S x).1 = 0
   ·rw [if_pos hc] at h ⊢
    exact ih _ (ZCp D hS hc) h
   ·rw [if_neg hc] at h; exact absurd h hc
 exact key _ _ (ZEG ss) (hR r)
end Go.Proofs.YtookchpdbilbcaaGreatDoor
/-
 append of any slice that came in onto a row of one's own, as an operation by itself. Of no function.
-/
namespace Go.Proofs.YtookchpdbilbcaaGreatDoor
open Go.RowKit Go.Sort
theorem Tryz.infoEvt : (Tryz.prog.info? 57).map (fun i => (i.zero, i.size, i.bytes)) = some (some (.agg #[.int .i64 0, .int .i64 0, .int .i64 0, .int .i64 0, .string ⟨#[]⟩, .string ⟨#[]⟩]), 6, 64) := by kernel_rfl
theorem ZCs (w : World) (z : Nat) (T : TypeId) {B : Nat} (hB : B ≤ w.heap.size) : (w.alloc (.cells #[] T)).ownsRow B T z (.slice (some ⟨w.heap.size, 0, none⟩) 0 0) 0 [] :=
 ⟨by simp, .inr ⟨w.heap.size, 0, #[], rfl, hB, by show (w.heap.push (Obj.cells #[] T))[w.heap.size]? = some _; simp, Nat.le_refl _, Nat.zero_le _, by simp, by simp⟩⟩
theorem evs_one (l : List Ev) : ∀ u ∈ l.flatMap Ev.cells, u.oneCell' = true := by
 intro u hu
 obtain ⟨e, _, h⟩ := List.mem_flatMap.1 hu
 simp [Ev.cells] at h
 rcases h with rfl | rfl | rfl | rfl | rfl | rfl <;> rfl
theorem EvsAt.cell {w : World} {g o : Nat} {es : List Ev} (h : EvsAt w g o es) (j : Nat) (u : Value) (hj : (es.flatMap Ev.cells)[j]? = some u) : w.cell? ⟨g, o + j, none⟩ = some u := by
 have hlt : j < es.length * 6 := by have := (List.getElem?_eq_some_iff.1 hj).1; rw [ZAg] at this; exact this
 have hi : j / 6 < es.length := by omega
 have hm : j % 6 < 6 := Nat.mod_lt _ (by decide)
 have hjj : j = j / 6 * 6 + j % 6 := by omega
 have h6 := ZFS es (j / 6) (j % 6) hi hm
 rw [← hjj, hj] at h6
 have ha := h.2 (j / 6) hi
 have hoj : o + j = o + j / 6 * 6 + j % 6 := by omega
 rw [hoj]
 have : j % 6 = 0 ∨ j % 6 = 1 ∨ j % 6 = 2 ∨ j % 6 = 3 ∨ j % 6 = 4 ∨ j % 6 = 5 := by omega
 rcases this with e | e | e | e | e | e <;> rw [e] at h6 ⊢ <;> simp [Ev.cells] at h6 <;> subst h6
 ·exact ha.c0
 ·exact ha.c1
 ·exact ha.c2
 ·exact ha.c3
 ·exact ha.c4
 ·exact ha.c5
theorem EvSl.cellsSl {w : World} {v : Value} {es : List Ev} (h : EvSl w v es) : CellsSl w v 6 es.length (es.flatMap Ev.cells) := by
 refine ⟨ZAg es, evs_one _, ?_⟩
 rcases h with ⟨a, c, rfl, rfl⟩ | ⟨g, o, c, rfl, _, h⟩
 ·cases a with
  | none => exact .inl ⟨c, rfl, rfl⟩
  | some a => exact .inr ⟨a, c, rfl, fun j u hj => by simp at hj⟩
 ·refine .inr ⟨⟨g, o, none⟩, c, rfl, fun j u hj => ?_⟩
  rw [Addr.add_lit]
  exact h.cell j u hj
theorem ZAa {P : Program} {w : World} {o : Oper} {a : Act} {K : Act → World → Prop} {Q : Exit → Act → World → Prop} (s x : Operand) (t : TypeId)
  (ho : o.op = .call { callee := .builtin .append, args := #[s, x], argTypes := #[t, t] })
  (base : Nat) (e : TypeId) (i : TypeInfo) (z : Value) (size bytes : Nat) (ht : P.underlying t = some (.slice e)) (hi : P.info? e = some i) (hz : i.zero = some z)
  (hsize : i.size = size) (hby : i.bytes = bytes) (hzs : z.cells.size = size) (hsz : 0 < size)
  (v : Value) (n : Nat) (xs : List Value) (hs : a.eval s = v) (hown : w.ownsRow base e size v n xs)
  (m : Nat) (news : List Value) (X : Value) (hx : a.eval x = X) (hX : CellsSl w X size m news)
  (h63 : n + m ≤ maxLen) (hbytes : (n + m) * bytes ≤ 140737488355328) (hbase : base ≤ w.heap.size)
  (h : ∀ v' w', w'.ownsRow base e size v' (n + m) (xs ++ news) → w.grownBy w' v.ownBlock → K (a.put o.dst v') w') : o.wp P a w K Q := by
 obtain ⟨h1, h2, ⟨c, rfl, rfl⟩ | ⟨ad, c, rfl, h3⟩⟩ := hX
 ·have hn : news = [] := List.eq_nil_of_length_eq_zero (by simpa using h1)
  subst hn
  have hrun := ZA4 (P := P) (w := w) base t o.type e i size c ht hi v n xs hown
  unfold Oper.wp
  simp [execOp, ho, resolve, invoke, builtin, hs, hx, hrun, Result.andThen]
  exact h v w (by simpa using hown) ⟨rfl, rfl, rfl, Nat.le_refl _, fun _ _ _ => rfl⟩
 ·exact wp_append_own w s x t ho base e i z size bytes ht hi hz hsize hby hzs hsz v n xs hs hown ad m c news hx h1 h3 h2 h63 hbytes hbase fun v' w' g1 g2 _ => h v' w' g1 g2
end Go.Proofs.YtookchpdbilbcaaGreatDoor
