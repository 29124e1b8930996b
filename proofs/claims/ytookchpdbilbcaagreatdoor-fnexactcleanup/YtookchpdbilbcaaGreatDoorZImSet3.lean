/-
 Texts put together: ImSet, ClnV, ImStd.
-/
import Derived.Test.YtookchpdbilbcaaGreatDoorZInsO3
import Derived.Test.YtookchpdbilbcaaGreatDoorZImEnt2
import Derived.Deep.RegionWith
import Derived.Test.YtookchpdbilbcaaGreatDoorZSpOut4
import Derived.Lib.SliceRun
import Derived.Test.YtookchpdbilbcaaGreatDoorZDfV7
import Derived.Test.YtookchpdbilbcaaGreatDoorZSpSet23
set_option maxRecDepth 100000
set_option maxHeartbeats 4000000
/-
 What the method set of impl.stand does: contracts over the seat's program. (Made by mkset2.py.)
-/
namespace Go.Proofs.YtookchpdbilbcaaGreatDoor
open Go.RowKit Go.Maps Go.WideMaps Go.Sort
theorem Chg.of_own {p : Nat → Prop} {w w' : World} {r : Option Nat} (h : w.grownBy w' r) (hp : ∀ j, r = some j → p j) : Chg p w w' := ⟨h.os, h.tape, h.output, h.size, fun k hk hq => h.block k hk (fun e => hq (hp k e.symm))⟩
theorem ZEE {l : List Pr} {t : ByteArray} (h : fndV l t = true) : ∃ hk : kV l t < l.length, l[kV l t].fst = t := by
 by_cases hk : kV l t < l.length
 ·rw [ZFo hk] at h
  exact ⟨hk, by simpa using h⟩
 ·rw [ZGK hk] at h; cases h
theorem ZCt {l : List Pr} {t : ByteArray} (h : fndV l t = false) : (hk : kV l t < l.length) → l[kV l t].fst ≠ t := by
 intro hk e
 rw [ZFo hk] at h
 simp [e] at h
theorem setV_at {l : List Pr} {s v : ByteArray} {K : Nat} (hf : fndV l s = false) (hK : kV l s = K) : setV l ⟨s, v⟩ = l.take K ++ [⟨s, v⟩] ++ l.drop K := by
 have h := ZGB (l := l) (v := ⟨s, v⟩) (ZCt hf)
 rwa [show kV l (Pr.mk s v).fst = K from hK] at h
theorem ZIs {l : List Pr} {v : Pr} (h : fndV l v.fst = true) : setV l v = l.set (kV l v.fst) v := by
 obtain ⟨hk, he⟩ := ZEE h
 rw [ZGO hk he, List.set_eq_take_append_cons_drop, if_pos hk]
 simp
theorem ZId (l : List Pr) (k : Nat) (p : Pr) (hk : k < l.length) : ((l.flatMap Pr.cells).set (k * 2) (.string p.fst)).set (k * 2 + 1) (.string p.snd) = (l.set k p).flatMap Pr.cells := by
 apply List.ext_getElem?
 intro i
 have hl : (l.flatMap Pr.cells).length = l.length * 2 := ZAQ l
 by_cases hi : i < l.length * 2
 ·have hq : i / 2 < l.length := by omega
  have hq' : i / 2 < (l.set k p).length := by simpa using hq
  have e1 := ZBr l (i / 2) (i % 2) hq (by omega)
  have e2 := ZBr (l.set k p) (i / 2) (i % 2) hq' (by omega)
  rw [show i / 2 * 2 + i % 2 = i by omega] at e1 e2
  rw [e2, List.getElem?_set, List.getElem?_set, List.length_set, hl]
  rw [List.getElem_set]
  by_cases ek : k = i / 2
  ·subst ek
   simp only [if_true]
   rcases Nat.mod_two_eq_zero_or_one i with h0 | h0
   ·have h1 : ¬ (i / 2 * 2 + 1 = i) := by omega
    have h2 : i / 2 * 2 = i := by omega
    rw [if_neg h1, if_pos h2, if_pos (by omega), h0]; rfl
   ·have h1 : i / 2 * 2 + 1 = i := by omega
    rw [if_pos h1, if_pos (by omega), h0]; rfl
  ·have h1 : ¬ (k * 2 + 1 = i) := by omega
   have h2 : ¬ (k * 2 = i) := by omega
   rw [if_neg h1, if_neg h2, e1, if_neg ek]
 ·rw [List.getElem?_eq_none (by simp [hl]; omega), List.getElem?_eq_none (by rw [ZAQ]; simp; omega)]
/-- One pair of a row of one's own set. -/
theorem ZEB {w : World} {base g c k : Nat} {l : List Pr} {p : Pr} (h : w.ownsRow base 143 2 (.slice (some ⟨g, 0, none⟩) l.length c) l.length (l.flatMap Pr.cells)) (hk : k < l.length) : ((w.setCell ⟨g, k * 2, none⟩ (.string p.fst)).setCell ⟨g, k * 2 + 1, none⟩ (.string p.snd)).ownsRow base 143 2 (.slice (some ⟨g, 0, none⟩) l.length c) l.length ((l.set k p).flatMap Pr.cells) := by
 rcases h.2 with ⟨h0, _⟩ | ⟨g', cap, cur, hv, hb, hh, hle, hcm, hcs, hct⟩
 ·cases h0
 ·injection hv with e1 _ e3
  injection e1 with e1
  injection e1 with e1 _
  subst e1; subst e3
  have hh' : w.heap[g]? = some (.cells cur.toList.toArray 143 (0, 0)) := by simpa using hh
  have h2 := ZAG (i := k * 2 + 1) (ZAG (i := k * 2) hh' (.string p.fst)) (.string p.snd)
  refine ⟨by rw [ZAQ]; simp, .inr ⟨g, c, _, rfl, hb, h2, hle, hcm, by simpa using hcs, ?_⟩⟩
  rw [List.toList_toArray, ← ZId l k p hk, ← hct, List.take_set, List.take_set]
theorem set_old (B bw bb base : Nat) (sv fv : Value) (a5 : Option Addr) (c5 : Nat) (l : List Pr) (st bg la fa : Int) (q t r k : Int) (s v : ByteArray) (w : World) (hS : StB w B sv fv st bg la bw bb (.slice a5 l.length c5) fa) (hO : w.ownsRow base 143 2 (.slice a5 l.length c5) l.length (l.flatMap Pr.cells)) (hr : Rise l) (hl : l.length ≤ 1000) (hf : fndV l s = true) :
  Calls Tryz.prog 127 #[.pointer (some ⟨B, 0, none⟩), .agg #[.int .i64 q, .int .i64 t, .int .i64 r, .int .i64 k, .string s, .string v]] w fun e w' => e = .returned .nilIface ∧ StB w' B sv fv st bg la bw bb (.slice a5 l.length c5) fa ∧ w'.ownsRow base 143 2 (.slice a5 l.length c5) l.length ((setV l ⟨s, v⟩).flatMap Pr.cells) ∧ Chg (fun j => (Value.slice a5 l.length c5).ownBlock = some j) w w' := by
 obtain ⟨hk, he⟩ := ZEE hf
 have mixed : Tryz.prog.follows .mixedOrders = true := by kernel_rfl
 have hbW : Below w.heap.size w ((w.alloc (.cells #[.int .i64 q, .int .i64 t, .int .i64 r, .int .i64 k, .string s, .string v] 57)).alloc (.cells #[.string s, .string v] 143)) := ((bR _ _).alloc nL _).alloc (by simp) _
 have HS := hid (hS.stay hbW)
 have HO := hid (ZAE hO hbW)
 have HD := hid (ZAL hO hS (by decide))
 have x7 := HS.out.cell 7
 change _ = some (Value.slice a5 l.length c5) at x7
 have d0 : ((w.alloc (.cells #[.int .i64 q, .int .i64 t, .int .i64 r, .int .i64 k, .string s, .string v] 57)).alloc (.cells #[.string s, .string v] 143)).cell? ⟨w.heap.size + 1, 0, none⟩ = some (.string s) := by simp [go_sem]
 have d1 : ((w.alloc (.cells #[.int .i64 q, .int .i64 t, .int .i64 r, .int .i64 k, .string s, .string v] 57)).alloc (.cells #[.string s, .string v] 143)).cell? ⟨w.heap.size + 1, 1, none⟩ = some (.string v) := by simp [go_sem]
 have HV := hid (show ((w.alloc (.cells #[.int .i64 q, .int .i64 t, .int .i64 r, .int .i64 k, .string s, .string v] 57)).alloc (.cells #[.string s, .string v] 143)).heap[w.heap.size + 1]? = some (.cells #[.string s, .string v] 143 (0, 0)) from by have h := Array.getElem?_push_size (xs := (w.alloc (.cells #[.int .i64 q, .int .i64 t, .int .i64 r, .int .i64 k, .string s, .string v] 57)).heap) (x := Obj.cells #[.string s, .string v] 143 (0, 0)); rw [show (w.alloc (.cells #[.int .i64 q, .int .i64 t, .int .i64 r, .int .i64 k, .string s, .string v] 57)).heap.size = w.heap.size + 1 by simp] at h; exact h)
 have HBW := hid hbW
 have hkl := ZID l s
 have HF := hid hf
 have hBl := hS.lt
 have hsz : ((w.alloc (.cells #[.int .i64 q, .int .i64 t, .int .i64 r, .int .i64 k, .string s, .string v] 57)).alloc (.cells #[.string s, .string v] 143)).heap.size = w.heap.size + 2 := by simp
 have HL := hid (fun g hg => (hO.lt g hg).2)
 clear hS hO hbW
 go_enter Tryz.func127, Tryz.ntmps127
 go_wp2
 generalize ((w.alloc (.cells #[.int .i64 q, .int .i64 t, .int .i64 r, .int .i64 k, .string s, .string v] 57)).alloc (.cells #[.string s, .string v] 143)) = W at *
 have hbd : Below W.heap.size W W.drew := (bR _ _).drew
 have cB := hid (ZDG a5 c5 l ⟨s, v⟩ W.drew (ZAh (ZAE HO.out hbd)) hr (by omega))
 have hBW : B < W.heap.size := by omega
 have hEW : w.heap.size + 1 < W.heap.size := by omega
 have HK := hid (rfl : kV l s = kV l s)
 change Hid (Calls _ _ _ _ fun e w' => e = .returned (.tuple #[.int .i64 (kV l s : Nat), .bool (fndV l s)]) ∧ _) at cB
 rw [show fndV l s = true from HF.out] at cB
 generalize hKK : kV l s = K at *
 have HKK := hid hKK
 clear hKK HK hf
 go_region_held3 (fun w' => w'.cell? ⟨B, 7, none⟩ = some (.slice a5 l.length c5) ∧ w'.cell? ⟨w.heap.size + 1, 0, none⟩ = some (.string s) ∧ w'.cell? ⟨w.heap.size + 1, 1, none⟩ = some (.string v)) (go_keep) (first | (go_at_call 151; refine cB.out.mono ?_; rintro e W1 ⟨rfl, hb1⟩; have z7 := (hb1.cell (p := ⟨B, 7, none⟩) hBW).trans x7; have z0 := (hb1.cell (p := ⟨w.heap.size + 1, 0, none⟩) hEW).trans d0; have z1 := (hb1.cell (p := ⟨w.heap.size + 1, 1, none⟩) hEW).trans d1))
 have HB1 := hid (hbd.trans (hb1.mono hbd.size))
 have HS1 := hid (HS.out.stay HB1.out)
 have HO1 := hid (ZAE HO.out HB1.out)
 have HV1 := hid ((HB1.out.block (w.heap.size + 1) hEW).trans HV.out)
 have HBx := hid (HBW.out.trans (HB1.out.mono HBW.out.size))
 have hz1 := HB1.out.size
 clear hb1 x7 d0 d1 cB HS HO HV
 have hk' : K < l.length := hk
 rcases HO1.out.2 with ⟨_, h0⟩ | ⟨g, cap, cur, hv5, hbg, hh, _⟩
 ·omega
 injection hv5 with e1 _ e3
 subst e1
 subst e3
 have hP := ZAh HO1.out
 obtain ⟨c0, c1⟩ : PrAt W1 g (0 + K * 2) l[K] := by
  rcases hP with ⟨_, _, _, h⟩ | ⟨g', o', c', hv', _, hP⟩
  ·subst h; simp at hk'
  ·injection hv' with q1 _ _
   injection q1 with q1
   injection q1 with q1 q2
   subst q1; subst q2
   exact hP.2 K hk'
 rw [Nat.zero_add] at c0 c1
 have f0 := Lib.frozen_of_heap hh
 have hgB : ¬ g = B := HD.out g rfl
 have hgE : ¬ g = w.heap.size + 1 := by have := HL.out g rfl; omega
 have hgB' : ¬ B = g := fun e => hgB e.symm
 have hgE' : ¬ w.heap.size + 1 = g := fun e => hgE e.symm
 have HH := hid hh
 have hKi : (K : Int) < (l.length : Int) := by omega
 generalize l[K].fst = p1 at *
 generalize l[K].snd = p2 at *
 clear hh hP
 go_wp2
 go_region
 go_wp2
 go_ret
 have hC : Chg (fun j => (Value.slice (some ⟨g, 0, none⟩) l.length c5).ownBlock = some j) W1.drew ((W1.drew.setCell ⟨g, K * 2, none⟩ (.string s)).setCell ⟨g, K * 2 + 1, none⟩ (.string v)) := ((ZAC W1.drew g _ _).trans (ZAC _ g _ _)).mono (fun j h => by rw [h]; rfl)
 have hsv : setV l ⟨s, v⟩ = l.set K ⟨s, v⟩ := by
  have h := ZIs (l := l) (v := ⟨s, v⟩) HF.out
  rwa [show kV l (Pr.mk s v).fst = K from HKK.out] at h
 have hbd1 : Below W1.heap.size W1 W1.drew := (bR _ _).drew
 refine ⟨rfl, (HS1.out.stay hbd1).chg hC (fun h => hgB (by injection h)), ?_, ((Chg.of_below HBx.out).trans (Chg.of_below hbd1)).trans hC⟩
 rw [hsv]
 first | exact ZEB (p := ⟨s, v⟩) HO1.out hk | exact ZEB (p := ⟨s, v⟩) (w := W1.drew) (ZAE HO1.out hbd1) hk | exact ZAE (ZEB (p := ⟨s, v⟩) HO1.out hk) (bR _ _).drew
theorem ZI0 (B bw bb base : Nat) (sv fv : Value) (a5 : Option Addr) (c5 : Nat) (l : List Pr) (st bg la fa : Int) (q t r k : Int) (s v : ByteArray) (w : World) (hS : StB w B sv fv st bg la bw bb (.slice a5 l.length c5) fa) (hO : w.ownsRow base 143 2 (.slice a5 l.length c5) l.length (l.flatMap Pr.cells)) (hr : Rise l) (hl : l.length ≤ 1000) (hf : fndV l s = false) (h20 : l.length = 20) (a4 : Addr) (hg : w.cell? ⟨4, 0, none⟩ = some (errV a4)) (hgl : 4 < w.heap.size) :
  Calls Tryz.prog 127 #[.pointer (some ⟨B, 0, none⟩), .agg #[.int .i64 q, .int .i64 t, .int .i64 r, .int .i64 k, .string s, .string v]] w fun e w' => e = .returned (errV a4) ∧ Below w.heap.size w w' := by
 have HG := hid hg
 have H20 := hid h20
 clear hg h20
 have mixed : Tryz.prog.follows .mixedOrders = true := by kernel_rfl
 have hbW : Below w.heap.size w ((w.alloc (.cells #[.int .i64 q, .int .i64 t, .int .i64 r, .int .i64 k, .string s, .string v] 57)).alloc (.cells #[.string s, .string v] 143)) := ((bR _ _).alloc nL _).alloc (by simp) _
 have HS := hid (hS.stay hbW)
 have HO := hid (ZAE hO hbW)
 have HD := hid (ZAL hO hS (by decide))
 have x7 := HS.out.cell 7
 change _ = some (Value.slice a5 l.length c5) at x7
 have d0 : ((w.alloc (.cells #[.int .i64 q, .int .i64 t, .int .i64 r, .int .i64 k, .string s, .string v] 57)).alloc (.cells #[.string s, .string v] 143)).cell? ⟨w.heap.size + 1, 0, none⟩ = some (.string s) := by simp [go_sem]
 have d1 : ((w.alloc (.cells #[.int .i64 q, .int .i64 t, .int .i64 r, .int .i64 k, .string s, .string v] 57)).alloc (.cells #[.string s, .string v] 143)).cell? ⟨w.heap.size + 1, 1, none⟩ = some (.string v) := by simp [go_sem]
 have HV := hid (show ((w.alloc (.cells #[.int .i64 q, .int .i64 t, .int .i64 r, .int .i64 k, .string s, .string v] 57)).alloc (.cells #[.string s, .string v] 143)).heap[w.heap.size + 1]? = some (.cells #[.string s, .string v] 143 (0, 0)) from by have h := Array.getElem?_push_size (xs := (w.alloc (.cells #[.int .i64 q, .int .i64 t, .int .i64 r, .int .i64 k, .string s, .string v] 57)).heap) (x := Obj.cells #[.string s, .string v] 143 (0, 0)); rw [show (w.alloc (.cells #[.int .i64 q, .int .i64 t, .int .i64 r, .int .i64 k, .string s, .string v] 57)).heap.size = w.heap.size + 1 by simp] at h; exact h)
 have HBW := hid hbW
 have hkl := ZID l s
 have HF := hid hf
 have hBl := hS.lt
 have hsz : ((w.alloc (.cells #[.int .i64 q, .int .i64 t, .int .i64 r, .int .i64 k, .string s, .string v] 57)).alloc (.cells #[.string s, .string v] 143)).heap.size = w.heap.size + 2 := by simp
 have HL := hid (fun g hg => (hO.lt g hg).2)
 clear hS hO hbW
 go_enter Tryz.func127, Tryz.ntmps127
 go_wp2
 generalize ((w.alloc (.cells #[.int .i64 q, .int .i64 t, .int .i64 r, .int .i64 k, .string s, .string v] 57)).alloc (.cells #[.string s, .string v] 143)) = W at *
 have hbd : Below W.heap.size W W.drew := (bR _ _).drew
 have cB := hid (ZDG a5 c5 l ⟨s, v⟩ W.drew (ZAh (ZAE HO.out hbd)) hr (by omega))
 have hBW : B < W.heap.size := by omega
 have hEW : w.heap.size + 1 < W.heap.size := by omega
 have HK := hid (rfl : kV l s = kV l s)
 change Hid (Calls _ _ _ _ fun e w' => e = .returned (.tuple #[.int .i64 (kV l s : Nat), .bool (fndV l s)]) ∧ _) at cB
 rw [show fndV l s = false from HF.out] at cB
 generalize hKK : kV l s = K at *
 have HKK := hid hKK
 clear hKK HK hf
 go_region_held3 (fun w' => w'.cell? ⟨B, 7, none⟩ = some (.slice a5 l.length c5) ∧ w'.cell? ⟨w.heap.size + 1, 0, none⟩ = some (.string s) ∧ w'.cell? ⟨w.heap.size + 1, 1, none⟩ = some (.string v)) (go_keep) (first | (go_at_call 151; refine cB.out.mono ?_; rintro e W1 ⟨rfl, hb1⟩; have z7 := (hb1.cell (p := ⟨B, 7, none⟩) hBW).trans x7; have z0 := (hb1.cell (p := ⟨w.heap.size + 1, 0, none⟩) hEW).trans d0; have z1 := (hb1.cell (p := ⟨w.heap.size + 1, 1, none⟩) hEW).trans d1))
 have HB1 := hid (hbd.trans (hb1.mono hbd.size))
 have HS1 := hid (HS.out.stay HB1.out)
 have HO1 := hid (ZAE HO.out HB1.out)
 have HV1 := hid ((HB1.out.block (w.heap.size + 1) hEW).trans HV.out)
 have HBx := hid (HBW.out.trans (HB1.out.mono HBW.out.size))
 have hz1 := HB1.out.size
 clear hb1 x7 d0 d1 cB HS HO HV
 have xg := (HBx.out.cell (p := ⟨4, 0, none⟩) hgl).trans HG.out
 have hli : ((l.length : Int) == 20) = true := by rw [H20.out]; rfl
 go_wp2
 go_ret
 exact ⟨rfl, HBx.out⟩
theorem set_new (B bw bb base : Nat) (sv fv : Value) (a5 : Option Addr) (c5 : Nat) (l : List Pr) (st bg la fa : Int) (q t r k : Int) (s v : ByteArray) (w : World) (hS : StB w B sv fv st bg la bw bb (.slice a5 l.length c5) fa) (hO : w.ownsRow base 143 2 (.slice a5 l.length c5) l.length (l.flatMap Pr.cells)) (hr : Rise l) (hl : l.length ≤ 1000) (hf : fndV l s = false) (h20 : l.length < 20) (hbase : base ≤ w.heap.size) :
  Calls Tryz.prog 127 #[.pointer (some ⟨B, 0, none⟩), .agg #[.int .i64 q, .int .i64 t, .int .i64 r, .int .i64 k, .string s, .string v]] w fun e w' => ∃ a' c', e = .returned .nilIface ∧ StB w' B sv fv st bg la bw bb (.slice a' (l.length + 1) c') fa ∧ w'.ownsRow base 143 2 (.slice a' (l.length + 1) c') (l.length + 1) ((setV l ⟨s, v⟩).flatMap Pr.cells) ∧ Chg (fun j => j = B ∨ (Value.slice a5 l.length c5).ownBlock = some j) w w' := by
 have hfn := ZCt hf
 have mixed : Tryz.prog.follows .mixedOrders = true := by kernel_rfl
 have hbW : Below w.heap.size w ((w.alloc (.cells #[.int .i64 q, .int .i64 t, .int .i64 r, .int .i64 k, .string s, .string v] 57)).alloc (.cells #[.string s, .string v] 143)) := ((bR _ _).alloc nL _).alloc (by simp) _
 have HS := hid (hS.stay hbW)
 have HO := hid (ZAE hO hbW)
 have HD := hid (ZAL hO hS (by decide))
 have x7 := HS.out.cell 7
 change _ = some (Value.slice a5 l.length c5) at x7
 have d0 : ((w.alloc (.cells #[.int .i64 q, .int .i64 t, .int .i64 r, .int .i64 k, .string s, .string v] 57)).alloc (.cells #[.string s, .string v] 143)).cell? ⟨w.heap.size + 1, 0, none⟩ = some (.string s) := by simp [go_sem]
 have d1 : ((w.alloc (.cells #[.int .i64 q, .int .i64 t, .int .i64 r, .int .i64 k, .string s, .string v] 57)).alloc (.cells #[.string s, .string v] 143)).cell? ⟨w.heap.size + 1, 1, none⟩ = some (.string v) := by simp [go_sem]
 have HV := hid (show ((w.alloc (.cells #[.int .i64 q, .int .i64 t, .int .i64 r, .int .i64 k, .string s, .string v] 57)).alloc (.cells #[.string s, .string v] 143)).heap[w.heap.size + 1]? = some (.cells #[.string s, .string v] 143 (0, 0)) from by have h := Array.getElem?_push_size (xs := (w.alloc (.cells #[.int .i64 q, .int .i64 t, .int .i64 r, .int .i64 k, .string s, .string v] 57)).heap) (x := Obj.cells #[.string s, .string v] 143 (0, 0)); rw [show (w.alloc (.cells #[.int .i64 q, .int .i64 t, .int .i64 r, .int .i64 k, .string s, .string v] 57)).heap.size = w.heap.size + 1 by simp] at h; exact h)
 have HBW := hid hbW
 have hkl := ZID l s
 have HF := hid hf
 have hBl := hS.lt
 have hsz : ((w.alloc (.cells #[.int .i64 q, .int .i64 t, .int .i64 r, .int .i64 k, .string s, .string v] 57)).alloc (.cells #[.string s, .string v] 143)).heap.size = w.heap.size + 2 := by simp
 have HL := hid (fun g hg => (hO.lt g hg).2)
 clear hS hO hbW
 go_enter Tryz.func127, Tryz.ntmps127
 go_wp2
 generalize ((w.alloc (.cells #[.int .i64 q, .int .i64 t, .int .i64 r, .int .i64 k, .string s, .string v] 57)).alloc (.cells #[.string s, .string v] 143)) = W at *
 have hbd : Below W.heap.size W W.drew := (bR _ _).drew
 have cB := hid (ZDG a5 c5 l ⟨s, v⟩ W.drew (ZAh (ZAE HO.out hbd)) hr (by omega))
 have hBW : B < W.heap.size := by omega
 have hEW : w.heap.size + 1 < W.heap.size := by omega
 have HK := hid (rfl : kV l s = kV l s)
 change Hid (Calls _ _ _ _ fun e w' => e = .returned (.tuple #[.int .i64 (kV l s : Nat), .bool (fndV l s)]) ∧ _) at cB
 rw [show fndV l s = false from HF.out] at cB
 generalize hKK : kV l s = K at *
 have HKK := hid hKK
 clear hKK HK hf
 go_region_held3 (fun w' => w'.cell? ⟨B, 7, none⟩ = some (.slice a5 l.length c5) ∧ w'.cell? ⟨w.heap.size + 1, 0, none⟩ = some (.string s) ∧ w'.cell? ⟨w.heap.size + 1, 1, none⟩ = some (.string v)) (go_keep) (first | (go_at_call 151; refine cB.out.mono ?_; rintro e W1 ⟨rfl, hb1⟩; have z7 := (hb1.cell (p := ⟨B, 7, none⟩) hBW).trans x7; have z0 := (hb1.cell (p := ⟨w.heap.size + 1, 0, none⟩) hEW).trans d0; have z1 := (hb1.cell (p := ⟨w.heap.size + 1, 1, none⟩) hEW).trans d1))
 have HB1 := hid (hbd.trans (hb1.mono hbd.size))
 have HS1 := hid (HS.out.stay HB1.out)
 have HO1 := hid (ZAE HO.out HB1.out)
 have HV1 := hid ((HB1.out.block (w.heap.size + 1) hEW).trans HV.out)
 have HBx := hid (HBW.out.trans (HB1.out.mono HBW.out.size))
 have hz1 := HB1.out.size
 clear hb1 x7 d0 d1 cB HS HO HV
 have hli : ((l.length : Int) == 20) = false := by simp; omega
 have hbA : Below W1.heap.size W1 (W1.alloc (.cells #[.string s, .string v] 143)).drew := ((bR _ _).alloc nL _).drew
 have cI := hid (ZJT base W1.heap.size K a5 c5 l ⟨s, v⟩ (W1.alloc (.cells #[.string s, .string v] 143)).drew (ZAE HO1.out hbA) hkl hl (by have := HBx.out.size; have := hbA.size; omega) (heap_alloc_new W1 _) (fun g hg => by have := (HO1.out.lt g hg).2; omega))
 have hB1 := HS1.out.lt
 clear hfn
 go_wp2
 go_region_with (first | (go_at_call 154; refine cI.out.mono ?_; rintro e W2 ⟨a', c', rfl, hO2, hg2⟩; have hne2 : ∀ g, (Value.slice a5 l.length c5).ownBlock = some g → g ≠ B := HD.out; have HS2 := hid (show StB W2 B sv fv st bg la bw bb (.slice a5 l.length c5) fa from (hg2.block B (Nat.lt_of_lt_of_le hB1 hbA.size) (fun e => hne2 B e.symm rfl)).trans (HS1.out.stay hbA)); have HO2 := hid hO2; have HG2 := hid hg2; have y7 := HS2.out.cell 7; change _ = some (Value.slice a5 l.length c5) at y7; have yf := HS2.out.frozen; clear hO2 hg2))
 all_goals go_wp2
 all_goals go_ret
 all_goals have hsv := setV_at (v := v) HF.out HKK.out
 all_goals have hC3 : Chg (fun j => j = B) W2 (W2.setCell ⟨B, 7, none⟩ (.slice a' (l.length + 1) c')) := ZAC _ B _ _
 all_goals rw [hsv]
 all_goals exact ⟨a', c', rfl, HS2.out.set 7 _, ZAJ HO2.out hC3 (ZAL HO2.out HS2.out (by decide)), (((Chg.of_below HBx.out).trans (Chg.of_below hbA)).trans (Chg.of_own HG2.out (fun j h => .inr h))).trans (hC3.mono (fun j h => .inl h))⟩
end Go.Proofs.YtookchpdbilbcaaGreatDoor
/-
 What slices.Clone answers at a row of pairs: a new row: a contract over the seat's program.
-/
namespace Go.Proofs.YtookchpdbilbcaaGreatDoor
open Go.RowKit Go.Sort
theorem ZG6 (a5 : Option Addr) (k5 : Nat) (vs : List Pr) (w : World) (h5 : PrSl w (.slice a5 vs.length k5) vs) (n5 : vs.length ≤ 1048576) :
  Calls Tryz.prog 110 #[.slice a5 vs.length k5] w fun e w' => ∃ b c, e = .returned (.slice b vs.length c) ∧ w'.ownsRow w.heap.size 143 2 (.slice b vs.length c) vs.length (vs.flatMap Pr.cells) ∧ Below w.heap.size w w' := by
 obtain ⟨j0, hj, hj0, hj1, hj2⟩ := info_parts Tryz.infoVar
 cases a5 with
 | none =>
  have hv : vs = [] := by
   rcases h5 with ⟨_, _, _, h⟩ | ⟨_, _, _, h, _⟩
   ·exact h
   ·cases h
  subst hv
  have hnil := fun w => Lib.run_eql_slice_nil (P := Tryz.prog) w 79 143 none 0 k5 0 0 Tryz.underlying79
  go_enter Tryz.func110, Tryz.ntmps110
  go_wp2
  go_ret
  exact ⟨none, 0, rfl, World.ownsRow_nil _ _ _ _, Below.refl _ _⟩
 | some ad =>
  have hb0 : Below w.heap.size w (w.alloc (.cells #[] 143)) := (bR _ _).alloc nL _
  have HW := hid (ZBE w 143)
  have HX := hid (h5.stay hb0 nL).cellsSl
  have HB := hid hb0
  have N5 := hid n5
  clear h5 hb0 n5
  have hnil := fun w => Lib.run_eql_slice_nil (P := Tryz.prog) w 79 143 (some ad) vs.length k5 0 0 Tryz.underlying79
  go_enter Tryz.func110, Tryz.ntmps110
  go_wp2_with (first | (at_builtin; refine ZAc rfl _ _ 79 rfl w.heap.size 143 j0 _ 2 32 Tryz.underlying79 hj hj0 hj1 hj2 rfl (by decide) _ 0 [] rfl HW.out vs.length (vs.flatMap Pr.cells) _ rfl HX.out ?c2 ?c3 ?c4 ?_) | fail)
  case c2 => have := N5.out; unfold maxLen; omega
  case c3 => have := N5.out; omega
  case c4 => simp
  intro v1 w1 ho1 hg1
  obtain ⟨b, c, rfl⟩ := ZAD ho1
  have HO := hid ho1
  have HB1 := hid (HB.out.grown hg1 (by simp) (fun j hj => (HW.out.lt j hj).1))
  clear ho1 hg1
  go_wp2
  go_ret
  exact ⟨b, c, rfl, HO.out, HB1.out⟩
end Go.Proofs.YtookchpdbilbcaaGreatDoor
/-
 impl.stand as a whole, and what impl.standOf makes: contracts over the seat's program. (Made by mkstof.py.)
-/
namespace Go.Proofs.YtookchpdbilbcaaGreatDoor
open Go.RowKit Go.Maps Go.WideMaps Go.Sort
theorem MapAt.mono {w : World} {b n m : Nat} {l : List Tx} (h : MapAt w b n l) (hm : n ≤ m) : MapAt w b m l := let ⟨D, h1, h2⟩ := h; ⟨D, h1.mono hm, h2⟩
/-- A stand: its block, its two maps, its row of vars; all above lo. -/
structure Stand (w : World) (lo B bw bb : Nat) (sv fv vv : Value) (n : Nat) (S : St) : Prop where
 blk : StB w B sv fv S.status S.begun S.last bw bb vv S.faults
 mw : MapAt w bw n (S.wait.map txt)
 mb : MapAt w bb n (S.busy.map txt)
 ov : w.ownsRow lo 143 2 vv S.vars.length (S.vars.flatMap Pr.cells)
 wb : bw ≠ bb
 lw : lo ≤ bw
 lb : lo ≤ bb
 lB : lo ≤ B
theorem Stand.stay {w w' : World} {lo B bw bb : Nat} {sv fv vv : Value} {n : Nat} {S : St} (h : Stand w lo B bw bb sv fv vv n S) (hb : Below w.heap.size w w') : Stand w' lo B bw bb sv fv vv n S := ⟨h.blk.stay hb, h.mw.stay hb, h.mb.stay hb, ZAE h.ov hb, h.wb, h.lw, h.lb, h.lB⟩
/-- A map's block is no row's. -/
theorem ZAx {w : World} {b n m base size : Nat} {l : List Tx} {e : TypeId} {v : Value} {xs : List Value} (h : MapAt w b n l) (ho : w.ownsRow base e size v m xs) : ∀ g, v.ownBlock = some g → g ≠ b := by
 intro g hg he
 subst he
 obtain ⟨D, ⟨es, clock, hb, _⟩, _⟩ := h
 rcases ho.2 with ⟨hv, _⟩ | ⟨g', cap, cur, hv, _, hh, _⟩
 ·rw [hv] at hg; cases hg
 ·rw [hv] at hg
  injection hg with hg
  subst hg
  rw [hb] at hh
  cases hh
theorem ZFr (a1 a2 a3 a4 a5 : Option Addr) (k1 k2 k3 k4 k5 : Nat) (ss : List ByteArray) (fs : List Pr) (S : St) (w : World) (hT : StSl w a3 a4 a5 k3 k4 k5 S) (F3 : ∀ i, (h : i < S.wait.length) → S.wait[i].size ≤ maxLen) (F4 : ∀ i, (h : i < S.busy.length) → S.busy[i].size ≤ maxLen) (n3 : S.wait.length ≤ 1048576) (n4 : S.busy.length ≤ 1048576) (n5 : S.vars.length ≤ 1048576) :
  Calls Tryz.prog 92 #[defV a1 a2 k1 k2 ss fs, stV a3 a4 a5 k3 k4 k5 S] w fun x w' => ∃ B bw bb b5 c5, x = .returned (.pointer (some ⟨B, 0, none⟩)) ∧ Stand w' w.heap.size B bw bb (.slice a1 ss.length k1) (.slice a2 fs.length k2) (.slice b5 S.vars.length c5) (S.wait.length + S.busy.length) S ∧ Below w.heap.size w w' := by
 have hbW : Below w.heap.size w ((w.alloc (.cells #[.slice a1 ss.length k1, .slice a2 fs.length k2] 33)).alloc (.cells #[.int .i64 S.status, .int .i64 S.begun, .int .i64 S.last, .slice a3 S.wait.length k3, .slice a4 S.busy.length k4, .slice a5 S.vars.length k5, .int .i64 S.faults] 81)) := below2 _ _ _
 have hWs : ((w.alloc (.cells #[.slice a1 ss.length k1, .slice a2 fs.length k2] 33)).alloc (.cells #[.int .i64 S.status, .int .i64 S.begun, .int .i64 S.last, .slice a3 S.wait.length k3, .slice a4 S.busy.length k4, .slice a5 S.vars.length k5, .int .i64 S.faults] 81)).heap.size = w.heap.size + 1 + 1 := by simp
 have H3 := hid (hT.h3.stay hbW nL)
 have H4 := hid (hT.h4.stay hbW nL)
 have H5 := hid (hT.h5.stay hbW nL)
 have d0 : ((w.alloc (.cells #[.slice a1 ss.length k1, .slice a2 fs.length k2] 33)).alloc (.cells #[.int .i64 S.status, .int .i64 S.begun, .int .i64 S.last, .slice a3 S.wait.length k3, .slice a4 S.busy.length k4, .slice a5 S.vars.length k5, .int .i64 S.faults] 81)).cell? ⟨w.heap.size, 0, none⟩ = some (.slice a1 ss.length k1) := by simp [go_sem]
 have d1 : ((w.alloc (.cells #[.slice a1 ss.length k1, .slice a2 fs.length k2] 33)).alloc (.cells #[.int .i64 S.status, .int .i64 S.begun, .int .i64 S.last, .slice a3 S.wait.length k3, .slice a4 S.busy.length k4, .slice a5 S.vars.length k5, .int .i64 S.faults] 81)).cell? ⟨w.heap.size, 1, none⟩ = some (.slice a2 fs.length k2) := by simp [go_sem]
 have t0 : ((w.alloc (.cells #[.slice a1 ss.length k1, .slice a2 fs.length k2] 33)).alloc (.cells #[.int .i64 S.status, .int .i64 S.begun, .int .i64 S.last, .slice a3 S.wait.length k3, .slice a4 S.busy.length k4, .slice a5 S.vars.length k5, .int .i64 S.faults] 81)).cell? ⟨w.heap.size + 1, 0, none⟩ = some (.int .i64 S.status) := by simp [go_sem]
 have t1 : ((w.alloc (.cells #[.slice a1 ss.length k1, .slice a2 fs.length k2] 33)).alloc (.cells #[.int .i64 S.status, .int .i64 S.begun, .int .i64 S.last, .slice a3 S.wait.length k3, .slice a4 S.busy.length k4, .slice a5 S.vars.length k5, .int .i64 S.faults] 81)).cell? ⟨w.heap.size + 1, 1, none⟩ = some (.int .i64 S.begun) := by simp [go_sem]
 have t2 : ((w.alloc (.cells #[.slice a1 ss.length k1, .slice a2 fs.length k2] 33)).alloc (.cells #[.int .i64 S.status, .int .i64 S.begun, .int .i64 S.last, .slice a3 S.wait.length k3, .slice a4 S.busy.length k4, .slice a5 S.vars.length k5, .int .i64 S.faults] 81)).cell? ⟨w.heap.size + 1, 2, none⟩ = some (.int .i64 S.last) := by simp [go_sem]
 have t3 : ((w.alloc (.cells #[.slice a1 ss.length k1, .slice a2 fs.length k2] 33)).alloc (.cells #[.int .i64 S.status, .int .i64 S.begun, .int .i64 S.last, .slice a3 S.wait.length k3, .slice a4 S.busy.length k4, .slice a5 S.vars.length k5, .int .i64 S.faults] 81)).cell? ⟨w.heap.size + 1, 3, none⟩ = some (.slice a3 S.wait.length k3) := by simp [go_sem]
 have t4 : ((w.alloc (.cells #[.slice a1 ss.length k1, .slice a2 fs.length k2] 33)).alloc (.cells #[.int .i64 S.status, .int .i64 S.begun, .int .i64 S.last, .slice a3 S.wait.length k3, .slice a4 S.busy.length k4, .slice a5 S.vars.length k5, .int .i64 S.faults] 81)).cell? ⟨w.heap.size + 1, 4, none⟩ = some (.slice a4 S.busy.length k4) := by simp [go_sem]
 have t5 : ((w.alloc (.cells #[.slice a1 ss.length k1, .slice a2 fs.length k2] 33)).alloc (.cells #[.int .i64 S.status, .int .i64 S.begun, .int .i64 S.last, .slice a3 S.wait.length k3, .slice a4 S.busy.length k4, .slice a5 S.vars.length k5, .int .i64 S.faults] 81)).cell? ⟨w.heap.size + 1, 5, none⟩ = some (.slice a5 S.vars.length k5) := by simp [go_sem]
 have t6 : ((w.alloc (.cells #[.slice a1 ss.length k1, .slice a2 fs.length k2] 33)).alloc (.cells #[.int .i64 S.status, .int .i64 S.begun, .int .i64 S.last, .slice a3 S.wait.length k3, .slice a4 S.busy.length k4, .slice a5 S.vars.length k5, .int .i64 S.faults] 81)).cell? ⟨w.heap.size + 1, 6, none⟩ = some (.int .i64 S.faults) := by simp [go_sem]
 have HBW := hid hbW
 clear hT hbW
 go_enter Tryz.func92, Tryz.ntmps92
 go_wp2
 generalize ((w.alloc (.cells #[.slice a1 ss.length k1, .slice a2 fs.length k2] 33)).alloc (.cells #[.int .i64 S.status, .int .i64 S.begun, .int .i64 S.last, .slice a3 S.wait.length k3, .slice a4 S.busy.length k4, .slice a5 S.vars.length k5, .int .i64 S.faults] 81)) = W at *
 have hbd : Below W.heap.size W W.drew := (bR _ _).drew
 have l0z : w.heap.size < W.heap.size := by omega
 have l1z : w.heap.size + 1 < W.heap.size := by omega
 go_region_held3 (fun w' => w'.cell? ⟨w.heap.size, 0, none⟩ = some (.slice a1 ss.length k1) ∧ w'.cell? ⟨w.heap.size, 1, none⟩ = some (.slice a2 fs.length k2) ∧ w'.cell? ⟨w.heap.size + 1, 0, none⟩ = some (.int .i64 S.status) ∧ w'.cell? ⟨w.heap.size + 1, 1, none⟩ = some (.int .i64 S.begun) ∧ w'.cell? ⟨w.heap.size + 1, 2, none⟩ = some (.int .i64 S.last) ∧ w'.cell? ⟨w.heap.size + 1, 3, none⟩ = some (.slice a3 S.wait.length k3) ∧ w'.cell? ⟨w.heap.size + 1, 4, none⟩ = some (.slice a4 S.busy.length k4) ∧ w'.cell? ⟨w.heap.size + 1, 5, none⟩ = some (.slice a5 S.vars.length k5) ∧ w'.cell? ⟨w.heap.size + 1, 6, none⟩ = some (.int .i64 S.faults)) (go_keep) (first | (go_at_call_of 109 (Value.slice a3 S.wait.length k3); refine (ZC2 _ S.wait W.drew (H3.out.stay hbd nL) F3 n3).mono ?_; rintro e W1 ⟨rfl, hM1, hq1⟩; have hb1 := hbd.trans (hq1.mono hbd.size); have l0a := Nat.lt_of_lt_of_le l0z hb1.size; have l1a := Nat.lt_of_lt_of_le l1z hb1.size; have ad0 := (hb1.cell (p := ⟨w.heap.size, 0, none⟩) l0z).trans d0; have ad1 := (hb1.cell (p := ⟨w.heap.size, 1, none⟩) l0z).trans d1; have at0 := (hb1.cell (p := ⟨w.heap.size + 1, 0, none⟩) l1z).trans t0; have at1 := (hb1.cell (p := ⟨w.heap.size + 1, 1, none⟩) l1z).trans t1; have at2 := (hb1.cell (p := ⟨w.heap.size + 1, 2, none⟩) l1z).trans t2; have at3 := (hb1.cell (p := ⟨w.heap.size + 1, 3, none⟩) l1z).trans t3; have at4 := (hb1.cell (p := ⟨w.heap.size + 1, 4, none⟩) l1z).trans t4; have at5 := (hb1.cell (p := ⟨w.heap.size + 1, 5, none⟩) l1z).trans t5; have at6 := (hb1.cell (p := ⟨w.heap.size + 1, 6, none⟩) l1z).trans t6) | (go_at_call_of 109 (Value.slice a4 S.busy.length k4); refine (ZC2 _ S.busy W1 (H4.out.stay hb1 nL) F4 n4).mono ?_; rintro e W2 ⟨rfl, hM2, hb2⟩; have l0b := Nat.lt_of_lt_of_le l0a hb2.size; have l1b := Nat.lt_of_lt_of_le l1a hb2.size; have bd0 := (hb2.cell (p := ⟨w.heap.size, 0, none⟩) l0a).trans ad0; have bd1 := (hb2.cell (p := ⟨w.heap.size, 1, none⟩) l0a).trans ad1; have bt0 := (hb2.cell (p := ⟨w.heap.size + 1, 0, none⟩) l1a).trans at0; have bt1 := (hb2.cell (p := ⟨w.heap.size + 1, 1, none⟩) l1a).trans at1; have bt2 := (hb2.cell (p := ⟨w.heap.size + 1, 2, none⟩) l1a).trans at2; have bt3 := (hb2.cell (p := ⟨w.heap.size + 1, 3, none⟩) l1a).trans at3; have bt4 := (hb2.cell (p := ⟨w.heap.size + 1, 4, none⟩) l1a).trans at4; have bt5 := (hb2.cell (p := ⟨w.heap.size + 1, 5, none⟩) l1a).trans at5; have bt6 := (hb2.cell (p := ⟨w.heap.size + 1, 6, none⟩) l1a).trans at6) | (go_at_call 110; refine (ZG6 a5 k5 S.vars W2 ((H5.out.stay hb1 nL).stay hb2 nL) n5).mono ?_; rintro e W3 ⟨b5, c5, rfl, hO3, hb3⟩; have cd0 := (hb3.cell (p := ⟨w.heap.size, 0, none⟩) l0b).trans bd0; have cd1 := (hb3.cell (p := ⟨w.heap.size, 1, none⟩) l0b).trans bd1; have ct0 := (hb3.cell (p := ⟨w.heap.size + 1, 0, none⟩) l1b).trans bt0; have ct1 := (hb3.cell (p := ⟨w.heap.size + 1, 1, none⟩) l1b).trans bt1; have ct2 := (hb3.cell (p := ⟨w.heap.size + 1, 2, none⟩) l1b).trans bt2; have ct3 := (hb3.cell (p := ⟨w.heap.size + 1, 3, none⟩) l1b).trans bt3; have ct4 := (hb3.cell (p := ⟨w.heap.size + 1, 4, none⟩) l1b).trans bt4; have ct5 := (hb3.cell (p := ⟨w.heap.size + 1, 5, none⟩) l1b).trans bt5; have ct6 := (hb3.cell (p := ⟨w.heap.size + 1, 6, none⟩) l1b).trans bt6))
 have HM1 := hid hM1
 have HM2 := hid hM2
 have HO3 := hid hO3
 have HQ2 := hid hb2
 have HQ3 := hid hb3
 have HB1 := hid (HBW.out.trans (hb1.mono HBW.out.size))
 clear hM1 hM2 hO3 hq1 hb1 hb2 hb3 H3 H4 H5
 go_wp2
 go_ret
 have hbA : Below W3.heap.size W3 (W3.alloc (.cells (stL (.slice a1 ss.length k1) (.slice a2 fs.length k2) S.status S.begun S.last (w.heap.size + 1 + 1) W1.heap.size (.slice b5 S.vars.length c5) S.faults).toArray 153 (0, 0))) := (bR _ _).alloc nL _
 have z1 := HB1.out.size
 have z2 := HQ2.out.size
 have z3 := HQ3.out.size
 have hlt := HM1.out.lt
 have hWd : W.drew.heap.size = W.heap.size := rfl
 rw [hWd] at hlt
 have hM1 : MapAt W1 (w.heap.size + 1 + 1) S.wait.length (S.wait.map txt) := by have h := HM1.out; rw [hWd, hWs] at h; exact h
 have hB3 := HB1.out.trans ((HQ2.out.trans (HQ3.out.mono HQ2.out.size)).mono (B' := w.heap.size) (by omega))
 exact ⟨W3.heap.size, w.heap.size + 1 + 1, W1.heap.size, b5, c5, rfl, ⟨heap_alloc_new W3 _, ((((hM1.stay HQ2.out).stay HQ3.out).stay hbA).mono (Nat.le_add_right _ _)), (((HM2.out.stay HQ3.out).stay hbA).mono (Nat.le_add_left _ _)), ZAI (ZAE HO3.out hbA) (by omega), by omega, by omega, by omega, by omega⟩, hB3.trans (hbA.mono (by omega))⟩
end Go.Proofs.YtookchpdbilbcaaGreatDoor
