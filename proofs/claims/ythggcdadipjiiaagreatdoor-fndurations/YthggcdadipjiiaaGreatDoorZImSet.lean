/-
  What the method set of impl.stand does: contracts over the seat's program. (Made by mkset2.py.)
-/
import Derived.Test.YthggcdadipjiiaaGreatDoorZInsG4
import Derived.Test.YthggcdadipjiiaaGreatDoorZImEnt2
import Derived.Deep.RegionWith
namespace Go.Proofs.YthggcdadipjiiaaGreatDoor
open Go.RowKit Go.Maps Go.WideMaps Go.Sort

theorem Chg.of_own {p : Nat → Prop} {w w' : World} {r : Option Nat} (h : w.grownBy w' r) (hp : ∀ j, r = some j → p j) : Chg p w w' := ⟨h.os, h.tape, h.output, h.size, fun k hk hq => h.block k hk (fun e => hq (hp k e.symm))⟩
theorem found_lt {l : List Pr} {t : ByteArray} (h : fndV l t = true) : ∃ hk : kV l t < l.length, l[kV l t].fst = t := by
  by_cases hk : kV l t < l.length
  · rw [fndV_at hk] at h
    exact ⟨hk, by simpa using h⟩
  · rw [fndV_end hk] at h; cases h
theorem found_not {l : List Pr} {t : ByteArray} (h : fndV l t = false) : (hk : kV l t < l.length) → l[kV l t].fst ≠ t := by
  intro hk e
  rw [fndV_at hk] at h
  simp [e] at h
theorem setV_at {l : List Pr} {s v : ByteArray} {K : Nat} (hf : fndV l s = false) (hK : kV l s = K) : setV l ⟨s, v⟩ = l.take K ++ [⟨s, v⟩] ++ l.drop K := by
  have h := setV_new (l := l) (v := ⟨s, v⟩) (found_not hf)
  rwa [show kV l (Pr.mk s v).fst = K from hK] at h
theorem setV_set {l : List Pr} {v : Pr} (h : fndV l v.fst = true) : setV l v = l.set (kV l v.fst) v := by
  obtain ⟨hk, he⟩ := found_lt h
  rw [setV_old hk he, List.set_eq_take_append_cons_drop, if_pos hk]
  simp
theorem flat_set2 (l : List Pr) (k : Nat) (p : Pr) (hk : k < l.length) : ((l.flatMap Pr.cells).set (k * 2) (.string p.fst)).set (k * 2 + 1) (.string p.snd) = (l.set k p).flatMap Pr.cells := by
  apply List.ext_getElem?
  intro i
  have hl : (l.flatMap Pr.cells).length = l.length * 2 := pflat_len l
  by_cases hi : i < l.length * 2
  · have hq : i / 2 < l.length := by omega
    have hq' : i / 2 < (l.set k p).length := by simpa using hq
    have e1 := pflat_at l (i / 2) (i % 2) hq (by omega)
    have e2 := pflat_at (l.set k p) (i / 2) (i % 2) hq' (by omega)
    rw [show i / 2 * 2 + i % 2 = i by omega] at e1 e2
    rw [e2, List.getElem?_set, List.getElem?_set, List.length_set, hl]
    rw [List.getElem_set]
    by_cases ek : k = i / 2
    · subst ek
      simp only [if_true]
      rcases Nat.mod_two_eq_zero_or_one i with h0 | h0
      · have h1 : ¬ (i / 2 * 2 + 1 = i) := by omega
        have h2 : i / 2 * 2 = i := by omega
        rw [if_neg h1, if_pos h2, if_pos (by omega), h0]; rfl
      · have h1 : i / 2 * 2 + 1 = i := by omega
        rw [if_pos h1, if_pos (by omega), h0]; rfl
    · have h1 : ¬ (k * 2 + 1 = i) := by omega
      have h2 : ¬ (k * 2 = i) := by omega
      rw [if_neg h1, if_neg h2, e1, if_neg ek]
  · rw [List.getElem?_eq_none (by simp [hl]; omega), List.getElem?_eq_none (by rw [pflat_len]; simp; omega)]
/-- One pair of a row of one's own set. -/
theorem own_set2 {w : World} {base g c k : Nat} {l : List Pr} {p : Pr} (h : w.ownsRow base 138 2 (.slice (some ⟨g, 0, none⟩) l.length c) l.length (l.flatMap Pr.cells)) (hk : k < l.length) : ((w.setCell ⟨g, k * 2, none⟩ (.string p.fst)).setCell ⟨g, k * 2 + 1, none⟩ (.string p.snd)).ownsRow base 138 2 (.slice (some ⟨g, 0, none⟩) l.length c) l.length ((l.set k p).flatMap Pr.cells) := by
  rcases h.2 with ⟨h0, _⟩ | ⟨g', cap, cur, hv, hb, hh, hle, hcm, hcs, hct⟩
  · cases h0
  · injection hv with e1 _ e3
    injection e1 with e1
    injection e1 with e1 _
    subst e1; subst e3
    have hh' : w.heap[g]? = some (.cells cur.toList.toArray 138 (0, 0)) := by simpa using hh
    have h2 := blk_set (i := k * 2 + 1) (blk_set (i := k * 2) hh' (.string p.fst)) (.string p.snd)
    refine ⟨by rw [pflat_len]; simp, .inr ⟨g, c, _, rfl, hb, h2, hle, hcm, by simpa using hcs, ?_⟩⟩
    rw [List.toList_toArray, ← flat_set2 l k p hk, ← hct, List.take_set, List.take_set]
set_option maxRecDepth 100000 in
set_option maxHeartbeats 4000000 in
theorem set_old (B bw bb base : Nat) (sv fv : Value) (a5 : Option Addr) (c5 : Nat) (l : List Pr) (st bg la fa : Int) (q t r k : Int) (s v : ByteArray) (w : World) (hS : StB w B sv fv st bg la bw bb (.slice a5 l.length c5) fa) (hO : w.ownsRow base 138 2 (.slice a5 l.length c5) l.length (l.flatMap Pr.cells)) (hr : Rise l) (hl : l.length ≤ 1000) (hf : fndV l s = true) :
    Calls Tryz.prog 156 #[.pointer (some ⟨B, 0, none⟩), .agg #[.int .i64 q, .int .i64 t, .int .i64 r, .int .i64 k, .string s, .string v]] w fun e w' => e = .returned .nilIface ∧ StB w' B sv fv st bg la bw bb (.slice a5 l.length c5) fa ∧ w'.ownsRow base 138 2 (.slice a5 l.length c5) l.length ((setV l ⟨s, v⟩).flatMap Pr.cells) ∧ Chg (fun j => (Value.slice a5 l.length c5).ownBlock = some j) w w' := by
  obtain ⟨hk, he⟩ := found_lt hf
  have mixed : Tryz.prog.follows .mixedOrders = true := by kernel_rfl
  have hbW : Below w.heap.size w ((w.alloc (.cells #[.int .i64 q, .int .i64 t, .int .i64 r, .int .i64 k, .string s, .string v] 33)).alloc (.cells #[.string s, .string v] 138)) := ((Below.refl _ _).alloc (Nat.le_refl _) _).alloc (by simp) _
  have HS := hid (hS.stay hbW)
  have HO := hid (ownB_stay hO hbW)
  have HD := hid (own_ne hO hS (by decide))
  have x7 := HS.out.cell 7
  change _ = some (Value.slice a5 l.length c5) at x7
  have d0 : ((w.alloc (.cells #[.int .i64 q, .int .i64 t, .int .i64 r, .int .i64 k, .string s, .string v] 33)).alloc (.cells #[.string s, .string v] 138)).cell? ⟨w.heap.size + 1, 0, none⟩ = some (.string s) := by simp [go_sem]
  have d1 : ((w.alloc (.cells #[.int .i64 q, .int .i64 t, .int .i64 r, .int .i64 k, .string s, .string v] 33)).alloc (.cells #[.string s, .string v] 138)).cell? ⟨w.heap.size + 1, 1, none⟩ = some (.string v) := by simp [go_sem]
  have HV := hid (show ((w.alloc (.cells #[.int .i64 q, .int .i64 t, .int .i64 r, .int .i64 k, .string s, .string v] 33)).alloc (.cells #[.string s, .string v] 138)).heap[w.heap.size + 1]? = some (.cells #[.string s, .string v] 138 (0, 0)) from by have h := Array.getElem?_push_size (xs := (w.alloc (.cells #[.int .i64 q, .int .i64 t, .int .i64 r, .int .i64 k, .string s, .string v] 33)).heap) (x := Obj.cells #[.string s, .string v] 138 (0, 0)); rw [show (w.alloc (.cells #[.int .i64 q, .int .i64 t, .int .i64 r, .int .i64 k, .string s, .string v] 33)).heap.size = w.heap.size + 1 by simp] at h; exact h)
  have HBW := hid hbW
  have hkl := kV_le l s
  have HF := hid hf
  have hBl := hS.lt
  have hsz : ((w.alloc (.cells #[.int .i64 q, .int .i64 t, .int .i64 r, .int .i64 k, .string s, .string v] 33)).alloc (.cells #[.string s, .string v] 138)).heap.size = w.heap.size + 2 := by simp
  have HL := hid (fun g hg => (hO.lt g hg).2)
  clear hS hO hbW
  go_enter Tryz.func156, Tryz.ntmps156
  go_wp2
  generalize ((w.alloc (.cells #[.int .i64 q, .int .i64 t, .int .i64 r, .int .i64 k, .string s, .string v] 33)).alloc (.cells #[.string s, .string v] 138)) = W at *
  have hbd : Below W.heap.size W W.drew := (Below.refl _ _).drew
  have cB := hid (srchV_any a5 c5 l ⟨s, v⟩ W.drew (pr_of_own (ownB_stay HO.out hbd)) hr (by omega))
  have hBW : B < W.heap.size := by omega
  have hEW : w.heap.size + 1 < W.heap.size := by omega
  have HK := hid (rfl : kV l s = kV l s)
  change Hid (Calls _ _ _ _ fun e w' => e = .returned (.tuple #[.int .i64 (kV l s : Nat), .bool (fndV l s)]) ∧ _) at cB
  rw [show fndV l s = true from HF.out] at cB
  generalize hKK : kV l s = K at *
  have HKK := hid hKK
  clear hKK HK hf
  go_region_held3 (fun w' => w'.cell? ⟨B, 7, none⟩ = some (.slice a5 l.length c5) ∧ w'.cell? ⟨w.heap.size + 1, 0, none⟩ = some (.string s) ∧ w'.cell? ⟨w.heap.size + 1, 1, none⟩ = some (.string v)) (go_keep) (first | (go_at_call 166; refine cB.out.mono ?_; rintro e W1 ⟨rfl, hb1⟩; have z7 := (hb1.cell (p := ⟨B, 7, none⟩) hBW).trans x7; have z0 := (hb1.cell (p := ⟨w.heap.size + 1, 0, none⟩) hEW).trans d0; have z1 := (hb1.cell (p := ⟨w.heap.size + 1, 1, none⟩) hEW).trans d1))
  have HB1 := hid (hbd.trans (hb1.mono hbd.size))
  have HS1 := hid (HS.out.stay HB1.out)
  have HO1 := hid (ownB_stay HO.out HB1.out)
  have HV1 := hid ((HB1.out.block (w.heap.size + 1) hEW).trans HV.out)
  have HBx := hid (HBW.out.trans (HB1.out.mono HBW.out.size))
  have hz1 := HB1.out.size
  clear hb1 x7 d0 d1 cB HS HO HV
  have hk' : K < l.length := hk
  rcases HO1.out.2 with ⟨_, h0⟩ | ⟨g, cap, cur, hv5, hbg, hh, _⟩
  · omega
  injection hv5 with e1 _ e3
  subst e1
  subst e3
  have hP := pr_of_own HO1.out
  obtain ⟨c0, c1⟩ : PrAt W1 g (0 + K * 2) l[K] := by
    rcases hP with ⟨_, _, _, h⟩ | ⟨g', o', c', hv', _, hP⟩
    · subst h; simp at hk'
    · injection hv' with q1 _ _
      injection q1 with q1
      injection q1 with q1 q2
      subst q1; subst q2
      exact hP.2 K hk'
  rw [Nat.zero_add] at c0 c1
  have f0 := Lib.frozen_of_heap hh
  have hgB : ¬ g = B := HD.out g rfl
  have hgE : ¬ g = w.heap.size + 1 := by have := HL.out g rfl; omega
  have hgB' : ¬ B = g := fun e => hgB e.symm
  have hgE' : ¬ w.heap.size + 1 = g := fun e => hgE e.symm
  have HH := hid hh
  have hKi : (K : Int) < (l.length : Int) := by omega
  generalize l[K].fst = p1 at *
  generalize l[K].snd = p2 at *
  clear hh hP
  go_wp2
  go_region
  go_wp2
  go_ret
  have hC : Chg (fun j => (Value.slice (some ⟨g, 0, none⟩) l.length c5).ownBlock = some j) W1.drew ((W1.drew.setCell ⟨g, K * 2, none⟩ (.string s)).setCell ⟨g, K * 2 + 1, none⟩ (.string v)) := ((chg_set W1.drew g _ _).trans (chg_set _ g _ _)).mono (fun j h => by rw [h]; rfl)
  have hsv : setV l ⟨s, v⟩ = l.set K ⟨s, v⟩ := by
    have h := setV_set (l := l) (v := ⟨s, v⟩) HF.out
    rwa [show kV l (Pr.mk s v).fst = K from HKK.out] at h
  have hbd1 : Below W1.heap.size W1 W1.drew := (Below.refl _ _).drew
  refine ⟨rfl, (HS1.out.stay hbd1).chg hC (fun h => hgB (by injection h)), ?_, ((Chg.of_below HBx.out).trans (Chg.of_below hbd1)).trans hC⟩
  rw [hsv]
  first | exact own_set2 (p := ⟨s, v⟩) HO1.out hk | exact own_set2 (p := ⟨s, v⟩) (w := W1.drew) (ownB_stay HO1.out hbd1) hk | exact ownB_stay (own_set2 (p := ⟨s, v⟩) HO1.out hk) (Below.refl _ _).drew
set_option maxRecDepth 100000 in
set_option maxHeartbeats 4000000 in
theorem set_full (B bw bb base : Nat) (sv fv : Value) (a5 : Option Addr) (c5 : Nat) (l : List Pr) (st bg la fa : Int) (q t r k : Int) (s v : ByteArray) (w : World) (hS : StB w B sv fv st bg la bw bb (.slice a5 l.length c5) fa) (hO : w.ownsRow base 138 2 (.slice a5 l.length c5) l.length (l.flatMap Pr.cells)) (hr : Rise l) (hl : l.length ≤ 1000) (hf : fndV l s = false) (h20 : l.length = 20) (a4 : Addr) (hg : w.cell? ⟨4, 0, none⟩ = some (errV a4)) (hgl : 4 < w.heap.size) :
    Calls Tryz.prog 156 #[.pointer (some ⟨B, 0, none⟩), .agg #[.int .i64 q, .int .i64 t, .int .i64 r, .int .i64 k, .string s, .string v]] w fun e w' => e = .returned (errV a4) ∧ Below w.heap.size w w' := by
  have HG := hid hg
  have H20 := hid h20
  clear hg h20
  have mixed : Tryz.prog.follows .mixedOrders = true := by kernel_rfl
  have hbW : Below w.heap.size w ((w.alloc (.cells #[.int .i64 q, .int .i64 t, .int .i64 r, .int .i64 k, .string s, .string v] 33)).alloc (.cells #[.string s, .string v] 138)) := ((Below.refl _ _).alloc (Nat.le_refl _) _).alloc (by simp) _
  have HS := hid (hS.stay hbW)
  have HO := hid (ownB_stay hO hbW)
  have HD := hid (own_ne hO hS (by decide))
  have x7 := HS.out.cell 7
  change _ = some (Value.slice a5 l.length c5) at x7
  have d0 : ((w.alloc (.cells #[.int .i64 q, .int .i64 t, .int .i64 r, .int .i64 k, .string s, .string v] 33)).alloc (.cells #[.string s, .string v] 138)).cell? ⟨w.heap.size + 1, 0, none⟩ = some (.string s) := by simp [go_sem]
  have d1 : ((w.alloc (.cells #[.int .i64 q, .int .i64 t, .int .i64 r, .int .i64 k, .string s, .string v] 33)).alloc (.cells #[.string s, .string v] 138)).cell? ⟨w.heap.size + 1, 1, none⟩ = some (.string v) := by simp [go_sem]
  have HV := hid (show ((w.alloc (.cells #[.int .i64 q, .int .i64 t, .int .i64 r, .int .i64 k, .string s, .string v] 33)).alloc (.cells #[.string s, .string v] 138)).heap[w.heap.size + 1]? = some (.cells #[.string s, .string v] 138 (0, 0)) from by have h := Array.getElem?_push_size (xs := (w.alloc (.cells #[.int .i64 q, .int .i64 t, .int .i64 r, .int .i64 k, .string s, .string v] 33)).heap) (x := Obj.cells #[.string s, .string v] 138 (0, 0)); rw [show (w.alloc (.cells #[.int .i64 q, .int .i64 t, .int .i64 r, .int .i64 k, .string s, .string v] 33)).heap.size = w.heap.size + 1 by simp] at h; exact h)
  have HBW := hid hbW
  have hkl := kV_le l s
  have HF := hid hf
  have hBl := hS.lt
  have hsz : ((w.alloc (.cells #[.int .i64 q, .int .i64 t, .int .i64 r, .int .i64 k, .string s, .string v] 33)).alloc (.cells #[.string s, .string v] 138)).heap.size = w.heap.size + 2 := by simp
  have HL := hid (fun g hg => (hO.lt g hg).2)
  clear hS hO hbW
  go_enter Tryz.func156, Tryz.ntmps156
  go_wp2
  generalize ((w.alloc (.cells #[.int .i64 q, .int .i64 t, .int .i64 r, .int .i64 k, .string s, .string v] 33)).alloc (.cells #[.string s, .string v] 138)) = W at *
  have hbd : Below W.heap.size W W.drew := (Below.refl _ _).drew
  have cB := hid (srchV_any a5 c5 l ⟨s, v⟩ W.drew (pr_of_own (ownB_stay HO.out hbd)) hr (by omega))
  have hBW : B < W.heap.size := by omega
  have hEW : w.heap.size + 1 < W.heap.size := by omega
  have HK := hid (rfl : kV l s = kV l s)
  change Hid (Calls _ _ _ _ fun e w' => e = .returned (.tuple #[.int .i64 (kV l s : Nat), .bool (fndV l s)]) ∧ _) at cB
  rw [show fndV l s = false from HF.out] at cB
  generalize hKK : kV l s = K at *
  have HKK := hid hKK
  clear hKK HK hf
  go_region_held3 (fun w' => w'.cell? ⟨B, 7, none⟩ = some (.slice a5 l.length c5) ∧ w'.cell? ⟨w.heap.size + 1, 0, none⟩ = some (.string s) ∧ w'.cell? ⟨w.heap.size + 1, 1, none⟩ = some (.string v)) (go_keep) (first | (go_at_call 166; refine cB.out.mono ?_; rintro e W1 ⟨rfl, hb1⟩; have z7 := (hb1.cell (p := ⟨B, 7, none⟩) hBW).trans x7; have z0 := (hb1.cell (p := ⟨w.heap.size + 1, 0, none⟩) hEW).trans d0; have z1 := (hb1.cell (p := ⟨w.heap.size + 1, 1, none⟩) hEW).trans d1))
  have HB1 := hid (hbd.trans (hb1.mono hbd.size))
  have HS1 := hid (HS.out.stay HB1.out)
  have HO1 := hid (ownB_stay HO.out HB1.out)
  have HV1 := hid ((HB1.out.block (w.heap.size + 1) hEW).trans HV.out)
  have HBx := hid (HBW.out.trans (HB1.out.mono HBW.out.size))
  have hz1 := HB1.out.size
  clear hb1 x7 d0 d1 cB HS HO HV
  have xg := (HBx.out.cell (p := ⟨4, 0, none⟩) hgl).trans HG.out
  have hli : ((l.length : Int) == 20) = true := by rw [H20.out]; rfl
  go_wp2
  go_ret
  exact ⟨rfl, HBx.out⟩
set_option maxRecDepth 100000 in
set_option maxHeartbeats 4000000 in
theorem set_new (B bw bb base : Nat) (sv fv : Value) (a5 : Option Addr) (c5 : Nat) (l : List Pr) (st bg la fa : Int) (q t r k : Int) (s v : ByteArray) (w : World) (hS : StB w B sv fv st bg la bw bb (.slice a5 l.length c5) fa) (hO : w.ownsRow base 138 2 (.slice a5 l.length c5) l.length (l.flatMap Pr.cells)) (hr : Rise l) (hl : l.length ≤ 1000) (hf : fndV l s = false) (h20 : l.length < 20) (hbase : base ≤ w.heap.size) :
    Calls Tryz.prog 156 #[.pointer (some ⟨B, 0, none⟩), .agg #[.int .i64 q, .int .i64 t, .int .i64 r, .int .i64 k, .string s, .string v]] w fun e w' => ∃ a' c', e = .returned .nilIface ∧ StB w' B sv fv st bg la bw bb (.slice a' (l.length + 1) c') fa ∧ w'.ownsRow base 138 2 (.slice a' (l.length + 1) c') (l.length + 1) ((setV l ⟨s, v⟩).flatMap Pr.cells) ∧ Chg (fun j => j = B ∨ (Value.slice a5 l.length c5).ownBlock = some j) w w' := by
  have hfn := found_not hf
  have mixed : Tryz.prog.follows .mixedOrders = true := by kernel_rfl
  have hbW : Below w.heap.size w ((w.alloc (.cells #[.int .i64 q, .int .i64 t, .int .i64 r, .int .i64 k, .string s, .string v] 33)).alloc (.cells #[.string s, .string v] 138)) := ((Below.refl _ _).alloc (Nat.le_refl _) _).alloc (by simp) _
  have HS := hid (hS.stay hbW)
  have HO := hid (ownB_stay hO hbW)
  have HD := hid (own_ne hO hS (by decide))
  have x7 := HS.out.cell 7
  change _ = some (Value.slice a5 l.length c5) at x7
  have d0 : ((w.alloc (.cells #[.int .i64 q, .int .i64 t, .int .i64 r, .int .i64 k, .string s, .string v] 33)).alloc (.cells #[.string s, .string v] 138)).cell? ⟨w.heap.size + 1, 0, none⟩ = some (.string s) := by simp [go_sem]
  have d1 : ((w.alloc (.cells #[.int .i64 q, .int .i64 t, .int .i64 r, .int .i64 k, .string s, .string v] 33)).alloc (.cells #[.string s, .string v] 138)).cell? ⟨w.heap.size + 1, 1, none⟩ = some (.string v) := by simp [go_sem]
  have HV := hid (show ((w.alloc (.cells #[.int .i64 q, .int .i64 t, .int .i64 r, .int .i64 k, .string s, .string v] 33)).alloc (.cells #[.string s, .string v] 138)).heap[w.heap.size + 1]? = some (.cells #[.string s, .string v] 138 (0, 0)) from by have h := Array.getElem?_push_size (xs := (w.alloc (.cells #[.int .i64 q, .int .i64 t, .int .i64 r, .int .i64 k, .string s, .string v] 33)).heap) (x := Obj.cells #[.string s, .string v] 138 (0, 0)); rw [show (w.alloc (.cells #[.int .i64 q, .int .i64 t, .int .i64 r, .int .i64 k, .string s, .string v] 33)).heap.size = w.heap.size + 1 by simp] at h; exact h)
  have HBW := hid hbW
  have hkl := kV_le l s
  have HF := hid hf
  have hBl := hS.lt
  have hsz : ((w.alloc (.cells #[.int .i64 q, .int .i64 t, .int .i64 r, .int .i64 k, .string s, .string v] 33)).alloc (.cells #[.string s, .string v] 138)).heap.size = w.heap.size + 2 := by simp
  have HL := hid (fun g hg => (hO.lt g hg).2)
  clear hS hO hbW
  go_enter Tryz.func156, Tryz.ntmps156
  go_wp2
  generalize ((w.alloc (.cells #[.int .i64 q, .int .i64 t, .int .i64 r, .int .i64 k, .string s, .string v] 33)).alloc (.cells #[.string s, .string v] 138)) = W at *
  have hbd : Below W.heap.size W W.drew := (Below.refl _ _).drew
  have cB := hid (srchV_any a5 c5 l ⟨s, v⟩ W.drew (pr_of_own (ownB_stay HO.out hbd)) hr (by omega))
  have hBW : B < W.heap.size := by omega
  have hEW : w.heap.size + 1 < W.heap.size := by omega
  have HK := hid (rfl : kV l s = kV l s)
  change Hid (Calls _ _ _ _ fun e w' => e = .returned (.tuple #[.int .i64 (kV l s : Nat), .bool (fndV l s)]) ∧ _) at cB
  rw [show fndV l s = false from HF.out] at cB
  generalize hKK : kV l s = K at *
  have HKK := hid hKK
  clear hKK HK hf
  go_region_held3 (fun w' => w'.cell? ⟨B, 7, none⟩ = some (.slice a5 l.length c5) ∧ w'.cell? ⟨w.heap.size + 1, 0, none⟩ = some (.string s) ∧ w'.cell? ⟨w.heap.size + 1, 1, none⟩ = some (.string v)) (go_keep) (first | (go_at_call 166; refine cB.out.mono ?_; rintro e W1 ⟨rfl, hb1⟩; have z7 := (hb1.cell (p := ⟨B, 7, none⟩) hBW).trans x7; have z0 := (hb1.cell (p := ⟨w.heap.size + 1, 0, none⟩) hEW).trans d0; have z1 := (hb1.cell (p := ⟨w.heap.size + 1, 1, none⟩) hEW).trans d1))
  have HB1 := hid (hbd.trans (hb1.mono hbd.size))
  have HS1 := hid (HS.out.stay HB1.out)
  have HO1 := hid (ownB_stay HO.out HB1.out)
  have HV1 := hid ((HB1.out.block (w.heap.size + 1) hEW).trans HV.out)
  have HBx := hid (HBW.out.trans (HB1.out.mono HBW.out.size))
  have hz1 := HB1.out.size
  clear hb1 x7 d0 d1 cB HS HO HV
  have hli : ((l.length : Int) == 20) = false := by simp; omega
  have hbA : Below W1.heap.size W1 (W1.alloc (.cells #[.string s, .string v] 138)).drew := ((Below.refl _ _).alloc (Nat.le_refl _) _).drew
  have cI := hid (insV_own base W1.heap.size K a5 c5 l ⟨s, v⟩ (W1.alloc (.cells #[.string s, .string v] 138)).drew (ownB_stay HO1.out hbA) hkl hl (by have := HBx.out.size; have := hbA.size; omega) (heap_alloc_new W1 _) (fun g hg => by have := (HO1.out.lt g hg).2; omega))
  have hB1 := HS1.out.lt
  clear hfn
  go_wp2
  go_region_with (first | (go_at_call 169; refine cI.out.mono ?_; rintro e W2 ⟨a', c', rfl, hO2, hg2⟩; have hne2 : ∀ g, (Value.slice a5 l.length c5).ownBlock = some g → g ≠ B := HD.out; have HS2 := hid (show StB W2 B sv fv st bg la bw bb (.slice a5 l.length c5) fa from (hg2.block B (Nat.lt_of_lt_of_le hB1 hbA.size) (fun e => hne2 B e.symm rfl)).trans (HS1.out.stay hbA)); have HO2 := hid hO2; have HG2 := hid hg2; have y7 := HS2.out.cell 7; change _ = some (Value.slice a5 l.length c5) at y7; have yf := HS2.out.frozen; clear hO2 hg2))
  all_goals go_wp2
  all_goals go_ret
  all_goals have hsv := setV_at (v := v) HF.out HKK.out
  all_goals have hC3 : Chg (fun j => j = B) W2 (W2.setCell ⟨B, 7, none⟩ (.slice a' (l.length + 1) c')) := chg_set _ B _ _
  all_goals rw [hsv]
  all_goals exact ⟨a', c', rfl, HS2.out.set 7 _, own_chg HO2.out hC3 (own_ne HO2.out HS2.out (by decide)), (((Chg.of_below HBx.out).trans (Chg.of_below hbA)).trans (Chg.of_own HG2.out (fun j h => .inr h))).trans (hC3.mono (fun j h => .inl h))⟩
end Go.Proofs.YthggcdadipjiiaaGreatDoor
