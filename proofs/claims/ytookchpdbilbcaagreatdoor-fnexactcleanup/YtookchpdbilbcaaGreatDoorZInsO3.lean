/-
 Texts put together: InsO, Cmp, SrchV.
-/
import Derived.Test.YtookchpdbilbcaaGreatDoorZInsV2
import Derived.Test.YtookchpdbilbcaaGreatDoorZRunM3
import Derived.Lib.Bytealg
import Derived.Test.YtookchpdbilbcaaGreatDoorZRiseM3
import Derived.BigQuiet
import Derived.Lib.QuietBelow
import Derived.Deep.RegionHeld3
set_option maxRecDepth 100000
set_option maxHeartbeats 2000000
/-
 What slices.Insert does at every row of pairs of one's own: a contract over the seat's program.
-/
namespace Go.Proofs.YtookchpdbilbcaaGreatDoor
open Go.RowKit Go.Sort
theorem ZIi (base vb : Nat) (a : Option Addr) (c : Nat) (l : List Pr) (v : Pr) (w : World) (h : w.ownsRow base 143 2 (.slice a l.length c) l.length (l.flatMap Pr.cells)) (hn : l.length ≤ 1000) (hb : base ≤ w.heap.size) (hv : w.heap[vb]? = some (.cells #[.string v.fst, .string v.snd] 143 (0, 0))) :
  Calls Tryz.prog 154 #[.slice a l.length c, .int .i64 l.length, .slice (some ⟨vb, 0, none⟩) 1 1] w fun e w' => ∃ a' c', e = .returned (.slice a' (l.length + 1) c') ∧ w'.ownsRow base 143 2 (.slice a' (l.length + 1) c') (l.length + 1) (l.flatMap Pr.cells ++ v.cells) ∧ w.grownBy w' (Value.slice a l.length c).ownBlock := by
 obtain ⟨j0, hj, hj0, hj1, hj2⟩ := info_parts Tryz.infoVar
 have HO := hid h
 have HSv := hid (show ∀ j u, v.cells[j]? = some u → w.cell? ((⟨vb, 0, none⟩ : Addr).add j) = some u from fun j u hj => by
  rw [Addr.add_lit, Nat.zero_add, Lib.cell_of_heap hv]
  simpa [Pr.cells] using hj)
 have H1v := hid (show ∀ u ∈ v.cells, u.oneCell' = true from fun u hu => ZAq [v] u (by simpa using hu))
 have key : ∀ P : Prop, P → P := fun _ h => h
 rcases h.2 with ⟨hv0, h0⟩ | ⟨g, cap, cur, hv0, _, _, hle, hcm, _⟩
 ·injection hv0 with e1 _ e3
  subst e1; subst e3
  have hl : l = [] := List.eq_nil_of_length_eq_zero h0
  subst hl
  clear h hv h0 key
  go_enter Tryz.func154, Tryz.ntmps154
  go_wp2_with (first | (at_builtin; refine wpList_append_own _ rfl _ _ 79 rfl base 143 j0 _ 2 32 Tryz.underlying79 hj hj0 hj1 hj2 rfl (by decide) _ _ _ rfl HO.out ⟨vb, 0, none⟩ 1 1 v.cells rfl rfl HSv.out H1v.out ?c3 ?c4 hb ?_) | fail)
  case c3 => unfold maxLen; simp
  case c4 => simp
  intro v1 w1 ho1 hg1 _
  obtain ⟨a', c', rfl⟩ := ZAD ho1
  have HO1 := hid ho1
  have HG1 := hid hg1
  clear ho1 hg1
  go_wp2
  go_ret
  exact ⟨a', c', rfl, HO1.out, HG1.out⟩
 ·injection hv0 with e1 _ e3
  subst e1; subst e3
  clear h hv key
  unfold maxLen at hcm
  by_cases hcl : c = l.length
  ·subst hcl
   go_enter Tryz.func154, Tryz.ntmps154
   go_wp2_with (first | (at_builtin; refine wpList_append_own _ rfl _ _ 79 rfl base 143 j0 _ 2 32 Tryz.underlying79 hj hj0 hj1 hj2 rfl (by decide) _ _ _ rfl HO.out ⟨vb, 0, none⟩ 1 1 v.cells rfl rfl HSv.out H1v.out ?c3 ?c4 hb ?_) | fail)
   case c3 => unfold maxLen; omega
   case c4 => omega
   intro v1 w1 ho1 hg1 _
   obtain ⟨a', c', rfl⟩ := ZAD ho1
   have HO1 := hid ho1
   have HG1 := hid hg1
   clear ho1 hg1
   go_wp2
   go_ret
   exact ⟨a', c', rfl, HO1.out, HG1.out⟩
  ·go_enter Tryz.func154, Tryz.ntmps154
   go_wp2_with (first | (at_builtin; refine wpList_append_own _ rfl _ _ 79 rfl base 143 j0 _ 2 32 Tryz.underlying79 hj hj0 hj1 hj2 rfl (by decide) _ _ _ rfl HO.out ⟨vb, 0, none⟩ 1 1 v.cells rfl rfl HSv.out H1v.out ?c3 ?c4 hb ?_) | fail)
   case c3 => unfold maxLen; omega
   case c4 => omega
   intro v1 w1 ho1 hg1 _
   obtain ⟨a', c', rfl⟩ := ZAD ho1
   have HO1 := hid ho1
   have HG1 := hid hg1
   clear ho1 hg1
   go_wp2
   go_ret
   exact ⟨a', c', rfl, HO1.out, HG1.out⟩
/-- Wherever it is put in. -/
theorem ZJT (base vb k : Nat) (a : Option Addr) (c : Nat) (l : List Pr) (v : Pr) (w : World) (h : w.ownsRow base 143 2 (.slice a l.length c) l.length (l.flatMap Pr.cells)) (hk : k ≤ l.length) (hn : l.length ≤ 1000) (hb : base ≤ w.heap.size) (hv : w.heap[vb]? = some (.cells #[.string v.fst, .string v.snd] 143 (0, 0))) (hne : ∀ g, (Value.slice a l.length c).ownBlock = some g → vb ≠ g) :
  Calls Tryz.prog 154 #[.slice a l.length c, .int .i64 k, .slice (some ⟨vb, 0, none⟩) 1 1] w fun e w' => ∃ a' c', e = .returned (.slice a' (l.length + 1) c') ∧ w'.ownsRow base 143 2 (.slice a' (l.length + 1) c') (l.length + 1) ((l.take k ++ [v] ++ l.drop k).flatMap Pr.cells) ∧ w.grownBy w' (Value.slice a l.length c).ownBlock := by
 by_cases hkl : k = l.length
 ·subst hkl
  refine (ZIi base vb a c l v w h hn hb hv).mono ?_
  rintro e w' ⟨a', c', he, ho, hg⟩
  refine ⟨a', c', he, ?_, hg⟩
  have : (l.take l.length ++ [v] ++ l.drop l.length).flatMap Pr.cells = l.flatMap Pr.cells ++ v.cells := by simp
  rw [this]; exact ho
 ·rcases h.2 with ⟨hv0, h0⟩ | ⟨g, cap, cur, hv0, hbg, hh, hle, hcm, hcs, hct⟩
  ·omega
  ·injection hv0 with e1 _ e3
   subst e1; subst e3
   have hh' : w.heap[g]? = some (.cells cur.toList.toArray 143 (0, 0)) := by simpa using hh
   by_cases hr : l.length + 1 ≤ c
   ·refine (ZG2 g c k vb cur.toList l v w (by omega) hr hcm hh' (by simpa using hcs) hct hv (hne g rfl)).mono ?_
    rintro e w' ⟨he, ⟨cur', h1, h2, h3⟩, hg⟩
    refine ⟨_, _, he, ⟨?_, .inr ⟨g, c, cur'.toArray, rfl, hbg, h1, hr, hcm, by simpa using h2, by simpa using h3⟩⟩, hg⟩
    rw [ZAQ]; simp; omega
   ·refine (ZIJ g c k vb cur.toList l v w (by omega) (by omega) hle hn hh' hct hv).mono ?_
    rintro e w' ⟨G, he, ho, hb'⟩
    exact ⟨_, _, he, ZAI ho hb, ZAP hb'⟩
end Go.Proofs.YtookchpdbilbcaaGreatDoor
/-
 What strings.Compare and the closure of impl.stand's method set answer: contracts over the seat's program.
-/
namespace Go.Proofs.YtookchpdbilbcaaGreatDoor
open Go.RowKit Go.Lib
theorem ZGM : ∀ a b : List UInt8, decide (compareBytes a b < 0) = Op.bytesLess a b
 | [], [] => rfl
 | [], _ :: _ => rfl
 | _ :: _, [] => rfl
 | x :: a, y :: b => by
  have ih := ZGM a b
  unfold compareBytes Op.bytesLess
  by_cases h1 : x < y
  ·simp [h1]
  ·by_cases h2 : y < x
   ·have : ¬ x = y := fun e => by subst e; exact h1 h2
    simp [h1, h2, this]
   ·have : x = y := UInt8.le_antisymm (UInt8.not_lt.1 h2) (UInt8.not_lt.1 h1)
    subst this
    simp [h1, ih]
theorem ZF8 : ∀ a b : List UInt8, compareBytes a b = 0 ↔ a = b
 | [], [] => by simp [compareBytes]
 | [], _ :: _ => by simp [compareBytes]
 | _ :: _, [] => by simp [compareBytes]
 | x :: a, y :: b => by
  have ih := ZF8 a b
  unfold compareBytes
  by_cases h1 : x < y
  ·have : ¬ x = y := fun e => by subst e; exact UInt8.lt_irrefl _ h1
   simp [h1, this]
  ·by_cases h2 : y < x
   ·have : ¬ x = y := fun e => by subst e; exact h1 h2
    simp [h1, h2, this]
   ·have : x = y := UInt8.le_antisymm (UInt8.not_lt.1 h2) (UInt8.not_lt.1 h1)
    subst this
    simp [h1, ih]
/-- The order of two texts, as a number. -/
def cmpT (a b : ByteArray) : Int := compareBytes a.data.toList b.data.toList
theorem ZHk (a b : ByteArray) : decide (cmpT a b < 0) = lt a b := by
 unfold cmpT lt
 rw [ZGM, ByteArray.toList_eq, ByteArray.toList_eq]
theorem ZHj {a b : ByteArray} : cmpT a b = 0 ↔ a = b := by
 unfold cmpT
 rw [ZF8]
 exact ⟨fun h => ByteArray.ext (Array.toList_inj.1 h), fun h => by rw [h]⟩
theorem ZB0 (a b : ByteArray) (w : World) :
  Calls Tryz.prog 165 #[.string a, .string b] w fun e w' => e = .returned (.int .i64 (cmpT a b)) ∧ w' = w := by
 have h1 := @run_callFunc_extern Tryz.prog 171 _ Extern.BytealgCompare.compare Tryz.func171 (by kernel_rfl) (by kernel_rfl) (by kernel_rfl) (by kernel_rfl)
 have hx : ∀ w, (callFunc 171 #[.string a, .string b]).run Tryz.prog w = .ok (.value (.int .i64 (cmpT a b))) w := fun w => by
  rw [h1, run_compareString]; rfl
 clear h1
 generalize cmpT a b = C at *
 go_enter Tryz.func165, Tryz.ntmps165
 go_wp2_with (simp only [hx])
 go_ret
 exact ⟨rfl, rfl⟩
theorem ZFc (a b : ByteArray) (w : World) :
  Calls Tryz.prog 153 #[.string a, .string b] w fun e w' => e = .returned (.int .i64 (cmpT a b)) ∧ w' = w := by
 have c1 := ZB0 a b
 generalize cmpT a b = C at *
 go_enter Tryz.func153, Tryz.ntmps153
 go_wp2_with (go_at_call 165; refine (c1 _).mono ?_; rintro e w1 ⟨rfl, rfl⟩)
 go_ret
 exact ⟨rfl, rfl⟩
theorem ZDq (a1 a2 b1 b2 : ByteArray) (w : World) :
  Calls Tryz.prog 152 #[.agg #[.string a1, .string a2], .agg #[.string b1, .string b2]] w fun e w' => e = .returned (.int .i64 (cmpT a1 b1)) ∧ Below w.heap.size w w' := by
 have c1 := ZFc a1 b1
 generalize cmpT a1 b1 = C at *
 go_enter Tryz.func152, Tryz.ntmps152
 go_wp2_with (go_at_call 153; refine (c1 _).mono ?_; rintro e w1 ⟨rfl, rfl⟩)
 go_ret
 exact ⟨rfl, ((bR _ _).alloc nL _).alloc (by simp) _⟩
end Go.Proofs.YtookchpdbilbcaaGreatDoor
/-
 What slices.BinarySearchFunc answers at a row of pairs that rises by name: a contract over the seat's program.
-/
namespace Go.Proofs.YtookchpdbilbcaaGreatDoor
open Go.RowKit Go.Sort
/-- Is the name there? -/
def fndV (l : List Pr) (t : ByteArray) : Bool := match l[kV l t]? with | some p => decide (p.fst = t) | none => false
theorem ZFo {l : List Pr} {t : ByteArray} (h : kV l t < l.length) : fndV l t = decide (l[kV l t].fst = t) := by unfold fndV; rw [List.getElem?_eq_getElem h]
theorem ZGK {l : List Pr} {t : ByteArray} (h : ¬ kV l t < l.length) : fndV l t = false := by unfold fndV; rw [List.getElem?_eq_none (by omega)]
theorem cmp_lo {l : List Pr} {t : ByteArray} {j : Nat} (hj : j < kV l t) (h : j < l.length) : cmpT l[j].fst t < 0 := by
 have := ZHk l[j].fst t
 rw [kV_lo (List.mem_take_iff_getElem.2 ⟨j, by omega, rfl⟩)] at this
 simpa using this
theorem cmp_hi {l : List Pr} (hr : Rise l) {t : ByteArray} {j : Nat} (hj : kV l t ≤ j) (h : j < l.length) : ¬ cmpT l[j].fst t < 0 := by
 have := ZHk l[j].fst t
 rw [kV_hi hr hj h] at this
 simpa using this
theorem ZHX (g o c : Nat) (l : List Pr) (v : Pr) (w : World) (hE : PrsAt w g o l) (hr : Rise l) (hn : l.length ≤ 1048576) :
  Calls Tryz.prog 151 #[.slice (some ⟨g, o, none⟩) l.length c, .agg #[.string v.fst, .string v.snd], .func (.func 152) #[] #[]] w fun e w' => e = .returned (.tuple #[.int .i64 (kV l v.fst : Nat), .bool (fndV l v.fst)]) ∧ Below w.heap.size w w' := by
 have mixed : Tryz.prog.follows .mixedOrders = true := by kernel_rfl
 have hkl := ZID l v.fst
 have HLO := hid (fun j h1 h2 => cmp_lo (l := l) (t := v.fst) (j := j) h1 h2)
 have HHI := hid (fun j h1 h2 => cmp_hi hr (t := v.fst) (j := j) h1 h2)
 have HFA := hid (fun h => ZFo (l := l) (t := v.fst) h)
 have HFE := hid (fun h => ZGK (l := l) (t := v.fst) h)
 have HE := hid hE
 have hbW : Below w.heap.size w (w.alloc (.cells #[.string v.fst, .string v.snd] 143)) := (bR _ _).alloc nL _
 have d0 : (w.alloc (.cells #[.string v.fst, .string v.snd] 143)).cell? ⟨w.heap.size, 0, none⟩ = some (.string v.fst) := by simp [go_sem]
 have d1 : (w.alloc (.cells #[.string v.fst, .string v.snd] 143)).cell? ⟨w.heap.size, 1, none⟩ = some (.string v.snd) := by simp [go_sem]
 have HD := hid (And.intro d0 d1)
 have hsz : (w.alloc (.cells #[.string v.fst, .string v.snd] 143)).heap.size = w.heap.size + 1 := by simp
 have HBW := hid hbW
 clear hE hr d0 d1 hbW
 generalize kV l v.fst = K at *
 generalize fndV l v.fst = F at *
 generalize v.fst = v1 at *
 generalize v.snd = v2 at *
 go_enter Tryz.func151, Tryz.ntmps151
 go_wp2
 generalize w.alloc (.cells #[.string v1, .string v2] 143) = W at *
 go_loopw [9, 10] (fun i j wr => ∃ lo hi : Nat, i = .int .i64 lo ∧ j = .int .i64 hi ∧ lo ≤ K ∧ K ≤ hi ∧ hi ≤ l.length ∧ Below (w.heap.size + 1) W wr) (fun i j _ => (intOf j).toNat - (intOf i).toNat)
 case atStart => exact ⟨0, l.length, rfl, rfl, Nat.zero_le _, hkl, Nat.le_refl _, Below.refl _ _⟩
 case round =>
  obtain ⟨lo, hi, rfl, rfl, h1, h2, h3, hb⟩ := hrel
  have HB := hid hb
  have e0 := (hb.cell (p := ⟨w.heap.size, 0, none⟩) (by show w.heap.size < _; omega)).trans HD.out.1
  have e1 := (hb.cell (p := ⟨w.heap.size, 1, none⟩) (by show w.heap.size < _; omega)).trans HD.out.2
  have hzr := hb.size
  have hBr := hid (HBW.out.trans (hb.mono (B' := w.heap.size) (by omega)))
  clear hb
  by_cases hlt : lo < hi
  ·have hm : (lo + hi) / 2 < l.length := by omega
   obtain ⟨c0, c1⟩ := (HE.out.stay hBr.out nL).2 ((lo + hi) / 2) hm
   have HL := hid (fun h => HLO.out ((lo + hi) / 2) h hm)
   have HH := hid (fun h => HHI.out ((lo + hi) / 2) h hm)
   generalize hp1 : l[(lo + hi) / 2].fst = p1 at *
   generalize hp2 : l[(lo + hi) / 2].snd = p2 at *
   clear hp1 hp2
   have dC := hid (fun W' => ZDq p1 p2 v1 v2 W')
   have hbd : Below wr.heap.size wr wr.drew := (bR _ _).drew
   have hsz0 : w.heap.size < wr.heap.size := by omega
   have hgl := block_lt_of_cell c0
   have hi0 : (0 : Int) ≤ ((lo : Int) + (hi : Int)) / 2 := by omega
   have hi1 : ((lo : Int) + (hi : Int)) / 2 < (l.length : Int) := by omega
   have hi2 : (((lo : Int) + (hi : Int)) / 2).toNat = (lo + hi) / 2 := by omega
   by_cases hc : cmpT p1 v1 < 0
   ·have hK : (lo + hi) / 2 < K := by
     rcases Nat.lt_or_ge ((lo + hi) / 2) K with h | h
     ·exact h
     ·have := HH.out h; omega
    clear HL HH
    generalize cmpT p1 v1 = C at *
    go_wp2
    go_region_held3 (fun w' => w'.cell? ⟨w.heap.size, 0, none⟩ = some (.string v1) ∧ w'.cell? ⟨w.heap.size, 1, none⟩ = some (.string v2) ∧ w'.cell? ⟨g, o + (lo + hi) / 2 * 2, none⟩ = some (.string p1) ∧ w'.cell? ⟨g, o + (lo + hi) / 2 * 2 + 1, none⟩ = some (.string p2)) (go_keep) (first | (go_at_call 152; refine (dC.out _).mono ?_; rintro e w1 ⟨rfl, hb1⟩; have k0 := (hb1.cell (p := ⟨w.heap.size, 0, none⟩) hsz0).trans e0; have k1 := (hb1.cell (p := ⟨w.heap.size, 1, none⟩) hsz0).trans e1; have k2 := (hb1.cell (p := ⟨g, o + (lo + hi) / 2 * 2, none⟩) hgl).trans c0; have k3 := (hb1.cell (p := ⟨g, o + (lo + hi) / 2 * 2 + 1, none⟩) hgl).trans c1))
    have HB1 := hid (HB.out.trans ((hbd.trans (hb1.mono hbd.size)).mono (B' := w.heap.size + 1) (by omega)))
    clear hb1 k0 k1 k2 k3 e0 e1 c0 c1 dC
    go_wp2
    go_roundw
    case rel => exact ⟨(lo + hi) / 2 + 1, hi, by go_num, rfl, by omega, h2, h3, HB1.out⟩
    case measure => simp [intOf]; omega
   ·have hK : K ≤ (lo + hi) / 2 := by
     rcases Nat.lt_or_ge ((lo + hi) / 2) K with h | h
     ·have := HL.out h; omega
     ·exact h
    have hc' : 0 ≤ cmpT p1 v1 := by omega
    clear HL HH hc
    generalize cmpT p1 v1 = C at *
    go_wp2
    go_region_held3 (fun w' => w'.cell? ⟨w.heap.size, 0, none⟩ = some (.string v1) ∧ w'.cell? ⟨w.heap.size, 1, none⟩ = some (.string v2) ∧ w'.cell? ⟨g, o + (lo + hi) / 2 * 2, none⟩ = some (.string p1) ∧ w'.cell? ⟨g, o + (lo + hi) / 2 * 2 + 1, none⟩ = some (.string p2)) (go_keep) (first | (go_at_call 152; refine (dC.out _).mono ?_; rintro e w1 ⟨rfl, hb1⟩; have k0 := (hb1.cell (p := ⟨w.heap.size, 0, none⟩) hsz0).trans e0; have k1 := (hb1.cell (p := ⟨w.heap.size, 1, none⟩) hsz0).trans e1; have k2 := (hb1.cell (p := ⟨g, o + (lo + hi) / 2 * 2, none⟩) hgl).trans c0; have k3 := (hb1.cell (p := ⟨g, o + (lo + hi) / 2 * 2 + 1, none⟩) hgl).trans c1))
    have HB1 := hid (HB.out.trans ((hbd.trans (hb1.mono hbd.size)).mono (B' := w.heap.size + 1) (by omega)))
    clear hb1 k0 k1 k2 k3 e0 e1 c0 c1 dC
    go_wp2
    go_roundw
    case rel => exact ⟨lo, (lo + hi) / 2, rfl, by go_num, h1, hK, by omega, HB1.out⟩
    case measure => simp [intOf]; omega
  ·obtain rfl : lo = K := by omega
   by_cases hKl : lo < l.length
   ·obtain ⟨c0, c1⟩ := (HE.out.stay hBr.out nL).2 lo hKl
    have HFx := hid (HFA.out hKl)
    generalize hp1 : l[lo].fst = p1 at *
    generalize hp2 : l[lo].snd = p2 at *
    clear hp1 hp2
    have HZ := hid (ZHj (a := p1) (b := v1))
    have dC := hid (fun W' => ZDq p1 p2 v1 v2 W')
    have hbd : Below wr.heap.size wr wr.drew := (bR _ _).drew
    have hsz0 : w.heap.size < wr.heap.size := by omega
    have hgl := block_lt_of_cell c0
    generalize cmpT p1 v1 = C at *
    go_wp2
    go_region_held3 (fun w' => w'.cell? ⟨w.heap.size, 0, none⟩ = some (.string v1) ∧ w'.cell? ⟨w.heap.size, 1, none⟩ = some (.string v2) ∧ w'.cell? ⟨g, o + lo * 2, none⟩ = some (.string p1) ∧ w'.cell? ⟨g, o + lo * 2 + 1, none⟩ = some (.string p2)) (go_keep) (first | (go_at_call 152; refine (dC.out _).mono ?_; rintro e w1 ⟨rfl, hb1⟩; have k0 := (hb1.cell (p := ⟨w.heap.size, 0, none⟩) hsz0).trans e0; have k1 := (hb1.cell (p := ⟨w.heap.size, 1, none⟩) hsz0).trans e1; have k2 := (hb1.cell (p := ⟨g, o + lo * 2, none⟩) hgl).trans c0; have k3 := (hb1.cell (p := ⟨g, o + lo * 2 + 1, none⟩) hgl).trans c1))
    have HB1 := hid (hBr.out.trans ((hbd.trans (hb1.mono hbd.size)).mono (B' := w.heap.size) (by omega)))
    clear hb1 k0 k1 k2 k3 e0 e1 c0 c1 dC
    go_wp2
    have hF : (C == 0) = F := by
     rw [HFx.out]
     by_cases h : C = 0
     ·simp [h, HZ.out.1 h]
     ·have h' : ¬ p1 = v1 := fun e => h (HZ.out.2 e)
      simp [h, h']
    rw [hF]
    go_ret2
    exact ⟨rfl, HB1.out⟩
   ·have HFx := hid (HFE.out hKl)
    go_wp2
    refine wp_region_quiet_below mixed (by kernel_rfl) ?_
    repeat (go_big_quiet_step (fail))
    refine wpQuiet_nil ?_
    intro U hw'
    have HRq := hid (show Below wr.heap.size wr U by obtain ⟨⟨dq, osq⟩, hw''⟩ := hw'; subst hw''; exact below_regrown wr dq osq)
    clear hw' e0 e1
    go_wp2
    have hF := HFx.out
    subst hF
    go_ret2
    exact ⟨rfl, hBr.out.trans (HRq.out.mono hBr.out.size)⟩
theorem ZDG (a : Option Addr) (c : Nat) (l : List Pr) (v : Pr) (w : World) (h : PrSl w (.slice a l.length c) l) (hr : Rise l) (hn : l.length ≤ 1048576) :
  Calls Tryz.prog 151 #[.slice a l.length c, .agg #[.string v.fst, .string v.snd], .func (.func 152) #[] #[]] w fun e w' => e = .returned (.tuple #[.int .i64 (kV l v.fst : Nat), .bool (fndV l v.fst)]) ∧ Below w.heap.size w w' := by
 rcases h with ⟨a', c', hv, rfl⟩ | ⟨g, o, c', hv, _, hP⟩
 ·have hbW : Below w.heap.size w (w.alloc (.cells #[.string v.fst, .string v.snd] 143)) := (bR _ _).alloc nL _
  have HBW := hid hbW
  have mixed : Tryz.prog.follows .mixedOrders = true := by kernel_rfl
  have HF := hid (show fndV [] v.fst = false from rfl)
  have HK := hid (show kV [] v.fst = 0 from rfl)
  clear hbW
  generalize fndV [] v.fst = F at *
  generalize kV [] v.fst = K at *
  generalize v.fst = v1 at *
  generalize v.snd = v2 at *
  go_enter Tryz.func151, Tryz.ntmps151
  go_wp2
  generalize w.alloc (.cells #[.string v1, .string v2] 143) = W at *
  go_loopw [9, 10] (fun i j wr => i = .int .i64 0 ∧ j = .int .i64 0 ∧ wr = W) (fun _ _ _ => 0)
  case atStart => exact ⟨rfl, rfl, rfl⟩
  case round =>
   obtain ⟨rfl, rfl, rfl⟩ := hrel
   go_wp2
   refine wp_region_quiet_below mixed (by kernel_rfl) ?_
   repeat (go_big_quiet_step (fail))
   refine wpQuiet_nil ?_
   intro U hw'
   have HRq := hid (show Below wr.heap.size wr U by obtain ⟨⟨dq, osq⟩, hw''⟩ := hw'; subst hw''; exact below_regrown wr dq osq)
   clear hw'
   go_wp2
   go_ret2
   exact ⟨by rw [HF.out, HK.out]; rfl, HBW.out.trans (HRq.out.mono HBW.out.size)⟩
 ·injection hv with h1 h2 h3
  subst h1; subst h3
  exact ZHX g o c l v w hP hr hn
end Go.Proofs.YtookchpdbilbcaaGreatDoor
