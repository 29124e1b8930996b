/-
  What slices.BinarySearchFunc answers at a row of pairs that rises by name: a contract over the seat's program.
-/
import Derived.Test.YtdggmeblnbabbaaGreatDoorZInsG3
import Derived.Test.YtdggmeblnbabbaaGreatDoorZRiseM5
import Derived.BigQuiet
import Derived.Lib.QuietBelow
import Derived.Deep.RegionHeld3
namespace Go.Proofs.YtdggmeblnbabbaaGreatDoor
open Go.RowKit Go.Sort

/-- Is the name there? -/
def fndV (l : List Pr) (t : ByteArray) : Bool := match l[kV l t]? with | some p => decide (p.fst = t) | none => false
theorem fndV_at {l : List Pr} {t : ByteArray} (h : kV l t < l.length) : fndV l t = decide (l[kV l t].fst = t) := by unfold fndV; rw [List.getElem?_eq_getElem h]
theorem fndV_end {l : List Pr} {t : ByteArray} (h : ¬ kV l t < l.length) : fndV l t = false := by unfold fndV; rw [List.getElem?_eq_none (by omega)]
theorem cmp_lo {l : List Pr} {t : ByteArray} {j : Nat} (hj : j < kV l t) (h : j < l.length) : cmpT l[j].fst t < 0 := by
  have := cmpT_lt l[j].fst t
  rw [kV_lo (List.mem_take_iff_getElem.2 ⟨j, by omega, rfl⟩)] at this
  simpa using this
theorem cmp_hi {l : List Pr} (hr : Rise l) {t : ByteArray} {j : Nat} (hj : kV l t ≤ j) (h : j < l.length) : ¬ cmpT l[j].fst t < 0 := by
  have := cmpT_lt l[j].fst t
  rw [kV_hi hr hj h] at this
  simpa using this
set_option maxRecDepth 100000 in
set_option maxHeartbeats 2000000 in
theorem srchV_row (g o c : Nat) (l : List Pr) (v : Pr) (w : World) (hE : PrsAt w g o l) (hr : Rise l) (hn : l.length ≤ 1048576) :
    Calls Tryz.prog 86 #[.slice (some ⟨g, o, none⟩) l.length c, .agg #[.string v.fst, .string v.snd], .func (.func 87) #[] #[]] w fun e w' => e = .returned (.tuple #[.int .i64 (kV l v.fst : Nat), .bool (fndV l v.fst)]) ∧ Below w.heap.size w w' := by
  have mixed : Tryz.prog.follows .mixedOrders = true := by kernel_rfl
  have hkl := kV_le l v.fst
  have HLO := hid (fun j h1 h2 => cmp_lo (l := l) (t := v.fst) (j := j) h1 h2)
  have HHI := hid (fun j h1 h2 => cmp_hi hr (t := v.fst) (j := j) h1 h2)
  have HFA := hid (fun h => fndV_at (l := l) (t := v.fst) h)
  have HFE := hid (fun h => fndV_end (l := l) (t := v.fst) h)
  have HE := hid hE
  have hbW : Below w.heap.size w (w.alloc (.cells #[.string v.fst, .string v.snd] 58)) := (Below.refl _ _).alloc (Nat.le_refl _) _
  have d0 : (w.alloc (.cells #[.string v.fst, .string v.snd] 58)).cell? ⟨w.heap.size, 0, none⟩ = some (.string v.fst) := by simp [go_sem]
  have d1 : (w.alloc (.cells #[.string v.fst, .string v.snd] 58)).cell? ⟨w.heap.size, 1, none⟩ = some (.string v.snd) := by simp [go_sem]
  have HD := hid (And.intro d0 d1)
  have hsz : (w.alloc (.cells #[.string v.fst, .string v.snd] 58)).heap.size = w.heap.size + 1 := by simp
  have HBW := hid hbW
  clear hE hr d0 d1 hbW
  generalize kV l v.fst = K at *
  generalize fndV l v.fst = F at *
  generalize v.fst = v1 at *
  generalize v.snd = v2 at *
  go_enter Tryz.func86, Tryz.ntmps86
  go_wp2
  generalize w.alloc (.cells #[.string v1, .string v2] 58) = W at *
  go_loopw [9, 10] (fun i j wr => ∃ lo hi : Nat, i = .int .i64 lo ∧ j = .int .i64 hi ∧ lo ≤ K ∧ K ≤ hi ∧ hi ≤ l.length ∧ Below (w.heap.size + 1) W wr) (fun i j _ => (intOf j).toNat - (intOf i).toNat)
  case atStart => exact ⟨0, l.length, rfl, rfl, Nat.zero_le _, hkl, Nat.le_refl _, Below.refl _ _⟩
  case round =>
    obtain ⟨lo, hi, rfl, rfl, h1, h2, h3, hb⟩ := hrel
    have HB := hid hb
    have e0 := (hb.cell (p := ⟨w.heap.size, 0, none⟩) (by show w.heap.size < _; omega)).trans HD.out.1
    have e1 := (hb.cell (p := ⟨w.heap.size, 1, none⟩) (by show w.heap.size < _; omega)).trans HD.out.2
    have hzr := hb.size
    have hBr := hid (HBW.out.trans (hb.mono (B' := w.heap.size) (by omega)))
    clear hb
    by_cases hlt : lo < hi
    · have hm : (lo + hi) / 2 < l.length := by omega
      obtain ⟨c0, c1⟩ := (HE.out.stay hBr.out (Nat.le_refl _)).2 ((lo + hi) / 2) hm
      have HL := hid (fun h => HLO.out ((lo + hi) / 2) h hm)
      have HH := hid (fun h => HHI.out ((lo + hi) / 2) h hm)
      generalize hp1 : l[(lo + hi) / 2].fst = p1 at *
      generalize hp2 : l[(lo + hi) / 2].snd = p2 at *
      clear hp1 hp2
      have dC := hid (fun W' => setCmp_any p1 p2 v1 v2 W')
      have hbd : Below wr.heap.size wr wr.drew := (Below.refl _ _).drew
      have hsz0 : w.heap.size < wr.heap.size := by omega
      have hgl := block_lt_of_cell c0
      have hi0 : (0 : Int) ≤ ((lo : Int) + (hi : Int)) / 2 := by omega
      have hi1 : ((lo : Int) + (hi : Int)) / 2 < (l.length : Int) := by omega
      have hi2 : (((lo : Int) + (hi : Int)) / 2).toNat = (lo + hi) / 2 := by omega
      by_cases hc : cmpT p1 v1 < 0
      · have hK : (lo + hi) / 2 < K := by
          rcases Nat.lt_or_ge ((lo + hi) / 2) K with h | h
          · exact h
          · have := HH.out h; omega
        clear HL HH
        generalize cmpT p1 v1 = C at *
        go_wp2
        go_region_held3 (fun w' => w'.cell? ⟨w.heap.size, 0, none⟩ = some (.string v1) ∧ w'.cell? ⟨w.heap.size, 1, none⟩ = some (.string v2) ∧ w'.cell? ⟨g, o + (lo + hi) / 2 * 2, none⟩ = some (.string p1) ∧ w'.cell? ⟨g, o + (lo + hi) / 2 * 2 + 1, none⟩ = some (.string p2)) (go_keep) (first | (go_at_call 87; refine (dC.out _).mono ?_; rintro e w1 ⟨rfl, hb1⟩; have k0 := (hb1.cell (p := ⟨w.heap.size, 0, none⟩) hsz0).trans e0; have k1 := (hb1.cell (p := ⟨w.heap.size, 1, none⟩) hsz0).trans e1; have k2 := (hb1.cell (p := ⟨g, o + (lo + hi) / 2 * 2, none⟩) hgl).trans c0; have k3 := (hb1.cell (p := ⟨g, o + (lo + hi) / 2 * 2 + 1, none⟩) hgl).trans c1))
        have HB1 := hid (HB.out.trans ((hbd.trans (hb1.mono hbd.size)).mono (B' := w.heap.size + 1) (by omega)))
        clear hb1 k0 k1 k2 k3 e0 e1 c0 c1 dC
        go_wp2
        go_roundw
        case rel => exact ⟨(lo + hi) / 2 + 1, hi, by go_num, rfl, by omega, h2, h3, HB1.out⟩
        case measure => simp [intOf]; omega
      · have hK : K ≤ (lo + hi) / 2 := by
          rcases Nat.lt_or_ge ((lo + hi) / 2) K with h | h
          · have := HL.out h; omega
          · exact h
        have hc' : 0 ≤ cmpT p1 v1 := by omega
        clear HL HH hc
        generalize cmpT p1 v1 = C at *
        go_wp2
        go_region_held3 (fun w' => w'.cell? ⟨w.heap.size, 0, none⟩ = some (.string v1) ∧ w'.cell? ⟨w.heap.size, 1, none⟩ = some (.string v2) ∧ w'.cell? ⟨g, o + (lo + hi) / 2 * 2, none⟩ = some (.string p1) ∧ w'.cell? ⟨g, o + (lo + hi) / 2 * 2 + 1, none⟩ = some (.string p2)) (go_keep) (first | (go_at_call 87; refine (dC.out _).mono ?_; rintro e w1 ⟨rfl, hb1⟩; have k0 := (hb1.cell (p := ⟨w.heap.size, 0, none⟩) hsz0).trans e0; have k1 := (hb1.cell (p := ⟨w.heap.size, 1, none⟩) hsz0).trans e1; have k2 := (hb1.cell (p := ⟨g, o + (lo + hi) / 2 * 2, none⟩) hgl).trans c0; have k3 := (hb1.cell (p := ⟨g, o + (lo + hi) / 2 * 2 + 1, none⟩) hgl).trans c1))
        have HB1 := hid (HB.out.trans ((hbd.trans (hb1.mono hbd.size)).mono (B' := w.heap.size + 1) (by omega)))
        clear hb1 k0 k1 k2 k3 e0 e1 c0 c1 dC
        go_wp2
        go_roundw
        case rel => exact ⟨lo, (lo + hi) / 2, rfl, by go_num, h1, hK, by omega, HB1.out⟩
        case measure => simp [intOf]; omega
    · obtain rfl : lo = K := by omega
      by_cases hKl : lo < l.length
      · obtain ⟨c0, c1⟩ := (HE.out.stay hBr.out (Nat.le_refl _)).2 lo hKl
        have HFx := hid (HFA.out hKl)
        generalize hp1 : l[lo].fst = p1 at *
        generalize hp2 : l[lo].snd = p2 at *
        clear hp1 hp2
        have HZ := hid (cmpT_zero (a := p1) (b := v1))
        have dC := hid (fun W' => setCmp_any p1 p2 v1 v2 W')
        have hbd : Below wr.heap.size wr wr.drew := (Below.refl _ _).drew
        have hsz0 : w.heap.size < wr.heap.size := by omega
        have hgl := block_lt_of_cell c0
        generalize cmpT p1 v1 = C at *
        go_wp2
        go_region_held3 (fun w' => w'.cell? ⟨w.heap.size, 0, none⟩ = some (.string v1) ∧ w'.cell? ⟨w.heap.size, 1, none⟩ = some (.string v2) ∧ w'.cell? ⟨g, o + lo * 2, none⟩ = some (.string p1) ∧ w'.cell? ⟨g, o + lo * 2 + 1, none⟩ = some (.string p2)) (go_keep) (first | (go_at_call 87; refine (dC.out _).mono ?_; rintro e w1 ⟨rfl, hb1⟩; have k0 := (hb1.cell (p := ⟨w.heap.size, 0, none⟩) hsz0).trans e0; have k1 := (hb1.cell (p := ⟨w.heap.size, 1, none⟩) hsz0).trans e1; have k2 := (hb1.cell (p := ⟨g, o + lo * 2, none⟩) hgl).trans c0; have k3 := (hb1.cell (p := ⟨g, o + lo * 2 + 1, none⟩) hgl).trans c1))
        have HB1 := hid (hBr.out.trans ((hbd.trans (hb1.mono hbd.size)).mono (B' := w.heap.size) (by omega)))
        clear hb1 k0 k1 k2 k3 e0 e1 c0 c1 dC
        go_wp2
        have hF : (C == 0) = F := by
          rw [HFx.out]
          by_cases h : C = 0
          · simp [h, HZ.out.1 h]
          · have h' : ¬ p1 = v1 := fun e => h (HZ.out.2 e)
            simp [h, h']
        rw [hF]
        go_ret2
        exact ⟨rfl, HB1.out⟩
      · have HFx := hid (HFE.out hKl)
        go_wp2
        refine wp_region_quiet_below mixed (by kernel_rfl) ?_
        repeat (go_big_quiet_step (fail))
        refine wpQuiet_nil ?_
        intro U hw'
        have HRq := hid (show Below wr.heap.size wr U by obtain ⟨⟨dq, osq⟩, hw''⟩ := hw'; subst hw''; exact below_regrown wr dq osq)
        clear hw' e0 e1
        go_wp2
        have hF := HFx.out
        subst hF
        go_ret2
        exact ⟨rfl, hBr.out.trans (HRq.out.mono hBr.out.size)⟩
theorem srchV_any (a : Option Addr) (c : Nat) (l : List Pr) (v : Pr) (w : World) (h : PrSl w (.slice a l.length c) l) (hr : Rise l) (hn : l.length ≤ 1048576) :
    Calls Tryz.prog 86 #[.slice a l.length c, .agg #[.string v.fst, .string v.snd], .func (.func 87) #[] #[]] w fun e w' => e = .returned (.tuple #[.int .i64 (kV l v.fst : Nat), .bool (fndV l v.fst)]) ∧ Below w.heap.size w w' := by
  rcases h with ⟨a', c', hv, rfl⟩ | ⟨g, o, c', hv, _, hP⟩
  · have hbW : Below w.heap.size w (w.alloc (.cells #[.string v.fst, .string v.snd] 58)) := (Below.refl _ _).alloc (Nat.le_refl _) _
    have HBW := hid hbW
    have mixed : Tryz.prog.follows .mixedOrders = true := by kernel_rfl
    have HF := hid (show fndV [] v.fst = false from rfl)
    have HK := hid (show kV [] v.fst = 0 from rfl)
    clear hbW
    generalize fndV [] v.fst = F at *
    generalize kV [] v.fst = K at *
    generalize v.fst = v1 at *
    generalize v.snd = v2 at *
    go_enter Tryz.func86, Tryz.ntmps86
    go_wp2
    generalize w.alloc (.cells #[.string v1, .string v2] 58) = W at *
    go_loopw [9, 10] (fun i j wr => i = .int .i64 0 ∧ j = .int .i64 0 ∧ wr = W) (fun _ _ _ => 0)
    case atStart => exact ⟨rfl, rfl, rfl⟩
    case round =>
      obtain ⟨rfl, rfl, rfl⟩ := hrel
      go_wp2
      refine wp_region_quiet_below mixed (by kernel_rfl) ?_
      repeat (go_big_quiet_step (fail))
      refine wpQuiet_nil ?_
      intro U hw'
      have HRq := hid (show Below wr.heap.size wr U by obtain ⟨⟨dq, osq⟩, hw''⟩ := hw'; subst hw''; exact below_regrown wr dq osq)
      clear hw'
      go_wp2
      go_ret2
      exact ⟨by rw [HF.out, HK.out]; rfl, HBW.out.trans (HRq.out.mono HBW.out.size)⟩
  · injection hv with h1 h2 h3
    subst h1; subst h3
    exact srchV_row g o c l v w hP hr hn
end Go.Proofs.YtdggmeblnbabbaaGreatDoor
