/-
  What spec.l03Do does where a mark is left: contracts over the seat's program. (Made by mkdo5.py.)
-/
import Derived.Test.YthggcdadipjiiaaGreatDoorZSpDo1
import Derived.Test.YthggcdadipjiiaaGreatDoorZSpDo24
import Derived.Test.YthggcdadipjiiaaGreatDoorZSpOut6
import Derived.Test.YthggcdadipjiiaaGreatDoorZKeyM3
import Derived.Deep.RegionWith
namespace Go.Proofs.YthggcdadipjiiaaGreatDoor
open Go.RowKit Go.Sort

theorem putF_le (s : ByteArray) : ∀ (fs : List Pr) (l : List ByteArray), (putF s fs l).length ≤ l.length + fs.length
  | [], l => by simp [putF]
  | f :: r, l => by
    have := putF_le s r (if f.fst = s then putT l f.snd else l)
    rw [putF]
    by_cases h : f.fst = s
    · rw [if_pos h] at this ⊢; rw [(put_perm l f.snd).length_eq] at this; simp at this ⊢; omega
    · rw [if_neg h] at this ⊢; simp at this ⊢; omega
set_option maxRecDepth 100000 in
set_option maxHeartbeats 8000000 in
theorem l03Do_leave_yes (a1 a2 a3 a4 : Option Addr) (k1 k2 k3 k4 B : Nat) (ss : List ByteArray) (fs : List Pr) (st bg la fa q t r : Int) (wt bs : List ByteArray) (v5 : Value) (s v : ByteArray) (w : World) (hS : SaB w B st bg la (.slice a3 wt.length k3) (.slice a4 bs.length k4) v5 fa) (h3 : StrSl w (.slice a3 wt.length k3) wt) (h4 : StrSl w (.slice a4 bs.length k4) bs) (n3 : wt.length ≤ maxLen) (n4 : bs.length ≤ maxLen) (b3 b4 k lo : Nat) (hO3 : w.ownsRow b3 9 1 (.slice a3 wt.length k3) wt.length (wt.map Value.string)) (hO4 : w.ownsRow b4 9 1 (.slice a4 bs.length k4) bs.length (bs.map Value.string)) (hk : k < bs.length) (hm : atI bs s = k) (m3 : wt.length ≤ 1000) (m4 : bs.length ≤ 1048576) (hP : PrSl w (.slice a2 fs.length k2) fs) (hfl : fs.length ≤ 40) (hgne : ∀ g o, a2 = some ⟨g, o, none⟩ → ¬ g = B) (hneD : ¬ w.heap.size = B) (hlo : lo ≤ b3) (hlo2 : lo ≤ w.heap.size) (hap : Apart (.slice a3 wt.length k3) (.slice a4 bs.length k4)) (hf : ¬ 40 < (putF s fs wt).length + (outT bs k).length) :
    Calls Tryz.prog 80 #[.agg #[.slice a1 ss.length k1, .slice a2 fs.length k2], .pointer (some ⟨B, 0, none⟩), .agg #[.int .i64 q, .int .i64 t, .int .i64 r, .int .i64 3, .string s, .string v]] w fun e w' => ∃ c3 e3 c4 e4, e = .returned (.int .i64 0) ∧ SaB w' B st bg t (.slice c3 (putF s fs wt).length e3) (.slice c4 (outT bs k).length e4) v5 fa ∧ w'.ownsRow lo 9 1 (.slice c3 (putF s fs wt).length e3) (putF s fs wt).length ((putF s fs wt).map Value.string) ∧ w'.ownsRow lo 9 1 (.slice c4 (outT bs k).length e4) (outT bs k).length ((outT bs k).map Value.string) ∧ Apart (.slice c3 (putF s fs wt).length e3) (.slice c4 (outT bs k).length e4) ∧ Chg (fun j => j = B) w w' := by
  have HD3 := hid (own_ne hO3 hS (by decide))
  have HO3 := hid hO3
  have HO4 := hid hO4
  have HP := hid hP
  have HA := hid hap
  clear hO3 hO4 hP hap
  have mixed : Tryz.prog.follows .mixedOrders = true := by kernel_rfl
  have hbW : Below w.heap.size w ((w.alloc (.cells #[.slice a1 ss.length k1, .slice a2 fs.length k2] 26)).alloc (.cells #[.int .i64 q, .int .i64 t, .int .i64 r, .int .i64 3, .string s, .string v] 33)) := below2 _ _ _
  have HS := hid (hS.stay hbW)
  have H3 := hid (h3.stay hbW (Nat.le_refl _))
  have H4 := hid (h4.stay hbW (Nat.le_refl _))
  have y1 : ((w.alloc (.cells #[.slice a1 ss.length k1, .slice a2 fs.length k2] 26)).alloc (.cells #[.int .i64 q, .int .i64 t, .int .i64 r, .int .i64 3, .string s, .string v] 33)).cell? ⟨w.heap.size + 1, 1, none⟩ = some (.int .i64 t) := by simp [go_sem]
  have y3 : ((w.alloc (.cells #[.slice a1 ss.length k1, .slice a2 fs.length k2] 26)).alloc (.cells #[.int .i64 q, .int .i64 t, .int .i64 r, .int .i64 3, .string s, .string v] 33)).cell? ⟨w.heap.size + 1, 3, none⟩ = some (.int .i64 3) := by simp [go_sem]
  have y4 : ((w.alloc (.cells #[.slice a1 ss.length k1, .slice a2 fs.length k2] 26)).alloc (.cells #[.int .i64 q, .int .i64 t, .int .i64 r, .int .i64 3, .string s, .string v] 33)).cell? ⟨w.heap.size + 1, 4, none⟩ = some (.string s) := by simp [go_sem]
  have HY := hid (And.intro y1 (And.intro y3 y4))
  have hne : ¬ w.heap.size + 1 = B := by have := hS.lt; omega
  have hne2 : ¬ B = w.heap.size + 1 := by omega
  have HU := hid (show ((w.alloc (.cells #[.slice a1 ss.length k1, .slice a2 fs.length k2] 26)).alloc (.cells #[.int .i64 q, .int .i64 t, .int .i64 r, .int .i64 3, .string s, .string v] 33)).cell? ⟨w.heap.size, 1, none⟩ = some (.slice a2 fs.length k2) by simp [go_sem])
  have HBW := hid hbW
  clear h3 h4 hS hbW y1 y3 y4
  go_enter Tryz.func80, Tryz.ntmps80
  go_wp2
  generalize ((w.alloc (.cells #[.slice a1 ss.length k1, .slice a2 fs.length k2] 26)).alloc (.cells #[.int .i64 q, .int .i64 t, .int .i64 r, .int .i64 3, .string s, .string v] 33)) = W at *
  have x3 := HS.out.cell 3
  have y4 := HY.out.2.2
  skip
  have x' := cell_regrown x3
  have y' := cell_regrown y4
  have d1 := fun d os => Calls.regrown_of (w := W) (d := d) (os := os) (calls_below (l03At_any _ wt s _ (H3.out.stay (below_regrown W d os) (Nat.le_refl _)) n3))
  clear x3 y4
  refine wp_region_quiet_below mixed (by kernel_rfl) ?_
  repeat (go_big_quiet_step ((go_at_call 77; exact d1 _ _)))
  refine wpQuiet_nil ?_
  intro W1 hw'
  have HR1 := hid (show Below W.heap.size W W1 by obtain ⟨⟨dq, osq⟩, hw''⟩ := hw'; subst hw''; exact below_regrown W dq osq)
  clear hw' x' y' d1
  have HS1 := hid (HS.out.stay HR1.out)
  have HU1 := hid ((HR1.out.cell (block_lt_of_cell HU.out)).trans HU.out)
  have H31 := hid (H3.out.stay HR1.out (Nat.le_refl _))
  have H41 := hid (H4.out.stay HR1.out (Nat.le_refl _))
  have HY1 := hid (show W1.cell? ⟨w.heap.size + 1, 1, none⟩ = some (.int .i64 t) ∧ W1.cell? ⟨w.heap.size + 1, 3, none⟩ = some (.int .i64 3) ∧ W1.cell? ⟨w.heap.size + 1, 4, none⟩ = some (.string s) from ⟨(HR1.out.cell (block_lt_of_cell HY.out.1)).trans HY.out.1, (HR1.out.cell (block_lt_of_cell HY.out.2.1)).trans HY.out.2.1, (HR1.out.cell (block_lt_of_cell HY.out.2.2)).trans HY.out.2.2⟩)
  have HB1 := hid (HBW.out.trans (HR1.out.mono HBW.out.size))
  have x4 := HS1.out.cell 4
  have y4 := HY1.out.2.2
  go_wp2
  have x' := cell_regrown x4
  have y' := cell_regrown y4
  have d1 := fun d os => Calls.regrown_of (w := W1) (d := d) (os := os) (calls_below (l03At_any _ bs s _ (H41.out.stay (below_regrown W1 d os) (Nat.le_refl _)) n4))
  clear x4 y4
  refine wp_region_quiet_below mixed (by kernel_rfl) ?_
  repeat (go_big_quiet_step ((go_at_call 77; exact d1 _ _)))
  refine wpQuiet_nil ?_
  intro W2 hw'
  have HR2 := hid (show Below W1.heap.size W1 W2 by obtain ⟨⟨dq, osq⟩, hw''⟩ := hw'; subst hw''; exact below_regrown W1 dq osq)
  clear hw' x' y' d1
  have HS2 := hid (HS1.out.stay HR2.out)
  have HU2 := hid ((HR2.out.cell (block_lt_of_cell HU1.out)).trans HU1.out)
  have H32 := hid (H31.out.stay HR2.out (Nat.le_refl _))
  have H42 := hid (H41.out.stay HR2.out (Nat.le_refl _))
  have HY2 := hid (show W2.cell? ⟨w.heap.size + 1, 1, none⟩ = some (.int .i64 t) ∧ W2.cell? ⟨w.heap.size + 1, 3, none⟩ = some (.int .i64 3) ∧ W2.cell? ⟨w.heap.size + 1, 4, none⟩ = some (.string s) from ⟨(HR2.out.cell (block_lt_of_cell HY1.out.1)).trans HY1.out.1, (HR2.out.cell (block_lt_of_cell HY1.out.2.1)).trans HY1.out.2.1, (HR2.out.cell (block_lt_of_cell HY1.out.2.2)).trans HY1.out.2.2⟩)
  have HB2 := hid (HB1.out.trans (HR2.out.mono HB1.out.size))
  have y1 := HY2.out.1
  have y3 := HY2.out.2.1
  have x0 : W2.cell? ⟨B, 0, none⟩ = some (.int .i64 st) := HS2.out.cell 0
  have x3 : W2.cell? ⟨B, 3, none⟩ = some (.slice a3 wt.length k3) := HS2.out.cell 3
  have x4 : W2.cell? ⟨B, 4, none⟩ = some (.slice a4 bs.length k4) := HS2.out.cell 4
  have x2 : W2.cell? ⟨B, 2, none⟩ = some (.int .i64 la) := HS2.out.cell 2
  have x6 : W2.cell? ⟨B, 6, none⟩ = some (.int .i64 fa) := HS2.out.cell 6
  have z := HS2.out.frozen
  generalize atI wt s = iw at *
  generalize atI bs s = ib at *
  subst hm
  have cO := hid (l03Out_own b4 k _ bs W2 (ownB_stay HO4.out HB2.out) hk m4)
  go_wp2_with fail
  refine cO.out.mono ?_
  rintro e W3 ⟨c4, e4, rfl, hO4', hb3⟩
  have HS3 := hid (HS2.out.stay hb3)
  have HB3 := hid (HB2.out.trans (hb3.mono HB2.out.size))
  have HY3 := hid (show W3.cell? ⟨w.heap.size + 1, 1, none⟩ = some (.int .i64 t) ∧ W3.cell? ⟨w.heap.size + 1, 4, none⟩ = some (.string s) ∧ W3.cell? ⟨w.heap.size, 1, none⟩ = some (.slice a2 fs.length k2) from ⟨(hb3.cell (block_lt_of_cell HY2.out.1)).trans HY2.out.1, (hb3.cell (block_lt_of_cell HY2.out.2.2)).trans HY2.out.2.2, (hb3.cell (block_lt_of_cell HU2.out)).trans HU2.out⟩)
  have HN := hid hO4'
  have hBl := HS2.out.lt
  have hz2 := HB2.out.size
  have hz3 := hb3.size
  clear x0 x2 x3 x4 x6 z y1 y3 cO hO4' hb3
  have x4 : W3.cell? ⟨B, 4, none⟩ = some (.slice a4 bs.length k4) := HS3.out.cell 4
  have z := HS3.out.frozen
  go_wp2
  have hC1 : Chg (fun j => j = B) W3 (W3.setCell ⟨B, 4, none⟩ (.slice c4 (outT bs k).length e4)) := chg_set W3 B 4 _
  have HSV := hid (show SaB (W3.setCell ⟨B, 4, none⟩ (.slice c4 (outT bs k).length e4)) B st bg la (.slice a3 wt.length k3) (.slice c4 (outT bs k).length e4) v5 fa from HS3.out.set 4 _)
  have HNV := hid (own_chg HN.out hC1 (fun g hg e => by have := (HN.out.lt g hg).1; omega))
  have HOV := hid (own_chg (ownB_stay HO3.out HB3.out) hC1 (fun g hg e => HD3.out g hg e))
  have HYV := hid (show (W3.setCell ⟨B, 4, none⟩ (.slice c4 (outT bs k).length e4)).cell? ⟨w.heap.size + 1, 1, none⟩ = some (.int .i64 t) ∧ (W3.setCell ⟨B, 4, none⟩ (.slice c4 (outT bs k).length e4)).cell? ⟨w.heap.size + 1, 4, none⟩ = some (.string s) ∧ (W3.setCell ⟨B, 4, none⟩ (.slice c4 (outT bs k).length e4)).cell? ⟨w.heap.size, 1, none⟩ = some (.slice a2 fs.length k2) from ⟨(hC1.cell (g := w.heap.size + 1) (o := 1) (block_lt_of_cell HY3.out.1) hne).trans HY3.out.1, (hC1.cell (g := w.heap.size + 1) (o := 4) (block_lt_of_cell HY3.out.1) hne).trans HY3.out.2.1, (hC1.cell (g := w.heap.size) (o := 1) (block_lt_of_cell HY3.out.2.2) hneD).trans HY3.out.2.2⟩)
  have HCV := hid ((Chg.of_below (p := fun j => j = B) HB3.out).trans hC1)
  have HAV := hid (show Apart (.slice a3 wt.length k3) (.slice c4 (outT bs k).length e4) from fun g hg he => by have := (HO3.out.lt g hg).2; have := (HN.out.lt g he).1; omega)
  have hzV : w.heap.size + 1 < (W3.setCell ⟨B, 4, none⟩ (.slice c4 (outT bs k).length e4)).heap.size := block_lt_of_cell HYV.out.1
  clear x4 z hC1 HS3 HY3 HN
  generalize W3.setCell ⟨B, 4, none⟩ (.slice c4 (outT bs k).length e4) = V at *
  have cap0 := HP.out.cap
  go_loopw [9] (fun i wr => ∃ (kk : Nat) (c3 : Option Addr) (e3 b : Nat), kk ≤ fs.length ∧ i = .int .i64 kk ∧ SaB wr B st bg la (.slice c3 (putF s (fs.take kk) wt).length e3) (.slice c4 (outT bs k).length e4) v5 fa ∧ wr.ownsRow b 9 1 (.slice c3 (putF s (fs.take kk) wt).length e3) (putF s (fs.take kk) wt).length ((putF s (fs.take kk) wt).map Value.string) ∧ wr.ownsRow W2.heap.size 9 1 (.slice c4 (outT bs k).length e4) (outT bs k).length ((outT bs k).map Value.string) ∧ lo ≤ b ∧ Apart (.slice c3 (putF s (fs.take kk) wt).length e3) (.slice c4 (outT bs k).length e4) ∧ Chg (fun j => j = B) V wr) (fun i _ => fs.length - (intOf i).toNat)
  case atStart => exact ⟨0, a3, k3, b3, Nat.zero_le _, rfl, HSV.out, HOV.out, HNV.out, hlo, HAV.out, Chg.refl _ _⟩
  case round =>
    obtain ⟨kk, c3, e3, b, hkk, rfl, hSr, hOr, hNr, hbl, hAr, hCr⟩ := hrel
    have HSr := hid hSr
    have HOr := hid hOr
    have HNr := hid hNr
    have HAr := hid hAr
    have HCr := hid hCr
    have u1 := (hCr.cell (g := w.heap.size) (o := 1) (block_lt_of_cell HYV.out.2.2) hneD).trans HYV.out.2.2
    have y4 := (hCr.cell (g := w.heap.size + 1) (o := 4) (block_lt_of_cell HYV.out.1) hne).trans HYV.out.2.1
    have y1 := (hCr.cell (g := w.heap.size + 1) (o := 1) (block_lt_of_cell HYV.out.1) hne).trans HYV.out.1
    have hplen := putF_le s (fs.take kk) wt
    have htk : (fs.take kk).length ≤ kk := List.length_take_le _ _
    clear hSr hOr hNr hAr hCr
    by_cases hlt : kk < fs.length
    · obtain ⟨g2, o2, rfl, hQ⟩ := HP.out.row (by omega)
      have hg2 := hgne g2 o2 rfl
      obtain ⟨f0, f1⟩ := (prs_chg (prs_chg hQ HCV.out hg2) HCr.out hg2).2 kk hlt
      have HT := hid (putF_take (s := s) hlt wt)
      clear hQ
      generalize fs[kk].fst = p1 at *
      generalize fs[kk].snd = p2 at *
      generalize hP0 : putF s (fs.take kk) wt = P at *
      clear hP0
      have q1 := cell_regrown u1
      have q4 := cell_regrown y4
      have qf := cell_regrown f0
      by_cases hps : p1 = s
      · have hpt : (p1.toList == s.toList) = true := by rw [hps]; simp
        rw [if_pos hps] at HT
        go_wp2
        refine wp_region_quiet_below mixed (by kernel_rfl) ?_
        repeat (go_big_quiet_step (fail))
        refine wpQuiet_nil ?_
        intro U hw'
        have HRq := hid (show Below wr.heap.size wr U by obtain ⟨⟨dq, osq⟩, hw''⟩ := hw'; subst hw''; exact below_regrown wr dq osq)
        have hd1 := (HRq.out.cell (block_lt_of_cell u1)).trans u1
        have hf1 := (HRq.out.cell (block_lt_of_cell f1)).trans f1
        have HSu := hid (HSr.out.stay HRq.out)
        have HOu := hid (ownB_stay HOr.out HRq.out)
        have HNu := hid (ownB_stay HNr.out HRq.out)
        have HCu := hid (HCr.out.trans (Chg.of_below HRq.out))
        have hBu := HSu.out.lt
        clear hw' q1 q4 qf u1 y4 y1 f0 f1
        have hbd : Below U.heap.size U U.drew := (Below.refl _ _).drew
        have cP := hid (l03Put_own b _ P p2 U.drew (ownB_stay HOu.out hbd) (by omega))
        have x3 : U.cell? ⟨B, 3, none⟩ = some (.slice c3 P.length e3) := HSu.out.cell 3
        go_wp2
        go_region_with (first | (go_at_call 98; refine cP.out.mono ?_; rintro e W4 ⟨c3', e3', rfl, hO3', hb4⟩; have HB4 := hid (hbd.trans (hb4.mono hbd.size)); have HS4 := hid (HSu.out.stay HB4.out); have HN4 := hid hO3'; have xx3 : W4.cell? ⟨B, 3, none⟩ = some (.slice c3 P.length e3) := HS4.out.cell 3; have zz := HS4.out.frozen; clear hO3' hb4))
        all_goals have hS5 : SaB (W4.setCell ⟨B, 3, none⟩ (.slice c3' (putT P p2).length e3')) B st bg la (.slice c3' (putT P p2).length e3') (.slice c4 (outT bs k).length e4) v5 fa := HS4.out.set 3 _
        all_goals have hC5 : Chg (fun j => j = B) W4 (W4.setCell ⟨B, 3, none⟩ (.slice c3' (putT P p2).length e3')) := chg_set _ B _ _
        all_goals have HO5 := hid (own_chg HN4.out hC5 (own_ne HN4.out HS4.out (by decide)))
        all_goals have HN5 := hid (own_chg (ownB_stay HNu.out HB4.out) hC5 (own_ne (ownB_stay HNu.out HB4.out) HS4.out (by decide)))
        all_goals have HA5 := hid (show Apart (.slice c3' (putT P p2).length e3') (.slice c4 (outT bs k).length e4) from fun g hg he => by have h1 := (HN4.out.lt g hg).1; have h2 := (HNu.out.lt g he).2; change U.heap.size ≤ g at h1; omega)
        all_goals have HC5 := hid ((HCu.out.trans (Chg.of_below HB4.out)).trans hC5)
        all_goals have HS5 := hid hS5
        all_goals have hlb : lo ≤ U.heap.size := by have := HCu.out.size; have := HCV.out.size; omega
        all_goals clear hS5 hC5 xx3 zz x3 hd1 hf1
        all_goals go_wp2
        all_goals go_roundw
        any_goals (case measure => simp [intOf]; omega)
        all_goals (exact ⟨kk + 1, c3', e3', U.heap.size, by omega, by go_num, by rw [HT.out]; exact HS5.out, by rw [HT.out]; exact HO5.out, HN5.out, hlb, by rw [HT.out]; exact HA5.out, HC5.out⟩)
      · have hpt := str_ne hps
        rw [if_neg hps] at HT
        clear hps
        go_wp2
        refine wp_region_quiet_below mixed (by kernel_rfl) ?_
        repeat (go_big_quiet_step (fail))
        refine wpQuiet_nil ?_
        intro U hw'
        have HRq := hid (show Below wr.heap.size wr U by obtain ⟨⟨dq, osq⟩, hw''⟩ := hw'; subst hw''; exact below_regrown wr dq osq)
        clear hw' q1 q4 qf u1 y4 y1 f0 f1
        go_wp2
        go_roundw
        case rel => exact ⟨kk + 1, c3, e3, b, by omega, by go_num, by rw [HT.out]; exact HSr.out.stay HRq.out, by rw [HT.out]; exact ownB_stay HOr.out HRq.out, ownB_stay HNr.out HRq.out, hbl, by rw [HT.out]; exact HAr.out, HCr.out.trans (Chg.of_below HRq.out)⟩
        case measure => simp [intOf]; omega
    · have hkf : kk = fs.length := by omega
      have HE := hid (show putF s (fs.take kk) wt = putF s fs wt by rw [hkf, List.take_of_length_le (Nat.le_refl _)])
      rw [HE.out] at HSr HOr HAr hplen
      have x3 : wr.cell? ⟨B, 3, none⟩ = some (.slice c3 (putF s fs wt).length e3) := HSr.out.cell 3
      have x4 : wr.cell? ⟨B, 4, none⟩ = some (.slice c4 (outT bs k).length e4) := HSr.out.cell 4
      have p3 := cell_regrown x3
      have p4 := cell_regrown x4
      have hol : (outT bs k).length ≤ bs.length := by unfold outT; simp; omega
      generalize hP0 : putF s fs wt = P at *
      generalize hQ0 : outT bs k = Q at *
      have HP0 := hid hP0
      have HQ0 := hid hQ0
      have hw : IntKind.i64.wrap ((P.length : Int) + (Q.length : Int)) = (P.length : Int) + (Q.length : Int) := by rw [IntKind.wrap_i64]; omega
      have hgt : decide ((40 : Int) < (P.length : Int) + (Q.length : Int)) = false := decide_eq_false (by omega)
      clear hP0 hQ0 x3 x4 hkf
      go_wp2
      refine wp_region_quiet_below mixed (by kernel_rfl) ?_
      repeat (go_big_quiet_step (fail))
      refine wpQuiet_nil ?_
      intro U hw'
      have HRq := hid (show Below wr.heap.size wr U by obtain ⟨⟨dq, osq⟩, hw''⟩ := hw'; subst hw''; exact below_regrown wr dq osq)
      have HSu := hid (HSr.out.stay HRq.out)
      have HCu := hid ((HCV.out.trans HCr.out).trans (Chg.of_below HRq.out))
      have x2 : U.cell? ⟨B, 2, none⟩ = some (.int .i64 la) := HSu.out.cell 2
      have z := HSu.out.frozen
      have yy := (HRq.out.cell (block_lt_of_cell y1)).trans y1
      clear hw' p3 p4 u1 y4 y1
      go_wp2
      go_ret
      have hC5 : Chg (fun j => j = B) U (U.setCell ⟨B, 2, none⟩ (.int .i64 t)) := chg_set _ B _ _
      have hO6 := own_chg (ownB_stay HOr.out HRq.out) hC5 (own_ne (ownB_stay HOr.out HRq.out) HSu.out (by decide))
      have hN6 := own_chg (ownB_stay HNr.out HRq.out) hC5 (own_ne (ownB_stay HNr.out HRq.out) HSu.out (by decide))
      have hp := HP0.out
      have hq := HQ0.out
      subst hp
      subst hq
      exact ⟨c3, e3, c4, e4, rfl, HSu.out.set 2 _, ownB_le hO6 hbl, ownB_le hN6 (by omega), HAr.out, HCu.out.trans hC5⟩
set_option maxRecDepth 100000 in
set_option maxHeartbeats 8000000 in
theorem l03Do_leave_full (a1 a2 a3 a4 : Option Addr) (k1 k2 k3 k4 B : Nat) (ss : List ByteArray) (fs : List Pr) (st bg la fa q t r : Int) (wt bs : List ByteArray) (v5 : Value) (s v : ByteArray) (w : World) (hS : SaB w B st bg la (.slice a3 wt.length k3) (.slice a4 bs.length k4) v5 fa) (h3 : StrSl w (.slice a3 wt.length k3) wt) (h4 : StrSl w (.slice a4 bs.length k4) bs) (n3 : wt.length ≤ maxLen) (n4 : bs.length ≤ maxLen) (b3 b4 k lo : Nat) (hO3 : w.ownsRow b3 9 1 (.slice a3 wt.length k3) wt.length (wt.map Value.string)) (hO4 : w.ownsRow b4 9 1 (.slice a4 bs.length k4) bs.length (bs.map Value.string)) (hk : k < bs.length) (hm : atI bs s = k) (m3 : wt.length ≤ 1000) (m4 : bs.length ≤ 1048576) (hP : PrSl w (.slice a2 fs.length k2) fs) (hfl : fs.length ≤ 40) (hgne : ∀ g o, a2 = some ⟨g, o, none⟩ → ¬ g = B) (hneD : ¬ w.heap.size = B) (hlo : lo ≤ b3) (hlo2 : lo ≤ w.heap.size) (hap : Apart (.slice a3 wt.length k3) (.slice a4 bs.length k4)) (hf : 40 < (putF s fs wt).length + (outT bs k).length) :
    Calls Tryz.prog 80 #[.agg #[.slice a1 ss.length k1, .slice a2 fs.length k2], .pointer (some ⟨B, 0, none⟩), .agg #[.int .i64 q, .int .i64 t, .int .i64 r, .int .i64 3, .string s, .string v]] w fun e w' => e = .returned (.int .i64 9) ∧ Chg (fun j => j = B) w w' := by
  have HD3 := hid (own_ne hO3 hS (by decide))
  have HO3 := hid hO3
  have HO4 := hid hO4
  have HP := hid hP
  have HA := hid hap
  clear hO3 hO4 hP hap
  have mixed : Tryz.prog.follows .mixedOrders = true := by kernel_rfl
  have hbW : Below w.heap.size w ((w.alloc (.cells #[.slice a1 ss.length k1, .slice a2 fs.length k2] 26)).alloc (.cells #[.int .i64 q, .int .i64 t, .int .i64 r, .int .i64 3, .string s, .string v] 33)) := below2 _ _ _
  have HS := hid (hS.stay hbW)
  have H3 := hid (h3.stay hbW (Nat.le_refl _))
  have H4 := hid (h4.stay hbW (Nat.le_refl _))
  have y1 : ((w.alloc (.cells #[.slice a1 ss.length k1, .slice a2 fs.length k2] 26)).alloc (.cells #[.int .i64 q, .int .i64 t, .int .i64 r, .int .i64 3, .string s, .string v] 33)).cell? ⟨w.heap.size + 1, 1, none⟩ = some (.int .i64 t) := by simp [go_sem]
  have y3 : ((w.alloc (.cells #[.slice a1 ss.length k1, .slice a2 fs.length k2] 26)).alloc (.cells #[.int .i64 q, .int .i64 t, .int .i64 r, .int .i64 3, .string s, .string v] 33)).cell? ⟨w.heap.size + 1, 3, none⟩ = some (.int .i64 3) := by simp [go_sem]
  have y4 : ((w.alloc (.cells #[.slice a1 ss.length k1, .slice a2 fs.length k2] 26)).alloc (.cells #[.int .i64 q, .int .i64 t, .int .i64 r, .int .i64 3, .string s, .string v] 33)).cell? ⟨w.heap.size + 1, 4, none⟩ = some (.string s) := by simp [go_sem]
  have HY := hid (And.intro y1 (And.intro y3 y4))
  have hne : ¬ w.heap.size + 1 = B := by have := hS.lt; omega
  have hne2 : ¬ B = w.heap.size + 1 := by omega
  have HU := hid (show ((w.alloc (.cells #[.slice a1 ss.length k1, .slice a2 fs.length k2] 26)).alloc (.cells #[.int .i64 q, .int .i64 t, .int .i64 r, .int .i64 3, .string s, .string v] 33)).cell? ⟨w.heap.size, 1, none⟩ = some (.slice a2 fs.length k2) by simp [go_sem])
  have HBW := hid hbW
  clear h3 h4 hS hbW y1 y3 y4
  go_enter Tryz.func80, Tryz.ntmps80
  go_wp2
  generalize ((w.alloc (.cells #[.slice a1 ss.length k1, .slice a2 fs.length k2] 26)).alloc (.cells #[.int .i64 q, .int .i64 t, .int .i64 r, .int .i64 3, .string s, .string v] 33)) = W at *
  have x3 := HS.out.cell 3
  have y4 := HY.out.2.2
  skip
  have x' := cell_regrown x3
  have y' := cell_regrown y4
  have d1 := fun d os => Calls.regrown_of (w := W) (d := d) (os := os) (calls_below (l03At_any _ wt s _ (H3.out.stay (below_regrown W d os) (Nat.le_refl _)) n3))
  clear x3 y4
  refine wp_region_quiet_below mixed (by kernel_rfl) ?_
  repeat (go_big_quiet_step ((go_at_call 77; exact d1 _ _)))
  refine wpQuiet_nil ?_
  intro W1 hw'
  have HR1 := hid (show Below W.heap.size W W1 by obtain ⟨⟨dq, osq⟩, hw''⟩ := hw'; subst hw''; exact below_regrown W dq osq)
  clear hw' x' y' d1
  have HS1 := hid (HS.out.stay HR1.out)
  have HU1 := hid ((HR1.out.cell (block_lt_of_cell HU.out)).trans HU.out)
  have H31 := hid (H3.out.stay HR1.out (Nat.le_refl _))
  have H41 := hid (H4.out.stay HR1.out (Nat.le_refl _))
  have HY1 := hid (show W1.cell? ⟨w.heap.size + 1, 1, none⟩ = some (.int .i64 t) ∧ W1.cell? ⟨w.heap.size + 1, 3, none⟩ = some (.int .i64 3) ∧ W1.cell? ⟨w.heap.size + 1, 4, none⟩ = some (.string s) from ⟨(HR1.out.cell (block_lt_of_cell HY.out.1)).trans HY.out.1, (HR1.out.cell (block_lt_of_cell HY.out.2.1)).trans HY.out.2.1, (HR1.out.cell (block_lt_of_cell HY.out.2.2)).trans HY.out.2.2⟩)
  have HB1 := hid (HBW.out.trans (HR1.out.mono HBW.out.size))
  have x4 := HS1.out.cell 4
  have y4 := HY1.out.2.2
  go_wp2
  have x' := cell_regrown x4
  have y' := cell_regrown y4
  have d1 := fun d os => Calls.regrown_of (w := W1) (d := d) (os := os) (calls_below (l03At_any _ bs s _ (H41.out.stay (below_regrown W1 d os) (Nat.le_refl _)) n4))
  clear x4 y4
  refine wp_region_quiet_below mixed (by kernel_rfl) ?_
  repeat (go_big_quiet_step ((go_at_call 77; exact d1 _ _)))
  refine wpQuiet_nil ?_
  intro W2 hw'
  have HR2 := hid (show Below W1.heap.size W1 W2 by obtain ⟨⟨dq, osq⟩, hw''⟩ := hw'; subst hw''; exact below_regrown W1 dq osq)
  clear hw' x' y' d1
  have HS2 := hid (HS1.out.stay HR2.out)
  have HU2 := hid ((HR2.out.cell (block_lt_of_cell HU1.out)).trans HU1.out)
  have H32 := hid (H31.out.stay HR2.out (Nat.le_refl _))
  have H42 := hid (H41.out.stay HR2.out (Nat.le_refl _))
  have HY2 := hid (show W2.cell? ⟨w.heap.size + 1, 1, none⟩ = some (.int .i64 t) ∧ W2.cell? ⟨w.heap.size + 1, 3, none⟩ = some (.int .i64 3) ∧ W2.cell? ⟨w.heap.size + 1, 4, none⟩ = some (.string s) from ⟨(HR2.out.cell (block_lt_of_cell HY1.out.1)).trans HY1.out.1, (HR2.out.cell (block_lt_of_cell HY1.out.2.1)).trans HY1.out.2.1, (HR2.out.cell (block_lt_of_cell HY1.out.2.2)).trans HY1.out.2.2⟩)
  have HB2 := hid (HB1.out.trans (HR2.out.mono HB1.out.size))
  have y1 := HY2.out.1
  have y3 := HY2.out.2.1
  have x0 : W2.cell? ⟨B, 0, none⟩ = some (.int .i64 st) := HS2.out.cell 0
  have x3 : W2.cell? ⟨B, 3, none⟩ = some (.slice a3 wt.length k3) := HS2.out.cell 3
  have x4 : W2.cell? ⟨B, 4, none⟩ = some (.slice a4 bs.length k4) := HS2.out.cell 4
  have x2 : W2.cell? ⟨B, 2, none⟩ = some (.int .i64 la) := HS2.out.cell 2
  have x6 : W2.cell? ⟨B, 6, none⟩ = some (.int .i64 fa) := HS2.out.cell 6
  have z := HS2.out.frozen
  generalize atI wt s = iw at *
  generalize atI bs s = ib at *
  subst hm
  have cO := hid (l03Out_own b4 k _ bs W2 (ownB_stay HO4.out HB2.out) hk m4)
  go_wp2_with fail
  refine cO.out.mono ?_
  rintro e W3 ⟨c4, e4, rfl, hO4', hb3⟩
  have HS3 := hid (HS2.out.stay hb3)
  have HB3 := hid (HB2.out.trans (hb3.mono HB2.out.size))
  have HY3 := hid (show W3.cell? ⟨w.heap.size + 1, 1, none⟩ = some (.int .i64 t) ∧ W3.cell? ⟨w.heap.size + 1, 4, none⟩ = some (.string s) ∧ W3.cell? ⟨w.heap.size, 1, none⟩ = some (.slice a2 fs.length k2) from ⟨(hb3.cell (block_lt_of_cell HY2.out.1)).trans HY2.out.1, (hb3.cell (block_lt_of_cell HY2.out.2.2)).trans HY2.out.2.2, (hb3.cell (block_lt_of_cell HU2.out)).trans HU2.out⟩)
  have HN := hid hO4'
  have hBl := HS2.out.lt
  have hz2 := HB2.out.size
  have hz3 := hb3.size
  clear x0 x2 x3 x4 x6 z y1 y3 cO hO4' hb3
  have x4 : W3.cell? ⟨B, 4, none⟩ = some (.slice a4 bs.length k4) := HS3.out.cell 4
  have z := HS3.out.frozen
  go_wp2
  have hC1 : Chg (fun j => j = B) W3 (W3.setCell ⟨B, 4, none⟩ (.slice c4 (outT bs k).length e4)) := chg_set W3 B 4 _
  have HSV := hid (show SaB (W3.setCell ⟨B, 4, none⟩ (.slice c4 (outT bs k).length e4)) B st bg la (.slice a3 wt.length k3) (.slice c4 (outT bs k).length e4) v5 fa from HS3.out.set 4 _)
  have HNV := hid (own_chg HN.out hC1 (fun g hg e => by have := (HN.out.lt g hg).1; omega))
  have HOV := hid (own_chg (ownB_stay HO3.out HB3.out) hC1 (fun g hg e => HD3.out g hg e))
  have HYV := hid (show (W3.setCell ⟨B, 4, none⟩ (.slice c4 (outT bs k).length e4)).cell? ⟨w.heap.size + 1, 1, none⟩ = some (.int .i64 t) ∧ (W3.setCell ⟨B, 4, none⟩ (.slice c4 (outT bs k).length e4)).cell? ⟨w.heap.size + 1, 4, none⟩ = some (.string s) ∧ (W3.setCell ⟨B, 4, none⟩ (.slice c4 (outT bs k).length e4)).cell? ⟨w.heap.size, 1, none⟩ = some (.slice a2 fs.length k2) from ⟨(hC1.cell (g := w.heap.size + 1) (o := 1) (block_lt_of_cell HY3.out.1) hne).trans HY3.out.1, (hC1.cell (g := w.heap.size + 1) (o := 4) (block_lt_of_cell HY3.out.1) hne).trans HY3.out.2.1, (hC1.cell (g := w.heap.size) (o := 1) (block_lt_of_cell HY3.out.2.2) hneD).trans HY3.out.2.2⟩)
  have HCV := hid ((Chg.of_below (p := fun j => j = B) HB3.out).trans hC1)
  have HAV := hid (show Apart (.slice a3 wt.length k3) (.slice c4 (outT bs k).length e4) from fun g hg he => by have := (HO3.out.lt g hg).2; have := (HN.out.lt g he).1; omega)
  have hzV : w.heap.size + 1 < (W3.setCell ⟨B, 4, none⟩ (.slice c4 (outT bs k).length e4)).heap.size := block_lt_of_cell HYV.out.1
  clear x4 z hC1 HS3 HY3 HN
  generalize W3.setCell ⟨B, 4, none⟩ (.slice c4 (outT bs k).length e4) = V at *
  have cap0 := HP.out.cap
  go_loopw [9] (fun i wr => ∃ (kk : Nat) (c3 : Option Addr) (e3 b : Nat), kk ≤ fs.length ∧ i = .int .i64 kk ∧ SaB wr B st bg la (.slice c3 (putF s (fs.take kk) wt).length e3) (.slice c4 (outT bs k).length e4) v5 fa ∧ wr.ownsRow b 9 1 (.slice c3 (putF s (fs.take kk) wt).length e3) (putF s (fs.take kk) wt).length ((putF s (fs.take kk) wt).map Value.string) ∧ wr.ownsRow W2.heap.size 9 1 (.slice c4 (outT bs k).length e4) (outT bs k).length ((outT bs k).map Value.string) ∧ lo ≤ b ∧ Apart (.slice c3 (putF s (fs.take kk) wt).length e3) (.slice c4 (outT bs k).length e4) ∧ Chg (fun j => j = B) V wr) (fun i _ => fs.length - (intOf i).toNat)
  case atStart => exact ⟨0, a3, k3, b3, Nat.zero_le _, rfl, HSV.out, HOV.out, HNV.out, hlo, HAV.out, Chg.refl _ _⟩
  case round =>
    obtain ⟨kk, c3, e3, b, hkk, rfl, hSr, hOr, hNr, hbl, hAr, hCr⟩ := hrel
    have HSr := hid hSr
    have HOr := hid hOr
    have HNr := hid hNr
    have HAr := hid hAr
    have HCr := hid hCr
    have u1 := (hCr.cell (g := w.heap.size) (o := 1) (block_lt_of_cell HYV.out.2.2) hneD).trans HYV.out.2.2
    have y4 := (hCr.cell (g := w.heap.size + 1) (o := 4) (block_lt_of_cell HYV.out.1) hne).trans HYV.out.2.1
    have y1 := (hCr.cell (g := w.heap.size + 1) (o := 1) (block_lt_of_cell HYV.out.1) hne).trans HYV.out.1
    have hplen := putF_le s (fs.take kk) wt
    have htk : (fs.take kk).length ≤ kk := List.length_take_le _ _
    clear hSr hOr hNr hAr hCr
    by_cases hlt : kk < fs.length
    · obtain ⟨g2, o2, rfl, hQ⟩ := HP.out.row (by omega)
      have hg2 := hgne g2 o2 rfl
      obtain ⟨f0, f1⟩ := (prs_chg (prs_chg hQ HCV.out hg2) HCr.out hg2).2 kk hlt
      have HT := hid (putF_take (s := s) hlt wt)
      clear hQ
      generalize fs[kk].fst = p1 at *
      generalize fs[kk].snd = p2 at *
      generalize hP0 : putF s (fs.take kk) wt = P at *
      clear hP0
      have q1 := cell_regrown u1
      have q4 := cell_regrown y4
      have qf := cell_regrown f0
      by_cases hps : p1 = s
      · have hpt : (p1.toList == s.toList) = true := by rw [hps]; simp
        rw [if_pos hps] at HT
        go_wp2
        refine wp_region_quiet_below mixed (by kernel_rfl) ?_
        repeat (go_big_quiet_step (fail))
        refine wpQuiet_nil ?_
        intro U hw'
        have HRq := hid (show Below wr.heap.size wr U by obtain ⟨⟨dq, osq⟩, hw''⟩ := hw'; subst hw''; exact below_regrown wr dq osq)
        have hd1 := (HRq.out.cell (block_lt_of_cell u1)).trans u1
        have hf1 := (HRq.out.cell (block_lt_of_cell f1)).trans f1
        have HSu := hid (HSr.out.stay HRq.out)
        have HOu := hid (ownB_stay HOr.out HRq.out)
        have HNu := hid (ownB_stay HNr.out HRq.out)
        have HCu := hid (HCr.out.trans (Chg.of_below HRq.out))
        have hBu := HSu.out.lt
        clear hw' q1 q4 qf u1 y4 y1 f0 f1
        have hbd : Below U.heap.size U U.drew := (Below.refl _ _).drew
        have cP := hid (l03Put_own b _ P p2 U.drew (ownB_stay HOu.out hbd) (by omega))
        have x3 : U.cell? ⟨B, 3, none⟩ = some (.slice c3 P.length e3) := HSu.out.cell 3
        go_wp2
        go_region_with (first | (go_at_call 98; refine cP.out.mono ?_; rintro e W4 ⟨c3', e3', rfl, hO3', hb4⟩; have HB4 := hid (hbd.trans (hb4.mono hbd.size)); have HS4 := hid (HSu.out.stay HB4.out); have HN4 := hid hO3'; have xx3 : W4.cell? ⟨B, 3, none⟩ = some (.slice c3 P.length e3) := HS4.out.cell 3; have zz := HS4.out.frozen; clear hO3' hb4))
        all_goals have hS5 : SaB (W4.setCell ⟨B, 3, none⟩ (.slice c3' (putT P p2).length e3')) B st bg la (.slice c3' (putT P p2).length e3') (.slice c4 (outT bs k).length e4) v5 fa := HS4.out.set 3 _
        all_goals have hC5 : Chg (fun j => j = B) W4 (W4.setCell ⟨B, 3, none⟩ (.slice c3' (putT P p2).length e3')) := chg_set _ B _ _
        all_goals have HO5 := hid (own_chg HN4.out hC5 (own_ne HN4.out HS4.out (by decide)))
        all_goals have HN5 := hid (own_chg (ownB_stay HNu.out HB4.out) hC5 (own_ne (ownB_stay HNu.out HB4.out) HS4.out (by decide)))
        all_goals have HA5 := hid (show Apart (.slice c3' (putT P p2).length e3') (.slice c4 (outT bs k).length e4) from fun g hg he => by have h1 := (HN4.out.lt g hg).1; have h2 := (HNu.out.lt g he).2; change U.heap.size ≤ g at h1; omega)
        all_goals have HC5 := hid ((HCu.out.trans (Chg.of_below HB4.out)).trans hC5)
        all_goals have HS5 := hid hS5
        all_goals have hlb : lo ≤ U.heap.size := by have := HCu.out.size; have := HCV.out.size; omega
        all_goals clear hS5 hC5 xx3 zz x3 hd1 hf1
        all_goals go_wp2
        all_goals go_roundw
        any_goals (case measure => simp [intOf]; omega)
        all_goals (exact ⟨kk + 1, c3', e3', U.heap.size, by omega, by go_num, by rw [HT.out]; exact HS5.out, by rw [HT.out]; exact HO5.out, HN5.out, hlb, by rw [HT.out]; exact HA5.out, HC5.out⟩)
      · have hpt := str_ne hps
        rw [if_neg hps] at HT
        clear hps
        go_wp2
        refine wp_region_quiet_below mixed (by kernel_rfl) ?_
        repeat (go_big_quiet_step (fail))
        refine wpQuiet_nil ?_
        intro U hw'
        have HRq := hid (show Below wr.heap.size wr U by obtain ⟨⟨dq, osq⟩, hw''⟩ := hw'; subst hw''; exact below_regrown wr dq osq)
        clear hw' q1 q4 qf u1 y4 y1 f0 f1
        go_wp2
        go_roundw
        case rel => exact ⟨kk + 1, c3, e3, b, by omega, by go_num, by rw [HT.out]; exact HSr.out.stay HRq.out, by rw [HT.out]; exact ownB_stay HOr.out HRq.out, ownB_stay HNr.out HRq.out, hbl, by rw [HT.out]; exact HAr.out, HCr.out.trans (Chg.of_below HRq.out)⟩
        case measure => simp [intOf]; omega
    · have hkf : kk = fs.length := by omega
      have HE := hid (show putF s (fs.take kk) wt = putF s fs wt by rw [hkf, List.take_of_length_le (Nat.le_refl _)])
      rw [HE.out] at HSr HOr HAr hplen
      have x3 : wr.cell? ⟨B, 3, none⟩ = some (.slice c3 (putF s fs wt).length e3) := HSr.out.cell 3
      have x4 : wr.cell? ⟨B, 4, none⟩ = some (.slice c4 (outT bs k).length e4) := HSr.out.cell 4
      have p3 := cell_regrown x3
      have p4 := cell_regrown x4
      have hol : (outT bs k).length ≤ bs.length := by unfold outT; simp; omega
      generalize hP0 : putF s fs wt = P at *
      generalize hQ0 : outT bs k = Q at *
      have HP0 := hid hP0
      have HQ0 := hid hQ0
      have hw : IntKind.i64.wrap ((P.length : Int) + (Q.length : Int)) = (P.length : Int) + (Q.length : Int) := by rw [IntKind.wrap_i64]; omega
      have hgt : decide ((40 : Int) < (P.length : Int) + (Q.length : Int)) = true := decide_eq_true (by omega)
      clear hP0 hQ0 x3 x4 hkf
      go_wp2
      refine wp_region_quiet_below mixed (by kernel_rfl) ?_
      repeat (go_big_quiet_step (fail))
      refine wpQuiet_nil ?_
      intro U hw'
      have HRq := hid (show Below wr.heap.size wr U by obtain ⟨⟨dq, osq⟩, hw''⟩ := hw'; subst hw''; exact below_regrown wr dq osq)
      have HSu := hid (HSr.out.stay HRq.out)
      have HCu := hid ((HCV.out.trans HCr.out).trans (Chg.of_below HRq.out))
      have x2 : U.cell? ⟨B, 2, none⟩ = some (.int .i64 la) := HSu.out.cell 2
      have z := HSu.out.frozen
      have yy := (HRq.out.cell (block_lt_of_cell y1)).trans y1
      clear hw' p3 p4 u1 y4 y1
      go_wp2
      go_ret
      exact ⟨rfl, HCu.out⟩
end Go.Proofs.YthggcdadipjiiaaGreatDoor
