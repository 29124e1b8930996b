/-
  Texts put together: SpHist, ImMm, ImDuO.
-/
import Derived.Test.YthggcdadipjiiaaGreatDoorZSpStA5
import Derived.Test.YthggcdadipjiiaaGreatDoorZSpRuns2
import Derived.Test.YthggcdadipjiiaaGreatDoorZSpRun6
import Derived.Test.YthggcdadipjiiaaGreatDoorZSpOf
import Derived.Deep.RegionHeld3
import Derived.Test.YthggcdadipjiiaaGreatDoorZNm4
import Derived.Test.YthggcdadipjiiaaGreatDoorZDuE3
import Derived.OwnWalk
import Derived.Test.YthggcdadipjiiaaGreatDoorZShStr5
import Derived.Test.YthggcdadipjiiaaGreatDoorZDuG2
import Derived.Test.YthggcdadipjiiaaGreatDoorZSpSet24
/-
  What spec.l04Right and spec.HistoryRight answer: contracts over the seat's program.
-/
namespace Go.Proofs.YthggcdadipjiiaaGreatDoor
open Go.RowKit Go.Sort Go.Shelf

theorem histP_all {ss : List ByteArray} {fs : List Pr} {es : List Ev} (h : HistP ss fs es) : allB es = true := allB_yes (fun _ hj => h.ev _ (List.getElem_mem hj))
set_option maxRecDepth 100000 in
set_option maxHeartbeats 4000000 in
theorem l04Right_any (a1 a2 a6 : Option Addr) (k1 k2 k6 : Nat) (ss : List ByteArray) (fs : List Pr) (es : List Ev) (w : World) (hD : DefSl w a1 a2 k1 k2 ss fs) (hE : EvSl w (.slice a6 es.length k6) es) (D : DefP ss fs) (FE : Fit es) (n6 : es.length ≤ maxLen) :
    Calls Tryz.prog 70 #[defV a1 a2 k1 k2 ss fs, .slice a6 es.length k6] w fun x w' => RetB x (HistP ss fs es) ∧ Below w.heap.size w w' := by
  have hbW : Below w.heap.size w (w.alloc (.cells #[.slice a1 ss.length k1, .slice a2 fs.length k2] 26)) := (Below.refl _ _).alloc (Nat.le_refl _) _
  have HX := hid (heap_alloc_new w (.cells #[.slice a1 ss.length k1, .slice a2 fs.length k2] 26))
  have HDW := hid (hD.stay hbW)
  have HEW := hid (hE.stay hbW (Nat.le_refl _))
  have HBW := hid hbW
  have cR := hid (l02All_any (.slice a6 es.length k6) es _ HEW.out FE n6)
  have HFE := hid FE
  have HY := hid D
  have N6 := hid n6
  have hn6 : es.length ≤ 9223372036854775807 := by unfold maxLen at n6; omega
  clear hD hE hbW D FE n6
  have HNB := hid (show (allB es && decide ((es.length : Int) ≤ 200)) = false → ¬ HistP ss fs es from fun h H => by
    rw [histP_all H, Bool.true_and] at h
    have := H.n
    simp at h
    omega)
  have HYB := hid (show (allB es && decide ((es.length : Int) ≤ 200)) = true → es.length ≤ 200 from fun h => by
    simp at h
    omega)
  generalize hAB : (allB es && decide ((es.length : Int) ≤ 200)) = AB at *
  clear hAB
  go_enter Tryz.func70, Tryz.ntmps70
  go_wp2_with fail
  refine cR.out.mono ?_
  generalize hW : w.alloc (.cells #[.slice a1 ss.length k1, .slice a2 fs.length k2] 26) = W at *
  have hzW : W.heap.size = w.heap.size + 1 := by rw [← hW]; simp
  clear hW cR
  rintro x W1 ⟨rfl, hb1⟩
  have HB1 := hid hb1
  have hz1 := hb1.size
  clear hb1
  cases AB with
  | false =>
    have HN := hid (HNB.out rfl)
    go_wp2
    go_ret
    exact ⟨retB_f HN.out, HBW.out.trans (HB1.out.mono (by omega))⟩
  | true =>
    have h2 := HYB.out rfl
    clear HNB HYB
    go_wp2
    go_loopw [5] (fun i wr => ∃ k : Nat, (k ≤ es.length ∨ k = 1) ∧ 1 ≤ k ∧ i = .int .i64 k ∧ (∀ j, (h : j + 1 < es.length) → j + 1 < k → es[j].seq < es[j + 1].seq) ∧ Below W1.heap.size W1 wr) (fun i _ => es.length - (intOf i).toNat)
    case atStart => exact ⟨1, .inr rfl, Nat.le_refl _, rfl, fun j _ hj => absurd hj (by omega), Below.refl _ _⟩
    case round =>
      obtain ⟨k, hk, hk1, rfl, hall, hbel⟩ := hrel
      have HA := hid hall
      have HBr := hid hbel
      have HB := hid (HB1.out.trans (hbel.mono hz1))
      have hzr := hbel.size
      clear hall hbel
      by_cases hlt : k < es.length
      · obtain ⟨g, o, rfl, hQ⟩ := HEW.out.row (by omega)
        obtain ⟨m, rfl⟩ : ∃ m, k = m + 1 := ⟨k - 1, by omega⟩
        have hQr := hQ.stay HB.out (Nat.le_refl _)
        have d0 : wr.drew.cell? ⟨g, o + (m + 1) * 6, none⟩ = some (.int .i64 es[m + 1].seq) := (hQr.2 (m + 1) hlt).c0
        have d1 : wr.drew.cell? ⟨g, o + m * 6, none⟩ = some (.int .i64 es[m].seq) := (hQr.2 m (by omega)).c0
        have e1 : (((m + 1 : Nat) : Int) - 1) = (m : Int) := by omega
        have HS := hid (show ∀ h : es[m].seq < es[m + 1].seq, ∀ j, (hj : j + 1 < es.length) → j + 1 < m + 1 + 1 → es[j].seq < es[j + 1].seq from fun h j hj hjk => by
          by_cases e : j = m
          · subst e; exact h
          · exact HA.out j hj (by omega))
        have HN := hid (show ∀ h : es[m + 1].seq ≤ es[m].seq, ¬ HistP ss fs es from fun h hr => by have := hr.r m hlt; omega)
        clear hQ hQr
        generalize es[m + 1].seq = s1 at *
        generalize es[m].seq = s0 at *
        by_cases hle : s1 ≤ s0
        · go_wp2_with fail
          go_region
          go_wp2
          go_ret
          exact ⟨retB_f (HN.out hle), (HBW.out.trans (HB.out.mono (by omega))).drew⟩
        · go_wp2_with fail
          go_region
          go_wp2
          go_roundw
          case rel => exact ⟨m + 1 + 1, .inl (by omega), by omega, by go_num, HS.out (by omega), HBr.out.drew⟩
          case measure => simp [intOf]; omega
      · have HRI := hid (show RiseP es from fun j hj => HA.out j hj (by omega))
        have cU := hid (l04Runs_any a6 k6 es wr (HEW.out.stay HB.out (Nat.le_refl _)) (by omega))
        clear HA
        obtain ⟨W2, rfl⟩ : ∃ q, q = wr := ⟨_, rfl⟩
        go_wp2_with fail
        refine cU.out.mono ?_
        rintro x W3 ⟨v, rs, rfl, hR, hO, hb3⟩
        have hI := intSl_own hO
        obtain ⟨ra, rc, rfl⟩ := hI.form
        have hrl := hR.len
        have HR := hid hR
        have HI := hid hI
        have HB3 := hid (HB.out.trans (hb3.mono (by omega)))
        have hz3 := hb3.size
        clear hR hI hO hb3 cU
        go_wp2
        go_loopw [7] (fun i wr => ∃ k : Nat, k ≤ rs.length ∧ i = .int .i64 k ∧ (∀ j, (hj : j < rs.length) → j < k → (ofS ss fs (ofRun es rs[j]) z0).1 = 0) ∧ Below W3.heap.size W3 wr) (fun i _ => rs.length - (intOf i).toNat)
        case atStart => exact ⟨0, Nat.zero_le _, rfl, fun j _ hj => absurd hj (by omega), Below.refl _ _⟩
        case round =>
          obtain ⟨k, hk, rfl, hall, hbel⟩ := hrel
          have HA := hid hall
          have HBr := hid hbel
          have hzr := hbel.size
          have HBW' := hid (HB3.out.trans (hbel.mono (by omega)))
          clear hall hbel
          by_cases hlt : k < rs.length
          · obtain ⟨g, o, rfl, hg, hc⟩ := HI.out.row (by omega)
            have c0 := (HBr.out.cell (p := ⟨g, o + k, none⟩) hg).trans (hc k hlt)
            have hx := (HBW'.out.block _ (lt_heap HX.out)).trans HX.out
            have d0 : wr.cell? ⟨w.heap.size, 0, none⟩ = some (.slice a1 ss.length k1) := by rw [Lib.cell_of_heap hx]; rfl
            have d1 : wr.cell? ⟨w.heap.size, 1, none⟩ = some (.slice a2 fs.length k2) := by rw [Lib.cell_of_heap hx]; rfl
            have HST := hid (fun h : (ofS ss fs (ofRun es rs[k]) z0).1 = 0 => show ∀ j, (hj : j < rs.length) → j < k + 1 → (ofS ss fs (ofRun es rs[j]) z0).1 = 0 from fun j hj hjk => by
              by_cases e : j = k
              · subst e; exact h
              · exact HA.out j hj (by omega))
            have HNO := hid (fun h : ¬ (ofS ss fs (ofRun es rs[k]) z0).1 = 0 => histP_no HR.out hlt h)
            have q1 : (0 : Int) ≤ (k : Int) := by omega
            have q2 : (k : Int) < (rs.length : Int) := by omega
            clear hc hx
            generalize rs[k] = r at *
            have hlen := Nat.le_trans (ofRun_len es r) h2
            have hbR : Below wr.heap.size wr wr.drew := (Below.refl _ _).drew
            have cB := hid (fun (X : World) (hX : Below wr.heap.size wr X) => l04Run_any a6 k6 es r X (HEW.out.stay (HBW'.out.trans (hX.mono (by omega))) (Nat.le_refl _)) (by omega))
            have cC := hid (fun (X : World) (a : Option Addr) (c : Nat) (hX : Below wr.heap.size wr X) (hS : EvSl X (.slice a (ofRun es r).length c) (ofRun es r)) => l03Of_any a1 a2 a k1 k2 c ss fs (ofRun es r) X (HDW.out.stay (HBW'.out.trans (hX.mono (by omega)))) hS HY.out (ofRun_step es r (p := fun e => e.step.size ≤ maxLen) (fun i hi => (HFE.out i hi).1)) (by omega))
            generalize hst : ofS ss fs (ofRun es r) z0 = cs at *
            clear hst
            obtain ⟨cc, S'⟩ := cs
            have hfd : ∀ (x0 x1 x2 x6 x7 : Int) (y3 y4 y5 : Option Addr) (n3 n4 n5 m3 m4 m5 : Nat) (w : World), (Instr.field 93 (.agg #[.int .i64 x0, .int .i64 x1, .int .i64 x2, .slice y3 n3 m3, .slice y4 n4 m4, .slice y5 n5 m5, .int .i64 x6, .int .i64 x7]) 1).run Tryz.prog w = .ok (.int .i64 x7) w := fun _ _ _ _ _ _ _ _ _ _ _ _ _ _ _ => by kernel_rfl
            have ld : w.heap.size < wr.heap.size := by omega
            have lg : g < wr.heap.size := by omega
            go_wp2_with fail
            go_region_held3 (fun w' => w'.cell? ⟨w.heap.size, 0, none⟩ = some (.slice a1 ss.length k1) ∧ w'.cell? ⟨w.heap.size, 1, none⟩ = some (.slice a2 fs.length k2) ∧ w'.cell? ⟨g, o + k, none⟩ = some (.int .i64 r)) (go_keep) (first
              | (go_at_call 48; refine (cB.out _ hbR).mono ?_; rintro x V2 ⟨v2, rfl, ho2, hq2⟩; obtain ⟨va, vc, rfl⟩ := ownB_form ho2; have hb2 : Below wr.heap.size wr V2 := hbR.trans (hq2.mono hbR.size); have v20 := (hb2.cell (p := ⟨w.heap.size, 0, none⟩) ld).trans d0; have v21 := (hb2.cell (p := ⟨w.heap.size, 1, none⟩) ld).trans d1; have v22 := (hb2.cell (p := ⟨g, o + k, none⟩) lg).trans c0)
              | (go_at_call 47; refine (cC.out _ _ _ hb2 (sl_of_own ho2)).mono ?_; rintro x V3 ⟨u3, u4, u5, rfl, hO3, hq3⟩; obtain ⟨x3a, x4a, x5a, x3c, x4c, x5c, rfl, rfl, rfl⟩ := hO3.forms; unfold outV; have hb3 : Below wr.heap.size wr V3 := hb2.trans (hq3.mono hb2.size); have v30 := (hb3.cell (p := ⟨w.heap.size, 0, none⟩) ld).trans d0; have v31 := (hb3.cell (p := ⟨w.heap.size, 1, none⟩) ld).trans d1; have v32 := (hb3.cell (p := ⟨g, o + k, none⟩) lg).trans c0))
            have HB9 := hid hb3
            clear hb2 hb3 hq2 hq3 hO3 ho2 v20 v21 v22 v30 v31 v32 d0 d1 c0 cB cC hfd
            by_cases hcc : cc = 0
            · subst hcc
              go_wp2
              go_roundw
              case rel => exact ⟨k + 1, by omega, by go_num, HST.out rfl, HBr.out.trans (HB9.out.mono (by omega))⟩
              case measure => simp [intOf]; omega
            · have hce : (cc != 0) = true := by simpa using hcc
              rw [hce]
              go_wp2
              go_ret
              exact ⟨retB_f (HNO.out hcc), HBW.out.trans ((HBW'.out.trans (HB9.out.mono (by omega))).mono (by omega))⟩
          · have HPH := hid (histP_yes HR.out HY.out h2 HRI.out (fun j hj => HA.out j hj (by omega)))
            go_wp2
            go_ret
            exact ⟨retB_t HPH.out, HBW.out.trans (HBW'.out.mono (by omega))⟩

set_option maxRecDepth 100000 in
set_option maxHeartbeats 4000000 in
theorem specHistoryRight_any (a1 a2 a6 : Option Addr) (k1 k2 k6 : Nat) (ss : List ByteArray) (fs : List Pr) (es : List Ev) (w : World) (hD : DefSl w a1 a2 k1 k2 ss fs) (hE : EvSl w (.slice a6 es.length k6) es) (F1 : ∀ i, (h : i < ss.length) → ss[i].size ≤ maxLen) (FE : Fit es) (n1 : ss.length ≤ maxLen) (n2 : fs.length ≤ maxLen) (n6 : es.length ≤ maxLen) :
    Calls Tryz.prog 29 #[defV a1 a2 k1 k2 ss fs, .slice a6 es.length k6] w fun x w' => RetB x (HistP ss fs es) ∧ Below w.heap.size w w' := by
  have hbW : Below w.heap.size w (w.alloc (.cells #[.slice a1 ss.length k1, .slice a2 fs.length k2] 26)) := (Below.refl _ _).alloc (Nat.le_refl _) _
  have HX := hid (heap_alloc_new w (.cells #[.slice a1 ss.length k1, .slice a2 fs.length k2] 26))
  have HDW := hid (hD.stay hbW)
  have HEW := hid (hE.stay hbW (Nat.le_refl _))
  have HBW := hid hbW
  have cR := hid (specDefRight_any a1 a2 k1 k2 ss fs _ HDW.out.h1 HDW.out.h2 F1 n1 n2)
  have HFE := hid FE
  have N6 := hid n6
  have hn6 : es.length ≤ 9223372036854775807 := by unfold maxLen at n6; omega
  clear hD hE hbW F1 FE n1 n2 n6
  by_cases h4 : es.length ≤ 400
  case neg =>
    have HN := hid (show ¬ HistP ss fs es from fun h => by have := h.n; omega)
    clear cR
    go_enter Tryz.func29, Tryz.ntmps29
    go_wp2
    go_ret
    exact ⟨retB_f HN.out, HBW.out⟩
  case pos =>
    go_enter Tryz.func29, Tryz.ntmps29
    go_wp2_with fail
    refine cR.out.mono ?_
    generalize hW : w.alloc (.cells #[.slice a1 ss.length k1, .slice a2 fs.length k2] 26) = W at *
    have hzW : W.heap.size = w.heap.size + 1 := by rw [← hW]; simp
    clear hW cR
    rintro x W1 ⟨⟨B1, rfl, T⟩, hb1⟩
    have HB1 := hid hb1
    have HT := hid T
    have hz1 := hb1.size
    have hx := (hb1.block _ (lt_heap HX.out)).trans HX.out
    have d0 : W1.cell? ⟨w.heap.size, 0, none⟩ = some (.slice a1 ss.length k1) := by rw [Lib.cell_of_heap hx]; rfl
    have d1 : W1.cell? ⟨w.heap.size, 1, none⟩ = some (.slice a2 fs.length k2) := by rw [Lib.cell_of_heap hx]; rfl
    clear T hb1 hx
    cases B1 with
    | false =>
      have HN := hid (show ¬ HistP ss fs es from fun h => absurd (HT.out.yes h.d) (by decide))
      go_wp2
      go_ret
      exact ⟨retB_f HN.out, HBW.out.trans (HB1.out.mono (by omega))⟩
    | true =>
      have HY := hid (show DefP ss fs from HT.out.1 rfl)
      have cL := hid (l04Right_any a1 a2 a6 k1 k2 k6 ss fs es W1 (HDW.out.stay HB1.out) (HEW.out.stay HB1.out (Nat.le_refl _)) HY.out HFE.out N6.out)
      change Hid (Calls _ _ #[.agg #[.slice a1 ss.length k1, .slice a2 fs.length k2], .slice a6 es.length k6] _ _) at cL
      go_wp2_with fail
      refine cL.out.mono ?_
      rintro x W2 ⟨⟨B2, rfl, T2⟩, hb2⟩
      have HB2 := hid (HB1.out.trans (hb2.mono hz1))
      have HT2 := hid T2
      clear T2 hb2 cL
      cases B2 with
      | false =>
        go_wp2
        go_ret
        exact ⟨⟨false, rfl, HT2.out⟩, HBW.out.trans (HB2.out.mono (by omega))⟩
      | true =>
        go_wp2
        go_ret
        exact ⟨⟨true, rfl, HT2.out⟩, HBW.out.trans (HB2.out.mono (by omega))⟩
end Go.Proofs.YthggcdadipjiiaaGreatDoor

/-
  slices.Min and slices.Max of numbers: contracts over the seat's program.
-/
namespace Go.Proofs.YthggcdadipjiiaaGreatDoor
open Go.RowKit

theorem fold_take (f : Int → Int → Int) (x : Int) {r : List Int} {k : Nat} (h : k < r.length) : (r.take (k + 1)).foldl f x = f ((r.take k).foldl f x) r[k] := by
  rw [List.take_succ_eq_append_getElem h, List.foldl_append]; rfl
set_option maxRecDepth 100000 in
set_option maxHeartbeats 4000000 in
theorem min_any (g o c : Nat) (x : Int) (r : List Int) (w : World) (c0 : w.cell? ⟨g, o, none⟩ = some (.int .i64 x)) (hc : ∀ i, (h : i < r.length) → w.cell? ⟨g, o + (i + 1), none⟩ = some (.int .i64 r[i])) (hn : r.length < maxLen) :
    Calls Tryz.prog 68 #[.slice (some ⟨g, o, none⟩) (r.length + 1) c] w fun e w' => e = .returned (.int .i64 (r.foldl minI x)) ∧ w' = w := by
  unfold maxLen at hn
  have HC := hid hc
  have C0 := hid c0
  clear hc
  have q1 : (0 : Int) < (r.length : Int) + 1 := by omega
  have q3 : (1 : Int) ≤ (r.length : Int) + 1 := by omega
  go_enter Tryz.func68, Tryz.ntmps68
  go_wp2
  go_loopw [3, 4] (fun m i wr => ∃ k : Nat, k ≤ r.length ∧ i = .int .i64 ((k : Int) + 1) ∧ m = .int .i64 ((r.take k).foldl minI x) ∧ wr = w) (fun _ i _ => r.length + 1 - (intOf i).toNat)
  case atStart => exact ⟨0, Nat.zero_le _, rfl, rfl, rfl⟩
  case round =>
    obtain ⟨k, hk, rfl, rfl, rfl⟩ := hrel
    by_cases hlt : k < r.length
    · have ck := HC.out k hlt
      have HF := hid (fold_take minI x hlt)
      generalize (r.take k).foldl minI x = a at *
      generalize r[k] = b at *
      have q4 : (0 : Int) ≤ (k : Int) + 1 := by omega
      have q5 : (k : Int) + 1 < (r.length : Int) + 1 := by omega
      have hm : min a b = minI a b := by unfold minI; omega
      go_wp2
      go_roundw
      case rel => exact ⟨k + 1, by omega, by go_num, by rw [HF.out], trivial⟩
      case measure => simp [intOf]; omega
    · obtain rfl : k = r.length := by omega
      go_wp2
      go_ret
      exact ⟨by rw [List.take_length]; rfl, rfl⟩
set_option maxRecDepth 100000 in
set_option maxHeartbeats 4000000 in
theorem max_any (g o c : Nat) (x : Int) (r : List Int) (w : World) (c0 : w.cell? ⟨g, o, none⟩ = some (.int .i64 x)) (hc : ∀ i, (h : i < r.length) → w.cell? ⟨g, o + (i + 1), none⟩ = some (.int .i64 r[i])) (hn : r.length < maxLen) :
    Calls Tryz.prog 69 #[.slice (some ⟨g, o, none⟩) (r.length + 1) c] w fun e w' => e = .returned (.int .i64 (r.foldl maxI x)) ∧ w' = w := by
  unfold maxLen at hn
  have HC := hid hc
  have C0 := hid c0
  clear hc
  have q1 : (0 : Int) < (r.length : Int) + 1 := by omega
  have q3 : (1 : Int) ≤ (r.length : Int) + 1 := by omega
  go_enter Tryz.func69, Tryz.ntmps69
  go_wp2
  go_loopw [3, 4] (fun m i wr => ∃ k : Nat, k ≤ r.length ∧ i = .int .i64 ((k : Int) + 1) ∧ m = .int .i64 ((r.take k).foldl maxI x) ∧ wr = w) (fun _ i _ => r.length + 1 - (intOf i).toNat)
  case atStart => exact ⟨0, Nat.zero_le _, rfl, rfl, rfl⟩
  case round =>
    obtain ⟨k, hk, rfl, rfl, rfl⟩ := hrel
    by_cases hlt : k < r.length
    · have ck := HC.out k hlt
      have HF := hid (fold_take maxI x hlt)
      generalize (r.take k).foldl maxI x = a at *
      generalize r[k] = b at *
      have q4 : (0 : Int) ≤ (k : Int) + 1 := by omega
      have q5 : (k : Int) + 1 < (r.length : Int) + 1 := by omega
      have hm : max a b = maxI a b := by unfold maxI; omega
      go_wp2
      go_roundw
      case rel => exact ⟨k + 1, by omega, by go_num, by rw [HF.out], trivial⟩
      case measure => simp [intOf]; omega
    · obtain rfl : k = r.length := by omega
      go_wp2
      go_ret
      exact ⟨by rw [List.take_length]; rfl, rfl⟩
end Go.Proofs.YthggcdadipjiiaaGreatDoor

/-
  impl.durOf: what is told of a step that lasted so long each time: a contract over the seat's program.
-/
namespace Go.Proofs.YthggcdadipjiiaaGreatDoor
open Go.RowKit

def durV (d : Dur) : Value := .agg #[.string d.step, .int .i64 d.count, .int .i64 d.sum, .int .i64 d.least, .int .i64 d.most]
theorem sum_bound {L : List Int} (h : ∀ y ∈ L, -1000000 ≤ y ∧ y ≤ 1000000) : ∀ k : Nat, -1000000 * (k : Int) ≤ (L.take k).sum ∧ (L.take k).sum ≤ 1000000 * (k : Int)
  | 0 => by simp
  | k + 1 => by
    have ih := sum_bound h k
    by_cases hk : k < L.length
    · rw [List.take_succ_eq_append_getElem hk, List.sum_append]
      have := h _ (List.getElem_mem hk)
      simp only [List.sum_cons, List.sum_nil]
      omega
    · rw [List.take_of_length_le (by omega)] at ih ⊢
      omega
set_option maxRecDepth 100000 in
set_option maxHeartbeats 4000000 in
theorem durOf_any (g o n c : Nat) (s : ByteArray) (L : List Int) (w : World) (hL : L ≠ []) (hn : L.length = n) (hg : g < w.heap.size) (hc : ∀ i, (h : i < L.length) → w.cell? ⟨g, o + i, none⟩ = some (.int .i64 L[i])) (hm : n ≤ 1048576) (hs : s.size ≤ 1099511627776) (hb : ∀ y ∈ L, -1000000 ≤ y ∧ y ≤ 1000000) :
    Calls Tryz.prog 27 #[.string s, .slice (some ⟨g, o, none⟩) n c] w fun e w' => e = .returned (durV (durL s L)) ∧ Below w.heap.size w w' := by
  have hex : ∃ mn mx : Int, durV (durL s L) = .agg #[.string s, .int .i64 (n : Nat), .int .i64 L.sum, .int .i64 mn, .int .i64 mx] ∧ (∀ X, Below w.heap.size w X → Calls Tryz.prog 68 #[.slice (some ⟨g, o, none⟩) n c] X fun e w' => e = .returned (.int .i64 mn) ∧ w' = X) ∧ (∀ X, Below w.heap.size w X → Calls Tryz.prog 69 #[.slice (some ⟨g, o, none⟩) n c] X fun e w' => e = .returned (.int .i64 mx) ∧ w' = X) := by
    cases L with
    | nil => exact absurd rfl hL
    | cons x r =>
      subst hn
      have h0 : ∀ X, Below w.heap.size w X → X.cell? ⟨g, o, none⟩ = some (.int .i64 x) := fun X hX => (hX.cell (p := ⟨g, o, none⟩) hg).trans (hc 0 (by simp))
      have h1 : ∀ X, Below w.heap.size w X → ∀ i, (h : i < r.length) → X.cell? ⟨g, o + (i + 1), none⟩ = some (.int .i64 r[i]) := fun X hX i h => (hX.cell (p := ⟨g, o + (i + 1), none⟩) hg).trans (hc (i + 1) (by simpa using h))
      have hr : r.length < maxLen := by unfold maxLen; simp at hm; omega
      refine ⟨r.foldl minI x, r.foldl maxI x, by rw [durL_vals]; rfl, fun X hX => min_any g o c x r X (h0 X hX) (h1 X hX) hr, fun X hX => max_any g o c x r X (h0 X hX) (h1 X hX) hr⟩
  obtain ⟨mn, mx, hv, cMn, cMx⟩ := hex
  rw [hv]
  have HMn := hid cMn
  have HMx := hid cMx
  have HC := hid hc
  have HS := hid (sum_bound hb)
  clear hv cMn cMx hc hb hL
  have hzz : (0 : Int) ≤ (n : Int) := by omega
  go_enter Tryz.func27, Tryz.ntmps27
  go_wp2_with fail
  have HA := hid (heap_alloc_new w (.cells #[.string ⟨#[]⟩, .int .i64 0, .int .i64 0, .int .i64 0, .int .i64 0] 35))
  have HBA := hid ((Below.refl w.heap.size w).alloc (Nat.le_refl _) (.cells #[.string ⟨#[]⟩, .int .i64 0, .int .i64 0, .int .i64 0, .int .i64 0] 35))
  refine (Clone_any s _ hs).mono ?_
  generalize w.alloc (.cells #[.string ⟨#[]⟩, .int .i64 0, .int .i64 0, .int .i64 0, .int .i64 0] 35) = WA at *
  rintro e W1 ⟨rfl, hb1⟩
  have HA1 := hid ((hb1.block _ (lt_heap HA.out)).trans HA.out)
  have HB1 := hid (HBA.out.trans (hb1.mono HBA.out.size))
  have c1 := HMn.out W1 HB1.out
  have c2 := HMx.out W1 HB1.out
  clear hb1 HA HBA HMn HMx
  go_wp2_with fail
  refine c1.mono ?_
  rintro e W2 ⟨rfl, rfl⟩
  go_wp2_with fail
  refine c2.mono ?_
  rintro e W3 ⟨rfl, rfl⟩
  clear c1 c2
  go_wp2_with fail
  have HB5 := hid (heap_alloc_new W3 (.cells #[.string s, .int .i64 (n : Nat), .int .i64 0, .int .i64 mn, .int .i64 mx] 35))
  have HA5 := hid ((Below.heap_alloc W3 (.cells #[.string s, .int .i64 (n : Nat), .int .i64 0, .int .i64 mn, .int .i64 mx] 35) _ (lt_heap HA1.out)).trans HA1.out)
  have HBL := hid (HB1.out.alloc HB1.out.size (.cells #[.string s, .int .i64 (n : Nat), .int .i64 0, .int .i64 mn, .int .i64 mx] 35))
  have hlt5 : w.heap.size < W3.heap.size := lt_heap HA1.out
  generalize W3.alloc (.cells #[.string s, .int .i64 (n : Nat), .int .i64 0, .int .i64 mn, .int .i64 mx] 35) = W5 at *
  generalize W3.heap.size = b5 at *
  clear HA1 HB1
  go_loopw [7, 19] (fun v i wr => ∃ k : Nat, k ≤ n ∧ i = .int .i64 k ∧ wr.heap[b5]? = some (.cells [Value.string s, .int .i64 (n : Nat), .int .i64 (L.take k).sum, .int .i64 mn, .int .i64 mx].toArray 35 (0, 0)) ∧ wr.heap[w.heap.size]? = some (.cells #[.string ⟨#[]⟩, .int .i64 0, .int .i64 0, .int .i64 0, .int .i64 0] 35 (0, 0)) ∧ Below w.heap.size w wr) (fun _ i _ => n - (intOf i).toNat)
  case atStart => exact ⟨0, Nat.zero_le _, rfl, HB5.out, HA5.out, HBL.out⟩
  case round =>
    obtain ⟨k, hk, rfl, h5, h0, hbl⟩ := hrel
    have H5 := hid h5
    have H0 := hid h0
    have HB := hid hbl
    have d2 : wr.cell? ⟨b5, 2, none⟩ = some (.int .i64 (L.take k).sum) := by rw [Lib.cell_of_heap h5]; rfl
    by_cases hlt : k < n
    · have ck := (hbl.cell (p := ⟨g, o + k, none⟩) hg).trans (HC.out k (by omega))
      have hsk := HS.out k
      have hsk1 := HS.out (k + 1)
      have HF := hid (show (L.take (k + 1)).sum = (L.take k).sum + L[k] by rw [List.take_succ_eq_append_getElem (by omega), List.sum_append]; simp)
      rw [HF.out] at hsk1
      have ff := Lib.frozen_of_heap h5
      clear h5 h0 hbl HB5 HA5 HBL
      generalize (L.take k).sum = a at *
      generalize L[k] = b at *
      have hw : IntKind.i64.wrap (a + b) = a + b := by rw [IntKind.wrap_i64]; omega
      have q1 : (0 : Int) ≤ (k : Int) := by omega
      have q2 : (k : Int) < (n : Int) := by omega
      go_wp2_with fail
      have H6 := hid (blk_set (i := 2) H5.out (.int .i64 (a + b)))
      have H1 := hid ((Below.heap_setCell wr ⟨b5, 2, none⟩ (.int .i64 (a + b)) w.heap.size (by simp; omega)).trans H0.out)
      have HB6 := hid (HB.out.setCell (p := ⟨b5, 2, none⟩) (Nat.le_of_lt hlt5) (.int .i64 (a + b)))
      go_roundw
      case rel => exact ⟨k + 1, by omega, by go_num, by rw [HF.out]; exact H6.out, H1.out, HB6.out⟩
      case measure => simp [intOf]; omega
    · obtain rfl : k = n := by omega
      have c0 : wr.cell? ⟨b5, 0, none⟩ = some (.string s) := by rw [Lib.cell_of_heap h5]; rfl
      have c1 : wr.cell? ⟨b5, 1, none⟩ = some (.int .i64 (k : Nat)) := by rw [Lib.cell_of_heap h5]; rfl
      have c3 : wr.cell? ⟨b5, 3, none⟩ = some (.int .i64 mn) := by rw [Lib.cell_of_heap h5]; rfl
      have c4 : wr.cell? ⟨b5, 4, none⟩ = some (.int .i64 mx) := by rw [Lib.cell_of_heap h5]; rfl
      have z0 : wr.cell? ⟨w.heap.size, 0, none⟩ = some (.string ⟨#[]⟩) := by rw [Lib.cell_of_heap h0]; rfl
      have z1 : wr.cell? ⟨w.heap.size, 1, none⟩ = some (.int .i64 0) := by rw [Lib.cell_of_heap h0]; rfl
      have z2 : wr.cell? ⟨w.heap.size, 2, none⟩ = some (.int .i64 0) := by rw [Lib.cell_of_heap h0]; rfl
      have z3 : wr.cell? ⟨w.heap.size, 3, none⟩ = some (.int .i64 0) := by rw [Lib.cell_of_heap h0]; rfl
      have z4 : wr.cell? ⟨w.heap.size, 4, none⟩ = some (.int .i64 0) := by rw [Lib.cell_of_heap h0]; rfl
      have zf := Lib.frozen_of_heap h0
      have hsum : (L.take k).sum = L.sum := by rw [← hn, List.take_length]
      rw [hsum] at d2
      clear h5 h0 hbl HB5 HA5 HBL H5
      go_wp2_with fail
      have HK := hid (blk_set (i := 4) (blk_set (i := 3) (blk_set (i := 2) (blk_set (i := 1) (blk_set (i := 0) (L := [.string ⟨#[]⟩, .int .i64 0, .int .i64 0, .int .i64 0, .int .i64 0]) H0.out (.string s)) (.int .i64 (k : Nat))) (.int .i64 L.sum)) (.int .i64 mn)) (.int .i64 mx))
      have HB9 := hid (((((HB.out.setCell (p := ⟨w.heap.size, 0, none⟩) (Nat.le_refl _) (.string s)).setCell (p := ⟨w.heap.size, 1, none⟩) (Nat.le_refl _) (.int .i64 (k : Nat))).setCell (p := ⟨w.heap.size, 2, none⟩) (Nat.le_refl _) (.int .i64 L.sum)).setCell (p := ⟨w.heap.size, 3, none⟩) (Nat.le_refl _) (.int .i64 mn)).setCell (p := ⟨w.heap.size, 4, none⟩) (Nat.le_refl _) (.int .i64 mx))
      generalize (((((wr.setCell ⟨w.heap.size, 0, none⟩ (.string s)).setCell ⟨w.heap.size, 1, none⟩ (.int .i64 (k : Nat))).setCell ⟨w.heap.size, 2, none⟩ (.int .i64 L.sum)).setCell ⟨w.heap.size, 3, none⟩ (.int .i64 mn)).setCell ⟨w.heap.size, 4, none⟩ (.int .i64 mx)) = W9 at *
      have y0 : W9.cell? ⟨w.heap.size, 0, none⟩ = some (.string s) := by rw [Lib.cell_of_heap HK.out]; rfl
      have y1 : W9.cell? ⟨w.heap.size, 1, none⟩ = some (.int .i64 (k : Nat)) := by rw [Lib.cell_of_heap HK.out]; rfl
      have y2 : W9.cell? ⟨w.heap.size, 2, none⟩ = some (.int .i64 L.sum) := by rw [Lib.cell_of_heap HK.out]; rfl
      have y3 : W9.cell? ⟨w.heap.size, 3, none⟩ = some (.int .i64 mn) := by rw [Lib.cell_of_heap HK.out]; rfl
      have y4 : W9.cell? ⟨w.heap.size, 4, none⟩ = some (.int .i64 mx) := by rw [Lib.cell_of_heap HK.out]; rfl
      refine bodyPost_ret (v := .agg #[.string s, .int .i64 (k : Nat), .int .i64 L.sum, .int .i64 mn, .int .i64 mx]) (by simp [results, Tryz.results27, go_sem, y0, y1, y2, y3, y4]) rfl ?_
      exact ⟨rfl, HB9.out⟩
end Go.Proofs.YthggcdadipjiiaaGreatDoor
