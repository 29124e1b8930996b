/-
  What spec.l04Right and spec.HistoryRight answer: contracts over the seat's program.
-/
import Derived.Test.YtadidjhcgmeadaaGreatDoorZItrE4
import Derived.Test.YtadidjhcgmeadaaGreatDoorZSpRuns
import Derived.Test.YtadidjhcgmeadaaGreatDoorZSpRun2
import Derived.Test.YtadidjhcgmeadaaGreatDoorZSpOf
import Derived.Test.YtadidjhcgmeadaaGreatDoorZEvAM2
import Derived.Deep.RegionHeld3
namespace Go.Proofs.YtadidjhcgmeadaaGreatDoor
open Go.RowKit Go.Sort Go.Shelf

theorem histP_all {ss : List ByteArray} {fs : List Pr} {es : List Ev} (h : HistP ss fs es) : allB es = true := allB_yes (fun _ hj => h.ev _ (List.getElem_mem hj))
set_option maxRecDepth 100000 in
set_option maxHeartbeats 4000000 in
theorem l04Right_any (a1 a2 a6 : Option Addr) (k1 k2 k6 : Nat) (ss : List ByteArray) (fs : List Pr) (es : List Ev) (w : World) (hD : DefSl w a1 a2 k1 k2 ss fs) (hE : EvSl w (.slice a6 es.length k6) es) (D : DefP ss fs) (FE : Fit es) (n6 : es.length ≤ maxLen) :
    Calls Tryz.prog 40 #[defV a1 a2 k1 k2 ss fs, .slice a6 es.length k6] w fun x w' => RetB x (HistP ss fs es) ∧ Below w.heap.size w w' := by
  have hbW : Below w.heap.size w (w.alloc (.cells #[.slice a1 ss.length k1, .slice a2 fs.length k2] 32)) := (Below.refl _ _).alloc (Nat.le_refl _) _
  have HX := hid (heap_alloc_new w (.cells #[.slice a1 ss.length k1, .slice a2 fs.length k2] 32))
  have HDW := hid (hD.stay hbW)
  have HEW := hid (hE.stay hbW (Nat.le_refl _))
  have HBW := hid hbW
  have cR := hid (l02All_any (.slice a6 es.length k6) es _ HEW.out FE n6)
  have HFE := hid FE
  have HY := hid D
  have N6 := hid n6
  have hn6 : es.length ≤ 9223372036854775807 := by unfold maxLen at n6; omega
  clear hD hE hbW D FE n6
  have HNB := hid (show (allB es && decide ((es.length : Int) ≤ 200)) = false → ¬ HistP ss fs es from fun h H => by
    rw [histP_all H, Bool.true_and] at h
    have := H.n
    simp at h
    omega)
  have HYB := hid (show (allB es && decide ((es.length : Int) ≤ 200)) = true → es.length ≤ 200 from fun h => by
    simp at h
    omega)
  generalize hAB : (allB es && decide ((es.length : Int) ≤ 200)) = AB at *
  clear hAB
  go_enter Tryz.func40, Tryz.ntmps40
  go_wp2_with fail
  refine cR.out.mono ?_
  generalize hW : w.alloc (.cells #[.slice a1 ss.length k1, .slice a2 fs.length k2] 32) = W at *
  have hzW : W.heap.size = w.heap.size + 1 := by rw [← hW]; simp
  clear hW cR
  rintro x W1 ⟨rfl, hb1⟩
  have HB1 := hid hb1
  have hz1 := hb1.size
  clear hb1
  cases AB with
  | false =>
    have HN := hid (HNB.out rfl)
    go_wp2
    go_ret
    exact ⟨retB_f HN.out, HBW.out.trans (HB1.out.mono (by omega))⟩
  | true =>
    have h2 := HYB.out rfl
    clear HNB HYB
    go_wp2
    go_loopw [5] (fun i wr => ∃ k : Nat, (k ≤ es.length ∨ k = 1) ∧ 1 ≤ k ∧ i = .int .i64 k ∧ (∀ j, (h : j + 1 < es.length) → j + 1 < k → es[j].seq < es[j + 1].seq) ∧ Below W1.heap.size W1 wr) (fun i _ => es.length - (intOf i).toNat)
    case atStart => exact ⟨1, .inr rfl, Nat.le_refl _, rfl, fun j _ hj => absurd hj (by omega), Below.refl _ _⟩
    case round =>
      obtain ⟨k, hk, hk1, rfl, hall, hbel⟩ := hrel
      have HA := hid hall
      have HBr := hid hbel
      have HB := hid (HB1.out.trans (hbel.mono hz1))
      have hzr := hbel.size
      clear hall hbel
      by_cases hlt : k < es.length
      · obtain ⟨g, o, rfl, hQ⟩ := HEW.out.row (by omega)
        obtain ⟨m, rfl⟩ : ∃ m, k = m + 1 := ⟨k - 1, by omega⟩
        have hQr := hQ.stay HB.out (Nat.le_refl _)
        have d0 : wr.drew.cell? ⟨g, o + (m + 1) * 6, none⟩ = some (.int .i64 es[m + 1].seq) := (hQr.2 (m + 1) hlt).c0
        have d1 : wr.drew.cell? ⟨g, o + m * 6, none⟩ = some (.int .i64 es[m].seq) := (hQr.2 m (by omega)).c0
        have e1 : (((m + 1 : Nat) : Int) - 1) = (m : Int) := by omega
        have HS := hid (show ∀ h : es[m].seq < es[m + 1].seq, ∀ j, (hj : j + 1 < es.length) → j + 1 < m + 1 + 1 → es[j].seq < es[j + 1].seq from fun h j hj hjk => by
          by_cases e : j = m
          · subst e; exact h
          · exact HA.out j hj (by omega))
        have HN := hid (show ∀ h : es[m + 1].seq ≤ es[m].seq, ¬ HistP ss fs es from fun h hr => by have := hr.r m hlt; omega)
        clear hQ hQr
        generalize es[m + 1].seq = s1 at *
        generalize es[m].seq = s0 at *
        by_cases hle : s1 ≤ s0
        · go_wp2_with fail
          go_region
          go_wp2
          go_ret
          exact ⟨retB_f (HN.out hle), (HBW.out.trans (HB.out.mono (by omega))).drew⟩
        · go_wp2_with fail
          go_region
          go_wp2
          go_roundw
          case rel => exact ⟨m + 1 + 1, .inl (by omega), by omega, by go_num, HS.out (by omega), HBr.out.drew⟩
          case measure => simp [intOf]; omega
      · have HRI := hid (show RiseP es from fun j hj => HA.out j hj (by omega))
        have cU := hid (l04Runs_any a6 k6 es wr (HEW.out.stay HB.out (Nat.le_refl _)) (by omega))
        clear HA
        obtain ⟨W2, rfl⟩ : ∃ q, q = wr := ⟨_, rfl⟩
        go_wp2_with fail
        refine cU.out.mono ?_
        rintro x W3 ⟨v, rs, rfl, hR, hO, hb3⟩
        have hI := intSl_own hO
        obtain ⟨ra, rc, rfl⟩ := hI.form
        have hrl := hR.len
        have HR := hid hR
        have HI := hid hI
        have HB3 := hid (HB.out.trans (hb3.mono (by omega)))
        have hz3 := hb3.size
        clear hR hI hO hb3 cU
        go_wp2
        go_loopw [7] (fun i wr => ∃ k : Nat, k ≤ rs.length ∧ i = .int .i64 k ∧ (∀ j, (hj : j < rs.length) → j < k → (ofS ss fs (ofRun es rs[j]) z0).1 = 0) ∧ Below W3.heap.size W3 wr) (fun i _ => rs.length - (intOf i).toNat)
        case atStart => exact ⟨0, Nat.zero_le _, rfl, fun j _ hj => absurd hj (by omega), Below.refl _ _⟩
        case round =>
          obtain ⟨k, hk, rfl, hall, hbel⟩ := hrel
          have HA := hid hall
          have HBr := hid hbel
          have hzr := hbel.size
          have HBW' := hid (HB3.out.trans (hbel.mono (by omega)))
          clear hall hbel
          by_cases hlt : k < rs.length
          · obtain ⟨g, o, rfl, hg, hc⟩ := HI.out.row (by omega)
            have c0 := (HBr.out.cell (p := ⟨g, o + k, none⟩) hg).trans (hc k hlt)
            have hx := (HBW'.out.block _ (lt_heap HX.out)).trans HX.out
            have d0 : wr.cell? ⟨w.heap.size, 0, none⟩ = some (.slice a1 ss.length k1) := by rw [Lib.cell_of_heap hx]; rfl
            have d1 : wr.cell? ⟨w.heap.size, 1, none⟩ = some (.slice a2 fs.length k2) := by rw [Lib.cell_of_heap hx]; rfl
            have HST := hid (fun h : (ofS ss fs (ofRun es rs[k]) z0).1 = 0 => show ∀ j, (hj : j < rs.length) → j < k + 1 → (ofS ss fs (ofRun es rs[j]) z0).1 = 0 from fun j hj hjk => by
              by_cases e : j = k
              · subst e; exact h
              · exact HA.out j hj (by omega))
            have HNO := hid (fun h : ¬ (ofS ss fs (ofRun es rs[k]) z0).1 = 0 => histP_no HR.out hlt h)
            have q1 : (0 : Int) ≤ (k : Int) := by omega
            have q2 : (k : Int) < (rs.length : Int) := by omega
            clear hc hx
            generalize rs[k] = r at *
            have hlen := Nat.le_trans (ofRun_len es r) h2
            have hbR : Below wr.heap.size wr wr.drew := (Below.refl _ _).drew
            have cB := hid (fun (X : World) (hX : Below wr.heap.size wr X) => l04Run_any a6 k6 es r X (HEW.out.stay (HBW'.out.trans (hX.mono (by omega))) (Nat.le_refl _)) (by omega))
            have cC := hid (fun (X : World) (a : Option Addr) (c : Nat) (hX : Below wr.heap.size wr X) (hS : EvSl X (.slice a (ofRun es r).length c) (ofRun es r)) => l03Of_any a1 a2 a k1 k2 c ss fs (ofRun es r) X (HDW.out.stay (HBW'.out.trans (hX.mono (by omega)))) hS HY.out (ofRun_step es r (p := fun e => e.step.size ≤ maxLen) (fun i hi => (HFE.out i hi).1)) (by omega))
            generalize hst : ofS ss fs (ofRun es r) z0 = cs at *
            clear hst
            obtain ⟨cc, S'⟩ := cs
            have hfd : ∀ (x0 x1 x2 x6 x7 : Int) (y3 y4 y5 : Option Addr) (n3 n4 n5 m3 m4 m5 : Nat) (w : World), (Instr.field 43 (.agg #[.int .i64 x0, .int .i64 x1, .int .i64 x2, .slice y3 n3 m3, .slice y4 n4 m4, .slice y5 n5 m5, .int .i64 x6, .int .i64 x7]) 1).run Tryz.prog w = .ok (.int .i64 x7) w := fun _ _ _ _ _ _ _ _ _ _ _ _ _ _ _ => by kernel_rfl
            have ld : w.heap.size < wr.heap.size := by omega
            have lg : g < wr.heap.size := by omega
            go_wp2_with fail
            go_region_held3 (fun w' => w'.cell? ⟨w.heap.size, 0, none⟩ = some (.slice a1 ss.length k1) ∧ w'.cell? ⟨w.heap.size, 1, none⟩ = some (.slice a2 fs.length k2) ∧ w'.cell? ⟨g, o + k, none⟩ = some (.int .i64 r)) (go_keep) (first
              | (go_at_call 54; refine (cB.out _ hbR).mono ?_; rintro x V2 ⟨v2, rfl, ho2, hq2⟩; obtain ⟨va, vc, rfl⟩ := ownB_form ho2; have hb2 : Below wr.heap.size wr V2 := hbR.trans (hq2.mono hbR.size); have v20 := (hb2.cell (p := ⟨w.heap.size, 0, none⟩) ld).trans d0; have v21 := (hb2.cell (p := ⟨w.heap.size, 1, none⟩) ld).trans d1; have v22 := (hb2.cell (p := ⟨g, o + k, none⟩) lg).trans c0)
              | (go_at_call 55; refine (cC.out _ _ _ hb2 (sl_of_own ho2)).mono ?_; rintro x V3 ⟨u3, u4, u5, rfl, hO3, hq3⟩; obtain ⟨x3a, x4a, x5a, x3c, x4c, x5c, rfl, rfl, rfl⟩ := hO3.forms; unfold outV; have hb3 : Below wr.heap.size wr V3 := hb2.trans (hq3.mono hb2.size); have v30 := (hb3.cell (p := ⟨w.heap.size, 0, none⟩) ld).trans d0; have v31 := (hb3.cell (p := ⟨w.heap.size, 1, none⟩) ld).trans d1; have v32 := (hb3.cell (p := ⟨g, o + k, none⟩) lg).trans c0))
            have HB9 := hid hb3
            clear hb2 hb3 hq2 hq3 hO3 ho2 v20 v21 v22 v30 v31 v32 d0 d1 c0 cB cC hfd
            by_cases hcc : cc = 0
            · subst hcc
              go_wp2
              go_roundw
              case rel => exact ⟨k + 1, by omega, by go_num, HST.out rfl, HBr.out.trans (HB9.out.mono (by omega))⟩
              case measure => simp [intOf]; omega
            · have hce : (cc != 0) = true := by simpa using hcc
              rw [hce]
              go_wp2
              go_ret
              exact ⟨retB_f (HNO.out hcc), HBW.out.trans ((HBW'.out.trans (HB9.out.mono (by omega))).mono (by omega))⟩
          · have HPH := hid (histP_yes HR.out HY.out h2 HRI.out (fun j hj => HA.out j hj (by omega)))
            go_wp2
            go_ret
            exact ⟨retB_t HPH.out, HBW.out.trans (HBW'.out.mono (by omega))⟩

set_option maxRecDepth 100000 in
set_option maxHeartbeats 4000000 in
theorem specHistoryRight_any (a1 a2 a6 : Option Addr) (k1 k2 k6 : Nat) (ss : List ByteArray) (fs : List Pr) (es : List Ev) (w : World) (hD : DefSl w a1 a2 k1 k2 ss fs) (hE : EvSl w (.slice a6 es.length k6) es) (F1 : ∀ i, (h : i < ss.length) → ss[i].size ≤ maxLen) (FE : Fit es) (n1 : ss.length ≤ maxLen) (n2 : fs.length ≤ maxLen) (n6 : es.length ≤ maxLen) :
    Calls Tryz.prog 10 #[defV a1 a2 k1 k2 ss fs, .slice a6 es.length k6] w fun x w' => RetB x (HistP ss fs es) ∧ Below w.heap.size w w' := by
  have hbW : Below w.heap.size w (w.alloc (.cells #[.slice a1 ss.length k1, .slice a2 fs.length k2] 32)) := (Below.refl _ _).alloc (Nat.le_refl _) _
  have HX := hid (heap_alloc_new w (.cells #[.slice a1 ss.length k1, .slice a2 fs.length k2] 32))
  have HDW := hid (hD.stay hbW)
  have HEW := hid (hE.stay hbW (Nat.le_refl _))
  have HBW := hid hbW
  have cR := hid (specDefRight_any a1 a2 k1 k2 ss fs _ HDW.out.h1 HDW.out.h2 F1 n1 n2)
  have HFE := hid FE
  have N6 := hid n6
  have hn6 : es.length ≤ 9223372036854775807 := by unfold maxLen at n6; omega
  clear hD hE hbW F1 FE n1 n2 n6
  by_cases h4 : es.length ≤ 400
  case neg =>
    have HN := hid (show ¬ HistP ss fs es from fun h => by have := h.n; omega)
    clear cR
    go_enter Tryz.func10, Tryz.ntmps10
    go_wp2
    go_ret
    exact ⟨retB_f HN.out, HBW.out⟩
  case pos =>
    go_enter Tryz.func10, Tryz.ntmps10
    go_wp2_with fail
    refine cR.out.mono ?_
    generalize hW : w.alloc (.cells #[.slice a1 ss.length k1, .slice a2 fs.length k2] 32) = W at *
    have hzW : W.heap.size = w.heap.size + 1 := by rw [← hW]; simp
    clear hW cR
    rintro x W1 ⟨⟨B1, rfl, T⟩, hb1⟩
    have HB1 := hid hb1
    have HT := hid T
    have hz1 := hb1.size
    have hx := (hb1.block _ (lt_heap HX.out)).trans HX.out
    have d0 : W1.cell? ⟨w.heap.size, 0, none⟩ = some (.slice a1 ss.length k1) := by rw [Lib.cell_of_heap hx]; rfl
    have d1 : W1.cell? ⟨w.heap.size, 1, none⟩ = some (.slice a2 fs.length k2) := by rw [Lib.cell_of_heap hx]; rfl
    clear T hb1 hx
    cases B1 with
    | false =>
      have HN := hid (show ¬ HistP ss fs es from fun h => absurd (HT.out.yes h.d) (by decide))
      go_wp2
      go_ret
      exact ⟨retB_f HN.out, HBW.out.trans (HB1.out.mono (by omega))⟩
    | true =>
      have HY := hid (show DefP ss fs from HT.out.1 rfl)
      have cL := hid (l04Right_any a1 a2 a6 k1 k2 k6 ss fs es W1 (HDW.out.stay HB1.out) (HEW.out.stay HB1.out (Nat.le_refl _)) HY.out HFE.out N6.out)
      change Hid (Calls _ _ #[.agg #[.slice a1 ss.length k1, .slice a2 fs.length k2], .slice a6 es.length k6] _ _) at cL
      go_wp2_with fail
      refine cL.out.mono ?_
      rintro x W2 ⟨⟨B2, rfl, T2⟩, hb2⟩
      have HB2 := hid (HB1.out.trans (hb2.mono hz1))
      have HT2 := hid T2
      clear T2 hb2 cL
      cases B2 with
      | false =>
        go_wp2
        go_ret
        exact ⟨⟨false, rfl, HT2.out⟩, HBW.out.trans (HB2.out.mono (by omega))⟩
      | true =>
        go_wp2
        go_ret
        exact ⟨⟨true, rfl, HT2.out⟩, HBW.out.trans (HB2.out.mono (by omega))⟩
end Go.Proofs.YtadidjhcgmeadaaGreatDoor
