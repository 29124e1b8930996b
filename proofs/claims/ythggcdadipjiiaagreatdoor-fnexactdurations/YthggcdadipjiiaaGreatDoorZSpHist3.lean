/-
  Texts put together: SpHist, DuI, ImMm.
-/
import Derived.Test.YthggcdadipjiiaaGreatDoorZSpStA6
import Derived.Test.YthggcdadipjiiaaGreatDoorZSpRuns2
import Derived.Test.YthggcdadipjiiaaGreatDoorZSpRun6
import Derived.Test.YthggcdadipjiiaaGreatDoorZSpOf
import Derived.Deep.RegionHeld3
import Derived.Test.YthggcdadipjiiaaGreatDoorZDuF3
import Derived.Test.YthggcdadipjiiaaGreatDoorZRunM6
import Derived.OwnWalk
/-
  What spec.l04Right and spec.HistoryRight answer: contracts over the seat's program.
-/
namespace Go.Proofs.YthggcdadipjiiaaGreatDoor
open Go.RowKit Go.Sort Go.Shelf

theorem histP_all {ss : List ByteArray} {fs : List Pr} {es : List Ev} (h : HistP ss fs es) : allB es = true := allB_yes (fun _ hj => h.ev _ (List.getElem_mem hj))
set_option maxRecDepth 100000 in
set_option maxHeartbeats 4000000 in
theorem l04Right_any (a1 a2 a6 : Option Addr) (k1 k2 k6 : Nat) (ss : List ByteArray) (fs : List Pr) (es : List Ev) (w : World) (hD : DefSl w a1 a2 k1 k2 ss fs) (hE : EvSl w (.slice a6 es.length k6) es) (D : DefP ss fs) (FE : Fit es) (n6 : es.length ≤ maxLen) :
    Calls Tryz.prog 70 #[defV a1 a2 k1 k2 ss fs, .slice a6 es.length k6] w fun x w' => RetB x (HistP ss fs es) ∧ Below w.heap.size w w' := by
  have hbW : Below w.heap.size w (w.alloc (.cells #[.slice a1 ss.length k1, .slice a2 fs.length k2] 26)) := (Below.refl _ _).alloc (Nat.le_refl _) _
  have HX := hid (heap_alloc_new w (.cells #[.slice a1 ss.length k1, .slice a2 fs.length k2] 26))
  have HDW := hid (hD.stay hbW)
  have HEW := hid (hE.stay hbW (Nat.le_refl _))
  have HBW := hid hbW
  have cR := hid (l02All_any (.slice a6 es.length k6) es _ HEW.out FE n6)
  have HFE := hid FE
  have HY := hid D
  have N6 := hid n6
  have hn6 : es.length ≤ 9223372036854775807 := by unfold maxLen at n6; omega
  clear hD hE hbW D FE n6
  have HNB := hid (show (allB es && decide ((es.length : Int) ≤ 200)) = false → ¬ HistP ss fs es from fun h H => by
    rw [histP_all H, Bool.true_and] at h
    have := H.n
    simp at h
    omega)
  have HYB := hid (show (allB es && decide ((es.length : Int) ≤ 200)) = true → es.length ≤ 200 from fun h => by
    simp at h
    omega)
  generalize hAB : (allB es && decide ((es.length : Int) ≤ 200)) = AB at *
  clear hAB
  go_enter Tryz.func70, Tryz.ntmps70
  go_wp2_with fail
  refine cR.out.mono ?_
  generalize hW : w.alloc (.cells #[.slice a1 ss.length k1, .slice a2 fs.length k2] 26) = W at *
  have hzW : W.heap.size = w.heap.size + 1 := by rw [← hW]; simp
  clear hW cR
  rintro x W1 ⟨rfl, hb1⟩
  have HB1 := hid hb1
  have hz1 := hb1.size
  clear hb1
  cases AB with
  | false =>
    have HN := hid (HNB.out rfl)
    go_wp2
    go_ret
    exact ⟨retB_f HN.out, HBW.out.trans (HB1.out.mono (by omega))⟩
  | true =>
    have h2 := HYB.out rfl
    clear HNB HYB
    go_wp2
    go_loopw [5] (fun i wr => ∃ k : Nat, (k ≤ es.length ∨ k = 1) ∧ 1 ≤ k ∧ i = .int .i64 k ∧ (∀ j, (h : j + 1 < es.length) → j + 1 < k → es[j].seq < es[j + 1].seq) ∧ Below W1.heap.size W1 wr) (fun i _ => es.length - (intOf i).toNat)
    case atStart => exact ⟨1, .inr rfl, Nat.le_refl _, rfl, fun j _ hj => absurd hj (by omega), Below.refl _ _⟩
    case round =>
      obtain ⟨k, hk, hk1, rfl, hall, hbel⟩ := hrel
      have HA := hid hall
      have HBr := hid hbel
      have HB := hid (HB1.out.trans (hbel.mono hz1))
      have hzr := hbel.size
      clear hall hbel
      by_cases hlt : k < es.length
      · obtain ⟨g, o, rfl, hQ⟩ := HEW.out.row (by omega)
        obtain ⟨m, rfl⟩ : ∃ m, k = m + 1 := ⟨k - 1, by omega⟩
        have hQr := hQ.stay HB.out (Nat.le_refl _)
        have d0 : wr.drew.cell? ⟨g, o + (m + 1) * 6, none⟩ = some (.int .i64 es[m + 1].seq) := (hQr.2 (m + 1) hlt).c0
        have d1 : wr.drew.cell? ⟨g, o + m * 6, none⟩ = some (.int .i64 es[m].seq) := (hQr.2 m (by omega)).c0
        have e1 : (((m + 1 : Nat) : Int) - 1) = (m : Int) := by omega
        have HS := hid (show ∀ h : es[m].seq < es[m + 1].seq, ∀ j, (hj : j + 1 < es.length) → j + 1 < m + 1 + 1 → es[j].seq < es[j + 1].seq from fun h j hj hjk => by
          by_cases e : j = m
          · subst e; exact h
          · exact HA.out j hj (by omega))
        have HN := hid (show ∀ h : es[m + 1].seq ≤ es[m].seq, ¬ HistP ss fs es from fun h hr => by have := hr.r m hlt; omega)
        clear hQ hQr
        generalize es[m + 1].seq = s1 at *
        generalize es[m].seq = s0 at *
        by_cases hle : s1 ≤ s0
        · go_wp2_with fail
          go_region
          go_wp2
          go_ret
          exact ⟨retB_f (HN.out hle), (HBW.out.trans (HB.out.mono (by omega))).drew⟩
        · go_wp2_with fail
          go_region
          go_wp2
          go_roundw
          case rel => exact ⟨m + 1 + 1, .inl (by omega), by omega, by go_num, HS.out (by omega), HBr.out.drew⟩
          case measure => simp [intOf]; omega
      · have HRI := hid (show RiseP es from fun j hj => HA.out j hj (by omega))
        have cU := hid (l04Runs_any a6 k6 es wr (HEW.out.stay HB.out (Nat.le_refl _)) (by omega))
        clear HA
        obtain ⟨W2, rfl⟩ : ∃ q, q = wr := ⟨_, rfl⟩
        go_wp2_with fail
        refine cU.out.mono ?_
        rintro x W3 ⟨v, rs, rfl, hR, hO, hb3⟩
        have hI := intSl_own hO
        obtain ⟨ra, rc, rfl⟩ := hI.form
        have hrl := hR.len
        have HR := hid hR
        have HI := hid hI
        have HB3 := hid (HB.out.trans (hb3.mono (by omega)))
        have hz3 := hb3.size
        clear hR hI hO hb3 cU
        go_wp2
        go_loopw [7] (fun i wr => ∃ k : Nat, k ≤ rs.length ∧ i = .int .i64 k ∧ (∀ j, (hj : j < rs.length) → j < k → (ofS ss fs (ofRun es rs[j]) z0).1 = 0) ∧ Below W3.heap.size W3 wr) (fun i _ => rs.length - (intOf i).toNat)
        case atStart => exact ⟨0, Nat.zero_le _, rfl, fun j _ hj => absurd hj (by omega), Below.refl _ _⟩
        case round =>
          obtain ⟨k, hk, rfl, hall, hbel⟩ := hrel
          have HA := hid hall
          have HBr := hid hbel
          have hzr := hbel.size
          have HBW' := hid (HB3.out.trans (hbel.mono (by omega)))
          clear hall hbel
          by_cases hlt : k < rs.length
          · obtain ⟨g, o, rfl, hg, hc⟩ := HI.out.row (by omega)
            have c0 := (HBr.out.cell (p := ⟨g, o + k, none⟩) hg).trans (hc k hlt)
            have hx := (HBW'.out.block _ (lt_heap HX.out)).trans HX.out
            have d0 : wr.cell? ⟨w.heap.size, 0, none⟩ = some (.slice a1 ss.length k1) := by rw [Lib.cell_of_heap hx]; rfl
            have d1 : wr.cell? ⟨w.heap.size, 1, none⟩ = some (.slice a2 fs.length k2) := by rw [Lib.cell_of_heap hx]; rfl
            have HST := hid (fun h : (ofS ss fs (ofRun es rs[k]) z0).1 = 0 => show ∀ j, (hj : j < rs.length) → j < k + 1 → (ofS ss fs (ofRun es rs[j]) z0).1 = 0 from fun j hj hjk => by
              by_cases e : j = k
              · subst e; exact h
              · exact HA.out j hj (by omega))
            have HNO := hid (fun h : ¬ (ofS ss fs (ofRun es rs[k]) z0).1 = 0 => histP_no HR.out hlt h)
            have q1 : (0 : Int) ≤ (k : Int) := by omega
            have q2 : (k : Int) < (rs.length : Int) := by omega
            clear hc hx
            generalize rs[k] = r at *
            have hlen := Nat.le_trans (ofRun_len es r) h2
            have hbR : Below wr.heap.size wr wr.drew := (Below.refl _ _).drew
            have cB := hid (fun (X : World) (hX : Below wr.heap.size wr X) => l04Run_any a6 k6 es r X (HEW.out.stay (HBW'.out.trans (hX.mono (by omega))) (Nat.le_refl _)) (by omega))
            have cC := hid (fun (X : World) (a : Option Addr) (c : Nat) (hX : Below wr.heap.size wr X) (hS : EvSl X (.slice a (ofRun es r).length c) (ofRun es r)) => l03Of_any a1 a2 a k1 k2 c ss fs (ofRun es r) X (HDW.out.stay (HBW'.out.trans (hX.mono (by omega)))) hS HY.out (ofRun_step es r (p := fun e => e.step.size ≤ maxLen) (fun i hi => (HFE.out i hi).1)) (by omega))
            generalize hst : ofS ss fs (ofRun es r) z0 = cs at *
            clear hst
            obtain ⟨cc, S'⟩ := cs
            have hfd : ∀ (x0 x1 x2 x6 x7 : Int) (y3 y4 y5 : Option Addr) (n3 n4 n5 m3 m4 m5 : Nat) (w : World), (Instr.field 93 (.agg #[.int .i64 x0, .int .i64 x1, .int .i64 x2, .slice y3 n3 m3, .slice y4 n4 m4, .slice y5 n5 m5, .int .i64 x6, .int .i64 x7]) 1).run Tryz.prog w = .ok (.int .i64 x7) w := fun _ _ _ _ _ _ _ _ _ _ _ _ _ _ _ => by kernel_rfl
            have ld : w.heap.size < wr.heap.size := by omega
            have lg : g < wr.heap.size := by omega
            go_wp2_with fail
            go_region_held3 (fun w' => w'.cell? ⟨w.heap.size, 0, none⟩ = some (.slice a1 ss.length k1) ∧ w'.cell? ⟨w.heap.size, 1, none⟩ = some (.slice a2 fs.length k2) ∧ w'.cell? ⟨g, o + k, none⟩ = some (.int .i64 r)) (go_keep) (first
              | (go_at_call 48; refine (cB.out _ hbR).mono ?_; rintro x V2 ⟨v2, rfl, ho2, hq2⟩; obtain ⟨va, vc, rfl⟩ := ownB_form ho2; have hb2 : Below wr.heap.size wr V2 := hbR.trans (hq2.mono hbR.size); have v20 := (hb2.cell (p := ⟨w.heap.size, 0, none⟩) ld).trans d0; have v21 := (hb2.cell (p := ⟨w.heap.size, 1, none⟩) ld).trans d1; have v22 := (hb2.cell (p := ⟨g, o + k, none⟩) lg).trans c0)
              | (go_at_call 47; refine (cC.out _ _ _ hb2 (sl_of_own ho2)).mono ?_; rintro x V3 ⟨u3, u4, u5, rfl, hO3, hq3⟩; obtain ⟨x3a, x4a, x5a, x3c, x4c, x5c, rfl, rfl, rfl⟩ := hO3.forms; unfold outV; have hb3 : Below wr.heap.size wr V3 := hb2.trans (hq3.mono hb2.size); have v30 := (hb3.cell (p := ⟨w.heap.size, 0, none⟩) ld).trans d0; have v31 := (hb3.cell (p := ⟨w.heap.size, 1, none⟩) ld).trans d1; have v32 := (hb3.cell (p := ⟨g, o + k, none⟩) lg).trans c0))
            have HB9 := hid hb3
            clear hb2 hb3 hq2 hq3 hO3 ho2 v20 v21 v22 v30 v31 v32 d0 d1 c0 cB cC hfd
            by_cases hcc : cc = 0
            · subst hcc
              go_wp2
              go_roundw
              case rel => exact ⟨k + 1, by omega, by go_num, HST.out rfl, HBr.out.trans (HB9.out.mono (by omega))⟩
              case measure => simp [intOf]; omega
            · have hce : (cc != 0) = true := by simpa using hcc
              rw [hce]
              go_wp2
              go_ret
              exact ⟨retB_f (HNO.out hcc), HBW.out.trans ((HBW'.out.trans (HB9.out.mono (by omega))).mono (by omega))⟩
          · have HPH := hid (histP_yes HR.out HY.out h2 HRI.out (fun j hj => HA.out j hj (by omega)))
            go_wp2
            go_ret
            exact ⟨retB_t HPH.out, HBW.out.trans (HBW'.out.mono (by omega))⟩

set_option maxRecDepth 100000 in
set_option maxHeartbeats 4000000 in
theorem specHistoryRight_any (a1 a2 a6 : Option Addr) (k1 k2 k6 : Nat) (ss : List ByteArray) (fs : List Pr) (es : List Ev) (w : World) (hD : DefSl w a1 a2 k1 k2 ss fs) (hE : EvSl w (.slice a6 es.length k6) es) (F1 : ∀ i, (h : i < ss.length) → ss[i].size ≤ maxLen) (FE : Fit es) (n1 : ss.length ≤ maxLen) (n2 : fs.length ≤ maxLen) (n6 : es.length ≤ maxLen) :
    Calls Tryz.prog 29 #[defV a1 a2 k1 k2 ss fs, .slice a6 es.length k6] w fun x w' => RetB x (HistP ss fs es) ∧ Below w.heap.size w w' := by
  have hbW : Below w.heap.size w (w.alloc (.cells #[.slice a1 ss.length k1, .slice a2 fs.length k2] 26)) := (Below.refl _ _).alloc (Nat.le_refl _) _
  have HX := hid (heap_alloc_new w (.cells #[.slice a1 ss.length k1, .slice a2 fs.length k2] 26))
  have HDW := hid (hD.stay hbW)
  have HEW := hid (hE.stay hbW (Nat.le_refl _))
  have HBW := hid hbW
  have cR := hid (specDefRight_any a1 a2 k1 k2 ss fs _ HDW.out.h1 HDW.out.h2 F1 n1 n2)
  have HFE := hid FE
  have N6 := hid n6
  have hn6 : es.length ≤ 9223372036854775807 := by unfold maxLen at n6; omega
  clear hD hE hbW F1 FE n1 n2 n6
  by_cases h4 : es.length ≤ 400
  case neg =>
    have HN := hid (show ¬ HistP ss fs es from fun h => by have := h.n; omega)
    clear cR
    go_enter Tryz.func29, Tryz.ntmps29
    go_wp2
    go_ret
    exact ⟨retB_f HN.out, HBW.out⟩
  case pos =>
    go_enter Tryz.func29, Tryz.ntmps29
    go_wp2_with fail
    refine cR.out.mono ?_
    generalize hW : w.alloc (.cells #[.slice a1 ss.length k1, .slice a2 fs.length k2] 26) = W at *
    have hzW : W.heap.size = w.heap.size + 1 := by rw [← hW]; simp
    clear hW cR
    rintro x W1 ⟨⟨B1, rfl, T⟩, hb1⟩
    have HB1 := hid hb1
    have HT := hid T
    have hz1 := hb1.size
    have hx := (hb1.block _ (lt_heap HX.out)).trans HX.out
    have d0 : W1.cell? ⟨w.heap.size, 0, none⟩ = some (.slice a1 ss.length k1) := by rw [Lib.cell_of_heap hx]; rfl
    have d1 : W1.cell? ⟨w.heap.size, 1, none⟩ = some (.slice a2 fs.length k2) := by rw [Lib.cell_of_heap hx]; rfl
    clear T hb1 hx
    cases B1 with
    | false =>
      have HN := hid (show ¬ HistP ss fs es from fun h => absurd (HT.out.yes h.d) (by decide))
      go_wp2
      go_ret
      exact ⟨retB_f HN.out, HBW.out.trans (HB1.out.mono (by omega))⟩
    | true =>
      have HY := hid (show DefP ss fs from HT.out.1 rfl)
      have cL := hid (l04Right_any a1 a2 a6 k1 k2 k6 ss fs es W1 (HDW.out.stay HB1.out) (HEW.out.stay HB1.out (Nat.le_refl _)) HY.out HFE.out N6.out)
      change Hid (Calls _ _ #[.agg #[.slice a1 ss.length k1, .slice a2 fs.length k2], .slice a6 es.length k6] _ _) at cL
      go_wp2_with fail
      refine cL.out.mono ?_
      rintro x W2 ⟨⟨B2, rfl, T2⟩, hb2⟩
      have HB2 := hid (HB1.out.trans (hb2.mono hz1))
      have HT2 := hid T2
      clear T2 hb2 cL
      cases B2 with
      | false =>
        go_wp2
        go_ret
        exact ⟨⟨false, rfl, HT2.out⟩, HBW.out.trans (HB2.out.mono (by omega))⟩
      | true =>
        go_wp2
        go_ret
        exact ⟨⟨true, rfl, HT2.out⟩, HBW.out.trans (HB2.out.mono (by omega))⟩
end Go.Proofs.YthggcdadipjiiaaGreatDoor

/-
  How long steps lasted, told step by step in the steps' order: the same. Of no function.
-/
namespace Go.Proofs.YthggcdadipjiiaaGreatDoor
open Go.RowKit Go.Sort
set_option linter.unusedVariables false

theorem evS_busy_step {ss : List ByteArray} {fs : List Pr} {S : St} {e : Ev} (hS : StP ss S) (h0 : (evS ss fs S e).1 = 0) (h3 : e.kind = 3) : e.step ∈ ss := by
  unfold evS at h0
  by_cases he : evB e = true
  · rw [if_pos he] at h0
    unfold stepS at h0
    by_cases ha : awB S.status e.kind = true
    · rw [if_pos ha] at h0
      have h1 : S.status = 1 := (aw_st ha).2 (by omega)
      by_cases hl : e.time < S.last
      · rw [if_pos hl] at h0; exact absurd h0 (by decide)
      · rw [if_neg hl] at h0
        unfold doS at h0
        rw [if_neg (by omega), if_neg (by omega), if_pos h3] at h0
        by_cases hb : atI S.busy e.step < 0
        · rw [if_pos hb] at h0; exact absurd h0 (by decide)
        · exact ((stP_1 h1).1 hS).b.all _ (at_lt hb).2
    · rw [if_neg ha] at h0; exact absurd h0 (by decide)
  · rw [if_neg he] at h0; exact absurd h0 (by decide)
theorem evS_st {ss : List ByteArray} {fs : List Pr} {S : St} {e : Ev} (D : DefP ss fs) (hS : StP ss S) (h0 : (evS ss fs S e).1 = 0) : StP ss (evS ss fs S e).2 := by
  unfold evS at h0 ⊢
  by_cases he : evB e = true
  · rw [if_pos he] at h0 ⊢
    exact stepS_right D hS he h0
  · rw [if_neg he] at h0; exact absurd h0 (by decide)
theorem ofS_stepIn {ss : List ByteArray} {fs : List Pr} (D : DefP ss fs) : ∀ (es : List Ev) (S : St), StP ss S → (ofS ss fs es S).1 = 0 → ∀ e ∈ es, e.kind = 3 → e.step ∈ ss
  | [], _, _, _, e, he, _ => absurd he (by simp)
  | x :: r, S, hS, h, e, he, h3 => by
    unfold ofS at h
    by_cases h0 : (evS ss fs S x).1 = 0
    · rw [if_pos h0] at h
      rcases List.mem_cons.1 he with rfl | he
      · exact evS_busy_step hS h0 h3
      · exact ofS_stepIn D r _ (evS_st D hS h0) h e he h3
    · rw [if_neg h0] at h; exact absurd h h0
/-- A step that was left stands in the Def. -/
theorem HistP.step {ss : List ByteArray} {fs : List Pr} {es : List Ev} (h : HistP ss fs es) : ∀ e ∈ es, e.kind = 3 → e.step ∈ ss := fun e he h3 =>
  ofS_stepIn h.d _ _ (z0_right ss) (h.o e he) e (List.mem_filter.2 ⟨he, by simp⟩) h3

/-- What is told of a step that lasted so long each time. -/
def durL (s : ByteArray) : List Int → Dur
  | [] => newD s 0
  | x :: r => r.foldl Dur.more (newD s x)
theorem fold_step : ∀ (r : List Int) (d : Dur), (r.foldl Dur.more d).step = d.step
  | [], _ => rfl
  | _ :: r, d => fold_step r _
theorem fold_of : ∀ (r l : List Int) (d : Dur), DurOf d l → DurOf (r.foldl Dur.more d) (l ++ r)
  | [], l, d, h => by simpa using h
  | x :: r, l, d, h => by
    have := fold_of r (l ++ [x]) (d.more x) (h.more x)
    simpa using this
theorem durL_step (s : ByteArray) (l : List Int) : (durL s l).step = s := by
  cases l with
  | nil => rfl
  | cons x r => exact fold_step r _
theorem durL_of (s : ByteArray) {l : List Int} (h : l ≠ []) : DurOf (durL s l) l := by
  cases l with
  | nil => exact absurd rfl h
  | cons x r => exact fold_of r [x] _ (newD_of s x)
theorem fold_vals : ∀ (r : List Int) (d : Dur), r.foldl Dur.more d = ⟨d.step, d.count + r.length, d.sum + r.sum, r.foldl minI d.least, r.foldl maxI d.most⟩
  | [], d => by simp
  | x :: r, d => by
    rw [List.foldl_cons, fold_vals r (d.more x)]
    simp only [Dur.more, List.length_cons, List.sum_cons, List.foldl_cons]
    congr 1
    · omega
    · omega
theorem durL_vals (s : ByteArray) (x : Int) (r : List Int) : durL s (x :: r) = ⟨s, ((x :: r).length : Int), (x :: r).sum, r.foldl minI x, r.foldl maxI x⟩ := by
  show r.foldl Dur.more (newD s x) = _
  rw [fold_vals]
  simp only [newD, List.length_cons, List.sum_cons]
  congr 1
  omega
/-- What is told of these steps, those that lasted. -/
def dursS (D : ByteArray → List Int) (st : List ByteArray) : List Dur := st.filterMap fun s => if D s = [] then none else some (durL s (D s))
theorem dursS_mem {D : ByteArray → List Int} {st : List ByteArray} {e : Dur} : e ∈ dursS D st ↔ ∃ s ∈ st, D s ≠ [] ∧ e = durL s (D s) := by
  unfold dursS
  rw [List.mem_filterMap]
  constructor
  · rintro ⟨s, hs, h⟩
    by_cases hD : D s = []
    · rw [if_pos hD] at h; cases h
    · rw [if_neg hD] at h; cases h; exact ⟨s, hs, hD, rfl⟩
  · rintro ⟨s, hs, hD, rfl⟩
    exact ⟨s, hs, if_neg hD⟩
theorem isDurs_S {D : ByteArray → List Int} {st : List ByteArray} (hst : st.Pairwise (fun a b => lt a b = true)) (hm : ∀ s, D s ≠ [] → s ∈ st) : IsDurs (dursS D st) D := by
  refine ⟨?_, fun s => ⟨?_, fun h => ?_⟩, fun e he => ?_⟩
  · unfold dursS
    rw [List.pairwise_filterMap]
    refine hst.imp ?_
    intro a b hab x hx y hy
    by_cases ha : D a = []
    · rw [if_pos ha] at hx; cases hx
    · rw [if_neg ha] at hx
      cases hx
      by_cases hb : D b = []
      · rw [if_pos hb] at hy; cases hy
      · rw [if_neg hb] at hy
        cases hy
        rw [durL_step, durL_step]; exact hab
  · rintro ⟨e, he, rfl⟩
    obtain ⟨t, ht, hD, rfl⟩ := dursS_mem.1 he
    rw [durL_step]; exact hD
  · exact ⟨_, dursS_mem.2 ⟨s, hm s h, h, rfl⟩, durL_step _ _⟩
  · obtain ⟨t, ht, hD, rfl⟩ := dursS_mem.1 he
    rw [durL_step]; exact durL_of t hD
theorem dursS_take {D : ByteArray → List Int} {st : List ByteArray} {k : Nat} (h : k < st.length) : dursS D (st.take (k + 1)) = dursS D (st.take k) ++ (if D st[k] = [] then [] else [durL st[k] (D st[k])]) := by
  unfold dursS
  rw [List.take_succ_eq_append_getElem h, List.filterMap_append]
  congr 1
  by_cases hD : D st[k] = [] <;> simp [hD]
theorem dursS_len (D : ByteArray → List Int) (st : List ByteArray) : (dursS D st).length ≤ st.length := List.length_filterMap_le _ _
/-- The steps in their order. -/
theorem steps_sorted {ss : List ByteArray} (hnd : ss.Nodup) : ∃ st : List ByteArray, st.map txt = srt (ss.map txt) ∧ st.Perm ss ∧ st.Pairwise (fun a b => lt a b = true) := by
  have ht : ∀ t : Tx, txt ⟨t.toArray⟩ = t := fun t => by simp [txt]
  have hmk : ∀ s : ByteArray, (⟨(txt s).toArray⟩ : ByteArray) = s := fun s => by simp [txt]
  have h1 : ((srt (ss.map txt)).map fun t => (⟨t.toArray⟩ : ByteArray)).map txt = srt (ss.map txt) := by
    rw [List.map_map]
    conv => rhs; rw [← List.map_id (srt (ss.map txt))]
    exact List.map_congr_left fun t _ => ht t
  have h2 : ((srt (ss.map txt)).map fun t => (⟨t.toArray⟩ : ByteArray)).Perm ss := by
    refine ((srt_perm (ss.map txt)).map _).trans ?_
    rw [List.map_map]
    have : (ss.map ((fun t => (⟨t.toArray⟩ : ByteArray)) ∘ txt)) = ss := by
      conv => rhs; rw [← List.map_id ss]
      exact List.map_congr_left fun t _ => hmk t
    rw [this]
  generalize (srt (ss.map txt)).map (fun t => (⟨t.toArray⟩ : ByteArray)) = st at *
  refine ⟨st, h1, h2, ?_⟩
  have ha : Asc (st.map txt) := by rw [h1]; exact srt_asc _
  have hn : st.Nodup := h2.nodup_iff.2 hnd
  unfold Asc at ha
  rw [List.pairwise_map] at ha
  refine (ha.and hn).imp ?_
  rintro a b ⟨hab, hne⟩
  rcases less_tri a.toList b.toList with h | h | h
  · exact h
  · exact absurd (toList_inj h) hne
  · exact absurd (leB_anti hab (leB_of_lt (show lt b a = true from h))) (fun e => hne (by rw [← hmk a, ← hmk b, e]))
end Go.Proofs.YthggcdadipjiiaaGreatDoor

/-
  slices.Min and slices.Max of numbers: contracts over the seat's program.
-/
namespace Go.Proofs.YthggcdadipjiiaaGreatDoor
open Go.RowKit

theorem fold_take (f : Int → Int → Int) (x : Int) {r : List Int} {k : Nat} (h : k < r.length) : (r.take (k + 1)).foldl f x = f ((r.take k).foldl f x) r[k] := by
  rw [List.take_succ_eq_append_getElem h, List.foldl_append]; rfl
set_option maxRecDepth 100000 in
set_option maxHeartbeats 4000000 in
theorem min_any (g o c : Nat) (x : Int) (r : List Int) (w : World) (c0 : w.cell? ⟨g, o, none⟩ = some (.int .i64 x)) (hc : ∀ i, (h : i < r.length) → w.cell? ⟨g, o + (i + 1), none⟩ = some (.int .i64 r[i])) (hn : r.length < maxLen) :
    Calls Tryz.prog 68 #[.slice (some ⟨g, o, none⟩) (r.length + 1) c] w fun e w' => e = .returned (.int .i64 (r.foldl minI x)) ∧ w' = w := by
  unfold maxLen at hn
  have HC := hid hc
  have C0 := hid c0
  clear hc
  have q1 : (0 : Int) < (r.length : Int) + 1 := by omega
  have q3 : (1 : Int) ≤ (r.length : Int) + 1 := by omega
  go_enter Tryz.func68, Tryz.ntmps68
  go_wp2
  go_loopw [3, 4] (fun m i wr => ∃ k : Nat, k ≤ r.length ∧ i = .int .i64 ((k : Int) + 1) ∧ m = .int .i64 ((r.take k).foldl minI x) ∧ wr = w) (fun _ i _ => r.length + 1 - (intOf i).toNat)
  case atStart => exact ⟨0, Nat.zero_le _, rfl, rfl, rfl⟩
  case round =>
    obtain ⟨k, hk, rfl, rfl, rfl⟩ := hrel
    by_cases hlt : k < r.length
    · have ck := HC.out k hlt
      have HF := hid (fold_take minI x hlt)
      generalize (r.take k).foldl minI x = a at *
      generalize r[k] = b at *
      have q4 : (0 : Int) ≤ (k : Int) + 1 := by omega
      have q5 : (k : Int) + 1 < (r.length : Int) + 1 := by omega
      have hm : min a b = minI a b := by unfold minI; omega
      go_wp2
      go_roundw
      case rel => exact ⟨k + 1, by omega, by go_num, by rw [HF.out], trivial⟩
      case measure => simp [intOf]; omega
    · obtain rfl : k = r.length := by omega
      go_wp2
      go_ret
      exact ⟨by rw [List.take_length]; rfl, rfl⟩
set_option maxRecDepth 100000 in
set_option maxHeartbeats 4000000 in
theorem max_any (g o c : Nat) (x : Int) (r : List Int) (w : World) (c0 : w.cell? ⟨g, o, none⟩ = some (.int .i64 x)) (hc : ∀ i, (h : i < r.length) → w.cell? ⟨g, o + (i + 1), none⟩ = some (.int .i64 r[i])) (hn : r.length < maxLen) :
    Calls Tryz.prog 69 #[.slice (some ⟨g, o, none⟩) (r.length + 1) c] w fun e w' => e = .returned (.int .i64 (r.foldl maxI x)) ∧ w' = w := by
  unfold maxLen at hn
  have HC := hid hc
  have C0 := hid c0
  clear hc
  have q1 : (0 : Int) < (r.length : Int) + 1 := by omega
  have q3 : (1 : Int) ≤ (r.length : Int) + 1 := by omega
  go_enter Tryz.func69, Tryz.ntmps69
  go_wp2
  go_loopw [3, 4] (fun m i wr => ∃ k : Nat, k ≤ r.length ∧ i = .int .i64 ((k : Int) + 1) ∧ m = .int .i64 ((r.take k).foldl maxI x) ∧ wr = w) (fun _ i _ => r.length + 1 - (intOf i).toNat)
  case atStart => exact ⟨0, Nat.zero_le _, rfl, rfl, rfl⟩
  case round =>
    obtain ⟨k, hk, rfl, rfl, rfl⟩ := hrel
    by_cases hlt : k < r.length
    · have ck := HC.out k hlt
      have HF := hid (fold_take maxI x hlt)
      generalize (r.take k).foldl maxI x = a at *
      generalize r[k] = b at *
      have q4 : (0 : Int) ≤ (k : Int) + 1 := by omega
      have q5 : (k : Int) + 1 < (r.length : Int) + 1 := by omega
      have hm : max a b = maxI a b := by unfold maxI; omega
      go_wp2
      go_roundw
      case rel => exact ⟨k + 1, by omega, by go_num, by rw [HF.out], trivial⟩
      case measure => simp [intOf]; omega
    · obtain rfl : k = r.length := by omega
      go_wp2
      go_ret
      exact ⟨by rw [List.take_length]; rfl, rfl⟩
end Go.Proofs.YthggcdadipjiiaaGreatDoor
