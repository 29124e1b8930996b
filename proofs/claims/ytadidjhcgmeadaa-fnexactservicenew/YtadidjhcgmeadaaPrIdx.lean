/-
  What slices.Index and slices.Contains answer at a row of flows: contracts over the seat's program.
-/
import Derived.Test.YtadidjhcgmeadaaDfMath
import Derived.Lib.QuietBelow
import Derived.Laws.StructEq
namespace Go.Proofs.Ytadidjhcgmeadaa
open Go.RowKit Go.Sort

set_option maxRecDepth 100000 in
set_option maxHeartbeats 1000000 in
theorem idxP_row (g o c : Nat) (ps : List Pr) (x y : ByteArray) (w : World) (hE : PrsAt w g o ps) (hn : ps.length ≤ maxLen) :
    Calls Try.prog 50 #[.slice (some ⟨g, o, none⟩) ps.length c, .agg #[.string x, .string y]] w fun e w' => ∃ I : Int, e = .returned (.int .i64 I) ∧ (0 ≤ I ↔ (⟨x, y⟩ : Pr) ∈ ps) ∧ Below w.heap.size w w' := by
  unfold maxLen at hn
  have mixed : Try.prog.follows .mixedOrders = true := by kernel_rfl
  have HE := hid hE
  clear hE
  go_enter Try.func50, Try.ntmps50
  go_wp2
  go_loopw [8] (fun i wr => ∃ k : Nat, k ≤ ps.length ∧ i = .int .i64 k ∧ (∀ j, j < k → (h : j < ps.length) → ps[j] ≠ ⟨x, y⟩) ∧ Below (w.heap.size + 1) (w.alloc (.cells #[.string x, .string y] 57)) wr) (fun i _ => ps.length - (intOf i).toNat)
  case atStart => exact ⟨0, Nat.zero_le _, rfl, fun j hj => absurd hj (by omega), Below.refl _ _⟩
  case round =>
    obtain ⟨k, hk, rfl, hall, hbel⟩ := hrel
    have HA := hid hall
    clear hall
    have hbw : Below w.heap.size w wr := ((Below.refl w.heap.size w).alloc (Nat.le_refl _) _).trans (hbel.mono (by omega))
    by_cases hlt : k < ps.length
    · obtain ⟨c0, c1⟩ := (HE.out.stay hbw (Nat.le_refl _)).2 k hlt
      have b0 : wr.cell? ⟨w.heap.size, 0, none⟩ = some (.string x) := by rw [hbel.cell (p := ⟨w.heap.size, 0, none⟩) (Nat.lt_succ_self _)]; simp [go_sem]
      have b1 : wr.cell? ⟨w.heap.size, 1, none⟩ = some (.string y) := by rw [hbel.cell (p := ⟨w.heap.size, 1, none⟩) (Nat.lt_succ_self _)]; simp [go_sem]
      by_cases he : ps[k].fst = x
      · by_cases he2 : ps[k].snd = y
        · have HM := hid (show (⟨x, y⟩ : Pr) ∈ ps from (show ps[k] = ⟨x, y⟩ from pr_ext he he2) ▸ List.getElem_mem hlt)
          rw [he] at c0
          rw [he2] at c1
          clear he he2
          have k0 := cell_regrown c0
          have k1 := cell_regrown c1
          have l0 := cell_regrown b0
          have l1 := cell_regrown b1
          clear c0 c1 b0 b1
          go_wp2
          refine wp_region_quiet_below mixed (by kernel_rfl) ?_
          repeat (quiet_step (fail))
          refine wpQuiet_nil ?_
          intro _ hw'
          obtain ⟨⟨dq, osq⟩, hw''⟩ := hw'
          subst hw''
          have hbX := hbel.trans ((below_regrown wr dq osq).mono (by have := hbel.size; simpa using this))
          have hbY := hbw.trans ((below_regrown wr dq osq).mono hbw.size)
          clear k0 k1 l0 l1
          go_wp2
          go_ret
          exact ⟨k, rfl, ⟨fun _ => HM.out, fun _ => by omega⟩, hbY⟩
        · have HO := hid (ne_step (hk := hlt) HA.out (fun e => he2 (congrArg Pr.snd e)))
          have hne := str_ne (fun e => he2 e.symm)
          rw [he] at c0
          generalize ps[k].snd = q2 at *
          clear he he2
          have k0 := cell_regrown c0
          have k1 := cell_regrown c1
          have l0 := cell_regrown b0
          have l1 := cell_regrown b1
          clear c0 c1 b0 b1
          go_wp2
          refine wp_region_quiet_below mixed (by kernel_rfl) ?_
          repeat (quiet_step (fail))
          refine wpQuiet_nil ?_
          intro _ hw'
          obtain ⟨⟨dq, osq⟩, hw''⟩ := hw'
          subst hw''
          have hbX := hbel.trans ((below_regrown wr dq osq).mono (by have := hbel.size; simpa using this))
          have hbY := hbw.trans ((below_regrown wr dq osq).mono hbw.size)
          clear k0 k1 l0 l1
          go_wp2
          go_roundw
          case rel => exact ⟨k + 1, by omega, by go_num, HO.out, hbX⟩
          case measure => simp [intOf]; omega
      · have HO := hid (ne_step (hk := hlt) HA.out (fun e => he (congrArg Pr.fst e)))
        have hne := str_ne (fun e => he e.symm)
        generalize ps[k].fst = q1 at *
        generalize ps[k].snd = q2 at *
        clear he
        have k0 := cell_regrown c0
        have k1 := cell_regrown c1
        have l0 := cell_regrown b0
        have l1 := cell_regrown b1
        clear c0 c1 b0 b1
        go_wp2
        refine wp_region_quiet_below mixed (by kernel_rfl) ?_
        repeat (quiet_step (fail))
        refine wpQuiet_nil ?_
        intro _ hw'
        obtain ⟨⟨dq, osq⟩, hw''⟩ := hw'
        subst hw''
        have hbX := hbel.trans ((below_regrown wr dq osq).mono (by have := hbel.size; simpa using this))
        have hbY := hbw.trans ((below_regrown wr dq osq).mono hbw.size)
        clear k0 k1 l0 l1
        go_wp2
        go_roundw
        case rel => exact ⟨k + 1, by omega, by go_num, HO.out, hbX⟩
        case measure => simp [intOf]; omega
    · have HF := hid (ne_all HA.out (by omega))
      go_wp2
      go_ret
      exact ⟨-1, rfl, ⟨fun e => absurd e (by decide), fun e => absurd e HF.out⟩, hbw⟩
theorem idxP_none (a : Option Addr) (c : Nat) (x y : ByteArray) (w : World) :
    Calls Try.prog 50 #[.slice a 0 c, .agg #[.string x, .string y]] w fun e w' => ∃ I : Int, e = .returned (.int .i64 I) ∧ (0 ≤ I ↔ (⟨x, y⟩ : Pr) ∈ ([] : List Pr)) ∧ Below w.heap.size w w' := by
  go_enter Try.func50, Try.ntmps50
  go_wp2
  go_loop [8] (fun i => i = .int .i64 0) (fun _ => 0)
  case atStart => exact rfl
  case round =>
    subst hrel
    go_wp2
    go_ret
    exact ⟨(-1 : Int), rfl, by first | decide | simp, (Below.refl _ _).alloc (Nat.le_refl _) _⟩
theorem idxP_any (v : Value) (ps : List Pr) (x y : ByteArray) (w : World) (h : PrSl w v ps) (hn : ps.length ≤ maxLen) :
    Calls Try.prog 50 #[v, .agg #[.string x, .string y]] w fun e w' => ∃ I : Int, e = .returned (.int .i64 I) ∧ (0 ≤ I ↔ (⟨x, y⟩ : Pr) ∈ ps) ∧ Below w.heap.size w w' := by
  rcases h with ⟨a, c, rfl, rfl⟩ | ⟨g, o, c, rfl, _, h⟩
  · exact idxP_none a c x y w
  · exact idxP_row g o c ps x y w h hn
set_option maxRecDepth 100000 in
theorem hasP_any (v : Value) (ps : List Pr) (x y : ByteArray) (w : World) (h : PrSl w v ps) (hn : ps.length ≤ maxLen) :
    Calls Try.prog 48 #[v, .agg #[.string x, .string y]] w fun e w' => RetB e ((⟨x, y⟩ : Pr) ∈ ps) ∧ Below w.heap.size w w' := by
  obtain ⟨a, c, rfl⟩ := h.form
  have HE := hid h
  have HN := hid hn
  clear h hn
  go_enter Try.func48, Try.ntmps48
  go_wp2_with fail
  refine (idxP_any _ ps x y _ (HE.out.stay ((Below.refl w.heap.size w).alloc (Nat.le_refl _) _) (Nat.le_refl _)) HN.out).mono ?_
  rintro e w1 ⟨I, rfl, hI, hb1⟩
  have HI := hid hI
  have hbA : Below w.heap.size w w1 := ((Below.refl w.heap.size w).alloc (Nat.le_refl _) _).trans (hb1.mono (B' := w.heap.size) (by simp))
  clear hI hb1
  go_wp2
  go_ret
  exact ⟨⟨decide (0 ≤ I), rfl, ⟨fun e => HI.out.1 (of_decide_eq_true e), fun e => decide_eq_true (HI.out.2 e)⟩⟩, hbA⟩
end Go.Proofs.Ytadidjhcgmeadaa
