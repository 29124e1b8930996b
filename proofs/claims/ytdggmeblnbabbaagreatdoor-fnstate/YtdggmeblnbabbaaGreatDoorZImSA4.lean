/-
  Texts put together: ImSA, AtX, ImMk, ImVr.
-/
import Derived.Test.YtdggmeblnbabbaaGreatDoorZImHpd
import Derived.Test.YtdggmeblnbabbaaGreatDoorZImMap5
import Derived.Test.YtdggmeblnbabbaaGreatDoorZDfMath5
import Derived.Test.YtdggmeblnbabbaaGreatDoorZSpDef
/-
  What one event does, told of the State. Of no function. (Cut off ImSS.)
-/
namespace Go.Proofs.YtdggmeblnbabbaaGreatDoor
open Go.RowKit Go.Maps Go.WideMaps Go.Sort

theorem evS_no {ss : List ByteArray} {fs : List Pr} {S : St} {e : Ev} (h : ¬ (evS ss fs S e).1 = 0) : (evS ss fs S e).2 = z0 := by
  unfold evS at h ⊢
  by_cases h1 : evB e = true
  · rw [if_pos h1] at h ⊢
    unfold stepS at h ⊢
    by_cases h2 : awB S.status e.kind = true
    · rw [if_pos h2] at h ⊢
      by_cases h3 : e.time < S.last
      · rw [if_pos h3]
      · rw [if_neg h3] at h ⊢; exact doS_no h
    · rw [if_neg h2]
  · rw [if_neg h1]
theorem ofS_one (ss : List ByteArray) (fs : List Pr) (S : St) (e : Ev) : ofS ss fs [e] S = evS ss fs S e := by
  have q1 : ofS ss fs [e] S = if (evS ss fs S e).1 = 0 then (0, (evS ss fs S e).2) else ((evS ss fs S e).1, z0) := rfl
  rw [q1]
  by_cases h : (evS ss fs S e).1 = 0
  · rw [if_pos h, ← h]
  · rw [if_neg h, ← evS_no h]
theorem rS_ev {ss : List ByteArray} {fs : List Pr} {S : St} {e : Ev} (h : DefP ss fs ∧ StP ss S) : rS ss fs S e = evS ss fs S e := by
  unfold evS
  by_cases he : evB e = true
  · rw [if_pos he, rS_yes ⟨h, he⟩]
  · rw [if_neg he, rS_no (fun k => he k.2)]
/-- A row of one event, laid new. -/
theorem ev_one (w : World) (e : Ev) : EvSl (w.alloc (.cells #[.int .i64 e.seq, .int .i64 e.time, .int .i64 e.run, .int .i64 e.kind, .string e.step, .string e.val] 31)) (.slice (some ⟨w.heap.size, 0, none⟩) [e].length 1) [e] := by
  have h := heap_alloc_new w (.cells #[.int .i64 e.seq, .int .i64 e.time, .int .i64 e.run, .int .i64 e.kind, .string e.step, .string e.val] 31 (0, 0))
  refine .inr ⟨w.heap.size, 0, 1, rfl, by simp, lt_heap h, fun i hi => ?_⟩
  have hi0 : i = 0 := by simpa using hi
  subst hi0
  constructor <;> (rw [Lib.cell_of_heap h]; rfl)
end Go.Proofs.YtdggmeblnbabbaaGreatDoor

/-
  The place of a text in a row of texts, as impl.contains and its like find it (slices.Index): a contract over the seat's program.
-/
namespace Go.Proofs.YtdggmeblnbabbaaGreatDoor
open Go.RowKit

theorem idxS_row (g o c : Nat) (ss : List ByteArray) (t : ByteArray) (w : World) (hE : StrsAt w g o ss) (hn : ss.length ≤ maxLen) :
    Calls Tryz.prog 68 #[.slice (some ⟨g, o, none⟩) ss.length c, .string t] w fun e w' => e = .returned (.int .i64 (atI ss t)) ∧ w' = w := by
  unfold maxLen at hn
  have HE := hid hE
  clear hE
  go_enter Tryz.func68, Tryz.ntmps68
  go_wp2
  go_loop [8] (fun i => ∃ k : Nat, k ≤ ss.length ∧ i = .int .i64 k ∧ ∀ j, j < k → (h : j < ss.length) → ss[j] ≠ t) (fun i => ss.length - (intOf i).toNat)
  case atStart => exact ⟨0, Nat.zero_le _, rfl, fun j hj => absurd hj (by omega)⟩
  case round =>
    obtain ⟨k, hk, rfl, hall⟩ := hrel
    have HA := hid hall
    clear hall
    by_cases hlt : k < ss.length
    · have c0 := HE.out.2 k hlt
      by_cases he : ss[k] = t
      · have HF := hid (atI_first hlt HA.out he)
        rw [he] at c0
        clear he
        go_wp2
        go_ret
        exact ⟨ret_int HF.out.symm, rfl⟩
      · have HO := hid (ne_step (hk := hlt) HA.out he)
        have hne := str_ne (fun e => he e.symm)
        clear he
        go_wp2
        go_round
        case rel => exact ⟨k + 1, by omega, by go_num, HO.out⟩
        case measure => simp [intOf]; omega
    · have HF := hid (atI_out (ne_all HA.out (by omega)))
      go_wp2
      go_ret
      exact ⟨ret_int HF.out.symm, rfl⟩
theorem idxS_none (a : Option Addr) (c : Nat) (t : ByteArray) (w : World) :
    Calls Tryz.prog 68 #[.slice a 0 c, .string t] w fun e w' => e = .returned (.int .i64 (-1)) ∧ w' = w := by
  go_enter Tryz.func68, Tryz.ntmps68
  go_wp2
  go_loop [8] (fun i => i = .int .i64 0) (fun _ => 0)
  case atStart => exact rfl
  case round =>
    subst hrel
    go_wp2
    go_ret
    exact ⟨rfl, rfl⟩
theorem idxS_any (v : Value) (ss : List ByteArray) (t : ByteArray) (w : World) (h : StrSl w v ss) (hn : ss.length ≤ maxLen) :
    Calls Tryz.prog 68 #[v, .string t] w fun e w' => e = .returned (.int .i64 (atI ss t)) ∧ w' = w := by
  rcases h with ⟨a, c, rfl, rfl⟩ | ⟨g, o, c, rfl, _, h⟩
  · exact idxS_none a c t w
  · exact idxS_row g o c ss t w h hn
theorem hasS_any (v : Value) (ss : List ByteArray) (t : ByteArray) (w : World) (h : StrSl w v ss) (hn : ss.length ≤ maxLen) :
    Calls Tryz.prog 52 #[v, .string t] w fun e w' => e = .returned (.bool (inB ss t)) ∧ w' = w := by
  obtain ⟨a, c, rfl⟩ := h.form
  have c1 := idxS_any (.slice a ss.length c) ss t w h hn
  have HI := hid (show inB ss t = decide (0 ≤ atI ss t) from rfl)
  generalize inB ss t = B at *
  generalize atI ss t = I at *
  clear h hn
  go_enter Tryz.func52, Tryz.ntmps52
  go_wp2_with fail
  refine c1.mono ?_
  rintro e w1 ⟨rfl, rfl⟩
  go_wp2
  go_ret
  exact ⟨ret_bool (by rw [HI.out]), rfl⟩
end Go.Proofs.YtdggmeblnbabbaaGreatDoor

/-
  What cmp.Less, slices.IsSorted and impl.listRight answer at rows of texts: contracts over the seat's program.
-/
namespace Go.Proofs.YtdggmeblnbabbaaGreatDoor
open Go.RowKit Go.Sort

theorem isNaN_any (x : ByteArray) (w : World) : Calls Tryz.prog 100 #[.string x] w fun e w' => e = .returned (.bool false) ∧ w' = w := by
  go_enter Tryz.func100, Tryz.ntmps100
  go_wp2
  go_ret
  exact ⟨rfl, rfl⟩
theorem less_any (x y : ByteArray) (w : World) : Calls Tryz.prog 93 #[.string x, .string y] w fun e w' => e = .returned (.bool (lt x y)) ∧ w' = w := by
  have HL := hid (show lt x y = Op.bytesLess x.toList y.toList from rfl)
  generalize lt x y = B at *
  have c1 := fun w => isNaN_any x w
  go_enter Tryz.func93, Tryz.ntmps93
  go_wp2_with fail
  refine (c1 _).mono ?_
  rintro e w1 ⟨rfl, rfl⟩
  go_wp2
  go_ret
  exact ⟨ret_bool HL.out.symm, rfl⟩
set_option maxRecDepth 100000 in
set_option maxHeartbeats 1000000 in
theorem isSorted_row (g o c : Nat) (l : List ByteArray) (w : World) (hE : StrsAt w g o l) (h0 : 0 < l.length) (n2 : l.length ≤ maxLen) :
    Calls Tryz.prog 82 #[.slice (some ⟨g, o, none⟩) l.length c] w fun e w' => RetB e (Sorted l) ∧ Below w.heap.size w w' := by
  have mixed : Tryz.prog.follows .mixedOrders = true := by kernel_rfl
  have HE := hid hE
  unfold maxLen at n2
  clear hE
  go_enter Tryz.func82, Tryz.ntmps82
  go_wp2
  go_loopw [3] (fun i wr => ∃ k : Nat, k < l.length ∧ i = .int .i64 k ∧ (∀ j, k ≤ j → (h : j + 1 < l.length) → lt l[j + 1] l[j] = false) ∧ Below w.heap.size w wr) (fun i _ => (intOf i).toNat)
  case atStart => exact ⟨l.length - 1, by omega, by congr 1; omega, fun j hj h => absurd h (by omega), Below.refl _ _⟩
  case round =>
    obtain ⟨k, hk, rfl, hsrt, hbel⟩ := hrel
    have HS := hid hsrt
    clear hsrt
    by_cases hk0 : k = 0
    · subst hk0
      have HF := hid (show Sorted l from fun j h => HS.out j (by omega) h)
      go_wp2
      go_ret
      exact ⟨retB_t HF.out, hbel⟩
    · obtain ⟨m, rfl⟩ : ∃ m, k = m + 1 := ⟨k - 1, by omega⟩
      have hlm : m < l.length := by omega
      have c0 := (HE.out.stay hbel (Nat.le_refl _)).2 (m + 1) hk
      have p0 := (HE.out.stay hbel (Nat.le_refl _)).2 m hlm
      have cL := fun W => calls_below (less_any l[m + 1] l[m] W)
      clear hk0
      cases hg : lt l[m + 1] l[m] with
      | true =>
        rw [hg] at cL
        have HG := hid (show ¬ Sorted l from fun D => by have := D m hk; rw [hg] at this; cases this)
        clear hg
        generalize l[m] = t0 at *
        generalize l[m + 1] = t1 at *
        go_wp2
        have c0' := cell_regrown c0
        have p0' := cell_regrown p0
        have d1 := fun d os => Calls.regrown_of (w := wr) (d := d) (os := os) (cL _)
        clear c0 p0 cL
        refine wp_region_quiet_below mixed (by kernel_rfl) ?_
        repeat (go_big_quiet_step ((go_at_call 93; exact d1 _ _)))
        refine wpQuiet_nil ?_
        intro _ hw'
        obtain ⟨⟨dq, osq⟩, hw''⟩ := hw'
        subst hw''
        have hbX := hbel.trans ((below_regrown wr dq osq).mono hbel.size)
        clear c0' p0' d1
        go_wp2
        go_ret
        exact ⟨retB_f HG.out, hbX⟩
      | false =>
        rw [hg] at cL
        have HT := hid (show ∀ j, m ≤ j → (h : j + 1 < l.length) → lt l[j + 1] l[j] = false from fun j hj h => by
          by_cases e : j = m
          · subst e; exact hg
          · exact HS.out j (by omega) h)
        clear hg
        generalize l[m] = t0 at *
        generalize l[m + 1] = t1 at *
        go_wp2
        have c0' := cell_regrown c0
        have p0' := cell_regrown p0
        have d1 := fun d os => Calls.regrown_of (w := wr) (d := d) (os := os) (cL _)
        clear c0 p0 cL
        refine wp_region_quiet_below mixed (by kernel_rfl) ?_
        repeat (go_big_quiet_step ((go_at_call 93; exact d1 _ _)))
        refine wpQuiet_nil ?_
        intro _ hw'
        obtain ⟨⟨dq, osq⟩, hw''⟩ := hw'
        subst hw''
        have hbX := hbel.trans ((below_regrown wr dq osq).mono hbel.size)
        clear c0' p0' d1
        go_wp2
        go_roundw
        case rel => exact ⟨m, hlm, by congr 1, HT.out, hbX⟩
        case measure => simp [intOf]
theorem isSorted_none (a : Option Addr) (c : Nat) (w : World) :
    Calls Tryz.prog 82 #[.slice a 0 c] w fun e w' => e = .returned (.bool true) ∧ w' = w := by
  go_enter Tryz.func82, Tryz.ntmps82
  go_wp2
  go_loop [3] (fun i => i = .int .i64 (-1)) (fun _ => 0)
  case atStart => exact rfl
  case round =>
    subst hrel
    go_wp2
    go_ret
    exact ⟨rfl, rfl⟩
theorem isSorted_any (v : Value) (l : List ByteArray) (w : World) (h2 : StrSl w v l) (n2 : l.length ≤ maxLen) :
    Calls Tryz.prog 82 #[v] w fun e w' => RetB e (Sorted l) ∧ Below w.heap.size w w' := by
  rcases h2 with ⟨a, c, rfl, rfl⟩ | ⟨g, o, c, rfl, hp, h⟩
  · refine (isSorted_none a c w).mono ?_
    rintro e w' ⟨rfl, rfl⟩
    exact ⟨retB_t (fun i h => absurd h (by simp)), Below.refl _ _⟩
  · exact isSorted_row g o c l w h hp.1 n2
/-- What impl.listRight asks of a row of marks. -/
def ListP (ss l : List ByteArray) : Prop := l.length ≤ 40 ∧ MarksP ss l
set_option maxRecDepth 100000 in
set_option maxHeartbeats 1000000 in
theorem listRight_any (a1 a2 : Option Addr) (k1 k2 : Nat) (ss l : List ByteArray) (w : World) (h1 : StrSl w (.slice a1 ss.length k1) ss) (h2 : StrSl w (.slice a2 l.length k2) l) (n1 : ss.length ≤ maxLen) (n2 : l.length ≤ maxLen) :
    Calls Tryz.prog 64 #[.slice a1 ss.length k1, .slice a2 l.length k2] w fun e w' => RetB e (ListP ss l) ∧ Below w.heap.size w w' := by
  have c1 := isSorted_any _ l w h2 n2
  have H1 := hid h1
  have H2 := hid h2
  have N1 := hid n1
  unfold maxLen at n1 n2
  clear h1 h2
  by_cases p1 : 40 < l.length
  · go_enter Tryz.func64, Tryz.ntmps64
    go_wp2
    go_ret
    exact ⟨retB_f (fun D => by have := D.1; omega), Below.refl _ _⟩
  · by_cases hd : Sorted l
    · replace c1 := calls_yes c1 hd
      have HD := hid hd
      clear hd
      go_enter Tryz.func64, Tryz.ntmps64
      go_wp2_with fail
      refine c1.mono ?_
      rintro e w1 ⟨rfl, hb1⟩
      go_wp2
      go_loopw [17] (fun i wr => ∃ k : Nat, k ≤ l.length ∧ i = .int .i64 k ∧ (∀ j, j < k → (h : j < l.length) → l[j] ∈ ss) ∧ Below w.heap.size w wr) (fun i _ => l.length - (intOf i).toNat)
      case atStart => exact ⟨0, Nat.zero_le _, rfl, fun j hj => absurd hj (by omega), hb1⟩
      case round =>
        clear hb1 c1
        obtain ⟨k, hk, rfl, hall, hbel⟩ := hrel
        have HA := hid hall
        clear hall
        by_cases hlt : k < l.length
        · obtain ⟨g2, o2, rfl, hQ⟩ := H2.out.row (by omega)
          have c0 := (hQ.stay hbel (Nat.le_refl _)).2 k hlt
          have c2 := hasS_any _ ss l[k] wr (H1.out.stay hbel (Nat.le_refl _)) N1.out
          clear hQ
          by_cases hf : l[k] ∈ ss
          · rw [inB_yes hf] at c2
            have HF := hid hf
            clear hf
            go_wp2_with fail
            refine c2.mono ?_
            rintro e w2 ⟨rfl, rfl⟩
            go_wp2
            go_roundw
            case rel => exact ⟨k + 1, by omega, by go_num, fun j hj h => by
              by_cases e : j = k
              · subst e; exact HF.out
              · exact HA.out j (by omega) h, hbel⟩
            case measure => simp [intOf]; omega
          · rw [inB_no hf] at c2
            have HF := hid (show ¬ ListP ss l from fun D => hf (D.2.mem k hlt))
            clear hf
            go_wp2_with fail
            refine c2.mono ?_
            rintro e w2 ⟨rfl, rfl⟩
            go_wp2
            go_ret
            exact ⟨retB_f HF.out, hbel⟩
        · have HF := hid (show ListP ss l from ⟨by omega, fun i h => HA.out i (by omega) h, HD.out⟩)
          go_wp2
          go_ret
          exact ⟨retB_t HF.out, hbel⟩
    · replace c1 := calls_no c1 hd
      have HD := hid (show ¬ ListP ss l from fun D => hd D.2.sorted)
      clear hd
      go_enter Tryz.func64, Tryz.ntmps64
      go_wp2_with fail
      refine c1.mono ?_
      rintro e w1 ⟨rfl, hb1⟩
      go_wp2
      go_ret
      exact ⟨retB_f HD.out, hb1⟩
end Go.Proofs.YtdggmeblnbabbaaGreatDoor

/-
  What impl.varsRight answers, for every row of vars: a contract over the seat's program.
-/
namespace Go.Proofs.YtdggmeblnbabbaaGreatDoor
open Go.RowKit Go.Sort

set_option maxRecDepth 100000 in
set_option maxHeartbeats 2000000 in
theorem varsRight_any (a5 : Option Addr) (c : Nat) (l : List Pr) (w : World) (hE : PrSl w (.slice a5 l.length c) l) (hF : FitP l) (n2 : l.length ≤ maxLen) :
    Calls Tryz.prog 46 #[.slice a5 l.length c] w fun e w' => RetB e (VarsP l) ∧ Below w.heap.size w w' := by
  have mixed : Tryz.prog.follows .mixedOrders = true := by kernel_rfl
  have HE := hid hE
  unfold maxLen at n2
  clear hE
  by_cases h20 : 20 < l.length
  · go_enter Tryz.func46, Tryz.ntmps46
    go_wp2
    go_ret
    exact ⟨retB_f (fun D => by have := D.n; omega), Below.refl _ _⟩
  · go_enter Tryz.func46, Tryz.ntmps46
    go_wp2
    go_loopw [10] (fun i wr => ∃ k : Nat, k ≤ l.length ∧ i = .int .i64 k ∧ (∀ j, j < k → (h : j < l.length) → nrB l[j].fst = true ∧ l[j].snd.size ≤ 40) ∧ (∀ j, j + 1 < k → (h : j + 1 < l.length) → lt l[j].fst l[j + 1].fst = true) ∧ Below w.heap.size w wr) (fun i _ => l.length - (intOf i).toNat)
    case atStart => exact ⟨0, Nat.zero_le _, rfl, fun j hj => absurd hj (by omega), fun j hj => absurd hj (by omega), Below.refl _ _⟩
    case round =>
      obtain ⟨k, hk, rfl, hall, hsrt, hbel⟩ := hrel
      have HA := hid hall
      have HS := hid hsrt
      clear hall hsrt
      by_cases hlt : k < l.length
      · obtain ⟨g, o, rfl, hQ⟩ := HE.out.row (by omega)
        obtain ⟨c0, c1⟩ := (hQ.stay hbel (Nat.le_refl _)).2 k hlt
        have HQ := hid hQ
        have hf := hF k hlt
        have cN := fun W => calls_below (implNameRight_any l[k].fst W hf.1)
        have hf2 := hf.2
        unfold maxLen at hf2
        clear hf hQ
        cases hr : nrB l[k].fst with
        | false =>
          rw [hr] at cN
          have HM := hid (show ¬ VarsP l from fun D => by have := (D.nm k hlt).1; rw [hr] at this; cases this)
          clear hr
          generalize l[k].fst = q1 at *
          generalize l[k].snd = q2 at *
          have hbW : Below w.heap.size w (wr.alloc (.cells #[.string q1, .string q2] 58)) := hbel.alloc hbel.size _
          have z0 : (wr.alloc (.cells #[.string q1, .string q2] 58)).cell? ⟨wr.heap.size, 0, none⟩ = some (.string q1) := by simp [go_sem]
          have z1 : (wr.alloc (.cells #[.string q1, .string q2] 58)).cell? ⟨wr.heap.size, 1, none⟩ = some (.string q2) := by simp [go_sem]
          go_wp2
          generalize wr.alloc (.cells #[.string q1, .string q2] 58) = WW at *
          have z0' := cell_regrown z0
          have z1' := cell_regrown z1
          have d1 := fun d os => Calls.regrown_of (w := WW) (d := d) (os := os) (cN _)
          clear c0 c1 z0 z1 cN
          refine wp_region_quiet_below mixed (by kernel_rfl) ?_
          repeat (go_big_quiet_step ((go_at_call 50; exact d1 _ _)))
          refine wpQuiet_nil ?_
          intro _ hw'
          obtain ⟨⟨dq, osq⟩, hw''⟩ := hw'
          subst hw''
          have hbX := hbW.trans ((below_regrown WW dq osq).mono hbW.size)
          clear z0' z1' d1
          go_wp2
          go_ret
          exact ⟨retB_f HM.out, hbX⟩
        | true =>
          rw [hr] at cN
          have HR := hid hr
          clear hr
          by_cases h40 : l[k].snd.size ≤ 40
          · have h41 : decide (40 < (l[k].snd.size : Int)) = false := by simp; omega
            have HV := hid h40
            by_cases hk0 : k = 0
            · subst hk0
              simp only [Nat.zero_mul, Nat.add_zero] at c0 c1
              have HR0 := hid (show nrB l[0].fst = true ∧ l[0].snd.size ≤ 40 from ⟨HR.out, HV.out⟩)
              clear HR HV h40
              have HR1 := hid (show ∀ j, j < 1 → (h : j < l.length) → nrB l[j].fst = true ∧ l[j].snd.size ≤ 40 from fun j hj h => by
                obtain rfl : j = 0 := by omega
                exact HR0.out)
              clear HR0
              generalize l[0].fst = q1 at *
              generalize l[0].snd = q2 at *
              have hbW : Below w.heap.size w (wr.alloc (.cells #[.string q1, .string q2] 58)) := hbel.alloc hbel.size _
              have z0 : (wr.alloc (.cells #[.string q1, .string q2] 58)).cell? ⟨wr.heap.size, 0, none⟩ = some (.string q1) := by simp [go_sem]
              have z1 : (wr.alloc (.cells #[.string q1, .string q2] 58)).cell? ⟨wr.heap.size, 1, none⟩ = some (.string q2) := by simp [go_sem]
              go_wp2
              generalize wr.alloc (.cells #[.string q1, .string q2] 58) = WW at *
              have z0' := cell_regrown z0
              have z1' := cell_regrown z1
              have d1 := fun d os => Calls.regrown_of (w := WW) (d := d) (os := os) (cN _)
              clear c0 c1 z0 z1 cN
              refine wp_region_quiet_below mixed (by kernel_rfl) ?_
              repeat (go_big_quiet_step ((go_at_call 50; exact d1 _ _)))
              refine wpQuiet_nil ?_
              intro _ hw'
              obtain ⟨⟨dq, osq⟩, hw''⟩ := hw'
              subst hw''
              have hbX := hbW.trans ((below_regrown WW dq osq).mono hbW.size)
              clear z0' z1' d1
              go_wp2
              go_roundw
              case rel => exact ⟨1, by omega, by go_num, HR1.out, fun j hj h => by omega, hbX⟩
              case measure => simp [intOf]; omega
            · obtain ⟨m, rfl⟩ : ∃ m, k = m + 1 := ⟨k - 1, by omega⟩
              have hlm : m < l.length := by omega
              clear hk0
              cases hg : lt l[m].fst l[m + 1].fst with
              | false =>
                have HG := hid (show ¬ VarsP l from fun D => by have := D.rise m hlt; rw [hg] at this; cases this)
                have hq : Op.bytesLess l[m].fst.toList l[m + 1].fst.toList = false := hg
                have HP := hid (fun W (hb : Below w.heap.size w W) => ((HQ.out.stay hb (Nat.le_refl _)).2 m hlm).c0)
                clear hg
                generalize l[m].fst = t0 at *
                generalize l[m + 1].fst = q1 at *
                generalize l[m + 1].snd = q2 at *
                have hbW : Below w.heap.size w (wr.alloc (.cells #[.string q1, .string q2] 58)) := hbel.alloc hbel.size _
                have z0 : (wr.alloc (.cells #[.string q1, .string q2] 58)).cell? ⟨wr.heap.size, 0, none⟩ = some (.string q1) := by simp [go_sem]
                have z1 : (wr.alloc (.cells #[.string q1, .string q2] 58)).cell? ⟨wr.heap.size, 1, none⟩ = some (.string q2) := by simp [go_sem]
                have p0 := HP.out _ hbW
                go_wp2
                generalize wr.alloc (.cells #[.string q1, .string q2] 58) = WW at *
                have z0' := cell_regrown z0
                have z1' := cell_regrown z1
                have p0' := cell_regrown p0
                have d1 := fun d os => Calls.regrown_of (w := WW) (d := d) (os := os) (cN _)
                clear c0 c1 z0 z1 p0 cN
                refine wp_region_quiet_below mixed (by kernel_rfl) ?_
                repeat (go_big_quiet_step ((go_at_call 50; exact d1 _ _)))
                refine wpQuiet_nil ?_
                intro _ hw'
                obtain ⟨⟨dq, osq⟩, hw''⟩ := hw'
                subst hw''
                have hbX := hbW.trans ((below_regrown WW dq osq).mono hbW.size)
                clear z0' z1' p0' d1
                go_wp2
                go_ret
                exact ⟨retB_f HG.out, hbX⟩
              | true =>
                have HR2 := hid (show ∀ j, j < m + 1 + 1 → (h : j < l.length) → nrB l[j].fst = true ∧ l[j].snd.size ≤ 40 from fun j hj h => by
                  by_cases e : j = m + 1
                  · subst e; exact ⟨HR.out, HV.out⟩
                  · exact HA.out j (by omega) h)
                have HT := hid (show ∀ j, j + 1 < m + 1 + 1 → (h : j + 1 < l.length) → lt l[j].fst l[j + 1].fst = true from fun j hj h => by
                  by_cases e : j = m
                  · subst e; exact hg
                  · exact HS.out j (by omega) h)
                have hq : Op.bytesLess l[m].fst.toList l[m + 1].fst.toList = true := hg
                have HP := hid (fun W (hb : Below w.heap.size w W) => ((HQ.out.stay hb (Nat.le_refl _)).2 m hlm).c0)
                clear hg HR HV
                generalize l[m].fst = t0 at *
                generalize l[m + 1].fst = q1 at *
                generalize l[m + 1].snd = q2 at *
                have hbW : Below w.heap.size w (wr.alloc (.cells #[.string q1, .string q2] 58)) := hbel.alloc hbel.size _
                have z0 : (wr.alloc (.cells #[.string q1, .string q2] 58)).cell? ⟨wr.heap.size, 0, none⟩ = some (.string q1) := by simp [go_sem]
                have z1 : (wr.alloc (.cells #[.string q1, .string q2] 58)).cell? ⟨wr.heap.size, 1, none⟩ = some (.string q2) := by simp [go_sem]
                have p0 := HP.out _ hbW
                go_wp2
                generalize wr.alloc (.cells #[.string q1, .string q2] 58) = WW at *
                have z0' := cell_regrown z0
                have z1' := cell_regrown z1
                have p0' := cell_regrown p0
                have d1 := fun d os => Calls.regrown_of (w := WW) (d := d) (os := os) (cN _)
                clear c0 c1 z0 z1 p0 cN
                refine wp_region_quiet_below mixed (by kernel_rfl) ?_
                repeat (go_big_quiet_step ((go_at_call 50; exact d1 _ _)))
                refine wpQuiet_nil ?_
                intro _ hw'
                obtain ⟨⟨dq, osq⟩, hw''⟩ := hw'
                subst hw''
                have hbX := hbW.trans ((below_regrown WW dq osq).mono hbW.size)
                clear z0' z1' p0' d1
                go_wp2
                go_roundw
                case rel => exact ⟨m + 1 + 1, by omega, by go_num, HR2.out, HT.out, hbX⟩
                case measure => simp [intOf]; omega
          · have h41 : decide (40 < (l[k].snd.size : Int)) = true := by simp; omega
            have HM := hid (show ¬ VarsP l from fun D => h40 (D.nm k hlt).2)
            clear h40
            generalize l[k].fst = q1 at *
            generalize l[k].snd = q2 at *
            have hbW : Below w.heap.size w (wr.alloc (.cells #[.string q1, .string q2] 58)) := hbel.alloc hbel.size _
            have z0 : (wr.alloc (.cells #[.string q1, .string q2] 58)).cell? ⟨wr.heap.size, 0, none⟩ = some (.string q1) := by simp [go_sem]
            have z1 : (wr.alloc (.cells #[.string q1, .string q2] 58)).cell? ⟨wr.heap.size, 1, none⟩ = some (.string q2) := by simp [go_sem]
            go_wp2
            generalize wr.alloc (.cells #[.string q1, .string q2] 58) = WW at *
            have z0' := cell_regrown z0
            have z1' := cell_regrown z1
            have d1 := fun d os => Calls.regrown_of (w := WW) (d := d) (os := os) (cN _)
            clear c0 c1 z0 z1 cN
            refine wp_region_quiet_below mixed (by kernel_rfl) ?_
            repeat (go_big_quiet_step ((go_at_call 50; exact d1 _ _)))
            refine wpQuiet_nil ?_
            intro _ hw'
            obtain ⟨⟨dq, osq⟩, hw''⟩ := hw'
            subst hw''
            have hbX := hbW.trans ((below_regrown WW dq osq).mono hbW.size)
            clear z0' z1' d1
            go_wp2
            go_ret
            exact ⟨retB_f HM.out, hbX⟩
      · have HF := hid (show VarsP l from ⟨by omega, fun i h => HA.out i (by omega) h, fun i h => HS.out i (by omega) h⟩)
        go_wp2
        go_ret
        exact ⟨retB_t HF.out, hbel⟩
end Go.Proofs.YtdggmeblnbabbaaGreatDoor
