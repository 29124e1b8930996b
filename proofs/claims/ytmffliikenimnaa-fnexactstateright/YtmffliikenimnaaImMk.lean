/-
  What cmp.Less, slices.IsSorted and impl.listRight answer at rows of texts: contracts over the seat's program.
-/
import Derived.Test.YtmffliikenimnaaStMath
import Derived.Test.YtmffliikenimnaaSpDef
namespace Go.Proofs.Ytmffliikenimnaa
open Go.RowKit Go.Sort

theorem isNaN_any (x : ByteArray) (w : World) : Calls Try.prog 56 #[.string x] w fun e w' => e = .returned (.bool false) ∧ w' = w := by
  go_enter Try.func56, Try.ntmps56
  go_wp2
  go_ret
  exact ⟨rfl, rfl⟩
theorem less_any (x y : ByteArray) (w : World) : Calls Try.prog 55 #[.string x, .string y] w fun e w' => e = .returned (.bool (lt x y)) ∧ w' = w := by
  have HL := hid (show lt x y = Op.bytesLess x.toList y.toList from rfl)
  generalize lt x y = B at *
  have c1 := fun w => isNaN_any x w
  go_enter Try.func55, Try.ntmps55
  go_wp2_with fail
  refine (c1 _).mono ?_
  rintro e w1 ⟨rfl, rfl⟩
  go_wp2
  go_ret
  exact ⟨ret_bool HL.out.symm, rfl⟩
set_option maxRecDepth 100000 in
set_option maxHeartbeats 1000000 in
theorem isSorted_row (g o c : Nat) (l : List ByteArray) (w : World) (hE : StrsAt w g o l) (h0 : 0 < l.length) (n2 : l.length ≤ maxLen) :
    Calls Try.prog 54 #[.slice (some ⟨g, o, none⟩) l.length c] w fun e w' => RetB e (Sorted l) ∧ Below w.heap.size w w' := by
  have mixed : Try.prog.follows .mixedOrders = true := by kernel_rfl
  have HE := hid hE
  unfold maxLen at n2
  clear hE
  go_enter Try.func54, Try.ntmps54
  go_wp2
  go_loopw [3] (fun i wr => ∃ k : Nat, k < l.length ∧ i = .int .i64 k ∧ (∀ j, k ≤ j → (h : j + 1 < l.length) → lt l[j + 1] l[j] = false) ∧ Below w.heap.size w wr) (fun i _ => (intOf i).toNat)
  case atStart => exact ⟨l.length - 1, by omega, by congr 1; omega, fun j hj h => absurd h (by omega), Below.refl _ _⟩
  case round =>
    obtain ⟨k, hk, rfl, hsrt, hbel⟩ := hrel
    have HS := hid hsrt
    clear hsrt
    by_cases hk0 : k = 0
    · subst hk0
      have HF := hid (show Sorted l from fun j h => HS.out j (by omega) h)
      go_wp2
      go_ret
      exact ⟨retB_t HF.out, hbel⟩
    · obtain ⟨m, rfl⟩ : ∃ m, k = m + 1 := ⟨k - 1, by omega⟩
      have hlm : m < l.length := by omega
      have c0 := (HE.out.stay hbel (Nat.le_refl _)).2 (m + 1) hk
      have p0 := (HE.out.stay hbel (Nat.le_refl _)).2 m hlm
      have cL := fun W => calls_below (less_any l[m + 1] l[m] W)
      clear hk0
      cases hg : lt l[m + 1] l[m] with
      | true =>
        rw [hg] at cL
        have HG := hid (show ¬ Sorted l from fun D => by have := D m hk; rw [hg] at this; cases this)
        clear hg
        generalize l[m] = t0 at *
        generalize l[m + 1] = t1 at *
        go_wp2
        have c0' := cell_regrown c0
        have p0' := cell_regrown p0
        have d1 := fun d os => Calls.regrown_of (w := wr) (d := d) (os := os) (cL _)
        clear c0 p0 cL
        refine wp_region_quiet_below mixed (by kernel_rfl) ?_
        repeat (go_big_quiet_step ((go_at_call 55; exact d1 _ _)))
        refine wpQuiet_nil ?_
        intro _ hw'
        obtain ⟨⟨dq, osq⟩, hw''⟩ := hw'
        subst hw''
        have hbX := hbel.trans ((below_regrown wr dq osq).mono hbel.size)
        clear c0' p0' d1
        go_wp2
        go_ret
        exact ⟨retB_f HG.out, hbX⟩
      | false =>
        rw [hg] at cL
        have HT := hid (show ∀ j, m ≤ j → (h : j + 1 < l.length) → lt l[j + 1] l[j] = false from fun j hj h => by
          by_cases e : j = m
          · subst e; exact hg
          · exact HS.out j (by omega) h)
        clear hg
        generalize l[m] = t0 at *
        generalize l[m + 1] = t1 at *
        go_wp2
        have c0' := cell_regrown c0
        have p0' := cell_regrown p0
        have d1 := fun d os => Calls.regrown_of (w := wr) (d := d) (os := os) (cL _)
        clear c0 p0 cL
        refine wp_region_quiet_below mixed (by kernel_rfl) ?_
        repeat (go_big_quiet_step ((go_at_call 55; exact d1 _ _)))
        refine wpQuiet_nil ?_
        intro _ hw'
        obtain ⟨⟨dq, osq⟩, hw''⟩ := hw'
        subst hw''
        have hbX := hbel.trans ((below_regrown wr dq osq).mono hbel.size)
        clear c0' p0' d1
        go_wp2
        go_roundw
        case rel => exact ⟨m, hlm, by congr 1, HT.out, hbX⟩
        case measure => simp [intOf]
theorem isSorted_none (a : Option Addr) (c : Nat) (w : World) :
    Calls Try.prog 54 #[.slice a 0 c] w fun e w' => e = .returned (.bool true) ∧ w' = w := by
  go_enter Try.func54, Try.ntmps54
  go_wp2
  go_loop [3] (fun i => i = .int .i64 (-1)) (fun _ => 0)
  case atStart => exact rfl
  case round =>
    subst hrel
    go_wp2
    go_ret
    exact ⟨rfl, rfl⟩
theorem isSorted_any (v : Value) (l : List ByteArray) (w : World) (h2 : StrSl w v l) (n2 : l.length ≤ maxLen) :
    Calls Try.prog 54 #[v] w fun e w' => RetB e (Sorted l) ∧ Below w.heap.size w w' := by
  rcases h2 with ⟨a, c, rfl, rfl⟩ | ⟨g, o, c, rfl, hp, h⟩
  · refine (isSorted_none a c w).mono ?_
    rintro e w' ⟨rfl, rfl⟩
    exact ⟨retB_t (fun i h => absurd h (by simp)), Below.refl _ _⟩
  · exact isSorted_row g o c l w h hp.1 n2
/-- What impl.listRight asks of a row of marks. -/
def ListP (ss l : List ByteArray) : Prop := l.length ≤ 40 ∧ MarksP ss l
set_option maxRecDepth 100000 in
set_option maxHeartbeats 1000000 in
theorem listRight_any (a1 a2 : Option Addr) (k1 k2 : Nat) (ss l : List ByteArray) (w : World) (h1 : StrSl w (.slice a1 ss.length k1) ss) (h2 : StrSl w (.slice a2 l.length k2) l) (n1 : ss.length ≤ maxLen) (n2 : l.length ≤ maxLen) :
    Calls Try.prog 52 #[.slice a1 ss.length k1, .slice a2 l.length k2] w fun e w' => RetB e (ListP ss l) ∧ Below w.heap.size w w' := by
  have c1 := isSorted_any _ l w h2 n2
  have H1 := hid h1
  have H2 := hid h2
  have N1 := hid n1
  unfold maxLen at n1 n2
  clear h1 h2
  by_cases p1 : 40 < l.length
  · go_enter Try.func52, Try.ntmps52
    go_wp2
    go_ret
    exact ⟨retB_f (fun D => by have := D.1; omega), Below.refl _ _⟩
  · by_cases hd : Sorted l
    · replace c1 := calls_yes c1 hd
      have HD := hid hd
      clear hd
      go_enter Try.func52, Try.ntmps52
      go_wp2_with fail
      refine c1.mono ?_
      rintro e w1 ⟨rfl, hb1⟩
      go_wp2
      go_loopw [17] (fun i wr => ∃ k : Nat, k ≤ l.length ∧ i = .int .i64 k ∧ (∀ j, j < k → (h : j < l.length) → l[j] ∈ ss) ∧ Below w.heap.size w wr) (fun i _ => l.length - (intOf i).toNat)
      case atStart => exact ⟨0, Nat.zero_le _, rfl, fun j hj => absurd hj (by omega), hb1⟩
      case round =>
        clear hb1 c1
        obtain ⟨k, hk, rfl, hall, hbel⟩ := hrel
        have HA := hid hall
        clear hall
        by_cases hlt : k < l.length
        · obtain ⟨g2, o2, rfl, hQ⟩ := H2.out.row (by omega)
          have c0 := (hQ.stay hbel (Nat.le_refl _)).2 k hlt
          have c2 := hasS_any _ ss l[k] wr (H1.out.stay hbel (Nat.le_refl _)) N1.out
          clear hQ
          by_cases hf : l[k] ∈ ss
          · rw [inB_yes hf] at c2
            have HF := hid hf
            clear hf
            go_wp2_with fail
            refine c2.mono ?_
            rintro e w2 ⟨rfl, rfl⟩
            go_wp2
            go_roundw
            case rel => exact ⟨k + 1, by omega, by go_num, fun j hj h => by
              by_cases e : j = k
              · subst e; exact HF.out
              · exact HA.out j (by omega) h, hbel⟩
            case measure => simp [intOf]; omega
          · rw [inB_no hf] at c2
            have HF := hid (show ¬ ListP ss l from fun D => hf (D.2.mem k hlt))
            clear hf
            go_wp2_with fail
            refine c2.mono ?_
            rintro e w2 ⟨rfl, rfl⟩
            go_wp2
            go_ret
            exact ⟨retB_f HF.out, hbel⟩
        · have HF := hid (show ListP ss l from ⟨by omega, fun i h => HA.out i (by omega) h, HD.out⟩)
          go_wp2
          go_ret
          exact ⟨retB_t HF.out, hbel⟩
    · replace c1 := calls_no c1 hd
      have HD := hid (show ¬ ListP ss l from fun D => hd D.2.sorted)
      clear hd
      go_enter Try.func52, Try.ntmps52
      go_wp2_with fail
      refine c1.mono ?_
      rintro e w1 ⟨rfl, hb1⟩
      go_wp2
      go_ret
      exact ⟨retB_f HD.out, hb1⟩
end Go.Proofs.Ytmffliikenimnaa
