/-
  Texts put together: ImDef, ImDef2.
-/
import Derived.Test.YthggcdadipjiiaaGreatDoorZIsErr4
import Derived.Test.YthggcdadipjiiaaGreatDoorZImRis4
/-
  What impl.twoAlike, impl.stepsRight, impl.flowsRight and impl.DefRight answer, for every Def: contracts over the seat's program.
-/
namespace Go.Proofs.YthggcdadipjiiaaGreatDoor
open Go.RowKit Go.Sort

set_option maxRecDepth 100000 in
set_option maxHeartbeats 1000000 in
theorem twoS_row (g o c : Nat) (ss : List ByteArray) (w : World) (hE : StrsAt w g o ss) (hc : ss.length ≤ c) (hn : ss.length ≤ maxLen) :
    Calls Tryz.prog 100 #[.slice (some ⟨g, o, none⟩) ss.length c] w fun e w' => RetB e (¬ ss.Nodup) ∧ w' = w := by
  have HN := hid hn
  unfold maxLen at hn
  have HE := hid hE
  clear hE
  go_enter Tryz.func100, Tryz.ntmps100
  go_wp2
  go_loop [7] (fun i => ∃ k : Nat, k ≤ ss.length ∧ i = .int .i64 k ∧ ∀ j, j < k → (h : j < ss.length) → ss[j] ∉ ss.take j) (fun i => ss.length - (intOf i).toNat)
  case atStart => exact ⟨0, Nat.zero_le _, rfl, fun j hj => absurd hj (by omega)⟩
  case round =>
    obtain ⟨k, hk, rfl, hall⟩ := hrel
    have HA := hid hall
    clear hall
    by_cases hlt : k < ss.length
    · have c0 := HE.out.2 k hlt
      have hcap : k ≤ c := by omega
      have cA : Calls Tryz.prog 103 #[.slice (some ⟨g, o, none⟩) k c, .string ss[k]] w fun e w' => e = .returned (.bool (inB (ss.take k) ss[k])) ∧ w' = w := hasS_any _ (ss.take k) ss[k] w (StrSl.part (n := ss.length) (.inr ⟨g, o, c, rfl, ⟨by omega, hc⟩, HE.out⟩) (by omega)) (by rw [List.length_take]; have := HN.out; omega)
      by_cases hm : ss[k] ∈ ss.take k
      · rw [inB_yes hm] at cA
        have HM := hid (twice_of_take hlt hm)
        clear hm
        go_wp2_with fail
        refine cA.mono ?_
        rintro e w1 ⟨rfl, rfl⟩
        go_wp2
        go_ret
        exact ⟨retB_t HM.out, rfl⟩
      · rw [inB_no hm] at cA
        have HM := hid hm
        clear hm
        go_wp2_with fail
        refine cA.mono ?_
        rintro e w1 ⟨rfl, rfl⟩
        go_wp2
        go_round
        case rel => exact ⟨k + 1, by omega, by go_num, fun j hj h => by
          by_cases e : j = k
          · subst e; exact HM.out
          · exact HA.out j (by omega) h⟩
        case measure => simp [intOf]; omega
    · have HF := hid (nodup_of_take (fun i h => HA.out i (by omega) h))
      go_wp2
      go_ret
      exact ⟨retB_f (fun h => h HF.out), rfl⟩
theorem twoS_none (a : Option Addr) (c : Nat) (w : World) :
    Calls Tryz.prog 100 #[.slice a 0 c] w fun e w' => e = .returned (.bool false) ∧ w' = w := by
  go_enter Tryz.func100, Tryz.ntmps100
  go_wp2
  go_loop [7] (fun i => i = .int .i64 0) (fun _ => 0)
  case atStart => exact rfl
  case round =>
    subst hrel
    go_wp2
    go_ret
    exact ⟨rfl, rfl⟩
theorem twoS_any (v : Value) (ss : List ByteArray) (w : World) (h : StrSl w v ss) (hn : ss.length ≤ maxLen) :
    Calls Tryz.prog 100 #[v] w fun e w' => RetB e (¬ ss.Nodup) ∧ w' = w := by
  rcases h with ⟨a, c, rfl, rfl⟩ | ⟨g, o, c, rfl, hp, h⟩
  · refine (twoS_none a c w).mono ?_
    rintro e w' ⟨rfl, rfl⟩
    exact ⟨retB_f (fun h => h List.nodup_nil), rfl⟩
  · exact twoS_row g o c ss w h hp.2 hn

set_option maxRecDepth 100000 in
set_option maxHeartbeats 1000000 in
theorem twoP_row (g o c : Nat) (ps : List Pr) (w : World) (hE : PrsAt w g o ps) (hc : ps.length ≤ c) (hn : ps.length ≤ maxLen) :
    Calls Tryz.prog 102 #[.slice (some ⟨g, o, none⟩) ps.length c] w fun e w' => RetB e (¬ ps.Nodup) ∧ Below w.heap.size w w' := by
  have mixed : Tryz.prog.follows .mixedOrders = true := by kernel_rfl
  have HN := hid hn
  unfold maxLen at hn
  have HE := hid hE
  clear hE
  go_enter Tryz.func102, Tryz.ntmps102
  go_wp2
  go_loopw [7] (fun i wr => ∃ k : Nat, k ≤ ps.length ∧ i = .int .i64 k ∧ (∀ j, j < k → (h : j < ps.length) → ps[j] ∉ ps.take j) ∧ Below w.heap.size w wr) (fun i _ => ps.length - (intOf i).toNat)
  case atStart => exact ⟨0, Nat.zero_le _, rfl, fun j hj => absurd hj (by omega), Below.refl _ _⟩
  case round =>
    obtain ⟨k, hk, rfl, hall, hbel⟩ := hrel
    have HA := hid hall
    clear hall
    by_cases hlt : k < ps.length
    · obtain ⟨c0, c1⟩ := (HE.out.stay hbel (Nat.le_refl _)).2 k hlt
      have hcap : k ≤ c := by omega
      have hbW : Below w.heap.size w (wr.alloc (.cells #[.string ps[k].fst, .string ps[k].snd] 116)) := hbel.alloc hbel.size _
      have cA := fun d os => hasP_any _ (ps.take k) ps[k].fst ps[k].snd _ (PrSl.stay (PrSl.part (n := ps.length) (k := k) (.inr ⟨g, o, c, rfl, ⟨by omega, hc⟩, HE.out.stay hbW (Nat.le_refl _)⟩) (by omega)) (below_regrown _ d os) (Nat.le_refl _)) (by rw [List.length_take]; have := HN.out; omega)
      by_cases hm : ps[k] ∈ ps.take k
      · have HM := hid (twice_of_take hlt hm)
        replace cA := fun d os => calls_yes (cA d os) hm
        generalize ps[k].fst = q1 at *
        generalize ps[k].snd = q2 at *
        clear hm
        go_wp2
        have z0 : (wr.alloc (.cells #[.string q1, .string q2] 116)).cell? ⟨wr.heap.size, 0, none⟩ = some (.string q1) := by simp [go_sem]
        have z1 : (wr.alloc (.cells #[.string q1, .string q2] 116)).cell? ⟨wr.heap.size, 1, none⟩ = some (.string q2) := by simp [go_sem]
        generalize wr.alloc (.cells #[.string q1, .string q2] 116) = W at *
        have z0' := cell_regrown z0
        have z1' := cell_regrown z1
        have d1 := fun d os => Calls.regrown_of (w := W) (d := d) (os := os) (cA d os)
        clear c0 c1 z0 z1 cA
        refine wp_region_quiet_below mixed (by kernel_rfl) ?_
        repeat (go_big_quiet_step ((go_at_call 130; exact d1 _ _)))
        refine wpQuiet_nil ?_
        intro _ hw'
        obtain ⟨⟨dq, osq⟩, hw''⟩ := hw'
        subst hw''
        have hbX := hbW.trans ((below_regrown W dq osq).mono hbW.size)
        clear z0' z1' d1
        go_wp2
        go_ret
        exact ⟨retB_t HM.out, hbX⟩
      · have HM := hid hm
        replace cA := fun d os => calls_no (cA d os) hm
        generalize ps[k].fst = q1 at *
        generalize ps[k].snd = q2 at *
        clear hm
        go_wp2
        have z0 : (wr.alloc (.cells #[.string q1, .string q2] 116)).cell? ⟨wr.heap.size, 0, none⟩ = some (.string q1) := by simp [go_sem]
        have z1 : (wr.alloc (.cells #[.string q1, .string q2] 116)).cell? ⟨wr.heap.size, 1, none⟩ = some (.string q2) := by simp [go_sem]
        generalize wr.alloc (.cells #[.string q1, .string q2] 116) = W at *
        have z0' := cell_regrown z0
        have z1' := cell_regrown z1
        have d1 := fun d os => Calls.regrown_of (w := W) (d := d) (os := os) (cA d os)
        clear c0 c1 z0 z1 cA
        refine wp_region_quiet_below mixed (by kernel_rfl) ?_
        repeat (go_big_quiet_step ((go_at_call 130; exact d1 _ _)))
        refine wpQuiet_nil ?_
        intro _ hw'
        obtain ⟨⟨dq, osq⟩, hw''⟩ := hw'
        subst hw''
        have hbX := hbW.trans ((below_regrown W dq osq).mono hbW.size)
        clear z0' z1' d1
        go_wp2
        go_roundw
        case rel => exact ⟨k + 1, by omega, by go_num, fun j hj h => by
          by_cases e : j = k
          · subst e; exact HM.out
          · exact HA.out j (by omega) h, hbX⟩
        case measure => simp [intOf]; omega
    · have HF := hid (nodup_of_take (fun i h => HA.out i (by omega) h))
      go_wp2
      go_ret
      exact ⟨retB_f (fun h => h HF.out), hbel⟩
theorem twoP_none (a : Option Addr) (c : Nat) (w : World) :
    Calls Tryz.prog 102 #[.slice a 0 c] w fun e w' => e = .returned (.bool false) ∧ w' = w := by
  go_enter Tryz.func102, Tryz.ntmps102
  go_wp2
  go_loop [7] (fun i => i = .int .i64 0) (fun _ => 0)
  case atStart => exact rfl
  case round =>
    subst hrel
    go_wp2
    go_ret
    exact ⟨rfl, rfl⟩
theorem twoP_any (v : Value) (ps : List Pr) (w : World) (h : PrSl w v ps) (hn : ps.length ≤ maxLen) :
    Calls Tryz.prog 102 #[v] w fun e w' => RetB e (¬ ps.Nodup) ∧ Below w.heap.size w w' := by
  rcases h with ⟨a, c, rfl, rfl⟩ | ⟨g, o, c, rfl, hp, h⟩
  · refine (twoP_none a c w).mono ?_
    rintro e w' ⟨rfl, rfl⟩
    exact ⟨retB_f (fun h => h List.nodup_nil), Below.refl _ _⟩
  · exact twoP_row g o c ps w h hp.2 hn
end Go.Proofs.YthggcdadipjiiaaGreatDoor

/-
  What impl.stepsRight, impl.flowsRight and impl.DefRight answer, for every Def: contracts over the seat's program.
-/
namespace Go.Proofs.YthggcdadipjiiaaGreatDoor
open Go.RowKit Go.Sort

set_option maxRecDepth 100000 in
set_option maxHeartbeats 1000000 in
theorem stepsRight_any (a : Option Addr) (c : Nat) (ss : List ByteArray) (w : World) (h : StrSl w (.slice a ss.length c) ss) (hF : ∀ i, (h : i < ss.length) → ss[i].size ≤ maxLen) (hn : ss.length ≤ maxLen) :
    Calls Tryz.prog 83 #[.slice a ss.length c] w fun e w' => RetB e (StepsP ss) ∧ w' = w := by
  have c1 := twoS_any _ ss w h hn
  unfold maxLen at hn
  by_cases h1 : ss.length < 1
  · go_enter Tryz.func83, Tryz.ntmps83
    go_wp2
    go_ret
    exact ⟨retB_f (fun D => by have := D.n1; omega), rfl⟩
  · by_cases h2 : 12 < ss.length
    · go_enter Tryz.func83, Tryz.ntmps83
      go_wp2
      go_ret
      exact ⟨retB_f (fun D => by have := D.n2; omega), rfl⟩
    · obtain ⟨g, o, rfl, hE⟩ := h.row (by omega)
      by_cases hd : ss.Nodup
      · replace c1 := calls_no c1 (fun k => k hd)
        have HD := hid hd
        have HE := hid hE
        clear hd hE
        go_enter Tryz.func83, Tryz.ntmps83
        go_wp2_with fail
        refine c1.mono ?_
        rintro e w1 ⟨rfl, rfl⟩
        go_wp2
        go_loop [19] (fun i => ∃ k : Nat, k ≤ ss.length ∧ i = .int .i64 k ∧ ∀ j, j < k → (h : j < ss.length) → nrB ss[j] = true) (fun i => ss.length - (intOf i).toNat)
        case atStart => exact ⟨0, Nat.zero_le _, rfl, fun j hj => absurd hj (by omega)⟩
        case round =>
          obtain ⟨k, hk, rfl, hall⟩ := hrel
          have HA := hid hall
          clear hall
          by_cases hlt : k < ss.length
          · have c0 := HE.out.2 k hlt
            have cN := implNameRight_any ss[k] w1 (hF k hlt)
            cases hr : nrB ss[k] with
            | false =>
              rw [hr] at cN
              have HR := hid (show ¬ StepsP ss from fun D => by have := D.nm k hlt; rw [hr] at this; cases this)
              clear hr
              go_wp2_with fail
              refine cN.mono ?_
              rintro e w1 ⟨rfl, rfl⟩
              go_wp2
              go_ret
              exact ⟨retB_f HR.out, rfl⟩
            | true =>
              rw [hr] at cN
              have HR := hid hr
              clear hr
              go_wp2_with fail
              refine cN.mono ?_
              rintro e w1 ⟨rfl, rfl⟩
              go_wp2
              go_round
              case rel => exact ⟨k + 1, by omega, by go_num, fun j hj h => by
                by_cases e : j = k
                · subst e; exact HR.out
                · exact HA.out j (by omega) h⟩
              case measure => simp [intOf]; omega
          · have HF := hid (show StepsP ss from ⟨by omega, by omega, fun i h => HA.out i (by omega) h, HD.out⟩)
            go_wp2
            go_ret
            exact ⟨retB_t HF.out, rfl⟩
      · replace c1 := calls_yes c1 hd
        have HD := hid hd
        clear hd
        go_enter Tryz.func83, Tryz.ntmps83
        go_wp2_with fail
        refine c1.mono ?_
        rintro e w1 ⟨rfl, rfl⟩
        go_wp2
        go_ret
        exact ⟨retB_f (fun D => HD.out D.nd), rfl⟩

set_option maxRecDepth 100000 in
set_option maxHeartbeats 1000000 in
theorem flowsRight_any (a1 a2 : Option Addr) (k1 k2 : Nat) (ss : List ByteArray) (fs : List Pr) (w : World) (h1 : StrSl w (.slice a1 ss.length k1) ss) (h2 : PrSl w (.slice a2 fs.length k2) fs) (n1 : ss.length ≤ maxLen) (n2 : fs.length ≤ maxLen) :
    Calls Tryz.prog 84 #[.slice a1 ss.length k1, .slice a2 fs.length k2] w fun e w' => RetB e (FlowsP ss fs) ∧ Below w.heap.size w w' := by
  have c1 := twoP_any _ fs w h2 n2
  have H1 := hid h1
  have H2 := hid h2
  have N1 := hid n1
  unfold maxLen at n1 n2
  clear h1 h2
  by_cases p1 : 40 < fs.length
  · go_enter Tryz.func84, Tryz.ntmps84
    go_wp2
    go_ret
    exact ⟨retB_f (fun D => by have := D.m; omega), Below.refl _ _⟩
  · by_cases hd : fs.Nodup
    · replace c1 := calls_no c1 (fun k => k hd)
      have HD := hid hd
      clear hd
      go_enter Tryz.func84, Tryz.ntmps84
      go_wp2_with fail
      refine c1.mono ?_
      rintro e w1 ⟨rfl, hb1⟩
      go_wp2
      go_loopw [16] (fun i wr => ∃ k : Nat, k ≤ fs.length ∧ i = .int .i64 k ∧ (∀ j, j < k → (h : j < fs.length) → fs[j].fst ∈ ss ∧ fs[j].snd ∈ ss) ∧ Below w.heap.size w wr) (fun i _ => fs.length - (intOf i).toNat)
      case atStart => exact ⟨0, Nat.zero_le _, rfl, fun j hj => absurd hj (by omega), hb1⟩
      case round =>
        clear hb1 c1
        obtain ⟨k, hk, rfl, hall, hbel⟩ := hrel
        have HA := hid hall
        clear hall
        by_cases hlt : k < fs.length
        · obtain ⟨g2, o2, rfl, hQ⟩ := H2.out.row (by omega)
          obtain ⟨c0, c1⟩ := (hQ.stay hbel (Nat.le_refl _)).2 k hlt
          have HK := hid (fun (D : FlowsP ss fs) => D.fl k hlt)
          have hbW : Below w.heap.size w (wr.alloc (.cells #[.string fs[k].fst, .string fs[k].snd] 116)) := hbel.alloc hbel.size _
          have cA := fun t => hasS_any _ ss t _ (H1.out.stay hbW (Nat.le_refl _)) N1.out
          by_cases hf : fs[k].fst ∈ ss
          · by_cases ht : fs[k].snd ∈ ss
            · have c2 := cA fs[k].fst
              have c3 := cA fs[k].snd
              rw [inB_yes hf] at c2
              rw [inB_yes ht] at c3
              have HF := hid hf
              have HT := hid ht
              clear hf ht cA hQ
              go_wp2_with fail
              refine c2.mono ?_
              rintro e w2 ⟨rfl, rfl⟩
              go_wp2_with fail
              refine c3.mono ?_
              rintro e w2 ⟨rfl, rfl⟩
              go_wp2
              go_roundw
              case rel => exact ⟨k + 1, by omega, by go_num, fun j hj h => by
                by_cases e : j = k
                · subst e; exact ⟨HF.out, HT.out⟩
                · exact HA.out j (by omega) h, hbW⟩
              case measure => simp [intOf]; omega
            · have c2 := cA fs[k].fst
              have c3 := cA fs[k].snd
              rw [inB_yes hf] at c2
              rw [inB_no ht] at c3
              have HT := hid ht
              clear hf ht cA hQ
              go_wp2_with fail
              refine c2.mono ?_
              rintro e w2 ⟨rfl, rfl⟩
              go_wp2_with fail
              refine c3.mono ?_
              rintro e w2 ⟨rfl, rfl⟩
              go_wp2
              go_ret
              exact ⟨retB_f (fun D => HT.out (HK.out D).2), hbW⟩
          · have c2 := cA fs[k].fst
            rw [inB_no hf] at c2
            have HF := hid hf
            clear hf cA hQ
            go_wp2_with fail
            refine c2.mono ?_
            rintro e w2 ⟨rfl, rfl⟩
            go_wp2
            go_ret
            exact ⟨retB_f (fun D => HF.out (HK.out D).1), hbW⟩
        · have HF := hid (show FlowsP ss fs from ⟨by omega, fun i h => HA.out i (by omega) h, HD.out⟩)
          go_wp2
          go_ret
          exact ⟨retB_t HF.out, hbel⟩
    · replace c1 := calls_yes c1 hd
      have HD := hid hd
      clear hd
      go_enter Tryz.func84, Tryz.ntmps84
      go_wp2_with fail
      refine c1.mono ?_
      rintro e w1 ⟨rfl, hb1⟩
      go_wp2
      go_ret
      exact ⟨retB_f (fun D => HD.out D.fd), hb1⟩

set_option maxRecDepth 100000 in
set_option maxHeartbeats 1000000 in
theorem implDefRight_any (a1 a2 : Option Addr) (k1 k2 : Nat) (ss : List ByteArray) (fs : List Pr) (w : World) (h1 : StrSl w (.slice a1 ss.length k1) ss) (h2 : PrSl w (.slice a2 fs.length k2) fs) (hF : ∀ i, (h : i < ss.length) → ss[i].size ≤ maxLen) (n1 : ss.length ≤ maxLen) (n2 : fs.length ≤ maxLen) :
    Calls Tryz.prog 53 #[.agg #[.slice a1 ss.length k1, .slice a2 fs.length k2]] w fun e w' => RetB e (DefP ss fs) ∧ Below w.heap.size w w' := by
  have hbW : Below w.heap.size w (w.alloc (.cells #[.slice a1 ss.length k1, .slice a2 fs.length k2] 26)) := (Below.refl _ _).alloc (Nat.le_refl _) _
  have c1 := stepsRight_any a1 k1 ss _ (h1.stay hbW (Nat.le_refl _)) hF n1
  have c2 := flowsRight_any a1 a2 k1 k2 ss fs _ (h1.stay hbW (Nat.le_refl _)) (h2.stay hbW (Nat.le_refl _)) n1 n2
  clear h1 h2 hF n1 n2
  by_cases hs : StepsP ss
  · replace c1 := calls_yes c1 hs
    have HS := hid hs
    clear hs
    by_cases hf : FlowsP ss fs
    · replace c2 := calls_yes c2 hf
      have HP := hid hf
      clear hf
      go_enter Tryz.func53, Tryz.ntmps53
      go_wp2_with fail
      refine c1.mono ?_
      rintro e w1 ⟨rfl, rfl⟩
      go_wp2_with fail
      refine c2.mono ?_
      rintro e w1 ⟨rfl, hb⟩
      go_wp2
      go_ret
      exact ⟨retB_t ⟨HS.out, HP.out⟩, hbW.trans (hb.mono (by simp))⟩
    · replace c2 := calls_no c2 hf
      have HP := hid hf
      clear hf
      go_enter Tryz.func53, Tryz.ntmps53
      go_wp2_with fail
      refine c1.mono ?_
      rintro e w1 ⟨rfl, rfl⟩
      go_wp2_with fail
      refine c2.mono ?_
      rintro e w1 ⟨rfl, hb⟩
      go_wp2
      go_ret
      exact ⟨retB_f (fun D => HP.out D.2), hbW.trans (hb.mono (by simp))⟩
  · replace c1 := calls_no c1 hs
    have HS := hid hs
    clear hs
    go_enter Tryz.func53, Tryz.ntmps53
    go_wp2_with fail
    refine c1.mono ?_
    rintro e w1 ⟨rfl, rfl⟩
    go_wp2
    go_ret
    exact ⟨retB_f (fun D => HS.out D.1), hbW⟩
end Go.Proofs.YthggcdadipjiiaaGreatDoor
