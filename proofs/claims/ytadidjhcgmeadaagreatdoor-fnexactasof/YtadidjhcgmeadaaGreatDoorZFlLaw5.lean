/-
  Texts put together: FlLaw, DfLaw, DfOw, EvLz, EvEq.
-/
import Derived.Test.YtadidjhcgmeadaaGreatDoorZAgg6
import Derived.Test.YtadidjhcgmeadaaGreatDoorZSpPut5
import Derived.Lib.QuietBelow
import Derived.Test.YtadidjhcgmeadaaGreatDoorZDfMath4
import Derived.Test.YtadidjhcgmeadaaGreatDoorZEvI4
import Derived.Test.YtadidjhcgmeadaaGreatDoorZImRuns4
import Derived.Test.YtadidjhcgmeadaaGreatDoorZEvT5
/-
  What laws.szFlow, szFlowS, toFlow, toFlowS, eqFlow, eqFlowS answer: contracts over the seat's program.
-/
namespace Go.Proofs.YtadidjhcgmeadaaGreatDoor
open Go.RowKit Go.Sort

theorem szFlow_any (s v : ByteArray) (left : Int) (w : World) (h0 : 0 ≤ left) (h1 : left ≤ 1048576) (hs : s.size ≤ maxLen) (hv : v.size ≤ maxLen) :
    Calls Tryz.prog 75 #[.agg #[.string s, .string v], .int .i64 left] w fun e w' =>
      e = .returned (.int .i64 (if (s.size : Int) + (v.size : Int) ≤ left then left - (s.size : Int) - (v.size : Int) else -1)) ∧ Below w.heap.size w w' := by
  unfold maxLen at hs hv
  by_cases hz : (s.size : Int) + (v.size : Int) ≤ left
  · rw [if_pos hz]
    go_enter Tryz.func75, Tryz.ntmps75
    go_wp2
    go_ret
    exact ⟨rfl, (Below.refl _ _).alloc (Nat.le_refl _) _⟩
  · rw [if_neg hz]
    by_cases hz2 : (s.size : Int) ≤ left
    · go_enter Tryz.func75, Tryz.ntmps75
      go_wp2
      go_ret
      exact ⟨rfl, (Below.refl _ _).alloc (Nat.le_refl _) _⟩
    · go_enter Tryz.func75, Tryz.ntmps75
      go_wp2
      go_ret
      exact ⟨rfl, (Below.refl _ _).alloc (Nat.le_refl _) _⟩
set_option maxRecDepth 100000 in
theorem toFlow_any (s v : ByteArray) (w : World) :
    Calls Tryz.prog 79 #[.agg #[.string s, .string v]] w fun e w' => e = .returned (.agg #[.string s, .string v]) ∧ Below w.heap.size w w' := by
  go_enter Tryz.func79, Tryz.ntmps79
  go_wp2
  exact bodyPost_ret (v := .agg #[.string s, .string v]) (by simp [results, Tryz.results79, go_sem]) rfl ⟨rfl, (below2 _ _ _).alloc (by simp; omega) _⟩
theorem eqFlow_same (s v : ByteArray) (w : World) :
    Calls Tryz.prog 90 #[.agg #[.string s, .string v], .agg #[.string s, .string v]] w fun e w' => e = .returned (.bool true) ∧ Below w.heap.size w w' := by
  go_enter Tryz.func90, Tryz.ntmps90
  go_wp2
  go_ret
  exact ⟨rfl, ((Below.refl _ _).alloc (Nat.le_refl _) _).alloc (by simp) _⟩

set_option maxRecDepth 100000 in
theorem szFlowS_row (g o c : Nat) (es : List Pr) (left : Int) (w : World) (hE : PrsAt w g o es) (hF : FitP es) (h0 : 0 ≤ left) (h1 : left ≤ 1048576) (hn : es.length ≤ maxLen) :
    Calls Tryz.prog 37 #[.slice (some ⟨g, o, none⟩) es.length c, .int .i64 left] w fun e w' =>
      e = .returned (.int .i64 (szP left es)) ∧ Below w.heap.size w w' := by
  unfold maxLen at hn
  by_cases hz : (es.length : Int) ≤ left
  · have HE := hid hE
    clear hE
    go_enter Tryz.func37, Tryz.ntmps37
    go_wp2
    go_loopw [1, 5] (fun l i wr => ∃ k : Nat, k ≤ es.length ∧ i = .int .i64 k ∧ l = .int .i64 (left - (es.length : Int) - (sumP (es.take k) : Int)) ∧ 0 ≤ left - (es.length : Int) - (sumP (es.take k) : Int) ∧ Below w.heap.size w wr) (fun _ i _ => es.length - (intOf i).toNat)
    case atStart => exact ⟨0, Nat.zero_le _, rfl, by simp [sumP], by simp [sumP]; omega, Below.refl _ _⟩
    case round =>
      obtain ⟨k, hk, rfl, rfl, hl, hbel⟩ := hrel
      by_cases hlt : k < es.length
      · have hA := (HE.out.stay hbel (Nat.le_refl _)).2 k hlt
        obtain ⟨c0, c1⟩ := hA
        have hst := hid (sumP_take hlt)
        have hf := hF k hlt
        generalize es[k].fst = q4 at *
        generalize es[k].snd = q5 at *
        generalize hL : left - (es.length : Int) - (sumP (es.take k) : Int) = L at *
        have HL := hid hL
        have cz := fun w => szFlow_any q4 q5 L w hl (by omega) hf.1 hf.2
        clear hL hf
        by_cases hzz : (q4.size : Int) + (q5.size : Int) ≤ L
        · rw [if_pos hzz] at cz
          have hL0 : (0 : Int) ≤ L - (q4.size : Int) - (q5.size : Int) := by omega
          have hL1 : left - (es.length : Int) - (sumP (es.take (k + 1)) : Int) = L - (q4.size : Int) - (q5.size : Int) := by have := hst.out; have := HL.out; omega
          have HL1 := hid hL1
          clear hzz hL1
          generalize L - (q4.size : Int) - (q5.size : Int) = L2 at *
          go_wp2_with fail
          refine (cz _).mono ?_
          rintro e w1 ⟨rfl, hb1⟩
          have hbel1 := hbel.trans (hb1.mono hbel.size)
          clear c0 c1 hb1 cz
          go_wp2
          go_roundw
          case rel => exact ⟨k + 1, by omega, by go_num, by rw [HL1.out], by rw [HL1.out]; exact hL0, hbel1⟩
          case measure => simp [intOf]; omega
        · rw [if_neg hzz] at cz
          have hfin : szP left es = -1 := szP_no (by have := hst.out; have := HL.out; have := sumP_le es (k + 1); omega)
          have HF := hid hfin
          clear hzz hfin
          go_wp2_with fail
          refine (cz _).mono ?_
          rintro e w1 ⟨rfl, hb1⟩
          have hbel1 := hbel.trans (hb1.mono hbel.size)
          clear c0 c1 hb1 cz
          go_wp2
          go_ret
          exact ⟨by rw [HF.out]; rfl, hbel1⟩
      · have hk' : k = es.length := by omega
        have hT : es.take k = es := List.take_of_length_le (by omega)
        rw [hT] at hl
        have HT := hid hT
        have hfin := szP_yes (left := left) (es := es) (by omega)
        have HF := hid hfin
        clear hk' hT hfin
        go_wp2
        go_ret
        exact ⟨ret_int (by rw [HF.out, HT.out]), hbel⟩
  · have hfin := szP_no (left := left) (es := es) (by omega)
    have HF := hid hfin
    clear hfin hE
    go_enter Tryz.func37, Tryz.ntmps37
    go_wp2
    go_ret
    exact ⟨by rw [HF.out]; rfl, Below.refl _ _⟩
theorem szFlowS_none (a : Option Addr) (c : Nat) (left : Int) (w : World) (h0 : 0 ≤ left) (h1 : left ≤ 1048576) :
    Calls Tryz.prog 37 #[.slice a 0 c, .int .i64 left] w fun e w' => e = .returned (.int .i64 left) ∧ w' = w := by
  go_enter Tryz.func37, Tryz.ntmps37
  go_wp2
  go_loop [1, 5] (fun l i => l = .int .i64 left ∧ i = .int .i64 0) (fun _ _ => 0)
  case atStart => exact ⟨rfl, rfl⟩
  case round =>
    obtain ⟨rfl, rfl⟩ := hrel
    go_wp2
    go_ret
    exact ⟨rfl, rfl⟩
theorem szFlowS_any (v : Value) (es : List Pr) (left : Int) (w : World) (h : PrSl w v es) (hF : FitP es) (h0 : 0 ≤ left) (h1 : left ≤ 1048576) (hn : es.length ≤ maxLen) :
    Calls Tryz.prog 37 #[v, .int .i64 left] w fun e w' => e = .returned (.int .i64 (szP left es)) ∧ Below w.heap.size w w' := by
  rcases h with ⟨a, c, rfl, rfl⟩ | ⟨g, o, c, rfl, _, h⟩
  · refine (szFlowS_none a c left w h0 h1).mono ?_
    rintro e w' ⟨rfl, rfl⟩
    exact ⟨ret_int (by rw [szP_yes (by simp [sumP]; omega)]; simp [sumP]), Below.refl _ _⟩
  · exact szFlowS_row g o c es left w h hF h0 h1 hn
theorem Tryz.infoFlow : (Tryz.prog.info? 114).map (fun i => (i.zero, i.size, i.bytes)) = some (some (.agg #[.string ⟨#[]⟩, .string ⟨#[]⟩]), 2, 32) := by kernel_rfl
set_option maxRecDepth 100000 in
theorem toFlowS_row (g o c : Nat) (es : List Pr) (w : World) (hE : PrsAt w g o es) (hn : es.length ≤ 1048576) :
    Calls Tryz.prog 42 #[.slice (some ⟨g, o, none⟩) es.length c] w fun e w' =>
      ∃ v, e = .returned v ∧ w'.ownsRow w.heap.size 114 2 v es.length (es.flatMap Pr.cells) ∧ Below w.heap.size w w' := by
  obtain ⟨i0, hi, hz0, hz1, hz2⟩ := info_parts Tryz.infoFlow
  have HE := hid hE
  clear hE
  go_enter Tryz.func42, Tryz.ntmps42
  go_wp2_with (at_make; refine wpList_make_full _ rfl _ _ 30 rfl w.heap.size 114 i0 _ 2 Tryz.underlying30 hi hz0 hz1 _ _ _ _ es.length rfl rfl ?m1 ?m2 ?m3 ?m4 (Nat.le_refl _) ?_)
  case m1 => omega
  case m2 => omega
  case m3 => rw [hz2]; omega
  case m4 => unfold maxLen; omega
  intro w1 hown hgrow
  have hB1 : Below w.heap.size w w1 := (Below.refl _ _).grown hgrow (Nat.le_refl _) (fun k h => by cases h)
  obtain ⟨L0, hL0, hG0⟩ := own_row2 hown
  have H0 := hid hL0
  have HG0 := hid hG0
  clear hown hgrow hi hz0 hz1 hz2 hL0 hG0 i0
  go_wp2
  go_loopw [4] (fun i wr => ∃ (k : Nat) (L : List Value), k ≤ es.length ∧ i = .int .i64 k ∧ L.length = es.length * 2 ∧ L.take (k * 2) = (es.take k).flatMap Pr.cells ∧ wr.heap[w.heap.size]? = some (.cells L.toArray 114 (0, 0)) ∧ Below w.heap.size w wr) (fun i _ => es.length - (intOf i).toNat)
  case atStart => exact ⟨0, L0, Nat.zero_le _, rfl, H0.out, by simp, HG0.out, hB1⟩
  case round =>
    obtain ⟨k, L, hk, rfl, hL, hT, hG, hbel⟩ := hrel
    have HT := hid hT
    have HL := hid hL
    have HG := hid hG
    clear hT hL hG
    have hzr := lt_heap HG.out
    by_cases hlt : k < es.length
    · obtain ⟨c0, c1⟩ := (HE.out.stay hbel (Nat.le_refl _)).2 k hlt
      have HC := hid (pflat_take hlt)
      have cz := fun w => toFlow_any es[k].fst es[k].snd w
      go_wp2_with fail
      refine (cz _).mono ?_
      rintro e w2 ⟨rfl, hb2⟩
      have hG2 : w2.heap[w.heap.size]? = some (.cells L.toArray 114 (0, 0)) := by rw [hb2.block _ hzr]; exact HG.out
      have hbel2 := hbel.trans (hb2.mono hbel.size)
      clear c0 c1 hb2 cz
      have hfz : ∀ j, w2.frozen? ⟨w.heap.size, j, none⟩ = false := fun j => Lib.frozen_of_heap hG2 j
      have hce : ∀ j, j < 2 → ∃ u, w2.cell? ⟨w.heap.size, k * 2 + j, none⟩ = some u := fun j hj => cell_is hG2 (by have := HL.out; omega)
      obtain ⟨u0, d0⟩ : ∃ u, w2.cell? ⟨w.heap.size, k * 2, none⟩ = some u := hce 0 (by decide)
      obtain ⟨u1, d1⟩ := hce 1 (by decide)
      have HG2 := hid hG2
      clear hG2 hce
      go_wp2
      go_roundw
      case rel =>
        refine ⟨k + 1, _, by omega, by go_num, ?_, ?_, blk_set (blk_set HG2.out _) _, (hbel2.setCell (p := ⟨w.heap.size, k * 2, none⟩) (Nat.le_refl _) _).setCell (p := ⟨w.heap.size, k * 2 + 1, none⟩) (Nat.le_refl _) _⟩
        · rw [List.length_set, List.length_set]; exact HL.out
        · rw [show (k + 1) * 2 = k * 2 + 2 by omega, set2_take (by have := HL.out; omega), HT.out, HC.out]; rfl
      case measure => simp [intOf]; omega
    · have hke : k = es.length := by omega
      have HK := hid hke
      clear hke
      go_wp2
      go_ret
      refine ⟨_, rfl, ⟨pflat_len es, .inr ⟨w.heap.size, es.length, L.toArray, rfl, Nat.le_refl _, HG.out, Nat.le_refl _, by unfold maxLen; omega, by simpa using HL.out, ?_⟩⟩, hbel⟩
      have := HT.out
      rw [HK.out, List.take_of_length_le (Nat.le_refl es.length)] at this
      simpa using this
theorem toFlowS_none (a : Option Addr) (c : Nat) (w : World) :
    Calls Tryz.prog 42 #[.slice a 0 c] w fun e w' =>
      ∃ v, e = .returned v ∧ w'.ownsRow w.heap.size 114 2 v 0 [] ∧ Below w.heap.size w w' := by
  obtain ⟨i0, hi, hz0, hz1, hz2⟩ := info_parts Tryz.infoFlow
  go_enter Tryz.func42, Tryz.ntmps42
  go_wp2_with (at_make; refine wpList_make_full _ rfl _ _ 30 rfl w.heap.size 114 i0 _ 2 Tryz.underlying30 hi hz0 hz1 _ _ _ _ 0 rfl rfl ?m1 ?m2 ?m3 ?m4 (Nat.le_refl _) ?_)
  case m1 => rfl
  case m2 => rfl
  case m3 => rw [hz2]; omega
  case m4 => unfold maxLen; omega
  intro w1 hown hgrow
  have hB1 : Below w.heap.size w w1 := (Below.refl _ _).grown hgrow (Nat.le_refl _) (fun k h => by cases h)
  have HO : Hid (w1.ownsRow w.heap.size 114 2 (.slice (some ⟨w.heap.size, 0, none⟩) 0 0) 0 []) := by
    have h0 := hown.1
    rw [Nat.zero_mul] at h0
    rw [List.eq_nil_of_length_eq_zero h0] at hown
    exact hown
  clear hown hgrow hi hz0 hz1 hz2 i0
  go_wp2
  go_loop [4] (fun i => i = .int .i64 0) (fun _ => 0)
  case atStart => exact rfl
  case round =>
    subst hrel
    go_wp2
    go_ret
    exact ⟨_, rfl, HO.out, hB1⟩
theorem toFlowS_any (v : Value) (es : List Pr) (w : World) (h : PrSl w v es) (hn : es.length ≤ 1048576) :
    Calls Tryz.prog 42 #[v] w fun e w' =>
      ∃ v, e = .returned v ∧ w'.ownsRow w.heap.size 114 2 v es.length (es.flatMap Pr.cells) ∧ Below w.heap.size w w' := by
  rcases h with ⟨a, c, rfl, rfl⟩ | ⟨g, o, c, rfl, _, h⟩
  · exact toFlowS_none a c w
  · exact toFlowS_row g o c es w h hn
set_option maxHeartbeats 4000000 in
set_option maxRecDepth 1000000 in
theorem eqFlowS_row (g1 o1 c1 g2 o2 c2 : Nat) (es : List Pr) (w : World) (hE1 : PrsAt w g1 o1 es) (hE2 : PrsAt w g2 o2 es) (hn : es.length ≤ maxLen) :
    Calls Tryz.prog 51 #[.slice (some ⟨g1, o1, none⟩) es.length c1, .slice (some ⟨g2, o2, none⟩) es.length c2] w fun e w' => e = .returned (.bool true) ∧ Below w.heap.size w w' := by
  unfold maxLen at hn
  have mixed : Tryz.prog.follows .mixedOrders = true := by kernel_rfl
  have HE1 := hid hE1
  have HE2 := hid hE2
  clear hE1 hE2
  go_enter Tryz.func51, Tryz.ntmps51
  go_wp2
  go_loopw [5] (fun i wr => ∃ k : Nat, k ≤ es.length ∧ i = .int .i64 k ∧ Below w.heap.size w wr) (fun i _ => es.length - (intOf i).toNat)
  case atStart => exact ⟨0, Nat.zero_le _, rfl, Below.refl _ _⟩
  case round =>
    obtain ⟨k, hk, rfl, hbel⟩ := hrel
    by_cases hlt : k < es.length
    · obtain ⟨a0, a1⟩ := (HE1.out.stay hbel (Nat.le_refl _)).2 k hlt
      obtain ⟨b0, b1⟩ := (HE2.out.stay hbel (Nat.le_refl _)).2 k hlt
      generalize es[k].fst = q4 at *
      generalize es[k].snd = q5 at *
      have k0 := cell_regrown a0
      have k1 := cell_regrown a1
      have l0 := cell_regrown b0
      have l1 := cell_regrown b1
      have d1 := fun d os => Calls.regrown_of (w := wr) (d := d) (os := os) (eqFlow_same q4 q5 _)
      clear a0 a1 b0 b1
      go_wp2
      refine wp_region_quiet_below mixed (by kernel_rfl) ?_
      repeat (quiet_step (first | (go_at_call 90; exact d1 _ _)))
      refine wpQuiet_nil ?_
      intro _ hw'
      obtain ⟨⟨dq, osq⟩, hw''⟩ := hw'
      subst hw''
      have hbX := hbel.trans ((below_regrown wr dq osq).mono hbel.size)
      clear k0 k1 l0 l1 d1
      go_wp2
      go_roundw
      case rel => exact ⟨k + 1, by omega, by go_num, hbX⟩
      case measure => simp [intOf]; omega
    · go_wp2
      go_ret
      exact ⟨rfl, hbel⟩
theorem eqFlowS_none (a1 a2 : Option Addr) (c1 c2 : Nat) (w : World) :
    Calls Tryz.prog 51 #[.slice a1 0 c1, .slice a2 0 c2] w fun e w' => e = .returned (.bool true) ∧ Below w.heap.size w w' := by
  go_enter Tryz.func51, Tryz.ntmps51
  go_wp2
  go_loop [5] (fun i => i = .int .i64 0) (fun _ => 0)
  case atStart => exact rfl
  case round =>
    subst hrel
    go_wp2
    go_ret
    exact ⟨rfl, Below.refl _ _⟩
theorem eqFlowS_any (v1 v2 : Value) (es : List Pr) (w : World) (h1 : PrSl w v1 es) (h2 : PrSl w v2 es) (hn : es.length ≤ maxLen) :
    Calls Tryz.prog 51 #[v1, v2] w fun e w' => e = .returned (.bool true) ∧ Below w.heap.size w w' := by
  rcases h1 with ⟨a, c, rfl, rfl⟩ | ⟨g, o, c, rfl, hp, h⟩
  · rcases h2 with ⟨a', c', rfl, _⟩ | ⟨g', o', c', rfl, hp', h'⟩
    · exact eqFlowS_none a a' c c' w
    · simp at hp'
  · rcases h2 with ⟨a', c', rfl, h0⟩ | ⟨g', o', c', rfl, hp', h'⟩
    · rw [h0] at hp; simp at hp
    · exact eqFlowS_row g o c g' o' c' es w h h' hn
end Go.Proofs.YtadidjhcgmeadaaGreatDoor

/-
  What laws.szDef, toDef and eqDef answer, for every Def: contracts over the seat's program.
-/
namespace Go.Proofs.YtadidjhcgmeadaaGreatDoor
open Go.RowKit Go.Sort

set_option maxRecDepth 100000 in
set_option maxHeartbeats 1000000 in
theorem szDef_any (a1 a2 : Option Addr) (k1 k2 : Nat) (ss : List ByteArray) (fs : List Pr) (left : Int) (w : World) (h1 : StrSl w (.slice a1 ss.length k1) ss) (h2 : PrSl w (.slice a2 fs.length k2) fs) (F1 : FitS ss) (F2 : FitP fs) (h0 : 0 ≤ left) (hl : left ≤ 1048576) (n1 : ss.length ≤ maxLen) (n2 : fs.length ≤ maxLen) :
    Calls Tryz.prog 8 #[.agg #[.slice a1 ss.length k1, .slice a2 fs.length k2], .int .i64 left] w fun e w' => ∃ r : Int, e = .returned (.int .i64 r) ∧ (r = -1 ∨ 0 ≤ r ∧ r ≤ left ∧ ss.length ≤ 1048576 ∧ fs.length ≤ 1048576) ∧ Below w.heap.size w w' := by
  have hbW : Below w.heap.size w (w.alloc (.cells #[.slice a1 ss.length k1, .slice a2 fs.length k2] 25)) := (Below.refl _ _).alloc (Nat.le_refl _) _
  have c1 := szStringS_any _ ss left _ (h1.stay hbW (Nat.le_refl _)) F1 h0 hl n1
  have H2 := hid h2
  have HF2 := hid F2
  have N2 := hid n2
  clear h1 h2 F1 F2 n1 n2
  by_cases hz : (ss.length : Int) + (sumS ss : Int) ≤ left
  · rw [szL_yes hz] at c1
    have hL : (0 : Int) ≤ left - (ss.length : Int) - (sumS ss : Int) := by omega
    have hL2 : left - (ss.length : Int) - (sumS ss : Int) ≤ left := by omega
    have HN := hid (show ss.length ≤ 1048576 by omega)
    generalize left - (ss.length : Int) - (sumS ss : Int) = L at *
    by_cases hz2 : (fs.length : Int) + (sumP fs : Int) ≤ L
    · have HR := hid (szP_yes hz2)
      have HS := hid (show 0 ≤ L - (fs.length : Int) - (sumP fs : Int) ∧ L - (fs.length : Int) - (sumP fs : Int) ≤ left ∧ fs.length ≤ 1048576 by omega)
      clear hz hz2
      go_enter Tryz.func8, Tryz.ntmps8
      go_wp2_with fail
      refine c1.mono ?_
      rintro e w1 ⟨rfl, hb1⟩
      obtain ⟨hc1, hf1⟩ := bcell hb1
      have hbA := hbW.trans (hb1.mono (by simp))
      simp at hc1 hf1
      have HB := hid hbA
      clear hb1 c1 hbW hbA
      go_wp2_with fail
      refine (szFlowS_any _ fs L _ (H2.out.stay HB.out (Nat.le_refl _)) HF2.out hL (by omega) N2.out).mono ?_
      rw [HR.out]
      rintro e w2 ⟨rfl, hb2⟩
      have hbB := HB.out.trans (hb2.mono HB.out.size)
      have hS := HS.out.1
      clear hb2 hc1 hf1
      generalize L - (fs.length : Int) - (sumP fs : Int) = L2 at *
      go_wp2
      go_ret
      exact ⟨L2, rfl, .inr ⟨HS.out.1, HS.out.2.1, HN.out, HS.out.2.2⟩, hbB⟩
    · have HR := hid (szP_no (left := L) (es := fs) (by omega))
      clear hz hz2
      go_enter Tryz.func8, Tryz.ntmps8
      go_wp2_with fail
      refine c1.mono ?_
      rintro e w1 ⟨rfl, hb1⟩
      obtain ⟨hc1, hf1⟩ := bcell hb1
      have hbA := hbW.trans (hb1.mono (by simp))
      simp at hc1 hf1
      have HB := hid hbA
      clear hb1 c1 hbW hbA
      go_wp2_with fail
      refine (szFlowS_any _ fs L _ (H2.out.stay HB.out (Nat.le_refl _)) HF2.out hL (by omega) N2.out).mono ?_
      rw [HR.out]
      rintro e w2 ⟨rfl, hb2⟩
      have hbB := HB.out.trans (hb2.mono HB.out.size)
      clear hb2 hc1 hf1
      go_wp2
      go_ret
      exact ⟨-1, rfl, .inl rfl, hbB⟩
  · rw [szL_no (by omega)] at c1
    clear hz
    go_enter Tryz.func8, Tryz.ntmps8
    go_wp2_with fail
    refine c1.mono ?_
    rintro e w1 ⟨rfl, hb1⟩
    have hbA := hbW.trans (hb1.mono (by simp))
    clear hb1 c1 hbW
    go_wp2
    go_ret
    exact ⟨-1, rfl, .inl rfl, hbA⟩

set_option maxRecDepth 100000 in
set_option maxHeartbeats 1000000 in
theorem toDef_any (a1 a2 : Option Addr) (k1 k2 : Nat) (ss : List ByteArray) (fs : List Pr) (w : World) (h1 : StrSl w (.slice a1 ss.length k1) ss) (h2 : PrSl w (.slice a2 fs.length k2) fs) (n1 : ss.length ≤ 1048576) (n2 : fs.length ≤ 1048576) :
    Calls Tryz.prog 11 #[.agg #[.slice a1 ss.length k1, .slice a2 fs.length k2]] w fun e w' => ∃ b1 b2 c1 c2 m, e = .returned (.agg #[.slice b1 ss.length c1, .slice b2 fs.length c2]) ∧ w'.ownsRow w.heap.size 9 1 (.slice b1 ss.length c1) ss.length (ss.map Value.string) ∧ w'.ownsRow m 114 2 (.slice b2 fs.length c2) fs.length (fs.flatMap Pr.cells) ∧ w.heap.size ≤ m ∧ (∀ g, (Value.slice b1 ss.length c1).ownBlock = some g → g < m) ∧ Below w.heap.size w w' := by
  have H1 := hid h1
  have H2 := hid h2
  have N1 := hid n1
  have N2 := hid n2
  clear h1 h2
  go_enter Tryz.func11, Tryz.ntmps11
  go_wp2_with fail
  have hb3 : Below w.heap.size w (((w.alloc (.cells #[.slice a1 ss.length k1, .slice a2 fs.length k2] 25)).alloc (.cells #[.slice none 0 0, .slice none 0 0] 32)).alloc (.cells #[.slice none 0 0, .slice none 0 0] 32)) := (((Below.refl _ _).alloc (Nat.le_refl _) _).alloc (by simp) _).alloc (by simp; omega) _
  refine (toStringS_any _ ss _ (H1.out.stay hb3 (Nat.le_refl _)) N1.out).mono ?_
  rintro e w1 ⟨v1, rfl, ho1, hb1⟩
  obtain ⟨b1, c1, rfl⟩ := ownB_form ho1
  obtain ⟨hc1, hf1⟩ := bcell hb1
  have hz1 := hb1.size
  have HB1 := hid (hb3.trans (hb1.mono (by simp; omega)))
  simp at hc1 hf1 hz1 ho1
  have HO1 := hid ho1
  clear hb1 hb3 ho1
  go_wp2_with fail
  have hb4 := HB1.out.setCell (p := ⟨w.heap.size + 1 + 1, 0, none⟩) (by show w.heap.size ≤ w.heap.size + 1 + 1; omega) (.slice b1 ss.length c1)
  have ho4 := ownsRow_setCell_below HO1.out (a := ⟨w.heap.size + 1 + 1, 0, none⟩) (by show w.heap.size + 1 + 1 < w.heap.size + 1 + 1 + 1; omega) (.slice b1 ss.length c1)
  refine (toFlowS_any _ fs _ (H2.out.stay hb4 (Nat.le_refl _)) N2.out).mono ?_
  rintro e w2 ⟨v2, rfl, ho2, hb2⟩
  obtain ⟨b2, c2, rfl⟩ := ownB_form ho2
  have HO1b := hid (ownB_stay ho4 hb2)
  have HL := hid (fun g (hg : (Value.slice b1 ss.length c1).ownBlock = some g) => (ho4.lt g hg).2)
  have HB2 := hid (hb4.trans (hb2.mono (by have := HB1.out.size; simpa using this)))
  have hz2 := hb2.size
  obtain ⟨hc2, hf2⟩ := bcell hb2
  have hzz : (w1.setCell ⟨w.heap.size + 1 + 1, 0, none⟩ (.slice b1 ss.length c1)).heap.size = w1.heap.size := by simp
  rw [hzz] at ho2 hz2 hc2 hf2 HL
  have HO2 := hid ho2
  have p1 : w.heap.size + 1 < w1.heap.size := by omega
  have p2 : w.heap.size + 1 + 1 < w1.heap.size := by omega
  have y0 : w2.cell? ⟨w.heap.size + 1 + 1, 0, none⟩ = some (.slice b1 ss.length c1) := by rw [hc2 _ _ p2]; simp [go_sem, hc1]
  have y1 : w2.cell? ⟨w.heap.size + 1 + 1, 1, none⟩ = some (.slice none 0 0) := by rw [hc2 _ _ p2]; simp [go_sem, hc1]
  have y2 : w2.cell? ⟨w.heap.size + 1, 0, none⟩ = some (.slice none 0 0) := by rw [hc2 _ _ p1]; simp [go_sem, hc1]
  have y3 : w2.cell? ⟨w.heap.size + 1, 1, none⟩ = some (.slice none 0 0) := by rw [hc2 _ _ p1]; simp [go_sem, hc1]
  have f1 : ∀ o, w2.frozen? ⟨w.heap.size + 1 + 1, o, none⟩ = false := fun o => by rw [hf2 _ _ p2]; simp [go_sem, hf1]
  have f2 : ∀ o, w2.frozen? ⟨w.heap.size + 1, o, none⟩ = false := fun o => by rw [hf2 _ _ p1]; simp [go_sem, hf1]
  clear hb2 hb4 ho4 ho2 hzz hc1 hf1 hc2 hf2
  go_wp2
  refine bodyPost_ret (v := .agg #[.slice b1 ss.length c1, .slice b2 fs.length c2]) (by simp [results, Tryz.results11, go_sem, y2, y3]) rfl ⟨b1, b2, c1, c2, w1.heap.size, rfl, ?_, ?_, by omega, HL.out, ?_⟩
  · refine ownB_le ?_ (Nat.le_trans (show w.heap.size ≤ w.heap.size + 1 + 1 + 1 by omega) (Nat.le_refl _))
    exact ownsRow_setCell_below (ownsRow_setCell_below (ownsRow_setCell_below HO1b.out (by show w.heap.size + 1 + 1 < _; omega) _) (by show w.heap.size + 1 < _; omega) _) (by show w.heap.size + 1 < _; omega) _
  · exact ownsRow_setCell_below (ownsRow_setCell_below (ownsRow_setCell_below HO2.out (by show w.heap.size + 1 + 1 < _; omega) _) (by show w.heap.size + 1 < _; omega) _) (by show w.heap.size + 1 < _; omega) _
  · exact ((HB2.out.setCell (by show w.heap.size ≤ w.heap.size + 1 + 1; omega) _).setCell (by show w.heap.size ≤ w.heap.size + 1; omega) _).setCell (by show w.heap.size ≤ w.heap.size + 1; omega) _

set_option maxRecDepth 100000 in
set_option maxHeartbeats 1000000 in
theorem eqDef_same (a1 a2 a3 a4 : Option Addr) (k1 k2 k3 k4 : Nat) (ss : List ByteArray) (fs : List Pr) (w : World) (h1 : StrSl w (.slice a1 ss.length k1) ss) (h2 : PrSl w (.slice a2 fs.length k2) fs) (h3 : StrSl w (.slice a3 ss.length k3) ss) (h4 : PrSl w (.slice a4 fs.length k4) fs) (n1 : ss.length ≤ maxLen) (n2 : fs.length ≤ maxLen) :
    Calls Tryz.prog 14 #[.agg #[.slice a1 ss.length k1, .slice a2 fs.length k2], .agg #[.slice a3 ss.length k3, .slice a4 fs.length k4]] w fun e w' => e = .returned (.bool true) ∧ Below w.heap.size w w' := by
  have H1 := hid h1
  have H2 := hid h2
  have H3 := hid h3
  have H4 := hid h4
  have N1 := hid n1
  have N2 := hid n2
  clear h1 h2 h3 h4 n1 n2
  go_enter Tryz.func14, Tryz.ntmps14
  go_wp2_with fail
  have hb3 := below2 w (.cells #[.slice a1 ss.length k1, .slice a2 fs.length k2] 32) (.cells #[.slice a3 ss.length k3, .slice a4 fs.length k4] 32)
  refine (eqStringS_any _ _ ss _ (H1.out.stay hb3 (Nat.le_refl _)) (H3.out.stay hb3 (Nat.le_refl _)) N1.out).mono ?_
  rintro e w1 ⟨rfl, hb1⟩
  have HB := hid (hb3.trans (hb1.mono (by simp; omega)))
  obtain ⟨hc1, hf1⟩ := bcell hb1
  have hz1 := hb1.size
  simp at hc1 hf1 hz1
  clear hb1 hb3
  go_wp2_with fail
  refine (eqFlowS_any _ _ fs _ (H2.out.stay HB.out (Nat.le_refl _)) (H4.out.stay HB.out (Nat.le_refl _)) N2.out).mono ?_
  rintro e w2 ⟨rfl, hb2⟩
  have hbB := HB.out.trans (hb2.mono HB.out.size)
  clear hb2 hc1 hf1
  go_wp2
  go_ret
  exact ⟨rfl, hbB⟩
end Go.Proofs.YtadidjhcgmeadaaGreatDoor

/-
  What laws.toDef makes, in one word. A contract over the seat's program.
-/
namespace Go.Proofs.YtadidjhcgmeadaaGreatDoor
open Go.RowKit Go.Sort

structure DefOwn (w : World) (lo : Nat) (u1 u2 : Value) (ss : List ByteArray) (fs : List Pr) : Prop where
  o1 : w.ownsRow lo 9 1 u1 ss.length (ss.map Value.string)
  o2 : w.ownsRow lo 114 2 u2 fs.length (fs.flatMap Pr.cells)
theorem DefOwn.stay {w w' : World} {lo : Nat} {u1 u2 : Value} {ss : List ByteArray} {fs : List Pr} (h : DefOwn w lo u1 u2 ss fs) (hb : Below w.heap.size w w') : DefOwn w' lo u1 u2 ss fs := ⟨ownB_stay h.o1 hb, ownB_stay h.o2 hb⟩
theorem own_slice_lt {w : World} {lo size n k : Nat} {e : TypeId} {a : Option Addr} {xs : List Value} (h : w.ownsRow lo e size (.slice a n k) n xs) : ∀ g o, a = some ⟨g, o, none⟩ → g < w.heap.size := fun g o ha => (h.lt g (by rw [ha]; rfl)).2
theorem DefOwn.sl {w : World} {lo k1 k2 : Nat} {a1 a2 : Option Addr} {ss : List ByteArray} {fs : List Pr} (h : DefOwn w lo (.slice a1 ss.length k1) (.slice a2 fs.length k2) ss fs) : DefSl w a1 a2 k1 k2 ss fs := ⟨str_of_own h.o1, pr_of_own h.o2, own_slice_lt h.o1, own_slice_lt h.o2⟩
theorem toDef_own (a1 a2 : Option Addr) (k1 k2 : Nat) (ss : List ByteArray) (fs : List Pr) (w : World) (h : DefSl w a1 a2 k1 k2 ss fs) (n1 : ss.length ≤ 1048576) (n2 : fs.length ≤ 1048576) :
    Calls Tryz.prog 11 #[.agg #[.slice a1 ss.length k1, .slice a2 fs.length k2]] w fun x w' => ∃ b1 b2 c1 c2, x = .returned (.agg #[.slice b1 ss.length c1, .slice b2 fs.length c2]) ∧ DefOwn w' w.heap.size (.slice b1 ss.length c1) (.slice b2 fs.length c2) ss fs ∧ Below w.heap.size w w' := by
  refine (toDef_any a1 a2 k1 k2 ss fs w h.h1 h.h2 n1 n2).mono ?_
  rintro x w' ⟨b1, b2, c1, c2, m, hx, o1, o2, hm, _, hb⟩
  exact ⟨b1, b2, c1, c2, hx, ⟨o1, ownB_le o2 hm⟩, hb⟩
end Go.Proofs.YtadidjhcgmeadaaGreatDoor

/-
  What laws.szEventS answers at every slice of events. A contract over the seat's program.
-/
namespace Go.Proofs.YtadidjhcgmeadaaGreatDoor
open Go.RowKit

theorem szR_two (es : List Ev) {left : Int} (_h0 : 0 ≤ left) : szR left es = -1 ∨ (0 ≤ szR left es ∧ (es.length : Int) ≤ left) := by
  by_cases h : (es.length : Int) + (sumE es : Int) ≤ left
  · rw [szR_yes h]; right; constructor <;> omega
  · rw [szR_no (by omega)]; exact .inl rfl
theorem szEventS_all (v : Value) (es : List Ev) (left : Int) (w : World) (h : EvSl w v es) (hF : Fit es) (h0 : 0 ≤ left) (h1 : left ≤ 1048576) (hn : es.length ≤ maxLen) :
    Calls Tryz.prog 9 #[v, .int .i64 left] w fun e w' => e = .returned (.int .i64 (szR left es)) ∧ Below w.heap.size w w' := by
  rcases h with ⟨a, c, rfl, rfl⟩ | ⟨g, o, c, rfl, _, h⟩
  · refine (szEventS_none a c left w h0 h1).mono ?_
    rintro e w' ⟨rfl, rfl⟩
    exact ⟨by rw [szR_yes (by simp [sumE]; omega)]; simp [sumE], Below.refl _ _⟩
  · exact szEventS_row g o c es left w h hF h0 h1 hn
end Go.Proofs.YtadidjhcgmeadaaGreatDoor

/-
  What laws.eqEvent and laws.eqEventS answer at the same events: contracts over the seat's program.
-/
namespace Go.Proofs.YtadidjhcgmeadaaGreatDoor
open Go.RowKit Go.Sort

theorem eqEvent_same (q t r k : Int) (s v : ByteArray) (w : World) :
    Calls Tryz.prog 52 #[.agg #[.int .i64 q, .int .i64 t, .int .i64 r, .int .i64 k, .string s, .string v], .agg #[.int .i64 q, .int .i64 t, .int .i64 r, .int .i64 k, .string s, .string v]] w fun e w' => e = .returned (.bool true) ∧ Below w.heap.size w w' := by
  go_enter Tryz.func52, Tryz.ntmps52
  go_wp2
  go_ret
  exact ⟨rfl, ((Below.refl _ _).alloc (Nat.le_refl _) _).alloc (by simp) _⟩

set_option maxHeartbeats 4000000 in
set_option maxRecDepth 1000000 in
theorem eqEventS_row (g1 o1 c1 g2 o2 c2 : Nat) (es : List Ev) (w : World) (hE1 : EvsAt w g1 o1 es) (hE2 : EvsAt w g2 o2 es) (hn : es.length ≤ maxLen) :
    Calls Tryz.prog 15 #[.slice (some ⟨g1, o1, none⟩) es.length c1, .slice (some ⟨g2, o2, none⟩) es.length c2] w fun e w' => e = .returned (.bool true) ∧ Below w.heap.size w w' := by
  unfold maxLen at hn
  have mixed : Tryz.prog.follows .mixedOrders = true := by kernel_rfl
  have HE1 := hid hE1
  have HE2 := hid hE2
  clear hE1 hE2
  go_enter Tryz.func15, Tryz.ntmps15
  go_wp2
  go_loopw [5] (fun i wr => ∃ k : Nat, k ≤ es.length ∧ i = .int .i64 k ∧ Below w.heap.size w wr) (fun i _ => es.length - (intOf i).toNat)
  case atStart => exact ⟨0, Nat.zero_le _, rfl, Below.refl _ _⟩
  case round =>
    obtain ⟨k, hk, rfl, hbel⟩ := hrel
    by_cases hlt : k < es.length
    · obtain ⟨a0, a1, a2, a3, a4, a5⟩ := (HE1.out.stay hbel (Nat.le_refl _)).2 k hlt
      obtain ⟨b0, b1, b2, b3, b4, b5⟩ := (HE2.out.stay hbel (Nat.le_refl _)).2 k hlt
      generalize es[k].seq = q0 at *
      generalize es[k].time = q1 at *
      generalize es[k].run = q2 at *
      generalize es[k].kind = q3 at *
      generalize es[k].step = q4 at *
      generalize es[k].val = q5 at *
      have k0 := cell_regrown a0
      have k1 := cell_regrown a1
      have k2 := cell_regrown a2
      have k3 := cell_regrown a3
      have k4 := cell_regrown a4
      have k5 := cell_regrown a5
      have l0 := cell_regrown b0
      have l1 := cell_regrown b1
      have l2 := cell_regrown b2
      have l3 := cell_regrown b3
      have l4 := cell_regrown b4
      have l5 := cell_regrown b5
      have d1 := fun d os => Calls.regrown_of (w := wr) (d := d) (os := os) (eqEvent_same q0 q1 q2 q3 q4 q5 _)
      clear a0 a1 a2 a3 a4 a5 b0 b1 b2 b3 b4 b5
      go_wp2
      refine wp_region_quiet_below mixed (by kernel_rfl) ?_
      repeat (quiet_step (first | (go_at_call 52; exact d1 _ _)))
      refine wpQuiet_nil ?_
      intro _ hw'
      obtain ⟨⟨dq, osq⟩, hw''⟩ := hw'
      subst hw''
      have hbX := hbel.trans ((below_regrown wr dq osq).mono hbel.size)
      clear k0 k1 k2 k3 k4 k5 l0 l1 l2 l3 l4 l5 d1
      go_wp2
      go_roundw
      case rel => exact ⟨k + 1, by omega, by go_num, hbX⟩
      case measure => simp [intOf]; omega
    · go_wp2
      go_ret
      exact ⟨rfl, hbel⟩
theorem eqEventS_none (a1 a2 : Option Addr) (c1 c2 : Nat) (w : World) :
    Calls Tryz.prog 15 #[.slice a1 0 c1, .slice a2 0 c2] w fun e w' => e = .returned (.bool true) ∧ Below w.heap.size w w' := by
  go_enter Tryz.func15, Tryz.ntmps15
  go_wp2
  go_loop [5] (fun i => i = .int .i64 0) (fun _ => 0)
  case atStart => exact rfl
  case round =>
    subst hrel
    go_wp2
    go_ret
    exact ⟨rfl, Below.refl _ _⟩
theorem eqEventS_any (v1 v2 : Value) (es : List Ev) (w : World) (h1 : EvSl w v1 es) (h2 : EvSl w v2 es) (hn : es.length ≤ maxLen) :
    Calls Tryz.prog 15 #[v1, v2] w fun e w' => e = .returned (.bool true) ∧ Below w.heap.size w w' := by
  rcases h1 with ⟨a, c, rfl, rfl⟩ | ⟨g, o, c, rfl, hp, h⟩
  · rcases h2 with ⟨a', c', rfl, _⟩ | ⟨g', o', c', rfl, hp', h'⟩
    · exact eqEventS_none a a' c c' w
    · simp at hp'
  · rcases h2 with ⟨a', c', rfl, h0⟩ | ⟨g', o', c', rfl, hp', h'⟩
    · rw [h0] at hp; simp at hp
    · exact eqEventS_row g o c g' o' c' es w h h' hn
end Go.Proofs.YtadidjhcgmeadaaGreatDoor
