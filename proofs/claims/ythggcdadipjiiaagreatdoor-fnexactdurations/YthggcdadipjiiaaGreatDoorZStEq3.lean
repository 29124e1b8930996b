/-
  Texts put together: StEq, StLaw, FlLaw.
-/
import Derived.Test.YthggcdadipjiiaaGreatDoorZStrs4
import Derived.Lib.QuietBelow
import Derived.Test.YthggcdadipjiiaaGreatDoorZRunM6
import Derived.Test.YthggcdadipjiiaaGreatDoorZSpPut6
/-
  What laws.eqStringS answers of two slices of the same texts: a contract over the seat's program.
-/
namespace Go.Proofs.YthggcdadipjiiaaGreatDoor
open Go.RowKit Go.Sort

set_option maxHeartbeats 1000000 in
set_option maxRecDepth 100000 in
theorem eqStringS_row (g1 o1 c1 g2 o2 c2 : Nat) (ss : List ByteArray) (w : World) (hE1 : StrsAt w g1 o1 ss) (hE2 : StrsAt w g2 o2 ss) (hn : ss.length ≤ maxLen) :
    Calls Tryz.prog 38 #[.slice (some ⟨g1, o1, none⟩) ss.length c1, .slice (some ⟨g2, o2, none⟩) ss.length c2] w fun e w' => e = .returned (.bool true) ∧ Below w.heap.size w w' := by
  unfold maxLen at hn
  have mixed : Tryz.prog.follows .mixedOrders = true := by kernel_rfl
  have HE1 := hid hE1
  have HE2 := hid hE2
  clear hE1 hE2
  go_enter Tryz.func38, Tryz.ntmps38
  go_wp2
  go_loopw [5] (fun i wr => ∃ k : Nat, k ≤ ss.length ∧ i = .int .i64 k ∧ Below w.heap.size w wr) (fun i _ => ss.length - (intOf i).toNat)
  case atStart => exact ⟨0, Nat.zero_le _, rfl, Below.refl _ _⟩
  case round =>
    obtain ⟨k, hk, rfl, hbel⟩ := hrel
    by_cases hlt : k < ss.length
    · have a0 := (HE1.out.stay hbel (Nat.le_refl _)).2 k hlt
      have b0 := (HE2.out.stay hbel (Nat.le_refl _)).2 k hlt
      generalize ss[k] = q4 at *
      have k0 := cell_regrown a0
      have l0 := cell_regrown b0
      clear a0 b0
      go_wp2
      refine wp_region_quiet_below mixed (by kernel_rfl) ?_
      repeat (quiet_step (fail))
      refine wpQuiet_nil ?_
      intro _ hw'
      obtain ⟨⟨dq, osq⟩, hw''⟩ := hw'
      subst hw''
      have hbX := hbel.trans ((below_regrown wr dq osq).mono hbel.size)
      clear k0 l0
      go_wp2
      go_roundw
      case rel => exact ⟨k + 1, by omega, by go_num, hbX⟩
      case measure => simp [intOf]; omega
    · go_wp2
      go_ret
      exact ⟨rfl, hbel⟩
theorem eqStringS_none (a1 a2 : Option Addr) (c1 c2 : Nat) (w : World) :
    Calls Tryz.prog 38 #[.slice a1 0 c1, .slice a2 0 c2] w fun e w' => e = .returned (.bool true) ∧ Below w.heap.size w w' := by
  go_enter Tryz.func38, Tryz.ntmps38
  go_wp2
  go_loop [5] (fun i => i = .int .i64 0) (fun _ => 0)
  case atStart => exact rfl
  case round =>
    subst hrel
    go_wp2
    go_ret
    exact ⟨rfl, Below.refl _ _⟩
theorem eqStringS_any (v1 v2 : Value) (ss : List ByteArray) (w : World) (h1 : StrSl w v1 ss) (h2 : StrSl w v2 ss) (hn : ss.length ≤ maxLen) :
    Calls Tryz.prog 38 #[v1, v2] w fun e w' => e = .returned (.bool true) ∧ Below w.heap.size w w' := by
  rcases h1 with ⟨a, c, rfl, rfl⟩ | ⟨g, o, c, rfl, hp, h⟩
  · rcases h2 with ⟨a', c', rfl, _⟩ | ⟨g', o', c', rfl, hp', h'⟩
    · exact eqStringS_none a a' c c' w
    · simp at hp'
  · rcases h2 with ⟨a', c', rfl, h0⟩ | ⟨g', o', c', rfl, hp', h'⟩
    · rw [h0] at hp; simp at hp
    · exact eqStringS_row g o c g' o' c' ss w h h' hn
end Go.Proofs.YthggcdadipjiiaaGreatDoor

/-
  What laws.toStringS answers: contracts over the seat's program.
-/
namespace Go.Proofs.YthggcdadipjiiaaGreatDoor
open Go.RowKit Go.Sort

theorem smap_take {ss : List ByteArray} {k : Nat} (h : k < ss.length) : (ss.take (k + 1)).map Value.string = (ss.take k).map Value.string ++ [.string ss[k]] := by
  rw [List.take_succ_eq_append_getElem h, List.map_append]; rfl
set_option maxRecDepth 100000 in
theorem toStringS_row (g o c : Nat) (ss : List ByteArray) (w : World) (hE : StrsAt w g o ss) (hn : ss.length ≤ 1048576) :
    Calls Tryz.prog 34 #[.slice (some ⟨g, o, none⟩) ss.length c] w fun e w' =>
      ∃ v, e = .returned v ∧ w'.ownsRow w.heap.size 9 1 v ss.length (ss.map Value.string) ∧ Below w.heap.size w w' := by
  obtain ⟨i0, hi, hz0, hz1, hz2⟩ := info_parts Tryz.infoStr
  have HE := hid hE
  clear hE
  go_enter Tryz.func34, Tryz.ntmps34
  go_wp2_with (at_make; refine wpList_make_full _ rfl _ _ 23 rfl w.heap.size 9 i0 _ 1 Tryz.underlying23 hi hz0 hz1 _ _ _ _ ss.length rfl rfl ?m1 ?m2 ?m3 ?m4 (Nat.le_refl _) ?_)
  case m1 => omega
  case m2 => omega
  case m3 => rw [hz2]; omega
  case m4 => unfold maxLen; omega
  intro w1 hown hgrow
  have hB1 : Below w.heap.size w w1 := (Below.refl _ _).grown hgrow (Nat.le_refl _) (fun k h => by cases h)
  obtain ⟨L0, hL0, hG0⟩ := own_row1 hown
  have H0 := hid hL0
  have HG0 := hid hG0
  clear hown hgrow hi hz0 hz1 hz2 hL0 hG0 i0
  go_wp2
  go_loopw [4] (fun i wr => ∃ (k : Nat) (L : List Value), k ≤ ss.length ∧ i = .int .i64 k ∧ L.length = ss.length ∧ L.take k = (ss.take k).map Value.string ∧ wr.heap[w.heap.size]? = some (.cells L.toArray 9 (0, 0)) ∧ Below w.heap.size w wr) (fun i _ => ss.length - (intOf i).toNat)
  case atStart => exact ⟨0, L0, Nat.zero_le _, rfl, H0.out, by simp, HG0.out, hB1⟩
  case round =>
    obtain ⟨k, L, hk, rfl, hL, hT, hG, hbel⟩ := hrel
    have HT := hid hT
    have HL := hid hL
    have HG := hid hG
    clear hT hL hG
    by_cases hlt : k < ss.length
    · have c0 := (HE.out.stay hbel (Nat.le_refl _)).2 k hlt
      have HC := hid (smap_take hlt)
      have hfz : ∀ j, wr.frozen? ⟨w.heap.size, j, none⟩ = false := fun j => Lib.frozen_of_heap HG.out j
      obtain ⟨u0, d0⟩ : ∃ u, wr.cell? ⟨w.heap.size, k, none⟩ = some u := cell_is HG.out (by have := HL.out; omega)
      go_wp2
      go_roundw
      case rel =>
        refine ⟨k + 1, _, by omega, by go_num, ?_, ?_, blk_set HG.out _, hbel.setCell (p := ⟨w.heap.size, k, none⟩) (Nat.le_refl _) _⟩
        · rw [List.length_set]; exact HL.out
        · rw [set1_take (by have := HL.out; omega), HT.out, HC.out]
      case measure => simp [intOf]; omega
    · have hke : k = ss.length := by omega
      have HK := hid hke
      clear hke
      go_wp2
      go_ret
      refine ⟨_, rfl, ⟨by simp, .inr ⟨w.heap.size, ss.length, L.toArray, rfl, Nat.le_refl _, HG.out, Nat.le_refl _, by unfold maxLen; omega, by simpa using HL.out, ?_⟩⟩, hbel⟩
      have := HT.out
      rw [HK.out, List.take_of_length_le (Nat.le_refl ss.length)] at this
      simpa using this
theorem toStringS_none (a : Option Addr) (c : Nat) (w : World) :
    Calls Tryz.prog 34 #[.slice a 0 c] w fun e w' =>
      ∃ v, e = .returned v ∧ w'.ownsRow w.heap.size 9 1 v 0 [] ∧ Below w.heap.size w w' := by
  obtain ⟨i0, hi, hz0, hz1, hz2⟩ := info_parts Tryz.infoStr
  go_enter Tryz.func34, Tryz.ntmps34
  go_wp2_with (at_make; refine wpList_make_full _ rfl _ _ 23 rfl w.heap.size 9 i0 _ 1 Tryz.underlying23 hi hz0 hz1 _ _ _ _ 0 rfl rfl ?m1 ?m2 ?m3 ?m4 (Nat.le_refl _) ?_)
  case m1 => rfl
  case m2 => rfl
  case m3 => rw [hz2]; omega
  case m4 => unfold maxLen; omega
  intro w1 hown hgrow
  have hB1 : Below w.heap.size w w1 := (Below.refl _ _).grown hgrow (Nat.le_refl _) (fun k h => by cases h)
  have HO : Hid (w1.ownsRow w.heap.size 9 1 (.slice (some ⟨w.heap.size, 0, none⟩) 0 0) 0 []) := by
    have h0 := hown.1
    rw [Nat.zero_mul] at h0
    rw [List.eq_nil_of_length_eq_zero h0] at hown
    exact hown
  clear hown hgrow hi hz0 hz1 hz2 i0
  go_wp2
  go_loop [4] (fun i => i = .int .i64 0) (fun _ => 0)
  case atStart => exact rfl
  case round =>
    subst hrel
    go_wp2
    go_ret
    exact ⟨_, rfl, HO.out, hB1⟩
theorem toStringS_any (v : Value) (ss : List ByteArray) (w : World) (h : StrSl w v ss) (hn : ss.length ≤ 1048576) :
    Calls Tryz.prog 34 #[v] w fun e w' =>
      ∃ v, e = .returned v ∧ w'.ownsRow w.heap.size 9 1 v ss.length (ss.map Value.string) ∧ Below w.heap.size w w' := by
  rcases h with ⟨a, c, rfl, rfl⟩ | ⟨g, o, c, rfl, _, h⟩
  · exact toStringS_none a c w
  · exact toStringS_row g o c ss w h hn
end Go.Proofs.YthggcdadipjiiaaGreatDoor

/-
  What laws.szFlow, szFlowS, toFlow, toFlowS, eqFlow, eqFlowS answer: contracts over the seat's program.
-/
namespace Go.Proofs.YthggcdadipjiiaaGreatDoor
open Go.RowKit Go.Sort

theorem szFlow_any (s v : ByteArray) (left : Int) (w : World) (h0 : 0 ≤ left) (h1 : left ≤ 1048576) (hs : s.size ≤ maxLen) (hv : v.size ≤ maxLen) :
    Calls Tryz.prog 73 #[.agg #[.string s, .string v], .int .i64 left] w fun e w' =>
      e = .returned (.int .i64 (if (s.size : Int) + (v.size : Int) ≤ left then left - (s.size : Int) - (v.size : Int) else -1)) ∧ Below w.heap.size w w' := by
  unfold maxLen at hs hv
  by_cases hz : (s.size : Int) + (v.size : Int) ≤ left
  · rw [if_pos hz]
    go_enter Tryz.func73, Tryz.ntmps73
    go_wp2
    go_ret
    exact ⟨rfl, (Below.refl _ _).alloc (Nat.le_refl _) _⟩
  · rw [if_neg hz]
    by_cases hz2 : (s.size : Int) ≤ left
    · go_enter Tryz.func73, Tryz.ntmps73
      go_wp2
      go_ret
      exact ⟨rfl, (Below.refl _ _).alloc (Nat.le_refl _) _⟩
    · go_enter Tryz.func73, Tryz.ntmps73
      go_wp2
      go_ret
      exact ⟨rfl, (Below.refl _ _).alloc (Nat.le_refl _) _⟩
set_option maxRecDepth 100000 in
theorem toFlow_any (s v : ByteArray) (w : World) :
    Calls Tryz.prog 74 #[.agg #[.string s, .string v]] w fun e w' => e = .returned (.agg #[.string s, .string v]) ∧ Below w.heap.size w w' := by
  go_enter Tryz.func74, Tryz.ntmps74
  go_wp2
  exact bodyPost_ret (v := .agg #[.string s, .string v]) (by simp [results, Tryz.results74, go_sem]) rfl ⟨rfl, (below2 _ _ _).alloc (by simp; omega) _⟩
theorem eqFlow_same (s v : ByteArray) (w : World) :
    Calls Tryz.prog 75 #[.agg #[.string s, .string v], .agg #[.string s, .string v]] w fun e w' => e = .returned (.bool true) ∧ Below w.heap.size w w' := by
  go_enter Tryz.func75, Tryz.ntmps75
  go_wp2
  go_ret
  exact ⟨rfl, ((Below.refl _ _).alloc (Nat.le_refl _) _).alloc (by simp) _⟩

set_option maxRecDepth 100000 in
theorem szFlowS_row (g o c : Nat) (es : List Pr) (left : Int) (w : World) (hE : PrsAt w g o es) (hF : FitP es) (h0 : 0 ≤ left) (h1 : left ≤ 1048576) (hn : es.length ≤ maxLen) :
    Calls Tryz.prog 32 #[.slice (some ⟨g, o, none⟩) es.length c, .int .i64 left] w fun e w' =>
      e = .returned (.int .i64 (szP left es)) ∧ Below w.heap.size w w' := by
  unfold maxLen at hn
  by_cases hz : (es.length : Int) ≤ left
  · have HE := hid hE
    clear hE
    go_enter Tryz.func32, Tryz.ntmps32
    go_wp2
    go_loopw [1, 5] (fun l i wr => ∃ k : Nat, k ≤ es.length ∧ i = .int .i64 k ∧ l = .int .i64 (left - (es.length : Int) - (sumP (es.take k) : Int)) ∧ 0 ≤ left - (es.length : Int) - (sumP (es.take k) : Int) ∧ Below w.heap.size w wr) (fun _ i _ => es.length - (intOf i).toNat)
    case atStart => exact ⟨0, Nat.zero_le _, rfl, by simp [sumP], by simp [sumP]; omega, Below.refl _ _⟩
    case round =>
      obtain ⟨k, hk, rfl, rfl, hl, hbel⟩ := hrel
      by_cases hlt : k < es.length
      · have hA := (HE.out.stay hbel (Nat.le_refl _)).2 k hlt
        obtain ⟨c0, c1⟩ := hA
        have hst := hid (sumP_take hlt)
        have hf := hF k hlt
        generalize es[k].fst = q4 at *
        generalize es[k].snd = q5 at *
        generalize hL : left - (es.length : Int) - (sumP (es.take k) : Int) = L at *
        have HL := hid hL
        have cz := fun w => szFlow_any q4 q5 L w hl (by omega) hf.1 hf.2
        clear hL hf
        by_cases hzz : (q4.size : Int) + (q5.size : Int) ≤ L
        · rw [if_pos hzz] at cz
          have hL0 : (0 : Int) ≤ L - (q4.size : Int) - (q5.size : Int) := by omega
          have hL1 : left - (es.length : Int) - (sumP (es.take (k + 1)) : Int) = L - (q4.size : Int) - (q5.size : Int) := by have := hst.out; have := HL.out; omega
          have HL1 := hid hL1
          clear hzz hL1
          generalize L - (q4.size : Int) - (q5.size : Int) = L2 at *
          go_wp2_with fail
          refine (cz _).mono ?_
          rintro e w1 ⟨rfl, hb1⟩
          have hbel1 := hbel.trans (hb1.mono hbel.size)
          clear c0 c1 hb1 cz
          go_wp2
          go_roundw
          case rel => exact ⟨k + 1, by omega, by go_num, by rw [HL1.out], by rw [HL1.out]; exact hL0, hbel1⟩
          case measure => simp [intOf]; omega
        · rw [if_neg hzz] at cz
          have hfin : szP left es = -1 := szP_no (by have := hst.out; have := HL.out; have := sumP_le es (k + 1); omega)
          have HF := hid hfin
          clear hzz hfin
          go_wp2_with fail
          refine (cz _).mono ?_
          rintro e w1 ⟨rfl, hb1⟩
          have hbel1 := hbel.trans (hb1.mono hbel.size)
          clear c0 c1 hb1 cz
          go_wp2
          go_ret
          exact ⟨by rw [HF.out]; rfl, hbel1⟩
      · have hk' : k = es.length := by omega
        have hT : es.take k = es := List.take_of_length_le (by omega)
        rw [hT] at hl
        have HT := hid hT
        have hfin := szP_yes (left := left) (es := es) (by omega)
        have HF := hid hfin
        clear hk' hT hfin
        go_wp2
        go_ret
        exact ⟨ret_int (by rw [HF.out, HT.out]), hbel⟩
  · have hfin := szP_no (left := left) (es := es) (by omega)
    have HF := hid hfin
    clear hfin hE
    go_enter Tryz.func32, Tryz.ntmps32
    go_wp2
    go_ret
    exact ⟨by rw [HF.out]; rfl, Below.refl _ _⟩
theorem szFlowS_none (a : Option Addr) (c : Nat) (left : Int) (w : World) (h0 : 0 ≤ left) (h1 : left ≤ 1048576) :
    Calls Tryz.prog 32 #[.slice a 0 c, .int .i64 left] w fun e w' => e = .returned (.int .i64 left) ∧ w' = w := by
  go_enter Tryz.func32, Tryz.ntmps32
  go_wp2
  go_loop [1, 5] (fun l i => l = .int .i64 left ∧ i = .int .i64 0) (fun _ _ => 0)
  case atStart => exact ⟨rfl, rfl⟩
  case round =>
    obtain ⟨rfl, rfl⟩ := hrel
    go_wp2
    go_ret
    exact ⟨rfl, rfl⟩
theorem szFlowS_any (v : Value) (es : List Pr) (left : Int) (w : World) (h : PrSl w v es) (hF : FitP es) (h0 : 0 ≤ left) (h1 : left ≤ 1048576) (hn : es.length ≤ maxLen) :
    Calls Tryz.prog 32 #[v, .int .i64 left] w fun e w' => e = .returned (.int .i64 (szP left es)) ∧ Below w.heap.size w w' := by
  rcases h with ⟨a, c, rfl, rfl⟩ | ⟨g, o, c, rfl, _, h⟩
  · refine (szFlowS_none a c left w h0 h1).mono ?_
    rintro e w' ⟨rfl, rfl⟩
    exact ⟨ret_int (by rw [szP_yes (by simp [sumP]; omega)]; simp [sumP]), Below.refl _ _⟩
  · exact szFlowS_row g o c es left w h hF h0 h1 hn
theorem Tryz.infoFlow : (Tryz.prog.info? 116).map (fun i => (i.zero, i.size, i.bytes)) = some (some (.agg #[.string ⟨#[]⟩, .string ⟨#[]⟩]), 2, 32) := by kernel_rfl
set_option maxRecDepth 100000 in
theorem toFlowS_row (g o c : Nat) (es : List Pr) (w : World) (hE : PrsAt w g o es) (hn : es.length ≤ 1048576) :
    Calls Tryz.prog 35 #[.slice (some ⟨g, o, none⟩) es.length c] w fun e w' =>
      ∃ v, e = .returned v ∧ w'.ownsRow w.heap.size 116 2 v es.length (es.flatMap Pr.cells) ∧ Below w.heap.size w w' := by
  obtain ⟨i0, hi, hz0, hz1, hz2⟩ := info_parts Tryz.infoFlow
  have HE := hid hE
  clear hE
  go_enter Tryz.func35, Tryz.ntmps35
  go_wp2_with (at_make; refine wpList_make_full _ rfl _ _ 24 rfl w.heap.size 116 i0 _ 2 Tryz.underlying24 hi hz0 hz1 _ _ _ _ es.length rfl rfl ?m1 ?m2 ?m3 ?m4 (Nat.le_refl _) ?_)
  case m1 => omega
  case m2 => omega
  case m3 => rw [hz2]; omega
  case m4 => unfold maxLen; omega
  intro w1 hown hgrow
  have hB1 : Below w.heap.size w w1 := (Below.refl _ _).grown hgrow (Nat.le_refl _) (fun k h => by cases h)
  obtain ⟨L0, hL0, hG0⟩ := own_row2 hown
  have H0 := hid hL0
  have HG0 := hid hG0
  clear hown hgrow hi hz0 hz1 hz2 hL0 hG0 i0
  go_wp2
  go_loopw [4] (fun i wr => ∃ (k : Nat) (L : List Value), k ≤ es.length ∧ i = .int .i64 k ∧ L.length = es.length * 2 ∧ L.take (k * 2) = (es.take k).flatMap Pr.cells ∧ wr.heap[w.heap.size]? = some (.cells L.toArray 116 (0, 0)) ∧ Below w.heap.size w wr) (fun i _ => es.length - (intOf i).toNat)
  case atStart => exact ⟨0, L0, Nat.zero_le _, rfl, H0.out, by simp, HG0.out, hB1⟩
  case round =>
    obtain ⟨k, L, hk, rfl, hL, hT, hG, hbel⟩ := hrel
    have HT := hid hT
    have HL := hid hL
    have HG := hid hG
    clear hT hL hG
    have hzr := lt_heap HG.out
    by_cases hlt : k < es.length
    · obtain ⟨c0, c1⟩ := (HE.out.stay hbel (Nat.le_refl _)).2 k hlt
      have HC := hid (pflat_take hlt)
      have cz := fun w => toFlow_any es[k].fst es[k].snd w
      go_wp2_with fail
      refine (cz _).mono ?_
      rintro e w2 ⟨rfl, hb2⟩
      have hG2 : w2.heap[w.heap.size]? = some (.cells L.toArray 116 (0, 0)) := by rw [hb2.block _ hzr]; exact HG.out
      have hbel2 := hbel.trans (hb2.mono hbel.size)
      clear c0 c1 hb2 cz
      have hfz : ∀ j, w2.frozen? ⟨w.heap.size, j, none⟩ = false := fun j => Lib.frozen_of_heap hG2 j
      have hce : ∀ j, j < 2 → ∃ u, w2.cell? ⟨w.heap.size, k * 2 + j, none⟩ = some u := fun j hj => cell_is hG2 (by have := HL.out; omega)
      obtain ⟨u0, d0⟩ : ∃ u, w2.cell? ⟨w.heap.size, k * 2, none⟩ = some u := hce 0 (by decide)
      obtain ⟨u1, d1⟩ := hce 1 (by decide)
      have HG2 := hid hG2
      clear hG2 hce
      go_wp2
      go_roundw
      case rel =>
        refine ⟨k + 1, _, by omega, by go_num, ?_, ?_, blk_set (blk_set HG2.out _) _, (hbel2.setCell (p := ⟨w.heap.size, k * 2, none⟩) (Nat.le_refl _) _).setCell (p := ⟨w.heap.size, k * 2 + 1, none⟩) (Nat.le_refl _) _⟩
        · rw [List.length_set, List.length_set]; exact HL.out
        · rw [show (k + 1) * 2 = k * 2 + 2 by omega, set2_take (by have := HL.out; omega), HT.out, HC.out]; rfl
      case measure => simp [intOf]; omega
    · have hke : k = es.length := by omega
      have HK := hid hke
      clear hke
      go_wp2
      go_ret
      refine ⟨_, rfl, ⟨pflat_len es, .inr ⟨w.heap.size, es.length, L.toArray, rfl, Nat.le_refl _, HG.out, Nat.le_refl _, by unfold maxLen; omega, by simpa using HL.out, ?_⟩⟩, hbel⟩
      have := HT.out
      rw [HK.out, List.take_of_length_le (Nat.le_refl es.length)] at this
      simpa using this
theorem toFlowS_none (a : Option Addr) (c : Nat) (w : World) :
    Calls Tryz.prog 35 #[.slice a 0 c] w fun e w' =>
      ∃ v, e = .returned v ∧ w'.ownsRow w.heap.size 116 2 v 0 [] ∧ Below w.heap.size w w' := by
  obtain ⟨i0, hi, hz0, hz1, hz2⟩ := info_parts Tryz.infoFlow
  go_enter Tryz.func35, Tryz.ntmps35
  go_wp2_with (at_make; refine wpList_make_full _ rfl _ _ 24 rfl w.heap.size 116 i0 _ 2 Tryz.underlying24 hi hz0 hz1 _ _ _ _ 0 rfl rfl ?m1 ?m2 ?m3 ?m4 (Nat.le_refl _) ?_)
  case m1 => rfl
  case m2 => rfl
  case m3 => rw [hz2]; omega
  case m4 => unfold maxLen; omega
  intro w1 hown hgrow
  have hB1 : Below w.heap.size w w1 := (Below.refl _ _).grown hgrow (Nat.le_refl _) (fun k h => by cases h)
  have HO : Hid (w1.ownsRow w.heap.size 116 2 (.slice (some ⟨w.heap.size, 0, none⟩) 0 0) 0 []) := by
    have h0 := hown.1
    rw [Nat.zero_mul] at h0
    rw [List.eq_nil_of_length_eq_zero h0] at hown
    exact hown
  clear hown hgrow hi hz0 hz1 hz2 i0
  go_wp2
  go_loop [4] (fun i => i = .int .i64 0) (fun _ => 0)
  case atStart => exact rfl
  case round =>
    subst hrel
    go_wp2
    go_ret
    exact ⟨_, rfl, HO.out, hB1⟩
theorem toFlowS_any (v : Value) (es : List Pr) (w : World) (h : PrSl w v es) (hn : es.length ≤ 1048576) :
    Calls Tryz.prog 35 #[v] w fun e w' =>
      ∃ v, e = .returned v ∧ w'.ownsRow w.heap.size 116 2 v es.length (es.flatMap Pr.cells) ∧ Below w.heap.size w w' := by
  rcases h with ⟨a, c, rfl, rfl⟩ | ⟨g, o, c, rfl, _, h⟩
  · exact toFlowS_none a c w
  · exact toFlowS_row g o c es w h hn
set_option maxHeartbeats 4000000 in
set_option maxRecDepth 1000000 in
theorem eqFlowS_row (g1 o1 c1 g2 o2 c2 : Nat) (es : List Pr) (w : World) (hE1 : PrsAt w g1 o1 es) (hE2 : PrsAt w g2 o2 es) (hn : es.length ≤ maxLen) :
    Calls Tryz.prog 39 #[.slice (some ⟨g1, o1, none⟩) es.length c1, .slice (some ⟨g2, o2, none⟩) es.length c2] w fun e w' => e = .returned (.bool true) ∧ Below w.heap.size w w' := by
  unfold maxLen at hn
  have mixed : Tryz.prog.follows .mixedOrders = true := by kernel_rfl
  have HE1 := hid hE1
  have HE2 := hid hE2
  clear hE1 hE2
  go_enter Tryz.func39, Tryz.ntmps39
  go_wp2
  go_loopw [5] (fun i wr => ∃ k : Nat, k ≤ es.length ∧ i = .int .i64 k ∧ Below w.heap.size w wr) (fun i _ => es.length - (intOf i).toNat)
  case atStart => exact ⟨0, Nat.zero_le _, rfl, Below.refl _ _⟩
  case round =>
    obtain ⟨k, hk, rfl, hbel⟩ := hrel
    by_cases hlt : k < es.length
    · obtain ⟨a0, a1⟩ := (HE1.out.stay hbel (Nat.le_refl _)).2 k hlt
      obtain ⟨b0, b1⟩ := (HE2.out.stay hbel (Nat.le_refl _)).2 k hlt
      generalize es[k].fst = q4 at *
      generalize es[k].snd = q5 at *
      have k0 := cell_regrown a0
      have k1 := cell_regrown a1
      have l0 := cell_regrown b0
      have l1 := cell_regrown b1
      have d1 := fun d os => Calls.regrown_of (w := wr) (d := d) (os := os) (eqFlow_same q4 q5 _)
      clear a0 a1 b0 b1
      go_wp2
      refine wp_region_quiet_below mixed (by kernel_rfl) ?_
      repeat (quiet_step (first | (go_at_call 75; exact d1 _ _)))
      refine wpQuiet_nil ?_
      intro _ hw'
      obtain ⟨⟨dq, osq⟩, hw''⟩ := hw'
      subst hw''
      have hbX := hbel.trans ((below_regrown wr dq osq).mono hbel.size)
      clear k0 k1 l0 l1 d1
      go_wp2
      go_roundw
      case rel => exact ⟨k + 1, by omega, by go_num, hbX⟩
      case measure => simp [intOf]; omega
    · go_wp2
      go_ret
      exact ⟨rfl, hbel⟩
theorem eqFlowS_none (a1 a2 : Option Addr) (c1 c2 : Nat) (w : World) :
    Calls Tryz.prog 39 #[.slice a1 0 c1, .slice a2 0 c2] w fun e w' => e = .returned (.bool true) ∧ Below w.heap.size w w' := by
  go_enter Tryz.func39, Tryz.ntmps39
  go_wp2
  go_loop [5] (fun i => i = .int .i64 0) (fun _ => 0)
  case atStart => exact rfl
  case round =>
    subst hrel
    go_wp2
    go_ret
    exact ⟨rfl, Below.refl _ _⟩
theorem eqFlowS_any (v1 v2 : Value) (es : List Pr) (w : World) (h1 : PrSl w v1 es) (h2 : PrSl w v2 es) (hn : es.length ≤ maxLen) :
    Calls Tryz.prog 39 #[v1, v2] w fun e w' => e = .returned (.bool true) ∧ Below w.heap.size w w' := by
  rcases h1 with ⟨a, c, rfl, rfl⟩ | ⟨g, o, c, rfl, hp, h⟩
  · rcases h2 with ⟨a', c', rfl, _⟩ | ⟨g', o', c', rfl, hp', h'⟩
    · exact eqFlowS_none a a' c c' w
    · simp at hp'
  · rcases h2 with ⟨a', c', rfl, h0⟩ | ⟨g', o', c', rfl, hp', h'⟩
    · rw [h0] at hp; simp at hp
    · exact eqFlowS_row g o c g' o' c' es w h h' hn
end Go.Proofs.YthggcdadipjiiaaGreatDoor
