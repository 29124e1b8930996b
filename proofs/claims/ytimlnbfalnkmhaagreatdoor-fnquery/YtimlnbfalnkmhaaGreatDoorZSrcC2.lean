/-
  Texts put together: SrcC, DrQt.
-/
import Derived.Test.YtimlnbfalnkmhaaGreatDoorZSrcA5
import Derived.RegionTactic
import Derived.Test.YtimlnbfalnkmhaaGreatDoorZDrQu
import Derived.Test.YtimlnbfalnkmhaaGreatDoorZSpQX
/-
  Draws: what (*spec.l01Src).spoil answers: a contract over the seat's program.
-/
namespace Go.Proofs.YtimlnbfalnkmhaaGreatDoor
open Go.RowKit

theorem one_byte (w : World) (B : UInt8) : (convert 22 9 (.slice (some ⟨w.heap.size, 0, none⟩) 1 1)).run Tryz.prog (w.alloc (.cells #[.int .u8 (B.toNat : Int)] 5)) = .ok (.string ⟨[B].toArray⟩) (w.alloc (.cells #[.int .u8 (B.toNat : Int)] 5)) :=
  conv_row (P := Tryz.prog) (l := [B]) 22 9 Tryz.underlying22 Tryz.underlying5 Tryz.underlying9 rfl (heap_alloc_new w _)
theorem drw_drew {w : World} {b n : Nat} {V : Value} (h : Drw w b V n) : Drw w.drew b V n := h.stay (r := none) (grown_drewN w 1 none) (fun k hk => by cases hk)
set_option maxHeartbeats 1000000 in
set_option maxRecDepth 100000 in
theorem spoil_any (b n : Nat) (V : Value) (t : ByteArray) (w : World) (h : Drw w b V n) (ht : (t.size : Int) ≤ 8000) :
    Calls Tryz.prog 48 #[.pointer (some ⟨b, 0, none⟩), .string t] w fun e w' => ∃ s, e = .returned (.string s) ∧ s.size ≤ 8001 ∧ Drw w' b V n ∧ w.grownBy w' (some b) := by
  have c1 := hid (srcN_any b n V ((t.size : Int) + 1) w h (by omega))
  have c2 := hid (fun w h => srcN_any b n V 17 w h (by decide))
  have c3 := hid (fun most w h h2 => one_any b n V most w h h2)
  clear h
  go_enter Tryz.func48, Tryz.ntmps48
  go_wp2_with fail
  refine c1.out.mono ?_
  rintro e w1 ⟨r, rfl, ⟨r0, r1, r2⟩, hd1, hg1⟩
  obtain ⟨k, rfl⟩ := Int.eq_ofNat_of_zero_le r0
  have hk : (k : Int) ≤ (t.size : Int) := by
    by_cases h1 : (1 : Int) < (t.size : Int) + 1
    · have := r1 h1; omega
    · have := r2 (by omega); omega
  have HD1 := hid hd1
  have HG1 := hid hg1
  clear hd1 hg1 r0 r1 r2 c1
  go_wp2_with fail
  refine (c2.out _ HD1.out).mono ?_
  rintro e w2 ⟨r, rfl, ⟨r0, r1, r2⟩, hd2, hg2⟩
  obtain ⟨j, rfl⟩ := Int.eq_ofNat_of_zero_le r0
  have hj : (j : Int) < 17 := r1 (by decide)
  have HD2 := hid hd2
  have HG2 := hid (grown_trans HG1.out hg2)
  clear hd2 hg2 r0 r1 r2 c2 HD1 HG1
  go_wp2_with fail
  generalize ((⟨#[32, 10, 48, 97, 45, 110, 44, 58, 93, 255, 40, 120, 126, 49, 128, 225, 59]⟩ : ByteArray)[j]'(by show j < 17; omega)) = B
  rw [one_byte w2 B]
  have HD3 := hid (HD2.out.stay (r := none) (World.grownBy_alloc w2 (.cells #[.int .u8 (B.toNat : Int)] 5) _) (fun k hk => by cases hk))
  have HG3 := hid (grown_trans HG2.out (World.grownBy_alloc w2 (.cells #[.int .u8 (B.toNat : Int)] 5) (some b)))
  have hS : (⟨[B].toArray⟩ : ByteArray).size = 1 := rfl
  generalize (⟨[B].toArray⟩ : ByteArray) = S at *
  generalize w2.alloc (.cells #[.int .u8 (B.toNat : Int)] 5) = w3 at *
  clear HD2 HG2
  by_cases hke : (k : Int) = (t.size : Int)
  · have hkb : ((k : Int) == (t.size : Int)) = true := by simpa using hke
    have HKE := hid hke
    clear hke
    go_wp2
    go_region
    go_wp2
    go_ret
    exact ⟨_, rfl, by simp [ByteArray.size_append]; omega, drw_drew HD3.out, grown_trans HG3.out (grown_drewN w3 1 _)⟩
  · have hkb : ((k : Int) == (t.size : Int)) = false := by simpa using hke
    have hk1 : (k : Int) < (t.size : Int) := by omega
    clear hke
    go_wp2_with fail
    refine (c3.out 3 _ HD3.out (by decide)).mono ?_
    rintro e w4 ⟨r4, rfl, hd4, hg4⟩
    have HD4 := hid hd4
    have HG4 := hid (grown_trans HG3.out hg4)
    clear hd4 hg4 HD3 HG3
    cases r4 with
    | true =>
      go_wp2
      go_region
      go_wp2
      go_ret
      exact ⟨_, rfl, by simp [ByteArray.size_append]; omega, drw_drew HD4.out, grown_trans HG4.out (grown_drewN w4 1 _)⟩
    | false =>
      go_wp2_with fail
      refine (c3.out 2 _ HD4.out (by decide)).mono ?_
      rintro e w5 ⟨r5, rfl, hd5, hg5⟩
      have HD5 := hid hd5
      have HG5 := hid (grown_trans HG4.out hg5)
      clear hd5 hg5 HD4 HG4
      cases r5 with
      | true =>
        go_wp2
        go_region
        go_wp2
        go_ret
        exact ⟨_, rfl, by simp [ByteArray.size_append]; omega, drw_drew HD5.out, grown_trans HG5.out (grown_drewN w5 1 _)⟩
      | false =>
        go_wp2
        go_region
        go_wp2
        go_ret
        exact ⟨_, rfl, by simp [ByteArray.size_append]; omega, drw_drew HD5.out, grown_trans HG5.out (grown_drewN w5 1 _)⟩
end Go.Proofs.YtimlnbfalnkmhaaGreatDoor

/-
  What spec.DrawQueryText and spec.DrawQueryRead answer: contracts over the seat's program.
-/
namespace Go.Proofs.YtimlnbfalnkmhaaGreatDoor
open Go.RowKit
set_option linter.unusedVariables false

/-- A small Query in memory. -/
structure QyM (w : World) (q : Qy) (A : Option Addr) (c : Nat) : Prop where
  sl : CdSl w (.slice A q.cs.length c) q.cs
  sm : QySm q
theorem QyM.stay {w w' : World} {q : Qy} {A : Option Addr} {c : Nat} (h : QyM w q A c) (hb : Below w.heap.size w w') : QyM w' q A c := ⟨h.sl.stayQ hb, h.sm⟩
theorem QyM.wrd {w : World} {q : Qy} {A : Option Addr} {c : Nat} (h : QyM w q A c) : ∀ x ∈ q.cs, x.wrd.size ≤ maxLen := fun x hx => by
  have := (h.sm.2.1 x hx).2.2.1
  unfold maxLen; omega
theorem QyM.len {w : World} {q : Qy} {A : Option Addr} {c : Nat} (h : QyM w q A c) : q.cs.length ≤ maxLen := by
  have := h.sm.1
  unfold maxLen; omega
theorem QyDr.mem {w W : World} {b n : Nat} {V : Value} {q : Qy} {A : Option Addr} {c : Nat} (h : QyDr w W b n V (.slice A q.cs.length c) q) : QyM W q A c := ⟨cd_of_own h.o1, h.sm⟩
theorem Bs.stayQ {w w' : World} {V : Value} {n : Nat} (h : Bs w V n) (hb : Below w.heap.size w w') : Bs w' V n := by
  obtain ⟨a, c, rfl, hn, h⟩ := h
  refine ⟨a, c, rfl, hn, fun i hi => ?_⟩
  obtain ⟨g, o, x, rfl, hg, hc, hx⟩ := h i hi
  exact ⟨g, o, x, rfl, Nat.lt_of_lt_of_le hg hb.size, by rw [hb.cell (p := ⟨g, o + i, none⟩) hg]; exact hc, hx⟩
set_option maxRecDepth 100000 in
set_option maxHeartbeats 4000000 in
theorem drawQueryText_any (V : Value) (n : Nat) (w : World) (h : Bs w V n) :
    Calls Tryz.prog 6 #[V] w fun e w' => ∃ (q : Qy) (A : Option Addr) (c : Nat), e = .returned (qyV q A c) ∧ QyM w' q A c ∧ Below w.heap.size w w' := by
  have hb0 := (Below.refl _ w).alloc (Nat.le_refl _) (.cells #[.bool false, .slice none 0 0, .string ⟨#[]⟩, .string ⟨#[]⟩, .bool false, .int .i64 0] 25)
  have cS := hid (source_any V n _ (h.stayQ hb0))
  have HB0 := hid hb0
  have HR := hid (heap_alloc_new w (.cells #[.bool false, .slice none 0 0, .string ⟨#[]⟩, .string ⟨#[]⟩, .bool false, .int .i64 0] 25))
  have HS := hid (show (w.alloc (.cells #[.bool false, .slice none 0 0, .string ⟨#[]⟩, .string ⟨#[]⟩, .bool false, .int .i64 0] 25)).heap.size = w.heap.size + 1 by simp)
  clear h hb0
  go_enter Tryz.func6, Tryz.ntmps6
  go_wp2_with fail
  refine cS.out.mono ?_
  rintro e W1 ⟨b, rfl, hbb, hD, hB1⟩
  clear cS
  have hbb2 : w.heap.size + 1 ≤ b := by have := HS.out; omega
  have hsz1 := hB1.size
  have hsz2 : w.heap.size + 1 ≤ W1.heap.size := by have := HS.out; omega
  have B1 := hid (HB0.out.trans (hB1.mono (by have := HS.out; omega)))
  have R1 := hid ((hB1.block _ (by have := HS.out; omega)).trans HR.out)
  have D1 := hid hD
  clear hD hB1 hbb hsz1 HS HB0 HR
  go_wp2_with fail
  refine (drawQuery_any b n V W1 D1.out).mono ?_
  rintro e W2 ⟨q, A, c, rfl, hT⟩
  have hR2 : W2.heap[w.heap.size]? = some (.cells (qyL qyZ (.slice none 0 0)).toArray 25 (0, 0)) := (hT.gr.block _ (by omega) (by simp; omega)).trans R1.out
  have B2 : Below w.heap.size w W2 := B1.out.trans ⟨hT.gr.os, hT.gr.tape, hT.gr.output, by have := hT.gr.size; omega, fun k hk => hT.gr.block k (by omega) (by simp; omega)⟩
  obtain ⟨r0, r1, r2, r3, r4, r5, rf⟩ : W2.cell? ⟨w.heap.size, 0, none⟩ = some (.bool false) ∧ W2.cell? ⟨w.heap.size, 1, none⟩ = some (.slice none 0 0) ∧ W2.cell? ⟨w.heap.size, 2, none⟩ = some (.string ⟨#[]⟩) ∧ W2.cell? ⟨w.heap.size, 3, none⟩ = some (.string ⟨#[]⟩) ∧ W2.cell? ⟨w.heap.size, 4, none⟩ = some (.bool false) ∧ W2.cell? ⟨w.heap.size, 5, none⟩ = some (.int .i64 0) ∧ ∀ j, W2.frozen? ⟨w.heap.size, j, none⟩ = false :=
    ⟨by rw [Lib.cell_of_heap hR2]; rfl, by rw [Lib.cell_of_heap hR2]; rfl, by rw [Lib.cell_of_heap hR2]; rfl, by rw [Lib.cell_of_heap hR2]; rfl, by rw [Lib.cell_of_heap hR2]; rfl, by rw [Lib.cell_of_heap hR2]; rfl, fun j => Lib.frozen_of_heap hR2 j⟩
  have hx := blk_set (i := 5) (blk_set (i := 4) (blk_set (i := 3) (blk_set (i := 2) (blk_set (i := 1) (blk_set (i := 0) hR2 (.bool q.cnt)) (.slice A q.cs.length c)) (.string q.by')) (.string q.ord)) (.bool q.dwn)) (.int .i64 q.lim)
  have hc : Chg (fun j => j = w.heap.size) W2 (qyFin W2 w.heap.size q (.slice A q.cs.length c)) :=
    chg_at (chg_at (chg_at (chg_at (chg_at (chg_at (Chg.refl _ _) _ _) _ _) _ _) _ _) _ _) _ _
  have HM := hid (QyM.mk (w := qyFin W2 w.heap.size q (.slice A q.cs.length c)) (q := q) (A := A) (c := c) (cd_of_own (own_chg hT.o1 hc (own_ne hT.o1 hR2 (by decide)))) hT.sm)
  have HB := hid (show Below w.heap.size w (qyFin W2 w.heap.size q (.slice A q.cs.length c)) from B2.trans ⟨hc.os, hc.tape, hc.output, hc.size, fun k hk => hc.block k (by have := B2.size; omega) (by omega)⟩)
  have z : ∀ i, (qyFin W2 w.heap.size q (.slice A q.cs.length c)).cell? ⟨w.heap.size, i, none⟩ = (qyL q (.slice A q.cs.length c)).toArray[i]? := fun i => by rw [Lib.cell_of_heap hx]; rfl
  have z0 := z 0
  have z1 := z 1
  have z2 := z 2
  have z3 := z 3
  have z4 := z 4
  have z5 := z 5
  simp only [qyFin] at z0 z1 z2 z3 z4 z5
  clear z hx hc hT hR2 B2 B1 R1 D1
  unfold qyV
  go_wp2_with fail
  refine bodyPost_ret (v := qyV q A c) (by simp [results, Tryz.results6, go_sem, qyV, z0, z1, z2, z3, z4, z5]) rfl ?_
  exact ⟨q, A, c, rfl, HM.out, HB.out⟩
abbrev T6 : List ByteArray := [⟨#[32, 108, 105, 109, 105, 116, 32, 51]⟩, ⟨#[32, 98, 121, 32, 107, 105, 110, 100]⟩, ⟨#[32, 119, 104, 101, 114, 101]⟩, ⟨#[32, 97, 110, 100, 32, 114, 117, 110, 32, 61, 32, 49]⟩, ⟨#[32, 32]⟩, ⟨#[32, 100, 101, 115, 99]⟩]
abbrev S11 : List ByteArray := [⟨#[]⟩, ⟨#[32]⟩, ⟨#[102, 105, 110, 100, 32, 119, 104, 101, 114, 101]⟩, ⟨#[99, 111, 117, 110, 116, 32, 108, 105, 109, 105, 116, 32, 51]⟩, ⟨#[102, 105, 110, 100, 32, 98, 121, 32, 114, 117, 110]⟩, ⟨#[102, 105, 110, 100, 32, 119, 104, 101, 114, 101, 32, 107, 105, 110, 100, 32, 61, 32, 110, 111, 112, 101]⟩, ⟨#[102, 105, 110, 100, 32, 119, 104, 101, 114, 101, 32, 114, 117, 110, 32, 60, 32, 49, 50, 51, 52, 53, 54, 55, 56]⟩, ⟨#[102, 105, 110, 100, 32, 111, 114, 100, 101, 114, 32, 107, 105, 110, 100]⟩, ⟨#[102, 105, 110, 100, 32, 32, 119, 104, 101, 114, 101, 32, 32, 114, 117, 110, 32, 32, 61, 32, 32, 48, 48, 48, 49]⟩, ⟨#[99, 111, 117, 110, 116, 32, 111, 114, 100, 101, 114, 32, 115, 101, 113]⟩, ⟨#[102, 105, 110, 100, 32, 108, 105, 109, 105, 116, 32, 50, 48, 49]⟩]
theorem small_T6 : ∀ x ∈ T6, x.size ≤ 40 := by decide
theorem small_S11 : ∀ x ∈ S11, x.size ≤ 40 := by decide
set_option maxRecDepth 100000 in
set_option maxHeartbeats 4000000 in
theorem drawQueryRead_any (V : Value) (n : Nat) (w : World) (h : Bs w V n) :
    Calls Tryz.prog 13 #[V] w fun e w' => ∃ s : ByteArray, e = .returned (.string s) ∧ s.size ≤ 8001 ∧ Below w.heap.size w w' := by
  have cS := hid (source_any V n w h)
  clear h
  go_enter Tryz.func13, Tryz.ntmps13
  go_wp2_with fail
  refine cS.out.mono ?_
  rintro e W1 ⟨b, rfl, hbb, hD, hB1⟩
  have D1 := hid hD
  have B1 := hid hB1
  clear hD hB1 cS
  have cN := hid (fun most w h h2 => srcN_any b n V most w h h2)
  have cO := hid (fun most w h h2 => one_any b n V most w h h2)
  go_wp2_with fail
  refine (drawQuery_any b n V W1 D1.out).mono ?_
  rintro e W2 ⟨q, A, ca, rfl, hT⟩
  have hM := hT.mem
  have cQ := hid (specQueryText_any q A ca W2 hM.sl hM.wrd hM.len)
  have hts : (if qyB q = true then qT q else noW).size ≤ 700 := by
    split
    · rename_i h; have h2 := jnB_pre (A := qW q) (B := []) h (by simp); rw [qT_jnB]; omega
    · decide
  generalize (if qyB q = true then qT q else noW) = t at *
  have D2 := hid hT.dr
  have B2 := hid (below_src B1.out hbb hT.gr)
  clear hT hM D1 B1
  unfold qyV at cQ ⊢
  go_wp2_with fail
  refine cQ.out.mono ?_
  rintro e W3 ⟨rfl, hb3⟩
  have D3 := hid (D2.out.below hb3)
  have B3 := hid (B2.out.trans (hb3.mono B2.out.size))
  clear hb3 D2 B2 cQ
  go_wp2_with fail
  refine (cN.out 5 _ D3.out (by decide)).mono ?_
  rintro e W4 ⟨r, rfl, ⟨r0, r1, _⟩, hd, hg⟩
  have r2 := r1 (by decide)
  have D4 := hid hd
  have B4 := hid (below_src B3.out hbb hg)
  clear hd hg D3 B3 r1
  have hr : r = 0 ∨ r = 1 ∨ r = 2 ∨ r = 3 ∨ r = 4 := by omega
  clear r0 r2
  rcases hr with rfl | rfl | rfl | rfl | rfl
  · go_wp2_with fail
    refine (spoil_any b n V t _ D4.out (by omega)).mono ?_
    rintro e W5 ⟨s, rfl, hss, hd, hg⟩
    have D := hid hd
    have B := hid (below_src B4.out hbb hg)
    clear hd hg D4 B4 hts
    have hts := hss
    clear hss
    go_wp2_with fail
    refine (cO.out 12 _ D.out (by decide)).mono ?_
    rintro e W7 ⟨c, rfl, hd, hg⟩
    have D7 := hid hd
    have B7 := hid (below_src B.out hbb hg)
    clear hd hg D B
    cases c with
    | false =>
      go_wp2_with fail
      go_ret
      exact ⟨_, rfl, hts, B7.out⟩
    | true =>
      go_wp2_with fail
      refine (pick_new b n W7.heap.size 11 V S11 _ D7.out rfl rfl (by decide) (by decide)).mono ?_
      rintro e W8 ⟨x, rfl, hx, hd, hg⟩
      have hxs : x.size ≤ 40 := small_S11 x hx
      have B8 := hid (below_src B7.out hbb hg)
      clear hd hg hx D7 B7
      go_wp2_with fail
      go_ret
      exact ⟨_, rfl, by omega, B8.out⟩
  · go_wp2_with fail
    refine (cN.out ((t.size : Int) + 1) _ D4.out (by omega)).mono ?_
    rintro e W5 ⟨r, rfl, ⟨r0, r1, r2⟩, hd, hg⟩
    have hk0 : r ≤ (t.size : Int) := by
      by_cases h1 : (1 : Int) < (t.size : Int) + 1
      · have := r1 h1; omega
      · have := r2 (by omega); omega
    obtain ⟨k, rfl⟩ := Int.eq_ofNat_of_zero_le r0
    have D := hid hd
    have B := hid (below_src B4.out hbb hg)
    clear hd hg D4 B4 r0 r1 r2
    have hts2 : (t.extract 0 k).size ≤ 8001 := by simp [ByteArray.size_extract]; omega
    go_upto_region 10 with fail
    generalize t.extract 0 k = u at *
    clear hts
    have hts := hts2
    clear hts2 hk0
    go_wp2_with fail
    refine (cO.out 12 _ D.out (by decide)).mono ?_
    rintro e W7 ⟨c, rfl, hd, hg⟩
    have D7 := hid hd
    have B7 := hid (below_src B.out hbb hg)
    clear hd hg D B
    cases c with
    | false =>
      go_wp2_with fail
      go_ret
      exact ⟨_, rfl, hts, B7.out⟩
    | true =>
      go_wp2_with fail
      refine (pick_new b n W7.heap.size 11 V S11 _ D7.out rfl rfl (by decide) (by decide)).mono ?_
      rintro e W8 ⟨x, rfl, hx, hd, hg⟩
      have hxs : x.size ≤ 40 := small_S11 x hx
      have B8 := hid (below_src B7.out hbb hg)
      clear hd hg hx D7 B7
      go_wp2_with fail
      go_ret
      exact ⟨_, rfl, by omega, B8.out⟩
  · go_wp2_with fail
    refine (pick_new b n W4.heap.size 6 V T6 _ D4.out rfl rfl (by decide) (by decide)).mono ?_
    rintro e W5 ⟨x, rfl, hx, hd, hg⟩
    have hxs : x.size ≤ 40 := small_T6 x hx
    have D := hid hd
    have B := hid (below_src B4.out hbb hg)
    clear hd hg D4 B4 hx
    have hts2 : (t ++ x).size ≤ 8001 := by simp [ByteArray.size_append]; omega
    go_upto_region 10 with fail
    generalize t ++ x = u at *
    clear hts
    have hts := hts2
    clear hts2 hxs
    go_wp2_with fail
    refine (cO.out 12 _ D.out (by decide)).mono ?_
    rintro e W7 ⟨c, rfl, hd, hg⟩
    have D7 := hid hd
    have B7 := hid (below_src B.out hbb hg)
    clear hd hg D B
    cases c with
    | false =>
      go_wp2_with fail
      go_ret
      exact ⟨_, rfl, hts, B7.out⟩
    | true =>
      go_wp2_with fail
      refine (pick_new b n W7.heap.size 11 V S11 _ D7.out rfl rfl (by decide) (by decide)).mono ?_
      rintro e W8 ⟨x, rfl, hx, hd, hg⟩
      have hxs : x.size ≤ 40 := small_S11 x hx
      have B8 := hid (below_src B7.out hbb hg)
      clear hd hg hx D7 B7
      go_wp2_with fail
      go_ret
      exact ⟨_, rfl, by omega, B8.out⟩
  · have D := D4
    have B := B4
    clear D4 B4
    replace hts : t.size ≤ 8001 := by omega
    go_wp2_with fail
    refine (cO.out 12 _ D.out (by decide)).mono ?_
    rintro e W7 ⟨c, rfl, hd, hg⟩
    have D7 := hid hd
    have B7 := hid (below_src B.out hbb hg)
    clear hd hg D B
    cases c with
    | false =>
      go_wp2_with fail
      go_ret
      exact ⟨_, rfl, hts, B7.out⟩
    | true =>
      go_wp2_with fail
      refine (pick_new b n W7.heap.size 11 V S11 _ D7.out rfl rfl (by decide) (by decide)).mono ?_
      rintro e W8 ⟨x, rfl, hx, hd, hg⟩
      have hxs : x.size ≤ 40 := small_S11 x hx
      have B8 := hid (below_src B7.out hbb hg)
      clear hd hg hx D7 B7
      go_wp2_with fail
      go_ret
      exact ⟨_, rfl, by omega, B8.out⟩
  · have D := D4
    have B := B4
    clear D4 B4
    replace hts : t.size ≤ 8001 := by omega
    go_wp2_with fail
    refine (cO.out 12 _ D.out (by decide)).mono ?_
    rintro e W7 ⟨c, rfl, hd, hg⟩
    have D7 := hid hd
    have B7 := hid (below_src B.out hbb hg)
    clear hd hg D B
    cases c with
    | false =>
      go_wp2_with fail
      go_ret
      exact ⟨_, rfl, hts, B7.out⟩
    | true =>
      go_wp2_with fail
      refine (pick_new b n W7.heap.size 11 V S11 _ D7.out rfl rfl (by decide) (by decide)).mono ?_
      rintro e W8 ⟨x, rfl, hx, hd, hg⟩
      have hxs : x.size ≤ 40 := small_S11 x hx
      have B8 := hid (below_src B7.out hbb hg)
      clear hd hg hx D7 B7
      go_wp2_with fail
      go_ret
      exact ⟨_, rfl, by omega, B8.out⟩
end Go.Proofs.YtimlnbfalnkmhaaGreatDoor
