/-
 Texts put together: Mark, MkS, MkF, MkE.
-/
import Derived.Test.YtookchpdbilbcaaGreatDoorZAgg6
import Derived.Test.YtookchpdbilbcaaGreatDoorZEvI8
import Derived.Test.YtookchpdbilbcaaGreatDoorZStLaw3
import Derived.BigQuiet
import Derived.Lib.QuietBelow
import Derived.Test.YtookchpdbilbcaaGreatDoorZImSA3
set_option maxRecDepth 100000
set_option maxHeartbeats 1000000
/-
 What laws.markText answers, for every number from 1 on: a contract over the seat's program.
-/
namespace Go.Proofs.YtookchpdbilbcaaGreatDoor
open Go.RowKit
def digS (k : Nat) : ByteArray := ⟨[UInt8.ofNat (48 + k % 10)].toArray⟩
theorem digS_size (k : Nat) : (digS k).size = 1 := rfl
/-- The digits of a number ahead of a text. -/
def decT : Nat → Nat → ByteArray → ByteArray
 | 0, _, acc => acc
 | f + 1, k, acc => if k = 0 then acc else decT f (k / 10) (digS k ++ acc)
theorem decT_zero (f : Nat) (acc : ByteArray) : decT f 0 acc = acc := by cases f <;> simp [decT]
theorem decT_more {f k : Nat} (h : 0 < k) (acc : ByteArray) : decT (f + 1) k acc = decT f (k / 10) (digS k ++ acc) := by
 simp [decT, show ¬ k = 0 by omega]
def markT (k : Int) : ByteArray := ⟨#[109]⟩ ++ decT 20 k.toNat ByteArray.empty
theorem pow_down {f k : Nat} (hk : k < 10 ^ f) (h : 0 < k) : ∃ g, f = g + 1 ∧ k / 10 < 10 ^ g := by
 cases f with
 | zero => simp at hk; omega
 | succ g => exact ⟨g, rfl, by rw [Nat.pow_succ] at hk; omega⟩
theorem markText_any (k : Int) (w : World) (h1 : 0 < k) (h2 : k ≤ 1000000000) :
  Calls Tryz.prog 32 #[.int .i64 k] w fun e w' => e = .returned (.string (markT k)) ∧ Below w.heap.size w w' := by
 obtain ⟨K, rfl⟩ := Int.eq_ofNat_of_zero_le (show 0 ≤ k by omega)
 unfold markT
 rw [Int.toNat_natCast]
 obtain ⟨D, hD⟩ : ∃ D, decT 20 K ByteArray.empty = D := ⟨_, rfl⟩
 rw [hD]
 have HD := hid hD
 clear hD
 go_enter Tryz.func32, Tryz.ntmps32
 go_wp2
 go_loopw [0, 3] (fun kv o wr => ∃ (m f : Nat) (acc : ByteArray), kv = .int .i64 m ∧ o = .string acc ∧ m < 10 ^ f ∧ f ≤ 20 ∧ acc.size + f ≤ 20 ∧ m ≤ 1000000000 ∧ decT f m acc = D ∧ Below w.heap.size w wr) (fun kv _ _ => (intOf kv).toNat)
 case atStart => exact ⟨K, 20, ByteArray.empty, rfl, rfl, by omega, Nat.le_refl _, by simp, by omega, HD.out, Below.refl _ _⟩
 case round =>
  obtain ⟨m, f, acc, rfl, rfl, hm, hf, hs, hm6, hdd, hbel⟩ := hrel
  have HDD := hid hdd
  have HM := hid hm
  clear hdd hm
  by_cases hlt : 0 < m
  ·obtain ⟨g, rfl, hg⟩ := pow_down HM.out hlt
   rw [decT_more hlt] at HDD
   have hcv : (convert 99 9 (.slice (some ⟨wr.heap.size, 0, none⟩) 1 1)).run Tryz.prog (wr.alloc (.cells #[.int .u8 (48 + (m : Int) % 10)] 5)) = .ok (.string (digS m)) (wr.alloc (.cells #[.int .u8 (48 + (m : Int) % 10)] 5)) :=
    conv_row (P := Tryz.prog) (l := [UInt8.ofNat (48 + m % 10)]) 99 9 Tryz.underlying99 Tryz.underlying5 Tryz.underlying9 rfl (by
     have e : (Lib.byteCells [UInt8.ofNat (48 + m % 10)]).toArray = #[.int .u8 (48 + (m : Int) % 10)] := by
      simp [Lib.byteCells]; omega
     rw [e]; exact heap_alloc_new wr _)
   have hds := digS_size m
   generalize digS m = S at *
   have HG := hid hg
   clear hg HM
   go_wp2
   refine ⟨⟨m / 10, g, S ++ acc, by go_num, rfl, HG.out, by omega, by rw [ByteArray.size_append]; omega, by omega, HDD.out, hbel.alloc hbel.size _⟩, by simp [intOf]; omega⟩
  ·have hm0 : m = 0 := by omega
   subst hm0
   rw [decT_zero] at HDD
   have hDS := HDD.out
   subst hDS
   go_wp2
   go_ret
   exact ⟨rfl, hbel⟩
end Go.Proofs.YtookchpdbilbcaaGreatDoor
/-
 What laws.markStringS and heldStringS do: contracts over the seat's program. (Made by mkmark.py.)
-/
namespace Go.Proofs.YtookchpdbilbcaaGreatDoor
open Go.RowKit Go.Sort
theorem cell_thereM {w : World} {g j : Nat} {L : List Value} {t : TypeId} (h : w.heap[g]? = some (.cells L.toArray t (0, 0))) (hj : j < L.length) : ∃ u, w.cell? ⟨g, j, none⟩ = some u := by
 rw [Lib.cell_of_heap h]
 exact ⟨L[j], by simp [hj]⟩
/-- So many marks, from the k-th on. -/
def mkS (k : Int) (n : Nat) : List ByteArray := (List.range n).map fun i : Nat => markT (k + (i : Int))
theorem mkS_len (k : Int) (n : Nat) : (mkS k n).length = n := by simp [mkS]
theorem mkS_succ (k : Int) (n : Nat) : (mkS k (n + 1)).map Value.string = (mkS k n).map Value.string ++ [.string (markT (k + (n : Int)))] := by simp [mkS, List.range_succ]
theorem mkS_at {k : Int} {n i : Nat} (h : i < (mkS k n).length) : (mkS k n)[i] = markT (k + (i : Int)) := by simp [mkS]
theorem set1_takeM {L : List Value} {i : Nat} {a : Value} (h : i < L.length) : (L.set i a).take (i + 1) = L.take i ++ [a] := by
 rw [List.take_set, List.take_succ_eq_append_getElem h, List.set_append_right _ _ (by simp; omega)]
 simp [Nat.min_eq_left (Nat.le_of_lt h)]
theorem markStringS_row (g n c : Nat) (K : Int) (L : List Value) (w : World) (hG : w.heap[g]? = some (.cells L.toArray 9 (0, 0))) (hL : n ≤ L.length) (hK : 0 < K) (hn : K + (n : Int) ≤ 1000000000) :
  Calls Tryz.prog 55 #[.slice (some ⟨g, 0, none⟩) n c, .int .i64 K] w fun e w' =>
   ∃ L' : List Value, e = .returned (.int .i64 (K + (n : Int))) ∧ w'.heap[g]? = some (.cells L'.toArray 9 (0, 0)) ∧ L'.length = L.length ∧ L'.take n = (mkS K n).map Value.string ∧ w.grownBy w' (some g) := by
 have HG := hid hG
 have HL := hid hL
 clear hG hL
 go_enter Tryz.func55, Tryz.ntmps55
 go_wp2
 go_loopw [1, 5] (fun kv i wr => ∃ (j : Nat) (M : List Value), j ≤ n ∧ i = .int .i64 j ∧ kv = .int .i64 (K + (j : Int)) ∧ M.length = L.length ∧ M.take j = (mkS K j).map Value.string ∧ wr.heap[g]? = some (.cells M.toArray 9 (0, 0)) ∧ w.grownBy wr (some g)) (fun _ i _ => n - (intOf i).toNat)
 case atStart => exact ⟨0, L, Nat.zero_le _, rfl, by simp, rfl, by simp [mkS], HG.out, World.grownBy.refl _ _⟩
 case round =>
  obtain ⟨j, M, hj, rfl, rfl, hM, hT, hGr, hgr⟩ := hrel
  have HM := hid hM
  have HT := hid hT
  have HGr := hid hGr
  have Hgr := hid hgr
  clear hM hT hGr hgr
  by_cases hlt : j < n
  ·have hjl : j < M.length := by have := HM.out; have := HL.out; omega
   have c4 := hid (fun w => markText_any (K + (j : Int)) w (by omega) (by omega))
   have HMS := hid (mkS_succ K j)
   have HS := hid (fun a => set1_takeM (a := a) hjl)
   generalize markT (K + (j : Int)) = S4 at *
   go_wp2_with fail
   refine (c4.out _).mono ?_
   rintro e w2 ⟨rfl, hb2⟩
   have hB : w2.heap[g]? = _ := (hb2.block g (lt_heap HGr.out)).trans HGr.out
   have hgB := hid (grown_trans Hgr.out (grown_below hb2))
   obtain ⟨u4, z4⟩ := cell_thereM hB hjl
   have hfz2 : ∀ t, w2.frozen? ⟨g, t, none⟩ = false := fun t => Lib.frozen_of_heap hB t
   have HB := hid hB
   clear hB hb2 c4 Hgr HGr
   go_wp2
   go_roundw
   case rel => exact ⟨j + 1, _, by omega, by go_num, by go_num, by rw [List.length_set]; exact HM.out, by rw [HS.out, HT.out, HMS.out], blk_set (i := j) HB.out (.string S4), grown_trans hgB.out (grown_set _ g j (.string S4))⟩
   case measure => simp [intOf]; omega
  ·have hje : j = n := by omega
   have HJ := hid hje
   clear hje
   go_wp2
   go_ret
   refine ⟨M, by rw [HJ.out]; rfl, HGr.out, HM.out, ?_, Hgr.out⟩
   have := HT.out
   rwa [HJ.out] at this
theorem markStringS_none (a : Option Addr) (c : Nat) (K : Int) (w : World) :
  Calls Tryz.prog 55 #[.slice a 0 c, .int .i64 K] w fun e w' => e = .returned (.int .i64 K) ∧ w' = w := by
 go_enter Tryz.func55, Tryz.ntmps55
 go_wp2
 go_loopw [1, 5] (fun kv i wr => kv = .int .i64 K ∧ i = .int .i64 0 ∧ wr = w) (fun _ _ _ => 0)
 case atStart => exact ⟨rfl, rfl, rfl⟩
 case round =>
  obtain ⟨rfl, rfl, rfl⟩ := hrel
  go_wp2
  go_ret
  exact ⟨rfl, rfl⟩
theorem markStringS_own (v : Value) (n base : Nat) (K : Int) (xs : List Value) (w : World) (h : w.ownsRow base 9 1 v n xs) (hK : 0 < K) (hn : K + (n : Int) ≤ 1000000000) :
  Calls Tryz.prog 55 #[v, .int .i64 K] w fun e w' => e = .returned (.int .i64 (K + (n : Int))) ∧ w'.ownsRow base 9 1 v n ((mkS K n).map Value.string) ∧ w.grownBy w' v.ownBlock := by
 rcases h.2 with ⟨rfl, rfl⟩ | ⟨g, cap, cur, rfl, hb, hg, hc, hm, hs, ht⟩
 ·refine (markStringS_none none 0 K w).mono ?_
  rintro e w' ⟨rfl, rfl⟩
  exact ⟨by simp, World.ownsRow_nil _ _ _ _, World.grownBy.refl _ _⟩
 ·have hg' : w.heap[g]? = some (.cells cur.toList.toArray 9 (0, 0)) := by simpa using hg
  refine (markStringS_row g n cap K cur.toList w hg' (by rw [Array.length_toList, hs]; omega) hK hn).mono ?_
  rintro e w' ⟨L', rfl, h1, h2, h3, h4⟩
  refine ⟨rfl, ⟨by rw [List.length_map, mkS_len]; omega, .inr ⟨g, cap, L'.toArray, rfl, hb, h1, hc, hm, ?_, by simpa using h3⟩⟩, h4⟩
  rw [List.size_toArray, h2, Array.length_toList, hs]
theorem heldStringS_row (g o c n : Nat) (K : Int) (w : World) (hE : StrsAt w g o (mkS K n)) (hK : 0 < K) (hn : K + (n : Int) ≤ 1000000000) :
  Calls Tryz.prog 75 #[.slice (some ⟨g, o, none⟩) n c, .int .i64 K] w fun e w' => e = .returned (.int .i64 (K + (n : Int))) ∧ Below w.heap.size w w' := by
 have mixed : Tryz.prog.follows .mixedOrders = true := by kernel_rfl
 have HE := hid hE
 clear hE
 go_enter Tryz.func75, Tryz.ntmps75
 go_wp2
 go_loopw [1, 5] (fun kv i wr => ∃ j : Nat, j ≤ n ∧ i = .int .i64 j ∧ kv = .int .i64 (K + (j : Int)) ∧ Below w.heap.size w wr) (fun _ i _ => n - (intOf i).toNat)
 case atStart => exact ⟨0, Nat.zero_le _, rfl, by simp, Below.refl _ _⟩
 case round =>
  obtain ⟨j, hj, rfl, rfl, hbel⟩ := hrel
  by_cases hlt : j < n
  ·have c0 := (HE.out.stay hbel (Nat.le_refl _)).2 j (by rw [mkS_len]; exact hlt)
   rw [mkS_at] at c0
   have d1 := fun d os => Calls.regrown_of (w := wr) (d := d) (os := os) (markText_any (K + (j : Int)) (grow (redrawn wr d) os) (by omega) (by omega))
   have HB := hid hbel
   clear hbel
   generalize markT (K + (j : Int)) = S4 at *
   go_wp2
   have c0' := cell_regrown c0
   clear c0
   refine wp_region_quiet_below mixed (by kernel_rfl) ?_
   repeat (go_big_quiet_step ((go_at_call 32; exact d1 _ _)))
   refine wpQuiet_nil ?_
   intro W2 hw'
   have HR := hid (show Below wr.heap.size wr W2 by obtain ⟨⟨dq, osq⟩, hw''⟩ := hw'; subst hw''; exact below_regrown wr dq osq)
   clear hw' c0' d1
   go_wp2
   go_roundw
   case rel => exact ⟨j + 1, by omega, by go_num, by go_num, HB.out.trans (HR.out.mono HB.out.size)⟩
   case measure => simp [intOf]; omega
  ·have hje : j = n := by omega
   have HJ := hid hje
   clear hje
   go_wp2
   go_ret
   exact ⟨by rw [HJ.out]; rfl, hbel⟩
theorem heldStringS_none (a : Option Addr) (c : Nat) (K : Int) (w : World) :
  Calls Tryz.prog 75 #[.slice a 0 c, .int .i64 K] w fun e w' => e = .returned (.int .i64 K) ∧ w' = w := by
 go_enter Tryz.func75, Tryz.ntmps75
 go_wp2
 go_loopw [1, 5] (fun kv i wr => kv = .int .i64 K ∧ i = .int .i64 0 ∧ wr = w) (fun _ _ _ => 0)
 case atStart => exact ⟨rfl, rfl, rfl⟩
 case round =>
  obtain ⟨rfl, rfl, rfl⟩ := hrel
  go_wp2
  go_ret
  exact ⟨rfl, rfl⟩
theorem heldStringS_own (v : Value) (n base : Nat) (K : Int) (w : World) (h : w.ownsRow base 9 1 v n ((mkS K n).map Value.string)) (hK : 0 < K) (hn : K + (n : Int) ≤ 1000000000) :
  Calls Tryz.prog 75 #[v, .int .i64 K] w fun e w' => e = .returned (.int .i64 (K + (n : Int))) ∧ Below w.heap.size w w' := by
 rcases str_of_own h with ⟨a, c, rfl, h0⟩ | ⟨g, o, c, rfl, _, hE⟩
 ·have : n = 0 := by rw [← mkS_len K n, h0]; rfl
  subst this
  refine (heldStringS_none a c K w).mono ?_
  rintro e w' ⟨rfl, rfl⟩
  exact ⟨by simp, Below.refl _ _⟩
 ·rw [mkS_len]
  exact heldStringS_row g o c n K w hE hK hn
end Go.Proofs.YtookchpdbilbcaaGreatDoor
/-
 Marks in rows of pairs; what laws.markFlowS does: contracts over the seat's program.
-/
namespace Go.Proofs.YtookchpdbilbcaaGreatDoor
open Go.RowKit Go.Sort
def mkP (k : Int) (n : Nat) : List Pr := (List.range n).map fun i : Nat => ⟨markT (k + 2 * (i : Int)), markT (k + 2 * (i : Int) + 1)⟩
theorem mkP_len (k : Int) (n : Nat) : (mkP k n).length = n := by simp [mkP]
theorem mkP_succ (k : Int) (n : Nat) : (mkP k (n + 1)).flatMap Pr.cells = (mkP k n).flatMap Pr.cells ++ [.string (markT (k + 2 * (n : Int))), .string (markT (k + 2 * (n : Int) + 1))] := by simp [mkP, List.range_succ, Pr.cells]
theorem mkP_at {k : Int} {n i : Nat} (h : i < (mkP k n).length) : (mkP k n)[i] = ⟨markT (k + 2 * (i : Int)), markT (k + 2 * (i : Int) + 1)⟩ := by simp [mkP]
theorem set2_takeM {L : List Value} {i : Nat} {a b : Value} (h : i + 2 ≤ L.length) : ((L.set i a).set (i + 1) b).take (i + 2) = L.take i ++ [a, b] := by
 rw [show i + 2 = i + 1 + 1 by omega, set1_takeM (by simp; omega), set1_takeM (by omega)]; simp
theorem markFlowS_row (g n c : Nat) (K : Int) (L : List Value) (w : World) (hG : w.heap[g]? = some (.cells L.toArray 107 (0, 0))) (hL : n * 2 ≤ L.length) (hK : 0 < K) (hn : K + 2 * (n : Int) ≤ 1000000000) :
  Calls Tryz.prog 56 #[.slice (some ⟨g, 0, none⟩) n c, .int .i64 K] w fun e w' =>
   ∃ L' : List Value, e = .returned (.int .i64 (K + 2 * (n : Int))) ∧ w'.heap[g]? = some (.cells L'.toArray 107 (0, 0)) ∧ L'.length = L.length ∧ L'.take (n * 2) = (mkP K n).flatMap Pr.cells ∧ w.grownBy w' (some g) := by
 have HG := hid hG
 have HL := hid hL
 clear hG hL
 go_enter Tryz.func56, Tryz.ntmps56
 go_wp2
 go_loopw [1, 5] (fun kv i wr => ∃ (j : Nat) (M : List Value), j ≤ n ∧ i = .int .i64 j ∧ kv = .int .i64 (K + 2 * (j : Int)) ∧ M.length = L.length ∧ M.take (j * 2) = (mkP K j).flatMap Pr.cells ∧ wr.heap[g]? = some (.cells M.toArray 107 (0, 0)) ∧ w.grownBy wr (some g)) (fun _ i _ => n - (intOf i).toNat)
 case atStart => exact ⟨0, L, Nat.zero_le _, rfl, by simp, rfl, by simp [mkP], HG.out, World.grownBy.refl _ _⟩
 case round =>
  obtain ⟨j, M, hj, rfl, rfl, hM, hT, hGr, hgr⟩ := hrel
  have HM := hid hM
  have HT := hid hT
  have HGr := hid hGr
  have Hgr := hid hgr
  clear hM hT hGr hgr
  by_cases hlt : j < n
  ·have hjl : j * 2 + 2 ≤ M.length := by have := HM.out; have := HL.out; omega
   have c4 := hid (fun w => markText_any (K + 2 * (j : Int)) w (by omega) (by omega))
   have c5 := hid (fun w => markText_any (K + 2 * (j : Int) + 1) w (by omega) (by omega))
   have HMS := hid (mkP_succ K j)
   have HS := hid (fun a b => set2_takeM (a := a) (b := b) hjl)
   generalize markT (K + 2 * (j : Int)) = S4 at *
   generalize markT (K + 2 * (j : Int) + 1) = S5 at *
   go_wp2_with fail
   refine (c4.out _).mono ?_
   rintro e w2 ⟨rfl, hb2⟩
   have hB : w2.heap[g]? = _ := (hb2.block g (lt_heap HGr.out)).trans HGr.out
   have hgB := hid (grown_trans Hgr.out (grown_below hb2))
   obtain ⟨u4, z4⟩ := cell_thereM hB (j := j * 2) (by omega)
   have hfz2 : ∀ t, w2.frozen? ⟨g, t, none⟩ = false := fun t => Lib.frozen_of_heap hB t
   have HB := hid hB
   clear hB hb2 c4 Hgr HGr
   go_wp2_with fail
   have hC := blk_set (i := j * 2) HB.out (.string S4)
   have hgC := grown_trans hgB.out (grown_set _ g (j * 2) (.string S4))
   refine (c5.out _).mono ?_
   rintro e w3 ⟨rfl, hb3⟩
   have hD : w3.heap[g]? = _ := (hb3.block g (lt_heap hC)).trans hC
   have hgD := hid (grown_trans hgC (grown_below hb3))
   obtain ⟨u5, z5⟩ := cell_thereM hD (j := j * 2 + 1) (by simp; omega)
   have hfz3 : ∀ t, w3.frozen? ⟨g, t, none⟩ = false := fun t => Lib.frozen_of_heap hD t
   have HD := hid hD
   clear hC hgC hD hb3 z4 hfz2 c5 hgB HB
   go_wp2
   go_roundw
   case rel =>
    refine ⟨j + 1, _, by omega, by go_num, by go_num, ?_, ?_, blk_set (i := j * 2 + 1) HD.out (.string S5), grown_trans hgD.out (grown_set _ g (j * 2 + 1) (.string S5))⟩
    ·rw [List.length_set, List.length_set]; exact HM.out
    ·rw [show (j + 1) * 2 = j * 2 + 2 by omega, HS.out, HT.out, HMS.out]
   case measure => simp [intOf]; omega
  ·have hje : j = n := by omega
   have HJ := hid hje
   clear hje
   go_wp2
   go_ret
   refine ⟨M, by rw [HJ.out]; rfl, HGr.out, HM.out, ?_, Hgr.out⟩
   have := HT.out
   rwa [HJ.out] at this
theorem markFlowS_none (a : Option Addr) (c : Nat) (K : Int) (w : World) :
  Calls Tryz.prog 56 #[.slice a 0 c, .int .i64 K] w fun e w' => e = .returned (.int .i64 K) ∧ w' = w := by
 go_enter Tryz.func56, Tryz.ntmps56
 go_wp2
 go_loopw [1, 5] (fun kv i wr => kv = .int .i64 K ∧ i = .int .i64 0 ∧ wr = w) (fun _ _ _ => 0)
 case atStart => exact ⟨rfl, rfl, rfl⟩
 case round =>
  obtain ⟨rfl, rfl, rfl⟩ := hrel
  go_wp2
  go_ret
  exact ⟨rfl, rfl⟩
theorem markFlowS_own (v : Value) (n base : Nat) (K : Int) (xs : List Value) (w : World) (h : w.ownsRow base 107 2 v n xs) (hK : 0 < K) (hn : K + 2 * (n : Int) ≤ 1000000000) :
  Calls Tryz.prog 56 #[v, .int .i64 K] w fun e w' => e = .returned (.int .i64 (K + 2 * (n : Int))) ∧ w'.ownsRow base 107 2 v n ((mkP K n).flatMap Pr.cells) ∧ w.grownBy w' v.ownBlock := by
 rcases h.2 with ⟨rfl, rfl⟩ | ⟨g, cap, cur, rfl, hb, hg, hc, hm, hs, ht⟩
 ·refine (markFlowS_none none 0 K w).mono ?_
  rintro e w' ⟨rfl, rfl⟩
  exact ⟨by simp, World.ownsRow_nil _ _ _ _, World.grownBy.refl _ _⟩
 ·have hg' : w.heap[g]? = some (.cells cur.toList.toArray 107 (0, 0)) := by simpa using hg
  refine (markFlowS_row g n cap K cur.toList w hg' (by rw [Array.length_toList, hs]; omega) hK hn).mono ?_
  rintro e w' ⟨L', rfl, h1, h2, h3, h4⟩
  refine ⟨rfl, ⟨by rw [pflat_len, mkP_len], .inr ⟨g, cap, L'.toArray, rfl, hb, h1, hc, hm, ?_, by simpa using h3⟩⟩, h4⟩
  rw [List.size_toArray, h2, Array.length_toList, hs]
end Go.Proofs.YtookchpdbilbcaaGreatDoor
/-
 What laws.markEventS does to a row of events, from any mark on: a contract over the seat's program.
-/
namespace Go.Proofs.YtookchpdbilbcaaGreatDoor
open Go.RowKit Go.Sort
/-- The event that bears the marks from a number on. -/
def mkEv (k : Int) : Ev := ⟨k, k + 1, k + 1 + 1, k + 1 + 1 + 1, markT (k + 1 + 1 + 1 + 1), markT (k + 1 + 1 + 1 + 1 + 1)⟩
def marks (k : Int) (n : Nat) : List Ev := (List.range n).map fun i : Nat => mkEv (k + 6 * (i : Int))
theorem marks_len (k : Int) (n : Nat) : (marks k n).length = n := by simp [marks]
theorem marks_succ (k : Int) (n : Nat) : (marks k (n + 1)).flatMap Ev.cells = (marks k n).flatMap Ev.cells ++ (mkEv (k + 6 * (n : Int))).cells := by
 simp [marks, List.range_succ]
theorem marks_at {k : Int} {n i : Nat} (h : i < (marks k n).length) : (marks k n)[i] = mkEv (k + 6 * (i : Int)) := by simp [marks]
theorem markEventS_row (g n c : Nat) (K : Int) (L : List Value) (w : World) (hG : w.heap[g]? = some (.cells L.toArray 57 (0, 0))) (hL : n * 6 ≤ L.length) (hK : 0 < K) (hn : K + 6 * (n : Int) ≤ 1000000000) :
  Calls Tryz.prog 15 #[.slice (some ⟨g, 0, none⟩) n c, .int .i64 K] w fun e w' =>
   ∃ L' : List Value, e = .returned (.int .i64 (K + 6 * (n : Int))) ∧ w'.heap[g]? = some (.cells L'.toArray 57 (0, 0)) ∧ L'.length = L.length ∧ L'.take (n * 6) = (marks K n).flatMap Ev.cells ∧ w.grownBy w' (some g) := by
 have HG := hid hG
 have HL := hid hL
 clear hG hL
 go_enter Tryz.func15, Tryz.ntmps15
 go_wp2
 go_loopw [1, 5] (fun kv i wr => ∃ (j : Nat) (M : List Value), j ≤ n ∧ i = .int .i64 j ∧ kv = .int .i64 (K + 6 * (j : Int)) ∧ M.length = L.length ∧ M.take (j * 6) = (marks K j).flatMap Ev.cells ∧ wr.heap[g]? = some (.cells M.toArray 57 (0, 0)) ∧ w.grownBy wr (some g)) (fun _ i _ => n - (intOf i).toNat)
 case atStart => exact ⟨0, L, Nat.zero_le _, rfl, by simp, rfl, by simp [marks], HG.out, World.grownBy.refl _ _⟩
 case round =>
  obtain ⟨j, M, hj, rfl, rfl, hM, hT, hGr, hgr⟩ := hrel
  have HM := hid hM
  have HT := hid hT
  have HGr := hid hGr
  have Hgr := hid hgr
  clear hM hT hGr hgr
  by_cases hlt : j < n
  ·have hjl : j * 6 + 6 ≤ M.length := by have := HM.out; have := HL.out; omega
   have c4 := fun w => markText_any (K + 6 * (j : Int) + 1 + 1 + 1 + 1) w (by omega) (by omega)
   have c5 := fun w => markText_any (K + 6 * (j : Int) + 1 + 1 + 1 + 1 + 1) w (by omega) (by omega)
   have hce : ∀ t, t < 6 → ∃ u, wr.cell? ⟨g, j * 6 + t, none⟩ = some u := fun t ht => cell_there HGr.out (by omega)
   obtain ⟨u0, d0⟩ : ∃ u, wr.cell? ⟨g, j * 6, none⟩ = some u := hce 0 (by decide)
   obtain ⟨u1, d1⟩ := hce 1 (by decide)
   obtain ⟨u2, d2⟩ := hce 2 (by decide)
   obtain ⟨u3, d3⟩ := hce 3 (by decide)
   have hfz : ∀ t, wr.frozen? ⟨g, t, none⟩ = false := fun t => Lib.frozen_of_heap HGr.out t
   clear hce
   have HS := hid (set6_take (L := M) (i := j * 6) (a := .int .i64 (K + 6 * (j : Int))) (b := .int .i64 (K + 6 * (j : Int) + 1)) (c := .int .i64 (K + 6 * (j : Int) + 1 + 1)) (d := .int .i64 (K + 6 * (j : Int) + 1 + 1 + 1)) (e := .string (markT (K + 6 * (j : Int) + 1 + 1 + 1 + 1))) (f := .string (markT (K + 6 * (j : Int) + 1 + 1 + 1 + 1 + 1))) hjl)
   have HMS := hid (marks_succ K j)
   unfold mkEv at HMS
   generalize markT (K + 6 * (j : Int) + 1 + 1 + 1 + 1) = S4 at *
   generalize markT (K + 6 * (j : Int) + 1 + 1 + 1 + 1 + 1) = S5 at *
   go_wp2_with fail
   have hA := blk_set (i := j * 6 + 3) (blk_set (i := j * 6 + 2) (blk_set (i := j * 6 + 1) (blk_set (i := j * 6) HGr.out (.int .i64 (K + 6 * (j : Int)))) (.int .i64 (K + 6 * (j : Int) + 1))) (.int .i64 (K + 6 * (j : Int) + 1 + 1))) (.int .i64 (K + 6 * (j : Int) + 1 + 1 + 1))
   have hgA := grown_trans (grown_trans (grown_trans (grown_trans Hgr.out (grown_set _ g (j * 6) (.int .i64 (K + 6 * (j : Int))))) (grown_set _ g (j * 6 + 1) (.int .i64 (K + 6 * (j : Int) + 1)))) (grown_set _ g (j * 6 + 2) (.int .i64 (K + 6 * (j : Int) + 1 + 1)))) (grown_set _ g (j * 6 + 3) (.int .i64 (K + 6 * (j : Int) + 1 + 1 + 1)))
   refine (c4 _).mono ?_
   rintro e w2 ⟨rfl, hb2⟩
   have hB : w2.heap[g]? = _ := (hb2.block g (lt_heap hA)).trans hA
   have hgB := hid (grown_trans hgA (grown_below hb2))
   have z4 := cell_there hB (j := j * 6 + 4) (by simp; omega)
   obtain ⟨u4, z4⟩ := z4
   have hfz2 : ∀ t, w2.frozen? ⟨g, t, none⟩ = false := fun t => Lib.frozen_of_heap hB t
   have HB := hid hB
   clear hA hgA hB hb2 d0 d1 d2 d3 hfz c4 Hgr HGr
   go_wp2_with fail
   have hC := blk_set (i := j * 6 + 4) HB.out (.string S4)
   have hgC := grown_trans hgB.out (grown_set _ g (j * 6 + 4) (.string S4))
   refine (c5 _).mono ?_
   rintro e w3 ⟨rfl, hb3⟩
   have hD : w3.heap[g]? = _ := (hb3.block g (lt_heap hC)).trans hC
   have hgD := hid (grown_trans hgC (grown_below hb3))
   have z5 := cell_there hD (j := j * 6 + 5) (by simp; omega)
   obtain ⟨u5, z5⟩ := z5
   have hfz3 : ∀ t, w3.frozen? ⟨g, t, none⟩ = false := fun t => Lib.frozen_of_heap hD t
   have HD := hid hD
   clear hC hgC hD hb3 z4 hfz2 c5 hgB HB
   go_wp2
   go_roundw
   case rel =>
    refine ⟨j + 1, _, by omega, by go_num, by go_num, ?_, ?_, blk_set (i := j * 6 + 5) HD.out (.string S5), grown_trans hgD.out (grown_set _ g (j * 6 + 5) (.string S5))⟩
    ·rw [set6_len]; exact HM.out
    ·rw [show (j + 1) * 6 = j * 6 + 6 by omega, HS.out, HT.out, HMS.out]; rfl
   case measure => simp [intOf]; omega
  ·have hje : j = n := by omega
   have HJ := hid hje
   clear hje
   go_wp2
   go_ret
   refine ⟨M, by rw [HJ.out]; rfl, HGr.out, HM.out, ?_, Hgr.out⟩
   have := HT.out
   rwa [HJ.out] at this
theorem markEventS_none (a : Option Addr) (c : Nat) (K : Int) (w : World) :
  Calls Tryz.prog 15 #[.slice a 0 c, .int .i64 K] w fun e w' => e = .returned (.int .i64 K) ∧ w' = w := by
 go_enter Tryz.func15, Tryz.ntmps15
 go_wp2
 go_loopw [1, 5] (fun kv i wr => kv = .int .i64 K ∧ i = .int .i64 0 ∧ wr = w) (fun _ _ _ => 0)
 case atStart => exact ⟨rfl, rfl, rfl⟩
 case round =>
  obtain ⟨rfl, rfl, rfl⟩ := hrel
  go_wp2
  go_ret
  exact ⟨rfl, rfl⟩
theorem markEventS_own (v : Value) (n base : Nat) (K : Int) (xs : List Value) (w : World) (h : w.ownsRow base 57 6 v n xs) (hK : 0 < K) (hn : K + 6 * (n : Int) ≤ 1000000000) :
  Calls Tryz.prog 15 #[v, .int .i64 K] w fun e w' => e = .returned (.int .i64 (K + 6 * (n : Int))) ∧ Chg (fun j => v.ownBlock = some j) w w' := by
 rcases h.2 with ⟨rfl, rfl⟩ | ⟨g, cap, cur, rfl, hb, hg, hc, hm, hs, ht⟩
 ·refine (markEventS_none none 0 K w).mono ?_
  rintro e w' ⟨rfl, rfl⟩
  exact ⟨by simp, Chg.refl _ _⟩
 ·have hg' : w.heap[g]? = some (.cells cur.toList.toArray 57 (0, 0)) := by simpa using hg
  refine (markEventS_row g n cap K cur.toList w hg' (by rw [Array.length_toList, hs]; omega) hK hn).mono ?_
  rintro e w' ⟨L', rfl, h1, h2, h3, h4⟩
  exact ⟨rfl, Chg.of_grown h4 rfl⟩
end Go.Proofs.YtookchpdbilbcaaGreatDoor
