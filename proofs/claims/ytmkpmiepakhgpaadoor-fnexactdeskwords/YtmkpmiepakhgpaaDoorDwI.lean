/-
  What impl.DeskWords and spec.DeskWords answer: the twelve words, rising, in a row of their own: contracts over the seat's program (impl's: in a world in which impl.kindNames holds the six names).
-/
import Derived.Test.YtmkpmiepakhgpaaDoorKd
import Derived.Test.YtmkpmiepakhgpaaDoorStrs
import Derived.Test.YtmkpmiepakhgpaaDoorOwnB
import Derived.Test.YtmkpmiepakhgpaaDoorShStr
import Derived.Sort.OwnSorted
namespace Go.Proofs.YtmkpmiepakhgpaaDoor
open Go.RowKit Go.Sort

def dAsk : ByteArray := ⟨#[97, 115, 107]⟩
def dAsOf : ByteArray := ⟨#[97, 115, 111, 102]⟩
def dClean : ByteArray := ⟨#[99, 108, 101, 97, 110]⟩
def dCrash : ByteArray := ⟨#[99, 114, 97, 115, 104]⟩
def dSync : ByteArray := ⟨#[115, 121, 110, 99]⟩
def dTimes : ByteArray := ⟨#[116, 105, 109, 101, 115]⟩
def dWk (k : Nat) : List ByteArray := [dAsk, dAsOf, dClean, dCrash, dSync, dTimes] ++ (List.range k).map fun i : Nat => kdT ((i : Int) + 1)
def dWords : List ByteArray := [dAsk, dAsOf, dClean, dCrash, kEnd, kEnter, kFault, kLeave, kSet, kStart, dSync, dTimes]
theorem dWk_succ (k : Nat) : (dWk (k + 1)).map Value.string = (dWk k).map Value.string ++ [.string (kdT ((k : Int) + 1))] := by simp [dWk, List.range_succ]
theorem dWk_len (k : Nat) : (dWk k).length = 6 + k := by simp [dWk]; omega
theorem enc_map (l : List ByteArray) : (l.map fun s => s.data.toList).map encStr = l.map Value.string := by
  rw [List.map_map]
  exact List.map_congr_left fun s _ => by cases s; rfl
theorem dW_sorted : ((dWk 6).map fun s => s.data.toList).mergeSort (fun x y => decide (x ≤ y)) = dWords.map fun s => s.data.toList := by
  refine List.Perm.eq_of_pairwise (le := fun a b : List UInt8 => decide (a ≤ b) = true) (fun a b _ _ h1 h2 => List.le_antisymm (of_decide_eq_true (p := a ≤ b) h1) (of_decide_eq_true (p := b ≤ a) h2)) ?_ ?_ ?_
  · exact List.pairwise_mergeSort (fun a b c h1 h2 => decide_eq_true (List.le_trans (of_decide_eq_true (p := a ≤ b) h1) (of_decide_eq_true (p := b ≤ c) h2))) (fun a b => by simp only [Bool.or_eq_true, decide_eq_true_eq]; exact List.le_total a b) _
  · decide +kernel
  · refine (List.mergeSort_perm _ _).trans ?_
    decide +kernel

theorem specDeskWords_any (w : World) :
    Calls Tryd.prog 4 #[] w fun e w' => ∃ v, e = .returned v ∧ StrSl w' v dWords ∧ Below w.heap.size w w' := by
  go_enter Tryd.func4, Tryd.ntmps4
  go_wp2
  go_ret
  refine ⟨_, rfl, .inr ⟨w.heap.size, 0, 12, rfl, by decide, by simp, ?_⟩, (Below.refl _ _).alloc (Nat.le_refl _) _⟩
  intro i hi
  rw [Lib.cell_of_heap (heap_alloc_new _ _), Nat.zero_add]
  have : i < 12 := hi
  match i, this with
  | 0, _ | 1, _ | 2, _ | 3, _ | 4, _ | 5, _ | 6, _ | 7, _ | 8, _ | 9, _ | 10, _ | 11, _ => rfl

theorem str_new_cell (V : World) (x : ByteArray) (T : TypeId) : ∀ j u, [Value.string x][j]? = some u → (V.alloc (.cells #[.string x] T)).cell? ((⟨V.heap.size, 0, none⟩ : Addr).add j) = some u := by
  intro j u hj
  rw [Addr.add_lit, Lib.cell_of_heap (heap_alloc_new _ _), Nat.zero_add, ← hj]
  simp

set_option maxRecDepth 100000 in
set_option maxHeartbeats 4000000 in
theorem implDeskWords_as (DV : List Value) (w : World) (hK : KNames w) (hDV : Hid (dWords.map Value.string = DV)) :
    Calls Tryd.prog 5 #[] w fun e w' => ∃ v, e = .returned v ∧ w'.ownsRow w.heap.size 9 1 v 12 DV ∧ Below w.heap.size w w' := by
  have HK := hid hK
  clear hK
  obtain ⟨i0, hi, hz0, hz1, hz2⟩ := info_parts Tryd.infoStr
  go_enter Tryd.func5, Tryd.ntmps5
  go_wp2
  go_loopw [1, 2] (fun v i wr => ∃ k : Nat, k ≤ 6 ∧ i = .int .i64 ((k : Int) + 1) ∧ wr.ownsRow w.heap.size 9 1 v (6 + k) ((dWk k).map Value.string) ∧ Below w.heap.size w wr) (fun _ i _ => 7 - (intOf i).toNat)
  case atStart =>
    refine ⟨0, Nat.zero_le _, rfl, ⟨rfl, .inr ⟨_, 6, _, rfl, Nat.le_refl _, heap_alloc_new _ _, Nat.le_refl _, by unfold maxLen; omega, rfl, by simp [dWk, dAsk, dAsOf, dClean, dCrash, dSync, dTimes]⟩⟩, (Below.refl _ _).alloc (Nat.le_refl _) _⟩
  case round =>
    obtain ⟨k, hk, rfl, hown, hbel⟩ := hrel
    obtain ⟨va, vc, rfl⟩ := ownB_form hown
    have HO := hid hown
    have HB := hid hbel
    have hzr := hbel.size
    clear hown hbel
    by_cases hlt : k < 6
    · have q1 : (((k : Int) + 1) ≤ 6) := by omega
      have c1 := fun w' hK => implKindText_any ((k : Int) + 1) w' hK
      have HK1 := hid (HK.out.below HB.out (Nat.le_refl _))
      have HF := hid (dWk_succ k)
      generalize kdT ((k : Int) + 1) = S at *
      have C1 := hid c1
      clear c1
      go_wp2_with fail
      refine (C1.out _ HK1.out).mono ?_
      rintro e w1 ⟨rfl, hq⟩
      rw [hq]
      clear hq w1
      go_wp2_with (first | (at_builtin; refine wpList_append_own _ rfl _ _ 22 rfl w.heap.size 9 i0 _ 1 16 Tryd.underlying22 hi hz0 hz1 hz2 rfl (by decide) _ _ _ rfl (HO.out.alloc _) ⟨wr.heap.size, 0, none⟩ 1 1 [.string S] rfl rfl ?c1 ?c2 ?c3 ?c4 ?c5 ?_) | fail)
      case c1 => exact str_new_cell wr S 9
      case c2 => simp [Value.oneCell']
      case c3 => unfold maxLen; omega
      case c4 => omega
      case c5 => simp; omega
      intro v' w1 ho hg _
      have HBL := hid ((HB.out.alloc hzr _).grown hg (by simp; omega) (fun j e => (HO.out.lt j e).1))
      have HO1 := hid ho
      clear ho hg
      go_wp2
      go_roundw
      case rel => exact ⟨k + 1, by omega, by go_num, by rw [HF.out]; exact HO1.out, HBL.out⟩
      case measure => simp [intOf]; omega
    · obtain rfl : k = 6 := by omega
      have hO := HO.out
      rw [← enc_map] at hO
      rcases hO.2 with ⟨h1, h0⟩ | ⟨g', cap, cur, h1, h2, h3, h4, h5, h6, h7⟩
      · exact absurd h0 (by decide)
      · injection h1 with h1 _ h1'
        subst h1 h1'
        have hgl : g' < wr.heap.size := lt_heap h3
        have hl : ((dWk 6).map fun s => s.data.toList).length = 12 := by rw [List.length_map, dWk_len]
        rw [Nat.mul_one] at h7
        have hH := holds_of_block (ss := (dWk 6).map fun s => s.data.toList) h3 (by rw [hl]; exact h7)
        have cS := AnyM.slices_Sort_string Shs.sortA g' 0 vc ((dWk 6).map fun s => s.data.toList) wr hH hgl (by rw [hl]; omega)
        change Calls Tryd.prog 10 _ _ _ at cS
        rw [dW_sorted, hl] at cS
        have HOS := hid (fun n os => ownsRow_sorted (w := wr) (base := w.heap.size) (g := g') (cap := vc) (n := n) (e := 9) (os := os) (cur := cur) (ss := (dWk 6).map fun s => s.data.toList) (ts := dWords.map fun s => s.data.toList) (by rw [hl]; rfl) h2 h3 (by rw [hl]; exact h4) h5 h6)
        have HGS := hid (fun n os => grownBy_sorted (w := wr) (g := g') (n := n) (os := os) (dWords.map fun s => s.data.toList).toArray)
        rw [hl, enc_map, hDV.out] at HOS
        generalize (dWords.map fun s => s.data.toList).toArray = D at *
        have CS := hid cS
        clear hO hH h3 h7 h4 h6 HO HK cS hl h5
        go_wp2_with fail
        refine CS.out.mono ?_
        rintro e w1 ⟨rfl, n, os, rfl⟩
        have HO1 := hid (HOS.out n os)
        have HB1 := hid (HB.out.grown (HGS.out n os) hzr (fun k e => by cases e; exact h2))
        generalize grow (putRow encStr (Sort.ahead wr n) g' 0 D) os = W1 at *
        go_wp2
        go_ret
        exact ⟨.slice (some ⟨g', 0, none⟩) 12 vc, rfl, HO1.out, HB1.out⟩
theorem implDeskWords_any (w : World) (hK : KNames w) :
    Calls Tryd.prog 5 #[] w fun e w' => ∃ v, e = .returned v ∧ w'.ownsRow w.heap.size 9 1 v 12 (dWords.map Value.string) ∧ Below w.heap.size w w' := implDeskWords_as _ w hK rfl
end Go.Proofs.YtmkpmiepakhgpaaDoor
