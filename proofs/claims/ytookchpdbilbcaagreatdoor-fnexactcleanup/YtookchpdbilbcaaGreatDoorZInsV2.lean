/-
 Texts put together: InsV, InsG.
-/
import Derived.Test.YtookchpdbilbcaaGreatDoorZDfV7
import Derived.Test.YtookchpdbilbcaaGreatDoorZSpSet
import Derived.Test.YtookchpdbilbcaaGreatDoorZEvI8
import Derived.Lib.Overlaps
import Derived.Lib.AppendZerosOnto
import Derived.Laws.Externs
import Derived.Deep.RegionLaw
set_option maxRecDepth 100000
set_option maxHeartbeats 2000000
/-
 What slices.Insert does at a row of pairs of one's own: contracts over the seat's program.
-/
namespace Go.Proofs.YtookchpdbilbcaaGreatDoor
open Go.RowKit Go.Sort
theorem ZBx : ∀ (l : List Pr) (k : Nat), (l.drop k).flatMap Pr.cells = (l.flatMap Pr.cells).drop (k * 2)
 | l, 0 => by simp
 | [], k + 1 => by simp
 | p :: r, k + 1 => by
  rw [List.drop_succ_cons, ZBx r k, List.flatMap_cons]
  have : (p.cells ++ r.flatMap Pr.cells).drop (p.cells.length + k * 2) = (r.flatMap Pr.cells).drop (k * 2) := by rw [← List.drop_drop, List.drop_left]
  rw [show (k + 1) * 2 = p.cells.length + k * 2 by simp [Pr.cells]; omega, this]
theorem ZDf : ∀ (l : List Pr) (k : Nat), (l.take k).flatMap Pr.cells = (l.flatMap Pr.cells).take (k * 2)
 | l, 0 => by simp
 | [], k + 1 => by simp
 | p :: r, k + 1 => by
  rw [List.take_succ_cons, List.flatMap_cons, List.flatMap_cons, ZDf r k]
  rw [show (k + 1) * 2 = p.cells.length + k * 2 by simp [Pr.cells]; omega, List.take_length_add_append]
theorem ZGs {α : Type} (cur A X B : List α) (h : cur.take (A.length + B.length) = A ++ B) (hl : A.length + X.length + B.length ≤ cur.length) : (splice (splice cur (A.length + X.length) B) A.length X).take (A.length + X.length + B.length) = A ++ X ++ B := by
 have hA : cur.take A.length = A := by
  have := congrArg (List.take A.length) h
  rwa [List.take_take, Nat.min_eq_left (by omega), List.take_left] at this
 have e1 : (splice cur (A.length + X.length) B).take A.length = A := by
  unfold splice
  rw [List.take_append_of_le_length (by rw [List.length_take]; omega), List.take_take, Nat.min_eq_left (by omega), hA]
 have e2 : (splice cur (A.length + X.length) B).drop (A.length + X.length) = B ++ cur.drop (A.length + X.length + B.length) := by
  unfold splice
  have : (cur.take (A.length + X.length)).length = A.length + X.length := by rw [List.length_take]; omega
  rw [List.drop_append_of_le_length (by omega), List.drop_eq_nil_of_le (by omega), List.nil_append]
 generalize splice cur (A.length + X.length) B = C at e1 e2
 unfold splice
 rw [e1, e2, ← List.append_assoc, ← List.append_assoc]
 rw [List.take_append_of_le_length (by simp; omega), List.take_of_length_le (by simp; omega)]
theorem Tryz.sizeVar (w : World) : (Go.sizeOf 143).run Tryz.prog w = .ok 2 w := by kernel_rfl
/-- A block of its own does not overlap another. -/
theorem over_no (vb g off lb cb : Nat) (w : World) (x : List Value) (cur : List Value) (hv : w.heap[vb]? = some (.cells x.toArray 143 (0, 0))) (hg : w.heap[g]? = some (.cells cur.toArray 143 (0, 0))) (hc : cur.length ≠ 0) (hne : vb ≠ g) :
  (callFunc 166 #[.slice (some ⟨vb, 0, none⟩) 1 1, .slice (some ⟨g, off, none⟩) lb cb]).run Tryz.prog w = .ok (.value (.bool false)) w := by
 rw [run_callFunc_extern Tryz.func166 (by kernel_rfl) (by kernel_rfl) (by kernel_rfl) (e := Extern.SlicesOverlaps.overlaps #[79, 79] #[4]) (by kernel_rfl),
  Lib.run_overlaps_apart w 79 4 143 Tryz.underlying79 2 Tryz.sizeVar ⟨vb, 0, none⟩ ⟨g, off, none⟩ 1 1 lb cb hne 143 143 x.length cur.length (by simp [World.shape?, hv]) (by simp [World.shape?, hg]) hc (by simp [World.frozen?, hv]) (by simp [World.frozen?, hv])]
 rfl
theorem ZG2 (g c k vb : Nat) (cur : List Value) (l : List Pr) (v : Pr) (w : World) (hk : k < l.length) (hroom : l.length + 1 ≤ c) (hcm : c ≤ maxLen) (hg : w.heap[g]? = some (.cells cur.toArray 143 (0, 0))) (hcl : cur.length = c * 2) (hct : cur.take (l.length * 2) = l.flatMap Pr.cells) (hv : w.heap[vb]? = some (.cells #[.string v.fst, .string v.snd] 143 (0, 0))) (hne : vb ≠ g) :
  Calls Tryz.prog 154 #[.slice (some ⟨g, 0, none⟩) l.length c, .int .i64 k, .slice (some ⟨vb, 0, none⟩) 1 1] w fun e w' => e = .returned (.slice (some ⟨g, 0, none⟩) (l.length + 1) c) ∧ (∃ cur' : List Value, w'.heap[g]? = some (.cells cur'.toArray 143 (0, 0)) ∧ cur'.length = c * 2 ∧ cur'.take ((l.length + 1) * 2) = (l.take k ++ [v] ++ l.drop k).flatMap Pr.cells) ∧ w.grownBy w' (some g) := by
 have hov := fun off lb cb => over_no vb g off lb cb w [.string v.fst, .string v.snd] cur hv hg (by omega) hne
 have hsz : (Tryz.prog.info? 143).map (·.size) = some 2 := by
  obtain ⟨j0, hj, hj0, hj1, hj2⟩ := info_parts Tryz.infoVar
  rw [hj]; simp [hj1]
 unfold maxLen at hcm
 have hb2 : ¬ (c = k + 1) := by omega
 have hb4 : ¬ (c = k) := by omega
 have hb5 : ¬ (k = l.length) := by omega
 have hw1 : IntKind.i64.wrap ((k : Int) + 1) = (k : Int) + 1 := by rw [IntKind.wrap_i64]; omega
 have hw2 : IntKind.i64.wrap ((l.length : Int) + 1) = (l.length : Int) + 1 := by rw [IntKind.wrap_i64]; omega
 have ht1 : ((k : Int) + 1).toNat = k + 1 := by omega
 have ht2 : ((l.length : Int) + 1).toNat = l.length + 1 := by omega
 have hp0 : (0 : Int) ≤ (k : Int) + 1 := by omega
 have hp1 : (k : Int) ≤ (l.length : Int) := by omega
 have hp2 : (k : Int) ≤ (l.length : Int) + 1 := by omega
 have hp3 : k ≤ l.length := by omega
 have hp4 : (k : Int) + 1 ≤ (l.length : Int) + 1 := by omega
 obtain ⟨CS, hCS⟩ : ∃ CS : List Value, CS = (l.drop k).flatMap Pr.cells := ⟨_, rfl⟩
 have HL := hid (show CS.length = (l.length - k) * 2 by rw [hCS, ZAQ, List.length_drop])
 have H1 := hid (show ∀ u ∈ CS, u.oneCell' = true by rw [hCS]; exact ZAq _)
 have HSrc := hid (show ∀ j u, CS[j]? = some u → w.drew.cell? ((⟨g, k * 2, none⟩ : Addr).add j) = some u from fun j u hj => by
  rw [hCS, ZBx, ← hct, List.getElem?_drop, List.getElem?_take] at hj
  split at hj
  ·rw [Addr.add_lit]
   show w.cell? ⟨g, k * 2 + j, none⟩ = some u
   rw [Lib.cell_of_heap hg]
   simpa using hj
  ·cases hj)
 have HFin := hid (show (splice (splice cur ((k + 1) * 2) CS) (k * 2) v.cells).take ((l.length + 1) * 2) = (l.take k ++ [v] ++ l.drop k).flatMap Pr.cells by
  have hA : ((l.take k).flatMap Pr.cells).length = k * 2 := by rw [ZAQ, List.length_take]; omega
  have hX : v.cells.length = 2 := rfl
  have hB : CS.length = (l.length - k) * 2 := HL.out
  have := ZGs cur ((l.take k).flatMap Pr.cells) v.cells CS (by rw [hA, hB, show k * 2 + (l.length - k) * 2 = l.length * 2 by omega, hct, hCS, ← List.flatMap_append, List.take_append_drop]) (by rw [hA, hB, hX]; omega)
  rw [hA, hB, hX] at this
  rw [show (k + 1) * 2 = k * 2 + 2 by omega, show (l.length + 1) * 2 = k * 2 + 2 + (l.length - k) * 2 by omega, this, hCS]
  simp)
 have HLen := hid (show (splice (splice cur ((k + 1) * 2) CS) (k * 2) v.cells).length = c * 2 by
  have hX : v.cells.length = 2 := rfl
  have hB : CS.length = (l.length - k) * 2 := HL.out
  have h1 : (splice cur ((k + 1) * 2) CS).length = cur.length := length_splice _ _ _ (by omega)
  rw [length_splice _ _ _ (by omega), h1, hcl])
 have HG := hid hg
 have hfit : (k + 1) * 2 + CS.length ≤ cur.length := by have := HL.out; omega
 have HV := hid hv
 have hfl : (splice cur ((k + 1) * 2) CS).length = cur.length := length_splice _ _ _ hfit
 have HFL := hid hfl
 clear hCS hg hct hv hfl
 go_enter Tryz.func154, Tryz.ntmps154
 go_wp2_with (simp only [hov])
 clear hov
 go_region_law (first | (refine ZDr rfl (.tmp 73) (.tmp 76) 79 79 rfl 143 2 (l.length - k) Tryz.underlying79 hsz g ((k + 1) * 2) (l.length + 1 - (k + 1)) (c - (k + 1)) ⟨g, k * 2, none⟩ (l.length + 1 - k) (c - k) (by simp [Act.eval, Act.put]) (by simp [Act.eval, Act.put]) cur 143 HG.out CS (by simp only [Nat.min_def]; split <;> omega) HL.out HSrc.out hfit H1.out ?_; intro w1 HG1 HB1))
 have hgw : w.grownBy w1 (some g) := ZAN (ZFl w 1 _) HB1.out
 have HGW := hid hgw
 have hv1 : w1.heap[vb]? = some (.cells #[.string v.fst, .string v.snd] 143 (0, 0)) := (hgw.block vb (ZAA HV.out) (fun e => hne (by injection e))).trans HV.out
 have HSr2 := hid (show ∀ j u, v.cells[j]? = some u → w1.cell? ((⟨vb, 0, none⟩ : Addr).add j) = some u from fun j u hj => by
  rw [Addr.add_lit, Nat.zero_add, Lib.cell_of_heap hv1]
  simpa [Pr.cells] using hj)
 clear hgw hv1 HB1 HSrc
 go_wp2_with (refine ZCA rfl (.tmp 80) (.tmp 81) 79 79 rfl 143 2 1 Tryz.underlying79 hsz g (k * 2) _ _ ⟨vb, 0, none⟩ 1 1 rfl rfl (splice cur ((k + 1) * 2) CS) 143 HG1.out v.cells ?d1 rfl HSr2.out ?d2 ?d3 ?_)
 case d1 => simp only [Nat.min_def]; split <;> omega
 case d2 => show k * 2 + 2 ≤ _; rw [HFL.out]; omega
 case d3 => exact fun u hu => ZAq [v] u (by simpa using hu)
 intro w2 HG2 HB2
 go_wp2
 go_ret
 exact ⟨rfl, ⟨_, HG2.out, HLen.out, HFin.out⟩, ZAN HGW.out HB2.out⟩
end Go.Proofs.YtookchpdbilbcaaGreatDoor
/-
 What slices.Insert does at a row of pairs of one's own where it makes a new row, and at its end: contracts over the seat's program.
-/
namespace Go.Proofs.YtookchpdbilbcaaGreatDoor
open Go.RowKit Go.Sort
theorem ZFz {α : Type} (R A X B : List α) (hA : R.take A.length = A) (hl : A.length + X.length + B.length ≤ R.length) : (splice (splice R A.length X) (A.length + X.length) B).take (A.length + X.length + B.length) = A ++ X ++ B := by
 have e1 : (splice R A.length X).take (A.length + X.length) = A ++ X := by
  unfold splice
  rw [hA, ← List.append_assoc, List.take_append_of_le_length (by simp), List.take_of_length_le (by simp)]
 have e2 : (splice R A.length X).length = R.length := length_splice _ _ _ (by omega)
 generalize splice R A.length X = C at e1 e2
 unfold splice
 rw [e1, ← List.append_assoc, List.take_append_of_le_length (by simp; omega), List.take_of_length_le (by simp; omega)]
theorem ZIJ (g c k vb : Nat) (cur : List Value) (l : List Pr) (v : Pr) (w : World) (hk : k < l.length) (hroom : c < l.length + 1) (hnc : l.length ≤ c) (hn : l.length ≤ 1000) (hg : w.heap[g]? = some (.cells cur.toArray 143 (0, 0))) (hct : cur.take (l.length * 2) = l.flatMap Pr.cells) (hv : w.heap[vb]? = some (.cells #[.string v.fst, .string v.snd] 143 (0, 0))) :
  Calls Tryz.prog 154 #[.slice (some ⟨g, 0, none⟩) l.length c, .int .i64 k, .slice (some ⟨vb, 0, none⟩) 1 1] w fun e w' => ∃ G, e = .returned (.slice (some ⟨w.heap.size, 0, none⟩) (l.length + 1) G) ∧ w'.ownsRow w.heap.size 143 2 (.slice (some ⟨w.heap.size, 0, none⟩) (l.length + 1) G) (l.length + 1) ((l.take k ++ [v] ++ l.drop k).flatMap Pr.cells) ∧ Below w.heap.size w w' := by
 obtain ⟨j0, hj, hj0, hj1, hj2⟩ := info_parts Tryz.infoVar
 have hsz : (Tryz.prog.info? 143).map (·.size) = some 2 := by rw [hj]; simp [hj1]
 obtain ⟨A, hA⟩ : ∃ A : List Value, A = (l.take k).flatMap Pr.cells := ⟨_, rfl⟩
 have hAl : A.length = k * 2 := by rw [hA, ZAQ, List.length_take]; omega
 have hAc : ∀ j u, A[j]? = some u → w.cell? ⟨g, j, none⟩ = some u := fun j u hj => by
  rw [hA, ZDf, ← hct, List.getElem?_take, List.getElem?_take] at hj
  split at hj
  ·split at hj
   ·rw [Lib.cell_of_heap hg]; simpa using hj
   ·cases hj
  ·cases hj
 have hold : (Builtin.firstCells j0.size k (.slice (some ⟨g, 0, none⟩) k c)).run Tryz.prog w.drew = .ok A.toArray w.drew := by
  rw [hj1]
  exact run_firstCells_some w.drew 2 k ⟨g, 0, none⟩ k c A hAl (fun j u hj => by rw [Addr.add_lit, Nat.zero_add]; exact hAc j u hj)
 have hkk : (l.length : Int) + 1 - (k : Int) = ((l.length + 1 - k : Nat) : Int) := by omega
 have hik : k + (l.length + 1 - k) = l.length + 1 := by omega
 have hrz : ∀ ty, (Builtin.append_ #[79, 3] ty #[.slice (some ⟨g, 0, none⟩) k c, .int .i64 ((l.length : Int) + 1 - (k : Int))]).run Tryz.prog w = .ok (.slice (some ⟨w.heap.size, 0, none⟩) (l.length + 1) (grownCap w (l.length + 1) c 143)) (w.drew.alloc (.cells (A.toArray ++ Builtin.zeroCells (Value.agg #[.string ⟨#[]⟩, .string ⟨#[]⟩]).cells (l.length + 1 - k) ++ Builtin.zeroCells (Value.agg #[.string ⟨#[]⟩, .string ⟨#[]⟩]).cells (grownCap w (l.length + 1) c 143 - (l.length + 1))) 143)) := fun ty => by
  have h := Lib.run_append_grow_zeros (P := Tryz.prog) w 79 3 ty 143 j0 _ .i64 .i64 Tryz.underlying79 Tryz.underlying3 hj hj0 (some ⟨g, 0, none⟩) k c A hold (l.length + 1 - k) (by omega) (by omega) (by omega) (by omega) (by rw [hj2]; omega) (by rw [hj2, hik]; exact growslice_fits hroom (by omega))
  rw [hik] at h
  rw [hkk]
  exact h
 have hGn : l.length + 1 ≤ grownCap w (l.length + 1) c 143 := grownCap_ge w _ _ _
 have hG63 := grownCap_le_maxLen w (l.length + 1) c 143 (by unfold maxLen; omega)
 generalize grownCap w (l.length + 1) c 143 = G at *
 obtain ⟨R, hR⟩ : ∃ R : List Value, R.toArray = A.toArray ++ Builtin.zeroCells (Value.agg #[.string ⟨#[]⟩, .string ⟨#[]⟩]).cells (l.length + 1 - k) ++ Builtin.zeroCells (Value.agg #[.string ⟨#[]⟩, .string ⟨#[]⟩]).cells (G - (l.length + 1)) := ⟨_, Array.toArray_toList⟩
 have hRl : R.length = G * 2 := by
  have := congrArg Array.size hR
  simp [Builtin.zeroCells, Value.cells, hAl] at this
  omega
 have hRA : R.take A.length = A := by
  have := congrArg Array.toList hR
  rw [List.toList_toArray] at this
  rw [this, Array.toList_append, Array.toList_append, List.append_assoc, List.toList_toArray, List.take_left]
 rw [← hR] at hrz
 obtain ⟨CS, hCS⟩ : ∃ CS : List Value, CS = (l.drop k).flatMap Pr.cells := ⟨_, rfl⟩
 have HL := hid (show CS.length = (l.length - k) * 2 by rw [hCS, ZAQ, List.length_drop])
 have H1 := hid (show ∀ u ∈ CS, u.oneCell' = true by rw [hCS]; exact ZAq _)
 have HSrc := hid (show ∀ j u, CS[j]? = some u → w.cell? ⟨g, k * 2 + j, none⟩ = some u from fun j u hj => by
  rw [hCS, ZBx, ← hct, List.getElem?_drop, List.getElem?_take] at hj
  split at hj
  ·rw [Lib.cell_of_heap hg]
   simpa using hj
  ·cases hj)
 have hX : v.cells.length = 2 := rfl
 have HFin := hid (show (splice (splice R (k * 2) v.cells) ((k + 1) * 2) CS).take ((l.length + 1) * 2) = (l.take k ++ [v] ++ l.drop k).flatMap Pr.cells by
  have hB : CS.length = (l.length - k) * 2 := HL.out
  have := ZFz R A v.cells CS hRA (by rw [hAl, hB, hX]; omega)
  rw [hAl, hB, hX] at this
  rw [show (k + 1) * 2 = k * 2 + 2 by omega, show (l.length + 1) * 2 = k * 2 + 2 + (l.length - k) * 2 by omega, this, hCS, hA]
  simp)
 have hfit1 : k * 2 + v.cells.length ≤ R.length := by rw [hX]; omega
 have hl1 : (splice R (k * 2) v.cells).length = R.length := length_splice _ _ _ hfit1
 have hfit2 : (k + 1) * 2 + CS.length ≤ (splice R (k * 2) v.cells).length := by rw [hl1]; have := HL.out; omega
 have HLen := hid (show (splice (splice R (k * 2) v.cells) ((k + 1) * 2) CS).length = G * 2 by rw [length_splice _ _ _ hfit2, hl1, hRl])
 have HB0 := hid (show Below w.heap.size w (w.drew.alloc (.cells R.toArray 143)) from (bR _ _).drew.alloc nL _)
 have HG0 := hid (show (w.drew.alloc (.cells R.toArray 143)).heap[w.heap.size]? = some (.cells R.toArray 143 (0, 0)) by show (w.heap.push _)[w.heap.size]? = _; simp)
 have hgl := ZAA hg
 have hvl := ZAA hv
 have HV := hid hv
 have hb2 : ¬ (c = k) := by omega
 have hb4 : ¬ (G = k) := by omega
 have hb5 : ¬ (k = l.length) := by omega
 have hb6 : ¬ (G = k + 1) := by omega
 have hw1 : IntKind.i64.wrap ((k : Int) + 1) = (k : Int) + 1 := by rw [IntKind.wrap_i64]; omega
 have hw2 : IntKind.i64.wrap ((l.length : Int) + 1) = (l.length : Int) + 1 := by rw [IntKind.wrap_i64]; omega
 have ht1 : ((k : Int) + 1).toNat = k + 1 := by omega
 have hp0 : (0 : Int) ≤ (k : Int) + 1 := by omega
 have hp1 : (k : Int) ≤ (l.length : Int) := by omega
 have hp2 : (k : Int) ≤ (l.length : Int) + 1 := by omega
 have hp3 : k ≤ l.length := by omega
 have hcc : (c : Int) < (l.length : Int) + 1 := by omega
 unfold maxLen at hG63
 have hGm := hid hG63
 clear hkk hik hold hR hA hAc hCS hRA hg hv hct hl1 hj0 hj1 hj2 hj
 go_enter Tryz.func154, Tryz.ntmps154
 have HSv := hid (show ∀ j u, v.cells[j]? = some u → (w.drew.alloc (.cells R.toArray 143)).cell? ((⟨vb, 0, none⟩ : Addr).add j) = some u from fun j u hj => by
  have hv1 : (w.drew.alloc (.cells R.toArray 143)).heap[vb]? = some (.cells #[.string v.fst, .string v.snd] 143 (0, 0)) := (HB0.out.block vb hvl).trans HV.out
  rw [Addr.add_lit, Nat.zero_add, Lib.cell_of_heap hv1]
  simpa [Pr.cells] using hj)
 have H1v := hid (show ∀ u ∈ v.cells, u.oneCell' = true from fun u hu => ZAq [v] u (by simpa using hu))
 go_wp2_with (first | (at_builtin; refine Lib.wpList_append_run _ rfl _ _ _ _ rfl _ _ rfl rfl _ _ (hrz _) ?_) | (refine ZCA rfl (.tmp 43) (.tmp 44) 79 79 rfl 143 2 1 Tryz.underlying79 hsz w.heap.size (k * 2) _ _ ⟨vb, 0, none⟩ 1 1 rfl rfl R 143 HG0.out v.cells ?d1 rfl HSv.out hfit1 H1v.out ?_) | fail)
 case d1 => simp only [Nat.min_def]; split <;> omega
 intro W1 HG1 HW1
 have HB1 := hid (show Below w.heap.size w W1 from HB0.out.grown HW1.out HB0.out.size (fun j hj => by injection hj with hj; omega))
 have HSr2 := hid (show ∀ j u, CS[j]? = some u → W1.drew.cell? ((⟨g, k * 2, none⟩ : Addr).add j) = some u from fun j u hj => by
  rw [Addr.add_lit]
  exact (HB1.out.cell (p := ⟨g, k * 2 + j, none⟩) hgl).trans (HSrc.out j u hj))
 clear HW1 HSv HSrc
 go_wp2
 go_region_law (first | (refine ZDr rfl (.tmp 50) (.tmp 53) 79 79 rfl 143 2 (l.length - k) Tryz.underlying79 hsz w.heap.size ((k + 1) * 2) (l.length + 1 - (k + 1)) (G - (k + 1)) ⟨g, k * 2, none⟩ (l.length - k) (c - k) (by simp [Act.eval, Act.put]) (by simp [Act.eval, Act.put]) (splice R (k * 2) v.cells) 143 HG1.out CS (by simp only [Nat.min_def]; split <;> omega) HL.out HSr2.out hfit2 H1.out ?_; intro W2 HG2 HW2))
 have HB2 := hid (show Below w.heap.size w W2 from HB1.out.drew.grown HW2.out HB1.out.size (fun j hj => by injection hj with hj; omega))
 clear HW2
 go_wp2
 go_ret
 exact ⟨G, rfl, ⟨by rw [ZAQ]; simp; omega, .inr ⟨w.heap.size, G, _, rfl, Nat.le_refl _, HG2.out, hGn, hGm.out, by simpa using HLen.out, by simpa using HFin.out⟩⟩, HB2.out⟩
end Go.Proofs.YtookchpdbilbcaaGreatDoor
