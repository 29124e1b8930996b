/-
  Texts put together: InsG, InsO, Cmp, SrchV.
-/
import Derived.Test.YthggcdadipjiiaaGreatDoorZEvC6
import Derived.Test.YthggcdadipjiiaaGreatDoorZEvT5
import Derived.Lib.Bytealg
import Derived.Test.YthggcdadipjiiaaGreatDoorZRiseM4
import Derived.BigQuiet
import Derived.Lib.QuietBelow
import Derived.Deep.RegionHeld3
/-
  What slices.Insert does at a row of pairs of one's own where it makes a new row, and at its end: contracts over the seat's program.
-/
namespace Go.Proofs.YthggcdadipjiiaaGreatDoor
open Go.RowKit Go.Sort

theorem splice_ins2 {α : Type} (R A X B : List α) (hA : R.take A.length = A) (hl : A.length + X.length + B.length ≤ R.length) : (splice (splice R A.length X) (A.length + X.length) B).take (A.length + X.length + B.length) = A ++ X ++ B := by
  have e1 : (splice R A.length X).take (A.length + X.length) = A ++ X := by
    unfold splice
    rw [hA, ← List.append_assoc, List.take_append_of_le_length (by simp), List.take_of_length_le (by simp)]
  have e2 : (splice R A.length X).length = R.length := length_splice _ _ _ (by omega)
  generalize splice R A.length X = C at e1 e2
  unfold splice
  rw [e1, ← List.append_assoc, List.take_append_of_le_length (by simp; omega), List.take_of_length_le (by simp; omega)]
set_option maxRecDepth 100000 in
set_option maxHeartbeats 2000000 in
theorem insV_grow (g c k vb : Nat) (cur : List Value) (l : List Pr) (v : Pr) (w : World) (hk : k < l.length) (hroom : c < l.length + 1) (hnc : l.length ≤ c) (hn : l.length ≤ 1000) (hg : w.heap[g]? = some (.cells cur.toArray 138 (0, 0))) (hct : cur.take (l.length * 2) = l.flatMap Pr.cells) (hv : w.heap[vb]? = some (.cells #[.string v.fst, .string v.snd] 138 (0, 0))) :
    Calls Tryz.prog 169 #[.slice (some ⟨g, 0, none⟩) l.length c, .int .i64 k, .slice (some ⟨vb, 0, none⟩) 1 1] w fun e w' => ∃ G, e = .returned (.slice (some ⟨w.heap.size, 0, none⟩) (l.length + 1) G) ∧ w'.ownsRow w.heap.size 138 2 (.slice (some ⟨w.heap.size, 0, none⟩) (l.length + 1) G) (l.length + 1) ((l.take k ++ [v] ++ l.drop k).flatMap Pr.cells) ∧ Below w.heap.size w w' := by
  obtain ⟨j0, hj, hj0, hj1, hj2⟩ := info_parts Tryz.infoVar
  have hsz : (Tryz.prog.info? 138).map (·.size) = some 2 := by rw [hj]; simp [hj1]
  obtain ⟨A, hA⟩ : ∃ A : List Value, A = (l.take k).flatMap Pr.cells := ⟨_, rfl⟩
  have hAl : A.length = k * 2 := by rw [hA, pflat_len, List.length_take]; omega
  have hAc : ∀ j u, A[j]? = some u → w.cell? ⟨g, j, none⟩ = some u := fun j u hj => by
    rw [hA, flat_take2, ← hct, List.getElem?_take, List.getElem?_take] at hj
    split at hj
    · split at hj
      · rw [Lib.cell_of_heap hg]; simpa using hj
      · cases hj
    · cases hj
  have hold : (Builtin.firstCells j0.size k (.slice (some ⟨g, 0, none⟩) k c)).run Tryz.prog w.drew = .ok A.toArray w.drew := by
    rw [hj1]
    exact run_firstCells_some w.drew 2 k ⟨g, 0, none⟩ k c A hAl (fun j u hj => by rw [Addr.add_lit, Nat.zero_add]; exact hAc j u hj)
  have hkk : (l.length : Int) + 1 - (k : Int) = ((l.length + 1 - k : Nat) : Int) := by omega
  have hik : k + (l.length + 1 - k) = l.length + 1 := by omega
  have hrz : ∀ ty, (Builtin.append_ #[89, 3] ty #[.slice (some ⟨g, 0, none⟩) k c, .int .i64 ((l.length : Int) + 1 - (k : Int))]).run Tryz.prog w = .ok (.slice (some ⟨w.heap.size, 0, none⟩) (l.length + 1) (grownCap w (l.length + 1) c 138)) (w.drew.alloc (.cells (A.toArray ++ Builtin.zeroCells (Value.agg #[.string ⟨#[]⟩, .string ⟨#[]⟩]).cells (l.length + 1 - k) ++ Builtin.zeroCells (Value.agg #[.string ⟨#[]⟩, .string ⟨#[]⟩]).cells (grownCap w (l.length + 1) c 138 - (l.length + 1))) 138)) := fun ty => by
    have h := Lib.run_append_grow_zeros (P := Tryz.prog) w 89 3 ty 138 j0 _ .i64 .i64 Tryz.underlying89 Tryz.underlying3 hj hj0 (some ⟨g, 0, none⟩) k c A hold (l.length + 1 - k) (by omega) (by omega) (by omega) (by omega) (by rw [hj2]; omega) (by rw [hj2, hik]; exact growslice_fits hroom (by omega))
    rw [hik] at h
    rw [hkk]
    exact h
  have hGn : l.length + 1 ≤ grownCap w (l.length + 1) c 138 := grownCap_ge w _ _ _
  have hG63 := grownCap_le_maxLen w (l.length + 1) c 138 (by unfold maxLen; omega)
  generalize grownCap w (l.length + 1) c 138 = G at *
  obtain ⟨R, hR⟩ : ∃ R : List Value, R.toArray = A.toArray ++ Builtin.zeroCells (Value.agg #[.string ⟨#[]⟩, .string ⟨#[]⟩]).cells (l.length + 1 - k) ++ Builtin.zeroCells (Value.agg #[.string ⟨#[]⟩, .string ⟨#[]⟩]).cells (G - (l.length + 1)) := ⟨_, Array.toArray_toList⟩
  have hRl : R.length = G * 2 := by
    have := congrArg Array.size hR
    simp [Builtin.zeroCells, Value.cells, hAl] at this
    omega
  have hRA : R.take A.length = A := by
    have := congrArg Array.toList hR
    rw [List.toList_toArray] at this
    rw [this, Array.toList_append, Array.toList_append, List.append_assoc, List.toList_toArray, List.take_left]
  rw [← hR] at hrz
  obtain ⟨CS, hCS⟩ : ∃ CS : List Value, CS = (l.drop k).flatMap Pr.cells := ⟨_, rfl⟩
  have HL := hid (show CS.length = (l.length - k) * 2 by rw [hCS, pflat_len, List.length_drop])
  have H1 := hid (show ∀ u ∈ CS, u.oneCell' = true by rw [hCS]; exact prs_one _)
  have HSrc := hid (show ∀ j u, CS[j]? = some u → w.cell? ⟨g, k * 2 + j, none⟩ = some u from fun j u hj => by
    rw [hCS, flat_drop2, ← hct, List.getElem?_drop, List.getElem?_take] at hj
    split at hj
    · rw [Lib.cell_of_heap hg]
      simpa using hj
    · cases hj)
  have hX : v.cells.length = 2 := rfl
  have HFin := hid (show (splice (splice R (k * 2) v.cells) ((k + 1) * 2) CS).take ((l.length + 1) * 2) = (l.take k ++ [v] ++ l.drop k).flatMap Pr.cells by
    have hB : CS.length = (l.length - k) * 2 := HL.out
    have := splice_ins2 R A v.cells CS hRA (by rw [hAl, hB, hX]; omega)
    rw [hAl, hB, hX] at this
    rw [show (k + 1) * 2 = k * 2 + 2 by omega, show (l.length + 1) * 2 = k * 2 + 2 + (l.length - k) * 2 by omega, this, hCS, hA]
    simp)
  have hfit1 : k * 2 + v.cells.length ≤ R.length := by rw [hX]; omega
  have hl1 : (splice R (k * 2) v.cells).length = R.length := length_splice _ _ _ hfit1
  have hfit2 : (k + 1) * 2 + CS.length ≤ (splice R (k * 2) v.cells).length := by rw [hl1]; have := HL.out; omega
  have HLen := hid (show (splice (splice R (k * 2) v.cells) ((k + 1) * 2) CS).length = G * 2 by rw [length_splice _ _ _ hfit2, hl1, hRl])
  have HB0 := hid (show Below w.heap.size w (w.drew.alloc (.cells R.toArray 138)) from (Below.refl _ _).drew.alloc (Nat.le_refl _) _)
  have HG0 := hid (show (w.drew.alloc (.cells R.toArray 138)).heap[w.heap.size]? = some (.cells R.toArray 138 (0, 0)) by show (w.heap.push _)[w.heap.size]? = _; simp)
  have hgl := lt_heap hg
  have hvl := lt_heap hv
  have HV := hid hv
  have hb2 : ¬ (c = k) := by omega
  have hb4 : ¬ (G = k) := by omega
  have hb5 : ¬ (k = l.length) := by omega
  have hb6 : ¬ (G = k + 1) := by omega
  have hw1 : IntKind.i64.wrap ((k : Int) + 1) = (k : Int) + 1 := by rw [IntKind.wrap_i64]; omega
  have hw2 : IntKind.i64.wrap ((l.length : Int) + 1) = (l.length : Int) + 1 := by rw [IntKind.wrap_i64]; omega
  have ht1 : ((k : Int) + 1).toNat = k + 1 := by omega
  have hp0 : (0 : Int) ≤ (k : Int) + 1 := by omega
  have hp1 : (k : Int) ≤ (l.length : Int) := by omega
  have hp2 : (k : Int) ≤ (l.length : Int) + 1 := by omega
  have hp3 : k ≤ l.length := by omega
  have hcc : (c : Int) < (l.length : Int) + 1 := by omega
  unfold maxLen at hG63
  have hGm := hid hG63
  clear hkk hik hold hR hA hAc hCS hRA hg hv hct hl1 hj0 hj1 hj2 hj
  go_enter Tryz.func169, Tryz.ntmps169
  have HSv := hid (show ∀ j u, v.cells[j]? = some u → (w.drew.alloc (.cells R.toArray 138)).cell? ((⟨vb, 0, none⟩ : Addr).add j) = some u from fun j u hj => by
    have hv1 : (w.drew.alloc (.cells R.toArray 138)).heap[vb]? = some (.cells #[.string v.fst, .string v.snd] 138 (0, 0)) := (HB0.out.block vb hvl).trans HV.out
    rw [Addr.add_lit, Nat.zero_add, Lib.cell_of_heap hv1]
    simpa [Pr.cells] using hj)
  have H1v := hid (show ∀ u ∈ v.cells, u.oneCell' = true from fun u hu => prs_one [v] u (by simpa using hu))
  go_wp2_with (first | (at_builtin; refine Lib.wpList_append_run _ rfl _ _ _ _ rfl _ _ rfl rfl _ _ (hrz _) ?_) | (refine wpList_copyN rfl (.tmp 43) (.tmp 44) 89 89 rfl 138 2 1 Tryz.underlying89 hsz w.heap.size (k * 2) _ _ ⟨vb, 0, none⟩ 1 1 rfl rfl R 138 HG0.out v.cells ?d1 rfl HSv.out hfit1 H1v.out ?_) | fail)
  case d1 => simp only [Nat.min_def]; split <;> omega
  intro W1 HG1 HW1
  have HB1 := hid (show Below w.heap.size w W1 from HB0.out.grown HW1.out HB0.out.size (fun j hj => by injection hj with hj; omega))
  have HSr2 := hid (show ∀ j u, CS[j]? = some u → W1.drew.cell? ((⟨g, k * 2, none⟩ : Addr).add j) = some u from fun j u hj => by
    rw [Addr.add_lit]
    exact (HB1.out.cell (p := ⟨g, k * 2 + j, none⟩) hgl).trans (HSrc.out j u hj))
  clear HW1 HSv HSrc
  go_wp2
  go_region_law (first | (refine step_copyN rfl (.tmp 50) (.tmp 53) 89 89 rfl 138 2 (l.length - k) Tryz.underlying89 hsz w.heap.size ((k + 1) * 2) (l.length + 1 - (k + 1)) (G - (k + 1)) ⟨g, k * 2, none⟩ (l.length - k) (c - k) (by simp [Act.eval, Act.put]) (by simp [Act.eval, Act.put]) (splice R (k * 2) v.cells) 138 HG1.out CS (by simp only [Nat.min_def]; split <;> omega) HL.out HSr2.out hfit2 H1.out ?_; intro W2 HG2 HW2))
  have HB2 := hid (show Below w.heap.size w W2 from HB1.out.drew.grown HW2.out HB1.out.size (fun j hj => by injection hj with hj; omega))
  clear HW2
  go_wp2
  go_ret
  exact ⟨G, rfl, ⟨by rw [pflat_len]; simp; omega, .inr ⟨w.heap.size, G, _, rfl, Nat.le_refl _, HG2.out, hGn, hGm.out, by simpa using HLen.out, by simpa using HFin.out⟩⟩, HB2.out⟩
end Go.Proofs.YthggcdadipjiiaaGreatDoor

/-
  What slices.Insert does at every row of pairs of one's own: a contract over the seat's program.
-/
namespace Go.Proofs.YthggcdadipjiiaaGreatDoor
open Go.RowKit Go.Sort

set_option maxRecDepth 100000 in
set_option maxHeartbeats 2000000 in
theorem insV_end (base vb : Nat) (a : Option Addr) (c : Nat) (l : List Pr) (v : Pr) (w : World) (h : w.ownsRow base 138 2 (.slice a l.length c) l.length (l.flatMap Pr.cells)) (hn : l.length ≤ 1000) (hb : base ≤ w.heap.size) (hv : w.heap[vb]? = some (.cells #[.string v.fst, .string v.snd] 138 (0, 0))) :
    Calls Tryz.prog 169 #[.slice a l.length c, .int .i64 l.length, .slice (some ⟨vb, 0, none⟩) 1 1] w fun e w' => ∃ a' c', e = .returned (.slice a' (l.length + 1) c') ∧ w'.ownsRow base 138 2 (.slice a' (l.length + 1) c') (l.length + 1) (l.flatMap Pr.cells ++ v.cells) ∧ w.grownBy w' (Value.slice a l.length c).ownBlock := by
  obtain ⟨j0, hj, hj0, hj1, hj2⟩ := info_parts Tryz.infoVar
  have HO := hid h
  have HSv := hid (show ∀ j u, v.cells[j]? = some u → w.cell? ((⟨vb, 0, none⟩ : Addr).add j) = some u from fun j u hj => by
    rw [Addr.add_lit, Nat.zero_add, Lib.cell_of_heap hv]
    simpa [Pr.cells] using hj)
  have H1v := hid (show ∀ u ∈ v.cells, u.oneCell' = true from fun u hu => prs_one [v] u (by simpa using hu))
  have key : ∀ P : Prop, P → P := fun _ h => h
  rcases h.2 with ⟨hv0, h0⟩ | ⟨g, cap, cur, hv0, _, _, hle, hcm, _⟩
  · injection hv0 with e1 _ e3
    subst e1; subst e3
    have hl : l = [] := List.eq_nil_of_length_eq_zero h0
    subst hl
    clear h hv h0 key
    go_enter Tryz.func169, Tryz.ntmps169
    go_wp2_with (first | (at_builtin; refine wpList_append_own _ rfl _ _ 89 rfl base 138 j0 _ 2 32 Tryz.underlying89 hj hj0 hj1 hj2 rfl (by decide) _ _ _ rfl HO.out ⟨vb, 0, none⟩ 1 1 v.cells rfl rfl HSv.out H1v.out ?c3 ?c4 hb ?_) | fail)
    case c3 => unfold maxLen; simp
    case c4 => simp
    intro v1 w1 ho1 hg1 _
    obtain ⟨a', c', rfl⟩ := ownB_form ho1
    have HO1 := hid ho1
    have HG1 := hid hg1
    clear ho1 hg1
    go_wp2
    go_ret
    exact ⟨a', c', rfl, HO1.out, HG1.out⟩
  · injection hv0 with e1 _ e3
    subst e1; subst e3
    clear h hv key
    unfold maxLen at hcm
    by_cases hcl : c = l.length
    · subst hcl
      go_enter Tryz.func169, Tryz.ntmps169
      go_wp2_with (first | (at_builtin; refine wpList_append_own _ rfl _ _ 89 rfl base 138 j0 _ 2 32 Tryz.underlying89 hj hj0 hj1 hj2 rfl (by decide) _ _ _ rfl HO.out ⟨vb, 0, none⟩ 1 1 v.cells rfl rfl HSv.out H1v.out ?c3 ?c4 hb ?_) | fail)
      case c3 => unfold maxLen; omega
      case c4 => omega
      intro v1 w1 ho1 hg1 _
      obtain ⟨a', c', rfl⟩ := ownB_form ho1
      have HO1 := hid ho1
      have HG1 := hid hg1
      clear ho1 hg1
      go_wp2
      go_ret
      exact ⟨a', c', rfl, HO1.out, HG1.out⟩
    · go_enter Tryz.func169, Tryz.ntmps169
      go_wp2_with (first | (at_builtin; refine wpList_append_own _ rfl _ _ 89 rfl base 138 j0 _ 2 32 Tryz.underlying89 hj hj0 hj1 hj2 rfl (by decide) _ _ _ rfl HO.out ⟨vb, 0, none⟩ 1 1 v.cells rfl rfl HSv.out H1v.out ?c3 ?c4 hb ?_) | fail)
      case c3 => unfold maxLen; omega
      case c4 => omega
      intro v1 w1 ho1 hg1 _
      obtain ⟨a', c', rfl⟩ := ownB_form ho1
      have HO1 := hid ho1
      have HG1 := hid hg1
      clear ho1 hg1
      go_wp2
      go_ret
      exact ⟨a', c', rfl, HO1.out, HG1.out⟩
/-- Wherever it is put in. -/
theorem insV_own (base vb k : Nat) (a : Option Addr) (c : Nat) (l : List Pr) (v : Pr) (w : World) (h : w.ownsRow base 138 2 (.slice a l.length c) l.length (l.flatMap Pr.cells)) (hk : k ≤ l.length) (hn : l.length ≤ 1000) (hb : base ≤ w.heap.size) (hv : w.heap[vb]? = some (.cells #[.string v.fst, .string v.snd] 138 (0, 0))) (hne : ∀ g, (Value.slice a l.length c).ownBlock = some g → vb ≠ g) :
    Calls Tryz.prog 169 #[.slice a l.length c, .int .i64 k, .slice (some ⟨vb, 0, none⟩) 1 1] w fun e w' => ∃ a' c', e = .returned (.slice a' (l.length + 1) c') ∧ w'.ownsRow base 138 2 (.slice a' (l.length + 1) c') (l.length + 1) ((l.take k ++ [v] ++ l.drop k).flatMap Pr.cells) ∧ w.grownBy w' (Value.slice a l.length c).ownBlock := by
  by_cases hkl : k = l.length
  · subst hkl
    refine (insV_end base vb a c l v w h hn hb hv).mono ?_
    rintro e w' ⟨a', c', he, ho, hg⟩
    refine ⟨a', c', he, ?_, hg⟩
    have : (l.take l.length ++ [v] ++ l.drop l.length).flatMap Pr.cells = l.flatMap Pr.cells ++ v.cells := by simp
    rw [this]; exact ho
  · rcases h.2 with ⟨hv0, h0⟩ | ⟨g, cap, cur, hv0, hbg, hh, hle, hcm, hcs, hct⟩
    · omega
    · injection hv0 with e1 _ e3
      subst e1; subst e3
      have hh' : w.heap[g]? = some (.cells cur.toList.toArray 138 (0, 0)) := by simpa using hh
      by_cases hr : l.length + 1 ≤ c
      · refine (insV_shift g c k vb cur.toList l v w (by omega) hr hcm hh' (by simpa using hcs) hct hv (hne g rfl)).mono ?_
        rintro e w' ⟨he, ⟨cur', h1, h2, h3⟩, hg⟩
        refine ⟨_, _, he, ⟨?_, .inr ⟨g, c, cur'.toArray, rfl, hbg, h1, hr, hcm, by simpa using h2, by simpa using h3⟩⟩, hg⟩
        rw [pflat_len]; simp; omega
      · refine (insV_grow g c k vb cur.toList l v w (by omega) (by omega) hle hn hh' hct hv).mono ?_
        rintro e w' ⟨G, he, ho, hb'⟩
        exact ⟨_, _, he, ownB_le ho hb, grown_below hb'⟩
end Go.Proofs.YthggcdadipjiiaaGreatDoor

/-
  What strings.Compare and the closure of impl.stand's method set answer: contracts over the seat's program.
-/
namespace Go.Proofs.YthggcdadipjiiaaGreatDoor
open Go.RowKit Go.Lib

theorem cmp_less : ∀ a b : List UInt8, decide (compareBytes a b < 0) = Op.bytesLess a b
  | [], [] => rfl
  | [], _ :: _ => rfl
  | _ :: _, [] => rfl
  | x :: a, y :: b => by
    have ih := cmp_less a b
    unfold compareBytes Op.bytesLess
    by_cases h1 : x < y
    · simp [h1]
    · by_cases h2 : y < x
      · have : ¬ x = y := fun e => by subst e; exact h1 h2
        simp [h1, h2, this]
      · have : x = y := UInt8.le_antisymm (UInt8.not_lt.1 h2) (UInt8.not_lt.1 h1)
        subst this
        simp [h1, ih]
theorem cmp_zero : ∀ a b : List UInt8, compareBytes a b = 0 ↔ a = b
  | [], [] => by simp [compareBytes]
  | [], _ :: _ => by simp [compareBytes]
  | _ :: _, [] => by simp [compareBytes]
  | x :: a, y :: b => by
    have ih := cmp_zero a b
    unfold compareBytes
    by_cases h1 : x < y
    · have : ¬ x = y := fun e => by subst e; exact UInt8.lt_irrefl _ h1
      simp [h1, this]
    · by_cases h2 : y < x
      · have : ¬ x = y := fun e => by subst e; exact h1 h2
        simp [h1, h2, this]
      · have : x = y := UInt8.le_antisymm (UInt8.not_lt.1 h2) (UInt8.not_lt.1 h1)
        subst this
        simp [h1, ih]
/-- The order of two texts, as a number. -/
def cmpT (a b : ByteArray) : Int := compareBytes a.data.toList b.data.toList
theorem cmpT_lt (a b : ByteArray) : decide (cmpT a b < 0) = lt a b := by
  unfold cmpT lt
  rw [cmp_less, ByteArray.toList_eq, ByteArray.toList_eq]
theorem cmpT_zero {a b : ByteArray} : cmpT a b = 0 ↔ a = b := by
  unfold cmpT
  rw [cmp_zero]
  exact ⟨fun h => ByteArray.ext (Array.toList_inj.1 h), fun h => by rw [h]⟩
theorem CompareString_any (a b : ByteArray) (w : World) :
    Calls Tryz.prog 171 #[.string a, .string b] w fun e w' => e = .returned (.int .i64 (cmpT a b)) ∧ w' = w := by
  have h1 := @run_callFunc_extern Tryz.prog 174 _ Extern.BytealgCompare.compare Tryz.func174 (by kernel_rfl) (by kernel_rfl) (by kernel_rfl) (by kernel_rfl)
  have hx : ∀ w, (callFunc 174 #[.string a, .string b]).run Tryz.prog w = .ok (.value (.int .i64 (cmpT a b))) w := fun w => by
    rw [h1, run_compareString]; rfl
  clear h1
  generalize cmpT a b = C at *
  go_enter Tryz.func171, Tryz.ntmps171
  go_wp2_with (simp only [hx])
  go_ret
  exact ⟨rfl, rfl⟩
theorem Compare_any (a b : ByteArray) (w : World) :
    Calls Tryz.prog 168 #[.string a, .string b] w fun e w' => e = .returned (.int .i64 (cmpT a b)) ∧ w' = w := by
  have c1 := CompareString_any a b
  generalize cmpT a b = C at *
  go_enter Tryz.func168, Tryz.ntmps168
  go_wp2_with (go_at_call 171; refine (c1 _).mono ?_; rintro e w1 ⟨rfl, rfl⟩)
  go_ret
  exact ⟨rfl, rfl⟩
theorem setCmp_any (a1 a2 b1 b2 : ByteArray) (w : World) :
    Calls Tryz.prog 167 #[.agg #[.string a1, .string a2], .agg #[.string b1, .string b2]] w fun e w' => e = .returned (.int .i64 (cmpT a1 b1)) ∧ Below w.heap.size w w' := by
  have c1 := Compare_any a1 b1
  generalize cmpT a1 b1 = C at *
  go_enter Tryz.func167, Tryz.ntmps167
  go_wp2_with (go_at_call 168; refine (c1 _).mono ?_; rintro e w1 ⟨rfl, rfl⟩)
  go_ret
  exact ⟨rfl, ((Below.refl _ _).alloc (Nat.le_refl _) _).alloc (by simp) _⟩
end Go.Proofs.YthggcdadipjiiaaGreatDoor

/-
  What slices.BinarySearchFunc answers at a row of pairs that rises by name: a contract over the seat's program.
-/
namespace Go.Proofs.YthggcdadipjiiaaGreatDoor
open Go.RowKit Go.Sort

/-- Is the name there? -/
def fndV (l : List Pr) (t : ByteArray) : Bool := match l[kV l t]? with | some p => decide (p.fst = t) | none => false
theorem fndV_at {l : List Pr} {t : ByteArray} (h : kV l t < l.length) : fndV l t = decide (l[kV l t].fst = t) := by unfold fndV; rw [List.getElem?_eq_getElem h]
theorem fndV_end {l : List Pr} {t : ByteArray} (h : ¬ kV l t < l.length) : fndV l t = false := by unfold fndV; rw [List.getElem?_eq_none (by omega)]
theorem cmp_lo {l : List Pr} {t : ByteArray} {j : Nat} (hj : j < kV l t) (h : j < l.length) : cmpT l[j].fst t < 0 := by
  have := cmpT_lt l[j].fst t
  rw [kV_lo (List.mem_take_iff_getElem.2 ⟨j, by omega, rfl⟩)] at this
  simpa using this
theorem cmp_hi {l : List Pr} (hr : Rise l) {t : ByteArray} {j : Nat} (hj : kV l t ≤ j) (h : j < l.length) : ¬ cmpT l[j].fst t < 0 := by
  have := cmpT_lt l[j].fst t
  rw [kV_hi hr hj h] at this
  simpa using this
set_option maxRecDepth 100000 in
set_option maxHeartbeats 2000000 in
theorem srchV_row (g o c : Nat) (l : List Pr) (v : Pr) (w : World) (hE : PrsAt w g o l) (hr : Rise l) (hn : l.length ≤ 1048576) :
    Calls Tryz.prog 166 #[.slice (some ⟨g, o, none⟩) l.length c, .agg #[.string v.fst, .string v.snd], .func (.func 167) #[] #[]] w fun e w' => e = .returned (.tuple #[.int .i64 (kV l v.fst : Nat), .bool (fndV l v.fst)]) ∧ Below w.heap.size w w' := by
  have mixed : Tryz.prog.follows .mixedOrders = true := by kernel_rfl
  have hkl := kV_le l v.fst
  have HLO := hid (fun j h1 h2 => cmp_lo (l := l) (t := v.fst) (j := j) h1 h2)
  have HHI := hid (fun j h1 h2 => cmp_hi hr (t := v.fst) (j := j) h1 h2)
  have HFA := hid (fun h => fndV_at (l := l) (t := v.fst) h)
  have HFE := hid (fun h => fndV_end (l := l) (t := v.fst) h)
  have HE := hid hE
  have hbW : Below w.heap.size w (w.alloc (.cells #[.string v.fst, .string v.snd] 138)) := (Below.refl _ _).alloc (Nat.le_refl _) _
  have d0 : (w.alloc (.cells #[.string v.fst, .string v.snd] 138)).cell? ⟨w.heap.size, 0, none⟩ = some (.string v.fst) := by simp [go_sem]
  have d1 : (w.alloc (.cells #[.string v.fst, .string v.snd] 138)).cell? ⟨w.heap.size, 1, none⟩ = some (.string v.snd) := by simp [go_sem]
  have HD := hid (And.intro d0 d1)
  have hsz : (w.alloc (.cells #[.string v.fst, .string v.snd] 138)).heap.size = w.heap.size + 1 := by simp
  have HBW := hid hbW
  clear hE hr d0 d1 hbW
  generalize kV l v.fst = K at *
  generalize fndV l v.fst = F at *
  generalize v.fst = v1 at *
  generalize v.snd = v2 at *
  go_enter Tryz.func166, Tryz.ntmps166
  go_wp2
  generalize w.alloc (.cells #[.string v1, .string v2] 138) = W at *
  go_loopw [9, 10] (fun i j wr => ∃ lo hi : Nat, i = .int .i64 lo ∧ j = .int .i64 hi ∧ lo ≤ K ∧ K ≤ hi ∧ hi ≤ l.length ∧ Below (w.heap.size + 1) W wr) (fun i j _ => (intOf j).toNat - (intOf i).toNat)
  case atStart => exact ⟨0, l.length, rfl, rfl, Nat.zero_le _, hkl, Nat.le_refl _, Below.refl _ _⟩
  case round =>
    obtain ⟨lo, hi, rfl, rfl, h1, h2, h3, hb⟩ := hrel
    have HB := hid hb
    have e0 := (hb.cell (p := ⟨w.heap.size, 0, none⟩) (by show w.heap.size < _; omega)).trans HD.out.1
    have e1 := (hb.cell (p := ⟨w.heap.size, 1, none⟩) (by show w.heap.size < _; omega)).trans HD.out.2
    have hzr := hb.size
    have hBr := hid (HBW.out.trans (hb.mono (B' := w.heap.size) (by omega)))
    clear hb
    by_cases hlt : lo < hi
    · have hm : (lo + hi) / 2 < l.length := by omega
      obtain ⟨c0, c1⟩ := (HE.out.stay hBr.out (Nat.le_refl _)).2 ((lo + hi) / 2) hm
      have HL := hid (fun h => HLO.out ((lo + hi) / 2) h hm)
      have HH := hid (fun h => HHI.out ((lo + hi) / 2) h hm)
      generalize hp1 : l[(lo + hi) / 2].fst = p1 at *
      generalize hp2 : l[(lo + hi) / 2].snd = p2 at *
      clear hp1 hp2
      have dC := hid (fun W' => setCmp_any p1 p2 v1 v2 W')
      have hbd : Below wr.heap.size wr wr.drew := (Below.refl _ _).drew
      have hsz0 : w.heap.size < wr.heap.size := by omega
      have hgl := block_lt_of_cell c0
      have hi0 : (0 : Int) ≤ ((lo : Int) + (hi : Int)) / 2 := by omega
      have hi1 : ((lo : Int) + (hi : Int)) / 2 < (l.length : Int) := by omega
      have hi2 : (((lo : Int) + (hi : Int)) / 2).toNat = (lo + hi) / 2 := by omega
      by_cases hc : cmpT p1 v1 < 0
      · have hK : (lo + hi) / 2 < K := by
          rcases Nat.lt_or_ge ((lo + hi) / 2) K with h | h
          · exact h
          · have := HH.out h; omega
        clear HL HH
        generalize cmpT p1 v1 = C at *
        go_wp2
        go_region_held3 (fun w' => w'.cell? ⟨w.heap.size, 0, none⟩ = some (.string v1) ∧ w'.cell? ⟨w.heap.size, 1, none⟩ = some (.string v2) ∧ w'.cell? ⟨g, o + (lo + hi) / 2 * 2, none⟩ = some (.string p1) ∧ w'.cell? ⟨g, o + (lo + hi) / 2 * 2 + 1, none⟩ = some (.string p2)) (go_keep) (first | (go_at_call 167; refine (dC.out _).mono ?_; rintro e w1 ⟨rfl, hb1⟩; have k0 := (hb1.cell (p := ⟨w.heap.size, 0, none⟩) hsz0).trans e0; have k1 := (hb1.cell (p := ⟨w.heap.size, 1, none⟩) hsz0).trans e1; have k2 := (hb1.cell (p := ⟨g, o + (lo + hi) / 2 * 2, none⟩) hgl).trans c0; have k3 := (hb1.cell (p := ⟨g, o + (lo + hi) / 2 * 2 + 1, none⟩) hgl).trans c1))
        have HB1 := hid (HB.out.trans ((hbd.trans (hb1.mono hbd.size)).mono (B' := w.heap.size + 1) (by omega)))
        clear hb1 k0 k1 k2 k3 e0 e1 c0 c1 dC
        go_wp2
        go_roundw
        case rel => exact ⟨(lo + hi) / 2 + 1, hi, by go_num, rfl, by omega, h2, h3, HB1.out⟩
        case measure => simp [intOf]; omega
      · have hK : K ≤ (lo + hi) / 2 := by
          rcases Nat.lt_or_ge ((lo + hi) / 2) K with h | h
          · have := HL.out h; omega
          · exact h
        have hc' : 0 ≤ cmpT p1 v1 := by omega
        clear HL HH hc
        generalize cmpT p1 v1 = C at *
        go_wp2
        go_region_held3 (fun w' => w'.cell? ⟨w.heap.size, 0, none⟩ = some (.string v1) ∧ w'.cell? ⟨w.heap.size, 1, none⟩ = some (.string v2) ∧ w'.cell? ⟨g, o + (lo + hi) / 2 * 2, none⟩ = some (.string p1) ∧ w'.cell? ⟨g, o + (lo + hi) / 2 * 2 + 1, none⟩ = some (.string p2)) (go_keep) (first | (go_at_call 167; refine (dC.out _).mono ?_; rintro e w1 ⟨rfl, hb1⟩; have k0 := (hb1.cell (p := ⟨w.heap.size, 0, none⟩) hsz0).trans e0; have k1 := (hb1.cell (p := ⟨w.heap.size, 1, none⟩) hsz0).trans e1; have k2 := (hb1.cell (p := ⟨g, o + (lo + hi) / 2 * 2, none⟩) hgl).trans c0; have k3 := (hb1.cell (p := ⟨g, o + (lo + hi) / 2 * 2 + 1, none⟩) hgl).trans c1))
        have HB1 := hid (HB.out.trans ((hbd.trans (hb1.mono hbd.size)).mono (B' := w.heap.size + 1) (by omega)))
        clear hb1 k0 k1 k2 k3 e0 e1 c0 c1 dC
        go_wp2
        go_roundw
        case rel => exact ⟨lo, (lo + hi) / 2, rfl, by go_num, h1, hK, by omega, HB1.out⟩
        case measure => simp [intOf]; omega
    · obtain rfl : lo = K := by omega
      by_cases hKl : lo < l.length
      · obtain ⟨c0, c1⟩ := (HE.out.stay hBr.out (Nat.le_refl _)).2 lo hKl
        have HFx := hid (HFA.out hKl)
        generalize hp1 : l[lo].fst = p1 at *
        generalize hp2 : l[lo].snd = p2 at *
        clear hp1 hp2
        have HZ := hid (cmpT_zero (a := p1) (b := v1))
        have dC := hid (fun W' => setCmp_any p1 p2 v1 v2 W')
        have hbd : Below wr.heap.size wr wr.drew := (Below.refl _ _).drew
        have hsz0 : w.heap.size < wr.heap.size := by omega
        have hgl := block_lt_of_cell c0
        generalize cmpT p1 v1 = C at *
        go_wp2
        go_region_held3 (fun w' => w'.cell? ⟨w.heap.size, 0, none⟩ = some (.string v1) ∧ w'.cell? ⟨w.heap.size, 1, none⟩ = some (.string v2) ∧ w'.cell? ⟨g, o + lo * 2, none⟩ = some (.string p1) ∧ w'.cell? ⟨g, o + lo * 2 + 1, none⟩ = some (.string p2)) (go_keep) (first | (go_at_call 167; refine (dC.out _).mono ?_; rintro e w1 ⟨rfl, hb1⟩; have k0 := (hb1.cell (p := ⟨w.heap.size, 0, none⟩) hsz0).trans e0; have k1 := (hb1.cell (p := ⟨w.heap.size, 1, none⟩) hsz0).trans e1; have k2 := (hb1.cell (p := ⟨g, o + lo * 2, none⟩) hgl).trans c0; have k3 := (hb1.cell (p := ⟨g, o + lo * 2 + 1, none⟩) hgl).trans c1))
        have HB1 := hid (hBr.out.trans ((hbd.trans (hb1.mono hbd.size)).mono (B' := w.heap.size) (by omega)))
        clear hb1 k0 k1 k2 k3 e0 e1 c0 c1 dC
        go_wp2
        have hF : (C == 0) = F := by
          rw [HFx.out]
          by_cases h : C = 0
          · simp [h, HZ.out.1 h]
          · have h' : ¬ p1 = v1 := fun e => h (HZ.out.2 e)
            simp [h, h']
        rw [hF]
        go_ret2
        exact ⟨rfl, HB1.out⟩
      · have HFx := hid (HFE.out hKl)
        go_wp2
        refine wp_region_quiet_below mixed (by kernel_rfl) ?_
        repeat (go_big_quiet_step (fail))
        refine wpQuiet_nil ?_
        intro U hw'
        have HRq := hid (show Below wr.heap.size wr U by obtain ⟨⟨dq, osq⟩, hw''⟩ := hw'; subst hw''; exact below_regrown wr dq osq)
        clear hw' e0 e1
        go_wp2
        have hF := HFx.out
        subst hF
        go_ret2
        exact ⟨rfl, hBr.out.trans (HRq.out.mono hBr.out.size)⟩
theorem srchV_any (a : Option Addr) (c : Nat) (l : List Pr) (v : Pr) (w : World) (h : PrSl w (.slice a l.length c) l) (hr : Rise l) (hn : l.length ≤ 1048576) :
    Calls Tryz.prog 166 #[.slice a l.length c, .agg #[.string v.fst, .string v.snd], .func (.func 167) #[] #[]] w fun e w' => e = .returned (.tuple #[.int .i64 (kV l v.fst : Nat), .bool (fndV l v.fst)]) ∧ Below w.heap.size w w' := by
  rcases h with ⟨a', c', hv, rfl⟩ | ⟨g, o, c', hv, _, hP⟩
  · have hbW : Below w.heap.size w (w.alloc (.cells #[.string v.fst, .string v.snd] 138)) := (Below.refl _ _).alloc (Nat.le_refl _) _
    have HBW := hid hbW
    have mixed : Tryz.prog.follows .mixedOrders = true := by kernel_rfl
    have HF := hid (show fndV [] v.fst = false from rfl)
    have HK := hid (show kV [] v.fst = 0 from rfl)
    clear hbW
    generalize fndV [] v.fst = F at *
    generalize kV [] v.fst = K at *
    generalize v.fst = v1 at *
    generalize v.snd = v2 at *
    go_enter Tryz.func166, Tryz.ntmps166
    go_wp2
    generalize w.alloc (.cells #[.string v1, .string v2] 138) = W at *
    go_loopw [9, 10] (fun i j wr => i = .int .i64 0 ∧ j = .int .i64 0 ∧ wr = W) (fun _ _ _ => 0)
    case atStart => exact ⟨rfl, rfl, rfl⟩
    case round =>
      obtain ⟨rfl, rfl, rfl⟩ := hrel
      go_wp2
      refine wp_region_quiet_below mixed (by kernel_rfl) ?_
      repeat (go_big_quiet_step (fail))
      refine wpQuiet_nil ?_
      intro U hw'
      have HRq := hid (show Below wr.heap.size wr U by obtain ⟨⟨dq, osq⟩, hw''⟩ := hw'; subst hw''; exact below_regrown wr dq osq)
      clear hw'
      go_wp2
      go_ret2
      exact ⟨by rw [HF.out, HK.out]; rfl, HBW.out.trans (HRq.out.mono HBW.out.size)⟩
  · injection hv with h1 h2 h3
    subst h1; subst h3
    exact srchV_row g o c l v w hP hr hn
end Go.Proofs.YthggcdadipjiiaaGreatDoor
