/-
  Texts put together: InsG, InsO, Cmp.
-/
import Derived.Test.YtdggmeblnbabbaaGreatDoorZCopyN2
import Derived.Test.YtdggmeblnbabbaaGreatDoorZDfMath5
import Derived.Lib.Bytealg
/-
  What slices.Insert does at a row of pairs of one's own where it makes a new row, and at its end: contracts over the seat's program.
-/
namespace Go.Proofs.YtdggmeblnbabbaaGreatDoor
open Go.RowKit Go.Sort

theorem splice_ins2 {α : Type} (R A X B : List α) (hA : R.take A.length = A) (hl : A.length + X.length + B.length ≤ R.length) : (splice (splice R A.length X) (A.length + X.length) B).take (A.length + X.length + B.length) = A ++ X ++ B := by
  have e1 : (splice R A.length X).take (A.length + X.length) = A ++ X := by
    unfold splice
    rw [hA, ← List.append_assoc, List.take_append_of_le_length (by simp), List.take_of_length_le (by simp)]
  have e2 : (splice R A.length X).length = R.length := length_splice _ _ _ (by omega)
  generalize splice R A.length X = C at e1 e2
  unfold splice
  rw [e1, ← List.append_assoc, List.take_append_of_le_length (by simp; omega), List.take_of_length_le (by simp; omega)]
set_option maxRecDepth 100000 in
set_option maxHeartbeats 2000000 in
theorem insV_grow (g c k vb : Nat) (cur : List Value) (l : List Pr) (v : Pr) (w : World) (hk : k < l.length) (hroom : c < l.length + 1) (hnc : l.length ≤ c) (hn : l.length ≤ 1000) (hg : w.heap[g]? = some (.cells cur.toArray 58 (0, 0))) (hct : cur.take (l.length * 2) = l.flatMap Pr.cells) (hv : w.heap[vb]? = some (.cells #[.string v.fst, .string v.snd] 58 (0, 0))) :
    Calls Tryz.prog 89 #[.slice (some ⟨g, 0, none⟩) l.length c, .int .i64 k, .slice (some ⟨vb, 0, none⟩) 1 1] w fun e w' => ∃ G, e = .returned (.slice (some ⟨w.heap.size, 0, none⟩) (l.length + 1) G) ∧ w'.ownsRow w.heap.size 58 2 (.slice (some ⟨w.heap.size, 0, none⟩) (l.length + 1) G) (l.length + 1) ((l.take k ++ [v] ++ l.drop k).flatMap Pr.cells) ∧ Below w.heap.size w w' := by
  obtain ⟨j0, hj, hj0, hj1, hj2⟩ := info_parts Tryz.infoVar
  have hsz : (Tryz.prog.info? 58).map (·.size) = some 2 := by rw [hj]; simp [hj1]
  obtain ⟨A, hA⟩ : ∃ A : List Value, A = (l.take k).flatMap Pr.cells := ⟨_, rfl⟩
  have hAl : A.length = k * 2 := by rw [hA, pflat_len, List.length_take]; omega
  have hAc : ∀ j u, A[j]? = some u → w.cell? ⟨g, j, none⟩ = some u := fun j u hj => by
    rw [hA, flat_take2, ← hct, List.getElem?_take, List.getElem?_take] at hj
    split at hj
    · split at hj
      · rw [Lib.cell_of_heap hg]; simpa using hj
      · cases hj
    · cases hj
  have hold : (Builtin.firstCells j0.size k (.slice (some ⟨g, 0, none⟩) k c)).run Tryz.prog w.drew = .ok A.toArray w.drew := by
    rw [hj1]
    exact run_firstCells_some w.drew 2 k ⟨g, 0, none⟩ k c A hAl (fun j u hj => by rw [Addr.add_lit, Nat.zero_add]; exact hAc j u hj)
  have hkk : (l.length : Int) + 1 - (k : Int) = ((l.length + 1 - k : Nat) : Int) := by omega
  have hik : k + (l.length + 1 - k) = l.length + 1 := by omega
  have hrz : ∀ ty, (Builtin.append_ #[27, 3] ty #[.slice (some ⟨g, 0, none⟩) k c, .int .i64 ((l.length : Int) + 1 - (k : Int))]).run Tryz.prog w = .ok (.slice (some ⟨w.heap.size, 0, none⟩) (l.length + 1) (grownCap w (l.length + 1) c 58)) (w.drew.alloc (.cells (A.toArray ++ Builtin.zeroCells (Value.agg #[.string ⟨#[]⟩, .string ⟨#[]⟩]).cells (l.length + 1 - k) ++ Builtin.zeroCells (Value.agg #[.string ⟨#[]⟩, .string ⟨#[]⟩]).cells (grownCap w (l.length + 1) c 58 - (l.length + 1))) 58)) := fun ty => by
    have h := Lib.run_append_grow_zeros (P := Tryz.prog) w 27 3 ty 58 j0 _ .i64 .i64 Tryz.underlying27 Tryz.underlying3 hj hj0 (some ⟨g, 0, none⟩) k c A hold (l.length + 1 - k) (by omega) (by omega) (by omega) (by omega) (by rw [hj2]; omega) (by rw [hj2, hik]; exact growslice_fits hroom (by omega))
    rw [hik] at h
    rw [hkk]
    exact h
  have hGn : l.length + 1 ≤ grownCap w (l.length + 1) c 58 := grownCap_ge w _ _ _
  have hG63 := grownCap_le_maxLen w (l.length + 1) c 58 (by unfold maxLen; omega)
  generalize grownCap w (l.length + 1) c 58 = G at *
  obtain ⟨R, hR⟩ : ∃ R : List Value, R.toArray = A.toArray ++ Builtin.zeroCells (Value.agg #[.string ⟨#[]⟩, .string ⟨#[]⟩]).cells (l.length + 1 - k) ++ Builtin.zeroCells (Value.agg #[.string ⟨#[]⟩, .string ⟨#[]⟩]).cells (G - (l.length + 1)) := ⟨_, Array.toArray_toList⟩
  have hRl : R.length = G * 2 := by
    have := congrArg Array.size hR
    simp [Builtin.zeroCells, Value.cells, hAl] at this
    omega
  have hRA : R.take A.length = A := by
    have := congrArg Array.toList hR
    rw [List.toList_toArray] at this
    rw [this, Array.toList_append, Array.toList_append, List.append_assoc, List.toList_toArray, List.take_left]
  rw [← hR] at hrz
  obtain ⟨CS, hCS⟩ : ∃ CS : List Value, CS = (l.drop k).flatMap Pr.cells := ⟨_, rfl⟩
  have HL := hid (show CS.length = (l.length - k) * 2 by rw [hCS, pflat_len, List.length_drop])
  have H1 := hid (show ∀ u ∈ CS, u.oneCell' = true by rw [hCS]; exact prs_one _)
  have HSrc := hid (show ∀ j u, CS[j]? = some u → w.cell? ⟨g, k * 2 + j, none⟩ = some u from fun j u hj => by
    rw [hCS, flat_drop2, ← hct, List.getElem?_drop, List.getElem?_take] at hj
    split at hj
    · rw [Lib.cell_of_heap hg]
      simpa using hj
    · cases hj)
  have hX : v.cells.length = 2 := rfl
  have HFin := hid (show (splice (splice R (k * 2) v.cells) ((k + 1) * 2) CS).take ((l.length + 1) * 2) = (l.take k ++ [v] ++ l.drop k).flatMap Pr.cells by
    have hB : CS.length = (l.length - k) * 2 := HL.out
    have := splice_ins2 R A v.cells CS hRA (by rw [hAl, hB, hX]; omega)
    rw [hAl, hB, hX] at this
    rw [show (k + 1) * 2 = k * 2 + 2 by omega, show (l.length + 1) * 2 = k * 2 + 2 + (l.length - k) * 2 by omega, this, hCS, hA]
    simp)
  have hfit1 : k * 2 + v.cells.length ≤ R.length := by rw [hX]; omega
  have hl1 : (splice R (k * 2) v.cells).length = R.length := length_splice _ _ _ hfit1
  have hfit2 : (k + 1) * 2 + CS.length ≤ (splice R (k * 2) v.cells).length := by rw [hl1]; have := HL.out; omega
  have HLen := hid (show (splice (splice R (k * 2) v.cells) ((k + 1) * 2) CS).length = G * 2 by rw [length_splice _ _ _ hfit2, hl1, hRl])
  have HB0 := hid (show Below w.heap.size w (w.drew.alloc (.cells R.toArray 58)) from (Below.refl _ _).drew.alloc (Nat.le_refl _) _)
  have HG0 := hid (show (w.drew.alloc (.cells R.toArray 58)).heap[w.heap.size]? = some (.cells R.toArray 58 (0, 0)) by show (w.heap.push _)[w.heap.size]? = _; simp)
  have hgl := lt_heap hg
  have hvl := lt_heap hv
  have HV := hid hv
  have hb2 : ¬ (c = k) := by omega
  have hb4 : ¬ (G = k) := by omega
  have hb5 : ¬ (k = l.length) := by omega
  have hb6 : ¬ (G = k + 1) := by omega
  have hw1 : IntKind.i64.wrap ((k : Int) + 1) = (k : Int) + 1 := by rw [IntKind.wrap_i64]; omega
  have hw2 : IntKind.i64.wrap ((l.length : Int) + 1) = (l.length : Int) + 1 := by rw [IntKind.wrap_i64]; omega
  have ht1 : ((k : Int) + 1).toNat = k + 1 := by omega
  have hp0 : (0 : Int) ≤ (k : Int) + 1 := by omega
  have hp1 : (k : Int) ≤ (l.length : Int) := by omega
  have hp2 : (k : Int) ≤ (l.length : Int) + 1 := by omega
  have hp3 : k ≤ l.length := by omega
  have hcc : (c : Int) < (l.length : Int) + 1 := by omega
  unfold maxLen at hG63
  have hGm := hid hG63
  clear hkk hik hold hR hA hAc hCS hRA hg hv hct hl1 hj0 hj1 hj2 hj
  go_enter Tryz.func89, Tryz.ntmps89
  have HSv := hid (show ∀ j u, v.cells[j]? = some u → (w.drew.alloc (.cells R.toArray 58)).cell? ((⟨vb, 0, none⟩ : Addr).add j) = some u from fun j u hj => by
    have hv1 : (w.drew.alloc (.cells R.toArray 58)).heap[vb]? = some (.cells #[.string v.fst, .string v.snd] 58 (0, 0)) := (HB0.out.block vb hvl).trans HV.out
    rw [Addr.add_lit, Nat.zero_add, Lib.cell_of_heap hv1]
    simpa [Pr.cells] using hj)
  have H1v := hid (show ∀ u ∈ v.cells, u.oneCell' = true from fun u hu => prs_one [v] u (by simpa using hu))
  go_wp2_with (first | (at_builtin; refine Lib.wpList_append_run _ rfl _ _ _ _ rfl _ _ rfl rfl _ _ (hrz _) ?_) | (refine wpList_copyN rfl (.tmp 43) (.tmp 44) 27 27 rfl 58 2 1 Tryz.underlying27 hsz w.heap.size (k * 2) _ _ ⟨vb, 0, none⟩ 1 1 rfl rfl R 58 HG0.out v.cells ?d1 rfl HSv.out hfit1 H1v.out ?_) | fail)
  case d1 => simp only [Nat.min_def]; split <;> omega
  intro W1 HG1 HW1
  have HB1 := hid (show Below w.heap.size w W1 from HB0.out.grown HW1.out HB0.out.size (fun j hj => by injection hj with hj; omega))
  have HSr2 := hid (show ∀ j u, CS[j]? = some u → W1.drew.cell? ((⟨g, k * 2, none⟩ : Addr).add j) = some u from fun j u hj => by
    rw [Addr.add_lit]
    exact (HB1.out.cell (p := ⟨g, k * 2 + j, none⟩) hgl).trans (HSrc.out j u hj))
  clear HW1 HSv HSrc
  go_wp2
  go_region_law (first | (refine step_copyN rfl (.tmp 50) (.tmp 53) 27 27 rfl 58 2 (l.length - k) Tryz.underlying27 hsz w.heap.size ((k + 1) * 2) (l.length + 1 - (k + 1)) (G - (k + 1)) ⟨g, k * 2, none⟩ (l.length - k) (c - k) (by simp [Act.eval, Act.put]) (by simp [Act.eval, Act.put]) (splice R (k * 2) v.cells) 58 HG1.out CS (by simp only [Nat.min_def]; split <;> omega) HL.out HSr2.out hfit2 H1.out ?_; intro W2 HG2 HW2))
  have HB2 := hid (show Below w.heap.size w W2 from HB1.out.drew.grown HW2.out HB1.out.size (fun j hj => by injection hj with hj; omega))
  clear HW2
  go_wp2
  go_ret
  exact ⟨G, rfl, ⟨by rw [pflat_len]; simp; omega, .inr ⟨w.heap.size, G, _, rfl, Nat.le_refl _, HG2.out, hGn, hGm.out, by simpa using HLen.out, by simpa using HFin.out⟩⟩, HB2.out⟩
end Go.Proofs.YtdggmeblnbabbaaGreatDoor

/-
  What slices.Insert does at every row of pairs of one's own: a contract over the seat's program.
-/
namespace Go.Proofs.YtdggmeblnbabbaaGreatDoor
open Go.RowKit Go.Sort

set_option maxRecDepth 100000 in
set_option maxHeartbeats 2000000 in
theorem insV_end (base vb : Nat) (a : Option Addr) (c : Nat) (l : List Pr) (v : Pr) (w : World) (h : w.ownsRow base 58 2 (.slice a l.length c) l.length (l.flatMap Pr.cells)) (hn : l.length ≤ 1000) (hb : base ≤ w.heap.size) (hv : w.heap[vb]? = some (.cells #[.string v.fst, .string v.snd] 58 (0, 0))) :
    Calls Tryz.prog 89 #[.slice a l.length c, .int .i64 l.length, .slice (some ⟨vb, 0, none⟩) 1 1] w fun e w' => ∃ a' c', e = .returned (.slice a' (l.length + 1) c') ∧ w'.ownsRow base 58 2 (.slice a' (l.length + 1) c') (l.length + 1) (l.flatMap Pr.cells ++ v.cells) ∧ w.grownBy w' (Value.slice a l.length c).ownBlock := by
  obtain ⟨j0, hj, hj0, hj1, hj2⟩ := info_parts Tryz.infoVar
  have HO := hid h
  have HSv := hid (show ∀ j u, v.cells[j]? = some u → w.cell? ((⟨vb, 0, none⟩ : Addr).add j) = some u from fun j u hj => by
    rw [Addr.add_lit, Nat.zero_add, Lib.cell_of_heap hv]
    simpa [Pr.cells] using hj)
  have H1v := hid (show ∀ u ∈ v.cells, u.oneCell' = true from fun u hu => prs_one [v] u (by simpa using hu))
  have key : ∀ P : Prop, P → P := fun _ h => h
  rcases h.2 with ⟨hv0, h0⟩ | ⟨g, cap, cur, hv0, _, _, hle, hcm, _⟩
  · injection hv0 with e1 _ e3
    subst e1; subst e3
    have hl : l = [] := List.eq_nil_of_length_eq_zero h0
    subst hl
    clear h hv h0 key
    go_enter Tryz.func89, Tryz.ntmps89
    go_wp2_with (first | (at_builtin; refine wpList_append_own _ rfl _ _ 27 rfl base 58 j0 _ 2 32 Tryz.underlying27 hj hj0 hj1 hj2 rfl (by decide) _ _ _ rfl HO.out ⟨vb, 0, none⟩ 1 1 v.cells rfl rfl HSv.out H1v.out ?c3 ?c4 hb ?_) | fail)
    case c3 => unfold maxLen; simp
    case c4 => simp
    intro v1 w1 ho1 hg1 _
    obtain ⟨a', c', rfl⟩ := ownB_form ho1
    have HO1 := hid ho1
    have HG1 := hid hg1
    clear ho1 hg1
    go_wp2
    go_ret
    exact ⟨a', c', rfl, HO1.out, HG1.out⟩
  · injection hv0 with e1 _ e3
    subst e1; subst e3
    clear h hv key
    unfold maxLen at hcm
    by_cases hcl : c = l.length
    · subst hcl
      go_enter Tryz.func89, Tryz.ntmps89
      go_wp2_with (first | (at_builtin; refine wpList_append_own _ rfl _ _ 27 rfl base 58 j0 _ 2 32 Tryz.underlying27 hj hj0 hj1 hj2 rfl (by decide) _ _ _ rfl HO.out ⟨vb, 0, none⟩ 1 1 v.cells rfl rfl HSv.out H1v.out ?c3 ?c4 hb ?_) | fail)
      case c3 => unfold maxLen; omega
      case c4 => omega
      intro v1 w1 ho1 hg1 _
      obtain ⟨a', c', rfl⟩ := ownB_form ho1
      have HO1 := hid ho1
      have HG1 := hid hg1
      clear ho1 hg1
      go_wp2
      go_ret
      exact ⟨a', c', rfl, HO1.out, HG1.out⟩
    · go_enter Tryz.func89, Tryz.ntmps89
      go_wp2_with (first | (at_builtin; refine wpList_append_own _ rfl _ _ 27 rfl base 58 j0 _ 2 32 Tryz.underlying27 hj hj0 hj1 hj2 rfl (by decide) _ _ _ rfl HO.out ⟨vb, 0, none⟩ 1 1 v.cells rfl rfl HSv.out H1v.out ?c3 ?c4 hb ?_) | fail)
      case c3 => unfold maxLen; omega
      case c4 => omega
      intro v1 w1 ho1 hg1 _
      obtain ⟨a', c', rfl⟩ := ownB_form ho1
      have HO1 := hid ho1
      have HG1 := hid hg1
      clear ho1 hg1
      go_wp2
      go_ret
      exact ⟨a', c', rfl, HO1.out, HG1.out⟩
/-- Wherever it is put in. -/
theorem insV_own (base vb k : Nat) (a : Option Addr) (c : Nat) (l : List Pr) (v : Pr) (w : World) (h : w.ownsRow base 58 2 (.slice a l.length c) l.length (l.flatMap Pr.cells)) (hk : k ≤ l.length) (hn : l.length ≤ 1000) (hb : base ≤ w.heap.size) (hv : w.heap[vb]? = some (.cells #[.string v.fst, .string v.snd] 58 (0, 0))) (hne : ∀ g, (Value.slice a l.length c).ownBlock = some g → vb ≠ g) :
    Calls Tryz.prog 89 #[.slice a l.length c, .int .i64 k, .slice (some ⟨vb, 0, none⟩) 1 1] w fun e w' => ∃ a' c', e = .returned (.slice a' (l.length + 1) c') ∧ w'.ownsRow base 58 2 (.slice a' (l.length + 1) c') (l.length + 1) ((l.take k ++ [v] ++ l.drop k).flatMap Pr.cells) ∧ w.grownBy w' (Value.slice a l.length c).ownBlock := by
  by_cases hkl : k = l.length
  · subst hkl
    refine (insV_end base vb a c l v w h hn hb hv).mono ?_
    rintro e w' ⟨a', c', he, ho, hg⟩
    refine ⟨a', c', he, ?_, hg⟩
    have : (l.take l.length ++ [v] ++ l.drop l.length).flatMap Pr.cells = l.flatMap Pr.cells ++ v.cells := by simp
    rw [this]; exact ho
  · rcases h.2 with ⟨hv0, h0⟩ | ⟨g, cap, cur, hv0, hbg, hh, hle, hcm, hcs, hct⟩
    · omega
    · injection hv0 with e1 _ e3
      subst e1; subst e3
      have hh' : w.heap[g]? = some (.cells cur.toList.toArray 58 (0, 0)) := by simpa using hh
      by_cases hr : l.length + 1 ≤ c
      · refine (insV_shift g c k vb cur.toList l v w (by omega) hr hcm hh' (by simpa using hcs) hct hv (hne g rfl)).mono ?_
        rintro e w' ⟨he, ⟨cur', h1, h2, h3⟩, hg⟩
        refine ⟨_, _, he, ⟨?_, .inr ⟨g, c, cur'.toArray, rfl, hbg, h1, hr, hcm, by simpa using h2, by simpa using h3⟩⟩, hg⟩
        rw [pflat_len]; simp; omega
      · refine (insV_grow g c k vb cur.toList l v w (by omega) (by omega) hle hn hh' hct hv).mono ?_
        rintro e w' ⟨G, he, ho, hb'⟩
        exact ⟨_, _, he, ownB_le ho hb, grown_below hb'⟩
end Go.Proofs.YtdggmeblnbabbaaGreatDoor

/-
  What strings.Compare and the closure of impl.stand's method set answer: contracts over the seat's program.
-/
namespace Go.Proofs.YtdggmeblnbabbaaGreatDoor
open Go.RowKit Go.Lib

theorem cmp_less : ∀ a b : List UInt8, decide (compareBytes a b < 0) = Op.bytesLess a b
  | [], [] => rfl
  | [], _ :: _ => rfl
  | _ :: _, [] => rfl
  | x :: a, y :: b => by
    have ih := cmp_less a b
    unfold compareBytes Op.bytesLess
    by_cases h1 : x < y
    · simp [h1]
    · by_cases h2 : y < x
      · have : ¬ x = y := fun e => by subst e; exact h1 h2
        simp [h1, h2, this]
      · have : x = y := UInt8.le_antisymm (UInt8.not_lt.1 h2) (UInt8.not_lt.1 h1)
        subst this
        simp [h1, ih]
theorem cmp_zero : ∀ a b : List UInt8, compareBytes a b = 0 ↔ a = b
  | [], [] => by simp [compareBytes]
  | [], _ :: _ => by simp [compareBytes]
  | _ :: _, [] => by simp [compareBytes]
  | x :: a, y :: b => by
    have ih := cmp_zero a b
    unfold compareBytes
    by_cases h1 : x < y
    · have : ¬ x = y := fun e => by subst e; exact UInt8.lt_irrefl _ h1
      simp [h1, this]
    · by_cases h2 : y < x
      · have : ¬ x = y := fun e => by subst e; exact h1 h2
        simp [h1, h2, this]
      · have : x = y := UInt8.le_antisymm (UInt8.not_lt.1 h2) (UInt8.not_lt.1 h1)
        subst this
        simp [h1, ih]
/-- The order of two texts, as a number. -/
def cmpT (a b : ByteArray) : Int := compareBytes a.data.toList b.data.toList
theorem cmpT_lt (a b : ByteArray) : decide (cmpT a b < 0) = lt a b := by
  unfold cmpT lt
  rw [cmp_less, ByteArray.toList_eq, ByteArray.toList_eq]
theorem cmpT_zero {a b : ByteArray} : cmpT a b = 0 ↔ a = b := by
  unfold cmpT
  rw [cmp_zero]
  exact ⟨fun h => ByteArray.ext (Array.toList_inj.1 h), fun h => by rw [h]⟩
theorem CompareString_any (a b : ByteArray) (w : World) :
    Calls Tryz.prog 94 #[.string a, .string b] w fun e w' => e = .returned (.int .i64 (cmpT a b)) ∧ w' = w := by
  have h1 := @run_callFunc_extern Tryz.prog 101 _ Extern.BytealgCompare.compare Tryz.func101 (by kernel_rfl) (by kernel_rfl) (by kernel_rfl) (by kernel_rfl)
  have hx : ∀ w, (callFunc 101 #[.string a, .string b]).run Tryz.prog w = .ok (.value (.int .i64 (cmpT a b))) w := fun w => by
    rw [h1, run_compareString]; rfl
  clear h1
  generalize cmpT a b = C at *
  go_enter Tryz.func94, Tryz.ntmps94
  go_wp2_with (simp only [hx])
  go_ret
  exact ⟨rfl, rfl⟩
theorem Compare_any (a b : ByteArray) (w : World) :
    Calls Tryz.prog 88 #[.string a, .string b] w fun e w' => e = .returned (.int .i64 (cmpT a b)) ∧ w' = w := by
  have c1 := CompareString_any a b
  generalize cmpT a b = C at *
  go_enter Tryz.func88, Tryz.ntmps88
  go_wp2_with (go_at_call 94; refine (c1 _).mono ?_; rintro e w1 ⟨rfl, rfl⟩)
  go_ret
  exact ⟨rfl, rfl⟩
theorem setCmp_any (a1 a2 b1 b2 : ByteArray) (w : World) :
    Calls Tryz.prog 87 #[.agg #[.string a1, .string a2], .agg #[.string b1, .string b2]] w fun e w' => e = .returned (.int .i64 (cmpT a1 b1)) ∧ Below w.heap.size w w' := by
  have c1 := Compare_any a1 b1
  generalize cmpT a1 b1 = C at *
  go_enter Tryz.func87, Tryz.ntmps87
  go_wp2_with (go_at_call 88; refine (c1 _).mono ?_; rintro e w1 ⟨rfl, rfl⟩)
  go_ret
  exact ⟨rfl, ((Below.refl _ _).alloc (Nat.le_refl _) _).alloc (by simp) _⟩
end Go.Proofs.YtdggmeblnbabbaaGreatDoor
