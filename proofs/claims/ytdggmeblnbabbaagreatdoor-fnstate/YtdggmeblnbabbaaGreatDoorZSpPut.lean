/-
  What spec.l03Put answers: a text put among others, in a new row: a contract over the seat's program.
-/
import Derived.Test.YtdggmeblnbabbaaGreatDoorZDfMath5
import Derived.Test.YtdggmeblnbabbaaGreatDoorZOwnB7
import Derived.Test.YtdggmeblnbabbaaGreatDoorZBsIn6
import Derived.Lib.QuietBelow
import Derived.Laws.AppendOwnNone
import Derived.Maps.AppendAt
namespace Go.Proofs.YtdggmeblnbabbaaGreatDoor
open Go.RowKit Go.Sort

/-- Is a no greater than b? -/
def leT (a b : ByteArray) : Bool := Op.bytesLess a.toList b.toList || a.toList == b.toList
/-- How many texts at the head are no greater than t. -/
def kI (l : List ByteArray) (t : ByteArray) : Nat := (l.takeWhile (leT · t)).length
def putT (l : List ByteArray) (t : ByteArray) : List ByteArray := l.take (kI l t) ++ [t] ++ l.drop (kI l t)
theorem kI_is {l : List ByteArray} {t : ByteArray} {k : Nat} (hk : k ≤ l.length) (h1 : ∀ j, j < k → (h : j < l.length) → leT l[j] t = true) (h2 : (h : k < l.length) → leT l[k] t = false) : kI l t = k := by
  unfold kI
  have e : l.takeWhile (leT · t) = l.take k := by
    conv => lhs; rw [← List.take_append_drop k l]
    rw [List.takeWhile_append_of_pos (fun a ha => by
      obtain ⟨j, hj, rfl⟩ := List.mem_take_iff_getElem.1 ha
      exact h1 j (by omega) (by omega))]
    by_cases hlt : k < l.length
    · rw [List.drop_eq_getElem_cons hlt, List.takeWhile_cons_of_neg (by rw [h2 hlt]; simp)]; simp
    · rw [List.drop_eq_nil_of_le (by omega)]; simp
  rw [e, List.length_take]; omega
theorem own_made (w : World) (T : TypeId) : (w.alloc (.cells #[] T)).ownsRow w.heap.size T 1 (.slice (some ⟨w.heap.size, 0, none⟩) 0 0) 0 [] :=
  ⟨rfl, .inr ⟨w.heap.size, 0, #[], rfl, Nat.le_refl _, by show (w.heap.push (Obj.cells #[] T))[w.heap.size]? = some _; simp, Nat.le_refl _, Nat.zero_le _, rfl, rfl⟩⟩
theorem strs_cells_from {w : World} {g o : Nat} {l : List ByteArray} (h : StrsAt w g o l) (k : Nat) : ∀ j u, ((l.drop k).map Value.string)[j]? = some u → w.cell? ((⟨g, o + k, none⟩ : Addr).add j) = some u := by
  intro j u hj
  rw [Addr.add_lit]
  rw [List.getElem?_map, List.getElem?_drop] at hj
  obtain ⟨s, hs, rfl⟩ := Option.map_eq_some_iff.1 hj
  obtain ⟨hlt, rfl⟩ := List.getElem?_eq_some_iff.1 hs
  rw [Nat.add_assoc]; exact h.2 (k + j) hlt
theorem strs_cells_to {w : World} {g o : Nat} {l : List ByteArray} (h : StrsAt w g o l) (k : Nat) : ∀ j u, ((l.take k).map Value.string)[j]? = some u → w.cell? ((⟨g, o, none⟩ : Addr).add j) = some u := by
  intro j u hj
  rw [Addr.add_lit]
  rw [List.getElem?_map] at hj
  obtain ⟨s, hs, rfl⟩ := Option.map_eq_some_iff.1 hj
  obtain ⟨hlt, rfl⟩ := List.getElem?_eq_some_iff.1 hs
  rw [List.getElem_take]; exact h.2 j (by rw [List.length_take] at hlt; omega)
set_option maxRecDepth 100000 in
set_option maxHeartbeats 2000000 in
theorem l03Put_row (g o c : Nat) (l : List ByteArray) (t : ByteArray) (w : World) (hE : StrsAt w g o l) (hc : l.length ≤ c) (hn : l.length ≤ 1048576) :
    Calls Tryz.prog 62 #[.slice (some ⟨g, o, none⟩) l.length c, .string t] w fun e w' => ∃ a k, e = .returned (.slice a (putT l t).length k) ∧ w'.ownsRow w.heap.size 9 1 (.slice a (putT l t).length k) (putT l t).length ((putT l t).map Value.string) ∧ Below w.heap.size w w' := by
  obtain ⟨i0, hi, hz0, hz1, hz2⟩ := info_parts Tryz.infoStr
  have HE := hid hE
  clear hE
  go_enter Tryz.func62, Tryz.ntmps62
  go_wp2
  go_loop [5] (fun i => ∃ k : Nat, k ≤ l.length ∧ i = .int .i64 k ∧ ∀ j, j < k → (h : j < l.length) → leT l[j] t = true) (fun i => l.length - (intOf i).toNat)
  case atStart => exact ⟨0, Nat.zero_le _, rfl, fun j hj => absurd hj (by omega)⟩
  case round =>
    obtain ⟨k, hk, rfl, hall⟩ := hrel
    have HA := hid hall
    clear hall
    have fin : k ≤ c := by omega
    by_cases hlt : k < l.length
    · have c0 := HE.out.2 k hlt
      by_cases hb : Op.bytesLess l[k].toList t.toList = true
      · have HO := hid (show ∀ j, j < k + 1 → (h : j < l.length) → leT l[j] t = true from fun j hj h => by
          by_cases e : j = k
          · subst e; unfold leT; rw [hb]; rfl
          · exact HA.out j (by omega) h)
        generalize l[k] = q at *
        go_wp2
        go_round
        case rel => exact ⟨k + 1, by omega, by go_num, HO.out⟩
        case measure => simp [intOf]; omega
      · have hb' : Op.bytesLess l[k].toList t.toList = false := by simpa using hb
        by_cases he : l[k] = t
        · have HO := hid (show ∀ j, j < k + 1 → (h : j < l.length) → leT l[j] t = true from fun j hj h => by
            by_cases e : j = k
            · subst e; unfold leT; rw [he]; simp
            · exact HA.out j (by omega) h)
          rw [he] at c0 hb'
          clear hb he
          go_wp2
          go_round
          case rel => exact ⟨k + 1, by omega, by go_num, HO.out⟩
          case measure => simp [intOf]; omega
        · have hne := str_ne he
          have HF := hid (show leT l[k] t = false by unfold leT; rw [hb', hne]; rfl)
          have hck : ¬ c = k := by omega
          clear hb he
          generalize hq : l[k] = q at c0 hb' hne
          clear hq
          have HK := hid (kI_is hk HA.out (fun _ => HF.out))
          have hown0 := own_made w 9
          obtain ⟨P1, hP1⟩ : ∃ P1 : List Value, P1 = (l.take k).map Value.string := ⟨_, rfl⟩
          obtain ⟨P3, hP3⟩ : ∃ P3 : List Value, P3 = (l.drop k).map Value.string := ⟨_, rfl⟩
          have L1 := hid (show P1.length = k * 1 by rw [hP1]; simp; omega)
          have L3 := hid (show P3.length = (l.length - k) * 1 by rw [hP3]; simp)
          have O1 := hid (show ∀ u ∈ P1, u.oneCell' = true by rw [hP1]; exact strs_one _)
          have O3 := hid (show ∀ u ∈ P3, u.oneCell' = true by rw [hP3]; exact strs_one _)
          have D1 := hid (fun W (hb : Below w.heap.size w W) => (show ∀ j u, P1[j]? = some u → W.cell? ⟨g, o + j, none⟩ = some u by rw [hP1]; intro j u h; have := strs_cells_to (HE.out.stay hb (Nat.le_refl _)) k j u h; rwa [Addr.add_lit] at this))
          have D3 := hid (fun W (hb : Below w.heap.size w W) => (show ∀ j u, P3[j]? = some u → W.cell? ⟨g, o + k + j, none⟩ = some u by rw [hP3]; intro j u h; have := strs_cells_from (HE.out.stay hb (Nat.le_refl _)) k j u h; rwa [Addr.add_lit] at this))
          have HP := hid (show P1 ++ Value.string t :: P3 = (putT l t).map Value.string by rw [hP1, hP3]; unfold putT; rw [HK.out]; simp)
          have HPL := hid (show k + 1 + (l.length - k) = (putT l t).length by unfold putT; rw [HK.out]; simp; omega)
          clear hP1 hP3
          go_wp2_with (first | (at_builtin; refine wpList_append_own _ rfl _ _ 23 rfl w.heap.size 9 i0 _ 1 16 Tryz.underlying23 hi hz0 hz1 hz2 rfl (by decide) _ _ _ rfl hown0 ⟨g, o, none⟩ k _ P1 rfl L1.out ?c1 O1.out ?c3 ?c4 (by simp) ?_) | fail)
          case c1 => exact D1.out _ ((Below.refl w.heap.size w).alloc (Nat.le_refl _) _)
          case c3 => unfold maxLen; omega
          case c4 => omega
          intro v1 w1 hown1 hg1 _
          have HB1 := hid (((Below.refl w.heap.size w).alloc (Nat.le_refl _) (.cells #[] 9)).grown hg1 (by simp) (fun j hj => (hown0.lt j hj).1))
          obtain ⟨a1, k1, rfl⟩ := ownB_form hown1
          have HO1 := hid hown1
          have hz1' := HB1.out.size
          clear hown0 hown1 hg1
          go_wp2_with (first | (at_builtin; refine wpList_append_own _ rfl _ _ 23 rfl w.heap.size 9 i0 _ 1 16 Tryz.underlying23 hi hz0 hz1 hz2 rfl (by decide) _ _ _ rfl (HO1.out.alloc _) ⟨w1.heap.size, 0, none⟩ 1 1 [.string t] rfl rfl ?c1 (strs_one [t]) ?c3 ?c4 (by simp; omega) ?_) | fail)
          case c1 => exact cell_one_new _ _ _
          case c3 => unfold maxLen; omega
          case c4 => omega
          intro v2 w2 hown2 hg2 _
          have HB2 := hid ((HB1.out.alloc hz1' (.cells #[.string t] 9)).grown hg2 (by simp; omega) (fun j hj => (HO1.out.lt j hj).1))
          obtain ⟨a2, k2, rfl⟩ := ownB_form hown2
          have HO2 := hid hown2
          have hz2' := HB2.out.size
          clear hown2 hg2 HO1 HB1
          go_wp2_with (first | (at_builtin; refine wpList_append_own _ rfl _ _ 23 rfl w.heap.size 9 i0 _ 1 16 Tryz.underlying23 hi hz0 hz1 hz2 rfl (by decide) _ _ _ rfl HO2.out ⟨g, o + k, none⟩ (l.length - k) _ P3 rfl L3.out ?c1 O3.out ?c3 ?c4 hz2' ?_) | fail)
          case c1 => intro j u h; rw [Addr.add_lit]; exact D3.out _ HB2.out j u h
          case c3 => unfold maxLen; omega
          case c4 => omega
          intro v3 w3 hown3 hg3 _
          have HB3 := hid (HB2.out.grown hg3 hz2' (fun j hj => (HO2.out.lt j hj).1))
          obtain ⟨a3, k3, rfl⟩ := ownB_form hown3
          rw [HPL.out, HP.out] at hown3
          have HO3 := hid hown3
          clear hown3 hg3 HO2 HB2
          go_wp2
          go_ret
          refine ⟨a3, k3, ?_, HO3.out, HB3.out⟩
          show Ending.returned (.slice a3 (k + 1 + (l.length - k)) k3) = _
          rw [HPL.out]
    · have HH := hid (show l.length ≤ k by omega)
      by_cases hck : c = k
      · subst hck
        have HK := hid (kI_is hk HA.out (fun h => absurd h (by have := HH.out; omega)))
        have hown0 := own_made w 9
        obtain ⟨P1, hP1⟩ : ∃ P1 : List Value, P1 = (l.take c).map Value.string := ⟨_, rfl⟩
        obtain ⟨P3, hP3⟩ : ∃ P3 : List Value, P3 = (l.drop c).map Value.string := ⟨_, rfl⟩
        have L1 := hid (show P1.length = c * 1 by rw [hP1]; simp; omega)
        have L3 := hid (show P3.length = 0 * 1 by rw [hP3, List.drop_eq_nil_of_le HH.out]; rfl)
        have O1 := hid (show ∀ u ∈ P1, u.oneCell' = true by rw [hP1]; exact strs_one _)
        have O3 := hid (show ∀ u ∈ P3, u.oneCell' = true by rw [hP3]; exact strs_one _)
        have D1 := hid (fun W (hb : Below w.heap.size w W) => (show ∀ j u, P1[j]? = some u → W.cell? ⟨g, o + j, none⟩ = some u by rw [hP1]; intro j u h; have := strs_cells_to (HE.out.stay hb (Nat.le_refl _)) c j u h; rwa [Addr.add_lit] at this))
        have D3 := hid (fun W (hb : Below w.heap.size w W) => (show ∀ j u, P3[j]? = some u → W.cell? ⟨g, o + j, none⟩ = some u by rw [hP3, List.drop_eq_nil_of_le HH.out]; intro j u hj; simp at hj))
        have D4 := hid (show ∀ (j : Nat) (u : Value), P3[j]? = some u → False by rw [hP3, List.drop_eq_nil_of_le HH.out]; intro j u hj; simp at hj)
        have HP := hid (show P1 ++ Value.string t :: P3 = (putT l t).map Value.string by rw [hP1, hP3]; unfold putT; rw [HK.out]; simp)
        have HPL := hid (show c + 1 = (putT l t).length by unfold putT; rw [HK.out]; simp; have := HH.out; omega)
        clear hP1 hP3
        go_wp2_with (first | (at_builtin; refine wpList_append_own _ rfl _ _ 23 rfl w.heap.size 9 i0 _ 1 16 Tryz.underlying23 hi hz0 hz1 hz2 rfl (by decide) _ _ _ rfl hown0 ⟨g, o, none⟩ c _ P1 rfl L1.out ?c1 O1.out ?c3 ?c4 (by simp) ?_) | fail)
        case c1 => exact D1.out _ ((Below.refl w.heap.size w).alloc (Nat.le_refl _) _)
        case c3 => unfold maxLen; omega
        case c4 => omega
        intro v1 w1 hown1 hg1 _
        have HB1 := hid (((Below.refl w.heap.size w).alloc (Nat.le_refl _) (.cells #[] 9)).grown hg1 (by simp) (fun j hj => (hown0.lt j hj).1))
        obtain ⟨a1, k1, rfl⟩ := ownB_form hown1
        have HO1 := hid hown1
        have hz1' := HB1.out.size
        clear hown0 hown1 hg1
        go_wp2_with (first | (at_builtin; refine wpList_append_own _ rfl _ _ 23 rfl w.heap.size 9 i0 _ 1 16 Tryz.underlying23 hi hz0 hz1 hz2 rfl (by decide) _ _ _ rfl (HO1.out.alloc _) ⟨w1.heap.size, 0, none⟩ 1 1 [.string t] rfl rfl ?c1 (strs_one [t]) ?c3 ?c4 (by simp; omega) ?_) | fail)
        case c1 => exact cell_one_new _ _ _
        case c3 => unfold maxLen; omega
        case c4 => omega
        intro v2 w2 hown2 hg2 _
        have HB2 := hid ((HB1.out.alloc hz1' (.cells #[.string t] 9)).grown hg2 (by simp; omega) (fun j hj => (HO1.out.lt j hj).1))
        obtain ⟨a2, k2, rfl⟩ := ownB_form hown2
        have HO2 := hid hown2
        have hz2' := HB2.out.size
        clear hown2 hg2 HO1 HB1
        go_wp2_with (first | (at_builtin; refine wpList_append_own _ rfl _ _ 23 rfl w.heap.size 9 i0 _ 1 16 Tryz.underlying23 hi hz0 hz1 hz2 rfl (by decide) _ _ _ rfl HO2.out _ 0 _ P3 rfl L3.out ?c1 O3.out ?c3 ?c4 hz2' ?_) | fail)
        case c1 => exact fun j u h => (D4.out j u h).elim
        case c3 => unfold maxLen; omega
        case c4 => omega
        intro v3 w3 hown3 hg3 _
        have HB3 := hid (HB2.out.grown hg3 hz2' (fun j hj => (HO2.out.lt j hj).1))
        obtain ⟨a3, k3, rfl⟩ := ownB_form hown3
        rw [HPL.out, HP.out] at hown3
        have HO3 := hid hown3
        clear hown3 hg3 HO2 HB2
        go_wp2
        go_ret
        refine ⟨a3, k3, ?_, HO3.out, HB3.out⟩
        show Ending.returned (.slice a3 (c + 1) k3) = _
        rw [HPL.out]
      · have hck2 : k < c := by omega
        have HK := hid (kI_is hk HA.out (fun h => absurd h (by have := HH.out; omega)))
        have hown0 := own_made w 9
        obtain ⟨P1, hP1⟩ : ∃ P1 : List Value, P1 = (l.take k).map Value.string := ⟨_, rfl⟩
        obtain ⟨P3, hP3⟩ : ∃ P3 : List Value, P3 = (l.drop k).map Value.string := ⟨_, rfl⟩
        have L1 := hid (show P1.length = k * 1 by rw [hP1]; simp; omega)
        have L3 := hid (show P3.length = (l.length - k) * 1 by rw [hP3]; simp)
        have O1 := hid (show ∀ u ∈ P1, u.oneCell' = true by rw [hP1]; exact strs_one _)
        have O3 := hid (show ∀ u ∈ P3, u.oneCell' = true by rw [hP3]; exact strs_one _)
        have D1 := hid (fun W (hb : Below w.heap.size w W) => (show ∀ j u, P1[j]? = some u → W.cell? ⟨g, o + j, none⟩ = some u by rw [hP1]; intro j u h; have := strs_cells_to (HE.out.stay hb (Nat.le_refl _)) k j u h; rwa [Addr.add_lit] at this))
        have D3 := hid (fun W (hb : Below w.heap.size w W) => (show ∀ j u, P3[j]? = some u → W.cell? ⟨g, o + k + j, none⟩ = some u by rw [hP3, List.drop_eq_nil_of_le HH.out]; intro j u hj; simp at hj))
        have HP := hid (show P1 ++ Value.string t :: P3 = (putT l t).map Value.string by rw [hP1, hP3]; unfold putT; rw [HK.out]; simp)
        have HPL := hid (show k + 1 + (l.length - k) = (putT l t).length by unfold putT; rw [HK.out]; simp; omega)
        clear hP1 hP3
        go_wp2_with (first | (at_builtin; refine wpList_append_own _ rfl _ _ 23 rfl w.heap.size 9 i0 _ 1 16 Tryz.underlying23 hi hz0 hz1 hz2 rfl (by decide) _ _ _ rfl hown0 ⟨g, o, none⟩ k _ P1 rfl L1.out ?c1 O1.out ?c3 ?c4 (by simp) ?_) | fail)
        case c1 => exact D1.out _ ((Below.refl w.heap.size w).alloc (Nat.le_refl _) _)
        case c3 => unfold maxLen; omega
        case c4 => omega
        intro v1 w1 hown1 hg1 _
        have HB1 := hid (((Below.refl w.heap.size w).alloc (Nat.le_refl _) (.cells #[] 9)).grown hg1 (by simp) (fun j hj => (hown0.lt j hj).1))
        obtain ⟨a1, k1, rfl⟩ := ownB_form hown1
        have HO1 := hid hown1
        have hz1' := HB1.out.size
        clear hown0 hown1 hg1
        go_wp2_with (first | (at_builtin; refine wpList_append_own _ rfl _ _ 23 rfl w.heap.size 9 i0 _ 1 16 Tryz.underlying23 hi hz0 hz1 hz2 rfl (by decide) _ _ _ rfl (HO1.out.alloc _) ⟨w1.heap.size, 0, none⟩ 1 1 [.string t] rfl rfl ?c1 (strs_one [t]) ?c3 ?c4 (by simp; omega) ?_) | fail)
        case c1 => exact cell_one_new _ _ _
        case c3 => unfold maxLen; omega
        case c4 => omega
        intro v2 w2 hown2 hg2 _
        have HB2 := hid ((HB1.out.alloc hz1' (.cells #[.string t] 9)).grown hg2 (by simp; omega) (fun j hj => (HO1.out.lt j hj).1))
        obtain ⟨a2, k2, rfl⟩ := ownB_form hown2
        have HO2 := hid hown2
        have hz2' := HB2.out.size
        clear hown2 hg2 HO1 HB1
        go_wp2_with (first | (at_builtin; refine wpList_append_own _ rfl _ _ 23 rfl w.heap.size 9 i0 _ 1 16 Tryz.underlying23 hi hz0 hz1 hz2 rfl (by decide) _ _ _ rfl HO2.out ⟨g, o + k, none⟩ (l.length - k) _ P3 rfl L3.out ?c1 O3.out ?c3 ?c4 hz2' ?_) | fail)
        case c1 => intro j u h; rw [Addr.add_lit]; exact D3.out _ HB2.out j u h
        case c3 => unfold maxLen; omega
        case c4 => omega
        intro v3 w3 hown3 hg3 _
        have HB3 := hid (HB2.out.grown hg3 hz2' (fun j hj => (HO2.out.lt j hj).1))
        obtain ⟨a3, k3, rfl⟩ := ownB_form hown3
        rw [HPL.out, HP.out] at hown3
        have HO3 := hid hown3
        clear hown3 hg3 HO2 HB2
        go_wp2
        go_ret
        refine ⟨a3, k3, ?_, HO3.out, HB3.out⟩
        show Ending.returned (.slice a3 (k + 1 + (l.length - k)) k3) = _
        rw [HPL.out]
end Go.Proofs.YtdggmeblnbabbaaGreatDoor
