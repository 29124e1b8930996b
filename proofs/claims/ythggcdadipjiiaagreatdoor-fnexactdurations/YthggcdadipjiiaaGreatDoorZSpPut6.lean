/-
  Texts put together: SpPut, SpOut, Bel, InfV, ApWl, ApAny.
-/
import Derived.Test.YthggcdadipjiiaaGreatDoorZRunM6
import Derived.Test.YthggcdadipjiiaaGreatDoorZStrs4
import Derived.Lib.QuietBelow
import Derived.Laws.AppendOwnNone
import Derived.Maps.AppendAt
import Derived.Deep.RegionLaw
import Derived.Test.YthggcdadipjiiaaGreatDoorZAgg3
import Derived.OwnWalk
/-
  What spec.l03Put answers: a text put among others, in a new row: a contract over the seat's program.
-/
namespace Go.Proofs.YthggcdadipjiiaaGreatDoor
open Go.RowKit Go.Sort

/-- Is a no greater than b? -/
def leT (a b : ByteArray) : Bool := Op.bytesLess a.toList b.toList || a.toList == b.toList
/-- How many texts at the head are no greater than t. -/
def kI (l : List ByteArray) (t : ByteArray) : Nat := (l.takeWhile (leT · t)).length
def putT (l : List ByteArray) (t : ByteArray) : List ByteArray := l.take (kI l t) ++ [t] ++ l.drop (kI l t)
theorem kI_is {l : List ByteArray} {t : ByteArray} {k : Nat} (hk : k ≤ l.length) (h1 : ∀ j, j < k → (h : j < l.length) → leT l[j] t = true) (h2 : (h : k < l.length) → leT l[k] t = false) : kI l t = k := by
  unfold kI
  have e : l.takeWhile (leT · t) = l.take k := by
    conv => lhs; rw [← List.take_append_drop k l]
    rw [List.takeWhile_append_of_pos (fun a ha => by
      obtain ⟨j, hj, rfl⟩ := List.mem_take_iff_getElem.1 ha
      exact h1 j (by omega) (by omega))]
    by_cases hlt : k < l.length
    · rw [List.drop_eq_getElem_cons hlt, List.takeWhile_cons_of_neg (by rw [h2 hlt]; simp)]; simp
    · rw [List.drop_eq_nil_of_le (by omega)]; simp
  rw [e, List.length_take]; omega
theorem own_made (w : World) (T : TypeId) : (w.alloc (.cells #[] T)).ownsRow w.heap.size T 1 (.slice (some ⟨w.heap.size, 0, none⟩) 0 0) 0 [] :=
  ⟨rfl, .inr ⟨w.heap.size, 0, #[], rfl, Nat.le_refl _, by show (w.heap.push (Obj.cells #[] T))[w.heap.size]? = some _; simp, Nat.le_refl _, Nat.zero_le _, rfl, rfl⟩⟩
theorem strs_cells_from {w : World} {g o : Nat} {l : List ByteArray} (h : StrsAt w g o l) (k : Nat) : ∀ j u, ((l.drop k).map Value.string)[j]? = some u → w.cell? ((⟨g, o + k, none⟩ : Addr).add j) = some u := by
  intro j u hj
  rw [Addr.add_lit]
  rw [List.getElem?_map, List.getElem?_drop] at hj
  obtain ⟨s, hs, rfl⟩ := Option.map_eq_some_iff.1 hj
  obtain ⟨hlt, rfl⟩ := List.getElem?_eq_some_iff.1 hs
  rw [Nat.add_assoc]; exact h.2 (k + j) hlt
theorem strs_cells_to {w : World} {g o : Nat} {l : List ByteArray} (h : StrsAt w g o l) (k : Nat) : ∀ j u, ((l.take k).map Value.string)[j]? = some u → w.cell? ((⟨g, o, none⟩ : Addr).add j) = some u := by
  intro j u hj
  rw [Addr.add_lit]
  rw [List.getElem?_map] at hj
  obtain ⟨s, hs, rfl⟩ := Option.map_eq_some_iff.1 hj
  obtain ⟨hlt, rfl⟩ := List.getElem?_eq_some_iff.1 hs
  rw [List.getElem_take]; exact h.2 j (by rw [List.length_take] at hlt; omega)
set_option maxRecDepth 100000 in
set_option maxHeartbeats 2000000 in
theorem l03Put_row (g o c : Nat) (l : List ByteArray) (t : ByteArray) (w : World) (hE : StrsAt w g o l) (hc : l.length ≤ c) (hn : l.length ≤ 1048576) :
    Calls Tryz.prog 98 #[.slice (some ⟨g, o, none⟩) l.length c, .string t] w fun e w' => ∃ a k, e = .returned (.slice a (putT l t).length k) ∧ w'.ownsRow w.heap.size 9 1 (.slice a (putT l t).length k) (putT l t).length ((putT l t).map Value.string) ∧ Below w.heap.size w w' := by
  obtain ⟨i0, hi, hz0, hz1, hz2⟩ := info_parts Tryz.infoStr
  have HE := hid hE
  clear hE
  go_enter Tryz.func98, Tryz.ntmps98
  go_wp2
  go_loop [5] (fun i => ∃ k : Nat, k ≤ l.length ∧ i = .int .i64 k ∧ ∀ j, j < k → (h : j < l.length) → leT l[j] t = true) (fun i => l.length - (intOf i).toNat)
  case atStart => exact ⟨0, Nat.zero_le _, rfl, fun j hj => absurd hj (by omega)⟩
  case round =>
    obtain ⟨k, hk, rfl, hall⟩ := hrel
    have HA := hid hall
    clear hall
    have fin : k ≤ c := by omega
    by_cases hlt : k < l.length
    · have c0 := HE.out.2 k hlt
      by_cases hb : Op.bytesLess l[k].toList t.toList = true
      · have HO := hid (show ∀ j, j < k + 1 → (h : j < l.length) → leT l[j] t = true from fun j hj h => by
          by_cases e : j = k
          · subst e; unfold leT; rw [hb]; rfl
          · exact HA.out j (by omega) h)
        generalize l[k] = q at *
        go_wp2
        go_round
        case rel => exact ⟨k + 1, by omega, by go_num, HO.out⟩
        case measure => simp [intOf]; omega
      · have hb' : Op.bytesLess l[k].toList t.toList = false := by simpa using hb
        by_cases he : l[k] = t
        · have HO := hid (show ∀ j, j < k + 1 → (h : j < l.length) → leT l[j] t = true from fun j hj h => by
            by_cases e : j = k
            · subst e; unfold leT; rw [he]; simp
            · exact HA.out j (by omega) h)
          rw [he] at c0 hb'
          clear hb he
          go_wp2
          go_round
          case rel => exact ⟨k + 1, by omega, by go_num, HO.out⟩
          case measure => simp [intOf]; omega
        · have hne := str_ne he
          have HF := hid (show leT l[k] t = false by unfold leT; rw [hb', hne]; rfl)
          have hck : ¬ c = k := by omega
          clear hb he
          generalize hq : l[k] = q at c0 hb' hne
          clear hq
          have HK := hid (kI_is hk HA.out (fun _ => HF.out))
          have hown0 := own_made w 9
          obtain ⟨P1, hP1⟩ : ∃ P1 : List Value, P1 = (l.take k).map Value.string := ⟨_, rfl⟩
          obtain ⟨P3, hP3⟩ : ∃ P3 : List Value, P3 = (l.drop k).map Value.string := ⟨_, rfl⟩
          have L1 := hid (show P1.length = k * 1 by rw [hP1]; simp; omega)
          have L3 := hid (show P3.length = (l.length - k) * 1 by rw [hP3]; simp)
          have O1 := hid (show ∀ u ∈ P1, u.oneCell' = true by rw [hP1]; exact strs_one _)
          have O3 := hid (show ∀ u ∈ P3, u.oneCell' = true by rw [hP3]; exact strs_one _)
          have D1 := hid (fun W (hb : Below w.heap.size w W) => (show ∀ j u, P1[j]? = some u → W.cell? ⟨g, o + j, none⟩ = some u by rw [hP1]; intro j u h; have := strs_cells_to (HE.out.stay hb (Nat.le_refl _)) k j u h; rwa [Addr.add_lit] at this))
          have D3 := hid (fun W (hb : Below w.heap.size w W) => (show ∀ j u, P3[j]? = some u → W.cell? ⟨g, o + k + j, none⟩ = some u by rw [hP3]; intro j u h; have := strs_cells_from (HE.out.stay hb (Nat.le_refl _)) k j u h; rwa [Addr.add_lit] at this))
          have HP := hid (show P1 ++ Value.string t :: P3 = (putT l t).map Value.string by rw [hP1, hP3]; unfold putT; rw [HK.out]; simp)
          have HPL := hid (show k + 1 + (l.length - k) = (putT l t).length by unfold putT; rw [HK.out]; simp; omega)
          clear hP1 hP3
          go_wp2_with (first | (at_builtin; refine wpList_append_own _ rfl _ _ 23 rfl w.heap.size 9 i0 _ 1 16 Tryz.underlying23 hi hz0 hz1 hz2 rfl (by decide) _ _ _ rfl hown0 ⟨g, o, none⟩ k _ P1 rfl L1.out ?c1 O1.out ?c3 ?c4 (by simp) ?_) | fail)
          case c1 => exact D1.out _ ((Below.refl w.heap.size w).alloc (Nat.le_refl _) _)
          case c3 => unfold maxLen; omega
          case c4 => omega
          intro v1 w1 hown1 hg1 _
          have HB1 := hid (((Below.refl w.heap.size w).alloc (Nat.le_refl _) (.cells #[] 9)).grown hg1 (by simp) (fun j hj => (hown0.lt j hj).1))
          obtain ⟨a1, k1, rfl⟩ := ownB_form hown1
          have HO1 := hid hown1
          have hz1' := HB1.out.size
          clear hown0 hown1 hg1
          go_wp2_with (first | (at_builtin; refine wpList_append_own _ rfl _ _ 23 rfl w.heap.size 9 i0 _ 1 16 Tryz.underlying23 hi hz0 hz1 hz2 rfl (by decide) _ _ _ rfl (HO1.out.alloc _) ⟨w1.heap.size, 0, none⟩ 1 1 [.string t] rfl rfl ?c1 (strs_one [t]) ?c3 ?c4 (by simp; omega) ?_) | fail)
          case c1 => exact cell_one_new _ _ _
          case c3 => unfold maxLen; omega
          case c4 => omega
          intro v2 w2 hown2 hg2 _
          have HB2 := hid ((HB1.out.alloc hz1' (.cells #[.string t] 9)).grown hg2 (by simp; omega) (fun j hj => (HO1.out.lt j hj).1))
          obtain ⟨a2, k2, rfl⟩ := ownB_form hown2
          have HO2 := hid hown2
          have hz2' := HB2.out.size
          clear hown2 hg2 HO1 HB1
          go_wp2_with (first | (at_builtin; refine wpList_append_own _ rfl _ _ 23 rfl w.heap.size 9 i0 _ 1 16 Tryz.underlying23 hi hz0 hz1 hz2 rfl (by decide) _ _ _ rfl HO2.out ⟨g, o + k, none⟩ (l.length - k) _ P3 rfl L3.out ?c1 O3.out ?c3 ?c4 hz2' ?_) | fail)
          case c1 => intro j u h; rw [Addr.add_lit]; exact D3.out _ HB2.out j u h
          case c3 => unfold maxLen; omega
          case c4 => omega
          intro v3 w3 hown3 hg3 _
          have HB3 := hid (HB2.out.grown hg3 hz2' (fun j hj => (HO2.out.lt j hj).1))
          obtain ⟨a3, k3, rfl⟩ := ownB_form hown3
          rw [HPL.out, HP.out] at hown3
          have HO3 := hid hown3
          clear hown3 hg3 HO2 HB2
          go_wp2
          go_ret
          refine ⟨a3, k3, ?_, HO3.out, HB3.out⟩
          show Ending.returned (.slice a3 (k + 1 + (l.length - k)) k3) = _
          rw [HPL.out]
    · have HH := hid (show l.length ≤ k by omega)
      by_cases hck : c = k
      · subst hck
        have HK := hid (kI_is hk HA.out (fun h => absurd h (by have := HH.out; omega)))
        have hown0 := own_made w 9
        obtain ⟨P1, hP1⟩ : ∃ P1 : List Value, P1 = (l.take c).map Value.string := ⟨_, rfl⟩
        obtain ⟨P3, hP3⟩ : ∃ P3 : List Value, P3 = (l.drop c).map Value.string := ⟨_, rfl⟩
        have L1 := hid (show P1.length = c * 1 by rw [hP1]; simp; omega)
        have L3 := hid (show P3.length = 0 * 1 by rw [hP3, List.drop_eq_nil_of_le HH.out]; rfl)
        have O1 := hid (show ∀ u ∈ P1, u.oneCell' = true by rw [hP1]; exact strs_one _)
        have O3 := hid (show ∀ u ∈ P3, u.oneCell' = true by rw [hP3]; exact strs_one _)
        have D1 := hid (fun W (hb : Below w.heap.size w W) => (show ∀ j u, P1[j]? = some u → W.cell? ⟨g, o + j, none⟩ = some u by rw [hP1]; intro j u h; have := strs_cells_to (HE.out.stay hb (Nat.le_refl _)) c j u h; rwa [Addr.add_lit] at this))
        have D3 := hid (fun W (hb : Below w.heap.size w W) => (show ∀ j u, P3[j]? = some u → W.cell? ⟨g, o + j, none⟩ = some u by rw [hP3, List.drop_eq_nil_of_le HH.out]; intro j u hj; simp at hj))
        have D4 := hid (show ∀ (j : Nat) (u : Value), P3[j]? = some u → False by rw [hP3, List.drop_eq_nil_of_le HH.out]; intro j u hj; simp at hj)
        have HP := hid (show P1 ++ Value.string t :: P3 = (putT l t).map Value.string by rw [hP1, hP3]; unfold putT; rw [HK.out]; simp)
        have HPL := hid (show c + 1 = (putT l t).length by unfold putT; rw [HK.out]; simp; have := HH.out; omega)
        clear hP1 hP3
        go_wp2_with (first | (at_builtin; refine wpList_append_own _ rfl _ _ 23 rfl w.heap.size 9 i0 _ 1 16 Tryz.underlying23 hi hz0 hz1 hz2 rfl (by decide) _ _ _ rfl hown0 ⟨g, o, none⟩ c _ P1 rfl L1.out ?c1 O1.out ?c3 ?c4 (by simp) ?_) | fail)
        case c1 => exact D1.out _ ((Below.refl w.heap.size w).alloc (Nat.le_refl _) _)
        case c3 => unfold maxLen; omega
        case c4 => omega
        intro v1 w1 hown1 hg1 _
        have HB1 := hid (((Below.refl w.heap.size w).alloc (Nat.le_refl _) (.cells #[] 9)).grown hg1 (by simp) (fun j hj => (hown0.lt j hj).1))
        obtain ⟨a1, k1, rfl⟩ := ownB_form hown1
        have HO1 := hid hown1
        have hz1' := HB1.out.size
        clear hown0 hown1 hg1
        go_wp2_with (first | (at_builtin; refine wpList_append_own _ rfl _ _ 23 rfl w.heap.size 9 i0 _ 1 16 Tryz.underlying23 hi hz0 hz1 hz2 rfl (by decide) _ _ _ rfl (HO1.out.alloc _) ⟨w1.heap.size, 0, none⟩ 1 1 [.string t] rfl rfl ?c1 (strs_one [t]) ?c3 ?c4 (by simp; omega) ?_) | fail)
        case c1 => exact cell_one_new _ _ _
        case c3 => unfold maxLen; omega
        case c4 => omega
        intro v2 w2 hown2 hg2 _
        have HB2 := hid ((HB1.out.alloc hz1' (.cells #[.string t] 9)).grown hg2 (by simp; omega) (fun j hj => (HO1.out.lt j hj).1))
        obtain ⟨a2, k2, rfl⟩ := ownB_form hown2
        have HO2 := hid hown2
        have hz2' := HB2.out.size
        clear hown2 hg2 HO1 HB1
        go_wp2_with (first | (at_builtin; refine wpList_append_own _ rfl _ _ 23 rfl w.heap.size 9 i0 _ 1 16 Tryz.underlying23 hi hz0 hz1 hz2 rfl (by decide) _ _ _ rfl HO2.out _ 0 _ P3 rfl L3.out ?c1 O3.out ?c3 ?c4 hz2' ?_) | fail)
        case c1 => exact fun j u h => (D4.out j u h).elim
        case c3 => unfold maxLen; omega
        case c4 => omega
        intro v3 w3 hown3 hg3 _
        have HB3 := hid (HB2.out.grown hg3 hz2' (fun j hj => (HO2.out.lt j hj).1))
        obtain ⟨a3, k3, rfl⟩ := ownB_form hown3
        rw [HPL.out, HP.out] at hown3
        have HO3 := hid hown3
        clear hown3 hg3 HO2 HB2
        go_wp2
        go_ret
        refine ⟨a3, k3, ?_, HO3.out, HB3.out⟩
        show Ending.returned (.slice a3 (c + 1) k3) = _
        rw [HPL.out]
      · have hck2 : k < c := by omega
        have HK := hid (kI_is hk HA.out (fun h => absurd h (by have := HH.out; omega)))
        have hown0 := own_made w 9
        obtain ⟨P1, hP1⟩ : ∃ P1 : List Value, P1 = (l.take k).map Value.string := ⟨_, rfl⟩
        obtain ⟨P3, hP3⟩ : ∃ P3 : List Value, P3 = (l.drop k).map Value.string := ⟨_, rfl⟩
        have L1 := hid (show P1.length = k * 1 by rw [hP1]; simp; omega)
        have L3 := hid (show P3.length = (l.length - k) * 1 by rw [hP3]; simp)
        have O1 := hid (show ∀ u ∈ P1, u.oneCell' = true by rw [hP1]; exact strs_one _)
        have O3 := hid (show ∀ u ∈ P3, u.oneCell' = true by rw [hP3]; exact strs_one _)
        have D1 := hid (fun W (hb : Below w.heap.size w W) => (show ∀ j u, P1[j]? = some u → W.cell? ⟨g, o + j, none⟩ = some u by rw [hP1]; intro j u h; have := strs_cells_to (HE.out.stay hb (Nat.le_refl _)) k j u h; rwa [Addr.add_lit] at this))
        have D3 := hid (fun W (hb : Below w.heap.size w W) => (show ∀ j u, P3[j]? = some u → W.cell? ⟨g, o + k + j, none⟩ = some u by rw [hP3, List.drop_eq_nil_of_le HH.out]; intro j u hj; simp at hj))
        have HP := hid (show P1 ++ Value.string t :: P3 = (putT l t).map Value.string by rw [hP1, hP3]; unfold putT; rw [HK.out]; simp)
        have HPL := hid (show k + 1 + (l.length - k) = (putT l t).length by unfold putT; rw [HK.out]; simp; omega)
        clear hP1 hP3
        go_wp2_with (first | (at_builtin; refine wpList_append_own _ rfl _ _ 23 rfl w.heap.size 9 i0 _ 1 16 Tryz.underlying23 hi hz0 hz1 hz2 rfl (by decide) _ _ _ rfl hown0 ⟨g, o, none⟩ k _ P1 rfl L1.out ?c1 O1.out ?c3 ?c4 (by simp) ?_) | fail)
        case c1 => exact D1.out _ ((Below.refl w.heap.size w).alloc (Nat.le_refl _) _)
        case c3 => unfold maxLen; omega
        case c4 => omega
        intro v1 w1 hown1 hg1 _
        have HB1 := hid (((Below.refl w.heap.size w).alloc (Nat.le_refl _) (.cells #[] 9)).grown hg1 (by simp) (fun j hj => (hown0.lt j hj).1))
        obtain ⟨a1, k1, rfl⟩ := ownB_form hown1
        have HO1 := hid hown1
        have hz1' := HB1.out.size
        clear hown0 hown1 hg1
        go_wp2_with (first | (at_builtin; refine wpList_append_own _ rfl _ _ 23 rfl w.heap.size 9 i0 _ 1 16 Tryz.underlying23 hi hz0 hz1 hz2 rfl (by decide) _ _ _ rfl (HO1.out.alloc _) ⟨w1.heap.size, 0, none⟩ 1 1 [.string t] rfl rfl ?c1 (strs_one [t]) ?c3 ?c4 (by simp; omega) ?_) | fail)
        case c1 => exact cell_one_new _ _ _
        case c3 => unfold maxLen; omega
        case c4 => omega
        intro v2 w2 hown2 hg2 _
        have HB2 := hid ((HB1.out.alloc hz1' (.cells #[.string t] 9)).grown hg2 (by simp; omega) (fun j hj => (HO1.out.lt j hj).1))
        obtain ⟨a2, k2, rfl⟩ := ownB_form hown2
        have HO2 := hid hown2
        have hz2' := HB2.out.size
        clear hown2 hg2 HO1 HB1
        go_wp2_with (first | (at_builtin; refine wpList_append_own _ rfl _ _ 23 rfl w.heap.size 9 i0 _ 1 16 Tryz.underlying23 hi hz0 hz1 hz2 rfl (by decide) _ _ _ rfl HO2.out ⟨g, o + k, none⟩ (l.length - k) _ P3 rfl L3.out ?c1 O3.out ?c3 ?c4 hz2' ?_) | fail)
        case c1 => intro j u h; rw [Addr.add_lit]; exact D3.out _ HB2.out j u h
        case c3 => unfold maxLen; omega
        case c4 => omega
        intro v3 w3 hown3 hg3 _
        have HB3 := hid (HB2.out.grown hg3 hz2' (fun j hj => (HO2.out.lt j hj).1))
        obtain ⟨a3, k3, rfl⟩ := ownB_form hown3
        rw [HPL.out, HP.out] at hown3
        have HO3 := hid hown3
        clear hown3 hg3 HO2 HB2
        go_wp2
        go_ret
        refine ⟨a3, k3, ?_, HO3.out, HB3.out⟩
        show Ending.returned (.slice a3 (k + 1 + (l.length - k)) k3) = _
        rw [HPL.out]
end Go.Proofs.YthggcdadipjiiaaGreatDoor

/-
  What spec.l03Out answers: a row without one of its texts: a contract over the seat's program.
-/
namespace Go.Proofs.YthggcdadipjiiaaGreatDoor
open Go.RowKit Go.Sort

def outT (l : List ByteArray) (k : Nat) : List ByteArray := l.take k ++ l.drop (k + 1)
/-- append to a row of one's own, as one step of a region that draws. -/
theorem step_append_own {P : Program} {w : World} {ops : Array Oper} {o : Oper} {a : Act} {K : Act → World → Prop} {Q : Exit → Act → World → Prop} {E : Prop} (hgd : o.guard = none) (s x : Operand) (t : TypeId)
    (ho : o.op = .call { callee := .builtin .append, args := #[s, x], argTypes := #[t, t] })
    (base : Nat) (e : TypeId) (i : TypeInfo) (z : Value) (size bytes : Nat) (ht : P.underlying t = some (.slice e)) (hi : P.info? e = some i) (hz : i.zero = some z)
    (hsize : i.size = size) (hby : i.bytes = bytes) (hzs : z.cells.size = size) (hsz : 0 < size)
    (v : Value) (n : Nat) (xs : List Value) (hs : a.eval s = v) (hown : w.ownsRow base e size v n xs)
    (ad : Addr) (m c : Nat) (news : List Value) (hx : a.eval x = .slice (some ad) m c) (hl : news.length = m * size) (hnews : ∀ j u, news[j]? = some u → w.cell? (ad.add j) = some u) (h1 : ∀ u ∈ news, u.oneCell' = true)
    (h63 : n + m ≤ maxLen) (hbytes : (n + m) * bytes ≤ 140737488355328) (hbase : base ≤ w.heap.size)
    (h : ∀ v' w', w'.ownsRow base e size v' (n + m) (xs ++ news) → w.grownBy w' v.ownBlock → (v' = .slice none 0 0 ↔ v = .slice none 0 0 ∧ m = 0) → K (a.put o.dst v') w') :
    if Region.wanted o (yielded ops a.tmps) = true then Oper.wp P o a w K Q else E := by
  rw [if_pos (show Region.wanted o (yielded ops a.tmps) = true by simp [Region.wanted, hgd])]
  exact wp_append_own w s x t ho base e i z size bytes ht hi hz hsize hby hzs hsz v n xs hs hown ad m c news hx hl hnews h1 h63 hbytes hbase h
set_option maxRecDepth 100000 in
set_option maxHeartbeats 2000000 in
theorem l03Out_row (g o c k : Nat) (l : List ByteArray) (w : World) (hE : StrsAt w g o l) (hk : k < l.length) (hc : l.length ≤ c) (hn : l.length ≤ 1048576) (hcm : c ≤ maxLen) :
    Calls Tryz.prog 97 #[.slice (some ⟨g, o, none⟩) l.length c, .int .i64 k] w fun e w' => ∃ a n, e = .returned (.slice a (outT l k).length n) ∧ w'.ownsRow w.heap.size 9 1 (.slice a (outT l k).length n) (outT l k).length ((outT l k).map Value.string) ∧ Below w.heap.size w w' := by
  obtain ⟨i0, hi, hz0, hz1, hz2⟩ := info_parts Tryz.infoStr
  have HE := hid hE
  clear hE
  unfold maxLen at hcm
  go_enter Tryz.func97, Tryz.ntmps97
  by_cases hck : k + 1 = c
  · subst hck
    obtain ⟨P1, hP1⟩ : ∃ P1 : List Value, P1 = (l.take k).map Value.string := ⟨_, rfl⟩
    obtain ⟨P3, hP3⟩ : ∃ P3 : List Value, P3 = (l.drop (k + 1)).map Value.string := ⟨_, rfl⟩
    have L1 := hid (show P1.length = k * 1 by rw [hP1]; simp; omega)
    have L3 := hid (show P3.length = 0 * 1 by rw [hP3, List.drop_eq_nil_of_le (by omega)]; rfl)
    have D4 := hid (show ∀ (j : Nat) (u : Value), P3[j]? = some u → False by rw [hP3, List.drop_eq_nil_of_le (by omega)]; intro j u hj; simp at hj)
    have HPL := hid (show 0 + k + 0 = (outT l k).length by unfold outT; simp; omega)
    have O1 := hid (show ∀ u ∈ P1, u.oneCell' = true by rw [hP1]; exact strs_one _)
    have O3 := hid (show ∀ u ∈ P3, u.oneCell' = true by rw [hP3]; exact strs_one _)
    have D1 := hid (fun W (hb : Below w.heap.size w W) => (show ∀ j u, P1[j]? = some u → W.cell? ((⟨g, o, none⟩ : Addr).add j) = some u by rw [hP1]; exact strs_cells_to (HE.out.stay hb (Nat.le_refl _)) k))
    have HP := hid (show ([] ++ P1) ++ P3 = (outT l k).map Value.string by rw [hP1, hP3]; unfold outT; simp)
    have HB0 := hid (show Below w.heap.size w (w.alloc (.cells #[] 9)).drew from ((Below.refl w.heap.size w).alloc (Nat.le_refl _) _).drew)
    have HW := hid (show (w.alloc (.cells #[] 9)).drew.ownsRow w.heap.size 9 1 (.slice (some ⟨w.heap.size, 0, none⟩) 0 0) 0 [] from own_made w 9)
    have hb1 : 0 + k ≤ maxLen := by unfold maxLen; omega
    have hb2 : (0 + k) * 16 ≤ 140737488355328 := by omega
    have hb3 : 0 + k + 0 ≤ maxLen := by unfold maxLen; omega
    have hb4 : (0 + k + 0) * 16 ≤ 140737488355328 := by omega
    have HBS := hid (And.intro (And.intro hb1 hb2) (And.intro hb3 hb4))
    clear hb1 hb2 hb3 hb4 hP1 hP3
    have hwr : IntKind.i64.wrap ((k : Int) + 1) = (k : Int) + 1 := by rw [IntKind.wrap_i64]; omega
    have hp0 : (0 : Int) ≤ (k : Int) + 1 := by omega
    have hp1 : (k : Int) + 1 ≤ (l.length : Int) := by omega
    have hp2 : ((k : Int) + 1).toNat = k + 1 := by omega
    have hp3 : (k : Int) ≤ (k : Int) + 1 := by omega
    have hk1 : k ≤ l.length := by omega
    have hk2 : k ≤ k + 1 := by omega
    go_wp2_with fail
    go_region_law (first | (refine step_append_own rfl (.tmp 5) (.tmp 8) 23 rfl w.heap.size 9 i0 _ 1 16 Tryz.underlying23 hi hz0 hz1 hz2 rfl (by decide) _ _ _ (by simp [Act.eval]) HW.out ⟨g, o, none⟩ k (k + 1) P1 (by simp [Act.eval]) L1.out (D1.out _ HB0.out) O1.out HBS.out.1.1 HBS.out.1.2 HB0.out.size ?_; intro v1 w1 hown1 hg1 hn1; have HB1 := hid (HB0.out.grown hg1 HB0.out.size (fun j hj => (HW.out.lt j hj).1)); obtain ⟨a1, k1, rfl⟩ := ownB_form hown1; have HO1 := hid hown1; clear hown1 hg1 hn1) | (refine step_append_own rfl (.tmp 9) (.tmp 13) 23 rfl w.heap.size 9 i0 _ 1 16 Tryz.underlying23 hi hz0 hz1 hz2 rfl (by decide) _ _ _ (by simp [Act.eval]) HO1.out ⟨g, o, none⟩ 0 0 P3 (by simp [Act.eval]) L3.out (fun j u h => (D4.out j u h).elim) O3.out HBS.out.2.1 HBS.out.2.2 HB1.out.size ?_; intro v3 w3 hown3 hg3 hn3; have HB3 := hid (HB1.out.grown hg3 HB1.out.size (fun j hj => (HO1.out.lt j hj).1)); obtain ⟨a3, k3, rfl⟩ := ownB_form hown3; have HO3 := hid hown3; clear hown3 hg3 hn3))
    go_wp2
    go_ret
    have hfin := HO3.out
    rw [HPL.out, HP.out] at hfin
    refine ⟨a3, k3, ?_, hfin, HB3.out⟩
    show Ending.returned (.slice a3 _ k3) = _
    rw [← HPL.out]
    simp
  · have hck' : ¬ c = k + 1 := by omega
    obtain ⟨P1, hP1⟩ : ∃ P1 : List Value, P1 = (l.take k).map Value.string := ⟨_, rfl⟩
    obtain ⟨P3, hP3⟩ : ∃ P3 : List Value, P3 = (l.drop (k + 1)).map Value.string := ⟨_, rfl⟩
    have L1 := hid (show P1.length = k * 1 by rw [hP1]; simp; omega)
    have L3 := hid (show P3.length = (l.length - (k + 1)) * 1 by rw [hP3]; simp)
    have D3 := hid (fun W (hb : Below w.heap.size w W) => (show ∀ j u, P3[j]? = some u → W.cell? ⟨g, o + (k + 1) + j, none⟩ = some u by rw [hP3]; intro j u h; have := strs_cells_from (HE.out.stay hb (Nat.le_refl _)) (k + 1) j u h; rwa [Addr.add_lit] at this))
    have HPL := hid (show 0 + k + (l.length - (k + 1)) = (outT l k).length by unfold outT; simp; omega)
    have O1 := hid (show ∀ u ∈ P1, u.oneCell' = true by rw [hP1]; exact strs_one _)
    have O3 := hid (show ∀ u ∈ P3, u.oneCell' = true by rw [hP3]; exact strs_one _)
    have D1 := hid (fun W (hb : Below w.heap.size w W) => (show ∀ j u, P1[j]? = some u → W.cell? ((⟨g, o, none⟩ : Addr).add j) = some u by rw [hP1]; exact strs_cells_to (HE.out.stay hb (Nat.le_refl _)) k))
    have HP := hid (show ([] ++ P1) ++ P3 = (outT l k).map Value.string by rw [hP1, hP3]; unfold outT; simp)
    have HB0 := hid (show Below w.heap.size w (w.alloc (.cells #[] 9)).drew from ((Below.refl w.heap.size w).alloc (Nat.le_refl _) _).drew)
    have HW := hid (show (w.alloc (.cells #[] 9)).drew.ownsRow w.heap.size 9 1 (.slice (some ⟨w.heap.size, 0, none⟩) 0 0) 0 [] from own_made w 9)
    have hb1 : 0 + k ≤ maxLen := by unfold maxLen; omega
    have hb2 : (0 + k) * 16 ≤ 140737488355328 := by omega
    have hb3 : 0 + k + (l.length - (k + 1)) ≤ maxLen := by unfold maxLen; omega
    have hb4 : (0 + k + (l.length - (k + 1))) * 16 ≤ 140737488355328 := by omega
    have HBS := hid (And.intro (And.intro hb1 hb2) (And.intro hb3 hb4))
    clear hb1 hb2 hb3 hb4 hP1 hP3
    have hwr : IntKind.i64.wrap ((k : Int) + 1) = (k : Int) + 1 := by rw [IntKind.wrap_i64]; omega
    have hp0 : (0 : Int) ≤ (k : Int) + 1 := by omega
    have hp1 : (k : Int) + 1 ≤ (l.length : Int) := by omega
    have hp2 : ((k : Int) + 1).toNat = k + 1 := by omega
    have hp3 : (k : Int) ≤ (k : Int) + 1 := by omega
    have hk1 : k ≤ l.length := by omega
    have hk2 : k ≤ c := by omega
    go_wp2_with fail
    go_region_law (first | (refine step_append_own rfl (.tmp 5) (.tmp 8) 23 rfl w.heap.size 9 i0 _ 1 16 Tryz.underlying23 hi hz0 hz1 hz2 rfl (by decide) _ _ _ (by simp [Act.eval]) HW.out ⟨g, o, none⟩ k c P1 (by simp [Act.eval]) L1.out (D1.out _ HB0.out) O1.out HBS.out.1.1 HBS.out.1.2 HB0.out.size ?_; intro v1 w1 hown1 hg1 hn1; have HB1 := hid (HB0.out.grown hg1 HB0.out.size (fun j hj => (HW.out.lt j hj).1)); obtain ⟨a1, k1, rfl⟩ := ownB_form hown1; have HO1 := hid hown1; clear hown1 hg1 hn1) | (refine step_append_own rfl (.tmp 9) (.tmp 13) 23 rfl w.heap.size 9 i0 _ 1 16 Tryz.underlying23 hi hz0 hz1 hz2 rfl (by decide) _ _ _ (by simp [Act.eval]) HO1.out ⟨g, o + (k + 1), none⟩ (l.length - (k + 1)) (c - (k + 1)) P3 (by simp [Act.eval]) L3.out (fun j u h => by rw [Addr.add_lit]; exact D3.out _ HB1.out j u h) O3.out HBS.out.2.1 HBS.out.2.2 HB1.out.size ?_; intro v3 w3 hown3 hg3 hn3; have HB3 := hid (HB1.out.grown hg3 HB1.out.size (fun j hj => (HO1.out.lt j hj).1)); obtain ⟨a3, k3, rfl⟩ := ownB_form hown3; have HO3 := hid hown3; clear hown3 hg3 hn3))
    go_wp2
    go_ret
    have hfin := HO3.out
    rw [HPL.out, HP.out] at hfin
    refine ⟨a3, k3, ?_, hfin, HB3.out⟩
    show Ending.returned (.slice a3 _ k3) = _
    rw [← HPL.out]
    simp
theorem l03Out_own (b k : Nat) (v : Value) (l : List ByteArray) (w : World) (h : w.ownsRow b 9 1 v l.length (l.map Value.string)) (hk : k < l.length) (hn : l.length ≤ 1048576) :
    Calls Tryz.prog 97 #[v, .int .i64 k] w fun e w' => ∃ a n, e = .returned (.slice a (outT l k).length n) ∧ w'.ownsRow w.heap.size 9 1 (.slice a (outT l k).length n) (outT l k).length ((outT l k).map Value.string) ∧ Below w.heap.size w w' := by
  rcases h.2 with ⟨hv, h0⟩ | ⟨g, cap, cur, hv, _, _, hle, hcm, _⟩
  · omega
  · have hlt := (h.lt g (by rw [hv]; rfl)).2
    have hE : StrsAt w g 0 l := ⟨hlt, fun i hi => by
      have := h.cells (g := g) (by rw [hv]; rfl) i (.string l[i]) (by simp [hi])
      rw [Addr.add_lit] at this
      exact this⟩
    subst hv
    exact l03Out_row g 0 cap k l w hE hk hle hn hcm
end Go.Proofs.YthggcdadipjiiaaGreatDoor

/-
  Two blocks laid: nothing old has turned. Of no function.
-/
namespace Go.Proofs.YthggcdadipjiiaaGreatDoor
open Go.RowKit

theorem below2 (w : World) (o1 o2 : Obj) : Below w.heap.size w ((w.alloc o1).alloc o2) := ((Below.refl _ _).alloc (Nat.le_refl _) o1).alloc (by simp) o2
end Go.Proofs.YthggcdadipjiiaaGreatDoor

/-
  What the type impl.Var is in memory. Of no function.
-/
namespace Go.Proofs.YthggcdadipjiiaaGreatDoor
open Go.RowKit

theorem Tryz.infoVar : (Tryz.prog.info? 138).map (fun i => (i.zero, i.size, i.bytes)) = some (some (.agg #[.string ⟨#[]⟩, .string ⟨#[]⟩]), 2, 32) := by kernel_rfl
end Go.Proofs.YthggcdadipjiiaaGreatDoor

/-
  append of any slice onto a row of one's own, at the walk of a list: laws. Of no function.
-/
namespace Go.Proofs.YthggcdadipjiiaaGreatDoor
open Go.RowKit

theorem wpList_append_nil {P : Program} {w : World} {ops : Array Oper} {rest : List Oper} {o : Oper} {a : Act} {Q : Exit → Act → World → Prop} (hgd : o.guard = none) (s x : Operand) (t : TypeId)
    (ho : o.op = .call { callee := .builtin .append, args := #[s, x], argTypes := #[t, t] })
    (base : Nat) (e : TypeId) (i : TypeInfo) (size c : Nat) (ht : P.underlying t = some (.slice e)) (hi : P.info? e = some i)
    (v : Value) (n : Nat) (xs : List Value) (hs : a.eval s = v) (hown : w.ownsRow base e size v n xs) (hx : a.eval x = .slice none 0 c)
    (h : wpList P ops Q rest (a.put o.dst v) w) : wpList P ops Q (o :: rest) a w := by
  refine wpList_plain hgd fun K hK => ?_
  have hrun := run_append_own_nil (P := P) (w := w) base t o.type e i size c ht hi v n xs hown
  unfold Oper.wp
  simp [execOp, ho, resolve, invoke, builtin, hs, hx, hrun, Result.andThen]
  exact hK _ _ h
theorem wpList_append_sl {P : Program} {w : World} {ops : Array Oper} {rest : List Oper} {o : Oper} {a : Act} {Q : Exit → Act → World → Prop} (hgd : o.guard = none) (s x : Operand) (t : TypeId)
    (ho : o.op = .call { callee := .builtin .append, args := #[s, x], argTypes := #[t, t] })
    (base : Nat) (e : TypeId) (i : TypeInfo) (z : Value) (size bytes : Nat) (ht : P.underlying t = some (.slice e)) (hi : P.info? e = some i) (hz : i.zero = some z)
    (hsize : i.size = size) (hby : i.bytes = bytes) (hzs : z.cells.size = size) (hsz : 0 < size)
    (v : Value) (n : Nat) (xs : List Value) (hs : a.eval s = v) (hown : w.ownsRow base e size v n xs)
    (m : Nat) (news : List Value) (X : Value) (hx : a.eval x = X) (hX : CellsSl w X size m news)
    (h63 : n + m ≤ maxLen) (hbytes : (n + m) * bytes ≤ 140737488355328) (hbase : base ≤ w.heap.size)
    (h : ∀ v' w', w'.ownsRow base e size v' (n + m) (xs ++ news) → w.grownBy w' v.ownBlock → wpList P ops Q rest (a.put o.dst v') w') : wpList P ops Q (o :: rest) a w := by
  obtain ⟨h1, h2, ⟨c, rfl, rfl⟩ | ⟨ad, c, rfl, h3⟩⟩ := hX
  · have hn : news = [] := List.eq_nil_of_length_eq_zero (by simpa using h1)
    subst hn
    refine wpList_append_nil hgd s x t ho base e i size c ht hi v n xs hs hown hx (h v w ?_ ?_)
    · simpa using hown
    · exact ⟨rfl, rfl, rfl, Nat.le_refl _, fun _ _ _ => rfl⟩
  · exact wpList_append_own w hgd s x t ho base e i z size bytes ht hi hz hsize hby hzs hsz v n xs hs hown ad m c news hx h1 h3 h2 h63 hbytes hbase fun v' w' g1 g2 _ => h v' w' g1 g2
end Go.Proofs.YthggcdadipjiiaaGreatDoor

/-
  append of any slice of texts, or of pairs, onto a row of one's own: laws for the walk.
-/
namespace Go.Proofs.YthggcdadipjiiaaGreatDoor
open Go.RowKit Go.Sort

end Go.Proofs.YthggcdadipjiiaaGreatDoor
