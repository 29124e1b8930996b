/-
  Texts put together: SpRuns, ImSA.
-/
import Derived.Test.YthggcdadipjiiaaGreatDoorZShRun2
import Derived.Test.YthggcdadipjiiaaGreatDoorZEvT5
import Derived.Maps.AppendAt
import Derived.Test.YthggcdadipjiiaaGreatDoorZImTold2
/-
  What spec.l04Runs answers: the runs of the events, rising: a contract over the seat's program. (Made by mkspruns.py.)
-/
namespace Go.Proofs.YthggcdadipjiiaaGreatDoor
open Go.RowKit Go.Sort

theorem ints_one (l : List Int) : ∀ u ∈ l.map (Value.int .i64), u.oneCell' = true := by
  intro u hu
  obtain ⟨s, _, rfl⟩ := List.mem_map.1 hu
  rfl
theorem ints_to {w : World} {g o : Nat} {l : List Int} (h : ∀ i, (hi : i < l.length) → w.cell? ⟨g, o + i, none⟩ = some (.int .i64 l[i])) (k : Nat) : ∀ j u, ((l.take k).map (Value.int .i64))[j]? = some u → w.cell? ((⟨g, o, none⟩ : Addr).add j) = some u := by
  intro j u hj
  rw [Addr.add_lit]
  rw [List.getElem?_map] at hj
  obtain ⟨s, hs, rfl⟩ := Option.map_eq_some_iff.1 hj
  obtain ⟨hlt, rfl⟩ := List.getElem?_eq_some_iff.1 hs
  rw [List.getElem_take]; exact h j (by rw [List.length_take] at hlt; omega)
theorem ints_from {w : World} {g o : Nat} {l : List Int} (h : ∀ i, (hi : i < l.length) → w.cell? ⟨g, o + i, none⟩ = some (.int .i64 l[i])) (k : Nat) : ∀ j u, ((l.drop k).map (Value.int .i64))[j]? = some u → w.cell? ((⟨g, o + k, none⟩ : Addr).add j) = some u := by
  intro j u hj
  rw [Addr.add_lit]
  rw [List.getElem?_map, List.getElem?_drop] at hj
  obtain ⟨s, hs, rfl⟩ := Option.map_eq_some_iff.1 hj
  obtain ⟨hlt, rfl⟩ := List.getElem?_eq_some_iff.1 hs
  rw [Nat.add_assoc]; exact h (k + j) hlt
theorem own_ne_nil {w : World} {base size n : Nat} {e : TypeId} {v : Value} {xs : List Value} (h : w.ownsRow base e size v n xs) (hn : 0 < n) : v ≠ .slice none 0 0 := by
  obtain ⟨a, c, rfl⟩ := ownB_form h
  intro e
  injection e with _ e _
  omega
theorem pairR {rs : List Int} (h : rs.Pairwise (· < ·)) {k i : Nat} (hk : k < rs.length) (hi : i < rs.length) (hki : k ≤ i) {x : Int} (hx : x < rs[k]) : x < rs[i] := by
  rcases Nat.lt_or_ge k i with h' | h'
  · have := List.pairwise_iff_getElem.1 h k i hk hi h'
    omega
  · obtain rfl : k = i := by omega
    exact hx

set_option maxRecDepth 100000 in
set_option maxHeartbeats 8000000 in
theorem l04Runs_any (a : Option Addr) (c : Nat) (es : List Ev) (w : World) (hE : EvSl w (.slice a es.length c) es) (hn : es.length ≤ 1048576) :
    Calls Tryz.prog 96 #[.slice a es.length c] w fun e w' => ∃ v rs, e = .returned v ∧ IsRuns es rs ∧ w'.ownsRow w.heap.size 2 1 v rs.length (rs.map (Value.int .i64)) ∧ Below w.heap.size w w' := by
  have HE := hid hE
  clear hE
  obtain ⟨i0, hi, hz0, hz1, hz2⟩ := info_parts Tryz.infoInt
  go_enter Tryz.func96, Tryz.ntmps96
  go_wp2
  go_loopw [3, 4] (fun v q wr => ∃ (i : Nat) (rs : List Int), i ≤ es.length ∧ q = .int .i64 i ∧ IsRuns (es.take i) rs ∧ wr.ownsRow w.heap.size 2 1 v rs.length (rs.map (Value.int .i64)) ∧ Below w.heap.size w wr ∧ v ≠ .slice none 0 0) (fun _ i _ => es.length - (intOf i).toNat)
  case atStart => exact ⟨0, [], Nat.zero_le _, rfl, isRuns_nil, own_made w _, (Below.refl _ _).alloc (Nat.le_refl _) _, by intro e; cases e⟩
  case round =>
    obtain ⟨i, rs, hk, rfl, hR, hown, hbel, hne⟩ := hrel
    have HO := hid hown
    have HB := hid hbel
    have HR := hid hR
    have hzr := hbel.size
    obtain ⟨g, cap, rfl, hbg, hgl, hnc, hcm, _, hH⟩ := Lib.holds_of_ownsRow hown hne
    have hrl : rs.length ≤ es.length := Nat.le_trans hR.len (List.length_take_le' _ _)
    have HC := hid (show ∀ i, (hi : i < rs.length) → wr.cell? ⟨g, 0 + i, none⟩ = some (.int .i64 rs[i]) from fun i hi => by
      have := (hH i (by simpa using hi)).1
      rw [getElem!_pos rs.toArray i (by simpa using hi)] at this
      simpa using this)
    have HOB := hid (fun (X : World) (hX : Below wr.heap.size wr X) => ownB_stay hown hX)
    clear hown hbel hne hR hH
    by_cases hlt : i < es.length
    · obtain ⟨eg, eo, rfl, hQ⟩ := HE.out.row (by omega)
      have heg := hQ.1
      have e2r := ((hQ.stay HB.out (Nat.le_refl _)).2 i hlt).c2
      have HX := hid (show es.take (i + 1) = es.take i ++ [es[i]] from List.take_succ_eq_append_getElem hlt)
      have HPUT := hid (fun (k : Nat) (h1 : ∀ j, (hj : j < rs.length) → j < k → rs[j] < es[i].run) (h2 : ∀ j, (hj : j < rs.length) → k ≤ j → es[i].run < rs[j]) => show IsRuns (es.take (i + 1)) (putR rs k es[i].run) from HX.out ▸ HR.out.put h1 h2)
      have HTHR := hid (fun (h : es[i].run ∈ rs) => show IsRuns (es.take (i + 1)) rs from HX.out ▸ HR.out.there h)
      clear hQ HX
      generalize es[i] = x at *
      obtain ⟨wo, rfl⟩ : ∃ q, q = wr := ⟨_, rfl⟩
      go_wp2
      go_loopw [5] (fun q w2 => ∃ k : Nat, k ≤ rs.length ∧ q = .int .i64 k ∧ (∀ j, (hj : j < rs.length) → j < k → rs[j] < x.run) ∧ Below wo.heap.size wo w2) (fun i _ => rs.length - (intOf i).toNat)
      case atStart => exact ⟨0, Nat.zero_le _, rfl, fun j _ hj => absurd hj (by omega), Below.refl _ _⟩
      case round =>
        obtain ⟨k, hkr, rfl, hall, hb2⟩ := hrel
        have HA1 := hid hall
        have HBi := hid hb2
        have hzi := hb2.size
        have e2 : wr.drew.cell? ⟨eg, eo + i * 6 + 2, none⟩ = some (.int .i64 x.run) := (hb2.cell (p := ⟨eg, eo + i * 6 + 2, none⟩) (by show eg < _; omega)).trans e2r
        clear hall hb2
        by_cases hkl : k < rs.length
        · have d0 : wr.drew.cell? ⟨g, k, none⟩ = some (.int .i64 rs[k]) := by
            have := (HBi.out.cell (p := ⟨g, 0 + k, none⟩) hgl).trans (HC.out k hkl)
            rw [Nat.zero_add] at this
            exact this
          have HST := hid (fun (h : rs[k] < x.run) => show ∀ j, (hj : j < rs.length) → j < k + 1 → rs[j] < x.run from fun j hj hjk => by
            by_cases e : j = k
            · subst e; exact h
            · exact HA1.out j hj (by omega))
          have HM := hid (fun (h : rs[k] = x.run) => show x.run ∈ rs from h ▸ List.getElem_mem hkl)
          have HGT := hid (fun (h : x.run < rs[k]) => show ∀ j, (hj : j < rs.length) → k ≤ j → x.run < rs[j] from fun j hj hkj => pairR HR.out.rise hkl hj hkj h)
          generalize rs[k] = y at *
          by_cases hx : y < x.run
          · go_wp2_with fail
            go_region
            go_wp2
            go_roundw
            case rel => exact ⟨k + 1, by omega, by go_num, HST.out hx, HBi.out.drew⟩
            case measure => simp [intOf]; omega
          · by_cases hxe : y = x.run
            · have HTR := hid (HTHR.out (HM.out hxe))
              subst hxe
              have e3 : wr.drew.drew.cell? ⟨eg, eo + i * 6 + 2, none⟩ = some (.int .i64 x.run) := e2
              have d3 : wr.drew.drew.cell? ⟨g, k, none⟩ = some (.int .i64 x.run) := d0
              go_wp2_with fail
              go_region
              go_wp2_with fail
              go_region
              go_wp2
              go_roundw
              case rel => exact ⟨i + 1, rs, by omega, by go_num, HTR.out, HOB.out _ (HBi.out.drew.drew), HB.out.trans ((HBi.out.drew.drew).mono (by omega)), by intro e; cases e⟩
              case measure => simp [intOf]; omega
            · have hgt : x.run < y := by omega
              have hbe : (y == x.run) = false := by simpa using hxe
              have e3 : wr.drew.drew.cell? ⟨eg, eo + i * 6 + 2, none⟩ = some (.int .i64 x.run) := e2
              have d3 : wr.drew.drew.cell? ⟨g, k, none⟩ = some (.int .i64 y) := d0
              have HPR := hid (HPUT.out k HA1.out (HGT.out hgt))
              go_wp2_with fail
              go_region
              go_wp2_with fail
              go_region
              go_upto_region 9 with fail
              have HBU := hid (HB.out.trans ((HBi.out.drew.drew).mono (by omega)))
              have HCU := hid (show ∀ j, (hj : j < rs.length) → wr.drew.drew.cell? ⟨g, 0 + j, none⟩ = some (.int .i64 rs[j]) from fun j hj => (HBi.out.cell (p := ⟨g, 0 + j, none⟩) hgl).trans (HC.out j hj))
              have hzU : w.heap.size ≤ wr.drew.drew.heap.size := HBU.out.size
              have hgU : g < wr.drew.drew.heap.size := by show g < wr.heap.size; omega
              have hegU : eg < wr.drew.drew.heap.size := by show eg < wr.heap.size; omega
              generalize wr.drew.drew = U at *
              have hown0 := own_made U 2
              obtain ⟨P1, hP1⟩ : ∃ P1 : List Value, P1 = (rs.take k).map (Value.int .i64) := ⟨_, rfl⟩
              obtain ⟨P3, hP3⟩ : ∃ P3 : List Value, P3 = (rs.drop k).map (Value.int .i64) := ⟨_, rfl⟩
              have L1 := hid (show P1.length = k * 1 by rw [hP1]; simp; omega)
              have L3 := hid (show P3.length = (rs.length - k) * 1 by rw [hP3]; simp)
              have O1 := hid (show ∀ u ∈ P1, u.oneCell' = true by rw [hP1]; exact ints_one _)
              have O3 := hid (show ∀ u ∈ P3, u.oneCell' = true by rw [hP3]; exact ints_one _)
              have D1 := hid (fun W (hb : Below U.heap.size U W) => (show ∀ j u, P1[j]? = some u → W.cell? ((⟨g, 0, none⟩ : Addr).add j) = some u by rw [hP1]; exact fun j u h => ints_to (fun i hi => (hb.cell (p := ⟨g, 0 + i, none⟩) hgU).trans (HCU.out i hi)) k j u h))
              have D3 := hid (fun W (hb : Below U.heap.size U W) => (show ∀ j u, P3[j]? = some u → W.cell? ((⟨g, k, none⟩ : Addr).add j) = some u by rw [hP3]; exact fun j u h => by have := ints_from (o := 0) (fun i hi => (hb.cell (p := ⟨g, 0 + i, none⟩) hgU).trans (HCU.out i hi)) k j u h; rwa [Nat.zero_add] at this))
              have HP := hid (show P1 ++ (Value.int .i64 x.run) :: P3 = (putR rs k x.run).map (Value.int .i64) by rw [hP1, hP3]; unfold putR; simp)
              have HPL := hid (show k + 1 + (rs.length - k) = (putR rs k x.run).length by unfold putR; simp; omega)
              clear hP1 hP3
              go_wp2_with (first | (at_builtin; refine wpList_append_own _ rfl _ _ 56 rfl U.heap.size 2 i0 _ 1 8 Tryz.underlying56 hi hz0 hz1 hz2 rfl (by decide) _ _ _ rfl hown0 ⟨g, 0, none⟩ k _ P1 rfl L1.out ?c1 O1.out ?c3 ?c4 (by simp) ?_) | fail)
              case c1 => exact D1.out _ ((Below.refl U.heap.size U).alloc (Nat.le_refl _) _)
              case c3 => unfold maxLen; omega
              case c4 => omega
              intro v1 w1 hown1 hg1 _
              have HB1 := hid (((Below.refl U.heap.size U).alloc (Nat.le_refl _) (.cells #[] 2)).grown hg1 (by simp) (fun j hj => (hown0.lt j hj).1))
              obtain ⟨a1, k1, rfl⟩ := ownB_form hown1
              have HO1 := hid hown1
              have hz1' := HB1.out.size
              have b2 := (HB1.out.cell (p := ⟨eg, eo + i * 6 + 2, none⟩) hegU).trans e3
              clear hown0 hown1 hg1
              go_wp2_with (first | (at_builtin; refine wpList_append_own _ rfl _ _ 56 rfl U.heap.size 2 i0 _ 1 8 Tryz.underlying56 hi hz0 hz1 hz2 rfl (by decide) _ _ _ rfl (HO1.out.alloc _) ⟨w1.heap.size, 0, none⟩ 1 1 [.int .i64 x.run] rfl rfl ?c1 (ints_one [x.run]) ?c3 ?c4 (by simp; omega) ?_) | fail)
              case c1 => exact int_new_cell _ _ _
              case c3 => unfold maxLen; omega
              case c4 => omega
              intro v2 w2 hown2 hg2 _
              have HB2 := hid ((HB1.out.alloc hz1' (.cells #[.int .i64 x.run] 2)).grown hg2 (by simp; omega) (fun j hj => (HO1.out.lt j hj).1))
              obtain ⟨a2, k2, rfl⟩ := ownB_form hown2
              have HO2 := hid hown2
              have hz2' := HB2.out.size
              clear hown2 hg2 HO1 HB1 b2
              go_wp2_with (first | (at_builtin; refine wpList_append_own _ rfl _ _ 56 rfl U.heap.size 2 i0 _ 1 8 Tryz.underlying56 hi hz0 hz1 hz2 rfl (by decide) _ _ _ rfl HO2.out ⟨g, k, none⟩ (rs.length - k) _ P3 rfl L3.out ?c1 O3.out ?c3 ?c4 hz2' ?_) | fail)
              case c1 => exact D3.out _ HB2.out
              case c3 => unfold maxLen; omega
              case c4 => omega
              intro v3 w3 hown3 hg3 _
              have HB3 := hid (HB2.out.grown hg3 hz2' (fun j hj => (HO2.out.lt j hj).1))
              have hO3 := ownB_le hown3 hzU
              rw [HPL.out, HP.out] at hO3
              have HO3 := hid hO3
              clear hown3 hO3 hg3 HO2 HB2
              go_wp2
              go_roundw
              case rel => exact ⟨i + 1, _, by omega, by go_num, HPR.out, HO3.out, HBU.out.trans (HB3.out.mono (by omega)), own_ne_nil HO3.out (by unfold putR; simp; omega)⟩
              case measure => simp [intOf]; omega
        · have HH := hid (show rs.length ≤ k by omega)
          have HPR := hid (HPUT.out k HA1.out (fun j hj h => absurd h (by have := HH.out; omega)))
          have e3 : wr.drew.drew.cell? ⟨eg, eo + i * 6 + 2, none⟩ = some (.int .i64 x.run) := e2
          go_wp2_with fail
          go_region
          go_wp2_with fail
          go_region
          go_upto_region 9 with fail
          by_cases hck : cap = k
          · subst hck
            have HBU := hid (HB.out.trans ((HBi.out.drew.drew).mono (by omega)))
            have HCU := hid (show ∀ j, (hj : j < rs.length) → wr.drew.drew.cell? ⟨g, 0 + j, none⟩ = some (.int .i64 rs[j]) from fun j hj => (HBi.out.cell (p := ⟨g, 0 + j, none⟩) hgl).trans (HC.out j hj))
            have hzU : w.heap.size ≤ wr.drew.drew.heap.size := HBU.out.size
            have hgU : g < wr.drew.drew.heap.size := by show g < wr.heap.size; omega
            have hegU : eg < wr.drew.drew.heap.size := by show eg < wr.heap.size; omega
            generalize wr.drew.drew = U at *
            have hown0 := own_made U 2
            obtain ⟨P1, hP1⟩ : ∃ P1 : List Value, P1 = (rs.take cap).map (Value.int .i64) := ⟨_, rfl⟩
            obtain ⟨P3, hP3⟩ : ∃ P3 : List Value, P3 = (rs.drop cap).map (Value.int .i64) := ⟨_, rfl⟩
            have L1 := hid (show P1.length = cap * 1 by rw [hP1]; simp; omega)
            have L3 := hid (show P3.length = 0 * 1 by rw [hP3]; simp; have := HH.out; omega)
            have O1 := hid (show ∀ u ∈ P1, u.oneCell' = true by rw [hP1]; exact ints_one _)
            have O3 := hid (show ∀ u ∈ P3, u.oneCell' = true by rw [hP3]; exact ints_one _)
            have D1 := hid (fun W (hb : Below U.heap.size U W) => (show ∀ j u, P1[j]? = some u → W.cell? ((⟨g, 0, none⟩ : Addr).add j) = some u by rw [hP1]; exact fun j u h => ints_to (fun i hi => (hb.cell (p := ⟨g, 0 + i, none⟩) hgU).trans (HCU.out i hi)) cap j u h))
            have D4 := hid (show ∀ (j : Nat) (u : Value), P3[j]? = some u → False by rw [hP3, List.drop_eq_nil_of_le HH.out]; intro j u hj; simp at hj)
            have HP := hid (show P1 ++ (Value.int .i64 x.run) :: P3 = (putR rs cap x.run).map (Value.int .i64) by rw [hP1, hP3]; unfold putR; simp)
            have HPL := hid (show cap + 1 = (putR rs cap x.run).length by unfold putR; simp; have := HH.out; omega)
            clear hP1 hP3
            go_wp2_with (first | (at_builtin; refine wpList_append_own _ rfl _ _ 56 rfl U.heap.size 2 i0 _ 1 8 Tryz.underlying56 hi hz0 hz1 hz2 rfl (by decide) _ _ _ rfl hown0 ⟨g, 0, none⟩ cap _ P1 rfl L1.out ?c1 O1.out ?c3 ?c4 (by simp) ?_) | fail)
            case c1 => exact D1.out _ ((Below.refl U.heap.size U).alloc (Nat.le_refl _) _)
            case c3 => unfold maxLen; omega
            case c4 => omega
            intro v1 w1 hown1 hg1 _
            have HB1 := hid (((Below.refl U.heap.size U).alloc (Nat.le_refl _) (.cells #[] 2)).grown hg1 (by simp) (fun j hj => (hown0.lt j hj).1))
            obtain ⟨a1, k1, rfl⟩ := ownB_form hown1
            have HO1 := hid hown1
            have hz1' := HB1.out.size
            have b2 := (HB1.out.cell (p := ⟨eg, eo + i * 6 + 2, none⟩) hegU).trans e3
            clear hown0 hown1 hg1
            go_wp2_with (first | (at_builtin; refine wpList_append_own _ rfl _ _ 56 rfl U.heap.size 2 i0 _ 1 8 Tryz.underlying56 hi hz0 hz1 hz2 rfl (by decide) _ _ _ rfl (HO1.out.alloc _) ⟨w1.heap.size, 0, none⟩ 1 1 [.int .i64 x.run] rfl rfl ?c1 (ints_one [x.run]) ?c3 ?c4 (by simp; omega) ?_) | fail)
            case c1 => exact int_new_cell _ _ _
            case c3 => unfold maxLen; omega
            case c4 => omega
            intro v2 w2 hown2 hg2 _
            have HB2 := hid ((HB1.out.alloc hz1' (.cells #[.int .i64 x.run] 2)).grown hg2 (by simp; omega) (fun j hj => (HO1.out.lt j hj).1))
            obtain ⟨a2, k2, rfl⟩ := ownB_form hown2
            have HO2 := hid hown2
            have hz2' := HB2.out.size
            clear hown2 hg2 HO1 HB1 b2
            go_wp2_with (first | (at_builtin; refine wpList_append_own _ rfl _ _ 56 rfl U.heap.size 2 i0 _ 1 8 Tryz.underlying56 hi hz0 hz1 hz2 rfl (by decide) _ _ _ rfl HO2.out _ 0 _ P3 rfl L3.out ?c1 O3.out ?c3 ?c4 hz2' ?_) | fail)
            case c1 => exact fun j u h => (D4.out j u h).elim
            case c3 => unfold maxLen; omega
            case c4 => omega
            intro v3 w3 hown3 hg3 _
            have HB3 := hid (HB2.out.grown hg3 hz2' (fun j hj => (HO2.out.lt j hj).1))
            have hO3 := ownB_le hown3 hzU
            rw [HPL.out, HP.out] at hO3
            have HO3 := hid hO3
            clear hown3 hO3 hg3 HO2 HB2
            go_wp2
            go_roundw
            case rel => exact ⟨i + 1, _, by omega, by go_num, HPR.out, HO3.out, HBU.out.trans (HB3.out.mono (by omega)), own_ne_nil HO3.out (by unfold putR; simp; omega)⟩
            case measure => simp [intOf]; omega
          · have hck2 : k < cap := by omega
            have HBU := hid (HB.out.trans ((HBi.out.drew.drew).mono (by omega)))
            have HCU := hid (show ∀ j, (hj : j < rs.length) → wr.drew.drew.cell? ⟨g, 0 + j, none⟩ = some (.int .i64 rs[j]) from fun j hj => (HBi.out.cell (p := ⟨g, 0 + j, none⟩) hgl).trans (HC.out j hj))
            have hzU : w.heap.size ≤ wr.drew.drew.heap.size := HBU.out.size
            have hgU : g < wr.drew.drew.heap.size := by show g < wr.heap.size; omega
            have hegU : eg < wr.drew.drew.heap.size := by show eg < wr.heap.size; omega
            generalize wr.drew.drew = U at *
            have hown0 := own_made U 2
            obtain ⟨P1, hP1⟩ : ∃ P1 : List Value, P1 = (rs.take k).map (Value.int .i64) := ⟨_, rfl⟩
            obtain ⟨P3, hP3⟩ : ∃ P3 : List Value, P3 = (rs.drop k).map (Value.int .i64) := ⟨_, rfl⟩
            have L1 := hid (show P1.length = k * 1 by rw [hP1]; simp; omega)
            have L3 := hid (show P3.length = (rs.length - k) * 1 by rw [hP3]; simp)
            have O1 := hid (show ∀ u ∈ P1, u.oneCell' = true by rw [hP1]; exact ints_one _)
            have O3 := hid (show ∀ u ∈ P3, u.oneCell' = true by rw [hP3]; exact ints_one _)
            have D1 := hid (fun W (hb : Below U.heap.size U W) => (show ∀ j u, P1[j]? = some u → W.cell? ((⟨g, 0, none⟩ : Addr).add j) = some u by rw [hP1]; exact fun j u h => ints_to (fun i hi => (hb.cell (p := ⟨g, 0 + i, none⟩) hgU).trans (HCU.out i hi)) k j u h))
            have D4 := hid (show ∀ (j : Nat) (u : Value), P3[j]? = some u → False by rw [hP3, List.drop_eq_nil_of_le HH.out]; intro j u hj; simp at hj)
            have HP := hid (show P1 ++ (Value.int .i64 x.run) :: P3 = (putR rs k x.run).map (Value.int .i64) by rw [hP1, hP3]; unfold putR; simp)
            have HPL := hid (show k + 1 + (rs.length - k) = (putR rs k x.run).length by unfold putR; simp; omega)
            clear hP1 hP3
            go_wp2_with (first | (at_builtin; refine wpList_append_own _ rfl _ _ 56 rfl U.heap.size 2 i0 _ 1 8 Tryz.underlying56 hi hz0 hz1 hz2 rfl (by decide) _ _ _ rfl hown0 ⟨g, 0, none⟩ k _ P1 rfl L1.out ?c1 O1.out ?c3 ?c4 (by simp) ?_) | fail)
            case c1 => exact D1.out _ ((Below.refl U.heap.size U).alloc (Nat.le_refl _) _)
            case c3 => unfold maxLen; omega
            case c4 => omega
            intro v1 w1 hown1 hg1 _
            have HB1 := hid (((Below.refl U.heap.size U).alloc (Nat.le_refl _) (.cells #[] 2)).grown hg1 (by simp) (fun j hj => (hown0.lt j hj).1))
            obtain ⟨a1, k1, rfl⟩ := ownB_form hown1
            have HO1 := hid hown1
            have hz1' := HB1.out.size
            have b2 := (HB1.out.cell (p := ⟨eg, eo + i * 6 + 2, none⟩) hegU).trans e3
            clear hown0 hown1 hg1
            go_wp2_with (first | (at_builtin; refine wpList_append_own _ rfl _ _ 56 rfl U.heap.size 2 i0 _ 1 8 Tryz.underlying56 hi hz0 hz1 hz2 rfl (by decide) _ _ _ rfl (HO1.out.alloc _) ⟨w1.heap.size, 0, none⟩ 1 1 [.int .i64 x.run] rfl rfl ?c1 (ints_one [x.run]) ?c3 ?c4 (by simp; omega) ?_) | fail)
            case c1 => exact int_new_cell _ _ _
            case c3 => unfold maxLen; omega
            case c4 => omega
            intro v2 w2 hown2 hg2 _
            have HB2 := hid ((HB1.out.alloc hz1' (.cells #[.int .i64 x.run] 2)).grown hg2 (by simp; omega) (fun j hj => (HO1.out.lt j hj).1))
            obtain ⟨a2, k2, rfl⟩ := ownB_form hown2
            have HO2 := hid hown2
            have hz2' := HB2.out.size
            clear hown2 hg2 HO1 HB1 b2
            go_wp2_with (first | (at_builtin; refine wpList_append_own _ rfl _ _ 56 rfl U.heap.size 2 i0 _ 1 8 Tryz.underlying56 hi hz0 hz1 hz2 rfl (by decide) _ _ _ rfl HO2.out ⟨g, k, none⟩ (rs.length - k) _ P3 rfl L3.out ?c1 O3.out ?c3 ?c4 hz2' ?_) | fail)
            case c1 => exact fun j u h => (D4.out j u h).elim
            case c3 => unfold maxLen; omega
            case c4 => omega
            intro v3 w3 hown3 hg3 _
            have HB3 := hid (HB2.out.grown hg3 hz2' (fun j hj => (HO2.out.lt j hj).1))
            have hO3 := ownB_le hown3 hzU
            rw [HPL.out, HP.out] at hO3
            have HO3 := hid hO3
            clear hown3 hO3 hg3 HO2 HB2
            go_wp2
            go_roundw
            case rel => exact ⟨i + 1, _, by omega, by go_num, HPR.out, HO3.out, HBU.out.trans (HB3.out.mono (by omega)), own_ne_nil HO3.out (by unfold putR; simp; omega)⟩
            case measure => simp [intOf]; omega
    · obtain rfl : i = es.length := by omega
      have hR := HR.out
      rw [List.take_length] at hR
      go_wp2
      go_ret
      exact ⟨_, rfl, rs, hR, HO.out, HB.out⟩
end Go.Proofs.YthggcdadipjiiaaGreatDoor

/-
  What one event does, told of the State. Of no function. (Cut off ImSS.)
-/
namespace Go.Proofs.YthggcdadipjiiaaGreatDoor
open Go.RowKit Go.Maps Go.WideMaps Go.Sort

theorem evS_no {ss : List ByteArray} {fs : List Pr} {S : St} {e : Ev} (h : ¬ (evS ss fs S e).1 = 0) : (evS ss fs S e).2 = z0 := by
  unfold evS at h ⊢
  by_cases h1 : evB e = true
  · rw [if_pos h1] at h ⊢
    unfold stepS at h ⊢
    by_cases h2 : awB S.status e.kind = true
    · rw [if_pos h2] at h ⊢
      by_cases h3 : e.time < S.last
      · rw [if_pos h3]
      · rw [if_neg h3] at h ⊢; exact doS_no h
    · rw [if_neg h2]
  · rw [if_neg h1]
end Go.Proofs.YthggcdadipjiiaaGreatDoor
