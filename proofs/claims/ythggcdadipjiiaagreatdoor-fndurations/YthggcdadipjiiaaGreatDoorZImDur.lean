/-
  impl.Durations: what it answers: a contract over the seat's program.
-/
import Derived.Test.YthggcdadipjiiaaGreatDoorZSpHist3
import Derived.Test.YthggcdadipjiiaaGreatDoorZImTim2
import Derived.Test.YthggcdadipjiiaaGreatDoorZItsC2
import Derived.Test.YthggcdadipjiiaaGreatDoorZDuH3
import Derived.Test.YthggcdadipjiiaaGreatDoorZDfV3
import Derived.Test.YthggcdadipjiiaaGreatDoorZSpOut6
namespace Go.Proofs.YthggcdadipjiiaaGreatDoor
open Go.RowKit Go.Shelf Go.Sort
set_option linter.unusedVariables false

theorem dflat_app (l : List Dur) (d : Dur) : dflat (l ++ [d]) = dflat l ++ d.cells := by simp [dflat]
theorem Tryz.infoDurI : (Tryz.prog.info? 35).map (fun i => (i.zero, i.size, i.bytes)) = some (some (.agg #[.string ⟨#[]⟩, .int .i64 0, .int .i64 0, .int .i64 0, .int .i64 0]), 5, 48) := by kernel_rfl
theorem own_cellsI {w : World} {base n c : Nat} {e : TypeId} {a : Option Addr} {xs : List Int} (h : w.ownsRow base e 1 (.slice a n c) n (xs.map (Value.int .i64))) : CellsSl w (.slice a n c) 1 n (xs.map (Value.int .i64)) := by
  refine ⟨by have := h.1; omega, fun u hu => ?_, ?_⟩
  · obtain ⟨x, _, rfl⟩ := List.mem_map.1 hu; rfl
  rcases Nat.eq_zero_or_pos n with h0 | h0
  · subst h0
    rcases a with _ | ad
    · exact .inl ⟨c, rfl, rfl⟩
    · exact .inr ⟨ad, c, rfl, fun j u hj => by
        have := h.1
        rw [Nat.zero_mul] at this
        rw [List.eq_nil_of_length_eq_zero this] at hj; simp at hj⟩
  · obtain ⟨g, rfl⟩ := own_somei h h0
    refine .inr ⟨_, c, rfl, fun j u hj => ?_⟩
    rw [Addr.add_lit, Nat.zero_add]
    exact (own_cellf h).1 j u hj
theorem dur_made (X : World) (d : Dur) (T : TypeId) : CellsSl (X.alloc (.cells #[.string d.step, .int .i64 d.count, .int .i64 d.sum, .int .i64 d.least, .int .i64 d.most] T)) (.slice (some ⟨X.heap.size, 0, none⟩) 1 1) 5 1 d.cells :=
  ⟨rfl, fun u hu => dflat_one [d] u (by simpa [dflat] using hu), .inr ⟨⟨X.heap.size, 0, none⟩, 1, rfl, fun j u hj => by
    rw [Addr.add_lit, Lib.cell_of_heap (heap_alloc_new X _)]
    simpa [Dur.cells] using hj⟩⟩
set_option maxRecDepth 100000 in
theorem firstOfD_own (W : World) (base : Nat) (v : Value) (m : Nat) (ys : List Value) (h : W.ownsRow base 35 5 v m ys) (hm : m ≤ 1048576) :
    Calls Tryz.prog 28 #[v, .int .i64 (m : Int)] W fun e w' => ∃ v', e = .returned v' ∧ RowL w' base 35 5 v' m ys ∧ w' = W := by
  have HL := hid (RowL.of_own h)
  rcases h.2 with ⟨rfl, rfl⟩ | ⟨g, cap, cur, rfl, hb, hh, h1, h2, h3, h4⟩
  · clear h
    go_enter Tryz.func28, Tryz.ntmps28
    go_wp2
    go_ret
    exact ⟨_, rfl, HL.out, rfl⟩
  · have HV := hid (show RowL W base 35 5 (.slice (some ⟨g, 0, none⟩) m m) m ys from ⟨h.1, ⟨_, _, rfl⟩, fun h0 => ⟨g, m, cur.toList, rfl, hb, by simpa using hh, by have := Nat.mul_le_mul_right 5 h1; simp [h3]; omega, h4⟩⟩)
    unfold maxLen at h2
    clear h hh hb h3 h4 HL
    go_enter Tryz.func28, Tryz.ntmps28
    go_wp2
    go_ret
    exact ⟨_, rfl, HV.out, rfl⟩
set_option maxRecDepth 100000 in
theorem valuesS_any (a : Option Addr) (n c : Nat) (w : World) : Calls Tryz.prog 24 #[.slice a n c] w fun e w' => e = .returned (.func (.func 62) #[] #[.pointer (some ⟨w.heap.size, 0, none⟩)]) ∧ w' = w.alloc (.cells #[.slice a n c] 23) := by
  go_enter Tryz.func24, Tryz.ntmps24
  go_wp2
  refine bodyPost_ret (v := .func (.func 62) #[] #[.pointer (some ⟨w.heap.size, 0, none⟩)]) (by simp [results, Tryz.results24, go_sem]) rfl ?_
  exact ⟨rfl, rfl⟩
/-- The lastings of a step in a run, where the history is right. -/
theorem lastR_any {ss : List ByteArray} {fs : List Pr} {es : List Ev} (h : HistP ss fs es) (r : Int) (s : ByteArray) (lb : Array Value) (X : World) (hS : Sq tyI Tryz.prog 92 lb evA X.heap.size (ofRun es r) X) :
    Calls Tryz.prog 25 #[.func (.func 92) #[] lb, .string s] X fun e w' => ∃ a c, e = .returned (.slice a (lastL es r s).length c) ∧ w'.ownsRow X.heap.size 2 1 (.slice a (lastL es r s).length c) (lastL es r s).length ((lastL es r s).map (Value.int .i64)) ∧ Below X.heap.size X w' := by
  have ht : ∀ k, ∀ x ∈ pickT (ofRun es r) k s, 0 ≤ x ∧ x ≤ 1000000 := fun k x hx => by
    obtain ⟨e, he, rfl⟩ := List.mem_map.1 hx
    have he1 := (List.mem_filter.1 (List.mem_filter.1 he).1).1
    obtain ⟨j, hj, rfl⟩ := List.mem_iff_getElem.1 he1
    exact h.time j hj
  have hk : ∀ k : Int, (pickT (ofRun es r) k s).length = nK k r s es := fun k => by
    rw [← nK_len]
    unfold pickT ofRun
    rw [List.length_map, List.filter_filter]
    congr 2
    funext e
    unfold isKS isK
    by_cases h1 : e.kind = k <;> by_cases h2 : e.run = r <;> by_cases h3 : e.step = s <;> simp [h1, h2, h3]
  have hle : (pickT (ofRun es r) 3 s).length ≤ (pickT (ofRun es r) 2 s).length := by
    rw [hk, hk]
    have := h.bal es.length r s
    rwa [List.take_length] at this
  have hl : (pickT (ofRun es r) 3 s).length = (lastL es r s).length := by
    rw [← las_eq, List.length_zipWith]; omega
  refine (lastings_any 92 X.heap.size lb (ofRun es r) s X (enters_of Tryz.func92 (by kernel_rfl) rfl) hS (Nat.le_refl _) (Nat.le_trans (ofRun_len es r) (Nat.le_trans h.n (by decide))) hle (ht 3) (ht 2)).mono ?_
  rintro e w' ⟨v, rfl, ho, hb⟩
  rw [hl, las_eq] at ho
  obtain ⟨a, c, rfl⟩ := ownB_form ho
  exact ⟨a, c, rfl, ho, hb⟩
set_option maxRecDepth 100000 in
set_option maxHeartbeats 8000000 in
theorem imDur_of (a1 a2 a6 : Option Addr) (k1 k2 k6 : Nat) (ss : List ByteArray) (fs : List Pr) (es : List Ev) (w : World) (hD : DefSl w a1 a2 k1 k2 ss fs) (hE : EvSl w (.slice a6 es.length k6) es) (n6 : es.length ≤ maxLen)
    (cR : ∀ X, Below w.heap.size w X → Calls Tryz.prog 21 #[defV a1 a2 k1 k2 ss fs, .slice a6 es.length k6] X fun x w' => RetB x (HistP ss fs es) ∧ Below X.heap.size X w') :
    Calls Tryz.prog 6 #[defV a1 a2 k1 k2 ss fs, .slice a6 es.length k6] w fun e w' => ∃ l v, e = .returned v ∧ RowL w' w.heap.size 35 5 v l.length (dflat l) ∧ Below w.heap.size w w' ∧ (HistP ss fs es → l = dursI es es.length) ∧ (¬ HistP ss fs es → l = []) := by
  have hbW : Below w.heap.size w (w.alloc (.cells #[.slice a1 ss.length k1, .slice a2 fs.length k2] 26)) := (Below.refl _ _).alloc (Nat.le_refl _) _
  have HX := hid (heap_alloc_new w (.cells #[.slice a1 ss.length k1, .slice a2 fs.length k2] 26))
  have c1 := cR _ hbW
  have HDw := hid hD
  have HEw := hid hE
  have HBW := hid hbW
  have N6 := hid n6
  clear hD hE hbW cR n6
  go_enter Tryz.func6, Tryz.ntmps6
  go_wp2_with fail
  refine c1.mono ?_
  generalize w.alloc (.cells #[.slice a1 ss.length k1, .slice a2 fs.length k2] 26) = W at *
  clear c1
  rintro x W1 ⟨⟨B1, rfl, T⟩, hb1⟩
  have HB1 := hid (HBW.out.trans (hb1.mono HBW.out.size))
  have HX1 := hid ((hb1.block _ (lt_heap HX.out)).trans HX.out)
  have HT := hid T
  clear T hb1 HX HBW
  cases B1 with
  | false =>
    have HN := hid (show ¬ HistP ss fs es from fun h => absurd (HT.out.yes h) (by decide))
    go_wp2
    go_ret
    exact ⟨[], _, rfl, RowL.of_own (World.ownsRow_nil _ _ _ _), HB1.out, fun h => absurd h HN.out, fun _ => rfl⟩
  | true =>
    have HY := hid (show HistP ss fs es from HT.out.1 rfl)
    have h200 := HY.out.n
    have hs12 := HY.out.d.1.n2
    clear HT
    have cU := hid (runsOf_any a6 k6 es W1 (HEw.out.stay HB1.out (Nat.le_refl _)) (by omega))
    go_wp2_with fail
    refine cU.out.mono ?_
    rintro x W2 ⟨v, rs, rfl, hR, hI, hb2⟩
    obtain ⟨ra, rc, rfl⟩ := hI.form
    have hrl := hR.len
    have HR := hid hR
    have HI := hid hI
    have HB2 := hid (HB1.out.trans (hb2.mono HB1.out.size))
    have HX2 := (hb2.block _ (lt_heap HX1.out)).trans HX1.out
    clear hR hI hb2 cU HX1 HB1
    obtain ⟨st, hst, hpm, hri⟩ := steps_sorted HY.out.d.1.nd
    have hstl : st.length ≤ 12 := by have := hpm.length_eq; omega
    have HSAME := hid (durs_same HY.out HR.out hpm hri)
    have HFS := hid (show ∀ i, (h : i < st.length) → st[i].size ≤ 1099511627776 from fun i h => by
      obtain ⟨j, hj, e⟩ := List.mem_iff_getElem.1 (hpm.mem_iff.1 (List.getElem_mem h))
      have h9 : nrB ss[j] = true := HY.out.d.1.nm j hj
      unfold nrB at h9
      simp only [Bool.and_eq_true, decide_eq_true_eq] at h9
      rw [← e]; omega)
    have HST := hid hst
    have d0 : W2.cell? ⟨w.heap.size, 0, none⟩ = some (.slice a1 ss.length k1) := by rw [Lib.cell_of_heap HX2]; rfl
    clear HX2 hst hpm hri
    go_wp2_with fail
    refine (valuesS_any a1 ss.length k1 W2).mono ?_
    rintro x W3 ⟨rfl, hW3⟩
    have hb3 : Below W2.heap.size W2 W3 := by rw [hW3]; exact (Below.refl _ _).alloc (Nat.le_refl _) _
    have hbx : W3.heap[W2.heap.size]? = some (.cells #[.slice a1 ss.length k1] 23 (0, 0)) := by rw [hW3]; exact heap_alloc_new _ _
    have cSo := hid (sortedS_any 62 W3.heap.size #[.pointer (some ⟨W2.heap.size, 0, none⟩)] ss st W3 (enters_of Tryz.func62 (by kernel_rfl) rfl) (values_sqS tyS W2.heap.size a1 k1 ss w W3 W3.heap.size (HB2.out.trans (hb3.mono HB2.out.size)).size (HB2.out.trans (hb3.mono HB2.out.size)) HDw.out.h1 (by rw [Lib.cell_of_heap hbx]; rfl) (lt_heap hbx) (by unfold maxLen; omega)) (Nat.le_refl _) (by omega) HST.out)
    have HB3 := hid (HB2.out.trans (hb3.mono HB2.out.size))
    have HI3 := hid (HI.out.stay hb3)
    clear hW3 hbx hb3 d0 HI HB2 HST
    go_wp2_with fail
    refine cSo.out.mono ?_
    rintro x W4 ⟨v4, rfl, ho4, hb4⟩
    obtain ⟨a4, c4, rfl⟩ := ownB_form ho4
    have HSS := hid (str_of_own ho4)
    have HB4 := hid (HB3.out.trans (hb4.mono HB3.out.size))
    have HI4 := hid (HI3.out.stay hb4)
    clear ho4 hb4 cSo HI3 HB3
    obtain ⟨i0, hi, hz0, hz1, hz2⟩ := info_parts Tryz.infoInt
    obtain ⟨j0, hj, hj0, hj1, hj2⟩ := info_parts Tryz.infoDurI
    have hw4 := HB4.out.size
    go_wp2
    go_loopw [5, 23] (fun v q wr => ∃ k : Nat, k ≤ st.length ∧ q = .int .i64 k ∧ wr.ownsRow W4.heap.size 35 5 v (dursS (lasR es rs) (st.take k)).length (dflat (dursS (lasR es rs) (st.take k))) ∧ Below W4.heap.size W4 wr) (fun _ i _ => st.length - (intOf i).toNat)
    case atStart => exact ⟨0, Nat.zero_le _, rfl, World.ownsRow_nil _ _ _ _, Below.refl _ _⟩
    case round =>
      obtain ⟨k, hk, rfl, hO, hB⟩ := hrel
      have HO := hid hO
      have HB := hid hB
      clear hO hB
      by_cases hlt : k < st.length
      · obtain ⟨va, vc, rfl⟩ := ownB_form HO.out
        obtain ⟨g4, o4, rfl, hg4⟩ : ∃ g o, a4 = some ⟨g, o, none⟩ ∧ StrsAt W4 g o st := by
          rcases HSS.out with ⟨_, _, _, he⟩ | ⟨g, o, c', hv, _, hQ⟩
          · rw [he] at hlt; simp at hlt
          · cases hv; exact ⟨g, o, rfl, hQ⟩
        have cs := (hg4.stay HB.out (Nat.le_refl _)).2 k hlt
        have HTK := hid (dursS_take (D := lasR es rs) hlt)
        have hsz := HFS.out k hlt
        have hdl : (dursS (lasR es rs) (st.take k)).length ≤ 12 := Nat.le_trans (dursS_len _ _) (by rw [List.length_take]; omega)
        clear hg4
        generalize st[k] = s at *
        generalize dursS (lasR es rs) (st.take k) = DK at *
        obtain ⟨W5, rfl⟩ : ∃ q, q = wr := ⟨_, rfl⟩
        have hw5 := HB.out.size
        go_wp2
        go_loopw [9, 29] (fun v q wk => ∃ j : Nat, j ≤ rs.length ∧ q = .int .i64 j ∧ wk.ownsRow W5.heap.size 2 1 v (lasR es (rs.take j) s).length ((lasR es (rs.take j) s).map (Value.int .i64)) ∧ Below W5.heap.size W5 wk) (fun _ i _ => rs.length - (intOf i).toNat)
        case atStart => exact ⟨0, Nat.zero_le _, rfl, World.ownsRow_nil _ _ _ _, Below.refl _ _⟩
        case round =>
          obtain ⟨j, hjr, rfl, hL, hBk⟩ := hrel
          have HL := hid hL
          have HBk := hid hBk
          have HB9 := hid (HB.out.trans (hBk.mono hw5))
          have hzk := hBk.size
          clear hL hBk
          obtain ⟨la, lc, rfl⟩ := ownB_form HL.out
          by_cases hjl : j < rs.length
          · obtain ⟨gr, orr, rfl, hgr, hcr⟩ := HI4.out.row (by omega)
            have cr := (HB9.out.cell (p := ⟨gr, orr + j, none⟩) hgr).trans (hcr j hjl)
            have HTJ := hid (lasR_take (es := es) (s := s) hjl)
            have hn1 : (lasR es (rs.take j) s).length ≤ 200 * 200 := Nat.le_trans (lasR_len es s _) (Nat.mul_le_mul (by rw [List.length_take]; omega) h200)
            clear hcr
            generalize rs[j] = r at *
            have hn2 : (lastL es r s).length ≤ 200 := Nat.le_trans (lastL_len es r s) h200
            have cE := eventsOf_any a6 k6 es r wr (HEw.out.stay (HB4.out.trans (HB9.out.mono hw4)) (Nat.le_refl _)) N6.out
            go_wp2_with fail
            refine cE.mono ?_
            rintro x V1 ⟨lb, rfl, hS1, hq1⟩
            have cL := lastR_any HY.out r s lb V1 (hS1 tyI (by decide))
            have HL1 := hid (ownB_stay HL.out hq1)
            have HQ1 := hid (HBk.out.trans (hq1.mono hzk))
            have hzq := hq1.size
            clear hS1 hq1 cE HL
            go_wp2_with fail
            refine cL.mono ?_
            rintro x V2 ⟨b2, m2, rfl, ho2, hq2⟩
            have HX2 := hid (own_cellsI ho2)
            have HL2 := hid (ownB_stay HL1.out hq2)
            have HQ2 := hid (HQ1.out.trans (hq2.mono (by omega)))
            have hzq2 := hq2.size
            clear ho2 hq2 cL HL1 HQ1
            generalize lastL es r s = Bl at *
            generalize lasR es (rs.take j) s = Al at *
            go_wp2_with (first | (at_builtin; refine wpList_append_sl rfl _ _ 56 rfl W5.heap.size 2 i0 _ 1 8 Tryz.underlying56 hi hz0 hz1 hz2 rfl (by decide) _ _ _ rfl HL2.out Bl.length (Bl.map (Value.int .i64)) _ rfl HX2.out ?c2 ?c3 ?c4 ?_) | fail)
            case c2 => unfold maxLen; omega
            case c3 => omega
            case c4 => omega
            intro v' w1 ho hg
            have HO9 := hid ho
            have HG9 := hid (HQ2.out.grown hg (by omega) (fun j e => (HL2.out.lt j e).1))
            clear ho hg HL2 HQ2 HX2
            go_wp2
            go_roundw
            case rel => exact ⟨j + 1, by omega, by go_num, by rw [HTJ.out, List.length_append, List.map_append]; exact HO9.out, HG9.out⟩
            case measure => simp [intOf]; omega
          · obtain rfl : j = rs.length := by omega
            rw [List.take_length] at HL ⊢
            have hn1 : (lasR es rs s).length ≤ 200 * 200 := Nat.le_trans (lasR_len es s _) (Nat.mul_le_mul (by omega) h200)
            have HOk := hid (ownB_stay HO.out HBk.out)
            by_cases hD : lasR es rs s = []
            · rw [if_pos hD, List.append_nil] at HTK
              rw [hD] at HL
              dsimp only [List.length_nil] at HL
              go_wp2
              go_roundw
              case rel => exact ⟨k + 1, by omega, by go_num, by rw [HTK.out]; exact HOk.out, HB9.out⟩
              case measure => simp [intOf]; omega
            · rw [if_neg hD] at HTK
              have hpos : 0 < (lasR es rs s).length := List.length_pos_iff.2 hD
              obtain ⟨g7, rfl⟩ := own_somei HL.out hpos
              have hg7 := (HL.out.lt g7 rfl).2
              have hc7 := (own_cellf HL.out).1
              have cD := hid (fun (X : World) (hX : Below wr.heap.size wr X) => durOf_any g7 0 (lasR es rs s).length lc s (lasR es rs s) X hD rfl (Nat.lt_of_lt_of_le hg7 hX.size) (fun i h => by rw [Nat.zero_add]; exact (hX.cell (p := ⟨g7, i, none⟩) hg7).trans (hc7 i _ (by rw [List.getElem?_map, List.getElem?_eq_getElem h]; rfl))) (by omega) hsz (lasR_B HY.out rs s))
              clear hc7 hD HL
              generalize durL s (lasR es rs s) = d at *
              generalize (lasR es rs s).length = nl at *
              obtain ⟨q0, q1, q2, q3, q4⟩ := d
              dsimp only [durV] at cD
              go_wp2_with fail
              refine (cD.out wr (Below.refl _ _)).mono ?_
              rintro x V1 ⟨rfl, hq1⟩
              have HX1 := hid (dur_made V1 ⟨q0, q1, q2, q3, q4⟩ 35)
              dsimp only at HX1
              have hbA := (Below.refl V1.heap.size V1).alloc (Nat.le_refl _) (.cells #[.string q0, .int .i64 q1, .int .i64 q2, .int .i64 q3, .int .i64 q4] 35)
              have HO1 := hid (ownB_stay (ownB_stay HOk.out hq1) hbA)
              have HBA := hid ((HB9.out.trans (hq1.mono HB9.out.size)).trans (hbA.mono (by have := HB9.out.size; have := hq1.size; omega)))
              have hzA := HBA.out.size
              clear hq1 hbA cD HO HB HOk
              go_wp2_with (first | (at_builtin; refine wpList_append_sl rfl _ _ 30 rfl W4.heap.size 35 j0 _ 5 48 Tryz.underlying30 hj hj0 hj1 hj2 rfl (by decide) _ _ _ rfl HO1.out 1 _ _ rfl HX1.out ?c2 ?c3 ?c4 ?_) | fail)
              case c2 => unfold maxLen; omega
              case c3 => omega
              case c4 => exact hzA
              intro v' w1 ho hg
              have HO9 := hid ho
              have HG9 := hid (HBA.out.grown hg hzA (fun j e => (HO1.out.lt j e).1))
              clear ho hg HO1 HBA HX1
              go_wp2
              go_roundw
              case rel => exact ⟨k + 1, by omega, by go_num, by rw [HTK.out, List.length_append, dflat_app]; exact HO9.out, HG9.out⟩
              case measure => simp [intOf]; omega
      · obtain rfl : k = st.length := by omega
        rw [List.take_length] at HO
        rw [HSAME.out] at HO
        have hdl := dursI_len es es.length
        have cF := firstOfD_own wr W4.heap.size _ _ _ HO.out (by omega)
        obtain ⟨va, vc, rfl⟩ := ownB_form HO.out
        go_wp2_with fail
        refine cF.mono ?_
        rintro x w' ⟨v', rfl, hR', rfl⟩
        go_wp2
        go_ret
        exact ⟨dursI es es.length, v', rfl, hR'.le hw4, HB4.out.trans (HB.out.mono hw4), fun _ => rfl, fun h => absurd HY.out h⟩
end Go.Proofs.YthggcdadipjiiaaGreatDoor
