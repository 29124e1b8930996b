/-
  What the method told of impl.stand answers: a contract over the seat's program. (Made by mktold.py.)
-/
import Derived.Test.YthggcdadipjiiaaGreatDoorZClnV2
import Derived.Test.YthggcdadipjiiaaGreatDoorZShStr5
namespace Go.Proofs.YthggcdadipjiiaaGreatDoor
open Go.RowKit Go.Maps Go.WideMaps Go.Sort

theorem flatP_take {l : List Pr} {k : Nat} (h : k < l.length) : (l.take (k + 1)).flatMap Pr.cells = (l.take k).flatMap Pr.cells ++ l[k].cells := by
  rw [List.take_succ_eq_append_getElem h, List.flatMap_append]; simp
theorem enc_map {l : List ByteArray} (h : Asc (l.map txt)) : (srt (l.map txt)).map encStr = l.map Value.string := by
  rw [srt_of_asc h, List.map_map]
  apply List.map_congr_left
  intro s _
  show Value.string ⟨(txt s).toArray⟩ = .string s
  congr 1
theorem stP_asc {ss : List ByteArray} {S : St} (h : StP ss S) : Asc (S.wait.map txt) ∧ Asc (S.busy.map txt) := by
  rcases h with ⟨_, h⟩ | ⟨_, h⟩ | ⟨_, _, h⟩
  · rw [List.eq_nil_of_length_eq_zero h.w, List.eq_nil_of_length_eq_zero h.b]; exact ⟨List.Pairwise.nil, List.Pairwise.nil⟩
  · exact ⟨h.w.asc, h.b.asc⟩
  · exact ⟨h.w.asc, h.b.asc⟩
theorem list_st (b n : Nat) (l : List ByteArray) (w : World) (h : MapAt w b n (l.map txt)) (ha : Asc (l.map txt)) (hn : n ≤ 1048576) (hl : l.length ≤ 1048576) (hF : ∀ s ∈ l, s.size ≤ 1099511627776) :
    Calls Tryz.prog 138 #[.map (some b)] w fun e w' => ∃ a c, e = .returned (.slice a l.length c) ∧ w'.ownsRow w.heap.size 9 1 (.slice a l.length c) l.length (l.map Value.string) ∧ Below w.heap.size w w' := by
  have := list_any b n (l.map txt) w h hn (by rw [List.length_map]; exact hl) (fun t ht => by
    obtain ⟨s, hs, rfl⟩ := List.mem_map.1 ht
    have h1 := hF s hs
    show s.data.toList.length ≤ _
    simpa using h1)
  rw [List.length_map, enc_map ha] at this
  exact this
set_option maxRecDepth 100000 in
set_option maxHeartbeats 4000000 in
theorem told_any (lo B bw bb n : Nat) (sv fv vv : Value) (ss : List ByteArray) (S : St) (w : World) (hS : Stand w lo B bw bb sv fv vv n S) (hP : StP ss S) (hn : n ≤ 1048576) (FV : ∀ i, (h : i < S.vars.length) → S.vars[i].fst.size ≤ 1099511627776 ∧ S.vars[i].snd.size ≤ 1099511627776) (FW : ∀ s ∈ S.wait, s.size ≤ 1099511627776) (FB : ∀ s ∈ S.busy, s.size ≤ 1099511627776) (hv : S.vars.length ≤ 1000) :
    Calls Tryz.prog 107 #[.pointer (some ⟨B, 0, none⟩)] w fun x w' => ∃ u3 u4 u5, x = .returned (.agg #[.int .i64 S.status, .int .i64 S.begun, .int .i64 S.last, u3, u4, u5, .int .i64 S.faults]) ∧ StOwn w' w.heap.size u3 u4 u5 S ∧ Below w.heap.size w w' := by
  obtain ⟨j0, hj, hj0, hj1, hj2⟩ := info_parts Tryz.infoVar
  obtain ⟨a5, c5, rfl⟩ := ownB_form hS.ov
  have hbW : Below w.heap.size w (w.alloc (.cells #[.int .i64 0, .int .i64 0, .int .i64 0, .slice none 0 0, .slice none 0 0, .slice none 0 0, .int .i64 0] 91)) := (Below.refl _ _).alloc (Nat.le_refl _) _
  have HS := hid (hS.stay hbW)
  have HBW := hid hbW
  have hWs : (w.alloc (.cells #[.int .i64 0, .int .i64 0, .int .i64 0, .slice none 0 0, .slice none 0 0, .slice none 0 0, .int .i64 0] 91)).heap.size = w.heap.size + 1 := by simp
  have HR := hid (show (w.alloc (.cells #[.int .i64 0, .int .i64 0, .int .i64 0, .slice none 0 0, .slice none 0 0, .slice none 0 0, .int .i64 0] 91)).heap[w.heap.size]? = some (.cells #[.int .i64 0, .int .i64 0, .int .i64 0, .slice none 0 0, .slice none 0 0, .slice none 0 0, .int .i64 0] 91 (0, 0)) from heap_alloc_new w _)
  have x7 := HS.out.blk.cell 7
  change _ = some (Value.slice a5 S.vars.length c5) at x7
  have hBl := hS.blk.lt
  have HV := hid (pr_of_own HS.out.ov)
  have hAw : Asc (S.wait.map txt) := (stP_asc hP).1
  have hAb : Asc (S.busy.map txt) := (stP_asc hP).2
  have hlw : S.wait.length ≤ 1048576 := by have := stP_small hP; omega
  have hlb : S.busy.length ≤ 1048576 := by have := stP_small hP; omega
  clear hS hbW
  go_enter Tryz.func107, Tryz.ntmps107
  go_wp2
  generalize (w.alloc (.cells #[.int .i64 0, .int .i64 0, .int .i64 0, .slice none 0 0, .slice none 0 0, .slice none 0 0, .int .i64 0] 91)) = W at *
  clear x7
  go_loopw [3, 11] (fun o i wr => ∃ (k : Nat) (a : Option Addr) (c : Nat), k ≤ S.vars.length ∧ i = .int .i64 k ∧ o = .slice a k c ∧ wr.ownsRow W.heap.size 138 2 (.slice a k c) k ((S.vars.take k).flatMap Pr.cells) ∧ Below W.heap.size W wr) (fun _ i _ => S.vars.length - (intOf i).toNat)
  case atStart => exact ⟨0, none, 0, Nat.zero_le _, rfl, rfl, World.ownsRow_nil _ _ _ _, Below.refl _ _⟩
  case round =>
    obtain ⟨k, a, c, hk, rfl, rfl, hown, hbel⟩ := hrel
    have HO := hid hown
    have HB := hid hbel
    have hzr := hbel.size
    clear hown hbel
    by_cases hlt : k < S.vars.length
    · obtain ⟨g5, o5, ha5, hQ⟩ := HV.out.row (by omega)
      subst ha5
      obtain ⟨q0, q1⟩ := (hQ.stay HB.out (Nat.le_refl _)).2 k hlt
      have hsz := FV k hlt
      have HT := hid (flatP_take hlt)
      generalize hp1 : S.vars[k].fst = p1 at *
      generalize hp2 : S.vars[k].snd = p2 at *
      have HP := hid (show S.vars[k].cells = [.string p1, .string p2] by rw [← hp1, ← hp2]; rfl)
      clear hp1 hp2 hQ
      have hbX : Below wr.heap.size wr (wr.alloc (.cells #[.string p1, .string p2] 138)) := (Below.refl _ _).alloc (Nat.le_refl _) _
      have y0 : (wr.alloc (.cells #[.string p1, .string p2] 138)).cell? ⟨wr.heap.size, 0, none⟩ = some (.string p1) := by simp [go_sem]
      have y1 : (wr.alloc (.cells #[.string p1, .string p2] 138)).cell? ⟨wr.heap.size, 1, none⟩ = some (.string p2) := by simp [go_sem]
      have HX := hid hbX
      have hXs : (wr.alloc (.cells #[.string p1, .string p2] 138)).heap.size = wr.heap.size + 1 := by simp
      clear hbX
      go_wp2
      generalize wr.alloc (.cells #[.string p1, .string p2] 138) = X at *
      have hbd : Below X.heap.size X X.drew := (Below.refl _ _).drew
      have hlX : wr.heap.size < X.heap.size := by omega
      have hnw : some wr.heap.size ≠ (Value.slice a k c).ownBlock := fun e => by have := (HO.out.lt _ e.symm).2; omega
      go_region_held3 (fun w' => w'.cell? ⟨wr.heap.size, 0, none⟩ = some (.string p1) ∧ w'.cell? ⟨wr.heap.size, 1, none⟩ = some (.string p2)) (go_keep) (first | (go_at_call_of 67 (Value.string p1); refine (Clone_any p1 X.drew hsz.1).mono ?_; rintro e U1 ⟨rfl, hq1⟩; have hu1 := hbd.trans (hq1.mono hbd.size); have ua0 := (hu1.cell (p := ⟨wr.heap.size, 0, none⟩) hlX).trans y0; have ua1 := (hu1.cell (p := ⟨wr.heap.size, 1, none⟩) hlX).trans y1; have hl1 := Nat.lt_of_lt_of_le hlX hu1.size) | (go_at_call_of 67 (Value.string p2); refine (Clone_any p2 U1 hsz.2).mono ?_; rintro e U2 ⟨rfl, hu2⟩; have ub0 := (hu2.cell (p := ⟨wr.heap.size, 0, none⟩) hl1).trans ua0; have ub1 := (hu2.cell (p := ⟨wr.heap.size, 1, none⟩) hl1).trans ua1; have hbA : Below X.heap.size X (U2.alloc (.cells #[.string p1, .string p2] 138)) := (hu1.trans (hu2.mono hu1.size)).alloc (Nat.le_trans hu1.size hu2.size) _; have hOA := ownB_stay (ownB_stay HO.out HX.out) hbA; have uc0 := (hbA.cell (p := ⟨wr.heap.size, 0, none⟩) hlX).trans y0; have uc1 := (hbA.cell (p := ⟨wr.heap.size, 1, none⟩) hlX).trans y1) | (refine step_append_own rfl (.tmp 15) (.tmp 23) 89 rfl W.heap.size 138 j0 _ 2 32 Tryz.underlying89 hj hj0 hj1 hj2 rfl (by decide) (.slice a k c) k _ (by simp [Act.eval]) hOA ⟨U2.heap.size, 0, none⟩ 1 1 [.string p1, .string p2] (by simp [Act.eval]) rfl (cell_two_new U2 _ _ _) (two_one ⟨p1, p2⟩) (by unfold maxLen; omega) (by omega) (by have := hbA.size; omega) ?_; intro v' U3 hO3 hg3 hn3; have ud0 := (World.cell?_of_block (a := ⟨wr.heap.size, 0, none⟩) (hg3.block wr.heap.size (Nat.lt_of_lt_of_le hlX hbA.size) hnw)).trans uc0; have ud1 := (World.cell?_of_block (a := ⟨wr.heap.size, 1, none⟩) (hg3.block wr.heap.size (Nat.lt_of_lt_of_le hlX hbA.size) hnw)).trans uc1))
      obtain ⟨a', c', rfl⟩ := ownB_form hO3
      have HBA := hid (HB.out.trans ((HX.out.trans (hbA.mono HX.out.size)).mono hzr))
      have HB3 := hid (HBA.out.grown hg3 HBA.out.size (fun g hg => (HO.out.lt g hg).1))
      have HO3 := hid hO3
      clear hO3 hg3 hn3 ud0 ud1 uc0 uc1 ub0 ub1 ua0 ua1 hOA hbA hu2 hq1 hu1 hbd q0 q1 y0 y1 hnw
      go_wp2
      go_roundw
      case rel => exact ⟨k + 1, a', c', by omega, by go_num, rfl, by rw [HT.out, HP.out]; exact HO3.out, HB3.out⟩
      case measure => simp [intOf]; omega
    · obtain rfl : k = S.vars.length := by omega
      rw [List.take_of_length_le (Nat.le_refl _)] at HO
      have HSr := hid (HS.out.stay HB.out)
      have hBr : B < wr.heap.size := by omega
      have x2 := HSr.out.blk.cell 2
      change _ = some (Value.int .i64 S.status) at x2
      have x3 := HSr.out.blk.cell 3
      change _ = some (Value.int .i64 S.begun) at x3
      have x4 := HSr.out.blk.cell 4
      change _ = some (Value.int .i64 S.last) at x4
      have x5 := HSr.out.blk.cell 5
      change _ = some (Value.map (some bw)) at x5
      have x6 := HSr.out.blk.cell 6
      change _ = some (Value.map (some bb)) at x6
      have x8 := HSr.out.blk.cell 8
      change _ = some (Value.int .i64 S.faults) at x8
      have HR1 := hid ((HB.out.block w.heap.size (lt_heap HR.out)).trans HR.out)
      have hnB : ¬ B = w.heap.size := by omega
      have hnB2 : ¬ w.heap.size = B := by omega
      have hRr : w.heap.size < wr.heap.size := by omega
      have hbd : Below wr.heap.size wr wr.drew := (Below.refl _ _).drew
      have HMW := hid HSr.out.mw
      have HMB := hid HSr.out.mb
      clear HSr
      go_wp2
      go_region_held3 (fun w' => w'.cell? ⟨B, 2, none⟩ = some (.int .i64 S.status) ∧ w'.cell? ⟨B, 3, none⟩ = some (.int .i64 S.begun) ∧ w'.cell? ⟨B, 4, none⟩ = some (.int .i64 S.last) ∧ w'.cell? ⟨B, 5, none⟩ = some (.map (some bw)) ∧ w'.cell? ⟨B, 6, none⟩ = some (.map (some bb)) ∧ w'.cell? ⟨B, 8, none⟩ = some (.int .i64 S.faults)) (go_keep) (first | (go_at_call_of 138 (Value.map (some bw)); refine (list_st bw n S.wait wr.drew (HMW.out.stay hbd) hAw hn hlw FW).mono ?_; rintro e V1 ⟨a3, c3, rfl, hO3, hq1⟩; have hv1 := hbd.trans (hq1.mono hbd.size); have hBv := Nat.lt_of_lt_of_le hBr hv1.size; have va2 := (hv1.cell (p := ⟨B, 2, none⟩) hBr).trans x2; have va3 := (hv1.cell (p := ⟨B, 3, none⟩) hBr).trans x3; have va4 := (hv1.cell (p := ⟨B, 4, none⟩) hBr).trans x4; have va5 := (hv1.cell (p := ⟨B, 5, none⟩) hBr).trans x5; have va6 := (hv1.cell (p := ⟨B, 6, none⟩) hBr).trans x6; have va8 := (hv1.cell (p := ⟨B, 8, none⟩) hBr).trans x8) | (go_at_call_of 138 (Value.map (some bb)); refine (list_st bb n S.busy V1 (HMB.out.stay hv1) hAb hn hlb FB).mono ?_; rintro e V2 ⟨a4, c4, rfl, hO4, hv2⟩; have vb2 := (hv2.cell (p := ⟨B, 2, none⟩) hBv).trans va2; have vb3 := (hv2.cell (p := ⟨B, 3, none⟩) hBv).trans va3; have vb4 := (hv2.cell (p := ⟨B, 4, none⟩) hBv).trans va4; have vb5 := (hv2.cell (p := ⟨B, 5, none⟩) hBv).trans va5; have vb6 := (hv2.cell (p := ⟨B, 6, none⟩) hBv).trans va6; have vb8 := (hv2.cell (p := ⟨B, 8, none⟩) hBv).trans va8; have HR2 := hid ((hv2.block w.heap.size (Nat.lt_of_lt_of_le hRr hv1.size)).trans ((hv1.block w.heap.size hRr).trans HR1.out)); have rr0 : V2.cell? ⟨w.heap.size, 0, none⟩ = some (.int .i64 0) := (by rw [Lib.cell_of_heap HR2.out]; rfl); have rr1 : V2.cell? ⟨w.heap.size, 1, none⟩ = some (.int .i64 0) := (by rw [Lib.cell_of_heap HR2.out]; rfl); have rr2 : V2.cell? ⟨w.heap.size, 2, none⟩ = some (.int .i64 0) := (by rw [Lib.cell_of_heap HR2.out]; rfl); have rr3 : V2.cell? ⟨w.heap.size, 3, none⟩ = some (.slice none 0 0) := (by rw [Lib.cell_of_heap HR2.out]; rfl); have rr4 : V2.cell? ⟨w.heap.size, 4, none⟩ = some (.slice none 0 0) := (by rw [Lib.cell_of_heap HR2.out]; rfl); have rr5 : V2.cell? ⟨w.heap.size, 5, none⟩ = some (.slice none 0 0) := (by rw [Lib.cell_of_heap HR2.out]; rfl); have rr6 : V2.cell? ⟨w.heap.size, 6, none⟩ = some (.int .i64 0) := (by rw [Lib.cell_of_heap HR2.out]; rfl); have rrf := Lib.frozen_of_heap HR2.out))
      have HO3 := hid hO3
      have HO4 := hid hO4
      have HV1 := hid hv1
      have HV2 := hid hv2
      have HBF := hid (HBW.out.trans ((HB.out.trans ((hv1.trans (hv2.mono hv1.size)).mono hzr)).mono HBW.out.size))
      clear hO3 hO4 hv1 hv2 hq1
      go_wp2
      have hCR : Chg (fun j => j = w.heap.size) V2 (((((((V2.setCell ⟨w.heap.size, 0, none⟩ (.int .i64 S.status)).setCell ⟨w.heap.size, 1, none⟩ (.int .i64 S.begun)).setCell ⟨w.heap.size, 2, none⟩ (.int .i64 S.last)).setCell ⟨w.heap.size, 3, none⟩ (.slice a3 S.wait.length c3)).setCell ⟨w.heap.size, 4, none⟩ (.slice a4 S.busy.length c4)).setCell ⟨w.heap.size, 5, none⟩ (.slice a S.vars.length c)).setCell ⟨w.heap.size, 6, none⟩ (.int .i64 S.faults)) := (((((((chg_set _ _ _ _).trans (chg_set _ _ _ _)).trans (chg_set _ _ _ _)).trans (chg_set _ _ _ _)).trans (chg_set _ _ _ _)).trans (chg_set _ _ _ _)).trans (chg_set _ _ _ _))
      have hz1 := HV1.out.size
      have o3 := ownB_stay HO3.out HV2.out
      have o5 := ownB_stay (ownB_stay HO.out HV1.out) HV2.out
      refine bodyPost_ret (v := .agg #[.int .i64 S.status, .int .i64 S.begun, .int .i64 S.last, .slice a3 S.wait.length c3, .slice a4 S.busy.length c4, .slice a S.vars.length c, .int .i64 S.faults]) (by simp [results, Tryz.results107, go_sem, rr0, rr1, rr2, rr3, rr4, rr5, rr6]) rfl ⟨_, _, _, rfl, ⟨ownB_le (own_chg o3 hCR (own_ne o3 HR2.out (by decide))) (by show w.heap.size ≤ wr.heap.size; omega), ownB_le (own_chg HO4.out hCR (own_ne HO4.out HR2.out (by decide))) (by omega), ownB_le (own_chg o5 hCR (own_ne o5 HR2.out (by decide))) (by omega), apart_of HO3.out HO4.out (Nat.le_refl _) (Nat.le_refl _)⟩, HBF.out.trans (hCR.below (by have := HBF.out.size; omega) (fun j (h : j = _) => by omega))⟩
end Go.Proofs.YthggcdadipjiiaaGreatDoor
