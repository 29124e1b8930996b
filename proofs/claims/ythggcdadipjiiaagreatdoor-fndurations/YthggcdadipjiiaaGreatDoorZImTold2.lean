/-
  Texts put together: ImTold, ImHpd.
-/
import Derived.Test.YthggcdadipjiiaaGreatDoorZClnV2
import Derived.Test.YthggcdadipjiiaaGreatDoorZShStr5
import Derived.Test.YthggcdadipjiiaaGreatDoorZImHapA
import Derived.Test.YthggcdadipjiiaaGreatDoorZNm4
/-
  What the method told of impl.stand answers: a contract over the seat's program. (Made by mktold.py.)
-/
namespace Go.Proofs.YthggcdadipjiiaaGreatDoor
open Go.RowKit Go.Maps Go.WideMaps Go.Sort

theorem flatP_take {l : List Pr} {k : Nat} (h : k < l.length) : (l.take (k + 1)).flatMap Pr.cells = (l.take k).flatMap Pr.cells ++ l[k].cells := by
  rw [List.take_succ_eq_append_getElem h, List.flatMap_append]; simp
theorem enc_map {l : List ByteArray} (h : Asc (l.map txt)) : (srt (l.map txt)).map encStr = l.map Value.string := by
  rw [srt_of_asc h, List.map_map]
  apply List.map_congr_left
  intro s _
  show Value.string ⟨(txt s).toArray⟩ = .string s
  congr 1
theorem stP_asc {ss : List ByteArray} {S : St} (h : StP ss S) : Asc (S.wait.map txt) ∧ Asc (S.busy.map txt) := by
  rcases h with ⟨_, h⟩ | ⟨_, h⟩ | ⟨_, _, h⟩
  · rw [List.eq_nil_of_length_eq_zero h.w, List.eq_nil_of_length_eq_zero h.b]; exact ⟨List.Pairwise.nil, List.Pairwise.nil⟩
  · exact ⟨h.w.asc, h.b.asc⟩
  · exact ⟨h.w.asc, h.b.asc⟩
theorem list_st (b n : Nat) (l : List ByteArray) (w : World) (h : MapAt w b n (l.map txt)) (ha : Asc (l.map txt)) (hn : n ≤ 1048576) (hl : l.length ≤ 1048576) (hF : ∀ s ∈ l, s.size ≤ 1099511627776) :
    Calls Tryz.prog 138 #[.map (some b)] w fun e w' => ∃ a c, e = .returned (.slice a l.length c) ∧ w'.ownsRow w.heap.size 9 1 (.slice a l.length c) l.length (l.map Value.string) ∧ Below w.heap.size w w' := by
  have := list_any b n (l.map txt) w h hn (by rw [List.length_map]; exact hl) (fun t ht => by
    obtain ⟨s, hs, rfl⟩ := List.mem_map.1 ht
    have h1 := hF s hs
    show s.data.toList.length ≤ _
    simpa using h1)
  rw [List.length_map, enc_map ha] at this
  exact this
set_option maxRecDepth 100000 in
set_option maxHeartbeats 4000000 in
theorem told_any (lo B bw bb n : Nat) (sv fv vv : Value) (ss : List ByteArray) (S : St) (w : World) (hS : Stand w lo B bw bb sv fv vv n S) (hP : StP ss S) (hn : n ≤ 1048576) (FV : ∀ i, (h : i < S.vars.length) → S.vars[i].fst.size ≤ 1099511627776 ∧ S.vars[i].snd.size ≤ 1099511627776) (FW : ∀ s ∈ S.wait, s.size ≤ 1099511627776) (FB : ∀ s ∈ S.busy, s.size ≤ 1099511627776) (hv : S.vars.length ≤ 1000) :
    Calls Tryz.prog 107 #[.pointer (some ⟨B, 0, none⟩)] w fun x w' => ∃ u3 u4 u5, x = .returned (.agg #[.int .i64 S.status, .int .i64 S.begun, .int .i64 S.last, u3, u4, u5, .int .i64 S.faults]) ∧ StOwn w' w.heap.size u3 u4 u5 S ∧ Below w.heap.size w w' := by
  obtain ⟨j0, hj, hj0, hj1, hj2⟩ := info_parts Tryz.infoVar
  obtain ⟨a5, c5, rfl⟩ := ownB_form hS.ov
  have hbW : Below w.heap.size w (w.alloc (.cells #[.int .i64 0, .int .i64 0, .int .i64 0, .slice none 0 0, .slice none 0 0, .slice none 0 0, .int .i64 0] 91)) := (Below.refl _ _).alloc (Nat.le_refl _) _
  have HS := hid (hS.stay hbW)
  have HBW := hid hbW
  have hWs : (w.alloc (.cells #[.int .i64 0, .int .i64 0, .int .i64 0, .slice none 0 0, .slice none 0 0, .slice none 0 0, .int .i64 0] 91)).heap.size = w.heap.size + 1 := by simp
  have HR := hid (show (w.alloc (.cells #[.int .i64 0, .int .i64 0, .int .i64 0, .slice none 0 0, .slice none 0 0, .slice none 0 0, .int .i64 0] 91)).heap[w.heap.size]? = some (.cells #[.int .i64 0, .int .i64 0, .int .i64 0, .slice none 0 0, .slice none 0 0, .slice none 0 0, .int .i64 0] 91 (0, 0)) from heap_alloc_new w _)
  have x7 := HS.out.blk.cell 7
  change _ = some (Value.slice a5 S.vars.length c5) at x7
  have hBl := hS.blk.lt
  have HV := hid (pr_of_own HS.out.ov)
  have hAw : Asc (S.wait.map txt) := (stP_asc hP).1
  have hAb : Asc (S.busy.map txt) := (stP_asc hP).2
  have hlw : S.wait.length ≤ 1048576 := by have := stP_small hP; omega
  have hlb : S.busy.length ≤ 1048576 := by have := stP_small hP; omega
  clear hS hbW
  go_enter Tryz.func107, Tryz.ntmps107
  go_wp2
  generalize (w.alloc (.cells #[.int .i64 0, .int .i64 0, .int .i64 0, .slice none 0 0, .slice none 0 0, .slice none 0 0, .int .i64 0] 91)) = W at *
  clear x7
  go_loopw [3, 11] (fun o i wr => ∃ (k : Nat) (a : Option Addr) (c : Nat), k ≤ S.vars.length ∧ i = .int .i64 k ∧ o = .slice a k c ∧ wr.ownsRow W.heap.size 138 2 (.slice a k c) k ((S.vars.take k).flatMap Pr.cells) ∧ Below W.heap.size W wr) (fun _ i _ => S.vars.length - (intOf i).toNat)
  case atStart => exact ⟨0, none, 0, Nat.zero_le _, rfl, rfl, World.ownsRow_nil _ _ _ _, Below.refl _ _⟩
  case round =>
    obtain ⟨k, a, c, hk, rfl, rfl, hown, hbel⟩ := hrel
    have HO := hid hown
    have HB := hid hbel
    have hzr := hbel.size
    clear hown hbel
    by_cases hlt : k < S.vars.length
    · obtain ⟨g5, o5, ha5, hQ⟩ := HV.out.row (by omega)
      subst ha5
      obtain ⟨q0, q1⟩ := (hQ.stay HB.out (Nat.le_refl _)).2 k hlt
      have hsz := FV k hlt
      have HT := hid (flatP_take hlt)
      generalize hp1 : S.vars[k].fst = p1 at *
      generalize hp2 : S.vars[k].snd = p2 at *
      have HP := hid (show S.vars[k].cells = [.string p1, .string p2] by rw [← hp1, ← hp2]; rfl)
      clear hp1 hp2 hQ
      have hbX : Below wr.heap.size wr (wr.alloc (.cells #[.string p1, .string p2] 138)) := (Below.refl _ _).alloc (Nat.le_refl _) _
      have y0 : (wr.alloc (.cells #[.string p1, .string p2] 138)).cell? ⟨wr.heap.size, 0, none⟩ = some (.string p1) := by simp [go_sem]
      have y1 : (wr.alloc (.cells #[.string p1, .string p2] 138)).cell? ⟨wr.heap.size, 1, none⟩ = some (.string p2) := by simp [go_sem]
      have HX := hid hbX
      have hXs : (wr.alloc (.cells #[.string p1, .string p2] 138)).heap.size = wr.heap.size + 1 := by simp
      clear hbX
      go_wp2
      generalize wr.alloc (.cells #[.string p1, .string p2] 138) = X at *
      have hbd : Below X.heap.size X X.drew := (Below.refl _ _).drew
      have hlX : wr.heap.size < X.heap.size := by omega
      have hnw : some wr.heap.size ≠ (Value.slice a k c).ownBlock := fun e => by have := (HO.out.lt _ e.symm).2; omega
      go_region_held3 (fun w' => w'.cell? ⟨wr.heap.size, 0, none⟩ = some (.string p1) ∧ w'.cell? ⟨wr.heap.size, 1, none⟩ = some (.string p2)) (go_keep) (first | (go_at_call_of 67 (Value.string p1); refine (Clone_any p1 X.drew hsz.1).mono ?_; rintro e U1 ⟨rfl, hq1⟩; have hu1 := hbd.trans (hq1.mono hbd.size); have ua0 := (hu1.cell (p := ⟨wr.heap.size, 0, none⟩) hlX).trans y0; have ua1 := (hu1.cell (p := ⟨wr.heap.size, 1, none⟩) hlX).trans y1; have hl1 := Nat.lt_of_lt_of_le hlX hu1.size) | (go_at_call_of 67 (Value.string p2); refine (Clone_any p2 U1 hsz.2).mono ?_; rintro e U2 ⟨rfl, hu2⟩; have ub0 := (hu2.cell (p := ⟨wr.heap.size, 0, none⟩) hl1).trans ua0; have ub1 := (hu2.cell (p := ⟨wr.heap.size, 1, none⟩) hl1).trans ua1; have hbA : Below X.heap.size X (U2.alloc (.cells #[.string p1, .string p2] 138)) := (hu1.trans (hu2.mono hu1.size)).alloc (Nat.le_trans hu1.size hu2.size) _; have hOA := ownB_stay (ownB_stay HO.out HX.out) hbA; have uc0 := (hbA.cell (p := ⟨wr.heap.size, 0, none⟩) hlX).trans y0; have uc1 := (hbA.cell (p := ⟨wr.heap.size, 1, none⟩) hlX).trans y1) | (refine step_append_own rfl (.tmp 15) (.tmp 23) 89 rfl W.heap.size 138 j0 _ 2 32 Tryz.underlying89 hj hj0 hj1 hj2 rfl (by decide) (.slice a k c) k _ (by simp [Act.eval]) hOA ⟨U2.heap.size, 0, none⟩ 1 1 [.string p1, .string p2] (by simp [Act.eval]) rfl (cell_two_new U2 _ _ _) (two_one ⟨p1, p2⟩) (by unfold maxLen; omega) (by omega) (by have := hbA.size; omega) ?_; intro v' U3 hO3 hg3 hn3; have ud0 := (World.cell?_of_block (a := ⟨wr.heap.size, 0, none⟩) (hg3.block wr.heap.size (Nat.lt_of_lt_of_le hlX hbA.size) hnw)).trans uc0; have ud1 := (World.cell?_of_block (a := ⟨wr.heap.size, 1, none⟩) (hg3.block wr.heap.size (Nat.lt_of_lt_of_le hlX hbA.size) hnw)).trans uc1))
      obtain ⟨a', c', rfl⟩ := ownB_form hO3
      have HBA := hid (HB.out.trans ((HX.out.trans (hbA.mono HX.out.size)).mono hzr))
      have HB3 := hid (HBA.out.grown hg3 HBA.out.size (fun g hg => (HO.out.lt g hg).1))
      have HO3 := hid hO3
      clear hO3 hg3 hn3 ud0 ud1 uc0 uc1 ub0 ub1 ua0 ua1 hOA hbA hu2 hq1 hu1 hbd q0 q1 y0 y1 hnw
      go_wp2
      go_roundw
      case rel => exact ⟨k + 1, a', c', by omega, by go_num, rfl, by rw [HT.out, HP.out]; exact HO3.out, HB3.out⟩
      case measure => simp [intOf]; omega
    · obtain rfl : k = S.vars.length := by omega
      rw [List.take_of_length_le (Nat.le_refl _)] at HO
      have HSr := hid (HS.out.stay HB.out)
      have hBr : B < wr.heap.size := by omega
      have x2 := HSr.out.blk.cell 2
      change _ = some (Value.int .i64 S.status) at x2
      have x3 := HSr.out.blk.cell 3
      change _ = some (Value.int .i64 S.begun) at x3
      have x4 := HSr.out.blk.cell 4
      change _ = some (Value.int .i64 S.last) at x4
      have x5 := HSr.out.blk.cell 5
      change _ = some (Value.map (some bw)) at x5
      have x6 := HSr.out.blk.cell 6
      change _ = some (Value.map (some bb)) at x6
      have x8 := HSr.out.blk.cell 8
      change _ = some (Value.int .i64 S.faults) at x8
      have HR1 := hid ((HB.out.block w.heap.size (lt_heap HR.out)).trans HR.out)
      have hnB : ¬ B = w.heap.size := by omega
      have hnB2 : ¬ w.heap.size = B := by omega
      have hRr : w.heap.size < wr.heap.size := by omega
      have hbd : Below wr.heap.size wr wr.drew := (Below.refl _ _).drew
      have HMW := hid HSr.out.mw
      have HMB := hid HSr.out.mb
      clear HSr
      go_wp2
      go_region_held3 (fun w' => w'.cell? ⟨B, 2, none⟩ = some (.int .i64 S.status) ∧ w'.cell? ⟨B, 3, none⟩ = some (.int .i64 S.begun) ∧ w'.cell? ⟨B, 4, none⟩ = some (.int .i64 S.last) ∧ w'.cell? ⟨B, 5, none⟩ = some (.map (some bw)) ∧ w'.cell? ⟨B, 6, none⟩ = some (.map (some bb)) ∧ w'.cell? ⟨B, 8, none⟩ = some (.int .i64 S.faults)) (go_keep) (first | (go_at_call_of 138 (Value.map (some bw)); refine (list_st bw n S.wait wr.drew (HMW.out.stay hbd) hAw hn hlw FW).mono ?_; rintro e V1 ⟨a3, c3, rfl, hO3, hq1⟩; have hv1 := hbd.trans (hq1.mono hbd.size); have hBv := Nat.lt_of_lt_of_le hBr hv1.size; have va2 := (hv1.cell (p := ⟨B, 2, none⟩) hBr).trans x2; have va3 := (hv1.cell (p := ⟨B, 3, none⟩) hBr).trans x3; have va4 := (hv1.cell (p := ⟨B, 4, none⟩) hBr).trans x4; have va5 := (hv1.cell (p := ⟨B, 5, none⟩) hBr).trans x5; have va6 := (hv1.cell (p := ⟨B, 6, none⟩) hBr).trans x6; have va8 := (hv1.cell (p := ⟨B, 8, none⟩) hBr).trans x8) | (go_at_call_of 138 (Value.map (some bb)); refine (list_st bb n S.busy V1 (HMB.out.stay hv1) hAb hn hlb FB).mono ?_; rintro e V2 ⟨a4, c4, rfl, hO4, hv2⟩; have vb2 := (hv2.cell (p := ⟨B, 2, none⟩) hBv).trans va2; have vb3 := (hv2.cell (p := ⟨B, 3, none⟩) hBv).trans va3; have vb4 := (hv2.cell (p := ⟨B, 4, none⟩) hBv).trans va4; have vb5 := (hv2.cell (p := ⟨B, 5, none⟩) hBv).trans va5; have vb6 := (hv2.cell (p := ⟨B, 6, none⟩) hBv).trans va6; have vb8 := (hv2.cell (p := ⟨B, 8, none⟩) hBv).trans va8; have HR2 := hid ((hv2.block w.heap.size (Nat.lt_of_lt_of_le hRr hv1.size)).trans ((hv1.block w.heap.size hRr).trans HR1.out)); have rr0 : V2.cell? ⟨w.heap.size, 0, none⟩ = some (.int .i64 0) := (by rw [Lib.cell_of_heap HR2.out]; rfl); have rr1 : V2.cell? ⟨w.heap.size, 1, none⟩ = some (.int .i64 0) := (by rw [Lib.cell_of_heap HR2.out]; rfl); have rr2 : V2.cell? ⟨w.heap.size, 2, none⟩ = some (.int .i64 0) := (by rw [Lib.cell_of_heap HR2.out]; rfl); have rr3 : V2.cell? ⟨w.heap.size, 3, none⟩ = some (.slice none 0 0) := (by rw [Lib.cell_of_heap HR2.out]; rfl); have rr4 : V2.cell? ⟨w.heap.size, 4, none⟩ = some (.slice none 0 0) := (by rw [Lib.cell_of_heap HR2.out]; rfl); have rr5 : V2.cell? ⟨w.heap.size, 5, none⟩ = some (.slice none 0 0) := (by rw [Lib.cell_of_heap HR2.out]; rfl); have rr6 : V2.cell? ⟨w.heap.size, 6, none⟩ = some (.int .i64 0) := (by rw [Lib.cell_of_heap HR2.out]; rfl); have rrf := Lib.frozen_of_heap HR2.out))
      have HO3 := hid hO3
      have HO4 := hid hO4
      have HV1 := hid hv1
      have HV2 := hid hv2
      have HBF := hid (HBW.out.trans ((HB.out.trans ((hv1.trans (hv2.mono hv1.size)).mono hzr)).mono HBW.out.size))
      clear hO3 hO4 hv1 hv2 hq1
      go_wp2
      have hCR : Chg (fun j => j = w.heap.size) V2 (((((((V2.setCell ⟨w.heap.size, 0, none⟩ (.int .i64 S.status)).setCell ⟨w.heap.size, 1, none⟩ (.int .i64 S.begun)).setCell ⟨w.heap.size, 2, none⟩ (.int .i64 S.last)).setCell ⟨w.heap.size, 3, none⟩ (.slice a3 S.wait.length c3)).setCell ⟨w.heap.size, 4, none⟩ (.slice a4 S.busy.length c4)).setCell ⟨w.heap.size, 5, none⟩ (.slice a S.vars.length c)).setCell ⟨w.heap.size, 6, none⟩ (.int .i64 S.faults)) := (((((((chg_set _ _ _ _).trans (chg_set _ _ _ _)).trans (chg_set _ _ _ _)).trans (chg_set _ _ _ _)).trans (chg_set _ _ _ _)).trans (chg_set _ _ _ _)).trans (chg_set _ _ _ _))
      have hz1 := HV1.out.size
      have o3 := ownB_stay HO3.out HV2.out
      have o5 := ownB_stay (ownB_stay HO.out HV1.out) HV2.out
      refine bodyPost_ret (v := .agg #[.int .i64 S.status, .int .i64 S.begun, .int .i64 S.last, .slice a3 S.wait.length c3, .slice a4 S.busy.length c4, .slice a S.vars.length c, .int .i64 S.faults]) (by simp [results, Tryz.results107, go_sem, rr0, rr1, rr2, rr3, rr4, rr5, rr6]) rfl ⟨_, _, _, rfl, ⟨ownB_le (own_chg o3 hCR (own_ne o3 HR2.out (by decide))) (by show w.heap.size ≤ wr.heap.size; omega), ownB_le (own_chg HO4.out hCR (own_ne HO4.out HR2.out (by decide))) (by omega), ownB_le (own_chg o5 hCR (own_ne o5 HR2.out (by decide))) (by omega), apart_of HO3.out HO4.out (Nat.le_refl _) (Nat.le_refl _)⟩, HBF.out.trans (hCR.below (by have := HBF.out.size; omega) (fun j (h : j = _) => by omega))⟩
end Go.Proofs.YthggcdadipjiiaaGreatDoor

/-
  What impl.happened answers: a contract over the seat's program. (Made by mkhapd.py.)
-/
namespace Go.Proofs.YthggcdadipjiiaaGreatDoor
open Go.RowKit Go.Maps Go.WideMaps Go.Sort

theorem below3 (w : World) (o1 o2 o3 : Obj) : Below w.heap.size w (((w.alloc o1).alloc o2).alloc o3) := (((Below.refl _ _).alloc (Nat.le_refl _) o1).alloc (by simp) o2).alloc (by simp; omega) o3
theorem ofS_append (ss : List ByteArray) (fs : List Pr) : ∀ (a b : List Ev) (S : St), ofS ss fs (a ++ b) S = if (ofS ss fs a S).1 = 0 then ofS ss fs b (ofS ss fs a S).2 else ((ofS ss fs a S).1, z0)
  | [], b, S => rfl
  | e :: a, b, S => by
    have q1 : ∀ r, ofS ss fs (e :: r) S = if (evS ss fs S e).1 = 0 then ofS ss fs r (evS ss fs S e).2 else ((evS ss fs S e).1, z0) := fun _ => rfl
    rw [List.cons_append, q1, q1]
    by_cases h : (evS ss fs S e).1 = 0
    · rw [if_pos h, if_pos h]; exact ofS_append ss fs a b _
    · rw [if_neg h, if_neg h]; exact (if_neg h).symm
theorem ofS_step {ss : List ByteArray} {fs : List Pr} {es : List Ev} {S S' : St} {k : Nat} (h : ofS ss fs (es.take k) S = (0, S')) (hk : k < es.length) (hc : (evS ss fs S' es[k]).1 = 0) : ofS ss fs (es.take (k + 1)) S = (0, (evS ss fs S' es[k]).2) := by
  rw [List.take_succ_eq_append_getElem hk, ofS_append, h]
  simp [ofS, hc]
theorem ofS_stop {ss : List ByteArray} {fs : List Pr} {es : List Ev} {S S' : St} {k : Nat} (h : ofS ss fs (es.take k) S = (0, S')) (hk : k < es.length) (hc : ¬ (evS ss fs S' es[k]).1 = 0) : ofS ss fs es S = ((evS ss fs S' es[k]).1, z0) := by
  have h2 : ofS ss fs (es.take k ++ es[k] :: es.drop (k + 1)) S = ((evS ss fs S' es[k]).1, z0) := by
    rw [ofS_append, h]
    simp [ofS, hc]
  rw [← List.drop_eq_getElem_cons hk, List.take_append_drop] at h2
  exact h2
theorem evS_right {ss : List ByteArray} {fs : List Pr} {S : St} {e : Ev} (D : DefP ss fs) (hS : StP ss S) (hc : (evS ss fs S e).1 = 0) : StP ss (evS ss fs S e).2 := by
  unfold evS at hc ⊢
  by_cases he : evB e = true
  · rw [if_pos he] at hc ⊢; exact stepS_right D hS he hc
  · rw [if_neg he] at hc; exact absurd hc (by decide)
theorem evS_code (ss : List ByteArray) (fs : List Pr) (S : St) (e : Ev) : (evS ss fs S e).1 = 0 ∨ (evS ss fs S e).1 = 1 ∨ (evS ss fs S e).1 = 10 ∨ (evS ss fs S e).1 = 8 ∨ (evS ss fs S e).1 = 6 ∨ (evS ss fs S e).1 = 9 := by
  unfold evS stepS doS
  repeat' split
  all_goals simp
theorem code_any {e0 e1 e2 e3 e4 : Addr} (c : Int) (w : World) (h : ErrsAt w e0 e1 e2 e3 e4) (hc : c = 1 ∨ c = 10 ∨ c = 8 ∨ c = 6 ∨ c = 9) :
    Calls Tryz.prog 106 #[errV (aOf e0 e1 e2 e3 e4 c)] w fun e w' => e = .returned (.int .i64 c) ∧ w' = w := by
  rcases hc with rfl | rfl | rfl | rfl | rfl
  · exact code_0 w h
  · exact code_1 w h
  · exact code_2 w h
  · exact code_3 w h
  · exact code_4 w h
/-- Names and values of a right State are short. -/
theorem stP_fit {ss : List ByteArray} {S : St} (D : StepsP ss) (h : StP ss S) : (∀ i, (hi : i < S.vars.length) → S.vars[i].fst.size ≤ 40 ∧ S.vars[i].snd.size ≤ 40) ∧ (∀ s ∈ S.wait, s.size ≤ 20) ∧ (∀ s ∈ S.busy, s.size ≤ 20) := by
  have nz : ∀ s : ByteArray, nrB s = true → s.size ≤ 20 := fun s h => by unfold nrB at h; simp only [Bool.and_eq_true, decide_eq_true_eq] at h; exact h.2.1
  have ns : ∀ s ∈ ss, s.size ≤ 20 := fun s hs => by
    obtain ⟨i, hi, rfl⟩ := List.mem_iff_getElem.1 hs
    exact nz _ (D.nm i hi)
  have key : BegP ss S → _ := fun h => (⟨fun i hi => ⟨by have := nz _ (h.v.nm i hi).1; omega, (h.v.nm i hi).2⟩, fun s hs => ns s (h.w.all s hs), fun s hs => ns s (h.b.all s hs)⟩ : (∀ i, (hi : i < S.vars.length) → S.vars[i].fst.size ≤ 40 ∧ S.vars[i].snd.size ≤ 40) ∧ (∀ s ∈ S.wait, s.size ≤ 20) ∧ (∀ s ∈ S.busy, s.size ≤ 20))
  rcases h with ⟨_, h⟩ | ⟨_, h⟩ | ⟨_, _, h⟩
  · rw [List.eq_nil_of_length_eq_zero h.w, List.eq_nil_of_length_eq_zero h.b]
    exact ⟨fun i hi => by have := h.v0; omega, by simp, by simp⟩
  · exact key h
  · exact key h
theorem EvSl.row {w : World} {a : Option Addr} {n c : Nat} {es : List Ev} (h : EvSl w (.slice a n c) es) (h0 : 0 < es.length) : ∃ g o, a = some ⟨g, o, none⟩ ∧ EvsAt w g o es := by
  rcases h with ⟨_, _, _, rfl⟩ | ⟨g, o, _, hv, h⟩
  · simp at h0
  · injection hv with h1 _ _; exact ⟨g, o, h1, by first | exact h | exact h.2⟩
set_option maxRecDepth 100000 in
set_option maxHeartbeats 4000000 in
theorem happened_any (a1 a2 a3 a4 a5 a6 : Option Addr) (k1 k2 k3 k4 k5 k6 : Nat) (ss : List ByteArray) (fs : List Pr) (S : St) (es : List Ev) (e0 e1 e2 e3 e4 : Addr) (w : World) (hD : DefSl w a1 a2 k1 k2 ss fs) (hT : StSl w a3 a4 a5 k3 k4 k5 S) (hE : EvSl w (.slice a6 es.length k6) es) (hEr : ErrsAt w e0 e1 e2 e3 e4) (D : DefP ss fs) (hP : StP ss S) (F1 : ∀ i, (h : i < ss.length) → ss[i].size ≤ maxLen) (F2 : FitP fs) (FE : ∀ i, (h : i < es.length) → es[i].step.size ≤ maxLen) (hn : es.length ≤ 1000) :
    Calls Tryz.prog 85 #[defV a1 a2 k1 k2 ss fs, stV a3 a4 a5 k3 k4 k5 S, .slice a6 es.length k6] w fun x w' => StepPost w.heap.size w (ofS ss fs es S).1 (ofS ss fs es S).2 x w' := by
  have hbW : Below w.heap.size w (((w.alloc (.cells #[.slice a1 ss.length k1, .slice a2 fs.length k2] 26)).alloc (.cells #[.int .i64 S.status, .int .i64 S.begun, .int .i64 S.last, .slice a3 S.wait.length k3, .slice a4 S.busy.length k4, .slice a5 S.vars.length k5, .int .i64 S.faults] 91)).alloc (.cells #[.int .i64 0, .int .i64 0, .int .i64 0, .slice none 0 0, .slice none 0 0, .slice none 0 0, .int .i64 0, .int .i64 0] 93)) := below3 _ _ _ _
  have hWs : (((w.alloc (.cells #[.slice a1 ss.length k1, .slice a2 fs.length k2] 26)).alloc (.cells #[.int .i64 S.status, .int .i64 S.begun, .int .i64 S.last, .slice a3 S.wait.length k3, .slice a4 S.busy.length k4, .slice a5 S.vars.length k5, .int .i64 S.faults] 91)).alloc (.cells #[.int .i64 0, .int .i64 0, .int .i64 0, .slice none 0 0, .slice none 0 0, .slice none 0 0, .int .i64 0, .int .i64 0] 93)).heap.size = w.heap.size + 1 + 1 + 1 := by simp
  have HRW := hid (show (((w.alloc (.cells #[.slice a1 ss.length k1, .slice a2 fs.length k2] 26)).alloc (.cells #[.int .i64 S.status, .int .i64 S.begun, .int .i64 S.last, .slice a3 S.wait.length k3, .slice a4 S.busy.length k4, .slice a5 S.vars.length k5, .int .i64 S.faults] 91)).alloc (.cells #[.int .i64 0, .int .i64 0, .int .i64 0, .slice none 0 0, .slice none 0 0, .slice none 0 0, .int .i64 0, .int .i64 0] 93)).heap[w.heap.size + 1 + 1]? = some (.cells #[.int .i64 0, .int .i64 0, .int .i64 0, .slice none 0 0, .slice none 0 0, .slice none 0 0, .int .i64 0, .int .i64 0] 93 (0, 0)) from by
    have h := heap_alloc_new ((w.alloc (.cells #[.slice a1 ss.length k1, .slice a2 fs.length k2] 26)).alloc (.cells #[.int .i64 S.status, .int .i64 S.begun, .int .i64 S.last, .slice a3 S.wait.length k3, .slice a4 S.busy.length k4, .slice a5 S.vars.length k5, .int .i64 S.faults] 91)) (.cells #[.int .i64 0, .int .i64 0, .int .i64 0, .slice none 0 0, .slice none 0 0, .slice none 0 0, .int .i64 0, .int .i64 0] 93 (0, 0))
    rw [show ((w.alloc (.cells #[.slice a1 ss.length k1, .slice a2 fs.length k2] 26)).alloc (.cells #[.int .i64 S.status, .int .i64 S.begun, .int .i64 S.last, .slice a3 S.wait.length k3, .slice a4 S.busy.length k4, .slice a5 S.vars.length k5, .int .i64 S.faults] 91)).heap.size = w.heap.size + 1 + 1 by simp] at h
    exact h)
  have HBW := hid hbW
  have HEv := hid (hE.stay hbW (Nat.le_refl _))
  have HDW := hid (hD.stay hbW)
  have HER := hid (hEr.stay hbW)
  have sm := stP_small hP
  have ft := stP_fit D.1 hP
  have cO := hid (standOf_any a1 a2 a3 a4 a5 k1 k2 k3 k4 k5 ss fs S (((w.alloc (.cells #[.slice a1 ss.length k1, .slice a2 fs.length k2] 26)).alloc (.cells #[.int .i64 S.status, .int .i64 S.begun, .int .i64 S.last, .slice a3 S.wait.length k3, .slice a4 S.busy.length k4, .slice a5 S.vars.length k5, .int .i64 S.faults] 91)).alloc (.cells #[.int .i64 0, .int .i64 0, .int .i64 0, .slice none 0 0, .slice none 0 0, .slice none 0 0, .int .i64 0, .int .i64 0] 93)) (hT.stay hbW) (fun i hi => by have := ft.2.1 _ (List.getElem_mem hi); unfold maxLen; omega) (fun i hi => by have := ft.2.2 _ (List.getElem_mem hi); unfold maxLen; omega) (by omega) (by omega) (by omega))
  have HPP := hid hP
  have HDD := hid D
  have HF1 := hid F1
  have HF2 := hid F2
  have HFE := hid FE
  have hl1 := hD.l1
  have hl2 := hD.l2
  have HL1 := hid hl1
  have HL2 := hid hl2
  have hNG := hid hEr.hs
  clear hE hD hT hEr hP ft D F1 F2 FE hbW hl1 hl2
  go_enter Tryz.func85, Tryz.ntmps85
  go_wp2_with fail
  refine cO.out.mono ?_
  generalize (((w.alloc (.cells #[.slice a1 ss.length k1, .slice a2 fs.length k2] 26)).alloc (.cells #[.int .i64 S.status, .int .i64 S.begun, .int .i64 S.last, .slice a3 S.wait.length k3, .slice a4 S.busy.length k4, .slice a5 S.vars.length k5, .int .i64 S.faults] 91)).alloc (.cells #[.int .i64 0, .int .i64 0, .int .i64 0, .slice none 0 0, .slice none 0 0, .slice none 0 0, .int .i64 0, .int .i64 0] 93)) = W at *
  rintro x W1 ⟨B, bw, bb, b5, c5, rfl, hS1, hb1⟩
  have HS1 := hid hS1
  have HB1 := hid hb1
  have hz1 := hb1.size
  clear hS1 hb1 cO
  go_wp2_with fail
  go_loopw [16] (fun i wr => ∃ (k : Nat) (vv : Value) (S' : St), k ≤ es.length ∧ i = .int .i64 k ∧ Stand wr W.heap.size B bw bb (.slice a1 ss.length k1) (.slice a2 fs.length k2) vv (S.wait.length + S.busy.length + 41 * k) S' ∧ StP ss S' ∧ ofS ss fs (es.take k) S = (0, S') ∧ Below W.heap.size W wr) (fun i _ => es.length - (intOf i).toNat)
  case atStart => exact ⟨0, _, S, Nat.zero_le _, rfl, HS1.out, HPP.out, rfl, HB1.out⟩
  case round =>
    obtain ⟨k, vv, S', hk, rfl, hSt, hP', hof, hbr⟩ := hrel
    have HSt := hid hSt
    have HP' := hid hP'
    have HOF := hid hof
    have HBr := hid hbr
    have hzr := hbr.size
    have HRr := hid ((hbr.block (w.heap.size + 1 + 1) (lt_heap HRW.out)).trans HRW.out)
    clear hSt hP' hof hbr
    by_cases hlt : k < es.length
    · obtain ⟨g, o, ha, hQ⟩ := HEv.out.row (by omega)
      subst ha
      obtain ⟨q0, q1, q2, q3, q4, q5⟩ := (hQ.stay HBr.out (Nat.le_refl _)).2 k hlt
      have hfe := HFE.out k hlt
      have HSTEP := hid (fun hc => ofS_step HOF.out hlt hc)
      have HSTOP := hid (fun hc => ofS_stop HOF.out hlt hc)
      generalize es[k] = e at *
      obtain ⟨eq, et, er, ek, es0, ev⟩ := e
      simp only at q0 q1 q2 q3 q4 q5 hfe
      have hbX : Below wr.heap.size wr (wr.alloc (.cells #[.int .i64 eq, .int .i64 et, .int .i64 er, .int .i64 ek, .string es0, .string ev] 33)) := (Below.refl _ _).alloc (Nat.le_refl _) _
      have hbwX : Below W.heap.size W (wr.alloc (.cells #[.int .i64 eq, .int .i64 et, .int .i64 er, .int .i64 ek, .string es0, .string ev] 33)) := HBr.out.trans (hbX.mono hzr)
      have hI : HapIn (wr.alloc (.cells #[.int .i64 eq, .int .i64 et, .int .i64 er, .int .i64 ek, .string es0, .string ev] 33)) W.heap.size a1 a2 k1 k2 ss fs e0 e1 e2 e3 e4 := ⟨HDW.out.h1.stay hbwX (Nat.le_refl _), HDW.out.h2.stay hbwX (Nat.le_refl _), fun g o h => by have := HL1.out g o h; omega, fun g o h => by have := HL2.out g o h; omega, HER.out.stay hbwX, by have := hNG.out; omega⟩
      have cH := hid (happen_any W.heap.size B bw bb _ a1 a2 k1 k2 ss fs vv S' ⟨eq, et, er, ek, es0, ev⟩ e0 e1 e2 e3 e4 _ (HSt.out.stay hbX) hI HDD.out HP'.out HF1.out HF2.out hfe (by omega))
      have HCD := hid (evS_code ss fs S' ⟨eq, et, er, ek, es0, ev⟩)
      have HRT := hid (fun hc => evS_right (e := ⟨eq, et, er, ek, es0, ev⟩) HDD.out HP'.out hc)
      unfold evV at cH
      generalize hcs : evS ss fs S' ⟨eq, et, er, ek, es0, ev⟩ = cs at *
      clear hcs
      obtain ⟨c, S2⟩ := cs
      have HX := hid hbX
      have HER2 := hid (HER.out.stay hbwX)
      have HRx := hid ((hbX.block (w.heap.size + 1 + 1) (lt_heap HRr.out)).trans HRr.out)
      have hXs : (wr.alloc (.cells #[.int .i64 eq, .int .i64 et, .int .i64 er, .int .i64 ek, .string es0, .string ev] 33)).heap.size = wr.heap.size + 1 := by simp
      clear hbX hI hQ
      go_wp2_with fail
      refine cH.out.mono ?_
      have HWX := hid hbwX
      clear hbwX cH
      generalize wr.alloc (.cells #[.int .i64 eq, .int .i64 et, .int .i64 er, .int .i64 ek, .string es0, .string ev] 33) = X at *
      rintro x U ⟨hC, hok, hno⟩
      have hlo := HSt.out.lo
      have HBU := hid (HWX.out.trans (hC.below HWX.out.size hlo))
      have hzU := hC.size
      have HRu := hid ((HBU.out.block (w.heap.size + 1 + 1) (lt_heap HRW.out)).trans HRW.out)
      have HERu := hid (HER.out.stay HBU.out)
      clear hC q0 q1 q2 q3 q4 q5
      by_cases hc : c = 0
      · subst hc
        obtain ⟨rfl, vv', hS2⟩ := hok rfl
        have HS2 := hid hS2
        clear hS2 hno hok
        go_wp2_with fail
        go_roundw
        case rel => exact ⟨k + 1, vv', S2, by omega, by go_num, by rw [show S.wait.length + S.busy.length + 41 * (k + 1) = S.wait.length + S.busy.length + 41 * k + 41 by omega]; exact HS2.out, HRT.out (by trivial), HSTEP.out (by trivial), HBU.out⟩
        case measure => simp [intOf]; omega
      · obtain rfl := hno hc
        have hcc : c = 1 ∨ c = 10 ∨ c = 8 ∨ c = 6 ∨ c = 9 := by rcases HCD.out with h | h; exact absurd h hc; exact h
        have cC := hid (code_any c U HERu.out hcc)
        have HCC := hid hc
        have HFIN := hid (HSTOP.out hc)
        clear hno hok hcc
        generalize aOf e0 e1 e2 e3 e4 c = ae at *
        go_wp2_with fail
        refine cC.out.mono ?_
        rintro x Uq ⟨rfl, hq⟩
        rw [hq]
        clear hq Uq
        have r0 : U.cell? ⟨w.heap.size + 1 + 1, 0, none⟩ = some (.int .i64 0) := by rw [Lib.cell_of_heap HRu.out]; rfl
        have r1 : U.cell? ⟨w.heap.size + 1 + 1, 1, none⟩ = some (.int .i64 0) := by rw [Lib.cell_of_heap HRu.out]; rfl
        have r2 : U.cell? ⟨w.heap.size + 1 + 1, 2, none⟩ = some (.int .i64 0) := by rw [Lib.cell_of_heap HRu.out]; rfl
        have r3 : U.cell? ⟨w.heap.size + 1 + 1, 3, none⟩ = some (.slice none 0 0) := by rw [Lib.cell_of_heap HRu.out]; rfl
        have r4 : U.cell? ⟨w.heap.size + 1 + 1, 4, none⟩ = some (.slice none 0 0) := by rw [Lib.cell_of_heap HRu.out]; rfl
        have r5 : U.cell? ⟨w.heap.size + 1 + 1, 5, none⟩ = some (.slice none 0 0) := by rw [Lib.cell_of_heap HRu.out]; rfl
        have r6 : U.cell? ⟨w.heap.size + 1 + 1, 6, none⟩ = some (.int .i64 0) := by rw [Lib.cell_of_heap HRu.out]; rfl
        have r7 : U.cell? ⟨w.heap.size + 1 + 1, 7, none⟩ = some (.int .i64 0) := by rw [Lib.cell_of_heap HRu.out]; rfl
        have rf := Lib.frozen_of_heap HRu.out
        go_wp2_with fail
        have hCR : Chg (fun j => j = w.heap.size + 1 + 1) U ((((((((U.setCell ⟨w.heap.size + 1 + 1, 0, none⟩ (.int .i64 0)).setCell ⟨w.heap.size + 1 + 1, 1, none⟩ (.int .i64 0)).setCell ⟨w.heap.size + 1 + 1, 2, none⟩ (.int .i64 0)).setCell ⟨w.heap.size + 1 + 1, 3, none⟩ (.slice none 0 0)).setCell ⟨w.heap.size + 1 + 1, 4, none⟩ (.slice none 0 0)).setCell ⟨w.heap.size + 1 + 1, 5, none⟩ (.slice none 0 0)).setCell ⟨w.heap.size + 1 + 1, 6, none⟩ (.int .i64 0)).setCell ⟨w.heap.size + 1 + 1, 7, none⟩ (.int .i64 c)) := (((((((chg_set _ _ _ _).trans (chg_set _ _ _ _)).trans (chg_set _ _ _ _)).trans (chg_set _ _ _ _)).trans (chg_set _ _ _ _)).trans (chg_set _ _ _ _)).trans (chg_set _ _ _ _)).trans (chg_set _ _ _ _)
        refine bodyPost_ret (v := outV c z0 (.slice none 0 0) (.slice none 0 0) (.slice none 0 0)) (by simp [results, Tryz.results85, go_sem, outV, z0, r0, r1, r2, r3, r4, r5, r6, r7]) rfl ?_
        show StepPost _ _ (ofS ss fs es S).1 (ofS ss fs es S).2 _ _
        rw [HFIN.out]
        exact ⟨_, _, _, rfl, StOwn.none _ _, (HBW.out.trans (HBU.out.mono HBW.out.size)).trans (hCR.below (by have := HBU.out.size; omega) (fun j (h : j = _) => by omega))⟩
    · have hke : k = es.length := by omega
      have HFIN := hid (show ofS ss fs es S = (0, S') by have h := HOF.out; rwa [hke, List.take_of_length_le (Nat.le_refl _)] at h)
      have ft := stP_fit HDD.out.1 HP'.out
      have sm2 := stP_small HP'.out
      have cT := hid (told_any W.heap.size B bw bb _ _ _ vv ss S' wr HSt.out HP'.out (by omega) (fun i hi => by have := ft.1 i hi; omega) (fun s hs => by have := ft.2.1 s hs; omega) (fun s hs => by have := ft.2.2 s hs; omega) (by omega))
      clear ft sm2 hke
      go_wp2_with fail
      refine cT.out.mono ?_
      rintro x U ⟨u3, u4, u5, rfl, hO, hb⟩
      obtain ⟨x3a, x4a, x5a, x3c, x4c, x5c, rfl, rfl, rfl⟩ := hO.forms
      have HO := hid hO
      have HBU := hid (HBr.out.trans (hb.mono hzr))
      have hzU := hb.size
      have HRu := hid ((HBU.out.block (w.heap.size + 1 + 1) (lt_heap HRW.out)).trans HRW.out)
      clear hO hb cT
      have r0 : U.cell? ⟨w.heap.size + 1 + 1, 0, none⟩ = some (.int .i64 0) := by rw [Lib.cell_of_heap HRu.out]; rfl
      have r1 : U.cell? ⟨w.heap.size + 1 + 1, 1, none⟩ = some (.int .i64 0) := by rw [Lib.cell_of_heap HRu.out]; rfl
      have r2 : U.cell? ⟨w.heap.size + 1 + 1, 2, none⟩ = some (.int .i64 0) := by rw [Lib.cell_of_heap HRu.out]; rfl
      have r3 : U.cell? ⟨w.heap.size + 1 + 1, 3, none⟩ = some (.slice none 0 0) := by rw [Lib.cell_of_heap HRu.out]; rfl
      have r4 : U.cell? ⟨w.heap.size + 1 + 1, 4, none⟩ = some (.slice none 0 0) := by rw [Lib.cell_of_heap HRu.out]; rfl
      have r5 : U.cell? ⟨w.heap.size + 1 + 1, 5, none⟩ = some (.slice none 0 0) := by rw [Lib.cell_of_heap HRu.out]; rfl
      have r6 : U.cell? ⟨w.heap.size + 1 + 1, 6, none⟩ = some (.int .i64 0) := by rw [Lib.cell_of_heap HRu.out]; rfl
      have r7 : U.cell? ⟨w.heap.size + 1 + 1, 7, none⟩ = some (.int .i64 0) := by rw [Lib.cell_of_heap HRu.out]; rfl
      have rf := Lib.frozen_of_heap HRu.out
      go_wp2_with fail
      have hCR : Chg (fun j => j = w.heap.size + 1 + 1) U ((((((((U.setCell ⟨w.heap.size + 1 + 1, 0, none⟩ (.int .i64 S'.status)).setCell ⟨w.heap.size + 1 + 1, 1, none⟩ (.int .i64 S'.begun)).setCell ⟨w.heap.size + 1 + 1, 2, none⟩ (.int .i64 S'.last)).setCell ⟨w.heap.size + 1 + 1, 3, none⟩ (.slice x3a S'.wait.length x3c)).setCell ⟨w.heap.size + 1 + 1, 4, none⟩ (.slice x4a S'.busy.length x4c)).setCell ⟨w.heap.size + 1 + 1, 5, none⟩ (.slice x5a S'.vars.length x5c)).setCell ⟨w.heap.size + 1 + 1, 6, none⟩ (.int .i64 S'.faults)).setCell ⟨w.heap.size + 1 + 1, 7, none⟩ (.int .i64 0)) := (((((((chg_set _ _ _ _).trans (chg_set _ _ _ _)).trans (chg_set _ _ _ _)).trans (chg_set _ _ _ _)).trans (chg_set _ _ _ _)).trans (chg_set _ _ _ _)).trans (chg_set _ _ _ _)).trans (chg_set _ _ _ _)
      refine bodyPost_ret (v := outV 0 S' (.slice x3a S'.wait.length x3c) (.slice x4a S'.busy.length x4c) (.slice x5a S'.vars.length x5c)) (by simp [results, Tryz.results85, go_sem, outV, r0, r1, r2, r3, r4, r5, r6, r7]) rfl ?_
      show StepPost _ _ (ofS ss fs es S).1 (ofS ss fs es S).2 _ _
      rw [HFIN.out]
      exact ⟨_, _, _, rfl, (HO.out.turn hCR HRu.out (by decide) (by decide)).le (by omega), (HBW.out.trans (HBU.out.mono HBW.out.size)).trans (hCR.below (by have := HBU.out.size; omega) (fun j (h : j = _) => by omega))⟩
end Go.Proofs.YthggcdadipjiiaaGreatDoor
