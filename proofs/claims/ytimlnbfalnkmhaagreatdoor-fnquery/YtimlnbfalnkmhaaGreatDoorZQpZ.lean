/-
  Queries: what spec.QueryRead answers: a contract over the seat's program.
-/
import Derived.Test.YtimlnbfalnkmhaaGreatDoorZQuQ4
import Derived.Test.YtimlnbfalnkmhaaGreatDoorZQpQ
import Derived.Test.YtimlnbfalnkmhaaGreatDoorZQoM5
import Derived.Test.YtimlnbfalnkmhaaGreatDoorZQrB3
namespace Go.Proofs.YtimlnbfalnkmhaaGreatDoor
open Go.RowKit

/-- Amid the words: the reader, its words so far; the parts; the answer's box. -/
structure Wd (w X0 X : World) (v : Value) (o : List ByteArray) (u : Value) (q : List ByteArray) : Prop where
  B : X.heap[w.heap.size + 1]? = some (.cells [u, .int .i64 0, .bool false].toArray 82 (0, 0))
  U : X.ownsRow X0.heap.size 9 1 u q.length (q.map Value.string)
  V : X.ownsRow w.heap.size 9 1 v o.length (o.map Value.string)
  hv : ∀ j, v.ownBlock = some j → j < X0.heap.size ∧ j ≠ w.heap.size + 1
  P : NewB w X w.heap.size [.bool false, .slice none 0 0, .string ⟨#[]⟩, .string ⟨#[]⟩, .bool false, .int .i64 0, .int .i64 0, .int .i64 0] 30
  b : Below w.heap.size w X
  hs : X0.heap.size ≤ X.heap.size
  h0 : w.heap.size + 1 < X0.heap.size
theorem Wd.below {w X0 X X' : World} {v : Value} {o : List ByteArray} {u : Value} {q : List ByteArray} (h : Wd w X0 X v o u q) (hb : Below X.heap.size X X') : Wd w X0 X' v o u q :=
  ⟨(hb.block _ (lt_heap h.B)).trans h.B, ownB_stay h.U hb, ownB_stay h.V hb, h.hv, h.P.below hb, h.b.trans (hb.mono h.b.size), Nat.le_trans h.hs hb.size, h.h0⟩
theorem Wd.app {w X0 X X' : World} {v : Value} {o : List ByteArray} {u u' : Value} {q q' : List ByteArray} (h : Wd w X0 X v o u q) (hg : X.grownBy X' u.ownBlock) (ho : X'.ownsRow X0.heap.size 9 1 u' q'.length (q'.map Value.string)) : Wd w X0 (X'.setCell ⟨w.heap.size + 1, 0, none⟩ u') v o u' q' := by
  have h0 := h.h0
  have ge : ∀ j, u.ownBlock = some j → X0.heap.size ≤ j := fun j e => (h.U.lt j e).1
  have hB : X'.heap[w.heap.size + 1]? = some (.cells [u, .int .i64 0, .bool false].toArray 82 (0, 0)) := (hg.block _ (lt_heap h.B) (fun e => by have := ge _ e.symm; omega)).trans h.B
  have hV : X'.ownsRow w.heap.size 9 1 v o.length (o.map Value.string) := h.V.kept hg (by
    cases hv : v.ownBlock with
    | none => exact .inl rfl
    | some j => exact .inr (fun e => by have := ge j (by simpa using e.symm); have := (h.hv j hv).1; omega))
  have hb : Below w.heap.size w X' := h.b.grown hg h.b.size (fun j e => by have := ge j e; omega)
  refine ⟨by have := blk_set (i := 0) hB u'; simpa using this, own_kept ho h0 (grown_set X' (w.heap.size + 1) 0 _), ?_, h.hv, (h.P.grow hg (fun j e => by have := ge j e; omega)).other (by omega) 0 _, hb.setCell (p := ⟨w.heap.size + 1, 0, none⟩) (by show w.heap.size ≤ w.heap.size + 1; omega) _, by have := Nat.le_trans h.hs hg.size; simpa [World.setCell] using this, h0⟩
  refine hV.kept (grown_set X' (w.heap.size + 1) 0 u') ?_
  cases hv : v.ownBlock with
  | none => exact .inl rfl
  | some j => exact .inr (fun e => (h.hv j hv).2 (by simpa using e))
theorem filt_one {α : Type} (p : α → Bool) (x : α) : List.filter p [x] = if p x = true then [x] else [] := by cases h : p x <;> simp [List.filter, h]
theorem take_filt {o : List ByteArray} {k : Nat} (h : k < o.length) : (o.take (k + 1)).filter (fun x => decide (x.size ≠ 0)) = (o.take k).filter (fun x => decide (x.size ≠ 0)) ++ (if o[k].size ≠ 0 then [o[k]] else []) := by
  rw [List.take_add_one, List.filter_append, List.getElem?_eq_getElem h]
  congr 1
  show List.filter _ [o[k]] = _
  rw [filt_one]
  simp only [decide_eq_true_eq]
theorem emp_toList {S : ByteArray} : (S.toList == []) = decide (S.size = 0) := by
  have := Lib.size_eq S
  rw [ByteArray.toList_eq]
  cases hS : S.data.toList with
  | nil => rw [hS] at this; simp [this]
  | cons a l => rw [hS] at this; simp [this]
theorem EndSQ.ok {w w' : World} {b : Nat} {sv : Value} {ws : List ByteArray} {r : Except Nat Qy} {q : Qy} {e : Ending} (h : EndSQ w b sv ws r e w') (hr : r = .ok q) : (∃ va vc, e = .returned (.agg #[.bool q.cnt, .slice va q.cs.length vc, .string q.by', .string q.ord, .bool q.dwn, .int .i64 q.lim]) ∧ w'.ownsRow w.heap.size 67 4 (.slice va q.cs.length vc) q.cs.length (q.cs.flatMap Cd.cells)) ∧ (∃ k, RdS w' b sv ws k false) ∧ w.grownBy w' (some b) := by subst hr; exact h
theorem EndSQ.err {w w' : World} {b k : Nat} {sv : Value} {ws : List ByteArray} {r : Except Nat Qy} {e : Ending} (h : EndSQ w b sv ws r e w') (hr : r = .error k) : (∃ (c0 c4 : Bool) (va : Option Addr) (n vc : Nat) (s2 s3 : ByteArray) (n5 : Int), e = .returned (.agg #[.bool c0, .slice va n vc, .string s2, .string s3, .bool c4, .int .i64 n5])) ∧ RdS w' b sv ws k true ∧ w.grownBy w' (some b) := by subst hr; exact h
set_option maxRecDepth 100000 in
set_option maxHeartbeats 4000000 in
theorem specQueryRead_any (s : ByteArray) (w : World) :
    Calls Tryz.prog 14 #[.string s] w fun e w' => ∃ v, e = .returned (qoV (qoS s) v) ∧ w'.ownsRow w.heap.size 67 4 v (qoS s).1.cs.length ((qoS s).1.cs.flatMap Cd.cells) ∧ Below w.heap.size w w' := by
  have mixed : Tryz.prog.follows .mixedOrders = true := by kernel_rfl
  obtain ⟨i0, hi, hz0, hz1, hz2⟩ := info_parts Tryz.infoStr
  generalize hR' : qoS s = R
  have hR := hid hR'
  clear hR'
  by_cases h8 : s.size ≤ 8000
  · have z8 : ¬ (8000 < (s.size : Int)) := by omega
    have hb0 : Below w.heap.size w ((w.alloc (.cells #[.bool false, .slice none 0 0, .string ⟨#[]⟩, .string ⟨#[]⟩, .bool false, .int .i64 0, .int .i64 0, .int .i64 0] 30)).alloc (.cells #[.slice none 0 0, .int .i64 0, .bool false] 82)) := below2 w _ _
    have cS := l01Split_any s ((w.alloc (.cells #[.bool false, .slice none 0 0, .string ⟨#[]⟩, .string ⟨#[]⟩, .bool false, .int .i64 0, .int .i64 0, .int .i64 0] 30)).alloc (.cells #[.slice none 0 0, .int .i64 0, .bool false] 82)) h8
    have P0 := hid ((NewB.made (w := w) (W := w) [.bool false, .slice none 0 0, .string ⟨#[]⟩, .string ⟨#[]⟩, .bool false, .int .i64 0, .int .i64 0, .int .i64 0] 30 (Nat.le_refl _)).alloc (.cells #[.slice none 0 0, .int .i64 0, .bool false] 82))
    have B0 : Hid (((w.alloc (.cells #[.bool false, .slice none 0 0, .string ⟨#[]⟩, .string ⟨#[]⟩, .bool false, .int .i64 0, .int .i64 0, .int .i64 0] 30)).alloc (.cells #[.slice none 0 0, .int .i64 0, .bool false] 82)).heap[w.heap.size + 1]? = some (.cells #[.slice none 0 0, .int .i64 0, .bool false] 82 (0, 0))) := hid (by rw [show w.heap.size + 1 = (w.alloc (.cells #[.bool false, .slice none 0 0, .string ⟨#[]⟩, .string ⟨#[]⟩, .bool false, .int .i64 0, .int .i64 0, .int .i64 0] 30)).heap.size by simp]; exact heap_alloc_new _ _)
    go_enter Tryz.func14, Tryz.ntmps14
    go_wp2_with fail
    refine cS.mono ?_
    rintro e X0 ⟨v, o, rfl, hown, hfil, hol, hb1⟩
    obtain ⟨va, vc, rfl⟩ := ownB_form hown
    have H : Hid (Wd w X0 X0 (.slice va o.length vc) o (.slice none 0 0) []) := hid ⟨(hb1.block (w.heap.size + 1) (by simp)).trans B0.out, ⟨by simp, .inl ⟨rfl, rfl⟩⟩, ownB_le hown (by simp; omega), fun j e => ⟨(hown.lt j e).2, by have := (hown.lt j e).1; simp at this; omega⟩, P0.out.below hb1, hb0.trans (hb1.mono hb0.size), Nat.le_refl _, by have := hb1.size; simp at this; omega⟩
    clear cS hown hb1 P0 B0 hb0
    go_wp2_with fail
    go_loopw [5] (fun i wx => ∃ (k : Nat) (ua : Option Addr) (uc : Nat) (q : List ByteArray), i = .int .i64 (k : Int) ∧ k ≤ o.length ∧ q = (o.take k).filter (fun x => decide (x.size ≠ 0)) ∧ Wd w X0 wx (.slice va o.length vc) o (.slice ua q.length uc) q) (fun i _ => o.length - (intOf i).toNat)
    case atStart => exact ⟨0, none, 0, [], rfl, Nat.zero_le _, by simp, H.out⟩
    case round =>
      obtain ⟨k, ua, uc, q, rfl, hk, hq, hW⟩ := hrel
      have HQ := hid hq
      have HW := hid hW
      clear hq hW H
      generalize wr = X at *
      have e0 : X.cell? ⟨w.heap.size + 1, 0, none⟩ = some (.slice ua q.length uc) := by rw [Lib.cell_of_heap HW.out.B]; rfl
      by_cases hlt : k < o.length
      · have zk : (k : Int) < (o.length : Int) := by omega
        obtain ⟨g, rfl⟩ : ∃ g, va = some ⟨g, 0, none⟩ := by
          rcases HW.out.V.2 with ⟨h1, h2⟩ | ⟨g, cap, cur, h1, _⟩
          · rw [h2] at hlt; exact absurd hlt (by omega)
          · injection h1 with h1; exact ⟨g, h1⟩
        have hx : X.cell? ⟨g, k, none⟩ = some (.string o[k]) := by
          have := HW.out.V.cells (g := g) rfl k (.string o[k]) (by simp [hlt])
          rw [Addr.add_lit, Nat.zero_add] at this
          exact this
        have hgl := (HW.out.V.lt g rfl).2
        have hT := hid (take_filt hlt)
        have hq0 := @emp_toList o[k]
        generalize o[k] = S at *
        by_cases hS : S.size = 0
        · have hS' : (S.toList == []) = true := by rw [hq0, decide_eq_true hS]
          rw [if_neg (by omega), List.append_nil] at hT
          clear hS hq0
          go_wp2
          go_roundw
          case rel => exact ⟨k + 1, ua, uc, q, by go_num, by omega, HQ.out.trans hT.out.symm, HW.out.below (Below.refl _ _)⟩
          case measure => simp [intOf]; omega
        · have hS' : (S.toList == []) = false := by rw [hq0, decide_eq_false hS]
          rw [if_pos hS] at hT
          clear hS hq0
          have HA := hid ((HW.out.below ((Below.refl _ _).alloc (Nat.le_refl _) (.cells #[.string S] 9))).below (Below.refl _ _).drew)
          have a0 : (X.alloc (.cells #[.string S] 9)).cell? ⟨w.heap.size + 1, 0, none⟩ = some (.slice ua q.length uc) := by show (X.alloc (.cells #[.string S] 9)).drew.cell? _ = _; rw [Lib.cell_of_heap HA.out.B]; rfl
          have x0 : (X.alloc (.cells #[.string S] 9)).cell? ⟨g, k, none⟩ = some (.string S) := (((Below.refl X.heap.size X).alloc (Nat.le_refl _) (.cells #[.string S] 9)).cell (p := ⟨g, k, none⟩) hgl).trans hx
          have f0 : X.frozen? ⟨w.heap.size + 1, 0, none⟩ = false := Lib.frozen_of_heap HW.out.B 0
          have hql : q.length ≤ 8001 := by rw [HQ.out]; exact Nat.le_trans (List.length_filter_le _ _) (Nat.le_trans (List.length_take_le _ _) (by omega))
          go_upto_region 9 with fail
          go_region_law (first | (refine step_append_own rfl (.tmp 30) (.tmp 35) 64 rfl X0.heap.size 9 i0 _ 1 16 Tryz.underlying64 hi hz0 hz1 hz2 rfl (by decide) _ _ _ (by first | (simp [Act.eval]; done) | simp [Act.eval, Act.put]) HA.out.U ⟨X.heap.size, 0, none⟩ 1 1 [.string S] (by first | (simp [Act.eval]; done) | simp [Act.eval, Act.put]) rfl (str1_new X S 9) (by simp [Value.oneCell']) (by unfold maxLen; omega) (by omega) HA.out.hs ?_; intro v5 w5 ho hgr _; obtain ⟨va5, vc5, rfl⟩ := ownB_form ho; have HF := hid (HA.out.app (q' := q ++ [S]) hgr (by rw [strs_snoc]; simpa using ho)); have g5 : w5.frozen? ⟨w.heap.size + 1, 0, none⟩ = false := Lib.frozen_of_heap ((hgr.block _ (lt_heap HA.out.B) (fun e => by have := (HA.out.U.lt _ e.symm).1; have := HA.out.h0; omega)).trans HA.out.B) 0; have r6 : w5.cell? ⟨w.heap.size + 1, 0, none⟩ = some (.slice ua q.length uc) := (by rw [Lib.cell_of_heap ((hgr.block _ (lt_heap HA.out.B) (fun e => by have := (HA.out.U.lt _ e.symm).1; have := HA.out.h0; omega)).trans HA.out.B)]; rfl); clear ho hgr))
          all_goals go_wp2_with fail
          all_goals go_roundw
          all_goals first | exact ⟨k + 1, va5, vc5, q ++ [S], by go_num, by omega, by rw [hT.out, ← HQ.out], by have := HF.out; simpa using this⟩ | (simp [intOf]; omega)
      · obtain rfl : k = o.length := by omega
        obtain rfl : q = wsOf s := HQ.out.trans (by rw [List.take_length]; exact hfil)
        have hwl := ws_len s
        have h0 := HW.out.h0
        have hI : RdS X (w.heap.size + 1) (.slice ua (wsOf s).length uc) (wsOf s) 0 false := by
          refine ⟨HW.out.B, ⟨_, _, rfl, fun i hi => ?_⟩, Nat.zero_le _, fun x hx => Nat.le_trans (ws_size s x hx) h8, by omega⟩
          obtain ⟨g, rfl⟩ : ∃ g, ua = some ⟨g, 0, none⟩ := by
            rcases HW.out.U.2 with ⟨h1, h2⟩ | ⟨g, cap, cur, h1, _⟩
            · omega
            · injection h1 with h1; exact ⟨g, h1⟩
          have hl := HW.out.U.lt g rfl
          have := HW.out.U.cells (g := g) rfl i (.string (wsOf s)[i]) (by simp [hi])
          rw [Addr.add_lit] at this
          exact ⟨g, 0, rfl, by omega, hl.2, this⟩
        have HI := hid hI
        have P1 := hid HW.out.P
        have b1 := hid HW.out.b
        have hs1 := HW.out.hs
        clear hI HW HQ e0
        cases hq : rQ (wsOf s) with
        | ok q =>
          obtain rfl : R = (q, 0, 0) := by rw [← hR.out]; exact qoS_ok (by omega) hq
          go_upto_region 11 with (go_at_call 52; refine (squery_any _ HI.out).mono ?_; rintro e w2 hE; obtain ⟨⟨xa, xc, rfl, hown⟩, ⟨k9, hr⟩, hg⟩ := EndSQ.ok hE hq; have HO := hid hown; have HR := hid hr; have HG := hid hg; clear hE hown hr hg)
          have b2 := hid ((b1.out.grown HG.out (by omega) (fun k e => by cases e; omega)).alloc (by have := HG.out.size; omega) (.cells #[.bool q.cnt, .slice xa q.cs.length xc, .string q.by', .string q.ord, .bool q.dwn, .int .i64 q.lim] 25))
          have PA := hid ((P1.out.grow HG.out (fun j e => by cases e; omega)).alloc (.cells #[.bool q.cnt, .slice xa q.cs.length xc, .string q.by', .string q.ord, .bool q.dwn, .int .i64 q.lim] 25))
          have TA := hid (NewB.made (w := w) (W := w2) [.bool q.cnt, .slice xa q.cs.length xc, .string q.by', .string q.ord, .bool q.dwn, .int .i64 q.lim] 25 (by have := HG.out.size; omega))
          have RA := hid (HR.out.below ((Below.refl _ _).alloc (Nat.le_refl _) (.cells #[.bool q.cnt, .slice xa q.cs.length xc, .string q.by', .string q.ord, .bool q.dwn, .int .i64 q.lim] 25)))
          have OA := hid (ownB_stay HO.out ((Below.refl _ _).alloc (Nat.le_refl _) (.cells #[.bool q.cnt, .slice xa q.cs.length xc, .string q.by', .string q.ord, .bool q.dwn, .int .i64 q.lim] 25)))
          clear HI P1 b1 HG HR HO
          generalize w2.alloc (.cells #[.bool q.cnt, .slice xa q.cs.length xc, .string q.by', .string q.ord, .bool q.dwn, .int .i64 q.lim] 25) = Z at *
          generalize w2.heap.size = h6 at *
          have e2 : Z.cell? ⟨w.heap.size + 1, 2, none⟩ = some (.bool false) := by rw [Lib.cell_of_heap RA.out.hb]; rfl
          have p0 := PA.out.cell 0
          have f0 := PA.out.frozen 0
          have p1 := PA.out.cell 1
          have f1 := PA.out.frozen 1
          have p2 := PA.out.cell 2
          have f2 := PA.out.frozen 2
          have p3 := PA.out.cell 3
          have f3 := PA.out.frozen 3
          have p4 := PA.out.cell 4
          have f4 := PA.out.frozen 4
          have p5 := PA.out.cell 5
          have f5 := PA.out.frozen 5
          have p6 := PA.out.cell 6
          have f6 := PA.out.frozen 6
          have p7 := PA.out.cell 7
          have f7 := PA.out.frozen 7
          have t0 := TA.out.cell 0
          have t1 := TA.out.cell 1
          have t2 := TA.out.cell 2
          have t3 := TA.out.cell 3
          have t4 := TA.out.cell 4
          have t5 := TA.out.cell 5
          go_wp2
          refine bodyPost_ret (v := qoV (q, 0, 0) (.slice xa q.cs.length xc)) (by simp [results, Tryz.results14, go_sem, p0, p1, p2, p3, p4, p5, p6, p7]) rfl ?_
          exact ⟨_, rfl, ownB_le (own_kept (own_kept (own_kept (own_kept (own_kept (own_kept (own_kept (own_kept OA.out (by omega) (grown_set _ w.heap.size 0 _)) (by omega) (grown_set _ w.heap.size 1 _)) (by omega) (grown_set _ w.heap.size 2 _)) (by omega) (grown_set _ w.heap.size 3 _)) (by omega) (grown_set _ w.heap.size 4 _)) (by omega) (grown_set _ w.heap.size 5 _)) (by omega) (grown_set _ w.heap.size 6 _)) (by omega) (grown_set _ w.heap.size 7 _)) (by omega), ((((((((b2.out.setCell (p := ⟨w.heap.size, 0, none⟩) (Nat.le_refl _) _).setCell (p := ⟨w.heap.size, 1, none⟩) (Nat.le_refl _) _).setCell (p := ⟨w.heap.size, 2, none⟩) (Nat.le_refl _) _).setCell (p := ⟨w.heap.size, 3, none⟩) (Nat.le_refl _) _).setCell (p := ⟨w.heap.size, 4, none⟩) (Nat.le_refl _) _).setCell (p := ⟨w.heap.size, 5, none⟩) (Nat.le_refl _) _).setCell (p := ⟨w.heap.size, 6, none⟩) (Nat.le_refl _) _).setCell (p := ⟨w.heap.size, 7, none⟩) (Nat.le_refl _) _)⟩
        | error k =>
          obtain rfl : R = (qZ, (k : Int), 3) := by rw [← hR.out]; exact qoS_err (by omega) hq
          go_upto_region 11 with (go_at_call 52; refine (squery_any _ HI.out).mono ?_; rintro e w2 hE; obtain ⟨⟨x0, x4, xa, xn, xc, x2, x3, x5, rfl⟩, hr, hg⟩ := EndSQ.err hE hq; have HR := hid hr; have HG := hid hg; clear hE hr hg)
          have b2 := hid ((b1.out.grown HG.out (by omega) (fun k e => by cases e; omega)).alloc (by have := HG.out.size; omega) (.cells #[.bool x0, .slice xa xn xc, .string x2, .string x3, .bool x4, .int .i64 x5] 25))
          have PA := hid ((P1.out.grow HG.out (fun j e => by cases e; omega)).alloc (.cells #[.bool x0, .slice xa xn xc, .string x2, .string x3, .bool x4, .int .i64 x5] 25))
          have TA := hid (NewB.made (w := w) (W := w2) [.bool x0, .slice xa xn xc, .string x2, .string x3, .bool x4, .int .i64 x5] 25 (by have := HG.out.size; omega))
          have RA := hid (HR.out.below ((Below.refl _ _).alloc (Nat.le_refl _) (.cells #[.bool x0, .slice xa xn xc, .string x2, .string x3, .bool x4, .int .i64 x5] 25)))
          clear HI P1 b1 HG HR
          generalize w2.alloc (.cells #[.bool x0, .slice xa xn xc, .string x2, .string x3, .bool x4, .int .i64 x5] 25) = Z at *
          generalize w2.heap.size = h6 at *
          have e2 : Z.cell? ⟨w.heap.size + 1, 2, none⟩ = some (.bool true) := by rw [Lib.cell_of_heap RA.out.hb]; rfl
          have e1 : Z.cell? ⟨w.heap.size + 1, 1, none⟩ = some (.int .i64 (k : Int)) := by rw [Lib.cell_of_heap RA.out.hb]; rfl
          have p0 := PA.out.cell 0
          have f0 := PA.out.frozen 0
          have p1 := PA.out.cell 1
          have f1 := PA.out.frozen 1
          have p2 := PA.out.cell 2
          have f2 := PA.out.frozen 2
          have p3 := PA.out.cell 3
          have f3 := PA.out.frozen 3
          have p4 := PA.out.cell 4
          have f4 := PA.out.frozen 4
          have p5 := PA.out.cell 5
          have f5 := PA.out.frozen 5
          have p6 := PA.out.cell 6
          have f6 := PA.out.frozen 6
          have p7 := PA.out.cell 7
          have f7 := PA.out.frozen 7
          go_wp2
          refine bodyPost_ret (v := qoV (qZ, (k : Int), 3) (.slice none 0 0)) (by simp [results, Tryz.results14, go_sem, qZ, p0, p1, p2, p3, p4, p5, p6, p7]) rfl ?_
          exact ⟨_, rfl, ⟨rfl, .inl ⟨rfl, rfl⟩⟩, ((((((((b2.out.setCell (p := ⟨w.heap.size, 0, none⟩) (Nat.le_refl _) _).setCell (p := ⟨w.heap.size, 1, none⟩) (Nat.le_refl _) _).setCell (p := ⟨w.heap.size, 2, none⟩) (Nat.le_refl _) _).setCell (p := ⟨w.heap.size, 3, none⟩) (Nat.le_refl _) _).setCell (p := ⟨w.heap.size, 4, none⟩) (Nat.le_refl _) _).setCell (p := ⟨w.heap.size, 5, none⟩) (Nat.le_refl _) _).setCell (p := ⟨w.heap.size, 6, none⟩) (Nat.le_refl _) _).setCell (p := ⟨w.heap.size, 7, none⟩) (Nat.le_refl _) _)⟩
  · have h8' : 8000 < s.size := by omega
    have z8 : (8000 < (s.size : Int)) := by omega
    obtain rfl : R = (qZ, 0, 2) := by rw [← hR.out]; exact qoS_long h8'
    go_enter Tryz.func14, Tryz.ntmps14
    go_wp2
    refine bodyPost_ret (v := qoV (qZ, 0, 2) (.slice none 0 0)) (by simp [results, Tryz.results14, go_sem, qZ]) rfl ?_
    exact ⟨_, rfl, ⟨rfl, .inl ⟨rfl, rfl⟩⟩, (Below.refl _ _).alloc (Nat.le_refl _) _⟩
end Go.Proofs.YtimlnbfalnkmhaaGreatDoor
