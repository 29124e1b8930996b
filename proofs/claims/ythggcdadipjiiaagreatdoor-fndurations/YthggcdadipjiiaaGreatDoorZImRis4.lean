/-
  Texts put together: ImRis, ItrC, AtX, PrIdx.
-/
import Derived.Test.YthggcdadipjiiaaGreatDoorZNm4
import Derived.Test.YthggcdadipjiiaaGreatDoorZStrs3
import Derived.Test.YthggcdadipjiiaaGreatDoorZImTold2
import Derived.Test.YthggcdadipjiiaaGreatDoorZItr6
import Derived.Test.YthggcdadipjiiaaGreatDoorZEvC6
import Derived.Test.YthggcdadipjiiaaGreatDoorZSpDo24
import Derived.Test.YthggcdadipjiiaaGreatDoorZIsErr4
import Derived.Lib.QuietBelow
import Derived.Laws.StructEq
/-
  What impl.risingSeqs answers: a contract over the seat's program.
-/
namespace Go.Proofs.YthggcdadipjiiaaGreatDoor
open Go.RowKit Go.Sort

set_option maxRecDepth 100000 in
set_option maxHeartbeats 2000000 in
theorem risingSeqs_any (a : Option Addr) (c : Nat) (es : List Ev) (w : World) (hE : EvSl w (.slice a es.length c) es) (hn : es.length ≤ maxLen) :
    Calls Tryz.prog 54 #[.slice a es.length c] w fun e w' => RetB e (RiseP es) ∧ Below w.heap.size w w' := by
  unfold maxLen at hn
  have HE := hid hE
  clear hE
  go_enter Tryz.func54, Tryz.ntmps54
  go_wp2
  go_loopw [3] (fun i wr => ∃ k : Nat, (k ≤ es.length ∨ k = 1) ∧ 1 ≤ k ∧ i = .int .i64 k ∧ (∀ j, (h : j + 1 < es.length) → j + 1 < k → es[j].seq < es[j + 1].seq) ∧ Below w.heap.size w wr) (fun i _ => es.length - (intOf i).toNat)
  case atStart => exact ⟨1, .inr rfl, Nat.le_refl _, rfl, fun j _ hj => absurd hj (by omega), Below.refl _ _⟩
  case round =>
    obtain ⟨k, hk, hk1, rfl, hall, hbel⟩ := hrel
    have HA := hid hall
    have HB := hid hbel
    clear hall hbel
    by_cases hlt : k < es.length
    · obtain ⟨g, o, rfl, hQ⟩ := HE.out.row (by omega)
      obtain ⟨m, rfl⟩ : ∃ m, k = m + 1 := ⟨k - 1, by omega⟩
      have hQr := hQ.stay HB.out (Nat.le_refl _)
      have c0 := (hQr.2 (m + 1) hlt).c0
      have c1 := (hQr.2 m (by omega)).c0
      have hz := HB.out.size
      have d0 : wr.drew.cell? ⟨g, o + (m + 1) * 6, none⟩ = some (.int .i64 es[m + 1].seq) := c0
      have d1 : wr.drew.cell? ⟨g, o + m * 6, none⟩ = some (.int .i64 es[m].seq) := c1
      have e1 : (((m + 1 : Nat) : Int) - 1) = (m : Int) := by omega
      have HS := hid (show ∀ h : es[m].seq < es[m + 1].seq, ∀ j, (hj : j + 1 < es.length) → j + 1 < m + 1 + 1 → es[j].seq < es[j + 1].seq from fun h j hj hjk => by
        by_cases e : j = m
        · subst e; exact h
        · exact HA.out j hj (by omega))
      have HN := hid (show ∀ h : es[m + 1].seq ≤ es[m].seq, ¬ RiseP es from fun h hr => by have := hr m hlt; omega)
      clear hQ hQr HE c0 c1
      generalize es[m + 1].seq = s1 at *
      generalize es[m].seq = s0 at *
      by_cases hle : s1 ≤ s0
      · go_wp2_with fail
        go_region
        go_wp2
        go_ret
        exact ⟨retB_f (HN.out hle), HB.out.drew⟩
      · go_wp2_with fail
        go_region
        go_wp2
        go_roundw
        case rel => exact ⟨m + 1 + 1, .inl (by omega), by omega, by go_num, HS.out (by omega), HB.out.drew⟩
        case measure => simp [intOf]; omega
    · go_wp2
      go_ret
      exact ⟨retB_t (fun j hj => HA.out j hj (by omega)), HB.out⟩
end Go.Proofs.YthggcdadipjiiaaGreatDoor

/-
  slices.Collect over events: what an iterator hands out, in a new row: a contract over the seat's program.
-/
namespace Go.Proofs.YthggcdadipjiiaaGreatDoor
open Go.RowKit Go.Shelf
attribute [local go_sem] Oper.semAt_some

abbrev tyE : List TypeId := [27, 33]
set_option maxRecDepth 100000 in
set_option maxHeartbeats 4000000 in
theorem appendSeq_any (g n₀ : Nat) (lb : Array Value) (xs : List Ev) (w : World) (eg : ∀ args w, (callFunc g args).run Tryz.prog w = .ok (.enter g args) w) (hS : Sq tyE Tryz.prog g lb evA n₀ xs w) (hn₀ : n₀ ≤ w.heap.size) (hn : xs.length ≤ 1048576) :
    Calls Tryz.prog 86 #[.slice none 0 0, .func (.func g) #[] lb] w fun e w' => ∃ v, e = .returned v ∧ w'.ownsRow w.heap.size 33 6 v xs.length (xs.flatMap Ev.cells) ∧ Below w.heap.size w w' := by
  have HS := hid hS
  clear hS
  obtain ⟨i0, hi, hz0, hz1, hz2⟩ := info_parts Tryz.infoEv
  refine (callsIn_wide (n := 9)).1 ?_
  refine callsIn_of_wp_marks Tryz.func86 rfl trivial ?_ rfl
  simp only [Tryz.ntmps86, List.size_toArray, List.length_cons, List.length_nil, Nat.reduceAdd, Nat.reduceSub, Array.replicate_succ, Array.replicate_zero, List.push_toArray, List.append_toArray, List.nil_append, List.cons_append]
  gi_wp2
  have HB1 := hid ((Below.refl w.heap.size w).alloc (Nat.le_refl _) (.cells #[.slice none 0 0] 27))
  have hc := heap_alloc_new w (.cells #[.slice none 0 0] 27)
  have hz : (w.alloc (.cells #[.slice none 0 0] 27)).heap.size = w.heap.size + 1 := by simp
  generalize w.alloc (.cells #[.slice none 0 0] 27) = W1 at *
  refine wpIn_sq (gf := g) (lb := lb) rfl eg HS.out HB1.out (by omega) (fun _ => rfl)
    (fun k V => ∃ v, V.heap[w.heap.size]? = some (.cells #[v] 27 (0, 0)) ∧ V.ownsRow w.heap.size 33 6 v k ((xs.take k).flatMap Ev.cells) ∧ Below w.heap.size w V)
    ?own ⟨_, hc, World.ownsRow_nil _ _ _ _, HB1.out⟩
    (fun x a' V => ∃ Bx, V.heap[Bx]? = some (.cells #[.int .i64 x.seq, .int .i64 x.time, .int .i64 x.run, .int .i64 x.kind, .string x.step, .string x.val] 33 (0, 0)) ∧ a' = { tmps := #[.slice none 0 0, .func (.func g) #[] lb, .pointer (some ⟨w.heap.size, 0, none⟩), undef, .slice none 0 0, .pointer (some ⟨Bx, 0, none⟩), .func (.func g) #[] lb, evO x, undef, undef, undef, undef, undef], defers := [] })
    ?ownx ?assign ?body ?done
  case own =>
    rintro s A B row ⟨v, h1, h2, h3⟩ hg hr
    refine ⟨v, own_blk _ _ _ _ _ 0 A B row h1 hg hr, h2.kept hg ?_, own_below (Nat.le_refl _) (by omega) 0 A B row h3 hg hr⟩
    rcases h2.2 with ⟨rfl, _⟩ | ⟨b, cap, cur, rfl, _, hgb, _⟩
    · exact .inl rfl
    · refine .inr fun e => ?_
      obtain ⟨o, ho, hc⟩ := (hr b e.symm).2
      rw [hgb] at ho
      cases ho
      cases hc
  case ownx =>
    rintro x a' s A B row ⟨Bx, h2, h3⟩ hg hr
    exact ⟨Bx, own_blk _ _ _ _ _ 0 A B row h2 hg hr, h3⟩
  case assign =>
    rintro l' k x V K ⟨v, h1, h2, h3⟩ hx hK
    have HK := hid hK
    clear hK
    gi_wp2
    exact HK.out _ _ (KeepsT.alloc _ _ _) ((Below.refl _ V).alloc (by have := h3.size; omega) _) ⟨v, (Below.heap_alloc V _ _ (lt_heap h1)).trans h1, h2.alloc _, h3.alloc h3.size _⟩ ⟨V.heap.size, heap_alloc_new _ _, rfl⟩
  case body =>
    rintro l' k x a' V hl ⟨v, h1, hr, hb⟩ ⟨Bx, h2, rfl⟩ hx
    obtain ⟨hlt, hxe⟩ := List.getElem?_eq_some_iff.1 hx
    have HF := hid (flat_take hlt)
    rw [hxe] at HF
    obtain ⟨va, vc, rfl⟩ := ownB_form hr
    have HR := hid (hr.alloc (.cells #[.int .i64 x.seq, .int .i64 x.time, .int .i64 x.run, .int .i64 x.kind, .string x.step, .string x.val] 33))
    have HR0 := hid hr
    have H1 := hid h1
    have HBv := hid hb
    have hzv := hb.size
    have d0 : V.cell? ⟨w.heap.size, 0, none⟩ = some (.slice va k vc) := by rw [Lib.cell_of_heap h1]; rfl
    have e0 : V.cell? ⟨Bx, 0, none⟩ = some (.int .i64 x.seq) := by rw [Lib.cell_of_heap h2]; rfl
    have e1 : V.cell? ⟨Bx, 1, none⟩ = some (.int .i64 x.time) := by rw [Lib.cell_of_heap h2]; rfl
    have e2 : V.cell? ⟨Bx, 2, none⟩ = some (.int .i64 x.run) := by rw [Lib.cell_of_heap h2]; rfl
    have e3 : V.cell? ⟨Bx, 3, none⟩ = some (.int .i64 x.kind) := by rw [Lib.cell_of_heap h2]; rfl
    have e4 : V.cell? ⟨Bx, 4, none⟩ = some (.string x.step) := by rw [Lib.cell_of_heap h2]; rfl
    have e5 : V.cell? ⟨Bx, 5, none⟩ = some (.string x.val) := by rw [Lib.cell_of_heap h2]; rfl
    clear hr h1 hb h2 hx hxe
    gi_wp2_with (gi_at_builtin; refine wpListIn_append_own _ rfl _ _ 27 rfl w.heap.size 33 i0 _ 6 64 Tryz.underlying27 hi hz0 hz1 hz2 rfl (by decide) _ _ _ rfl HR.out ⟨V.heap.size, 0, none⟩ 1 1 x.cells rfl rfl ?c1 (ev_one_cells x) ?c2 ?c3 ?c4 ?_)
    case c1 => exact ev_new_cells V x _
    case c2 => unfold maxLen; omega
    case c3 => omega
    case c4 => simp; omega
    intro v' w1 ho hg _
    have hA := (Below.heap_alloc V (.cells #[.int .i64 x.seq, .int .i64 x.time, .int .i64 x.run, .int .i64 x.kind, .string x.step, .string x.val] 33) _ (lt_heap H1.out)).trans H1.out
    have hne := own_ne HR.out hA (by decide)
    have hbox : w1.heap[w.heap.size]? = some (.cells #[.slice va k vc] 27 (0, 0)) := (hg.block _ (lt_heap hA) (fun e => hne _ e.symm rfl)).trans hA
    obtain ⟨ua, uc, rfl⟩ := ownB_form ho
    have hne1 := own_ne ho hbox (by decide)
    have HBX := hid hbox
    have HKT : Hid (KeepsT tyE V w1) := hid ((KeepsT.alloc _ V _).trans (KeepsT.grown hg (fun j e => by
      obtain ⟨c, t, f, h1, h2⟩ := own_type HR.out j e
      exact ⟨c, t, f, h1, by subst h2; decide⟩)))
    have HBL : Hid (Below w.heap.size V w1) := hid (((Below.refl w.heap.size V).alloc hzv _).grown hg (by simp; omega) (fun j e => (HR.out.lt j e).1))
    have HO := hid ho
    have HNE := hid hne1
    have d1 : w1.cell? ⟨w.heap.size, 0, none⟩ = some (.slice va k vc) := by rw [Lib.cell_of_heap hbox]; rfl
    have d2 := Lib.frozen_of_heap hbox
    clear hA hne hbox ho hg hne1 d0 e0 e1 e2 e3 e4 e5
    gi_wp2_with fail
    refine ⟨HKT.out.trans (KeepsT.grown (grown_set w1 w.heap.size 0 _) (fun j e => by cases e; exact ⟨_, _, _, HBX.out, by decide⟩)), (HBL.out.setCell (p := ⟨w.heap.size, 0, none⟩) (Nat.le_refl _) _).mono hn₀, _, blk_set (L := [_]) HBX.out _, ?_, HBv.out.trans (HBL.out.setCell (p := ⟨w.heap.size, 0, none⟩) (Nat.le_refl _) _)⟩
    rw [HF.out]
    exact HO.out.kept (grown_set w1 w.heap.size 0 _) (.inr (fun e => HNE.out _ e rfl))
  case done =>
    rintro D V hD ⟨v, h1, hr, hb⟩ hK
    obtain ⟨va, vc, rfl⟩ := ownB_form hr
    have d0 : V.cell? ⟨w.heap.size, 0, none⟩ = some (.slice va xs.length vc) := by rw [Lib.cell_of_heap h1]; rfl
    gi_wp2
    refine ⟨by simp, .inl ⟨_, _, rfl, run_takeDeferred hK, ?_⟩⟩
    rw [List.take_length] at hr
    exact ⟨_, results_tmp rfl _ _ _, _, rfl, ownsRow_putObj hr _ hK rfl, hb.trans (belowK_b (w := w) (Nat.le_refl _) V D _ _ (by omega) hK rfl rfl)⟩

set_option maxRecDepth 100000 in
theorem collect_any (g n₀ : Nat) (lb : Array Value) (xs : List Ev) (w : World) (eg : ∀ args w, (callFunc g args).run Tryz.prog w = .ok (.enter g args) w) (hS : Sq tyE Tryz.prog g lb evA n₀ xs w) (hn₀ : n₀ ≤ w.heap.size) (hn : xs.length ≤ 1048576) :
    Calls Tryz.prog 56 #[.func (.func g) #[] lb] w fun e w' => ∃ v, e = .returned v ∧ w'.ownsRow w.heap.size 33 6 v xs.length (xs.flatMap Ev.cells) ∧ Below w.heap.size w w' := by
  have c := appendSeq_any g n₀ lb xs w eg hS hn₀ hn
  go_enter Tryz.func56, Tryz.ntmps56
  go_wp2_with fail
  refine c.mono ?_
  rintro e w' ⟨v, rfl, ho, hb⟩
  go_wp2
  go_ret
  exact ⟨_, rfl, ho, hb⟩
end Go.Proofs.YthggcdadipjiiaaGreatDoor

/-
  The place of a text in a row of texts, as impl.contains and its like find it (slices.Index): a contract over the seat's program.
-/
namespace Go.Proofs.YthggcdadipjiiaaGreatDoor
open Go.RowKit

theorem idxS_row (g o c : Nat) (ss : List ByteArray) (t : ByteArray) (w : World) (hE : StrsAt w g o ss) (hn : ss.length ≤ maxLen) :
    Calls Tryz.prog 131 #[.slice (some ⟨g, o, none⟩) ss.length c, .string t] w fun e w' => e = .returned (.int .i64 (atI ss t)) ∧ w' = w := by
  unfold maxLen at hn
  have HE := hid hE
  clear hE
  go_enter Tryz.func131, Tryz.ntmps131
  go_wp2
  go_loop [8] (fun i => ∃ k : Nat, k ≤ ss.length ∧ i = .int .i64 k ∧ ∀ j, j < k → (h : j < ss.length) → ss[j] ≠ t) (fun i => ss.length - (intOf i).toNat)
  case atStart => exact ⟨0, Nat.zero_le _, rfl, fun j hj => absurd hj (by omega)⟩
  case round =>
    obtain ⟨k, hk, rfl, hall⟩ := hrel
    have HA := hid hall
    clear hall
    by_cases hlt : k < ss.length
    · have c0 := HE.out.2 k hlt
      by_cases he : ss[k] = t
      · have HF := hid (atI_first hlt HA.out he)
        rw [he] at c0
        clear he
        go_wp2
        go_ret
        exact ⟨ret_int HF.out.symm, rfl⟩
      · have HO := hid (ne_step (hk := hlt) HA.out he)
        have hne := str_ne (fun e => he e.symm)
        clear he
        go_wp2
        go_round
        case rel => exact ⟨k + 1, by omega, by go_num, HO.out⟩
        case measure => simp [intOf]; omega
    · have HF := hid (atI_out (ne_all HA.out (by omega)))
      go_wp2
      go_ret
      exact ⟨ret_int HF.out.symm, rfl⟩
theorem idxS_none (a : Option Addr) (c : Nat) (t : ByteArray) (w : World) :
    Calls Tryz.prog 131 #[.slice a 0 c, .string t] w fun e w' => e = .returned (.int .i64 (-1)) ∧ w' = w := by
  go_enter Tryz.func131, Tryz.ntmps131
  go_wp2
  go_loop [8] (fun i => i = .int .i64 0) (fun _ => 0)
  case atStart => exact rfl
  case round =>
    subst hrel
    go_wp2
    go_ret
    exact ⟨rfl, rfl⟩
theorem idxS_any (v : Value) (ss : List ByteArray) (t : ByteArray) (w : World) (h : StrSl w v ss) (hn : ss.length ≤ maxLen) :
    Calls Tryz.prog 131 #[v, .string t] w fun e w' => e = .returned (.int .i64 (atI ss t)) ∧ w' = w := by
  rcases h with ⟨a, c, rfl, rfl⟩ | ⟨g, o, c, rfl, _, h⟩
  · exact idxS_none a c t w
  · exact idxS_row g o c ss t w h hn
theorem hasS_any (v : Value) (ss : List ByteArray) (t : ByteArray) (w : World) (h : StrSl w v ss) (hn : ss.length ≤ maxLen) :
    Calls Tryz.prog 103 #[v, .string t] w fun e w' => e = .returned (.bool (inB ss t)) ∧ w' = w := by
  obtain ⟨a, c, rfl⟩ := h.form
  have c1 := idxS_any (.slice a ss.length c) ss t w h hn
  have HI := hid (show inB ss t = decide (0 ≤ atI ss t) from rfl)
  generalize inB ss t = B at *
  generalize atI ss t = I at *
  clear h hn
  go_enter Tryz.func103, Tryz.ntmps103
  go_wp2_with fail
  refine c1.mono ?_
  rintro e w1 ⟨rfl, rfl⟩
  go_wp2
  go_ret
  exact ⟨ret_bool (by rw [HI.out]), rfl⟩
end Go.Proofs.YthggcdadipjiiaaGreatDoor

/-
  What slices.Index and slices.Contains answer at a row of flows: contracts over the seat's program.
-/
namespace Go.Proofs.YthggcdadipjiiaaGreatDoor
open Go.RowKit Go.Sort

set_option maxRecDepth 100000 in
set_option maxHeartbeats 1000000 in
theorem idxP_row (g o c : Nat) (ps : List Pr) (x y : ByteArray) (w : World) (hE : PrsAt w g o ps) (hn : ps.length ≤ maxLen) :
    Calls Tryz.prog 149 #[.slice (some ⟨g, o, none⟩) ps.length c, .agg #[.string x, .string y]] w fun e w' => ∃ I : Int, e = .returned (.int .i64 I) ∧ (0 ≤ I ↔ (⟨x, y⟩ : Pr) ∈ ps) ∧ Below w.heap.size w w' := by
  unfold maxLen at hn
  have mixed : Tryz.prog.follows .mixedOrders = true := by kernel_rfl
  have HE := hid hE
  clear hE
  go_enter Tryz.func149, Tryz.ntmps149
  go_wp2
  go_loopw [8] (fun i wr => ∃ k : Nat, k ≤ ps.length ∧ i = .int .i64 k ∧ (∀ j, j < k → (h : j < ps.length) → ps[j] ≠ ⟨x, y⟩) ∧ Below (w.heap.size + 1) (w.alloc (.cells #[.string x, .string y] 116)) wr) (fun i _ => ps.length - (intOf i).toNat)
  case atStart => exact ⟨0, Nat.zero_le _, rfl, fun j hj => absurd hj (by omega), Below.refl _ _⟩
  case round =>
    obtain ⟨k, hk, rfl, hall, hbel⟩ := hrel
    have HA := hid hall
    clear hall
    have hbw : Below w.heap.size w wr := ((Below.refl w.heap.size w).alloc (Nat.le_refl _) _).trans (hbel.mono (by omega))
    by_cases hlt : k < ps.length
    · obtain ⟨c0, c1⟩ := (HE.out.stay hbw (Nat.le_refl _)).2 k hlt
      have b0 : wr.cell? ⟨w.heap.size, 0, none⟩ = some (.string x) := by rw [hbel.cell (p := ⟨w.heap.size, 0, none⟩) (Nat.lt_succ_self _)]; simp [go_sem]
      have b1 : wr.cell? ⟨w.heap.size, 1, none⟩ = some (.string y) := by rw [hbel.cell (p := ⟨w.heap.size, 1, none⟩) (Nat.lt_succ_self _)]; simp [go_sem]
      by_cases he : ps[k].fst = x
      · by_cases he2 : ps[k].snd = y
        · have HM := hid (show (⟨x, y⟩ : Pr) ∈ ps from (show ps[k] = ⟨x, y⟩ from pr_ext he he2) ▸ List.getElem_mem hlt)
          rw [he] at c0
          rw [he2] at c1
          clear he he2
          have k0 := cell_regrown c0
          have k1 := cell_regrown c1
          have l0 := cell_regrown b0
          have l1 := cell_regrown b1
          clear c0 c1 b0 b1
          go_wp2
          refine wp_region_quiet_below mixed (by kernel_rfl) ?_
          repeat (quiet_step (fail))
          refine wpQuiet_nil ?_
          intro _ hw'
          obtain ⟨⟨dq, osq⟩, hw''⟩ := hw'
          subst hw''
          have hbX := hbel.trans ((below_regrown wr dq osq).mono (by have := hbel.size; simpa using this))
          have hbY := hbw.trans ((below_regrown wr dq osq).mono hbw.size)
          clear k0 k1 l0 l1
          go_wp2
          go_ret
          exact ⟨k, rfl, ⟨fun _ => HM.out, fun _ => by omega⟩, hbY⟩
        · have HO := hid (ne_step (hk := hlt) HA.out (fun e => he2 (congrArg Pr.snd e)))
          have hne := str_ne (fun e => he2 e.symm)
          rw [he] at c0
          generalize ps[k].snd = q2 at *
          clear he he2
          have k0 := cell_regrown c0
          have k1 := cell_regrown c1
          have l0 := cell_regrown b0
          have l1 := cell_regrown b1
          clear c0 c1 b0 b1
          go_wp2
          refine wp_region_quiet_below mixed (by kernel_rfl) ?_
          repeat (quiet_step (fail))
          refine wpQuiet_nil ?_
          intro _ hw'
          obtain ⟨⟨dq, osq⟩, hw''⟩ := hw'
          subst hw''
          have hbX := hbel.trans ((below_regrown wr dq osq).mono (by have := hbel.size; simpa using this))
          have hbY := hbw.trans ((below_regrown wr dq osq).mono hbw.size)
          clear k0 k1 l0 l1
          go_wp2
          go_roundw
          case rel => exact ⟨k + 1, by omega, by go_num, HO.out, hbX⟩
          case measure => simp [intOf]; omega
      · have HO := hid (ne_step (hk := hlt) HA.out (fun e => he (congrArg Pr.fst e)))
        have hne := str_ne (fun e => he e.symm)
        generalize ps[k].fst = q1 at *
        generalize ps[k].snd = q2 at *
        clear he
        have k0 := cell_regrown c0
        have k1 := cell_regrown c1
        have l0 := cell_regrown b0
        have l1 := cell_regrown b1
        clear c0 c1 b0 b1
        go_wp2
        refine wp_region_quiet_below mixed (by kernel_rfl) ?_
        repeat (quiet_step (fail))
        refine wpQuiet_nil ?_
        intro _ hw'
        obtain ⟨⟨dq, osq⟩, hw''⟩ := hw'
        subst hw''
        have hbX := hbel.trans ((below_regrown wr dq osq).mono (by have := hbel.size; simpa using this))
        have hbY := hbw.trans ((below_regrown wr dq osq).mono hbw.size)
        clear k0 k1 l0 l1
        go_wp2
        go_roundw
        case rel => exact ⟨k + 1, by omega, by go_num, HO.out, hbX⟩
        case measure => simp [intOf]; omega
    · have HF := hid (ne_all HA.out (by omega))
      go_wp2
      go_ret
      exact ⟨-1, rfl, ⟨fun e => absurd e (by decide), fun e => absurd e HF.out⟩, hbw⟩
theorem idxP_none (a : Option Addr) (c : Nat) (x y : ByteArray) (w : World) :
    Calls Tryz.prog 149 #[.slice a 0 c, .agg #[.string x, .string y]] w fun e w' => ∃ I : Int, e = .returned (.int .i64 I) ∧ (0 ≤ I ↔ (⟨x, y⟩ : Pr) ∈ ([] : List Pr)) ∧ Below w.heap.size w w' := by
  go_enter Tryz.func149, Tryz.ntmps149
  go_wp2
  go_loop [8] (fun i => i = .int .i64 0) (fun _ => 0)
  case atStart => exact rfl
  case round =>
    subst hrel
    go_wp2
    go_ret
    exact ⟨(-1 : Int), rfl, by first | decide | simp, (Below.refl _ _).alloc (Nat.le_refl _) _⟩
theorem idxP_any (v : Value) (ps : List Pr) (x y : ByteArray) (w : World) (h : PrSl w v ps) (hn : ps.length ≤ maxLen) :
    Calls Tryz.prog 149 #[v, .agg #[.string x, .string y]] w fun e w' => ∃ I : Int, e = .returned (.int .i64 I) ∧ (0 ≤ I ↔ (⟨x, y⟩ : Pr) ∈ ps) ∧ Below w.heap.size w w' := by
  rcases h with ⟨a, c, rfl, rfl⟩ | ⟨g, o, c, rfl, _, h⟩
  · exact idxP_none a c x y w
  · exact idxP_row g o c ps x y w h hn
set_option maxRecDepth 100000 in
theorem hasP_any (v : Value) (ps : List Pr) (x y : ByteArray) (w : World) (h : PrSl w v ps) (hn : ps.length ≤ maxLen) :
    Calls Tryz.prog 130 #[v, .agg #[.string x, .string y]] w fun e w' => RetB e ((⟨x, y⟩ : Pr) ∈ ps) ∧ Below w.heap.size w w' := by
  obtain ⟨a, c, rfl⟩ := h.form
  have HE := hid h
  have HN := hid hn
  clear h hn
  go_enter Tryz.func130, Tryz.ntmps130
  go_wp2_with fail
  refine (idxP_any _ ps x y _ (HE.out.stay ((Below.refl w.heap.size w).alloc (Nat.le_refl _) _) (Nat.le_refl _)) HN.out).mono ?_
  rintro e w1 ⟨I, rfl, hI, hb1⟩
  have HI := hid hI
  have hbA : Below w.heap.size w w1 := ((Below.refl w.heap.size w).alloc (Nat.le_refl _) _).trans (hb1.mono (B' := w.heap.size) (by simp))
  clear hI hb1
  go_wp2
  go_ret
  exact ⟨⟨decide (0 ≤ I), rfl, ⟨fun e => HI.out.1 (of_decide_eq_true e), fun e => decide_eq_true (HI.out.2 e)⟩⟩, hbA⟩
end Go.Proofs.YthggcdadipjiiaaGreatDoor
