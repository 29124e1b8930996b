/-
  Texts put together: EvTo, ItrC.
-/
import Derived.Test.YtadidjhcgmeadaaGreatDoorZImRuns4
import Derived.Lib.Builder
import Derived.Test.YtadidjhcgmeadaaGreatDoorZItr3
import Derived.Test.YtadidjhcgmeadaaGreatDoorZSpDo24
/-
  What laws.toEventS answers: the same events in a new row: a contract over the seat's program.
-/
namespace Go.Proofs.YtadidjhcgmeadaaGreatDoor
open Go.RowKit

theorem Tryz.infoEv : (Tryz.prog.info? 76).map (fun i => (i.zero, i.size, i.bytes)) = some (some (.agg #[.int .i64 0, .int .i64 0, .int .i64 0, .int .i64 0, .string ⟨#[]⟩, .string ⟨#[]⟩]), 6, 64) := by kernel_rfl

theorem own_row6 {w : World} {base g n : Nat} {e : TypeId} {xs : List Value} (h : w.ownsRow base e 6 (.slice (some ⟨g, 0, none⟩) n n) n xs) : ∃ L : List Value, L.length = n * 6 ∧ w.heap[g]? = some (.cells L.toArray e (0, 0)) := by
  rcases h.2 with ⟨h1, _⟩ | ⟨g', cap, cur, h1, _, hh, _, _, hc, _⟩
  · cases h1
  · injection h1 with h1 _ h3
    injection h1 with h1
    injection h1 with h1 _ _
    subst h1; subst h3
    exact ⟨cur.toList, by simpa using hc, by simpa using hh⟩
theorem lt_of_heap {w : World} {g : Nat} {o : Obj} (h : w.heap[g]? = some o) : g < w.heap.size := by
  rcases Nat.lt_or_ge g w.heap.size with h' | h'
  · exact h'
  · simp [Array.getElem?_eq_none h'] at h
theorem cell_there {w : World} {g j : Nat} {L : List Value} {t : TypeId} (h : w.heap[g]? = some (.cells L.toArray t (0, 0))) (hj : j < L.length) : ∃ u, w.cell? ⟨g, j, none⟩ = some u := by
  refine ⟨L[j], ?_⟩
  rw [Lib.cell_of_heap h]
  simp [hj]
theorem flat_take {es : List Ev} {k : Nat} (h : k < es.length) : (es.take (k + 1)).flatMap Ev.cells = (es.take k).flatMap Ev.cells ++ es[k].cells := by
  rw [List.take_succ_eq_append_getElem h, List.flatMap_append]; simp
theorem block_set {w : World} {g i : Nat} {L : List Value} {t : TypeId} (h : w.heap[g]? = some (.cells L.toArray t (0, 0))) (v : Value) : (w.setCell ⟨g, i, none⟩ v).heap[g]? = some (.cells (L.set i v).toArray t (0, 0)) := by
  rw [setCell_eq_setRow w g i L.toArray t (0, 0) v h]
  have := setRow_heap w g L.toArray (L.toArray.setIfInBounds i v) t (0, 0) h
  simpa using this
theorem block_set6 {w : World} {g : Nat} {L : List Value} {t : TypeId} (h : w.heap[g]? = some (.cells L.toArray t (0, 0))) (i : Nat) (a b c d e f : Value) :
    ((((((w.setCell ⟨g, i, none⟩ a).setCell ⟨g, i + 1, none⟩ b).setCell ⟨g, i + 2, none⟩ c).setCell ⟨g, i + 3, none⟩ d).setCell ⟨g, i + 4, none⟩ e).setCell ⟨g, i + 5, none⟩ f).heap[g]? = some (.cells ((((((L.set i a).set (i + 1) b).set (i + 2) c).set (i + 3) d).set (i + 4) e).set (i + 5) f).toArray t (0, 0)) :=
  block_set (block_set (block_set (block_set (block_set (block_set h a) b) c) d) e) f
theorem set6_below {B : Nat} {w0 w : World} {g : Nat} (h : Below B w0 w) (hg : B ≤ g) (i : Nat) (a b c d e f : Value) :
    Below B w0 ((((((w.setCell ⟨g, i, none⟩ a).setCell ⟨g, i + 1, none⟩ b).setCell ⟨g, i + 2, none⟩ c).setCell ⟨g, i + 3, none⟩ d).setCell ⟨g, i + 4, none⟩ e).setCell ⟨g, i + 5, none⟩ f) :=
  (((((h.setCell (p := ⟨g, i, none⟩) hg a).setCell (p := ⟨g, i + 1, none⟩) hg b).setCell (p := ⟨g, i + 2, none⟩) hg c).setCell (p := ⟨g, i + 3, none⟩) hg d).setCell (p := ⟨g, i + 4, none⟩) hg e).setCell (p := ⟨g, i + 5, none⟩) hg f
theorem set6_len {L : List Value} {i : Nat} {a b c d e f : Value} : ((((((L.set i a).set (i + 1) b).set (i + 2) c).set (i + 3) d).set (i + 4) e).set (i + 5) f).length = L.length := by simp
theorem set6_take {L : List Value} {i : Nat} {a b c d e f : Value} (h : i + 6 ≤ L.length) : (((((((L.set i a).set (i + 1) b).set (i + 2) c).set (i + 3) d).set (i + 4) e).set (i + 5) f).take (i + 6)) = L.take i ++ [a, b, c, d, e, f] := by
  apply List.ext_getElem?
  intro j
  by_cases h0 : j < i
  · rw [List.getElem?_append_left (by simp; omega)]
    simp [show ¬ i = j by omega, show ¬ i + 1 = j by omega, show ¬ i + 2 = j by omega, show ¬ i + 3 = j by omega, show ¬ i + 4 = j by omega, show ¬ i + 5 = j by omega, h0, show j < i + 6 by omega]
  · obtain ⟨m, rfl⟩ : ∃ m, j = i + m := ⟨j - i, by omega⟩
    rw [List.getElem?_append_right (by simp; omega), show i + m - (L.take i).length = m by simp; omega]
    match m with
    | 0 => simp [List.getElem?_set]; omega
    | 1 => simp [List.getElem?_set]; omega
    | 2 => simp [List.getElem?_set]; omega
    | 3 => simp [List.getElem?_set]; omega
    | 4 => simp [List.getElem?_set]; omega
    | 5 => simp [List.getElem?_set]; omega
    | n + 6 => simp [List.getElem?_take]; omega
set_option maxRecDepth 100000 in
theorem toEventS_row (g o c : Nat) (es : List Ev) (w : World) (hE : EvsAt w g o es) (hn : es.length ≤ 1048576) :
    Calls Tryz.prog 12 #[.slice (some ⟨g, o, none⟩) es.length c] w fun e w' =>
      ∃ v, e = .returned v ∧ w'.ownsRow w.heap.size 76 6 v es.length (es.flatMap Ev.cells) ∧ Below w.heap.size w w' := by
  obtain ⟨i0, hi, hz0, hz1, hz2⟩ := info_parts Tryz.infoEv
  have HE := hid hE
  clear hE
  go_enter Tryz.func12, Tryz.ntmps12
  go_wp2_with (at_make; refine wpList_make_full _ rfl _ _ 34 rfl w.heap.size 76 i0 _ 6 Tryz.underlying34 hi hz0 hz1 _ _ _ _ es.length rfl rfl ?m1 ?m2 ?m3 ?m4 (Nat.le_refl _) ?_)
  case m1 => omega
  case m2 => omega
  case m3 => rw [hz2]; omega
  case m4 => unfold maxLen; omega
  intro w1 hown hgrow
  have hB1 : Below w.heap.size w w1 := (Below.refl _ _).grown hgrow (Nat.le_refl _) (fun k h => by cases h)
  obtain ⟨L0, hL0, hG0⟩ := own_row6 hown
  have H0 := hid hL0
  have HG0 := hid hG0
  clear hown hgrow hi hz0 hz1 hz2 hL0 hG0 i0
  go_wp2
  go_loopw [4] (fun i wr => ∃ (k : Nat) (L : List Value), k ≤ es.length ∧ i = .int .i64 k ∧ L.length = es.length * 6 ∧ L.take (k * 6) = (es.take k).flatMap Ev.cells ∧ wr.heap[w.heap.size]? = some (.cells L.toArray 76 (0, 0)) ∧ Below w.heap.size w wr) (fun i _ => es.length - (intOf i).toNat)
  case atStart => exact ⟨0, L0, Nat.zero_le _, rfl, H0.out, by simp, HG0.out, hB1⟩
  case round =>
    obtain ⟨k, L, hk, rfl, hL, hT, hG, hbel⟩ := hrel
    have HT := hid hT
    have HL := hid hL
    have HG := hid hG
    clear hT hL hG
    have hzr := lt_of_heap HG.out
    by_cases hlt : k < es.length
    · obtain ⟨c0, c1, c2, c3, c4, c5⟩ := (HE.out.stay hbel (Nat.le_refl _)).2 k hlt
      have HC := hid (flat_take hlt)
      have cz := fun w => toEvent_any es[k].seq es[k].time es[k].run es[k].kind es[k].step es[k].val w
      go_wp2_with fail
      refine (cz _).mono ?_
      rintro e w2 ⟨rfl, hb2⟩
      have hG2 : w2.heap[w.heap.size]? = some (.cells L.toArray 76 (0, 0)) := by rw [hb2.block _ hzr]; exact HG.out
      have hbel2 := hbel.trans (hb2.mono hbel.size)
      clear c0 c1 c2 c3 c4 c5 hb2 cz
      have hfz : ∀ j, w2.frozen? ⟨w.heap.size, j, none⟩ = false := fun j => Lib.frozen_of_heap hG2 j
      have hce : ∀ j, j < 6 → ∃ u, w2.cell? ⟨w.heap.size, k * 6 + j, none⟩ = some u := fun j hj => cell_there hG2 (by have := HL.out; omega)
      obtain ⟨u0, d0⟩ : ∃ u, w2.cell? ⟨w.heap.size, k * 6, none⟩ = some u := hce 0 (by decide)
      obtain ⟨u1, d1⟩ := hce 1 (by decide)
      obtain ⟨u2, d2⟩ := hce 2 (by decide)
      obtain ⟨u3, d3⟩ := hce 3 (by decide)
      obtain ⟨u4, d4⟩ := hce 4 (by decide)
      obtain ⟨u5, d5⟩ := hce 5 (by decide)
      have HG2 := hid hG2
      clear hG2 hce
      go_wp2
      go_roundw
      case rel =>
        refine ⟨k + 1, _, by omega, by go_num, ?_, ?_, block_set6 HG2.out _ _ _ _ _ _ _, set6_below hbel2 (Nat.le_refl _) _ _ _ _ _ _ _⟩
        · rw [set6_len]; exact HL.out
        · rw [show (k + 1) * 6 = k * 6 + 6 by omega, set6_take (by have := HL.out; omega), HT.out, HC.out]; rfl
      case measure => simp [intOf]; omega
    · have hke : k = es.length := by omega
      have HK := hid hke
      clear hke
      go_wp2
      go_ret
      refine ⟨_, rfl, ⟨flat_len es, .inr ⟨w.heap.size, es.length, L.toArray, rfl, Nat.le_refl _, HG.out, Nat.le_refl _, by unfold maxLen; omega, by simpa using HL.out, ?_⟩⟩, hbel⟩
      have := HT.out
      rw [HK.out, List.take_of_length_le (Nat.le_refl es.length)] at this
      simpa using this
theorem toEventS_none (a : Option Addr) (c : Nat) (w : World) :
    Calls Tryz.prog 12 #[.slice a 0 c] w fun e w' =>
      ∃ v, e = .returned v ∧ w'.ownsRow w.heap.size 76 6 v 0 [] ∧ Below w.heap.size w w' := by
  obtain ⟨i0, hi, hz0, hz1, hz2⟩ := info_parts Tryz.infoEv
  go_enter Tryz.func12, Tryz.ntmps12
  go_wp2_with (at_make; refine wpList_make_full _ rfl _ _ 34 rfl w.heap.size 76 i0 _ 6 Tryz.underlying34 hi hz0 hz1 _ _ _ _ 0 rfl rfl ?m1 ?m2 ?m3 ?m4 (Nat.le_refl _) ?_)
  case m1 => rfl
  case m2 => rfl
  case m3 => rw [hz2]; omega
  case m4 => unfold maxLen; omega
  intro w1 hown hgrow
  have hB1 : Below w.heap.size w w1 := (Below.refl _ _).grown hgrow (Nat.le_refl _) (fun k h => by cases h)
  have HO : Hid (w1.ownsRow w.heap.size 76 6 (.slice (some ⟨w.heap.size, 0, none⟩) 0 0) 0 []) := by
    have h0 := hown.1
    rw [Nat.zero_mul] at h0
    rw [List.eq_nil_of_length_eq_zero h0] at hown
    exact hown
  clear hown hgrow hi hz0 hz1 hz2 i0
  go_wp2
  go_loop [4] (fun i => i = .int .i64 0) (fun _ => 0)
  case atStart => exact rfl
  case round =>
    subst hrel
    go_wp2
    go_ret
    exact ⟨_, rfl, HO.out, hB1⟩
theorem toEventS_any (v : Value) (es : List Ev) (w : World) (h : EvSl w v es) (hn : es.length ≤ 1048576) :
    Calls Tryz.prog 12 #[v] w fun e w' =>
      ∃ v, e = .returned v ∧ w'.ownsRow w.heap.size 76 6 v es.length (es.flatMap Ev.cells) ∧ Below w.heap.size w w' := by
  rcases h with ⟨a, c, rfl, rfl⟩ | ⟨g, o, c, rfl, _, h⟩
  · exact toEventS_none a c w
  · exact toEventS_row g o c es w h hn
end Go.Proofs.YtadidjhcgmeadaaGreatDoor

/-
  slices.Collect over events: what an iterator hands out, in a new row: a contract over the seat's program.
-/
namespace Go.Proofs.YtadidjhcgmeadaaGreatDoor
open Go.RowKit Go.Shelf
attribute [local go_sem] Oper.semAt_some

abbrev tyE : List TypeId := [34, 76]
theorem ev_one_cells (x : Ev) : ∀ u ∈ x.cells, u.oneCell' = true := by simp [Ev.cells, Value.oneCell']

theorem ev_new_cells (V : World) (x : Ev) (T : TypeId) : ∀ j u, x.cells[j]? = some u → (V.alloc (.cells #[.int .i64 x.seq, .int .i64 x.time, .int .i64 x.run, .int .i64 x.kind, .string x.step, .string x.val] T)).cell? ((⟨V.heap.size, 0, none⟩ : Addr).add j) = some u := by
  intro j u hj
  rw [Addr.add_lit, Lib.cell_of_heap (heap_alloc_new _ _), Nat.zero_add, ← hj]
  simp [Ev.cells]
/-- A row of one's own lies in a block of its type. -/
theorem own_type {w : World} {base size n : Nat} {e : TypeId} {v : Value} {xs : List Value} (h : w.ownsRow base e size v n xs) : ∀ k, v.ownBlock = some k → ∃ c t f, w.heap[k]? = some (.cells c t f) ∧ t = e := by
  intro k hk
  rcases h.2 with ⟨rfl, _⟩ | ⟨g, cap, cur, rfl, _, hgb, _⟩
  · cases hk
  · cases hk
    exact ⟨_, _, _, hgb, rfl⟩

set_option maxRecDepth 100000 in
set_option maxHeartbeats 4000000 in
theorem appendSeq_any (g n₀ : Nat) (lb : Array Value) (xs : List Ev) (w : World) (eg : ∀ args w, (callFunc g args).run Tryz.prog w = .ok (.enter g args) w) (hS : Sq tyE Tryz.prog g lb evA n₀ xs w) (hn₀ : n₀ ≤ w.heap.size) (hn : xs.length ≤ 1048576) :
    Calls Tryz.prog 86 #[.slice none 0 0, .func (.func g) #[] lb] w fun e w' => ∃ v, e = .returned v ∧ w'.ownsRow w.heap.size 76 6 v xs.length (xs.flatMap Ev.cells) ∧ Below w.heap.size w w' := by
  have HS := hid hS
  clear hS
  obtain ⟨i0, hi, hz0, hz1, hz2⟩ := info_parts Tryz.infoEv
  refine (callsIn_wide (n := 9)).1 ?_
  refine callsIn_of_wp_marks Tryz.func86 rfl trivial ?_ rfl
  simp only [Tryz.ntmps86, List.size_toArray, List.length_cons, List.length_nil, Nat.reduceAdd, Nat.reduceSub, Array.replicate_succ, Array.replicate_zero, List.push_toArray, List.append_toArray, List.nil_append, List.cons_append]
  gi_wp2
  have HB1 := hid ((Below.refl w.heap.size w).alloc (Nat.le_refl _) (.cells #[.slice none 0 0] 34))
  have hc := heap_alloc_new w (.cells #[.slice none 0 0] 34)
  have hz : (w.alloc (.cells #[.slice none 0 0] 34)).heap.size = w.heap.size + 1 := by simp
  generalize w.alloc (.cells #[.slice none 0 0] 34) = W1 at *
  refine wpIn_sq (gf := g) (lb := lb) rfl eg HS.out HB1.out (by omega) (fun _ => rfl)
    (fun k V => ∃ v, V.heap[w.heap.size]? = some (.cells #[v] 34 (0, 0)) ∧ V.ownsRow w.heap.size 76 6 v k ((xs.take k).flatMap Ev.cells) ∧ Below w.heap.size w V)
    ?own ⟨_, hc, World.ownsRow_nil _ _ _ _, HB1.out⟩
    (fun x a' V => ∃ Bx, V.heap[Bx]? = some (.cells #[.int .i64 x.seq, .int .i64 x.time, .int .i64 x.run, .int .i64 x.kind, .string x.step, .string x.val] 76 (0, 0)) ∧ a' = { tmps := #[.slice none 0 0, .func (.func g) #[] lb, .pointer (some ⟨w.heap.size, 0, none⟩), undef, .slice none 0 0, .pointer (some ⟨Bx, 0, none⟩), .func (.func g) #[] lb, evO x, undef, undef, undef, undef, undef], defers := [] })
    ?ownx ?assign ?body ?done
  case own =>
    rintro s A B row ⟨v, h1, h2, h3⟩ hg hr
    refine ⟨v, own_blk _ _ _ _ _ 0 A B row h1 hg hr, h2.kept hg ?_, own_below (Nat.le_refl _) (by omega) 0 A B row h3 hg hr⟩
    rcases h2.2 with ⟨rfl, _⟩ | ⟨b, cap, cur, rfl, _, hgb, _⟩
    · exact .inl rfl
    · refine .inr fun e => ?_
      obtain ⟨o, ho, hc⟩ := (hr b e.symm).2
      rw [hgb] at ho
      cases ho
      cases hc
  case ownx =>
    rintro x a' s A B row ⟨Bx, h2, h3⟩ hg hr
    exact ⟨Bx, own_blk _ _ _ _ _ 0 A B row h2 hg hr, h3⟩
  case assign =>
    rintro l' k x V K ⟨v, h1, h2, h3⟩ hx hK
    have HK := hid hK
    clear hK
    gi_wp2
    exact HK.out _ _ (KeepsT.alloc _ _ _) ((Below.refl _ V).alloc (by have := h3.size; omega) _) ⟨v, (Below.heap_alloc V _ _ (lt_heap h1)).trans h1, h2.alloc _, h3.alloc h3.size _⟩ ⟨V.heap.size, heap_alloc_new _ _, rfl⟩
  case body =>
    rintro l' k x a' V hl ⟨v, h1, hr, hb⟩ ⟨Bx, h2, rfl⟩ hx
    obtain ⟨hlt, hxe⟩ := List.getElem?_eq_some_iff.1 hx
    have HF := hid (flat_take hlt)
    rw [hxe] at HF
    obtain ⟨va, vc, rfl⟩ := ownB_form hr
    have HR := hid (hr.alloc (.cells #[.int .i64 x.seq, .int .i64 x.time, .int .i64 x.run, .int .i64 x.kind, .string x.step, .string x.val] 76))
    have HR0 := hid hr
    have H1 := hid h1
    have HBv := hid hb
    have hzv := hb.size
    have d0 : V.cell? ⟨w.heap.size, 0, none⟩ = some (.slice va k vc) := by rw [Lib.cell_of_heap h1]; rfl
    have e0 : V.cell? ⟨Bx, 0, none⟩ = some (.int .i64 x.seq) := by rw [Lib.cell_of_heap h2]; rfl
    have e1 : V.cell? ⟨Bx, 1, none⟩ = some (.int .i64 x.time) := by rw [Lib.cell_of_heap h2]; rfl
    have e2 : V.cell? ⟨Bx, 2, none⟩ = some (.int .i64 x.run) := by rw [Lib.cell_of_heap h2]; rfl
    have e3 : V.cell? ⟨Bx, 3, none⟩ = some (.int .i64 x.kind) := by rw [Lib.cell_of_heap h2]; rfl
    have e4 : V.cell? ⟨Bx, 4, none⟩ = some (.string x.step) := by rw [Lib.cell_of_heap h2]; rfl
    have e5 : V.cell? ⟨Bx, 5, none⟩ = some (.string x.val) := by rw [Lib.cell_of_heap h2]; rfl
    clear hr h1 hb h2 hx hxe
    gi_wp2_with (gi_at_builtin; refine wpListIn_append_own _ rfl _ _ 34 rfl w.heap.size 76 i0 _ 6 64 Tryz.underlying34 hi hz0 hz1 hz2 rfl (by decide) _ _ _ rfl HR.out ⟨V.heap.size, 0, none⟩ 1 1 x.cells rfl rfl ?c1 (ev_one_cells x) ?c2 ?c3 ?c4 ?_)
    case c1 => exact ev_new_cells V x _
    case c2 => unfold maxLen; omega
    case c3 => omega
    case c4 => simp; omega
    intro v' w1 ho hg _
    have hA := (Below.heap_alloc V (.cells #[.int .i64 x.seq, .int .i64 x.time, .int .i64 x.run, .int .i64 x.kind, .string x.step, .string x.val] 76) _ (lt_heap H1.out)).trans H1.out
    have hne := own_ne HR.out hA (by decide)
    have hbox : w1.heap[w.heap.size]? = some (.cells #[.slice va k vc] 34 (0, 0)) := (hg.block _ (lt_heap hA) (fun e => hne _ e.symm rfl)).trans hA
    obtain ⟨ua, uc, rfl⟩ := ownB_form ho
    have hne1 := own_ne ho hbox (by decide)
    have HBX := hid hbox
    have HKT : Hid (KeepsT tyE V w1) := hid ((KeepsT.alloc _ V _).trans (KeepsT.grown hg (fun j e => by
      obtain ⟨c, t, f, h1, h2⟩ := own_type HR.out j e
      exact ⟨c, t, f, h1, by subst h2; decide⟩)))
    have HBL : Hid (Below w.heap.size V w1) := hid (((Below.refl w.heap.size V).alloc hzv _).grown hg (by simp; omega) (fun j e => (HR.out.lt j e).1))
    have HO := hid ho
    have HNE := hid hne1
    have d1 : w1.cell? ⟨w.heap.size, 0, none⟩ = some (.slice va k vc) := by rw [Lib.cell_of_heap hbox]; rfl
    have d2 := Lib.frozen_of_heap hbox
    clear hA hne hbox ho hg hne1 d0 e0 e1 e2 e3 e4 e5
    gi_wp2_with fail
    refine ⟨HKT.out.trans (KeepsT.grown (grown_set w1 w.heap.size 0 _) (fun j e => by cases e; exact ⟨_, _, _, HBX.out, by decide⟩)), (HBL.out.setCell (p := ⟨w.heap.size, 0, none⟩) (Nat.le_refl _) _).mono hn₀, _, blk_set (L := [_]) HBX.out _, ?_, HBv.out.trans (HBL.out.setCell (p := ⟨w.heap.size, 0, none⟩) (Nat.le_refl _) _)⟩
    rw [HF.out]
    exact HO.out.kept (grown_set w1 w.heap.size 0 _) (.inr (fun e => HNE.out _ e rfl))
  case done =>
    rintro D V hD ⟨v, h1, hr, hb⟩ hK
    obtain ⟨va, vc, rfl⟩ := ownB_form hr
    have d0 : V.cell? ⟨w.heap.size, 0, none⟩ = some (.slice va xs.length vc) := by rw [Lib.cell_of_heap h1]; rfl
    gi_wp2
    refine ⟨by simp, .inl ⟨_, _, rfl, run_takeDeferred hK, ?_⟩⟩
    rw [List.take_length] at hr
    exact ⟨_, results_tmp rfl _ _ _, _, rfl, ownsRow_putObj hr _ hK rfl, hb.trans (belowK_b (w := w) (Nat.le_refl _) V D _ _ (by omega) hK rfl rfl)⟩

set_option maxRecDepth 100000 in
theorem collect_any (g n₀ : Nat) (lb : Array Value) (xs : List Ev) (w : World) (eg : ∀ args w, (callFunc g args).run Tryz.prog w = .ok (.enter g args) w) (hS : Sq tyE Tryz.prog g lb evA n₀ xs w) (hn₀ : n₀ ≤ w.heap.size) (hn : xs.length ≤ 1048576) :
    Calls Tryz.prog 48 #[.func (.func g) #[] lb] w fun e w' => ∃ v, e = .returned v ∧ w'.ownsRow w.heap.size 76 6 v xs.length (xs.flatMap Ev.cells) ∧ Below w.heap.size w w' := by
  have c := appendSeq_any g n₀ lb xs w eg hS hn₀ hn
  go_enter Tryz.func48, Tryz.ntmps48
  go_wp2_with fail
  refine c.mono ?_
  rintro e w' ⟨v, rfl, ho, hb⟩
  go_wp2
  go_ret
  exact ⟨_, rfl, ho, hb⟩
end Go.Proofs.YtadidjhcgmeadaaGreatDoor
