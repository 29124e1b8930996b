/-
 Texts put together: ImDel, RgInB.
-/
import Derived.Test.YtookchpdbilbcaaGreatDoorZEvI8
import Derived.Deep.CutRange
import Derived.Test.YtookchpdbilbcaaGreatDoorZRowL4
set_option maxRecDepth 100000
set_option maxHeartbeats 8000000
/-
 slices.IndexFunc and slices.DeleteFunc over a row of events of one's own, at a predicate that only reads: contracts over the seat's program.
-/
namespace Go.Proofs.YtookchpdbilbcaaGreatDoor
open Go.RowKit
theorem ZCC {g : Nat} {t : TypeId} : ∀ (vs : List Value) (o : Nat) (w : World) (L : List Value), w.heap[g]? = some (.cells L.toArray t (0, 0)) → ∃ L' : List Value, (w.setCells g o vs).heap[g]? = some (.cells L'.toArray t (0, 0)) ∧ L'.length = L.length ∧ L'.take o = L.take o ∧ w.grownBy (w.setCells g o vs) (some g)
 | [], o, w, L, h => ⟨L, h, rfl, rfl, ⟨rfl, rfl, rfl, Nat.le_refl _, fun _ _ _ => rfl⟩⟩
 | v :: r, o, w, L, h => by
  obtain ⟨L', h1, h2, h3, h4⟩ := ZCC r (o + 1) (w.setCell ⟨g, o, none⟩ v) (L.set o v) (ZA2 h v)
  refine ⟨L', h1, by simpa using h2, ?_, ZAN (ZAF w g o v) h4⟩
  have e : L'.take o = (L'.take (o + 1)).take o := by rw [List.take_take]; congr 1; omega
  rw [e, h3, List.take_take, show min o (o + 1) = o by omega]
  rw [List.take_set_of_le (by omega)]
theorem ZHA {P : Program} (w : World) (t e ty : TypeId) (z : Value) (ht : P.underlying t = some (.slice e)) (hv : ∀ w, (zeroValue e).run P w = .ok z w) (hz : z.cells.size = 6) (h1 : ∀ v ∈ z.cells, v.oneCell' = true) (b o n c : Nat) (hn : 0 < n)
  (hc : ∀ j, j < n * 6 → (w.cell? ⟨b, o + j, none⟩).isSome = true) (hf : ∀ j, j < n * 6 → w.frozen? ⟨b, o + j, none⟩ = false) :
  ∃ vs : List Value, (Builtin.clear_ #[t] ty #[.slice (some ⟨b, o, none⟩) n c]).run P w = .ok (.tuple #[]) (w.setCells b o vs) := by
 refine ⟨(Builtin.zeroCells z.cells n).toList, ?_⟩
 have hl : (Builtin.zeroCells z.cells n).toList.length = n * 6 := by simp [Builtin.zeroCells, hz]
 have hst := run_storeCells_cells (P := P) b o (Builtin.zeroCells z.cells n).toList 0 w (by rw [hl]; simpa using hc) (by rw [hl]; simpa using hf) (by
  intro v hv'
  refine h1 v ?_
  simp only [Builtin.zeroCells, Array.toList_map, List.mem_map] at hv'
  obtain ⟨i, _, rfl⟩ := hv'
  have hlt : i % z.cells.size < z.cells.size := Nat.mod_lt _ (by omega)
  rw [getElem!_pos z.cells (i % z.cells.size) hlt]
  exact Array.getElem_mem hlt)
 simp only [Nat.add_zero] at hst
 obtain ⟨m, rfl⟩ : ∃ m, n = m + 1 := ⟨n - 1, by omega⟩
 simp [Builtin.clear_, run_underlying ht, hv, hst]
theorem ZE2 (g o c : Nat) (es : List Ev) (p : Ev → Bool) (fd : Nat) (lb : Array Value) (Pr : World → Prop) (w : World) (hE : EvsAt w g o es) (hn : es.length ≤ 1048576) (eg : ∀ args w, (callFunc fd args).run Tryz.prog w = .ok (.enter fd args) w)
  (hPb : ∀ X Y, Pr X → Below X.heap.size X Y → Pr Y) (cP : ∀ e X, Pr X → e ∈ es → Calls Tryz.prog fd (#[.agg #[.int .i64 e.seq, .int .i64 e.time, .int .i64 e.run, .int .i64 e.kind, .string e.step, .string e.val]] ++ lb) X fun x X' => x = .returned (.bool (p e)) ∧ Below X.heap.size X X') (h0 : Pr w) :
  Calls Tryz.prog 99 #[.slice (some ⟨g, o, none⟩) es.length c, .func (.func fd) #[] lb] w fun x w' => ∃ i : Int, x = .returned (.int .i64 i) ∧ ((i = -1 ∧ ∀ k, (h : k < es.length) → p es[k] = false) ∨ ∃ (k : Nat) (hk : k < es.length), i = (k : Int) ∧ p es[k] = true ∧ ∀ j, (h : j < k) → p (es[j]'(by omega)) = false) ∧ Below w.heap.size w w' := by
 have HE := hid hE
 have HP := hid hPb
 have HC := hid cP
 clear hE hPb cP
 go_enter Tryz.func99, Tryz.ntmps99
 go_wp2
 go_loopw [8] (fun i wr => ∃ k : Nat, k ≤ es.length ∧ i = .int .i64 k ∧ (∀ j, (h : j < k) → (h' : j < es.length) → p es[j] = false) ∧ Pr wr ∧ Below w.heap.size w wr) (fun i _ => es.length - (intOf i).toNat)
 case atStart => exact ⟨0, Nat.zero_le _, rfl, fun j h => absurd h (by omega), h0, Below.refl _ _⟩
 case round =>
  obtain ⟨k, hk, rfl, hall, hPr, hb⟩ := hrel
  have HA := hid hall
  have HPr := hid hPr
  have HB := hid hb
  clear hall hPr hb h0
  by_cases hlt : k < es.length
  ·obtain ⟨q0, q1, q2, q3, q4, q5⟩ := (HE.out.stay HB.out nL).2 k hlt
   have cK := hid (HC.out es[k] wr HPr.out (List.getElem_mem hlt))
   have HV : Hid (∀ b, p es[k] = b → p es[k] = b) := hid (fun _ h => h)
   obtain ⟨bk, hbk⟩ : ∃ b, b = p es[k] := ⟨_, rfl⟩
   rw [← hbk] at cK
   have HBk := hid hbk
   clear hbk HV
   obtain ⟨ek, hek⟩ : ∃ e, e = es[k] := ⟨_, rfl⟩
   rw [← hek] at q0 q1 q2 q3 q4 q5 cK HBk
   have HEk := hid hek
   clear hek
   obtain ⟨eq, et, er, ekd, es0, ev⟩ := ek
   dsimp only at q0 q1 q2 q3 q4 q5 cK
   go_wp2_with fail
   refine cK.out.mono ?_
   rintro x W1 ⟨rfl, hq⟩
   have HB1 := hid (HB.out.trans (hq.mono HB.out.size))
   have HP1 := hid (HP.out _ _ HPr.out hq)
   clear hq q0 q1 q2 q3 q4 q5 cK
   cases bk with
   | true =>
    go_wp2
    go_ret
    exact ⟨_, rfl, .inr ⟨k, hlt, rfl, by rw [← HEk.out]; exact HBk.out.symm, fun j h => HA.out j h (by omega)⟩, HB1.out⟩
   | false =>
    go_wp2
    go_roundw
    case rel => exact ⟨k + 1, by omega, by simp, fun j h h' => by
     by_cases e9 : j = k
     ·subst e9; rw [← HEk.out]; exact HBk.out.symm
     ·exact HA.out j (by omega) h', HP1.out, HB1.out⟩
    case measure => simp [intOf]; omega
  ·obtain rfl : k = es.length := by omega
   go_wp2
   go_ret
   exact ⟨_, rfl, .inl ⟨rfl, fun j h => HA.out j h h⟩, HB.out⟩
def kep (p : Ev → Bool) (l : List Ev) : List Ev := l.filter fun e => !p e
structure DlI (es : List Ev) (p : Ev → Bool) (cap i j : Nat) (L : List Value) : Prop where
 hl : L.length = cap * 6
 ht : L.take (i * 6) = (kep p (es.take j)).flatMap Ev.cells
 hi : i = (kep p (es.take j)).length
 hd : (L.drop (j * 6)).take ((es.length - j) * 6) = (es.drop j).flatMap Ev.cells
 hij : i < j
 hj : j ≤ es.length
theorem ZHf {p : Ev → Bool} {es : List Ev} {j : Nat} (h : j < es.length) (hp : p es[j] = false) : kep p (es.take (j + 1)) = kep p (es.take j) ++ [es[j]] := by
 unfold kep; rw [List.take_succ_eq_append_getElem h, List.filter_append]; simp [hp]
theorem ZGN {p : Ev → Bool} {es : List Ev} {j : Nat} (h : j < es.length) (hp : p es[j] = true) : kep p (es.take (j + 1)) = kep p (es.take j) := by
 unfold kep; rw [List.take_succ_eq_append_getElem h, List.filter_append]; simp [hp]
theorem ZBp {es : List Ev} {L : List Value} {j : Nat} (h : j < es.length) (hd : (L.drop (j * 6)).take ((es.length - j) * 6) = (es.drop j).flatMap Ev.cells) : (L.drop ((j + 1) * 6)).take ((es.length - (j + 1)) * 6) = (es.drop (j + 1)).flatMap Ev.cells ∧ ∀ m, m < 6 → L[j * 6 + m]? = es[j].cells[m]? := by
 rw [List.drop_eq_getElem_cons h, List.flatMap_cons] at hd
 have hx : es[j].cells.length = 6 := rfl
 refine ⟨?_, fun m hm => ?_⟩
 ·have h1 : (L.drop ((j + 1) * 6)).take ((es.length - (j + 1)) * 6) = ((L.drop (j * 6)).take ((es.length - j) * 6)).drop 6 := by
   rw [List.drop_take, List.drop_drop]
   congr 1
   ·omega
   ·congr 1; omega
  rw [h1, hd, List.drop_append, hx]
  simp [hx]
 ·have h1 : ((L.drop (j * 6)).take ((es.length - j) * 6))[m]? = L[j * 6 + m]? := by
   rw [List.getElem?_take, if_pos (by omega), List.getElem?_drop]
  rw [← h1, hd, List.getElem?_append_left (by rw [hx]; exact hm)]
theorem ZIB {L : List Value} {i n : Nat} {a b c d e f : Value} (h : i + 6 ≤ n) : (((((((L.set i a).set (i + 1) b).set (i + 2) c).set (i + 3) d).set (i + 4) e).set (i + 5) f).drop n) = L.drop n := by
 rw [List.drop_set_of_lt (by omega), List.drop_set_of_lt (by omega), List.drop_set_of_lt (by omega), List.drop_set_of_lt (by omega), List.drop_set_of_lt (by omega), List.drop_set_of_lt (by omega)]
theorem DlI.no {es : List Ev} {p : Ev → Bool} {cap i j : Nat} {L : List Value} (h : DlI es p cap i j L) (hj : j < es.length) (hp : p es[j] = true) : DlI es p cap i (j + 1) L :=
 ⟨h.hl, by rw [ZGN hj hp]; exact h.ht, by rw [ZGN hj hp]; exact h.hi, (ZBp hj h.hd).1, Nat.lt_succ_of_lt h.hij, hj⟩
theorem DlI.yes {es : List Ev} {p : Ev → Bool} {cap i j : Nat} {L : List Value} (h : DlI es p cap i j L) (hj : j < es.length) (hc : es.length ≤ cap) (hp : p es[j] = false) :
  DlI es p cap (i + 1) (j + 1) ((((((L.set (i * 6) (.int .i64 es[j].seq)).set (i * 6 + 1) (.int .i64 es[j].time)).set (i * 6 + 2) (.int .i64 es[j].run)).set (i * 6 + 3) (.int .i64 es[j].kind)).set (i * 6 + 4) (.string es[j].step)).set (i * 6 + 5) (.string es[j].val)) := by
 have hl := h.hl
 have hij := h.hij
 have h1 : (j + 1) * 6 ≤ cap * 6 := Nat.mul_le_mul_right 6 (by omega)
 refine ⟨by rw [ZDu]; exact hl, ?_, ?_, ?_, by omega, hj⟩
 ·rw [show (i + 1) * 6 = i * 6 + 6 by omega, ZCw (by omega), h.ht, ZHf hj hp, List.flatMap_append]; rfl
 ·rw [ZHf hj hp, List.length_append, ← h.hi]; rfl
 ·rw [ZIB (by omega)]; exact (ZBp hj h.hd).1
theorem ZDM (g cap lo : Nat) (L0 : List Value) (es : List Ev) (p : Ev → Bool) (fd : Nat) (lb : Array Value) (Pr : World → Prop) (w : World) (hG : w.heap[g]? = some (.cells L0.toArray 57 (0, 0))) (hL0 : L0.length = cap * 6) (hc : es.length ≤ cap) (hm : cap ≤ maxLen) (hT : L0.take (es.length * 6) = es.flatMap Ev.cells) (hlo : lo ≤ g) (hn : es.length ≤ 1048576) (hE : EvsAt w g 0 es)
  (eg : ∀ args w, (callFunc fd args).run Tryz.prog w = .ok (.enter fd args) w) (hPb : ∀ X Y, Pr X → Below X.heap.size X Y → Pr Y) (hPg : ∀ X Y, Pr X → X.grownBy Y (some g) → Pr Y)
  (cP : ∀ e X, Pr X → e ∈ es → Calls Tryz.prog fd (#[.agg #[.int .i64 e.seq, .int .i64 e.time, .int .i64 e.run, .int .i64 e.kind, .string e.step, .string e.val]] ++ lb) X fun x X' => x = .returned (.bool (p e)) ∧ Below X.heap.size X X') (h0 : Pr w) :
  Calls Tryz.prog 78 #[.slice (some ⟨g, 0, none⟩) es.length cap, .func (.func fd) #[] lb] w fun x w' => ∃ v, x = .returned v ∧ w'.ownsRow lo 57 6 v (kep p es).length ((kep p es).flatMap Ev.cells) ∧ Chg (fun j => j = g) w w' := by
 have cI := hid (ZE2 g 0 cap es p fd lb Pr w hE hn eg hPb cP h0)
 have HG := hid hG
 have HT := hid hT
 have HP := hid hPb
 have HPg := hid hPg
 have HC := hid cP
 have H0 := hid h0
 have HL0 := hid hL0
 unfold maxLen at hm
 clear hE hPb cP hPg hT hG h0 hL0
 go_enter Tryz.func78, Tryz.ntmps78
 go_wp2_with fail
 refine cI.out.mono ?_
 rintro x W1 ⟨i, rfl, hi, hb1⟩
 have HG1 := hid ((hb1.block g (ZBD HG.out)).trans HG.out)
 have HP1 := hid (HP.out _ _ H0.out hb1)
 have HC1 : Hid (Chg (fun j => j = g) w W1) := hid (Chg.of_below hb1)
 clear hb1 cI
 rcases hi with ⟨rfl, hall⟩ | ⟨k, hk, rfl, hpk, hall⟩
 ·have hK : kep p es = es := by
   unfold kep
   rw [List.filter_eq_self]
   intro e he
   obtain ⟨j, hj, rfl⟩ := List.mem_iff_getElem.1 he
   simp [hall j hj]
  go_wp2
  go_ret
  refine ⟨_, rfl, ?_, HC1.out⟩
  rw [hK]
  exact ⟨ZAg es, .inr ⟨g, cap, L0.toArray, rfl, hlo, HG1.out, hc, by unfold maxLen; omega, by simpa using HL0.out, by simpa using HT.out⟩⟩
 ·have hI0 : DlI es p cap k (k + 1) L0 := by
   have hkk : kep p (es.take k) = es.take k := by
    unfold kep
    rw [List.filter_eq_self]
    intro e he
    obtain ⟨j, hj, rfl⟩ := List.mem_iff_getElem.1 he
    have hj' : j < k := by simp at hj; omega
    rw [List.getElem_take]
    simp [hall j hj']
   have hk6 : k * 6 ≤ es.length * 6 := Nat.mul_le_mul_right 6 (by omega)
   have hd0 : (L0.drop (k * 6)).take ((es.length - k) * 6) = (es.drop k).flatMap Ev.cells := by
    have h1 : (L0.drop (k * 6)).take ((es.length - k) * 6) = (L0.take (es.length * 6)).drop (k * 6) := by rw [List.drop_take]; congr 1; omega
    rw [h1, HT.out]
    conv => lhs; rw [← List.take_append_drop k es, List.flatMap_append]
    rw [List.drop_append_of_le_length (by rw [ZAg]; simp; omega), List.drop_of_length_le (by rw [ZAg]; simp; omega)]; rfl
   refine ⟨HL0.out, ?_, ?_, (ZBp hk hd0).1, by omega, hk⟩
   ·rw [ZGN hk hpk, hkk]
    have h1 : L0.take (k * 6) = (L0.take (es.length * 6)).take (k * 6) := by rw [List.take_take]; congr 1; omega
    rw [h1, HT.out]
    conv => lhs; rw [← List.take_append_drop k es, List.flatMap_append]
    rw [List.take_append_of_le_length (by rw [ZAg]; simp; omega), List.take_of_length_le (by rw [ZAg]; simp; omega)]
   ·rw [ZGN hk hpk, hkk]; simp; omega
  have HI0 := hid hI0
  clear hI0 hall hpk
  have hkb : ((k : Int) == -1) = false := beq_eq_false_iff_ne.2 (by omega)
  go_upto_region 5 with fail
  go_loopw [5, 6] (fun iv jv wr => ∃ (i j : Nat) (L : List Value), iv = .int .i64 i ∧ jv = .int .i64 j ∧ DlI es p cap i j L ∧ wr.heap[g]? = some (.cells L.toArray 57 (0, 0)) ∧ Pr wr ∧ Chg (fun j => j = g) w wr) (fun _ jv _ => es.length - (intOf jv).toNat)
  case atStart => exact ⟨k, k + 1, L0, rfl, by simp, HI0.out, HG1.out, HP1.out, HC1.out⟩
  case round =>
   obtain ⟨i, j, L, rfl, rfl, hI, hGr, hPr, hCr⟩ := hrel
   have HI := hid hI
   have HGr := hid hGr
   have HPr := hid hPr
   have HCr := hid hCr
   have hij := hI.hij
   have hjl := hI.hj
   have hll := hI.hl
   have h6 : es.length * 6 ≤ cap * 6 := Nat.mul_le_mul_right 6 hc
   have hgl := ZBD hGr
   clear hI hGr hPr hCr HI0 HG1 HP1 HC1
   by_cases hlt : j < es.length
   ·have hcj := (ZBp hlt HI.out.hd).2
    have q : ∀ m, m < 6 → wr.cell? ⟨g, j * 6 + m, none⟩ = es[j].cells[m]? := fun m hm => by rw [Lib.cell_of_heap HGr.out, ← hcj m hm]; simp
    have q0 : wr.cell? ⟨g, j * 6, none⟩ = es[j].cells[0]? := q 0 (by decide)
    have q1 := q 1 (by decide)
    have q2 := q 2 (by decide)
    have q3 := q 3 (by decide)
    have q4 := q 4 (by decide)
    have q5 := q 5 (by decide)
    have HY := hid (fun hp => HI.out.yes hlt hc hp)
    have HN := hid (fun hp => HI.out.no hlt hp)
    have cK := hid (fun X hX => HC.out es[j] X hX (List.getElem_mem hlt))
    clear hcj q
    obtain ⟨pb, hpb⟩ : ∃ b, b = p es[j] := ⟨_, rfl⟩
    rw [← hpb] at cK HY HN
    clear hpb
    generalize es[j] = e at *
    obtain ⟨eq, et, er, ekd, es0, ev⟩ := e
    dsimp only [Ev.cells] at q0 q1 q2 q3 q4 q5 cK HY
    simp only [List.getElem?_cons_zero, List.getElem?_cons_succ] at q0 q1 q2 q3 q4 q5
    have hbx : Below wr.heap.size wr (wr.alloc (.cells #[.int .i64 eq, .int .i64 et, .int .i64 er, .int .i64 ekd, .string es0, .string ev] 57)) := (bR _ _).alloc nL _
    have HX := hid (heap_alloc_new wr (.cells #[.int .i64 eq, .int .i64 et, .int .i64 er, .int .i64 ekd, .string es0, .string ev] 57))
    have HPx := hid (HP.out _ _ HPr.out hbx)
    have HGx := hid ((hbx.block g hgl).trans HGr.out)
    have HCx := hid (HCr.out.trans (Chg.of_below hbx))
    clear hbx
    go_upto_region 8 with fail
    clear q0 q1 q2 q3 q4 q5
    generalize wr.alloc (.cells #[.int .i64 eq, .int .i64 et, .int .i64 er, .int .i64 ekd, .string es0, .string ev] 57) = W at *
    have f0 : W.cell? ⟨wr.heap.size, 0, none⟩ = some (.int .i64 eq) := ce HX.out rfl
    have f1 : W.cell? ⟨wr.heap.size, 1, none⟩ = some (.int .i64 et) := ce HX.out rfl
    have f2 : W.cell? ⟨wr.heap.size, 2, none⟩ = some (.int .i64 er) := ce HX.out rfl
    have f3 : W.cell? ⟨wr.heap.size, 3, none⟩ = some (.int .i64 ekd) := ce HX.out rfl
    have f4 : W.cell? ⟨wr.heap.size, 4, none⟩ = some (.string es0) := ce HX.out rfl
    have f5 : W.cell? ⟨wr.heap.size, 5, none⟩ = some (.string ev) := ce HX.out rfl
    go_wp2_with fail
    refine (cK.out W HPx.out).mono ?_
    rintro x W2 ⟨rfl, hq⟩
    have HX2 := hid ((hq.block _ (ZBD HX.out)).trans HX.out)
    have HP2 := hid (HP.out _ _ HPx.out hq)
    have HG2 := hid ((hq.block g (ZBD HGx.out)).trans HGx.out)
    have HC2 := hid (HCx.out.trans (Chg.of_below hq))
    clear hq cK f0 f1 f2 f3 f4 f5 HX HPx HGx HCx
    cases pb with
    | true =>
     go_wp2
     go_roundw
     case rel => exact ⟨i, j + 1, L, rfl, by simp, HN.out (by simp), HG2.out, HP2.out, HC2.out⟩
     case measure => simp [intOf]; omega
    | false =>
     have f0 : W2.cell? ⟨wr.heap.size, 0, none⟩ = some (.int .i64 eq) := ce HX2.out rfl
     have f1 : W2.cell? ⟨wr.heap.size, 1, none⟩ = some (.int .i64 et) := ce HX2.out rfl
     have f2 : W2.cell? ⟨wr.heap.size, 2, none⟩ = some (.int .i64 er) := ce HX2.out rfl
     have f3 : W2.cell? ⟨wr.heap.size, 3, none⟩ = some (.int .i64 ekd) := ce HX2.out rfl
     have f4 : W2.cell? ⟨wr.heap.size, 4, none⟩ = some (.string es0) := ce HX2.out rfl
     have f5 : W2.cell? ⟨wr.heap.size, 5, none⟩ = some (.string ev) := ce HX2.out rfl
     have hfz : ∀ j, W2.frozen? ⟨g, j, none⟩ = false := fun j => Lib.frozen_of_heap HG2.out j
     have hce : ∀ m, m < 6 → ∃ u, W2.cell? ⟨g, i * 6 + m, none⟩ = some u := fun m hm => ZAv HG2.out (by omega)
     obtain ⟨u0, d0⟩ : ∃ u, W2.cell? ⟨g, i * 6, none⟩ = some u := hce 0 (by decide)
     obtain ⟨u1, d1⟩ := hce 1 (by decide)
     obtain ⟨u2, d2⟩ := hce 2 (by decide)
     obtain ⟨u3, d3⟩ := hce 3 (by decide)
     obtain ⟨u4, d4⟩ := hce 4 (by decide)
     obtain ⟨u5, d5⟩ := hce 5 (by decide)
     clear hce
     have hgr : W2.grownBy ((((((W2.setCell ⟨g, i * 6, none⟩ (.int .i64 eq)).setCell ⟨g, i * 6 + 1, none⟩ (.int .i64 et)).setCell ⟨g, i * 6 + 2, none⟩ (.int .i64 er)).setCell ⟨g, i * 6 + 3, none⟩ (.int .i64 ekd)).setCell ⟨g, i * 6 + 4, none⟩ (.string es0)).setCell ⟨g, i * 6 + 5, none⟩ (.string ev)) (some g) := ZAN (ZAN (ZAN (ZAN (ZAN (ZAF _ _ _ _) (ZAF _ _ _ _)) (ZAF _ _ _ _)) (ZAF _ _ _ _)) (ZAF _ _ _ _)) (ZAF _ _ _ _)
     have HGw := hid hgr
     clear hgr
     go_wp2
     go_roundw
     case rel => exact ⟨i + 1, j + 1, _, by simp, by simp, HY.out (by simp), ZDn HG2.out _ _ _ _ _ _ _, HPg.out _ _ HP2.out HGw.out, HC2.out.trans (Chg.of_grown HGw.out rfl)⟩
     case measure => simp [intOf]; omega
   ·obtain rfl : j = es.length := by omega
    have hz : ∀ w, (zeroValue 57).run Tryz.prog w = .ok (.agg #[.int .i64 0, .int .i64 0, .int .i64 0, .int .i64 0, .string ⟨#[]⟩, .string ⟨#[]⟩]) w := fun w => by kernel_rfl
    obtain ⟨vs, hrun⟩ := ZHA (P := Tryz.prog) wr 34 57 0 (.agg #[.int .i64 0, .int .i64 0, .int .i64 0, .int .i64 0, .string ⟨#[]⟩, .string ⟨#[]⟩]) Tryz.underlying34 hz rfl (by intro v hv; simp [Value.cells] at hv; rcases hv with rfl | rfl <;> rfl) g (i * 6) (es.length - i) (cap - i) (by omega)
     (fun m hm => by obtain ⟨u, hu⟩ := ZAv HGr.out (j := i * 6 + m) (by have := Nat.mul_le_mul_right 6 (show i ≤ es.length by omega); have : (es.length - i) * 6 = es.length * 6 - i * 6 := Nat.sub_mul _ _ _; omega); rw [hu]; rfl) (fun m _ => Lib.frozen_of_heap HGr.out _)
    obtain ⟨L', h1, h2, h3, h4⟩ := ZCC vs (i * 6) wr L HGr.out
    have H1 := hid h1
    have H2 := hid h2
    have H3 := hid h3
    have H4 := hid h4
    clear h1 h2 h3 h4 hz
    go_wp2
    go_ret
    have hi9 := HI.out.hi
    have ht9 := HI.out.ht
    rw [List.take_length] at hi9 ht9
    refine ⟨_, rfl, ?_, HCr.out.trans (Chg.of_grown H4.out rfl)⟩
    rw [← hi9]
    exact ⟨by rw [ZAg, hi9], .inr ⟨g, cap, L'.toArray, rfl, hlo, H1.out, by omega, by unfold maxLen; omega, by rw [List.size_toArray, H2.out]; exact hll, by rw [List.toList_toArray, H3.out]; exact ht9⟩⟩
end Go.Proofs.YtookchpdbilbcaaGreatDoor
/-
 A region that draws its order, by an invariant, where an edge that binds no order of ours may go to a later operation. Of no function.
-/
namespace Go.Proofs.YtookchpdbilbcaaGreatDoor
open Go.RowKit
theorem ZBt {md : Region.Mode} {ops : Array Oper} {listed : Array Bool} (hac : ∀ (i : Nat) (o : Oper), ops[i]? = some o → ∀ e ∈ o.after, Region.binds md e = true → e.on < i) (hs : listed.size = ops.size) (h : Region.ready md ops listed = []) : ∀ i, i < ops.size → listed.getD i false = true := by
 intro i
 induction i using Nat.strongRecOn with
 | ind i ih =>
  intro hi
  cases hb : listed.getD i false with
  | true => rfl
  | false =>
   exfalso
   have : i ∈ Region.ready md ops listed := mem_ready.2 ⟨by
    have hl : i < listed.size := by omega
    simp [hl] at hb ⊢; exact hb, ops[i], Array.getElem?_eq_getElem hi, fun e he hbn => ih e.on (hac i _ (Array.getElem?_eq_getElem hi) e he hbn) (by have := hac i _ (Array.getElem?_eq_getElem hi) e he hbn; omega)⟩
   rw [h] at this
   cases this
theorem ZJD {P : Program} {md : Region.Mode} {ops : Array Oper} {Q : Exit → Act → World → Prop} (R : Array Bool → Act → World → Prop) (hac : ∀ (i : Nat) (o : Oper), ops[i]? = some o → ∀ e ∈ o.after, Region.binds md e = true → e.on < i)
  (hstep : ∀ (i : Nat) (listed : Array Bool) (a : Act) (w : World), R listed a w → listed.getD i true = false → (∃ o : Oper, ops[i]? = some o ∧ ∀ e ∈ o.after, Region.binds md e = true → listed.getD e.on false = true) → wpOp P ops Q i (fun a' w' => R (listed.setIfInBounds i true) a' w') a w)
  (hend : ∀ (listed : Array Bool) (a : Act) (w : World), R listed a w → (∀ i, i < ops.size → listed.getD i false = true) → Q .normal a w) :
  ∀ (fuel : Nat) (listed : Array Bool) (a : Act) (w : World), listed.size = ops.size → listed.toList.count false ≤ fuel → R listed a w → wpAny P md ops Q fuel listed a w := by
 intro fuel
 induction fuel with
 | zero =>
  intro listed a w hs hc hR
  have hr : Region.ready md ops listed = [] := by
   refine List.eq_nil_iff_forall_not_mem.2 fun i hi => ?_
   have := ZAf (mem_ready.1 hi).1
   omega
  exact ⟨hr, hend listed a w hR (ZBt hac hs hr)⟩
 | succ n ih =>
  intro listed a w hs hc hR
  refine ⟨fun hr => hend listed a w hR (ZBt hac hs hr), fun i hi => ?_⟩
  obtain ⟨h1, h2⟩ := mem_ready.1 hi
  have hcl := ZAf h1
  exact wpOp_mono (fun a' w' h => ih _ a' w' (by simpa using hs) (by omega) h) (hstep i listed a w hR h1 h2)
theorem ZDN {P : Program} {ops : Array Oper} {Q : Exit → Act → World → Prop} {id : Nat} {a : Act} {w : World} (hm : P.follows .mixedOrders = true) (R : Array Bool → Act → World → Prop) (hac : ∀ (i : Nat) (o : Oper), ops[i]? = some o → ∀ e ∈ o.after, Region.binds .any e = true → e.on < i)
  (h0 : R (Array.replicate ops.size false) a w.drew)
  (hstep : ∀ (i : Nat) (listed : Array Bool) (a : Act) (w : World), R listed a w → listed.getD i true = false → (∃ o : Oper, ops[i]? = some o ∧ ∀ e ∈ o.after, Region.binds .any e = true → listed.getD e.on false = true) → wpOp P ops Q i (fun a' w' => R (listed.setIfInBounds i true) a' w') a w)
  (hend : ∀ (listed : Array Bool) (a : Act) (w : World), R listed a w → (∀ i, i < ops.size → listed.getD i false = true) → Q .normal a w) : (Code.region id ops true).wp P Q a w :=
 wp_region_any hm (ZJD R hac hstep hend ops.size _ a _ (by simp) (by simp) h0)
def acBB (ops : Array Oper) : Bool := (List.range ops.size).all fun i => match ops[i]? with
 | some o => o.after.all fun e => !Region.binds .any e || decide (e.on < i)
 | none => true
theorem ac_ofB {ops : Array Oper} (h : acBB ops = true) (i : Nat) (o : Oper) (ho : ops[i]? = some o) (e : Edge) (he : e ∈ o.after) (hb : Region.binds .any e = true) : e.on < i := by
 have hi := List.all_eq_true.1 h i (List.mem_range.2 (Array.getElem?_eq_some_iff.1 ho).1)
 simp only [ho] at hi
 have := Array.all_eq_true_iff_forall_mem.1 hi e he
 simpa [hb] using this
end Go.Proofs.YtookchpdbilbcaaGreatDoor
