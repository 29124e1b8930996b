/-
  Texts put together: SrcA, SrcL, SrcD, Chg, Strs.
-/
import Derived.Test.YtimlnbfalnkmhaaGreatDoorZSrc
import Derived.RegionTactic
import Derived.Test.YtimlnbfalnkmhaaGreatDoorZGen2
import Derived.OwnWalk
/-
  Draws: what (*spec.l01Src).n, one, pick and edge answer: contracts over the seat's program.
-/
namespace Go.Proofs.YtimlnbfalnkmhaaGreatDoor
open Go.RowKit

theorem Bs.stay {w w' : World} {V : Value} {n b : Nat} (h : Bs w V n) (hg : w.grownBy w' (some b)) (hne : ∀ g o c, V = .slice (some ⟨g, o, none⟩) n c → 0 < n → g ≠ b) : Bs w' V n := by
  obtain ⟨a, c, rfl, hn, h⟩ := h
  refine ⟨a, c, rfl, hn, fun i hi => ?_⟩
  obtain ⟨g, o, x, rfl, hg1, hc, hx⟩ := h i hi
  have hgb : g ≠ b := hne g o c rfl (by omega)
  refine ⟨g, o, x, rfl, Nat.lt_of_lt_of_le hg1 hg.size, ?_, hx⟩
  rw [World.cell?_of_block (w := w) (a := ⟨g, o + i, none⟩) (hg.block g hg1 (by simpa using hgb))]; exact hc
/-- A source and its bytes. -/
structure Drw (w : World) (b : Nat) (V : Value) (n : Nat) : Prop where
  src : SrcAt w b V n
  bs : Bs w V n
  far : ∀ g o c, V = .slice (some ⟨g, o, none⟩) n c → 0 < n → g < b
theorem Drw.next {w w' : World} {b n : Nat} {V : Value} (h : Drw w b V n) (hs : SrcAt w' b V n) (hg : w.grownBy w' (some b)) : Drw w' b V n :=
  ⟨hs, h.bs.stay hg (fun g o c e h0 => by have := h.far g o c e h0; omega), h.far⟩
/-- Another block set, or new memory: the source stays. -/
theorem Drw.stay {w w' : World} {b n : Nat} {V : Value} {r : Option Nat} (h : Drw w b V n) (hg : w.grownBy w' r) (hr : ∀ k, r = some k → b < k) : Drw w' b V n := by
  refine ⟨h.src.of_block (hg.block b h.src.lt (fun e => by have := hr b e.symm; omega)), ?_, h.far⟩
  obtain ⟨a, c, rfl, hn, hb⟩ := h.bs
  refine ⟨a, c, rfl, hn, fun i hi => ?_⟩
  obtain ⟨g, o, x, rfl, hg1, hc, hx⟩ := hb i hi
  have hgb := h.far g o c rfl (by omega)
  refine ⟨g, o, x, rfl, Nat.lt_of_lt_of_le hg1 hg.size, ?_, hx⟩
  rw [World.cell?_of_block (w := w) (a := ⟨g, o + i, none⟩) (hg.block g hg1 (fun e => by have := hr g e.symm; omega))]; exact hc
theorem Drw.below {w w' : World} {b n : Nat} {V : Value} (h : Drw w b V n) (hb : Below w.heap.size w w') : Drw w' b V n := h.stay (r := none) (grown_below hb) (fun k hk => by cases hk)

/-- A number below most. -/
def Blw (most r : Int) : Prop := 0 ≤ r ∧ (1 < most → r < most) ∧ (most ≤ 1 → r = 0)
theorem srcN_any (b n : Nat) (V : Value) (most : Int) (w : World) (h : Drw w b V n) (h2 : most ≤ 1099511627776) :
    Calls Tryz.prog 47 #[.pointer (some ⟨b, 0, none⟩), .int .i64 most] w fun e w' => ∃ r : Int, e = .returned (.int .i64 r) ∧ Blw most r ∧ Drw w' b V n ∧ w.grownBy w' (some b) := by
  by_cases h1 : 1 < most
  · obtain ⟨at', mix, size, hat, hm0, hm1, hsz, hb⟩ := h.src
    obtain ⟨a, c, rfl, hn, hbs⟩ := h.bs
    by_cases hlt : at' < n
    · obtain ⟨g, o, x, rfl, _, hc, hx0, hx1⟩ := hbs at' hlt
      refine (srcN_some b n at' g o c mix size most x w hn h1 h2 hsz hb hlt hc hx0 hx1).mono ?_
      rintro e w' ⟨r, rfl, r0, r1, hs, hg⟩
      exact ⟨r, rfl, ⟨r0, fun _ => r1, fun x => by omega⟩, h.next hs hg, hg⟩
    · refine (srcN_none b n at' a c mix size most w hat h1 h2 hsz hb (by omega)).mono ?_
      rintro e w' ⟨r, rfl, r0, r1, hs, hg⟩
      exact ⟨r, rfl, ⟨r0, fun _ => r1, fun x => by omega⟩, h.next hs hg, hg⟩
  · have H := hid h
    clear h
    go_enter Tryz.func47, Tryz.ntmps47
    go_wp2
    go_ret
    exact ⟨0, rfl, ⟨by decide, fun x => by omega, fun _ => rfl⟩, H.out, World.grownBy.refl _ _⟩
theorem one_any (b n : Nat) (V : Value) (most : Int) (w : World) (h : Drw w b V n) (h2 : most ≤ 1099511627776) :
    Calls Tryz.prog 50 #[.pointer (some ⟨b, 0, none⟩), .int .i64 most] w fun e w' => ∃ r : Bool, e = .returned (.bool r) ∧ Drw w' b V n ∧ w.grownBy w' (some b) := by
  have c1 := hid (srcN_any b n V most w h h2)
  clear h
  go_enter Tryz.func50, Tryz.ntmps50
  go_wp2_with fail
  refine c1.out.mono ?_
  rintro e w1 ⟨r, rfl, _, hd, hg⟩
  have HD := hid hd
  have HG := hid hg
  clear hd hg
  go_wp2
  go_ret
  exact ⟨_, rfl, HD.out, HG.out⟩
end Go.Proofs.YtimlnbfalnkmhaaGreatDoor

/-
  A cell of a row that is laid; an int64. Of no function.
-/
namespace Go.Proofs.YtimlnbfalnkmhaaGreatDoor
open Go.RowKit

theorem cell_lit {w : World} {g i : Nat} {L : List Value} {t : TypeId} (h : w.heap[g]? = some (.cells L.toArray t (0, 0))) (hi : i < L.length) : w.cell? ⟨g, i, none⟩ = some L[i] := by
  rw [Lib.cell_of_heap h]; simp [hi]
/-- An int64. -/
def InI (r : Int) : Prop := -9223372036854775808 ≤ r ∧ r ≤ 9223372036854775807
end Go.Proofs.YtimlnbfalnkmhaaGreatDoor

/-
  Draws: what spec.l01Source answers: a contract over the seat's program.
-/
namespace Go.Proofs.YtimlnbfalnkmhaaGreatDoor
open Go.RowKit

theorem wrap_bd (a : Int) : 0 ≤ IntKind.u64.wrap a ∧ IntKind.u64.wrap a ≤ 18446744073709551615 := by
  rw [IntKind.wrap_u64]
  omega
set_option maxHeartbeats 1000000 in
set_option maxRecDepth 100000 in
theorem source_any (V : Value) (n : Nat) (w : World) (h : Bs w V n) :
    Calls Tryz.prog 31 #[V] w fun e w' => ∃ b : Nat, e = .returned (.pointer (some ⟨b, 0, none⟩)) ∧ w.heap.size ≤ b ∧ Drw w' b V n ∧ Below w.heap.size w w' := by
  obtain ⟨a, c, rfl, hn, hbs⟩ := h
  have HBS := hid hbs
  clear hbs
  go_enter Tryz.func31, Tryz.ntmps31
  go_wp2
  go_loopw [4] (fun i wr => ∃ (k : Nat) (mix : Int), k ≤ n ∧ i = .int .i64 k ∧ 0 ≤ mix ∧ mix ≤ 18446744073709551615 ∧ wr.heap[w.heap.size]? = some (.cells [.slice a n c, .int .i64 0, .int .u64 mix, .int .i64 0].toArray 114 (0, 0)) ∧ Below w.heap.size w wr) (fun i _ => n - (intOf i).toNat)
  case atStart => exact ⟨0, 88172645463325252, Nat.zero_le _, rfl, by decide, by decide, heap_alloc_new w _, (Below.refl _ _).alloc (Nat.le_refl _) _⟩
  case round =>
    obtain ⟨k, mix, hk, rfl, hm0, hm1, hb, hbel⟩ := hrel
    have HB := hid hb
    by_cases hlt : k < n ∧ k < 64
    · obtain ⟨hl1, hl2⟩ := hlt
      obtain ⟨g, o, x, rfl, hg, hc, hx0, hx1⟩ := HBS.out k hl1
      have hc' : wr.cell? ⟨g, o + k, none⟩ = some (.int .u8 x) := by rw [hbel.cell (p := ⟨g, o + k, none⟩) hg]; exact hc
      have e2 : wr.cell? ⟨w.heap.size, 2, none⟩ = some (.int .u64 mix) := by rw [Lib.cell_of_heap hb]; rfl
      have f2 : wr.frozen? ⟨w.heap.size, 2, none⟩ = false := Lib.frozen_of_heap hb 2
      clear hb hc
      go_wp2
      go_region
      have bw := wrap_bd (bits .xor .u64 mix x * 1099511628211)
      generalize IntKind.u64.wrap (bits .xor .u64 mix x * 1099511628211) = m1 at *
      have HB1 : Hid ((wr.setCell ⟨w.heap.size, 2, none⟩ (.int .u64 m1)).drew.heap[w.heap.size]? = some (.cells [.slice (some ⟨g, o, none⟩) n c, .int .i64 0, .int .u64 m1, .int .i64 0].toArray 114 (0, 0))) := blk_set (i := 2) HB.out (.int .u64 m1)
      have hbel1 : Below w.heap.size w (wr.setCell ⟨w.heap.size, 2, none⟩ (.int .u64 m1)).drew := (hbel.setCell (p := ⟨w.heap.size, 2, none⟩) (Nat.le_refl _) _).drew
      generalize (wr.setCell ⟨w.heap.size, 2, none⟩ (.int .u64 m1)).drew = w1 at *
      clear hc' e2 f2 HB
      go_wp2
      go_roundw
      case rel => exact ⟨k + 1, m1, by omega, by go_num, bw.1, bw.2, HB1.out, hbel1⟩
      case measure => simp [intOf]; omega
    · have HFar : Hid (∀ g o c', Value.slice a n c = .slice (some ⟨g, o, none⟩) n c' → 0 < n → g < w.heap.size) := by
        show ∀ g o c', _
        intro g o c' e h0
        obtain ⟨g', o', x, e', hg, _⟩ := HBS.out 0 h0
        rw [e'] at e
        injection e with e1
        injection e1 with e1
        injection e1 with e1
        omega
      have hz : w.heap.size < wr.heap.size := lt_heap hb
      have e3 : wr.cell? ⟨w.heap.size, 3, none⟩ = some (.int .i64 0) := by rw [Lib.cell_of_heap hb]; rfl
      have f3 : wr.frozen? ⟨w.heap.size, 3, none⟩ = false := Lib.frozen_of_heap hb 3
      have fin : Hid (∀ (w' : World) (size : Int), Siz size → w'.heap[w.heap.size]? = some (.cells [.slice a n c, .int .i64 0, .int .u64 mix, .int .i64 size].toArray 114 (0, 0)) → Below w.heap.size w w' → Drw w' w.heap.size (.slice a n c) n) := by
        show ∀ (w' : World) (size : Int), _
        intro w' size hsz h1 h2
        refine ⟨⟨0, mix, size, Nat.zero_le _, hm0, hm1, hsz, h1⟩, ⟨a, c, rfl, hn, fun i hi => ?_⟩, HFar.out⟩
        obtain ⟨g, o, x, rfl, hg, hc, hx⟩ := HBS.out i hi
        exact ⟨g, o, x, rfl, Nat.lt_of_lt_of_le hg h2.size, by rw [h2.cell (p := ⟨g, o + i, none⟩) hg]; exact hc, hx⟩
      clear hb HFar
      have hor : n ≤ k ∨ (k < n ∧ 64 ≤ k) := by omega
      rcases hor with h1 | ⟨h1, h3⟩
      all_goals
        by_cases hbig : (12 : Int) < (n : Int) / 20
        · go_wp2
          go_ret
          refine ⟨w.heap.size, rfl, Nat.le_refl _, fin.out _ 12 ⟨by decide, by decide⟩ (blk_set (i := 3) (blk_set (i := 3) HB.out _) _) ?_, ?_⟩
          all_goals exact (hbel.setCell (p := ⟨w.heap.size, 3, none⟩) (Nat.le_refl _) _).setCell (p := ⟨w.heap.size, 3, none⟩) (Nat.le_refl _) _
        · go_wp2
          go_ret
          refine ⟨w.heap.size, rfl, Nat.le_refl _, fin.out _ _ ⟨by omega, by omega⟩ (blk_set (i := 3) HB.out _) ?_, ?_⟩
          all_goals exact hbel.setCell (p := ⟨w.heap.size, 3, none⟩) (Nat.le_refl _) _
end Go.Proofs.YtimlnbfalnkmhaaGreatDoor
namespace Go.Proofs.YtimlnbfalnkmhaaGreatDoor
open Go.RowKit

/-- From a source made in the call: all that was there is as it was. -/
theorem below_src {w w1 w2 : World} {b : Nat} (h1 : Below w.heap.size w w1) (hb : w.heap.size ≤ b) (h2 : w1.grownBy w2 (some b)) : Below w.heap.size w w2 :=
  ⟨h2.os.trans h1.os, h2.tape.trans h1.tape, h2.output.trans h1.output, Nat.le_trans h1.size h2.size, fun k hk => (h2.block k (Nat.lt_of_lt_of_le hk h1.size) (by simp; omega)).trans (h1.block k hk)⟩

end Go.Proofs.YtimlnbfalnkmhaaGreatDoor

/-
  Worlds that part in some blocks alone. Of no function.
-/
namespace Go.Proofs.YtimlnbfalnkmhaaGreatDoor
open Go.RowKit

/-- w' is w, but for the blocks of which p holds, and for what is new. -/
structure Chg (p : Nat → Prop) (w w' : World) : Prop where
  os : w'.os = w.os
  tape : w'.tape = w.tape
  output : w'.output = w.output
  size : w.heap.size ≤ w'.heap.size
  block : ∀ k, k < w.heap.size → ¬ p k → w'.heap[k]? = w.heap[k]?
theorem Chg.refl (p : Nat → Prop) (w : World) : Chg p w w := ⟨rfl, rfl, rfl, Nat.le_refl _, fun _ _ _ => rfl⟩
theorem Chg.trans {p : Nat → Prop} {w w1 w2 : World} (h : Chg p w w1) (k : Chg p w1 w2) : Chg p w w2 :=
  ⟨k.os.trans h.os, k.tape.trans h.tape, k.output.trans h.output, Nat.le_trans h.size k.size, fun i hi hp => (k.block i (Nat.lt_of_lt_of_le hi h.size) hp).trans (h.block i hi hp)⟩
theorem Chg.of_grown {p : Nat → Prop} {w w' : World} {b : Nat} (h : w.grownBy w' (some b)) (hb : p b) : Chg p w w' := ⟨h.os, h.tape, h.output, h.size, fun k hk hp => h.block k hk (fun e => by injection e with e; exact hp (e ▸ hb))⟩
theorem Chg.of_none {p : Nat → Prop} {w w' : World} (h : w.grownBy w' none) : Chg p w w' := ⟨h.os, h.tape, h.output, h.size, fun k hk _ => h.block k hk (by simp)⟩
theorem Chg.of_below {p : Nat → Prop} {w w' : World} (h : Below w.heap.size w w') : Chg p w w' := ⟨h.os, h.tape, h.output, h.size, fun k hk _ => h.block k hk⟩
theorem Chg.below {p : Nat → Prop} {w w' : World} {B : Nat} (h : Chg p w w') (hB : B ≤ w.heap.size) (hp : ∀ k, p k → B ≤ k) : Below B w w' := ⟨h.os, h.tape, h.output, h.size, fun k hk => h.block k (Nat.lt_of_lt_of_le hk hB) (fun h' => absurd (hp k h') (by omega))⟩
theorem Chg.mono {p q : Nat → Prop} {w w' : World} (h : Chg p w w') (hpq : ∀ k, p k → q k) : Chg q w w' := ⟨h.os, h.tape, h.output, h.size, fun k hk hq => h.block k hk (fun hp => hq (hpq k hp))⟩
theorem Chg.cell {p : Nat → Prop} {w w' : World} (h : Chg p w w') {g o : Nat} (hg : g < w.heap.size) (hp : ¬ p g) : w'.cell? ⟨g, o, none⟩ = w.cell? ⟨g, o, none⟩ := by
  unfold World.cell?; simp only []; rw [h.block g hg hp]
end Go.Proofs.YtimlnbfalnkmhaaGreatDoor

/-
  Rows of texts, and of pairs of texts, in memory: what it is that a slice holds them, and that it stays so. Of no function.
-/
namespace Go.Proofs.YtimlnbfalnkmhaaGreatDoor
open Go.RowKit

/-- A row of texts, from a place on. -/
def StrsAt (w : World) (g o : Nat) (ss : List ByteArray) : Prop := g < w.heap.size ∧ ∀ i, (h : i < ss.length) → w.cell? ⟨g, o + i, none⟩ = some (.string ss[i])
/-- What a slice of texts is: empty, or a row somewhere. -/
def StrSl (w : World) (v : Value) (ss : List ByteArray) : Prop :=
  (∃ a c, v = .slice a 0 c ∧ ss = []) ∨ ∃ g o c, v = .slice (some ⟨g, o, none⟩) ss.length c ∧ (0 < ss.length ∧ ss.length ≤ c) ∧ StrsAt w g o ss
theorem StrsAt.below {w w' : World} {B g o : Nat} {ss : List ByteArray} (h : StrsAt w g o ss) (hb : Below B w w') (hg : g < B) : StrsAt w' g o ss :=
  ⟨Nat.lt_of_lt_of_le h.1 hb.size, fun i hi => by rw [hb.cell (p := ⟨g, o + i, none⟩) hg]; exact h.2 i hi⟩
theorem StrsAt.stay {w w' : World} {B g o : Nat} {ss : List ByteArray} (h : StrsAt w g o ss) (hb : Below B w w') (hB : w.heap.size ≤ B) : StrsAt w' g o ss := h.below hb (Nat.lt_of_lt_of_le h.1 hB)
theorem StrSl.stay {w w' : World} {B : Nat} {v : Value} {ss : List ByteArray} (h : StrSl w v ss) (hb : Below B w w') (hB : w.heap.size ≤ B) : StrSl w' v ss := by
  rcases h with h | ⟨g, o, c, hv, hn, h⟩
  · exact .inl h
  · exact .inr ⟨g, o, c, hv, hn, h.stay hb hB⟩
theorem StrSl.form {w : World} {v : Value} {ss : List ByteArray} (h : StrSl w v ss) : ∃ a c, v = .slice a ss.length c := by
  rcases h with ⟨a, c, rfl, rfl⟩ | ⟨g, o, c, rfl, _, _⟩
  · exact ⟨a, c, rfl⟩
  · exact ⟨_, c, rfl⟩
/-- Its first k. -/
theorem StrSl.part {w : World} {a : Option Addr} {n c k : Nat} {ss : List ByteArray} (h : StrSl w (.slice a n c) ss) (hk : k ≤ ss.length) : StrSl w (.slice a k c) (ss.take k) := by
  by_cases h0 : k = 0
  · subst h0; exact .inl ⟨a, c, rfl, by simp⟩
  · rcases h with ⟨a', c', hv, rfl⟩ | ⟨g, o, c', hv, hn, hlt, h⟩
    · simp at hk; exact absurd hk h0
    · injection hv with h1 h2 h3
      subst h1; subst h3
      refine .inr ⟨g, o, c, by rw [List.length_take, Nat.min_eq_left hk], by rw [List.length_take]; omega, hlt, fun i hi => ?_⟩
      rw [List.getElem_take]
      exact h i (by rw [List.length_take] at hi; omega)
theorem str_of_own {w : World} {base n : Nat} {e : TypeId} {v : Value} {ss : List ByteArray} (h : w.ownsRow base e 1 v n (ss.map Value.string)) : StrSl w v ss := by
  have hn : n = ss.length := by have := h.1; rw [List.length_map] at this; omega
  subst hn
  rcases h.2 with ⟨hv, h0⟩ | ⟨g, cap, cur, hv, _, _, hle, _⟩
  · exact .inl ⟨none, 0, hv, List.eq_nil_of_length_eq_zero h0⟩
  · by_cases h0 : ss.length = 0
    · exact .inl ⟨some ⟨g, 0, none⟩, cap, by rw [hv, h0], List.eq_nil_of_length_eq_zero h0⟩
    · have hlt := (h.lt g (by rw [hv]; rfl)).2
      refine .inr ⟨g, 0, cap, hv, ⟨by omega, hle⟩, hlt, fun i hi => ?_⟩
      have := h.cells (g := g) (by rw [hv]; rfl) i (.string ss[i]) (by simp [hi])
      rw [Addr.add_lit] at this
      exact this

/-- A pair of texts: a flow, a var. -/
structure Pr where
  fst : ByteArray
  snd : ByteArray
def Pr.cells (p : Pr) : List Value := [.string p.fst, .string p.snd]
structure PrAt (w : World) (g o : Nat) (p : Pr) : Prop where
  c0 : w.cell? ⟨g, o, none⟩ = some (.string p.fst)
  c1 : w.cell? ⟨g, o + 1, none⟩ = some (.string p.snd)
def PrsAt (w : World) (g o : Nat) (ps : List Pr) : Prop := g < w.heap.size ∧ ∀ i, (h : i < ps.length) → PrAt w g (o + i * 2) ps[i]
def PrSl (w : World) (v : Value) (ps : List Pr) : Prop :=
  (∃ a c, v = .slice a 0 c ∧ ps = []) ∨ ∃ g o c, v = .slice (some ⟨g, o, none⟩) ps.length c ∧ (0 < ps.length ∧ ps.length ≤ c) ∧ PrsAt w g o ps
theorem PrAt.below {w w' : World} {B g o : Nat} {p : Pr} (h : PrAt w g o p) (hb : Below B w w') (hg : g < B) : PrAt w' g o p :=
  ⟨by rw [hb.cell (p := ⟨g, o, none⟩) hg]; exact h.c0, by rw [hb.cell (p := ⟨g, o + 1, none⟩) hg]; exact h.c1⟩
theorem PrsAt.stay {w w' : World} {B g o : Nat} {ps : List Pr} (h : PrsAt w g o ps) (hb : Below B w w') (hB : w.heap.size ≤ B) : PrsAt w' g o ps :=
  ⟨Nat.lt_of_lt_of_le h.1 hb.size, fun i hi => (h.2 i hi).below hb (Nat.lt_of_lt_of_le h.1 hB)⟩
theorem PrSl.stay {w w' : World} {B : Nat} {v : Value} {ps : List Pr} (h : PrSl w v ps) (hb : Below B w w') (hB : w.heap.size ≤ B) : PrSl w' v ps := by
  rcases h with h | ⟨g, o, c, hv, hn, h⟩
  · exact .inl h
  · exact .inr ⟨g, o, c, hv, hn, h.stay hb hB⟩
theorem PrSl.form {w : World} {v : Value} {ps : List Pr} (h : PrSl w v ps) : ∃ a c, v = .slice a ps.length c := by
  rcases h with ⟨a, c, rfl, rfl⟩ | ⟨g, o, c, rfl, _, _⟩
  · exact ⟨a, c, rfl⟩
  · exact ⟨_, c, rfl⟩
theorem PrSl.part {w : World} {a : Option Addr} {n c k : Nat} {ps : List Pr} (h : PrSl w (.slice a n c) ps) (hk : k ≤ ps.length) : PrSl w (.slice a k c) (ps.take k) := by
  by_cases h0 : k = 0
  · subst h0; exact .inl ⟨a, c, rfl, by simp⟩
  · rcases h with ⟨a', c', hv, rfl⟩ | ⟨g, o, c', hv, hn, hlt, h⟩
    · simp at hk; exact absurd hk h0
    · injection hv with h1 h2 h3
      subst h1; subst h3
      refine .inr ⟨g, o, c, by rw [List.length_take, Nat.min_eq_left hk], by rw [List.length_take]; omega, hlt, fun i hi => ?_⟩
      rw [List.getElem_take]
      exact h i (by rw [List.length_take] at hi; omega)
theorem StrSl.cap {w : World} {a : Option Addr} {n c : Nat} {ss : List ByteArray} (h : StrSl w (.slice a n c) ss) : ss.length ≤ c := by
  rcases h with ⟨_, _, _, rfl⟩ | ⟨_, _, _, hv, hn, _⟩
  · exact Nat.zero_le _
  · injection hv with _ _ h3; rw [h3]; exact hn.2
theorem PrSl.cap {w : World} {a : Option Addr} {n c : Nat} {ps : List Pr} (h : PrSl w (.slice a n c) ps) : ps.length ≤ c := by
  rcases h with ⟨_, _, _, rfl⟩ | ⟨_, _, _, hv, hn, _⟩
  · exact Nat.zero_le _
  · injection hv with _ _ h3; rw [h3]; exact hn.2
theorem StrSl.row {w : World} {a : Option Addr} {n c : Nat} {ss : List ByteArray} (h : StrSl w (.slice a n c) ss) (h0 : 0 < ss.length) : ∃ g o, a = some ⟨g, o, none⟩ ∧ StrsAt w g o ss := by
  rcases h with ⟨_, _, _, rfl⟩ | ⟨g, o, _, hv, _, h⟩
  · simp at h0
  · injection hv with h1 _ _; exact ⟨g, o, h1, h⟩
theorem PrSl.row {w : World} {a : Option Addr} {n c : Nat} {ps : List Pr} (h : PrSl w (.slice a n c) ps) (h0 : 0 < ps.length) : ∃ g o, a = some ⟨g, o, none⟩ ∧ PrsAt w g o ps := by
  rcases h with ⟨_, _, _, rfl⟩ | ⟨g, o, _, hv, _, h⟩
  · simp at h0
  · injection hv with h1 _ _; exact ⟨g, o, h1, h⟩
theorem pflat_at : ∀ (ps : List Pr) (i j : Nat), (h : i < ps.length) → j < 2 → (ps.flatMap Pr.cells)[i * 2 + j]? = ps[i].cells[j]?
  | [], i, _, h, _ => absurd h (by simp)
  | p :: r, 0, j, _, hj => by
    rw [List.flatMap_cons, List.getElem?_append_left (by simp [Pr.cells]; omega)]; simp
  | p :: r, i + 1, j, h, hj => by
    rw [List.flatMap_cons, List.getElem?_append_right (by simp [Pr.cells]; omega), show (i + 1) * 2 + j - p.cells.length = i * 2 + j by simp [Pr.cells]; omega]
    rw [pflat_at r i j (by simpa using h) hj]; simp
theorem pflat_len (ps : List Pr) : (ps.flatMap Pr.cells).length = ps.length * 2 := by
  induction ps with
  | nil => rfl
  | cons p r ih => rw [List.flatMap_cons, List.length_append, ih]; simp [Pr.cells]; omega
theorem pr_of_own {w : World} {base n : Nat} {e : TypeId} {v : Value} {ps : List Pr} (h : w.ownsRow base e 2 v n (ps.flatMap Pr.cells)) : PrSl w v ps := by
  have hn : n = ps.length := by have := h.1; rw [pflat_len] at this; omega
  subst hn
  rcases h.2 with ⟨hv, h0⟩ | ⟨g, cap, cur, hv, _, _, hle, _⟩
  · exact .inl ⟨none, 0, hv, List.eq_nil_of_length_eq_zero h0⟩
  · by_cases h0 : ps.length = 0
    · exact .inl ⟨some ⟨g, 0, none⟩, cap, by rw [hv, h0], List.eq_nil_of_length_eq_zero h0⟩
    · have hlt := (h.lt g (by rw [hv]; rfl)).2
      refine .inr ⟨g, 0, cap, hv, ⟨by omega, hle⟩, hlt, fun i hi => ?_⟩
      have key : ∀ j, j < 2 → ∀ u, ps[i].cells[j]? = some u → w.cell? ⟨g, 0 + i * 2 + j, none⟩ = some u := fun j hj u hu => by
        have := h.cells (g := g) (by rw [hv]; rfl) (i * 2 + j) u (by rw [pflat_at ps i j hi hj]; exact hu)
        rw [Addr.add_lit] at this
        simpa [Nat.add_assoc] using this
      exact ⟨key 0 (by decide) _ rfl, key 1 (by decide) _ rfl⟩
/-- One more. -/
theorem pflat_snoc (l : List Pr) (e : Pr) : (l ++ [e]).flatMap Pr.cells = l.flatMap Pr.cells ++ e.cells := by simp
end Go.Proofs.YtimlnbfalnkmhaaGreatDoor
