/-
  Texts put together: DuL, SrcA, SrcL, SrcD, OwnRw, DrDf.
-/
import Derived.Test.YthggcdadipjiiaaGreatDoorZImSO4
import Derived.Test.YthggcdadipjiiaaGreatDoorZDuG2
import Derived.Test.YthggcdadipjiiaaGreatDoorZItsC2
import Derived.Test.YthggcdadipjiiaaGreatDoorZEvC6
import Derived.Lib.QuietBelow
import Derived.Test.YthggcdadipjiiaaGreatDoorZGen4
import Derived.RegionTactic
import Derived.OwnWalk
import Derived.Test.YthggcdadipjiiaaGreatDoorZSpDo24
import Derived.Test.YthggcdadipjiiaaGreatDoorZDfV3
/-
  What laws.eqDur, eqDurS, markDurS and heldDurS answer: contracts over the seat's program.
-/
namespace Go.Proofs.YthggcdadipjiiaaGreatDoor
open Go.RowKit Go.Sort

theorem RowL.durs {w : World} {base : Nat} {e : TypeId} {v : Value} {l : List Dur} (h : RowL w base e 5 v l.length (dflat l)) : (l = [] ∧ ∃ a c, v = .slice a 0 c) ∨ (0 < l.length ∧ ∃ g c, v = .slice (some ⟨g, 0, none⟩) l.length c ∧ DursAt w g 0 l) := by
  by_cases h0 : 0 < l.length
  · obtain ⟨g, cap, L, rfl, _, hh, hL, ht⟩ := h.2.2 h0
    refine .inr ⟨h0, g, cap, rfl, lt_heap hh, fun j u hj => ?_⟩
    rw [Nat.zero_add, Lib.cell_of_heap hh]
    rw [← ht, List.getElem?_take] at hj
    split at hj
    · simpa using hj
    · cases hj
  · obtain ⟨a, c, rfl⟩ := h.2.1
    obtain rfl : l = [] := List.eq_nil_of_length_eq_zero (by omega)
    exact .inl ⟨rfl, a, c, rfl⟩
/-- What bears the marks from a number on. -/
def mkDu (k : Int) : Dur := ⟨markT k, k + 1, k + 1 + 1, k + 1 + 1 + 1, k + 1 + 1 + 1 + 1⟩
def marksD (k : Int) (n : Nat) : List Dur := (List.range n).map fun i : Nat => mkDu (k + 5 * (i : Int))
end Go.Proofs.YthggcdadipjiiaaGreatDoor

/-
  Draws: what (*spec.l01Src).n, one, pick and edge answer: contracts over the seat's program.
-/
namespace Go.Proofs.YthggcdadipjiiaaGreatDoor
open Go.RowKit

theorem Bs.stay {w w' : World} {V : Value} {n b : Nat} (h : Bs w V n) (hg : w.grownBy w' (some b)) (hne : ∀ g o c, V = .slice (some ⟨g, o, none⟩) n c → 0 < n → g ≠ b) : Bs w' V n := by
  obtain ⟨a, c, rfl, hn, h⟩ := h
  refine ⟨a, c, rfl, hn, fun i hi => ?_⟩
  obtain ⟨g, o, x, rfl, hg1, hc, hx⟩ := h i hi
  have hgb : g ≠ b := hne g o c rfl (by omega)
  refine ⟨g, o, x, rfl, Nat.lt_of_lt_of_le hg1 hg.size, ?_, hx⟩
  rw [World.cell?_of_block (w := w) (a := ⟨g, o + i, none⟩) (hg.block g hg1 (by simpa using hgb))]; exact hc
/-- A source and its bytes. -/
structure Drw (w : World) (b : Nat) (V : Value) (n : Nat) : Prop where
  src : SrcAt w b V n
  bs : Bs w V n
  far : ∀ g o c, V = .slice (some ⟨g, o, none⟩) n c → 0 < n → g < b
theorem Drw.next {w w' : World} {b n : Nat} {V : Value} (h : Drw w b V n) (hs : SrcAt w' b V n) (hg : w.grownBy w' (some b)) : Drw w' b V n :=
  ⟨hs, h.bs.stay hg (fun g o c e h0 => by have := h.far g o c e h0; omega), h.far⟩
/-- Another block set, or new memory: the source stays. -/
theorem Drw.stay {w w' : World} {b n : Nat} {V : Value} {r : Option Nat} (h : Drw w b V n) (hg : w.grownBy w' r) (hr : ∀ k, r = some k → b < k) : Drw w' b V n := by
  refine ⟨h.src.of_block (hg.block b h.src.lt (fun e => by have := hr b e.symm; omega)), ?_, h.far⟩
  obtain ⟨a, c, rfl, hn, hb⟩ := h.bs
  refine ⟨a, c, rfl, hn, fun i hi => ?_⟩
  obtain ⟨g, o, x, rfl, hg1, hc, hx⟩ := hb i hi
  have hgb := h.far g o c rfl (by omega)
  refine ⟨g, o, x, rfl, Nat.lt_of_lt_of_le hg1 hg.size, ?_, hx⟩
  rw [World.cell?_of_block (w := w) (a := ⟨g, o + i, none⟩) (hg.block g hg1 (fun e => by have := hr g e.symm; omega))]; exact hc
theorem Drw.below {w w' : World} {b n : Nat} {V : Value} (h : Drw w b V n) (hb : Below w.heap.size w w') : Drw w' b V n := h.stay (r := none) (grown_below hb) (fun k hk => by cases hk)

/-- A number below most. -/
def Blw (most r : Int) : Prop := 0 ≤ r ∧ (1 < most → r < most) ∧ (most ≤ 1 → r = 0)
theorem srcN_any (b n : Nat) (V : Value) (most : Int) (w : World) (h : Drw w b V n) (h2 : most ≤ 1099511627776) :
    Calls Tryz.prog 45 #[.pointer (some ⟨b, 0, none⟩), .int .i64 most] w fun e w' => ∃ r : Int, e = .returned (.int .i64 r) ∧ Blw most r ∧ Drw w' b V n ∧ w.grownBy w' (some b) := by
  by_cases h1 : 1 < most
  · obtain ⟨at', mix, size, hat, hm0, hm1, hsz, hb⟩ := h.src
    obtain ⟨a, c, rfl, hn, hbs⟩ := h.bs
    by_cases hlt : at' < n
    · obtain ⟨g, o, x, rfl, _, hc, hx0, hx1⟩ := hbs at' hlt
      refine (srcN_some b n at' g o c mix size most x w hn h1 h2 hsz hb hlt hc hx0 hx1).mono ?_
      rintro e w' ⟨r, rfl, r0, r1, hs, hg⟩
      exact ⟨r, rfl, ⟨r0, fun _ => r1, fun x => by omega⟩, h.next hs hg, hg⟩
    · refine (srcN_none b n at' a c mix size most w hat h1 h2 hsz hb (by omega)).mono ?_
      rintro e w' ⟨r, rfl, r0, r1, hs, hg⟩
      exact ⟨r, rfl, ⟨r0, fun _ => r1, fun x => by omega⟩, h.next hs hg, hg⟩
  · have H := hid h
    clear h
    go_enter Tryz.func45, Tryz.ntmps45
    go_wp2
    go_ret
    exact ⟨0, rfl, ⟨by decide, fun x => by omega, fun _ => rfl⟩, H.out, World.grownBy.refl _ _⟩
theorem one_any (b n : Nat) (V : Value) (most : Int) (w : World) (h : Drw w b V n) (h2 : most ≤ 1099511627776) :
    Calls Tryz.prog 52 #[.pointer (some ⟨b, 0, none⟩), .int .i64 most] w fun e w' => ∃ r : Bool, e = .returned (.bool r) ∧ Drw w' b V n ∧ w.grownBy w' (some b) := by
  have c1 := hid (srcN_any b n V most w h h2)
  clear h
  go_enter Tryz.func52, Tryz.ntmps52
  go_wp2_with fail
  refine c1.out.mono ?_
  rintro e w1 ⟨r, rfl, _, hd, hg⟩
  have HD := hid hd
  have HG := hid hg
  clear hd hg
  go_wp2
  go_ret
  exact ⟨_, rfl, HD.out, HG.out⟩
end Go.Proofs.YthggcdadipjiiaaGreatDoor

/-
  A cell of a row that is laid; an int64. Of no function.
-/
namespace Go.Proofs.YthggcdadipjiiaaGreatDoor
open Go.RowKit

/-- An int64. -/
def InI (r : Int) : Prop := -9223372036854775808 ≤ r ∧ r ≤ 9223372036854775807
end Go.Proofs.YthggcdadipjiiaaGreatDoor

/-
  Draws: what spec.l01Source answers: a contract over the seat's program.
-/
namespace Go.Proofs.YthggcdadipjiiaaGreatDoor
open Go.RowKit

theorem wrap_bd (a : Int) : 0 ≤ IntKind.u64.wrap a ∧ IntKind.u64.wrap a ≤ 18446744073709551615 := by
  rw [IntKind.wrap_u64]
  omega
set_option maxHeartbeats 1000000 in
set_option maxRecDepth 100000 in
theorem source_any (V : Value) (n : Nat) (w : World) (h : Bs w V n) :
    Calls Tryz.prog 19 #[V] w fun e w' => ∃ b : Nat, e = .returned (.pointer (some ⟨b, 0, none⟩)) ∧ w.heap.size ≤ b ∧ Drw w' b V n ∧ Below w.heap.size w w' := by
  obtain ⟨a, c, rfl, hn, hbs⟩ := h
  have HBS := hid hbs
  clear hbs
  go_enter Tryz.func19, Tryz.ntmps19
  go_wp2
  go_loopw [4] (fun i wr => ∃ (k : Nat) (mix : Int), k ≤ n ∧ i = .int .i64 k ∧ 0 ≤ mix ∧ mix ≤ 18446744073709551615 ∧ wr.heap[w.heap.size]? = some (.cells [.slice a n c, .int .i64 0, .int .u64 mix, .int .i64 0].toArray 85 (0, 0)) ∧ Below w.heap.size w wr) (fun i _ => n - (intOf i).toNat)
  case atStart => exact ⟨0, 88172645463325252, Nat.zero_le _, rfl, by decide, by decide, heap_alloc_new w _, (Below.refl _ _).alloc (Nat.le_refl _) _⟩
  case round =>
    obtain ⟨k, mix, hk, rfl, hm0, hm1, hb, hbel⟩ := hrel
    have HB := hid hb
    by_cases hlt : k < n ∧ k < 64
    · obtain ⟨hl1, hl2⟩ := hlt
      obtain ⟨g, o, x, rfl, hg, hc, hx0, hx1⟩ := HBS.out k hl1
      have hc' : wr.cell? ⟨g, o + k, none⟩ = some (.int .u8 x) := by rw [hbel.cell (p := ⟨g, o + k, none⟩) hg]; exact hc
      have e2 : wr.cell? ⟨w.heap.size, 2, none⟩ = some (.int .u64 mix) := by rw [Lib.cell_of_heap hb]; rfl
      have f2 : wr.frozen? ⟨w.heap.size, 2, none⟩ = false := Lib.frozen_of_heap hb 2
      clear hb hc
      go_wp2
      go_region
      have bw := wrap_bd (bits .xor .u64 mix x * 1099511628211)
      generalize IntKind.u64.wrap (bits .xor .u64 mix x * 1099511628211) = m1 at *
      have HB1 : Hid ((wr.setCell ⟨w.heap.size, 2, none⟩ (.int .u64 m1)).drew.heap[w.heap.size]? = some (.cells [.slice (some ⟨g, o, none⟩) n c, .int .i64 0, .int .u64 m1, .int .i64 0].toArray 85 (0, 0))) := blk_set (i := 2) HB.out (.int .u64 m1)
      have hbel1 : Below w.heap.size w (wr.setCell ⟨w.heap.size, 2, none⟩ (.int .u64 m1)).drew := (hbel.setCell (p := ⟨w.heap.size, 2, none⟩) (Nat.le_refl _) _).drew
      generalize (wr.setCell ⟨w.heap.size, 2, none⟩ (.int .u64 m1)).drew = w1 at *
      clear hc' e2 f2 HB
      go_wp2
      go_roundw
      case rel => exact ⟨k + 1, m1, by omega, by go_num, bw.1, bw.2, HB1.out, hbel1⟩
      case measure => simp [intOf]; omega
    · have HFar : Hid (∀ g o c', Value.slice a n c = .slice (some ⟨g, o, none⟩) n c' → 0 < n → g < w.heap.size) := by
        show ∀ g o c', _
        intro g o c' e h0
        obtain ⟨g', o', x, e', hg, _⟩ := HBS.out 0 h0
        rw [e'] at e
        injection e with e1
        injection e1 with e1
        injection e1 with e1
        omega
      have hz : w.heap.size < wr.heap.size := lt_heap hb
      have e3 : wr.cell? ⟨w.heap.size, 3, none⟩ = some (.int .i64 0) := by rw [Lib.cell_of_heap hb]; rfl
      have f3 : wr.frozen? ⟨w.heap.size, 3, none⟩ = false := Lib.frozen_of_heap hb 3
      have fin : Hid (∀ (w' : World) (size : Int), Siz size → w'.heap[w.heap.size]? = some (.cells [.slice a n c, .int .i64 0, .int .u64 mix, .int .i64 size].toArray 85 (0, 0)) → Below w.heap.size w w' → Drw w' w.heap.size (.slice a n c) n) := by
        show ∀ (w' : World) (size : Int), _
        intro w' size hsz h1 h2
        refine ⟨⟨0, mix, size, Nat.zero_le _, hm0, hm1, hsz, h1⟩, ⟨a, c, rfl, hn, fun i hi => ?_⟩, HFar.out⟩
        obtain ⟨g, o, x, rfl, hg, hc, hx⟩ := HBS.out i hi
        exact ⟨g, o, x, rfl, Nat.lt_of_lt_of_le hg h2.size, by rw [h2.cell (p := ⟨g, o + i, none⟩) hg]; exact hc, hx⟩
      clear hb HFar
      have hor : n ≤ k ∨ (k < n ∧ 64 ≤ k) := by omega
      rcases hor with h1 | ⟨h1, h3⟩
      all_goals
        by_cases hbig : (12 : Int) < (n : Int) / 20
        · go_wp2
          go_ret
          refine ⟨w.heap.size, rfl, Nat.le_refl _, fin.out _ 12 ⟨by decide, by decide⟩ (blk_set (i := 3) (blk_set (i := 3) HB.out _) _) ?_, ?_⟩
          all_goals exact (hbel.setCell (p := ⟨w.heap.size, 3, none⟩) (Nat.le_refl _) _).setCell (p := ⟨w.heap.size, 3, none⟩) (Nat.le_refl _) _
        · go_wp2
          go_ret
          refine ⟨w.heap.size, rfl, Nat.le_refl _, fin.out _ _ ⟨by omega, by omega⟩ (blk_set (i := 3) HB.out _) ?_, ?_⟩
          all_goals exact hbel.setCell (p := ⟨w.heap.size, 3, none⟩) (Nat.le_refl _) _
end Go.Proofs.YthggcdadipjiiaaGreatDoor
namespace Go.Proofs.YthggcdadipjiiaaGreatDoor
open Go.RowKit

end Go.Proofs.YthggcdadipjiiaaGreatDoor

/-
  Rows of one's own where one block turns. Of no function.
-/
namespace Go.Proofs.YthggcdadipjiiaaGreatDoor
open Go.RowKit

theorem own_kept {w w' : World} {base size n b : Nat} {e : TypeId} {v : Value} {xs : List Value} (h : w.ownsRow base e size v n xs) (hb : b < base) (hg : w.grownBy w' (some b)) : w'.ownsRow base e size v n xs := by
  refine h.kept hg ?_
  cases hv : v.ownBlock with
  | none => exact .inl rfl
  | some k =>
    have := (h.lt k hv).1
    exact .inr (by simp; omega)
end Go.Proofs.YthggcdadipjiiaaGreatDoor

/-
  Draws: a Def amid its draw: the source, the Def in its box, its rows. Of no function.
-/
namespace Go.Proofs.YthggcdadipjiiaaGreatDoor
open Go.RowKit

theorem Drw.chg {p : Nat → Prop} {w w' : World} {b n : Nat} {V : Value} (h : Drw w b V n) (hc : Chg p w w') (hp : ∀ k, p k → b < k) : Drw w' b V n := by
  refine ⟨h.src.of_block (hc.block b h.src.lt (fun e => by have := hp b e; omega)), ?_, h.far⟩
  obtain ⟨a, c, rfl, hn, hb⟩ := h.bs
  refine ⟨a, c, rfl, hn, fun i hi => ?_⟩
  obtain ⟨g, o, x, rfl, hg1, hx1, hx⟩ := hb i hi
  have hgb := h.far g o c rfl (by omega)
  exact ⟨g, o, x, rfl, Nat.lt_of_lt_of_le hg1 hc.size, by rw [hc.cell hg1 (fun e => by have := hp g e; omega)]; exact hx1, hx⟩
theorem grown_chg {p : Nat → Prop} {w w1 w2 : World} {r : Option Nat} (h : w.grownBy w1 r) (hc : Chg p w1 w2) (hp : ∀ k, p k → w.heap.size ≤ k) : w.grownBy w2 r :=
  ⟨hc.os.trans h.os, hc.tape.trans h.tape, hc.output.trans h.output, Nat.le_trans h.size hc.size, fun k hk hr => (hc.block k (Nat.lt_of_lt_of_le hk h.size) (fun e => by have := hp k e; omega)).trans (h.block k hk hr)⟩
/-- Short texts. -/
def ShD (ss : List ByteArray) (fs : List Pr) : Prop := (∀ s ∈ ss, s.size ≤ 1) ∧ ∀ f ∈ fs, f.fst.size ≤ 1 ∧ f.snd.size ≤ 1
/-- Amid the draw of a Def. -/
structure MdD (w W : World) (b g n : Nat) (V u1 u2 : Value) (ss : List ByteArray) (fs : List Pr) : Prop where
  dr : Drw W b V n
  hd : W.heap[g]? = some (.cells [u1, u2].toArray 26 (0, 0))
  hr : W.heap[w.heap.size]? = some (.cells [.slice none 0 0, .slice none 0 0].toArray 26 (0, 0))
  o1 : W.ownsRow (w.heap.size + 1) 9 1 u1 ss.length (ss.map Value.string)
  o2 : W.ownsRow (w.heap.size + 1) 116 2 u2 fs.length (fs.flatMap Pr.cells)
  gr : w.grownBy W (some b)
  hg : w.heap.size < g
  hb : b < w.heap.size
  sh : ShD ss fs
theorem MdD.call {w W W' : World} {b g n : Nat} {V u1 u2 : Value} {ss : List ByteArray} {fs : List Pr} (h : MdD w W b g n V u1 u2 ss fs) (hd : Drw W' b V n) (hg : W.grownBy W' (some b)) : MdD w W' b g n V u1 u2 ss fs :=
  ⟨hd, (hg.block g (lt_heap h.hd) (by simp; have := h.hg; have := h.hb; omega)).trans h.hd, (hg.block _ (lt_heap h.hr) (by simp; have := h.hb; omega)).trans h.hr, own_kept h.o1 (by have := h.hb; omega) hg, own_kept h.o2 (by have := h.hb; omega) hg, grown_trans h.gr hg, h.hg, h.hb, h.sh⟩
theorem MdD.below {w W W' : World} {b g n : Nat} {V u1 u2 : Value} {ss : List ByteArray} {fs : List Pr} (h : MdD w W b g n V u1 u2 ss fs) (hg : Below W.heap.size W W') : MdD w W' b g n V u1 u2 ss fs :=
  h.call (h.dr.below hg) (grown_below hg)
/-- Blocks that are none of its own turn. -/
theorem MdD.turn {p : Nat → Prop} {w W W' : World} {b g n : Nat} {V u1 u2 : Value} {ss : List ByteArray} {fs : List Pr} (h : MdD w W b g n V u1 u2 ss fs) (hc : Chg p W W') (hp : ∀ k, p k → w.heap.size < k ∧ k ≠ g) (h1 : ∀ k, u1.ownBlock = some k → ¬ p k) (h2 : ∀ k, u2.ownBlock = some k → ¬ p k) : MdD w W' b g n V u1 u2 ss fs :=
  ⟨h.dr.chg hc (fun k hk => by have := (hp k hk).1; have := h.hb; omega), (hc.block g (lt_heap h.hd) (fun e => (hp g e).2 rfl)).trans h.hd, (hc.block _ (lt_heap h.hr) (fun e => by have := (hp _ e).1; omega)).trans h.hr, own_chg h.o1 hc h1, own_chg h.o2 hc h2, grown_chg h.gr hc (fun k hk => by have := (hp k hk).1; omega), h.hg, h.hb, h.sh⟩
/-- Its steps are laid anew. -/
theorem MdD.set1 {w W W' : World} {b g n : Nat} {V u1 u2 v : Value} {ss ss' : List ByteArray} {fs : List Pr} (h : MdD w W b g n V u1 u2 ss fs) (hc : Chg (fun j => u1.ownBlock = some j) W W') (ho : W'.ownsRow (w.heap.size + 1) 9 1 v ss'.length (ss'.map Value.string)) (hs : ∀ s ∈ ss', s.size ≤ 1) : MdD w (W'.setCell ⟨g, 0, none⟩ v) b g n V v u2 ss' fs := by
  have hd' := (hc.block g (lt_heap h.hd) (fun e => own_ne h.o1 h.hd (by decide) g e rfl)).trans h.hd
  have hr' := (hc.block _ (lt_heap h.hr) (fun e => own_ne h.o1 h.hr (by decide) _ e rfl)).trans h.hr
  have o2' := own_chg h.o2 hc (fun k hk e => apart_ty h.o1 h.o2 (by decide) k e hk)
  have hc2 : Chg (fun j => j = g) W' (W'.setCell ⟨g, 0, none⟩ v) := Chg.of_grown (grown_set W' g 0 v) rfl
  refine ⟨(h.dr.chg hc (fun k hk => by have := (own_lt h.o1 k hk).1; have := h.hb; omega)).chg hc2 (fun k hk => by subst hk; have := h.hg; have := h.hb; omega), blk_set (i := 0) hd' v, (hc2.block _ (lt_heap hr') (fun e => by have := h.hg; omega)).trans hr', own_chg ho hc2 (own_ne ho hd' (by decide)), own_chg o2' hc2 (own_ne o2' hd' (by decide)), grown_chg (grown_chg h.gr hc (fun k hk => by have := (own_lt h.o1 k hk).1; omega)) hc2 (fun k hk => by subst hk; have := h.hg; omega), h.hg, h.hb, ⟨hs, h.sh.2⟩⟩
/-- Its flows are laid anew. -/
theorem MdD.set2 {w W W' : World} {b g n : Nat} {V u1 u2 v : Value} {ss : List ByteArray} {fs fs' : List Pr} (h : MdD w W b g n V u1 u2 ss fs) (hc : Chg (fun j => u2.ownBlock = some j) W W') (ho : W'.ownsRow (w.heap.size + 1) 116 2 v fs'.length (fs'.flatMap Pr.cells)) (hs : ∀ f ∈ fs', f.fst.size ≤ 1 ∧ f.snd.size ≤ 1) : MdD w (W'.setCell ⟨g, 1, none⟩ v) b g n V u1 v ss fs' := by
  have hd' := (hc.block g (lt_heap h.hd) (fun e => own_ne h.o2 h.hd (by decide) g e rfl)).trans h.hd
  have hr' := (hc.block _ (lt_heap h.hr) (fun e => own_ne h.o2 h.hr (by decide) _ e rfl)).trans h.hr
  have o1' := own_chg h.o1 hc (fun k hk e => apart_ty h.o1 h.o2 (by decide) k hk e)
  have hc2 : Chg (fun j => j = g) W' (W'.setCell ⟨g, 1, none⟩ v) := Chg.of_grown (grown_set W' g 1 v) rfl
  refine ⟨(h.dr.chg hc (fun k hk => by have := (own_lt h.o2 k hk).1; have := h.hb; omega)).chg hc2 (fun k hk => by subst hk; have := h.hg; have := h.hb; omega), blk_set (i := 1) hd' v, (hc2.block _ (lt_heap hr') (fun e => by have := h.hg; omega)).trans hr', own_chg o1' hc2 (own_ne o1' hd' (by decide)), own_chg ho hc2 (own_ne ho hd' (by decide)), grown_chg (grown_chg h.gr hc (fun k hk => by have := (own_lt h.o2 k hk).1; omega)) hc2 (fun k hk => by subst hk; have := h.hg; omega), h.hg, h.hb, ⟨h.sh.1, hs⟩⟩
theorem own_some {w : World} {base size n c : Nat} {e : TypeId} {a : Option Addr} {xs : List Value} (h : w.ownsRow base e size (.slice a n c) n xs) (h0 : 0 < n) : ∃ g, a = some ⟨g, 0, none⟩ := by
  rcases h.2 with ⟨hv, rfl⟩ | ⟨g, cap, cur, hv, _⟩
  · omega
  · injection hv with hv; exact ⟨g, hv⟩
theorem MdD.cells {w W : World} {b g n : Nat} {V u1 u2 : Value} {ss : List ByteArray} {fs : List Pr} (h : MdD w W b g n V u1 u2 ss fs) : W.cell? ⟨g, 0, none⟩ = some u1 ∧ W.cell? ⟨g, 1, none⟩ = some u2 :=
  ⟨by rw [Lib.cell_of_heap h.hd]; rfl, by rw [Lib.cell_of_heap h.hd]; rfl⟩
/-- A Def that was drawn: its rows are the call's own. -/
structure DfDr (w W : World) (b n : Nat) (V u1 u2 : Value) (ss : List ByteArray) (fs : List Pr) : Prop where
  dr : Drw W b V n
  o1 : W.ownsRow w.heap.size 9 1 u1 ss.length (ss.map Value.string)
  o2 : W.ownsRow w.heap.size 116 2 u2 fs.length (fs.flatMap Pr.cells)
  gr : w.grownBy W (some b)
  len : ss.length ≤ 5 ∧ fs.length ≤ 10
  sh : ShD ss fs
/-- The end: the Def laid into the answer's block. -/
theorem MdD.fin {w W : World} {b g n : Nat} {V u1 u2 : Value} {ss : List ByteArray} {fs : List Pr} (h : MdD w W b g n V u1 u2 ss fs) (hl : ss.length ≤ 5 ∧ fs.length ≤ 10) (x1 x2 : Value) : DfDr w ((W.setCell ⟨w.heap.size, 0, none⟩ x1).setCell ⟨w.heap.size, 1, none⟩ x2) b n V u1 u2 ss fs := by
  have hc : Chg (fun j => j = w.heap.size) W ((W.setCell ⟨w.heap.size, 0, none⟩ x1).setCell ⟨w.heap.size, 1, none⟩ x2) := (Chg.of_grown (p := fun j => j = w.heap.size) (grown_set W w.heap.size 0 x1) rfl).trans (Chg.of_grown (grown_set _ w.heap.size 1 x2) rfl)
  exact ⟨h.dr.chg hc (fun k hk => by subst hk; exact h.hb), ownB_le (own_chg h.o1 hc (own_ne h.o1 h.hr (by decide))) (by omega), ownB_le (own_chg h.o2 hc (own_ne h.o2 h.hr (by decide))) (by omega), grown_chg h.gr hc (fun k hk => by omega), hl, h.sh⟩
end Go.Proofs.YthggcdadipjiiaaGreatDoor
