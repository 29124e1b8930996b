/-
  Texts put together: OwnB, OwnC, OwnRw, PrSum, DfV, DrDf, Nm.
-/
import Derived.Test.YtdggmeblnbabbaaGreatDoorZBsIn6
import Derived.Test.YtdggmeblnbabbaaGreatDoorZGen3
import Derived.OwnWalk
import Derived.BigQuiet
import Derived.Deep.QuietTactic
/-
  A row of one's own: it stays, its base may be lower, its forms. Of no function.
-/
namespace Go.Proofs.YtdggmeblnbabbaaGreatDoor
open Go.RowKit

theorem Tryz.infoStr : (Tryz.prog.info? 9).map (fun i => (i.zero, i.size, i.bytes)) = some (some (.string ⟨#[]⟩), 1, 16) := by kernel_rfl
theorem ownB_stay {w w' : World} {base size n : Nat} {e : TypeId} {v : Value} {xs : List Value} (h : w.ownsRow base e size v n xs) (hb : Below w.heap.size w w') : w'.ownsRow base e size v n xs :=
  h.kept (grown_below (r := none) hb) (by cases v.ownBlock with
    | none => exact .inl rfl
    | some k => exact .inr (by simp))
theorem ownB_le {w : World} {base base' size n : Nat} {e : TypeId} {v : Value} {xs : List Value} (h : w.ownsRow base e size v n xs) (hb : base' ≤ base) : w.ownsRow base' e size v n xs :=
  ⟨h.1, h.2.imp id (fun ⟨g, cap, cur, a, b, c⟩ => ⟨g, cap, cur, a, Nat.le_trans hb b, c⟩)⟩
theorem ownB_form {w : World} {base size n : Nat} {e : TypeId} {v : Value} {xs : List Value} (h : w.ownsRow base e size v n xs) : ∃ a c, v = .slice a n c := by
  rcases h.2 with ⟨h0, rfl⟩ | ⟨g, cap, _, hv, _⟩
  · exact ⟨none, 0, h0⟩
  · exact ⟨_, cap, hv⟩
end Go.Proofs.YtdggmeblnbabbaaGreatDoor

/-
  Rows of one's own where other blocks turn. Of no function.
-/
namespace Go.Proofs.YtdggmeblnbabbaaGreatDoor
open Go.RowKit

/-- A row of one's own lies in no block of another type. -/
theorem own_ne {w : World} {base size n B : Nat} {e t : TypeId} {v : Value} {xs : List Value} {c : Array Value} {f : Nat × Nat} (h : w.ownsRow base e size v n xs) (hB : w.heap[B]? = some (.cells c t f)) (hne : e ≠ t) : ∀ g, v.ownBlock = some g → g ≠ B := by
  intro g hg he
  subst he
  rcases h.2 with ⟨hv, _⟩ | ⟨g', cap, cur, hv, _, hh, _⟩
  · rw [hv] at hg; cases hg
  · rw [hv] at hg
    injection hg with hg
    subst hg
    rw [hB] at hh
    injection hh with hh
    injection hh with _ h2 _
    exact hne h2.symm
/-- It stays where its block does. -/
theorem own_chg {p : Nat → Prop} {w w' : World} {base size n : Nat} {e : TypeId} {v : Value} {xs : List Value} (h : w.ownsRow base e size v n xs) (hc : Chg p w w') (hp : ∀ g, v.ownBlock = some g → ¬ p g) : w'.ownsRow base e size v n xs := by
  refine ⟨h.1, ?_⟩
  rcases h.2 with h0 | ⟨g, cap, cur, hv, hb, hh, r⟩
  · exact .inl h0
  · exact .inr ⟨g, cap, cur, hv, hb, (hc.block g (lt_heap hh) (hp g (by rw [hv]; rfl))).trans hh, r⟩
theorem own_lt {w : World} {base size n : Nat} {e : TypeId} {v : Value} {xs : List Value} (h : w.ownsRow base e size v n xs) : ∀ g, v.ownBlock = some g → base ≤ g ∧ g < w.heap.size := fun g hg => h.lt g hg
/-- Two rows in two blocks. -/
def Apart (v u : Value) : Prop := ∀ g, v.ownBlock = some g → u.ownBlock ≠ some g
theorem Apart.symm {v u : Value} (h : Apart v u) : Apart u v := fun g hg he => h g he hg
theorem apart_of {w : World} {b1 b2 s1 s2 n1 n2 m : Nat} {e1 e2 : TypeId} {v u : Value} {xs ys : List Value} {w' : World} (h : w.ownsRow b1 e1 s1 v n1 xs) (h' : w'.ownsRow b2 e2 s2 u n2 ys) (hm : w.heap.size ≤ m) (hb : m ≤ b2) : Apart v u := fun g hg he => by
  have := (h.lt g hg).2
  have := (h'.lt g he).1
  omega
/-- Rows of two types lie apart. -/
theorem apart_ty {w : World} {b1 b2 s1 s2 n1 n2 : Nat} {e1 e2 : TypeId} {v u : Value} {xs ys : List Value} (h : w.ownsRow b1 e1 s1 v n1 xs) (h' : w.ownsRow b2 e2 s2 u n2 ys) (hne : e1 ≠ e2) : Apart v u := fun g hg he => by
  rcases h'.2 with ⟨hv, _⟩ | ⟨g', cap, cur, hv, _, hh, _⟩
  · rw [hv] at he; cases he
  · rw [hv] at he
    injection he with he
    subst he
    exact own_ne h hh hne g' hg rfl
end Go.Proofs.YtdggmeblnbabbaaGreatDoor

/-
  Rows of one's own where one block turns. Of no function.
-/
namespace Go.Proofs.YtdggmeblnbabbaaGreatDoor
open Go.RowKit

theorem own_kept {w w' : World} {base size n b : Nat} {e : TypeId} {v : Value} {xs : List Value} (h : w.ownsRow base e size v n xs) (hb : b < base) (hg : w.grownBy w' (some b)) : w'.ownsRow base e size v n xs := by
  refine h.kept hg ?_
  cases hv : v.ownBlock with
  | none => exact .inl rfl
  | some k =>
    have := (h.lt k hv).1
    exact .inr (by simp; omega)
end Go.Proofs.YtdggmeblnbabbaaGreatDoor

/-
  How much pairs of texts take. Of no function.
-/
namespace Go.Proofs.YtdggmeblnbabbaaGreatDoor
open Go.RowKit

def sumP : List Pr → Nat
  | [] => 0
  | e :: r => e.fst.size + e.snd.size + sumP r
def FitP (es : List Pr) : Prop := ∀ i, (h : i < es.length) → es[i].fst.size ≤ maxLen ∧ es[i].snd.size ≤ maxLen
def szP (left : Int) (es : List Pr) : Int := if (es.length : Int) + (sumP es : Int) ≤ left then left - (es.length : Int) - (sumP es : Int) else -1
end Go.Proofs.YtdggmeblnbabbaaGreatDoor

/-
  What a Def holds. Of no function.
-/
namespace Go.Proofs.YtdggmeblnbabbaaGreatDoor
open Go.RowKit

abbrev defV (a1 a2 : Option Addr) (k1 k2 : Nat) (ss : List ByteArray) (fs : List Pr) : Value := .agg #[.slice a1 ss.length k1, .slice a2 fs.length k2]
/-- What a Def's rows, a State's rows hold. -/
structure DefSl (w : World) (a1 a2 : Option Addr) (k1 k2 : Nat) (ss : List ByteArray) (fs : List Pr) : Prop where
  h1 : StrSl w (.slice a1 ss.length k1) ss
  h2 : PrSl w (.slice a2 fs.length k2) fs
  l1 : ∀ g o, a1 = some ⟨g, o, none⟩ → g < w.heap.size
  l2 : ∀ g o, a2 = some ⟨g, o, none⟩ → g < w.heap.size
theorem DefSl.stay {w w' : World} {a1 a2 : Option Addr} {k1 k2 : Nat} {ss : List ByteArray} {fs : List Pr} (h : DefSl w a1 a2 k1 k2 ss fs) (hb : Below w.heap.size w w') : DefSl w' a1 a2 k1 k2 ss fs := ⟨h.h1.stay hb (Nat.le_refl _), h.h2.stay hb (Nat.le_refl _), fun g o e => Nat.lt_of_lt_of_le (h.l1 g o e) hb.size, fun g o e => Nat.lt_of_lt_of_le (h.l2 g o e) hb.size⟩
end Go.Proofs.YtdggmeblnbabbaaGreatDoor

/-
  Draws: a Def amid its draw: the source, the Def in its box, its rows. Of no function.
-/
namespace Go.Proofs.YtdggmeblnbabbaaGreatDoor
open Go.RowKit

theorem Drw.chg {p : Nat → Prop} {w w' : World} {b n : Nat} {V : Value} (h : Drw w b V n) (hc : Chg p w w') (hp : ∀ k, p k → b < k) : Drw w' b V n := by
  refine ⟨h.src.of_block (hc.block b h.src.lt (fun e => by have := hp b e; omega)), ?_, h.far⟩
  obtain ⟨a, c, rfl, hn, hb⟩ := h.bs
  refine ⟨a, c, rfl, hn, fun i hi => ?_⟩
  obtain ⟨g, o, x, rfl, hg1, hx1, hx⟩ := hb i hi
  have hgb := h.far g o c rfl (by omega)
  exact ⟨g, o, x, rfl, Nat.lt_of_lt_of_le hg1 hc.size, by rw [hc.cell hg1 (fun e => by have := hp g e; omega)]; exact hx1, hx⟩
theorem grown_chg {p : Nat → Prop} {w w1 w2 : World} {r : Option Nat} (h : w.grownBy w1 r) (hc : Chg p w1 w2) (hp : ∀ k, p k → w.heap.size ≤ k) : w.grownBy w2 r :=
  ⟨hc.os.trans h.os, hc.tape.trans h.tape, hc.output.trans h.output, Nat.le_trans h.size hc.size, fun k hk hr => (hc.block k (Nat.lt_of_lt_of_le hk h.size) (fun e => by have := hp k e; omega)).trans (h.block k hk hr)⟩
/-- Short texts. -/
def ShD (ss : List ByteArray) (fs : List Pr) : Prop := (∀ s ∈ ss, s.size ≤ 1) ∧ ∀ f ∈ fs, f.fst.size ≤ 1 ∧ f.snd.size ≤ 1
/-- Amid the draw of a Def. -/
structure MdD (w W : World) (b g n : Nat) (V u1 u2 : Value) (ss : List ByteArray) (fs : List Pr) : Prop where
  dr : Drw W b V n
  hd : W.heap[g]? = some (.cells [u1, u2].toArray 26 (0, 0))
  hr : W.heap[w.heap.size]? = some (.cells [.slice none 0 0, .slice none 0 0].toArray 26 (0, 0))
  o1 : W.ownsRow (w.heap.size + 1) 9 1 u1 ss.length (ss.map Value.string)
  o2 : W.ownsRow (w.heap.size + 1) 41 2 u2 fs.length (fs.flatMap Pr.cells)
  gr : w.grownBy W (some b)
  hg : w.heap.size < g
  hb : b < w.heap.size
  sh : ShD ss fs
theorem MdD.call {w W W' : World} {b g n : Nat} {V u1 u2 : Value} {ss : List ByteArray} {fs : List Pr} (h : MdD w W b g n V u1 u2 ss fs) (hd : Drw W' b V n) (hg : W.grownBy W' (some b)) : MdD w W' b g n V u1 u2 ss fs :=
  ⟨hd, (hg.block g (lt_heap h.hd) (by simp; have := h.hg; have := h.hb; omega)).trans h.hd, (hg.block _ (lt_heap h.hr) (by simp; have := h.hb; omega)).trans h.hr, own_kept h.o1 (by have := h.hb; omega) hg, own_kept h.o2 (by have := h.hb; omega) hg, grown_trans h.gr hg, h.hg, h.hb, h.sh⟩
theorem MdD.below {w W W' : World} {b g n : Nat} {V u1 u2 : Value} {ss : List ByteArray} {fs : List Pr} (h : MdD w W b g n V u1 u2 ss fs) (hg : Below W.heap.size W W') : MdD w W' b g n V u1 u2 ss fs :=
  h.call (h.dr.below hg) (grown_below hg)
/-- Blocks that are none of its own turn. -/
theorem MdD.turn {p : Nat → Prop} {w W W' : World} {b g n : Nat} {V u1 u2 : Value} {ss : List ByteArray} {fs : List Pr} (h : MdD w W b g n V u1 u2 ss fs) (hc : Chg p W W') (hp : ∀ k, p k → w.heap.size < k ∧ k ≠ g) (h1 : ∀ k, u1.ownBlock = some k → ¬ p k) (h2 : ∀ k, u2.ownBlock = some k → ¬ p k) : MdD w W' b g n V u1 u2 ss fs :=
  ⟨h.dr.chg hc (fun k hk => by have := (hp k hk).1; have := h.hb; omega), (hc.block g (lt_heap h.hd) (fun e => (hp g e).2 rfl)).trans h.hd, (hc.block _ (lt_heap h.hr) (fun e => by have := (hp _ e).1; omega)).trans h.hr, own_chg h.o1 hc h1, own_chg h.o2 hc h2, grown_chg h.gr hc (fun k hk => by have := (hp k hk).1; omega), h.hg, h.hb, h.sh⟩
/-- Its steps are laid anew. -/
theorem MdD.set1 {w W W' : World} {b g n : Nat} {V u1 u2 v : Value} {ss ss' : List ByteArray} {fs : List Pr} (h : MdD w W b g n V u1 u2 ss fs) (hc : Chg (fun j => u1.ownBlock = some j) W W') (ho : W'.ownsRow (w.heap.size + 1) 9 1 v ss'.length (ss'.map Value.string)) (hs : ∀ s ∈ ss', s.size ≤ 1) : MdD w (W'.setCell ⟨g, 0, none⟩ v) b g n V v u2 ss' fs := by
  have hd' := (hc.block g (lt_heap h.hd) (fun e => own_ne h.o1 h.hd (by decide) g e rfl)).trans h.hd
  have hr' := (hc.block _ (lt_heap h.hr) (fun e => own_ne h.o1 h.hr (by decide) _ e rfl)).trans h.hr
  have o2' := own_chg h.o2 hc (fun k hk e => apart_ty h.o1 h.o2 (by decide) k e hk)
  have hc2 : Chg (fun j => j = g) W' (W'.setCell ⟨g, 0, none⟩ v) := Chg.of_grown (grown_set W' g 0 v) rfl
  refine ⟨(h.dr.chg hc (fun k hk => by have := (own_lt h.o1 k hk).1; have := h.hb; omega)).chg hc2 (fun k hk => by subst hk; have := h.hg; have := h.hb; omega), blk_set (i := 0) hd' v, (hc2.block _ (lt_heap hr') (fun e => by have := h.hg; omega)).trans hr', own_chg ho hc2 (own_ne ho hd' (by decide)), own_chg o2' hc2 (own_ne o2' hd' (by decide)), grown_chg (grown_chg h.gr hc (fun k hk => by have := (own_lt h.o1 k hk).1; omega)) hc2 (fun k hk => by subst hk; have := h.hg; omega), h.hg, h.hb, ⟨hs, h.sh.2⟩⟩
/-- Its flows are laid anew. -/
theorem MdD.set2 {w W W' : World} {b g n : Nat} {V u1 u2 v : Value} {ss : List ByteArray} {fs fs' : List Pr} (h : MdD w W b g n V u1 u2 ss fs) (hc : Chg (fun j => u2.ownBlock = some j) W W') (ho : W'.ownsRow (w.heap.size + 1) 41 2 v fs'.length (fs'.flatMap Pr.cells)) (hs : ∀ f ∈ fs', f.fst.size ≤ 1 ∧ f.snd.size ≤ 1) : MdD w (W'.setCell ⟨g, 1, none⟩ v) b g n V u1 v ss fs' := by
  have hd' := (hc.block g (lt_heap h.hd) (fun e => own_ne h.o2 h.hd (by decide) g e rfl)).trans h.hd
  have hr' := (hc.block _ (lt_heap h.hr) (fun e => own_ne h.o2 h.hr (by decide) _ e rfl)).trans h.hr
  have o1' := own_chg h.o1 hc (fun k hk e => apart_ty h.o1 h.o2 (by decide) k hk e)
  have hc2 : Chg (fun j => j = g) W' (W'.setCell ⟨g, 1, none⟩ v) := Chg.of_grown (grown_set W' g 1 v) rfl
  refine ⟨(h.dr.chg hc (fun k hk => by have := (own_lt h.o2 k hk).1; have := h.hb; omega)).chg hc2 (fun k hk => by subst hk; have := h.hg; have := h.hb; omega), blk_set (i := 1) hd' v, (hc2.block _ (lt_heap hr') (fun e => by have := h.hg; omega)).trans hr', own_chg o1' hc2 (own_ne o1' hd' (by decide)), own_chg ho hc2 (own_ne ho hd' (by decide)), grown_chg (grown_chg h.gr hc (fun k hk => by have := (own_lt h.o2 k hk).1; omega)) hc2 (fun k hk => by subst hk; have := h.hg; omega), h.hg, h.hb, ⟨h.sh.1, hs⟩⟩
theorem own_some {w : World} {base size n c : Nat} {e : TypeId} {a : Option Addr} {xs : List Value} (h : w.ownsRow base e size (.slice a n c) n xs) (h0 : 0 < n) : ∃ g, a = some ⟨g, 0, none⟩ := by
  rcases h.2 with ⟨hv, rfl⟩ | ⟨g, cap, cur, hv, _⟩
  · omega
  · injection hv with hv; exact ⟨g, hv⟩
theorem MdD.cells {w W : World} {b g n : Nat} {V u1 u2 : Value} {ss : List ByteArray} {fs : List Pr} (h : MdD w W b g n V u1 u2 ss fs) : W.cell? ⟨g, 0, none⟩ = some u1 ∧ W.cell? ⟨g, 1, none⟩ = some u2 :=
  ⟨by rw [Lib.cell_of_heap h.hd]; rfl, by rw [Lib.cell_of_heap h.hd]; rfl⟩
/-- A Def that was drawn: its rows are the call's own. -/
structure DfDr (w W : World) (b n : Nat) (V u1 u2 : Value) (ss : List ByteArray) (fs : List Pr) : Prop where
  dr : Drw W b V n
  o1 : W.ownsRow w.heap.size 9 1 u1 ss.length (ss.map Value.string)
  o2 : W.ownsRow w.heap.size 41 2 u2 fs.length (fs.flatMap Pr.cells)
  gr : w.grownBy W (some b)
  len : ss.length ≤ 5 ∧ fs.length ≤ 10
  sh : ShD ss fs
/-- The end: the Def laid into the answer's block. -/
theorem MdD.fin {w W : World} {b g n : Nat} {V u1 u2 : Value} {ss : List ByteArray} {fs : List Pr} (h : MdD w W b g n V u1 u2 ss fs) (hl : ss.length ≤ 5 ∧ fs.length ≤ 10) (x1 x2 : Value) : DfDr w ((W.setCell ⟨w.heap.size, 0, none⟩ x1).setCell ⟨w.heap.size, 1, none⟩ x2) b n V u1 u2 ss fs := by
  have hc : Chg (fun j => j = w.heap.size) W ((W.setCell ⟨w.heap.size, 0, none⟩ x1).setCell ⟨w.heap.size, 1, none⟩ x2) := (Chg.of_grown (p := fun j => j = w.heap.size) (grown_set W w.heap.size 0 x1) rfl).trans (Chg.of_grown (grown_set _ w.heap.size 1 x2) rfl)
  exact ⟨h.dr.chg hc (fun k hk => by subst hk; exact h.hb), ownB_le (own_chg h.o1 hc (own_ne h.o1 h.hr (by decide))) (by omega), ownB_le (own_chg h.o2 hc (own_ne h.o2 h.hr (by decide))) (by omega), grown_chg h.gr hc (fun k hk => by omega), hl, h.sh⟩
end Go.Proofs.YtdggmeblnbabbaaGreatDoor

/-
  Names: what spec.NameRight, impl.NameRight, impl.isLetter and impl.isNameByte answer, for every text and byte: contracts over the seat's program.
-/
namespace Go.Proofs.YtdggmeblnbabbaaGreatDoor
open Go.RowKit


def letC (c : Int) : Bool := decide (97 ≤ c) && decide (c ≤ 122)
def namC (c : Int) : Bool := letC c || (decide (48 ≤ c) && decide (c ≤ 57)) || c == 95
def okC (j : Nat) (c : Int) : Bool := letC c || (decide (j ≠ 0) && namC c)
def NR (s : ByteArray) : Prop := 1 ≤ s.size ∧ s.size ≤ 20 ∧ ∀ j, (h : j < s.size) → okC j (s[j].toNat : Int) = true
def nrB (s : ByteArray) : Bool := decide (1 ≤ s.size) && (decide (s.size ≤ 20) && decide (∀ j, (h : j < s.size) → okC j (s[j].toNat : Int) = true))
theorem nr_yes {s : ByteArray} (h1 : 1 ≤ s.size) (h2 : s.size ≤ 20) (h3 : ∀ j, (h : j < s.size) → okC j (s[j].toNat : Int) = true) : nrB s = true := by
  unfold nrB; simp [h1, h2]; exact h3
theorem nr_no {s : ByteArray} (h : ¬ (1 ≤ s.size ∧ s.size ≤ 20)) : nrB s = false := by
  unfold nrB
  by_cases a : 1 ≤ s.size
  · have b : ¬ s.size ≤ 20 := fun b => h ⟨a, b⟩
    simp [b]
  · simp [a]
theorem nr_at {s : ByteArray} {j : Nat} (hj : j < s.size) (h : okC j (s[j].toNat : Int) = false) : nrB s = false := by
  unfold nrB
  have : decide (∀ j, (h : j < s.size) → okC j (s[j].toNat : Int) = true) = false := by
    rw [decide_eq_false_iff_not]; intro f; rw [f j hj] at h; cases h
  rw [this]; simp

theorem letC_yes {c : Int} (h1 : 97 ≤ c) (h2 : c ≤ 122) : letC c = true := by simp [letC, h1, h2]
theorem letC_no {c : Int} (h : ¬ (97 ≤ c ∧ c ≤ 122)) : letC c = false := by
  unfold letC; rw [Bool.and_eq_false_iff]; simp; omega

theorem isLetter_any (c : Int) (w : World) :
    Calls Tryz.prog 65 #[.int .u8 c] w fun e w' => e = .returned (.bool (letC c)) ∧ w' = w := by
  by_cases h1 : 97 ≤ c
  · by_cases h2 : c ≤ 122
    · rw [letC_yes h1 h2]
      go_enter Tryz.func65, Tryz.ntmps65
      go_wp2
      go_ret
      exact ⟨rfl, rfl⟩
    · rw [letC_no (by omega)]
      go_enter Tryz.func65, Tryz.ntmps65
      go_wp2
      go_ret
      exact ⟨rfl, rfl⟩
  · rw [letC_no (by omega)]
    go_enter Tryz.func65, Tryz.ntmps65
    go_wp2
    go_ret
    exact ⟨rfl, rfl⟩

theorem namC_let {c : Int} (h : letC c = true) : namC c = true := by simp [namC, h]
theorem namC_dig {c : Int} (h1 : 48 ≤ c) (h2 : c ≤ 57) : namC c = true := by simp [namC, h1, h2]
theorem namC_und {c : Int} (h : c = 95) : namC c = true := by simp [namC, h]
theorem namC_no {c : Int} (h : letC c = false) (h1 : ¬ (48 ≤ c ∧ c ≤ 57)) (h2 : c ≠ 95) : namC c = false := by
  unfold namC; rw [h]; simp [h2]; omega

theorem isNameByte_any (c : Int) (w : World) :
    Calls Tryz.prog 66 #[.int .u8 c] w fun e w' => e = .returned (.bool (namC c)) ∧ w' = w := by
  cases hl : letC c with
  | true =>
    rw [namC_let hl]
    have hc : ∀ w, Calls Tryz.prog 65 #[.int .u8 c] w fun e w' => e = .returned (.bool true) ∧ w' = w := fun w => by have := isLetter_any c w; rwa [hl] at this
    clear hl
    go_enter Tryz.func66, Tryz.ntmps66
    go_wp2_with (go_at_call 65; refine (hc _).mono ?_; rintro e w' ⟨rfl, rfl⟩)
    go_ret
    exact ⟨rfl, rfl⟩
  | false =>
    have hc : ∀ w, Calls Tryz.prog 65 #[.int .u8 c] w fun e w' => e = .returned (.bool false) ∧ w' = w := fun w => by have := isLetter_any c w; rwa [hl] at this
    by_cases h1 : 48 ≤ c
    · by_cases h2 : c ≤ 57
      · rw [namC_dig h1 h2]
        clear hl
        go_enter Tryz.func66, Tryz.ntmps66
        go_wp2_with (go_at_call 65; refine (hc _).mono ?_; rintro e w' ⟨rfl, rfl⟩)
        go_ret
        exact ⟨rfl, rfl⟩
      · by_cases h3 : c = 95
        · rw [namC_und h3]
          clear hl
          subst h3
          go_enter Tryz.func66, Tryz.ntmps66
          go_wp2_with (go_at_call 65; refine (hc _).mono ?_; rintro e w' ⟨rfl, rfl⟩)
          go_ret
          exact ⟨rfl, rfl⟩
        · rw [namC_no hl (by omega) h3]
          have h4 : (c == 95) = false := by simp [h3]
          have h5 : decide (c ≤ 57) = false := by simp [h2]
          clear hl h3
          go_enter Tryz.func66, Tryz.ntmps66
          go_wp2_with (go_at_call 65; refine (hc _).mono ?_; rintro e w' ⟨rfl, rfl⟩)
          go_ret
          exact ⟨rfl, rfl⟩
    · rw [namC_no hl (by omega) (by omega)]
      have h4 : (c == 95) = false := by simp; omega
      clear hl
      go_enter Tryz.func66, Tryz.ntmps66
      go_wp2_with (go_at_call 65; refine (hc _).mono ?_; rintro e w' ⟨rfl, rfl⟩)
      go_ret
      exact ⟨rfl, rfl⟩

theorem okC_no0 {j : Nat} {c : Int} (h : letC c = false) (hj : j = 0) : okC j c = false := by simp [okC, h, hj]
theorem okC_no {j : Nat} {c : Int} (h : namC c = false) : okC j c = false := by
  have : letC c = false := by
    cases hl : letC c with
    | false => rfl
    | true => rw [namC_let hl] at h; cases h
  simp [okC, h, this]
theorem okC_let {j : Nat} {c : Int} (h : letC c = true) : okC j c = true := by simp [okC, h]
theorem okC_nam {j : Nat} {c : Int} (h : namC c = true) (hj : j ≠ 0) : okC j c = true := by simp [okC, h, hj]

theorem okC_step {s : ByteArray} {k : Nat} {hk : k < s.size} (ha : ∀ j, j < k → (h : j < s.size) → okC j (s[j].toNat : Int) = true) (ho : okC k (s[k].toNat : Int) = true) :
    ∀ j, j < k + 1 → (h : j < s.size) → okC j (s[j].toNat : Int) = true := by
  intro j hj h
  by_cases e : j = k
  · subst e; exact ho
  · exact ha j (by omega) h
theorem byteCases (c : Int) (k : Nat) :
    (okC k c = true ∧ 97 ≤ c ∧ c ≤ 122) ∨
    (okC k c = false ∧ ((k : Int) == 0) = true ∧ c < 97) ∨
    (okC k c = false ∧ ((k : Int) == 0) = true ∧ 97 ≤ c ∧ decide (c ≤ 122) = false) ∨
    (okC k c = true ∧ ((k : Int) == 0) = false ∧ c < 97 ∧ 48 ≤ c ∧ c ≤ 57) ∨
    (okC k c = true ∧ ((k : Int) == 0) = false ∧ c < 97 ∧ 48 ≤ c ∧ decide (c ≤ 57) = false ∧ (c != 95) = false) ∨
    (okC k c = false ∧ ((k : Int) == 0) = false ∧ c < 97 ∧ 48 ≤ c ∧ decide (c ≤ 57) = false ∧ (c != 95) = true) ∨
    (okC k c = false ∧ ((k : Int) == 0) = false ∧ c < 97 ∧ c < 48 ∧ (c != 95) = true) ∨
    (okC k c = false ∧ ((k : Int) == 0) = false ∧ 97 ≤ c ∧ decide (c ≤ 122) = false ∧ 48 ≤ c ∧ decide (c ≤ 57) = false ∧ (c != 95) = true) := by
  by_cases h : 97 ≤ c ∧ c ≤ 122
  · exact .inl ⟨okC_let (letC_yes h.1 h.2), h⟩
  · have hl := letC_no h
    refine .inr ?_
    by_cases hk : k = 0
    · have hk' : ((k : Int) == 0) = true := by simp [hk]
      by_cases h1 : c < 97
      · exact .inl ⟨okC_no0 hl hk, hk', h1⟩
      · exact .inr (.inl ⟨okC_no0 hl hk, hk', by omega, by simp; omega⟩)
    · have hk' : ((k : Int) == 0) = false := by simp [hk]
      refine .inr (.inr ?_)
      by_cases h1 : c < 97
      · by_cases h2 : 48 ≤ c
        · by_cases h3 : c ≤ 57
          · exact .inl ⟨okC_nam (namC_dig h2 h3) hk, hk', h1, h2, h3⟩
          · by_cases h4 : c = 95
            · exact .inr (.inl ⟨okC_nam (namC_und h4) hk, hk', h1, h2, by simp; omega, by simp [h4]⟩)
            · exact .inr (.inr (.inl ⟨okC_no (namC_no hl (by omega) h4), hk', h1, h2, by simp; omega, by simp [h4]⟩))
        · exact .inr (.inr (.inr (.inl ⟨okC_no (namC_no hl (by omega) (by omega)), hk', h1, by omega, by simp; omega⟩)))
      · exact .inr (.inr (.inr (.inr ⟨okC_no (namC_no hl (by omega) (by omega)), hk', by omega, by simp; omega, by omega, by simp; omega, by simp; omega⟩)))

set_option maxHeartbeats 400000 in
theorem specNameRight_any (s : ByteArray) (w : World) (hs : s.size ≤ maxLen) :
    Calls Tryz.prog 29 #[.string s] w fun e w' => e = .returned (.bool (nrB s)) ∧ w' = w := by
  unfold maxLen at hs
  by_cases h1 : 1 ≤ s.size
  · by_cases h2 : s.size ≤ 20
    · go_enter Tryz.func29, Tryz.ntmps29
      go_wp2
      go_loop [3] (fun i => ∃ k : Nat, k ≤ s.size ∧ i = .int .i64 k ∧ ∀ j, j < k → (h : j < s.size) → okC j (s[j].toNat : Int) = true) (fun i => s.size - (intOf i).toNat)
      case atStart => exact ⟨0, Nat.zero_le _, rfl, fun j hj => absurd hj (by omega)⟩
      case round =>
        obtain ⟨k, hk, rfl, hall⟩ := hrel
        have HA := hid hall
        clear hall
        by_cases hlt : k < s.size
        · have hE : ∀ b, okC k (s[k].toNat : Int) = b → Hid (okC k (s[k].toNat : Int) = b) := fun _ h => h
          rcases byteCases (s[k].toNat : Int) k with ⟨ho, c1, c2⟩ | ⟨ho, hk0, c1⟩ | ⟨ho, hk0, c1, c2⟩ | ⟨ho, hk1, c1, c2, c3⟩ | ⟨ho, hk1, c1, c2, c3, c4⟩ | ⟨ho, hk1, c1, c2, c3, c4⟩ | ⟨ho, hk1, c1, c2, c3⟩ | ⟨ho, hk1, c1, c2, c3, c4, c5⟩
          all_goals
            have HO := hE _ ho
            clear ho hE
            go_wp2
          all_goals
            first
            | (go_ret; exact ⟨ret_bool (nr_at hlt HO.out).symm, rfl⟩)
            | (go_round
               case rel => exact ⟨k + 1, by omega, by go_num, okC_step HA.out HO.out⟩
               case measure => simp [intOf]; omega)
        · go_wp2
          go_ret
          exact ⟨ret_bool (nr_yes h1 h2 (fun j hj => HA.out j (by omega) hj)).symm, rfl⟩
    · rw [nr_no (by omega)]
      go_enter Tryz.func29, Tryz.ntmps29
      go_wp2
      go_ret
      exact ⟨rfl, rfl⟩
  · rw [nr_no (by omega)]
    go_enter Tryz.func29, Tryz.ntmps29
    go_wp2
    go_ret
    exact ⟨rfl, rfl⟩

theorem nam_of_ok {j : Nat} {c : Int} (hj : j ≠ 0) : namC c = okC j c := by
  unfold okC
  cases hl : letC c with
  | true => simp [namC_let hl]
  | false => simp [hj]

theorem ok_first {s : ByteArray} {h0 : 0 < s.size} (hl : letC (s[0].toNat : Int) = true) : ∀ j, j < 1 → (h : j < s.size) → okC j (s[j].toNat : Int) = true := by
  intro j hj h
  obtain rfl : j = 0 := by omega
  exact okC_let hl

set_option maxHeartbeats 400000 in
theorem implNameRight_any (s : ByteArray) (w : World) (hs : s.size ≤ maxLen) :
    Calls Tryz.prog 50 #[.string s] w fun e w' => e = .returned (.bool (nrB s)) ∧ w' = w := by
  unfold maxLen at hs
  by_cases h1 : 1 ≤ s.size
  · by_cases h2 : s.size ≤ 20
    · cases hl : letC (s[0].toNat : Int) with
      | false =>
        rw [nr_at (show 0 < s.size by omega) (okC_no0 hl rfl)]
        have hc : ∀ w, Calls Tryz.prog 65 #[.int .u8 (s[0].toNat : Int)] w fun e w' => e = .returned (.bool false) ∧ w' = w := fun w => by have := isLetter_any (s[0].toNat : Int) w; rwa [hl] at this
        clear hl
        go_enter Tryz.func50, Tryz.ntmps50
        go_wp2_with (go_at_call 65; refine (hc _).mono ?_; rintro e w' ⟨rfl, rfl⟩)
        go_ret
        exact ⟨rfl, rfl⟩
      | true =>
        have hc : ∀ w, Calls Tryz.prog 65 #[.int .u8 (s[0].toNat : Int)] w fun e w' => e = .returned (.bool true) ∧ w' = w := fun w => by have := isLetter_any (s[0].toNat : Int) w; rwa [hl] at this
        have HL := hid hl
        clear hl
        go_enter Tryz.func50, Tryz.ntmps50
        go_wp2_with (go_at_call 65; refine (hc _).mono ?_; rintro e w' ⟨rfl, rfl⟩)
        clear hc
        go_loop [3] (fun i => ∃ k : Nat, 1 ≤ k ∧ k ≤ s.size ∧ i = .int .i64 k ∧ ∀ j, j < k → (h : j < s.size) → okC j (s[j].toNat : Int) = true) (fun i => s.size - (intOf i).toNat)
        case atStart => exact ⟨1, by omega, by omega, rfl, ok_first HL.out⟩
        case round =>
          obtain ⟨k, hk0, hk, rfl, hall⟩ := hrel
          have HA := hid hall
          clear hall
          by_cases hlt : k < s.size
          · have hc : ∀ w, Calls Tryz.prog 66 #[.int .u8 (s[k].toNat : Int)] w fun e w' => e = .returned (.bool (okC k (s[k].toNat : Int))) ∧ w' = w := fun w => by rw [← nam_of_ok (show k ≠ 0 by omega)]; exact isNameByte_any _ w
            cases ho : okC k (s[k].toNat : Int) with
            | false =>
              rw [ho] at hc
              have HO := hid ho
              clear ho
              go_wp2_with (go_at_call 66; refine (hc _).mono ?_; rintro e w' ⟨rfl, rfl⟩)
              go_ret
              exact ⟨ret_bool (nr_at hlt HO.out).symm, rfl⟩
            | true =>
              rw [ho] at hc
              have HO := hid ho
              clear ho
              go_wp2_with (go_at_call 66; refine (hc _).mono ?_; rintro e w' ⟨rfl, rfl⟩)
              go_round
              case rel => exact ⟨k + 1, by omega, by omega, by go_num, okC_step HA.out HO.out⟩
              case measure => simp [intOf]; omega
          · go_wp2
            go_ret
            exact ⟨ret_bool (nr_yes h1 h2 (fun j hj => HA.out j (by omega) hj)).symm, rfl⟩
    · rw [nr_no (by omega)]
      go_enter Tryz.func50, Tryz.ntmps50
      go_wp2
      go_ret
      exact ⟨rfl, rfl⟩
  · rw [nr_no (by omega)]
    go_enter Tryz.func50, Tryz.ntmps50
    go_wp2
    go_ret
    exact ⟨rfl, rfl⟩
end Go.Proofs.YtdggmeblnbabbaaGreatDoor
