/-
  Texts put together: CdRow, CdSl, CdDr, SrcP, NumD.
-/
import Derived.Test.YtimlnbfalnkmhaaGreatDoorZKd2
import Derived.Test.YtimlnbfalnkmhaaGreatDoorZOwnB6
import Derived.Test.YtimlnbfalnkmhaaGreatDoorZSrcA5
/-
  Rows of Conds. Of no function.
-/
namespace Go.Proofs.YtimlnbfalnkmhaaGreatDoor
open Go.RowKit

theorem Tryz.infoCd : (Tryz.prog.info? 67).map (fun i => (i.zero, i.size, i.bytes)) = some (some (.agg #[.string ⟨#[]⟩, .string ⟨#[]⟩, .string ⟨#[]⟩, .int .i64 0]), 4, 56) := by kernel_rfl
def lenC : Value → Nat | .slice _ n _ => n | _ => 0
theorem cd_one (c : Cd) : ∀ u ∈ c.cells, u.oneCell' = true := by
  intro u hu
  simp [Cd.cells] at hu
  rcases hu with rfl | rfl | rfl | rfl <;> rfl
theorem cd_snoc (l : List Cd) (c : Cd) : (l ++ [c]).flatMap Cd.cells = l.flatMap Cd.cells ++ c.cells := by simp
theorem cd_new (w : World) (c : Cd) (T : TypeId) : ∀ j u, c.cells[j]? = some u → (w.alloc (.cells c.cells.toArray T)).cell? ((⟨w.heap.size, 0, none⟩ : Addr).add j) = some u := by
  intro j u hj
  rw [Addr.add_lit, Nat.zero_add, World.cell?_alloc_mark]
  simpa using hj
theorem cd_first (w W : World) (c : Cd) (T : TypeId) (hs : w.heap.size ≤ W.heap.size) : (W.alloc (.cells #[.string c.fld, .string c.op, .string c.wrd, .int .i64 c.n] T)).ownsRow w.heap.size T 4 (.slice (some ⟨W.heap.size, 0, none⟩) 1 1) 1 ([c].flatMap Cd.cells) :=
  ⟨rfl, .inr ⟨_, 1, _, rfl, hs, heap_alloc_new _ _, Nat.le_refl _, by unfold maxLen; omega, rfl, by simp [Cd.cells]⟩⟩
end Go.Proofs.YtimlnbfalnkmhaaGreatDoor

/-
  Rows of Conds in memory: what it is that a slice holds them. Of no function.
-/
namespace Go.Proofs.YtimlnbfalnkmhaaGreatDoor
open Go.RowKit

structure CdAt (w : World) (g o : Nat) (c : Cd) : Prop where
  c0 : w.cell? ⟨g, o, none⟩ = some (.string c.fld)
  c1 : w.cell? ⟨g, o + 1, none⟩ = some (.string c.op)
  c2 : w.cell? ⟨g, o + 2, none⟩ = some (.string c.wrd)
  c3 : w.cell? ⟨g, o + 3, none⟩ = some (.int .i64 c.n)
def CdsAt (w : World) (g o : Nat) (cs : List Cd) : Prop := g < w.heap.size ∧ ∀ i, (h : i < cs.length) → CdAt w g (o + i * 4) cs[i]
def CdSl (w : World) (v : Value) (cs : List Cd) : Prop :=
  (∃ a c, v = .slice a 0 c ∧ cs = []) ∨ ∃ g o c, v = .slice (some ⟨g, o, none⟩) cs.length c ∧ 0 < cs.length ∧ CdsAt w g o cs
theorem CdAt.below {w w' : World} {B g o : Nat} {c : Cd} (h : CdAt w g o c) (hb : Below B w w') (hg : g < B) : CdAt w' g o c :=
  ⟨by rw [hb.cell (p := ⟨g, o, none⟩) hg]; exact h.c0, by rw [hb.cell (p := ⟨g, o + 1, none⟩) hg]; exact h.c1, by rw [hb.cell (p := ⟨g, o + 2, none⟩) hg]; exact h.c2, by rw [hb.cell (p := ⟨g, o + 3, none⟩) hg]; exact h.c3⟩
theorem CdsAt.stay {w w' : World} {B g o : Nat} {cs : List Cd} (h : CdsAt w g o cs) (hb : Below B w w') (hB : w.heap.size ≤ B) : CdsAt w' g o cs :=
  ⟨Nat.lt_of_lt_of_le h.1 hb.size, fun i hi => (h.2 i hi).below hb (Nat.lt_of_lt_of_le h.1 hB)⟩
theorem cflat_at : ∀ (cs : List Cd) (i j : Nat), (h : i < cs.length) → j < 4 → (cs.flatMap Cd.cells)[i * 4 + j]? = cs[i].cells[j]?
  | [], i, _, h, _ => absurd h (by simp)
  | p :: r, 0, j, _, hj => by
    rw [List.flatMap_cons, List.getElem?_append_left (by simp [Cd.cells]; omega)]; simp
  | p :: r, i + 1, j, h, hj => by
    rw [List.flatMap_cons, List.getElem?_append_right (by simp [Cd.cells]; omega), show (i + 1) * 4 + j - p.cells.length = i * 4 + j by simp [Cd.cells]; omega]
    rw [cflat_at r i j (by simpa using h) hj]; simp
theorem cflat_len (cs : List Cd) : (cs.flatMap Cd.cells).length = cs.length * 4 := by
  induction cs with
  | nil => rfl
  | cons p r ih => rw [List.flatMap_cons, List.length_append, ih]; simp [Cd.cells]; omega
theorem cd_of_own {w : World} {base n : Nat} {e : TypeId} {v : Value} {cs : List Cd} (h : w.ownsRow base e 4 v n (cs.flatMap Cd.cells)) : CdSl w v cs := by
  have hn : n = cs.length := by have := h.1; rw [cflat_len] at this; omega
  subst hn
  rcases h.2 with ⟨hv, h0⟩ | ⟨g, cap, cur, hv, _, _, hle, _⟩
  · exact .inl ⟨none, 0, hv, List.eq_nil_of_length_eq_zero h0⟩
  · by_cases h0 : cs.length = 0
    · exact .inl ⟨some ⟨g, 0, none⟩, cap, by rw [hv, h0], List.eq_nil_of_length_eq_zero h0⟩
    · have hlt := (h.lt g (by rw [hv]; rfl)).2
      refine .inr ⟨g, 0, cap, hv, by omega, hlt, fun i hi => ?_⟩
      have key : ∀ j, j < 4 → ∀ u, cs[i].cells[j]? = some u → w.cell? ⟨g, 0 + i * 4 + j, none⟩ = some u := fun j hj u hu => by
        have := h.cells (g := g) (by rw [hv]; rfl) (i * 4 + j) u (by rw [cflat_at cs i j hi hj]; exact hu)
        rw [Addr.add_lit] at this
        simpa [Nat.add_assoc] using this
      exact ⟨key 0 (by decide) _ rfl, key 1 (by decide) _ rfl, key 2 (by decide) _ rfl, key 3 (by decide) _ rfl⟩
end Go.Proofs.YtimlnbfalnkmhaaGreatDoor

/-
  Draws: a Cond amid its draw: the source, the Cond in its box. Of no function.
-/
namespace Go.Proofs.YtimlnbfalnkmhaaGreatDoor
open Go.RowKit
set_option linter.unusedVariables false

abbrev cdL (c : Cd) : List Value := [.string c.fld, .string c.op, .string c.wrd, .int .i64 c.n]
def cdZ : Cd := ⟨⟨#[]⟩, ⟨#[]⟩, ⟨#[]⟩, 0⟩
/-- Amid the draw of a Cond. -/
structure MdC (w W : World) (b g n : Nat) (V : Value) (c : Cd) : Prop where
  dr : Drw W b V n
  hd : W.heap[g]? = some (.cells (cdL c).toArray 67 (0, 0))
  hr : W.heap[w.heap.size]? = some (.cells (cdL cdZ).toArray 67 (0, 0))
  gr : w.grownBy W (some b)
  hg : w.heap.size < g
  hb : b < w.heap.size
theorem MdC.call {w W W' : World} {b g n : Nat} {V : Value} {c : Cd} (h : MdC w W b g n V c) (hd : Drw W' b V n) (hg : W.grownBy W' (some b)) : MdC w W' b g n V c :=
  ⟨hd, (hg.block g (lt_heap h.hd) (by simp; have := h.hg; have := h.hb; omega)).trans h.hd, (hg.block _ (lt_heap h.hr) (by simp; have := h.hb; omega)).trans h.hr, grown_trans h.gr hg, h.hg, h.hb⟩
theorem MdC.below {w W W' : World} {b g n : Nat} {V : Value} {c : Cd} (h : MdC w W b g n V c) (hg : Below W.heap.size W W') : MdC w W' b g n V c :=
  h.call (h.dr.below hg) (grown_below hg)
/-- A field of it is laid anew. -/
theorem MdC.set {w W : World} {b g n : Nat} {V : Value} {c c' : Cd} (h : MdC w W b g n V c) (i : Nat) (v : Value) (he : (cdL c).set i v = cdL c') : MdC w (W.setCell ⟨g, i, none⟩ v) b g n V c' := by
  have hc : Chg (fun j => j = g) W (W.setCell ⟨g, i, none⟩ v) := Chg.of_grown (grown_set W g i v) rfl
  refine ⟨h.dr.chg hc (fun k hk => by subst hk; have := h.hg; have := h.hb; omega), ?_, (hc.block _ (lt_heap h.hr) (fun e => by have := h.hg; omega)).trans h.hr, grown_chg h.gr hc (fun k hk => by subst hk; have := h.hg; omega), h.hg, h.hb⟩
  have := blk_set (i := i) h.hd v
  rw [he] at this
  exact this
theorem MdC.cells {w W : World} {b g n : Nat} {V : Value} {c : Cd} (h : MdC w W b g n V c) : W.cell? ⟨g, 0, none⟩ = some (.string c.fld) ∧ W.cell? ⟨g, 1, none⟩ = some (.string c.op) ∧ W.cell? ⟨g, 2, none⟩ = some (.string c.wrd) ∧ W.cell? ⟨g, 3, none⟩ = some (.int .i64 c.n) :=
  ⟨by rw [Lib.cell_of_heap h.hd]; rfl, by rw [Lib.cell_of_heap h.hd]; rfl, by rw [Lib.cell_of_heap h.hd]; rfl, by rw [Lib.cell_of_heap h.hd]; rfl⟩
theorem chg_at {w w' : World} {g : Nat} (h : Chg (fun j => j = g) w w') (i : Nat) (v : Value) : Chg (fun j => j = g) w (w'.setCell ⟨g, i, none⟩ v) := h.trans (Chg.of_grown (grown_set w' g i v) rfl)
/-- It is told: its fields are laid into the result's box. -/
theorem MdC.fin {w W : World} {b g n : Nat} {V : Value} {c : Cd} (h : MdC w W b g n V c) :
    ((((W.setCell ⟨w.heap.size, 0, none⟩ (.string c.fld)).setCell ⟨w.heap.size, 1, none⟩ (.string c.op)).setCell ⟨w.heap.size, 2, none⟩ (.string c.wrd)).setCell ⟨w.heap.size, 3, none⟩ (.int .i64 c.n)).heap[w.heap.size]? = some (.cells (cdL c).toArray 67 (0, 0)) ∧ Drw ((((W.setCell ⟨w.heap.size, 0, none⟩ (.string c.fld)).setCell ⟨w.heap.size, 1, none⟩ (.string c.op)).setCell ⟨w.heap.size, 2, none⟩ (.string c.wrd)).setCell ⟨w.heap.size, 3, none⟩ (.int .i64 c.n)) b V n ∧ w.grownBy ((((W.setCell ⟨w.heap.size, 0, none⟩ (.string c.fld)).setCell ⟨w.heap.size, 1, none⟩ (.string c.op)).setCell ⟨w.heap.size, 2, none⟩ (.string c.wrd)).setCell ⟨w.heap.size, 3, none⟩ (.int .i64 c.n)) (some b) := by
  have hc : Chg (fun j => j = w.heap.size) W ((((W.setCell ⟨w.heap.size, 0, none⟩ (.string c.fld)).setCell ⟨w.heap.size, 1, none⟩ (.string c.op)).setCell ⟨w.heap.size, 2, none⟩ (.string c.wrd)).setCell ⟨w.heap.size, 3, none⟩ (.int .i64 c.n)) :=
    chg_at (chg_at (chg_at (chg_at (Chg.refl _ _) _ _) _ _) _ _) _ _
  have hx := blk_set (i := 3) (blk_set (i := 2) (blk_set (i := 1) (blk_set (i := 0) h.hr (.string c.fld)) (.string c.op)) (.string c.wrd)) (.int .i64 c.n)
  exact ⟨hx, h.dr.chg hc (fun k hk => by subst hk; exact h.hb), grown_chg h.gr hc (fun k hk => by omega)⟩
/-- A small Cond. -/
def CdSm (c : Cd) : Prop := c.fld.size ≤ 20 ∧ c.op.size ≤ 20 ∧ c.wrd.size ≤ 20 ∧ -2000000 ≤ c.n ∧ c.n ≤ 2000000
end Go.Proofs.YtimlnbfalnkmhaaGreatDoor

/-
  Draws: what (*spec.l01Src).pick answers: one of some texts: a contract over the seat's program.
-/
namespace Go.Proofs.YtimlnbfalnkmhaaGreatDoor
open Go.RowKit

theorem pick_any (b n g m : Nat) (V : Value) (S : List ByteArray) (w : World) (h : Drw w b V n) (hm : S.length = m) (h0 : 0 < m) (hm2 : m ≤ 100) (hgb : b < g)
    (hS : w.heap[g]? = some (.cells (S.map Value.string).toArray 9 (0, 0))) :
    Calls Tryz.prog 49 #[.pointer (some ⟨b, 0, none⟩), .slice (some ⟨g, 0, none⟩) m m] w fun e w' => ∃ s, e = .returned (.string s) ∧ s ∈ S ∧ Drw w' b V n ∧ w.grownBy w' (some b) := by
  have c1 := hid (srcN_any b n V (m : Int) w h (by omega))
  have HS := hid hS
  clear h hS
  go_enter Tryz.func49, Tryz.ntmps49
  go_wp2_with fail
  refine c1.out.mono ?_
  rintro e w1 ⟨r, rfl, ⟨r0, r1, r2⟩, hd, hg⟩
  obtain ⟨i, rfl⟩ := Int.eq_ofNat_of_zero_le r0
  have hi : i < S.length := by
    by_cases h1 : (1 : Int) < (m : Int)
    · have := r1 h1; omega
    · have := r2 (by omega); omega
  have hi' : i < m := by omega
  have hS1 : w1.heap[g]? = some (.cells (S.map Value.string).toArray 9 (0, 0)) := by rw [hg.block g (lt_heap HS.out) (by simp; omega)]; exact HS.out
  have hc : w1.cell? ⟨g, i, none⟩ = some (.string S[i]) := by
    rw [Lib.cell_of_heap hS1]
    simp [hi]
  have HM := hid (List.getElem_mem hi)
  generalize S[i] = s at *
  have HD := hid hd
  have HG := hid hg
  clear hd hg hS1 r0 r1 r2 hi
  go_wp2
  go_ret
  exact ⟨s, rfl, HM.out, HD.out, HG.out⟩
end Go.Proofs.YtimlnbfalnkmhaaGreatDoor

/-
  Numbers written in digits, and read again. Of no function.
-/
namespace Go.Proofs.YtimlnbfalnkmhaaGreatDoor
open Go.RowKit
set_option linter.unusedVariables false

def decL : Nat → Nat → List UInt8
  | 0, _ => []
  | f + 1, k => if k = 0 then [] else decL f (k / 10) ++ [UInt8.ofNat (48 + k % 10)]
/-- How a number is written. -/
def decI (n : Int) : ByteArray := if n = 0 then ⟨#[48]⟩ else ⟨(decL 20 n.toNat).toArray⟩
def valL (l : List UInt8) : Int := l.foldl (fun a c => 10 * a + ((c.toNat : Int) - 48)) 0
theorem valL_snoc (l : List UInt8) (c : UInt8) : valL (l ++ [c]) = 10 * valL l + ((c.toNat : Int) - 48) := by
  unfold valL; rw [List.foldl_append]; rfl
theorem dig_nat (k : Nat) : (UInt8.ofNat (48 + k % 10)).toNat = 48 + k % 10 := by
  simp; omega
theorem val_dec : ∀ (f k : Nat), k < 10 ^ f → valL (decL f k) = k
  | 0, k, h => by
    have : k = 0 := by simpa using h
    subst this; rfl
  | f + 1, k, h => by
    unfold decL
    by_cases h0 : k = 0
    · rw [if_pos h0, h0]; rfl
    · rw [if_neg h0, valL_snoc, val_dec f (k / 10) (by rw [Nat.pow_succ] at h; omega), dig_nat]
      omega
theorem dec_len : ∀ (f m k : Nat), k < 10 ^ m → (decL f k).length ≤ m
  | 0, m, k, h => by simp [decL]
  | f + 1, m, k, h => by
    unfold decL
    by_cases h0 : k = 0
    · rw [if_pos h0]; exact Nat.zero_le _
    · rw [if_neg h0, List.length_append]
      cases m with
      | zero => simp at h; omega
      | succ m =>
        have := dec_len f m (k / 10) (by rw [Nat.pow_succ] at h; omega)
        simp; omega
theorem dec_dig : ∀ (f k : Nat), ∀ c ∈ decL f k, digC (c.toNat : Int) = true
  | 0, k, c, h => by simp [decL] at h
  | f + 1, k, c, h => by
    unfold decL at h
    by_cases h0 : k = 0
    · rw [if_pos h0] at h; cases h
    · rw [if_neg h0] at h
      rcases List.mem_append.1 h with h | h
      · exact dec_dig f _ c h
      · obtain rfl := List.mem_singleton.1 h
        rw [dig_nat]
        unfold digC
        simp only [Bool.and_eq_true, decide_eq_true_eq]
        omega
theorem pv_val (l : List UInt8) : ∀ i, i ≤ l.length → pv ⟨l.toArray⟩ i = valL (l.take i)
  | 0, _ => rfl
  | i + 1, h => by
    have hi : i < (⟨l.toArray⟩ : ByteArray).size := by show i < l.toArray.size; simp; omega
    rw [pv_succ _ i hi, pv_val l i (by omega), List.take_succ_eq_append_getElem (by omega), valL_snoc]
    rfl
theorem numN_dec {n : Int} (h0 : 0 ≤ n) (h1 : n < 10000000) : numN (decI n) = n := by
  unfold decI
  by_cases hz : n = 0
  · rw [if_pos hz, hz]
    rw [numN_yes (by decide) (by decide) (fun j hj h => by
      have : j = 0 := by have : (⟨#[48]⟩ : ByteArray).size = 1 := rfl
                         omega
      subst this; rfl)]
    rfl
  · rw [if_neg hz]
    obtain ⟨k, rfl⟩ := Int.eq_ofNat_of_zero_le h0
    rw [Int.toNat_natCast]
    have hk : k < 10 ^ 7 := by omega
    have hs : (⟨(decL 20 k).toArray⟩ : ByteArray).size = (decL 20 k).length := by show (decL 20 k).toArray.size = _; simp
    have hv := val_dec 20 k (Nat.lt_of_lt_of_le hk (Nat.pow_le_pow_right (by decide) (by decide)))
    have hl : 1 ≤ (decL 20 k).length := by
      rcases Nat.eq_zero_or_pos (decL 20 k).length with q | q
      · rw [List.eq_nil_of_length_eq_zero q] at hv
        have : (0 : Int) = k := hv
        omega
      · exact q
    have hd : digs ⟨(decL 20 k).toArray⟩ (⟨(decL 20 k).toArray⟩ : ByteArray).size := fun j hj h => dec_dig 20 k _ (List.getElem_mem (by rw [hs] at h; exact h))
    rw [numN_yes (by rw [hs]; exact hl) (by rw [hs]; exact dec_len 20 7 k hk) hd, hs, pv_val _ _ (Nat.le_refl _), List.take_length, hv]
theorem dec_nosp (n : Int) : ∀ c ∈ (decI n).data.toList, digC (c.toNat : Int) = true := by
  unfold decI
  by_cases hz : n = 0
  · rw [if_pos hz]
    intro c hc
    obtain rfl : c = 48 := by simpa using hc
    rfl
  · rw [if_neg hz]
    intro c hc
    exact dec_dig _ _ c (by simpa using hc)
end Go.Proofs.YtimlnbfalnkmhaaGreatDoor
