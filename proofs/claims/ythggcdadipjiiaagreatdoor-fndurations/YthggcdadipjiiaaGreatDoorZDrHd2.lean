/-
  Texts put together: DrHd, LexB.
-/
import Derived.Test.YthggcdadipjiiaaGreatDoorZDrHi
import Derived.Test.YthggcdadipjiiaaGreatDoorZSpRun6
import Derived.BigQuiet
/-
  Draws: what spec.DrawDurations answers: a Def and events, few and small: a contract over the seat's program.
-/
namespace Go.Proofs.YthggcdadipjiiaaGreatDoor
open Go.RowKit Go.Sort
set_option linter.unusedVariables false

theorem Bs.stayH {w w' : World} {V : Value} {n : Nat} (h : Bs w V n) (hb : Below w.heap.size w w') : Bs w' V n := by
  obtain ⟨a, c, rfl, hn, h⟩ := h
  refine ⟨a, c, rfl, hn, fun i hi => ?_⟩
  obtain ⟨g, o, x, rfl, hg1, hc, hx⟩ := h i hi
  exact ⟨g, o, x, rfl, Nat.lt_of_lt_of_le hg1 hb.size, by rw [hb.cell (p := ⟨g, o + i, none⟩) hg1]; exact hc, hx⟩
structure HdDr (w W : World) (u1 u2 v : Value) (ss : List ByteArray) (fs : List Pr) (l : List Ev) : Prop where
  o1 : W.ownsRow w.heap.size 9 1 u1 ss.length (ss.map Value.string)
  o2 : W.ownsRow w.heap.size 116 2 u2 fs.length (fs.flatMap Pr.cells)
  ol : W.ownsRow w.heap.size 33 6 v l.length (l.flatMap Ev.cells)
  bl : Below w.heap.size w W
  len : ss.length ≤ 5 ∧ fs.length ≤ 10
  sh : ShD ss fs
  se : ∀ e ∈ l, ShEv e
set_option maxHeartbeats 4000000 in
set_option maxRecDepth 100000 in
theorem drawDurations_any (V : Value) (n : Nat) (w : World) (h : Bs w V n) :
    Calls Tryz.prog 5 #[V] w fun e w' => ∃ u1 u2 v ss fs l, e = .returned (.tuple #[.agg #[u1, u2], v]) ∧ l.length ≤ 40 ∧ HdDr w w' u1 u2 v ss fs l := by
  have hb0 : Below w.heap.size w (w.alloc (.cells [.slice none 0 0, .slice none 0 0].toArray 26)) := ((Below.refl _ _).alloc (Nat.le_refl _) _)
  have cS := hid (source_any V n _ (h.stayH hb0))
  have HB0 := hid hb0
  have HS0 : Hid ((w.alloc (.cells [.slice none 0 0, .slice none 0 0].toArray 26)).heap.size = w.heap.size + 1) := hid (by simp)
  have HR := hid (heap_alloc_new w (.cells [.slice none 0 0, .slice none 0 0].toArray 26))
  clear h hb0
  go_enter Tryz.func5, Tryz.ntmps5
  go_wp2_with fail
  refine cS.out.mono ?_
  rintro e W1 ⟨b, rfl, hbb, hD, hB1⟩
  rw [HS0.out] at hbb
  have hR1 := (hB1.block _ (lt_heap HR.out)).trans HR.out
  have hBw := HB0.out.trans (hB1.mono HB0.out.size)
  have HR1 := hid hR1
  have HBw := hid hBw
  have HD := hid hD
  have hz1 := hBw.size
  clear hD hB1 cS HR HB0 hR1 hBw
  go_wp2_with fail
  refine (l04History_any b n V W1 HD.out).mono ?_
  rintro e W2 ⟨u1, u2, v, ss, fs, l, rfl, hl, hH⟩
  obtain ⟨a1, k1, rfl⟩ := ownB_form hH.o1
  obtain ⟨a2, k2, rfl⟩ := ownB_form hH.o2
  obtain ⟨al, kl, rfl⟩ := ownB_form hH.ol
  have R1 : W2.heap[w.heap.size]? = some (.cells [.slice none 0 0, .slice none 0 0].toArray 26 (0, 0)) := (hH.gr.block _ (lt_heap HR1.out) (by simp; omega)).trans HR1.out
  have p0 : W2.cell? ⟨w.heap.size, 0, none⟩ = some (.slice none 0 0) := by rw [Lib.cell_of_heap R1]; rfl
  have p1 : W2.cell? ⟨w.heap.size, 1, none⟩ = some (.slice none 0 0) := by rw [Lib.cell_of_heap R1]; rfl
  have pf : ∀ j, W2.frozen? ⟨w.heap.size, j, none⟩ = false := fun j => Lib.frozen_of_heap R1 j
  have hc : Chg (fun j => j = w.heap.size) W2 ((W2.setCell ⟨w.heap.size, 0, none⟩ (.slice a1 ss.length k1)).setCell ⟨w.heap.size, 1, none⟩ (.slice a2 fs.length k2)) := ((Chg.refl _ _).seq _ _).seq _ _
  have hlt := lt_heap HR1.out
  have hg : Below w.heap.size W1 W2 := ⟨hH.gr.os, hH.gr.tape, hH.gr.output, hH.gr.size, fun k hk => hH.gr.block k (by omega) (by simp; omega)⟩
  have SD := hid (show HdDr w ((W2.setCell ⟨w.heap.size, 0, none⟩ (.slice a1 ss.length k1)).setCell ⟨w.heap.size, 1, none⟩ (.slice a2 fs.length k2)) (.slice a1 ss.length k1) (.slice a2 fs.length k2) (.slice al l.length kl) ss fs l from
    ⟨ownB_le (own_chg hH.o1 hc (fun g hg e => by have := (own_lt hH.o1 g hg).1; omega)) hz1, ownB_le (own_chg hH.o2 hc (fun g hg e => by have := (own_lt hH.o2 g hg).1; omega)) hz1, ownB_le (own_chg hH.ol hc (fun g hg e => by have := (own_lt hH.ol g hg).1; omega)) hz1,
      (HBw.out.trans hg).trans (hc.below (Nat.le_trans hz1 hH.gr.size) (fun k hk => by omega)), hH.len, hH.sh, hH.se⟩)
  have ends := blk_set (i := 1) (blk_set (i := 0) R1 (.slice a1 ss.length k1)) (.slice a2 fs.length k2)
  have f0 : ((W2.setCell ⟨w.heap.size, 0, none⟩ (.slice a1 ss.length k1)).setCell ⟨w.heap.size, 1, none⟩ (.slice a2 fs.length k2)).cell? ⟨w.heap.size, 0, none⟩ = some (.slice a1 ss.length k1) := by rw [Lib.cell_of_heap ends]; rfl
  have f1 : ((W2.setCell ⟨w.heap.size, 0, none⟩ (.slice a1 ss.length k1)).setCell ⟨w.heap.size, 1, none⟩ (.slice a2 fs.length k2)).cell? ⟨w.heap.size, 1, none⟩ = some (.slice a2 fs.length k2) := by rw [Lib.cell_of_heap ends]; rfl
  clear ends R1 hc hg hH HD HBw HR1
  go_wp2
  exact bodyPost_ret (v := .tuple #[.agg #[.slice a1 ss.length k1, .slice a2 fs.length k2], .slice al l.length kl]) (by simp [results, Tryz.results5, go_sem, f0, f1]) rfl ⟨_, _, _, _, _, l, rfl, hl, SD.out⟩
end Go.Proofs.YthggcdadipjiiaaGreatDoor

/-
  A region whose slots are laid one behind the other, each operation behind those that it looks at: the text's order is one of its orders. Of no function.
-/
namespace Go.Proofs.YthggcdadipjiiaaGreatDoor
open Go.RowKit

def lookB (ops : Array Oper) (b n i : Nat) (o : Oper) : Bool := (match o.op with | .select .. => false | _ => true) && o.dst == some (b + i) && (o.after.all fun e => !Region.binds .any e || decide (e.on < i)) && (o.looksAt ops).all fun t => decide (t < b) || decide (b + n ≤ t) || o.after.any fun e => Region.binds .any e && e.on == t - b
def ssaL (ops : Array Oper) (b n : Nat) : Nat → List Oper → Bool
  | _, [] => true
  | i, o :: r => lookB ops b n i o && ssaL ops b n (i + 1) r
theorem ssaL_at {ops : Array Oper} {b n : Nat} : ∀ (l : List Oper) (i k : Nat) (o : Oper), ssaL ops b n i l = true → l[k]? = some o → lookB ops b n (i + k) o = true
  | [], _, _, _, _, h => by simp at h
  | x :: r, i, 0, o, hs, h => by
    simp at h; subst h
    simp only [ssaL, Bool.and_eq_true] at hs
    exact hs.1
  | x :: r, i, k + 1, o, hs, h => by
    simp only [ssaL, Bool.and_eq_true] at hs
    have := ssaL_at r (i + 1) k o hs.2 (by simpa using h)
    rwa [show i + (k + 1) = i + 1 + k by omega]
structure LookP (ops : Array Oper) (b n i : Nat) (o : Oper) : Prop where
  sel : (match o.op with | .select .. => false | _ => true) = true
  dst : o.dst = some (b + i)
  ac : ∀ e ∈ o.after, Region.binds .any e = true → e.on < i
  lk : ∀ t ∈ o.looksAt ops, t < b ∨ b + n ≤ t ∨ ∃ e ∈ o.after, Region.binds .any e = true ∧ e.on = t - b
theorem lookP {ops : Array Oper} {b n i : Nat} {o : Oper} (h : lookB ops b n i o = true) : LookP ops b n i o := by
  simp only [lookB, Bool.and_eq_true, beq_iff_eq] at h
  obtain ⟨⟨⟨h1, h2⟩, h3⟩, h4⟩ := h
  refine ⟨h1, h2, fun e he hb => ?_, fun t ht => ?_⟩
  · have := Array.all_eq_true_iff_forall_mem.1 h3 e he
    simpa [hb] using this
  · have h5 := List.all_eq_true.1 h4 t ht
    simp only [Bool.or_eq_true, decide_eq_true_eq] at h5
    rcases h5 with (h5 | h5) | h5
    · exact .inl h5
    · exact .inr (.inl h5)
    · obtain ⟨j, hj, h6⟩ := Array.any_eq_true.1 h5
      simp only [Bool.and_eq_true, beq_iff_eq] at h6
      exact .inr (.inr ⟨_, Array.getElem_mem hj, h6.1, h6.2⟩)
def UpTo (n k : Nat) (listed : Array Bool) : Prop := ∀ j, listed[j]? = if j < n then some (decide (j < k)) else none
theorem UpTo.t {n k : Nat} {listed : Array Bool} (h : UpTo n k listed) (j : Nat) : listed.getD j true = if j < n then decide (j < k) else true := by
  rw [Array.getD_eq_getD_getElem?, h j]
  by_cases hj : j < n
  · rw [if_pos hj, if_pos hj]; rfl
  · rw [if_neg hj, if_neg hj]; rfl
theorem UpTo.f {n k : Nat} {listed : Array Bool} (h : UpTo n k listed) (j : Nat) : listed.getD j false = if j < n then decide (j < k) else false := by
  rw [Array.getD_eq_getD_getElem?, h j]
  by_cases hj : j < n
  · rw [if_pos hj, if_pos hj]; rfl
  · rw [if_neg hj, if_neg hj]; rfl
theorem UpTo.next {n k : Nat} {listed : Array Bool} (h : UpTo n k listed) : UpTo n (k + 1) (listed.setIfInBounds k true) := by
  intro j
  rw [Array.getElem?_setIfInBounds]
  by_cases e : k = j
  · subst e
    have hs : (k < listed.size) ↔ k < n := by
      have hk := h k
      by_cases hn : k < n
      · rw [if_pos hn] at hk
        exact ⟨fun _ => hn, fun _ => (Array.getElem?_eq_some_iff.1 hk).1⟩
      · rw [if_neg hn] at hk
        exact ⟨fun q => absurd q (by have := Array.getElem?_eq_none_iff.1 hk; omega), fun q => absurd q hn⟩
    by_cases hn : k < n
    · simp [hs.2 hn, hn]
    · have : ¬ k < listed.size := fun q => hn (hs.1 q)
      simp [this, hn]
  · rw [if_neg e, h j]
    by_cases hn : j < n
    · rw [if_pos hn, if_pos hn]
      congr 1
      by_cases q : j < k
      · simp [q, show j < k + 1 by omega]
      · simp [q, show ¬ j < k + 1 by omega]
    · rw [if_neg hn, if_neg hn]
theorem lexFrom_ssa {ops : Array Oper} {b : Nat} (hp : ∀ i o, ops[i]? = some o → LookP ops b ops.size i o) : ∀ (fuel k : Nat) (listed : Array Bool), fuel + k = ops.size → UpTo ops.size k listed → Region.lexFrom .any ops fuel k listed = true
  | 0, k, listed, hf, hl => by
    unfold Region.lexFrom
    have : ∀ j, j ∉ Region.ready .any ops listed := fun j hj => by
      obtain ⟨h1, o, ho, _⟩ := mem_ready.1 hj
      have hjn := (Array.getElem?_eq_some_iff.1 ho).1
      rw [hl.t j, if_pos hjn] at h1
      have : j < k := by omega
      simp [this] at h1
    rw [List.isEmpty_iff]
    exact List.eq_nil_iff_forall_not_mem.2 this
  | fuel + 1, k, listed, hf, hl => by
    unfold Region.lexFrom
    have hkn : k < ops.size := by omega
    have hk : ops[k]? = some ops[k] := Array.getElem?_eq_getElem hkn
    have pk := hp k _ hk
    have h3 := lexFrom_ssa hp fuel (k + 1) (listed.setIfInBounds k true) (by omega) hl.next
    have h1 : k ∈ Region.ready .any ops listed := mem_ready.2 ⟨by rw [hl.t k, if_pos hkn]; simp, _, hk, fun e he hb => by
      have := pk.ac e he hb
      rw [hl.f, if_pos (by omega)]
      simp [this]⟩
    have h2 : Region.free .any ops listed k = true := by
      unfold Region.free
      rw [hk]
      simp only
      rw [List.all_eq_true]
      intro j hj
      have hjn := List.mem_range.1 hj
      have hjo : ops[j]? = some ops[j] := Array.getElem?_eq_getElem hjn
      have pj := hp j _ hjo
      rw [hl.t j, if_pos hjn, hjo]
      simp only [Bool.or_eq_true, beq_iff_eq, decide_eq_true_eq]
      by_cases e : j = k
      · exact .inl (.inl e)
      · by_cases q : j < k
        · exact .inl (.inr q)
        · refine .inr ?_
          by_cases hx : ∃ e ∈ ops[j].after, Region.binds .any e = true ∧ e.on = k
          · obtain ⟨e, he, hb, ho⟩ := hx
            refine .inl (Array.any_eq_true.2 ?_)
            obtain ⟨m, hm, rfl⟩ := Array.mem_iff_getElem.1 he
            exact ⟨m, hm, by simp [hb, ho]⟩
          · refine .inr ?_
            unfold Oper.apart
            rw [pk.dst, pj.dst]
            simp only [Bool.and_eq_true, Bool.not_eq_true', bne_iff_ne, ne_eq]
            have n1 : (b + k) ∉ ops[j].looksAt ops := fun h => by
              rcases pj.lk _ h with h | h | ⟨e, he, hb, ho⟩
              · exact absurd (show b + k < b from h) (Nat.not_lt.2 (Nat.le_add_right b k))
              · exact absurd (Nat.le_of_add_le_add_left (show b + ops.size ≤ b + k from h)) (Nat.not_le.2 hkn)
              · exact hx ⟨e, he, hb, ho.trans (Nat.add_sub_cancel_left (n := b) (m := k))⟩
            have n2 : (b + j) ∉ ops[k].looksAt ops := fun h => by
              rcases pk.lk _ h with h | h | ⟨e, he, hb, ho⟩
              · exact absurd (show b + j < b from h) (Nat.not_lt.2 (Nat.le_add_right b j))
              · exact absurd (Nat.le_of_add_le_add_left (show b + ops.size ≤ b + j from h)) (Nat.not_le.2 hjn)
              · have := pk.ac e he hb; rw [ho.trans (Nat.add_sub_cancel_left (n := b) (m := j))] at this; omega
            refine ⟨⟨?_, fun h => by injection h; omega⟩, ?_⟩
            · exact Bool.eq_false_iff.2 fun h => n1 (by simpa using h)
            · exact Bool.eq_false_iff.2 fun h => n2 (by simpa using h)
    rw [h2, h3]
    simp [h1]
theorem lexB_ssa {l : List Oper} (b : Nat) (h : ssaL l.toArray b l.length 0 l = true) : Region.lexB .any l.toArray = true := by
  have hp : ∀ i o, l.toArray[i]? = some o → LookP l.toArray b l.toArray.size i o := fun i o ho => by
    have := ssaL_at l 0 i o h (by simpa using ho)
    rw [Nat.zero_add] at this
    have q := lookP this
    rwa [← List.size_toArray] at q
  unfold Region.lexB
  rw [Bool.and_eq_true]
  refine ⟨?_, lexFrom_ssa hp _ _ _ (by simp) ?_⟩
  · unfold Region.noSelect
    rw [Array.all_eq_true_iff_forall_mem]
    intro o ho
    obtain ⟨i, hi, rfl⟩ := Array.mem_iff_getElem.1 ho
    exact (hp i _ (Array.getElem?_eq_getElem hi)).sel
  · intro j
    rw [Array.getElem?_replicate]
    by_cases hj : j < l.toArray.size
    · rw [if_pos hj, if_pos hj]; simp
    · rw [if_neg hj, if_neg hj]
/-- A region of reads, in the text's order. -/
theorem wp_region_quiet_ssa {P : Program} {id : Nat} {Q : Exit → Act → World → Prop} {a : Act} {w : World} {l : List Oper} (hm : P.follows .mixedOrders = true) (b : Nat) (hB : ssaL l.toArray b l.length 0 l = true)
    (h : wpQuiet P l.toArray (fun w' => ∃ n, w' = w.drewN n) (fun a' => ∀ w', (∃ n, w' = w.drewN n) → Q .normal a' w') l a) : (Code.region id l.toArray true).wp P Q a w :=
  wp_region_quiet_lit hm (lexB_ssa b hB) h
end Go.Proofs.YthggcdadipjiiaaGreatDoor
