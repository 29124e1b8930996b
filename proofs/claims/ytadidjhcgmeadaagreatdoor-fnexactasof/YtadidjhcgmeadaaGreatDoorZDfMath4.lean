/-
  Texts put together: DfMath, StMath, StLaw, OwnB.
-/
import Derived.Test.YtadidjhcgmeadaaGreatDoorZAgg6
import Derived.Test.YtadidjhcgmeadaaGreatDoorZAggD2
import Derived.Test.YtadidjhcgmeadaaGreatDoorZEvT5
import Derived.Lib.QuietBelow
/-
  What it is for a Def to be right: plain mathematics of lists. Of no function.
-/
namespace Go.Proofs.YtadidjhcgmeadaaGreatDoor
open Go.RowKit

theorem nodup_of_take {α : Type} {l : List α} (h : ∀ i, (hi : i < l.length) → l[i] ∉ l.take i) : l.Nodup := by
  rw [List.Nodup, List.pairwise_iff_getElem]
  intro i j hi hj hij e
  exact h j hj (by rw [← e]; exact List.mem_take_iff_getElem.2 ⟨i, by omega, rfl⟩)
theorem twice_of_take {α : Type} {l : List α} {i : Nat} (hi : i < l.length) (h : l[i] ∈ l.take i) : ¬ l.Nodup := by
  intro hn
  rw [List.Nodup, List.pairwise_iff_getElem] at hn
  obtain ⟨j, hj, e⟩ := List.mem_take_iff_getElem.1 h
  exact hn j i (by omega) hi (by omega) e
theorem nodup_take {α : Type} {l : List α} (h : l.Nodup) {i : Nat} (hi : i < l.length) : l[i] ∉ l.take i := fun h' => twice_of_take hi h' h

/-- These steps, these flows: a right Def. -/
structure StepsP (ss : List ByteArray) : Prop where
  n1 : 1 ≤ ss.length
  n2 : ss.length ≤ 12
  nm : ∀ i, (h : i < ss.length) → nrB ss[i] = true
  nd : ss.Nodup
structure FlowsP (ss : List ByteArray) (fs : List Pr) : Prop where
  m : fs.length ≤ 40
  fl : ∀ i, (h : i < fs.length) → fs[i].fst ∈ ss ∧ fs[i].snd ∈ ss
  fd : fs.Nodup
def DefP (ss : List ByteArray) (fs : List Pr) : Prop := StepsP ss ∧ FlowsP ss fs
/-- A Bool that says so. -/
def Tells (b : Bool) (p : Prop) : Prop := b = true ↔ p
theorem Tells.yes {b : Bool} {p : Prop} (h : Tells b p) (hp : p) : b = true := h.2 hp
theorem Tells.no {b : Bool} {p : Prop} (h : Tells b p) (hp : ¬ p) : b = false := by
  cases b with
  | false => rfl
  | true => exact absurd (h.1 rfl) hp
theorem Tells.same {a b : Bool} {p : Prop} (h : Tells a p) (k : Tells b p) : a = b := by
  cases a with
  | true => exact (k.yes (h.1 rfl)).symm
  | false =>
    cases b with
    | false => rfl
    | true => exact h.2 (k.1 rfl)
theorem tells_t {p : Prop} (h : p) : Tells true p := ⟨fun _ => h, fun _ => rfl⟩
theorem tells_f {p : Prop} (h : ¬ p) : Tells false p := ⟨fun e => absurd e (by decide), fun k => absurd k h⟩
/-- A call that ends so tells whether p. -/
def RetB (e : Ending) (p : Prop) : Prop := ∃ B : Bool, e = .returned (.bool B) ∧ Tells B p
theorem retB_t {p : Prop} (h : p) : RetB (.returned (.bool true)) p := ⟨true, rfl, tells_t h⟩
theorem retB_f {p : Prop} (h : ¬ p) : RetB (.returned (.bool false)) p := ⟨false, rfl, tells_f h⟩
theorem RetB.yes {e : Ending} {p : Prop} (h : RetB e p) (hp : p) : e = .returned (.bool true) := by
  obtain ⟨B, rfl, hB⟩ := h; rw [hB.yes hp]
theorem RetB.no {e : Ending} {p : Prop} (h : RetB e p) (hp : ¬ p) : e = .returned (.bool false) := by
  obtain ⟨B, rfl, hB⟩ := h; rw [hB.no hp]
theorem calls_yes {P : Program} {f : FuncId} {args : Array Value} {w : World} {p : Prop} {R : World → Prop} (h : Calls P f args w fun e w' => RetB e p ∧ R w') (hp : p) : Calls P f args w fun e w' => e = .returned (.bool true) ∧ R w' :=
  h.mono fun _ _ ⟨h1, h2⟩ => ⟨h1.yes hp, h2⟩
theorem calls_no {P : Program} {f : FuncId} {args : Array Value} {w : World} {p : Prop} {R : World → Prop} (h : Calls P f args w fun e w' => RetB e p ∧ R w') (hp : ¬ p) : Calls P f args w fun e w' => e = .returned (.bool false) ∧ R w' :=
  h.mono fun _ _ ⟨h1, h2⟩ => ⟨h1.no hp, h2⟩
theorem pr_ext {a b : Pr} (h1 : a.fst = b.fst) (h2 : a.snd = b.snd) : a = b := by
  cases a; cases b; cases h1; cases h2; rfl
/-- The place of a text among others, or -1. -/
def atI (ss : List ByteArray) (t : ByteArray) : Int := match ss.findIdx? (fun x => decide (x = t)) with
  | some k => (k : Int)
  | none => -1
theorem atI_first {ss : List ByteArray} {t : ByteArray} {k : Nat} (hk : k < ss.length) (hn : ∀ j, j < k → (h : j < ss.length) → ss[j] ≠ t) (he : ss[k] = t) : atI ss t = k := by
  unfold atI
  rw [List.findIdx?_eq_some_iff_getElem.2 ⟨hk, by simpa using he, fun j hj => by simpa using hn j hj (by omega)⟩]
theorem atI_out {ss : List ByteArray} {t : ByteArray} (h : t ∉ ss) : atI ss t = -1 := by
  unfold atI
  rw [List.findIdx?_eq_none_iff.2 (fun x hx => by simp; exact fun e => h (e ▸ hx))]
theorem atI_in {ss : List ByteArray} {t : ByteArray} (h : t ∈ ss) : ∃ k : Nat, ∃ hk : k < ss.length, atI ss t = k ∧ ss[k] = t ∧ ∀ j, j < k → (h : j < ss.length) → ss[j] ≠ t := by
  unfold atI
  cases hf : ss.findIdx? (fun x => decide (x = t)) with
  | none => exact absurd (List.findIdx?_eq_none_iff.1 hf t h) (by simp)
  | some k =>
    obtain ⟨hk, h1, h2⟩ := List.findIdx?_eq_some_iff_getElem.1 hf
    exact ⟨k, hk, rfl, by simpa using h1, fun j hj _ => by simpa using h2 j hj⟩
theorem atI_none {ss : List ByteArray} {t : ByteArray} (hn : ∀ j, (h : j < ss.length) → ss[j] ≠ t) : atI ss t = -1 :=
  atI_out (fun h => by obtain ⟨j, hj, e⟩ := List.mem_iff_getElem.1 h; exact hn j hj e)
theorem atI_ge {ss : List ByteArray} {t : ByteArray} : 0 ≤ atI ss t ↔ t ∈ ss := by
  by_cases h : t ∈ ss
  · obtain ⟨k, _, e, _⟩ := atI_in h
    rw [e]; exact ⟨fun _ => h, fun _ => by omega⟩
  · rw [atI_out h]; exact ⟨fun e => absurd e (by decide), fun e => absurd e h⟩
theorem atI_lo (ss : List ByteArray) (t : ByteArray) : -1 ≤ atI ss t := by
  by_cases h : t ∈ ss
  · have := atI_ge.2 h; omega
  · rw [atI_out h]; decide
theorem atI_hi (ss : List ByteArray) (t : ByteArray) : atI ss t < ss.length ∨ atI ss t = -1 := by
  by_cases h : t ∈ ss
  · obtain ⟨k, hk, e, _⟩ := atI_in h; left; omega
  · right; exact atI_out h
/-- Is a text among others? -/
def inB (ss : List ByteArray) (t : ByteArray) : Bool := decide (0 ≤ atI ss t)
theorem inB_yes {ss : List ByteArray} {t : ByteArray} (h : t ∈ ss) : inB ss t = true := decide_eq_true (atI_ge.2 h)
theorem inB_no {ss : List ByteArray} {t : ByteArray} (h : t ∉ ss) : inB ss t = false := decide_eq_false (fun e => h (atI_ge.1 e))
theorem ne_step {α : Type} {l : List α} {t : α} {k : Nat} {hk : k < l.length} (ha : ∀ j, j < k → (h : j < l.length) → l[j] ≠ t) (ho : l[k] ≠ t) : ∀ j, j < k + 1 → (h : j < l.length) → l[j] ≠ t := by
  intro j hj h
  by_cases e : j = k
  · subst e; exact ho
  · exact ha j (by omega) h
theorem ne_all {α : Type} {l : List α} {t : α} {k : Nat} (ha : ∀ j, j < k → (h : j < l.length) → l[j] ≠ t) (hk : l.length ≤ k) : t ∉ l := by
  intro h
  obtain ⟨j, hj, e⟩ := List.mem_iff_getElem.1 h
  exact ha j (by omega) hj e
theorem str_eq {S T : ByteArray} (h : S = T) : (S.toList == T.toList) = true := by subst h; simp
end Go.Proofs.YtadidjhcgmeadaaGreatDoor

/-
  What it is for a State to be right: plain mathematics of lists and texts. Of no function.
-/
namespace Go.Proofs.YtadidjhcgmeadaaGreatDoor
open Go.RowKit

theorem less_irr : ∀ a : List UInt8, Op.bytesLess a a = false
  | [] => rfl
  | x :: a => by
    show (decide (x < x) || (x == x && Op.bytesLess a a)) = false
    rw [less_irr a]; simp
theorem less_asym : ∀ a b : List UInt8, Op.bytesLess a b = true → Op.bytesLess b a = false
  | [], [], h => by simp [Op.bytesLess] at h
  | [], _ :: _, _ => rfl
  | _ :: _, [], h => by simp [Op.bytesLess] at h
  | x :: a, y :: b, h => by
    simp only [Op.bytesLess, Bool.or_eq_true, decide_eq_true_eq, Bool.and_eq_true, beq_iff_eq] at h
    simp only [Op.bytesLess, Bool.or_eq_false_iff, decide_eq_false_iff_not, Bool.and_eq_false_iff, beq_eq_false_iff_ne]
    rcases h with h | ⟨rfl, h⟩
    · refine ⟨fun h' => ?_, .inl (fun e => ?_)⟩
      · exact absurd (UInt8.lt_trans h h') (UInt8.lt_irrefl _)
      · subst e; exact absurd h (UInt8.lt_irrefl _)
    · exact ⟨UInt8.lt_irrefl _, .inr (less_asym a b h)⟩
theorem less_tri : ∀ a b : List UInt8, Op.bytesLess a b = true ∨ a = b ∨ Op.bytesLess b a = true
  | [], [] => .inr (.inl rfl)
  | [], _ :: _ => .inl rfl
  | _ :: _, [] => .inr (.inr rfl)
  | x :: a, y :: b => by
    simp only [Op.bytesLess, Bool.or_eq_true, decide_eq_true_eq, Bool.and_eq_true, beq_iff_eq]
    rcases UInt8.lt_or_lt_of_ne (a := x) (b := y) |> fun f => (if h : x = y then Or.inl h else Or.inr (f h)) with h | h | h
    · subst h
      rcases less_tri a b with h | h | h
      · exact .inl (.inr ⟨rfl, h⟩)
      · exact .inr (.inl (by rw [h]))
      · exact .inr (.inr (.inr ⟨rfl, h⟩))
    · exact .inl (.inl h)
    · exact .inr (.inr (.inl h))
theorem toList_inj {a b : ByteArray} (h : a.toList = b.toList) : a = b := by
  rw [ByteArray.toList_eq, ByteArray.toList_eq] at h
  exact ByteArray.ext (Array.toList_inj.1 h)
/-- The order of texts: is a ahead of b? -/
def lt (a b : ByteArray) : Bool := Op.bytesLess a.toList b.toList
/-- A row of texts in their order. -/
def Sorted (l : List ByteArray) : Prop := ∀ i, (h : i + 1 < l.length) → lt l[i + 1] l[i] = false
structure MarksP (ss l : List ByteArray) : Prop where
  mem : ∀ i, (h : i < l.length) → l[i] ∈ ss
  sorted : Sorted l
structure VarsP (l : List Pr) : Prop where
  n : l.length ≤ 20
  nm : ∀ i, (h : i < l.length) → nrB l[i].fst = true ∧ l[i].snd.size ≤ 40
  rise : ∀ i, (h : i + 1 < l.length) → lt l[i].fst l[i + 1].fst = true
/-- A State, field by field. -/
structure St where
  status : Int
  begun : Int
  last : Int
  wait : List ByteArray
  busy : List ByteArray
  vars : List Pr
  faults : Int
structure BegP (ss : List ByteArray) (s : St) : Prop where
  t1 : timB s.begun = true
  t2 : timB s.last = true
  le : s.begun ≤ s.last
  m : s.wait.length + s.busy.length ≤ 40
  w : MarksP ss s.wait
  b : MarksP ss s.busy
  v : VarsP s.vars
  f : timB s.faults = true
structure NoneP (s : St) : Prop where
  w : s.wait.length = 0
  b : s.busy.length = 0
  b0 : s.begun = 0
  l0 : s.last = 0
  v0 : s.vars.length = 0
  f0 : s.faults = 0
structure GoneP (s : St) : Prop where
  w : s.wait.length = 0
  b : s.busy.length = 0
def StP (ss : List ByteArray) (s : St) : Prop := (s.status = 0 ∧ NoneP s) ∨ (s.status = 1 ∧ BegP ss s) ∨ (s.status = 2 ∧ GoneP s ∧ BegP ss s)
theorem stP_0 {ss : List ByteArray} {s : St} (h : s.status = 0) : StP ss s ↔ NoneP s := by
  unfold StP
  constructor
  · rintro (h' | h' | h')
    · exact h'.2
    · have := h'.1; omega
    · have := h'.1; omega
  · exact fun k => .inl ⟨h, k⟩
theorem stP_1 {ss : List ByteArray} {s : St} (h : s.status = 1) : StP ss s ↔ BegP ss s := by
  unfold StP
  constructor
  · rintro (h' | h' | h')
    · have := h'.1; omega
    · exact h'.2
    · have := h'.1; omega
  · exact fun k => .inr (.inl ⟨h, k⟩)
theorem stP_2 {ss : List ByteArray} {s : St} (h : s.status = 2) : StP ss s ↔ GoneP s ∧ BegP ss s := by
  unfold StP
  constructor
  · rintro (h' | h' | h')
    · have := h'.1; omega
    · have := h'.1; omega
    · exact h'.2
  · exact fun k => .inr (.inr ⟨h, k⟩)
theorem stP_no {ss : List ByteArray} {s : St} (h0 : ¬ s.status = 0) (h1 : ¬ s.status = 1) (h2 : ¬ s.status = 2) : ¬ StP ss s := by
  rintro (h' | h' | h')
  · exact h0 h'.1
  · exact h1 h'.1
  · exact h2 h'.1
theorem gtr_eq (a b : ByteArray) : (!(Op.bytesLess a.toList b.toList) && !(a.toList == b.toList)) = lt b a := by
  unfold lt
  rcases less_tri a.toList b.toList with h | h | h
  · rw [h, less_asym _ _ h]; rfl
  · rw [h, less_irr]; simp
  · rw [h, less_asym _ _ h]
    have : ¬ a.toList = b.toList := fun e => by rw [e, less_irr] at h; cases h
    simp [this]
theorem retB_iff {e : Ending} {p q : Prop} (h : RetB e p) (hpq : p ↔ q) : RetB e q := by
  obtain ⟨B, h1, h2⟩ := h
  exact ⟨B, h1, ⟨fun e => hpq.1 (h2.1 e), fun e => h2.2 (hpq.2 e)⟩⟩
end Go.Proofs.YtadidjhcgmeadaaGreatDoor

/-
  What laws.szStringS, toStringS, eqStringS answer: contracts over the seat's program.
-/
namespace Go.Proofs.YtadidjhcgmeadaaGreatDoor
open Go.RowKit Go.Sort

theorem Tryz.infoStr : (Tryz.prog.info? 9).map (fun i => (i.zero, i.size, i.bytes)) = some (some (.string ⟨#[]⟩), 1, 16) := by kernel_rfl
theorem smap_take {ss : List ByteArray} {k : Nat} (h : k < ss.length) : (ss.take (k + 1)).map Value.string = (ss.take k).map Value.string ++ [.string ss[k]] := by
  rw [List.take_succ_eq_append_getElem h, List.map_append]; rfl
set_option maxRecDepth 100000 in
theorem toStringS_row (g o c : Nat) (ss : List ByteArray) (w : World) (hE : StrsAt w g o ss) (hn : ss.length ≤ 1048576) :
    Calls Tryz.prog 41 #[.slice (some ⟨g, o, none⟩) ss.length c] w fun e w' =>
      ∃ v, e = .returned v ∧ w'.ownsRow w.heap.size 9 1 v ss.length (ss.map Value.string) ∧ Below w.heap.size w w' := by
  obtain ⟨i0, hi, hz0, hz1, hz2⟩ := info_parts Tryz.infoStr
  have HE := hid hE
  clear hE
  go_enter Tryz.func41, Tryz.ntmps41
  go_wp2_with (at_make; refine wpList_make_full _ rfl _ _ 22 rfl w.heap.size 9 i0 _ 1 Tryz.underlying22 hi hz0 hz1 _ _ _ _ ss.length rfl rfl ?m1 ?m2 ?m3 ?m4 (Nat.le_refl _) ?_)
  case m1 => omega
  case m2 => omega
  case m3 => rw [hz2]; omega
  case m4 => unfold maxLen; omega
  intro w1 hown hgrow
  have hB1 : Below w.heap.size w w1 := (Below.refl _ _).grown hgrow (Nat.le_refl _) (fun k h => by cases h)
  obtain ⟨L0, hL0, hG0⟩ := own_row1 hown
  have H0 := hid hL0
  have HG0 := hid hG0
  clear hown hgrow hi hz0 hz1 hz2 hL0 hG0 i0
  go_wp2
  go_loopw [4] (fun i wr => ∃ (k : Nat) (L : List Value), k ≤ ss.length ∧ i = .int .i64 k ∧ L.length = ss.length ∧ L.take k = (ss.take k).map Value.string ∧ wr.heap[w.heap.size]? = some (.cells L.toArray 9 (0, 0)) ∧ Below w.heap.size w wr) (fun i _ => ss.length - (intOf i).toNat)
  case atStart => exact ⟨0, L0, Nat.zero_le _, rfl, H0.out, by simp, HG0.out, hB1⟩
  case round =>
    obtain ⟨k, L, hk, rfl, hL, hT, hG, hbel⟩ := hrel
    have HT := hid hT
    have HL := hid hL
    have HG := hid hG
    clear hT hL hG
    by_cases hlt : k < ss.length
    · have c0 := (HE.out.stay hbel (Nat.le_refl _)).2 k hlt
      have HC := hid (smap_take hlt)
      have hfz : ∀ j, wr.frozen? ⟨w.heap.size, j, none⟩ = false := fun j => Lib.frozen_of_heap HG.out j
      obtain ⟨u0, d0⟩ : ∃ u, wr.cell? ⟨w.heap.size, k, none⟩ = some u := cell_is HG.out (by have := HL.out; omega)
      go_wp2
      go_roundw
      case rel =>
        refine ⟨k + 1, _, by omega, by go_num, ?_, ?_, blk_set HG.out _, hbel.setCell (p := ⟨w.heap.size, k, none⟩) (Nat.le_refl _) _⟩
        · rw [List.length_set]; exact HL.out
        · rw [set1_take (by have := HL.out; omega), HT.out, HC.out]
      case measure => simp [intOf]; omega
    · have hke : k = ss.length := by omega
      have HK := hid hke
      clear hke
      go_wp2
      go_ret
      refine ⟨_, rfl, ⟨by simp, .inr ⟨w.heap.size, ss.length, L.toArray, rfl, Nat.le_refl _, HG.out, Nat.le_refl _, by unfold maxLen; omega, by simpa using HL.out, ?_⟩⟩, hbel⟩
      have := HT.out
      rw [HK.out, List.take_of_length_le (Nat.le_refl ss.length)] at this
      simpa using this
theorem toStringS_none (a : Option Addr) (c : Nat) (w : World) :
    Calls Tryz.prog 41 #[.slice a 0 c] w fun e w' =>
      ∃ v, e = .returned v ∧ w'.ownsRow w.heap.size 9 1 v 0 [] ∧ Below w.heap.size w w' := by
  obtain ⟨i0, hi, hz0, hz1, hz2⟩ := info_parts Tryz.infoStr
  go_enter Tryz.func41, Tryz.ntmps41
  go_wp2_with (at_make; refine wpList_make_full _ rfl _ _ 22 rfl w.heap.size 9 i0 _ 1 Tryz.underlying22 hi hz0 hz1 _ _ _ _ 0 rfl rfl ?m1 ?m2 ?m3 ?m4 (Nat.le_refl _) ?_)
  case m1 => rfl
  case m2 => rfl
  case m3 => rw [hz2]; omega
  case m4 => unfold maxLen; omega
  intro w1 hown hgrow
  have hB1 : Below w.heap.size w w1 := (Below.refl _ _).grown hgrow (Nat.le_refl _) (fun k h => by cases h)
  have HO : Hid (w1.ownsRow w.heap.size 9 1 (.slice (some ⟨w.heap.size, 0, none⟩) 0 0) 0 []) := by
    have h0 := hown.1
    rw [Nat.zero_mul] at h0
    rw [List.eq_nil_of_length_eq_zero h0] at hown
    exact hown
  clear hown hgrow hi hz0 hz1 hz2 i0
  go_wp2
  go_loop [4] (fun i => i = .int .i64 0) (fun _ => 0)
  case atStart => exact rfl
  case round =>
    subst hrel
    go_wp2
    go_ret
    exact ⟨_, rfl, HO.out, hB1⟩
theorem toStringS_any (v : Value) (ss : List ByteArray) (w : World) (h : StrSl w v ss) (hn : ss.length ≤ 1048576) :
    Calls Tryz.prog 41 #[v] w fun e w' =>
      ∃ v, e = .returned v ∧ w'.ownsRow w.heap.size 9 1 v ss.length (ss.map Value.string) ∧ Below w.heap.size w w' := by
  rcases h with ⟨a, c, rfl, rfl⟩ | ⟨g, o, c, rfl, _, h⟩
  · exact toStringS_none a c w
  · exact toStringS_row g o c ss w h hn
set_option maxHeartbeats 1000000 in
set_option maxRecDepth 100000 in
theorem eqStringS_row (g1 o1 c1 g2 o2 c2 : Nat) (ss : List ByteArray) (w : World) (hE1 : StrsAt w g1 o1 ss) (hE2 : StrsAt w g2 o2 ss) (hn : ss.length ≤ maxLen) :
    Calls Tryz.prog 50 #[.slice (some ⟨g1, o1, none⟩) ss.length c1, .slice (some ⟨g2, o2, none⟩) ss.length c2] w fun e w' => e = .returned (.bool true) ∧ Below w.heap.size w w' := by
  unfold maxLen at hn
  have mixed : Tryz.prog.follows .mixedOrders = true := by kernel_rfl
  have HE1 := hid hE1
  have HE2 := hid hE2
  clear hE1 hE2
  go_enter Tryz.func50, Tryz.ntmps50
  go_wp2
  go_loopw [5] (fun i wr => ∃ k : Nat, k ≤ ss.length ∧ i = .int .i64 k ∧ Below w.heap.size w wr) (fun i _ => ss.length - (intOf i).toNat)
  case atStart => exact ⟨0, Nat.zero_le _, rfl, Below.refl _ _⟩
  case round =>
    obtain ⟨k, hk, rfl, hbel⟩ := hrel
    by_cases hlt : k < ss.length
    · have a0 := (HE1.out.stay hbel (Nat.le_refl _)).2 k hlt
      have b0 := (HE2.out.stay hbel (Nat.le_refl _)).2 k hlt
      generalize ss[k] = q4 at *
      have k0 := cell_regrown a0
      have l0 := cell_regrown b0
      clear a0 b0
      go_wp2
      refine wp_region_quiet_below mixed (by kernel_rfl) ?_
      repeat (quiet_step (fail))
      refine wpQuiet_nil ?_
      intro _ hw'
      obtain ⟨⟨dq, osq⟩, hw''⟩ := hw'
      subst hw''
      have hbX := hbel.trans ((below_regrown wr dq osq).mono hbel.size)
      clear k0 l0
      go_wp2
      go_roundw
      case rel => exact ⟨k + 1, by omega, by go_num, hbX⟩
      case measure => simp [intOf]; omega
    · go_wp2
      go_ret
      exact ⟨rfl, hbel⟩
theorem eqStringS_none (a1 a2 : Option Addr) (c1 c2 : Nat) (w : World) :
    Calls Tryz.prog 50 #[.slice a1 0 c1, .slice a2 0 c2] w fun e w' => e = .returned (.bool true) ∧ Below w.heap.size w w' := by
  go_enter Tryz.func50, Tryz.ntmps50
  go_wp2
  go_loop [5] (fun i => i = .int .i64 0) (fun _ => 0)
  case atStart => exact rfl
  case round =>
    subst hrel
    go_wp2
    go_ret
    exact ⟨rfl, Below.refl _ _⟩
theorem eqStringS_any (v1 v2 : Value) (ss : List ByteArray) (w : World) (h1 : StrSl w v1 ss) (h2 : StrSl w v2 ss) (hn : ss.length ≤ maxLen) :
    Calls Tryz.prog 50 #[v1, v2] w fun e w' => e = .returned (.bool true) ∧ Below w.heap.size w w' := by
  rcases h1 with ⟨a, c, rfl, rfl⟩ | ⟨g, o, c, rfl, hp, h⟩
  · rcases h2 with ⟨a', c', rfl, _⟩ | ⟨g', o', c', rfl, hp', h'⟩
    · exact eqStringS_none a a' c c' w
    · simp at hp'
  · rcases h2 with ⟨a', c', rfl, h0⟩ | ⟨g', o', c', rfl, hp', h'⟩
    · rw [h0] at hp; simp at hp
    · exact eqStringS_row g o c g' o' c' ss w h h' hn
end Go.Proofs.YtadidjhcgmeadaaGreatDoor

/-
  A row of one's own: it stays, its base may be lower, its forms. Of no function.
-/
namespace Go.Proofs.YtadidjhcgmeadaaGreatDoor
open Go.RowKit

theorem ownB_stay {w w' : World} {base size n : Nat} {e : TypeId} {v : Value} {xs : List Value} (h : w.ownsRow base e size v n xs) (hb : Below w.heap.size w w') : w'.ownsRow base e size v n xs :=
  h.kept (grown_below (r := none) hb) (by cases v.ownBlock with
    | none => exact .inl rfl
    | some k => exact .inr (by simp))
theorem ownB_le {w : World} {base base' size n : Nat} {e : TypeId} {v : Value} {xs : List Value} (h : w.ownsRow base e size v n xs) (hb : base' ≤ base) : w.ownsRow base' e size v n xs :=
  ⟨h.1, h.2.imp id (fun ⟨g, cap, cur, a, b, c⟩ => ⟨g, cap, cur, a, Nat.le_trans hb b, c⟩)⟩
theorem ownB_form {w : World} {base size n : Nat} {e : TypeId} {v : Value} {xs : List Value} (h : w.ownsRow base e size v n xs) : ∃ a c, v = .slice a n c := by
  rcases h.2 with ⟨h0, rfl⟩ | ⟨g, cap, _, hv, _⟩
  · exact ⟨none, 0, h0⟩
  · exact ⟨_, cap, hv⟩
end Go.Proofs.YtadidjhcgmeadaaGreatDoor
