/-
  Texts put together: QuI, DfMath, At.
-/
import Derived.Test.YtimlnbfalnkmhaaGreatDoorZKd2
import Derived.Test.YtimlnbfalnkmhaaGreatDoorZOwnB6
import Derived.Test.YtimlnbfalnkmhaaGreatDoorZNm
/-
  Queries: what impl.isNumberField, isWordField, isField, isNumberOp, isWordOp answer: contracts over the seat's program.
-/
namespace Go.Proofs.YtimlnbfalnkmhaaGreatDoor
open Go.RowKit

theorem lit_b (f : ByteArray) (l : List UInt8) (q : ByteArray) (hq : q = ⟨l.toArray⟩) : (f.toList == l) = decide (f = q) := by
  subst hq
  by_cases h : f = ⟨l.toArray⟩
  · subst h; simp [ByteArray.toList_eq]
  · rw [decide_eq_false h, beq_eq_false_iff_ne]
    intro e
    rw [ByteArray.toList_eq] at e
    exact h (ByteArray.ext (Array.toList_inj.1 e))
theorem str_eqs {S T : ByteArray} (h : S = T) : (S.toList == T.toList) = true := by subst h; simp
theorem isNumberField_any (f : ByteArray) (w : World) :
    Calls Tryz.prog 89 #[.string f] w fun e w' => e = .returned (.bool (numF f)) ∧ w' = w := by
  have e0 : (f.toList == [115, 101, 113]) = decide (f = qSeq) := lit_b f _ _ rfl
  have e1 : (f.toList == [116, 105, 109, 101]) = decide (f = qTime) := lit_b f _ _ rfl
  have e2 : (f.toList == [114, 117, 110]) = decide (f = qRun) := lit_b f _ _ rfl
  unfold numF
  generalize decide (f = qSeq) = b0 at *
  generalize decide (f = qTime) = b1 at *
  generalize decide (f = qRun) = b2 at *
  cases b0 with
  | true =>
    clear e1 e2
    go_enter Tryz.func89, Tryz.ntmps89
    go_wp2
    go_ret
    exact ⟨by simp, rfl⟩
  | false =>
    cases b1 with
    | true =>
      clear e2
      go_enter Tryz.func89, Tryz.ntmps89
      go_wp2
      go_ret
      exact ⟨by simp, rfl⟩
    | false =>
      cases b2 with
      | true =>
        go_enter Tryz.func89, Tryz.ntmps89
        go_wp2
        go_ret
        exact ⟨by simp, rfl⟩
      | false =>
        go_enter Tryz.func89, Tryz.ntmps89
        go_wp2
        go_ret
        exact ⟨by simp, rfl⟩
theorem isWordField_any (f : ByteArray) (w : World) :
    Calls Tryz.prog 137 #[.string f] w fun e w' => e = .returned (.bool (wrdF f)) ∧ w' = w := by
  have e0 : (f.toList == [107, 105, 110, 100]) = decide (f = qKind) := lit_b f _ _ rfl
  have e1 : (f.toList == [115, 116, 101, 112]) = decide (f = qStep) := lit_b f _ _ rfl
  have e2 : (f.toList == [118, 97, 108, 117, 101]) = decide (f = qValue) := lit_b f _ _ rfl
  unfold wrdF
  generalize decide (f = qKind) = b0 at *
  generalize decide (f = qStep) = b1 at *
  generalize decide (f = qValue) = b2 at *
  cases b0 with
  | true =>
    clear e1 e2
    go_enter Tryz.func137, Tryz.ntmps137
    go_wp2
    go_ret
    exact ⟨by simp, rfl⟩
  | false =>
    cases b1 with
    | true =>
      clear e2
      go_enter Tryz.func137, Tryz.ntmps137
      go_wp2
      go_ret
      exact ⟨by simp, rfl⟩
    | false =>
      cases b2 with
      | true =>
        go_enter Tryz.func137, Tryz.ntmps137
        go_wp2
        go_ret
        exact ⟨by simp, rfl⟩
      | false =>
        go_enter Tryz.func137, Tryz.ntmps137
        go_wp2
        go_ret
        exact ⟨by simp, rfl⟩
theorem isNumberOp_any (f : ByteArray) (w : World) :
    Calls Tryz.prog 158 #[.string f] w fun e w' => e = .returned (.bool (numO f)) ∧ w' = w := by
  have e0 : (f.toList == [61]) = decide (f = oEq) := lit_b f _ _ rfl
  have e1 : (f.toList == [33, 61]) = decide (f = oNe) := lit_b f _ _ rfl
  have e2 : (f.toList == [60]) = decide (f = oLt) := lit_b f _ _ rfl
  have e3 : (f.toList == [60, 61]) = decide (f = oLe) := lit_b f _ _ rfl
  have e4 : (f.toList == [62]) = decide (f = oGt) := lit_b f _ _ rfl
  have e5 : (f.toList == [62, 61]) = decide (f = oGe) := lit_b f _ _ rfl
  unfold numO
  generalize decide (f = oEq) = b0 at *
  generalize decide (f = oNe) = b1 at *
  generalize decide (f = oLt) = b2 at *
  generalize decide (f = oLe) = b3 at *
  generalize decide (f = oGt) = b4 at *
  generalize decide (f = oGe) = b5 at *
  cases b0 with
  | true =>
    clear e1 e2 e3 e4 e5
    go_enter Tryz.func158, Tryz.ntmps158
    go_wp2
    go_ret
    exact ⟨by simp, rfl⟩
  | false =>
    cases b1 with
    | true =>
      clear e2 e3 e4 e5
      go_enter Tryz.func158, Tryz.ntmps158
      go_wp2
      go_ret
      exact ⟨by simp, rfl⟩
    | false =>
      cases b2 with
      | true =>
        clear e3 e4 e5
        go_enter Tryz.func158, Tryz.ntmps158
        go_wp2
        go_ret
        exact ⟨by simp, rfl⟩
      | false =>
        cases b3 with
        | true =>
          clear e4 e5
          go_enter Tryz.func158, Tryz.ntmps158
          go_wp2
          go_ret
          exact ⟨by simp, rfl⟩
        | false =>
          cases b4 with
          | true =>
            clear e5
            go_enter Tryz.func158, Tryz.ntmps158
            go_wp2
            go_ret
            exact ⟨by simp, rfl⟩
          | false =>
            cases b5 with
            | true =>
              go_enter Tryz.func158, Tryz.ntmps158
              go_wp2
              go_ret
              exact ⟨by simp, rfl⟩
            | false =>
              go_enter Tryz.func158, Tryz.ntmps158
              go_wp2
              go_ret
              exact ⟨by simp, rfl⟩
theorem isWordOp_any (f : ByteArray) (w : World) :
    Calls Tryz.prog 159 #[.string f] w fun e w' => e = .returned (.bool (wrdO f)) ∧ w' = w := by
  have e0 : (f.toList == [61]) = decide (f = oEq) := lit_b f _ _ rfl
  have e1 : (f.toList == [33, 61]) = decide (f = oNe) := lit_b f _ _ rfl
  unfold wrdO
  generalize decide (f = oEq) = b0 at *
  generalize decide (f = oNe) = b1 at *
  cases b0 with
  | true =>
    clear e1
    go_enter Tryz.func159, Tryz.ntmps159
    go_wp2
    go_ret
    exact ⟨by simp, rfl⟩
  | false =>
    cases b1 with
    | true =>
      go_enter Tryz.func159, Tryz.ntmps159
      go_wp2
      go_ret
      exact ⟨by simp, rfl⟩
    | false =>
      go_enter Tryz.func159, Tryz.ntmps159
      go_wp2
      go_ret
      exact ⟨by simp, rfl⟩
theorem isField_any (f : ByteArray) (w : World) :
    Calls Tryz.prog 88 #[.string f] w fun e w' => e = .returned (.bool (isF f)) ∧ w' = w := by
  have c1 := fun w => isNumberField_any f w
  have c2 := fun w => isWordField_any f w
  unfold isF
  generalize numF f = b1 at *
  generalize wrdF f = b2 at *
  cases b1 <;> cases b2
  all_goals (
    go_enter Tryz.func88, Tryz.ntmps88
    go_wp2_with (first
      | (go_at_call 89; refine (c1 _).mono ?_; rintro e w1 ⟨rfl, rfl⟩)
      | (go_at_call 137; refine (c2 _).mono ?_; rintro e w1 ⟨rfl, rfl⟩))
    go_ret
    exact ⟨by simp, rfl⟩)
end Go.Proofs.YtimlnbfalnkmhaaGreatDoor

/-
  What it is for a Def to be right: plain mathematics of lists. Of no function.
-/
namespace Go.Proofs.YtimlnbfalnkmhaaGreatDoor
open Go.RowKit

theorem nodup_of_take {α : Type} {l : List α} (h : ∀ i, (hi : i < l.length) → l[i] ∉ l.take i) : l.Nodup := by
  rw [List.Nodup, List.pairwise_iff_getElem]
  intro i j hi hj hij e
  exact h j hj (by rw [← e]; exact List.mem_take_iff_getElem.2 ⟨i, by omega, rfl⟩)
theorem twice_of_take {α : Type} {l : List α} {i : Nat} (hi : i < l.length) (h : l[i] ∈ l.take i) : ¬ l.Nodup := by
  intro hn
  rw [List.Nodup, List.pairwise_iff_getElem] at hn
  obtain ⟨j, hj, e⟩ := List.mem_take_iff_getElem.1 h
  exact hn j i (by omega) hi (by omega) e
theorem nodup_take {α : Type} {l : List α} (h : l.Nodup) {i : Nat} (hi : i < l.length) : l[i] ∉ l.take i := fun h' => twice_of_take hi h' h

/-- These steps, these flows: a right Def. -/
structure StepsP (ss : List ByteArray) : Prop where
  n1 : 1 ≤ ss.length
  n2 : ss.length ≤ 12
  nm : ∀ i, (h : i < ss.length) → nrB ss[i] = true
  nd : ss.Nodup
structure FlowsP (ss : List ByteArray) (fs : List Pr) : Prop where
  m : fs.length ≤ 40
  fl : ∀ i, (h : i < fs.length) → fs[i].fst ∈ ss ∧ fs[i].snd ∈ ss
  fd : fs.Nodup
def DefP (ss : List ByteArray) (fs : List Pr) : Prop := StepsP ss ∧ FlowsP ss fs
/-- A Bool that says so. -/
def Tells (b : Bool) (p : Prop) : Prop := b = true ↔ p
theorem Tells.yes {b : Bool} {p : Prop} (h : Tells b p) (hp : p) : b = true := h.2 hp
theorem Tells.no {b : Bool} {p : Prop} (h : Tells b p) (hp : ¬ p) : b = false := by
  cases b with
  | false => rfl
  | true => exact absurd (h.1 rfl) hp
theorem Tells.same {a b : Bool} {p : Prop} (h : Tells a p) (k : Tells b p) : a = b := by
  cases a with
  | true => exact (k.yes (h.1 rfl)).symm
  | false =>
    cases b with
    | false => rfl
    | true => exact h.2 (k.1 rfl)
theorem tells_t {p : Prop} (h : p) : Tells true p := ⟨fun _ => h, fun _ => rfl⟩
theorem tells_f {p : Prop} (h : ¬ p) : Tells false p := ⟨fun e => absurd e (by decide), fun k => absurd k h⟩
/-- A call that ends so tells whether p. -/
def RetB (e : Ending) (p : Prop) : Prop := ∃ B : Bool, e = .returned (.bool B) ∧ Tells B p
theorem retB_t {p : Prop} (h : p) : RetB (.returned (.bool true)) p := ⟨true, rfl, tells_t h⟩
theorem retB_f {p : Prop} (h : ¬ p) : RetB (.returned (.bool false)) p := ⟨false, rfl, tells_f h⟩
theorem RetB.yes {e : Ending} {p : Prop} (h : RetB e p) (hp : p) : e = .returned (.bool true) := by
  obtain ⟨B, rfl, hB⟩ := h; rw [hB.yes hp]
theorem RetB.no {e : Ending} {p : Prop} (h : RetB e p) (hp : ¬ p) : e = .returned (.bool false) := by
  obtain ⟨B, rfl, hB⟩ := h; rw [hB.no hp]
theorem calls_yes {P : Program} {f : FuncId} {args : Array Value} {w : World} {p : Prop} {R : World → Prop} (h : Calls P f args w fun e w' => RetB e p ∧ R w') (hp : p) : Calls P f args w fun e w' => e = .returned (.bool true) ∧ R w' :=
  h.mono fun _ _ ⟨h1, h2⟩ => ⟨h1.yes hp, h2⟩
theorem calls_no {P : Program} {f : FuncId} {args : Array Value} {w : World} {p : Prop} {R : World → Prop} (h : Calls P f args w fun e w' => RetB e p ∧ R w') (hp : ¬ p) : Calls P f args w fun e w' => e = .returned (.bool false) ∧ R w' :=
  h.mono fun _ _ ⟨h1, h2⟩ => ⟨h1.no hp, h2⟩
theorem pr_ext {a b : Pr} (h1 : a.fst = b.fst) (h2 : a.snd = b.snd) : a = b := by
  cases a; cases b; cases h1; cases h2; rfl
/-- The place of a text among others, or -1. -/
def atI (ss : List ByteArray) (t : ByteArray) : Int := match ss.findIdx? (fun x => decide (x = t)) with
  | some k => (k : Int)
  | none => -1
theorem atI_first {ss : List ByteArray} {t : ByteArray} {k : Nat} (hk : k < ss.length) (hn : ∀ j, j < k → (h : j < ss.length) → ss[j] ≠ t) (he : ss[k] = t) : atI ss t = k := by
  unfold atI
  rw [List.findIdx?_eq_some_iff_getElem.2 ⟨hk, by simpa using he, fun j hj => by simpa using hn j hj (by omega)⟩]
theorem atI_out {ss : List ByteArray} {t : ByteArray} (h : t ∉ ss) : atI ss t = -1 := by
  unfold atI
  rw [List.findIdx?_eq_none_iff.2 (fun x hx => by simp; exact fun e => h (e ▸ hx))]
theorem atI_in {ss : List ByteArray} {t : ByteArray} (h : t ∈ ss) : ∃ k : Nat, ∃ hk : k < ss.length, atI ss t = k ∧ ss[k] = t ∧ ∀ j, j < k → (h : j < ss.length) → ss[j] ≠ t := by
  unfold atI
  cases hf : ss.findIdx? (fun x => decide (x = t)) with
  | none => exact absurd (List.findIdx?_eq_none_iff.1 hf t h) (by simp)
  | some k =>
    obtain ⟨hk, h1, h2⟩ := List.findIdx?_eq_some_iff_getElem.1 hf
    exact ⟨k, hk, rfl, by simpa using h1, fun j hj _ => by simpa using h2 j hj⟩
theorem atI_none {ss : List ByteArray} {t : ByteArray} (hn : ∀ j, (h : j < ss.length) → ss[j] ≠ t) : atI ss t = -1 :=
  atI_out (fun h => by obtain ⟨j, hj, e⟩ := List.mem_iff_getElem.1 h; exact hn j hj e)
theorem atI_ge {ss : List ByteArray} {t : ByteArray} : 0 ≤ atI ss t ↔ t ∈ ss := by
  by_cases h : t ∈ ss
  · obtain ⟨k, _, e, _⟩ := atI_in h
    rw [e]; exact ⟨fun _ => h, fun _ => by omega⟩
  · rw [atI_out h]; exact ⟨fun e => absurd e (by decide), fun e => absurd e h⟩
theorem atI_lo (ss : List ByteArray) (t : ByteArray) : -1 ≤ atI ss t := by
  by_cases h : t ∈ ss
  · have := atI_ge.2 h; omega
  · rw [atI_out h]; decide
theorem atI_hi (ss : List ByteArray) (t : ByteArray) : atI ss t < ss.length ∨ atI ss t = -1 := by
  by_cases h : t ∈ ss
  · obtain ⟨k, hk, e, _⟩ := atI_in h; left; omega
  · right; exact atI_out h
/-- Is a text among others? -/
def inB (ss : List ByteArray) (t : ByteArray) : Bool := decide (0 ≤ atI ss t)
theorem inB_yes {ss : List ByteArray} {t : ByteArray} (h : t ∈ ss) : inB ss t = true := decide_eq_true (atI_ge.2 h)
theorem inB_no {ss : List ByteArray} {t : ByteArray} (h : t ∉ ss) : inB ss t = false := decide_eq_false (fun e => h (atI_ge.1 e))
theorem ne_step {α : Type} {l : List α} {t : α} {k : Nat} {hk : k < l.length} (ha : ∀ j, j < k → (h : j < l.length) → l[j] ≠ t) (ho : l[k] ≠ t) : ∀ j, j < k + 1 → (h : j < l.length) → l[j] ≠ t := by
  intro j hj h
  by_cases e : j = k
  · subst e; exact ho
  · exact ha j (by omega) h
theorem ne_all {α : Type} {l : List α} {t : α} {k : Nat} (ha : ∀ j, j < k → (h : j < l.length) → l[j] ≠ t) (hk : l.length ≤ k) : t ∉ l := by
  intro h
  obtain ⟨j, hj, e⟩ := List.mem_iff_getElem.1 h
  exact ha j (by omega) hj e
theorem str_eq {S T : ByteArray} (h : S = T) : (S.toList == T.toList) = true := by subst h; simp
end Go.Proofs.YtimlnbfalnkmhaaGreatDoor

/-
  What spec.l03At, slices.Index and slices.Contains answer at a row of texts: contracts over the seat's program.
-/
namespace Go.Proofs.YtimlnbfalnkmhaaGreatDoor
open Go.RowKit

theorem l03At_row (g o c : Nat) (ss : List ByteArray) (t : ByteArray) (w : World) (hE : StrsAt w g o ss) (hn : ss.length ≤ maxLen) :
    Calls Tryz.prog 86 #[.slice (some ⟨g, o, none⟩) ss.length c, .string t] w fun e w' => e = .returned (.int .i64 (atI ss t)) ∧ w' = w := by
  unfold maxLen at hn
  have HE := hid hE
  clear hE
  go_enter Tryz.func86, Tryz.ntmps86
  go_wp2
  go_loop [5] (fun i => ∃ k : Nat, k ≤ ss.length ∧ i = .int .i64 k ∧ ∀ j, j < k → (h : j < ss.length) → ss[j] ≠ t) (fun i => ss.length - (intOf i).toNat)
  case atStart => exact ⟨0, Nat.zero_le _, rfl, fun j hj => absurd hj (by omega)⟩
  case round =>
    obtain ⟨k, hk, rfl, hall⟩ := hrel
    have HA := hid hall
    clear hall
    by_cases hlt : k < ss.length
    · have c0 := HE.out.2 k hlt
      by_cases he : ss[k] = t
      · have HF := hid (atI_first hlt HA.out he)
        rw [he] at c0
        clear he
        go_wp2
        go_ret
        exact ⟨ret_int HF.out.symm, rfl⟩
      · have HO := hid (ne_step (hk := hlt) HA.out he)
        have hne := str_ne he
        clear he
        go_wp2
        go_round
        case rel => exact ⟨k + 1, by omega, by go_num, HO.out⟩
        case measure => simp [intOf]; omega
    · have HF := hid (atI_out (ne_all HA.out (by omega)))
      go_wp2
      go_ret
      exact ⟨ret_int HF.out.symm, rfl⟩
theorem l03At_none (a : Option Addr) (c : Nat) (t : ByteArray) (w : World) :
    Calls Tryz.prog 86 #[.slice a 0 c, .string t] w fun e w' => e = .returned (.int .i64 (-1)) ∧ w' = w := by
  go_enter Tryz.func86, Tryz.ntmps86
  go_wp2
  go_loop [5] (fun i => i = .int .i64 0) (fun _ => 0)
  case atStart => exact rfl
  case round =>
    subst hrel
    go_wp2
    go_ret
    exact ⟨rfl, rfl⟩
theorem l03At_any (v : Value) (ss : List ByteArray) (t : ByteArray) (w : World) (h : StrSl w v ss) (hn : ss.length ≤ maxLen) :
    Calls Tryz.prog 86 #[v, .string t] w fun e w' => e = .returned (.int .i64 (atI ss t)) ∧ w' = w := by
  rcases h with ⟨a, c, rfl, rfl⟩ | ⟨g, o, c, rfl, _, h⟩
  · exact l03At_none a c t w
  · exact l03At_row g o c ss t w h hn
end Go.Proofs.YtimlnbfalnkmhaaGreatDoor
