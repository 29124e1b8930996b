/-
  Texts put together: DfMath, At.
-/
import Derived.Test.YthgmphmghnonbaaDoorZStrs
import Derived.Test.YthgmphmghnonbaaDoorZNm
/-
  What it is for a Def to be right: plain mathematics of lists. Of no function.
-/
namespace Go.Proofs.YthgmphmghnonbaaDoor
open Go.RowKit

theorem nodup_of_take {α : Type} {l : List α} (h : ∀ i, (hi : i < l.length) → l[i] ∉ l.take i) : l.Nodup := by
  rw [List.Nodup, List.pairwise_iff_getElem]
  intro i j hi hj hij e
  exact h j hj (by rw [← e]; exact List.mem_take_iff_getElem.2 ⟨i, by omega, rfl⟩)
theorem twice_of_take {α : Type} {l : List α} {i : Nat} (hi : i < l.length) (h : l[i] ∈ l.take i) : ¬ l.Nodup := by
  intro hn
  rw [List.Nodup, List.pairwise_iff_getElem] at hn
  obtain ⟨j, hj, e⟩ := List.mem_take_iff_getElem.1 h
  exact hn j i (by omega) hi (by omega) e
theorem nodup_take {α : Type} {l : List α} (h : l.Nodup) {i : Nat} (hi : i < l.length) : l[i] ∉ l.take i := fun h' => twice_of_take hi h' h

/-- These steps, these flows: a right Def. -/
structure StepsP (ss : List ByteArray) : Prop where
  n1 : 1 ≤ ss.length
  n2 : ss.length ≤ 12
  nm : ∀ i, (h : i < ss.length) → nrB ss[i] = true
  nd : ss.Nodup
structure FlowsP (ss : List ByteArray) (fs : List Pr) : Prop where
  m : fs.length ≤ 40
  fl : ∀ i, (h : i < fs.length) → fs[i].fst ∈ ss ∧ fs[i].snd ∈ ss
  fd : fs.Nodup
def DefP (ss : List ByteArray) (fs : List Pr) : Prop := StepsP ss ∧ FlowsP ss fs
/-- A Bool that says so. -/
def Tells (b : Bool) (p : Prop) : Prop := b = true ↔ p
theorem Tells.yes {b : Bool} {p : Prop} (h : Tells b p) (hp : p) : b = true := h.2 hp
theorem Tells.no {b : Bool} {p : Prop} (h : Tells b p) (hp : ¬ p) : b = false := by
  cases b with
  | false => rfl
  | true => exact absurd (h.1 rfl) hp
theorem Tells.same {a b : Bool} {p : Prop} (h : Tells a p) (k : Tells b p) : a = b := by
  cases a with
  | true => exact (k.yes (h.1 rfl)).symm
  | false =>
    cases b with
    | false => rfl
    | true => exact h.2 (k.1 rfl)
theorem tells_t {p : Prop} (h : p) : Tells true p := ⟨fun _ => h, fun _ => rfl⟩
theorem tells_f {p : Prop} (h : ¬ p) : Tells false p := ⟨fun e => absurd e (by decide), fun k => absurd k h⟩
/-- A call that ends so tells whether p. -/
def RetB (e : Ending) (p : Prop) : Prop := ∃ B : Bool, e = .returned (.bool B) ∧ Tells B p
theorem retB_t {p : Prop} (h : p) : RetB (.returned (.bool true)) p := ⟨true, rfl, tells_t h⟩
theorem retB_f {p : Prop} (h : ¬ p) : RetB (.returned (.bool false)) p := ⟨false, rfl, tells_f h⟩
theorem RetB.yes {e : Ending} {p : Prop} (h : RetB e p) (hp : p) : e = .returned (.bool true) := by
  obtain ⟨B, rfl, hB⟩ := h; rw [hB.yes hp]
theorem RetB.no {e : Ending} {p : Prop} (h : RetB e p) (hp : ¬ p) : e = .returned (.bool false) := by
  obtain ⟨B, rfl, hB⟩ := h; rw [hB.no hp]
theorem calls_yes {P : Program} {f : FuncId} {args : Array Value} {w : World} {p : Prop} {R : World → Prop} (h : Calls P f args w fun e w' => RetB e p ∧ R w') (hp : p) : Calls P f args w fun e w' => e = .returned (.bool true) ∧ R w' :=
  h.mono fun _ _ ⟨h1, h2⟩ => ⟨h1.yes hp, h2⟩
theorem calls_no {P : Program} {f : FuncId} {args : Array Value} {w : World} {p : Prop} {R : World → Prop} (h : Calls P f args w fun e w' => RetB e p ∧ R w') (hp : ¬ p) : Calls P f args w fun e w' => e = .returned (.bool false) ∧ R w' :=
  h.mono fun _ _ ⟨h1, h2⟩ => ⟨h1.no hp, h2⟩
theorem pr_ext {a b : Pr} (h1 : a.fst = b.fst) (h2 : a.snd = b.snd) : a = b := by
  cases a; cases b; cases h1; cases h2; rfl
/-- The place of a text among others, or -1. -/
def atI (ss : List ByteArray) (t : ByteArray) : Int := match ss.findIdx? (fun x => decide (x = t)) with
  | some k => (k : Int)
  | none => -1
theorem atI_first {ss : List ByteArray} {t : ByteArray} {k : Nat} (hk : k < ss.length) (hn : ∀ j, j < k → (h : j < ss.length) → ss[j] ≠ t) (he : ss[k] = t) : atI ss t = k := by
  unfold atI
  rw [List.findIdx?_eq_some_iff_getElem.2 ⟨hk, by simpa using he, fun j hj => by simpa using hn j hj (by omega)⟩]
theorem atI_out {ss : List ByteArray} {t : ByteArray} (h : t ∉ ss) : atI ss t = -1 := by
  unfold atI
  rw [List.findIdx?_eq_none_iff.2 (fun x hx => by simp; exact fun e => h (e ▸ hx))]
theorem atI_in {ss : List ByteArray} {t : ByteArray} (h : t ∈ ss) : ∃ k : Nat, ∃ hk : k < ss.length, atI ss t = k ∧ ss[k] = t ∧ ∀ j, j < k → (h : j < ss.length) → ss[j] ≠ t := by
  unfold atI
  cases hf : ss.findIdx? (fun x => decide (x = t)) with
  | none => exact absurd (List.findIdx?_eq_none_iff.1 hf t h) (by simp)
  | some k =>
    obtain ⟨hk, h1, h2⟩ := List.findIdx?_eq_some_iff_getElem.1 hf
    exact ⟨k, hk, rfl, by simpa using h1, fun j hj _ => by simpa using h2 j hj⟩
theorem atI_none {ss : List ByteArray} {t : ByteArray} (hn : ∀ j, (h : j < ss.length) → ss[j] ≠ t) : atI ss t = -1 :=
  atI_out (fun h => by obtain ⟨j, hj, e⟩ := List.mem_iff_getElem.1 h; exact hn j hj e)
theorem atI_ge {ss : List ByteArray} {t : ByteArray} : 0 ≤ atI ss t ↔ t ∈ ss := by
  by_cases h : t ∈ ss
  · obtain ⟨k, _, e, _⟩ := atI_in h
    rw [e]; exact ⟨fun _ => h, fun _ => by omega⟩
  · rw [atI_out h]; exact ⟨fun e => absurd e (by decide), fun e => absurd e h⟩
theorem atI_lo (ss : List ByteArray) (t : ByteArray) : -1 ≤ atI ss t := by
  by_cases h : t ∈ ss
  · have := atI_ge.2 h; omega
  · rw [atI_out h]; decide
theorem atI_hi (ss : List ByteArray) (t : ByteArray) : atI ss t < ss.length ∨ atI ss t = -1 := by
  by_cases h : t ∈ ss
  · obtain ⟨k, hk, e, _⟩ := atI_in h; left; omega
  · right; exact atI_out h
/-- Is a text among others? -/
def inB (ss : List ByteArray) (t : ByteArray) : Bool := decide (0 ≤ atI ss t)
theorem inB_yes {ss : List ByteArray} {t : ByteArray} (h : t ∈ ss) : inB ss t = true := decide_eq_true (atI_ge.2 h)
theorem inB_no {ss : List ByteArray} {t : ByteArray} (h : t ∉ ss) : inB ss t = false := decide_eq_false (fun e => h (atI_ge.1 e))
theorem ne_step {α : Type} {l : List α} {t : α} {k : Nat} {hk : k < l.length} (ha : ∀ j, j < k → (h : j < l.length) → l[j] ≠ t) (ho : l[k] ≠ t) : ∀ j, j < k + 1 → (h : j < l.length) → l[j] ≠ t := by
  intro j hj h
  by_cases e : j = k
  · subst e; exact ho
  · exact ha j (by omega) h
theorem ne_all {α : Type} {l : List α} {t : α} {k : Nat} (ha : ∀ j, j < k → (h : j < l.length) → l[j] ≠ t) (hk : l.length ≤ k) : t ∉ l := by
  intro h
  obtain ⟨j, hj, e⟩ := List.mem_iff_getElem.1 h
  exact ha j (by omega) hj e
theorem str_eq {S T : ByteArray} (h : S = T) : (S.toList == T.toList) = true := by subst h; simp
end Go.Proofs.YthgmphmghnonbaaDoor

/-
  What spec.l03At, slices.Index and slices.Contains answer at a row of texts: contracts over the seat's program.
-/
namespace Go.Proofs.YthgmphmghnonbaaDoor
open Go.RowKit

theorem l03At_row (g o c : Nat) (ss : List ByteArray) (t : ByteArray) (w : World) (hE : StrsAt w g o ss) (hn : ss.length ≤ maxLen) :
    Calls Tryd.prog 39 #[.slice (some ⟨g, o, none⟩) ss.length c, .string t] w fun e w' => e = .returned (.int .i64 (atI ss t)) ∧ w' = w := by
  unfold maxLen at hn
  have HE := hid hE
  clear hE
  go_enter Tryd.func39, Tryd.ntmps39
  go_wp2
  go_loop [5] (fun i => ∃ k : Nat, k ≤ ss.length ∧ i = .int .i64 k ∧ ∀ j, j < k → (h : j < ss.length) → ss[j] ≠ t) (fun i => ss.length - (intOf i).toNat)
  case atStart => exact ⟨0, Nat.zero_le _, rfl, fun j hj => absurd hj (by omega)⟩
  case round =>
    obtain ⟨k, hk, rfl, hall⟩ := hrel
    have HA := hid hall
    clear hall
    by_cases hlt : k < ss.length
    · have c0 := HE.out.2 k hlt
      by_cases he : ss[k] = t
      · have HF := hid (atI_first hlt HA.out he)
        rw [he] at c0
        clear he
        go_wp2
        go_ret
        exact ⟨ret_int HF.out.symm, rfl⟩
      · have HO := hid (ne_step (hk := hlt) HA.out he)
        have hne := str_ne he
        clear he
        go_wp2
        go_round
        case rel => exact ⟨k + 1, by omega, by go_num, HO.out⟩
        case measure => simp [intOf]; omega
    · have HF := hid (atI_out (ne_all HA.out (by omega)))
      go_wp2
      go_ret
      exact ⟨ret_int HF.out.symm, rfl⟩
theorem l03At_none (a : Option Addr) (c : Nat) (t : ByteArray) (w : World) :
    Calls Tryd.prog 39 #[.slice a 0 c, .string t] w fun e w' => e = .returned (.int .i64 (-1)) ∧ w' = w := by
  go_enter Tryd.func39, Tryd.ntmps39
  go_wp2
  go_loop [5] (fun i => i = .int .i64 0) (fun _ => 0)
  case atStart => exact rfl
  case round =>
    subst hrel
    go_wp2
    go_ret
    exact ⟨rfl, rfl⟩
theorem l03At_any (v : Value) (ss : List ByteArray) (t : ByteArray) (w : World) (h : StrSl w v ss) (hn : ss.length ≤ maxLen) :
    Calls Tryd.prog 39 #[v, .string t] w fun e w' => e = .returned (.int .i64 (atI ss t)) ∧ w' = w := by
  rcases h with ⟨a, c, rfl, rfl⟩ | ⟨g, o, c, rfl, _, h⟩
  · exact l03At_none a c t w
  · exact l03At_row g o c ss t w h hn
end Go.Proofs.YthgmphmghnonbaaDoor
