/-
  What spec.l02All, impl.allRight and laws.eqEventS answer, for every row of events: contracts over the seat's program.
-/
import Derived.Test.YticnffakngpkfaaDoorEvS
import Derived.Test.YticnffakngpkfaaDoorEvSp
namespace Go.Proofs.YticnffakngpkfaaDoor
open Go.RowKit

/-- The texts of these events can be handed about. -/
def Fit (es : List Ev) : Prop := ∀ i, (h : i < es.length) → es[i].step.size ≤ maxLen ∧ es[i].val.size ≤ maxLen
def allB (es : List Ev) : Bool := es.all evB
theorem allB_yes {es : List Ev} (h : ∀ j, (hj : j < es.length) → evB es[j] = true) : allB es = true := by
  unfold allB; rw [List.all_eq_true]
  intro x hx
  obtain ⟨j, hj, rfl⟩ := List.mem_iff_getElem.1 hx
  exact h j hj
theorem allB_no {es : List Ev} {j : Nat} (hj : j < es.length) (h : evB es[j] = false) : allB es = false := by
  unfold allB; rw [List.all_eq_false]
  exact ⟨es[j], List.getElem_mem hj, by simp [h]⟩
theorem allB_at {es : List Ev} (h : allB es = true) {j : Nat} (hj : j < es.length) : evB es[j] = true := List.all_eq_true.1 h _ (List.getElem_mem hj)
theorem all_step {es : List Ev} {k : Nat} {hk : k < es.length} (ha : ∀ j, j < k → (h : j < es.length) → evB es[j] = true) (ho : evB es[k] = true) : ∀ j, j < k + 1 → (h : j < es.length) → evB es[j] = true := by
  intro j hj h
  by_cases e : j = k
  · subst e; exact ho
  · exact ha j (by omega) h

set_option maxRecDepth 100000 in
theorem allRight_row (g o c : Nat) (es : List Ev) (w : World) (hE : EvsAt w g o es) (hF : Fit es) (hn : es.length ≤ maxLen) :
    Calls Tryd.prog 20 #[.slice (some ⟨g, o, none⟩) es.length c] w fun e w' => e = .returned (.bool (allB es)) ∧ Below w.heap.size w w' := by
  unfold maxLen at hn
  have HE := hid hE
  clear hE
  go_enter Tryd.func20, Tryd.ntmps20
  go_wp2
  go_loopw [7] (fun i wr => ∃ k : Nat, k ≤ es.length ∧ i = .int .i64 k ∧ (∀ j, j < k → (h : j < es.length) → evB es[j] = true) ∧ Below w.heap.size w wr) (fun i _ => es.length - (intOf i).toNat)
  case atStart => exact ⟨0, Nat.zero_le _, rfl, fun j hj => absurd hj (by omega), Below.refl _ _⟩
  case round =>
    obtain ⟨k, hk, rfl, hall, hbel⟩ := hrel
    have HA := hid hall
    clear hall
    by_cases hlt : k < es.length
    · obtain ⟨c0, c1, c2, c3, c4, c5⟩ := (HE.out.stay hbel (Nat.le_refl _)).2 k hlt
      have cz : ∀ w, Calls Tryd.prog 13 #[.agg #[.int .i64 es[k].seq, .int .i64 es[k].time, .int .i64 es[k].run, .int .i64 es[k].kind, .string es[k].step, .string es[k].val]] w fun e w' => e = .returned (.bool (evB es[k])) ∧ Below w.heap.size w w' := fun w => implEventRight_any es[k].seq es[k].time es[k].run es[k].kind es[k].step es[k].val w (hF k hlt).1
      cases hr : evB es[k] with
      | false =>
        rw [hr] at cz
        have HR := hid hr
        clear hr
        go_wp2_with fail
        refine (cz _).mono ?_
        rintro e w2 ⟨rfl, hb2⟩
        have hbel2 := (hbel.alloc hbel.size _).trans (hb2.mono (by have := hbel.size; simp; omega))
        clear c0 c1 c2 c3 c4 c5 hb2 cz
        go_wp2
        go_ret
        exact ⟨ret_bool (allB_no hlt HR.out).symm, hbel2⟩
      | true =>
        rw [hr] at cz
        have HR := hid hr
        clear hr
        go_wp2_with fail
        refine (cz _).mono ?_
        rintro e w2 ⟨rfl, hb2⟩
        have hbel2 := (hbel.alloc hbel.size _).trans (hb2.mono (by have := hbel.size; simp; omega))
        clear c0 c1 c2 c3 c4 c5 hb2 cz
        go_wp2
        go_roundw
        case rel => exact ⟨k + 1, by omega, by go_num, all_step HA.out HR.out, hbel2⟩
        case measure => simp [intOf]; omega
    · go_wp2
      go_ret
      exact ⟨ret_bool (allB_yes (fun j hj => HA.out j (by omega) hj)).symm, hbel⟩
theorem allRight_none (a : Option Addr) (c : Nat) (w : World) :
    Calls Tryd.prog 20 #[.slice a 0 c] w fun e w' => e = .returned (.bool true) ∧ Below w.heap.size w w' := by
  go_enter Tryd.func20, Tryd.ntmps20
  go_wp2
  go_loop [7] (fun i => i = .int .i64 0) (fun _ => 0)
  case atStart => exact rfl
  case round =>
    subst hrel
    go_wp2
    go_ret
    exact ⟨rfl, Below.refl _ _⟩
theorem allRight_any (v : Value) (es : List Ev) (w : World) (h : EvSl w v es) (hF : Fit es) (hn : es.length ≤ maxLen) :
    Calls Tryd.prog 20 #[v] w fun e w' => e = .returned (.bool (allB es)) ∧ Below w.heap.size w w' := by
  rcases h with ⟨a, c, rfl, rfl⟩ | ⟨g, o, c, rfl, _, h⟩
  · exact allRight_none a c w
  · exact allRight_row g o c es w h hF hn

set_option maxRecDepth 100000 in
theorem l02All_row (g o c : Nat) (es : List Ev) (w : World) (hE : EvsAt w g o es) (hF : Fit es) (hn : es.length ≤ maxLen) :
    Calls Tryd.prog 24 #[.slice (some ⟨g, o, none⟩) es.length c] w fun e w' => e = .returned (.bool (allB es && decide ((es.length : Int) ≤ 200))) ∧ Below w.heap.size w w' := by
  unfold maxLen at hn
  have HE := hid hE
  clear hE
  go_enter Tryd.func24, Tryd.ntmps24
  go_wp2
  go_loopw [3] (fun i wr => ∃ k : Nat, k ≤ es.length ∧ i = .int .i64 k ∧ (∀ j, j < k → (h : j < es.length) → evB es[j] = true) ∧ Below w.heap.size w wr) (fun i _ => es.length - (intOf i).toNat)
  case atStart => exact ⟨0, Nat.zero_le _, rfl, fun j hj => absurd hj (by omega), Below.refl _ _⟩
  case round =>
    obtain ⟨k, hk, rfl, hall, hbel⟩ := hrel
    have HA := hid hall
    clear hall
    by_cases hlt : k < es.length
    · obtain ⟨c0, c1, c2, c3, c4, c5⟩ := (HE.out.stay hbel (Nat.le_refl _)).2 k hlt
      have cz : ∀ w, Calls Tryd.prog 14 #[.agg #[.int .i64 es[k].seq, .int .i64 es[k].time, .int .i64 es[k].run, .int .i64 es[k].kind, .string es[k].step, .string es[k].val]] w fun e w' => e = .returned (.bool (evB es[k])) ∧ Below w.heap.size w w' := fun w => specEventRight_any es[k].seq es[k].time es[k].run es[k].kind es[k].step es[k].val w (hF k hlt).1
      cases hr : evB es[k] with
      | false =>
        rw [hr] at cz
        have HR := hid hr
        clear hr
        go_wp2_with fail
        refine (cz _).mono ?_
        rintro e w2 ⟨rfl, hb2⟩
        have hbel2 := hbel.trans (hb2.mono hbel.size)
        clear c0 c1 c2 c3 c4 c5 hb2 cz
        go_wp2
        go_ret
        exact ⟨ret_bool (by rw [allB_no hlt HR.out]; rfl), hbel2⟩
      | true =>
        rw [hr] at cz
        have HR := hid hr
        clear hr
        go_wp2_with fail
        refine (cz _).mono ?_
        rintro e w2 ⟨rfl, hb2⟩
        have hbel2 := hbel.trans (hb2.mono hbel.size)
        clear c0 c1 c2 c3 c4 c5 hb2 cz
        go_wp2
        go_roundw
        case rel => exact ⟨k + 1, by omega, by go_num, all_step HA.out HR.out, hbel2⟩
        case measure => simp [intOf]; omega
    · go_wp2
      go_ret
      exact ⟨ret_bool (by rw [allB_yes (fun j hj => HA.out j (by omega) hj)]; rfl), hbel⟩
theorem l02All_none (a : Option Addr) (c : Nat) (w : World) :
    Calls Tryd.prog 24 #[.slice a 0 c] w fun e w' => e = .returned (.bool true) ∧ Below w.heap.size w w' := by
  go_enter Tryd.func24, Tryd.ntmps24
  go_wp2
  go_loop [3] (fun i => i = .int .i64 0) (fun _ => 0)
  case atStart => exact rfl
  case round =>
    subst hrel
    go_wp2
    go_ret
    exact ⟨rfl, Below.refl _ _⟩
theorem l02All_any (v : Value) (es : List Ev) (w : World) (h : EvSl w v es) (hF : Fit es) (hn : es.length ≤ maxLen) :
    Calls Tryd.prog 24 #[v] w fun e w' => e = .returned (.bool (allB es && decide ((es.length : Int) ≤ 200))) ∧ Below w.heap.size w w' := by
  rcases h with ⟨a, c, rfl, rfl⟩ | ⟨g, o, c, rfl, _, h⟩
  · exact l02All_none a c w
  · exact l02All_row g o c es w h hF hn
end Go.Proofs.YticnffakngpkfaaDoor
