/-
  Texts put together: EvAM, EvAS.
-/
import Derived.Test.YtadidjhcgmeadaaGreatDoorZEvT5
import Derived.Test.YtadidjhcgmeadaaGreatDoorZEvI4
/-
  All of a row of events are right, told by a Bool. Of no function.
-/
namespace Go.Proofs.YtadidjhcgmeadaaGreatDoor
open Go.RowKit

def allB (es : List Ev) : Bool := es.all evB
theorem allB_yes {es : List Ev} (h : ∀ j, (hj : j < es.length) → evB es[j] = true) : allB es = true := by
  unfold allB; rw [List.all_eq_true]
  intro x hx
  obtain ⟨j, hj, rfl⟩ := List.mem_iff_getElem.1 hx
  exact h j hj
theorem allB_no {es : List Ev} {j : Nat} (hj : j < es.length) (h : evB es[j] = false) : allB es = false := by
  unfold allB; rw [List.all_eq_false]
  exact ⟨es[j], List.getElem_mem hj, by simp [h]⟩
theorem allB_at {es : List Ev} (h : allB es = true) {j : Nat} (hj : j < es.length) : evB es[j] = true := List.all_eq_true.1 h _ (List.getElem_mem hj)
theorem all_step {es : List Ev} {k : Nat} {hk : k < es.length} (ha : ∀ j, j < k → (h : j < es.length) → evB es[j] = true) (ho : evB es[k] = true) : ∀ j, j < k + 1 → (h : j < es.length) → evB es[j] = true := by
  intro j hj h
  by_cases e : j = k
  · subst e; exact ho
  · exact ha j (by omega) h
end Go.Proofs.YtadidjhcgmeadaaGreatDoor

/-
  What spec.l02All answers, for every row of events: a contract over the seat's program.
-/
namespace Go.Proofs.YtadidjhcgmeadaaGreatDoor
open Go.RowKit

set_option maxRecDepth 100000 in
theorem l02All_row (g o c : Nat) (es : List Ev) (w : World) (hE : EvsAt w g o es) (hF : Fit es) (hn : es.length ≤ maxLen) :
    Calls Tryz.prog 78 #[.slice (some ⟨g, o, none⟩) es.length c] w fun e w' => e = .returned (.bool (allB es && decide ((es.length : Int) ≤ 200))) ∧ Below w.heap.size w w' := by
  unfold maxLen at hn
  have HE := hid hE
  clear hE
  go_enter Tryz.func78, Tryz.ntmps78
  go_wp2
  go_loopw [3] (fun i wr => ∃ k : Nat, k ≤ es.length ∧ i = .int .i64 k ∧ (∀ j, j < k → (h : j < es.length) → evB es[j] = true) ∧ Below w.heap.size w wr) (fun i _ => es.length - (intOf i).toNat)
  case atStart => exact ⟨0, Nat.zero_le _, rfl, fun j hj => absurd hj (by omega), Below.refl _ _⟩
  case round =>
    obtain ⟨k, hk, rfl, hall, hbel⟩ := hrel
    have HA := hid hall
    clear hall
    by_cases hlt : k < es.length
    · obtain ⟨c0, c1, c2, c3, c4, c5⟩ := (HE.out.stay hbel (Nat.le_refl _)).2 k hlt
      have cz : ∀ w, Calls Tryz.prog 91 #[.agg #[.int .i64 es[k].seq, .int .i64 es[k].time, .int .i64 es[k].run, .int .i64 es[k].kind, .string es[k].step, .string es[k].val]] w fun e w' => e = .returned (.bool (evB es[k])) ∧ Below w.heap.size w w' := fun w => specEventRight_any es[k].seq es[k].time es[k].run es[k].kind es[k].step es[k].val w (hF k hlt).1
      cases hr : evB es[k] with
      | false =>
        rw [hr] at cz
        have HR := hid hr
        clear hr
        go_wp2_with fail
        refine (cz _).mono ?_
        rintro e w2 ⟨rfl, hb2⟩
        have hbel2 := hbel.trans (hb2.mono hbel.size)
        clear c0 c1 c2 c3 c4 c5 hb2 cz
        go_wp2
        go_ret
        exact ⟨ret_bool (by rw [allB_no hlt HR.out]; rfl), hbel2⟩
      | true =>
        rw [hr] at cz
        have HR := hid hr
        clear hr
        go_wp2_with fail
        refine (cz _).mono ?_
        rintro e w2 ⟨rfl, hb2⟩
        have hbel2 := hbel.trans (hb2.mono hbel.size)
        clear c0 c1 c2 c3 c4 c5 hb2 cz
        go_wp2
        go_roundw
        case rel => exact ⟨k + 1, by omega, by go_num, all_step HA.out HR.out, hbel2⟩
        case measure => simp [intOf]; omega
    · go_wp2
      go_ret
      exact ⟨ret_bool (by rw [allB_yes (fun j hj => HA.out j (by omega) hj)]; rfl), hbel⟩
theorem l02All_none (a : Option Addr) (c : Nat) (w : World) :
    Calls Tryz.prog 78 #[.slice a 0 c] w fun e w' => e = .returned (.bool true) ∧ Below w.heap.size w w' := by
  go_enter Tryz.func78, Tryz.ntmps78
  go_wp2
  go_loop [3] (fun i => i = .int .i64 0) (fun _ => 0)
  case atStart => exact rfl
  case round =>
    subst hrel
    go_wp2
    go_ret
    exact ⟨rfl, Below.refl _ _⟩
theorem l02All_any (v : Value) (es : List Ev) (w : World) (h : EvSl w v es) (hF : Fit es) (hn : es.length ≤ maxLen) :
    Calls Tryz.prog 78 #[v] w fun e w' => e = .returned (.bool (allB es && decide ((es.length : Int) ≤ 200))) ∧ Below w.heap.size w w' := by
  rcases h with ⟨a, c, rfl, rfl⟩ | ⟨g, o, c, rfl, _, h⟩
  · exact l02All_none a c w
  · exact l02All_row g o c es w h hF hn
end Go.Proofs.YtadidjhcgmeadaaGreatDoor
