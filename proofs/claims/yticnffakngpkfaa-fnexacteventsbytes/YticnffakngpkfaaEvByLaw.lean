/-
  The law FnExactEventsBytes: spec.EventsBytes and impl.EventsBytes answer the same at every row of events, and the row stays as it was.
-/
import Derived.Test.YticnffakngpkfaaEvBy
import Derived.Test.YticnffakngpkfaaEvTo
import Derived.Test.YticnffakngpkfaaEvEq
namespace Go.Proofs.Yticnffakngpkfaa
open Go.RowKit

theorem szEventS_any (v : Value) (es : List Ev) (w : World) (h : EvSl w v es) (hF : Fit es) (hn : es.length ≤ maxLen) :
    Calls Try.prog 10 #[v, .int .i64 1048576] w fun e w' => e = .returned (.int .i64 (szR 1048576 es)) ∧ Below w.heap.size w w' := by
  rcases h with ⟨a, c, rfl, rfl⟩ | ⟨g, o, c, rfl, _, h⟩
  · refine (szEventS_none a c 1048576 w (by decide) (by decide)).mono ?_
    rintro e w' ⟨rfl, rfl⟩
    exact ⟨rfl, Below.refl _ _⟩
  · exact szEventS_row g o c es 1048576 w h hF (by decide) (by decide) hn

set_option maxRecDepth 100000 in
set_option maxHeartbeats 1000000 in
theorem fnExactEventsBytes_sl (a : Option Addr) (c : Nat) (es : List Ev) (w : World) (h : EvSl w (.slice a es.length c) es) (hF : Fit es) (hn : es.length ≤ maxLen) :
    Calls Try.prog 4 #[.slice a es.length c] w fun e w' => e = .returned (.bool true) ∧ Below w.heap.size w w' := by
  have HE := hid h
  have HF := hid hF
  have HN := hid hn
  have c1 := szEventS_any (.slice a es.length c) es w h hF hn
  clear h hF hn
  by_cases hz : (es.length : Int) + (sumE es : Int) ≤ 1048576
  · rw [szR_yes hz] at c1
    have hL : (0 : Int) ≤ 1048576 - (es.length : Int) - (sumE es : Int) := by omega
    have hnn := hid (show es.length ≤ 1048576 by omega)
    generalize (1048576 : Int) - (es.length : Int) - (sumE es : Int) = L at *
    clear hz
    go_enter Try.func4, Try.ntmps4
    go_wp2_with fail
    refine c1.mono ?_
    rintro e w1 ⟨rfl, hb1⟩
    clear c1
    go_wp2_with fail
    refine (toEventS_any _ es _ (HE.out.stay hb1 (Nat.le_refl _)) hnn.out).mono ?_
    rintro e w2 ⟨v2, rfl, hown2, hb2⟩
    have hbB := hb1.trans (hb2.mono hb1.size)
    obtain ⟨a2, k2, rfl⟩ := sl_form (sl_of_own hown2)
    have HS2 := hid (sl_of_own hown2)
    clear hown2 hb1 hb2
    go_wp2_with fail
    refine (specEventsBytes_any _ es _ HS2.out HF.out HN.out).mono ?_
    rintro e w3 ⟨rfl, hb3⟩
    have hbC := hbB.trans (hb3.mono hbB.size)
    clear HS2 hbB hb3
    go_wp2_with fail
    refine (toEventS_any _ es _ (HE.out.stay hbC (Nat.le_refl _)) hnn.out).mono ?_
    rintro e w4 ⟨v4, rfl, hown4, hb4⟩
    have hbD := hbC.trans (hb4.mono hbC.size)
    obtain ⟨a4, k4, rfl⟩ := sl_form (sl_of_own hown4)
    have HS4 := hid (sl_of_own hown4)
    clear hown4 hbC hb4
    go_wp2_with fail
    refine (implEventsBytes_any _ es _ HS4.out HF.out HN.out).mono ?_
    rintro e w5 ⟨rfl, hb5⟩
    have hbE := hbD.trans (hb5.mono hbD.size)
    have HS5 := hid (HS4.out.stay hb5 (Nat.le_refl _))
    generalize evBy es = S at *
    clear HS4 hbD hb5
    go_wp2_with fail
    refine (toEventS_any _ es _ (HE.out.stay hbE (Nat.le_refl _)) hnn.out).mono ?_
    rintro e w6 ⟨v6, rfl, hown6, hb6⟩
    have hbF := hbE.trans (hb6.mono hbE.size)
    have HS6 := hid (HS5.out.stay hb6 (Nat.le_refl _))
    obtain ⟨a6, k6, rfl⟩ := sl_form (sl_of_own hown6)
    have HT6 := hid (sl_of_own hown6)
    clear hown6 hbE hb6 HS5
    go_wp2_with fail
    refine (eqEventS_any _ _ es _ HS6.out HT6.out HN.out).mono ?_
    rintro e w7 ⟨rfl, hb7⟩
    have hbG := hbF.trans (hb7.mono hbF.size)
    clear hbF hb7 HS6 HT6
    go_wp2
    go_ret
    exact ⟨rfl, hbG⟩
  · rw [szR_no (by omega)] at c1
    clear hz
    go_enter Try.func4, Try.ntmps4
    go_wp2_with fail
    refine c1.mono ?_
    rintro e w1 ⟨rfl, hb1⟩
    go_wp2
    go_ret
    exact ⟨rfl, hb1⟩
theorem fnExactEventsBytes_walk (v : Value) (es : List Ev) (w : World) (h : EvSl w v es) (hF : Fit es) (hn : es.length ≤ maxLen) :
    Calls Try.prog 4 #[v] w fun e w' => e = .returned (.bool true) ∧ Below w.heap.size w w' := by
  obtain ⟨a, c, rfl⟩ := sl_form h
  exact fnExactEventsBytes_sl a c es w h hF hn
end Go.Proofs.Yticnffakngpkfaa
