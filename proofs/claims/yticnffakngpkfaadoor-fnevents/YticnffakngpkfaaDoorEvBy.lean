/-
  What spec.EventsBytes and impl.EventsBytes answer, for every row of events, and laws.eqEventS at two rows that are the same: contracts over the seat's program.
-/
import Derived.Test.YticnffakngpkfaaDoorEvLayI
import Derived.Test.YticnffakngpkfaaDoorLong
namespace Go.Proofs.YticnffakngpkfaaDoor
open Go.RowKit Go.Sort Put

/-- The bytes that are told of a row of events. -/
def evBy (es : List Ev) : ByteArray := if allB es = true ∧ es.length ≤ 200 ∧ (layL es).size ≤ 8000 then layL es else ⟨#[]⟩
theorem evBy_yes {es : List Ev} (h1 : allB es = true) (h2 : es.length ≤ 200) (h3 : (layL es).size ≤ 8000) : evBy es = layL es := if_pos ⟨h1, h2, h3⟩
theorem evBy_no {es : List Ev} (h : ¬ (allB es = true ∧ es.length ≤ 200 ∧ (layL es).size ≤ 8000)) : evBy es = ⟨#[]⟩ := if_neg h

set_option maxRecDepth 100000 in
theorem implEventsBytes_sl (a : Option Addr) (c : Nat) (es : List Ev) (w : World) (h : EvSl w (.slice a es.length c) es) (hF : Fit es) (hn : es.length ≤ maxLen) :
    Calls Tryd.prog 6 #[.slice a es.length c] w fun e w' => e = .returned (.string (evBy es)) ∧ Below w.heap.size w w' := by
  have HE := hid h
  have c1 := allRight_any (.slice a es.length c) es w h hF hn
  unfold maxLen at hn
  clear h hF
  by_cases h2 : es.length ≤ 200
  · cases hA : allB es with
    | false =>
      rw [evBy_no (by simp [hA])]
      rw [hA] at c1
      clear hA HE
      go_enter Tryd.func6, Tryd.ntmps6
      go_wp2_with fail
      refine c1.mono ?_
      rintro e w1 ⟨rfl, hb1⟩
      go_wp2
      go_ret
      exact ⟨rfl, hb1⟩
    | true =>
      have HA := hid hA
      have c2 := hid (fun (w : World) (h : EvSl w (.slice a es.length c) es) => layRow_any (.slice a es.length c) es w h hA (by omega))
      rw [hA] at c1
      by_cases h3 : (layL es).size ≤ 8000
      · rw [evBy_yes hA h2 h3]
        have c3 := fun w => tooLong_no (s := layL es) (by omega) w
        generalize layL es = S at *
        clear hA h3
        go_enter Tryd.func6, Tryd.ntmps6
        go_wp2_with fail
        refine c1.mono ?_
        rintro e w1 ⟨rfl, hb1⟩
        go_wp2_with fail
        refine (c2.out _ (HE.out.stay hb1 (Nat.le_refl _))).mono ?_
        rintro e w2 ⟨rfl, hb2⟩
        have hbel := hb1.trans (hb2.mono hb1.size)
        clear hb1 hb2
        go_wp2_with fail
        refine (c3 _).mono ?_
        rintro e w3 ⟨rfl, rfl⟩
        go_wp2
        go_ret
        exact ⟨rfl, hbel⟩
      · rw [evBy_no (fun x => h3 x.2.2)]
        have c3 := fun w => tooLong_yes (s := layL es) (by omega) w
        generalize layL es = S at *
        clear hA h3
        go_enter Tryd.func6, Tryd.ntmps6
        go_wp2_with fail
        refine c1.mono ?_
        rintro e w1 ⟨rfl, hb1⟩
        go_wp2_with fail
        refine (c2.out _ (HE.out.stay hb1 (Nat.le_refl _))).mono ?_
        rintro e w2 ⟨rfl, hb2⟩
        have hbel := hb1.trans (hb2.mono hb1.size)
        clear hb1 hb2
        go_wp2_with fail
        refine (c3 _).mono ?_
        rintro e w3 ⟨rfl, rfl⟩
        go_wp2
        go_ret
        exact ⟨rfl, hbel⟩
  · rw [evBy_no (fun x => h2 x.2.1)]
    clear c1 HE
    go_enter Tryd.func6, Tryd.ntmps6
    go_wp2
    go_ret
    exact ⟨rfl, Below.refl _ _⟩
theorem sl_form {w : World} {v : Value} {es : List Ev} (h : EvSl w v es) : ∃ a c, v = .slice a es.length c := by
  rcases h with ⟨a, c, rfl, rfl⟩ | ⟨g, o, c, rfl, _, h⟩
  · exact ⟨a, c, rfl⟩
  · exact ⟨_, c, rfl⟩
theorem implEventsBytes_any (v : Value) (es : List Ev) (w : World) (h : EvSl w v es) (hF : Fit es) (hn : es.length ≤ maxLen) :
    Calls Tryd.prog 6 #[v] w fun e w' => e = .returned (.string (evBy es)) ∧ Below w.heap.size w w' := by
  obtain ⟨a, c, rfl⟩ := sl_form h
  exact implEventsBytes_sl a c es w h hF hn

set_option maxRecDepth 100000 in
theorem specEventsBytes_sl (a : Option Addr) (c : Nat) (es : List Ev) (w : World) (h : EvSl w (.slice a es.length c) es) (hF : Fit es) (hn : es.length ≤ maxLen) :
    Calls Tryd.prog 7 #[.slice a es.length c] w fun e w' => e = .returned (.string (evBy es)) ∧ Below w.heap.size w w' := by
  have HE := hid h
  have c1 := l02All_any (.slice a es.length c) es w h hF hn
  unfold maxLen at hn
  clear h hF
  by_cases h4 : es.length ≤ 400
  · by_cases hA : allB es = true ∧ es.length ≤ 200
    · obtain ⟨hA, h2⟩ := hA
      have c2 := hid (fun (w : World) (h : EvSl w (.slice a es.length c) es) => l02Bytes_any (.slice a es.length c) es w h hA (by omega))
      rw [hA, show decide ((es.length : Int) ≤ 200) = true by simp; omega] at c1
      simp only [Bool.and_true] at c1
      by_cases h3 : ((layL es).size : Int) ≤ 8000
      · rw [evBy_yes hA h2 (by omega)]
        generalize layL es = S at *
        clear hA h2
        go_enter Tryd.func7, Tryd.ntmps7
        go_wp2_with fail
        refine c1.mono ?_
        rintro e w1 ⟨rfl, hb1⟩
        go_wp2_with fail
        refine (c2.out _ (HE.out.stay hb1 (Nat.le_refl _))).mono ?_
        rintro e w2 ⟨rfl, hb2⟩
        have hbel := hb1.trans (hb2.mono hb1.size)
        clear hb1 hb2
        go_wp2
        go_ret
        exact ⟨rfl, hbel⟩
      · rw [evBy_no (fun x => h3 (by omega))]
        generalize layL es = S at *
        clear hA h2
        go_enter Tryd.func7, Tryd.ntmps7
        go_wp2_with fail
        refine c1.mono ?_
        rintro e w1 ⟨rfl, hb1⟩
        go_wp2_with fail
        refine (c2.out _ (HE.out.stay hb1 (Nat.le_refl _))).mono ?_
        rintro e w2 ⟨rfl, hb2⟩
        have hbel := hb1.trans (hb2.mono hb1.size)
        clear hb1 hb2
        go_wp2
        go_ret
        exact ⟨rfl, hbel⟩
    · rw [evBy_no (fun x => hA ⟨x.1, x.2.1⟩)]
      rw [show (allB es && decide ((es.length : Int) ≤ 200)) = false by
        rw [Bool.and_eq_false_iff]
        by_cases h : allB es = true
        · right; simp; have : ¬ es.length ≤ 200 := fun h2 => hA ⟨h, h2⟩; omega
        · left; simpa using h] at c1
      clear hA HE
      go_enter Tryd.func7, Tryd.ntmps7
      go_wp2_with fail
      refine c1.mono ?_
      rintro e w1 ⟨rfl, hb1⟩
      go_wp2
      go_ret
      exact ⟨rfl, hb1⟩
  · rw [evBy_no (fun x => h4 (by omega))]
    clear c1 HE
    go_enter Tryd.func7, Tryd.ntmps7
    go_wp2
    go_ret
    exact ⟨rfl, Below.refl _ _⟩
theorem specEventsBytes_any (v : Value) (es : List Ev) (w : World) (h : EvSl w v es) (hF : Fit es) (hn : es.length ≤ maxLen) :
    Calls Tryd.prog 7 #[v] w fun e w' => e = .returned (.string (evBy es)) ∧ Below w.heap.size w w' := by
  obtain ⟨a, c, rfl⟩ := sl_form h
  exact specEventsBytes_sl a c es w h hF hn
end Go.Proofs.YticnffakngpkfaaDoor
