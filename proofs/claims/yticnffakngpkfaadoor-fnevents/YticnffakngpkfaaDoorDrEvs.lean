/-
  Draws: what spec.DrawEventsBytes, spec.DrawEventRight and spec.DrawEventsRead answer: contracts over the seat's program.
-/
import Derived.Test.YticnffakngpkfaaDoorDrSome
import Derived.Test.YticnffakngpkfaaDoorDrKd
import Derived.Test.YticnffakngpkfaaDoorEvBy
namespace Go.Proofs.YticnffakngpkfaaDoor
open Go.RowKit

theorem Bs.below {w w' : World} {V : Value} {n : Nat} (h : Bs w V n) (hb : Below w.heap.size w w') : Bs w' V n := by
  obtain ⟨a, c, rfl, hn, h⟩ := h
  refine ⟨a, c, rfl, hn, fun i hi => ?_⟩
  obtain ⟨g, o, x, rfl, hg1, hc, hx⟩ := h i hi
  exact ⟨g, o, x, rfl, Nat.lt_of_lt_of_le hg1 hb.size, by rw [hb.cell (p := ⟨g, o + i, none⟩) hg1]; exact hc, hx⟩
theorem Short.fit {l : List Ev} (h : Short l) : Fit l := fun i hi => by
  have := h _ (List.getElem_mem hi)
  unfold maxLen
  omega
theorem evBy_size (es : List Ev) : (evBy es).size ≤ 8000 := by
  by_cases h : allB es = true ∧ es.length ≤ 200 ∧ (layL es).size ≤ 8000
  · rw [evBy_yes h.1 h.2.1 h.2.2]; exact h.2.2
  · rw [evBy_no h]; exact Nat.zero_le _

set_option maxHeartbeats 1000000 in
set_option maxRecDepth 100000 in
theorem drawBytes_any (V : Value) (n : Nat) (w : World) (h : Bs w V n) :
    Calls Tryd.prog 5 #[V] w fun e w' => ∃ v l, e = .returned v ∧ EvSl w' v l ∧ Short l ∧ l.length ≤ 250 ∧ Below w.heap.size w w' := by
  have cS := hid (source_any V n w h)
  clear h
  go_enter Tryd.func5, Tryd.ntmps5
  go_wp2_with fail
  refine cS.out.mono ?_
  rintro e w1 ⟨b, rfl, hb, hd, hbel⟩
  have cE := hid (drawSome_any b n V w1 hd)
  have HB := hid hbel
  clear hbel hd cS
  go_wp2_with fail
  refine cE.out.mono ?_
  rintro e w2 ⟨v, l, rfl, hS, hl⟩
  have S := hid hS
  clear hS cE
  go_wp2
  go_ret
  exact ⟨_, l, rfl, sl_of_own S.out.own, S.out.short, hl, below_src HB.out hb S.out.gr⟩

set_option maxHeartbeats 1000000 in
set_option maxRecDepth 100000 in
theorem drawRight_any (V : Value) (n : Nat) (w : World) (h : Bs w V n) :
    Calls Tryd.prog 11 #[V] w fun e w' => ∃ (q0 q1 q2 q3 : Int) (q4 q5 : ByteArray), e = .returned (.agg #[.int .i64 q0, .int .i64 q1, .int .i64 q2, .int .i64 q3, .string q4, .string q5]) ∧ q4.size ≤ 100 ∧ q5.size ≤ 100 ∧ Below w.heap.size w w' := by
  have hbA : Below w.heap.size w (w.alloc (.cells #[.int .i64 0, .int .i64 0, .int .i64 0, .int .i64 0, .string ⟨#[]⟩, .string ⟨#[]⟩] 32)) := (Below.refl _ _).alloc (Nat.le_refl _) _
  have cS := hid (source_any V n _ (h.below hbA))
  have HA := hid hbA
  clear h hbA
  go_enter Tryd.func11, Tryd.ntmps11
  go_wp2_with fail
  refine cS.out.mono ?_
  rintro e w1 ⟨b, rfl, hb, hd, hbel⟩
  have hsz : (w.alloc (.cells #[.int .i64 0, .int .i64 0, .int .i64 0, .int .i64 0, .string ⟨#[]⟩, .string ⟨#[]⟩] 32)).heap.size = w.heap.size + 1 := by simp
  rw [hsz] at hb
  have cE := hid (drawEvent_any b n V w1 hd)
  have hR1 : w1.heap[w.heap.size]? = _ := (hbel.block w.heap.size (by simp)).trans (heap_alloc_new w _)
  have HR := hid hR1
  have HB := hid (HA.out.trans (hbel.mono HA.out.size))
  clear hbel hd cS hR1 hsz HA
  go_wp2_with fail
  refine cE.out.mono ?_
  rintro e w2 ⟨⟨q0, q1, q2, q3, q4, q5⟩, he, s4, s5, _, hg⟩
  obtain rfl : e = .returned (.agg #[.int .i64 q0, .int .i64 q1, .int .i64 q2, .int .i64 q3, .string q4, .string q5]) := he
  have hR2 : w2.heap[w.heap.size]? = some (.cells [.int .i64 0, .int .i64 0, .int .i64 0, .int .i64 0, .string ⟨#[]⟩, .string ⟨#[]⟩].toArray 32 (0, 0)) := (hg.block w.heap.size (lt_heap HR.out) (by simp; omega)).trans HR.out
  have z0 : w2.cell? ⟨w.heap.size, 0, none⟩ = some (.int .i64 0) := by rw [Lib.cell_of_heap hR2]; rfl
  have z1 : w2.cell? ⟨w.heap.size, 1, none⟩ = some (.int .i64 0) := by rw [Lib.cell_of_heap hR2]; rfl
  have z2 : w2.cell? ⟨w.heap.size, 2, none⟩ = some (.int .i64 0) := by rw [Lib.cell_of_heap hR2]; rfl
  have z3 : w2.cell? ⟨w.heap.size, 3, none⟩ = some (.int .i64 0) := by rw [Lib.cell_of_heap hR2]; rfl
  have z4 : w2.cell? ⟨w.heap.size, 4, none⟩ = some (.string ⟨#[]⟩) := by rw [Lib.cell_of_heap hR2]; rfl
  have z5 : w2.cell? ⟨w.heap.size, 5, none⟩ = some (.string ⟨#[]⟩) := by rw [Lib.cell_of_heap hR2]; rfl
  have zf : ∀ j, w2.frozen? ⟨w.heap.size, j, none⟩ = false := fun j => Lib.frozen_of_heap hR2 j
  have HB2 := hid (below_src HB.out (by omega) hg)
  clear hg HB cE HR hR2
  go_wp2
  refine bodyPost_ret (v := .agg #[.int .i64 q0, .int .i64 q1, .int .i64 q2, .int .i64 q3, .string q4, .string q5]) (by simp [results, Tryd.results11, go_sem, z0, z1, z2, z3, z4, z5]) rfl ?_
  exact ⟨q0, q1, q2, q3, q4, q5, rfl, s4, s5, (((((HB2.out.setCell (p := ⟨w.heap.size, 0, none⟩) (Nat.le_refl _) _).setCell (p := ⟨w.heap.size, 1, none⟩) (Nat.le_refl _) _).setCell (p := ⟨w.heap.size, 2, none⟩) (Nat.le_refl _) _).setCell (p := ⟨w.heap.size, 3, none⟩) (Nat.le_refl _) _).setCell (p := ⟨w.heap.size, 4, none⟩) (Nat.le_refl _) _).setCell (p := ⟨w.heap.size, 5, none⟩) (Nat.le_refl _) _⟩

set_option maxHeartbeats 1000000 in
set_option maxRecDepth 100000 in
theorem drawRead_any (V : Value) (n : Nat) (w : World) (h : Bs w V n) :
    Calls Tryd.prog 10 #[V] w fun e w' => ∃ s, e = .returned (.string s) ∧ Below w.heap.size w w' := by
  have cS := hid (source_any V n w h)
  clear h
  go_enter Tryd.func10, Tryd.ntmps10
  go_wp2_with fail
  refine cS.out.mono ?_
  rintro e w1 ⟨b, rfl, hb, hd, hbel⟩
  have cE := hid (drawSome_any b n V w1 hd)
  have HB := hid hbel
  clear hbel hd cS
  go_wp2_with fail
  refine cE.out.mono ?_
  rintro e w2 ⟨v, l, rfl, hS, hl⟩
  have hlt : b < w2.heap.size := hS.dr.src.lt
  have cB := hid (specEventsBytes_any v l w2 (sl_of_own hS.own) hS.short.fit (by unfold maxLen; omega))
  have HB2 := hid (below_src HB.out hb hS.gr)
  have HD2 := hid hS.dr
  have hts := evBy_size l
  generalize evBy l = t at *
  clear hS cE HB
  go_wp2_with fail
  refine cB.out.mono ?_
  rintro e w3 ⟨rfl, hbel⟩
  have HB3 := hid (HB2.out.trans (hbel.mono HB2.out.size))
  have HD3 := hid (HD2.out.below hbel)
  clear hbel cB HB2 HD2 hlt
  have cN := hid (srcN_any b n V 4 w3 HD3.out (by decide))
  go_wp2_with fail
  refine cN.out.mono ?_
  rintro e w4 ⟨r4, rfl, ⟨l4, u4, _⟩, hd, hg⟩
  have u4 := u4 (by decide)
  have HB4 := hid (below_src HB3.out hb hg)
  have HD4 := hid hd
  clear hd hg HB3 HD3 cN
  by_cases h0 : r4 = 0
  · subst h0
    have cP := hid (spoil_any b n V t w4 HD4.out (by omega))
    go_wp2_with fail
    refine cP.out.mono ?_
    rintro e w5 ⟨s, rfl, _, _, hg⟩
    have HB5 := hid (below_src HB4.out hb hg)
    clear hg cP HB4 HD4
    go_wp2
    go_ret
    exact ⟨_, rfl, HB5.out⟩
  · by_cases h1 : r4 = 1
    · subst h1
      have cN := hid (srcN_any b n V ((t.size : Int) + 1) w4 HD4.out (by omega))
      go_wp2_with fail
      refine cN.out.mono ?_
      rintro e w5 ⟨r5, rfl, ⟨l5, u5, v5⟩, _, hg⟩
      have hr5 : r5 ≤ (t.size : Int) := by omega
      have HB5 := hid (below_src HB4.out hb hg)
      clear hg cN HB4 HD4 u5 v5
      go_wp2
      go_ret
      exact ⟨_, rfl, HB5.out⟩
    · go_wp2
      go_ret
      exact ⟨_, rfl, HB4.out⟩
end Go.Proofs.YticnffakngpkfaaDoor
