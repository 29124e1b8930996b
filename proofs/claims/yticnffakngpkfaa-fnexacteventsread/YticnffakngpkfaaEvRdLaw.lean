/-
  The law FnExactEventsRead: spec.EventsRead and impl.EventsRead answer the same at every text; the answer owns its memory, behind another call too.
-/
import Derived.Test.YticnffakngpkfaaRdrO
import Derived.Test.YticnffakngpkfaaHeld
import Derived.Test.YticnffakngpkfaaEvEq
namespace Go.Proofs.Yticnffakngpkfaa
open Go.RowKit

set_option maxRecDepth 100000 in
theorem eqEventsOut_any (v1 v2 : Value) (c : Int) (es : List Ev) (w : World) (h1 : EvSl w v1 es) (h2 : EvSl w v2 es) (hn : es.length ≤ maxLen) :
    Calls Try.prog 17 #[.agg #[v1, .int .i64 c], .agg #[v2, .int .i64 c]] w fun e w' => e = .returned (.bool true) ∧ Below w.heap.size w w' := by
  obtain ⟨a1, k1, rfl⟩ := sl_form h1
  obtain ⟨a2, k2, rfl⟩ := sl_form h2
  have d := hid (fun w h1 h2 => eqEventS_any (.slice a1 es.length k1) (.slice a2 es.length k2) es w h1 h2 hn)
  have H1 := hid h1
  have H2 := hid h2
  clear h1 h2
  go_enter Try.func17, Try.ntmps17
  go_wp2_with fail
  have hB : Below w.heap.size w ((w.alloc (.cells #[.slice a1 es.length k1, .int .i64 c] 37)).alloc (.cells #[.slice a2 es.length k2, .int .i64 c] 37)) := ((Below.refl _ _).alloc (Nat.le_refl _) _).alloc (by simp) _
  refine (d.out _ (H1.out.stay hB (Nat.le_refl _)) (H2.out.stay hB (Nat.le_refl _))).mono ?_
  rintro e w3 ⟨rfl, hb3⟩
  obtain ⟨hc3, hf3⟩ := bcell hb3
  have hz3 := hb3.size
  have hbel := hB.trans (hb3.mono hB.size)
  simp at hc3 hf3 hz3
  have x0 := hc3 w.heap.size 1 (by omega)
  have x1 := hc3 (w.heap.size + 1) 1 (by omega)
  simp at x0 x1
  clear hc3 hf3 hB hb3
  go_wp2
  go_ret
  exact ⟨rfl, hbel⟩
set_option maxRecDepth 100000 in
theorem markEventsOut_any (a : Option Addr) (c : Int) (n k base : Nat) (xs : List Value) (w : World) (h : w.ownsRow base 26 6 (.slice a n k) n xs) (hn : n ≤ 2000) :
    Calls Try.prog 18 #[.agg #[.slice a n k, .int .i64 c], .int .i64 1] w fun e w' => e = .returned (.int .i64 (1 + 6 * (n : Int))) ∧ w'.ownsRow base 26 6 (.slice a n k) n ((marks 1 n).flatMap Ev.cells) ∧ w.grownBy w' (Value.slice a n k).ownBlock := by
  have d := hid (fun w h => markEventS_own (.slice a n k) n base xs w h hn)
  have H := hid h
  clear h
  go_enter Try.func18, Try.ntmps18
  go_wp2_with fail
  refine (d.out _ (H.out.alloc _)).mono ?_
  rintro e w3 ⟨rfl, ho, hg⟩
  have HO := hid ho
  have HG := hid (grown_trans (World.grownBy_alloc w _ _) hg)
  clear ho hg
  go_wp2
  go_ret
  exact ⟨rfl, HO.out, HG.out⟩
set_option maxRecDepth 100000 in
theorem heldEventsOut_any (a : Option Addr) (c : Int) (n k base : Nat) (w : World) (h : w.ownsRow base 26 6 (.slice a n k) n ((marks 1 n).flatMap Ev.cells)) (hn : n ≤ 2000) :
    Calls Try.prog 19 #[.agg #[.slice a n k, .int .i64 c], .int .i64 1] w fun e w' => e = .returned (.int .i64 (1 + 6 * (n : Int))) ∧ Below w.heap.size w w' := by
  have d := hid (fun w h => heldEventS_own (.slice a n k) n base w h hn)
  have H := hid h
  clear h
  go_enter Try.func19, Try.ntmps19
  go_wp2_with fail
  refine (d.out _ (H.out.alloc _)).mono ?_
  rintro e w3 ⟨rfl, hb⟩
  have hbel : Below w.heap.size w w3 := ((Below.refl w.heap.size w).alloc (Nat.le_refl _) _).trans (hb.mono (B' := w.heap.size) (by simp))
  clear hb
  go_wp2
  go_ret
  exact ⟨rfl, hbel⟩

theorem rdOut_len (t : ByteArray) : (rdOut t).1.length ≤ 2000 := by
  unfold rdOut
  by_cases ht : (t.size : Int) ≤ 8000
  · have h := (row_fit (st := some 0) ht (fun a ha => by cases ha; omega)).2
    rw [if_neg (fun x => x ht)]
    split
    · simp
    · split
      · show (rowS t (some 0)).1.length ≤ 2000
        omega
      · simp
  · rw [if_pos ht]; simp
theorem cells2 {w : World} {b : Nat} {v c : Value} {T : TypeId} (h : w.heap[b]? = some (.cells [v, c].toArray T (0, 0))) : w.cell? ⟨b, 0, none⟩ = some v ∧ w.cell? ⟨b, 1, none⟩ = some c :=
  ⟨by rw [Lib.cell_of_heap h]; rfl, by rw [Lib.cell_of_heap h]; rfl⟩

set_option maxHeartbeats 2000000 in
set_option maxRecDepth 100000 in
theorem fnExactEventsRead_in (t : ByteArray) (w : World) (hb : (t.size : Int) ≤ 1048576) :
    Calls Try.prog 5 #[.string t] w fun e w' => e = .returned (.bool true) ∧ Below w.heap.size w w' := by
  have cS := hid (fun w => specEventsRead_any t w)
  have cI := hid (fun w => implEventsRead_any t w)
  have hlen := rdOut_len t
  generalize (rdOut t).2 = c at *
  generalize (rdOut t).1 = es at *
  go_enter Try.func5, Try.ntmps5
  go_wp2_with fail
  refine (cS.out _).mono ?_
  rintro e w1 ⟨v0, rfl, ho0, hb1⟩
  obtain ⟨a0, k0, rfl⟩ := own_forms ho0
  have hz1 := hb1.size
  have HO0 := hid (ho0.alloc (.cells [.slice a0 es.length k0, .int .i64 c].toArray 37))
  have HL0 : Hid (∀ k, (Value.slice a0 es.length k0).ownBlock = some k → k < w1.heap.size) := fun k hk => (ho0.lt k hk).2
  have HB1 := hid (hb1.alloc hz1 (.cells [.slice a0 es.length k0, .int .i64 c].toArray 37))
  have H3 := hid (heap_alloc_new w1 (.cells [.slice a0 es.length k0, .int .i64 c].toArray 37))
  clear ho0 hb1 cS
  go_wp2_with fail
  refine (cI.out _).mono ?_
  rintro e w2 ⟨v1, rfl, ho1, hb2⟩
  obtain ⟨a1, k1, rfl⟩ := own_forms ho1
  have hz2 := hb2.size
  simp at hz2
  have h3 : w2.heap[w1.heap.size]? = some (.cells [.slice a0 es.length k0, .int .i64 c].toArray 37 (0, 0)) := (hb2.block w1.heap.size (by simp)).trans H3.out
  have HO0' := hid ((own_stay HO0.out hb2).alloc (.cells [.slice a1 es.length k1, .int .i64 c].toArray 37))
  have HO1 := hid (ho1.alloc (.cells [.slice a1 es.length k1, .int .i64 c].toArray 37))
  have HL1 : Hid (∀ k, (Value.slice a1 es.length k1).ownBlock = some k → w1.heap.size + 1 ≤ k ∧ k < w2.heap.size) := fun k hk => by
    have := ho1.lt k hk
    simpa using this
  have HB2 := hid ((HB1.out.trans (hb2.mono HB1.out.size)).alloc (by omega) (.cells [.slice a1 es.length k1, .int .i64 c].toArray 37))
  have H4 := hid (heap_alloc_new w2 (.cells [.slice a1 es.length k1, .int .i64 c].toArray 37))
  have H3' : Hid ((w2.alloc (.cells [.slice a1 es.length k1, .int .i64 c].toArray 37)).heap[w1.heap.size]? = some (.cells [.slice a0 es.length k0, .int .i64 c].toArray 37 (0, 0))) := by
    show _ = _
    rw [alloc_old (by omega)]; exact h3
  obtain ⟨x30, x31⟩ := cells2 H3'.out
  clear ho1 hb2 HO0 HB1 H3 h3
  go_wp2_with fail
  refine (eqEventsOut_any _ _ c es _ (sl_of_own HO1.out) (sl_of_own HO0'.out) (by unfold maxLen; omega)).mono ?_
  rintro e w3 ⟨rfl, hb3⟩
  have hz3 := hb3.size
  simp at hz3
  have HO0a := hid (own_stay HO0'.out hb3)
  have HO1a := hid (own_stay HO1.out hb3)
  have HB3 := hid (HB2.out.trans (hb3.mono HB2.out.size))
  have h3 := (hb3.block w1.heap.size (by simp; omega)).trans H3'.out
  have h4 := (hb3.block w2.heap.size (by simp)).trans H4.out
  obtain ⟨x30, x31⟩ := cells2 h3
  obtain ⟨x40, x41⟩ := cells2 h4
  have H3a := hid h3
  have H4a := hid h4
  clear hb3 HO0' HO1 HB2 H3' H4 h3 h4
  go_wp2_with fail
  refine (markEventsOut_any a1 c es.length k1 _ _ _ HO1a.out hlen).mono ?_
  rintro e w4 ⟨rfl, hO4, hg4⟩
  have hz4 := hg4.size
  have HO1b := hid hO4
  have HO0b := hid (HO0a.out.kept hg4 (by
    cases hv : (Value.slice a0 es.length k0).ownBlock with
    | none => exact .inl rfl
    | some k =>
      refine .inr (fun e => ?_)
      have h1 := HL0.out k hv
      have h2 := (HL1.out k e.symm).1
      omega))
  have HB4 := hid (HB3.out.grown hg4 (by have := HB3.out.size; omega) (fun k hk => by have := (HL1.out k hk).1; omega))
  have h3 := (hg4.block w1.heap.size (by omega) (fun e => by have := (HL1.out _ e.symm).1; omega)).trans H3a.out
  have h4 := (hg4.block w2.heap.size (by omega) (fun e => by have := (HL1.out _ e.symm).2; omega)).trans H4a.out
  obtain ⟨x30', x31'⟩ := cells2 h3
  obtain ⟨x40', x41'⟩ := cells2 h4
  have H3b := hid h3
  have H4b := hid h4
  clear hO4 hg4 HO0a HO1a HB3 H3a H4a h3 h4 x30 x31 x40 x41
  go_wp2_with fail
  refine (heldEventsOut_any a1 c es.length k1 _ _ HO1b.out hlen).mono ?_
  rintro e w5 ⟨rfl, hb5⟩
  have hz5 := hb5.size
  have HO1c := hid (own_stay HO1b.out hb5)
  have HO0c := hid (own_stay HO0b.out hb5)
  have HB5 := hid (HB4.out.trans (hb5.mono HB4.out.size))
  have h3 := (hb5.block w1.heap.size (by omega)).trans H3b.out
  have h4 := (hb5.block w2.heap.size (by omega)).trans H4b.out
  have H3c := hid h3
  have H4c := hid h4
  clear hb5 HO1b HO0b HB4 H3b H4b h3 h4 x30' x31' x40' x41'
  go_wp2_with fail
  refine (cI.out _).mono ?_
  rintro e w6 ⟨v2, rfl, ho2, hb6⟩
  obtain ⟨a2, k2, rfl⟩ := own_forms ho2
  have hz6 := hb6.size
  have HO2 := hid (ho2.alloc (.cells [.slice a2 es.length k2, .int .i64 c].toArray 37))
  have HO1d := hid ((own_stay HO1c.out hb6).alloc (.cells [.slice a2 es.length k2, .int .i64 c].toArray 37))
  have HO0d := hid ((own_stay HO0c.out hb6).alloc (.cells [.slice a2 es.length k2, .int .i64 c].toArray 37))
  have HB6 := hid ((HB5.out.trans (hb6.mono HB5.out.size)).alloc (by omega) (.cells [.slice a2 es.length k2, .int .i64 c].toArray 37))
  have h3 := (hb6.block w1.heap.size (by omega)).trans H3c.out
  have h4 := (hb6.block w2.heap.size (by omega)).trans H4c.out
  have H3d : Hid ((w6.alloc (.cells [.slice a2 es.length k2, .int .i64 c].toArray 37)).heap[w1.heap.size]? = some (.cells [.slice a0 es.length k0, .int .i64 c].toArray 37 (0, 0))) := by
    show _ = _
    rw [alloc_old (by omega)]; exact h3
  obtain ⟨x30, x31⟩ := cells2 H3d.out
  have H4d : Hid ((w6.alloc (.cells [.slice a2 es.length k2, .int .i64 c].toArray 37)).heap[w2.heap.size]? = some (.cells [.slice a1 es.length k1, .int .i64 c].toArray 37 (0, 0))) := by
    show _ = _
    rw [alloc_old (by omega)]; exact h4
  clear ho2 hb6 HO1c HO0c HB5 H3c H4c h3 h4 cI
  go_wp2_with fail
  refine (eqEventsOut_any _ _ c es _ (sl_of_own HO2.out) (sl_of_own HO0d.out) (by unfold maxLen; omega)).mono ?_
  rintro e w7 ⟨rfl, hb7⟩
  have hz7 := hb7.size
  simp at hz7
  have HO1e := hid (own_stay HO1d.out hb7)
  have HB7 := hid (HB6.out.trans (hb7.mono HB6.out.size))
  have h4 := (hb7.block w2.heap.size (by simp; omega)).trans H4d.out
  obtain ⟨x40, x41⟩ := cells2 h4
  clear hb7 HO2 HO0d HO1d HB6 H4d h4 x30 x31
  go_wp2_with fail
  refine (heldEventsOut_any a1 c es.length k1 _ _ HO1e.out hlen).mono ?_
  rintro e w8 ⟨rfl, hb8⟩
  have HB8 := hid (HB7.out.trans (hb8.mono HB7.out.size))
  clear hb8 HO1e HB7 x40 x41
  go_wp2
  go_ret
  exact ⟨rfl, HB8.out⟩
theorem fnExactEventsRead_walk (t : ByteArray) (w : World) (_ht : t.size ≤ maxLen) :
    Calls Try.prog 5 #[.string t] w fun e w' => e = .returned (.bool true) ∧ Below w.heap.size w w' := by
  by_cases hb : (t.size : Int) ≤ 1048576
  · exact fnExactEventsRead_in t w hb
  · go_enter Try.func5, Try.ntmps5
    go_wp2
    go_ret
    exact ⟨rfl, Below.refl _ _⟩
end Go.Proofs.Yticnffakngpkfaa
