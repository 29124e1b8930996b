/-
  The law FnEvents: it returns true, whatever bytes it draws from: a contract over the seat's program (in a world in which impl.kindNames holds the six names).
-/
import Derived.Test.YticnffakngpkfaaDoorDrEvs
import Derived.Test.YticnffakngpkfaaDoorLwEv
import Derived.Test.YticnffakngpkfaaDoorRdLay
import Derived.Test.YticnffakngpkfaaDoorRdrO
import Derived.Test.YticnffakngpkfaaDoorKdLaw
import Derived.Test.YticnffakngpkfaaDoorEvSp
import Derived.Lib.QuietBelow
import Derived.Deep.RegionHeld3
namespace Go.Proofs.YticnffakngpkfaaDoor
open Go.RowKit Go.Sort

theorem rdOut_row (u : ByteArray) : ((rdOut u).2 = 0 → evBy (rdOut u).1 = u) ∧ Fit (rdOut u).1 ∧ (rdOut u).1.length ≤ maxLen := by
  have none : Fit [] ∧ ([] : List Ev).length ≤ maxLen := ⟨fun i hi => absurd hi (by simp), Nat.zero_le _⟩
  unfold rdOut
  by_cases ht : (u.size : Int) ≤ 8000
  · have h := row_fit (st := some 0) ht (fun a ha => by cases ha; omega)
    rw [if_neg (fun x => x ht)]
    split
    · exact ⟨fun h => by simp at h, none⟩
    · split
      · next hE => exact ⟨fun _ => hE, h.1, by show (rowS u (some 0)).1.length ≤ maxLen; have := h.2; unfold maxLen; omega⟩
      · exact ⟨fun h => by simp at h, none⟩
  · rw [if_pos ht]
    exact ⟨fun h => by simp at h, none⟩
theorem kd_of_right {q t r k : Int} {s v : ByteArray} (h : evB ⟨q, t, r, k, s, v⟩ = true) : ¬ kdT k = ByteArray.empty := by
  have hk : k = 1 ∨ k = 2 ∨ k = 3 ∨ k = 4 ∨ k = 5 ∨ k = 6 := by
    by_cases h1 : k = 1
    · exact .inl h1
    by_cases h2 : k = 2
    · exact .inr (.inl h2)
    by_cases h3 : k = 3
    · exact .inr (.inr (.inl h3))
    by_cases h4 : k = 4
    · exact .inr (.inr (.inr (.inl h4)))
    by_cases h5 : k = 5
    · exact .inr (.inr (.inr (.inr (.inl h5))))
    by_cases h6 : k = 6
    · exact .inr (.inr (.inr (.inr (.inr h6))))
    exfalso
    unfold evB at h
    rw [knd_out h1 h2 h3 h4 h5 h6] at h
    simp at h
  rcases hk with rfl | rfl | rfl | rfl | rfl | rfl <;> decide

theorem out_cells {w : World} {b : Nat} {v c : Value} {T : TypeId} (h : w.heap[b]? = some (.cells [v, c].toArray T (0, 0))) : w.cell? ⟨b, 0, none⟩ = some v ∧ w.cell? ⟨b, 1, none⟩ = some c :=
  ⟨by rw [Lib.cell_of_heap h]; rfl, by rw [Lib.cell_of_heap h]; rfl⟩
theorem implKind_below (k : Int) (w : World) (h : KNames w) :
    Calls Tryd.prog 15 #[.int .i64 k] w fun e w' => e = .returned (.string (kdT k)) ∧ Below w.heap.size w w' :=
  (implKindText_any k w h).mono fun _ _ ⟨he, hw⟩ => ⟨he, hw ▸ Below.refl _ _⟩

set_option maxHeartbeats 1000000 in
set_option maxRecDepth 100000 in
theorem fnEvents_big (a1 a2 : Option Addr) (n1 n2 c1 c2 : Nat) (w : World) (hb : ¬ ((n1 : Int) ≤ 1048576 ∧ (n2 : Int) ≤ 1048576)) :
    Calls Tryd.prog 3 #[.slice a1 n1 c1, .slice a2 n2 c2] w fun e w' => e = .returned (.bool true) ∧ Below w.heap.size w w' := by
  by_cases h1 : (n1 : Int) ≤ 1048576
  · have h2 : (1048576 : Int) < n2 := by omega
    clear hb
    go_enter Tryd.func3, Tryd.ntmps3
    go_wp2
    go_ret
    exact ⟨rfl, Below.refl _ _⟩
  · have h1 : (1048576 : Int) < n1 := by omega
    clear hb
    go_enter Tryd.func3, Tryd.ntmps3
    go_wp2
    go_ret
    exact ⟨rfl, Below.refl _ _⟩

set_option maxHeartbeats 4000000 in
set_option maxRecDepth 100000 in
theorem fnEvents_in (a1 a2 : Option Addr) (n1 n2 c1 c2 : Nat) (w : World) (h1 : (n1 : Int) ≤ 1048576) (h2 : (n2 : Int) ≤ 1048576) (hA : Bs w (.slice a1 n1 c1) n1) (hM : Bs w (.slice a2 n2 c2) n2) (hg : KNames w) :
    Calls Tryd.prog 3 #[.slice a1 n1 c1, .slice a2 n2 c2] w fun e w' => e = .returned (.bool true) ∧ Below w.heap.size w w' := by
  have mixed : Tryd.prog.follows .mixedOrders = true := by kernel_rfl
  have cA := hid (fun w h => drawBytes_any (.slice a1 n1 c1) n1 w h)
  have cR := hid (fun w h => drawRead_any (.slice a2 n2 c2) n2 w h)
  have cE := hid (fun w h => drawRight_any (.slice a2 n2 c2) n2 w h)
  have cK := hid (fun w h => drawKind_any (.slice a1 n1 c1) n1 w h)
  have HA := hid hA
  have HM := hid hM
  have HG := hid hg
  clear hA hM hg
  go_enter Tryd.func3, Tryd.ntmps3
  go_wp2_with fail
  refine (cA.out w HA.out).mono ?_
  rintro e w1 ⟨v, l, rfl, hS, hs, hl, hb1⟩
  have hl63 : l.length ≤ maxLen := by unfold maxLen; omega
  have cI := hid (implEventsBytes_any v l w1 hS hs.fit hl63)
  have HS := hid hS
  have HF := hid hs.fit
  have HB1 := hid hb1
  have HN := hid hl63
  obtain ⟨a3, c3, rfl⟩ := sl_form hS
  clear hS hs hl hb1 hl63 cA
  go_wp2_with fail
  refine cI.out.mono ?_
  rintro e w2 ⟨rfl, hb2⟩
  have HB2 := hid (HB1.out.trans (hb2.mono HB1.out.size))
  have HS2 := hid (HS.out.stay hb2 (Nat.le_refl _))
  clear hb2 HB1 HS cI
  have cJ := hid (specEventsBytes_any _ l w2 HS2.out HF.out HN.out)
  by_cases hT : evBy l = ⟨#[]⟩
  · rw [hT] at cJ
    rw [hT]
    go_wp2_with fail
    refine cJ.out.mono ?_
    rintro e w3 ⟨rfl, hb3⟩
    have HB3 := hid (HB2.out.trans (hb3.mono HB2.out.size))
    clear hb3 HB2 HS2 cJ
    go_wp2_with fail
    refine (cR.out w3 (HM.out.below HB3.out)).mono ?_
    rintro e w4 ⟨u, rfl, hb4⟩
    have HB4 := hid (HB3.out.trans (hb4.mono HB3.out.size))
    clear hb4 HB3 cR
    go_wp2_with fail
    refine (implEventsRead_any u _).mono ?_
    rintro e w5 ⟨vx, rfl, hox, hb5⟩
    have cS := hid (fun w => specEventsRead_all u w)
    have hrow := hid (rdOut_row u)
    generalize (rdOut u).2 = c at *
    generalize (rdOut u).1 = es at *
    obtain ⟨ax, kx, rfl⟩ := own_forms hox
    have hz5 := HB4.out.size
    have hz5b := hb5.size
    have HO5 := hid (hox.alloc (.cells [.slice ax es.length kx, .int .i64 c].toArray 28))
    have HB5 := hid ((HB4.out.trans (hb5.mono HB4.out.size)).alloc (by omega) (.cells [.slice ax es.length kx, .int .i64 c].toArray 28))
    have H5 := hid (heap_alloc_new w5 (.cells [.slice ax es.length kx, .int .i64 c].toArray 28))
    clear hox hb5 HB4
    go_wp2_with fail
    refine (cE.out _ (HM.out.below HB5.out)).mono ?_
    rintro e w6 ⟨q0, q1, q2, q3, q4, q5, rfl, s4, s5, hb6⟩
    have hz6 := hb6.size
    simp at hz6
    have h5 : w6.heap[w5.heap.size]? = some (.cells [.slice ax es.length kx, .int .i64 c].toArray 28 (0, 0)) := (hb6.block w5.heap.size (by simp)).trans H5.out
    have H6a : Hid ((w6.alloc (.cells [.int .i64 q0, .int .i64 q1, .int .i64 q2, .int .i64 q3, .string q4, .string q5].toArray 32)).heap[w5.heap.size]? = some (.cells [.slice ax es.length kx, .int .i64 c].toArray 28 (0, 0))) := by
      show _ = _
      rw [alloc_old (by omega)]; exact h5
    have HO6 := hid ((own_stay HO5.out hb6).alloc (.cells [.int .i64 q0, .int .i64 q1, .int .i64 q2, .int .i64 q3, .string q4, .string q5].toArray 32))
    have HB6 := hid ((HB5.out.trans (hb6.mono HB5.out.size)).alloc (by omega) (.cells [.int .i64 q0, .int .i64 q1, .int .i64 q2, .int .i64 q3, .string q4, .string q5].toArray 32))
    have H6 := hid (heap_alloc_new w6 (.cells [.int .i64 q0, .int .i64 q1, .int .i64 q2, .int .i64 q3, .string q4, .string q5].toArray 32))
    clear hb6 HB5 HO5 H5 h5 cE HM
    go_wp2_with fail
    refine (cK.out _ (HA.out.below HB6.out)).mono ?_
    rintro e w7 ⟨k, rfl, hb7⟩
    have hz7 := hb7.size
    simp at hz7
    have h7 := (hb7.block w5.heap.size (by simp; omega)).trans H6a.out
    have h8 := (hb7.block w6.heap.size (by simp)).trans H6.out
    have HO7 := hid (own_stay HO6.out hb7)
    have HB7 := hid (HB6.out.trans (hb7.mono HB6.out.size))
    clear hb7 HB6 HO6 H6 H6a cK HA
    have hG7 := HG.out.below HB7.out (Nat.le_refl _)
    have hmx4 : q4.size ≤ maxLen := by unfold maxLen; omega
    have d1 := fun d os => Calls.regrown_of (w := w7) (d := d) (os := os) (implEventRight_any q0 q1 q2 q3 q4 q5 _ hmx4)
    have d2 := fun d os => Calls.regrown_of (w := w7) (d := d) (os := os) (specEventRight_any q0 q1 q2 q3 q4 q5 _ hmx4)
    have d3 := fun d os => Calls.regrown_of (w := w7) (d := d) (os := os) (implKind_below k _ (hG7.below (below_regrown w7 d os) (Nat.le_refl _)))
    have d4 := fun d os => Calls.regrown_of (w := w7) (d := d) (os := os) (specKindText_any k _)
    have d5 := fun d os => Calls.regrown_of (w := w7) (d := d) (os := os) (implKind_below q3 _ (hG7.below (below_regrown w7 d os) (Nat.le_refl _)))
    have y0 := cell_regrown (show w7.cell? ⟨w6.heap.size, 0, none⟩ = some (.int .i64 q0) by rw [Lib.cell_of_heap h8]; rfl)
    have y1 := cell_regrown (show w7.cell? ⟨w6.heap.size, 1, none⟩ = some (.int .i64 q1) by rw [Lib.cell_of_heap h8]; rfl)
    have y2 := cell_regrown (show w7.cell? ⟨w6.heap.size, 2, none⟩ = some (.int .i64 q2) by rw [Lib.cell_of_heap h8]; rfl)
    have y3 := cell_regrown (show w7.cell? ⟨w6.heap.size, 3, none⟩ = some (.int .i64 q3) by rw [Lib.cell_of_heap h8]; rfl)
    have y4 := cell_regrown (show w7.cell? ⟨w6.heap.size, 4, none⟩ = some (.string q4) by rw [Lib.cell_of_heap h8]; rfl)
    have y5 := cell_regrown (show w7.cell? ⟨w6.heap.size, 5, none⟩ = some (.string q5) by rw [Lib.cell_of_heap h8]; rfl)
    have hkd := fun h => kd_of_right (q := q0) (t := q1) (r := q2) (k := q3) (s := q4) (v := q5) h
    have H7 := hid h7
    have HG7 := hid hG7
    clear h7 h8 hG7 HG
    generalize evB ⟨q0, q1, q2, q3, q4, q5⟩ = B at *
    generalize kdT k = S at *
    generalize kdT q3 = S3 at *
    cases B with
    | false =>
      clear hkd d5
      go_wp2_with fail
      refine wp_region_quiet_below mixed (by kernel_rfl) ?_
      repeat (quiet_step (first | (go_at_call 13; exact d1 _ _) | (go_at_call 14; exact d2 _ _) | (go_at_call 16; exact d4 _ _) | (go_at_call_of 15 (Value.int IntKind.i64 k); exact d3 _ _)))
      refine wpQuiet_nil ?_
      intro _ hw'
      obtain ⟨⟨dq, osq⟩, hw''⟩ := hw'
      subst hw''
      have hb9 := below_regrown w7 dq osq
      generalize grow (redrawn w7 dq) osq = w9 at *
      have HB9 := hid (HB7.out.trans (hb9.mono HB7.out.size))
      have HO9 := hid (own_stay HO7.out hb9)
      have h9 := (hb9.block w5.heap.size (lt_heap H7.out)).trans H7.out
      obtain ⟨x0, x1⟩ := out_cells h9
      have HL9 := hid (lt_heap h9)
      clear d1 d2 d3 d4
      clear hb9 h9 y0 y1 y2 y3 y4 y5 HG7 H7 HO7 HB7
      go_wp2_with fail
      have hd9 : Below w9.heap.size w9 w9.drew := (Below.refl _ _).drew
      have hfd2 : ∀ (a : Option Addr) (n k : Nat) (w : World), (Instr.field 28 (.agg #[.slice a n k, .int .i64 c]) 1).run Tryd.prog w = .ok (.int .i64 c) w := fun _ _ _ _ => by kernel_rfl
      have hgl : w5.heap.size < w9.heap.size := HL9.out
      clear HL9
      generalize w5.heap.size = g at *
      by_cases hc : c = 0
      · have cB : Hid (∀ w', Below w9.heap.size w9 w' → Calls Tryd.prog 6 #[.slice ax es.length kx] w' fun e w'' => e = .returned (.string u) ∧ Below w'.heap.size w' w'') := by
          show ∀ w', _
          intro w' hb'
          have := implEventsBytes_any _ es w' (sl_of_own (own_stay HO9.out hb')) hrow.out.2.1 hrow.out.2.2
          rw [hrow.out.1 hc] at this
          exact this
        subst hc
        go_region_held3 (fun w' => w'.cell? ⟨g, 0, none⟩ = some (.slice ax es.length kx) ∧ w'.cell? ⟨g, 1, none⟩ = some (.int .i64 0) ∧ Below w9.heap.size w9 w') (go_keep) (first | (go_at_call 17; refine (cS.out _).mono ?_; rintro e w10 ⟨v10, rfl, _, ho10, hb10⟩; obtain ⟨a10, k10, rfl⟩ := own_forms ho10; have hBx := hd9.trans (hb10.mono hd9.size); have xa0 := (hBx.cell (p := ⟨g, 0, none⟩) hgl).trans x0; have xa1 := (hBx.cell (p := ⟨g, 1, none⟩) hgl).trans x1; clear ho10 hb10) | (go_at_call 6; refine (cB.out w10 hBx).mono ?_; rintro e w11 ⟨rfl, hb11⟩; have hBy := hBx.trans (hb11.mono hBx.size); have xb0 := (hBy.cell (p := ⟨g, 0, none⟩) hgl).trans x0; have xb1 := (hBy.cell (p := ⟨g, 1, none⟩) hgl).trans x1; clear hb11))
        go_wp2
        go_ret
        exact ⟨rfl, HB9.out.trans (hBy.mono HB9.out.size)⟩
      · have cN : Hid (∀ w, Calls Tryd.prog 17 #[.string u] w fun e w' => e = .returned (.agg #[.slice none 0 0, .int .i64 c]) ∧ Below w.heap.size w w') := by
          show ∀ w, _
          intro w
          refine (cS.out w).mono ?_
          rintro e w' ⟨v, rfl, hv, _, hb⟩
          rcases hv with hv | rfl
          · exact absurd hv hc
          · exact ⟨rfl, hb⟩
        have k0 := cell_regrown x0
        have k1 := cell_regrown x1
        have d6 := fun d os => Calls.regrown_of (w := w9) (d := d) (os := os) (cN.out _)
        have hfd3 := hfd2 none 0 0
        clear cS x0 x1 hfd2 cN
        have hcb : (c == 0) = false := by simpa using hc
        have hcn : (c != 0) = true := by simpa using hc
        have hcd : decide (c = 0) = false := by simpa using hc
        clear hd9 hgl hrow HO9 hz5 hz5b hz6 hz7 s4 s5 hmx4 HF HN
        refine wp_region_quiet_below mixed (by kernel_rfl) ?_
        repeat (quiet_step (first | (go_at_call 17; exact d6 _ _)))
        refine wpQuiet_nil ?_
        intro _ hw'
        obtain ⟨⟨dq, osq⟩, hw''⟩ := hw'
        subst hw''
        clear k0 k1 d6 hfd3
        go_wp2
        go_ret
        exact ⟨rfl, HB9.out.trans ((below_regrown w9 dq osq).mono HB9.out.size)⟩
    | true =>
      have hSb := emp_beq (hkd rfl)
      have hSi := emp_is (hkd rfl)
      clear hkd
      go_wp2_with fail
      refine wp_region_quiet_below mixed (by kernel_rfl) ?_
      repeat (quiet_step (first | (go_at_call 13; exact d1 _ _) | (go_at_call 14; exact d2 _ _) | (go_at_call 16; exact d4 _ _) | (go_at_call_of 15 (Value.int IntKind.i64 k); exact d3 _ _) | (go_at_call_of 15 (Value.int IntKind.i64 q3); exact d5 _ _)))
      refine wpQuiet_nil ?_
      intro _ hw'
      obtain ⟨⟨dq, osq⟩, hw''⟩ := hw'
      subst hw''
      have hb9 := below_regrown w7 dq osq
      generalize grow (redrawn w7 dq) osq = w9 at *
      have HB9 := hid (HB7.out.trans (hb9.mono HB7.out.size))
      have HO9 := hid (own_stay HO7.out hb9)
      have h9 := (hb9.block w5.heap.size (lt_heap H7.out)).trans H7.out
      obtain ⟨x0, x1⟩ := out_cells h9
      have HL9 := hid (lt_heap h9)
      clear d1 d2 d3 d4 d5 hSb hSi
      clear hb9 h9 y0 y1 y2 y3 y4 y5 HG7 H7 HO7 HB7
      go_wp2_with fail
      have hd9 : Below w9.heap.size w9 w9.drew := (Below.refl _ _).drew
      have hfd2 : ∀ (a : Option Addr) (n k : Nat) (w : World), (Instr.field 28 (.agg #[.slice a n k, .int .i64 c]) 1).run Tryd.prog w = .ok (.int .i64 c) w := fun _ _ _ _ => by kernel_rfl
      have hgl : w5.heap.size < w9.heap.size := HL9.out
      clear HL9
      generalize w5.heap.size = g at *
      by_cases hc : c = 0
      · have cB : Hid (∀ w', Below w9.heap.size w9 w' → Calls Tryd.prog 6 #[.slice ax es.length kx] w' fun e w'' => e = .returned (.string u) ∧ Below w'.heap.size w' w'') := by
          show ∀ w', _
          intro w' hb'
          have := implEventsBytes_any _ es w' (sl_of_own (own_stay HO9.out hb')) hrow.out.2.1 hrow.out.2.2
          rw [hrow.out.1 hc] at this
          exact this
        subst hc
        go_region_held3 (fun w' => w'.cell? ⟨g, 0, none⟩ = some (.slice ax es.length kx) ∧ w'.cell? ⟨g, 1, none⟩ = some (.int .i64 0) ∧ Below w9.heap.size w9 w') (go_keep) (first | (go_at_call 17; refine (cS.out _).mono ?_; rintro e w10 ⟨v10, rfl, _, ho10, hb10⟩; obtain ⟨a10, k10, rfl⟩ := own_forms ho10; have hBx := hd9.trans (hb10.mono hd9.size); have xa0 := (hBx.cell (p := ⟨g, 0, none⟩) hgl).trans x0; have xa1 := (hBx.cell (p := ⟨g, 1, none⟩) hgl).trans x1; clear ho10 hb10) | (go_at_call 6; refine (cB.out w10 hBx).mono ?_; rintro e w11 ⟨rfl, hb11⟩; have hBy := hBx.trans (hb11.mono hBx.size); have xb0 := (hBy.cell (p := ⟨g, 0, none⟩) hgl).trans x0; have xb1 := (hBy.cell (p := ⟨g, 1, none⟩) hgl).trans x1; clear hb11))
        go_wp2
        go_ret
        exact ⟨rfl, HB9.out.trans (hBy.mono HB9.out.size)⟩
      · have cN : Hid (∀ w, Calls Tryd.prog 17 #[.string u] w fun e w' => e = .returned (.agg #[.slice none 0 0, .int .i64 c]) ∧ Below w.heap.size w w') := by
          show ∀ w, _
          intro w
          refine (cS.out w).mono ?_
          rintro e w' ⟨v, rfl, hv, _, hb⟩
          rcases hv with hv | rfl
          · exact absurd hv hc
          · exact ⟨rfl, hb⟩
        have k0 := cell_regrown x0
        have k1 := cell_regrown x1
        have d6 := fun d os => Calls.regrown_of (w := w9) (d := d) (os := os) (cN.out _)
        have hfd3 := hfd2 none 0 0
        clear cS x0 x1 hfd2 cN
        have hcb : (c == 0) = false := by simpa using hc
        have hcn : (c != 0) = true := by simpa using hc
        have hcd : decide (c = 0) = false := by simpa using hc
        clear hd9 hgl hrow HO9 hz5 hz5b hz6 hz7 s4 s5 hmx4 HF HN
        refine wp_region_quiet_below mixed (by kernel_rfl) ?_
        repeat (quiet_step (first | (go_at_call 17; exact d6 _ _)))
        refine wpQuiet_nil ?_
        intro _ hw'
        obtain ⟨⟨dq, osq⟩, hw''⟩ := hw'
        subst hw''
        clear k0 k1 d6 hfd3
        go_wp2
        go_ret
        exact ⟨rfl, HB9.out.trans ((below_regrown w9 dq osq).mono HB9.out.size)⟩
  · have hrd := rdOut_of_by hT
    have cX := hid (fun w => implEventsRead_any (evBy l) w)
    rw [hrd] at cX
    generalize evBy l = T at *
    clear hrd
    have hTb := emp_beq (s := T) (fun h => hT h)
    have hTi := emp_is (s := T) (fun h => hT h)
    clear hT
    go_wp2_with fail
    refine cJ.out.mono ?_
    rintro e w3 ⟨rfl, hb3⟩
    have HB3 := hid (HB2.out.trans (hb3.mono HB2.out.size))
    have HS3 := hid (HS2.out.stay hb3 (Nat.le_refl _))
    clear hb3 HB2 HS2 cJ
    go_wp2_with fail
    refine (cX.out _).mono ?_
    rintro e w8 ⟨v8, rfl, ho8, hb8⟩
    have HB8 := hid (HB3.out.trans (hb8.mono HB3.out.size))
    have HS8 := hid (HS3.out.stay hb8 (Nat.le_refl _))
    have HO8 := hid (sl_of_own ho8)
    obtain ⟨a8, c8, rfl⟩ := sl_form HO8.out
    have hfd : ∀ w : World, (Instr.field 28 (.agg #[.slice a8 l.length c8, .int .i64 0]) 0).run Tryd.prog w = .ok (.slice a8 l.length c8) w := fun _ => by kernel_rfl
    clear ho8 hb8 cX HB3 HS3
    go_wp2_with fail
    refine (lwEvents_any _ _ l _ HO8.out HS8.out HN.out).mono ?_
    rintro e w3 ⟨rfl, hb3⟩
    have HB3 := hid (HB8.out.trans (hb3.mono HB8.out.size))
    clear hb3 HB8 HS8 HO8 hfd
    go_wp2_with fail
    refine (cR.out w3 (HM.out.below HB3.out)).mono ?_
    rintro e w4 ⟨u, rfl, hb4⟩
    have HB4 := hid (HB3.out.trans (hb4.mono HB3.out.size))
    clear hb4 HB3 cR
    go_wp2_with fail
    refine (implEventsRead_any u _).mono ?_
    rintro e w5 ⟨vx, rfl, hox, hb5⟩
    have cS := hid (fun w => specEventsRead_all u w)
    have hrow := hid (rdOut_row u)
    generalize (rdOut u).2 = c at *
    generalize (rdOut u).1 = es at *
    obtain ⟨ax, kx, rfl⟩ := own_forms hox
    have hz5 := HB4.out.size
    have hz5b := hb5.size
    have HO5 := hid (hox.alloc (.cells [.slice ax es.length kx, .int .i64 c].toArray 28))
    have HB5 := hid ((HB4.out.trans (hb5.mono HB4.out.size)).alloc (by omega) (.cells [.slice ax es.length kx, .int .i64 c].toArray 28))
    have H5 := hid (heap_alloc_new w5 (.cells [.slice ax es.length kx, .int .i64 c].toArray 28))
    clear hox hb5 HB4
    go_wp2_with fail
    refine (cE.out _ (HM.out.below HB5.out)).mono ?_
    rintro e w6 ⟨q0, q1, q2, q3, q4, q5, rfl, s4, s5, hb6⟩
    have hz6 := hb6.size
    simp at hz6
    have h5 : w6.heap[w5.heap.size]? = some (.cells [.slice ax es.length kx, .int .i64 c].toArray 28 (0, 0)) := (hb6.block w5.heap.size (by simp)).trans H5.out
    have H6a : Hid ((w6.alloc (.cells [.int .i64 q0, .int .i64 q1, .int .i64 q2, .int .i64 q3, .string q4, .string q5].toArray 32)).heap[w5.heap.size]? = some (.cells [.slice ax es.length kx, .int .i64 c].toArray 28 (0, 0))) := by
      show _ = _
      rw [alloc_old (by omega)]; exact h5
    have HO6 := hid ((own_stay HO5.out hb6).alloc (.cells [.int .i64 q0, .int .i64 q1, .int .i64 q2, .int .i64 q3, .string q4, .string q5].toArray 32))
    have HB6 := hid ((HB5.out.trans (hb6.mono HB5.out.size)).alloc (by omega) (.cells [.int .i64 q0, .int .i64 q1, .int .i64 q2, .int .i64 q3, .string q4, .string q5].toArray 32))
    have H6 := hid (heap_alloc_new w6 (.cells [.int .i64 q0, .int .i64 q1, .int .i64 q2, .int .i64 q3, .string q4, .string q5].toArray 32))
    clear hb6 HB5 HO5 H5 h5 cE HM
    go_wp2_with fail
    refine (cK.out _ (HA.out.below HB6.out)).mono ?_
    rintro e w7 ⟨k, rfl, hb7⟩
    have hz7 := hb7.size
    simp at hz7
    have h7 := (hb7.block w5.heap.size (by simp; omega)).trans H6a.out
    have h8 := (hb7.block w6.heap.size (by simp)).trans H6.out
    have HO7 := hid (own_stay HO6.out hb7)
    have HB7 := hid (HB6.out.trans (hb7.mono HB6.out.size))
    clear hb7 HB6 HO6 H6 H6a cK HA
    have hG7 := HG.out.below HB7.out (Nat.le_refl _)
    have hmx4 : q4.size ≤ maxLen := by unfold maxLen; omega
    have d1 := fun d os => Calls.regrown_of (w := w7) (d := d) (os := os) (implEventRight_any q0 q1 q2 q3 q4 q5 _ hmx4)
    have d2 := fun d os => Calls.regrown_of (w := w7) (d := d) (os := os) (specEventRight_any q0 q1 q2 q3 q4 q5 _ hmx4)
    have d3 := fun d os => Calls.regrown_of (w := w7) (d := d) (os := os) (implKind_below k _ (hG7.below (below_regrown w7 d os) (Nat.le_refl _)))
    have d4 := fun d os => Calls.regrown_of (w := w7) (d := d) (os := os) (specKindText_any k _)
    have d5 := fun d os => Calls.regrown_of (w := w7) (d := d) (os := os) (implKind_below q3 _ (hG7.below (below_regrown w7 d os) (Nat.le_refl _)))
    have y0 := cell_regrown (show w7.cell? ⟨w6.heap.size, 0, none⟩ = some (.int .i64 q0) by rw [Lib.cell_of_heap h8]; rfl)
    have y1 := cell_regrown (show w7.cell? ⟨w6.heap.size, 1, none⟩ = some (.int .i64 q1) by rw [Lib.cell_of_heap h8]; rfl)
    have y2 := cell_regrown (show w7.cell? ⟨w6.heap.size, 2, none⟩ = some (.int .i64 q2) by rw [Lib.cell_of_heap h8]; rfl)
    have y3 := cell_regrown (show w7.cell? ⟨w6.heap.size, 3, none⟩ = some (.int .i64 q3) by rw [Lib.cell_of_heap h8]; rfl)
    have y4 := cell_regrown (show w7.cell? ⟨w6.heap.size, 4, none⟩ = some (.string q4) by rw [Lib.cell_of_heap h8]; rfl)
    have y5 := cell_regrown (show w7.cell? ⟨w6.heap.size, 5, none⟩ = some (.string q5) by rw [Lib.cell_of_heap h8]; rfl)
    have hkd := fun h => kd_of_right (q := q0) (t := q1) (r := q2) (k := q3) (s := q4) (v := q5) h
    have H7 := hid h7
    have HG7 := hid hG7
    clear h7 h8 hG7 HG
    generalize evB ⟨q0, q1, q2, q3, q4, q5⟩ = B at *
    generalize kdT k = S at *
    generalize kdT q3 = S3 at *
    cases B with
    | false =>
      clear hkd d5
      go_wp2_with fail
      refine wp_region_quiet_below mixed (by kernel_rfl) ?_
      repeat (quiet_step (first | (go_at_call 13; exact d1 _ _) | (go_at_call 14; exact d2 _ _) | (go_at_call 16; exact d4 _ _) | (go_at_call_of 15 (Value.int IntKind.i64 k); exact d3 _ _)))
      refine wpQuiet_nil ?_
      intro _ hw'
      obtain ⟨⟨dq, osq⟩, hw''⟩ := hw'
      subst hw''
      have hb9 := below_regrown w7 dq osq
      generalize grow (redrawn w7 dq) osq = w9 at *
      have HB9 := hid (HB7.out.trans (hb9.mono HB7.out.size))
      have HO9 := hid (own_stay HO7.out hb9)
      have h9 := (hb9.block w5.heap.size (lt_heap H7.out)).trans H7.out
      obtain ⟨x0, x1⟩ := out_cells h9
      have HL9 := hid (lt_heap h9)
      clear d1 d2 d3 d4
      clear hb9 h9 y0 y1 y2 y3 y4 y5 HG7 H7 HO7 HB7
      go_wp2_with fail
      have hd9 : Below w9.heap.size w9 w9.drew := (Below.refl _ _).drew
      have hfd2 : ∀ (a : Option Addr) (n k : Nat) (w : World), (Instr.field 28 (.agg #[.slice a n k, .int .i64 c]) 1).run Tryd.prog w = .ok (.int .i64 c) w := fun _ _ _ _ => by kernel_rfl
      have hgl : w5.heap.size < w9.heap.size := HL9.out
      clear HL9
      generalize w5.heap.size = g at *
      by_cases hc : c = 0
      · have cB : Hid (∀ w', Below w9.heap.size w9 w' → Calls Tryd.prog 6 #[.slice ax es.length kx] w' fun e w'' => e = .returned (.string u) ∧ Below w'.heap.size w' w'') := by
          show ∀ w', _
          intro w' hb'
          have := implEventsBytes_any _ es w' (sl_of_own (own_stay HO9.out hb')) hrow.out.2.1 hrow.out.2.2
          rw [hrow.out.1 hc] at this
          exact this
        subst hc
        go_region_held3 (fun w' => w'.cell? ⟨g, 0, none⟩ = some (.slice ax es.length kx) ∧ w'.cell? ⟨g, 1, none⟩ = some (.int .i64 0) ∧ Below w9.heap.size w9 w') (go_keep) (first | (go_at_call 17; refine (cS.out _).mono ?_; rintro e w10 ⟨v10, rfl, _, ho10, hb10⟩; obtain ⟨a10, k10, rfl⟩ := own_forms ho10; have hBx := hd9.trans (hb10.mono hd9.size); have xa0 := (hBx.cell (p := ⟨g, 0, none⟩) hgl).trans x0; have xa1 := (hBx.cell (p := ⟨g, 1, none⟩) hgl).trans x1; clear ho10 hb10) | (go_at_call 6; refine (cB.out w10 hBx).mono ?_; rintro e w11 ⟨rfl, hb11⟩; have hBy := hBx.trans (hb11.mono hBx.size); have xb0 := (hBy.cell (p := ⟨g, 0, none⟩) hgl).trans x0; have xb1 := (hBy.cell (p := ⟨g, 1, none⟩) hgl).trans x1; clear hb11))
        go_wp2
        go_ret
        exact ⟨rfl, HB9.out.trans (hBy.mono HB9.out.size)⟩
      · have cN : Hid (∀ w, Calls Tryd.prog 17 #[.string u] w fun e w' => e = .returned (.agg #[.slice none 0 0, .int .i64 c]) ∧ Below w.heap.size w w') := by
          show ∀ w, _
          intro w
          refine (cS.out w).mono ?_
          rintro e w' ⟨v, rfl, hv, _, hb⟩
          rcases hv with hv | rfl
          · exact absurd hv hc
          · exact ⟨rfl, hb⟩
        have k0 := cell_regrown x0
        have k1 := cell_regrown x1
        have d6 := fun d os => Calls.regrown_of (w := w9) (d := d) (os := os) (cN.out _)
        have hfd3 := hfd2 none 0 0
        clear cS x0 x1 hfd2 cN
        have hcb : (c == 0) = false := by simpa using hc
        have hcn : (c != 0) = true := by simpa using hc
        have hcd : decide (c = 0) = false := by simpa using hc
        clear hd9 hgl hrow HO9 hz5 hz5b hz6 hz7 s4 s5 hmx4 HF HN
        refine wp_region_quiet_below mixed (by kernel_rfl) ?_
        repeat (quiet_step (first | (go_at_call 17; exact d6 _ _)))
        refine wpQuiet_nil ?_
        intro _ hw'
        obtain ⟨⟨dq, osq⟩, hw''⟩ := hw'
        subst hw''
        clear k0 k1 d6 hfd3
        go_wp2
        go_ret
        exact ⟨rfl, HB9.out.trans ((below_regrown w9 dq osq).mono HB9.out.size)⟩
    | true =>
      have hSb := emp_beq (hkd rfl)
      have hSi := emp_is (hkd rfl)
      clear hkd
      go_wp2_with fail
      refine wp_region_quiet_below mixed (by kernel_rfl) ?_
      repeat (quiet_step (first | (go_at_call 13; exact d1 _ _) | (go_at_call 14; exact d2 _ _) | (go_at_call 16; exact d4 _ _) | (go_at_call_of 15 (Value.int IntKind.i64 k); exact d3 _ _) | (go_at_call_of 15 (Value.int IntKind.i64 q3); exact d5 _ _)))
      refine wpQuiet_nil ?_
      intro _ hw'
      obtain ⟨⟨dq, osq⟩, hw''⟩ := hw'
      subst hw''
      have hb9 := below_regrown w7 dq osq
      generalize grow (redrawn w7 dq) osq = w9 at *
      have HB9 := hid (HB7.out.trans (hb9.mono HB7.out.size))
      have HO9 := hid (own_stay HO7.out hb9)
      have h9 := (hb9.block w5.heap.size (lt_heap H7.out)).trans H7.out
      obtain ⟨x0, x1⟩ := out_cells h9
      have HL9 := hid (lt_heap h9)
      clear d1 d2 d3 d4 d5 hSb hSi
      clear hb9 h9 y0 y1 y2 y3 y4 y5 HG7 H7 HO7 HB7
      go_wp2_with fail
      have hd9 : Below w9.heap.size w9 w9.drew := (Below.refl _ _).drew
      have hfd2 : ∀ (a : Option Addr) (n k : Nat) (w : World), (Instr.field 28 (.agg #[.slice a n k, .int .i64 c]) 1).run Tryd.prog w = .ok (.int .i64 c) w := fun _ _ _ _ => by kernel_rfl
      have hgl : w5.heap.size < w9.heap.size := HL9.out
      clear HL9
      generalize w5.heap.size = g at *
      by_cases hc : c = 0
      · have cB : Hid (∀ w', Below w9.heap.size w9 w' → Calls Tryd.prog 6 #[.slice ax es.length kx] w' fun e w'' => e = .returned (.string u) ∧ Below w'.heap.size w' w'') := by
          show ∀ w', _
          intro w' hb'
          have := implEventsBytes_any _ es w' (sl_of_own (own_stay HO9.out hb')) hrow.out.2.1 hrow.out.2.2
          rw [hrow.out.1 hc] at this
          exact this
        subst hc
        go_region_held3 (fun w' => w'.cell? ⟨g, 0, none⟩ = some (.slice ax es.length kx) ∧ w'.cell? ⟨g, 1, none⟩ = some (.int .i64 0) ∧ Below w9.heap.size w9 w') (go_keep) (first | (go_at_call 17; refine (cS.out _).mono ?_; rintro e w10 ⟨v10, rfl, _, ho10, hb10⟩; obtain ⟨a10, k10, rfl⟩ := own_forms ho10; have hBx := hd9.trans (hb10.mono hd9.size); have xa0 := (hBx.cell (p := ⟨g, 0, none⟩) hgl).trans x0; have xa1 := (hBx.cell (p := ⟨g, 1, none⟩) hgl).trans x1; clear ho10 hb10) | (go_at_call 6; refine (cB.out w10 hBx).mono ?_; rintro e w11 ⟨rfl, hb11⟩; have hBy := hBx.trans (hb11.mono hBx.size); have xb0 := (hBy.cell (p := ⟨g, 0, none⟩) hgl).trans x0; have xb1 := (hBy.cell (p := ⟨g, 1, none⟩) hgl).trans x1; clear hb11))
        go_wp2
        go_ret
        exact ⟨rfl, HB9.out.trans (hBy.mono HB9.out.size)⟩
      · have cN : Hid (∀ w, Calls Tryd.prog 17 #[.string u] w fun e w' => e = .returned (.agg #[.slice none 0 0, .int .i64 c]) ∧ Below w.heap.size w w') := by
          show ∀ w, _
          intro w
          refine (cS.out w).mono ?_
          rintro e w' ⟨v, rfl, hv, _, hb⟩
          rcases hv with hv | rfl
          · exact absurd hv hc
          · exact ⟨rfl, hb⟩
        have k0 := cell_regrown x0
        have k1 := cell_regrown x1
        have d6 := fun d os => Calls.regrown_of (w := w9) (d := d) (os := os) (cN.out _)
        have hfd3 := hfd2 none 0 0
        clear cS x0 x1 hfd2 cN
        have hcb : (c == 0) = false := by simpa using hc
        have hcn : (c != 0) = true := by simpa using hc
        have hcd : decide (c = 0) = false := by simpa using hc
        clear hd9 hgl hrow HO9 hz5 hz5b hz6 hz7 s4 s5 hmx4 HF HN
        refine wp_region_quiet_below mixed (by kernel_rfl) ?_
        repeat (quiet_step (first | (go_at_call 17; exact d6 _ _)))
        refine wpQuiet_nil ?_
        intro _ hw'
        obtain ⟨⟨dq, osq⟩, hw''⟩ := hw'
        subst hw''
        clear k0 k1 d6 hfd3
        go_wp2
        go_ret
        exact ⟨rfl, HB9.out.trans ((below_regrown w9 dq osq).mono HB9.out.size)⟩
end Go.Proofs.YticnffakngpkfaaDoor
