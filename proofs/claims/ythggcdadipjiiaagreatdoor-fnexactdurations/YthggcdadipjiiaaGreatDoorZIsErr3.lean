/-
  Texts put together: IsErr, ErrC, At.
-/
import Derived.Test.YthggcdadipjiiaaGreatDoorZAgg3
import Derived.LaidEql
import Derived.Stop.Asserts
import Derived.RowKitTokens
import Derived.Test.YthggcdadipjiiaaGreatDoorZRunM6
/-
  What errors.Is answers at two errors of errors.New's make, the same one or another: contracts over the seat's program.
-/
namespace Go.Proofs.YthggcdadipjiiaaGreatDoor
open Go.RowKit Go.Extern.Stop Go.Stop Go.Extern

theorem Tryz.isTypeOf (v : Value) (w : World) : (Extern.ReflectliteType.typeOf #[.iface 216 v]).run Tryz.prog w = .ok (.iface 203 (.agg #[.pointer (some ⟨6, 216, none⟩)])) w := by kernel_rfl
theorem Tryz.callComp (w : World) : (callFunc 196 #[.agg #[.pointer (some ⟨6, 216, none⟩)]]).run Tryz.prog w = .ok (.value (.bool true)) w := by kernel_rfl
theorem Tryz.isMethodComparable (v : Value) (w : World) : (Go.method 352 203 v "Comparable").run Tryz.prog w = .ok (196, v) w := by kernel_rfl
theorem Tryz.isComp : (Tryz.prog.info? 216).map (·.comparable) = some true := by kernel_rfl
theorem Tryz.isSize : (Tryz.prog.info? 240).map (·.size) = some 1 := by kernel_rfl
theorem Tryz.noIsE (v : Value) (xT : TypeId) (w : World) : (Instr.typeAssert (.iface 216 v) xT 205 true).run Tryz.prog w = .ok (.tuple #[.nilIface, .bool false]) w := run_typeAssert_lacksB Tryz.underlying205 (by kernel_rfl) (by kernel_rfl) v xT w
theorem Tryz.noUnwrapE (v : Value) (xT : TypeId) (w : World) : (Instr.typeAssert (.iface 216 v) xT 208 true).run Tryz.prog w = .ok (.tuple #[.nilIface, .bool false]) w := run_typeAssert_lacksB Tryz.underlying208 (by kernel_rfl) (by kernel_rfl) v xT w
theorem Tryz.noUnwrapsE (v : Value) (xT : TypeId) (w : World) : (Instr.typeAssert (.iface 216 v) xT 210 true).run Tryz.prog w = .ok (.tuple #[.nilIface, .bool false]) w := run_typeAssert_lacksB Tryz.underlying210 (by kernel_rfl) (by kernel_rfl) v xT w
/-- The same one. -/
theorem is_same (a : Addr) (w : World) :
    Calls Tryz.prog 137 #[.iface 216 (.pointer (some a)), .iface 216 (.pointer (some a))] w fun e w' => e = .returned (.bool true) ∧ w' = w := by
  obtain ⟨i, hi, hcmp⟩ := Option.map_eq_some_iff.1 Tryz.isComp
  obtain ⟨j, hj, _⟩ := Option.map_eq_some_iff.1 Tryz.isSize
  have h8 := @run_callFunc_extern Tryz.prog 159 _ Extern.ReflectliteType.typeOf Tryz.func159 (by kernel_rfl) (by kernel_rfl) (by kernel_rfl) (by kernel_rfl)
  have h32 := Tryz.callComp
  have tT := Tryz.isTypeOf
  have mR := Tryz.isMethodComparable
  have heq := run_eql_iface_ptr_same (P := Tryz.prog) w a Tryz.underlying144 Tryz.underlying216 hi hcmp hj
  go_enter Tryz.func137, Tryz.ntmps137
  go_wp2
  refine wp_loop_rounds 1 ?_
  rw [rounds_succ]
  go_wp2
  go_ret
  exact ⟨rfl, rfl⟩
/-- Another one: neither has Is nor Unwrap. -/
theorem is_other (a b : Addr) (ca cb : Array Value) (ta tb : TypeId) (w : World) (hne : a ≠ b) (ha : w.heap[a.block]? = some (.cells ca ta (0, 0))) (hb : w.heap[b.block]? = some (.cells cb tb (0, 0))) :
    Calls Tryz.prog 137 #[.iface 216 (.pointer (some a)), .iface 216 (.pointer (some b))] w fun e w' => e = .returned (.bool false) ∧ w' = w := by
  obtain ⟨i, hi, hcmp⟩ := Option.map_eq_some_iff.1 Tryz.isComp
  obtain ⟨j, hj, hjs⟩ := Option.map_eq_some_iff.1 Tryz.isSize
  have h8 := @run_callFunc_extern Tryz.prog 159 _ Extern.ReflectliteType.typeOf Tryz.func159 (by kernel_rfl) (by kernel_rfl) (by kernel_rfl) (by kernel_rfl)
  have h32 := Tryz.callComp
  have tT := Tryz.isTypeOf
  have mR := Tryz.isMethodComparable
  have nE := Tryz.noIsE
  have uE := Tryz.noUnwrapE
  have vE := Tryz.noUnwrapsE
  have heq := run_eql_iface_ptr_other (P := Tryz.prog) w Tryz.underlying144 Tryz.underlying216 hi hcmp hj (by rw [hjs]; decide) hne ha hb
  go_enter Tryz.func137, Tryz.ntmps137
  go_wp2
  refine wp_loop_rounds 1 ?_
  rw [rounds_succ]
  go_wp2
  go_ret
  exact ⟨rfl, rfl⟩
end Go.Proofs.YthggcdadipjiiaaGreatDoor

/-
  The five errors of impl's chapter 4, as they are laid; what impl.codeOfState answers at each: contracts over the seat's program.
-/
namespace Go.Proofs.YthggcdadipjiiaaGreatDoor
open Go.RowKit

/-- An error of errors.New's make. -/
abbrev errV (a : Addr) : Value := .iface 216 (.pointer (some a))
/-- The five variables, each with an error of its own. -/
structure ErrsAt (w : World) (a0 a1 a2 a3 a4 : Addr) : Prop where
  c0 : w.cell? ⟨0, 0, none⟩ = some (errV a0)
  c1 : w.cell? ⟨1, 0, none⟩ = some (errV a1)
  c2 : w.cell? ⟨2, 0, none⟩ = some (errV a2)
  c3 : w.cell? ⟨3, 0, none⟩ = some (errV a3)
  c4 : w.cell? ⟨4, 0, none⟩ = some (errV a4)
  r0 : ∃ c t, w.heap[a0.block]? = some (.cells c t (0, 0))
  r1 : ∃ c t, w.heap[a1.block]? = some (.cells c t (0, 0))
  r2 : ∃ c t, w.heap[a2.block]? = some (.cells c t (0, 0))
  r3 : ∃ c t, w.heap[a3.block]? = some (.cells c t (0, 0))
  r4 : ∃ c t, w.heap[a4.block]? = some (.cells c t (0, 0))
  n10 : a1 ≠ a0
  n20 : a2 ≠ a0
  n21 : a2 ≠ a1
  n30 : a3 ≠ a0
  n31 : a3 ≠ a1
  n32 : a3 ≠ a2
  n40 : a4 ≠ a0
  n41 : a4 ≠ a1
  n42 : a4 ≠ a2
  n43 : a4 ≠ a3
  hs : 4 + 1 ≤ w.heap.size
theorem err_lt {w : World} {g : Nat} {o : Obj} (h : w.heap[g]? = some o) : g < w.heap.size := by
  rcases Nat.lt_or_ge g w.heap.size with h' | h'
  · exact h'
  · simp [Array.getElem?_eq_none h'] at h
theorem ErrsAt.stay {w w' : World} {a0 a1 a2 a3 a4 : Addr} (h : ErrsAt w a0 a1 a2 a3 a4) (hb : Below w.heap.size w w') : ErrsAt w' a0 a1 a2 a3 a4 where
  c0 := (hb.cell (p := ⟨0, 0, none⟩) (Nat.lt_of_lt_of_le (by decide) h.hs)).trans h.c0
  c1 := (hb.cell (p := ⟨1, 0, none⟩) (Nat.lt_of_lt_of_le (by decide) h.hs)).trans h.c1
  c2 := (hb.cell (p := ⟨2, 0, none⟩) (Nat.lt_of_lt_of_le (by decide) h.hs)).trans h.c2
  c3 := (hb.cell (p := ⟨3, 0, none⟩) (Nat.lt_of_lt_of_le (by decide) h.hs)).trans h.c3
  c4 := (hb.cell (p := ⟨4, 0, none⟩) (Nat.lt_of_lt_of_le (by decide) h.hs)).trans h.c4
  r0 := let ⟨c, t, e⟩ := h.r0; ⟨c, t, (hb.block a0.block (err_lt e)).trans e⟩
  r1 := let ⟨c, t, e⟩ := h.r1; ⟨c, t, (hb.block a1.block (err_lt e)).trans e⟩
  r2 := let ⟨c, t, e⟩ := h.r2; ⟨c, t, (hb.block a2.block (err_lt e)).trans e⟩
  r3 := let ⟨c, t, e⟩ := h.r3; ⟨c, t, (hb.block a3.block (err_lt e)).trans e⟩
  r4 := let ⟨c, t, e⟩ := h.r4; ⟨c, t, (hb.block a4.block (err_lt e)).trans e⟩
  n10 := h.n10
  n20 := h.n20
  n21 := h.n21
  n30 := h.n30
  n31 := h.n31
  n32 := h.n32
  n40 := h.n40
  n41 := h.n41
  n42 := h.n42
  n43 := h.n43
  hs := Nat.le_trans h.hs hb.size
set_option maxRecDepth 100000 in
theorem code_0 {a0 a1 a2 a3 a4 : Addr} (w : World) (h : ErrsAt w a0 a1 a2 a3 a4) :
    Calls Tryz.prog 106 #[errV a0] w fun e w' => e = .returned (.int .i64 1) ∧ w' = w := by
  have c0 := h.c0
  have ds := is_same a0 w
  clear h
  go_enter Tryz.func106, Tryz.ntmps106
  go_wp2_with fail
  refine ds.mono ?_
  rintro e w1 ⟨rfl, rfl⟩
  go_wp2
  go_ret
  exact ⟨rfl, rfl⟩
set_option maxRecDepth 100000 in
theorem code_1 {a0 a1 a2 a3 a4 : Addr} (w : World) (h : ErrsAt w a0 a1 a2 a3 a4) :
    Calls Tryz.prog 106 #[errV a1] w fun e w' => e = .returned (.int .i64 10) ∧ w' = w := by
  have c0 := h.c0
  have c1 := h.c1
  obtain ⟨ca0, ta0, ea0⟩ := h.r1
  obtain ⟨cb0, tb0, eb0⟩ := h.r0
  have d0 := is_other a1 a0 _ _ _ _ w h.n10 ea0 eb0
  have ds := is_same a1 w
  clear h ea0 eb0
  go_enter Tryz.func106, Tryz.ntmps106
  go_wp2_with fail
  refine d0.mono ?_
  rintro e w1 ⟨rfl, rfl⟩
  go_wp2_with fail
  refine ds.mono ?_
  rintro e w1 ⟨rfl, rfl⟩
  go_wp2
  go_ret
  exact ⟨rfl, rfl⟩
set_option maxRecDepth 100000 in
theorem code_2 {a0 a1 a2 a3 a4 : Addr} (w : World) (h : ErrsAt w a0 a1 a2 a3 a4) :
    Calls Tryz.prog 106 #[errV a2] w fun e w' => e = .returned (.int .i64 8) ∧ w' = w := by
  have c0 := h.c0
  have c1 := h.c1
  have c2 := h.c2
  obtain ⟨ca0, ta0, ea0⟩ := h.r2
  obtain ⟨cb0, tb0, eb0⟩ := h.r0
  have d0 := is_other a2 a0 _ _ _ _ w h.n20 ea0 eb0
  obtain ⟨ca1, ta1, ea1⟩ := h.r2
  obtain ⟨cb1, tb1, eb1⟩ := h.r1
  have d1 := is_other a2 a1 _ _ _ _ w h.n21 ea1 eb1
  have ds := is_same a2 w
  clear h ea0 eb0 ea1 eb1
  go_enter Tryz.func106, Tryz.ntmps106
  go_wp2_with fail
  refine d0.mono ?_
  rintro e w1 ⟨rfl, rfl⟩
  go_wp2_with fail
  refine d1.mono ?_
  rintro e w1 ⟨rfl, rfl⟩
  go_wp2_with fail
  refine ds.mono ?_
  rintro e w1 ⟨rfl, rfl⟩
  go_wp2
  go_ret
  exact ⟨rfl, rfl⟩
set_option maxRecDepth 100000 in
theorem code_3 {a0 a1 a2 a3 a4 : Addr} (w : World) (h : ErrsAt w a0 a1 a2 a3 a4) :
    Calls Tryz.prog 106 #[errV a3] w fun e w' => e = .returned (.int .i64 6) ∧ w' = w := by
  have c0 := h.c0
  have c1 := h.c1
  have c2 := h.c2
  have c3 := h.c3
  obtain ⟨ca0, ta0, ea0⟩ := h.r3
  obtain ⟨cb0, tb0, eb0⟩ := h.r0
  have d0 := is_other a3 a0 _ _ _ _ w h.n30 ea0 eb0
  obtain ⟨ca1, ta1, ea1⟩ := h.r3
  obtain ⟨cb1, tb1, eb1⟩ := h.r1
  have d1 := is_other a3 a1 _ _ _ _ w h.n31 ea1 eb1
  obtain ⟨ca2, ta2, ea2⟩ := h.r3
  obtain ⟨cb2, tb2, eb2⟩ := h.r2
  have d2 := is_other a3 a2 _ _ _ _ w h.n32 ea2 eb2
  have ds := is_same a3 w
  clear h ea0 eb0 ea1 eb1 ea2 eb2
  go_enter Tryz.func106, Tryz.ntmps106
  go_wp2_with fail
  refine d0.mono ?_
  rintro e w1 ⟨rfl, rfl⟩
  go_wp2_with fail
  refine d1.mono ?_
  rintro e w1 ⟨rfl, rfl⟩
  go_wp2_with fail
  refine d2.mono ?_
  rintro e w1 ⟨rfl, rfl⟩
  go_wp2_with fail
  refine ds.mono ?_
  rintro e w1 ⟨rfl, rfl⟩
  go_wp2
  go_ret
  exact ⟨rfl, rfl⟩
set_option maxRecDepth 100000 in
theorem code_4 {a0 a1 a2 a3 a4 : Addr} (w : World) (h : ErrsAt w a0 a1 a2 a3 a4) :
    Calls Tryz.prog 106 #[errV a4] w fun e w' => e = .returned (.int .i64 9) ∧ w' = w := by
  have c0 := h.c0
  have c1 := h.c1
  have c2 := h.c2
  have c3 := h.c3
  have c4 := h.c4
  obtain ⟨ca0, ta0, ea0⟩ := h.r4
  obtain ⟨cb0, tb0, eb0⟩ := h.r0
  have d0 := is_other a4 a0 _ _ _ _ w h.n40 ea0 eb0
  obtain ⟨ca1, ta1, ea1⟩ := h.r4
  obtain ⟨cb1, tb1, eb1⟩ := h.r1
  have d1 := is_other a4 a1 _ _ _ _ w h.n41 ea1 eb1
  obtain ⟨ca2, ta2, ea2⟩ := h.r4
  obtain ⟨cb2, tb2, eb2⟩ := h.r2
  have d2 := is_other a4 a2 _ _ _ _ w h.n42 ea2 eb2
  obtain ⟨ca3, ta3, ea3⟩ := h.r4
  obtain ⟨cb3, tb3, eb3⟩ := h.r3
  have d3 := is_other a4 a3 _ _ _ _ w h.n43 ea3 eb3
  have ds := is_same a4 w
  clear h ea0 eb0 ea1 eb1 ea2 eb2 ea3 eb3
  go_enter Tryz.func106, Tryz.ntmps106
  go_wp2_with fail
  refine d0.mono ?_
  rintro e w1 ⟨rfl, rfl⟩
  go_wp2_with fail
  refine d1.mono ?_
  rintro e w1 ⟨rfl, rfl⟩
  go_wp2_with fail
  refine d2.mono ?_
  rintro e w1 ⟨rfl, rfl⟩
  go_wp2_with fail
  refine d3.mono ?_
  rintro e w1 ⟨rfl, rfl⟩
  go_wp2_with fail
  refine ds.mono ?_
  rintro e w1 ⟨rfl, rfl⟩
  go_wp2
  go_ret
  exact ⟨rfl, rfl⟩
end Go.Proofs.YthggcdadipjiiaaGreatDoor

/-
  What spec.l03At, slices.Index and slices.Contains answer at a row of texts: contracts over the seat's program.
-/
namespace Go.Proofs.YthggcdadipjiiaaGreatDoor
open Go.RowKit

theorem l03At_row (g o c : Nat) (ss : List ByteArray) (t : ByteArray) (w : World) (hE : StrsAt w g o ss) (hn : ss.length ≤ maxLen) :
    Calls Tryz.prog 77 #[.slice (some ⟨g, o, none⟩) ss.length c, .string t] w fun e w' => e = .returned (.int .i64 (atI ss t)) ∧ w' = w := by
  unfold maxLen at hn
  have HE := hid hE
  clear hE
  go_enter Tryz.func77, Tryz.ntmps77
  go_wp2
  go_loop [5] (fun i => ∃ k : Nat, k ≤ ss.length ∧ i = .int .i64 k ∧ ∀ j, j < k → (h : j < ss.length) → ss[j] ≠ t) (fun i => ss.length - (intOf i).toNat)
  case atStart => exact ⟨0, Nat.zero_le _, rfl, fun j hj => absurd hj (by omega)⟩
  case round =>
    obtain ⟨k, hk, rfl, hall⟩ := hrel
    have HA := hid hall
    clear hall
    by_cases hlt : k < ss.length
    · have c0 := HE.out.2 k hlt
      by_cases he : ss[k] = t
      · have HF := hid (atI_first hlt HA.out he)
        rw [he] at c0
        clear he
        go_wp2
        go_ret
        exact ⟨ret_int HF.out.symm, rfl⟩
      · have HO := hid (ne_step (hk := hlt) HA.out he)
        have hne := str_ne he
        clear he
        go_wp2
        go_round
        case rel => exact ⟨k + 1, by omega, by go_num, HO.out⟩
        case measure => simp [intOf]; omega
    · have HF := hid (atI_out (ne_all HA.out (by omega)))
      go_wp2
      go_ret
      exact ⟨ret_int HF.out.symm, rfl⟩
theorem l03At_none (a : Option Addr) (c : Nat) (t : ByteArray) (w : World) :
    Calls Tryz.prog 77 #[.slice a 0 c, .string t] w fun e w' => e = .returned (.int .i64 (-1)) ∧ w' = w := by
  go_enter Tryz.func77, Tryz.ntmps77
  go_wp2
  go_loop [5] (fun i => i = .int .i64 0) (fun _ => 0)
  case atStart => exact rfl
  case round =>
    subst hrel
    go_wp2
    go_ret
    exact ⟨rfl, rfl⟩
theorem l03At_any (v : Value) (ss : List ByteArray) (t : ByteArray) (w : World) (h : StrSl w v ss) (hn : ss.length ≤ maxLen) :
    Calls Tryz.prog 77 #[v, .string t] w fun e w' => e = .returned (.int .i64 (atI ss t)) ∧ w' = w := by
  rcases h with ⟨a, c, rfl, rfl⟩ | ⟨g, o, c, rfl, _, h⟩
  · exact l03At_none a c t w
  · exact l03At_row g o c ss t w h hn
end Go.Proofs.YthggcdadipjiiaaGreatDoor
