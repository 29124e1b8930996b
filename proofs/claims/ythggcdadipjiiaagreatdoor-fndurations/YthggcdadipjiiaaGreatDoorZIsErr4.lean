/-
  Texts put together: IsErr, ErrC, At, SpDef.
-/
import Derived.Test.YthggcdadipjiiaaGreatDoorZGen4
import Derived.LaidEql
import Derived.Stop.Asserts
import Derived.RowKitTokens
import Derived.Test.YthggcdadipjiiaaGreatDoorZStrs3
import Derived.Test.YthggcdadipjiiaaGreatDoorZSpOut6
import Derived.Lib.QuietBelow
import Derived.Laws.StructEq
import Derived.BigQuiet
/-
  What errors.Is answers at two errors of errors.New's make, the same one or another: contracts over the seat's program.
-/
namespace Go.Proofs.YthggcdadipjiiaaGreatDoor
open Go.RowKit Go.Extern.Stop Go.Stop Go.Extern

theorem Tryz.isTypeOf (v : Value) (w : World) : (Extern.ReflectliteType.typeOf #[.iface 216 v]).run Tryz.prog w = .ok (.iface 203 (.agg #[.pointer (some ⟨6, 216, none⟩)])) w := by kernel_rfl
theorem Tryz.callComp (w : World) : (callFunc 196 #[.agg #[.pointer (some ⟨6, 216, none⟩)]]).run Tryz.prog w = .ok (.value (.bool true)) w := by kernel_rfl
theorem Tryz.isMethodComparable (v : Value) (w : World) : (Go.method 352 203 v "Comparable").run Tryz.prog w = .ok (196, v) w := by kernel_rfl
theorem Tryz.isComp : (Tryz.prog.info? 216).map (·.comparable) = some true := by kernel_rfl
theorem Tryz.isSize : (Tryz.prog.info? 240).map (·.size) = some 1 := by kernel_rfl
theorem Tryz.noIsE (v : Value) (xT : TypeId) (w : World) : (Instr.typeAssert (.iface 216 v) xT 205 true).run Tryz.prog w = .ok (.tuple #[.nilIface, .bool false]) w := run_typeAssert_lacksB Tryz.underlying205 (by kernel_rfl) (by kernel_rfl) v xT w
theorem Tryz.noUnwrapE (v : Value) (xT : TypeId) (w : World) : (Instr.typeAssert (.iface 216 v) xT 208 true).run Tryz.prog w = .ok (.tuple #[.nilIface, .bool false]) w := run_typeAssert_lacksB Tryz.underlying208 (by kernel_rfl) (by kernel_rfl) v xT w
theorem Tryz.noUnwrapsE (v : Value) (xT : TypeId) (w : World) : (Instr.typeAssert (.iface 216 v) xT 210 true).run Tryz.prog w = .ok (.tuple #[.nilIface, .bool false]) w := run_typeAssert_lacksB Tryz.underlying210 (by kernel_rfl) (by kernel_rfl) v xT w
/-- The same one. -/
theorem is_same (a : Addr) (w : World) :
    Calls Tryz.prog 137 #[.iface 216 (.pointer (some a)), .iface 216 (.pointer (some a))] w fun e w' => e = .returned (.bool true) ∧ w' = w := by
  obtain ⟨i, hi, hcmp⟩ := Option.map_eq_some_iff.1 Tryz.isComp
  obtain ⟨j, hj, _⟩ := Option.map_eq_some_iff.1 Tryz.isSize
  have h8 := @run_callFunc_extern Tryz.prog 159 _ Extern.ReflectliteType.typeOf Tryz.func159 (by kernel_rfl) (by kernel_rfl) (by kernel_rfl) (by kernel_rfl)
  have h32 := Tryz.callComp
  have tT := Tryz.isTypeOf
  have mR := Tryz.isMethodComparable
  have heq := run_eql_iface_ptr_same (P := Tryz.prog) w a Tryz.underlying144 Tryz.underlying216 hi hcmp hj
  go_enter Tryz.func137, Tryz.ntmps137
  go_wp2
  refine wp_loop_rounds 1 ?_
  rw [rounds_succ]
  go_wp2
  go_ret
  exact ⟨rfl, rfl⟩
/-- Another one: neither has Is nor Unwrap. -/
theorem is_other (a b : Addr) (ca cb : Array Value) (ta tb : TypeId) (w : World) (hne : a ≠ b) (ha : w.heap[a.block]? = some (.cells ca ta (0, 0))) (hb : w.heap[b.block]? = some (.cells cb tb (0, 0))) :
    Calls Tryz.prog 137 #[.iface 216 (.pointer (some a)), .iface 216 (.pointer (some b))] w fun e w' => e = .returned (.bool false) ∧ w' = w := by
  obtain ⟨i, hi, hcmp⟩ := Option.map_eq_some_iff.1 Tryz.isComp
  obtain ⟨j, hj, hjs⟩ := Option.map_eq_some_iff.1 Tryz.isSize
  have h8 := @run_callFunc_extern Tryz.prog 159 _ Extern.ReflectliteType.typeOf Tryz.func159 (by kernel_rfl) (by kernel_rfl) (by kernel_rfl) (by kernel_rfl)
  have h32 := Tryz.callComp
  have tT := Tryz.isTypeOf
  have mR := Tryz.isMethodComparable
  have nE := Tryz.noIsE
  have uE := Tryz.noUnwrapE
  have vE := Tryz.noUnwrapsE
  have heq := run_eql_iface_ptr_other (P := Tryz.prog) w Tryz.underlying144 Tryz.underlying216 hi hcmp hj (by rw [hjs]; decide) hne ha hb
  go_enter Tryz.func137, Tryz.ntmps137
  go_wp2
  refine wp_loop_rounds 1 ?_
  rw [rounds_succ]
  go_wp2
  go_ret
  exact ⟨rfl, rfl⟩
end Go.Proofs.YthggcdadipjiiaaGreatDoor

/-
  The five errors of impl's chapter 4, as they are laid; what impl.codeOfState answers at each: contracts over the seat's program.
-/
namespace Go.Proofs.YthggcdadipjiiaaGreatDoor
open Go.RowKit

/-- An error of errors.New's make. -/
abbrev errV (a : Addr) : Value := .iface 216 (.pointer (some a))
/-- The five variables, each with an error of its own. -/
structure ErrsAt (w : World) (a0 a1 a2 a3 a4 : Addr) : Prop where
  c0 : w.cell? ⟨0, 0, none⟩ = some (errV a0)
  c1 : w.cell? ⟨1, 0, none⟩ = some (errV a1)
  c2 : w.cell? ⟨2, 0, none⟩ = some (errV a2)
  c3 : w.cell? ⟨3, 0, none⟩ = some (errV a3)
  c4 : w.cell? ⟨4, 0, none⟩ = some (errV a4)
  r0 : ∃ c t, w.heap[a0.block]? = some (.cells c t (0, 0))
  r1 : ∃ c t, w.heap[a1.block]? = some (.cells c t (0, 0))
  r2 : ∃ c t, w.heap[a2.block]? = some (.cells c t (0, 0))
  r3 : ∃ c t, w.heap[a3.block]? = some (.cells c t (0, 0))
  r4 : ∃ c t, w.heap[a4.block]? = some (.cells c t (0, 0))
  n10 : a1 ≠ a0
  n20 : a2 ≠ a0
  n21 : a2 ≠ a1
  n30 : a3 ≠ a0
  n31 : a3 ≠ a1
  n32 : a3 ≠ a2
  n40 : a4 ≠ a0
  n41 : a4 ≠ a1
  n42 : a4 ≠ a2
  n43 : a4 ≠ a3
  hs : 4 + 1 ≤ w.heap.size
theorem err_lt {w : World} {g : Nat} {o : Obj} (h : w.heap[g]? = some o) : g < w.heap.size := by
  rcases Nat.lt_or_ge g w.heap.size with h' | h'
  · exact h'
  · simp [Array.getElem?_eq_none h'] at h
theorem ErrsAt.stay {w w' : World} {a0 a1 a2 a3 a4 : Addr} (h : ErrsAt w a0 a1 a2 a3 a4) (hb : Below w.heap.size w w') : ErrsAt w' a0 a1 a2 a3 a4 where
  c0 := (hb.cell (p := ⟨0, 0, none⟩) (Nat.lt_of_lt_of_le (by decide) h.hs)).trans h.c0
  c1 := (hb.cell (p := ⟨1, 0, none⟩) (Nat.lt_of_lt_of_le (by decide) h.hs)).trans h.c1
  c2 := (hb.cell (p := ⟨2, 0, none⟩) (Nat.lt_of_lt_of_le (by decide) h.hs)).trans h.c2
  c3 := (hb.cell (p := ⟨3, 0, none⟩) (Nat.lt_of_lt_of_le (by decide) h.hs)).trans h.c3
  c4 := (hb.cell (p := ⟨4, 0, none⟩) (Nat.lt_of_lt_of_le (by decide) h.hs)).trans h.c4
  r0 := let ⟨c, t, e⟩ := h.r0; ⟨c, t, (hb.block a0.block (err_lt e)).trans e⟩
  r1 := let ⟨c, t, e⟩ := h.r1; ⟨c, t, (hb.block a1.block (err_lt e)).trans e⟩
  r2 := let ⟨c, t, e⟩ := h.r2; ⟨c, t, (hb.block a2.block (err_lt e)).trans e⟩
  r3 := let ⟨c, t, e⟩ := h.r3; ⟨c, t, (hb.block a3.block (err_lt e)).trans e⟩
  r4 := let ⟨c, t, e⟩ := h.r4; ⟨c, t, (hb.block a4.block (err_lt e)).trans e⟩
  n10 := h.n10
  n20 := h.n20
  n21 := h.n21
  n30 := h.n30
  n31 := h.n31
  n32 := h.n32
  n40 := h.n40
  n41 := h.n41
  n42 := h.n42
  n43 := h.n43
  hs := Nat.le_trans h.hs hb.size
set_option maxRecDepth 100000 in
theorem code_0 {a0 a1 a2 a3 a4 : Addr} (w : World) (h : ErrsAt w a0 a1 a2 a3 a4) :
    Calls Tryz.prog 106 #[errV a0] w fun e w' => e = .returned (.int .i64 1) ∧ w' = w := by
  have c0 := h.c0
  have ds := is_same a0 w
  clear h
  go_enter Tryz.func106, Tryz.ntmps106
  go_wp2_with fail
  refine ds.mono ?_
  rintro e w1 ⟨rfl, rfl⟩
  go_wp2
  go_ret
  exact ⟨rfl, rfl⟩
set_option maxRecDepth 100000 in
theorem code_1 {a0 a1 a2 a3 a4 : Addr} (w : World) (h : ErrsAt w a0 a1 a2 a3 a4) :
    Calls Tryz.prog 106 #[errV a1] w fun e w' => e = .returned (.int .i64 10) ∧ w' = w := by
  have c0 := h.c0
  have c1 := h.c1
  obtain ⟨ca0, ta0, ea0⟩ := h.r1
  obtain ⟨cb0, tb0, eb0⟩ := h.r0
  have d0 := is_other a1 a0 _ _ _ _ w h.n10 ea0 eb0
  have ds := is_same a1 w
  clear h ea0 eb0
  go_enter Tryz.func106, Tryz.ntmps106
  go_wp2_with fail
  refine d0.mono ?_
  rintro e w1 ⟨rfl, rfl⟩
  go_wp2_with fail
  refine ds.mono ?_
  rintro e w1 ⟨rfl, rfl⟩
  go_wp2
  go_ret
  exact ⟨rfl, rfl⟩
set_option maxRecDepth 100000 in
theorem code_2 {a0 a1 a2 a3 a4 : Addr} (w : World) (h : ErrsAt w a0 a1 a2 a3 a4) :
    Calls Tryz.prog 106 #[errV a2] w fun e w' => e = .returned (.int .i64 8) ∧ w' = w := by
  have c0 := h.c0
  have c1 := h.c1
  have c2 := h.c2
  obtain ⟨ca0, ta0, ea0⟩ := h.r2
  obtain ⟨cb0, tb0, eb0⟩ := h.r0
  have d0 := is_other a2 a0 _ _ _ _ w h.n20 ea0 eb0
  obtain ⟨ca1, ta1, ea1⟩ := h.r2
  obtain ⟨cb1, tb1, eb1⟩ := h.r1
  have d1 := is_other a2 a1 _ _ _ _ w h.n21 ea1 eb1
  have ds := is_same a2 w
  clear h ea0 eb0 ea1 eb1
  go_enter Tryz.func106, Tryz.ntmps106
  go_wp2_with fail
  refine d0.mono ?_
  rintro e w1 ⟨rfl, rfl⟩
  go_wp2_with fail
  refine d1.mono ?_
  rintro e w1 ⟨rfl, rfl⟩
  go_wp2_with fail
  refine ds.mono ?_
  rintro e w1 ⟨rfl, rfl⟩
  go_wp2
  go_ret
  exact ⟨rfl, rfl⟩
set_option maxRecDepth 100000 in
theorem code_3 {a0 a1 a2 a3 a4 : Addr} (w : World) (h : ErrsAt w a0 a1 a2 a3 a4) :
    Calls Tryz.prog 106 #[errV a3] w fun e w' => e = .returned (.int .i64 6) ∧ w' = w := by
  have c0 := h.c0
  have c1 := h.c1
  have c2 := h.c2
  have c3 := h.c3
  obtain ⟨ca0, ta0, ea0⟩ := h.r3
  obtain ⟨cb0, tb0, eb0⟩ := h.r0
  have d0 := is_other a3 a0 _ _ _ _ w h.n30 ea0 eb0
  obtain ⟨ca1, ta1, ea1⟩ := h.r3
  obtain ⟨cb1, tb1, eb1⟩ := h.r1
  have d1 := is_other a3 a1 _ _ _ _ w h.n31 ea1 eb1
  obtain ⟨ca2, ta2, ea2⟩ := h.r3
  obtain ⟨cb2, tb2, eb2⟩ := h.r2
  have d2 := is_other a3 a2 _ _ _ _ w h.n32 ea2 eb2
  have ds := is_same a3 w
  clear h ea0 eb0 ea1 eb1 ea2 eb2
  go_enter Tryz.func106, Tryz.ntmps106
  go_wp2_with fail
  refine d0.mono ?_
  rintro e w1 ⟨rfl, rfl⟩
  go_wp2_with fail
  refine d1.mono ?_
  rintro e w1 ⟨rfl, rfl⟩
  go_wp2_with fail
  refine d2.mono ?_
  rintro e w1 ⟨rfl, rfl⟩
  go_wp2_with fail
  refine ds.mono ?_
  rintro e w1 ⟨rfl, rfl⟩
  go_wp2
  go_ret
  exact ⟨rfl, rfl⟩
set_option maxRecDepth 100000 in
theorem code_4 {a0 a1 a2 a3 a4 : Addr} (w : World) (h : ErrsAt w a0 a1 a2 a3 a4) :
    Calls Tryz.prog 106 #[errV a4] w fun e w' => e = .returned (.int .i64 9) ∧ w' = w := by
  have c0 := h.c0
  have c1 := h.c1
  have c2 := h.c2
  have c3 := h.c3
  have c4 := h.c4
  obtain ⟨ca0, ta0, ea0⟩ := h.r4
  obtain ⟨cb0, tb0, eb0⟩ := h.r0
  have d0 := is_other a4 a0 _ _ _ _ w h.n40 ea0 eb0
  obtain ⟨ca1, ta1, ea1⟩ := h.r4
  obtain ⟨cb1, tb1, eb1⟩ := h.r1
  have d1 := is_other a4 a1 _ _ _ _ w h.n41 ea1 eb1
  obtain ⟨ca2, ta2, ea2⟩ := h.r4
  obtain ⟨cb2, tb2, eb2⟩ := h.r2
  have d2 := is_other a4 a2 _ _ _ _ w h.n42 ea2 eb2
  obtain ⟨ca3, ta3, ea3⟩ := h.r4
  obtain ⟨cb3, tb3, eb3⟩ := h.r3
  have d3 := is_other a4 a3 _ _ _ _ w h.n43 ea3 eb3
  have ds := is_same a4 w
  clear h ea0 eb0 ea1 eb1 ea2 eb2 ea3 eb3
  go_enter Tryz.func106, Tryz.ntmps106
  go_wp2_with fail
  refine d0.mono ?_
  rintro e w1 ⟨rfl, rfl⟩
  go_wp2_with fail
  refine d1.mono ?_
  rintro e w1 ⟨rfl, rfl⟩
  go_wp2_with fail
  refine d2.mono ?_
  rintro e w1 ⟨rfl, rfl⟩
  go_wp2_with fail
  refine d3.mono ?_
  rintro e w1 ⟨rfl, rfl⟩
  go_wp2_with fail
  refine ds.mono ?_
  rintro e w1 ⟨rfl, rfl⟩
  go_wp2
  go_ret
  exact ⟨rfl, rfl⟩
end Go.Proofs.YthggcdadipjiiaaGreatDoor

/-
  What spec.l03At, slices.Index and slices.Contains answer at a row of texts: contracts over the seat's program.
-/
namespace Go.Proofs.YthggcdadipjiiaaGreatDoor
open Go.RowKit

theorem l03At_row (g o c : Nat) (ss : List ByteArray) (t : ByteArray) (w : World) (hE : StrsAt w g o ss) (hn : ss.length ≤ maxLen) :
    Calls Tryz.prog 77 #[.slice (some ⟨g, o, none⟩) ss.length c, .string t] w fun e w' => e = .returned (.int .i64 (atI ss t)) ∧ w' = w := by
  unfold maxLen at hn
  have HE := hid hE
  clear hE
  go_enter Tryz.func77, Tryz.ntmps77
  go_wp2
  go_loop [5] (fun i => ∃ k : Nat, k ≤ ss.length ∧ i = .int .i64 k ∧ ∀ j, j < k → (h : j < ss.length) → ss[j] ≠ t) (fun i => ss.length - (intOf i).toNat)
  case atStart => exact ⟨0, Nat.zero_le _, rfl, fun j hj => absurd hj (by omega)⟩
  case round =>
    obtain ⟨k, hk, rfl, hall⟩ := hrel
    have HA := hid hall
    clear hall
    by_cases hlt : k < ss.length
    · have c0 := HE.out.2 k hlt
      by_cases he : ss[k] = t
      · have HF := hid (atI_first hlt HA.out he)
        rw [he] at c0
        clear he
        go_wp2
        go_ret
        exact ⟨ret_int HF.out.symm, rfl⟩
      · have HO := hid (ne_step (hk := hlt) HA.out he)
        have hne := str_ne he
        clear he
        go_wp2
        go_round
        case rel => exact ⟨k + 1, by omega, by go_num, HO.out⟩
        case measure => simp [intOf]; omega
    · have HF := hid (atI_out (ne_all HA.out (by omega)))
      go_wp2
      go_ret
      exact ⟨ret_int HF.out.symm, rfl⟩
theorem l03At_none (a : Option Addr) (c : Nat) (t : ByteArray) (w : World) :
    Calls Tryz.prog 77 #[.slice a 0 c, .string t] w fun e w' => e = .returned (.int .i64 (-1)) ∧ w' = w := by
  go_enter Tryz.func77, Tryz.ntmps77
  go_wp2
  go_loop [5] (fun i => i = .int .i64 0) (fun _ => 0)
  case atStart => exact rfl
  case round =>
    subst hrel
    go_wp2
    go_ret
    exact ⟨rfl, rfl⟩
theorem l03At_any (v : Value) (ss : List ByteArray) (t : ByteArray) (w : World) (h : StrSl w v ss) (hn : ss.length ≤ maxLen) :
    Calls Tryz.prog 77 #[v, .string t] w fun e w' => e = .returned (.int .i64 (atI ss t)) ∧ w' = w := by
  rcases h with ⟨a, c, rfl, rfl⟩ | ⟨g, o, c, rfl, _, h⟩
  · exact l03At_none a c t w
  · exact l03At_row g o c ss t w h hn
end Go.Proofs.YthggcdadipjiiaaGreatDoor

/-
  What spec.DefRight answers, for every Def: a contract over the seat's program.
-/
namespace Go.Proofs.YthggcdadipjiiaaGreatDoor
open Go.RowKit Go.Sort

theorem calls_below {P : Program} {f : FuncId} {args : Array Value} {w : World} {v : Value} (h : Calls P f args w fun e w' => e = .returned v ∧ w' = w) : Calls P f args w fun e w' => e = .returned v ∧ Below w.heap.size w w' :=
  h.mono (by rintro e w' ⟨rfl, rfl⟩; exact ⟨rfl, Below.refl _ _⟩)
set_option maxRecDepth 100000 in
set_option maxHeartbeats 1000000 in
theorem specDefRight_no (a1 a2 : Option Addr) (k1 k2 : Nat) (ss : List ByteArray) (fs : List Pr) (w : World) (n1 : ss.length ≤ maxLen) (n2 : fs.length ≤ maxLen) (h : ss.length < 1 ∨ 12 < ss.length ∨ 40 < fs.length) :
    Calls Tryz.prog 46 #[.agg #[.slice a1 ss.length k1, .slice a2 fs.length k2]] w fun e w' => e = .returned (.bool false) ∧ Below w.heap.size w w' := by
  unfold maxLen at n1 n2
  by_cases h1 : ss.length < 1
  · clear h
    go_enter Tryz.func46, Tryz.ntmps46
    go_wp2
    go_ret
    exact ⟨rfl, (Below.refl _ _).alloc (Nat.le_refl _) _⟩
  · by_cases h2 : 12 < ss.length
    · clear h
      go_enter Tryz.func46, Tryz.ntmps46
      go_wp2
      go_ret
      exact ⟨rfl, (Below.refl _ _).alloc (Nat.le_refl _) _⟩
    · have h3 : 40 < fs.length := by omega
      clear h
      go_enter Tryz.func46, Tryz.ntmps46
      go_wp2
      go_ret
      exact ⟨rfl, (Below.refl _ _).alloc (Nat.le_refl _) _⟩
set_option maxRecDepth 100000 in
set_option maxHeartbeats 1000000 in
theorem specDefRight_go (g o k1 : Nat) (a2 : Option Addr) (k2 : Nat) (ss : List ByteArray) (fs : List Pr) (w : World) (hS : StrsAt w g o ss) (hP : PrSl w (.slice a2 fs.length k2) fs) (hF : ∀ i, (h : i < ss.length) → ss[i].size ≤ maxLen) (hc1 : ss.length ≤ k1) (p1 : 1 ≤ ss.length) (p2 : ss.length ≤ 12) (p3 : fs.length ≤ 40) :
    Calls Tryz.prog 46 #[.agg #[.slice (some ⟨g, o, none⟩) ss.length k1, .slice a2 fs.length k2]] w fun e w' => RetB e (DefP ss fs) ∧ Below w.heap.size w w' := by
  have mixed : Tryz.prog.follows .mixedOrders = true := by kernel_rfl
  have HS := hid hS
  have HP := hid hP
  clear hS hP
  go_enter Tryz.func46, Tryz.ntmps46
  go_wp2
  go_loopw [3] (fun i wr => ∃ k : Nat, k ≤ ss.length ∧ i = .int .i64 k ∧ (∀ j, j < k → (h : j < ss.length) → nrB ss[j] = true ∧ ss[j] ∉ ss.take j) ∧ Below (w.heap.size + 1) (w.alloc (.cells #[.slice (some ⟨g, o, none⟩) ss.length k1, .slice a2 fs.length k2] 26)) wr) (fun i _ => ss.length - (intOf i).toNat)
  case atStart => exact ⟨0, Nat.zero_le _, rfl, fun j hj => absurd hj (by omega), Below.refl _ _⟩
  case round =>
    obtain ⟨k, hk, rfl, hall, hbel⟩ := hrel
    have HA := hid hall
    clear hall
    have hbw : Below w.heap.size w wr := ((Below.refl w.heap.size w).alloc (Nat.le_refl _) _).trans (hbel.mono (by omega))
    have hbz : w.heap.size + 1 ≤ wr.heap.size := by have := hbel.size; simpa using this
    have b0 : wr.cell? ⟨w.heap.size, 0, none⟩ = some (.slice (some ⟨g, o, none⟩) ss.length k1) := by rw [hbel.cell (p := ⟨w.heap.size, 0, none⟩) (Nat.lt_succ_self _)]; simp [go_sem]
    have b1 : wr.cell? ⟨w.heap.size, 1, none⟩ = some (.slice a2 fs.length k2) := by rw [hbel.cell (p := ⟨w.heap.size, 1, none⟩) (Nat.lt_succ_self _)]; simp [go_sem]
    by_cases hlt : k < ss.length
    · have c0 := (HS.out.stay hbw (Nat.le_refl _)).2 k hlt
      have hcap : k ≤ k1 := by omega
      have cN := fun W => calls_below (specNameRight_any ss[k] W (hF k hlt))
      have cA : ∀ d os, Calls Tryz.prog 77 #[.slice (some ⟨g, o, none⟩) k k1, .string ss[k]] (grow (redrawn wr d) os) fun e w' => e = .returned (.int .i64 (atI (ss.take k) ss[k])) ∧ Below (grow (redrawn wr d) os).heap.size (grow (redrawn wr d) os) w' := fun d os => calls_below (l03At_any _ (ss.take k) ss[k] _ ((StrSl.part (n := ss.length) (.inr ⟨g, o, k1, rfl, ⟨by omega, hc1⟩, HS.out.stay hbw (Nat.le_refl _)⟩) (by omega)).stay (below_regrown wr d os) (Nat.le_refl _)) (by rw [List.length_take]; unfold maxLen; omega))
      have HK := hid (fun (D : DefP ss fs) => D.1.nm k hlt)
      have HT := hid (fun (D : DefP ss fs) => nodup_take D.1.nd hlt)
      cases hr : nrB ss[k] with
      | false =>
        rw [hr] at cN
        have HR := hid hr
        generalize atI (ss.take k) ss[k] = I at *
        clear hr
        go_wp2
        have c0' := cell_regrown c0
        have b0' := cell_regrown b0
        have d1 := fun d os => Calls.regrown_of (w := wr) (d := d) (os := os) (cN _)
        have d2 := fun d os => Calls.regrown_of (w := wr) (d := d) (os := os) (cA d os)
        clear c0 b0 b1 cN cA
        refine wp_region_quiet_below mixed (by kernel_rfl) ?_
        repeat (go_big_quiet_step (first | (go_at_call 76; exact d1 _ _) | (go_at_call 77; exact d2 _ _)))
        refine wpQuiet_nil ?_
        intro _ hw'
        obtain ⟨⟨dq, osq⟩, hw''⟩ := hw'
        subst hw''
        have hbX := hbel.trans ((below_regrown wr dq osq).mono hbz)
        have hbY := hbw.trans ((below_regrown wr dq osq).mono hbw.size)
        clear c0' b0' d1 d2
        go_wp2
        go_ret
        exact ⟨retB_f (fun D => by have := HK.out D; rw [HR.out] at this; cases this), hbY⟩
      | true =>
        rw [hr] at cN
        have HR := hid hr
        clear hr
        by_cases hm : ss[k] ∈ ss.take k
        · have hI := atI_ge.2 hm
          have HM := hid hm
          generalize atI (ss.take k) ss[k] = I at *
          clear hm
          go_wp2
          have c0' := cell_regrown c0
          have b0' := cell_regrown b0
          have d1 := fun d os => Calls.regrown_of (w := wr) (d := d) (os := os) (cN _)
          have d2 := fun d os => Calls.regrown_of (w := wr) (d := d) (os := os) (cA d os)
          clear c0 b0 b1 cN cA
          refine wp_region_quiet_below mixed (by kernel_rfl) ?_
          repeat (go_big_quiet_step (first | (go_at_call 76; exact d1 _ _) | (go_at_call 77; exact d2 _ _)))
          refine wpQuiet_nil ?_
          intro _ hw'
          obtain ⟨⟨dq, osq⟩, hw''⟩ := hw'
          subst hw''
          have hbX := hbel.trans ((below_regrown wr dq osq).mono hbz)
          have hbY := hbw.trans ((below_regrown wr dq osq).mono hbw.size)
          clear c0' b0' d1 d2
          go_wp2
          go_ret
          exact ⟨retB_f (fun D => HT.out D HM.out), hbY⟩
        · rw [atI_out hm] at cA
          have HM := hid hm
          clear hm
          go_wp2
          have c0' := cell_regrown c0
          have b0' := cell_regrown b0
          have d1 := fun d os => Calls.regrown_of (w := wr) (d := d) (os := os) (cN _)
          have d2 := fun d os => Calls.regrown_of (w := wr) (d := d) (os := os) (cA d os)
          clear c0 b0 b1 cN cA
          refine wp_region_quiet_below mixed (by kernel_rfl) ?_
          repeat (go_big_quiet_step (first | (go_at_call 76; exact d1 _ _) | (go_at_call 77; exact d2 _ _)))
          refine wpQuiet_nil ?_
          intro _ hw'
          obtain ⟨⟨dq, osq⟩, hw''⟩ := hw'
          subst hw''
          have hbX := hbel.trans ((below_regrown wr dq osq).mono hbz)
          have hbY := hbw.trans ((below_regrown wr dq osq).mono hbw.size)
          clear c0' b0' d1 d2
          go_wp2
          go_roundw
          case rel => exact ⟨k + 1, by omega, by go_num, fun j hj h => by
            by_cases e : j = k
            · subst e; exact ⟨HR.out, HM.out⟩
            · exact HA.out j (by omega) h, hbX⟩
          case measure => simp [intOf]; omega
    · have hst : StepsP ss := ⟨p1, p2, fun i h => (HA.out i (by omega) h).1, nodup_of_take (fun i h => (HA.out i (by omega) h).2)⟩
      have HST := hid hst
      clear hbw hbz
      go_wp2
      clear b0 b1
      go_loopw [4] (fun i wq => ∃ k : Nat, k ≤ fs.length ∧ i = .int .i64 k ∧ (∀ j, j < k → (h : j < fs.length) → fs[j].fst ∈ ss ∧ fs[j].snd ∈ ss ∧ fs[j] ∉ fs.take j) ∧ Below (w.heap.size + 1) (w.alloc (.cells #[.slice (some ⟨g, o, none⟩) ss.length k1, .slice a2 fs.length k2] 26)) wq) (fun i _ => fs.length - (intOf i).toNat)
      case atStart => exact ⟨0, Nat.zero_le _, rfl, fun j hj => absurd hj (by omega), hbel⟩
      case round =>
        clear hbel HA hlt hk
        obtain ⟨m, hm, rfl, hall, hbel⟩ := hrel
        have HA := hid hall
        clear hall
        have hbw : Below w.heap.size w wr := ((Below.refl w.heap.size w).alloc (Nat.le_refl _) _).trans (hbel.mono (by omega))
        have hbz : w.heap.size + 1 ≤ wr.heap.size := by have := hbel.size; simpa using this
        have b0 : wr.cell? ⟨w.heap.size, 0, none⟩ = some (.slice (some ⟨g, o, none⟩) ss.length k1) := by rw [hbel.cell (p := ⟨w.heap.size, 0, none⟩) (Nat.lt_succ_self _)]; simp [go_sem]
        have b1 : wr.cell? ⟨w.heap.size, 1, none⟩ = some (.slice a2 fs.length k2) := by rw [hbel.cell (p := ⟨w.heap.size, 1, none⟩) (Nat.lt_succ_self _)]; simp [go_sem]
        by_cases hlt : m < fs.length
        · obtain ⟨g2, o2, rfl, hQ⟩ := HP.out.row (by omega)
          obtain ⟨c0, c1⟩ := (hQ.stay hbw (Nat.le_refl _)).2 m hlt
          have HQ := hid hQ
          clear hQ
          have hSl := fun d os => StrSl.stay (w := wr) (.inr ⟨g, o, k1, rfl, ⟨by omega, hc1⟩, HS.out.stay hbw (Nat.le_refl _)⟩) (below_regrown wr d os) (Nat.le_refl _)
          have cF := fun t d os => calls_below (l03At_any _ ss t _ (hSl d os) (by unfold maxLen; omega))
          clear hSl
          have HD := hid (fun (D : DefP ss fs) => D.2.fl m hlt)
          have HT := hid (fun (D : DefP ss fs) => nodup_take D.2.fd hlt)
          by_cases hf : fs[m].fst ∈ ss
          · have hF2 : decide (atI ss fs[m].fst < 0) = false := by have := atI_ge.2 hf; simp; omega
            have HFI := hid hf
            clear hf
            by_cases ht : fs[m].snd ∈ ss
            · have hT2 : decide (atI ss fs[m].snd < 0) = false := by have := atI_ge.2 ht; simp; omega
              have HTI := hid ht
              have HM := hid (show fs[m] = ⟨fs[m].fst, fs[m].snd⟩ from rfl)
              generalize fs[m].fst = q1 at *
              generalize fs[m].snd = q2 at *
              clear ht
              go_wp2
              have c0' := cell_regrown c0
              have c1' := cell_regrown c1
              have b0' := cell_regrown b0
              have b1' := cell_regrown b1
              have d1 := fun t d os => Calls.regrown_of (w := wr) (d := d) (os := os) (cF t d os)
              clear c0 c1 b0 b1 cF
              refine wp_region_quiet_below mixed (by kernel_rfl) ?_
              repeat (go_big_quiet_step ((go_at_call 77; exact d1 _ _ _)))
              refine wpQuiet_nil ?_
              intro _ hw'
              obtain ⟨⟨dq, osq⟩, hw''⟩ := hw'
              subst hw''
              have hbX := hbel.trans ((below_regrown wr dq osq).mono hbz)
              have hbY := hbw.trans ((below_regrown wr dq osq).mono hbw.size)
              clear c0' c1' b0' b1' d1 hbel hbw
              go_wp2
              clear hbY hbz hF2 hT2
              go_loopw [5] (fun i wr => ∃ k : Nat, k ≤ m ∧ i = .int .i64 k ∧ (∀ j, j < k → (h : j < fs.length) → fs[j] ≠ fs[m]) ∧ Below (w.heap.size + 1) (w.alloc (.cells #[.slice (some ⟨g, o, none⟩) ss.length k1, .slice (some ⟨g2, o2, none⟩) fs.length k2] 26)) wr) (fun i _ => m - (intOf i).toNat)
              case atStart => exact ⟨0, Nat.zero_le _, rfl, fun j hj => absurd hj (by omega), hbX⟩
              case round =>
                clear hbX
                obtain ⟨n, hn, rfl, hall, hbel⟩ := hrel
                have HB := hid hall
                clear hall
                have hbw : Below w.heap.size w wr := ((Below.refl w.heap.size w).alloc (Nat.le_refl _) _).trans (hbel.mono (by omega))
                have hbz : w.heap.size + 1 ≤ wr.heap.size := by have := hbel.size; simpa using this
                have b0 : wr.cell? ⟨w.heap.size, 0, none⟩ = some (.slice (some ⟨g, o, none⟩) ss.length k1) := by rw [hbel.cell (p := ⟨w.heap.size, 0, none⟩) (Nat.lt_succ_self _)]; simp [go_sem]
                have b1 : wr.cell? ⟨w.heap.size, 1, none⟩ = some (.slice (some ⟨g2, o2, none⟩) fs.length k2) := by rw [hbel.cell (p := ⟨w.heap.size, 1, none⟩) (Nat.lt_succ_self _)]; simp [go_sem]
                by_cases hl2 : n < m
                · have hln : n < fs.length := by omega
                  have hc := (HQ.out.stay hbw (Nat.le_refl _)).2 m hlt
                  rw [HM.out] at hc
                  obtain ⟨c0, c1⟩ := hc
                  obtain ⟨e0, e1⟩ := (HQ.out.stay hbw (Nat.le_refl _)).2 n hln
                  by_cases he : fs[n].fst = q1
                  · by_cases he2 : fs[n].snd = q2
                    · have HE := hid (show fs[n] = fs[m] from (pr_ext (b := ⟨q1, q2⟩) he he2).trans HM.out.symm)
                      rw [he] at e0
                      rw [he2] at e1
                      clear he he2
                      go_wp2
                      have c0' := cell_regrown c0
                      have c1' := cell_regrown c1
                      have e0' := cell_regrown e0
                      have e1' := cell_regrown e1
                      have b1' := cell_regrown b1
                      clear c0 c1 e0 e1 b0 b1
                      refine wp_region_quiet_below mixed (by kernel_rfl) ?_
                      repeat (go_big_quiet_step (fail))
                      refine wpQuiet_nil ?_
                      intro _ hw'
                      obtain ⟨⟨dq, osq⟩, hw''⟩ := hw'
                      subst hw''
                      have hbX := hbel.trans ((below_regrown wr dq osq).mono hbz)
                      have hbY := hbw.trans ((below_regrown wr dq osq).mono hbw.size)
                      clear c0' c1' e0' e1' b1' hbel hbw
                      go_wp2
                      go_ret
                      exact ⟨retB_f (fun D => HT.out D (by rw [← HE.out]; exact List.mem_take_iff_getElem.2 ⟨n, by omega, rfl⟩)), hbY⟩
                    · have HO := hid (ne_step (hk := hln) HB.out (fun e => he2 (congrArg Pr.snd (e.trans HM.out))))
                      have hne := str_ne he2
                      rw [he] at e0
                      generalize fs[n].snd = r2 at *
                      clear he he2
                      go_wp2
                      have c0' := cell_regrown c0
                      have c1' := cell_regrown c1
                      have e0' := cell_regrown e0
                      have e1' := cell_regrown e1
                      have b1' := cell_regrown b1
                      clear c0 c1 e0 e1 b0 b1
                      refine wp_region_quiet_below mixed (by kernel_rfl) ?_
                      repeat (go_big_quiet_step (fail))
                      refine wpQuiet_nil ?_
                      intro _ hw'
                      obtain ⟨⟨dq, osq⟩, hw''⟩ := hw'
                      subst hw''
                      have hbX := hbel.trans ((below_regrown wr dq osq).mono hbz)
                      have hbY := hbw.trans ((below_regrown wr dq osq).mono hbw.size)
                      clear c0' c1' e0' e1' b1' hbel hbw
                      go_wp2
                      go_roundw
                      case rel => exact ⟨n + 1, by omega, by go_num, HO.out, hbX⟩
                      case measure => simp [intOf]; omega
                  · have HO := hid (ne_step (hk := hln) HB.out (fun e => he (congrArg Pr.fst (e.trans HM.out))))
                    have hne := str_ne he
                    generalize fs[n].fst = r1 at *
                    generalize fs[n].snd = r2 at *
                    clear he
                    go_wp2
                    have c0' := cell_regrown c0
                    have c1' := cell_regrown c1
                    have e0' := cell_regrown e0
                    have e1' := cell_regrown e1
                    have b1' := cell_regrown b1
                    clear c0 c1 e0 e1 b0 b1
                    refine wp_region_quiet_below mixed (by kernel_rfl) ?_
                    repeat (go_big_quiet_step (fail))
                    refine wpQuiet_nil ?_
                    intro _ hw'
                    obtain ⟨⟨dq, osq⟩, hw''⟩ := hw'
                    subst hw''
                    have hbX := hbel.trans ((below_regrown wr dq osq).mono hbz)
                    have hbY := hbw.trans ((below_regrown wr dq osq).mono hbw.size)
                    clear c0' c1' e0' e1' b1' hbel hbw
                    go_wp2
                    go_roundw
                    case rel => exact ⟨n + 1, by omega, by go_num, HO.out, hbX⟩
                    case measure => simp [intOf]; omega
                · have HO := hid (show fs[m] ∉ fs.take m from fun h => by
                    obtain ⟨j, hj, e⟩ := List.mem_take_iff_getElem.1 h
                    exact HB.out j (by omega) (by omega) e)
                  have HMM := hid (show fs[m].fst ∈ ss ∧ fs[m].snd ∈ ss by rw [HM.out]; exact ⟨HFI.out, HTI.out⟩)
                  clear b0 b1
                  go_wp2
                  go_roundw
                  case rel => exact ⟨m + 1, by omega, by go_num, fun j hj h => by
                    by_cases e : j = m
                    · subst e; exact ⟨HMM.out.1, HMM.out.2, HO.out⟩
                    · exact HA.out j (by omega) h, hbel⟩
                  case measure => simp [intOf]; omega
            · have hT2 : decide (atI ss fs[m].snd < 0) = true := by rw [atI_out ht]; rfl
              have HM := hid ht
              generalize fs[m].fst = q1 at *
              generalize fs[m].snd = q2 at *
              clear ht
              go_wp2
              have c0' := cell_regrown c0
              have c1' := cell_regrown c1
              have b0' := cell_regrown b0
              have b1' := cell_regrown b1
              have d1 := fun t d os => Calls.regrown_of (w := wr) (d := d) (os := os) (cF t d os)
              clear c0 c1 b0 b1 cF
              refine wp_region_quiet_below mixed (by kernel_rfl) ?_
              repeat (go_big_quiet_step ((go_at_call 77; exact d1 _ _ _)))
              refine wpQuiet_nil ?_
              intro _ hw'
              obtain ⟨⟨dq, osq⟩, hw''⟩ := hw'
              subst hw''
              have hbX := hbel.trans ((below_regrown wr dq osq).mono hbz)
              have hbY := hbw.trans ((below_regrown wr dq osq).mono hbw.size)
              clear c0' c1' b0' b1' d1 hbel hbw
              go_wp2
              go_ret
              exact ⟨retB_f (fun D => HM.out (HD.out D).2), hbY⟩
          · have hF2 : decide (atI ss fs[m].fst < 0) = true := by rw [atI_out hf]; rfl
            have HM := hid hf
            generalize fs[m].fst = q1 at *
            generalize fs[m].snd = q2 at *
            clear hf
            go_wp2
            have c0' := cell_regrown c0
            have c1' := cell_regrown c1
            have b0' := cell_regrown b0
            have b1' := cell_regrown b1
            have d1 := fun t d os => Calls.regrown_of (w := wr) (d := d) (os := os) (cF t d os)
            clear c0 c1 b0 b1 cF
            refine wp_region_quiet_below mixed (by kernel_rfl) ?_
            repeat (go_big_quiet_step ((go_at_call 77; exact d1 _ _ _)))
            refine wpQuiet_nil ?_
            intro _ hw'
            obtain ⟨⟨dq, osq⟩, hw''⟩ := hw'
            subst hw''
            have hbX := hbel.trans ((below_regrown wr dq osq).mono hbz)
            have hbY := hbw.trans ((below_regrown wr dq osq).mono hbw.size)
            clear c0' c1' b0' b1' d1 hbel hbw
            go_wp2
            go_ret
            exact ⟨retB_f (fun D => HM.out (HD.out D).1), hbY⟩
        · have hfl : FlowsP ss fs := ⟨p3, fun i h => ⟨(HA.out i (by omega) h).1, (HA.out i (by omega) h).2.1⟩, nodup_of_take (fun i h => (HA.out i (by omega) h).2.2)⟩
          have HFL := hid hfl
          clear hfl
          go_wp2
          go_ret
          exact ⟨retB_t ⟨HST.out, HFL.out⟩, hbw⟩
theorem specDefRight_any (a1 a2 : Option Addr) (k1 k2 : Nat) (ss : List ByteArray) (fs : List Pr) (w : World) (h1 : StrSl w (.slice a1 ss.length k1) ss) (h2 : PrSl w (.slice a2 fs.length k2) fs) (hF : ∀ i, (h : i < ss.length) → ss[i].size ≤ maxLen) (n1 : ss.length ≤ maxLen) (n2 : fs.length ≤ maxLen) :
    Calls Tryz.prog 46 #[.agg #[.slice a1 ss.length k1, .slice a2 fs.length k2]] w fun e w' => RetB e (DefP ss fs) ∧ Below w.heap.size w w' := by
  by_cases h : ss.length < 1 ∨ 12 < ss.length ∨ 40 < fs.length
  · refine (specDefRight_no a1 a2 k1 k2 ss fs w n1 n2 h).mono ?_
    rintro e w' ⟨rfl, hb⟩
    exact ⟨retB_f (fun D => by have := D.1.n1; have := D.1.n2; have := D.2.m; omega), hb⟩
  · obtain ⟨g, o, rfl, hR⟩ := h1.row (by omega)
    exact specDefRight_go g o k1 a2 k2 ss fs w hR h2 hF h1.cap (by omega) (by omega) (by omega)
end Go.Proofs.YthggcdadipjiiaaGreatDoor
