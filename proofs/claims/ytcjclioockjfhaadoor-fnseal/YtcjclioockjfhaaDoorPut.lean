/-
  Numbers as bytes: what spec.l01Fold, impl.folded, spec.PutNum and impl.PutNum answer, for every number: contracts over the seat's program.
-/
import Derived.Test.YtcjclioockjfhaaDoorGen
namespace Go.Proofs.YtcjclioockjfhaaDoor.Put
open Go.RowKit

def foldI (n : Int) : Int := if n < 0 then -2 * n - 1 else 2 * n
theorem foldI_neg {n : Int} (h : n < 0) : foldI n = -2 * n - 1 := if_pos h
theorem foldI_pos {n : Int} (h : ¬ n < 0) : foldI n = 2 * n := if_neg h

theorem l01Fold_any (n : Int) (w : World) (h1 : -9223372036854775808 ≤ n) (h2 : n ≤ 9223372036854775807) :
    Calls Tryd.prog 25 #[.int .i64 n] w fun e w' => e = .returned (.int .u64 (foldI n)) ∧ w' = w := by
  by_cases h : n < 0
  · rw [foldI_neg h]
    go_enter Tryd.func25, Tryd.ntmps25
    go_wp2
    go_ret
    exact ⟨ret_int (by omega), rfl⟩
  · rw [foldI_pos h]
    go_enter Tryd.func25, Tryd.ntmps25
    go_wp2
    go_ret
    exact ⟨ret_int (by omega), rfl⟩
theorem u64_not (a : Nat) (ha : a < 18446744073709551616) : bits .xor .u64 IntKind.u64.max (a : Int) = 18446744073709551615 - (a : Int) := by
  show IntKind.u64.wrap ((BitVec.ofInt 64 IntKind.u64.max ^^^ BitVec.ofInt 64 (a : Int)).toNat : Int) = _
  have h1 : BitVec.ofInt 64 IntKind.u64.max = BitVec.allOnes 64 := by decide
  rw [h1, BitVec.allOnes_xor, BitVec.toNat_not, ofInt_u64 a (by omega)]
  simp [IntKind.wrap, IntKind.bits, IntKind.signed]
  omega
theorem fold_not {n : Int} (h1 : -9223372036854775808 ≤ n) (h2 : n < 0) : bits .xor .u64 IntKind.u64.max (IntKind.u64.wrap (IntKind.u64.wrap n * 2)) = -2 * n - 1 := by
  have e : IntKind.u64.wrap (IntKind.u64.wrap n * 2) = (((2 * n + 18446744073709551616).toNat : Nat) : Int) := by
    simp [IntKind.wrap, IntKind.bits, IntKind.signed]; omega
  rw [e, u64_not _ (by omega)]
  omega
theorem folded_any (n : Int) (w : World) (h1 : -9223372036854775808 ≤ n) (h2 : n ≤ 9223372036854775807) :
    Calls Tryd.prog 24 #[.int .i64 n] w fun e w' => e = .returned (.int .u64 (foldI n)) ∧ w' = w := by
  by_cases hn : n < 0
  · rw [foldI_neg hn]
    go_enter Tryd.func24, Tryd.ntmps24
    go_wp2
    go_ret
    exact ⟨ret_int (fold_not h1 hn), rfl⟩
  · rw [foldI_pos hn]
    go_enter Tryd.func24, Tryd.ntmps24
    go_wp2
    go_ret
    exact ⟨ret_int (by omega), rfl⟩

theorem foldI_bd {n : Int} (h1 : -9223372036854775808 ≤ n) (h2 : n ≤ 9223372036854775807) : 0 ≤ foldI n ∧ foldI n < 18446744073709551616 := by
  unfold foldI; split <;> omega

/-- The bytes of a number, the lowest seven bits first: with fuel f, of a number below 2 * 128 ^ f. -/
def put : Nat → Nat → List Int
  | 0, u => [(u : Int)]
  | f + 1, u => if u < 128 then [(u : Int)] else ((u : Int) % 128 + 128) :: put f (u / 128)
theorem put_last {f u : Nat} (h : u < 128) : put f u = [(u : Int)] := by cases f <;> simp [put, h]
theorem put_more {f u : Nat} (h : 128 ≤ u) : put (f + 1) u = ((u : Int) % 128 + 128) :: put f (u / 128) := by simp [put, show ¬ u < 128 by omega]
theorem put_down {f u : Nat} (hu : u < 2 * 128 ^ f) (h : 128 ≤ u) : ∃ g, f = g + 1 ∧ u / 128 < 2 * 128 ^ g := by
  cases f with
  | zero => simp at hu; omega
  | succ g => exact ⟨g, rfl, by rw [Nat.pow_succ] at hu; omega⟩

structure PutRel (U : Nat) (xs : List Int) (V f : Nat) : Prop where
  lt : V < 2 * 128 ^ f
  sum : xs.length + f = 9
  all : put 9 U = xs ++ put f V
theorem PutRel.len {U : Nat} {xs : List Int} {V f : Nat} (h : PutRel U xs V f) : xs.length ≤ 9 := by have := h.sum; omega
theorem PutRel.bd {U : Nat} {xs : List Int} {V f : Nat} (h : PutRel U xs V f) : (V : Int) ≤ 18446744073709551615 := by
  have h1 := h.lt
  have h2 := h.sum
  have h3 : 128 ^ f ≤ 128 ^ 9 := Nat.pow_le_pow_right (by decide) (by omega)
  have h4 : 128 ^ 9 = 9223372036854775808 := by decide
  omega
theorem PutRel.more {U : Nat} {xs : List Int} {V f : Nat} (h : PutRel U xs V f) (hv : 128 ≤ V) : ∃ g, PutRel U (xs ++ [(V : Int) % 128 + 128]) (V / 128) g := by
  obtain ⟨g, rfl, hg⟩ := put_down h.lt hv
  exact ⟨g, hg, by have := h.sum; simp; omega, by rw [h.all, put_more hv]; simp⟩
theorem PutRel.last {U : Nat} {xs : List Int} {V f : Nat} (h : PutRel U xs V f) (hv : V < 128) : put 9 U = xs ++ [(V : Int)] := by rw [h.all, put_last hv]
set_option maxRecDepth 100000 in
set_option maxHeartbeats 400000 in
theorem specPutNum_any (n : Int) (w : World) (h1 : -9223372036854775808 ≤ n) (h2 : n ≤ 9223372036854775807) :
    Calls Tryd.prog 7 #[.int .i64 n] w fun e w' => e = .returned (.string (strOfNums (put 9 (foldI n).toNat))) ∧ Below w.heap.size w w' := by
  have hbd := foldI_bd h1 h2
  obtain ⟨U, hU⟩ := Int.eq_ofNat_of_zero_le hbd.1
  have c1 := fun w => l01Fold_any n w h1 h2
  rw [hU] at c1
  have HU := hid hU
  have hUb : Hid (U < 18446744073709551616) := by show U < 18446744073709551616; omega
  clear hU hbd h1 h2
  go_enter Tryd.func7, Tryd.ntmps7
  go_wp2_with (go_at_call 25; refine (c1 _).mono ?_; rintro e w1 ⟨rfl, rfl⟩)
  clear c1
  obtain ⟨i0, hi, hz0, hz1, hz2⟩ := info_parts Tryd.info5
  go_loopw [3, 4] (fun u v wr => ∃ (xs : List Int) (V f : Nat), u = .int .u64 V ∧ PutRel U xs V f ∧ wr.ownsRow w1.heap.size 5 1 v xs.length (xs.map (Value.int .u8)) ∧ Below w1.heap.size w1 wr)
    (fun u _ _ => (intOf u).toNat)
  case atStart => exact ⟨[], U, 9, rfl, ⟨by have := hUb.out; omega, rfl, rfl⟩, World.ownsRow_lit _ _ 0 (Nat.le_refl _) (by unfold maxLen; omega) rfl, (Below.refl _ _).alloc (Nat.le_refl _) _⟩
  case round =>
    obtain ⟨xs, V, f, rfl, hR, hown, hbel⟩ := hrel
    have hsz := hbel.size
    have hVb := hR.bd
    by_cases hlt : 128 ≤ V
    · have hxl := hR.len
      go_wp2_with (at_builtin; refine wpList_append_own _ rfl _ _ 22 rfl w1.heap.size 5 i0 (.int .u8 0) 1 1 Tryd.underlying22 hi hz0 hz1 hz2 rfl (by decide) _ _ _ rfl (hown.alloc _) ⟨wr.heap.size, 0, none⟩ 1 1 [.int .u8 ((V : Int) % 128 + 128)] rfl rfl ?c1 ?c2 ?c3 ?c4 ?c5 ?_)
      case c1 => exact cell_one_new _ _ _
      case c2 => exact ints_oneCell .u8 [(V : Int) % 128 + 128]
      case c3 => unfold maxLen; omega
      case c4 => omega
      case c5 => simp; omega
      intro v' w2 hown' hgrow _
      have hb2 := app_below hbel hsz hown hgrow
      obtain ⟨g, hR2⟩ := hR.more hlt
      clear hown hgrow hR hbel
      go_wp2
      go_roundw
      case rel => exact ⟨xs ++ [(V : Int) % 128 + 128], V / 128, g, by go_num, hR2, by simpa using hown', hb2⟩
      case measure => simp [intOf]; omega
    · go_wp2_with (at_builtin; refine wpList_append_own _ rfl _ _ 22 rfl w1.heap.size 5 i0 (.int .u8 0) 1 1 Tryd.underlying22 hi hz0 hz1 hz2 rfl (by decide) _ _ _ rfl (hown.alloc _) ⟨wr.heap.size, 0, none⟩ 1 1 [.int .u8 (V : Int)] rfl rfl ?d1 ?d2 ?d3 ?d4 ?d5 ?_)
      case d1 => exact cell_one_new _ _ _
      case d2 => exact ints_oneCell .u8 [(V : Int)]
      case d3 => have := hR.len; unfold maxLen; omega
      case d4 => have := hR.len; omega
      case d5 => simp; omega
      intro v' w2 hown' hgrow _
      have hb2 := app_below hbel hsz hown hgrow
      have hlast := hid (hR.last (by omega))
      have hcv := conv_own (P := Tryd.prog) (xs := xs ++ [(V : Int)]) 22 9 Tryd.underlying22 Tryd.underlying5 Tryd.underlying9 (by simpa using hown')
      clear hown hgrow hR hbel hown'
      go_wp2
      go_ret
      exact ⟨by rw [HU.out, Int.toNat_natCast, hlast.out]; rfl, hb2⟩

def zeros10 : Array Value := #[.int .u8 0, .int .u8 0, .int .u8 0, .int .u8 0, .int .u8 0, .int .u8 0, .int .u8 0, .int .u8 0, .int .u8 0, .int .u8 0]
theorem and127 (V : Nat) (h : (V : Int) ≤ 18446744073709551615) : bits .and .u64 (V : Int) 127 = (V : Int) % 128 := by
  rw [u64_and _ _ (by omega) (by omega) (by decide) (by decide)]
  simp only [Int.toNat_natCast, Int.reduceToNat]
  rw [show (127 : Nat) = 2 ^ 7 - 1 from rfl, Nat.and_two_pow_sub_one_eq_mod]
  omega
theorem or128 (V : Nat) : bits .or .u8 ((V : Int) % 128) 128 = (V : Int) % 128 + 128 := by
  rw [u8_or _ _ (by omega) (by omega) (by decide) (by decide)]
  have e : ((V : Int) % 128).toNat = V % 128 := by omega
  rw [e]
  have e2 : V % 128 ||| 128 = V % 128 + 128 := by
    have := Nat.two_pow_add_eq_or_of_lt (i := 7) (b := V % 128) (by omega) 1
    simp at this
    rw [Nat.or_comm, ← this]; omega
  simp only [Int.reduceToNat]
  rw [e2]; omega
set_option maxRecDepth 100000 in
set_option maxHeartbeats 400000 in
theorem implPutNum_any (n : Int) (w : World) (h1 : -9223372036854775808 ≤ n) (h2 : n ≤ 9223372036854775807) :
    Calls Tryd.prog 6 #[.int .i64 n] w fun e w' => e = .returned (.string (strOfNums (put 9 (foldI n).toNat))) ∧ Below w.heap.size w w' := by
  have hbd := foldI_bd h1 h2
  obtain ⟨U, hU⟩ := Int.eq_ofNat_of_zero_le hbd.1
  have c1 := fun w => folded_any n w h1 h2
  rw [hU] at c1
  have HU := hid hU
  have hUb : Hid (U < 18446744073709551616) := by show U < 18446744073709551616; omega
  clear hU hbd h1 h2
  have hmk : ∀ w, (Instr.makeSlice 22 (.int .i64 0) (.int .i64 10)).run Tryd.prog w = .ok (.slice (some ⟨w.heap.size, 0, none⟩) 0 10) (w.alloc (.cells zeros10 5)) := fun _ => by kernel_rfl
  go_enter Tryd.func6, Tryd.ntmps6
  go_wp2_with (go_at_call 24; refine (c1 _).mono ?_; rintro e w1 ⟨rfl, rfl⟩)
  clear c1
  obtain ⟨i0, hi, hz0, hz1, hz2⟩ := info_parts Tryd.info5
  go_loopw [3, 4] (fun u v wr => ∃ (xs : List Int) (V f : Nat), u = .int .u64 V ∧ PutRel U xs V f ∧ wr.ownsRow w1.heap.size 5 1 v xs.length (xs.map (Value.int .u8)) ∧ Below w1.heap.size w1 wr)
    (fun u _ _ => (intOf u).toNat)
  case atStart => exact ⟨[], U, 9, rfl, ⟨by have := hUb.out; omega, rfl, rfl⟩, World.ownsRow_made _ _ _ (Nat.le_refl _) (by unfold maxLen; omega) rfl, (Below.refl _ _).alloc (Nat.le_refl _) _⟩
  case round =>
    obtain ⟨xs, V, f, rfl, hR, hown, hbel⟩ := hrel
    have hsz := hbel.size
    have hVb := hR.bd
    have hm1 : bits .and .u64 (V : Int) 127 = (V : Int) % 128 := and127 V hVb
    have hm2 : bits .or .u8 ((V : Int) % 128) 128 = (V : Int) % 128 + 128 := or128 V
    by_cases hlt : 128 ≤ V
    · have hxl := hR.len
      go_wp2_with (at_builtin; refine wpList_append_own _ rfl _ _ 22 rfl w1.heap.size 5 i0 (.int .u8 0) 1 1 Tryd.underlying22 hi hz0 hz1 hz2 rfl (by decide) _ _ _ rfl (hown.alloc _) ⟨wr.heap.size, 0, none⟩ 1 1 [.int .u8 ((V : Int) % 128 + 128)] rfl rfl ?c1 ?c2 ?c3 ?c4 ?c5 ?_)
      case c1 => exact cell_one_new _ _ _
      case c2 => exact ints_oneCell .u8 [(V : Int) % 128 + 128]
      case c3 => unfold maxLen; omega
      case c4 => omega
      case c5 => simp; omega
      intro v' w2 hown' hgrow _
      have hb2 := app_below hbel hsz hown hgrow
      obtain ⟨g, hR2⟩ := hR.more hlt
      clear hown hgrow hR hbel
      go_wp2
      go_roundw
      case rel => exact ⟨xs ++ [(V : Int) % 128 + 128], V / 128, g, by go_num, hR2, by simpa using hown', hb2⟩
      case measure => simp [intOf]; omega
    · go_wp2_with (at_builtin; refine wpList_append_own _ rfl _ _ 22 rfl w1.heap.size 5 i0 (.int .u8 0) 1 1 Tryd.underlying22 hi hz0 hz1 hz2 rfl (by decide) _ _ _ rfl (hown.alloc _) ⟨wr.heap.size, 0, none⟩ 1 1 [.int .u8 (V : Int)] rfl rfl ?d1 ?d2 ?d3 ?d4 ?d5 ?_)
      case d1 => exact cell_one_new _ _ _
      case d2 => exact ints_oneCell .u8 [(V : Int)]
      case d3 => have := hR.len; unfold maxLen; omega
      case d4 => have := hR.len; omega
      case d5 => simp; omega
      intro v' w2 hown' hgrow _
      have hb2 := app_below hbel hsz hown hgrow
      have hlast := hid (hR.last (by omega))
      have hcv := conv_own (P := Tryd.prog) (xs := xs ++ [(V : Int)]) 22 9 Tryd.underlying22 Tryd.underlying5 Tryd.underlying9 (by simpa using hown')
      clear hown hgrow hR hbel hown'
      go_wp2
      go_ret
      exact ⟨by rw [HU.out, Int.toNat_natCast, hlast.out]; rfl, hb2⟩
end Go.Proofs.YtcjclioockjfhaaDoor.Put
