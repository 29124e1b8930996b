/-
  What laws.eqQuery, eqQueryOut, markQuery, markQueryOut, heldQuery, heldQueryOut do: contracts over the seat's program.
-/
import Derived.Test.YthgmphmghnonbaaDoorZEqC
import Derived.Test.YthgmphmghnonbaaDoorZHdC
import Derived.Test.YthgmphmghnonbaaDoorZOwn
namespace Go.Proofs.YthgmphmghnonbaaDoor
open Go.RowKit

theorem CdSl.stay {w w' : World} {v : Value} {cs : List Cd} (h : CdSl w v cs) (hb : Below w.heap.size w w') : CdSl w' v cs := by
  rcases h with h | ⟨g, o, c, hv, hn, h⟩
  · exact .inl h
  · exact .inr ⟨g, o, c, hv, hn, h.stay hb (Nat.le_refl _)⟩
theorem chg_grown {w w' : World} {r : Option Nat} (h : w.grownBy w' r) : Chg (fun j => r = some j) w w' := ⟨h.os, h.tape, h.output, h.size, fun k hk hp => h.block k hk (fun e => hp e.symm)⟩
set_option maxRecDepth 100000 in
theorem eqQuery_same (a1 a2 : Option Addr) (k1 k2 : Nat) (cs : List Cd) (c0 c4 : Bool) (s2 s3 : ByteArray) (n5 : Int) (w : World) (h1 : CdSl w (.slice a1 cs.length k1) cs) (h2 : CdSl w (.slice a2 cs.length k2) cs) (hn : cs.length ≤ maxLen) :
    Calls Tryd.prog 15 #[.agg #[.bool c0, .slice a1 cs.length k1, .string s2, .string s3, .bool c4, .int .i64 n5], .agg #[.bool c0, .slice a2 cs.length k2, .string s2, .string s3, .bool c4, .int .i64 n5]] w fun e w' => e = .returned (.bool true) ∧ Below w.heap.size w w' := by
  have hb := below2 w (.cells #[.bool c0, .slice a1 cs.length k1, .string s2, .string s3, .bool c4, .int .i64 n5] 24) (.cells #[.bool c0, .slice a2 cs.length k2, .string s2, .string s3, .bool c4, .int .i64 n5] 24)
  have cE := hid (eqCondS_any _ _ cs _ (h1.stay hb) (h2.stay hb) hn)
  have HB := hid hb
  clear h1 h2 hb
  go_enter Tryd.func15, Tryd.ntmps15
  go_wp2_with fail
  refine cE.out.mono ?_
  rintro e W1 ⟨rfl, hb1⟩
  have x2 := (hb1.cell (p := ⟨w.heap.size, 2, none⟩) (by simp; omega)).trans (by simp [go_sem] : _ = some (.string s2))
  have y2 := (hb1.cell (p := ⟨w.heap.size + 1, 2, none⟩) (by simp)).trans (by simp [go_sem] : _ = some (.string s2))
  have x3 := (hb1.cell (p := ⟨w.heap.size, 3, none⟩) (by simp; omega)).trans (by simp [go_sem] : _ = some (.string s3))
  have y3 := (hb1.cell (p := ⟨w.heap.size + 1, 3, none⟩) (by simp)).trans (by simp [go_sem] : _ = some (.string s3))
  have x4 := (hb1.cell (p := ⟨w.heap.size, 4, none⟩) (by simp; omega)).trans (by simp [go_sem] : _ = some (.bool c4))
  have y4 := (hb1.cell (p := ⟨w.heap.size + 1, 4, none⟩) (by simp)).trans (by simp [go_sem] : _ = some (.bool c4))
  have x5 := (hb1.cell (p := ⟨w.heap.size, 5, none⟩) (by simp; omega)).trans (by simp [go_sem] : _ = some (.int .i64 n5))
  have y5 := (hb1.cell (p := ⟨w.heap.size + 1, 5, none⟩) (by simp)).trans (by simp [go_sem] : _ = some (.int .i64 n5))
  have HB1 := hid (HB.out.trans (hb1.mono HB.out.size))
  clear hb1 cE
  go_wp2
  go_ret
  exact ⟨rfl, HB1.out⟩
set_option maxRecDepth 100000 in
theorem eqQueryOut_same (a1 a2 : Option Addr) (k1 k2 : Nat) (cs : List Cd) (c0 c4 : Bool) (s2 s3 : ByteArray) (n5 n6 n7 : Int) (w : World) (h1 : CdSl w (.slice a1 cs.length k1) cs) (h2 : CdSl w (.slice a2 cs.length k2) cs) (hn : cs.length ≤ maxLen) :
    Calls Tryd.prog 6 #[.agg #[.bool c0, .slice a1 cs.length k1, .string s2, .string s3, .bool c4, .int .i64 n5, .int .i64 n6, .int .i64 n7], .agg #[.bool c0, .slice a2 cs.length k2, .string s2, .string s3, .bool c4, .int .i64 n5, .int .i64 n6, .int .i64 n7]] w fun e w' => e = .returned (.bool true) ∧ Below w.heap.size w w' := by
  have hb := below2 w (.cells #[.bool c0, .slice a1 cs.length k1, .string s2, .string s3, .bool c4, .int .i64 n5, .int .i64 n6, .int .i64 n7] 26) (.cells #[.bool c0, .slice a2 cs.length k2, .string s2, .string s3, .bool c4, .int .i64 n5, .int .i64 n6, .int .i64 n7] 26)
  have cE := hid (eqQuery_same a1 a2 k1 k2 cs c0 c4 s2 s3 n5 _ (h1.stay hb) (h2.stay hb) hn)
  have HB := hid hb
  clear h1 h2 hb
  go_enter Tryd.func6, Tryd.ntmps6
  go_wp2_with fail
  refine cE.out.mono ?_
  rintro e W1 ⟨rfl, hb1⟩
  have x6 := (hb1.cell (p := ⟨w.heap.size, 6, none⟩) (by simp; omega)).trans (by simp [go_sem] : _ = some (.int .i64 n6))
  have y6 := (hb1.cell (p := ⟨w.heap.size + 1, 6, none⟩) (by simp)).trans (by simp [go_sem] : _ = some (.int .i64 n6))
  have x7 := (hb1.cell (p := ⟨w.heap.size, 7, none⟩) (by simp; omega)).trans (by simp [go_sem] : _ = some (.int .i64 n7))
  have y7 := (hb1.cell (p := ⟨w.heap.size + 1, 7, none⟩) (by simp)).trans (by simp [go_sem] : _ = some (.int .i64 n7))
  have HB1 := hid (HB.out.trans (hb1.mono HB.out.size))
  clear hb1 cE
  go_wp2
  go_ret
  exact ⟨rfl, HB1.out⟩
set_option maxRecDepth 100000 in
theorem markQuery_own (a : Option Addr) (n c base : Nat) (c0 c4 : Bool) (s2 s3 : ByteArray) (n5 : Int) (K : Int) (xs : List Value) (w : World) (h : w.ownsRow base 45 4 (.slice a n c) n xs) (hK : 0 < K) (hn : K + 4 * (n : Int) ≤ 1000000000) :
    Calls Tryd.prog 16 #[.agg #[.bool c0, .slice a n c, .string s2, .string s3, .bool c4, .int .i64 n5], .int .i64 K] w fun e w' => e = .returned (.int .i64 (K + 4 * (n : Int))) ∧ w'.ownsRow base 45 4 (.slice a n c) n ((mkC K n).flatMap Cd.cells) ∧ Chg (fun j => (Value.slice a n c).ownBlock = some j) w w' := by
  have hb : Below w.heap.size w (w.alloc (.cells #[.bool c0, .slice a n c, .string s2, .string s3, .bool c4, .int .i64 n5] 24)) := (Below.refl _ _).alloc (Nat.le_refl _) _
  have cM := hid (markCondS_own _ n base K xs _ (ownB_stay h hb) hK hn)
  have HB := hid hb
  clear h hb
  go_enter Tryd.func16, Tryd.ntmps16
  go_wp2_with (go_at_call 35; refine cM.out.mono ?_; rintro e W1 ⟨rfl, hO, hg⟩; have HO := hid hO; have HG := hid hg; clear hO hg cM)
  go_ret
  exact ⟨rfl, HO.out, (Chg.of_below HB.out).trans (chg_grown HG.out)⟩
set_option maxRecDepth 100000 in
theorem markQueryOut_own (a : Option Addr) (n c base : Nat) (c0 c4 : Bool) (s2 s3 : ByteArray) (n5 n6 n7 : Int) (K : Int) (xs : List Value) (w : World) (h : w.ownsRow base 45 4 (.slice a n c) n xs) (hK : 0 < K) (hn : K + 4 * (n : Int) ≤ 1000000000) :
    Calls Tryd.prog 7 #[.agg #[.bool c0, .slice a n c, .string s2, .string s3, .bool c4, .int .i64 n5, .int .i64 n6, .int .i64 n7], .int .i64 K] w fun e w' => e = .returned (.int .i64 (K + 4 * (n : Int))) ∧ w'.ownsRow base 45 4 (.slice a n c) n ((mkC K n).flatMap Cd.cells) ∧ Chg (fun j => (Value.slice a n c).ownBlock = some j) w w' := by
  have hb : Below w.heap.size w (w.alloc (.cells #[.bool c0, .slice a n c, .string s2, .string s3, .bool c4, .int .i64 n5, .int .i64 n6, .int .i64 n7] 26)) := (Below.refl _ _).alloc (Nat.le_refl _) _
  have cM := hid (markQuery_own a n c base c0 c4 s2 s3 n5 K xs _ (ownB_stay h hb) hK hn)
  have HB := hid hb
  clear h hb
  go_enter Tryd.func7, Tryd.ntmps7
  go_wp2_with (go_at_call 16; refine cM.out.mono ?_; rintro e W1 ⟨rfl, hO, hg⟩; have HO := hid hO; have HG := hid hg; clear hO hg cM)
  go_ret
  exact ⟨rfl, HO.out, (Chg.of_below HB.out).trans HG.out⟩
set_option maxRecDepth 100000 in
theorem heldQuery_own (a : Option Addr) (n c base : Nat) (c0 c4 : Bool) (s2 s3 : ByteArray) (n5 : Int) (K : Int) (w : World) (h : w.ownsRow base 45 4 (.slice a n c) n ((mkC K n).flatMap Cd.cells)) (hK : 0 < K) (hn : K + 4 * (n : Int) ≤ 1000000000) :
    Calls Tryd.prog 17 #[.agg #[.bool c0, .slice a n c, .string s2, .string s3, .bool c4, .int .i64 n5], .int .i64 K] w fun e w' => e = .returned (.int .i64 (K + 4 * (n : Int))) ∧ Below w.heap.size w w' := by
  have hb : Below w.heap.size w (w.alloc (.cells #[.bool c0, .slice a n c, .string s2, .string s3, .bool c4, .int .i64 n5] 24)) := (Below.refl _ _).alloc (Nat.le_refl _) _
  have cM := hid (heldCondS_own _ n base K _ (ownB_stay h hb) hK hn)
  have HB := hid hb
  have z : ¬ (K + 4 * (n : Int) < 0) := by omega
  clear h hb
  go_enter Tryd.func17, Tryd.ntmps17
  go_wp2_with (go_at_call 36; refine cM.out.mono ?_; rintro e W1 ⟨rfl, hb1⟩; have HG := hid hb1; clear hb1 cM)
  go_ret
  exact ⟨rfl, HB.out.trans (HG.out.mono HB.out.size)⟩
set_option maxRecDepth 100000 in
theorem heldQueryOut_own (a : Option Addr) (n c base : Nat) (c0 c4 : Bool) (s2 s3 : ByteArray) (n5 n6 n7 : Int) (K : Int) (w : World) (h : w.ownsRow base 45 4 (.slice a n c) n ((mkC K n).flatMap Cd.cells)) (hK : 0 < K) (hn : K + 4 * (n : Int) ≤ 1000000000) :
    Calls Tryd.prog 8 #[.agg #[.bool c0, .slice a n c, .string s2, .string s3, .bool c4, .int .i64 n5, .int .i64 n6, .int .i64 n7], .int .i64 K] w fun e w' => e = .returned (.int .i64 (K + 4 * (n : Int))) ∧ Below w.heap.size w w' := by
  have hb : Below w.heap.size w (w.alloc (.cells #[.bool c0, .slice a n c, .string s2, .string s3, .bool c4, .int .i64 n5, .int .i64 n6, .int .i64 n7] 26)) := (Below.refl _ _).alloc (Nat.le_refl _) _
  have cM := hid (heldQuery_own a n c base c0 c4 s2 s3 n5 K _ (ownB_stay h hb) hK hn)
  have HB := hid hb
  have z : ¬ (K + 4 * (n : Int) < 0) := by omega
  clear h hb
  go_enter Tryd.func8, Tryd.ntmps8
  go_wp2_with (go_at_call 17; refine cM.out.mono ?_; rintro e W1 ⟨rfl, hb1⟩; have HG := hid hb1; clear hb1 cM)
  go_ret
  exact ⟨rfl, HB.out.trans (HG.out.mono HB.out.size)⟩
end Go.Proofs.YthgmphmghnonbaaDoor
