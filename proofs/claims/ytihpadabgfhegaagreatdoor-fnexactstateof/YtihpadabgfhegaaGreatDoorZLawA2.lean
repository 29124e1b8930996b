/-
  Texts put together: LawA, LawB.
-/
import Derived.Test.YtihpadabgfhegaaGreatDoorZStOut
import Derived.Test.YtihpadabgfhegaaGreatDoorZEvAr3
import Derived.Test.YtihpadabgfhegaaGreatDoorZImSS
/-
  What laws.toDef and toState make, in one word each; what is known of a Def's rows. Contracts over the seat's program.
-/
namespace Go.Proofs.YtihpadabgfhegaaGreatDoor
open Go.RowKit Go.Sort

structure DefOwn (w : World) (lo : Nat) (u1 u2 : Value) (ss : List ByteArray) (fs : List Pr) : Prop where
  o1 : w.ownsRow lo 9 1 u1 ss.length (ss.map Value.string)
  o2 : w.ownsRow lo 41 2 u2 fs.length (fs.flatMap Pr.cells)
theorem DefOwn.stay {w w' : World} {lo : Nat} {u1 u2 : Value} {ss : List ByteArray} {fs : List Pr} (h : DefOwn w lo u1 u2 ss fs) (hb : Below w.heap.size w w') : DefOwn w' lo u1 u2 ss fs := ⟨ownB_stay h.o1 hb, ownB_stay h.o2 hb⟩
theorem own_slice_lt {w : World} {lo size n k : Nat} {e : TypeId} {a : Option Addr} {xs : List Value} (h : w.ownsRow lo e size (.slice a n k) n xs) : ∀ g o, a = some ⟨g, o, none⟩ → g < w.heap.size := fun g o ha => (h.lt g (by rw [ha]; rfl)).2
theorem DefOwn.sl {w : World} {lo k1 k2 : Nat} {a1 a2 : Option Addr} {ss : List ByteArray} {fs : List Pr} (h : DefOwn w lo (.slice a1 ss.length k1) (.slice a2 fs.length k2) ss fs) : DefSl w a1 a2 k1 k2 ss fs := ⟨str_of_own h.o1, pr_of_own h.o2, own_slice_lt h.o1, own_slice_lt h.o2⟩
theorem StOwn.sl {w : World} {lo k3 k4 k5 : Nat} {a3 a4 a5 : Option Addr} {S : St} (h : StOwn w lo (.slice a3 S.wait.length k3) (.slice a4 S.busy.length k4) (.slice a5 S.vars.length k5) S) : StSl w a3 a4 a5 k3 k4 k5 S := ⟨str_of_own h.o3, str_of_own h.o4, pr_of_own h.o5⟩
theorem toDef_own (a1 a2 : Option Addr) (k1 k2 : Nat) (ss : List ByteArray) (fs : List Pr) (w : World) (h : DefSl w a1 a2 k1 k2 ss fs) (n1 : ss.length ≤ 1048576) (n2 : fs.length ≤ 1048576) :
    Calls Tryz.prog 20 #[.agg #[.slice a1 ss.length k1, .slice a2 fs.length k2]] w fun x w' => ∃ b1 b2 c1 c2, x = .returned (.agg #[.slice b1 ss.length c1, .slice b2 fs.length c2]) ∧ DefOwn w' w.heap.size (.slice b1 ss.length c1) (.slice b2 fs.length c2) ss fs ∧ Below w.heap.size w w' := by
  refine (toDef_any a1 a2 k1 k2 ss fs w h.h1 h.h2 n1 n2).mono ?_
  rintro x w' ⟨b1, b2, c1, c2, m, hx, o1, o2, hm, _, hb⟩
  exact ⟨b1, b2, c1, c2, hx, ⟨o1, ownB_le o2 hm⟩, hb⟩
theorem toState_own (a3 a4 a5 : Option Addr) (k3 k4 k5 : Nat) (S : St) (w : World) (h : StSl w a3 a4 a5 k3 k4 k5 S) (n3 : S.wait.length ≤ 1048576) (n4 : S.busy.length ≤ 1048576) (n5 : S.vars.length ≤ 1048576) :
    Calls Tryz.prog 21 #[stV a3 a4 a5 k3 k4 k5 S] w fun x w' => ∃ b3 b4 b5 c3 c4 c5, x = .returned (stV b3 b4 b5 c3 c4 c5 S) ∧ StOwn w' w.heap.size (.slice b3 S.wait.length c3) (.slice b4 S.busy.length c4) (.slice b5 S.vars.length c5) S ∧ Below w.heap.size w w' := by
  refine (toState_any a3 a4 a5 k3 k4 k5 S.status S.begun S.last S.faults S.wait S.busy S.vars w h.h3 h.h4 h.h5 n3 n4 n5).mono ?_
  rintro x w' ⟨b3, b4, b5, c3, c4, c5, m1, m2, hx, o3, o4, o5, ⟨h1, h2, h3, h4⟩, hb⟩
  exact ⟨b3, b4, b5, c3, c4, c5, hx, ⟨o3, ownB_le o4 (by omega), ownB_le o5 (by omega), fun g hg he => by have := h3 g hg; have := (o4.lt g he).1; omega⟩, hb⟩
theorem toEvent_own (e : Ev) (w : World) :
    Calls Tryz.prog 22 #[.agg #[.int .i64 e.seq, .int .i64 e.time, .int .i64 e.run, .int .i64 e.kind, .string e.step, .string e.val]] w fun x w' => x = .returned (.agg #[.int .i64 e.seq, .int .i64 e.time, .int .i64 e.run, .int .i64 e.kind, .string e.step, .string e.val]) ∧ Below w.heap.size w w' := toEvent_any _ _ _ _ _ _ w
/-- A State that StateStep tells is small. -/
theorem rS_small {ss : List ByteArray} {fs : List Pr} {S : St} {e : Ev} : (rS ss fs S e).2.wait.length ≤ 40 ∧ (rS ss fs S e).2.busy.length ≤ 40 ∧ (rS ss fs S e).2.vars.length ≤ 20 := by
  by_cases h : (DefP ss fs ∧ StP ss S) ∧ evB e = true
  · by_cases hc : (rS ss fs S e).1 = 0
    · rw [rS_yes h] at hc ⊢
      have := stP_small (stepS_right h.1.1 h.1.2 h.2 hc)
      exact ⟨this.1, this.2.1, this.2.2.1⟩
    · rw [rS_ev h.1] at hc ⊢
      rw [evS_no hc]; simp [z0]
  · rw [rS_no h]; simp [z0]
theorem StOwn.chgT {p : Nat → Prop} {w w' : World} {lo : Nat} {v3 v4 v5 : Value} {S : St} (h : StOwn w lo v3 v4 v5 S) (hc : Chg p w w') (h3 : ∀ g, v3.ownBlock = some g → ¬ p g) (h4 : ∀ g, v4.ownBlock = some g → ¬ p g) (h5 : ∀ g, v5.ownBlock = some g → ¬ p g) : StOwn w' lo v3 v4 v5 S := ⟨own_chg h.o3 hc h3, own_chg h.o4 hc h4, own_chg h.o5 hc h5, h.a34⟩
end Go.Proofs.YtihpadabgfhegaaGreatDoor

/-
  Eight cells of a block stored. Of no function.
-/
namespace Go.Proofs.YtihpadabgfhegaaGreatDoor
open Go.RowKit Go.Sort

theorem store8 {V : World} {b : Nat} {c0 c1 c2 c3 c4 c5 c6 c7 : Value} {t : TypeId} (h : V.heap[b]? = some (.cells #[c0, c1, c2, c3, c4, c5, c6, c7] t (0, 0))) (d0 d1 d2 d3 d4 d5 d6 d7 : Value) : ((((((((V.setCell ⟨b, 0, none⟩ d0).setCell ⟨b, 1, none⟩ d1).setCell ⟨b, 2, none⟩ d2).setCell ⟨b, 3, none⟩ d3).setCell ⟨b, 4, none⟩ d4).setCell ⟨b, 5, none⟩ d5).setCell ⟨b, 6, none⟩ d6).setCell ⟨b, 7, none⟩ d7).heap[b]? = some (.cells #[d0, d1, d2, d3, d4, d5, d6, d7] t (0, 0)) ∧ Chg (fun j => j = b) V ((((((((V.setCell ⟨b, 0, none⟩ d0).setCell ⟨b, 1, none⟩ d1).setCell ⟨b, 2, none⟩ d2).setCell ⟨b, 3, none⟩ d3).setCell ⟨b, 4, none⟩ d4).setCell ⟨b, 5, none⟩ d5).setCell ⟨b, 6, none⟩ d6).setCell ⟨b, 7, none⟩ d7) :=
  ⟨blk_set (L := [d0, d1, d2, d3, d4, d5, d6, c7]) (blk_set (L := [d0, d1, d2, d3, d4, d5, c6, c7]) (blk_set (L := [d0, d1, d2, d3, d4, c5, c6, c7]) (blk_set (L := [d0, d1, d2, d3, c4, c5, c6, c7]) (blk_set (L := [d0, d1, d2, c3, c4, c5, c6, c7]) (blk_set (L := [d0, d1, c2, c3, c4, c5, c6, c7]) (blk_set (L := [d0, c1, c2, c3, c4, c5, c6, c7]) (blk_set (L := [c0, c1, c2, c3, c4, c5, c6, c7]) h d0) d1) d2) d3) d4) d5) d6) d7,
    ((((((((chg_set _ _ _ _).trans (chg_set _ _ _ _)).trans (chg_set _ _ _ _)).trans (chg_set _ _ _ _)).trans (chg_set _ _ _ _)).trans (chg_set _ _ _ _)).trans (chg_set _ _ _ _)).trans (chg_set _ _ _ _))⟩
end Go.Proofs.YtihpadabgfhegaaGreatDoor
