/-
  Texts put together: SqM, StpC, QpM.
-/
import Derived.Test.YtimlnbfalnkmhaaGreatDoorZRdTm2
import Derived.Test.YtimlnbfalnkmhaaGreatDoorZCdRow5
import Derived.Test.YtimlnbfalnkmhaaGreatDoorZOwnB6
import Derived.Test.YtimlnbfalnkmhaaGreatDoorZGen2
import Derived.Deep.RegionLaw
import Derived.Test.YtimlnbfalnkmhaaGreatDoorZQpC
import Derived.Test.YtimlnbfalnkmhaaGreatDoorZQrB3
import Derived.Test.YtimlnbfalnkmhaaGreatDoorZQuD3
import Derived.Deep.CutRange
import Derived.Deep.CutBlock
import Derived.Shelf.Abstract
/-
  Queries: what spec's query holds while it reads: the reader, the Query in its box, its Conds. Of no function.
-/
namespace Go.Proofs.YtimlnbfalnkmhaaGreatDoor
open Go.RowKit

theorem NewB.grow {w W W' : World} {g : Nat} {L : List Value} {T : TypeId} {r : Option Nat} (h : NewB w W g L T) (hg : W.grownBy W' r) (hr : ∀ j, r = some j → j ≠ g) : NewB w W' g L T :=
  ⟨(hg.block g (lt_heap h.blk) (fun e => hr g e.symm rfl)).trans h.blk, h.ge⟩
theorem RdT.grow {w W W' : World} {b k : Nat} {bad : Bool} {sv : Value} {ws : List ByteArray} {r : Option Nat} (h : RdT w W b sv ws k bad) (hg : W.grownBy W' r) (hr : ∀ j, r = some j → w.heap.size ≤ j) : RdT w W' b sv ws k bad := by
  cases r with
  | none => exact h.below ⟨hg.os, hg.tape, hg.output, hg.size, fun k hk => hg.block k hk (by simp)⟩
  | some g => exact h.own hg (hr g rfl)
structure SQ (w X : World) (b : Nat) (sv : Value) (ws : List ByteArray) (k : Nat) (bad : Bool) (cnt : Bool) (v : Value) (cs : List Cd) (by' ord : ByteArray) (dwn : Bool) (lim : Int) : Prop where
  D : RdT w X b sv ws k bad
  P : NewB w X w.heap.size [.bool false, .slice none 0 0, .string ⟨#[]⟩, .string ⟨#[]⟩, .bool false, .int .i64 0] 25
  Q : NewB w X (w.heap.size + 1) [.bool cnt, v, .string by', .string ord, .bool dwn, .int .i64 lim] 25
  O : X.ownsRow (w.heap.size + 2) 67 4 v cs.length (cs.flatMap Cd.cells)
  hs : w.heap.size + 2 ≤ X.heap.size
theorem SQ.call {w X : World} {b k : Nat} {bad : Bool} {sv : Value} {ws : List ByteArray} {cnt : Bool} {v : Value} {cs : List Cd} {by' ord : ByteArray} {dwn : Bool} {lim : Int} {X' : World} {k' : Nat} {bad' : Bool} (h : SQ w (X) b sv ws k bad cnt v cs by' ord dwn lim) (hr : RdS X' b sv ws k' bad') (hg : X.grownBy X' (some b)) : SQ w (X') b sv ws k' bad' cnt v cs by' ord dwn lim :=
  ⟨h.D.call hr hg, h.P.call hg h.D.lt, h.Q.call hg h.D.lt, own_kept h.O (by have := h.D.lt; omega) hg, Nat.le_trans h.hs hg.size⟩
theorem SQ.below {w X : World} {b k : Nat} {bad : Bool} {sv : Value} {ws : List ByteArray} {cnt : Bool} {v : Value} {cs : List Cd} {by' ord : ByteArray} {dwn : Bool} {lim : Int} {X' : World} (h : SQ w (X) b sv ws k bad cnt v cs by' ord dwn lim) (hb : Below X.heap.size X X') : SQ w (X') b sv ws k bad cnt v cs by' ord dwn lim :=
  ⟨h.D.below hb, h.P.below hb, h.Q.below hb, ownB_stay h.O hb, Nat.le_trans h.hs hb.size⟩
theorem SQ.sC {w X : World} {b k : Nat} {bad : Bool} {sv : Value} {ws : List ByteArray} {cnt : Bool} {v : Value} {cs : List Cd} {by' ord : ByteArray} {dwn : Bool} {lim : Int} (h : SQ w (X) b sv ws k bad cnt v cs by' ord dwn lim) (x : Bool) : SQ w (X.setCell ⟨w.heap.size + 1, 0, none⟩ (.bool x)) b sv ws k bad x v cs by' ord dwn lim :=
  ⟨h.D.set (by omega) 0 _, h.P.other (by omega) 0 _, h.Q.set 0 _, own_kept h.O (by omega) (grown_set X (w.heap.size + 1) 0 _), by have := h.hs; simpa [World.setCell] using this⟩
theorem SQ.sB {w X : World} {b k : Nat} {bad : Bool} {sv : Value} {ws : List ByteArray} {cnt : Bool} {v : Value} {cs : List Cd} {by' ord : ByteArray} {dwn : Bool} {lim : Int} (h : SQ w (X) b sv ws k bad cnt v cs by' ord dwn lim) (x : ByteArray) : SQ w (X.setCell ⟨w.heap.size + 1, 2, none⟩ (.string x)) b sv ws k bad cnt v cs x ord dwn lim :=
  ⟨h.D.set (by omega) 2 _, h.P.other (by omega) 2 _, h.Q.set 2 _, own_kept h.O (by omega) (grown_set X (w.heap.size + 1) 2 _), by have := h.hs; simpa [World.setCell] using this⟩
theorem SQ.sO {w X : World} {b k : Nat} {bad : Bool} {sv : Value} {ws : List ByteArray} {cnt : Bool} {v : Value} {cs : List Cd} {by' ord : ByteArray} {dwn : Bool} {lim : Int} (h : SQ w (X) b sv ws k bad cnt v cs by' ord dwn lim) (x : ByteArray) : SQ w (X.setCell ⟨w.heap.size + 1, 3, none⟩ (.string x)) b sv ws k bad cnt v cs by' x dwn lim :=
  ⟨h.D.set (by omega) 3 _, h.P.other (by omega) 3 _, h.Q.set 3 _, own_kept h.O (by omega) (grown_set X (w.heap.size + 1) 3 _), by have := h.hs; simpa [World.setCell] using this⟩
theorem SQ.sD {w X : World} {b k : Nat} {bad : Bool} {sv : Value} {ws : List ByteArray} {cnt : Bool} {v : Value} {cs : List Cd} {by' ord : ByteArray} {dwn : Bool} {lim : Int} (h : SQ w (X) b sv ws k bad cnt v cs by' ord dwn lim) (x : Bool) : SQ w (X.setCell ⟨w.heap.size + 1, 4, none⟩ (.bool x)) b sv ws k bad cnt v cs by' ord x lim :=
  ⟨h.D.set (by omega) 4 _, h.P.other (by omega) 4 _, h.Q.set 4 _, own_kept h.O (by omega) (grown_set X (w.heap.size + 1) 4 _), by have := h.hs; simpa [World.setCell] using this⟩
theorem SQ.sL {w X : World} {b k : Nat} {bad : Bool} {sv : Value} {ws : List ByteArray} {cnt : Bool} {v : Value} {cs : List Cd} {by' ord : ByteArray} {dwn : Bool} {lim : Int} (h : SQ w (X) b sv ws k bad cnt v cs by' ord dwn lim) (x : Int) : SQ w (X.setCell ⟨w.heap.size + 1, 5, none⟩ (.int .i64 x)) b sv ws k bad cnt v cs by' ord dwn x :=
  ⟨h.D.set (by omega) 5 _, h.P.other (by omega) 5 _, h.Q.set 5 _, own_kept h.O (by omega) (grown_set X (w.heap.size + 1) 5 _), by have := h.hs; simpa [World.setCell] using this⟩
theorem SQ.app {w X : World} {b k : Nat} {bad : Bool} {sv : Value} {ws : List ByteArray} {cnt : Bool} {v : Value} {cs : List Cd} {by' ord : ByteArray} {dwn : Bool} {lim : Int} {X' : World} {v' : Value} {cs' : List Cd} (h : SQ w (X) b sv ws k bad cnt v cs by' ord dwn lim) (hg : X.grownBy X' v.ownBlock) (ho : X'.ownsRow (w.heap.size + 2) 67 4 v' cs'.length (cs'.flatMap Cd.cells)) : SQ w (X'.setCell ⟨w.heap.size + 1, 1, none⟩ v') b sv ws k bad cnt v' cs' by' ord dwn lim :=
  ⟨(h.D.grow hg (fun j e => by have := (h.O.lt j e).1; omega)).set (by omega) 1 _, (h.P.grow hg (fun j e => by have := (h.O.lt j e).1; omega)).other (by omega) 1 _, (h.Q.grow hg (fun j e => by have := (h.O.lt j e).1; omega)).set 1 _, own_kept ho (by omega) (grown_set X' (w.heap.size + 1) 1 _), by have := Nat.le_trans h.hs hg.size; simpa [World.setCell] using this⟩
theorem SQ.drewN {w X : World} {b k : Nat} {bad : Bool} {sv : Value} {ws : List ByteArray} {cnt : Bool} {v : Value} {cs : List Cd} {by' ord : ByteArray} {dwn : Bool} {lim : Int} (h : SQ w (X) b sv ws k bad cnt v cs by' ord dwn lim) (n : Nat) : SQ w (X.drewN n) b sv ws k bad cnt v cs by' ord dwn lim := h.below (bel_drewS (Below.refl _ _) n)
theorem SQ.drew {w X : World} {b k : Nat} {bad : Bool} {sv : Value} {ws : List ByteArray} {cnt : Bool} {v : Value} {cs : List Cd} {by' ord : ByteArray} {dwn : Bool} {lim : Int} (h : SQ w (X) b sv ws k bad cnt v cs by' ord dwn lim) : SQ w (X.drew) b sv ws k bad cnt v cs by' ord dwn lim := h.below (Below.refl _ _).drew
end Go.Proofs.YtimlnbfalnkmhaaGreatDoor

/-
  A call of a Go function as one operation of a region that draws. Of no function.
-/
namespace Go.Proofs.YtimlnbfalnkmhaaGreatDoor
open Go.RowKit

theorem step_call {P : Program} {w : World} {ops : Array Oper} {o : Oper} {a : Act} {K : Act → World → Prop} {Q : Exit → Act → World → Prop} {E : Prop} (hgd : o.guard = none) (f : FuncId) (args : Array Operand) (tys : Array TypeId)
    (ho : o.op = .call { callee := .value (.func f), args := args, argTypes := tys }) (vs : Array Value) (hv : args.map a.eval = vs) (hen : (callFunc f vs).run P w = .ok (.enter f vs) w)
    (h : Calls P f vs w fun e w' => ∃ v, e = .returned v ∧ K (a.put o.dst v) w') :
    if Region.wanted o (yielded ops a.tmps) = true then Oper.wp P o a w K Q else E := by
  rw [if_pos (show Region.wanted o (yielded ops a.tmps) = true by simp [Region.wanted, hgd])]
  unfold Oper.wp
  simp [go_sem, execOp, ho, resolve, invoke, hv, hen, Act.eval, Deferred.ofValue]
  refine h.mono ?_
  rintro e w' ⟨v, rfl, hK⟩
  exact hK
end Go.Proofs.YtimlnbfalnkmhaaGreatDoor

/-
  Queries: how (*spec.l05Reader).query ends; its Conds: over the seat's program.
-/
namespace Go.Proofs.YtimlnbfalnkmhaaGreatDoor
open Go.RowKit

/-- How query ends. -/
def EndSQ (w : World) (b : Nat) (sv : Value) (ws : List ByteArray) (r : Except Nat Qy) (e : Ending) (w' : World) : Prop := match r with
  | .ok q => (∃ va vc, e = .returned (.agg #[.bool q.cnt, .slice va q.cs.length vc, .string q.by', .string q.ord, .bool q.dwn, .int .i64 q.lim]) ∧ w'.ownsRow w.heap.size 67 4 (.slice va q.cs.length vc) q.cs.length (q.cs.flatMap Cd.cells)) ∧ (∃ k, RdS w' b sv ws k false) ∧ w.grownBy w' (some b)
  | .error k => (∃ (c0 c4 : Bool) (va : Option Addr) (n vc : Nat) (s2 s3 : ByteArray) (n5 : Int), e = .returned (.agg #[.bool c0, .slice va n vc, .string s2, .string s3, .bool c4, .int .i64 n5])) ∧ RdS w' b sv ws k true ∧ w.grownBy w' (some b)
def CdR (ws : List ByteArray) (k k' : Nat) (bad : Bool) (c : Cd) : Prop := (bad = false ∧ rCond3 ws k = .ok (c, k')) ∨ (bad = true ∧ rCond3 ws k = .error k')
def WhR (ws : List ByteArray) (k' : Nat) (bad : Bool) (cs : List Cd) : Prop := (bad = false ∧ rConds ws 1 = .ok (cs, k')) ∨ (bad = true ∧ rConds ws 1 = .error k')
def MoR (ws : List ByteArray) (k' : Nat) (bad : Bool) (cs : List Cd) : Prop := (bad = false ∧ rMore ws (6 - cs.length) k' cs = rConds ws 1) ∨ (bad = true ∧ rConds ws 1 = .error k')
theorem nilOwn (w : World) (B : Nat) (T : TypeId) (z : Nat) : w.ownsRow B T z (.slice none 0 0) 0 [] := ⟨by simp, .inl ⟨rfl, rfl⟩⟩
theorem EndSC.ok {w w' : World} {b k : Nat} {sv : Value} {ws : List ByteArray} {r : Except Nat (Cd × Nat)} {c : Cd} {e : Ending} (h : EndSC w b sv ws r e w') (hr : r = .ok (c, k)) : e = .returned (cdV c) ∧ RdS w' b sv ws k false ∧ w.grownBy w' (some b) := by subst hr; exact h
theorem EndSC.err {w w' : World} {b k : Nat} {sv : Value} {ws : List ByteArray} {r : Except Nat (Cd × Nat)} {e : Ending} (h : EndSC w b sv ws r e w') (hr : r = .error k) : (∃ c, e = .returned (cdV c)) ∧ RdS w' b sv ws k true ∧ w.grownBy w' (some b) := by subst hr; exact h
theorem RdS.setb {w : World} {b : Nat} {sv : Value} {ws : List ByteArray} {k : Nat} {bad : Bool} (h : RdS w b sv ws k bad) (x : Bool) : RdS (w.setCell ⟨b, 2, none⟩ (.bool x)) b sv ws k x ∧ w.grownBy (w.setCell ⟨b, 2, none⟩ (.bool x)) (some b) :=
  ⟨h.next (grown_set w b 2 _) (by have := blk_set (i := 2) h.hb (.bool x); simpa using this) h.le, grown_set w b 2 _⟩
/-- cond, told in one. -/
theorem scond_one {b k : Nat} {sv : Value} {ws : List ByteArray} (w : World) (h : RdS w b sv ws k false) :
    Calls Tryz.prog 103 #[.pointer (some ⟨b, 0, none⟩)] w fun e w' => ∃ c k' bad, CdR ws k k' bad c ∧ e = .returned (.agg #[.string c.fld, .string c.op, .string c.wrd, .int .i64 c.n]) ∧ RdS w' b sv ws k' bad ∧ w.grownBy w' (some b) := by
  refine (scond_any w h).mono ?_
  intro e w' hE
  cases hr : rCond3 ws k with
  | ok ck =>
    obtain ⟨c, k'⟩ := ck
    obtain ⟨he, h1, h2⟩ := hE.ok hr
    exact ⟨c, k', false, .inl ⟨rfl, hr⟩, he, h1, h2⟩
  | error k' =>
    obtain ⟨⟨c, he⟩, h1, h2⟩ := hE.err hr
    exact ⟨c, k', true, .inr ⟨rfl, hr⟩, he, h1, h2⟩
end Go.Proofs.YtimlnbfalnkmhaaGreatDoor
