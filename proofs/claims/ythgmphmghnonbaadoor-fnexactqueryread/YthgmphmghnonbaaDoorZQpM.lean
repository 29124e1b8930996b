/-
  Queries: how (*spec.l05Reader).query ends; its Conds: over the seat's program.
-/
import Derived.Test.YthgmphmghnonbaaDoorZQpC
import Derived.Test.YthgmphmghnonbaaDoorZSqM
import Derived.Test.YthgmphmghnonbaaDoorZSt
import Derived.Test.YthgmphmghnonbaaDoorZQuD
import Derived.Deep.CutRange
import Derived.Deep.CutBlock
import Derived.Shelf.Abstract
namespace Go.Proofs.YthgmphmghnonbaaDoor
open Go.RowKit

/-- How query ends. -/
def EndSQ (w : World) (b : Nat) (sv : Value) (ws : List ByteArray) (r : Except Nat Qy) (e : Ending) (w' : World) : Prop := match r with
  | .ok q => (∃ va vc, e = .returned (.agg #[.bool q.cnt, .slice va q.cs.length vc, .string q.by', .string q.ord, .bool q.dwn, .int .i64 q.lim]) ∧ w'.ownsRow w.heap.size 45 4 (.slice va q.cs.length vc) q.cs.length (q.cs.flatMap Cd.cells)) ∧ (∃ k, RdS w' b sv ws k false) ∧ w.grownBy w' (some b)
  | .error k => (∃ (c0 c4 : Bool) (va : Option Addr) (n vc : Nat) (s2 s3 : ByteArray) (n5 : Int), e = .returned (.agg #[.bool c0, .slice va n vc, .string s2, .string s3, .bool c4, .int .i64 n5])) ∧ RdS w' b sv ws k true ∧ w.grownBy w' (some b)
def CdR (ws : List ByteArray) (k k' : Nat) (bad : Bool) (c : Cd) : Prop := (bad = false ∧ rCond3 ws k = .ok (c, k')) ∨ (bad = true ∧ rCond3 ws k = .error k')
def WhR (ws : List ByteArray) (k' : Nat) (bad : Bool) (cs : List Cd) : Prop := (bad = false ∧ rConds ws 1 = .ok (cs, k')) ∨ (bad = true ∧ rConds ws 1 = .error k')
def MoR (ws : List ByteArray) (k' : Nat) (bad : Bool) (cs : List Cd) : Prop := (bad = false ∧ rMore ws (6 - cs.length) k' cs = rConds ws 1) ∨ (bad = true ∧ rConds ws 1 = .error k')
theorem nilOwn (w : World) (B : Nat) (T : TypeId) (z : Nat) : w.ownsRow B T z (.slice none 0 0) 0 [] := ⟨by simp, .inl ⟨rfl, rfl⟩⟩
theorem EndSC.ok {w w' : World} {b k : Nat} {sv : Value} {ws : List ByteArray} {r : Except Nat (Cd × Nat)} {c : Cd} {e : Ending} (h : EndSC w b sv ws r e w') (hr : r = .ok (c, k)) : e = .returned (cdV c) ∧ RdS w' b sv ws k false ∧ w.grownBy w' (some b) := by subst hr; exact h
theorem EndSC.err {w w' : World} {b k : Nat} {sv : Value} {ws : List ByteArray} {r : Except Nat (Cd × Nat)} {e : Ending} (h : EndSC w b sv ws r e w') (hr : r = .error k) : (∃ c, e = .returned (cdV c)) ∧ RdS w' b sv ws k true ∧ w.grownBy w' (some b) := by subst hr; exact h
theorem RdS.setb {w : World} {b : Nat} {sv : Value} {ws : List ByteArray} {k : Nat} {bad : Bool} (h : RdS w b sv ws k bad) (x : Bool) : RdS (w.setCell ⟨b, 2, none⟩ (.bool x)) b sv ws k x ∧ w.grownBy (w.setCell ⟨b, 2, none⟩ (.bool x)) (some b) :=
  ⟨h.next (grown_set w b 2 _) (by have := blk_set (i := 2) h.hb (.bool x); simpa using this) h.le, grown_set w b 2 _⟩
/-- cond, told in one. -/
theorem scond_one {b k : Nat} {sv : Value} {ws : List ByteArray} (w : World) (h : RdS w b sv ws k false) :
    Calls Tryd.prog 21 #[.pointer (some ⟨b, 0, none⟩)] w fun e w' => ∃ c k' bad, CdR ws k k' bad c ∧ e = .returned (.agg #[.string c.fld, .string c.op, .string c.wrd, .int .i64 c.n]) ∧ RdS w' b sv ws k' bad ∧ w.grownBy w' (some b) := by
  refine (scond_any w h).mono ?_
  intro e w' hE
  cases hr : rCond3 ws k with
  | ok ck =>
    obtain ⟨c, k'⟩ := ck
    obtain ⟨he, h1, h2⟩ := hE.ok hr
    exact ⟨c, k', false, .inl ⟨rfl, hr⟩, he, h1, h2⟩
  | error k' =>
    obtain ⟨⟨c, he⟩, h1, h2⟩ := hE.err hr
    exact ⟨c, k', true, .inr ⟨rfl, hr⟩, he, h1, h2⟩
end Go.Proofs.YthgmphmghnonbaaDoor
