/-
  Queries: how (*impl.reader).query ends; must at false: over the seat's program.
-/
import Derived.Test.YthgmphmghnonbaaDoorZQuD
import Derived.Test.YthgmphmghnonbaaDoorZStrs
import Derived.RegionDies
namespace Go.Proofs.YthgmphmghnonbaaDoor
open Go.RowKit

/-- How query ends. -/
def EndQ (w : World) (b : Nat) (sv : Value) (ws : List ByteArray) (a : Addr) (r : Except Nat Qy) (e : Ending) (w' : World) : Prop := match r with
  | .ok q => (∃ v, e = .returned (.agg #[.bool q.cnt, v, .string q.by', .string q.ord, .bool q.dwn, .int .i64 q.lim]) ∧ w'.ownsRow w.heap.size 45 4 v q.cs.length (q.cs.flatMap Cd.cells)) ∧ (∃ k, RdI w' b sv ws k a) ∧ w.grownBy w' (some b)
  | .error k => e = .panicked [{ v := errQ a, recovered := false }] ∧ RdI w' b sv ws k a ∧ w.grownBy w' (some b)
theorem EndC.ok {w w' : World} {b k : Nat} {sv : Value} {ws : List ByteArray} {a : Addr} {r : Except Nat (List Cd × Nat)} {cs : List Cd} {e : Ending} (h : EndC w b sv ws a r e w') (hr : r = .ok (cs, k)) : (∃ v, e = .returned v ∧ w'.ownsRow w.heap.size 45 4 v cs.length (cs.flatMap Cd.cells)) ∧ RdI w' b sv ws k a ∧ w.grownBy w' (some b) := by subst hr; exact h
theorem EndC.err {w w' : World} {b k : Nat} {sv : Value} {ws : List ByteArray} {a : Addr} {r : Except Nat (List Cd × Nat)} {e : Ending} (h : EndC w b sv ws a r e w') (hr : r = .error k) : e = .panicked [{ v := errQ a, recovered := false }] ∧ RdI w' b sv ws k a ∧ w.grownBy w' (some b) := by subst hr; exact h
theorem must_noB {a : Addr} (b : Nat) (w : World) (c : Bool) (hc : c = false) (h : w.cell? ⟨0, 0, none⟩ = some (errQ a)) :
    Calls Tryd.prog 28 #[.pointer (some ⟨b, 0, none⟩), .bool c] w fun e w' => e = .panicked [{ v := errQ a, recovered := false }] ∧ w' = w := by subst hc; exact must_no b w h
end Go.Proofs.YthgmphmghnonbaaDoor
