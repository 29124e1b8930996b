/-
  The kinds' names: what impl.KindText answers, for every number: a contract over the seat's program, in a world in which impl.kindNames holds the six names.
-/
import Derived.Test.YthgmphmghnonbaaDoorZGen
import Derived.Deep.RegionWith
namespace Go.Proofs.YthgmphmghnonbaaDoor
open Go.RowKit

/-- The six names. -/
def kStart : ByteArray := ⟨#[115, 116, 97, 114, 116]⟩
def kEnter : ByteArray := ⟨#[101, 110, 116, 101, 114]⟩
def kLeave : ByteArray := ⟨#[108, 101, 97, 118, 101]⟩
def kSet : ByteArray := ⟨#[115, 101, 116]⟩
def kFault : ByteArray := ⟨#[102, 97, 117, 108, 116]⟩
def kEnd : ByteArray := ⟨#[101, 110, 100]⟩
/-- The variable's six cells. -/
structure KNames (w : World) : Prop where
  c0 : w.cell? ⟨1, 0, none⟩ = some (.string kStart)
  c1 : w.cell? ⟨1, 1, none⟩ = some (.string kEnter)
  c2 : w.cell? ⟨1, 2, none⟩ = some (.string kLeave)
  c3 : w.cell? ⟨1, 3, none⟩ = some (.string kSet)
  c4 : w.cell? ⟨1, 4, none⟩ = some (.string kFault)
  c5 : w.cell? ⟨1, 5, none⟩ = some (.string kEnd)
theorem KNames.lt {w : World} (h : KNames w) : 1 < w.heap.size := by
  rcases Nat.lt_or_ge 1 w.heap.size with h' | h'
  · exact h'
  · have := h.c0
    simp [World.cell?, Array.getElem?_eq_none h'] at this
theorem KNames.below {w w' : World} {B : Nat} (h : KNames w) (hb : Below B w w') (hB : w.heap.size ≤ B) : KNames w' := by
  have hl := h.lt
  exact ⟨by rw [hb.cell (by show 1 < B; omega)]; exact h.c0, by rw [hb.cell (by show 1 < B; omega)]; exact h.c1, by rw [hb.cell (by show 1 < B; omega)]; exact h.c2,
    by rw [hb.cell (by show 1 < B; omega)]; exact h.c3, by rw [hb.cell (by show 1 < B; omega)]; exact h.c4, by rw [hb.cell (by show 1 < B; omega)]; exact h.c5⟩

def kdT (k : Int) : ByteArray := if k = 1 then kStart else if k = 2 then kEnter else if k = 3 then kLeave else if k = 4 then kSet else if k = 5 then kFault else if k = 6 then kEnd else ⟨#[]⟩
theorem kdT_out {k : Int} (h : k < 1 ∨ 6 < k) : kdT k = ⟨#[]⟩ := by
  unfold kdT
  rw [if_neg (by omega), if_neg (by omega), if_neg (by omega), if_neg (by omega), if_neg (by omega), if_neg (by omega)]
theorem kd_cases (k : Int) : k = 1 ∨ k = 2 ∨ k = 3 ∨ k = 4 ∨ k = 5 ∨ k = 6 ∨ k < 1 ∨ 6 < k := by omega

set_option maxRecDepth 100000 in
theorem implKindText_any (k : Int) (w : World) (h : KNames w) :
    Calls Tryd.prog 61 #[.int .i64 k] w fun e w' => e = .returned (.string (kdT k)) ∧ w' = w := by
  obtain ⟨c0, c1, c2, c3, c4, c5⟩ := h
  rcases kd_cases k with rfl | rfl | rfl | rfl | rfl | rfl | hk | hk
  · show Calls _ _ _ _ fun e w' => e = .returned (.string kStart) ∧ w' = w
    generalize kStart = S at *
    clear c1 c2 c3 c4 c5
    go_enter Tryd.func61, Tryd.ntmps61
    go_wp2
    go_ret
    exact ⟨rfl, rfl⟩
  · show Calls _ _ _ _ fun e w' => e = .returned (.string kEnter) ∧ w' = w
    generalize kEnter = S at *
    clear c0 c2 c3 c4 c5
    go_enter Tryd.func61, Tryd.ntmps61
    go_wp2
    go_ret
    exact ⟨rfl, rfl⟩
  · show Calls _ _ _ _ fun e w' => e = .returned (.string kLeave) ∧ w' = w
    generalize kLeave = S at *
    clear c0 c1 c3 c4 c5
    go_enter Tryd.func61, Tryd.ntmps61
    go_wp2
    go_ret
    exact ⟨rfl, rfl⟩
  · show Calls _ _ _ _ fun e w' => e = .returned (.string kSet) ∧ w' = w
    generalize kSet = S at *
    clear c0 c1 c2 c4 c5
    go_enter Tryd.func61, Tryd.ntmps61
    go_wp2
    go_ret
    exact ⟨rfl, rfl⟩
  · show Calls _ _ _ _ fun e w' => e = .returned (.string kFault) ∧ w' = w
    generalize kFault = S at *
    clear c0 c1 c2 c3 c5
    go_enter Tryd.func61, Tryd.ntmps61
    go_wp2
    go_ret
    exact ⟨rfl, rfl⟩
  · show Calls _ _ _ _ fun e w' => e = .returned (.string kEnd) ∧ w' = w
    generalize kEnd = S at *
    clear c0 c1 c2 c3 c4
    go_enter Tryd.func61, Tryd.ntmps61
    go_wp2
    go_ret
    exact ⟨rfl, rfl⟩
  · rw [kdT_out (.inl hk)]
    clear c0 c1 c2 c3 c4 c5
    go_enter Tryd.func61, Tryd.ntmps61
    go_wp2
    go_ret
    exact ⟨rfl, rfl⟩
  · rw [kdT_out (.inr hk)]
    clear c0 c1 c2 c3 c4 c5
    go_enter Tryd.func61, Tryd.ntmps61
    go_wp2
    go_ret
    exact ⟨rfl, rfl⟩

end Go.Proofs.YthgmphmghnonbaaDoor
