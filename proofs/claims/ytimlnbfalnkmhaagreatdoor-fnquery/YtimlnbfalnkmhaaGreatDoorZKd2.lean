/-
  Texts put together: Kd, QuM.
-/
import Derived.Test.YtimlnbfalnkmhaaGreatDoorZGen2
import Derived.Deep.RegionWith
import Derived.Test.YtimlnbfalnkmhaaGreatDoorZNm
/-
  The kinds' names: what impl.KindText answers, for every number: a contract over the seat's program, in a world in which impl.kindNames holds the six names.
-/
namespace Go.Proofs.YtimlnbfalnkmhaaGreatDoor
open Go.RowKit

/-- The six names. -/
def kStart : ByteArray := ⟨#[115, 116, 97, 114, 116]⟩
def kEnter : ByteArray := ⟨#[101, 110, 116, 101, 114]⟩
def kLeave : ByteArray := ⟨#[108, 101, 97, 118, 101]⟩
def kSet : ByteArray := ⟨#[115, 101, 116]⟩
def kFault : ByteArray := ⟨#[102, 97, 117, 108, 116]⟩
def kEnd : ByteArray := ⟨#[101, 110, 100]⟩
/-- The variable's six cells. -/
structure KNames (w : World) : Prop where
  c0 : w.cell? ⟨1, 0, none⟩ = some (.string kStart)
  c1 : w.cell? ⟨1, 1, none⟩ = some (.string kEnter)
  c2 : w.cell? ⟨1, 2, none⟩ = some (.string kLeave)
  c3 : w.cell? ⟨1, 3, none⟩ = some (.string kSet)
  c4 : w.cell? ⟨1, 4, none⟩ = some (.string kFault)
  c5 : w.cell? ⟨1, 5, none⟩ = some (.string kEnd)
theorem KNames.lt {w : World} (h : KNames w) : 1 < w.heap.size := by
  rcases Nat.lt_or_ge 1 w.heap.size with h' | h'
  · exact h'
  · have := h.c0
    simp [World.cell?, Array.getElem?_eq_none h'] at this
theorem KNames.below {w w' : World} {B : Nat} (h : KNames w) (hb : Below B w w') (hB : w.heap.size ≤ B) : KNames w' := by
  have hl := h.lt
  exact ⟨by rw [hb.cell (by show 1 < B; omega)]; exact h.c0, by rw [hb.cell (by show 1 < B; omega)]; exact h.c1, by rw [hb.cell (by show 1 < B; omega)]; exact h.c2,
    by rw [hb.cell (by show 1 < B; omega)]; exact h.c3, by rw [hb.cell (by show 1 < B; omega)]; exact h.c4, by rw [hb.cell (by show 1 < B; omega)]; exact h.c5⟩

def kdT (k : Int) : ByteArray := if k = 1 then kStart else if k = 2 then kEnter else if k = 3 then kLeave else if k = 4 then kSet else if k = 5 then kFault else if k = 6 then kEnd else ⟨#[]⟩
theorem kdT_out {k : Int} (h : k < 1 ∨ 6 < k) : kdT k = ⟨#[]⟩ := by
  unfold kdT
  rw [if_neg (by omega), if_neg (by omega), if_neg (by omega), if_neg (by omega), if_neg (by omega), if_neg (by omega)]
theorem kd_cases (k : Int) : k = 1 ∨ k = 2 ∨ k = 3 ∨ k = 4 ∨ k = 5 ∨ k = 6 ∨ k < 1 ∨ 6 < k := by omega

set_option maxRecDepth 100000 in
theorem implKindText_any (k : Int) (w : World) (h : KNames w) :
    Calls Tryz.prog 150 #[.int .i64 k] w fun e w' => e = .returned (.string (kdT k)) ∧ w' = w := by
  obtain ⟨c0, c1, c2, c3, c4, c5⟩ := h
  rcases kd_cases k with rfl | rfl | rfl | rfl | rfl | rfl | hk | hk
  · show Calls _ _ _ _ fun e w' => e = .returned (.string kStart) ∧ w' = w
    generalize kStart = S at *
    clear c1 c2 c3 c4 c5
    go_enter Tryz.func150, Tryz.ntmps150
    go_wp2
    go_ret
    exact ⟨rfl, rfl⟩
  · show Calls _ _ _ _ fun e w' => e = .returned (.string kEnter) ∧ w' = w
    generalize kEnter = S at *
    clear c0 c2 c3 c4 c5
    go_enter Tryz.func150, Tryz.ntmps150
    go_wp2
    go_ret
    exact ⟨rfl, rfl⟩
  · show Calls _ _ _ _ fun e w' => e = .returned (.string kLeave) ∧ w' = w
    generalize kLeave = S at *
    clear c0 c1 c3 c4 c5
    go_enter Tryz.func150, Tryz.ntmps150
    go_wp2
    go_ret
    exact ⟨rfl, rfl⟩
  · show Calls _ _ _ _ fun e w' => e = .returned (.string kSet) ∧ w' = w
    generalize kSet = S at *
    clear c0 c1 c2 c4 c5
    go_enter Tryz.func150, Tryz.ntmps150
    go_wp2
    go_ret
    exact ⟨rfl, rfl⟩
  · show Calls _ _ _ _ fun e w' => e = .returned (.string kFault) ∧ w' = w
    generalize kFault = S at *
    clear c0 c1 c2 c3 c5
    go_enter Tryz.func150, Tryz.ntmps150
    go_wp2
    go_ret
    exact ⟨rfl, rfl⟩
  · show Calls _ _ _ _ fun e w' => e = .returned (.string kEnd) ∧ w' = w
    generalize kEnd = S at *
    clear c0 c1 c2 c3 c4
    go_enter Tryz.func150, Tryz.ntmps150
    go_wp2
    go_ret
    exact ⟨rfl, rfl⟩
  · rw [kdT_out (.inl hk)]
    clear c0 c1 c2 c3 c4 c5
    go_enter Tryz.func150, Tryz.ntmps150
    go_wp2
    go_ret
    exact ⟨rfl, rfl⟩
  · rw [kdT_out (.inr hk)]
    clear c0 c1 c2 c3 c4 c5
    go_enter Tryz.func150, Tryz.ntmps150
    go_wp2
    go_ret
    exact ⟨rfl, rfl⟩

end Go.Proofs.YtimlnbfalnkmhaaGreatDoor

/-
  Queries: the words that they are written with, and what a reader makes of a list of words. Of no function.
-/
namespace Go.Proofs.YtimlnbfalnkmhaaGreatDoor
open Go.RowKit

def qSeq : ByteArray := ⟨#[115, 101, 113]⟩
def qTime : ByteArray := ⟨#[116, 105, 109, 101]⟩
def qRun : ByteArray := ⟨#[114, 117, 110]⟩
def qKind : ByteArray := ⟨#[107, 105, 110, 100]⟩
def qStep : ByteArray := ⟨#[115, 116, 101, 112]⟩
def qValue : ByteArray := ⟨#[118, 97, 108, 117, 101]⟩
def qCount : ByteArray := ⟨#[99, 111, 117, 110, 116]⟩
def qFind : ByteArray := ⟨#[102, 105, 110, 100]⟩
def qWhere : ByteArray := ⟨#[119, 104, 101, 114, 101]⟩
def qAnd : ByteArray := ⟨#[97, 110, 100]⟩
def qBy : ByteArray := ⟨#[98, 121]⟩
def qOrder : ByteArray := ⟨#[111, 114, 100, 101, 114]⟩
def qDesc : ByteArray := ⟨#[100, 101, 115, 99]⟩
def qLimit : ByteArray := ⟨#[108, 105, 109, 105, 116]⟩
def oEq : ByteArray := ⟨#[61]⟩
def oNe : ByteArray := ⟨#[33, 61]⟩
def oLt : ByteArray := ⟨#[60]⟩
def oLe : ByteArray := ⟨#[60, 61]⟩
def oGt : ByteArray := ⟨#[62]⟩
def oGe : ByteArray := ⟨#[62, 61]⟩
def nums : List ByteArray := [qSeq, qTime, qRun]
def wrds : List ByteArray := [qKind, qStep, qValue]
def nops : List ByteArray := [oEq, oNe, oLt, oLe, oGt, oGe]
def kinds : List ByteArray := [kStart, kEnter, kLeave, kSet, kFault, kEnd]
def numF (f : ByteArray) : Bool := decide (f = qSeq) || decide (f = qTime) || decide (f = qRun)
def wrdF (f : ByteArray) : Bool := decide (f = qKind) || decide (f = qStep) || decide (f = qValue)
def isF (f : ByteArray) : Bool := numF f || wrdF f
def numO (o : ByteArray) : Bool := decide (o = oEq) || decide (o = oNe) || decide (o = oLt) || decide (o = oLe) || decide (o = oGt) || decide (o = oGe)
def wrdO (o : ByteArray) : Bool := decide (o = oEq) || decide (o = oNe)
def isK (t : ByteArray) : Bool := decide (t = kStart) || decide (t = kEnter) || decide (t = kLeave) || decide (t = kSet) || decide (t = kFault) || decide (t = kEnd)
/-- May a word be asked of a field of words? -/
def wrdR (f t : ByteArray) : Bool := if f = qKind then isK t else nrB t

/-- The number of the first digits. -/
def pv (t : ByteArray) : Nat → Int
  | 0 => 0
  | i + 1 => if h : i < t.size then 10 * pv t i + ((t[i].toNat : Int) - 48) else 0
def digC (c : Int) : Bool := decide (48 ≤ c) && decide (c ≤ 57)
def digs (t : ByteArray) (k : Nat) : Prop := ∀ j, j < k → (h : j < t.size) → digC (t[j].toNat : Int) = true
/-- The number that a word writes, or -1. -/
def numN (t : ByteArray) : Int := if 1 ≤ t.size ∧ t.size ≤ 7 ∧ ∀ j, (h : j < t.size) → digC (t[j].toNat : Int) = true then pv t t.size else -1
theorem pv_succ (t : ByteArray) (i : Nat) (h : i < t.size) : pv t (i + 1) = 10 * pv t i + ((t[i].toNat : Int) - 48) := by rw [pv, dif_pos h]
theorem pv_bd (t : ByteArray) : ∀ k, k ≤ t.size → digs t k → 0 ≤ pv t k ∧ pv t k < 10 ^ k
  | 0, _, _ => by simp [pv]
  | k + 1, hk, hd => by
    have ih := pv_bd t k (by omega) (fun j hj h => hd j (by omega) h)
    have h1 := hd k (by omega) (by omega)
    simp only [digC, Bool.and_eq_true, decide_eq_true_eq] at h1
    rw [pv_succ t k (by omega), Int.pow_succ]
    omega
theorem digs_step {t : ByteArray} {k : Nat} (h : k < t.size) (hd : digs t k) (hc : digC (t[k].toNat : Int) = true) : digs t (k + 1) := by
  intro j hj h'
  by_cases e : j = k
  · subst e; exact hc
  · exact hd j (by omega) h'
theorem numN_yes {t : ByteArray} (h1 : 1 ≤ t.size) (h7 : t.size ≤ 7) (hd : digs t t.size) : numN t = pv t t.size := by
  unfold numN
  rw [if_pos ⟨h1, h7, fun j h => hd j h h⟩]
theorem numN_no {t : ByteArray} (h : ¬ (1 ≤ t.size ∧ t.size ≤ 7)) : numN t = -1 := by
  unfold numN
  rw [if_neg (fun e => h ⟨e.1, e.2.1⟩)]
theorem numN_at {t : ByteArray} {k : Nat} (h : k < t.size) (hc : digC (t[k].toNat : Int) = false) : numN t = -1 := by
  unfold numN
  rw [if_neg (fun e => by rw [e.2.2 k h] at hc; cases hc)]
theorem numN_lo (t : ByteArray) : -1 ≤ numN t ∧ numN t < 10000000 := by
  unfold numN
  split
  · rename_i h
    have hb := pv_bd t t.size (Nat.le_refl _) (fun j _ h' => h.2.2 j h')
    have hp : (10 : Nat) ^ t.size ≤ 10 ^ 7 := Nat.pow_le_pow_right (by decide) h.2.1
    have : (10 : Int) ^ t.size ≤ 10 ^ 7 := by exact_mod_cast hp
    omega
  · decide
/-- May a word write a number up to that? -/
def numOk (t : ByteArray) (most : Int) : Bool := decide (0 ≤ numN t) && decide (numN t ≤ most)

/-- A Cond. -/
structure Cd where
  fld : ByteArray
  op : ByteArray
  wrd : ByteArray
  n : Int
def Cd.cells (c : Cd) : List Value := [.string c.fld, .string c.op, .string c.wrd, .int .i64 c.n]
/-- A Query. -/
structure Qy where
  cnt : Bool
  cs : List Cd
  by' : ByteArray
  ord : ByteArray
  dwn : Bool
  lim : Int
/-- The word at a place; the empty one behind the last. -/
def nw (ws : List ByteArray) (at' : Nat) : ByteArray := ws.getD at' ⟨#[]⟩
theorem nw_in {ws : List ByteArray} {k : Nat} (h : k < ws.length) : nw ws k = ws[k] := by simp [nw, h]
theorem nw_out {ws : List ByteArray} {k : Nat} (h : ws.length ≤ k) : nw ws k = ⟨#[]⟩ := by simp [nw, h]
theorem nw_lt {ws : List ByteArray} {k : Nat} {t : ByteArray} (h : nw ws k = t) (ht : t ≠ ⟨#[]⟩) : k < ws.length := by
  rcases Nat.lt_or_ge k ws.length with h' | h'
  · exact h'
  · rw [nw_out h'] at h; exact absurd h.symm ht
theorem numF_lt {ws : List ByteArray} {k : Nat} (h : numF (nw ws k) = true) : k < ws.length := by
  refine nw_lt rfl fun e => ?_
  rw [e] at h; revert h; decide
theorem isF_lt {ws : List ByteArray} {k : Nat} (h : isF (nw ws k) = true) : k < ws.length := by
  refine nw_lt rfl fun e => ?_
  rw [e] at h; revert h; decide
theorem numO_lt {ws : List ByteArray} {k : Nat} (h : numO (nw ws k) = true) : k < ws.length := by
  refine nw_lt rfl fun e => ?_
  rw [e] at h; revert h; decide
theorem wrdO_lt {ws : List ByteArray} {k : Nat} (h : wrdO (nw ws k) = true) : k < ws.length := by
  refine nw_lt rfl fun e => ?_
  rw [e] at h; revert h; decide
theorem wrdR_lt {ws : List ByteArray} {f : ByteArray} {k : Nat} (h : wrdR f (nw ws k) = true) : k < ws.length := by
  refine nw_lt rfl fun e => ?_
  rw [e] at h
  unfold wrdR at h
  split at h
  · revert h; decide
  · rw [nr_no (by decide)] at h; cases h
theorem numOk_lt {ws : List ByteArray} {k : Nat} {m : Int} (h : numOk (nw ws k) m = true) : k < ws.length := by
  refine nw_lt rfl fun e => ?_
  rw [e] at h
  unfold numOk at h
  rw [numN_no (by decide)] at h; simp at h
/-- What stands where a reader reads a Cond, or the place of the word at which it may not go on. -/
def rCond (ws : List ByteArray) (k : Nat) : Except Nat Cd :=
  if isF (nw ws k) then
    if numF (nw ws k) then
      if numO (nw ws (k + 1)) then if numOk (nw ws (k + 2)) 1000000 then .ok ⟨nw ws k, nw ws (k + 1), ⟨#[]⟩, numN (nw ws (k + 2))⟩ else .error (k + 2) else .error (k + 1)
    else
      if wrdO (nw ws (k + 1)) then if wrdR (nw ws k) (nw ws (k + 2)) then .ok ⟨nw ws k, nw ws (k + 1), nw ws (k + 2), 0⟩ else .error (k + 2) else .error (k + 1)
  else .error k
theorem rCond_lt {ws : List ByteArray} {k : Nat} {c : Cd} (h : rCond ws k = .ok c) : k + 3 ≤ ws.length := by
  unfold rCond at h
  repeat' split at h
  all_goals first
    | (cases h; done)
    | (have := numOk_lt (by assumption); omega)
    | (have := wrdR_lt (by assumption); omega)
theorem rCond_err {ws : List ByteArray} {k e : Nat} (h : rCond ws k = .error e) (hk : k ≤ ws.length) : e ≤ ws.length := by
  unfold rCond at h
  repeat' split at h
  all_goals first
    | (cases h; done)
    | (cases h; omega)
    | (cases h; have := isF_lt (by assumption); omega)
    | (cases h; have := numO_lt (by assumption); omega)
    | (cases h; have := wrdO_lt (by assumption); omega)
/-- More Conds, so many at most. -/
def rMore (ws : List ByteArray) : Nat → Nat → List Cd → Except Nat (List Cd × Nat)
  | 0, k, acc => .ok (acc, k)
  | m + 1, k, acc => if nw ws k = qAnd then (match rCond ws (k + 1) with | .ok c => rMore ws m (k + 4) (acc ++ [c]) | .error e => .error e) else .ok (acc, k)
def rConds (ws : List ByteArray) (k : Nat) : Except Nat (List Cd × Nat) :=
  if nw ws k = qWhere then (match rCond ws (k + 1) with | .ok c => rMore ws 5 (k + 4) [c] | .error e => .error e) else .ok ([], k)
theorem rMore_lt {ws : List ByteArray} : ∀ (m k : Nat) (acc : List Cd) (r : List Cd × Nat), k ≤ ws.length → rMore ws m k acc = .ok r → r.2 ≤ ws.length
  | 0, k, acc, r, hk, h => by cases h; exact hk
  | m + 1, k, acc, r, hk, h => by
    unfold rMore at h
    split at h
    · cases hc : rCond ws (k + 1) with
      | ok c => rw [hc] at h; exact rMore_lt m _ _ r (by have := rCond_lt hc; omega) h
      | error e => rw [hc] at h; cases h
    · cases h; exact hk
theorem rConds_lt {ws : List ByteArray} {k : Nat} {r : List Cd × Nat} (hk : k ≤ ws.length) (h : rConds ws k = .ok r) : r.2 ≤ ws.length := by
  unfold rConds at h
  split at h
  · cases hc : rCond ws (k + 1) with
    | ok c => rw [hc] at h; exact rMore_lt _ _ _ r (by have := rCond_lt hc; omega) h
    | error e => rw [hc] at h; cases h
  · cases h; exact hk
/-- What stands behind the Conds of a count, of a find. -/
def rBy (ws : List ByteArray) (k : Nat) : Except Nat (ByteArray × Nat) := if nw ws k = qBy then if isF (nw ws (k + 1)) then .ok (nw ws (k + 1), k + 2) else .error (k + 1) else .ok (⟨#[]⟩, k)
def rOrd (ws : List ByteArray) (k : Nat) : Except Nat (ByteArray × Bool × Nat) :=
  if nw ws k = qOrder then if numF (nw ws (k + 1)) then .ok (nw ws (k + 1), decide (nw ws (k + 2) = qDesc), if nw ws (k + 2) = qDesc then k + 3 else k + 2) else .error (k + 1) else .ok (⟨#[]⟩, false, k)
def rLim (ws : List ByteArray) (k : Nat) : Except Nat (Int × Nat) := if nw ws k = qLimit then if numOk (nw ws (k + 1)) 200 then .ok (numN (nw ws (k + 1)), k + 2) else .error (k + 1) else .ok (-1, k)
def rEnd (ws : List ByteArray) (k : Nat) (q : Qy) : Except Nat Qy := if k = ws.length then .ok q else .error k
def rCnt (ws : List ByteArray) (cs : List Cd) (k : Nat) : Except Nat Qy := match rBy ws k with
  | .ok (b, k1) => rEnd ws k1 ⟨true, cs, b, ⟨#[]⟩, false, -1⟩
  | .error e => .error e
def rFnd (ws : List ByteArray) (cs : List Cd) (k : Nat) : Except Nat Qy := match rOrd ws k with
  | .ok (o, d, k1) => (match rLim ws k1 with
    | .ok (l, k2) => rEnd ws k2 ⟨false, cs, ⟨#[]⟩, o, d, l⟩
    | .error e => .error e)
  | .error e => .error e
/-- What a reader makes of a list of words. -/
def rQ (ws : List ByteArray) : Except Nat Qy :=
  if nw ws 0 = qCount then (match rConds ws 1 with | .ok (cs, k) => rCnt ws cs k | .error e => .error e)
  else if nw ws 0 = qFind then (match rConds ws 1 with | .ok (cs, k) => rFnd ws cs k | .error e => .error e)
  else .error 0
end Go.Proofs.YtimlnbfalnkmhaaGreatDoor
