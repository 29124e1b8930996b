/-
  Texts put together: QuM, QuI, QuK, QuN, RdSt, QoM.
-/
import Derived.Test.YthgmphmghnonbaaDoorZNm
import Derived.Test.YthgmphmghnonbaaDoorZKd
import Derived.Test.YthgmphmghnonbaaDoorZOwn
import Derived.Test.YthgmphmghnonbaaDoorZFd
/-
  Queries: the words that they are written with, and what a reader makes of a list of words. Of no function.
-/
namespace Go.Proofs.YthgmphmghnonbaaDoor
open Go.RowKit

def qSeq : ByteArray := ⟨#[115, 101, 113]⟩
def qTime : ByteArray := ⟨#[116, 105, 109, 101]⟩
def qRun : ByteArray := ⟨#[114, 117, 110]⟩
def qKind : ByteArray := ⟨#[107, 105, 110, 100]⟩
def qStep : ByteArray := ⟨#[115, 116, 101, 112]⟩
def qValue : ByteArray := ⟨#[118, 97, 108, 117, 101]⟩
def qCount : ByteArray := ⟨#[99, 111, 117, 110, 116]⟩
def qFind : ByteArray := ⟨#[102, 105, 110, 100]⟩
def qWhere : ByteArray := ⟨#[119, 104, 101, 114, 101]⟩
def qAnd : ByteArray := ⟨#[97, 110, 100]⟩
def qBy : ByteArray := ⟨#[98, 121]⟩
def qOrder : ByteArray := ⟨#[111, 114, 100, 101, 114]⟩
def qDesc : ByteArray := ⟨#[100, 101, 115, 99]⟩
def qLimit : ByteArray := ⟨#[108, 105, 109, 105, 116]⟩
def oEq : ByteArray := ⟨#[61]⟩
def oNe : ByteArray := ⟨#[33, 61]⟩
def oLt : ByteArray := ⟨#[60]⟩
def oLe : ByteArray := ⟨#[60, 61]⟩
def oGt : ByteArray := ⟨#[62]⟩
def oGe : ByteArray := ⟨#[62, 61]⟩
def nums : List ByteArray := [qSeq, qTime, qRun]
def wrds : List ByteArray := [qKind, qStep, qValue]
def nops : List ByteArray := [oEq, oNe, oLt, oLe, oGt, oGe]
def kinds : List ByteArray := [kStart, kEnter, kLeave, kSet, kFault, kEnd]
def numF (f : ByteArray) : Bool := decide (f = qSeq) || decide (f = qTime) || decide (f = qRun)
def wrdF (f : ByteArray) : Bool := decide (f = qKind) || decide (f = qStep) || decide (f = qValue)
def isF (f : ByteArray) : Bool := numF f || wrdF f
def numO (o : ByteArray) : Bool := decide (o = oEq) || decide (o = oNe) || decide (o = oLt) || decide (o = oLe) || decide (o = oGt) || decide (o = oGe)
def wrdO (o : ByteArray) : Bool := decide (o = oEq) || decide (o = oNe)
def isK (t : ByteArray) : Bool := decide (t = kStart) || decide (t = kEnter) || decide (t = kLeave) || decide (t = kSet) || decide (t = kFault) || decide (t = kEnd)
/-- May a word be asked of a field of words? -/
def wrdR (f t : ByteArray) : Bool := if f = qKind then isK t else nrB t

/-- The number of the first digits. -/
def pv (t : ByteArray) : Nat → Int
  | 0 => 0
  | i + 1 => if h : i < t.size then 10 * pv t i + ((t[i].toNat : Int) - 48) else 0
def digC (c : Int) : Bool := decide (48 ≤ c) && decide (c ≤ 57)
def digs (t : ByteArray) (k : Nat) : Prop := ∀ j, j < k → (h : j < t.size) → digC (t[j].toNat : Int) = true
/-- The number that a word writes, or -1. -/
def numN (t : ByteArray) : Int := if 1 ≤ t.size ∧ t.size ≤ 7 ∧ ∀ j, (h : j < t.size) → digC (t[j].toNat : Int) = true then pv t t.size else -1
theorem pv_succ (t : ByteArray) (i : Nat) (h : i < t.size) : pv t (i + 1) = 10 * pv t i + ((t[i].toNat : Int) - 48) := by rw [pv, dif_pos h]
theorem pv_bd (t : ByteArray) : ∀ k, k ≤ t.size → digs t k → 0 ≤ pv t k ∧ pv t k < 10 ^ k
  | 0, _, _ => by simp [pv]
  | k + 1, hk, hd => by
    have ih := pv_bd t k (by omega) (fun j hj h => hd j (by omega) h)
    have h1 := hd k (by omega) (by omega)
    simp only [digC, Bool.and_eq_true, decide_eq_true_eq] at h1
    rw [pv_succ t k (by omega), Int.pow_succ]
    omega
theorem digs_step {t : ByteArray} {k : Nat} (h : k < t.size) (hd : digs t k) (hc : digC (t[k].toNat : Int) = true) : digs t (k + 1) := by
  intro j hj h'
  by_cases e : j = k
  · subst e; exact hc
  · exact hd j (by omega) h'
theorem numN_yes {t : ByteArray} (h1 : 1 ≤ t.size) (h7 : t.size ≤ 7) (hd : digs t t.size) : numN t = pv t t.size := by
  unfold numN
  rw [if_pos ⟨h1, h7, fun j h => hd j h h⟩]
theorem numN_no {t : ByteArray} (h : ¬ (1 ≤ t.size ∧ t.size ≤ 7)) : numN t = -1 := by
  unfold numN
  rw [if_neg (fun e => h ⟨e.1, e.2.1⟩)]
theorem numN_at {t : ByteArray} {k : Nat} (h : k < t.size) (hc : digC (t[k].toNat : Int) = false) : numN t = -1 := by
  unfold numN
  rw [if_neg (fun e => by rw [e.2.2 k h] at hc; cases hc)]
theorem numN_lo (t : ByteArray) : -1 ≤ numN t ∧ numN t < 10000000 := by
  unfold numN
  split
  · rename_i h
    have hb := pv_bd t t.size (Nat.le_refl _) (fun j _ h' => h.2.2 j h')
    have hp : (10 : Nat) ^ t.size ≤ 10 ^ 7 := Nat.pow_le_pow_right (by decide) h.2.1
    have : (10 : Int) ^ t.size ≤ 10 ^ 7 := by exact_mod_cast hp
    omega
  · decide
/-- May a word write a number up to that? -/
def numOk (t : ByteArray) (most : Int) : Bool := decide (0 ≤ numN t) && decide (numN t ≤ most)

/-- A Cond. -/
structure Cd where
  fld : ByteArray
  op : ByteArray
  wrd : ByteArray
  n : Int
def Cd.cells (c : Cd) : List Value := [.string c.fld, .string c.op, .string c.wrd, .int .i64 c.n]
/-- A Query. -/
structure Qy where
  cnt : Bool
  cs : List Cd
  by' : ByteArray
  ord : ByteArray
  dwn : Bool
  lim : Int
/-- The word at a place; the empty one behind the last. -/
def nw (ws : List ByteArray) (at' : Nat) : ByteArray := ws.getD at' ⟨#[]⟩
theorem nw_in {ws : List ByteArray} {k : Nat} (h : k < ws.length) : nw ws k = ws[k] := by simp [nw, h]
theorem nw_out {ws : List ByteArray} {k : Nat} (h : ws.length ≤ k) : nw ws k = ⟨#[]⟩ := by simp [nw, h]
theorem nw_lt {ws : List ByteArray} {k : Nat} {t : ByteArray} (h : nw ws k = t) (ht : t ≠ ⟨#[]⟩) : k < ws.length := by
  rcases Nat.lt_or_ge k ws.length with h' | h'
  · exact h'
  · rw [nw_out h'] at h; exact absurd h.symm ht
theorem numF_lt {ws : List ByteArray} {k : Nat} (h : numF (nw ws k) = true) : k < ws.length := by
  refine nw_lt rfl fun e => ?_
  rw [e] at h; revert h; decide
theorem isF_lt {ws : List ByteArray} {k : Nat} (h : isF (nw ws k) = true) : k < ws.length := by
  refine nw_lt rfl fun e => ?_
  rw [e] at h; revert h; decide
theorem numO_lt {ws : List ByteArray} {k : Nat} (h : numO (nw ws k) = true) : k < ws.length := by
  refine nw_lt rfl fun e => ?_
  rw [e] at h; revert h; decide
theorem wrdO_lt {ws : List ByteArray} {k : Nat} (h : wrdO (nw ws k) = true) : k < ws.length := by
  refine nw_lt rfl fun e => ?_
  rw [e] at h; revert h; decide
theorem wrdR_lt {ws : List ByteArray} {f : ByteArray} {k : Nat} (h : wrdR f (nw ws k) = true) : k < ws.length := by
  refine nw_lt rfl fun e => ?_
  rw [e] at h
  unfold wrdR at h
  split at h
  · revert h; decide
  · rw [nr_no (by decide)] at h; cases h
theorem numOk_lt {ws : List ByteArray} {k : Nat} {m : Int} (h : numOk (nw ws k) m = true) : k < ws.length := by
  refine nw_lt rfl fun e => ?_
  rw [e] at h
  unfold numOk at h
  rw [numN_no (by decide)] at h; simp at h
/-- What stands where a reader reads a Cond, or the place of the word at which it may not go on. -/
def rCond (ws : List ByteArray) (k : Nat) : Except Nat Cd :=
  if isF (nw ws k) then
    if numF (nw ws k) then
      if numO (nw ws (k + 1)) then if numOk (nw ws (k + 2)) 1000000 then .ok ⟨nw ws k, nw ws (k + 1), ⟨#[]⟩, numN (nw ws (k + 2))⟩ else .error (k + 2) else .error (k + 1)
    else
      if wrdO (nw ws (k + 1)) then if wrdR (nw ws k) (nw ws (k + 2)) then .ok ⟨nw ws k, nw ws (k + 1), nw ws (k + 2), 0⟩ else .error (k + 2) else .error (k + 1)
  else .error k
theorem rCond_lt {ws : List ByteArray} {k : Nat} {c : Cd} (h : rCond ws k = .ok c) : k + 3 ≤ ws.length := by
  unfold rCond at h
  repeat' split at h
  all_goals first
    | (cases h; done)
    | (have := numOk_lt (by assumption); omega)
    | (have := wrdR_lt (by assumption); omega)
theorem rCond_err {ws : List ByteArray} {k e : Nat} (h : rCond ws k = .error e) (hk : k ≤ ws.length) : e ≤ ws.length := by
  unfold rCond at h
  repeat' split at h
  all_goals first
    | (cases h; done)
    | (cases h; omega)
    | (cases h; have := isF_lt (by assumption); omega)
    | (cases h; have := numO_lt (by assumption); omega)
    | (cases h; have := wrdO_lt (by assumption); omega)
/-- More Conds, so many at most. -/
def rMore (ws : List ByteArray) : Nat → Nat → List Cd → Except Nat (List Cd × Nat)
  | 0, k, acc => .ok (acc, k)
  | m + 1, k, acc => if nw ws k = qAnd then (match rCond ws (k + 1) with | .ok c => rMore ws m (k + 4) (acc ++ [c]) | .error e => .error e) else .ok (acc, k)
def rConds (ws : List ByteArray) (k : Nat) : Except Nat (List Cd × Nat) :=
  if nw ws k = qWhere then (match rCond ws (k + 1) with | .ok c => rMore ws 5 (k + 4) [c] | .error e => .error e) else .ok ([], k)
theorem rMore_lt {ws : List ByteArray} : ∀ (m k : Nat) (acc : List Cd) (r : List Cd × Nat), k ≤ ws.length → rMore ws m k acc = .ok r → r.2 ≤ ws.length
  | 0, k, acc, r, hk, h => by cases h; exact hk
  | m + 1, k, acc, r, hk, h => by
    unfold rMore at h
    split at h
    · cases hc : rCond ws (k + 1) with
      | ok c => rw [hc] at h; exact rMore_lt m _ _ r (by have := rCond_lt hc; omega) h
      | error e => rw [hc] at h; cases h
    · cases h; exact hk
theorem rConds_lt {ws : List ByteArray} {k : Nat} {r : List Cd × Nat} (hk : k ≤ ws.length) (h : rConds ws k = .ok r) : r.2 ≤ ws.length := by
  unfold rConds at h
  split at h
  · cases hc : rCond ws (k + 1) with
    | ok c => rw [hc] at h; exact rMore_lt _ _ _ r (by have := rCond_lt hc; omega) h
    | error e => rw [hc] at h; cases h
  · cases h; exact hk
/-- What stands behind the Conds of a count, of a find. -/
def rBy (ws : List ByteArray) (k : Nat) : Except Nat (ByteArray × Nat) := if nw ws k = qBy then if isF (nw ws (k + 1)) then .ok (nw ws (k + 1), k + 2) else .error (k + 1) else .ok (⟨#[]⟩, k)
def rOrd (ws : List ByteArray) (k : Nat) : Except Nat (ByteArray × Bool × Nat) :=
  if nw ws k = qOrder then if numF (nw ws (k + 1)) then .ok (nw ws (k + 1), decide (nw ws (k + 2) = qDesc), if nw ws (k + 2) = qDesc then k + 3 else k + 2) else .error (k + 1) else .ok (⟨#[]⟩, false, k)
def rLim (ws : List ByteArray) (k : Nat) : Except Nat (Int × Nat) := if nw ws k = qLimit then if numOk (nw ws (k + 1)) 200 then .ok (numN (nw ws (k + 1)), k + 2) else .error (k + 1) else .ok (-1, k)
def rEnd (ws : List ByteArray) (k : Nat) (q : Qy) : Except Nat Qy := if k = ws.length then .ok q else .error k
def rCnt (ws : List ByteArray) (cs : List Cd) (k : Nat) : Except Nat Qy := match rBy ws k with
  | .ok (b, k1) => rEnd ws k1 ⟨true, cs, b, ⟨#[]⟩, false, -1⟩
  | .error e => .error e
def rFnd (ws : List ByteArray) (cs : List Cd) (k : Nat) : Except Nat Qy := match rOrd ws k with
  | .ok (o, d, k1) => (match rLim ws k1 with
    | .ok (l, k2) => rEnd ws k2 ⟨false, cs, ⟨#[]⟩, o, d, l⟩
    | .error e => .error e)
  | .error e => .error e
/-- What a reader makes of a list of words. -/
def rQ (ws : List ByteArray) : Except Nat Qy :=
  if nw ws 0 = qCount then (match rConds ws 1 with | .ok (cs, k) => rCnt ws cs k | .error e => .error e)
  else if nw ws 0 = qFind then (match rConds ws 1 with | .ok (cs, k) => rFnd ws cs k | .error e => .error e)
  else .error 0
end Go.Proofs.YthgmphmghnonbaaDoor

/-
  Queries: what impl.isNumberField, isWordField, isField, isNumberOp, isWordOp answer: contracts over the seat's program.
-/
namespace Go.Proofs.YthgmphmghnonbaaDoor
open Go.RowKit

theorem lit_b (f : ByteArray) (l : List UInt8) (q : ByteArray) (hq : q = ⟨l.toArray⟩) : (f.toList == l) = decide (f = q) := by
  subst hq
  by_cases h : f = ⟨l.toArray⟩
  · subst h; simp [ByteArray.toList_eq]
  · rw [decide_eq_false h, beq_eq_false_iff_ne]
    intro e
    rw [ByteArray.toList_eq] at e
    exact h (ByteArray.ext (Array.toList_inj.1 e))
theorem str_eqs {S T : ByteArray} (h : S = T) : (S.toList == T.toList) = true := by subst h; simp
theorem isNumberField_any (f : ByteArray) (w : World) :
    Calls Tryd.prog 32 #[.string f] w fun e w' => e = .returned (.bool (numF f)) ∧ w' = w := by
  have e0 : (f.toList == [115, 101, 113]) = decide (f = qSeq) := lit_b f _ _ rfl
  have e1 : (f.toList == [116, 105, 109, 101]) = decide (f = qTime) := lit_b f _ _ rfl
  have e2 : (f.toList == [114, 117, 110]) = decide (f = qRun) := lit_b f _ _ rfl
  unfold numF
  generalize decide (f = qSeq) = b0 at *
  generalize decide (f = qTime) = b1 at *
  generalize decide (f = qRun) = b2 at *
  cases b0 with
  | true =>
    clear e1 e2
    go_enter Tryd.func32, Tryd.ntmps32
    go_wp2
    go_ret
    exact ⟨by simp, rfl⟩
  | false =>
    cases b1 with
    | true =>
      clear e2
      go_enter Tryd.func32, Tryd.ntmps32
      go_wp2
      go_ret
      exact ⟨by simp, rfl⟩
    | false =>
      cases b2 with
      | true =>
        go_enter Tryd.func32, Tryd.ntmps32
        go_wp2
        go_ret
        exact ⟨by simp, rfl⟩
      | false =>
        go_enter Tryd.func32, Tryd.ntmps32
        go_wp2
        go_ret
        exact ⟨by simp, rfl⟩
theorem isWordField_any (f : ByteArray) (w : World) :
    Calls Tryd.prog 45 #[.string f] w fun e w' => e = .returned (.bool (wrdF f)) ∧ w' = w := by
  have e0 : (f.toList == [107, 105, 110, 100]) = decide (f = qKind) := lit_b f _ _ rfl
  have e1 : (f.toList == [115, 116, 101, 112]) = decide (f = qStep) := lit_b f _ _ rfl
  have e2 : (f.toList == [118, 97, 108, 117, 101]) = decide (f = qValue) := lit_b f _ _ rfl
  unfold wrdF
  generalize decide (f = qKind) = b0 at *
  generalize decide (f = qStep) = b1 at *
  generalize decide (f = qValue) = b2 at *
  cases b0 with
  | true =>
    clear e1 e2
    go_enter Tryd.func45, Tryd.ntmps45
    go_wp2
    go_ret
    exact ⟨by simp, rfl⟩
  | false =>
    cases b1 with
    | true =>
      clear e2
      go_enter Tryd.func45, Tryd.ntmps45
      go_wp2
      go_ret
      exact ⟨by simp, rfl⟩
    | false =>
      cases b2 with
      | true =>
        go_enter Tryd.func45, Tryd.ntmps45
        go_wp2
        go_ret
        exact ⟨by simp, rfl⟩
      | false =>
        go_enter Tryd.func45, Tryd.ntmps45
        go_wp2
        go_ret
        exact ⟨by simp, rfl⟩
theorem isNumberOp_any (f : ByteArray) (w : World) :
    Calls Tryd.prog 52 #[.string f] w fun e w' => e = .returned (.bool (numO f)) ∧ w' = w := by
  have e0 : (f.toList == [61]) = decide (f = oEq) := lit_b f _ _ rfl
  have e1 : (f.toList == [33, 61]) = decide (f = oNe) := lit_b f _ _ rfl
  have e2 : (f.toList == [60]) = decide (f = oLt) := lit_b f _ _ rfl
  have e3 : (f.toList == [60, 61]) = decide (f = oLe) := lit_b f _ _ rfl
  have e4 : (f.toList == [62]) = decide (f = oGt) := lit_b f _ _ rfl
  have e5 : (f.toList == [62, 61]) = decide (f = oGe) := lit_b f _ _ rfl
  unfold numO
  generalize decide (f = oEq) = b0 at *
  generalize decide (f = oNe) = b1 at *
  generalize decide (f = oLt) = b2 at *
  generalize decide (f = oLe) = b3 at *
  generalize decide (f = oGt) = b4 at *
  generalize decide (f = oGe) = b5 at *
  cases b0 with
  | true =>
    clear e1 e2 e3 e4 e5
    go_enter Tryd.func52, Tryd.ntmps52
    go_wp2
    go_ret
    exact ⟨by simp, rfl⟩
  | false =>
    cases b1 with
    | true =>
      clear e2 e3 e4 e5
      go_enter Tryd.func52, Tryd.ntmps52
      go_wp2
      go_ret
      exact ⟨by simp, rfl⟩
    | false =>
      cases b2 with
      | true =>
        clear e3 e4 e5
        go_enter Tryd.func52, Tryd.ntmps52
        go_wp2
        go_ret
        exact ⟨by simp, rfl⟩
      | false =>
        cases b3 with
        | true =>
          clear e4 e5
          go_enter Tryd.func52, Tryd.ntmps52
          go_wp2
          go_ret
          exact ⟨by simp, rfl⟩
        | false =>
          cases b4 with
          | true =>
            clear e5
            go_enter Tryd.func52, Tryd.ntmps52
            go_wp2
            go_ret
            exact ⟨by simp, rfl⟩
          | false =>
            cases b5 with
            | true =>
              go_enter Tryd.func52, Tryd.ntmps52
              go_wp2
              go_ret
              exact ⟨by simp, rfl⟩
            | false =>
              go_enter Tryd.func52, Tryd.ntmps52
              go_wp2
              go_ret
              exact ⟨by simp, rfl⟩
theorem isWordOp_any (f : ByteArray) (w : World) :
    Calls Tryd.prog 53 #[.string f] w fun e w' => e = .returned (.bool (wrdO f)) ∧ w' = w := by
  have e0 : (f.toList == [61]) = decide (f = oEq) := lit_b f _ _ rfl
  have e1 : (f.toList == [33, 61]) = decide (f = oNe) := lit_b f _ _ rfl
  unfold wrdO
  generalize decide (f = oEq) = b0 at *
  generalize decide (f = oNe) = b1 at *
  cases b0 with
  | true =>
    clear e1
    go_enter Tryd.func53, Tryd.ntmps53
    go_wp2
    go_ret
    exact ⟨by simp, rfl⟩
  | false =>
    cases b1 with
    | true =>
      go_enter Tryd.func53, Tryd.ntmps53
      go_wp2
      go_ret
      exact ⟨by simp, rfl⟩
    | false =>
      go_enter Tryd.func53, Tryd.ntmps53
      go_wp2
      go_ret
      exact ⟨by simp, rfl⟩
theorem isField_any (f : ByteArray) (w : World) :
    Calls Tryd.prog 31 #[.string f] w fun e w' => e = .returned (.bool (isF f)) ∧ w' = w := by
  have c1 := fun w => isNumberField_any f w
  have c2 := fun w => isWordField_any f w
  unfold isF
  generalize numF f = b1 at *
  generalize wrdF f = b2 at *
  cases b1 <;> cases b2
  all_goals (
    go_enter Tryd.func31, Tryd.ntmps31
    go_wp2_with (first
      | (go_at_call 32; refine (c1 _).mono ?_; rintro e w1 ⟨rfl, rfl⟩)
      | (go_at_call 45; refine (c2 _).mono ?_; rintro e w1 ⟨rfl, rfl⟩))
    go_ret
    exact ⟨by simp, rfl⟩)
end Go.Proofs.YthgmphmghnonbaaDoor

/-
  Queries: what impl.kindNamed, isKindName, (wordCond).mayAsk, condOf answer: contracts over the seat's program.
-/
namespace Go.Proofs.YthgmphmghnonbaaDoor
open Go.RowKit

/-- The kind of that name, 0 of others. -/
def kNum (t : ByteArray) : Int := if kStart = t then 1 else if kEnter = t then 2 else if kLeave = t then 3 else if kSet = t then 4 else if kFault = t then 5 else if kEnd = t then 6 else 0
theorem kNum_is (t : ByteArray) : (kNum t != 0) = isK t := by
  unfold kNum isK
  repeat' split
  all_goals first
    | (subst_vars; decide)
    | simp_all [eq_comm]
theorem kdT_kinds : kdT 1 = kStart ∧ kdT 2 = kEnter ∧ kdT 3 = kLeave ∧ kdT 4 = kSet ∧ kdT 5 = kFault ∧ kdT 6 = kEnd := by decide
/-- Of none of the first k kinds it is the name. -/
def noK (t : ByteArray) (k : Nat) : Prop := ∀ j : Nat, 1 ≤ j → j ≤ k → kdT j ≠ t
theorem kNum_at {t : ByteArray} {k : Nat} (h1 : 1 ≤ k) (h6 : k ≤ 6) (h : kdT k = t) (hn : noK t (k - 1)) : kNum t = k := by
  have hh := kdT_kinds
  have n1 := hn 1
  have n2 := hn 2
  have n3 := hn 3
  have n4 := hn 4
  have n5 := hn 5
  obtain ⟨a1, a2, a3, a4, a5, a6⟩ := hh
  have : k = 1 ∨ k = 2 ∨ k = 3 ∨ k = 4 ∨ k = 5 ∨ k = 6 := by omega
  unfold kNum
  rcases this with rfl | rfl | rfl | rfl | rfl | rfl <;> simp_all
theorem kNum_none {t : ByteArray} (hn : noK t 6) : kNum t = 0 := by
  have hh := kdT_kinds
  have n1 := hn 1
  have n2 := hn 2
  have n3 := hn 3
  have n4 := hn 4
  have n5 := hn 5
  have n6 := hn 6
  obtain ⟨a1, a2, a3, a4, a5, a6⟩ := hh
  unfold kNum
  simp_all
set_option maxRecDepth 100000 in
theorem kindNamed_any (t : ByteArray) (w : World) (hK : KNames w) :
    Calls Tryd.prog 58 #[.string t] w fun e w' => e = .returned (.int .i64 (kNum t)) ∧ w' = w := by
  have HK := hid hK
  clear hK
  go_enter Tryd.func58, Tryd.ntmps58
  go_wp2
  go_loop [3] (fun i => ∃ k : Nat, i = .int .i64 ((k : Int) + 1) ∧ k ≤ 6 ∧ Hid (noK t k)) (fun i => 7 - (intOf i).toNat)
  case atStart => exact ⟨0, rfl, by omega, hid (fun j h1 h2 => by omega)⟩
  case round =>
    obtain ⟨k, rfl, hk, hn⟩ := hrel
    by_cases hlt : k < 6
    · have cK := fun w (h : Hid (KNames w)) => implKindText_any ((k : Int) + 1) w h.out
      have hle : ((k : Int) + 1 ≤ 6) := by omega
      by_cases he : kdT ((k : Int) + 1) = t
      · have hv : kNum t = (k : Int) + 1 := kNum_at (k := k + 1) (by omega) (by omega) (by push_cast; exact he) (by simpa using hn.out)
        have hq := str_eqs he
        generalize kdT ((k : Int) + 1) = S at *
        go_wp2_with (go_at_call 61; refine (cK _ HK).mono ?_; rintro e w1 ⟨rfl, rfl⟩)
        go_ret
        exact ⟨ret_int hv.symm, rfl⟩
      · have hq := str_ne he
        have hn' : Hid (noK t (k + 1)) := hid (fun j h1 h2 => by
          by_cases ej : j = k + 1
          · subst ej; exact_mod_cast he
          · exact hn.out j h1 (by omega))
        generalize kdT ((k : Int) + 1) = S at *
        go_wp2_with (go_at_call 61; refine (cK _ HK).mono ?_; rintro e w1 ⟨rfl, rfl⟩)
        go_round
        case rel => exact ⟨k + 1, by push_cast; rfl, by omega, hn'⟩
        case measure => simp [intOf]; omega
    · obtain rfl : k = 6 := by omega
      go_wp2
      go_ret
      exact ⟨ret_int (kNum_none hn.out).symm, rfl⟩
theorem isKindName_any (t : ByteArray) (w : World) (hK : KNames w) :
    Calls Tryd.prog 56 #[.string t] w fun e w' => e = .returned (.bool (isK t)) ∧ w' = w := by
  rw [← kNum_is]
  have c := kindNamed_any t w hK
  generalize kNum t = n at *
  go_enter Tryd.func56, Tryd.ntmps56
  go_wp2_with (go_at_call 58; refine c.mono ?_; rintro e w1 ⟨rfl, rfl⟩)
  go_ret
  exact ⟨rfl, rfl⟩
theorem mayAsk_any (f o v : ByteArray) (n : Int) (t : ByteArray) (w : World) (hK : KNames w) (hs : t.size ≤ maxLen) :
    Calls Tryd.prog 54 #[.agg #[.string f, .string o, .string v, .int .i64 n], .string t] w fun e w' => e = .returned (.bool (wrdR f t)) ∧ Below w.heap.size w w' := by
  have e0 : (f.toList == [107, 105, 110, 100]) = decide (f = qKind) := lit_b f _ _ rfl
  have cK : ∀ W, Below w.heap.size w W → Calls Tryd.prog 56 #[.string t] W fun e w' => e = .returned (.bool (isK t)) ∧ w' = W := fun W hb => isKindName_any t W (hK.below hb (Nat.le_refl _))
  have cN : ∀ W, Calls Tryd.prog 57 #[.string t] W fun e w' => e = .returned (.bool (nrB t)) ∧ w' = W := fun W => implNameRight_any t W hs
  clear hK hs
  unfold wrdR
  by_cases h : f = qKind
  · rw [decide_eq_true h] at e0
    rw [if_pos h]
    clear cN h
    generalize isK t = b at *
    go_enter Tryd.func54, Tryd.ntmps54
    go_wp2_with (go_at_call 56; refine (cK _ ((Below.refl _ _).alloc (Nat.le_refl _) _)).mono ?_; rintro e w1 ⟨rfl, rfl⟩)
    go_ret
    exact ⟨rfl, (Below.refl _ _).alloc (Nat.le_refl _) _⟩
  · rw [decide_eq_false h] at e0
    rw [if_neg h]
    clear cK h
    generalize nrB t = b at *
    go_enter Tryd.func54, Tryd.ntmps54
    go_wp2_with (go_at_call 57; refine (cN _).mono ?_; rintro e w1 ⟨rfl, rfl⟩)
    go_ret
    exact ⟨rfl, (Below.refl _ _).alloc (Nat.le_refl _) _⟩
theorem condOf_any (f : ByteArray) (w : World) :
    Calls Tryd.prog 51 #[.agg #[.string f, .string ⟨#[]⟩, .string ⟨#[]⟩, .int .i64 0]] w fun e w' => e = .returned (.iface (if numF f then 72 else 73) (.agg #[.string f, .string ⟨#[]⟩, .string ⟨#[]⟩, .int .i64 0])) ∧ Below w.heap.size w w' := by
  have c1 := fun w => isNumberField_any f w
  generalize numF f = b at *
  cases b
  all_goals (
    go_enter Tryd.func51, Tryd.ntmps51
    go_wp2_with (go_at_call 32; refine (c1 _).mono ?_; rintro e w1 ⟨rfl, rfl⟩)
    go_ret
    exact ⟨rfl, (Below.refl _ _).alloc (Nat.le_refl _) _⟩)
end Go.Proofs.YthgmphmghnonbaaDoor

/-
  Queries: the number that a word writes, as impl.numberIn answers it: a contract over the seat's program.
-/
namespace Go.Proofs.YthgmphmghnonbaaDoor
open Go.RowKit

set_option maxHeartbeats 1000000 in
theorem numberIn_any (t : ByteArray) (w : World) :
    Calls Tryd.prog 46 #[.string t] w fun e w' => e = .returned (.int .i64 (numN t)) ∧ w' = w := by
  by_cases h1 : 1 ≤ t.size
  · by_cases h7 : t.size ≤ 7
    · have z1 : ¬ ((t.size : Int) < 1) := by omega
      have z2 : ¬ (7 < (t.size : Int)) := by omega
      go_enter Tryd.func46, Tryd.ntmps46
      go_wp2
      go_loop [3, 4] (fun n i => ∃ k : Nat, i = .int .i64 (k : Int) ∧ k ≤ t.size ∧ Hid (digs t k) ∧ n = .int .i64 (pv t k)) (fun _ i => t.size - (intOf i).toNat)
      case atStart => exact ⟨0, rfl, Nat.zero_le _, hid (fun j hj => by omega), rfl⟩
      case round =>
        obtain ⟨k, rfl, hk, hd, rfl⟩ := hrel
        by_cases hlt : k < t.size
        · have zk : (k : Int) < (t.size : Int) := by omega
          have bd := pv_bd t k hk hd.out
          have b7 : pv t k < 10000000 := by
            have hp : (10 : Nat) ^ k ≤ 10 ^ 7 := Nat.pow_le_pow_right (by decide) (by omega)
            have : (10 : Int) ^ k ≤ 10 ^ 7 := by exact_mod_cast hp
            omega
          have hps := pv_succ t k hlt
          have hst := fun h => digs_step hlt hd.out h
          have hat := fun h => numN_at hlt h
          have hu := t[k].toNat_lt
          have b0 := bd.1
          clear bd
          generalize hN : pv t (k + 1) = N at *
          generalize pv t k = M at *
          by_cases hc : digC (t[k].toNat : Int) = true
          · have hc' := hc
            simp only [digC, Bool.and_eq_true, decide_eq_true_eq] at hc'
            have q1 : ¬ ((t[k].toNat : Int) < 48) := by omega
            have q2 : ¬ (57 < (t[k].toNat : Int)) := by omega
            go_wp2
            go_round
            case rel => exact ⟨k + 1, by push_cast; rfl, by omega, hid (hst hc), by rw [hN, hps]⟩
            case measure => simp [intOf]; omega
          · have hcf : digC (t[k].toNat : Int) = false := by simpa using hc
            have hv := hat hcf
            by_cases q1 : (t[k].toNat : Int) < 48
            · go_wp2
              go_ret
              exact ⟨rfl, rfl⟩
            · have q2 : 57 < (t[k].toNat : Int) := by
                simp only [digC, Bool.and_eq_false_iff, decide_eq_false_iff_not] at hcf
                omega
              go_wp2
              go_ret
              exact ⟨rfl, rfl⟩
        · obtain rfl : k = t.size := by omega
          go_wp2
          go_ret
          exact ⟨ret_int (numN_yes h1 h7 hd.out).symm, rfl⟩
    · rw [numN_no (fun e => h7 e.2)]
      have z1 : ¬ ((t.size : Int) < 1) := by omega
      have z2 : 7 < (t.size : Int) := by omega
      go_enter Tryd.func46, Tryd.ntmps46
      go_wp2
      go_ret
      exact ⟨rfl, rfl⟩
  · rw [numN_no (fun e => h1 e.1)]
    have z1 : (t.size : Int) < 1 := by omega
    go_enter Tryd.func46, Tryd.ntmps46
    go_wp2
    go_ret
    exact ⟨rfl, rfl⟩
end Go.Proofs.YthgmphmghnonbaaDoor

/-
  Queries: impl.reader in memory: its words, its place; and what it panics with. Of no function.
-/
namespace Go.Proofs.YthgmphmghnonbaaDoor
open Go.RowKit

/-- Words in memory, in none of block b. -/
def WdAt (w : World) (b : Nat) (sv : Value) (ws : List ByteArray) : Prop :=
  ∃ a c, sv = .slice a ws.length c ∧ ∀ i, (h : i < ws.length) → ∃ g o, a = some ⟨g, o, none⟩ ∧ g ≠ b ∧ g < w.heap.size ∧ w.cell? ⟨g, o + i, none⟩ = some (.string ws[i])
theorem cell_blk {w w' : World} {g : Nat} (h : w'.heap[g]? = w.heap[g]?) (o : Nat) : w'.cell? ⟨g, o, none⟩ = w.cell? ⟨g, o, none⟩ := by
  unfold World.cell?
  rw [h]
theorem WdAt.grown {w w' : World} {b : Nat} {sv : Value} {ws : List ByteArray} (h : WdAt w b sv ws) (hg : w.grownBy w' (some b)) : WdAt w' b sv ws := by
  obtain ⟨a, c, hv, hc⟩ := h
  refine ⟨a, c, hv, fun i hi => ?_⟩
  obtain ⟨g, o, ha, hne, hlt, hx⟩ := hc i hi
  exact ⟨g, o, ha, hne, Nat.lt_of_lt_of_le hlt hg.size, (cell_blk (hg.block g hlt (fun e => hne (Option.some.inj e))) _).trans hx⟩
end Go.Proofs.YthgmphmghnonbaaDoor

/-
  Queries: what QueryRead answers of a text. Of no function.
-/
namespace Go.Proofs.YthgmphmghnonbaaDoor
open Go.RowKit

def qZ : Qy := ⟨false, [], ⟨#[]⟩, ⟨#[]⟩, false, 0⟩
/-- The query, the place, the code. -/
noncomputable def qoS (s : ByteArray) : Qy × Int × Int := if 8000 < s.size then (qZ, 0, 2) else match rQ (wsOf s) with
  | .ok q => (q, 0, 0)
  | .error k => (qZ, (k : Int), 3)
abbrev qoV (r : Qy × Int × Int) (v : Value) : Value := .agg #[.bool r.1.cnt, v, .string r.1.by', .string r.1.ord, .bool r.1.dwn, .int .i64 r.1.lim, .int .i64 r.2.1, .int .i64 r.2.2]
theorem qoS_long {s : ByteArray} (h : 8000 < s.size) : qoS s = (qZ, 0, 2) := if_pos h
theorem qoS_ok {s : ByteArray} {q : Qy} (h : ¬ 8000 < s.size) (hq : rQ (wsOf s) = .ok q) : qoS s = (q, 0, 0) := by
  unfold qoS
  rw [if_neg h, hq]
theorem qoS_err {s : ByteArray} {k : Nat} (h : ¬ 8000 < s.size) (hq : rQ (wsOf s) = .error k) : qoS s = (qZ, (k : Int), 3) := by
  unfold qoS
  rw [if_neg h, hq]
end Go.Proofs.YthgmphmghnonbaaDoor
