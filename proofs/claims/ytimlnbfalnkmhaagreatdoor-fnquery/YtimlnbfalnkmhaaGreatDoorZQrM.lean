/-
  Right Queries: how they are written, and that what is written is read again. Of no function.
-/
import Derived.Test.YtimlnbfalnkmhaaGreatDoorZCdRow5
import Derived.Test.YtimlnbfalnkmhaaGreatDoorZFdM2
namespace Go.Proofs.YtimlnbfalnkmhaaGreatDoor
open Go.RowKit
set_option linter.unusedVariables false

abbrev noW : ByteArray := ⟨#[]⟩
def cdB (c : Cd) : Bool := if numF c.fld then numO c.op && (decide (c.wrd = noW) && (decide (0 ≤ c.n) && decide (c.n ≤ 1000000))) else wrdF c.fld && (wrdO c.op && (wrdR c.fld c.wrd && decide (c.n = 0)))
def byB (q : Qy) : Bool := if q.cnt then (decide (q.by' = noW) || isF q.by') && (decide (q.ord = noW) && (!q.dwn && decide (q.lim = -1))) else decide (q.by' = noW) && ((numF q.ord || (decide (q.ord = noW) && !q.dwn)) && (decide (-1 ≤ q.lim) && decide (q.lim ≤ 200)))
def qyB (q : Qy) : Bool := decide (q.cs.length ≤ 6) && (q.cs.all cdB && byB q)
/-- The words with which it is written. -/
def opnd (c : Cd) : ByteArray := if numF c.fld then decI c.n else c.wrd
def cdW (lead : ByteArray) (c : Cd) : List ByteArray := [lead, c.fld, c.op, opnd c]
def mrW (cs : List Cd) : List ByteArray := cs.flatMap (cdW qAnd)
def csW : List Cd → List ByteArray
  | [] => []
  | c :: r => cdW qWhere c ++ mrW r
def byW (q : Qy) : List ByteArray := if q.by' = noW then [] else [qBy, q.by']
def orW (q : Qy) : List ByteArray := if q.ord = noW then [] else [qOrder, q.ord]
def dwW (q : Qy) : List ByteArray := if q.dwn = true then [qDesc] else []
def liW (q : Qy) : List ByteArray := if q.lim = -1 then [] else [qLimit, decI q.lim]
def tlW (q : Qy) : List ByteArray := byW q ++ (orW q ++ (dwW q ++ liW q))
def qW (q : Qy) : List ByteArray := (if q.cnt = true then qCount else qFind) :: (csW q.cs ++ tlW q)
theorem nw_app (A B : List ByteArray) (i : Nat) : nw (A ++ B) (A.length + i) = nw B i := by
  unfold nw
  rw [List.getD_eq_getElem?_getD, List.getD_eq_getElem?_getD, List.getElem?_append_right (by omega)]
  congr 2; omega
theorem nw_app0 (A B : List ByteArray) : nw (A ++ B) A.length = nw B 0 := nw_app A B 0
theorem nw_c0 (x : ByteArray) (r : List ByteArray) : nw (x :: r) 0 = x := rfl
theorem nw_cs (x : ByteArray) (r : List ByteArray) (i : Nat) : nw (x :: r) (i + 1) = nw r i := rfl
theorem nw_nil (i : Nat) : nw [] i = noW := rfl
theorem rCond_at {c : Cd} (hc : cdB c = true) (A B : List ByteArray) : rCond (A ++ (c.fld :: c.op :: opnd c :: B)) A.length = .ok c := by
  unfold rCond
  rw [nw_app0, nw_app, nw_app, nw_c0, nw_cs, nw_cs, nw_cs, nw_c0, nw_c0]
  unfold cdB at hc
  obtain ⟨f, o, wd, n⟩ := c
  simp only at hc ⊢
  by_cases hf : numF f = true
  · rw [if_pos hf] at hc
    simp only [Bool.and_eq_true, decide_eq_true_eq] at hc
    obtain ⟨h1, rfl, h3, h4⟩ := hc
    have ho : opnd ⟨f, o, noW, n⟩ = decI n := by unfold opnd; rw [if_pos hf]
    have hnn := numN_dec h3 (by omega : n < 10000000)
    have hok : numOk (decI n) 1000000 = true := by unfold numOk; rw [hnn]; simp [h3, h4]
    rw [ho, if_pos (by unfold isF; rw [hf]; rfl), if_pos hf, if_pos h1, if_pos hok, hnn]
  · have hf' : numF f = false := by simpa using hf
    rw [if_neg hf] at hc
    simp only [Bool.and_eq_true, decide_eq_true_eq] at hc
    obtain ⟨h1, h2, h3, rfl⟩ := hc
    have ho : opnd ⟨f, o, wd, 0⟩ = wd := by unfold opnd; rw [if_neg hf]
    rw [ho, if_pos (by unfold isF; rw [h1]; simp), if_neg hf, if_pos h2, if_pos h3]
theorem rMore_at : ∀ (cs : List Cd) (m : Nat) (A B : List ByteArray) (acc : List Cd), cs.length ≤ m → (∀ c ∈ cs, cdB c = true) → (cs.length = m ∨ nw B 0 ≠ qAnd) → rMore (A ++ (mrW cs ++ B)) m A.length acc = .ok (acc ++ cs, A.length + 4 * cs.length)
  | [], 0, A, B, acc, _, _, _ => by simp [rMore]
  | [], m + 1, A, B, acc, _, _, h => by
    unfold rMore
    rcases h with h | h
    · simp at h
    · rw [nw_app0, if_neg (by simpa [mrW] using h)]; simp
  | c :: r, 0, A, B, acc, h, _, _ => by simp at h
  | c :: r, m + 1, A, B, acc, h, hc, hb => by
    unfold rMore
    have hl : mrW (c :: r) ++ B = qAnd :: (c.fld :: c.op :: opnd c :: (mrW r ++ B)) := by simp [mrW, cdW]
    have e1 : A ++ qAnd :: (c.fld :: c.op :: opnd c :: (mrW r ++ B)) = (A ++ [qAnd]) ++ (c.fld :: c.op :: opnd c :: (mrW r ++ B)) := by simp
    have e2 : A ++ qAnd :: (c.fld :: c.op :: opnd c :: (mrW r ++ B)) = (A ++ cdW qAnd c) ++ (mrW r ++ B) := by simp [cdW]
    have l1 : (A ++ [qAnd]).length = A.length + 1 := by simp
    have l2 : (A ++ cdW qAnd c).length = A.length + 4 := by simp [cdW]
    rw [hl, nw_app0, nw_c0, if_pos rfl]
    have hr := rCond_at (hc c (by simp)) (A ++ [qAnd]) (mrW r ++ B)
    rw [← e1, l1] at hr
    rw [hr]
    have ih := rMore_at r m (A ++ cdW qAnd c) B (acc ++ [c]) (by simpa using h) (fun x hx => hc x (List.mem_cons_of_mem _ hx)) (hb.imp (fun q => by simpa using q) id)
    rw [← e2, l2] at ih
    show rMore _ m (A.length + 4) (acc ++ [c]) = _
    rw [ih]
    simp; omega
theorem rConds_at (x : ByteArray) (cs : List Cd) (B : List ByteArray) (hl : cs.length ≤ 6) (hc : ∀ c ∈ cs, cdB c = true) (hB : nw B 0 ≠ qAnd ∧ nw B 0 ≠ qWhere) : rConds (x :: (csW cs ++ B)) 1 = .ok (cs, 1 + 4 * cs.length) := by
  unfold rConds
  cases cs with
  | nil => rw [nw_cs, csW, List.nil_append, if_neg hB.2]; rfl
  | cons c r =>
    have e0 : csW (c :: r) ++ B = qWhere :: (c.fld :: c.op :: opnd c :: (mrW r ++ B)) := by simp [csW, cdW]
    rw [e0, nw_cs, nw_c0, if_pos rfl]
    have hr := rCond_at (hc c (by simp)) [x, qWhere] (mrW r ++ B)
    rw [show [x, qWhere] ++ (c.fld :: c.op :: opnd c :: (mrW r ++ B)) = x :: qWhere :: (c.fld :: c.op :: opnd c :: (mrW r ++ B)) from rfl] at hr
    have hr2 : rCond (x :: qWhere :: (c.fld :: c.op :: opnd c :: (mrW r ++ B))) (1 + 1) = .ok c := hr
    rw [hr2]
    have ih := rMore_at r 5 [x, qWhere, c.fld, c.op, opnd c] B [c] (by simp at hl; omega) (fun y hy => hc y (List.mem_cons_of_mem _ hy)) (.inr hB.1)
    show rMore _ 5 (1 + 4) [c] = _
    have ih2 : rMore (x :: qWhere :: (c.fld :: c.op :: opnd c :: (mrW r ++ B))) 5 5 [c] = .ok ([c] ++ r, 5 + 4 * r.length) := ih
    rw [ih2]
    simp; omega
theorem csW_len (cs : List Cd) : (csW cs).length = 4 * cs.length := by
  have hm : ∀ l : List Cd, (mrW l).length = 4 * l.length := fun l => by
    unfold mrW
    induction l with
    | nil => rfl
    | cons c r ih => rw [List.flatMap_cons, List.length_append, ih]; simp [cdW]; omega
  cases cs with
  | nil => rfl
  | cons c r => rw [csW, List.length_append, hm]; simp [cdW]; omega
theorem numF_no : numF noW = false := by decide
theorem isF_no : isF noW = false := by decide
theorem li_0 (q : Qy) : nw (liW q) 0 = noW ∨ nw (liW q) 0 = qLimit := by
  unfold liW
  by_cases h : q.lim = -1
  · rw [if_pos h]; exact .inl rfl
  · rw [if_neg h]; exact .inr rfl
theorem rLim_at (q : Qy) (A : List ByteArray) (h1 : -1 ≤ q.lim) (h2 : q.lim ≤ 200) : rLim (A ++ liW q) A.length = .ok (q.lim, (A ++ liW q).length) := by
  unfold rLim
  rw [nw_app0, nw_app]
  unfold liW
  by_cases h : q.lim = -1
  · rw [if_pos h, nw_nil, if_neg (by decide), h]; simp
  · have hnn := numN_dec (show 0 ≤ q.lim by omega) (by omega)
    have hok : numOk (decI q.lim) 200 = true := by unfold numOk; rw [hnn]; simp; omega
    rw [if_neg h, nw_c0, nw_cs, nw_c0, if_pos rfl, if_pos hok, hnn]; simp
theorem rFnd_at (q : Qy) (A : List ByteArray) (hq : q.cnt = false) (h : byB q = true) : rFnd (A ++ tlW q) q.cs A.length = .ok q := by
  unfold byB at h
  rw [if_neg (by simp [hq])] at h
  simp only [Bool.and_eq_true, Bool.or_eq_true, Bool.not_eq_true', decide_eq_true_eq] at h
  obtain ⟨hb, ho, hl1, hl2⟩ := h
  have hby : byW q = [] := if_pos hb
  unfold tlW
  rw [hby, List.nil_append]
  unfold rFnd
  obtain ⟨cnt, cs, by', ord, dwn, lim⟩ := q
  simp only at hq hb ho hl1 hl2 ⊢
  subst hq; subst hb
  by_cases h0 : ord = noW
  · subst h0
    have hd : dwn = false := by
      rcases ho with h | h
      · rw [numF_no] at h; cases h
      · exact h.2
    subst hd
    have e1 : orW ⟨false, cs, noW, noW, false, lim⟩ = [] := if_pos rfl
    have e2 : dwW ⟨false, cs, noW, noW, false, lim⟩ = [] := rfl
    rw [e1, e2, List.nil_append, List.nil_append]
    have hR : rOrd (A ++ liW ⟨false, cs, noW, noW, false, lim⟩) A.length = .ok (noW, false, A.length) := by
      unfold rOrd
      rw [nw_app0]
      rcases li_0 ⟨false, cs, noW, noW, false, lim⟩ with h | h <;> rw [h, if_neg (by decide)]
    rw [hR]
    simp only
    rw [rLim_at _ A hl1 hl2]
    simp only [rEnd, if_true]
  · have hn : numF ord = true := by
      rcases ho with h | h
      · exact h
      · exact absurd h.1 h0
    have e1 : orW ⟨false, cs, noW, ord, dwn, lim⟩ = [qOrder, ord] := if_neg h0
    rw [e1]
    cases dwn with
    | true =>
      have e2 : dwW ⟨false, cs, noW, ord, true, lim⟩ = [qDesc] := rfl
      rw [e2]
      have hR : rOrd (A ++ ([qOrder, ord] ++ ([qDesc] ++ liW ⟨false, cs, noW, ord, true, lim⟩))) A.length = .ok (ord, true, A.length + 3) := by
        unfold rOrd
        rw [nw_app0, nw_app, nw_app]
        show (if qOrder = qOrder then if numF ord = true then Except.ok (ord, decide (qDesc = qDesc), if qDesc = qDesc then A.length + 3 else A.length + 2) else _ else _) = _
        rw [if_pos rfl, if_pos hn, if_pos rfl]; simp
      rw [hR]
      simp only
      have hL := rLim_at ⟨false, cs, noW, ord, true, lim⟩ (A ++ [qOrder, ord, qDesc]) hl1 hl2
      rw [show A ++ [qOrder, ord, qDesc] ++ liW ⟨false, cs, noW, ord, true, lim⟩ = A ++ ([qOrder, ord] ++ ([qDesc] ++ liW ⟨false, cs, noW, ord, true, lim⟩)) by simp, show (A ++ [qOrder, ord, qDesc]).length = A.length + 3 by simp] at hL
      rw [hL]
      simp only [rEnd, if_true]
    | false =>
      have e2 : dwW ⟨false, cs, noW, ord, false, lim⟩ = [] := rfl
      rw [e2, List.nil_append]
      have hR : rOrd (A ++ ([qOrder, ord] ++ liW ⟨false, cs, noW, ord, false, lim⟩)) A.length = .ok (ord, false, A.length + 2) := by
        unfold rOrd
        rw [nw_app0, nw_app, nw_app]
        show (if qOrder = qOrder then if numF ord = true then Except.ok (ord, decide (nw (liW ⟨false, cs, noW, ord, false, lim⟩) 0 = qDesc), if nw (liW ⟨false, cs, noW, ord, false, lim⟩) 0 = qDesc then A.length + 3 else A.length + 2) else _ else _) = _
        rw [if_pos rfl, if_pos hn]
        rcases li_0 ⟨false, cs, noW, ord, false, lim⟩ with h | h <;> (rw [h, if_neg (by decide)]; rfl)
      rw [hR]
      simp only
      have hL := rLim_at ⟨false, cs, noW, ord, false, lim⟩ (A ++ [qOrder, ord]) hl1 hl2
      rw [show A ++ [qOrder, ord] ++ liW ⟨false, cs, noW, ord, false, lim⟩ = A ++ ([qOrder, ord] ++ liW ⟨false, cs, noW, ord, false, lim⟩) by simp, show (A ++ [qOrder, ord]).length = A.length + 2 by simp] at hL
      rw [hL]
      simp only [rEnd, if_true]
theorem rCnt_at (q : Qy) (A : List ByteArray) (hq : q.cnt = true) (h : byB q = true) : rCnt (A ++ tlW q) q.cs A.length = .ok q := by
  unfold byB at h
  rw [if_pos hq] at h
  simp only [Bool.and_eq_true, Bool.or_eq_true, Bool.not_eq_true', decide_eq_true_eq] at h
  obtain ⟨hb, ho, hd, hl⟩ := h
  obtain ⟨cnt, cs, by', ord, dwn, lim⟩ := q
  simp only at hq hb ho hd hl ⊢
  subst hq; subst ho; subst hd; subst hl
  have e : tlW ⟨true, cs, by', noW, false, -1⟩ = byW ⟨true, cs, by', noW, false, -1⟩ := by
    unfold tlW
    rw [show orW ⟨true, cs, by', noW, false, -1⟩ = [] from if_pos rfl, show dwW ⟨true, cs, by', noW, false, -1⟩ = [] from rfl, show liW ⟨true, cs, by', noW, false, -1⟩ = [] from if_pos rfl]
    simp
  rw [e]
  unfold rCnt
  by_cases h0 : by' = noW
  · subst h0
    rw [show byW ⟨true, cs, noW, noW, false, -1⟩ = [] from if_pos rfl]
    have hR : rBy (A ++ []) A.length = .ok (noW, A.length) := by
      unfold rBy; rw [nw_app0, nw_nil, if_neg (by decide)]
    rw [hR]
    simp [rEnd]
  · have hf : isF by' = true := by
      rcases hb with h | h
      · exact absurd h h0
      · exact h
    rw [show byW ⟨true, cs, by', noW, false, -1⟩ = [qBy, by'] from if_neg h0]
    have hR : rBy (A ++ [qBy, by']) A.length = .ok (by', A.length + 2) := by
      unfold rBy; rw [nw_app0, nw_app, nw_c0, nw_cs, nw_c0, if_pos rfl, if_pos hf]
    rw [hR]
    simp [rEnd]
theorem tl_0 (q : Qy) (h : byB q = true) : nw (tlW q) 0 ≠ qAnd ∧ nw (tlW q) 0 ≠ qWhere := by
  have hx : nw (tlW q) 0 = noW ∨ nw (tlW q) 0 = qBy ∨ nw (tlW q) 0 = qOrder ∨ nw (tlW q) 0 = qDesc ∨ nw (tlW q) 0 = qLimit := by
    unfold tlW byW orW dwW
    by_cases a : q.by' = noW
    · rw [if_pos a, List.nil_append]
      by_cases b : q.ord = noW
      · rw [if_pos b, List.nil_append]
        by_cases c : q.dwn = true
        · rw [if_pos c]; exact .inr (.inr (.inr (.inl rfl)))
        · rw [if_neg c, List.nil_append]
          rcases li_0 q with h | h
          · exact .inl h
          · exact .inr (.inr (.inr (.inr h)))
      · rw [if_neg b]; exact .inr (.inr (.inl rfl))
    · rw [if_neg a]; exact .inr (.inl rfl)
  rcases hx with h | h | h | h | h <;> (rw [h]; decide)
/-- What is written is read again. -/
theorem rQ_at {q : Qy} (h : qyB q = true) : rQ (qW q) = .ok q := by
  unfold qyB at h
  simp only [Bool.and_eq_true, decide_eq_true_eq, List.all_eq_true] at h
  obtain ⟨h1, h2, h3⟩ := h
  have ht := tl_0 q h3
  unfold rQ qW
  cases hc : q.cnt with
  | true =>
    rw [if_pos rfl, nw_c0, if_pos rfl, rConds_at qCount q.cs (tlW q) h1 h2 ht]
    have := rCnt_at q (qCount :: csW q.cs) hc h3
    simp only [List.cons_append, List.length_cons, csW_len] at this
    simp only
    rw [show 1 + 4 * q.cs.length = 4 * q.cs.length + 1 by omega]
    exact this
  | false =>
    rw [if_neg (show ¬ (false = true) by decide), nw_c0, if_neg (show ¬ qFind = qCount by decide), if_pos rfl, rConds_at qFind q.cs (tlW q) h1 h2 ht]
    have := rFnd_at q (qFind :: csW q.cs) hc h3
    simp only [List.cons_append, List.length_cons, csW_len] at this
    simp only
    rw [show 1 + 4 * q.cs.length = 4 * q.cs.length + 1 by omega]
    exact this
end Go.Proofs.YtimlnbfalnkmhaaGreatDoor
