/-
  Texts put together: StLw, LwT, LwS.
-/
import Derived.Test.YtdggmeblnbabbaaGreatDoorZStNx3
import Derived.Test.YtdggmeblnbabbaaGreatDoorZImMap5
import Derived.Test.YtdggmeblnbabbaaGreatDoorZDfMath5
import Derived.Test.YtdggmeblnbabbaaGreatDoorZBsIn6
import Derived.Lib.QuietBelow
import Derived.Test.YtdggmeblnbabbaaGreatDoorZEvI3
/-
  The law FnState: its mathematics, and what stands in its boxes. Of no function.
-/
namespace Go.Proofs.YtdggmeblnbabbaaGreatDoor
open Go.RowKit Go.Sort
set_option linter.unusedVariables false

/-- How many flows go from a step. -/
def flN (s : ByteArray) (fs : List Pr) : Nat := fs.countP (fun f => decide (f.fst = s))
theorem flN_take {s : ByteArray} {fs : List Pr} {k : Nat} (h : k < fs.length) : flN s (fs.take (k + 1)) = flN s (fs.take k) + if fs[k].fst = s then 1 else 0 := by
  unfold flN
  rw [List.take_succ_eq_append_getElem h, List.countP_append]
  by_cases e : fs[k].fst = s <;> simp [e]
theorem putF_cnt (s : ByteArray) : ∀ (fs : List Pr) (l : List ByteArray), (putF s fs l).length = l.length + flN s fs
  | [], l => by simp [putF, flN]
  | f :: r, l => by
    rw [putF, putF_cnt s r]
    by_cases e : f.fst = s
    · rw [if_pos e, put_len]; simp [flN, e]; omega
    · rw [if_neg e]; simp [flN, e]
/-- What the law asks of an event that may happen. -/
theorem stepS_law {ss : List ByteArray} {fs : List Pr} {S : St} {e : Ev} (h0 : (stepS ss fs S e).1 = 0) :
    (stepS ss fs S e).2.last = e.time ∧ (e.kind = 2 → (stepS ss fs S e).2.wait.length + (stepS ss fs S e).2.busy.length = S.wait.length + S.busy.length) ∧ (e.kind = 3 → (stepS ss fs S e).2.wait.length + (stepS ss fs S e).2.busy.length + 1 = S.wait.length + S.busy.length + flN e.step fs) ∧ (e.kind = 4 → (stepS ss fs S e).2.wait.length + (stepS ss fs S e).2.busy.length = S.wait.length + S.busy.length) := by
  unfold stepS at h0 ⊢
  by_cases ha : awB S.status e.kind = true
  · rw [if_pos ha] at h0 ⊢
    by_cases hl : e.time < S.last
    · rw [if_pos hl] at h0; exact absurd h0 (by decide)
    · rw [if_neg hl] at h0 ⊢
      unfold doS at h0 ⊢
      by_cases k1 : e.kind = 1
      · rw [if_pos k1]
        exact ⟨rfl, fun h => by omega, fun h => by omega, fun h => by omega⟩
      · rw [if_neg k1] at h0 ⊢
        by_cases k2 : e.kind = 2
        · rw [if_pos k2] at h0 ⊢
          by_cases hm : atI S.wait e.step < 0
          · rw [if_pos hm] at h0; exact absurd h0 (by decide)
          · rw [if_neg hm]
            have q1 := (at_lt hm).1
            refine ⟨rfl, fun _ => ?_, fun h => by omega, fun h => by omega⟩
            show (outT _ _).length + (putT _ _).length = _
            rw [out_len q1, put_len]; omega
        · rw [if_neg k2] at h0 ⊢
          by_cases k3 : e.kind = 3
          · rw [if_pos k3] at h0 ⊢
            by_cases hm : atI S.busy e.step < 0
            · rw [if_pos hm] at h0; exact absurd h0 (by decide)
            · rw [if_neg hm] at h0 ⊢
              by_cases hf : 40 < (putF e.step fs S.wait).length + (outT S.busy (atI S.busy e.step).toNat).length
              · rw [if_pos hf] at h0; exact absurd h0 (by decide)
              · rw [if_neg hf]
                have q1 := (at_lt hm).1
                refine ⟨rfl, fun h => by omega, fun _ => ?_, fun h => by omega⟩
                show (putF _ _ _).length + (outT _ _).length + 1 = _
                rw [out_len q1, putF_cnt]; omega
          · rw [if_neg k3] at h0 ⊢
            by_cases k4 : e.kind = 4
            · rw [if_pos k4] at h0 ⊢
              by_cases hf : 20 < (setV S.vars ⟨e.step, e.val⟩).length
              · rw [if_pos hf] at h0; exact absurd h0 (by decide)
              · rw [if_neg hf]
                exact ⟨rfl, fun h => by omega, fun h => by omega, fun _ => rfl⟩
            · rw [if_neg k4] at h0 ⊢
              by_cases k5 : e.kind = 5
              · rw [if_pos k5] at h0 ⊢
                by_cases hm : atI S.busy e.step < 0
                · rw [if_pos hm] at h0; exact absurd h0 (by decide)
                · rw [if_neg hm] at h0 ⊢
                  by_cases hf : 1000000 ≤ S.faults
                  · rw [if_pos hf] at h0; exact absurd h0 (by decide)
                  · rw [if_neg hf]
                    exact ⟨rfl, fun h => by omega, fun h => by omega, fun h => by omega⟩
              · rw [if_neg k5] at h0 ⊢
                by_cases hm : 0 < S.wait.length + S.busy.length
                · rw [if_pos hm] at h0; exact absurd h0 (by decide)
                · rw [if_neg hm]
                  exact ⟨rfl, fun h => by omega, fun h => by omega, fun h => by omega⟩
  · rw [if_neg ha] at h0; exact absurd h0 (by decide)
theorem rS_law {ss : List ByteArray} {fs : List Pr} {S : St} {e : Ev} (h0 : (rS ss fs S e).1 = 0) :
    DefP ss fs ∧ StP ss (rS ss fs S e).2 ∧ (rS ss fs S e).2.last = e.time ∧ (e.kind = 2 → (rS ss fs S e).2.wait.length + (rS ss fs S e).2.busy.length = S.wait.length + S.busy.length) ∧ (e.kind = 3 → (rS ss fs S e).2.wait.length + (rS ss fs S e).2.busy.length + 1 = S.wait.length + S.busy.length + flN e.step fs) ∧ (e.kind = 4 → (rS ss fs S e).2.wait.length + (rS ss fs S e).2.busy.length = S.wait.length + S.busy.length) := by
  by_cases h : (DefP ss fs ∧ StP ss S) ∧ evB e = true
  · rw [rS_yes h] at h0 ⊢
    exact ⟨h.1.1, stepS_right h.1.1 h.1.2 h.2 h0, stepS_law h0⟩
  · rw [rS_no h] at h0; exact absurd h0 (by decide)
/-- One event of a row that is taken. -/
theorem ofS_cons {ss : List ByteArray} {fs : List Pr} {e : Ev} {r : List Ev} {S T : St} (D : DefP ss fs) (hS : StP ss S) (h : ofS ss fs (e :: r) S = (0, T)) : (rS ss fs S e).1 = 0 ∧ StP ss (rS ss fs S e).2 ∧ ofS ss fs r (rS ss fs S e).2 = (0, T) := by
  unfold ofS at h
  by_cases h0 : (evS ss fs S e).1 = 0
  · rw [if_pos h0] at h
    unfold evS at h0 h
    by_cases he : evB e = true
    · rw [if_pos he] at h0 h
      rw [rS_yes ⟨⟨D, hS⟩, he⟩]
      exact ⟨h0, stepS_right D hS he h0, h⟩
    · rw [if_neg he] at h0; exact absurd h0 (by decide)
  · rw [if_neg h0] at h
    exact absurd (congrArg Prod.fst h) h0
theorem soS_zero {ss : List ByteArray} {fs : List Pr} {es : List Ev} (h0 : (soS ss fs es).1 = 0) : DefP ss fs ∧ ofS ss fs es z0 = (0, (soS ss fs es).2) := by
  unfold soS at h0 ⊢
  by_cases h1 : 400 < es.length
  · rw [if_pos h1] at h0; exact absurd h0 (by decide)
  · rw [if_neg h1] at h0 ⊢
    by_cases h2 : DefP ss fs ∧ es.length ≤ 200
    · rw [if_pos h2] at h0 ⊢
      exact ⟨h2.1, Prod.ext h0 rfl⟩
    · rw [if_neg h2] at h0; exact absurd h0 (by decide)
/-- A truth, told by a Bool. -/
theorem calls_bool {P : Program} {f : FuncId} {args : Array Value} {w : World} {p : Prop} {R : World → Prop} {B : Bool} (hB : B = true ↔ p) (h : Calls P f args w fun e w' => RetB e p ∧ R w') : Calls P f args w fun e w' => e = .returned (.bool B) ∧ R w' := by
  cases B with
  | true => exact calls_yes h (hB.1 rfl)
  | false => exact calls_no h (fun hp => by have := hB.2 hp; cases this)
theorem bool_of (p : Prop) : ∃ B : Bool, B = true ↔ p := by
  by_cases h : p
  · exact ⟨true, fun _ => h, fun _ => rfl⟩
  · exact ⟨false, fun e => (by cases e), fun k => absurd k h⟩
/-- The law's first boxes: a Def, a State, an Event, and their rows. -/
structure LwA (X : World) (gd gs ge : Nat) (u1 u2 u3 u4 u5 : Value) (ss : List ByteArray) (fs : List Pr) (S : St) (E : Ev) (e0 e1 e2 e3 e4 : Addr) : Prop where
  hd : X.heap[gd]? = some (.cells [u1, u2].toArray 26 (0, 0))
  hs : X.heap[gs]? = some (.cells (stLs u3 u4 u5 S).toArray 29 (0, 0))
  he : X.heap[ge]? = some (.cells E.cells.toArray 31 (0, 0))
  o1 : X.ownsRow 0 9 1 u1 ss.length (ss.map Value.string)
  o2 : X.ownsRow 0 41 2 u2 fs.length (fs.flatMap Pr.cells)
  os : StOwn X 0 u3 u4 u5 S
  er : ErrsAt X e0 e1 e2 e3 e4
theorem LwA.stay {X X' : World} {gd gs ge : Nat} {u1 u2 u3 u4 u5 : Value} {ss : List ByteArray} {fs : List Pr} {S : St} {E : Ev} {e0 e1 e2 e3 e4 : Addr} (h : LwA X gd gs ge u1 u2 u3 u4 u5 ss fs S E e0 e1 e2 e3 e4) (hb : Below X.heap.size X X') : LwA X' gd gs ge u1 u2 u3 u4 u5 ss fs S E e0 e1 e2 e3 e4 :=
  ⟨(hb.block _ (lt_heap h.hd)).trans h.hd, (hb.block _ (lt_heap h.hs)).trans h.hs, (hb.block _ (lt_heap h.he)).trans h.he, ownB_stay h.o1 hb, ownB_stay h.o2 hb, h.os.stay hb, h.er.stay hb⟩
theorem LwA.cells {X : World} {gd gs ge : Nat} {u1 u2 u3 u4 u5 : Value} {ss : List ByteArray} {fs : List Pr} {S : St} {q0 q1 q2 q3 : Int} {q4 q5 : ByteArray} {e0 e1 e2 e3 e4 : Addr} (h : LwA X gd gs ge u1 u2 u3 u4 u5 ss fs S ⟨q0, q1, q2, q3, q4, q5⟩ e0 e1 e2 e3 e4) :
    (X.cell? ⟨gd, 0, none⟩ = some u1 ∧ X.cell? ⟨gd, 1, none⟩ = some u2) ∧ (X.cell? ⟨gs, 0, none⟩ = some (.int .i64 S.status) ∧ X.cell? ⟨gs, 1, none⟩ = some (.int .i64 S.begun) ∧ X.cell? ⟨gs, 2, none⟩ = some (.int .i64 S.last) ∧ X.cell? ⟨gs, 3, none⟩ = some u3 ∧ X.cell? ⟨gs, 4, none⟩ = some u4 ∧ X.cell? ⟨gs, 5, none⟩ = some u5 ∧ X.cell? ⟨gs, 6, none⟩ = some (.int .i64 S.faults)) ∧
    X.cell? ⟨ge, 0, none⟩ = some (.int .i64 q0) ∧ X.cell? ⟨ge, 1, none⟩ = some (.int .i64 q1) ∧ X.cell? ⟨ge, 2, none⟩ = some (.int .i64 q2) ∧ X.cell? ⟨ge, 3, none⟩ = some (.int .i64 q3) ∧ X.cell? ⟨ge, 4, none⟩ = some (.string q4) ∧ X.cell? ⟨ge, 5, none⟩ = some (.string q5) :=
  ⟨⟨by rw [Lib.cell_of_heap h.hd]; rfl, by rw [Lib.cell_of_heap h.hd]; rfl⟩, ⟨by rw [Lib.cell_of_heap h.hs]; rfl, by rw [Lib.cell_of_heap h.hs]; rfl, by rw [Lib.cell_of_heap h.hs]; rfl, by rw [Lib.cell_of_heap h.hs]; rfl, by rw [Lib.cell_of_heap h.hs]; rfl, by rw [Lib.cell_of_heap h.hs]; rfl, by rw [Lib.cell_of_heap h.hs]; rfl⟩, by rw [Lib.cell_of_heap h.he]; rfl, by rw [Lib.cell_of_heap h.he]; rfl, by rw [Lib.cell_of_heap h.he]; rfl, by rw [Lib.cell_of_heap h.he]; rfl, by rw [Lib.cell_of_heap h.he]; rfl, by rw [Lib.cell_of_heap h.he]; rfl⟩
/-- An answer in its box. -/
structure OutB (X : World) (g : Nat) (v3 v4 v5 : Value) (T : St) (c : Int) : Prop where
  hb : X.heap[g]? = some (.cells [.int .i64 T.status, .int .i64 T.begun, .int .i64 T.last, v3, v4, v5, .int .i64 T.faults, .int .i64 c].toArray 35 (0, 0))
  os : StOwn X 0 v3 v4 v5 T
theorem OutB.stay {X X' : World} {g : Nat} {v3 v4 v5 : Value} {T : St} {c : Int} (h : OutB X g v3 v4 v5 T c) (hb : Below X.heap.size X X') : OutB X' g v3 v4 v5 T c := ⟨(hb.block _ (lt_heap h.hb)).trans h.hb, h.os.stay hb⟩
theorem OutB.cells {X : World} {g : Nat} {v3 v4 v5 : Value} {T : St} {c : Int} (h : OutB X g v3 v4 v5 T c) : X.cell? ⟨g, 0, none⟩ = some (.int .i64 T.status) ∧ X.cell? ⟨g, 1, none⟩ = some (.int .i64 T.begun) ∧ X.cell? ⟨g, 2, none⟩ = some (.int .i64 T.last) ∧ X.cell? ⟨g, 3, none⟩ = some v3 ∧ X.cell? ⟨g, 4, none⟩ = some v4 ∧ X.cell? ⟨g, 5, none⟩ = some v5 ∧ X.cell? ⟨g, 6, none⟩ = some (.int .i64 T.faults) ∧ X.cell? ⟨g, 7, none⟩ = some (.int .i64 c) :=
  ⟨by rw [Lib.cell_of_heap h.hb]; rfl, by rw [Lib.cell_of_heap h.hb]; rfl, by rw [Lib.cell_of_heap h.hb]; rfl, by rw [Lib.cell_of_heap h.hb]; rfl, by rw [Lib.cell_of_heap h.hb]; rfl, by rw [Lib.cell_of_heap h.hb]; rfl, by rw [Lib.cell_of_heap h.hb]; rfl, by rw [Lib.cell_of_heap h.hb]; rfl⟩
theorem OutB.made {X : World} {v3 v4 v5 : Value} {T : St} {c : Int} {lo : Nat} (h : StOwn X lo v3 v4 v5 T) : OutB (X.alloc (.cells [.int .i64 T.status, .int .i64 T.begun, .int .i64 T.last, v3, v4, v5, .int .i64 T.faults, .int .i64 c].toArray 35)) X.heap.size v3 v4 v5 T c :=
  ⟨heap_alloc_new X _, (h.stay ((Below.refl _ _).alloc (Nat.le_refl _) _)).le (Nat.zero_le _)⟩
theorem own_dsl {X : World} {lo : Nat} {a1 a2 : Option Addr} {k1 k2 : Nat} {ss : List ByteArray} {fs : List Pr} (o1 : X.ownsRow lo 9 1 (.slice a1 ss.length k1) ss.length (ss.map Value.string)) (o2 : X.ownsRow lo 41 2 (.slice a2 fs.length k2) fs.length (fs.flatMap Pr.cells)) : DefSl X a1 a2 k1 k2 ss fs :=
  ⟨str_of_own o1, pr_of_own o2, fun g o e => (o1.lt g (by rw [e]; rfl)).2, fun g o e => (o2.lt g (by rw [e]; rfl)).2⟩
theorem own_ssl {X : World} {lo k3 k4 k5 : Nat} {a3 a4 a5 : Option Addr} {S : St} (h : StOwn X lo (.slice a3 S.wait.length k3) (.slice a4 S.busy.length k4) (.slice a5 S.vars.length k5) S) : StSl X a3 a4 a5 k3 k4 k5 S := ⟨str_of_own h.o3, str_of_own h.o4, pr_of_own h.o5⟩
/-- What a State that StateStep or StateOf told has of lengths. -/
theorem rS_low {ss : List ByteArray} {fs : List Pr} {S : St} {e : Ev} : (rS ss fs S e).2.wait.length ≤ 40 ∧ (rS ss fs S e).2.busy.length ≤ 40 ∧ (rS ss fs S e).2.vars.length ≤ 20 := by
  by_cases h : (DefP ss fs ∧ StP ss S) ∧ evB e = true
  · rw [rS_yes h]
    by_cases h0 : (stepS ss fs S e).1 = 0
    · have := stP_small (stepS_right h.1.1 h.1.2 h.2 h0); omega
    · have hz : (stepS ss fs S e).2 = z0 := by
        unfold stepS at h0 ⊢
        by_cases ha : awB S.status e.kind = true
        · rw [if_pos ha] at h0 ⊢
          by_cases hl : e.time < S.last
          · rw [if_pos hl]
          · rw [if_neg hl] at h0 ⊢; exact doS_no h0
        · rw [if_neg ha]
      rw [hz]; decide
  · rw [rS_no h]; decide
theorem ofS_right {ss : List ByteArray} {fs : List Pr} (D : DefP ss fs) : ∀ (es : List Ev) (S : St), StP ss S → StP ss (ofS ss fs es S).2
  | [], S, h => h
  | e :: r, S, h => by
    unfold ofS
    by_cases h0 : (evS ss fs S e).1 = 0
    · rw [if_pos h0]
      refine ofS_right D r _ ?_
      unfold evS at h0 ⊢
      by_cases he : evB e = true
      · rw [if_pos he] at h0 ⊢; exact stepS_right D h he h0
      · rw [if_neg he] at h0; exact absurd h0 (by decide)
    · rw [if_neg h0]; exact z0_right ss
theorem soS_low {ss : List ByteArray} {fs : List Pr} {es : List Ev} : (soS ss fs es).2.wait.length ≤ 40 ∧ (soS ss fs es).2.busy.length ≤ 40 ∧ (soS ss fs es).2.vars.length ≤ 20 := by
  unfold soS
  by_cases h1 : 400 < es.length
  · rw [if_pos h1]; decide
  · rw [if_neg h1]
    by_cases h2 : DefP ss fs ∧ es.length ≤ 200
    · rw [if_pos h2]
      have := stP_small (ofS_right h2.1 es z0 (z0_right ss)); omega
    · rw [if_neg h2]; decide
/-- A State of few marks and vars. -/
def LowS (S : St) : Prop := S.wait.length ≤ 40 ∧ S.busy.length ≤ 40 ∧ S.vars.length ≤ 20
theorem LowS.max {S : St} (h : LowS S) : S.wait.length ≤ maxLen ∧ S.busy.length ≤ maxLen ∧ S.vars.length ≤ maxLen := by
  unfold LowS at h; unfold maxLen; omega
/-- The law's second boxes: a Def, events, and their rows. -/
structure LwB (X : World) (gf : Nat) (u1 u2 v : Value) (ss : List ByteArray) (fs : List Pr) (l : List Ev) (e0 e1 e2 e3 e4 : Addr) : Prop where
  hd : X.heap[gf]? = some (.cells [u1, u2].toArray 26 (0, 0))
  o1 : X.ownsRow 0 9 1 u1 ss.length (ss.map Value.string)
  o2 : X.ownsRow 0 41 2 u2 fs.length (fs.flatMap Pr.cells)
  ol : X.ownsRow 0 31 6 v l.length (l.flatMap Ev.cells)
  er : ErrsAt X e0 e1 e2 e3 e4
theorem LwB.stay {X X' : World} {gf : Nat} {u1 u2 v : Value} {ss : List ByteArray} {fs : List Pr} {l : List Ev} {e0 e1 e2 e3 e4 : Addr} (h : LwB X gf u1 u2 v ss fs l e0 e1 e2 e3 e4) (hb : Below X.heap.size X X') : LwB X' gf u1 u2 v ss fs l e0 e1 e2 e3 e4 :=
  ⟨(hb.block _ (lt_heap h.hd)).trans h.hd, ownB_stay h.o1 hb, ownB_stay h.o2 hb, ownB_stay h.ol hb, h.er.stay hb⟩
theorem LwB.start {X : World} {lo : Nat} {u1 u2 v : Value} {ss : List ByteArray} {fs : List Pr} {l : List Ev} {e0 e1 e2 e3 e4 : Addr} (o1 : X.ownsRow lo 9 1 u1 ss.length (ss.map Value.string)) (o2 : X.ownsRow lo 41 2 u2 fs.length (fs.flatMap Pr.cells)) (ol : X.ownsRow lo 31 6 v l.length (l.flatMap Ev.cells)) (er : ErrsAt X e0 e1 e2 e3 e4) : LwB (X.alloc (.cells [u1, u2].toArray 26)) X.heap.size u1 u2 v ss fs l e0 e1 e2 e3 e4 := by
  have hb : Below X.heap.size X (X.alloc (.cells [u1, u2].toArray 26)) := (Below.refl _ _).alloc (Nat.le_refl _) _
  exact ⟨heap_alloc_new X _, ownB_le (ownB_stay o1 hb) (Nat.zero_le _), ownB_le (ownB_stay o2 hb) (Nat.zero_le _), ownB_le (ownB_stay ol hb) (Nat.zero_le _), er.stay hb⟩
theorem LwB.cells {X : World} {gf : Nat} {u1 u2 v : Value} {ss : List ByteArray} {fs : List Pr} {l : List Ev} {e0 e1 e2 e3 e4 : Addr} (h : LwB X gf u1 u2 v ss fs l e0 e1 e2 e3 e4) : X.cell? ⟨gf, 0, none⟩ = some u1 ∧ X.cell? ⟨gf, 1, none⟩ = some u2 := ⟨by rw [Lib.cell_of_heap h.hd]; rfl, by rw [Lib.cell_of_heap h.hd]; rfl⟩
theorem EvSl.rowE {w : World} {a : Option Addr} {n c : Nat} {es : List Ev} (h : EvSl w (.slice a n c) es) (h0 : 0 < es.length) : ∃ g o, a = some ⟨g, o, none⟩ ∧ EvsAt w g o es := by
  rcases h with ⟨_, _, _, rfl⟩ | ⟨g, o, _, hv, _, h⟩
  · simp at h0
  · injection hv with h1 _ _; exact ⟨g, o, h1, h⟩
end Go.Proofs.YtdggmeblnbabbaaGreatDoor

/-
  What laws.lwTexts answers of two slices of the same texts: a contract over the seat's program.
-/
namespace Go.Proofs.YtdggmeblnbabbaaGreatDoor
open Go.RowKit Go.Sort

set_option maxHeartbeats 1000000 in
set_option maxRecDepth 100000 in
theorem lwTexts_row (g1 o1 c1 g2 o2 c2 : Nat) (ss : List ByteArray) (w : World) (hE1 : StrsAt w g1 o1 ss) (hE2 : StrsAt w g2 o2 ss) (hn : ss.length ≤ maxLen) :
    Calls Tryz.prog 23 #[.slice (some ⟨g1, o1, none⟩) ss.length c1, .slice (some ⟨g2, o2, none⟩) ss.length c2] w fun e w' => e = .returned (.bool true) ∧ Below w.heap.size w w' := by
  unfold maxLen at hn
  have mixed : Tryz.prog.follows .mixedOrders = true := by kernel_rfl
  have HE1 := hid hE1
  have HE2 := hid hE2
  clear hE1 hE2
  go_enter Tryz.func23, Tryz.ntmps23
  go_wp2
  go_loopw [5] (fun i wr => ∃ k : Nat, k ≤ ss.length ∧ i = .int .i64 k ∧ Below w.heap.size w wr) (fun i _ => ss.length - (intOf i).toNat)
  case atStart => exact ⟨0, Nat.zero_le _, rfl, Below.refl _ _⟩
  case round =>
    obtain ⟨k, hk, rfl, hbel⟩ := hrel
    by_cases hlt : k < ss.length
    · have a0 := (HE1.out.stay hbel (Nat.le_refl _)).2 k hlt
      have b0 := (HE2.out.stay hbel (Nat.le_refl _)).2 k hlt
      generalize ss[k] = q4 at *
      have k0 := cell_regrown a0
      have l0 := cell_regrown b0
      clear a0 b0
      go_wp2
      refine wp_region_quiet_below mixed (by kernel_rfl) ?_
      repeat (quiet_step (fail))
      refine wpQuiet_nil ?_
      intro _ hw'
      obtain ⟨⟨dq, osq⟩, hw''⟩ := hw'
      subst hw''
      have hbX := hbel.trans ((below_regrown wr dq osq).mono hbel.size)
      clear k0 l0
      go_wp2
      go_roundw
      case rel => exact ⟨k + 1, by omega, by go_num, hbX⟩
      case measure => simp [intOf]; omega
    · go_wp2
      go_ret
      exact ⟨rfl, hbel⟩
theorem lwTexts_none (a1 a2 : Option Addr) (c1 c2 : Nat) (w : World) :
    Calls Tryz.prog 23 #[.slice a1 0 c1, .slice a2 0 c2] w fun e w' => e = .returned (.bool true) ∧ Below w.heap.size w w' := by
  go_enter Tryz.func23, Tryz.ntmps23
  go_wp2
  go_loop [5] (fun i => i = .int .i64 0) (fun _ => 0)
  case atStart => exact rfl
  case round =>
    subst hrel
    go_wp2
    go_ret
    exact ⟨rfl, Below.refl _ _⟩
theorem lwTexts_any (v1 v2 : Value) (ss : List ByteArray) (w : World) (h1 : StrSl w v1 ss) (h2 : StrSl w v2 ss) (hn : ss.length ≤ maxLen) :
    Calls Tryz.prog 23 #[v1, v2] w fun e w' => e = .returned (.bool true) ∧ Below w.heap.size w w' := by
  rcases h1 with ⟨a, c, rfl, rfl⟩ | ⟨g, o, c, rfl, hp, h⟩
  · rcases h2 with ⟨a', c', rfl, _⟩ | ⟨g', o', c', rfl, hp', h'⟩
    · exact lwTexts_none a a' c c' w
    · simp at hp'
  · rcases h2 with ⟨a', c', rfl, h0⟩ | ⟨g', o', c', rfl, hp', h'⟩
    · rw [h0] at hp; simp at hp
    · exact lwTexts_row g o c g' o' c' ss w h h' hn
end Go.Proofs.YtdggmeblnbabbaaGreatDoor

/-
  What laws.lwState answers of two values of one State: a contract over the seat's program.
-/
namespace Go.Proofs.YtdggmeblnbabbaaGreatDoor
open Go.RowKit Go.Sort
set_option linter.unusedVariables false

set_option maxRecDepth 1000000 in
set_option maxHeartbeats 4000000 in
theorem lwState_any (a3 a4 a5 b3 b4 b5 : Option Addr) (k3 k4 k5 c3 c4 c5 : Nat) (S : St) (w : World) (h : StSl w a3 a4 a5 k3 k4 k5 S) (g : StSl w b3 b4 b5 c3 c4 c5 S) (n3 : S.wait.length ≤ maxLen) (n4 : S.busy.length ≤ maxLen) (n5 : S.vars.length ≤ maxLen) :
    Calls Tryz.prog 7 #[stV a3 a4 a5 k3 k4 k5 S, stV b3 b4 b5 c3 c4 c5 S] w fun e w' => e = .returned (.bool true) ∧ Below w.heap.size w w' := by
  obtain ⟨st, bg, la, wt, bs, vs, fa⟩ := S
  have mixed : Tryz.prog.follows .mixedOrders = true := by kernel_rfl
  have hb3 := below2 w (.cells #[.int .i64 st, .int .i64 bg, .int .i64 la, .slice a3 wt.length k3, .slice a4 bs.length k4, .slice a5 vs.length k5, .int .i64 fa] 29) (.cells #[.int .i64 st, .int .i64 bg, .int .i64 la, .slice b3 wt.length c3, .slice b4 bs.length c4, .slice b5 vs.length c5, .int .i64 fa] 29)
  have c1 := lwTexts_any _ _ wt _ (h.h3.stay hb3 (Nat.le_refl _)) (g.h3.stay hb3 (Nat.le_refl _)) n3
  have HB := hid hb3
  have H4 := hid h.h4
  have H5 := hid h.h5
  have J4 := hid g.h4
  have J5 := hid g.h5
  have N4 := hid n4
  have N5 : vs.length ≤ 9223372036854775807 := by unfold maxLen at n5; exact Nat.le_trans n5 (by decide)
  clear h g n3 n4 n5 hb3
  go_enter Tryz.func7, Tryz.ntmps7
  go_wp2_with fail
  refine c1.mono ?_
  rintro e w1 ⟨rfl, hb1⟩
  have y4 := (hb1.cell (p := ⟨w.heap.size, 4, none⟩) (by simp; omega)).trans (by simp [go_sem] : _ = some (.slice a4 bs.length k4))
  have y5 := (hb1.cell (p := ⟨w.heap.size, 5, none⟩) (by simp; omega)).trans (by simp [go_sem] : _ = some (.slice a5 vs.length k5))
  have x4 := (hb1.cell (p := ⟨w.heap.size + 1, 4, none⟩) (by simp)).trans (by simp [go_sem] : _ = some (.slice b4 bs.length c4))
  have x5 := (hb1.cell (p := ⟨w.heap.size + 1, 5, none⟩) (by simp)).trans (by simp [go_sem] : _ = some (.slice b5 vs.length c5))
  have hz1 : w.heap.size + 1 < w1.heap.size := by have := hb1.size; simp at this; omega
  have hz0 : w.heap.size < w1.heap.size := by omega
  have HB1 := hid (HB.out.trans (hb1.mono (by simp; omega)))
  clear hb1 c1
  go_wp2_with fail
  refine (lwTexts_any _ _ bs _ (H4.out.stay HB1.out (Nat.le_refl _)) (J4.out.stay HB1.out (Nat.le_refl _)) N4.out).mono ?_
  rintro e w2 ⟨rfl, hb2⟩
  have u5 := (hb2.cell (p := ⟨w.heap.size, 5, none⟩) hz0).trans y5
  have v5 := (hb2.cell (p := ⟨w.heap.size + 1, 5, none⟩) hz1).trans x5
  have hz2 : w.heap.size + 1 < w2.heap.size := by have := hb2.size; omega
  have hz3 : w.heap.size < w2.heap.size := by omega
  have HB2 := hid (HB1.out.trans (hb2.mono HB1.out.size))
  clear hb2 y4 y5 x4 x5
  go_wp2
  go_loopw [5] (fun i wr => ∃ k : Nat, k ≤ vs.length ∧ i = .int .i64 k ∧ Below w2.heap.size w2 wr) (fun i _ => vs.length - (intOf i).toNat)
  case atStart => exact ⟨0, Nat.zero_le _, rfl, Below.refl _ _⟩
  case round =>
    obtain ⟨k, hk, rfl, hbel⟩ := hrel
    have p5 := (hbel.cell (p := ⟨w.heap.size, 5, none⟩) hz3).trans u5
    have q5 := (hbel.cell (p := ⟨w.heap.size + 1, 5, none⟩) hz2).trans v5
    have HBE := hid hbel
    clear hbel
    by_cases hlt : k < vs.length
    · obtain ⟨g1, o1, rfl, R1⟩ := (H5.out.stay (HB2.out.trans (HBE.out.mono HB2.out.size)) (Nat.le_refl _)).row (by omega)
      obtain ⟨g2, o2, rfl, R2⟩ := (J5.out.stay (HB2.out.trans (HBE.out.mono HB2.out.size)) (Nat.le_refl _)).row (by omega)
      obtain ⟨e0, e1⟩ := R1.2 k hlt
      obtain ⟨f0, f1⟩ := R2.2 k hlt
      generalize vs[k].fst = s0 at *
      generalize vs[k].snd = s1 at *
      have k0 := cell_regrown e0
      have k1 := cell_regrown e1
      have l0 := cell_regrown f0
      have l1 := cell_regrown f1
      have k2 := cell_regrown p5
      have l2 := cell_regrown q5
      clear e0 e1 f0 f1 R1 R2
      go_wp2
      refine wp_region_quiet_below mixed (by kernel_rfl) ?_
      repeat (quiet_step (fail))
      refine wpQuiet_nil ?_
      intro _ hw'
      obtain ⟨⟨dq, osq⟩, hw''⟩ := hw'
      subst hw''
      have hbX := hid (HBE.out.trans ((below_regrown wr dq osq).mono HBE.out.size))
      clear k0 k1 k2 l0 l1 l2 p5 q5 HBE
      go_wp2
      go_roundw
      case rel => exact ⟨k + 1, by omega, by go_num, hbX.out⟩
      case measure => simp [intOf]; omega
    · go_wp2
      go_ret
      exact ⟨rfl, HB2.out.trans (HBE.out.mono HB2.out.size)⟩
end Go.Proofs.YtdggmeblnbabbaaGreatDoor
