/-
  Texts put together: QuD, QuQm, QuW.
-/
import Derived.Test.YtimlnbfalnkmhaaGreatDoorZQuC
import Derived.Test.YtimlnbfalnkmhaaGreatDoorZCdRow5
import Derived.OwnWalk
import Derived.Test.YtimlnbfalnkmhaaGreatDoorZOwnB6
import Derived.RegionDies
import Derived.Test.YtimlnbfalnkmhaaGreatDoorZFdM2
import Derived.Test.YtimlnbfalnkmhaaGreatDoorZQoM5
import Derived.Recover
import Derived.Defers
/-
  Queries: what (*impl.reader).conds answers: a contract over the seat's program.
-/
namespace Go.Proofs.YtimlnbfalnkmhaaGreatDoor
open Go.RowKit

/-- How conds ends. -/
def EndC (w : World) (b : Nat) (sv : Value) (ws : List ByteArray) (a : Addr) (r : Except Nat (List Cd × Nat)) (e : Ending) (w' : World) : Prop := match r with
  | .ok (cs, k) => (∃ v, e = .returned v ∧ w'.ownsRow w.heap.size 67 4 v cs.length (cs.flatMap Cd.cells)) ∧ RdI w' b sv ws k a ∧ w.grownBy w' (some b)
  | .error k => e = .panicked [{ v := errQ a, recovered := false }] ∧ RdI w' b sv ws k a ∧ w.grownBy w' (some b)
theorem RdG.app {w W W' : World} {b k size n : Nat} {sv v : Value} {ws : List ByteArray} {a : Addr} {e : TypeId} {xs : List Value} (h : RdG w W b sv ws k a) (hown : W.ownsRow w.heap.size e size v n xs) (hg : W.grownBy W' v.ownBlock) : RdG w W' b sv ws k a := by
  cases hv : v.ownBlock with
  | none => rw [hv] at hg; exact h.below ⟨hg.os, hg.tape, hg.output, hg.size, fun k hk => hg.block k hk (by simp)⟩
  | some g => rw [hv] at hg; exact h.own hg (hown.lt g hv).1
theorem rCond3_lt {ws : List ByteArray} {k k' : Nat} {c : Cd} (h : rCond3 ws k = .ok (c, k')) : k' = k + 3 := by
  unfold rCond3 at h
  cases hc : rCond ws k with
  | ok c' => rw [hc] at h; cases h; rfl
  | error e => rw [hc] at h; cases h
theorem rMore_ok {ws : List ByteArray} {m k k' : Nat} {acc : List Cd} {c : Cd} (h : nw ws k = qAnd) (hc : rCond3 ws (k + 1) = .ok (c, k')) : rMore ws (m + 1) k acc = rMore ws m k' (acc ++ [c]) := by
  obtain rfl := rCond3_lt hc
  unfold rCond3 at hc
  rw [rMore, if_pos h]
  cases hx : rCond ws (k + 1) with
  | ok c' => rw [hx] at hc; cases hc; rfl
  | error e => rw [hx] at hc; cases hc
theorem rMore_err {ws : List ByteArray} {m k e : Nat} {acc : List Cd} (h : nw ws k = qAnd) (hc : rCond3 ws (k + 1) = .error e) : rMore ws (m + 1) k acc = .error e := by
  unfold rCond3 at hc
  rw [rMore, if_pos h]
  cases hx : rCond ws (k + 1) with
  | ok c' => rw [hx] at hc; cases hc
  | error e => rw [hx] at hc; cases hc; rfl
theorem rConds_ok {ws : List ByteArray} {k k' : Nat} {c : Cd} (h : nw ws k = qWhere) (hc : rCond3 ws (k + 1) = .ok (c, k')) : rConds ws k = rMore ws 5 k' [c] := by
  obtain rfl := rCond3_lt hc
  unfold rCond3 at hc
  rw [rConds, if_pos h]
  cases hx : rCond ws (k + 1) with
  | ok c' => rw [hx] at hc; cases hc; rfl
  | error e => rw [hx] at hc; cases hc
theorem rConds_err {ws : List ByteArray} {k e : Nat} (h : nw ws k = qWhere) (hc : rCond3 ws (k + 1) = .error e) : rConds ws k = .error e := by
  unfold rCond3 at hc
  rw [rConds, if_pos h]
  cases hx : rCond ws (k + 1) with
  | ok c' => rw [hx] at hc; cases hc
  | error e => rw [hx] at hc; cases hc; rfl
theorem EndR.ok {α : Type} {w w' : World} {b k : Nat} {sv : Value} {ws : List ByteArray} {a : Addr} {val : α → Value} {r : Except Nat (α × Nat)} {x : α} {e : Ending} (h : EndR w b sv ws a val r e w') (hr : r = .ok (x, k)) : e = .returned (val x) ∧ RdI w' b sv ws k a ∧ w.grownBy w' (some b) := by subst hr; exact h
theorem EndR.err {α : Type} {w w' : World} {b k : Nat} {sv : Value} {ws : List ByteArray} {a : Addr} {val : α → Value} {r : Except Nat (α × Nat)} {e : Ending} (h : EndR w b sv ws a val r e w') (hr : r = .error k) : e = .panicked [{ v := errQ a, recovered := false }] ∧ RdI w' b sv ws k a ∧ w.grownBy w' (some b) := by subst hr; exact h
set_option maxRecDepth 100000 in
set_option maxHeartbeats 2000000 in
theorem conds_any {b k : Nat} {sv : Value} {ws : List ByteArray} {a : Addr} (w : World) (h : RdI w b sv ws k a) :
    Calls Tryz.prog 97 #[.pointer (some ⟨b, 0, none⟩)] w fun e w' => EndC w b sv ws a (rConds ws k) e w' := by
  obtain ⟨i0, hi, hz0, hz1, hz2⟩ := info_parts Tryz.infoCd
  have D := hid (RdG.refl h)
  have hbl := lt_heap h.hb
  clear h
  generalize hR' : rConds ws k = R
  have hR := hid hR'
  clear hR'
  by_cases hw : nw ws k = qWhere
  · have hk : k < ws.length := nw_lt hw (by decide)
    cases hc : rCond3 ws (k + 1) with
    | error e =>
      obtain rfl : R = .error e := hR.out.symm.trans (rConds_err hw hc)
      clear hR
      go_enter Tryz.func97, Tryz.ntmps97
      go_wp2_with (first
        | (go_at_call 95; refine (meets_yes qWhere _ D.out.rd hk hw).mono ?_; rintro e w1 ⟨rfl, hr1, hg1⟩; have D1 := hid (D.out.call hr1 hg1); clear D hr1 hg1)
        | (go_at_call 140; refine (cond_any _ D1.out.rd).mono ?_; rintro e w2 hE; obtain ⟨rfl, hr2, hg2⟩ := hE.err hc; have D2 := hid (D1.out.call hr2 hg2); clear D1 hr2 hg2))
      exact ⟨rfl, rfl, D2.out.rd, D2.out.gr⟩
    | ok ck =>
      obtain ⟨c, k'⟩ := ck
      have hR2 := hid ((rConds_ok hw hc).symm.trans hR.out)
      clear hR
      go_enter Tryz.func97, Tryz.ntmps97
      go_wp2_with (first
        | (go_at_call 95; refine (meets_yes qWhere _ D.out.rd hk hw).mono ?_; rintro e w1 ⟨rfl, hr1, hg1⟩; have D1 := hid (D.out.call hr1 hg1); clear D hr1 hg1)
        | (go_at_call 140; refine (cond_any _ D1.out.rd).mono ?_; rintro e w2 hE; obtain ⟨he, hr2, hg2⟩ := hE.ok hc; obtain rfl : e = .returned (.agg #[.string c.fld, .string c.op, .string c.wrd, .int .i64 c.n]) := he; have D2 := hid (D1.out.call hr2 hg2); clear D1 hE hr2 hg2))
      have D3 := hid (D2.out.alloc (.cells #[.string c.fld, .string c.op, .string c.wrd, .int .i64 c.n] 67))
      have O3 := hid (cd_first w w2 c 67 D2.out.gr.size)
      clear D2
      generalize hW3 : w2.alloc (.cells #[.string c.fld, .string c.op, .string c.wrd, .int .i64 c.n] 67) = W3 at *
      generalize w2.heap.size = g at *
      clear hW3
      go_loopw [3] (fun v wr => ∃ (cs : List Cd) (j : Nat), 1 ≤ cs.length ∧ cs.length ≤ 6 ∧ Hid (rMore ws (6 - cs.length) j cs = R) ∧ wr.ownsRow w.heap.size 67 4 v cs.length (cs.flatMap Cd.cells) ∧ RdG w wr b sv ws j a) (fun v _ => 6 - lenC v)
      case atStart => exact ⟨[c], k', by simp, by simp, hR2, O3.out, D3.out⟩
      case round =>
        clear D3 O3 hR2 hc hw hk
        obtain ⟨cs, j, h1, h6, hRm, hown, hD⟩ := hrel
        obtain ⟨va, vc, rfl⟩ := own_forms hown
        have O := hid hown
        have D := hid hD
        clear hown hD
        by_cases hlt : cs.length < 6
        · have zl : (cs.length : Int) < 6 := by omega
          obtain ⟨m, hm⟩ : ∃ m, 6 - cs.length = m + 1 := ⟨5 - cs.length, by omega⟩
          rw [hm] at hRm
          by_cases ha : nw ws j = qAnd
          · have hk : j < ws.length := nw_lt ha (by decide)
            cases hc : rCond3 ws (j + 1) with
            | error e =>
              obtain rfl : R = .error e := hRm.out.symm.trans (rMore_err ha hc)
              go_wp2_with (first
                | (go_at_call 95; refine (meets_yes qAnd _ D.out.rd hk ha).mono ?_; rintro e w1 ⟨rfl, hr1, hg1⟩; have D1 := hid (D.out.call hr1 hg1); have O1 := hid (own_kept O.out hbl hg1); clear D O hr1 hg1)
                | (go_at_call 140; refine (cond_any _ D1.out.rd).mono ?_; rintro e w2 hE; obtain ⟨rfl, hr2, hg2⟩ := hE.err hc; have D2 := hid (D1.out.call hr2 hg2); clear D1 hr2 hg2))
              exact ⟨rfl, rfl, D2.out.rd, D2.out.gr⟩
            | ok ck =>
              obtain ⟨c1, k1⟩ := ck
              have hR2 := hid ((rMore_ok ha hc).symm.trans hRm.out)
              go_wp2_with (first
                | (go_at_call 95; refine (meets_yes qAnd _ D.out.rd hk ha).mono ?_; rintro e w1 ⟨rfl, hr1, hg1⟩; have D1 := hid (D.out.call hr1 hg1); have O1 := hid (own_kept O.out hbl hg1); clear D O hr1 hg1)
                | (go_at_call 140; refine (cond_any _ D1.out.rd).mono ?_; rintro e w2 hE; obtain ⟨he, hr2, hg2⟩ := hE.ok hc; obtain rfl : e = .returned (.agg #[.string c1.fld, .string c1.op, .string c1.wrd, .int .i64 c1.n]) := he; have D2 := hid (D1.out.call hr2 hg2); have O2 := hid (own_kept O1.out hbl hg2); clear D1 O1 hE hr2 hg2)
                | (at_builtin; refine wpList_append_own _ rfl _ _ 23 rfl w.heap.size 67 i0 _ 4 56 Tryz.underlying23 hi hz0 hz1 hz2 rfl (by decide) _ _ _ rfl (O2.out.alloc _) ⟨w2.heap.size, 0, none⟩ 1 1 [.string c1.fld, .string c1.op, .string c1.wrd, .int .i64 c1.n] rfl rfl ?c1 ?c2 ?c3 ?c4 ?c5 ?_))
              case c1 => exact cd_new w2 c1 67
              case c2 => exact cd_one c1
              case c3 => unfold maxLen; omega
              case c4 => omega
              case c5 => have := D2.out.gr.size; simp; omega
              intro v' w4 hown4 hgrow _
              have D4 := hid ((D2.out.alloc (.cells #[.string c1.fld, .string c1.op, .string c1.wrd, .int .i64 c1.n] 67)).app (O2.out.alloc _) hgrow)
              have O4 : Hid (w4.ownsRow w.heap.size 67 4 v' (cs.length + 1) ((cs ++ [c1]).flatMap Cd.cells)) := hid (by rw [cd_snoc]; exact hown4)
              obtain ⟨a', c', rfl⟩ := own_forms hown4
              clear hown4 hgrow O2 D2
              go_wp2
              go_roundw
              case rel => exact ⟨cs ++ [c1], k1, by simp, by simp; omega, by have h5 : 6 - (cs ++ [c1]).length = m := (by simp; omega); rw [h5]; exact hR2, by have := O4.out; simpa using this, D4.out⟩
              case measure => simp [lenC]; omega
          · obtain rfl : R = .ok (cs, j) := by rw [← hRm.out, rMore, if_neg ha]
            go_wp2_with (first
              | (go_at_call 95; refine (meets_no qAnd _ D.out.rd ha).mono ?_; rintro e w1 ⟨rfl, hr1, hg1⟩; have D1 := hid (D.out.call hr1 hg1); have O1 := hid (own_kept O.out hbl hg1); clear D O hr1 hg1))
            go_ret
            exact ⟨⟨_, rfl, O1.out⟩, D1.out.rd, D1.out.gr⟩
        · have z6 : cs.length = 6 := by omega
          obtain rfl : R = .ok (cs, j) := by rw [← hRm.out, z6]; rfl
          have zl : ¬ ((cs.length : Int) < 6) := by omega
          clear z6
          go_wp2
          go_ret
          exact ⟨⟨_, rfl, O.out⟩, D.out.rd, D.out.gr⟩
  · obtain rfl : R = .ok ([], k) := by rw [← hR.out, rConds, if_neg hw]
    clear hR
    go_enter Tryz.func97, Tryz.ntmps97
    go_wp2_with (first
      | (go_at_call 95; refine (meets_no qWhere _ D.out.rd hw).mono ?_; rintro e w1 ⟨rfl, hr1, hg1⟩; have D1 := hid (D.out.call hr1 hg1); clear D hr1 hg1))
    go_ret
    exact ⟨⟨_, rfl, rfl, .inl ⟨rfl, rfl⟩⟩, D1.out.rd, D1.out.gr⟩
end Go.Proofs.YtimlnbfalnkmhaaGreatDoor

/-
  Queries: how (*impl.reader).query ends; must at false: over the seat's program.
-/
namespace Go.Proofs.YtimlnbfalnkmhaaGreatDoor
open Go.RowKit

/-- How query ends. -/
def EndQ (w : World) (b : Nat) (sv : Value) (ws : List ByteArray) (a : Addr) (r : Except Nat Qy) (e : Ending) (w' : World) : Prop := match r with
  | .ok q => (∃ v, e = .returned (.agg #[.bool q.cnt, v, .string q.by', .string q.ord, .bool q.dwn, .int .i64 q.lim]) ∧ w'.ownsRow w.heap.size 67 4 v q.cs.length (q.cs.flatMap Cd.cells)) ∧ (∃ k, RdI w' b sv ws k a) ∧ w.grownBy w' (some b)
  | .error k => e = .panicked [{ v := errQ a, recovered := false }] ∧ RdI w' b sv ws k a ∧ w.grownBy w' (some b)
theorem EndC.ok {w w' : World} {b k : Nat} {sv : Value} {ws : List ByteArray} {a : Addr} {r : Except Nat (List Cd × Nat)} {cs : List Cd} {e : Ending} (h : EndC w b sv ws a r e w') (hr : r = .ok (cs, k)) : (∃ v, e = .returned v ∧ w'.ownsRow w.heap.size 67 4 v cs.length (cs.flatMap Cd.cells)) ∧ RdI w' b sv ws k a ∧ w.grownBy w' (some b) := by subst hr; exact h
theorem EndC.err {w w' : World} {b k : Nat} {sv : Value} {ws : List ByteArray} {a : Addr} {r : Except Nat (List Cd × Nat)} {e : Ending} (h : EndC w b sv ws a r e w') (hr : r = .error k) : e = .panicked [{ v := errQ a, recovered := false }] ∧ RdI w' b sv ws k a ∧ w.grownBy w' (some b) := by subst hr; exact h
theorem must_noB {a : Addr} (b : Nat) (w : World) (c : Bool) (hc : c = false) (h : w.cell? ⟨0, 0, none⟩ = some (errQ a)) :
    Calls Tryz.prog 96 #[.pointer (some ⟨b, 0, none⟩), .bool c] w fun e w' => e = .panicked [{ v := errQ a, recovered := false }] ∧ w' = w := by subst hc; exact must_no b w h
end Go.Proofs.YtimlnbfalnkmhaaGreatDoor

/-
  Queries: what impl.wordsIn answers, and the deferred function of impl.QueryRead: contracts over the seat's program.
-/
namespace Go.Proofs.YtimlnbfalnkmhaaGreatDoor
open Go.RowKit

theorem spN_pays (w : World) : PredGrows Tryz.prog 94 #[] spN w := by
  intro W x hx hb
  show Calls Tryz.prog 94 #[.int .i32 (x : Int)] W _
  have hs : ((x : Int) == 32) = spN x := by
    unfold spN
    by_cases h : x = 32
    · subst h; rfl
    · rw [beq_eq_false_iff_ne.2 h, beq_eq_false_iff_ne]; omega
  generalize spN x = B at *
  clear hx hb
  go_enter Tryz.func94, Tryz.ntmps94
  go_wp2
  go_ret
  exact ⟨rfl, Below.refl _ _⟩
theorem wordsIn_any (s : ByteArray) (w : World) (hs : s.size ≤ 4294967296) :
    Calls Tryz.prog 44 #[.string s] w fun e w' => ∃ A, e = .returned (.slice (some ⟨A, 0, none⟩) (wsOf s).length (wsOf s).length) ∧ w.heap.size ≤ A ∧
      w'.ownsRow w.heap.size 9 1 (.slice (some ⟨A, 0, none⟩) (wsOf s).length (wsOf s).length) (wsOf s).length ((wsOf s).map Value.string) ∧ Below w.heap.size w w' := by
  have cF : Calls Tryz.prog 93 #[.string s, .func (.func 94) #[] #[]] w _ := Any.strings_FieldsFunc_grows Sff.ff 94 #[] (enters_of Tryz.func94 (by kernel_rfl) rfl) spN s w hs (spN_pays w) (by kernel_rfl) (by kernel_rfl)
  change Calls _ _ _ _ (fun e w' => ∃ A, e = .returned (.slice (some ⟨A, 0, none⟩) (wsOf s).length (wsOf s).length) ∧ w.heap.size ≤ A ∧ w'.ownsRow w.heap.size 9 1 (.slice (some ⟨A, 0, none⟩) (wsOf s).length (wsOf s).length) (wsOf s).length ((wsOf s).map Value.string) ∧ Below w.heap.size w w') at cF
  generalize wsOf s = FS at cF ⊢
  go_enter Tryz.func44, Tryz.ntmps44
  go_wp2_with (go_at_call 93; refine cF.mono ?_; rintro e w' ⟨A, rfl, hA, hown, hb⟩)
  go_ret
  exact ⟨A, rfl, hA, hown, hb⟩
set_option maxRecDepth 100000 in
set_option maxHeartbeats 1000000 in
theorem catch_panicking (r o : Nat) (k : Int) (u : TypeId) (pv : Value) (older : List PanicEntry) (L : List Value) (T : TypeId) (w : World) (hk : w.cell? ⟨r, 1, none⟩ = some (.int .i64 k)) (ho : w.heap[o]? = some (.cells L.toArray T (0, 0))) (hL : L.length = 8) :
    CallsD Tryz.prog 45 #[.pointer (some ⟨r, 0, none⟩), .pointer (some ⟨o, 0, none⟩)] (.panicking ({ v := .iface u pv, recovered := false } :: older)) w fun e u' w' =>
      e = .returned (.tuple #[]) ∧ u' = .panicking ({ v := .iface u pv, recovered := true } :: older) ∧ w' = (((((((w.setCell ⟨o, 0, none⟩ (.bool false)).setCell ⟨o, 1, none⟩ (.slice none 0 0)).setCell ⟨o, 2, none⟩ (.string ⟨#[]⟩)).setCell ⟨o, 3, none⟩ (.string ⟨#[]⟩)).setCell ⟨o, 4, none⟩ (.bool false)).setCell ⟨o, 5, none⟩ (.int .i64 0)).setCell ⟨o, 6, none⟩ (.int .i64 k)).setCell ⟨o, 7, none⟩ (.int .i64 3) := by
  have hc : ∀ i, i < 8 → ∃ v, w.cell? ⟨o, i, none⟩ = some v := fun i hi => ⟨L[i], by rw [Lib.cell_of_heap ho]; simp⟩
  obtain ⟨v0, c0⟩ := hc 0 (by omega)
  obtain ⟨v1, c1⟩ := hc 1 (by omega)
  obtain ⟨v2, c2⟩ := hc 2 (by omega)
  obtain ⟨v3, c3⟩ := hc 3 (by omega)
  obtain ⟨v4, c4⟩ := hc 4 (by omega)
  obtain ⟨v5, c5⟩ := hc 5 (by omega)
  obtain ⟨v6, c6⟩ := hc 6 (by omega)
  obtain ⟨v7, c7⟩ := hc 7 (by omega)
  have z := fun i => Lib.frozen_of_heap ho i
  refine callsD_of_wpS Tryz.func45 rfl fun c₀ cs hu => ?_
  apply wpS_seq
  apply wpS_region
  simp [wpOpsS, go_sem, recoverD, hu, Tryz.ntmps45, Exit.thenS]
  refine wpS_cond (t := true) (by simp [Act.eval, Array.replicate]) ?_
  simp only [if_true]
  apply wpS_region
  simp [wpOpsS, go_sem, hk, c0, c1, c2, c3, c4, c5, c6, c7, z, bodyPostS, results, Tryz.results45]
theorem catch_idle (p q : Addr) (w : World) :
    CallsD Tryz.prog 45 #[.pointer (some p), .pointer (some q)] .returning w fun e u' w' => e = .returned (.tuple #[]) ∧ u' = .returning ∧ w' = w := by
  refine callsD_of_wpS Tryz.func45 rfl fun c₀ cs hu => ?_
  apply wpS_seq
  apply wpS_region
  simp [wpOpsS, go_sem, recoverD, hu, Tryz.ntmps45, Exit.thenS]
  refine wpS_cond (t := false) (by simp [Act.eval, Array.replicate]) ?_
  simp only [Bool.false_eq_true, if_false]
  refine wpS_of_wp (wp_skip ?_)
  cases c₀
  simp_all [bodyPostS, results, Tryz.results45]
end Go.Proofs.YtimlnbfalnkmhaaGreatDoor
