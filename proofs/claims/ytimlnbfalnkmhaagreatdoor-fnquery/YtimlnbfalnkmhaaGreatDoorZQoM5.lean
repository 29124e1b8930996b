/-
  Texts put together: QoM, FqM, ShJn, ImQX, ShFf.
-/
import Derived.Test.YtimlnbfalnkmhaaGreatDoorZFdM2
import Derived.Test.YtimlnbfalnkmhaaGreatDoorZKd2
import Derived.Test.YtimlnbfalnkmhaaGreatDoorZQwM3
import Derived.Test.YtimlnbfalnkmhaaGreatDoorZQrB3
import Derived.Test.YtimlnbfalnkmhaaGreatDoorRows
import Derived.Shelf.Strings.OnBuilder
import Derived.Test.YtimlnbfalnkmhaaGreatDoorZImQW
import Derived.Shelf.Strings.FieldsFuncGrows
/-
  Queries: what QueryRead answers of a text. Of no function.
-/
namespace Go.Proofs.YtimlnbfalnkmhaaGreatDoor
open Go.RowKit

def qZ : Qy := ⟨false, [], ⟨#[]⟩, ⟨#[]⟩, false, 0⟩
/-- The query, the place, the code. -/
noncomputable def qoS (s : ByteArray) : Qy × Int × Int := if 8000 < s.size then (qZ, 0, 2) else match rQ (wsOf s) with
  | .ok q => (q, 0, 0)
  | .error k => (qZ, (k : Int), 3)
abbrev qoV (r : Qy × Int × Int) (v : Value) : Value := .agg #[.bool r.1.cnt, v, .string r.1.by', .string r.1.ord, .bool r.1.dwn, .int .i64 r.1.lim, .int .i64 r.2.1, .int .i64 r.2.2]
theorem qoS_long {s : ByteArray} (h : 8000 < s.size) : qoS s = (qZ, 0, 2) := if_pos h
theorem qoS_ok {s : ByteArray} {q : Qy} (h : ¬ 8000 < s.size) (hq : rQ (wsOf s) = .ok q) : qoS s = (q, 0, 0) := by
  unfold qoS
  rw [if_neg h, hq]
theorem qoS_err {s : ByteArray} {k : Nat} (h : ¬ 8000 < s.size) (hq : rQ (wsOf s) = .error k) : qoS s = (qZ, (k : Int), 3) := by
  unfold qoS
  rw [if_neg h, hq]
end Go.Proofs.YtimlnbfalnkmhaaGreatDoor

/-
  FnQuery, mathematics: a right Query's text read again, plain and widened; how many words a text has. Of no function.
-/
namespace Go.Proofs.YtimlnbfalnkmhaaGreatDoor
open Go.RowKit Go.Lib
set_option linter.unusedVariables false

theorem neL_eq (l : List (List UInt8)) : l.filter neL = l.filter (fun x => !x.isEmpty) := rfl
theorem qW_ne (q : Qy) : (qW q).map (·.data.toList) ≠ [] := by simp [qW]
theorem wd_list {x : ByteArray} (h : WdOk x) : NoSp x.data.toList ∧ x.data.toList ≠ [] := by
  refine ⟨h.2.2, fun e => ?_⟩
  have := h.1
  rw [size_eq, e] at this
  simp at this
theorem wd_map {ws : List ByteArray} (h : ∀ x ∈ ws, WdOk x) : ∀ y ∈ ws.map (·.data.toList), NoSp y ∧ y ≠ [] := by
  intro y hy
  obtain ⟨x, hx, rfl⟩ := List.mem_map.1 hy
  exact wd_list (h x hx)
theorem ws_of_list {s : ByteArray} {ws : List ByteArray} (h : (spl [] s.data.toList).filter neL = ws.map (·.data.toList)) : wsOf s = ws := by
  apply list_inj
  rw [wsOf, fields_spl, ← neL_eq, h]
theorem ws_qT {q : Qy} (h : qyB q = true) : wsOf (qT q) = qW q := by
  apply ws_of_list
  have hw := wd_map (wd_all h)
  unfold qT
  simp only
  rw [spl_jn _ (qW_ne q) (fun y hy => (hw y hy).1), List.filter_eq_self]
  intro y hy
  have := (hw y hy).2
  cases y with
  | nil => exact absurd rfl this
  | cons c r => rfl
theorem qT_size8 {q : Qy} (h : qyB q = true) : (qT q).size ≤ 700 := by
  rw [size_eq]
  exact qT_size h
theorem qT_ne {q : Qy} (h : qyB q = true) : qT q ≠ noW := by
  intro e
  have h1 : (wsOf (qT q)).length = (qW q).length := by rw [ws_qT h]
  have h2 : (goFieldsP spN (qT q)).length = ((spl [] (qT q).data.toList).filter (fun x => !x.isEmpty)).length := by
    have := congrArg List.length (fields_spl (qT q))
    rwa [List.length_map] at this
  rw [wsOf, h2, e] at h1
  simp [spl, qW] at h1
theorem qoS_qT {q : Qy} (h : qyB q = true) : qoS (qT q) = (q, 0, 0) :=
  qoS_ok (by have := qT_size8 h; omega) (by rw [ws_qT h]; exact rQ_at h)
theorem wid_len : ∀ (l : List UInt8), (wid l).length ≤ 2 * l.length
  | [] => by simp [wid]
  | c :: r => by
    have ih := wid_len r
    unfold wid
    split
    · simp; omega
    · simp; omega
/-- The first bytes of a text, each blank twice. -/
def widB (t : ByteArray) (k : Nat) : ByteArray := ⟨(wid (t.data.toList.take k)).toArray⟩
theorem widB_0 (t : ByteArray) : widB t 0 = ⟨#[]⟩ := rfl
theorem widB_size (t : ByteArray) (k : Nat) : (widB t k).size ≤ 2 * t.size := by
  unfold widB
  rw [size_eq]
  have := wid_len (t.data.toList.take k)
  have h2 : (t.data.toList.take k).length ≤ t.data.toList.length := by simp; omega
  have h3 := size_eq t
  simp only
  omega
theorem qoS_wide {q : Qy} (h : qyB q = true) {s : ByteArray} (hs : s.data.toList = 32 :: (wid (qT q).data.toList ++ [32])) : qoS s = (q, 0, 0) := by
  have hw := wd_map (wd_all h)
  have hsz : s.size ≤ 1402 := by
    rw [size_eq, hs]
    have := wid_len (qT q).data.toList
    have h2 := qT_size8 h
    rw [size_eq] at h2
    simp
    omega
  refine qoS_ok (by omega) ?_
  rw [ws_of_list (ws := qW q) (by rw [hs]; exact spl_wide (qW_ne q) hw)]
  exact rQ_at h
theorem ws_cnt (s : ByteArray) : (wsOf s).length = wcnt true s.data.toList := by
  have h := congrArg List.length (fields_spl s)
  rw [List.length_map, ← neL_eq, spl_cnt] at h
  simpa [wsOf] using h
theorem wcnt_le : ∀ (l : List UInt8) (b : Bool), wcnt b l ≤ l.length
  | [], b => by simp [wcnt]
  | c :: r, b => by
    have ih := wcnt_le r (decide (c = 32))
    unfold wcnt
    simp only [List.length_cons]
    split <;> omega
/-- What is told of a text: the place no farther than it has words; without a code, right. -/
theorem qoS_told (s : ByteArray) : (qoS s).2.1 ≤ (wcnt true s.data.toList : Int) ∧ ((qoS s).2.2 = 0 → qyB (qoS s).1 = true) := by
  by_cases h8 : 8000 < s.size
  · rw [qoS_long h8]; exact ⟨by simp, fun h => by cases h⟩
  · cases hq : rQ (wsOf s) with
    | ok q => rw [qoS_ok h8 hq]; exact ⟨by simp, fun _ => rQ_ok hq⟩
    | error k =>
      rw [qoS_err h8 hq]
      have := rQ_err hq
      rw [ws_cnt] at this
      exact ⟨by simp only; omega, fun h => by cases h⟩
theorem wrd_right {c : Cd} (h : cdB c = true) : c.wrd.size ≤ 20 := by
  cases hn : numF c.fld with
  | true =>
    unfold cdB at h
    rw [if_pos hn] at h
    simp only [Bool.and_eq_true, decide_eq_true_eq] at h
    rw [h.2.1]; decide
  | false =>
    have := (wd_cd h).2.2
    unfold opnd at this
    rw [if_neg (by rw [hn]; decide)] at this
    exact this.2.1
theorem qoS_small (s : ByteArray) : (qoS s).1.cs.length ≤ 6 ∧ ∀ c ∈ (qoS s).1.cs, c.wrd.size ≤ 20 := by
  by_cases h8 : 8000 < s.size
  · rw [qoS_long h8]; simp [qZ]
  · cases hq : rQ (wsOf s) with
    | ok q =>
      rw [qoS_ok h8 hq]
      have := by_parts (rQ_ok hq)
      exact ⟨this.1, fun c hc => wrd_right (this.2.1 c hc)⟩
    | error k => rw [qoS_err h8 hq]; simp [qZ]
theorem byte_list (t : ByteArray) (k : Nat) (h : k < t.size) : (t.extract k (k + 1)).data.toList = [t[k]] := by
  have hl : k < t.data.toList.length := by rw [← size_eq]; exact h
  rw [ByteArray.data_extract, Array.toList_extract, List.extract_eq_take_drop, show k + 1 - k = 1 by omega]
  rw [List.drop_eq_getElem_cons hl]
  simp
  rfl
theorem widB_succ {t : ByteArray} {k : Nat} (h : k < t.size) : widB t (k + 1) = if t[k] = 32 then (widB t k ++ t.extract k (k + 1)) ++ spW else widB t k ++ t.extract k (k + 1) := by
  have hl : k < t.data.toList.length := by rw [← size_eq]; exact h
  have hg : t.data.toList[k] = t[k] := by simp; rfl
  have hb := byte_list t k h
  unfold widB
  rw [List.take_succ_eq_append_getElem hl, wid_snoc, hg]
  by_cases h32 : t[k] = 32
  · rw [if_pos h32, if_pos h32]
    apply ByteArray.ext
    apply Array.toList_inj.1
    rw [ByteArray.data_append, Array.toList_append, ByteArray.data_append, Array.toList_append, hb, h32]
    simp
  · rw [if_neg h32, if_neg h32]
    apply ByteArray.ext
    apply Array.toList_inj.1
    rw [ByteArray.data_append, Array.toList_append, hb]
theorem widB_all (t : ByteArray) : (widB t t.size).data.toList = wid t.data.toList := by
  unfold widB
  rw [List.take_of_length_le (by rw [← size_eq]; exact Nat.le_refl _)]
theorem wide_list (t : ByteArray) : ((spW ++ widB t t.size) ++ spW).data.toList = 32 :: (wid t.data.toList ++ [32]) := by
  simp [widB_all]
/-- How many words begin ahead of a place. -/
def cntB (t : ByteArray) (k : Nat) : Nat := wcnt true (t.data.toList.take k)
theorem cntB_0 (t : ByteArray) : cntB t 0 = 0 := rfl
theorem cntB_all (t : ByteArray) : cntB t t.size = wcnt true t.data.toList := by
  unfold cntB
  rw [List.take_of_length_le (by rw [← size_eq]; exact Nat.le_refl _)]
theorem cntB_le (t : ByteArray) (k : Nat) : cntB t k ≤ t.size := by
  have := wcnt_le (t.data.toList.take k) true
  have h2 : (t.data.toList.take k).length ≤ t.data.toList.length := by simp; omega
  unfold cntB
  rw [size_eq]
  omega
theorem cntB_succ {t : ByteArray} {k : Nat} (h : k < t.size) : cntB t (k + 1) = cntB t k + if t[k] ≠ 32 ∧ (k = 0 ∨ ∃ h0 : 0 < k, t[k - 1]'(by omega) = 32) then 1 else 0 := by
  have hl : k < t.data.toList.length := by rw [← size_eq]; exact h
  unfold cntB
  rw [wcnt_take hl]
  rfl
end Go.Proofs.YtimlnbfalnkmhaaGreatDoor

/-
  The library's contracts (the shelf's), laid at the seat's program.
-/
namespace Go.Proofs.YtimlnbfalnkmhaaGreatDoor.Sjn
open Go.Shelf Go.RowKit
def lays156_ren : Ren := ⟨fun | 156 => 33 | 165 => 80 | 166 => 81 | 169 => 82 | 240 => 133 | 241 => 134 | 276 => 155 | 277 => 156 | n => n, fun | 31 => 64 | 9 => 9 | 3 => 3 | 4 => 4 | 0 => 0 | 20 => 20 | 72 => 119 | 76 => 123 | 70 => 117 | 37 => 22 | 75 => 122 | 127 => 171 | 164 => 199 | 5 => 5 | 80 => 125 | n => n, fun | n => n⟩
theorem lays156 : Go.Proofs.Lays.n156 Tryz.prog lays156_ren := {
  mixed := by kernel_rfl
  f156 := Tryz.func33.trans (congrArg some (by kernel_rfl))
  f165 := Tryz.func80.trans (congrArg some (by kernel_rfl))
  f166 := Tryz.func81.trans (congrArg some (by kernel_rfl))
  f169 := Tryz.func82.trans (congrArg some (by kernel_rfl))
  f240 := Tryz.func133.trans (congrArg some (by kernel_rfl))
  f241 := Tryz.func134.trans (congrArg some (by kernel_rfl))
  f276 := Tryz.func155.trans (congrArg some (by kernel_rfl))
  f277 := Tryz.func156.trans (congrArg some (by kernel_rfl))
  t0 := Tryz.underlying0
  a0 := Tryz.isAgg0
  z0 := Tryz.sizeOf0
  v0 := Tryz.zeroValue0
  t3 := Tryz.underlying3
  a3 := Tryz.isAgg3
  z3 := Tryz.sizeOf3
  v3 := Tryz.zeroValue3
  t4 := Tryz.underlying4
  a4 := Tryz.isAgg4
  z4 := Tryz.sizeOf4
  v4 := Tryz.zeroValue4
  t9 := Tryz.underlying9
  a9 := Tryz.isAgg9
  z9 := Tryz.sizeOf9
  v9 := Tryz.zeroValue9
  t20 := Tryz.underlying20
  a20 := Tryz.isAgg20
  z20 := Tryz.sizeOf20
  v20 := Tryz.zeroValue20
  t31 := Tryz.underlying64
  a31 := Tryz.isAgg64
  z31 := Tryz.sizeOf64
  v31 := Tryz.zeroValue64
  t37 := Tryz.underlying22
  a37 := Tryz.isAgg22
  z37 := Tryz.sizeOf22
  v37 := Tryz.zeroValue22
  t70 := Tryz.underlying117
  a70 := Tryz.isAgg117
  z70 := Tryz.sizeOf117
  v70 := Tryz.zeroValue117
  t72 := Tryz.underlying119
  a72 := Tryz.isAgg119
  z72 := Tryz.sizeOf119
  v72 := Tryz.zeroValue119
  t75 := Tryz.underlying122
  a75 := Tryz.isAgg122
  z75 := Tryz.sizeOf122
  v75 := Tryz.zeroValue122
  t76 := Tryz.underlying123
  a76 := Tryz.isAgg123
  z76 := Tryz.sizeOf123
  v76 := Tryz.zeroValue123
  t127 := Tryz.underlying171
  a127 := Tryz.isAgg171
  z127 := Tryz.sizeOf171
  v127 := Tryz.zeroValue171
  t164 := Tryz.underlying199
  a164 := Tryz.isAgg199
  z164 := Tryz.sizeOf199
  v164 := Tryz.zeroValue199 }
theorem extra156 : Builder.Extra Tryz.prog lays156_ren := {
  sizeBuilder := by kernel_rfl
  liesBuilder := by kernel_rfl
  t5 := Tryz.underlying5
  a5 := Tryz.isAgg5
  z5 := Tryz.sizeOf5
  v5 := Tryz.zeroValue5
  infoByte := by kernel_rfl
  cellsByte := by kernel_rfl
  sizeByte := by kernel_rfl
  neB5 := by decide }
end Go.Proofs.YtimlnbfalnkmhaaGreatDoor.Sjn

/-
  Queries: what impl.QueryText answers: a contract over the seat's program.
-/
namespace Go.Proofs.YtimlnbfalnkmhaaGreatDoor
open Go.RowKit
set_option linter.unusedVariables false

theorem join_jn : ∀ (ws : List (List UInt8)), Lib.join ws [32] = jnL ws
  | [] => rfl
  | [w] => by rw [Lib.join_one, jnL]
  | w :: x :: r => by
    have ih := join_jn (x :: r)
    rw [Lib.join_cons] at ih ⊢
    rw [jnL, ← ih]
    simp [Lib.joinTail]
set_option maxRecDepth 100000 in
set_option maxHeartbeats 1000000 in
theorem implQueryText_any (q : Qy) (a : Option Addr) (k : Nat) (w : World) (hC : CdSl w (.slice a q.cs.length k) q.cs) (hF : ∀ c ∈ q.cs, c.wrd.size ≤ maxLen) (hn : q.cs.length ≤ maxLen) (hK : KNames w) (hT : PowTab w) :
    Calls Tryz.prog 7 #[qyV q a k] w fun e w' => e = .returned (.string (if qyB q = true then qT q else noW)) ∧ Below w.heap.size w w' := by
  have hb0 : Below w.heap.size w (w.alloc (.cells #[.bool q.cnt, .slice a q.cs.length k, .string q.by', .string q.ord, .bool q.dwn, .int .i64 q.lim] 25)) := (Below.refl _ _).alloc (Nat.le_refl _) _
  have HB0 := hid hb0
  have cR := implQueryRight_any q a k _ (hC.stayQ hb0) hF hn (hK.below hb0 (Nat.le_refl _))
  have HA := hid (heap_alloc_new w (.cells #[.bool q.cnt, .slice a q.cs.length k, .string q.by', .string q.ord, .bool q.dwn, .int .i64 q.lim] 25))
  have cW : ∀ X, Below (w.alloc (.cells #[.bool q.cnt, .slice a q.cs.length k, .string q.by', .string q.ord, .bool q.dwn, .int .i64 q.lim] 25)).heap.size (w.alloc (.cells #[.bool q.cnt, .slice a q.cs.length k, .string q.by', .string q.ord, .bool q.dwn, .int .i64 q.lim] 25)) X → qyB q = true → _ := fun X hX h => queryWords_any q a k X ((hC.stayQ hb0).stayQ hX) ((hT.below hb0 (Nat.le_refl _)).below hX (Nat.le_refl _)) h
  have hlen := fun h => qT_size (q := q) h
  have hwl := fun h => qW_len (q := q) h
  have hqT : qT q = ⟨(Lib.join ((qW q).map (·.data.toList)) (⟨#[32]⟩ : ByteArray).data.toList).toArray⟩ := by unfold qT; rw [← join_jn]
  have hlen2 : qyB q = true → (Lib.join ((qW q).map (·.data.toList)) (⟨#[32]⟩ : ByteArray).data.toList).length ≤ 140737488355328 := fun h => by
    have := hlen h
    rw [← join_jn] at this
    exact Nat.le_trans this (by decide)
  clear hb0 hC hF hK hT hn hlen
  have hnw : (qW q).length = 0 → False := fun h => by unfold qW at h; simp at h
  generalize qT q = tq at *
  generalize qW q = lw at *
  generalize qyB q = qb at *
  obtain ⟨cnt, cs, by', ord, dwn, lim⟩ := q
  unfold qyV at cW cR ⊢
  simp only at cR cW HB0 HA ⊢
  have CR := hid cR
  have CW := hid cW
  clear cR cW
  have KQ := hid (show ∀ X, Below (w.alloc (.cells #[.bool cnt, .slice a cs.length k, .string by', .string ord, .bool dwn, .int .i64 lim] 25)).heap.size (w.alloc (.cells #[.bool cnt, .slice a cs.length k, .string by', .string ord, .bool dwn, .int .i64 lim] 25)) X → X.cell? ⟨w.heap.size, 0, none⟩ = some (.bool cnt) ∧ X.cell? ⟨w.heap.size, 1, none⟩ = some (.slice a cs.length k) ∧ X.cell? ⟨w.heap.size, 2, none⟩ = some (.string by') ∧ X.cell? ⟨w.heap.size, 3, none⟩ = some (.string ord) ∧ X.cell? ⟨w.heap.size, 4, none⟩ = some (.bool dwn) ∧ X.cell? ⟨w.heap.size, 5, none⟩ = some (.int .i64 lim) ∧ Below w.heap.size w X from fun X hX => by
    obtain ⟨x0, x1, x2, x3, x4, x5⟩ := cells6 (w := w) ((hX.block _ (lt_heap HA.out)).trans HA.out)
    exact ⟨x0, x1, x2, x3, x4, x5, HB0.out.trans (hX.mono HB0.out.size)⟩)
  clear HA HB0
  cases qb with
  | false =>
    go_enter Tryz.func7, Tryz.ntmps7
    go_wp2_with (go_at_call 9; refine CR.out.mono ?_; rintro e w1 ⟨rfl, hb⟩; obtain ⟨x0, x1, x2, x3, x4, x5, hbw⟩ := KQ.out _ hb; have HBW := hid hbw; clear hb hbw)
    go_ret
    exact ⟨rfl, HBW.out⟩
  | true =>
    have HL2 := hid (hlen2 rfl)
    have HWL := hid (hwl rfl)
    have HNW := hid hnw
    clear hlen2 hwl hnw
    go_enter Tryz.func7, Tryz.ntmps7
    go_wp2_with (go_at_call 9; refine CR.out.mono ?_; rintro e w1 ⟨rfl, hb⟩; obtain ⟨x0, x1, x2, x3, x4, x5, hbw⟩ := KQ.out _ hb; have HB1 := hid hb; have HBW := hid hbw; clear hb hbw)
    refine (CW.out _ HB1.out (by trivial)).mono ?_
    rintro e w2 ⟨u, rfl, ho, hb2⟩
    have HB2 := hid (HBW.out.trans (hb2.mono HBW.out.size))
    obtain ⟨va, vc, rfl⟩ := ownB_form ho
    have hj : ∃ g, va = some ⟨g, 0, none⟩ ∧ g < w2.heap.size ∧ lw.length ≤ vc ∧ ∀ (j : Nat) x, lw[j]? = some x → w2.cell? ⟨g, 0 + j, none⟩ = some (.string x) := by
      rcases ho.2 with ⟨hv, h0⟩ | ⟨g, cap, cur, hv, _, hblk, hle, _⟩
      · exact absurd h0 HNW.out
      · injection hv with h1 _ h3
        subst h1
        subst h3
        refine ⟨g, rfl, (ho.lt g rfl).2, hle, fun j x hx => ?_⟩
        have := ho.cells (g := g) rfl j (.string x) (by rw [List.getElem?_map, hx]; rfl)
        rwa [Addr.add_lit] at this
    obtain ⟨g, rfl, hg, hc, hcl⟩ := hj
    have cJ : Calls Tryz.prog 33 #[.slice (some ⟨g, 0, none⟩) lw.length vc, .string ⟨#[32]⟩] w2 _ := Any.strings_Join Sjn.lays156 Sjn.extra156 g 0 vc lw ⟨#[32]⟩ w2 hcl hg (by have := HWL.out; omega) hc HL2.out
    rw [← hqT] at cJ
    clear hcl ho hb2 HB1 CW
    go_wp2_with fail
    refine cJ.mono ?_
    rintro e w3 ⟨rfl, hb3⟩
    have HB3 := hid (HB2.out.trans (hb3.mono HB2.out.size))
    clear hb3 cJ
    go_wp2
    go_ret
    exact ⟨rfl, HB3.out⟩
end Go.Proofs.YtimlnbfalnkmhaaGreatDoor

/-
  The library's contracts (the shelf's), laid at the seat's program.
-/
namespace Go.Proofs.YtimlnbfalnkmhaaGreatDoor.Sff
open Go.Shelf Go.RowKit
def ff_ren : Ren := ⟨fun | 229 => 93 | n => n, fun | 9 => 9 | 40 => 134 | 31 => 64 | 152 => 174 | 3 => 3 | 0 => 0 | 4 => 4 | 21 => 21 | 154 => 176 | n => n, fun | n => n⟩
theorem ff : Go.Proofs.Lays.n229 Tryz.prog ff_ren := {
  mixed := by kernel_rfl
  f229 := Tryz.func93.trans (congrArg some (by kernel_rfl))
  t0 := Tryz.underlying0
  a0 := Tryz.isAgg0
  z0 := Tryz.sizeOf0
  v0 := Tryz.zeroValue0
  t3 := Tryz.underlying3
  a3 := Tryz.isAgg3
  z3 := Tryz.sizeOf3
  v3 := Tryz.zeroValue3
  t4 := Tryz.underlying4
  a4 := Tryz.isAgg4
  z4 := Tryz.sizeOf4
  v4 := Tryz.zeroValue4
  t9 := Tryz.underlying9
  a9 := Tryz.isAgg9
  z9 := Tryz.sizeOf9
  v9 := Tryz.zeroValue9
  t21 := Tryz.underlying21
  a21 := Tryz.isAgg21
  z21 := Tryz.sizeOf21
  v21 := Tryz.zeroValue21
  t31 := Tryz.underlying64
  a31 := Tryz.isAgg64
  z31 := Tryz.sizeOf64
  v31 := Tryz.zeroValue64
  t40 := Tryz.underlying134
  a40 := Tryz.isAgg134
  z40 := Tryz.sizeOf134
  v40 := Tryz.zeroValue134
  t152 := Tryz.underlying174
  a152 := Tryz.isAgg174
  z152 := Tryz.sizeOf174
  v152 := Tryz.zeroValue174
  t154 := Tryz.underlying176
  a154 := Tryz.isAgg176
  z154 := Tryz.sizeOf176
  v154 := Tryz.zeroValue176 }
end Go.Proofs.YtimlnbfalnkmhaaGreatDoor.Sff
