/-
  Texts put together: FdM, JnM.
-/
import Derived.Test.YtimlnbfalnkmhaaGreatDoorRows
import Derived.WalkKit
import Derived.Lib.FieldsP
/-
  The words of a text: what strings.FieldsFunc at blanks gives is what stands between them, byte by byte, less the empty ones. Of no function.
-/
namespace Go.Proofs.YtimlnbfalnkmhaaGreatDoor
open Go.RowKit Go.Lib

def spN (r : Nat) : Bool := r == 32
/-- A text parted at each blank. -/
def spl : List UInt8 → List UInt8 → List (List UInt8)
  | cur, [] => [cur]
  | cur, c :: r => if c = 32 then cur :: spl [] r else spl (cur ++ [c]) r
theorem spl_run : ∀ (X cur r : List UInt8), (∀ c ∈ X, c ≠ 32) → spl cur (X ++ r) = spl (cur ++ X) r
  | [], cur, r, _ => by simp
  | c :: X, cur, r, h => by
    have hc : c ≠ 32 := h c (by simp)
    rw [List.cons_append, spl, if_neg hc, spl_run X _ r (fun d hd => h d (by simp [hd]))]
    simp
theorem decN_sp (n b0 b1 b2 b3 : Nat) : ((decodeN n b0 b1 b2 b3).1 = 32 → b0 = 32 ∧ (decodeN n b0 b1 b2 b3).2 = 1) ∧ ((decodeN n b0 b1 b2 b3).1 ≠ 32 → b0 ≠ 32 ∧ (1 < (decodeN n b0 b1 b2 b3).2 → b1 ≠ 32) ∧ (2 < (decodeN n b0 b1 b2 b3).2 → b2 ≠ 32) ∧ (3 < (decodeN n b0 b1 b2 b3).2 → b3 ≠ 32)) ∧ (decodeN n b0 b1 b2 b3).2 ≤ 4 ∧ 1 ≤ (decodeN n b0 b1 b2 b3).2 := by
  unfold decodeN
  repeat' split
  all_goals (refine ⟨fun h => ⟨?_, ?_⟩, fun h => ⟨?_, fun _ => ?_, fun _ => ?_, fun _ => ?_⟩, ?_, ?_⟩ <;> (try simp only at *) <;> omega)
def noBl (l : List UInt8) : Bool := l.all fun c => c != 32
theorem get_list (s : ByteArray) (i : Nat) (h : i < s.size) : (s.get! i) = s.data.toList[i]'(by rw [← size_eq]; exact h) := by
  cases s with
  | mk d =>
    have h' : i < d.size := h
    simp [ByteArray.get!, h']
theorem take_four (l : List UInt8) (k : Nat) (c : UInt8) (hc : c ∈ l.take k) : ∃ j, j < k ∧ l[j]? = some c := by
  obtain ⟨j, hj, rfl⟩ := List.mem_iff_getElem.1 hc
  rw [List.length_take] at hj
  exact ⟨j, by omega, by rw [List.getElem_take, List.getElem?_eq_getElem (by omega)]⟩
theorem dec_take (s : ByteArray) (pos : Nat) (h : (Utf8.decode s pos).1 ≠ 32) : ∀ c ∈ (s.data.toList.drop pos).take (Utf8.decode s pos).2, c ≠ 32 := by
  intro c hc
  have hd := decN_sp (s.size - pos) (s.get! pos).toNat (s.get! (pos + 1)).toNat (s.get! (pos + 2)).toNat (s.get! (pos + 3)).toNat
  rw [← decode_at] at hd
  obtain ⟨_, h2, h4, _⟩ := hd
  obtain ⟨j, hj, hjc⟩ := take_four _ _ c hc
  rw [List.getElem?_drop] at hjc
  have hlt : pos + j < s.data.toList.length := by
    rcases Nat.lt_or_ge (pos + j) s.data.toList.length with h' | h'
    · exact h'
    · rw [List.getElem?_eq_none h'] at hjc; cases hjc
  have hg := get_list s (pos + j) (by rw [size_eq]; exact hlt)
  rw [List.getElem?_eq_getElem hlt] at hjc
  have hgc : s.get! (pos + j) = c := hg.trans (Option.some.inj hjc)
  obtain ⟨a0, a1, a2, a3⟩ := h2 h
  intro e
  have e32 : (s.get! (pos + j)).toNat = 32 := by rw [hgc, e]; rfl
  have : j = 0 ∨ j = 1 ∨ j = 2 ∨ j = 3 := by omega
  rcases this with rfl | rfl | rfl | rfl
  · exact a0 e32
  · exact a1 hj e32
  · exact a2 hj e32
  · exact a3 hj e32
theorem dec_blank (s : ByteArray) (pos : Nat) (hp : pos < s.size) (h : (Utf8.decode s pos).1 = 32) : (Utf8.decode s pos).2 = 1 ∧ s.data.toList.drop pos = 32 :: s.data.toList.drop (pos + 1) := by
  have hd := decN_sp (s.size - pos) (s.get! pos).toNat (s.get! (pos + 1)).toNat (s.get! (pos + 2)).toNat (s.get! (pos + 3)).toNat
  rw [← decode_at] at hd
  obtain ⟨h1, _⟩ := hd
  obtain ⟨a, b⟩ := h1 h
  refine ⟨b, ?_⟩
  have hl : pos < s.data.toList.length := by rw [← size_eq]; exact hp
  rw [List.drop_eq_getElem_cons hl]
  congr 1
  rw [← get_list s pos hp]
  exact UInt8.toNat_inj.1 a
theorem spans_sp (s : ByteArray) : ∀ (f pos : Nat) (st : Option Nat) (acc : List (Nat × Nat)), s.size ≤ pos + f → pos ≤ s.size → (∀ a, st = some a → a < pos) →
    acc.map (fun p => pieceU s.data.toList p.1 p.2) ++ (spl (openPiece s.data.toList st pos) (s.data.toList.drop pos)).filter (fun x => !x.isEmpty) = (closeSpans s (spansFromP spN s f pos st acc)).map (fun p => pieceU s.data.toList p.1 p.2)
  | 0, pos, st, acc, h, hp, hst => by
    obtain rfl : pos = s.size := by omega
    have hd : s.data.toList.drop s.size = [] := List.drop_eq_nil_of_le (by rw [← size_eq]; exact Nat.le_refl _)
    rw [hd]
    cases st with
    | none => simp [spansFromP, closeSpans, openPiece, spl]
    | some a =>
      have := pieceU_ne s.data.toList a s.size (hst a rfl) (by rw [← size_eq]; exact Nat.le_refl _)
      simp [spansFromP, closeSpans, openPiece, spl, this]
  | f + 1, pos, st, acc, h, hp, hst => by
    by_cases hlt : pos < s.size
    · have hw := width_pos s pos
      have hwn : pos + (Utf8.decode s pos).2 ≤ s.size := by
        have := decodeN_le_n' (s.size - pos) (s.get! pos).toNat (s.get! (pos + 1)).toNat (s.get! (pos + 2)).toNat (s.get! (pos + 3)).toNat (by omega)
        rw [← decode_at] at this
        omega
      simp only [spansFromP, if_pos hlt]
      by_cases hsp : (Utf8.decode s pos).1 = 32
      · have hs' : spN (Utf8.decode s pos).1 = true := by simp [spN, hsp]
        obtain ⟨hw1, hdr⟩ := dec_blank s pos hlt hsp
        rw [hs', if_pos rfl, hdr, spl, if_pos rfl]
        cases st with
        | none =>
          have ih := spans_sp s f (pos + (Utf8.decode s pos).2) none acc (by omega) hwn (fun a h => by cases h)
          rw [hw1] at ih
          simpa [openPiece, hw1] using ih
        | some a =>
          have hpn := pieceU_ne s.data.toList a pos (hst a rfl) (by rw [← size_eq]; omega)
          have ih := spans_sp s f (pos + (Utf8.decode s pos).2) none (acc ++ [(a, pos)]) (by omega) hwn (fun a h => by cases h)
          rw [hw1] at ih
          simpa [openPiece, hpn, hw1] using ih
      · have hs' : spN (Utf8.decode s pos).1 = false := by simp [spN, hsp]
        have hr : spl (openPiece s.data.toList st pos) (s.data.toList.drop pos) = spl (openPiece s.data.toList st pos ++ (s.data.toList.drop pos).take (Utf8.decode s pos).2) (s.data.toList.drop (pos + (Utf8.decode s pos).2)) := by
          rw [← spl_run _ _ _ (dec_take s pos hsp), ← List.drop_drop, List.take_append_drop]
        rw [hs', if_neg (by decide), hr]
        cases st with
        | none =>
          have ih := spans_sp s f (pos + (Utf8.decode s pos).2) (some pos) acc (by omega) hwn (fun a h => by cases h; omega)
          have e : ([] : List UInt8) ++ (s.data.toList.drop pos).take (Utf8.decode s pos).2 = pieceU s.data.toList pos (pos + (Utf8.decode s pos).2) := by
            unfold pieceU
            rw [List.nil_append, Nat.add_sub_cancel_left]
          simp only [openPiece] at ih ⊢
          rw [e]
          exact ih
        | some a =>
          have ih := spans_sp s f (pos + (Utf8.decode s pos).2) (some a) acc (by omega) hwn (fun b h => by cases h; have := hst a rfl; omega)
          simp only [openPiece] at ih ⊢
          rw [pieceU_grow _ _ _ _ (Nat.le_of_lt (hst a rfl))]
          exact ih
    · obtain rfl : pos = s.size := by omega
      have hd : s.data.toList.drop s.size = [] := List.drop_eq_nil_of_le (by rw [← size_eq]; exact Nat.le_refl _)
      rw [hd, spansFromP_end spN s _ _ _ _ hlt]
      cases st with
      | none => simp [closeSpans, openPiece, spl]
      | some a =>
        have := pieceU_ne s.data.toList a s.size (hst a rfl) (by rw [← size_eq]; exact Nat.le_refl _)
        simp [closeSpans, openPiece, spl, this]
theorem fields_spl (s : ByteArray) : (goFieldsP spN s).map (·.data.toList) = (spl [] s.data.toList).filter (fun x => !x.isEmpty) := by
  have h := spans_sp s s.size 0 none [] (by omega) (Nat.zero_le _) (fun a h => by cases h)
  simp only [List.map_nil, List.nil_append, openPiece, List.drop_zero] at h
  rw [h]
  unfold goFieldsP spansOfP
  rw [List.map_map]
  congr 1
  funext p
  simp [pieceU]
/-- The words of a text. -/
def wsOf (s : ByteArray) : List ByteArray := goFieldsP spN s
theorem list_inj {a b : List ByteArray} (h : a.map (·.data.toList) = b.map (·.data.toList)) : a = b := by
  induction a generalizing b with
  | nil => cases b with
    | nil => rfl
    | cons y b => simp at h
  | cons x a ih => cases b with
    | nil => simp at h
    | cons y b =>
      simp only [List.map_cons, List.cons.injEq] at h
      rw [ByteArray.ext (Array.toList_inj.1 h.1), ih h.2]
theorem ws_of_spl (s : ByteArray) (o : List ByteArray) (h : o.map (·.data.toList) = spl [] s.data.toList) : o.filter (fun x => decide (x.size ≠ 0)) = wsOf s := by
  apply list_inj
  rw [wsOf, fields_spl, ← h, List.filter_map]
  congr 1
  apply List.filter_congr
  intro x _
  have : x.size = x.data.toList.length := size_eq x
  cases hx : x.data.toList with
  | nil => rw [hx] at this; simp [this, hx]
  | cons a l => rw [hx] at this; simp [this, hx]
theorem ws_ne (s : ByteArray) : ∀ x ∈ wsOf s, x.size ≠ 0 := by
  intro x hx h0
  have h1 : x.data.toList ∈ (wsOf s).map (·.data.toList) := List.mem_map_of_mem hx
  rw [wsOf, fields_spl, List.mem_filter] at h1
  have h2 := h1.2
  have h3 : x.data.toList = [] := List.eq_nil_of_length_eq_zero (by rw [← size_eq]; exact h0)
  rw [h3] at h2
  simp at h2
theorem spl_len : ∀ (l cur : List UInt8), (spl cur l).length ≤ l.length + 1 ∧ ∀ x ∈ spl cur l, x.length ≤ cur.length + l.length
  | [], cur => by simp [spl]
  | c :: r, cur => by
    rw [spl]
    split
    · have ih := spl_len r []
      refine ⟨by simp; exact ih.1, fun x hx => ?_⟩
      rcases List.mem_cons.1 hx with rfl | hx
      · omega
      · have := ih.2 x hx; simp at this ⊢; omega
    · have ih := spl_len r (cur ++ [c])
      refine ⟨by simp; omega, fun x hx => ?_⟩
      have := ih.2 x hx; simp at this ⊢; omega
theorem ws_len (s : ByteArray) : (wsOf s).length ≤ s.size + 1 := by
  have h := congrArg List.length (fields_spl s)
  rw [List.length_map] at h
  rw [wsOf, h, size_eq s]
  exact Nat.le_trans (List.length_filter_le _ _) (spl_len _ _).1
theorem ws_size (s : ByteArray) : ∀ x ∈ wsOf s, x.size ≤ s.size := by
  intro x hx
  have h1 : x.data.toList ∈ (wsOf s).map (·.data.toList) := List.mem_map_of_mem hx
  rw [wsOf, fields_spl, List.mem_filter] at h1
  have := (spl_len s.data.toList []).2 _ h1.1
  rw [size_eq x, size_eq s]
  simpa using this
end Go.Proofs.YtimlnbfalnkmhaaGreatDoor

/-
  Words joined by blanks, and parted again; with more blanks; how many there are. Of no function.
-/
namespace Go.Proofs.YtimlnbfalnkmhaaGreatDoor
open Go.RowKit Go.Lib
set_option linter.unusedVariables false

def jnL : List (List UInt8) → List UInt8
  | [] => []
  | [w] => w
  | w :: x :: r => w ++ 32 :: jnL (x :: r)
def NoSp (w : List UInt8) : Prop := ∀ c ∈ w, c ≠ 32
theorem spl_jn : ∀ (ws : List (List UInt8)), ws ≠ [] → (∀ w ∈ ws, NoSp w) → spl [] (jnL ws) = ws
  | [], h, _ => absurd rfl h
  | [w], _, h => by
    have := spl_run w [] [] (h w (by simp))
    simp only [List.append_nil, List.nil_append] at this
    rw [jnL, this, spl]
  | w :: x :: r, _, h => by
    rw [jnL, spl_run w [] _ (h w (by simp)), List.nil_append, spl, if_pos rfl, spl_jn (x :: r) (by simp) (fun y hy => h y (List.mem_cons_of_mem _ hy))]
/-- Each blank twice. -/
def wid : List UInt8 → List UInt8
  | [] => []
  | c :: r => if c = 32 then 32 :: 32 :: wid r else c :: wid r
theorem wid_run : ∀ (X r : List UInt8), NoSp X → wid (X ++ r) = X ++ wid r
  | [], r, _ => by simp
  | c :: X, r, h => by
    have hc : c ≠ 32 := h c (by simp)
    rw [List.cons_append, wid, if_neg hc, wid_run X r (fun d hd => h d (by simp [hd]))]
    simp
theorem wid_snoc : ∀ (X : List UInt8) (c : UInt8), wid (X ++ [c]) = wid X ++ if c = 32 then [32, 32] else [c]
  | [], c => by by_cases h : c = 32 <;> simp [wid, h]
  | d :: X, c => by
    rw [List.cons_append, wid, wid, wid_snoc X c]
    by_cases h : d = 32 <;> simp [h]
def neL (x : List UInt8) : Bool := !x.isEmpty
theorem spl_wid : ∀ (ws : List (List UInt8)), ws ≠ [] → (∀ w ∈ ws, NoSp w ∧ w ≠ []) → (spl [] (wid (jnL ws) ++ [32])).filter neL = ws
  | [], h, _ => absurd rfl h
  | [w], _, h => by
    obtain ⟨h1, h2⟩ := h w (by simp)
    have hw := wid_run w [] h1
    simp only [List.append_nil] at hw
    rw [jnL, hw, wid, List.append_nil, spl_run w [] _ h1, List.nil_append, spl, if_pos rfl, spl]
    cases w with
    | nil => exact absurd rfl h2
    | cons c w => rfl
  | w :: x :: r, _, h => by
    obtain ⟨h1, h2⟩ := h w (by simp)
    have ih := spl_wid (x :: r) (by simp) (fun y hy => h y (List.mem_cons_of_mem _ hy))
    rw [jnL, wid_run w _ h1, wid, if_pos rfl, List.append_assoc, spl_run w [] _ h1, List.nil_append, List.cons_append, List.cons_append, spl, if_pos rfl, spl, if_pos rfl]
    cases w with
    | nil => exact absurd rfl h2
    | cons c w =>
      rw [List.filter_cons_of_pos (by rfl), List.filter_cons_of_neg (by simp [neL]), ih]
theorem spl_wide {ws : List (List UInt8)} (hn : ws ≠ []) (h : ∀ w ∈ ws, NoSp w ∧ w ≠ []) : (spl [] (32 :: (wid (jnL ws) ++ [32]))).filter neL = ws := by
  rw [spl, if_pos rfl, List.filter_cons_of_neg (by simp [neL]), spl_wid ws hn h]
/-- How many words begin. -/
def wcnt : Bool → List UInt8 → Nat
  | _, [] => 0
  | b, c :: r => (if c ≠ 32 ∧ b = true then 1 else 0) + wcnt (decide (c = 32)) r
theorem spl_cnt : ∀ (l cur : List UInt8), ((spl cur l).filter neL).length = (if cur = [] then 0 else 1) + wcnt (decide (cur = [])) l
  | [], cur => by
    rw [spl]
    cases cur with
    | nil => simp [neL, wcnt]
    | cons c r => simp [neL, wcnt]
  | c :: r, cur => by
    rw [spl]
    by_cases h : c = 32
    · subst h
      rw [if_pos rfl, wcnt]
      have ih := spl_cnt r []
      cases cur with
      | nil => rw [List.filter_cons_of_neg (by simp [neL]), ih]; simp
      | cons d q => rw [List.filter_cons_of_pos (by rfl), List.length_cons, ih]; simp; omega
    · rw [if_neg h, spl_cnt r (cur ++ [c]), wcnt]
      cases cur with
      | nil => simp [h]
      | cons d q => simp [h]
def lastB (b : Bool) (l : List UInt8) : Bool := match l.getLast? with
  | some c => decide (c = 32)
  | none => b
theorem wcnt_snoc : ∀ (l : List UInt8) (b : Bool) (c : UInt8), wcnt b (l ++ [c]) = wcnt b l + if c ≠ 32 ∧ lastB b l = true then 1 else 0
  | [], b, c => by
    show (if c ≠ 32 ∧ b = true then 1 else 0) + 0 = 0 + (if c ≠ 32 ∧ b = true then 1 else 0)
    omega
  | d :: r, b, c => by
    rw [List.cons_append, wcnt, wcnt, wcnt_snoc r _ c]
    have : lastB (decide (d = 32)) r = lastB b (d :: r) := by
      unfold lastB
      cases r with
      | nil => rfl
      | cons e q =>
        obtain ⟨z, hz⟩ : ∃ z, (e :: q).getLast? = some z := ⟨_, List.getLast?_eq_some_getLast (by simp)⟩
        rw [List.getLast?_cons_cons, hz]
    rw [this]
    omega
theorem wcnt_take {l : List UInt8} {k : Nat} (h : k < l.length) : wcnt true (l.take (k + 1)) = wcnt true (l.take k) + if l[k] ≠ 32 ∧ (k = 0 ∨ ∃ h0 : 0 < k, l[k - 1]'(by omega) = 32) then 1 else 0 := by
  rw [List.take_succ_eq_append_getElem h, wcnt_snoc]
  congr 1
  have : (lastB true (l.take k) = true) ↔ (k = 0 ∨ ∃ h0 : 0 < k, l[k - 1]'(by omega) = 32) := by
    unfold lastB
    cases k with
    | zero => simp
    | succ j =>
      rw [List.take_succ_eq_append_getElem (by omega), List.getLast?_append]
      simp
  by_cases h1 : l[k] = 32
  · rw [if_neg (fun q => q.1 h1), if_neg (fun q => q.1 h1)]
  · by_cases h2 : lastB true (l.take k) = true
    · rw [if_pos ⟨h1, h2⟩, if_pos ⟨h1, this.1 h2⟩]
    · rw [if_neg (fun q => h2 q.2), if_neg (fun q => h2 (this.2 q.2))]
end Go.Proofs.YtimlnbfalnkmhaaGreatDoor
