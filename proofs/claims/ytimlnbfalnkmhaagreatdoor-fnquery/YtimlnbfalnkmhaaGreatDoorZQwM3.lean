/-
  Texts put together: QwM, JnB, ShFi.
-/
import Derived.Test.YtimlnbfalnkmhaaGreatDoorZQrM
import Derived.Test.YtimlnbfalnkmhaaGreatDoorZQpF4
import Derived.Test.YtimlnbfalnkmhaaGreatDoorRows
import Derived.Shelf.Strconv.Itoa4
/-
  The words with which a right Query is written: short, not empty, without blanks. Of no function.
-/
namespace Go.Proofs.YtimlnbfalnkmhaaGreatDoor
open Go.RowKit
set_option linter.unusedVariables false

def WdOk (x : ByteArray) : Prop := 1 ≤ x.size ∧ x.size ≤ 20 ∧ NoSp x.data.toList
theorem okC_sp (j : Nat) : okC j 32 = false := by
  have h1 : letC 32 = false := by decide
  have h2 : namC 32 = false := by decide
  unfold okC
  simp [h1, h2]
theorem wd_nr {t : ByteArray} (h : nrB t = true) : WdOk t := by
  unfold nrB at h
  simp only [Bool.and_eq_true, decide_eq_true_eq] at h
  obtain ⟨h1, h2, h3⟩ := h
  refine ⟨h1, h2, fun c hc he => ?_⟩
  obtain ⟨j, hj, rfl⟩ := List.mem_iff_getElem.1 hc
  have hs : j < t.size := by simpa using hj
  have := h3 j hs
  have e : t[j] = t.data.toList[j] := by cases t; rfl
  rw [e, he] at this
  have h32 : ((32 : UInt8).toNat : Int) = 32 := rfl
  rw [h32, okC_sp] at this
  cases this
theorem wd_dec {n : Int} (h0 : 0 ≤ n) (h1 : n ≤ 1000000) : WdOk (decI n) := by
  have hsp : NoSp (decI n).data.toList := fun c hc he => by
    have := dec_nosp n c hc
    subst he
    exact absurd this (by decide)
  unfold decI at hsp ⊢
  by_cases hz : n = 0
  · rw [if_pos hz] at hsp ⊢
    exact ⟨by decide, by decide, hsp⟩
  · rw [if_neg hz] at hsp ⊢
    obtain ⟨k, rfl⟩ := Int.eq_ofNat_of_zero_le h0
    rw [Int.toNat_natCast] at hsp ⊢
    have hk : k < 10 ^ 7 := by omega
    have hs : (⟨(decL 20 k).toArray⟩ : ByteArray).size = (decL 20 k).length := by show (decL 20 k).toArray.size = _; simp
    have hv := val_dec 20 k (Nat.lt_of_lt_of_le hk (Nat.pow_le_pow_right (by decide) (by decide)))
    have hl : 1 ≤ (decL 20 k).length := by
      rcases Nat.eq_zero_or_pos (decL 20 k).length with q | q
      · rw [List.eq_nil_of_length_eq_zero q] at hv
        have : (0 : Int) = k := hv
        omega
      · exact q
    have := dec_len 20 7 k hk
    exact ⟨by omega, by omega, hsp⟩
theorem wd_cst {x : ByteArray} (h : (decide (1 ≤ x.size) && (decide (x.size ≤ 20) && x.data.toList.all (fun c => c != 32))) = true) : WdOk x := by
  simp only [Bool.and_eq_true, decide_eq_true_eq, List.all_eq_true] at h
  exact ⟨h.1, h.2.1, fun c hc he => by have := h.2.2 c hc; rw [he] at this; cases this⟩
theorem wd_num {f : ByteArray} (h : numF f = true) : WdOk f := by
  unfold numF at h
  simp only [Bool.or_eq_true, decide_eq_true_eq] at h
  rcases h with (rfl | rfl) | rfl <;> exact wd_cst (by decide)
theorem wd_wrd {f : ByteArray} (h : wrdF f = true) : WdOk f := by
  unfold wrdF at h
  simp only [Bool.or_eq_true, decide_eq_true_eq] at h
  rcases h with (rfl | rfl) | rfl <;> exact wd_cst (by decide)
theorem wd_fld {f : ByteArray} (h : isF f = true) : WdOk f := by
  unfold isF at h
  rcases Bool.or_eq_true_iff.1 h with h | h
  · exact wd_num h
  · exact wd_wrd h
theorem wd_numO {f : ByteArray} (h : numO f = true) : WdOk f := by
  unfold numO at h
  simp only [Bool.or_eq_true, decide_eq_true_eq] at h
  rcases h with ((((rfl | rfl) | rfl) | rfl) | rfl) | rfl <;> exact wd_cst (by decide)
theorem wd_wrdO {f : ByteArray} (h : wrdO f = true) : WdOk f := by
  unfold wrdO at h
  simp only [Bool.or_eq_true, decide_eq_true_eq] at h
  rcases h with rfl | rfl <;> exact wd_cst (by decide)
theorem wd_cd {c : Cd} (h : cdB c = true) : WdOk c.fld ∧ WdOk c.op ∧ WdOk (opnd c) := by
  unfold cdB at h
  unfold opnd
  by_cases hf : numF c.fld = true
  · rw [if_pos hf] at h ⊢
    simp only [Bool.and_eq_true, decide_eq_true_eq] at h
    exact ⟨wd_num hf, wd_numO h.1, wd_dec h.2.2.1 h.2.2.2⟩
  · rw [if_neg hf] at h ⊢
    simp only [Bool.and_eq_true, decide_eq_true_eq] at h
    refine ⟨wd_wrd h.1, wd_wrdO h.2.1, ?_⟩
    have hw := h.2.2.1
    unfold wrdR at hw
    split at hw
    · exact wd_nr (isK_nr hw)
    · exact wd_nr hw
theorem wd_cdW {c : Cd} (h : cdB c = true) {lead : ByteArray} (hl : WdOk lead) : ∀ x ∈ cdW lead c, WdOk x := by
  obtain ⟨h1, h2, h3⟩ := wd_cd h
  intro x hx
  simp only [cdW, List.mem_cons, List.not_mem_nil, or_false] at hx
  rcases hx with rfl | rfl | rfl | rfl
  · exact hl
  · exact h1
  · exact h2
  · exact h3
theorem wd_csW {cs : List Cd} (h : ∀ c ∈ cs, cdB c = true) : ∀ x ∈ csW cs, WdOk x := by
  intro x hx
  cases cs with
  | nil => cases hx
  | cons c r =>
    rcases List.mem_append.1 hx with hx | hx
    · exact wd_cdW (h c (by simp)) (wd_cst (by decide)) x hx
    · unfold mrW at hx
      obtain ⟨d, hd, hx⟩ := List.mem_flatMap.1 hx
      exact wd_cdW (h d (by simp [hd])) (wd_cst (by decide)) x hx
theorem by_parts {q : Qy} (h : qyB q = true) : q.cs.length ≤ 6 ∧ (∀ c ∈ q.cs, cdB c = true) ∧ (q.by' = noW ∨ isF q.by' = true) ∧ (q.ord = noW ∨ numF q.ord = true) ∧ (q.lim = -1 ∨ (0 ≤ q.lim ∧ q.lim ≤ 200)) := by
  unfold qyB byB at h
  simp only [Bool.and_eq_true, decide_eq_true_eq] at h
  obtain ⟨h6, hall, hby⟩ := h
  refine ⟨h6, List.all_eq_true.1 hall, ?_⟩
  by_cases hc : q.cnt = true
  · rw [if_pos hc] at hby
    simp only [Bool.and_eq_true, Bool.or_eq_true, decide_eq_true_eq] at hby
    exact ⟨hby.1, .inl hby.2.1, .inl hby.2.2.2⟩
  · rw [if_neg hc] at hby
    simp only [Bool.and_eq_true, Bool.or_eq_true, decide_eq_true_eq] at hby
    refine ⟨.inl hby.1, ?_, by omega⟩
    rcases hby.2.1 with h | h
    · exact .inr h
    · exact .inl h.1
theorem wd_all {q : Qy} (h : qyB q = true) : ∀ x ∈ qW q, WdOk x := by
  obtain ⟨h6, hall, hby, hord, hlim⟩ := by_parts h
  intro x hx
  unfold qW tlW at hx
  simp only [List.mem_cons, List.mem_append] at hx
  rcases hx with rfl | hx | hx | hx | hx | hx
  · split <;> exact wd_cst (by decide)
  · exact wd_csW hall x hx
  · unfold byW at hx
    split at hx
    · cases hx
    · rename_i hn
      simp only [List.mem_cons, List.not_mem_nil, or_false] at hx
      rcases hx with rfl | rfl
      · exact wd_cst (by decide)
      · exact wd_fld (hby.resolve_left hn)
  · unfold orW at hx
    split at hx
    · cases hx
    · rename_i hn
      simp only [List.mem_cons, List.not_mem_nil, or_false] at hx
      rcases hx with rfl | rfl
      · exact wd_cst (by decide)
      · exact wd_num (hord.resolve_left hn)
  · unfold dwW at hx
    split at hx
    · simp only [List.mem_cons, List.not_mem_nil, or_false] at hx
      subst hx; exact wd_cst (by decide)
    · cases hx
  · unfold liW at hx
    split at hx
    · cases hx
    · rename_i hn
      simp only [List.mem_cons, List.not_mem_nil, or_false] at hx
      rcases hx with rfl | rfl
      · exact wd_cst (by decide)
      · have := hlim.resolve_left hn
        exact wd_dec this.1 (by omega)
theorem qW_len {q : Qy} (h : qyB q = true) : (qW q).length ≤ 32 := by
  have h6 := (by_parts h).1
  unfold qW tlW
  rw [List.length_cons, List.length_append, List.length_append, List.length_append, List.length_append, csW_len]
  have h1 : (byW q).length ≤ 2 := by unfold byW; split <;> simp
  have h2 : (orW q).length ≤ 2 := by unfold orW; split <;> simp
  have h3 : (dwW q).length ≤ 1 := by unfold dwW; split <;> simp
  have h4 : (liW q).length ≤ 2 := by unfold liW; split <;> simp
  omega
theorem jn_len : ∀ (ws : List (List UInt8)), (∀ w ∈ ws, w.length ≤ 20) → (jnL ws).length ≤ 21 * ws.length
  | [], _ => by simp [jnL]
  | [w], h => by have := h w (by simp); simp [jnL]; omega
  | w :: x :: r, h => by
    have h1 := h w (by simp)
    have h2 := jn_len (x :: r) (fun y hy => h y (List.mem_cons_of_mem _ hy))
    rw [jnL, List.length_append, List.length_cons, List.length_cons]
    omega
/-- How a right Query is written. -/
def qT (q : Qy) : ByteArray := ⟨(jnL ((qW q).map (·.data.toList))).toArray⟩
theorem qT_size {q : Qy} (h : qyB q = true) : (jnL ((qW q).map (·.data.toList))).length ≤ 700 := by
  have h1 := jn_len ((qW q).map (·.data.toList)) (fun w hw => by
    obtain ⟨x, hx, rfl⟩ := List.mem_map.1 hw
    have := (wd_all h x hx).2.1
    simpa using this)
  rw [List.length_map] at h1
  have := qW_len h
  omega
end Go.Proofs.YtimlnbfalnkmhaaGreatDoor

/-
  Words joined by blanks, one behind the other. Of no function.
-/
namespace Go.Proofs.YtimlnbfalnkmhaaGreatDoor
open Go.RowKit
set_option linter.unusedVariables false

abbrev spW : ByteArray := ⟨#[32]⟩
def jnB (ws : List ByteArray) : ByteArray := ⟨(jnL (ws.map (·.data.toList))).toArray⟩
theorem jn_snoc : ∀ (ws : List (List UInt8)) (x : List UInt8), ws ≠ [] → jnL (ws ++ [x]) = jnL ws ++ 32 :: x
  | [], x, h => absurd rfl h
  | [w], x, _ => by simp [jnL]
  | w :: y :: r, x, _ => by
    have ih := jn_snoc (y :: r) x (by simp)
    simp only [List.cons_append] at ih ⊢
    rw [jnL, jnL, ih]
    simp
theorem jnB_snoc {ws : List ByteArray} (x : ByteArray) (h : ws ≠ []) : jnB (ws ++ [x]) = (jnB ws ++ spW) ++ x := by
  unfold jnB
  rw [List.map_append, List.map_singleton, jn_snoc _ _ (by simpa using h)]
  apply ByteArray.ext
  simp
theorem jnB_two {ws : List ByteArray} (x y : ByteArray) (h : ws ≠ []) : jnB (ws ++ [x, y]) = (jnB ws ++ (spW ++ x ++ spW)) ++ y := by
  rw [show ws ++ [x, y] = (ws ++ [x]) ++ [y] by simp, jnB_snoc y (by simp), jnB_snoc x h]
  apply ByteArray.ext
  simp
theorem jnB_cd {ws : List ByteArray} (lead : ByteArray) (c : Cd) (h : ws ≠ []) : jnB (ws ++ cdW lead c) = (((((jnB ws ++ (spW ++ lead ++ spW)) ++ c.fld) ++ spW) ++ c.op) ++ spW) ++ opnd c := by
  unfold cdW
  rw [show ws ++ [lead, c.fld, c.op, opnd c] = ((ws ++ [lead, c.fld]) ++ [c.op]) ++ [opnd c] by simp, jnB_snoc _ (by simp), jnB_snoc _ (by simp), jnB_two _ _ h]
theorem jnB_size {ws : List ByteArray} (h : ∀ x ∈ ws, WdOk x) : (jnB ws).size ≤ 21 * ws.length := by
  have h1 := jn_len (ws.map (·.data.toList)) (fun w hw => by
    obtain ⟨x, hx, rfl⟩ := List.mem_map.1 hw
    have := (h x hx).2.1
    simpa using this)
  rw [List.length_map] at h1
  show (jnL _).toArray.size ≤ _
  simpa using h1
theorem jnB_one (x : ByteArray) : jnB [x] = x := by
  unfold jnB
  apply ByteArray.ext
  simp [jnL]
theorem jnB_pre {q : Qy} {A B : List ByteArray} (h : qyB q = true) (e : qW q = A ++ B) : (jnB A).size ≤ 700 := by
  have h1 := jnB_size (ws := A) (fun x hx => wd_all h x (by rw [e]; exact List.mem_append_left _ hx))
  have h2 := qW_len h
  rw [e, List.length_append] at h2
  omega
theorem qT_jnB (q : Qy) : qT q = jnB (qW q) := rfl
end Go.Proofs.YtimlnbfalnkmhaaGreatDoor

/-
  The library's contracts (the shelf's), laid at the seat's program.
-/
namespace Go.Proofs.YtimlnbfalnkmhaaGreatDoor.Sfi
open Go.Shelf Go.RowKit
def lays173_ren : Ren := ⟨fun | 173 => 136 | 246 => 157 | 283 => 175 | 284 => 176 | 285 => 177 | 286 => 178 | 129 => 189 | 317 => 188 | 318 => 190 | 319 => 191 | 320 => 192 | 337 => 216 | 338 => 217 | n => n, fun | 2 => 2 | 3 => 3 | 9 => 9 | 4 => 4 | 171 => 211 | 0 => 0 | 53 => 112 | 37 => 22 | 5 => 5 | 173 => 214 | 212 => 225 | 51 => 226 | 20 => 20 | 213 => 227 | 46 => 139 | 232 => 253 | 233 => 254 | n => n, fun | 17 => 3 | 18 => 4 | 19 => 5 | n => n⟩
theorem lays173 : Go.Proofs.LaysM.n173 Tryz.prog lays173_ren := {
  mixed := by kernel_rfl
  f129 := Tryz.func189.trans (congrArg some (by kernel_rfl))
  f173 := Tryz.func136.trans (congrArg some (by kernel_rfl))
  f246 := Tryz.func157.trans (congrArg some (by kernel_rfl))
  f283 := Tryz.func175.trans (congrArg some (by kernel_rfl))
  f284 := Tryz.func176.trans (congrArg some (by kernel_rfl))
  f285 := Tryz.func177.trans (congrArg some (by kernel_rfl))
  f286 := Tryz.func178.trans (congrArg some (by kernel_rfl))
  f317 := Tryz.func188.trans (congrArg some (by kernel_rfl))
  f318 := Tryz.func190.trans (congrArg some (by kernel_rfl))
  f319 := Tryz.func191.trans (congrArg some (by kernel_rfl))
  f320 := Tryz.func192.trans (congrArg some (by kernel_rfl))
  f337 := Tryz.func216.trans (congrArg some (by kernel_rfl))
  f338 := Tryz.func217.trans (congrArg some (by kernel_rfl))
  t0 := Tryz.underlying0
  a0 := Tryz.isAgg0
  z0 := Tryz.sizeOf0
  v0 := Tryz.zeroValue0
  t2 := Tryz.underlying2
  a2 := Tryz.isAgg2
  z2 := Tryz.sizeOf2
  v2 := Tryz.zeroValue2
  t3 := Tryz.underlying3
  a3 := Tryz.isAgg3
  z3 := Tryz.sizeOf3
  v3 := Tryz.zeroValue3
  t4 := Tryz.underlying4
  a4 := Tryz.isAgg4
  z4 := Tryz.sizeOf4
  v4 := Tryz.zeroValue4
  t5 := Tryz.underlying5
  a5 := Tryz.isAgg5
  z5 := Tryz.sizeOf5
  v5 := Tryz.zeroValue5
  t9 := Tryz.underlying9
  a9 := Tryz.isAgg9
  z9 := Tryz.sizeOf9
  v9 := Tryz.zeroValue9
  t20 := Tryz.underlying20
  a20 := Tryz.isAgg20
  z20 := Tryz.sizeOf20
  v20 := Tryz.zeroValue20
  t37 := Tryz.underlying22
  a37 := Tryz.isAgg22
  z37 := Tryz.sizeOf22
  v37 := Tryz.zeroValue22
  t46 := Tryz.underlying139
  a46 := Tryz.isAgg139
  z46 := Tryz.sizeOf139
  v46 := Tryz.zeroValue139
  t51 := Tryz.underlying226
  a51 := Tryz.isAgg226
  z51 := Tryz.sizeOf226
  v51 := Tryz.zeroValue226
  t53 := Tryz.underlying112
  a53 := Tryz.isAgg112
  z53 := Tryz.sizeOf112
  v53 := Tryz.zeroValue112
  t171 := Tryz.underlying211
  a171 := Tryz.isAgg211
  z171 := Tryz.sizeOf211
  v171 := Tryz.zeroValue211
  t173 := Tryz.underlying214
  a173 := Tryz.isAgg214
  z173 := Tryz.sizeOf214
  v173 := Tryz.zeroValue214
  t212 := Tryz.underlying225
  a212 := Tryz.isAgg225
  z212 := Tryz.sizeOf225
  v212 := Tryz.zeroValue225
  t213 := Tryz.underlying227
  a213 := Tryz.isAgg227
  z213 := Tryz.sizeOf227
  t232 := Tryz.underlying253
  a232 := Tryz.isAgg253
  z232 := Tryz.sizeOf253
  v232 := Tryz.zeroValue253
  t233 := Tryz.underlying254
  a233 := Tryz.isAgg254
  z233 := Tryz.sizeOf254
  v233 := Tryz.zeroValue254
  g17 := by kernel_rfl
  g18 := by kernel_rfl
  g19 := by kernel_rfl
  i0 := by kernel_rfl
  i2 := by kernel_rfl
  i3 := by kernel_rfl
  i4 := by kernel_rfl
  i5 := by kernel_rfl
  i9 := by kernel_rfl
  i20 := by kernel_rfl
  i37 := by kernel_rfl
  i46 := by kernel_rfl
  i51 := by kernel_rfl
  i53 := by kernel_rfl
  i171 := by kernel_rfl
  i173 := by kernel_rfl
  i212 := by kernel_rfl
  i232 := by kernel_rfl
  i233 := by kernel_rfl
  m17 := by kernel_rfl
  m18 := by kernel_rfl
  m19 := by kernel_rfl }
end Go.Proofs.YtimlnbfalnkmhaaGreatDoor.Sfi
