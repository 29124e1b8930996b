/-
  Queries: what spec.l01Split answers: a contract over the seat's program.
-/
import Derived.Test.YthgmphmghnonbaaDoorZFd
import Derived.Test.YthgmphmghnonbaaDoorZStrs
import Derived.Test.YthgmphmghnonbaaDoorZGen
namespace Go.Proofs.YthgmphmghnonbaaDoor
open Go.RowKit Go.Lib

theorem str1_new (V : World) (x : ByteArray) (T : TypeId) : ∀ j u, [Value.string x][j]? = some u → (V.alloc (.cells #[.string x] T)).cell? ((⟨V.heap.size, 0, none⟩ : Addr).add j) = some u := by
  intro j u hj
  rw [Addr.add_lit, Lib.cell_of_heap (heap_alloc_new _ _), Nat.zero_add, ← hj]
  simp
theorem strs_snoc (l : List ByteArray) (x : ByteArray) : (l ++ [x]).map Value.string = l.map Value.string ++ [.string x] := by simp
theorem piece_step {l : List UInt8} {a k : Nat} (ha : a ≤ k) (hk : k < l.length) : pieceU l a k ++ [l[k]] = pieceU l a (k + 1) := by
  rw [← pieceU_grow l a k 1 ha]
  congr 1
  rw [List.drop_eq_getElem_cons hk]
  rfl
theorem piece_self (l : List UInt8) (a : Nat) : pieceU l a a = [] := by simp [pieceU]
/-- What is left to part at a place, behind what is closed. -/
def SpR (s : ByteArray) (a k : Nat) (o : List ByteArray) : Prop := a ≤ k ∧ k ≤ s.size ∧ o.map (·.data.toList) ++ spl (pieceU s.data.toList a k) (s.data.toList.drop k) = spl [] s.data.toList
theorem SpR.start (s : ByteArray) : SpR s 0 0 [] := ⟨Nat.le_refl _, Nat.zero_le _, by simp [pieceU]⟩
theorem SpR.blank {s : ByteArray} {a k : Nat} {o : List ByteArray} (h : SpR s a k o) (hk : k < s.size) (hb : (s[k].toNat : Int) = 32) : SpR s (k + 1) (k + 1) (o ++ [s.extract a k]) := by
  obtain ⟨h1, h2, h3⟩ := h
  have hl : k < s.data.toList.length := by rw [← size_eq]; exact hk
  have hc : s.data.toList[k] = 32 := by
    have : s[k].toNat = 32 := by omega
    have e : s.data.toList[k] = s[k] := by cases s; rfl
    rw [e]; exact UInt8.toNat_inj.1 this
  refine ⟨Nat.le_refl _, hk, ?_⟩
  rw [List.drop_eq_getElem_cons hl, spl, if_pos hc] at h3
  rw [piece_self, ← h3]
  simp [pieceU]
theorem SpR.step {s : ByteArray} {a k : Nat} {o : List ByteArray} (h : SpR s a k o) (hk : k < s.size) (hb : ¬ (s[k].toNat : Int) = 32) : SpR s a (k + 1) o := by
  obtain ⟨h1, h2, h3⟩ := h
  have hl : k < s.data.toList.length := by rw [← size_eq]; exact hk
  have hc : ¬ s.data.toList[k] = 32 := by
    have e : s.data.toList[k] = s[k] := by cases s; rfl
    rw [e]
    intro e2
    rw [e2] at hb
    exact hb rfl
  refine ⟨by omega, hk, ?_⟩
  rw [List.drop_eq_getElem_cons hl, spl, if_neg hc, piece_step h1 hl] at h3
  exact h3
theorem SpR.fin {s : ByteArray} {a : Nat} {o : List ByteArray} (h : SpR s a s.size o) : (o ++ [s.extract a s.size]).filter (fun x => decide (x.size ≠ 0)) = wsOf s := by
  apply ws_of_spl
  obtain ⟨h1, h2, h3⟩ := h
  have hd : s.data.toList.drop s.size = [] := List.drop_eq_nil_of_le (by rw [← size_eq]; exact Nat.le_refl _)
  rw [hd, spl] at h3
  rw [← h3]
  simp [pieceU]
set_option maxRecDepth 100000 in
set_option maxHeartbeats 2000000 in
theorem l01Split_any (s : ByteArray) (w : World) (hs : s.size ≤ 8000) :
    Calls Tryd.prog 9 #[.string s, .int .u8 32] w fun e w' => ∃ (v : Value) (o : List ByteArray), e = .returned v ∧ w'.ownsRow w.heap.size 9 1 v o.length (o.map Value.string) ∧ o.filter (fun x => decide (x.size ≠ 0)) = wsOf s ∧ o.length ≤ 8001 ∧ Below w.heap.size w w' := by
  obtain ⟨i0, hi, hz0, hz1, hz2⟩ := info_parts Tryd.infoStr
  go_enter Tryd.func9, Tryd.ntmps9
  go_wp2
  go_loopw [5, 6, 7] (fun v fv iv wr => ∃ (o : List ByteArray) (a k : Nat), fv = .int .i64 (a : Int) ∧ iv = .int .i64 (k : Int) ∧ o.length ≤ k ∧ Hid (SpR s a k o) ∧ wr.ownsRow w.heap.size 9 1 v o.length (o.map Value.string) ∧ Below w.heap.size w wr) (fun _ _ iv _ => s.size - (intOf iv).toNat)
  case atStart =>
    refine ⟨[], 0, 0, rfl, rfl, Nat.le_refl _, hid (SpR.start s), ?_, (Below.refl _ _).alloc (Nat.le_refl _) _⟩
    exact ⟨rfl, .inr ⟨_, 0, _, rfl, Nat.le_refl _, heap_alloc_new _ _, Nat.le_refl _, by unfold maxLen; omega, rfl, rfl⟩⟩
  case round =>
    obtain ⟨o, a, k, rfl, rfl, hok, hS, hown, hbel⟩ := hrel
    obtain ⟨va, vc, rfl⟩ := ownB_form hown
    have O := hid hown
    have B := hid hbel
    have hks := hS.out.2.1
    have hak := hS.out.1
    have hsz := hbel.size
    clear hown hbel
    by_cases hlt : k < s.size
    · have zk : (k : Int) < (s.size : Int) := by omega
      have zl : ((a : Int) ≤ (k : Int)) := by omega
      by_cases hb : (s[k].toNat : Int) = 32
      · have hS2 := hid (hS.out.blank hlt hb)
        have hb' : ((s[k].toNat : Int) == 32) = true := by rw [hb]; rfl
        have wn := str1_new wr (s.extract a k) 9
        go_wp2_with (first | (at_builtin; refine wpList_append_own _ rfl _ _ 32 rfl w.heap.size 9 i0 _ 1 16 Tryd.underlying32 hi hz0 hz1 hz2 rfl (by decide) _ _ _ rfl (O.out.alloc _) ⟨wr.heap.size, 0, none⟩ 1 1 [.string (s.extract a k)] rfl rfl ?c1 ?c2 ?c3 ?c4 ?c5 ?_) | fail)
        case c1 => exact wn
        case c2 => simp [Value.oneCell']
        case c3 => unfold maxLen; omega
        case c4 => omega
        case c5 => simp; omega
        intro v' w1 ho hg _
        have B1 := hid ((B.out.alloc hsz _).grown hg (by simp; omega) (fun j e => (O.out.lt j e).1))
        have O1 : Hid (w1.ownsRow w.heap.size 9 1 v' (o.length + 1) ((o ++ [s.extract a k]).map Value.string)) := hid (by rw [strs_snoc]; exact ho)
        obtain ⟨a', c', rfl⟩ := ownB_form ho
        clear ho hg O B hS wn
        go_wp2
        go_roundw
        case rel => exact ⟨o ++ [s.extract a k], k + 1, k + 1, by go_num, by go_num, by simp; omega, hS2, by have := O1.out; simpa using this, B1.out⟩
        case measure => simp [intOf]; omega
      · have hS2 := hid (hS.out.step hlt hb)
        have hb' : ((s[k].toNat : Int) == 32) = false := by rw [beq_eq_false_iff_ne]; exact hb
        clear hS
        go_wp2
        go_roundw
        case rel => exact ⟨o, a, k + 1, rfl, by go_num, by omega, hS2, O.out, B.out⟩
        case measure => simp [intOf]; omega
    · obtain rfl : k = s.size := by omega
      have hF := hid hS.out.fin
      have zl : ((a : Int) ≤ (s.size : Int)) := by omega
      have wn := str1_new wr (s.extract a s.size) 9
      go_wp2_with (first | (at_builtin; refine wpList_append_own _ rfl _ _ 32 rfl w.heap.size 9 i0 _ 1 16 Tryd.underlying32 hi hz0 hz1 hz2 rfl (by decide) _ _ _ rfl (O.out.alloc _) ⟨wr.heap.size, 0, none⟩ 1 1 [.string (s.extract a s.size)] rfl rfl ?c1 ?c2 ?c3 ?c4 ?c5 ?_) | fail)
      case c1 => exact wn
      case c2 => simp [Value.oneCell']
      case c3 => unfold maxLen; omega
      case c4 => omega
      case c5 => simp; omega
      intro v' w1 ho hg _
      have B1 := hid ((B.out.alloc hsz _).grown hg (by simp; omega) (fun j e => (O.out.lt j e).1))
      have O1 : Hid (w1.ownsRow w.heap.size 9 1 v' (o.length + 1) ((o ++ [s.extract a s.size]).map Value.string)) := hid (by rw [strs_snoc]; exact ho)
      obtain ⟨a', c', rfl⟩ := ownB_form ho
      clear ho hg O B hS wn
      go_wp2
      go_ret
      exact ⟨_, o ++ [s.extract a s.size], rfl, by have := O1.out; simpa using this, hF.out, by simp; omega, B1.out⟩
end Go.Proofs.YthgmphmghnonbaaDoor
