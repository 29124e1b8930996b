/-
  What impl.GetNum and impl.GetText answer where a number, or a text, was laid, and where its last byte is gone: contracts over the seat's program (in a world in which errors.errorType holds what errors.As wants).
-/
import Derived.Test.YtcjclioockjfhaaDoorNumLay
import Derived.Test.YtcjclioockjfhaaDoorPutT
import Derived.Test.YtcjclioockjfhaaDoorGetNumI
import Derived.Test.YtcjclioockjfhaaDoorGetTextI
namespace Go.Proofs.YtcjclioockjfhaaDoor
open Go.RowKit AsErr Get Put

def InB (r : Int) : Prop := -9223372036854775808 ≤ r ∧ r ≤ 9223372036854775807
/-- The bytes of a number. -/
def nT (n : Int) : ByteArray := strOfNums (put 9 (foldI n).toNat)
theorem nT_size (n : Int) : (nT n).size ≤ 10 := putS_size _
theorem nT_pos (n : Int) : 0 < (nT n).size := by
  unfold nT
  rw [strOfNums_size]
  have := put_ne 9 (foldI n).toNat
  cases h : put 9 (foldI n).toNat with
  | nil => exact absurd h this
  | cons a l => simp
theorem putT_nT (u : ByteArray) : putT u = nT (u.size : Int) ++ u := rfl
theorem app_toList (a b : ByteArray) : (a ++ b).data.toList = a.data.toList ++ b.data.toList := by simp [ByteArray.data_append]
theorem ext_list (t : ByteArray) (k : Nat) : (t.extract 0 k).data.toList = t.data.toList.take k := by simp [ByteArray.data_extract]
theorem drop_app {a b : ByteArray} {n : Nat} (h : a.size = n) : (a ++ b).data.toList.drop n = b.data.toList := by
  rw [app_toList]
  exact List.drop_left' (by simpa using h)

theorem back_num (a : ByteArray) (n : Int) (z : ByteArray) (p : Int) (w : World) (hp : p = (a.size : Int)) (h1 : InB n) (hs : (a.size : Int) + z.size ≤ 7000) (hg : w.cell? ⟨0, 0, none⟩ = some gErr) :
    Calls Tryd.prog 8 #[.string (a ++ nT n ++ z), .int .i64 p] w fun e w' => e = .returned (.agg #[.int .i64 n, .int .i64 (((nT n).size : Int) + a.size), .int .i64 0]) ∧ Below w.heap.size w w' := by
  have hsz := nT_size n
  have hS : ((a ++ nT n ++ z).size : Int) ≤ 8000 := by rw [ByteArray.size_append, ByteArray.size_append]; omega
  have c := implGetNum_any (a ++ nT n ++ z) p w (by omega) hg
  subst hp
  rw [gnA_in hS, gn_of_put (n := n) (rest := z.data.toList) h1.1 h1.2 (by rw [ByteArray.append_assoc, drop_app rfl, app_toList]; rfl)] at c
  refine c.mono ?_
  rintro e w' ⟨rfl, hb⟩
  refine ⟨?_, hb⟩
  show Ending.returned (.agg #[.int .i64 n, .int .i64 ((a.size + (nT n).size : Nat) : Int), .int .i64 0]) = _
  rw [show ((a.size + (nT n).size : Nat) : Int) = ((nT n).size : Int) + a.size by omega]
theorem cut_num (n : Int) (k : Nat) (w : World) (h1 : InB n) (hk : k + 1 = (nT n).size) (hg : w.cell? ⟨0, 0, none⟩ = some gErr) :
    Calls Tryd.prog 8 #[.string ((nT n).extract 0 k), .int .i64 0] w fun e w' => e = .returned (.agg #[.int .i64 0, .int .i64 0, .int .i64 4]) ∧ Below w.heap.size w w' := by
  have hsz := nT_size n
  have hS : (((nT n).extract 0 k).size : Int) ≤ 8000 := by rw [ByteArray.size_extract]; omega
  have c := implGetNum_any ((nT n).extract 0 k) 0 w (by omega) hg
  have e0 := gnA_in (a := 0) hS
  rw [show ((0 : Nat) : Int) = 0 from rfl] at e0
  have hl : (nT n).data.toList.length = k + 1 := by rw [hk]; rfl
  rw [e0, gn_of_cut (n := n) h1.1 h1.2 (by rw [ext_list, List.dropLast_eq_take, show strOfNums (put 9 (foldI n).toNat) = nT n from rfl, hl]; rfl)] at c
  exact c

/-- impl.numAt, where it reads a number. -/
theorem numAt_ok {s : ByteArray} {p n q : Int} (hp : p ≤ 9223372036854775807) (h : gnA s p = (n, q, 0)) (w : World) :
    Calls Tryd.prog 26 #[.string s, .int .i64 p] w fun e w' => e = .returned (.tuple #[.int .i64 n, .int .i64 q, .nilIface]) ∧ w' = w := by
  have c := numAt_any s p w hp
  rw [h] at c
  exact c
theorem numAt_no {s : ByteArray} {p c : Int} (hp : p ≤ 9223372036854775807) (h : gnA s p = (0, 0, c)) (hc : c ≠ 0) (w : World) :
    Calls Tryd.prog 26 #[.string s, .int .i64 p] w fun e w' => e = .returned (.tuple #[.int .i64 0, .int .i64 0, .iface 62 (.agg #[.int .i64 c])]) ∧ w' = w := by
  have c := numAt_any s p w hp
  rw [h] at c
  unfold rnV at c
  rw [if_neg hc] at c
  exact c
theorem back_text (u : ByteArray) (w : World) (hu : (putT u).size + 1 ≤ 8000) :
    Calls Tryd.prog 12 #[.string ((⟨#[120]⟩ : ByteArray) ++ putT u), .int .i64 1] w fun e w' => e = .returned (.agg #[.string u, .int .i64 (((putT u).size : Int) + 1), .int .i64 0]) ∧ Below w.heap.size w w' := by
  have hpu : (putT u).size = (nT (u.size : Int)).size + u.size := by rw [putT_nT, ByteArray.size_append]
  have h1 : (⟨#[120]⟩ : ByteArray).size = 1 := rfl
  have hS : (((⟨#[120]⟩ : ByteArray) ++ putT u).size : Int) ≤ 8000 := by rw [ByteArray.size_append]; omega
  have hgn : gnA ((⟨#[120]⟩ : ByteArray) ++ putT u) 1 = ((u.size : Int), ((1 + (nT (u.size : Int)).size : Nat) : Int), 0) := by
    have e0 := gnA_in (a := 1) hS
    rw [show ((1 : Nat) : Int) = 1 from rfl] at e0
    rw [e0]
    exact gn_of_put (rest := u.data.toList) (by omega) (by omega) (by rw [drop_app h1, putT_nT, app_toList]; rfl)
  have hsz : (((⟨#[120]⟩ : ByteArray) ++ putT u).size : Int) = 1 + ((nT (u.size : Int)).size + u.size) := by rw [ByteArray.size_append]; omega
  have c := implGetText_text ((⟨#[120]⟩ : ByteArray) ++ putT u) 1 (u.size : Int) ((1 + (nT (u.size : Int)).size : Nat) : Int) w (fun w => textAt_text _ _ _ _ w (fun w => numAt_ok (by omega) hgn w) hS (by omega) (by omega) (by omega) (by omega)) hS (by omega) (by omega) (by omega)
  have hex : ((⟨#[120]⟩ : ByteArray) ++ putT u).extract ((1 + (nT (u.size : Int)).size : Nat) : Int).toNat (((1 + (nT (u.size : Int)).size : Nat) : Int) + (u.size : Int)).toNat = u := by
    rw [Int.toNat_natCast, show ((((1 + (nT (u.size : Int)).size : Nat) : Int) + (u.size : Int))).toNat = 1 + (nT (u.size : Int)).size + u.size by omega]
    apply ByteArray.ext
    apply Array.toList_inj.1
    rw [putT_nT, ← ByteArray.append_assoc]
    have hl : ((⟨#[120]⟩ : ByteArray) ++ nT (u.size : Int)).data.toList.length = 1 + (nT (u.size : Int)).size := by
      show ((⟨#[120]⟩ : ByteArray) ++ nT (u.size : Int)).size = 1 + (nT (u.size : Int)).size
      rw [ByteArray.size_append, h1]
    have hu' : u.data.toList.length = u.size := rfl
    simp only [ByteArray.data_extract, Array.toList_extract, List.extract_eq_take_drop]
    rw [app_toList, List.drop_left' hl]
    exact List.take_of_length_le (by omega)
  rw [hex, show ((1 + (nT (u.size : Int)).size : Nat) : Int) + (u.size : Int) = ((putT u).size : Int) + 1 by omega] at c
  exact c
theorem cut_text (u : ByteArray) (k : Nat) (w : World) (hu : (putT u).size ≤ 8000) (hk : k + 1 = (putT u).size) (hg : w.cell? ⟨0, 0, none⟩ = some gErr) :
    Calls Tryd.prog 12 #[.string ((putT u).extract 0 k), .int .i64 0] w fun e w' => e = .returned (.agg #[.string ⟨#[]⟩, .int .i64 0, .int .i64 4]) ∧ Below w.heap.size w w' := by
  have hpu : (putT u).size = (nT (u.size : Int)).size + u.size := by rw [putT_nT, ByteArray.size_append]
  have hsz : ((putT u).extract 0 k).size = k := by rw [ByteArray.size_extract]; omega
  have hS : (((putT u).extract 0 k).size : Int) ≤ 8000 := by omega
  have e0 := gnA_in (a := 0) hS
  rw [show ((0 : Nat) : Int) = 0 from rfl] at e0
  have hnl : (nT (u.size : Int)).data.toList.length = (nT (u.size : Int)).size := rfl
  by_cases h0 : u.size = 0
  · have hgn : gnA ((putT u).extract 0 k) 0 = (0, 0, 4) := by
      rw [e0]
      refine gn_of_cut (n := (u.size : Int)) (by omega) (by omega) ?_
      rw [ext_list, putT_nT, app_toList, List.take_append_of_le_length (by omega), List.dropLast_eq_take, show strOfNums (put 9 (foldI (u.size : Int)).toNat) = nT (u.size : Int) from rfl, hnl]
      congr 1
      omega
    exact implGetText_code _ 0 4 w hg (fun w => textAt_code _ _ _ w (fun w => numAt_no (by omega) hgn (by decide) w))
  · have hgn : gnA ((putT u).extract 0 k) 0 = ((u.size : Int), ((0 + (nT (u.size : Int)).size : Nat) : Int), 0) := by
      rw [e0]
      refine gn_of_put (rest := u.data.toList.take (k - (nT (u.size : Int)).size)) (by omega) (by omega) ?_
      rw [List.drop_zero, ext_list, putT_nT, app_toList, List.take_append, List.take_of_length_le (by omega), hnl]
      rfl
    exact implGetText_code _ 0 4 w hg (fun w => textAt_short _ _ _ _ w (fun w => numAt_ok (by omega) hgn w) hS (by omega) (by omega) (by omega) (by omega) (by omega))
end Go.Proofs.YtcjclioockjfhaaDoor
