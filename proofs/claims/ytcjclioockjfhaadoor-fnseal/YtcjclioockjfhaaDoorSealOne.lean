/-
  A seal with one byte turned is none: plain mathematics on the functions of sealing. Of no function of the program.
-/
import Derived.Test.YtcjclioockjfhaaDoorUnsD
import Derived.Test.YtcjclioockjfhaaDoorCrcOne
namespace Go.Proofs.YtcjclioockjfhaaDoor.Unseal
open Go.RowKit Crc Join Seal AsErr

def bB (x : Int) : UInt8 := UInt8.ofNat x.toNat
theorem str_list (xs : List Int) : (strOfNums xs).data.toList = xs.map bB := by simp [strOfNums, bB]
theorem bB_inj {x y : Int} (hx : 0 ≤ x) (hx2 : x < 256) (hy : 0 ≤ y) (hy2 : y < 256) (h : bB x = bB y) : x = y := by
  have := congrArg UInt8.toNat h
  simp [bB] at this
  omega
theorem four_inj {n m : Int} (hn : InW n) (hm : InW m) (h : strOfNums (four n) = strOfNums (four m)) : n = m := by
  have h' := congrArg (fun b : ByteArray => b.data.toList) h
  simp only [str_list, four, List.map_cons, List.map_nil, List.cons.injEq] at h'
  obtain ⟨h0, h1, h2, h3, _⟩ := h'
  have e0 := bB_inj (by omega) (by omega) (by omega) (by omega) h0
  have e1 := bB_inj (by omega) (by omega) (by omega) (by omega) h1
  have e2 := bB_inj (by omega) (by omega) (by omega) (by omega) h2
  have e3 := bB_inj (by omega) (by omega) (by omega) (by omega) h3
  unfold InW at hn hm
  omega
theorem inner_list (s : ByteArray) : (innerS s).data.toList = s.data.toList.take (s.size - 4) := by simp [innerS, ByteArray.data_extract]
theorem tail_list (s : ByteArray) : (tailS s).data.toList = s.data.toList.drop (s.size - 4) := by
  have h : (s.data.toList.drop (s.size - 4)).length ≤ s.size - (s.size - 4) := by simp
  simp only [tailS, ByteArray.data_extract, Array.toList_extract, List.extract_eq_take_drop]
  exact List.take_of_length_le h
theorem sealS_list (t : ByteArray) : (sealS t).data.toList = t.data.toList ++ (strOfNums (four (crcL 0 t.data.toList))).data.toList := by simp [sealS, ByteArray.data_append]
theorem seal_ok (t : ByteArray) : innerS (sealS t) = t ∧ strOfNums (four (crcL 0 (innerS (sealS t)).data.toList)) = tailS (sealS t) := by
  have hl : t.data.toList.length = t.size := rfl
  have hi : innerS (sealS t) = t := by
    apply ByteArray.ext
    apply Array.toList_inj.1
    rw [inner_list, sealS_size, sealS_list, show t.size + 4 - 4 = t.data.toList.length by rw [hl]; omega, List.take_left']
    rfl
  refine ⟨hi, ?_⟩
  rw [hi]
  apply ByteArray.ext
  apply Array.toList_inj.1
  rw [tail_list, sealS_size, sealS_list, show t.size + 4 - 4 = t.data.toList.length by rw [hl]; omega, List.drop_left']
  rfl
/-- One byte turned. -/
theorem seal_turned (t s' : ByteArray) (k : Nat) (B : UInt8) (hk : k < (sealS t).size) (hB : (sealS t).data.toList[k]? ≠ some B) (h : s'.data.toList = (sealS t).data.toList.set k B) :
    ¬ strOfNums (four (crcL 0 (innerS s').data.toList)) = tailS s' := by
  intro e
  have hl : t.data.toList.length = t.size := rfl
  have hs : s'.size = t.size + 4 := by
    have := congrArg List.length h
    rw [List.length_set] at this
    exact this.trans (sealS_size t)
  have e' : (strOfNums (four (crcL 0 (innerS s').data.toList))).data.toList = (tailS s').data.toList := by rw [e]
  rw [inner_list, tail_list, hs, h, sealS_list, show t.size + 4 - 4 = t.data.toList.length by rw [hl]; omega] at e'
  rw [sealS_list] at hB
  rw [sealS_size] at hk
  generalize hf : (strOfNums (four (crcL 0 t.data.toList))).data.toList = fl at *
  have hfl : fl.length = 4 := by rw [← hf]; exact fourS_size _
  by_cases hlt : k < t.data.toList.length
  · rw [List.set_append_left _ _ hlt, List.take_left' (by rw [List.length_set]), List.drop_left' (by rw [List.length_set]), ← hf] at e'
    have e2 : strOfNums (four (crcL 0 (t.data.toList.set k B))) = strOfNums (four (crcL 0 t.data.toList)) := ByteArray.ext (Array.toList_inj.1 e')
    have e3 := four_inj (crcL_in 0 _).1 (crcL_in 0 _).1 e2
    rw [List.set_eq_take_append_cons_drop, if_pos hlt] at e3
    have e4 : t.data.toList = t.data.toList.take k ++ t.data.toList[k] :: t.data.toList.drop (k + 1) := by
      rw [← List.drop_eq_getElem_cons hlt, List.take_append_drop]
    have e5 : crcL 0 (t.data.toList.take k ++ B :: t.data.toList.drop (k + 1)) = crcL 0 (t.data.toList.take k ++ t.data.toList[k] :: t.data.toList.drop (k + 1)) := e3.trans (congrArg (crcL 0) e4)
    have e6 := crc_one _ _ _ _ e5
    apply hB
    rw [List.getElem?_append_left hlt, List.getElem?_eq_getElem hlt, e6]
  · rw [List.set_append_right _ _ (by omega), List.take_left' rfl, List.drop_left' rfl, hf] at e'
    apply hB
    have hin : k - t.data.toList.length < fl.length := by omega
    rw [List.getElem?_append_right (by omega)]
    have := congrArg (·[k - t.data.toList.length]?) e'
    simp only [List.getElem?_set_self hin] at this
    exact this
end Go.Proofs.YtcjclioockjfhaaDoor.Unseal
