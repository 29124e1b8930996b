/-
  The bytes of events: what impl.layRow answers at impl.layEvent, for every row of at most 400 right events: a contract over the seat's program.
-/
import Derived.Test.YticnffakngpkfaaDoorEvLayS
import Derived.Test.YticnffakngpkfaaDoorBld
namespace Go.Proofs.YticnffakngpkfaaDoor
open Go.RowKit Go.Sort Put

theorem heap_lt {w : World} {g : Nat} {o : Obj} (h : w.heap[g]? = some o) : g < w.heap.size := by
  rcases Nat.lt_or_ge g w.heap.size with h' | h'
  · exact h'
  · simp [Array.getElem?_eq_none h'] at h
theorem own_stay {w w' : World} {base size n : Nat} {e : TypeId} {v : Value} {xs : List Value} (h : w.ownsRow base e size v n xs) (hb : Below w.heap.size w w') : w'.ownsRow base e size v n xs := by
  refine ⟨h.1, ?_⟩
  rcases h.2 with h0 | ⟨g, cap, cur, hv, hg, hh, r⟩
  · exact .inl h0
  · exact .inr ⟨g, cap, cur, hv, hg, by rw [hb.block g (heap_lt hh)]; exact hh, r⟩
theorem isb_stay {T e : TypeId} {B b : Nat} {bs : List Value} {w w' : World} (h : Lib.IsBuilder T e B b bs w) (hb : Below w.heap.size w w') : Lib.IsBuilder T e B b bs w' := by
  rcases h with ⟨h1, v, h2, h3, h4⟩ | ⟨h1, v, h2, h3, h4⟩
  · exact .inl ⟨h1, v, by rw [hb.block b (heap_lt h2)]; exact h2, own_stay h3 hb, h4⟩
  · exact .inr ⟨h1, v, by rw [hb.block b (heap_lt h2)]; exact h2, own_stay h3 hb, h4⟩
theorem cells_cat (a b : ByteArray) : Lib.byteCells a.data.toList ++ Lib.strCells b = Lib.byteCells (a ++ b).data.toList := by
  simp [Lib.byteCells, Lib.strCells, ByteArray.data_append]
theorem cells_len (a : ByteArray) : (Lib.byteCells a.data.toList).length = a.size := by rw [Lib.byteCells_length, ← Lib.size_eq]
theorem str_back (s : ByteArray) : (⟨s.data.toList.toArray⟩ : ByteArray) = s := by cases s; rfl

set_option maxHeartbeats 1000000 in
set_option maxRecDepth 100000 in
theorem layRow_row (g o c : Nat) (es : List Ev) (w : World) (hE : EvsAt w g o es) (hA : allB es = true) (hn : es.length ≤ 400) :
    Calls Tryd.prog 21 #[.slice (some ⟨g, o, none⟩) es.length c, .func (.func 22) #[] #[]] w fun e w' => e = .returned (.string (layL es)) ∧ Below w.heap.size w w' := by
  have HE := hid hE
  have HA := hid hA
  have c0 : ∀ w, Calls Tryd.prog 42 #[.int .i64 (es.length : Int)] w fun x w' => x = .returned (.string (numT (es.length : Int))) ∧ Below w.heap.size w w' := fun w => implPutNum_any _ w (by omega) (by omega)
  have hN := numT_size (es.length : Int)
  have hI0 := hid (Lib.fresh_isBuilder 69 5 w)
  clear hE hA
  go_enter Tryd.func21, Tryd.ntmps21
  go_wp2_with fail
  refine (c0 _).mono ?_
  rintro e w1 ⟨rfl, hb1⟩
  have hI1 := hid (isb_stay hI0.out hb1)
  have hbel1 : Below w.heap.size w w1 := ((Below.refl w.heap.size w).alloc (Nat.le_refl _) _).trans (hb1.mono (B' := w.heap.size) (by simp))
  clear c0 hb1 hI0
  go_wp2_with fail
  refine (Bld.WriteString w.heap.size w.heap.size [] _ _ hI1.out (by simp; omega) hbel1.size).mono ?_
  rintro e w2 ⟨rfl, hI2, hb2⟩
  have hbel2 := hbel1.trans hb2
  have HI2 : Hid (Lib.IsBuilder 69 5 w.heap.size w.heap.size (Lib.byteCells (numT (es.length : Int) ++ catE (es.take 0)).data.toList) w2) := by
    refine Or.inr ?_
    have := hI2
    rwa [List.nil_append, show Lib.strCells (numT (es.length : Int)) = Lib.byteCells (numT (es.length : Int) ++ catE (es.take 0)).data.toList by simp [catE, Lib.strCells, Lib.byteCells]] at this
  clear hI1 hI2 hb2 hbel1
  go_wp2
  go_loopw [14] (fun i wr => ∃ k : Nat, k ≤ es.length ∧ i = .int .i64 k ∧ Lib.IsBuilder 69 5 w.heap.size w.heap.size (Lib.byteCells (numT (es.length : Int) ++ catE (es.take k)).data.toList) wr ∧ Below w.heap.size w wr) (fun i _ => es.length - (intOf i).toNat)
  case atStart => exact ⟨0, Nat.zero_le _, rfl, HI2.out, hbel2⟩
  case round =>
    obtain ⟨k, hk, rfl, hI, hbel⟩ := hrel
    have HI := hid hI
    clear hI
    by_cases hlt : k < es.length
    · obtain ⟨a0, a1, a2, a3, a4, a5⟩ := (HE.out.stay hbel (Nat.le_refl _)).2 k hlt
      have hev := allB_at HA.out hlt
      have cz := fun w => layEvent_any hev w
      have hT : (numT (es.length : Int) ++ catE (es.take k)).size ≤ 10 + 120 * 400 := by
        rw [ByteArray.size_append]
        have h2 := catE_size (allB_take HA.out k)
        have h3 : (es.take k).length ≤ 400 := by simp; omega
        omega
      have hL := layE_size (okay_of hev)
      have HC := hid (catE_take hlt)
      generalize layE es[k] = S at *
      generalize es[k].seq = q0 at *
      generalize es[k].time = q1 at *
      generalize es[k].run = q2 at *
      generalize es[k].kind = q3 at *
      generalize es[k].step = q4 at *
      generalize es[k].val = q5 at *
      clear hev
      go_wp2_with fail
      refine (cz _).mono ?_
      rintro e w3 ⟨rfl, hb3⟩
      have hbA : Below wr.heap.size wr w3 := ((Below.refl wr.heap.size wr).alloc (Nat.le_refl _) _).trans (hb3.mono (B' := wr.heap.size) (by simp))
      have hI3 := hid (isb_stay HI.out hbA)
      have hbel3 := hbel.trans (hbA.mono hbel.size)
      clear cz hb3 a0 a1 a2 a3 a4 a5 hbA
      go_wp2_with fail
      refine (Bld.WriteString w.heap.size w.heap.size _ _ _ hI3.out (by rw [cells_len]; omega) hbel3.size).mono ?_
      rintro e w4 ⟨rfl, hI4, hb4⟩
      have hbel4 := hbel3.trans hb4
      have HI4 := hid hI4
      clear hI4 hb4 hI3 hbel3
      go_wp2
      go_roundw
      case rel =>
        refine ⟨k + 1, by omega, by go_num, .inr ?_, hbel4⟩
        have := HI4.out
        rwa [cells_cat, ByteArray.append_assoc, ← HC.out] at this
      case measure => simp [intOf]; omega
    · have hT : es.take k = es := List.take_of_length_le (by omega)
      have HT := hid hT
      clear hT
      go_wp2_with fail
      refine (Bld.String_any w.heap.size w.heap.size _ _ HI.out hbel.size).mono ?_
      rintro e w5 ⟨rfl, hb5⟩
      have hbel5 := hbel.trans hb5
      clear hb5
      go_wp2
      go_ret
      exact ⟨ret_str (by rw [append_mk, HT.out]; rfl), hbel5⟩
theorem layRow_none (a : Option Addr) (c : Nat) (w : World) :
    Calls Tryd.prog 21 #[.slice a 0 c, .func (.func 22) #[] #[]] w fun e w' => e = .returned (.string (layL [])) ∧ Below w.heap.size w w' := by
  have c0 : ∀ w, Calls Tryd.prog 42 #[.int .i64 0] w fun x w' => x = .returned (.string (numT 0)) ∧ Below w.heap.size w w' := fun w => implPutNum_any _ w (by omega) (by omega)
  have hN := numT_size 0
  have HL : Hid (numT 0 = layL []) := by show numT 0 = numT 0 ++ ByteArray.empty; simp
  generalize numT 0 = T at *
  have hI0 := hid (Lib.fresh_isBuilder 69 5 w)
  go_enter Tryd.func21, Tryd.ntmps21
  go_wp2_with fail
  refine (c0 _).mono ?_
  rintro e w1 ⟨rfl, hb1⟩
  have hI1 := hid (isb_stay hI0.out hb1)
  have hbel1 : Below w.heap.size w w1 := ((Below.refl w.heap.size w).alloc (Nat.le_refl _) _).trans (hb1.mono (B' := w.heap.size) (by simp))
  clear c0 hb1 hI0
  go_wp2_with fail
  refine (Bld.WriteString w.heap.size w.heap.size [] _ _ hI1.out (by simp; omega) hbel1.size).mono ?_
  rintro e w2 ⟨rfl, hI2, hb2⟩
  have hbel2 := hbel1.trans hb2
  have HI2 : Hid (Lib.IsBuilder 69 5 w.heap.size w.heap.size (Lib.byteCells T.data.toList) w2) := .inr hI2
  clear hI1 hI2 hb2 hbel1
  go_wp2
  go_loop [14] (fun i => i = .int .i64 0) (fun _ => 0)
  case atStart => exact rfl
  case round =>
    subst hrel
    go_wp2_with fail
    refine (Bld.String_any w.heap.size w.heap.size _ _ HI2.out hbel2.size).mono ?_
    rintro e w5 ⟨rfl, hb5⟩
    have hbel5 := hbel2.trans hb5
    clear hb5
    go_wp2
    go_ret
    exact ⟨ret_str (by rw [str_back]; exact HL.out), hbel5⟩
theorem layRow_any (v : Value) (es : List Ev) (w : World) (h : EvSl w v es) (hA : allB es = true) (hn : es.length ≤ 400) :
    Calls Tryd.prog 21 #[v, .func (.func 22) #[] #[]] w fun e w' => e = .returned (.string (layL es)) ∧ Below w.heap.size w w' := by
  rcases h with ⟨a, c, rfl, rfl⟩ | ⟨g, o, c, rfl, _, h⟩
  · exact layRow_none a c w
  · exact layRow_row g o c es w h hA hn
end Go.Proofs.YticnffakngpkfaaDoor
