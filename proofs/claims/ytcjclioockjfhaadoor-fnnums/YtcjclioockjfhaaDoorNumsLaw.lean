/-
  The law FnNums: it returns true, whatever bytes it draws from: a contract over the seat's program (in a world in which errors.errorType holds what errors.As wants).
-/
import Derived.Test.YtcjclioockjfhaaDoorDrText
import Derived.Test.YtcjclioockjfhaaDoorBackNum
namespace Go.Proofs.YtcjclioockjfhaaDoor
open Go.RowKit AsErr Get Put

theorem Bs.stays {w w' : World} {V : Value} {n : Nat} (h : Bs w V n) (hb : Below w.heap.size w w') : Bs w' V n := by
  obtain ⟨a, c, rfl, hn, h⟩ := h
  refine ⟨a, c, rfl, hn, fun i hi => ?_⟩
  obtain ⟨g, o, x, rfl, hg1, hc, hx⟩ := h i hi
  exact ⟨g, o, x, rfl, Nat.lt_of_lt_of_le hg1 hb.size, by rw [hb.cell (p := ⟨g, o + i, none⟩) hg1]; exact hc, hx⟩
theorem fnNums_big (a1 a2 : Option Addr) (n1 n2 c1 c2 : Nat) (w : World) (hb : ¬ ((n1 : Int) ≤ 1048576 ∧ (n2 : Int) ≤ 1048576)) :
    Calls Tryd.prog 3 #[.slice a1 n1 c1, .slice a2 n2 c2] w fun e w' => e = .returned (.bool true) ∧ Below w.heap.size w w' := by
  by_cases h1 : (n1 : Int) ≤ 1048576
  · have h2 : (1048576 : Int) < n2 := by omega
    clear hb
    go_enter Tryd.func3, Tryd.ntmps3
    go_wp2
    go_ret
    exact ⟨rfl, Below.refl _ _⟩
  · have h1 : (1048576 : Int) < n1 := by omega
    clear hb
    go_enter Tryd.func3, Tryd.ntmps3
    go_wp2
    go_ret
    exact ⟨rfl, Below.refl _ _⟩

theorem full_beq {s : ByteArray} (h : 0 < s.size) : ¬ s.toList = [] := by
  intro e
  rw [ByteArray.toList_eq] at e
  have h2 : s.data.toList.length = s.size := rfl
  rw [e] at h2
  simp at h2
  omega
theorem full_is {s : ByteArray} (h : 0 < s.size) : s.toList.isEmpty = false := by
  have := full_beq h
  cases hs : s.toList with
  | nil => exact absurd hs this
  | cons a l => rfl
/-- What errors.As wants, and all that was there. -/
structure Gd (w wr : World) : Prop where
  gd : wr.cell? ⟨0, 0, none⟩ = some gErr
  bel : Below w.heap.size w wr
theorem Gd.next {w w1 w2 : World} (h : Gd w w1) (hb : Below w1.heap.size w1 w2) : Gd w w2 :=
  ⟨by rw [hb.cell (p := ⟨0, 0, none⟩) (g_lt h.gd)]; exact h.gd, h.bel.trans (hb.mono h.bel.size)⟩
theorem Gd.alloc {w w1 : World} (h : Gd w w1) (o : Obj) : Gd w (w1.alloc o) := h.next ((Below.refl _ _).alloc (Nat.le_refl _) o)

set_option maxHeartbeats 4000000 in
set_option maxRecDepth 100000 in
theorem fnNums_in (a1 a2 : Option Addr) (n1 n2 c1 c2 : Nat) (w : World) (h1 : (n1 : Int) ≤ 1048576) (h2 : (n2 : Int) ≤ 1048576) (hA : Bs w (.slice a1 n1 c1) n1) (hM : Bs w (.slice a2 n2 c2) n2) (hg : w.cell? ⟨0, 0, none⟩ = some gErr) :
    Calls Tryd.prog 3 #[.slice a1 n1 c1, .slice a2 n2 c2] w fun e w' => e = .returned (.bool true) ∧ Below w.heap.size w w' := by
  have cD := hid (drawNum_any (.slice a1 n1 c1) n1 w hA)
  have cU := hid (fun w h => drawText_any (.slice a2 n2 c2) n2 w h)
  have HM := hid hM
  have G0 : Hid (Gd w w) := ⟨hg, Below.refl _ _⟩
  clear hA hM hg
  go_enter Tryd.func3, Tryd.ntmps3
  go_wp2_with fail
  refine cD.out.mono ?_
  rintro e w1 ⟨n, rfl, hn, hb1⟩
  have G1 := hid (G0.out.next hb1)
  have cP : Hid (∀ w, Calls Tryd.prog 6 #[.int .i64 n] w fun e w' => e = .returned (.string (nT n)) ∧ Below w.heap.size w w') := fun w => implPutNum_any n w hn.1 hn.2
  have cQ : Hid (∀ w, Calls Tryd.prog 7 #[.int .i64 n] w fun e w' => e = .returned (.string (nT n)) ∧ Below w.heap.size w w') := fun w => specPutNum_any n w hn.1 hn.2
  have hT1 := nT_pos n
  have hT2 := nT_size n
  have cG : Hid (∀ w W, Gd w W → Calls Tryd.prog 8 #[.string ((⟨#[120, 121]⟩ : ByteArray) ++ nT n ++ ⟨#[122]⟩), .int .i64 2] W fun e w' => e = .returned (.agg #[.int .i64 n, .int .i64 (((nT n).size : Int) + 2), .int .i64 0]) ∧ Below W.heap.size W w') := fun w W h => back_num ⟨#[120, 121]⟩ n ⟨#[122]⟩ 2 W rfl hn (by decide) h.gd
  have cC : Hid (∀ w W, Gd w W → Calls Tryd.prog 8 #[.string ((nT n).extract 0 ((nT n).size - 1)), .int .i64 0] W fun e w' => e = .returned (.agg #[.int .i64 0, .int .i64 0, .int .i64 4]) ∧ Below W.heap.size W w') := fun w W h => cut_num n _ W hn (by omega) h.gd
  generalize nT n = T at *
  clear hn hb1 G0 cD
  go_wp2_with fail
  refine (cP.out _).mono ?_
  rintro e w2 ⟨rfl, hb2⟩
  have G2 := hid (G1.out.next hb2)
  clear hb2 G1 cP
  go_wp2_with fail
  refine (cQ.out _).mono ?_
  rintro e w3 ⟨rfl, hb3⟩
  have G3 := hid (G2.out.next hb3)
  clear hb3 G2 cQ
  go_wp2_with fail
  refine (cG.out _ _ G3.out).mono ?_
  rintro e w4 ⟨rfl, hb4⟩
  have G4 := hid ((G3.out.next hb4).alloc (.cells [.int .i64 n, .int .i64 ((T.size : Int) + 2), .int .i64 0].toArray 26))
  clear hb4 G3 cG
  go_wp2_with fail
  refine (cC.out _ _ G4.out).mono ?_
  rintro e w5 ⟨rfl, hb5⟩
  have G5 := hid (G4.out.next hb5)
  have hfd : ∀ w : World, (Instr.field 26 (.agg #[.int .i64 0, .int .i64 0, .int .i64 4]) 2).run Tryd.prog w = .ok (.int .i64 4) w := fun _ => by kernel_rfl
  clear hb5 G4 cC
  go_wp2_with fail
  refine (cU.out _ (HM.out.stays G5.out.bel)).mono ?_
  rintro e w6 ⟨u, rfl, _, hb6⟩
  have G6 := hid (G5.out.next hb6)
  clear hb6 G5 cU HM hfd hT1 hT2
  by_cases hu : (u.size : Int) ≤ 8000
  · have cI := hid (fun w => implPutText_any u w hu)
    have cJ := hid (fun w => specPutText_any u w hu)
    have hP : 0 < (putT u).size := by rw [putT_nT, ByteArray.size_append]; have := nT_pos (u.size : Int); omega
    have hP2 : (putT u).size ≤ 8010 := by rw [putT_nT, ByteArray.size_append]; have := nT_size (u.size : Int); omega
    have hPb := full_beq hP
    have hPi := full_is hP
    have cG : Hid (((putT u).size : Int) + 1 ≤ 8000 → ∀ W, Calls Tryd.prog 12 #[.string ((⟨#[120]⟩ : ByteArray) ++ putT u), .int .i64 1] W fun e w' => e = .returned (.agg #[.string u, .int .i64 (((putT u).size : Int) + 1), .int .i64 0]) ∧ Below W.heap.size W w') := fun h W => back_text u W (by omega)
    have cC : Hid (((putT u).size : Int) + 1 ≤ 8000 → ∀ W, Gd w W → Calls Tryd.prog 12 #[.string ((putT u).extract 0 ((putT u).size - 1)), .int .i64 0] W fun e w' => e = .returned (.agg #[.string ⟨#[]⟩, .int .i64 0, .int .i64 4]) ∧ Below W.heap.size W w') := fun h W hG => cut_text u _ W (by omega) (by omega) hG.gd
    generalize putT u = P at *
    go_wp2_with fail
    refine (cI.out _).mono ?_
    rintro e w7 ⟨rfl, hb7⟩
    have G7 := hid (G6.out.next hb7)
    clear hb7 G6 cI
    go_wp2_with fail
    refine (cJ.out _).mono ?_
    rintro e w8 ⟨rfl, hb8⟩
    have G8 := hid (G7.out.next hb8)
    clear hb8 G7 cJ
    by_cases hz : (P.size : Int) + 1 ≤ 8000
    · go_wp2_with fail
      refine (cG.out hz _).mono ?_
      rintro e w9 ⟨rfl, hb9⟩
      have G9 := hid (G8.out.next hb9)
      clear hb9 G8 cG
      go_wp2_with fail
      refine (cC.out hz _ G9.out).mono ?_
      rintro e w10 ⟨rfl, hb10⟩
      have G10 := hid (G9.out.next hb10)
      have hfd : ∀ w : World, (Instr.field 31 (.agg #[.string ⟨#[]⟩, .int .i64 0, .int .i64 4]) 2).run Tryd.prog w = .ok (.int .i64 4) w := fun _ => by kernel_rfl
      clear hb10 G9 cC
      go_wp2
      go_ret
      exact ⟨rfl, G10.out.bel⟩
    · have hz : (8000 : Int) < (P.size : Int) + 1 := by omega
      go_wp2
      go_ret
      exact ⟨rfl, G8.out.bel⟩
  · have cI := hid (fun w => implPutText_no u w hu)
    have cJ := hid (fun w => specPutText_no u w hu)
    clear hu
    go_wp2_with fail
    refine (cI.out _).mono ?_
    rintro e w7 ⟨rfl, hb7⟩
    have G7 := hid (G6.out.next hb7)
    clear hb7 G6 cI
    go_wp2_with fail
    refine (cJ.out _).mono ?_
    rintro e w8 ⟨rfl, hb8⟩
    have G8 := hid (G7.out.next hb8)
    clear hb8 G7
    go_wp2_with fail
    refine (cJ.out _).mono ?_
    rintro e w9 ⟨rfl, hb9⟩
    have G9 := hid (G8.out.next hb9)
    clear hb9 G8 cJ
    go_wp2
    go_ret
    exact ⟨rfl, G9.out.bel⟩
theorem fnNums_walk (a1 a2 : Option Addr) (n1 n2 c1 c2 : Nat) (w : World) (hA : n1 ≤ 1048576 → Bs w (.slice a1 n1 c1) n1) (hM : n2 ≤ 1048576 → Bs w (.slice a2 n2 c2) n2) (hg : w.cell? ⟨0, 0, none⟩ = some gErr) :
    Calls Tryd.prog 3 #[.slice a1 n1 c1, .slice a2 n2 c2] w fun e w' => e = .returned (.bool true) ∧ Below w.heap.size w w' := by
  by_cases hb : (n1 : Int) ≤ 1048576 ∧ (n2 : Int) ≤ 1048576
  · exact fnNums_in a1 a2 n1 n2 c1 c2 w hb.1 hb.2 (hA (by omega)) (hM (by omega)) hg
  · exact fnNums_big a1 a2 n1 n2 c1 c2 w hb
end Go.Proofs.YtcjclioockjfhaaDoor
