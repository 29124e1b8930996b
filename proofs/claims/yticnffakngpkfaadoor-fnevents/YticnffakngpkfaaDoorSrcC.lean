/-
  Draws: what (*spec.l01Src).spoil answers: a contract over the seat's program.
-/
import Derived.Test.YticnffakngpkfaaDoorSrcB
namespace Go.Proofs.YticnffakngpkfaaDoor
open Go.RowKit

theorem one_byte (w : World) (B : UInt8) : (convert 22 9 (.slice (some ⟨w.heap.size, 0, none⟩) 1 1)).run Tryd.prog (w.alloc (.cells #[.int .u8 (B.toNat : Int)] 5)) = .ok (.string ⟨[B].toArray⟩) (w.alloc (.cells #[.int .u8 (B.toNat : Int)] 5)) :=
  conv_row (P := Tryd.prog) (l := [B]) 22 9 Tryd.underlying22 Tryd.underlying5 Tryd.underlying9 rfl (heap_alloc_new w _)
theorem drw_drew {w : World} {b n : Nat} {V : Value} (h : Drw w b V n) : Drw w.drew b V n := h.stay (r := none) (grown_drewN w 1 none) (fun k hk => by cases hk)
set_option maxHeartbeats 1000000 in
set_option maxRecDepth 100000 in
theorem spoil_any (b n : Nat) (V : Value) (t : ByteArray) (w : World) (h : Drw w b V n) (ht : (t.size : Int) ≤ 8000) :
    Calls Tryd.prog 29 #[.pointer (some ⟨b, 0, none⟩), .string t] w fun e w' => ∃ s, e = .returned (.string s) ∧ s.size ≤ 8001 ∧ Drw w' b V n ∧ w.grownBy w' (some b) := by
  have c1 := hid (srcN_any b n V ((t.size : Int) + 1) w h (by omega))
  have c2 := hid (fun w h => srcN_any b n V 17 w h (by decide))
  have c3 := hid (fun most w h h2 => one_any b n V most w h h2)
  clear h
  go_enter Tryd.func29, Tryd.ntmps29
  go_wp2_with fail
  refine c1.out.mono ?_
  rintro e w1 ⟨r, rfl, ⟨r0, r1, r2⟩, hd1, hg1⟩
  obtain ⟨k, rfl⟩ := Int.eq_ofNat_of_zero_le r0
  have hk : (k : Int) ≤ (t.size : Int) := by
    by_cases h1 : (1 : Int) < (t.size : Int) + 1
    · have := r1 h1; omega
    · have := r2 (by omega); omega
  have HD1 := hid hd1
  have HG1 := hid hg1
  clear hd1 hg1 r0 r1 r2 c1
  go_wp2_with fail
  refine (c2.out _ HD1.out).mono ?_
  rintro e w2 ⟨r, rfl, ⟨r0, r1, r2⟩, hd2, hg2⟩
  obtain ⟨j, rfl⟩ := Int.eq_ofNat_of_zero_le r0
  have hj : (j : Int) < 17 := r1 (by decide)
  have HD2 := hid hd2
  have HG2 := hid (grown_trans HG1.out hg2)
  clear hd2 hg2 r0 r1 r2 c2 HD1 HG1
  go_wp2_with fail
  generalize ((⟨#[32, 10, 48, 97, 45, 110, 44, 58, 93, 255, 40, 120, 126, 49, 128, 225, 59]⟩ : ByteArray)[j]'(by show j < 17; omega)) = B
  rw [one_byte w2 B]
  have HD3 := hid (HD2.out.stay (r := none) (World.grownBy_alloc w2 (.cells #[.int .u8 (B.toNat : Int)] 5) _) (fun k hk => by cases hk))
  have HG3 := hid (grown_trans HG2.out (World.grownBy_alloc w2 (.cells #[.int .u8 (B.toNat : Int)] 5) (some b)))
  have hS : (⟨[B].toArray⟩ : ByteArray).size = 1 := rfl
  generalize (⟨[B].toArray⟩ : ByteArray) = S at *
  generalize w2.alloc (.cells #[.int .u8 (B.toNat : Int)] 5) = w3 at *
  clear HD2 HG2
  by_cases hke : (k : Int) = (t.size : Int)
  · have hkb : ((k : Int) == (t.size : Int)) = true := by simpa using hke
    have HKE := hid hke
    clear hke
    go_wp2
    go_region
    go_wp2
    go_ret
    exact ⟨_, rfl, by simp [ByteArray.size_append]; omega, drw_drew HD3.out, grown_trans HG3.out (grown_drewN w3 1 _)⟩
  · have hkb : ((k : Int) == (t.size : Int)) = false := by simpa using hke
    have hk1 : (k : Int) < (t.size : Int) := by omega
    clear hke
    go_wp2_with fail
    refine (c3.out 3 _ HD3.out (by decide)).mono ?_
    rintro e w4 ⟨r4, rfl, hd4, hg4⟩
    have HD4 := hid hd4
    have HG4 := hid (grown_trans HG3.out hg4)
    clear hd4 hg4 HD3 HG3
    cases r4 with
    | true =>
      go_wp2
      go_region
      go_wp2
      go_ret
      exact ⟨_, rfl, by simp [ByteArray.size_append]; omega, drw_drew HD4.out, grown_trans HG4.out (grown_drewN w4 1 _)⟩
    | false =>
      go_wp2_with fail
      refine (c3.out 2 _ HD4.out (by decide)).mono ?_
      rintro e w5 ⟨r5, rfl, hd5, hg5⟩
      have HD5 := hid hd5
      have HG5 := hid (grown_trans HG4.out hg5)
      clear hd5 hg5 HD4 HG4
      cases r5 with
      | true =>
        go_wp2
        go_region
        go_wp2
        go_ret
        exact ⟨_, rfl, by simp [ByteArray.size_append]; omega, drw_drew HD5.out, grown_trans HG5.out (grown_drewN w5 1 _)⟩
      | false =>
        go_wp2
        go_region
        go_wp2
        go_ret
        exact ⟨_, rfl, by simp [ByteArray.size_append]; omega, drw_drew HD5.out, grown_trans HG5.out (grown_drewN w5 1 _)⟩
end Go.Proofs.YticnffakngpkfaaDoor
