/-
  Draws: what spec.DrawSeal, spec.DrawCrcMore and laws.lwAt answer: contracts over the seat's program.
-/
import Derived.Test.YtcjclioockjfhaaDoorDrText
import Derived.Test.YtcjclioockjfhaaDoorSpCrc
namespace Go.Proofs.YtcjclioockjfhaaDoor
open Go.RowKit

set_option maxHeartbeats 1000000 in
set_option maxRecDepth 100000 in
theorem drawSeal_any (V : Value) (n : Nat) (w : World) (h : Bs w V n) :
    Calls Tryd.prog 13 #[V] w fun e w' => ∃ s : ByteArray, e = .returned (.string s) ∧ s.size ≤ 20001 ∧ Below w.heap.size w w' := by
  obtain ⟨i0, hi, hz0, hz1, hz2⟩ := info_parts Tryd.info5
  have cS := hid (source_any V n w h)
  clear h
  go_enter Tryd.func13, Tryd.ntmps13
  go_wp2_with fail
  refine cS.out.mono ?_
  rintro e w1 ⟨b, rfl, hb, hd, hbel⟩
  have cO := hid (one_any b n V 30 w1 hd (by decide))
  have HB := hid hbel
  clear hbel hd cS
  go_wp2_with fail
  refine cO.out.mono ?_
  rintro e w2 ⟨r, rfl, hd, hg⟩
  have HB2 := hid (below_src HB.out hb hg)
  have HD := hid hd
  clear hg HB cO hd
  cases r with
  | true =>
    go_wp2_with fail
    refine (srcN_any b n V 3 w2 HD.out (by decide)).mono ?_
    rintro e w3 ⟨k, rfl, ⟨k0, k1, _⟩, hd, hg⟩
    have k1 := k1 (by decide)
    obtain ⟨m, rfl⟩ := Int.eq_ofNat_of_zero_le k0
    have HB3 := hid (below_src HB2.out hb hg)
    clear hd hg HB2 HD
    go_wp2_with (at_make; refine wpList_make_full _ rfl _ _ 22 rfl w3.heap.size 5 i0 _ 1 Tryd.underlying22 hi hz0 hz1 _ _ _ _ (19995 + m) rfl rfl ?m1 ?m2 ?m3 ?m4 (Nat.le_refl _) ?_)
    case m1 => omega
    case m2 => omega
    case m3 => rw [hz2]; omega
    case m4 => unfold maxLen; omega
    intro w4 hown hgrow
    rw [made_zero] at hown
    have hcv := conv_own (P := Tryd.prog) (xs := List.replicate (19995 + m) 0) 22 9 Tryd.underlying22 Tryd.underlying5 Tryd.underlying9 hown
    have hz : (strOfNums (List.replicate (19995 + m) 0)).size ≤ 20001 := by rw [strOfNums_size]; simp; omega
    have HB4 : Hid (Below w.heap.size w w4) := HB3.out.grown hgrow HB3.out.size (fun k h => by cases h)
    clear hown hgrow HB3
    generalize strOfNums (List.replicate (19995 + m) 0) = Z at *
    go_wp2
    go_ret
    exact ⟨_, rfl, hz, HB4.out⟩
  | false =>
    go_wp2_with fail
    refine (srcN_any b n V 20 w2 HD.out (by decide)).mono ?_
    rintro e w3 ⟨k, rfl, ⟨k0, k1, _⟩, hd, hg⟩
    have k1 := k1 (by decide)
    have HB3 := hid (below_src HB2.out hb hg)
    have cY := hid (bytes_any b n V k w3 hd k0 (by omega))
    clear hd hg HB2 HD
    go_wp2_with fail
    refine cY.out.mono ?_
    rintro e w4 ⟨s, rfl, hs, _, hg⟩
    have HB4 := hid (below_src HB3.out hb hg)
    clear hg cY HB3
    go_wp2
    go_ret
    exact ⟨_, rfl, by omega, HB4.out⟩

set_option maxHeartbeats 1000000 in
set_option maxRecDepth 100000 in
theorem drawCrc_any (V : Value) (n : Nat) (w : World) (h : Bs w V n) :
    Calls Tryd.prog 18 #[V] w fun e w' => ∃ (r : Int) (s : ByteArray), e = .returned (.tuple #[.int .i64 r, .string s]) ∧ s.size ≤ 9 ∧ Below w.heap.size w w' := by
  have cS := hid (source_any V n w h)
  clear h
  go_enter Tryd.func18, Tryd.ntmps18
  go_wp2_with fail
  refine cS.out.mono ?_
  rintro e w1 ⟨b, rfl, hb, hd, hbel⟩
  have HB := hid hbel
  have HD := hid hd
  clear hbel hd cS
  go_wp2_with fail
  refine (srcN_any b n V 9 w1 HD.out (by decide)).mono ?_
  rintro e w2 ⟨k, rfl, ⟨k0, k1, _⟩, hd, hg⟩
  have k1 := k1 (by decide)
  have HB2 := hid (below_src HB.out hb hg)
  have cY := hid (bytes_any b n V k w2 hd k0 (by omega))
  clear hd hg HB HD
  go_wp2_with fail
  refine cY.out.mono ?_
  rintro e w3 ⟨s, rfl, hs, hd, hg⟩
  have HB3 := hid (below_src HB2.out hb hg)
  have cO := hid (one_any b n V 5 w3 hd (by decide))
  clear hg cY HB2 hd
  go_wp2_with fail
  refine cO.out.mono ?_
  rintro e w4 ⟨r, rfl, hd, hg⟩
  have HB4 := hid (below_src HB3.out hb hg)
  have HD := hid hd
  clear hg HB3 cO hd
  cases r with
  | true =>
    go_wp2_with fail
    refine (edge_any b n V w4 HD.out).mono ?_
    rintro e w5 ⟨k, rfl, _, hg⟩
    have HB5 := hid (below_src HB4.out hb hg)
    clear hg HB4 HD
    go_wp2
    go_ret2
    exact ⟨_, _, rfl, by omega, HB5.out⟩
  | false =>
    go_wp2_with fail
    refine (srcN_any b n V 9 w4 HD.out (by decide)).mono ?_
    rintro e w5 ⟨j, rfl, ⟨j0, j1, _⟩, hd, hg⟩
    have j1 := j1 (by decide)
    have HB5 := hid (below_src HB4.out hb hg)
    have cY := hid (bytes_any b n V j w5 hd j0 (by omega))
    clear hd hg HB4 HD
    go_wp2_with fail
    refine cY.out.mono ?_
    rintro e w6 ⟨z, rfl, hz, _, hg⟩
    have HB6 := hid (below_src HB5.out hb hg)
    have cC := hid (fun w => specCrc_any z w (by unfold maxLen; omega))
    clear hg cY HB5
    generalize Crc.crcM 0 z = C at *
    go_wp2_with fail
    refine (cC.out _).mono ?_
    rintro e w7 ⟨rfl, rfl⟩
    clear cC
    go_wp2
    go_ret2
    exact ⟨_, _, rfl, by omega, HB6.out⟩

set_option maxHeartbeats 1000000 in
set_option maxRecDepth 100000 in
theorem lwAt_any (V : Value) (n : Nat) (k most : Int) (w : World) (h : Bs w V n) (hk : 0 ≤ k) (hm : 1 ≤ most) (hm2 : most ≤ 100000) :
    Calls Tryd.prog 16 #[V, .int .i64 k, .int .i64 most] w fun e w' => ∃ r : Int, e = .returned (.int .i64 r) ∧ 0 ≤ r ∧ r < most ∧ w' = w := by
  obtain ⟨a, c, rfl, hn, hbs⟩ := h
  by_cases h1 : most ≤ 1
  · clear hbs
    go_enter Tryd.func16, Tryd.ntmps16
    go_wp2
    go_ret
    exact ⟨0, rfl, by decide, by omega, rfl⟩
  · by_cases h0 : n = 0
    · subst h0
      clear hbs
      go_enter Tryd.func16, Tryd.ntmps16
      go_wp2
      go_ret
      exact ⟨0, rfl, by decide, by omega, rfl⟩
    · have hn0 : (0 : Int) < n := by omega
      obtain ⟨j, hj⟩ := Int.eq_ofNat_of_zero_le (Int.tmod_nonneg (n : Int) hk)
      have hjn : j < n := by have := Int.tmod_lt_of_pos k hn0; omega
      have hnz : ¬ (n : Int) = 0 := by omega
      have hnb : ((n : Int) == 0) = false := by simpa using h0
      have hmz : ¬ most = 0 := by omega
      obtain ⟨g, o, x, rfl, hg, hc, hx0, hx1⟩ := hbs j hjn
      clear hbs
      have hji : (j : Int) < n := by omega
      go_enter Tryd.func16, Tryd.ntmps16
      go_wp2
      go_ret
      exact ⟨_, rfl, Int.emod_nonneg x hmz, Int.emod_lt_of_pos x (by omega), rfl⟩
end Go.Proofs.YtcjclioockjfhaaDoor
