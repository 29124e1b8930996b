/-
  Draws: what spec.DrawPutText answers: some text: a contract over the seat's program.
-/
import Derived.Test.YtcjclioockjfhaaDoorDrNum
import Derived.OwnWalk
namespace Go.Proofs.YtcjclioockjfhaaDoor
open Go.RowKit

theorem made_zero (n : Nat) : (madeCells #[.int .u8 0] n).toList = (List.replicate n (0 : Int)).map (Value.int .u8) := by
  apply List.ext_getElem?
  intro i
  by_cases h : i < n
  · simp [madeCells, Nat.mod_one, h]
  · simp [madeCells, h]

set_option maxHeartbeats 1000000 in
set_option maxRecDepth 100000 in
theorem drawText_any (V : Value) (n : Nat) (w : World) (h : Bs w V n) :
    Calls Tryd.prog 9 #[V] w fun e w' => ∃ s : ByteArray, e = .returned (.string s) ∧ s.size ≤ 20001 ∧ Below w.heap.size w w' := by
  obtain ⟨i0, hi, hz0, hz1, hz2⟩ := info_parts Tryd.info5
  have cS := hid (source_any V n w h)
  clear h
  go_enter Tryd.func9, Tryd.ntmps9
  go_wp2_with fail
  refine cS.out.mono ?_
  rintro e w1 ⟨b, rfl, hb, hd, hbel⟩
  have cO := hid (one_any b n V 8 w1 hd (by decide))
  have HB := hid hbel
  clear hbel hd cS
  go_wp2_with fail
  refine cO.out.mono ?_
  rintro e w2 ⟨r, rfl, hd, hg⟩
  have HB2 := hid (below_src HB.out hb hg)
  have HD := hid hd
  clear hg HB cO hd
  cases r with
  | true =>
    go_wp2_with fail
    refine (srcN_any b n V 3 w2 HD.out (by decide)).mono ?_
    rintro e w3 ⟨k, rfl, ⟨k0, k1, _⟩, hd, hg⟩
    have k1 := k1 (by decide)
    obtain ⟨m, rfl⟩ := Int.eq_ofNat_of_zero_le k0
    have HB3 := hid (below_src HB2.out hb hg)
    clear hd hg HB2 HD
    go_wp2_with (at_make; refine wpList_make_full _ rfl _ _ 22 rfl w3.heap.size 5 i0 _ 1 Tryd.underlying22 hi hz0 hz1 _ _ _ _ (19999 + m) rfl rfl ?m1 ?m2 ?m3 ?m4 (Nat.le_refl _) ?_)
    case m1 => omega
    case m2 => omega
    case m3 => rw [hz2]; omega
    case m4 => unfold maxLen; omega
    intro w4 hown hgrow
    rw [made_zero] at hown
    have hcv := conv_own (P := Tryd.prog) (xs := List.replicate (19999 + m) 0) 22 9 Tryd.underlying22 Tryd.underlying5 Tryd.underlying9 hown
    have hz : (strOfNums (List.replicate (19999 + m) 0)).size ≤ 20001 := by rw [strOfNums_size]; simp; omega
    have HB4 : Hid (Below w.heap.size w w4) := HB3.out.grown hgrow HB3.out.size (fun k h => by cases h)
    clear hown hgrow HB3
    generalize strOfNums (List.replicate (19999 + m) 0) = Z at *
    go_wp2
    go_ret
    exact ⟨_, rfl, hz, HB4.out⟩
  | false =>
    go_wp2_with fail
    refine (srcN_any b n V 20 w2 HD.out (by decide)).mono ?_
    rintro e w3 ⟨k, rfl, ⟨k0, k1, _⟩, hd, hg⟩
    have k1 := k1 (by decide)
    have HB3 := hid (below_src HB2.out hb hg)
    have cY := hid (bytes_any b n V k w3 hd k0 (by omega))
    clear hd hg HB2 HD
    go_wp2_with fail
    refine cY.out.mono ?_
    rintro e w4 ⟨s, rfl, hs, _, hg⟩
    have HB4 := hid (below_src HB3.out hb hg)
    clear hg cY HB3
    go_wp2
    go_ret
    exact ⟨_, rfl, by omega, HB4.out⟩
end Go.Proofs.YtcjclioockjfhaaDoor
