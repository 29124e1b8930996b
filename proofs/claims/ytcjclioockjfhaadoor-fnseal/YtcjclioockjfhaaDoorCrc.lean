/-
  The CRC: what spec.l01Crc, spec.Crc, spec.CrcMore, impl.crcByte, impl.CrcMore and impl.Crc answer, for every text: contracts over the seat's program.
-/
import Derived.Test.YtcjclioockjfhaaDoorGen
import Derived.Test.YtcjclioockjfhaaDoorLong
namespace Go.Proofs.YtcjclioockjfhaaDoor.Crc
open Go.RowKit

def cS (r : Int) : Int := if (bits .and .u32 r 1 == 1) = true then bits .xor .u32 (r / 2) 3988292384 else r / 2
def cN : Nat → Int → Int
  | 0, r => r
  | n + 1, r => cS (cN n r)
def cB (r c : Int) : Int := cN 8 (bits .xor .u32 r (c % 4294967296))
def cL (r : Int) (l : List UInt8) : Int := l.foldl (fun r b => cB r (b.toNat : Int)) r
theorem cL_snoc (r : Int) (l : List UInt8) (b : UInt8) : cL r (l ++ [b]) = cB (cL r l) (b.toNat : Int) := by simp [cL]
theorem take_snoc (s : ByteArray) (k : Nat) (h : k < s.size) : s.data.toList.take (k + 1) = s.data.toList.take k ++ [s[k]] := by
  rw [List.take_succ_eq_append_getElem (by simpa using h)]; rfl

def crc0 (crc : Int) : Int := bits .xor .u32 (crc % 4294967296) 4294967295
def crcL (crc : Int) (l : List UInt8) : Int := wrap64 (bits .xor .u32 (cL (crc0 crc) l) 4294967295)
theorem cS_yes {r : Int} (h : (bits .and .u32 r 1 == 1) = true) : cS r = bits .xor .u32 (r / 2) 3988292384 := by unfold cS; rw [if_pos h]
theorem cS_no {r : Int} (h : (bits .and .u32 r 1 == 1) = false) : cS r = r / 2 := by unfold cS; rw [if_neg (by rw [h]; decide)]
theorem take_all (s : ByteArray) : s.data.toList.take s.size = s.data.toList := List.take_of_length_le (by simp)
set_option maxHeartbeats 400000 in
theorem l01Crc_any (crc : Int) (s : ByteArray) (w : World) (hs : s.size ≤ maxLen) :
    Calls Tryd.prog 37 #[.int .i64 crc, .string s] w fun e w' => e = .returned (.int .i64 (crcL crc s.data.toList)) ∧ w' = w := by
  unfold maxLen at hs
  go_enter Tryd.func37, Tryd.ntmps37
  go_wp2
  go_loop [5, 6, 7] (fun r i _ => ∃ k : Nat, k ≤ s.size ∧ i = .int .i64 k ∧ r = .int .u32 (cL (crc0 crc) (s.data.toList.take k))) (fun _ i _ => s.size - (intOf i).toNat)
  case atStart => exact ⟨0, Nat.zero_le _, rfl, rfl⟩
  case round =>
    obtain ⟨k, hk, rfl, rfl⟩ := hrel
    by_cases hlt : k < s.size
    · obtain ⟨R, hR⟩ : ∃ R, R = cL (crc0 crc) (s.data.toList.take k) := ⟨_, rfl⟩
      have HS : Hid (cL (crc0 crc) (s.data.toList.take (k + 1)) = cB R (s[k].toNat : Int)) := by rw [take_snoc s k hlt, cL_snoc, ← hR]; exact rfl
      rw [← hR]
      clear hR
      go_wp2
      go_loop [5, 7] (fun r i => ∃ j : Nat, j ≤ 8 ∧ i = .int .i64 j ∧ r = .int .u32 (cN j (bits .xor .u32 R ((s[k].toNat : Int) % 4294967296)))) (fun _ i => 8 - (intOf i).toNat)
      case atStart => exact ⟨0, Nat.zero_le _, rfl, rfl⟩
      case round =>
        obtain ⟨j, hj, rfl, rfl⟩ := hrel
        obtain ⟨X, hX⟩ : ∃ X, X = cN j (bits .xor .u32 R ((s[k].toNat : Int) % 4294967296)) := ⟨_, rfl⟩
        have HX : Hid (cN (j + 1) (bits .xor .u32 R ((s[k].toNat : Int) % 4294967296)) = cS X) := by rw [hX]; exact rfl
        have HX0 := hid hX
        rw [← hX]
        clear hX
        by_cases hjl : j < 8
        · cases hb : (bits .and .u32 X 1 == 1) with
          | true =>
            have hc : Hid (cS X = bits .xor .u32 (X / 2) 3988292384) := by exact cS_yes hb
            go_wp2
            go_round
            case rel => exact ⟨j + 1, by omega, by go_num, by rw [HX.out, hc.out]⟩
            case measure => simp [intOf]; omega
          | false =>
            have hc : Hid (cS X = X / 2) := by exact cS_no hb
            go_wp2
            go_round
            case rel => exact ⟨j + 1, by omega, by go_num, by rw [HX.out, hc.out]⟩
            case measure => simp [intOf]; omega
        · go_wp2
          go_round
          case rel => exact ⟨k + 1, by omega, by go_num, by rw [HS.out, HX0.out, show j = 8 by omega]; rfl⟩
          case measure => simp [intOf]; omega
    · go_wp2
      go_ret
      exact ⟨ret_int (by rw [show k = s.size by omega, take_all]; rfl), rfl⟩

set_option maxHeartbeats 400000 in
theorem crcByte_any (R c : Int) (w : World) :
    Calls Tryd.prog 41 #[.int .u32 R, .int .u8 c] w fun e w' => e = .returned (.int .u32 (cB R c)) ∧ w' = w := by
  go_enter Tryd.func41, Tryd.ntmps41
  go_wp2
  go_loop [0, 10] (fun r i => ∃ j : Nat, j ≤ 8 ∧ i = .int .i64 j ∧ r = .int .u32 (cN j (bits .xor .u32 R (c % 4294967296)))) (fun _ i => 8 - (intOf i).toNat)
  case atStart => exact ⟨0, Nat.zero_le _, rfl, rfl⟩
  case round =>
    obtain ⟨j, hj, rfl, rfl⟩ := hrel
    obtain ⟨X, hX⟩ : ∃ X, X = cN j (bits .xor .u32 R (c % 4294967296)) := ⟨_, rfl⟩
    have HX : Hid (cN (j + 1) (bits .xor .u32 R (c % 4294967296)) = cS X) := by rw [hX]; exact rfl
    have HX0 := hid hX
    rw [← hX]
    clear hX
    by_cases hjl : j < 8
    · cases hb : (bits .and .u32 X 1 == 1) with
      | true =>
        have hc : Hid (cS X = bits .xor .u32 (X / 2) 3988292384) := by exact cS_yes hb
        go_wp2
        go_round
        case rel => exact ⟨j + 1, by omega, by go_num, by rw [HX.out, hc.out]⟩
        case measure => simp [intOf]; omega
      | false =>
        have hc : Hid (cS X = X / 2) := by exact cS_no hb
        go_wp2
        go_round
        case rel => exact ⟨j + 1, by omega, by go_num, by rw [HX.out, hc.out]⟩
        case measure => simp [intOf]; omega
    · go_wp2
      go_ret
      exact ⟨ret_int (by rw [HX0.out, show j = 8 by omega]; rfl), rfl⟩

theorem bits_xor_comm (a b : Int) : bits .xor .u32 a b = bits .xor .u32 b a := by
  show IntKind.u32.wrap ((BitVec.ofInt 32 a ^^^ BitVec.ofInt 32 b).toNat : Int) = IntKind.u32.wrap ((BitVec.ofInt 32 b ^^^ BitVec.ofInt 32 a).toNat : Int)
  rw [BitVec.xor_comm]
theorem xor_max (a : Int) : bits .xor .u32 IntKind.u32.max a = bits .xor .u32 a 4294967295 := by rw [bits_xor_comm]; rfl
theorem crc0_of {crc : Int} (h2 : 0 ≤ crc) (h3 : crc ≤ 4294967295) : bits .xor .u32 IntKind.u32.max crc = crc0 crc := by
  rw [xor_max, crc0, show crc % 4294967296 = crc by omega]
set_option maxHeartbeats 400000 in
theorem CrcMore_any (crc : Int) (s : ByteArray) (w : World) (h1 : (s.size : Int) ≤ 8000) (h2 : 0 ≤ crc) (h3 : crc ≤ 4294967295) :
    Calls Tryd.prog 19 #[.int .i64 crc, .string s] w fun e w' => e = .returned (.int .i64 (crcL crc s.data.toList)) ∧ w' = w := by
  have hc : ∀ w, Calls Tryd.prog 31 #[.string s] w fun e w' => e = .returned (.bool false) ∧ w' = w := fun w => by
    have := tooLong_any s w
    rwa [show decide (8000 < (s.size : Int)) = false by simp; omega] at this
  go_enter Tryd.func19, Tryd.ntmps19
  go_wp2_with (go_at_call 31; refine (hc _).mono ?_; rintro e w1 ⟨rfl, rfl⟩)
  clear hc
  go_loop [5, 6] (fun r i => ∃ k : Nat, k ≤ s.size ∧ i = .int .i64 k ∧ r = .int .u32 (cL (crc0 crc) (s.data.toList.take k))) (fun _ i => s.size - (intOf i).toNat)
  case atStart => exact ⟨0, Nat.zero_le _, rfl, by rw [crc0_of h2 h3]; rfl⟩
  case round =>
    obtain ⟨k, hk, rfl, rfl⟩ := hrel
    by_cases hlt : k < s.size
    · obtain ⟨R, hR⟩ : ∃ R, R = cL (crc0 crc) (s.data.toList.take k) := ⟨_, rfl⟩
      have HS : Hid (cL (crc0 crc) (s.data.toList.take (k + 1)) = cB R (s[k].toNat : Int)) := by rw [take_snoc s k hlt, cL_snoc, ← hR]; exact rfl
      rw [← hR]
      clear hR
      go_wp2_with (go_at_call 41; refine (crcByte_any _ _ _).mono ?_; rintro e w2 ⟨rfl, rfl⟩)
      go_round
      case rel => exact ⟨k + 1, by omega, by go_num, by rw [HS.out]⟩
      case measure => simp [intOf]; omega
    · go_wp2
      go_ret
      exact ⟨ret_int (by rw [show k = s.size by omega, take_all, xor_max]; rfl), rfl⟩

theorem CrcMore_no (crc : Int) (s : ByteArray) (w : World) (h : ¬ ((s.size : Int) ≤ 8000 ∧ 0 ≤ crc ∧ crc ≤ 4294967295)) :
    Calls Tryd.prog 19 #[.int .i64 crc, .string s] w fun e w' => e = .returned (.int .i64 0) ∧ w' = w := by
  by_cases h1 : (s.size : Int) ≤ 8000
  · have hc : ∀ w, Calls Tryd.prog 31 #[.string s] w fun e w' => e = .returned (.bool false) ∧ w' = w := fun w => by
      have := tooLong_any s w
      rwa [show decide (8000 < (s.size : Int)) = false by simp; omega] at this
    by_cases h2 : 0 ≤ crc
    · have h3 : 4294967295 < crc := by omega
      go_enter Tryd.func19, Tryd.ntmps19
      go_wp2_with (go_at_call 31; refine (hc _).mono ?_; rintro e w1 ⟨rfl, rfl⟩)
      go_ret
      exact ⟨rfl, rfl⟩
    · go_enter Tryd.func19, Tryd.ntmps19
      go_wp2_with (go_at_call 31; refine (hc _).mono ?_; rintro e w1 ⟨rfl, rfl⟩)
      go_ret
      exact ⟨rfl, rfl⟩
  · have hc : ∀ w, Calls Tryd.prog 31 #[.string s] w fun e w' => e = .returned (.bool true) ∧ w' = w := fun w => by
      have := tooLong_any s w
      rwa [show decide (8000 < (s.size : Int)) = true by simp; omega] at this
    go_enter Tryd.func19, Tryd.ntmps19
    go_wp2_with (go_at_call 31; refine (hc _).mono ?_; rintro e w1 ⟨rfl, rfl⟩)
    go_ret
    exact ⟨rfl, rfl⟩

/-- What Crc and CrcMore answer. -/
def crcM (crc : Int) (s : ByteArray) : Int := if (s.size : Int) ≤ 8000 ∧ 0 ≤ crc ∧ crc ≤ 4294967295 then crcL crc s.data.toList else 0
theorem implCrcMore_any (crc : Int) (s : ByteArray) (w : World) :
    Calls Tryd.prog 19 #[.int .i64 crc, .string s] w fun e w' => e = .returned (.int .i64 (crcM crc s)) ∧ w' = w := by
  by_cases h : (s.size : Int) ≤ 8000 ∧ 0 ≤ crc ∧ crc ≤ 4294967295
  · rw [crcM, if_pos h]; exact CrcMore_any crc s w h.1 h.2.1 h.2.2
  · rw [crcM, if_neg h]; exact CrcMore_no crc s w h
theorem implCrc_any (s : ByteArray) (w : World) :
    Calls Tryd.prog 21 #[.string s] w fun e w' => e = .returned (.int .i64 (crcM 0 s)) ∧ w' = w := by
  go_enter Tryd.func21, Tryd.ntmps21
  go_wp2_with (go_at_call 19; refine (implCrcMore_any 0 s _).mono ?_; rintro e w1 ⟨rfl, rfl⟩)
  go_ret
  exact ⟨rfl, rfl⟩
end Go.Proofs.YtcjclioockjfhaaDoor.Crc
