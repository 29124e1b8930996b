/-
  One byte turned changes the sum; a sum goes on from text to text: plain mathematics on the functions of the CRC. Of no function of the program.
-/
import Derived.Test.YtcjclioockjfhaaDoorCrc
import Derived.Laws.BitsAllLaws
namespace Go.Proofs.YtcjclioockjfhaaDoor.Crc
open Go.RowKit

/-- A register. -/
def InW (r : Int) : Prop := 0 ≤ r ∧ r < 4294967296
theorem xor_nat {a b : Nat} (ha : a < 4294967296) (hb : b < 4294967296) : InW ((a ^^^ b : Nat) : Int) := by
  have : a ^^^ b < 2 ^ 32 := Nat.xor_lt_two_pow ha hb
  unfold InW
  omega
theorem xor_in {a b : Int} (ha : InW a) (hb : InW b) : InW (bits .xor .u32 a b) := by
  unfold InW at ha hb
  rw [u32_xor a b ha.1 ha.2 hb.1 hb.2]
  exact xor_nat (by omega) (by omega)
theorem xor_left {a b c : Int} (ha : InW a) (hb : InW b) (hc : InW c) (h : bits .xor .u32 a c = bits .xor .u32 b c) : a = b := by
  unfold InW at ha hb hc
  rw [u32_xor a c ha.1 ha.2 hc.1 hc.2, u32_xor b c hb.1 hb.2 hc.1 hc.2] at h
  have h' : a.toNat ^^^ c.toNat = b.toNat ^^^ c.toNat := by omega
  have h2 : a.toNat = b.toNat := by
    have := congrArg (· ^^^ c.toNat) h'
    simpa [Nat.xor_assoc] using this
  omega
theorem odd_bit {r : Int} (h : InW r) : (bits .and .u32 r 1 == 1) = decide (r % 2 = 1) := by
  unfold InW at h
  rw [u32_and r 1 h.1 h.2 (by decide) (by decide)]
  have e : r.toNat &&& (1 : Int).toNat = r.toNat % 2 := by
    show r.toNat &&& 1 = _
    exact Nat.and_one_is_mod _
  rw [e]
  have e2 : ((r.toNat % 2 : Nat) : Int) = r % 2 := by omega
  rw [e2]
  by_cases hr : r % 2 = 1
  · simp [hr]
  · simp [hr]
/-- Half of a register, with the pattern or without: the top bit tells which. -/
theorem top_xor {x : Nat} (h : x < 2147483648) : 2147483648 ≤ x ^^^ 3988292384 := by
  have h1 : (x ^^^ 3988292384).testBit 31 = true := by
    rw [Nat.testBit_xor, Nat.testBit_lt_two_pow (show x < 2 ^ 31 from h)]
    decide
  have := Nat.ge_two_pow_of_testBit h1
  omega
theorem cS_in {r : Int} (h : InW r) : InW (cS r) := by
  have hh := h
  unfold InW at hh
  have h2 : InW (r / 2) := ⟨by omega, by omega⟩
  cases hb : (bits .and .u32 r 1 == 1) with
  | true => rw [cS_yes hb]; exact xor_in h2 ⟨by decide, by decide⟩
  | false => rw [cS_no hb]; exact h2
theorem cS_inj {r q : Int} (hr : InW r) (hq : InW q) (h : cS r = cS q) : r = q := by
  have hr' := hr
  have hq' := hq
  unfold InW at hr' hq'
  have r2 : InW (r / 2) := ⟨by omega, by omega⟩
  have q2 : InW (q / 2) := ⟨by omega, by omega⟩
  have hP : InW 3988292384 := ⟨by decide, by decide⟩
  have top : ∀ {x : Int}, InW x → bits .xor .u32 (x / 2) 3988292384 ≥ 2147483648 := fun {x} hx => by
    unfold InW at hx
    rw [u32_xor (x / 2) 3988292384 (by omega) (by omega) (by decide) (by decide)]
    have := top_xor (x := (x / 2).toNat) (by omega)
    have e : (3988292384 : Int).toNat = 3988292384 := rfl
    rw [e]
    omega
  have br := odd_bit hr
  have bq := odd_bit hq
  cases hb : (bits .and .u32 r 1 == 1) with
  | true =>
    rw [hb] at br
    cases hc : (bits .and .u32 q 1 == 1) with
    | true =>
      rw [hc] at bq
      rw [cS_yes hb, cS_yes hc] at h
      have := xor_left r2 q2 hP h
      have := of_decide_eq_true br.symm
      have := of_decide_eq_true bq.symm
      omega
    | false =>
      rw [cS_yes hb, cS_no hc] at h
      have := top hr
      omega
  | false =>
    rw [hb] at br
    cases hc : (bits .and .u32 q 1 == 1) with
    | true =>
      rw [cS_no hb, cS_yes hc] at h
      have := top hq
      omega
    | false =>
      rw [hc] at bq
      rw [cS_no hb, cS_no hc] at h
      have := of_decide_eq_false br.symm
      have := of_decide_eq_false bq.symm
      omega
theorem cN_in : ∀ (n : Nat) {r : Int}, InW r → InW (cN n r)
  | 0, _, h => h
  | n + 1, _, h => cS_in (cN_in n h)
theorem cN_inj : ∀ (n : Nat) {r q : Int}, InW r → InW q → cN n r = cN n q → r = q
  | 0, _, _, _, _, h => h
  | n + 1, _, _, hr, hq, h => cN_inj n hr hq (cS_inj (cN_in n hr) (cN_in n hq) h)
theorem byte_in (b : UInt8) : InW ((b.toNat : Int) % 4294967296) ∧ (b.toNat : Int) % 4294967296 = (b.toNat : Int) := by
  have := UInt8.toNat_lt b
  unfold InW
  omega
theorem cB_in {r : Int} (h : InW r) (b : UInt8) : InW (cB r (b.toNat : Int)) := cN_in 8 (xor_in h (byte_in b).1)
theorem cB_left {r q : Int} (hr : InW r) (hq : InW q) (b : UInt8) (h : cB r (b.toNat : Int) = cB q (b.toNat : Int)) : r = q :=
  xor_left hr hq (byte_in b).1 (cN_inj 8 (xor_in hr (byte_in b).1) (xor_in hq (byte_in b).1) h)
theorem cB_right {r : Int} (hr : InW r) (b c : UInt8) (h : cB r (b.toNat : Int) = cB r (c.toNat : Int)) : b = c := by
  have h1 := cN_inj 8 (xor_in hr (byte_in b).1) (xor_in hr (byte_in c).1) h
  rw [bits_xor_comm r, bits_xor_comm r] at h1
  have h2 := xor_left (byte_in b).1 (byte_in c).1 hr h1
  rw [(byte_in b).2, (byte_in c).2] at h2
  exact UInt8.toNat_inj.1 (by omega)
theorem cL_in : ∀ (l : List UInt8) {r : Int}, InW r → InW (cL r l)
  | [], _, h => h
  | b :: l, _, h => cL_in l (cB_in h b)
theorem cL_left : ∀ (l : List UInt8) {r q : Int}, InW r → InW q → cL r l = cL q l → r = q
  | [], _, _, _, _, h => h
  | b :: l, _, _, hr, hq, h => cB_left hr hq b (cL_left l (cB_in hr b) (cB_in hq b) h)
theorem cL_app (r : Int) (a b : List UInt8) : cL r (a ++ b) = cL (cL r a) b := by simp [cL]
/-- One byte turned: another register. -/
theorem cL_one {r : Int} (hr : InW r) (a b : List UInt8) (x y : UInt8) (h : cL r (a ++ x :: b) = cL r (a ++ y :: b)) : x = y := by
  rw [cL_app, cL_app] at h
  exact cB_right (cL_in a hr) x y (cL_left b (cB_in (cL_in a hr) x) (cB_in (cL_in a hr) y) h)
theorem crc0_in (crc : Int) : InW (crc0 crc) := xor_in ⟨by omega, by omega⟩ ⟨by decide, by decide⟩
theorem crcL_in (crc : Int) (l : List UInt8) : InW (crcL crc l) ∧ crcL crc l = bits .xor .u32 (cL (crc0 crc) l) 4294967295 := by
  have h := xor_in (cL_in l (crc0_in crc)) (show InW 4294967295 from ⟨by decide, by decide⟩)
  have e : crcL crc l = bits .xor .u32 (cL (crc0 crc) l) 4294967295 := by
    unfold crcL wrap64
    unfold InW at h
    omega
  exact ⟨by rw [e]; exact h, e⟩
theorem crc_one (a b : List UInt8) (x y : UInt8) (h : crcL 0 (a ++ x :: b) = crcL 0 (a ++ y :: b)) : x = y := by
  rw [(crcL_in 0 _).2, (crcL_in 0 _).2] at h
  exact cL_one (crc0_in 0) a b x y (xor_left (cL_in _ (crc0_in 0)) (cL_in _ (crc0_in 0)) ⟨by decide, by decide⟩ h)
/-- It goes on. -/
theorem crc_on (crc : Int) (a b : List UInt8) : crcL (crcL crc a) b = crcL crc (a ++ b) := by
  have h1 := (crcL_in crc a).1
  have e1 := (crcL_in crc a).2
  have hx := cL_in a (crc0_in crc)
  have e2 : crc0 (crcL crc a) = cL (crc0 crc) a := by
    unfold crc0
    unfold InW at h1
    rw [show crcL crc a % 4294967296 = crcL crc a by omega, e1]
    unfold InW at hx
    show bits .xor .u32 (bits .xor .u32 (cL (crc0 crc) a) 4294967295) 4294967295 = cL (crc0 crc) a
    generalize cL (crc0 crc) a = R at *
    have hi := xor_in (show InW R from hx) (show InW 4294967295 from ⟨by decide, by decide⟩)
    unfold InW at hi
    rw [u32_xor _ _ hi.1 hi.2 (by decide) (by decide), u32_xor R 4294967295 hx.1 hx.2 (by decide) (by decide)]
    simp only [Int.toNat_natCast]
    rw [Nat.xor_assoc, Nat.xor_self, Nat.xor_zero]
    omega
  rw [(crcL_in (crcL crc a) b).2, (crcL_in crc (a ++ b)).2, e2, cL_app]
end Go.Proofs.YtcjclioockjfhaaDoor.Crc
