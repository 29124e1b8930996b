/-
  Numbers out of bytes: what impl.unfolded and impl.readNum answer, for every number, text and place: contracts over the seat's program.
-/
import Derived.Test.YtcjclioockjfhaaDoorGet
import Derived.Test.YtcjclioockjfhaaDoorJumps
import Derived.WalkMore
namespace Go.Proofs.YtcjclioockjfhaaDoor.Get
open Go.RowKit Jumps

theorem u64_not (a : Nat) (ha : a < 18446744073709551616) : bits .xor .u64 IntKind.u64.max (a : Int) = 18446744073709551615 - (a : Int) := by
  show IntKind.u64.wrap ((BitVec.ofInt 64 IntKind.u64.max ^^^ BitVec.ofInt 64 (a : Int)).toNat : Int) = _
  have h1 : BitVec.ofInt 64 IntKind.u64.max = BitVec.allOnes 64 := by decide
  rw [h1, BitVec.allOnes_xor, BitVec.toNat_not, ofInt_u64 a (by omega)]
  simp [IntKind.wrap, IntKind.bits, IntKind.signed]
  omega
theorem and1 (V : Nat) (h : (V : Int) ≤ 18446744073709551615) : bits .and .u64 (V : Int) 1 = (V : Int) % 2 := by
  rw [u64_and _ _ (by omega) (by omega) (by decide) (by decide)]
  simp only [Int.toNat_natCast, Int.reduceToNat]
  rw [show (1 : Nat) = 2 ^ 1 - 1 from rfl, Nat.and_two_pow_sub_one_eq_mod]
  omega
theorem unfolded_any (V : Nat) (w : World) (hV : (V : Int) ≤ 18446744073709551615) :
    Calls Tryd.prog 45 #[.int .u64 V] w fun e w' => e = .returned (.int .i64 (unf V)) ∧ w' = w := by
  have ha := and1 V hV
  by_cases h : V % 2 = 1
  · have hn : bits .xor .u64 IntKind.u64.max ((V : Int) / 2) = 18446744073709551615 - (V : Int) / 2 := by
      have := u64_not (V / 2) (by omega)
      simpa using this
    have ho : ((V : Int) % 2 == 1) = true := by simp; omega
    rw [unf, if_pos h]
    clear h
    go_enter Tryd.func45, Tryd.ntmps45
    go_wp2
    go_ret
    exact ⟨ret_int (by unfold wrap64; omega), rfl⟩
  · have ho : ((V : Int) % 2 == 1) = false := by simp; omega
    rw [unf, if_neg h]
    clear h
    go_enter Tryd.func45, Tryd.ntmps45
    go_wp2
    go_ret
    exact ⟨ret_int (by omega), rfl⟩

def rnV (x : Int × Int × Int) : Value := .tuple #[.int .i64 x.1, .int .i64 x.2.1, if x.2.2 = 0 then .nilIface else .iface 62 (.agg #[.int .i64 x.2.2])]
theorem rnV_bad {s : ByteArray} {a : Nat} {c : Int} (h : rd 10 (s.data.toList.drop a) 0 0 = (c, 0, 0)) (hc : c ≠ 0) : rnV (gn s a) = .tuple #[.int .i64 0, .int .i64 0, .iface 62 (.agg #[.int .i64 c])] := by rw [gn_bad h hc]; simp [rnV, hc]
theorem rnV_good {s : ByteArray} {a V k : Nat} (h : rd 10 (s.data.toList.drop a) 0 0 = (0, V, k + 1)) : rnV (gn s a) = .tuple #[.int .i64 (unf V), .int .i64 ((a : Int) + (k : Int) + 1), .nilIface] := by
  unfold gn numR; rw [h]; simp [rnV]; omega

theorem mask7 {c : Nat} (h : c < 256) : bits .and .u8 (c : Int) 127 = (c : Int) % 128 := by
  rw [u8_and _ _ (by omega) (by omega) (by decide) (by decide)]
  simp only [Int.toNat_natCast, Int.reduceToNat]
  rw [show (127 : Nat) = 2 ^ 7 - 1 from rfl, Nat.and_two_pow_sub_one_eq_mod]
  omega
theorem Rd.bor {s : ByteArray} {a k U : Nat} (h : Rd s a k U) {c : Nat} (h9 : k = 9 → c % 128 ≤ 1) : bits .or .u64 (U : Int) (IntKind.u64.wrap ((c : Int) % 128 * 2 ^ (7 * k))) = ((U + c % 128 * 128 ^ k : Nat) : Int) := by
  have hb := h.bd (c := c % 128) (Nat.mod_lt _ (by decide)) h9
  have hlt := h.lt
  have e : (2 : Int) ^ (7 * k) = ((128 ^ k : Nat) : Int) := by
    rw [Int.pow_mul]; simp
  have e2 : (c : Int) % 128 * 2 ^ (7 * k) = ((c % 128 * 128 ^ k : Nat) : Int) := by rw [e]; simp
  rw [e2]
  have e3 : IntKind.u64.wrap ((c % 128 * 128 ^ k : Nat) : Int) = ((c % 128 * 128 ^ k : Nat) : Int) := by
    rw [IntKind.wrap_u64]
    generalize c % 128 * 128 ^ k = y at *
    omega
  rw [e3, u64_or _ _ (by omega) (by omega) (by omega) (by omega)]
  simp only [Int.toNat_natCast]
  have e4 : 128 ^ k = 2 ^ (7 * k) := by rw [Nat.pow_mul]
  have e5 := Nat.two_pow_add_eq_or_of_lt (i := 7 * k) (b := U) (by rw [← e4]; exact hlt) (c % 128)
  rw [e4, Nat.mul_comm (c % 128), Nat.or_comm, ← e5, Nat.add_comm]

def J (s : ByteArray) (a : Nat) (w : World) (l : Nat) (x : Act) (w' : World) : Prop :=
  w' = w ∧ match l with
    | 0 => ∃ (c : Int) (v0 v1 v7 v8 v9 : Value), rd 10 (s.data.toList.drop a) 0 0 = (c, 0, 0) ∧ c ≠ 0 ∧ ∃ u11 u12 u13 u14 u15 u16 u17 u18 u19 u20 u21 u22 u23 u24 u25 u26 u27 u28 u29 u30 u31 u32 u33 u34 u35 u36 u37 u38 u39 u40 u41 u42 u43 u44 u45 u46 u47 u48 u49 u50 : Value, x = { tmps := #[v0, v1, undef, undef, .int .i64 0, .int .i64 0, .nilIface, v7, v8, v9, .int .i64 c, u11, u12, u13, u14, u15, u16, u17, u18, u19, u20, u21, u22, u23, u24, u25, u26, u27, u28, u29, u30, u31, u32, u33, u34, u35, u36, u37, u38, u39, u40, u41, u42, u43, u44, u45, u46, u47, u48, u49, u50], defers := [] }
    | 1 => ∃ (k U : Nat) (p r q : Int) (b : Value), Rd s a k U ∧ p = (a : Int) + (k : Int) ∧ r = (U : Int) ∧ q = (k : Int) ∧ ∃ u11 u12 u13 u14 u15 u16 u17 u18 u19 u20 u21 u22 u23 u24 u25 u26 u27 u28 u29 u30 u31 u32 u33 u34 u35 u36 u37 u38 u39 u40 u41 u42 u43 u44 u45 u46 u47 u48 u49 u50 : Value, x = { tmps := #[.string s, .int .i64 p, undef, undef, .int .i64 0, .int .i64 0, .nilIface, .int .u64 r, b, .int .i64 q, .int .i64 3, u11, u12, u13, u14, u15, u16, u17, u18, u19, u20, u21, u22, u23, u24, u25, u26, u27, u28, u29, u30, u31, u32, u33, u34, u35, u36, u37, u38, u39, u40, u41, u42, u43, u44, u45, u46, u47, u48, u49, u50], defers := [] }
    | 2 => ∃ (k U V : Nat) (p r q b : Int) (hin : a + k < s.size), Rd s a k U ∧ s[a + k].toNat < 128 ∧ (k = 9 → s[a + k].toNat ≤ 1) ∧ V = U + s[a + k].toNat % 128 * 128 ^ k ∧ p = (a : Int) + (k : Int) + 1 ∧ r = (V : Int) ∧ q = (k : Int) + 1 ∧ b = (s[a + k].toNat : Int) ∧ ∃ u11 u12 u13 u14 u15 u16 u17 u18 u19 u20 u21 u22 u23 u24 u25 u26 u27 u28 u29 u30 u31 u32 u33 u34 u35 u36 u37 u38 u39 u40 u41 u42 u43 u44 u45 u46 u47 u48 u49 u50 : Value, x = { tmps := #[.string s, .int .i64 p, undef, undef, .int .i64 0, .int .i64 0, .nilIface, .int .u64 r, .int .u8 b, .int .i64 q, .int .i64 3, u11, u12, u13, u14, u15, u16, u17, u18, u19, u20, u21, u22, u23, u24, u25, u26, u27, u28, u29, u30, u31, u32, u33, u34, u35, u36, u37, u38, u39, u40, u41, u42, u43, u44, u45, u46, u47, u48, u49, u50], defers := [] }
    | _ => False
def mu (l : Nat) (x : Act) (_ : World) : Nat := match l with
    | 0 => 0
    | 1 => 30 - (intOf (x.tmps.getD 9 undef)).toNat
    | _ => 1

set_option maxRecDepth 100000 in
set_option maxHeartbeats 800000 in
theorem readNum_any (s : ByteArray) (a : Nat) (w : World) (h1 : (s.size : Int) ≤ 8000) (ha : (a : Int) ≤ 9223372036854775807) :
    Calls Tryd.prog 42 #[.string s, .int .i64 a] w fun e w' => e = .returned (rnV (gn s a)) ∧ w' = w := by
  go_enter Tryd.func42, Tryd.ntmps42
  go_wp2
  refine wp_scope_labels_at (J s a w) mu ?_ ?_
  · intro l x w' hJ
    obtain ⟨rfl, hJ⟩ := hJ
    rcases l with _ | _ | _ | l
    · obtain ⟨c, v0, v1, v7, v8, v9, hrd, hc, u11, u12, u13, u14, u15, u16, u17, u18, u19, u20, u21, u22, u23, u24, u25, u26, u27, u28, u29, u30, u31, u32, u33, u34, u35, u36, u37, u38, u39, u40, u41, u42, u43, u44, u45, u46, u47, u48, u49, u50, rfl⟩ := hJ
      refine ⟨_, rfl, ?_⟩
      have hfin := hid (rnV_bad hrd hc)
      clear hrd hc
      go_wp2
      simp only [jumps]
      go_ret3
      exact ⟨by rw [hfin.out]; rfl, rfl⟩
    · obtain ⟨k, U, p, r, q, b, hR, rfl, rfl, rfl, u11, u12, u13, u14, u15, u16, u17, u18, u19, u20, u21, u22, u23, u24, u25, u26, u27, u28, u29, u30, u31, u32, u33, u34, u35, u36, u37, u38, u39, u40, u41, u42, u43, u44, u45, u46, u47, u48, u49, u50, rfl⟩ := hJ
      refine ⟨_, rfl, ?_⟩
      have hk9 := hR.le
      by_cases hin : a + k < s.size
      · have hb : s[a + k].toNat < 256 := UInt8.toNat_lt _
        have hm := mask7 hb
        by_cases hA : k = 9 ∧ 1 < s[a + k].toNat
        · obtain ⟨hk, hc⟩ := hA
          have hrd := hid (hR.big hin hk hc)
          have hkb : ((k : Int) + 1 == 10) = true := by simp; omega
          clear hk
          go_wp2
          go_step3
          exact ⟨⟨rfl, 3, _, _, _, _, _, hrd.out, by decide, _, _, _, _, _, _, _, _, _, _, _, _, _, _, _, _, _, _, _, _, _, _, _, _, _, _, _, _, _, _, _, _, _, _, _, _, _, _, _, _, rfl⟩, by simp [mu, intOf]; omega⟩
        · have hor := hR.bor (c := s[a + k].toNat) (fun h => by omega)
          obtain ⟨V, hV⟩ : ∃ V, V = U + s[a + k].toNat % 128 * 128 ^ k := ⟨_, rfl⟩
          rw [← hV] at hor
          have HV := hid hV
          clear hV
          by_cases hC : s[a + k].toNat < 128
          · by_cases h9 : k = 9
            · have hkb : ((k : Int) + 1 == 10) = true := by simp; omega
              have hc1 : (s[a + k].toNat : Int) ≤ 1 := by omega
              clear hA h9
              go_wp2
              go_step3
              exact ⟨⟨rfl, k, U, V, _, _, _, _, hin, hR, hC, fun _ => by omega, HV.out, by omega, rfl, by omega, rfl, _, _, _, _, _, _, _, _, _, _, _, _, _, _, _, _, _, _, _, _, _, _, _, _, _, _, _, _, _, _, _, _, _, _, _, _, _, _, _, _, rfl⟩, by simp [mu, intOf]; omega⟩
            · have hkb : ((k : Int) + 1 == 10) = false := by simp; omega
              have H9 := hid h9
              clear hA h9
              go_wp2
              go_step3
              exact ⟨⟨rfl, k, U, V, _, _, _, _, hin, hR, hC, fun h => absurd h H9.out, HV.out, by omega, rfl, by omega, rfl, _, _, _, _, _, _, _, _, _, _, _, _, _, _, _, _, _, _, _, _, _, _, _, _, _, _, _, _, _, _, _, _, _, _, _, _, _, _, _, _, rfl⟩, by simp [mu, intOf]; omega⟩
          · have hmore := hR.more hin (fun h => by omega) (by omega)
            rw [← HV.out] at hmore
            have hkb : ((k : Int) + 1 == 10) = false := by simp; omega
            clear hA
            go_wp2
            go_step3
            exact ⟨⟨rfl, k + 1, V, _, _, _, _, hmore, by omega, rfl, by omega, _, _, _, _, _, _, _, _, _, _, _, _, _, _, _, _, _, _, _, _, _, _, _, _, _, _, _, _, _, _, _, _, _, _, _, _, _, _, _, _, rfl⟩, by simp [mu, intOf]; omega⟩
      · have hrd := hid (hR.out (by omega))
        go_wp2
        go_step3
        exact ⟨⟨rfl, 4, _, _, _, _, _, hrd.out, by decide, _, _, _, _, _, _, _, _, _, _, _, _, _, _, _, _, _, _, _, _, _, _, _, _, _, _, _, _, _, _, _, _, _, _, _, _, _, _, _, _, rfl⟩, by simp [mu, intOf]; omega⟩
    · obtain ⟨k, U, V, p, r, q, b, hin, hR, hC, h9, hV, rfl, rfl, rfl, rfl, u11, u12, u13, u14, u15, u16, u17, u18, u19, u20, u21, u22, u23, u24, u25, u26, u27, u28, u29, u30, u31, u32, u33, u34, u35, u36, u37, u38, u39, u40, u41, u42, u43, u44, u45, u46, u47, u48, u49, u50, rfl⟩ := hJ
      refine ⟨_, rfl, ?_⟩
      have hk9 := hR.le
      have hVb : (V : Int) ≤ 18446744073709551615 := by
        have := hR.bd (c := s[a + k].toNat % 128) (Nat.mod_lt _ (by decide)) (fun h => by have := h9 h; omega)
        omega
      by_cases hB : s[a + k].toNat = 0 ∧ 0 < k
      · obtain ⟨hc, hk⟩ := hB
        have hrd := hid (hR.zero hin hk hc)
        have hc0 : ((s[a + k].toNat : Int) == 0) = true := by simp [hc]
        have hk1 : (1 : Int) < (k : Int) + 1 := by omega
        clear hc hk hV h9
        go_wp2
        go_step3
        exact ⟨⟨rfl, 3, _, _, _, _, _, hrd.out, by decide, _, _, _, _, _, _, _, _, _, _, _, _, _, _, _, _, _, _, _, _, _, _, _, _, _, _, _, _, _, _, _, _, _, _, _, _, _, _, _, _, rfl⟩, by simp [mu]⟩
      · have hrd := hid (hR.done hin h9 hC hB)
        have hfin := hid (rnV_good (V := V) (k := k) (by rw [hV]; exact hrd.out))
        have c1 := fun w => unfolded_any V w hVb
        clear hV h9
        by_cases hz : s[a + k].toNat = 0
        · have hc0 : ((s[a + k].toNat : Int) == 0) = true := by simp [hz]
          have hk0 : (k : Int) + 1 ≤ 1 := by omega
          clear hB hz
          go_wp2_with (go_at_call 45; refine (c1 _).mono ?_; rintro e w1 ⟨rfl, rfl⟩)
          simp only [jumps]
          go_ret3
          exact ⟨by rw [hfin.out]; rfl, rfl⟩
        · have hc0 : ((s[a + k].toNat : Int) == 0) = false := by simp [hz]
          clear hB hz
          go_wp2_with (go_at_call 45; refine (c1 _).mono ?_; rintro e w1 ⟨rfl, rfl⟩)
          simp only [jumps]
          go_ret3
          exact ⟨by rw [hfin.out]; rfl, rfl⟩
    · exact hJ.elim
  · intro hp
    go_wp2
    go_step3
    rename_i K hK
    refine hK _ _ ?_
    exact hp 1 _ _ _ rfl ⟨rfl, 0, 0, (a : Int), 0, 0, _, Rd.start s a, by simp, rfl, rfl, _, _, _, _, _, _, _, _, _, _, _, _, _, _, _, _, _, _, _, _, _, _, _, _, _, _, _, _, _, _, _, _, _, _, _, _, _, _, _, _, rfl⟩
end Go.Proofs.YtcjclioockjfhaaDoor.Get
