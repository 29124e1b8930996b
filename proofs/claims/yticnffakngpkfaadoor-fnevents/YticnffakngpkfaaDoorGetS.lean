/-
  Numbers out of bytes: what spec.GetNum answers, for every text and place: contracts over the seat's program.
-/
import Derived.Test.YticnffakngpkfaaDoorGet
namespace Go.Proofs.YticnffakngpkfaaDoor.Get
open Go.RowKit

theorem numV_bad {s : ByteArray} {a : Nat} {c : Int} (h : rd 10 (s.data.toList.drop a) 0 0 = (c, 0, 0)) (hc : c ≠ 0) : numV (gn s a) = .agg #[.int .i64 0, .int .i64 0, .int .i64 c] := by rw [gn_bad h hc]; rfl
theorem numV_odd {s : ByteArray} {a V k : Nat} (h : rd 10 (s.data.toList.drop a) 0 0 = (0, V, k + 1)) (hV : V % 2 = 1) : numV (gn s a) = .agg #[.int .i64 (-((V : Int) / 2) - 1), .int .i64 ((a : Int) + (k : Int) + 1), .int .i64 0] := by
  rw [gn_odd h hV, show ((a + (k + 1) : Nat) : Int) = (a : Int) + (k : Int) + 1 by omega]; rfl
theorem numV_even {s : ByteArray} {a V k : Nat} (h : rd 10 (s.data.toList.drop a) 0 0 = (0, V, k + 1)) (hV : ¬ V % 2 = 1) : numV (gn s a) = .agg #[.int .i64 ((V : Int) / 2), .int .i64 ((a : Int) + (k : Int) + 1), .int .i64 0] := by
  rw [gn_even h hV, show ((a + (k + 1) : Nat) : Int) = (a : Int) + (k : Int) + 1 by omega]; rfl

theorem kb_yes {k : Nat} (h : k = 9) : ((k : Int) == 9) = true := by simp [h]
theorem kb_no {k : Nat} (h : ¬ k = 9) : ((k : Int) == 9) = false := by simp; omega
set_option maxRecDepth 100000 in
set_option maxHeartbeats 1600000 in
theorem specGetNum_in (s : ByteArray) (a : Nat) (w : World) (h1 : (s.size : Int) ≤ 8000) (ha : (a : Int) ≤ 9223372036854775807) :
    Calls Tryd.prog 62 #[.string s, .int .i64 a] w fun e w' => e = .returned (numV (gn s a)) ∧ Below w.heap.size w w' := by
  go_enter Tryd.func62, Tryd.ntmps62
  go_wp2
  go_loop [5, 6, 7] (fun u i _ => ∃ k U : Nat, i = .int .i64 k ∧ u = .int .u64 U ∧ Rd s a k U) (fun _ i _ => 10 - (intOf i).toNat)
  case atStart => exact ⟨0, 0, rfl, rfl, Rd.start s a⟩
  case round =>
    obtain ⟨k, U, rfl, rfl, hR⟩ := hrel
    have hk9 := hR.le
    by_cases hin : a + k < s.size
    · have hb : s[a + k].toNat < 256 := UInt8.toNat_lt _
      by_cases hA : k = 9 ∧ 1 < s[a + k].toNat
      · obtain ⟨hk, hc⟩ := hA
        have hfin := hid (numV_bad (hR.big hin hk hc) (by decide))
        have hkb : ((k : Int) == 9) = true := by simp [hk]
        clear hk
        go_wp2
        exact bodyPost_ret (v := .agg #[.int .i64 0, .int .i64 0, .int .i64 3]) (by simp [results, Tryd.results62, go_sem]) rfl ⟨by rw [hfin.out], (Below.refl _ _).alloc (Nat.le_refl _) _⟩
      · have hsh := hR.shl (c := s[a + k].toNat) (fun h => by omega)
        obtain ⟨V, hV⟩ : ∃ V, V = U + s[a + k].toNat % 128 * 128 ^ k := ⟨_, rfl⟩
        have hVb : (V : Int) ≤ 18446744073709551615 := by
          have := hR.bd (c := s[a + k].toNat % 128) (Nat.mod_lt _ (by decide)) (fun h => by omega)
          omega
        rw [← hV] at hsh
        by_cases hB : s[a + k].toNat = 0 ∧ 0 < k
        · obtain ⟨hc, hk⟩ := hB
          have hfin := hid (numV_bad (hR.zero hin hk hc) (by decide))
          have hc0 : ((s[a + k].toNat : Int) == 0) = true := by simp [hc]
          have hc1 : (s[a + k].toNat : Int) ≤ 0 := by omega
          have hk1 : (0 : Int) < (k : Int) := by omega
          clear hc hA hV hk
          by_cases h9 : k = 9
          · have hkb := kb_yes h9
            clear h9
            go_wp2
            exact bodyPost_ret (v := .agg #[.int .i64 0, .int .i64 0, .int .i64 3]) (by simp [results, Tryd.results62, go_sem]) rfl ⟨by rw [hfin.out], (Below.refl _ _).alloc (Nat.le_refl _) _⟩
          · have hkb := kb_no h9
            clear h9
            go_wp2
            exact bodyPost_ret (v := .agg #[.int .i64 0, .int .i64 0, .int .i64 3]) (by simp [results, Tryd.results62, go_sem]) rfl ⟨by rw [hfin.out], (Below.refl _ _).alloc (Nat.le_refl _) _⟩
        · by_cases hC : s[a + k].toNat < 128
          · have hrd := hid (hR.done hin (fun h => by omega) hC hB)
            by_cases hodd : V % 2 = 1
            · have hfin := hid (numV_odd (V := V) (by rw [hV]; exact hrd.out) hodd)
              have ho : ((V : Int) % 2 == 1) = true := by simp; omega
              by_cases h9 : k = 9
              · have hkb := kb_yes h9
                have hc1 : (s[a + k].toNat : Int) ≤ 1 := by omega
                have hc0 : ((s[a + k].toNat : Int) == 0) = false := by simp; omega
                clear hA hB hV hodd h9
                go_wp2
                exact bodyPost_ret (v := .agg #[.int .i64 (-((V : Int) / 2) - 1), .int .i64 ((a : Int) + (k : Int) + 1), .int .i64 0]) (by simp [results, Tryd.results62, go_sem]) rfl ⟨by rw [hfin.out], (Below.refl _ _).alloc (Nat.le_refl _) _⟩
              · have hkb := kb_no h9
                by_cases hz : s[a + k].toNat = 0
                · have hc0 : ((s[a + k].toNat : Int) == 0) = true := by simp [hz]
                  have hk0 : (k : Int) ≤ 0 := by omega
                  clear hA hB hV hodd h9 hz
                  go_wp2
                  exact bodyPost_ret (v := .agg #[.int .i64 (-((V : Int) / 2) - 1), .int .i64 ((a : Int) + (k : Int) + 1), .int .i64 0]) (by simp [results, Tryd.results62, go_sem]) rfl ⟨by rw [hfin.out], (Below.refl _ _).alloc (Nat.le_refl _) _⟩
                · have hc0 : ((s[a + k].toNat : Int) == 0) = false := by simp [hz]
                  clear hA hB hV hodd h9 hz
                  go_wp2
                  exact bodyPost_ret (v := .agg #[.int .i64 (-((V : Int) / 2) - 1), .int .i64 ((a : Int) + (k : Int) + 1), .int .i64 0]) (by simp [results, Tryd.results62, go_sem]) rfl ⟨by rw [hfin.out], (Below.refl _ _).alloc (Nat.le_refl _) _⟩
            · have hfin := hid (numV_even (V := V) (by rw [hV]; exact hrd.out) hodd)
              have ho : ((V : Int) % 2 == 1) = false := by simp; omega
              by_cases h9 : k = 9
              · have hkb := kb_yes h9
                have hc1 : (s[a + k].toNat : Int) ≤ 1 := by omega
                have hc0 : ((s[a + k].toNat : Int) == 0) = false := by simp; omega
                clear hA hB hV hodd h9
                go_wp2
                exact bodyPost_ret (v := .agg #[.int .i64 ((V : Int) / 2), .int .i64 ((a : Int) + (k : Int) + 1), .int .i64 0]) (by simp [results, Tryd.results62, go_sem]) rfl ⟨by rw [hfin.out], (Below.refl _ _).alloc (Nat.le_refl _) _⟩
              · have hkb := kb_no h9
                by_cases hz : s[a + k].toNat = 0
                · have hc0 : ((s[a + k].toNat : Int) == 0) = true := by simp [hz]
                  have hk0 : (k : Int) ≤ 0 := by omega
                  clear hA hB hV hodd h9 hz
                  go_wp2
                  exact bodyPost_ret (v := .agg #[.int .i64 ((V : Int) / 2), .int .i64 ((a : Int) + (k : Int) + 1), .int .i64 0]) (by simp [results, Tryd.results62, go_sem]) rfl ⟨by rw [hfin.out], (Below.refl _ _).alloc (Nat.le_refl _) _⟩
                · have hc0 : ((s[a + k].toNat : Int) == 0) = false := by simp [hz]
                  clear hA hB hV hodd h9 hz
                  go_wp2
                  exact bodyPost_ret (v := .agg #[.int .i64 ((V : Int) / 2), .int .i64 ((a : Int) + (k : Int) + 1), .int .i64 0]) (by simp [results, Tryd.results62, go_sem]) rfl ⟨by rw [hfin.out], (Below.refl _ _).alloc (Nat.le_refl _) _⟩
          · have hmore := hR.more hin (fun h => by omega) (by omega)
            rw [← hV] at hmore
            have hkb := kb_no (k := k) (fun h => by omega)
            clear hA hB hV
            go_wp2
            go_round
            case rel => exact ⟨k + 1, V, by go_num, rfl, hmore⟩
            case measure => simp [intOf]; omega
    · have hfin := hid (numV_bad (hR.out (by omega)) (by decide))
      go_wp2
      exact bodyPost_ret (v := .agg #[.int .i64 0, .int .i64 0, .int .i64 4]) (by simp [results, Tryd.results62, go_sem]) rfl ⟨by rw [hfin.out], (Below.refl _ _).alloc (Nat.le_refl _) _⟩
end Go.Proofs.YticnffakngpkfaaDoor.Get
