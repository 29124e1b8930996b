/-
  Texts put together: Mark, SpDec, ImQC, RdSt.
-/
import Derived.Test.YtimlnbfalnkmhaaGreatDoorZGen2
import Derived.Test.YtimlnbfalnkmhaaGreatDoorZCdRow5
import Derived.Test.YtimlnbfalnkmhaaGreatDoorZQuK5
import Derived.Test.YtimlnbfalnkmhaaGreatDoorZQpF4
import Derived.Test.YtimlnbfalnkmhaaGreatDoorZOwnB6
import Derived.Test.YtimlnbfalnkmhaaGreatDoorZKd2
/-
  What laws.markText answers, for every number from 1 on: a contract over the seat's program.
-/
namespace Go.Proofs.YtimlnbfalnkmhaaGreatDoor
open Go.RowKit

def digS (k : Nat) : ByteArray := ⟨[UInt8.ofNat (48 + k % 10)].toArray⟩
theorem digS_size (k : Nat) : (digS k).size = 1 := rfl
/-- The digits of a number ahead of a text. -/
def decT : Nat → Nat → ByteArray → ByteArray
  | 0, _, acc => acc
  | f + 1, k, acc => if k = 0 then acc else decT f (k / 10) (digS k ++ acc)
theorem decT_zero (f : Nat) (acc : ByteArray) : decT f 0 acc = acc := by cases f <;> simp [decT]
theorem decT_more {f k : Nat} (h : 0 < k) (acc : ByteArray) : decT (f + 1) k acc = decT f (k / 10) (digS k ++ acc) := by
  simp [decT, show ¬ k = 0 by omega]
def markT (k : Int) : ByteArray := ⟨#[109]⟩ ++ decT 20 k.toNat ByteArray.empty
theorem pow_down {f k : Nat} (hk : k < 10 ^ f) (h : 0 < k) : ∃ g, f = g + 1 ∧ k / 10 < 10 ^ g := by
  cases f with
  | zero => simp at hk; omega
  | succ g => exact ⟨g, rfl, by rw [Nat.pow_succ] at hk; omega⟩

set_option maxRecDepth 100000 in
set_option maxHeartbeats 400000 in
theorem markText_any (k : Int) (w : World) (h1 : 0 < k) (h2 : k ≤ 1000000000) :
    Calls Tryz.prog 77 #[.int .i64 k] w fun e w' => e = .returned (.string (markT k)) ∧ Below w.heap.size w w' := by
  obtain ⟨K, rfl⟩ := Int.eq_ofNat_of_zero_le (show 0 ≤ k by omega)
  unfold markT
  rw [Int.toNat_natCast]
  obtain ⟨D, hD⟩ : ∃ D, decT 20 K ByteArray.empty = D := ⟨_, rfl⟩
  rw [hD]
  have HD := hid hD
  clear hD
  go_enter Tryz.func77, Tryz.ntmps77
  go_wp2
  go_loopw [0, 3] (fun kv o wr => ∃ (m f : Nat) (acc : ByteArray), kv = .int .i64 m ∧ o = .string acc ∧ m < 10 ^ f ∧ f ≤ 20 ∧ acc.size + f ≤ 20 ∧ m ≤ 1000000000 ∧ decT f m acc = D ∧ Below w.heap.size w wr) (fun kv _ _ => (intOf kv).toNat)
  case atStart => exact ⟨K, 20, ByteArray.empty, rfl, rfl, by omega, Nat.le_refl _, by simp, by omega, HD.out, Below.refl _ _⟩
  case round =>
    obtain ⟨m, f, acc, rfl, rfl, hm, hf, hs, hm6, hdd, hbel⟩ := hrel
    have HDD := hid hdd
    have HM := hid hm
    clear hdd hm
    by_cases hlt : 0 < m
    · obtain ⟨g, rfl, hg⟩ := pow_down HM.out hlt
      rw [decT_more hlt] at HDD
      have hcv : (convert 22 9 (.slice (some ⟨wr.heap.size, 0, none⟩) 1 1)).run Tryz.prog (wr.alloc (.cells #[.int .u8 (48 + (m : Int) % 10)] 5)) = .ok (.string (digS m)) (wr.alloc (.cells #[.int .u8 (48 + (m : Int) % 10)] 5)) :=
        conv_row (P := Tryz.prog) (l := [UInt8.ofNat (48 + m % 10)]) 22 9 Tryz.underlying22 Tryz.underlying5 Tryz.underlying9 rfl (by
          have e : (Lib.byteCells [UInt8.ofNat (48 + m % 10)]).toArray = #[.int .u8 (48 + (m : Int) % 10)] := by
            simp [Lib.byteCells]; omega
          rw [e]; exact heap_alloc_new wr _)
      have hds := digS_size m
      generalize digS m = S at *
      have HG := hid hg
      clear hg HM
      go_wp2
      refine ⟨⟨m / 10, g, S ++ acc, by go_num, rfl, HG.out, by omega, by rw [ByteArray.size_append]; omega, by omega, HDD.out, hbel.alloc hbel.size _⟩, by simp [intOf]; omega⟩
    · have hm0 : m = 0 := by omega
      subst hm0
      rw [decT_zero] at HDD
      have hDS := HDD.out
      subst hDS
      go_wp2
      go_ret
      exact ⟨rfl, hbel⟩
end Go.Proofs.YtimlnbfalnkmhaaGreatDoor

/-
  What spec.l01Dec answers: a contract over the seat's program.
-/
namespace Go.Proofs.YtimlnbfalnkmhaaGreatDoor
open Go.RowKit
set_option linter.unusedVariables false

theorem decT_L : ∀ (f k : Nat) (acc : ByteArray), decT f k acc = ⟨(decL f k).toArray⟩ ++ acc
  | 0, k, acc => by
    unfold decT decL
    apply ByteArray.ext; simp
  | f + 1, k, acc => by
    unfold decT decL
    by_cases h : k = 0
    · rw [if_pos h, if_pos h]
      apply ByteArray.ext; simp
    · rw [if_neg h, if_neg h, decT_L f (k / 10)]
      apply ByteArray.ext
      simp [digS]
theorem decI_T {k : Nat} (h : 0 < k) : decI k = decT 20 k ByteArray.empty := by
  unfold decI
  rw [if_neg (by omega), Int.toNat_natCast, decT_L]
  apply ByteArray.ext; simp
set_option maxRecDepth 100000 in
set_option maxHeartbeats 400000 in
theorem l01Dec_any (k : Int) (w : World) (h1 : 0 ≤ k) (h2 : k ≤ 1000000000) :
    Calls Tryz.prog 36 #[.int .i64 k] w fun e w' => e = .returned (.string (decI k)) ∧ Below w.heap.size w w' := by
  obtain ⟨K, rfl⟩ := Int.eq_ofNat_of_zero_le h1
  by_cases hz : K = 0
  · subst hz
    go_enter Tryz.func36, Tryz.ntmps36
    go_wp2
    go_ret
    exact ⟨rfl, Below.refl _ _⟩
  have hpos : 0 < K := by omega
  rw [decI_T hpos]
  obtain ⟨D, hD⟩ : ∃ D, decT 20 K ByteArray.empty = D := ⟨_, rfl⟩
  rw [hD]
  have HD := hid hD
  clear hD hz
  have hK0 : ¬ ((K : Int) = 0) := by omega
  have hK1 : ((K : Int) == 0) = false := by simp; omega
  go_enter Tryz.func36, Tryz.ntmps36
  go_wp2
  go_loopw [0, 4] (fun kv o wr => ∃ (m f : Nat) (acc : ByteArray), kv = .int .i64 m ∧ o = .string acc ∧ m < 10 ^ f ∧ f ≤ 20 ∧ acc.size + f ≤ 20 ∧ m ≤ 1000000000 ∧ decT f m acc = D ∧ Below w.heap.size w wr) (fun kv _ _ => (intOf kv).toNat)
  case atStart => exact ⟨K, 20, ByteArray.empty, rfl, rfl, by omega, Nat.le_refl _, by simp, by omega, HD.out, Below.refl _ _⟩
  case round =>
    obtain ⟨m, f, acc, rfl, rfl, hm, hf, hs, hm6, hdd, hbel⟩ := hrel
    have HDD := hid hdd
    have HM := hid hm
    clear hdd hm hK0 hK1
    by_cases hlt : 0 < m
    · obtain ⟨g, rfl, hg⟩ := pow_down HM.out hlt
      rw [decT_more hlt] at HDD
      have hcv : (convert 22 9 (.slice (some ⟨wr.heap.size, 0, none⟩) 1 1)).run Tryz.prog (wr.alloc (.cells #[.int .u8 (48 + (m : Int) % 10)] 5)) = .ok (.string (digS m)) (wr.alloc (.cells #[.int .u8 (48 + (m : Int) % 10)] 5)) :=
        conv_row (P := Tryz.prog) (l := [UInt8.ofNat (48 + m % 10)]) 22 9 Tryz.underlying22 Tryz.underlying5 Tryz.underlying9 rfl (by
          have e : (Lib.byteCells [UInt8.ofNat (48 + m % 10)]).toArray = #[.int .u8 (48 + (m : Int) % 10)] := by
            simp [Lib.byteCells]; omega
          rw [e]; exact heap_alloc_new wr _)
      have hds := digS_size m
      have hr0 : ¬ ((m : Int) % 10 < 0) := by omega
      have hq0 : ¬ ((m : Int) = 0) := by omega
      generalize digS m = S at *
      have HG := hid hg
      clear hg HM
      go_wp2
      go_roundw
      case rel => exact ⟨m / 10, g, S ++ acc, by go_num, rfl, HG.out, by omega, by rw [ByteArray.size_append]; omega, by omega, HDD.out, hbel.alloc hbel.size _⟩
      case measure => simp [intOf]; omega
    · have hm0 : m = 0 := by omega
      subst hm0
      rw [decT_zero] at HDD
      have hDS := HDD.out
      subst hDS
      go_wp2
      go_ret
      exact ⟨rfl, hbel⟩
end Go.Proofs.YtimlnbfalnkmhaaGreatDoor

/-
  Queries: what impl.condsOf answers: a contract over the seat's program.
-/
namespace Go.Proofs.YtimlnbfalnkmhaaGreatDoor
open Go.RowKit Go.Lib
set_option linter.unusedVariables false

theorem Tryz.infoCond : (Tryz.prog.info? 130).map (fun i => (i.zero, i.size, i.bytes)) = some (some .nilIface, 1, 16) := by kernel_rfl
abbrev cdI (c : Cd) : Value := .iface (cdT c) (cdA c)
theorem one_new (V : World) (x : Value) (T : TypeId) : ∀ j u, [x][j]? = some u → (V.alloc (.cells #[x] T)).cell? ((⟨V.heap.size, 0, none⟩ : Addr).add j) = some u := by
  intro j u hj
  rw [Addr.add_lit, Lib.cell_of_heap (heap_alloc_new _ _), Nat.zero_add, ← hj]
  simp
theorem cdI_snoc {l : List Cd} {k : Nat} (h : k < l.length) : (l.take (k + 1)).map cdI = (l.take k).map cdI ++ [cdI l[k]] := by
  rw [List.take_succ_eq_append_getElem h, List.map_append]; rfl
set_option maxRecDepth 100000 in
set_option maxHeartbeats 2000000 in
theorem condsOf_any (cs : List Cd) (v : Value) (w : World) (hC : CdSl w v cs) (hn : cs.length ≤ 100000) :
    Calls Tryz.prog 56 #[v] w fun e w' => ∃ u, e = .returned u ∧ w'.ownsRow w.heap.size 130 1 u cs.length (cs.map cdI) ∧ Below w.heap.size w w' := by
  obtain ⟨i0, hi, hz0, hz1, hz2⟩ := info_parts Tryz.infoCond
  have hv : ∃ a c, v = .slice a cs.length c := by
    rcases hC with ⟨a, c, rfl, rfl⟩ | ⟨g, o, c, rfl, _, _⟩
    · exact ⟨a, c, rfl⟩
    · exact ⟨_, c, rfl⟩
  obtain ⟨a0, c0, rfl⟩ := hv
  have HC := hid hC
  clear hC
  have hq0 : (0 : Int) ≤ (cs.length : Int) := by omega
  go_enter Tryz.func56, Tryz.ntmps56
  go_wp2
  go_loopw [3, 8] (fun v iv wr => ∃ k : Nat, iv = .int .i64 (k : Int) ∧ k ≤ cs.length ∧ wr.ownsRow w.heap.size 130 1 v k ((cs.take k).map cdI) ∧ Below w.heap.size w wr) (fun _ iv _ => cs.length - (RowKit.intOf iv).toNat)
  case atStart => exact ⟨0, rfl, Nat.zero_le _, ⟨rfl, .inl ⟨rfl, rfl⟩⟩, Below.refl _ _⟩
  case round =>
    obtain ⟨k, rfl, hk, hown, hbel⟩ := hrel
    obtain ⟨va, vc, rfl⟩ := ownB_form hown
    have O := hid hown
    have B := hid hbel
    have hsz := hbel.size
    clear hown hbel
    by_cases hlt : k < cs.length
    · have zk : (k : Int) < (cs.length : Int) := by omega
      obtain ⟨g, o, rfl, hE⟩ := (HC.out.stayQ B.out).rowQ (by omega)
      obtain ⟨z0, z1, z2, z3⟩ := hE.2 k hlt
      have c1 := fun W => condOf_whole cs[k] W
      have hsn := hid (cdI_snoc hlt)
      clear hE
      generalize cs[k] = c at *
      obtain ⟨f, ox, t, n⟩ := c
      simp only at z0 z1 z2 z3
      go_wp2_with fail
      refine (c1 _).mono ?_
      rintro e w2 ⟨rfl, hb2⟩
      have B2 := hid ((B.out.alloc hsz (.cells #[.string f, .string ox, .string t, .int .i64 n] 67)).trans (hb2.mono (by simp; omega)))
      have O2 := hid (ownB_stay (O.out.alloc (.cells #[.string f, .string ox, .string t, .int .i64 n] 67)) hb2)
      have hs2 := B2.out.size
      have wn := one_new w2 (cdI ⟨f, ox, t, n⟩) 130
      clear hb2 c1 z0 z1 z2 z3
      unfold cdI at wn hsn
      generalize cdT ⟨f, ox, t, n⟩ = T0 at *
      go_wp2_with (first | (at_builtin; refine wpList_append_own _ rfl _ _ 91 rfl w.heap.size 130 i0 _ 1 16 Tryz.underlying91 hi hz0 hz1 hz2 rfl (by decide) _ _ _ rfl (O2.out.alloc _) ⟨w2.heap.size, 0, none⟩ 1 1 [.iface T0 (cdA ⟨f, ox, t, n⟩)] rfl rfl ?c1 ?c2 ?c3 ?c4 ?c5 ?_) | fail)
      case c1 => exact wn
      case c2 => simp [Value.oneCell']
      case c3 => unfold maxLen; omega
      case c4 => omega
      case c5 => simp; omega
      intro v' w1 ho hg _
      have B1 := hid ((B2.out.alloc hs2 _).grown hg (by simp; omega) (fun j e => (O2.out.lt j e).1))
      have O1 : Hid (w1.ownsRow w.heap.size 130 1 v' (k + 1) ((cs.take (k + 1)).map cdI)) := hid (by have h := hsn.out; simp only [← List.map_take] at ho; unfold cdI at ho ⊢; rw [h]; exact ho)
      obtain ⟨a', c', rfl⟩ := ownB_form ho
      clear ho hg O B O2 B2 wn hsn
      go_wp2
      go_roundw
      case rel => exact ⟨k + 1, by go_num, by omega, O1.out, B1.out⟩
      case measure => simp [RowKit.intOf]; omega
    · obtain rfl : k = cs.length := by omega
      have O1 : Hid (wr.ownsRow w.heap.size 130 1 (.slice va cs.length vc) cs.length (cs.map cdI)) := hid (by have := O.out; rwa [List.take_length] at this)
      clear O HC
      go_wp2
      go_ret
      exact ⟨_, rfl, O1.out, B.out⟩
end Go.Proofs.YtimlnbfalnkmhaaGreatDoor

/-
  Queries: impl.reader in memory: its words, its place; and what it panics with. Of no function.
-/
namespace Go.Proofs.YtimlnbfalnkmhaaGreatDoor
open Go.RowKit

/-- Words in memory, in none of block b. -/
def WdAt (w : World) (b : Nat) (sv : Value) (ws : List ByteArray) : Prop :=
  ∃ a c, sv = .slice a ws.length c ∧ ∀ i, (h : i < ws.length) → ∃ g o, a = some ⟨g, o, none⟩ ∧ g ≠ b ∧ g < w.heap.size ∧ w.cell? ⟨g, o + i, none⟩ = some (.string ws[i])
theorem cell_blk {w w' : World} {g : Nat} (h : w'.heap[g]? = w.heap[g]?) (o : Nat) : w'.cell? ⟨g, o, none⟩ = w.cell? ⟨g, o, none⟩ := by
  unfold World.cell?
  rw [h]
theorem WdAt.grown {w w' : World} {b : Nat} {sv : Value} {ws : List ByteArray} (h : WdAt w b sv ws) (hg : w.grownBy w' (some b)) : WdAt w' b sv ws := by
  obtain ⟨a, c, hv, hc⟩ := h
  refine ⟨a, c, hv, fun i hi => ?_⟩
  obtain ⟨g, o, ha, hne, hlt, hx⟩ := hc i hi
  exact ⟨g, o, ha, hne, Nat.lt_of_lt_of_le hlt hg.size, (cell_blk (hg.block g hlt (fun e => hne (Option.some.inj e))) _).trans hx⟩
end Go.Proofs.YtimlnbfalnkmhaaGreatDoor
