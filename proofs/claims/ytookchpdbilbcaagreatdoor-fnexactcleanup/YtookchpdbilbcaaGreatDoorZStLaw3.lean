/-
 Texts put together: StLaw, ApCe, SpPut.
-/
import Derived.Test.YtookchpdbilbcaaGreatDoorZAgg6
import Derived.Lib.QuietBelow
import Derived.Laws.AppendOwnNone
import Derived.Test.YtookchpdbilbcaaGreatDoorZRunM3
import Derived.Test.YtookchpdbilbcaaGreatDoorZEvI8
import Derived.Maps.AppendAt
set_option maxRecDepth 100000
set_option maxHeartbeats 2000000
/-
 What laws.szStringS, toStringS, eqStringS answer: contracts over the seat's program.
-/
namespace Go.Proofs.YtookchpdbilbcaaGreatDoor
open Go.RowKit Go.Sort
theorem Tryz.infoStr : (Tryz.prog.info? 9).map (fun i => (i.zero, i.size, i.bytes)) = some (some (.string ⟨#[]⟩), 1, 16) := by kernel_rfl
theorem ZHs {ss : List ByteArray} {k : Nat} (h : k < ss.length) : (ss.take (k + 1)).map Value.string = (ss.take k).map Value.string ++ [.string ss[k]] := by
 rw [List.take_succ_eq_append_getElem h, List.map_append]; rfl
theorem ZD2 (g o c : Nat) (ss : List ByteArray) (w : World) (hE : StrsAt w g o ss) (hn : ss.length ≤ 1048576) :
  Calls Tryz.prog 47 #[.slice (some ⟨g, o, none⟩) ss.length c] w fun e w' =>
   ∃ v, e = .returned v ∧ w'.ownsRow w.heap.size 9 1 v ss.length (ss.map Value.string) ∧ Below w.heap.size w w' := by
 obtain ⟨i0, hi, hz0, hz1, hz2⟩ := info_parts Tryz.infoStr
 have HE := hid hE
 clear hE
 go_enter Tryz.func47, Tryz.ntmps47
 go_wp2_with (at_make; refine wpList_make_full _ rfl _ _ 22 rfl w.heap.size 9 i0 _ 1 Tryz.underlying22 hi hz0 hz1 _ _ _ _ ss.length rfl rfl ?m1 ?m2 ?m3 ?m4 nL ?_)
 case m1 => omega
 case m2 => omega
 case m3 => rw [hz2]; omega
 case m4 => unfold maxLen; omega
 intro w1 hown hgrow
 have hB1 : Below w.heap.size w w1 := (bR _ _).grown hgrow nL (fun k h => by cases h)
 obtain ⟨L0, hL0, hG0⟩ := ZIt hown
 have H0 := hid hL0
 have HG0 := hid hG0
 clear hown hgrow hi hz0 hz1 hz2 hL0 hG0 i0
 go_wp2
 go_loopw [4] (fun i wr => ∃ (k : Nat) (L : List Value), k ≤ ss.length ∧ i = .int .i64 k ∧ L.length = ss.length ∧ L.take k = (ss.take k).map Value.string ∧ wr.heap[w.heap.size]? = some (.cells L.toArray 9 (0, 0)) ∧ Below w.heap.size w wr) (fun i _ => ss.length - (intOf i).toNat)
 case atStart => exact ⟨0, L0, Nat.zero_le _, rfl, H0.out, by simp, HG0.out, hB1⟩
 case round =>
  obtain ⟨k, L, hk, rfl, hL, hT, hG, hbel⟩ := hrel
  have HT := hid hT
  have HL := hid hL
  have HG := hid hG
  clear hT hL hG
  by_cases hlt : k < ss.length
  ·have c0 := (HE.out.stay hbel nL).2 k hlt
   have HC := hid (ZHs hlt)
   have hfz : ∀ j, wr.frozen? ⟨w.heap.size, j, none⟩ = false := fun j => Lib.frozen_of_heap HG.out j
   obtain ⟨u0, d0⟩ : ∃ u, wr.cell? ⟨w.heap.size, k, none⟩ = some u := ZHW HG.out (by have := HL.out; omega)
   go_wp2
   go_roundw
   case rel =>
    refine ⟨k + 1, _, by omega, by go_num, ?_, ?_, ZAG HG.out _, hbel.setCell (p := ⟨w.heap.size, k, none⟩) nL _⟩
    ·rw [List.length_set]; exact HL.out
    ·rw [ZHb (by have := HL.out; omega), HT.out, HC.out]
   case measure => simp [intOf]; omega
  ·have hke : k = ss.length := by omega
   have HK := hid hke
   clear hke
   go_wp2
   go_ret
   refine ⟨_, rfl, ⟨by simp, .inr ⟨w.heap.size, ss.length, L.toArray, rfl, Nat.le_refl _, HG.out, Nat.le_refl _, by unfold maxLen; omega, by simpa using HL.out, ?_⟩⟩, hbel⟩
   have := HT.out
   rw [HK.out, List.take_of_length_le (Nat.le_refl ss.length)] at this
   simpa using this
theorem ZDY (a : Option Addr) (c : Nat) (w : World) :
  Calls Tryz.prog 47 #[.slice a 0 c] w fun e w' =>
   ∃ v, e = .returned v ∧ w'.ownsRow w.heap.size 9 1 v 0 [] ∧ Below w.heap.size w w' := by
 obtain ⟨i0, hi, hz0, hz1, hz2⟩ := info_parts Tryz.infoStr
 go_enter Tryz.func47, Tryz.ntmps47
 go_wp2_with (at_make; refine wpList_make_full _ rfl _ _ 22 rfl w.heap.size 9 i0 _ 1 Tryz.underlying22 hi hz0 hz1 _ _ _ _ 0 rfl rfl ?m1 ?m2 ?m3 ?m4 nL ?_)
 case m1 => rfl
 case m2 => rfl
 case m3 => rw [hz2]; omega
 case m4 => unfold maxLen; omega
 intro w1 hown hgrow
 have hB1 : Below w.heap.size w w1 := (bR _ _).grown hgrow nL (fun k h => by cases h)
 have HO : Hid (w1.ownsRow w.heap.size 9 1 (.slice (some ⟨w.heap.size, 0, none⟩) 0 0) 0 []) := by
  have h0 := hown.1
  rw [Nat.zero_mul] at h0
  rw [List.eq_nil_of_length_eq_zero h0] at hown
  exact hown
 clear hown hgrow hi hz0 hz1 hz2 i0
 go_wp2
 go_loop [4] (fun i => i = .int .i64 0) (fun _ => 0)
 case atStart => exact rfl
 case round =>
  subst hrel
  go_wp2
  go_ret
  exact ⟨_, rfl, HO.out, hB1⟩
theorem ZEV (v : Value) (ss : List ByteArray) (w : World) (h : StrSl w v ss) (hn : ss.length ≤ 1048576) :
  Calls Tryz.prog 47 #[v] w fun e w' =>
   ∃ v, e = .returned v ∧ w'.ownsRow w.heap.size 9 1 v ss.length (ss.map Value.string) ∧ Below w.heap.size w w' := by
 rcases h with ⟨a, c, rfl, rfl⟩ | ⟨g, o, c, rfl, _, h⟩
 ·exact ZDY a c w
 ·exact ZD2 g o c ss w h hn
theorem ZEK (g1 o1 c1 g2 o2 c2 : Nat) (ss : List ByteArray) (w : World) (hE1 : StrsAt w g1 o1 ss) (hE2 : StrsAt w g2 o2 ss) (hn : ss.length ≤ maxLen) :
  Calls Tryz.prog 53 #[.slice (some ⟨g1, o1, none⟩) ss.length c1, .slice (some ⟨g2, o2, none⟩) ss.length c2] w fun e w' => e = .returned (.bool true) ∧ Below w.heap.size w w' := by
 unfold maxLen at hn
 have mixed : Tryz.prog.follows .mixedOrders = true := by kernel_rfl
 have HE1 := hid hE1
 have HE2 := hid hE2
 clear hE1 hE2
 go_enter Tryz.func53, Tryz.ntmps53
 go_wp2
 go_loopw [5] (fun i wr => ∃ k : Nat, k ≤ ss.length ∧ i = .int .i64 k ∧ Below w.heap.size w wr) (fun i _ => ss.length - (intOf i).toNat)
 case atStart => exact ⟨0, Nat.zero_le _, rfl, Below.refl _ _⟩
 case round =>
  obtain ⟨k, hk, rfl, hbel⟩ := hrel
  by_cases hlt : k < ss.length
  ·have a0 := (HE1.out.stay hbel nL).2 k hlt
   have b0 := (HE2.out.stay hbel nL).2 k hlt
   generalize ss[k] = q4 at *
   have k0 := cell_regrown a0
   have l0 := cell_regrown b0
   clear a0 b0
   go_wp2
   refine wp_region_quiet_below mixed (by kernel_rfl) ?_
   repeat (quiet_step (fail))
   refine wpQuiet_nil ?_
   intro _ hw'
   obtain ⟨⟨dq, osq⟩, hw''⟩ := hw'
   subst hw''
   have hbX := hbel.trans ((below_regrown wr dq osq).mono hbel.size)
   clear k0 l0
   go_wp2
   go_roundw
   case rel => exact ⟨k + 1, by omega, by go_num, hbX⟩
   case measure => simp [intOf]; omega
  ·go_wp2
   go_ret
   exact ⟨rfl, hbel⟩
theorem ZDR (a1 a2 : Option Addr) (c1 c2 : Nat) (w : World) :
  Calls Tryz.prog 53 #[.slice a1 0 c1, .slice a2 0 c2] w fun e w' => e = .returned (.bool true) ∧ Below w.heap.size w w' := by
 go_enter Tryz.func53, Tryz.ntmps53
 go_wp2
 go_loop [5] (fun i => i = .int .i64 0) (fun _ => 0)
 case atStart => exact rfl
 case round =>
  subst hrel
  go_wp2
  go_ret
  exact ⟨rfl, Below.refl _ _⟩
theorem ZEF (v1 v2 : Value) (ss : List ByteArray) (w : World) (h1 : StrSl w v1 ss) (h2 : StrSl w v2 ss) (hn : ss.length ≤ maxLen) :
  Calls Tryz.prog 53 #[v1, v2] w fun e w' => e = .returned (.bool true) ∧ Below w.heap.size w w' := by
 rcases h1 with ⟨a, c, rfl, rfl⟩ | ⟨g, o, c, rfl, hp, h⟩
 ·rcases h2 with ⟨a', c', rfl, _⟩ | ⟨g', o', c', rfl, hp', h'⟩
  ·exact ZDR a a' c c' w
  ·simp at hp'
 ·rcases h2 with ⟨a', c', rfl, h0⟩ | ⟨g', o', c', rfl, hp', h'⟩
  ·rw [h0] at hp; simp at hp
  ·exact ZEK g o c g' o' c' ss w h h' hn
end Go.Proofs.YtookchpdbilbcaaGreatDoor
/-
 The cells of a slice that came in; append of none. Of no function.
-/
namespace Go.Proofs.YtookchpdbilbcaaGreatDoor
open Go.RowKit
theorem ZAY (l : List ByteArray) : ∀ u ∈ l.map Value.string, u.oneCell' = true := by
 intro u hu
 obtain ⟨s, _, rfl⟩ := List.mem_map.1 hu
 rfl
theorem ZA4 {P : Program} {w : World} (base : Nat) (t ty e : TypeId) (i : TypeInfo) (size c : Nat) (ht : P.underlying t = some (.slice e)) (hi : P.info? e = some i)
  (v : Value) (n : Nat) (xs : List Value) (hown : w.ownsRow base e size v n xs) :
  (Builtin.append_ #[t, t] ty #[v, .slice none 0 c]).run P w = .ok v w := by
 rcases hown.2 with ⟨rfl, rfl⟩ | ⟨g, cap, cur, rfl, _, _, hnc, _⟩
 ·simp [Builtin.append_, run_underlying ht, sizeOf, typeInfo, hi, Builtin.lenOf, Builtin.firstCells]
 ·simp [Builtin.append_, run_underlying ht, sizeOf, typeInfo, hi, Builtin.lenOf, Builtin.firstCells, hnc, storeCells]
/-- The cells of a slice: news, one for each cell, at an address, or none at all. -/
def CellsSl (w : World) (v : Value) (size n : Nat) (news : List Value) : Prop :=
 news.length = n * size ∧ (∀ u ∈ news, u.oneCell' = true) ∧ ((∃ c, v = .slice none 0 c ∧ n = 0) ∨ ∃ ad c, v = .slice (some ad) n c ∧ ∀ j u, news[j]? = some u → w.cell? (ad.add j) = some u)
theorem StrSl.cellsSl {w : World} {v : Value} {ss : List ByteArray} (h : StrSl w v ss) : CellsSl w v 1 ss.length (ss.map Value.string) := by
 refine ⟨by simp, ZAY _, ?_⟩
 rcases h with ⟨a, c, rfl, rfl⟩ | ⟨g, o, c, rfl, _, h⟩
 ·rcases a with _ | ad
  ·exact .inl ⟨c, rfl, rfl⟩
  ·exact .inr ⟨ad, c, rfl, fun j u hj => by simp at hj⟩
 ·refine .inr ⟨⟨g, o, none⟩, c, rfl, fun j u hj => ?_⟩
  rw [Addr.add_lit]
  rw [List.getElem?_map] at hj
  obtain ⟨s, hs, rfl⟩ := Option.map_eq_some_iff.1 hj
  obtain ⟨hlt, rfl⟩ := List.getElem?_eq_some_iff.1 hs
  exact h.2 j hlt
theorem ZAq (l : List Pr) : ∀ u ∈ l.flatMap Pr.cells, u.oneCell' = true := by
 intro u hu
 obtain ⟨p, _, hp⟩ := List.mem_flatMap.1 hu
 simp [Pr.cells] at hp
 rcases hp with rfl | rfl <;> rfl
theorem PrsAt.cell {w : World} {g o : Nat} {ps : List Pr} (h : PrsAt w g o ps) (j : Nat) (u : Value) (hj : (ps.flatMap Pr.cells)[j]? = some u) : w.cell? ⟨g, o + j, none⟩ = some u := by
 have hl : j < ps.length * 2 := by
  obtain ⟨hlt, _⟩ := List.getElem?_eq_some_iff.1 hj
  rw [ZAQ] at hlt; exact hlt
 have hi : j / 2 < ps.length := by omega
 have e : j = j / 2 * 2 + j % 2 := by omega
 have hm : j % 2 < 2 := by omega
 have k := h.2 (j / 2) hi
 rw [e, ZBr ps (j / 2) (j % 2) hi hm] at hj
 rw [e]
 rcases (show j % 2 = 0 ∨ j % 2 = 1 by omega) with e0 | e0
 ·rw [e0] at hj ⊢
  simp [Pr.cells] at hj
  subst hj
  rw [← Nat.add_assoc]; exact k.c0
 ·rw [e0] at hj ⊢
  simp [Pr.cells] at hj
  subst hj
  rw [← Nat.add_assoc]; exact k.c1
theorem PrSl.cellsSl {w : World} {v : Value} {ps : List Pr} (h : PrSl w v ps) : CellsSl w v 2 ps.length (ps.flatMap Pr.cells) := by
 refine ⟨ZAQ ps, ZAq _, ?_⟩
 rcases h with ⟨a, c, rfl, rfl⟩ | ⟨g, o, c, rfl, _, h⟩
 ·rcases a with _ | ad
  ·exact .inl ⟨c, rfl, rfl⟩
  ·exact .inr ⟨ad, c, rfl, fun j u hj => by simp at hj⟩
 ·refine .inr ⟨⟨g, o, none⟩, c, rfl, fun j u hj => ?_⟩
  rw [Addr.add_lit]
  exact h.cell j u hj
end Go.Proofs.YtookchpdbilbcaaGreatDoor
/-
 What spec.l03Put answers: a text put among others, in a new row: a contract over the seat's program.
-/
namespace Go.Proofs.YtookchpdbilbcaaGreatDoor
open Go.RowKit Go.Sort
/-- Is a no greater than b? -/
def leT (a b : ByteArray) : Bool := Op.bytesLess a.toList b.toList || a.toList == b.toList
/-- How many texts at the head are no greater than t. -/
def kI (l : List ByteArray) (t : ByteArray) : Nat := (l.takeWhile (leT · t)).length
def putT (l : List ByteArray) (t : ByteArray) : List ByteArray := l.take (kI l t) ++ [t] ++ l.drop (kI l t)
theorem kI_is {l : List ByteArray} {t : ByteArray} {k : Nat} (hk : k ≤ l.length) (h1 : ∀ j, j < k → (h : j < l.length) → leT l[j] t = true) (h2 : (h : k < l.length) → leT l[k] t = false) : kI l t = k := by
 unfold kI
 have e : l.takeWhile (leT · t) = l.take k := by
  conv => lhs; rw [← List.take_append_drop k l]
  rw [List.takeWhile_append_of_pos (fun a ha => by
   obtain ⟨j, hj, rfl⟩ := List.mem_take_iff_getElem.1 ha
   exact h1 j (by omega) (by omega))]
  by_cases hlt : k < l.length
  ·rw [List.drop_eq_getElem_cons hlt, List.takeWhile_cons_of_neg (by rw [h2 hlt]; simp)]; simp
  ·rw [List.drop_eq_nil_of_le (by omega)]; simp
 rw [e, List.length_take]; omega
theorem ZAe (w : World) (T : TypeId) : (w.alloc (.cells #[] T)).ownsRow w.heap.size T 1 (.slice (some ⟨w.heap.size, 0, none⟩) 0 0) 0 [] :=
 ⟨rfl, .inr ⟨w.heap.size, 0, #[], rfl, Nat.le_refl _, by show (w.heap.push (Obj.cells #[] T))[w.heap.size]? = some _; simp, Nat.le_refl _, Nat.zero_le _, rfl, rfl⟩⟩
theorem ZBT {w : World} {g o : Nat} {l : List ByteArray} (h : StrsAt w g o l) (k : Nat) : ∀ j u, ((l.drop k).map Value.string)[j]? = some u → w.cell? ((⟨g, o + k, none⟩ : Addr).add j) = some u := by
 intro j u hj
 rw [Addr.add_lit]
 rw [List.getElem?_map, List.getElem?_drop] at hj
 obtain ⟨s, hs, rfl⟩ := Option.map_eq_some_iff.1 hj
 obtain ⟨hlt, rfl⟩ := List.getElem?_eq_some_iff.1 hs
 rw [Nat.add_assoc]; exact h.2 (k + j) hlt
theorem ZAj {w : World} {g o : Nat} {l : List ByteArray} (h : StrsAt w g o l) (k : Nat) : ∀ j u, ((l.take k).map Value.string)[j]? = some u → w.cell? ((⟨g, o, none⟩ : Addr).add j) = some u := by
 intro j u hj
 rw [Addr.add_lit]
 rw [List.getElem?_map] at hj
 obtain ⟨s, hs, rfl⟩ := Option.map_eq_some_iff.1 hj
 obtain ⟨hlt, rfl⟩ := List.getElem?_eq_some_iff.1 hs
 rw [List.getElem_take]; exact h.2 j (by rw [List.length_take] at hlt; omega)
theorem ZHH (g o c : Nat) (l : List ByteArray) (t : ByteArray) (w : World) (hE : StrsAt w g o l) (hc : l.length ≤ c) (hn : l.length ≤ 1048576) :
  Calls Tryz.prog 101 #[.slice (some ⟨g, o, none⟩) l.length c, .string t] w fun e w' => ∃ a k, e = .returned (.slice a (putT l t).length k) ∧ w'.ownsRow w.heap.size 9 1 (.slice a (putT l t).length k) (putT l t).length ((putT l t).map Value.string) ∧ Below w.heap.size w w' := by
 obtain ⟨i0, hi, hz0, hz1, hz2⟩ := info_parts Tryz.infoStr
 have HE := hid hE
 clear hE
 go_enter Tryz.func101, Tryz.ntmps101
 go_wp2
 go_loop [5] (fun i => ∃ k : Nat, k ≤ l.length ∧ i = .int .i64 k ∧ ∀ j, j < k → (h : j < l.length) → leT l[j] t = true) (fun i => l.length - (intOf i).toNat)
 case atStart => exact ⟨0, Nat.zero_le _, rfl, fun j hj => absurd hj (by omega)⟩
 case round =>
  obtain ⟨k, hk, rfl, hall⟩ := hrel
  have HA := hid hall
  clear hall
  have fin : k ≤ c := by omega
  by_cases hlt : k < l.length
  ·have c0 := HE.out.2 k hlt
   by_cases hb : Op.bytesLess l[k].toList t.toList = true
   ·have HO := hid (show ∀ j, j < k + 1 → (h : j < l.length) → leT l[j] t = true from fun j hj h => by
     by_cases e : j = k
     ·subst e; unfold leT; rw [hb]; rfl
     ·exact HA.out j (by omega) h)
    generalize l[k] = q at *
    go_wp2
    go_round
    case rel => exact ⟨k + 1, by omega, by go_num, HO.out⟩
    case measure => simp [intOf]; omega
   ·have hb' : Op.bytesLess l[k].toList t.toList = false := by simpa using hb
    by_cases he : l[k] = t
    ·have HO := hid (show ∀ j, j < k + 1 → (h : j < l.length) → leT l[j] t = true from fun j hj h => by
      by_cases e : j = k
      ·subst e; unfold leT; rw [he]; simp
      ·exact HA.out j (by omega) h)
     rw [he] at c0 hb'
     clear hb he
     go_wp2
     go_round
     case rel => exact ⟨k + 1, by omega, by go_num, HO.out⟩
     case measure => simp [intOf]; omega
    ·have hne := ZBV he
     have HF := hid (show leT l[k] t = false by unfold leT; rw [hb', hne]; rfl)
     have hck : ¬ c = k := by omega
     clear hb he
     generalize hq : l[k] = q at c0 hb' hne
     clear hq
     have HK := hid (kI_is hk HA.out (fun _ => HF.out))
     have hown0 := ZAe w 9
     obtain ⟨P1, hP1⟩ : ∃ P1 : List Value, P1 = (l.take k).map Value.string := ⟨_, rfl⟩
     obtain ⟨P3, hP3⟩ : ∃ P3 : List Value, P3 = (l.drop k).map Value.string := ⟨_, rfl⟩
     have L1 := hid (show P1.length = k * 1 by rw [hP1]; simp; omega)
     have L3 := hid (show P3.length = (l.length - k) * 1 by rw [hP3]; simp)
     have O1 := hid (show ∀ u ∈ P1, u.oneCell' = true by rw [hP1]; exact ZAY _)
     have O3 := hid (show ∀ u ∈ P3, u.oneCell' = true by rw [hP3]; exact ZAY _)
     have D1 := hid (fun W (hb : Below w.heap.size w W) => (show ∀ j u, P1[j]? = some u → W.cell? ⟨g, o + j, none⟩ = some u by rw [hP1]; intro j u h; have := ZAj (HE.out.stay hb nL) k j u h; rwa [Addr.add_lit] at this))
     have D3 := hid (fun W (hb : Below w.heap.size w W) => (show ∀ j u, P3[j]? = some u → W.cell? ⟨g, o + k + j, none⟩ = some u by rw [hP3]; intro j u h; have := ZBT (HE.out.stay hb nL) k j u h; rwa [Addr.add_lit] at this))
     have HP := hid (show P1 ++ Value.string t :: P3 = (putT l t).map Value.string by rw [hP1, hP3]; unfold putT; rw [HK.out]; simp)
     have HPL := hid (show k + 1 + (l.length - k) = (putT l t).length by unfold putT; rw [HK.out]; simp; omega)
     clear hP1 hP3
     go_wp2_with (first | (at_builtin; refine wpList_append_own _ rfl _ _ 22 rfl w.heap.size 9 i0 _ 1 16 Tryz.underlying22 hi hz0 hz1 hz2 rfl (by decide) _ _ _ rfl hown0 ⟨g, o, none⟩ k _ P1 rfl L1.out ?c1 O1.out ?c3 ?c4 (by simp) ?_) | fail)
     case c1 => exact D1.out _ ((Below.refl w.heap.size w).alloc nL _)
     case c3 => unfold maxLen; omega
     case c4 => omega
     intro v1 w1 hown1 hg1 _
     have HB1 := hid (((Below.refl w.heap.size w).alloc nL (.cells #[] 9)).grown hg1 (by simp) (fun j hj => (hown0.lt j hj).1))
     obtain ⟨a1, k1, rfl⟩ := ZAD hown1
     have HO1 := hid hown1
     have hz1' := HB1.out.size
     clear hown0 hown1 hg1
     go_wp2_with (first | (at_builtin; refine wpList_append_own _ rfl _ _ 22 rfl w.heap.size 9 i0 _ 1 16 Tryz.underlying22 hi hz0 hz1 hz2 rfl (by decide) _ _ _ rfl (HO1.out.alloc _) ⟨w1.heap.size, 0, none⟩ 1 1 [.string t] rfl rfl ?c1 (ZAY [t]) ?c3 ?c4 (by simp; omega) ?_) | fail)
     case c1 => exact cell_one_new _ _ _
     case c3 => unfold maxLen; omega
     case c4 => omega
     intro v2 w2 hown2 hg2 _
     have HB2 := hid ((HB1.out.alloc hz1' (.cells #[.string t] 9)).grown hg2 (by simp; omega) (fun j hj => (HO1.out.lt j hj).1))
     obtain ⟨a2, k2, rfl⟩ := ZAD hown2
     have HO2 := hid hown2
     have hz2' := HB2.out.size
     clear hown2 hg2 HO1 HB1
     go_wp2_with (first | (at_builtin; refine wpList_append_own _ rfl _ _ 22 rfl w.heap.size 9 i0 _ 1 16 Tryz.underlying22 hi hz0 hz1 hz2 rfl (by decide) _ _ _ rfl HO2.out ⟨g, o + k, none⟩ (l.length - k) _ P3 rfl L3.out ?c1 O3.out ?c3 ?c4 hz2' ?_) | fail)
     case c1 => intro j u h; rw [Addr.add_lit]; exact D3.out _ HB2.out j u h
     case c3 => unfold maxLen; omega
     case c4 => omega
     intro v3 w3 hown3 hg3 _
     have HB3 := hid (HB2.out.grown hg3 hz2' (fun j hj => (HO2.out.lt j hj).1))
     obtain ⟨a3, k3, rfl⟩ := ZAD hown3
     rw [HPL.out, HP.out] at hown3
     have HO3 := hid hown3
     clear hown3 hg3 HO2 HB2
     go_wp2
     go_ret
     refine ⟨a3, k3, ?_, HO3.out, HB3.out⟩
     show Ending.returned (.slice a3 (k + 1 + (l.length - k)) k3) = _
     rw [HPL.out]
  ·have HH := hid (show l.length ≤ k by omega)
   by_cases hck : c = k
   ·subst hck
    have HK := hid (kI_is hk HA.out (fun h => absurd h (by have := HH.out; omega)))
    have hown0 := ZAe w 9
    obtain ⟨P1, hP1⟩ : ∃ P1 : List Value, P1 = (l.take c).map Value.string := ⟨_, rfl⟩
    obtain ⟨P3, hP3⟩ : ∃ P3 : List Value, P3 = (l.drop c).map Value.string := ⟨_, rfl⟩
    have L1 := hid (show P1.length = c * 1 by rw [hP1]; simp; omega)
    have L3 := hid (show P3.length = 0 * 1 by rw [hP3, List.drop_eq_nil_of_le HH.out]; rfl)
    have O1 := hid (show ∀ u ∈ P1, u.oneCell' = true by rw [hP1]; exact ZAY _)
    have O3 := hid (show ∀ u ∈ P3, u.oneCell' = true by rw [hP3]; exact ZAY _)
    have D1 := hid (fun W (hb : Below w.heap.size w W) => (show ∀ j u, P1[j]? = some u → W.cell? ⟨g, o + j, none⟩ = some u by rw [hP1]; intro j u h; have := ZAj (HE.out.stay hb nL) c j u h; rwa [Addr.add_lit] at this))
    have D3 := hid (fun W (hb : Below w.heap.size w W) => (show ∀ j u, P3[j]? = some u → W.cell? ⟨g, o + j, none⟩ = some u by rw [hP3, List.drop_eq_nil_of_le HH.out]; intro j u hj; simp at hj))
    have D4 := hid (show ∀ (j : Nat) (u : Value), P3[j]? = some u → False by rw [hP3, List.drop_eq_nil_of_le HH.out]; intro j u hj; simp at hj)
    have HP := hid (show P1 ++ Value.string t :: P3 = (putT l t).map Value.string by rw [hP1, hP3]; unfold putT; rw [HK.out]; simp)
    have HPL := hid (show c + 1 = (putT l t).length by unfold putT; rw [HK.out]; simp; have := HH.out; omega)
    clear hP1 hP3
    go_wp2_with (first | (at_builtin; refine wpList_append_own _ rfl _ _ 22 rfl w.heap.size 9 i0 _ 1 16 Tryz.underlying22 hi hz0 hz1 hz2 rfl (by decide) _ _ _ rfl hown0 ⟨g, o, none⟩ c _ P1 rfl L1.out ?c1 O1.out ?c3 ?c4 (by simp) ?_) | fail)
    case c1 => exact D1.out _ ((Below.refl w.heap.size w).alloc nL _)
    case c3 => unfold maxLen; omega
    case c4 => omega
    intro v1 w1 hown1 hg1 _
    have HB1 := hid (((Below.refl w.heap.size w).alloc nL (.cells #[] 9)).grown hg1 (by simp) (fun j hj => (hown0.lt j hj).1))
    obtain ⟨a1, k1, rfl⟩ := ZAD hown1
    have HO1 := hid hown1
    have hz1' := HB1.out.size
    clear hown0 hown1 hg1
    go_wp2_with (first | (at_builtin; refine wpList_append_own _ rfl _ _ 22 rfl w.heap.size 9 i0 _ 1 16 Tryz.underlying22 hi hz0 hz1 hz2 rfl (by decide) _ _ _ rfl (HO1.out.alloc _) ⟨w1.heap.size, 0, none⟩ 1 1 [.string t] rfl rfl ?c1 (ZAY [t]) ?c3 ?c4 (by simp; omega) ?_) | fail)
    case c1 => exact cell_one_new _ _ _
    case c3 => unfold maxLen; omega
    case c4 => omega
    intro v2 w2 hown2 hg2 _
    have HB2 := hid ((HB1.out.alloc hz1' (.cells #[.string t] 9)).grown hg2 (by simp; omega) (fun j hj => (HO1.out.lt j hj).1))
    obtain ⟨a2, k2, rfl⟩ := ZAD hown2
    have HO2 := hid hown2
    have hz2' := HB2.out.size
    clear hown2 hg2 HO1 HB1
    go_wp2_with (first | (at_builtin; refine wpList_append_own _ rfl _ _ 22 rfl w.heap.size 9 i0 _ 1 16 Tryz.underlying22 hi hz0 hz1 hz2 rfl (by decide) _ _ _ rfl HO2.out _ 0 _ P3 rfl L3.out ?c1 O3.out ?c3 ?c4 hz2' ?_) | fail)
    case c1 => exact fun j u h => (D4.out j u h).elim
    case c3 => unfold maxLen; omega
    case c4 => omega
    intro v3 w3 hown3 hg3 _
    have HB3 := hid (HB2.out.grown hg3 hz2' (fun j hj => (HO2.out.lt j hj).1))
    obtain ⟨a3, k3, rfl⟩ := ZAD hown3
    rw [HPL.out, HP.out] at hown3
    have HO3 := hid hown3
    clear hown3 hg3 HO2 HB2
    go_wp2
    go_ret
    refine ⟨a3, k3, ?_, HO3.out, HB3.out⟩
    show Ending.returned (.slice a3 (c + 1) k3) = _
    rw [HPL.out]
   ·have hck2 : k < c := by omega
    have HK := hid (kI_is hk HA.out (fun h => absurd h (by have := HH.out; omega)))
    have hown0 := ZAe w 9
    obtain ⟨P1, hP1⟩ : ∃ P1 : List Value, P1 = (l.take k).map Value.string := ⟨_, rfl⟩
    obtain ⟨P3, hP3⟩ : ∃ P3 : List Value, P3 = (l.drop k).map Value.string := ⟨_, rfl⟩
    have L1 := hid (show P1.length = k * 1 by rw [hP1]; simp; omega)
    have L3 := hid (show P3.length = (l.length - k) * 1 by rw [hP3]; simp)
    have O1 := hid (show ∀ u ∈ P1, u.oneCell' = true by rw [hP1]; exact ZAY _)
    have O3 := hid (show ∀ u ∈ P3, u.oneCell' = true by rw [hP3]; exact ZAY _)
    have D1 := hid (fun W (hb : Below w.heap.size w W) => (show ∀ j u, P1[j]? = some u → W.cell? ⟨g, o + j, none⟩ = some u by rw [hP1]; intro j u h; have := ZAj (HE.out.stay hb nL) k j u h; rwa [Addr.add_lit] at this))
    have D3 := hid (fun W (hb : Below w.heap.size w W) => (show ∀ j u, P3[j]? = some u → W.cell? ⟨g, o + k + j, none⟩ = some u by rw [hP3, List.drop_eq_nil_of_le HH.out]; intro j u hj; simp at hj))
    have HP := hid (show P1 ++ Value.string t :: P3 = (putT l t).map Value.string by rw [hP1, hP3]; unfold putT; rw [HK.out]; simp)
    have HPL := hid (show k + 1 + (l.length - k) = (putT l t).length by unfold putT; rw [HK.out]; simp; omega)
    clear hP1 hP3
    go_wp2_with (first | (at_builtin; refine wpList_append_own _ rfl _ _ 22 rfl w.heap.size 9 i0 _ 1 16 Tryz.underlying22 hi hz0 hz1 hz2 rfl (by decide) _ _ _ rfl hown0 ⟨g, o, none⟩ k _ P1 rfl L1.out ?c1 O1.out ?c3 ?c4 (by simp) ?_) | fail)
    case c1 => exact D1.out _ ((Below.refl w.heap.size w).alloc nL _)
    case c3 => unfold maxLen; omega
    case c4 => omega
    intro v1 w1 hown1 hg1 _
    have HB1 := hid (((Below.refl w.heap.size w).alloc nL (.cells #[] 9)).grown hg1 (by simp) (fun j hj => (hown0.lt j hj).1))
    obtain ⟨a1, k1, rfl⟩ := ZAD hown1
    have HO1 := hid hown1
    have hz1' := HB1.out.size
    clear hown0 hown1 hg1
    go_wp2_with (first | (at_builtin; refine wpList_append_own _ rfl _ _ 22 rfl w.heap.size 9 i0 _ 1 16 Tryz.underlying22 hi hz0 hz1 hz2 rfl (by decide) _ _ _ rfl (HO1.out.alloc _) ⟨w1.heap.size, 0, none⟩ 1 1 [.string t] rfl rfl ?c1 (ZAY [t]) ?c3 ?c4 (by simp; omega) ?_) | fail)
    case c1 => exact cell_one_new _ _ _
    case c3 => unfold maxLen; omega
    case c4 => omega
    intro v2 w2 hown2 hg2 _
    have HB2 := hid ((HB1.out.alloc hz1' (.cells #[.string t] 9)).grown hg2 (by simp; omega) (fun j hj => (HO1.out.lt j hj).1))
    obtain ⟨a2, k2, rfl⟩ := ZAD hown2
    have HO2 := hid hown2
    have hz2' := HB2.out.size
    clear hown2 hg2 HO1 HB1
    go_wp2_with (first | (at_builtin; refine wpList_append_own _ rfl _ _ 22 rfl w.heap.size 9 i0 _ 1 16 Tryz.underlying22 hi hz0 hz1 hz2 rfl (by decide) _ _ _ rfl HO2.out ⟨g, o + k, none⟩ (l.length - k) _ P3 rfl L3.out ?c1 O3.out ?c3 ?c4 hz2' ?_) | fail)
    case c1 => intro j u h; rw [Addr.add_lit]; exact D3.out _ HB2.out j u h
    case c3 => unfold maxLen; omega
    case c4 => omega
    intro v3 w3 hown3 hg3 _
    have HB3 := hid (HB2.out.grown hg3 hz2' (fun j hj => (HO2.out.lt j hj).1))
    obtain ⟨a3, k3, rfl⟩ := ZAD hown3
    rw [HPL.out, HP.out] at hown3
    have HO3 := hid hown3
    clear hown3 hg3 HO2 HB2
    go_wp2
    go_ret
    refine ⟨a3, k3, ?_, HO3.out, HB3.out⟩
    show Ending.returned (.slice a3 (k + 1 + (l.length - k)) k3) = _
    rw [HPL.out]
end Go.Proofs.YtookchpdbilbcaaGreatDoor
