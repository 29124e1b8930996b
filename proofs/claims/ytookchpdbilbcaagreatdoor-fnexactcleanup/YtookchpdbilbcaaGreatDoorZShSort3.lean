/-
 Texts put together: ShSort, ImKeys, ImList.
-/
import Derived.Test.YtookchpdbilbcaaGreatDoorRows
import Derived.Shelf.SlIter.Nil
import Derived.Shelf.SortM.Plain
import Derived.Shelf.SortM.SortNone
import Derived.Test.YtookchpdbilbcaaGreatDoorZSpDo44
import Derived.Test.YtookchpdbilbcaaGreatDoorZRowL4
import Derived.Test.YtookchpdbilbcaaGreatDoorZEvI8
import Derived.Test.YtookchpdbilbcaaGreatDoorZStLaw3
set_option maxRecDepth 100000
set_option maxHeartbeats 2000000
/-
 slices.Sorted(maps.Keys(m)): the library's contracts (the shelf's), laid at the seat's program.
-/
namespace Go.Proofs.YtookchpdbilbcaaGreatDoor.Shs
open Go.Shelf Go.RowKit
def keysA_ren : Ren := ⟨fun | 7 => 133 | 10 => 157 | n => n, fun | 23 => 149 | 26 => 9 | 3 => 2 | 28 => 170 | 0 => 0 | 27 => 169 | 33 => 105 | 4 => 4 | n => n, fun | n => n⟩
theorem keysA : Go.Proofs.SlLaysZ.n7 Tryz.prog keysA_ren := {
 mixed := by kernel_rfl
 f7 := ⟨Tryz.f133.name, by decide, Tryz.func133.trans (congrArg some (by kernel_rfl))⟩
 f10 := ⟨Tryz.f157.name, by decide, Tryz.func157.trans (congrArg some (by kernel_rfl))⟩
 t0 := Tryz.underlying0
 a0 := Tryz.isAgg0
 z0 := Tryz.sizeOf0
 v0 := Tryz.zeroValue0
 t4 := Tryz.underlying4
 a4 := Tryz.isAgg4
 z4 := Tryz.sizeOf4
 v4 := Tryz.zeroValue4
 t23 := Tryz.underlying149
 a23 := Tryz.isAgg149
 z23 := Tryz.sizeOf149
 v23 := Tryz.zeroValue149
 t26 := Tryz.underlying9
 a26 := Tryz.isAgg9
 z26 := Tryz.sizeOf9
 v26 := Tryz.zeroValue9
 t27 := Tryz.underlying169
 a27 := Tryz.isAgg169
 z27 := Tryz.sizeOf169
 v27 := Tryz.zeroValue169
 t28 := Tryz.underlying170
 a28 := Tryz.isAgg170
 z28 := Tryz.sizeOf170
 v28 := Tryz.zeroValue170
 t33 := Tryz.underlying105
 a33 := Tryz.isAgg105
 z33 := Tryz.sizeOf105
 v33 := Tryz.zeroValue105
}
def sortedA_ren : Ren := ⟨fun | 6 => 132 | 8 => 155 | 9 => 156 | 11 => 168 | 13 => 117 | 12 => 169 | 23 => 143 | 24 => 144 | 14 => 173 | 15 => 174 | 16 => 175 | 17 => 176 | 18 => 177 | 19 => 178 | 20 => 179 | 21 => 180 | 22 => 181 | 25 => 183 | 26 => 159 | 27 => 160 | 28 => 184 | 29 => 185 | 30 => 186 | 31 => 187 | n => n, fun | 26 => 9 | 28 => 170 | 24 => 22 | 0 => 0 | 3 => 3 | 37 => 159 | 48 => 182 | 50 => 184 | 4 => 4 | 40 => 174 | 39 => 173 | 45 => 179 | 5 => 5 | 9 => 9 | 51 => 204 | 55 => 208 | 57 => 215 | 58 => 216 | 33 => 105 | n => n, fun | n => n⟩
theorem sortedA : Go.Proofs.SlLaysZ.n6 Tryz.prog sortedA_ren := {
 mixed := by kernel_rfl
 f6 := ⟨Tryz.f132.name, by decide, Tryz.func132.trans (congrArg some (by kernel_rfl))⟩
 f8 := ⟨Tryz.f155.name, by decide, Tryz.func155.trans (congrArg some (by kernel_rfl))⟩
 f11 := ⟨Tryz.f168.name, by decide, Tryz.func168.trans (congrArg some (by kernel_rfl))⟩
 t0 := Tryz.underlying0
 a0 := Tryz.isAgg0
 z0 := Tryz.sizeOf0
 v0 := Tryz.zeroValue0
 t24 := Tryz.underlying22
 a24 := Tryz.isAgg22
 z24 := Tryz.sizeOf22
 v24 := Tryz.zeroValue22
 t26 := Tryz.underlying9
 a26 := Tryz.isAgg9
 z26 := Tryz.sizeOf9
 v26 := Tryz.zeroValue9
 t28 := Tryz.underlying170
 a28 := Tryz.isAgg170
 z28 := Tryz.sizeOf170
 v28 := Tryz.zeroValue170
 i26 := by kernel_rfl
}
def ZHw : Ren := ⟨fun | 6 => 156 | 8 => 117 | 9 => 169 | 19 => 143 | 20 => 144 | 21 => 173 | 22 => 174 | 23 => 175 | 24 => 176 | 25 => 177 | 26 => 178 | 27 => 179 | 28 => 180 | 29 => 181 | 36 => 183 | 31 => 159 | 32 => 160 | 37 => 184 | 38 => 185 | 39 => 186 | 41 => 187 | n => n, fun | 27 => 22 | 29 => 9 | 3 => 3 | 32 => 159 | 26 => 22 | 0 => 0 | 44 => 182 | 46 => 184 | 4 => 4 | 36 => 174 | 35 => 173 | 41 => 179 | 5 => 5 | 9 => 9 | 53 => 204 | 57 => 208 | 63 => 215 | 64 => 216 | n => n, fun | n => n⟩
theorem sortA : Go.Proofs.SlLaysM.n6 Tryz.prog ZHw := {
 mixed := by kernel_rfl
 f6 := ⟨Tryz.f156.name, by decide, Tryz.func156.trans (congrArg some (by kernel_rfl))⟩
 f8 := Tryz.func117.trans (congrArg some (by kernel_rfl))
 f9 := ⟨Tryz.f169.name, by decide, Tryz.func169.trans (congrArg some (by kernel_rfl))⟩
 f19 := Tryz.func143.trans (congrArg some (by kernel_rfl))
 f20 := Tryz.func144.trans (congrArg some (by kernel_rfl))
 f21 := ⟨Tryz.f173.name, by decide, Tryz.func173.trans (congrArg some (by kernel_rfl))⟩
 f22 := ⟨Tryz.f174.name, by decide, Tryz.func174.trans (congrArg some (by kernel_rfl))⟩
 f23 := ⟨Tryz.f175.name, by decide, Tryz.func175.trans (congrArg some (by kernel_rfl))⟩
 f24 := ⟨Tryz.f176.name, by decide, Tryz.func176.trans (congrArg some (by kernel_rfl))⟩
 f25 := ⟨Tryz.f177.name, by decide, Tryz.func177.trans (congrArg some (by kernel_rfl))⟩
 f26 := ⟨Tryz.f178.name, by decide, Tryz.func178.trans (congrArg some (by kernel_rfl))⟩
 f27 := ⟨Tryz.f179.name, by decide, Tryz.func179.trans (congrArg some (by kernel_rfl))⟩
 f28 := ⟨Tryz.f180.name, by decide, Tryz.func180.trans (congrArg some (by kernel_rfl))⟩
 f29 := ⟨Tryz.f181.name, by decide, Tryz.func181.trans (congrArg some (by kernel_rfl))⟩
 f31 := Tryz.func159.trans (congrArg some (by kernel_rfl))
 f32 := Tryz.func160.trans (congrArg some (by kernel_rfl))
 f36 := ⟨Tryz.f183.name, by decide, Tryz.func183.trans (congrArg some (by kernel_rfl))⟩
 f37 := ⟨Tryz.f184.name, by decide, Tryz.func184.trans (congrArg some (by kernel_rfl))⟩
 f38 := ⟨Tryz.f185.name, by decide, Tryz.func185.trans (congrArg some (by kernel_rfl))⟩
 f39 := ⟨Tryz.f186.name, by decide, Tryz.func186.trans (congrArg some (by kernel_rfl))⟩
 f41 := ⟨Tryz.f187.name, by decide, Tryz.func187.trans (congrArg some (by kernel_rfl))⟩
 t0 := Tryz.underlying0
 a0 := Tryz.isAgg0
 z0 := Tryz.sizeOf0
 v0 := Tryz.zeroValue0
 t3 := Tryz.underlying3
 a3 := Tryz.isAgg3
 z3 := Tryz.sizeOf3
 v3 := Tryz.zeroValue3
 t4 := Tryz.underlying4
 a4 := Tryz.isAgg4
 z4 := Tryz.sizeOf4
 v4 := Tryz.zeroValue4
 t5 := Tryz.underlying5
 a5 := Tryz.isAgg5
 z5 := Tryz.sizeOf5
 v5 := Tryz.zeroValue5
 t9 := Tryz.underlying9
 a9 := Tryz.isAgg9
 z9 := Tryz.sizeOf9
 v9 := Tryz.zeroValue9
 t26 := Tryz.underlying22
 a26 := Tryz.isAgg22
 z26 := Tryz.sizeOf22
 v26 := Tryz.zeroValue22
 t27 := Tryz.underlying22
 a27 := Tryz.isAgg22
 z27 := Tryz.sizeOf22
 v27 := Tryz.zeroValue22
 t29 := Tryz.underlying9
 a29 := Tryz.isAgg9
 z29 := Tryz.sizeOf9
 v29 := Tryz.zeroValue9
 t32 := Tryz.underlying159
 a32 := Tryz.isAgg159
 z32 := Tryz.sizeOf159
 v32 := Tryz.zeroValue159
 t35 := Tryz.underlying173
 a35 := Tryz.isAgg173
 z35 := Tryz.sizeOf173
 v35 := Tryz.zeroValue173
 t36 := Tryz.underlying174
 a36 := Tryz.isAgg174
 z36 := Tryz.sizeOf174
 v36 := Tryz.zeroValue174
 t41 := Tryz.underlying179
 a41 := Tryz.isAgg179
 z41 := Tryz.sizeOf179
 v41 := Tryz.zeroValue179
 t44 := Tryz.underlying182
 a44 := Tryz.isAgg182
 z44 := Tryz.sizeOf182
 v44 := Tryz.zeroValue182
 t46 := Tryz.underlying184
 a46 := Tryz.isAgg184
 z46 := Tryz.sizeOf184
 v46 := Tryz.zeroValue184
 t53 := Tryz.underlying204
 a53 := Tryz.isAgg204
 z53 := Tryz.sizeOf204
 v53 := Tryz.zeroValue204
 t57 := Tryz.underlying208
 a57 := Tryz.isAgg208
 z57 := Tryz.sizeOf208
 v57 := Tryz.zeroValue208
 t63 := Tryz.underlying215
 a63 := Tryz.isAgg215
 z63 := Tryz.sizeOf215
 v63 := Tryz.zeroValue215
 t64 := Tryz.underlying216
 a64 := Tryz.isAgg216
 z64 := Tryz.sizeOf216
 v64 := Tryz.zeroValue216
}
end Go.Proofs.YtookchpdbilbcaaGreatDoor.Shs
/-
 What maps.Keys and slices.Sorted answer at a map that counts texts: contracts over the seat's program, by the shelf's.
-/
namespace Go.Proofs.YtookchpdbilbcaaGreatDoor
open Go.RowKit Go.Maps Go.Sort Go.Shelf
theorem sortsA (m : Nat) : AnyZ.SortsIn Tryz.prog Shs.sortedA_ren Fence.wide m :=
 ⟨fun blk off cap ss W hH hblk hsz => callsIn_wide.2 (AnyM.slices_Sort_string Shs.sortA blk off cap ss W hH hblk hsz),
  fun p cap W => callsIn_wide.2 (AnyM.slices_Sort_string_none Shs.sortA p cap W)⟩
theorem ZIl (mb : Option Nat) (W : World) :
  Calls Tryz.prog 133 #[.map mb] W fun e w' => e = .returned (.func (.func 157) #[] #[.pointer (some ⟨W.heap.size, 0, none⟩)]) ∧ w' = W.alloc (.cells #[.map mb] 149) :=
 (callsIn_wide (n := 5)).1 (AnyZ.keys_in Shs.keysA Fence.wide 5 trivial rfl mb W)
theorem ZHD (b n : Nat) (l : List Tx) (w : World) (h : MapAt w b n l) (hn : n ≤ 1048576) :
  Calls Tryz.prog 132 #[.func (.func 157) #[] #[.pointer (some ⟨w.heap.size, 0, none⟩)]] (w.alloc (.cells #[.map (some b)] 149)) fun e w' =>
   ∃ (v : Value) (ks : List Tx), e = .returned v ∧ (ks.Nodup ∧ (∀ t, t ∈ ks ↔ t ∈ l) ∧ Asc ks ∧ (∀ t ∈ ks, t.length ≤ maxLen) ∧ ks.length ≤ n) ∧ w'.ownsRow (w.heap.size + 1) 9 1 v ks.length (ks.map encStr) ∧ Below (w.heap.size + 1) (w.alloc (.cells #[.map (some b)] 149)) w' := by
 obtain ⟨D0, hown, hD⟩ := h
 obtain ⟨hnd, hm, hsz, hle⟩ := keys_of hown hD
 have hs1 := hown.size_le
 have hbl := hown.lt
 have hseq : SeqGives Fence.wide 2 Tryz.prog 157 #[.pointer (some ⟨w.heap.size, 0, none⟩)] encStr (fun ss => ss.Perm (strKeys D0)) (Maps.size D0) (w.alloc (.cells #[.map (some b)] 149)) :=
  AnyZ.keys_gives (ρ := Shs.keysA_ren) { Shs.keysA with } Fence.wide _ trivial rfl (by omega) w.heap.size b n D0 _ (by simp) (by simp) (by
   obtain ⟨es, clock, hb, Ft, hs, hD⟩ := hown
   exact ⟨es, clock, (Below.heap_alloc _ _ b hbl).trans hb, Ft, hs, hD⟩)
 have cS := AnyZ.sorted_in Shs.sortedA Fence.wide 5 trivial trivial trivial trivial rfl (by omega) (sortsA _) (enters_of Tryz.func156 (by kernel_rfl) rfl) 157 #[.pointer (some ⟨w.heap.size, 0, none⟩)] trivial (enters_of Tryz.func157 (by kernel_rfl) rfl) _ (Maps.size D0) (by unfold maxLen; omega) (by omega) _ hseq
 change CallsIn _ _ Tryz.prog 132 _ _ _ at cS
 refine (callsIn_wide.1 cS).mono ?_
 rintro e w' ⟨v, ss, rfl, hp, hrow, _, hb⟩
 have hz : (w.alloc (.cells #[.map (some b)] 149)).heap.size = w.heap.size + 1 := by simp
 have hpk : (srt ss).Perm (strKeys D0) := (ZBZ ss).trans hp
 refine ⟨v, srt ss, rfl, ⟨hpk.nodup_iff.2 hnd, fun t => (hpk.mem_iff).trans (hm t), ZCa ss, fun t ht => hle t (hpk.mem_iff.1 ht), by rw [hpk.length_eq, ← hsz]; exact hs1⟩, ?_, ?_⟩
 ·rw [ZC0]
  rw [hz] at hrow
  exact hrow
 ·rw [hz] at hb; exact hb
end Go.Proofs.YtookchpdbilbcaaGreatDoor
/-
 What the method list of impl.marks answers: the texts that are counted, sorted, in a new row: a contract over the seat's program.
-/
namespace Go.Proofs.YtookchpdbilbcaaGreatDoor
open Go.RowKit Go.Maps Go.WideMaps Go.Sort
theorem count_le' {l : List Tx} (t : Tx) : l.count t ≤ l.length := List.count_le_length
theorem one_str (s : ByteArray) : ∀ u ∈ [Value.string s], u.oneCell' = true := by
 intro u hu
 simp at hu
 subst hu; rfl
theorem ZJG {w : World} {base n : Nat} {e : TypeId} {a : Option Addr} {c : Nat} {ks : List Tx} (h : w.ownsRow base e 1 (.slice a n c) n (ks.map encStr)) {k : Nat} (hk : k < ks.length) : ∃ g, a = some ⟨g, 0, none⟩ ∧ base ≤ g ∧ g < w.heap.size ∧ w.cell? ⟨g, k, none⟩ = some (encStr ks[k]) := by
 rcases h.2 with ⟨h0, h1⟩ | ⟨g, cap, cur, hv, hb, hh, _⟩
 ·have := h.1; rw [List.length_map, h1] at this; omega
 ·injection hv with hv _ _
  subst hv
  have := h.cells (g := g) rfl k (encStr ks[k]) (by simp [hk])
  rw [Addr.add_lit, Nat.zero_add] at this
  exact ⟨g, rfl, hb, ZAA hh, this⟩
theorem ZJM (b n : Nat) (l : List Tx) (w : World) (h : MapAt w b n l) (hn : n ≤ 1048576) (hl : l.length ≤ 1048576) (hF : ∀ t ∈ l, t.length ≤ 1099511627776) :
  Calls Tryz.prog 115 #[.map (some b)] w fun e w' => ∃ a c, e = .returned (.slice a l.length c) ∧ w'.ownsRow w.heap.size 9 1 (.slice a l.length c) l.length ((srt l).map encStr) ∧ Below w.heap.size w w' := by
 obtain ⟨i0, hi, hz0, hz1, hz2⟩ := info_parts Tryz.infoStr
 have HM := hid h
 have HF := hid hF
 have cS := ZHD b n l w h hn
 clear h hF
 go_enter Tryz.func115, Tryz.ntmps115
 go_wp2_with fail
 refine (ZIl (some b) _).mono ?_
 rintro e w1 ⟨rfl, rfl⟩
 go_wp2_with fail
 refine cS.mono ?_
 rintro e w2 ⟨v, ks, rfl, ⟨hnd, hm, hasc, hle, hkn⟩, hrow, hb2⟩
 obtain ⟨ak, ck, rfl⟩ := ZAD hrow
 have HR := hid hrow
 have HB2 := hid (((Below.refl w.heap.size w).alloc nL _).trans (hb2.mono (B' := w.heap.size) (by omega)))
 have HE := hid (ZGJ hnd hm hasc)
 have HK := hid (fun k => ZFy hnd hm hasc k)
 have HG := hid (fun t ht => (hm t).1 ht)
 have hkn' : ks.length ≤ 1048576 := by omega
 clear hrow hb2 cS hnd hm hasc hle hkn
 go_wp2
 go_loopw [3, 10] (fun o i wr => ∃ (k : Nat) (a : Option Addr) (c : Nat), k ≤ ks.length ∧ i = .int .i64 k ∧ o = .slice a (expd l (ks.take k)).length c ∧ wr.ownsRow w2.heap.size 9 1 (.slice a (expd l (ks.take k)).length c) (expd l (ks.take k)).length ((expd l (ks.take k)).map encStr) ∧ Below w2.heap.size w2 wr) (fun _ i _ => ks.length - (intOf i).toNat)
 case atStart => exact ⟨0, none, 0, Nat.zero_le _, rfl, rfl, World.ownsRow_nil _ _ _ _, Below.refl _ _⟩
 case round =>
  obtain ⟨k, a, c, hk, rfl, rfl, hown, hbel⟩ := hrel
  by_cases hlt : k < ks.length
  ·obtain ⟨g, rfl, hg0, hg1, hcell⟩ := ZJG HR.out hlt
   have c0 := (hbel.cell (p := ⟨g, k, none⟩) hg1).trans hcell
   have HO := hid hown
   obtain ⟨D, hownM, hD⟩ := (HM.out.stay HB2.out).stay hbel
   have hsz0 := HF.out ks[k] (HG.out ks[k] (List.getElem_mem hlt))
   have hcl := count_le' (l := l) ks[k]
   have HT := hid (ZIF (l := l) hlt)
   have hX := HK.out (k + 1)
   rw [HT.out, List.length_append, List.length_replicate] at hX
   change _ = some (Value.string ⟨ks[k].toArray⟩) at c0
   generalize ks[k] = t at *
   have hsz : (ByteArray.mk t.toArray).size ≤ 1099511627776 := by show t.toArray.size ≤ _; simpa using hsz0
   have hkey := keyOf_string_mk Tryz.underlying9 (s := ⟨t.toArray⟩) (by unfold maxLen; omega)
   have HN := hid (fun (cc : Int) (hat : D.atKey (.string (ByteArray.mk t.toArray).data.toList) (.lit (.int .i64 0)) = .lit (.int .i64 cc)) => ZBI (t := t) hD hat)
   have HS := hid (show encStr t = .string ⟨t.toArray⟩ from rfl)
   generalize ByteArray.mk t.toArray = s at *
   clear hcell hD hown hsz0
   generalize l.count t = cn at *
   generalize expd l (ks.take k) = P at *
   go_wp2_with (first
    | (at_lookup; refine wpList_lookup_own_int _ rfl _ _ 149 rfl 9 2 .i64 Tryz.strKeyed Tryz.underlying149 Tryz.underlying2 (Tryz.zeroI64 _) b n D rfl hownM _ _ rfl hkey ?_; intro cc hat hwc; obtain rfl : cc = cn := HN.out cc hat; clear hat hwc)
    | fail)
   clear c0 hownM hkey HN
   go_loopw [3, 17] (fun o i wr => ∃ (j : Nat) (a : Option Addr) (c : Nat), j ≤ cn ∧ i = .int .i64 j ∧ o = .slice a (P ++ List.replicate j t).length c ∧ wr.ownsRow w2.heap.size 9 1 (.slice a (P ++ List.replicate j t).length c) (P ++ List.replicate j t).length ((P ++ List.replicate j t).map encStr) ∧ Below w2.heap.size w2 wr) (fun _ i _ => cn - (intOf i).toNat)
   case atStart => exact ⟨0, a, c, Nat.zero_le _, rfl, by simp, by simpa using HO.out, hbel⟩
   case round =>
    clear hbel HO
    obtain ⟨j, a, c, hj, rfl, rfl, hown, hbel⟩ := hrel
    by_cases hjl : j < cn
    ·have HO := hid hown
     have HPL := hid (show (P ++ List.replicate j t).length = P.length + j by simp)
     have HPN := hid (show (P ++ List.replicate (j + 1) t) = (P ++ List.replicate j t) ++ [t] by rw [List.replicate_succ', List.append_assoc])
     clear hown
     generalize P ++ List.replicate j t = Q at *
     go_wp2_with fail
     refine (ZA1 s _ hsz).mono ?_
     rintro e w3 ⟨rfl, hb3⟩
     have HO3 := hid (ZAE HO.out hb3)
     have HB3 := hid (hbel.trans (hb3.mono hbel.size))
     have hz3 := HB3.out.size
     clear hb3 hbel HO
     go_wp2_with (first | (at_builtin; refine wpList_append_own _ rfl _ _ 22 rfl w2.heap.size 9 i0 _ 1 16 Tryz.underlying22 hi hz0 hz1 hz2 rfl (by decide) _ _ _ rfl (HO3.out.alloc _) ⟨w3.heap.size, 0, none⟩ 1 1 [.string s] rfl rfl ?c1 ?c2 ?c3 ?c4 ?c5 ?_) | fail)
     case c1 => exact cell_one_new _ _ _
     case c2 => exact one_str s
     case c3 => have := HPL.out; unfold maxLen; omega
     case c4 => have := HPL.out; omega
     case c5 => simp; omega
     intro v' w4 hown4 hgrow _
     obtain ⟨a', c', rfl⟩ := ZAD hown4
     have HB4 := hid ((HB3.out.alloc hz3 _).grown hgrow (by simp; omega) (fun g hg => (HO3.out.lt g hg).1))
     have HO4 := hid (show w4.ownsRow w2.heap.size 9 1 (.slice a' (Q ++ [t]).length c') (Q ++ [t]).length ((Q ++ [t]).map encStr) by
      rw [List.length_append, List.map_append]; rw [← HS.out] at hown4; exact hown4)
     clear hown4 hgrow HO3 HB3
     go_wp2
     go_roundw
     case rel => exact ⟨j + 1, a', c', by omega, by go_num, by rw [HPN.out, List.length_append]; rfl, by rw [HPN.out]; exact HO4.out, HB4.out⟩
     case measure => simp [intOf]; omega
    ·have hjc : j = cn := by omega
     have HO := hid hown
     rw [hjc, ← HT.out] at HO
     have HJ := hid (show (P ++ List.replicate j t).length = (expd l (ks.take (k + 1))).length by rw [hjc, HT.out])
     clear hown hjc
     go_wp2
     go_roundw
     case rel => exact ⟨k + 1, a, c, by omega, by go_num, by rw [HJ.out], HO.out, hbel⟩
     case measure => simp [intOf]; omega
  ·have hk' : k = ks.length := by omega
   have HX := hid (show expd l (ks.take k) = srt l by rw [hk', List.take_of_length_le nL]; exact HE.out)
   have HO := hid hown
   clear hk' hown
   go_wp2
   go_ret
   rw [HX.out] at HO
   have := HO.out
   rw [ZC0] at this
   refine ⟨a, c, ?_, ZAI this HB2.out.size, HB2.out.trans (hbel.mono HB2.out.size)⟩
   show Ending.returned (.slice a (expd l (ks.take k)).length c) = _
   rw [HX.out, ZC0]
end Go.Proofs.YtookchpdbilbcaaGreatDoor
