/-
  Texts put together: ShStr, ShSort, ImKeys, Clone, ImList.
-/
import Derived.Test.YtdggmeblnbabbaaGreatDoorRows
import Derived.Shelf.SortM.Plain
import Derived.Shelf.SortM.SortNone
import Derived.Shelf.SlIter.Nil
import Derived.Test.YtdggmeblnbabbaaGreatDoorZSpOut4
import Derived.Test.YtdggmeblnbabbaaGreatDoorZGen3
import Derived.Test.YtdggmeblnbabbaaGreatDoorZOwnB7
import Derived.Test.YtdggmeblnbabbaaGreatDoorZBsIn6
import Derived.Lib.QuietBelow
/-
  slices.Sort at texts: the library's contract (the shelf's), laid at the seat's program.
-/
namespace Go.Proofs.YtdggmeblnbabbaaGreatDoor.Shs
open Go.Shelf Go.RowKit

def sortA_ren : Ren := ⟨fun | 6 => 91 | 8 => 99 | 9 => 98 | 19 => 111 | 20 => 112 | 21 => 103 | 22 => 104 | 23 => 105 | 24 => 106 | 25 => 107 | 26 => 108 | 27 => 93 | 28 => 109 | 29 => 110 | 36 => 114 | 31 => 115 | 32 => 116 | 37 => 117 | 38 => 118 | 39 => 100 | 41 => 119 | n => n, fun | 27 => 23 | 29 => 9 | 3 => 3 | 32 => 87 | 26 => 23 | 0 => 0 | 44 => 146 | 46 => 66 | 4 => 4 | 36 => 140 | 35 => 139 | 41 => 114 | 5 => 5 | 9 => 9 | 53 => 149 | 57 => 153 | 63 => 155 | 64 => 156 | n => n, fun | n => n⟩
theorem sortA : Go.Proofs.SlLaysM.n6 Tryz.prog sortA_ren := {
  mixed := by kernel_rfl
  f6 := ⟨Tryz.f91.name, by decide, Tryz.func91.trans (congrArg some (by kernel_rfl))⟩
  f8 := Tryz.func99.trans (congrArg some (by kernel_rfl))
  f9 := ⟨Tryz.f98.name, by decide, Tryz.func98.trans (congrArg some (by kernel_rfl))⟩
  f19 := Tryz.func111.trans (congrArg some (by kernel_rfl))
  f20 := Tryz.func112.trans (congrArg some (by kernel_rfl))
  f21 := ⟨Tryz.f103.name, by decide, Tryz.func103.trans (congrArg some (by kernel_rfl))⟩
  f22 := ⟨Tryz.f104.name, by decide, Tryz.func104.trans (congrArg some (by kernel_rfl))⟩
  f23 := ⟨Tryz.f105.name, by decide, Tryz.func105.trans (congrArg some (by kernel_rfl))⟩
  f24 := ⟨Tryz.f106.name, by decide, Tryz.func106.trans (congrArg some (by kernel_rfl))⟩
  f25 := ⟨Tryz.f107.name, by decide, Tryz.func107.trans (congrArg some (by kernel_rfl))⟩
  f26 := ⟨Tryz.f108.name, by decide, Tryz.func108.trans (congrArg some (by kernel_rfl))⟩
  f27 := ⟨Tryz.f93.name, by decide, Tryz.func93.trans (congrArg some (by kernel_rfl))⟩
  f28 := ⟨Tryz.f109.name, by decide, Tryz.func109.trans (congrArg some (by kernel_rfl))⟩
  f29 := ⟨Tryz.f110.name, by decide, Tryz.func110.trans (congrArg some (by kernel_rfl))⟩
  f31 := Tryz.func115.trans (congrArg some (by kernel_rfl))
  f32 := Tryz.func116.trans (congrArg some (by kernel_rfl))
  f36 := ⟨Tryz.f114.name, by decide, Tryz.func114.trans (congrArg some (by kernel_rfl))⟩
  f37 := ⟨Tryz.f117.name, by decide, Tryz.func117.trans (congrArg some (by kernel_rfl))⟩
  f38 := ⟨Tryz.f118.name, by decide, Tryz.func118.trans (congrArg some (by kernel_rfl))⟩
  f39 := ⟨Tryz.f100.name, by decide, Tryz.func100.trans (congrArg some (by kernel_rfl))⟩
  f41 := ⟨Tryz.f119.name, by decide, Tryz.func119.trans (congrArg some (by kernel_rfl))⟩
  t0 := Tryz.underlying0
  a0 := Tryz.isAgg0
  z0 := Tryz.sizeOf0
  v0 := Tryz.zeroValue0
  t3 := Tryz.underlying3
  a3 := Tryz.isAgg3
  z3 := Tryz.sizeOf3
  v3 := Tryz.zeroValue3
  t4 := Tryz.underlying4
  a4 := Tryz.isAgg4
  z4 := Tryz.sizeOf4
  v4 := Tryz.zeroValue4
  t5 := Tryz.underlying5
  a5 := Tryz.isAgg5
  z5 := Tryz.sizeOf5
  v5 := Tryz.zeroValue5
  t9 := Tryz.underlying9
  a9 := Tryz.isAgg9
  z9 := Tryz.sizeOf9
  v9 := Tryz.zeroValue9
  t26 := Tryz.underlying23
  a26 := Tryz.isAgg23
  z26 := Tryz.sizeOf23
  v26 := Tryz.zeroValue23
  t27 := Tryz.underlying23
  a27 := Tryz.isAgg23
  z27 := Tryz.sizeOf23
  v27 := Tryz.zeroValue23
  t29 := Tryz.underlying9
  a29 := Tryz.isAgg9
  z29 := Tryz.sizeOf9
  v29 := Tryz.zeroValue9
  t32 := Tryz.underlying87
  a32 := Tryz.isAgg87
  z32 := Tryz.sizeOf87
  v32 := Tryz.zeroValue87
  t35 := Tryz.underlying139
  a35 := Tryz.isAgg139
  z35 := Tryz.sizeOf139
  v35 := Tryz.zeroValue139
  t36 := Tryz.underlying140
  a36 := Tryz.isAgg140
  z36 := Tryz.sizeOf140
  v36 := Tryz.zeroValue140
  t41 := Tryz.underlying114
  a41 := Tryz.isAgg114
  z41 := Tryz.sizeOf114
  v41 := Tryz.zeroValue114
  t44 := Tryz.underlying146
  a44 := Tryz.isAgg146
  z44 := Tryz.sizeOf146
  v44 := Tryz.zeroValue146
  t46 := Tryz.underlying66
  a46 := Tryz.isAgg66
  z46 := Tryz.sizeOf66
  v46 := Tryz.zeroValue66
  t53 := Tryz.underlying149
  a53 := Tryz.isAgg149
  z53 := Tryz.sizeOf149
  v53 := Tryz.zeroValue149
  t57 := Tryz.underlying153
  a57 := Tryz.isAgg153
  z57 := Tryz.sizeOf153
  v57 := Tryz.zeroValue153
  t63 := Tryz.underlying155
  a63 := Tryz.isAgg155
  z63 := Tryz.sizeOf155
  v63 := Tryz.zeroValue155
  t64 := Tryz.underlying156
  a64 := Tryz.isAgg156
  z64 := Tryz.sizeOf156
  v64 := Tryz.zeroValue156
}
end Go.Proofs.YtdggmeblnbabbaaGreatDoor.Shs

/-
  slices.Sorted(maps.Keys(m)): the library's contracts (the shelf's), laid at the seat's program.
-/
namespace Go.Proofs.YtdggmeblnbabbaaGreatDoor.Shs
open Go.Shelf Go.RowKit

def keysA_ren : Ren := ⟨fun | 7 => 81 | 10 => 92 | n => n, fun | 23 => 89 | 26 => 9 | 3 => 2 | 28 => 110 | 0 => 0 | 27 => 109 | 33 => 62 | 4 => 4 | n => n, fun | n => n⟩
theorem keysA : Go.Proofs.SlLaysZ.n7 Tryz.prog keysA_ren := {
  mixed := by kernel_rfl
  f7 := ⟨Tryz.f81.name, by decide, Tryz.func81.trans (congrArg some (by kernel_rfl))⟩
  f10 := ⟨Tryz.f92.name, by decide, Tryz.func92.trans (congrArg some (by kernel_rfl))⟩
  t0 := Tryz.underlying0
  a0 := Tryz.isAgg0
  z0 := Tryz.sizeOf0
  v0 := Tryz.zeroValue0
  t4 := Tryz.underlying4
  a4 := Tryz.isAgg4
  z4 := Tryz.sizeOf4
  v4 := Tryz.zeroValue4
  t23 := Tryz.underlying89
  a23 := Tryz.isAgg89
  z23 := Tryz.sizeOf89
  v23 := Tryz.zeroValue89
  t26 := Tryz.underlying9
  a26 := Tryz.isAgg9
  z26 := Tryz.sizeOf9
  v26 := Tryz.zeroValue9
  t27 := Tryz.underlying109
  a27 := Tryz.isAgg109
  z27 := Tryz.sizeOf109
  v27 := Tryz.zeroValue109
  t28 := Tryz.underlying110
  a28 := Tryz.isAgg110
  z28 := Tryz.sizeOf110
  v28 := Tryz.zeroValue110
  t33 := Tryz.underlying62
  a33 := Tryz.isAgg62
  z33 := Tryz.sizeOf62
  v33 := Tryz.zeroValue62
}
def sortedA_ren : Ren := ⟨fun | 6 => 80 | 8 => 90 | 9 => 91 | 11 => 97 | 13 => 99 | 12 => 98 | 23 => 111 | 24 => 112 | 14 => 103 | 15 => 104 | 16 => 105 | 17 => 106 | 18 => 107 | 19 => 108 | 20 => 93 | 21 => 109 | 22 => 110 | 25 => 114 | 26 => 115 | 27 => 116 | 28 => 117 | 29 => 118 | 30 => 100 | 31 => 119 | n => n, fun | 26 => 9 | 28 => 110 | 24 => 23 | 0 => 0 | 3 => 3 | 37 => 87 | 48 => 146 | 50 => 66 | 4 => 4 | 40 => 140 | 39 => 139 | 45 => 114 | 5 => 5 | 9 => 9 | 51 => 149 | 55 => 153 | 57 => 155 | 58 => 156 | 33 => 62 | n => n, fun | n => n⟩
theorem sortedA : Go.Proofs.SlLaysZ.n6 Tryz.prog sortedA_ren := {
  mixed := by kernel_rfl
  f6 := ⟨Tryz.f80.name, by decide, Tryz.func80.trans (congrArg some (by kernel_rfl))⟩
  f8 := ⟨Tryz.f90.name, by decide, Tryz.func90.trans (congrArg some (by kernel_rfl))⟩
  f11 := ⟨Tryz.f97.name, by decide, Tryz.func97.trans (congrArg some (by kernel_rfl))⟩
  t0 := Tryz.underlying0
  a0 := Tryz.isAgg0
  z0 := Tryz.sizeOf0
  v0 := Tryz.zeroValue0
  t24 := Tryz.underlying23
  a24 := Tryz.isAgg23
  z24 := Tryz.sizeOf23
  v24 := Tryz.zeroValue23
  t26 := Tryz.underlying9
  a26 := Tryz.isAgg9
  z26 := Tryz.sizeOf9
  v26 := Tryz.zeroValue9
  t28 := Tryz.underlying110
  a28 := Tryz.isAgg110
  z28 := Tryz.sizeOf110
  v28 := Tryz.zeroValue110
  i26 := by kernel_rfl
}
end Go.Proofs.YtdggmeblnbabbaaGreatDoor.Shs

/-
  What maps.Keys and slices.Sorted answer at a map that counts texts: contracts over the seat's program, by the shelf's.
-/
namespace Go.Proofs.YtdggmeblnbabbaaGreatDoor
open Go.RowKit Go.Maps Go.Sort Go.Shelf

theorem sortsA (m : Nat) : AnyZ.SortsIn Tryz.prog Shs.sortedA_ren Fence.wide m :=
  ⟨fun blk off cap ss W hH hblk hsz => callsIn_wide.2 (AnyM.slices_Sort_string Shs.sortA blk off cap ss W hH hblk hsz),
   fun p cap W => callsIn_wide.2 (AnyM.slices_Sort_string_none Shs.sortA p cap W)⟩
theorem keys_any (mb : Option Nat) (W : World) :
    Calls Tryz.prog 81 #[.map mb] W fun e w' => e = .returned (.func (.func 92) #[] #[.pointer (some ⟨W.heap.size, 0, none⟩)]) ∧ w' = W.alloc (.cells #[.map mb] 89) :=
  (callsIn_wide (n := 5)).1 (AnyZ.keys_in Shs.keysA Fence.wide 5 trivial rfl mb W)
theorem sorted_any (b n : Nat) (l : List Tx) (w : World) (h : MapAt w b n l) (hn : n ≤ 1048576) :
    Calls Tryz.prog 80 #[.func (.func 92) #[] #[.pointer (some ⟨w.heap.size, 0, none⟩)]] (w.alloc (.cells #[.map (some b)] 89)) fun e w' =>
      ∃ (v : Value) (ks : List Tx), e = .returned v ∧ (ks.Nodup ∧ (∀ t, t ∈ ks ↔ t ∈ l) ∧ Asc ks ∧ (∀ t ∈ ks, t.length ≤ maxLen) ∧ ks.length ≤ n) ∧ w'.ownsRow (w.heap.size + 1) 9 1 v ks.length (ks.map encStr) ∧ Below (w.heap.size + 1) (w.alloc (.cells #[.map (some b)] 89)) w' := by
  obtain ⟨D0, hown, hD⟩ := h
  obtain ⟨hnd, hm, hsz, hle⟩ := keys_of hown hD
  have hs1 := hown.size_le
  have hbl := hown.lt
  have hseq : SeqGives Fence.wide 2 Tryz.prog 92 #[.pointer (some ⟨w.heap.size, 0, none⟩)] encStr (fun ss => ss.Perm (strKeys D0)) (Maps.size D0) (w.alloc (.cells #[.map (some b)] 89)) :=
    AnyZ.keys_gives (ρ := Shs.keysA_ren) { Shs.keysA with } Fence.wide _ trivial rfl (by omega) w.heap.size b n D0 _ (by simp) (by simp) (by
      obtain ⟨es, clock, hb, Ft, hs, hD⟩ := hown
      exact ⟨es, clock, (Below.heap_alloc _ _ b hbl).trans hb, Ft, hs, hD⟩)
  have cS := AnyZ.sorted_in Shs.sortedA Fence.wide 5 trivial trivial trivial trivial rfl (by omega) (sortsA _) (enters_of Tryz.func91 (by kernel_rfl) rfl) 92 #[.pointer (some ⟨w.heap.size, 0, none⟩)] trivial (enters_of Tryz.func92 (by kernel_rfl) rfl) _ (Maps.size D0) (by unfold maxLen; omega) (by omega) _ hseq
  change CallsIn _ _ Tryz.prog 80 _ _ _ at cS
  refine (callsIn_wide.1 cS).mono ?_
  rintro e w' ⟨v, ss, rfl, hp, hrow, _, hb⟩
  have hz : (w.alloc (.cells #[.map (some b)] 89)).heap.size = w.heap.size + 1 := by simp
  have hpk : (srt ss).Perm (strKeys D0) := (srt_perm ss).trans hp
  refine ⟨v, srt ss, rfl, ⟨hpk.nodup_iff.2 hnd, fun t => (hpk.mem_iff).trans (hm t), srt_asc ss, fun t ht => hle t (hpk.mem_iff.1 ht), by rw [hpk.length_eq, ← hsz]; exact hs1⟩, ?_, ?_⟩
  · rw [srt_len]
    rw [hz] at hrow
    exact hrow
  · rw [hz] at hb; exact hb
end Go.Proofs.YtdggmeblnbabbaaGreatDoor

/-
  What strings.Clone answers: the same bytes, in a new row: a contract over the seat's program.
-/
namespace Go.Proofs.YtdggmeblnbabbaaGreatDoor
open Go.RowKit

/-- A row of bytes made into a string by Go's own builtin: its run, out of the row's one fact. -/
theorem run_row_string {w : World} {g : Nat} {s : ByteArray} (h0 : ¬ s.size = 0) (h63 : s.size ≤ 9223372036854775807) (hc : Tryz.prog.cellsOf 5 = 1)
    (h : w.heap[g]? = some (.cells (Lib.byteCells s.data.toList).toArray 5 (0, 0))) :
    (Builtin.unsafeString_ #[130, 3] 9 #[.pointer (some ⟨g, 0, none⟩), .int .i64 (s.size : Int)]).run Tryz.prog w = .ok (.string s) (w.freeze ⟨g, 0, none⟩ s.size) := by
  have hl : s.data.toList.length = s.size := by simp
  have hb : (Lib.byteCells s.data.toList).length = s.size := by rw [Lib.byteCells_length, hl]
  have hne : s.data.toList ≠ [] := fun e => h0 (by rw [← hl, e]; rfl)
  have := Lib.run_unsafeString_row (P := Tryz.prog) w 130 3 9 5 Tryz.underlying130 hc g s.size (by unfold World.shape?; rw [h]; simp [hb]) s.data.toList hne (by omega) (by omega) (by
    intro j x hx
    have hj : j < s.data.toList.length := (List.getElem?_eq_some_iff.1 hx).1
    rw [Addr.add_lit]
    simp only [World.cell?, h, Nat.zero_add]
    simp [Lib.byteCells, hx])
  rwa [hl] at this

set_option maxRecDepth 100000 in
theorem stringslite_Clone_any (s : ByteArray) (w : World) (hlim : s.size ≤ 1099511627776) :
    Calls Tryz.prog 79 #[.string s] w fun e w' => e = .returned (.string s) ∧ Below w.heap.size w w' := by
  by_cases h0 : s.size = 0
  · obtain rfl : s = ByteArray.empty := by simpa using h0
    go_enter Tryz.func79, Tryz.ntmps79
    go_wp2
    go_ret
    exact ⟨rfl, Below.refl _ _⟩
  · obtain ⟨i0, hi, hz0, hz1, hz2⟩ := info_parts Tryz.info5
    have hinfo : (Tryz.prog.info? 5).map (·.size) = some 1 := by rw [hi]; simp [hz1]
    have hco : Tryz.prog.cellsOf 5 = 1 := by simp [Program.cellsOf, hi, hz1]
    have h0b : ((s.size : Int) == 0) = false := beq_eq_false_iff_ne.2 (by omega)
    have hpos : (0 : Int) < (s.size : Int) := by omega
    have H0 := hid h0
    clear h0
    go_enter Tryz.func79, Tryz.ntmps79
    go_wp2_with (at_make; refine wpList_make_full _ rfl _ _ 22 rfl w.heap.size 5 i0 (.int .u8 0) 1 Tryz.underlying22 hi hz0 hz1 _ _ _ _ s.size rfl rfl rfl rfl (by rw [hz2]; omega) (by unfold maxLen; omega) (Nat.le_refl _) ?_)
    intro w1 hown hgrow
    obtain ⟨L, hL, hG⟩ := own_row hown
    have hB1 : Below w.heap.size w w1 := (Below.refl _ _).grown hgrow (Nat.le_refl _) (fun k h => by cases h)
    have HL := hid hL
    have HG := hid hG
    have HCO := hid hco
    clear hown hgrow hi hz0 hz1 hz2 hL hG i0 hco
    go_wp2_with (refine wpList_copy_str rfl (.tmp 10) (.tmp 11) 22 9 rfl 5 Tryz.underlying22 hinfo _ _ _ rfl s rfl w.heap.size 0 L 5 HG.out (by omega) (fun _ => rfl) (by have := HL.out; omega) w.heap.size w hB1 (Nat.le_refl _) ?_; intro w2 HG2 hB2; have hus := run_row_string H0.out (by omega) HCO.out (row_one HL.out HG2.out))
    go_ret
    exact ⟨rfl, Lib.below_freeze hB2 (p := ⟨w.heap.size, 0, none⟩) (Nat.le_refl _) _⟩

theorem Clone_any (s : ByteArray) (w : World) (hlim : s.size ≤ 1099511627776) :
    Calls Tryz.prog 59 #[.string s] w fun e w' => e = .returned (.string s) ∧ Below w.heap.size w w' := by
  go_enter Tryz.func59, Tryz.ntmps59
  go_wp2_with (go_at_call 79; refine (stringslite_Clone_any s _ hlim).mono ?_; rintro e w1 ⟨rfl, hb⟩)
  go_ret
  exact ⟨rfl, hb⟩
end Go.Proofs.YtdggmeblnbabbaaGreatDoor

/-
  What the method list of impl.marks answers: the texts that are counted, sorted, in a new row: a contract over the seat's program.
-/
namespace Go.Proofs.YtdggmeblnbabbaaGreatDoor
open Go.RowKit Go.Maps Go.WideMaps Go.Sort

theorem count_le' {l : List Tx} (t : Tx) : l.count t ≤ l.length := List.count_le_length
theorem one_str (s : ByteArray) : ∀ u ∈ [Value.string s], u.oneCell' = true := by
  intro u hu
  simp at hu
  subst hu; rfl
theorem own_cell {w : World} {base n : Nat} {e : TypeId} {a : Option Addr} {c : Nat} {ks : List Tx} (h : w.ownsRow base e 1 (.slice a n c) n (ks.map encStr)) {k : Nat} (hk : k < ks.length) : ∃ g, a = some ⟨g, 0, none⟩ ∧ base ≤ g ∧ g < w.heap.size ∧ w.cell? ⟨g, k, none⟩ = some (encStr ks[k]) := by
  rcases h.2 with ⟨h0, h1⟩ | ⟨g, cap, cur, hv, hb, hh, _⟩
  · have := h.1; rw [List.length_map, h1] at this; omega
  · injection hv with hv _ _
    subst hv
    have := h.cells (g := g) rfl k (encStr ks[k]) (by simp [hk])
    rw [Addr.add_lit, Nat.zero_add] at this
    exact ⟨g, rfl, hb, lt_heap hh, this⟩
set_option maxRecDepth 100000 in
set_option maxHeartbeats 2000000 in
theorem list_any (b n : Nat) (l : List Tx) (w : World) (h : MapAt w b n l) (hn : n ≤ 1048576) (hl : l.length ≤ 1048576) (hF : ∀ t ∈ l, t.length ≤ 1099511627776) :
    Calls Tryz.prog 60 #[.map (some b)] w fun e w' => ∃ a c, e = .returned (.slice a l.length c) ∧ w'.ownsRow w.heap.size 9 1 (.slice a l.length c) l.length ((srt l).map encStr) ∧ Below w.heap.size w w' := by
  obtain ⟨i0, hi, hz0, hz1, hz2⟩ := info_parts Tryz.infoStr
  have HM := hid h
  have HF := hid hF
  have cS := sorted_any b n l w h hn
  clear h hF
  go_enter Tryz.func60, Tryz.ntmps60
  go_wp2_with fail
  refine (keys_any (some b) _).mono ?_
  rintro e w1 ⟨rfl, rfl⟩
  go_wp2_with fail
  refine cS.mono ?_
  rintro e w2 ⟨v, ks, rfl, ⟨hnd, hm, hasc, hle, hkn⟩, hrow, hb2⟩
  obtain ⟨ak, ck, rfl⟩ := ownB_form hrow
  have HR := hid hrow
  have HB2 := hid (((Below.refl w.heap.size w).alloc (Nat.le_refl _) _).trans (hb2.mono (B' := w.heap.size) (by omega)))
  have HE := hid (expd_srt hnd hm hasc)
  have HK := hid (fun k => expd_len_le hnd hm hasc k)
  have HG := hid (fun t ht => (hm t).1 ht)
  have hkn' : ks.length ≤ 1048576 := by omega
  clear hrow hb2 cS hnd hm hasc hle hkn
  go_wp2
  go_loopw [3, 10] (fun o i wr => ∃ (k : Nat) (a : Option Addr) (c : Nat), k ≤ ks.length ∧ i = .int .i64 k ∧ o = .slice a (expd l (ks.take k)).length c ∧ wr.ownsRow w2.heap.size 9 1 (.slice a (expd l (ks.take k)).length c) (expd l (ks.take k)).length ((expd l (ks.take k)).map encStr) ∧ Below w2.heap.size w2 wr) (fun _ i _ => ks.length - (intOf i).toNat)
  case atStart => exact ⟨0, none, 0, Nat.zero_le _, rfl, rfl, World.ownsRow_nil _ _ _ _, Below.refl _ _⟩
  case round =>
    obtain ⟨k, a, c, hk, rfl, rfl, hown, hbel⟩ := hrel
    by_cases hlt : k < ks.length
    · obtain ⟨g, rfl, hg0, hg1, hcell⟩ := own_cell HR.out hlt
      have c0 := (hbel.cell (p := ⟨g, k, none⟩) hg1).trans hcell
      have HO := hid hown
      obtain ⟨D, hownM, hD⟩ := (HM.out.stay HB2.out).stay hbel
      have hsz0 := HF.out ks[k] (HG.out ks[k] (List.getElem_mem hlt))
      have hcl := count_le' (l := l) ks[k]
      have HT := hid (expd_take (l := l) hlt)
      have hX := HK.out (k + 1)
      rw [HT.out, List.length_append, List.length_replicate] at hX
      change _ = some (Value.string ⟨ks[k].toArray⟩) at c0
      generalize ks[k] = t at *
      have hsz : (ByteArray.mk t.toArray).size ≤ 1099511627776 := by show t.toArray.size ≤ _; simpa using hsz0
      have hkey := keyOf_string_mk Tryz.underlying9 (s := ⟨t.toArray⟩) (by unfold maxLen; omega)
      have HN := hid (fun (cc : Int) (hat : D.atKey (.string (ByteArray.mk t.toArray).data.toList) (.lit (.int .i64 0)) = .lit (.int .i64 cc)) => mapOf_at (t := t) hD hat)
      have HS := hid (show encStr t = .string ⟨t.toArray⟩ from rfl)
      generalize ByteArray.mk t.toArray = s at *
      clear hcell hD hown hsz0
      generalize l.count t = cn at *
      generalize expd l (ks.take k) = P at *
      go_wp2_with (first
        | (at_lookup; refine wpList_lookup_own_int _ rfl _ _ 89 rfl 9 2 .i64 Tryz.strKeyed Tryz.underlying89 Tryz.underlying2 (Tryz.zeroI64 _) b n D rfl hownM _ _ rfl hkey ?_; intro cc hat hwc; obtain rfl : cc = cn := HN.out cc hat; clear hat hwc)
        | fail)
      clear c0 hownM hkey HN
      go_loopw [3, 17] (fun o i wr => ∃ (j : Nat) (a : Option Addr) (c : Nat), j ≤ cn ∧ i = .int .i64 j ∧ o = .slice a (P ++ List.replicate j t).length c ∧ wr.ownsRow w2.heap.size 9 1 (.slice a (P ++ List.replicate j t).length c) (P ++ List.replicate j t).length ((P ++ List.replicate j t).map encStr) ∧ Below w2.heap.size w2 wr) (fun _ i _ => cn - (intOf i).toNat)
      case atStart => exact ⟨0, a, c, Nat.zero_le _, rfl, by simp, by simpa using HO.out, hbel⟩
      case round =>
        clear hbel HO
        obtain ⟨j, a, c, hj, rfl, rfl, hown, hbel⟩ := hrel
        by_cases hjl : j < cn
        · have HO := hid hown
          have HPL := hid (show (P ++ List.replicate j t).length = P.length + j by simp)
          have HPN := hid (show (P ++ List.replicate (j + 1) t) = (P ++ List.replicate j t) ++ [t] by rw [List.replicate_succ', List.append_assoc])
          clear hown
          generalize P ++ List.replicate j t = Q at *
          go_wp2_with fail
          refine (Clone_any s _ hsz).mono ?_
          rintro e w3 ⟨rfl, hb3⟩
          have HO3 := hid (ownB_stay HO.out hb3)
          have HB3 := hid (hbel.trans (hb3.mono hbel.size))
          have hz3 := HB3.out.size
          clear hb3 hbel HO
          go_wp2_with (first | (at_builtin; refine wpList_append_own _ rfl _ _ 23 rfl w2.heap.size 9 i0 _ 1 16 Tryz.underlying23 hi hz0 hz1 hz2 rfl (by decide) _ _ _ rfl (HO3.out.alloc _) ⟨w3.heap.size, 0, none⟩ 1 1 [.string s] rfl rfl ?c1 ?c2 ?c3 ?c4 ?c5 ?_) | fail)
          case c1 => exact cell_one_new _ _ _
          case c2 => exact one_str s
          case c3 => have := HPL.out; unfold maxLen; omega
          case c4 => have := HPL.out; omega
          case c5 => simp; omega
          intro v' w4 hown4 hgrow _
          obtain ⟨a', c', rfl⟩ := ownB_form hown4
          have HB4 := hid ((HB3.out.alloc hz3 _).grown hgrow (by simp; omega) (fun g hg => (HO3.out.lt g hg).1))
          have HO4 := hid (show w4.ownsRow w2.heap.size 9 1 (.slice a' (Q ++ [t]).length c') (Q ++ [t]).length ((Q ++ [t]).map encStr) by
            rw [List.length_append, List.map_append]; rw [← HS.out] at hown4; exact hown4)
          clear hown4 hgrow HO3 HB3
          go_wp2
          go_roundw
          case rel => exact ⟨j + 1, a', c', by omega, by go_num, by rw [HPN.out, List.length_append]; rfl, by rw [HPN.out]; exact HO4.out, HB4.out⟩
          case measure => simp [intOf]; omega
        · have hjc : j = cn := by omega
          have HO := hid hown
          rw [hjc, ← HT.out] at HO
          have HJ := hid (show (P ++ List.replicate j t).length = (expd l (ks.take (k + 1))).length by rw [hjc, HT.out])
          clear hown hjc
          go_wp2
          go_roundw
          case rel => exact ⟨k + 1, a, c, by omega, by go_num, by rw [HJ.out], HO.out, hbel⟩
          case measure => simp [intOf]; omega
    · have hk' : k = ks.length := by omega
      have HX := hid (show expd l (ks.take k) = srt l by rw [hk', List.take_of_length_le (Nat.le_refl _)]; exact HE.out)
      have HO := hid hown
      clear hk' hown
      go_wp2
      go_ret
      rw [HX.out] at HO
      have := HO.out
      rw [srt_len] at this
      refine ⟨a, c, ?_, ownB_le this HB2.out.size, HB2.out.trans (hbel.mono HB2.out.size)⟩
      show Ending.returned (.slice a (expd l (ks.take k)).length c) = _
      rw [HX.out, srt_len]
end Go.Proofs.YtdggmeblnbabbaaGreatDoor
