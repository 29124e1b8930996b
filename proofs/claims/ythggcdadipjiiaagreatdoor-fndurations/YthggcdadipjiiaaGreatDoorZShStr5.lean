/-
  Texts put together: ShStr, ShSort, ImKeys, Clone, ImList.
-/
import Derived.Test.YthggcdadipjiiaaGreatDoorRows
import Derived.Shelf.SortM.Plain
import Derived.Shelf.SortM.SortNone
import Derived.Shelf.SlIter.Nil
import Derived.Test.YthggcdadipjiiaaGreatDoorZKeyM3
import Derived.Test.YthggcdadipjiiaaGreatDoorZGen4
import Derived.Test.YthggcdadipjiiaaGreatDoorZEvT5
import Derived.Test.YthggcdadipjiiaaGreatDoorZStrs3
import Derived.Lib.QuietBelow
/-
  slices.Sort at texts: the library's contract (the shelf's), laid at the seat's program.
-/
namespace Go.Proofs.YthggcdadipjiiaaGreatDoor.Shs
open Go.Shelf Go.RowKit

def sortA_ren : Ren := ⟨fun | 6 => 61 | 8 => 88 | 9 => 90 | 19 => 117 | 20 => 118 | 21 => 119 | 22 => 120 | 23 => 121 | 24 => 122 | 25 => 123 | 26 => 124 | 27 => 125 | 28 => 126 | 29 => 127 | 36 => 145 | 31 => 140 | 32 => 141 | 37 => 146 | 38 => 147 | 39 => 148 | 41 => 163 | n => n, fun | 27 => 23 | 29 => 9 | 3 => 3 | 32 => 119 | 26 => 23 | 0 => 0 | 44 => 158 | 46 => 83 | 4 => 4 | 36 => 150 | 35 => 149 | 41 => 155 | 5 => 5 | 9 => 9 | 53 => 178 | 57 => 182 | 63 => 193 | 64 => 194 | n => n, fun | n => n⟩
theorem sortA : Go.Proofs.SlLaysM.n6 Tryz.prog sortA_ren := {
  mixed := by kernel_rfl
  f6 := ⟨Tryz.f61.name, by decide, Tryz.func61.trans (congrArg some (by kernel_rfl))⟩
  f8 := Tryz.func88.trans (congrArg some (by kernel_rfl))
  f9 := ⟨Tryz.f90.name, by decide, Tryz.func90.trans (congrArg some (by kernel_rfl))⟩
  f19 := Tryz.func117.trans (congrArg some (by kernel_rfl))
  f20 := Tryz.func118.trans (congrArg some (by kernel_rfl))
  f21 := ⟨Tryz.f119.name, by decide, Tryz.func119.trans (congrArg some (by kernel_rfl))⟩
  f22 := ⟨Tryz.f120.name, by decide, Tryz.func120.trans (congrArg some (by kernel_rfl))⟩
  f23 := ⟨Tryz.f121.name, by decide, Tryz.func121.trans (congrArg some (by kernel_rfl))⟩
  f24 := ⟨Tryz.f122.name, by decide, Tryz.func122.trans (congrArg some (by kernel_rfl))⟩
  f25 := ⟨Tryz.f123.name, by decide, Tryz.func123.trans (congrArg some (by kernel_rfl))⟩
  f26 := ⟨Tryz.f124.name, by decide, Tryz.func124.trans (congrArg some (by kernel_rfl))⟩
  f27 := ⟨Tryz.f125.name, by decide, Tryz.func125.trans (congrArg some (by kernel_rfl))⟩
  f28 := ⟨Tryz.f126.name, by decide, Tryz.func126.trans (congrArg some (by kernel_rfl))⟩
  f29 := ⟨Tryz.f127.name, by decide, Tryz.func127.trans (congrArg some (by kernel_rfl))⟩
  f31 := Tryz.func140.trans (congrArg some (by kernel_rfl))
  f32 := Tryz.func141.trans (congrArg some (by kernel_rfl))
  f36 := ⟨Tryz.f145.name, by decide, Tryz.func145.trans (congrArg some (by kernel_rfl))⟩
  f37 := ⟨Tryz.f146.name, by decide, Tryz.func146.trans (congrArg some (by kernel_rfl))⟩
  f38 := ⟨Tryz.f147.name, by decide, Tryz.func147.trans (congrArg some (by kernel_rfl))⟩
  f39 := ⟨Tryz.f148.name, by decide, Tryz.func148.trans (congrArg some (by kernel_rfl))⟩
  f41 := ⟨Tryz.f163.name, by decide, Tryz.func163.trans (congrArg some (by kernel_rfl))⟩
  t0 := Tryz.underlying0
  a0 := Tryz.isAgg0
  z0 := Tryz.sizeOf0
  v0 := Tryz.zeroValue0
  t3 := Tryz.underlying3
  a3 := Tryz.isAgg3
  z3 := Tryz.sizeOf3
  v3 := Tryz.zeroValue3
  t4 := Tryz.underlying4
  a4 := Tryz.isAgg4
  z4 := Tryz.sizeOf4
  v4 := Tryz.zeroValue4
  t5 := Tryz.underlying5
  a5 := Tryz.isAgg5
  z5 := Tryz.sizeOf5
  v5 := Tryz.zeroValue5
  t9 := Tryz.underlying9
  a9 := Tryz.isAgg9
  z9 := Tryz.sizeOf9
  v9 := Tryz.zeroValue9
  t26 := Tryz.underlying23
  a26 := Tryz.isAgg23
  z26 := Tryz.sizeOf23
  v26 := Tryz.zeroValue23
  t27 := Tryz.underlying23
  a27 := Tryz.isAgg23
  z27 := Tryz.sizeOf23
  v27 := Tryz.zeroValue23
  t29 := Tryz.underlying9
  a29 := Tryz.isAgg9
  z29 := Tryz.sizeOf9
  v29 := Tryz.zeroValue9
  t32 := Tryz.underlying119
  a32 := Tryz.isAgg119
  z32 := Tryz.sizeOf119
  v32 := Tryz.zeroValue119
  t35 := Tryz.underlying149
  a35 := Tryz.isAgg149
  z35 := Tryz.sizeOf149
  v35 := Tryz.zeroValue149
  t36 := Tryz.underlying150
  a36 := Tryz.isAgg150
  z36 := Tryz.sizeOf150
  v36 := Tryz.zeroValue150
  t41 := Tryz.underlying155
  a41 := Tryz.isAgg155
  z41 := Tryz.sizeOf155
  v41 := Tryz.zeroValue155
  t44 := Tryz.underlying158
  a44 := Tryz.isAgg158
  z44 := Tryz.sizeOf158
  v44 := Tryz.zeroValue158
  t46 := Tryz.underlying83
  a46 := Tryz.isAgg83
  z46 := Tryz.sizeOf83
  v46 := Tryz.zeroValue83
  t53 := Tryz.underlying178
  a53 := Tryz.isAgg178
  z53 := Tryz.sizeOf178
  v53 := Tryz.zeroValue178
  t57 := Tryz.underlying182
  a57 := Tryz.isAgg182
  z57 := Tryz.sizeOf182
  v57 := Tryz.zeroValue182
  t63 := Tryz.underlying193
  a63 := Tryz.isAgg193
  z63 := Tryz.sizeOf193
  v63 := Tryz.zeroValue193
  t64 := Tryz.underlying194
  a64 := Tryz.isAgg194
  z64 := Tryz.sizeOf194
  v64 := Tryz.zeroValue194
}
end Go.Proofs.YthggcdadipjiiaaGreatDoor.Shs

/-
  slices.Sorted(maps.Keys(m)): the library's contracts (the shelf's), laid at the seat's program.
-/
namespace Go.Proofs.YthggcdadipjiiaaGreatDoor.Shs
open Go.Shelf Go.RowKit

def keysA_ren : Ren := ⟨fun | 7 => 161 | 10 => 170 | n => n, fun | 23 => 170 | 26 => 9 | 3 => 2 | 28 => 60 | 0 => 0 | 27 => 59 | 33 => 106 | 4 => 4 | n => n, fun | n => n⟩
theorem keysA : Go.Proofs.SlLaysZ.n7 Tryz.prog keysA_ren := {
  mixed := by kernel_rfl
  f7 := ⟨Tryz.f161.name, by decide, Tryz.func161.trans (congrArg some (by kernel_rfl))⟩
  f10 := ⟨Tryz.f170.name, by decide, Tryz.func170.trans (congrArg some (by kernel_rfl))⟩
  t0 := Tryz.underlying0
  a0 := Tryz.isAgg0
  z0 := Tryz.sizeOf0
  v0 := Tryz.zeroValue0
  t4 := Tryz.underlying4
  a4 := Tryz.isAgg4
  z4 := Tryz.sizeOf4
  v4 := Tryz.zeroValue4
  t23 := Tryz.underlying170
  a23 := Tryz.isAgg170
  z23 := Tryz.sizeOf170
  v23 := Tryz.zeroValue170
  t26 := Tryz.underlying9
  a26 := Tryz.isAgg9
  z26 := Tryz.sizeOf9
  v26 := Tryz.zeroValue9
  t27 := Tryz.underlying59
  a27 := Tryz.isAgg59
  z27 := Tryz.sizeOf59
  v27 := Tryz.zeroValue59
  t28 := Tryz.underlying60
  a28 := Tryz.isAgg60
  z28 := Tryz.sizeOf60
  v28 := Tryz.zeroValue60
  t33 := Tryz.underlying106
  a33 := Tryz.isAgg106
  z33 := Tryz.sizeOf106
  v33 := Tryz.zeroValue106
}
def sortedA_ren : Ren := ⟨fun | 6 => 23 | 8 => 60 | 9 => 61 | 11 => 89 | 13 => 88 | 12 => 90 | 23 => 117 | 24 => 118 | 14 => 119 | 15 => 120 | 16 => 121 | 17 => 122 | 18 => 123 | 19 => 124 | 20 => 125 | 21 => 126 | 22 => 127 | 25 => 145 | 26 => 140 | 27 => 141 | 28 => 146 | 29 => 147 | 30 => 148 | 31 => 163 | n => n, fun | 26 => 9 | 28 => 60 | 24 => 23 | 0 => 0 | 3 => 3 | 37 => 119 | 48 => 158 | 50 => 83 | 4 => 4 | 40 => 150 | 39 => 149 | 45 => 155 | 5 => 5 | 9 => 9 | 51 => 178 | 55 => 182 | 57 => 193 | 58 => 194 | 33 => 106 | n => n, fun | n => n⟩
theorem sortedA : Go.Proofs.SlLaysZ.n6 Tryz.prog sortedA_ren := {
  mixed := by kernel_rfl
  f6 := ⟨Tryz.f23.name, by decide, Tryz.func23.trans (congrArg some (by kernel_rfl))⟩
  f8 := ⟨Tryz.f60.name, by decide, Tryz.func60.trans (congrArg some (by kernel_rfl))⟩
  f11 := ⟨Tryz.f89.name, by decide, Tryz.func89.trans (congrArg some (by kernel_rfl))⟩
  t0 := Tryz.underlying0
  a0 := Tryz.isAgg0
  z0 := Tryz.sizeOf0
  v0 := Tryz.zeroValue0
  t24 := Tryz.underlying23
  a24 := Tryz.isAgg23
  z24 := Tryz.sizeOf23
  v24 := Tryz.zeroValue23
  t26 := Tryz.underlying9
  a26 := Tryz.isAgg9
  z26 := Tryz.sizeOf9
  v26 := Tryz.zeroValue9
  t28 := Tryz.underlying60
  a28 := Tryz.isAgg60
  z28 := Tryz.sizeOf60
  v28 := Tryz.zeroValue60
  i26 := by kernel_rfl
}
end Go.Proofs.YthggcdadipjiiaaGreatDoor.Shs

/-
  What maps.Keys and slices.Sorted answer at a map that counts texts: contracts over the seat's program, by the shelf's.
-/
namespace Go.Proofs.YthggcdadipjiiaaGreatDoor
open Go.RowKit Go.Maps Go.Sort Go.Shelf

theorem sortsA (m : Nat) : AnyZ.SortsIn Tryz.prog Shs.sortedA_ren Fence.wide m :=
  ⟨fun blk off cap ss W hH hblk hsz => callsIn_wide.2 (AnyM.slices_Sort_string Shs.sortA blk off cap ss W hH hblk hsz),
   fun p cap W => callsIn_wide.2 (AnyM.slices_Sort_string_none Shs.sortA p cap W)⟩
theorem keys_any (mb : Option Nat) (W : World) :
    Calls Tryz.prog 161 #[.map mb] W fun e w' => e = .returned (.func (.func 170) #[] #[.pointer (some ⟨W.heap.size, 0, none⟩)]) ∧ w' = W.alloc (.cells #[.map mb] 170) :=
  (callsIn_wide (n := 5)).1 (AnyZ.keys_in Shs.keysA Fence.wide 5 trivial rfl mb W)
theorem sorted_any (b n : Nat) (l : List Tx) (w : World) (h : MapAt w b n l) (hn : n ≤ 1048576) :
    Calls Tryz.prog 23 #[.func (.func 170) #[] #[.pointer (some ⟨w.heap.size, 0, none⟩)]] (w.alloc (.cells #[.map (some b)] 170)) fun e w' =>
      ∃ (v : Value) (ks : List Tx), e = .returned v ∧ (ks.Nodup ∧ (∀ t, t ∈ ks ↔ t ∈ l) ∧ Asc ks ∧ (∀ t ∈ ks, t.length ≤ maxLen) ∧ ks.length ≤ n) ∧ w'.ownsRow (w.heap.size + 1) 9 1 v ks.length (ks.map encStr) ∧ Below (w.heap.size + 1) (w.alloc (.cells #[.map (some b)] 170)) w' := by
  obtain ⟨D0, hown, hD⟩ := h
  obtain ⟨hnd, hm, hsz, hle⟩ := keys_of hown hD
  have hs1 := hown.size_le
  have hbl := hown.lt
  have hseq : SeqGives Fence.wide 2 Tryz.prog 170 #[.pointer (some ⟨w.heap.size, 0, none⟩)] encStr (fun ss => ss.Perm (strKeys D0)) (Maps.size D0) (w.alloc (.cells #[.map (some b)] 170)) :=
    AnyZ.keys_gives (ρ := Shs.keysA_ren) { Shs.keysA with } Fence.wide _ trivial rfl (by omega) w.heap.size b n D0 _ (by simp) (by simp) (by
      obtain ⟨es, clock, hb, Ft, hs, hD⟩ := hown
      exact ⟨es, clock, (Below.heap_alloc _ _ b hbl).trans hb, Ft, hs, hD⟩)
  have cS := AnyZ.sorted_in Shs.sortedA Fence.wide 5 trivial trivial trivial trivial rfl (by omega) (sortsA _) (enters_of Tryz.func61 (by kernel_rfl) rfl) 170 #[.pointer (some ⟨w.heap.size, 0, none⟩)] trivial (enters_of Tryz.func170 (by kernel_rfl) rfl) _ (Maps.size D0) (by unfold maxLen; omega) (by omega) _ hseq
  change CallsIn _ _ Tryz.prog 23 _ _ _ at cS
  refine (callsIn_wide.1 cS).mono ?_
  rintro e w' ⟨v, ss, rfl, hp, hrow, _, hb⟩
  have hz : (w.alloc (.cells #[.map (some b)] 170)).heap.size = w.heap.size + 1 := by simp
  have hpk : (srt ss).Perm (strKeys D0) := (srt_perm ss).trans hp
  refine ⟨v, srt ss, rfl, ⟨hpk.nodup_iff.2 hnd, fun t => (hpk.mem_iff).trans (hm t), srt_asc ss, fun t ht => hle t (hpk.mem_iff.1 ht), by rw [hpk.length_eq, ← hsz]; exact hs1⟩, ?_, ?_⟩
  · rw [srt_len]
    rw [hz] at hrow
    exact hrow
  · rw [hz] at hb; exact hb
end Go.Proofs.YthggcdadipjiiaaGreatDoor

/-
  What strings.Clone answers: the same bytes, in a new row: a contract over the seat's program.
-/
namespace Go.Proofs.YthggcdadipjiiaaGreatDoor
open Go.RowKit

/-- A row of bytes made into a string by Go's own builtin: its run, out of the row's one fact. -/
theorem run_row_string {w : World} {g : Nat} {s : ByteArray} (h0 : ¬ s.size = 0) (h63 : s.size ≤ 9223372036854775807) (hc : Tryz.prog.cellsOf 5 = 1)
    (h : w.heap[g]? = some (.cells (Lib.byteCells s.data.toList).toArray 5 (0, 0))) :
    (Builtin.unsafeString_ #[166, 3] 9 #[.pointer (some ⟨g, 0, none⟩), .int .i64 (s.size : Int)]).run Tryz.prog w = .ok (.string s) (w.freeze ⟨g, 0, none⟩ s.size) := by
  have hl : s.data.toList.length = s.size := by simp
  have hb : (Lib.byteCells s.data.toList).length = s.size := by rw [Lib.byteCells_length, hl]
  have hne : s.data.toList ≠ [] := fun e => h0 (by rw [← hl, e]; rfl)
  have := Lib.run_unsafeString_row (P := Tryz.prog) w 166 3 9 5 Tryz.underlying166 hc g s.size (by unfold World.shape?; rw [h]; simp [hb]) s.data.toList hne (by omega) (by omega) (by
    intro j x hx
    have hj : j < s.data.toList.length := (List.getElem?_eq_some_iff.1 hx).1
    rw [Addr.add_lit]
    simp only [World.cell?, h, Nat.zero_add]
    simp [Lib.byteCells, hx])
  rwa [hl] at this

set_option maxRecDepth 100000 in
theorem stringslite_Clone_any (s : ByteArray) (w : World) (hlim : s.size ≤ 1099511627776) :
    Calls Tryz.prog 94 #[.string s] w fun e w' => e = .returned (.string s) ∧ Below w.heap.size w w' := by
  by_cases h0 : s.size = 0
  · obtain rfl : s = ByteArray.empty := by simpa using h0
    go_enter Tryz.func94, Tryz.ntmps94
    go_wp2
    go_ret
    exact ⟨rfl, Below.refl _ _⟩
  · obtain ⟨i0, hi, hz0, hz1, hz2⟩ := info_parts Tryz.info5
    have hinfo : (Tryz.prog.info? 5).map (·.size) = some 1 := by rw [hi]; simp [hz1]
    have hco : Tryz.prog.cellsOf 5 = 1 := by simp [Program.cellsOf, hi, hz1]
    have h0b : ((s.size : Int) == 0) = false := beq_eq_false_iff_ne.2 (by omega)
    have hpos : (0 : Int) < (s.size : Int) := by omega
    have H0 := hid h0
    clear h0
    go_enter Tryz.func94, Tryz.ntmps94
    go_wp2_with (at_make; refine wpList_make_full _ rfl _ _ 22 rfl w.heap.size 5 i0 (.int .u8 0) 1 Tryz.underlying22 hi hz0 hz1 _ _ _ _ s.size rfl rfl rfl rfl (by rw [hz2]; omega) (by unfold maxLen; omega) (Nat.le_refl _) ?_)
    intro w1 hown hgrow
    obtain ⟨L, hL, hG⟩ := own_row hown
    have hB1 : Below w.heap.size w w1 := (Below.refl _ _).grown hgrow (Nat.le_refl _) (fun k h => by cases h)
    have HL := hid hL
    have HG := hid hG
    have HCO := hid hco
    clear hown hgrow hi hz0 hz1 hz2 hL hG i0 hco
    go_wp2_with (refine wpList_copy_str rfl (.tmp 10) (.tmp 11) 22 9 rfl 5 Tryz.underlying22 hinfo _ _ _ rfl s rfl w.heap.size 0 L 5 HG.out (by omega) (fun _ => rfl) (by have := HL.out; omega) w.heap.size w hB1 (Nat.le_refl _) ?_; intro w2 HG2 hB2; have hus := run_row_string H0.out (by omega) HCO.out (row_one HL.out HG2.out))
    go_ret
    exact ⟨rfl, Lib.below_freeze hB2 (p := ⟨w.heap.size, 0, none⟩) (Nat.le_refl _) _⟩

theorem Clone_any (s : ByteArray) (w : World) (hlim : s.size ≤ 1099511627776) :
    Calls Tryz.prog 67 #[.string s] w fun e w' => e = .returned (.string s) ∧ Below w.heap.size w w' := by
  go_enter Tryz.func67, Tryz.ntmps67
  go_wp2_with (go_at_call 94; refine (stringslite_Clone_any s _ hlim).mono ?_; rintro e w1 ⟨rfl, hb⟩)
  go_ret
  exact ⟨rfl, hb⟩
end Go.Proofs.YthggcdadipjiiaaGreatDoor

/-
  What the method list of impl.marks answers: the texts that are counted, sorted, in a new row: a contract over the seat's program.
-/
namespace Go.Proofs.YthggcdadipjiiaaGreatDoor
open Go.RowKit Go.Maps Go.WideMaps Go.Sort

theorem count_le' {l : List Tx} (t : Tx) : l.count t ≤ l.length := List.count_le_length
theorem one_str (s : ByteArray) : ∀ u ∈ [Value.string s], u.oneCell' = true := by
  intro u hu
  simp at hu
  subst hu; rfl
theorem own_cell {w : World} {base n : Nat} {e : TypeId} {a : Option Addr} {c : Nat} {ks : List Tx} (h : w.ownsRow base e 1 (.slice a n c) n (ks.map encStr)) {k : Nat} (hk : k < ks.length) : ∃ g, a = some ⟨g, 0, none⟩ ∧ base ≤ g ∧ g < w.heap.size ∧ w.cell? ⟨g, k, none⟩ = some (encStr ks[k]) := by
  rcases h.2 with ⟨h0, h1⟩ | ⟨g, cap, cur, hv, hb, hh, _⟩
  · have := h.1; rw [List.length_map, h1] at this; omega
  · injection hv with hv _ _
    subst hv
    have := h.cells (g := g) rfl k (encStr ks[k]) (by simp [hk])
    rw [Addr.add_lit, Nat.zero_add] at this
    exact ⟨g, rfl, hb, lt_heap hh, this⟩
set_option maxRecDepth 100000 in
set_option maxHeartbeats 2000000 in
theorem list_any (b n : Nat) (l : List Tx) (w : World) (h : MapAt w b n l) (hn : n ≤ 1048576) (hl : l.length ≤ 1048576) (hF : ∀ t ∈ l, t.length ≤ 1099511627776) :
    Calls Tryz.prog 138 #[.map (some b)] w fun e w' => ∃ a c, e = .returned (.slice a l.length c) ∧ w'.ownsRow w.heap.size 9 1 (.slice a l.length c) l.length ((srt l).map encStr) ∧ Below w.heap.size w w' := by
  obtain ⟨i0, hi, hz0, hz1, hz2⟩ := info_parts Tryz.infoStr
  have HM := hid h
  have HF := hid hF
  have cS := sorted_any b n l w h hn
  clear h hF
  go_enter Tryz.func138, Tryz.ntmps138
  go_wp2_with fail
  refine (keys_any (some b) _).mono ?_
  rintro e w1 ⟨rfl, rfl⟩
  go_wp2_with fail
  refine cS.mono ?_
  rintro e w2 ⟨v, ks, rfl, ⟨hnd, hm, hasc, hle, hkn⟩, hrow, hb2⟩
  obtain ⟨ak, ck, rfl⟩ := ownB_form hrow
  have HR := hid hrow
  have HB2 := hid (((Below.refl w.heap.size w).alloc (Nat.le_refl _) _).trans (hb2.mono (B' := w.heap.size) (by omega)))
  have HE := hid (expd_srt hnd hm hasc)
  have HK := hid (fun k => expd_len_le hnd hm hasc k)
  have HG := hid (fun t ht => (hm t).1 ht)
  have hkn' : ks.length ≤ 1048576 := by omega
  clear hrow hb2 cS hnd hm hasc hle hkn
  go_wp2
  go_loopw [3, 10] (fun o i wr => ∃ (k : Nat) (a : Option Addr) (c : Nat), k ≤ ks.length ∧ i = .int .i64 k ∧ o = .slice a (expd l (ks.take k)).length c ∧ wr.ownsRow w2.heap.size 9 1 (.slice a (expd l (ks.take k)).length c) (expd l (ks.take k)).length ((expd l (ks.take k)).map encStr) ∧ Below w2.heap.size w2 wr) (fun _ i _ => ks.length - (intOf i).toNat)
  case atStart => exact ⟨0, none, 0, Nat.zero_le _, rfl, rfl, World.ownsRow_nil _ _ _ _, Below.refl _ _⟩
  case round =>
    obtain ⟨k, a, c, hk, rfl, rfl, hown, hbel⟩ := hrel
    by_cases hlt : k < ks.length
    · obtain ⟨g, rfl, hg0, hg1, hcell⟩ := own_cell HR.out hlt
      have c0 := (hbel.cell (p := ⟨g, k, none⟩) hg1).trans hcell
      have HO := hid hown
      obtain ⟨D, hownM, hD⟩ := (HM.out.stay HB2.out).stay hbel
      have hsz0 := HF.out ks[k] (HG.out ks[k] (List.getElem_mem hlt))
      have hcl := count_le' (l := l) ks[k]
      have HT := hid (expd_take (l := l) hlt)
      have hX := HK.out (k + 1)
      rw [HT.out, List.length_append, List.length_replicate] at hX
      change _ = some (Value.string ⟨ks[k].toArray⟩) at c0
      generalize ks[k] = t at *
      have hsz : (ByteArray.mk t.toArray).size ≤ 1099511627776 := by show t.toArray.size ≤ _; simpa using hsz0
      have hkey := keyOf_string_mk Tryz.underlying9 (s := ⟨t.toArray⟩) (by unfold maxLen; omega)
      have HN := hid (fun (cc : Int) (hat : D.atKey (.string (ByteArray.mk t.toArray).data.toList) (.lit (.int .i64 0)) = .lit (.int .i64 cc)) => mapOf_at (t := t) hD hat)
      have HS := hid (show encStr t = .string ⟨t.toArray⟩ from rfl)
      generalize ByteArray.mk t.toArray = s at *
      clear hcell hD hown hsz0
      generalize l.count t = cn at *
      generalize expd l (ks.take k) = P at *
      go_wp2_with (first
        | (at_lookup; refine wpList_lookup_own_int _ rfl _ _ 170 rfl 9 2 .i64 Tryz.strKeyed Tryz.underlying170 Tryz.underlying2 (Tryz.zeroI64 _) b n D rfl hownM _ _ rfl hkey ?_; intro cc hat hwc; obtain rfl : cc = cn := HN.out cc hat; clear hat hwc)
        | fail)
      clear c0 hownM hkey HN
      go_loopw [3, 17] (fun o i wr => ∃ (j : Nat) (a : Option Addr) (c : Nat), j ≤ cn ∧ i = .int .i64 j ∧ o = .slice a (P ++ List.replicate j t).length c ∧ wr.ownsRow w2.heap.size 9 1 (.slice a (P ++ List.replicate j t).length c) (P ++ List.replicate j t).length ((P ++ List.replicate j t).map encStr) ∧ Below w2.heap.size w2 wr) (fun _ i _ => cn - (intOf i).toNat)
      case atStart => exact ⟨0, a, c, Nat.zero_le _, rfl, by simp, by simpa using HO.out, hbel⟩
      case round =>
        clear hbel HO
        obtain ⟨j, a, c, hj, rfl, rfl, hown, hbel⟩ := hrel
        by_cases hjl : j < cn
        · have HO := hid hown
          have HPL := hid (show (P ++ List.replicate j t).length = P.length + j by simp)
          have HPN := hid (show (P ++ List.replicate (j + 1) t) = (P ++ List.replicate j t) ++ [t] by rw [List.replicate_succ', List.append_assoc])
          clear hown
          generalize P ++ List.replicate j t = Q at *
          go_wp2_with fail
          refine (Clone_any s _ hsz).mono ?_
          rintro e w3 ⟨rfl, hb3⟩
          have HO3 := hid (ownB_stay HO.out hb3)
          have HB3 := hid (hbel.trans (hb3.mono hbel.size))
          have hz3 := HB3.out.size
          clear hb3 hbel HO
          go_wp2_with (first | (at_builtin; refine wpList_append_own _ rfl _ _ 23 rfl w2.heap.size 9 i0 _ 1 16 Tryz.underlying23 hi hz0 hz1 hz2 rfl (by decide) _ _ _ rfl (HO3.out.alloc _) ⟨w3.heap.size, 0, none⟩ 1 1 [.string s] rfl rfl ?c1 ?c2 ?c3 ?c4 ?c5 ?_) | fail)
          case c1 => exact cell_one_new _ _ _
          case c2 => exact one_str s
          case c3 => have := HPL.out; unfold maxLen; omega
          case c4 => have := HPL.out; omega
          case c5 => simp; omega
          intro v' w4 hown4 hgrow _
          obtain ⟨a', c', rfl⟩ := ownB_form hown4
          have HB4 := hid ((HB3.out.alloc hz3 _).grown hgrow (by simp; omega) (fun g hg => (HO3.out.lt g hg).1))
          have HO4 := hid (show w4.ownsRow w2.heap.size 9 1 (.slice a' (Q ++ [t]).length c') (Q ++ [t]).length ((Q ++ [t]).map encStr) by
            rw [List.length_append, List.map_append]; rw [← HS.out] at hown4; exact hown4)
          clear hown4 hgrow HO3 HB3
          go_wp2
          go_roundw
          case rel => exact ⟨j + 1, a', c', by omega, by go_num, by rw [HPN.out, List.length_append]; rfl, by rw [HPN.out]; exact HO4.out, HB4.out⟩
          case measure => simp [intOf]; omega
        · have hjc : j = cn := by omega
          have HO := hid hown
          rw [hjc, ← HT.out] at HO
          have HJ := hid (show (P ++ List.replicate j t).length = (expd l (ks.take (k + 1))).length by rw [hjc, HT.out])
          clear hown hjc
          go_wp2
          go_roundw
          case rel => exact ⟨k + 1, a, c, by omega, by go_num, by rw [HJ.out], HO.out, hbel⟩
          case measure => simp [intOf]; omega
    · have hk' : k = ks.length := by omega
      have HX := hid (show expd l (ks.take k) = srt l by rw [hk', List.take_of_length_le (Nat.le_refl _)]; exact HE.out)
      have HO := hid hown
      clear hk' hown
      go_wp2
      go_ret
      rw [HX.out] at HO
      have := HO.out
      rw [srt_len] at this
      refine ⟨a, c, ?_, ownB_le this HB2.out.size, HB2.out.trans (hbel.mono HB2.out.size)⟩
      show Ending.returned (.slice a (expd l (ks.take k)).length c) = _
      rw [HX.out, srt_len]
end Go.Proofs.YthggcdadipjiiaaGreatDoor
