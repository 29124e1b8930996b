/-
  Texts put together: ImKeys, Clone, ImList.
-/
import Derived.Test.YtihpadabgfhegaaGreatDoorZKeyM3
import Derived.Test.YtihpadabgfhegaaGreatDoorZShSort
import Derived.Test.YtihpadabgfhegaaGreatDoorZAgg3
import Derived.Test.YtihpadabgfhegaaGreatDoorZMark4
/-
  What maps.Keys and slices.Sorted answer at a map that counts texts: contracts over the seat's program, by the shelf's.
-/
namespace Go.Proofs.YtihpadabgfhegaaGreatDoor
open Go.RowKit Go.Maps Go.Sort Go.Shelf

theorem sortsA (m : Nat) : AnyZ.SortsIn Tryz.prog Shs.sortedA_ren Fence.wide m :=
  ⟨fun blk off cap ss W hH hblk hsz => callsIn_wide.2 (AnyM.slices_Sort_string Shs.sortA blk off cap ss W hH hblk hsz),
   fun p cap W => callsIn_wide.2 (AnyM.slices_Sort_string_none Shs.sortA p cap W)⟩
theorem keys_any (mb : Option Nat) (W : World) :
    Calls Tryz.prog 123 #[.map mb] W fun e w' => e = .returned (.func (.func 134) #[] #[.pointer (some ⟨W.heap.size, 0, none⟩)]) ∧ w' = W.alloc (.cells #[.map mb] 134) :=
  (callsIn_wide (n := 5)).1 (AnyZ.keys_in Shs.keysA Fence.wide 5 trivial rfl mb W)
theorem sorted_any (b n : Nat) (l : List Tx) (w : World) (h : MapAt w b n l) (hn : n ≤ 1048576) :
    Calls Tryz.prog 122 #[.func (.func 134) #[] #[.pointer (some ⟨w.heap.size, 0, none⟩)]] (w.alloc (.cells #[.map (some b)] 134)) fun e w' =>
      ∃ (v : Value) (ks : List Tx), e = .returned v ∧ (ks.Nodup ∧ (∀ t, t ∈ ks ↔ t ∈ l) ∧ Asc ks ∧ (∀ t ∈ ks, t.length ≤ maxLen) ∧ ks.length ≤ n) ∧ w'.ownsRow (w.heap.size + 1) 9 1 v ks.length (ks.map encStr) ∧ Below (w.heap.size + 1) (w.alloc (.cells #[.map (some b)] 134)) w' := by
  obtain ⟨D0, hown, hD⟩ := h
  obtain ⟨hnd, hm, hsz, hle⟩ := keys_of hown hD
  have hs1 := hown.size_le
  have hbl := hown.lt
  have hseq : SeqGives Fence.wide 2 Tryz.prog 134 #[.pointer (some ⟨w.heap.size, 0, none⟩)] encStr (fun ss => ss.Perm (strKeys D0)) (Maps.size D0) (w.alloc (.cells #[.map (some b)] 134)) :=
    AnyZ.keys_gives (ρ := Shs.keysA_ren) { Shs.keysA with } Fence.wide _ trivial rfl (by omega) w.heap.size b n D0 _ (by simp) (by simp) (by
      obtain ⟨es, clock, hb, Ft, hs, hD⟩ := hown
      exact ⟨es, clock, (Below.heap_alloc _ _ b hbl).trans hb, Ft, hs, hD⟩)
  have cS := AnyZ.sorted_in Shs.sortedA Fence.wide 5 trivial trivial trivial trivial rfl (by omega) (sortsA _) (enters_of Tryz.func133 (by kernel_rfl) rfl) 134 #[.pointer (some ⟨w.heap.size, 0, none⟩)] trivial (enters_of Tryz.func134 (by kernel_rfl) rfl) _ (Maps.size D0) (by unfold maxLen; omega) (by omega) _ hseq
  change CallsIn _ _ Tryz.prog 122 _ _ _ at cS
  refine (callsIn_wide.1 cS).mono ?_
  rintro e w' ⟨v, ss, rfl, hp, hrow, _, hb⟩
  have hz : (w.alloc (.cells #[.map (some b)] 134)).heap.size = w.heap.size + 1 := by simp
  have hpk : (srt ss).Perm (strKeys D0) := (srt_perm ss).trans hp
  refine ⟨v, srt ss, rfl, ⟨hpk.nodup_iff.2 hnd, fun t => (hpk.mem_iff).trans (hm t), srt_asc ss, fun t ht => hle t (hpk.mem_iff.1 ht), by rw [hpk.length_eq, ← hsz]; exact hs1⟩, ?_, ?_⟩
  · rw [srt_len]
    rw [hz] at hrow
    exact hrow
  · rw [hz] at hb; exact hb
end Go.Proofs.YtihpadabgfhegaaGreatDoor

/-
  What strings.Clone answers: the same bytes, in a new row: a contract over the seat's program.
-/
namespace Go.Proofs.YtihpadabgfhegaaGreatDoor
open Go.RowKit

/-- A row of bytes made into a string by Go's own builtin: its run, out of the row's one fact. -/
theorem run_row_string {w : World} {g : Nat} {s : ByteArray} (h0 : ¬ s.size = 0) (h63 : s.size ≤ 9223372036854775807) (hc : Tryz.prog.cellsOf 5 = 1)
    (h : w.heap[g]? = some (.cells (Lib.byteCells s.data.toList).toArray 5 (0, 0))) :
    (Builtin.unsafeString_ #[175, 3] 9 #[.pointer (some ⟨g, 0, none⟩), .int .i64 (s.size : Int)]).run Tryz.prog w = .ok (.string s) (w.freeze ⟨g, 0, none⟩ s.size) := by
  have hl : s.data.toList.length = s.size := by simp
  have hb : (Lib.byteCells s.data.toList).length = s.size := by rw [Lib.byteCells_length, hl]
  have hne : s.data.toList ≠ [] := fun e => h0 (by rw [← hl, e]; rfl)
  have := Lib.run_unsafeString_row (P := Tryz.prog) w 175 3 9 5 Tryz.underlying175 hc g s.size (by unfold World.shape?; rw [h]; simp [hb]) s.data.toList hne (by omega) (by omega) (by
    intro j x hx
    have hj : j < s.data.toList.length := (List.getElem?_eq_some_iff.1 hx).1
    rw [Addr.add_lit]
    simp only [World.cell?, h, Nat.zero_add]
    simp [Lib.byteCells, hx])
  rwa [hl] at this

set_option maxRecDepth 100000 in
theorem stringslite_Clone_any (s : ByteArray) (w : World) (hlim : s.size ≤ 1099511627776) :
    Calls Tryz.prog 121 #[.string s] w fun e w' => e = .returned (.string s) ∧ Below w.heap.size w w' := by
  by_cases h0 : s.size = 0
  · obtain rfl : s = ByteArray.empty := by simpa using h0
    go_enter Tryz.func121, Tryz.ntmps121
    go_wp2
    go_ret
    exact ⟨rfl, Below.refl _ _⟩
  · obtain ⟨i0, hi, hz0, hz1, hz2⟩ := info_parts Tryz.info5
    have hinfo : (Tryz.prog.info? 5).map (·.size) = some 1 := by rw [hi]; simp [hz1]
    have hco : Tryz.prog.cellsOf 5 = 1 := by simp [Program.cellsOf, hi, hz1]
    have h0b : ((s.size : Int) == 0) = false := beq_eq_false_iff_ne.2 (by omega)
    have hpos : (0 : Int) < (s.size : Int) := by omega
    have H0 := hid h0
    clear h0
    go_enter Tryz.func121, Tryz.ntmps121
    go_wp2_with (at_make; refine wpList_make_full _ rfl _ _ 22 rfl w.heap.size 5 i0 (.int .u8 0) 1 Tryz.underlying22 hi hz0 hz1 _ _ _ _ s.size rfl rfl rfl rfl (by rw [hz2]; omega) (by unfold maxLen; omega) (Nat.le_refl _) ?_)
    intro w1 hown hgrow
    obtain ⟨L, hL, hG⟩ := own_row hown
    have hB1 : Below w.heap.size w w1 := (Below.refl _ _).grown hgrow (Nat.le_refl _) (fun k h => by cases h)
    have HL := hid hL
    have HG := hid hG
    have HCO := hid hco
    clear hown hgrow hi hz0 hz1 hz2 hL hG i0 hco
    go_wp2_with (refine wpList_copy_str rfl (.tmp 10) (.tmp 11) 22 9 rfl 5 Tryz.underlying22 hinfo _ _ _ rfl s rfl w.heap.size 0 L 5 HG.out (by omega) (fun _ => rfl) (by have := HL.out; omega) w.heap.size w hB1 (Nat.le_refl _) ?_; intro w2 HG2 hB2; have hus := run_row_string H0.out (by omega) HCO.out (row_one HL.out HG2.out))
    go_ret
    exact ⟨rfl, Lib.below_freeze hB2 (p := ⟨w.heap.size, 0, none⟩) (Nat.le_refl _) _⟩

theorem Clone_any (s : ByteArray) (w : World) (hlim : s.size ≤ 1099511627776) :
    Calls Tryz.prog 101 #[.string s] w fun e w' => e = .returned (.string s) ∧ Below w.heap.size w w' := by
  go_enter Tryz.func101, Tryz.ntmps101
  go_wp2_with (go_at_call 121; refine (stringslite_Clone_any s _ hlim).mono ?_; rintro e w1 ⟨rfl, hb⟩)
  go_ret
  exact ⟨rfl, hb⟩
end Go.Proofs.YtihpadabgfhegaaGreatDoor

/-
  What the method list of impl.marks answers: the texts that are counted, sorted, in a new row: a contract over the seat's program.
-/
namespace Go.Proofs.YtihpadabgfhegaaGreatDoor
open Go.RowKit Go.Maps Go.WideMaps Go.Sort

theorem encStr_txt (t : Tx) : txt ⟨t.toArray⟩ = t := by simp [txt]
theorem count_le' {l : List Tx} (t : Tx) : l.count t ≤ l.length := List.count_le_length
theorem one_str (s : ByteArray) : ∀ u ∈ [Value.string s], u.oneCell' = true := by
  intro u hu
  simp at hu
  subst hu; rfl
theorem own_cell {w : World} {base n : Nat} {e : TypeId} {a : Option Addr} {c : Nat} {ks : List Tx} (h : w.ownsRow base e 1 (.slice a n c) n (ks.map encStr)) {k : Nat} (hk : k < ks.length) : ∃ g, a = some ⟨g, 0, none⟩ ∧ base ≤ g ∧ g < w.heap.size ∧ w.cell? ⟨g, k, none⟩ = some (encStr ks[k]) := by
  rcases h.2 with ⟨h0, h1⟩ | ⟨g, cap, cur, hv, hb, hh, _⟩
  · have := h.1; rw [List.length_map, h1] at this; omega
  · injection hv with hv _ _
    subst hv
    have := h.cells (g := g) rfl k (encStr ks[k]) (by simp [hk])
    rw [Addr.add_lit, Nat.zero_add] at this
    exact ⟨g, rfl, hb, lt_heap hh, this⟩
set_option maxRecDepth 100000 in
set_option maxHeartbeats 2000000 in
theorem list_any (b n : Nat) (l : List Tx) (w : World) (h : MapAt w b n l) (hn : n ≤ 1048576) (hl : l.length ≤ 1048576) (hF : ∀ t ∈ l, t.length ≤ 1099511627776) :
    Calls Tryz.prog 102 #[.map (some b)] w fun e w' => ∃ a c, e = .returned (.slice a l.length c) ∧ w'.ownsRow w.heap.size 9 1 (.slice a l.length c) l.length ((srt l).map encStr) ∧ Below w.heap.size w w' := by
  obtain ⟨i0, hi, hz0, hz1, hz2⟩ := info_parts Tryz.infoStr
  have HM := hid h
  have HF := hid hF
  have cS := sorted_any b n l w h hn
  clear h hF
  go_enter Tryz.func102, Tryz.ntmps102
  go_wp2_with fail
  refine (keys_any (some b) _).mono ?_
  rintro e w1 ⟨rfl, rfl⟩
  go_wp2_with fail
  refine cS.mono ?_
  rintro e w2 ⟨v, ks, rfl, ⟨hnd, hm, hasc, hle, hkn⟩, hrow, hb2⟩
  obtain ⟨ak, ck, rfl⟩ := ownB_form hrow
  have HR := hid hrow
  have HB2 := hid (((Below.refl w.heap.size w).alloc (Nat.le_refl _) _).trans (hb2.mono (B' := w.heap.size) (by omega)))
  have HE := hid (expd_srt hnd hm hasc)
  have HK := hid (fun k => expd_len_le hnd hm hasc k)
  have HG := hid (fun t ht => (hm t).1 ht)
  have hkn' : ks.length ≤ 1048576 := by omega
  clear hrow hb2 cS hnd hm hasc hle hkn
  go_wp2
  go_loopw [3, 10] (fun o i wr => ∃ (k : Nat) (a : Option Addr) (c : Nat), k ≤ ks.length ∧ i = .int .i64 k ∧ o = .slice a (expd l (ks.take k)).length c ∧ wr.ownsRow w2.heap.size 9 1 (.slice a (expd l (ks.take k)).length c) (expd l (ks.take k)).length ((expd l (ks.take k)).map encStr) ∧ Below w2.heap.size w2 wr) (fun _ i _ => ks.length - (intOf i).toNat)
  case atStart => exact ⟨0, none, 0, Nat.zero_le _, rfl, rfl, World.ownsRow_nil _ _ _ _, Below.refl _ _⟩
  case round =>
    obtain ⟨k, a, c, hk, rfl, rfl, hown, hbel⟩ := hrel
    by_cases hlt : k < ks.length
    · obtain ⟨g, rfl, hg0, hg1, hcell⟩ := own_cell HR.out hlt
      have c0 := (hbel.cell (p := ⟨g, k, none⟩) hg1).trans hcell
      have HO := hid hown
      obtain ⟨D, hownM, hD⟩ := (HM.out.stay HB2.out).stay hbel
      have hsz0 := HF.out ks[k] (HG.out ks[k] (List.getElem_mem hlt))
      have hcl := count_le' (l := l) ks[k]
      have HT := hid (expd_take (l := l) hlt)
      have hX := HK.out (k + 1)
      rw [HT.out, List.length_append, List.length_replicate] at hX
      change _ = some (Value.string ⟨ks[k].toArray⟩) at c0
      generalize ks[k] = t at *
      have hsz : (ByteArray.mk t.toArray).size ≤ 1099511627776 := by show t.toArray.size ≤ _; simpa using hsz0
      have hkey := keyOf_string_mk Tryz.underlying9 (s := ⟨t.toArray⟩) (by unfold maxLen; omega)
      have HN := hid (fun (cc : Int) (hat : D.atKey (.string (ByteArray.mk t.toArray).data.toList) (.lit (.int .i64 0)) = .lit (.int .i64 cc)) => mapOf_at (t := t) hD hat)
      have HS := hid (show encStr t = .string ⟨t.toArray⟩ from rfl)
      generalize ByteArray.mk t.toArray = s at *
      clear hcell hD hown hsz0
      generalize l.count t = cn at *
      generalize expd l (ks.take k) = P at *
      go_wp2_with (first
        | (at_lookup; refine wpList_lookup_own_int _ rfl _ _ 134 rfl 9 2 .i64 Tryz.strKeyed Tryz.underlying134 Tryz.underlying2 (Tryz.zeroI64 _) b n D rfl hownM _ _ rfl hkey ?_; intro cc hat hwc; obtain rfl : cc = cn := HN.out cc hat; clear hat hwc)
        | fail)
      clear c0 hownM hkey HN
      go_loopw [3, 17] (fun o i wr => ∃ (j : Nat) (a : Option Addr) (c : Nat), j ≤ cn ∧ i = .int .i64 j ∧ o = .slice a (P ++ List.replicate j t).length c ∧ wr.ownsRow w2.heap.size 9 1 (.slice a (P ++ List.replicate j t).length c) (P ++ List.replicate j t).length ((P ++ List.replicate j t).map encStr) ∧ Below w2.heap.size w2 wr) (fun _ i _ => cn - (intOf i).toNat)
      case atStart => exact ⟨0, a, c, Nat.zero_le _, rfl, by simp, by simpa using HO.out, hbel⟩
      case round =>
        clear hbel HO
        obtain ⟨j, a, c, hj, rfl, rfl, hown, hbel⟩ := hrel
        by_cases hjl : j < cn
        · have HO := hid hown
          have HPL := hid (show (P ++ List.replicate j t).length = P.length + j by simp)
          have HPN := hid (show (P ++ List.replicate (j + 1) t) = (P ++ List.replicate j t) ++ [t] by rw [List.replicate_succ', List.append_assoc])
          clear hown
          generalize P ++ List.replicate j t = Q at *
          go_wp2_with fail
          refine (Clone_any s _ hsz).mono ?_
          rintro e w3 ⟨rfl, hb3⟩
          have HO3 := hid (ownB_stay HO.out hb3)
          have HB3 := hid (hbel.trans (hb3.mono hbel.size))
          have hz3 := HB3.out.size
          clear hb3 hbel HO
          go_wp2_with (first | (at_builtin; refine wpList_append_own _ rfl _ _ 23 rfl w2.heap.size 9 i0 _ 1 16 Tryz.underlying23 hi hz0 hz1 hz2 rfl (by decide) _ _ _ rfl (HO3.out.alloc _) ⟨w3.heap.size, 0, none⟩ 1 1 [.string s] rfl rfl ?c1 ?c2 ?c3 ?c4 ?c5 ?_) | fail)
          case c1 => exact cell_one_new _ _ _
          case c2 => exact one_str s
          case c3 => have := HPL.out; unfold maxLen; omega
          case c4 => have := HPL.out; omega
          case c5 => simp; omega
          intro v' w4 hown4 hgrow _
          obtain ⟨a', c', rfl⟩ := ownB_form hown4
          have HB4 := hid ((HB3.out.alloc hz3 _).grown hgrow (by simp; omega) (fun g hg => (HO3.out.lt g hg).1))
          have HO4 := hid (show w4.ownsRow w2.heap.size 9 1 (.slice a' (Q ++ [t]).length c') (Q ++ [t]).length ((Q ++ [t]).map encStr) by
            rw [List.length_append, List.map_append]; rw [← HS.out] at hown4; exact hown4)
          clear hown4 hgrow HO3 HB3
          go_wp2
          go_roundw
          case rel => exact ⟨j + 1, a', c', by omega, by go_num, by rw [HPN.out, List.length_append]; rfl, by rw [HPN.out]; exact HO4.out, HB4.out⟩
          case measure => simp [intOf]; omega
        · have hjc : j = cn := by omega
          have HO := hid hown
          rw [hjc, ← HT.out] at HO
          have HJ := hid (show (P ++ List.replicate j t).length = (expd l (ks.take (k + 1))).length by rw [hjc, HT.out])
          clear hown hjc
          go_wp2
          go_roundw
          case rel => exact ⟨k + 1, a, c, by omega, by go_num, by rw [HJ.out], HO.out, hbel⟩
          case measure => simp [intOf]; omega
    · have hk' : k = ks.length := by omega
      have HX := hid (show expd l (ks.take k) = srt l by rw [hk', List.take_of_length_le (Nat.le_refl _)]; exact HE.out)
      have HO := hid hown
      clear hk' hown
      go_wp2
      go_ret
      rw [HX.out] at HO
      have := HO.out
      rw [srt_len] at this
      refine ⟨a, c, ?_, ownB_le this HB2.out.size, HB2.out.trans (hbel.mono HB2.out.size)⟩
      show Ending.returned (.slice a (expd l (ks.take k)).length c) = _
      rw [HX.out, srt_len]
end Go.Proofs.YtihpadabgfhegaaGreatDoor
