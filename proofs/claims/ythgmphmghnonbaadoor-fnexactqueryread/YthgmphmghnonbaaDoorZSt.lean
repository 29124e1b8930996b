/-
  Texts put together: Mark, StpC, SpAp, Clone.
-/
import Derived.Test.YthgmphmghnonbaaDoorZGen
import Derived.Deep.RegionLaw
/-
  What laws.markText answers, for every number from 1 on: a contract over the seat's program.
-/
namespace Go.Proofs.YthgmphmghnonbaaDoor
open Go.RowKit

def digS (k : Nat) : ByteArray := ⟨[UInt8.ofNat (48 + k % 10)].toArray⟩
theorem digS_size (k : Nat) : (digS k).size = 1 := rfl
/-- The digits of a number ahead of a text. -/
def decT : Nat → Nat → ByteArray → ByteArray
  | 0, _, acc => acc
  | f + 1, k, acc => if k = 0 then acc else decT f (k / 10) (digS k ++ acc)
theorem decT_zero (f : Nat) (acc : ByteArray) : decT f 0 acc = acc := by cases f <;> simp [decT]
theorem decT_more {f k : Nat} (h : 0 < k) (acc : ByteArray) : decT (f + 1) k acc = decT f (k / 10) (digS k ++ acc) := by
  simp [decT, show ¬ k = 0 by omega]
def markT (k : Int) : ByteArray := ⟨#[109]⟩ ++ decT 20 k.toNat ByteArray.empty
theorem pow_down {f k : Nat} (hk : k < 10 ^ f) (h : 0 < k) : ∃ g, f = g + 1 ∧ k / 10 < 10 ^ g := by
  cases f with
  | zero => simp at hk; omega
  | succ g => exact ⟨g, rfl, by rw [Nat.pow_succ] at hk; omega⟩

set_option maxRecDepth 100000 in
set_option maxHeartbeats 400000 in
theorem markText_any (k : Int) (w : World) (h1 : 0 < k) (h2 : k ≤ 1000000000) :
    Calls Tryd.prog 48 #[.int .i64 k] w fun e w' => e = .returned (.string (markT k)) ∧ Below w.heap.size w w' := by
  obtain ⟨K, rfl⟩ := Int.eq_ofNat_of_zero_le (show 0 ≤ k by omega)
  unfold markT
  rw [Int.toNat_natCast]
  obtain ⟨D, hD⟩ : ∃ D, decT 20 K ByteArray.empty = D := ⟨_, rfl⟩
  rw [hD]
  have HD := hid hD
  clear hD
  go_enter Tryd.func48, Tryd.ntmps48
  go_wp2
  go_loopw [0, 3] (fun kv o wr => ∃ (m f : Nat) (acc : ByteArray), kv = .int .i64 m ∧ o = .string acc ∧ m < 10 ^ f ∧ f ≤ 20 ∧ acc.size + f ≤ 20 ∧ m ≤ 1000000000 ∧ decT f m acc = D ∧ Below w.heap.size w wr) (fun kv _ _ => (intOf kv).toNat)
  case atStart => exact ⟨K, 20, ByteArray.empty, rfl, rfl, by omega, Nat.le_refl _, by simp, by omega, HD.out, Below.refl _ _⟩
  case round =>
    obtain ⟨m, f, acc, rfl, rfl, hm, hf, hs, hm6, hdd, hbel⟩ := hrel
    have HDD := hid hdd
    have HM := hid hm
    clear hdd hm
    by_cases hlt : 0 < m
    · obtain ⟨g, rfl, hg⟩ := pow_down HM.out hlt
      rw [decT_more hlt] at HDD
      have hcv : (convert 74 9 (.slice (some ⟨wr.heap.size, 0, none⟩) 1 1)).run Tryd.prog (wr.alloc (.cells #[.int .u8 (48 + (m : Int) % 10)] 5)) = .ok (.string (digS m)) (wr.alloc (.cells #[.int .u8 (48 + (m : Int) % 10)] 5)) :=
        conv_row (P := Tryd.prog) (l := [UInt8.ofNat (48 + m % 10)]) 74 9 Tryd.underlying74 Tryd.underlying5 Tryd.underlying9 rfl (by
          have e : (Lib.byteCells [UInt8.ofNat (48 + m % 10)]).toArray = #[.int .u8 (48 + (m : Int) % 10)] := by
            simp [Lib.byteCells]; omega
          rw [e]; exact heap_alloc_new wr _)
      have hds := digS_size m
      generalize digS m = S at *
      have HG := hid hg
      clear hg HM
      go_wp2
      refine ⟨⟨m / 10, g, S ++ acc, by go_num, rfl, HG.out, by omega, by rw [ByteArray.size_append]; omega, by omega, HDD.out, hbel.alloc hbel.size _⟩, by simp [intOf]; omega⟩
    · have hm0 : m = 0 := by omega
      subst hm0
      rw [decT_zero] at HDD
      have hDS := HDD.out
      subst hDS
      go_wp2
      go_ret
      exact ⟨rfl, hbel⟩
end Go.Proofs.YthgmphmghnonbaaDoor

/-
  A call of a Go function as one operation of a region that draws. Of no function.
-/
namespace Go.Proofs.YthgmphmghnonbaaDoor
open Go.RowKit

theorem step_call {P : Program} {w : World} {ops : Array Oper} {o : Oper} {a : Act} {K : Act → World → Prop} {Q : Exit → Act → World → Prop} {E : Prop} (hgd : o.guard = none) (f : FuncId) (args : Array Operand) (tys : Array TypeId)
    (ho : o.op = .call { callee := .value (.func f), args := args, argTypes := tys }) (vs : Array Value) (hv : args.map a.eval = vs) (hen : (callFunc f vs).run P w = .ok (.enter f vs) w)
    (h : Calls P f vs w fun e w' => ∃ v, e = .returned v ∧ K (a.put o.dst v) w') :
    if Region.wanted o (yielded ops a.tmps) = true then Oper.wp P o a w K Q else E := by
  rw [if_pos (show Region.wanted o (yielded ops a.tmps) = true by simp [Region.wanted, hgd])]
  unfold Oper.wp
  simp [go_sem, execOp, ho, resolve, invoke, hv, hen, Act.eval, Deferred.ofValue]
  refine h.mono ?_
  rintro e w' ⟨v, rfl, hK⟩
  exact hK
end Go.Proofs.YthgmphmghnonbaaDoor

/-
  append onto a row of one's own, as one operation of a region that draws. Of no function.
-/
namespace Go.Proofs.YthgmphmghnonbaaDoor
open Go.RowKit

theorem step_append_own {P : Program} {w : World} {ops : Array Oper} {o : Oper} {a : Act} {K : Act → World → Prop} {Q : Exit → Act → World → Prop} {E : Prop} (hgd : o.guard = none) (s x : Operand) (t : TypeId)
    (ho : o.op = .call { callee := .builtin .append, args := #[s, x], argTypes := #[t, t] })
    (base : Nat) (e : TypeId) (i : TypeInfo) (z : Value) (size bytes : Nat) (ht : P.underlying t = some (.slice e)) (hi : P.info? e = some i) (hz : i.zero = some z)
    (hsize : i.size = size) (hby : i.bytes = bytes) (hzs : z.cells.size = size) (hsz : 0 < size)
    (v : Value) (n : Nat) (xs : List Value) (hs : a.eval s = v) (hown : w.ownsRow base e size v n xs)
    (ad : Addr) (m c : Nat) (news : List Value) (hx : a.eval x = .slice (some ad) m c) (hl : news.length = m * size) (hnews : ∀ j u, news[j]? = some u → w.cell? (ad.add j) = some u) (h1 : ∀ u ∈ news, u.oneCell' = true)
    (h63 : n + m ≤ maxLen) (hbytes : (n + m) * bytes ≤ 140737488355328) (hbase : base ≤ w.heap.size)
    (h : ∀ v' w', w'.ownsRow base e size v' (n + m) (xs ++ news) → w.grownBy w' v.ownBlock → (v' = .slice none 0 0 ↔ v = .slice none 0 0 ∧ m = 0) → K (a.put o.dst v') w') :
    if Region.wanted o (yielded ops a.tmps) = true then Oper.wp P o a w K Q else E := by
  rw [if_pos (show Region.wanted o (yielded ops a.tmps) = true by simp [Region.wanted, hgd])]
  exact wp_append_own w s x t ho base e i z size bytes ht hi hz hsize hby hzs hsz v n xs hs hown ad m c news hx hl hnews h1 h63 hbytes hbase h
end Go.Proofs.YthgmphmghnonbaaDoor

/-
  What strings.Clone answers: the same bytes, in a new row: a contract over the seat's program.
-/
namespace Go.Proofs.YthgmphmghnonbaaDoor
open Go.RowKit

/-- A row of bytes made into a string by Go's own builtin: its run, out of the row's one fact. -/
theorem run_row_string {w : World} {g : Nat} {s : ByteArray} (h0 : ¬ s.size = 0) (h63 : s.size ≤ 9223372036854775807) (hc : Tryd.prog.cellsOf 5 = 1)
    (h : w.heap[g]? = some (.cells (Lib.byteCells s.data.toList).toArray 5 (0, 0))) :
    (Builtin.unsafeString_ #[75, 3] 9 #[.pointer (some ⟨g, 0, none⟩), .int .i64 (s.size : Int)]).run Tryd.prog w = .ok (.string s) (w.freeze ⟨g, 0, none⟩ s.size) := by
  have hl : s.data.toList.length = s.size := by simp
  have hb : (Lib.byteCells s.data.toList).length = s.size := by rw [Lib.byteCells_length, hl]
  have hne : s.data.toList ≠ [] := fun e => h0 (by rw [← hl, e]; rfl)
  have := Lib.run_unsafeString_row (P := Tryd.prog) w 75 3 9 5 Tryd.underlying75 hc g s.size (by unfold World.shape?; rw [h]; simp [hb]) s.data.toList hne (by omega) (by omega) (by
    intro j x hx
    have hj : j < s.data.toList.length := (List.getElem?_eq_some_iff.1 hx).1
    rw [Addr.add_lit]
    simp only [World.cell?, h, Nat.zero_add]
    simp [Lib.byteCells, hx])
  rwa [hl] at this

set_option maxRecDepth 100000 in
theorem stringslite_Clone_any (s : ByteArray) (w : World) (hlim : s.size ≤ 1099511627776) :
    Calls Tryd.prog 55 #[.string s] w fun e w' => e = .returned (.string s) ∧ Below w.heap.size w w' := by
  by_cases h0 : s.size = 0
  · obtain rfl : s = ByteArray.empty := by simpa using h0
    go_enter Tryd.func55, Tryd.ntmps55
    go_wp2
    go_ret
    exact ⟨rfl, Below.refl _ _⟩
  · obtain ⟨i0, hi, hz0, hz1, hz2⟩ := info_parts Tryd.info5
    have hinfo : (Tryd.prog.info? 5).map (·.size) = some 1 := by rw [hi]; simp [hz1]
    have hco : Tryd.prog.cellsOf 5 = 1 := by simp [Program.cellsOf, hi, hz1]
    have h0b : ((s.size : Int) == 0) = false := beq_eq_false_iff_ne.2 (by omega)
    have hpos : (0 : Int) < (s.size : Int) := by omega
    have H0 := hid h0
    clear h0
    go_enter Tryd.func55, Tryd.ntmps55
    go_wp2_with (at_make; refine wpList_make_full _ rfl _ _ 74 rfl w.heap.size 5 i0 (.int .u8 0) 1 Tryd.underlying74 hi hz0 hz1 _ _ _ _ s.size rfl rfl rfl rfl (by rw [hz2]; omega) (by unfold maxLen; omega) (Nat.le_refl _) ?_)
    intro w1 hown hgrow
    obtain ⟨L, hL, hG⟩ := own_row hown
    have hB1 : Below w.heap.size w w1 := (Below.refl _ _).grown hgrow (Nat.le_refl _) (fun k h => by cases h)
    have HL := hid hL
    have HG := hid hG
    have HCO := hid hco
    clear hown hgrow hi hz0 hz1 hz2 hL hG i0 hco
    go_wp2_with (refine wpList_copy_str rfl (.tmp 10) (.tmp 11) 74 9 rfl 5 Tryd.underlying74 hinfo _ _ _ rfl s rfl w.heap.size 0 L 5 HG.out (by omega) (fun _ => rfl) (by have := HL.out; omega) w.heap.size w hB1 (Nat.le_refl _) ?_; intro w2 HG2 hB2; have hus := run_row_string H0.out (by omega) HCO.out (row_one HL.out HG2.out))
    go_ret
    exact ⟨rfl, Lib.below_freeze hB2 (p := ⟨w.heap.size, 0, none⟩) (Nat.le_refl _) _⟩

theorem Clone_any (s : ByteArray) (w : World) (hlim : s.size ≤ 1099511627776) :
    Calls Tryd.prog 44 #[.string s] w fun e w' => e = .returned (.string s) ∧ Below w.heap.size w w' := by
  go_enter Tryd.func44, Tryd.ntmps44
  go_wp2_with (go_at_call 55; refine (stringslite_Clone_any s _ hlim).mono ?_; rintro e w1 ⟨rfl, hb⟩)
  go_ret
  exact ⟨rfl, hb⟩
end Go.Proofs.YthgmphmghnonbaaDoor
