/-
  Texts put together: QuR, QuN, Clone.
-/
import Derived.Test.YtimlnbfalnkmhaaGreatDoorZMark4
import Derived.Test.YtimlnbfalnkmhaaGreatDoorZQuI3
import Derived.BigQuiet
import Derived.Deep.QuietTactic
import Derived.Test.YtimlnbfalnkmhaaGreatDoorZKd2
import Derived.Test.YtimlnbfalnkmhaaGreatDoorZGen2
/-
  Queries: what (*impl.reader).now, must, meets answer: contracts over the seat's program.
-/
namespace Go.Proofs.YtimlnbfalnkmhaaGreatDoor
open Go.RowKit

theorem bel_drewN {B : Nat} {w w' : World} (h : Below B w w') (n : Nat) : Below B w (w'.drewN n) := ⟨h.os, h.tape, h.output, h.size, h.block⟩
abbrev errQ (a : Addr) : Value := .iface 259 (.pointer (some a))
structure RdI (w : World) (b : Nat) (sv : Value) (ws : List ByteArray) (k : Nat) (a : Addr) : Prop where
  hb : w.heap[b]? = some (.cells [sv, .int .i64 (k : Int)].toArray 75 (0, 0))
  hw : WdAt w b sv ws
  le : k ≤ ws.length
  er : w.cell? ⟨0, 0, none⟩ = some (errQ a)
  ge : 0 < b
  kn : KNames w
  gk : 1 < b
  sz : ∀ x ∈ ws, x.size ≤ 8000
  ln : ws.length ≤ 8001
theorem RdI.next {w w' : World} {b : Nat} {sv : Value} {ws : List ByteArray} {k k' : Nat} {a : Addr} (h : RdI w b sv ws k a) (hg : w.grownBy w' (some b)) (hb : w'.heap[b]? = some (.cells [sv, .int .i64 (k' : Int)].toArray 75 (0, 0))) (hk : k' ≤ ws.length) : RdI w' b sv ws k' a := by
  have hbl := lt_heap h.hb
  have g1 : ∀ o, w'.cell? ⟨0, o, none⟩ = w.cell? ⟨0, o, none⟩ := cell_blk (hg.block _ (Nat.lt_trans h.ge hbl) (fun e => by have := h.ge; have := Option.some.inj e; omega))
  have g2 : ∀ o, w'.cell? ⟨1, o, none⟩ = w.cell? ⟨1, o, none⟩ := cell_blk (hg.block _ (Nat.lt_trans h.gk hbl) (fun e => by have := h.gk; have := Option.some.inj e; omega))
  exact ⟨hb, h.hw.grown hg, hk, (g1 0).trans h.er, h.ge, ⟨(g2 0).trans h.kn.c0, (g2 1).trans h.kn.c1, (g2 2).trans h.kn.c2, (g2 3).trans h.kn.c3, (g2 4).trans h.kn.c4, (g2 5).trans h.kn.c5⟩, h.gk, h.sz, h.ln⟩
theorem RdI.below {w w' : World} {b : Nat} {sv : Value} {ws : List ByteArray} {k : Nat} {a : Addr} (h : RdI w b sv ws k a) (hg : Below w.heap.size w w') : RdI w' b sv ws k a :=
  h.next (grown_below hg) ((hg.block b (lt_heap h.hb)).trans h.hb) h.le
theorem RdI.word {w : World} {b : Nat} {sv : Value} {ws : List ByteArray} {k : Nat} {a : Addr} (h : RdI w b sv ws k a) : (nw ws k).size ≤ 8000 := by
  rcases Nat.lt_or_ge k ws.length with h' | h'
  · rw [nw_in h']; exact h.sz _ (List.getElem_mem h')
  · rw [nw_out h']; decide

set_option maxRecDepth 100000 in
theorem now_any {b k : Nat} {sv : Value} {ws : List ByteArray} {a : Addr} (w : World) (h : RdI w b sv ws k a) :
    Calls Tryz.prog 139 #[.pointer (some ⟨b, 0, none⟩)] w fun e w' => e = .returned (.string (nw ws k)) ∧ Below w.heap.size w w' := by
  obtain ⟨a', c, rfl, hc⟩ := h.hw
  have e0 : w.cell? ⟨b, 0, none⟩ = some (.slice a' ws.length c) := by rw [Lib.cell_of_heap h.hb]; rfl
  have e1 : w.cell? ⟨b, 1, none⟩ = some (.int .i64 (k : Int)) := by rw [Lib.cell_of_heap h.hb]; rfl
  have hle := h.le
  by_cases hk : k < ws.length
  · obtain ⟨g, o, rfl, _, _, hx⟩ := hc k hk
    have hn := hid (nw_in hk)
    have zz : (k : Int) < (ws.length : Int) := by omega
    have z0 : ((k : Int) == (ws.length : Int)) = false := by rw [beq_eq_false_iff_ne]; omega
    generalize ws[k] = S at *
    clear hc h
    go_enter Tryz.func139, Tryz.ntmps139
    go_wp2
    go_quiet (fail)
    go_wp2
    go_quiet (fail)
    go_wp2
    go_ret
    exact ⟨ret_str hn.out.symm, bel_drewN (bel_drewN (Below.refl _ _) _) _⟩
  · obtain rfl : k = ws.length := by omega
    have hn := hid (nw_out (Nat.le_refl ws.length))
    have z0 : ((ws.length : Int) == (ws.length : Int)) = true := by simp
    clear hc h
    go_enter Tryz.func139, Tryz.ntmps139
    go_wp2
    go_quiet (fail)
    go_wp2
    go_ret
    exact ⟨ret_str hn.out.symm, bel_drewN (Below.refl _ _) _⟩
theorem must_yes (b : Nat) (w : World) :
    Calls Tryz.prog 96 #[.pointer (some ⟨b, 0, none⟩), .bool true] w fun e w' => e = .returned (.tuple #[]) ∧ w' = w := by
  go_enter Tryz.func96, Tryz.ntmps96
  go_wp2
  go_end0
  exact ⟨rfl, rfl⟩
theorem must_no {a : Addr} (b : Nat) (w : World) (h : w.cell? ⟨0, 0, none⟩ = some (errQ a)) :
    Calls Tryz.prog 96 #[.pointer (some ⟨b, 0, none⟩), .bool false] w fun e w' => e = .panicked [{ v := errQ a, recovered := false }] ∧ w' = w := by
  go_enter Tryz.func96, Tryz.ntmps96
  go_wp2
  exact ⟨rfl, rfl, rfl⟩
theorem RdI.step {w : World} {b : Nat} {sv : Value} {ws : List ByteArray} {k : Nat} {a : Addr} (h : RdI w b sv ws k a) (hk : k < ws.length) : RdI (w.setCell ⟨b, 1, none⟩ (.int .i64 ((k : Int) + 1))) b sv ws (k + 1) a ∧ w.grownBy (w.setCell ⟨b, 1, none⟩ (.int .i64 ((k : Int) + 1))) (some b) :=
  ⟨h.next (grown_set w b 1 _) (by have := blk_set (i := 1) h.hb (.int .i64 ((k : Int) + 1)); simpa using this) (by omega), grown_set w b 1 _⟩
set_option maxRecDepth 100000 in
theorem meets_yes {b k : Nat} {sv : Value} {ws : List ByteArray} {a : Addr} (t : ByteArray) (w : World) (h : RdI w b sv ws k a) (hk : k < ws.length) (ht : nw ws k = t) :
    Calls Tryz.prog 95 #[.pointer (some ⟨b, 0, none⟩), .string t] w fun e w' => e = .returned (.bool true) ∧ RdI w' b sv ws (k + 1) a ∧ w.grownBy w' (some b) := by
  have c1 := now_any w h
  have hq : (t.toList == t.toList) = true := by simp
  rw [ht] at c1
  have H := hid h
  have hl := h.ln
  clear h
  go_enter Tryz.func95, Tryz.ntmps95
  go_wp2_with (go_at_call 139; refine c1.mono ?_; rintro e w1 ⟨rfl, hb⟩; have h1 := hid (H.out.below hb); have hs := hid (h1.out.step hk); have hg := hid (grown_trans (grown_below hb) hs.out.2); have e1 : w1.cell? ⟨b, 1, none⟩ = some (.int .i64 (k : Int)) := (by rw [Lib.cell_of_heap h1.out.hb]; rfl); have f1 : w1.frozen? ⟨b, 1, none⟩ = false := Lib.frozen_of_heap h1.out.hb 1; clear hb)
  go_ret
  exact ⟨rfl, hs.out.1, hg.out⟩
theorem meets_no {b k : Nat} {sv : Value} {ws : List ByteArray} {a : Addr} (t : ByteArray) (w : World) (h : RdI w b sv ws k a) (ht : nw ws k ≠ t) :
    Calls Tryz.prog 95 #[.pointer (some ⟨b, 0, none⟩), .string t] w fun e w' => e = .returned (.bool false) ∧ RdI w' b sv ws k a ∧ w.grownBy w' (some b) := by
  have c1 := now_any w h
  have hq : ((nw ws k).toList == t.toList) = false := str_ne ht
  clear ht
  generalize nw ws k = S at *
  have H := hid h
  clear h
  go_enter Tryz.func95, Tryz.ntmps95
  go_wp2_with (go_at_call 139; refine c1.mono ?_; rintro e w1 ⟨rfl, hb⟩)
  go_ret
  exact ⟨rfl, H.out.below hb, grown_below hb⟩
end Go.Proofs.YtimlnbfalnkmhaaGreatDoor

/-
  Queries: the number that a word writes, as impl.numberIn answers it: a contract over the seat's program.
-/
namespace Go.Proofs.YtimlnbfalnkmhaaGreatDoor
open Go.RowKit

set_option maxHeartbeats 1000000 in
theorem numberIn_any (t : ByteArray) (w : World) :
    Calls Tryz.prog 141 #[.string t] w fun e w' => e = .returned (.int .i64 (numN t)) ∧ w' = w := by
  by_cases h1 : 1 ≤ t.size
  · by_cases h7 : t.size ≤ 7
    · have z1 : ¬ ((t.size : Int) < 1) := by omega
      have z2 : ¬ (7 < (t.size : Int)) := by omega
      go_enter Tryz.func141, Tryz.ntmps141
      go_wp2
      go_loop [3, 4] (fun n i => ∃ k : Nat, i = .int .i64 (k : Int) ∧ k ≤ t.size ∧ Hid (digs t k) ∧ n = .int .i64 (pv t k)) (fun _ i => t.size - (intOf i).toNat)
      case atStart => exact ⟨0, rfl, Nat.zero_le _, hid (fun j hj => by omega), rfl⟩
      case round =>
        obtain ⟨k, rfl, hk, hd, rfl⟩ := hrel
        by_cases hlt : k < t.size
        · have zk : (k : Int) < (t.size : Int) := by omega
          have bd := pv_bd t k hk hd.out
          have b7 : pv t k < 10000000 := by
            have hp : (10 : Nat) ^ k ≤ 10 ^ 7 := Nat.pow_le_pow_right (by decide) (by omega)
            have : (10 : Int) ^ k ≤ 10 ^ 7 := by exact_mod_cast hp
            omega
          have hps := pv_succ t k hlt
          have hst := fun h => digs_step hlt hd.out h
          have hat := fun h => numN_at hlt h
          have hu := t[k].toNat_lt
          have b0 := bd.1
          clear bd
          generalize hN : pv t (k + 1) = N at *
          generalize pv t k = M at *
          by_cases hc : digC (t[k].toNat : Int) = true
          · have hc' := hc
            simp only [digC, Bool.and_eq_true, decide_eq_true_eq] at hc'
            have q1 : ¬ ((t[k].toNat : Int) < 48) := by omega
            have q2 : ¬ (57 < (t[k].toNat : Int)) := by omega
            go_wp2
            go_round
            case rel => exact ⟨k + 1, by push_cast; rfl, by omega, hid (hst hc), by rw [hN, hps]⟩
            case measure => simp [intOf]; omega
          · have hcf : digC (t[k].toNat : Int) = false := by simpa using hc
            have hv := hat hcf
            by_cases q1 : (t[k].toNat : Int) < 48
            · go_wp2
              go_ret
              exact ⟨rfl, rfl⟩
            · have q2 : 57 < (t[k].toNat : Int) := by
                simp only [digC, Bool.and_eq_false_iff, decide_eq_false_iff_not] at hcf
                omega
              go_wp2
              go_ret
              exact ⟨rfl, rfl⟩
        · obtain rfl : k = t.size := by omega
          go_wp2
          go_ret
          exact ⟨ret_int (numN_yes h1 h7 hd.out).symm, rfl⟩
    · rw [numN_no (fun e => h7 e.2)]
      have z1 : ¬ ((t.size : Int) < 1) := by omega
      have z2 : 7 < (t.size : Int) := by omega
      go_enter Tryz.func141, Tryz.ntmps141
      go_wp2
      go_ret
      exact ⟨rfl, rfl⟩
  · rw [numN_no (fun e => h1 e.1)]
    have z1 : (t.size : Int) < 1 := by omega
    go_enter Tryz.func141, Tryz.ntmps141
    go_wp2
    go_ret
    exact ⟨rfl, rfl⟩
end Go.Proofs.YtimlnbfalnkmhaaGreatDoor

/-
  What strings.Clone answers: the same bytes, in a new row: a contract over the seat's program.
-/
namespace Go.Proofs.YtimlnbfalnkmhaaGreatDoor
open Go.RowKit

/-- A row of bytes made into a string by Go's own builtin: its run, out of the row's one fact. -/
theorem run_row_string {w : World} {g : Nat} {s : ByteArray} (h0 : ¬ s.size = 0) (h63 : s.size ≤ 9223372036854775807) (hc : Tryz.prog.cellsOf 5 = 1)
    (h : w.heap[g]? = some (.cells (Lib.byteCells s.data.toList).toArray 5 (0, 0))) :
    (Builtin.unsafeString_ #[171, 3] 9 #[.pointer (some ⟨g, 0, none⟩), .int .i64 (s.size : Int)]).run Tryz.prog w = .ok (.string s) (w.freeze ⟨g, 0, none⟩ s.size) := by
  have hl : s.data.toList.length = s.size := by simp
  have hb : (Lib.byteCells s.data.toList).length = s.size := by rw [Lib.byteCells_length, hl]
  have hne : s.data.toList ≠ [] := fun e => h0 (by rw [← hl, e]; rfl)
  have := Lib.run_unsafeString_row (P := Tryz.prog) w 171 3 9 5 Tryz.underlying171 hc g s.size (by unfold World.shape?; rw [h]; simp [hb]) s.data.toList hne (by omega) (by omega) (by
    intro j x hx
    have hj : j < s.data.toList.length := (List.getElem?_eq_some_iff.1 hx).1
    rw [Addr.add_lit]
    simp only [World.cell?, h, Nat.zero_add]
    simp [Lib.byteCells, hx])
  rwa [hl] at this

set_option maxRecDepth 100000 in
theorem stringslite_Clone_any (s : ByteArray) (w : World) (hlim : s.size ≤ 1099511627776) :
    Calls Tryz.prog 151 #[.string s] w fun e w' => e = .returned (.string s) ∧ Below w.heap.size w w' := by
  by_cases h0 : s.size = 0
  · obtain rfl : s = ByteArray.empty := by simpa using h0
    go_enter Tryz.func151, Tryz.ntmps151
    go_wp2
    go_ret
    exact ⟨rfl, Below.refl _ _⟩
  · obtain ⟨i0, hi, hz0, hz1, hz2⟩ := info_parts Tryz.info5
    have hinfo : (Tryz.prog.info? 5).map (·.size) = some 1 := by rw [hi]; simp [hz1]
    have hco : Tryz.prog.cellsOf 5 = 1 := by simp [Program.cellsOf, hi, hz1]
    have h0b : ((s.size : Int) == 0) = false := beq_eq_false_iff_ne.2 (by omega)
    have hpos : (0 : Int) < (s.size : Int) := by omega
    have H0 := hid h0
    clear h0
    go_enter Tryz.func151, Tryz.ntmps151
    go_wp2_with (at_make; refine wpList_make_full _ rfl _ _ 22 rfl w.heap.size 5 i0 (.int .u8 0) 1 Tryz.underlying22 hi hz0 hz1 _ _ _ _ s.size rfl rfl rfl rfl (by rw [hz2]; omega) (by unfold maxLen; omega) (Nat.le_refl _) ?_)
    intro w1 hown hgrow
    obtain ⟨L, hL, hG⟩ := own_row hown
    have hB1 : Below w.heap.size w w1 := (Below.refl _ _).grown hgrow (Nat.le_refl _) (fun k h => by cases h)
    have HL := hid hL
    have HG := hid hG
    have HCO := hid hco
    clear hown hgrow hi hz0 hz1 hz2 hL hG i0 hco
    go_wp2_with (refine wpList_copy_str rfl (.tmp 10) (.tmp 11) 22 9 rfl 5 Tryz.underlying22 hinfo _ _ _ rfl s rfl w.heap.size 0 L 5 HG.out (by omega) (fun _ => rfl) (by have := HL.out; omega) w.heap.size w hB1 (Nat.le_refl _) ?_; intro w2 HG2 hB2; have hus := run_row_string H0.out (by omega) HCO.out (row_one HL.out HG2.out))
    go_ret
    exact ⟨rfl, Lib.below_freeze hB2 (p := ⟨w.heap.size, 0, none⟩) (Nat.le_refl _) _⟩

theorem Clone_any (s : ByteArray) (w : World) (hlim : s.size ≤ 1099511627776) :
    Calls Tryz.prog 123 #[.string s] w fun e w' => e = .returned (.string s) ∧ Below w.heap.size w w' := by
  go_enter Tryz.func123, Tryz.ntmps123
  go_wp2_with (go_at_call 151; refine (stringslite_Clone_any s _ hlim).mono ?_; rintro e w1 ⟨rfl, hb⟩)
  go_ret
  exact ⟨rfl, hb⟩
end Go.Proofs.YtimlnbfalnkmhaaGreatDoor
