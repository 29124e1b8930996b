/-
  What spec.l04Add answers: a lasting put to a step's, in a new row: a contract over the seat's program.
-/
import Derived.Test.YthggcdadipjiiaaGreatDoorZDuG2
import Derived.Deep.CutBlock
namespace Go.Proofs.YthggcdadipjiiaaGreatDoor
open Go.RowKit Go.Sort
set_option linter.unusedVariables false

theorem Tryz.infoDur : (Tryz.prog.info? 35).map (fun i => (i.zero, i.size, i.bytes)) = some (some (.agg #[.string ⟨#[]⟩, .int .i64 0, .int .i64 0, .int .i64 0, .int .i64 0]), 5, 48) := by kernel_rfl
theorem l01Max_sp (x y : Int) (w : World) : Calls Tryz.prog 72 #[.int .i64 x, .int .i64 y] w fun e w' => e = .returned (.int .i64 (maxI x y)) ∧ w' = w := by
  unfold maxI
  by_cases h : y < x
  · rw [if_pos h]
    go_enter Tryz.func72, Tryz.ntmps72
    go_wp2
    go_ret
    exact ⟨rfl, rfl⟩
  · rw [if_neg h]
    go_enter Tryz.func72, Tryz.ntmps72
    go_wp2
    go_ret
    exact ⟨rfl, rfl⟩
theorem l01Min_sp (x y : Int) (w : World) : Calls Tryz.prog 71 #[.int .i64 x, .int .i64 y] w fun e w' => e = .returned (.int .i64 (minI x y)) ∧ w' = w := by
  unfold minI
  by_cases h : x < y
  · rw [if_pos h]
    go_enter Tryz.func71, Tryz.ntmps71
    go_wp2
    go_ret
    exact ⟨rfl, rfl⟩
  · rw [if_neg h]
    go_enter Tryz.func71, Tryz.ntmps71
    go_wp2
    go_ret
    exact ⟨rfl, rfl⟩
theorem own_made5 (w : World) (T : TypeId) : (w.alloc (.cells #[] T)).ownsRow w.heap.size T 5 (.slice (some ⟨w.heap.size, 0, none⟩) 0 0) 0 [] :=
  ⟨rfl, .inr ⟨w.heap.size, 0, #[], rfl, Nat.le_refl _, by show (w.heap.push (Obj.cells #[] T))[w.heap.size]? = some _; simp, Nat.le_refl _, Nat.zero_le _, rfl, rfl⟩⟩
theorem own_some' {w : World} {base size n c : Nat} {e : TypeId} {a : Option Addr} {xs : List Value} (h : w.ownsRow base e size (.slice a n c) n xs) (h0 : 0 < n) : ∃ g, a = some ⟨g, 0, none⟩ := by
  rcases h.2 with ⟨hv, rfl⟩ | ⟨g, cap, cur, hv, _⟩
  · omega
  · injection hv with hv; exact ⟨g, hv⟩
theorem newC (w : World) (s : ByteArray) (n : Int) (t : TypeId) : CellsSl (w.alloc (.cells #[.string s, .int .i64 1, .int .i64 n, .int .i64 n, .int .i64 n] t)) (.slice (some ⟨w.heap.size, 0, none⟩) 1 1) 5 1 [.string s, .int .i64 1, .int .i64 n, .int .i64 n, .int .i64 n] := by
  refine ⟨rfl, fun u hu => ?_, .inr ⟨_, 1, rfl, fun j u hj => ?_⟩⟩
  · simp at hu; rcases hu with rfl | rfl | rfl <;> rfl
  · rw [Addr.add_lit, Nat.zero_add, cell_of_row _ _ _ _ _ _ (heap_alloc_new w _)]
    simpa using hj
/-- Counts and sums that can be added to. -/
def DurB (d : Dur) : Prop := 0 ≤ d.count ∧ d.count ≤ 1000000000 ∧ -1000000000000 ≤ d.sum ∧ d.sum ≤ 1000000000000
set_option maxHeartbeats 4000000 in
set_option maxRecDepth 100000 in
theorem l04Add_any (g o c : Nat) (l : List Dur) (s : ByteArray) (n : Int) (w : World) (hR : DursAt w g o l) (hcap : l.length ≤ c) (hl : l.length ≤ 1000) (hc : c ≤ maxLen) (hb : ∀ d ∈ l, DurB d) (hn : -1000000000 ≤ n ∧ n ≤ 1000000000) :
    Calls Tryz.prog 30 #[.slice (some ⟨g, o, none⟩) l.length c, .string s, .int .i64 n] w fun e w' => ∃ b m, e = .returned (.slice b (addD l s n).length m) ∧ w'.ownsRow w.heap.size 35 5 (.slice b (addD l s n).length m) (addD l s n).length (dflat (addD l s n)) ∧ Below w.heap.size w w' := by
  obtain ⟨i0, hi, hz0, hz1, hz2⟩ := info_parts Tryz.infoDur
  unfold maxLen at hc
  have HC := hid hcap
  have HR := hid hR
  have HB := hid hb
  clear hR hb
  go_enter Tryz.func30, Tryz.ntmps30
  go_upto_block 0 with fail
  go_cut [7] from 9 to 23 (fun v wx => ∃ k : Nat, v = .int .i64 k ∧ k ≤ l.length ∧ (∀ j, j < k → (h : j < l.length) → lt l[j].step s = true) ∧ ((h : k < l.length) → lt l[k].step s = false) ∧ w = wx)
  case first =>
    go_wp2_with fail
    go_loopw [7] (fun v wr => ∃ k : Nat, v = .int .i64 k ∧ k ≤ l.length ∧ (∀ j, j < k → (h : j < l.length) → lt l[j].step s = true) ∧ wr = w) (fun v _ => l.length - (intOf v).toNat)
    case atStart => exact ⟨0, rfl, Nat.zero_le _, fun j hj => absurd hj (by omega), rfl⟩
    case round =>
      obtain ⟨k, rfl, hk, hall, rfl⟩ := hrel
      have HA := hid hall
      clear hall
      by_cases hlt : k < l.length
      · have c0 := (HR.out.el hlt).1
        by_cases hs : Op.bytesLess l[k].step.toList s.toList = true
        · have HO := hid (show ∀ j, j < k + 1 → (h : j < l.length) → lt l[j].step s = true from fun j hj h => by
            by_cases e : j = k
            · subst e; exact hs
            · exact HA.out j (by omega) h)
          generalize l[k].step = q at *
          go_wp2
          go_roundw
          case rel => exact ⟨k + 1, by go_num, by omega, HO.out, trivial⟩
          case measure => simp [intOf]; omega
        · have hs' : Op.bytesLess l[k].step.toList s.toList = false := by simpa using hs
          have HO := hid (show (h : k < l.length) → lt l[k].step s = false from fun _ => hs')
          clear hs
          have HQ := hid (show ∃ q, l[k].step = q from ⟨_, rfl⟩)
          obtain ⟨q, hq⟩ := HQ.out
          rw [hq] at c0 hs'
          clear hq HQ
          go_wp2
          go_meet
          case rel => exact ⟨k, rfl, hk, HA.out, HO.out, rfl⟩
      · go_wp2
        go_meet
        case rel => exact ⟨k, rfl, hk, HA.out, fun h => absurd h hlt, rfl⟩
  case rest =>
    obtain ⟨k, rfl, hk, h1, h2, rfl⟩ := hcut
    have HAT := hid (addD_at (n := n) hk h1 h2)
    clear h1 h2
    have hbA : Below w.heap.size w (w.alloc (.cells #[] 35)) := (Below.refl _ _).alloc (Nat.le_refl _) _
    have hown0 := own_made5 w 35
    have HX := hid ((HR.out.stay hbA (Nat.le_refl _)).allC c)
    go_wp2_with (first | (at_builtin; refine wpList_append_sl rfl _ _ 30 rfl w.heap.size 35 i0 _ 5 48 Tryz.underlying30 hi hz0 hz1 hz2 rfl (by decide) _ 0 [] rfl hown0 l.length (dflat l) _ rfl HX.out ?c2 ?c3 ?c4 ?_) | fail)
    case c2 => unfold maxLen; omega
    case c3 => omega
    case c4 => simp
    intro v1 w1 hown1 hg1
    have B1 := hid (hbA.grown hg1 (by simp) (fun j hj => (hown0.lt j hj).1))
    replace hown1 : w1.ownsRow w.heap.size 35 5 v1 l.length (dflat l) := by simpa using hown1
    obtain ⟨b8, m8, rfl⟩ := ownB_form hown1
    have O1 := hid hown1
    clear hown0 hown1 hg1 HX hbA
    by_cases hlt : k < l.length
    · have hRg := HR.out.1
      have hR1 := HR.out.stay B1.out (Nat.le_refl _)
      obtain ⟨g8, rfl⟩ := own_some' O1.out (by omega)
      have hg8 := (O1.out.lt g8 rfl).1
      obtain ⟨c0, c1, c2, c3, c4⟩ := hR1.el hlt
      obtain ⟨of, ofz⟩ := own_cellf O1.out
      have hDB := HB.out _ (List.getElem_mem hlt)
      have HM := hid (dflat_more l k hlt n)
      have HAE := hid (show addD l s n = l.take k ++ (if l[k].step = s then l[k].more n :: l.drop (k + 1) else newD s n :: l.drop k) by rw [HAT.out, dif_pos hlt])
      have n1 : g ≠ g8 := by omega
      have n2 : g8 ≠ g := by omega
      by_cases hq : l[k].step = s
      · have HAF := hid (show addD l s n = l.take k ++ l[k].more n :: l.drop (k + 1) by rw [HAE.out, if_pos hq])
        have HLen := hid (show (addD l s n).length = l.length by rw [HAF.out]; simp; omega)
        have hsb : (s.toList == s.toList) = true := by simp
        have e1 := of (k * 5 + 1) _ (by rw [dflat_at l k 1 hlt (by decide)]; rfl)
        have e2 := of (k * 5 + 2) _ (by rw [dflat_at l k 2 hlt (by decide)]; rfl)
        have e3 := of (k * 5 + 3) _ (by rw [dflat_at l k 3 hlt (by decide)]; rfl)
        have e4 := of (k * 5 + 4) _ (by rw [dflat_at l k 4 hlt (by decide)]; rfl)
        rw [hq] at c0
        obtain ⟨d1, d2, d3, d4⟩ := hDB
        have OS := hid (own_setc (i := k * 5 + 4) (own_setc (i := k * 5 + 3) (own_setc (i := k * 5 + 2) (own_setc (i := k * 5 + 1) O1.out (.int .i64 (l[k].count + 1))) (.int .i64 (l[k].sum + n))) (.int .i64 (minI l[k].least n))) (.int .i64 (maxI l[k].most n)))
        rw [HM.out, ← HAF.out] at OS
        generalize l[k].count = cc at *
        generalize l[k].sum = su at *
        generalize l[k].least = le at *
        generalize l[k].most = mo at *
        clear HAE HAF HAT HM of hR1 hq HB HR
        go_wp2_with fail
        refine (l01Min_sp _ _ _).mono ?_
        rintro e w' ⟨rfl, rfl⟩
        go_wp2_with fail
        refine (l01Max_sp _ _ _).mono ?_
        rintro e w' ⟨rfl, rfl⟩
        go_wp2
        go_ret
        rw [HLen.out]
        exact ⟨_, m8, rfl, OS.out, (((B1.out.setCell (p := ⟨g8, _, none⟩) hg8 _).setCell (p := ⟨g8, _, none⟩) hg8 _).setCell (p := ⟨g8, _, none⟩) hg8 _).setCell (p := ⟨g8, _, none⟩) hg8 _⟩
      · have HAF := hid (show addD l s n = l.take k ++ newD s n :: l.drop k by rw [HAE.out, if_neg hq])
        have HLen := hid (show (addD l s n).length = k + 1 + (l.length - k) by rw [HAF.out]; simp; omega)
        have HFl := hid (show dflat (l.take k) ++ [.string s, .int .i64 1, .int .i64 n, .int .i64 n, .int .i64 n] ++ dflat (l.drop k) = dflat (addD l s n) by rw [HAF.out]; unfold dflat; simp [newD, Dur.cells])
        have hsb : (l[k].step.toList == s.toList) = false := str_ne hq
        have hck : ¬ c = k := by have := HC.out; omega
        have kc : k ≤ c := by have := HC.out; omega
        generalize l[k].step = q at *
        generalize l[k].count = cc at *
        generalize l[k].sum = su at *
        generalize l[k].least = le at *
        generalize l[k].most = mo at *
        clear HAE HAF HAT HM of ofz hR1 HB hDB c1 c2 c3 c4 hq hg8 n1 n2
        go_upto_region 11 with fail
        clear c0
        have hbA2 : Below w.heap.size w (w1.alloc (.cells #[] 35)) := B1.out.alloc B1.out.size _
        have hown2 := hid (ownB_le (own_made5 w1 35) B1.out.size)
        have HX2 := hid ((HR.out.stay hbA2 (Nat.le_refl _)).headC hk c)
        go_wp2_with (first | (at_builtin; refine wpList_append_sl rfl _ _ 30 rfl w.heap.size 35 i0 _ 5 48 Tryz.underlying30 hi hz0 hz1 hz2 rfl (by decide) _ _ _ rfl hown2.out k (dflat (l.take k)) _ rfl HX2.out ?c2 ?c3 ?c4 ?_) | fail)
        case c2 => unfold maxLen; omega
        case c3 => omega
        case c4 => have q9 := hbA2.size; first | exact q9 | (simp at q9; omega)
        intro v3 w3 hown3 hg3
        have B3 := hid (hbA2.grown hg3 hbA2.size (fun j hj => (hown2.out.lt j hj).1))
        replace hown3 : w3.ownsRow w.heap.size 35 5 v3 k (dflat (l.take k)) := by simpa using hown3
        obtain ⟨b3, m3, rfl⟩ := ownB_form hown3
        have O3 := hid hown3
        clear hown3 hg3 HX2 hown2 hbA2
        have hbA4 : Below w.heap.size w (w3.alloc (.cells #[.string s, .int .i64 1, .int .i64 n, .int .i64 n, .int .i64 n] 35)) := B3.out.alloc B3.out.size _
        have O4 := hid (O3.out.alloc (.cells #[.string s, .int .i64 1, .int .i64 n, .int .i64 n, .int .i64 n] 35))
        have HX4 := hid (newC w3 s n 35)
        go_wp2_with (first | (at_builtin; refine wpList_append_sl rfl _ _ 30 rfl w.heap.size 35 i0 _ 5 48 Tryz.underlying30 hi hz0 hz1 hz2 rfl (by decide) _ _ _ rfl O4.out 1 [.string s, .int .i64 1, .int .i64 n, .int .i64 n, .int .i64 n] _ rfl HX4.out ?c2 ?c3 ?c4 ?_) | fail)
        case c2 => unfold maxLen; omega
        case c3 => omega
        case c4 => have q9 := hbA4.size; first | exact q9 | (simp at q9; omega)
        intro v5 w5 hown5 hg5
        have B5 := hid (hbA4.grown hg5 hbA4.size (fun j hj => (O4.out.lt j hj).1))
        obtain ⟨b5, m5, rfl⟩ := ownB_form hown5
        have O5 := hid hown5
        clear hown5 hg5 HX4 hbA4 O4 O3 B3
        have HX6 := hid ((HR.out.stay B5.out (Nat.le_refl _)).restC hk c (some ⟨g, o + k * 5, none⟩) (by rw [if_neg hck]) HC.out (c - k))
        go_wp2_with (first | (at_builtin; refine wpList_append_sl rfl _ _ 30 rfl w.heap.size 35 i0 _ 5 48 Tryz.underlying30 hi hz0 hz1 hz2 rfl (by decide) _ _ _ rfl O5.out (l.length - k) (dflat (l.drop k)) _ rfl HX6.out ?c2 ?c3 ?c4 ?_) | fail)
        case c2 => unfold maxLen; omega
        case c3 => omega
        case c4 => have q9 := B5.out.size; first | exact q9 | (simp at q9; omega)
        intro v7 w7 hown7 hg7
        have B7 := hid (B5.out.grown hg7 B5.out.size (fun j hj => (O5.out.lt j hj).1))
        obtain ⟨b7, m7, rfl⟩ := ownB_form hown7
        have O7 := hid hown7
        clear hown7 hg7
        go_wp2
        go_ret
        have hfin : w7.ownsRow w.heap.size 35 5 (.slice b7 (k + 1 + (l.length - k)) m7) (k + 1 + (l.length - k)) (dflat (addD l s n)) := by
          rw [← HFl.out]
          first | exact O7.out | simpa using O7.out
        rw [HLen.out]
        exact ⟨b7, m7, rfl, hfin, B7.out⟩
    · have hke : k = l.length := by omega
      have HAF := hid (show addD l s n = l.take k ++ newD s n :: l.drop k by rw [HAT.out, dif_neg hlt, List.drop_eq_nil_of_le (by omega)])
      have HLen := hid (show (addD l s n).length = k + 1 + (l.length - k) by rw [HAF.out]; simp; omega)
      have HFl := hid (show dflat (l.take k) ++ [.string s, .int .i64 1, .int .i64 n, .int .i64 n, .int .i64 n] ++ dflat (l.drop k) = dflat (addD l s n) by rw [HAF.out]; unfold dflat; simp [newD, Dur.cells])
      have kc : k ≤ c := by have := HC.out; omega
      have hlt' : ¬ (k : Int) < (l.length : Int) := by omega
      have HKE := hid hke
      clear HAF HAT HB hke
      go_upto_region 11 with fail
      by_cases hck : c = k
      · have hA : (if c = k then some (⟨g, o, none⟩ : Addr) else some ⟨g, o + k * 5, none⟩) = some ⟨g, o, none⟩ := if_pos hck
        have HCK := hid hck
        clear hck
        have hbA2 : Below w.heap.size w (w1.alloc (.cells #[] 35)) := B1.out.alloc B1.out.size _
        have hown2 := hid (ownB_le (own_made5 w1 35) B1.out.size)
        have HX2 := hid ((HR.out.stay hbA2 (Nat.le_refl _)).headC hk c)
        go_wp2_with (first | (at_builtin; refine wpList_append_sl rfl _ _ 30 rfl w.heap.size 35 i0 _ 5 48 Tryz.underlying30 hi hz0 hz1 hz2 rfl (by decide) _ _ _ rfl hown2.out k (dflat (l.take k)) _ rfl HX2.out ?c2 ?c3 ?c4 ?_) | fail)
        case c2 => unfold maxLen; omega
        case c3 => omega
        case c4 => have q9 := hbA2.size; first | exact q9 | (simp at q9; omega)
        intro v3 w3 hown3 hg3
        have B3 := hid (hbA2.grown hg3 hbA2.size (fun j hj => (hown2.out.lt j hj).1))
        replace hown3 : w3.ownsRow w.heap.size 35 5 v3 k (dflat (l.take k)) := by simpa using hown3
        obtain ⟨b3, m3, rfl⟩ := ownB_form hown3
        have O3 := hid hown3
        clear hown3 hg3 HX2 hown2 hbA2
        have hbA4 : Below w.heap.size w (w3.alloc (.cells #[.string s, .int .i64 1, .int .i64 n, .int .i64 n, .int .i64 n] 35)) := B3.out.alloc B3.out.size _
        have O4 := hid (O3.out.alloc (.cells #[.string s, .int .i64 1, .int .i64 n, .int .i64 n, .int .i64 n] 35))
        have HX4 := hid (newC w3 s n 35)
        go_wp2_with (first | (at_builtin; refine wpList_append_sl rfl _ _ 30 rfl w.heap.size 35 i0 _ 5 48 Tryz.underlying30 hi hz0 hz1 hz2 rfl (by decide) _ _ _ rfl O4.out 1 [.string s, .int .i64 1, .int .i64 n, .int .i64 n, .int .i64 n] _ rfl HX4.out ?c2 ?c3 ?c4 ?_) | fail)
        case c2 => unfold maxLen; omega
        case c3 => omega
        case c4 => have q9 := hbA4.size; first | exact q9 | (simp at q9; omega)
        intro v5 w5 hown5 hg5
        have B5 := hid (hbA4.grown hg5 hbA4.size (fun j hj => (O4.out.lt j hj).1))
        obtain ⟨b5, m5, rfl⟩ := ownB_form hown5
        have O5 := hid hown5
        clear hown5 hg5 HX4 hbA4 O4 O3 B3
        have HX6 := hid ((HR.out.stay B5.out (Nat.le_refl _)).restC hk c (some ⟨g, o, none⟩) (by rw [if_pos HCK.out]) HC.out (c - k))
        go_wp2_with (first | (at_builtin; refine wpList_append_sl rfl _ _ 30 rfl w.heap.size 35 i0 _ 5 48 Tryz.underlying30 hi hz0 hz1 hz2 rfl (by decide) _ _ _ rfl O5.out (l.length - k) (dflat (l.drop k)) _ rfl HX6.out ?c2 ?c3 ?c4 ?_) | fail)
        case c2 => unfold maxLen; omega
        case c3 => omega
        case c4 => have q9 := B5.out.size; first | exact q9 | (simp at q9; omega)
        intro v7 w7 hown7 hg7
        have B7 := hid (B5.out.grown hg7 B5.out.size (fun j hj => (O5.out.lt j hj).1))
        obtain ⟨b7, m7, rfl⟩ := ownB_form hown7
        have O7 := hid hown7
        clear hown7 hg7
        go_wp2
        go_ret
        have hfin : w7.ownsRow w.heap.size 35 5 (.slice b7 (k + 1 + (l.length - k)) m7) (k + 1 + (l.length - k)) (dflat (addD l s n)) := by
          rw [← HFl.out]
          first | exact O7.out | simpa using O7.out
        rw [HLen.out]
        exact ⟨b7, m7, rfl, hfin, B7.out⟩
      · have hbA2 : Below w.heap.size w (w1.alloc (.cells #[] 35)) := B1.out.alloc B1.out.size _
        have hown2 := hid (ownB_le (own_made5 w1 35) B1.out.size)
        have HX2 := hid ((HR.out.stay hbA2 (Nat.le_refl _)).headC hk c)
        go_wp2_with (first | (at_builtin; refine wpList_append_sl rfl _ _ 30 rfl w.heap.size 35 i0 _ 5 48 Tryz.underlying30 hi hz0 hz1 hz2 rfl (by decide) _ _ _ rfl hown2.out k (dflat (l.take k)) _ rfl HX2.out ?c2 ?c3 ?c4 ?_) | fail)
        case c2 => unfold maxLen; omega
        case c3 => omega
        case c4 => have q9 := hbA2.size; first | exact q9 | (simp at q9; omega)
        intro v3 w3 hown3 hg3
        have B3 := hid (hbA2.grown hg3 hbA2.size (fun j hj => (hown2.out.lt j hj).1))
        replace hown3 : w3.ownsRow w.heap.size 35 5 v3 k (dflat (l.take k)) := by simpa using hown3
        obtain ⟨b3, m3, rfl⟩ := ownB_form hown3
        have O3 := hid hown3
        clear hown3 hg3 HX2 hown2 hbA2
        have hbA4 : Below w.heap.size w (w3.alloc (.cells #[.string s, .int .i64 1, .int .i64 n, .int .i64 n, .int .i64 n] 35)) := B3.out.alloc B3.out.size _
        have O4 := hid (O3.out.alloc (.cells #[.string s, .int .i64 1, .int .i64 n, .int .i64 n, .int .i64 n] 35))
        have HX4 := hid (newC w3 s n 35)
        go_wp2_with (first | (at_builtin; refine wpList_append_sl rfl _ _ 30 rfl w.heap.size 35 i0 _ 5 48 Tryz.underlying30 hi hz0 hz1 hz2 rfl (by decide) _ _ _ rfl O4.out 1 [.string s, .int .i64 1, .int .i64 n, .int .i64 n, .int .i64 n] _ rfl HX4.out ?c2 ?c3 ?c4 ?_) | fail)
        case c2 => unfold maxLen; omega
        case c3 => omega
        case c4 => have q9 := hbA4.size; first | exact q9 | (simp at q9; omega)
        intro v5 w5 hown5 hg5
        have B5 := hid (hbA4.grown hg5 hbA4.size (fun j hj => (O4.out.lt j hj).1))
        obtain ⟨b5, m5, rfl⟩ := ownB_form hown5
        have O5 := hid hown5
        clear hown5 hg5 HX4 hbA4 O4 O3 B3
        have HX6 := hid ((HR.out.stay B5.out (Nat.le_refl _)).restC hk c (some ⟨g, o + k * 5, none⟩) (by rw [if_neg hck]) HC.out (c - k))
        go_wp2_with (first | (at_builtin; refine wpList_append_sl rfl _ _ 30 rfl w.heap.size 35 i0 _ 5 48 Tryz.underlying30 hi hz0 hz1 hz2 rfl (by decide) _ _ _ rfl O5.out (l.length - k) (dflat (l.drop k)) _ rfl HX6.out ?c2 ?c3 ?c4 ?_) | fail)
        case c2 => unfold maxLen; omega
        case c3 => omega
        case c4 => have q9 := B5.out.size; first | exact q9 | (simp at q9; omega)
        intro v7 w7 hown7 hg7
        have B7 := hid (B5.out.grown hg7 B5.out.size (fun j hj => (O5.out.lt j hj).1))
        obtain ⟨b7, m7, rfl⟩ := ownB_form hown7
        have O7 := hid hown7
        clear hown7 hg7
        go_wp2
        go_ret
        have hfin : w7.ownsRow w.heap.size 35 5 (.slice b7 (k + 1 + (l.length - k)) m7) (k + 1 + (l.length - k)) (dflat (addD l s n)) := by
          rw [← HFl.out]
          first | exact O7.out | simpa using O7.out
        rw [HLen.out]
        exact ⟨b7, m7, rfl, hfin, B7.out⟩
end Go.Proofs.YthggcdadipjiiaaGreatDoor
