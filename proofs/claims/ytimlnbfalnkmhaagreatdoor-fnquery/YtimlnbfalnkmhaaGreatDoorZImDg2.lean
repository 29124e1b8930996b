/-
  Texts put together: ImDg, ImQR.
-/
import Derived.Test.YtimlnbfalnkmhaaGreatDoorZQwM3
import Derived.Test.YtimlnbfalnkmhaaGreatDoorZMark4
import Derived.Test.YtimlnbfalnkmhaaGreatDoorZQuC
import Derived.Test.YtimlnbfalnkmhaaGreatDoorZQyDr2
/-
  What impl.digits and impl.operand answer: contracts over the seat's program.
-/
namespace Go.Proofs.YtimlnbfalnkmhaaGreatDoor
open Go.RowKit Go.Lib Go.Sort
set_option linter.unusedVariables false

theorem below_lies (w : World) (q : Nat) (os : Array Obj) : Below w.heap.size w (grow (w.drewN q) os) :=
  ⟨rfl, rfl, rfl, by show w.heap.size ≤ (w.heap ++ os).size; rw [Array.size_append]; omega, fun i hi => by
    show (w.heap ++ os)[i]? = _
    rw [Array.getElem?_append_left hi]⟩
theorem gPow : Tryz.prog.globalNamed "internal/strconv.uint64pow10" = some 3 := by kernel_rfl
def PowTab (w : World) : Prop := Lib.TabIs Tryz.prog w "internal/strconv.uint64pow10" .u64 Lib.pow10Tab
theorem PowTab.below {w w' : World} {B : Nat} (h : PowTab w) (hb : Below B w w') (hB : w.heap.size ≤ B) : PowTab w' := by
  unfold PowTab Lib.TabIs World.var? at h ⊢
  rw [gPow] at h ⊢
  simp only [Option.bind_some] at h ⊢
  have hlt : 3 < w.heap.size := by
    rcases Nat.lt_or_ge 3 w.heap.size with q | q
    · exact q
    · rw [Array.getElem?_eq_none q] at h; simp at h
  rw [hb.block _ (by omega)]
  exact h
theorem decD_L : ∀ (f k : Nat), 0 < k → k < 10 ^ f → Lib.decDigits k = decL f k
  | 0, k, h0, h => by simp at h; omega
  | f + 1, k, h0, h => by
    rw [Lib.decDigits, decL, if_neg (by omega)]
    by_cases h9 : k < 10
    · have : k / 10 = 0 := by omega
      have hz : decL f 0 = [] := by cases f <;> simp [decL]
      rw [dif_pos h9, this, hz, Nat.mod_eq_of_lt h9]; rfl
    · rw [dif_neg h9, decD_L f (k / 10) (by omega) (by rw [Nat.pow_succ] at h; omega)]
theorem itoa_dec {n : Int} (h0 : 0 ≤ n) (h1 : n ≤ 1000000) : (⟨(Lib.itoa n).toArray⟩ : ByteArray) = decI n := by
  obtain ⟨k, rfl⟩ := Int.eq_ofNat_of_zero_le h0
  unfold Lib.itoa decI
  rw [if_neg (by omega), Int.toNat_natCast]
  by_cases hz : (k : Int) = 0
  · rw [if_pos hz]
    obtain rfl : k = 0 := by omega
    rw [Lib.decDigits]; rfl
  · rw [if_neg hz, decD_L 20 k (by omega) (by have : k < 10 ^ 7 := by omega
                                              exact Nat.lt_of_lt_of_le this (Nat.pow_le_pow_right (by decide) (by decide)))]
theorem digits_any (n : Int) (w : World) (h0 : 0 ≤ n) (h1 : n ≤ 1000000) (hT : PowTab w) :
    Calls Tryz.prog 85 #[.int .i64 n] w fun e w' => e = .returned (.string (decI n)) ∧ Below w.heap.size w w' := by
  have cF : Calls Tryz.prog 136 #[.int .i64 n, .int .i64 10] w _ := Any.strconv_FormatInt_10 Sfi.lays173 n (by omega) (by omega) w hT
  have he := itoa_dec h0 h1
  go_enter Tryz.func85, Tryz.ntmps85
  go_wp2_with (go_at_call 136; refine cF.mono ?_; rintro e w' ⟨rfl, k, os, rfl⟩)
  go_ret
  exact ⟨by rw [← he]; rfl, below_lies _ _ _⟩
set_option maxRecDepth 100000 in
theorem operand_any (c : Cd) (w : World) (hT : PowTab w) (hN : numF c.fld = true → 0 ≤ c.n ∧ c.n ≤ 1000000) :
    Calls Tryz.prog 135 #[cdI c] w fun e w' => e = .returned (.string (opnd c)) ∧ Below w.heap.size w w' := by
  obtain ⟨f, o, t, n⟩ := c
  unfold cdI cdT opnd
  simp only at hN ⊢
  by_cases hf : numF f = true
  · rw [if_pos hf, if_pos hf]
    have hb0 : Below w.heap.size w (w.alloc (.cells #[.string f, .string o, .string t, .int .i64 n] 184)) := (Below.refl _ _).alloc (Nat.le_refl _) _
    have cD := digits_any n _ (hN hf).1 (hN hf).2 (hT.below hb0 (Nat.le_refl _))
    have HB0 := hid hb0
    clear hb0 hT hN hf
    have tNN := Tryz.asNN
    go_enter Tryz.func135, Tryz.ntmps135
    go_wp2_with (go_at_call 85; refine cD.mono ?_; rintro e w1 ⟨rfl, hb⟩; have HB := hid (HB0.out.trans (hb.mono HB0.out.size)); clear hb)
    go_ret
    exact ⟨rfl, HB.out⟩
  · rw [if_neg hf, if_neg hf]
    clear hT hN hf
    have tWN := Tryz.asWN
    have tWW := Tryz.asWW
    go_enter Tryz.func135, Tryz.ntmps135
    go_wp2
    go_ret
    exact ⟨rfl, (Below.refl _ _).alloc (Nat.le_refl _) _⟩
end Go.Proofs.YtimlnbfalnkmhaaGreatDoor

/-
  Queries: what impl.condsRight answers: a contract over the seat's program.
-/
namespace Go.Proofs.YtimlnbfalnkmhaaGreatDoor
open Go.RowKit Go.Lib
set_option linter.unusedVariables false

theorem cdB_num {c : Cd} (h : numF c.fld = true) : cdB c = (numF c.fld && (numO c.op && (decide (c.wrd = noW) && (decide (0 ≤ c.n) && decide (c.n ≤ 1000000))))) := by unfold cdB; rw [if_pos h, h]; rfl
theorem cdB_wrd {c : Cd} (h : numF c.fld = false) : cdB c = (wrdF c.fld && (wrdO c.op && (wrdR c.fld c.wrd && decide (c.n = 0)))) := by unfold cdB; rw [h]; rfl
set_option maxRecDepth 100000 in
set_option maxHeartbeats 2000000 in
theorem condsRight_any (cs : List Cd) (v : Value) (w : World) (hC : CdSl w v cs) (hn : cs.length ≤ maxLen) (hK : KNames w) (hF : ∀ c ∈ cs, c.wrd.size ≤ maxLen) :
    Calls Tryz.prog 37 #[v] w fun e w' => e = .returned (.bool (decide (cs.length ≤ 6) && cs.all cdB)) ∧ Below w.heap.size w w' := by
  have hv : ∃ a c, v = .slice a cs.length c := by
    rcases hC with ⟨a, c, rfl, rfl⟩ | ⟨g, o, c, rfl, _, _⟩
    · exact ⟨a, c, rfl⟩
    · exact ⟨_, c, rfl⟩
  obtain ⟨a0, c0, rfl⟩ := hv
  have HC := hid hC
  have HK := hid hK
  have HF := hid hF
  clear hC hK hF
  unfold maxLen at hn
  have hq0 : (0 : Int) ≤ (cs.length : Int) := by omega
  by_cases h6 : cs.length ≤ 6
  · rw [decide_eq_true h6, Bool.true_and]
    have cO := fun W (hC : CdSl W (.slice a0 cs.length c0) cs) => condsOf_any cs _ W hC (by omega)
    have h6' : ¬ ((6 : Int) < (cs.length : Int)) := by omega
    go_enter Tryz.func37, Tryz.ntmps37
    go_wp2_with (go_at_call 56; refine (cO _ HC.out).mono ?_; rintro e w1 ⟨u, rfl, ho, hb⟩; have O := hid ho; have B := hid hb; obtain ⟨va, vc, rfl⟩ := ownB_form ho; clear ho hb cO)
    go_loopw [11] (fun iv wr => ∃ k : Nat, iv = .int .i64 (k : Int) ∧ k ≤ cs.length ∧ (∀ j, j < k → (h : j < cs.length) → cdB cs[j] = true) ∧ Below w1.heap.size w1 wr) (fun iv _ => cs.length - (RowKit.intOf iv).toNat)
    case atStart => exact ⟨0, rfl, Nat.zero_le _, fun j h => absurd h (by omega), Below.refl _ _⟩
    case round =>
      obtain ⟨k, rfl, hk, hall, hbel⟩ := hrel
      have HALL := hid hall
      have HBR := hid hbel
      have HBW := hid (B.out.trans (hbel.mono B.out.size))
      clear hall hbel
      by_cases hlt : k < cs.length
      · have zk : (k : Int) < (cs.length : Int) := by omega
        have OR := hid (ownB_stay O.out HBR.out)
        have hg : ∃ g, va = some ⟨g, 0, none⟩ := by
          rcases OR.out.2 with ⟨hv, h0⟩ | ⟨g, cap, cur, hv, _⟩
          · omega
          · injection hv with h1 _ _; exact ⟨g, h1⟩
        obtain ⟨g, rfl⟩ := hg
        have hcell : wr.cell? ⟨g, k, none⟩ = some (cdI cs[k]) := by
          have := OR.out.cells (g := g) rfl k (cdI cs[k]) (by rw [List.getElem?_map, List.getElem?_eq_getElem hlt]; rfl)
          rwa [Addr.add_lit, Nat.zero_add] at this
        have hst := hid (show cdB cs[k] = true → ∀ j, j < k + 1 → (h : j < cs.length) → cdB cs[j] = true from fun hc j hj h => by
          by_cases e : j = k
          · subst e; exact hc
          · exact HALL.out j (by omega) h)
        have hno := hid (fun hc : cdB cs[k] = false => all_false hlt hc)
        have hsz := HF.out _ (List.getElem_mem hlt)
        generalize cs[k] = c at *
        unfold cdI cdT at hcell
        clear O OR HALL
        by_cases hN : numF c.fld = true
        · rw [if_pos hN] at hcell
          have cR := numRight_any c wr
          rw [← cdB_num hN] at cR
          clear hN
          generalize hcb : cdB c = cb at *
          clear hcb
          have hm : ∀ (x : Value) (w : World), (method 377 184 x "loop.example/g00366/impl.right").run Tryz.prog w = .ok (248, x) w := fun _ _ => by kernel_rfl
          go_wp2_with fail
          refine cR.mono ?_
          rintro e w2 ⟨rfl, hb2⟩
          have HB1 := hid (HBR.out.trans (hb2.mono HBR.out.size))
          have HB2 := hid (HBW.out.trans (hb2.mono HBW.out.size))
          clear hb2 cR hm hcell
          cases cb with
          | true =>
            go_wp2
            go_roundw
            case rel => exact ⟨k + 1, by go_num, by omega, hst.out (by trivial), HB1.out⟩
            case measure => simp [RowKit.intOf]; omega
          | false =>
            go_wp2
            go_ret
            exact ⟨by rw [hno.out (by trivial)]; rfl, HB2.out⟩
        · rw [if_neg hN] at hcell
          have cR := wordRight_any c wr (HK.out.below HBW.out (Nat.le_refl _)) hsz
          rw [← cdB_wrd (by simpa using hN)] at cR
          clear hN
          generalize hcb : cdB c = cb at *
          clear hcb
          have hm : ∀ (x : Value) (w : World), (method 377 185 x "loop.example/g00366/impl.right").run Tryz.prog w = .ok (250, x) w := fun _ _ => by kernel_rfl
          go_wp2_with fail
          refine cR.mono ?_
          rintro e w2 ⟨rfl, hb2⟩
          have HB1 := hid (HBR.out.trans (hb2.mono HBR.out.size))
          have HB2 := hid (HBW.out.trans (hb2.mono HBW.out.size))
          clear hb2 cR hm hcell
          cases cb with
          | true =>
            go_wp2
            go_roundw
            case rel => exact ⟨k + 1, by go_num, by omega, hst.out (by trivial), HB1.out⟩
            case measure => simp [RowKit.intOf]; omega
          | false =>
            go_wp2
            go_ret
            exact ⟨by rw [hno.out (by trivial)]; rfl, HB2.out⟩
      · have hAll : cs.all cdB = true := by
          rw [List.all_eq_true]
          intro c hc
          obtain ⟨j, hj, rfl⟩ := List.mem_iff_getElem.1 hc
          exact HALL.out j (by omega) hj
        have HA := hid hAll
        clear HALL hAll HC HF O
        obtain rfl : k = cs.length := by omega
        go_wp2
        go_ret
        exact ⟨by rw [HA.out]; rfl, HBW.out⟩
  · rw [decide_eq_false h6, Bool.false_and]
    have h6' : (6 : Int) < (cs.length : Int) := by omega
    clear HC HF HK
    go_enter Tryz.func37, Tryz.ntmps37
    go_wp2
    go_ret
    exact ⟨rfl, Below.refl _ _⟩
end Go.Proofs.YtimlnbfalnkmhaaGreatDoor
