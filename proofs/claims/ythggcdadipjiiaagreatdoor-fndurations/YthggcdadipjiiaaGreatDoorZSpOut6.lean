/-
  Texts put together: SpOut, Bel, InfV, ApWl, ApAny, SpCopy.
-/
import Derived.Test.YthggcdadipjiiaaGreatDoorZEvT5
import Derived.Deep.RegionLaw
import Derived.Test.YthggcdadipjiiaaGreatDoorZGen4
import Derived.Test.YthggcdadipjiiaaGreatDoorZStrs3
import Derived.Lib.QuietBelow
import Derived.OwnWalk
/-
  What spec.l03Out answers: a row without one of its texts: a contract over the seat's program.
-/
namespace Go.Proofs.YthggcdadipjiiaaGreatDoor
open Go.RowKit Go.Sort

def outT (l : List ByteArray) (k : Nat) : List ByteArray := l.take k ++ l.drop (k + 1)
/-- append to a row of one's own, as one step of a region that draws. -/
theorem step_append_own {P : Program} {w : World} {ops : Array Oper} {o : Oper} {a : Act} {K : Act → World → Prop} {Q : Exit → Act → World → Prop} {E : Prop} (hgd : o.guard = none) (s x : Operand) (t : TypeId)
    (ho : o.op = .call { callee := .builtin .append, args := #[s, x], argTypes := #[t, t] })
    (base : Nat) (e : TypeId) (i : TypeInfo) (z : Value) (size bytes : Nat) (ht : P.underlying t = some (.slice e)) (hi : P.info? e = some i) (hz : i.zero = some z)
    (hsize : i.size = size) (hby : i.bytes = bytes) (hzs : z.cells.size = size) (hsz : 0 < size)
    (v : Value) (n : Nat) (xs : List Value) (hs : a.eval s = v) (hown : w.ownsRow base e size v n xs)
    (ad : Addr) (m c : Nat) (news : List Value) (hx : a.eval x = .slice (some ad) m c) (hl : news.length = m * size) (hnews : ∀ j u, news[j]? = some u → w.cell? (ad.add j) = some u) (h1 : ∀ u ∈ news, u.oneCell' = true)
    (h63 : n + m ≤ maxLen) (hbytes : (n + m) * bytes ≤ 140737488355328) (hbase : base ≤ w.heap.size)
    (h : ∀ v' w', w'.ownsRow base e size v' (n + m) (xs ++ news) → w.grownBy w' v.ownBlock → (v' = .slice none 0 0 ↔ v = .slice none 0 0 ∧ m = 0) → K (a.put o.dst v') w') :
    if Region.wanted o (yielded ops a.tmps) = true then Oper.wp P o a w K Q else E := by
  rw [if_pos (show Region.wanted o (yielded ops a.tmps) = true by simp [Region.wanted, hgd])]
  exact wp_append_own w s x t ho base e i z size bytes ht hi hz hsize hby hzs hsz v n xs hs hown ad m c news hx hl hnews h1 h63 hbytes hbase h
set_option maxRecDepth 100000 in
set_option maxHeartbeats 2000000 in
theorem l03Out_row (g o c k : Nat) (l : List ByteArray) (w : World) (hE : StrsAt w g o l) (hk : k < l.length) (hc : l.length ≤ c) (hn : l.length ≤ 1048576) (hcm : c ≤ maxLen) :
    Calls Tryz.prog 97 #[.slice (some ⟨g, o, none⟩) l.length c, .int .i64 k] w fun e w' => ∃ a n, e = .returned (.slice a (outT l k).length n) ∧ w'.ownsRow w.heap.size 9 1 (.slice a (outT l k).length n) (outT l k).length ((outT l k).map Value.string) ∧ Below w.heap.size w w' := by
  obtain ⟨i0, hi, hz0, hz1, hz2⟩ := info_parts Tryz.infoStr
  have HE := hid hE
  clear hE
  unfold maxLen at hcm
  go_enter Tryz.func97, Tryz.ntmps97
  by_cases hck : k + 1 = c
  · subst hck
    obtain ⟨P1, hP1⟩ : ∃ P1 : List Value, P1 = (l.take k).map Value.string := ⟨_, rfl⟩
    obtain ⟨P3, hP3⟩ : ∃ P3 : List Value, P3 = (l.drop (k + 1)).map Value.string := ⟨_, rfl⟩
    have L1 := hid (show P1.length = k * 1 by rw [hP1]; simp; omega)
    have L3 := hid (show P3.length = 0 * 1 by rw [hP3, List.drop_eq_nil_of_le (by omega)]; rfl)
    have D4 := hid (show ∀ (j : Nat) (u : Value), P3[j]? = some u → False by rw [hP3, List.drop_eq_nil_of_le (by omega)]; intro j u hj; simp at hj)
    have HPL := hid (show 0 + k + 0 = (outT l k).length by unfold outT; simp; omega)
    have O1 := hid (show ∀ u ∈ P1, u.oneCell' = true by rw [hP1]; exact strs_one _)
    have O3 := hid (show ∀ u ∈ P3, u.oneCell' = true by rw [hP3]; exact strs_one _)
    have D1 := hid (fun W (hb : Below w.heap.size w W) => (show ∀ j u, P1[j]? = some u → W.cell? ((⟨g, o, none⟩ : Addr).add j) = some u by rw [hP1]; exact strs_cells_to (HE.out.stay hb (Nat.le_refl _)) k))
    have HP := hid (show ([] ++ P1) ++ P3 = (outT l k).map Value.string by rw [hP1, hP3]; unfold outT; simp)
    have HB0 := hid (show Below w.heap.size w (w.alloc (.cells #[] 9)).drew from ((Below.refl w.heap.size w).alloc (Nat.le_refl _) _).drew)
    have HW := hid (show (w.alloc (.cells #[] 9)).drew.ownsRow w.heap.size 9 1 (.slice (some ⟨w.heap.size, 0, none⟩) 0 0) 0 [] from own_made w 9)
    have hb1 : 0 + k ≤ maxLen := by unfold maxLen; omega
    have hb2 : (0 + k) * 16 ≤ 140737488355328 := by omega
    have hb3 : 0 + k + 0 ≤ maxLen := by unfold maxLen; omega
    have hb4 : (0 + k + 0) * 16 ≤ 140737488355328 := by omega
    have HBS := hid (And.intro (And.intro hb1 hb2) (And.intro hb3 hb4))
    clear hb1 hb2 hb3 hb4 hP1 hP3
    have hwr : IntKind.i64.wrap ((k : Int) + 1) = (k : Int) + 1 := by rw [IntKind.wrap_i64]; omega
    have hp0 : (0 : Int) ≤ (k : Int) + 1 := by omega
    have hp1 : (k : Int) + 1 ≤ (l.length : Int) := by omega
    have hp2 : ((k : Int) + 1).toNat = k + 1 := by omega
    have hp3 : (k : Int) ≤ (k : Int) + 1 := by omega
    have hk1 : k ≤ l.length := by omega
    have hk2 : k ≤ k + 1 := by omega
    go_wp2_with fail
    go_region_law (first | (refine step_append_own rfl (.tmp 5) (.tmp 8) 23 rfl w.heap.size 9 i0 _ 1 16 Tryz.underlying23 hi hz0 hz1 hz2 rfl (by decide) _ _ _ (by simp [Act.eval]) HW.out ⟨g, o, none⟩ k (k + 1) P1 (by simp [Act.eval]) L1.out (D1.out _ HB0.out) O1.out HBS.out.1.1 HBS.out.1.2 HB0.out.size ?_; intro v1 w1 hown1 hg1 hn1; have HB1 := hid (HB0.out.grown hg1 HB0.out.size (fun j hj => (HW.out.lt j hj).1)); obtain ⟨a1, k1, rfl⟩ := ownB_form hown1; have HO1 := hid hown1; clear hown1 hg1 hn1) | (refine step_append_own rfl (.tmp 9) (.tmp 13) 23 rfl w.heap.size 9 i0 _ 1 16 Tryz.underlying23 hi hz0 hz1 hz2 rfl (by decide) _ _ _ (by simp [Act.eval]) HO1.out ⟨g, o, none⟩ 0 0 P3 (by simp [Act.eval]) L3.out (fun j u h => (D4.out j u h).elim) O3.out HBS.out.2.1 HBS.out.2.2 HB1.out.size ?_; intro v3 w3 hown3 hg3 hn3; have HB3 := hid (HB1.out.grown hg3 HB1.out.size (fun j hj => (HO1.out.lt j hj).1)); obtain ⟨a3, k3, rfl⟩ := ownB_form hown3; have HO3 := hid hown3; clear hown3 hg3 hn3))
    go_wp2
    go_ret
    have hfin := HO3.out
    rw [HPL.out, HP.out] at hfin
    refine ⟨a3, k3, ?_, hfin, HB3.out⟩
    show Ending.returned (.slice a3 _ k3) = _
    rw [← HPL.out]
    simp
  · have hck' : ¬ c = k + 1 := by omega
    obtain ⟨P1, hP1⟩ : ∃ P1 : List Value, P1 = (l.take k).map Value.string := ⟨_, rfl⟩
    obtain ⟨P3, hP3⟩ : ∃ P3 : List Value, P3 = (l.drop (k + 1)).map Value.string := ⟨_, rfl⟩
    have L1 := hid (show P1.length = k * 1 by rw [hP1]; simp; omega)
    have L3 := hid (show P3.length = (l.length - (k + 1)) * 1 by rw [hP3]; simp)
    have D3 := hid (fun W (hb : Below w.heap.size w W) => (show ∀ j u, P3[j]? = some u → W.cell? ⟨g, o + (k + 1) + j, none⟩ = some u by rw [hP3]; intro j u h; have := strs_cells_from (HE.out.stay hb (Nat.le_refl _)) (k + 1) j u h; rwa [Addr.add_lit] at this))
    have HPL := hid (show 0 + k + (l.length - (k + 1)) = (outT l k).length by unfold outT; simp; omega)
    have O1 := hid (show ∀ u ∈ P1, u.oneCell' = true by rw [hP1]; exact strs_one _)
    have O3 := hid (show ∀ u ∈ P3, u.oneCell' = true by rw [hP3]; exact strs_one _)
    have D1 := hid (fun W (hb : Below w.heap.size w W) => (show ∀ j u, P1[j]? = some u → W.cell? ((⟨g, o, none⟩ : Addr).add j) = some u by rw [hP1]; exact strs_cells_to (HE.out.stay hb (Nat.le_refl _)) k))
    have HP := hid (show ([] ++ P1) ++ P3 = (outT l k).map Value.string by rw [hP1, hP3]; unfold outT; simp)
    have HB0 := hid (show Below w.heap.size w (w.alloc (.cells #[] 9)).drew from ((Below.refl w.heap.size w).alloc (Nat.le_refl _) _).drew)
    have HW := hid (show (w.alloc (.cells #[] 9)).drew.ownsRow w.heap.size 9 1 (.slice (some ⟨w.heap.size, 0, none⟩) 0 0) 0 [] from own_made w 9)
    have hb1 : 0 + k ≤ maxLen := by unfold maxLen; omega
    have hb2 : (0 + k) * 16 ≤ 140737488355328 := by omega
    have hb3 : 0 + k + (l.length - (k + 1)) ≤ maxLen := by unfold maxLen; omega
    have hb4 : (0 + k + (l.length - (k + 1))) * 16 ≤ 140737488355328 := by omega
    have HBS := hid (And.intro (And.intro hb1 hb2) (And.intro hb3 hb4))
    clear hb1 hb2 hb3 hb4 hP1 hP3
    have hwr : IntKind.i64.wrap ((k : Int) + 1) = (k : Int) + 1 := by rw [IntKind.wrap_i64]; omega
    have hp0 : (0 : Int) ≤ (k : Int) + 1 := by omega
    have hp1 : (k : Int) + 1 ≤ (l.length : Int) := by omega
    have hp2 : ((k : Int) + 1).toNat = k + 1 := by omega
    have hp3 : (k : Int) ≤ (k : Int) + 1 := by omega
    have hk1 : k ≤ l.length := by omega
    have hk2 : k ≤ c := by omega
    go_wp2_with fail
    go_region_law (first | (refine step_append_own rfl (.tmp 5) (.tmp 8) 23 rfl w.heap.size 9 i0 _ 1 16 Tryz.underlying23 hi hz0 hz1 hz2 rfl (by decide) _ _ _ (by simp [Act.eval]) HW.out ⟨g, o, none⟩ k c P1 (by simp [Act.eval]) L1.out (D1.out _ HB0.out) O1.out HBS.out.1.1 HBS.out.1.2 HB0.out.size ?_; intro v1 w1 hown1 hg1 hn1; have HB1 := hid (HB0.out.grown hg1 HB0.out.size (fun j hj => (HW.out.lt j hj).1)); obtain ⟨a1, k1, rfl⟩ := ownB_form hown1; have HO1 := hid hown1; clear hown1 hg1 hn1) | (refine step_append_own rfl (.tmp 9) (.tmp 13) 23 rfl w.heap.size 9 i0 _ 1 16 Tryz.underlying23 hi hz0 hz1 hz2 rfl (by decide) _ _ _ (by simp [Act.eval]) HO1.out ⟨g, o + (k + 1), none⟩ (l.length - (k + 1)) (c - (k + 1)) P3 (by simp [Act.eval]) L3.out (fun j u h => by rw [Addr.add_lit]; exact D3.out _ HB1.out j u h) O3.out HBS.out.2.1 HBS.out.2.2 HB1.out.size ?_; intro v3 w3 hown3 hg3 hn3; have HB3 := hid (HB1.out.grown hg3 HB1.out.size (fun j hj => (HO1.out.lt j hj).1)); obtain ⟨a3, k3, rfl⟩ := ownB_form hown3; have HO3 := hid hown3; clear hown3 hg3 hn3))
    go_wp2
    go_ret
    have hfin := HO3.out
    rw [HPL.out, HP.out] at hfin
    refine ⟨a3, k3, ?_, hfin, HB3.out⟩
    show Ending.returned (.slice a3 _ k3) = _
    rw [← HPL.out]
    simp
theorem l03Out_own (b k : Nat) (v : Value) (l : List ByteArray) (w : World) (h : w.ownsRow b 9 1 v l.length (l.map Value.string)) (hk : k < l.length) (hn : l.length ≤ 1048576) :
    Calls Tryz.prog 97 #[v, .int .i64 k] w fun e w' => ∃ a n, e = .returned (.slice a (outT l k).length n) ∧ w'.ownsRow w.heap.size 9 1 (.slice a (outT l k).length n) (outT l k).length ((outT l k).map Value.string) ∧ Below w.heap.size w w' := by
  rcases h.2 with ⟨hv, h0⟩ | ⟨g, cap, cur, hv, _, _, hle, hcm, _⟩
  · omega
  · have hlt := (h.lt g (by rw [hv]; rfl)).2
    have hE : StrsAt w g 0 l := ⟨hlt, fun i hi => by
      have := h.cells (g := g) (by rw [hv]; rfl) i (.string l[i]) (by simp [hi])
      rw [Addr.add_lit] at this
      exact this⟩
    subst hv
    exact l03Out_row g 0 cap k l w hE hk hle hn hcm
end Go.Proofs.YthggcdadipjiiaaGreatDoor

/-
  Two blocks laid: nothing old has turned. Of no function.
-/
namespace Go.Proofs.YthggcdadipjiiaaGreatDoor
open Go.RowKit

theorem below2 (w : World) (o1 o2 : Obj) : Below w.heap.size w ((w.alloc o1).alloc o2) := ((Below.refl _ _).alloc (Nat.le_refl _) o1).alloc (by simp) o2
end Go.Proofs.YthggcdadipjiiaaGreatDoor

/-
  What the type impl.Var is in memory. Of no function.
-/
namespace Go.Proofs.YthggcdadipjiiaaGreatDoor
open Go.RowKit

theorem Tryz.infoVar : (Tryz.prog.info? 138).map (fun i => (i.zero, i.size, i.bytes)) = some (some (.agg #[.string ⟨#[]⟩, .string ⟨#[]⟩]), 2, 32) := by kernel_rfl
end Go.Proofs.YthggcdadipjiiaaGreatDoor

/-
  append of any slice onto a row of one's own, at the walk of a list: laws. Of no function.
-/
namespace Go.Proofs.YthggcdadipjiiaaGreatDoor
open Go.RowKit

theorem wpList_append_nil {P : Program} {w : World} {ops : Array Oper} {rest : List Oper} {o : Oper} {a : Act} {Q : Exit → Act → World → Prop} (hgd : o.guard = none) (s x : Operand) (t : TypeId)
    (ho : o.op = .call { callee := .builtin .append, args := #[s, x], argTypes := #[t, t] })
    (base : Nat) (e : TypeId) (i : TypeInfo) (size c : Nat) (ht : P.underlying t = some (.slice e)) (hi : P.info? e = some i)
    (v : Value) (n : Nat) (xs : List Value) (hs : a.eval s = v) (hown : w.ownsRow base e size v n xs) (hx : a.eval x = .slice none 0 c)
    (h : wpList P ops Q rest (a.put o.dst v) w) : wpList P ops Q (o :: rest) a w := by
  refine wpList_plain hgd fun K hK => ?_
  have hrun := run_append_own_nil (P := P) (w := w) base t o.type e i size c ht hi v n xs hown
  unfold Oper.wp
  simp [execOp, ho, resolve, invoke, builtin, hs, hx, hrun, Result.andThen]
  exact hK _ _ h
theorem wpList_append_sl {P : Program} {w : World} {ops : Array Oper} {rest : List Oper} {o : Oper} {a : Act} {Q : Exit → Act → World → Prop} (hgd : o.guard = none) (s x : Operand) (t : TypeId)
    (ho : o.op = .call { callee := .builtin .append, args := #[s, x], argTypes := #[t, t] })
    (base : Nat) (e : TypeId) (i : TypeInfo) (z : Value) (size bytes : Nat) (ht : P.underlying t = some (.slice e)) (hi : P.info? e = some i) (hz : i.zero = some z)
    (hsize : i.size = size) (hby : i.bytes = bytes) (hzs : z.cells.size = size) (hsz : 0 < size)
    (v : Value) (n : Nat) (xs : List Value) (hs : a.eval s = v) (hown : w.ownsRow base e size v n xs)
    (m : Nat) (news : List Value) (X : Value) (hx : a.eval x = X) (hX : CellsSl w X size m news)
    (h63 : n + m ≤ maxLen) (hbytes : (n + m) * bytes ≤ 140737488355328) (hbase : base ≤ w.heap.size)
    (h : ∀ v' w', w'.ownsRow base e size v' (n + m) (xs ++ news) → w.grownBy w' v.ownBlock → wpList P ops Q rest (a.put o.dst v') w') : wpList P ops Q (o :: rest) a w := by
  obtain ⟨h1, h2, ⟨c, rfl, rfl⟩ | ⟨ad, c, rfl, h3⟩⟩ := hX
  · have hn : news = [] := List.eq_nil_of_length_eq_zero (by simpa using h1)
    subst hn
    refine wpList_append_nil hgd s x t ho base e i size c ht hi v n xs hs hown hx (h v w ?_ ?_)
    · simpa using hown
    · exact ⟨rfl, rfl, rfl, Nat.le_refl _, fun _ _ _ => rfl⟩
  · exact wpList_append_own w hgd s x t ho base e i z size bytes ht hi hz hsize hby hzs hsz v n xs hs hown ad m c news hx h1 h3 h2 h63 hbytes hbase fun v' w' g1 g2 _ => h v' w' g1 g2
end Go.Proofs.YthggcdadipjiiaaGreatDoor

/-
  append of any slice of texts, or of pairs, onto a row of one's own: laws for the walk.
-/
namespace Go.Proofs.YthggcdadipjiiaaGreatDoor
open Go.RowKit Go.Sort

end Go.Proofs.YthggcdadipjiiaaGreatDoor

/-
  What spec.l03Copy answers: a State whose rows are new: a contract over the seat's program. (Made by mkcopy.py.)
-/
namespace Go.Proofs.YthggcdadipjiiaaGreatDoor
open Go.RowKit Go.Sort

theorem own_made2 (w : World) (T : TypeId) : (w.alloc (.cells #[] T)).ownsRow w.heap.size T 2 (.slice (some ⟨w.heap.size, 0, none⟩) 0 0) 0 [] :=
  ⟨rfl, .inr ⟨w.heap.size, 0, #[], rfl, Nat.le_refl _, by show (w.heap.push (Obj.cells #[] T))[w.heap.size]? = some _; simp, Nat.le_refl _, Nat.zero_le _, rfl, rfl⟩⟩
set_option maxRecDepth 100000 in
set_option maxHeartbeats 4000000 in
theorem l03Copy_any (a3 a4 a5 : Option Addr) (k3 k4 k5 : Nat) (st bg la fa : Int) (wt bs : List ByteArray) (vs : List Pr) (w : World) (h3 : StrSl w (.slice a3 wt.length k3) wt) (h4 : StrSl w (.slice a4 bs.length k4) bs) (h5 : PrSl w (.slice a5 vs.length k5) vs) (n3 : wt.length ≤ 1048576) (n4 : bs.length ≤ 1048576) (n5 : vs.length ≤ 1048576) :
    Calls Tryz.prog 79 #[.agg #[.int .i64 st, .int .i64 bg, .int .i64 la, .slice a3 wt.length k3, .slice a4 bs.length k4, .slice a5 vs.length k5, .int .i64 fa]] w fun e w' => ∃ b3 b4 b5 c3 c4 c5 m1 m2, e = .returned (.agg #[.int .i64 st, .int .i64 bg, .int .i64 la, .slice b3 wt.length c3, .slice b4 bs.length c4, .slice b5 vs.length c5, .int .i64 fa]) ∧ w'.ownsRow w.heap.size 9 1 (.slice b3 wt.length c3) wt.length (wt.map Value.string) ∧ w'.ownsRow m1 9 1 (.slice b4 bs.length c4) bs.length (bs.map Value.string) ∧ w'.ownsRow m2 138 2 (.slice b5 vs.length c5) vs.length (vs.flatMap Pr.cells) ∧ (w.heap.size ≤ m1 ∧ m1 ≤ m2 ∧ (∀ g, (Value.slice b3 wt.length c3).ownBlock = some g → g < m1) ∧ (∀ g, (Value.slice b4 bs.length c4).ownBlock = some g → g < m2)) ∧ Below w.heap.size w w' := by
  have H3 := hid h3
  have H4 := hid h4
  have H5 := hid h5
  have N3 := hid n3
  have N4 := hid n4
  have N5 := hid n5
  clear h3 h4 h5 n3 n4 n5
  go_enter Tryz.func79, Tryz.ntmps79
  obtain ⟨i0, hi, hz0, hz1, hz2⟩ := info_parts Tryz.infoStr
  obtain ⟨j0, hj, hj0, hj1, hj2⟩ := info_parts Tryz.infoVar
  have hs0 : Below w.heap.size w ((w.alloc (.cells #[.int .i64 st, .int .i64 bg, .int .i64 la, .slice a3 wt.length k3, .slice a4 bs.length k4, .slice a5 vs.length k5, .int .i64 fa] 91)).alloc (.cells #[.int .i64 0, .int .i64 0, .int .i64 0, .slice none 0 0, .slice none 0 0, .slice none 0 0, .int .i64 0] 91)) := below2 _ _ _
  have hwa := own_made ((w.alloc (.cells #[.int .i64 st, .int .i64 bg, .int .i64 la, .slice a3 wt.length k3, .slice a4 bs.length k4, .slice a5 vs.length k5, .int .i64 fa] 91)).alloc (.cells #[.int .i64 0, .int .i64 0, .int .i64 0, .slice none 0 0, .slice none 0 0, .slice none 0 0, .int .i64 0] 91)) 9
  have hxa := (H3.out.stay (hs0.alloc hs0.size (.cells #[] 9)) (Nat.le_refl _)).cellsSl
  have hzz : ((w.alloc (.cells #[.int .i64 st, .int .i64 bg, .int .i64 la, .slice a3 wt.length k3, .slice a4 bs.length k4, .slice a5 vs.length k5, .int .i64 fa] 91)).alloc (.cells #[.int .i64 0, .int .i64 0, .int .i64 0, .slice none 0 0, .slice none 0 0, .slice none 0 0, .int .i64 0] 91)).heap.size = w.heap.size + 1 + 1 := by simp
  rw [hzz] at hwa
  have HXa := hid hxa
  have HWa := hid hwa
  clear hxa hwa
  go_wp2_with (first | (at_builtin; refine wpList_append_sl rfl _ _ 23 rfl (w.heap.size + 1 + 1) 9 i0 _ 1 16 Tryz.underlying23 hi hz0 hz1 hz2 rfl (by decide) _ 0 [] rfl HWa.out wt.length (wt.map Value.string) _ rfl HXa.out ?c2 ?c3 ?c4 ?_) | fail)
  case c2 => have := N3.out; unfold maxLen; omega
  case c3 => have := N3.out; omega
  case c4 => simp
  intro v3 w1 ho3 hg3
  obtain ⟨b3, c3, rfl⟩ := ownB_form ho3
  have hb3 : Below (w.heap.size + 1 + 1) ((w.alloc (.cells #[.int .i64 st, .int .i64 bg, .int .i64 la, .slice a3 wt.length k3, .slice a4 bs.length k4, .slice a5 vs.length k5, .int .i64 fa] 91)).alloc (.cells #[.int .i64 0, .int .i64 0, .int .i64 0, .slice none 0 0, .slice none 0 0, .slice none 0 0, .int .i64 0] 91)) w1 := ((Below.refl (w.heap.size + 1 + 1) ((w.alloc (.cells #[.int .i64 st, .int .i64 bg, .int .i64 la, .slice a3 wt.length k3, .slice a4 bs.length k4, .slice a5 vs.length k5, .int .i64 fa] 91)).alloc (.cells #[.int .i64 0, .int .i64 0, .int .i64 0, .slice none 0 0, .slice none 0 0, .slice none 0 0, .int .i64 0] 91))).alloc (by simp) (.cells #[] 9)).grown hg3 (by simp) (fun j hj => (HWa.out.lt j hj).1)
  have HB3 := hid (hs0.trans (hb3.mono (by omega)))
  have hz3 : w.heap.size + 1 + 1 ≤ w1.heap.size := by have := hb3.size; simp at this; omega
  have p0a : w.heap.size < w.heap.size + 1 + 1 := by omega
  have p1a : w.heap.size + 1 < w.heap.size + 1 + 1 := by omega
  have sa0 : w1.cell? ⟨w.heap.size, 0, none⟩ = some (.int .i64 st) := (hb3.cell (p := ⟨w.heap.size, 0, none⟩) p0a).trans (by simp [go_sem])
  have sa1 : w1.cell? ⟨w.heap.size, 1, none⟩ = some (.int .i64 bg) := (hb3.cell (p := ⟨w.heap.size, 1, none⟩) p0a).trans (by simp [go_sem])
  have sa2 : w1.cell? ⟨w.heap.size, 2, none⟩ = some (.int .i64 la) := (hb3.cell (p := ⟨w.heap.size, 2, none⟩) p0a).trans (by simp [go_sem])
  have sa3 : w1.cell? ⟨w.heap.size, 3, none⟩ = some (.slice a3 wt.length k3) := (hb3.cell (p := ⟨w.heap.size, 3, none⟩) p0a).trans (by simp [go_sem])
  have sa4 : w1.cell? ⟨w.heap.size, 4, none⟩ = some (.slice a4 bs.length k4) := (hb3.cell (p := ⟨w.heap.size, 4, none⟩) p0a).trans (by simp [go_sem])
  have sa5 : w1.cell? ⟨w.heap.size, 5, none⟩ = some (.slice a5 vs.length k5) := (hb3.cell (p := ⟨w.heap.size, 5, none⟩) p0a).trans (by simp [go_sem])
  have sa6 : w1.cell? ⟨w.heap.size, 6, none⟩ = some (.int .i64 fa) := (hb3.cell (p := ⟨w.heap.size, 6, none⟩) p0a).trans (by simp [go_sem])
  have ra0 : w1.cell? ⟨w.heap.size + 1, 0, none⟩ = some (.int .i64 0) := (hb3.cell (p := ⟨w.heap.size + 1, 0, none⟩) p1a).trans (by simp [go_sem])
  have ra1 : w1.cell? ⟨w.heap.size + 1, 1, none⟩ = some (.int .i64 0) := (hb3.cell (p := ⟨w.heap.size + 1, 1, none⟩) p1a).trans (by simp [go_sem])
  have ra2 : w1.cell? ⟨w.heap.size + 1, 2, none⟩ = some (.int .i64 0) := (hb3.cell (p := ⟨w.heap.size + 1, 2, none⟩) p1a).trans (by simp [go_sem])
  have ra3 : w1.cell? ⟨w.heap.size + 1, 3, none⟩ = some (.slice none 0 0) := (hb3.cell (p := ⟨w.heap.size + 1, 3, none⟩) p1a).trans (by simp [go_sem])
  have ra4 : w1.cell? ⟨w.heap.size + 1, 4, none⟩ = some (.slice none 0 0) := (hb3.cell (p := ⟨w.heap.size + 1, 4, none⟩) p1a).trans (by simp [go_sem])
  have ra5 : w1.cell? ⟨w.heap.size + 1, 5, none⟩ = some (.slice none 0 0) := (hb3.cell (p := ⟨w.heap.size + 1, 5, none⟩) p1a).trans (by simp [go_sem])
  have ra6 : w1.cell? ⟨w.heap.size + 1, 6, none⟩ = some (.int .i64 0) := (hb3.cell (p := ⟨w.heap.size + 1, 6, none⟩) p1a).trans (by simp [go_sem])
  have fsa : ∀ o, w1.frozen? ⟨w.heap.size, o, none⟩ = false := fun o => (hb3.frozen (p := ⟨w.heap.size, o, none⟩) p0a).trans (by simp [go_sem])
  have fra : ∀ o, w1.frozen? ⟨w.heap.size + 1, o, none⟩ = false := fun o => (hb3.frozen (p := ⟨w.heap.size + 1, o, none⟩) p1a).trans (by simp [go_sem])
  have HO3a := hid ho3
  clear hzz ho3 hg3 hb3 hs0
  have hs1 : Below w.heap.size w (w1.setCell ⟨w.heap.size, 3, none⟩ (.slice b3 wt.length c3)) := HB3.out.setCell (p := ⟨w.heap.size, 3, none⟩) (Nat.le_refl _) _
  have hwb := own_made (w1.setCell ⟨w.heap.size, 3, none⟩ (.slice b3 wt.length c3)) 9
  have hxb := (H4.out.stay (hs1.alloc hs1.size (.cells #[] 9)) (Nat.le_refl _)).cellsSl
  have hzz : (w1.setCell ⟨w.heap.size, 3, none⟩ (.slice b3 wt.length c3)).heap.size = w1.heap.size := by simp
  rw [hzz] at hwb
  have hld : ((w1.setCell ⟨w.heap.size, 3, none⟩ (.slice b3 wt.length c3)).alloc (.cells #[] 9)).cell? ⟨w.heap.size, 4, none⟩ = some (.slice a4 bs.length k4) := (((Below.refl (w1.heap.size) (w1.setCell ⟨w.heap.size, 3, none⟩ (.slice b3 wt.length c3))).alloc (by simp) (.cells #[] 9)).cell (p := ⟨w.heap.size, 4, none⟩) (by show w.heap.size < _; omega)).trans (by simp [go_sem, sa4])
  have HXb := hid hxb
  have HWb := hid hwb
  clear hxb hwb
  go_wp2_with (first | (at_builtin; refine wpList_append_sl rfl _ _ 23 rfl (w1.heap.size) 9 i0 _ 1 16 Tryz.underlying23 hi hz0 hz1 hz2 rfl (by decide) _ 0 [] rfl HWb.out bs.length (bs.map Value.string) _ rfl HXb.out ?c2 ?c3 ?c4 ?_) | fail)
  case c2 => have := N4.out; unfold maxLen; omega
  case c3 => have := N4.out; omega
  case c4 => simp
  intro v4 w2 ho4 hg4
  obtain ⟨b4, c4, rfl⟩ := ownB_form ho4
  have hb4 : Below (w1.heap.size) (w1.setCell ⟨w.heap.size, 3, none⟩ (.slice b3 wt.length c3)) w2 := ((Below.refl (w1.heap.size) (w1.setCell ⟨w.heap.size, 3, none⟩ (.slice b3 wt.length c3))).alloc (by simp) (.cells #[] 9)).grown hg4 (by simp) (fun j hj => (HWb.out.lt j hj).1)
  have HB4 := hid (hs1.trans (hb4.mono (by have := HB3.out.size; omega)))
  have hz4 : w1.heap.size ≤ w2.heap.size := by have := hb4.size; simp at this; omega
  have p0b : w.heap.size < w1.heap.size := by omega
  have p1b : w.heap.size + 1 < w1.heap.size := by omega
  have sb0 : w2.cell? ⟨w.heap.size, 0, none⟩ = some (.int .i64 st) := (hb4.cell (p := ⟨w.heap.size, 0, none⟩) p0b).trans (by simp [go_sem, sa0])
  have sb1 : w2.cell? ⟨w.heap.size, 1, none⟩ = some (.int .i64 bg) := (hb4.cell (p := ⟨w.heap.size, 1, none⟩) p0b).trans (by simp [go_sem, sa1])
  have sb2 : w2.cell? ⟨w.heap.size, 2, none⟩ = some (.int .i64 la) := (hb4.cell (p := ⟨w.heap.size, 2, none⟩) p0b).trans (by simp [go_sem, sa2])
  have sb3 : w2.cell? ⟨w.heap.size, 3, none⟩ = some (.slice b3 wt.length c3) := (hb4.cell (p := ⟨w.heap.size, 3, none⟩) p0b).trans (by simp [go_sem, sa3])
  have sb4 : w2.cell? ⟨w.heap.size, 4, none⟩ = some (.slice a4 bs.length k4) := (hb4.cell (p := ⟨w.heap.size, 4, none⟩) p0b).trans (by simp [go_sem, sa4])
  have sb5 : w2.cell? ⟨w.heap.size, 5, none⟩ = some (.slice a5 vs.length k5) := (hb4.cell (p := ⟨w.heap.size, 5, none⟩) p0b).trans (by simp [go_sem, sa5])
  have sb6 : w2.cell? ⟨w.heap.size, 6, none⟩ = some (.int .i64 fa) := (hb4.cell (p := ⟨w.heap.size, 6, none⟩) p0b).trans (by simp [go_sem, sa6])
  have rb0 : w2.cell? ⟨w.heap.size + 1, 0, none⟩ = some (.int .i64 0) := (hb4.cell (p := ⟨w.heap.size + 1, 0, none⟩) p1b).trans (by simp [go_sem, ra0])
  have rb1 : w2.cell? ⟨w.heap.size + 1, 1, none⟩ = some (.int .i64 0) := (hb4.cell (p := ⟨w.heap.size + 1, 1, none⟩) p1b).trans (by simp [go_sem, ra1])
  have rb2 : w2.cell? ⟨w.heap.size + 1, 2, none⟩ = some (.int .i64 0) := (hb4.cell (p := ⟨w.heap.size + 1, 2, none⟩) p1b).trans (by simp [go_sem, ra2])
  have rb3 : w2.cell? ⟨w.heap.size + 1, 3, none⟩ = some (.slice none 0 0) := (hb4.cell (p := ⟨w.heap.size + 1, 3, none⟩) p1b).trans (by simp [go_sem, ra3])
  have rb4 : w2.cell? ⟨w.heap.size + 1, 4, none⟩ = some (.slice none 0 0) := (hb4.cell (p := ⟨w.heap.size + 1, 4, none⟩) p1b).trans (by simp [go_sem, ra4])
  have rb5 : w2.cell? ⟨w.heap.size + 1, 5, none⟩ = some (.slice none 0 0) := (hb4.cell (p := ⟨w.heap.size + 1, 5, none⟩) p1b).trans (by simp [go_sem, ra5])
  have rb6 : w2.cell? ⟨w.heap.size + 1, 6, none⟩ = some (.int .i64 0) := (hb4.cell (p := ⟨w.heap.size + 1, 6, none⟩) p1b).trans (by simp [go_sem, ra6])
  have fsb : ∀ o, w2.frozen? ⟨w.heap.size, o, none⟩ = false := fun o => (hb4.frozen (p := ⟨w.heap.size, o, none⟩) p0b).trans (by simp [go_sem, fsa])
  have frb : ∀ o, w2.frozen? ⟨w.heap.size + 1, o, none⟩ = false := fun o => (hb4.frozen (p := ⟨w.heap.size + 1, o, none⟩) p1b).trans (by simp [go_sem, fra])
  have HO3b := hid (ownB_stay (ownsRow_setCell_below HO3a.out (a := ⟨w.heap.size, 3, none⟩) (by show w.heap.size < _; omega) (.slice b3 wt.length c3)) (hb4.mono (by simp)))
  have HO4b := hid ho4
  have HL3 := hid (fun g (hg : (Value.slice b3 wt.length c3).ownBlock = some g) => (HO3a.out.lt g hg).2)
  clear hzz ho4 hg4 hb4 hs1 hld sa0 ra0 sa1 ra1 sa2 ra2 sa3 ra3 sa4 ra4 sa5 ra5 sa6 ra6 fsa fra
  have hs2 : Below w.heap.size w (w2.setCell ⟨w.heap.size, 4, none⟩ (.slice b4 bs.length c4)) := HB4.out.setCell (p := ⟨w.heap.size, 4, none⟩) (Nat.le_refl _) _
  have hwc := own_made2 (w2.setCell ⟨w.heap.size, 4, none⟩ (.slice b4 bs.length c4)) 138
  have hxc := (H5.out.stay (hs2.alloc hs2.size (.cells #[] 138)) (Nat.le_refl _)).cellsSl
  have hzz : (w2.setCell ⟨w.heap.size, 4, none⟩ (.slice b4 bs.length c4)).heap.size = w2.heap.size := by simp
  rw [hzz] at hwc
  have hld : ((w2.setCell ⟨w.heap.size, 4, none⟩ (.slice b4 bs.length c4)).alloc (.cells #[] 138)).cell? ⟨w.heap.size, 5, none⟩ = some (.slice a5 vs.length k5) := (((Below.refl (w2.heap.size) (w2.setCell ⟨w.heap.size, 4, none⟩ (.slice b4 bs.length c4))).alloc (by simp) (.cells #[] 138)).cell (p := ⟨w.heap.size, 5, none⟩) (by show w.heap.size < _; omega)).trans (by simp [go_sem, sb5])
  have HXc := hid hxc
  have HWc := hid hwc
  clear hxc hwc
  go_wp2_with (first | (at_builtin; refine wpList_append_sl rfl _ _ 89 rfl (w2.heap.size) 138 j0 _ 2 32 Tryz.underlying89 hj hj0 hj1 hj2 rfl (by decide) _ 0 [] rfl HWc.out vs.length (vs.flatMap Pr.cells) _ rfl HXc.out ?c2 ?c3 ?c4 ?_) | fail)
  case c2 => have := N5.out; unfold maxLen; omega
  case c3 => have := N5.out; omega
  case c4 => simp
  intro v5 w3 ho5 hg5
  obtain ⟨b5, c5, rfl⟩ := ownB_form ho5
  have hb5 : Below (w2.heap.size) (w2.setCell ⟨w.heap.size, 4, none⟩ (.slice b4 bs.length c4)) w3 := ((Below.refl (w2.heap.size) (w2.setCell ⟨w.heap.size, 4, none⟩ (.slice b4 bs.length c4))).alloc (by simp) (.cells #[] 138)).grown hg5 (by simp) (fun j hj => (HWc.out.lt j hj).1)
  have HB5 := hid (hs2.trans (hb5.mono (by have := HB4.out.size; omega)))
  have hz5 : w2.heap.size ≤ w3.heap.size := by have := hb5.size; simp at this; omega
  have p0c : w.heap.size < w2.heap.size := by omega
  have p1c : w.heap.size + 1 < w2.heap.size := by omega
  have sc0 : w3.cell? ⟨w.heap.size, 0, none⟩ = some (.int .i64 st) := (hb5.cell (p := ⟨w.heap.size, 0, none⟩) p0c).trans (by simp [go_sem, sb0])
  have sc1 : w3.cell? ⟨w.heap.size, 1, none⟩ = some (.int .i64 bg) := (hb5.cell (p := ⟨w.heap.size, 1, none⟩) p0c).trans (by simp [go_sem, sb1])
  have sc2 : w3.cell? ⟨w.heap.size, 2, none⟩ = some (.int .i64 la) := (hb5.cell (p := ⟨w.heap.size, 2, none⟩) p0c).trans (by simp [go_sem, sb2])
  have sc3 : w3.cell? ⟨w.heap.size, 3, none⟩ = some (.slice b3 wt.length c3) := (hb5.cell (p := ⟨w.heap.size, 3, none⟩) p0c).trans (by simp [go_sem, sb3])
  have sc4 : w3.cell? ⟨w.heap.size, 4, none⟩ = some (.slice b4 bs.length c4) := (hb5.cell (p := ⟨w.heap.size, 4, none⟩) p0c).trans (by simp [go_sem, sb4])
  have sc5 : w3.cell? ⟨w.heap.size, 5, none⟩ = some (.slice a5 vs.length k5) := (hb5.cell (p := ⟨w.heap.size, 5, none⟩) p0c).trans (by simp [go_sem, sb5])
  have sc6 : w3.cell? ⟨w.heap.size, 6, none⟩ = some (.int .i64 fa) := (hb5.cell (p := ⟨w.heap.size, 6, none⟩) p0c).trans (by simp [go_sem, sb6])
  have rc0 : w3.cell? ⟨w.heap.size + 1, 0, none⟩ = some (.int .i64 0) := (hb5.cell (p := ⟨w.heap.size + 1, 0, none⟩) p1c).trans (by simp [go_sem, rb0])
  have rc1 : w3.cell? ⟨w.heap.size + 1, 1, none⟩ = some (.int .i64 0) := (hb5.cell (p := ⟨w.heap.size + 1, 1, none⟩) p1c).trans (by simp [go_sem, rb1])
  have rc2 : w3.cell? ⟨w.heap.size + 1, 2, none⟩ = some (.int .i64 0) := (hb5.cell (p := ⟨w.heap.size + 1, 2, none⟩) p1c).trans (by simp [go_sem, rb2])
  have rc3 : w3.cell? ⟨w.heap.size + 1, 3, none⟩ = some (.slice none 0 0) := (hb5.cell (p := ⟨w.heap.size + 1, 3, none⟩) p1c).trans (by simp [go_sem, rb3])
  have rc4 : w3.cell? ⟨w.heap.size + 1, 4, none⟩ = some (.slice none 0 0) := (hb5.cell (p := ⟨w.heap.size + 1, 4, none⟩) p1c).trans (by simp [go_sem, rb4])
  have rc5 : w3.cell? ⟨w.heap.size + 1, 5, none⟩ = some (.slice none 0 0) := (hb5.cell (p := ⟨w.heap.size + 1, 5, none⟩) p1c).trans (by simp [go_sem, rb5])
  have rc6 : w3.cell? ⟨w.heap.size + 1, 6, none⟩ = some (.int .i64 0) := (hb5.cell (p := ⟨w.heap.size + 1, 6, none⟩) p1c).trans (by simp [go_sem, rb6])
  have fsc : ∀ o, w3.frozen? ⟨w.heap.size, o, none⟩ = false := fun o => (hb5.frozen (p := ⟨w.heap.size, o, none⟩) p0c).trans (by simp [go_sem, fsb])
  have frc : ∀ o, w3.frozen? ⟨w.heap.size + 1, o, none⟩ = false := fun o => (hb5.frozen (p := ⟨w.heap.size + 1, o, none⟩) p1c).trans (by simp [go_sem, frb])
  have HO3c := hid (ownB_stay (ownsRow_setCell_below HO3b.out (a := ⟨w.heap.size, 4, none⟩) (by show w.heap.size < _; omega) (.slice b4 bs.length c4)) (hb5.mono (by simp)))
  have HO4c := hid (ownB_stay (ownsRow_setCell_below HO4b.out (a := ⟨w.heap.size, 4, none⟩) (by show w.heap.size < _; omega) (.slice b4 bs.length c4)) (hb5.mono (by simp)))
  have HO5c := hid ho5
  have HL4 := hid (fun g (hg : (Value.slice b4 bs.length c4).ownBlock = some g) => (HO4b.out.lt g hg).2)
  clear hzz ho5 hg5 hb5 hs2 hld sb0 rb0 sb1 rb1 sb2 rb2 sb3 rb3 sb4 rb4 sb5 rb5 sb6 rb6 fsb frb
  go_wp2
  refine bodyPost_ret (v := .agg #[.int .i64 st, .int .i64 bg, .int .i64 la, .slice b3 wt.length c3, .slice b4 bs.length c4, .slice b5 vs.length c5, .int .i64 fa]) (by simp [results, Tryz.results79, go_sem, rc0, rc1, rc2, rc3, rc4, rc5, rc6]) rfl ⟨b3, b4, b5, c3, c4, c5, w1.heap.size, w2.heap.size, rfl, ?_, ?_, ?_, ⟨by omega, by omega, HL3.out, HL4.out⟩, ?_⟩
  · exact ownB_le (ownsRow_setCell_below (ownsRow_setCell_below (ownsRow_setCell_below (ownsRow_setCell_below (ownsRow_setCell_below (ownsRow_setCell_below (ownsRow_setCell_below (ownsRow_setCell_below (HO3c.out) (by show w.heap.size < _; omega) _) (by show w.heap.size + 1 < _; omega) _) (by show w.heap.size + 1 < _; omega) _) (by show w.heap.size + 1 < _; omega) _) (by show w.heap.size + 1 < _; omega) _) (by show w.heap.size + 1 < _; omega) _) (by show w.heap.size + 1 < _; omega) _) (by show w.heap.size + 1 < _; omega) _) (show w.heap.size ≤ w.heap.size + 1 + 1 by omega)
  · exact ownsRow_setCell_below (ownsRow_setCell_below (ownsRow_setCell_below (ownsRow_setCell_below (ownsRow_setCell_below (ownsRow_setCell_below (ownsRow_setCell_below (ownsRow_setCell_below (HO4c.out) (by show w.heap.size < _; omega) _) (by show w.heap.size + 1 < _; omega) _) (by show w.heap.size + 1 < _; omega) _) (by show w.heap.size + 1 < _; omega) _) (by show w.heap.size + 1 < _; omega) _) (by show w.heap.size + 1 < _; omega) _) (by show w.heap.size + 1 < _; omega) _) (by show w.heap.size + 1 < _; omega) _
  · exact ownsRow_setCell_below (ownsRow_setCell_below (ownsRow_setCell_below (ownsRow_setCell_below (ownsRow_setCell_below (ownsRow_setCell_below (ownsRow_setCell_below (ownsRow_setCell_below (HO5c.out) (by show w.heap.size < _; omega) _) (by show w.heap.size + 1 < _; omega) _) (by show w.heap.size + 1 < _; omega) _) (by show w.heap.size + 1 < _; omega) _) (by show w.heap.size + 1 < _; omega) _) (by show w.heap.size + 1 < _; omega) _) (by show w.heap.size + 1 < _; omega) _) (by show w.heap.size + 1 < _; omega) _
  · exact ((((((((HB5.out).setCell (by show w.heap.size ≤ w.heap.size; omega) _).setCell (by show w.heap.size ≤ w.heap.size + 1; omega) _).setCell (by show w.heap.size ≤ w.heap.size + 1; omega) _).setCell (by show w.heap.size ≤ w.heap.size + 1; omega) _).setCell (by show w.heap.size ≤ w.heap.size + 1; omega) _).setCell (by show w.heap.size ≤ w.heap.size + 1; omega) _).setCell (by show w.heap.size ≤ w.heap.size + 1; omega) _).setCell (by show w.heap.size ≤ w.heap.size + 1; omega) _
end Go.Proofs.YthggcdadipjiiaaGreatDoor
