/-
  Texts put together: SpOut, Bel.
-/
import Derived.Test.YtihpadabgfhegaaGreatDoorZSpPut
import Derived.Deep.RegionLaw
import Derived.Test.YtihpadabgfhegaaGreatDoorZAgg3
/-
  What spec.l03Out answers: a row without one of its texts: a contract over the seat's program.
-/
namespace Go.Proofs.YtihpadabgfhegaaGreatDoor
open Go.RowKit Go.Sort

def outT (l : List ByteArray) (k : Nat) : List ByteArray := l.take k ++ l.drop (k + 1)
/-- append to a row of one's own, as one step of a region that draws. -/
theorem step_append_own {P : Program} {w : World} {ops : Array Oper} {o : Oper} {a : Act} {K : Act → World → Prop} {Q : Exit → Act → World → Prop} {E : Prop} (hgd : o.guard = none) (s x : Operand) (t : TypeId)
    (ho : o.op = .call { callee := .builtin .append, args := #[s, x], argTypes := #[t, t] })
    (base : Nat) (e : TypeId) (i : TypeInfo) (z : Value) (size bytes : Nat) (ht : P.underlying t = some (.slice e)) (hi : P.info? e = some i) (hz : i.zero = some z)
    (hsize : i.size = size) (hby : i.bytes = bytes) (hzs : z.cells.size = size) (hsz : 0 < size)
    (v : Value) (n : Nat) (xs : List Value) (hs : a.eval s = v) (hown : w.ownsRow base e size v n xs)
    (ad : Addr) (m c : Nat) (news : List Value) (hx : a.eval x = .slice (some ad) m c) (hl : news.length = m * size) (hnews : ∀ j u, news[j]? = some u → w.cell? (ad.add j) = some u) (h1 : ∀ u ∈ news, u.oneCell' = true)
    (h63 : n + m ≤ maxLen) (hbytes : (n + m) * bytes ≤ 140737488355328) (hbase : base ≤ w.heap.size)
    (h : ∀ v' w', w'.ownsRow base e size v' (n + m) (xs ++ news) → w.grownBy w' v.ownBlock → (v' = .slice none 0 0 ↔ v = .slice none 0 0 ∧ m = 0) → K (a.put o.dst v') w') :
    if Region.wanted o (yielded ops a.tmps) = true then Oper.wp P o a w K Q else E := by
  rw [if_pos (show Region.wanted o (yielded ops a.tmps) = true by simp [Region.wanted, hgd])]
  exact wp_append_own w s x t ho base e i z size bytes ht hi hz hsize hby hzs hsz v n xs hs hown ad m c news hx hl hnews h1 h63 hbytes hbase h
set_option maxRecDepth 100000 in
set_option maxHeartbeats 2000000 in
theorem l03Out_row (g o c k : Nat) (l : List ByteArray) (w : World) (hE : StrsAt w g o l) (hk : k < l.length) (hc : l.length ≤ c) (hn : l.length ≤ 1048576) (hcm : c ≤ maxLen) :
    Calls Tryz.prog 103 #[.slice (some ⟨g, o, none⟩) l.length c, .int .i64 k] w fun e w' => ∃ a n, e = .returned (.slice a (outT l k).length n) ∧ w'.ownsRow w.heap.size 9 1 (.slice a (outT l k).length n) (outT l k).length ((outT l k).map Value.string) ∧ Below w.heap.size w w' := by
  obtain ⟨i0, hi, hz0, hz1, hz2⟩ := info_parts Tryz.infoStr
  have HE := hid hE
  clear hE
  unfold maxLen at hcm
  go_enter Tryz.func103, Tryz.ntmps103
  by_cases hck : k + 1 = c
  · subst hck
    obtain ⟨P1, hP1⟩ : ∃ P1 : List Value, P1 = (l.take k).map Value.string := ⟨_, rfl⟩
    obtain ⟨P3, hP3⟩ : ∃ P3 : List Value, P3 = (l.drop (k + 1)).map Value.string := ⟨_, rfl⟩
    have L1 := hid (show P1.length = k * 1 by rw [hP1]; simp; omega)
    have L3 := hid (show P3.length = 0 * 1 by rw [hP3, List.drop_eq_nil_of_le (by omega)]; rfl)
    have D4 := hid (show ∀ (j : Nat) (u : Value), P3[j]? = some u → False by rw [hP3, List.drop_eq_nil_of_le (by omega)]; intro j u hj; simp at hj)
    have HPL := hid (show 0 + k + 0 = (outT l k).length by unfold outT; simp; omega)
    have O1 := hid (show ∀ u ∈ P1, u.oneCell' = true by rw [hP1]; exact strs_one _)
    have O3 := hid (show ∀ u ∈ P3, u.oneCell' = true by rw [hP3]; exact strs_one _)
    have D1 := hid (fun W (hb : Below w.heap.size w W) => (show ∀ j u, P1[j]? = some u → W.cell? ((⟨g, o, none⟩ : Addr).add j) = some u by rw [hP1]; exact strs_cells_to (HE.out.stay hb (Nat.le_refl _)) k))
    have HP := hid (show ([] ++ P1) ++ P3 = (outT l k).map Value.string by rw [hP1, hP3]; unfold outT; simp)
    have HB0 := hid (show Below w.heap.size w (w.alloc (.cells #[] 9)).drew from ((Below.refl w.heap.size w).alloc (Nat.le_refl _) _).drew)
    have HW := hid (show (w.alloc (.cells #[] 9)).drew.ownsRow w.heap.size 9 1 (.slice (some ⟨w.heap.size, 0, none⟩) 0 0) 0 [] from own_made w 9)
    have hb1 : 0 + k ≤ maxLen := by unfold maxLen; omega
    have hb2 : (0 + k) * 16 ≤ 140737488355328 := by omega
    have hb3 : 0 + k + 0 ≤ maxLen := by unfold maxLen; omega
    have hb4 : (0 + k + 0) * 16 ≤ 140737488355328 := by omega
    have HBS := hid (And.intro (And.intro hb1 hb2) (And.intro hb3 hb4))
    clear hb1 hb2 hb3 hb4 hP1 hP3
    have hwr : IntKind.i64.wrap ((k : Int) + 1) = (k : Int) + 1 := by rw [IntKind.wrap_i64]; omega
    have hp0 : (0 : Int) ≤ (k : Int) + 1 := by omega
    have hp1 : (k : Int) + 1 ≤ (l.length : Int) := by omega
    have hp2 : ((k : Int) + 1).toNat = k + 1 := by omega
    have hp3 : (k : Int) ≤ (k : Int) + 1 := by omega
    have hk1 : k ≤ l.length := by omega
    have hk2 : k ≤ k + 1 := by omega
    go_wp2_with fail
    go_region_law (first | (refine step_append_own rfl (.tmp 5) (.tmp 8) 23 rfl w.heap.size 9 i0 _ 1 16 Tryz.underlying23 hi hz0 hz1 hz2 rfl (by decide) _ _ _ (by simp [Act.eval]) HW.out ⟨g, o, none⟩ k (k + 1) P1 (by simp [Act.eval]) L1.out (D1.out _ HB0.out) O1.out HBS.out.1.1 HBS.out.1.2 HB0.out.size ?_; intro v1 w1 hown1 hg1 hn1; have HB1 := hid (HB0.out.grown hg1 HB0.out.size (fun j hj => (HW.out.lt j hj).1)); obtain ⟨a1, k1, rfl⟩ := ownB_form hown1; have HO1 := hid hown1; clear hown1 hg1 hn1) | (refine step_append_own rfl (.tmp 9) (.tmp 13) 23 rfl w.heap.size 9 i0 _ 1 16 Tryz.underlying23 hi hz0 hz1 hz2 rfl (by decide) _ _ _ (by simp [Act.eval]) HO1.out ⟨g, o, none⟩ 0 0 P3 (by simp [Act.eval]) L3.out (fun j u h => (D4.out j u h).elim) O3.out HBS.out.2.1 HBS.out.2.2 HB1.out.size ?_; intro v3 w3 hown3 hg3 hn3; have HB3 := hid (HB1.out.grown hg3 HB1.out.size (fun j hj => (HO1.out.lt j hj).1)); obtain ⟨a3, k3, rfl⟩ := ownB_form hown3; have HO3 := hid hown3; clear hown3 hg3 hn3))
    go_wp2
    go_ret
    have hfin := HO3.out
    rw [HPL.out, HP.out] at hfin
    refine ⟨a3, k3, ?_, hfin, HB3.out⟩
    show Ending.returned (.slice a3 _ k3) = _
    rw [← HPL.out]
    simp
  · have hck' : ¬ c = k + 1 := by omega
    obtain ⟨P1, hP1⟩ : ∃ P1 : List Value, P1 = (l.take k).map Value.string := ⟨_, rfl⟩
    obtain ⟨P3, hP3⟩ : ∃ P3 : List Value, P3 = (l.drop (k + 1)).map Value.string := ⟨_, rfl⟩
    have L1 := hid (show P1.length = k * 1 by rw [hP1]; simp; omega)
    have L3 := hid (show P3.length = (l.length - (k + 1)) * 1 by rw [hP3]; simp)
    have D3 := hid (fun W (hb : Below w.heap.size w W) => (show ∀ j u, P3[j]? = some u → W.cell? ⟨g, o + (k + 1) + j, none⟩ = some u by rw [hP3]; intro j u h; have := strs_cells_from (HE.out.stay hb (Nat.le_refl _)) (k + 1) j u h; rwa [Addr.add_lit] at this))
    have HPL := hid (show 0 + k + (l.length - (k + 1)) = (outT l k).length by unfold outT; simp; omega)
    have O1 := hid (show ∀ u ∈ P1, u.oneCell' = true by rw [hP1]; exact strs_one _)
    have O3 := hid (show ∀ u ∈ P3, u.oneCell' = true by rw [hP3]; exact strs_one _)
    have D1 := hid (fun W (hb : Below w.heap.size w W) => (show ∀ j u, P1[j]? = some u → W.cell? ((⟨g, o, none⟩ : Addr).add j) = some u by rw [hP1]; exact strs_cells_to (HE.out.stay hb (Nat.le_refl _)) k))
    have HP := hid (show ([] ++ P1) ++ P3 = (outT l k).map Value.string by rw [hP1, hP3]; unfold outT; simp)
    have HB0 := hid (show Below w.heap.size w (w.alloc (.cells #[] 9)).drew from ((Below.refl w.heap.size w).alloc (Nat.le_refl _) _).drew)
    have HW := hid (show (w.alloc (.cells #[] 9)).drew.ownsRow w.heap.size 9 1 (.slice (some ⟨w.heap.size, 0, none⟩) 0 0) 0 [] from own_made w 9)
    have hb1 : 0 + k ≤ maxLen := by unfold maxLen; omega
    have hb2 : (0 + k) * 16 ≤ 140737488355328 := by omega
    have hb3 : 0 + k + (l.length - (k + 1)) ≤ maxLen := by unfold maxLen; omega
    have hb4 : (0 + k + (l.length - (k + 1))) * 16 ≤ 140737488355328 := by omega
    have HBS := hid (And.intro (And.intro hb1 hb2) (And.intro hb3 hb4))
    clear hb1 hb2 hb3 hb4 hP1 hP3
    have hwr : IntKind.i64.wrap ((k : Int) + 1) = (k : Int) + 1 := by rw [IntKind.wrap_i64]; omega
    have hp0 : (0 : Int) ≤ (k : Int) + 1 := by omega
    have hp1 : (k : Int) + 1 ≤ (l.length : Int) := by omega
    have hp2 : ((k : Int) + 1).toNat = k + 1 := by omega
    have hp3 : (k : Int) ≤ (k : Int) + 1 := by omega
    have hk1 : k ≤ l.length := by omega
    have hk2 : k ≤ c := by omega
    go_wp2_with fail
    go_region_law (first | (refine step_append_own rfl (.tmp 5) (.tmp 8) 23 rfl w.heap.size 9 i0 _ 1 16 Tryz.underlying23 hi hz0 hz1 hz2 rfl (by decide) _ _ _ (by simp [Act.eval]) HW.out ⟨g, o, none⟩ k c P1 (by simp [Act.eval]) L1.out (D1.out _ HB0.out) O1.out HBS.out.1.1 HBS.out.1.2 HB0.out.size ?_; intro v1 w1 hown1 hg1 hn1; have HB1 := hid (HB0.out.grown hg1 HB0.out.size (fun j hj => (HW.out.lt j hj).1)); obtain ⟨a1, k1, rfl⟩ := ownB_form hown1; have HO1 := hid hown1; clear hown1 hg1 hn1) | (refine step_append_own rfl (.tmp 9) (.tmp 13) 23 rfl w.heap.size 9 i0 _ 1 16 Tryz.underlying23 hi hz0 hz1 hz2 rfl (by decide) _ _ _ (by simp [Act.eval]) HO1.out ⟨g, o + (k + 1), none⟩ (l.length - (k + 1)) (c - (k + 1)) P3 (by simp [Act.eval]) L3.out (fun j u h => by rw [Addr.add_lit]; exact D3.out _ HB1.out j u h) O3.out HBS.out.2.1 HBS.out.2.2 HB1.out.size ?_; intro v3 w3 hown3 hg3 hn3; have HB3 := hid (HB1.out.grown hg3 HB1.out.size (fun j hj => (HO1.out.lt j hj).1)); obtain ⟨a3, k3, rfl⟩ := ownB_form hown3; have HO3 := hid hown3; clear hown3 hg3 hn3))
    go_wp2
    go_ret
    have hfin := HO3.out
    rw [HPL.out, HP.out] at hfin
    refine ⟨a3, k3, ?_, hfin, HB3.out⟩
    show Ending.returned (.slice a3 _ k3) = _
    rw [← HPL.out]
    simp
theorem l03Out_own (b k : Nat) (v : Value) (l : List ByteArray) (w : World) (h : w.ownsRow b 9 1 v l.length (l.map Value.string)) (hk : k < l.length) (hn : l.length ≤ 1048576) :
    Calls Tryz.prog 103 #[v, .int .i64 k] w fun e w' => ∃ a n, e = .returned (.slice a (outT l k).length n) ∧ w'.ownsRow w.heap.size 9 1 (.slice a (outT l k).length n) (outT l k).length ((outT l k).map Value.string) ∧ Below w.heap.size w w' := by
  rcases h.2 with ⟨hv, h0⟩ | ⟨g, cap, cur, hv, _, _, hle, hcm, _⟩
  · omega
  · have hlt := (h.lt g (by rw [hv]; rfl)).2
    have hE : StrsAt w g 0 l := ⟨hlt, fun i hi => by
      have := h.cells (g := g) (by rw [hv]; rfl) i (.string l[i]) (by simp [hi])
      rw [Addr.add_lit] at this
      exact this⟩
    subst hv
    exact l03Out_row g 0 cap k l w hE hk hle hn hcm
end Go.Proofs.YtihpadabgfhegaaGreatDoor

/-
  Two blocks laid: nothing old has turned. Of no function.
-/
namespace Go.Proofs.YtihpadabgfhegaaGreatDoor
open Go.RowKit

theorem below2 (w : World) (o1 o2 : Obj) : Below w.heap.size w ((w.alloc o1).alloc o2) := ((Below.refl _ _).alloc (Nat.le_refl _) o1).alloc (by simp) o2
end Go.Proofs.YtihpadabgfhegaaGreatDoor
