/-
  Texts put together: SpOut, MkMath, KeyM, PutM.
-/
import Derived.Test.YtdggmeblnbabbaaGreatDoorZSpPut
import Derived.Deep.RegionLaw
import Derived.Test.YtdggmeblnbabbaaGreatDoorZDfMath5
import Derived.Maps.OwnSet
import Derived.Maps.OwnOps
import Derived.Maps.RangeWalk
import Derived.Sort.KeysCollected
import Derived.Sort.Walk0
/-
  What spec.l03Out answers: a row without one of its texts: a contract over the seat's program.
-/
namespace Go.Proofs.YtdggmeblnbabbaaGreatDoor
open Go.RowKit Go.Sort

def outT (l : List ByteArray) (k : Nat) : List ByteArray := l.take k ++ l.drop (k + 1)
/-- append to a row of one's own, as one step of a region that draws. -/
theorem step_append_own {P : Program} {w : World} {ops : Array Oper} {o : Oper} {a : Act} {K : Act → World → Prop} {Q : Exit → Act → World → Prop} {E : Prop} (hgd : o.guard = none) (s x : Operand) (t : TypeId)
    (ho : o.op = .call { callee := .builtin .append, args := #[s, x], argTypes := #[t, t] })
    (base : Nat) (e : TypeId) (i : TypeInfo) (z : Value) (size bytes : Nat) (ht : P.underlying t = some (.slice e)) (hi : P.info? e = some i) (hz : i.zero = some z)
    (hsize : i.size = size) (hby : i.bytes = bytes) (hzs : z.cells.size = size) (hsz : 0 < size)
    (v : Value) (n : Nat) (xs : List Value) (hs : a.eval s = v) (hown : w.ownsRow base e size v n xs)
    (ad : Addr) (m c : Nat) (news : List Value) (hx : a.eval x = .slice (some ad) m c) (hl : news.length = m * size) (hnews : ∀ j u, news[j]? = some u → w.cell? (ad.add j) = some u) (h1 : ∀ u ∈ news, u.oneCell' = true)
    (h63 : n + m ≤ maxLen) (hbytes : (n + m) * bytes ≤ 140737488355328) (hbase : base ≤ w.heap.size)
    (h : ∀ v' w', w'.ownsRow base e size v' (n + m) (xs ++ news) → w.grownBy w' v.ownBlock → (v' = .slice none 0 0 ↔ v = .slice none 0 0 ∧ m = 0) → K (a.put o.dst v') w') :
    if Region.wanted o (yielded ops a.tmps) = true then Oper.wp P o a w K Q else E := by
  rw [if_pos (show Region.wanted o (yielded ops a.tmps) = true by simp [Region.wanted, hgd])]
  exact wp_append_own w s x t ho base e i z size bytes ht hi hz hsize hby hzs hsz v n xs hs hown ad m c news hx hl hnews h1 h63 hbytes hbase h
set_option maxRecDepth 100000 in
set_option maxHeartbeats 2000000 in
theorem l03Out_row (g o c k : Nat) (l : List ByteArray) (w : World) (hE : StrsAt w g o l) (hk : k < l.length) (hc : l.length ≤ c) (hn : l.length ≤ 1048576) (hcm : c ≤ maxLen) :
    Calls Tryz.prog 61 #[.slice (some ⟨g, o, none⟩) l.length c, .int .i64 k] w fun e w' => ∃ a n, e = .returned (.slice a (outT l k).length n) ∧ w'.ownsRow w.heap.size 9 1 (.slice a (outT l k).length n) (outT l k).length ((outT l k).map Value.string) ∧ Below w.heap.size w w' := by
  obtain ⟨i0, hi, hz0, hz1, hz2⟩ := info_parts Tryz.infoStr
  have HE := hid hE
  clear hE
  unfold maxLen at hcm
  go_enter Tryz.func61, Tryz.ntmps61
  by_cases hck : k + 1 = c
  · subst hck
    obtain ⟨P1, hP1⟩ : ∃ P1 : List Value, P1 = (l.take k).map Value.string := ⟨_, rfl⟩
    obtain ⟨P3, hP3⟩ : ∃ P3 : List Value, P3 = (l.drop (k + 1)).map Value.string := ⟨_, rfl⟩
    have L1 := hid (show P1.length = k * 1 by rw [hP1]; simp; omega)
    have L3 := hid (show P3.length = 0 * 1 by rw [hP3, List.drop_eq_nil_of_le (by omega)]; rfl)
    have D4 := hid (show ∀ (j : Nat) (u : Value), P3[j]? = some u → False by rw [hP3, List.drop_eq_nil_of_le (by omega)]; intro j u hj; simp at hj)
    have HPL := hid (show 0 + k + 0 = (outT l k).length by unfold outT; simp; omega)
    have O1 := hid (show ∀ u ∈ P1, u.oneCell' = true by rw [hP1]; exact strs_one _)
    have O3 := hid (show ∀ u ∈ P3, u.oneCell' = true by rw [hP3]; exact strs_one _)
    have D1 := hid (fun W (hb : Below w.heap.size w W) => (show ∀ j u, P1[j]? = some u → W.cell? ((⟨g, o, none⟩ : Addr).add j) = some u by rw [hP1]; exact strs_cells_to (HE.out.stay hb (Nat.le_refl _)) k))
    have HP := hid (show ([] ++ P1) ++ P3 = (outT l k).map Value.string by rw [hP1, hP3]; unfold outT; simp)
    have HB0 := hid (show Below w.heap.size w (w.alloc (.cells #[] 9)).drew from ((Below.refl w.heap.size w).alloc (Nat.le_refl _) _).drew)
    have HW := hid (show (w.alloc (.cells #[] 9)).drew.ownsRow w.heap.size 9 1 (.slice (some ⟨w.heap.size, 0, none⟩) 0 0) 0 [] from own_made w 9)
    have hb1 : 0 + k ≤ maxLen := by unfold maxLen; omega
    have hb2 : (0 + k) * 16 ≤ 140737488355328 := by omega
    have hb3 : 0 + k + 0 ≤ maxLen := by unfold maxLen; omega
    have hb4 : (0 + k + 0) * 16 ≤ 140737488355328 := by omega
    have HBS := hid (And.intro (And.intro hb1 hb2) (And.intro hb3 hb4))
    clear hb1 hb2 hb3 hb4 hP1 hP3
    have hwr : IntKind.i64.wrap ((k : Int) + 1) = (k : Int) + 1 := by rw [IntKind.wrap_i64]; omega
    have hp0 : (0 : Int) ≤ (k : Int) + 1 := by omega
    have hp1 : (k : Int) + 1 ≤ (l.length : Int) := by omega
    have hp2 : ((k : Int) + 1).toNat = k + 1 := by omega
    have hp3 : (k : Int) ≤ (k : Int) + 1 := by omega
    have hk1 : k ≤ l.length := by omega
    have hk2 : k ≤ k + 1 := by omega
    go_wp2_with fail
    go_region_law (first | (refine step_append_own rfl (.tmp 5) (.tmp 8) 23 rfl w.heap.size 9 i0 _ 1 16 Tryz.underlying23 hi hz0 hz1 hz2 rfl (by decide) _ _ _ (by simp [Act.eval]) HW.out ⟨g, o, none⟩ k (k + 1) P1 (by simp [Act.eval]) L1.out (D1.out _ HB0.out) O1.out HBS.out.1.1 HBS.out.1.2 HB0.out.size ?_; intro v1 w1 hown1 hg1 hn1; have HB1 := hid (HB0.out.grown hg1 HB0.out.size (fun j hj => (HW.out.lt j hj).1)); obtain ⟨a1, k1, rfl⟩ := ownB_form hown1; have HO1 := hid hown1; clear hown1 hg1 hn1) | (refine step_append_own rfl (.tmp 9) (.tmp 13) 23 rfl w.heap.size 9 i0 _ 1 16 Tryz.underlying23 hi hz0 hz1 hz2 rfl (by decide) _ _ _ (by simp [Act.eval]) HO1.out ⟨g, o, none⟩ 0 0 P3 (by simp [Act.eval]) L3.out (fun j u h => (D4.out j u h).elim) O3.out HBS.out.2.1 HBS.out.2.2 HB1.out.size ?_; intro v3 w3 hown3 hg3 hn3; have HB3 := hid (HB1.out.grown hg3 HB1.out.size (fun j hj => (HO1.out.lt j hj).1)); obtain ⟨a3, k3, rfl⟩ := ownB_form hown3; have HO3 := hid hown3; clear hown3 hg3 hn3))
    go_wp2
    go_ret
    have hfin := HO3.out
    rw [HPL.out, HP.out] at hfin
    refine ⟨a3, k3, ?_, hfin, HB3.out⟩
    show Ending.returned (.slice a3 _ k3) = _
    rw [← HPL.out]
    simp
  · have hck' : ¬ c = k + 1 := by omega
    obtain ⟨P1, hP1⟩ : ∃ P1 : List Value, P1 = (l.take k).map Value.string := ⟨_, rfl⟩
    obtain ⟨P3, hP3⟩ : ∃ P3 : List Value, P3 = (l.drop (k + 1)).map Value.string := ⟨_, rfl⟩
    have L1 := hid (show P1.length = k * 1 by rw [hP1]; simp; omega)
    have L3 := hid (show P3.length = (l.length - (k + 1)) * 1 by rw [hP3]; simp)
    have D3 := hid (fun W (hb : Below w.heap.size w W) => (show ∀ j u, P3[j]? = some u → W.cell? ⟨g, o + (k + 1) + j, none⟩ = some u by rw [hP3]; intro j u h; have := strs_cells_from (HE.out.stay hb (Nat.le_refl _)) (k + 1) j u h; rwa [Addr.add_lit] at this))
    have HPL := hid (show 0 + k + (l.length - (k + 1)) = (outT l k).length by unfold outT; simp; omega)
    have O1 := hid (show ∀ u ∈ P1, u.oneCell' = true by rw [hP1]; exact strs_one _)
    have O3 := hid (show ∀ u ∈ P3, u.oneCell' = true by rw [hP3]; exact strs_one _)
    have D1 := hid (fun W (hb : Below w.heap.size w W) => (show ∀ j u, P1[j]? = some u → W.cell? ((⟨g, o, none⟩ : Addr).add j) = some u by rw [hP1]; exact strs_cells_to (HE.out.stay hb (Nat.le_refl _)) k))
    have HP := hid (show ([] ++ P1) ++ P3 = (outT l k).map Value.string by rw [hP1, hP3]; unfold outT; simp)
    have HB0 := hid (show Below w.heap.size w (w.alloc (.cells #[] 9)).drew from ((Below.refl w.heap.size w).alloc (Nat.le_refl _) _).drew)
    have HW := hid (show (w.alloc (.cells #[] 9)).drew.ownsRow w.heap.size 9 1 (.slice (some ⟨w.heap.size, 0, none⟩) 0 0) 0 [] from own_made w 9)
    have hb1 : 0 + k ≤ maxLen := by unfold maxLen; omega
    have hb2 : (0 + k) * 16 ≤ 140737488355328 := by omega
    have hb3 : 0 + k + (l.length - (k + 1)) ≤ maxLen := by unfold maxLen; omega
    have hb4 : (0 + k + (l.length - (k + 1))) * 16 ≤ 140737488355328 := by omega
    have HBS := hid (And.intro (And.intro hb1 hb2) (And.intro hb3 hb4))
    clear hb1 hb2 hb3 hb4 hP1 hP3
    have hwr : IntKind.i64.wrap ((k : Int) + 1) = (k : Int) + 1 := by rw [IntKind.wrap_i64]; omega
    have hp0 : (0 : Int) ≤ (k : Int) + 1 := by omega
    have hp1 : (k : Int) + 1 ≤ (l.length : Int) := by omega
    have hp2 : ((k : Int) + 1).toNat = k + 1 := by omega
    have hp3 : (k : Int) ≤ (k : Int) + 1 := by omega
    have hk1 : k ≤ l.length := by omega
    have hk2 : k ≤ c := by omega
    go_wp2_with fail
    go_region_law (first | (refine step_append_own rfl (.tmp 5) (.tmp 8) 23 rfl w.heap.size 9 i0 _ 1 16 Tryz.underlying23 hi hz0 hz1 hz2 rfl (by decide) _ _ _ (by simp [Act.eval]) HW.out ⟨g, o, none⟩ k c P1 (by simp [Act.eval]) L1.out (D1.out _ HB0.out) O1.out HBS.out.1.1 HBS.out.1.2 HB0.out.size ?_; intro v1 w1 hown1 hg1 hn1; have HB1 := hid (HB0.out.grown hg1 HB0.out.size (fun j hj => (HW.out.lt j hj).1)); obtain ⟨a1, k1, rfl⟩ := ownB_form hown1; have HO1 := hid hown1; clear hown1 hg1 hn1) | (refine step_append_own rfl (.tmp 9) (.tmp 13) 23 rfl w.heap.size 9 i0 _ 1 16 Tryz.underlying23 hi hz0 hz1 hz2 rfl (by decide) _ _ _ (by simp [Act.eval]) HO1.out ⟨g, o + (k + 1), none⟩ (l.length - (k + 1)) (c - (k + 1)) P3 (by simp [Act.eval]) L3.out (fun j u h => by rw [Addr.add_lit]; exact D3.out _ HB1.out j u h) O3.out HBS.out.2.1 HBS.out.2.2 HB1.out.size ?_; intro v3 w3 hown3 hg3 hn3; have HB3 := hid (HB1.out.grown hg3 HB1.out.size (fun j hj => (HO1.out.lt j hj).1)); obtain ⟨a3, k3, rfl⟩ := ownB_form hown3; have HO3 := hid hown3; clear hown3 hg3 hn3))
    go_wp2
    go_ret
    have hfin := HO3.out
    rw [HPL.out, HP.out] at hfin
    refine ⟨a3, k3, ?_, hfin, HB3.out⟩
    show Ending.returned (.slice a3 _ k3) = _
    rw [← HPL.out]
    simp
theorem l03Out_own (b k : Nat) (v : Value) (l : List ByteArray) (w : World) (h : w.ownsRow b 9 1 v l.length (l.map Value.string)) (hk : k < l.length) (hn : l.length ≤ 1048576) :
    Calls Tryz.prog 61 #[v, .int .i64 k] w fun e w' => ∃ a n, e = .returned (.slice a (outT l k).length n) ∧ w'.ownsRow w.heap.size 9 1 (.slice a (outT l k).length n) (outT l k).length ((outT l k).map Value.string) ∧ Below w.heap.size w w' := by
  rcases h.2 with ⟨hv, h0⟩ | ⟨g, cap, cur, hv, _, _, hle, hcm, _⟩
  · omega
  · have hlt := (h.lt g (by rw [hv]; rfl)).2
    have hE : StrsAt w g 0 l := ⟨hlt, fun i hi => by
      have := h.cells (g := g) (by rw [hv]; rfl) i (.string l[i]) (by simp [hi])
      rw [Addr.add_lit] at this
      exact this⟩
    subst hv
    exact l03Out_row g 0 cap k l w hE hk hle hn hcm
end Go.Proofs.YtdggmeblnbabbaaGreatDoor

/-
  Marks counted in a map: what it is that a map's datum counts the texts of a list. Of no function.
-/
namespace Go.Proofs.YtdggmeblnbabbaaGreatDoor
open Go.RowKit Go.Maps

/-- A text's bytes. -/
abbrev Tx := List UInt8
def txt (s : ByteArray) : Tx := s.data.toList
theorem txt_inj {a b : ByteArray} (h : txt a = txt b) : a = b := ByteArray.ext (Array.toList_inj.1 h)
def MapOf (D : DataW Unit) (l : List Tx) : Prop := IsMap D ∧ ∀ t : Tx, D.atKey (.string t) (.lit (.int .i64 0)) = .lit (.int .i64 (l.count t)) ∧ Maps.has D (.string t) = decide (0 < l.count t)
theorem mapOf_nil : MapOf (.map []) [] := ⟨isMap_empty, fun t => ⟨by simp [DataW.atKey], by simp [Maps.has]⟩⟩
theorem mapOf_perm {D : DataW Unit} {l l' : List Tx} (h : MapOf D l) (hp : l.Perm l') : MapOf D l' := ⟨h.1, fun t => by rw [← hp.count_eq]; exact h.2 t⟩
theorem mapOf_put {D : DataW Unit} {l l' : List Tx} (h : MapOf D l) (t : Tx) (n : Nat) (hn : 0 < n) (hl : ∀ u, l'.count u = if u = t then n else l.count u) : MapOf (D.put (.string t) (.lit (.int .i64 n))) l' := by
  refine ⟨h.1.put _ _, fun u => ?_⟩
  by_cases e : u = t
  · subst e
    rw [atKey_put_same h.1 (show WideAt.IsKeyLit (.string u) from trivial), has_put_same h.1 (show WideAt.IsKeyLit (.string u) from trivial), hl u, if_pos rfl]
    exact ⟨rfl, by simp [hn]⟩
  · have hne : Lit.string u ≠ Lit.string t := fun h => e (by injection h)
    rw [atKey_put_other hne, has_put_other hne, hl u, if_neg e]
    exact h.2 u
theorem mapOf_del {D : DataW Unit} {l l' : List Tx} (h : MapOf D l) (t : Tx) (hl : ∀ u, l'.count u = if u = t then 0 else l.count u) : MapOf (D.del (.string t)) l' := by
  refine ⟨h.1.del _, fun u => ?_⟩
  by_cases e : u = t
  · subst e
    rw [atKey_del_same, has_del_same, hl u, if_pos rfl]
    exact ⟨rfl, by simp⟩
  · have hne : Lit.string u ≠ Lit.string t := fun h => e (by injection h)
    rw [atKey_del_other hne, has_del_other hne, hl u, if_neg e]
    exact h.2 u
theorem mapOf_at {D : DataW Unit} {l : List Tx} {t : Tx} {c : Int} (h : MapOf D l) (hc : D.atKey (.string t) (.lit (.int .i64 0)) = .lit (.int .i64 c)) : c = l.count t := by
  rw [(h.2 t).1] at hc
  injection hc with hc
  injection hc with _ hc
  exact hc.symm
theorem count_cons_if {l : List Tx} {t : Tx} (u : Tx) : (t :: l).count u = if u = t then l.count t + 1 else l.count u := by
  rw [List.count_cons]
  by_cases e : u = t
  · subst e; simp
  · rw [if_neg e]
    have : ¬ t = u := fun h => e h.symm
    simp [this]
theorem count_erase_if {l : List Tx} {t : Tx} (u : Tx) : (l.erase t).count u = if u = t then l.count t - 1 else l.count u := by
  by_cases e : u = t
  · subst e; rw [if_pos rfl, List.count_erase_self]
  · rw [if_neg e, List.count_erase_of_ne (by simpa using e)]
/-- Block b is a map that counts these texts. -/
def MapAt (w : World) (b n : Nat) (l : List Tx) : Prop := ∃ D, w.ownsMap Tryz.prog 9 (plainElem (H := Unit) Tryz.prog 2) b n D ∧ MapOf D l
theorem MapAt.lt {w : World} {b n : Nat} {l : List Tx} (h : MapAt w b n l) : b < w.heap.size := let ⟨_, h, _⟩ := h; h.lt
theorem MapAt.kept {w w' : World} {row : Option Nat} {b n : Nat} {l : List Tx} (h : MapAt w b n l) (hg : w.grownBy w' row) (hne : some b ≠ row) : MapAt w' b n l := let ⟨D, h1, h2⟩ := h; ⟨D, h1.kept hg hne, h2⟩
theorem MapAt.stay {w w' : World} {b n : Nat} {l : List Tx} (h : MapAt w b n l) (hb : Below w.heap.size w w') : MapAt w' b n l := h.kept (grown_below (r := none) hb) (by simp)
theorem MapAt.perm {w : World} {b n : Nat} {l l' : List Tx} (h : MapAt w b n l) (hp : l.Perm l') : MapAt w b n l' := let ⟨D, h1, h2⟩ := h; ⟨D, h1, mapOf_perm h2 hp⟩
theorem Tryz.strKeyed : Keyed Tryz.prog 9 := string_keyed Tryz.underlying9
theorem Tryz.zeroI64 (w : World) : (zeroValue 2).run Tryz.prog w = .ok (.int .i64 0) w := by kernel_rfl
end Go.Proofs.YtdggmeblnbabbaaGreatDoor

/-
  The keys of a map that counts texts, sorted, each as often as it is counted: that is the sorted list of the texts. Of no function.
-/
namespace Go.Proofs.YtdggmeblnbabbaaGreatDoor
open Go.RowKit Go.Maps

def srt (l : List Tx) : List Tx := l.mergeSort leB
theorem leB_tr (a b c : Tx) (h1 : leB a b = true) (h2 : leB b c = true) : leB a c = true := by simp only [leB, decide_eq_true_eq] at *; exact List.le_trans h1 h2
theorem leB_to (a b : Tx) : (leB a b || leB b a) = true := by simp only [leB, Bool.or_eq_true, decide_eq_true_eq]; exact List.le_total a b
theorem leB_anti {a b : Tx} (h1 : leB a b = true) (h2 : leB b a = true) : a = b := by simp only [leB, decide_eq_true_eq] at h1 h2; exact List.le_antisymm h1 h2
def Asc (l : List Tx) : Prop := l.Pairwise (fun a b => leB a b = true)
theorem srt_asc (l : List Tx) : Asc (srt l) := List.pairwise_mergeSort leB_tr leB_to l
theorem srt_perm (l : List Tx) : (srt l).Perm l := List.mergeSort_perm l leB
theorem asc_perm {l l' : List Tx} (h : Asc l) (h' : Asc l') (hp : l.Perm l') : l = l' := List.Perm.eq_of_pairwise (le := fun a b => leB a b = true) (fun _ _ _ _ h1 h2 => leB_anti h1 h2) h h' hp
theorem srt_of_asc {l : List Tx} (h : Asc l) : srt l = l := asc_perm (srt_asc l) h (srt_perm l)
theorem srt_len (l : List Tx) : (srt l).length = l.length := (srt_perm l).length_eq
/-- The keys of a map that counts these texts. -/
theorem keys_of {w : World} {b n : Nat} {D : DataW Unit} {l : List Tx} (hown : w.ownsMap Tryz.prog 9 (plainElem (H := Unit) Tryz.prog 2) b n D) (hD : MapOf D l) :
    (strKeys D).Nodup ∧ (∀ t, t ∈ strKeys D ↔ t ∈ l) ∧ Maps.size D = (strKeys D).length ∧ ∀ t ∈ strKeys D, t.length ≤ maxLen := by
  have hle := strKeys_le hown Tryz.underlying9
  obtain ⟨es, hE, hpw, _⟩ := hown.entries Tryz.strKeyed
  obtain ⟨es', hE', hko⟩ := hown.keysOf
  obtain rfl : es = es' := by rw [hE] at hE'; simpa using hE'
  subst hE
  have hk : ∀ p ∈ es, ∃ x, p.1 = .string x := fun p hp => by obtain ⟨v, hv⟩ := hko p hp; obtain ⟨x, _, hx, _⟩ := Maps.keyOf_str Tryz.underlying9 hv; exact ⟨x, hx⟩
  refine ⟨?_, fun x => ?_, by simp [Maps.size, strKeys], hle⟩
  · show (es.map fun p => strOf p.1).Nodup
    refine List.pairwise_map.2 (hpw.imp_of_mem fun {p q} hp' hq' hne e => hne ?_)
    obtain ⟨a, ha⟩ := hk p hp'
    obtain ⟨b, hb⟩ := hk q hq'
    rw [ha, hb] at e ⊢
    exact congrArg _ e
  · have h2 := (hD.2 x).2
    rw [has_eq] at h2
    refine Iff.trans ?_ (List.count_pos_iff (a := x) (l := l))
    rw [← decide_eq_true_iff (p := 0 < l.count x), ← h2, List.any_eq_true]
    show x ∈ es.map (fun p => strOf p.1) ↔ _
    rw [List.mem_map]
    constructor
    · rintro ⟨p, hp', rfl⟩
      obtain ⟨a, ha⟩ := hk p hp'
      exact ⟨p, hp', by rw [ha]; simp [Lit.sameKey, strOf]⟩
    · rintro ⟨p, hp', hs⟩
      obtain ⟨a, ha⟩ := hk p hp'
      rw [ha] at hs
      exact ⟨p, hp', by rw [ha]; simpa [Lit.sameKey, strOf] using hs⟩
/-- Each key as often as it is counted. -/
def expd (l : List Tx) (ks : List Tx) : List Tx := ks.flatMap (fun t => List.replicate (l.count t) t)
theorem expd_count (l : List Tx) (u : Tx) : ∀ ks : List Tx, ks.Nodup → (expd l ks).count u = if u ∈ ks then l.count u else 0
  | [], _ => by simp [expd]
  | t :: ks, h => by
    have ih := expd_count l u ks (List.nodup_cons.1 h).2
    show (List.replicate (l.count t) t ++ expd l ks).count u = _
    rw [List.count_append, ih, List.count_replicate]
    by_cases e : t = u
    · subst e
      rw [if_neg (List.nodup_cons.1 h).1]
      simp
    · have e' : ¬ u = t := fun h => e h.symm
      simp [e, e']
theorem expd_asc (l : List Tx) : ∀ ks : List Tx, Asc ks → Asc (expd l ks)
  | [], _ => List.Pairwise.nil
  | t :: ks, h => by
    obtain ⟨h1, h2⟩ := List.pairwise_cons.1 h
    show (List.replicate (l.count t) t ++ expd l ks).Pairwise _
    refine List.pairwise_append.2 ⟨?_, expd_asc l ks h2, fun a ha b hb => ?_⟩
    · rw [List.pairwise_replicate]; right; simp
    · rw [(List.mem_replicate.1 ha).2]
      obtain ⟨k, hk, hb'⟩ := List.mem_flatMap.1 hb
      rw [(List.mem_replicate.1 hb').2]
      exact h1 k hk
theorem expd_srt {l ks : List Tx} (hnd : ks.Nodup) (hm : ∀ t, t ∈ ks ↔ t ∈ l) (ha : Asc ks) : expd l ks = srt l := by
  refine asc_perm (expd_asc l ks ha) (srt_asc l) ?_
  rw [List.perm_iff_count]
  intro u
  rw [(srt_perm l).count_eq, expd_count l u ks hnd]
  by_cases h : u ∈ ks
  · rw [if_pos h]
  · rw [if_neg h, List.count_eq_zero_of_not_mem (fun h' => h ((hm u).2 h'))]
theorem expd_take {l ks : List Tx} {k : Nat} (h : k < ks.length) : expd l (ks.take (k + 1)) = expd l (ks.take k) ++ List.replicate (l.count ks[k]) ks[k] := by
  unfold expd
  rw [List.take_succ_eq_append_getElem h, List.flatMap_append]; simp
theorem expd_len_le {l ks : List Tx} (hnd : ks.Nodup) (hm : ∀ t, t ∈ ks ↔ t ∈ l) (ha : Asc ks) (k : Nat) : (expd l (ks.take k)).length ≤ l.length := by
  have h1 : expd l ks = expd l (ks.take k) ++ expd l (ks.drop k) := by
    unfold expd; rw [← List.flatMap_append, List.take_append_drop]
  have h2 := congrArg List.length (expd_srt hnd hm ha)
  rw [h1, List.length_append, srt_len] at h2
  omega
end Go.Proofs.YtdggmeblnbabbaaGreatDoor

/-
  What putT and outT do to a row in its order: it stays in its order.
-/
namespace Go.Proofs.YtdggmeblnbabbaaGreatDoor
open Go.RowKit Go.Sort

theorem lt_txt (a b : ByteArray) : lt a b = decide (txt a < txt b) := by
  unfold lt txt
  rw [bytesLess_eq, ByteArray.toList_eq, ByteArray.toList_eq]
theorem leB_of_lt {a b : ByteArray} (h : lt a b = true) : leB (txt a) (txt b) = true := by
  rw [lt_txt, decide_eq_true_eq] at h
  simp only [leB, decide_eq_true_eq]
  exact List.le_of_lt h
theorem leB_of_not {a b : ByteArray} (h : lt b a = false) : leB (txt a) (txt b) = true := by
  rw [lt_txt, decide_eq_false_iff_not] at h
  simp only [leB, decide_eq_true_eq]
  exact List.not_lt.1 h
theorem leT_leB {a b : ByteArray} (h : leT a b = true) : leB (txt a) (txt b) = true := by
  unfold leT at h
  rcases Bool.or_eq_true_iff.1 h with h | h
  · exact leB_of_lt h
  · have : a = b := toList_inj (by simpa using h)
    subst this
    exact leB_of_not (less_irr _)
theorem leT_not {a b : ByteArray} (h : leT a b = false) : leB (txt b) (txt a) = true := by
  unfold leT at h
  exact leB_of_not (Bool.or_eq_false_iff.1 h).1
theorem sorted_le {l : List ByteArray} (h : Sorted l) : ∀ d i, (h' : i + d < l.length) → leB (txt l[i]) (txt l[i + d]) = true
  | 0, i, _ => leB_of_not (less_irr _)
  | d + 1, i, h' => leB_tr _ _ _ (sorted_le h d i (by omega)) (leB_of_not (h (i + d) (by omega)))
theorem sorted_asc {l : List ByteArray} (h : Sorted l) : Asc (l.map txt) := by
  unfold Asc
  rw [List.pairwise_map, List.pairwise_iff_getElem]
  intro i j hi hj hij
  have := sorted_le h (j - i) i (by omega)
  rwa [show l[i + (j - i)]'(by omega) = l[j] from by congr 1; omega] at this
theorem asc_sorted {l : List ByteArray} (h : Asc (l.map txt)) : Sorted l := by
  intro i hi
  unfold Asc at h
  rw [List.pairwise_map, List.pairwise_iff_getElem] at h
  have := h i (i + 1) (by omega) hi (by omega)
  rw [lt_txt, decide_eq_false_iff_not]
  simp only [leB, decide_eq_true_eq] at this
  exact List.not_lt.2 this
theorem put_perm (l : List ByteArray) (t : ByteArray) : (putT l t).Perm (t :: l) := by
  unfold putT
  rw [List.append_assoc]
  refine (List.perm_middle (a := t) (l₁ := l.take (kI l t)) (l₂ := l.drop (kI l t))).trans ?_
  rw [List.take_append_drop]
theorem take_while {α : Type} (p : α → Bool) : ∀ l : List α, l.take (l.takeWhile p).length = l.takeWhile p
  | [] => rfl
  | x :: r => by
    cases hp : p x with
    | true => rw [List.takeWhile_cons_of_pos hp, List.length_cons, List.take_succ_cons, take_while p r]
    | false => rw [List.takeWhile_cons_of_neg (by rw [hp]; simp)]; rfl
theorem drop_while {α : Type} (p : α → Bool) : ∀ l : List α, l.drop (l.takeWhile p).length = l.dropWhile p
  | [] => rfl
  | x :: r => by
    cases hp : p x with
    | true => rw [List.takeWhile_cons_of_pos hp, List.length_cons, List.drop_succ_cons, drop_while p r, List.dropWhile_cons_of_pos hp]
    | false => rw [List.takeWhile_cons_of_neg (by rw [hp]; simp), List.dropWhile_cons_of_neg (by rw [hp]; simp)]; rfl
theorem put_asc {l : List ByteArray} (h : Asc (l.map txt)) (t : ByteArray) : Asc ((putT l t).map txt) := by
  have hk : l.take (kI l t) = l.takeWhile (leT · t) := take_while _ l
  have hd : l.drop (kI l t) = l.dropWhile (leT · t) := drop_while _ l
  have hall : ∀ a ∈ l.take (kI l t), leB (txt a) (txt t) = true := fun a ha => by
    rw [hk] at ha
    exact leT_leB (List.all_eq_true.1 List.all_takeWhile a ha)
  have hrest : ∀ a ∈ l.drop (kI l t), leB (txt t) (txt a) = true := by
    have hs : Asc ((l.drop (kI l t)).map txt) := by
      unfold Asc at *
      rw [List.map_drop]
      exact h.sublist (List.drop_sublist _ _)
    rw [hd] at hs ⊢
    have h0 := List.head?_dropWhile_not (leT · t) l
    cases hc : l.dropWhile (leT · t) with
    | nil => intro a ha; simp at ha
    | cons x r =>
      rw [hc] at hs h0
      have hx : leT x t = false := by simpa using h0
      have h1 := leT_not hx
      intro a ha
      rcases List.mem_cons.1 ha with rfl | ha
      · exact h1
      · unfold Asc at hs
        rw [List.map_cons, List.pairwise_cons] at hs
        exact leB_tr _ _ _ h1 (hs.1 _ (List.mem_map_of_mem ha))
  unfold Asc at *
  unfold putT
  rw [List.append_assoc, List.map_append, List.pairwise_append]
  refine ⟨?_, ?_, ?_⟩
  · rw [List.map_take]; exact h.sublist (List.take_sublist _ _)
  · show List.Pairwise _ (txt t :: (l.drop (kI l t)).map txt)
    rw [List.pairwise_cons]
    refine ⟨fun a ha => ?_, ?_⟩
    · obtain ⟨x, hx, rfl⟩ := List.mem_map.1 ha
      exact hrest x hx
    · rw [List.map_drop]; exact h.sublist (List.drop_sublist _ _)
  · intro a ha b hb
    obtain ⟨x, hx, rfl⟩ := List.mem_map.1 ha
    obtain ⟨y, hy, rfl⟩ := List.mem_map.1 hb
    rcases List.mem_append.1 hy with hy | hy
    · obtain rfl := List.mem_singleton.1 hy
      exact hall x hx
    · exact leB_tr _ _ _ (hall x hx) (hrest y hy)
theorem out_asc {l : List ByteArray} (h : Asc (l.map txt)) (k : Nat) : Asc ((outT l k).map txt) := by
  unfold Asc at *
  unfold outT
  rw [← List.eraseIdx_eq_take_drop_succ]
  exact h.sublist ((List.eraseIdx_sublist l k).map txt)
theorem out_perm {l : List ByteArray} {k : Nat} (hk : k < l.length) : (l[k] :: outT l k).Perm l := by
  unfold outT
  refine (List.perm_middle (a := l[k]) (l₁ := l.take k) (l₂ := l.drop (k + 1))).symm.trans ?_
  rw [← List.drop_eq_getElem_cons hk, List.take_append_drop]
end Go.Proofs.YtdggmeblnbabbaaGreatDoor
