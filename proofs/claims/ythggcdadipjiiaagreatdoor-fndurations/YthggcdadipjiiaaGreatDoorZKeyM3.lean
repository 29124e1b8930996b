/-
  Texts put together: KeyM, PutM, FlM.
-/
import Derived.Test.YthggcdadipjiiaaGreatDoorZSpSet24
import Derived.Test.YthggcdadipjiiaaGreatDoorZSpOut6
import Derived.Sort.Walk0
import Derived.Test.YthggcdadipjiiaaGreatDoorZImLv
/-
  The keys of a map that counts texts, sorted, each as often as it is counted: that is the sorted list of the texts. Of no function.
-/
namespace Go.Proofs.YthggcdadipjiiaaGreatDoor
open Go.RowKit Go.Maps

def srt (l : List Tx) : List Tx := l.mergeSort leB
theorem leB_tr (a b c : Tx) (h1 : leB a b = true) (h2 : leB b c = true) : leB a c = true := by simp only [leB, decide_eq_true_eq] at *; exact List.le_trans h1 h2
theorem leB_to (a b : Tx) : (leB a b || leB b a) = true := by simp only [leB, Bool.or_eq_true, decide_eq_true_eq]; exact List.le_total a b
theorem leB_anti {a b : Tx} (h1 : leB a b = true) (h2 : leB b a = true) : a = b := by simp only [leB, decide_eq_true_eq] at h1 h2; exact List.le_antisymm h1 h2
def Asc (l : List Tx) : Prop := l.Pairwise (fun a b => leB a b = true)
theorem srt_asc (l : List Tx) : Asc (srt l) := List.pairwise_mergeSort leB_tr leB_to l
theorem srt_perm (l : List Tx) : (srt l).Perm l := List.mergeSort_perm l leB
theorem asc_perm {l l' : List Tx} (h : Asc l) (h' : Asc l') (hp : l.Perm l') : l = l' := List.Perm.eq_of_pairwise (le := fun a b => leB a b = true) (fun _ _ _ _ h1 h2 => leB_anti h1 h2) h h' hp
theorem srt_of_asc {l : List Tx} (h : Asc l) : srt l = l := asc_perm (srt_asc l) h (srt_perm l)
theorem srt_len (l : List Tx) : (srt l).length = l.length := (srt_perm l).length_eq
/-- The keys of a map that counts these texts. -/
theorem keys_of {w : World} {b n : Nat} {D : DataW Unit} {l : List Tx} (hown : w.ownsMap Tryz.prog 9 (plainElem (H := Unit) Tryz.prog 2) b n D) (hD : MapOf D l) :
    (strKeys D).Nodup ∧ (∀ t, t ∈ strKeys D ↔ t ∈ l) ∧ Maps.size D = (strKeys D).length ∧ ∀ t ∈ strKeys D, t.length ≤ maxLen := by
  have hle := strKeys_le hown Tryz.underlying9
  obtain ⟨es, hE, hpw, _⟩ := hown.entries Tryz.strKeyed
  obtain ⟨es', hE', hko⟩ := hown.keysOf
  obtain rfl : es = es' := by rw [hE] at hE'; simpa using hE'
  subst hE
  have hk : ∀ p ∈ es, ∃ x, p.1 = .string x := fun p hp => by obtain ⟨v, hv⟩ := hko p hp; obtain ⟨x, _, hx, _⟩ := Maps.keyOf_str Tryz.underlying9 hv; exact ⟨x, hx⟩
  refine ⟨?_, fun x => ?_, by simp [Maps.size, strKeys], hle⟩
  · show (es.map fun p => strOf p.1).Nodup
    refine List.pairwise_map.2 (hpw.imp_of_mem fun {p q} hp' hq' hne e => hne ?_)
    obtain ⟨a, ha⟩ := hk p hp'
    obtain ⟨b, hb⟩ := hk q hq'
    rw [ha, hb] at e ⊢
    exact congrArg _ e
  · have h2 := (hD.2 x).2
    rw [has_eq] at h2
    refine Iff.trans ?_ (List.count_pos_iff (a := x) (l := l))
    rw [← decide_eq_true_iff (p := 0 < l.count x), ← h2, List.any_eq_true]
    show x ∈ es.map (fun p => strOf p.1) ↔ _
    rw [List.mem_map]
    constructor
    · rintro ⟨p, hp', rfl⟩
      obtain ⟨a, ha⟩ := hk p hp'
      exact ⟨p, hp', by rw [ha]; simp [Lit.sameKey, strOf]⟩
    · rintro ⟨p, hp', hs⟩
      obtain ⟨a, ha⟩ := hk p hp'
      rw [ha] at hs
      exact ⟨p, hp', by rw [ha]; simpa [Lit.sameKey, strOf] using hs⟩
/-- Each key as often as it is counted. -/
def expd (l : List Tx) (ks : List Tx) : List Tx := ks.flatMap (fun t => List.replicate (l.count t) t)
theorem expd_count (l : List Tx) (u : Tx) : ∀ ks : List Tx, ks.Nodup → (expd l ks).count u = if u ∈ ks then l.count u else 0
  | [], _ => by simp [expd]
  | t :: ks, h => by
    have ih := expd_count l u ks (List.nodup_cons.1 h).2
    show (List.replicate (l.count t) t ++ expd l ks).count u = _
    rw [List.count_append, ih, List.count_replicate]
    by_cases e : t = u
    · subst e
      rw [if_neg (List.nodup_cons.1 h).1]
      simp
    · have e' : ¬ u = t := fun h => e h.symm
      simp [e, e']
theorem expd_asc (l : List Tx) : ∀ ks : List Tx, Asc ks → Asc (expd l ks)
  | [], _ => List.Pairwise.nil
  | t :: ks, h => by
    obtain ⟨h1, h2⟩ := List.pairwise_cons.1 h
    show (List.replicate (l.count t) t ++ expd l ks).Pairwise _
    refine List.pairwise_append.2 ⟨?_, expd_asc l ks h2, fun a ha b hb => ?_⟩
    · rw [List.pairwise_replicate]; right; simp
    · rw [(List.mem_replicate.1 ha).2]
      obtain ⟨k, hk, hb'⟩ := List.mem_flatMap.1 hb
      rw [(List.mem_replicate.1 hb').2]
      exact h1 k hk
theorem expd_srt {l ks : List Tx} (hnd : ks.Nodup) (hm : ∀ t, t ∈ ks ↔ t ∈ l) (ha : Asc ks) : expd l ks = srt l := by
  refine asc_perm (expd_asc l ks ha) (srt_asc l) ?_
  rw [List.perm_iff_count]
  intro u
  rw [(srt_perm l).count_eq, expd_count l u ks hnd]
  by_cases h : u ∈ ks
  · rw [if_pos h]
  · rw [if_neg h, List.count_eq_zero_of_not_mem (fun h' => h ((hm u).2 h'))]
theorem expd_take {l ks : List Tx} {k : Nat} (h : k < ks.length) : expd l (ks.take (k + 1)) = expd l (ks.take k) ++ List.replicate (l.count ks[k]) ks[k] := by
  unfold expd
  rw [List.take_succ_eq_append_getElem h, List.flatMap_append]; simp
theorem expd_len_le {l ks : List Tx} (hnd : ks.Nodup) (hm : ∀ t, t ∈ ks ↔ t ∈ l) (ha : Asc ks) (k : Nat) : (expd l (ks.take k)).length ≤ l.length := by
  have h1 : expd l ks = expd l (ks.take k) ++ expd l (ks.drop k) := by
    unfold expd; rw [← List.flatMap_append, List.take_append_drop]
  have h2 := congrArg List.length (expd_srt hnd hm ha)
  rw [h1, List.length_append, srt_len] at h2
  omega
end Go.Proofs.YthggcdadipjiiaaGreatDoor

/-
  What putT and outT do to a row in its order: it stays in its order.
-/
namespace Go.Proofs.YthggcdadipjiiaaGreatDoor
open Go.RowKit Go.Sort

theorem lt_txt (a b : ByteArray) : lt a b = decide (txt a < txt b) := by
  unfold lt txt
  rw [bytesLess_eq, ByteArray.toList_eq, ByteArray.toList_eq]
theorem leB_of_lt {a b : ByteArray} (h : lt a b = true) : leB (txt a) (txt b) = true := by
  rw [lt_txt, decide_eq_true_eq] at h
  simp only [leB, decide_eq_true_eq]
  exact List.le_of_lt h
theorem leB_of_not {a b : ByteArray} (h : lt b a = false) : leB (txt a) (txt b) = true := by
  rw [lt_txt, decide_eq_false_iff_not] at h
  simp only [leB, decide_eq_true_eq]
  exact List.not_lt.1 h
theorem leT_leB {a b : ByteArray} (h : leT a b = true) : leB (txt a) (txt b) = true := by
  unfold leT at h
  rcases Bool.or_eq_true_iff.1 h with h | h
  · exact leB_of_lt h
  · have : a = b := toList_inj (by simpa using h)
    subst this
    exact leB_of_not (less_irr _)
theorem leT_not {a b : ByteArray} (h : leT a b = false) : leB (txt b) (txt a) = true := by
  unfold leT at h
  exact leB_of_not (Bool.or_eq_false_iff.1 h).1
theorem sorted_le {l : List ByteArray} (h : Sorted l) : ∀ d i, (h' : i + d < l.length) → leB (txt l[i]) (txt l[i + d]) = true
  | 0, i, _ => leB_of_not (less_irr _)
  | d + 1, i, h' => leB_tr _ _ _ (sorted_le h d i (by omega)) (leB_of_not (h (i + d) (by omega)))
theorem sorted_asc {l : List ByteArray} (h : Sorted l) : Asc (l.map txt) := by
  unfold Asc
  rw [List.pairwise_map, List.pairwise_iff_getElem]
  intro i j hi hj hij
  have := sorted_le h (j - i) i (by omega)
  rwa [show l[i + (j - i)]'(by omega) = l[j] from by congr 1; omega] at this
theorem asc_sorted {l : List ByteArray} (h : Asc (l.map txt)) : Sorted l := by
  intro i hi
  unfold Asc at h
  rw [List.pairwise_map, List.pairwise_iff_getElem] at h
  have := h i (i + 1) (by omega) hi (by omega)
  rw [lt_txt, decide_eq_false_iff_not]
  simp only [leB, decide_eq_true_eq] at this
  exact List.not_lt.2 this
theorem put_perm (l : List ByteArray) (t : ByteArray) : (putT l t).Perm (t :: l) := by
  unfold putT
  rw [List.append_assoc]
  refine (List.perm_middle (a := t) (l₁ := l.take (kI l t)) (l₂ := l.drop (kI l t))).trans ?_
  rw [List.take_append_drop]
theorem take_while {α : Type} (p : α → Bool) : ∀ l : List α, l.take (l.takeWhile p).length = l.takeWhile p
  | [] => rfl
  | x :: r => by
    cases hp : p x with
    | true => rw [List.takeWhile_cons_of_pos hp, List.length_cons, List.take_succ_cons, take_while p r]
    | false => rw [List.takeWhile_cons_of_neg (by rw [hp]; simp)]; rfl
theorem drop_while {α : Type} (p : α → Bool) : ∀ l : List α, l.drop (l.takeWhile p).length = l.dropWhile p
  | [] => rfl
  | x :: r => by
    cases hp : p x with
    | true => rw [List.takeWhile_cons_of_pos hp, List.length_cons, List.drop_succ_cons, drop_while p r, List.dropWhile_cons_of_pos hp]
    | false => rw [List.takeWhile_cons_of_neg (by rw [hp]; simp), List.dropWhile_cons_of_neg (by rw [hp]; simp)]; rfl
theorem put_asc {l : List ByteArray} (h : Asc (l.map txt)) (t : ByteArray) : Asc ((putT l t).map txt) := by
  have hk : l.take (kI l t) = l.takeWhile (leT · t) := take_while _ l
  have hd : l.drop (kI l t) = l.dropWhile (leT · t) := drop_while _ l
  have hall : ∀ a ∈ l.take (kI l t), leB (txt a) (txt t) = true := fun a ha => by
    rw [hk] at ha
    exact leT_leB (List.all_eq_true.1 List.all_takeWhile a ha)
  have hrest : ∀ a ∈ l.drop (kI l t), leB (txt t) (txt a) = true := by
    have hs : Asc ((l.drop (kI l t)).map txt) := by
      unfold Asc at *
      rw [List.map_drop]
      exact h.sublist (List.drop_sublist _ _)
    rw [hd] at hs ⊢
    have h0 := List.head?_dropWhile_not (leT · t) l
    cases hc : l.dropWhile (leT · t) with
    | nil => intro a ha; simp at ha
    | cons x r =>
      rw [hc] at hs h0
      have hx : leT x t = false := by simpa using h0
      have h1 := leT_not hx
      intro a ha
      rcases List.mem_cons.1 ha with rfl | ha
      · exact h1
      · unfold Asc at hs
        rw [List.map_cons, List.pairwise_cons] at hs
        exact leB_tr _ _ _ h1 (hs.1 _ (List.mem_map_of_mem ha))
  unfold Asc at *
  unfold putT
  rw [List.append_assoc, List.map_append, List.pairwise_append]
  refine ⟨?_, ?_, ?_⟩
  · rw [List.map_take]; exact h.sublist (List.take_sublist _ _)
  · show List.Pairwise _ (txt t :: (l.drop (kI l t)).map txt)
    rw [List.pairwise_cons]
    refine ⟨fun a ha => ?_, ?_⟩
    · obtain ⟨x, hx, rfl⟩ := List.mem_map.1 ha
      exact hrest x hx
    · rw [List.map_drop]; exact h.sublist (List.drop_sublist _ _)
  · intro a ha b hb
    obtain ⟨x, hx, rfl⟩ := List.mem_map.1 ha
    obtain ⟨y, hy, rfl⟩ := List.mem_map.1 hb
    rcases List.mem_append.1 hy with hy | hy
    · obtain rfl := List.mem_singleton.1 hy
      exact hall x hx
    · exact leB_tr _ _ _ (hall x hx) (hrest y hy)
theorem out_asc {l : List ByteArray} (h : Asc (l.map txt)) (k : Nat) : Asc ((outT l k).map txt) := by
  unfold Asc at *
  unfold outT
  rw [← List.eraseIdx_eq_take_drop_succ]
  exact h.sublist ((List.eraseIdx_sublist l k).map txt)
theorem out_perm {l : List ByteArray} {k : Nat} (hk : k < l.length) : (l[k] :: outT l k).Perm l := by
  unfold outT
  refine (List.perm_middle (a := l[k]) (l₁ := l.take k) (l₂ := l.drop (k + 1))).symm.trans ?_
  rw [← List.drop_eq_getElem_cons hk, List.take_append_drop]
end Go.Proofs.YthggcdadipjiiaaGreatDoor

/-
  The marks that a step's flows put: spec's row, one put after another, is the order of what the stand's map counts.
-/
namespace Go.Proofs.YthggcdadipjiiaaGreatDoor
open Go.RowKit Go.Sort

/-- One put for each flow from s, the first flow first. -/
def putF (s : ByteArray) : List Pr → List ByteArray → List ByteArray
  | [], l => l
  | f :: r, l => putF s r (if f.fst = s then putT l f.snd else l)
theorem putF_append (s : ByteArray) : ∀ (a b : List Pr) (l : List ByteArray), putF s (a ++ b) l = putF s b (putF s a l)
  | [], _, _ => rfl
  | f :: r, b, l => putF_append s r b (if f.fst = s then putT l f.snd else l)
theorem putF_take {s : ByteArray} {fs : List Pr} {k : Nat} (h : k < fs.length) (l : List ByteArray) : putF s (fs.take (k + 1)) l = if fs[k].fst = s then putT (putF s (fs.take k) l) fs[k].snd else putF s (fs.take k) l := by
  rw [List.take_succ_eq_append_getElem h, putF_append]
  rfl
theorem putF_spec (s : ByteArray) (l : List ByteArray) (h : Asc (l.map txt)) (fs : List Pr) : ∀ k, k ≤ fs.length → Asc ((putF s (fs.take k) l).map txt) ∧ ((putF s (fs.take k) l).map txt).Perm (addF s (fs.take k) (l.map txt))
  | 0, _ => ⟨h, List.Perm.refl _⟩
  | k + 1, hk => by
    obtain ⟨h1, h2⟩ := putF_spec s l h fs k (by omega)
    rw [putF_take (by omega), addF_take (by omega)]
    by_cases e : fs[k].fst = s
    · rw [if_pos e, if_pos e]
      exact ⟨put_asc h1 _, ((put_perm _ _).map txt).trans (h2.cons _)⟩
    · rw [if_neg e, if_neg e]
      exact ⟨h1, h2⟩
theorem putF_srt (s : ByteArray) {l : List ByteArray} (h : Asc (l.map txt)) (fs : List Pr) : (putF s fs l).map txt = srt (addF s fs (l.map txt)) := by
  obtain ⟨h1, h2⟩ := putF_spec s l h fs fs.length (Nat.le_refl _)
  rw [List.take_length] at h1 h2
  exact asc_perm h1 (srt_asc _) (h2.trans (srt_perm _).symm)
theorem putF_len (s : ByteArray) {l : List ByteArray} (h : Asc (l.map txt)) (fs : List Pr) : (putF s fs l).length = (addF s fs (l.map txt)).length := by
  have := congrArg List.length (putF_srt s h fs)
  rwa [List.length_map, srt_len] at this
end Go.Proofs.YthggcdadipjiiaaGreatDoor
