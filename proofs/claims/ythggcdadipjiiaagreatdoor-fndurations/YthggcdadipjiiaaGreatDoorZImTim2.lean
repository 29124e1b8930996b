/-
  Texts put together: ImTim, ImLas.
-/
import Derived.Test.YthggcdadipjiiaaGreatDoorZItr6
import Derived.Test.YthggcdadipjiiaaGreatDoorZShRun2
import Derived.Test.YthggcdadipjiiaaGreatDoorZEvC6
import Derived.Test.YthggcdadipjiiaaGreatDoorZSpDo24
import Derived.Test.YthggcdadipjiiaaGreatDoorZDuE3
import Derived.Test.YthggcdadipjiiaaGreatDoorZDuG2
import Derived.Test.YthggcdadipjiiaaGreatDoorZSpSet24
/-
  impl.timesOf: when events of a kind and a step were, in order: a contract over the seat's program.
-/
namespace Go.Proofs.YthggcdadipjiiaaGreatDoor
open Go.RowKit Go.Shelf
attribute [local go_sem] Oper.semAt_some

abbrev tyI : List TypeId := [56, 2]
/-- Of that kind and step? -/
def isKS (kd : Int) (s : ByteArray) (e : Ev) : Bool := decide (e.kind = kd ∧ e.step = s)
def pickT (es : List Ev) (kd : Int) (s : ByteArray) : List Int := (es.filter (isKS kd s)).map Ev.time
theorem mapT_take {l : List Ev} {k : Nat} (h : k < l.length) : ((l.take (k + 1)).map Ev.time).map (Value.int .i64) = ((l.take k).map Ev.time).map (Value.int .i64) ++ [.int .i64 l[k].time] := by
  rw [List.take_succ_eq_append_getElem h, List.map_append, List.map_append]; rfl
set_option maxRecDepth 100000 in
theorem isKS_any (b1 b2 : Nat) (kd : Int) (s : ByteArray) (e : Ev) (X : World) (h1 : X.cell? ⟨b1, 0, none⟩ = some (.int .i64 kd)) (h2 : X.cell? ⟨b2, 0, none⟩ = some (.string s)) (l1 : b1 < X.heap.size) (l2 : b2 < X.heap.size) :
    Calls Tryz.prog 91 #[evO e, .pointer (some ⟨b1, 0, none⟩), .pointer (some ⟨b2, 0, none⟩)] X fun x X' => x = .returned (.bool (isKS kd s e)) ∧ Below X.heap.size X X' := by
  obtain ⟨eq, et, er, k, t, ev⟩ := e
  dsimp only [evO]
  have hb := (Below.refl X.heap.size X).alloc (Nat.le_refl _) (.cells #[.int .i64 eq, .int .i64 et, .int .i64 er, .int .i64 k, .string t, .string ev] 33)
  have h3 := (hb.cell (p := ⟨b1, 0, none⟩) l1).trans h1
  have h4 := (hb.cell (p := ⟨b2, 0, none⟩) l2).trans h2
  unfold isKS
  dsimp only
  by_cases hk : k = kd
  · subst hk
    by_cases hs : t = s
    · subst hs
      have hq : (t.toList == t.toList) = true := by simp
      have hd : decide (k = k ∧ t = t) = true := by simp
      rw [hd]
      go_enter Tryz.func91, Tryz.ntmps91
      go_wp2
      go_ret
      exact ⟨rfl, hb⟩
    · have hq : (t.toList == s.toList) = false := beq_eq_false_iff_ne.2 fun h => hs (toList_inj h)
      have hd : decide (k = k ∧ t = s) = false := by simp [hs]
      rw [hd]
      go_enter Tryz.func91, Tryz.ntmps91
      go_wp2
      go_ret
      exact ⟨rfl, hb⟩
  · have hq : (k == kd) = false := beq_eq_false_iff_ne.2 hk
    have hd : decide (k = kd ∧ t = s) = false := by simp [hk]
    rw [hd]
    go_enter Tryz.func91, Tryz.ntmps91
    go_wp2
    go_ret
    exact ⟨rfl, hb⟩
set_option maxRecDepth 100000 in
theorem picked_any (ge gh : Nat) (lbe lbh : Array Value) (w : World) : Calls Tryz.prog 64 #[.func (.func ge) #[] lbe, .func (.func gh) #[] lbh] w fun e w' => e = .returned (.func (.func 92) #[] #[.pointer (some ⟨w.heap.size, 0, none⟩), .pointer (some ⟨w.heap.size + 1, 0, none⟩)]) ∧ w' = (w.alloc (.cells #[.func (.func ge) #[] lbe] 64)).alloc (.cells #[.func (.func gh) #[] lbh] 98) := by
  go_enter Tryz.func64, Tryz.ntmps64
  go_wp2
  refine bodyPost_ret (v := .func (.func 92) #[] #[.pointer (some ⟨w.heap.size, 0, none⟩), .pointer (some ⟨w.heap.size + 1, 0, none⟩)]) (by simp [results, Tryz.results64, go_sem]) rfl ?_
  exact ⟨rfl, rfl⟩
theorem new5 (w : World) (o1 o2 o3 o4 o5 : Obj) : ∀ W, W = ((((w.alloc o1).alloc o2).alloc o3).alloc o4).alloc o5 → W.heap[w.heap.size]? = some o1 ∧ W.heap[w.heap.size + 1]? = some o2 ∧ W.heap[w.heap.size + 2]? = some o3 ∧ W.heap[w.heap.size + 3]? = some o4 ∧ W.heap[w.heap.size + 4]? = some o5 ∧ Below w.heap.size w W ∧ W.heap.size = w.heap.size + 5 := by
  rintro W rfl
  obtain ⟨h1, h2, h3, h4⟩ := new4 w o1 o2 o3 o4
  have h5 := heap_alloc_new ((((w.alloc o1).alloc o2).alloc o3).alloc o4) o5
  have hz : ((((w.alloc o1).alloc o2).alloc o3).alloc o4).heap.size = w.heap.size + 4 := by simp
  have hb : Below w.heap.size w ((((w.alloc o1).alloc o2).alloc o3).alloc o4) := ((((Below.refl _ w).alloc (Nat.le_refl _) _).alloc (by simp) _).alloc (by simp; omega) _).alloc (by simp; omega) _
  generalize (((w.alloc o1).alloc o2).alloc o3).alloc o4 = W4 at *
  rw [hz] at h5
  have st := fun (k : Nat) (o : Obj) (h : W4.heap[k]? = some o) => (Below.heap_alloc W4 o5 k (lt_heap h)).trans h
  exact ⟨st _ _ h1, st _ _ h2, st _ _ h3, st _ _ h4, h5, hb.alloc hb.size _, by simp [hz]⟩
set_option maxRecDepth 100000 in
set_option maxHeartbeats 4000000 in
theorem timesOf_any (g n₀ : Nat) (lb : Array Value) (es : List Ev) (kd : Int) (s : ByteArray) (w : World) (eg : ∀ args w, (callFunc g args).run Tryz.prog w = .ok (.enter g args) w) (hS : Sq tyI Tryz.prog g lb evA n₀ es w) (hn₀ : n₀ ≤ w.heap.size) (hn : es.length ≤ 1048576) :
    Calls Tryz.prog 63 #[.func (.func g) #[] lb, .int .i64 kd, .string s] w fun e w' => ∃ v, e = .returned v ∧ w'.ownsRow w.heap.size 2 1 v (pickT es kd s).length ((pickT es kd s).map (Value.int .i64)) ∧ Below w.heap.size w w' := by
  have hlen : (es.filter (isKS kd s)).length ≤ 1048576 := Nat.le_trans (List.length_filter_le _ _) hn
  unfold pickT
  rw [List.length_map]
  generalize hxs : es.filter (isKS kd s) = xs at *
  have HS := hid hS
  clear hS
  obtain ⟨i0, hi, hz0, hz1, hz2⟩ := info_parts Tryz.infoInt
  refine (callsIn_wide (n := 9)).1 ?_
  refine callsIn_of_wp_marks Tryz.func63 rfl trivial ?_ rfl
  simp only [Tryz.ntmps63, List.size_toArray, List.length_cons, List.length_nil, Nat.reduceAdd, Nat.reduceSub, Array.replicate_succ, Array.replicate_zero, List.push_toArray, List.append_toArray, List.nil_append, List.cons_append]
  gi_wp2_with fail
  refine ⟨trivial, (callsIn_wide.2 (picked_any _ _ _ _ _)).mono ?_⟩
  rintro e W5 ⟨rfl, hW5⟩
  obtain ⟨n1, n2, n3, n4, n5, hb5, hz5⟩ := new5 w _ _ _ _ _ W5 hW5
  simp only [World.size_alloc]
  clear hW5
  have HSq : Hid (Sq tyI Tryz.prog 92 #[.pointer (some ⟨w.heap.size + 3, 0, none⟩), .pointer (some ⟨w.heap.size + 4, 0, none⟩)] evA (w.heap.size + 2) xs W5) := hid (by
    rw [← hxs]
    refine picked_sq tyI (by decide) (w.heap.size + 3) (w.heap.size + 4) g 91 (w.heap.size + 2) lb #[.pointer (some ⟨w.heap.size, 0, none⟩), .pointer (some ⟨w.heap.size + 1, 0, none⟩)] (isKS kd s) es W5 (by omega) (by rw [Lib.cell_of_heap n4]; rfl) n5 (lt_heap n4) eg (enters_of Tryz.func91 (by kernel_rfl) rfl) ((HS.out.later hb5).up (by omega)) ?_
    intro e X hX
    exact isKS_any w.heap.size (w.heap.size + 1) kd s e X ((hX.cell (p := ⟨w.heap.size, 0, none⟩) (by simp)).trans (by rw [Lib.cell_of_heap n1]; rfl)) ((hX.cell (p := ⟨w.heap.size + 1, 0, none⟩) (by simp)).trans (by rw [Lib.cell_of_heap n2]; rfl)) (by have := hX.size; omega) (by have := hX.size; omega))
  gi_wp2
  refine wpIn_sq (gf := 92) (lb := #[.pointer (some ⟨w.heap.size + 3, 0, none⟩), .pointer (some ⟨w.heap.size + 4, 0, none⟩)]) rfl (enters_of Tryz.func92 (by kernel_rfl) rfl) HSq.out (Below.refl _ _) (by omega) (fun _ => rfl)
    (fun k V => ∃ v, V.heap[w.heap.size + 2]? = some (.cells #[v] 56 (0, 0)) ∧ V.ownsRow (w.heap.size + 2) 2 1 v k (((xs.take k).map Ev.time).map (Value.int .i64)) ∧ Below w.heap.size w V ∧ w.heap.size + 2 ≤ V.heap.size)
    ?own ⟨_, n3, World.ownsRow_nil _ _ _ _, hb5, by omega⟩
    (fun x a' V => ∃ Bx, V.heap[Bx]? = some (.cells #[.int .i64 x.seq, .int .i64 x.time, .int .i64 x.run, .int .i64 x.kind, .string x.step, .string x.val] 33 (0, 0)) ∧ a' = { tmps := #[.func (.func g) #[] lb, .int .i64 kd, .string s, undef, .pointer (some ⟨w.heap.size, 0, none⟩), .pointer (some ⟨w.heap.size + 1, 0, none⟩), .slice none 0 0, .pointer (some ⟨w.heap.size + 2, 0, none⟩), .pointer (some ⟨Bx, 0, none⟩), .func (.func g) #[] lb, .func (.func 91) #[] #[.pointer (some ⟨w.heap.size, 0, none⟩), .pointer (some ⟨w.heap.size + 1, 0, none⟩)], .func (.func 92) #[] #[.pointer (some ⟨w.heap.size + 3, 0, none⟩), .pointer (some ⟨w.heap.size + 4, 0, none⟩)], evO x, undef, undef, undef, undef, undef, undef], defers := [] })
    ?ownx ?assign ?body ?done
  case own =>
    rintro s' A B row ⟨v, h1, h2, h3, h4⟩ hg hr
    refine ⟨v, own_blk _ _ _ _ _ 0 A B row h1 hg hr, h2.kept hg ?_, own_below (Nat.le_refl _) (by omega) 0 A B row h3 hg hr, Nat.le_trans h4 hg.size⟩
    rcases h2.2 with ⟨rfl, _⟩ | ⟨b, cap, cur, rfl, _, hgb, _⟩
    · exact .inl rfl
    · refine .inr fun e => ?_
      obtain ⟨o, ho, hc⟩ := (hr b e.symm).2
      rw [hgb] at ho
      cases ho
      cases hc
  case ownx =>
    rintro x a' s A B row ⟨Bx, h2, h3⟩ hg hr
    exact ⟨Bx, own_blk _ _ _ _ _ 0 A B row h2 hg hr, h3⟩
  case assign =>
    rintro l' k x V K ⟨v, h1, h2, h3, h4⟩ hx hK
    have HK := hid hK
    clear hK
    gi_wp2
    exact HK.out _ _ (KeepsT.alloc _ _ _) ((Below.refl _ V).alloc h4 _) ⟨v, (Below.heap_alloc V _ _ (lt_heap h1)).trans h1, h2.alloc _, h3.alloc h3.size _, by simp; omega⟩ ⟨V.heap.size, heap_alloc_new _ _, rfl⟩
  case body =>
    rintro l' k x a' V hl ⟨v, h1, hr, hb, hv4⟩ ⟨Bx, h2, rfl⟩ hx
    obtain ⟨hlt, hxe⟩ := List.getElem?_eq_some_iff.1 hx
    have HF := hid (mapT_take hlt)
    rw [hxe] at HF
    obtain ⟨va, vc, rfl⟩ := ownB_form hr
    have HR := hid (hr.alloc (.cells #[.int .i64 x.time] 2))
    have H1 := hid h1
    have HBv := hid hb
    have hzv := hb.size
    have d0 : V.cell? ⟨w.heap.size + 2, 0, none⟩ = some (.slice va k vc) := by rw [Lib.cell_of_heap h1]; rfl
    have e1 : V.cell? ⟨Bx, 1, none⟩ = some (.int .i64 x.time) := by rw [Lib.cell_of_heap h2]; rfl
    clear hr h1 hb h2 hx hxe
    generalize ((xs.take k).map Ev.time).map (Value.int .i64) = L at *
    gi_wp2_with (gi_at_builtin; refine wpListIn_append_own _ rfl _ _ 56 rfl (w.heap.size + 2) 2 i0 _ 1 8 Tryz.underlying56 hi hz0 hz1 hz2 rfl (by decide) _ _ _ rfl HR.out ⟨V.heap.size, 0, none⟩ 1 1 [.int .i64 x.time] rfl rfl ?c1 ?c0 ?c2 ?c3 ?c4 ?_)
    case c1 => exact int_new_cell V x.time _
    case c0 => simp [Value.oneCell']
    case c2 => unfold maxLen; omega
    case c3 => omega
    case c4 => simp; omega
    intro v' w1 ho hg _
    have hA := (Below.heap_alloc V (.cells #[.int .i64 x.time] 2) _ (lt_heap H1.out)).trans H1.out
    have hne := own_ne HR.out hA (by decide)
    have hbox : w1.heap[w.heap.size + 2]? = some (.cells #[.slice va k vc] 56 (0, 0)) := (hg.block _ (lt_heap hA) (fun e => hne _ e.symm rfl)).trans hA
    obtain ⟨ua, uc, rfl⟩ := ownB_form ho
    have hne1 := own_ne ho hbox (by decide)
    have HBX := hid hbox
    have HKT : Hid (KeepsT tyI V w1) := hid ((KeepsT.alloc _ V _).trans (KeepsT.grown hg (fun j e => by
      obtain ⟨c, t, f, h1, h2⟩ := own_type HR.out j e
      exact ⟨c, t, f, h1, by subst h2; decide⟩)))
    have HBL : Hid (Below (w.heap.size + 2) V w1) := hid (((Below.refl (w.heap.size + 2) V).alloc hv4 _).grown hg (by simp; omega) (fun j e => (HR.out.lt j e).1))
    have HO := hid ho
    have HNE := hid hne1
    have d1 : w1.cell? ⟨w.heap.size + 2, 0, none⟩ = some (.slice va k vc) := by rw [Lib.cell_of_heap hbox]; rfl
    have d2 := Lib.frozen_of_heap hbox
    have hz1 : w.heap.size + 2 ≤ w1.heap.size := by have := HBL.out.size; omega
    clear hA hne hbox ho hg hne1 d0
    gi_wp2_with fail
    refine ⟨HKT.out.trans (KeepsT.grown (grown_set w1 (w.heap.size + 2) 0 _) (fun j e => by cases e; exact ⟨_, _, _, HBX.out, by decide⟩)), HBL.out.setCell (p := ⟨w.heap.size + 2, 0, none⟩) (Nat.le_refl _) _, _, blk_set (L := [_]) HBX.out _, ?_, (HBv.out.trans (HBL.out.mono (by omega))).setCell (p := ⟨w.heap.size + 2, 0, none⟩) (by simp) _, by simpa using hz1⟩
    rw [HF.out]
    exact HO.out.kept (grown_set w1 (w.heap.size + 2) 0 _) (.inr (fun e => HNE.out _ e rfl))
  case done =>
    rintro D V hD ⟨v, h1, hr, hb, _⟩ hK
    obtain ⟨va, vc, rfl⟩ := ownB_form hr
    have d0 : V.cell? ⟨w.heap.size + 2, 0, none⟩ = some (.slice va xs.length vc) := by rw [Lib.cell_of_heap h1]; rfl
    gi_wp2
    refine ⟨by simp, .inl ⟨_, _, rfl, run_takeDeferred hK, ?_⟩⟩
    rw [List.take_length] at hr
    exact ⟨_, results_tmp rfl _ _ _, _, rfl, ownB_le (ownsRow_putObj hr _ hK rfl) (by omega), hb.trans (belowK_b (w := w) (Nat.le_refl _) V D _ _ (by omega) hK rfl rfl)⟩
end Go.Proofs.YthggcdadipjiiaaGreatDoor

/-
  impl.lastings: how long a step lasted, each time that it was left: a contract over the seat's program.
-/
namespace Go.Proofs.YthggcdadipjiiaaGreatDoor
open Go.RowKit Go.Shelf

/-- The first k taken off. -/
def subL (A B : List Int) (k : Nat) : List Int := (List.range A.length).map fun j => if j < k then A.getD j 0 - B.getD j 0 else A.getD j 0
theorem subL_len (A B : List Int) (k : Nat) : (subL A B k).length = A.length := by simp [subL]
theorem subL_get {A B : List Int} {k j : Nat} (h : j < (subL A B k).length) (hA : j < A.length) : (subL A B k)[j] = if j < k then A.getD j 0 - B.getD j 0 else A[j] := by
  simp [subL, List.getD_eq_getElem?_getD, hA]
theorem subL_zero (A B : List Int) : subL A B 0 = A := by
  refine List.ext_getElem (subL_len A B 0) fun j h1 h2 => ?_
  rw [subL_get h1 h2, if_neg (Nat.not_lt_zero j)]
theorem subL_set {A B : List Int} {k : Nat} (hA : k < A.length) (hB : k < B.length) : (subL A B k).set k (A[k] - B[k]) = subL A B (k + 1) := by
  refine List.ext_getElem (by rw [List.length_set, subL_len, subL_len]) fun j h1 h2 => ?_
  have hj : j < A.length := by rw [subL_len] at h2; exact h2
  rw [List.getElem_set, subL_get h2 hj]
  by_cases e : k = j
  · subst e
    rw [if_pos rfl, if_pos (Nat.lt_succ_self k)]
    simp [List.getD_eq_getElem?_getD, hA, hB]
  · rw [if_neg e, subL_get (by rw [subL_len]; exact hj) hj]
    by_cases hk : j < k
    · rw [if_pos hk, if_pos (by omega)]
    · rw [if_neg hk, if_neg (by omega)]
theorem subL_all {A B : List Int} (h : A.length ≤ B.length) : subL A B A.length = List.zipWith (fun a b => a - b) A B := by
  refine List.ext_getElem (by rw [subL_len, List.length_zipWith]; omega) fun j h1 h2 => ?_
  have hj : j < A.length := by rw [subL_len] at h1; exact h1
  rw [subL_get h1 hj, if_pos hj, List.getElem_zipWith]
  simp [List.getD_eq_getElem?_getD, hj, show j < B.length by omega]
theorem las_eq (es : List Ev) (r : Int) (s : ByteArray) : List.zipWith (fun a b => a - b) (pickT (ofRun es r) 3 s) (pickT (ofRun es r) 2 s) = lastL es r s := by
  have hk : ∀ k : Int, (ofRun es r).filter (isKS k s) = es.filter (isK k r s) := fun k => by
    unfold ofRun
    rw [List.filter_filter]
    congr 1
    funext e
    unfold isKS isK
    by_cases h1 : e.kind = k <;> by_cases h2 : e.run = r <;> by_cases h3 : e.step = s <;> simp [h1, h2, h3]
  unfold lastL pickT lvs ents
  rw [hk, hk, List.zipWith_map]
theorem own_somei {w : World} {base size n c : Nat} {e : TypeId} {a : Option Addr} {xs : List Value} (h : w.ownsRow base e size (.slice a n c) n xs) (h0 : 0 < n) : ∃ g, a = some ⟨g, 0, none⟩ := by
  rcases h.2 with ⟨hv, rfl⟩ | ⟨g, cap, cur, hv, _⟩
  · omega
  · injection hv with hv; exact ⟨g, hv⟩
set_option maxRecDepth 100000 in
theorem firstOfI_any (a : Option Addr) (n m c : Nat) (w : World) (h1 : m ≤ n) (h2 : n ≤ c) (hc : c ≤ maxLen) (ha : a = none → c = 0) : Calls Tryz.prog 59 #[.slice a n c, .int .i64 m] w fun e w' => e = .returned (.slice a m m) ∧ w' = w := by
  unfold maxLen at hc
  have q1 : (0 : Int) ≤ (m : Int) := by omega
  have q2 : (m : Int) ≤ (c : Int) := by omega
  cases a with
  | none =>
    obtain rfl := ha rfl
    obtain rfl : n = 0 := by omega
    obtain rfl : m = 0 := by omega
    go_enter Tryz.func59, Tryz.ntmps59
    go_wp2
    go_ret
    exact ⟨rfl, rfl⟩
  | some p =>
    obtain ⟨g, o, e⟩ := p
    go_enter Tryz.func59, Tryz.ntmps59
    go_wp2
    go_ret
    exact ⟨rfl, rfl⟩
set_option maxRecDepth 100000 in
set_option maxHeartbeats 4000000 in
theorem lastings_any (g n₀ : Nat) (lb : Array Value) (es : List Ev) (s : ByteArray) (w : World) (eg : ∀ args w, (callFunc g args).run Tryz.prog w = .ok (.enter g args) w) (hS : Sq tyI Tryz.prog g lb evA n₀ es w) (hn₀ : n₀ ≤ w.heap.size) (hn : es.length ≤ 1048576)
    (hle : (pickT es 3 s).length ≤ (pickT es 2 s).length) (hA : ∀ x ∈ pickT es 3 s, 0 ≤ x ∧ x ≤ 1000000) (hB : ∀ x ∈ pickT es 2 s, 0 ≤ x ∧ x ≤ 1000000) :
    Calls Tryz.prog 25 #[.func (.func g) #[] lb, .string s] w fun e w' => ∃ v, e = .returned v ∧ w'.ownsRow w.heap.size 2 1 v (pickT es 3 s).length ((List.zipWith (fun a b => a - b) (pickT es 3 s) (pickT es 2 s)).map (Value.int .i64)) ∧ Below w.heap.size w w' := by
  have c1 := timesOf_any g n₀ lb es 3 s w eg hS hn₀ hn
  have c2 := hid (fun (X : World) (hX : Below w.heap.size w X) => timesOf_any g n₀ lb es 2 s X eg (hS.later hX) (Nat.le_trans hn₀ hX.size) hn)
  have hl3 : (pickT es 3 s).length ≤ 1048576 := by unfold pickT; rw [List.length_map]; exact Nat.le_trans (List.length_filter_le _ _) hn
  have hl2 : (pickT es 2 s).length ≤ 1048576 := by unfold pickT; rw [List.length_map]; exact Nat.le_trans (List.length_filter_le _ _) hn
  have HA := hid hA
  have HBt := hid hB
  clear hS hA hB
  generalize pickT es 3 s = A at *
  generalize pickT es 2 s = B at *
  have HF := hid (subL_all hle)
  go_enter Tryz.func25, Tryz.ntmps25
  go_wp2_with fail
  refine c1.mono ?_
  rintro e W1 ⟨v1, rfl, ho1, hb1⟩
  obtain ⟨p1, m1, rfl⟩ := ownB_form ho1
  have C2 := c2.out W1 hb1
  have HO1 := hid ho1
  have HB1 := hid hb1
  have hz1 := hb1.size
  clear ho1 hb1 c1 c2
  go_wp2_with fail
  refine C2.mono ?_
  rintro e W2 ⟨v2, rfl, ho2, hb2⟩
  obtain ⟨p2, m2, rfl⟩ := ownB_form ho2
  have hcap : B.length ≤ m2 ∧ m2 ≤ maxLen ∧ (p2 = none → m2 = 0) := by
    rcases ho2.2 with ⟨hv, h0⟩ | ⟨g', cap, cur, hv, _, _, h3, h4, _⟩
    · injection hv with _ _ h; subst h; exact ⟨by omega, by unfold maxLen; omega, fun _ => rfl⟩
    · injection hv with h5 _ h; subst h; exact ⟨h3, h4, fun h => by rw [h] at h5; cases h5⟩
  have cF := firstOfI_any p2 B.length A.length m2 W2 hle hcap.1 hcap.2.1 hcap.2.2
  have HO2 := hid ho2
  have HP := hid (apart_of HO1.out ho2 (Nat.le_refl _) (Nat.le_refl _))
  have HO1' := hid (ownB_stay HO1.out hb2)
  have HB2 := hid (HB1.out.trans (hb2.mono hz1))
  have hz2 := HB2.out.size
  clear ho2 hb2 C2 hcap HO1 HB1
  go_wp2_with fail
  refine cF.mono ?_
  rintro e W3 ⟨rfl, rfl⟩
  clear cF
  by_cases h0 : A.length = 0
  · obtain rfl : A = [] := List.eq_nil_of_length_eq_zero h0
    go_wp2
    go_loop [20] (fun i => i = .int .i64 0) (fun _ => 0)
    case atStart => exact rfl
    case round =>
      obtain rfl := hrel
      go_wp2
      go_ret
      refine ⟨_, rfl, ?_, HB2.out⟩
      exact HO1'.out
  · have hp : 0 < A.length := by omega
    obtain ⟨g1, rfl⟩ := own_somei HO1'.out hp
    obtain ⟨g2, rfl⟩ := own_somei HO2.out (by omega)
    have hg12 : g2 ≠ g1 := fun e => HP.out g1 rfl (by rw [e]; rfl)
    have hgl := HO1'.out.lt g1 rfl
    have hg2 := HO2.out.lt g2 rfl
    have HC2 := hid (own_cellf HO2.out).1
    have HS0 : Hid (W3.ownsRow w.heap.size 2 1 (.slice (some ⟨g1, 0, none⟩) A.length m1) A.length ((subL A B 0).map (Value.int .i64))) := hid (by rw [subL_zero]; exact HO1'.out)
    clear HO2 HP HO1'
    go_wp2
    go_loopw [7, 8, 20] (fun x y i wr => ∃ k : Nat, k ≤ A.length ∧ i = .int .i64 k ∧ wr.ownsRow w.heap.size 2 1 (.slice (some ⟨g1, 0, none⟩) A.length m1) A.length ((subL A B k).map (Value.int .i64)) ∧ Chg (fun j => j = g1) W3 wr) (fun _ _ i _ => A.length - (intOf i).toNat)
    case atStart => exact ⟨0, Nat.zero_le _, rfl, HS0.out, Chg.refl _ _⟩
    case round =>
      obtain ⟨k, hk, rfl, hown, hch⟩ := hrel
      by_cases hlt : k < A.length
      · have hkB : k < B.length := by omega
        have HO := hid hown
        have HCH := hid hch
        have HST := hid (subL_set hlt hkB)
        have hav := HA.out _ (List.getElem_mem hlt)
        have hbv := HBt.out _ (List.getElem_mem hkB)
        obtain ⟨hc, hf⟩ := own_cellf hown
        have ca : wr.cell? ⟨g1, k, none⟩ = some (.int .i64 A[k]) := hc k _ (by
          have hs : k < (subL A B k).length := by rw [subL_len]; exact hlt
          rw [List.getElem?_map, List.getElem?_eq_getElem hs, subL_get hs hlt, if_neg (Nat.lt_irrefl k)]; rfl)
        have cb : wr.cell? ⟨g2, k, none⟩ = some (.int .i64 B[k]) := (hch.cell hg2.2 hg12).trans (HC2.out k _ (by rw [List.getElem?_map, List.getElem?_eq_getElem hkB]; rfl))
        have ff := hf k
        clear hc hf hown hch
        generalize A[k] = x at *
        generalize B[k] = y at *
        have hw : IntKind.i64.wrap (x - y) = x - y := by rw [IntKind.wrap_i64]; omega
        have q1 : (0 : Int) ≤ (k : Int) := by omega
        have q2 : (k : Int) < (A.length : Int) := by omega
        go_wp2_with fail
        have HO9 := hid (own_setc (i := k) HO.out (.int .i64 (x - y)))
        rw [← List.map_set (f := Value.int .i64), HST.out] at HO9
        have HC9 := hid (HCH.out.trans (Chg.of_grown (grown_set wr g1 k (.int .i64 (x - y))) rfl))
        clear HO HCH ca cb ff
        go_roundw
        case rel => exact ⟨k + 1, by omega, by go_num, HO9.out, HC9.out⟩
        case measure => simp [intOf]; omega
      · obtain rfl : k = A.length := by omega
        have HO := hid hown
        have HCH := hid hch
        clear hown hch
        rw [HF.out] at HO
        go_wp2
        go_ret
        exact ⟨_, rfl, HO.out, HB2.out.trans (HCH.out.below hz2 (fun j e => e ▸ hgl.1))⟩
end Go.Proofs.YthggcdadipjiiaaGreatDoor
