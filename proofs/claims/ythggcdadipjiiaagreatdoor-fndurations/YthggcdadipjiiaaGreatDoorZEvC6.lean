/-
  Texts put together: EvC, EvAr, EvSz, EvTo, CopyN, InsV.
-/
import Derived.Test.YthggcdadipjiiaaGreatDoorZNm4
import Derived.Test.YthggcdadipjiiaaGreatDoorZSpDo24
import Derived.Test.YthggcdadipjiiaaGreatDoorZDfV3
import Derived.Lib.Builder
import Derived.Test.YthggcdadipjiiaaGreatDoorZEvT5
import Derived.Test.YthggcdadipjiiaaGreatDoorZGen4
import Derived.Laws.CopyOwn
import Derived.Test.YthggcdadipjiiaaGreatDoorZSpSet
import Derived.Lib.Overlaps
import Derived.Lib.AppendZerosOnto
import Derived.Laws.Externs
import Derived.Deep.RegionLaw
/-
  An event's cells, and rows by their type. Of no function. (Cut off ItrC.)
-/
namespace Go.Proofs.YthggcdadipjiiaaGreatDoor
open Go.RowKit

theorem ev_one_cells (x : Ev) : ∀ u ∈ x.cells, u.oneCell' = true := by simp [Ev.cells, Value.oneCell']

theorem ev_new_cells (V : World) (x : Ev) (T : TypeId) : ∀ j u, x.cells[j]? = some u → (V.alloc (.cells #[.int .i64 x.seq, .int .i64 x.time, .int .i64 x.run, .int .i64 x.kind, .string x.step, .string x.val] T)).cell? ((⟨V.heap.size, 0, none⟩ : Addr).add j) = some u := by
  intro j u hj
  rw [Addr.add_lit, Lib.cell_of_heap (heap_alloc_new _ _), Nat.zero_add, ← hj]
  simp [Ev.cells]
/-- A row of one's own lies in a block of its type. -/
theorem own_type {w : World} {base size n : Nat} {e : TypeId} {v : Value} {xs : List Value} (h : w.ownsRow base e size v n xs) : ∀ k, v.ownBlock = some k → ∃ c t f, w.heap[k]? = some (.cells c t f) ∧ t = e := by
  intro k hk
  rcases h.2 with ⟨rfl, _⟩ | ⟨g, cap, cur, rfl, _, hgb, _⟩
  · cases hk
  · cases hk
    exact ⟨_, _, _, hgb, rfl⟩

end Go.Proofs.YthggcdadipjiiaaGreatDoor

/-
  What laws.szEvent and laws.toEvent answer, for every event: contracts over the seat's program.
-/
namespace Go.Proofs.YthggcdadipjiiaaGreatDoor
open Go.RowKit

end Go.Proofs.YthggcdadipjiiaaGreatDoor

/-
  What laws.szEventS answers: how much is left behind so many events and their texts: a contract over the seat's program.
-/
namespace Go.Proofs.YthggcdadipjiiaaGreatDoor
open Go.RowKit

def sumE : List Ev → Nat
  | [] => 0
  | e :: r => e.step.size + e.val.size + sumE r
/-- What is left. -/
def szR (left : Int) (es : List Ev) : Int := if (es.length : Int) + (sumE es : Int) ≤ left then left - (es.length : Int) - (sumE es : Int) else -1
end Go.Proofs.YthggcdadipjiiaaGreatDoor

/-
  What laws.toEventS answers: the same events in a new row: a contract over the seat's program.
-/
namespace Go.Proofs.YthggcdadipjiiaaGreatDoor
open Go.RowKit

theorem Tryz.infoEv : (Tryz.prog.info? 33).map (fun i => (i.zero, i.size, i.bytes)) = some (some (.agg #[.int .i64 0, .int .i64 0, .int .i64 0, .int .i64 0, .string ⟨#[]⟩, .string ⟨#[]⟩]), 6, 64) := by kernel_rfl

theorem flat_take {es : List Ev} {k : Nat} (h : k < es.length) : (es.take (k + 1)).flatMap Ev.cells = (es.take k).flatMap Ev.cells ++ es[k].cells := by
  rw [List.take_succ_eq_append_getElem h, List.flatMap_append]; simp
end Go.Proofs.YthggcdadipjiiaaGreatDoor

/-
  copy of rows whose elements have several cells: laws for the walk. Of no function.
-/
namespace Go.Proofs.YthggcdadipjiiaaGreatDoor
open Go.RowKit

theorem run_copy_rowN {P : Program} (w : World) (dT sT ty elem : TypeId) (g o dLen dCap : Nat) (a : Addr) (sLen sCap : Nat) (cur : Array Value) (t : TypeId) (cs : List Value) (size n : Nat)
    (hu : P.underlying dT = some (.slice elem)) (hs : (P.info? elem).map (·.size) = some size)
    (hg : w.heap[g]? = some (.cells cur t (0, 0))) (hm : Nat.min sLen dLen = n) (hn : cs.length = n * size)
    (hsrc : ∀ j v, cs[j]? = some v → w.cell? (a.add j) = some v) (hfit : o + cs.length ≤ cur.size) (h1 : ∀ v ∈ cs, v.oneCell' = true) :
    (Builtin.copy_ #[dT, sT] ty #[.slice (some ⟨g, o, none⟩) dLen dCap, .slice (some a) sLen sCap]).run P w =
      .ok (goInt n) (w.setRow g (cur.toList.take o ++ cs ++ cur.toList.drop (o + cs.length)).toArray) := by
  have hl := run_loadCells_list (P := P) w a cs hsrc
  have hst := run_storeCells_at P g o t cs 0 cur w hg (by simpa using hfit) h1
  rw [hn] at hl
  cases hq : P.info? elem with
  | none => simp [hq] at hs
  | some i =>
    have hi : i.size = size := by simpa [hq] using hs
    simp [Builtin.copy_, run_underlying hu, Builtin.lenOf, Builtin.firstCells, sizeOf, typeInfo, hq, hi, hm, hl, hst]
theorem grown_setRow (w : World) (g : Nat) (cs : Array Value) : w.grownBy (w.setRow g cs) (some g) :=
  ⟨rfl, rfl, rfl, by simp [World.setRow], fun k _ hk => setRow_other w g k cs (fun e => hk (by rw [e]))⟩
theorem wp_copyN {P : Program} {w : World} {o : Oper} {a : Act} {K : Act → World → Prop} {Q : Exit → Act → World → Prop} (d s : Operand) (dT sT : TypeId)
    (ho : o.op = .call { callee := .builtin .copy, args := #[d, s], argTypes := #[dT, sT] }) (elem : TypeId) (size n : Nat) (hu : P.underlying dT = some (.slice elem)) (hsz : (P.info? elem).map (·.size) = some size)
    (g off dLen dCap : Nat) (ad : Addr) (sLen sCap : Nat) (hd : a.eval d = .slice (some ⟨g, off, none⟩) dLen dCap) (hs : a.eval s = .slice (some ad) sLen sCap)
    (cur : List Value) (t : TypeId) (hg : w.heap[g]? = some (.cells cur.toArray t (0, 0))) (cs : List Value) (hm : Nat.min sLen dLen = n) (hn : cs.length = n * size)
    (hsrc : ∀ j v, cs[j]? = some v → w.cell? (ad.add j) = some v) (hfit : off + cs.length ≤ cur.length) (h1 : ∀ v ∈ cs, v.oneCell' = true)
    (h : ∀ w', Hid (w'.heap[g]? = some (.cells (splice cur off cs).toArray t (0, 0))) → Hid (w.grownBy w' (some g)) → K (a.put o.dst (goInt n)) w') : o.wp P a w K Q := by
  have hrun := run_copy_rowN (P := P) w dT sT o.type elem g off dLen dCap ad sLen sCap cur.toArray t cs size n hu hsz hg hm hn hsrc (by simpa using hfit) h1
  unfold Oper.wp
  simp [execOp, ho, resolve, invoke, builtin, hd, hs, hrun, Result.andThen]
  exact h _ (show _ = _ by simpa [splice] using setRow_heap w g _ _ t _ hg) (grown_setRow _ _ _)
theorem wpList_copyN {P : Program} {w : World} {ops : Array Oper} {rest : List Oper} {o : Oper} {a : Act} {Q : Exit → Act → World → Prop} (hgd : o.guard = none) (d s : Operand) (dT sT : TypeId)
    (ho : o.op = .call { callee := .builtin .copy, args := #[d, s], argTypes := #[dT, sT] }) (elem : TypeId) (size n : Nat) (hu : P.underlying dT = some (.slice elem)) (hsz : (P.info? elem).map (·.size) = some size)
    (g off dLen dCap : Nat) (ad : Addr) (sLen sCap : Nat) (hd : a.eval d = .slice (some ⟨g, off, none⟩) dLen dCap) (hs : a.eval s = .slice (some ad) sLen sCap)
    (cur : List Value) (t : TypeId) (hg : w.heap[g]? = some (.cells cur.toArray t (0, 0))) (cs : List Value) (hm : Nat.min sLen dLen = n) (hn : cs.length = n * size)
    (hsrc : ∀ j v, cs[j]? = some v → w.cell? (ad.add j) = some v) (hfit : off + cs.length ≤ cur.length) (h1 : ∀ v ∈ cs, v.oneCell' = true)
    (h : ∀ w', Hid (w'.heap[g]? = some (.cells (splice cur off cs).toArray t (0, 0))) → Hid (w.grownBy w' (some g)) → wpList P ops Q rest (a.put o.dst (goInt n)) w') : wpList P ops Q (o :: rest) a w :=
  wpList_plain hgd fun _ hK => wp_copyN d s dT sT ho elem size n hu hsz g off dLen dCap ad sLen sCap hd hs cur t hg cs hm hn hsrc hfit h1 (fun w' h' k => hK _ _ (h w' h' k))
theorem step_copyN {P : Program} {ops : Array Oper} {o : Oper} {a : Act} {w : World} {K : Act → World → Prop} {Q : Exit → Act → World → Prop} {E : Prop} (hgd : o.guard = none) (d s : Operand) (dT sT : TypeId)
    (ho : o.op = .call { callee := .builtin .copy, args := #[d, s], argTypes := #[dT, sT] }) (elem : TypeId) (size n : Nat) (hu : P.underlying dT = some (.slice elem)) (hsz : (P.info? elem).map (·.size) = some size)
    (g off dLen dCap : Nat) (ad : Addr) (sLen sCap : Nat) (hd : a.eval d = .slice (some ⟨g, off, none⟩) dLen dCap) (hs : a.eval s = .slice (some ad) sLen sCap)
    (cur : List Value) (t : TypeId) (hg : w.heap[g]? = some (.cells cur.toArray t (0, 0))) (cs : List Value) (hm : Nat.min sLen dLen = n) (hn : cs.length = n * size)
    (hsrc : ∀ j v, cs[j]? = some v → w.cell? (ad.add j) = some v) (hfit : off + cs.length ≤ cur.length) (h1 : ∀ v ∈ cs, v.oneCell' = true)
    (h : ∀ w', Hid (w'.heap[g]? = some (.cells (splice cur off cs).toArray t (0, 0))) → Hid (w.grownBy w' (some g)) → K (a.put o.dst (goInt n)) w') :
    if Region.wanted o (yielded ops a.tmps) = true then Oper.wp P o a w K Q else E := by
  rw [if_pos (show Region.wanted o (yielded ops a.tmps) = true by simp [Region.wanted, hgd])]
  exact wp_copyN d s dT sT ho elem size n hu hsz g off dLen dCap ad sLen sCap hd hs cur t hg cs hm hn hsrc hfit h1 h
end Go.Proofs.YthggcdadipjiiaaGreatDoor

/-
  What slices.Insert does at a row of pairs of one's own: contracts over the seat's program.
-/
namespace Go.Proofs.YthggcdadipjiiaaGreatDoor
open Go.RowKit Go.Sort

theorem flat_drop2 : ∀ (l : List Pr) (k : Nat), (l.drop k).flatMap Pr.cells = (l.flatMap Pr.cells).drop (k * 2)
  | l, 0 => by simp
  | [], k + 1 => by simp
  | p :: r, k + 1 => by
    rw [List.drop_succ_cons, flat_drop2 r k, List.flatMap_cons]
    have : (p.cells ++ r.flatMap Pr.cells).drop (p.cells.length + k * 2) = (r.flatMap Pr.cells).drop (k * 2) := by rw [← List.drop_drop, List.drop_left]
    rw [show (k + 1) * 2 = p.cells.length + k * 2 by simp [Pr.cells]; omega, this]
theorem flat_take2 : ∀ (l : List Pr) (k : Nat), (l.take k).flatMap Pr.cells = (l.flatMap Pr.cells).take (k * 2)
  | l, 0 => by simp
  | [], k + 1 => by simp
  | p :: r, k + 1 => by
    rw [List.take_succ_cons, List.flatMap_cons, List.flatMap_cons, flat_take2 r k]
    rw [show (k + 1) * 2 = p.cells.length + k * 2 by simp [Pr.cells]; omega, List.take_length_add_append]
theorem splice_ins {α : Type} (cur A X B : List α) (h : cur.take (A.length + B.length) = A ++ B) (hl : A.length + X.length + B.length ≤ cur.length) : (splice (splice cur (A.length + X.length) B) A.length X).take (A.length + X.length + B.length) = A ++ X ++ B := by
  have hA : cur.take A.length = A := by
    have := congrArg (List.take A.length) h
    rwa [List.take_take, Nat.min_eq_left (by omega), List.take_left] at this
  have e1 : (splice cur (A.length + X.length) B).take A.length = A := by
    unfold splice
    rw [List.take_append_of_le_length (by rw [List.length_take]; omega), List.take_take, Nat.min_eq_left (by omega), hA]
  have e2 : (splice cur (A.length + X.length) B).drop (A.length + X.length) = B ++ cur.drop (A.length + X.length + B.length) := by
    unfold splice
    have : (cur.take (A.length + X.length)).length = A.length + X.length := by rw [List.length_take]; omega
    rw [List.drop_append_of_le_length (by omega), List.drop_eq_nil_of_le (by omega), List.nil_append]
  generalize splice cur (A.length + X.length) B = C at e1 e2
  unfold splice
  rw [e1, e2, ← List.append_assoc, ← List.append_assoc]
  rw [List.take_append_of_le_length (by simp; omega), List.take_of_length_le (by simp; omega)]
theorem Tryz.sizeVar (w : World) : (Go.sizeOf 138).run Tryz.prog w = .ok 2 w := by kernel_rfl
/-- A block of its own does not overlap another. -/
theorem over_no (vb g off lb cb : Nat) (w : World) (x : List Value) (cur : List Value) (hv : w.heap[vb]? = some (.cells x.toArray 138 (0, 0))) (hg : w.heap[g]? = some (.cells cur.toArray 138 (0, 0))) (hc : cur.length ≠ 0) (hne : vb ≠ g) :
    (callFunc 172 #[.slice (some ⟨vb, 0, none⟩) 1 1, .slice (some ⟨g, off, none⟩) lb cb]).run Tryz.prog w = .ok (.value (.bool false)) w := by
  rw [run_callFunc_extern Tryz.func172 (by kernel_rfl) (by kernel_rfl) (by kernel_rfl) (e := Extern.SlicesOverlaps.overlaps #[89, 89] #[4]) (by kernel_rfl),
    Lib.run_overlaps_apart w 89 4 138 Tryz.underlying89 2 Tryz.sizeVar ⟨vb, 0, none⟩ ⟨g, off, none⟩ 1 1 lb cb hne 138 138 x.length cur.length (by simp [World.shape?, hv]) (by simp [World.shape?, hg]) hc (by simp [World.frozen?, hv]) (by simp [World.frozen?, hv])]
  rfl
set_option maxRecDepth 100000 in
set_option maxHeartbeats 2000000 in
theorem insV_shift (g c k vb : Nat) (cur : List Value) (l : List Pr) (v : Pr) (w : World) (hk : k < l.length) (hroom : l.length + 1 ≤ c) (hcm : c ≤ maxLen) (hg : w.heap[g]? = some (.cells cur.toArray 138 (0, 0))) (hcl : cur.length = c * 2) (hct : cur.take (l.length * 2) = l.flatMap Pr.cells) (hv : w.heap[vb]? = some (.cells #[.string v.fst, .string v.snd] 138 (0, 0))) (hne : vb ≠ g) :
    Calls Tryz.prog 169 #[.slice (some ⟨g, 0, none⟩) l.length c, .int .i64 k, .slice (some ⟨vb, 0, none⟩) 1 1] w fun e w' => e = .returned (.slice (some ⟨g, 0, none⟩) (l.length + 1) c) ∧ (∃ cur' : List Value, w'.heap[g]? = some (.cells cur'.toArray 138 (0, 0)) ∧ cur'.length = c * 2 ∧ cur'.take ((l.length + 1) * 2) = (l.take k ++ [v] ++ l.drop k).flatMap Pr.cells) ∧ w.grownBy w' (some g) := by
  have hov := fun off lb cb => over_no vb g off lb cb w [.string v.fst, .string v.snd] cur hv hg (by omega) hne
  have hsz : (Tryz.prog.info? 138).map (·.size) = some 2 := by
    obtain ⟨j0, hj, hj0, hj1, hj2⟩ := info_parts Tryz.infoVar
    rw [hj]; simp [hj1]
  unfold maxLen at hcm
  have hb2 : ¬ (c = k + 1) := by omega
  have hb4 : ¬ (c = k) := by omega
  have hb5 : ¬ (k = l.length) := by omega
  have hw1 : IntKind.i64.wrap ((k : Int) + 1) = (k : Int) + 1 := by rw [IntKind.wrap_i64]; omega
  have hw2 : IntKind.i64.wrap ((l.length : Int) + 1) = (l.length : Int) + 1 := by rw [IntKind.wrap_i64]; omega
  have ht1 : ((k : Int) + 1).toNat = k + 1 := by omega
  have ht2 : ((l.length : Int) + 1).toNat = l.length + 1 := by omega
  have hp0 : (0 : Int) ≤ (k : Int) + 1 := by omega
  have hp1 : (k : Int) ≤ (l.length : Int) := by omega
  have hp2 : (k : Int) ≤ (l.length : Int) + 1 := by omega
  have hp3 : k ≤ l.length := by omega
  have hp4 : (k : Int) + 1 ≤ (l.length : Int) + 1 := by omega
  obtain ⟨CS, hCS⟩ : ∃ CS : List Value, CS = (l.drop k).flatMap Pr.cells := ⟨_, rfl⟩
  have HL := hid (show CS.length = (l.length - k) * 2 by rw [hCS, pflat_len, List.length_drop])
  have H1 := hid (show ∀ u ∈ CS, u.oneCell' = true by rw [hCS]; exact prs_one _)
  have HSrc := hid (show ∀ j u, CS[j]? = some u → w.drew.cell? ((⟨g, k * 2, none⟩ : Addr).add j) = some u from fun j u hj => by
    rw [hCS, flat_drop2, ← hct, List.getElem?_drop, List.getElem?_take] at hj
    split at hj
    · rw [Addr.add_lit]
      show w.cell? ⟨g, k * 2 + j, none⟩ = some u
      rw [Lib.cell_of_heap hg]
      simpa using hj
    · cases hj)
  have HFin := hid (show (splice (splice cur ((k + 1) * 2) CS) (k * 2) v.cells).take ((l.length + 1) * 2) = (l.take k ++ [v] ++ l.drop k).flatMap Pr.cells by
    have hA : ((l.take k).flatMap Pr.cells).length = k * 2 := by rw [pflat_len, List.length_take]; omega
    have hX : v.cells.length = 2 := rfl
    have hB : CS.length = (l.length - k) * 2 := HL.out
    have := splice_ins cur ((l.take k).flatMap Pr.cells) v.cells CS (by rw [hA, hB, show k * 2 + (l.length - k) * 2 = l.length * 2 by omega, hct, hCS, ← List.flatMap_append, List.take_append_drop]) (by rw [hA, hB, hX]; omega)
    rw [hA, hB, hX] at this
    rw [show (k + 1) * 2 = k * 2 + 2 by omega, show (l.length + 1) * 2 = k * 2 + 2 + (l.length - k) * 2 by omega, this, hCS]
    simp)
  have HLen := hid (show (splice (splice cur ((k + 1) * 2) CS) (k * 2) v.cells).length = c * 2 by
    have hX : v.cells.length = 2 := rfl
    have hB : CS.length = (l.length - k) * 2 := HL.out
    have h1 : (splice cur ((k + 1) * 2) CS).length = cur.length := length_splice _ _ _ (by omega)
    rw [length_splice _ _ _ (by omega), h1, hcl])
  have HG := hid hg
  have hfit : (k + 1) * 2 + CS.length ≤ cur.length := by have := HL.out; omega
  have HV := hid hv
  have hfl : (splice cur ((k + 1) * 2) CS).length = cur.length := length_splice _ _ _ hfit
  have HFL := hid hfl
  clear hCS hg hct hv hfl
  go_enter Tryz.func169, Tryz.ntmps169
  go_wp2_with (simp only [hov])
  clear hov
  go_region_law (first | (refine step_copyN rfl (.tmp 73) (.tmp 76) 89 89 rfl 138 2 (l.length - k) Tryz.underlying89 hsz g ((k + 1) * 2) (l.length + 1 - (k + 1)) (c - (k + 1)) ⟨g, k * 2, none⟩ (l.length + 1 - k) (c - k) (by simp [Act.eval, Act.put]) (by simp [Act.eval, Act.put]) cur 138 HG.out CS (by simp only [Nat.min_def]; split <;> omega) HL.out HSrc.out hfit H1.out ?_; intro w1 HG1 HB1))
  have hgw : w.grownBy w1 (some g) := grown_trans (grown_drewN w 1 _) HB1.out
  have HGW := hid hgw
  have hv1 : w1.heap[vb]? = some (.cells #[.string v.fst, .string v.snd] 138 (0, 0)) := (hgw.block vb (lt_heap HV.out) (fun e => hne (by injection e))).trans HV.out
  have HSr2 := hid (show ∀ j u, v.cells[j]? = some u → w1.cell? ((⟨vb, 0, none⟩ : Addr).add j) = some u from fun j u hj => by
    rw [Addr.add_lit, Nat.zero_add, Lib.cell_of_heap hv1]
    simpa [Pr.cells] using hj)
  clear hgw hv1 HB1 HSrc
  go_wp2_with (refine wpList_copyN rfl (.tmp 80) (.tmp 81) 89 89 rfl 138 2 1 Tryz.underlying89 hsz g (k * 2) _ _ ⟨vb, 0, none⟩ 1 1 rfl rfl (splice cur ((k + 1) * 2) CS) 138 HG1.out v.cells ?d1 rfl HSr2.out ?d2 ?d3 ?_)
  case d1 => simp only [Nat.min_def]; split <;> omega
  case d2 => show k * 2 + 2 ≤ _; rw [HFL.out]; omega
  case d3 => exact fun u hu => prs_one [v] u (by simpa using hu)
  intro w2 HG2 HB2
  go_wp2
  go_ret
  exact ⟨rfl, ⟨_, HG2.out, HLen.out, HFin.out⟩, grown_trans HGW.out HB2.out⟩
end Go.Proofs.YthggcdadipjiiaaGreatDoor
