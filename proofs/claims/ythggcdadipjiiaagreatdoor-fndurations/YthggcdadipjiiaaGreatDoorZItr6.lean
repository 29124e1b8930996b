/-
  Texts put together: Itr, ItrV, ItrO, ItsV, ItrP, ItrE.
-/
import Derived.RangeFuncNested
import Derived.RangeFuncLeaves
import Derived.Test.YthggcdadipjiiaaGreatDoorRows
import Derived.Test.YthggcdadipjiiaaGreatDoorZNm4
import Derived.Test.YthggcdadipjiiaaGreatDoorZGen4
import Derived.RangeFuncBound
import Derived.RangeFuncCalls
import Derived.Shelf.Abstract
import Derived.Shelf.RegionOpen
import Derived.WalkKit
import Derived.OwnWalkIn
import Derived.TacticsInMore
import Derived.LoopNIn
import Derived.LoopIn
import Derived.Sort.CutIn
import Derived.Test.YthggcdadipjiiaaGreatDoorZStrs3
import Derived.Test.YthggcdadipjiiaaGreatDoorZSpStA5
/-
  A range over a function whose body never leaves it, at the wide fence: what an iterator owes (Sq), and the one law for its caller (wpIn_sq). Of no function.
-/
namespace Go.Proofs.YthggcdadipjiiaaGreatDoor
open Go.RowKit

theorem round_any {n m : Nat} {P : Program} {l : Nat} {f : FuncId} {tmps : Array Value} {assign body : Code} {w : World} {R : Ending → World → Prop} (h : RoundIn Fence.wide n P l f tmps assign body w R) : RoundIn Fence.wide m P l f tmps assign body w R :=
  ⟨trivial, fun c cs _ => h.2 c cs (by simp [Fence.room, Fence.wide])⟩
theorem round_in {n m : Nat} (l0 : Nat) {P : Program} {l : Nat} {f : FuncId} {tmps : Array Value} {assign body : Code} {w : World} {R : Ending → World → Prop} (h : RoundIn Fence.wide n P l f tmps assign body w R) : RoundIn (Fence.wide.inRound l0) m P l f tmps assign body w R :=
  ⟨trivial, fun c cs _ => h.2 c cs (by simp [Fence.room, Fence.wide])⟩

/-- Blocks that hold no cells of these types. -/
def FreeT (T : List TypeId) : Obj → Prop
  | .cells _ t _ => t ∉ T
  | _ => True
/-- Whatever holds no cells of these types lies as it lay. -/
structure KeepsT (T : List TypeId) (W W' : World) : Prop where
  size : W.heap.size ≤ W'.heap.size
  same : ∀ (k : Nat) (o : Obj), W.heap[k]? = some o → FreeT T o → W'.heap[k]? = some o
theorem KeepsT.refl (T : List TypeId) (W : World) : KeepsT T W W := ⟨Nat.le_refl _, fun _ _ h _ => h⟩
theorem KeepsT.trans {T : List TypeId} {A B C : World} (h : KeepsT T A B) (k : KeepsT T B C) : KeepsT T A C := ⟨Nat.le_trans h.size k.size, fun i o hi ho => k.same i o (h.same i o hi ho) ho⟩
theorem KeepsT.below {T : List TypeId} {W W' : World} (h : Below W.heap.size W W') : KeepsT T W W' := ⟨h.size, fun k _ ho _ => (h.block k (Array.getElem?_eq_some_iff.1 ho).1).trans ho⟩
theorem KeepsT.alloc (T : List TypeId) (W : World) (o : Obj) : KeepsT T W (W.alloc o) := KeepsT.below ((Below.refl _ W).alloc (Nat.le_refl _) o)
theorem KeepsT.grown {T : List TypeId} {W W' : World} {row : Option Nat} (h : W.grownBy W' row) (hr : ∀ k, row = some k → ∃ c t f, W.heap[k]? = some (.cells c t f) ∧ t ∈ T) : KeepsT T W W' :=
  ⟨h.size, fun k o ho hf => (h.block k (Array.getElem?_eq_some_iff.1 ho).1 (fun e => by
    obtain ⟨c, t, f, h1, h2⟩ := hr k e.symm
    rw [ho] at h1
    cases h1
    exact hf h2)).trans ho⟩

/-- An iterator that hands out xs, one by one, to a body that never leaves and keeps what lies below n₀. -/
def Sq {α : Type} (T : List TypeId) (P : Program) (g : Nat) (lb : Array Value) (enc : α → Array Value) (n₀ : Nat) (xs : List α) (w : World) : Prop :=
  ∀ (l : Nat) (J : Nat → World → Prop) (W : World), Below w.heap.size w W → OwnFrom W.heap.size J →
    (∀ k x W1, J k W1 → xs[k]? = some x → YieldAt Fence.wide 9 P l (enc x) W1 fun e W' => e = .returned (.bool true) ∧ J (k + 1) W' ∧ Below n₀ W1 W' ∧ KeepsT T W1 W') →
    J 0 W → Calls P g (#[.func (.yield l) #[] #[]] ++ lb) W fun e W' => (∃ v, e = .returned v) ∧ J xs.length W'

theorem Sq.later {α : Type} {T : List TypeId} {P : Program} {g : Nat} {lb : Array Value} {enc : α → Array Value} {n₀ : Nat} {xs : List α} {w w' : World} (h : Sq T P g lb enc n₀ xs w) (hb : Below w.heap.size w w') : Sq T P g lb enc n₀ xs w' :=
  fun l J W hW => h l J W (hb.trans (hW.mono hb.size))

/-- How a round's body is left: it goes on. -/
def GoesOn (T : List TypeId) (n₀ : Nat) (I : World → Prop) (W : World) : Exit → Act → World → Prop
  | .normal, _, W' => KeepsT T W W' ∧ Below n₀ W W' ∧ I W'
  | _, _, _ => False

theorem wpIn_sq {α : Type} {T : List TypeId} {P : Program} {g : Operand} {ps : Array Tmp} {assign body : Code} {Q : Exit → Act → World → Prop} {a : Act} {w : World} {gf : Nat} {lb : Array Value}
    (hg : a.eval g = .func (.func gf) #[] lb) (eg : ∀ args w, (callFunc gf args).run P w = .ok (.enter gf args) w)
    {enc : α → Array Value} {n₀ : Nat} {xs : List α} {w0 : World} (hseq : Sq T P gf lb enc n₀ xs w0) (hb0 : Below w0.heap.size w0 w) (hn : n₀ ≤ w.heap.size) (hps : ∀ x, (enc x).size = ps.size)
    (I : Nat → World → Prop) (hI : OwnFrom w.heap.size I) (h0 : I 0 w) (Ax : α → Act → World → Prop) (hAx : ∀ x a', OwnFrom w.heap.size (fun (_ : Unit) W => Ax x a' W))
    (hassign : ∀ (l k : Nat) (x : α) (W : World) (K : Act → World → Prop), I k W → xs[k]? = some x → (∀ a' W', KeepsT T W W' → Below n₀ W W' → I k W' → Ax x a' W' → K a' W') →
      assign.wpIn (Fence.wide.inRound l) 9 P (Exit.then K (fun _ _ _ => False)) { tmps := (ps.zip (enc x)).foldl (fun t (p, v) => t.setIfInBounds p v) a.tmps, defers := [] } W)
    (hbody : ∀ (l k : Nat) (x : α) (a' : Act) (W : World), w.heap.size ≤ l → I k W → Ax x a' W → xs[k]? = some x → body.wpIn (Fence.wide.inRound l) 9 P (GoesOn T n₀ (I (k + 1)) W) a' W)
    (hdone : ∀ (D : Nat) (W : World), w.heap.size ≤ D → I xs.length W → W.heap[D]? = some (.deferred (some [])) → Q .normal { a with defers := { target := .collected D, args := #[] } :: a.defers } W) :
    (Code.rangeFunc g ps assign body).wpIn Fence.wide 9 P Q a w := by
  refine wpIn_rangeFunc fun fn hfn => ?_
  obtain ⟨rec, hrec⟩ : ∃ rec : LoopState → Loop, rec = fun st => { state := st, pending := none, fn, tmps := a.tmps, params := ps, assign, body, defers := w.heap.size } := ⟨_, rfl⟩
  obtain ⟨W1, hW1⟩ : ∃ W1, (w.alloc (.deferred (some []))).alloc (.loop (rec .ready)) = W1 := ⟨_, rfl⟩
  have hs1 : W1.heap.size = w.heap.size + 2 := by rw [← hW1]; simp
  have hL1 : W1.heap[w.heap.size + 1]? = some (.loop (rec .ready)) := by
    have := World.alloc_heap_new (w.alloc (.deferred (some []))) (.loop (rec .ready)); rw [World.size_alloc] at this; rw [← hW1]; exact this
  have hD1 : W1.heap[w.heap.size]? = some (.deferred (some [])) := by
    rw [← hW1]; exact (Below.heap_alloc _ _ _ (by simp)).trans (World.alloc_heap_new w _)
  have hI1 : I 0 W1 := by rw [← hW1]; exact hI.alloc _ (hI.alloc _ h0)
  have hb1 : Below w0.heap.size w0 W1 := by
    rw [← hW1]; exact hb0.trans ((((Below.refl _ w).alloc (Nat.le_refl _) _).alloc (by simp) _).mono hb0.size)
  refine ⟨w.heap.size + 1, [{ target := .collected w.heap.size, args := #[] }], W1, { target := .fn (.func gf) lb, args := #[.func (.yield (w.heap.size + 1)) #[] #[]] }, W1, gf,
    #[.func (.yield (w.heap.size + 1)) #[] #[]] ++ lb, W1, ?_, ?_, fun _ _ => trivial, ?_, fun _ => (by decide), ?_⟩
  · rw [← hW1, hrec]; exact run_enterLoop_outer _ _ _ _ _
  · simp only [resolve, hg]
    simp [go_sem]
  · simp [invoke, go_sem, eg]
  · refine callsIn_wide.2 ((hseq (w.heap.size + 1) (fun k W => I k W ∧ W.heap[w.heap.size + 1]? = some (.loop (rec .ready)) ∧ W.heap[w.heap.size]? = some (.deferred (some []))) W1 hb1 ?_ ?_ ⟨hI1, hL1, hD1⟩).mono ?_)
    · rintro s A B row ⟨hs, hl, hd⟩ hgr hr
      refine ⟨hI s A B row hs hgr (fun r e => ⟨by have := (hr r e).1; omega, (hr r e).2⟩), ?_, ?_⟩
      · exact (hgr.block _ (Array.getElem?_eq_some_iff.1 hl).1 (fun e => by have := (hr _ e.symm).1; omega)).trans hl
      · exact (hgr.block _ (Array.getElem?_eq_some_iff.1 hd).1 (fun e => by have := (hr _ e.symm).1; omega)).trans hd
    · rintro k x W ⟨hi, hl, hd⟩ hx
      have hy := run_yield (P := P) (args := enc x) hl (by rw [hrec]; exact hps x)
      rw [hrec] at hy
      refine ⟨fn, _, assign, body, hy, roundIn_of_wpIn hfn (hassign _ k x W _ hi hx ?_)⟩
      intro a' Wa hkf hba hia hax
      have hla := hkf.same _ _ hl trivial
      have hda := hkf.same _ _ hd trivial
      have hlt := (Array.getElem?_eq_some_iff.1 hla).1
      refine ⟨_, run_beginRound hla (by rw [hrec]), ?_⟩
      obtain ⟨Wb, hWb⟩ : ∃ Wb, Wa.putObj (w.heap.size + 1) (.loop { rec .ready with state := .busy }) = Wb := ⟨_, rfl⟩
      have hlb : Wb.heap[w.heap.size + 1]? = some (.loop { rec .ready with state := .busy }) := by rw [← hWb]; exact World.putObj_heap_same hlt
      have hdb : Wb.heap[w.heap.size]? = some (.deferred (some [])) := by rw [← hWb]; exact (World.putObj_heap_other (by omega)).trans hda
      have hbb : Below n₀ Wa Wb := by rw [← hWb]; exact belowK_b hn _ _ _ _ (by omega) hla rfl rfl
      have hib : I k Wb := by rw [← hWb]; exact hI.putObj _ hia (by omega) hla rfl
      have hab : Ax x a' Wb := by rw [← hWb]; exact (hAx x a').putObj (s := ()) _ hax (by omega) hla rfl
      rw [hWb]
      refine wpIn_mono (hbody _ k x a' Wb (by omega) hib hab hx) ?_
      intro e a3 W3 hp
      cases e with
      | normal =>
        obtain ⟨hk3, hb3, hi3⟩ := hp
        have hl3 := hk3.same _ _ hlb trivial
        have hr3 := run_endRound (P := P) none hl3
        refine ⟨_, _, hr3, rfl, ⟨hI.putObj _ hi3 (by omega) hl3 rfl, ?_, ?_⟩, ((hba.trans hbb).trans hb3).trans (belowK_b hn _ _ _ _ (by omega) hl3 rfl rfl), ?_⟩
        · rw [World.putObj_heap_same (Array.getElem?_eq_some_iff.1 hl3).1, hrec]; rfl
        · exact (World.putObj_heap_other (by omega)).trans (hk3.same _ _ hdb trivial)
        · have hl4 : (W3.putObj (w.heap.size + 1) (.loop { { rec .ready with state := .busy } with state := if (none : Option Code).isNone then .ready else .done, pending := none })).heap[w.heap.size + 1]? = some (.loop (rec .ready)) := by
            rw [World.putObj_heap_same (Array.getElem?_eq_some_iff.1 hl3).1, hrec]; rfl
          refine ⟨?_, fun k o hk hf => ?_⟩
          · have h1 := hkf.size
            have h2 := hbb.size
            have h3 := hk3.size
            simp
            omega
          · by_cases e : k = w.heap.size + 1
            · subst e
              rw [hl] at hk
              cases hk
              exact hl4
            · refine (World.putObj_heap_other e).trans (hk3.same _ _ ?_ hf)
              rw [← hWb]
              exact (World.putObj_heap_other e).trans (hkf.same _ _ hk hf)
      | ret => exact hp.elim
      | exit _ => exact hp.elim
      | goto _ => exact hp.elim
      | panic _ => exact hp.elim
      | outgrown => exact hp.elim
    · rintro e W2 ⟨⟨v, rfl⟩, hi, hl, hd⟩
      have hr := run_endLoop (P := P) hl (by rw [hrec]; simp)
      refine ⟨none, _, by rw [hr, hrec], hdone _ _ (Nat.le_refl _) (hI.putObj _ hi (by omega) hl rfl) ((World.putObj_heap_other (by omega)).trans hd)⟩
end Go.Proofs.YthggcdadipjiiaaGreatDoor

/-
  slices.Values over events: the iterator hands out the events of the slice: a contract over the seat's program.
-/
namespace Go.Proofs.YthggcdadipjiiaaGreatDoor
open Go.RowKit Go.Shelf
attribute [local go_sem] Oper.semAt_some

abbrev evA (e : Ev) : Array Value := #[.agg #[.int .i64 e.seq, .int .i64 e.time, .int .i64 e.run, .int .i64 e.kind, .string e.step, .string e.val]]

set_option maxRecDepth 100000 in
set_option maxHeartbeats 4000000 in
theorem values_sq (T : List TypeId) (Bs : Nat) (a : Option Addr) (c : Nat) (es : List Ev) (w0 w : World) (n₀ : Nat) (hn₀ : w0.heap.size ≤ n₀) (h0 : Below w0.heap.size w0 w) (hE : EvSl w0 (.slice a es.length c) es) (hBs : w.cell? ⟨Bs, 0, none⟩ = some (.slice a es.length c)) (hb : Bs < w.heap.size) (hn : es.length ≤ maxLen) :
    Sq T Tryz.prog 93 #[.pointer (some ⟨Bs, 0, none⟩)] evA n₀ es w := by
  intro l J W hW hJ hY hJ0
  have hBw := (hW.cell (p := ⟨Bs, 0, none⟩) hb).trans hBs
  have HB0 := hid (h0.trans (hW.mono h0.size))
  have HE := hid hE
  have HY := hid hY
  have HJ := hid hJ
  have hzW := hW.size
  unfold maxLen at hn
  clear hE hY h0 hW hBs hJ
  refine (callsIn_wide (n := 9)).1 ?_
  refine callsIn_of_wp Tryz.func93 rfl trivial ?_ rfl
  simp only [Tryz.ntmps93, List.size_toArray, List.length_cons, List.length_nil, Nat.reduceAdd, Nat.reduceSub, Array.replicate_succ, Array.replicate_zero, List.push_toArray, List.append_toArray, List.nil_append, List.cons_append]
  gi_wp2
  gi_loopw [7] (fun i wr => ∃ k : Nat, k ≤ es.length ∧ i = .int .i64 k ∧ J k wr ∧ Below w0.heap.size w0 wr ∧ W.heap.size ≤ wr.heap.size)
    (fun i _ => es.length - (intOf i).toNat)
  case atStart => exact ⟨0, Nat.zero_le _, rfl, hJ0, HB0.out, Nat.le_refl _⟩
  case round =>
    obtain ⟨k, hk, rfl, hJs, hbr, hzr⟩ := hrel
    have HBr := hid hbr
    have HJs := hid hJs
    clear hbr hJs hJ0 hBw
    by_cases hlt : k < es.length
    · have hrow : ∃ g o, a = some ⟨g, o, none⟩ ∧ EvsAt w0 g o es := by
        rcases HE.out with ⟨_, _, _, he⟩ | ⟨g, o, c', hv, _, hQ⟩
        · rw [he] at hlt; simp at hlt
        · cases hv; exact ⟨g, o, rfl, hQ⟩
      obtain ⟨g, o, rfl, hQ⟩ := hrow
      obtain ⟨q0, q1, q2, q3, q4, q5⟩ := (hQ.stay HBr.out (Nat.le_refl _)).2 k hlt
      have HYk := hid (fun X hX => HY.out k es[k] X hX (List.getElem?_eq_getElem hlt))
      have HL := hid hlt
      clear hQ HE
      generalize es[k] = e at *
      obtain ⟨eq, et, er, ek, es0, ev⟩ := e
      simp only at q0 q1 q2 q3 q4 q5
      gi_upto_region 3 with fail
      obtain ⟨fn, tmps, assign, body, hy, hR⟩ := HYk.out (wr.alloc (.cells #[.int .i64 eq, .int .i64 et, .int .i64 er, .int .i64 ek, .string es0, .string ev] 33)) (HJ.out.alloc _ HJs.out)
      dsimp only [evA] at hy
      gi_wp2
      refine (round_any hR).mono ?_
      rintro e W3 ⟨rfl, hJ3, hk3, _⟩
      have HJ3 := hid hJ3
      have HB3 := hid ((HBr.out.trans ((Below.refl _ wr).alloc HBr.out.size _)).trans (hk3.mono hn₀))
      have hz3 : wr.heap.size + 1 ≤ W3.heap.size := by have := hk3.size; simpa using this
      clear hJ3 hk3 hy hR
      gi_wp2
      go_roundw
      case rel => exact ⟨k + 1, by omega, by simp, HJ3.out, HB3.out, by omega⟩
      case measure => simp [intOf]; omega
    · obtain rfl : k = es.length := by omega
      gi_wp2
      go_end0
      exact ⟨⟨_, rfl⟩, HJs.out⟩
end Go.Proofs.YthggcdadipjiiaaGreatDoor

/-
  Small laws for ranges over events. Of no function. (Cut off ItrP.)
-/
namespace Go.Proofs.YthggcdadipjiiaaGreatDoor
open Go.RowKit Go.Shelf

abbrev evO (e : Ev) : Value := .agg #[.int .i64 e.seq, .int .i64 e.time, .int .i64 e.run, .int .i64 e.kind, .string e.step, .string e.val]
theorem filt_at (p : Ev → Bool) (es : List Ev) (k : Nat) (h : k < es.length) (hp : p es[k] = true) : (es.filter p)[((es.take k).filter p).length]? = some es[k] := by
  have he : es = es.take k ++ es[k] :: es.drop (k + 1) := by simp
  have : es.filter p = (es.take k).filter p ++ es[k] :: (es.drop (k + 1)).filter p := by
    conv => lhs; rw [he]
    rw [List.filter_append, List.filter_cons, if_pos hp]
  rw [this, List.getElem?_append_right (Nat.le_refl _)]
  simp
theorem filt_yes (p : Ev → Bool) (es : List Ev) (k : Nat) (h : k < es.length) (hp : p es[k] = true) : ((es.take (k + 1)).filter p).length = ((es.take k).filter p).length + 1 := by
  rw [List.take_succ_eq_append_getElem h, List.filter_append]; simp [hp]
theorem filt_no (p : Ev → Bool) (es : List Ev) (k : Nat) (h : k < es.length) (hp : p es[k] = false) : ((es.take (k + 1)).filter p).length = ((es.take k).filter p).length := by
  rw [List.take_succ_eq_append_getElem h, List.filter_append]; simp [hp]
theorem own_below {B n : Nat} {w : World} (hn : n ≤ w.heap.size) (h : n ≤ B) : OwnFrom B (fun (_ : Nat) W => Below n w W) :=
  fun _ _ _ _ hs hg hr => hs.grown hg (Nat.le_trans hn hs.size) (fun k e => by have := (hr k e).1; omega)
theorem own_blk (B b : Nat) (c : Array Value) (t : TypeId) (f : Nat × Nat) : OwnFrom B (fun (_ : Nat) W => W.heap[b]? = some (.cells c t f)) := fun _ A _ _ hs hg hr => by
  refine (hg.block b (lt_heap hs) (fun e => ?_)).trans hs
  obtain ⟨o, ho, hc⟩ := (hr b e.symm).2
  rw [show A.heap[b]? = _ from hs] at ho
  cases ho
  cases hc

end Go.Proofs.YthggcdadipjiiaaGreatDoor

/-
  slices.Values over texts: the iterator hands out the texts of the slice: a contract over the seat's program.
-/
namespace Go.Proofs.YthggcdadipjiiaaGreatDoor
open Go.RowKit Go.Shelf
attribute [local go_sem] Oper.semAt_some

abbrev strA (s : ByteArray) : Array Value := #[.string s]
/-- What an iterator gives to who keeps less, it gives to who keeps more. -/
theorem Sq.up {α : Type} {T : List TypeId} {P : Program} {g : Nat} {lb : Array Value} {enc : α → Array Value} {n m : Nat} {xs : List α} {w : World} (h : Sq T P g lb enc n xs w) (hm : n ≤ m) : Sq T P g lb enc m xs w :=
  fun l J W hW hJ hY h0 => h l J W hW hJ (fun k x W1 hj hx => by
    obtain ⟨fn, tmps, assign, body, hy, hR⟩ := hY k x W1 hj hx
    refine ⟨fn, tmps, assign, body, hy, hR.1, fun c cs hr => ?_⟩
    obtain ⟨e, w', ⟨h1, h2, h3, h4⟩, h5⟩ := hR.2 c cs hr
    exact ⟨e, w', ⟨h1, h2, h3.mono hm, h4⟩, h5⟩) h0
set_option maxRecDepth 100000 in
set_option maxHeartbeats 4000000 in
theorem values_sqS (T : List TypeId) (Bs : Nat) (a : Option Addr) (c : Nat) (ss : List ByteArray) (w0 w : World) (n₀ : Nat) (hn₀ : w0.heap.size ≤ n₀) (h0 : Below w0.heap.size w0 w) (hE : StrSl w0 (.slice a ss.length c) ss) (hBs : w.cell? ⟨Bs, 0, none⟩ = some (.slice a ss.length c)) (hb : Bs < w.heap.size) (hn : ss.length ≤ maxLen) :
    Sq T Tryz.prog 62 #[.pointer (some ⟨Bs, 0, none⟩)] strA n₀ ss w := by
  intro l J W hW hJ hY hJ0
  have hBw := (hW.cell (p := ⟨Bs, 0, none⟩) hb).trans hBs
  have HB0 := hid (h0.trans (hW.mono h0.size))
  have HE := hid hE
  have HY := hid hY
  have HJ := hid hJ
  have hzW := hW.size
  unfold maxLen at hn
  clear hE hY h0 hW hBs hJ
  refine (callsIn_wide (n := 9)).1 ?_
  refine callsIn_of_wp Tryz.func62 rfl trivial ?_ rfl
  simp only [Tryz.ntmps62, List.size_toArray, List.length_cons, List.length_nil, Nat.reduceAdd, Nat.reduceSub, Array.replicate_succ, Array.replicate_zero, List.push_toArray, List.append_toArray, List.nil_append, List.cons_append]
  gi_wp2
  gi_loopw [7] (fun i wr => ∃ k : Nat, k ≤ ss.length ∧ i = .int .i64 k ∧ J k wr ∧ Below w0.heap.size w0 wr ∧ W.heap.size ≤ wr.heap.size)
    (fun i _ => ss.length - (intOf i).toNat)
  case atStart => exact ⟨0, Nat.zero_le _, rfl, hJ0, HB0.out, Nat.le_refl _⟩
  case round =>
    obtain ⟨k, hk, rfl, hJs, hbr, hzr⟩ := hrel
    have HBr := hid hbr
    have HJs := hid hJs
    clear hbr hJs hJ0 hBw
    by_cases hlt : k < ss.length
    · have hrow : ∃ g o, a = some ⟨g, o, none⟩ ∧ StrsAt w0 g o ss := by
        rcases HE.out with ⟨_, _, _, he⟩ | ⟨g, o, c', hv, _, hQ⟩
        · rw [he] at hlt; simp at hlt
        · cases hv; exact ⟨g, o, rfl, hQ⟩
      obtain ⟨g, o, rfl, hQ⟩ := hrow
      have q0 := (hQ.stay HBr.out (Nat.le_refl _)).2 k hlt
      have HYk := hid (fun X hX => HY.out k ss[k] X hX (List.getElem?_eq_getElem hlt))
      have HL := hid hlt
      clear hQ HE
      generalize ss[k] = s at *
      gi_upto_region 3 with fail
      obtain ⟨fn, tmps, assign, body, hy, hR⟩ := HYk.out wr HJs.out
      dsimp only [strA] at hy
      gi_wp2
      refine (round_any hR).mono ?_
      rintro e W3 ⟨rfl, hJ3, hk3, _⟩
      have HJ3 := hid hJ3
      have HB3 := hid (HBr.out.trans (hk3.mono hn₀))
      have hz3 : wr.heap.size ≤ W3.heap.size := hk3.size
      clear hJ3 hk3 hy hR
      gi_wp2
      go_roundw
      case rel => exact ⟨k + 1, by omega, by simp, HJ3.out, HB3.out, by omega⟩
      case measure => simp [intOf]; omega
    · obtain rfl : k = ss.length := by omega
      gi_wp2
      go_end0
      exact ⟨⟨_, rfl⟩, HJs.out⟩
end Go.Proofs.YthggcdadipjiiaaGreatDoor

/-
  impl.picked: the iterator hands out those of another's events that a predicate takes: a contract over the seat's program.
-/
namespace Go.Proofs.YthggcdadipjiiaaGreatDoor
open Go.RowKit Go.Shelf
attribute [local go_sem] Oper.semAt_some

set_option maxRecDepth 100000 in
set_option maxHeartbeats 4000000 in
theorem picked_sq (T : List TypeId) (hT : 98 ∉ T) (Be Bh ge gh n₀ : Nat) (lbe lbh : Array Value) (p : Ev → Bool) (es : List Ev) (w : World) (hn₀ : n₀ ≤ w.heap.size)
    (hBe : w.cell? ⟨Be, 0, none⟩ = some (.func (.func ge) #[] lbe)) (hBh : w.heap[Bh]? = some (.cells #[.func (.func gh) #[] lbh] 98 (0, 0))) (lBe : Be < w.heap.size)
    (eE : ∀ args w, (callFunc ge args).run Tryz.prog w = .ok (.enter ge args) w) (eH : ∀ args w, (callFunc gh args).run Tryz.prog w = .ok (.enter gh args) w)
    (hS : Sq T Tryz.prog ge lbe evA n₀ es w) (hp : ∀ (e : Ev) (X : World), Below n₀ w X → Calls Tryz.prog gh (#[evO e] ++ lbh) X fun x X' => x = .returned (.bool (p e)) ∧ Below X.heap.size X X') :
    Sq T Tryz.prog 92 #[.pointer (some ⟨Be, 0, none⟩), .pointer (some ⟨Bh, 0, none⟩)] evA n₀ (es.filter p) w := by
  intro l J W hW hJ hY hJ0
  have hzW := hW.size
  have c1 : (W.alloc (.cells #[.func (.yield l) #[] #[]] 98)).cell? ⟨Be, 0, none⟩ = some (.func (.func ge) #[] lbe) := ((hW.alloc hW.size _).cell (p := ⟨Be, 0, none⟩) lBe).trans hBe
  have HBh := hid (((hW.alloc hW.size (.cells #[.func (.yield l) #[] #[]] 98)).block Bh (lt_heap hBh)).trans hBh)
  have HS := hid hS
  have HP := hid hp
  have HY := hid hY
  have HJ := hid hJ
  have HW := hid hW
  clear hBe hBh hS hp hY hJ hW
  refine (callsIn_wide (n := 9)).1 ?_
  refine callsIn_of_wp_marks Tryz.func92 rfl trivial ?_ rfl
  simp only [Tryz.ntmps92, List.size_toArray, List.length_cons, List.length_nil, Nat.reduceAdd, Nat.reduceSub, Array.replicate_succ, Array.replicate_zero, List.push_toArray, List.append_toArray, List.nil_append, List.cons_append]
  gi_wp2
  have HB1 := hid (HW.out.alloc HW.out.size (.cells #[.func (.yield l) #[] #[]] 98))
  have hc3 := heap_alloc_new W (.cells #[.func (.yield l) #[] #[]] 98)
  have hJ1 := HJ.out.alloc (.cells #[.func (.yield l) #[] #[]] 98) hJ0
  have hz1 : (W.alloc (.cells #[.func (.yield l) #[] #[]] 98)).heap.size = W.heap.size + 1 := by simp
  generalize W.alloc (.cells #[.func (.yield l) #[] #[]] 98) = W1 at *
  clear c1
  refine wpIn_sq (gf := ge) (lb := lbe) rfl eE HS.out HB1.out (by omega) (fun _ => rfl)
    (fun k V => J ((es.take k).filter p).length V ∧ V.heap[W.heap.size]? = some (.cells #[.func (.yield l) #[] #[]] 98 (0, 0)) ∧ V.heap[Bh]? = some (.cells #[.func (.func gh) #[] lbh] 98 (0, 0)) ∧ Below n₀ w V)
    ?own ⟨by simpa using hJ1, hc3, HBh.out, HB1.out.mono hn₀⟩
    (fun x a' V => ∃ Bx, V.heap[Bx]? = some (.cells #[.int .i64 x.seq, .int .i64 x.time, .int .i64 x.run, .int .i64 x.kind, .string x.step, .string x.val] 33 (0, 0)) ∧ a' = { tmps := #[.func (.yield l) #[] #[], .pointer (some ⟨Be, 0, none⟩), .pointer (some ⟨Bh, 0, none⟩), .pointer (some ⟨W.heap.size, 0, none⟩), .pointer (some ⟨Bx, 0, none⟩), .func (.func ge) #[] lbe, evO x, undef, undef, undef, undef, undef, undef, undef, undef, undef], defers := [] })
    ?ownx ?assign ?body ?done
  case own =>
    refine OwnFrom.and (fun s A B row hs hg hr => HJ.out _ A B row hs hg (fun r e => ⟨by have := (hr r e).1; omega, (hr r e).2⟩)) ?_
    exact OwnFrom.and (own_blk _ _ _ _ _) (OwnFrom.and (own_blk _ _ _ _ _) (own_below hn₀ (by omega)))
  case ownx =>
    rintro x a' s A B row ⟨Bx, h2, h3⟩ hg hr
    exact ⟨Bx, own_blk _ _ _ _ _ 0 A B row h2 hg hr, h3⟩
  case assign =>
    rintro l' k x V K ⟨hj, hc, hh, hb⟩ hx hK
    have HK := hid hK
    clear hK
    gi_wp2
    exact HK.out _ _ (KeepsT.alloc _ _ _) ((Below.refl _ V).alloc (by have := hb.size; omega) _) ⟨HJ.out.alloc _ hj, (Below.heap_alloc V _ _ (lt_heap hc)).trans hc, (Below.heap_alloc V _ _ (lt_heap hh)).trans hh, hb.alloc (by have := hb.size; omega) _⟩ ⟨V.heap.size, heap_alloc_new _ _, rfl⟩
  case body =>
    rintro l' k x a' V hl ⟨hj, hc, hh, hb⟩ ⟨Bx, h2, rfl⟩ hx
    obtain ⟨hlt, hxe⟩ := List.getElem?_eq_some_iff.1 hx
    have HF := hid (filt_at p es k hlt)
    have HY1 := hid (filt_yes p es k hlt)
    have HN1 := hid (filt_no p es k hlt)
    rw [hxe] at HF HY1 HN1
    have cH := hid (CallsIn.inRound l' (n := 8) (callsIn_wide.2 (HP.out x V hb)))
    have HJv := hid hj
    have HC := hid hc
    have HH := hid hh
    have HBv := hid hb
    have H2 := hid h2
    have d0 : V.cell? ⟨Bh, 0, none⟩ = some (.func (.func gh) #[] lbh) := by rw [Lib.cell_of_heap hh]; rfl
    have e0 : V.cell? ⟨Bx, 0, none⟩ = some (.int .i64 x.seq) := by rw [Lib.cell_of_heap h2]; rfl
    have e1 : V.cell? ⟨Bx, 1, none⟩ = some (.int .i64 x.time) := by rw [Lib.cell_of_heap h2]; rfl
    have e2 : V.cell? ⟨Bx, 2, none⟩ = some (.int .i64 x.run) := by rw [Lib.cell_of_heap h2]; rfl
    have e3 : V.cell? ⟨Bx, 3, none⟩ = some (.int .i64 x.kind) := by rw [Lib.cell_of_heap h2]; rfl
    have e4 : V.cell? ⟨Bx, 4, none⟩ = some (.string x.step) := by rw [Lib.cell_of_heap h2]; rfl
    have e5 : V.cell? ⟨Bx, 5, none⟩ = some (.string x.val) := by rw [Lib.cell_of_heap h2]; rfl
    clear hj hc hh hb h2 hx hxe
    gi_wp2_with fail
    refine ⟨trivial, cH.out.mono ?_⟩
    rintro e V1 ⟨rfl, hb1⟩
    have HB1v := hid hb1
    have hC1 := (hb1.block _ (lt_heap HC.out)).trans HC.out
    have hH1 := (hb1.block _ (lt_heap HH.out)).trans HH.out
    have hX1 := (hb1.block _ (lt_heap H2.out)).trans H2.out
    have hj1 : J ((es.take k).filter p).length V1 := HJ.out _ V V1 none HJv.out (grown_below hb1) (fun r e => by cases e)
    have HHC := hid hC1
    have HHH := hid hH1
    have HJ1 := hid hj1
    have hzv := HBv.out.size
    have hzv1 := hb1.size
    have f0 : V1.cell? ⟨Bx, 0, none⟩ = some (.int .i64 x.seq) := by rw [Lib.cell_of_heap hX1]; rfl
    have f1 : V1.cell? ⟨Bx, 1, none⟩ = some (.int .i64 x.time) := by rw [Lib.cell_of_heap hX1]; rfl
    have f2 : V1.cell? ⟨Bx, 2, none⟩ = some (.int .i64 x.run) := by rw [Lib.cell_of_heap hX1]; rfl
    have f3 : V1.cell? ⟨Bx, 3, none⟩ = some (.int .i64 x.kind) := by rw [Lib.cell_of_heap hX1]; rfl
    have f4 : V1.cell? ⟨Bx, 4, none⟩ = some (.string x.step) := by rw [Lib.cell_of_heap hX1]; rfl
    have f5 : V1.cell? ⟨Bx, 5, none⟩ = some (.string x.val) := by rw [Lib.cell_of_heap hX1]; rfl
    have g0 : V1.cell? ⟨W.heap.size, 0, none⟩ = some (.func (.yield l) #[] #[]) := by rw [Lib.cell_of_heap hC1]; rfl
    clear hb1 hC1 hH1 hX1 hj1 d0 e0 e1 e2 e3 e4 e5 cH
    cases hpx : p x with
    | false =>
      have HE := hid (HN1.out hpx)
      clear HY1 HN1 HF hpx
      gi_wp2_with fail
      refine ⟨fun _ h => (by cases h), ?_⟩
      gi_wp2_with fail
      refine ⟨KeepsT.below HB1v.out, HB1v.out.mono (by omega), ?_, HHC.out, HHH.out, HBv.out.trans (HB1v.out.mono (by omega))⟩
      rw [HE.out]
      exact HJ1.out
    | true =>
      have HE := hid (HY1.out hpx)
      obtain ⟨fn, tmps, assign, body, hy, hR⟩ := HY.out _ x V1 HJ1.out (HF.out hpx)
      dsimp only [evA] at hy
      clear HY1 HN1 HF hpx
      gi_wp2_with fail
      refine (round_in l' hR).mono ?_
      rintro e V2 ⟨rfl, hJ2, hb2, hk2⟩
      have HJ2 := hid hJ2
      have HB2 := hid hb2
      have HK2 := hid hk2
      clear hJ2 hb2 hk2 hy hR
      gi_wp2_with fail
      refine ⟨(KeepsT.below HB1v.out).trans HK2.out, (HB1v.out.mono (by omega)).trans HB2.out, ?_, HK2.out.same _ _ HHC.out hT, HK2.out.same _ _ HHH.out hT, (HBv.out.trans (HB1v.out.mono (by omega))).trans HB2.out⟩
      rw [HE.out]
      exact HJ2.out
  case done =>
    rintro D V hD ⟨hj, _, _, hb⟩ hK
    gi_wp2
    refine ⟨by simp, .inl ⟨_, _, rfl, run_takeDeferred hK, ?_⟩⟩
    refine ⟨_, results_none rfl _ _ _, ⟨_, rfl⟩, ?_⟩
    rw [List.take_length] at hj
    exact HJ.out.putObj _ hj (by omega) hK rfl
end Go.Proofs.YthggcdadipjiiaaGreatDoor

/-
  impl.eventsOf: the iterator hands out the events of a run: a contract over the seat's program.
-/
namespace Go.Proofs.YthggcdadipjiiaaGreatDoor
open Go.RowKit Go.Shelf

set_option maxRecDepth 100000 in
theorem isRun_any (b0 : Nat) (r : Int) (e : Ev) (X : World) (h : X.cell? ⟨b0, 0, none⟩ = some (.int .i64 r)) (hb : b0 < X.heap.size) :
    Calls Tryz.prog 66 #[evO e, .pointer (some ⟨b0, 0, none⟩)] X fun x X' => x = .returned (.bool (decide (e.run = r))) ∧ Below X.heap.size X X' := by
  have h1 : (X.alloc (.cells #[.int .i64 e.seq, .int .i64 e.time, .int .i64 e.run, .int .i64 e.kind, .string e.step, .string e.val] 33)).cell? ⟨b0, 0, none⟩ = some (.int .i64 r) := ((((Below.refl _ X).alloc (Nat.le_refl _) _)).cell (p := ⟨b0, 0, none⟩) hb).trans h
  go_enter Tryz.func66, Tryz.ntmps66
  go_wp2
  go_ret
  exact ⟨rfl, (Below.refl _ X).alloc (Nat.le_refl _) _⟩

theorem new4 (w : World) (o1 o2 o3 o4 : Obj) : ((((w.alloc o1).alloc o2).alloc o3).alloc o4).heap[w.heap.size]? = some o1 ∧ ((((w.alloc o1).alloc o2).alloc o3).alloc o4).heap[w.heap.size + 1]? = some o2 ∧ ((((w.alloc o1).alloc o2).alloc o3).alloc o4).heap[w.heap.size + 1 + 1]? = some o3 ∧ ((((w.alloc o1).alloc o2).alloc o3).alloc o4).heap[w.heap.size + 1 + 1 + 1]? = some o4 := by
  have h1 := heap_alloc_new w o1
  have h2 := heap_alloc_new (w.alloc o1) o2
  have h3 := heap_alloc_new ((w.alloc o1).alloc o2) o3
  have h4 := heap_alloc_new (((w.alloc o1).alloc o2).alloc o3) o4
  rw [World.size_alloc] at h2
  rw [World.size_alloc, World.size_alloc] at h3
  rw [World.size_alloc, World.size_alloc, World.size_alloc] at h4
  refine ⟨?_, ?_, ?_, h4⟩
  · exact (Below.heap_alloc _ _ _ (by simp; omega)).trans ((Below.heap_alloc _ _ _ (by simp; omega)).trans ((Below.heap_alloc _ _ _ (by simp)).trans h1))
  · exact (Below.heap_alloc _ _ _ (by simp)).trans ((Below.heap_alloc _ _ _ (by simp)).trans h2)
  · exact (Below.heap_alloc _ _ _ (by simp)).trans h3

set_option maxRecDepth 100000 in
set_option maxHeartbeats 4000000 in
theorem eventsOf_any (a : Option Addr) (c : Nat) (es : List Ev) (r : Int) (w : World) (hE : EvSl w (.slice a es.length c) es) (hn : es.length ≤ maxLen) :
    Calls Tryz.prog 26 #[.slice a es.length c, .int .i64 r] w fun e w' => ∃ lb, e = .returned (.func (.func 92) #[] lb) ∧ (∀ T : List TypeId, 98 ∉ T → Sq T Tryz.prog 92 lb evA w'.heap.size (ofRun es r) w') ∧ Below w.heap.size w w' := by
  have HE := hid hE
  clear hE
  go_enter Tryz.func26, Tryz.ntmps26
  go_wp2
  refine bodyPost_ret (v := .func (.func 92) #[] #[.pointer (some ⟨w.heap.size + 1 + 1, 0, none⟩), .pointer (some ⟨w.heap.size + 1 + 1 + 1, 0, none⟩)]) (by simp [results, Tryz.results26, go_sem]) rfl ?_
  obtain ⟨n1, n2, n3, n4⟩ := new4 w (.cells #[.int .i64 r] 2) (.cells #[.slice a es.length c] 27) (.cells #[.func (.func 93) #[] #[.pointer (some ⟨w.heap.size + 1, 0, none⟩)]] 64) (.cells #[.func (.func 66) #[] #[.pointer (some ⟨w.heap.size, 0, none⟩)]] 98)
  have hb : Below w.heap.size w ((((w.alloc (.cells #[.int .i64 r] 2)).alloc (.cells #[.slice a es.length c] 27)).alloc (.cells #[.func (.func 93) #[] #[.pointer (some ⟨w.heap.size + 1, 0, none⟩)]] 64)).alloc (.cells #[.func (.func 66) #[] #[.pointer (some ⟨w.heap.size, 0, none⟩)]] 98)) := ((((Below.refl _ w).alloc (Nat.le_refl _) _).alloc (by simp) _).alloc (by simp; omega) _).alloc (by simp; omega) _
  generalize ((((w.alloc (.cells #[.int .i64 r] 2)).alloc (.cells #[.slice a es.length c] 27)).alloc (.cells #[.func (.func 93) #[] #[.pointer (some ⟨w.heap.size + 1, 0, none⟩)]] 64)).alloc (.cells #[.func (.func 66) #[] #[.pointer (some ⟨w.heap.size, 0, none⟩)]] 98)) = W4 at *
  refine ⟨_, rfl, fun T hT => ?_, hb⟩
  refine picked_sq T hT (w.heap.size + 1 + 1) (w.heap.size + 1 + 1 + 1) 93 66 W4.heap.size _ _ (fun e => decide (e.run = r)) es W4 (Nat.le_refl _) (by rw [Lib.cell_of_heap n3]; rfl) n4 (lt_heap n3)
    (enters_of Tryz.func93 (by kernel_rfl) rfl) (enters_of Tryz.func66 (by kernel_rfl) rfl)
    (values_sq T (w.heap.size + 1) a c es w W4 W4.heap.size hb.size hb HE.out (by rw [Lib.cell_of_heap n2]; rfl) (lt_heap n2) hn) ?_
  intro e X hX
  exact isRun_any w.heap.size r e X ((hX.cell (p := ⟨w.heap.size, 0, none⟩) (lt_heap n1)).trans (by rw [Lib.cell_of_heap n1]; rfl)) (Nat.lt_of_lt_of_le (lt_heap n1) hX.size)
end Go.Proofs.YthggcdadipjiiaaGreatDoor
