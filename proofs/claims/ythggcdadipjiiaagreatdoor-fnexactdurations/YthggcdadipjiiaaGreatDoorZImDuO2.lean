/-
  Texts put together: ImDuO, Itr.
-/
import Derived.Test.YthggcdadipjiiaaGreatDoorZSpHist3
import Derived.Test.YthggcdadipjiiaaGreatDoorZShStr5
import Derived.Test.YthggcdadipjiiaaGreatDoorZDuF3
import Derived.Test.YthggcdadipjiiaaGreatDoorZSpSet24
import Derived.Deep.RegionHeld3
import Derived.RangeFuncNested
import Derived.RangeFuncLeaves
/-
  impl.durOf: what is told of a step that lasted so long each time: a contract over the seat's program.
-/
namespace Go.Proofs.YthggcdadipjiiaaGreatDoor
open Go.RowKit

def durV (d : Dur) : Value := .agg #[.string d.step, .int .i64 d.count, .int .i64 d.sum, .int .i64 d.least, .int .i64 d.most]
theorem sum_bound {L : List Int} (h : ∀ y ∈ L, -1000000 ≤ y ∧ y ≤ 1000000) : ∀ k : Nat, -1000000 * (k : Int) ≤ (L.take k).sum ∧ (L.take k).sum ≤ 1000000 * (k : Int)
  | 0 => by simp
  | k + 1 => by
    have ih := sum_bound h k
    by_cases hk : k < L.length
    · rw [List.take_succ_eq_append_getElem hk, List.sum_append]
      have := h _ (List.getElem_mem hk)
      simp only [List.sum_cons, List.sum_nil]
      omega
    · rw [List.take_of_length_le (by omega)] at ih ⊢
      omega
set_option maxRecDepth 100000 in
set_option maxHeartbeats 4000000 in
theorem durOf_any (g o n c : Nat) (s : ByteArray) (L : List Int) (w : World) (hL : L ≠ []) (hn : L.length = n) (hg : g < w.heap.size) (hc : ∀ i, (h : i < L.length) → w.cell? ⟨g, o + i, none⟩ = some (.int .i64 L[i])) (hm : n ≤ 1048576) (hs : s.size ≤ 1099511627776) (hb : ∀ y ∈ L, -1000000 ≤ y ∧ y ≤ 1000000) :
    Calls Tryz.prog 27 #[.string s, .slice (some ⟨g, o, none⟩) n c] w fun e w' => e = .returned (durV (durL s L)) ∧ Below w.heap.size w w' := by
  have hex : ∃ mn mx : Int, durV (durL s L) = .agg #[.string s, .int .i64 (n : Nat), .int .i64 L.sum, .int .i64 mn, .int .i64 mx] ∧ (∀ X, Below w.heap.size w X → Calls Tryz.prog 68 #[.slice (some ⟨g, o, none⟩) n c] X fun e w' => e = .returned (.int .i64 mn) ∧ w' = X) ∧ (∀ X, Below w.heap.size w X → Calls Tryz.prog 69 #[.slice (some ⟨g, o, none⟩) n c] X fun e w' => e = .returned (.int .i64 mx) ∧ w' = X) := by
    cases L with
    | nil => exact absurd rfl hL
    | cons x r =>
      subst hn
      have h0 : ∀ X, Below w.heap.size w X → X.cell? ⟨g, o, none⟩ = some (.int .i64 x) := fun X hX => (hX.cell (p := ⟨g, o, none⟩) hg).trans (hc 0 (by simp))
      have h1 : ∀ X, Below w.heap.size w X → ∀ i, (h : i < r.length) → X.cell? ⟨g, o + (i + 1), none⟩ = some (.int .i64 r[i]) := fun X hX i h => (hX.cell (p := ⟨g, o + (i + 1), none⟩) hg).trans (hc (i + 1) (by simpa using h))
      have hr : r.length < maxLen := by unfold maxLen; simp at hm; omega
      refine ⟨r.foldl minI x, r.foldl maxI x, by rw [durL_vals]; rfl, fun X hX => min_any g o c x r X (h0 X hX) (h1 X hX) hr, fun X hX => max_any g o c x r X (h0 X hX) (h1 X hX) hr⟩
  obtain ⟨mn, mx, hv, cMn, cMx⟩ := hex
  rw [hv]
  have HMn := hid cMn
  have HMx := hid cMx
  have HC := hid hc
  have HS := hid (sum_bound hb)
  clear hv cMn cMx hc hb hL
  have hzz : (0 : Int) ≤ (n : Int) := by omega
  go_enter Tryz.func27, Tryz.ntmps27
  go_wp2_with fail
  have HA := hid (heap_alloc_new w (.cells #[.string ⟨#[]⟩, .int .i64 0, .int .i64 0, .int .i64 0, .int .i64 0] 35))
  have HBA := hid ((Below.refl w.heap.size w).alloc (Nat.le_refl _) (.cells #[.string ⟨#[]⟩, .int .i64 0, .int .i64 0, .int .i64 0, .int .i64 0] 35))
  refine (Clone_any s _ hs).mono ?_
  generalize w.alloc (.cells #[.string ⟨#[]⟩, .int .i64 0, .int .i64 0, .int .i64 0, .int .i64 0] 35) = WA at *
  rintro e W1 ⟨rfl, hb1⟩
  have HA1 := hid ((hb1.block _ (lt_heap HA.out)).trans HA.out)
  have HB1 := hid (HBA.out.trans (hb1.mono HBA.out.size))
  have c1 := HMn.out W1 HB1.out
  have c2 := HMx.out W1 HB1.out
  clear hb1 HA HBA HMn HMx
  go_wp2_with fail
  refine c1.mono ?_
  rintro e W2 ⟨rfl, rfl⟩
  go_wp2_with fail
  refine c2.mono ?_
  rintro e W3 ⟨rfl, rfl⟩
  clear c1 c2
  go_wp2_with fail
  have HB5 := hid (heap_alloc_new W3 (.cells #[.string s, .int .i64 (n : Nat), .int .i64 0, .int .i64 mn, .int .i64 mx] 35))
  have HA5 := hid ((Below.heap_alloc W3 (.cells #[.string s, .int .i64 (n : Nat), .int .i64 0, .int .i64 mn, .int .i64 mx] 35) _ (lt_heap HA1.out)).trans HA1.out)
  have HBL := hid (HB1.out.alloc HB1.out.size (.cells #[.string s, .int .i64 (n : Nat), .int .i64 0, .int .i64 mn, .int .i64 mx] 35))
  have hlt5 : w.heap.size < W3.heap.size := lt_heap HA1.out
  generalize W3.alloc (.cells #[.string s, .int .i64 (n : Nat), .int .i64 0, .int .i64 mn, .int .i64 mx] 35) = W5 at *
  generalize W3.heap.size = b5 at *
  clear HA1 HB1
  go_loopw [7, 19] (fun v i wr => ∃ k : Nat, k ≤ n ∧ i = .int .i64 k ∧ wr.heap[b5]? = some (.cells [Value.string s, .int .i64 (n : Nat), .int .i64 (L.take k).sum, .int .i64 mn, .int .i64 mx].toArray 35 (0, 0)) ∧ wr.heap[w.heap.size]? = some (.cells #[.string ⟨#[]⟩, .int .i64 0, .int .i64 0, .int .i64 0, .int .i64 0] 35 (0, 0)) ∧ Below w.heap.size w wr) (fun _ i _ => n - (intOf i).toNat)
  case atStart => exact ⟨0, Nat.zero_le _, rfl, HB5.out, HA5.out, HBL.out⟩
  case round =>
    obtain ⟨k, hk, rfl, h5, h0, hbl⟩ := hrel
    have H5 := hid h5
    have H0 := hid h0
    have HB := hid hbl
    have d2 : wr.cell? ⟨b5, 2, none⟩ = some (.int .i64 (L.take k).sum) := by rw [Lib.cell_of_heap h5]; rfl
    by_cases hlt : k < n
    · have ck := (hbl.cell (p := ⟨g, o + k, none⟩) hg).trans (HC.out k (by omega))
      have hsk := HS.out k
      have hsk1 := HS.out (k + 1)
      have HF := hid (show (L.take (k + 1)).sum = (L.take k).sum + L[k] by rw [List.take_succ_eq_append_getElem (by omega), List.sum_append]; simp)
      rw [HF.out] at hsk1
      have ff := Lib.frozen_of_heap h5
      clear h5 h0 hbl HB5 HA5 HBL
      generalize (L.take k).sum = a at *
      generalize L[k] = b at *
      have hw : IntKind.i64.wrap (a + b) = a + b := by rw [IntKind.wrap_i64]; omega
      have q1 : (0 : Int) ≤ (k : Int) := by omega
      have q2 : (k : Int) < (n : Int) := by omega
      go_wp2_with fail
      have H6 := hid (blk_set (i := 2) H5.out (.int .i64 (a + b)))
      have H1 := hid ((Below.heap_setCell wr ⟨b5, 2, none⟩ (.int .i64 (a + b)) w.heap.size (by simp; omega)).trans H0.out)
      have HB6 := hid (HB.out.setCell (p := ⟨b5, 2, none⟩) (Nat.le_of_lt hlt5) (.int .i64 (a + b)))
      go_roundw
      case rel => exact ⟨k + 1, by omega, by go_num, by rw [HF.out]; exact H6.out, H1.out, HB6.out⟩
      case measure => simp [intOf]; omega
    · obtain rfl : k = n := by omega
      have c0 : wr.cell? ⟨b5, 0, none⟩ = some (.string s) := by rw [Lib.cell_of_heap h5]; rfl
      have c1 : wr.cell? ⟨b5, 1, none⟩ = some (.int .i64 (k : Nat)) := by rw [Lib.cell_of_heap h5]; rfl
      have c3 : wr.cell? ⟨b5, 3, none⟩ = some (.int .i64 mn) := by rw [Lib.cell_of_heap h5]; rfl
      have c4 : wr.cell? ⟨b5, 4, none⟩ = some (.int .i64 mx) := by rw [Lib.cell_of_heap h5]; rfl
      have z0 : wr.cell? ⟨w.heap.size, 0, none⟩ = some (.string ⟨#[]⟩) := by rw [Lib.cell_of_heap h0]; rfl
      have z1 : wr.cell? ⟨w.heap.size, 1, none⟩ = some (.int .i64 0) := by rw [Lib.cell_of_heap h0]; rfl
      have z2 : wr.cell? ⟨w.heap.size, 2, none⟩ = some (.int .i64 0) := by rw [Lib.cell_of_heap h0]; rfl
      have z3 : wr.cell? ⟨w.heap.size, 3, none⟩ = some (.int .i64 0) := by rw [Lib.cell_of_heap h0]; rfl
      have z4 : wr.cell? ⟨w.heap.size, 4, none⟩ = some (.int .i64 0) := by rw [Lib.cell_of_heap h0]; rfl
      have zf := Lib.frozen_of_heap h0
      have hsum : (L.take k).sum = L.sum := by rw [← hn, List.take_length]
      rw [hsum] at d2
      clear h5 h0 hbl HB5 HA5 HBL H5
      go_wp2_with fail
      have HK := hid (blk_set (i := 4) (blk_set (i := 3) (blk_set (i := 2) (blk_set (i := 1) (blk_set (i := 0) (L := [.string ⟨#[]⟩, .int .i64 0, .int .i64 0, .int .i64 0, .int .i64 0]) H0.out (.string s)) (.int .i64 (k : Nat))) (.int .i64 L.sum)) (.int .i64 mn)) (.int .i64 mx))
      have HB9 := hid (((((HB.out.setCell (p := ⟨w.heap.size, 0, none⟩) (Nat.le_refl _) (.string s)).setCell (p := ⟨w.heap.size, 1, none⟩) (Nat.le_refl _) (.int .i64 (k : Nat))).setCell (p := ⟨w.heap.size, 2, none⟩) (Nat.le_refl _) (.int .i64 L.sum)).setCell (p := ⟨w.heap.size, 3, none⟩) (Nat.le_refl _) (.int .i64 mn)).setCell (p := ⟨w.heap.size, 4, none⟩) (Nat.le_refl _) (.int .i64 mx))
      generalize (((((wr.setCell ⟨w.heap.size, 0, none⟩ (.string s)).setCell ⟨w.heap.size, 1, none⟩ (.int .i64 (k : Nat))).setCell ⟨w.heap.size, 2, none⟩ (.int .i64 L.sum)).setCell ⟨w.heap.size, 3, none⟩ (.int .i64 mn)).setCell ⟨w.heap.size, 4, none⟩ (.int .i64 mx)) = W9 at *
      have y0 : W9.cell? ⟨w.heap.size, 0, none⟩ = some (.string s) := by rw [Lib.cell_of_heap HK.out]; rfl
      have y1 : W9.cell? ⟨w.heap.size, 1, none⟩ = some (.int .i64 (k : Nat)) := by rw [Lib.cell_of_heap HK.out]; rfl
      have y2 : W9.cell? ⟨w.heap.size, 2, none⟩ = some (.int .i64 L.sum) := by rw [Lib.cell_of_heap HK.out]; rfl
      have y3 : W9.cell? ⟨w.heap.size, 3, none⟩ = some (.int .i64 mn) := by rw [Lib.cell_of_heap HK.out]; rfl
      have y4 : W9.cell? ⟨w.heap.size, 4, none⟩ = some (.int .i64 mx) := by rw [Lib.cell_of_heap HK.out]; rfl
      refine bodyPost_ret (v := .agg #[.string s, .int .i64 (k : Nat), .int .i64 L.sum, .int .i64 mn, .int .i64 mx]) (by simp [results, Tryz.results27, go_sem, y0, y1, y2, y3, y4]) rfl ?_
      exact ⟨rfl, HB9.out⟩
end Go.Proofs.YthggcdadipjiiaaGreatDoor

/-
  A range over a function whose body never leaves it, at the wide fence: what an iterator owes (Sq), and the one law for its caller (wpIn_sq). Of no function.
-/
namespace Go.Proofs.YthggcdadipjiiaaGreatDoor
open Go.RowKit

theorem round_any {n m : Nat} {P : Program} {l : Nat} {f : FuncId} {tmps : Array Value} {assign body : Code} {w : World} {R : Ending → World → Prop} (h : RoundIn Fence.wide n P l f tmps assign body w R) : RoundIn Fence.wide m P l f tmps assign body w R :=
  ⟨trivial, fun c cs _ => h.2 c cs (by simp [Fence.room, Fence.wide])⟩
theorem round_in {n m : Nat} (l0 : Nat) {P : Program} {l : Nat} {f : FuncId} {tmps : Array Value} {assign body : Code} {w : World} {R : Ending → World → Prop} (h : RoundIn Fence.wide n P l f tmps assign body w R) : RoundIn (Fence.wide.inRound l0) m P l f tmps assign body w R :=
  ⟨trivial, fun c cs _ => h.2 c cs (by simp [Fence.room, Fence.wide])⟩

/-- Blocks that hold no cells of these types. -/
def FreeT (T : List TypeId) : Obj → Prop
  | .cells _ t _ => t ∉ T
  | _ => True
/-- Whatever holds no cells of these types lies as it lay. -/
structure KeepsT (T : List TypeId) (W W' : World) : Prop where
  size : W.heap.size ≤ W'.heap.size
  same : ∀ (k : Nat) (o : Obj), W.heap[k]? = some o → FreeT T o → W'.heap[k]? = some o
theorem KeepsT.refl (T : List TypeId) (W : World) : KeepsT T W W := ⟨Nat.le_refl _, fun _ _ h _ => h⟩
theorem KeepsT.trans {T : List TypeId} {A B C : World} (h : KeepsT T A B) (k : KeepsT T B C) : KeepsT T A C := ⟨Nat.le_trans h.size k.size, fun i o hi ho => k.same i o (h.same i o hi ho) ho⟩
theorem KeepsT.below {T : List TypeId} {W W' : World} (h : Below W.heap.size W W') : KeepsT T W W' := ⟨h.size, fun k _ ho _ => (h.block k (Array.getElem?_eq_some_iff.1 ho).1).trans ho⟩
theorem KeepsT.alloc (T : List TypeId) (W : World) (o : Obj) : KeepsT T W (W.alloc o) := KeepsT.below ((Below.refl _ W).alloc (Nat.le_refl _) o)
theorem KeepsT.grown {T : List TypeId} {W W' : World} {row : Option Nat} (h : W.grownBy W' row) (hr : ∀ k, row = some k → ∃ c t f, W.heap[k]? = some (.cells c t f) ∧ t ∈ T) : KeepsT T W W' :=
  ⟨h.size, fun k o ho hf => (h.block k (Array.getElem?_eq_some_iff.1 ho).1 (fun e => by
    obtain ⟨c, t, f, h1, h2⟩ := hr k e.symm
    rw [ho] at h1
    cases h1
    exact hf h2)).trans ho⟩

/-- An iterator that hands out xs, one by one, to a body that never leaves and keeps what lies below n₀. -/
def Sq {α : Type} (T : List TypeId) (P : Program) (g : Nat) (lb : Array Value) (enc : α → Array Value) (n₀ : Nat) (xs : List α) (w : World) : Prop :=
  ∀ (l : Nat) (J : Nat → World → Prop) (W : World), Below w.heap.size w W → OwnFrom W.heap.size J →
    (∀ k x W1, J k W1 → xs[k]? = some x → YieldAt Fence.wide 9 P l (enc x) W1 fun e W' => e = .returned (.bool true) ∧ J (k + 1) W' ∧ Below n₀ W1 W' ∧ KeepsT T W1 W') →
    J 0 W → Calls P g (#[.func (.yield l) #[] #[]] ++ lb) W fun e W' => (∃ v, e = .returned v) ∧ J xs.length W'

theorem Sq.later {α : Type} {T : List TypeId} {P : Program} {g : Nat} {lb : Array Value} {enc : α → Array Value} {n₀ : Nat} {xs : List α} {w w' : World} (h : Sq T P g lb enc n₀ xs w) (hb : Below w.heap.size w w') : Sq T P g lb enc n₀ xs w' :=
  fun l J W hW => h l J W (hb.trans (hW.mono hb.size))

/-- How a round's body is left: it goes on. -/
def GoesOn (T : List TypeId) (n₀ : Nat) (I : World → Prop) (W : World) : Exit → Act → World → Prop
  | .normal, _, W' => KeepsT T W W' ∧ Below n₀ W W' ∧ I W'
  | _, _, _ => False

theorem wpIn_sq {α : Type} {T : List TypeId} {P : Program} {g : Operand} {ps : Array Tmp} {assign body : Code} {Q : Exit → Act → World → Prop} {a : Act} {w : World} {gf : Nat} {lb : Array Value}
    (hg : a.eval g = .func (.func gf) #[] lb) (eg : ∀ args w, (callFunc gf args).run P w = .ok (.enter gf args) w)
    {enc : α → Array Value} {n₀ : Nat} {xs : List α} {w0 : World} (hseq : Sq T P gf lb enc n₀ xs w0) (hb0 : Below w0.heap.size w0 w) (hn : n₀ ≤ w.heap.size) (hps : ∀ x, (enc x).size = ps.size)
    (I : Nat → World → Prop) (hI : OwnFrom w.heap.size I) (h0 : I 0 w) (Ax : α → Act → World → Prop) (hAx : ∀ x a', OwnFrom w.heap.size (fun (_ : Unit) W => Ax x a' W))
    (hassign : ∀ (l k : Nat) (x : α) (W : World) (K : Act → World → Prop), I k W → xs[k]? = some x → (∀ a' W', KeepsT T W W' → Below n₀ W W' → I k W' → Ax x a' W' → K a' W') →
      assign.wpIn (Fence.wide.inRound l) 9 P (Exit.then K (fun _ _ _ => False)) { tmps := (ps.zip (enc x)).foldl (fun t (p, v) => t.setIfInBounds p v) a.tmps, defers := [] } W)
    (hbody : ∀ (l k : Nat) (x : α) (a' : Act) (W : World), w.heap.size ≤ l → I k W → Ax x a' W → xs[k]? = some x → body.wpIn (Fence.wide.inRound l) 9 P (GoesOn T n₀ (I (k + 1)) W) a' W)
    (hdone : ∀ (D : Nat) (W : World), w.heap.size ≤ D → I xs.length W → W.heap[D]? = some (.deferred (some [])) → Q .normal { a with defers := { target := .collected D, args := #[] } :: a.defers } W) :
    (Code.rangeFunc g ps assign body).wpIn Fence.wide 9 P Q a w := by
  refine wpIn_rangeFunc fun fn hfn => ?_
  obtain ⟨rec, hrec⟩ : ∃ rec : LoopState → Loop, rec = fun st => { state := st, pending := none, fn, tmps := a.tmps, params := ps, assign, body, defers := w.heap.size } := ⟨_, rfl⟩
  obtain ⟨W1, hW1⟩ : ∃ W1, (w.alloc (.deferred (some []))).alloc (.loop (rec .ready)) = W1 := ⟨_, rfl⟩
  have hs1 : W1.heap.size = w.heap.size + 2 := by rw [← hW1]; simp
  have hL1 : W1.heap[w.heap.size + 1]? = some (.loop (rec .ready)) := by
    have := World.alloc_heap_new (w.alloc (.deferred (some []))) (.loop (rec .ready)); rw [World.size_alloc] at this; rw [← hW1]; exact this
  have hD1 : W1.heap[w.heap.size]? = some (.deferred (some [])) := by
    rw [← hW1]; exact (Below.heap_alloc _ _ _ (by simp)).trans (World.alloc_heap_new w _)
  have hI1 : I 0 W1 := by rw [← hW1]; exact hI.alloc _ (hI.alloc _ h0)
  have hb1 : Below w0.heap.size w0 W1 := by
    rw [← hW1]; exact hb0.trans ((((Below.refl _ w).alloc (Nat.le_refl _) _).alloc (by simp) _).mono hb0.size)
  refine ⟨w.heap.size + 1, [{ target := .collected w.heap.size, args := #[] }], W1, { target := .fn (.func gf) lb, args := #[.func (.yield (w.heap.size + 1)) #[] #[]] }, W1, gf,
    #[.func (.yield (w.heap.size + 1)) #[] #[]] ++ lb, W1, ?_, ?_, fun _ _ => trivial, ?_, fun _ => (by decide), ?_⟩
  · rw [← hW1, hrec]; exact run_enterLoop_outer _ _ _ _ _
  · simp only [resolve, hg]
    simp [go_sem]
  · simp [invoke, go_sem, eg]
  · refine callsIn_wide.2 ((hseq (w.heap.size + 1) (fun k W => I k W ∧ W.heap[w.heap.size + 1]? = some (.loop (rec .ready)) ∧ W.heap[w.heap.size]? = some (.deferred (some []))) W1 hb1 ?_ ?_ ⟨hI1, hL1, hD1⟩).mono ?_)
    · rintro s A B row ⟨hs, hl, hd⟩ hgr hr
      refine ⟨hI s A B row hs hgr (fun r e => ⟨by have := (hr r e).1; omega, (hr r e).2⟩), ?_, ?_⟩
      · exact (hgr.block _ (Array.getElem?_eq_some_iff.1 hl).1 (fun e => by have := (hr _ e.symm).1; omega)).trans hl
      · exact (hgr.block _ (Array.getElem?_eq_some_iff.1 hd).1 (fun e => by have := (hr _ e.symm).1; omega)).trans hd
    · rintro k x W ⟨hi, hl, hd⟩ hx
      have hy := run_yield (P := P) (args := enc x) hl (by rw [hrec]; exact hps x)
      rw [hrec] at hy
      refine ⟨fn, _, assign, body, hy, roundIn_of_wpIn hfn (hassign _ k x W _ hi hx ?_)⟩
      intro a' Wa hkf hba hia hax
      have hla := hkf.same _ _ hl trivial
      have hda := hkf.same _ _ hd trivial
      have hlt := (Array.getElem?_eq_some_iff.1 hla).1
      refine ⟨_, run_beginRound hla (by rw [hrec]), ?_⟩
      obtain ⟨Wb, hWb⟩ : ∃ Wb, Wa.putObj (w.heap.size + 1) (.loop { rec .ready with state := .busy }) = Wb := ⟨_, rfl⟩
      have hlb : Wb.heap[w.heap.size + 1]? = some (.loop { rec .ready with state := .busy }) := by rw [← hWb]; exact World.putObj_heap_same hlt
      have hdb : Wb.heap[w.heap.size]? = some (.deferred (some [])) := by rw [← hWb]; exact (World.putObj_heap_other (by omega)).trans hda
      have hbb : Below n₀ Wa Wb := by rw [← hWb]; exact belowK_b hn _ _ _ _ (by omega) hla rfl rfl
      have hib : I k Wb := by rw [← hWb]; exact hI.putObj _ hia (by omega) hla rfl
      have hab : Ax x a' Wb := by rw [← hWb]; exact (hAx x a').putObj (s := ()) _ hax (by omega) hla rfl
      rw [hWb]
      refine wpIn_mono (hbody _ k x a' Wb (by omega) hib hab hx) ?_
      intro e a3 W3 hp
      cases e with
      | normal =>
        obtain ⟨hk3, hb3, hi3⟩ := hp
        have hl3 := hk3.same _ _ hlb trivial
        have hr3 := run_endRound (P := P) none hl3
        refine ⟨_, _, hr3, rfl, ⟨hI.putObj _ hi3 (by omega) hl3 rfl, ?_, ?_⟩, ((hba.trans hbb).trans hb3).trans (belowK_b hn _ _ _ _ (by omega) hl3 rfl rfl), ?_⟩
        · rw [World.putObj_heap_same (Array.getElem?_eq_some_iff.1 hl3).1, hrec]; rfl
        · exact (World.putObj_heap_other (by omega)).trans (hk3.same _ _ hdb trivial)
        · have hl4 : (W3.putObj (w.heap.size + 1) (.loop { { rec .ready with state := .busy } with state := if (none : Option Code).isNone then .ready else .done, pending := none })).heap[w.heap.size + 1]? = some (.loop (rec .ready)) := by
            rw [World.putObj_heap_same (Array.getElem?_eq_some_iff.1 hl3).1, hrec]; rfl
          refine ⟨?_, fun k o hk hf => ?_⟩
          · have h1 := hkf.size
            have h2 := hbb.size
            have h3 := hk3.size
            simp
            omega
          · by_cases e : k = w.heap.size + 1
            · subst e
              rw [hl] at hk
              cases hk
              exact hl4
            · refine (World.putObj_heap_other e).trans (hk3.same _ _ ?_ hf)
              rw [← hWb]
              exact (World.putObj_heap_other e).trans (hkf.same _ _ hk hf)
      | ret => exact hp.elim
      | exit _ => exact hp.elim
      | goto _ => exact hp.elim
      | panic _ => exact hp.elim
      | outgrown => exact hp.elim
    · rintro e W2 ⟨⟨v, rfl⟩, hi, hl, hd⟩
      have hr := run_endLoop (P := P) hl (by rw [hrec]; simp)
      refine ⟨none, _, by rw [hr, hrec], hdone _ _ (Nat.le_refl _) (hI.putObj _ hi (by omega) hl rfl) ((World.putObj_heap_other (by omega)).trans hd)⟩
end Go.Proofs.YthggcdadipjiiaaGreatDoor
