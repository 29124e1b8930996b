/-
 Texts put together: RowL, RgInv, RgInI, Clone.
-/
import Derived.Test.YtookchpdbilbcaaGreatDoorZEvI8
import Derived.Orders
import Derived.WalkKit
import Derived.Below
import Derived.OrdersIn
import Derived.Test.YtookchpdbilbcaaGreatDoorZAgg6
set_option maxRecDepth 100000
/-
 A row of one's own whose slice may be cut short of the room behind it. Of no function.
-/
namespace Go.Proofs.YtookchpdbilbcaaGreatDoor
open Go.RowKit
def RowL (w : World) (base : Nat) (e : TypeId) (size : Nat) (v : Value) (n : Nat) (xs : List Value) : Prop :=
 xs.length = n * size ∧ (∃ a c, v = .slice a n c) ∧ (0 < n → ∃ (g cap : Nat) (L : List Value), v = .slice (some ⟨g, 0, none⟩) n cap ∧ base ≤ g ∧ w.heap[g]? = some (.cells L.toArray e (0, 0)) ∧ n * size ≤ L.length ∧ L.take (n * size) = xs)
theorem RowL.of_own {w : World} {base size n : Nat} {e : TypeId} {v : Value} {xs : List Value} (h : w.ownsRow base e size v n xs) : RowL w base e size v n xs := by
 refine ⟨h.1, ?_, fun h0 => ?_⟩
 ·rcases h.2 with ⟨rfl, rfl⟩ | ⟨g, cap, cur, rfl, _⟩
  ·exact ⟨_, _, rfl⟩
  ·exact ⟨_, _, rfl⟩
 ·rcases h.2 with ⟨rfl, rfl⟩ | ⟨g, cap, cur, rfl, hb, hh, h1, h2, h3, h4⟩
  ·omega
  ·refine ⟨g, cap, cur.toList, rfl, hb, by simpa using hh, ?_, h4⟩
   have := Nat.mul_le_mul_right size h1
   simp [h3]; omega
theorem RowL.stay {w w' : World} {base size n : Nat} {e : TypeId} {v : Value} {xs : List Value} (h : RowL w base e size v n xs) (hb : Below w.heap.size w w') : RowL w' base e size v n xs :=
 ⟨h.1, h.2.1, fun h0 => let ⟨g, cap, L, e1, e2, e3, e4⟩ := h.2.2 h0; ⟨g, cap, L, e1, e2, (hb.block g (Array.getElem?_eq_some_iff.1 e3).1).trans e3, e4⟩⟩
theorem RowL.le {w : World} {base base' size n : Nat} {e : TypeId} {v : Value} {xs : List Value} (h : RowL w base e size v n xs) (hb : base' ≤ base) : RowL w base' e size v n xs :=
 ⟨h.1, h.2.1, fun h0 => let ⟨g, cap, L, e1, e2, e3⟩ := h.2.2 h0; ⟨g, cap, L, e1, Nat.le_trans hb e2, e3⟩⟩
theorem RowL.chg {p : Nat → Prop} {w w' : World} {base size n : Nat} {e : TypeId} {v : Value} {xs : List Value} (h : RowL w base e size v n xs) (hc : Chg p w w') (hp : ∀ (g : Nat) (c : Array Value), base ≤ g → w.heap[g]? = some (Obj.cells c e (0, 0)) → ¬ p g) : RowL w' base e size v n xs :=
 ⟨h.1, h.2.1, fun h0 => let ⟨g, cap, L, e1, e2, e3, e4⟩ := h.2.2 h0; ⟨g, cap, L, e1, e2, (hc.block g (Array.getElem?_eq_some_iff.1 e3).1 (hp g _ e2 e3)).trans e3, e4⟩⟩
theorem RowL.sl {w : World} {base : Nat} {e : TypeId} {v : Value} {es : List Ev} (h : RowL w base e 6 v es.length (es.flatMap Ev.cells)) : EvSl w v es := by
 by_cases h0 : 0 < es.length
 ·obtain ⟨g, cap, L, rfl, _, hh, hL, ht⟩ := h.2.2 h0
  refine .inr ⟨g, 0, cap, rfl, h0, (Array.getElem?_eq_some_iff.1 hh).1, ?_⟩
  have key : ∀ (es : List Ev) (L : List Value) (i j : Nat) (hi : i < es.length), L.take (es.length * 6) = es.flatMap Ev.cells → j < 6 → L[i * 6 + j]? = es[i].cells[j]? := by
   intro es
   induction es with
   | nil => intro L i j hi; simp at hi
   | cons x r ih =>
    intro L i j hi hL hj
    have hx : x.cells.length = 6 := rfl
    have h1 : (L.take ((x :: r).length * 6))[i * 6 + j]? = L[i * 6 + j]? := by
     rw [List.getElem?_take, if_pos (by simp at hi ⊢; omega)]
    rw [← h1, hL, List.flatMap_cons]
    cases i with
    | zero => rw [List.getElem?_append_left (by rw [hx]; omega)]; simp
    | succ i =>
     rw [List.getElem?_append_right (by rw [hx]; omega), hx]
     have h2 := ih (L.drop 6) i j (by simpa using hi) (by
      have : (L.drop 6).take (r.length * 6) = (L.take ((x :: r).length * 6)).drop 6 := by rw [List.drop_take]; congr 1; simp; omega
      rw [this, hL, List.flatMap_cons, List.drop_append, hx]; simp [hx]) hj
     have h3 : ((r.flatMap Ev.cells))[i * 6 + j]? = (L.drop 6)[i * 6 + j]? := by
      have : (L.drop 6).take (r.length * 6) = r.flatMap Ev.cells := by
       have h4 : (L.drop 6).take (r.length * 6) = (L.take ((x :: r).length * 6)).drop 6 := by rw [List.drop_take]; congr 1; simp; omega
       rw [h4, hL, List.flatMap_cons, List.drop_append, hx]; simp [hx]
      rw [← this, List.getElem?_take, if_pos (by simp at hi; omega)]
     rw [show (i + 1) * 6 + j - 6 = i * 6 + j by omega, h3, h2]; simp
  intro i hi
  have c : ∀ j, j < 6 → w.cell? ⟨g, 0 + i * 6 + j, none⟩ = es[i].cells[j]? := fun j hj => by
   rw [Lib.cell_of_heap hh, Nat.zero_add, ← key es L i j hi ht hj]; simp
  exact ⟨c 0 (by decide), c 1 (by decide), c 2 (by decide), c 3 (by decide), c 4 (by decide), c 5 (by decide)⟩
 ·obtain ⟨a, c, rfl⟩ := h.2.1
  have : es = [] := List.eq_nil_of_length_eq_zero (by omega)
  subst this
  exact .inl ⟨a, c, rfl, rfl⟩
end Go.Proofs.YtookchpdbilbcaaGreatDoor
/-
 A region that draws its order, by an invariant: what holds amid it, whatever has come up by then. Of no function.
-/
namespace Go.Proofs.YtookchpdbilbcaaGreatDoor
open Go.RowKit
theorem ZA3 {md : Region.Mode} {ops : Array Oper} {listed : Array Bool} (hac : ∀ (i : Nat) (o : Oper), ops[i]? = some o → ∀ e ∈ o.after, e.on < i) (hs : listed.size = ops.size) (h : Region.ready md ops listed = []) : ∀ i, i < ops.size → listed.getD i false = true := by
 intro i
 induction i using Nat.strongRecOn with
 | ind i ih =>
  intro hi
  cases hb : listed.getD i false with
  | true => rfl
  | false =>
   exfalso
   have : i ∈ Region.ready md ops listed := mem_ready.2 ⟨by
    have hl : i < listed.size := by omega
    simp [hl] at hb ⊢; exact hb, ops[i], Array.getElem?_eq_getElem hi, fun e he _ => ih e.on (hac i _ (Array.getElem?_eq_getElem hi) e he) (by have := hac i _ (Array.getElem?_eq_getElem hi) e he; omega)⟩
   rw [h] at this
   cases this
theorem ZAf {listed : Array Bool} {i : Nat} (h : listed.getD i true = false) : (listed.setIfInBounds i true).toList.count false + 1 = listed.toList.count false := by
 have hl : i < listed.size := by
  rcases Nat.lt_or_ge i listed.size with h' | h'
  ·exact h'
  ·simp [Array.getElem?_eq_none h'] at h
 have hv : listed.toList[i]'(by simpa using hl) = false := by simp [hl] at h; simpa using h
 have hpos : 0 < listed.toList.count false := List.count_pos_iff.2 (by rw [← hv]; exact List.getElem_mem _)
 rw [Array.toList_setIfInBounds, List.count_set (by simpa using hl), hv]
 simp only [beq_self_eq_true, if_true, show (true == false) = false from rfl, Bool.false_eq_true, if_false]
 omega
theorem any_inv {P : Program} {md : Region.Mode} {ops : Array Oper} {Q : Exit → Act → World → Prop} (R : Array Bool → Act → World → Prop) (hac : ∀ (i : Nat) (o : Oper), ops[i]? = some o → ∀ e ∈ o.after, e.on < i)
  (hstep : ∀ (i : Nat) (listed : Array Bool) (a : Act) (w : World), R listed a w → listed.getD i true = false → (∃ o : Oper, ops[i]? = some o ∧ ∀ e ∈ o.after, Region.binds md e = true → listed.getD e.on false = true) → wpOp P ops Q i (fun a' w' => R (listed.setIfInBounds i true) a' w') a w)
  (hend : ∀ (listed : Array Bool) (a : Act) (w : World), R listed a w → (∀ i, i < ops.size → listed.getD i false = true) → Q .normal a w) :
  ∀ (fuel : Nat) (listed : Array Bool) (a : Act) (w : World), listed.size = ops.size → listed.toList.count false ≤ fuel → R listed a w → wpAny P md ops Q fuel listed a w := by
 intro fuel
 induction fuel with
 | zero =>
  intro listed a w hs hc hR
  have hr : Region.ready md ops listed = [] := by
   refine List.eq_nil_iff_forall_not_mem.2 fun i hi => ?_
   have := ZAf (mem_ready.1 hi).1
   omega
  exact ⟨hr, hend listed a w hR (ZA3 hac hs hr)⟩
 | succ n ih =>
  intro listed a w hs hc hR
  refine ⟨fun hr => hend listed a w hR (ZA3 hac hs hr), fun i hi => ?_⟩
  obtain ⟨h1, h2⟩ := mem_ready.1 hi
  have hcl := ZAf h1
  exact wpOp_mono (fun a' w' h => ih _ a' w' (by simpa using hs) (by omega) h) (hstep i listed a w hR h1 h2)
/-- A region that draws its order, by an invariant over what has come up. -/
theorem ZAR {P : Program} {ops : Array Oper} {Q : Exit → Act → World → Prop} {id : Nat} {a : Act} {w : World} (hm : P.follows .mixedOrders = true) (R : Array Bool → Act → World → Prop) (hac : ∀ (i : Nat) (o : Oper), ops[i]? = some o → ∀ e ∈ o.after, e.on < i)
  (h0 : R (Array.replicate ops.size false) a w.drew)
  (hstep : ∀ (i : Nat) (listed : Array Bool) (a : Act) (w : World), R listed a w → listed.getD i true = false → (∃ o : Oper, ops[i]? = some o ∧ ∀ e ∈ o.after, Region.binds .any e = true → listed.getD e.on false = true) → wpOp P ops Q i (fun a' w' => R (listed.setIfInBounds i true) a' w') a w)
  (hend : ∀ (listed : Array Bool) (a : Act) (w : World), R listed a w → (∀ i, i < ops.size → listed.getD i false = true) → Q .normal a w) : (Code.region id ops true).wp P Q a w :=
 wp_region_any hm (any_inv R hac hstep hend ops.size _ a _ (by simp) (by simp) h0)
/-- Each operation waits for earlier ones alone. -/
def acB (ops : Array Oper) : Bool := (List.range ops.size).all fun i => match ops[i]? with
 | some o => o.after.all fun e => decide (e.on < i)
 | none => true
theorem ZCG {ops : Array Oper} (h : acB ops = true) (i : Nat) (o : Oper) (ho : ops[i]? = some o) (e : Edge) (he : e ∈ o.after) : e.on < i := by
 have hi := List.all_eq_true.1 h i (List.mem_range.2 (Array.getElem?_eq_some_iff.1 ho).1)
 simp only [ho] at hi
 simpa using Array.all_eq_true_iff_forall_mem.1 hi e he
theorem ZAW {listed : Array Bool} {i : Nat} (h : listed.getD i true = false) : listed.getD i false = false := by
 rw [Array.getD_eq_getD_getElem?] at h ⊢
 cases hq : listed[i]? with
 | none => rw [hq] at h; cases h
 | some q => rw [hq] at h; exact h
theorem ZAX {listed : Array Bool} {i : Nat} (h : listed.getD i true = false) : (listed.setIfInBounds i true).getD i false = true := by
 have hl : i < listed.size := by
  rcases Nat.lt_or_ge i listed.size with h' | h'
  ·exact h'
  ·simp [Array.getElem?_eq_none h'] at h
 simp [hl]
theorem uS {listed : Array Bool} {i : Nat} {C : Prop} (h : (listed.setIfInBounds i true).getD i false = false) (h' : listed.getD i true = false) : C := absurd h (by rw [ZAX h']; decide)
theorem ZGk {listed : Array Bool} {i j : Nat} (h : i ≠ j) (hj : (listed.setIfInBounds i true).getD j false = true) : listed.getD j false = true := by rwa [getD_set_ne false h] at hj
theorem ZFT {listed : Array Bool} {i j : Nat} (h : i ≠ j) (hj : (listed.setIfInBounds i true).getD j false = false) : listed.getD j false = false := by rwa [getD_set_ne false h] at hj
theorem gO {listed : Array Bool} {i j : Nat} (hj : (listed.setIfInBounds i true).getD j false = true) (h : i ≠ j := by decide) : listed.getD j false = true := ZGk h hj
theorem gF {listed : Array Bool} {i j : Nat} (hj : (listed.setIfInBounds i true).getD j false = false) (h : i ≠ j := by decide) : listed.getD j false = false := ZFT h hj
theorem ZAH {P : Program} {ops : Array Oper} {Q : Exit → Act → World → Prop} {i : Nat} {o : Oper} {K : Act → World → Prop} {a : Act} {w : World} (hi : ops[i]? = some o) (hg : o.guard = none) (h : o.wp P a w K Q) : wpOp P ops Q i K a w := by
 unfold wpOp
 rw [hi]
 simp only [show Region.wanted o (yielded ops a.tmps) = true by simp [Region.wanted, hg], if_true]
 exact .inl h
end Go.Proofs.YtookchpdbilbcaaGreatDoor
/-
 A region that draws its order, by an invariant, inside a fence. Of no function.
-/
namespace Go.Proofs.YtookchpdbilbcaaGreatDoor
open Go.RowKit
theorem ZG7 {F : Fence} {n : Nat} {P : Program} {md : Region.Mode} {ops : Array Oper} {Q : Exit → Act → World → Prop} (R : Array Bool → Act → World → Prop) (hac : ∀ (i : Nat) (o : Oper), ops[i]? = some o → ∀ e ∈ o.after, e.on < i)
  (hstep : ∀ (i : Nat) (listed : Array Bool) (a : Act) (w : World), R listed a w → listed.getD i true = false → (∃ o : Oper, ops[i]? = some o ∧ ∀ e ∈ o.after, Region.binds md e = true → listed.getD e.on false = true) → wpOpIn F n P ops Q i (fun a' w' => R (listed.setIfInBounds i true) a' w') a w)
  (hend : ∀ (listed : Array Bool) (a : Act) (w : World), R listed a w → (∀ i, i < ops.size → listed.getD i false = true) → Q .normal a w) :
  ∀ (fuel : Nat) (listed : Array Bool) (a : Act) (w : World), listed.size = ops.size → listed.toList.count false ≤ fuel → R listed a w → wpAnyIn F n P md ops Q fuel listed a w := by
 intro fuel
 induction fuel with
 | zero =>
  intro listed a w hs hc hR
  have hr : Region.ready md ops listed = [] := by
   refine List.eq_nil_iff_forall_not_mem.2 fun i hi => ?_
   have := ZAf (mem_ready.1 hi).1
   omega
  exact ⟨hr, hend listed a w hR (ZA3 hac hs hr)⟩
 | succ k ih =>
  intro listed a w hs hc hR
  refine ⟨fun hr => hend listed a w hR (ZA3 hac hs hr), fun i hi => ?_⟩
  obtain ⟨h1, h2⟩ := mem_ready.1 hi
  have hcl := ZAf h1
  exact wpOpIn_mono (fun a' w' h => ih _ a' w' (by simpa using hs) (by omega) h) (hstep i listed a w hR h1 h2)
theorem ZC5 {F : Fence} {n : Nat} {P : Program} {ops : Array Oper} {Q : Exit → Act → World → Prop} {id : Nat} {a : Act} {w : World} (hm : P.follows .mixedOrders = true) (R : Array Bool → Act → World → Prop) (hac : ∀ (i : Nat) (o : Oper), ops[i]? = some o → ∀ e ∈ o.after, e.on < i)
  (h0 : R (Array.replicate ops.size false) a w.drew)
  (hstep : ∀ (i : Nat) (listed : Array Bool) (a : Act) (w : World), R listed a w → listed.getD i true = false → (∃ o : Oper, ops[i]? = some o ∧ ∀ e ∈ o.after, Region.binds .any e = true → listed.getD e.on false = true) → wpOpIn F n P ops Q i (fun a' w' => R (listed.setIfInBounds i true) a' w') a w)
  (hend : ∀ (listed : Array Bool) (a : Act) (w : World), R listed a w → (∀ i, i < ops.size → listed.getD i false = true) → Q .normal a w) : (Code.region id ops true).wpIn F n P Q a w :=
 wpIn_region_any hm (ZG7 R hac hstep hend ops.size _ a _ (by simp) (by simp) h0)
theorem ZAo {F : Fence} {n : Nat} {P : Program} {ops : Array Oper} {Q : Exit → Act → World → Prop} {i : Nat} {o : Oper} {K : Act → World → Prop} {a : Act} {w : World} (hi : ops[i]? = some o) (hg : o.guard = none) (h : o.wpIn F n P a w K Q) : wpOpIn F n P ops Q i K a w := by
 unfold wpOpIn
 rw [hi]
 simp only [show Region.wanted o (yielded ops a.tmps) = true by simp [Region.wanted, hg], if_true]
 exact h
end Go.Proofs.YtookchpdbilbcaaGreatDoor
/-
 What strings.Clone answers: the same bytes, in a new row: a contract over the seat's program.
-/
namespace Go.Proofs.YtookchpdbilbcaaGreatDoor
open Go.RowKit
/-- A row of bytes made into a string by Go's own builtin: its run, out of the row's one fact. -/
theorem ZDV {w : World} {g : Nat} {s : ByteArray} (h0 : ¬ s.size = 0) (h63 : s.size ≤ 9223372036854775807) (hc : Tryz.prog.cellsOf 5 = 1)
  (h : w.heap[g]? = some (.cells (Lib.byteCells s.data.toList).toArray 5 (0, 0))) :
  (Builtin.unsafeString_ #[162, 3] 9 #[.pointer (some ⟨g, 0, none⟩), .int .i64 (s.size : Int)]).run Tryz.prog w = .ok (.string s) (w.freeze ⟨g, 0, none⟩ s.size) := by
 have hl : s.data.toList.length = s.size := by simp
 have hb : (Lib.byteCells s.data.toList).length = s.size := by rw [Lib.byteCells_length, hl]
 have hne : s.data.toList ≠ [] := fun e => h0 (by rw [← hl, e]; rfl)
 have := Lib.run_unsafeString_row (P := Tryz.prog) w 162 3 9 5 Tryz.underlying162 hc g s.size (by unfold World.shape?; rw [h]; simp [hb]) s.data.toList hne (by omega) (by omega) (by
  intro j x hx
  have hj : j < s.data.toList.length := (List.getElem?_eq_some_iff.1 hx).1
  rw [Addr.add_lit]
  simp only [World.cell?, h, Nat.zero_add]
  simp [Lib.byteCells, hx])
 rwa [hl] at this
theorem ZBO (s : ByteArray) (w : World) (hlim : s.size ≤ 1099511627776) :
  Calls Tryz.prog 108 #[.string s] w fun e w' => e = .returned (.string s) ∧ Below w.heap.size w w' := by
 by_cases h0 : s.size = 0
 ·obtain rfl : s = ByteArray.empty := by simpa using h0
  go_enter Tryz.func108, Tryz.ntmps108
  go_wp2
  go_ret
  exact ⟨rfl, Below.refl _ _⟩
 ·obtain ⟨i0, hi, hz0, hz1, hz2⟩ := info_parts Tryz.info5
  have hinfo : (Tryz.prog.info? 5).map (·.size) = some 1 := by rw [hi]; simp [hz1]
  have hco : Tryz.prog.cellsOf 5 = 1 := by simp [Program.cellsOf, hi, hz1]
  have h0b : ((s.size : Int) == 0) = false := beq_eq_false_iff_ne.2 (by omega)
  have hpos : (0 : Int) < (s.size : Int) := by omega
  have H0 := hid h0
  clear h0
  go_enter Tryz.func108, Tryz.ntmps108
  go_wp2_with (at_make; refine wpList_make_full _ rfl _ _ 99 rfl w.heap.size 5 i0 (.int .u8 0) 1 Tryz.underlying99 hi hz0 hz1 _ _ _ _ s.size rfl rfl rfl rfl (by rw [hz2]; omega) (by unfold maxLen; omega) nL ?_)
  intro w1 hown hgrow
  obtain ⟨L, hL, hG⟩ := own_row hown
  have hB1 : Below w.heap.size w w1 := (bR _ _).grown hgrow nL (fun k h => by cases h)
  have HL := hid hL
  have HG := hid hG
  have HCO := hid hco
  clear hown hgrow hi hz0 hz1 hz2 hL hG i0 hco
  go_wp2_with (refine ZDE rfl (.tmp 10) (.tmp 11) 99 9 rfl 5 Tryz.underlying99 hinfo _ _ _ rfl s rfl w.heap.size 0 L 5 HG.out (by omega) (fun _ => rfl) (by have := HL.out; omega) w.heap.size w hB1 nL ?_; intro w2 HG2 hB2; have hus := ZDV H0.out (by omega) HCO.out (row_one HL.out HG2.out))
  go_ret
  exact ⟨rfl, Lib.below_freeze hB2 (p := ⟨w.heap.size, 0, none⟩) nL _⟩
theorem ZA1 (s : ByteArray) (w : World) (hlim : s.size ≤ 1099511627776) :
  Calls Tryz.prog 89 #[.string s] w fun e w' => e = .returned (.string s) ∧ Below w.heap.size w w' := by
 go_enter Tryz.func89, Tryz.ntmps89
 go_wp2_with (go_at_call 108; refine (ZBO s _ hlim).mono ?_; rintro e w1 ⟨rfl, hb⟩)
 go_ret
 exact ⟨rfl, hb⟩
end Go.Proofs.YtookchpdbilbcaaGreatDoor
