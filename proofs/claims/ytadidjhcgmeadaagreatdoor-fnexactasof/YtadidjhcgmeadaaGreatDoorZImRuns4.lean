/-
  Texts put together: ImRuns, ImRis, EvAr, EvSz.
-/
import Derived.Test.YtadidjhcgmeadaaGreatDoorZEvT5
import Derived.Test.YtadidjhcgmeadaaGreatDoorZItrE4
import Derived.Test.YtadidjhcgmeadaaGreatDoorZImTold2
import Derived.Test.YtadidjhcgmeadaaGreatDoorZDfMath4
import Derived.Sort.OwnSortedInts
import Derived.Lib.OwnBridge
import Derived.Test.YtadidjhcgmeadaaGreatDoorZEvI4
/-
  What impl.runsOf answers: the runs of the events, rising: a contract over the seat's program.
-/
namespace Go.Proofs.YtadidjhcgmeadaaGreatDoor
open Go.RowKit Go.Sort

theorem Tryz.infoInt : (Tryz.prog.info? 2).map (fun i => (i.zero, i.size, i.bytes)) = some (some (.int .i64 0), 1, 8) := by kernel_rfl
def runC (es : List Ev) : List Value := (es.map Ev.run).map (Value.int .i64)
theorem runs_take {es : List Ev} {k : Nat} (h : k < es.length) : runC (es.take (k + 1)) = runC (es.take k) ++ [.int .i64 es[k].run] := by
  unfold runC
  rw [List.take_succ_eq_append_getElem h, List.map_append, List.map_append]; rfl
theorem int_new_cell (V : World) (x : Int) (T : TypeId) : ∀ j u, [Value.int .i64 x][j]? = some u → (V.alloc (.cells #[.int .i64 x] T)).cell? ((⟨V.heap.size, 0, none⟩ : Addr).add j) = some u := by
  intro j u hj
  rw [Addr.add_lit, Lib.cell_of_heap (heap_alloc_new _ _), Nat.zero_add, ← hj]
  simp
theorem intSl_own {w : World} {base n : Nat} {e : TypeId} {v : Value} {rs : List Int} (h : w.ownsRow base e 1 v n (rs.map (Value.int .i64))) : IntSl w v rs := by
  by_cases hv : v = .slice none 0 0
  · subst hv
    rcases h.2 with ⟨_, h0⟩ | ⟨g, cap, cur, hv, _⟩
    · exact .inl ⟨none, 0, rfl, List.eq_nil_of_length_eq_zero (by have := h.1; simp at this; omega)⟩
    · cases hv
  · obtain ⟨g, cap, rfl, _, hg, _, _, hl, hH⟩ := Lib.holds_of_ownsRow h hv
    subst hl
    refine .inr ⟨g, 0, cap, rfl, hg, fun i hi => ?_⟩
    have := (hH i (by simpa using hi)).1
    rw [getElem!_pos rs.toArray i (by simpa using hi)] at this
    simpa using this

set_option maxRecDepth 100000 in
set_option maxHeartbeats 2000000 in
theorem runsOf_none (a : Option Addr) (c : Nat) (w : World) :
    Calls Tryz.prog 46 #[.slice a 0 c] w fun e w' => ∃ v rs, e = .returned v ∧ IsRuns [] rs ∧ IntSl w' v rs ∧ Below w.heap.size w w' := by
  have cS : Calls Tryz.prog 82 #[.slice none 0 0] w fun e w' => e = .returned (.tuple #[]) ∧ w' = w := AnyM.slices_Sort_int_none Shr.sortI none 0 w
  go_enter Tryz.func46, Tryz.ntmps46
  go_wp2
  go_loop [3, 8] (fun v i => v = .slice none 0 0 ∧ i = .int .i64 0) (fun _ _ => 0)
  case atStart => exact ⟨rfl, rfl⟩
  case round =>
    obtain ⟨rfl, rfl⟩ := hrel
    go_wp2_with fail
    refine cS.mono ?_
    rintro e w1 ⟨rfl, rfl⟩
    go_wp2
    go_ret
    exact ⟨_, [], rfl, isRuns_nil, .inl ⟨_, _, rfl, rfl⟩, Below.refl _ _⟩
set_option maxRecDepth 100000 in
set_option maxHeartbeats 4000000 in
theorem runsOf_row (g o c : Nat) (es : List Ev) (w : World) (hE : EvsAt w g o es) (h0 : 0 < es.length) (hn : es.length ≤ 1048576) :
    Calls Tryz.prog 46 #[.slice (some ⟨g, o, none⟩) es.length c] w fun e w' => ∃ v rs, e = .returned v ∧ IsRuns es rs ∧ IntSl w' v rs ∧ Below w.heap.size w w' := by
  have HE := hid hE
  clear hE
  obtain ⟨i0, hi, hz0, hz1, hz2⟩ := info_parts Tryz.infoInt
  go_enter Tryz.func46, Tryz.ntmps46
  go_wp2
  go_loopw [3, 8] (fun v i wr => ∃ k : Nat, k ≤ es.length ∧ i = .int .i64 k ∧ wr.ownsRow w.heap.size 2 1 v k (runC (es.take k)) ∧ Below w.heap.size w wr) (fun _ i _ => es.length - (intOf i).toNat)
  case atStart => exact ⟨0, Nat.zero_le _, rfl, World.ownsRow_nil _ _ _ _, Below.refl _ _⟩
  case round =>
    obtain ⟨k, hk, rfl, hown, hbel⟩ := hrel
    have HO := hid hown
    have HB := hid hbel
    have hzr := hbel.size
    clear hown hbel
    by_cases hlt : k < es.length
    · obtain ⟨c0, c1, c2, c3, c4, c5⟩ := (HE.out.stay HB.out (Nat.le_refl _)).2 k hlt
      have HF := hid (runs_take hlt)
      go_wp2_with (first | (at_builtin; refine wpList_append_own _ rfl _ _ 79 rfl w.heap.size 2 i0 _ 1 8 Tryz.underlying79 hi hz0 hz1 hz2 rfl (by decide) _ _ _ rfl ((HO.out.alloc _).alloc _) ⟨wr.heap.size + 1, 0, none⟩ 1 1 [.int .i64 es[k].run] rfl rfl ?c1 ?c2 ?c3 ?c4 ?c5 ?_) | fail)
      case c1 =>
        have h := int_new_cell (wr.alloc (.cells #[.int .i64 es[k].seq, .int .i64 es[k].time, .int .i64 es[k].run, .int .i64 es[k].kind, .string es[k].step, .string es[k].val] 76)) es[k].run 2
        rw [World.size_alloc] at h
        exact h
      case c2 => simp [Value.oneCell']
      case c3 => unfold maxLen; omega
      case c4 => omega
      case c5 => simp; omega
      intro v' w1 ho hg _
      have HBL := hid ((((HB.out.alloc hzr _).alloc (by simp; omega) _).grown hg (by simp; omega) (fun j e => (HO.out.lt j e).1)))
      have HO1 := hid ho
      clear ho hg c0 c1 c2 c3 c4 c5
      go_wp2
      go_roundw
      case rel => exact ⟨k + 1, by omega, by go_num, by rw [HF.out]; exact HO1.out, HBL.out⟩
      case measure => simp [intOf]; omega
    · obtain rfl : k = es.length := by omega
      have hO := HO.out
      rw [List.take_length] at hO
      unfold runC at hO
      obtain ⟨va, vc, hv⟩ := ownB_form hO
      have hne : u3 ≠ .slice none 0 0 := by rw [hv]; intro e; injection e with _ e _; omega
      obtain ⟨g', cap, rfl, hbg, hgl, hnc, hcm, hl, hH⟩ := Lib.holds_of_ownsRow hO hne
      clear hv hne va vc
      obtain ⟨zs, hzs⟩ : ∃ zs, es.map Ev.run = zs := ⟨_, rfl⟩
      have HIR := hid (runs_sorted es)
      rw [hzs] at hO hH hl HIR
      have hle : es.length = zs.length := hl.symm
      rcases hO.2 with ⟨h1, _⟩ | ⟨g'', cap', cur, h1, h2, h3, h4, h5, h6, h7⟩
      · cases h1
      · obtain ⟨rfl, rfl⟩ : g' = g'' ∧ cap = cap' := by injection h1 with q1 _ q3; injection q1 with q1; injection q1 with q1; exact ⟨q1, q3⟩
        have cS : Calls Tryz.prog 82 #[.slice (some ⟨g', 0, none⟩) es.length cap] wr _ := hle ▸ AnyM.slices_Sort_int Shr.sortI g' 0 cap zs wr hH hgl (by omega)
        have HOS := hid (fun n os => ownsRow_sortedI (w := wr) (base := w.heap.size) (g := g') (cap := cap) (n := n) (e := 2) (os := os) (cur := cur) (ss := zs) (ts := zs.mergeSort fun x y => decide (x ≤ y)) (by simp) hbg h3 (by omega) h5 h6)
        have HGS := hid (fun n os => grownBy_sortedI (w := wr) (g := g') (n := n) (os := os) (zs.mergeSort fun x y => decide (x ≤ y)).toArray)
        have hln : (zs.mergeSort fun x y => decide (x ≤ y)).length = es.length := by rw [List.length_mergeSort]; omega
        have HLN := hid hln
        have HLE := hid hle
        have HNC := hid hnc
        have HCM := hid hcm
        clear hO hH h1 h3 h7 h4 h6 h2 HO HE hzs hln hl hle hnc hcm h5
        generalize hss : (zs.mergeSort fun x y => decide (x ≤ y)) = ss at *
        clear hss
        go_wp2_with fail
        refine cS.mono ?_
        rintro e w1 ⟨rfl, n, os, rfl⟩
        have HO1 := hid (HOS.out n os)
        have HB1 := hid (HB.out.grown (HGS.out n os) hzr (fun k e => by cases e; exact hbg))
        generalize grow (putRow (Value.int .i64) (Sort.ahead wr n) g' 0 ss.toArray) os = W1 at *
        have hO1 := HO1.out
        rw [← HLE.out] at hO1
        obtain ⟨g2, cap2, hv2, _, hgl1, _, _, _, hH1⟩ := Lib.holds_of_ownsRow hO1 (by intro e; cases e)
        obtain ⟨rfl, rfl⟩ : g' = g2 ∧ cap = cap2 := by injection hv2 with q1 _ q3; injection q1 with q1; injection q1 with q1; exact ⟨q1, q3⟩
        have hsz : ss.toArray.size = es.length := by have := HLN.out; simpa using this
        have hcl : (Lib.compactUpTo ss.toArray ss.toArray.size).length ≤ es.length := by
          unfold Lib.compactUpTo
          rw [List.length_map]
          refine Nat.le_trans (List.length_filter_le _ _) ?_
          rw [List.length_range]
          omega
        have cC := AnyE.slices_Compact Shr.compI (Value.int .i64) (fun _ => rfl) (EqlAt.intD _ _ _) (NeqAt.intD _ _ _) 0 Tryz.zeroValue2 g' 0 cap ss.toArray W1 hH1 (by omega) (by have := HNC.out; omega)
        change Calls Tryz.prog 83 _ _ _ at cC
        rw [hsz] at cC hcl HIR
        have HO2 := hid (fun q => Lib.ownsRow_putRow (q := q) (k := (Lib.compactUpTo ss.toArray es.length).length) (ys := Lib.compactUpTo ss.toArray es.length ++ List.replicate (es.length - (Lib.compactUpTo ss.toArray es.length).length) 0) hO1 (by simp; omega) hcl)
        have HB2 := hid (fun q => Lib.below_putRow (enc := Value.int .i64) (q := q) (d := (Lib.compactUpTo ss.toArray es.length ++ List.replicate (es.length - (Lib.compactUpTo ss.toArray es.length).length) 0).toArray) HB1.out hbg)
        generalize Lib.compactUpTo ss.toArray es.length = cs at *
        have HCL := hid hcl
        have q1 : (0 : Int) ≤ (cs.length : Int) := by omega
        have q2 : (cs.length : Int) ≤ (cap : Int) := by have := HNC.out; omega
        clear hO1 hH1 hv2 hsz hcl cS HOS HGS HO1 HB1
        go_wp2_with fail
        refine cC.mono ?_
        rintro e w2 ⟨rfl, q, rfl⟩
        have hO2 := HO2.out q
        rw [List.take_left' rfl] at hO2
        have HS := hid (intSl_own hO2)
        have HBB := hid (HB2.out q)
        generalize putRow (Value.int .i64) (Sort.ahead W1 q) g' 0 (cs ++ List.replicate (es.length - cs.length) 0).toArray = W2 at *
        clear hO2 cC
        go_wp2
        go_ret
        refine ⟨_, cs, rfl, HIR.out, ?_, HBB.out⟩
        rcases HS.out with ⟨a, c, h1, h2⟩ | ⟨g3, o3, c3, h1, h2, h3⟩
        · exact .inl ⟨_, _, by rw [h2]; rfl, h2⟩
        · cases h1
          exact .inr ⟨_, _, _, rfl, h2, h3⟩
theorem runsOf_any (a : Option Addr) (c : Nat) (es : List Ev) (w : World) (hE : EvSl w (.slice a es.length c) es) (hn : es.length ≤ 1048576) :
    Calls Tryz.prog 46 #[.slice a es.length c] w fun e w' => ∃ v rs, e = .returned v ∧ IsRuns es rs ∧ IntSl w' v rs ∧ Below w.heap.size w w' := by
  by_cases h0 : 0 < es.length
  · obtain ⟨g, o, rfl, hQ⟩ := hE.row h0
    exact runsOf_row g o c es w hQ h0 hn
  · obtain rfl : es = [] := List.eq_nil_of_length_eq_zero (by omega)
    exact runsOf_none a c w
end Go.Proofs.YtadidjhcgmeadaaGreatDoor

/-
  What impl.risingSeqs answers: a contract over the seat's program.
-/
namespace Go.Proofs.YtadidjhcgmeadaaGreatDoor
open Go.RowKit Go.Sort

set_option maxRecDepth 100000 in
set_option maxHeartbeats 2000000 in
theorem risingSeqs_any (a : Option Addr) (c : Nat) (es : List Ev) (w : World) (hE : EvSl w (.slice a es.length c) es) (hn : es.length ≤ maxLen) :
    Calls Tryz.prog 45 #[.slice a es.length c] w fun e w' => RetB e (RiseP es) ∧ Below w.heap.size w w' := by
  unfold maxLen at hn
  have HE := hid hE
  clear hE
  go_enter Tryz.func45, Tryz.ntmps45
  go_wp2
  go_loopw [3] (fun i wr => ∃ k : Nat, (k ≤ es.length ∨ k = 1) ∧ 1 ≤ k ∧ i = .int .i64 k ∧ (∀ j, (h : j + 1 < es.length) → j + 1 < k → es[j].seq < es[j + 1].seq) ∧ Below w.heap.size w wr) (fun i _ => es.length - (intOf i).toNat)
  case atStart => exact ⟨1, .inr rfl, Nat.le_refl _, rfl, fun j _ hj => absurd hj (by omega), Below.refl _ _⟩
  case round =>
    obtain ⟨k, hk, hk1, rfl, hall, hbel⟩ := hrel
    have HA := hid hall
    have HB := hid hbel
    clear hall hbel
    by_cases hlt : k < es.length
    · obtain ⟨g, o, rfl, hQ⟩ := HE.out.row (by omega)
      obtain ⟨m, rfl⟩ : ∃ m, k = m + 1 := ⟨k - 1, by omega⟩
      have hQr := hQ.stay HB.out (Nat.le_refl _)
      have c0 := (hQr.2 (m + 1) hlt).c0
      have c1 := (hQr.2 m (by omega)).c0
      have hz := HB.out.size
      have d0 : wr.drew.cell? ⟨g, o + (m + 1) * 6, none⟩ = some (.int .i64 es[m + 1].seq) := c0
      have d1 : wr.drew.cell? ⟨g, o + m * 6, none⟩ = some (.int .i64 es[m].seq) := c1
      have e1 : (((m + 1 : Nat) : Int) - 1) = (m : Int) := by omega
      have HS := hid (show ∀ h : es[m].seq < es[m + 1].seq, ∀ j, (hj : j + 1 < es.length) → j + 1 < m + 1 + 1 → es[j].seq < es[j + 1].seq from fun h j hj hjk => by
        by_cases e : j = m
        · subst e; exact h
        · exact HA.out j hj (by omega))
      have HN := hid (show ∀ h : es[m + 1].seq ≤ es[m].seq, ¬ RiseP es from fun h hr => by have := hr m hlt; omega)
      clear hQ hQr HE c0 c1
      generalize es[m + 1].seq = s1 at *
      generalize es[m].seq = s0 at *
      by_cases hle : s1 ≤ s0
      · go_wp2_with fail
        go_region
        go_wp2
        go_ret
        exact ⟨retB_f (HN.out hle), HB.out.drew⟩
      · go_wp2_with fail
        go_region
        go_wp2
        go_roundw
        case rel => exact ⟨m + 1 + 1, .inl (by omega), by omega, by go_num, HS.out (by omega), HB.out.drew⟩
        case measure => simp [intOf]; omega
    · go_wp2
      go_ret
      exact ⟨retB_t (fun j hj => HA.out j hj (by omega)), HB.out⟩
end Go.Proofs.YtadidjhcgmeadaaGreatDoor

/-
  What laws.szEvent and laws.toEvent answer, for every event: contracts over the seat's program.
-/
namespace Go.Proofs.YtadidjhcgmeadaaGreatDoor
open Go.RowKit

theorem szEvent_any (q t r k : Int) (s v : ByteArray) (left : Int) (w : World) (h0 : 0 ≤ left) (h1 : left ≤ 1048576) (hs : s.size ≤ maxLen) (hv : v.size ≤ maxLen) :
    Calls Tryz.prog 38 #[.agg #[.int .i64 q, .int .i64 t, .int .i64 r, .int .i64 k, .string s, .string v], .int .i64 left] w fun e w' =>
      e = .returned (.int .i64 (if (s.size : Int) + (v.size : Int) ≤ left then left - (s.size : Int) - (v.size : Int) else -1)) ∧ Below w.heap.size w w' := by
  unfold maxLen at hs hv
  by_cases hz : (s.size : Int) + (v.size : Int) ≤ left
  · rw [if_pos hz]
    go_enter Tryz.func38, Tryz.ntmps38
    go_wp2
    go_ret
    exact ⟨rfl, (Below.refl _ _).alloc (Nat.le_refl _) _⟩
  · rw [if_neg hz]
    by_cases hz2 : (s.size : Int) ≤ left
    · go_enter Tryz.func38, Tryz.ntmps38
      go_wp2
      go_ret
      exact ⟨rfl, (Below.refl _ _).alloc (Nat.le_refl _) _⟩
    · go_enter Tryz.func38, Tryz.ntmps38
      go_wp2
      go_ret
      exact ⟨rfl, (Below.refl _ _).alloc (Nat.le_refl _) _⟩

set_option maxRecDepth 100000 in
theorem toEvent_any (q t r k : Int) (s v : ByteArray) (w : World) :
    Calls Tryz.prog 43 #[.agg #[.int .i64 q, .int .i64 t, .int .i64 r, .int .i64 k, .string s, .string v]] w fun e w' =>
      e = .returned (.agg #[.int .i64 q, .int .i64 t, .int .i64 r, .int .i64 k, .string s, .string v]) ∧ Below w.heap.size w w' := by
  go_enter Tryz.func43, Tryz.ntmps43
  go_wp2
  exact bodyPost_ret (v := .agg #[.int .i64 q, .int .i64 t, .int .i64 r, .int .i64 k, .string s, .string v]) (by simp [results, Tryz.results43, go_sem]) rfl ⟨rfl, (below2 _ _ _).alloc (by simp; omega) _⟩
end Go.Proofs.YtadidjhcgmeadaaGreatDoor

/-
  What laws.szEventS answers: how much is left behind so many events and their texts: a contract over the seat's program.
-/
namespace Go.Proofs.YtadidjhcgmeadaaGreatDoor
open Go.RowKit

def sumE : List Ev → Nat
  | [] => 0
  | e :: r => e.step.size + e.val.size + sumE r
theorem sumE_append (a b : List Ev) : sumE (a ++ b) = sumE a + sumE b := by
  induction a with
  | nil => simp [sumE]
  | cons e r ih => simp [sumE, ih]; omega
theorem sumE_take {es : List Ev} {k : Nat} (h : k < es.length) : sumE (es.take (k + 1)) = sumE (es.take k) + (es[k].step.size + es[k].val.size) := by
  rw [List.take_succ_eq_append_getElem h, sumE_append]; simp [sumE]
theorem sumE_le (es : List Ev) (k : Nat) : sumE (es.take k) ≤ sumE es := by
  have := sumE_append (es.take k) (es.drop k)
  rw [List.take_append_drop] at this; omega

/-- What is left. -/
def szR (left : Int) (es : List Ev) : Int := if (es.length : Int) + (sumE es : Int) ≤ left then left - (es.length : Int) - (sumE es : Int) else -1
theorem szR_yes {left : Int} {es : List Ev} (h : (es.length : Int) + (sumE es : Int) ≤ left) : szR left es = left - (es.length : Int) - (sumE es : Int) := if_pos h
theorem szR_no {left : Int} {es : List Ev} (h : left < (es.length : Int) + (sumE es : Int)) : szR left es = -1 := if_neg (by omega)
set_option maxRecDepth 100000 in
theorem szEventS_row (g o c : Nat) (es : List Ev) (left : Int) (w : World) (hE : EvsAt w g o es) (hF : Fit es) (h0 : 0 ≤ left) (h1 : left ≤ 1048576) (hn : es.length ≤ maxLen) :
    Calls Tryz.prog 9 #[.slice (some ⟨g, o, none⟩) es.length c, .int .i64 left] w fun e w' =>
      e = .returned (.int .i64 (szR left es)) ∧ Below w.heap.size w w' := by
  unfold maxLen at hn
  by_cases hz : (es.length : Int) ≤ left
  · have HE := hid hE
    clear hE
    go_enter Tryz.func9, Tryz.ntmps9
    go_wp2
    go_loopw [1, 5] (fun l i wr => ∃ k : Nat, k ≤ es.length ∧ i = .int .i64 k ∧ l = .int .i64 (left - (es.length : Int) - (sumE (es.take k) : Int)) ∧ 0 ≤ left - (es.length : Int) - (sumE (es.take k) : Int) ∧ Below w.heap.size w wr) (fun _ i _ => es.length - (intOf i).toNat)
    case atStart => exact ⟨0, Nat.zero_le _, rfl, by simp [sumE], by simp [sumE]; omega, Below.refl _ _⟩
    case round =>
      obtain ⟨k, hk, rfl, rfl, hl, hbel⟩ := hrel
      by_cases hlt : k < es.length
      · have hA := (HE.out.stay hbel (Nat.le_refl _)).2 k hlt
        obtain ⟨c0, c1, c2, c3, c4, c5⟩ := hA
        have hst := hid (sumE_take hlt)
        have hf := hF k hlt
        generalize es[k].seq = q0 at *
        generalize es[k].time = q1 at *
        generalize es[k].run = q2 at *
        generalize es[k].kind = q3 at *
        generalize es[k].step = q4 at *
        generalize es[k].val = q5 at *
        generalize hL : left - (es.length : Int) - (sumE (es.take k) : Int) = L at *
        have HL := hid hL
        have cz := fun w => szEvent_any q0 q1 q2 q3 q4 q5 L w hl (by omega) hf.1 hf.2
        clear hL hf
        by_cases hzz : (q4.size : Int) + (q5.size : Int) ≤ L
        · rw [if_pos hzz] at cz
          have hL0 : (0 : Int) ≤ L - (q4.size : Int) - (q5.size : Int) := by omega
          have hL1 : left - (es.length : Int) - (sumE (es.take (k + 1)) : Int) = L - (q4.size : Int) - (q5.size : Int) := by have := hst.out; have := HL.out; omega
          have HL1 := hid hL1
          clear hzz hL1
          generalize L - (q4.size : Int) - (q5.size : Int) = L2 at *
          go_wp2_with fail
          refine (cz _).mono ?_
          rintro e w1 ⟨rfl, hb1⟩
          have hbel1 := hbel.trans (hb1.mono hbel.size)
          clear c0 c1 c2 c3 c4 c5 hb1 cz
          go_wp2
          go_roundw
          case rel => exact ⟨k + 1, by omega, by go_num, by rw [HL1.out], by rw [HL1.out]; exact hL0, hbel1⟩
          case measure => simp [intOf]; omega
        · rw [if_neg hzz] at cz
          have hfin : szR left es = -1 := szR_no (by have := hst.out; have := HL.out; have := sumE_le es (k + 1); omega)
          have HF := hid hfin
          clear hzz hfin
          go_wp2_with fail
          refine (cz _).mono ?_
          rintro e w1 ⟨rfl, hb1⟩
          have hbel1 := hbel.trans (hb1.mono hbel.size)
          clear c0 c1 c2 c3 c4 c5 hb1 cz
          go_wp2
          go_ret
          exact ⟨by rw [HF.out]; rfl, hbel1⟩
      · have hk' : k = es.length := by omega
        have hT : es.take k = es := List.take_of_length_le (by omega)
        rw [hT] at hl
        have HT := hid hT
        have hfin := szR_yes (left := left) (es := es) (by omega)
        have HF := hid hfin
        clear hk' hT hfin
        go_wp2
        go_ret
        exact ⟨ret_int (by rw [HF.out, HT.out]), hbel⟩
  · have hfin := szR_no (left := left) (es := es) (by omega)
    have HF := hid hfin
    clear hfin hE
    go_enter Tryz.func9, Tryz.ntmps9
    go_wp2
    go_ret
    exact ⟨by rw [HF.out]; rfl, Below.refl _ _⟩
theorem szEventS_none (a : Option Addr) (c : Nat) (left : Int) (w : World) (h0 : 0 ≤ left) (h1 : left ≤ 1048576) :
    Calls Tryz.prog 9 #[.slice a 0 c, .int .i64 left] w fun e w' => e = .returned (.int .i64 left) ∧ w' = w := by
  go_enter Tryz.func9, Tryz.ntmps9
  go_wp2
  go_loop [1, 5] (fun l i => l = .int .i64 left ∧ i = .int .i64 0) (fun _ _ => 0)
  case atStart => exact ⟨rfl, rfl⟩
  case round =>
    obtain ⟨rfl, rfl⟩ := hrel
    go_wp2
    go_ret
    exact ⟨rfl, rfl⟩
end Go.Proofs.YtadidjhcgmeadaaGreatDoor
