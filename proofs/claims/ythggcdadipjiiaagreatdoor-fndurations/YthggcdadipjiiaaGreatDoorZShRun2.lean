/-
  Texts put together: ShRun, ImRuns.
-/
import Derived.Test.YthggcdadipjiiaaGreatDoorRows
import Derived.Shelf.SortM.Plain
import Derived.Shelf.SortM.SortNone
import Derived.Shelf.SlicesE.Compact
import Derived.Test.YthggcdadipjiiaaGreatDoorZNm4
import Derived.Test.YthggcdadipjiiaaGreatDoorZImTold2
import Derived.Test.YthggcdadipjiiaaGreatDoorZEvT5
import Derived.Sort.OwnSortedInts
import Derived.Lib.OwnBridge
/-
  The library's contracts (the shelf's), laid at the seat's program.
-/
namespace Go.Proofs.YthggcdadipjiiaaGreatDoor.Shr
open Go.Shelf Go.RowKit
def sortI_ren : Ren := ⟨fun | 5 => 57 | 8 => 88 | 7 => 87 | 19 => 117 | 20 => 118 | 10 => 108 | 11 => 109 | 12 => 110 | 13 => 111 | 14 => 112 | 15 => 113 | 16 => 114 | 17 => 115 | 18 => 116 | 30 => 139 | 31 => 140 | 32 => 141 | 33 => 142 | 34 => 143 | 35 => 144 | 40 => 162 | n => n, fun | 23 => 56 | 25 => 2 | 3 => 3 | 32 => 119 | 22 => 56 | 0 => 0 | 44 => 158 | 46 => 83 | 4 => 4 | 36 => 150 | 35 => 149 | 41 => 155 | 5 => 5 | 9 => 9 | 53 => 178 | 57 => 182 | 63 => 193 | 64 => 194 | n => n, fun | n => n⟩
theorem sortI : Go.Proofs.SlLaysM.n5 Tryz.prog sortI_ren := {
  mixed := by kernel_rfl
  f5 := ⟨Tryz.f57.name, by decide, Tryz.func57.trans (congrArg some (by kernel_rfl))⟩
  f7 := ⟨Tryz.f87.name, by decide, Tryz.func87.trans (congrArg some (by kernel_rfl))⟩
  f8 := Tryz.func88.trans (congrArg some (by kernel_rfl))
  f10 := ⟨Tryz.f108.name, by decide, Tryz.func108.trans (congrArg some (by kernel_rfl))⟩
  f11 := ⟨Tryz.f109.name, by decide, Tryz.func109.trans (congrArg some (by kernel_rfl))⟩
  f12 := ⟨Tryz.f110.name, by decide, Tryz.func110.trans (congrArg some (by kernel_rfl))⟩
  f13 := ⟨Tryz.f111.name, by decide, Tryz.func111.trans (congrArg some (by kernel_rfl))⟩
  f14 := ⟨Tryz.f112.name, by decide, Tryz.func112.trans (congrArg some (by kernel_rfl))⟩
  f15 := ⟨Tryz.f113.name, by decide, Tryz.func113.trans (congrArg some (by kernel_rfl))⟩
  f16 := ⟨Tryz.f114.name, by decide, Tryz.func114.trans (congrArg some (by kernel_rfl))⟩
  f17 := ⟨Tryz.f115.name, by decide, Tryz.func115.trans (congrArg some (by kernel_rfl))⟩
  f18 := ⟨Tryz.f116.name, by decide, Tryz.func116.trans (congrArg some (by kernel_rfl))⟩
  f19 := Tryz.func117.trans (congrArg some (by kernel_rfl))
  f20 := Tryz.func118.trans (congrArg some (by kernel_rfl))
  f30 := ⟨Tryz.f139.name, by decide, Tryz.func139.trans (congrArg some (by kernel_rfl))⟩
  f31 := Tryz.func140.trans (congrArg some (by kernel_rfl))
  f32 := Tryz.func141.trans (congrArg some (by kernel_rfl))
  f33 := ⟨Tryz.f142.name, by decide, Tryz.func142.trans (congrArg some (by kernel_rfl))⟩
  f34 := ⟨Tryz.f143.name, by decide, Tryz.func143.trans (congrArg some (by kernel_rfl))⟩
  f35 := ⟨Tryz.f144.name, by decide, Tryz.func144.trans (congrArg some (by kernel_rfl))⟩
  f40 := ⟨Tryz.f162.name, by decide, Tryz.func162.trans (congrArg some (by kernel_rfl))⟩
  t0 := Tryz.underlying0
  a0 := Tryz.isAgg0
  z0 := Tryz.sizeOf0
  v0 := Tryz.zeroValue0
  t3 := Tryz.underlying3
  a3 := Tryz.isAgg3
  z3 := Tryz.sizeOf3
  v3 := Tryz.zeroValue3
  t4 := Tryz.underlying4
  a4 := Tryz.isAgg4
  z4 := Tryz.sizeOf4
  v4 := Tryz.zeroValue4
  t5 := Tryz.underlying5
  a5 := Tryz.isAgg5
  z5 := Tryz.sizeOf5
  v5 := Tryz.zeroValue5
  t9 := Tryz.underlying9
  a9 := Tryz.isAgg9
  z9 := Tryz.sizeOf9
  v9 := Tryz.zeroValue9
  t22 := Tryz.underlying56
  a22 := Tryz.isAgg56
  z22 := Tryz.sizeOf56
  v22 := Tryz.zeroValue56
  t23 := Tryz.underlying56
  a23 := Tryz.isAgg56
  z23 := Tryz.sizeOf56
  v23 := Tryz.zeroValue56
  t25 := Tryz.underlying2
  a25 := Tryz.isAgg2
  z25 := Tryz.sizeOf2
  v25 := Tryz.zeroValue2
  t32 := Tryz.underlying119
  a32 := Tryz.isAgg119
  z32 := Tryz.sizeOf119
  v32 := Tryz.zeroValue119
  t35 := Tryz.underlying149
  a35 := Tryz.isAgg149
  z35 := Tryz.sizeOf149
  v35 := Tryz.zeroValue149
  t36 := Tryz.underlying150
  a36 := Tryz.isAgg150
  z36 := Tryz.sizeOf150
  v36 := Tryz.zeroValue150
  t41 := Tryz.underlying155
  a41 := Tryz.isAgg155
  z41 := Tryz.sizeOf155
  v41 := Tryz.zeroValue155
  t44 := Tryz.underlying158
  a44 := Tryz.isAgg158
  z44 := Tryz.sizeOf158
  v44 := Tryz.zeroValue158
  t46 := Tryz.underlying83
  a46 := Tryz.isAgg83
  z46 := Tryz.sizeOf83
  v46 := Tryz.zeroValue83
  t53 := Tryz.underlying178
  a53 := Tryz.isAgg178
  z53 := Tryz.sizeOf178
  v53 := Tryz.zeroValue178
  t57 := Tryz.underlying182
  a57 := Tryz.isAgg182
  z57 := Tryz.sizeOf182
  v57 := Tryz.zeroValue182
  t63 := Tryz.underlying193
  a63 := Tryz.isAgg193
  z63 := Tryz.sizeOf193
  v63 := Tryz.zeroValue193
  t64 := Tryz.underlying194
  a64 := Tryz.isAgg194
  z64 := Tryz.sizeOf194
  v64 := Tryz.zeroValue194 }
def compI_ren : Ren := ⟨fun | 43 => 58 | n => n, fun | 22 => 56 | 23 => 2 | 3 => 3 | 4 => 4 | 0 => 0 | n => n, fun | n => n⟩
theorem compI : Go.Proofs.SlLaysE.n43 Tryz.prog compI_ren := {
  mixed := by kernel_rfl
  f43 := ⟨Tryz.f58.name, by decide, Tryz.func58.trans (congrArg some (by kernel_rfl))⟩
  t0 := Tryz.underlying0
  a0 := Tryz.isAgg0
  z0 := Tryz.sizeOf0
  v0 := Tryz.zeroValue0
  t3 := Tryz.underlying3
  a3 := Tryz.isAgg3
  z3 := Tryz.sizeOf3
  v3 := Tryz.zeroValue3
  t4 := Tryz.underlying4
  a4 := Tryz.isAgg4
  z4 := Tryz.sizeOf4
  v4 := Tryz.zeroValue4
  t22 := Tryz.underlying56
  a22 := Tryz.isAgg56
  z22 := Tryz.sizeOf56
  v22 := Tryz.zeroValue56
  a23 := Tryz.isAgg2
  z23 := Tryz.sizeOf2 }
end Go.Proofs.YthggcdadipjiiaaGreatDoor.Shr

/-
  What impl.runsOf answers: the runs of the events, rising: a contract over the seat's program.
-/
namespace Go.Proofs.YthggcdadipjiiaaGreatDoor
open Go.RowKit Go.Sort

theorem Tryz.infoInt : (Tryz.prog.info? 2).map (fun i => (i.zero, i.size, i.bytes)) = some (some (.int .i64 0), 1, 8) := by kernel_rfl
def runC (es : List Ev) : List Value := (es.map Ev.run).map (Value.int .i64)
theorem runs_take {es : List Ev} {k : Nat} (h : k < es.length) : runC (es.take (k + 1)) = runC (es.take k) ++ [.int .i64 es[k].run] := by
  unfold runC
  rw [List.take_succ_eq_append_getElem h, List.map_append, List.map_append]; rfl
theorem int_new_cell (V : World) (x : Int) (T : TypeId) : ∀ j u, [Value.int .i64 x][j]? = some u → (V.alloc (.cells #[.int .i64 x] T)).cell? ((⟨V.heap.size, 0, none⟩ : Addr).add j) = some u := by
  intro j u hj
  rw [Addr.add_lit, Lib.cell_of_heap (heap_alloc_new _ _), Nat.zero_add, ← hj]
  simp
theorem intSl_own {w : World} {base n : Nat} {e : TypeId} {v : Value} {rs : List Int} (h : w.ownsRow base e 1 v n (rs.map (Value.int .i64))) : IntSl w v rs := by
  by_cases hv : v = .slice none 0 0
  · subst hv
    rcases h.2 with ⟨_, h0⟩ | ⟨g, cap, cur, hv, _⟩
    · exact .inl ⟨none, 0, rfl, List.eq_nil_of_length_eq_zero (by have := h.1; simp at this; omega)⟩
    · cases hv
  · obtain ⟨g, cap, rfl, _, hg, _, _, hl, hH⟩ := Lib.holds_of_ownsRow h hv
    subst hl
    refine .inr ⟨g, 0, cap, rfl, hg, fun i hi => ?_⟩
    have := (hH i (by simpa using hi)).1
    rw [getElem!_pos rs.toArray i (by simpa using hi)] at this
    simpa using this

set_option maxRecDepth 100000 in
set_option maxHeartbeats 2000000 in
theorem runsOf_none (a : Option Addr) (c : Nat) (w : World) :
    Calls Tryz.prog 22 #[.slice a 0 c] w fun e w' => ∃ v rs, e = .returned v ∧ IsRuns [] rs ∧ IntSl w' v rs ∧ Below w.heap.size w w' := by
  have cS : Calls Tryz.prog 57 #[.slice none 0 0] w fun e w' => e = .returned (.tuple #[]) ∧ w' = w := AnyM.slices_Sort_int_none Shr.sortI none 0 w
  go_enter Tryz.func22, Tryz.ntmps22
  go_wp2
  go_loop [3, 8] (fun v i => v = .slice none 0 0 ∧ i = .int .i64 0) (fun _ _ => 0)
  case atStart => exact ⟨rfl, rfl⟩
  case round =>
    obtain ⟨rfl, rfl⟩ := hrel
    go_wp2_with fail
    refine cS.mono ?_
    rintro e w1 ⟨rfl, rfl⟩
    go_wp2
    go_ret
    exact ⟨_, [], rfl, isRuns_nil, .inl ⟨_, _, rfl, rfl⟩, Below.refl _ _⟩
set_option maxRecDepth 100000 in
set_option maxHeartbeats 4000000 in
theorem runsOf_row (g o c : Nat) (es : List Ev) (w : World) (hE : EvsAt w g o es) (h0 : 0 < es.length) (hn : es.length ≤ 1048576) :
    Calls Tryz.prog 22 #[.slice (some ⟨g, o, none⟩) es.length c] w fun e w' => ∃ v rs, e = .returned v ∧ IsRuns es rs ∧ IntSl w' v rs ∧ Below w.heap.size w w' := by
  have HE := hid hE
  clear hE
  obtain ⟨i0, hi, hz0, hz1, hz2⟩ := info_parts Tryz.infoInt
  go_enter Tryz.func22, Tryz.ntmps22
  go_wp2
  go_loopw [3, 8] (fun v i wr => ∃ k : Nat, k ≤ es.length ∧ i = .int .i64 k ∧ wr.ownsRow w.heap.size 2 1 v k (runC (es.take k)) ∧ Below w.heap.size w wr) (fun _ i _ => es.length - (intOf i).toNat)
  case atStart => exact ⟨0, Nat.zero_le _, rfl, World.ownsRow_nil _ _ _ _, Below.refl _ _⟩
  case round =>
    obtain ⟨k, hk, rfl, hown, hbel⟩ := hrel
    have HO := hid hown
    have HB := hid hbel
    have hzr := hbel.size
    clear hown hbel
    by_cases hlt : k < es.length
    · obtain ⟨c0, c1, c2, c3, c4, c5⟩ := (HE.out.stay HB.out (Nat.le_refl _)).2 k hlt
      have HF := hid (runs_take hlt)
      go_wp2_with (first | (at_builtin; refine wpList_append_own _ rfl _ _ 56 rfl w.heap.size 2 i0 _ 1 8 Tryz.underlying56 hi hz0 hz1 hz2 rfl (by decide) _ _ _ rfl ((HO.out.alloc _).alloc _) ⟨wr.heap.size + 1, 0, none⟩ 1 1 [.int .i64 es[k].run] rfl rfl ?c1 ?c2 ?c3 ?c4 ?c5 ?_) | fail)
      case c1 =>
        have h := int_new_cell (wr.alloc (.cells #[.int .i64 es[k].seq, .int .i64 es[k].time, .int .i64 es[k].run, .int .i64 es[k].kind, .string es[k].step, .string es[k].val] 33)) es[k].run 2
        rw [World.size_alloc] at h
        exact h
      case c2 => simp [Value.oneCell']
      case c3 => unfold maxLen; omega
      case c4 => omega
      case c5 => simp; omega
      intro v' w1 ho hg _
      have HBL := hid ((((HB.out.alloc hzr _).alloc (by simp; omega) _).grown hg (by simp; omega) (fun j e => (HO.out.lt j e).1)))
      have HO1 := hid ho
      clear ho hg c0 c1 c2 c3 c4 c5
      go_wp2
      go_roundw
      case rel => exact ⟨k + 1, by omega, by go_num, by rw [HF.out]; exact HO1.out, HBL.out⟩
      case measure => simp [intOf]; omega
    · obtain rfl : k = es.length := by omega
      have hO := HO.out
      rw [List.take_length] at hO
      unfold runC at hO
      obtain ⟨va, vc, hv⟩ := ownB_form hO
      have hne : u3 ≠ .slice none 0 0 := by rw [hv]; intro e; injection e with _ e _; omega
      obtain ⟨g', cap, rfl, hbg, hgl, hnc, hcm, hl, hH⟩ := Lib.holds_of_ownsRow hO hne
      clear hv hne va vc
      obtain ⟨zs, hzs⟩ : ∃ zs, es.map Ev.run = zs := ⟨_, rfl⟩
      have HIR := hid (runs_sorted es)
      rw [hzs] at hO hH hl HIR
      have hle : es.length = zs.length := hl.symm
      rcases hO.2 with ⟨h1, _⟩ | ⟨g'', cap', cur, h1, h2, h3, h4, h5, h6, h7⟩
      · cases h1
      · obtain ⟨rfl, rfl⟩ : g' = g'' ∧ cap = cap' := by injection h1 with q1 _ q3; injection q1 with q1; injection q1 with q1; exact ⟨q1, q3⟩
        have cS : Calls Tryz.prog 57 #[.slice (some ⟨g', 0, none⟩) es.length cap] wr _ := hle ▸ AnyM.slices_Sort_int Shr.sortI g' 0 cap zs wr hH hgl (by omega)
        have HOS := hid (fun n os => ownsRow_sortedI (w := wr) (base := w.heap.size) (g := g') (cap := cap) (n := n) (e := 2) (os := os) (cur := cur) (ss := zs) (ts := zs.mergeSort fun x y => decide (x ≤ y)) (by simp) hbg h3 (by omega) h5 h6)
        have HGS := hid (fun n os => grownBy_sortedI (w := wr) (g := g') (n := n) (os := os) (zs.mergeSort fun x y => decide (x ≤ y)).toArray)
        have hln : (zs.mergeSort fun x y => decide (x ≤ y)).length = es.length := by rw [List.length_mergeSort]; omega
        have HLN := hid hln
        have HLE := hid hle
        have HNC := hid hnc
        have HCM := hid hcm
        clear hO hH h1 h3 h7 h4 h6 h2 HO HE hzs hln hl hle hnc hcm h5
        generalize hss : (zs.mergeSort fun x y => decide (x ≤ y)) = ss at *
        clear hss
        go_wp2_with fail
        refine cS.mono ?_
        rintro e w1 ⟨rfl, n, os, rfl⟩
        have HO1 := hid (HOS.out n os)
        have HB1 := hid (HB.out.grown (HGS.out n os) hzr (fun k e => by cases e; exact hbg))
        generalize grow (putRow (Value.int .i64) (Sort.ahead wr n) g' 0 ss.toArray) os = W1 at *
        have hO1 := HO1.out
        rw [← HLE.out] at hO1
        obtain ⟨g2, cap2, hv2, _, hgl1, _, _, _, hH1⟩ := Lib.holds_of_ownsRow hO1 (by intro e; cases e)
        obtain ⟨rfl, rfl⟩ : g' = g2 ∧ cap = cap2 := by injection hv2 with q1 _ q3; injection q1 with q1; injection q1 with q1; exact ⟨q1, q3⟩
        have hsz : ss.toArray.size = es.length := by have := HLN.out; simpa using this
        have hcl : (Lib.compactUpTo ss.toArray ss.toArray.size).length ≤ es.length := by
          unfold Lib.compactUpTo
          rw [List.length_map]
          refine Nat.le_trans (List.length_filter_le _ _) ?_
          rw [List.length_range]
          omega
        have cC := AnyE.slices_Compact Shr.compI (Value.int .i64) (fun _ => rfl) (EqlAt.intD _ _ _) (NeqAt.intD _ _ _) 0 Tryz.zeroValue2 g' 0 cap ss.toArray W1 hH1 (by omega) (by have := HNC.out; omega)
        change Calls Tryz.prog 58 _ _ _ at cC
        rw [hsz] at cC hcl HIR
        have HO2 := hid (fun q => Lib.ownsRow_putRow (q := q) (k := (Lib.compactUpTo ss.toArray es.length).length) (ys := Lib.compactUpTo ss.toArray es.length ++ List.replicate (es.length - (Lib.compactUpTo ss.toArray es.length).length) 0) hO1 (by simp; omega) hcl)
        have HB2 := hid (fun q => Lib.below_putRow (enc := Value.int .i64) (q := q) (d := (Lib.compactUpTo ss.toArray es.length ++ List.replicate (es.length - (Lib.compactUpTo ss.toArray es.length).length) 0).toArray) HB1.out hbg)
        generalize Lib.compactUpTo ss.toArray es.length = cs at *
        have HCL := hid hcl
        have q1 : (0 : Int) ≤ (cs.length : Int) := by omega
        have q2 : (cs.length : Int) ≤ (cap : Int) := by have := HNC.out; omega
        clear hO1 hH1 hv2 hsz hcl cS HOS HGS HO1 HB1
        go_wp2_with fail
        refine cC.mono ?_
        rintro e w2 ⟨rfl, q, rfl⟩
        have hO2 := HO2.out q
        rw [List.take_left' rfl] at hO2
        have HS := hid (intSl_own hO2)
        have HBB := hid (HB2.out q)
        generalize putRow (Value.int .i64) (Sort.ahead W1 q) g' 0 (cs ++ List.replicate (es.length - cs.length) 0).toArray = W2 at *
        clear hO2 cC
        go_wp2
        go_ret
        refine ⟨_, cs, rfl, HIR.out, ?_, HBB.out⟩
        rcases HS.out with ⟨a, c, h1, h2⟩ | ⟨g3, o3, c3, h1, h2, h3⟩
        · exact .inl ⟨_, _, by rw [h2]; rfl, h2⟩
        · cases h1
          exact .inr ⟨_, _, _, rfl, h2, h3⟩
theorem runsOf_any (a : Option Addr) (c : Nat) (es : List Ev) (w : World) (hE : EvSl w (.slice a es.length c) es) (hn : es.length ≤ 1048576) :
    Calls Tryz.prog 22 #[.slice a es.length c] w fun e w' => ∃ v rs, e = .returned v ∧ IsRuns es rs ∧ IntSl w' v rs ∧ Below w.heap.size w w' := by
  by_cases h0 : 0 < es.length
  · obtain ⟨g, o, rfl, hQ⟩ := hE.row h0
    exact runsOf_row g o c es w hQ h0 hn
  · obtain rfl : es = [] := List.eq_nil_of_length_eq_zero (by omega)
    exact runsOf_none a c w
end Go.Proofs.YthggcdadipjiiaaGreatDoor
