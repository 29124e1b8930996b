/-
 Texts put together: TkM, SvM, InSet, ShRun, ImRuns.
-/
import Derived.Test.YtookchpdbilbcaaGreatDoorZDfLaw5
import Derived.Test.YtookchpdbilbcaaGreatDoorZDfV7
import Derived.Test.YtookchpdbilbcaaGreatDoorZImSA3
import Derived.Test.YtookchpdbilbcaaGreatDoorRows
import Derived.Shelf.SortM.Plain
import Derived.Shelf.SortM.SortNone
import Derived.Shelf.SlicesE.Compact
import Derived.Test.YtookchpdbilbcaaGreatDoorZRunM3
import Derived.Test.YtookchpdbilbcaaGreatDoorZImTold2
import Derived.Test.YtookchpdbilbcaaGreatDoorZEvI8
import Derived.Sort.OwnSortedInts
import Derived.Lib.OwnBridge
set_option maxRecDepth 100000
set_option maxHeartbeats 4000000
/-
 What a batch tells of a right Service, and the end of what is done to it. Of no function. (Cut off ImTk.)
-/
namespace Go.Proofs.YtookchpdbilbcaaGreatDoor
open Go.RowKit Go.Sort Go.Maps
/-- What a batch tells of a right Service. -/
def tkR (ss : List ByteArray) (fs : List Pr) (es : List Ev) (nx : Int) (l : List Ev) : Int × Nat × List Ev × Int := if l.length = 0 ∨ 200 < l.length then (1, 0, [], 0) else inL ss fs l es nx 0
def TkPost (w0 : World) (g bm m : Nat) (a1 a2 : Option Addr) (k1 k2 : Nat) (ss : List ByteArray) (fs : List Pr) (R : Int × Nat × List Ev × Int) (x : Ending) (w' : World) : Prop :=
 x = .returned (.tuple #[.int .i64 (R.2.1 : Int), .int .i64 R.1]) ∧ (R.1 = 0 → ∃ u n, n ≤ m ∧ His w' w0.heap.size g 94 bm n a1 a2 k1 k2 u [.int .i64 R.2.2.2] ss fs R.2.2.1) ∧ Below w0.heap.size w0 w'
end Go.Proofs.YtookchpdbilbcaaGreatDoor
/-
 A Service that is right. Of no function.
-/
namespace Go.Proofs.YtookchpdbilbcaaGreatDoor
open Go.RowKit
structure SvP (ss : List ByteArray) (fs : List Pr) (es : List Ev) (nx : Int) : Prop where
 h : HistP ss fs es
 n : numB nx = true
 l : ∀ h : 0 < es.length, es[es.length - 1].seq < nx
end Go.Proofs.YtookchpdbilbcaaGreatDoor
/-
 A ServiceOut in the variable of a result, and what a batch tells. Of no function.
-/
namespace Go.Proofs.YtookchpdbilbcaaGreatDoor
open Go.RowKit Go.Sort
abbrev osV (b1 b2 b6 : Option Addr) (c1 c2 c6 : Nat) (S : List ByteArray) (F : List Pr) (E : List Ev) (nx : Int) (m : Nat) (c : Int) : Value := .agg #[.slice b1 S.length c1, .slice b2 F.length c2, .slice b6 E.length c6, .int .i64 nx, .int .i64 (m : Int), .int .i64 c]
def InPost (w : World) (ss : List ByteArray) (fs : List Pr) (R : Int × Nat × List Ev × Int) (x : Ending) (w' : World) : Prop :=
 ∃ (S : List ByteArray) (F : List Pr) (b1 b2 b6 : Option Addr) (c1 c2 c6 : Nat), (R.1 = 0 → S = ss ∧ F = fs) ∧ (¬ R.1 = 0 → S = [] ∧ F = []) ∧ x = .returned (osV b1 b2 b6 c1 c2 c6 S F R.2.2.1 R.2.2.2 R.2.1 R.1) ∧ SvOwn w' w.heap.size (.slice b1 S.length c1) (.slice b2 F.length c2) (.slice b6 R.2.2.1.length c6) S F R.2.2.1 ∧ Below w.heap.size w w'
def outSet (V : World) (r : Nat) (v1 v2 v6 : Value) (nx m c : Int) : World := (((((V.setCell ⟨r, 0, none⟩ v1).setCell ⟨r, 1, none⟩ v2).setCell ⟨r, 2, none⟩ v6).setCell ⟨r, 3, none⟩ (.int .i64 nx)).setCell ⟨r, 4, none⟩ (.int .i64 m)).setCell ⟨r, 5, none⟩ (.int .i64 c)
theorem ZHl {w V : World} {b1 b2 b6 : Option Addr} {c1 c2 c6 : Nat} {ss : List ByteArray} {fs : List Pr} {es : List Ev} (nx m c : Int) (hO : SvOwn V (w.heap.size + 1 + 1) (.slice b1 ss.length c1) (.slice b2 fs.length c2) (.slice b6 es.length c6) ss fs es) (hb : Below w.heap.size w V) (hV : w.heap.size + 1 + 1 ≤ V.heap.size) (hR : V.heap[w.heap.size + 1]? = some (.cells #[.slice none 0 0, .slice none 0 0, .slice none 0 0, .int .i64 0, .int .i64 0, .int .i64 0] 38 (0, 0))) :
  (outSet V (w.heap.size + 1) (.slice b1 ss.length c1) (.slice b2 fs.length c2) (.slice b6 es.length c6) nx m c).heap[w.heap.size + 1]? = some (.cells #[.slice b1 ss.length c1, .slice b2 fs.length c2, .slice b6 es.length c6, .int .i64 nx, .int .i64 m, .int .i64 c] 38 (0, 0)) ∧
  SvOwn (outSet V (w.heap.size + 1) (.slice b1 ss.length c1) (.slice b2 fs.length c2) (.slice b6 es.length c6) nx m c) w.heap.size (.slice b1 ss.length c1) (.slice b2 fs.length c2) (.slice b6 es.length c6) ss fs es ∧
  Below w.heap.size w (outSet V (w.heap.size + 1) (.slice b1 ss.length c1) (.slice b2 fs.length c2) (.slice b6 es.length c6) nx m c) := by
 have hC : Chg (fun j => j = w.heap.size + 1) V (outSet V (w.heap.size + 1) (.slice b1 ss.length c1) (.slice b2 fs.length c2) (.slice b6 es.length c6) nx m c) := (((((Chg.of_grown (p := fun j => j = w.heap.size + 1) (ZAF _ (w.heap.size + 1) 0 _) rfl).trans (Chg.of_grown (ZAF _ (w.heap.size + 1) 1 _) rfl)).trans (Chg.of_grown (ZAF _ (w.heap.size + 1) 2 _) rfl)).trans (Chg.of_grown (ZAF _ (w.heap.size + 1) 3 _) rfl)).trans (Chg.of_grown (ZAF _ (w.heap.size + 1) 4 _) rfl)).trans (Chg.of_grown (ZAF _ (w.heap.size + 1) 5 _) rfl)
 refine ⟨?_, ?_, ?_⟩
 ·exact ZAG (L := [_, _, _, _, _, _]) (i := 5) (ZAG (L := [_, _, _, _, _, _]) (i := 4) (ZAG (L := [_, _, _, _, _, _]) (i := 3) (ZAG (L := [_, _, _, _, _, _]) (i := 2) (ZAG (L := [_, _, _, _, _, _]) (i := 1) (ZAG (L := [_, _, _, _, _, _]) (i := 0) hR _) _) _) _) _) _
 ·exact SvOwn.chg ⟨⟨ZAI hO.d.o1 (by omega), ZAI hO.d.o2 (by omega)⟩, ZAI hO.o6 (by omega)⟩ hC (ZAL hO.d.o1 hR (by decide)) (ZAL hO.d.o2 hR (by decide)) (ZAL hO.o6 hR (by decide))
 ·exact hb.trans (hC.below (by omega) (fun j (h : j = _) => by omega))
theorem sv_zero (w : World) (lo : Nat) : SvOwn w lo (.slice none ([] : List ByteArray).length 0) (.slice none ([] : List Pr).length 0) (.slice none ([] : List Ev).length 0) [] [] [] := ⟨⟨World.ownsRow_nil _ _ _ _, World.ownsRow_nil _ _ _ _⟩, World.ownsRow_nil _ _ _ _⟩
/-- The end of a road that tells a code. -/
theorem ZEb {w V : World} (ss : List ByteArray) (fs : List Pr) (m : Nat) (c : Int) (hc : ¬ c = 0) (hb : Below w.heap.size w V) (hV : w.heap.size + 1 + 1 ≤ V.heap.size) (hR : V.heap[w.heap.size + 1]? = some (.cells #[.slice none 0 0, .slice none 0 0, .slice none 0 0, .int .i64 0, .int .i64 0, .int .i64 0] 38 (0, 0))) :
  (outSet V (w.heap.size + 1) (.slice none 0 0) (.slice none 0 0) (.slice none 0 0) 0 m c).heap[w.heap.size + 1]? = some (.cells #[.slice none 0 0, .slice none 0 0, .slice none 0 0, .int .i64 0, .int .i64 m, .int .i64 c] 38 (0, 0)) ∧
  InPost w ss fs (c, m, [], 0) (.returned (.agg #[.slice none 0 0, .slice none 0 0, .slice none 0 0, .int .i64 0, .int .i64 m, .int .i64 c])) (outSet V (w.heap.size + 1) (.slice none 0 0) (.slice none 0 0) (.slice none 0 0) 0 m c) := by
 obtain ⟨h1, h2, h3⟩ := ZHl 0 m c (sv_zero V (w.heap.size + 1 + 1)) hb hV hR
 exact ⟨h1, [], [], none, none, none, 0, 0, 0, fun h => absurd h hc, fun _ => ⟨rfl, rfl⟩, rfl, h2, h3⟩
end Go.Proofs.YtookchpdbilbcaaGreatDoor
/-
 The library's contracts (the shelf's), laid at the seat's program.
-/
namespace Go.Proofs.YtookchpdbilbcaaGreatDoor.Shr
open Go.Shelf Go.RowKit
def ZHg : Ren := ⟨fun | 5 => 96 | 8 => 117 | 7 => 116 | 19 => 143 | 20 => 144 | 10 => 134 | 11 => 135 | 12 => 136 | 13 => 137 | 14 => 138 | 15 => 139 | 16 => 140 | 17 => 141 | 18 => 142 | 30 => 158 | 31 => 159 | 32 => 160 | 33 => 161 | 34 => 162 | 35 => 163 | 40 => 170 | n => n, fun | 23 => 71 | 25 => 2 | 3 => 3 | 32 => 159 | 22 => 71 | 0 => 0 | 44 => 182 | 46 => 184 | 4 => 4 | 36 => 174 | 35 => 173 | 41 => 179 | 5 => 5 | 9 => 9 | 53 => 204 | 57 => 208 | 63 => 215 | 64 => 216 | n => n, fun | n => n⟩
theorem sortI : Go.Proofs.SlLaysM.n5 Tryz.prog ZHg := {
 mixed := by kernel_rfl
 f5 := ⟨Tryz.f96.name, by decide, Tryz.func96.trans (congrArg some (by kernel_rfl))⟩
 f7 := ⟨Tryz.f116.name, by decide, Tryz.func116.trans (congrArg some (by kernel_rfl))⟩
 f8 := Tryz.func117.trans (congrArg some (by kernel_rfl))
 f10 := ⟨Tryz.f134.name, by decide, Tryz.func134.trans (congrArg some (by kernel_rfl))⟩
 f11 := ⟨Tryz.f135.name, by decide, Tryz.func135.trans (congrArg some (by kernel_rfl))⟩
 f12 := ⟨Tryz.f136.name, by decide, Tryz.func136.trans (congrArg some (by kernel_rfl))⟩
 f13 := ⟨Tryz.f137.name, by decide, Tryz.func137.trans (congrArg some (by kernel_rfl))⟩
 f14 := ⟨Tryz.f138.name, by decide, Tryz.func138.trans (congrArg some (by kernel_rfl))⟩
 f15 := ⟨Tryz.f139.name, by decide, Tryz.func139.trans (congrArg some (by kernel_rfl))⟩
 f16 := ⟨Tryz.f140.name, by decide, Tryz.func140.trans (congrArg some (by kernel_rfl))⟩
 f17 := ⟨Tryz.f141.name, by decide, Tryz.func141.trans (congrArg some (by kernel_rfl))⟩
 f18 := ⟨Tryz.f142.name, by decide, Tryz.func142.trans (congrArg some (by kernel_rfl))⟩
 f19 := Tryz.func143.trans (congrArg some (by kernel_rfl))
 f20 := Tryz.func144.trans (congrArg some (by kernel_rfl))
 f30 := ⟨Tryz.f158.name, by decide, Tryz.func158.trans (congrArg some (by kernel_rfl))⟩
 f31 := Tryz.func159.trans (congrArg some (by kernel_rfl))
 f32 := Tryz.func160.trans (congrArg some (by kernel_rfl))
 f33 := ⟨Tryz.f161.name, by decide, Tryz.func161.trans (congrArg some (by kernel_rfl))⟩
 f34 := ⟨Tryz.f162.name, by decide, Tryz.func162.trans (congrArg some (by kernel_rfl))⟩
 f35 := ⟨Tryz.f163.name, by decide, Tryz.func163.trans (congrArg some (by kernel_rfl))⟩
 f40 := ⟨Tryz.f170.name, by decide, Tryz.func170.trans (congrArg some (by kernel_rfl))⟩
 t0 := Tryz.underlying0
 a0 := Tryz.isAgg0
 z0 := Tryz.sizeOf0
 v0 := Tryz.zeroValue0
 t3 := Tryz.underlying3
 a3 := Tryz.isAgg3
 z3 := Tryz.sizeOf3
 v3 := Tryz.zeroValue3
 t4 := Tryz.underlying4
 a4 := Tryz.isAgg4
 z4 := Tryz.sizeOf4
 v4 := Tryz.zeroValue4
 t5 := Tryz.underlying5
 a5 := Tryz.isAgg5
 z5 := Tryz.sizeOf5
 v5 := Tryz.zeroValue5
 t9 := Tryz.underlying9
 a9 := Tryz.isAgg9
 z9 := Tryz.sizeOf9
 v9 := Tryz.zeroValue9
 t22 := Tryz.underlying71
 a22 := Tryz.isAgg71
 z22 := Tryz.sizeOf71
 v22 := Tryz.zeroValue71
 t23 := Tryz.underlying71
 a23 := Tryz.isAgg71
 z23 := Tryz.sizeOf71
 v23 := Tryz.zeroValue71
 t25 := Tryz.underlying2
 a25 := Tryz.isAgg2
 z25 := Tryz.sizeOf2
 v25 := Tryz.zeroValue2
 t32 := Tryz.underlying159
 a32 := Tryz.isAgg159
 z32 := Tryz.sizeOf159
 v32 := Tryz.zeroValue159
 t35 := Tryz.underlying173
 a35 := Tryz.isAgg173
 z35 := Tryz.sizeOf173
 v35 := Tryz.zeroValue173
 t36 := Tryz.underlying174
 a36 := Tryz.isAgg174
 z36 := Tryz.sizeOf174
 v36 := Tryz.zeroValue174
 t41 := Tryz.underlying179
 a41 := Tryz.isAgg179
 z41 := Tryz.sizeOf179
 v41 := Tryz.zeroValue179
 t44 := Tryz.underlying182
 a44 := Tryz.isAgg182
 z44 := Tryz.sizeOf182
 v44 := Tryz.zeroValue182
 t46 := Tryz.underlying184
 a46 := Tryz.isAgg184
 z46 := Tryz.sizeOf184
 v46 := Tryz.zeroValue184
 t53 := Tryz.underlying204
 a53 := Tryz.isAgg204
 z53 := Tryz.sizeOf204
 v53 := Tryz.zeroValue204
 t57 := Tryz.underlying208
 a57 := Tryz.isAgg208
 z57 := Tryz.sizeOf208
 v57 := Tryz.zeroValue208
 t63 := Tryz.underlying215
 a63 := Tryz.isAgg215
 z63 := Tryz.sizeOf215
 v63 := Tryz.zeroValue215
 t64 := Tryz.underlying216
 a64 := Tryz.isAgg216
 z64 := Tryz.sizeOf216
 v64 := Tryz.zeroValue216 }
def ZHm : Ren := ⟨fun | 43 => 97 | n => n, fun | 22 => 71 | 23 => 2 | 3 => 3 | 4 => 4 | 0 => 0 | n => n, fun | n => n⟩
theorem compI : Go.Proofs.SlLaysE.n43 Tryz.prog ZHm := {
 mixed := by kernel_rfl
 f43 := ⟨Tryz.f97.name, by decide, Tryz.func97.trans (congrArg some (by kernel_rfl))⟩
 t0 := Tryz.underlying0
 a0 := Tryz.isAgg0
 z0 := Tryz.sizeOf0
 v0 := Tryz.zeroValue0
 t3 := Tryz.underlying3
 a3 := Tryz.isAgg3
 z3 := Tryz.sizeOf3
 v3 := Tryz.zeroValue3
 t4 := Tryz.underlying4
 a4 := Tryz.isAgg4
 z4 := Tryz.sizeOf4
 v4 := Tryz.zeroValue4
 t22 := Tryz.underlying71
 a22 := Tryz.isAgg71
 z22 := Tryz.sizeOf71
 v22 := Tryz.zeroValue71
 a23 := Tryz.isAgg2
 z23 := Tryz.sizeOf2 }
end Go.Proofs.YtookchpdbilbcaaGreatDoor.Shr
/-
 What impl.runsOf answers: the runs of the events, rising: a contract over the seat's program.
-/
namespace Go.Proofs.YtookchpdbilbcaaGreatDoor
open Go.RowKit Go.Sort
theorem Tryz.infoInt : (Tryz.prog.info? 2).map (fun i => (i.zero, i.size, i.bytes)) = some (some (.int .i64 0), 1, 8) := by kernel_rfl
def runC (es : List Ev) : List Value := (es.map Ev.run).map (Value.int .i64)
theorem ZIW {es : List Ev} {k : Nat} (h : k < es.length) : runC (es.take (k + 1)) = runC (es.take k) ++ [.int .i64 es[k].run] := by
 unfold runC
 rw [List.take_succ_eq_append_getElem h, List.map_append, List.map_append]; rfl
theorem ZA7 (V : World) (x : Int) (T : TypeId) : ∀ j u, [Value.int .i64 x][j]? = some u → (V.alloc (.cells #[.int .i64 x] T)).cell? ((⟨V.heap.size, 0, none⟩ : Addr).add j) = some u := by
 intro j u hj
 rw [Addr.add_lit, Lib.cell_of_heap (heap_alloc_new _ _), Nat.zero_add, ← hj]
 simp
theorem ZE7 {w : World} {base n : Nat} {e : TypeId} {v : Value} {rs : List Int} (h : w.ownsRow base e 1 v n (rs.map (Value.int .i64))) : IntSl w v rs := by
 by_cases hv : v = .slice none 0 0
 ·subst hv
  rcases h.2 with ⟨_, h0⟩ | ⟨g, cap, cur, hv, _⟩
  ·exact .inl ⟨none, 0, rfl, List.eq_nil_of_length_eq_zero (by have := h.1; simp at this; omega)⟩
  ·cases hv
 ·obtain ⟨g, cap, rfl, _, hg, _, _, hl, hH⟩ := Lib.holds_of_ownsRow h hv
  subst hl
  refine .inr ⟨g, 0, cap, rfl, hg, fun i hi => ?_⟩
  have := (hH i (by simpa using hi)).1
  rw [getElem!_pos rs.toArray i (by simpa using hi)] at this
  simpa using this
theorem ZFb (a : Option Addr) (c : Nat) (w : World) :
  Calls Tryz.prog 77 #[.slice a 0 c] w fun e w' => ∃ v rs, e = .returned v ∧ IsRuns [] rs ∧ IntSl w' v rs ∧ Below w.heap.size w w' := by
 have cS : Calls Tryz.prog 96 #[.slice none 0 0] w fun e w' => e = .returned (.tuple #[]) ∧ w' = w := AnyM.slices_Sort_int_none Shr.sortI none 0 w
 go_enter Tryz.func77, Tryz.ntmps77
 go_wp2
 go_loop [3, 8] (fun v i => v = .slice none 0 0 ∧ i = .int .i64 0) (fun _ _ => 0)
 case atStart => exact ⟨rfl, rfl⟩
 case round =>
  obtain ⟨rfl, rfl⟩ := hrel
  go_wp2_with fail
  refine cS.mono ?_
  rintro e w1 ⟨rfl, rfl⟩
  go_wp2
  go_ret
  exact ⟨_, [], rfl, ZDl, .inl ⟨_, _, rfl, rfl⟩, Below.refl _ _⟩
theorem ZHB (g o c : Nat) (es : List Ev) (w : World) (hE : EvsAt w g o es) (h0 : 0 < es.length) (hn : es.length ≤ 1048576) :
  Calls Tryz.prog 77 #[.slice (some ⟨g, o, none⟩) es.length c] w fun e w' => ∃ v rs, e = .returned v ∧ IsRuns es rs ∧ IntSl w' v rs ∧ Below w.heap.size w w' := by
 have HE := hid hE
 clear hE
 obtain ⟨i0, hi, hz0, hz1, hz2⟩ := info_parts Tryz.infoInt
 go_enter Tryz.func77, Tryz.ntmps77
 go_wp2
 go_loopw [3, 8] (fun v i wr => ∃ k : Nat, k ≤ es.length ∧ i = .int .i64 k ∧ wr.ownsRow w.heap.size 2 1 v k (runC (es.take k)) ∧ Below w.heap.size w wr) (fun _ i _ => es.length - (intOf i).toNat)
 case atStart => exact ⟨0, Nat.zero_le _, rfl, World.ownsRow_nil _ _ _ _, Below.refl _ _⟩
 case round =>
  obtain ⟨k, hk, rfl, hown, hbel⟩ := hrel
  have HO := hid hown
  have HB := hid hbel
  have hzr := hbel.size
  clear hown hbel
  by_cases hlt : k < es.length
  ·obtain ⟨c0, c1, c2, c3, c4, c5⟩ := (HE.out.stay HB.out nL).2 k hlt
   have HF := hid (ZIW hlt)
   go_wp2_with (first | (at_builtin; refine wpList_append_own _ rfl _ _ 71 rfl w.heap.size 2 i0 _ 1 8 Tryz.underlying71 hi hz0 hz1 hz2 rfl (by decide) _ _ _ rfl ((HO.out.alloc _).alloc _) ⟨wr.heap.size + 1, 0, none⟩ 1 1 [.int .i64 es[k].run] rfl rfl ?c1 ?c2 ?c3 ?c4 ?c5 ?_) | fail)
   case c1 =>
    have h := ZA7 (wr.alloc (.cells #[.int .i64 es[k].seq, .int .i64 es[k].time, .int .i64 es[k].run, .int .i64 es[k].kind, .string es[k].step, .string es[k].val] 57)) es[k].run 2
    rw [World.size_alloc] at h
    exact h
   case c2 => simp [Value.oneCell']
   case c3 => unfold maxLen; omega
   case c4 => omega
   case c5 => simp; omega
   intro v' w1 ho hg _
   have HBL := hid ((((HB.out.alloc hzr _).alloc (by simp; omega) _).grown hg (by simp; omega) (fun j e => (HO.out.lt j e).1)))
   have HO1 := hid ho
   clear ho hg c0 c1 c2 c3 c4 c5
   go_wp2
   go_roundw
   case rel => exact ⟨k + 1, by omega, by go_num, by rw [HF.out]; exact HO1.out, HBL.out⟩
   case measure => simp [intOf]; omega
  ·obtain rfl : k = es.length := by omega
   have hO := HO.out
   rw [List.take_length] at hO
   unfold runC at hO
   obtain ⟨va, vc, hv⟩ := ZAD hO
   have hne : u3 ≠ .slice none 0 0 := by rw [hv]; intro e; injection e with _ e _; omega
   obtain ⟨g', cap, rfl, hbg, hgl, hnc, hcm, hl, hH⟩ := Lib.holds_of_ownsRow hO hne
   clear hv hne va vc
   obtain ⟨zs, hzs⟩ : ∃ zs, es.map Ev.run = zs := ⟨_, rfl⟩
   have HIR := hid (ZA0 es)
   rw [hzs] at hO hH hl HIR
   have hle : es.length = zs.length := hl.symm
   rcases hO.2 with ⟨h1, _⟩ | ⟨g'', cap', cur, h1, h2, h3, h4, h5, h6, h7⟩
   ·cases h1
   ·obtain ⟨rfl, rfl⟩ : g' = g'' ∧ cap = cap' := by injection h1 with q1 _ q3; injection q1 with q1; injection q1 with q1; exact ⟨q1, q3⟩
    have cS : Calls Tryz.prog 96 #[.slice (some ⟨g', 0, none⟩) es.length cap] wr _ := hle ▸ AnyM.slices_Sort_int Shr.sortI g' 0 cap zs wr hH hgl (by omega)
    have HOS := hid (fun n os => ownsRow_sortedI (w := wr) (base := w.heap.size) (g := g') (cap := cap) (n := n) (e := 2) (os := os) (cur := cur) (ss := zs) (ts := zs.mergeSort fun x y => decide (x ≤ y)) (by simp) hbg h3 (by omega) h5 h6)
    have HGS := hid (fun n os => grownBy_sortedI (w := wr) (g := g') (n := n) (os := os) (zs.mergeSort fun x y => decide (x ≤ y)).toArray)
    have hln : (zs.mergeSort fun x y => decide (x ≤ y)).length = es.length := by rw [List.length_mergeSort]; omega
    have HLN := hid hln
    have HLE := hid hle
    have HNC := hid hnc
    have HCM := hid hcm
    clear hO hH h1 h3 h7 h4 h6 h2 HO HE hzs hln hl hle hnc hcm h5
    generalize hss : (zs.mergeSort fun x y => decide (x ≤ y)) = ss at *
    clear hss
    go_wp2_with fail
    refine cS.mono ?_
    rintro e w1 ⟨rfl, n, os, rfl⟩
    have HO1 := hid (HOS.out n os)
    have HB1 := hid (HB.out.grown (HGS.out n os) hzr (fun k e => by cases e; exact hbg))
    generalize grow (putRow (Value.int .i64) (Sort.ahead wr n) g' 0 ss.toArray) os = W1 at *
    have hO1 := HO1.out
    rw [← HLE.out] at hO1
    obtain ⟨g2, cap2, hv2, _, hgl1, _, _, _, hH1⟩ := Lib.holds_of_ownsRow hO1 (by intro e; cases e)
    obtain ⟨rfl, rfl⟩ : g' = g2 ∧ cap = cap2 := by injection hv2 with q1 _ q3; injection q1 with q1; injection q1 with q1; exact ⟨q1, q3⟩
    have hsz : ss.toArray.size = es.length := by have := HLN.out; simpa using this
    have hcl : (Lib.compactUpTo ss.toArray ss.toArray.size).length ≤ es.length := by
     unfold Lib.compactUpTo
     rw [List.length_map]
     refine Nat.le_trans (List.length_filter_le _ _) ?_
     rw [List.length_range]
     omega
    have cC := AnyE.slices_Compact Shr.compI (Value.int .i64) (fun _ => rfl) (EqlAt.intD _ _ _) (NeqAt.intD _ _ _) 0 Tryz.zeroValue2 g' 0 cap ss.toArray W1 hH1 (by omega) (by have := HNC.out; omega)
    change Calls Tryz.prog 97 _ _ _ at cC
    rw [hsz] at cC hcl HIR
    have HO2 := hid (fun q => Lib.ownsRow_putRow (q := q) (k := (Lib.compactUpTo ss.toArray es.length).length) (ys := Lib.compactUpTo ss.toArray es.length ++ List.replicate (es.length - (Lib.compactUpTo ss.toArray es.length).length) 0) hO1 (by simp; omega) hcl)
    have HB2 := hid (fun q => Lib.below_putRow (enc := Value.int .i64) (q := q) (d := (Lib.compactUpTo ss.toArray es.length ++ List.replicate (es.length - (Lib.compactUpTo ss.toArray es.length).length) 0).toArray) HB1.out hbg)
    generalize Lib.compactUpTo ss.toArray es.length = cs at *
    have HCL := hid hcl
    have q1 : (0 : Int) ≤ (cs.length : Int) := by omega
    have q2 : (cs.length : Int) ≤ (cap : Int) := by have := HNC.out; omega
    clear hO1 hH1 hv2 hsz hcl cS HOS HGS HO1 HB1
    go_wp2_with fail
    refine cC.mono ?_
    rintro e w2 ⟨rfl, q, rfl⟩
    have hO2 := HO2.out q
    rw [List.take_left' rfl] at hO2
    have HS := hid (ZE7 hO2)
    have HBB := hid (HB2.out q)
    generalize putRow (Value.int .i64) (Sort.ahead W1 q) g' 0 (cs ++ List.replicate (es.length - cs.length) 0).toArray = W2 at *
    clear hO2 cC
    go_wp2
    go_ret
    refine ⟨_, cs, rfl, HIR.out, ?_, HBB.out⟩
    rcases HS.out with ⟨a, c, h1, h2⟩ | ⟨g3, o3, c3, h1, h2, h3⟩
    ·exact .inl ⟨_, _, by rw [h2]; rfl, h2⟩
    ·cases h1
     exact .inr ⟨_, _, _, rfl, h2, h3⟩
theorem ZDh (a : Option Addr) (c : Nat) (es : List Ev) (w : World) (hE : EvSl w (.slice a es.length c) es) (hn : es.length ≤ 1048576) :
  Calls Tryz.prog 77 #[.slice a es.length c] w fun e w' => ∃ v rs, e = .returned v ∧ IsRuns es rs ∧ IntSl w' v rs ∧ Below w.heap.size w w' := by
 by_cases h0 : 0 < es.length
 ·obtain ⟨g, o, rfl, hQ⟩ := hE.row h0
  exact ZHB g o c es w hQ h0 hn
 ·obtain rfl : es = [] := List.eq_nil_of_length_eq_zero (by omega)
  exact ZFb a c w
end Go.Proofs.YtookchpdbilbcaaGreatDoor
