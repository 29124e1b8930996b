/-
  Texts put together: ItrE, HistM, ShRun, CopyN.
-/
import Derived.Test.YtadidjhcgmeadaaGreatDoorZItr3
import Derived.Test.YtadidjhcgmeadaaGreatDoorZEvT5
import Derived.Test.YtadidjhcgmeadaaGreatDoorZEvI4
import Derived.Test.YtadidjhcgmeadaaGreatDoorRows
import Derived.Shelf.SortM.Plain
import Derived.Shelf.SortM.SortNone
import Derived.Shelf.SlicesE.Compact
import Derived.Test.YtadidjhcgmeadaaGreatDoorZDfMath4
import Derived.Test.YtadidjhcgmeadaaGreatDoorZAgg6
import Derived.Laws.CopyOwn
/-
  impl.eventsOf: the iterator hands out the events of a run: a contract over the seat's program.
-/
namespace Go.Proofs.YtadidjhcgmeadaaGreatDoor
open Go.RowKit Go.Shelf

def ofRun (es : List Ev) (r : Int) : List Ev := es.filter fun e => decide (e.run = r)
set_option maxRecDepth 100000 in
theorem isRun_any (b0 : Nat) (r : Int) (e : Ev) (X : World) (h : X.cell? ⟨b0, 0, none⟩ = some (.int .i64 r)) (hb : b0 < X.heap.size) :
    Calls Tryz.prog 89 #[evO e, .pointer (some ⟨b0, 0, none⟩)] X fun x X' => x = .returned (.bool (decide (e.run = r))) ∧ Below X.heap.size X X' := by
  have h1 : (X.alloc (.cells #[.int .i64 e.seq, .int .i64 e.time, .int .i64 e.run, .int .i64 e.kind, .string e.step, .string e.val] 76)).cell? ⟨b0, 0, none⟩ = some (.int .i64 r) := ((((Below.refl _ X).alloc (Nat.le_refl _) _)).cell (p := ⟨b0, 0, none⟩) hb).trans h
  go_enter Tryz.func89, Tryz.ntmps89
  go_wp2
  go_ret
  exact ⟨rfl, (Below.refl _ X).alloc (Nat.le_refl _) _⟩

theorem new4 (w : World) (o1 o2 o3 o4 : Obj) : ((((w.alloc o1).alloc o2).alloc o3).alloc o4).heap[w.heap.size]? = some o1 ∧ ((((w.alloc o1).alloc o2).alloc o3).alloc o4).heap[w.heap.size + 1]? = some o2 ∧ ((((w.alloc o1).alloc o2).alloc o3).alloc o4).heap[w.heap.size + 1 + 1]? = some o3 ∧ ((((w.alloc o1).alloc o2).alloc o3).alloc o4).heap[w.heap.size + 1 + 1 + 1]? = some o4 := by
  have h1 := heap_alloc_new w o1
  have h2 := heap_alloc_new (w.alloc o1) o2
  have h3 := heap_alloc_new ((w.alloc o1).alloc o2) o3
  have h4 := heap_alloc_new (((w.alloc o1).alloc o2).alloc o3) o4
  rw [World.size_alloc] at h2
  rw [World.size_alloc, World.size_alloc] at h3
  rw [World.size_alloc, World.size_alloc, World.size_alloc] at h4
  refine ⟨?_, ?_, ?_, h4⟩
  · exact (Below.heap_alloc _ _ _ (by simp; omega)).trans ((Below.heap_alloc _ _ _ (by simp; omega)).trans ((Below.heap_alloc _ _ _ (by simp)).trans h1))
  · exact (Below.heap_alloc _ _ _ (by simp)).trans ((Below.heap_alloc _ _ _ (by simp)).trans h2)
  · exact (Below.heap_alloc _ _ _ (by simp)).trans h3

set_option maxRecDepth 100000 in
set_option maxHeartbeats 4000000 in
theorem eventsOf_any (a : Option Addr) (c : Nat) (es : List Ev) (r : Int) (w : World) (hE : EvSl w (.slice a es.length c) es) (hn : es.length ≤ maxLen) :
    Calls Tryz.prog 49 #[.slice a es.length c, .int .i64 r] w fun e w' => ∃ lb, e = .returned (.func (.func 116) #[] lb) ∧ (∀ T : List TypeId, 125 ∉ T → Sq T Tryz.prog 116 lb evA w'.heap.size (ofRun es r) w') ∧ Below w.heap.size w w' := by
  have HE := hid hE
  clear hE
  go_enter Tryz.func49, Tryz.ntmps49
  go_wp2
  refine bodyPost_ret (v := .func (.func 116) #[] #[.pointer (some ⟨w.heap.size + 1 + 1, 0, none⟩), .pointer (some ⟨w.heap.size + 1 + 1 + 1, 0, none⟩)]) (by simp [results, Tryz.results49, go_sem]) rfl ?_
  obtain ⟨n1, n2, n3, n4⟩ := new4 w (.cells #[.int .i64 r] 2) (.cells #[.slice a es.length c] 34) (.cells #[.func (.func 117) #[] #[.pointer (some ⟨w.heap.size + 1, 0, none⟩)]] 84) (.cells #[.func (.func 89) #[] #[.pointer (some ⟨w.heap.size, 0, none⟩)]] 125)
  have hb : Below w.heap.size w ((((w.alloc (.cells #[.int .i64 r] 2)).alloc (.cells #[.slice a es.length c] 34)).alloc (.cells #[.func (.func 117) #[] #[.pointer (some ⟨w.heap.size + 1, 0, none⟩)]] 84)).alloc (.cells #[.func (.func 89) #[] #[.pointer (some ⟨w.heap.size, 0, none⟩)]] 125)) := ((((Below.refl _ w).alloc (Nat.le_refl _) _).alloc (by simp) _).alloc (by simp; omega) _).alloc (by simp; omega) _
  generalize ((((w.alloc (.cells #[.int .i64 r] 2)).alloc (.cells #[.slice a es.length c] 34)).alloc (.cells #[.func (.func 117) #[] #[.pointer (some ⟨w.heap.size + 1, 0, none⟩)]] 84)).alloc (.cells #[.func (.func 89) #[] #[.pointer (some ⟨w.heap.size, 0, none⟩)]] 125)) = W4 at *
  refine ⟨_, rfl, fun T hT => ?_, hb⟩
  refine picked_sq T hT (w.heap.size + 1 + 1) (w.heap.size + 1 + 1 + 1) 117 89 W4.heap.size _ _ (fun e => decide (e.run = r)) es W4 (Nat.le_refl _) (by rw [Lib.cell_of_heap n3]; rfl) n4 (lt_heap n3)
    (enters_of Tryz.func117 (by kernel_rfl) rfl) (enters_of Tryz.func89 (by kernel_rfl) rfl)
    (values_sq T (w.heap.size + 1) a c es w W4 W4.heap.size hb.size hb HE.out (by rw [Lib.cell_of_heap n2]; rfl) (lt_heap n2) hn) ?_
  intro e X hX
  exact isRun_any w.heap.size r e X ((hX.cell (p := ⟨w.heap.size, 0, none⟩) (lt_heap n1)).trans (by rw [Lib.cell_of_heap n1]; rfl)) (Nat.lt_of_lt_of_le (lt_heap n1) hX.size)
end Go.Proofs.YtadidjhcgmeadaaGreatDoor

/-
  A history that is right. Of no function.
-/
namespace Go.Proofs.YtadidjhcgmeadaaGreatDoor
open Go.RowKit

structure HistP (ss : List ByteArray) (fs : List Pr) (es : List Ev) : Prop where
  d : DefP ss fs
  n : es.length ≤ 200
  r : RiseP es
  o : ∀ e ∈ es, (ofS ss fs (ofRun es e.run) z0).1 = 0
theorem ofRun_len (es : List Ev) (r : Int) : (ofRun es r).length ≤ es.length := List.length_filter_le _ _
theorem ofRun_step (es : List Ev) (r : Int) {p : Ev → Prop} (h : ∀ i, (hi : i < es.length) → p es[i]) : ∀ i, (hi : i < (ofRun es r).length) → p (ofRun es r)[i] := fun i hi => by
  have hm : (ofRun es r)[i] ∈ es := (List.mem_filter.1 (List.getElem_mem hi)).1
  obtain ⟨j, hj, he⟩ := List.mem_iff_getElem.1 hm
  rw [← he]
  exact h j hj
theorem histP_yes {ss : List ByteArray} {fs : List Pr} {es : List Ev} {rs : List Int} (hR : IsRuns es rs) (d : DefP ss fs) (n : es.length ≤ 200) (r : RiseP es) (h : ∀ j, (hj : j < rs.length) → (ofS ss fs (ofRun es rs[j]) z0).1 = 0) : HistP ss fs es :=
  ⟨d, n, r, fun e he => by
    obtain ⟨j, hj, hr⟩ := List.mem_iff_getElem.1 ((hR.mem e.run).2 ⟨e, he, rfl⟩)
    rw [← hr]
    exact h j hj⟩
theorem histP_no {ss : List ByteArray} {fs : List Pr} {es : List Ev} {rs : List Int} (hR : IsRuns es rs) {j : Nat} (hj : j < rs.length) (h : ¬ (ofS ss fs (ofRun es rs[j]) z0).1 = 0) : ¬ HistP ss fs es := fun H => by
  obtain ⟨e, he, hr⟩ := (hR.mem rs[j]).1 (List.getElem_mem hj)
  refine h ?_
  rw [← hr]
  exact H.o e he
/-- Whatever goes through is right. -/
theorem ofS_right {ss : List ByteArray} {fs : List Pr} : ∀ (es : List Ev) (S : St), (ofS ss fs es S).1 = 0 → ∀ e ∈ es, evB e = true
  | [], _, _, _, he => absurd he (by simp)
  | x :: r, S, h, e, he => by
    have hx : (evS ss fs S x).1 = 0 := by
      by_cases q : (evS ss fs S x).1 = 0
      · exact q
      · simp only [ofS, if_neg q] at h
        exact absurd h q
    have hb : evB x = true := by
      by_cases q : evB x = true
      · exact q
      · simp only [evS, if_neg q] at hx
        exact absurd hx (by decide)
    rcases List.mem_cons.1 he with rfl | he
    · exact hb
    · simp only [ofS, if_pos hx] at h
      exact ofS_right r _ h e he
theorem HistP.ev {ss : List ByteArray} {fs : List Pr} {es : List Ev} (h : HistP ss fs es) : ∀ e ∈ es, evB e = true := fun e he =>
  ofS_right _ _ (h.o e he) e (List.mem_filter.2 ⟨he, by simp⟩)
end Go.Proofs.YtadidjhcgmeadaaGreatDoor

/-
  The library's contracts (the shelf's), laid at the seat's program.
-/
namespace Go.Proofs.YtadidjhcgmeadaaGreatDoor.Shr
open Go.Shelf Go.RowKit
def sortI_ren : Ren := ⟨fun | 5 => 82 | 8 => 111 | 7 => 110 | 19 => 137 | 20 => 138 | 10 => 128 | 11 => 129 | 12 => 130 | 13 => 131 | 14 => 132 | 15 => 133 | 16 => 134 | 17 => 135 | 18 => 136 | 30 => 151 | 31 => 152 | 32 => 153 | 33 => 154 | 34 => 155 | 35 => 156 | 40 => 168 | n => n, fun | 23 => 79 | 25 => 2 | 3 => 3 | 32 => 142 | 22 => 79 | 0 => 0 | 44 => 170 | 46 => 172 | 4 => 4 | 36 => 162 | 35 => 161 | 41 => 167 | 5 => 5 | 9 => 9 | 53 => 186 | 57 => 190 | 63 => 202 | 64 => 203 | n => n, fun | n => n⟩
theorem sortI : Go.Proofs.SlLaysM.n5 Tryz.prog sortI_ren := {
  mixed := by kernel_rfl
  f5 := ⟨Tryz.f82.name, by decide, Tryz.func82.trans (congrArg some (by kernel_rfl))⟩
  f7 := ⟨Tryz.f110.name, by decide, Tryz.func110.trans (congrArg some (by kernel_rfl))⟩
  f8 := Tryz.func111.trans (congrArg some (by kernel_rfl))
  f10 := ⟨Tryz.f128.name, by decide, Tryz.func128.trans (congrArg some (by kernel_rfl))⟩
  f11 := ⟨Tryz.f129.name, by decide, Tryz.func129.trans (congrArg some (by kernel_rfl))⟩
  f12 := ⟨Tryz.f130.name, by decide, Tryz.func130.trans (congrArg some (by kernel_rfl))⟩
  f13 := ⟨Tryz.f131.name, by decide, Tryz.func131.trans (congrArg some (by kernel_rfl))⟩
  f14 := ⟨Tryz.f132.name, by decide, Tryz.func132.trans (congrArg some (by kernel_rfl))⟩
  f15 := ⟨Tryz.f133.name, by decide, Tryz.func133.trans (congrArg some (by kernel_rfl))⟩
  f16 := ⟨Tryz.f134.name, by decide, Tryz.func134.trans (congrArg some (by kernel_rfl))⟩
  f17 := ⟨Tryz.f135.name, by decide, Tryz.func135.trans (congrArg some (by kernel_rfl))⟩
  f18 := ⟨Tryz.f136.name, by decide, Tryz.func136.trans (congrArg some (by kernel_rfl))⟩
  f19 := Tryz.func137.trans (congrArg some (by kernel_rfl))
  f20 := Tryz.func138.trans (congrArg some (by kernel_rfl))
  f30 := ⟨Tryz.f151.name, by decide, Tryz.func151.trans (congrArg some (by kernel_rfl))⟩
  f31 := Tryz.func152.trans (congrArg some (by kernel_rfl))
  f32 := Tryz.func153.trans (congrArg some (by kernel_rfl))
  f33 := ⟨Tryz.f154.name, by decide, Tryz.func154.trans (congrArg some (by kernel_rfl))⟩
  f34 := ⟨Tryz.f155.name, by decide, Tryz.func155.trans (congrArg some (by kernel_rfl))⟩
  f35 := ⟨Tryz.f156.name, by decide, Tryz.func156.trans (congrArg some (by kernel_rfl))⟩
  f40 := ⟨Tryz.f168.name, by decide, Tryz.func168.trans (congrArg some (by kernel_rfl))⟩
  t0 := Tryz.underlying0
  a0 := Tryz.isAgg0
  z0 := Tryz.sizeOf0
  v0 := Tryz.zeroValue0
  t3 := Tryz.underlying3
  a3 := Tryz.isAgg3
  z3 := Tryz.sizeOf3
  v3 := Tryz.zeroValue3
  t4 := Tryz.underlying4
  a4 := Tryz.isAgg4
  z4 := Tryz.sizeOf4
  v4 := Tryz.zeroValue4
  t5 := Tryz.underlying5
  a5 := Tryz.isAgg5
  z5 := Tryz.sizeOf5
  v5 := Tryz.zeroValue5
  t9 := Tryz.underlying9
  a9 := Tryz.isAgg9
  z9 := Tryz.sizeOf9
  v9 := Tryz.zeroValue9
  t22 := Tryz.underlying79
  a22 := Tryz.isAgg79
  z22 := Tryz.sizeOf79
  v22 := Tryz.zeroValue79
  t23 := Tryz.underlying79
  a23 := Tryz.isAgg79
  z23 := Tryz.sizeOf79
  v23 := Tryz.zeroValue79
  t25 := Tryz.underlying2
  a25 := Tryz.isAgg2
  z25 := Tryz.sizeOf2
  v25 := Tryz.zeroValue2
  t32 := Tryz.underlying142
  a32 := Tryz.isAgg142
  z32 := Tryz.sizeOf142
  v32 := Tryz.zeroValue142
  t35 := Tryz.underlying161
  a35 := Tryz.isAgg161
  z35 := Tryz.sizeOf161
  v35 := Tryz.zeroValue161
  t36 := Tryz.underlying162
  a36 := Tryz.isAgg162
  z36 := Tryz.sizeOf162
  v36 := Tryz.zeroValue162
  t41 := Tryz.underlying167
  a41 := Tryz.isAgg167
  z41 := Tryz.sizeOf167
  v41 := Tryz.zeroValue167
  t44 := Tryz.underlying170
  a44 := Tryz.isAgg170
  z44 := Tryz.sizeOf170
  v44 := Tryz.zeroValue170
  t46 := Tryz.underlying172
  a46 := Tryz.isAgg172
  z46 := Tryz.sizeOf172
  v46 := Tryz.zeroValue172
  t53 := Tryz.underlying186
  a53 := Tryz.isAgg186
  z53 := Tryz.sizeOf186
  v53 := Tryz.zeroValue186
  t57 := Tryz.underlying190
  a57 := Tryz.isAgg190
  z57 := Tryz.sizeOf190
  v57 := Tryz.zeroValue190
  t63 := Tryz.underlying202
  a63 := Tryz.isAgg202
  z63 := Tryz.sizeOf202
  v63 := Tryz.zeroValue202
  t64 := Tryz.underlying203
  a64 := Tryz.isAgg203
  z64 := Tryz.sizeOf203
  v64 := Tryz.zeroValue203 }
def compI_ren : Ren := ⟨fun | 43 => 83 | n => n, fun | 22 => 79 | 23 => 2 | 3 => 3 | 4 => 4 | 0 => 0 | n => n, fun | n => n⟩
theorem compI : Go.Proofs.SlLaysE.n43 Tryz.prog compI_ren := {
  mixed := by kernel_rfl
  f43 := ⟨Tryz.f83.name, by decide, Tryz.func83.trans (congrArg some (by kernel_rfl))⟩
  t0 := Tryz.underlying0
  a0 := Tryz.isAgg0
  z0 := Tryz.sizeOf0
  v0 := Tryz.zeroValue0
  t3 := Tryz.underlying3
  a3 := Tryz.isAgg3
  z3 := Tryz.sizeOf3
  v3 := Tryz.zeroValue3
  t4 := Tryz.underlying4
  a4 := Tryz.isAgg4
  z4 := Tryz.sizeOf4
  v4 := Tryz.zeroValue4
  t22 := Tryz.underlying79
  a22 := Tryz.isAgg79
  z22 := Tryz.sizeOf79
  v22 := Tryz.zeroValue79
  a23 := Tryz.isAgg2
  z23 := Tryz.sizeOf2 }
end Go.Proofs.YtadidjhcgmeadaaGreatDoor.Shr

/-
  copy of rows whose elements have several cells: laws for the walk. Of no function.
-/
namespace Go.Proofs.YtadidjhcgmeadaaGreatDoor
open Go.RowKit

theorem run_copy_rowN {P : Program} (w : World) (dT sT ty elem : TypeId) (g o dLen dCap : Nat) (a : Addr) (sLen sCap : Nat) (cur : Array Value) (t : TypeId) (cs : List Value) (size n : Nat)
    (hu : P.underlying dT = some (.slice elem)) (hs : (P.info? elem).map (·.size) = some size)
    (hg : w.heap[g]? = some (.cells cur t (0, 0))) (hm : Nat.min sLen dLen = n) (hn : cs.length = n * size)
    (hsrc : ∀ j v, cs[j]? = some v → w.cell? (a.add j) = some v) (hfit : o + cs.length ≤ cur.size) (h1 : ∀ v ∈ cs, v.oneCell' = true) :
    (Builtin.copy_ #[dT, sT] ty #[.slice (some ⟨g, o, none⟩) dLen dCap, .slice (some a) sLen sCap]).run P w =
      .ok (goInt n) (w.setRow g (cur.toList.take o ++ cs ++ cur.toList.drop (o + cs.length)).toArray) := by
  have hl := run_loadCells_list (P := P) w a cs hsrc
  have hst := run_storeCells_at P g o t cs 0 cur w hg (by simpa using hfit) h1
  rw [hn] at hl
  cases hq : P.info? elem with
  | none => simp [hq] at hs
  | some i =>
    have hi : i.size = size := by simpa [hq] using hs
    simp [Builtin.copy_, run_underlying hu, Builtin.lenOf, Builtin.firstCells, sizeOf, typeInfo, hq, hi, hm, hl, hst]
theorem grown_setRow (w : World) (g : Nat) (cs : Array Value) : w.grownBy (w.setRow g cs) (some g) :=
  ⟨rfl, rfl, rfl, by simp [World.setRow], fun k _ hk => setRow_other w g k cs (fun e => hk (by rw [e]))⟩
theorem wp_copyN {P : Program} {w : World} {o : Oper} {a : Act} {K : Act → World → Prop} {Q : Exit → Act → World → Prop} (d s : Operand) (dT sT : TypeId)
    (ho : o.op = .call { callee := .builtin .copy, args := #[d, s], argTypes := #[dT, sT] }) (elem : TypeId) (size n : Nat) (hu : P.underlying dT = some (.slice elem)) (hsz : (P.info? elem).map (·.size) = some size)
    (g off dLen dCap : Nat) (ad : Addr) (sLen sCap : Nat) (hd : a.eval d = .slice (some ⟨g, off, none⟩) dLen dCap) (hs : a.eval s = .slice (some ad) sLen sCap)
    (cur : List Value) (t : TypeId) (hg : w.heap[g]? = some (.cells cur.toArray t (0, 0))) (cs : List Value) (hm : Nat.min sLen dLen = n) (hn : cs.length = n * size)
    (hsrc : ∀ j v, cs[j]? = some v → w.cell? (ad.add j) = some v) (hfit : off + cs.length ≤ cur.length) (h1 : ∀ v ∈ cs, v.oneCell' = true)
    (h : ∀ w', Hid (w'.heap[g]? = some (.cells (splice cur off cs).toArray t (0, 0))) → Hid (w.grownBy w' (some g)) → K (a.put o.dst (goInt n)) w') : o.wp P a w K Q := by
  have hrun := run_copy_rowN (P := P) w dT sT o.type elem g off dLen dCap ad sLen sCap cur.toArray t cs size n hu hsz hg hm hn hsrc (by simpa using hfit) h1
  unfold Oper.wp
  simp [execOp, ho, resolve, invoke, builtin, hd, hs, hrun, Result.andThen]
  exact h _ (show _ = _ by simpa [splice] using setRow_heap w g _ _ t _ hg) (grown_setRow _ _ _)
theorem wpList_copyN {P : Program} {w : World} {ops : Array Oper} {rest : List Oper} {o : Oper} {a : Act} {Q : Exit → Act → World → Prop} (hgd : o.guard = none) (d s : Operand) (dT sT : TypeId)
    (ho : o.op = .call { callee := .builtin .copy, args := #[d, s], argTypes := #[dT, sT] }) (elem : TypeId) (size n : Nat) (hu : P.underlying dT = some (.slice elem)) (hsz : (P.info? elem).map (·.size) = some size)
    (g off dLen dCap : Nat) (ad : Addr) (sLen sCap : Nat) (hd : a.eval d = .slice (some ⟨g, off, none⟩) dLen dCap) (hs : a.eval s = .slice (some ad) sLen sCap)
    (cur : List Value) (t : TypeId) (hg : w.heap[g]? = some (.cells cur.toArray t (0, 0))) (cs : List Value) (hm : Nat.min sLen dLen = n) (hn : cs.length = n * size)
    (hsrc : ∀ j v, cs[j]? = some v → w.cell? (ad.add j) = some v) (hfit : off + cs.length ≤ cur.length) (h1 : ∀ v ∈ cs, v.oneCell' = true)
    (h : ∀ w', Hid (w'.heap[g]? = some (.cells (splice cur off cs).toArray t (0, 0))) → Hid (w.grownBy w' (some g)) → wpList P ops Q rest (a.put o.dst (goInt n)) w') : wpList P ops Q (o :: rest) a w :=
  wpList_plain hgd fun _ hK => wp_copyN d s dT sT ho elem size n hu hsz g off dLen dCap ad sLen sCap hd hs cur t hg cs hm hn hsrc hfit h1 (fun w' h' k => hK _ _ (h w' h' k))
theorem step_copyN {P : Program} {ops : Array Oper} {o : Oper} {a : Act} {w : World} {K : Act → World → Prop} {Q : Exit → Act → World → Prop} {E : Prop} (hgd : o.guard = none) (d s : Operand) (dT sT : TypeId)
    (ho : o.op = .call { callee := .builtin .copy, args := #[d, s], argTypes := #[dT, sT] }) (elem : TypeId) (size n : Nat) (hu : P.underlying dT = some (.slice elem)) (hsz : (P.info? elem).map (·.size) = some size)
    (g off dLen dCap : Nat) (ad : Addr) (sLen sCap : Nat) (hd : a.eval d = .slice (some ⟨g, off, none⟩) dLen dCap) (hs : a.eval s = .slice (some ad) sLen sCap)
    (cur : List Value) (t : TypeId) (hg : w.heap[g]? = some (.cells cur.toArray t (0, 0))) (cs : List Value) (hm : Nat.min sLen dLen = n) (hn : cs.length = n * size)
    (hsrc : ∀ j v, cs[j]? = some v → w.cell? (ad.add j) = some v) (hfit : off + cs.length ≤ cur.length) (h1 : ∀ v ∈ cs, v.oneCell' = true)
    (h : ∀ w', Hid (w'.heap[g]? = some (.cells (splice cur off cs).toArray t (0, 0))) → Hid (w.grownBy w' (some g)) → K (a.put o.dst (goInt n)) w') :
    if Region.wanted o (yielded ops a.tmps) = true then Oper.wp P o a w K Q else E := by
  rw [if_pos (show Region.wanted o (yielded ops a.tmps) = true by simp [Region.wanted, hgd])]
  exact wp_copyN d s dT sT ho elem size n hu hsz g off dLen dCap ad sLen sCap hd hs cur t hg cs hm hn hsrc hfit h1 h
end Go.Proofs.YtadidjhcgmeadaaGreatDoor
