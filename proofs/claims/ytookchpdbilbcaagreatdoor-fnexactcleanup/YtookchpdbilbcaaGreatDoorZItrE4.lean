/-
 Texts put together: ItrE, PrIdx, ImDef, ImDef2.
-/
import Derived.Test.YtookchpdbilbcaaGreatDoorZDfV7
import Derived.Test.YtookchpdbilbcaaGreatDoorZImRis3
import Derived.Test.YtookchpdbilbcaaGreatDoorZEvX11
import Derived.Test.YtookchpdbilbcaaGreatDoorZRunM3
import Derived.Lib.QuietBelow
import Derived.Laws.StructEq
import Derived.Test.YtookchpdbilbcaaGreatDoorZIsErr4
set_option maxRecDepth 100000
set_option maxHeartbeats 4000000
/-
 impl.eventsOf: the iterator hands out the events of a run: a contract over the seat's program.
-/
namespace Go.Proofs.YtookchpdbilbcaaGreatDoor
open Go.RowKit Go.Shelf
theorem ZH2 (b0 : Nat) (r : Int) (e : Ev) (X : World) (h : X.cell? ⟨b0, 0, none⟩ = some (.int .i64 r)) (hb : b0 < X.heap.size) :
  Calls Tryz.prog 107 #[evO e, .pointer (some ⟨b0, 0, none⟩)] X fun x X' => x = .returned (.bool (decide (e.run = r))) ∧ Below X.heap.size X X' := by
 have h1 : (X.alloc (.cells #[.int .i64 e.seq, .int .i64 e.time, .int .i64 e.run, .int .i64 e.kind, .string e.step, .string e.val] 57)).cell? ⟨b0, 0, none⟩ = some (.int .i64 r) := ((((Below.refl _ X).alloc nL _)).cell (p := ⟨b0, 0, none⟩) hb).trans h
 go_enter Tryz.func107, Tryz.ntmps107
 go_wp2
 go_ret
 exact ⟨rfl, (Below.refl _ X).alloc nL _⟩
theorem new4 (w : World) (o1 o2 o3 o4 : Obj) : ((((w.alloc o1).alloc o2).alloc o3).alloc o4).heap[w.heap.size]? = some o1 ∧ ((((w.alloc o1).alloc o2).alloc o3).alloc o4).heap[w.heap.size + 1]? = some o2 ∧ ((((w.alloc o1).alloc o2).alloc o3).alloc o4).heap[w.heap.size + 1 + 1]? = some o3 ∧ ((((w.alloc o1).alloc o2).alloc o3).alloc o4).heap[w.heap.size + 1 + 1 + 1]? = some o4 := by
 have h1 := heap_alloc_new w o1
 have h2 := heap_alloc_new (w.alloc o1) o2
 have h3 := heap_alloc_new ((w.alloc o1).alloc o2) o3
 have h4 := heap_alloc_new (((w.alloc o1).alloc o2).alloc o3) o4
 rw [World.size_alloc] at h2
 rw [World.size_alloc, World.size_alloc] at h3
 rw [World.size_alloc, World.size_alloc, World.size_alloc] at h4
 refine ⟨?_, ?_, ?_, h4⟩
 ·exact (Below.heap_alloc _ _ _ (by simp; omega)).trans ((Below.heap_alloc _ _ _ (by simp; omega)).trans ((Below.heap_alloc _ _ _ (by simp)).trans h1))
 ·exact (Below.heap_alloc _ _ _ (by simp)).trans ((Below.heap_alloc _ _ _ (by simp)).trans h2)
 ·exact (Below.heap_alloc _ _ _ (by simp)).trans h3
theorem ZE5 (a : Option Addr) (c : Nat) (es : List Ev) (r : Int) (w : World) (hE : EvSl w (.slice a es.length c) es) (hn : es.length ≤ maxLen) :
  Calls Tryz.prog 88 #[.slice a es.length c, .int .i64 r] w fun e w' => ∃ lb, e = .returned (.func (.func 122) #[] lb) ∧ (∀ T : List TypeId, 78 ∉ T → Sq T Tryz.prog 122 lb evA w'.heap.size (ofRun es r) w') ∧ Below w.heap.size w w' := by
 have HE := hid hE
 clear hE
 go_enter Tryz.func88, Tryz.ntmps88
 go_wp2
 refine bodyPost_ret (v := .func (.func 122) #[] #[.pointer (some ⟨w.heap.size + 1 + 1, 0, none⟩), .pointer (some ⟨w.heap.size + 1 + 1 + 1, 0, none⟩)]) (by simp [results, Tryz.results88, go_sem]) rfl ?_
 obtain ⟨n1, n2, n3, n4⟩ := new4 w (.cells #[.int .i64 r] 2) (.cells #[.slice a es.length c] 34) (.cells #[.func (.func 91) #[] #[.pointer (some ⟨w.heap.size + 1, 0, none⟩)]] 113) (.cells #[.func (.func 107) #[] #[.pointer (some ⟨w.heap.size, 0, none⟩)]] 78)
 have hb : Below w.heap.size w ((((w.alloc (.cells #[.int .i64 r] 2)).alloc (.cells #[.slice a es.length c] 34)).alloc (.cells #[.func (.func 91) #[] #[.pointer (some ⟨w.heap.size + 1, 0, none⟩)]] 113)).alloc (.cells #[.func (.func 107) #[] #[.pointer (some ⟨w.heap.size, 0, none⟩)]] 78)) := ((((Below.refl _ w).alloc nL _).alloc (by simp) _).alloc (by simp; omega) _).alloc (by simp; omega) _
 generalize ((((w.alloc (.cells #[.int .i64 r] 2)).alloc (.cells #[.slice a es.length c] 34)).alloc (.cells #[.func (.func 91) #[] #[.pointer (some ⟨w.heap.size + 1, 0, none⟩)]] 113)).alloc (.cells #[.func (.func 107) #[] #[.pointer (some ⟨w.heap.size, 0, none⟩)]] 78)) = W4 at *
 refine ⟨_, rfl, fun T hT => ?_, hb⟩
 refine ZHt T hT (w.heap.size + 1 + 1) (w.heap.size + 1 + 1 + 1) 91 107 W4.heap.size _ _ (fun e => decide (e.run = r)) es W4 nL (ce n3 rfl) n4 (ZAA n3)
  (enters_of Tryz.func91 (by kernel_rfl) rfl) (enters_of Tryz.func107 (by kernel_rfl) rfl)
  (ZFJ T (w.heap.size + 1) a c es w W4 W4.heap.size hb.size hb HE.out (ce n2 rfl) (ZAA n2) hn) ?_
 intro e X hX
 exact ZH2 w.heap.size r e X ((hX.cell (p := ⟨w.heap.size, 0, none⟩) (ZAA n1)).trans (ce n1 rfl)) (Nat.lt_of_lt_of_le (ZAA n1) hX.size)
end Go.Proofs.YtookchpdbilbcaaGreatDoor
/-
 What slices.Index and slices.Contains answer at a row of flows: contracts over the seat's program.
-/
namespace Go.Proofs.YtookchpdbilbcaaGreatDoor
open Go.RowKit Go.Sort
theorem ZJE (g o c : Nat) (ps : List Pr) (x y : ByteArray) (w : World) (hE : PrsAt w g o ps) (hn : ps.length ≤ maxLen) :
  Calls Tryz.prog 164 #[.slice (some ⟨g, o, none⟩) ps.length c, .agg #[.string x, .string y]] w fun e w' => ∃ I : Int, e = .returned (.int .i64 I) ∧ (0 ≤ I ↔ (⟨x, y⟩ : Pr) ∈ ps) ∧ Below w.heap.size w w' := by
 unfold maxLen at hn
 have mixed : Tryz.prog.follows .mixedOrders = true := by kernel_rfl
 have HE := hid hE
 clear hE
 go_enter Tryz.func164, Tryz.ntmps164
 go_wp2
 go_loopw [8] (fun i wr => ∃ k : Nat, k ≤ ps.length ∧ i = .int .i64 k ∧ (∀ j, j < k → (h : j < ps.length) → ps[j] ≠ ⟨x, y⟩) ∧ Below (w.heap.size + 1) (w.alloc (.cells #[.string x, .string y] 107)) wr) (fun i _ => ps.length - (intOf i).toNat)
 case atStart => exact ⟨0, Nat.zero_le _, rfl, fun j hj => absurd hj (by omega), Below.refl _ _⟩
 case round =>
  obtain ⟨k, hk, rfl, hall, hbel⟩ := hrel
  have HA := hid hall
  clear hall
  have hbw : Below w.heap.size w wr := ((Below.refl w.heap.size w).alloc nL _).trans (hbel.mono (by omega))
  by_cases hlt : k < ps.length
  ·obtain ⟨c0, c1⟩ := (HE.out.stay hbw nL).2 k hlt
   have b0 : wr.cell? ⟨w.heap.size, 0, none⟩ = some (.string x) := by rw [hbel.cell (p := ⟨w.heap.size, 0, none⟩) (Nat.lt_succ_self _)]; simp [go_sem]
   have b1 : wr.cell? ⟨w.heap.size, 1, none⟩ = some (.string y) := by rw [hbel.cell (p := ⟨w.heap.size, 1, none⟩) (Nat.lt_succ_self _)]; simp [go_sem]
   by_cases he : ps[k].fst = x
   ·by_cases he2 : ps[k].snd = y
    ·have HM := hid (show (⟨x, y⟩ : Pr) ∈ ps from (show ps[k] = ⟨x, y⟩ from pr_ext he he2) ▸ List.getElem_mem hlt)
     rw [he] at c0
     rw [he2] at c1
     clear he he2
     have k0 := cell_regrown c0
     have k1 := cell_regrown c1
     have l0 := cell_regrown b0
     have l1 := cell_regrown b1
     clear c0 c1 b0 b1
     go_wp2
     refine wp_region_quiet_below mixed (by kernel_rfl) ?_
     repeat (quiet_step (fail))
     refine wpQuiet_nil ?_
     intro _ hw'
     obtain ⟨⟨dq, osq⟩, hw''⟩ := hw'
     subst hw''
     have hbX := hbel.trans ((below_regrown wr dq osq).mono (by have := hbel.size; simpa using this))
     have hbY := hbw.trans ((below_regrown wr dq osq).mono hbw.size)
     clear k0 k1 l0 l1
     go_wp2
     go_ret
     exact ⟨k, rfl, ⟨fun _ => HM.out, fun _ => by omega⟩, hbY⟩
    ·have HO := hid (ZBw (hk := hlt) HA.out (fun e => he2 (congrArg Pr.snd e)))
     have hne := ZBV (fun e => he2 e.symm)
     rw [he] at c0
     generalize ps[k].snd = q2 at *
     clear he he2
     have k0 := cell_regrown c0
     have k1 := cell_regrown c1
     have l0 := cell_regrown b0
     have l1 := cell_regrown b1
     clear c0 c1 b0 b1
     go_wp2
     refine wp_region_quiet_below mixed (by kernel_rfl) ?_
     repeat (quiet_step (fail))
     refine wpQuiet_nil ?_
     intro _ hw'
     obtain ⟨⟨dq, osq⟩, hw''⟩ := hw'
     subst hw''
     have hbX := hbel.trans ((below_regrown wr dq osq).mono (by have := hbel.size; simpa using this))
     have hbY := hbw.trans ((below_regrown wr dq osq).mono hbw.size)
     clear k0 k1 l0 l1
     go_wp2
     go_roundw
     case rel => exact ⟨k + 1, by omega, by go_num, HO.out, hbX⟩
     case measure => simp [intOf]; omega
   ·have HO := hid (ZBw (hk := hlt) HA.out (fun e => he (congrArg Pr.fst e)))
    have hne := ZBV (fun e => he e.symm)
    generalize ps[k].fst = q1 at *
    generalize ps[k].snd = q2 at *
    clear he
    have k0 := cell_regrown c0
    have k1 := cell_regrown c1
    have l0 := cell_regrown b0
    have l1 := cell_regrown b1
    clear c0 c1 b0 b1
    go_wp2
    refine wp_region_quiet_below mixed (by kernel_rfl) ?_
    repeat (quiet_step (fail))
    refine wpQuiet_nil ?_
    intro _ hw'
    obtain ⟨⟨dq, osq⟩, hw''⟩ := hw'
    subst hw''
    have hbX := hbel.trans ((below_regrown wr dq osq).mono (by have := hbel.size; simpa using this))
    have hbY := hbw.trans ((below_regrown wr dq osq).mono hbw.size)
    clear k0 k1 l0 l1
    go_wp2
    go_roundw
    case rel => exact ⟨k + 1, by omega, by go_num, HO.out, hbX⟩
    case measure => simp [intOf]; omega
  ·have HF := hid (ZHh HA.out (by omega))
   go_wp2
   go_ret
   exact ⟨-1, rfl, ⟨fun e => absurd e (by decide), fun e => absurd e HF.out⟩, hbw⟩
theorem ZIL (a : Option Addr) (c : Nat) (x y : ByteArray) (w : World) :
  Calls Tryz.prog 164 #[.slice a 0 c, .agg #[.string x, .string y]] w fun e w' => ∃ I : Int, e = .returned (.int .i64 I) ∧ (0 ≤ I ↔ (⟨x, y⟩ : Pr) ∈ ([] : List Pr)) ∧ Below w.heap.size w w' := by
 go_enter Tryz.func164, Tryz.ntmps164
 go_wp2
 go_loop [8] (fun i => i = .int .i64 0) (fun _ => 0)
 case atStart => exact rfl
 case round =>
  subst hrel
  go_wp2
  go_ret
  exact ⟨(-1 : Int), rfl, by first | decide | simp, (bR _ _).alloc nL _⟩
theorem ZJR (v : Value) (ps : List Pr) (x y : ByteArray) (w : World) (h : PrSl w v ps) (hn : ps.length ≤ maxLen) :
  Calls Tryz.prog 164 #[v, .agg #[.string x, .string y]] w fun e w' => ∃ I : Int, e = .returned (.int .i64 I) ∧ (0 ≤ I ↔ (⟨x, y⟩ : Pr) ∈ ps) ∧ Below w.heap.size w w' := by
 rcases h with ⟨a, c, rfl, rfl⟩ | ⟨g, o, c, rfl, _, h⟩
 ·exact ZIL a c x y w
 ·exact ZJE g o c ps x y w h hn
theorem ZIq (v : Value) (ps : List Pr) (x y : ByteArray) (w : World) (h : PrSl w v ps) (hn : ps.length ≤ maxLen) :
  Calls Tryz.prog 147 #[v, .agg #[.string x, .string y]] w fun e w' => RetB e ((⟨x, y⟩ : Pr) ∈ ps) ∧ Below w.heap.size w w' := by
 obtain ⟨a, c, rfl⟩ := h.form
 have HE := hid h
 have HN := hid hn
 clear h hn
 go_enter Tryz.func147, Tryz.ntmps147
 go_wp2_with fail
 refine (ZJR _ ps x y _ (HE.out.stay ((Below.refl w.heap.size w).alloc nL _) nL) HN.out).mono ?_
 rintro e w1 ⟨I, rfl, hI, hb1⟩
 have HI := hid hI
 have hbA : Below w.heap.size w w1 := ((Below.refl w.heap.size w).alloc nL _).trans (hb1.mono (B' := w.heap.size) (by simp))
 clear hI hb1
 go_wp2
 go_ret
 exact ⟨⟨decide (0 ≤ I), rfl, ⟨fun e => HI.out.1 (of_decide_eq_true e), fun e => decide_eq_true (HI.out.2 e)⟩⟩, hbA⟩
end Go.Proofs.YtookchpdbilbcaaGreatDoor
/-
 What impl.twoAlike, impl.stepsRight, impl.flowsRight and impl.DefRight answer, for every Def: contracts over the seat's program.
-/
namespace Go.Proofs.YtookchpdbilbcaaGreatDoor
open Go.RowKit Go.Sort
theorem ZJC (g o c : Nat) (ss : List ByteArray) (w : World) (hE : StrsAt w g o ss) (hc : ss.length ≤ c) (hn : ss.length ≤ maxLen) :
  Calls Tryz.prog 118 #[.slice (some ⟨g, o, none⟩) ss.length c] w fun e w' => RetB e (¬ ss.Nodup) ∧ w' = w := by
 have HN := hid hn
 unfold maxLen at hn
 have HE := hid hE
 clear hE
 go_enter Tryz.func118, Tryz.ntmps118
 go_wp2
 go_loop [7] (fun i => ∃ k : Nat, k ≤ ss.length ∧ i = .int .i64 k ∧ ∀ j, j < k → (h : j < ss.length) → ss[j] ∉ ss.take j) (fun i => ss.length - (intOf i).toNat)
 case atStart => exact ⟨0, Nat.zero_le _, rfl, fun j hj => absurd hj (by omega)⟩
 case round =>
  obtain ⟨k, hk, rfl, hall⟩ := hrel
  have HA := hid hall
  clear hall
  by_cases hlt : k < ss.length
  ·have c0 := HE.out.2 k hlt
   have hcap : k ≤ c := by omega
   have cA : Calls Tryz.prog 121 #[.slice (some ⟨g, o, none⟩) k c, .string ss[k]] w fun e w' => e = .returned (.bool (inB (ss.take k) ss[k])) ∧ w' = w := ZF5 _ (ss.take k) ss[k] w (StrSl.part (n := ss.length) (.inr ⟨g, o, c, rfl, ⟨by omega, hc⟩, HE.out⟩) (by omega)) (by rw [List.length_take]; have := HN.out; omega)
   by_cases hm : ss[k] ∈ ss.take k
   ·rw [ZEN hm] at cA
    have HM := hid (ZBH hlt hm)
    clear hm
    go_wp2_with fail
    refine cA.mono ?_
    rintro e w1 ⟨rfl, rfl⟩
    go_wp2
    go_ret
    exact ⟨ZBG HM.out, rfl⟩
   ·rw [ZIA hm] at cA
    have HM := hid hm
    clear hm
    go_wp2_with fail
    refine cA.mono ?_
    rintro e w1 ⟨rfl, rfl⟩
    go_wp2
    go_round
    case rel => exact ⟨k + 1, by omega, by go_num, fun j hj h => by
     by_cases e : j = k
     ·subst e; exact HM.out
     ·exact HA.out j (by omega) h⟩
    case measure => simp [intOf]; omega
  ·have HF := hid (ZAu (fun i h => HA.out i (by omega) h))
   go_wp2
   go_ret
   exact ⟨ZAT (fun h => h HF.out), rfl⟩
theorem ZHP (a : Option Addr) (c : Nat) (w : World) :
  Calls Tryz.prog 118 #[.slice a 0 c] w fun e w' => e = .returned (.bool false) ∧ w' = w := by
 go_enter Tryz.func118, Tryz.ntmps118
 go_wp2
 go_loop [7] (fun i => i = .int .i64 0) (fun _ => 0)
 case atStart => exact rfl
 case round =>
  subst hrel
  go_wp2
  go_ret
  exact ⟨rfl, rfl⟩
theorem ZJU (v : Value) (ss : List ByteArray) (w : World) (h : StrSl w v ss) (hn : ss.length ≤ maxLen) :
  Calls Tryz.prog 118 #[v] w fun e w' => RetB e (¬ ss.Nodup) ∧ w' = w := by
 rcases h with ⟨a, c, rfl, rfl⟩ | ⟨g, o, c, rfl, hp, h⟩
 ·refine (ZHP a c w).mono ?_
  rintro e w' ⟨rfl, rfl⟩
  exact ⟨ZAT (fun h => h List.nodup_nil), rfl⟩
 ·exact ZJC g o c ss w h hp.2 hn
theorem ZI3 (g o c : Nat) (ps : List Pr) (w : World) (hE : PrsAt w g o ps) (hc : ps.length ≤ c) (hn : ps.length ≤ maxLen) :
  Calls Tryz.prog 120 #[.slice (some ⟨g, o, none⟩) ps.length c] w fun e w' => RetB e (¬ ps.Nodup) ∧ Below w.heap.size w w' := by
 have mixed : Tryz.prog.follows .mixedOrders = true := by kernel_rfl
 have HN := hid hn
 unfold maxLen at hn
 have HE := hid hE
 clear hE
 go_enter Tryz.func120, Tryz.ntmps120
 go_wp2
 go_loopw [7] (fun i wr => ∃ k : Nat, k ≤ ps.length ∧ i = .int .i64 k ∧ (∀ j, j < k → (h : j < ps.length) → ps[j] ∉ ps.take j) ∧ Below w.heap.size w wr) (fun i _ => ps.length - (intOf i).toNat)
 case atStart => exact ⟨0, Nat.zero_le _, rfl, fun j hj => absurd hj (by omega), Below.refl _ _⟩
 case round =>
  obtain ⟨k, hk, rfl, hall, hbel⟩ := hrel
  have HA := hid hall
  clear hall
  by_cases hlt : k < ps.length
  ·obtain ⟨c0, c1⟩ := (HE.out.stay hbel nL).2 k hlt
   have hcap : k ≤ c := by omega
   have hbW : Below w.heap.size w (wr.alloc (.cells #[.string ps[k].fst, .string ps[k].snd] 107)) := hbel.alloc hbel.size _
   have cA := fun d os => ZIq _ (ps.take k) ps[k].fst ps[k].snd _ (PrSl.stay (PrSl.part (n := ps.length) (k := k) (.inr ⟨g, o, c, rfl, ⟨by omega, hc⟩, HE.out.stay hbW nL⟩) (by omega)) (below_regrown _ d os) nL) (by rw [List.length_take]; have := HN.out; omega)
   by_cases hm : ps[k] ∈ ps.take k
   ·have HM := hid (ZBH hlt hm)
    replace cA := fun d os => ZBM (cA d os) hm
    generalize ps[k].fst = q1 at *
    generalize ps[k].snd = q2 at *
    clear hm
    go_wp2
    have z0 : (wr.alloc (.cells #[.string q1, .string q2] 107)).cell? ⟨wr.heap.size, 0, none⟩ = some (.string q1) := by simp [go_sem]
    have z1 : (wr.alloc (.cells #[.string q1, .string q2] 107)).cell? ⟨wr.heap.size, 1, none⟩ = some (.string q2) := by simp [go_sem]
    generalize wr.alloc (.cells #[.string q1, .string q2] 107) = W at *
    have z0' := cell_regrown z0
    have z1' := cell_regrown z1
    have d1 := fun d os => Calls.regrown_of (w := W) (d := d) (os := os) (cA d os)
    clear c0 c1 z0 z1 cA
    refine wp_region_quiet_below mixed (by kernel_rfl) ?_
    repeat (go_big_quiet_step ((go_at_call 147; exact d1 _ _)))
    refine wpQuiet_nil ?_
    intro _ hw'
    obtain ⟨⟨dq, osq⟩, hw''⟩ := hw'
    subst hw''
    have hbX := hbW.trans ((below_regrown W dq osq).mono hbW.size)
    clear z0' z1' d1
    go_wp2
    go_ret
    exact ⟨ZBG HM.out, hbX⟩
   ·have HM := hid hm
    replace cA := fun d os => ZBn (cA d os) hm
    generalize ps[k].fst = q1 at *
    generalize ps[k].snd = q2 at *
    clear hm
    go_wp2
    have z0 : (wr.alloc (.cells #[.string q1, .string q2] 107)).cell? ⟨wr.heap.size, 0, none⟩ = some (.string q1) := by simp [go_sem]
    have z1 : (wr.alloc (.cells #[.string q1, .string q2] 107)).cell? ⟨wr.heap.size, 1, none⟩ = some (.string q2) := by simp [go_sem]
    generalize wr.alloc (.cells #[.string q1, .string q2] 107) = W at *
    have z0' := cell_regrown z0
    have z1' := cell_regrown z1
    have d1 := fun d os => Calls.regrown_of (w := W) (d := d) (os := os) (cA d os)
    clear c0 c1 z0 z1 cA
    refine wp_region_quiet_below mixed (by kernel_rfl) ?_
    repeat (go_big_quiet_step ((go_at_call 147; exact d1 _ _)))
    refine wpQuiet_nil ?_
    intro _ hw'
    obtain ⟨⟨dq, osq⟩, hw''⟩ := hw'
    subst hw''
    have hbX := hbW.trans ((below_regrown W dq osq).mono hbW.size)
    clear z0' z1' d1
    go_wp2
    go_roundw
    case rel => exact ⟨k + 1, by omega, by go_num, fun j hj h => by
     by_cases e : j = k
     ·subst e; exact HM.out
     ·exact HA.out j (by omega) h, hbX⟩
    case measure => simp [intOf]; omega
  ·have HF := hid (ZAu (fun i h => HA.out i (by omega) h))
   go_wp2
   go_ret
   exact ⟨ZAT (fun h => h HF.out), hbel⟩
theorem ZHU (a : Option Addr) (c : Nat) (w : World) :
  Calls Tryz.prog 120 #[.slice a 0 c] w fun e w' => e = .returned (.bool false) ∧ w' = w := by
 go_enter Tryz.func120, Tryz.ntmps120
 go_wp2
 go_loop [7] (fun i => i = .int .i64 0) (fun _ => 0)
 case atStart => exact rfl
 case round =>
  subst hrel
  go_wp2
  go_ret
  exact ⟨rfl, rfl⟩
theorem ZJI (v : Value) (ps : List Pr) (w : World) (h : PrSl w v ps) (hn : ps.length ≤ maxLen) :
  Calls Tryz.prog 120 #[v] w fun e w' => RetB e (¬ ps.Nodup) ∧ Below w.heap.size w w' := by
 rcases h with ⟨a, c, rfl, rfl⟩ | ⟨g, o, c, rfl, hp, h⟩
 ·refine (ZHU a c w).mono ?_
  rintro e w' ⟨rfl, rfl⟩
  exact ⟨ZAT (fun h => h List.nodup_nil), Below.refl _ _⟩
 ·exact ZI3 g o c ps w h hp.2 hn
end Go.Proofs.YtookchpdbilbcaaGreatDoor
/-
 What impl.stepsRight, impl.flowsRight and impl.DefRight answer, for every Def: contracts over the seat's program.
-/
namespace Go.Proofs.YtookchpdbilbcaaGreatDoor
open Go.RowKit Go.Sort
theorem ZDK (a : Option Addr) (c : Nat) (ss : List ByteArray) (w : World) (h : StrSl w (.slice a ss.length c) ss) (hF : ∀ i, (h : i < ss.length) → ss[i].size ≤ maxLen) (hn : ss.length ≤ maxLen) :
  Calls Tryz.prog 103 #[.slice a ss.length c] w fun e w' => RetB e (StepsP ss) ∧ w' = w := by
 have c1 := ZJU _ ss w h hn
 unfold maxLen at hn
 by_cases h1 : ss.length < 1
 ·go_enter Tryz.func103, Tryz.ntmps103
  go_wp2
  go_ret
  exact ⟨ZAT (fun D => by have := D.n1; omega), rfl⟩
 ·by_cases h2 : 12 < ss.length
  ·go_enter Tryz.func103, Tryz.ntmps103
   go_wp2
   go_ret
   exact ⟨ZAT (fun D => by have := D.n2; omega), rfl⟩
  ·obtain ⟨g, o, rfl, hE⟩ := h.row (by omega)
   by_cases hd : ss.Nodup
   ·replace c1 := ZBn c1 (fun k => k hd)
    have HD := hid hd
    have HE := hid hE
    clear hd hE
    go_enter Tryz.func103, Tryz.ntmps103
    go_wp2_with fail
    refine c1.mono ?_
    rintro e w1 ⟨rfl, rfl⟩
    go_wp2
    go_loop [19] (fun i => ∃ k : Nat, k ≤ ss.length ∧ i = .int .i64 k ∧ ∀ j, j < k → (h : j < ss.length) → nrB ss[j] = true) (fun i => ss.length - (intOf i).toNat)
    case atStart => exact ⟨0, Nat.zero_le _, rfl, fun j hj => absurd hj (by omega)⟩
    case round =>
     obtain ⟨k, hk, rfl, hall⟩ := hrel
     have HA := hid hall
     clear hall
     by_cases hlt : k < ss.length
     ·have c0 := HE.out.2 k hlt
      have cN := ZAm ss[k] w1 (hF k hlt)
      cases hr : nrB ss[k] with
      | false =>
       rw [hr] at cN
       have HR := hid (show ¬ StepsP ss from fun D => by have := D.nm k hlt; rw [hr] at this; cases this)
       clear hr
       go_wp2_with fail
       refine cN.mono ?_
       rintro e w1 ⟨rfl, rfl⟩
       go_wp2
       go_ret
       exact ⟨ZAT HR.out, rfl⟩
      | true =>
       rw [hr] at cN
       have HR := hid hr
       clear hr
       go_wp2_with fail
       refine cN.mono ?_
       rintro e w1 ⟨rfl, rfl⟩
       go_wp2
       go_round
       case rel => exact ⟨k + 1, by omega, by go_num, fun j hj h => by
        by_cases e : j = k
        ·subst e; exact HR.out
        ·exact HA.out j (by omega) h⟩
       case measure => simp [intOf]; omega
     ·have HF := hid (show StepsP ss from ⟨by omega, by omega, fun i h => HA.out i (by omega) h, HD.out⟩)
      go_wp2
      go_ret
      exact ⟨ZBG HF.out, rfl⟩
   ·replace c1 := ZBM c1 hd
    have HD := hid hd
    clear hd
    go_enter Tryz.func103, Tryz.ntmps103
    go_wp2_with fail
    refine c1.mono ?_
    rintro e w1 ⟨rfl, rfl⟩
    go_wp2
    go_ret
    exact ⟨ZAT (fun D => HD.out D.nd), rfl⟩
theorem ZDb (a1 a2 : Option Addr) (k1 k2 : Nat) (ss : List ByteArray) (fs : List Pr) (w : World) (h1 : StrSl w (.slice a1 ss.length k1) ss) (h2 : PrSl w (.slice a2 fs.length k2) fs) (n1 : ss.length ≤ maxLen) (n2 : fs.length ≤ maxLen) :
  Calls Tryz.prog 104 #[.slice a1 ss.length k1, .slice a2 fs.length k2] w fun e w' => RetB e (FlowsP ss fs) ∧ Below w.heap.size w w' := by
 have c1 := ZJI _ fs w h2 n2
 have H1 := hid h1
 have H2 := hid h2
 have N1 := hid n1
 unfold maxLen at n1 n2
 clear h1 h2
 by_cases p1 : 40 < fs.length
 ·go_enter Tryz.func104, Tryz.ntmps104
  go_wp2
  go_ret
  exact ⟨ZAT (fun D => by have := D.m; omega), Below.refl _ _⟩
 ·by_cases hd : fs.Nodup
  ·replace c1 := ZBn c1 (fun k => k hd)
   have HD := hid hd
   clear hd
   go_enter Tryz.func104, Tryz.ntmps104
   go_wp2_with fail
   refine c1.mono ?_
   rintro e w1 ⟨rfl, hb1⟩
   go_wp2
   go_loopw [16] (fun i wr => ∃ k : Nat, k ≤ fs.length ∧ i = .int .i64 k ∧ (∀ j, j < k → (h : j < fs.length) → fs[j].fst ∈ ss ∧ fs[j].snd ∈ ss) ∧ Below w.heap.size w wr) (fun i _ => fs.length - (intOf i).toNat)
   case atStart => exact ⟨0, Nat.zero_le _, rfl, fun j hj => absurd hj (by omega), hb1⟩
   case round =>
    clear hb1 c1
    obtain ⟨k, hk, rfl, hall, hbel⟩ := hrel
    have HA := hid hall
    clear hall
    by_cases hlt : k < fs.length
    ·obtain ⟨g2, o2, rfl, hQ⟩ := H2.out.row (by omega)
     obtain ⟨c0, c1⟩ := (hQ.stay hbel nL).2 k hlt
     have HK := hid (fun (D : FlowsP ss fs) => D.fl k hlt)
     have hbW : Below w.heap.size w (wr.alloc (.cells #[.string fs[k].fst, .string fs[k].snd] 107)) := hbel.alloc hbel.size _
     have cA := fun t => ZF5 _ ss t _ (H1.out.stay hbW nL) N1.out
     by_cases hf : fs[k].fst ∈ ss
     ·by_cases ht : fs[k].snd ∈ ss
      ·have c2 := cA fs[k].fst
       have c3 := cA fs[k].snd
       rw [ZEN hf] at c2
       rw [ZEN ht] at c3
       have HF := hid hf
       have HT := hid ht
       clear hf ht cA hQ
       go_wp2_with fail
       refine c2.mono ?_
       rintro e w2 ⟨rfl, rfl⟩
       go_wp2_with fail
       refine c3.mono ?_
       rintro e w2 ⟨rfl, rfl⟩
       go_wp2
       go_roundw
       case rel => exact ⟨k + 1, by omega, by go_num, fun j hj h => by
        by_cases e : j = k
        ·subst e; exact ⟨HF.out, HT.out⟩
        ·exact HA.out j (by omega) h, hbW⟩
       case measure => simp [intOf]; omega
      ·have c2 := cA fs[k].fst
       have c3 := cA fs[k].snd
       rw [ZEN hf] at c2
       rw [ZIA ht] at c3
       have HT := hid ht
       clear hf ht cA hQ
       go_wp2_with fail
       refine c2.mono ?_
       rintro e w2 ⟨rfl, rfl⟩
       go_wp2_with fail
       refine c3.mono ?_
       rintro e w2 ⟨rfl, rfl⟩
       go_wp2
       go_ret
       exact ⟨ZAT (fun D => HT.out (HK.out D).2), hbW⟩
     ·have c2 := cA fs[k].fst
      rw [ZIA hf] at c2
      have HF := hid hf
      clear hf cA hQ
      go_wp2_with fail
      refine c2.mono ?_
      rintro e w2 ⟨rfl, rfl⟩
      go_wp2
      go_ret
      exact ⟨ZAT (fun D => HF.out (HK.out D).1), hbW⟩
    ·have HF := hid (show FlowsP ss fs from ⟨by omega, fun i h => HA.out i (by omega) h, HD.out⟩)
     go_wp2
     go_ret
     exact ⟨ZBG HF.out, hbel⟩
  ·replace c1 := ZBM c1 hd
   have HD := hid hd
   clear hd
   go_enter Tryz.func104, Tryz.ntmps104
   go_wp2_with fail
   refine c1.mono ?_
   rintro e w1 ⟨rfl, hb1⟩
   go_wp2
   go_ret
   exact ⟨ZAT (fun D => HD.out D.fd), hb1⟩
theorem ZBJ (a1 a2 : Option Addr) (k1 k2 : Nat) (ss : List ByteArray) (fs : List Pr) (w : World) (h1 : StrSl w (.slice a1 ss.length k1) ss) (h2 : PrSl w (.slice a2 fs.length k2) fs) (hF : ∀ i, (h : i < ss.length) → ss[i].size ≤ maxLen) (n1 : ss.length ≤ maxLen) (n2 : fs.length ≤ maxLen) :
  Calls Tryz.prog 84 #[.agg #[.slice a1 ss.length k1, .slice a2 fs.length k2]] w fun e w' => RetB e (DefP ss fs) ∧ Below w.heap.size w w' := by
 have hbW : Below w.heap.size w (w.alloc (.cells #[.slice a1 ss.length k1, .slice a2 fs.length k2] 33)) := (bR _ _).alloc nL _
 have c1 := ZDK a1 k1 ss _ (h1.stay hbW nL) hF n1
 have c2 := ZDb a1 a2 k1 k2 ss fs _ (h1.stay hbW nL) (h2.stay hbW nL) n1 n2
 clear h1 h2 hF n1 n2
 by_cases hs : StepsP ss
 ·replace c1 := ZBM c1 hs
  have HS := hid hs
  clear hs
  by_cases hf : FlowsP ss fs
  ·replace c2 := ZBM c2 hf
   have HP := hid hf
   clear hf
   go_enter Tryz.func84, Tryz.ntmps84
   go_wp2_with fail
   refine c1.mono ?_
   rintro e w1 ⟨rfl, rfl⟩
   go_wp2_with fail
   refine c2.mono ?_
   rintro e w1 ⟨rfl, hb⟩
   go_wp2
   go_ret
   exact ⟨ZBG ⟨HS.out, HP.out⟩, hbW.trans (hb.mono (by simp))⟩
  ·replace c2 := ZBn c2 hf
   have HP := hid hf
   clear hf
   go_enter Tryz.func84, Tryz.ntmps84
   go_wp2_with fail
   refine c1.mono ?_
   rintro e w1 ⟨rfl, rfl⟩
   go_wp2_with fail
   refine c2.mono ?_
   rintro e w1 ⟨rfl, hb⟩
   go_wp2
   go_ret
   exact ⟨ZAT (fun D => HP.out D.2), hbW.trans (hb.mono (by simp))⟩
 ·replace c1 := ZBn c1 hs
  have HS := hid hs
  clear hs
  go_enter Tryz.func84, Tryz.ntmps84
  go_wp2_with fail
  refine c1.mono ?_
  rintro e w1 ⟨rfl, rfl⟩
  go_wp2
  go_ret
  exact ⟨ZAT (fun D => HS.out D.1), hbW⟩
end Go.Proofs.YtookchpdbilbcaaGreatDoor
