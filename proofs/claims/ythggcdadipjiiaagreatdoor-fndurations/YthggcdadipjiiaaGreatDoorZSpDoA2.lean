/-
  Texts put together: SpDoA, SpStep.
-/
import Derived.Test.YthggcdadipjiiaaGreatDoorZSpDo24
import Derived.Test.YthggcdadipjiiaaGreatDoorZSpDo4
import Derived.Test.YthggcdadipjiiaaGreatDoorZSpDo5
import Derived.Test.YthggcdadipjiiaaGreatDoorZRiseM4
import Derived.Test.YthggcdadipjiiaaGreatDoorZSpOut6
/-
  What spec.l03Do does at every right event: a contract over the seat's program.
-/
namespace Go.Proofs.YthggcdadipjiiaaGreatDoor
open Go.RowKit Go.Sort

/-- A State's rows are one's own, each by itself. -/
structure StOwn (w : World) (lo : Nat) (v3 v4 v5 : Value) (S : St) : Prop where
  o3 : w.ownsRow lo 9 1 v3 S.wait.length (S.wait.map Value.string)
  o4 : w.ownsRow lo 9 1 v4 S.busy.length (S.busy.map Value.string)
  o5 : w.ownsRow lo 138 2 v5 S.vars.length (S.vars.flatMap Pr.cells)
  a34 : Apart v3 v4
theorem StOwn.stay {w w' : World} {lo : Nat} {v3 v4 v5 : Value} {S : St} (h : StOwn w lo v3 v4 v5 S) (hb : Below w.heap.size w w') : StOwn w' lo v3 v4 v5 S := ⟨ownB_stay h.o3 hb, ownB_stay h.o4 hb, ownB_stay h.o5 hb, h.a34⟩
/-- A block that holds a State. -/
def SaS (w : World) (B : Nat) (v3 v4 v5 : Value) (S : St) : Prop := SaB w B S.status S.begun S.last v3 v4 v5 S.faults
def evV (e : Ev) : Value := .agg #[.int .i64 e.seq, .int .i64 e.time, .int .i64 e.run, .int .i64 e.kind, .string e.step, .string e.val]
theorem l03Do_any (a1 a2 : Option Addr) (k1 k2 B lo : Nat) (ss : List ByteArray) (fs : List Pr) (v3 v4 v5 : Value) (S : St) (e : Ev) (w : World)
    (hS : SaS w B v3 v4 v5 S) (hO : StOwn w lo v3 v4 v5 S) (h1 : StrSl w (.slice a1 ss.length k1) ss) (h2 : PrSl w (.slice a2 fs.length k2) fs) (h0 : 0 < ss.length) (hfl : fs.length ≤ 40)
    (hg1 : ∀ g o, a1 = some ⟨g, o, none⟩ → ¬ g = B) (hg2 : ∀ g o, a2 = some ⟨g, o, none⟩ → ¬ g = B) (n3 : S.wait.length ≤ 1000) (n4 : S.busy.length ≤ 1000) (n5 : S.vars.length ≤ 1000) (hf0 : 0 ≤ S.faults) (hlo : lo ≤ w.heap.size)
    (hk : e.kind = 1 ∨ e.kind = 2 ∨ e.kind = 3 ∨ e.kind = 4 ∨ e.kind = 5 ∨ e.kind = 6) :
    Calls Tryz.prog 80 #[.agg #[.slice a1 ss.length k1, .slice a2 fs.length k2], .pointer (some ⟨B, 0, none⟩), evV e] w fun x w' => x = .returned (.int .i64 (doS ss fs S e).1) ∧ Chg (fun j => j = B) w w' ∧ ((doS ss fs S e).1 = 0 → ∃ u3 u4 u5, SaS w' B u3 u4 u5 (doS ss fs S e).2 ∧ StOwn w' lo u3 u4 u5 (doS ss fs S e).2) := by
  obtain ⟨a3, k3, rfl⟩ := ownB_form hO.o3
  obtain ⟨a4, k4, rfl⟩ := ownB_form hO.o4
  obtain ⟨a5, k5, rfl⟩ := ownB_form hO.o5
  have h3 := str_of_own hO.o3
  have h4 := str_of_own hO.o4
  have m3 : S.wait.length ≤ maxLen := by unfold maxLen; omega
  have m4 : S.busy.length ≤ maxLen := by unfold maxLen; omega
  have kp3 : ∀ w', Chg (fun j => j = B) w w' → w'.ownsRow lo 9 1 (.slice a3 S.wait.length k3) S.wait.length (S.wait.map Value.string) := fun w' hc => own_chg hO.o3 hc (own_ne hO.o3 hS (by decide))
  have kp4 : ∀ w', Chg (fun j => j = B) w w' → w'.ownsRow lo 9 1 (.slice a4 S.busy.length k4) S.busy.length (S.busy.map Value.string) := fun w' hc => own_chg hO.o4 hc (own_ne hO.o4 hS (by decide))
  have kp5 : ∀ w', Chg (fun j => j = B) w w' → w'.ownsRow lo 138 2 (.slice a5 S.vars.length k5) S.vars.length (S.vars.flatMap Pr.cells) := fun w' hc => own_chg hO.o5 hc (own_ne hO.o5 hS (by decide))
  obtain ⟨q, t, r, k, s, v⟩ := e
  simp only at hk
  have fail : ∀ (c : Int) (x : Ending) (w' : World), ¬ c = 0 → x = .returned (.int .i64 c) → Chg (fun j => j = B) w w' → x = .returned (.int .i64 ((c, z0) : Int × St).1) ∧ Chg (fun j => j = B) w w' ∧ (((c, z0) : Int × St).1 = 0 → ∃ u3 u4 u5, SaS w' B u3 u4 u5 ((c, z0) : Int × St).2 ∧ StOwn w' lo u3 u4 u5 ((c, z0) : Int × St).2) := fun c x w' hc hx hC => ⟨hx, hC, fun h => absurd h hc⟩
  rcases hk with rfl | rfl | rfl | rfl | rfl | rfl
  · rw [show doS ss fs S ⟨q, t, r, 1, s, v⟩ = (0, { S with status := 1, begun := t, last := t, wait := ss.take 1 }) from rfl]
    refine (l03Do_start a1 a2 a3 a4 k1 k2 k3 k4 B ss fs _ _ _ _ q t r S.wait S.busy _ s v w hS h3 h4 m3 m4 h1 h0 hg1).mono ?_
    rintro x w' ⟨g, rfl, hS', hO', hC⟩
    have ht : ss.take 1 = [ss[0]] := by
      cases ss with
      | nil => simp at h0
      | cons y r => rfl
    refine ⟨rfl, hC, fun _ => ⟨_, _, _, hS', ?_, kp4 _ hC, kp5 _ hC, ?_⟩⟩
    · show w'.ownsRow lo _ 1 _ (ss.take 1).length ((ss.take 1).map Value.string)
      rw [ht]
      exact ownB_le hO' hlo
    · exact (apart_of hO.o4 hO' (Nat.le_refl _) (Nat.le_refl _)).symm
  · by_cases hm : atI S.wait s < 0
    · rw [show doS ss fs S ⟨q, t, r, 2, s, v⟩ = (6, z0) from if_pos hm]
      refine (l03Do_enter_none a1 a2 a3 a4 k1 k2 k3 k4 B ss fs _ _ _ _ q t r S.wait S.busy _ s v w hS h3 h4 m3 m4 hm).mono ?_
      rintro x w' ⟨hx, hb⟩
      exact fail 6 x w' (by decide) hx (Chg.of_below hb)
    · rw [show doS ss fs S ⟨q, t, r, 2, s, v⟩ = (0, { S with wait := outT S.wait (atI S.wait s).toNat, busy := putT S.busy s, last := t }) from if_neg hm]
      obtain ⟨hk, _⟩ := at_lt hm
      refine (l03Do_enter_yes a1 a2 a3 a4 k1 k2 k3 k4 B ss fs _ _ _ _ q t r S.wait S.busy _ s v w hS h3 h4 m3 m4 lo lo (atI S.wait s).toNat hO.o3 hO.o4 hk (by omega) (by omega) (by omega)).mono ?_
      rintro x w' ⟨c3, e3, c4, e4, rfl, hS', hO3, hO4, hA, hC⟩
      exact ⟨rfl, hC, fun _ => ⟨_, _, _, hS', ownB_le hO3 hlo, ownB_le hO4 hlo, kp5 _ hC, hA⟩⟩
  · by_cases hm : atI S.busy s < 0
    · rw [show doS ss fs S ⟨q, t, r, 3, s, v⟩ = (6, z0) from if_pos hm]
      refine (l03Do_leave_none a1 a2 a3 a4 k1 k2 k3 k4 B ss fs _ _ _ _ q t r S.wait S.busy _ s v w hS h3 h4 m3 m4 hm).mono ?_
      rintro x w' ⟨hx, hb⟩
      exact fail 6 x w' (by decide) hx (Chg.of_below hb)
    · obtain ⟨hk, _⟩ := at_lt hm
      have hBl := SaB.lt hS
      by_cases hf : 40 < (putF s fs S.wait).length + (outT S.busy (atI S.busy s).toNat).length
      · rw [show doS ss fs S ⟨q, t, r, 3, s, v⟩ = (9, z0) from (if_neg hm).trans (if_pos hf)]
        refine (l03Do_leave_full a1 a2 a3 a4 k1 k2 k3 k4 B ss fs _ _ _ _ q t r S.wait S.busy _ s v w hS h3 h4 m3 m4 lo lo (atI S.busy s).toNat lo hO.o3 hO.o4 hk (by omega) n3 (by omega) h2 hfl hg2 (by omega) (Nat.le_refl _) hlo hO.a34 hf).mono ?_
        rintro x w' ⟨hx, hC⟩
        exact fail 9 x w' (by decide) hx hC
      · rw [show doS ss fs S ⟨q, t, r, 3, s, v⟩ = (0, { S with wait := putF s fs S.wait, busy := outT S.busy (atI S.busy s).toNat, last := t }) from (if_neg hm).trans (if_neg hf)]
        refine (l03Do_leave_yes a1 a2 a3 a4 k1 k2 k3 k4 B ss fs _ _ _ _ q t r S.wait S.busy _ s v w hS h3 h4 m3 m4 lo lo (atI S.busy s).toNat lo hO.o3 hO.o4 hk (by omega) n3 (by omega) h2 hfl hg2 (by omega) (Nat.le_refl _) hlo hO.a34 hf).mono ?_
        rintro x w' ⟨c3, e3, c4, e4, rfl, hS', hO3, hO4, hA, hC⟩
        exact ⟨rfl, hC, fun _ => ⟨_, _, _, hS', hO3, hO4, kp5 _ hC, hA⟩⟩
  · by_cases hf : 20 < (setV S.vars ⟨s, v⟩).length
    · rw [show doS ss fs S ⟨q, t, r, 4, s, v⟩ = (9, z0) from if_pos hf]
      refine (l03Do_set_full a1 a2 a3 a4 a5 k1 k2 k3 k4 k5 B ss fs _ _ _ _ q t r S.wait S.busy S.vars s v w hS h3 h4 m3 m4 lo hO.o5 (by omega) hf).mono ?_
      rintro x w' ⟨hx, hC⟩
      exact fail 9 x w' (by decide) hx hC
    · rw [show doS ss fs S ⟨q, t, r, 4, s, v⟩ = (0, { S with vars := setV S.vars ⟨s, v⟩, last := t }) from if_neg hf]
      refine (l03Do_set_yes a1 a2 a3 a4 a5 k1 k2 k3 k4 k5 B ss fs _ _ _ _ q t r S.wait S.busy S.vars s v w hS h3 h4 m3 m4 lo hO.o5 (by omega) hf).mono ?_
      rintro x w' ⟨c5, e5, rfl, hS', hO5, hC⟩
      exact ⟨rfl, hC, fun _ => ⟨_, _, _, hS', kp3 _ hC, kp4 _ hC, ownB_le hO5 hlo, hO.a34⟩⟩
  · by_cases hm : atI S.busy s < 0
    · rw [show doS ss fs S ⟨q, t, r, 5, s, v⟩ = (6, z0) from if_pos hm]
      refine (l03Do_fault_none a1 a2 a3 a4 k1 k2 k3 k4 B ss fs _ _ _ _ q t r S.wait S.busy _ s v w hS h3 h4 m3 m4 hm).mono ?_
      rintro x w' ⟨hx, hb⟩
      exact fail 6 x w' (by decide) hx (Chg.of_below hb)
    · by_cases hf : 1000000 ≤ S.faults
      · rw [show doS ss fs S ⟨q, t, r, 5, s, v⟩ = (9, z0) from (if_neg hm).trans (if_pos hf)]
        refine (l03Do_fault_full a1 a2 a3 a4 k1 k2 k3 k4 B ss fs _ _ _ _ q t r S.wait S.busy _ s v w hS h3 h4 m3 m4 (by omega) hf).mono ?_
        rintro x w' ⟨hx, hb⟩
        exact fail 9 x w' (by decide) hx (Chg.of_below hb)
      · rw [show doS ss fs S ⟨q, t, r, 5, s, v⟩ = (0, { S with faults := S.faults + 1, last := t }) from (if_neg hm).trans (if_neg hf)]
        refine (l03Do_fault_yes a1 a2 a3 a4 k1 k2 k3 k4 B ss fs _ _ _ _ q t r S.wait S.busy _ s v w hS h3 h4 m3 m4 (by omega) (by omega) hf0).mono ?_
        rintro x w' ⟨rfl, hS', hC⟩
        exact ⟨rfl, hC, fun _ => ⟨_, _, _, hS', kp3 _ hC, kp4 _ hC, kp5 _ hC, hO.a34⟩⟩
  · by_cases hm : 0 < S.wait.length + S.busy.length
    · rw [show doS ss fs S ⟨q, t, r, 6, s, v⟩ = (10, z0) from if_pos hm]
      refine (l03Do_end_no a1 a2 a3 a4 k1 k2 k3 k4 B ss fs _ _ _ _ q t r S.wait S.busy _ s v w hS h3 h4 m3 m4 (decide_eq_true (by omega)) (by omega) (by omega)).mono ?_
      rintro x w' ⟨hx, hb⟩
      exact fail 10 x w' (by decide) hx (Chg.of_below hb)
    · rw [show doS ss fs S ⟨q, t, r, 6, s, v⟩ = (0, { S with status := 2, last := t }) from if_neg hm]
      refine (l03Do_end_yes a1 a2 a3 a4 k1 k2 k3 k4 B ss fs _ _ _ _ q t r S.wait S.busy _ s v w hS h3 h4 m3 m4 (decide_eq_false (by omega)) (by omega) (by omega)).mono ?_
      rintro x w' ⟨rfl, hS', hC⟩
      exact ⟨rfl, hC, fun _ => ⟨_, _, _, hS', kp3 _ hC, kp4 _ hC, kp5 _ hC, hO.a34⟩⟩
end Go.Proofs.YthggcdadipjiiaaGreatDoor

/-
  What spec.l03Step answers: contracts over the seat's program. (Made by mkstep.py.)
-/
namespace Go.Proofs.YthggcdadipjiiaaGreatDoor
open Go.RowKit Go.Sort

/-- A StateOut, cell by cell. -/
def outV (c : Int) (S : St) (v3 v4 v5 : Value) : Value := .agg #[.int .i64 S.status, .int .i64 S.begun, .int .i64 S.last, v3, v4, v5, .int .i64 S.faults, .int .i64 c]
theorem StOwn.none (w : World) (lo : Nat) : StOwn w lo (.slice none 0 0) (.slice none 0 0) (.slice none 0 0) z0 := ⟨World.ownsRow_nil _ _ _ _, World.ownsRow_nil _ _ _ _, World.ownsRow_nil _ _ _ _, fun g hg => by cases hg⟩
theorem below4 (w : World) (o1 o2 o3 o4 : Obj) : Below w.heap.size w ((((w.alloc o1).alloc o2).alloc o3).alloc o4) := ((((Below.refl _ _).alloc (Nat.le_refl _) o1).alloc (by simp) o2).alloc (by simp; omega) o3).alloc (by simp; omega) o4
theorem StOwn.chg {p : Nat → Prop} {w w' : World} {lo : Nat} {v3 v4 v5 : Value} {S : St} (h : StOwn w lo v3 v4 v5 S) (hc : Chg p w w') (hp : ∀ j, lo ≤ j → ¬ p j) : StOwn w' lo v3 v4 v5 S := ⟨own_chg h.o3 hc (fun g hg => hp g (h.o3.lt g hg).1), own_chg h.o4 hc (fun g hg => hp g (h.o4.lt g hg).1), own_chg h.o5 hc (fun g hg => hp g (h.o5.lt g hg).1), h.a34⟩
/-- What every end of such a call says. -/
def StepPost (n : Nat) (w : World) (c : Int) (S : St) (x : Ending) (w' : World) : Prop := ∃ u3 u4 u5, x = .returned (outV c S u3 u4 u5) ∧ StOwn w' n u3 u4 u5 S ∧ Below w.heap.size w w'
theorem StOwn.turn {R : Nat} {w w' : World} {lo : Nat} {v3 v4 v5 : Value} {S : St} {c : Array Value} {t : TypeId} {f : Nat × Nat} (h : StOwn w lo v3 v4 v5 S) (hc : Chg (fun j => j = R) w w') (hR : w.heap[R]? = some (.cells c t f)) (h1 : 9 ≠ t) (h2 : 138 ≠ t) : StOwn w' lo v3 v4 v5 S :=
  ⟨own_chg h.o3 hc (own_ne h.o3 hR h1), own_chg h.o4 hc (own_ne h.o4 hR h1), own_chg h.o5 hc (own_ne h.o5 hR h2), h.a34⟩
theorem doS_no {ss : List ByteArray} {fs : List Pr} {S : St} {e : Ev} (h : ¬ (doS ss fs S e).1 = 0) : (doS ss fs S e).2 = z0 := by
  unfold doS
  repeat' split
  all_goals first | rfl | (exfalso; apply h; unfold doS; simp [*])
set_option maxRecDepth 100000 in
set_option maxHeartbeats 4000000 in
theorem l03Step_state1 (a1 a2 a3 a4 a5 : Option Addr) (k1 k2 k3 k4 k5 : Nat) (ss : List ByteArray) (fs : List Pr) (st bg la fa q t r k : Int) (wt bs : List ByteArray) (vs : List Pr) (s v : ByteArray) (w : World) (hk : (k == 1) = true) (hs : ¬ st = 0) :
    Calls Tryz.prog 50 #[.agg #[.slice a1 ss.length k1, .slice a2 fs.length k2], .agg #[.int .i64 st, .int .i64 bg, .int .i64 la, .slice a3 wt.length k3, .slice a4 bs.length k4, .slice a5 vs.length k5, .int .i64 fa], .agg #[.int .i64 q, .int .i64 t, .int .i64 r, .int .i64 k, .string s, .string v]] w fun e w' => StepPost w.heap.size w 10 z0 e w' := by
  have HB := hid (below4 w (.cells #[.slice a1 ss.length k1, .slice a2 fs.length k2] 26) (.cells #[.int .i64 st, .int .i64 bg, .int .i64 la, .slice a3 wt.length k3, .slice a4 bs.length k4, .slice a5 vs.length k5, .int .i64 fa] 91) (.cells #[.int .i64 q, .int .i64 t, .int .i64 r, .int .i64 k, .string s, .string v] 33) (.cells #[.int .i64 0, .int .i64 0, .int .i64 0, .slice none 0 0, .slice none 0 0, .slice none 0 0, .int .i64 0, .int .i64 10] 93))
  go_enter Tryz.func50, Tryz.ntmps50
  go_wp2_with fail
  exact bodyPost_ret (v := outV 10 z0 (.slice none 0 0) (.slice none 0 0) (.slice none 0 0)) (by simp [results, Tryz.results50, go_sem, outV, z0]) rfl ⟨_, _, _, rfl, StOwn.none _ _, HB.out⟩
set_option maxRecDepth 100000 in
set_option maxHeartbeats 4000000 in
theorem l03Step_state2 (a1 a2 a3 a4 a5 : Option Addr) (k1 k2 k3 k4 k5 : Nat) (ss : List ByteArray) (fs : List Pr) (st bg la fa q t r k : Int) (wt bs : List ByteArray) (vs : List Pr) (s v : ByteArray) (w : World) (hk2 : ¬ k = 1) (hs : ¬ st = 1) :
    Calls Tryz.prog 50 #[.agg #[.slice a1 ss.length k1, .slice a2 fs.length k2], .agg #[.int .i64 st, .int .i64 bg, .int .i64 la, .slice a3 wt.length k3, .slice a4 bs.length k4, .slice a5 vs.length k5, .int .i64 fa], .agg #[.int .i64 q, .int .i64 t, .int .i64 r, .int .i64 k, .string s, .string v]] w fun e w' => StepPost w.heap.size w 10 z0 e w' := by
  have hkb : (k != 1) = true := by simpa using hk2
  have hsb : (st != 1) = true := by simpa using hs
  have HB := hid (below4 w (.cells #[.slice a1 ss.length k1, .slice a2 fs.length k2] 26) (.cells #[.int .i64 st, .int .i64 bg, .int .i64 la, .slice a3 wt.length k3, .slice a4 bs.length k4, .slice a5 vs.length k5, .int .i64 fa] 91) (.cells #[.int .i64 q, .int .i64 t, .int .i64 r, .int .i64 k, .string s, .string v] 33) (.cells #[.int .i64 0, .int .i64 0, .int .i64 0, .slice none 0 0, .slice none 0 0, .slice none 0 0, .int .i64 0, .int .i64 10] 93))
  go_enter Tryz.func50, Tryz.ntmps50
  go_wp2_with fail
  exact bodyPost_ret (v := outV 10 z0 (.slice none 0 0) (.slice none 0 0) (.slice none 0 0)) (by simp [results, Tryz.results50, go_sem, outV, z0]) rfl ⟨_, _, _, rfl, StOwn.none _ _, HB.out⟩
set_option maxRecDepth 100000 in
set_option maxHeartbeats 4000000 in
theorem l03Step_early1 (a1 a2 a3 a4 a5 : Option Addr) (k1 k2 k3 k4 k5 : Nat) (ss : List ByteArray) (fs : List Pr) (st bg la fa q t r k : Int) (wt bs : List ByteArray) (vs : List Pr) (s v : ByteArray) (w : World) (hk : k = 1) (hs : st = 0) (ht : t < la) :
    Calls Tryz.prog 50 #[.agg #[.slice a1 ss.length k1, .slice a2 fs.length k2], .agg #[.int .i64 st, .int .i64 bg, .int .i64 la, .slice a3 wt.length k3, .slice a4 bs.length k4, .slice a5 vs.length k5, .int .i64 fa], .agg #[.int .i64 q, .int .i64 t, .int .i64 r, .int .i64 k, .string s, .string v]] w fun e w' => StepPost w.heap.size w 8 z0 e w' := by
  have hk1 : (k == 1) = true := by rw [hk]; rfl
  have hk3 : (k != 1) = false := by rw [hk]; rfl
  have hs1 : (st != 0) = false := by rw [hs]; rfl
  have HKS := hid (And.intro hk hs)
  clear hk hs
  have HB := hid (below4 w (.cells #[.slice a1 ss.length k1, .slice a2 fs.length k2] 26) (.cells #[.int .i64 st, .int .i64 bg, .int .i64 la, .slice a3 wt.length k3, .slice a4 bs.length k4, .slice a5 vs.length k5, .int .i64 fa] 91) (.cells #[.int .i64 q, .int .i64 t, .int .i64 r, .int .i64 k, .string s, .string v] 33) (.cells #[.int .i64 0, .int .i64 0, .int .i64 0, .slice none 0 0, .slice none 0 0, .slice none 0 0, .int .i64 0, .int .i64 8] 93))
  go_enter Tryz.func50, Tryz.ntmps50
  go_wp2_with fail
  exact bodyPost_ret (v := outV 8 z0 (.slice none 0 0) (.slice none 0 0) (.slice none 0 0)) (by simp [results, Tryz.results50, go_sem, outV, z0]) rfl ⟨_, _, _, rfl, StOwn.none _ _, HB.out⟩
set_option maxRecDepth 100000 in
set_option maxHeartbeats 4000000 in
theorem l03Step_early2 (a1 a2 a3 a4 a5 : Option Addr) (k1 k2 k3 k4 k5 : Nat) (ss : List ByteArray) (fs : List Pr) (st bg la fa q t r k : Int) (wt bs : List ByteArray) (vs : List Pr) (s v : ByteArray) (w : World) (hk : ¬ k = 1) (hs : st = 1) (ht : t < la) :
    Calls Tryz.prog 50 #[.agg #[.slice a1 ss.length k1, .slice a2 fs.length k2], .agg #[.int .i64 st, .int .i64 bg, .int .i64 la, .slice a3 wt.length k3, .slice a4 bs.length k4, .slice a5 vs.length k5, .int .i64 fa], .agg #[.int .i64 q, .int .i64 t, .int .i64 r, .int .i64 k, .string s, .string v]] w fun e w' => StepPost w.heap.size w 8 z0 e w' := by
  have hk1 : (k == 1) = false := by simpa using hk
  have hk3 : (k != 1) = true := by simpa using hk
  have hs1 : (st != 1) = false := by rw [hs]; rfl
  have HKS := hid (And.intro hk hs)
  clear hk hs
  have HB := hid (below4 w (.cells #[.slice a1 ss.length k1, .slice a2 fs.length k2] 26) (.cells #[.int .i64 st, .int .i64 bg, .int .i64 la, .slice a3 wt.length k3, .slice a4 bs.length k4, .slice a5 vs.length k5, .int .i64 fa] 91) (.cells #[.int .i64 q, .int .i64 t, .int .i64 r, .int .i64 k, .string s, .string v] 33) (.cells #[.int .i64 0, .int .i64 0, .int .i64 0, .slice none 0 0, .slice none 0 0, .slice none 0 0, .int .i64 0, .int .i64 8] 93))
  go_enter Tryz.func50, Tryz.ntmps50
  go_wp2_with fail
  exact bodyPost_ret (v := outV 8 z0 (.slice none 0 0) (.slice none 0 0) (.slice none 0 0)) (by simp [results, Tryz.results50, go_sem, outV, z0]) rfl ⟨_, _, _, rfl, StOwn.none _ _, HB.out⟩
end Go.Proofs.YthggcdadipjiiaaGreatDoor
