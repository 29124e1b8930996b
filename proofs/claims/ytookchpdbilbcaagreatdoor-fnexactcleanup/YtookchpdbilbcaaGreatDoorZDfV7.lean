/-
 Texts put together: DfV, EvSp, SpStA, OfM, OfR, HistM, CopyN.
-/
import Derived.Test.YtookchpdbilbcaaGreatDoorZAgg6
import Derived.Test.YtookchpdbilbcaaGreatDoorZEvI8
import Derived.Test.YtookchpdbilbcaaGreatDoorZSpStepG
import Derived.Test.YtookchpdbilbcaaGreatDoorZIsErr4
import Derived.Test.YtookchpdbilbcaaGreatDoorZRunM3
import Derived.Test.YtookchpdbilbcaaGreatDoorZEvX11
import Derived.Laws.CopyOwn
set_option maxRecDepth 100000
set_option maxHeartbeats 1000000
/-
 What a Def holds. Of no function.
-/
namespace Go.Proofs.YtookchpdbilbcaaGreatDoor
open Go.RowKit
abbrev defV (a1 a2 : Option Addr) (k1 k2 : Nat) (ss : List ByteArray) (fs : List Pr) : Value := .agg #[.slice a1 ss.length k1, .slice a2 fs.length k2]
/-- What a Def's rows, a State's rows hold. -/
structure DefSl (w : World) (a1 a2 : Option Addr) (k1 k2 : Nat) (ss : List ByteArray) (fs : List Pr) : Prop where
 h1 : StrSl w (.slice a1 ss.length k1) ss
 h2 : PrSl w (.slice a2 fs.length k2) fs
 l1 : ∀ g o, a1 = some ⟨g, o, none⟩ → g < w.heap.size
 l2 : ∀ g o, a2 = some ⟨g, o, none⟩ → g < w.heap.size
theorem DefSl.stay {w w' : World} {a1 a2 : Option Addr} {k1 k2 : Nat} {ss : List ByteArray} {fs : List Pr} (h : DefSl w a1 a2 k1 k2 ss fs) (hb : Below w.heap.size w w') : DefSl w' a1 a2 k1 k2 ss fs := ⟨h.h1.stay hb nL, h.h2.stay hb nL, fun g o e => Nat.lt_of_lt_of_le (h.l1 g o e) hb.size, fun g o e => Nat.lt_of_lt_of_le (h.l2 g o e) hb.size⟩
end Go.Proofs.YtookchpdbilbcaaGreatDoor
/-
 Events: what spec.EventRight answers, for every event: a contract over the seat's program.
-/
namespace Go.Proofs.YtookchpdbilbcaaGreatDoor
open Go.RowKit
theorem ZIM {s : ByteArray} (h : ¬ s = ByteArray.empty) : s.toList.isEmpty = false := by
 have := ZBm h
 cases hl : s.toList with
 | nil => exact absurd hl this
 | cons a l => rfl
theorem ZBk (q t r k : Int) (s v : ByteArray) (w : World) (hs : s.size ≤ maxLen)
  (c1 : ∀ w, Calls Tryz.prog 43 #[.int .i64 q, .int .i64 1, .int .i64 1000000] w fun e w' => e = .returned (.bool true) ∧ w' = w)
  (c2 : ∀ w, Calls Tryz.prog 43 #[.int .i64 r, .int .i64 1, .int .i64 1000000] w fun e w' => e = .returned (.bool true) ∧ w' = w)
  (c3 : ∀ w, Calls Tryz.prog 34 #[.int .i64 t] w fun e w' => e = .returned (.bool true) ∧ w' = w) :
  Calls Tryz.prog 44 #[.agg #[.int .i64 q, .int .i64 t, .int .i64 r, .int .i64 k, .string s, .string v]] w fun e w' => e = .returned (.bool (kndB k s v)) ∧ Below w.heap.size w w' := by
 have c4 := fun w => ZBB s w hs
 clear hs
 rcases kindCases k with hk | hk | rfl | ⟨h1, h2, h3, h4, h5, h6⟩
 ·rw [ZGS hk]
  by_cases hs : s = ByteArray.empty
  ·subst hs
   by_cases hv : v = ByteArray.empty
   ·subst hv
    rcases hk with rfl | rfl
    all_goals
     go_enter Tryz.func44, Tryz.ntmps44
     go_wp2_with fail
     refine (c1 _).mono ?_
     rintro e w1 ⟨rfl, rfl⟩
     go_wp2_with fail
     refine (c2 _).mono ?_
     rintro e w1 ⟨rfl, rfl⟩
     go_wp2_with fail
     refine (c3 _).mono ?_
     rintro e w1 ⟨rfl, rfl⟩
     go_wp2
     go_ret
     exact ⟨rfl, (bR _ _).alloc nL _⟩
   ·rw [show (decide (ByteArray.empty = ByteArray.empty) && decide (v = ByteArray.empty)) = false by simp [hv]]
    have hvb := ZBm hv
    have hvi := ZIM hv
    clear hv
    rcases hk with rfl | rfl
    all_goals
     go_enter Tryz.func44, Tryz.ntmps44
     go_wp2_with fail
     refine (c1 _).mono ?_
     rintro e w1 ⟨rfl, rfl⟩
     go_wp2_with fail
     refine (c2 _).mono ?_
     rintro e w1 ⟨rfl, rfl⟩
     go_wp2_with fail
     refine (c3 _).mono ?_
     rintro e w1 ⟨rfl, rfl⟩
     go_wp2
     go_ret
     exact ⟨rfl, (bR _ _).alloc nL _⟩
  ·rw [show (decide (s = ByteArray.empty) && decide (v = ByteArray.empty)) = false by simp [hs]]
   have hsb := ZBm hs
   have hsi := ZIM hs
   clear hs
   rcases hk with rfl | rfl
   all_goals
    go_enter Tryz.func44, Tryz.ntmps44
    go_wp2_with fail
    refine (c1 _).mono ?_
    rintro e w1 ⟨rfl, rfl⟩
    go_wp2_with fail
    refine (c2 _).mono ?_
    rintro e w1 ⟨rfl, rfl⟩
    go_wp2_with fail
    refine (c3 _).mono ?_
    rintro e w1 ⟨rfl, rfl⟩
    go_wp2
    go_ret
    exact ⟨rfl, (bR _ _).alloc nL _⟩
 ·rw [ZF7 hk]
  cases hn : nrB s with
  | false =>
   rw [hn] at c4
   clear hn
   rw [Bool.false_and]
   rcases hk with rfl | rfl | rfl
   all_goals
    go_enter Tryz.func44, Tryz.ntmps44
    go_wp2_with fail
    refine (c1 _).mono ?_
    rintro e w1 ⟨rfl, rfl⟩
    go_wp2_with fail
    refine (c2 _).mono ?_
    rintro e w1 ⟨rfl, rfl⟩
    go_wp2_with fail
    refine (c3 _).mono ?_
    rintro e w1 ⟨rfl, rfl⟩
    go_wp2_with fail
    refine (c4 _).mono ?_
    rintro e w1 ⟨rfl, rfl⟩
    go_wp2
    go_ret
    exact ⟨rfl, (bR _ _).alloc nL _⟩
  | true =>
   rw [hn] at c4
   clear hn
   rw [Bool.true_and]
   by_cases hv : v = ByteArray.empty
   ·subst hv
    rcases hk with rfl | rfl | rfl
    all_goals
     go_enter Tryz.func44, Tryz.ntmps44
     go_wp2_with fail
     refine (c1 _).mono ?_
     rintro e w1 ⟨rfl, rfl⟩
     go_wp2_with fail
     refine (c2 _).mono ?_
     rintro e w1 ⟨rfl, rfl⟩
     go_wp2_with fail
     refine (c3 _).mono ?_
     rintro e w1 ⟨rfl, rfl⟩
     go_wp2_with fail
     refine (c4 _).mono ?_
     rintro e w1 ⟨rfl, rfl⟩
     go_wp2
     go_ret
     exact ⟨rfl, (bR _ _).alloc nL _⟩
   ·rw [show decide (v = ByteArray.empty) = false by simp [hv]]
    have hvb := ZBm hv
    have hvi := ZIM hv
    clear hv
    rcases hk with rfl | rfl | rfl
    all_goals
     go_enter Tryz.func44, Tryz.ntmps44
     go_wp2_with fail
     refine (c1 _).mono ?_
     rintro e w1 ⟨rfl, rfl⟩
     go_wp2_with fail
     refine (c2 _).mono ?_
     rintro e w1 ⟨rfl, rfl⟩
     go_wp2_with fail
     refine (c3 _).mono ?_
     rintro e w1 ⟨rfl, rfl⟩
     go_wp2_with fail
     refine (c4 _).mono ?_
     rintro e w1 ⟨rfl, rfl⟩
     go_wp2
     go_ret
     exact ⟨rfl, (bR _ _).alloc nL _⟩
 ·rw [ZH5, show decide (v.size ≤ 40) = decide ((v.size : Int) ≤ 40) by simp only [decide_eq_decide]; omega]
  cases hn : nrB s with
  | false =>
   rw [hn] at c4
   clear hn
   rw [Bool.false_and]
   go_enter Tryz.func44, Tryz.ntmps44
   go_wp2_with fail
   refine (c1 _).mono ?_
   rintro e w1 ⟨rfl, rfl⟩
   go_wp2_with fail
   refine (c2 _).mono ?_
   rintro e w1 ⟨rfl, rfl⟩
   go_wp2_with fail
   refine (c3 _).mono ?_
   rintro e w1 ⟨rfl, rfl⟩
   go_wp2_with fail
   refine (c4 _).mono ?_
   rintro e w1 ⟨rfl, rfl⟩
   go_wp2
   go_ret
   exact ⟨rfl, (bR _ _).alloc nL _⟩
  | true =>
   rw [hn] at c4
   clear hn
   rw [Bool.true_and]
   go_enter Tryz.func44, Tryz.ntmps44
   go_wp2_with fail
   refine (c1 _).mono ?_
   rintro e w1 ⟨rfl, rfl⟩
   go_wp2_with fail
   refine (c2 _).mono ?_
   rintro e w1 ⟨rfl, rfl⟩
   go_wp2_with fail
   refine (c3 _).mono ?_
   rintro e w1 ⟨rfl, rfl⟩
   go_wp2_with fail
   refine (c4 _).mono ?_
   rintro e w1 ⟨rfl, rfl⟩
   go_wp2
   go_ret
   exact ⟨rfl, (bR _ _).alloc nL _⟩
 ·rw [ZHN h1 h2 h3 h4 h5 h6]
  have e1 : (k == 1) = false := by simpa using h1
  have e2 : (k == 2) = false := by simpa using h2
  have e3 : (k == 3) = false := by simpa using h3
  have e4 : (k == 4) = false := by simpa using h4
  have e5 : (k == 5) = false := by simpa using h5
  have e6 : (k == 6) = false := by simpa using h6
  clear h1 h2 h3 h4 h5 h6
  go_enter Tryz.func44, Tryz.ntmps44
  go_wp2_with fail
  refine (c1 _).mono ?_
  rintro e w1 ⟨rfl, rfl⟩
  go_wp2_with fail
  refine (c2 _).mono ?_
  rintro e w1 ⟨rfl, rfl⟩
  go_wp2_with fail
  refine (c3 _).mono ?_
  rintro e w1 ⟨rfl, rfl⟩
  go_wp2
  go_ret
  exact ⟨rfl, (bR _ _).alloc nL _⟩
theorem ZA8 (q t r k : Int) (s v : ByteArray) (w : World) (hs : s.size ≤ maxLen) :
  Calls Tryz.prog 44 #[.agg #[.int .i64 q, .int .i64 t, .int .i64 r, .int .i64 k, .string s, .string v]] w fun e w' => e = .returned (.bool (evB ⟨q, t, r, k, s, v⟩)) ∧ Below w.heap.size w w' := by
 have c1 : ∀ w, Calls Tryz.prog 43 #[.int .i64 q, .int .i64 1, .int .i64 1000000] w fun e w' => e = .returned (.bool (numB q)) ∧ w' = w := fun w => ZBq q 1 1000000 w
 have c2 : ∀ w, Calls Tryz.prog 43 #[.int .i64 r, .int .i64 1, .int .i64 1000000] w fun e w' => e = .returned (.bool (numB r)) ∧ w' = w := fun w => ZBq r 1 1000000 w
 have c3 := fun w => ZBg t w
 unfold evB
 generalize numB q = B1 at *
 generalize timB t = B2 at *
 generalize numB r = B3 at *
 cases B1 with
 | false =>
  clear hs
  go_enter Tryz.func44, Tryz.ntmps44
  go_wp2_with fail
  refine (c1 _).mono ?_
  rintro e w1 ⟨rfl, rfl⟩
  go_wp2
  go_ret
  exact ⟨rfl, (bR _ _).alloc nL _⟩
 | true =>
  cases B3 with
  | false =>
   clear hs
   go_enter Tryz.func44, Tryz.ntmps44
   go_wp2_with fail
   refine (c1 _).mono ?_
   rintro e w1 ⟨rfl, rfl⟩
   go_wp2_with fail
   refine (c2 _).mono ?_
   rintro e w1 ⟨rfl, rfl⟩
   go_wp2
   go_ret
   exact ⟨ZAd (by simp), (bR _ _).alloc nL _⟩
  | true =>
   cases B2 with
   | false =>
    clear hs
    go_enter Tryz.func44, Tryz.ntmps44
    go_wp2_with fail
    refine (c1 _).mono ?_
    rintro e w1 ⟨rfl, rfl⟩
    go_wp2_with fail
    refine (c2 _).mono ?_
    rintro e w1 ⟨rfl, rfl⟩
    go_wp2_with fail
    refine (c3 _).mono ?_
    rintro e w1 ⟨rfl, rfl⟩
    go_wp2
    go_ret
    exact ⟨ZAd (by simp), (bR _ _).alloc nL _⟩
   | true =>
    simp only [Bool.true_and]
    exact ZBk q t r k s v w hs c1 c2 c3
end Go.Proofs.YtookchpdbilbcaaGreatDoor
/-
 What spec.l03Step answers at every right event: a contract over the seat's program. (Cut off SpStS.)
-/
namespace Go.Proofs.YtookchpdbilbcaaGreatDoor
open Go.RowKit Go.Sort
abbrev stV (a3 a4 a5 : Option Addr) (k3 k4 k5 : Nat) (S : St) : Value := .agg #[.int .i64 S.status, .int .i64 S.begun, .int .i64 S.last, .slice a3 S.wait.length k3, .slice a4 S.busy.length k4, .slice a5 S.vars.length k5, .int .i64 S.faults]
theorem ZFe {e : Ev} (h : evB e = true) : e.kind = 1 ∨ e.kind = 2 ∨ e.kind = 3 ∨ e.kind = 4 ∨ e.kind = 5 ∨ e.kind = 6 := by
 have hk := (ZDw h).2
 unfold kndB at hk
 split at hk
 ·omega
 ·split at hk
  ·omega
  ·split at hk
   ·omega
   ·cases hk
theorem ev_size {e : Ev} (h : evB e = true) : e.step.size ≤ 20 ∧ e.val.size ≤ 40 := by
 have hk := (ZDw h).2
 unfold kndB at hk
 have nz : ∀ s : ByteArray, nrB s = true → s.size ≤ 20 := fun s h => by unfold nrB at h; simp only [Bool.and_eq_true, decide_eq_true_eq] at h; exact h.2.1
 split at hk
 ·simp only [Bool.and_eq_true, decide_eq_true_eq] at hk
  rw [hk.1, hk.2]; decide
 ·split at hk
  ·simp only [Bool.and_eq_true, decide_eq_true_eq] at hk
   rw [hk.2]
   exact ⟨nz _ hk.1, by decide⟩
  ·split at hk
   ·simp only [Bool.and_eq_true, decide_eq_true_eq] at hk
    exact ⟨nz _ hk.1, hk.2⟩
   ·cases hk
/-- What is small of a right State. -/
theorem ZBC {ss : List ByteArray} {S : St} (h : StP ss S) : S.wait.length ≤ 40 ∧ S.busy.length ≤ 40 ∧ S.vars.length ≤ 20 ∧ 0 ≤ S.faults := by
 rcases h with ⟨_, h⟩ | ⟨_, h⟩ | ⟨_, _, h⟩
 ·have := h.w; have := h.b; have := h.v0; have := h.f0; omega
 ·have := h.m; have := h.v.n; have := ZCY.1 h.f; omega
 ·have := h.m; have := h.v.n; have := ZCY.1 h.f; omega
structure StSl (w : World) (a3 a4 a5 : Option Addr) (k3 k4 k5 : Nat) (S : St) : Prop where
 h3 : StrSl w (.slice a3 S.wait.length k3) S.wait
 h4 : StrSl w (.slice a4 S.busy.length k4) S.busy
 h5 : PrSl w (.slice a5 S.vars.length k5) S.vars
theorem StSl.stay {w w' : World} {a3 a4 a5 : Option Addr} {k3 k4 k5 : Nat} {S : St} (h : StSl w a3 a4 a5 k3 k4 k5 S) (hb : Below w.heap.size w w') : StSl w' a3 a4 a5 k3 k4 k5 S := ⟨h.h3.stay hb nL, h.h4.stay hb nL, h.h5.stay hb nL⟩
theorem StepPost.mono {n m : Nat} {w w0 : World} {c : Int} {S : St} {x : Ending} {w' : World} (h : StepPost n w c S x w') (hn : m ≤ n) (hb : Below w0.heap.size w0 w) : StepPost m w0 c S x w' := by
 obtain ⟨u3, u4, u5, hx, hO, hB⟩ := h
 exact ⟨u3, u4, u5, hx, ⟨ZAI hO.o3 hn, ZAI hO.o4 hn, ZAI hO.o5 hn, hO.a34⟩, hb.trans (hB.mono hb.size)⟩
theorem ZFQ (a1 a2 a3 a4 a5 : Option Addr) (k1 k2 k3 k4 k5 : Nat) (ss : List ByteArray) (fs : List Pr) (S : St) (e : Ev) (w : World) (hD : DefSl w a1 a2 k1 k2 ss fs) (hT : StSl w a3 a4 a5 k3 k4 k5 S) (h0 : 0 < ss.length) (hfl : fs.length ≤ 40) (n3 : S.wait.length ≤ 1000) (n4 : S.busy.length ≤ 1000) (n5 : S.vars.length ≤ 1000) (hf0 : 0 ≤ S.faults) (hkk : e.kind = 1 ∨ e.kind = 2 ∨ e.kind = 3 ∨ e.kind = 4 ∨ e.kind = 5 ∨ e.kind = 6) :
  Calls Tryz.prog 65 #[defV a1 a2 k1 k2 ss fs, stV a3 a4 a5 k3 k4 k5 S, evV e] w fun x w' => StepPost w.heap.size w (stepS ss fs S e).1 (stepS ss fs S e).2 x w' := by
 unfold stepS
 by_cases hk : e.kind = 1
 ·by_cases hs : S.status = 0
  ·rw [if_pos (show awB S.status e.kind = true by unfold awB; rw [if_pos hk, hs]; rfl)]
   by_cases ht : e.time < S.last
   ·rw [if_pos ht]; exact ZDT a1 a2 a3 a4 a5 k1 k2 k3 k4 k5 ss fs _ _ _ _ _ _ _ _ _ _ _ _ _ w hk hs ht
   ·rw [if_neg ht]; exact ZF0 a1 a2 a3 a4 a5 k1 k2 k3 k4 k5 ss fs _ _ _ _ _ _ _ _ _ _ _ _ _ w hD.h1 hD.h2 hT.h3 hT.h4 hT.h5 h0 hfl hD.l1 hD.l2 n3 n4 n5 hf0 hkk hk hs ht
  ·rw [if_neg (show ¬ awB S.status e.kind = true by unfold awB; rw [if_pos hk]; simpa using hs)]
   exact ZDa a1 a2 a3 a4 a5 k1 k2 k3 k4 k5 ss fs _ _ _ _ _ _ _ _ _ _ _ _ _ w (by rw [hk]; rfl) hs
 ·by_cases hs : S.status = 1
  ·rw [if_pos (show awB S.status e.kind = true by unfold awB; rw [if_neg hk, hs]; rfl)]
   by_cases ht : e.time < S.last
   ·rw [if_pos ht]; exact ZDZ a1 a2 a3 a4 a5 k1 k2 k3 k4 k5 ss fs _ _ _ _ _ _ _ _ _ _ _ _ _ w hk hs ht
   ·rw [if_neg ht]; exact ZFO a1 a2 a3 a4 a5 k1 k2 k3 k4 k5 ss fs _ _ _ _ _ _ _ _ _ _ _ _ _ w hD.h1 hD.h2 hT.h3 hT.h4 hT.h5 h0 hfl hD.l1 hD.l2 n3 n4 n5 hf0 hkk hk hs ht
  ·rw [if_neg (show ¬ awB S.status e.kind = true by unfold awB; rw [if_neg hk]; simpa using hs)]
   exact ZDW a1 a2 a3 a4 a5 k1 k2 k3 k4 k5 ss fs _ _ _ _ _ _ _ _ _ _ _ _ _ w hk hs
open Classical in
/-- What StateStep answers. -/
noncomputable def rS (ss : List ByteArray) (fs : List Pr) (S : St) (e : Ev) : Int × St := if (DefP ss fs ∧ StP ss S) ∧ evB e = true then stepS ss fs S e else (1, z0)
theorem StOwn.le {w : World} {lo m : Nat} {v3 v4 v5 : Value} {S : St} (h : StOwn w lo v3 v4 v5 S) (hn : m ≤ lo) : StOwn w m v3 v4 v5 S := ⟨ZAI h.o3 hn, ZAI h.o4 hn, ZAI h.o5 hn, h.a34⟩
theorem StOwn.forms {w : World} {lo : Nat} {v3 v4 v5 : Value} {S : St} (h : StOwn w lo v3 v4 v5 S) : ∃ a3 a4 a5 k3 k4 k5, v3 = .slice a3 S.wait.length k3 ∧ v4 = .slice a4 S.busy.length k4 ∧ v5 = .slice a5 S.vars.length k5 := by
 obtain ⟨a3, k3, h3⟩ := ZAD h.o3
 obtain ⟨a4, k4, h4⟩ := ZAD h.o4
 obtain ⟨a5, k5, h5⟩ := ZAD h.o5
 exact ⟨a3, a4, a5, k3, k4, k5, h3, h4, h5⟩
end Go.Proofs.YtookchpdbilbcaaGreatDoor
/-
 What a row of events makes of the zero State, as StateOf tells it. Of no function.
-/
namespace Go.Proofs.YtookchpdbilbcaaGreatDoor
open Go.RowKit Go.Sort
open Classical in
noncomputable def soS (ss : List ByteArray) (fs : List Pr) (es : List Ev) : Int × St := if 400 < es.length then (2, z0) else if DefP ss fs ∧ es.length ≤ 200 then ofS ss fs es z0 else (1, z0)
theorem soS_big (ss : List ByteArray) (fs : List Pr) {es : List Ev} (h : 400 < es.length) : soS ss fs es = (2, z0) := if_pos h
theorem soS_no (ss : List ByteArray) (fs : List Pr) {es : List Ev} (h : ¬ 400 < es.length) (h2 : ¬ (DefP ss fs ∧ es.length ≤ 200)) : soS ss fs es = (1, z0) := by unfold soS; rw [if_neg h, if_neg h2]
theorem ZHz (ss : List ByteArray) (fs : List Pr) {es : List Ev} (h : ¬ 400 < es.length) (h1 : DefP ss fs) (h2 : es.length ≤ 200) : soS ss fs es = ofS ss fs es z0 := by unfold soS; rw [if_neg h, if_pos ⟨h1, h2⟩]
theorem z0_sl (w : World) : StSl w none none none 0 0 0 z0 := ⟨.inl ⟨none, 0, rfl, rfl⟩, .inl ⟨none, 0, rfl, rfl⟩, .inl ⟨none, 0, rfl, rfl⟩⟩
theorem ZEG (ss : List ByteArray) : StP ss z0 := .inl ⟨rfl, by constructor <;> rfl⟩
end Go.Proofs.YtookchpdbilbcaaGreatDoor
/-
 The events of a run. Of no function. (Cut off ItrE.)
-/
namespace Go.Proofs.YtookchpdbilbcaaGreatDoor
open Go.RowKit
def ofRun (es : List Ev) (r : Int) : List Ev := es.filter fun e => decide (e.run = r)
end Go.Proofs.YtookchpdbilbcaaGreatDoor
/-
 A history that is right. Of no function.
-/
namespace Go.Proofs.YtookchpdbilbcaaGreatDoor
open Go.RowKit
structure HistP (ss : List ByteArray) (fs : List Pr) (es : List Ev) : Prop where
 d : DefP ss fs
 n : es.length ≤ 200
 r : RiseP es
 o : ∀ e ∈ es, (ofS ss fs (ofRun es e.run) z0).1 = 0
theorem ZC4 (es : List Ev) (r : Int) : (ofRun es r).length ≤ es.length := List.length_filter_le _ _
theorem ZDs (es : List Ev) (r : Int) {p : Ev → Prop} (h : ∀ i, (hi : i < es.length) → p es[i]) : ∀ i, (hi : i < (ofRun es r).length) → p (ofRun es r)[i] := fun i hi => by
 have hm : (ofRun es r)[i] ∈ es := (List.mem_filter.1 (List.getElem_mem hi)).1
 obtain ⟨j, hj, he⟩ := List.mem_iff_getElem.1 hm
 rw [← he]
 exact h j hj
theorem ZFG {ss : List ByteArray} {fs : List Pr} {es : List Ev} {rs : List Int} (hR : IsRuns es rs) (d : DefP ss fs) (n : es.length ≤ 200) (r : RiseP es) (h : ∀ j, (hj : j < rs.length) → (ofS ss fs (ofRun es rs[j]) z0).1 = 0) : HistP ss fs es :=
 ⟨d, n, r, fun e he => by
  obtain ⟨j, hj, hr⟩ := List.mem_iff_getElem.1 ((hR.mem e.run).2 ⟨e, he, rfl⟩)
  rw [← hr]
  exact h j hj⟩
theorem ZGL {ss : List ByteArray} {fs : List Pr} {es : List Ev} {rs : List Int} (hR : IsRuns es rs) {j : Nat} (hj : j < rs.length) (h : ¬ (ofS ss fs (ofRun es rs[j]) z0).1 = 0) : ¬ HistP ss fs es := fun H => by
 obtain ⟨e, he, hr⟩ := (hR.mem rs[j]).1 (List.getElem_mem hj)
 refine h ?_
 rw [← hr]
 exact H.o e he
/-- Whatever goes through is right. -/
theorem ZEz {ss : List ByteArray} {fs : List Pr} : ∀ (es : List Ev) (S : St), (ofS ss fs es S).1 = 0 → ∀ e ∈ es, evB e = true
 | [], _, _, _, he => absurd he (by simp)
 | x :: r, S, h, e, he => by
  have hx : (evS ss fs S x).1 = 0 := by
   by_cases q : (evS ss fs S x).1 = 0
   ·exact q
   ·simp only [ofS, if_neg q] at h
    exact absurd h q
  have hb : evB x = true := by
   by_cases q : evB x = true
   ·exact q
   ·simp only [evS, if_neg q] at hx
    exact absurd hx (by decide)
  rcases List.mem_cons.1 he with rfl | he
  ·exact hb
  ·simp only [ofS, if_pos hx] at h
   exact ZEz r _ h e he
theorem HistP.ev {ss : List ByteArray} {fs : List Pr} {es : List Ev} (h : HistP ss fs es) : ∀ e ∈ es, evB e = true := fun e he =>
 ZEz _ _ (h.o e he) e (List.mem_filter.2 ⟨he, by simp⟩)
end Go.Proofs.YtookchpdbilbcaaGreatDoor
/-
 copy of rows whose elements have several cells: laws for the walk. Of no function.
-/
namespace Go.Proofs.YtookchpdbilbcaaGreatDoor
open Go.RowKit
theorem ZEO {P : Program} (w : World) (dT sT ty elem : TypeId) (g o dLen dCap : Nat) (a : Addr) (sLen sCap : Nat) (cur : Array Value) (t : TypeId) (cs : List Value) (size n : Nat)
  (hu : P.underlying dT = some (.slice elem)) (hs : (P.info? elem).map (·.size) = some size)
  (hg : w.heap[g]? = some (.cells cur t (0, 0))) (hm : Nat.min sLen dLen = n) (hn : cs.length = n * size)
  (hsrc : ∀ j v, cs[j]? = some v → w.cell? (a.add j) = some v) (hfit : o + cs.length ≤ cur.size) (h1 : ∀ v ∈ cs, v.oneCell' = true) :
  (Builtin.copy_ #[dT, sT] ty #[.slice (some ⟨g, o, none⟩) dLen dCap, .slice (some a) sLen sCap]).run P w =
   .ok (goInt n) (w.setRow g (cur.toList.take o ++ cs ++ cur.toList.drop (o + cs.length)).toArray) := by
 have hl := run_loadCells_list (P := P) w a cs hsrc
 have hst := run_storeCells_at P g o t cs 0 cur w hg (by simpa using hfit) h1
 rw [hn] at hl
 cases hq : P.info? elem with
 | none => simp [hq] at hs
 | some i =>
  have hi : i.size = size := by simpa [hq] using hs
  simp [Builtin.copy_, run_underlying hu, Builtin.lenOf, Builtin.firstCells, sizeOf, typeInfo, hq, hi, hm, hl, hst]
theorem ZFE (w : World) (g : Nat) (cs : Array Value) : w.grownBy (w.setRow g cs) (some g) :=
 ⟨rfl, rfl, rfl, by simp [World.setRow], fun k _ hk => setRow_other w g k cs (fun e => hk (by rw [e]))⟩
theorem ZGH {P : Program} {w : World} {o : Oper} {a : Act} {K : Act → World → Prop} {Q : Exit → Act → World → Prop} (d s : Operand) (dT sT : TypeId)
  (ho : o.op = .call { callee := .builtin .copy, args := #[d, s], argTypes := #[dT, sT] }) (elem : TypeId) (size n : Nat) (hu : P.underlying dT = some (.slice elem)) (hsz : (P.info? elem).map (·.size) = some size)
  (g off dLen dCap : Nat) (ad : Addr) (sLen sCap : Nat) (hd : a.eval d = .slice (some ⟨g, off, none⟩) dLen dCap) (hs : a.eval s = .slice (some ad) sLen sCap)
  (cur : List Value) (t : TypeId) (hg : w.heap[g]? = some (.cells cur.toArray t (0, 0))) (cs : List Value) (hm : Nat.min sLen dLen = n) (hn : cs.length = n * size)
  (hsrc : ∀ j v, cs[j]? = some v → w.cell? (ad.add j) = some v) (hfit : off + cs.length ≤ cur.length) (h1 : ∀ v ∈ cs, v.oneCell' = true)
  (h : ∀ w', Hid (w'.heap[g]? = some (.cells (splice cur off cs).toArray t (0, 0))) → Hid (w.grownBy w' (some g)) → K (a.put o.dst (goInt n)) w') : o.wp P a w K Q := by
 have hrun := ZEO (P := P) w dT sT o.type elem g off dLen dCap ad sLen sCap cur.toArray t cs size n hu hsz hg hm hn hsrc (by simpa using hfit) h1
 unfold Oper.wp
 simp [execOp, ho, resolve, invoke, builtin, hd, hs, hrun, Result.andThen]
 exact h _ (show _ = _ by simpa [splice] using setRow_heap w g _ _ t _ hg) (ZFE _ _ _)
theorem ZCA {P : Program} {w : World} {ops : Array Oper} {rest : List Oper} {o : Oper} {a : Act} {Q : Exit → Act → World → Prop} (hgd : o.guard = none) (d s : Operand) (dT sT : TypeId)
  (ho : o.op = .call { callee := .builtin .copy, args := #[d, s], argTypes := #[dT, sT] }) (elem : TypeId) (size n : Nat) (hu : P.underlying dT = some (.slice elem)) (hsz : (P.info? elem).map (·.size) = some size)
  (g off dLen dCap : Nat) (ad : Addr) (sLen sCap : Nat) (hd : a.eval d = .slice (some ⟨g, off, none⟩) dLen dCap) (hs : a.eval s = .slice (some ad) sLen sCap)
  (cur : List Value) (t : TypeId) (hg : w.heap[g]? = some (.cells cur.toArray t (0, 0))) (cs : List Value) (hm : Nat.min sLen dLen = n) (hn : cs.length = n * size)
  (hsrc : ∀ j v, cs[j]? = some v → w.cell? (ad.add j) = some v) (hfit : off + cs.length ≤ cur.length) (h1 : ∀ v ∈ cs, v.oneCell' = true)
  (h : ∀ w', Hid (w'.heap[g]? = some (.cells (splice cur off cs).toArray t (0, 0))) → Hid (w.grownBy w' (some g)) → wpList P ops Q rest (a.put o.dst (goInt n)) w') : wpList P ops Q (o :: rest) a w :=
 wpList_plain hgd fun _ hK => ZGH d s dT sT ho elem size n hu hsz g off dLen dCap ad sLen sCap hd hs cur t hg cs hm hn hsrc hfit h1 (fun w' h' k => hK _ _ (h w' h' k))
theorem ZDr {P : Program} {ops : Array Oper} {o : Oper} {a : Act} {w : World} {K : Act → World → Prop} {Q : Exit → Act → World → Prop} {E : Prop} (hgd : o.guard = none) (d s : Operand) (dT sT : TypeId)
  (ho : o.op = .call { callee := .builtin .copy, args := #[d, s], argTypes := #[dT, sT] }) (elem : TypeId) (size n : Nat) (hu : P.underlying dT = some (.slice elem)) (hsz : (P.info? elem).map (·.size) = some size)
  (g off dLen dCap : Nat) (ad : Addr) (sLen sCap : Nat) (hd : a.eval d = .slice (some ⟨g, off, none⟩) dLen dCap) (hs : a.eval s = .slice (some ad) sLen sCap)
  (cur : List Value) (t : TypeId) (hg : w.heap[g]? = some (.cells cur.toArray t (0, 0))) (cs : List Value) (hm : Nat.min sLen dLen = n) (hn : cs.length = n * size)
  (hsrc : ∀ j v, cs[j]? = some v → w.cell? (ad.add j) = some v) (hfit : off + cs.length ≤ cur.length) (h1 : ∀ v ∈ cs, v.oneCell' = true)
  (h : ∀ w', Hid (w'.heap[g]? = some (.cells (splice cur off cs).toArray t (0, 0))) → Hid (w.grownBy w' (some g)) → K (a.put o.dst (goInt n)) w') :
  if Region.wanted o (yielded ops a.tmps) = true then Oper.wp P o a w K Q else E := by
 rw [if_pos (show Region.wanted o (yielded ops a.tmps) = true by simp [Region.wanted, hgd])]
 exact ZGH d s dT sT ho elem size n hu hsz g off dLen dCap ad sLen sCap hd hs cur t hg cs hm hn hsrc hfit h1 h
end Go.Proofs.YtookchpdbilbcaaGreatDoor
