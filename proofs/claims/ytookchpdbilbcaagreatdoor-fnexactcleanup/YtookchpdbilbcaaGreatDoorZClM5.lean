/-
 Texts put together: ClM, ImCl, SpCl2, Mark, MkS.
-/
import Derived.Test.YtookchpdbilbcaaGreatDoorZImFg
import Derived.Test.YtookchpdbilbcaaGreatDoorZSpCln
import Derived.Test.YtookchpdbilbcaaGreatDoorZImWk2
import Derived.Test.YtookchpdbilbcaaGreatDoorZEvX11
import Derived.Test.YtookchpdbilbcaaGreatDoorZTkM5
import Derived.Test.YtookchpdbilbcaaGreatDoorZSpRun7
import Derived.Test.YtookchpdbilbcaaGreatDoorZAgg6
import Derived.Test.YtookchpdbilbcaaGreatDoorZEvI8
import Derived.Test.YtookchpdbilbcaaGreatDoorZStLaw3
import Derived.BigQuiet
import Derived.Lib.QuietBelow
set_option maxRecDepth 100000
set_option maxHeartbeats 8000000
/-
 What Cleanup tells: which runs are over, what stays, how many go. Of no function.
-/
namespace Go.Proofs.YtookchpdbilbcaaGreatDoor
open Go.RowKit Go.Sort
theorem doS_st {ss : List ByteArray} {fs : List Pr} {S : St} {e : Ev} (hb : evB e = true) (hs : S.status = 1 ∨ e.kind = 1) (h : (doS ss fs S e).1 = 0) : (doS ss fs S e).2.status = (if e.kind = 6 then 2 else 1) ∧ (doS ss fs S e).2.last = e.time := by
 have hk := ZFe hb
 unfold doS at h ⊢
 by_cases k1 : e.kind = 1
 ·rw [if_pos k1]; exact ⟨by rw [if_neg (by omega)], rfl⟩
 have hs1 : S.status = 1 := hs.resolve_right k1
 rw [if_neg k1] at h ⊢
 by_cases k2 : e.kind = 2
 ·rw [if_pos k2] at h ⊢
  by_cases c : atI S.wait e.step < 0
  ·rw [if_pos c] at h; exact absurd h (by decide)
  ·rw [if_neg c]; exact ⟨by rw [if_neg (by omega)]; exact hs1, rfl⟩
 rw [if_neg k2] at h ⊢
 by_cases k3 : e.kind = 3
 ·rw [if_pos k3] at h ⊢
  by_cases c : atI S.busy e.step < 0
  ·rw [if_pos c] at h; exact absurd h (by decide)
  ·rw [if_neg c] at h ⊢
   by_cases d : 40 < (putF e.step fs S.wait).length + (outT S.busy (atI S.busy e.step).toNat).length
   ·rw [if_pos d] at h; exact absurd h (by decide)
   ·rw [if_neg d]; exact ⟨by rw [if_neg (by omega)]; exact hs1, rfl⟩
 rw [if_neg k3] at h ⊢
 by_cases k4 : e.kind = 4
 ·rw [if_pos k4] at h ⊢
  by_cases d : 20 < (setV S.vars ⟨e.step, e.val⟩).length
  ·rw [if_pos d] at h; exact absurd h (by decide)
  ·rw [if_neg d]; exact ⟨by rw [if_neg (by omega)]; exact hs1, rfl⟩
 rw [if_neg k4] at h ⊢
 by_cases k5 : e.kind = 5
 ·rw [if_pos k5] at h ⊢
  by_cases c : atI S.busy e.step < 0
  ·rw [if_pos c] at h; exact absurd h (by decide)
  ·rw [if_neg c] at h ⊢
   by_cases d : 1000000 ≤ S.faults
   ·rw [if_pos d] at h; exact absurd h (by decide)
   ·rw [if_neg d]; exact ⟨by rw [if_neg (by omega)]; exact hs1, rfl⟩
 rw [if_neg k5] at h ⊢
 by_cases d : 0 < S.wait.length + S.busy.length
 ·rw [if_pos d] at h; exact absurd h (by decide)
 ·rw [if_neg d]; exact ⟨by rw [if_pos (by omega)], rfl⟩
theorem evS_st {ss : List ByteArray} {fs : List Pr} {S : St} {e : Ev} (h : (evS ss fs S e).1 = 0) : S.status ≠ 2 ∧ (evS ss fs S e).2.status = (if e.kind = 6 then 2 else 1) ∧ (evS ss fs S e).2.last = e.time := by
 have hb := ZDo h
 unfold evS stepS at h ⊢
 rw [if_pos hb] at h ⊢
 by_cases ha : awB S.status e.kind = true
 ·rw [if_pos ha] at h ⊢
  by_cases ht : e.time < S.last
  ·rw [if_pos ht] at h; exact absurd h (by decide)
  ·rw [if_neg ht] at h ⊢
   unfold awB at ha
   by_cases k1 : e.kind = 1
   ·rw [if_pos k1] at ha
    have h0 : S.status = 0 := by simpa using ha
    exact ⟨by omega, doS_st hb (.inr k1) h⟩
   ·rw [if_neg k1] at ha
    have h1 : S.status = 1 := by simpa using ha
    exact ⟨by omega, doS_st hb (.inl h1) h⟩
 ·rw [if_neg ha] at h; exact absurd h (by decide)
theorem ZF4 {ss : List ByteArray} {fs : List Pr} {t : Int} : ∀ (l : List Ev) (S : St), (ofS ss fs l S).1 = 0 → (((ofS ss fs l S).2.status = 2 ∧ (ofS ss fs l S).2.last ≤ t) ↔ (l = [] ∧ S.status = 2 ∧ S.last ≤ t) ∨ ∃ e ∈ l, e.kind = 6 ∧ e.time ≤ t)
 | [], S, _ => by simp [ofS]
 | x :: r, S, h => by
  have hx : (evS ss fs S x).1 = 0 := by
   by_cases q : (evS ss fs S x).1 = 0
   ·exact q
   ·simp only [ofS, if_neg q] at h; exact absurd h q
  obtain ⟨_, h2, h3⟩ := evS_st hx
  simp only [ofS, if_pos hx] at h ⊢
  rw [ZF4 r _ h]
  by_cases k : x.kind = 6
  ·rw [if_pos k] at h2
   have hr : r = [] := by
    cases r with
    | nil => rfl
    | cons y r' =>
     have hy : (evS ss fs (evS ss fs S x).2 y).1 = 0 := by
      by_cases q : (evS ss fs (evS ss fs S x).2 y).1 = 0
      ·exact q
      ·simp only [ofS, if_neg q] at h; exact absurd h q
     exact absurd h2 (evS_st hy).1
   subst hr
   rw [h2, h3]
   simp [k]
  ·rw [if_neg k] at h2
   rw [h2]
   constructor
   ·rintro (⟨_, h9, _⟩ | ⟨e, he, h9⟩)
    ·exact absurd h9 (by decide)
    ·exact .inr ⟨e, List.mem_cons_of_mem _ he, h9⟩
   ·rintro (⟨h9, _⟩ | ⟨e, he, h9⟩)
    ·cases h9
    ·rcases List.mem_cons.1 he with rfl | he
     ·exact absurd h9.1 k
     ·exact .inr ⟨e, he, h9⟩
theorem ZJQ {ss : List ByteArray} {fs : List Pr} {E : List Ev} (hR : RunsP ss fs E) (t r : Int) : ovB ss fs E t r = E.any (overB r t) := by
 rw [Bool.eq_iff_iff, List.any_eq_true]
 unfold ovB runS
 rw [Bool.and_eq_true, decide_eq_true_eq, decide_eq_true_eq, ZF4 (ss := ss) (fs := fs) (t := t) (ofRun E r) z0 (hR r)]
 constructor
 ·rintro (⟨_, h, _⟩ | ⟨e, he, h1, h2⟩)
  ·exact absurd h (by decide)
  ·obtain ⟨h3, h4⟩ := List.mem_filter.1 he
   exact ⟨e, h3, by unfold overB; rw [h4, decide_eq_true h1, decide_eq_true h2]; rfl⟩
 ·rintro ⟨e, he, h⟩
  unfold overB at h
  simp at h
  exact .inr ⟨e, List.mem_filter.2 ⟨he, by simpa using h.1⟩, h.2.1, h.2.2⟩
theorem sty_cl {ss : List ByteArray} {fs : List Pr} {E : List Ev} (hR : RunsP ss fs E) (t : Int) : sty ss fs E t = clE E t E.length := by
 unfold sty kep clE
 rw [List.take_length]
 apply List.filter_congr
 intro e _
 show (!ovB ss fs E t e.run) = _
 rw [ZJQ hR]
theorem ZFY : ∀ {a b : List Int}, a.Pairwise (· < ·) → b.Pairwise (· < ·) → (∀ x, x ∈ a ↔ x ∈ b) → a = b
 | [], [], _, _, _ => rfl
 | [], y :: b, _, _, h => absurd ((h y).2 List.mem_cons_self) (by simp)
 | x :: a, [], _, _, h => absurd ((h x).1 List.mem_cons_self) (by simp)
 | x :: a, y :: b, ha, hb, h => by
  rw [List.pairwise_cons] at ha hb
  have hxy : x = y := by
   rcases List.mem_cons.1 ((h x).1 List.mem_cons_self) with e | e
   ·exact e
   ·rcases List.mem_cons.1 ((h y).2 List.mem_cons_self) with e' | e'
    ·exact e'.symm
    ·have := hb.1 x e; have := ha.1 y e'; omega
  subst hxy
  rw [ZFY ha.2 hb.2 (fun z => ?_)]
  constructor
  ·intro hz
   rcases List.mem_cons.1 ((h z).1 (List.mem_cons_of_mem _ hz)) with e | e
   ·subst e; exact absurd (ha.1 z hz) (by omega)
   ·exact e
  ·intro hz
   rcases List.mem_cons.1 ((h z).2 (List.mem_cons_of_mem _ hz)) with e | e
   ·subst e; exact absurd (hb.1 z hz) (by omega)
   ·exact e
theorem IsRuns.eq {es : List Ev} {a b : List Int} (ha : IsRuns es a) (hb : IsRuns es b) : a = b := ZFY ha.rise hb.rise (fun x => (ha.mem x).trans (hb.mem x).symm)
theorem IsRuns.sty {ss : List ByteArray} {fs : List Pr} {E : List Ev} {t : Int} {rs : List Int} (h : IsRuns E rs) : IsRuns (sty ss fs E t) (rs.filter fun r => !ovB ss fs E t r) := by
 have hm : ∀ r, r ∈ rs.filter (fun r => !ovB ss fs E t r) ↔ ∃ e ∈ Go.Proofs.YtookchpdbilbcaaGreatDoor.sty ss fs E t, e.run = r := fun r => by
  rw [List.mem_filter, h.mem r]
  unfold Go.Proofs.YtookchpdbilbcaaGreatDoor.sty kep
  constructor
  ·rintro ⟨⟨e, he, rfl⟩, h2⟩
   exact ⟨e, List.mem_filter.2 ⟨he, h2⟩, rfl⟩
  ·rintro ⟨e, he, rfl⟩
   obtain ⟨h1, h2⟩ := List.mem_filter.1 he
   exact ⟨⟨e, h1, rfl⟩, h2⟩
 have hp := h.rise.filter (fun r => !ovB ss fs E t r)
 refine ⟨hp, ?_, hm⟩
 rw [ZFY hp (ZA0 (Go.Proofs.YtookchpdbilbcaaGreatDoor.sty ss fs E t)).rise (fun x => (hm x).trans ((ZA0 (Go.Proofs.YtookchpdbilbcaaGreatDoor.sty ss fs E t)).mem x).symm)]
 exact (ZA0 _).len
theorem ZE3 (p : Int → Bool) : ∀ rs : List Int, (rs.filter p).length + (rs.filter fun r => !p r).length = rs.length
 | [] => rfl
 | r :: l => by
  have := ZE3 p l
  cases h : p r <;> simp [h] <;> omega
theorem ZDk (es : List Ev) : ∃ rs, IsRuns es rs := ⟨_, ZA0 es⟩
noncomputable def rnC (es : List Ev) : List Int := Classical.choose (ZDk es)
theorem ZF9 (es : List Ev) : IsRuns es (rnC es) := Classical.choose_spec (ZDk es)
open Classical in
/-- What Cleanup tells. -/
noncomputable def clR (ss : List ByteArray) (fs : List Pr) (es : List Ev) (nx t : Int) : Int × Nat × List Ev × Int :=
 if SvP ss fs es nx ∧ timB t = true then (0, wen ss fs es t (rnC es) (rnC es).length, sty ss fs es t, nx) else (1, 0, [], 0)
theorem ZGU {ss : List ByteArray} {fs : List Pr} {es : List Ev} {nx t : Int} (h : ¬ (SvP ss fs es nx ∧ timB t = true)) : clR ss fs es nx t = (1, 0, [], 0) := if_neg h
theorem ZFq {ss : List ByteArray} {fs : List Pr} {es : List Ev} {nx t : Int} {rs : List Int} (hR : IsRuns es rs) (h : SvP ss fs es nx ∧ timB t = true) : clR ss fs es nx t = (0, wen ss fs es t rs rs.length, sty ss fs es t, nx) := by
 rw [hR.eq (ZF9 es)]; exact if_pos h
theorem clR_len (ss : List ByteArray) (fs : List Pr) (es : List Ev) (nx t : Int) : (clR ss fs es nx t).2.2.1.length ≤ 200 := by
 by_cases h : SvP ss fs es nx ∧ timB t = true
 ·rw [ZFq (ZF9 es) h]
  exact Nat.le_trans (List.length_filter_le _ _) h.1.h.n
 ·rw [ZGU h]; simp
theorem ZJL {ss : List ByteArray} {fs : List Pr} {E : List Ev} {t : Int} {rs rs' : List Int} (h : IsRuns E rs) (h' : IsRuns (sty ss fs E t) rs') : (rs.length : Int) - (rs'.length : Int) = (wen ss fs E t rs rs.length : Int) := by
 rw [h'.eq h.sty]
 unfold wen
 rw [List.take_length]
 have := ZE3 (ovB ss fs E t) rs
 omega
end Go.Proofs.YtookchpdbilbcaaGreatDoor
/-
 What (*impl.keeper).clean and impl.Cleanup answer: contracts over the seat's program. (Made by mkcl.py.)
-/
namespace Go.Proofs.YtookchpdbilbcaaGreatDoor
open Go.RowKit Go.Sort Go.Maps
/-- What a cleaning tells of a right Service. -/
noncomputable def cnR (ss : List ByteArray) (fs : List Pr) (es : List Ev) (nx t : Int) : Int × Nat × List Ev × Int := if timB t = true then (0, wen ss fs es t (rnC es) (rnC es).length, sty ss fs es t, nx) else (1, 0, [], 0)
theorem ZIu {ss : List ByteArray} {fs : List Pr} {es : List Ev} {nx t : Int} (h : ¬ (cnR ss fs es nx t).1 = 0) : (cnR ss fs es nx t).2.2 = ([], 0) := by
 unfold cnR at h ⊢
 by_cases ht : timB t = true
 ·rw [if_pos ht] at h; exact absurd rfl h
 ·rw [if_neg ht]
theorem ZIT {ss : List ByteArray} {fs : List Pr} {es : List Ev} {nx t : Int} (hE : ∀ x ∈ es, evB x = true) (hn : es.length ≤ 200) : (cnR ss fs es nx t).2.2.1.length ≤ 200 ∧ ∀ x ∈ (cnR ss fs es nx t).2.2.1, evB x = true := by
 unfold cnR
 by_cases ht : timB t = true
 ·rw [if_pos ht]
  exact ⟨Nat.le_trans (List.length_filter_le _ _) hn, fun x hx => hE x (List.mem_filter.1 hx).1⟩
 ·rw [if_neg ht]; exact ⟨by simp, fun x hx => by cases hx⟩
theorem ZHV (w0 w : World) (g bm n : Nat) (a1 a2 : Option Addr) (k1 k2 : Nat) (u : Value) (ss : List ByteArray) (fs : List Pr) (es : List Ev) (nx t : Int) (hb : Below w0.heap.size w0 w) (hH : His w w0.heap.size g 94 bm n a1 a2 k1 k2 u [.int .i64 nx] ss fs es) (hW : ∀ e ∈ es, (Lit.int .i64 e.run).wf = true) (hE : es.length ≤ 1000) :
  Calls Tryz.prog 39 #[.pointer (some ⟨g, 0, none⟩), .int .i64 t] w (TkPost w0 g bm n a1 a2 k1 k2 ss fs (cnR ss fs es nx t)) := by
 unfold TkPost
 have cT := hid (fun V => ZDp t V)
 have cF := hid (fun V (hV : V = w) => show Calls Tryz.prog 60 #[.pointer (some ⟨g, 0, none⟩), .int .i64 t] V (FgPost w w0.heap.size g 94 bm n a1 a2 k1 k2 u [.int .i64 nx] ss fs es t) from hV ▸ ZGd w w0.heap.size g 94 bm n a1 a2 k1 k2 u [.int .i64 nx] ss fs es t hH hW hE)
 have HB := hid hb
 have HLw := hid hH.low
 clear hb hH
 by_cases ht : timB t = true
 ·have e9 : cnR ss fs es nx t = (0, wen ss fs es t (rnC es) (rnC es).length, sty ss fs es t, nx) := if_pos ht
  rw [e9]
  rw [ht] at cT
  clear e9 ht
  go_enter Tryz.func39, Tryz.ntmps39
  go_wp2_with (first | (go_at_call 59; refine (cT.out _).mono ?_; rintro x V2 ⟨rfl, rfl⟩) | fail)
  refine (cF.out _ rfl).mono ?_
  rintro x V ⟨rs, u', hrs, rfl, hH, hc⟩
  rw [hrs.eq (ZF9 es)]
  have HH := hid hH
  have HC := hid (HB.out.trans (hc.below HB.out.size (fun j h => (HLw.out j h).1)))
  clear hH hc hrs cF cT
  go_wp2
  exact bodyPost_ret (v := .tuple #[.int .i64 (wen ss fs es t (rnC es) (rnC es).length : Int), .int .i64 0]) (by simp [results, Tryz.results39, go_sem]) rfl ⟨rfl, fun _ => ⟨u', n, Nat.le_refl _, HH.out⟩, HC.out⟩
 ·have e9 : cnR ss fs es nx t = (1, 0, [], 0) := if_neg ht
  have e8 : timB t = false := by simpa using ht
  rw [e9]
  rw [e8] at cT
  clear e9 e8 ht cF
  go_enter Tryz.func39, Tryz.ntmps39
  go_wp2_with (first | (go_at_call 59; refine (cT.out _).mono ?_; rintro x V2 ⟨rfl, rfl⟩) | fail)
  exact bodyPost_ret (v := .tuple #[.int .i64 0, .int .i64 1]) (by simp [results, Tryz.results39, go_sem]) rfl ⟨rfl, fun h => absurd h (by decide), HB.out⟩
theorem ZEH (g Bl : Nat) (t : Int) (W : World) (p q : Int) (H : World → Prop) (hB : W.cell? ⟨Bl, 0, none⟩ = some (.int .i64 t)) (c : Calls Tryz.prog 39 #[.pointer (some ⟨g, 0, none⟩), .int .i64 t] W fun x w' => x = .returned (.tuple #[.int .i64 p, .int .i64 q]) ∧ H w') :
  Calls Tryz.prog 38 #[.pointer (some ⟨g, 0, none⟩), .pointer (some ⟨Bl, 0, none⟩)] W fun x w' => x = .returned (.tuple #[.int .i64 p, .int .i64 q]) ∧ H w' := by
 go_enter Tryz.func38, Tryz.ntmps38
 go_wp2_with fail
 refine c.mono ?_
 rintro e W' ⟨rfl, he⟩
 have HE := hid he
 clear he
 go_wp2
 exact bodyPost_ret (v := .tuple #[.int .i64 p, .int .i64 q]) (by simp [results, Tryz.results38, go_sem]) rfl ⟨rfl, HE.out⟩
open Classical in
theorem ZCl (a1 a2 a6 : Option Addr) (k1 k2 k6 : Nat) (ss : List ByteArray) (fs : List Pr) (es : List Ev) (nx t : Int) (w : World) (e0 e1 e2 e3 e4 : Addr) (hD : DefSl w a1 a2 k1 k2 ss fs) (hE : EvSl w (.slice a6 es.length k6) es) (hEr : ErrsAt w e0 e1 e2 e3 e4)
  (F1 : ∀ i, (h : i < ss.length) → ss[i].size ≤ maxLen) (F2 : FitP fs) (FE : Fit es) (n1 : ss.length ≤ maxLen) (n2 : fs.length ≤ maxLen) (n6 : es.length ≤ maxLen) :
  Calls Tryz.prog 19 #[svV a1 a2 a6 k1 k2 k6 ss fs es nx, .int .i64 t] w fun x w' => ImPost w ss fs (clR ss fs es nx t) x w' := by
 have HBW := hid (show Below w.heap.size w (((w.alloc (.cells #[.slice a1 ss.length k1, .slice a2 fs.length k2, .slice a6 es.length k6, .int .i64 nx] 36)).alloc (.cells #[.int .i64 t] 2)).alloc (.cells #[.slice none 0 0, .slice none 0 0, .slice none 0 0, .int .i64 0, .int .i64 0, .int .i64 0] 38)) from below3 _ _ _ _)
 have HZ := hid (show (((w.alloc (.cells #[.slice a1 ss.length k1, .slice a2 fs.length k2, .slice a6 es.length k6, .int .i64 nx] 36)).alloc (.cells #[.int .i64 t] 2)).alloc (.cells #[.slice none 0 0, .slice none 0 0, .slice none 0 0, .int .i64 0, .int .i64 0, .int .i64 0] 38)).heap.size = w.heap.size + 1 + 1 + 1 by simp)
 obtain ⟨hA0, hL0, hR0⟩ := new3i w (.cells #[.slice a1 ss.length k1, .slice a2 fs.length k2, .slice a6 es.length k6, .int .i64 nx] 36) (.cells #[.int .i64 t] 2) (.cells #[.slice none 0 0, .slice none 0 0, .slice none 0 0, .int .i64 0, .int .i64 0, .int .i64 0] 38)
 have HA := hid hA0
 have HLb := hid hL0
 have HR := hid hR0
 clear hA0 hL0 hR0
 have HD := hid hD
 have HE := hid hE
 have HER := hid hEr
 clear hD hE hEr
 obtain ⟨Q, hQ⟩ : ∃ Q, Q = clR ss fs es nx t := ⟨_, rfl⟩
 rw [← hQ]
 have HQd := hid hQ
 clear hQ
 go_enter Tryz.func19, Tryz.ntmps19
 go_upto_region 1 with fail
 generalize (((w.alloc (.cells #[.slice a1 ss.length k1, .slice a2 fs.length k2, .slice a6 es.length k6, .int .i64 nx] 36)).alloc (.cells #[.int .i64 t] 2)).alloc (.cells #[.slice none 0 0, .slice none 0 0, .slice none 0 0, .int .i64 0, .int .i64 0, .int .i64 0] 38)) = W at *
 have hl0 : W.cell? ⟨w.heap.size + 1, 0, none⟩ = some (.int .i64 t) := ce HLb.out rfl
 have s0 : W.cell? ⟨w.heap.size, 0, none⟩ = some (.slice a1 ss.length k1) := ce HA.out rfl
 have s1 : W.cell? ⟨w.heap.size, 1, none⟩ = some (.slice a2 fs.length k2) := ce HA.out rfl
 have s2 : W.cell? ⟨w.heap.size, 2, none⟩ = some (.slice a6 es.length k6) := ce HA.out rfl
 have s3 : W.cell? ⟨w.heap.size, 3, none⟩ = some (.int .i64 nx) := ce HA.out rfl
 have cW := hid (ZHC a1 a2 a6 k1 k2 k6 ss fs es nx 38 #[.pointer (some ⟨w.heap.size + 1, 0, none⟩)] es.length (cnR ss fs es nx t) W e0 e1 e2 e3 e4 (HD.out.stay HBW.out) (HE.out.stay HBW.out nL) (HER.out.stay HBW.out) F1 F2 FE n1 n2 n6 (enters_of Tryz.func38 (by kernel_rfl) rfl) ZIu (fun hP h => ⟨Nat.le_trans (ZIT hP.h.ev hP.h.n).1 (by decide), fun x hx => ZI9 ((ZIT hP.h.ev hP.h.n).2 x hx)⟩)
  (fun hP w0 W1 g bm u hw0 hW1 hH => ZEH g (w.heap.size + 1) t W1 _ _ _ (((hw0.trans (hW1.mono hw0.size)).cell (p := ⟨w.heap.size + 1, 0, none⟩) (ZAA HLb.out)).trans hl0)
   (ZHV w0 W1 g bm es.length a1 a2 k1 k2 u ss fs es nx t hW1 hH (fun e he => wf_run (hP.h.ev e he)) (by have := hP.h.n; omega))))
 go_wp2_with fail
 refine cW.out.mono ?_
 rintro x V ⟨S, F, b1, b2, b6, c1, c2, c6, hS1, hS2, rfl, hO, hq⟩
 have e9 : wkR (SvP ss fs es nx) (cnR ss fs es nx t) = Q := by
  rw [HQd.out]
  unfold wkR
  by_cases hP : SvP ss fs es nx
  ·rw [if_pos hP]
   unfold cnR
   by_cases ht : timB t = true
   ·rw [if_pos ht, ZFq (ZF9 es) ⟨hP, ht⟩]
   ·rw [if_neg ht, ZGU (fun h => ht h.2)]
  ·rw [if_neg hP, ZGU (fun h => hP h.1)]
 rw [e9] at hS1 hS2 hO ⊢
 clear e9 HQd cW
 obtain ⟨CC, M, E, N⟩ := Q
 dsimp only at hS1 hS2 hO
 have HR2 := hid ((hq.block _ (ZAA HR.out)).trans HR.out)
 have HB2 := hid (HBW.out.trans (hq.mono HBW.out.size))
 have hz2 : w.heap.size + 1 + 1 + 1 ≤ V.heap.size := by have := hq.size; have := HZ.out; omega
 have HO2 := hid (show SvL V (w.heap.size + 1 + 1 + 1) b1 b2 b6 c1 c2 c6 S F E from ⟨⟨ZAI hO.d.o1 (by have := HZ.out; omega), ZAI hO.d.o2 (by have := HZ.out; omega)⟩, hO.e.le (by have := HZ.out; omega)⟩)
 have HS1 := hid hS1
 have HS2 := hid hS2
 clear hq hO hl0 s0 s1 s2 s3 hS1 hS2
 have r0 : V.cell? ⟨w.heap.size + 1 + 1, 0, none⟩ = some (.slice none 0 0) := ce HR2.out rfl
 have r1 : V.cell? ⟨w.heap.size + 1 + 1, 1, none⟩ = some (.slice none 0 0) := ce HR2.out rfl
 have r2 : V.cell? ⟨w.heap.size + 1 + 1, 2, none⟩ = some (.slice none 0 0) := ce HR2.out rfl
 have r3 : V.cell? ⟨w.heap.size + 1 + 1, 3, none⟩ = some (.int .i64 0) := ce HR2.out rfl
 have r4 : V.cell? ⟨w.heap.size + 1 + 1, 4, none⟩ = some (.int .i64 0) := ce HR2.out rfl
 have r5 : V.cell? ⟨w.heap.size + 1 + 1, 5, none⟩ = some (.int .i64 0) := ce HR2.out rfl
 have rf := Lib.frozen_of_heap HR2.out
 have HQ := hid (ol_set3 N M CC HO2.out HB2.out hz2 HR2.out)
 unfold osV
 go_wp2_with fail
 have hF := HQ.out.1
 unfold outSet at hF
 have z0 := Lib.cell_of_heap hF (j := 0)
 have z1 := Lib.cell_of_heap hF (j := 1)
 have z2 := Lib.cell_of_heap hF (j := 2)
 have z3 := Lib.cell_of_heap hF (j := 3)
 have z4 := Lib.cell_of_heap hF (j := 4)
 have z5 := Lib.cell_of_heap hF (j := 5)
 simp at z0 z1 z2 z3 z4 z5
 exact bodyPost_ret (v := .agg #[.slice b1 S.length c1, .slice b2 F.length c2, .slice b6 E.length c6, .int .i64 N, .int .i64 (M : Int), .int .i64 CC]) (by simp [results, Tryz.results19, go_sem, z0, z1, z2, z3, z4, z5]) rfl ⟨S, F, b1, b2, b6, c1, c2, c6, HS1.out, HS2.out, rfl, HQ.out.2.1, HQ.out.2.2⟩
end Go.Proofs.YtookchpdbilbcaaGreatDoor
/-
 What spec.Cleanup answers: a contract over the seat's program. (Made by mkcl.py.)
-/
namespace Go.Proofs.YtookchpdbilbcaaGreatDoor
open Go.RowKit Go.Sort
theorem ZDX (a1 a2 a6 : Option Addr) (k1 k2 k6 : Nat) (ss : List ByteArray) (fs : List Pr) (es : List Ev) (nx t : Int) (w : World) (hD : DefSl w a1 a2 k1 k2 ss fs) (hE : EvSl w (.slice a6 es.length k6) es) (F1 : ∀ i, (h : i < ss.length) → ss[i].size ≤ maxLen) (FE : Fit es) (n1 : ss.length ≤ maxLen) (n2 : fs.length ≤ maxLen) (n6 : es.length ≤ maxLen) (hN : ¬ (SvP ss fs es nx ∧ timB t = true)) :
  Calls Tryz.prog 18 #[svV a1 a2 a6 k1 k2 k6 ss fs es nx, .int .i64 t] w fun x w' => InPost w ss fs (1, 0, [], 0) x w' := by
 have HBW := hid (show Below w.heap.size w ((w.alloc (.cells #[.slice a1 ss.length k1, .slice a2 fs.length k2, .slice a6 es.length k6, .int .i64 nx] 36)).alloc (.cells #[.slice none 0 0, .slice none 0 0, .slice none 0 0, .int .i64 0, .int .i64 0, .int .i64 0] 38)) from below2 _ _ _)
 have HZ := hid (show ((w.alloc (.cells #[.slice a1 ss.length k1, .slice a2 fs.length k2, .slice a6 es.length k6, .int .i64 nx] 36)).alloc (.cells #[.slice none 0 0, .slice none 0 0, .slice none 0 0, .int .i64 0, .int .i64 0, .int .i64 0] 38)).heap.size = w.heap.size + 1 + 1 by simp)
 have HA := hid (show ((w.alloc (.cells #[.slice a1 ss.length k1, .slice a2 fs.length k2, .slice a6 es.length k6, .int .i64 nx] 36)).alloc (.cells #[.slice none 0 0, .slice none 0 0, .slice none 0 0, .int .i64 0, .int .i64 0, .int .i64 0] 38)).heap[w.heap.size]? = some (.cells #[.slice a1 ss.length k1, .slice a2 fs.length k2, .slice a6 es.length k6, .int .i64 nx] 36 (0, 0)) from (Below.heap_alloc _ _ _ (by simp)).trans (heap_alloc_new w _))
 have HR := hid (show ((w.alloc (.cells #[.slice a1 ss.length k1, .slice a2 fs.length k2, .slice a6 es.length k6, .int .i64 nx] 36)).alloc (.cells #[.slice none 0 0, .slice none 0 0, .slice none 0 0, .int .i64 0, .int .i64 0, .int .i64 0] 38)).heap[w.heap.size + 1]? = some (.cells #[.slice none 0 0, .slice none 0 0, .slice none 0 0, .int .i64 0, .int .i64 0, .int .i64 0] 38 (0, 0)) by have h := heap_alloc_new (w.alloc (.cells #[.slice a1 ss.length k1, .slice a2 fs.length k2, .slice a6 es.length k6, .int .i64 nx] 36)) (.cells #[.slice none 0 0, .slice none 0 0, .slice none 0 0, .int .i64 0, .int .i64 0, .int .i64 0] 38); rw [World.size_alloc] at h; exact h)
 have cT := hid (fun V => ZBg t V)
 have HD := hid hD
 have HE := hid hE
 clear hD hE
 go_enter Tryz.func18, Tryz.ntmps18
 go_upto_region 1 with fail
 generalize ((w.alloc (.cells #[.slice a1 ss.length k1, .slice a2 fs.length k2, .slice a6 es.length k6, .int .i64 nx] 36)).alloc (.cells #[.slice none 0 0, .slice none 0 0, .slice none 0 0, .int .i64 0, .int .i64 0, .int .i64 0] 38)) = W at *
 have s0 : W.cell? ⟨w.heap.size, 0, none⟩ = some (.slice a1 ss.length k1) := ce HA.out rfl
 have s1 : W.cell? ⟨w.heap.size, 1, none⟩ = some (.slice a2 fs.length k2) := ce HA.out rfl
 have s2 : W.cell? ⟨w.heap.size, 2, none⟩ = some (.slice a6 es.length k6) := ce HA.out rfl
 have s3 : W.cell? ⟨w.heap.size, 3, none⟩ = some (.int .i64 nx) := ce HA.out rfl
 go_wp2_with fail
 refine (ZAr a1 a2 a6 k1 k2 k6 ss fs es nx W (HD.out.stay HBW.out) (HE.out.stay HBW.out nL) F1 FE n1 n2 n6).mono ?_
 rintro x V1 ⟨hx, hq1⟩
 have HB1 := hid (HBW.out.trans (hq1.mono HBW.out.size))
 have HR1 := hid ((hq1.block _ (ZAA HR.out)).trans HR.out)
 have hz1 : w.heap.size + 1 + 1 ≤ V1.heap.size := by have := hq1.size; have := HZ.out; omega
 clear hq1 s0 s1 s2 s3 F1 FE n1 n2 n6
 have r0 : V1.cell? ⟨w.heap.size + 1, 0, none⟩ = some (.slice none 0 0) := ce HR1.out rfl
 have r1 : V1.cell? ⟨w.heap.size + 1, 1, none⟩ = some (.slice none 0 0) := ce HR1.out rfl
 have r2 : V1.cell? ⟨w.heap.size + 1, 2, none⟩ = some (.slice none 0 0) := ce HR1.out rfl
 have r3 : V1.cell? ⟨w.heap.size + 1, 3, none⟩ = some (.int .i64 0) := ce HR1.out rfl
 have r4 : V1.cell? ⟨w.heap.size + 1, 4, none⟩ = some (.int .i64 0) := ce HR1.out rfl
 have r5 : V1.cell? ⟨w.heap.size + 1, 5, none⟩ = some (.int .i64 0) := ce HR1.out rfl
 have rf := Lib.frozen_of_heap HR1.out
 have HQ := hid (ZEb ss fs 0 1 (by decide) HB1.out hz1 HR1.out)
 by_cases hP : SvP ss fs es nx
 ·rw [hx.yes hP]
  have hT : timB t = false := by cases h : timB t; rfl; exact absurd ⟨hP, h⟩ hN
  rw [hT] at cT
  clear hx hP hN hT
  go_wp2_with (first | (go_at_call 34; refine (cT.out _).mono ?_; rintro x V2 ⟨rfl, rfl⟩) | fail)
  have hF := HQ.out.1
  unfold outSet at hF
  have z0 := Lib.cell_of_heap hF (j := 0)
  have z1 := Lib.cell_of_heap hF (j := 1)
  have z2 := Lib.cell_of_heap hF (j := 2)
  have z3 := Lib.cell_of_heap hF (j := 3)
  have z4 := Lib.cell_of_heap hF (j := 4)
  have z5 := Lib.cell_of_heap hF (j := 5)
  simp at z0 z1 z2 z3 z4 z5
  exact bodyPost_ret (v := .agg #[.slice none 0 0, .slice none 0 0, .slice none 0 0, .int .i64 0, .int .i64 (0 : Nat), .int .i64 1]) (by simp [results, Tryz.results18, go_sem, z0, z1, z2, z3, z4, z5]) rfl HQ.out.2
 ·rw [hx.no hP]
  clear hx hP hN cT
  go_wp2_with fail
  have hF := HQ.out.1
  unfold outSet at hF
  have z0 := Lib.cell_of_heap hF (j := 0)
  have z1 := Lib.cell_of_heap hF (j := 1)
  have z2 := Lib.cell_of_heap hF (j := 2)
  have z3 := Lib.cell_of_heap hF (j := 3)
  have z4 := Lib.cell_of_heap hF (j := 4)
  have z5 := Lib.cell_of_heap hF (j := 5)
  simp at z0 z1 z2 z3 z4 z5
  exact bodyPost_ret (v := .agg #[.slice none 0 0, .slice none 0 0, .slice none 0 0, .int .i64 0, .int .i64 (0 : Nat), .int .i64 1]) (by simp [results, Tryz.results18, go_sem, z0, z1, z2, z3, z4, z5]) rfl HQ.out.2
theorem ZCe (a1 a2 a6 : Option Addr) (k1 k2 k6 : Nat) (ss : List ByteArray) (fs : List Pr) (es : List Ev) (nx t : Int) (w : World) (hD : DefSl w a1 a2 k1 k2 ss fs) (hE : EvSl w (.slice a6 es.length k6) es) (F1 : ∀ i, (h : i < ss.length) → ss[i].size ≤ maxLen) (FE : Fit es) (n1 : ss.length ≤ maxLen) (n2 : fs.length ≤ maxLen) (n6 : es.length ≤ maxLen) :
  Calls Tryz.prog 18 #[svV a1 a2 a6 k1 k2 k6 ss fs es nx, .int .i64 t] w fun x w' => InPost w ss fs (clR ss fs es nx t) x w' := by
 by_cases h : SvP ss fs es nx ∧ timB t = true
 ·refine (ZDI a1 a2 a6 k1 k2 k6 ss fs es nx t w hD hE h.1 h.2 F1 FE n1 n2 n6).mono ?_
  rintro x w' ⟨rs, rs', b1, b2, b6, c1, c2, c6, hrs, hrs', rfl, hO, hb⟩
  rw [ZFq hrs h]
  rw [← sty_cl h.1.h.runs] at hrs' hO ⊢
  rw [ZJL hrs hrs']
  exact ⟨ss, fs, b1, b2, b6, c1, c2, c6, fun _ => ⟨rfl, rfl⟩, fun h => absurd rfl h, rfl, hO, hb⟩
 ·rw [ZGU h]
  exact ZDX a1 a2 a6 k1 k2 k6 ss fs es nx t w hD hE F1 FE n1 n2 n6 h
end Go.Proofs.YtookchpdbilbcaaGreatDoor
/-
 What laws.markText answers, for every number from 1 on: a contract over the seat's program.
-/
namespace Go.Proofs.YtookchpdbilbcaaGreatDoor
open Go.RowKit
def digS (k : Nat) : ByteArray := ⟨[UInt8.ofNat (48 + k % 10)].toArray⟩
theorem ZIX (k : Nat) : (digS k).size = 1 := rfl
/-- The digits of a number ahead of a text. -/
def decT : Nat → Nat → ByteArray → ByteArray
 | 0, _, acc => acc
 | f + 1, k, acc => if k = 0 then acc else decT f (k / 10) (digS k ++ acc)
theorem ZHT (f : Nat) (acc : ByteArray) : decT f 0 acc = acc := by cases f <;> simp [decT]
theorem ZHu {f k : Nat} (h : 0 < k) (acc : ByteArray) : decT (f + 1) k acc = decT f (k / 10) (digS k ++ acc) := by
 simp [decT, show ¬ k = 0 by omega]
def markT (k : Int) : ByteArray := ⟨#[109]⟩ ++ decT 20 k.toNat ByteArray.empty
theorem ZI1 {f k : Nat} (hk : k < 10 ^ f) (h : 0 < k) : ∃ g, f = g + 1 ∧ k / 10 < 10 ^ g := by
 cases f with
 | zero => simp at hk; omega
 | succ g => exact ⟨g, rfl, by rw [Nat.pow_succ] at hk; omega⟩
theorem ZAU (k : Int) (w : World) (h1 : 0 < k) (h2 : k ≤ 1000000000) :
  Calls Tryz.prog 32 #[.int .i64 k] w fun e w' => e = .returned (.string (markT k)) ∧ Below w.heap.size w w' := by
 obtain ⟨K, rfl⟩ := Int.eq_ofNat_of_zero_le (show 0 ≤ k by omega)
 unfold markT
 rw [Int.toNat_natCast]
 obtain ⟨D, hD⟩ : ∃ D, decT 20 K ByteArray.empty = D := ⟨_, rfl⟩
 rw [hD]
 have HD := hid hD
 clear hD
 go_enter Tryz.func32, Tryz.ntmps32
 go_wp2
 go_loopw [0, 3] (fun kv o wr => ∃ (m f : Nat) (acc : ByteArray), kv = .int .i64 m ∧ o = .string acc ∧ m < 10 ^ f ∧ f ≤ 20 ∧ acc.size + f ≤ 20 ∧ m ≤ 1000000000 ∧ decT f m acc = D ∧ Below w.heap.size w wr) (fun kv _ _ => (intOf kv).toNat)
 case atStart => exact ⟨K, 20, ByteArray.empty, rfl, rfl, by omega, Nat.le_refl _, by simp, by omega, HD.out, Below.refl _ _⟩
 case round =>
  obtain ⟨m, f, acc, rfl, rfl, hm, hf, hs, hm6, hdd, hbel⟩ := hrel
  have HDD := hid hdd
  have HM := hid hm
  clear hdd hm
  by_cases hlt : 0 < m
  ·obtain ⟨g, rfl, hg⟩ := ZI1 HM.out hlt
   rw [ZHu hlt] at HDD
   have hcv : (convert 99 9 (.slice (some ⟨wr.heap.size, 0, none⟩) 1 1)).run Tryz.prog (wr.alloc (.cells #[.int .u8 (48 + (m : Int) % 10)] 5)) = .ok (.string (digS m)) (wr.alloc (.cells #[.int .u8 (48 + (m : Int) % 10)] 5)) :=
    ZIw (P := Tryz.prog) (l := [UInt8.ofNat (48 + m % 10)]) 99 9 Tryz.underlying99 Tryz.underlying5 Tryz.underlying9 rfl (by
     have e : (Lib.byteCells [UInt8.ofNat (48 + m % 10)]).toArray = #[.int .u8 (48 + (m : Int) % 10)] := by
      simp [Lib.byteCells]; omega
     rw [e]; exact heap_alloc_new wr _)
   have hds := ZIX m
   generalize digS m = S at *
   have HG := hid hg
   clear hg HM
   go_wp2
   refine ⟨⟨m / 10, g, S ++ acc, by go_num, rfl, HG.out, by omega, by rw [ByteArray.size_append]; omega, by omega, HDD.out, hbel.alloc hbel.size _⟩, by simp [intOf]; omega⟩
  ·have hm0 : m = 0 := by omega
   subst hm0
   rw [ZHT] at HDD
   have hDS := HDD.out
   subst hDS
   go_wp2
   go_ret
   exact ⟨rfl, hbel⟩
end Go.Proofs.YtookchpdbilbcaaGreatDoor
/-
 What laws.markStringS and heldStringS do: contracts over the seat's program. (Made by mkmark.py.)
-/
namespace Go.Proofs.YtookchpdbilbcaaGreatDoor
open Go.RowKit Go.Sort
theorem ZBi {w : World} {g j : Nat} {L : List Value} {t : TypeId} (h : w.heap[g]? = some (.cells L.toArray t (0, 0))) (hj : j < L.length) : ∃ u, w.cell? ⟨g, j, none⟩ = some u := by
 rw [Lib.cell_of_heap h]
 exact ⟨L[j], by simp [hj]⟩
/-- So many marks, from the k-th on. -/
def mkS (k : Int) (n : Nat) : List ByteArray := (List.range n).map fun i : Nat => markT (k + (i : Int))
theorem ZEA (k : Int) (n : Nat) : (mkS k n).length = n := by simp [mkS]
theorem ZIp (k : Int) (n : Nat) : (mkS k (n + 1)).map Value.string = (mkS k n).map Value.string ++ [.string (markT (k + (n : Int)))] := by simp [mkS, List.range_succ]
theorem mkS_at {k : Int} {n i : Nat} (h : i < (mkS k n).length) : (mkS k n)[i] = markT (k + (i : Int)) := by simp [mkS]
theorem ZB1 {L : List Value} {i : Nat} {a : Value} (h : i < L.length) : (L.set i a).take (i + 1) = L.take i ++ [a] := by
 rw [List.take_set, List.take_succ_eq_append_getElem h, List.set_append_right _ _ (by simp; omega)]
 simp [Nat.min_eq_left (Nat.le_of_lt h)]
theorem ZDA (g n c : Nat) (K : Int) (L : List Value) (w : World) (hG : w.heap[g]? = some (.cells L.toArray 9 (0, 0))) (hL : n ≤ L.length) (hK : 0 < K) (hn : K + (n : Int) ≤ 1000000000) :
  Calls Tryz.prog 55 #[.slice (some ⟨g, 0, none⟩) n c, .int .i64 K] w fun e w' =>
   ∃ L' : List Value, e = .returned (.int .i64 (K + (n : Int))) ∧ w'.heap[g]? = some (.cells L'.toArray 9 (0, 0)) ∧ L'.length = L.length ∧ L'.take n = (mkS K n).map Value.string ∧ w.grownBy w' (some g) := by
 have HG := hid hG
 have HL := hid hL
 clear hG hL
 go_enter Tryz.func55, Tryz.ntmps55
 go_wp2
 go_loopw [1, 5] (fun kv i wr => ∃ (j : Nat) (M : List Value), j ≤ n ∧ i = .int .i64 j ∧ kv = .int .i64 (K + (j : Int)) ∧ M.length = L.length ∧ M.take j = (mkS K j).map Value.string ∧ wr.heap[g]? = some (.cells M.toArray 9 (0, 0)) ∧ w.grownBy wr (some g)) (fun _ i _ => n - (intOf i).toNat)
 case atStart => exact ⟨0, L, Nat.zero_le _, rfl, by simp, rfl, by simp [mkS], HG.out, World.grownBy.refl _ _⟩
 case round =>
  obtain ⟨j, M, hj, rfl, rfl, hM, hT, hGr, hgr⟩ := hrel
  have HM := hid hM
  have HT := hid hT
  have HGr := hid hGr
  have Hgr := hid hgr
  clear hM hT hGr hgr
  by_cases hlt : j < n
  ·have hjl : j < M.length := by have := HM.out; have := HL.out; omega
   have c4 := hid (fun w => ZAU (K + (j : Int)) w (by omega) (by omega))
   have HMS := hid (ZIp K j)
   have HS := hid (fun a => ZB1 (a := a) hjl)
   generalize markT (K + (j : Int)) = S4 at *
   go_wp2_with fail
   refine (c4.out _).mono ?_
   rintro e w2 ⟨rfl, hb2⟩
   have hB : w2.heap[g]? = _ := (hb2.block g (ZAA HGr.out)).trans HGr.out
   have hgB := hid (ZAN Hgr.out (ZAP hb2))
   obtain ⟨u4, z4⟩ := ZBi hB hjl
   have hfz2 : ∀ t, w2.frozen? ⟨g, t, none⟩ = false := fun t => Lib.frozen_of_heap hB t
   have HB := hid hB
   clear hB hb2 c4 Hgr HGr
   go_wp2
   go_roundw
   case rel => exact ⟨j + 1, _, by omega, by go_num, by go_num, by rw [List.length_set]; exact HM.out, by rw [HS.out, HT.out, HMS.out], ZAG (i := j) HB.out (.string S4), ZAN hgB.out (ZAF _ g j (.string S4))⟩
   case measure => simp [intOf]; omega
  ·have hje : j = n := by omega
   have HJ := hid hje
   clear hje
   go_wp2
   go_ret
   refine ⟨M, by rw [HJ.out]; rfl, HGr.out, HM.out, ?_, Hgr.out⟩
   have := HT.out
   rwa [HJ.out] at this
theorem ZCL (a : Option Addr) (c : Nat) (K : Int) (w : World) :
  Calls Tryz.prog 55 #[.slice a 0 c, .int .i64 K] w fun e w' => e = .returned (.int .i64 K) ∧ w' = w := by
 go_enter Tryz.func55, Tryz.ntmps55
 go_wp2
 go_loopw [1, 5] (fun kv i wr => kv = .int .i64 K ∧ i = .int .i64 0 ∧ wr = w) (fun _ _ _ => 0)
 case atStart => exact ⟨rfl, rfl, rfl⟩
 case round =>
  obtain ⟨rfl, rfl, rfl⟩ := hrel
  go_wp2
  go_ret
  exact ⟨rfl, rfl⟩
theorem ZCx (v : Value) (n base : Nat) (K : Int) (xs : List Value) (w : World) (h : w.ownsRow base 9 1 v n xs) (hK : 0 < K) (hn : K + (n : Int) ≤ 1000000000) :
  Calls Tryz.prog 55 #[v, .int .i64 K] w fun e w' => e = .returned (.int .i64 (K + (n : Int))) ∧ w'.ownsRow base 9 1 v n ((mkS K n).map Value.string) ∧ w.grownBy w' v.ownBlock := by
 rcases h.2 with ⟨rfl, rfl⟩ | ⟨g, cap, cur, rfl, hb, hg, hc, hm, hs, ht⟩
 ·refine (ZCL none 0 K w).mono ?_
  rintro e w' ⟨rfl, rfl⟩
  exact ⟨by simp, World.ownsRow_nil _ _ _ _, World.grownBy.refl _ _⟩
 ·have hg' : w.heap[g]? = some (.cells cur.toList.toArray 9 (0, 0)) := by simpa using hg
  refine (ZDA g n cap K cur.toList w hg' (by rw [Array.length_toList, hs]; omega) hK hn).mono ?_
  rintro e w' ⟨L', rfl, h1, h2, h3, h4⟩
  refine ⟨rfl, ⟨by rw [List.length_map, ZEA]; omega, .inr ⟨g, cap, L'.toArray, rfl, hb, h1, hc, hm, ?_, by simpa using h3⟩⟩, h4⟩
  rw [List.size_toArray, h2, Array.length_toList, hs]
theorem ZDD (g o c n : Nat) (K : Int) (w : World) (hE : StrsAt w g o (mkS K n)) (hK : 0 < K) (hn : K + (n : Int) ≤ 1000000000) :
  Calls Tryz.prog 75 #[.slice (some ⟨g, o, none⟩) n c, .int .i64 K] w fun e w' => e = .returned (.int .i64 (K + (n : Int))) ∧ Below w.heap.size w w' := by
 have mixed : Tryz.prog.follows .mixedOrders = true := by kernel_rfl
 have HE := hid hE
 clear hE
 go_enter Tryz.func75, Tryz.ntmps75
 go_wp2
 go_loopw [1, 5] (fun kv i wr => ∃ j : Nat, j ≤ n ∧ i = .int .i64 j ∧ kv = .int .i64 (K + (j : Int)) ∧ Below w.heap.size w wr) (fun _ i _ => n - (intOf i).toNat)
 case atStart => exact ⟨0, Nat.zero_le _, rfl, by simp, Below.refl _ _⟩
 case round =>
  obtain ⟨j, hj, rfl, rfl, hbel⟩ := hrel
  by_cases hlt : j < n
  ·have c0 := (HE.out.stay hbel nL).2 j (by rw [ZEA]; exact hlt)
   rw [mkS_at] at c0
   have d1 := fun d os => Calls.regrown_of (w := wr) (d := d) (os := os) (ZAU (K + (j : Int)) (grow (redrawn wr d) os) (by omega) (by omega))
   have HB := hid hbel
   clear hbel
   generalize markT (K + (j : Int)) = S4 at *
   go_wp2
   have c0' := cell_regrown c0
   clear c0
   refine wp_region_quiet_below mixed (by kernel_rfl) ?_
   repeat (go_big_quiet_step ((go_at_call 32; exact d1 _ _)))
   refine wpQuiet_nil ?_
   intro W2 hw'
   have HR := hid (show Below wr.heap.size wr W2 by obtain ⟨⟨dq, osq⟩, hw''⟩ := hw'; subst hw''; exact below_regrown wr dq osq)
   clear hw' c0' d1
   go_wp2
   go_roundw
   case rel => exact ⟨j + 1, by omega, by go_num, by go_num, HB.out.trans (HR.out.mono HB.out.size)⟩
   case measure => simp [intOf]; omega
  ·have hje : j = n := by omega
   have HJ := hid hje
   clear hje
   go_wp2
   go_ret
   exact ⟨by rw [HJ.out]; rfl, hbel⟩
theorem ZCK (a : Option Addr) (c : Nat) (K : Int) (w : World) :
  Calls Tryz.prog 75 #[.slice a 0 c, .int .i64 K] w fun e w' => e = .returned (.int .i64 K) ∧ w' = w := by
 go_enter Tryz.func75, Tryz.ntmps75
 go_wp2
 go_loopw [1, 5] (fun kv i wr => kv = .int .i64 K ∧ i = .int .i64 0 ∧ wr = w) (fun _ _ _ => 0)
 case atStart => exact ⟨rfl, rfl, rfl⟩
 case round =>
  obtain ⟨rfl, rfl, rfl⟩ := hrel
  go_wp2
  go_ret
  exact ⟨rfl, rfl⟩
theorem ZCn (v : Value) (n base : Nat) (K : Int) (w : World) (h : w.ownsRow base 9 1 v n ((mkS K n).map Value.string)) (hK : 0 < K) (hn : K + (n : Int) ≤ 1000000000) :
  Calls Tryz.prog 75 #[v, .int .i64 K] w fun e w' => e = .returned (.int .i64 (K + (n : Int))) ∧ Below w.heap.size w w' := by
 rcases ZAz h with ⟨a, c, rfl, h0⟩ | ⟨g, o, c, rfl, _, hE⟩
 ·have : n = 0 := by rw [← ZEA K n, h0]; rfl
  subst this
  refine (ZCK a c K w).mono ?_
  rintro e w' ⟨rfl, rfl⟩
  exact ⟨by simp, Below.refl _ _⟩
 ·rw [ZEA]
  exact ZDD g o c n K w hE hK hn
end Go.Proofs.YtookchpdbilbcaaGreatDoor
