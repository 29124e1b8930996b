/-
 What (*impl.history).forget does: a contract over the seat's program. (Made by mkfg.py.)
-/
import Derived.Test.YtookchpdbilbcaaGreatDoorZImFg1
import Derived.Test.YtookchpdbilbcaaGreatDoorZImHo2
import Derived.Test.YtookchpdbilbcaaGreatDoorZTkM5
set_option maxRecDepth 100000
set_option maxHeartbeats 8000000
namespace Go.Proofs.YtookchpdbilbcaaGreatDoor
open Go.RowKit Go.Sort Go.Maps
/-- Has the run ended by then? -/
def ovB (ss : List ByteArray) (fs : List Pr) (E : List Ev) (t r : Int) : Bool := decide ((runS ss fs E r).status = 2) && decide ((runS ss fs E r).last ≤ t)
/-- What a datum says of the runs, some of them gone. -/
structure StDl (w : World) (ss : List ByteArray) (fs : List Pr) (E : List Ev) (gone : Int → Bool) (D : DataW Value) : Prop where
 m : IsMap D
 no : ∀ r, gone r = true → D.atKey (.int .i64 r) (.held zSt) = .held zSt ∧ Maps.has D (.int .i64 r) = false
 at_ : ∀ r, gone r = false → (∃ u3 u4 u5, D.atKey (.int .i64 r) (.held zSt) = .held (stU (runS ss fs E r) u3 u4 u5) ∧ StOwn w 0 u3 u4 u5 (runS ss fs E r)) ∧ Maps.has D (.int .i64 r) = !(ofRun E r).isEmpty
theorem StDl.of {w : World} {ss : List ByteArray} {fs : List Pr} {E : List Ev} {D : DataW Value} (h : StOf w ss fs E D) : StDl w ss fs E (fun _ => false) D := ⟨h.m, fun r hr => absurd hr (by decide), fun r _ => ⟨h.at_ r, h.has r⟩⟩
theorem StDl.kt {w w' : World} {ss : List ByteArray} {fs : List Pr} {E : List Ev} {gone : Int → Bool} {D : DataW Value} (h : StDl w ss fs E gone D) (hk : KT w w') : StDl w' ss fs E gone D :=
 ⟨h.m, h.no, fun r hr => ⟨let ⟨u3, u4, u5, e, ho⟩ := (h.at_ r hr).1; ⟨u3, u4, u5, e, ho.kt hk⟩, (h.at_ r hr).2⟩⟩
theorem StDl.del {w : World} {ss : List ByteArray} {fs : List Pr} {E : List Ev} {gone gone' : Int → Bool} {D : DataW Value} (h : StDl w ss fs E gone D) (r : Int) (hg : ∀ x, gone' x = (decide (x = r) || gone x)) : StDl w ss fs E gone' (D.del (.int .i64 r)) := by
 refine ⟨h.m.del _, fun x hx => ?_, fun x hx => ?_⟩
 ·by_cases e : x = r
  ·subst e; exact ⟨atKey_del_same _, has_del_same⟩
  ·rw [hg x] at hx
   simp [e] at hx
   rw [atKey_del_other (fun h' => e (by injection h')), has_del_other (fun h' => e (by injection h'))]
   exact h.no x hx
 ·rw [hg x] at hx
  simp at hx
  rw [atKey_del_other (fun h' => hx.1 (by injection h')), has_del_other (fun h' => hx.1 (by injection h'))]
  exact h.at_ x hx.2
/-- Which runs are gone behind so many of a row. -/
def gon (ss : List ByteArray) (fs : List Pr) (E : List Ev) (t : Int) (rs : List Int) (k : Nat) (r : Int) : Bool := decide (r ∈ rs.take k) && ovB ss fs E t r
theorem ZC1 {rs : List Int} {k : Nat} (hk : k < rs.length) (x : Int) : x ∈ rs.take (k + 1) ↔ x ∈ rs.take k ∨ x = rs[k] := by
 rw [List.take_succ_eq_append_getElem hk, List.mem_append, List.mem_singleton]
theorem gon_no {ss : List ByteArray} {fs : List Pr} {E : List Ev} {t : Int} {rs : List Int} {k : Nat} (hk : k < rs.length) (h : ovB ss fs E t rs[k] = false) : gon ss fs E t rs (k + 1) = gon ss fs E t rs k := by
 funext x
 unfold gon
 by_cases e : x = rs[k]
 ·subst e; rw [h, Bool.and_false, Bool.and_false]
 ·rw [show decide (x ∈ rs.take (k + 1)) = decide (x ∈ rs.take k) from decide_eq_decide.2 ((ZC1 hk x).trans ⟨fun h => h.resolve_right e, .inl⟩)]
theorem gon_yes {ss : List ByteArray} {fs : List Pr} {E : List Ev} {t : Int} {rs : List Int} {k : Nat} (hk : k < rs.length) (h : ovB ss fs E t rs[k] = true) (x : Int) : gon ss fs E t rs (k + 1) x = (decide (x = rs[k]) || gon ss fs E t rs k x) := by
 unfold gon
 by_cases e : x = rs[k]
 ·rw [show decide (x ∈ rs.take (k + 1)) = true from decide_eq_true ((ZC1 hk x).2 (.inr e)), show decide (x = rs[k]) = true from decide_eq_true e, e, h]; rfl
 ·rw [show decide (x ∈ rs.take (k + 1)) = decide (x ∈ rs.take k) from decide_eq_decide.2 ((ZC1 hk x).trans ⟨fun h => h.resolve_right e, .inl⟩), show decide (x = rs[k]) = false from decide_eq_false e]; rfl
theorem gon_at {ss : List ByteArray} {fs : List Pr} {E : List Ev} {t : Int} {rs : List Int} (hp : rs.Pairwise (· < ·)) {k : Nat} (hk : k < rs.length) : gon ss fs E t rs k rs[k] = false := by
 unfold gon
 have : rs[k] ∉ rs.take k := fun hm => by
  obtain ⟨j, hj, he⟩ := List.mem_iff_getElem.1 hm
  rw [List.getElem_take] at he
  have hjk : j < k := by simp at hj; omega
  have := List.pairwise_iff_getElem.1 hp j k (by omega) hk hjk
  omega
 simp [this]
/-- How many have gone. -/
def wen (ss : List ByteArray) (fs : List Pr) (E : List Ev) (t : Int) (rs : List Int) (k : Nat) : Nat := ((rs.take k).filter (ovB ss fs E t)).length
theorem wen_le {ss : List ByteArray} {fs : List Pr} {E : List Ev} {t : Int} {rs : List Int} (k : Nat) : wen ss fs E t rs k ≤ rs.length := Nat.le_trans (List.length_filter_le _ _) (by simp; omega)
theorem wen_no {ss : List ByteArray} {fs : List Pr} {E : List Ev} {t : Int} {rs : List Int} {k : Nat} (hk : k < rs.length) (h : ovB ss fs E t rs[k] = false) : wen ss fs E t rs (k + 1) = wen ss fs E t rs k := by
 unfold wen; rw [List.take_succ_eq_append_getElem hk, List.filter_append]; simp [h]
theorem wen_yes {ss : List ByteArray} {fs : List Pr} {E : List Ev} {t : Int} {rs : List Int} {k : Nat} (hk : k < rs.length) (h : ovB ss fs E t rs[k] = true) : wen ss fs E t rs (k + 1) = wen ss fs E t rs k + 1 := by
 unfold wen; rw [List.take_succ_eq_append_getElem hk, List.filter_append]; simp [h]
structure FgS (B bm bx lo T : Nat) (a1 a2 au : Option Addr) (cu k1 k2 : Nat) (rest : List Value) (ss : List ByteArray) (fs : List Pr) (E K : List Ev) (V : World) (listed : Array Bool) (x42 x43 x44 x45 x46 x47 x48 x49 x50 : Value) (X : World) : Prop where
 hb0 : listed.getD 6 false = false → Below V.heap.size V X
 hb : listed.getD 9 false = false → Chg (fun j => (Value.slice au E.length cu).ownBlock = some j) V X
 p0 : listed.getD 0 false = true → x42 = .pointer (some ⟨B, 0, none⟩)
 p1 : listed.getD 1 false = true → x43 = .pointer (some ⟨B, 0, none⟩)
 p2 : listed.getD 2 false = true → x44 = .pointer (some ⟨B, 0, none⟩)
 p3 : listed.getD 3 false = true → x45 = .pointer (some ⟨B, 2, none⟩)
 p4 : listed.getD 4 false = true → x46 = .slice au E.length cu
 p5 : listed.getD 5 false = true → x47 = .func (.func 79) #[] #[.pointer (some ⟨bx, 0, none⟩)]
 p6 : listed.getD 6 false = true → listed.getD 9 false = false → (X.ownsRow lo 57 6 x48 K.length (K.flatMap Ev.cells))
 p7 : listed.getD 7 false = true → x49 = .pointer (some ⟨B, 0, none⟩)
 p8 : listed.getD 8 false = true → x50 = .pointer (some ⟨B, 2, none⟩) ∧ listed.getD 7 false = true
 p9 : listed.getD 9 false = true → (∀ j, j < 9 → listed.getD j false = true) ∧ (∃ b' c', X.heap[B]? = some (.cells (.slice a1 ss.length k1 :: .slice a2 fs.length k2 :: .slice b' K.length c' :: .map (some bm) :: rest).toArray T (0, 0)) ∧ X.ownsRow lo 57 6 (.slice b' K.length c') K.length (K.flatMap Ev.cells) ∧ Chg (fun j => (Value.slice au E.length cu).ownBlock = some j ∨ j = B) V X)
def FgR (mk : Value → Value → Value → Value → Value → Value → Value → Value → Value → Act) (B bm bx lo T : Nat) (a1 a2 au : Option Addr) (cu k1 k2 : Nat) (rest : List Value) (ss : List ByteArray) (fs : List Pr) (E K : List Ev) (V : World) (listed : Array Bool) (a : Act) (X : World) : Prop := ∃ x42 x43 x44 x45 x46 x47 x48 x49 x50 : Value, a = mk x42 x43 x44 x45 x46 x47 x48 x49 x50 ∧ FgS B bm bx lo T a1 a2 au cu k1 k2 rest ss fs E K V listed x42 x43 x44 x45 x46 x47 x48 x49 x50 X
/-- What stays. -/
def sty (ss : List ByteArray) (fs : List Pr) (E : List Ev) (t : Int) : List Ev := kep (fun e => ovB ss fs E t e.run) E
theorem ZCm (ss : List ByteArray) (fs : List Pr) (E : List Ev) (t r : Int) : ofRun (sty ss fs E t) r = if ovB ss fs E t r = true then [] else ofRun E r := by
 unfold sty kep ofRun
 rw [List.filter_filter]
 by_cases h : ovB ss fs E t r = true
 ·rw [if_pos h, List.filter_eq_nil_iff]
  intro e _ he
  simp at he
  rw [he.1, h] at he
  exact absurd he.2 (by decide)
 ·rw [if_neg h]
  apply List.filter_congr
  intro e _
  by_cases he : e.run = r
  ·subst he; simp [h]
  ·simp [he]
theorem StDl.fin {w : World} {ss : List ByteArray} {fs : List Pr} {E : List Ev} {t : Int} {rs : List Int} {D : DataW Value} (hR : IsRuns E rs) (h : StDl w ss fs E (gon ss fs E t rs rs.length) D) : StOf w ss fs (sty ss fs E t) D := by
 have hz : ∀ r, r ∉ rs → ofRun E r = [] := fun r hr => by
  unfold ofRun
  rw [List.filter_eq_nil_iff]
  intro e he h'
  exact hr ((hR.mem r).2 ⟨e, he, of_decide_eq_true h'⟩)
 have hg : ∀ r, gon ss fs E t rs rs.length r = true → ovB ss fs E t r = true := fun r hr => by
  unfold gon at hr; rw [Bool.and_eq_true] at hr; exact hr.2
 have hn : ∀ r, gon ss fs E t rs rs.length r = false → ofRun (sty ss fs E t) r = ofRun E r := fun r hr => by
  rw [ZCm]
  by_cases ho : ovB ss fs E t r = true
  ·unfold gon at hr
   rw [ho, List.take_length, Bool.and_true] at hr
   rw [if_pos ho, hz r (of_decide_eq_false hr)]
  ·rw [if_neg ho]
 refine ⟨h.m, fun r => ?_, fun r => ?_⟩
 ·cases hc : gon ss fs E t rs rs.length r with
  | true =>
   have h1 : runS ss fs (sty ss fs E t) r = z0 := by unfold runS; rw [ZCm, if_pos (hg r hc)]; rfl
   rw [h1, (h.no r hc).1]
   exact ⟨.slice none 0 0, .slice none 0 0, .slice none 0 0, rfl, StOwn.none _ _⟩
  | false =>
   have h1 : runS ss fs (sty ss fs E t) r = runS ss fs E r := by unfold runS; rw [hn r hc]
   rw [h1]
   exact (h.at_ r hc).1
 ·cases hc : gon ss fs E t rs rs.length r with
  | true => rw [(h.no r hc).2, ZCm, if_pos (hg r hc)]; rfl
  | false => rw [(h.at_ r hc).2, hn r hc]
theorem StDl.has_ev {w : World} {ss : List ByteArray} {fs : List Pr} {E : List Ev} {t : Int} {rs : List Int} {D : DataW Value} (hR : IsRuns E rs) (h : StDl w ss fs E (gon ss fs E t rs rs.length) D) {e : Ev} (he : e ∈ E) : (!Maps.has D (.int .i64 e.run)) = ovB ss fs E t e.run := by
 have hm : e.run ∈ rs := (hR.mem e.run).2 ⟨e, he, rfl⟩
 have hg : gon ss fs E t rs rs.length e.run = ovB ss fs E t e.run := by unfold gon; rw [List.take_length, decide_eq_true hm, Bool.true_and]
 cases hc : gon ss fs E t rs rs.length e.run with
 | true => rw [(h.no _ hc).2, ← hg, hc]; rfl
 | false =>
  rw [(h.at_ _ hc).2, ← hg, hc]
  have : ofRun E e.run ≠ [] := fun h0 => by
   have h1 : e ∈ ofRun E e.run := List.mem_filter.2 ⟨he, by simp⟩
   rw [h0] at h1; cases h1
  cases hq : ofRun E e.run with
  | nil => exact absurd hq this
  | cons _ _ => rfl
theorem ZDv (fv : Value) (w : World) : Calls Tryz.prog 99 #[.slice none 0 0, fv] w fun x w' => x = .returned (.int .i64 (-1)) ∧ w' = w := by
 go_enter Tryz.func99, Tryz.ntmps99
 go_wp2
 go_loop [8] (fun i => i = .int .i64 0) (fun _ => 0)
 case atStart => rfl
 case round =>
  obtain rfl := hrel
  go_wp2
  go_ret
  exact ⟨rfl, rfl⟩
theorem ZDe (fv : Value) (w : World) : Calls Tryz.prog 78 #[.slice none 0 0, fv] w fun x w' => x = .returned (.slice none 0 0) ∧ w' = w := by
 go_enter Tryz.func78, Tryz.ntmps78
 go_wp2_with (first | (go_at_call 99; refine (ZDv fv _).mono ?_; rintro x w1 ⟨rfl, rfl⟩) | fail)
 go_ret
 exact ⟨rfl, rfl⟩
def FgPost (w : World) (lo B T bm n : Nat) (a1 a2 : Option Addr) (k1 k2 : Nat) (u : Value) (rest : List Value) (ss : List ByteArray) (fs : List Pr) (E : List Ev) (t : Int) (x : Ending) (w' : World) : Prop :=
 ∃ rs u', IsRuns E rs ∧ x = .returned (.int .i64 (wen ss fs E t rs rs.length : Int)) ∧ His w' lo B T bm n a1 a2 k1 k2 u' rest ss fs (sty ss fs E t) ∧ Chg (HisP B bm u) w w'
theorem ZII {w : World} {lo g c : Nat} {e : TypeId} {es : List Ev} (h : w.ownsRow lo e 6 (.slice (some ⟨g, 0, none⟩) es.length c) es.length (es.flatMap Ev.cells)) : EvsAt w g 0 es := by
 have hg := (h.lt g rfl).2
 rcases ZAi h with ⟨_, _, _, e⟩ | ⟨g', o', c', e, _, hE⟩
 ·subst e; exact ⟨hg, fun i hi => absurd hi (by simp)⟩
 ·injection e with e1 _ _
  injection e1 with e1
  injection e1 with e1 e2 _
  subst e1; subst e2
  exact hE
theorem ZEC (lo B T bm n bx : Nat) (a1 a2 au : Option Addr) (k1 k2 cu : Nat) (rest : List Value) (ss : List ByteArray) (fs : List Pr) (E : List Ev) (t : Int) (rs : List Int) (D : DataW Value) (wr : World) (hO : wr.ownsRow lo 57 6 (.slice au E.length cu) E.length (E.flatMap Ev.cells)) (hTy : T ≠ 9 ∧ T ≠ 143 ∧ T ≠ 57)
  (hBr : wr.heap[B]? = some (.cells (.slice a1 ss.length k1 :: .slice a2 fs.length k2 :: .slice au E.length cu :: .map (some bm) :: rest).toArray T (0, 0))) (hXr : wr.heap[bx]? = some (.cells #[.pointer (some ⟨B, 0, none⟩)] 115 (0, 0))) (hD : wr.ownsMap Tryz.prog 2 heldE bm n D) (hS : StDl wr ss fs E (gon ss fs E t rs rs.length) D) (hRs : IsRuns E rs) (hW : ∀ e ∈ E, (Lit.int .i64 e.run).wf = true) (hE : E.length ≤ 1000) :
  ∀ X, Below wr.heap.size wr X → Calls Tryz.prog 78 #[.slice au E.length cu, .func (.func 79) #[] #[.pointer (some ⟨bx, 0, none⟩)]] X fun x X' => ∃ v', x = .returned v' ∧ X'.ownsRow lo 57 6 v' (sty ss fs E t).length ((sty ss fs E t).flatMap Ev.cells) ∧ Chg (fun j => (Value.slice au E.length cu).ownBlock = some j) X X' := by
 intro X hX
 rcases hO.2 with ⟨hv, h0⟩ | ⟨g, cap, cur, hv, hlo, hh, h1, h2, h3, h4⟩
 ·injection hv with e1 e2 e3
  subst e1; subst e3
  have hE0 : E = [] := List.eq_nil_of_length_eq_zero h0
  rw [h0]
  refine (ZDe _ X).mono ?_
  rintro x X' ⟨rfl, rfl⟩
  refine ⟨_, rfl, ?_, Chg.refl _ _⟩
  rw [show sty ss fs E t = [] by rw [hE0]; rfl]
  exact World.ownsRow_nil _ _ _ _
 ·injection hv with e1 e2 e3
  subst e1; subst e3
  have hgw : g < wr.heap.size := ZAA hh
  have hne : ∀ c tt f, wr.heap[g]? = some (.cells c tt f) → tt = 57 := fun c tt f h => by rw [hh] at h; injection h with h; injection h with _ h _; exact h.symm
  have hbg : g ≠ bm := fun e9 => by obtain ⟨es9, c9, h9, _⟩ := hD; rw [e9, h9] at hh; cases hh
  refine (ZDM g cu lo cur.toList E (fun e => ovB ss fs E t e.run) 79 #[.pointer (some ⟨bx, 0, none⟩)] (fun Y => Y.heap[bx]? = some (.cells #[.pointer (some ⟨B, 0, none⟩)] 115 (0, 0)) ∧ Y.heap[B]? = some (.cells (.slice a1 ss.length k1 :: .slice a2 fs.length k2 :: .slice (some ⟨g, 0, none⟩) E.length cu :: .map (some bm) :: rest).toArray T (0, 0)) ∧ Y.ownsMap Tryz.prog 2 heldE bm n D) X (by rw [hX.block g hgw]; simpa using hh) (by simpa using h3) h1 h2 (by simpa using h4) hlo (by omega) (ZII ((ZAE hO hX)))
   (enters_of Tryz.func79 (by kernel_rfl) rfl) (fun Y Z hY hb => ⟨(hb.block _ (ZAA hY.1)).trans hY.1, (hb.block _ (ZAA hY.2.1)).trans hY.2.1, hY.2.2.kept (ZAP (r := none) hb) (by simp)⟩) (fun Y Z hY hg => ⟨(hg.block _ (ZAA hY.1) (fun e9 => by
    injection e9 with e9
    have := hne _ _ _ (e9 ▸ hXr)
    exact absurd this (by decide))).trans hY.1, (hg.block _ (ZAA hY.2.1) (fun e9 => by
    injection e9 with e9
    exact hTy.2.2 (hne _ _ _ (e9 ▸ hBr)))).trans hY.2.1, hY.2.2.kept hg (fun e9 => by injection e9 with e9; exact hbg e9.symm)⟩)
   (fun e Y hY he => ?_) ⟨(hX.block _ (ZAA hXr)).trans hXr, (hX.block _ (ZAA hBr)).trans hBr, hD.kept (ZAP (r := none) hX) (by simp)⟩).mono ?_
  ·rw [← hS.has_ev hRs he]
   cases hc : gon ss fs E t rs rs.length e.run with
   | true => exact ZCE B T bm n bx _ e _ D 0 0 0 0 none none none 0 0 0 0 0 0 Y hY.1 hY.2.1 rfl hY.2.2 (hS.no _ hc).1 (hW e he)
   | false =>
    obtain ⟨⟨u3, u4, u5, hAt, hOt⟩, _⟩ := hS.at_ e.run hc
    obtain ⟨a3, k3, rfl⟩ := ZAD hOt.o3
    obtain ⟨a4, k4, rfl⟩ := ZAD hOt.o4
    obtain ⟨a5, k5, rfl⟩ := ZAD hOt.o5
    exact ZCE B T bm n bx _ e _ D _ _ _ _ _ _ _ _ _ _ _ _ _ Y hY.1 hY.2.1 rfl hY.2.2 hAt (hW e he)
  ·rintro x X' ⟨v', rfl, ho, hc⟩
   exact ⟨v', rfl, ho, hc.mono (fun j (h : j = g) => by rw [h]; rfl)⟩
theorem ZGd (w : World) (lo B T bm n : Nat) (a1 a2 : Option Addr) (k1 k2 : Nat) (u : Value) (rest : List Value) (ss : List ByteArray) (fs : List Pr) (E : List Ev) (t : Int)
  (hH : His w lo B T bm n a1 a2 k1 k2 u rest ss fs E) (hW : ∀ e ∈ E, (Lit.int .i64 e.run).wf = true) (hE : E.length ≤ 1000) :
  Calls Tryz.prog 60 #[.pointer (some ⟨B, 0, none⟩), .int .i64 t] w (FgPost w lo B T bm n a1 a2 k1 k2 u rest ss fs E t) := by
 have mixed : Tryz.prog.follows .mixedOrders = true := by kernel_rfl
 unfold FgPost
 obtain ⟨au, cu, rfl⟩ := ZAD hH.own
 have hbv : Below w.heap.size w (w.alloc (.cells #[.pointer (some ⟨B, 0, none⟩)] 115)) := (bR _ _).alloc nL _
 have HX := hid (heap_alloc_new w (.cells #[.pointer (some ⟨B, 0, none⟩)] 115))
 have hNb := hH.map.lt
 have hNB := ZAA hH.blk
 go_enter Tryz.func60, Tryz.ntmps60
 go_upto_region 2 with fail
 generalize w.alloc (.cells #[.pointer (some ⟨B, 0, none⟩)] 115) = V at *
 have HH := hid (hH.stay hbv)
 have HBv := hid hbv
 clear hbv hH
 have x0 : V.cell? ⟨w.heap.size, 0, none⟩ = some (.pointer (some ⟨B, 0, none⟩)) := ce HX.out rfl
 have d2 : V.cell? ⟨B, 2, none⟩ = some (.slice au E.length cu) := ce HH.out.blk rfl
 go_wp2_with fail
 refine (ZDh au cu E V (ZAi HH.out.own) (by omega)).mono ?_
 rintro x W ⟨v, rs, rfl, hrs, hv, hq⟩
 have HW := hid (HH.out.stay hq)
 have HXw := hid ((hq.block _ (ZAA HX.out)).trans HX.out)
 have HBw := hid (HBv.out.trans (hq.mono HBv.out.size))
 have HRs := hid hrs
 have hrl := hrs.len
 obtain ⟨va, vc, rfl⟩ := hv.form
 have HV := hid hv
 clear hq hv hrs HX HH HBv x0 d2
 obtain ⟨D0, hD0, hS0⟩ := HW.out.map
 have HD0 := hid hD0
 have HS0 := hid hS0
 clear hD0 hS0
 go_upto_region 3 with fail
 go_loopw [5, 15] (fun wv iv wr => ∃ (k : Nat) (D : DataW Value), k ≤ rs.length ∧ iv = .int .i64 k ∧ wv = .int .i64 (wen ss fs E t rs k : Int) ∧ wr.ownsMap Tryz.prog 2 heldE bm n D ∧ StDl wr ss fs E (gon ss fs E t rs k) D ∧ Chg (fun j => j = bm) W wr) (fun _ iv _ => rs.length - (intOf iv).toNat)
 case atStart => exact ⟨0, D0, Nat.zero_le _, rfl, rfl, HD0.out, (show gon ss fs E t rs 0 = fun _ => false from by funext x; simp [gon]) ▸ StDl.of HS0.out, Chg.refl _ _⟩
 case round =>
  obtain ⟨k, D, hk, rfl, rfl, hD, hS, hC⟩ := hrel
  have HD := hid hD
  have HS := hid hS
  have HC := hid hC
  clear hD hS hC HD0 HS0
  have hnb := HW.out.bm_ne
  have HBr := hid ((HC.out.block B (ZAA HW.out.blk) hnb).trans HW.out.blk)
  have HXr := hid ((HC.out.block _ (ZAA HXw.out) (fun (h : w.heap.size = bm) => by omega)).trans HXw.out)
  have x0 : wr.cell? ⟨w.heap.size, 0, none⟩ = some (.pointer (some ⟨B, 0, none⟩)) := ce HXr.out rfl
  have d3 : wr.cell? ⟨B, 3, none⟩ = some (.map (some bm)) := ce HBr.out rfl
  by_cases hlt : k < rs.length
  ·obtain ⟨gr, orr, rfl, hgr, hcl⟩ := HV.out.row (by omega)
   have hgb : ¬ gr = bm := fun e9 => by
    obtain ⟨es9, c9, h9⟩ := HW.out.map.obj
    have := hcl k hlt
    rw [e9] at this
    simp [World.cell?, h9] at this
   have q0 : wr.cell? ⟨gr, orr + k, none⟩ = some (.int .i64 rs[k]) := (HC.out.cell hgr hgb).trans (hcl k hlt)
   obtain ⟨⟨u3, u4, u5, hAt, hOt⟩, _⟩ := HS.out.at_ rs[k] (gon_at HRs.out.rise hlt)
   obtain ⟨a3, k3, rfl⟩ := ZAD hOt.o3
   obtain ⟨a4, k4, rfl⟩ := ZAD hOt.o4
   obtain ⟨a5, k5, rfl⟩ := ZAD hOt.o5
   have hwf : (Lit.int .i64 rs[k]).wf = true := by
    obtain ⟨e, he, hr⟩ := (HRs.out.mem rs[k]).1 (List.getElem_mem hlt)
    rw [← hr]; exact hW e he
   have HY := hid (fun h => (⟨wen_yes hlt h, gon_yes hlt h⟩ : wen ss fs E t rs (k + 1) = wen ss fs E t rs k + 1 ∧ ∀ x, gon ss fs E t rs (k + 1) x = (decide (x = rs[k]) || gon ss fs E t rs k x)))
   have HN := hid (fun h => (⟨wen_no hlt h, gon_no hlt h⟩ : wen ss fs E t rs (k + 1) = wen ss fs E t rs k ∧ gon ss fs E t rs (k + 1) = gon ss fs E t rs k))
   have HOv := hid (show ovB ss fs E t rs[k] = (decide ((runS ss fs E rs[k]).status = 2) && decide ((runS ss fs E rs[k]).last ≤ t)) from rfl)
   have hwl := wen_le (ss := ss) (fs := fs) (E := E) (t := t) (rs := rs) k
   generalize wen ss fs E t rs k = wn at *
   generalize ovB ss fs E t rs[k] = ob at *
   generalize runS ss fs E rs[k] = S at *
   generalize rs[k] = r at *
   have hkey := keyOf_int_mk Tryz.underlying2 hwf
   obtain ⟨v9, ps, hrun, hv9⟩ := HD.out.lookup (int_keyed Tryz.underlying2) Tryz.underlying90 (z := zSt) (ZF3 _) (zd := .held zSt) (zp := []) rfl hkey
   rw [hAt] at hv9
   obtain rfl := ZEe hv9
   unfold stU at hrun
   have hbx : Below wr.heap.size wr (wr.alloc (.cells #[.int .i64 S.status, .int .i64 S.begun, .int .i64 S.last, .slice a3 S.wait.length k3, .slice a4 S.busy.length k4, .slice a5 S.vars.length k5, .int .i64 S.faults] 81)) := (bR _ _).alloc nL _
   have HSt := hid (heap_alloc_new wr (.cells #[.int .i64 S.status, .int .i64 S.begun, .int .i64 S.last, .slice a3 S.wait.length k3, .slice a4 S.busy.length k4, .slice a5 S.vars.length k5, .int .i64 S.faults] 81))
   have HDx := hid (HD.out.kept (ZAP (r := none) hbx) (by simp))
   have HSx := hid (HS.out.kt (KT.of_below hbx))
   have HCx := hid (HC.out.trans (Chg.of_below hbx))
   have HBx := hid ((hbx.block B (ZAA HBr.out)).trans HBr.out)
   have HXx := hid ((hbx.block _ (ZAA HXr.out)).trans HXr.out)
   have hgx := hbx.size
   have hnbr := HDx.out.lt
   clear hbx hv9 hAt hOt HD HS HC
   go_upto_region 6 with fail
   clear hrun x0 d3 q0
   generalize wr.alloc (.cells #[.int .i64 S.status, .int .i64 S.begun, .int .i64 S.last, .slice a3 S.wait.length k3, .slice a4 S.busy.length k4, .slice a5 S.vars.length k5, .int .i64 S.faults] 81) = X at *
   have s0 : X.cell? ⟨wr.heap.size, 0, none⟩ = some (.int .i64 S.status) := ce HSt.out rfl
   have s2 : X.cell? ⟨wr.heap.size, 2, none⟩ = some (.int .i64 S.last) := ce HSt.out rfl
   have x0 : X.cell? ⟨w.heap.size, 0, none⟩ = some (.pointer (some ⟨B, 0, none⟩)) := ce HXx.out rfl
   have d3 : X.cell? ⟨B, 3, none⟩ = some (.map (some bm)) := ce HBx.out rfl
   cases ob with
   | false =>
    obtain ⟨hw1, hg1⟩ := HN.out rfl
    have HG1 := hid hg1
    have HW1 := hid hw1
    clear hg1 hw1 HY HN
    by_cases hst : S.status = 2
    ·have b1 : (S.status == 2) = true := by simp [hst]
     have b2 : decide (S.last ≤ t) = false := by have := HOv.out; rw [hst] at this; simpa using this
     clear hst
     go_wp2
     go_roundw
     case rel => exact ⟨k + 1, D, by omega, by simp, by rw [HW1.out], HDx.out, HG1.out ▸ HSx.out, HCx.out⟩
     case measure => simp [intOf]; omega
    ·have b1 : (S.status == 2) = false := beq_eq_false_iff_ne.2 hst
     clear hst
     go_wp2
     go_roundw
     case rel => exact ⟨k + 1, D, by omega, by simp, by rw [HW1.out], HDx.out, HG1.out ▸ HSx.out, HCx.out⟩
     case measure => simp [intOf]; omega
   | true =>
    obtain ⟨hw1, hg1⟩ := HY.out rfl
    have HG1 := hid hg1
    have HW1 := hid hw1
    have h9 := HOv.out.symm
    rw [Bool.and_eq_true] at h9
    have b1 : (S.status == 2) = true := by simpa using h9.1
    have b2 : decide (S.last ≤ t) = true := h9.2
    have hw9 : IntKind.i64.wrap ((wn : Int) + 1) = (wn : Int) + 1 := by rw [IntKind.wrap_i64]; omega
    clear hg1 hw1 HY HN h9
    go_wp2_with (first | (at_delete; refine wpList_delete_own _ rfl _ _ 90 2 rfl 81 (int_keyed Tryz.underlying2) Tryz.underlying90 _ bm n D rfl HDx.out _ _ rfl hkey ?_) | fail)
    intro X1 hown1 hturn1
    have hg9 := hturn1.grown
    have HC1 := hid (HCx.out.trans (Chg.of_grown hg9 rfl))
    have HS1 := hid (StDl.del (gone' := gon ss fs E t rs (k + 1)) (HSx.out.kt (KT.of_chg (p := fun j => j = bm) (Chg.of_grown hg9 rfl) (fun g c tt f hp he => by
     obtain ⟨es9, c9, h9, _⟩ := HDx.out
     rw [hp, h9] at he; cases he))) r HG1.out)
    have HD1 := hid hown1
    clear hown1 hturn1 hg9 x0 d3 s0 s2
    go_wp2
    go_roundw
    case rel => exact ⟨k + 1, _, by omega, by simp, by rw [HW1.out]; simp, HD1.out, HS1.out, HC1.out⟩
    case measure => simp [intOf]; omega
  ·obtain rfl : k = rs.length := by omega
   have HOu := hid (ZAJ HW.out.own HC.out (fun g hg (h : g = bm) => (HW.out.u_ne g hg).2 h))
   have HTy := hid HW.out.ty
   have cD := hid (ZEC lo B T bm n w.heap.size a1 a2 au k1 k2 cu rest ss fs E t rs D wr HOu.out HTy.out HBr.out HXr.out HD.out HS.out HRs.out hW hE)
   have HBk := HBr
   clear x0 d3
   go_upto_region 10 with fail
   refine ZAR mixed (FgR (fun y42 y43 y44 y45 y46 y47 y48 y49 y50 => { tmps := #[.pointer (some ⟨B, 0, none⟩), .int .i64 t, .pointer (some ⟨w.heap.size, 0, none⟩), undef, .int .i64 0, .int .i64 (wen ss fs E t rs rs.length : Int), undef, u7, u8, .pointer (some ⟨B, 0, none⟩), .pointer (some ⟨B, 0, none⟩), .pointer (some ⟨B, 2, none⟩), .slice au E.length cu, .slice va rs.length vc, .int .i64 (rs.length : Int), .int .i64 (rs.length : Int), .bool false, u17, u18, u19, u20, u21, u22, u23, u24, u25, u26, u27, u28, u29, u30, u31, u32, u33, u34, u35, u36, u37, u38, u39, u40, u41, y42, y43, y44, y45, y46, y47, y48, y49, y50, undef], defers := [] }) B bm w.heap.size lo T a1 a2 au cu k1 k2 rest ss fs E (sty ss fs E t) wr) ?ac ?start ?step ?fin
   case ac => exact ZCG (by kernel_rfl)
   case start =>
    refine ⟨undef, undef, undef, undef, undef, undef, undef, undef, undef, rfl, ?_⟩
    constructor
    ·exact fun _ => (Below.refl _ wr).drew
    ·exact fun _ => Chg.of_below (Below.refl _ wr).drew
    all_goals (intro h; simp at h)
   case step =>
    rintro i listed a X ⟨x42, x43, x44, x45, x46, x47, x48, x49, x50, rfl, hS⟩ hun ⟨op9, ho, hdep⟩
    have hlt : i < 10 := (Array.getElem?_eq_some_iff.1 ho).1
    have hL : listed.getD 9 false = false := by
     by_cases hi : i = 9
     ·subst hi; exact ZAW hun
     ·exact Bool.eq_false_iff.2 (fun h => ZAB ((hS.p9 h).1 i (by omega)) hun)
    have hc := hS.hb hL
    have hRB0 := (hc.block _ (ZAA HBk.out) (fun e9 => ZAL HOu.out HBk.out HTy.out.2.2.symm _ e9 rfl)).trans HBk.out
    have c2 : X.cell? ⟨B, 2, none⟩ = some (.slice au E.length cu) := ce hRB0 rfl
    have hXz := (hc.block _ (ZAA HXr.out) (fun e9 => ZAL HOu.out HXr.out (by decide) _ e9 rfl)).trans HXr.out
    have x0 : X.cell? ⟨w.heap.size, 0, none⟩ = some (.pointer (some ⟨B, 0, none⟩)) := ce hXz rfl
    match i, hlt with
    | 0, _ =>
     obtain rfl := Option.some.inj ho
     refine ZAH rfl rfl ?_
     go_simp
     refine ⟨.pointer (some ⟨B, 0, none⟩), x43, x44, x45, x46, x47, x48, x49, x50, rfl, ?_⟩
     exact ⟨fun h => hS.hb0 (gF h), fun h => hS.hb (gF h), fun _ => rfl, fun h => hS.p1 (gO h), fun h => hS.p2 (gO h), fun h => hS.p3 (gO h), fun h => hS.p4 (gO h), fun h => hS.p5 (gO h), fun h h' => hS.p6 (gO h) (gF h'), fun h => hS.p7 (gO h), fun h => ⟨(hS.p8 (gO h)).1, getD_set_true (hS.p8 (gO h)).2⟩, fun h => ZAB ((hS.p9 (gO h)).1 0 (by decide)) hun⟩
    | 1, _ =>
     obtain rfl := Option.some.inj ho
     refine ZAH rfl rfl ?_
     go_simp
     refine ⟨x42, .pointer (some ⟨B, 0, none⟩), x44, x45, x46, x47, x48, x49, x50, rfl, ?_⟩
     exact ⟨fun h => hS.hb0 (gF h), fun h => hS.hb (gF h), fun h => hS.p0 (gO h), fun _ => rfl, fun h => hS.p2 (gO h), fun h => hS.p3 (gO h), fun h => hS.p4 (gO h), fun h => hS.p5 (gO h), fun h h' => hS.p6 (gO h) (gF h'), fun h => hS.p7 (gO h), fun h => ⟨(hS.p8 (gO h)).1, getD_set_true (hS.p8 (gO h)).2⟩, fun h => ZAB ((hS.p9 (gO h)).1 1 (by decide)) hun⟩
    | 2, _ =>
     obtain rfl := Option.some.inj ho
     have q1 := hdep ⟨1, .data⟩ (by simp) rfl
     obtain rfl := hS.p1 q1
     refine ZAH rfl rfl ?_
     go_simp
     refine ⟨x42, .pointer (some ⟨B, 0, none⟩), .pointer (some ⟨B, 0, none⟩), x45, x46, x47, x48, x49, x50, rfl, ?_⟩
     exact ⟨fun h => hS.hb0 (gF h), fun h => hS.hb (gF h), fun h => hS.p0 (gO h), fun h => hS.p1 (gO h), fun _ => rfl, fun h => hS.p3 (gO h), fun h => hS.p4 (gO h), fun h => hS.p5 (gO h), fun h h' => hS.p6 (gO h) (gF h'), fun h => hS.p7 (gO h), fun h => ⟨(hS.p8 (gO h)).1, getD_set_true (hS.p8 (gO h)).2⟩, fun h => ZAB ((hS.p9 (gO h)).1 2 (by decide)) hun⟩
    | 3, _ =>
     obtain rfl := Option.some.inj ho
     have q2 := hdep ⟨2, .data⟩ (by simp) rfl
     obtain rfl := hS.p2 q2
     refine ZAH rfl rfl ?_
     go_simp
     refine ⟨x42, x43, .pointer (some ⟨B, 0, none⟩), .pointer (some ⟨B, 2, none⟩), x46, x47, x48, x49, x50, rfl, ?_⟩
     exact ⟨fun h => hS.hb0 (gF h), fun h => hS.hb (gF h), fun h => hS.p0 (gO h), fun h => hS.p1 (gO h), fun h => hS.p2 (gO h), fun _ => rfl, fun h => hS.p4 (gO h), fun h => hS.p5 (gO h), fun h h' => hS.p6 (gO h) (gF h'), fun h => hS.p7 (gO h), fun h => ⟨(hS.p8 (gO h)).1, getD_set_true (hS.p8 (gO h)).2⟩, fun h => ZAB ((hS.p9 (gO h)).1 3 (by decide)) hun⟩
    | 4, _ =>
     obtain rfl := Option.some.inj ho
     have q3 := hdep ⟨3, .data⟩ (by simp) rfl
     obtain rfl := hS.p3 q3
     refine ZAH rfl rfl ?_
     go_simp
     refine ⟨x42, x43, x44, .pointer (some ⟨B, 2, none⟩), .slice au E.length cu, x47, x48, x49, x50, rfl, ?_⟩
     exact ⟨fun h => hS.hb0 (gF h), fun h => hS.hb (gF h), fun h => hS.p0 (gO h), fun h => hS.p1 (gO h), fun h => hS.p2 (gO h), fun h => hS.p3 (gO h), fun _ => rfl, fun h => hS.p5 (gO h), fun h h' => hS.p6 (gO h) (gF h'), fun h => hS.p7 (gO h), fun h => ⟨(hS.p8 (gO h)).1, getD_set_true (hS.p8 (gO h)).2⟩, fun h => ZAB ((hS.p9 (gO h)).1 4 (by decide)) hun⟩
    | 5, _ =>
     obtain rfl := Option.some.inj ho
     refine ZAH rfl rfl ?_
     go_simp
     refine ⟨x42, x43, x44, x45, x46, .func (.func 79) #[] #[.pointer (some ⟨w.heap.size, 0, none⟩)], x48, x49, x50, rfl, ?_⟩
     exact ⟨fun h => hS.hb0 (gF h), fun h => hS.hb (gF h), fun h => hS.p0 (gO h), fun h => hS.p1 (gO h), fun h => hS.p2 (gO h), fun h => hS.p3 (gO h), fun h => hS.p4 (gO h), fun _ => rfl, fun h h' => hS.p6 (gO h) (gF h'), fun h => hS.p7 (gO h), fun h => ⟨(hS.p8 (gO h)).1, getD_set_true (hS.p8 (gO h)).2⟩, fun h => ZAB ((hS.p9 (gO h)).1 5 (by decide)) hun⟩
    | 6, _ =>
     obtain rfl := Option.some.inj ho
     have q4 := hdep ⟨4, .data⟩ (by simp) rfl
     have q5 := hdep ⟨5, .data⟩ (by simp) rfl
     obtain rfl := hS.p4 q4
     obtain rfl := hS.p5 q5
     have hB0 := hS.hb0 (ZAW hun)
     refine ZAH rfl rfl ?_
     go_simp
     refine (cD.out X hB0).mono ?_
     rintro x X' ⟨v', rfl, ho', hg'⟩
     refine ⟨x42, x43, x44, x45, .slice au E.length cu, .func (.func 79) #[] #[.pointer (some ⟨w.heap.size, 0, none⟩)], v', x49, x50, rfl, ?_⟩
     exact ⟨fun h => absurd h (by rw [ZAX hun]; decide), fun _ => (Chg.of_below hB0).trans hg', fun h => hS.p0 (gO h), fun h => hS.p1 (gO h), fun h => hS.p2 (gO h), fun h => hS.p3 (gO h), fun h => hS.p4 (gO h), fun h => hS.p5 (gO h), fun _ _ => ho', fun h => hS.p7 (gO h), fun h => ⟨(hS.p8 (gO h)).1, getD_set_true (hS.p8 (gO h)).2⟩, fun h => ZAB ((hS.p9 (gO h)).1 6 (by decide)) hun⟩
    | 7, _ =>
     obtain rfl := Option.some.inj ho
     have q0 := hdep ⟨0, .data⟩ (by simp) rfl
     obtain rfl := hS.p0 q0
     refine ZAH rfl rfl ?_
     go_simp
     refine ⟨.pointer (some ⟨B, 0, none⟩), x43, x44, x45, x46, x47, x48, .pointer (some ⟨B, 0, none⟩), x50, rfl, ?_⟩
     exact ⟨fun h => hS.hb0 (gF h), fun h => hS.hb (gF h), fun h => hS.p0 (gO h), fun h => hS.p1 (gO h), fun h => hS.p2 (gO h), fun h => hS.p3 (gO h), fun h => hS.p4 (gO h), fun h => hS.p5 (gO h), fun h h' => hS.p6 (gO h) (gF h'), fun _ => rfl, fun h => ZAB (hS.p8 (gO h)).2 hun, fun h => ZAB ((hS.p9 (gO h)).1 7 (by decide)) hun⟩
    | 8, _ =>
     obtain rfl := Option.some.inj ho
     have q7 := hdep ⟨7, .data⟩ (by simp) rfl
     obtain rfl := hS.p7 q7
     refine ZAH rfl rfl ?_
     go_simp
     refine ⟨x42, x43, x44, x45, x46, x47, x48, .pointer (some ⟨B, 0, none⟩), .pointer (some ⟨B, 2, none⟩), rfl, ?_⟩
     exact ⟨fun h => hS.hb0 (gF h), fun h => hS.hb (gF h), fun h => hS.p0 (gO h), fun h => hS.p1 (gO h), fun h => hS.p2 (gO h), fun h => hS.p3 (gO h), fun h => hS.p4 (gO h), fun h => hS.p5 (gO h), fun h h' => hS.p6 (gO h) (gF h'), fun h => hS.p7 (gO h), fun _ => ⟨rfl, getD_set_true q7⟩, fun h => ZAB ((hS.p9 (gO h)).1 8 (by decide)) hun⟩
    | 9, _ =>
     obtain rfl := Option.some.inj ho
     have q8 := hdep ⟨8, .data⟩ (by simp) rfl
     have q6 := hdep ⟨6, .data⟩ (by simp) rfl
     obtain ⟨rfl, z7⟩ := hS.p8 q8
     have hO := hS.p6 q6 hL
     obtain ⟨b9, c9, rfl⟩ := ZAD hO
     have hRB := (hc.block _ (ZAA HBk.out) (fun e9 => ZAL HOu.out HBk.out HTy.out.2.2.symm _ e9 rfl)).trans HBk.out
     have r0 : X.cell? ⟨B, 2, none⟩ = some (.slice au E.length cu) := ce hRB rfl
     have rf := Lib.frozen_of_heap hRB
     refine ZAH rfl rfl ?_
     go_simp
     refine ⟨x42, x43, x44, x45, x46, x47, .slice b9 (sty ss fs E t).length c9, x49, .pointer (some ⟨B, 2, none⟩), rfl, ?_⟩
     constructor
     ·exact fun h => absurd (gF h) (by rw [hdep ⟨6, .phase⟩ (by simp) rfl]; decide)
     ·exact fun h => absurd h (by rw [ZAX hun]; decide)
     ·exact fun h => hS.p0 (gO h)
     ·exact fun h => hS.p1 (gO h)
     ·exact fun h => hS.p2 (gO h)
     ·exact fun h => hS.p3 (gO h)
     ·exact fun h => hS.p4 (gO h)
     ·exact fun h => hS.p5 (gO h)
     ·exact fun _ h' => uS h' hun
     ·exact fun h => hS.p7 (gO h)
     ·exact fun h => ⟨(hS.p8 (gO h)).1, getD_set_true (hS.p8 (gO h)).2⟩
     ·exact fun _ => ⟨fun j hj => by
       rw [getD_set_ne false (by omega)]
       match j, hj with
       | 0, _ => exact hdep ⟨0, .phase⟩ (by simp) rfl
       | 1, _ => exact hdep ⟨1, .phase⟩ (by simp) rfl
       | 2, _ => exact hdep ⟨2, .phase⟩ (by simp) rfl
       | 3, _ => exact hdep ⟨3, .phase⟩ (by simp) rfl
       | 4, _ => exact hdep ⟨4, .phase⟩ (by simp) rfl
       | 5, _ => exact hdep ⟨5, .phase⟩ (by simp) rfl
       | 6, _ => exact hdep ⟨6, .phase⟩ (by simp) rfl
       | 7, _ => exact z7
       | 8, _ => exact hdep ⟨8, .data⟩ (by simp) rfl
       , ⟨b9, c9, ZAG (L := _ :: _ :: _ :: _ :: _) (i := 2) hRB _, ZAJ hO (Chg.of_grown (p := fun j => j = B) (ZAF _ B 2 _) rfl) (ZAL hO hRB HTy.out.2.2.symm), (hc.mono (fun _ h => .inl h)).trans (Chg.of_grown (ZAF _ B 2 _) (.inr rfl))⟩⟩
   case fin =>
    rintro listed a X ⟨x42, x43, x44, x45, x46, x47, x48, x49, x50, rfl, hS⟩ hall
    obtain ⟨_, b9, c9, hT9, hO9, hC9⟩ := hS.p9 (hall 9 (by decide))
    clear hS hall cD
    have HT9 := hid hT9
    have HO9 := hid hO9
    have HC9 := hid hC9
    clear hT9 hO9 hC9
    go_wp2
    go_ret
    have KT2 : KT wr X := KT.of_chg HC9.out (fun g c tt f hp he ht => by
     rcases hp with hp | rfl
     ·obtain ⟨c', f', h1⟩ := ZH7 HOu.out g hp
      rw [he] at h1; cases h1; rcases ht with ht | ht <;> exact absurd ht (by decide)
     ·rw [HBr.out] at he; cases he; exact ht.elim HTy.out.1 HTy.out.2.1)
    have hbmB : ¬ ((Value.slice au E.length cu).ownBlock = some bm ∨ bm = B) := fun h => h.elim (fun h => (HW.out.u_ne _ h).2 rfl) (fun h => HW.out.bm_ne h.symm)
    refine ⟨rs, .slice b9 (sty ss fs E t).length c9, HRs.out, rfl, ⟨HT9.out, HO9.out, ?_, HW.out.lB, HW.out.lm, HW.out.ty⟩, ?_⟩
    ·exact StMap.chg ⟨D, HD.out, HS.out.fin HRs.out⟩ HC9.out hbmB KT2
    ·exact ((Chg.of_below HBw.out).trans (HC.out.mono (fun j h => .inr (.inl h)))).trans (HC9.out.mono (fun j h => h.elim (fun h => .inr (.inr h)) (fun h => .inl h)))
end Go.Proofs.YtookchpdbilbcaaGreatDoor
