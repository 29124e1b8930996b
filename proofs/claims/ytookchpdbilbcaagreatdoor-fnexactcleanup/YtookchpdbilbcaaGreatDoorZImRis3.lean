/-
 Texts put together: ImRis, ItrP, ItrC.
-/
import Derived.Test.YtookchpdbilbcaaGreatDoorZRunM3
import Derived.Test.YtookchpdbilbcaaGreatDoorZImTold2
import Derived.Test.YtookchpdbilbcaaGreatDoorZEvX11
import Derived.Test.YtookchpdbilbcaaGreatDoorZEvI8
set_option maxRecDepth 100000
set_option maxHeartbeats 4000000
/-
 What impl.risingSeqs answers: a contract over the seat's program.
-/
namespace Go.Proofs.YtookchpdbilbcaaGreatDoor
open Go.RowKit Go.Sort
theorem ZDO (a : Option Addr) (c : Nat) (es : List Ev) (w : World) (hE : EvSl w (.slice a es.length c) es) (hn : es.length ≤ maxLen) :
  Calls Tryz.prog 85 #[.slice a es.length c] w fun e w' => RetB e (RiseP es) ∧ Below w.heap.size w w' := by
 unfold maxLen at hn
 have HE := hid hE
 clear hE
 go_enter Tryz.func85, Tryz.ntmps85
 go_wp2
 go_loopw [3] (fun i wr => ∃ k : Nat, (k ≤ es.length ∨ k = 1) ∧ 1 ≤ k ∧ i = .int .i64 k ∧ (∀ j, (h : j + 1 < es.length) → j + 1 < k → es[j].seq < es[j + 1].seq) ∧ Below w.heap.size w wr) (fun i _ => es.length - (intOf i).toNat)
 case atStart => exact ⟨1, .inr rfl, Nat.le_refl _, rfl, fun j _ hj => absurd hj (by omega), Below.refl _ _⟩
 case round =>
  obtain ⟨k, hk, hk1, rfl, hall, hbel⟩ := hrel
  have HA := hid hall
  have HB := hid hbel
  clear hall hbel
  by_cases hlt : k < es.length
  ·obtain ⟨g, o, rfl, hQ⟩ := HE.out.row (by omega)
   obtain ⟨m, rfl⟩ : ∃ m, k = m + 1 := ⟨k - 1, by omega⟩
   have hQr := hQ.stay HB.out nL
   have c0 := (hQr.2 (m + 1) hlt).c0
   have c1 := (hQr.2 m (by omega)).c0
   have hz := HB.out.size
   have d0 : wr.drew.cell? ⟨g, o + (m + 1) * 6, none⟩ = some (.int .i64 es[m + 1].seq) := c0
   have d1 : wr.drew.cell? ⟨g, o + m * 6, none⟩ = some (.int .i64 es[m].seq) := c1
   have e1 : (((m + 1 : Nat) : Int) - 1) = (m : Int) := by omega
   have HS := hid (show ∀ h : es[m].seq < es[m + 1].seq, ∀ j, (hj : j + 1 < es.length) → j + 1 < m + 1 + 1 → es[j].seq < es[j + 1].seq from fun h j hj hjk => by
    by_cases e : j = m
    ·subst e; exact h
    ·exact HA.out j hj (by omega))
   have HN := hid (show ∀ h : es[m + 1].seq ≤ es[m].seq, ¬ RiseP es from fun h hr => by have := hr m hlt; omega)
   clear hQ hQr HE c0 c1
   generalize es[m + 1].seq = s1 at *
   generalize es[m].seq = s0 at *
   by_cases hle : s1 ≤ s0
   ·go_wp2_with fail
    go_region
    go_wp2
    go_ret
    exact ⟨ZAT (HN.out hle), HB.out.drew⟩
   ·go_wp2_with fail
    go_region
    go_wp2
    go_roundw
    case rel => exact ⟨m + 1 + 1, .inl (by omega), by omega, by go_num, HS.out (by omega), HB.out.drew⟩
    case measure => simp [intOf]; omega
  ·go_wp2
   go_ret
   exact ⟨ZBG (fun j hj => HA.out j hj (by omega)), HB.out⟩
end Go.Proofs.YtookchpdbilbcaaGreatDoor
/-
 impl.picked: the iterator hands out those of another's events that a predicate takes: a contract over the seat's program.
-/
namespace Go.Proofs.YtookchpdbilbcaaGreatDoor
open Go.RowKit Go.Shelf
attribute [local go_sem] Oper.semAt_some
theorem ZHt (T : List TypeId) (hT : 78 ∉ T) (Be Bh ge gh n₀ : Nat) (lbe lbh : Array Value) (p : Ev → Bool) (es : List Ev) (w : World) (hn₀ : n₀ ≤ w.heap.size)
  (hBe : w.cell? ⟨Be, 0, none⟩ = some (.func (.func ge) #[] lbe)) (hBh : w.heap[Bh]? = some (.cells #[.func (.func gh) #[] lbh] 78 (0, 0))) (lBe : Be < w.heap.size)
  (eE : ∀ args w, (callFunc ge args).run Tryz.prog w = .ok (.enter ge args) w) (eH : ∀ args w, (callFunc gh args).run Tryz.prog w = .ok (.enter gh args) w)
  (hS : Sq T Tryz.prog ge lbe evA n₀ es w) (hp : ∀ (e : Ev) (X : World), Below n₀ w X → Calls Tryz.prog gh (#[evO e] ++ lbh) X fun x X' => x = .returned (.bool (p e)) ∧ Below X.heap.size X X') :
  Sq T Tryz.prog 122 #[.pointer (some ⟨Be, 0, none⟩), .pointer (some ⟨Bh, 0, none⟩)] evA n₀ (es.filter p) w := by
 intro l J W hW hJ hY hJ0
 have hzW := hW.size
 have c1 : (W.alloc (.cells #[.func (.yield l) #[] #[]] 78)).cell? ⟨Be, 0, none⟩ = some (.func (.func ge) #[] lbe) := ((hW.alloc hW.size _).cell (p := ⟨Be, 0, none⟩) lBe).trans hBe
 have HBh := hid (((hW.alloc hW.size (.cells #[.func (.yield l) #[] #[]] 78)).block Bh (ZAA hBh)).trans hBh)
 have HS := hid hS
 have HP := hid hp
 have HY := hid hY
 have HJ := hid hJ
 have HW := hid hW
 clear hBe hBh hS hp hY hJ hW
 refine (callsIn_wide (n := 9)).1 ?_
 refine callsIn_of_wp_marks Tryz.func122 rfl trivial ?_ rfl
 simp only [Tryz.ntmps122, List.size_toArray, List.length_cons, List.length_nil, Nat.reduceAdd, Nat.reduceSub, Array.replicate_succ, Array.replicate_zero, List.push_toArray, List.append_toArray, List.nil_append, List.cons_append]
 gi_wp2
 have HB1 := hid (HW.out.alloc HW.out.size (.cells #[.func (.yield l) #[] #[]] 78))
 have hc3 := heap_alloc_new W (.cells #[.func (.yield l) #[] #[]] 78)
 have hJ1 := HJ.out.alloc (.cells #[.func (.yield l) #[] #[]] 78) hJ0
 have hz1 : (W.alloc (.cells #[.func (.yield l) #[] #[]] 78)).heap.size = W.heap.size + 1 := by simp
 generalize W.alloc (.cells #[.func (.yield l) #[] #[]] 78) = W1 at *
 clear c1
 refine ZD3 (gf := ge) (lb := lbe) rfl eE HS.out HB1.out (by omega) (fun _ => rfl)
  (fun k V => J ((es.take k).filter p).length V ∧ V.heap[W.heap.size]? = some (.cells #[.func (.yield l) #[] #[]] 78 (0, 0)) ∧ V.heap[Bh]? = some (.cells #[.func (.func gh) #[] lbh] 78 (0, 0)) ∧ Below n₀ w V)
  ?own ⟨by simpa using hJ1, hc3, HBh.out, HB1.out.mono hn₀⟩
  (fun x a' V => ∃ Bx, V.heap[Bx]? = some (.cells #[.int .i64 x.seq, .int .i64 x.time, .int .i64 x.run, .int .i64 x.kind, .string x.step, .string x.val] 57 (0, 0)) ∧ a' = { tmps := #[.func (.yield l) #[] #[], .pointer (some ⟨Be, 0, none⟩), .pointer (some ⟨Bh, 0, none⟩), .pointer (some ⟨W.heap.size, 0, none⟩), .pointer (some ⟨Bx, 0, none⟩), .func (.func ge) #[] lbe, evO x, undef, undef, undef, undef, undef, undef, undef, undef, undef], defers := [] })
  ?ownx ?assign ?body ?done
 case own =>
  refine OwnFrom.and (fun s A B row hs hg hr => HJ.out _ A B row hs hg (fun r e => ⟨by have := (hr r e).1; omega, (hr r e).2⟩)) ?_
  exact OwnFrom.and (ZBU _ _ _ _ _) (OwnFrom.and (ZBU _ _ _ _ _) (ZC7 hn₀ (by omega)))
 case ownx =>
  rintro x a' s A B row ⟨Bx, h2, h3⟩ hg hr
  exact ⟨Bx, ZBU _ _ _ _ _ 0 A B row h2 hg hr, h3⟩
 case assign =>
  rintro l' k x V K ⟨hj, hc, hh, hb⟩ hx hK
  have HK := hid hK
  clear hK
  gi_wp2
  exact HK.out _ _ (KeepsT.alloc _ _ _) ((Below.refl _ V).alloc (by have := hb.size; omega) _) ⟨HJ.out.alloc _ hj, (Below.heap_alloc V _ _ (ZAA hc)).trans hc, (Below.heap_alloc V _ _ (ZAA hh)).trans hh, hb.alloc (by have := hb.size; omega) _⟩ ⟨V.heap.size, heap_alloc_new _ _, rfl⟩
 case body =>
  rintro l' k x a' V hl ⟨hj, hc, hh, hb⟩ ⟨Bx, h2, rfl⟩ hx
  obtain ⟨hlt, hxe⟩ := List.getElem?_eq_some_iff.1 hx
  have HF := hid (filt_at p es k hlt)
  have HY1 := hid (ZIm p es k hlt)
  have HN1 := hid (filt_no p es k hlt)
  rw [hxe] at HF HY1 HN1
  have cH := hid (CallsIn.inRound l' (n := 8) (callsIn_wide.2 (HP.out x V hb)))
  have HJv := hid hj
  have HC := hid hc
  have HH := hid hh
  have HBv := hid hb
  have H2 := hid h2
  have d0 : V.cell? ⟨Bh, 0, none⟩ = some (.func (.func gh) #[] lbh) := ce hh rfl
  have e0 : V.cell? ⟨Bx, 0, none⟩ = some (.int .i64 x.seq) := ce h2 rfl
  have e1 : V.cell? ⟨Bx, 1, none⟩ = some (.int .i64 x.time) := ce h2 rfl
  have e2 : V.cell? ⟨Bx, 2, none⟩ = some (.int .i64 x.run) := ce h2 rfl
  have e3 : V.cell? ⟨Bx, 3, none⟩ = some (.int .i64 x.kind) := ce h2 rfl
  have e4 : V.cell? ⟨Bx, 4, none⟩ = some (.string x.step) := ce h2 rfl
  have e5 : V.cell? ⟨Bx, 5, none⟩ = some (.string x.val) := ce h2 rfl
  clear hj hc hh hb h2 hx hxe
  gi_wp2_with fail
  refine ⟨trivial, cH.out.mono ?_⟩
  rintro e V1 ⟨rfl, hb1⟩
  have HB1v := hid hb1
  have hC1 := (hb1.block _ (ZAA HC.out)).trans HC.out
  have hH1 := (hb1.block _ (ZAA HH.out)).trans HH.out
  have hX1 := (hb1.block _ (ZAA H2.out)).trans H2.out
  have hj1 : J ((es.take k).filter p).length V1 := HJ.out _ V V1 none HJv.out (ZAP hb1) (fun r e => by cases e)
  have HHC := hid hC1
  have HHH := hid hH1
  have HJ1 := hid hj1
  have hzv := HBv.out.size
  have hzv1 := hb1.size
  have f0 : V1.cell? ⟨Bx, 0, none⟩ = some (.int .i64 x.seq) := ce hX1 rfl
  have f1 : V1.cell? ⟨Bx, 1, none⟩ = some (.int .i64 x.time) := ce hX1 rfl
  have f2 : V1.cell? ⟨Bx, 2, none⟩ = some (.int .i64 x.run) := ce hX1 rfl
  have f3 : V1.cell? ⟨Bx, 3, none⟩ = some (.int .i64 x.kind) := ce hX1 rfl
  have f4 : V1.cell? ⟨Bx, 4, none⟩ = some (.string x.step) := ce hX1 rfl
  have f5 : V1.cell? ⟨Bx, 5, none⟩ = some (.string x.val) := ce hX1 rfl
  have g0 : V1.cell? ⟨W.heap.size, 0, none⟩ = some (.func (.yield l) #[] #[]) := ce hC1 rfl
  clear hb1 hC1 hH1 hX1 hj1 d0 e0 e1 e2 e3 e4 e5 cH
  cases hpx : p x with
  | false =>
   have HE := hid (HN1.out hpx)
   clear HY1 HN1 HF hpx
   gi_wp2_with fail
   refine ⟨fun _ h => (by cases h), ?_⟩
   gi_wp2_with fail
   refine ⟨KeepsT.below HB1v.out, HB1v.out.mono (by omega), ?_, HHC.out, HHH.out, HBv.out.trans (HB1v.out.mono (by omega))⟩
   rw [HE.out]
   exact HJ1.out
  | true =>
   have HE := hid (HY1.out hpx)
   obtain ⟨fn, tmps, assign, body, hy, hR⟩ := HY.out _ x V1 HJ1.out (HF.out hpx)
   dsimp only [evA] at hy
   clear HY1 HN1 HF hpx
   gi_wp2_with fail
   refine (ZJH l' hR).mono ?_
   rintro e V2 ⟨rfl, hJ2, hb2, hk2⟩
   have HJ2 := hid hJ2
   have HB2 := hid hb2
   have HK2 := hid hk2
   clear hJ2 hb2 hk2 hy hR
   gi_wp2_with fail
   refine ⟨(KeepsT.below HB1v.out).trans HK2.out, (HB1v.out.mono (by omega)).trans HB2.out, ?_, HK2.out.same _ _ HHC.out hT, HK2.out.same _ _ HHH.out hT, (HBv.out.trans (HB1v.out.mono (by omega))).trans HB2.out⟩
   rw [HE.out]
   exact HJ2.out
 case done =>
  rintro D V hD ⟨hj, _, _, hb⟩ hK
  gi_wp2
  refine ⟨by simp, .inl ⟨_, _, rfl, run_takeDeferred hK, ?_⟩⟩
  refine ⟨_, results_none rfl _ _ _, ⟨_, rfl⟩, ?_⟩
  rw [List.take_length] at hj
  exact HJ.out.putObj _ hj (by omega) hK rfl
end Go.Proofs.YtookchpdbilbcaaGreatDoor
/-
 slices.Collect over events: what an iterator hands out, in a new row: a contract over the seat's program.
-/
namespace Go.Proofs.YtookchpdbilbcaaGreatDoor
open Go.RowKit Go.Shelf
attribute [local go_sem] Oper.semAt_some
abbrev tyE : List TypeId := [34, 57]
theorem ZEM (g n₀ : Nat) (lb : Array Value) (xs : List Ev) (w : World) (eg : ∀ args w, (callFunc g args).run Tryz.prog w = .ok (.enter g args) w) (hS : Sq tyE Tryz.prog g lb evA n₀ xs w) (hn₀ : n₀ ≤ w.heap.size) (hn : xs.length ≤ 1048576) :
  Calls Tryz.prog 105 #[.slice none 0 0, .func (.func g) #[] lb] w fun e w' => ∃ v, e = .returned v ∧ w'.ownsRow w.heap.size 57 6 v xs.length (xs.flatMap Ev.cells) ∧ Below w.heap.size w w' := by
 have HS := hid hS
 clear hS
 obtain ⟨i0, hi, hz0, hz1, hz2⟩ := info_parts Tryz.infoEv
 refine (callsIn_wide (n := 9)).1 ?_
 refine callsIn_of_wp_marks Tryz.func105 rfl trivial ?_ rfl
 simp only [Tryz.ntmps105, List.size_toArray, List.length_cons, List.length_nil, Nat.reduceAdd, Nat.reduceSub, Array.replicate_succ, Array.replicate_zero, List.push_toArray, List.append_toArray, List.nil_append, List.cons_append]
 gi_wp2
 have HB1 := hid ((Below.refl w.heap.size w).alloc nL (.cells #[.slice none 0 0] 34))
 have hc := heap_alloc_new w (.cells #[.slice none 0 0] 34)
 have hz : (w.alloc (.cells #[.slice none 0 0] 34)).heap.size = w.heap.size + 1 := by simp
 generalize w.alloc (.cells #[.slice none 0 0] 34) = W1 at *
 refine ZD3 (gf := g) (lb := lb) rfl eg HS.out HB1.out (by omega) (fun _ => rfl)
  (fun k V => ∃ v, V.heap[w.heap.size]? = some (.cells #[v] 34 (0, 0)) ∧ V.ownsRow w.heap.size 57 6 v k ((xs.take k).flatMap Ev.cells) ∧ Below w.heap.size w V)
  ?own ⟨_, hc, World.ownsRow_nil _ _ _ _, HB1.out⟩
  (fun x a' V => ∃ Bx, V.heap[Bx]? = some (.cells #[.int .i64 x.seq, .int .i64 x.time, .int .i64 x.run, .int .i64 x.kind, .string x.step, .string x.val] 57 (0, 0)) ∧ a' = { tmps := #[.slice none 0 0, .func (.func g) #[] lb, .pointer (some ⟨w.heap.size, 0, none⟩), undef, .slice none 0 0, .pointer (some ⟨Bx, 0, none⟩), .func (.func g) #[] lb, evO x, undef, undef, undef, undef, undef], defers := [] })
  ?ownx ?assign ?body ?done
 case own =>
  rintro s A B row ⟨v, h1, h2, h3⟩ hg hr
  refine ⟨v, ZBU _ _ _ _ _ 0 A B row h1 hg hr, h2.kept hg ?_, ZC7 nL (by omega) 0 A B row h3 hg hr⟩
  rcases h2.2 with ⟨rfl, _⟩ | ⟨b, cap, cur, rfl, _, hgb, _⟩
  ·exact .inl rfl
  ·refine .inr fun e => ?_
   obtain ⟨o, ho, hc⟩ := (hr b e.symm).2
   rw [hgb] at ho
   cases ho
   cases hc
 case ownx =>
  rintro x a' s A B row ⟨Bx, h2, h3⟩ hg hr
  exact ⟨Bx, ZBU _ _ _ _ _ 0 A B row h2 hg hr, h3⟩
 case assign =>
  rintro l' k x V K ⟨v, h1, h2, h3⟩ hx hK
  have HK := hid hK
  clear hK
  gi_wp2
  exact HK.out _ _ (KeepsT.alloc _ _ _) ((Below.refl _ V).alloc (by have := h3.size; omega) _) ⟨v, (Below.heap_alloc V _ _ (ZAA h1)).trans h1, h2.alloc _, h3.alloc h3.size _⟩ ⟨V.heap.size, heap_alloc_new _ _, rfl⟩
 case body =>
  rintro l' k x a' V hl ⟨v, h1, hr, hb⟩ ⟨Bx, h2, rfl⟩ hx
  obtain ⟨hlt, hxe⟩ := List.getElem?_eq_some_iff.1 hx
  have HF := hid (ZCu hlt)
  rw [hxe] at HF
  obtain ⟨va, vc, rfl⟩ := ZAD hr
  have HR := hid (hr.alloc (.cells #[.int .i64 x.seq, .int .i64 x.time, .int .i64 x.run, .int .i64 x.kind, .string x.step, .string x.val] 57))
  have HR0 := hid hr
  have H1 := hid h1
  have HBv := hid hb
  have hzv := hb.size
  have d0 : V.cell? ⟨w.heap.size, 0, none⟩ = some (.slice va k vc) := ce h1 rfl
  have e0 : V.cell? ⟨Bx, 0, none⟩ = some (.int .i64 x.seq) := ce h2 rfl
  have e1 : V.cell? ⟨Bx, 1, none⟩ = some (.int .i64 x.time) := ce h2 rfl
  have e2 : V.cell? ⟨Bx, 2, none⟩ = some (.int .i64 x.run) := ce h2 rfl
  have e3 : V.cell? ⟨Bx, 3, none⟩ = some (.int .i64 x.kind) := ce h2 rfl
  have e4 : V.cell? ⟨Bx, 4, none⟩ = some (.string x.step) := ce h2 rfl
  have e5 : V.cell? ⟨Bx, 5, none⟩ = some (.string x.val) := ce h2 rfl
  clear hr h1 hb h2 hx hxe
  gi_wp2_with (gi_at_builtin; refine wpListIn_append_own _ rfl _ _ 34 rfl w.heap.size 57 i0 _ 6 64 Tryz.underlying34 hi hz0 hz1 hz2 rfl (by decide) _ _ _ rfl HR.out ⟨V.heap.size, 0, none⟩ 1 1 x.cells rfl rfl ?c1 (ZBP x) ?c2 ?c3 ?c4 ?_)
  case c1 => exact ZBK V x _
  case c2 => unfold maxLen; omega
  case c3 => omega
  case c4 => simp; omega
  intro v' w1 ho hg _
  have hA := (Below.heap_alloc V (.cells #[.int .i64 x.seq, .int .i64 x.time, .int .i64 x.run, .int .i64 x.kind, .string x.step, .string x.val] 57) _ (ZAA H1.out)).trans H1.out
  have hne := ZAL HR.out hA (by decide)
  have hbox : w1.heap[w.heap.size]? = some (.cells #[.slice va k vc] 34 (0, 0)) := (hg.block _ (ZAA hA) (fun e => hne _ e.symm rfl)).trans hA
  obtain ⟨ua, uc, rfl⟩ := ZAD ho
  have hne1 := ZAL ho hbox (by decide)
  have HBX := hid hbox
  have HKT : Hid (KeepsT tyE V w1) := hid ((KeepsT.alloc _ V _).trans (KeepsT.grown hg (fun j e => by
   obtain ⟨c, t, f, h1, h2⟩ := ZGI HR.out j e
   exact ⟨c, t, f, h1, by subst h2; decide⟩)))
  have HBL : Hid (Below w.heap.size V w1) := hid (((Below.refl w.heap.size V).alloc hzv _).grown hg (by simp; omega) (fun j e => (HR.out.lt j e).1))
  have HO := hid ho
  have HNE := hid hne1
  have d1 : w1.cell? ⟨w.heap.size, 0, none⟩ = some (.slice va k vc) := ce hbox rfl
  have d2 := Lib.frozen_of_heap hbox
  clear hA hne hbox ho hg hne1 d0 e0 e1 e2 e3 e4 e5
  gi_wp2_with fail
  refine ⟨HKT.out.trans (KeepsT.grown (ZAF w1 w.heap.size 0 _) (fun j e => by cases e; exact ⟨_, _, _, HBX.out, by decide⟩)), (HBL.out.setCell (p := ⟨w.heap.size, 0, none⟩) nL _).mono hn₀, _, ZAG (L := [_]) HBX.out _, ?_, HBv.out.trans (HBL.out.setCell (p := ⟨w.heap.size, 0, none⟩) nL _)⟩
  rw [HF.out]
  exact HO.out.kept (ZAF w1 w.heap.size 0 _) (.inr (fun e => HNE.out _ e rfl))
 case done =>
  rintro D V hD ⟨v, h1, hr, hb⟩ hK
  obtain ⟨va, vc, rfl⟩ := ZAD hr
  have d0 : V.cell? ⟨w.heap.size, 0, none⟩ = some (.slice va xs.length vc) := ce h1 rfl
  gi_wp2
  refine ⟨by simp, .inl ⟨_, _, rfl, run_takeDeferred hK, ?_⟩⟩
  rw [List.take_length] at hr
  exact ⟨_, results_tmp rfl _ _ _, _, rfl, ownsRow_putObj hr _ hK rfl, hb.trans (belowK_b (w := w) nL V D _ _ (by omega) hK rfl rfl)⟩
theorem ZFs (g n₀ : Nat) (lb : Array Value) (xs : List Ev) (w : World) (eg : ∀ args w, (callFunc g args).run Tryz.prog w = .ok (.enter g args) w) (hS : Sq tyE Tryz.prog g lb evA n₀ xs w) (hn₀ : n₀ ≤ w.heap.size) (hn : xs.length ≤ 1048576) :
  Calls Tryz.prog 87 #[.func (.func g) #[] lb] w fun e w' => ∃ v, e = .returned v ∧ w'.ownsRow w.heap.size 57 6 v xs.length (xs.flatMap Ev.cells) ∧ Below w.heap.size w w' := by
 have c := ZEM g n₀ lb xs w eg hS hn₀ hn
 go_enter Tryz.func87, Tryz.ntmps87
 go_wp2_with fail
 refine c.mono ?_
 rintro e w' ⟨v, rfl, ho, hb⟩
 go_wp2
 go_ret
 exact ⟨_, rfl, ho, hb⟩
end Go.Proofs.YtookchpdbilbcaaGreatDoor
