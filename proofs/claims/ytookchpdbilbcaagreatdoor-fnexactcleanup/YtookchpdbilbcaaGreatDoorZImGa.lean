/-
 What impl.gathered answers over an iterator: a row of the same events: a contract over the seat's program. (Made by mkga.py.)
-/
import Derived.Test.YtookchpdbilbcaaGreatDoorZEvX11
import Derived.Test.YtookchpdbilbcaaGreatDoorZEvI8
import Derived.Test.YtookchpdbilbcaaGreatDoorZRowL4
set_option maxRecDepth 100000
set_option maxHeartbeats 4000000
namespace Go.Proofs.YtookchpdbilbcaaGreatDoor
open Go.RowKit Go.Shelf
attribute [local go_sem] Oper.semAt_some
abbrev tyG : List TypeId := [34, 57]
theorem ZJN {w : World} {base size n D : Nat} {e : TypeId} {v : Value} {xs : List Value} {d : Option (List Deferred)} {o : Obj} (h : RowL w base e size v n xs) (hD : w.heap[D]? = some (.deferred d)) : RowL (w.putObj D o) base e size v n xs :=
 ⟨h.1, h.2.1, fun h0 => let ⟨g, cap, L, e1, e2, e3, e4⟩ := h.2.2 h0; ⟨g, cap, L, e1, e2, (World.putObj_heap_other (fun e9 => by rw [e9, hD] at e3; cases e3)).trans e3, e4⟩⟩
structure GaS (Bx : Nat) (x : Ev) (V : World) (listed : Array Bool) (x7 x8 x9 x10 x11 x12 x13 x14 : Value) (X : World) : Prop where
 hb : Chg (fun j => j = Bx) V X
 hB : X.heap[Bx]? = some (.cells #[.int .i64 x.seq, .int .i64 x.time, .int .i64 x.run, .int .i64 x.kind, .string x.step, .string x.val] 57 (0, 0))
 p0 : listed.getD 0 false = true → x7 = .pointer (some ⟨Bx, 4, none⟩)
 p1 : listed.getD 1 false = true → x8 = .string x.step
 p2 : listed.getD 2 false = true → x9 = .string x.step
 p3 : listed.getD 3 false = true → x10 = .pointer (some ⟨Bx, 5, none⟩)
 p4 : listed.getD 4 false = true → x11 = .string x.val
 p5 : listed.getD 5 false = true → x12 = .string x.val
 p6 : listed.getD 6 false = true → x13 = .pointer (some ⟨Bx, 4, none⟩)
 p8 : listed.getD 8 false = true → x14 = .pointer (some ⟨Bx, 5, none⟩)
def GaR (mk : Value → Value → Value → Value → Value → Value → Value → Value → Act) (Bx : Nat) (x : Ev) (V : World) (listed : Array Bool) (a : Act) (X : World) : Prop := ∃ x7 x8 x9 x10 x11 x12 x13 x14 : Value, a = mk x7 x8 x9 x10 x11 x12 x13 x14 ∧ GaS Bx x V listed x7 x8 x9 x10 x11 x12 x13 x14 X
theorem ZEw (g n₀ : Nat) (lb : Array Value) (xs : List Ev) (w : World) (eg : ∀ args w, (callFunc g args).run Tryz.prog w = .ok (.enter g args) w) (hS : Sq tyG Tryz.prog g lb evA n₀ xs w) (hn₀ : n₀ ≤ w.heap.size) (hn : xs.length ≤ 1048576) (hF : ∀ x ∈ xs, x.step.size ≤ 1048576 ∧ x.val.size ≤ 1048576)
  (cF : ∀ (W : World) (v : Value) (m : Nat) (ys : List Value), W.ownsRow w.heap.size 57 6 v m ys → m ≤ 1048576 → Calls Tryz.prog 90 #[v, .int .i64 (m : Int)] W fun e w' => ∃ v', e = .returned v' ∧ RowL w' w.heap.size 57 6 v' m ys ∧ w' = W) :
  Calls Tryz.prog 71 #[.func (.func g) #[] lb] w fun e w' => ∃ v, e = .returned v ∧ RowL w' w.heap.size 57 6 v xs.length (xs.flatMap Ev.cells) ∧ Below w.heap.size w w' := by
 have mixed : Tryz.prog.follows .mixedOrders = true := by kernel_rfl
 have HS := hid hS
 have HCF := hid cF
 clear hS cF
 obtain ⟨i0, hi, hz0, hz1, hz2⟩ := info_parts Tryz.infoEv
 refine (callsIn_wide (n := 9)).1 ?_
 refine callsIn_of_wp_marks Tryz.func71 rfl trivial ?_ rfl
 simp only [Tryz.ntmps71, List.size_toArray, List.length_cons, List.length_nil, Nat.reduceAdd, Nat.reduceSub, Array.replicate_succ, Array.replicate_zero, List.push_toArray, List.append_toArray, List.nil_append, List.cons_append]
 gi_wp2
 have HB1 := hid ((Below.refl w.heap.size w).alloc nL (.cells #[.slice none 0 0] 34))
 have hc := heap_alloc_new w (.cells #[.slice none 0 0] 34)
 have hz : (w.alloc (.cells #[.slice none 0 0] 34)).heap.size = w.heap.size + 1 := by simp
 generalize w.alloc (.cells #[.slice none 0 0] 34) = W1 at *
 refine ZD3 (gf := g) (lb := lb) rfl eg HS.out HB1.out (by omega) (fun _ => rfl)
  (fun k V => ∃ v, V.heap[w.heap.size]? = some (.cells #[v] 34 (0, 0)) ∧ V.ownsRow w.heap.size 57 6 v k ((xs.take k).flatMap Ev.cells) ∧ Below w.heap.size w V)
  ?own ⟨_, hc, World.ownsRow_nil _ _ _ _, HB1.out⟩
  (fun x a' V => ∃ (Bx : Nat) (v0 : Value), V.heap[Bx]? = some (.cells #[.int .i64 x.seq, .int .i64 x.time, .int .i64 x.run, .int .i64 x.kind, .string x.step, .string x.val] 57 (0, 0)) ∧ V.heap[w.heap.size]? = some (.cells #[v0] 34 (0, 0)) ∧ v0.ownBlock ≠ some Bx ∧ w.heap.size ≤ Bx ∧ a' = { tmps := #[.func (.func g) #[] lb, undef, .slice none 0 0, .pointer (some ⟨w.heap.size, 0, none⟩), .pointer (some ⟨Bx, 0, none⟩), .func (.func g) #[] lb, evO x, undef, undef, undef, undef, undef, undef, undef, undef, undef, undef, undef, undef, undef, undef, undef, undef], defers := [] })
  ?ownx ?assign ?body ?done
 case own =>
  rintro s A B row ⟨v, h1, h2, h3⟩ hg hr
  refine ⟨v, ZBU _ _ _ _ _ 0 A B row h1 hg hr, h2.kept hg ?_, ZC7 nL (by omega) 0 A B row h3 hg hr⟩
  rcases h2.2 with ⟨rfl, _⟩ | ⟨b, cap, cur, rfl, _, hgb, _⟩
  ·exact .inl rfl
  ·refine .inr fun e => ?_
   obtain ⟨o, ho, hc⟩ := (hr b e.symm).2
   rw [hgb] at ho
   cases ho
   cases hc
 case ownx =>
  rintro x a' s A B row ⟨Bx, v0, h2, h3, h4, h5, h6⟩ hg hr
  exact ⟨Bx, v0, ZBU _ _ _ _ _ 0 A B row h2 hg hr, ZBU _ _ _ _ _ 0 A B row h3 hg hr, h4, h5, h6⟩
 case assign =>
  rintro l' k x V K ⟨v, h1, h2, h3⟩ hx hK
  have HK := hid hK
  clear hK
  gi_wp2
  exact HK.out _ _ (KeepsT.alloc _ _ _) ((Below.refl _ V).alloc (by have := h3.size; omega) _) ⟨v, (Below.heap_alloc V _ _ (ZAA h1)).trans h1, h2.alloc _, h3.alloc h3.size _⟩ ⟨V.heap.size, v, heap_alloc_new _ _, (Below.heap_alloc V _ _ (ZAA h1)).trans h1, fun e => by have := (h2.lt _ e).2; omega, h3.size, rfl⟩
 case body =>
  rintro l' k x a' V hl ⟨v, h1, hr, hb⟩ ⟨Bx, v0, h2, hv0, hx3, hx1, rfl⟩ hx
  obtain rfl : v = v0 := by rw [h1] at hv0; injection hv0 with hv0; injection hv0 with hv0 _ _; simpa using hv0
  have HX3 := hid hx3
  clear hx3 hv0
  have HFx := hid (hF x (List.mem_of_getElem? hx))
  have cC := hid (fun (s : ByteArray) (W : World) (hs : s.size ≤ 1048576) => CallsIn.inRound l' (n := 8) (callsIn_wide.2 (ZA1 s W (Nat.le_trans hs (by decide)))))
  have H2 := hid h2
  have H1 := hid h1
  have HR := hid hr
  have HBv := hid hb
  clear h1 h2 hr hb
  gi_upto_region 4 with fail
  refine ZC5 mixed (GaR (fun x7 x8 x9 x10 x11 x12 x13 x14 => { tmps := #[.func (.func g) #[] lb, undef, .slice none 0 0, .pointer (some ⟨w.heap.size, 0, none⟩), .pointer (some ⟨Bx, 0, none⟩), .func (.func g) #[] lb, evO x, x7, x8, x9, x10, x11, x12, x13, x14, undef, undef, undef, undef, undef, undef, undef, undef], defers := [] }) Bx x V) ?ac ?start ?step ?fin
  case ac => exact ZCG (by kernel_rfl)
  case start =>
   refine ⟨undef, undef, undef, undef, undef, undef, undef, undef, rfl, ?_⟩
   constructor
   ·exact Chg.of_below (Below.refl _ V).drew
   ·exact H2.out
   all_goals (intro h; simp at h)
  case step =>
   rintro i listed a X ⟨x7, x8, x9, x10, x11, x12, x13, x14, rfl, hS⟩ hun ⟨op9, ho, hdep⟩
   have hlt : i < 10 := (Array.getElem?_eq_some_iff.1 ho).1
   have f4 : X.cell? ⟨Bx, 4, none⟩ = some (.string x.step) := ce hS.hB rfl
   have f5 : X.cell? ⟨Bx, 5, none⟩ = some (.string x.val) := ce hS.hB rfl
   have ff := Lib.frozen_of_heap hS.hB
   match i, hlt with
   | 0, _ =>
    obtain rfl := Option.some.inj ho
    refine ZAo rfl rfl ?_
    go_simp
    refine ⟨.pointer (some ⟨Bx, 4, none⟩), x8, x9, x10, x11, x12, x13, x14, rfl, ?_⟩
    exact ⟨hS.hb, hS.hB, fun _ => rfl, fun h => hS.p1 (gO h), fun h => hS.p2 (gO h), fun h => hS.p3 (gO h), fun h => hS.p4 (gO h), fun h => hS.p5 (gO h), fun h => hS.p6 (gO h), fun h => hS.p8 (gO h)⟩
   | 1, _ =>
    obtain rfl := Option.some.inj ho
    have q0 := hdep ⟨0, .data⟩ (by simp) rfl
    obtain rfl := hS.p0 q0
    refine ZAo rfl rfl ?_
    go_simp
    refine ⟨.pointer (some ⟨Bx, 4, none⟩), .string x.step, x9, x10, x11, x12, x13, x14, rfl, ?_⟩
    exact ⟨hS.hb, hS.hB, fun h => hS.p0 (gO h), fun _ => rfl, fun h => hS.p2 (gO h), fun h => hS.p3 (gO h), fun h => hS.p4 (gO h), fun h => hS.p5 (gO h), fun h => hS.p6 (gO h), fun h => hS.p8 (gO h)⟩
   | 2, _ =>
    obtain rfl := Option.some.inj ho
    have q1 := hdep ⟨1, .data⟩ (by simp) rfl
    obtain rfl := hS.p1 q1
    refine ZAo rfl rfl ?_
    go_simp
    refine ⟨trivial, (cC.out x.step X HFx.out.1).mono ?_⟩
    rintro e X' ⟨rfl, hq⟩
    refine ⟨x7, .string x.step, .string x.step, x10, x11, x12, x13, x14, rfl, ?_⟩
    exact ⟨hS.hb.trans (Chg.of_below hq), (hq.block Bx (ZAA hS.hB)).trans hS.hB, fun h => hS.p0 (gO h), fun h => hS.p1 (gO h), fun _ => rfl, fun h => hS.p3 (gO h), fun h => hS.p4 (gO h), fun h => hS.p5 (gO h), fun h => hS.p6 (gO h), fun h => hS.p8 (gO h)⟩
   | 3, _ =>
    obtain rfl := Option.some.inj ho
    refine ZAo rfl rfl ?_
    go_simp
    refine ⟨x7, x8, x9, .pointer (some ⟨Bx, 5, none⟩), x11, x12, x13, x14, rfl, ?_⟩
    exact ⟨hS.hb, hS.hB, fun h => hS.p0 (gO h), fun h => hS.p1 (gO h), fun h => hS.p2 (gO h), fun _ => rfl, fun h => hS.p4 (gO h), fun h => hS.p5 (gO h), fun h => hS.p6 (gO h), fun h => hS.p8 (gO h)⟩
   | 4, _ =>
    obtain rfl := Option.some.inj ho
    have q3 := hdep ⟨3, .data⟩ (by simp) rfl
    obtain rfl := hS.p3 q3
    refine ZAo rfl rfl ?_
    go_simp
    refine ⟨x7, x8, x9, .pointer (some ⟨Bx, 5, none⟩), .string x.val, x12, x13, x14, rfl, ?_⟩
    exact ⟨hS.hb, hS.hB, fun h => hS.p0 (gO h), fun h => hS.p1 (gO h), fun h => hS.p2 (gO h), fun h => hS.p3 (gO h), fun _ => rfl, fun h => hS.p5 (gO h), fun h => hS.p6 (gO h), fun h => hS.p8 (gO h)⟩
   | 5, _ =>
    obtain rfl := Option.some.inj ho
    have q4 := hdep ⟨4, .data⟩ (by simp) rfl
    obtain rfl := hS.p4 q4
    refine ZAo rfl rfl ?_
    go_simp
    refine ⟨trivial, (cC.out x.val X HFx.out.2).mono ?_⟩
    rintro e X' ⟨rfl, hq⟩
    refine ⟨x7, x8, x9, x10, .string x.val, .string x.val, x13, x14, rfl, ?_⟩
    exact ⟨hS.hb.trans (Chg.of_below hq), (hq.block Bx (ZAA hS.hB)).trans hS.hB, fun h => hS.p0 (gO h), fun h => hS.p1 (gO h), fun h => hS.p2 (gO h), fun h => hS.p3 (gO h), fun h => hS.p4 (gO h), fun _ => rfl, fun h => hS.p6 (gO h), fun h => hS.p8 (gO h)⟩
   | 6, _ =>
    obtain rfl := Option.some.inj ho
    refine ZAo rfl rfl ?_
    go_simp
    refine ⟨x7, x8, x9, x10, x11, x12, .pointer (some ⟨Bx, 4, none⟩), x14, rfl, ?_⟩
    exact ⟨hS.hb, hS.hB, fun h => hS.p0 (gO h), fun h => hS.p1 (gO h), fun h => hS.p2 (gO h), fun h => hS.p3 (gO h), fun h => hS.p4 (gO h), fun h => hS.p5 (gO h), fun _ => rfl, fun h => hS.p8 (gO h)⟩
   | 7, _ =>
    obtain rfl := Option.some.inj ho
    have q6 := hdep ⟨6, .data⟩ (by simp) rfl
    obtain rfl := hS.p6 q6
    have q2 := hdep ⟨2, .data⟩ (by simp) rfl
    obtain rfl := hS.p2 q2
    refine ZAo rfl rfl ?_
    go_simp
    refine ⟨x7, x8, .string x.step, x10, x11, x12, .pointer (some ⟨Bx, 4, none⟩), x14, rfl, ?_⟩
    exact ⟨hS.hb.trans (Chg.of_grown (ZAF _ Bx 4 _) rfl), ZAG (L := [_, _, _, _, _, _]) (i := 4) hS.hB _, fun h => hS.p0 (gO h), fun h => hS.p1 (gO h), fun h => hS.p2 (gO h), fun h => hS.p3 (gO h), fun h => hS.p4 (gO h), fun h => hS.p5 (gO h), fun h => hS.p6 (gO h), fun h => hS.p8 (gO h)⟩
   | 8, _ =>
    obtain rfl := Option.some.inj ho
    refine ZAo rfl rfl ?_
    go_simp
    refine ⟨x7, x8, x9, x10, x11, x12, x13, .pointer (some ⟨Bx, 5, none⟩), rfl, ?_⟩
    exact ⟨hS.hb, hS.hB, fun h => hS.p0 (gO h), fun h => hS.p1 (gO h), fun h => hS.p2 (gO h), fun h => hS.p3 (gO h), fun h => hS.p4 (gO h), fun h => hS.p5 (gO h), fun h => hS.p6 (gO h), fun _ => rfl⟩
   | 9, _ =>
    obtain rfl := Option.some.inj ho
    have q8 := hdep ⟨8, .data⟩ (by simp) rfl
    obtain rfl := hS.p8 q8
    have q5 := hdep ⟨5, .data⟩ (by simp) rfl
    obtain rfl := hS.p5 q5
    refine ZAo rfl rfl ?_
    go_simp
    refine ⟨x7, x8, x9, x10, x11, .string x.val, x13, .pointer (some ⟨Bx, 5, none⟩), rfl, ?_⟩
    exact ⟨hS.hb.trans (Chg.of_grown (ZAF _ Bx 5 _) rfl), ZAG (L := [_, _, _, _, _, _]) (i := 5) hS.hB _, fun h => hS.p0 (gO h), fun h => hS.p1 (gO h), fun h => hS.p2 (gO h), fun h => hS.p3 (gO h), fun h => hS.p4 (gO h), fun h => hS.p5 (gO h), fun h => hS.p6 (gO h), fun h => hS.p8 (gO h)⟩
  case fin =>
   rintro listed a X ⟨x7, x8, x9, x10, x11, x12, x13, x14, rfl, hS⟩ hall
   have hKV : KeepsT tyG V X := ⟨hS.hb.size, fun j ob hj _ => by
    by_cases e9 : j = Bx
    ·subst e9; rw [H2.out] at hj; rw [hS.hB, ← hj]
    ·exact (hS.hb.block j (ZAA hj) e9).trans hj⟩
   have h1 := (hS.hb.block _ (ZAA H1.out) (fun e9 => by
    have h9 := H1.out
    rw [e9, H2.out] at h9
    injection h9 with h9
    injection h9 with _ h9 _
    exact absurd h9 (by decide))).trans H1.out
   have hr := ZAJ HR.out hS.hb (fun g9 hg9 e9 => HX3.out (by rw [hg9, e9]))
   have hbx : Below w.heap.size V X := hS.hb.below HBv.out.size (fun j (h : j = Bx) => by omega)
   have h2 := hS.hB
   obtain ⟨hlt, hxe⟩ := List.getElem?_eq_some_iff.1 hx
   have HF := hid (ZCu hlt)
   rw [hxe] at HF
   obtain ⟨va, vc, rfl⟩ := ZAD hr
   have HRx := hid (hr.alloc (.cells #[.int .i64 x.seq, .int .i64 x.time, .int .i64 x.run, .int .i64 x.kind, .string x.step, .string x.val] 57))
   have H1x := hid h1
   have HKV := hid hKV
   have HBVX := hid hbx
   have hzv : w.heap.size ≤ X.heap.size := Nat.le_trans HBv.out.size hbx.size
   have d0 : X.cell? ⟨w.heap.size, 0, none⟩ = some (.slice va k vc) := ce h1 rfl
   have e0 : X.cell? ⟨Bx, 0, none⟩ = some (.int .i64 x.seq) := ce h2 rfl
   have e1 : X.cell? ⟨Bx, 1, none⟩ = some (.int .i64 x.time) := ce h2 rfl
   have e2 : X.cell? ⟨Bx, 2, none⟩ = some (.int .i64 x.run) := ce h2 rfl
   have e3 : X.cell? ⟨Bx, 3, none⟩ = some (.int .i64 x.kind) := ce h2 rfl
   have e4 : X.cell? ⟨Bx, 4, none⟩ = some (.string x.step) := ce h2 rfl
   have e5 : X.cell? ⟨Bx, 5, none⟩ = some (.string x.val) := ce h2 rfl
   clear hr h1 h2 hx hxe hS hall hKV hbx H1 H2 HR HX3
   gi_wp2_with (gi_at_builtin; refine wpListIn_append_own _ rfl _ _ 34 rfl w.heap.size 57 i0 _ 6 64 Tryz.underlying34 hi hz0 hz1 hz2 rfl (by decide) _ _ _ rfl HRx.out ⟨X.heap.size, 0, none⟩ 1 1 x.cells rfl rfl ?c1 (ZBP x) ?c2 ?c3 ?c4 ?_)
   case c1 => exact ZBK X x _
   case c2 => unfold maxLen; omega
   case c3 => omega
   case c4 => simp; omega
   intro v' w1 ho hg _
   have hA := (Below.heap_alloc X (.cells #[.int .i64 x.seq, .int .i64 x.time, .int .i64 x.run, .int .i64 x.kind, .string x.step, .string x.val] 57) _ (ZAA H1x.out)).trans H1x.out
   have hne := ZAL HRx.out hA (by decide)
   have hbox : w1.heap[w.heap.size]? = some (.cells #[.slice va k vc] 34 (0, 0)) := (hg.block _ (ZAA hA) (fun e => hne _ e.symm rfl)).trans hA
   obtain ⟨ua, uc, rfl⟩ := ZAD ho
   have hne1 := ZAL ho hbox (by decide)
   have HBX := hid hbox
   have HKT : Hid (KeepsT tyG V w1) := hid (HKV.out.trans ((KeepsT.alloc _ X _).trans (KeepsT.grown hg (fun j e => by
    obtain ⟨c, t, f, h1, h2⟩ := ZGI HRx.out j e
    exact ⟨c, t, f, h1, by subst h2; decide⟩))))
   have HBL : Hid (Below w.heap.size V w1) := hid (HBVX.out.trans (((Below.refl w.heap.size X).alloc hzv _).grown hg (by simp; omega) (fun j e => (HRx.out.lt j e).1)))
   have HO := hid ho
   have HNE := hid hne1
   have d1 : w1.cell? ⟨w.heap.size, 0, none⟩ = some (.slice va k vc) := ce hbox rfl
   have d2 := Lib.frozen_of_heap hbox
   clear hA hne hbox ho hg hne1 d0 e0 e1 e2 e3 e4 e5
   gi_wp2_with fail
   refine ⟨HKT.out.trans (KeepsT.grown (ZAF w1 w.heap.size 0 _) (fun j e => by cases e; exact ⟨_, _, _, HBX.out, by decide⟩)), (HBL.out.setCell (p := ⟨w.heap.size, 0, none⟩) nL _).mono hn₀, _, ZAG (L := [_]) HBX.out _, ?_, HBv.out.trans (HBL.out.setCell (p := ⟨w.heap.size, 0, none⟩) nL _)⟩
   rw [HF.out]
   exact HO.out.kept (ZAF w1 w.heap.size 0 _) (.inr (fun e => HNE.out _ e rfl))
 case done =>
  rintro D V hD ⟨v, h1, hr, hb⟩ hK
  obtain ⟨va, vc, rfl⟩ := ZAD hr
  have d0 : V.cell? ⟨w.heap.size, 0, none⟩ = some (.slice va xs.length vc) := ce h1 rfl
  rw [List.take_length] at hr
  have cF := (callsIn_wide (n := 8)).2 (HCF.out V _ xs.length _ hr hn)
  gi_wp2_with fail
  refine ⟨trivial, cF.mono ?_⟩
  rintro e V' ⟨v', rfl, hv', rfl⟩
  gi_wp2
  refine ⟨by simp, .inl ⟨_, _, rfl, run_takeDeferred hK, ?_⟩⟩
  exact ⟨_, results_tmp rfl _ _ _, v', rfl, ZJN hv' hK, hb.trans (belowK_b (w := w) nL V' D _ _ (by omega) hK rfl rfl)⟩
theorem ZFL (W : World) (base : Nat) (v : Value) (m : Nat) (ys : List Value) (h : W.ownsRow base 57 6 v m ys) (hm : m ≤ 1048576) :
  Calls Tryz.prog 90 #[v, .int .i64 (m : Int)] W fun e w' => ∃ v', e = .returned v' ∧ RowL w' base 57 6 v' m ys ∧ w' = W := by
 have HL := hid (RowL.of_own h)
 rcases h.2 with ⟨rfl, rfl⟩ | ⟨g, cap, cur, rfl, hb, hh, h1, h2, h3, h4⟩
 ·clear h
  go_enter Tryz.func90, Tryz.ntmps90
  go_wp2
  go_ret
  exact ⟨_, rfl, HL.out, rfl⟩
 ·have HV := hid (show RowL W base 57 6 (.slice (some ⟨g, 0, none⟩) m m) m ys from ⟨h.1, ⟨_, _, rfl⟩, fun h0 => ⟨g, m, cur.toList, rfl, hb, by simpa using hh, by have := Nat.mul_le_mul_right 6 h1; simp [h3]; omega, h4⟩⟩)
  unfold maxLen at h2
  clear h hh hb h3 h4 HL
  go_enter Tryz.func90, Tryz.ntmps90
  go_wp2
  go_ret
  exact ⟨_, rfl, HV.out, rfl⟩
end Go.Proofs.YtookchpdbilbcaaGreatDoor
