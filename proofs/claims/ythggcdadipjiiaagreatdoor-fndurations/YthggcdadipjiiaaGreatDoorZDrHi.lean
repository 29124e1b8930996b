/-
  Draws: what spec.l04History and spec.DrawDurations answer: a Def and events, few and small: contracts over the seat's program. (Made by mkdrhi.py.)
-/
import Derived.Test.YthggcdadipjiiaaGreatDoorZHiM
import Derived.Test.YthggcdadipjiiaaGreatDoorZDrD1
import Derived.Test.YthggcdadipjiiaaGreatDoorZIsErr4
import Derived.Test.YthggcdadipjiiaaGreatDoorZSpOf
import Derived.Test.YthggcdadipjiiaaGreatDoorZSpRun6
import Derived.Test.YthggcdadipjiiaaGreatDoorZDfV3
import Derived.Test.YthggcdadipjiiaaGreatDoorZEvC6
import Derived.Test.YthggcdadipjiiaaGreatDoorZSpStA5
import Derived.Deep.CutBlock
namespace Go.Proofs.YthggcdadipjiiaaGreatDoor
open Go.RowKit Go.Sort
set_option linter.unusedVariables false

theorem Tryz.infoEvH : (Tryz.prog.info? 33).map (fun i => (i.zero, i.size, i.bytes)) = some (some (.agg #[.int .i64 0, .int .i64 0, .int .i64 0, .int .i64 0, .string ⟨#[]⟩, .string ⟨#[]⟩]), 6, 64) := by kernel_rfl
theorem own_slice_ltH {w : World} {lo size n k : Nat} {e : TypeId} {a : Option Addr} {xs : List Value} (h : w.ownsRow lo e size (.slice a n k) n xs) : ∀ g o, a = some ⟨g, o, none⟩ → g < w.heap.size := fun g o ha => (h.lt g (by rw [ha]; rfl)).2
theorem ne_blocksH {w : World} {g1 g2 : Nat} {c1 c2 : Array Value} {t1 t2 : TypeId} {f1 f2 : Nat × Nat} (h1 : w.heap[g1]? = some (.cells c1 t1 f1)) (h2 : w.heap[g2]? = some (.cells c2 t2 f2)) (hn : t1 ≠ t2) : g1 ≠ g2 := fun e => by
  subst e
  rw [h1] at h2
  injection h2 with h2
  injection h2 with _ h2
  exact hn h2
theorem own_someH {w : World} {base size n c : Nat} {e : TypeId} {a : Option Addr} {xs : List Value} (h : w.ownsRow base e size (.slice a n c) n xs) (h0 : 0 < n) : ∃ g, a = some ⟨g, 0, none⟩ := by
  rcases h.2 with ⟨hv, rfl⟩ | ⟨g, cap, cur, hv, _⟩
  · omega
  · injection hv with hv; exact ⟨g, hv⟩
theorem MdH.lenE {w W : World} {b lo gd n g c m : Nat} {V u1 u2 : Value} {ss : List ByteArray} {fs : List Pr} {l : List Ev} (h : MdH w W b lo gd n V u1 u2 (.slice (some ⟨g, 0, none⟩) m c) ss fs l) : MdH w W b lo gd n V u1 u2 (.slice (some ⟨g, 0, none⟩) m c) ss fs l := h
theorem stP_faults {ss : List ByteArray} {S : St} (h : StP ss S) : 0 ≤ S.faults := by
  rcases h with ⟨_, h⟩ | ⟨_, h⟩ | ⟨_, _, h⟩
  · have := h.f0; omega
  · exact (tim_iff.1 h.f).1
  · exact (tim_iff.1 h.f).1
set_option maxHeartbeats 8000000 in
set_option maxRecDepth 100000 in
theorem l04History_any (b n : Nat) (V : Value) (w : World) (h : Drw w b V n) :
    Calls Tryz.prog 20 #[.pointer (some ⟨b, 0, none⟩)] w fun e w' => ∃ u1 u2 v ss fs l, e = .returned (.tuple #[.agg #[u1, u2], v]) ∧ l.length ≤ 40 ∧ HiDr w w' b n V u1 u2 v ss fs l := by
  have mixed : Tryz.prog.follows .mixedOrders = true := by kernel_rfl
  obtain ⟨i0, hi, hz0, hz1, hz2⟩ := info_parts Tryz.infoEvH
  have hb0 : Below w.heap.size w (w.alloc (.cells [.slice none 0 0, .slice none 0 0].toArray 26)) := (Below.refl _ _).alloc (Nat.le_refl _) _
  have HR := hid (heap_alloc_new w (.cells [.slice none 0 0, .slice none 0 0].toArray 26))
  have HS0 : Hid ((w.alloc (.cells [.slice none 0 0, .slice none 0 0].toArray 26)).heap.size = w.heap.size + 1) := hid (by simp)
  have hbw := h.src.lt
  have HD0 := hid (h.below hb0)
  have HG0 := hid (grown_below (r := some b) hb0)
  have cN := hid (fun most w h h2 => srcN_any b n V most w h h2)
  have cO := hid (fun most w h h2 => one_any b n V most w h h2)
  clear h hb0
  go_enter Tryz.func20, Tryz.ntmps20
  go_wp2_with fail
  refine (drawDef_any b n V _ HD0.out).mono ?_
  rintro e W1 ⟨u1, u2, ss, fs, rfl, hT⟩
  obtain ⟨a1, k1, rfl⟩ := ownB_form hT.o1
  obtain ⟨a2, k2, rfl⟩ := ownB_form hT.o2
  have M := hid (MdH.start HS0.out HG0.out HR.out hbw hT)
  clear HS0 HG0 HR HD0 hT
  go_upto_region 4 with fail
  have M2 : Hid (MdH w ((W1.alloc (.cells [.slice a1 ss.length k1, .slice a2 fs.length k2].toArray 26)).alloc (.cells #[] 33)) b (w.heap.size + 1) W1.heap.size n V (.slice a1 ss.length k1) (.slice a2 fs.length k2) (.slice (some ⟨W1.heap.size + 1, 0, none⟩) 0 0) ss fs []) := M
  clear M
  have M := M2
  clear M2
  generalize ((W1.alloc (.cells [.slice a1 ss.length k1, .slice a2 fs.length k2].toArray 26)).alloc (.cells #[] 33)) = W2 at *
  generalize W1.heap.size = gd at *
  have hlo : b < w.heap.size + 1 := by omega
  generalize hlo9 : w.heap.size + 1 = lo at *
  have F1 := hid (show ∀ i, (h : i < ss.length) → ss[i].size ≤ maxLen from fun i h => by have := M.out.sh.1 _ (List.getElem_mem h); unfold maxLen; omega)
  have N1 : ss.length ≤ maxLen := by have := M.out.len; unfold maxLen; omega
  have N2 : fs.length ≤ maxLen := by have := M.out.len; unfold maxLen; omega
  obtain ⟨at0, mx, size, _, _, _, hsz, hb3⟩ := M.out.dr.src
  have e3 : W2.cell? ⟨b, 3, none⟩ = some (.int .i64 size) := by rw [Lib.cell_of_heap hb3]; rfl
  obtain ⟨s0, s1⟩ := hsz
  clear hb3
  have hw1 : IntKind.i64.wrap (2 * size) = 2 * size := by rw [IntKind.wrap_i64]; omega
  have hw2 : IntKind.i64.wrap (14 + 2 * size) = 14 + 2 * size := by rw [IntKind.wrap_i64]; omega
  go_wp2_with fail
  refine (cN.out (14 + 2 * size) _ M.out.dr (by omega)).mono ?_
  rintro e W4 ⟨r1, rfl, ⟨l1, v1, v1'⟩, hd1, hg1⟩
  have v1 := v1 (by omega)
  have M4 := hid (M.out.call hd1 hg1)
  clear hd1 hg1 M v1' e3 hw1 hw2
  go_upto_block 0 with fail
  go_cut [5] from 22 to 62 (fun v wx => ∃ l, l.length ≤ 38 ∧ MdH w wx b lo gd n V (.slice a1 ss.length k1) (.slice a2 fs.length k2) v ss fs l)
  case first =>
    go_wp2_with fail
    go_loopw [5, 6, 7] (fun v sqv kv wr => ∃ (k sq : Int) (l : List Ev), kv = .int .i64 k ∧ 0 ≤ k ∧ (l.length : Int) + k ≤ 38 ∧ sqv = .int .i64 sq ∧ 0 ≤ sq ∧ sq + 3 * k ≤ 1000 ∧ MdH w wr b lo gd n V (.slice a1 ss.length k1) (.slice a2 fs.length k2) v ss fs l) (fun _ _ kv _ => (intOf kv).toNat)
    case atStart => exact ⟨r1, 0, [], rfl, by omega, by simp; omega, rfl, by omega, by omega, M4.out⟩
    case round =>
      obtain ⟨k, sq, l, rfl, hk0, hk1, rfl, hq0, hq1, hM⟩ := hrel
      clear M4
      obtain ⟨al, kl, rfl⟩ := ownB_form hM.ol
      have M := hid hM
      clear hM
      obtain ⟨d0, d1⟩ := M.out.cells
      by_cases hk : 0 < k
      · have c := specDefRight_any a1 a2 k1 k2 ss fs wr (str_of_own M.out.o1) (pr_of_own M.out.o2) F1.out N1 N2
        by_cases D : DefP ss fs
        · replace c := calls_yes c D
          go_wp2_with fail
          refine c.mono ?_
          rintro e W5 ⟨rfl, hb5⟩
          have M5 := hid (M.out.below hb5)
          clear hb5 c M d0 d1
          have HD := hid D
          clear D
          go_wp2_with fail
          refine (cN.out 3 _ M5.out.dr (by omega)).mono ?_
          rintro e W6 ⟨r2, rfl, ⟨l2, v2, _⟩, hd2, hg2⟩
          have v2 := v2 (by omega)
          have M6 := hid (M5.out.call hd2 hg2)
          clear hd2 hg2 M5
          have hw3 : IntKind.i64.wrap (1 + r2) = 1 + r2 := by rw [IntKind.wrap_i64]; omega
          go_upto_region 8 with fail
          generalize 1 + r2 = rn at *
          clear hw3
          obtain ⟨d0, d1⟩ := M6.out.cells
          have hgd := lt_heap M6.out.hd
          have hlW : lo ≤ W6.heap.size := by have := M6.out.l3; omega
          have hll : l.length ≤ 38 := by omega
          have FE := hid (ofRun_step l rn (p := fun e => e.step.size ≤ maxLen) (fun i h => by have := (M6.out.se _ (List.getElem_mem h)).1; unfold maxLen; omega))
          have hrl := ofRun_len l rn
          have cA := hid (fun (X : World) (hX : Below W6.heap.size W6 X) => l04Run_any al kl l rn X (sl_of_own (ownB_stay M6.out.ol hX)) (by omega))
          have cB := hid (fun (X : World) (a : Option Addr) (c : Nat) (hX : Below W6.heap.size W6 X) (hS : EvSl X (.slice a (ofRun l rn).length c) (ofRun l rn)) => l03Of_any a1 a2 a k1 k2 c ss fs (ofRun l rn) X ⟨str_of_own (ownB_stay M6.out.o1 hX), pr_of_own (ownB_stay M6.out.o2 hX), own_slice_ltH (ownB_stay M6.out.o1 hX), own_slice_ltH (ownB_stay M6.out.o2 hX)⟩ hS HD.out FE.out (by omega))
          have hTP := ofS_stP HD.out (ofRun l rn) z0 (z0_right ss)
          generalize hct : ofS ss fs (ofRun l rn) z0 = ct at *
          clear hct
          obtain ⟨c9, T⟩ := ct
          simp only at hTP cB
          generalize ofRun l rn = lr at *
          have HTP := hid hTP
          clear hTP
          have hf0 : ∀ (x3 x4 x5 : Option Addr) (y3 y4 y5 : Nat) (w : World), (Instr.field 93 (.agg #[.int .i64 T.status, .int .i64 T.begun, .int .i64 T.last, .slice x3 T.wait.length y3, .slice x4 T.busy.length y4, .slice x5 T.vars.length y5, .int .i64 T.faults, .int .i64 c9]) 0).run Tryz.prog w = .ok (.agg #[.int .i64 T.status, .int .i64 T.begun, .int .i64 T.last, .slice x3 T.wait.length y3, .slice x4 T.busy.length y4, .slice x5 T.vars.length y5, .int .i64 T.faults]) w := fun _ _ _ _ _ _ _ => by kernel_rfl
          have hbR : Below W6.heap.size W6 W6.drew := (Below.refl _ _).drew
          refine wp_region_okL mixed 7 [[],[],[],[1,2],[0,1,2,3],[0,1,2,3,4],[],[0,1,2,3,4,5,6]] (fun v => { tmps := #[.pointer (some ⟨b, 0, none⟩), undef, .pointer (some ⟨w.heap.size, 0, none⟩), .slice none 0 0, .pointer (some ⟨gd, 0, none⟩), .slice al l.length kl, .int .i64 sq, .int .i64 k, .int .i64 rn, v 6, u10, .pointer (some ⟨b, 0, none⟩), .agg #[.slice a1 ss.length k1, .slice a2 fs.length k2], .slice (some ⟨gd + 1, 0, none⟩) 0 0, .pointer (some ⟨b, 0, none⟩), .pointer (some ⟨b, 0, none⟩), .pointer (some ⟨b, 0, none⟩), .pointer (some ⟨b, 3, none⟩), .int .i64 size, .int .i64 (2 * size), .int .i64 (14 + 2 * size), .int .i64 r1, .int .i64 k, .bool true, .bool true, .agg #[.slice a1 ss.length k1, .slice a2 fs.length k2], .bool true, .bool true, u28, u29, .pointer (some ⟨b, 0, none⟩), .int .i64 r2, .int .i64 rn, v 0, v 1, v 2, v 3, v 4, v 5, u39, u40, u41, u42, u43, u44, u45, u46, u47, u48, u49, u50, u51, u52, u53, u54, u55, u56, u57, u58, u59, u60, u61, u62, undef, undef, undef, undef, undef, undef, undef, undef, undef, undef, undef, undef, undef, undef, undef, undef, undef, undef, undef, undef, undef, undef, undef, undef, undef, undef, undef, undef, undef, undef, undef, undef, undef], defers := [] }) (fun i9 => match i9 with | 0 => u33 | 1 => u34 | 2 => u35 | 3 => u36 | 4 => u37 | 5 => u38 | 6 => u9 | _ => undef) (fun i9 x X => match i9 with
            | 0 => x = .agg #[.slice a1 ss.length k1, .slice a2 fs.length k2]
            | 1 => x = .slice al l.length kl
            | 2 => x = .int .i64 rn
            | 3 => ∃ (a9 : Option Addr) (c8 : Nat), x = .slice a9 lr.length c8 ∧ EvSl X (.slice a9 lr.length c8) lr
            | 4 => ∃ (x3 x4 x5 : Option Addr) (y3 y4 y5 : Nat), x = .agg #[.int .i64 T.status, .int .i64 T.begun, .int .i64 T.last, .slice x3 T.wait.length y3, .slice x4 T.busy.length y4, .slice x5 T.vars.length y5, .int .i64 T.faults, .int .i64 c9] ∧ StOwn X lo (.slice x3 T.wait.length y3) (.slice x4 T.busy.length y4) (.slice x5 T.vars.length y5) T
            | 5 => ∃ (x3 x4 x5 : Option Addr) (y3 y4 y5 : Nat), x = .agg #[.int .i64 T.status, .int .i64 T.begun, .int .i64 T.last, .slice x3 T.wait.length y3, .slice x4 T.busy.length y4, .slice x5 T.vars.length y5, .int .i64 T.faults] ∧ StOwn X lo (.slice x3 T.wait.length y3) (.slice x4 T.busy.length y4) (.slice x5 T.vars.length y5) T
            | 6 => ∃ g9 : Nat, x = .pointer (some ⟨g9, 0, none⟩) ∧ lo ≤ g9 ∧ X.heap[g9]? = some (.cells #[.int .i64 0, .int .i64 0, .int .i64 0, .slice none 0 0, .slice none 0 0, .slice none 0 0, .int .i64 0] 91 (0, 0))
            | _ => True) (fun X => Below W6.heap.size W6 X) (fun X X' => Below X.heap.size X X') (by kernel_rfl) rfl (hbR) ?mono ?step ?last (fun h => absurd h (by decide))
          case mono =>
            intro i9 x X X' hi9 hG hS h
            match i9, hi9 with
            | 0, _ | 1, _ | 2, _ => exact h
            | 3, _ => obtain ⟨a9, c8, e9, hS9⟩ := h; exact ⟨a9, c8, e9, hS9.stay hS (Nat.le_refl _)⟩
            | 4, _ => obtain ⟨x3, x4, x5, y3, y4, y5, e9, hO9⟩ := h; exact ⟨x3, x4, x5, y3, y4, y5, e9, hO9.stay hS⟩
            | 5, _ => obtain ⟨x3, x4, x5, y3, y4, y5, e9, hO9⟩ := h; exact ⟨x3, x4, x5, y3, y4, y5, e9, hO9.stay hS⟩
            | 6, _ => obtain ⟨g9, e9, hl9, hG9⟩ := h; exact ⟨g9, e9, hl9, (hS.block _ (lt_heap hG9)).trans hG9⟩
          case step =>
            intro i9 v X hi9 hG hd hu K hK
            have HU := hid hu
            clear hu
            have d9 := (hG.cell (p := ⟨gd, 0, none⟩) hgd).trans d0
            have d8 := (hG.cell (p := ⟨gd, 1, none⟩) hgd).trans d1
            match i9, hi9 with
            | 0, _ =>
              refine op_go rfl rfl ?_
              go_simp
              exact hK.out _ v _ _ rfl rfl rfl hG (Below.refl _ _)
            | 1, _ =>
              refine op_go rfl rfl ?_
              go_simp
              exact hK.out _ v _ _ rfl rfl rfl hG (Below.refl _ _)
            | 2, _ =>
              refine op_go rfl rfl ?_
              go_simp
              exact hK.out _ v _ _ rfl rfl rfl hG (Below.refl _ _)
            | 3, _ =>
              have q1 : v 1 = .slice al l.length kl := hd 1 (by decide)
              have q2 : v 2 = .int .i64 rn := hd 2 (by decide)
              refine op_go rfl rfl ?_
              go_simp
              refine (cA.out X hG).mono ?_
              rintro e X' ⟨v9, rfl, ho, hb'⟩
              obtain ⟨a9, c8, rfl⟩ := ownB_form ho
              exact hK.out _ (upd (upd v 1 _) 2 _) _ _ (upd_on (upd_on rfl q1) q2) rfl ⟨a9, c8, rfl, sl_of_own ho⟩ (hG.trans (hb'.mono hG.size)) hb'
            | 4, _ =>
              have q0 : v 0 = .agg #[.slice a1 ss.length k1, .slice a2 fs.length k2] := hd 0 (by decide)
              obtain ⟨a9, c8, q3, hS9⟩ : ∃ (a9 : Option Addr) (c8 : Nat), v 3 = .slice a9 lr.length c8 ∧ EvSl X (.slice a9 lr.length c8) lr := hd 3 (by decide)
              refine op_go rfl rfl ?_
              go_simp
              refine (cB.out X a9 c8 hG hS9).mono ?_
              rintro e X' ⟨v3, v4, v5, hx, hO, hb'⟩
              obtain ⟨x3, x4, x5, y3, y4, y5, rfl, rfl, rfl⟩ := hO.forms
              replace hx : e = .returned (.agg #[.int .i64 T.status, .int .i64 T.begun, .int .i64 T.last, .slice x3 T.wait.length y3, .slice x4 T.busy.length y4, .slice x5 T.vars.length y5, .int .i64 T.faults, .int .i64 c9]) := hx
              subst hx
              exact hK.out _ (upd (upd v 0 _) 3 _) _ _ (upd_on (upd_on rfl q0) q3) rfl ⟨x3, x4, x5, y3, y4, y5, rfl, hO.le (Nat.le_trans hlW hG.size)⟩ (hG.trans (hb'.mono hG.size)) hb'
            | 5, _ =>
              obtain ⟨x3, x4, x5, y3, y4, y5, q4, hO9⟩ : ∃ (x3 x4 x5 : Option Addr) (y3 y4 y5 : Nat), v 4 = .agg #[.int .i64 T.status, .int .i64 T.begun, .int .i64 T.last, .slice x3 T.wait.length y3, .slice x4 T.busy.length y4, .slice x5 T.vars.length y5, .int .i64 T.faults, .int .i64 c9] ∧ StOwn X lo (.slice x3 T.wait.length y3) (.slice x4 T.busy.length y4) (.slice x5 T.vars.length y5) T := hd 4 (by decide)
              have hfr := hf0 x3 x4 x5 y3 y4 y5
              clear hf0
              refine op_go rfl rfl ?_
              go_simp
              exact hK.out _ (upd v 4 _) _ _ (upd_on rfl q4) rfl ⟨x3, x4, x5, y3, y4, y5, rfl, hO9⟩ hG (Below.refl _ _)
            | 6, _ =>
              refine op_go rfl rfl ?_
              go_simp
              exact hK.out _ v _ _ rfl rfl ⟨X.heap.size, rfl, Nat.le_trans hlW hG.size, heap_alloc_new X _⟩ (hG.trans (((Below.refl _ X).alloc (Nat.le_refl _) _).mono hG.size)) ((Below.refl _ X).alloc (Nat.le_refl _) _)
          case last =>
            intro _ v X hG hd
            have d9 := (hG.cell (p := ⟨gd, 0, none⟩) hgd).trans d0
            have d8 := (hG.cell (p := ⟨gd, 1, none⟩) hgd).trans d1
            obtain ⟨x3, x4, x5, y3, y4, y5, q5, hO9⟩ : ∃ (x3 x4 x5 : Option Addr) (y3 y4 y5 : Nat), v 5 = .agg #[.int .i64 T.status, .int .i64 T.begun, .int .i64 T.last, .slice x3 T.wait.length y3, .slice x4 T.busy.length y4, .slice x5 T.vars.length y5, .int .i64 T.faults] ∧ StOwn X lo (.slice x3 T.wait.length y3) (.slice x4 T.busy.length y4) (.slice x5 T.vars.length y5) T := hd 5 (by decide)
            obtain ⟨g9, q6, hl9, hG9⟩ : ∃ g9 : Nat, v 6 = .pointer (some ⟨g9, 0, none⟩) ∧ lo ≤ g9 ∧ X.heap[g9]? = some (.cells #[.int .i64 0, .int .i64 0, .int .i64 0, .slice none 0 0, .slice none 0 0, .slice none 0 0, .int .i64 0] 91 (0, 0)) := hd 6 (by decide)
            have hzf := Lib.frozen_of_heap hG9
            have z0 : X.cell? ⟨g9, 0, none⟩ = some (.int .i64 0) := by rw [Lib.cell_of_heap hG9]; rfl
            have z1 : X.cell? ⟨g9, 1, none⟩ = some (.int .i64 0) := by rw [Lib.cell_of_heap hG9]; rfl
            have z2 : X.cell? ⟨g9, 2, none⟩ = some (.int .i64 0) := by rw [Lib.cell_of_heap hG9]; rfl
            have z3 : X.cell? ⟨g9, 3, none⟩ = some (.slice none 0 0) := by rw [Lib.cell_of_heap hG9]; rfl
            have z4 : X.cell? ⟨g9, 4, none⟩ = some (.slice none 0 0) := by rw [Lib.cell_of_heap hG9]; rfl
            have z5 : X.cell? ⟨g9, 5, none⟩ = some (.slice none 0 0) := by rw [Lib.cell_of_heap hG9]; rfl
            have z6 : X.cell? ⟨g9, 6, none⟩ = some (.int .i64 0) := by rw [Lib.cell_of_heap hG9]; rfl
            refine op_go rfl rfl ?_
            go_simp
            have hcS : Chg (fun j => j = g9) X (((((((X.setCell ⟨g9, 0, none⟩ (.int .i64 T.status)).setCell ⟨g9, 1, none⟩ (.int .i64 T.begun)).setCell ⟨g9, 2, none⟩ (.int .i64 T.last)).setCell ⟨g9, 3, none⟩ (.slice x3 T.wait.length y3)).setCell ⟨g9, 4, none⟩ (.slice x4 T.busy.length y4)).setCell ⟨g9, 5, none⟩ (.slice x5 T.vars.length y5)).setCell ⟨g9, 6, none⟩ (.int .i64 T.faults)) := (((((((Chg.refl _ _).seq _ _).seq _ _).seq _ _).seq _ _).seq _ _).seq _ _).seq _ _
            have hZ : X.heap[g9]? = some (.cells [.int .i64 0, .int .i64 0, .int .i64 0, .slice none 0 0, .slice none 0 0, .slice none 0 0, .int .i64 0].toArray 91 (0, 0)) := hG9
            have HS : Hid ((((((((X.setCell ⟨g9, 0, none⟩ (.int .i64 T.status)).setCell ⟨g9, 1, none⟩ (.int .i64 T.begun)).setCell ⟨g9, 2, none⟩ (.int .i64 T.last)).setCell ⟨g9, 3, none⟩ (.slice x3 T.wait.length y3)).setCell ⟨g9, 4, none⟩ (.slice x4 T.busy.length y4)).setCell ⟨g9, 5, none⟩ (.slice x5 T.vars.length y5)).setCell ⟨g9, 6, none⟩ (.int .i64 T.faults)).heap[g9]? = some (.cells [.int .i64 T.status, .int .i64 T.begun, .int .i64 T.last, .slice x3 T.wait.length y3, .slice x4 T.busy.length y4, .slice x5 T.vars.length y5, .int .i64 T.faults].toArray 91 (0, 0))) := hid (blk_set (i := 6) (blk_set (i := 5) (blk_set (i := 4) (blk_set (i := 3) (blk_set (i := 2) (blk_set (i := 1) (blk_set (i := 0) hZ (.int .i64 T.status)) (.int .i64 T.begun)) (.int .i64 T.last)) (.slice x3 T.wait.length y3)) (.slice x4 T.busy.length y4)) (.slice x5 T.vars.length y5)) (.int .i64 T.faults))
            have MX := M6.out.below hG
            have OS := hid (hO9.turn hcS hZ (by decide) (by decide))
            have M7 := hid (MX.turn hcS (fun k hk => by subst hk; exact ⟨hl9, fun e => ne_blocksH MX.hd hZ (by decide) e.symm, fun e => own_ne MX.o1 hZ (by decide) _ e rfl, fun e => own_ne MX.o2 hZ (by decide) _ e rfl⟩) (own_chg MX.ol hcS (own_ne MX.ol hZ (by decide))) MX.se)
            clear hcS hZ hG9 MX hO9 z0 z1 z2 z3 z4 z5 z6 hzf hd hG cA cB hf0 hbR M6 d0 d1 d9 d8 q5 q6
            generalize (((((((X.setCell ⟨g9, 0, none⟩ (.int .i64 T.status)).setCell ⟨g9, 1, none⟩ (.int .i64 T.begun)).setCell ⟨g9, 2, none⟩ (.int .i64 T.last)).setCell ⟨g9, 3, none⟩ (.slice x3 T.wait.length y3)).setCell ⟨g9, 4, none⟩ (.slice x4 T.busy.length y4)).setCell ⟨g9, 5, none⟩ (.slice x5 T.vars.length y5)).setCell ⟨g9, 6, none⟩ (.int .i64 T.faults)) = W7 at *
            have hnb : g9 ≠ b := by omega
            go_wp2_with fail
            refine (cN.out 2 _ M7.out.dr (by decide)).mono ?_
            rintro e W8 ⟨r3, rfl, ⟨l3, v3, _⟩, hd3, hg3⟩
            have v3 := v3 (by decide)
            have M8 := hid (M7.out.call hd3 hg3)
            have OS8 := hid (OS.out.keptB hlo hg3)
            have HS8 := hid ((hg3.block g9 (lt_heap HS.out) (by simp; exact hnb)).trans HS.out)
            clear hd3 hg3 M7 OS HS
            have hw4 : IntKind.i64.wrap (sq + 1) = sq + 1 := by rw [IntKind.wrap_i64]; omega
            have hw5 : IntKind.i64.wrap (sq + 1 + r3) = sq + 1 + r3 := by rw [IntKind.wrap_i64]; omega
            have y0 : W8.cell? ⟨g9, 0, none⟩ = some (.int .i64 T.status) := by rw [Lib.cell_of_heap HS8.out]; rfl
            have y1 : W8.cell? ⟨g9, 1, none⟩ = some (.int .i64 T.begun) := by rw [Lib.cell_of_heap HS8.out]; rfl
            have y2 : W8.cell? ⟨g9, 2, none⟩ = some (.int .i64 T.last) := by rw [Lib.cell_of_heap HS8.out]; rfl
            have y3 : W8.cell? ⟨g9, 3, none⟩ = some (.slice x3 T.wait.length y3) := by rw [Lib.cell_of_heap HS8.out]; rfl
            have y4 : W8.cell? ⟨g9, 4, none⟩ = some (.slice x4 T.busy.length y4) := by rw [Lib.cell_of_heap HS8.out]; rfl
            have y5 : W8.cell? ⟨g9, 5, none⟩ = some (.slice x5 T.vars.length y5) := by rw [Lib.cell_of_heap HS8.out]; rfl
            have y6 : W8.cell? ⟨g9, 6, none⟩ = some (.int .i64 T.faults) := by rw [Lib.cell_of_heap HS8.out]; rfl
            go_wp2_with fail
            have hq3 : sq + 1 + r3 + 3 * (k - 1) ≤ 1000 := by omega
            have hq4 : 0 ≤ sq + 1 + r3 := by omega
            generalize sq + 1 + r3 = sq2 at *
            clear hw4 hw5
            have hSm := smS_of M8.out.sh HTP.out
            refine (nextH_any M8.out.dr OS8.out hSm hlo rn sq2).mono ?_
            rintro e W9 ⟨⟨q0, q1, q2, q3, q4, q5⟩, hx, z1, z2, hd9, hg9, hK9⟩
            replace hx : e = .returned (.agg #[.int .i64 q0, .int .i64 q1, .int .i64 q2, .int .i64 q3, .string q4, .string q5]) := hx
            subst hx
            have M9 := hid ((M8.out.call hd9 hg9).alloc (.cells [.int .i64 q0, .int .i64 q1, .int .i64 q2, .int .i64 q3, .string q4, .string q5].toArray 33))
            have OS9 := hid ((OS8.out.keptB hlo hg9).stay ((Below.refl _ W9).alloc (Nat.le_refl _) (.cells [.int .i64 q0, .int .i64 q1, .int .i64 q2, .int .i64 q3, .string q4, .string q5].toArray 33)))
            have HSx := (hg9.block g9 (lt_heap HS8.out) (by simp; exact hnb)).trans HS8.out
            have HS9 := hid ((Below.heap_alloc W9 (.cells [.int .i64 q0, .int .i64 q1, .int .i64 q2, .int .i64 q3, .string q4, .string q5].toArray 33) _ (lt_heap HSx)).trans HSx)
            have hE9 := hid (heap_alloc_new W9 (.cells [.int .i64 q0, .int .i64 q1, .int .i64 q2, .int .i64 q3, .string q4, .string q5].toArray 33))
            have HZ1 := hid z1
            have HZ2 := hid z2
            have HK9 := hid hK9
            clear hd9 hg9 M8 OS8 HS8 HSx z1 z2 hK9 y0 y1 y2 y3 y4 y5 y6
            go_upto_region 11 with fail
            generalize W9.alloc (.cells [.int .i64 q0, .int .i64 q1, .int .i64 q2, .int .i64 q3, .string q4, .string q5].toArray 33) = WA at *
            generalize W9.heap.size = ge at *
            have hT0 : 0 ≤ T.faults := stP_faults HTP.out
            have cS := l03Step_any a1 a2 x3 x4 x5 k1 k2 y3 y4 y5 ss fs T ⟨q0, q1, q2, q3, q4, q5⟩ WA ⟨str_of_own M9.out.o1, pr_of_own M9.out.o2, own_slice_ltH M9.out.o1, own_slice_ltH M9.out.o2⟩ OS9.out.slT (by have := HD.out.1.n1; omega) (by have := M9.out.len; omega) (by have := hSm.w; omega) (by have := hSm.b; omega) (by have := hSm.v; omega) hT0 HK9.out
            obtain ⟨d0, d1⟩ := M9.out.cells
            have y0 : WA.cell? ⟨g9, 0, none⟩ = some (.int .i64 T.status) := by rw [Lib.cell_of_heap HS9.out]; rfl
            have y1 : WA.cell? ⟨g9, 1, none⟩ = some (.int .i64 T.begun) := by rw [Lib.cell_of_heap HS9.out]; rfl
            have y2 : WA.cell? ⟨g9, 2, none⟩ = some (.int .i64 T.last) := by rw [Lib.cell_of_heap HS9.out]; rfl
            have y3 : WA.cell? ⟨g9, 3, none⟩ = some (.slice x3 T.wait.length y3) := by rw [Lib.cell_of_heap HS9.out]; rfl
            have y4 : WA.cell? ⟨g9, 4, none⟩ = some (.slice x4 T.busy.length y4) := by rw [Lib.cell_of_heap HS9.out]; rfl
            have y5 : WA.cell? ⟨g9, 5, none⟩ = some (.slice x5 T.vars.length y5) := by rw [Lib.cell_of_heap HS9.out]; rfl
            have y6 : WA.cell? ⟨g9, 6, none⟩ = some (.int .i64 T.faults) := by rw [Lib.cell_of_heap HS9.out]; rfl
            have x0e : WA.cell? ⟨ge, 0, none⟩ = some (.int .i64 q0) := by rw [Lib.cell_of_heap hE9.out]; rfl
            have x1e : WA.cell? ⟨ge, 1, none⟩ = some (.int .i64 q1) := by rw [Lib.cell_of_heap hE9.out]; rfl
            have x2e : WA.cell? ⟨ge, 2, none⟩ = some (.int .i64 q2) := by rw [Lib.cell_of_heap hE9.out]; rfl
            have x3e : WA.cell? ⟨ge, 3, none⟩ = some (.int .i64 q3) := by rw [Lib.cell_of_heap hE9.out]; rfl
            have x4e : WA.cell? ⟨ge, 4, none⟩ = some (.string q4) := by rw [Lib.cell_of_heap hE9.out]; rfl
            have x5e : WA.cell? ⟨ge, 5, none⟩ = some (.string q5) := by rw [Lib.cell_of_heap hE9.out]; rfl
            generalize hcs : stepS ss fs T ⟨q0, q1, q2, q3, q4, q5⟩ = cs at *
            clear hcs
            obtain ⟨c7, Y⟩ := cs
            simp only at cS
            clear hSm hT0
            go_wp2_with fail
            refine cS.mono ?_
            rintro e WB ⟨v3, v4, v5, hx, hO, hbB⟩
            obtain ⟨b3, b4, b5, j3, j4, j5, rfl, rfl, rfl⟩ := hO.forms
            replace hx : e = .returned (.agg #[.int .i64 Y.status, .int .i64 Y.begun, .int .i64 Y.last, .slice b3 Y.wait.length j3, .slice b4 Y.busy.length j4, .slice b5 Y.vars.length j5, .int .i64 Y.faults, .int .i64 c7]) := hx
            subst hx
            have MB := hid (M9.out.below hbB)
            have hEB := hid ((hbB.block _ (lt_heap hE9.out)).trans hE9.out)
            clear hO hbB cS M9 OS9 HS9 hE9 d0 d1 y0 y1 y2 y3 y4 y5 y6 x0e x1e x2e x3e x4e x5e
            have x0e : WB.cell? ⟨ge, 0, none⟩ = some (.int .i64 q0) := by rw [Lib.cell_of_heap hEB.out]; rfl
            have x1e : WB.cell? ⟨ge, 1, none⟩ = some (.int .i64 q1) := by rw [Lib.cell_of_heap hEB.out]; rfl
            have x2e : WB.cell? ⟨ge, 2, none⟩ = some (.int .i64 q2) := by rw [Lib.cell_of_heap hEB.out]; rfl
            have x3e : WB.cell? ⟨ge, 3, none⟩ = some (.int .i64 q3) := by rw [Lib.cell_of_heap hEB.out]; rfl
            have x4e : WB.cell? ⟨ge, 4, none⟩ = some (.string q4) := by rw [Lib.cell_of_heap hEB.out]; rfl
            have x5e : WB.cell? ⟨ge, 5, none⟩ = some (.string q5) := by rw [Lib.cell_of_heap hEB.out]; rfl
            have hf1 : ∀ (w : World), (Instr.field 93 (.agg #[.int .i64 Y.status, .int .i64 Y.begun, .int .i64 Y.last, .slice b3 Y.wait.length j3, .slice b4 Y.busy.length j4, .slice b5 Y.vars.length j5, .int .i64 Y.faults, .int .i64 c7]) 1).run Tryz.prog w = .ok (.int .i64 c7) w := fun _ => by kernel_rfl
            by_cases hc7 : c7 = 0
            · subst hc7
              have cV := specEventRight_any q0 q1 q2 q3 q4 q5 WB (by have := HZ1.out; unfold maxLen; omega)
              generalize evB ⟨q0, q1, q2, q3, q4, q5⟩ = rb at *
              go_wp2_with fail
              refine cV.mono ?_
              rintro e WC ⟨rfl, hbC⟩
              have MC := hid (MB.out.below hbC)
              have hEC := hid ((hbC.block _ (lt_heap hEB.out)).trans hEB.out)
              clear hbC cV MB hEB hf1 x0e x1e x2e x3e x4e x5e
              have x0e : WC.cell? ⟨ge, 0, none⟩ = some (.int .i64 q0) := by rw [Lib.cell_of_heap hEC.out]; rfl
              have x1e : WC.cell? ⟨ge, 1, none⟩ = some (.int .i64 q1) := by rw [Lib.cell_of_heap hEC.out]; rfl
              have x2e : WC.cell? ⟨ge, 2, none⟩ = some (.int .i64 q2) := by rw [Lib.cell_of_heap hEC.out]; rfl
              have x3e : WC.cell? ⟨ge, 3, none⟩ = some (.int .i64 q3) := by rw [Lib.cell_of_heap hEC.out]; rfl
              have x4e : WC.cell? ⟨ge, 4, none⟩ = some (.string q4) := by rw [Lib.cell_of_heap hEC.out]; rfl
              have x5e : WC.cell? ⟨ge, 5, none⟩ = some (.string q5) := by rw [Lib.cell_of_heap hEC.out]; rfl
              cases rb with
              | true =>
                have MA := hid (MC.out.alloc (.cells [.int .i64 q0, .int .i64 q1, .int .i64 q2, .int .i64 q3, .string q4, .string q5].toArray 33))
                have NW := World.news_of_block (heap_alloc_new WC (.cells [.int .i64 q0, .int .i64 q1, .int .i64 q2, .int .i64 q3, .string q4, .string q5].toArray 33))
                go_wp2_with (at_builtin; refine wpList_append_own _ rfl _ _ 27 rfl lo 33 i0 _ 6 64 Tryz.underlying27 hi hz0 hz1 hz2 rfl (by decide) _ _ _ rfl MA.out.ol ⟨WC.heap.size, 0, none⟩ 1 1 [.int .i64 q0, .int .i64 q1, .int .i64 q2, .int .i64 q3, .string q4, .string q5] rfl rfl NW ?c1 ?c2 ?c3 ?c4 ?_)
                case c1 => first | exact ⟨rfl, rfl, rfl, rfl, rfl, rfl⟩ | (intro u hu; simp at hu; rcases hu with h | h | h | h | h | h <;> (subst h; rfl))
                case c2 => unfold maxLen; omega
                case c3 => omega
                case c4 => have h1 := lt_heap MA.out.hd; have h2 := MA.out.l3; omega
                intro v' W5' ho hg _
                have MD := hid (MA.out.app ⟨q0, q1, q2, q3, q4, q5⟩ ⟨HZ1.out, HZ2.out⟩ ho hg)
                clear ho hg MA NW MC
                go_wp2
                go_roundw
                case rel => exact ⟨k - 1, sq2, l ++ [⟨q0, q1, q2, q3, q4, q5⟩], by go_num, by omega, by simp; omega, by go_num, hq4, hq3, MD.out⟩
                case measure => simp [intOf]; omega
              | false =>
                go_wp2
                go_roundw
                case rel => exact ⟨k - 1, sq2, l, by go_num, by omega, by omega, by go_num, hq4, hq3, MC.out⟩
                case measure => simp [intOf]; omega
            · have b0 : (c7 == 0) = false := by simp [hc7]
              go_wp2
              go_roundw
              case rel => exact ⟨k - 1, sq2, l, by go_num, by omega, by omega, by go_num, hq4, hq3, MB.out⟩
              case measure => simp [intOf]; omega
        · replace c := calls_no c D
          go_wp2_with fail
          refine c.mono ?_
          rintro e W5 ⟨rfl, hb5⟩
          have M5 := hid (M.out.below hb5)
          clear hb5 c M d0 d1
          go_wp2
          go_meet
          case rel => exact ⟨l, by omega, M5.out⟩
      · go_wp2
        go_meet
        case rel => exact ⟨l, by omega, M.out⟩
  case rest =>
    obtain ⟨l, hl, hM⟩ := hcut
    have M := hid hM
    clear hM M4
    obtain ⟨al, kl, rfl⟩ := ownB_form M.out.ol
    go_wp2_with fail
    refine (cO.out 20 _ M.out.dr (by decide)).mono ?_
    rintro e W5 ⟨c20, rfl, hd5, hg5⟩
    have M5 := hid (M.out.call hd5 hg5)
    clear hd5 hg5 M
    by_cases h0 : 0 < l.length
    · have hd0 : decide ((l.length : Int) > 0) = true := decide_eq_true (by omega)
      cases c20 with
      | true =>
        go_upto_if 69 with fail
        go_cut [5] from 70 to 93 (fun v wx => ∃ l, l.length ≤ 39 ∧ MdH w wx b lo gd n V (.slice a1 ss.length k1) (.slice a2 fs.length k2) v ss fs l)
        case first =>
          go_wp2_with fail
          refine (cN.out 3 _ M5.out.dr (by decide)).mono ?_
          rintro e W6 ⟨r4, rfl, ⟨l4, v4, _⟩, hd6, hg6⟩
          have v4 := v4 (by decide)
          have M6 := hid (M5.out.call hd6 hg6)
          clear hd6 hg6 M5
          obtain ⟨ge, rfl⟩ := own_someH M6.out.ol h0
          obtain ⟨go, oo, hgo, hE⟩ := (sl_of_own M6.out.ol).row h0
          injection hgo with hgo
          injection hgo with hg1 hg2
          subst hg1; subst hg2
          have hfz := (own_cellf M6.out.ol).2
          have hr4 : r4 = 0 ∨ r4 = 1 ∨ r4 = 2 := by omega
          rcases hr4 with rfl | rfl | rfl
          · have hse := M6.out.se
            obtain ⟨x0, x1, x2, x3, x4, x5⟩ := hE.2 0 h0
            have HQ := hid (show ∃ q0 q1 q2 q3 q4 q5, l[0] = ⟨q0, q1, q2, q3, q4, q5⟩ from ⟨_, _, _, _, _, _, rfl⟩)
            obtain ⟨q0, q1, q2, q3, q4, q5, hq⟩ := HQ.out
            have he0 := hse _ (List.getElem_mem h0)
            rw [hq] at x0 x1 x2 x3 x4 x5 he0
            simp only [Nat.zero_mul, Nat.zero_add, Nat.add_zero] at x0 x1 x2 x3 x4 x5
            have HQ2 := hid hq
            have HE0 := hid he0
            clear HQ hq he0 hse hE
            go_wp2_with fail
            have MS := hid (M6.out.setE (i := 0) (j := 0) h0 (by decide) (.int .i64 1000000) ⟨1000000, q1, q2, q3, q4, q5⟩ (by rw [HQ2.out]; rfl) HE0.out)
            go_meet
            case rel => exact ⟨l.set 0 ⟨1000000, q1, q2, q3, q4, q5⟩, by rw [List.length_set]; omega, MS.out.lenE⟩
          · have hse := M6.out.se
            obtain ⟨x0, x1, x2, x3, x4, x5⟩ := hE.2 0 h0
            have HQ := hid (show ∃ q0 q1 q2 q3 q4 q5, l[0] = ⟨q0, q1, q2, q3, q4, q5⟩ from ⟨_, _, _, _, _, _, rfl⟩)
            obtain ⟨q0, q1, q2, q3, q4, q5, hq⟩ := HQ.out
            have he0 := hse _ (List.getElem_mem h0)
            rw [hq] at x0 x1 x2 x3 x4 x5 he0
            simp only [Nat.zero_mul, Nat.zero_add, Nat.add_zero] at x0 x1 x2 x3 x4 x5
            have HQ2 := hid hq
            have HE0 := hid he0
            clear HQ hq he0 hse hE
            have MA := hid (M6.out.alloc (.cells [.int .i64 q0, .int .i64 q1, .int .i64 q2, .int .i64 q3, .string q4, .string q5].toArray 33))
            have NW := World.news_of_block (heap_alloc_new W6 (.cells [.int .i64 q0, .int .i64 q1, .int .i64 q2, .int .i64 q3, .string q4, .string q5].toArray 33))
            have hgd := lt_heap MA.out.hd
            go_wp2_with (at_builtin; refine wpList_append_own _ rfl _ _ 27 rfl lo 33 i0 _ 6 64 Tryz.underlying27 hi hz0 hz1 hz2 rfl (by decide) _ _ _ rfl MA.out.ol ⟨W6.heap.size, 0, none⟩ 1 1 [.int .i64 q0, .int .i64 q1, .int .i64 q2, .int .i64 q3, .string q4, .string q5] rfl rfl NW ?c1 ?c2 ?c3 ?c4 ?_)
            case c1 => first | exact ⟨rfl, rfl, rfl, rfl, rfl, rfl⟩ | (intro u hu; simp at hu; rcases hu with h | h | h | h | h | h <;> (subst h; rfl))
            case c2 => unfold maxLen; omega
            case c3 => omega
            case c4 => have h2 := MA.out.l3; omega
            intro v' W7 ho hg _
            have MD := hid (MA.out.app ⟨q0, q1, q2, q3, q4, q5⟩ HE0.out ho hg)
            clear ho hg MA NW
            go_wp2
            go_meet
            case rel => exact ⟨l ++ [⟨q0, q1, q2, q3, q4, q5⟩], by simp; omega, MD.out⟩
          · have hse := M6.out.se
            clear hE
            go_wp2_with fail
            refine (cN.out (l.length : Int) _ M6.out.dr (by omega)).mono ?_
            rintro e W7 ⟨r9, rfl, ⟨l9, u9, v9⟩, hd7, hg7⟩
            obtain ⟨i, rfl⟩ := Int.eq_ofNat_of_zero_le l9
            have hil : i < l.length := (Decidable.em ((1 : Int) < (l.length : Int))).elim (fun h1 => by have := u9 h1; omega) (fun h1 => by have := v9 (by omega); omega)
            have M7 := hid (M6.out.call hd7 hg7)
            clear hd7 hg7 M6 u9 v9 hfz
            go_wp2_with fail
            refine (cN.out 9 _ M7.out.dr (by decide)).mono ?_
            rintro e W8 ⟨r7, rfl, _, hd8, hg8⟩
            have M8 := hid (M7.out.call hd8 hg8)
            clear hd8 hg8 M7
            obtain ⟨go, oo, hgo, hE⟩ := (sl_of_own M8.out.ol).row h0
            injection hgo with hgo
            injection hgo with hg1 hg2
            subst hg1; subst hg2
            have hfz := (own_cellf M8.out.ol).2
            obtain ⟨x0, x1, x2, x3, x4, x5⟩ := hE.2 i hil
            simp only [Nat.zero_add] at x1
            have he0 := hse _ (List.getElem_mem hil)
            have MS := hid (M8.out.setE (i := i) (j := 1) hil (by decide) (.int .i64 r7) ⟨l[i].seq, r7, l[i].run, l[i].kind, l[i].step, l[i].val⟩ rfl he0)
            have HS := hid (show (l.set i ⟨l[i].seq, r7, l[i].run, l[i].kind, l[i].step, l[i].val⟩).length ≤ 39 by rw [List.length_set]; omega)
            clear hE x0 x2 x3 x4 x5 he0 hse
            have p1 : (0 : Int) ≤ (i : Int) := by omega
            have p2 : (i : Int) < (l.length : Int) := by omega
            go_wp2_with fail
            go_meet
            case rel => exact ⟨_, HS.out, MS.out.lenE⟩
        case rest =>
          obtain ⟨l2, hl2, hM2⟩ := hcut
          have hM3 := hid hM2
          clear hM2 M5
          have M := hid (hM3.out)
          obtain ⟨d0, d1⟩ := M.out.cells
          have R1 := M.out.r1
          obtain ⟨al2, kl2, rfl⟩ := ownB_form M.out.ol
          have p0 : wc.cell? ⟨w.heap.size, 0, none⟩ = some (.slice none 0 0) := by rw [Lib.cell_of_heap R1]; rfl
          have p1 : wc.cell? ⟨w.heap.size, 1, none⟩ = some (.slice none 0 0) := by rw [Lib.cell_of_heap R1]; rfl
          have pf : ∀ j, wc.frozen? ⟨w.heap.size, j, none⟩ = false := fun j => Lib.frozen_of_heap R1 j
          have SD := hid M.out.fin
          have ends := blk_set (i := 1) (blk_set (i := 0) R1 (.slice a1 ss.length k1)) (.slice a2 fs.length k2)
          clear R1
          have f0 : ((wc.setCell ⟨w.heap.size, 0, none⟩ (.slice a1 ss.length k1)).setCell ⟨w.heap.size, 1, none⟩ (.slice a2 fs.length k2)).cell? ⟨w.heap.size, 0, none⟩ = some (.slice a1 ss.length k1) := by rw [Lib.cell_of_heap ends]; rfl
          have f1 : ((wc.setCell ⟨w.heap.size, 0, none⟩ (.slice a1 ss.length k1)).setCell ⟨w.heap.size, 1, none⟩ (.slice a2 fs.length k2)).cell? ⟨w.heap.size, 1, none⟩ = some (.slice a2 fs.length k2) := by rw [Lib.cell_of_heap ends]; rfl
          clear ends M
          go_wp2
          exact bodyPost_ret (v := .tuple #[.agg #[.slice a1 ss.length k1, .slice a2 fs.length k2], .slice al2 l2.length kl2]) (by simp [results, Tryz.results20, go_sem, f0, f1]) rfl ⟨_, _, _, _, _, l2, rfl, by omega, SD.out⟩
      | false =>
        have M := hid (M5.out)
        obtain ⟨d0, d1⟩ := M.out.cells
        have R1 := M.out.r1
        have p0 : W5.cell? ⟨w.heap.size, 0, none⟩ = some (.slice none 0 0) := by rw [Lib.cell_of_heap R1]; rfl
        have p1 : W5.cell? ⟨w.heap.size, 1, none⟩ = some (.slice none 0 0) := by rw [Lib.cell_of_heap R1]; rfl
        have pf : ∀ j, W5.frozen? ⟨w.heap.size, j, none⟩ = false := fun j => Lib.frozen_of_heap R1 j
        have SD := hid M.out.fin
        have ends := blk_set (i := 1) (blk_set (i := 0) R1 (.slice a1 ss.length k1)) (.slice a2 fs.length k2)
        clear R1
        have f0 : ((W5.setCell ⟨w.heap.size, 0, none⟩ (.slice a1 ss.length k1)).setCell ⟨w.heap.size, 1, none⟩ (.slice a2 fs.length k2)).cell? ⟨w.heap.size, 0, none⟩ = some (.slice a1 ss.length k1) := by rw [Lib.cell_of_heap ends]; rfl
        have f1 : ((W5.setCell ⟨w.heap.size, 0, none⟩ (.slice a1 ss.length k1)).setCell ⟨w.heap.size, 1, none⟩ (.slice a2 fs.length k2)).cell? ⟨w.heap.size, 1, none⟩ = some (.slice a2 fs.length k2) := by rw [Lib.cell_of_heap ends]; rfl
        clear ends M
        go_wp2
        exact bodyPost_ret (v := .tuple #[.agg #[.slice a1 ss.length k1, .slice a2 fs.length k2], .slice al l.length kl]) (by simp [results, Tryz.results20, go_sem, f0, f1]) rfl ⟨_, _, _, _, _, l, rfl, by omega, SD.out⟩
    · have hd0 : decide ((l.length : Int) > 0) = false := decide_eq_false (by omega)
      cases c20 with
      | true =>
        have M := hid (M5.out)
        obtain ⟨d0, d1⟩ := M.out.cells
        have R1 := M.out.r1
        have p0 : W5.cell? ⟨w.heap.size, 0, none⟩ = some (.slice none 0 0) := by rw [Lib.cell_of_heap R1]; rfl
        have p1 : W5.cell? ⟨w.heap.size, 1, none⟩ = some (.slice none 0 0) := by rw [Lib.cell_of_heap R1]; rfl
        have pf : ∀ j, W5.frozen? ⟨w.heap.size, j, none⟩ = false := fun j => Lib.frozen_of_heap R1 j
        have SD := hid M.out.fin
        have ends := blk_set (i := 1) (blk_set (i := 0) R1 (.slice a1 ss.length k1)) (.slice a2 fs.length k2)
        clear R1
        have f0 : ((W5.setCell ⟨w.heap.size, 0, none⟩ (.slice a1 ss.length k1)).setCell ⟨w.heap.size, 1, none⟩ (.slice a2 fs.length k2)).cell? ⟨w.heap.size, 0, none⟩ = some (.slice a1 ss.length k1) := by rw [Lib.cell_of_heap ends]; rfl
        have f1 : ((W5.setCell ⟨w.heap.size, 0, none⟩ (.slice a1 ss.length k1)).setCell ⟨w.heap.size, 1, none⟩ (.slice a2 fs.length k2)).cell? ⟨w.heap.size, 1, none⟩ = some (.slice a2 fs.length k2) := by rw [Lib.cell_of_heap ends]; rfl
        clear ends M
        go_wp2
        exact bodyPost_ret (v := .tuple #[.agg #[.slice a1 ss.length k1, .slice a2 fs.length k2], .slice al l.length kl]) (by simp [results, Tryz.results20, go_sem, f0, f1]) rfl ⟨_, _, _, _, _, l, rfl, by omega, SD.out⟩
      | false =>
        have M := hid (M5.out)
        obtain ⟨d0, d1⟩ := M.out.cells
        have R1 := M.out.r1
        have p0 : W5.cell? ⟨w.heap.size, 0, none⟩ = some (.slice none 0 0) := by rw [Lib.cell_of_heap R1]; rfl
        have p1 : W5.cell? ⟨w.heap.size, 1, none⟩ = some (.slice none 0 0) := by rw [Lib.cell_of_heap R1]; rfl
        have pf : ∀ j, W5.frozen? ⟨w.heap.size, j, none⟩ = false := fun j => Lib.frozen_of_heap R1 j
        have SD := hid M.out.fin
        have ends := blk_set (i := 1) (blk_set (i := 0) R1 (.slice a1 ss.length k1)) (.slice a2 fs.length k2)
        clear R1
        have f0 : ((W5.setCell ⟨w.heap.size, 0, none⟩ (.slice a1 ss.length k1)).setCell ⟨w.heap.size, 1, none⟩ (.slice a2 fs.length k2)).cell? ⟨w.heap.size, 0, none⟩ = some (.slice a1 ss.length k1) := by rw [Lib.cell_of_heap ends]; rfl
        have f1 : ((W5.setCell ⟨w.heap.size, 0, none⟩ (.slice a1 ss.length k1)).setCell ⟨w.heap.size, 1, none⟩ (.slice a2 fs.length k2)).cell? ⟨w.heap.size, 1, none⟩ = some (.slice a2 fs.length k2) := by rw [Lib.cell_of_heap ends]; rfl
        clear ends M
        go_wp2
        exact bodyPost_ret (v := .tuple #[.agg #[.slice a1 ss.length k1, .slice a2 fs.length k2], .slice al l.length kl]) (by simp [results, Tryz.results20, go_sem, f0, f1]) rfl ⟨_, _, _, _, _, l, rfl, by omega, SD.out⟩
end Go.Proofs.YthggcdadipjiiaaGreatDoor
