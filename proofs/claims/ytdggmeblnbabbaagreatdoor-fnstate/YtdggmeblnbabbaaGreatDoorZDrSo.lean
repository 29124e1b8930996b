/-
  Draws: what spec.DrawStateOf answers: a Def and events, few and small: a contract over the seat's program.
-/
import Derived.Test.YtdggmeblnbabbaaGreatDoorZStGo
import Derived.Test.YtdggmeblnbabbaaGreatDoorZDrNx
import Derived.Test.YtdggmeblnbabbaaGreatDoorZDrD1
import Derived.Test.YtdggmeblnbabbaaGreatDoorZSpStS
import Derived.Deep.CutBlock
namespace Go.Proofs.YtdggmeblnbabbaaGreatDoor
open Go.RowKit Go.Sort
set_option linter.unusedVariables false

theorem Tryz.infoEvO : (Tryz.prog.info? 31).map (fun i => (i.zero, i.size, i.bytes)) = some (some (.agg #[.int .i64 0, .int .i64 0, .int .i64 0, .int .i64 0, .string ⟨#[]⟩, .string ⟨#[]⟩]), 6, 64) := by kernel_rfl
theorem own_made' (w : World) (T : TypeId) : (w.alloc (.cells #[] T)).ownsRow w.heap.size T 6 (.slice (some ⟨w.heap.size, 0, none⟩) 0 0) 0 [] :=
  ⟨rfl, .inr ⟨w.heap.size, 0, #[], rfl, Nat.le_refl _, by show (w.heap.push (Obj.cells #[] T))[w.heap.size]? = some _; simp, Nat.le_refl _, Nat.zero_le _, rfl, rfl⟩⟩
theorem MdO.start {w W0 W1 W2 : World} {b n : Nat} {V u1 u2 : Value} {ss : List ByteArray} {fs : List Pr} (hb0 : Below w.heap.size w W0) (hs0 : W0.heap.size = w.heap.size + 1)
    (r1 : W0.heap[w.heap.size]? = some (.cells [.slice none 0 0, .slice none 0 0].toArray 26 (0, 0)))
    (hbb : w.heap.size + 1 ≤ b) (hB1 : Below W0.heap.size W0 W1) (h : DfDr W1 W2 b n V u1 u2 ss fs) (hf : ∀ g o c, V = .slice (some ⟨g, o, none⟩) n c → 0 < n → g < w.heap.size) (hbW : b < W1.heap.size) :
    MdO w (((W2.alloc (.cells [u1, u2].toArray 26)).alloc (.cells #[] 31)).alloc (.cells [.int .i64 0, .int .i64 0, .int .i64 0, .slice none 0 0, .slice none 0 0, .slice none 0 0, .int .i64 0].toArray 29)) b W1.heap.size W2.heap.size (W2.heap.size + 1 + 1) n V u1 u2 (.slice none 0 0) (.slice none 0 0) (.slice none 0 0) (.slice (some ⟨W2.heap.size + 1, 0, none⟩) 0 0) ss fs z0 [] := by
  have g1 : W0.grownBy W2 (some b) := grown_trans (grown_below hB1) h.gr
  have kp : ∀ k o, W0.heap[k]? = some o → W2.heap[k]? = some o := fun k o hk => by
    have := lt_heap hk
    exact (g1.block k this (by simp; omega)).trans hk
  have hB : Below W2.heap.size W2 (((W2.alloc (.cells [u1, u2].toArray 26)).alloc (.cells #[] 31)).alloc (.cells [.int .i64 0, .int .i64 0, .int .i64 0, .slice none 0 0, .slice none 0 0, .slice none 0 0, .int .i64 0].toArray 29)) := (((Below.refl _ _).alloc (Nat.le_refl _) _).alloc (by simp) _).alloc (by simp; omega) _
  have q2 := heap_alloc_new ((W2.alloc (.cells [u1, u2].toArray 26)).alloc (.cells #[] 31)) (.cells [.int .i64 0, .int .i64 0, .int .i64 0, .slice none 0 0, .slice none 0 0, .slice none 0 0, .int .i64 0].toArray 29)
  rw [show ((W2.alloc (.cells [u1, u2].toArray 26)).alloc (.cells #[] 31)).heap.size = W2.heap.size + 2 by simp] at q2
  have qe := own_made' (W2.alloc (.cells [u1, u2].toArray 26)) 31
  rw [show (W2.alloc (.cells [u1, u2].toArray 26)).heap.size = W2.heap.size + 1 by simp] at qe
  have hz := h.gr.size
  refine ⟨h.dr.below hB, (Below.heap_alloc _ _ _ (by simp; omega)).trans ((Below.heap_alloc _ _ _ (by simp)).trans (heap_alloc_new W2 _)), q2, (hB.block _ (lt_heap (kp _ _ r1))).trans (kp _ _ r1), ownB_stay h.o1 hB, ownB_stay h.o2 hB, StOwn.none _ _, ownB_stay (ownB_le qe (by omega)) ((Below.refl _ _).alloc (Nat.le_refl _) _), ?_, by omega, hbW, by omega, by omega, h.len, h.sh, smS_of h.sh (.inl ⟨rfl, by constructor <;> rfl⟩), hf, fun e he => by cases he⟩
  have g2 : w.grownBy W2 none := ⟨g1.os.trans hb0.os, g1.tape.trans hb0.tape, g1.output.trans hb0.output, Nat.le_trans hb0.size g1.size, fun k hk _ => (g1.block k (Nat.lt_of_lt_of_le hk hb0.size) (by simp; omega)).trans (hb0.block k hk)⟩
  exact Below.trans ⟨g2.os, g2.tape, g2.output, g2.size, fun k hk => g2.block k hk (by simp)⟩ (hB.mono g2.size)
set_option maxHeartbeats 4000000 in
set_option maxRecDepth 100000 in
theorem drawStateOf_any (V : Value) (n : Nat) (w : World) (h : Bs w V n) :
    Calls Tryz.prog 12 #[V] w fun e w' => ∃ u1 u2 v ss fs l, e = .returned (.tuple #[.agg #[u1, u2], v]) ∧ l.length ≤ 22 ∧ SoDr w w' u1 u2 v ss fs l := by
  obtain ⟨i0, hi, hz0, hz1, hz2⟩ := info_parts Tryz.infoEvO
  have hb0 : Below w.heap.size w (w.alloc (.cells [.slice none 0 0, .slice none 0 0].toArray 26)) := ((Below.refl _ _).alloc (Nat.le_refl _) _)
  have cS := hid (source_any V n _ (h.stay9 hb0))
  have HF := hid h.fars
  have HB0 := hid hb0
  have HS0 : Hid ((w.alloc (.cells [.slice none 0 0, .slice none 0 0].toArray 26)).heap.size = w.heap.size + 1) := hid (by simp)
  have HR := hid (heap_alloc_new w (.cells [.slice none 0 0, .slice none 0 0].toArray 26))
  clear h hb0
  go_enter Tryz.func12, Tryz.ntmps12
  go_wp2_with fail
  refine cS.out.mono ?_
  rintro e W1 ⟨b, rfl, hbb, hD, hB1⟩
  rw [HS0.out] at hbb
  have cN := hid (fun most w h h2 => srcN_any b n V most w h h2)
  have cO := hid (fun most w h h2 => one_any b n V most w h h2)
  have HD := hid hD
  have HB1 := hid hB1
  clear hD hB1 cS
  go_wp2_with fail
  refine (drawDef_any b n V _ HD.out).mono ?_
  rintro e W2 ⟨u1, u2, ss, fs, rfl, hT⟩
  obtain ⟨a1, k1, rfl⟩ := ownB_form hT.o1
  obtain ⟨a2, k2, rfl⟩ := ownB_form hT.o2
  have M := hid (MdO.start HB0.out HS0.out HR.out hbb HB1.out hT HF.out HD.out.src.lt)
  clear HB0 HR HB1 HD hT HS0
  go_upto_region 5 with fail
  have M2 : Hid (MdO w (((W2.alloc (.cells [.slice a1 ss.length k1, .slice a2 fs.length k2].toArray 26)).alloc (.cells #[] 31)).alloc (.cells [.int .i64 0, .int .i64 0, .int .i64 0, .slice none 0 0, .slice none 0 0, .slice none 0 0, .int .i64 0].toArray 29)) b W1.heap.size W2.heap.size (W2.heap.size + 1 + 1) n V (.slice a1 ss.length k1) (.slice a2 fs.length k2) (.slice none 0 0) (.slice none 0 0) (.slice none 0 0) (.slice (some ⟨W2.heap.size + 1, 0, none⟩) 0 0) ss fs z0 []) := M
  clear M
  have M := M2
  clear M2
  generalize (((W2.alloc (.cells [.slice a1 ss.length k1, .slice a2 fs.length k2].toArray 26)).alloc (.cells #[] 31)).alloc (.cells [.int .i64 0, .int .i64 0, .int .i64 0, .slice none 0 0, .slice none 0 0, .slice none 0 0, .int .i64 0].toArray 29)) = W3 at *
  generalize W2.heap.size = gd at *
  generalize W1.heap.size = lo at *
  have F1 := hid (show ∀ i, (h : i < ss.length) → ss[i].size ≤ maxLen from fun i h => by have := M.out.sh.1 _ (List.getElem_mem h); unfold maxLen; omega)
  have N1 : ss.length ≤ maxLen := by have := M.out.len; unfold maxLen; omega
  have N2 : fs.length ≤ maxLen := by have := M.out.len; unfold maxLen; omega
  obtain ⟨at0, mx, size, _, _, _, hsz, hb3⟩ := M.out.dr.src
  have e3 : W3.cell? ⟨b, 3, none⟩ = some (.int .i64 size) := by rw [Lib.cell_of_heap hb3]; rfl
  obtain ⟨s0, s1⟩ := hsz
  clear hb3
  go_wp2_with fail
  refine (cN.out (10 + size) _ M.out.dr (by omega)).mono ?_
  rintro e W4 ⟨r1, rfl, ⟨l1, v1, v1'⟩, hd1, hg1⟩
  have v1 := v1 (by omega)
  have M4 := hid (M.out.call hd1 hg1)
  clear hd1 hg1 M v1' e3
  go_upto_block 0 with fail
  go_cut [6] from 24 to 54 (fun v wx => ∃ u3 u4 u5 S l, l.length ≤ 22 ∧ MdO w wx b lo gd (gd + 1 + 1) n V (.slice a1 ss.length k1) (.slice a2 fs.length k2) u3 u4 u5 v ss fs S l)
  case first =>
    go_wp2_with fail
    go_loopw [6, 8] (fun v kv wr => ∃ (k : Int) (u3 u4 u5 : Value) (S : St) (l : List Ev), kv = .int .i64 k ∧ 0 ≤ k ∧ (l.length : Int) + k ≤ 22 ∧ StP ss S ∧ MdO w wr b lo gd (gd + 1 + 1) n V (.slice a1 ss.length k1) (.slice a2 fs.length k2) u3 u4 u5 v ss fs S l) (fun _ kv _ => (intOf kv).toNat)
    case atStart => exact ⟨r1, _, _, _, _, [], rfl, by omega, by simp; omega, .inl ⟨rfl, by constructor <;> rfl⟩, M4.out⟩
    case round =>
      obtain ⟨k, u3, u4, u5, S, l, rfl, hk0, hk1, hP, hM⟩ := hrel
      have HP := hid hP
      clear hP M4
      obtain ⟨a3, a4, a5, k3, k4, k5, rfl, rfl, rfl⟩ := hM.os.forms
      obtain ⟨al, kl, rfl⟩ := ownB_form hM.ol
      have M := hid hM
      clear hM
      obtain ⟨⟨d0, d1⟩, ⟨y0, y1, y2, y3, y4, y5, y6⟩, yf⟩ := M.out.cells
      by_cases hk : 0 < k
      · have c := specDefRight_any a1 a2 k1 k2 ss fs wr (str_of_own M.out.o1) (pr_of_own M.out.o2) F1.out N1 N2
        by_cases D : DefP ss fs
        · replace c := calls_yes c D
          go_wp2_with fail
          refine c.mono ?_
          rintro e W5 ⟨rfl, hb5⟩
          have M5 := hid (M.out.below hb5)
          clear hb5 c M d0 d1 y0 y1 y2 y3 y4 y5 y6 yf
          have HD := hid D
          clear D
          obtain ⟨⟨d0, d1⟩, ⟨y0, y1, y2, y3, y4, y5, y6⟩, yf⟩ := M5.out.cells
          go_wp2_with fail
          refine (nextS_any M5.out.dr M5.out.os M5.out.sm M5.out.l2 1 1).mono ?_
          rintro e W6 ⟨⟨q0, q1, q2, q3, q4, q5⟩, hx, z1, z2, hd6, hg6⟩
          replace hx : e = .returned (.agg #[.int .i64 q0, .int .i64 q1, .int .i64 q2, .int .i64 q3, .string q4, .string q5]) := hx
          subst hx
          have M6 := hid ((M5.out.call hd6 hg6).alloc (.cells [.int .i64 q0, .int .i64 q1, .int .i64 q2, .int .i64 q3, .string q4, .string q5].toArray 31))
          have hE6 := heap_alloc_new W6 (.cells [.int .i64 q0, .int .i64 q1, .int .i64 q2, .int .i64 q3, .string q4, .string q5].toArray 31)
          clear hd6 hg6 M5 d0 d1 y0 y1 y2 y3 y4 y5 y6 yf
          obtain ⟨⟨d0, d1⟩, ⟨y0, y1, y2, y3, y4, y5, y6⟩, yf⟩ := M6.out.cells
          have x0 : (W6.alloc (.cells [.int .i64 q0, .int .i64 q1, .int .i64 q2, .int .i64 q3, .string q4, .string q5].toArray 31)).cell? ⟨W6.heap.size, 0, none⟩ = some (.int .i64 q0) := by rw [Lib.cell_of_heap hE6]; rfl
          have x1 : (W6.alloc (.cells [.int .i64 q0, .int .i64 q1, .int .i64 q2, .int .i64 q3, .string q4, .string q5].toArray 31)).cell? ⟨W6.heap.size, 1, none⟩ = some (.int .i64 q1) := by rw [Lib.cell_of_heap hE6]; rfl
          have x2 : (W6.alloc (.cells [.int .i64 q0, .int .i64 q1, .int .i64 q2, .int .i64 q3, .string q4, .string q5].toArray 31)).cell? ⟨W6.heap.size, 2, none⟩ = some (.int .i64 q2) := by rw [Lib.cell_of_heap hE6]; rfl
          have x3 : (W6.alloc (.cells [.int .i64 q0, .int .i64 q1, .int .i64 q2, .int .i64 q3, .string q4, .string q5].toArray 31)).cell? ⟨W6.heap.size, 3, none⟩ = some (.int .i64 q3) := by rw [Lib.cell_of_heap hE6]; rfl
          have x4 : (W6.alloc (.cells [.int .i64 q0, .int .i64 q1, .int .i64 q2, .int .i64 q3, .string q4, .string q5].toArray 31)).cell? ⟨W6.heap.size, 4, none⟩ = some (.string q4) := by rw [Lib.cell_of_heap hE6]; rfl
          have x5 : (W6.alloc (.cells [.int .i64 q0, .int .i64 q1, .int .i64 q2, .int .i64 q3, .string q4, .string q5].toArray 31)).cell? ⟨W6.heap.size, 5, none⟩ = some (.string q5) := by rw [Lib.cell_of_heap hE6]; rfl
          go_upto_region 9 with fail
          have HE6 := hid hE6
          clear hE6
          generalize W6.alloc (.cells [.int .i64 q0, .int .i64 q1, .int .i64 q2, .int .i64 q3, .string q4, .string q5].toArray 31) = W7 at *
          generalize W6.heap.size = ge at *
          go_wp2_with fail
          refine (M6.out.step HD.out HP.out ⟨q0, q1, q2, q3, q4, q5⟩ z1).mono ?_
          rintro e W8 ⟨c, v3, v4, v5, T, hx, hO, hT, hb8⟩
          obtain ⟨b3, b4, b5, j3, j4, j5, rfl, rfl, rfl⟩ := hO.forms
          replace hx : e = .returned (.agg #[.int .i64 T.status, .int .i64 T.begun, .int .i64 T.last, .slice b3 T.wait.length j3, .slice b4 T.busy.length j4, .slice b5 T.vars.length j5, .int .i64 T.faults, .int .i64 c]) := hx
          subst hx
          have hb9 : Below W7.heap.size W7 (W8.alloc (.cells [.int .i64 T.status, .int .i64 T.begun, .int .i64 T.last, .slice b3 T.wait.length j3, .slice b4 T.busy.length j4, .slice b5 T.vars.length j5, .int .i64 T.faults, .int .i64 c].toArray 35)) := hb8.trans ((Below.refl _ _).alloc hb8.size _)
          have M9 := hid (M6.out.below hb9)
          have O9 := hid (hO.stay ((Below.refl _ _).alloc (Nat.le_refl _) (.cells [.int .i64 T.status, .int .i64 T.begun, .int .i64 T.last, .slice b3 T.wait.length j3, .slice b4 T.busy.length j4, .slice b5 T.vars.length j5, .int .i64 T.faults, .int .i64 c].toArray 35)))
          have hE9 := (hb9.block _ (lt_heap HE6.out)).trans HE6.out
          have hY9 := heap_alloc_new W8 (.cells [.int .i64 T.status, .int .i64 T.begun, .int .i64 T.last, .slice b3 T.wait.length j3, .slice b4 T.busy.length j4, .slice b5 T.vars.length j5, .int .i64 T.faults, .int .i64 c].toArray 35)
          have HT := hid hT
          clear hb8 hb9 hO hT M6 HE6 d0 d1 y0 y1 y2 y3 y4 y5 y6 yf x0 x1 x2 x3 x4 x5
          obtain ⟨⟨d0, d1⟩, ⟨y0, y1, y2, y3, y4, y5, y6⟩, yf⟩ := M9.out.cells
          have x0 : (W8.alloc (.cells [.int .i64 T.status, .int .i64 T.begun, .int .i64 T.last, .slice b3 T.wait.length j3, .slice b4 T.busy.length j4, .slice b5 T.vars.length j5, .int .i64 T.faults, .int .i64 c].toArray 35)).cell? ⟨ge, 0, none⟩ = some (.int .i64 q0) := by rw [Lib.cell_of_heap hE9]; rfl
          have x1 : (W8.alloc (.cells [.int .i64 T.status, .int .i64 T.begun, .int .i64 T.last, .slice b3 T.wait.length j3, .slice b4 T.busy.length j4, .slice b5 T.vars.length j5, .int .i64 T.faults, .int .i64 c].toArray 35)).cell? ⟨ge, 1, none⟩ = some (.int .i64 q1) := by rw [Lib.cell_of_heap hE9]; rfl
          have x2 : (W8.alloc (.cells [.int .i64 T.status, .int .i64 T.begun, .int .i64 T.last, .slice b3 T.wait.length j3, .slice b4 T.busy.length j4, .slice b5 T.vars.length j5, .int .i64 T.faults, .int .i64 c].toArray 35)).cell? ⟨ge, 2, none⟩ = some (.int .i64 q2) := by rw [Lib.cell_of_heap hE9]; rfl
          have x3 : (W8.alloc (.cells [.int .i64 T.status, .int .i64 T.begun, .int .i64 T.last, .slice b3 T.wait.length j3, .slice b4 T.busy.length j4, .slice b5 T.vars.length j5, .int .i64 T.faults, .int .i64 c].toArray 35)).cell? ⟨ge, 3, none⟩ = some (.int .i64 q3) := by rw [Lib.cell_of_heap hE9]; rfl
          have x4 : (W8.alloc (.cells [.int .i64 T.status, .int .i64 T.begun, .int .i64 T.last, .slice b3 T.wait.length j3, .slice b4 T.busy.length j4, .slice b5 T.vars.length j5, .int .i64 T.faults, .int .i64 c].toArray 35)).cell? ⟨ge, 4, none⟩ = some (.string q4) := by rw [Lib.cell_of_heap hE9]; rfl
          have x5 : (W8.alloc (.cells [.int .i64 T.status, .int .i64 T.begun, .int .i64 T.last, .slice b3 T.wait.length j3, .slice b4 T.busy.length j4, .slice b5 T.vars.length j5, .int .i64 T.faults, .int .i64 c].toArray 35)).cell? ⟨ge, 5, none⟩ = some (.string q5) := by rw [Lib.cell_of_heap hE9]; rfl
          have t0 : (W8.alloc (.cells [.int .i64 T.status, .int .i64 T.begun, .int .i64 T.last, .slice b3 T.wait.length j3, .slice b4 T.busy.length j4, .slice b5 T.vars.length j5, .int .i64 T.faults, .int .i64 c].toArray 35)).cell? ⟨W8.heap.size, 0, none⟩ = some (.int .i64 T.status) := by rw [Lib.cell_of_heap hY9]; rfl
          have t1 : (W8.alloc (.cells [.int .i64 T.status, .int .i64 T.begun, .int .i64 T.last, .slice b3 T.wait.length j3, .slice b4 T.busy.length j4, .slice b5 T.vars.length j5, .int .i64 T.faults, .int .i64 c].toArray 35)).cell? ⟨W8.heap.size, 1, none⟩ = some (.int .i64 T.begun) := by rw [Lib.cell_of_heap hY9]; rfl
          have t2 : (W8.alloc (.cells [.int .i64 T.status, .int .i64 T.begun, .int .i64 T.last, .slice b3 T.wait.length j3, .slice b4 T.busy.length j4, .slice b5 T.vars.length j5, .int .i64 T.faults, .int .i64 c].toArray 35)).cell? ⟨W8.heap.size, 2, none⟩ = some (.int .i64 T.last) := by rw [Lib.cell_of_heap hY9]; rfl
          have t3 : (W8.alloc (.cells [.int .i64 T.status, .int .i64 T.begun, .int .i64 T.last, .slice b3 T.wait.length j3, .slice b4 T.busy.length j4, .slice b5 T.vars.length j5, .int .i64 T.faults, .int .i64 c].toArray 35)).cell? ⟨W8.heap.size, 3, none⟩ = some (.slice b3 T.wait.length j3) := by rw [Lib.cell_of_heap hY9]; rfl
          have t4 : (W8.alloc (.cells [.int .i64 T.status, .int .i64 T.begun, .int .i64 T.last, .slice b3 T.wait.length j3, .slice b4 T.busy.length j4, .slice b5 T.vars.length j5, .int .i64 T.faults, .int .i64 c].toArray 35)).cell? ⟨W8.heap.size, 4, none⟩ = some (.slice b4 T.busy.length j4) := by rw [Lib.cell_of_heap hY9]; rfl
          have t5 : (W8.alloc (.cells [.int .i64 T.status, .int .i64 T.begun, .int .i64 T.last, .slice b3 T.wait.length j3, .slice b4 T.busy.length j4, .slice b5 T.vars.length j5, .int .i64 T.faults, .int .i64 c].toArray 35)).cell? ⟨W8.heap.size, 5, none⟩ = some (.slice b5 T.vars.length j5) := by rw [Lib.cell_of_heap hY9]; rfl
          have t6 : (W8.alloc (.cells [.int .i64 T.status, .int .i64 T.begun, .int .i64 T.last, .slice b3 T.wait.length j3, .slice b4 T.busy.length j4, .slice b5 T.vars.length j5, .int .i64 T.faults, .int .i64 c].toArray 35)).cell? ⟨W8.heap.size, 6, none⟩ = some (.int .i64 T.faults) := by rw [Lib.cell_of_heap hY9]; rfl
          have t7 : (W8.alloc (.cells [.int .i64 T.status, .int .i64 T.begun, .int .i64 T.last, .slice b3 T.wait.length j3, .slice b4 T.busy.length j4, .slice b5 T.vars.length j5, .int .i64 T.faults, .int .i64 c].toArray 35)).cell? ⟨W8.heap.size, 7, none⟩ = some (.int .i64 c) := by rw [Lib.cell_of_heap hY9]; rfl
          have hnx : ∀ k, k < W8.heap.size → k ≠ W8.heap.size := fun k h => by omega
          have HE9 := hid hE9
          have HY9 := hid hY9
          clear hE9 hY9 hnx
          go_upto_region 10 with fail
          generalize W8.alloc (.cells [.int .i64 T.status, .int .i64 T.begun, .int .i64 T.last, .slice b3 T.wait.length j3, .slice b4 T.busy.length j4, .slice b5 T.vars.length j5, .int .i64 T.faults, .int .i64 c].toArray 35) = W9 at *
          generalize W8.heap.size = gy at *
          have ny : gd + 1 + 1 ≠ gy := ne_blocks M9.out.hs HY9.out (by decide)
          have ny2 : gy ≠ gd + 1 + 1 := fun e => ny e.symm
          have ne1 : gd + 1 + 1 ≠ ge := ne_blocks M9.out.hs HE9.out (by decide)
          have ne2 : ge ≠ gd + 1 + 1 := fun e => ne1 e.symm
          by_cases hc9 : c = 0
          · have hT0 := hid (HT.out hc9)
            subst hc9
            go_upto_region 12 with fail
            have MS := hid (M9.out.putS O9.out (smS_of M9.out.sh hT0.out))
            have hcS : Chg (fun j => j = gd + 1 + 1) W9 (((((((W9.setCell ⟨gd + 1 + 1, 0, none⟩ (.int .i64 T.status)).setCell ⟨gd + 1 + 1, 1, none⟩ (.int .i64 T.begun)).setCell ⟨gd + 1 + 1, 2, none⟩ (.int .i64 T.last)).setCell ⟨gd + 1 + 1, 3, none⟩ (.slice b3 T.wait.length j3)).setCell ⟨gd + 1 + 1, 4, none⟩ (.slice b4 T.busy.length j4)).setCell ⟨gd + 1 + 1, 5, none⟩ (.slice b5 T.vars.length j5)).setCell ⟨gd + 1 + 1, 6, none⟩ (.int .i64 T.faults)) := (((((((Chg.refl _ _).seq _ _).seq _ _).seq _ _).seq _ _).seq _ _).seq _ _).seq _ _
            have hES := (hcS.block _ (lt_heap HE9.out) ne2).trans HE9.out
            have hYS := (hcS.block _ (lt_heap HY9.out) ny2).trans HY9.out
            clear hcS M9 O9 HE9 HY9 HT HP d0 d1 y0 y1 y2 y3 y4 y5 y6 yf x0 x1 x2 x3 x4 x5 t0 t1 t2 t3 t4 t5 t6 t7
            generalize (((((((W9.setCell ⟨gd + 1 + 1, 0, none⟩ (.int .i64 T.status)).setCell ⟨gd + 1 + 1, 1, none⟩ (.int .i64 T.begun)).setCell ⟨gd + 1 + 1, 2, none⟩ (.int .i64 T.last)).setCell ⟨gd + 1 + 1, 3, none⟩ (.slice b3 T.wait.length j3)).setCell ⟨gd + 1 + 1, 4, none⟩ (.slice b4 T.busy.length j4)).setCell ⟨gd + 1 + 1, 5, none⟩ (.slice b5 T.vars.length j5)).setCell ⟨gd + 1 + 1, 6, none⟩ (.int .i64 T.faults)) = WS at *
            have x0 : WS.cell? ⟨ge, 0, none⟩ = some (.int .i64 q0) := by rw [Lib.cell_of_heap hES]; rfl
            have x1 : WS.cell? ⟨ge, 1, none⟩ = some (.int .i64 q1) := by rw [Lib.cell_of_heap hES]; rfl
            have x2 : WS.cell? ⟨ge, 2, none⟩ = some (.int .i64 q2) := by rw [Lib.cell_of_heap hES]; rfl
            have x3 : WS.cell? ⟨ge, 3, none⟩ = some (.int .i64 q3) := by rw [Lib.cell_of_heap hES]; rfl
            have x4 : WS.cell? ⟨ge, 4, none⟩ = some (.string q4) := by rw [Lib.cell_of_heap hES]; rfl
            have x5 : WS.cell? ⟨ge, 5, none⟩ = some (.string q5) := by rw [Lib.cell_of_heap hES]; rfl
            have t7 : WS.cell? ⟨gy, 7, none⟩ = some (.int .i64 0) := by rw [Lib.cell_of_heap hYS]; rfl
            clear hES hYS
            have MA := hid (MS.out.alloc (.cells [.int .i64 q0, .int .i64 q1, .int .i64 q2, .int .i64 q3, .string q4, .string q5].toArray 31))
            have NW := World.news_of_block (heap_alloc_new WS (.cells [.int .i64 q0, .int .i64 q1, .int .i64 q2, .int .i64 q3, .string q4, .string q5].toArray 31))
            go_wp2_with (at_builtin; refine wpList_append_own _ rfl _ _ 42 rfl lo 31 i0 _ 6 64 Tryz.underlying42 hi hz0 hz1 hz2 rfl (by decide) _ _ _ rfl MA.out.ol ⟨WS.heap.size, 0, none⟩ 1 1 [.int .i64 q0, .int .i64 q1, .int .i64 q2, .int .i64 q3, .string q4, .string q5] rfl rfl NW ?c1 ?c2 ?c3 ?c4 ?_)
            case c1 => first | exact ⟨rfl, rfl, rfl, rfl, rfl, rfl⟩ | (intro u hu; simp at hu; rcases hu with h | h | h | h | h | h <;> (subst h; rfl))
            case c2 => unfold maxLen; omega
            case c3 => omega
            case c4 => have h1 := lt_heap MA.out.hd; have h2 := MA.out.l3; have h3 := lt_heap MS.out.hd; first | omega | (simp; omega)
            intro v' W5 ho hg _
            have MB := hid (MA.out.app ⟨q0, q1, q2, q3, q4, q5⟩ ⟨z1, z2⟩ ho hg)
            clear ho hg MA NW MS
            go_wp2
            go_roundw
            case rel => exact ⟨k - 1, _, _, _, T, l ++ [⟨q0, q1, q2, q3, q4, q5⟩], by go_num, by omega, by simp; omega, hT0.out, MB.out⟩
            case measure => simp [intOf]; omega
          · have b0 : (c == 0) = false := by simp [hc9]
            clear O9 HT
            go_wp2_with fail
            refine (cO.out 30 _ M9.out.dr (by decide)).mono ?_
            rintro e WA ⟨c30, rfl, hdA, hgA⟩
            have MS := hid (M9.out.call hdA hgA)
            obtain ⟨_, _, _, _, _, _, _, hsb⟩ := M9.out.dr.src
            have neb := ne_blocks HE9.out hsb (by decide)
            have hES := (hgA.block _ (lt_heap HE9.out) (by simp; exact neb)).trans HE9.out
            clear hdA hgA hsb neb M9 HE9 HY9 d0 d1 y0 y1 y2 y3 y4 y5 y6 yf x0 x1 x2 x3 x4 x5 t0 t1 t2 t3 t4 t5 t6 t7
            have x0 : WA.cell? ⟨ge, 0, none⟩ = some (.int .i64 q0) := by rw [Lib.cell_of_heap hES]; rfl
            have x1 : WA.cell? ⟨ge, 1, none⟩ = some (.int .i64 q1) := by rw [Lib.cell_of_heap hES]; rfl
            have x2 : WA.cell? ⟨ge, 2, none⟩ = some (.int .i64 q2) := by rw [Lib.cell_of_heap hES]; rfl
            have x3 : WA.cell? ⟨ge, 3, none⟩ = some (.int .i64 q3) := by rw [Lib.cell_of_heap hES]; rfl
            have x4 : WA.cell? ⟨ge, 4, none⟩ = some (.string q4) := by rw [Lib.cell_of_heap hES]; rfl
            have x5 : WA.cell? ⟨ge, 5, none⟩ = some (.string q5) := by rw [Lib.cell_of_heap hES]; rfl
            clear hES
            cases c30 with
            | true =>
              have MA := hid (MS.out.alloc (.cells [.int .i64 q0, .int .i64 q1, .int .i64 q2, .int .i64 q3, .string q4, .string q5].toArray 31))
              have NW := World.news_of_block (heap_alloc_new WA (.cells [.int .i64 q0, .int .i64 q1, .int .i64 q2, .int .i64 q3, .string q4, .string q5].toArray 31))
              go_wp2_with (at_builtin; refine wpList_append_own _ rfl _ _ 42 rfl lo 31 i0 _ 6 64 Tryz.underlying42 hi hz0 hz1 hz2 rfl (by decide) _ _ _ rfl MA.out.ol ⟨WA.heap.size, 0, none⟩ 1 1 [.int .i64 q0, .int .i64 q1, .int .i64 q2, .int .i64 q3, .string q4, .string q5] rfl rfl NW ?c1 ?c2 ?c3 ?c4 ?_)
              case c1 => first | exact ⟨rfl, rfl, rfl, rfl, rfl, rfl⟩ | (intro u hu; simp at hu; rcases hu with h | h | h | h | h | h <;> (subst h; rfl))
              case c2 => unfold maxLen; omega
              case c3 => omega
              case c4 => have h1 := lt_heap MA.out.hd; have h2 := MA.out.l3; have h3 := lt_heap MS.out.hd; first | omega | (simp; omega)
              intro v' W5 ho hg _
              have MB := hid (MA.out.app ⟨q0, q1, q2, q3, q4, q5⟩ ⟨z1, z2⟩ ho hg)
              clear ho hg MA NW MS
              go_wp2
              go_roundw
              case rel => exact ⟨k - 1, _, _, _, S, l ++ [⟨q0, q1, q2, q3, q4, q5⟩], by go_num, by omega, by simp; omega, HP.out, MB.out⟩
              case measure => simp [intOf]; omega
            | false =>
              go_wp2
              go_roundw
              case rel => exact ⟨k - 1, _, _, _, S, l, by go_num, by omega, by omega, HP.out, MS.out⟩
              case measure => simp [intOf]; omega
        · replace c := calls_no c D
          go_wp2_with fail
          refine c.mono ?_
          rintro e W5 ⟨rfl, hb5⟩
          have M5 := hid (M.out.below hb5)
          clear hb5 c M d0 d1 y0 y1 y2 y3 y4 y5 y6 yf
          go_wp2
          go_meet
          case rel => exact ⟨_, _, _, _, l, by omega, M5.out⟩
      · go_wp2
        go_meet
        case rel => exact ⟨_, _, _, _, l, by omega, M.out⟩
  case rest =>
    obtain ⟨u3, u4, u5, S, l, hl, hM⟩ := hcut
    have M := hid hM
    clear hM M4
    obtain ⟨⟨d0, d1⟩, ⟨y0, y1, y2, y3, y4, y5, y6⟩, yf⟩ := M.out.cells
    have R1 := M.out.r1
    have p0 : wc.cell? ⟨w.heap.size, 0, none⟩ = some (.slice none 0 0) := by rw [Lib.cell_of_heap R1]; rfl
    have p1 : wc.cell? ⟨w.heap.size, 1, none⟩ = some (.slice none 0 0) := by rw [Lib.cell_of_heap R1]; rfl
    have pf : ∀ j, wc.frozen? ⟨w.heap.size, j, none⟩ = false := fun j => Lib.frozen_of_heap R1 j
    obtain ⟨al, kl, rfl⟩ := ownB_form M.out.ol
    have HL := hid hl
    clear hl
    have SD := hid M.out.fin
    have ends := blk_set (i := 1) (blk_set (i := 0) R1 (.slice a1 ss.length k1)) (.slice a2 fs.length k2)
    clear R1
    have f0 : ((wc.setCell ⟨w.heap.size, 0, none⟩ (.slice a1 ss.length k1)).setCell ⟨w.heap.size, 1, none⟩ (.slice a2 fs.length k2)).cell? ⟨w.heap.size, 0, none⟩ = some (.slice a1 ss.length k1) := by rw [Lib.cell_of_heap ends]; rfl
    have f1 : ((wc.setCell ⟨w.heap.size, 0, none⟩ (.slice a1 ss.length k1)).setCell ⟨w.heap.size, 1, none⟩ (.slice a2 fs.length k2)).cell? ⟨w.heap.size, 1, none⟩ = some (.slice a2 fs.length k2) := by rw [Lib.cell_of_heap ends]; rfl
    clear ends
    go_wp2
    exact bodyPost_ret (v := .tuple #[.agg #[.slice a1 ss.length k1, .slice a2 fs.length k2], .slice al l.length kl]) (by simp [results, Tryz.results12, go_sem, f0, f1]) rfl ⟨_, _, _, _, _, l, rfl, HL.out, SD.out⟩
end Go.Proofs.YtdggmeblnbabbaaGreatDoor
