/-
  What impl.readRow answers at impl.readEvent, and where the cursor stands behind it: a contract over the seat's program.
-/
import Derived.Test.YticnffakngpkfaaDoorCurP
import Derived.Test.YticnffakngpkfaaDoorOwnRow
namespace Go.Proofs.YticnffakngpkfaaDoor
open Go.RowKit Get

theorem Tryd.infoEvr : (Tryd.prog.info? 32).map (fun i => (i.zero, i.size, i.bytes)) = some (some (.agg #[.int .i64 0, .int .i64 0, .int .i64 0, .int .i64 0, .string ⟨#[]⟩, .string ⟨#[]⟩]), 6, 64) := by kernel_rfl
theorem cur_own {w1 w2 : World} {base size n b : Nat} {e : TypeId} {v : Value} {xs : List Value} {t : ByteArray} {st : Option Nat} (h : CurAt w1 b t st) (hown : w1.ownsRow base e size v n xs) (hb : b < base) (hg : w1.grownBy w2 v.ownBlock) : CurAt w2 b t st :=
  h.of_block (hg.block b h.lt (fun e => by have := (hown.lt b e.symm).1; omega))
set_option maxHeartbeats 1000000 in
set_option maxRecDepth 100000 in
theorem readRow_any (b : Nat) (t : ByteArray) (st : Option Nat) (w : World) (ht : (t.size : Int) ≤ 8000) (h : CurAt w b t st) :
    Calls Tryd.prog 26 #[.pointer (some ⟨b, 0, none⟩), .func (.func 27) #[] #[]] w fun e w' =>
      ∃ v, e = .returned v ∧ w'.ownsRow w.heap.size 32 6 v (rowS t st).1.length ((rowS t st).1.flatMap Ev.cells) ∧ CurAt w' b t (rowS t st).2 ∧ w.grownBy w' (some b) := by
  obtain ⟨i0, hi, hz0, hz1, hz2⟩ := info_parts Tryd.infoEvr
  obtain ⟨⟨n, s1⟩, h1⟩ : ∃ x, numS t st = x := ⟨_, rfl⟩
  obtain ⟨R, hR⟩ : ∃ x, rowS t st = x := ⟨_, rfl⟩
  rw [hR]
  have hRun : Run t R n.toNat [] s1 := by
    refine ⟨by rw [← hR, rowS, h1], by simp, fun a ha => ?_, fun i hi => absurd hi (by simp)⟩
    cases st with
    | none => rw [numS_none] at h1; simp at h1; rw [← h1.2] at ha; cases ha
    | some a0 =>
      have := numS_le ht (a := a0) (a' := a) (by rw [h1, ha])
      simp; omega
  have d1 := hid (fun w h => h1 ▸ curNum_any b t st w ht h)
  have hlt := h.lt
  have H0 := hid h
  have HRun := hid hRun
  clear h1 hR h hRun
  go_enter Tryd.func26, Tryd.ntmps26
  go_wp2_with fail
  refine (d1.out _ H0.out).mono ?_
  rintro e w1 ⟨rfl, k1, g1⟩
  have K1 := hid k1
  have G1 := hid g1
  clear k1 g1 d1 H0
  go_wp2
  go_loopw [5] (fun v wr => ∃ (l : List Ev) (s : Option Nat), Run t R (n.toNat - l.length) l s ∧ wr.ownsRow w.heap.size 32 6 v l.length (l.flatMap Ev.cells) ∧ CurAt wr b t s ∧ w.grownBy wr (some b)) (fun v _ => n.toNat - lenOf v)
  case atStart => exact ⟨[], s1, HRun.out, World.ownsRow_nil _ _ _ _, K1.out, G1.out⟩
  case round =>
    obtain ⟨l, s, hRun, hown, hcur, hgr⟩ := hrel
    obtain ⟨a, c, rfl⟩ := own_forms hown
    have hm := hRun.many
    have HR := hid hRun
    have HO := hid hown
    have HC := hid hcur
    have HG := hid hgr
    clear hRun hown hcur hgr
    by_cases hless : (l.length : Int) < n
    · cases s with
      | none =>
        obtain ⟨a0, u, x, hb⟩ := HC.out
        have e2 : wr.cell? ⟨b, 2, none⟩ = some (.iface u x) := by rw [Lib.cell_of_heap hb]; rfl
        clear hb
        go_wp2
        go_ret
        rw [HR.out.stop]
        exact ⟨_, rfl, HO.out, HC.out, HG.out⟩
      | some a0 =>
        have hb := HC.out.2
        have e2 : wr.cell? ⟨b, 2, none⟩ = some .nilIface := by rw [Lib.cell_of_heap hb]; rfl
        have HR2 := HR.out
        rw [show n.toNat - l.length = (n.toNat - (l ++ [(evS t (some a0)).1]).length) + 1 by simp; omega] at HR2
        have HS := hid (HR2.step ht)
        clear hb HR2
        obtain ⟨⟨⟨q0, q1, q2, q3, q4, q5⟩, s2⟩, hE⟩ : ∃ x, evS t (some a0) = x := ⟨_, rfl⟩
        have d2 : Hid (∀ w, CurAt w b t (some a0) → Calls Tryd.prog 27 #[.pointer (some ⟨b, 0, none⟩)] w fun e w' => e = .returned (.agg #[.int .i64 q0, .int .i64 q1, .int .i64 q2, .int .i64 q3, .string q4, .string q5]) ∧ CurAt w' b t s2 ∧ w.grownBy w' (some b)) := by
          show ∀ w, _
          intro w h
          have := readEvent_any b t (some a0) w ht h
          rw [hE] at this
          exact this
        rw [hE] at HS
        clear hE HR
        go_wp2_with fail
        refine (d2.out _ HC.out).mono ?_
        rintro e w3 ⟨rfl, k3, g3⟩
        have K3 := hid k3
        have hown3 := own_kept HO.out hlt g3
        have hz3 : w.heap.size ≤ w3.heap.size := Nat.le_trans HG.out.size g3.size
        have G3 := hid (grown_trans HG.out g3)
        clear k3 g3 HO HC HG d2 e2
        go_wp2_with (at_builtin; refine wpList_append_own _ rfl _ _ 23 rfl w.heap.size 32 i0 _ 6 64 Tryd.underlying23 hi hz0 hz1 hz2 rfl (by decide) _ _ _ rfl (hown3.alloc _) ⟨w3.heap.size, 0, none⟩ 1 1 [.int .i64 q0, .int .i64 q1, .int .i64 q2, .int .i64 q3, .string q4, .string q5] rfl rfl ?c1 ?c2 ?c3 ?c4 ?c5 ?_)
        case c1 => exact new_six w3 ⟨q0, q1, q2, q3, q4, q5⟩ 32
        case c2 => exact ev_one ⟨q0, q1, q2, q3, q4, q5⟩
        case c3 => unfold maxLen; omega
        case c4 => omega
        case c5 => simp; omega
        intro v' w4 hown4 hgrow _
        have G4 := hid (grown_own (grown_trans G3.out (World.grownBy_alloc w3 _ _)) (hown3.alloc _) (Nat.le_refl _) hgrow)
        have K4 := hid (cur_own (K3.out.of_block (alloc_old K3.out.lt)) (hown3.alloc _) hlt hgrow)
        have HO4 : Hid (w4.ownsRow w.heap.size 32 6 v' (l ++ [(⟨q0, q1, q2, q3, q4, q5⟩ : Ev)]).length ((l ++ [(⟨q0, q1, q2, q3, q4, q5⟩ : Ev)]).flatMap Ev.cells)) := by
          show World.ownsRow _ _ _ _ _ _ _
          rw [flat_snoc, List.length_append]; exact hown4
        obtain ⟨a', c', rfl⟩ := own_forms hown4
        clear hown3 hown4 hgrow G3 K3
        go_wp2
        go_roundw
        case rel => exact ⟨l ++ [⟨q0, q1, q2, q3, q4, q5⟩], s2, HS.out, HO4.out, K4.out, G4.out⟩
        case measure => simp [lenOf]; omega
    · have h0 : n.toNat - l.length = 0 := by omega
      have H0 := hid h0
      clear h0
      go_wp2
      go_ret
      have := HR.out
      rw [H0.out] at this
      rw [this.done]
      exact ⟨_, rfl, HO.out, HC.out, HG.out⟩
end Go.Proofs.YticnffakngpkfaaDoor
