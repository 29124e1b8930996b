/-
  Draws: what (*spec.l01Src).l03Def answers: some Def, its texts short: a contract over the seat's program.
-/
import Derived.Test.YthggcdadipjiiaaGreatDoorZDuL6
import Derived.Test.YthggcdadipjiiaaGreatDoorZSpRun6
import Derived.Test.YthggcdadipjiiaaGreatDoorZSpOut6
import Derived.Deep.Cut
import Derived.OwnWalk
namespace Go.Proofs.YthggcdadipjiiaaGreatDoor
open Go.RowKit

theorem heap_alloc_new2 (w : World) (o o' : Obj) : ((w.alloc o).alloc o').heap[w.heap.size + 1]? = some o' := by
  have := heap_alloc_new (w.alloc o) o'
  rwa [World.size_alloc] at this
def dfS : List ByteArray := [⟨#[97]⟩, ⟨#[98]⟩, ⟨#[99]⟩, ⟨#[100]⟩]
theorem dfS_short : ∀ s ∈ dfS, s.size ≤ 1 := by decide
theorem dfS_own {w : World} {g : Nat} {e : TypeId} (base : Nat) (m : Nat) (hm : m ≤ 4) (h : w.heap[g]? = some (.cells #[.string ⟨#[97]⟩, .string ⟨#[98]⟩, .string ⟨#[99]⟩, .string ⟨#[100]⟩] e (0, 0))) (hb : base ≤ g := by omega) : w.ownsRow base e 1 (.slice (some ⟨g, 0, none⟩) m 4) (dfS.take m).length ((dfS.take m).map Value.string) := by
  have hl : (dfS.take m).length = m := by rw [List.length_take]; show min m 4 = m; omega
  rw [hl]
  refine ⟨by rw [List.length_map, hl, Nat.mul_one], .inr ⟨g, 4, _, rfl, hb, h, hm, by unfold maxLen; omega, rfl, ?_⟩⟩
  rw [Nat.mul_one, List.map_take]
  rfl
/-- A Flow's box amid the draw. -/
structure FlBox (w X : World) (g f : Nat) (A2 : Option Addr) (n2 c2 : Nat) (s t : ByteArray) : Prop where
  hf : X.heap[f]? = some (.cells [.string s, .string t].toArray 116 (0, 0))
  lo : w.heap.size < f
  ne : f ≠ g
  ap : ∀ j, (Value.slice A2 n2 c2).ownBlock = some j → j ≠ f
theorem FlBox.call {w X X' : World} {b g f n n2 c2 : Nat} {V u1 u2 : Value} {A2 : Option Addr} {s t : ByteArray} {ss : List ByteArray} {fs : List Pr} (h : FlBox w X g f A2 n2 c2 s t) (hG : MdD w X b g n V u1 u2 ss fs) (hg : X.grownBy X' (some b)) : FlBox w X' g f A2 n2 c2 s t :=
  ⟨(hg.block f (lt_heap h.hf) (by simp; have := h.lo; have := hG.hb; omega)).trans h.hf, h.lo, h.ne, h.ap⟩
theorem FlBox.made {w X : World} {b g n c2 : Nat} {V u1 : Value} {A2 : Option Addr} {ss : List ByteArray} {fs : List Pr} (hG : MdD w X b g n V u1 (.slice A2 fs.length c2) ss fs) : FlBox w (X.alloc (.cells #[.string ⟨#[]⟩, .string ⟨#[]⟩] 116)) g X.heap.size A2 fs.length c2 ⟨#[]⟩ ⟨#[]⟩ :=
  ⟨heap_alloc_new X _, lt_heap hG.hr, fun e => by have := lt_heap hG.hd; omega, fun j hj => by have := (own_lt hG.o2 j hj).2; omega⟩
theorem FlBox.cells {w X : World} {g f n2 c2 : Nat} {A2 : Option Addr} {s t : ByteArray} (h : FlBox w X g f A2 n2 c2 s t) : X.cell? ⟨f, 0, none⟩ = some (.string s) ∧ X.cell? ⟨f, 1, none⟩ = some (.string t) ∧ ∀ j, X.frozen? ⟨f, j, none⟩ = false :=
  ⟨by rw [Lib.cell_of_heap h.hf]; rfl, by rw [Lib.cell_of_heap h.hf]; rfl, fun j => Lib.frozen_of_heap h.hf j⟩
theorem FlBox.mid {w X : World} {b g f n c2 : Nat} {V u1 : Value} {A2 : Option Addr} {s t : ByteArray} {ss : List ByteArray} {fs : List Pr} (h : FlBox w X g f A2 fs.length c2 s t) (hG : MdD w X b g n V u1 (.slice A2 fs.length c2) ss fs) (s' t' : ByteArray) : MdD w ((X.setCell ⟨f, 0, none⟩ (.string s')).setCell ⟨f, 1, none⟩ (.string t')) b g n V u1 (.slice A2 fs.length c2) ss fs :=
  hG.turn ((Chg.of_grown (p := fun j => j = f) (grown_set X f 0 _) rfl).trans (Chg.of_grown (grown_set _ f 1 _) rfl)) (fun k hk => by subst hk; exact ⟨h.lo, h.ne⟩) (own_ne hG.o1 h.hf (by decide)) h.ap
theorem FlBox.set {w X : World} {g f n2 c2 : Nat} {A2 : Option Addr} {s t : ByteArray} (h : FlBox w X g f A2 n2 c2 s t) (s' t' : ByteArray) : FlBox w ((X.setCell ⟨f, 0, none⟩ (.string s')).setCell ⟨f, 1, none⟩ (.string t')) g f A2 n2 c2 s' t' :=
  ⟨blk_set (i := 1) (blk_set (L := [_, _]) (i := 0) h.hf _) _, h.lo, h.ne, h.ap⟩
theorem cell_step {w X : World} {b g n m c B1 : Nat} {V u2 : Value} {ss : List ByteArray} {fs : List Pr} (hG : MdD w X b g n V (.slice (some ⟨B1, 0, none⟩) m c) u2 ss fs) (r : Nat) (hr : r < m) (hm : ss.length = m) : ∃ t, X.cell? ⟨B1, r, none⟩ = some (.string t) ∧ t.size ≤ 1 := by
  subst hm
  have := hG.o1.cellAt r (by omega)
  exact ⟨ss[r], by rw [this]; simp [hr], hG.sh.1 _ (List.getElem_mem hr)⟩
theorem cell_flow {w X : World} {b g n c G2 : Nat} {V u1 : Value} {ss : List ByteArray} {fs : List Pr} (hG : MdD w X b g n V u1 (.slice (some ⟨G2, 0, none⟩) fs.length c) ss fs) (i : Nat) (hi : i < fs.length) : X.cell? ⟨G2, i * 2, none⟩ = some (.string fs[i].fst) ∧ X.cell? ⟨G2, i * 2 + 1, none⟩ = some (.string fs[i].snd) := by
  have h0 := hG.o2.cellAt (i * 2) (by omega)
  have h1 := hG.o2.cellAt (i * 2 + 1) (by omega)
  have p0 := pflat_at fs i 0 hi (by decide)
  have p1 := pflat_at fs i 1 hi (by decide)
  rw [Nat.add_zero] at p0
  exact ⟨by rw [h0, p0]; rfl, by rw [h1, p1]; rfl⟩
theorem Tryz.infoFlowD : (Tryz.prog.info? 116).map (fun i => (i.zero, i.size, i.bytes)) = some (some (.agg #[.string ⟨#[]⟩, .string ⟨#[]⟩]), 2, 32) := by kernel_rfl
theorem grownChg {w w' : World} {r : Option Nat} (h : w.grownBy w' r) : Chg (fun j => r = some j) w w' := ⟨h.os, h.tape, h.output, h.size, fun k hk hp => h.block k hk (fun e => hp e.symm)⟩
/-- One Flow more. -/
theorem MdD.flow {w W W' : World} {b g n : Nat} {V u1 u2 v : Value} {ss : List ByteArray} {fs : List Pr} {s t : ByteArray} (h : MdD w W b g n V u1 u2 ss fs) (ho : W'.ownsRow (w.heap.size + 1) 116 2 v (fs.length + 1) (fs.flatMap Pr.cells ++ [.string s, .string t])) (hg : W.grownBy W' u2.ownBlock) (hs : s.size ≤ 1) (ht : t.size ≤ 1) : MdD w (W'.setCell ⟨g, 1, none⟩ v) b g n V u1 v ss (fs ++ [⟨s, t⟩]) :=
  h.set2 (grownChg hg) (by rw [List.length_append]; simpa [Pr.cells] using ho) (fun f hf => by
    rcases List.mem_append.1 hf with h' | h'
    · exact h.sh.2 f h'
    · rw [List.mem_singleton] at h'; subst h'; exact ⟨hs, ht⟩)
theorem MdD.zs {w W : World} {b g n : Nat} {V u1 u2 : Value} {ss : List ByteArray} {fs : List Pr} (h : MdD w W b g n V u1 u2 ss fs) : (∀ j, W.frozen? ⟨g, j, none⟩ = false) ∧ ∀ j, W.frozen? ⟨w.heap.size, j, none⟩ = false := ⟨fun j => Lib.frozen_of_heap h.hd j, fun j => Lib.frozen_of_heap h.hr j⟩
theorem MdD.rcells {w W : World} {b g n : Nat} {V u1 u2 : Value} {ss : List ByteArray} {fs : List Pr} (h : MdD w W b g n V u1 u2 ss fs) : W.cell? ⟨w.heap.size, 0, none⟩ = some (.slice none 0 0) ∧ W.cell? ⟨w.heap.size, 1, none⟩ = some (.slice none 0 0) := ⟨by rw [Lib.cell_of_heap h.hr]; rfl, by rw [Lib.cell_of_heap h.hr]; rfl⟩
theorem MdD.ends {w W : World} {b g n : Nat} {V u1 u2 : Value} {ss : List ByteArray} {fs : List Pr} (h : MdD w W b g n V u1 u2 ss fs) (x1 x2 : Value) : ((W.setCell ⟨w.heap.size, 0, none⟩ x1).setCell ⟨w.heap.size, 1, none⟩ x2).cell? ⟨w.heap.size, 0, none⟩ = some x1 ∧ ((W.setCell ⟨w.heap.size, 0, none⟩ x1).setCell ⟨w.heap.size, 1, none⟩ x2).cell? ⟨w.heap.size, 1, none⟩ = some x2 := by
  have := blk_set (i := 1) (blk_set (L := [_, _]) (i := 0) h.hr x1) x2
  exact ⟨by rw [Lib.cell_of_heap this]; rfl, by rw [Lib.cell_of_heap this]; rfl⟩
theorem own_cellsSl {w : World} {base n : Nat} {e : TypeId} {a : Option Addr} {c : Nat} {fs : List Pr} (h : w.ownsRow base e 2 (.slice a n c) n (fs.flatMap Pr.cells)) : CellsSl w (.slice a n c) 2 n (fs.flatMap Pr.cells) := by
  refine ⟨h.1, prs_one _, ?_⟩
  rcases Nat.eq_zero_or_pos n with h0 | h0
  · subst h0
    rcases a with _ | ad
    · exact .inl ⟨c, rfl, rfl⟩
    · exact .inr ⟨ad, c, rfl, fun j u hj => by
        have := h.1
        rw [Nat.zero_mul] at this
        rw [List.eq_nil_of_length_eq_zero this] at hj; simp at hj⟩
  · obtain ⟨g, rfl⟩ := own_some h h0
    refine .inr ⟨_, c, rfl, fun j u hj => ?_⟩
    rw [Addr.add_lit, Nat.zero_add, h.cellAt j (by have := h.1; obtain ⟨hl, _⟩ := List.getElem?_eq_some_iff.1 hj; omega)]
    exact hj
theorem MdD.hcells {w W W' : World} {b g n : Nat} {V u1 u2 : Value} {ss : List ByteArray} {fs : List Pr} (h : MdD w W b g n V u1 u2 ss fs) (hc : W.grownBy W' u2.ownBlock) : W'.cell? ⟨g, 0, none⟩ = some u1 ∧ W'.cell? ⟨g, 1, none⟩ = some u2 ∧ ∀ j, W'.frozen? ⟨g, j, none⟩ = false := by
  have hd' := (hc.block g (lt_heap h.hd) (fun e => own_ne h.o2 h.hd (by decide) g e.symm rfl)).trans h.hd
  exact ⟨by rw [Lib.cell_of_heap hd']; rfl, by rw [Lib.cell_of_heap hd']; rfl, fun j => Lib.frozen_of_heap hd' j⟩
set_option maxHeartbeats 2000000 in
set_option maxRecDepth 100000 in
theorem drawDef_any (b n : Nat) (V : Value) (w : World) (h : Drw w b V n) :
    Calls Tryz.prog 44 #[.pointer (some ⟨b, 0, none⟩)] w fun e w' => ∃ u1 u2 ss fs, e = .returned (.agg #[u1, u2]) ∧ DfDr w w' b n V u1 u2 ss fs := by
  have mixed : Tryz.prog.follows .mixedOrders = true := by kernel_rfl
  obtain ⟨j0, hj, hj0, hj1, hj2⟩ := info_parts Tryz.infoFlowD
  obtain ⟨i0, hi, hz0, hz1, hz2⟩ := info_parts Tryz.infoStr
  have hlt := h.src.lt
  have cN := hid (fun most w h h2 => srcN_any b n V most w h h2)
  have cO := hid (fun most w h h2 => one_any b n V most w h h2)
  have H := hid h
  clear h
  go_enter Tryz.func44, Tryz.ntmps44
  go_wp2_with fail
  have hM0 : Hid (Drw ((w.alloc (.cells #[.slice none 0 0, .slice none 0 0] 26)).alloc (.cells #[.string ⟨#[97]⟩, .string ⟨#[98]⟩, .string ⟨#[99]⟩, .string ⟨#[100]⟩] 9)) b V n) := (H.out.below ((Below.refl _ _).alloc (Nat.le_refl _) _)).below ((Below.refl _ _).alloc (Nat.le_refl _) _)
  refine (cN.out 3 _ hM0.out (by decide)).mono ?_
  rintro e w1 ⟨r1, rfl, ⟨l1, u1, _⟩, hd1, hg1⟩
  have u1 := u1 (by decide)
  obtain ⟨m, hm⟩ := Int.eq_ofNat_of_zero_le (show (0 : Int) ≤ 2 + r1 by omega)
  obtain rfl : r1 = (m : Int) - 2 := by omega
  have q1 : (2 : Int) + ((m : Int) - 2) = (m : Int) := by omega
  have q2 : (0 : Int) ≤ (m : Int) := by omega
  have HM2 : Hid (2 ≤ m) := by show 2 ≤ m; omega
  have q3 : (m : Int) ≤ 4 := by omega
  have HR1 := hid ((hg1.block w.heap.size (by simp; omega) (by simp; omega)).trans ((Below.heap_alloc _ _ _ (by simp)).trans (heap_alloc_new w _)))
  have HS1 := hid ((hg1.block (w.heap.size + 1) (by simp) (by simp; omega)).trans (heap_alloc_new2 w _ _))
  have HD1 := hid hd1
  have HG1 := hid (grown_trans (grown_trans (World.grownBy_alloc w _ _) (World.grownBy_alloc _ _ _)) hg1)
  clear hd1 hg1 hM0 H hm l1 u1
  go_wp2_with fail
  have M : Hid (MdD w (w1.alloc (.cells #[.slice (some ⟨w.heap.size + 1, 0, none⟩) m 4, .slice none 0 0] 26)) b w1.heap.size n V (.slice (some ⟨w.heap.size + 1, 0, none⟩) m 4) (.slice none 0 0) (dfS.take m) []) :=
    ⟨HD1.out.below ((Below.refl _ _).alloc (Nat.le_refl _) _), heap_alloc_new w1 _, (Below.heap_alloc _ _ _ (lt_heap HR1.out)).trans HR1.out, dfS_own _ m (by omega) ((Below.heap_alloc _ _ _ (lt_heap HS1.out)).trans HS1.out), World.ownsRow_nil _ _ _ _, grown_trans HG1.out (World.grownBy_alloc _ _ _), lt_heap HR1.out, hlt, ⟨fun s hs => dfS_short s (List.mem_of_mem_take hs), fun f hf => absurd hf (by simp)⟩⟩
  have hlm : Hid ((dfS.take m).length = m) := by
    show (dfS.take m).length = m
    rw [List.length_take]; show min m 4 = m; omega
  generalize w1.alloc (.cells #[.slice (some ⟨w.heap.size + 1, 0, none⟩) m 4, .slice none 0 0] 26) = W1 at *
  generalize w1.heap.size = g at *
  generalize dfS.take m = ss at *
  generalize w.heap.size + 1 = B1 at *
  have HLM := hlm
  clear hlm
  clear HR1 HS1 HD1 HG1 q1
  refine (cN.out 6 _ M.out.dr (by decide)).mono ?_
  rintro e w2 ⟨r2, rfl, ⟨l2, u2, _⟩, hd2, hg2⟩
  have u2 := u2 (by decide)
  have M2 := hid (M.out.call hd2 hg2)
  clear hd2 hg2 M
  go_wp2
  go_loopw [4] (fun kv wr => ∃ (k : Int) (v2 : Value) (fs : List Pr), kv = .int .i64 k ∧ 0 ≤ k ∧ (fs.length : Int) + k ≤ 5 ∧ MdD w wr b g n V (.slice (some ⟨B1, 0, none⟩) m 4) v2 ss fs) (fun kv _ => (intOf kv).toNat)
  case atStart => exact ⟨r2, _, [], rfl, l2, by simp; omega, M2.out⟩
  case round =>
    obtain ⟨k, v2, fs, rfl, hk, hfk, hM⟩ := hrel
    obtain ⟨A2, c2, rfl⟩ := ownB_form hM.o2
    have M := hid hM
    clear hM M2
    by_cases hk0 : 0 < k
    · go_upto_region 5 with fail
      refine wp_region_okL mixed 20 [[],[0],[],[],[3],[3,4],[2,3,4,5],[0,1,2,3,4,5,6],[0,1,2,3,4,5,6,7],[],[9],[],[],[12],[12,13],[11,12,13,14],[9,10,11,12,13,14,15],[9,10,11,12,13,14,15,16],[0,1,2,3,4,5,6,7,8,9,10,11,12,13,14,15,16,17],[],[0,1,2,3,4,5,6,7,8,9,10,11,12,13,14,15,16,17,18,19]] (fun v => { tmps := #[.pointer (some ⟨b, 0, none⟩), undef, .pointer (some ⟨w.heap.size, 0, none⟩), .pointer (some ⟨g, 0, none⟩), .int .i64 k, v 19, u6, u7, .slice (some ⟨B1, 0, none⟩) 4 4, .pointer (some ⟨b, 0, none⟩), .int .i64 ((m : Int) - 2), .int .i64 m, .slice (some ⟨B1, 0, none⟩) m 4, .agg #[.slice (some ⟨B1, 0, none⟩) m 4, .slice none 0 0], .pointer (some ⟨b, 0, none⟩), .int .i64 r2, .int .i64 k, .bool true, u18, u19, v 0, v 1, v 2, v 3, v 4, v 5, v 6, v 7, v 8, v 9, v 10, v 11, v 12, v 13, v 14, v 15, v 16, v 17, v 18, u39, u40, u41, u42, u43, u44, u45, u46, u47, u48, u49, u50, u51, u52, u53, u54, u55, u56, u57, u58, u59, u60, u61, u62, u63, undef, undef, undef, undef, undef, undef, undef, undef, undef, undef, undef, undef, undef, undef, undef, undef, undef, undef, undef, undef, undef, undef, undef, undef, undef, undef, undef, undef, undef, undef, undef], defers := [] }) (fun i9 => match i9 with | 0 => u20 | 1 => u21 | 2 => u22 | 3 => u23 | 4 => u24 | 5 => u25 | 6 => u26 | 7 => u27 | 8 => u28 | 9 => u29 | 10 => u30 | 11 => u31 | 12 => u32 | 13 => u33 | 14 => u34 | 15 => u35 | 16 => u36 | 17 => u37 | 18 => u38 | 19 => u5 | _ => undef) (fun i9 x X => match i9 with
        | 0 => x = .pointer (some ⟨g, 0, none⟩)
        | 1 => x = .slice (some ⟨B1, 0, none⟩) m 4
        | 2 => x = .pointer (some ⟨b, 0, none⟩)
        | 3 => x = .pointer (some ⟨g, 0, none⟩)
        | 4 => x = .slice (some ⟨B1, 0, none⟩) m 4
        | 5 => x = .int .i64 m
        | 6 => ∃ r : Nat, x = .int .i64 r ∧ r < m
        | 7 => ∃ r : Nat, x = .pointer (some ⟨B1, r, none⟩) ∧ r < m
        | 8 => ∃ t : ByteArray, x = .string t ∧ t.size ≤ 1
        | 9 => x = .pointer (some ⟨g, 0, none⟩)
        | 10 => x = .slice (some ⟨B1, 0, none⟩) m 4
        | 11 => x = .pointer (some ⟨b, 0, none⟩)
        | 12 => x = .pointer (some ⟨g, 0, none⟩)
        | 13 => x = .slice (some ⟨B1, 0, none⟩) m 4
        | 14 => x = .int .i64 m
        | 15 => ∃ r : Nat, x = .int .i64 r ∧ r < m
        | 16 => ∃ r : Nat, x = .pointer (some ⟨B1, r, none⟩) ∧ r < m
        | 17 => ∃ t : ByteArray, x = .string t ∧ t.size ≤ 1
        | 18 => ∃ s t : ByteArray, x = .agg #[.string s, .string t] ∧ s.size ≤ 1 ∧ t.size ≤ 1
        | 19 => ∃ f : Nat, x = .pointer (some ⟨f, 0, none⟩) ∧ FlBox w X g f A2 fs.length c2 ⟨#[]⟩ ⟨#[]⟩
        | _ => True) (fun X => MdD w X b g n V (.slice (some ⟨B1, 0, none⟩) m 4) (.slice A2 fs.length c2) ss fs) (fun X X' => X.grownBy X' (some b)) (by kernel_rfl) rfl (M.out.below (Below.refl _ _).drew) ?mono ?step ?last (fun h => absurd h (by decide))
      case mono =>
        intro i9 x X X' hi9 hG hS h
        match i9, hi9 with
        | 0, _ | 1, _ | 2, _ | 3, _ | 4, _ | 5, _ | 9, _ | 10, _ | 11, _ | 12, _ | 13, _ | 14, _ => exact h
        | 6, _ => exact h
        | 7, _ => exact h
        | 8, _ => exact h
        | 15, _ => exact h
        | 16, _ => exact h
        | 17, _ => exact h
        | 18, _ => exact h
        | 19, _ => obtain ⟨f, e, hF⟩ := h; exact ⟨f, e, hF.call hG hS⟩
        | n9 + 20, h9 => exact absurd h9 (by omega)
      case step =>
        intro i9 v X hi9 hG hd hu K hK
        have HU := hid hu
        clear hu
        have hgd := hG.hd
        have d0 : X.cell? ⟨g, 0, none⟩ = some (.slice (some ⟨B1, 0, none⟩) m 4) := by rw [Lib.cell_of_heap hgd]; rfl
        clear hgd
        match i9, hi9 with
        | 0, _ =>
          refine op_go rfl rfl ?_
          go_simp
          exact hK.out _ v _ _ rfl rfl rfl hG (World.grownBy.refl _ _)
        | 1, _ =>
          have q0 : v 0 = .pointer (some ⟨g, 0, none⟩) := hd 0 (by decide)
          refine op_go rfl rfl ?_
          go_simp
          exact hK.out _ (upd v 0 _) _ _ (upd_on rfl q0) rfl rfl hG (World.grownBy.refl _ _)
        | 2, _ =>
          refine op_go rfl rfl ?_
          go_simp
          exact hK.out _ v _ _ rfl rfl rfl hG (World.grownBy.refl _ _)
        | 3, _ =>
          refine op_go rfl rfl ?_
          go_simp
          exact hK.out _ v _ _ rfl rfl rfl hG (World.grownBy.refl _ _)
        | 4, _ =>
          have q3 : v 3 = .pointer (some ⟨g, 0, none⟩) := hd 3 (by decide)
          refine op_go rfl rfl ?_
          go_simp
          exact hK.out _ (upd v 3 _) _ _ (upd_on rfl q3) rfl rfl hG (World.grownBy.refl _ _)
        | 5, _ =>
          have q4 : v 4 = .slice (some ⟨B1, 0, none⟩) m 4 := hd 4 (by decide)
          refine op_go rfl rfl ?_
          go_simp
          exact hK.out _ (upd v 4 _) _ _ (upd_on rfl q4) rfl rfl hG (World.grownBy.refl _ _)
        | 6, _ =>
          have q2 : v 2 = .pointer (some ⟨b, 0, none⟩) := hd 2 (by decide)
          have q5 : v 5 = .int .i64 m := hd 5 (by decide)
          refine op_go rfl rfl ?_
          go_simp
          refine (cN.out _ _ hG.dr (by omega)).mono ?_
          rintro e X' ⟨r, rfl, ⟨l, u, u'⟩, hd', hg'⟩
          obtain ⟨r, rfl⟩ := Int.eq_ofNat_of_zero_le l
          exact hK.out _ (upd (upd v 2 _) 5 _) _ _ (upd_on (upd_on rfl q2) q5) rfl ⟨r, rfl, by have := u (by have := HM2.out; omega); omega⟩ (hG.call hd' hg') hg'
        | 7, _ =>
          have q1 : v 1 = .slice (some ⟨B1, 0, none⟩) m 4 := hd 1 (by decide)
          obtain ⟨r, qr, hr⟩ : ∃ r : Nat, v 6 = .int .i64 r ∧ r < m := hd 6 (by decide)
          have z1 : (r : Int) < (m : Int) := by omega
          refine op_go rfl rfl ?_
          go_simp
          exact hK.out _ (upd (upd v 1 _) 6 _) _ _ (upd_on (upd_on rfl q1) qr) rfl ⟨r, rfl, hr⟩ hG (World.grownBy.refl _ _)
        | 8, _ =>
          obtain ⟨r, qr, hr⟩ : ∃ r : Nat, v 7 = .pointer (some ⟨B1, r, none⟩) ∧ r < m := hd 7 (by decide)
          obtain ⟨t, hc, hz⟩ := cell_step hG r hr HLM.out
          refine op_go rfl rfl ?_
          go_simp
          exact hK.out _ (upd v 7 _) _ _ (upd_on rfl qr) rfl ⟨_, rfl, hz⟩ hG (World.grownBy.refl _ _)
        | 9, _ =>
          refine op_go rfl rfl ?_
          go_simp
          exact hK.out _ v _ _ rfl rfl rfl hG (World.grownBy.refl _ _)
        | 10, _ =>
          have q9 : v 9 = .pointer (some ⟨g, 0, none⟩) := hd 9 (by decide)
          refine op_go rfl rfl ?_
          go_simp
          exact hK.out _ (upd v 9 _) _ _ (upd_on rfl q9) rfl rfl hG (World.grownBy.refl _ _)
        | 11, _ =>
          refine op_go rfl rfl ?_
          go_simp
          exact hK.out _ v _ _ rfl rfl rfl hG (World.grownBy.refl _ _)
        | 12, _ =>
          refine op_go rfl rfl ?_
          go_simp
          exact hK.out _ v _ _ rfl rfl rfl hG (World.grownBy.refl _ _)
        | 13, _ =>
          have q12 : v 12 = .pointer (some ⟨g, 0, none⟩) := hd 12 (by decide)
          refine op_go rfl rfl ?_
          go_simp
          exact hK.out _ (upd v 12 _) _ _ (upd_on rfl q12) rfl rfl hG (World.grownBy.refl _ _)
        | 14, _ =>
          have q13 : v 13 = .slice (some ⟨B1, 0, none⟩) m 4 := hd 13 (by decide)
          refine op_go rfl rfl ?_
          go_simp
          exact hK.out _ (upd v 13 _) _ _ (upd_on rfl q13) rfl rfl hG (World.grownBy.refl _ _)
        | 15, _ =>
          have q11 : v 11 = .pointer (some ⟨b, 0, none⟩) := hd 11 (by decide)
          have q14 : v 14 = .int .i64 m := hd 14 (by decide)
          refine op_go rfl rfl ?_
          go_simp
          refine (cN.out _ _ hG.dr (by omega)).mono ?_
          rintro e X' ⟨r, rfl, ⟨l, u, u'⟩, hd', hg'⟩
          obtain ⟨r, rfl⟩ := Int.eq_ofNat_of_zero_le l
          exact hK.out _ (upd (upd v 11 _) 14 _) _ _ (upd_on (upd_on rfl q11) q14) rfl ⟨r, rfl, by have := u (by have := HM2.out; omega); omega⟩ (hG.call hd' hg') hg'
        | 16, _ =>
          have q10 : v 10 = .slice (some ⟨B1, 0, none⟩) m 4 := hd 10 (by decide)
          obtain ⟨r, qr, hr⟩ : ∃ r : Nat, v 15 = .int .i64 r ∧ r < m := hd 15 (by decide)
          have z1 : (r : Int) < (m : Int) := by omega
          refine op_go rfl rfl ?_
          go_simp
          exact hK.out _ (upd (upd v 10 _) 15 _) _ _ (upd_on (upd_on rfl q10) qr) rfl ⟨r, rfl, hr⟩ hG (World.grownBy.refl _ _)
        | 17, _ =>
          obtain ⟨r, qr, hr⟩ : ∃ r : Nat, v 16 = .pointer (some ⟨B1, r, none⟩) ∧ r < m := hd 16 (by decide)
          obtain ⟨t, hc, hz⟩ := cell_step hG r hr HLM.out
          refine op_go rfl rfl ?_
          go_simp
          exact hK.out _ (upd v 16 _) _ _ (upd_on rfl qr) rfl ⟨_, rfl, hz⟩ hG (World.grownBy.refl _ _)
        | 18, _ =>
          obtain ⟨t28, qt28, ht28⟩ : ∃ t : ByteArray, v 8 = .string t ∧ t.size ≤ 1 := hd 8 (by decide)
          obtain ⟨t37, qt37, ht37⟩ : ∃ t : ByteArray, v 17 = .string t ∧ t.size ≤ 1 := hd 17 (by decide)
          refine op_go rfl rfl ?_
          go_simp
          exact hK.out _ (upd (upd v 8 _) 17 _) _ _ (upd_on (upd_on rfl qt28) qt37) rfl ⟨t28, t37, rfl, ht28, ht37⟩ hG (World.grownBy.refl _ _)
        | 19, _ =>
          refine op_go rfl rfl ?_
          go_simp
          exact hK.out _ v _ _ rfl rfl ⟨_, rfl, FlBox.made hG⟩ (hG.below ((Below.refl _ _).alloc (Nat.le_refl _) _)) (World.grownBy_alloc _ _ _)
        | n9 + 20, h9 => exact absurd h9 (by omega)
      case last =>
        intro _ v X hG hd
        have hgd := hG.hd
        have d0 : X.cell? ⟨g, 0, none⟩ = some (.slice (some ⟨B1, 0, none⟩) m 4) := by rw [Lib.cell_of_heap hgd]; rfl
        clear hgd
        obtain ⟨s, t, qq, hs, ht⟩ : ∃ s t : ByteArray, v 18 = .agg #[.string s, .string t] ∧ s.size ≤ 1 ∧ t.size ≤ 1 := hd 18 (by decide)
        obtain ⟨f, qf, hF⟩ : ∃ f : Nat, v 19 = .pointer (some ⟨f, 0, none⟩) ∧ FlBox w X g f A2 fs.length c2 ⟨#[]⟩ ⟨#[]⟩ := hd 19 (by decide)
        have ff := hF.cells
        refine op_go rfl rfl ?_
        go_simp
        have M1 := hid (hF.mid hG s t)
        have F1 := hid (hF.set s t)
        have hW := M1.out
        generalize (X.setCell ⟨f, 0, none⟩ (.string s)).setCell ⟨f, 1, none⟩ (.string t) = W5 at *
        clear hG hd hF ff hW qf qq d0 M
        go_wp2
        go_loopw [6, 7] (fun tv iv wr => ∃ (q : Bool) (i : Nat), tv = .bool q ∧ iv = .int .i64 i ∧ i ≤ fs.length ∧ MdD w wr b g n V (.slice (some ⟨B1, 0, none⟩) m 4) (.slice A2 fs.length c2) ss fs ∧ FlBox w wr g f A2 fs.length c2 s t) (fun _ iv _ => fs.length - (intOf iv).toNat)
        case atStart => exact ⟨false, 0, rfl, rfl, Nat.zero_le _, M1.out, F1.out⟩
        case round =>
          obtain ⟨q, i, rfl, rfl, hi, hMI, hFI⟩ := hrel
          have MI := hid hMI
          have FI := hid hFI
          clear hMI hFI M1 F1
          by_cases hlt : i < fs.length
          · obtain ⟨G2, rfl⟩ := own_some MI.out.o2 (by omega)
            obtain ⟨d0, d1⟩ := MI.out.cells
            obtain ⟨s1, t1, HCF⟩ : ∃ s1 t1, Hid (∀ X, MdD w X b g n V (.slice (some ⟨B1, 0, none⟩) m 4) (.slice (some ⟨G2, 0, none⟩) fs.length c2) ss fs → X.cell? ⟨G2, i * 2, none⟩ = some (.string s1) ∧ X.cell? ⟨G2, i * 2 + 1, none⟩ = some (.string t1)) := ⟨fs[i].fst, fs[i].snd, fun X hG => cell_flow hG i hlt⟩
            cases q
            · go_upto_region 10 with fail
              refine wp_region_ok mixed 11 [[],[0],[0,1],[0,1,2],[0,1],[0,1,2,3,4],[0,1,2,3,4,5],[0,1],[0,1,2,3,4,5,6,7],[0,1,2,3,4,5,6,7,8],[0,1,2,3,4,5,6,7,8,9]] (fun y => { tmps := #[.pointer (some ⟨b, 0, none⟩), undef, .pointer (some ⟨w.heap.size, 0, none⟩), .pointer (some ⟨g, 0, none⟩), .int .i64 k, .pointer (some ⟨f, 0, none⟩), y 10, .int .i64 ↑i, .slice (some ⟨B1, 0, none⟩) 4 4, .pointer (some ⟨b, 0, none⟩), .int .i64 (↑m - 2), .int .i64 ↑m, .slice (some ⟨B1, 0, none⟩) m 4, .agg #[.slice (some ⟨B1, 0, none⟩) m 4, .slice none 0 0], .pointer (some ⟨b, 0, none⟩), .int .i64 r2, .int .i64 k, .bool true, u18, u19, v 0, v 1, v 2, v 3, v 4, v 5, v 6, v 7, v 8, v 9, v 10, v 11, v 12, v 13, v 14, v 15, v 16, v 17, .agg #[.string s, .string t], .int .i64 ↑i, .pointer (some ⟨g, 1, none⟩), .slice (some ⟨G2, 0, none⟩) fs.length c2, .int .i64 ↑fs.length, .bool true, u44, u45, y 0, y 1, y 2, y 3, y 4, y 5, y 6, y 7, y 8, y 9, u56, u57, u58, u59, u60, u61, u62, u63, undef, undef, undef, undef, undef, undef, undef, undef, undef, undef, undef, undef, undef, undef, undef, undef, undef, undef, undef, undef, undef, undef, undef, undef, undef, undef, undef, undef, undef, undef, undef], defers := [] }) (fun i9 => match i9 with | 0 => u46 | 1 => u47 | 2 => u48 | 3 => u49 | 4 => u50 | 5 => u51 | 6 => u52 | 7 => u53 | 8 => u54 | 9 => u55 | 10 => .bool false | _ => undef) (fun i9 x X => match i9 with
                | 0 => x = .bool false
                | 1 => x = .bool false
                | 2 => x = .pointer (some ⟨g, 1, none⟩)
                | 3 => x = .slice (some ⟨G2, 0, none⟩) fs.length c2
                | 4 => x = .int .i64 i
                | 5 => x = .pointer (some ⟨G2, i * 2, none⟩)
                | 6 => x = .agg #[.string s1, .string t1]
                | 7 => x = .agg #[.string s, .string t]
                | 8 => ∃ c : Bool, x = .bool c
                | 9 => ∃ c : Bool, x = .bool c
                | 10 => ∃ c : Bool, x = .bool c
                | _ => True) (fun X => MdD w X b g n V (.slice (some ⟨B1, 0, none⟩) m 4) (.slice (some ⟨G2, 0, none⟩) fs.length c2) ss fs ∧ FlBox w X g f (some ⟨G2, 0, none⟩) fs.length c2 s t) (fun X X' => True) (by kernel_rfl) rfl (⟨MI.out.below (Below.refl _ _).drew, FI.out.call MI.out (grown_below (Below.refl _ _).drew)⟩) ?monof ?stepf ?finf
              case monof =>
                intro i9 x X X' hi9 hG hS h
                match i9, hi9 with
                | 0, _ | 1, _ | 2, _ | 3, _ | 4, _ | 5, _ | 6, _ | 7, _ => exact h
                | 8, _ => exact h
                | 9, _ => exact h
                | 10, _ => exact h
              case stepf =>
                intro i9 y X hi9 hG hd hu K hK
                have HU := hid hu
                clear hu
                have hgd := hG.1.hd
                have d1 : X.cell? ⟨g, 1, none⟩ = some (.slice (some ⟨G2, 0, none⟩) fs.length c2) := by rw [Lib.cell_of_heap hgd]; rfl
                clear hgd
                obtain ⟨f0, f1, _⟩ := hG.2.cells
                obtain ⟨e0, e1⟩ := HCF.out X hG.1
                have z1 : (i : Int) < (fs.length : Int) := by omega
                match i9, hi9 with
                | 0, _ =>
                  have q10 : y 10 = .bool false := HU.out 10 (by decide)
                  refine op_go rfl rfl ?_
                  go_simp
                  exact hK.out _ (upd y 10 _) _ _ (upd_on rfl q10) rfl rfl hG (trivial)
                | 1, _ =>
                  have q0 : y 0 = .bool false := hd 0 (by decide)
                  refine op_go rfl rfl ?_
                  go_simp
                  exact hK.out _ (upd y 0 _) _ _ (upd_on rfl q0) rfl rfl hG (trivial)
                | 2, _ =>
                  have q1 : y 1 = .bool false := hd 1 (by decide)
                  refine op_want rfl (by simp [Region.wanted, yielded, q1]) ?_
                  go_simp
                  exact hK.out _ (upd y 1 _) _ _ (upd_on rfl q1) rfl rfl hG (trivial)
                | 3, _ =>
                  have q1 : y 1 = .bool false := hd 1 (by decide)
                  have q2 : y 2 = .pointer (some ⟨g, 1, none⟩) := hd 2 (by decide)
                  refine op_want rfl (by simp [Region.wanted, yielded, q1]) ?_
                  go_simp
                  exact hK.out _ (upd (upd y 1 _) 2 _) _ _ (upd_on (upd_on rfl q1) q2) rfl rfl hG (trivial)
                | 4, _ =>
                  have q1 : y 1 = .bool false := hd 1 (by decide)
                  refine op_want rfl (by simp [Region.wanted, yielded, q1]) ?_
                  go_simp
                  exact hK.out _ (upd y 1 _) _ _ (upd_on rfl q1) rfl rfl hG (trivial)
                | 5, _ =>
                  have q1 : y 1 = .bool false := hd 1 (by decide)
                  have q3 : y 3 = .slice (some ⟨G2, 0, none⟩) fs.length c2 := hd 3 (by decide)
                  have q4 : y 4 = .int .i64 i := hd 4 (by decide)
                  refine op_want rfl (by simp [Region.wanted, yielded, q1]) ?_
                  go_simp
                  exact hK.out _ (upd (upd (upd y 1 _) 3 _) 4 _) _ _ (upd_on (upd_on (upd_on rfl q1) q3) q4) rfl rfl hG (trivial)
                | 6, _ =>
                  have q1 : y 1 = .bool false := hd 1 (by decide)
                  have q5 : y 5 = .pointer (some ⟨G2, i * 2, none⟩) := hd 5 (by decide)
                  refine op_want rfl (by simp [Region.wanted, yielded, q1]) ?_
                  go_simp
                  exact hK.out _ (upd (upd y 1 _) 5 _) _ _ (upd_on (upd_on rfl q1) q5) rfl rfl hG (trivial)
                | 7, _ =>
                  have q1 : y 1 = .bool false := hd 1 (by decide)
                  refine op_want rfl (by simp [Region.wanted, yielded, q1]) ?_
                  go_simp
                  exact hK.out _ (upd y 1 _) _ _ (upd_on rfl q1) rfl rfl hG (trivial)
                | 8, _ =>
                  have q1 : y 1 = .bool false := hd 1 (by decide)
                  have q6 : y 6 = .agg #[.string s1, .string t1] := hd 6 (by decide)
                  have q7 : y 7 = .agg #[.string s, .string t] := hd 7 (by decide)
                  refine op_want rfl (by simp [Region.wanted, yielded, q1]) ?_
                  go_simp
                  split
                  split
                  all_goals go_simp
                  all_goals exact hK.out _ (upd (upd (upd y 1 _) 6 _) 7 _) _ _ (upd_on (upd_on (upd_on rfl q1) q6) q7) rfl ⟨_, rfl⟩ hG trivial
                | 9, _ =>
                  have q1 : y 1 = .bool false := hd 1 (by decide)
                  obtain ⟨c, qc⟩ : ∃ c : Bool, y 8 = .bool c := hd 8 (by decide)
                  refine op_go rfl rfl ?_
                  go_simp
                  exact hK.out _ (upd (upd y 1 _) 8 _) _ _ (upd_on (upd_on rfl q1) qc) rfl ⟨_, rfl⟩ hG trivial
                | 10, _ =>
                  obtain ⟨c, qc⟩ : ∃ c : Bool, y 9 = .bool c := hd 9 (by decide)
                  refine op_go rfl rfl ?_
                  go_simp
                  exact hK.out _ (upd y 9 _) _ _ (upd_on rfl qc) rfl ⟨_, rfl⟩ hG trivial
              case finf =>
                intro y X hG hd
                obtain ⟨c, q10⟩ : ∃ c : Bool, y 10 = .bool c := hd 10 (by decide)
                have MI := hid hG.1
                have FI := hid hG.2
                clear hG hd
                go_wp2
                go_roundw
                case rel => exact ⟨c, i + 1, q10, by go_num, by omega, MI.out, FI.out⟩
                case measure => simp [intOf]; omega
            · go_upto_region 10 with fail
              refine wp_region_ok mixed 11 [[],[0],[0,1],[0,1],[0,1],[0,1],[0,1],[0,1],[0,1],[0,1,8],[0,1,8,9]] (fun y => { tmps := #[.pointer (some ⟨b, 0, none⟩), undef, .pointer (some ⟨w.heap.size, 0, none⟩), .pointer (some ⟨g, 0, none⟩), .int .i64 k, .pointer (some ⟨f, 0, none⟩), y 10, .int .i64 ↑i, .slice (some ⟨B1, 0, none⟩) 4 4, .pointer (some ⟨b, 0, none⟩), .int .i64 (↑m - 2), .int .i64 ↑m, .slice (some ⟨B1, 0, none⟩) m 4, .agg #[.slice (some ⟨B1, 0, none⟩) m 4, .slice none 0 0], .pointer (some ⟨b, 0, none⟩), .int .i64 r2, .int .i64 k, .bool true, u18, u19, v 0, v 1, v 2, v 3, v 4, v 5, v 6, v 7, v 8, v 9, v 10, v 11, v 12, v 13, v 14, v 15, v 16, v 17, .agg #[.string s, .string t], .int .i64 ↑i, .pointer (some ⟨g, 1, none⟩), .slice (some ⟨G2, 0, none⟩) fs.length c2, .int .i64 ↑fs.length, .bool true, u44, u45, y 0, y 1, y 2, y 3, y 4, y 5, y 6, y 7, y 8, y 9, u56, u57, u58, u59, u60, u61, u62, u63, undef, undef, undef, undef, undef, undef, undef, undef, undef, undef, undef, undef, undef, undef, undef, undef, undef, undef, undef, undef, undef, undef, undef, undef, undef, undef, undef, undef, undef, undef, undef], defers := [] }) (fun i9 => match i9 with | 0 => u46 | 1 => u47 | 2 => u48 | 3 => u49 | 4 => u50 | 5 => u51 | 6 => u52 | 7 => u53 | 8 => u54 | 9 => u55 | 10 => .bool true | _ => undef) (fun i9 x X => match i9 with
                | 0 => x = .bool true
                | 1 => x = .bool true
                | 2 => x = undef
                | 3 => x = undef
                | 4 => x = undef
                | 5 => x = undef
                | 6 => x = undef
                | 7 => x = undef
                | 8 => x = undef
                | 9 => ∃ c : Bool, x = .bool c
                | 10 => ∃ c : Bool, x = .bool c
                | _ => True) (fun X => MdD w X b g n V (.slice (some ⟨B1, 0, none⟩) m 4) (.slice (some ⟨G2, 0, none⟩) fs.length c2) ss fs ∧ FlBox w X g f (some ⟨G2, 0, none⟩) fs.length c2 s t) (fun X X' => True) (by kernel_rfl) rfl (⟨MI.out.below (Below.refl _ _).drew, FI.out.call MI.out (grown_below (Below.refl _ _).drew)⟩) ?monot ?stept ?fint
              case monot =>
                intro i9 x X X' hi9 hG hS h
                match i9, hi9 with
                | 0, _ | 1, _ | 2, _ | 3, _ | 4, _ | 5, _ | 6, _ | 7, _ | 8, _ => exact h
                | 9, _ => exact h
                | 10, _ => exact h
              case stept =>
                intro i9 y X hi9 hG hd hu K hK
                have HU := hid hu
                clear hu
                match i9, hi9 with
                | 0, _ =>
                  have q10 : y 10 = .bool true := HU.out 10 (by decide)
                  refine op_go rfl rfl ?_
                  go_simp
                  exact hK.out _ (upd y 10 _) _ _ (upd_on rfl q10) rfl rfl hG (trivial)
                | 1, _ =>
                  have q0 : y 0 = .bool true := hd 0 (by decide)
                  refine op_go rfl rfl ?_
                  go_simp
                  exact hK.out _ (upd y 0 _) _ _ (upd_on rfl q0) rfl rfl hG (trivial)
                | 2, _ =>
                  have q1 : y 1 = .bool true := hd 1 (by decide)
                  exact op_skip rfl (by simp [Region.wanted, yielded, q1]) (hK.out _ _ _ _ rfl rfl rfl hG (trivial))
                | 3, _ =>
                  have q1 : y 1 = .bool true := hd 1 (by decide)
                  exact op_skip rfl (by simp [Region.wanted, yielded, q1]) (hK.out _ _ _ _ rfl rfl rfl hG (trivial))
                | 4, _ =>
                  have q1 : y 1 = .bool true := hd 1 (by decide)
                  exact op_skip rfl (by simp [Region.wanted, yielded, q1]) (hK.out _ _ _ _ rfl rfl rfl hG (trivial))
                | 5, _ =>
                  have q1 : y 1 = .bool true := hd 1 (by decide)
                  exact op_skip rfl (by simp [Region.wanted, yielded, q1]) (hK.out _ _ _ _ rfl rfl rfl hG (trivial))
                | 6, _ =>
                  have q1 : y 1 = .bool true := hd 1 (by decide)
                  exact op_skip rfl (by simp [Region.wanted, yielded, q1]) (hK.out _ _ _ _ rfl rfl rfl hG (trivial))
                | 7, _ =>
                  have q1 : y 1 = .bool true := hd 1 (by decide)
                  exact op_skip rfl (by simp [Region.wanted, yielded, q1]) (hK.out _ _ _ _ rfl rfl rfl hG (trivial))
                | 8, _ =>
                  have q1 : y 1 = .bool true := hd 1 (by decide)
                  exact op_skip rfl (by simp [Region.wanted, yielded, q1]) (hK.out _ _ _ _ rfl rfl rfl hG (trivial))
                | 9, _ =>
                  have q1 : y 1 = .bool true := hd 1 (by decide)
                  have q8 : y 8 = undef := hd 8 (by decide)
                  refine op_go rfl rfl ?_
                  go_simp
                  exact hK.out _ (upd (upd y 1 _) 8 _) _ _ (upd_on (upd_on rfl q1) q8) rfl ⟨_, rfl⟩ hG trivial
                | 10, _ =>
                  obtain ⟨c, qc⟩ : ∃ c : Bool, y 9 = .bool c := hd 9 (by decide)
                  refine op_go rfl rfl ?_
                  go_simp
                  exact hK.out _ (upd y 9 _) _ _ (upd_on rfl qc) rfl ⟨_, rfl⟩ hG trivial
              case fint =>
                intro y X hG hd
                obtain ⟨c, q10⟩ : ∃ c : Bool, y 10 = .bool c := hd 10 (by decide)
                have MI := hid hG.1
                have FI := hid hG.2
                clear hG hd
                go_wp2
                go_roundw
                case rel => exact ⟨c, i + 1, q10, by go_num, by omega, MI.out, FI.out⟩
                case measure => simp [intOf]; omega
          · obtain ⟨d0, d1⟩ := MI.out.cells
            obtain ⟨f0, f1, _⟩ := FI.out.cells
            cases q
            · have HOA := hid (MI.out.below ((Below.refl _ _).alloc (Nat.le_refl _) (.cells #[.string s, .string t] 116)))
              have hsz : w.heap.size + 1 ≤ (wr.alloc (.cells #[.string s, .string t] 116)).heap.size := by have := MI.out.gr.size; simp; omega
              have HC1 := hid (show ∀ (j : Nat) (u : Value), ([.string s, .string t] : List Value)[j]? = some u → (wr.alloc (.cells #[.string s, .string t] 116)).cell? ((⟨wr.heap.size, 0, none⟩ : Addr).add j) = some u from fun j u hj => by
                rw [Addr.add_lit, Nat.zero_add, Lib.cell_of_heap (heap_alloc_new _ _)]
                simpa using hj)
              have hfl : fs.length ≤ 5 := by omega
              go_wp2_with (first | (at_builtin; refine wpList_append_own _ rfl _ _ 24 rfl (w.heap.size + 1) 116 j0 _ 2 32 Tryz.underlying24 hj hj0 hj1 hj2 rfl (by decide) _ _ _ rfl HOA.out.o2 ⟨wr.heap.size, 0, none⟩ 1 1 [.string s, .string t] rfl rfl HC1.out ?c2 ?c3 ?c4 hsz ?_) | fail)
              case c2 => simp [Value.oneCell']
              case c3 => unfold maxLen; omega
              case c4 => omega
              intro v' w' ho hg _
              have hx := HOA.out.hcells hg
              obtain ⟨a', c', rfl⟩ := ownB_form ho
              have M9 := hid (HOA.out.flow ho hg hs ht)
              obtain ⟨d0, d1, df⟩ := hx
              clear ho hg HOA HC1
              go_wp2
              go_roundw
              case rel => exact ⟨k - 1, _, _, by go_num, by omega, by simp; omega, M9.out⟩
              case measure => simp [intOf]; omega
            · go_wp2
              go_roundw
              case rel => exact ⟨k - 1, _, fs, by go_num, by omega, by omega, MI.out⟩
              case measure => simp [intOf]; omega
    · have hk1 : k = 0 := by omega
      subst hk1
      go_wp2_with fail
      refine (cO.out 20 _ M.out.dr (by decide)).mono ?_
      rintro e w3 ⟨c, rfl, hd3, hg3⟩
      have M3 := hid (M.out.call hd3 hg3)
      clear hd3 hg3 M
      have hlen : Hid (ss.length ≤ 4 ∧ fs.length ≤ 5) := hid ⟨by have := HLM.out; omega, by omega⟩
      have hfl : fs.length ≤ 5 := hlen.out.2
      cases c
      · have M9 := M3
        obtain ⟨d0, d1⟩ := M9.out.cells
        obtain ⟨df, df0⟩ := M9.out.zs
        obtain ⟨r0, r1⟩ := M9.out.rcells
        obtain ⟨z0, z1⟩ := M9.out.ends (.slice (some ⟨B1, 0, none⟩) m 4) (.slice A2 fs.length c2)
        go_wp2
        refine bodyPost_ret (v := .agg #[.slice (some ⟨B1, 0, none⟩) m 4, .slice A2 fs.length c2]) (by simp [results, Tryz.results44, go_sem, z0, z1]) rfl ?_
        exact ⟨_, _, _, _, rfl, M9.out.fin ⟨by have := hlen.out; omega, by have := hlen.out; omega⟩ _ _⟩
      · go_wp2_with fail
        refine (cN.out 4 _ M3.out.dr (by decide)).mono ?_
        rintro e w4 ⟨r4, rfl, ⟨l4, u4, _⟩, hd4, hg4⟩
        have u4 := u4 (by decide)
        have M4 := hid (M3.out.call hd4 hg4)
        clear hd4 hg4 M3
        obtain ⟨d0, d1⟩ := M4.out.cells
        obtain ⟨df, df0⟩ := M4.out.zs
        have hsz4 : w.heap.size + 1 ≤ w4.heap.size := by have := lt_heap M4.out.hr; omega
        by_cases h0 : r4 = 0
        · subst h0
          have A0 := hid (M4.out.below ((Below.refl _ _).alloc (Nat.le_refl _) (.cells #[] 9)))
          have A1 := hid (A0.out.below ((Below.refl _ _).alloc (Nat.le_refl _) (.cells #[.string ⟨#[97]⟩] 9)))
          obtain ⟨e0, e1⟩ := A0.out.cells
          go_wp2_with (first | (at_builtin; refine wpList_append_own _ rfl _ _ 23 rfl (w.heap.size + 1) 9 i0 _ 1 16 Tryz.underlying23 hi hz0 hz1 hz2 rfl (by decide) _ _ _ rfl A1.out.o1 ⟨w4.heap.size + 1, 0, none⟩ 1 1 [.string ⟨#[97]⟩] rfl rfl ?c1 ?c2 ?c3 ?c4 ?c5 ?_) | fail)
          case c1 =>
            intro j u hj
            rw [Addr.add_lit, Nat.zero_add, Lib.cell_of_heap (heap_alloc_new2 w4 _ _)]
            simpa using hj
          case c2 => simp [Value.oneCell']
          case c3 => unfold maxLen; have := hlen.out; omega
          case c4 => have := hlen.out; omega
          case c5 => simp; omega
          intro v' w5 ho hg _
          obtain ⟨a', c', rfl⟩ := ownB_form ho
          obtain ⟨g', rfl⟩ := own_some ho (by omega)
          have HX := hid (show ∀ (j : Nat) (u : Value), (ss.map Value.string ++ [.string ⟨#[97]⟩])[j]? = some u → w5.cell? ((⟨g', 0, none⟩ : Addr).add j) = some u from fun j u hj => by
            rw [Addr.add_lit, Nat.zero_add, ho.cellAt j (by obtain ⟨hl, _⟩ := List.getElem?_eq_some_iff.1 hj; simp at hl; omega)]
            exact hj)
          have HU := hid (show ∀ u ∈ ss.map Value.string ++ [Value.string ⟨#[97]⟩], u.oneCell' = true from fun u hu => strs_one (ss ++ [⟨#[97]⟩]) u (by simpa using hu))
          have hc5 : Chg (fun j => (Value.slice (some ⟨B1, 0, none⟩) m 4).ownBlock = some j) w4 w5 := ((Chg.of_below ((Below.refl _ _).alloc (Nat.le_refl _) _)).trans (Chg.of_below ((Below.refl _ _).alloc (Nat.le_refl _) _))).trans (grownChg hg)
          have hE5 : w5.heap[w4.heap.size]? = some (.cells #[] 9 (0, 0)) := (hg.block _ (by simp; omega) (fun e => by have := (own_lt M4.out.o1 _ e.symm).2; omega)).trans ((Below.heap_alloc _ _ _ (by simp)).trans (heap_alloc_new w4 _))
          have hO5 : w5.ownsRow (w.heap.size + 1) 9 1 (.slice (some ⟨w4.heap.size, 0, none⟩) 0 0) 0 [] := ⟨rfl, .inr ⟨w4.heap.size, 0, _, rfl, hsz4, hE5, Nat.le_refl _, by unfold maxLen; omega, rfl, rfl⟩⟩
          have HO5 := hid hO5
          have HC5 := hid hc5
          have hs5 : w.heap.size + 1 ≤ w5.heap.size := Nat.le_trans hsz4 hc5.size
          clear ho hg hE5 hO5 hc5 e0 e1 A0 A1
          go_wp2_with (first | (at_builtin; refine wpList_append_own _ rfl _ _ 23 rfl (w.heap.size + 1) 9 i0 _ 1 16 Tryz.underlying23 hi hz0 hz1 hz2 rfl (by decide) _ _ _ rfl HO5.out ⟨g', 0, none⟩ (ss.length + 1) _ (ss.map Value.string ++ [.string ⟨#[97]⟩]) rfl ?c1 HX.out HU.out ?c3 ?c4 hs5 ?_) | fail)
          case c1 => simp
          case c3 => unfold maxLen; have := hlen.out; omega
          case c4 => have := hlen.out; omega
          intro v' w6 ho hg _
          obtain ⟨a6, c6, rfl⟩ := ownB_form ho
          have hc6 : Chg (fun j => (Value.slice (some ⟨B1, 0, none⟩) m 4).ownBlock = some j) w4 w6 := ⟨hg.os.trans HC5.out.os, hg.tape.trans HC5.out.tape, hg.output.trans HC5.out.output, Nat.le_trans HC5.out.size hg.size, fun k hk hp => (hg.block k (Nat.lt_of_lt_of_le hk HC5.out.size) (fun e => by simp [Value.ownBlock] at e; omega)).trans (HC5.out.block k hk hp)⟩
          have hd6 := (hc6.block g (lt_heap M4.out.hd) (fun e => own_ne M4.out.o1 M4.out.hd (by decide) g e rfl)).trans M4.out.hd
          have M9 := hid (M4.out.set1 (v := .slice a6 (ss.length + 1) c6) (ss' := ss ++ [⟨#[97]⟩]) hc6 (by simpa using ho) (fun x hx => by
            rcases List.mem_append.1 hx with h' | h'
            · exact M4.out.sh.1 x h'
            · rw [List.mem_singleton] at h'; subst h'; decide))
          have d0 : w6.cell? ⟨g, 0, none⟩ = some (.slice (some ⟨B1, 0, none⟩) m 4) := by rw [Lib.cell_of_heap hd6]; rfl
          have df : ∀ j, w6.frozen? ⟨g, j, none⟩ = false := fun j => Lib.frozen_of_heap hd6 j
          clear ho hg hc6 hd6 HX HU HC5 HO5 M4
          go_upto_region 22 with fail
          generalize w6.setCell ⟨g, 0, none⟩ (.slice a6 (ss.length + 1) c6) = W9 at *
          clear d0 df
          obtain ⟨d0, d1⟩ := M9.out.cells
          obtain ⟨df, df0⟩ := M9.out.zs
          obtain ⟨r0, r1⟩ := M9.out.rcells
          obtain ⟨z0, z1⟩ := M9.out.ends (.slice a6 (ss.length + 1) c6) (.slice A2 fs.length c2)
          go_wp2
          refine bodyPost_ret (v := .agg #[.slice a6 (ss.length + 1) c6, .slice A2 fs.length c2]) (by simp [results, Tryz.results44, go_sem, z0, z1]) rfl ?_
          exact ⟨_, _, _, _, rfl, M9.out.fin ⟨by have := hlen.out; simp; omega, by have := hlen.out; omega⟩ _ _⟩
        · by_cases h1 : r4 = 1
          · subst h1
            have HOA := hid (M4.out.below ((Below.refl _ _).alloc (Nat.le_refl _) (.cells #[.string ⟨#[97]⟩, .string ⟨#[122]⟩] 116)))
            have hsz : w.heap.size + 1 ≤ (w4.alloc (.cells #[.string ⟨#[97]⟩, .string ⟨#[122]⟩] 116)).heap.size := by simp; omega
            have HC1 := hid (show ∀ (j : Nat) (u : Value), ([.string ⟨#[97]⟩, .string ⟨#[122]⟩] : List Value)[j]? = some u → (w4.alloc (.cells #[.string ⟨#[97]⟩, .string ⟨#[122]⟩] 116)).cell? ((⟨w4.heap.size, 0, none⟩ : Addr).add j) = some u from fun j u hj => by
              rw [Addr.add_lit, Nat.zero_add, Lib.cell_of_heap (heap_alloc_new _ _)]
              simpa using hj)
            go_wp2_with (first | (at_builtin; refine wpList_append_own _ rfl _ _ 24 rfl (w.heap.size + 1) 116 j0 _ 2 32 Tryz.underlying24 hj hj0 hj1 hj2 rfl (by decide) _ _ _ rfl HOA.out.o2 ⟨w4.heap.size, 0, none⟩ 1 1 [.string ⟨#[97]⟩, .string ⟨#[122]⟩] rfl rfl HC1.out ?c2 ?c3 ?c4 hsz ?_) | fail)
            case c2 => simp [Value.oneCell']
            case c3 => unfold maxLen; omega
            case c4 => omega
            intro v' w' ho hg _
            have hx := HOA.out.hcells hg
            obtain ⟨a', c', rfl⟩ := ownB_form ho
            have M9 := hid (HOA.out.flow ho hg (by decide) (by decide))
            obtain ⟨d0, d1, df⟩ := hx
            clear ho hg HOA HC1 M4
            go_upto_region 22 with fail
            generalize w'.setCell ⟨g, 1, none⟩ (.slice a' (fs.length + 1) c') = W9 at *
            clear d0 d1 df df0
            obtain ⟨d0, d1⟩ := M9.out.cells
            obtain ⟨df, df0⟩ := M9.out.zs
            obtain ⟨r0, r1⟩ := M9.out.rcells
            obtain ⟨z0, z1⟩ := M9.out.ends (.slice (some ⟨B1, 0, none⟩) m 4) (.slice a' (fs.length + 1) c')
            go_wp2
            refine bodyPost_ret (v := .agg #[.slice (some ⟨B1, 0, none⟩) m 4, .slice a' (fs.length + 1) c']) (by simp [results, Tryz.results44, go_sem, z0, z1]) rfl ?_
            exact ⟨_, _, _, _, rfl, M9.out.fin ⟨by have := hlen.out; omega, by have := hlen.out; simp; omega⟩ _ _⟩
          · by_cases h2 : r4 = 2
            · subst h2
              have M9 := hid (M4.out.set1 (v := .slice none 0 0) (ss' := []) (Chg.refl _ _) (World.ownsRow_nil _ _ _ _) (fun s hs => absurd hs (by simp)))
              clear M4
              go_upto_region 22 with fail
              generalize w4.setCell ⟨g, 0, none⟩ (.slice none 0 0) = W9 at *
              clear d0 d1 df df0
              obtain ⟨d0, d1⟩ := M9.out.cells
              obtain ⟨df, df0⟩ := M9.out.zs
              obtain ⟨r0, r1⟩ := M9.out.rcells
              obtain ⟨z0, z1⟩ := M9.out.ends (.slice none 0 0) (.slice A2 fs.length c2)
              go_wp2
              refine bodyPost_ret (v := .agg #[.slice none 0 0, .slice A2 fs.length c2]) (by simp [results, Tryz.results44, go_sem, z0, z1]) rfl ?_
              exact ⟨_, _, _, _, rfl, M9.out.fin ⟨by simp, by have := hlen.out; omega⟩ _ _⟩
            · have HCS := hid (own_cellsSl M4.out.o2)
              go_wp2_with (first | (at_builtin; refine wpList_append_sl rfl _ _ 24 rfl (w.heap.size + 1) 116 j0 _ 2 32 Tryz.underlying24 hj hj0 hj1 hj2 rfl (by decide) _ _ _ rfl M4.out.o2 fs.length (fs.flatMap Pr.cells) _ rfl HCS.out ?c3 ?c4 hsz4 ?_) | fail)
              case c3 => unfold maxLen; omega
              case c4 => omega
              intro v' w' ho hg
              have hx := M4.out.hcells hg
              obtain ⟨a', c', rfl⟩ := ownB_form ho
              have M9 := hid (M4.out.set2 (v := .slice a' (fs.length + fs.length) c') (fs' := fs ++ fs) (grownChg hg) (by simpa using ho) (fun f hf => M4.out.sh.2 f (by simpa using hf)))
              obtain ⟨d0, d1, df⟩ := hx
              clear ho hg HCS M4
              go_upto_region 22 with fail
              generalize w'.setCell ⟨g, 1, none⟩ (.slice a' (fs.length + fs.length) c') = W9 at *
              clear d0 d1 df df0
              obtain ⟨d0, d1⟩ := M9.out.cells
              obtain ⟨df, df0⟩ := M9.out.zs
              obtain ⟨r0, r1⟩ := M9.out.rcells
              obtain ⟨z0, z1⟩ := M9.out.ends (.slice (some ⟨B1, 0, none⟩) m 4) (.slice a' (fs.length + fs.length) c')
              go_wp2
              refine bodyPost_ret (v := .agg #[.slice (some ⟨B1, 0, none⟩) m 4, .slice a' (fs.length + fs.length) c']) (by simp [results, Tryz.results44, go_sem, z0, z1]) rfl ?_
              exact ⟨_, _, _, _, rfl, M9.out.fin ⟨by have := hlen.out; omega, by have := hlen.out; simp; omega⟩ _ _⟩
end Go.Proofs.YthggcdadipjiiaaGreatDoor
