/-
  What impl.ServiceNew answers: a contract over the seat's program. (Made by mksn.py.)
-/
import Derived.Test.YtadidjhcgmeadaaSnM
import Derived.Test.YtadidjhcgmeadaaImDef2
import Derived.Test.YtadidjhcgmeadaaImOwn
import Derived.Test.YtadidjhcgmeadaaBel
namespace Go.Proofs.Ytadidjhcgmeadaa
open Go.RowKit Go.Sort

theorem def_names {ss : List ByteArray} {fs : List Pr} (h : DefP ss fs) : (∀ i, (h : i < ss.length) → ss[i].size ≤ 1000) ∧ (∀ i, (h : i < fs.length) → fs[i].fst.size ≤ 1000 ∧ fs[i].snd.size ≤ 1000) := by
  have hn : ∀ s, nrB s = true → s.size ≤ 1000 := fun s h => by
    by_cases hh : 1 ≤ s.size ∧ s.size ≤ 20
    · omega
    · rw [nr_no hh] at h; cases h
  have hm : ∀ s, s ∈ ss → s.size ≤ 1000 := fun s hs => by
    obtain ⟨i, hi, rfl⟩ := List.mem_iff_getElem.1 hs
    exact hn _ (h.1.nm i hi)
  exact ⟨fun i hi => hn _ (h.1.nm i hi), fun i hi => ⟨hm _ (h.2.fl i hi).1, hm _ (h.2.fl i hi).2⟩⟩

theorem implSn_set {w V : World} {b1 b2 b6 : Option Addr} {c1 c2 c6 : Nat} {ss : List ByteArray} {fs : List Pr} {es : List Ev} {nx : Int} (hO : SvOwn V (w.heap.size + 1 + 1) (.slice b1 ss.length c1) (.slice b2 fs.length c2) (.slice b6 es.length c6) ss fs es) (hb : Below w.heap.size w V) (hV : w.heap.size + 1 + 1 ≤ V.heap.size) (hR : V.heap[w.heap.size + 1]? = some (.cells #[.slice none 0 0, .slice none 0 0, .slice none 0 0, .int .i64 0] 32 (0, 0))) :
    ((((V.setCell ⟨w.heap.size + 1, 0, none⟩ (.slice b1 ss.length c1)).setCell ⟨w.heap.size + 1, 1, none⟩ (.slice b2 fs.length c2)).setCell ⟨w.heap.size + 1, 2, none⟩ (.slice b6 es.length c6)).setCell ⟨w.heap.size + 1, 3, none⟩ (.int .i64 nx)).heap[w.heap.size + 1]? = some (.cells #[.slice b1 ss.length c1, .slice b2 fs.length c2, .slice b6 es.length c6, .int .i64 nx] 32 (0, 0)) ∧
    SvOwn ((((V.setCell ⟨w.heap.size + 1, 0, none⟩ (.slice b1 ss.length c1)).setCell ⟨w.heap.size + 1, 1, none⟩ (.slice b2 fs.length c2)).setCell ⟨w.heap.size + 1, 2, none⟩ (.slice b6 es.length c6)).setCell ⟨w.heap.size + 1, 3, none⟩ (.int .i64 nx)) w.heap.size (.slice b1 ss.length c1) (.slice b2 fs.length c2) (.slice b6 es.length c6) ss fs es ∧
    Below w.heap.size w ((((V.setCell ⟨w.heap.size + 1, 0, none⟩ (.slice b1 ss.length c1)).setCell ⟨w.heap.size + 1, 1, none⟩ (.slice b2 fs.length c2)).setCell ⟨w.heap.size + 1, 2, none⟩ (.slice b6 es.length c6)).setCell ⟨w.heap.size + 1, 3, none⟩ (.int .i64 nx)) := by
  have hC : Chg (fun j => j = w.heap.size + 1) V ((((V.setCell ⟨w.heap.size + 1, 0, none⟩ (.slice b1 ss.length c1)).setCell ⟨w.heap.size + 1, 1, none⟩ (.slice b2 fs.length c2)).setCell ⟨w.heap.size + 1, 2, none⟩ (.slice b6 es.length c6)).setCell ⟨w.heap.size + 1, 3, none⟩ (.int .i64 nx)) := (((Chg.of_grown (p := fun j => j = w.heap.size + 1) (grown_set _ (w.heap.size + 1) 0 _) rfl).trans (Chg.of_grown (grown_set _ (w.heap.size + 1) 1 _) rfl)).trans (Chg.of_grown (grown_set _ (w.heap.size + 1) 2 _) rfl)).trans (Chg.of_grown (grown_set _ (w.heap.size + 1) 3 _) rfl)
  refine ⟨?_, ?_, ?_⟩
  · exact blk_set (L := [_, _, _, _]) (i := 3) (blk_set (L := [_, _, _, _]) (i := 2) (blk_set (L := [_, _, _, _]) (i := 1) (blk_set (L := [_, _, _, _]) (i := 0) hR _) _) _) _
  · exact SvOwn.chg ⟨⟨ownB_le hO.d.o1 (by omega), ownB_le hO.d.o2 (by omega)⟩, ownB_le hO.o6 (by omega)⟩ hC (own_ne hO.d.o1 hR (by decide)) (own_ne hO.d.o2 hR (by decide)) (own_ne hO.o6 hR (by decide))
  · exact hb.trans (hC.below (by omega) (fun j (h : j = _) => by omega))

set_option maxRecDepth 100000 in
set_option maxHeartbeats 4000000 in
theorem implServiceNew_any (a1 a2 : Option Addr) (k1 k2 : Nat) (ss : List ByteArray) (fs : List Pr) (w : World) (hD : DefSl w a1 a2 k1 k2 ss fs) (F1 : FitS ss) (n1 : ss.length ≤ maxLen) (n2 : fs.length ≤ maxLen) :
    Calls Try.prog 7 #[.agg #[.slice a1 ss.length k1, .slice a2 fs.length k2]] w fun x w' => ∃ b1 b2 b6 c1 c2 c6, x = .returned (svV b1 b2 b6 c1 c2 c6 (snS ss fs) (snF ss fs) [] (snN ss fs)) ∧ SvOwn w' w.heap.size (.slice b1 (snS ss fs).length c1) (.slice b2 (snF ss fs).length c2) (.slice b6 0 c6) (snS ss fs) (snF ss fs) [] ∧ Below w.heap.size w w' := by
  have HBW := hid (show Below w.heap.size w ((w.alloc (.cells #[.slice a1 ss.length k1, .slice a2 fs.length k2] 29)).alloc (.cells #[.slice none 0 0, .slice none 0 0, .slice none 0 0, .int .i64 0] 32)) from below2 _ _ _)
  have HZ := hid (show ((w.alloc (.cells #[.slice a1 ss.length k1, .slice a2 fs.length k2] 29)).alloc (.cells #[.slice none 0 0, .slice none 0 0, .slice none 0 0, .int .i64 0] 32)).heap.size = w.heap.size + 1 + 1 by simp)
  have HR := hid (show ((w.alloc (.cells #[.slice a1 ss.length k1, .slice a2 fs.length k2] 29)).alloc (.cells #[.slice none 0 0, .slice none 0 0, .slice none 0 0, .int .i64 0] 32)).heap[w.heap.size + 1]? = some (.cells #[.slice none 0 0, .slice none 0 0, .slice none 0 0, .int .i64 0] 32 (0, 0)) by have h := heap_alloc_new (w.alloc (.cells #[.slice a1 ss.length k1, .slice a2 fs.length k2] 29)) (.cells #[.slice none 0 0, .slice none 0 0, .slice none 0 0, .int .i64 0] 32); rw [World.size_alloc] at h; exact h)
  have HA := hid (show ((w.alloc (.cells #[.slice a1 ss.length k1, .slice a2 fs.length k2] 29)).alloc (.cells #[.slice none 0 0, .slice none 0 0, .slice none 0 0, .int .i64 0] 32)).heap[w.heap.size]? = some (.cells #[.slice a1 ss.length k1, .slice a2 fs.length k2] 29 (0, 0)) from (Below.heap_alloc _ _ _ (by simp)).trans (heap_alloc_new w (.cells #[.slice a1 ss.length k1, .slice a2 fs.length k2] 29)))
  have HD := hid hD
  have cR := hid (fun V (h : DefSl V a1 a2 k1 k2 ss fs) => implDefRight_any a1 a2 k1 k2 ss fs V h.h1 h.h2 F1 n1 n2)
  have HN1 := hid n1
  have HN2 := hid n2
  clear hD F1 n1 n2
  by_cases hP : DefP ss fs
  · obtain ⟨e1, e2, e3⟩ := sn_yes hP
    rw [e1, e2, e3]
    clear e1 e2 e3
    go_enter Try.func7, Try.ntmps7
    go_upto_region 1 with fail
    generalize ((w.alloc (.cells #[.slice a1 ss.length k1, .slice a2 fs.length k2] 29)).alloc (.cells #[.slice none 0 0, .slice none 0 0, .slice none 0 0, .int .i64 0] 32)) = V at *
    have a0 : V.cell? ⟨w.heap.size, 0, none⟩ = some (.slice a1 ss.length k1) := by rw [Lib.cell_of_heap HA.out]; rfl
    have a1' : V.cell? ⟨w.heap.size, 1, none⟩ = some (.slice a2 fs.length k2) := by rw [Lib.cell_of_heap HA.out]; rfl
    go_wp2_with fail
    refine (cR.out V (HD.out.stay HBW.out)).mono ?_
    rintro x V1 ⟨hx, hb1⟩
    have HB1 := hid (HBW.out.trans (hb1.mono HBW.out.size))
    have HR1 := hid ((hb1.block _ (lt_heap HR.out)).trans HR.out)
    have HA1 := hid ((hb1.block _ (lt_heap HA.out)).trans HA.out)
    have hz1 := hb1.size
    have hzz := HZ.out
    clear hb1 a0 a1' cR
    obtain rfl := hx.yes hP
    have HL1 := hid hP.1.n2
    have HL2 := hid hP.2.m
    have a0 : V1.cell? ⟨w.heap.size, 0, none⟩ = some (.slice a1 ss.length k1) := by rw [Lib.cell_of_heap HA1.out]; rfl
    have a1' : V1.cell? ⟨w.heap.size, 1, none⟩ = some (.slice a2 fs.length k2) := by rw [Lib.cell_of_heap HA1.out]; rfl
    have G1 := hid (def_names hP)
    go_wp2_with fail
    refine (ownDef_any a1 a2 k1 k2 ss fs V1 (HD.out.stay HB1.out) G1.out.1 G1.out.2 (by have := HL1.out; omega) (by have := HL2.out; omega)).mono ?_
    rintro x V2 ⟨b1, b2, c1, c2, rfl, hO, hb2⟩
    have hO2 : SvOwn V2 V1.heap.size (.slice b1 ss.length c1) (.slice b2 fs.length c2) (.slice none ([] : List Ev).length 0) ss fs [] := ⟨hO, World.ownsRow_nil _ _ _ _⟩
    clear hO
    have HR2 := hid ((hb2.block _ (lt_heap HR1.out)).trans HR1.out)
    have HB2 := hid (HB1.out.trans (hb2.mono HB1.out.size))
    have hz2 := hb2.size
    have r0 : V2.cell? ⟨w.heap.size + 1, 0, none⟩ = some (.slice none 0 0) := by rw [Lib.cell_of_heap HR2.out]; rfl
    have r1 : V2.cell? ⟨w.heap.size + 1, 1, none⟩ = some (.slice none 0 0) := by rw [Lib.cell_of_heap HR2.out]; rfl
    have r2 : V2.cell? ⟨w.heap.size + 1, 2, none⟩ = some (.slice none 0 0) := by rw [Lib.cell_of_heap HR2.out]; rfl
    have r3 : V2.cell? ⟨w.heap.size + 1, 3, none⟩ = some (.int .i64 0) := by rw [Lib.cell_of_heap HR2.out]; rfl
    have rf := Lib.frozen_of_heap HR2.out
    have hO2' : SvOwn V2 (w.heap.size + 1 + 1) (.slice b1 ss.length c1) (.slice b2 fs.length c2) (.slice none ([] : List Ev).length 0) ss fs [] := ⟨⟨ownB_le hO2.d.o1 (by omega), ownB_le hO2.d.o2 (by omega)⟩, ownB_le hO2.o6 (by omega)⟩
    have HS := hid (implSn_set (nx := 1) hO2' HB2.out (by omega) HR2.out)
    clear hb2 hO2 hO2' a0 a1' hx hP
    go_wp2_with fail
    have hF := HS.out.1
    have z0 := Lib.cell_of_heap hF (j := 0)
    have z1 := Lib.cell_of_heap hF (j := 1)
    have z2 := Lib.cell_of_heap hF (j := 2)
    have z3 := Lib.cell_of_heap hF (j := 3)
    simp at z0 z1 z2 z3
    exact bodyPost_ret (v := svV b1 b2 none c1 c2 0 ss fs [] 1) (by simp [results, Try.results7, go_sem, z0, z1, z2, z3]) rfl ⟨b1, b2, none, c1, c2, 0, rfl, HS.out.2.1, HS.out.2.2⟩
  · obtain ⟨e1, e2, e3⟩ := sn_no hP
    rw [e1, e2, e3]
    clear e1 e2 e3
    go_enter Try.func7, Try.ntmps7
    go_upto_region 1 with fail
    generalize ((w.alloc (.cells #[.slice a1 ss.length k1, .slice a2 fs.length k2] 29)).alloc (.cells #[.slice none 0 0, .slice none 0 0, .slice none 0 0, .int .i64 0] 32)) = V at *
    have a0 : V.cell? ⟨w.heap.size, 0, none⟩ = some (.slice a1 ss.length k1) := by rw [Lib.cell_of_heap HA.out]; rfl
    have a1' : V.cell? ⟨w.heap.size, 1, none⟩ = some (.slice a2 fs.length k2) := by rw [Lib.cell_of_heap HA.out]; rfl
    go_wp2_with fail
    refine (cR.out V (HD.out.stay HBW.out)).mono ?_
    rintro x V1 ⟨hx, hb1⟩
    have HB1 := hid (HBW.out.trans (hb1.mono HBW.out.size))
    have HR1 := hid ((hb1.block _ (lt_heap HR.out)).trans HR.out)
    have HA1 := hid ((hb1.block _ (lt_heap HA.out)).trans HA.out)
    have hz1 := hb1.size
    have hzz := HZ.out
    clear hb1 a0 a1' cR
    obtain rfl := hx.no hP
    have r0 : V1.cell? ⟨w.heap.size + 1, 0, none⟩ = some (.slice none 0 0) := by rw [Lib.cell_of_heap HR1.out]; rfl
    have r1 : V1.cell? ⟨w.heap.size + 1, 1, none⟩ = some (.slice none 0 0) := by rw [Lib.cell_of_heap HR1.out]; rfl
    have r2 : V1.cell? ⟨w.heap.size + 1, 2, none⟩ = some (.slice none 0 0) := by rw [Lib.cell_of_heap HR1.out]; rfl
    have r3 : V1.cell? ⟨w.heap.size + 1, 3, none⟩ = some (.int .i64 0) := by rw [Lib.cell_of_heap HR1.out]; rfl
    have rf := Lib.frozen_of_heap HR1.out
    have HS := hid (implSn_set (b1 := none) (b2 := none) (b6 := none) (c1 := 0) (c2 := 0) (c6 := 0) (ss := []) (fs := []) (es := []) (nx := 0) (sv_none V1 (w.heap.size + 1 + 1)) HB1.out (by omega) HR1.out)
    clear hx hP
    go_wp2_with fail
    have hF := HS.out.1
    have z0 := Lib.cell_of_heap hF (j := 0)
    have z1 := Lib.cell_of_heap hF (j := 1)
    have z2 := Lib.cell_of_heap hF (j := 2)
    have z3 := Lib.cell_of_heap hF (j := 3)
    simp at z0 z1 z2 z3
    exact bodyPost_ret (v := svV none none none 0 0 0 [] [] [] 0) (by simp [results, Try.results7, go_sem, z0, z1, z2, z3]) rfl ⟨none, none, none, 0, 0, 0, rfl, HS.out.2.1, HS.out.2.2⟩
end Go.Proofs.Ytadidjhcgmeadaa
