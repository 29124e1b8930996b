/-
  What laws.eqService answers: a contract over the seat's program.
-/
import Derived.Test.YtadidjhcgmeadaaSvV
import Derived.Test.YtadidjhcgmeadaaEvEq
import Derived.Test.YtadidjhcgmeadaaBel
namespace Go.Proofs.Ytadidjhcgmeadaa
open Go.RowKit Go.Sort

set_option maxRecDepth 100000 in
set_option maxHeartbeats 2000000 in
theorem eqService_same (a1 a2 a6 b1 b2 b6 : Option Addr) (k1 k2 k6 c1 c2 c6 : Nat) (ss : List ByteArray) (fs : List Pr) (es : List Ev) (nx : Int) (w : World) (hD : DefSl w a1 a2 k1 k2 ss fs) (hE : EvSl w (.slice a6 es.length k6) es) (hD' : DefSl w b1 b2 c1 c2 ss fs) (hE' : EvSl w (.slice b6 es.length c6) es) (n1 : ss.length ≤ maxLen) (n2 : fs.length ≤ maxLen) (n6 : es.length ≤ maxLen) :
    Calls Try.prog 8 #[svV a1 a2 a6 k1 k2 k6 ss fs es nx, svV b1 b2 b6 c1 c2 c6 ss fs es nx] w fun x w' => x = .returned (.bool true) ∧ Below w.heap.size w w' := by
  have hb2 : Below w.heap.size w ((w.alloc (.cells #[.slice a1 ss.length k1, .slice a2 fs.length k2, .slice a6 es.length k6, .int .i64 nx] 32)).alloc (.cells #[.slice b1 ss.length c1, .slice b2 fs.length c2, .slice b6 es.length c6, .int .i64 nx] 32)) := below2 _ _ _
  have hs2 : ((w.alloc (.cells #[.slice a1 ss.length k1, .slice a2 fs.length k2, .slice a6 es.length k6, .int .i64 nx] 32)).alloc (.cells #[.slice b1 ss.length c1, .slice b2 fs.length c2, .slice b6 es.length c6, .int .i64 nx] 32)).heap.size = w.heap.size + 1 + 1 := by simp
  have hB := heap_alloc_new (w.alloc (.cells #[.slice a1 ss.length k1, .slice a2 fs.length k2, .slice a6 es.length k6, .int .i64 nx] 32)) (.cells #[.slice b1 ss.length c1, .slice b2 fs.length c2, .slice b6 es.length c6, .int .i64 nx] 32)
  have hA := (Below.heap_alloc (w.alloc (.cells #[.slice a1 ss.length k1, .slice a2 fs.length k2, .slice a6 es.length k6, .int .i64 nx] 32)) (.cells #[.slice b1 ss.length c1, .slice b2 fs.length c2, .slice b6 es.length c6, .int .i64 nx] 32) w.heap.size (by simp)).trans (heap_alloc_new w (.cells #[.slice a1 ss.length k1, .slice a2 fs.length k2, .slice a6 es.length k6, .int .i64 nx] 32))
  rw [World.size_alloc] at hB
  have HA := hid hA
  have HBB := hid hB
  have HB2 := hid hb2
  have c1' := hid (eqDef_same a1 a2 b1 b2 k1 k2 c1 c2 ss fs _ (hD.stay hb2).h1 (hD.stay hb2).h2 (hD'.stay hb2).h1 (hD'.stay hb2).h2 n1 n2)
  have HE := hid (hE.stay hb2 (Nat.le_refl _))
  have HE' := hid (hE'.stay hb2 (Nat.le_refl _))
  have HN6 := hid n6
  clear hD hD' hE hE' hb2 hA hB n1 n2 n6
  go_enter Try.func8, Try.ntmps8
  go_wp2_with fail
  refine c1'.out.mono ?_
  generalize ((w.alloc (.cells #[.slice a1 ss.length k1, .slice a2 fs.length k2, .slice a6 es.length k6, .int .i64 nx] 32)).alloc (.cells #[.slice b1 ss.length c1, .slice b2 fs.length c2, .slice b6 es.length c6, .int .i64 nx] 32)) = V0 at *
  rintro x V1 ⟨rfl, hb1⟩
  have hA1 := (hb1.block _ (lt_heap HA.out)).trans HA.out
  have hB1 := (hb1.block _ (lt_heap HBB.out)).trans HBB.out
  have c2' := hid (eqEventS_any (.slice a6 es.length k6) (.slice b6 es.length c6) es V1 (HE.out.stay hb1 (Nat.le_refl _)) (HE'.out.stay hb1 (Nat.le_refl _)) HN6.out)
  have x2 : V1.cell? ⟨w.heap.size, 2, none⟩ = some (.slice a6 es.length k6) := by rw [Lib.cell_of_heap hA1]; rfl
  have y2 : V1.cell? ⟨w.heap.size + 1, 2, none⟩ = some (.slice b6 es.length c6) := by rw [Lib.cell_of_heap hB1]; rfl
  have HB1 := hid (HB2.out.trans (hb1.mono HB2.out.size))
  have HA1 := hid hA1
  have HBB1 := hid hB1
  clear hb1 hA1 hB1 c1' HA HBB
  go_wp2_with fail
  refine c2'.out.mono ?_
  rintro x V2 ⟨rfl, hb2⟩
  have hA2 := (hb2.block _ (lt_heap HA1.out)).trans HA1.out
  have hB2 := (hb2.block _ (lt_heap HBB1.out)).trans HBB1.out
  have x3 : V2.cell? ⟨w.heap.size, 3, none⟩ = some (.int .i64 nx) := by rw [Lib.cell_of_heap hA2]; rfl
  have y3 : V2.cell? ⟨w.heap.size + 1, 3, none⟩ = some (.int .i64 nx) := by rw [Lib.cell_of_heap hB2]; rfl
  have HB9 := hid (HB1.out.trans (hb2.mono HB1.out.size))
  clear hb2 hA2 hB2 c2' x2 y2
  go_wp2
  go_ret
  exact ⟨rfl, HB9.out⟩
end Go.Proofs.Ytadidjhcgmeadaa
