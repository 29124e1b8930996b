/-
  What laws.toDef makes, in one word. A contract over the seat's program.
-/
import Derived.Test.YtadidjhcgmeadaaDfLaw
import Derived.Test.YtadidjhcgmeadaaDfV
import Derived.Test.YtadidjhcgmeadaaOwnB
namespace Go.Proofs.Ytadidjhcgmeadaa
open Go.RowKit Go.Sort

structure DefOwn (w : World) (lo : Nat) (u1 u2 : Value) (ss : List ByteArray) (fs : List Pr) : Prop where
  o1 : w.ownsRow lo 9 1 u1 ss.length (ss.map Value.string)
  o2 : w.ownsRow lo 57 2 u2 fs.length (fs.flatMap Pr.cells)
theorem DefOwn.stay {w w' : World} {lo : Nat} {u1 u2 : Value} {ss : List ByteArray} {fs : List Pr} (h : DefOwn w lo u1 u2 ss fs) (hb : Below w.heap.size w w') : DefOwn w' lo u1 u2 ss fs := ⟨ownB_stay h.o1 hb, ownB_stay h.o2 hb⟩
theorem own_slice_lt {w : World} {lo size n k : Nat} {e : TypeId} {a : Option Addr} {xs : List Value} (h : w.ownsRow lo e size (.slice a n k) n xs) : ∀ g o, a = some ⟨g, o, none⟩ → g < w.heap.size := fun g o ha => (h.lt g (by rw [ha]; rfl)).2
theorem DefOwn.sl {w : World} {lo k1 k2 : Nat} {a1 a2 : Option Addr} {ss : List ByteArray} {fs : List Pr} (h : DefOwn w lo (.slice a1 ss.length k1) (.slice a2 fs.length k2) ss fs) : DefSl w a1 a2 k1 k2 ss fs := ⟨str_of_own h.o1, pr_of_own h.o2, own_slice_lt h.o1, own_slice_lt h.o2⟩
theorem toDef_own (a1 a2 : Option Addr) (k1 k2 : Nat) (ss : List ByteArray) (fs : List Pr) (w : World) (h : DefSl w a1 a2 k1 k2 ss fs) (n1 : ss.length ≤ 1048576) (n2 : fs.length ≤ 1048576) :
    Calls Try.prog 6 #[.agg #[.slice a1 ss.length k1, .slice a2 fs.length k2]] w fun x w' => ∃ b1 b2 c1 c2, x = .returned (.agg #[.slice b1 ss.length c1, .slice b2 fs.length c2]) ∧ DefOwn w' w.heap.size (.slice b1 ss.length c1) (.slice b2 fs.length c2) ss fs ∧ Below w.heap.size w w' := by
  refine (toDef_any a1 a2 k1 k2 ss fs w h.h1 h.h2 n1 n2).mono ?_
  rintro x w' ⟨b1, b2, c1, c2, m, hx, o1, o2, hm, _, hb⟩
  exact ⟨b1, b2, c1, c2, hx, ⟨o1, ownB_le o2 hm⟩, hb⟩
end Go.Proofs.Ytadidjhcgmeadaa
