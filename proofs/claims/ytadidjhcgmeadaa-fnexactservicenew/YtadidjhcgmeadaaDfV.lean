/-
  What a Def holds. Of no function.
-/
import Derived.Test.YtadidjhcgmeadaaStrs
import Derived.Test.YtadidjhcgmeadaaPrSum
namespace Go.Proofs.Ytadidjhcgmeadaa
open Go.RowKit

abbrev defV (a1 a2 : Option Addr) (k1 k2 : Nat) (ss : List ByteArray) (fs : List Pr) : Value := .agg #[.slice a1 ss.length k1, .slice a2 fs.length k2]
/-- What a Def's rows, a State's rows hold. -/
structure DefSl (w : World) (a1 a2 : Option Addr) (k1 k2 : Nat) (ss : List ByteArray) (fs : List Pr) : Prop where
  h1 : StrSl w (.slice a1 ss.length k1) ss
  h2 : PrSl w (.slice a2 fs.length k2) fs
  l1 : ∀ g o, a1 = some ⟨g, o, none⟩ → g < w.heap.size
  l2 : ∀ g o, a2 = some ⟨g, o, none⟩ → g < w.heap.size
theorem DefSl.stay {w w' : World} {a1 a2 : Option Addr} {k1 k2 : Nat} {ss : List ByteArray} {fs : List Pr} (h : DefSl w a1 a2 k1 k2 ss fs) (hb : Below w.heap.size w w') : DefSl w' a1 a2 k1 k2 ss fs := ⟨h.h1.stay hb (Nat.le_refl _), h.h2.stay hb (Nat.le_refl _), fun g o e => Nat.lt_of_lt_of_le (h.l1 g o e) hb.size, fun g o e => Nat.lt_of_lt_of_le (h.l2 g o e) hb.size⟩
end Go.Proofs.Ytadidjhcgmeadaa
