/-
  A Service's rows. Of no function.
-/
import Derived.Test.YtadidjhcgmeadaaDfOw
import Derived.Test.YtadidjhcgmeadaaEvS
import Derived.Test.YtadidjhcgmeadaaOwnC
namespace Go.Proofs.Ytadidjhcgmeadaa
open Go.RowKit Go.Sort

abbrev svV (a1 a2 a6 : Option Addr) (k1 k2 k6 : Nat) (ss : List ByteArray) (fs : List Pr) (es : List Ev) (nx : Int) : Value := .agg #[.slice a1 ss.length k1, .slice a2 fs.length k2, .slice a6 es.length k6, .int .i64 nx]
structure SvOwn (w : World) (lo : Nat) (u1 u2 u6 : Value) (ss : List ByteArray) (fs : List Pr) (es : List Ev) : Prop where
  d : DefOwn w lo u1 u2 ss fs
  o6 : w.ownsRow lo 64 6 u6 es.length (es.flatMap Ev.cells)
theorem SvOwn.stay {w w' : World} {lo : Nat} {u1 u2 u6 : Value} {ss : List ByteArray} {fs : List Pr} {es : List Ev} (h : SvOwn w lo u1 u2 u6 ss fs es) (hb : Below w.heap.size w w') : SvOwn w' lo u1 u2 u6 ss fs es := ⟨h.d.stay hb, ownB_stay h.o6 hb⟩
theorem SvOwn.chg {p : Nat → Prop} {w w' : World} {lo : Nat} {u1 u2 u6 : Value} {ss : List ByteArray} {fs : List Pr} {es : List Ev} (h : SvOwn w lo u1 u2 u6 ss fs es) (hc : Chg p w w') (h1 : ∀ g, u1.ownBlock = some g → ¬ p g) (h2 : ∀ g, u2.ownBlock = some g → ¬ p g) (h6 : ∀ g, u6.ownBlock = some g → ¬ p g) : SvOwn w' lo u1 u2 u6 ss fs es := ⟨⟨own_chg h.d.o1 hc h1, own_chg h.d.o2 hc h2⟩, own_chg h.o6 hc h6⟩
end Go.Proofs.Ytadidjhcgmeadaa
