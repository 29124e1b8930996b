/-
  An event, field by field, and what it is for one to be right. Of no function.
-/
import Derived.Test.YtadidjhcgmeadaaNm
namespace Go.Proofs.Ytadidjhcgmeadaa
open Go.RowKit

def numB (n : Int) : Bool := decide (1 ≤ n) && decide (n ≤ 1000000)
def timB (n : Int) : Bool := decide (0 ≤ n) && decide (n ≤ 1000000)
/-- An event, field by field. -/
structure Ev where
  seq : Int
  time : Int
  run : Int
  kind : Int
  step : ByteArray
  val : ByteArray
def kndB (k : Int) (s v : ByteArray) : Bool :=
  if k = 1 ∨ k = 6 then decide (s = ByteArray.empty) && decide (v = ByteArray.empty)
  else if k = 2 ∨ k = 3 ∨ k = 5 then nrB s && decide (v = ByteArray.empty)
  else if k = 4 then nrB s && decide (v.size ≤ 40) else false
def evB (e : Ev) : Bool := numB e.seq && (numB e.run && (timB e.time && kndB e.kind e.step e.val))
end Go.Proofs.Ytadidjhcgmeadaa
