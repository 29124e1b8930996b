/-
  Queries: what (*spec.l05Reader).query answers: a contract over the seat's program.
-/
import Derived.Test.YtimlnbfalnkmhaaGreatDoorZQpQc
import Derived.Test.YtimlnbfalnkmhaaGreatDoorZQpQa
import Derived.Test.YtimlnbfalnkmhaaGreatDoorZQpQd
import Derived.Test.YtimlnbfalnkmhaaGreatDoorZQpQn
import Derived.Test.YtimlnbfalnkmhaaGreatDoorZQpQx
import Derived.Test.YtimlnbfalnkmhaaGreatDoorZQpQy
import Derived.Test.YtimlnbfalnkmhaaGreatDoorZQpQz
namespace Go.Proofs.YtimlnbfalnkmhaaGreatDoor
open Go.RowKit

theorem squery_any {b : Nat} {sv : Value} {ws : List ByteArray} (w : World) (h : RdS w b sv ws 0 false) :
    Calls Tryz.prog 52 #[.pointer (some ⟨b, 0, none⟩)] w fun e w' => EndSQ w b sv ws (rQ ws) e w' := by
  by_cases hC : nw ws 0 = qCount
  · exact squery_cnt w h hC
  · by_cases hN : nw ws 0 = qFind
    · cases hcs : rConds ws 1 with
      | error e => exact squery_fx1 w h hC hN hcs
      | ok ck =>
        obtain ⟨cs, k⟩ := ck
        by_cases hO : nw ws k = qOrder
        · cases hOF : numF (nw ws (k + 1)) with
          | false => exact squery_fx2 w h hC hN hcs hO hOF
          | true =>
            by_cases hZ : nw ws (k + 2) = qDesc
            · exact squery_fd w h hC hN hcs hO hOF hZ
            · exact squery_fn w h hC hN hcs hO hOF hZ
        · exact squery_fa w h hC hN hcs hO
    · exact squery_fx0 w h hC hN
end Go.Proofs.YtimlnbfalnkmhaaGreatDoor
