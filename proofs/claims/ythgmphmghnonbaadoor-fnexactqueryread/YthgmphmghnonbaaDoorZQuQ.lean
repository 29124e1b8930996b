/-
  Queries: what (*impl.reader).query answers: a contract over the seat's program.
-/
import Derived.Test.YthgmphmghnonbaaDoorZQuQc
import Derived.Test.YthgmphmghnonbaaDoorZQuQa
import Derived.Test.YthgmphmghnonbaaDoorZQuQd
import Derived.Test.YthgmphmghnonbaaDoorZQuQn
import Derived.Test.YthgmphmghnonbaaDoorZQuQx
namespace Go.Proofs.YthgmphmghnonbaaDoor
open Go.RowKit

theorem query_any {b : Nat} {sv : Value} {ws : List ByteArray} {a : Addr} (w : World) (h : RdI w b sv ws 0 a) :
    Calls Tryd.prog 14 #[.pointer (some ⟨b, 0, none⟩)] w fun e w' => EndQ w b sv ws a (rQ ws) e w' := by
  by_cases hC : nw ws 0 = qCount
  · exact query_count w h hC
  · by_cases hN : nw ws 0 = qFind
    · cases hcs : rConds ws 1 with
      | error e => exact query_fx1 w h hC hN hcs
      | ok ck =>
        obtain ⟨cs, k⟩ := ck
        by_cases hO : nw ws k = qOrder
        · cases hOF : numF (nw ws (k + 1)) with
          | false => exact query_fx2 w h hC hN hcs hO hOF
          | true =>
            by_cases hZ : nw ws (k + 2) = qDesc
            · exact query_fd w h hC hN hcs hO hOF hZ
            · exact query_fn w h hC hN hcs hO hOF hZ
        · exact query_fa w h hC hN hcs hO
    · exact query_fx0 w h hC hN
end Go.Proofs.YthgmphmghnonbaaDoor
