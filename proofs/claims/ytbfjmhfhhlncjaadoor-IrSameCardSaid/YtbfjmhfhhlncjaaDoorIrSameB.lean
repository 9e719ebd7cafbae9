/- ir.sameIns. -/
import Derived.Test.YtbfjmhfhhlncjaaDoorIrSameU
import Derived.Test.YtbfjmhfhhlncjaaDoorIrSameV
import Derived.Test.YtbfjmhfhhlncjaaDoorIrSameW
import Derived.Test.YtbfjmhfhhlncjaaDoorIrP
import Derived.Deep.LoopGhost
namespace Go.Proofs.YtbfjmhfhhlncjaaDoor
open Go.RowKit
set_option linter.unusedVariables false
set_option linter.unusedSimpArgs false

set_option maxRecDepth 100000 in
set_option maxHeartbeats 12800000 in
theorem sameIns_any (x y : Ix) (w : World) (hx : IxOk w x) (hy : IxOk w y) :
    Calls Tryd.prog 74 #[ia x, ia y] w fun e w' => e = .returned (.bool (x.same y)) ∧ Keeps No w w' := by
  by_cases t0 : x.op = y.op
  · by_cases t1 : x.sub = y.sub
    · by_cases t2 : x.d = y.d
      · by_cases t3 : x.a = y.a
        · by_cases t4 : x.b = y.b
          · by_cases t5 : x.n = y.n
            · by_cases t6 : x.wb = y.wb
              · by_cases t7 : x.ws = y.ws
                · exact sameIns_eq x y w hx hy t0 t1 t2 t3 t4 t5 t6 t7
                · exact sameIns_7 x y w hx hy t0 t1 t2 t3 t4 t5 t6 t7
              · exact sameIns_6 x y w hx hy t0 t1 t2 t3 t4 t5 t6
            · exact sameIns_5 x y w hx hy t0 t1 t2 t3 t4 t5
          · exact sameIns_4 x y w hx hy t0 t1 t2 t3 t4
        · exact sameIns_3 x y w hx hy t0 t1 t2 t3
      · exact sameIns_2 x y w hx hy t0 t1 t2
    · exact sameIns_1 x y w hx hy t0 t1
  · exact sameIns_0 x y w hx hy t0
end Go.Proofs.YtbfjmhfhhlncjaaDoor
