/- DiskPrefix's walk, as the law's frame asks for it. -/
import Derived.Test.YtnlodlpjokkepabWPreW
import Derived.Test.YtnlodlpjokkepabSynB
namespace Go.Proofs.Ytnlodlpjokkepab
open Go.RowKit Go.Maps
theorem diskPrefix_walk (v : Value) (l : List AC) (v2 : Value) (l2 : List AC) (keep : Int) (w : World) (hv : ActsIn w v l) (hlen : l.length ≤ 1048576) (hb : ActsBd l) (hv2 : ActsIn w v2 l2) (hlen2 : l2.length ≤ 1048576) (hb2 : ActsBd l2) (_ : (Lit.int .i64 keep).wf = true) :
    Calls Try.prog 5 #[v, v2, .int .i64 keep] w fun e w' => e = .returned (.bool true) ∧ Below w.heap.size w w' :=
  diskPrefix_core v l v2 l2 keep w hv (acts_ok hb) (by omega) hv2 (acts_ok hb2) (by omega)
end Go.Proofs.Ytnlodlpjokkepab
