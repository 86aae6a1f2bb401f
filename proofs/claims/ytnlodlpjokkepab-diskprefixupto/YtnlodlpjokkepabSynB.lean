/- DiskSynced's walk, as the law's frame asks for it. -/
import Derived.Test.YtnlodlpjokkepabWSynW
import Derived.Test.YtnlodlpjokkepabA4Bulk
namespace Go.Proofs.Ytnlodlpjokkepab
open Go.RowKit Go.Maps
theorem acts_ok {l : List AC} (hb : ActsBd l) : ∀ a ∈ l, ActOk a := fun a ha => by
  obtain ⟨h1, h2, _⟩ := hb a ha
  exact ⟨by omega, by omega, by omega, h2⟩
theorem diskSynced_walk (v : Value) (l : List AC) (a kp tn : Int) (w : World) (hv : ActsIn w v l) (hlen : l.length ≤ 1048576) (hb : ActsBd l) (_ : (Lit.int .i64 a).wf = true) :
    Calls Try.prog 4 #[v, .agg #[.int .i64 a, .int .i64 kp, .int .i64 tn]] w fun e w' => e = .returned (.bool true) ∧ Below w.heap.size w w' :=
  diskSynced_core v l a kp tn w hv (acts_ok hb) (by omega)
end Go.Proofs.Ytnlodlpjokkepab
