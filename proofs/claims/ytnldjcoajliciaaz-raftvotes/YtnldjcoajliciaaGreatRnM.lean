/- A node in memory. -/
import Derived.Test.YtnldjcoajliciaaGreatJoined09
import Derived.Test.YtnldjcoajliciaaGreatJoined04
import Derived.Test.YtnldjcoajliciaaGreatConfL
import Derived.Test.YtnldjcoajliciaaGreatJoined18
namespace Go.Proofs.YtnldjcoajliciaaGreat
open Go.RowKit Go.Maps
set_option linter.unusedVariables false
set_option linter.unusedSimpArgs false

/-- a node's fields -/
structure Nd where
  me : Int
  tm : Int
  vt : Int
  bi : Int
  bt : Int
  bm : Value
  bd : ByteArray
  lg : Value
  cm : Int
  rl : Int
  ld : Int
  dr : Int
  wt : Int
  wd : Int
  df : Int
  ga : Value
  ti : Int
  tt : Int
  tkm : Value
  td : ByteArray
  it : Bool
  vs : List Value
  rn : Int
  be : Int
  ps : List Value
def Nd.c (n : Nd) : List Value := [.int .i64 n.me, .int .i64 n.tm, .int .i64 n.vt, .int .i64 n.bi, .int .i64 n.bt, n.bm, .string n.bd, n.lg, .int .i64 n.cm, .int .i64 n.rl, .int .i64 n.ld, .int .i64 n.dr, .int .i64 n.wt, .int .i64 n.wd, .int .i64 n.df, n.ga, .int .i64 n.ti, .int .i64 n.tt, n.tkm, .string n.td, .bool n.it] ++ (n.vs ++ ([.int .i64 n.rn, .int .i64 n.be] ++ n.ps))
/-- a node at a block, with its members and its log in rows of its own -/
structure NdI (w : World) (B nb : Nat) (n : Nd) (ms : List Int) (es : List En) : Prop where
  bx : RowIs w nb n.c 68
  ge : B ≤ nb
  mi : OwnI w B n.bm ms
  lo : OwnE w B n.lg es
section
variable {w w' : World} {B nb : Nat} {n n' : Nd} {ms : List Int} {es : List En}
theorem NdI.keep {S : Nat → Prop} (h : NdI w B nb n ms es) (k : Keep S w w') (hS : ∀ j, B ≤ j → ¬ S j) : NdI w' B nb n ms es :=
  ⟨h.bx.keep k (hS nb h.ge), h.ge, k.ownsRow h.mi (fun g hg => hS g (ownsRow_ge h.mi hg)), h.lo.keep k hS⟩
theorem NdI.next (h : NdI w B nb n ms es) (k : Below w.heap.size w w') : NdI w' B nb n ms es := h.keep (k.keep (fun _ => False)) (fun _ _ h => h)
theorem NdI.drew (h : NdI w B nb n ms es) : NdI w.drew B nb n ms es := h.keep (keep_drew (fun _ => False) w) (fun _ _ h => h)
theorem NdI.nm (h : NdI w B nb n ms es) : (∀ g, n.bm.ownBlock = some g → ¬ g = nb) ∧ ∀ g, n.lg.ownBlock = some g → ¬ g = nb :=
  ⟨fun g hg e => own_ne_row h.mi h.bx (by decide) (e ▸ hg), fun g hg e => own_ne_row h.lo h.bx (by decide) (e ▸ hg)⟩
/-- a field is written -/
theorem NdI.set (h : NdI w B nb n ms es) (o : Nat) (v : Value) (hc : n.c.set o v = n'.c) (h1 : n'.bm = n.bm) (h2 : n'.lg = n.lg) : NdI (w.setCell ⟨nb, o, none⟩ v) B nb n' ms es := by
  have k := keep_setCell w nb o v
  have hr := h.bx.set o v
  rw [hc] at hr
  exact ⟨hr, h.ge, by rw [h1]; exact k.ownsRow h.mi (fun g hg e => h.nm.1 g hg e), by rw [h2]; exact k.ownsRow h.lo (fun g hg e => h.nm.2 g hg e)⟩
theorem NdI.lt (h : NdI w B nb n ms es) : nb < w.heap.size := h.bx.lt
theorem NdI.form (h : NdI w B nb n ms es) : (∃ ad cap, n.bm = .slice ad ms.length cap) ∧ ∃ ad cap, n.lg = .slice ad es.length cap := ⟨h.mi.form, h.lo.form⟩
end
set_option maxRecDepth 100000 in
theorem nodeIs_any (n : Int) (w : World) : Calls Tryz.prog 16 #[.int .i64 n] w fun e w' => e = .returned (.bool (ndOk n)) ∧ w' = w := by
  unfold ndOk
  by_cases h0 : 0 ≤ n
  · have d0 : decide (0 ≤ n) = true := decide_eq_true h0
    by_cases h1 : n < 7
    · have d1 : decide (n < 7) = true := decide_eq_true h1
      rw [d0, d1]
      clear h0 h1
      go_enter Tryz.func16, Tryz.ntmps16
      go_wp2
      go_ret
      exact ⟨rfl, rfl⟩
    · have d1 : decide (n < 7) = false := decide_eq_false h1
      rw [d0, d1]
      clear h0 h1
      go_enter Tryz.func16, Tryz.ntmps16
      go_wp2
      go_ret
      exact ⟨rfl, rfl⟩
  · have d0 : decide (0 ≤ n) = false := decide_eq_false h0
    rw [d0]
    clear h0
    go_enter Tryz.func16, Tryz.ntmps16
    go_wp2
    go_ret
    exact ⟨rfl, rfl⟩
end Go.Proofs.YtnldjcoajliciaaGreat
