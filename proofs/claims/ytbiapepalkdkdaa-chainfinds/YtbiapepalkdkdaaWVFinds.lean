/- The walk of the law ChainFinds. -/
import Derived.Test.YtbiapepalkdkdaaWVPuts
import Derived.Test.YtbiapepalkdkdaaCvS
import Derived.Test.YtbiapepalkdkdaaSame
namespace Go.Proofs.Ytbiapepalkdkdaa
open Go.RowKit Go.Maps
set_option linter.unusedVariables false
set_option linter.unusedSimpArgs false

/-- four versions in boxes -/
structure F4 (w : World) (g1 g2 g3 g4 : Nat) (a1 a2 a3 a4 : Option Addr) (c1 c2 c3 c4 : Nat) (A C : Vn) (W : World) : Prop where
  r1 : RowIs W g1 [.int .i64 A.id, .bool A.ma, .int .i64 A.sz, .string A.sum, (.slice a1 A.ps.length c1)] 24
  p1 : PcI W (.slice a1 A.ps.length c1) A.ps
  r2 : RowIs W g2 [.int .i64 A.id, .bool A.ma, .int .i64 A.sz, .string A.sum, (.slice a2 A.ps.length c2)] 36
  p2 : PcI W (.slice a2 A.ps.length c2) A.ps
  r3 : RowIs W g3 [.int .i64 C.id, .bool C.ma, .int .i64 C.sz, .string C.sum, (.slice a3 C.ps.length c3)] 24
  p3 : PcI W (.slice a3 C.ps.length c3) C.ps
  r4 : RowIs W g4 [.int .i64 C.id, .bool C.ma, .int .i64 C.sz, .string C.sum, (.slice a4 C.ps.length c4)] 36
  p4 : PcI W (.slice a4 C.ps.length c4) C.ps
  b : Below w.heap.size w W
section
variable {w W W' : World} {g1 g2 g3 g4 : Nat} {a1 a2 a3 a4 : Option Addr} {c1 c2 c3 c4 : Nat} {A C : Vn}
theorem F4.next (h : F4 w g1 g2 g3 g4 a1 a2 a3 a4 c1 c2 c3 c4 A C W) (hb : Below W.heap.size W W') : F4 w g1 g2 g3 g4 a1 a2 a3 a4 c1 c2 c3 c4 A C W' :=
  ⟨h.r1.keep (hb.keep (fun _ => False)) (fun h => h), h.p1.next hb, h.r2.keep (hb.keep (fun _ => False)) (fun h => h), h.p2.next hb, h.r3.keep (hb.keep (fun _ => False)) (fun h => h), h.p3.next hb, h.r4.keep (hb.keep (fun _ => False)) (fun h => h), h.p4.next hb, below_on h.b hb⟩
theorem F4.drew (h : F4 w g1 g2 g3 g4 a1 a2 a3 a4 c1 c2 c3 c4 A C W) : F4 w g1 g2 g3 g4 a1 a2 a3 a4 c1 c2 c3 c4 A C W.drew := h.next (Below.refl _ _).drew
theorem F4.cells (h : F4 w g1 g2 g3 g4 a1 a2 a3 a4 c1 c2 c3 c4 A C W) : (W.cell? ⟨g1, 0, none⟩ = some (.int .i64 A.id) ∧ W.cell? ⟨g1, 1, none⟩ = some (.bool A.ma) ∧ W.cell? ⟨g1, 2, none⟩ = some (.int .i64 A.sz) ∧ W.cell? ⟨g1, 3, none⟩ = some (.string A.sum) ∧ W.cell? ⟨g1, 4, none⟩ = some (.slice a1 A.ps.length c1)) ∧ (W.cell? ⟨g2, 0, none⟩ = some (.int .i64 A.id) ∧ W.cell? ⟨g2, 1, none⟩ = some (.bool A.ma) ∧ W.cell? ⟨g2, 2, none⟩ = some (.int .i64 A.sz) ∧ W.cell? ⟨g2, 3, none⟩ = some (.string A.sum) ∧ W.cell? ⟨g2, 4, none⟩ = some (.slice a2 A.ps.length c2)) ∧ (W.cell? ⟨g3, 0, none⟩ = some (.int .i64 C.id) ∧ W.cell? ⟨g3, 1, none⟩ = some (.bool C.ma) ∧ W.cell? ⟨g3, 2, none⟩ = some (.int .i64 C.sz) ∧ W.cell? ⟨g3, 3, none⟩ = some (.string C.sum) ∧ W.cell? ⟨g3, 4, none⟩ = some (.slice a3 C.ps.length c3)) ∧ (W.cell? ⟨g4, 0, none⟩ = some (.int .i64 C.id) ∧ W.cell? ⟨g4, 1, none⟩ = some (.bool C.ma) ∧ W.cell? ⟨g4, 2, none⟩ = some (.int .i64 C.sz) ∧ W.cell? ⟨g4, 3, none⟩ = some (.string C.sum) ∧ W.cell? ⟨g4, 4, none⟩ = some (.slice a4 C.ps.length c4)) :=
  ⟨⟨h.r1.cellAt rfl, h.r1.cellAt rfl, h.r1.cellAt rfl, h.r1.cellAt rfl, h.r1.cellAt rfl⟩, ⟨h.r2.cellAt rfl, h.r2.cellAt rfl, h.r2.cellAt rfl, h.r2.cellAt rfl, h.r2.cellAt rfl⟩, ⟨h.r3.cellAt rfl, h.r3.cellAt rfl, h.r3.cellAt rfl, h.r3.cellAt rfl, h.r3.cellAt rfl⟩, ⟨h.r4.cellAt rfl, h.r4.cellAt rfl, h.r4.cellAt rfl, h.r4.cellAt rfl, h.r4.cellAt rfl⟩⟩
end
theorem fd_ps (l : List Vn) (n : Int) : (fdV l n).ps.length ≤ 512 := by
  unfold fdV
  rcases pl_cases l n with ⟨_, h, _⟩ | ⟨_, h, _⟩ | ⟨h1, j, h, _, _, h5, _⟩
  · rw [h]; simp [vn0]
  · rw [h]; simp [vn0]
  · rw [h]
    simp only [List.getD_eq_getElem?_getD, List.getElem?_eq_getElem h5, Option.getD_some]
    exact (vnOk_ps (isCh_all h1 _ (List.getElem_mem h5))).1
theorem lat_ps (l : List Vn) : (latV l).ps.length ≤ 512 := by
  unfold latV
  split
  · rename_i h
    cases l with
    | nil => simp [vn0]
    | cons v r =>
      simp only
      split
      · simp [vn0]
      · exact (vnOk_ps (isCh_all h v (by simp))).1
  · simp [vn0]
set_option maxRecDepth 100000 in
set_option maxHeartbeats 4000000 in
/-- the last of the law, from the boxes on -/
theorem finds_env (w : World) (av : Option Addr) (q : List (Value × Vn)) (cv : Nat) (g1 g2 g3 g4 : Nat) (a1 a2 a3 a4 : Option Addr) (c1 c2 c3 c4 : Nat) (A C : Vn) (hv : VnI w (.slice av q.length cv) q) (hz : q.length * 64 ≤ 140737488355328) (hy : ∀ y ∈ q, ibulk.SzB y.2) (hsz : SzQ q) (hA : A.ps.length ≤ 512) (hC : C.ps.length ≤ 512) :
    Hid (∀ W, F4 w g1 g2 g3 g4 a1 a2 a3 a4 c1 c2 c3 c4 A C W → Calls Try.prog 12 #[] W fun e w' => e = .returned (.bool true) ∧ ((w'.cell? ⟨g1, 0, none⟩ = some (.int .i64 A.id) ∧ w'.cell? ⟨g1, 1, none⟩ = some (.bool A.ma) ∧ w'.cell? ⟨g1, 2, none⟩ = some (.int .i64 A.sz) ∧ w'.cell? ⟨g1, 3, none⟩ = some (.string A.sum) ∧ w'.cell? ⟨g1, 4, none⟩ = some (.slice a1 A.ps.length c1)) ∧ (w'.cell? ⟨g2, 0, none⟩ = some (.int .i64 A.id) ∧ w'.cell? ⟨g2, 1, none⟩ = some (.bool A.ma) ∧ w'.cell? ⟨g2, 2, none⟩ = some (.int .i64 A.sz) ∧ w'.cell? ⟨g2, 3, none⟩ = some (.string A.sum) ∧ w'.cell? ⟨g2, 4, none⟩ = some (.slice a2 A.ps.length c2)) ∧ (w'.cell? ⟨g3, 0, none⟩ = some (.int .i64 C.id) ∧ w'.cell? ⟨g3, 1, none⟩ = some (.bool C.ma) ∧ w'.cell? ⟨g3, 2, none⟩ = some (.int .i64 C.sz) ∧ w'.cell? ⟨g3, 3, none⟩ = some (.string C.sum) ∧ w'.cell? ⟨g3, 4, none⟩ = some (.slice a3 C.ps.length c3)) ∧ (w'.cell? ⟨g4, 0, none⟩ = some (.int .i64 C.id) ∧ w'.cell? ⟨g4, 1, none⟩ = some (.bool C.ma) ∧ w'.cell? ⟨g4, 2, none⟩ = some (.int .i64 C.sz) ∧ w'.cell? ⟨g4, 3, none⟩ = some (.string C.sum) ∧ w'.cell? ⟨g4, 4, none⟩ = some (.slice a4 C.ps.length c4))) ∧ Hid (F4 w g1 g2 g3 g4 a1 a2 a3 a4 c1 c2 c3 c4 A C w')) ∧
    Hid (∀ W, F4 w g1 g2 g3 g4 a1 a2 a3 a4 c1 c2 c3 c4 A C W → Calls Try.prog 15 #[.agg #[.int .i64 A.id, .bool A.ma, .int .i64 A.sz, .string A.sum, (.slice a1 A.ps.length c1)]] W fun e w' => ∃ ad cap, e = .returned (.agg #[.int .i64 A.id, .bool A.ma, .int .i64 A.sz, .string A.sum, (.slice ad A.ps.length cap)]) ∧ ((w'.cell? ⟨g1, 0, none⟩ = some (.int .i64 A.id) ∧ w'.cell? ⟨g1, 1, none⟩ = some (.bool A.ma) ∧ w'.cell? ⟨g1, 2, none⟩ = some (.int .i64 A.sz) ∧ w'.cell? ⟨g1, 3, none⟩ = some (.string A.sum) ∧ w'.cell? ⟨g1, 4, none⟩ = some (.slice a1 A.ps.length c1)) ∧ (w'.cell? ⟨g2, 0, none⟩ = some (.int .i64 A.id) ∧ w'.cell? ⟨g2, 1, none⟩ = some (.bool A.ma) ∧ w'.cell? ⟨g2, 2, none⟩ = some (.int .i64 A.sz) ∧ w'.cell? ⟨g2, 3, none⟩ = some (.string A.sum) ∧ w'.cell? ⟨g2, 4, none⟩ = some (.slice a2 A.ps.length c2)) ∧ (w'.cell? ⟨g3, 0, none⟩ = some (.int .i64 C.id) ∧ w'.cell? ⟨g3, 1, none⟩ = some (.bool C.ma) ∧ w'.cell? ⟨g3, 2, none⟩ = some (.int .i64 C.sz) ∧ w'.cell? ⟨g3, 3, none⟩ = some (.string C.sum) ∧ w'.cell? ⟨g3, 4, none⟩ = some (.slice a3 C.ps.length c3)) ∧ (w'.cell? ⟨g4, 0, none⟩ = some (.int .i64 C.id) ∧ w'.cell? ⟨g4, 1, none⟩ = some (.bool C.ma) ∧ w'.cell? ⟨g4, 2, none⟩ = some (.int .i64 C.sz) ∧ w'.cell? ⟨g4, 3, none⟩ = some (.string C.sum) ∧ w'.cell? ⟨g4, 4, none⟩ = some (.slice a4 C.ps.length c4))) ∧ Hid (F4 w g1 g2 g3 g4 a1 a2 a3 a4 c1 c2 c3 c4 A C w') ∧ Hid (PcI w' (.slice ad A.ps.length cap) A.ps)) ∧
    Hid (∀ W, F4 w g1 g2 g3 g4 a1 a2 a3 a4 c1 c2 c3 c4 A C W → Calls Try.prog 15 #[.agg #[.int .i64 C.id, .bool C.ma, .int .i64 C.sz, .string C.sum, (.slice a3 C.ps.length c3)]] W fun e w' => ∃ ad cap, e = .returned (.agg #[.int .i64 C.id, .bool C.ma, .int .i64 C.sz, .string C.sum, (.slice ad C.ps.length cap)]) ∧ ((w'.cell? ⟨g1, 0, none⟩ = some (.int .i64 A.id) ∧ w'.cell? ⟨g1, 1, none⟩ = some (.bool A.ma) ∧ w'.cell? ⟨g1, 2, none⟩ = some (.int .i64 A.sz) ∧ w'.cell? ⟨g1, 3, none⟩ = some (.string A.sum) ∧ w'.cell? ⟨g1, 4, none⟩ = some (.slice a1 A.ps.length c1)) ∧ (w'.cell? ⟨g2, 0, none⟩ = some (.int .i64 A.id) ∧ w'.cell? ⟨g2, 1, none⟩ = some (.bool A.ma) ∧ w'.cell? ⟨g2, 2, none⟩ = some (.int .i64 A.sz) ∧ w'.cell? ⟨g2, 3, none⟩ = some (.string A.sum) ∧ w'.cell? ⟨g2, 4, none⟩ = some (.slice a2 A.ps.length c2)) ∧ (w'.cell? ⟨g3, 0, none⟩ = some (.int .i64 C.id) ∧ w'.cell? ⟨g3, 1, none⟩ = some (.bool C.ma) ∧ w'.cell? ⟨g3, 2, none⟩ = some (.int .i64 C.sz) ∧ w'.cell? ⟨g3, 3, none⟩ = some (.string C.sum) ∧ w'.cell? ⟨g3, 4, none⟩ = some (.slice a3 C.ps.length c3)) ∧ (w'.cell? ⟨g4, 0, none⟩ = some (.int .i64 C.id) ∧ w'.cell? ⟨g4, 1, none⟩ = some (.bool C.ma) ∧ w'.cell? ⟨g4, 2, none⟩ = some (.int .i64 C.sz) ∧ w'.cell? ⟨g4, 3, none⟩ = some (.string C.sum) ∧ w'.cell? ⟨g4, 4, none⟩ = some (.slice a4 C.ps.length c4))) ∧ Hid (F4 w g1 g2 g3 g4 a1 a2 a3 a4 c1 c2 c3 c4 A C w') ∧ Hid (PcI w' (.slice ad C.ps.length cap) C.ps)) ∧
    Hid (∀ W ad cap, F4 w g1 g2 g3 g4 a1 a2 a3 a4 c1 c2 c3 c4 A C W → PcI W (.slice ad A.ps.length cap) A.ps → Calls Try.prog 26 #[.agg #[.int .i64 A.id, .bool A.ma, .int .i64 A.sz, .string A.sum, (.slice ad A.ps.length cap)], .agg #[.int .i64 A.id, .bool A.ma, .int .i64 A.sz, .string A.sum, (.slice a2 A.ps.length c2)]] W fun e w' => e = .returned (.bool true) ∧ ((w'.cell? ⟨g1, 0, none⟩ = some (.int .i64 A.id) ∧ w'.cell? ⟨g1, 1, none⟩ = some (.bool A.ma) ∧ w'.cell? ⟨g1, 2, none⟩ = some (.int .i64 A.sz) ∧ w'.cell? ⟨g1, 3, none⟩ = some (.string A.sum) ∧ w'.cell? ⟨g1, 4, none⟩ = some (.slice a1 A.ps.length c1)) ∧ (w'.cell? ⟨g2, 0, none⟩ = some (.int .i64 A.id) ∧ w'.cell? ⟨g2, 1, none⟩ = some (.bool A.ma) ∧ w'.cell? ⟨g2, 2, none⟩ = some (.int .i64 A.sz) ∧ w'.cell? ⟨g2, 3, none⟩ = some (.string A.sum) ∧ w'.cell? ⟨g2, 4, none⟩ = some (.slice a2 A.ps.length c2)) ∧ (w'.cell? ⟨g3, 0, none⟩ = some (.int .i64 C.id) ∧ w'.cell? ⟨g3, 1, none⟩ = some (.bool C.ma) ∧ w'.cell? ⟨g3, 2, none⟩ = some (.int .i64 C.sz) ∧ w'.cell? ⟨g3, 3, none⟩ = some (.string C.sum) ∧ w'.cell? ⟨g3, 4, none⟩ = some (.slice a3 C.ps.length c3)) ∧ (w'.cell? ⟨g4, 0, none⟩ = some (.int .i64 C.id) ∧ w'.cell? ⟨g4, 1, none⟩ = some (.bool C.ma) ∧ w'.cell? ⟨g4, 2, none⟩ = some (.int .i64 C.sz) ∧ w'.cell? ⟨g4, 3, none⟩ = some (.string C.sum) ∧ w'.cell? ⟨g4, 4, none⟩ = some (.slice a4 C.ps.length c4))) ∧ Hid (F4 w g1 g2 g3 g4 a1 a2 a3 a4 c1 c2 c3 c4 A C w')) ∧
    Hid (∀ W ad cap, F4 w g1 g2 g3 g4 a1 a2 a3 a4 c1 c2 c3 c4 A C W → PcI W (.slice ad C.ps.length cap) C.ps → Calls Try.prog 26 #[.agg #[.int .i64 C.id, .bool C.ma, .int .i64 C.sz, .string C.sum, (.slice ad C.ps.length cap)], .agg #[.int .i64 C.id, .bool C.ma, .int .i64 C.sz, .string C.sum, (.slice a4 C.ps.length c4)]] W fun e w' => e = .returned (.bool true) ∧ ((w'.cell? ⟨g1, 0, none⟩ = some (.int .i64 A.id) ∧ w'.cell? ⟨g1, 1, none⟩ = some (.bool A.ma) ∧ w'.cell? ⟨g1, 2, none⟩ = some (.int .i64 A.sz) ∧ w'.cell? ⟨g1, 3, none⟩ = some (.string A.sum) ∧ w'.cell? ⟨g1, 4, none⟩ = some (.slice a1 A.ps.length c1)) ∧ (w'.cell? ⟨g2, 0, none⟩ = some (.int .i64 A.id) ∧ w'.cell? ⟨g2, 1, none⟩ = some (.bool A.ma) ∧ w'.cell? ⟨g2, 2, none⟩ = some (.int .i64 A.sz) ∧ w'.cell? ⟨g2, 3, none⟩ = some (.string A.sum) ∧ w'.cell? ⟨g2, 4, none⟩ = some (.slice a2 A.ps.length c2)) ∧ (w'.cell? ⟨g3, 0, none⟩ = some (.int .i64 C.id) ∧ w'.cell? ⟨g3, 1, none⟩ = some (.bool C.ma) ∧ w'.cell? ⟨g3, 2, none⟩ = some (.int .i64 C.sz) ∧ w'.cell? ⟨g3, 3, none⟩ = some (.string C.sum) ∧ w'.cell? ⟨g3, 4, none⟩ = some (.slice a3 C.ps.length c3)) ∧ (w'.cell? ⟨g4, 0, none⟩ = some (.int .i64 C.id) ∧ w'.cell? ⟨g4, 1, none⟩ = some (.bool C.ma) ∧ w'.cell? ⟨g4, 2, none⟩ = some (.int .i64 C.sz) ∧ w'.cell? ⟨g4, 3, none⟩ = some (.string C.sum) ∧ w'.cell? ⟨g4, 4, none⟩ = some (.slice a4 C.ps.length c4))) ∧ Hid (F4 w g1 g2 g3 g4 a1 a2 a3 a4 c1 c2 c3 c4 A C w')) ∧
    Hid (∀ W, F4 w g1 g2 g3 g4 a1 a2 a3 a4 c1 c2 c3 c4 A C W → Calls Try.prog 28 #[.slice av q.length cv] W fun e w' => ∃ u, e = .returned u ∧ ((w'.cell? ⟨g1, 0, none⟩ = some (.int .i64 A.id) ∧ w'.cell? ⟨g1, 1, none⟩ = some (.bool A.ma) ∧ w'.cell? ⟨g1, 2, none⟩ = some (.int .i64 A.sz) ∧ w'.cell? ⟨g1, 3, none⟩ = some (.string A.sum) ∧ w'.cell? ⟨g1, 4, none⟩ = some (.slice a1 A.ps.length c1)) ∧ (w'.cell? ⟨g2, 0, none⟩ = some (.int .i64 A.id) ∧ w'.cell? ⟨g2, 1, none⟩ = some (.bool A.ma) ∧ w'.cell? ⟨g2, 2, none⟩ = some (.int .i64 A.sz) ∧ w'.cell? ⟨g2, 3, none⟩ = some (.string A.sum) ∧ w'.cell? ⟨g2, 4, none⟩ = some (.slice a2 A.ps.length c2)) ∧ (w'.cell? ⟨g3, 0, none⟩ = some (.int .i64 C.id) ∧ w'.cell? ⟨g3, 1, none⟩ = some (.bool C.ma) ∧ w'.cell? ⟨g3, 2, none⟩ = some (.int .i64 C.sz) ∧ w'.cell? ⟨g3, 3, none⟩ = some (.string C.sum) ∧ w'.cell? ⟨g3, 4, none⟩ = some (.slice a3 C.ps.length c3)) ∧ (w'.cell? ⟨g4, 0, none⟩ = some (.int .i64 C.id) ∧ w'.cell? ⟨g4, 1, none⟩ = some (.bool C.ma) ∧ w'.cell? ⟨g4, 2, none⟩ = some (.int .i64 C.sz) ∧ w'.cell? ⟨g4, 3, none⟩ = some (.string C.sum) ∧ w'.cell? ⟨g4, 4, none⟩ = some (.slice a4 C.ps.length c4))) ∧ Hid (F4 w g1 g2 g3 g4 a1 a2 a3 a4 c1 c2 c3 c4 A C w') ∧ Hid (Below W.heap.size W w') ∧ Hid (Strs w' u (chI (vqL q)))) ∧
    Hid (∀ W, F4 w g1 g2 g3 g4 a1 a2 a3 a4 c1 c2 c3 c4 A C W → Calls Try.prog 18 #[.slice av q.length cv] W fun e w' => ∃ ad n cap q', e = .returned (.slice ad n cap) ∧ ((w'.cell? ⟨g1, 0, none⟩ = some (.int .i64 A.id) ∧ w'.cell? ⟨g1, 1, none⟩ = some (.bool A.ma) ∧ w'.cell? ⟨g1, 2, none⟩ = some (.int .i64 A.sz) ∧ w'.cell? ⟨g1, 3, none⟩ = some (.string A.sum) ∧ w'.cell? ⟨g1, 4, none⟩ = some (.slice a1 A.ps.length c1)) ∧ (w'.cell? ⟨g2, 0, none⟩ = some (.int .i64 A.id) ∧ w'.cell? ⟨g2, 1, none⟩ = some (.bool A.ma) ∧ w'.cell? ⟨g2, 2, none⟩ = some (.int .i64 A.sz) ∧ w'.cell? ⟨g2, 3, none⟩ = some (.string A.sum) ∧ w'.cell? ⟨g2, 4, none⟩ = some (.slice a2 A.ps.length c2)) ∧ (w'.cell? ⟨g3, 0, none⟩ = some (.int .i64 C.id) ∧ w'.cell? ⟨g3, 1, none⟩ = some (.bool C.ma) ∧ w'.cell? ⟨g3, 2, none⟩ = some (.int .i64 C.sz) ∧ w'.cell? ⟨g3, 3, none⟩ = some (.string C.sum) ∧ w'.cell? ⟨g3, 4, none⟩ = some (.slice a3 C.ps.length c3)) ∧ (w'.cell? ⟨g4, 0, none⟩ = some (.int .i64 C.id) ∧ w'.cell? ⟨g4, 1, none⟩ = some (.bool C.ma) ∧ w'.cell? ⟨g4, 2, none⟩ = some (.int .i64 C.sz) ∧ w'.cell? ⟨g4, 3, none⟩ = some (.string C.sum) ∧ w'.cell? ⟨g4, 4, none⟩ = some (.slice a4 C.ps.length c4))) ∧ Hid (F4 w g1 g2 g3 g4 a1 a2 a3 a4 c1 c2 c3 c4 A C w') ∧ Hid (Below W.heap.size W w') ∧ Hid (VnI w' (.slice ad n cap) q' ∧ vqL q' = vqL q)) ∧
    Hid (∀ W v q', F4 w g1 g2 g3 g4 a1 a2 a3 a4 c1 c2 c3 c4 A C W → (VnI W v q' ∧ vqL q' = vqL q) → Calls Try.prog 29 #[v] W fun e w' => ∃ u, e = .returned u ∧ ((w'.cell? ⟨g1, 0, none⟩ = some (.int .i64 A.id) ∧ w'.cell? ⟨g1, 1, none⟩ = some (.bool A.ma) ∧ w'.cell? ⟨g1, 2, none⟩ = some (.int .i64 A.sz) ∧ w'.cell? ⟨g1, 3, none⟩ = some (.string A.sum) ∧ w'.cell? ⟨g1, 4, none⟩ = some (.slice a1 A.ps.length c1)) ∧ (w'.cell? ⟨g2, 0, none⟩ = some (.int .i64 A.id) ∧ w'.cell? ⟨g2, 1, none⟩ = some (.bool A.ma) ∧ w'.cell? ⟨g2, 2, none⟩ = some (.int .i64 A.sz) ∧ w'.cell? ⟨g2, 3, none⟩ = some (.string A.sum) ∧ w'.cell? ⟨g2, 4, none⟩ = some (.slice a2 A.ps.length c2)) ∧ (w'.cell? ⟨g3, 0, none⟩ = some (.int .i64 C.id) ∧ w'.cell? ⟨g3, 1, none⟩ = some (.bool C.ma) ∧ w'.cell? ⟨g3, 2, none⟩ = some (.int .i64 C.sz) ∧ w'.cell? ⟨g3, 3, none⟩ = some (.string C.sum) ∧ w'.cell? ⟨g3, 4, none⟩ = some (.slice a3 C.ps.length c3)) ∧ (w'.cell? ⟨g4, 0, none⟩ = some (.int .i64 C.id) ∧ w'.cell? ⟨g4, 1, none⟩ = some (.bool C.ma) ∧ w'.cell? ⟨g4, 2, none⟩ = some (.int .i64 C.sz) ∧ w'.cell? ⟨g4, 3, none⟩ = some (.string C.sum) ∧ w'.cell? ⟨g4, 4, none⟩ = some (.slice a4 C.ps.length c4))) ∧ Hid (F4 w g1 g2 g3 g4 a1 a2 a3 a4 c1 c2 c3 c4 A C w') ∧ Hid (Below W.heap.size W w') ∧ Hid (Strs w' u (chI (vqL q)))) ∧
    Hid (∀ W u v, F4 w g1 g2 g3 g4 a1 a2 a3 a4 c1 c2 c3 c4 A C W → Strs W u (chI (vqL q)) → Strs W v (chI (vqL q)) → Calls Try.prog 27 #[u, v] W fun e w' => e = .returned (.bool true) ∧ ((w'.cell? ⟨g1, 0, none⟩ = some (.int .i64 A.id) ∧ w'.cell? ⟨g1, 1, none⟩ = some (.bool A.ma) ∧ w'.cell? ⟨g1, 2, none⟩ = some (.int .i64 A.sz) ∧ w'.cell? ⟨g1, 3, none⟩ = some (.string A.sum) ∧ w'.cell? ⟨g1, 4, none⟩ = some (.slice a1 A.ps.length c1)) ∧ (w'.cell? ⟨g2, 0, none⟩ = some (.int .i64 A.id) ∧ w'.cell? ⟨g2, 1, none⟩ = some (.bool A.ma) ∧ w'.cell? ⟨g2, 2, none⟩ = some (.int .i64 A.sz) ∧ w'.cell? ⟨g2, 3, none⟩ = some (.string A.sum) ∧ w'.cell? ⟨g2, 4, none⟩ = some (.slice a2 A.ps.length c2)) ∧ (w'.cell? ⟨g3, 0, none⟩ = some (.int .i64 C.id) ∧ w'.cell? ⟨g3, 1, none⟩ = some (.bool C.ma) ∧ w'.cell? ⟨g3, 2, none⟩ = some (.int .i64 C.sz) ∧ w'.cell? ⟨g3, 3, none⟩ = some (.string C.sum) ∧ w'.cell? ⟨g3, 4, none⟩ = some (.slice a3 C.ps.length c3)) ∧ (w'.cell? ⟨g4, 0, none⟩ = some (.int .i64 C.id) ∧ w'.cell? ⟨g4, 1, none⟩ = some (.bool C.ma) ∧ w'.cell? ⟨g4, 2, none⟩ = some (.int .i64 C.sz) ∧ w'.cell? ⟨g4, 3, none⟩ = some (.string C.sum) ∧ w'.cell? ⟨g4, 4, none⟩ = some (.slice a4 C.ps.length c4))) ∧ Hid (F4 w g1 g2 g3 g4 a1 a2 a3 a4 c1 c2 c3 c4 A C w')) := by
  have hci : (chI (vqL q)).length ≤ 140737488355328 := by
    unfold chI
    split
    · rename_i h
      have h1 := idsV_len q q.length (fun y hy => (vnOk_ps (isCh_all h _ (vq_mem hy))).1)
      rw [List.take_length] at h1
      have h2 := isCh_len h
      rw [vqL_len] at h2
      omega
    · simp
  refine ⟨fun W h => (awake13 W).mono fun e w' ⟨he, hb⟩ => ⟨he, (h.next hb).cells, h.next hb⟩,
    fun W h => (lref_any _ A W h.p1 (by omega)).mono fun e w' ⟨ad, cap, he, ho, hb⟩ => ⟨ad, cap, he, (h.next hb).cells, h.next hb, ho.pcs⟩,
    fun W h => (lref_any _ C W h.p3 (by omega)).mono fun e w' ⟨ad, cap, he, ho, hb⟩ => ⟨ad, cap, he, (h.next hb).cells, h.next hb, ho.pcs⟩,
    fun W ad cap h hp => (rsame_true _ _ A W hp h.p2 (by omega)).mono fun e w' ⟨he, hb⟩ => ⟨he, (h.next hb).cells, h.next hb⟩,
    fun W ad cap h hp => (rsame_true _ _ C W hp h.p4 (by omega)).mono fun e w' ⟨he, hb⟩ => ⟨he, (h.next hb).cells, h.next hb⟩,
    fun W h => (ids_any _ q W (hv.next h.b)).mono fun e w' ⟨u, he, hs, hb⟩ => ⟨u, he, (h.next hb).cells, h.next hb, hb, hs⟩,
    fun W h => (lrefs_any _ q W (hv.next h.b) hz (fun y hy' => (hy y hy').2.1)).mono fun e w' ⟨ad, cap, q', he, hq, ho, hb⟩ => ⟨ad, _, cap, q', he, (h.next hb).cells, h.next hb, hb, ho.vn, hq⟩,
    fun W v q' h hI => ?_,
    fun W u v h h1 h2 => (same_any u v _ W h1 h2 hci).mono fun e w' ⟨he, hb⟩ => ⟨he, (h.next hb).cells, h.next hb⟩⟩
  have := rids_any v q' W hI.1 (hsz.of hI.2)
  rw [hI.2] at this
  exact this.mono fun e w' ⟨u, he, hs, hb⟩ => ⟨u, he, (h.next hb).cells, h.next hb, hb, hs⟩
set_option maxRecDepth 100000 in
set_option maxHeartbeats 4000000 in
theorem chainFinds_walk (v0 : Value) (q : List (Value × Vn)) (n : Int) (w : World) (hv : VnI w v0 q) (hz : q.length * 64 ≤ 140737488355328) (hy : ∀ y ∈ q, ibulk.SzB y.2) (_hn : (Lit.int .i64 n).wf = true) :
    Calls Try.prog 5 #[v0, .int .i64 n] w fun e w' => e = .returned (.bool true) ∧ Below w.heap.size w w' := by
  have hsz : SzQ q := ⟨by omega, fun y hy' => by obtain ⟨h1, h2, h3⟩ := hy y hy'; exact ⟨h1, by omega, h3⟩⟩
  obtain ⟨av, cv, rfl, -⟩ := hv.form
  have EN := hid (fun g1 g2 g3 g4 a1 a2 a3 a4 c1 c2 c3 c4 => finds_env w av q cv g1 g2 g3 g4 a1 a2 a3 a4 c1 c2 c3 c4 (latV (vqL q)) (fdV (vqL q) n) hv hz hy hsz (lat_ps _) (fd_ps _ _))
  have LT : Hid (∀ W, Below w.heap.size w W → Calls Try.prog 22 #[.slice av q.length cv] W (GiveO W (latV (vqL q)) (latE (vqL q)))) := fun W hW => latest_any _ q W (hv.next hW)
  have FN : Hid (∀ W, Below w.heap.size w W → Calls Try.prog 24 #[.slice av q.length cv, .int .i64 n] W (GiveO W (fdV (vqL q) n) (plE (vqL q) n))) := fun W hW => find_any _ q n W (hv.next hW)
  have LR : Hid (∀ W, Below w.heap.size w W → Calls Try.prog 18 #[.slice av q.length cv] W fun e w' => ∃ ad n cap q', e = .returned (.slice ad n cap) ∧ Hid (VnI w' (.slice ad n cap) q' ∧ vqL q' = vqL q) ∧ Hid (Below W.heap.size W w')) := fun W hW => (lrefs_any _ q W (hv.next hW) hz (fun y hy' => (hy y hy').2.1)).mono fun e w' ⟨ad, cap, q', h1, h2, h3, h4⟩ => ⟨ad, _, cap, q', h1, ⟨h3.vn, h2⟩, h4⟩
  have RL : Hid (∀ W v q', (VnI W v q' ∧ vqL q' = vqL q) → Calls Try.prog 23 #[v] W (GiveO W (latV (vqL q)) (latE (vqL q)))) := fun W v q' hI => by
    have := rlatest_any v q' W hI.1 (hsz.of hI.2)
    rw [hI.2] at this
    exact this
  have RF : Hid (∀ W v q', (VnI W v q' ∧ vqL q' = vqL q) → Calls Try.prog 25 #[v, .int .i64 n] W (GiveO W (fdV (vqL q) n) (plE (vqL q) n))) := fun W v q' hI => by
    have := rfind_any v q' n W hI.1 (hsz.of hI.2)
    rw [hI.2] at this
    exact this
  clear hv hz hy hsz _hn
  generalize latV (vqL q) = A at *
  generalize latE (vqL q) = AE at *
  generalize fdV (vqL q) n = C at *
  generalize plE (vqL q) n = CE at *
  obtain ⟨ia, ma, za, ua, sa⟩ := A
  obtain ⟨ic, mc, zc, uc, sc⟩ := C
  have e1 : (AE == AE) = true := beq_self_eq_true _
  have e2 : (CE == CE) = true := beq_self_eq_true _
  go_enter Try.func5, Try.ntmps5
  go_wp2_with fail
  refine (LT.out _ (Below.refl _ _)).mono ?_
  rintro e w1 ⟨a1, c1, rfl, p1, b1⟩
  unfold vnV
  simp only
  have B1 := hid (Bx.made b1 [.int .i64 ia, .bool ma, .int .i64 za, .string ua, .slice a1 sa.length c1] 24)
  have P1 : Hid (PcI (w1.alloc (.cells #[.int .i64 ia, .bool ma, .int .i64 za, .string ua, .slice a1 sa.length c1] 24)) (.slice a1 sa.length c1) sa) := p1.next ((Below.refl _ _).alloc (Nat.le_refl _) _)
  clear p1 b1 LT
  go_wp2_with fail
  refine (LR.out _ B1.out.b).mono ?_
  rintro e w2 ⟨ad2, n2, cp2, q2, rfl, I2, K2⟩
  go_wp2_with fail
  refine (RL.out _ _ _ I2.out).mono ?_
  rintro e w3 ⟨a2, c2, rfl, p2, b3⟩
  unfold vnV
  simp only
  have R3 := hid ((B1.out.next K2.out).next b3)
  have P3 := hid ((P1.out.next K2.out).next b3)
  have B3 := hid (Bx.made R3.out.b [.int .i64 ia, .bool ma, .int .i64 za, .string ua, .slice a2 sa.length c2] 36)
  have A3 := hid ((Below.refl w3.heap.size w3).alloc (Nat.le_refl _) (.cells #[.int .i64 ia, .bool ma, .int .i64 za, .string ua, .slice a2 sa.length c2] 36))
  have Q3 := hid p2
  clear p2 b3 RL I2 K2 B1 P1
  go_wp2_with fail
  refine (FN.out _ B3.out.b).mono ?_
  rintro e w4 ⟨a3, c3, rfl, p4, b4⟩
  unfold vnV
  simp only
  have R4 := hid ((R3.out.next A3.out).next b4)
  have P4 := hid ((P3.out.next A3.out).next b4)
  have S4 := hid (B3.out.next b4)
  have Q4 := hid ((Q3.out.next A3.out).next b4)
  have B4 := hid (Bx.made S4.out.b [.int .i64 ic, .bool mc, .int .i64 zc, .string uc, .slice a3 sc.length c3] 24)
  have A4 := hid ((Below.refl w4.heap.size w4).alloc (Nat.le_refl _) (.cells #[.int .i64 ic, .bool mc, .int .i64 zc, .string uc, .slice a3 sc.length c3] 24))
  have T4 := hid p4
  clear p4 b4 FN R3 P3 B3 A3 Q3
  go_wp2_with fail
  refine (LR.out _ B4.out.b).mono ?_
  rintro e w5 ⟨ad5, n5, cp5, q5, rfl, I5, K5⟩
  go_wp2_with fail
  refine (RF.out _ _ _ I5.out).mono ?_
  rintro e w6 ⟨a4, c4, rfl, p6, b6⟩
  unfold vnV
  simp only
  have A6 := hid ((Below.refl w6.heap.size w6).alloc (Nat.le_refl _) (.cells #[.int .i64 ic, .bool mc, .int .i64 zc, .string uc, .slice a4 sc.length c4] 36))
  have FF : Hid (F4 w w1.heap.size w3.heap.size w4.heap.size w6.heap.size a1 a2 a3 a4 c1 c2 c3 c4 ⟨ia, ma, za, ua, sa⟩ ⟨ic, mc, zc, uc, sc⟩ (w6.alloc (.cells #[.int .i64 ic, .bool mc, .int .i64 zc, .string uc, .slice a4 sc.length c4] 36))) :=
    ⟨((((R4.out.next A4.out).next K5.out).next b6).next A6.out).row, (((P4.out.next A4.out).next K5.out).next b6).next A6.out, ((((S4.out.next A4.out).next K5.out).next b6).next A6.out).row, (((Q4.out.next A4.out).next K5.out).next b6).next A6.out, (((B4.out.next K5.out).next b6).next A6.out).row, (((T4.out.next A4.out).next K5.out).next b6).next A6.out, srow w6 _ _, p6.next A6.out, (((B4.out.next K5.out).next b6).next A6.out).b⟩
  obtain ⟨AW, RA, RC, SA, SC, DI, DR, DJ, DS⟩ := EN.out w1.heap.size w3.heap.size w4.heap.size w6.heap.size a1 a2 a3 a4 c1 c2 c3 c4
  clear EN p6 b6 RF I5 K5 R4 P4 S4 Q4 B4 A4 T4 A6 LR
  have FD := hid FF.out.drew
  have YD := hid FF.out.drew.cells
  clear FF
  generalize chI (vqL q) = CI at *
  generalize sa.length = pa at *
  generalize sc.length = pc at *
  generalize w1.heap.size = g1 at *
  generalize w3.heap.size = g2 at *
  generalize w4.heap.size = g3 at *
  simp only at *
  go_wp2
  go_region_held3 (fun w' => (w'.cell? ⟨g1, 0, none⟩ = some (.int .i64 ia) ∧ w'.cell? ⟨g1, 1, none⟩ = some (.bool ma) ∧ w'.cell? ⟨g1, 2, none⟩ = some (.int .i64 za) ∧ w'.cell? ⟨g1, 3, none⟩ = some (.string ua) ∧ w'.cell? ⟨g1, 4, none⟩ = some (.slice a1 pa c1)) ∧ (w'.cell? ⟨g2, 0, none⟩ = some (.int .i64 ia) ∧ w'.cell? ⟨g2, 1, none⟩ = some (.bool ma) ∧ w'.cell? ⟨g2, 2, none⟩ = some (.int .i64 za) ∧ w'.cell? ⟨g2, 3, none⟩ = some (.string ua) ∧ w'.cell? ⟨g2, 4, none⟩ = some (.slice a2 pa c2)) ∧ (w'.cell? ⟨g3, 0, none⟩ = some (.int .i64 ic) ∧ w'.cell? ⟨g3, 1, none⟩ = some (.bool mc) ∧ w'.cell? ⟨g3, 2, none⟩ = some (.int .i64 zc) ∧ w'.cell? ⟨g3, 3, none⟩ = some (.string uc) ∧ w'.cell? ⟨g3, 4, none⟩ = some (.slice a3 pc c3)) ∧ (w'.cell? ⟨w6.heap.size, 0, none⟩ = some (.int .i64 ic) ∧ w'.cell? ⟨w6.heap.size, 1, none⟩ = some (.bool mc) ∧ w'.cell? ⟨w6.heap.size, 2, none⟩ = some (.int .i64 zc) ∧ w'.cell? ⟨w6.heap.size, 3, none⟩ = some (.string uc) ∧ w'.cell? ⟨w6.heap.size, 4, none⟩ = some (.slice a4 pc c4))) (first | with_reducible exact YD.out | with_reducible assumption) (first | (go_at_call 12; with_reducible (refine (AW.out _ FD.out).mono ?_); rintro e wa ⟨rfl, Za, FA⟩) | (go_at_call 15; (first | (with_reducible (refine (RC.out _ FS.out).mono ?_); rintro e wt ⟨adt, cpt, rfl, Zt, FT, PT⟩) | (with_reducible (refine (RA.out _ FA.out).mono ?_); rintro e wr ⟨adr, cpr, rfl, Zr, FR, PR⟩))) | (go_at_call 26; (first | (with_reducible (refine (SC.out _ _ _ FT.out PT.out).mono ?_); rintro e wu ⟨rfl, Zu, FU⟩) | (with_reducible (refine (SA.out _ _ _ FR.out PR.out).mono ?_); rintro e ws ⟨rfl, Zs, FS⟩))) | (go_at_call 28; (first | with_reducible (refine (DI.out _ FK.out).mono ?_) | with_reducible (refine (DI.out _ FJ.out).mono ?_) | with_reducible (refine (DI.out _ FU.out).mono ?_)); rintro e wi ⟨ui, rfl, Zi, FI, KI, SI⟩) | (go_at_call 18; (first | with_reducible (refine (DR.out _ FI.out).mono ?_) | with_reducible (refine (DR.out _ FU.out).mono ?_)); rintro e wj ⟨adj, nj, cpj, qj, rfl, Zj, FJ, KJ, IJ⟩) | (go_at_call 29; (first | with_reducible (refine (DJ.out _ _ _ FI.out ⟨IJ.out.1.next KI.out, IJ.out.2⟩).mono ?_) | with_reducible (refine (DJ.out _ _ _ FJ.out IJ.out).mono ?_)); rintro e wk ⟨uk, rfl, Zk, FK, KK, SK⟩) | (go_at_call 27; (first | with_reducible (refine (DS.out _ _ _ FK.out ((SI.out.below KJ.out).below KK.out) SK.out).mono ?_) | with_reducible (refine (DS.out _ _ _ FK.out (SI.out.below KK.out) SK.out).mono ?_) | with_reducible (refine (DS.out _ _ _ FI.out SI.out (SK.out.below KI.out)).mono ?_)); rintro e wz ⟨rfl, Zz, FZ⟩))
  all_goals
    go_wp2
    go_ret
    exact ⟨rfl, FZ.out.b⟩
end Go.Proofs.Ytbiapepalkdkdaa
