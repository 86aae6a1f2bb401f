/- The walk of the law ConfBytes. -/
import Derived.Test.YtghcijliknahdaaConfH
import Derived.Test.YtghcijliknahdaaConfJ
namespace Go.Proofs.Ytghcijliknahdaa
open Go.RowKit Go.Maps
set_option linter.unusedVariables false
set_option linter.unusedSimpArgs false

/-- a call that gives a list, in whatever world behind w -/
def GiveB (w W : World) (l : List Int) (x : Int) (e : Ending) (w' : World) : Prop := ∃ v, e = .returned (.tuple #[v, .int .i64 x]) ∧ Hid (IntsI w' v l) ∧ Hid (Below w.heap.size w w') ∧ Hid (Below W.heap.size W w')
theorem give_b {w W w' : World} {l : List Int} {x : Int} {e : Ending} (hW : Below w.heap.size w W) (h : GivesI W l x e w') : GiveB w W l x e w' := by
  obtain ⟨v, he, hi, hb, _⟩ := h
  exact ⟨v, he, hi, below_on hW hb, hb⟩
theorem decV_len (s : ByteArray) : (decV s).length ≤ 7 := by
  unfold decV decOk
  split
  · rename_i h
    rw [Bool.and_eq_true] at h
    exact (areM_len h.2).2
  · simp
set_option maxRecDepth 100000 in
set_option maxHeartbeats 1000000 in
theorem confBytes_walk (v0 : Value) (l : List Int) (s : ByteArray) (w : World) (h0 : IntsI w v0 l) (_f0 : ∀ x ∈ l, (Lit.int .i64 x).wf = true) (z0 : l.length ≤ 17592186044416) (zs : s.size ≤ reachBytes) :
    Calls Try.prog 5 #[v0, .string s] w fun e w' => e = .returned (.bool true) ∧ Below w.heap.size w w' := by
  have hs : s.size ≤ 140737488355328 := Nat.le_trans zs (by decide)
  have E1 := hid (cencode_any v0 l w h0 (by omega))
  have E2 : Hid (∀ W, Below w.heap.size w W → Calls Try.prog 26 #[v0] W fun e w' => e = .returned (.tuple #[.string (encC l), .int .i64 (chkC l)]) ∧ Below w.heap.size w w') := fun W hW => (rencode_c v0 l W (h0.next hW) (by omega)).mono fun e w' ⟨he, hb⟩ => ⟨he, below_on hW hb⟩
  have D1 : Hid (∀ W, Below w.heap.size w W → Calls Try.prog 27 #[.string s] W (GiveB w W (decV s) (decE s))) := fun W hW => (cdecode_any s W hs).mono fun e w' h => give_b hW h
  have D2 : Hid (∀ W, Below w.heap.size w W → Calls Try.prog 28 #[.string s] W (GiveB w W (decV s) (decE s))) := fun W hW => (rdecode_any s W hs).mono fun e w' h => give_b hW h
  have AW := hid (fun W => awake9 W)
  have IN : Hid (∀ (x y : Value) (c : List Int) W, IntsI W x c → IntsI W y c → c.length ≤ 7 → Calls Try.prog 22 #[x, y] W fun e w' => e = .returned (.bool true) ∧ Below W.heap.size W w') := fun x y c W hx hy hc => (ints_any x y c c W hx hy (by omega)).mono fun e w' ⟨he, hb⟩ => ⟨by rw [he, eqI_refl], hb⟩
  have LD := hid (decV_len s)
  generalize decV s = DV at *
  generalize decE s = DE at *
  generalize encC l = X at *
  generalize chkC l = K at *
  have hx : (X.data.toList == X.data.toList) = true := beq_self_eq_true _
  have hk : (K == K) = true := beq_self_eq_true _
  have hd : (DE == DE) = true := beq_self_eq_true _
  clear h0 _f0 z0 zs hs
  go_enter Try.func5, Try.ntmps5
  go_wp2_with fail
  refine E1.out.mono ?_
  rintro e w1 ⟨rfl, b1⟩
  have B1 := hid b1
  clear b1 E1
  go_wp2_with fail
  refine (E2.out _ B1.out).mono ?_
  rintro e w2 ⟨rfl, b2⟩
  have B2 := hid b2
  clear b2 E2 B1
  go_wp2_with fail
  refine (D1.out _ B2.out).mono ?_
  rintro e w3 ⟨vc, rfl, I3, B3, _⟩
  clear D1 B2
  go_wp2_with fail
  refine (D2.out _ B3.out).mono ?_
  rintro e w4 ⟨vd, rfl, I4, B4, K4⟩
  have I3' := hid (I3.out.next K4.out)
  clear D2 B3 K4 I3
  go_wp2_with fail
  refine (AW.out _).mono ?_
  rintro e w5 ⟨rfl, k5⟩
  have I35 := hid (I3'.out.next k5)
  have I45 := hid (I4.out.next k5)
  have B5 := hid (below_on B4.out k5)
  clear k5 I3' I4 B4 AW
  go_wp2_with fail
  refine (IN.out _ _ _ _ I35.out I45.out LD.out).mono ?_
  rintro e w6 ⟨rfl, k6⟩
  have B6 := hid (below_on B5.out k6)
  clear k6 I35 I45 B5 IN
  go_wp2
  go_ret
  exact ⟨rfl, B6.out⟩
end Go.Proofs.Ytghcijliknahdaa
