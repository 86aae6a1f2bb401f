/- The walk of the law ConfChanges. -/
import Derived.Test.YtghcijliknahdaaConfE
namespace Go.Proofs.Ytghcijliknahdaa
open Go.RowKit Go.Maps
set_option linter.unusedVariables false
set_option linter.unusedSimpArgs false

theorem addV_len (l : List Int) (n : Int) : (addV l n).length ≤ 7 := by
  unfold addV addL
  split
  · split
    · split
      · simp
      · exact Nat.le_trans (List.length_filter_le _ _) (by decide)
    · simp
  · simp
theorem dropV_len (l : List Int) (n : Int) : (dropV l n).length ≤ 7 := by
  unfold dropV dropL
  split
  · rename_i h
    split
    · split
      · simp
      · exact Nat.le_trans (List.length_filter_le _ _) (areM_len h).2
    · simp
  · simp
/-- a call that gives a list, in whatever world behind w -/
def GiveAt (w W : World) (l : List Int) (x : Int) (e : Ending) (w' : World) : Prop := ∃ v, e = .returned (.tuple #[v, .int .i64 x]) ∧ Hid (IntsI w' v l) ∧ Hid (Below w.heap.size w w') ∧ Hid (Below W.heap.size W w')
theorem give_at {w W w' : World} {l : List Int} {x : Int} {e : Ending} (hW : Below w.heap.size w W) (h : GivesI W l x e w') : GiveAt w W l x e w' := by
  obtain ⟨v, he, hi, hb, _⟩ := h
  exact ⟨v, he, hi, below_on hW hb, hb⟩
set_option maxRecDepth 100000 in
set_option maxHeartbeats 1000000 in
theorem confChanges_walk (v0 : Value) (l : List Int) (v1 : Value) (o : List Int) (n : Int) (w : World) (h0 : IntsI w v0 l) (_f0 : ∀ x ∈ l, (Lit.int .i64 x).wf = true) (z0 : l.length ≤ 17592186044416) (h1 : IntsI w v1 o) (_f1 : ∀ x ∈ o, (Lit.int .i64 x).wf = true) (z1 : o.length ≤ 17592186044416) (_hn : (Lit.int .i64 n).wf = true) :
    Calls Try.prog 4 #[v0, v1, .int .i64 n] w fun e w' => e = .returned (.bool true) ∧ Below w.heap.size w w' := by
  have A1 := hid ((cadd_any v0 l n w h0 (by omega)).mono fun e w' h => give_at (Below.refl _ _) h)
  have A2 : Hid (∀ W, Below w.heap.size w W → Calls Try.prog 19 #[v0, .int .i64 n] W (GiveAt w W (addV l n) (addE l n))) := fun W hW => (radd_any v0 l n W (h0.next hW) (by omega)).mono fun e w' h => give_at hW h
  have D1 : Hid (∀ W, Below w.heap.size w W → Calls Try.prog 20 #[v0, .int .i64 n] W (GiveAt w W (dropV l n) (dropE l n))) := fun W hW => (cdrop_any v0 l n W (h0.next hW) (by omega)).mono fun e w' h => give_at hW h
  have D2 : Hid (∀ W, Below w.heap.size w W → Calls Try.prog 21 #[v0, .int .i64 n] W (GiveAt w W (dropV l n) (dropE l n))) := fun W hW => (rdrop_any v0 l n W (h0.next hW) (by omega)).mono fun e w' h => give_at hW h
  have AW := hid (fun W => awake9 W)
  have IN : Hid (∀ (x y : Value) (c : List Int) W, IntsI W x c → IntsI W y c → c.length ≤ 7 → Calls Try.prog 22 #[x, y] W fun e w' => e = .returned (.bool true) ∧ Below W.heap.size W w') := fun x y c W hx hy hc => (ints_any x y c c W hx hy (by omega)).mono fun e w' ⟨he, hb⟩ => ⟨by rw [he, eqI_refl], hb⟩
  have N1 : Hid (∀ W, Below w.heap.size w W → Calls Try.prog 23 #[v0, v1] W fun e w' => e = .returned (.bool (nearR l o)) ∧ w' = W) := fun W hW => (cnear_any v0 v1 l o W (h0.next hW) (h1.next hW) (by omega) (by omega)).mono fun e w' ⟨he, hw⟩ => ⟨by rw [he, near_eq], hw⟩
  have N2 : Hid (∀ W, Below w.heap.size w W → Calls Try.prog 24 #[v0, v1] W fun e w' => e = .returned (.bool (nearR l o)) ∧ Below w.heap.size w w') := fun W hW => (rnear_any v0 v1 l o W (h0.next hW) (h1.next hW) (by omega) (by omega)).mono fun e w' ⟨he, hb⟩ => ⟨he, below_on hW hb⟩
  have LA := hid (addV_len l n)
  have LD := hid (dropV_len l n)
  generalize addV l n = AV at *
  generalize addE l n = AE at *
  generalize dropV l n = DV at *
  generalize dropE l n = DE at *
  generalize nearR l o = NR at *
  have hee : (NR == NR) = true := by cases NR <;> rfl
  have ha : (AE == AE) = true := beq_self_eq_true _
  have hd : (DE == DE) = true := beq_self_eq_true _
  clear h0 h1 _f0 _f1 z0 z1 _hn
  go_enter Try.func4, Try.ntmps4
  go_wp2_with fail
  refine A1.out.mono ?_
  rintro e w1 ⟨va, rfl, Ia, Ba, _⟩
  clear A1
  go_wp2_with fail
  refine (A2.out _ Ba.out).mono ?_
  rintro e w2 ⟨vb, rfl, Ib, Bb, K2⟩
  have Ia2 := hid (Ia.out.next K2.out)
  clear A2 Ia Ba K2
  go_wp2_with fail
  refine (D1.out _ Bb.out).mono ?_
  rintro e w3 ⟨vc, rfl, Ic, Bc, K3⟩
  have Ia3 := hid (Ia2.out.next K3.out)
  have Ib3 := hid (Ib.out.next K3.out)
  clear D1 Ia2 Ib Bb K3
  go_wp2_with fail
  refine (D2.out _ Bc.out).mono ?_
  rintro e w4 ⟨vd, rfl, Id, Bd, K4⟩
  have Ia4 := hid (Ia3.out.next K4.out)
  have Ib4 := hid (Ib3.out.next K4.out)
  have Ic4 := hid (Ic.out.next K4.out)
  clear D2 Ia3 Ib3 Ic Bc K4
  go_wp2_with fail
  refine (AW.out _).mono ?_
  rintro e w5 ⟨rfl, k5⟩
  have Ia5 := hid (Ia4.out.next k5)
  have Ib5 := hid (Ib4.out.next k5)
  have Ic5 := hid (Ic4.out.next k5)
  have Id5 := hid (Id.out.next k5)
  have B5 := hid (below_on Bd.out k5)
  clear k5 Ia4 Ib4 Ic4 Id Bd AW
  go_wp2_with fail
  refine (IN.out _ _ _ _ Ia5.out Ib5.out LA.out).mono ?_
  rintro e w6 ⟨rfl, k6⟩
  have Ic6 := hid (Ic5.out.next k6)
  have Id6 := hid (Id5.out.next k6)
  have B6 := hid (below_on B5.out k6)
  clear k6 Ia5 Ib5 Ic5 Id5 B5
  go_wp2_with fail
  refine (IN.out _ _ _ _ Ic6.out Id6.out LD.out).mono ?_
  rintro e w7 ⟨rfl, k7⟩
  have B7 := hid (below_on B6.out k7)
  clear k7 Ic6 Id6 B6
  go_wp2_with fail
  refine (N1.out _ B7.out).mono ?_
  rintro e w8 ⟨rfl, rfl⟩
  go_wp2_with fail
  refine (N2.out _ B7.out).mono ?_
  rintro e w9 ⟨rfl, k9⟩
  have B9 := hid k9
  clear k9
  go_wp2
  go_ret
  exact ⟨rfl, B9.out⟩
end Go.Proofs.Ytghcijliknahdaa
