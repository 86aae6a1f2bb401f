/- The walk of the law ConfLatest. -/
import Derived.Test.YtghcijliknahdaaConfLB
namespace Go.Proofs.Ytghcijliknahdaa
open Go.RowKit Go.Maps
set_option linter.unusedVariables false
set_option linter.unusedSimpArgs false

set_option maxRecDepth 100000 in
set_option maxHeartbeats 2000000 in
theorem confLatest_walk (v0 : Value) (base : List Int) (v1 : Value) (es : List En) (w : World) (h0 : IntsI w v0 base) (_f0 : ∀ x ∈ base, (Lit.int .i64 x).wf = true) (z0 : base.length ≤ 17592186044416) (h1 : EntI w v1 es) (z1 : es.length ≤ 4398046511104) (hd : ∀ x ∈ es, x.da.size ≤ 140737488355328) :
    Calls Try.prog 7 #[v0, v1] w fun e w' => e = .returned (.bool true) ∧ Below w.heap.size w w' := by
  have CL : Hid (∀ W, Below w.heap.size w W → Calls Try.prog 29 #[v0, v1] W fun e w' => ∃ v', e = .returned (.tuple #[v', .int .i64 ((latF ⟨base, 0⟩ 0 es).p : Nat)]) ∧ Hid (IntsI w' v' (latF ⟨base, 0⟩ 0 es).l) ∧ Hid (Below w.heap.size w w') ∧ Hid (Below W.heap.size W w')) := fun W hW => (clatest_any v0 v1 base es W (h0.next hW) (h1.next hW) z0 (by omega) hd).mono fun e w' ⟨v', he, hi, hb⟩ => ⟨v', he, hi, below_on hW hb, hb⟩
  have RL : Hid (∀ (va vb : Value) W, Below w.heap.size w W → IntsI W va (es.map (·.kd)) → StrJ W vb (es.map (·.da)) → Calls Try.prog 30 #[v0, va, vb] W fun e w' => ∃ v', e = .returned (.tuple #[v', .int .i64 ((latF ⟨base, 0⟩ 0 es).p : Nat)]) ∧ Hid (IntsI w' v' (latF ⟨base, 0⟩ 0 es).l) ∧ Hid (Below w.heap.size w w') ∧ Hid (Below W.heap.size W w')) := fun va vb W hW ha hb => (rlatest_any v0 va vb base es W (h0.next hW) ha hb (by omega) hd).mono fun e w' ⟨v', he, hi, hb⟩ => ⟨v', he, hi, below_on hW hb, hb⟩
  have AW := hid (fun W => awake9 W)
  have HLR : Hid ((latF ⟨base, 0⟩ 0 es).l.length ≤ 17592186044416) := by
    show _ ≤ _
    have key : ∀ (l : List En) (a : La) (k : Nat), a.l.length ≤ 17592186044416 → (latF a k l).l.length ≤ 17592186044416 := fun l => by
      induction l with
      | nil => intro a k h; exact h
      | cons x r ih =>
        intro a k h
        refine ih _ _ ?_
        unfold stpL
        split
        · show (decV x.da).length ≤ _
          unfold decV decOk
          split
          · rename_i h9
            rw [Bool.and_eq_true] at h9
            have := areM_len h9.2
            omega
          · simp
        · exact h
    exact key es ⟨base, 0⟩ 0 z0
  have IN : Hid (∀ (x y : Value) (c : List Int) W, IntsI W x c → IntsI W y c → c.length ≤ 17592186044416 → Calls Try.prog 22 #[x, y] W fun e w' => e = .returned (.bool true) ∧ Below W.heap.size W w') := fun x y c W hx hy hc => (ints_any x y c c W hx hy (by omega)).mono fun e w' ⟨he, hb⟩ => ⟨by rw [he, eqI_refl], hb⟩
  obtain ⟨ad, cap, rfl, hc⟩ := h1.form
  have HC := hid hc
  have HZ := hid z1
  generalize latF ⟨base, 0⟩ 0 es = R at *
  obtain ⟨rl, rp⟩ := R
  simp only at *
  have hpp : (((rp : Nat) : Int) == ((rp : Nat) : Int)) = true := beq_self_eq_true _
  clear hc h0 h1 _f0 z0 z1 hd
  go_enter Try.func7, Try.ntmps7
  go_wp2
  go_loopw [5, 6, 7] (fun ka sb i wr => ∃ (k : Nat) (ad1 ad2 : Option Addr) (c1 c2 : Nat), k ≤ es.length ∧ ka = .slice ad1 k c1 ∧ sb = .slice ad2 k c2 ∧ i = .int .i64 (k : Int) ∧ Hid (Rws w (.slice ad1 k c1) ((es.take k).map (·.kd)) (.slice ad2 k c2) ((es.take k).map (·.da)) wr)) (fun _ _ i _ => es.length - (intOf i).toNat)
  case atStart => exact ⟨0, none, none, 0, 0, Nat.zero_le _, rfl, rfl, rfl, ⟨⟨rfl, .inl ⟨rfl, rfl⟩⟩, ⟨rfl, .inl ⟨rfl, rfl⟩⟩, Below.refl _ _⟩⟩
  case round =>
    obtain ⟨k, ad1, ad2, c1, c2, hk, rfl, rfl, rfl, HR⟩ := hrel
    by_cases hlt : k < es.length
    · have hk0 : (0 : Int) ≤ (k : Int) := by omega
      have hk1 : (k : Int) < (es.length : Int) := by omega
      obtain ⟨b, off, rfl, hb, e0, e1, e2⟩ := HC.out k hlt
      have d1 := (HR.out.bel.cell (p := ⟨b, off + k * 3 + 1, none⟩) hb).trans e1
      have hwk : wrap64 ((k : Int) + 1) = ((k + 1 : Nat) : Int) := by have := HZ.out; rw [IntWalk.wrap64_in _ (by omega)]; omega
      have HLT := hid hlt
      have T1 : Hid ((es.take (k + 1)).map (·.kd) = (es.take k).map (·.kd) ++ [es[k].kd]) := by show _ = _; rw [List.take_succ_eq_append_getElem hlt, List.map_append]; rfl
      have T2 : Hid ((es.take (k + 1)).map (·.da) = (es.take k).map (·.da) ++ [es[k].da]) := by show _ = _; rw [List.take_succ_eq_append_getElem hlt, List.map_append]; rfl
      have L1 : Hid (((es.take k).map (·.kd)).length = k) := by show _ = _; simp; omega
      have L2 : Hid (((es.take k).map (·.da)).length = k) := by show _ = _; simp; omega
      have Z1 : Hid ((((es.take k).map (·.kd)).length + 1) * 8 ≤ 140737488355328) := by have := HZ.out; show _ ≤ _; rw [L1.out]; omega
      have Z2 : Hid ((((es.take k).map (·.da)).length + 1) * 16 ≤ 140737488355328) := by have := HZ.out; show _ ≤ _; rw [L2.out]; omega
      have E2 : Hid (∀ W, Below w.heap.size w W → W.cell? ⟨b, off + k * 3 + 2, none⟩ = some (.string es[k].da)) := fun W hW => (hW.cell (p := ⟨b, off + k * 3 + 2, none⟩) hb).trans e2
      generalize es[k] = x at *
      obtain ⟨tm, kd, da⟩ := x
      simp only at *
      generalize (es.take k).map (·.kd) = KA at *
      generalize (es.take k).map (·.da) = SB at *
      have HN1 := hid (HR.out.al (.cells #[.int .i64 kd] 3))
      have HX1 : Hid (RowIs (wr.alloc (.cells #[.int .i64 kd] 3)) wr.heap.size [.int .i64 kd] 3) := srow wr [.int .i64 kd] 3
      clear HC hb e0 e1 e2 HZ hlt hk CL RL AW IN HLR
      go_wp2_with (at_builtin; first | (refine wpl_rwB rfl _ _ rfl w2.heap.size k (.slice ad2 k c2) (.slice ad1' (k + 1) c1') (KA ++ [kd]) SB da L2.out rfl rfl (h2.al (.cells #[.string da] 9)) (srow w2 [.string da] 9) Z2.out ?_; intro ad2' c2' w3 h3) | (refine wpl_rwA rfl _ _ rfl wr.heap.size k (.slice ad1 k c1) (.slice ad2 k c2) KA SB kd L1.out rfl rfl HN1.out HX1.out Z1.out ?_; intro ad1' c1' w2 h2; have d2 := E2.out w2 h2.bel))
      have H3 := hid h3
      clear h3 h2 d1 d2 HN1 HX1 HR
      go_wp2
      exact ⟨⟨k + 1, ad1', ad2', c1', c2', HLT.out, rfl, rfl, by first | rw [hwk] | rfl | simp, by rw [T1.out, T2.out]; exact H3⟩, by rw [hwk]; have := HLT.out; simp [intOf]; omega⟩
    · have hk9 : k = es.length := by omega
      subst hk9
      have hdl : decide ((es.length : Int) < (es.length : Int)) = false := decide_eq_false (by omega)
      obtain ⟨ra, rb, rc⟩ := HR.out
      rw [List.take_length] at ra rb
      have IA := hid ra.ints
      have IB := hid rb.strs
      have B0 := hid rc
      clear HR HC HZ ra rb rc
      go_wp2_with fail
      refine (CL.out _ B0.out).mono ?_
      rintro e w1 ⟨v', rfl, I1, B1, K1⟩
      have IA1 := hid (IA.out.next K1.out)
      have IB1 := hid (IB.out.next K1.out)
      clear CL IA IB B0 K1
      go_wp2_with fail
      refine (RL.out _ _ _ B1.out IA1.out IB1.out).mono ?_
      rintro e w2 ⟨v'', rfl, I2, B2, K2⟩
      have I12 := hid (I1.out.next K2.out)
      clear RL IA1 IB1 I1 B1 K2
      go_wp2_with fail
      refine (AW.out _).mono ?_
      rintro e w3 ⟨rfl, k3⟩
      have I13 := hid (I12.out.next k3)
      have I23 := hid (I2.out.next k3)
      have B3 := hid (below_on B2.out k3)
      clear k3 I12 I2 B2 AW
      go_wp2_with fail
      refine (IN.out _ _ _ _ I13.out I23.out HLR.out).mono ?_
      rintro e w4 ⟨rfl, k4⟩
      have B4 := hid (below_on B3.out k4)
      clear k4 I13 I23 B3 IN
      go_wp2
      go_ret
      exact ⟨rfl, B4.out⟩
end Go.Proofs.Ytghcijliknahdaa
