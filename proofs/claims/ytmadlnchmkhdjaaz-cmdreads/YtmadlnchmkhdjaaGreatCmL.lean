/- The document's Check answers what the program's does. -/
import Derived.Test.YtmadlnchmkhdjaaGreatJoined27
import Derived.Test.YtmadlnchmkhdjaaGreatCmZ
import Derived.Test.YtmadlnchmkhdjaaGreatJoined05
import Derived.Test.YtmadlnchmkhdjaaGreatJoined06
namespace Go.Proofs.YtmadlnchmkhdjaaGreat
open Go.RowKit Go.Maps
set_option linter.unusedVariables false
set_option linter.unusedSimpArgs false

theorem ten {k : Int} (h1 : 1 ≤ k) (h2 : k ≤ 10) : k = 1 ∨ k = 2 ∨ k = 3 ∨ k = 4 ∨ k = 5 ∨ k = 6 ∨ k = 7 ∨ k = 8 ∨ k = 9 ∨ k = 10 := by omega
theorem g1 {k : Int} (h1 : 1 ≤ k) (h2 : k ≤ 10) (te tb : Bool) : fitB (flN k) 1 (te || tb) te = !(!te && ((k == 10) || !tb)) := by
  rcases ten h1 h2 with rfl | rfl | rfl | rfl | rfl | rfl | rfl | rfl | rfl | rfl <;> cases te <;> cases tb <;> rfl
theorem g2 {k : Int} (h1 : 1 ≤ k) (h2 : k ≤ 10) (be bb : Bool) : fitB (flN k) 2 bb be = !((k == 10) && !be || decide (k < 10) && !bb) := by
  rcases ten h1 h2 with rfl | rfl | rfl | rfl | rfl | rfl | rfl | rfl | rfl | rfl <;> cases be <;> cases bb <;> rfl
theorem g3 {k : Int} (h1 : 1 ≤ k) (h2 : k ≤ 10) (ke kb : Bool) : fitB (flN k) 4 kb ke = !(hkB k && !kb || !hkB k && !ke) := by
  rcases ten h1 h2 with rfl | rfl | rfl | rfl | rfl | rfl | rfl | rfl | rfl | rfl <;> cases ke <;> cases kb <;> rfl
theorem f8 {k : Int} (h1 : 1 ≤ k) (h2 : k ≤ 10) (r n : Bool) : fitB (flN k) 8 r n = if hiB k = true then r else n := by
  rcases ten h1 h2 with rfl | rfl | rfl | rfl | rfl | rfl | rfl | rfl | rfl | rfl <;> rfl
theorem f16 {k : Int} (h1 : 1 ≤ k) (h2 : k ≤ 10) (r n : Bool) : fitB (flN k) 16 r n = if (k == 7) = true then r else n := by
  rcases ten h1 h2 with rfl | rfl | rfl | rfl | rfl | rfl | rfl | rfl | rfl | rfl <;> rfl
theorem f32 {k : Int} (h1 : 1 ≤ k) (h2 : k ≤ 10) (r n : Bool) : fitB (flN k) 32 r n = if hsB k = true then r else n := by
  rcases ten h1 h2 with rfl | rfl | rfl | rfl | rfl | rfl | rfl | rfl | rfl | rfl <;> rfl
theorem f64 {k : Int} (h1 : 1 ≤ k) (h2 : k ≤ 10) (r n : Bool) : fitB (flN k) 64 r n = if hsB k = true then r else n := by
  rcases ten h1 h2 with rfl | rfl | rfl | rfl | rfl | rfl | rfl | rfl | rfl | rfl <;> rfl
theorem f128 {k : Int} (h1 : 1 ≤ k) (h2 : k ≤ 10) (r n : Bool) : fitB (flN k) 128 r n = if (k == 8) = true then r else n := by
  rcases ten h1 h2 with rfl | rfl | rfl | rfl | rfl | rfl | rfl | rfl | rfl | rfl <;> rfl
theorem fne {k : Int} (h1 : 1 ≤ k) (h2 : k ≤ 10) : decide (flN k = 0) = false := by
  rcases ten h1 h2 with rfl | rfl | rfl | rfl | rfl | rfl | rfl | rfl | rfl | rfl <;> rfl
theorem g4 {k : Int} (h1 : 1 ≤ k) (h2 : k ≤ 10) (id : Int) : fitB (flN k) 8 (wiB id (if k = 10 then 0 else 1) 1099511627776) (decide (id = 0)) = !(decide (id < 0) || decide (1099511627776 < id) || !hiB k && !(id == 0) || hiB k && decide (k < 10) && (id == 0)) := by
  rw [f8 h1 h2]
  unfold wiB
  cases hh : hiB k
  · by_cases h0 : id = 0
    · subst h0; simp
    · simp [h0]
  · by_cases h10 : k = 10
    · subst h10
      by_cases a : id < 0
      · simp [a]; omega
      · by_cases b : 1099511627776 < id
        · simp [a, b]
        · simp [a, b]; omega
    · have hk : k < 10 := by omega
      rw [if_neg h10]
      by_cases a : id < 0
      · simp [a]; omega
      · by_cases b : 1099511627776 < id
        · simp [a, b]
        · by_cases c : id = 0
          · subst c; simp [hk]
          · have d : 1 ≤ id := by omega
            have e : id ≤ 1099511627776 := by omega
            simp [a, b, c, d, e]
theorem g5 {k : Int} (h1 : 1 ≤ k) (h2 : k ≤ 10) (n : Int) : fitB (flN k) 16 (wiB n 1 100) (decide (n = 0)) = !((k == 7) && (decide (n < 1) || decide (100 < n)) || !(k == 7) && !(n == 0)) := by
  rw [f16 h1 h2]
  unfold wiB
  cases hh : (k == 7)
  · by_cases h0 : n = 0
    · subst h0; simp
    · simp [h0]
  · by_cases a : n < 1
    · simp [a]; omega
    · by_cases b : 100 < n
      · simp [a, b]
      · have d : 1 ≤ n := by omega
        have e : n ≤ 100 := by omega
        simp [a, b, d, e]
theorem g6 {k : Int} (h1 : 1 ≤ k) (h2 : k ≤ 10) (ds se : Bool) (pe pv : Int) (pn : Nat) : (fitB (flN k) 32 ds se && fitB (flN k) 64 (decide (pe = 0) && decide (pv ≤ 1048576)) (decide (pn = 0))) = !(hsB k && (!ds || !(pe == 0) || decide (1048576 < pv)) || !hsB k && (!se || decide ((0 : Int) < (pn : Int)))) := by
  rw [f32 h1 h2, f64 h1 h2]
  cases hh : hsB k
  · by_cases h0 : pn = 0
    · subst h0; simp
    · have : (0 : Int) < (pn : Int) := by omega
      simp [h0, this]
      omega
  · by_cases a : pe = 0
    · subst a
      by_cases b : 1048576 < pv
      · have c : ¬ pv ≤ 1048576 := by omega
        simp [b, c]
      · have c : pv ≤ 1048576 := by omega
        simp [b, c]
    · simp [a]
theorem g7 {k : Int} (h1 : 1 ≤ k) (h2 : k ≤ 10) (ks : List Pk) : fitB (flN k) 128 (pksOk ks) (decide (ks.length = 0)) = (!(decide ((100 : Int) < (ks.length : Int)) || !(k == 8) && decide ((0 : Int) < (ks.length : Int))) && !anK ks) := by
  rw [f128 h1 h2, pksOk_an]
  cases hh : (k == 8)
  · by_cases h0 : ks.length = 0
    · have : ks = [] := List.eq_nil_of_length_eq_zero h0
      subst this
      rfl
    · have a : (0 : Int) < (ks.length : Int) := by omega
      have b : decide (ks.length = 0) = false := decide_eq_false h0
      have c : decide ((0 : Int) < (ks.length : Int)) = true := decide_eq_true a
      rw [b, c]
      simp
  · by_cases a : ks.length ≤ 100
    · have b : decide ((100 : Int) < (ks.length : Int)) = false := decide_eq_false (by omega)
      have c : decide (ks.length ≤ 100) = true := decide_eq_true a
      rw [b, c]
      simp
    · have b : decide ((100 : Int) < (ks.length : Int)) = true := decide_eq_true (by omega)
      have c : decide (ks.length ≤ 100) = false := decide_eq_false a
      rw [b, c]
      simp
theorem ckN_ref (c : Cm) (h1 : 1 ≤ c.kd) (h2 : c.kd ≤ 10) : ckN c = if ((!emB c.tk && ((c.kd == 10) || !tokOk c.tk.data.toList)) || ((c.kd == 10) && !emB c.bk || decide (c.kd < 10) && !bktOk c.bk.data.toList) || (hkB c.kd && !keyOk c.ky.data.toList || !hkB c.kd && !emB c.ky) || (decide (c.id < 0) || decide (1099511627776 < c.id) || !hiB c.kd && !(c.id == 0) || hiB c.kd && decide (c.kd < 10) && (c.id == 0)) || ((c.kd == 7) && (decide (c.n < 1) || decide (100 < c.n)) || !(c.kd == 7) && !(c.n == 0)) || (hsB c.kd && (!isDg c.sm || !(pcE c.ps == 0) || decide (1048576 < pcV c.ps)) || !hsB c.kd && (!emB c.sm || decide ((0 : Int) < (c.ps.length : Int)))) || (decide ((100 : Int) < (c.ks.length : Int)) || !(c.kd == 8) && decide ((0 : Int) < (c.ks.length : Int))) || anK c.ks) = true then 1 else 0 := by
  have hg6 := g6 h1 h2 (isDg c.sm) (emB c.sm) (pcE c.ps) (pcV c.ps) c.ps.length
  unfold ckN cmOk nfB nuB dfB obB
  rw [fne h1 h2, g1 h1 h2, g2 h1 h2, g3 h1 h2, g4 h1 h2, g5 h1 h2, hg6, g7 h1 h2]
  generalize (!emB c.tk && ((c.kd == 10) || !tokOk c.tk.data.toList)) = r1
  generalize ((c.kd == 10) && !emB c.bk || decide (c.kd < 10) && !bktOk c.bk.data.toList) = r2
  generalize (hkB c.kd && !keyOk c.ky.data.toList || !hkB c.kd && !emB c.ky) = r3
  generalize (decide (c.id < 0) || decide (1099511627776 < c.id) || !hiB c.kd && !(c.id == 0) || hiB c.kd && decide (c.kd < 10) && (c.id == 0)) = r4
  generalize ((c.kd == 7) && (decide (c.n < 1) || decide (100 < c.n)) || !(c.kd == 7) && !(c.n == 0)) = r5
  generalize (hsB c.kd && (!isDg c.sm || !(pcE c.ps == 0) || decide (1048576 < pcV c.ps)) || !hsB c.kd && (!emB c.sm || decide ((0 : Int) < (c.ps.length : Int)))) = r6
  generalize (decide ((100 : Int) < (c.ks.length : Int)) || !(c.kd == 8) && decide ((0 : Int) < (c.ks.length : Int))) = r7
  generalize anK c.ks = r8
  cases r1 <;> cases r2 <;> cases r3 <;> cases r4 <;> cases r5 <;> cases r6 <;> cases r7 <;> cases r8 <;> rfl
theorem kl_10 {k : Int} (h2 : ¬ 10 < k) : decide (k < 10) = !(k == 10) := by
  by_cases h : k = 10
  · subst h
    rfl
  · rw [decide_eq_true (show k < 10 by omega)]
    simp [h]
theorem fl0 {k : Int} (h : k < 1 ∨ 10 < k) : flN k = 0 := by
  unfold flN
  repeat rw [if_neg (by omega)]
theorem ckN_bad {c : Cm} (h : c.kd < 1 ∨ 10 < c.kd) : ckN c = 1 := by
  unfold ckN cmOk
  rw [fl0 h]
  rfl
set_option maxRecDepth 100000 in
set_option maxHeartbeats 4000000 in
theorem rcheck16_any (pv kv : Value) (c : Cm) (w : World) (hp : PcI w pv c.ps) (hk : PkI w kv c.ks) (hz : ibulk.SzMb c) : Calls Tryz.prog 14 #[cmV pv kv c] w fun e w' => e = .returned (.int .i64 (ckN c)) ∧ Below w.heap.size w w' := by
  obtain ⟨pa, pc, rfl, -⟩ := hp.form
  obtain ⟨ka, kc, rfl, hc⟩ := hk.form
  by_cases h1 : c.kd < 1
  · have hE : ckN c = 1 := ckN_bad (.inl h1)
    rw [hE]
    unfold cmV
    obtain ⟨kd, tk, bk, ky, id, n, sm, ps, ks⟩ := c
    simp only at *
    have BA := hid (below_al (Below.refl w.heap.size w) (.cells #[.int .i64 kd, .string tk, .string bk, .string ky, .int .i64 id, .int .i64 n, .string sm, .slice pa ps.length pc, .slice ka ks.length kc] 34))
    clear hp hk hz hc hE
    generalize ps.length = pn at *
    generalize ks.length = kn at *
    go_enter Tryz.func14, Tryz.ntmps14
    go_wp2
    go_ret
    exact ⟨rfl, BA.out⟩
  by_cases h2 : 10 < c.kd
  · have hE : ckN c = 1 := ckN_bad (.inr h2)
    rw [hE]
    unfold cmV
    obtain ⟨kd, tk, bk, ky, id, n, sm, ps, ks⟩ := c
    simp only at *
    have BA := hid (below_al (Below.refl w.heap.size w) (.cells #[.int .i64 kd, .string tk, .string bk, .string ky, .int .i64 id, .int .i64 n, .string sm, .slice pa ps.length pc, .slice ka ks.length kc] 34))
    clear hp hk hz hc hE
    generalize ps.length = pn at *
    generalize ks.length = kn at *
    go_enter Tryz.func14, Tryz.ntmps14
    go_wp2
    go_ret
    exact ⟨rfl, BA.out⟩
  unfold cmV
  obtain ⟨kd, tk, bk, ky, id, n, sm, ps, ks⟩ := c
  simp only at *
  exact rck_spine kd id n (pcE ps) (pcV ps) tk bk ky sm pa ka ps.length pc kc ks w (emB tk) (emB bk) (emB ky) (emB sm) (kd == 10) (decide (kd < 10)) (kd == 7) (kd == 8) (decide (id < 0)) (decide (1099511627776 < id)) (id == 0) (decide (n < 1)) (decide (100 < n)) (n == 0) (pcE ps == 0) (decide (1048576 < pcV ps)) (decide ((0 : Int) < (ps.length : Int))) (decide ((100 : Int) < (ks.length : Int))) (decide ((0 : Int) < (ks.length : Int))) (tokOk tk.data.toList) (bktOk bk.data.toList) (keyOk ky.data.toList) (isDg sm) (hkB kd) (hiB kd) (hsB kd) _ _ _ _ _ _ _ _ h1 h2 (em3 tk).1 (em3 tk).2.1 (em3 tk).2.2 (em3 bk).1 (em3 bk).2.1 (em3 bk).2.2 (em3 ky).1 (em3 ky).2.1 (em3 ky).2.2 (em3 sm).1 (em3 sm).2.1 (em3 sm).2.2 rfl rfl rfl rfl rfl rfl rfl rfl rfl rfl rfl rfl rfl (decide_eq_decide.2 (by omega)) rfl (decide_eq_decide.2 (by omega)) rfl (decide_eq_decide.2 (by omega)) (fun W hW => (rtoken_any tk W hz.tk).mono fun e w' ⟨a1, a2⟩ => ⟨a1, a2 ▸ Below.refl _ _⟩) (fun W hW => (rbucket_any bk W).mono fun e w' ⟨a1, a2⟩ => ⟨a1, a2 ▸ Below.refl _ _⟩) (fun W hW => (rkey_any ky W hz.ky).mono fun e w' ⟨a1, a2⟩ => ⟨a1, a2 ▸ Below.refl _ _⟩) (fun W hW => (hasKey_any kd W).mono fun e w' ⟨a1, a2⟩ => ⟨a1, a2 ▸ Below.refl _ _⟩) (fun W hW => (hasID_any kd W).mono fun e w' ⟨a1, a2⟩ => ⟨a1, a2 ▸ Below.refl _ _⟩) (fun W hW => (hasSum_any kd W).mono fun e w' ⟨a1, a2⟩ => ⟨a1, a2 ▸ Below.refl _ _⟩) (fun W hW => rmay6_any sm W hz.sm) (fun W hW => rpieces_any _ ps W (hp.next hW) (by have h0 : ps.length * 24 ≤ 140737488355328 := hz.pl; omega) hz.ps) (fun k hk' W hW => rmay6_any _ W (hz.ks _ (List.getElem_mem hk'))) hc rfl rfl rfl rfl rfl rfl rfl (kl_10 h2) (by have h0 : ks.length * 24 ≤ 140737488355328 := hz.kl; show ks.length ≤ 8796093022208; omega) (ckN_ref ⟨kd, tk, bk, ky, id, n, sm, ps, ks⟩ (by show 1 ≤ kd; omega) (by show kd ≤ 10; omega))
end Go.Proofs.YtmadlnchmkhdjaaGreat
