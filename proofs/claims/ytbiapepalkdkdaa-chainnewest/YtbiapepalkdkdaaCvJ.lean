/- A version's place; one is taken away: the program. -/
import Derived.Test.YtbiapepalkdkdaaGApR
import Derived.Test.YtbiapepalkdkdaaCvI
namespace Go.Proofs.Ytbiapepalkdkdaa
open Go.RowKit Go.Maps
set_option linter.unusedVariables false
set_option linter.unusedSimpArgs false

/-- the first place of a number -/
def idxF (id : Int) : List Vn → Nat → Option Nat
  | [], _ => none
  | v :: r, k => if v.id = id then some k else idxF id r (k + 1)
theorem idxF_at (id : Int) (l : List Vn) (k : Nat) (hk : k < l.length) : idxF id (l.drop k) k = if l[k].id = id then some k else idxF id (l.drop (k + 1)) (k + 1) := by
  rw [List.drop_eq_getElem_cons hk]; rfl
theorem idxF_some {id : Int} : ∀ {l : List Vn} {k j : Nat}, idxF id l k = some j → k ≤ j ∧ ∃ h : j - k < l.length, l[j - k].id = id
  | [], k, j, h => by simp [idxF] at h
  | v :: r, k, j, h => by
    unfold idxF at h
    split at h
    · rename_i hv
      injection h with h
      subst h
      exact ⟨Nat.le_refl _, by simp, by simpa using hv⟩
    · obtain ⟨h1, h2, h3⟩ := idxF_some h
      refine ⟨by omega, by simp; omega, ?_⟩
      have e : j - k = (j - (k + 1)) + 1 := by omega
      simp only [e, List.getElem_cons_succ]
      exact h3
def plO (l : List Vn) (id : Int) : Option Nat := if isCh l = true then idxF id l 0 else none
def plE (l : List Vn) (id : Int) : Int := if isCh l = true then (if (idxF id l 0).isSome = true then 0 else 4) else 1
def plN (l : List Vn) (id : Int) : Nat := (plO l id).getD 0
theorem pl_cases (l : List Vn) (id : Int) : (isCh l = false ∧ plO l id = none ∧ plE l id = 1 ∧ plN l id = 0) ∨ (isCh l = true ∧ plO l id = none ∧ plE l id = 4 ∧ plN l id = 0) ∨ (isCh l = true ∧ ∃ j, plO l id = some j ∧ plE l id = 0 ∧ plN l id = j ∧ ∃ h : j < l.length, l[j].id = id) := by
  unfold plE plN plO
  cases h : isCh l
  · exact .inl ⟨rfl, rfl, rfl, rfl⟩
  · refine .inr ?_
    simp only [if_true]
    cases h2 : idxF id l 0 with
    | none => exact .inl ⟨trivial, rfl, rfl, rfl⟩
    | some j =>
      obtain ⟨_, h3, h4⟩ := idxF_some h2
      exact .inr ⟨trivial, j, rfl, rfl, rfl, h3, h4⟩
set_option maxRecDepth 100000 in
set_option maxHeartbeats 2000000 in
theorem place_any (v : Value) (q : List (Value × Vn)) (n : Int) (w : World) (hv : VnI w v q) : Calls Try.prog 42 #[v, .int .i64 n] w fun e w' => e = .returned (.tuple #[.int .i64 (plN (vqL q) n : Nat), .int .i64 (plE (vqL q) n)]) ∧ Below w.heap.size w w' := by
  obtain ⟨ad, cap, rfl, hc⟩ := hv.form
  have HC := hid hc
  have IC := hid (isChain_any (.slice ad q.length cap) q w hv)
  have HLN : Hid (isCh (vqL q) = true → q.length ≤ 32) := fun h => by have := isCh_len h; rw [vqL_len] at this; exact this
  have HE : Hid (plE (vqL q) n = if isCh (vqL q) = true then (if (idxF n (vqL q) 0).isSome = true then 0 else 4) else 1) := rfl
  have HN : Hid (plN (vqL q) n = (if isCh (vqL q) = true then idxF n (vqL q) 0 else none).getD 0) := rfl
  have HI0 : Hid (idxF n (vqL q) 0 = idxF n ((vqL q).drop 0) 0) := rfl
  generalize plE _ _ = PE at *
  generalize plN _ _ = PN at *
  generalize isCh _ = IS at *
  generalize idxF n (vqL q) 0 = R at *
  clear hc hv
  go_enter Try.func42, Try.ntmps42
  go_wp2_with fail
  refine IC.out.mono ?_
  rintro e w1 ⟨rfl, b1⟩
  have B1 := hid b1
  clear IC b1
  cases IS
  · have he : PE = 1 := HE.out
    have hn : PN = 0 := HN.out
    subst he hn
    clear HC HLN HE HN HI0
    go_wp2
    go_ret2
    exact ⟨rfl, B1.out⟩
  · have HE2 : Hid (PE = (if R.isSome = true then 0 else 4)) := HE.out
    have HN2 : Hid (PN = R.getD 0) := HN.out
    have HL := hid (HLN.out rfl)
    clear HE HN HLN
    go_wp2
    go_loopw [13] (fun i wr => ∃ (k : Nat), k ≤ q.length ∧ i = .int .i64 (k : Int) ∧ Hid (Below w.heap.size w wr) ∧ Hid (R = idxF n ((vqL q).drop k) k)) (fun i _ => q.length - (intOf i).toNat)
    case atStart => exact ⟨0, Nat.zero_le _, rfl, B1, HI0⟩
    case round =>
      clear HI0
      obtain ⟨k, hk, rfl, HB, HR⟩ := hrel
      by_cases hlt : k < q.length
      · have hk1 : (k : Int) < (q.length : Int) := by omega
        have hk0 : (0 : Int) ≤ (k : Int) := by omega
        have hwk : wrap64 ((k : Int) + 1) = ((k + 1 : Nat) : Int) := by have := HL.out; rw [IntWalk.wrap64_in _ (by omega)]; omega
        obtain ⟨b, off, rfl, hb, c0, c1, c2, c3, c4, hp⟩ := HC.out k hlt
        have d0 := (HB.out.cell (p := ⟨b, off + k * 5, none⟩) hb).trans c0
        have d1 := (HB.out.cell (p := ⟨b, off + k * 5 + 1, none⟩) hb).trans c1
        have d2 := (HB.out.cell (p := ⟨b, off + k * 5 + 2, none⟩) hb).trans c2
        have d3 := (HB.out.cell (p := ⟨b, off + k * 5 + 3, none⟩) hb).trans c3
        have d4 := (HB.out.cell (p := ⟨b, off + k * 5 + 4, none⟩) hb).trans c4
        have HR2 : Hid (R = if q[k].2.id = n then some k else idxF n ((vqL q).drop (k + 1)) (k + 1)) := by show _ = _; rw [HR.out, idxF_at n (vqL q) k (by rw [vqL_len]; exact hlt), vqL_get q k hlt]
        have HLT := hid hlt
        have hpf := hp.sl
        clear HC HR c0 c1 c2 c3 c4 hp hb
        generalize q[k] = y at *
        obtain ⟨pv, id, ma, sz, sum, ps⟩ := y
        simp only at *
        obtain ⟨ad2, cap2, rfl⟩ := hpf
        generalize ps.length = pn at *
        have SR := srow wr [.int .i64 id, .bool ma, .int .i64 sz, .string sum, .slice ad2 pn cap2] 24
        have y0 := SR.cellAt (o := 0) rfl
        have HBX : Hid (∀ X, Below w.heap.size w (wr.alloc X)) := fun X => below_al HB.out _
        have hk33 : (k : Int) < 33 := by have := HL.out; omega
        clear SR hlt hk HL
        by_cases hi : id = n
        · have g1 : (id == n) = true := by rw [hi]; simp
          have hr : R = some k := by rw [HR2.out, if_pos hi]
          have he : PE = 0 := by rw [HE2.out, hr]; rfl
          have hn : PN = k := by rw [HN2.out, hr]; rfl
          subst he hn
          clear HE2 HN2 HR2 hi hr HB
          go_wp2
          go_ret2
          exact ⟨rfl, HBX.out _⟩
        · have g1 : (id == n) = false := beq_eq_false_iff_ne.2 hi
          have HR3 : Hid (R = idxF n ((vqL q).drop (k + 1)) (k + 1)) := by show _ = _; rw [HR2.out, if_neg hi]
          have HB2 := hid (HBX.out (.cells #[.int .i64 id, .bool ma, .int .i64 sz, .string sum, .slice ad2 pn cap2] 24))
          clear HE2 HN2 HR2 hi HB HBX
          go_wp2
          exact ⟨⟨k + 1, HLT.out, by first | rw [hwk] | rfl | simp, HB2, HR3⟩, by (try rw [hwk]); have := HLT.out; simp [intOf]; omega⟩
      · have hke : k = q.length := by omega
        have hd : decide ((k : Int) < (q.length : Int)) = false := decide_eq_false (by omega)
        have hd2 : decide (k < q.length) = false := decide_eq_false hlt
        have hr : R = none := by rw [HR.out, List.drop_eq_nil_of_le (by rw [vqL_len]; omega)]; rfl
        have he : PE = 4 := by rw [HE2.out, hr]; rfl
        have hn : PN = 0 := by rw [HN2.out, hr]; rfl
        subst he hn
        clear HC HR hke hlt hk HL HE2 HN2 hr
        go_wp2
        go_ret2
        exact ⟨rfl, HB.out⟩
end Go.Proofs.Ytbiapepalkdkdaa
