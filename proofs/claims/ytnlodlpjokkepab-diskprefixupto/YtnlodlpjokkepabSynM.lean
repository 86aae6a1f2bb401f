/- What becomes of a disk in the law DiskSynced; nothing of the program stands here. -/
import Derived.Test.YtnlodlpjokkepabChgdM
namespace Go.Proofs.Ytnlodlpjokkepab
open Go.RowKit Go.Maps
set_option linter.unusedVariables false
set_option linter.unusedSimpArgs false

theorem hit_kdel {A : List (Bs × Bs)} (h : Srt A) (n : Bs) : (kdel A n).length + (if (kget A n).isSome then 1 else 0) = A.length := by
  induction A with
  | nil => simp [kdel, kget]
  | cons y r ih =>
    have h2 := List.pairwise_cons.1 h
    have ih := ih h2.2
    by_cases hy : y.1 = n
    · have e : kdel r n = r := by
        unfold kdel
        rw [List.filter_eq_self]
        intro z hz
        have := bef_ne (h2.1 z hz)
        simp
        intro e
        exact this (hy.trans e.symm)
      have e2 : kdel (y :: r) n = r := by
        unfold kdel at e ⊢
        rw [List.filter_cons]
        simp [hy]
        simpa using e
      rw [e2]
      have e3 : kget (y :: r) n = some y.2 := by unfold kget; simp [hy]
      rw [e3]
      simp
    · have e1 : kdel (y :: r) n = y :: kdel r n := by unfold kdel; rw [List.filter_cons]; simp [hy]
      have e2 : kget (y :: r) n = kget r n := by unfold kget; simp [hy]
      rw [e1, e2]
      simp only [List.length_cons] at ih ⊢
      omega
theorem hit_kput {A : List (Bs × Bs)} (h : Srt A) (n b : Bs) : (kput A n b).length + (if (kget A n).isSome then 1 else 0) = A.length + 1 := by
  have := hit_kdel h n
  unfold kput
  rw [length_kins]
  omega

/-- files that are others at one name at most -/
structure Oth (o : Bs) (A F : List (Bs × Bs)) : Prop where
  srt : Srt F
  get : ∀ m, m ≠ o → kget F m = kget A m
  here : (kget A o).isSome = true → (kget F o).isSome = true
  len : (F.length = A.length ∧ (kget F o).isSome = (kget A o).isSome) ∨ (F.length = A.length + 1 ∧ (kget F o).isSome = true)
  nm : ∀ x ∈ F, x ∈ A ∨ x.1 = o
theorem oth_refl {o : Bs} {A : List (Bs × Bs)} (h : Srt A) : Oth o A A := ⟨h, fun _ _ => rfl, fun h => h, .inl ⟨rfl, rfl⟩, fun x hx => .inl hx⟩
theorem Oth.put {o : Bs} {A F : List (Bs × Bs)} (h : Oth o A F) (b : Bs) : Oth o A (kput F o b) := by
  have hl := hit_kput h.srt o b
  refine ⟨srt_kput h.srt _ _, fun m hm => by rw [kget_put_other _ _ (Ne.symm hm)]; exact h.get m hm, fun _ => by rw [kget_put_same]; rfl, ?_, fun x hx => ?_⟩
  · rw [kget_put_same]
    rcases h.len with ⟨h1, h2⟩ | ⟨h1, h2⟩
    · by_cases hs : (kget F o).isSome = true
      · rw [if_pos hs] at hl
        refine .inl ⟨by omega, ?_⟩
        rw [← h2, hs]; rfl
      · rw [if_neg hs] at hl
        exact .inr ⟨by omega, rfl⟩
    · rw [if_pos h2] at hl
      exact .inr ⟨by omega, rfl⟩
  · rcases mem_kput.1 hx with rfl | ⟨hx, _⟩
    · exact .inr rfl
    · exact h.nm x hx
theorem Oth.app {o : Bs} {A F : List (Bs × Bs)} (h : Oth o A F) (s : Bs) : Oth o A (doC F ⟨0, o, [], s, 0⟩) := h.put _
theorem Oth.tear {o : Bs} {A F : List (Bs × Bs)} (h : Oth o A F) (s : Bs) (torn : Int) : Oth o A (tearC F ⟨0, o, [], s, 0⟩ torn) := by
  unfold tearC
  split
  · exact h
  · exact h.put _

/-- a disk on which two pieces were laid behind one file -/
def twoD (d : Ds) (o x y : Bs) : Ds := { d with ws := [⟨0, o, [], x, 0⟩, ⟨0, o, [], y, 0⟩], n := d.n + 2 }
def oneD (d : Ds) (o x : Bs) : Ds := { d with ws := [⟨0, o, [], x, 0⟩], n := d.n + 1 }
theorem app_calm {d : Ds} {k B : Nat} (h : CI d k B) (o s : Bs) (ho : nameOk o = true) : appD d o s = ({ d.more ⟨0, o, [], s, 0⟩ with n := d.n + 1 }, 0) := by
  unfold appD
  rw [if_neg (by rw [h.calm.dn]; decide), if_neg (by rw [ho]; decide), if_neg (by unfold fitB; rw [h.bd]; simp)]
  exact chg_calm h.calm _
theorem CI.app {d : Ds} {k B : Nat} (h : CI d k B) (o s : Bs) (ho : nameOk o = true) : CI { d.more ⟨0, o, [], s, 0⟩ with n := d.n + 1 } (k + 1) (B + (s.length + 1)) := by
  have e := app_calm h o s ho
  have h2 := h.call ⟨0, o, [], s, 0, 0, 0, 0, .slice none 0 0⟩
  have e2 : calD d ⟨0, o, [], s, 0, 0, 0, 0, .slice none 0 0⟩ = appD d o s := by unfold calD; rw [if_pos rfl]
  rw [e2, e] at h2
  exact h2
theorem fail_two {d : Ds} (o x y : Bs) (keep torn : Int) (hs : Srt d.S) : Oth o d.S (failS (twoD d o x y) keep torn) := by
  have h0 := oth_refl (o := o) hs
  unfold failS
  have hk : keepN (twoD d o x y) keep ≤ 2 := Nat.min_le_right _ _
  generalize keepN (twoD d o x y) keep = k at hk
  match k, hk with
  | 0, _ => exact h0.tear x torn
  | 1, _ => exact (h0.app x).tear y torn
  | 2, _ => exact (h0.app x).app y
/-- behind the loss of power -/
def upD (d : Ds) (keep torn : Int) : Ds := { failD d keep torn with dn := false }
theorem up_now {d : Ds} (hd : d.dn = false) (keep torn : Int) : upD d keep torn = { d with S := failS d keep torn, ws := [], dn := false } := by
  unfold upD failD
  rw [if_neg (by rw [hd]; decide)]
structure SynAll (o : Bs) (A : List (Bs × Bs)) (u : Ds) : Prop where
  dn : u.dn = false
  oth : Oth o A u.now
  rd : ∀ i (h : i < A.length), ∃ b, rdD u A[i].1 = (b, 0) ∧ (A[i].1 ≠ o → b = A[i].2)
  nm : NmOk u
theorem syn_all {d : Ds} (o x y : Bs) (keep torn : Int) (hdn : d.dn = false) (hs : Srt d.S) (ho : nameOk o = true) (hnm : ∀ z ∈ d.S, nameOk z.1 = true) : SynAll o d.S (upD (twoD d o x y) keep torn) := by
  have e := up_now (d := twoD d o x y) hdn keep torn
  have hF := fail_two (d := d) o x y keep torn hs
  rw [e]
  have en : ({ twoD d o x y with S := failS (twoD d o x y) keep torn, ws := [], dn := false } : Ds).now = failS (twoD d o x y) keep torn := rfl
  refine ⟨rfl, by rw [en]; exact hF, fun i hi => ?_, fun z hz => ?_⟩
  · have hg : kget d.S d.S[i].1 = some d.S[i].2 := srt_mem hs (List.getElem_mem hi)
    have hn := hnm _ (List.getElem_mem hi)
    unfold rdD
    rw [en, if_neg (by simp), if_neg (by rw [hn]; decide)]
    by_cases ho2 : d.S[i].1 = o
    · have h1 := hF.here (by rw [← ho2, hg]; rfl)
      obtain ⟨b, hb⟩ := Option.isSome_iff_exists.1 h1
      rw [ho2, hb]
      exact ⟨b, rfl, fun h => absurd rfl h⟩
    · rw [hF.get _ ho2, hg]
      exact ⟨_, rfl, fun _ => rfl⟩
  · rw [en] at hz
    rcases hF.nm z hz with h | h
    · exact hnm z h
    · rw [h]; exact ho
end Go.Proofs.Ytnlodlpjokkepab
