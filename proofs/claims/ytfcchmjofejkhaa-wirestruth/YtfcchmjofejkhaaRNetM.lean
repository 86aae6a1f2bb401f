/- The reference's net; IsCut, At. -/
import Derived.Test.YtfcchmjofejkhaaNetG
import Derived.Test.YtfcchmjofejkhaaWNNil
namespace Go.Proofs.Ytfcchmjofejkhaa
open Go.RowKit Go.Maps
set_option linter.unusedVariables false
set_option linter.unusedSimpArgs false

structure RNet where
  L : List Pk
  cs : List (Int × Int)
  se : Nat
  ta : Nat
  lo : Nat
def prC (c : Int × Int) : List Value := [.int .i64 c.1, .int .i64 c.2]
def prs (l : List (Int × Int)) : List Value := l.flatMap prC
theorem prs_cons (x : Int × Int) (l : List (Int × Int)) : prs (x :: l) = prC x ++ prs l := rfl
theorem prs_app (a b : List (Int × Int)) : prs (a ++ b) = prs a ++ prs b := by simp [prs]
theorem prs_len (l : List (Int × Int)) : (prs l).length = l.length * 2 := by
  induction l with
  | nil => rfl
  | cons x r ih => rw [prs_cons, List.length_append, ih]; simp [prC]; omega
theorem prs_get : ∀ (l : List (Int × Int)) (i : Nat) (h : i < l.length) (j : Nat), j < 2 → (prs l)[i * 2 + j]? = (prC l[i])[j]?
  | x :: r, 0, _, j, hj => by
    rw [prs_cons, List.getElem?_append_left (by simp [prC]; omega)]
    simp
  | x :: r, i + 1, h, j, hj => by
    rw [prs_cons, List.getElem?_append_right (by simp [prC]; omega), show (i + 1) * 2 + j - (prC x).length = i * 2 + j by simp [prC]; omega]
    exact prs_get r i (by simpa using h) j hj
theorem prs_one (l : List (Int × Int)) : ∀ u ∈ prs l, u.oneCell' = true := by
  intro u hu
  obtain ⟨x, _, hx⟩ := List.mem_flatMap.1 hu
  simp [prC] at hx
  rcases hx with rfl | rfl <;> rfl
def rmV (lv cv : Value) (m : RNet) : Value := .agg #[lv, cv, .int .i64 m.se, .int .i64 m.ta, .int .i64 m.lo]
structure RfIs (w : World) (lv cv : Value) (m : RNet) : Prop where
  l : w.ownsRow 0 58 3 lv m.L.length (pks m.L)
  c : w.ownsRow 0 72 2 cv m.cs.length (prs m.cs)
  ll : m.L.length ≤ 4096
  cl : m.cs.length ≤ 100000
  se : m.se ≤ 1152921504606846976
  ta : m.ta ≤ 1152921504606846976
  lo : m.lo ≤ 1152921504606846976
theorem RfIs.keep {w w' : World} {lv cv : Value} {m : RNet} (h : RfIs w lv cv m) (k : Keep (fun _ => False) w w') : RfIs w' lv cv m :=
  ⟨k.ownsRow h.l (fun _ _ h => h), k.ownsRow h.c (fun _ _ h => h), h.ll, h.cl, h.se, h.ta, h.lo⟩
theorem ElRPk : ElT 25 58 3 32 := ⟨Try.underlying25, ⟨.agg #[.int .i64 0, .int .i64 0, .string ⟨#[]⟩], by kernel_rfl, by kernel_rfl⟩, by decide⟩
theorem ElPr : ElT 26 72 2 16 := ⟨Try.underlying26, ⟨.agg #[.int .i64 0, .int .i64 0], by kernel_rfl, by kernel_rfl⟩, by decide⟩
theorem rrow_cells {w : World} {v : Value} {R : List Pk} {n : Nat} (h : w.ownsRow 0 58 3 v n (pks R)) (k : Nat) (hk : k < R.length) : ∃ g cap, v = .slice (some ⟨g, 0, none⟩) n cap ∧ g < w.heap.size ∧ w.cell? ⟨g, k * 3, none⟩ = some (.int .i64 R[k].fr) ∧ w.cell? ⟨g, k * 3 + 1, none⟩ = some (.int .i64 R[k].tt) ∧ w.cell? ⟨g, k * 3 + 2, none⟩ = some (.string R[k].s) := by
  have hl := h.1
  rw [pks_len] at hl
  rcases h.2 with ⟨e, h0⟩ | ⟨g, cap, cur, e, hg, hb, r⟩
  · omega
  · subst e
    exact ⟨g, cap, rfl, (Array.getElem?_eq_some_iff.1 hb).1, grow_at h (pks_get R k hk 0 (by omega)), grow_at h (pks_get R k hk 1 (by omega)), grow_at h (pks_get R k hk 2 (by omega))⟩
theorem prow_cells {w : World} {v : Value} {R : List (Int × Int)} {n : Nat} (h : w.ownsRow 0 72 2 v n (prs R)) (k : Nat) (hk : k < R.length) : ∃ g cap, v = .slice (some ⟨g, 0, none⟩) n cap ∧ g < w.heap.size ∧ w.cell? ⟨g, k * 2, none⟩ = some (.int .i64 R[k].1) ∧ w.cell? ⟨g, k * 2 + 1, none⟩ = some (.int .i64 R[k].2) := by
  have hl := h.1
  rw [prs_len] at hl
  rcases h.2 with ⟨e, h0⟩ | ⟨g, cap, cur, e, hg, hb, r⟩
  · omega
  · subst e
    exact ⟨g, cap, rfl, (Array.getElem?_eq_some_iff.1 hb).1, grow_at h (prs_get R k hk 0 (by omega)), grow_at h (prs_get R k hk 1 (by omega))⟩
/-- is a way cut by one of the cuts? -/
def hitC (a b : Int) (c : Int × Int) : Bool := (c.1 == a && c.2 == b) || (c.1 == b && c.2 == a)
def rcut (cs : List (Int × Int)) (a b : Int) : Bool := cs.any (hitC a b)
set_option maxRecDepth 100000 in
set_option maxHeartbeats 2000000 in
theorem risCut_any (lv cv : Value) (m : RNet) (a b : Int) (w : World) (h : RfIs w lv cv m) : Calls Try.prog 40 #[rmV lv cv m, .int .i64 a, .int .i64 b] w fun e w' => e = .returned (.bool (rcut m.cs a b)) ∧ Keep (fun _ => False) w w' := by
  obtain ⟨ad1, c1, rfl⟩ := row_form h.l
  obtain ⟨ad2, c2, rfl⟩ := row_form h.c
  have H := hid h.c
  have hcl := h.cl
  unfold rmV
  clear h
  have HK0 := hid (keep_alloc (fun _ => False) w (.cells #[.slice ad1 m.L.length c1, .slice ad2 m.cs.length c2, .int .i64 m.se, .int .i64 m.ta, .int .i64 m.lo] 28))
  have r0 : RowIs (w.alloc (.cells #[.slice ad1 m.L.length c1, .slice ad2 m.cs.length c2, .int .i64 m.se, .int .i64 m.ta, .int .i64 m.lo] 28)) w.heap.size [.slice ad1 m.L.length c1, .slice ad2 m.cs.length c2, .int .i64 m.se, .int .i64 m.ta, .int .i64 m.lo] 28 := heap_alloc_new _ _
  have HR := hid r0
  clear r0
  go_enter Try.func40, Try.ntmps40
  go_wp2
  generalize w.alloc (.cells #[.slice ad1 m.L.length c1, .slice ad2 m.cs.length c2, .int .i64 m.se, .int .i64 m.ta, .int .i64 m.lo] 28) = w0 at *
  go_loopw [7] (fun i wr => ∃ k : Nat, k ≤ m.cs.length ∧ i = .int .i64 (k : Int) ∧ Hid (∀ j (hj : j < m.cs.length), j < k → hitC a b m.cs[j] = false) ∧ Hid (Keep (fun _ => False) w0 wr)) (fun i _ => m.cs.length - (intOf i).toNat)
  case atStart => exact ⟨0, Nat.zero_le _, rfl, fun j _ h => by omega, Keep.refl _ _⟩
  case round =>
    obtain ⟨k, hk, rfl, HN, HK⟩ := hrel
    have r1 := HR.out.keep HK.out (fun h => h)
    have d1 := r1.cellAt (o := 1) rfl
    by_cases hlt : k < m.cs.length
    · have hk0 : (0 : Int) ≤ (k : Int) := by omega
      have hk1 : (k : Int) < (m.cs.length : Int) := by omega
      obtain ⟨g, cap', hv, hg, x0, x1⟩ := prow_cells ((HK0.out.trans HK.out).ownsRow H.out (fun _ _ h => h)) k hlt
      injection hv with hv1 hv2 hv3
      subst hv1 hv3
      have HY : Hid (hitC a b m.cs[k] = true → rcut m.cs a b = true) := fun h => List.any_eq_true.2 ⟨_, List.getElem_mem hlt, h⟩
      have HN2 : Hid (hitC a b m.cs[k] = false → ∀ j (hj : j < m.cs.length), j < k + 1 → hitC a b m.cs[j] = false) := fun h j hj h2 => by
        by_cases e : j = k
        · subst e; exact h
        · exact HN.out j hj (by omega)
      have HC : Hid (hitC a b m.cs[k] = ((m.cs[k].1 == a && m.cs[k].2 == b) || (m.cs[k].1 == b && m.cs[k].2 == a))) := rfl
      have HKA := hid (fun X => HK.out.trans (keep_alloc (fun _ => False) wr X))
      generalize hitC a b m.cs[k] = hb at *
      generalize m.cs[k] = cc at *
      obtain ⟨p, q⟩ := cc
      simp only at *
      clear H HR HN r1
      obtain ⟨t1, ht1⟩ : ∃ t, (p == a) = t := ⟨_, rfl⟩
      obtain ⟨t2, ht2⟩ : ∃ t, (q == b) = t := ⟨_, rfl⟩
      obtain ⟨t3, ht3⟩ : ∃ t, (p == b) = t := ⟨_, rfl⟩
      obtain ⟨t4, ht4⟩ : ∃ t, (q == a) = t := ⟨_, rfl⟩
      rw [ht1, ht2, ht3, ht4] at HC
      by_cases hhit : hb = true
      · have HY2 := hid (HY.out hhit)
        rw [hhit] at HC
        clear HN2 HY HK
        have hc := HC.out
        clear HC
        cases t1 <;> cases t2 <;> cases t3 <;> cases t4 <;> simp at hc
        all_goals
          clear hc
          go_wp2
          go_ret
          exact ⟨by rw [HY2.out]; rfl, HK0.out.trans (HKA.out _)⟩
      · have hhit : hb = false := by simpa using hhit
        have HN3 := hid (HN2.out hhit)
        rw [hhit] at HC
        clear HN2 HY HK
        have hc := HC.out
        clear HC
        cases t1 <;> cases t2 <;> cases t3 <;> cases t4 <;> simp at hc
        all_goals
          try clear hc
          go_wp2
          exact ⟨⟨k + 1, by omega, by go_num, HN3, HKA.out _⟩, by simp [intOf]; omega⟩
    · have hk9 : k = m.cs.length := by omega
      subst hk9
      have hdl : decide ((m.cs.length : Int) < (m.cs.length : Int)) = false := decide_eq_false (by omega)
      have HE : Hid (rcut m.cs a b = false) := List.any_eq_false.2 (fun x hx => by obtain ⟨j, hj, rfl⟩ := List.getElem_of_mem hx; simp [HN.out j hj hj])
      clear H HR HN r1
      go_wp2
      go_ret
      exact ⟨by rw [HE.out]; rfl, HK0.out.trans HK.out⟩
end Go.Proofs.Ytfcchmjofejkhaa
