/- The document's Load of any files. -/
import Derived.Test.YtflecoplpdbonaaGreatJoined16
import Derived.Test.YtflecoplpdbonaaGreatJoined17
import Derived.Test.YtflecoplpdbonaaGreatJoined05
import Derived.Test.YtflecoplpdbonaaGreatJoined04
namespace Go.Proofs.YtflecoplpdbonaaGreat
open Go.RowKit Go.Maps
set_option linter.unusedVariables false
set_option linter.unusedSimpArgs false

/-- what files say -/
def rlD (A : List (Bs × Bs)) : LdR := match kget A snp with | none => ⟨sh0, false, 0⟩ | some F => ldF F
set_option maxRecDepth 100000 in
set_option maxHeartbeats 4000000 in
theorem rload_any (A : List (Bs × Bs)) (v : Value) (w : World) (hr : FileRow w 0 v A) (hs : Srt A) (hl : A.length ≤ 70368744177) (hF : ∀ y ∈ A, y.2.length ≤ 1000000000) :
    Calls Tryz.prog 7 #[v] w fun e w' => ∃ ad cap, e = .returned (.tuple #[shV (.slice ad (rlD A).s.ms.length cap) (rlD A).s, .bool (rlD A).b, .int .i64 (rlD A).e]) ∧ OwnI w' w.heap.size (.slice ad (rlD A).s.ms.length cap) (rlD A).s.ms ∧ Below w.heap.size w w' := by
  obtain ⟨va, vcap, rfl⟩ := row_form hr
  have FI : Hid (∀ W, Below w.heap.size w W → Calls Tryz.prog 20 #[.slice va A.length vcap, .string ⟨#[115, 110, 97, 112]⟩] W fun e w' => ∃ (k : Nat) (b : Bool), e = .returned (.tuple #[.int .i64 (k : Int), .bool b]) ∧ FindIs A snp k b ∧ Keep (fun _ => False) W w') := fun W hW => find_any A _ snp W ((hW.keep (fun _ => False)).ownsRow hr (fun _ _ h => h)) hl
  have HC : Hid (∀ (k : Nat) (hk : k < A.length), ∃ g, va = some ⟨g, 0, none⟩ ∧ ∀ W, Below w.heap.size w W → W.cell? ⟨g, k * 2 + 1, none⟩ = some (.string (tx A[k].2))) := by
    intro k hk
    rcases file_form hr with ⟨e, _⟩ | ⟨g, c1, e1⟩
    · rw [e] at hk; simp at hk
    have e2 := e1
    rw [e1] at hr
    injection e2 with e2
    exact ⟨g, e2, fun W hW => (file_cell ((hW.keep (fun _ => False)).ownsRow hr (fun _ _ h => h)) hk).2⟩
  have HFS : Hid (∀ k, FindIs A snp k true → ∃ hk : k < A.length, kget A snp = some A[k].2 ∧ A[k].2.length ≤ 1000000000) := fun k h => by
    obtain ⟨hk, _, h3⟩ := find_some hs h
    exact ⟨hk, h3, hF _ (List.getElem_mem hk)⟩
  have HFN : Hid (∀ k, FindIs A snp k false → kget A snp = none) := fun k h => find_none hs h
  have HE : Hid (rlD A = match kget A snp with | none => ⟨sh0, false, 0⟩ | some F => ldF F) := rfl
  have B0 := hid (Bx.made (Below.refl w.heap.size w) [.int .i64 0, .int .i64 0, .slice none 0 0, .string ⟨#[]⟩] 29)
  generalize rlD A = Q at *
  clear hr hs hF
  unfold shV
  go_enter Tryz.func7, Tryz.ntmps7
  go_wp2_with fail
  refine (FI.out _ B0.out.b).mono ?_
  rintro e w1 ⟨k, b, rfl, hfi, kk⟩
  have B1 : Hid (Bx w w.heap.size [.int .i64 0, .int .i64 0, .slice none 0 0, .string ⟨#[]⟩] 29 w1) := B0.out.next (keep_below kk (fun _ _ h => h.elim) (Nat.le_refl _))
  have HI := hid hfi
  clear hfi kk B0 FI
  cases b with
  | false =>
    have HE2 : Hid (Q = ⟨sh0, false, 0⟩) := by have h9 := HE.out; rw [HFN.out k HI.out] at h9; exact h9
    clear HE HFN HFS HC HI
    have HE := HE2
    clear HE2
    have HQ : Hid (Q = ⟨sh0, false, 0⟩) := by have h9 := HE.out; refine hid ?_; exact h9
    clear HE 
    have r0 := B1.out.row.cellAt (o := 0) rfl
    have r1 := B1.out.row.cellAt (o := 1) rfl
    have r2 := B1.out.row.cellAt (o := 2) rfl
    have r3 := B1.out.row.cellAt (o := 3) rfl
    have q0 := B1.out.row.frozen (o := 0)
    have q1 := B1.out.row.frozen (o := 1)
    have q2 := B1.out.row.frozen (o := 2)
    have q3 := B1.out.row.frozen (o := 3)
    go_wp2
    have f := four B1.out.row (x0 := .int .i64 0) (x1 := .int .i64 0) (x2 := .slice none 0 0) (x3 := .string ⟨#[]⟩)
    rw [HQ.out]
    exact bodyPost_ret (v := .tuple #[.agg #[.int .i64 0, .int .i64 0, .slice none 0 0, .string ⟨#[]⟩], .bool false, .int .i64 0]) (ret_ctt (p := 2) (u := 3) (t := 4) rfl _ _ w.heap.size _ _ _ rfl rfl rfl (run_loadVar_row _ _ _ _ _ _ _ f.1 Tryz.underlying29 rfl (by kernel_rfl))) rfl ⟨none, 0, rfl, ownI_nil _ _, B1.out.b.trans (keep_below f.2 (fun j hj e => by omega) B1.out.b.size)⟩
  | true =>
    obtain ⟨hk, hg, hz⟩ := HFS.out k HI.out
    obtain ⟨g, hva, hcel⟩ := HC.out k hk
    have HE2 : Hid (Q = ldF A[k].2) := by have h9 := HE.out; rw [hg] at h9; exact h9
    clear HE HFN HFS HC HI hg
    have HKC := hid hcel
    clear hcel
    generalize A[k].2 = F at *
    have hfl : (tx F).size = F.length := by show (F.toArray).size = _; simp
    have UF : Hid (∀ W, Calls Tryz.prog 21 #[.string (tx F), .int .i64 0] W fun e w' => e = .returned (.tuple #[.string (unfAt (tx F) 0).x, .int .i64 (unfAt (tx F) 0).to, .int .i64 (unfAt (tx F) 0).e]) ∧ w' = W) := fun W => ref_unframe_any (tx F) 0 W (by omega)
    have hto := unf_to_le (tx F)
    have HLF : Hid (ldF F = if (unfAt (tx F) 0).e = 0 ∧ (unfAt (tx F) 0).to = (F.length : Int) then
      if sdE (unfAt (tx F) 0).x = 0 then ⟨sdV (unfAt (tx F) 0).x, true, 0⟩ else ⟨sh0, false, 31⟩
    else ⟨sh0, false, 31⟩) := rfl
    generalize ldF F = Q2 at *
    generalize unfAt (tx F) 0 = u at *
    obtain ⟨x, to, ue⟩ := u
    simp only at *
    have DC : Hid (∀ W, Calls Tryz.prog 22 #[.string x] W fun e w' => ∃ ad cap, e = .returned (.tuple #[shV (.slice ad (sdV x).ms.length cap) (sdV x), .int .i64 (sdE x)]) ∧ OwnI w' W.heap.size (.slice ad (sdV x).ms.length cap) (sdV x).ms ∧ Below W.heap.size W w') := fun W => rsdecode_own x W (by omega)
    unfold shV at DC
    generalize sdV x = V at *
    generalize sdE x = E at *
    obtain ⟨ix, tm, ms, da⟩ := V
    simp only at *
    rw [← hfl] at HLF
    have HTO : Hid (to ≤ ((tx F).size : Int)) := hto.1
    generalize tx F = G at *
    clear hfl hto hz
    have HE : Hid (Q = if ue = 0 ∧ to = (G.size : Int) then if E = 0 then ⟨⟨ix, tm, ms, da⟩, true, 0⟩ else ⟨sh0, false, 31⟩ else ⟨sh0, false, 31⟩) := HE2.out.trans HLF.out
    clear HE2 HLF
    subst hva
    have hk0 : (0 : Int) ≤ (k : Int) := by omega
    have hk1 : (k : Int) < (A.length : Int) := by omega
    have hcl := HKC.out _ B1.out.b
    go_wp2_with fail
    refine (UF.out _).mono ?_
    rintro e w3 ⟨rfl, rfl⟩
    clear UF
    by_cases h4 : ue = 0
    · subst h4
      by_cases h5 : to = (G.size : Int)
      · subst h5
        have hcl := HKC.out _ B1.out.b
        go_wp2_with fail
        refine (DC.out _).mono ?_
        rintro e w4 ⟨ad, cap, rfl, o4, b4⟩
        have O4 := hid o4
        have B4 := hid ((B1.out.next b4).al (.cells #[.int .i64 ix, .int .i64 tm, .slice ad ms.length cap, .string da] 29))
        have HS3 : Hid (w.heap.size + 1 ≤ w3.heap.size) := B1.out.row.lt
        clear o4 b4 B1 DC HKC hcl
        by_cases h6 : E = 0
        · subst h6
          have HQ : Hid (Q = ⟨⟨ix, tm, ms, da⟩, true, 0⟩) := by have h9 := HE.out; refine hid ?_; simpa using h9
          clear HE
          have r0 := B4.out.row.cellAt (o := 0) rfl
          have r1 := B4.out.row.cellAt (o := 1) rfl
          have r2 := B4.out.row.cellAt (o := 2) rfl
          have r3 := B4.out.row.cellAt (o := 3) rfl
          have q0 := B4.out.row.frozen (o := 0)
          have q1 := B4.out.row.frozen (o := 1)
          have q2 := B4.out.row.frozen (o := 2)
          have q3 := B4.out.row.frozen (o := 3)
          go_wp2
          have f := four B4.out.row (x0 := .int .i64 ix) (x1 := .int .i64 tm) (x2 := .slice ad ms.length cap) (x3 := .string da)
          have hsz : w.heap.size + 1 ≤ w3.heap.size := HS3.out
          have ho := f.2.ownsRow ((O4.out.next ((Below.refl _ _).alloc (Nat.le_refl _) _)) : OwnI (w4.alloc (.cells #[.int .i64 ix, .int .i64 tm, .slice ad ms.length cap, .string da] 29)) _ _ _) (fun g hg e => by have := ownsRow_ge O4.out hg; omega)
          rw [HQ.out]
          exact bodyPost_ret (v := .tuple #[.agg #[.int .i64 ix, .int .i64 tm, .slice ad ms.length cap, .string da], .bool true, .int .i64 0]) (ret_ctt (p := 2) (u := 3) (t := 4) rfl _ _ w.heap.size _ _ _ rfl rfl rfl (run_loadVar_row _ _ _ _ _ _ _ f.1 Tryz.underlying29 rfl (by kernel_rfl))) rfl ⟨ad, cap, rfl, ownsRow_base ho (by omega), B4.out.b.trans (keep_below f.2 (fun j hj e => by omega) B4.out.b.size)⟩
        · have hne : (E != 0) = true := bne_iff_ne.2 h6
          have HQ : Hid (Q = ⟨sh0, false, 31⟩) := by have h9 := HE.out; refine hid ?_; simpa [h6] using h9
          clear HE h6
          have r0 := B4.out.row.cellAt (o := 0) rfl
          have r1 := B4.out.row.cellAt (o := 1) rfl
          have r2 := B4.out.row.cellAt (o := 2) rfl
          have r3 := B4.out.row.cellAt (o := 3) rfl
          have q0 := B4.out.row.frozen (o := 0)
          have q1 := B4.out.row.frozen (o := 1)
          have q2 := B4.out.row.frozen (o := 2)
          have q3 := B4.out.row.frozen (o := 3)
          go_wp2
          have f := four B4.out.row (x0 := .int .i64 0) (x1 := .int .i64 0) (x2 := .slice none 0 0) (x3 := .string ⟨#[]⟩)
          rw [HQ.out]
          exact bodyPost_ret (v := .tuple #[.agg #[.int .i64 0, .int .i64 0, .slice none 0 0, .string ⟨#[]⟩], .bool false, .int .i64 31]) (ret_ctt (p := 2) (u := 3) (t := 4) rfl _ _ w.heap.size _ _ _ rfl rfl rfl (run_loadVar_row _ _ _ _ _ _ _ f.1 Tryz.underlying29 rfl (by kernel_rfl))) rfl ⟨none, 0, rfl, ownI_nil _ _, B4.out.b.trans (keep_below f.2 (fun j hj e => by omega) B4.out.b.size)⟩
      · have hne : (to != (G.size : Int)) = true := bne_iff_ne.2 h5
        have H5 := hid h5
        clear h5
        have hcl := HKC.out _ B1.out.b
        have HQ : Hid (Q = ⟨sh0, false, 31⟩) := by have h9 := HE.out; refine hid ?_; simpa [H5.out] using h9
        clear HE H5 HTO DC
        have r0 := B1.out.row.cellAt (o := 0) rfl
        have r1 := B1.out.row.cellAt (o := 1) rfl
        have r2 := B1.out.row.cellAt (o := 2) rfl
        have r3 := B1.out.row.cellAt (o := 3) rfl
        have q0 := B1.out.row.frozen (o := 0)
        have q1 := B1.out.row.frozen (o := 1)
        have q2 := B1.out.row.frozen (o := 2)
        have q3 := B1.out.row.frozen (o := 3)
        go_wp2
        have f := four B1.out.row (x0 := .int .i64 0) (x1 := .int .i64 0) (x2 := .slice none 0 0) (x3 := .string ⟨#[]⟩)
        rw [HQ.out]
        exact bodyPost_ret (v := .tuple #[.agg #[.int .i64 0, .int .i64 0, .slice none 0 0, .string ⟨#[]⟩], .bool false, .int .i64 31]) (ret_ctt (p := 2) (u := 3) (t := 4) rfl _ _ w.heap.size _ _ _ rfl rfl rfl (run_loadVar_row _ _ _ _ _ _ _ f.1 Tryz.underlying29 rfl (by kernel_rfl))) rfl ⟨none, 0, rfl, ownI_nil _ _, B1.out.b.trans (keep_below f.2 (fun j hj e => by omega) B1.out.b.size)⟩
    · have hne : (((ue : Nat) : Int) != 0) = true := bne_iff_ne.2 (by omega)
      have H5 := hid h4
      clear h4
      have HQ : Hid (Q = ⟨sh0, false, 31⟩) := by have h9 := HE.out; refine hid ?_; simpa [H5.out] using h9
      clear HE H5 HTO DC
      have r0 := B1.out.row.cellAt (o := 0) rfl
      have r1 := B1.out.row.cellAt (o := 1) rfl
      have r2 := B1.out.row.cellAt (o := 2) rfl
      have r3 := B1.out.row.cellAt (o := 3) rfl
      have q0 := B1.out.row.frozen (o := 0)
      have q1 := B1.out.row.frozen (o := 1)
      have q2 := B1.out.row.frozen (o := 2)
      have q3 := B1.out.row.frozen (o := 3)
      go_wp2
      have f := four B1.out.row (x0 := .int .i64 0) (x1 := .int .i64 0) (x2 := .slice none 0 0) (x3 := .string ⟨#[]⟩)
      rw [HQ.out]
      exact bodyPost_ret (v := .tuple #[.agg #[.int .i64 0, .int .i64 0, .slice none 0 0, .string ⟨#[]⟩], .bool false, .int .i64 31]) (ret_ctt (p := 2) (u := 3) (t := 4) rfl _ _ w.heap.size _ _ _ rfl rfl rfl (run_loadVar_row _ _ _ _ _ _ _ f.1 Tryz.underlying29 rfl (by kernel_rfl))) rfl ⟨none, 0, rfl, ownI_nil _ _, B1.out.b.trans (keep_below f.2 (fun j hj e => by omega) B1.out.b.size)⟩
end Go.Proofs.YtflecoplpdbonaaGreat
