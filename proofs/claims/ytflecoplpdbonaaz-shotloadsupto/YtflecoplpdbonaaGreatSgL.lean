/- ShotLoads: the law's disk, what each call makes of it; Load of no disk. -/
import Derived.Test.YtflecoplpdbonaaGreatSgR
import Derived.Test.YtflecoplpdbonaaGreatJoined19
import Derived.Test.YtflecoplpdbonaaGreatJoined17
namespace Go.Proofs.YtflecoplpdbonaaGreat
open Go.RowKit Go.Maps
set_option linter.unusedVariables false
set_option linter.unusedSimpArgs false

def lsF (a b : Bool) (F G : Bs) : List (Bs × Bs) := (if a then [(snp, F)] else []) ++ (if b then [(snw, G)] else [])
/-- the law's disk: which files lie on it -/
def lsD (a b : Bool) (F G : Bs) : Ds := ⟨lsF a b F G, [], (if a then 1 else 0) + (if b then 1 else 0), [], false, 0, false⟩
/-- .. behind a loading -/
def lsE (a b : Bool) (F : Bs) : Ds := ⟨if a then [(snp, F)] else [], [], (if a then 1 else 0) + (if b then 2 else 0), [], false, 0, false⟩
def lsQ (a : Bool) (F : Bs) : LdR := if a then ldF F else ⟨sh0, false, 0⟩
theorem ls_w0 (F : Bs) : wrD d0 snp F = (⟨[], [⟨1, snp, [], F, 0⟩], 1, [], false, 0, false⟩, 0) := by
  simp [wrD, d0, ok_snp, fitB, chgD, Ds.more]
theorem ls_w1 (G : Bs) : wrD d0 snw G = (⟨[], [⟨1, snw, [], G, 0⟩], 1, [], false, 0, false⟩, 0) := wr_sn G
theorem ls_w2 (F G : Bs) : wrD ⟨[], [⟨1, snp, [], F, 0⟩], 1, [], false, 0, false⟩ snw G = (⟨[], [⟨1, snp, [], F, 0⟩, ⟨1, snw, [], G, 0⟩], 2, [], false, 0, false⟩, 0) := by
  simp [wrD, ok_snw, fitB, chgD, Ds.more]
theorem ls_s00 : synR d0 = (lsD false false [] [], 0) := by simp [synR, synD, d0, Ds.now, replay, lsD, lsF]
theorem ls_s10 (F : Bs) : synR ⟨[], [⟨1, snp, [], F, 0⟩], 1, [], false, 0, false⟩ = (lsD true false F [], 0) := by
  simp [synR, synD, Ds.now, replay, doC, kput, kins, kdel, lsD, lsF]
theorem ls_s01 (G : Bs) : synR ⟨[], [⟨1, snw, [], G, 0⟩], 1, [], false, 0, false⟩ = (lsD false true [] G, 0) := by
  simp [synR, synD, Ds.now, replay, doC, kput, kins, kdel, lsD, lsF]
theorem ls_s11 (F G : Bs) : synR ⟨[], [⟨1, snp, [], F, 0⟩, ⟨1, snw, [], G, 0⟩], 2, [], false, 0, false⟩ = (lsD true true F G, 0) := by
  have hne := snp_ne
  have hb := bef_no
  simp [synR, synD, Ds.now, replay, doC, kput, kins, kdel, hne, hb, lsD, lsF]
theorem ls_now (a b : Bool) (F G : Bs) : (lsD a b F G).now = lsF a b F G := rfl
theorem ls_srt (a b : Bool) (F G : Bs) : Srt (lsF a b F G) := by
  have hb := bef_yes
  have hy : (Lit.string snp).before (.string snw) = true := by decide
  cases a <;> cases b <;> simp [lsF, Srt, hy]
theorem ls_nm (a b : Bool) (F G : Bs) : NmOk (lsD a b F G) := by
  intro x hx
  rw [ls_now] at hx
  cases a <;> cases b <;> simp [lsF] at hx <;> (try (rcases hx with rfl | rfl)) <;> (try subst hx) <;> simp [ok_snp, ok_snw]
theorem ls_len (a b : Bool) (F G : Bs) : (lsF a b F G).length ≤ 2 := by cases a <;> cases b <;> simp [lsF]
theorem ls_rl (a b : Bool) (F G : Bs) : rlD (lsF a b F G) = lsQ a F := by
  have hne := snp_ne
  have hne2 : ¬ snw = snp := fun h => hne h.symm
  cases a <;> cases b <;> simp [rlD, lsF, lsQ, kget, hne, hne2]
theorem ls_clr0 (a : Bool) (F : Bs) : clrD (lsD a false F []) snw = (lsD a false F [], 0) := by
  have hne := snp_ne
  cases a <;> simp [clrD, rmD, lsD, lsF, ok_snw, Ds.now, replay, kget, hne]
theorem ls_clr1 (a : Bool) (F G : Bs) : clrD (lsD a true F G) snw = (⟨lsF a true F G, [⟨3, snw, [], [], 0⟩], (if a then 1 else 0) + 2, [], false, 0, false⟩, 0) := by
  have hne := snp_ne
  cases a <;> simp [clrD, rmD, lsD, lsF, ok_snw, Ds.now, replay, kget, hne, chgD, Ds.more]
theorem ls_spd (a b : Bool) (F G : Bs) (hG : b = false → G = []) : spD (lsD a b F G) = (lsE a b F, 0) := by
  have hne := snp_ne
  have hne2 : ¬ snw = snp := fun h => hne h.symm
  cases b with
  | false =>
    rw [hG rfl]
    unfold spD
    rw [ls_clr0]
    simp [lsD, lsE, lsF]
  | true =>
    unfold spD
    rw [ls_clr1]
    cases a <;> simp [lsD, lsE, lsF, synR, synD, Ds.now, replay, doC, kdel, hne, hne2]
theorem ls_rd (a b : Bool) (F : Bs) : rdD (lsE a b F) snp = if a then (F, 0) else ([], 4) := by
  cases a <;> simp [rdD, lsE, ok_snp, Ds.now, replay, kget]
theorem ls_rdn (a b : Bool) (F : Bs) : rdD (lsE a b F) snw = ([], 4) := by
  have hne := snp_ne
  cases a <;> simp [rdD, lsE, ok_snw, Ds.now, replay, kget, hne]
theorem ls_ld (a b : Bool) (F G : Bs) (hG : b = false → G = []) : ldD (lsD a b F G) = lsQ a F := by
  unfold ldD
  rw [ls_spd a b F G hG]
  simp only
  rw [ls_rd]
  cases a <;> simp [lsQ]
theorem ls_ok (a b : Bool) (F G : Bs) (hG : b = false → G = []) (h1 : F.length ≤ 1048576) (h2 : G.length ≤ 1048576) : LdOk (lsD a b F G) := by
  cases b with
  | false =>
    rw [hG rfl]
    refine ⟨?_, ?_, ?_, ?_⟩ <;> (try rw [ls_clr0]) <;> cases a <;> simp [lsD, lsF, Ds.wt, tot] <;> omega
  | true => refine ⟨?_, ?_, ?_, ?_⟩ <;> (try rw [ls_clr1]) <;> cases a <;> simp [lsD, lsF, Ds.wt, tot] <;> omega
theorem sdV_ms (t : ByteArray) : (sdV t).ms.length ≤ 7 := by
  rcases sdE_iff t with ⟨_, h⟩ | ⟨_, h⟩
  · exact (chk_ok (sd_one h).1).2.2.2.1
  · rw [h]; exact Nat.zero_le _
theorem ls_ms (a : Bool) (F : Bs) : (lsQ a F).s.ms.length ≤ 9223372036854775807 := by
  unfold lsQ
  split
  · unfold ldF
    split
    · split
      · simp only
        have := sdV_ms (unfAt (tx F) 0).x
        omega
      · exact Nat.zero_le _
    · exact Nat.zero_le _
  · exact Nat.zero_le _
set_option maxRecDepth 100000 in
set_option maxHeartbeats 1000000 in
theorem load_nil (w : World) : Calls Tryz.prog 9 #[.pointer none] w fun e w' => e = .returned (.tuple #[.agg #[.int .i64 0, .int .i64 0, .slice none 0 0, .string ⟨#[]⟩], .bool false, .int .i64 1]) ∧ Below w.heap.size w w' := by
  have B1 := hid (Bx.made (Below.refl w.heap.size w) [.int .i64 0, .int .i64 0, .slice none 0 0, .string ⟨#[]⟩] 34)
  go_enter Tryz.func9, Tryz.ntmps9
  go_wp2
  exact bodyPost_ret (v := .tuple #[.agg #[.int .i64 0, .int .i64 0, .slice none 0 0, .string ⟨#[]⟩], .bool false, .int .i64 1]) (ret_ctt (p := 2) (u := 3) (t := 4) rfl _ _ w.heap.size _ _ _ rfl rfl rfl (run_loadVar_row _ _ _ _ _ _ _ B1.out.row Tryz.underlying34 rfl (by kernel_rfl))) rfl ⟨rfl, B1.out.b⟩
end Go.Proofs.YtflecoplpdbonaaGreat
