/- What becomes of a disk in the law DiskMoves; nothing of the program stands here. -/
import Derived.Test.YtnlodlpjokkepabPlanW
namespace Go.Proofs.Ytnlodlpjokkepab
open Go.RowKit Go.Maps
set_option linter.unusedVariables false
set_option linter.unusedSimpArgs false

section
variable (old fresh : Bs) (kp tn a : Int)
def sA : Ds := ⟨[], [⟨1, [97], [], old, 0⟩], 1, [], false, 0, false⟩
def sB : Ds := ⟨[([97], old)], [], 1, [], false, 0, false⟩
def sC : Ds := ⟨[([97], old)], [], 1, [⟨a, kp, tn⟩], false, 0, false⟩
def sD : Ds := ⟨[([97], old)], [⟨1, [98], [], fresh, 0⟩], 2, [⟨a, kp, tn⟩], false, 0, false⟩
def sE : Ds := ⟨[([97], old), ([98], fresh)], [], 2, [⟨a, kp, tn⟩], false, 0, false⟩
def sF : Ds := ⟨[([97], old), ([98], fresh)], [⟨2, [98], [97], [], 0⟩], 3, [⟨a, kp, tn⟩], false, 0, false⟩
def sG : Ds := ⟨[([97], fresh)], [], 3, [⟨a, kp, tn⟩], false, 0, false⟩
/-- struck at the first change -/
def tA : Ds := ⟨[([97], old)], [⟨1, [98], [], fresh, 0⟩], 1, [], false, 0, false⟩
/-- struck at the second -/
def tB : Ds := ⟨[([97], old), ([98], fresh)], [⟨2, [98], [97], [], 0⟩], 2, [], false, 0, false⟩

theorem ok97 : nameOk [97] = true := by decide
theorem ok98 : nameOk [98] = true := by decide
theorem wr_un (d : Ds) (name s : Bs) (h1 : d.dn = false) (h2 : d.bd = false) (h3 : nameOk name = true) : wrD d name s = chgD d ⟨1, name, [], s, 0⟩ := by
  unfold wrD
  rw [if_neg (by rw [h1]; decide), if_neg (by rw [h3]; decide), if_neg (by rw [h2]; unfold fitB; simp)]
theorem chg_off (d : Ds) (ch : Chg) (h : d.fl.find? (fun x => x.at_ = (d.n : Int)) = none) : chgD d ch = ({ d.more ch with n := d.n + 1 }, 0) := by unfold chgD; rw [h]
theorem chg_on (d : Ds) (ch : Chg) (f : Fl) (h : d.fl.find? (fun x => x.at_ = (d.n : Int)) = some f) : chgD d ch = (failD { d.more ch with fl := offF d.fl d.n } f.keep f.torn, 21) := by unfold chgD; rw [h]
theorem w1 : wrD d0 [97] old = (sA old, 0) := by
  rw [wr_un _ _ _ rfl rfl ok97, chg_off _ _ rfl]; rfl
theorem y1 : synD (sA old) = sB old := rfl
theorem p1 : ({ sB old with fl := [⟨a, kp, tn⟩] } : Ds) = sC old kp tn a := rfl
theorem w2_on : wrD (sC old kp tn 1) [98] fresh = (failD (tA old fresh) kp tn, 21) := by
  rw [wr_un _ _ _ rfl rfl ok98, chg_on _ _ ⟨1, kp, tn⟩ (by simp [sC])]
  simp [sC, offF, Ds.more, tA]
theorem w2_off (h : a ≠ 1) : wrD (sC old kp tn a) [98] fresh = (sD old fresh kp tn a, 0) := by
  rw [wr_un _ _ _ rfl rfl ok98, chg_off _ _ (by simp [sC]; exact decide_eq_false h)]; rfl
theorem y2 : synD (sD old fresh kp tn a) = sE old fresh kp tn a := rfl
theorem mv_un (d : Ds) (name to : Bs) (h1 : d.dn = false) (h2 : (nameOk name && nameOk to) = true) (h3 : (kget d.now name).isSome = true) (h4 : name ≠ to) : mvD d name to = chgD d ⟨2, name, to, [], 0⟩ := by
  unfold mvD
  rw [if_neg (by rw [h1]; decide), if_neg (by rw [h2]; decide), if_neg (by rw [h3]; decide), if_neg h4]
theorem m_on : mvD (sE old fresh kp tn 2) [98] [97] = (failD (tB old fresh) kp tn, 21) := by
  rw [mv_un _ _ _ rfl (by decide) rfl (by decide), chg_on _ _ ⟨2, kp, tn⟩ (by simp [sE])]
  simp [sE, offF, Ds.more, tB]
theorem m_off (h : a ≠ 2) : mvD (sE old fresh kp tn a) [98] [97] = (sF old fresh kp tn a, 0) := by
  rw [mv_un _ _ _ rfl (by decide) rfl (by decide), chg_off _ _ (by simp [sE]; exact decide_eq_false h)]; rfl
theorem y3 : synD (sF old fresh kp tn a) = sG fresh kp tn a := rfl

theorem fail_down2 (d : Ds) (h : d.dn = true) : failD d kp tn = d := by unfold failD; rw [if_pos h]
theorem dn_fail (d : Ds) : (failD d kp tn).dn = true := by
  unfold failD
  by_cases h : d.dn = true
  · rw [if_pos h]; exact h
  · rw [if_neg h]
theorem rd_up (d : Ds) (h : d.dn = true) (name : Bs) (hn : nameOk name = true) (b : Bs) (hk : kget d.now name = some b) : rdD { d with dn := false } name = (b, 0) := by
  unfold rdD
  rw [if_neg (by simp), if_neg (by rw [hn]; decide)]
  have : kget ({ d with dn := false } : Ds).now name = some b := hk
  rw [this]
theorem now_fail (d : Ds) (h : d.dn = false) : (failD d kp tn).now = failS d kp tn := by unfold failD; rw [h]; rfl
theorem keep01 (k : Int) (n : Nat) (h : n = 1) : min k.toNat n = 0 ∨ min k.toNat n = 1 := by omega
theorem r_tA : kget (failS (tA old fresh) kp tn) [97] = some old := by
  unfold failS keepN
  have h : (tA old fresh).ws.length = 1 := rfl
  rcases keep01 kp _ h with e | e
  · rw [e]
    show kget (tearC [([97], old)] ⟨1, [98], [], fresh, 0⟩ tn) [97] = some old
    unfold tearC
    split
    · rfl
    · rfl
  · rw [e]; rfl
theorem r_tB : kget (failS (tB old fresh) kp tn) [97] = some old ∨ kget (failS (tB old fresh) kp tn) [97] = some fresh := by
  unfold failS keepN
  have h : (tB old fresh).ws.length = 1 := rfl
  rcases keep01 kp _ h with e | e
  · rw [e]
    refine .inl ?_
    show kget (tearC [([97], old), ([98], fresh)] ⟨2, [98], [97], [], 0⟩ tn) [97] = some old
    unfold tearC
    rw [if_pos (.inr (by decide))]
    rfl
  · rw [e]; exact .inr rfl
theorem r_sG : kget (failS (sG fresh kp tn a) kp tn) [97] = some fresh := by
  unfold failS keepN
  have h : min kp.toNat (sG fresh kp tn a).ws.length = 0 := by show min kp.toNat 0 = 0; omega
  rw [h]; rfl
end
end Go.Proofs.Ytnlodlpjokkepab
