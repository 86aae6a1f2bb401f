/- Joined: The chunks of a snapshot: what they are, and the reference's walk. The chunks of a snapshot: the program's walk. -/
import Derived.Test.YtpbfjcgncfdfnaaJoined12
import Derived.Test.YtpbfjcgncfdfnaaJoined18
import Derived.Deep.RegionLaw
import Derived.Test.YtpbfjcgncfdfnaaJoined09
import Derived.Laws.MakeOwn
namespace Go.Proofs.Ytpbfjcgncfdfnaa
open Go.RowKit Go.Maps
set_option linter.unusedVariables false
set_option linter.unusedSimpArgs false

structure Ck where
  ix : Int
  tm : Int
  at_ : Nat
  ls : Bool
  da : ByteArray
def ckC (c : Ck) : List Value := [.int .i64 c.ix, .int .i64 c.tm, .int .i64 (c.at_ : Int), .bool c.ls, .string c.da]
def cksC (l : List Ck) : List Value := (l.map ckC).flatten
/-- the chunk number k -/
def ckAt (s : Sh) (T : ByteArray) (wd k : Nat) : Ck := ⟨s.ix, s.tm, k * wd, decide (T.size ≤ k * wd + wd), T.extract (k * wd) (min (k * wd + wd) T.size)⟩
def cks (s : Sh) (T : ByteArray) (wd n : Nat) : List Ck := (List.range n).map (ckAt s T wd)
/-- how many there are -/
def nck (T : ByteArray) (wd : Nat) : Nat := (T.size + wd - 1) / wd
theorem cks_len (s : Sh) (T : ByteArray) (wd n : Nat) : (cks s T wd n).length = n := by simp [cks]
theorem cks_succ (s : Sh) (T : ByteArray) (wd n : Nat) : cksC (cks s T wd (n + 1)) = cksC (cks s T wd n) ++ ckC (ckAt s T wd n) := by
  simp [cks, cksC, List.range_succ]
theorem nck_last {T : ByteArray} {wd k : Nat} (hn : 0 < wd) (h1 : k * wd < T.size) (h2 : T.size ≤ k * wd + wd) : nck T wd = k + 1 := by
  unfold nck
  refine Nat.div_eq_of_lt_le ?_ ?_
  · rw [Nat.succ_mul]; omega
  · rw [Nat.succ_mul, Nat.succ_mul]; omega
theorem ck_one (c : Ck) : ∀ u ∈ ckC c, u.oneCell' = true := fun u hu => by
  simp [ckC] at hu
  rcases hu with h | h | h | h | h <;> subst h <;> rfl
theorem encS_pos {s : Sh} (h : chkS s = 0) : 0 < (encS s).size := by
  have he : encS s = ⟨(encB s).toArray⟩ := by unfold encS; rw [if_pos h]
  rw [size_of (encS s) (encB s) (by rw [he])]
  have := (put_len s.ix.toNat).1
  simp [encB]
  omega
end Go.Proofs.Ytpbfjcgncfdfnaa
namespace Go.Proofs.Ytpbfjcgncfdfnaa
open Go.RowKit Go.Maps
set_option linter.unusedVariables false
set_option linter.unusedSimpArgs false

theorem elPk : ElT 22 34 5 48 := ⟨Try.underlying22, ⟨.agg #[.int .i64 0, .int .i64 0, .int .i64 0, .bool false, .string ⟨#[]⟩], by kernel_rfl, rfl⟩, by decide⟩
/-- what the loop keeps -/
structure PcS (w : World) (cs : List Value) (v : Value) (k : Nat) (xs : List Value) (W : World) : Prop where
  own : W.ownsRow (w.heap.size + 1) 34 5 v k xs
  row : RowIs W w.heap.size cs 30
  b : Below w.heap.size w W
theorem PcS.next {w W W' : World} {cs : List Value} {v : Value} {k : Nat} {xs : List Value} (h : PcS w cs v k xs W) (hb : Below W.heap.size W W') : PcS w cs v k xs W' :=
  ⟨(hb.keep (fun _ => False)).ownsRow h.own (fun _ _ h => h), h.row.keep (hb.keep (fun _ => False)) (fun h => h), below_on h.b hb⟩
theorem PcS.drew {w W : World} {cs : List Value} {v : Value} {k : Nat} {xs : List Value} (h : PcS w cs v k xs W) : PcS w cs v k xs W.drew := h.next (keep_below (keep_drew (fun _ => False) W) (fun _ _ h => h) (Nat.le_refl _))
theorem PcS.al {w W : World} {cs : List Value} {v : Value} {k : Nat} {xs : List Value} (h : PcS w cs v k xs W) (o : Obj) : PcS w cs v k xs (W.alloc o) := h.next ((Below.refl _ _).alloc (Nat.le_refl _) o)
theorem PcS.lt {w W : World} {cs : List Value} {v : Value} {k : Nat} {xs : List Value} (h : PcS w cs v k xs W) : w.heap.size + 1 ≤ W.heap.size := h.row.lt
theorem PcS.app {w W W' : World} {cs : List Value} {v v' : Value} {k : Nat} {xs ys : List Value} (h : PcS w cs v k xs W) (ho : W'.ownsRow (w.heap.size + 1) 34 5 v' (k + 1) ys) (hk : Keep (fun j => v.ownBlock = some j) W W') : PcS w cs v' (k + 1) ys W' :=
  ⟨ho, h.row.keep hk (fun e => by have := ownsRow_ge h.own e; omega), h.b.trans (keep_below hk (fun j hj e => by have := ownsRow_ge h.own e; omega) h.b.size)⟩
theorem lt_divs (n wd : Nat) (h : 0 < wd) : n < (n / wd + 1) * wd := by
  have h1 := Nat.div_add_mod n wd
  have h2 := Nat.mod_lt n h
  rw [Nat.succ_mul, Nat.mul_comm (n / wd) wd]
  omega
theorem cut_two (X : ByteArray) (A wd : Nat) (h : A + wd ≤ X.size) : (X.extract A X.size).extract 0 wd = X.extract A (A + wd) := by
  apply ByteArray.ext
  simp [ByteArray.data_extract]
  congr 1
  omega
theorem madeP (L : Nat) (h : L ≤ 1000000) : ∃ cur : Array Value, cur.size = (L + 1) * 5 ∧ ∀ W : World, (Instr.makeSlice 22 (.int .i64 0) (.int .i64 ((L : Int) + 1))).run Try.prog W = .ok (.slice (some ⟨W.heap.size, 0, none⟩) 0 (L + 1)) (W.alloc (.cells cur 34)) := by
  obtain ⟨z, hz, hzc⟩ := elPk.inf
  obtain ⟨i0, hi, hz0, hz1, hz2⟩ := info_parts hz
  refine ⟨madeCells z.cells ((L + 1) * 5), by rw [size_madeCells], fun W => ?_⟩
  have := run_make (P := Try.prog) W 22 34 i0 z Try.underlying22 hi hz0 .i64 .i64 0 ((L : Int) + 1) (by omega) (by omega) (by rw [hz2]; omega) (by omega)
  rw [this, hz1]
  rw [show ((L : Int) + 1).toNat = L + 1 by omega]
  rfl
set_option maxRecDepth 100000 in
set_option maxHeartbeats 2000000 in
theorem pchunks_ok (v : Value) (s : Sh) (wd : Nat) (w : World) (hv : IntsI w v s.ms) (hl : s.ms.length ≤ 9223372036854775807) (hc : chkS s = 0) (hw : 1 ≤ wd) (hw2 : wd ≤ 9223372036854775807) :
    Calls Try.prog 13 #[shV v s, .int .i64 (wd : Int)] w fun e w' => ∃ u, e = .returned (.tuple #[u, .int .i64 0]) ∧ w'.ownsRow w.heap.size 34 5 u (nck (encS s) wd) (cksC (cks s (encS s) wd (nck (encS s) wd))) ∧ Below w.heap.size w w' := by
  obtain ⟨ad, cap, rfl, -⟩ := hv.form
  have EN : Hid (∀ W, Below w.heap.size w W → Calls Try.prog 23 #[.agg #[.int .i64 s.ix, .int .i64 s.tm, .slice ad s.ms.length cap, .string s.da]] W fun e w' => e = .returned (.tuple #[.string (encS s), .int .i64 0]) ∧ Below W.heap.size W w') := fun W hW => by
    have := encode_any (.slice ad s.ms.length cap) s W (hv.next hW) hl
    rw [hc] at this
    exact this
  have hz := encS_size s
  have hp := encS_pos hc
  have HCK : Hid (∀ k, ckAt s (encS s) wd k = ⟨s.ix, s.tm, k * wd, decide ((encS s).size ≤ k * wd + wd), (encS s).extract (k * wd) (min (k * wd + wd) (encS s).size)⟩) := fun k => rfl
  have HSC : Hid (∀ k, cksC (cks s (encS s) wd (k + 1)) = cksC (cks s (encS s) wd k) ++ ckC (ckAt s (encS s) wd k)) := fun k => cks_succ _ _ _ _
  have hw1 : ¬ ((wd : Int) < 1) := by omega
  unfold shV
  generalize encS s = X at *
  obtain ⟨ix, tm, ms, da⟩ := s
  simp only at *
  clear hv hl hc
  generalize ms.length = m at *
  go_enter Try.func13, Try.ntmps13
  go_wp2_with fail
  refine (EN.out _ (below_al (Below.refl _ _) _)).mono ?_
  rintro e w1 ⟨rfl, b1⟩
  have R1 := hid ((srow w [.int .i64 ix, .int .i64 tm, .slice ad m cap, .string da] 30).keep (b1.keep (fun _ => False)) (fun h => h))
  have B1 := hid (below_on (below_al (Below.refl _ w) _) b1)
  clear b1 EN
  obtain ⟨L, hL⟩ : ∃ L, L = (X.size - 1) / wd := ⟨_, rfl⟩
  have hLz : L ≤ 200000 := by rw [hL]; have := Nat.div_le_self (X.size - 1) wd; omega
  have hq : ((X.size : Int) - 1) / (wd : Int) = (L : Int) := by
    rw [hL, Int.natCast_ediv]
    congr 1
    omega
  obtain ⟨cur, hcz, hmk⟩ := madeP L (by omega)
  have hwr : wrap64 ((L : Int) + 1) = (L : Int) + 1 := by unfold wrap64; omega
  have HL := hid hL
  have HCZ := hid hcz
  clear hL hcz
  go_wp2
  rw [hq]
  have HP0 : Hid (PcS w [.int .i64 ix, .int .i64 tm, .slice ad m cap, .string da] (.slice (some ⟨w1.heap.size, 0, none⟩) 0 (L + 1)) 0 (cksC (cks ⟨ix, tm, ms, da⟩ X wd 0)) (w1.alloc (.cells cur 34))) := ⟨⟨rfl, .inr ⟨w1.heap.size, L + 1, cur, rfl, R1.out.lt, heap_alloc_new _ _, Nat.zero_le _, by unfold maxLen; omega, HCZ.out, by simp [cksC, cks]⟩⟩, row_old R1.out _, below_al B1.out _⟩
  clear R1 B1 hq hwr
  go_loopw [9, 33] (fun l i wr => ∃ (k : Nat) (ad2 : Option Addr) (cap2 : Nat), k ≤ L + 1 ∧ l = .slice ad2 k cap2 ∧ i = .int .i64 (k : Int) ∧ Hid (PcS w [.int .i64 ix, .int .i64 tm, .slice ad m cap, .string da] (.slice ad2 k cap2) k (cksC (cks ⟨ix, tm, ms, da⟩ X wd k)) wr)) (fun _ i _ => L + 1 - (intOf i).toNat)
  case atStart => exact ⟨0, _, _, Nat.zero_le _, rfl, rfl, HP0⟩
  case round =>
    clear HP0
    obtain ⟨k, ad2, cap2, hk, rfl, rfl, HP⟩ := hrel
    have c0 := HP.out.row.cellAt (o := 0) rfl
    have c1 := HP.out.row.cellAt (o := 1) rfl
    have HO1 := hid (ck_one (ckAt ⟨ix, tm, ms, da⟩ X wd k))
    have HB1 : Hid (k + 1 ≤ 70368744177) := by show _ ≤ _; omega
    have HB2 : Hid ((k + 1) * 48 ≤ 140737488355328) := by show _ ≤ _; omega
    by_cases hlt : k < L + 1
    · have hlt1 : (k : Int) < (L : Int) + 1 := by omega
      obtain ⟨A, hA⟩ : ∃ A, A = k * wd := ⟨_, rfl⟩
      have hLw : L * wd ≤ X.size - 1 := by rw [HL.out]; exact Nat.div_mul_le_self _ _
      have hA1 : A ≤ X.size - 1 := by rw [hA]; exact Nat.le_trans (Nat.mul_le_mul_right wd (by omega)) hLw
      have hmul : (k : Int) * (wd : Int) = (A : Int) := by rw [hA]; simp
      have hwA : wrap64 (A : Int) = (A : Int) := by unfold wrap64; omega
      have hA2 : (A : Int) ≤ (X.size : Int) := by omega
      by_cases hkL : k < L
      · have hA3 : A + wd ≤ X.size - 1 := by
          have : (k + 1) * wd ≤ L * wd := Nat.mul_le_mul_right wd (by omega)
          rw [Nat.succ_mul] at this; omega
        clear hLw
        have HA1 : Hid (ckC (ckAt ⟨ix, tm, ms, da⟩ X wd k) = [.int .i64 ix, .int .i64 tm, .int .i64 (A : Int), .bool false, .string (X.extract A (A + wd))]) := by
          show _ = _
          rw [HCK.out]
          simp only [ckC]
          rw [← hA, show min (A + wd) X.size = (A + wd) by omega, show decide (X.size ≤ A + wd) = false by simp; omega]
        have hlast : ((k : Int) == (L : Int)) = false := beq_eq_false_iff_ne.2 (by omega)
        have hkL1 : (k : Int) < (L : Int) := by omega
        have hx2 := cut_two X A wd (by omega)
        have hDz : (X.extract A X.size).size = X.size - A := by simp
        have hd1 : (wd : Int) ≤ ((X.extract A X.size).size : Int) := by rw [hDz]; omega
        have HCS : Hid ((X.extract A (A + wd)).size ≤ 140737488355328) := by show _ ≤ _; simp; omega
        clear hDz
        have CL : Hid (∀ W, PcS w [.int .i64 ix, .int .i64 tm, .slice ad m cap, .string da] (.slice ad2 k cap2) k (cksC (cks ⟨ix, tm, ms, da⟩ X wd k)) W → Calls Try.prog 24 #[.string (X.extract A (A + wd))] W fun e w' => e = .returned (.string (X.extract A (A + wd))) ∧ w'.cell? ⟨w.heap.size, 0, none⟩ = some (.int .i64 ix) ∧ w'.cell? ⟨w.heap.size, 1, none⟩ = some (.int .i64 tm) ∧ Hid (PcS w [.int .i64 ix, .int .i64 tm, .slice ad m cap, .string da] (.slice ad2 k cap2) k (cksC (cks ⟨ix, tm, ms, da⟩ X wd k)) w')) := fun W q => (clone_any _ W HCS.out).mono fun e w' ⟨he, hb⟩ => ⟨he, (q.next hb).row.cellAt rfl, (q.next hb).row.cellAt rfl, q.next hb⟩
        have HG1 : Hid (∀ W : World, GSrc (W.alloc (.cells #[.int .i64 ix, .int .i64 tm, .int .i64 (A : Int), .bool false, .string (X.extract A (A + wd))] 34)) (.slice (some ⟨W.heap.size, 0, none⟩) 1 1) 1 (ckC (ckAt ⟨ix, tm, ms, da⟩ X wd k))) := fun W => by rw [HA1.out]; exact gsrc_block (heap_alloc_new _ _)
        have FIN : Hid (∀ (W : World) (adB : Option Addr) (capB : Nat) (wB : World), PcS w [.int .i64 ix, .int .i64 tm, .slice ad m cap, .string da] (.slice ad2 k cap2) k (cksC (cks ⟨ix, tm, ms, da⟩ X wd k)) W → wB.ownsRow (w.heap.size + 1) 34 5 (.slice adB (k + 1) capB) (k + 1) (cksC (cks ⟨ix, tm, ms, da⟩ X wd k) ++ ckC (ckAt ⟨ix, tm, ms, da⟩ X wd k)) → Keep (fun j => (Value.slice ad2 k cap2).ownBlock = some j) W wB → Hid (PcS w [.int .i64 ix, .int .i64 tm, .slice ad m cap, .string da] (.slice adB (k + 1) capB) (k + 1) (cksC (cks ⟨ix, tm, ms, da⟩ X wd (k + 1))) wB)) := fun W adB capB wB q ho hk => q.app (by rw [HSC.out]; exact ho) hk
        clear HA1 HCK HSC hA HL HCZ hmk
        go_wp2
        go_region_law (first | (go_simp; go_at_call 24; with_reducible (refine (CL.out _ ?_).mono ?_); (first | exact HP.out | exact HP.out.drew | exact HP.out.drew.drew); rintro e' w5 ⟨rfl, z0, z1, H5⟩; go_simp) | (refine step_gapp (w0 := w5.alloc (.cells #[.int .i64 ix, .int .i64 tm, .int .i64 (A : Int), .bool false, .string (X.extract A (A + wd))] 34)) (by rfl) _ _ elPk (by rfl) (w.heap.size + 1) (.slice ad2 k cap2) (.slice (some ⟨w5.heap.size, 0, none⟩) 1 1) (cksC (cks ⟨ix, tm, ms, da⟩ X wd k)) (ckC (ckAt ⟨ix, tm, ms, da⟩ X wd k)) k 1 (k + 1) (by rfl) (by first | with_reducible exact Keep.refl _ _ | with_reducible exact keep_drew _ _ | with_reducible exact (keep_drew _ _).trans (keep_drew _ _) | exact keep_drew _ _) (by rfl) (by rfl) (H5.out.al _).own (H5.out.al _).lt (HG1.out _) (by rfl) HO1.out HB1.out HB2.out ?_; intro adB capB wB hrB hkB; have FO := FIN.out _ adB capB wB (H5.out.al _) hrB hkB))
        all_goals
          go_wp2
          first
            | exact ⟨⟨k + 1, _, _, by omega, rfl, by go_num, FO⟩, by simp [intOf]; omega⟩
            | exact ⟨⟨k + 1, _, _, by omega, rfl, by go_num, FO.out.drew⟩, by simp [intOf]; omega⟩
      · have hA3 : X.size ≤ A + wd := by
          have h1 : X.size - 1 < (L + 1) * wd := by rw [HL.out]; exact lt_divs _ _ (by omega)
          rw [show L = k by omega, Nat.succ_mul, ← hA] at h1
          omega
        clear hLw
        have HA1 : Hid (ckC (ckAt ⟨ix, tm, ms, da⟩ X wd k) = [.int .i64 ix, .int .i64 tm, .int .i64 (A : Int), .bool true, .string (X.extract A X.size)]) := by
          show _ = _
          rw [HCK.out]
          simp only [ckC]
          rw [← hA, show min (A + wd) X.size = X.size by omega, show decide (X.size ≤ A + wd) = true by simp; omega]
        have hlast : ((k : Int) == (L : Int)) = true := by rw [beq_iff_eq]; omega
        have hkL1 : decide ((k : Int) < (L : Int)) = false := decide_eq_false (by omega)
        have HCS : Hid ((X.extract A X.size).size ≤ 140737488355328) := by show _ ≤ _; simp; omega
        have CL : Hid (∀ W, PcS w [.int .i64 ix, .int .i64 tm, .slice ad m cap, .string da] (.slice ad2 k cap2) k (cksC (cks ⟨ix, tm, ms, da⟩ X wd k)) W → Calls Try.prog 24 #[.string (X.extract A X.size)] W fun e w' => e = .returned (.string (X.extract A X.size)) ∧ w'.cell? ⟨w.heap.size, 0, none⟩ = some (.int .i64 ix) ∧ w'.cell? ⟨w.heap.size, 1, none⟩ = some (.int .i64 tm) ∧ Hid (PcS w [.int .i64 ix, .int .i64 tm, .slice ad m cap, .string da] (.slice ad2 k cap2) k (cksC (cks ⟨ix, tm, ms, da⟩ X wd k)) w')) := fun W q => (clone_any _ W HCS.out).mono fun e w' ⟨he, hb⟩ => ⟨he, (q.next hb).row.cellAt rfl, (q.next hb).row.cellAt rfl, q.next hb⟩
        have HG1 : Hid (∀ W : World, GSrc (W.alloc (.cells #[.int .i64 ix, .int .i64 tm, .int .i64 (A : Int), .bool true, .string (X.extract A X.size)] 34)) (.slice (some ⟨W.heap.size, 0, none⟩) 1 1) 1 (ckC (ckAt ⟨ix, tm, ms, da⟩ X wd k))) := fun W => by rw [HA1.out]; exact gsrc_block (heap_alloc_new _ _)
        have FIN : Hid (∀ (W : World) (adB : Option Addr) (capB : Nat) (wB : World), PcS w [.int .i64 ix, .int .i64 tm, .slice ad m cap, .string da] (.slice ad2 k cap2) k (cksC (cks ⟨ix, tm, ms, da⟩ X wd k)) W → wB.ownsRow (w.heap.size + 1) 34 5 (.slice adB (k + 1) capB) (k + 1) (cksC (cks ⟨ix, tm, ms, da⟩ X wd k) ++ ckC (ckAt ⟨ix, tm, ms, da⟩ X wd k)) → Keep (fun j => (Value.slice ad2 k cap2).ownBlock = some j) W wB → Hid (PcS w [.int .i64 ix, .int .i64 tm, .slice ad m cap, .string da] (.slice adB (k + 1) capB) (k + 1) (cksC (cks ⟨ix, tm, ms, da⟩ X wd (k + 1))) wB)) := fun W adB capB wB q ho hk => q.app (by rw [HSC.out]; exact ho) hk
        clear HA1 HCK HSC hA HL HCZ hmk
        go_wp2
        go_region_law (first | (go_simp; go_at_call 24; with_reducible (refine (CL.out _ ?_).mono ?_); (first | exact HP.out | exact HP.out.drew | exact HP.out.drew.drew); rintro e' w5 ⟨rfl, z0, z1, H5⟩; go_simp) | (refine step_gapp (w0 := w5.alloc (.cells #[.int .i64 ix, .int .i64 tm, .int .i64 (A : Int), .bool true, .string (X.extract A X.size)] 34)) (by rfl) _ _ elPk (by rfl) (w.heap.size + 1) (.slice ad2 k cap2) (.slice (some ⟨w5.heap.size, 0, none⟩) 1 1) (cksC (cks ⟨ix, tm, ms, da⟩ X wd k)) (ckC (ckAt ⟨ix, tm, ms, da⟩ X wd k)) k 1 (k + 1) (by rfl) (by first | with_reducible exact Keep.refl _ _ | with_reducible exact keep_drew _ _ | with_reducible exact (keep_drew _ _).trans (keep_drew _ _) | exact keep_drew _ _) (by rfl) (by rfl) (H5.out.al _).own (H5.out.al _).lt (HG1.out _) (by rfl) HO1.out HB1.out HB2.out ?_; intro adB capB wB hrB hkB; have FO := FIN.out _ adB capB wB (H5.out.al _) hrB hkB))
        all_goals
          go_wp2
          first
            | exact ⟨⟨k + 1, _, _, by omega, rfl, by go_num, FO⟩, by simp [intOf]; omega⟩
            | exact ⟨⟨k + 1, _, _, by omega, rfl, by go_num, FO.out.drew⟩, by simp [intOf]; omega⟩
    · have hdl : decide ((k : Int) < (L : Int) + 1) = false := decide_eq_false (by omega)
      have hnk : nck X wd = k := by
        have hLw : L * wd ≤ X.size - 1 := by rw [HL.out]; exact Nat.div_mul_le_self _ _
        have h1 : X.size - 1 < (L + 1) * wd := by rw [HL.out]; exact lt_divs _ _ (by omega)
        rw [show k = L + 1 by omega]
        exact nck_last (by omega) (by omega) (by rw [Nat.succ_mul] at h1; omega)
      have HNK := hid hnk
      clear hnk HCK HSC HO1 HB1 HB2 hlt HL HCZ hmk
      go_wp2
      go_ret2
      refine ⟨_, rfl, ?_, HP.out.b⟩
      rw [HNK.out]
      exact ownsRow_base HP.out.own (by omega)
end Go.Proofs.Ytpbfjcgncfdfnaa
