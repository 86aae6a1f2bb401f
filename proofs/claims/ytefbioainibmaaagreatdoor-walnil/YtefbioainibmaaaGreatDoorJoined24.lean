/- Joined: What a disk's segments say. A segment with entries more: as plain data, and what the loop over them keeps. -/
import Derived.Test.YtefbioainibmaaaGreatDoorJoined23
namespace Go.Proofs.YtefbioainibmaaaGreatDoor
open Go.RowKit Go.Maps Go.Sort Go.Shelf
set_option linter.unusedVariables false
set_option linter.unusedSimpArgs false

theorem IntsI.cellN {w : World} {b off N cap : Nat} {l : List Int} (h : IntsI w (.slice (some ⟨b, off, none⟩) N cap) l) (k : Nat) (hk : k < l.length) : w.cell? ⟨b, off + k, none⟩ = some (.int .i64 l[k]) := by
  obtain ⟨ad, cap', e, hc⟩ := h.form
  obtain ⟨b', off', e2, _, h3⟩ := hc k hk
  injection e with e1
  rw [e2] at e1
  injection e1 with e1
  injection e1 with e1 e4
  subst e1 e4
  exact h3
/-- bounds of a segment that was read -/
def SvB (y : Sv) : Prop := 0 ≤ y.ix ∧ y.ix ≤ 1099511627776 ∧ 0 ≤ y.tm ∧ y.tm ≤ 1099511627776 ∧ y.es.length ≤ 8 ∧ y.ps.length = y.es.length + 1 ∧ 1 ≤ y.n ∧ y.n ≤ 4611686018427387903
/-- what the loop keeps -/
def FnR (w : World) (B : Nat) (nv : Value) (ns : List Int) (rd : Int → Bs × Int) (P : FdP) (k : Nat) (wr : World) : Prop :=
  ∃ (l : List Sv) (gs : List Int) (torn : Bool) (vs vg : Value), k ≤ ns.length ∧ gs.length + l.length ≤ k ∧ (∀ y ∈ l, SvB y) ∧ P = fdL rd (ns.drop k) (l.map Sv.sg) gs torn ∧ FnS w B w.heap.size (w.heap.size + 1) nv ns l gs torn vs vg wr
def FnPost (w : World) (P : FdP) (e : Ending) (w' : World) : Prop :=
  ∃ (l : List Sv) (vs vg : Value), e = .returned (.tuple #[.agg #[vs, vg, .bool P.torn], .int .i64 P.e]) ∧ l.map Sv.sg = P.st ∧ SgsI w' w.heap.size vs l ∧ OwnI w' w.heap.size vg P.gs ∧ Keep (fun _ => False) w w'
theorem meas (N k : Nat) (h : k < N) : N - (intOf (.int .i64 ((k : Int) + 1))).toNat < N - (intOf (.int .i64 (k : Int))).toNat := by simp [intOf]; omega
theorem tk_len (l : List Sv) (gs : List Int) (x : Sv) : (tkG l gs x).length + (tkS l x).length ≤ gs.length + l.length + 1 := by
  unfold tkG tkS
  split <;> simp <;> omega
theorem tk_mem {l : List Sv} {x y : Sv} (h : y ∈ tkS l x) : y ∈ l ∨ y = x := by
  unfold tkS at h
  split at h
  · rcases List.mem_append.1 h with h | h
    · exact .inl h
    · exact .inr (List.mem_singleton.1 h)
  · exact .inr (List.mem_singleton.1 h)
theorem tk_sg (rd : Int → Bs × Int) (r : List Int) (l : List Sv) (gs : List Int) (x : Sv) (t : Bool) : fdL rd r ((tkS l x).map Sv.sg) (tkG l gs x) t = if onS (l.map Sv.sg) x.sg = true then fdL rd r (l.map Sv.sg ++ [x.sg]) gs t else fdL rd r [x.sg] (gs ++ (l.map Sv.sg).map (·.n)) t := by
  unfold tkS tkG
  rw [onC_sg]
  split
  · rw [List.map_append]; rfl
  · rw [List.map_map]; rfl
/-- one number more -/
def fdS (rd : Int → Bs × Int) (n : Int) (r : List Int) (l : List Sg) (gs : List Int) (t : Bool) (er z : Int) (R : RsG) : FdP :=
  if er ≠ 0 then ⟨[], [], false, er⟩
  else if R.e ≠ 0 then ⟨[], [], false, R.e⟩
  else if R.is = false then (if r.length = 0 then ⟨l, gs ++ [n], t, 0⟩ else ⟨[], [], false, 31⟩)
  else if R.ps.getLastD 0 < z ∧ r.length ≠ 0 then ⟨[], [], false, 31⟩
  else if onS l (rgG n R) = true then fdL rd r (l ++ [rgG n R]) gs (decide (R.ps.getLastD 0 < z))
  else fdL rd r [rgG n R] (gs ++ l.map (·.n)) (decide (R.ps.getLastD 0 < z))
theorem fdL_cons (rd : Int → Bs × Int) (n : Int) (r : List Int) (l : List Sg) (gs : List Int) (t : Bool) : fdL rd (n :: r) l gs t = fdS rd n r l gs t (rd n).2 (((tx (rd n).1).size : Nat) : Int) (rsG (tx (rd n).1)) := rfl
section
variable {rd : Int → Bs × Int} {n : Int} {r : List Int} {l : List Sg} {gs : List Int} {t : Bool} {er z : Int} {R : RsG}
theorem fdS_er (h : er ≠ 0) : fdS rd n r l gs t er z R = ⟨[], [], false, er⟩ := if_pos h
theorem fdS_e (h : R.e ≠ 0) : fdS rd n r l gs t 0 z R = ⟨[], [], false, R.e⟩ := (if_neg (by simp)).trans (if_pos h)
theorem fdS_nb0 (h : R.e = 0) (hi : R.is = false) (hr : r.length = 0) : fdS rd n r l gs t 0 z R = ⟨l, gs ++ [n], t, 0⟩ := (if_neg (by simp)).trans ((if_neg (by simp [h])).trans ((if_pos hi).trans (if_pos hr)))
theorem fdS_nb1 (h : R.e = 0) (hi : R.is = false) (hr : r.length ≠ 0) : fdS rd n r l gs t 0 z R = ⟨[], [], false, 31⟩ := (if_neg (by simp)).trans ((if_neg (by simp [h])).trans ((if_pos hi).trans (if_neg hr)))
theorem fdS_t (h : R.e = 0) (hi : R.is = true) (hz : R.ps.getLastD 0 < z) (hr : r.length ≠ 0) : fdS rd n r l gs t 0 z R = ⟨[], [], false, 31⟩ := (if_neg (by simp)).trans ((if_neg (by simp [h])).trans ((if_neg (by simp [hi])).trans (if_pos ⟨hz, hr⟩)))
theorem fdS_go (h : R.e = 0) (hi : R.is = true) (hz : ¬ (R.ps.getLastD 0 < z ∧ r.length ≠ 0)) : fdS rd n r l gs t 0 z R = if onS l (rgG n R) = true then fdL rd r (l ++ [rgG n R]) gs (decide (R.ps.getLastD 0 < z)) else fdL rd r [rgG n R] (gs ++ l.map (·.n)) (decide (R.ps.getLastD 0 < z)) := (if_neg (by simp)).trans ((if_neg (by simp [h])).trans ((if_neg (by simp [hi])).trans (if_neg hz)))
end
set_option maxRecDepth 100000 in
set_option maxHeartbeats 8000000 in
theorem wfind_any (p : Nat) (c : Nat → Nat) (d : Ds) (w : World) (h : DiskIs w c p d) (hdn : d.dn = false) (hl : d.now.length ≤ 500000) (hnm : ∀ y ∈ d.now, y.1.length ≤ 80) (hz : ∀ n, (rdD d n).1.length ≤ 1000000000) (hG : GV w) :
    Calls Tryz.prog 52 #[.pointer (some ⟨p, 0, none⟩)] w fun e w' => FnPost w (fdL (fun n => rdD d (fnB n)) (srt (nbsOf d.now)) [] [] false) e w' := by
  have DK : Hid (∀ W, Keep (fun _ => False) w W → ∃ c', DiskIs W c' p d) := fun W k => by obtain ⟨⟨ci, DI, _⟩, _⟩ := left_same h k; exact ⟨ci, DI⟩
  have HGV : Hid (∀ W, Keep (fun _ => False) w W → GV W) := fun W k => hG.keep k
  have NO : Hid (∀ W, Keep (fun _ => False) w W → Calls Tryz.prog 102 #[.pointer (some ⟨p, 0, none⟩)] W fun e w' => ∃ v, e = .returned v ∧ IntsI w' v (srt (nbsOf d.now)) ∧ Keep (fun _ => False) W w') := fun W k => by
    obtain ⟨ci, DI⟩ := DK.out W k
    exact numbersOn_any p ci d W DI hdn (by omega) hnm (HGV.out W k)
  have RD : Hid (∀ (n : Int) W, Keep (fun _ => False) w W → Calls Tryz.prog 42 #[.pointer (some ⟨p, 0, none⟩), .string ⟨(fnB n).toArray⟩] W fun e w' => e = .returned (.tuple #[.string (tx (rdD d (fnB n)).1), .int .i64 (rdD d (fnB n)).2]) ∧ Keep (fun _ => False) W w') := fun n W k => by
    obtain ⟨ci, DI⟩ := DK.out W k
    exact read_any p ci d (fnB n) W DI
  have HNS : Hid (∀ n ∈ srt (nbsOf d.now), 1 ≤ n ∧ n ≤ 4611686018427387903) := srt_ok
  have HNL : Hid ((srt (nbsOf d.now)).length ≤ 500000) := by
    show _ ≤ _
    rw [srt_len]
    exact Nat.le_trans (List.length_filterMap_le _ _) hl
  have HSZ : Hid (∀ n, (tx (rdD d (fnB n)).1).size ≤ 1000000000) := fun n => by show (rdD d (fnB n)).1.toArray.size ≤ _; simpa using hz (fnB n)
  have RS : Hid (∀ (n : Int) (s : ByteArray) W, s.size ≤ 1000000000 → Calls Tryz.prog 104 #[.int .i64 n, .string s] W fun q w' => RsPost n (rsG s) W q w') := fun n s W hs => readSegment_any n s W hs
  clear h hdn hl hnm hz hG DK
  generalize srt (nbsOf d.now) = ns at *
  generalize hrd : (fun n => rdD d (fnB n)) = rd at *
  have RD2 : Hid (∀ (n : Int) W, Keep (fun _ => False) w W → Calls Tryz.prog 42 #[.pointer (some ⟨p, 0, none⟩), .string ⟨(fnB n).toArray⟩] W fun e w' => e = .returned (.tuple #[.string (tx (rd n).1), .int .i64 (rd n).2]) ∧ Keep (fun _ => False) W w') := by rw [← hrd]; exact RD.out
  have HSZ2 : Hid (∀ n, (tx (rd n).1).size ≤ 1000000000) := by rw [← hrd]; exact HSZ.out
  clear RD HSZ hrd
  have RD := RD2
  have HSZ := HSZ2
  clear RD2 HSZ2
  obtain ⟨P, hP⟩ : ∃ P, P = fdL rd ns [] [] false := ⟨_, rfl⟩
  rw [← hP]
  have HP := hid hP
  clear hP
  have R0 : Hid (RowIs ((w.alloc (.cells #[.slice none 0 0, .slice none 0 0, .bool false] 103)).alloc (.cells #[.slice none 0 0, .slice none 0 0, .bool false] 103)) w.heap.size [.slice none 0 0, .slice none 0 0, .bool false] 103) := row_old (srow w [.slice none 0 0, .slice none 0 0, .bool false] 103) _
  have F0 : Hid (RowIs ((w.alloc (.cells #[.slice none 0 0, .slice none 0 0, .bool false] 103)).alloc (.cells #[.slice none 0 0, .slice none 0 0, .bool false] 103)) (w.heap.size + 1) [.slice none 0 0, .slice none 0 0, .bool false] 103) := by
    have := srow (w.alloc (.cells #[.slice none 0 0, .slice none 0 0, .bool false] 103)) [.slice none 0 0, .slice none 0 0, .bool false] 103
    rw [show (w.alloc (.cells #[.slice none 0 0, .slice none 0 0, .bool false] 103)).heap.size = w.heap.size + 1 by simp] at this
    exact this
  have K0 : Hid (Keep (fun _ => False) w ((w.alloc (.cells #[.slice none 0 0, .slice none 0 0, .bool false] 103)).alloc (.cells #[.slice none 0 0, .slice none 0 0, .bool false] 103))) := (keep_alloc _ _ _).trans (keep_alloc _ _ _)
  go_enter Tryz.func52, Tryz.ntmps52
  go_wp2_with fail
  generalize (w.alloc (.cells #[.slice none 0 0, .slice none 0 0, .bool false] 103)).alloc (.cells #[.slice none 0 0, .slice none 0 0, .bool false] 103) = W0 at *
  refine (NO.out _ K0.out).mono ?_
  rintro e w1 ⟨nv, rfl, hi, k1⟩
  have K1 := hid (K0.out.trans k1)
  have S1 : Hid (FnS w w1.heap.size w.heap.size (w.heap.size + 1) nv ns [] [] false (.slice none 0 0) (.slice none 0 0) w1) := by
    have r1 := R0.out.keep k1 (fun h => h)
    have f1 := F0.out.keep k1 (fun h => h)
    exact ⟨⟨f1, .nil _ _, ownI_nil _ _, fun _ h => by cases h⟩, r1, hi, K1.out, Nat.le_refl _, ⟨Nat.le_refl _, by omega, f1.lt⟩, fun b hb hl => ⟨hi.lt hb hl, hi.ne_row hb hl f1 (by simp), hi.ne_row hb hl r1 (by simp)⟩⟩
  obtain ⟨adn, capn, rfl, -⟩ := hi.form
  clear NO K0 R0 F0 hi k1 K1
  generalize w1.heap.size = B at *
  go_wp2_with fail
  go_loopw [16] (fun i wr => ∃ k : Nat, i = .int .i64 (k : Int) ∧ Hid (FnR w B (.slice adn ns.length capn) ns rd P k wr)) (fun i _ => ns.length - (intOf i).toNat)
  case atStart => exact ⟨0, rfl, [], [], false, _, _, Nat.zero_le _, Nat.le_refl _, fun _ h => (by cases h), HP.out, S1.out⟩
  case round =>
    clear S1 HP
    obtain ⟨k, rfl, HK⟩ := hrel
    obtain ⟨l, gs, torn, vs, vg, hkl, hlg, hsb, hpe, hS⟩ := HK.out
    have HP := hid hpe
    have S := hid hS
    have HSB := hid hsb
    have HLG : Hid (gs.length + l.length ≤ k) := hlg
    obtain ⟨sa, sc, rfl⟩ := hS.f.sg.row.form
    obtain ⟨ga, gc, rfl⟩ := row_form hS.f.og
    have HKL := hid hkl
    clear HK hkl hlg hsb hpe hS
    by_cases hk : k < ns.length
    case neg =>
      have hd : decide ((k : Int) < (ns.length : Int)) = false := decide_eq_false (by omega)
      have hd2 : decide (k < ns.length) = false := decide_eq_false hk
      have HQ : Hid (P = ⟨l.map Sv.sg, gs, torn, 0⟩) := by show _ = _; rw [HP.out, List.drop_of_length_le (by omega)]; rfl
      clear HP
      obtain rfl : P = ⟨l.map Sv.sg, gs, torn, 0⟩ := HQ.out
      have d0 := S.out.r.cellAt (o := 0) rfl
      have d1 := S.out.r.cellAt (o := 1) rfl
      have d2 := S.out.r.cellAt (o := 2) rfl
      have f0 : wr.frozen? ⟨w.heap.size, 0, none⟩ = false := S.out.r.frozen
      have f1 : wr.frozen? ⟨w.heap.size, 1, none⟩ = false := S.out.r.frozen
      have f2 : wr.frozen? ⟨w.heap.size, 2, none⟩ = false := S.out.r.frozen
      have e0 := S.out.f.bx.cellAt (o := 0) rfl
      have e1 := S.out.f.bx.cellAt (o := 1) rfl
      have e2 := S.out.f.bx.cellAt (o := 2) rfl
      have FV := hid (three S.out.r (.slice sa l.length sc) (.slice ga gs.length gc) (.bool torn))
      have FK : Hid (Keep (fun _ => False) w (((wr.setCell ⟨w.heap.size, 0, none⟩ (.slice sa l.length sc)).setCell ⟨w.heap.size, 1, none⟩ (.slice ga gs.length gc)).setCell ⟨w.heap.size, 2, none⟩ (.bool torn))) := S.out.k.then FV.out.2 (fun j hj e => by omega)
      have FS := hid (S.out.f.sg.keep FV.out.2 (fun g hg e => by have := S.out.f.sg.row.ge hg; have := S.out.lo; omega) (fun x hx g hg e => by have := (S.out.f.sg.sg x hx).ge hg; have := S.out.lo; omega))
      have FO := hid (FV.out.2.ownsRow S.out.f.og (fun g hg e => by have := ownsRow_ge S.out.f.og hg; have := S.out.lo; omega))
      have HLO : Hid (w.heap.size ≤ B) := by have := S.out.lo; show _ ≤ _; omega
      clear S
      go_wp2
      (try simp only [Exit.inBlock, Exit.then])
      refine bodyPost_ret (ret_ctw (p := 2) (u := 3) rfl _ _ w.heap.size #[.slice sa l.length sc, .slice ga gs.length gc, .bool torn] (.int .i64 0) rfl rfl (run_loadVar_row _ _ _ _ _ _ _ FV.out.1 Tryz.underlying103 rfl (by kernel_rfl))) rfl ?_
      exact ⟨l, _, _, rfl, rfl, FS.out.base HLO.out, ownsRow_base FO.out HLO.out, FK.out⟩
    obtain ⟨ad9, cap9, e9, hc9⟩ := S.out.n.form
    obtain ⟨bn, offn, had, -, -⟩ := hc9 k hk
    injection e9 with e1 e2 e3
    obtain rfl : adn = some ⟨bn, offn, none⟩ := e1.trans had
    clear e1 e2 e3 had hc9
    obtain ⟨nk, hnk⟩ : ∃ nk, ns[k] = nk := ⟨_, rfl⟩
    obtain ⟨m, hm⟩ : ∃ m, ns.length = m + 1 := ⟨ns.length - 1, by omega⟩
    have hnb := HNS.out nk (hnk ▸ List.getElem_mem hk)
    have HNB := hid hnb
    have HE : Hid (P = fdS rd nk (ns.drop (k + 1)) (l.map Sv.sg) gs torn (rd nk).2 (((tx (rd nk).1).size : Nat) : Int) (rsG (tx (rd nk).1))) := by
      show _ = _
      rw [HP.out, List.drop_eq_getElem_cons hk, hnk, fdL_cons]
    have HRL : Hid ((ns.drop (k + 1)).length = m - k) := by show _ = _; rw [List.length_drop]; omega
    have k0 : (0 : Int) ≤ (k : Int) := by omega
    have k1 : (k : Int) < (ns.length : Int) := by omega
    have c0 : wr.cell? ⟨bn, offn + k, none⟩ = some (.int .i64 nk) := by rw [← hnk]; exact S.out.n.cellN k hk
    have CN : Hid (∀ W l gs torn vs vg, FnS w B w.heap.size (w.heap.size + 1) (.slice (some ⟨bn, offn, none⟩) ns.length capn) ns l gs torn vs vg W → W.cell? ⟨bn, offn + k, none⟩ = some (.int .i64 nk)) := fun W _ _ _ _ _ h => by rw [← hnk]; exact h.n.cellN k hk
    have FOk := hid (fileOf_any nk wr (by omega) (by omega) (HGV.out wr S.out.k))
    have RDk := hid (fun W => RD.out nk W)
    have RSk := hid (fun W => RS.out nk (tx (rd nk).1) W (HSZ.out nk))
    have HOK := hid (rsG_ok (tx (rd nk).1))
    have hmm : (ns.length : Int) - 1 = (m : Int) := by omega
    have hmw : IntKind.i64.wrap (m : Int) = (m : Int) := by have := HNL.out; rw [IntKind.wrap_i64]; omega
    have HKM : Hid (k ≤ m) := by show _ ≤ _; omega
    have HL6 : Hid (gs.length + 1 ≤ 1048576) := by have := HLG.out; have := HNL.out; show _ ≤ _; omega
    have HL7 : Hid ((gs.length + 1) * 8 ≤ 140737488355328) := by have := HLG.out; have := HNL.out; show _ ≤ _; omega
    have HWK : Hid (wrap64 ((k : Int) + 1) = (k : Int) + 1) := by have := HNL.out; show _ = _; rw [IntWalk.wrap64_in _ (by omega)]
    have HM := hid hm
    clear HP RD RS hnb hm
    generalize (rd nk).2 = er at *
    generalize tx (rd nk).1 = T at *
    generalize rsG T = R at *
    obtain ⟨Ris, Re, Rix, Rtm, Res, Rps⟩ := R
    simp only at HOK
    go_wp2_with fail
    refine FOk.out.mono ?_
    rintro e w2 ⟨rfl, b2⟩
    have S2 := hid (S.out.next b2)
    clear FOk S b2 c0
    go_wp2_with fail
    refine (RDk.out _ S2.out.k).mono ?_
    rintro e w3 ⟨rfl, k3⟩
    have S3 := hid (S2.out.next (keep_below k3 (fun _ _ h => h) (Nat.le_refl _)))
    clear RDk S2 k3
    by_cases her : er = 0
    case neg =>
      have hne : (er != 0) = true := by simp [her]
      have HP := HE
      have RD := HE
      have RS := HE
      obtain rfl : P = ⟨[], [], false, er⟩ := HE.out.trans (fdS_er her)
      have d0 := S3.out.r.cellAt (o := 0) rfl
      have d1 := S3.out.r.cellAt (o := 1) rfl
      have d2 := S3.out.r.cellAt (o := 2) rfl
      have f0 : w3.frozen? ⟨w.heap.size, 0, none⟩ = false := S3.out.r.frozen
      have f1 : w3.frozen? ⟨w.heap.size, 1, none⟩ = false := S3.out.r.frozen
      have f2 : w3.frozen? ⟨w.heap.size, 2, none⟩ = false := S3.out.r.frozen
      have FV := hid (three S3.out.r (.slice none 0 0) (.slice none 0 0) (.bool false))
      have FK : Hid (Keep (fun _ => False) w ((((w3).setCell ⟨w.heap.size, 0, none⟩ (.slice none 0 0)).setCell ⟨w.heap.size, 1, none⟩ (.slice none 0 0)).setCell ⟨w.heap.size, 2, none⟩ (.bool false))) := S3.out.k.then FV.out.2 (fun j hj e => by omega)
      clear HP HGV RD RS S3
      go_wp2
      (try simp only [Exit.inBlock, Exit.then])
      refine bodyPost_ret (ret_ctw (p := 2) (u := 3) rfl _ _ w.heap.size #[.slice none 0 0, .slice none 0 0, .bool false] (.int .i64 (er)) rfl rfl (run_loadVar_row _ _ _ _ _ _ _ FV.out.1 Tryz.underlying103 rfl (by kernel_rfl))) rfl ?_
      exact ⟨[], _, _, rfl, rfl, SgsI.nil _ _, ownI_nil _ _, FK.out⟩
    subst her
    have c3 := CN.out _ _ _ _ _ _ S3.out
    go_wp2_with fail
    refine (RSk.out _).mono ?_
    rintro q w4 ⟨ve, vp, rfl, oe, oi, b4⟩
    simp only at oe oi
    have S4 := hid (S3.out.next b4)
    have XA : Hid (∀ a ∈ l, (∀ g, a.ve.ownBlock = some g → ¬ ve.ownBlock = some g) ∧ ∀ g, a.vp.ownBlock = some g → ¬ vp.ownBlock = some g) := fun a ha => ⟨fun g hg hg' => by have := (S3.out.f.sg.sg a ha).lt (.inl hg); have := ownsRow_ge oe hg'; omega, fun g hg hg' => by have := (S3.out.f.sg.sg a ha).lt (.inr hg); have := ownsRow_ge oi hg'; omega⟩
    have XG : Hid (∀ g, vp.ownBlock = some g → ¬ (Value.slice ga gs.length gc).ownBlock = some g) := fun g hg hg' => by have := ownsRow_ge oi hg; have := ownsRow_lt S3.out.f.og hg'; omega
    have X4 : Hid (SvI w4 B ⟨nk, Rix, Rtm, ve, vp, Res, Rps⟩) := ⟨ORow.base (.inl oe) S3.out.hB, ORow.base (.inl oi) S3.out.hB⟩
    clear RSk S3 b4 c3
    generalize hn9 : (if Ris = true then nk else 0) = n9 at *
    unfold sgV
    obtain ⟨ea, ec, rfl⟩ := row_form oe
    obtain ⟨pa, pc, rfl⟩ := row_form oi
    have S5 := hid (S4.out.next (below_al (Below.refl _ _) (.cells #[.int .i64 n9, .int .i64 (Rix : Int), .int .i64 (Rtm : Int), .slice ea Res.length ec, .slice pa Rps.length pc] 126)))
    have X5 := hid (X4.out.next (below_al (Below.refl _ _) (.cells #[.int .i64 n9, .int .i64 (Rix : Int), .int .i64 (Rtm : Int), .slice ea Res.length ec, .slice pa Rps.length pc] 126)))
    have R5 := hid (srow w4 [.int .i64 n9, .int .i64 (Rix : Int), .int .i64 (Rtm : Int), .slice ea Res.length ec, .slice pa Rps.length pc] 126)
    clear oe oi S4 X4
    by_cases hre : Re = 0
    case neg =>
      have hne : (Re != 0) = true := by simp [hre]
      have HP := HE
      have RD := HE
      have RS := HE
      obtain rfl : P = ⟨[], [], false, Re⟩ := HE.out.trans (fdS_e hre)
      have d0 := S5.out.r.cellAt (o := 0) rfl
      have d1 := S5.out.r.cellAt (o := 1) rfl
      have d2 := S5.out.r.cellAt (o := 2) rfl
      have f0 : (w4.alloc (.cells #[.int .i64 n9, .int .i64 (Rix : Int), .int .i64 (Rtm : Int), .slice ea Res.length ec, .slice pa Rps.length pc] 126)).frozen? ⟨w.heap.size, 0, none⟩ = false := S5.out.r.frozen
      have f1 : (w4.alloc (.cells #[.int .i64 n9, .int .i64 (Rix : Int), .int .i64 (Rtm : Int), .slice ea Res.length ec, .slice pa Rps.length pc] 126)).frozen? ⟨w.heap.size, 1, none⟩ = false := S5.out.r.frozen
      have f2 : (w4.alloc (.cells #[.int .i64 n9, .int .i64 (Rix : Int), .int .i64 (Rtm : Int), .slice ea Res.length ec, .slice pa Rps.length pc] 126)).frozen? ⟨w.heap.size, 2, none⟩ = false := S5.out.r.frozen
      have FV := hid (three S5.out.r (.slice none 0 0) (.slice none 0 0) (.bool false))
      have FK : Hid (Keep (fun _ => False) w (((((w4.alloc (.cells #[.int .i64 n9, .int .i64 (Rix : Int), .int .i64 (Rtm : Int), .slice ea Res.length ec, .slice pa Rps.length pc] 126))).setCell ⟨w.heap.size, 0, none⟩ (.slice none 0 0)).setCell ⟨w.heap.size, 1, none⟩ (.slice none 0 0)).setCell ⟨w.heap.size, 2, none⟩ (.bool false))) := S5.out.k.then FV.out.2 (fun j hj e => by omega)
      clear HP HGV RD RS S5
      go_wp2
      (try simp only [Exit.inBlock, Exit.then])
      refine bodyPost_ret (ret_ctw (p := 2) (u := 3) rfl _ _ w.heap.size #[.slice none 0 0, .slice none 0 0, .bool false] (.int .i64 (Re)) rfl rfl (run_loadVar_row _ _ _ _ _ _ _ FV.out.1 Tryz.underlying103 rfl (by kernel_rfl))) rfl ?_
      exact ⟨[], _, _, rfl, rfl, SgsI.nil _ _, ownI_nil _ _, FK.out⟩
    subst hre
    cases Ris with
    | false =>
      by_cases hkm : k < m
      · have g1 : decide ((k : Int) < (m : Int)) = true := decide_eq_true (by omega)
        have g2 : decide (k < m) = true := decide_eq_true hkm
        have HP := HE
        have RD := HE
        have RS := HE
        obtain rfl : P = ⟨[], [], false, 31⟩ := HE.out.trans (fdS_nb1 rfl rfl (by have := HRL.out; omega))
        have d0 := S5.out.r.cellAt (o := 0) rfl
        have d1 := S5.out.r.cellAt (o := 1) rfl
        have d2 := S5.out.r.cellAt (o := 2) rfl
        have f0 : (w4.alloc (.cells #[.int .i64 n9, .int .i64 (Rix : Int), .int .i64 (Rtm : Int), .slice ea Res.length ec, .slice pa Rps.length pc] 126)).frozen? ⟨w.heap.size, 0, none⟩ = false := S5.out.r.frozen
        have f1 : (w4.alloc (.cells #[.int .i64 n9, .int .i64 (Rix : Int), .int .i64 (Rtm : Int), .slice ea Res.length ec, .slice pa Rps.length pc] 126)).frozen? ⟨w.heap.size, 1, none⟩ = false := S5.out.r.frozen
        have f2 : (w4.alloc (.cells #[.int .i64 n9, .int .i64 (Rix : Int), .int .i64 (Rtm : Int), .slice ea Res.length ec, .slice pa Rps.length pc] 126)).frozen? ⟨w.heap.size, 2, none⟩ = false := S5.out.r.frozen
        have FV := hid (three S5.out.r (.slice none 0 0) (.slice none 0 0) (.bool false))
        have FK : Hid (Keep (fun _ => False) w (((((w4.alloc (.cells #[.int .i64 n9, .int .i64 (Rix : Int), .int .i64 (Rtm : Int), .slice ea Res.length ec, .slice pa Rps.length pc] 126))).setCell ⟨w.heap.size, 0, none⟩ (.slice none 0 0)).setCell ⟨w.heap.size, 1, none⟩ (.slice none 0 0)).setCell ⟨w.heap.size, 2, none⟩ (.bool false))) := S5.out.k.then FV.out.2 (fun j hj e => by omega)
        clear HP HGV RD RS S5
        go_wp2
        (try simp only [Exit.inBlock, Exit.then])
        refine bodyPost_ret (ret_ctw (p := 2) (u := 3) rfl _ _ w.heap.size #[.slice none 0 0, .slice none 0 0, .bool false] (.int .i64 (31)) rfl rfl (run_loadVar_row _ _ _ _ _ _ _ FV.out.1 Tryz.underlying103 rfl (by kernel_rfl))) rfl ?_
        exact ⟨[], _, _, rfl, rfl, SgsI.nil _ _, ownI_nil _ _, FK.out⟩
      · have g1 : decide ((k : Int) < (m : Int)) = false := decide_eq_false (by omega)
        have g2 : decide (k < m) = false := decide_eq_false hkm
        have HQ : Hid (P = ⟨l.map Sv.sg, gs ++ [nk], torn, 0⟩) := HE.out.trans (fdS_nb0 rfl rfl (by have := HRL.out; omega))
        clear HE HOK X5 R5 XA XG
        go_wp2_with fail
        generalize w4.alloc (.cells #[.int .i64 n9, .int .i64 (Rix : Int), .int .i64 (Rtm : Int), .slice ea Res.length ec, .slice pa Rps.length pc] 126) = V at *
        have S6 : Hid (FnS w B w.heap.size (w.heap.size + 1) (.slice (some ⟨bn, offn, none⟩) ns.length capn) ns l gs torn (.slice sa l.length sc) (.slice ga gs.length gc) V.drew) := S5.out.next (Below.refl _ _).drew
        have Z60 := CN.out _ _ _ _ _ _ S6.out
        clear S5
        refine wp_region_held_drew (S := fun W => W.cell? ⟨bn, offn + k, none⟩ = some (.int .i64 nk)) (by kernel_rfl) Z60 (fun hHeld => ?_)
        generalize V.drew = u0 at *
        have p0 := S6.out.f.bx.cellAt (o := 1) rfl
        have S7 := hid (S6.out.next (below_al (Below.refl _ _) (.cells #[.int .i64 nk] 3)))
        have p1 := S7.out.f.bx.cellAt (o := 1) rfl
        have Z61 : ((u0.alloc (.cells #[.int .i64 nk] 3)).cell? ⟨bn, offn + k, none⟩ = some (.int .i64 nk)) := CN.out _ _ _ _ _ _ S7.out
        have OG6 : Hid (ORow (u0.alloc (.cells #[.int .i64 nk] 3)) B 3 1 (.slice ga gs.length gc) gs.length (isC gs)) := .inl S7.out.f.og
        have HB6 : Hid (B ≤ (u0.alloc (.cells #[.int .i64 nk] 3)).heap.size) := S7.out.hB
        have HX6 : Hid (RowC (u0.alloc (.cells #[.int .i64 nk] 3)) (.slice (some ⟨u0.heap.size, 0, none⟩) 1 1) 1 [.int .i64 nk]) := RowC.own (own_made u0 [.int .i64 nk] 3 1 1 0 (Nat.zero_le _) rfl (by omega))
        have HO6 : Hid (∀ v ∈ [Value.int .i64 nk], v.oneCell' = true) := fun u hu => by simp at hu; subst hu; rfl
        have FIN : Hid (∀ (ga' : Option Addr) (gc' : Nat) (w9 : World), w9.ownsRow B 3 1 (.slice ga' (gs.length + 1) gc') (gs.length + 1) (isC gs ++ [.int .i64 nk]) → ((Keep (fun _ => False) (u0.alloc (.cells #[.int .i64 nk] 3)) w9 ∧ ∀ g, (Value.slice ga' (gs.length + 1) gc').ownBlock = some g → (u0.alloc (.cells #[.int .i64 nk] 3)).heap.size ≤ g) ∨ (Value.slice ga gs.length gc = .slice ga' gs.length gc' ∧ Keep (fun k => (Value.slice ga gs.length gc).ownBlock = some k) (u0.alloc (.cells #[.int .i64 nk] 3)) w9)) → (w9.cell? ⟨bn, offn + k, none⟩ = some (.int .i64 nk)) ∧ (w9.cell? ⟨w.heap.size + 1, 1, none⟩ = some (.slice ga gs.length gc) ∧ w9.frozen? ⟨w.heap.size + 1, 1, none⟩ = false) ∧ ((w9.setCell ⟨w.heap.size + 1, 1, none⟩ (.slice ga' (gs.length + 1) gc')).cell? ⟨bn, offn + k, none⟩ = some (.int .i64 nk)) ∧ FnS w B w.heap.size (w.heap.size + 1) (.slice (some ⟨bn, offn, none⟩) ns.length capn) ns l (gs ++ [nk]) torn (.slice sa l.length sc) (.slice ga' (gs.length + 1) gc') (w9.setCell ⟨w.heap.size + 1, 1, none⟩ (.slice ga' (gs.length + 1) gc'))) := fun ga' gc' w9 ho hk9 => by
          obtain ⟨hk9, hw9⟩ := keepP hk9
          have h1 := S7.out
          have FG := h1.f.goes ho hk9 hw9
          have b9 := h1.f.bx.keep hk9 (own_ne_row h1.f.og h1.f.bx (by decide))
          have kk : Keep (fun k => k = w.heap.size + 1 ∨ B ≤ k) (u0.alloc (.cells #[.int .i64 nk] 3)) (w9.setCell ⟨w.heap.size + 1, 1, none⟩ (.slice ga' (gs.length + 1) gc')) := (hk9.mono (fun j _ hj => .inr (ownsRow_ge h1.f.og hj))).then (keep_setCell _ _ _ _) (fun j _ hj => .inl hj)
          have SN := h1.on kk FG
          have n9 : IntsI w9 (.slice (some ⟨bn, offn, none⟩) ns.length capn) ns := h1.n.keepS hk9 (fun b hb hl e => by have := h1.nb b hb hl; have := ownsRow_ge h1.f.og e; omega)
          exact ⟨by have h9 := n9.cellN k hk; rw [hnk] at h9; exact h9, ⟨b9.cellAt (o := 1) rfl, b9.frozen⟩, CN.out _ _ _ _ _ _ SN, SN⟩
        clear S6 S7
        refine wpAnyH_take (i := 0) (v := ?vv1) rfl (by kernel_rfl) (by kernel_rfl) (by kernel_rfl) (fun _ _ _ h => h) (Or.inl ⟨by rfl, ?hy1⟩) (by assumption) ?rest1
        case hy1 => (intro w hSw; (try dsimp only at hSw); go_simp; first | done | with_reducible rfl)
        try simp only [Act.put, List.getElem_toArray, List.getElem_cons_succ, List.getElem_cons_zero, List.setIfInBounds_toArray, List.set_cons_zero, List.set_cons_succ]
        refine wpAnyH_take (i := 2) (v := ?vv2) rfl (by kernel_rfl) (by kernel_rfl) (by kernel_rfl) (fun _ _ _ h => h) (Or.inl ⟨by rfl, ?hy2⟩) (by assumption) ?rest2
        case hy2 => (intro w hSw; (try dsimp only at hSw); go_simp; first | done | with_reducible rfl)
        try simp only [Act.put, List.getElem_toArray, List.getElem_cons_succ, List.getElem_cons_zero, List.setIfInBounds_toArray, List.set_cons_zero, List.set_cons_succ]
        refine wpAnyH_take (i := 3) (v := ?vv3) rfl (by kernel_rfl) (by kernel_rfl) (by kernel_rfl) (fun _ _ _ h => h) (Or.inl ⟨by rfl, ?hy3⟩) (by assumption) ?rest3
        case hy3 => (intro w hSw; (try dsimp only at hSw); go_simp; first | done | with_reducible rfl)
        try simp only [Act.put, List.getElem_toArray, List.getElem_cons_succ, List.getElem_cons_zero, List.setIfInBounds_toArray, List.set_cons_zero, List.set_cons_succ]
        refine wpAnyH_take (i := 4) (v := ?vv4) rfl (by kernel_rfl) (by kernel_rfl) (by kernel_rfl) (fun _ _ _ h => h) (Or.inl ⟨by rfl, ?hy4⟩) (by assumption) ?rest4
        case hy4 => (intro w hSw; (try dsimp only at hSw); go_simp; first | done | with_reducible rfl)
        try simp only [Act.put, List.getElem_toArray, List.getElem_cons_succ, List.getElem_cons_zero, List.setIfInBounds_toArray, List.set_cons_zero, List.set_cons_succ]
        refine wpAnyH_take (i := 5) (v := ?vv5) rfl (by kernel_rfl) (by kernel_rfl) (by kernel_rfl) (fun _ _ _ h => h) (Or.inl ⟨by rfl, ?hy5⟩) (by assumption) ?rest5
        case hy5 => (intro w hSw; (try dsimp only at hSw); go_simp; first | done | with_reducible rfl)
        try simp only [Act.put, List.getElem_toArray, List.getElem_cons_succ, List.getElem_cons_zero, List.setIfInBounds_toArray, List.set_cons_zero, List.set_cons_succ]
        refine wpAnyH_ready (rs := [1, 6]) (by kernel_rfl) (by simp) ?_
        refine AllReadyH.cons rfl (fun K hK => ?_) (AllReadyH.cons rfl (fun K hK => ?_) AllReadyH.nil)
        · go_simp
          refine hK.out _ _ Z60 (fun hHeld => ?_)
          clear hK K
          try simp only [Act.put, List.getElem_toArray, List.getElem_cons_succ, List.getElem_cons_zero, List.setIfInBounds_toArray, List.set_cons_zero, List.set_cons_succ]
          refine wpAnyH_ready (rs := [6]) (by kernel_rfl) (by simp) ?_
          refine AllReadyH.cons rfl (fun K hK => ?_) AllReadyH.nil
          go_simp
          refine hK.out _ _ Z61 (fun hHeld => ?_)
          clear hK K
          try simp only [Act.put, List.getElem_toArray, List.getElem_cons_succ, List.getElem_cons_zero, List.setIfInBounds_toArray, List.set_cons_zero, List.set_cons_succ]
          refine wpAnyH_ready (rs := [7]) (by kernel_rfl) (by simp) ?_
          refine AllReadyH.cons rfl (fun K hK => ?_) AllReadyH.nil
          refine step_gappP (by rfl) _ _ elIn (by rfl) B (.slice ga gs.length gc) (.slice (some ⟨u0.heap.size, 0, none⟩) 1 1) (isC gs) [.int .i64 nk] gs.length 1 (gs.length + 1) rfl (by rfl) (by rfl) OG6.out HB6.out HX6.out rfl HO6.out (by omega) HL6.out HL7.out ?_
          intro ga' gc' w9 ho9 hk9
          obtain ⟨Z69, ⟨g69, f69⟩, Z68, S68⟩ := FIN.out _ _ _ ho9 hk9
          have S8 := hid S68
          clear ho9 hk9 FIN S68
          refine hK.out _ _ Z69 (fun hHeld => ?_)
          clear hK K
          try simp only [Act.put, List.getElem_toArray, List.getElem_cons_succ, List.getElem_cons_zero, List.setIfInBounds_toArray, List.set_cons_zero, List.set_cons_succ]
          refine wpAnyH_take (i := 8) (v := ?vv6) rfl (by kernel_rfl) (by kernel_rfl) (by kernel_rfl) (fun _ _ _ h => h) (Or.inl ⟨by rfl, ?hy6⟩) (by assumption) ?rest6
          case hy6 => (intro w hSw; (try dsimp only at hSw); go_simp; first | done | with_reducible rfl)
          try simp only [Act.put, List.getElem_toArray, List.getElem_cons_succ, List.getElem_cons_zero, List.setIfInBounds_toArray, List.set_cons_zero, List.set_cons_succ]
          refine wpAnyH_ready (rs := [9]) (by kernel_rfl) (by simp) ?_
          refine AllReadyH.cons rfl (fun K hK => ?_) AllReadyH.nil
          go_simp
          refine hK.out _ _ Z68 (fun hHeld => ?_)
          clear hK K
          try simp only [Act.put, List.getElem_toArray, List.getElem_cons_succ, List.getElem_cons_zero, List.setIfInBounds_toArray, List.set_cons_zero, List.set_cons_succ]
          refine wpAnyH_done (by kernel_rfl) ?_ _
          generalize hw10 : (w9.setCell ⟨w.heap.size + 1, 1, none⟩ (.slice ga' (gs.length + 1) gc')) = w10 at *
          clear hw10 Z69 g69 f69 Z68 hHeld HO6 HX6 HB6 OG6 Z61 p1 Z60 p0
          obtain rfl : P = ⟨l.map Sv.sg, (gs ++ [nk]), torn, 0⟩ := HQ.out
          have d0 := S8.out.r.cellAt (o := 0) rfl
          have d1 := S8.out.r.cellAt (o := 1) rfl
          have d2 := S8.out.r.cellAt (o := 2) rfl
          have f0 : w10.frozen? ⟨w.heap.size, 0, none⟩ = false := S8.out.r.frozen
          have f1 : w10.frozen? ⟨w.heap.size, 1, none⟩ = false := S8.out.r.frozen
          have f2 : w10.frozen? ⟨w.heap.size, 2, none⟩ = false := S8.out.r.frozen
          have e0 := S8.out.f.bx.cellAt (o := 0) rfl
          have e1 := S8.out.f.bx.cellAt (o := 1) rfl
          have e2 := S8.out.f.bx.cellAt (o := 2) rfl
          have FV := hid (three S8.out.r (.slice sa l.length sc) (.slice ga' (gs.length + 1) gc') (.bool torn))
          have FK : Hid (Keep (fun _ => False) w (((w10.setCell ⟨w.heap.size, 0, none⟩ (.slice sa l.length sc)).setCell ⟨w.heap.size, 1, none⟩ (.slice ga' (gs.length + 1) gc')).setCell ⟨w.heap.size, 2, none⟩ (.bool torn))) := S8.out.k.then FV.out.2 (fun j hj e => by omega)
          have FS := hid (S8.out.f.sg.keep FV.out.2 (fun g hg e => by have := S8.out.f.sg.row.ge hg; have := S8.out.lo; omega) (fun x hx g hg e => by have := (S8.out.f.sg.sg x hx).ge hg; have := S8.out.lo; omega))
          have FO := hid (FV.out.2.ownsRow S8.out.f.og (fun g hg e => by have := ownsRow_ge S8.out.f.og hg; have := S8.out.lo; omega))
          have HLO : Hid (w.heap.size ≤ B) := by have := S8.out.lo; show _ ≤ _; omega
          clear S8
          go_wp2
          (try simp only [Exit.inBlock, Exit.then])
          refine bodyPost_ret (ret_ctw (p := 2) (u := 3) rfl _ _ w.heap.size #[.slice sa l.length sc, .slice ga' (gs.length + 1) gc', .bool torn] (.int .i64 0) rfl rfl (run_loadVar_row _ _ _ _ _ _ _ FV.out.1 Tryz.underlying103 rfl (by kernel_rfl))) rfl ?_
          exact ⟨l, _, _, rfl, rfl, FS.out.base HLO.out, ownsRow_base FO.out HLO.out, FK.out⟩
        · go_simp
          refine hK.out _ _ Z61 (fun hHeld => ?_)
          clear hK K
          try simp only [Act.put, List.getElem_toArray, List.getElem_cons_succ, List.getElem_cons_zero, List.setIfInBounds_toArray, List.set_cons_zero, List.set_cons_succ]
          refine wpAnyH_ready (rs := [1]) (by kernel_rfl) (by simp) ?_
          refine AllReadyH.cons rfl (fun K hK => ?_) AllReadyH.nil
          go_simp
          refine hK.out _ _ Z61 (fun hHeld => ?_)
          clear hK K
          try simp only [Act.put, List.getElem_toArray, List.getElem_cons_succ, List.getElem_cons_zero, List.setIfInBounds_toArray, List.set_cons_zero, List.set_cons_succ]
          refine wpAnyH_ready (rs := [7]) (by kernel_rfl) (by simp) ?_
          refine AllReadyH.cons rfl (fun K hK => ?_) AllReadyH.nil
          refine step_gappP (by rfl) _ _ elIn (by rfl) B (.slice ga gs.length gc) (.slice (some ⟨u0.heap.size, 0, none⟩) 1 1) (isC gs) [.int .i64 nk] gs.length 1 (gs.length + 1) rfl (by rfl) (by rfl) OG6.out HB6.out HX6.out rfl HO6.out (by omega) HL6.out HL7.out ?_
          intro ga' gc' w9 ho9 hk9
          obtain ⟨Z69, ⟨g69, f69⟩, Z68, S68⟩ := FIN.out _ _ _ ho9 hk9
          have S8 := hid S68
          clear ho9 hk9 FIN S68
          refine hK.out _ _ Z69 (fun hHeld => ?_)
          clear hK K
          try simp only [Act.put, List.getElem_toArray, List.getElem_cons_succ, List.getElem_cons_zero, List.setIfInBounds_toArray, List.set_cons_zero, List.set_cons_succ]
          refine wpAnyH_take (i := 8) (v := ?vv7) rfl (by kernel_rfl) (by kernel_rfl) (by kernel_rfl) (fun _ _ _ h => h) (Or.inl ⟨by rfl, ?hy7⟩) (by assumption) ?rest7
          case hy7 => (intro w hSw; (try dsimp only at hSw); go_simp; first | done | with_reducible rfl)
          try simp only [Act.put, List.getElem_toArray, List.getElem_cons_succ, List.getElem_cons_zero, List.setIfInBounds_toArray, List.set_cons_zero, List.set_cons_succ]
          refine wpAnyH_ready (rs := [9]) (by kernel_rfl) (by simp) ?_
          refine AllReadyH.cons rfl (fun K hK => ?_) AllReadyH.nil
          go_simp
          refine hK.out _ _ Z68 (fun hHeld => ?_)
          clear hK K
          try simp only [Act.put, List.getElem_toArray, List.getElem_cons_succ, List.getElem_cons_zero, List.setIfInBounds_toArray, List.set_cons_zero, List.set_cons_succ]
          refine wpAnyH_done (by kernel_rfl) ?_ _
          generalize hw10 : (w9.setCell ⟨w.heap.size + 1, 1, none⟩ (.slice ga' (gs.length + 1) gc')) = w10 at *
          clear hw10 Z69 g69 f69 Z68 hHeld HO6 HX6 HB6 OG6 Z61 p1 Z60 p0
          obtain rfl : P = ⟨l.map Sv.sg, (gs ++ [nk]), torn, 0⟩ := HQ.out
          have d0 := S8.out.r.cellAt (o := 0) rfl
          have d1 := S8.out.r.cellAt (o := 1) rfl
          have d2 := S8.out.r.cellAt (o := 2) rfl
          have f0 : w10.frozen? ⟨w.heap.size, 0, none⟩ = false := S8.out.r.frozen
          have f1 : w10.frozen? ⟨w.heap.size, 1, none⟩ = false := S8.out.r.frozen
          have f2 : w10.frozen? ⟨w.heap.size, 2, none⟩ = false := S8.out.r.frozen
          have e0 := S8.out.f.bx.cellAt (o := 0) rfl
          have e1 := S8.out.f.bx.cellAt (o := 1) rfl
          have e2 := S8.out.f.bx.cellAt (o := 2) rfl
          have FV := hid (three S8.out.r (.slice sa l.length sc) (.slice ga' (gs.length + 1) gc') (.bool torn))
          have FK : Hid (Keep (fun _ => False) w (((w10.setCell ⟨w.heap.size, 0, none⟩ (.slice sa l.length sc)).setCell ⟨w.heap.size, 1, none⟩ (.slice ga' (gs.length + 1) gc')).setCell ⟨w.heap.size, 2, none⟩ (.bool torn))) := S8.out.k.then FV.out.2 (fun j hj e => by omega)
          have FS := hid (S8.out.f.sg.keep FV.out.2 (fun g hg e => by have := S8.out.f.sg.row.ge hg; have := S8.out.lo; omega) (fun x hx g hg e => by have := (S8.out.f.sg.sg x hx).ge hg; have := S8.out.lo; omega))
          have FO := hid (FV.out.2.ownsRow S8.out.f.og (fun g hg e => by have := ownsRow_ge S8.out.f.og hg; have := S8.out.lo; omega))
          have HLO : Hid (w.heap.size ≤ B) := by have := S8.out.lo; show _ ≤ _; omega
          clear S8
          go_wp2
          (try simp only [Exit.inBlock, Exit.then])
          refine bodyPost_ret (ret_ctw (p := 2) (u := 3) rfl _ _ w.heap.size #[.slice sa l.length sc, .slice ga' (gs.length + 1) gc', .bool torn] (.int .i64 0) rfl rfl (run_loadVar_row _ _ _ _ _ _ _ FV.out.1 Tryz.underlying103 rfl (by kernel_rfl))) rfl ?_
          exact ⟨l, _, _, rfl, rfl, FS.out.base HLO.out, ownsRow_base FO.out HLO.out, FK.out⟩
    | true =>
      obtain rfl : nk = n9 := by rw [← hn9]; simp
      have hok := HOK.out rfl rfl
      have HOKB := hid hok
      have hpl : 0 < Rps.length := by omega
      have hpm : Rps.length ≤ 1048576 := by omega
      obtain ⟨z, hzz⟩ : ∃ z, Rps.getLastD 0 = z := ⟨_, rfl⟩
      have HZZ := hid hzz
      have SZ : Hid (∀ W, SvI W B ⟨nk, Rix, Rtm, .slice ea Res.length ec, .slice pa Rps.length pc, Res, Rps⟩ → Calls Tryz.prog 105 #[.agg #[.int .i64 nk, .int .i64 (Rix : Int), .int .i64 (Rtm : Int), .slice ea Res.length ec, .slice pa Rps.length pc]] W fun e w' => e = .returned (.int .i64 z) ∧ Below W.heap.size W w') := fun W hX => by rw [← hzz]; exact sgsize_any nk Rix Rtm _ _ Rps W hX.oi.ints hpl hpm
      have x0 := R5.out.cellAt (o := 0) rfl
      have x1 := R5.out.cellAt (o := 1) rfl
      have x2 := R5.out.cellAt (o := 2) rfl
      have x3 := R5.out.cellAt (o := 3) rfl
      have x4 := R5.out.cellAt (o := 4) rfl
      clear hok HOK hpl hpm hn9 hzz
      go_wp2_with fail
      refine (SZ.out _ X5.out).mono ?_
      rintro e w5 ⟨rfl, b5⟩
      have S6 := hid (S5.out.next b5)
      have X6 := hid (X5.out.next b5)
      have R6 : Hid (RowIs w5 w4.heap.size [.int .i64 nk, .int .i64 (Rix : Int), .int .i64 (Rtm : Int), .slice ea Res.length ec, .slice pa Rps.length pc] 126) := R5.out.keep (b5.keep (fun _ => False)) (fun h => h)
      clear SZ S5 X5 R5 b5 x0 x1 x2 x3 x4
      by_cases hz : z < ((T.size : Nat) : Int)
      · have z1 : decide (z < ((T.size : Nat) : Int)) = true := decide_eq_true hz
        have HZ2 : Hid (Rps.getLastD 0 < ((T.size : Nat) : Int)) := by show _ < _; rw [HZZ.out]; exact hz
        by_cases hkm : k < m
        · have g1 : decide ((k : Int) < (m : Int)) = true := decide_eq_true (by omega)
          have g2 : decide (k < m) = true := decide_eq_true hkm
          have HP := HE
          have RD := HE
          have RS := HE
          obtain rfl : P = ⟨[], [], false, 31⟩ := HE.out.trans (fdS_t rfl rfl HZ2.out (by have := HRL.out; omega))
          have d0 := S6.out.r.cellAt (o := 0) rfl
          have d1 := S6.out.r.cellAt (o := 1) rfl
          have d2 := S6.out.r.cellAt (o := 2) rfl
          have f0 : w5.frozen? ⟨w.heap.size, 0, none⟩ = false := S6.out.r.frozen
          have f1 : w5.frozen? ⟨w.heap.size, 1, none⟩ = false := S6.out.r.frozen
          have f2 : w5.frozen? ⟨w.heap.size, 2, none⟩ = false := S6.out.r.frozen
          have FV := hid (three S6.out.r (.slice none 0 0) (.slice none 0 0) (.bool false))
          have FK : Hid (Keep (fun _ => False) w ((((w5).setCell ⟨w.heap.size, 0, none⟩ (.slice none 0 0)).setCell ⟨w.heap.size, 1, none⟩ (.slice none 0 0)).setCell ⟨w.heap.size, 2, none⟩ (.bool false))) := S6.out.k.then FV.out.2 (fun j hj e => by omega)
          clear HP HGV RD RS S6
          go_wp2
          (try simp only [Exit.inBlock, Exit.then])
          refine bodyPost_ret (ret_ctw (p := 2) (u := 3) rfl _ _ w.heap.size #[.slice none 0 0, .slice none 0 0, .bool false] (.int .i64 (31)) rfl rfl (run_loadVar_row _ _ _ _ _ _ _ FV.out.1 Tryz.underlying103 rfl (by kernel_rfl))) rfl ?_
          exact ⟨[], _, _, rfl, rfl, SgsI.nil _ _, ownI_nil _ _, FK.out⟩
        · have g1 : decide ((k : Int) < (m : Int)) = false := decide_eq_false (by omega)
          have g2 : decide (k < m) = false := decide_eq_false hkm
          have HQ := hid (HE.out.trans (fdS_go rfl rfl (by have := HRL.out; simp only; omega)))
          have HQ0 := HQ.out
          simp only at HQ0
          rw [HZZ.out, z1] at HQ0
          have HN : Hid (P = fdL rd (ns.drop (k + 1)) ((tkS l ⟨nk, Rix, Rtm, .slice ea Res.length ec, .slice pa Rps.length pc, Res, Rps⟩).map Sv.sg) (tkG l gs ⟨nk, Rix, Rtm, .slice ea Res.length ec, .slice pa Rps.length pc, Res, Rps⟩) true) := by show _ = _; rw [tk_sg]; exact HQ0
          have TK := hid (ftake_any S6.out.f ⟨nk, Rix, Rtm, .slice ea Res.length ec, .slice pa Rps.length pc, Res, Rps⟩ X6.out S6.out.hB S6.out.lo.2.2 (by have := HLG.out; have := HNL.out; omega) (by have := HLG.out; have := HNL.out; omega) XA.out XG.out (fun y hy => by have := HSB.out y hy; unfold SvB at this; omega))
          have x0 := R6.out.cellAt (o := 0) rfl
          have x1 := R6.out.cellAt (o := 1) rfl
          have x2 := R6.out.cellAt (o := 2) rfl
          have x3 := R6.out.cellAt (o := 3) rfl
          have x4 := R6.out.cellAt (o := 4) rfl
          have HB2 : Hid (∀ y ∈ tkS l ⟨nk, Rix, Rtm, .slice ea Res.length ec, .slice pa Rps.length pc, Res, Rps⟩, SvB y) := fun y hy => by
            rcases tk_mem hy with hy | rfl
            · exact HSB.out y hy
            · have h1 := HOKB.out; have h2 := HNB.out; unfold SvB; simp only; omega
          have HLN : Hid ((tkG l gs ⟨nk, Rix, Rtm, .slice ea Res.length ec, .slice pa Rps.length pc, Res, Rps⟩).length + (tkS l ⟨nk, Rix, Rtm, .slice ea Res.length ec, .slice pa Rps.length pc, Res, Rps⟩).length ≤ k + 1) := by have h1 := tk_len l gs ⟨nk, Rix, Rtm, .slice ea Res.length ec, .slice pa Rps.length pc, Res, Rps⟩; have h2 := HLG.out; show _ ≤ _; omega
          clear HQ0 HE HQ X6 R6 XA XG HOKB HSB
          generalize tkS l ⟨nk, Rix, Rtm, .slice ea Res.length ec, .slice pa Rps.length pc, Res, Rps⟩ = l2 at *
          generalize tkG l gs ⟨nk, Rix, Rtm, .slice ea Res.length ec, .slice pa Rps.length pc, Res, Rps⟩ = g2 at *
          unfold sgV at TK
          go_wp2_with fail
          refine TK.out.mono ?_
          rintro e w6 ⟨rfl, ⟨vs2, vg2, hF⟩, k6⟩
          have S7 := hid (S6.out.on k6 hF)
          have f2 : w6.frozen? ⟨w.heap.size + 1, 2, none⟩ = false := hF.bx.frozen
          have e2 := hF.bx.cellAt (o := 2) rfl
          have S8 : Hid (FnS w B w.heap.size (w.heap.size + 1) (.slice (some ⟨bn, offn, none⟩) ns.length capn) ns l2 g2 true vs2 vg2 (w6.setCell ⟨w.heap.size + 1, 2, none⟩ (.bool true))) := S7.out.on ((keep_setCell _ _ _ _).mono (fun j _ hj => .inl hj)) (hF.tear true)
          clear TK S6 S7 hF k6 x0 x1 x2 x3 x4 z1 hz hmm hmw k1
          have hwk := HWK.out
          go_wp2
          exact ⟨⟨k + 1, by rw [hwk]; go_num, l2, g2, true, vs2, vg2, hk, HLN.out, HB2.out, HN.out, S8.out⟩, by rw [hwk]; exact meas _ _ hk⟩
      · have z1 : decide (z < ((T.size : Nat) : Int)) = false := decide_eq_false hz
        have HQ := hid (HE.out.trans (fdS_go rfl rfl (fun h => hz (by rw [← HZZ.out]; exact h.1))))
        have HQ0 := HQ.out
        simp only at HQ0
        rw [HZZ.out, z1] at HQ0
        have HN : Hid (P = fdL rd (ns.drop (k + 1)) ((tkS l ⟨nk, Rix, Rtm, .slice ea Res.length ec, .slice pa Rps.length pc, Res, Rps⟩).map Sv.sg) (tkG l gs ⟨nk, Rix, Rtm, .slice ea Res.length ec, .slice pa Rps.length pc, Res, Rps⟩) false) := by show _ = _; rw [tk_sg]; exact HQ0
        have TK := hid (ftake_any S6.out.f ⟨nk, Rix, Rtm, .slice ea Res.length ec, .slice pa Rps.length pc, Res, Rps⟩ X6.out S6.out.hB S6.out.lo.2.2 (by have := HLG.out; have := HNL.out; omega) (by have := HLG.out; have := HNL.out; omega) XA.out XG.out (fun y hy => by have := HSB.out y hy; unfold SvB at this; omega))
        have x0 := R6.out.cellAt (o := 0) rfl
        have x1 := R6.out.cellAt (o := 1) rfl
        have x2 := R6.out.cellAt (o := 2) rfl
        have x3 := R6.out.cellAt (o := 3) rfl
        have x4 := R6.out.cellAt (o := 4) rfl
        have HB2 : Hid (∀ y ∈ tkS l ⟨nk, Rix, Rtm, .slice ea Res.length ec, .slice pa Rps.length pc, Res, Rps⟩, SvB y) := fun y hy => by
          rcases tk_mem hy with hy | rfl
          · exact HSB.out y hy
          · have h1 := HOKB.out; have h2 := HNB.out; unfold SvB; simp only; omega
        have HLN : Hid ((tkG l gs ⟨nk, Rix, Rtm, .slice ea Res.length ec, .slice pa Rps.length pc, Res, Rps⟩).length + (tkS l ⟨nk, Rix, Rtm, .slice ea Res.length ec, .slice pa Rps.length pc, Res, Rps⟩).length ≤ k + 1) := by have h1 := tk_len l gs ⟨nk, Rix, Rtm, .slice ea Res.length ec, .slice pa Rps.length pc, Res, Rps⟩; have h2 := HLG.out; show _ ≤ _; omega
        clear HQ0 HE HQ X6 R6 XA XG HOKB HSB
        generalize tkS l ⟨nk, Rix, Rtm, .slice ea Res.length ec, .slice pa Rps.length pc, Res, Rps⟩ = l2 at *
        generalize tkG l gs ⟨nk, Rix, Rtm, .slice ea Res.length ec, .slice pa Rps.length pc, Res, Rps⟩ = g2 at *
        unfold sgV at TK
        go_wp2_with fail
        refine TK.out.mono ?_
        rintro e w6 ⟨rfl, ⟨vs2, vg2, hF⟩, k6⟩
        have S7 := hid (S6.out.on k6 hF)
        have f2 : w6.frozen? ⟨w.heap.size + 1, 2, none⟩ = false := hF.bx.frozen
        have e2 := hF.bx.cellAt (o := 2) rfl
        have S8 : Hid (FnS w B w.heap.size (w.heap.size + 1) (.slice (some ⟨bn, offn, none⟩) ns.length capn) ns l2 g2 false vs2 vg2 (w6.setCell ⟨w.heap.size + 1, 2, none⟩ (.bool false))) := S7.out.on ((keep_setCell _ _ _ _).mono (fun j _ hj => .inl hj)) (hF.tear false)
        clear TK S6 S7 hF k6 x0 x1 x2 x3 x4 z1 hz hmm hmw k1
        have hwk := HWK.out
        go_wp2
        exact ⟨⟨k + 1, by rw [hwk]; go_num, l2, g2, false, vs2, vg2, hk, HLN.out, HB2.out, HN.out, S8.out⟩, by rw [hwk]; exact meas _ _ hk⟩
end Go.Proofs.YtefbioainibmaaaGreatDoor
namespace Go.Proofs.YtefbioainibmaaaGreatDoor
open Go.RowKit Go.Maps
set_option linter.unusedVariables false
set_option linter.unusedSimpArgs false

/-- an entry's bytes in a file; entries' -/
def enX (x : En) : Bs := enB x.tm.toNat x.kd.toNat x.da
def txW (q : List En) : Bs := q.flatMap enX
/-- the places behind entries that are laid from a place on -/
def psX (a : Int) : List En → List Int
  | [] => []
  | x :: r => (a + (enX x).length) :: psX (a + (enX x).length) r
def Sg.wt (g : Sg) (q : List En) : Sg := { g with es := g.es ++ q, ps := g.ps ++ psX g.sz q }
theorem txW_snoc (q : List En) (x : En) : txW (q ++ [x]) = txW q ++ enX x := by simp [txW]
theorem psX_snoc : ∀ (q : List En) (a : Int) (x : En), psX a (q ++ [x]) = psX a q ++ [a + (txW q).length + (enX x).length]
  | [], a, x => by simp [psX, txW]
  | y :: r, a, x => by
    show (a + (enX y).length) :: psX (a + (enX y).length) (r ++ [x]) = _
    rw [psX_snoc r]
    simp [psX, txW]
    omega
theorem lastD_app : ∀ (ps l : List Int) (d : Int), (ps ++ l).getLastD d = l.getLastD (ps.getLastD d)
  | [], l, d => rfl
  | a :: r, l, d => by
    rw [List.cons_append, List.getLastD_cons, List.getLastD_cons]
    exact lastD_app r l a
theorem psX_lastD : ∀ (q : List En) (a : Int), (psX a q).getLastD a = a + (txW q).length
  | [], a => by simp [psX, txW]
  | x :: r, a => by
    show ((a + (enX x).length) :: psX (a + (enX x).length) r).getLastD a = _
    rw [List.getLastD_cons, psX_lastD r]
    simp [txW]
    omega
theorem psX_len : ∀ (q : List En) (a : Int), (psX a q).length = q.length
  | [], a => rfl
  | x :: r, a => by
    show ((a + (enX x).length) :: psX (a + (enX x).length) r).length = _
    rw [List.length_cons, psX_len r]; rfl
theorem enX_len (x : En) (h : enOk x) : (enX x).length ≤ 65580 := by
  unfold enX enB
  rw [frm_len, List.length_append, List.length_append, ptx_len]
  have h1 := (put_len x.tm.toNat).2
  have h2 := (put_len x.kd.toNat).2
  have h3 := (put_len x.da.size).2
  have := h.2.2.2.2
  omega
theorem txW_len : ∀ (q : List En), (∀ x ∈ q, enOk x) → (txW q).length ≤ q.length * 65580
  | [], _ => by simp [txW]
  | x :: r, h => by
    show (enX x ++ txW r).length ≤ _
    have h1 := enX_len x (h x (by simp))
    have h2 := txW_len r (fun y hy => h y (by simp [hy]))
    rw [List.length_append, List.length_cons]
    omega
theorem EntI.keepS {S : Nat → Prop} {w w' : World} {v : Value} {l : List En} (h : EntI w v l) (k : Keep S w w') (hS : ∀ b, v.ownBlock = some b → l ≠ [] → ¬ S b) : EntI w' v l := by
  rcases h with h | ⟨b, off, cap, rfl, hb, hc⟩
  · exact .inl h
  · refine .inr ⟨b, off, cap, rfl, Nat.lt_of_lt_of_le hb k.size, fun j hj i hi => ?_⟩
    rw [k.cell hb (hS b rfl (fun e => by subst e; simp at hj))]
    exact hc j hj i hi
/-- a row that grows, and the one from which it came -/
theorem row_app {W w9 : World} {B t k n n0 lo m : Nat} {v0 v : Value} {xs0 ys cs : List Value} (h0 : ORow W B t k v0 n0 xs0) (hn : n0 ≤ n) (hl : (∃ ad cap, v0 = .slice ad n0 cap ∧ v = .slice ad n cap) ∨ ∀ g, v.ownBlock = some g → lo ≤ g) (hlt : ∀ g, v0.ownBlock = some g → g < lo) (hlo : lo ≤ W.heap.size) {ad' : Option Addr} {cap' : Nat}
    (ho : w9.ownsRow B t k (.slice ad' (n + m) cap') (n + m) ((xs0 ++ ys) ++ cs)) (hk9 : (Keep (fun _ => False) W w9 ∧ ∀ g, (Value.slice ad' (n + m) cap').ownBlock = some g → W.heap.size ≤ g) ∨ (v = .slice ad' n cap' ∧ Keep (fun k => v.ownBlock = some k) W w9)) :
    ORow w9 B t k v0 n0 xs0 ∧ ((∃ ad cap, v0 = .slice ad n0 cap ∧ Value.slice ad' (n + m) cap' = .slice ad (n + m) cap) ∨ ∀ g, (Value.slice ad' (n + m) cap').ownBlock = some g → lo ≤ g) ∧ Keep (fun j => v0.ownBlock = some j ∨ lo ≤ j) W w9 := by
  rcases hk9 with ⟨k1, k2⟩ | ⟨hv, k1⟩
  · exact ⟨h0.keep k1 (fun _ _ h => h), .inr (fun g hg => Nat.le_trans hlo (k2 g hg)), k1.mono (fun _ _ h => h.elim)⟩
  · rcases hl with ⟨ad, cap, e0, e1⟩ | hl
    · rw [hv] at e1
      injection e1 with e2 e3 e4
      subst e2 e4
      refine ⟨?_, .inl ⟨ad', cap', e0, rfl⟩, k1.mono (fun j _ hj => .inl ?_)⟩
      · rw [e0]
        rw [List.append_assoc] at ho
        exact .inl (own_prefix ho h0.len (by omega))
      · rw [e0]
        rw [hv] at hj
        cases ad' with
        | none => cases hj
        | some a => exact hj
    · refine ⟨h0.keep k1 (fun g hg e => by have := hlt g hg; have := hl g e; omega), .inr (fun g hg => hl g ?_), k1.mono (fun j _ hj => .inr (hl j hj))⟩
      rw [hv]
      cases ad' with
      | none => cases hg
      | some a => exact hg
/-- the memory of the loop: so many entries, so many places were laid -/
structure WtS (w : World) (B : Nat) (x0 : Sv) (qv : Value) (q : List En) (ke kp : Nat) (ve vp : Value) (W : World) : Prop where
  rs : RowIs W (w.heap.size + 1) [.int .i64 0, .int .i64 0, .int .i64 0, .slice none 0 0, .slice none 0 0] 126
  bx : RowIs W w.heap.size (sgC x0.n x0.ix x0.tm ve vp) 126
  oe : ORow W B 68 3 ve (x0.es.length + ke) (ensC x0.es ++ ensC (q.take ke))
  oi : ORow W B 3 1 vp (x0.ps.length + kp) (isC x0.ps ++ isC (psX x0.sg.sz (q.take kp)))
  se : SvI W B x0
  lo : ∀ g, x0.ve.ownBlock = some g ∨ x0.vp.ownBlock = some g → g < w.heap.size
  le : (∃ ad cap, x0.ve = .slice ad x0.es.length cap ∧ ve = .slice ad (x0.es.length + ke) cap) ∨ ∀ g, ve.ownBlock = some g → w.heap.size ≤ g
  lp : (∃ ad cap, x0.vp = .slice ad x0.ps.length cap ∧ vp = .slice ad (x0.ps.length + kp) cap) ∨ ∀ g, vp.ownBlock = some g → w.heap.size ≤ g
  kp : Keep (fun k => x0.ve.ownBlock = some k ∨ x0.vp.ownBlock = some k) w W
  en : EntI W qv q
  nq : ∀ b, qv.ownBlock = some b → q ≠ [] → b < w.heap.size ∧ ¬ x0.ve.ownBlock = some b ∧ ¬ x0.vp.ownBlock = some b
  hB : B ≤ w.heap.size
section
variable {w W w9 : World} {B ke kp : Nat} {x0 : Sv} {qv ve vp : Value} {q : List En}
theorem WtS.next (h : WtS w B x0 qv q ke kp ve vp W) (b : Below W.heap.size W w9) : WtS w B x0 qv q ke kp ve vp w9 :=
  have k := b.keep (fun _ => False)
  ⟨h.rs.keep k (fun h => h), h.bx.keep k (fun h => h), h.oe.next b, h.oi.next b, h.se.next b, h.lo, h.le, h.lp, h.kp.trans (b.keep _), h.en.next b, h.nq, h.hB⟩
theorem WtS.sz (h : WtS w B x0 qv q ke kp ve vp W) : w.heap.size + 1 < W.heap.size := h.rs.lt
theorem SvI.not_box (h : SvI W B x0) {g : Nat} {cs : List Value} (r : RowIs W g cs 126) : ∀ j, x0.ve.ownBlock = some j ∨ x0.vp.ownBlock = some j → ¬ j = g := fun j hj => by
  rcases hj with hj | hj
  · exact h.oe.not_row r (by decide) j hj
  · exact h.oi.not_row r (by decide) j hj
/-- an entry more -/
theorem WtS.appE (h : WtS w B x0 qv q ke kp ve vp W) (x : En) (hx : q[ke]? = some x) {ad' : Option Addr} {cap' : Nat}
    (ho : w9.ownsRow B 68 3 (.slice ad' (x0.es.length + ke + 1) cap') (x0.es.length + ke + 1) ((ensC x0.es ++ ensC (q.take ke)) ++ enC x)) (hk9 : (Keep (fun _ => False) W w9 ∧ ∀ g, (Value.slice ad' (x0.es.length + ke + 1) cap').ownBlock = some g → W.heap.size ≤ g) ∨ (ve = .slice ad' (x0.es.length + ke) cap' ∧ Keep (fun k => ve.ownBlock = some k) W w9)) :
    (w9.cell? ⟨w.heap.size, 3, none⟩ = some ve ∧ w9.frozen? ⟨w.heap.size, 3, none⟩ = false) ∧ EntI w9 qv q ∧ WtS w B x0 qv q (ke + 1) kp (.slice ad' (x0.es.length + ke + 1) cap') vp (w9.setCell ⟨w.heap.size, 3, none⟩ (.slice ad' (x0.es.length + ke + 1) cap')) := by
  have hs := h.sz
  obtain ⟨r1, r2, r3⟩ := row_app h.se.oe (by omega) h.le (fun g hg => h.lo g (.inl hg)) (by omega) ho hk9
  obtain ⟨k9, -⟩ := keepP hk9
  have b9 := h.bx.keep k9 (h.oe.ne_row h.bx (by decide))
  have c9 := h.rs.keep k9 (h.oe.ne_row h.rs (by decide))
  have i9 := h.oi.keep k9 (fun g hg e => h.oi.apart h.oe (by decide) hg e)
  have s9 : SvI w9 B x0 := ⟨r1, h.se.oi.keep k9 (fun g hg e => h.se.oi.apart h.oe (by decide) hg e)⟩
  have e9 : EntI w9 qv q := h.en.keepS r3 (fun b hb hq e => by have := h.nq b hb hq; rcases e with e | e; exact this.2.1 e; omega)
  have kS := keep_setCell w9 w.heap.size 3 (.slice ad' (x0.es.length + ke + 1) cap')
  have htk : q.take (ke + 1) = q.take ke ++ [x] := by
    obtain ⟨hlt, hge⟩ := List.getElem?_eq_some_iff.1 hx
    rw [List.take_succ_eq_append_getElem hlt, hge]
  refine ⟨⟨b9.cellAt (o := 3) rfl, b9.frozen⟩, e9, c9.keep kS (by omega), b9.set 3 _, ?_, i9.keep kS (i9.not_row b9 (by decide)), s9.keep kS (s9.not_box b9), h.lo, r2, h.lp, ?_, e9.keepS kS (fun b hb hq e => by have := h.nq b hb hq; omega), h.nq, h.hB⟩
  · have ho2 : ORow w9 B 68 3 (.slice ad' (x0.es.length + ke + 1) cap') (x0.es.length + (ke + 1)) (ensC x0.es ++ ensC (q.take (ke + 1))) := by
      rw [htk, ensC_snoc, ← List.append_assoc]
      exact .inl ho
    exact ho2.keep kS (ho2.not_row b9 (by decide))
  · exact (h.kp.then r3 (fun j hj e => by rcases e with e | e; exact .inl e; omega)).then kS (fun j hj e => by omega)
/-- a place more -/
theorem WtS.appI (h : WtS w B x0 qv q ke kp ve vp W) (x : En) (hx : q[kp]? = some x) (z : Int) (hz : z = x0.sg.sz + (txW (q.take kp)).length + (enX x).length) {ad' : Option Addr} {cap' : Nat}
    (ho : w9.ownsRow B 3 1 (.slice ad' (x0.ps.length + kp + 1) cap') (x0.ps.length + kp + 1) ((isC x0.ps ++ isC (psX x0.sg.sz (q.take kp))) ++ [.int .i64 z])) (hk9 : (Keep (fun _ => False) W w9 ∧ ∀ g, (Value.slice ad' (x0.ps.length + kp + 1) cap').ownBlock = some g → W.heap.size ≤ g) ∨ (vp = .slice ad' (x0.ps.length + kp) cap' ∧ Keep (fun k => vp.ownBlock = some k) W w9)) :
    (w9.cell? ⟨w.heap.size, 4, none⟩ = some vp ∧ w9.frozen? ⟨w.heap.size, 4, none⟩ = false) ∧ WtS w B x0 qv q ke (kp + 1) ve (.slice ad' (x0.ps.length + kp + 1) cap') (w9.setCell ⟨w.heap.size, 4, none⟩ (.slice ad' (x0.ps.length + kp + 1) cap')) := by
  have hs := h.sz
  obtain ⟨r1, r2, r3⟩ := row_app h.se.oi (by omega) h.lp (fun g hg => h.lo g (.inr hg)) (by omega) ho hk9
  obtain ⟨k9, -⟩ := keepP hk9
  have b9 := h.bx.keep k9 (h.oi.ne_row h.bx (by decide))
  have c9 := h.rs.keep k9 (h.oi.ne_row h.rs (by decide))
  have i9 := h.oe.keep k9 (fun g hg e => h.oe.apart h.oi (by decide) hg e)
  have s9 : SvI w9 B x0 := ⟨h.se.oe.keep k9 (fun g hg e => h.se.oe.apart h.oi (by decide) hg e), r1⟩
  have e9 : EntI w9 qv q := h.en.keepS r3 (fun b hb hq e => by have := h.nq b hb hq; rcases e with e | e; exact this.2.2 e; omega)
  have kS := keep_setCell w9 w.heap.size 4 (.slice ad' (x0.ps.length + kp + 1) cap')
  have htk : q.take (kp + 1) = q.take kp ++ [x] := by
    obtain ⟨hlt, hge⟩ := List.getElem?_eq_some_iff.1 hx
    rw [List.take_succ_eq_append_getElem hlt, hge]
  refine ⟨⟨b9.cellAt (o := 4) rfl, b9.frozen⟩, c9.keep kS (by omega), b9.set 4 _, i9.keep kS (i9.not_row b9 (by decide)), ?_, s9.keep kS (s9.not_box b9), h.lo, h.le, r2, ?_, e9.keepS kS (fun b hb hq e => by have := h.nq b hb hq; omega), h.nq, h.hB⟩
  · have ho2 : ORow w9 B 3 1 (.slice ad' (x0.ps.length + kp + 1) cap') (x0.ps.length + (kp + 1)) (isC x0.ps ++ isC (psX x0.sg.sz (q.take (kp + 1)))) := by
      rw [htk, psX_snoc, ← hz, show isC (psX x0.sg.sz (q.take kp) ++ [z]) = isC (psX x0.sg.sz (q.take kp)) ++ [.int .i64 z] by simp [isC], ← List.append_assoc]
      exact .inl ho
    exact ho2.keep kS (ho2.not_row b9 (by decide))
  · exact (h.kp.then r3 (fun j hj e => by rcases e with e | e; exact .inr e; omega)).then kS (fun j hj e => by omega)
end
end Go.Proofs.YtefbioainibmaaaGreatDoor
