/- Joined: Parts are put together: the program's Join. The small run of layer 14: awake answers true. A part is put among others: the document's Put. All ids of parts: both sides. -/
import Derived.Test.YtbiapepalkdkdabPjC
import Derived.Test.YtbiapepalkdkdabVrM
import Derived.Test.YtbiapepalkdkdabJoined03
import Derived.Test.YtbiapepalkdkdabJoined07
import Derived.Test.YtbiapepalkdkdabJoined01
namespace Go.Proofs.Ytbiapepalkdkdab
open Go.RowKit Go.Maps
set_option linter.unusedVariables false
set_option linter.unusedSimpArgs false

/-- the whole of it -/
def tjW (l : List Pt) (ks : List Pk) : Vn := if tjE l ks = 0 then ⟨0, false, szT (pkL l ks), dgT (sumT (pkL l ks)), psT (pkL l ks)⟩ else vnz
theorem pq_pti {w W : World} {v : Value} {q : List (Value × Pt)} {ks : List Pk} (hv : PtI w v q) (hW : Below w.heap.size w W) {B : Nat} {u : Value} (hu : W.ownsRow B 25 4 u (pqL q ks).length (tqC (pqL q ks))) : PtI W u (pqL q ks) :=
  ⟨RowC.own hu, fun y hy => (hv.2 y (pqL_mem hy)).next hW⟩
set_option maxRecDepth 100000 in
set_option maxHeartbeats 4000000 in
theorem join_any (v : Value) (q : List (Value × Pt)) (u : Value) (ks : List Pk) (w : World) (hv : PtI w v q) (hu : PkI w u ks) (hl : q.length ≤ 8796093022208) (hk : ks.length ≤ 8796093022208) : Calls Try.prog 19 #[v, u] w (GiveJ w (tjW (tqL q) ks) (tjE (tqL q) ks)) := by
  obtain ⟨ad, cap, rfl, hc⟩ := hv.form
  obtain ⟨au, cu, rfl, hcu⟩ := hu.form
  clear hc hcu
  have BM := hid (Bx.made (Below.refl w.heap.size w) [.int .i64 0, .bool false, .int .i64 0, .string ⟨#[]⟩, .slice none 0 0] 47)
  have IT := hid (areParts_any _ q _ (hv.next BM.out.b) hl)
  have RS : Hid (∀ W, Below w.heap.size w W → Calls Try.prog 42 #[.slice au ks.length cu] W fun e w' => e = .returned (.bool (riseK ks)) ∧ Below W.heap.size W w') := fun W hW => prise_any _ ks W (hu.next hW) hk
  have PK : Hid (arePt (tqL q) = true → riseK ks = true → ∀ W, Below w.heap.size w W → Calls Try.prog 43 #[.slice ad q.length cap, .slice au ks.length cu] W (GiveP4 W (pqR q ks) (pqE q ks))) := fun h1 h2 W hW => pick_any _ q _ ks W (hv.next hW) (hu.next hW) h1 h2
  have HE : Hid (tjE (tqL q) ks = if (arePt (tqL q) && !ks.isEmpty && riseK ks) = true then (if pkAll (tqL q) ks = true then (if smT (pkL (tqL q) ks).dropLast = true then 141 else if loT (pkL (tqL q) ks) = true then 2 else 0) else 140) else 1) := rfl
  have HV : Hid (tjW (tqL q) ks = if tjE (tqL q) ks = 0 then ⟨0, false, szT (pkL (tqL q) ks), dgT (sumT (pkL (tqL q) ks)), psT (pkL (tqL q) ks)⟩ else vnz) := rfl
  have HPR : Hid (pqE q ks = (if pkAll (tqL q) ks = true then 0 else 140) ∧ pqR q ks = (if pkAll (tqL q) ks = true then pqL q ks else [])) := ⟨rfl, rfl⟩
  have HQL : Hid (tqL (pqL q ks) = pkL (tqL q) ks) := pqL_eq q ks
  have HQN : Hid (arePt (tqL q) = true → riseK ks = true → pkAll (tqL q) ks = true → (pqL q ks).length = ks.length ∧ ks.length ≤ 100 ∧ ∀ y ∈ pqL q ks, ptOk y.2 = true) := fun h1 h2 h3 => ⟨pqL_len h3, pk_len h1 (riseK_pw h2) h3, fun y hy => arePt_all h1 _ (tq_mem (pqL_mem hy))⟩
  have HPT : Hid (∀ W u', Below w.heap.size w W → W.ownsRow w.heap.size 25 4 u' (pqL q ks).length (tqC (pqL q ks)) → PtI W u' (pqL q ks)) := fun W u' hW ho => pq_pti hv hW ho
  have NIL : Hid (∀ (E : Int) (W : World), Bx w w.heap.size [.int .i64 0, .bool false, .int .i64 0, .string ⟨#[]⟩, .slice none 0 0] 47 W → GiveJ w vnz E (.returned (.tuple #[.agg #[.int .i64 0, .bool false, .int .i64 0, .string ⟨#[]⟩, .slice none 0 0], .int .i64 E])) W) := fun E W h => ⟨none, 0, rfl, pci_none _, h.b⟩
  have HIE : Hid (ks.isEmpty = decide (ks.length = 0)) := by show _ = _; cases ks <;> simp
  have HMT : Hid (∀ y ∈ pqL q ks, True) := fun _ _ => trivial
  clear hv hu hl hk HMT
  generalize pqE q ks = QE at *
  generalize pqR q ks = QR at *
  generalize pqL q ks = QL at *
  generalize tjW (tqL q) ks = JV at *
  generalize tjE (tqL q) ks = JE at *
  generalize pkAll (tqL q) ks = PAB at *
  generalize arePt (tqL q) = IS at *
  generalize riseK ks = RB at *
  generalize pkL (tqL q) ks = PL at *
  go_enter Try.func19, Try.ntmps19
  go_wp2_with fail
  refine IT.out.mono ?_
  rintro e w1 ⟨rfl, b1⟩
  have B1 := hid (BM.out.next b1)
  clear IT b1 BM
  cases IS
  · have he : JE = 1 := by rw [HE.out]; simp
    subst he
    have hv' : JV = vnz := by rw [HV.out]; simp
    subst hv'
    obtain ⟨⟨r0, r1, r2, r3, r4⟩, q0, q1, q2, q3, q4⟩ := B1.out.may4
    have BZ := hid (B1.out.set54 (Nat.le_refl _) (.int .i64 0) (.bool false) (.int .i64 0) (.string ⟨#[]⟩) (.slice none 0 0)).1
    clear HE HV HPR HQL HQN HPT PK RS HIE B1
    go_wp2
    exact bodyPost_ret (v := .tuple #[.agg #[.int .i64 0, .bool false, .int .i64 0, .string ⟨#[]⟩, .slice none 0 0], .int .i64 1]) (ret_vt4 (p := 4) (u := 5) rfl _ _ w.heap.size _ _ rfl rfl (run_loadVar_row _ _ _ _ _ _ _ BZ.out.row Try.underlying47 rfl (by kernel_rfl))) rfl (NIL.out _ _ BZ.out)
  by_cases h0 : ks.length = 0
  · have he : JE = 1 := by rw [HE.out, HIE.out, decide_eq_true h0]; simp
    subst he
    have hv' : JV = vnz := by rw [HV.out]; simp
    subst hv'
    have g1 : ((ks.length : Int) == 0) = true := beq_iff_eq.2 (by omega)
    have g2 : decide ((ks.length : Int) = 0) = true := decide_eq_true (by omega)
    obtain ⟨⟨r0, r1, r2, r3, r4⟩, q0, q1, q2, q3, q4⟩ := B1.out.may4
    have BZ := hid (B1.out.set54 (Nat.le_refl _) (.int .i64 0) (.bool false) (.int .i64 0) (.string ⟨#[]⟩) (.slice none 0 0)).1
    clear HE HV HPR HQL HQN HPT PK RS HIE B1 h0
    go_wp2
    exact bodyPost_ret (v := .tuple #[.agg #[.int .i64 0, .bool false, .int .i64 0, .string ⟨#[]⟩, .slice none 0 0], .int .i64 1]) (ret_vt4 (p := 4) (u := 5) rfl _ _ w.heap.size _ _ rfl rfl (run_loadVar_row _ _ _ _ _ _ _ BZ.out.row Try.underlying47 rfl (by kernel_rfl))) rfl (NIL.out _ _ BZ.out)
  have g1 : ((ks.length : Int) == 0) = false := beq_eq_false_iff_ne.2 (by omega)
  have g2 : decide ((ks.length : Int) = 0) = false := decide_eq_false (by omega)
  have HH0 := hid h0
  have HIF : Hid (ks.isEmpty = false) := by show _ = _; rw [HIE.out, decide_eq_false h0]
  have R1 := hid (RS.out _ B1.out.b)
  clear RS HIE h0
  go_wp2_with fail
  refine R1.out.mono ?_
  rintro e w2 ⟨rfl, b2⟩
  have B2 := hid (B1.out.next b2)
  clear R1 b2 B1
  cases RB
  · have he : JE = 1 := by rw [HE.out]; simp
    subst he
    have hv' : JV = vnz := by rw [HV.out]; simp
    subst hv'
    obtain ⟨⟨r0, r1, r2, r3, r4⟩, q0, q1, q2, q3, q4⟩ := B2.out.may4
    have BZ := hid (B2.out.set54 (Nat.le_refl _) (.int .i64 0) (.bool false) (.int .i64 0) (.string ⟨#[]⟩) (.slice none 0 0)).1
    clear HE HV HPR HQL HQN HPT PK HH0 HIF B2
    go_wp2
    exact bodyPost_ret (v := .tuple #[.agg #[.int .i64 0, .bool false, .int .i64 0, .string ⟨#[]⟩, .slice none 0 0], .int .i64 1]) (ret_vt4 (p := 4) (u := 5) rfl _ _ w.heap.size _ _ rfl rfl (run_loadVar_row _ _ _ _ _ _ _ BZ.out.row Try.underlying47 rfl (by kernel_rfl))) rfl (NIL.out _ _ BZ.out)
  have P2 := hid (PK.out (by first | rfl | trivial) (by first | rfl | trivial) w2 B2.out.b)
  have HE2 : Hid (JE = if PAB = true then (if smT PL.dropLast = true then 141 else if loT PL = true then 2 else 0) else 140) := by show _ = _; rw [HE.out, HIF.out]; simp
  have HQN2 := hid (HQN.out (by first | rfl | trivial) (by first | rfl | trivial))
  clear PK HE HIF HQN
  cases PAB
  · have he : JE = 140 := HE2.out
    subst he
    have hv' : JV = vnz := by rw [HV.out]; simp
    subst hv'
    have hqe : QE = 140 := HPR.out.1
    have hqr : QR = [] := HPR.out.2
    subst hqe hqr
    clear HE2 HV HPR HQL HQN2 HPT HH0
    go_wp2_with fail
    refine P2.out.mono ?_
    rintro e w3 ⟨ad3, cap3, rfl, o3, b3⟩
    have B3 := hid (B2.out.next b3)
    clear P2 b3 B2 o3
    obtain ⟨⟨r0, r1, r2, r3, r4⟩, q0, q1, q2, q3, q4⟩ := B3.out.may4
    have BZ := hid (B3.out.set54 (Nat.le_refl _) (.int .i64 0) (.bool false) (.int .i64 0) (.string ⟨#[]⟩) (.slice none 0 0)).1
    clear B3
    simp only [List.length_nil]
    go_wp2
    exact bodyPost_ret (v := .tuple #[.agg #[.int .i64 0, .bool false, .int .i64 0, .string ⟨#[]⟩, .slice none 0 0], .int .i64 140]) (ret_vt4 (p := 4) (u := 5) rfl _ _ w.heap.size _ _ rfl rfl (run_loadVar_row _ _ _ _ _ _ _ BZ.out.row Try.underlying47 rfl (by kernel_rfl))) rfl (NIL.out _ _ BZ.out)
  have hqe : QE = 0 := HPR.out.1
  have hqr : QR = QL := HPR.out.2
  subst hqe hqr
  obtain ⟨hn1, hn2, hn3⟩ := HQN2.out (by first | rfl | trivial)
  have HN := hid hn3
  have HPL : Hid (tqL QR = PL) := HQL.out
  have HE3 : Hid (JE = if smT PL.dropLast = true then 141 else if loT PL = true then 2 else 0) := HE2.out
  have hnz : 1 ≤ QR.length := by have := HH0.out; omega
  have hn4 : QR.length ≤ 100 := by omega
  have HNN := hid (And.intro hnz hn4)
  clear HQN2 HQL HE2 HPR HH0 hn1 hn2 hn3
  go_wp2_with fail
  refine P2.out.mono ?_
  rintro e w3 ⟨ad3, cap3, rfl, o3, b3⟩
  have B3 := hid (B2.out.next b3)
  have I3 := hid (HPT.out w3 _ B3.out.b (ownsRow_base o3 B2.out.b.size))
  clear P2 b3 B2 o3 HPT
  have hw1 : wrap64 ((QR.length : Int) - 1) = ((QR.length - 1 : Nat) : Int) := by have := HNN.out; rw [IntWalk.wrap64_in _ (by omega)]; omega
  have hw2 : IntKind.i64.wrap ((QR.length : Int) - 1) = ((QR.length - 1 : Nat) : Int) := by rw [IntKind.wrap_i64]; have := HNN.out; omega
  have hj : QR.length - 1 ≤ QR.length := by omega
  obtain ⟨ad4, cap4, r4, s4⟩ := rowc_to elT I3.out.1 hj
  rw [tqC_tk QR _ hj] at r4
  have I4 : Hid (PtI w3 (.slice ad4 (QR.length - 1) cap4) (QR.take (QR.length - 1))) := ⟨by rw [List.length_take, Nat.min_eq_left hj]; exact r4, fun y hy => I3.out.2 y (List.mem_of_mem_take hy)⟩
  have HSM := hid (hasSmall_any _ _ w3 I4.out (by rw [List.length_take]; have := HNN.out; omega))
  have HDL : Hid (tqL (QR.take (QR.length - 1)) = PL.dropLast) := by show _ = _; rw [← HPL.out, List.dropLast_eq_take, tqL_len]; unfold tqL; rw [List.map_take]
  rw [HDL.out] at HSM
  have LO : Hid (∀ W, Below w3.heap.size w3 W → Calls Try.prog 45 #[.slice ad3 QR.length cap3] W fun e w' => e = .returned (.bool (loT PL)) ∧ Below W.heap.size W w') := fun W hW => by
    have := isLong_any _ QR W (I3.out.next hW) HNN.out.2 HN.out
    rw [HPL.out] at this
    exact this
  have TO : Hid (∀ W, Below w3.heap.size w3 W → Calls Try.prog 46 #[.slice ad3 QR.length cap3] W fun e w' => ∃ ad cap, e = .returned (vnV (.slice ad (psT PL).length cap, ⟨0, false, szT PL, dgT (sumT PL), psT PL⟩)) ∧ OwnP w' W.heap.size 69 (.slice ad (psT PL).length cap) (psT PL) ∧ Below W.heap.size W w') := fun W hW => by
    have := together_any _ QR W (I3.out.next hW) HNN.out.2 HN.out
    rw [HPL.out] at this
    exact this
  clear I3 I4 r4 HDL HPL HNN HN hnz hn4 hj
  generalize smT PL.dropLast = SB at *
  generalize loT PL = LB at *
  generalize QR.length = N at *
  go_wp2_with fail
  refine HSM.out.mono ?_
  rintro e w4 ⟨rfl, b4⟩
  have B4 := hid (B3.out.next b4)
  have L4 := hid (LO.out _ b4)
  have K4 := hid b4
  clear HSM b4 B3 LO
  cases SB
  case true =>
    have he : JE = 141 := HE3.out
    subst he
    have hv' : JV = vnz := by rw [HV.out]; simp
    subst hv'
    obtain ⟨⟨r0, r1, r2, r3, r4⟩, q0, q1, q2, q3, q4⟩ := B4.out.may4
    have BZ := hid (B4.out.set54 (Nat.le_refl _) (.int .i64 0) (.bool false) (.int .i64 0) (.string ⟨#[]⟩) (.slice none 0 0)).1
    clear HE3 HV TO K4 L4 B4
    go_wp2
    exact bodyPost_ret (v := .tuple #[.agg #[.int .i64 0, .bool false, .int .i64 0, .string ⟨#[]⟩, .slice none 0 0], .int .i64 141]) (ret_vt4 (p := 4) (u := 5) rfl _ _ w.heap.size _ _ rfl rfl (run_loadVar_row _ _ _ _ _ _ _ BZ.out.row Try.underlying47 rfl (by kernel_rfl))) rfl (NIL.out _ _ BZ.out)
  have HE4 : Hid (JE = if LB = true then 2 else 0) := HE3.out
  clear HE3
  go_wp2_with fail
  refine L4.out.mono ?_
  rintro e w5 ⟨rfl, b5⟩
  have B5 := hid (B4.out.next b5)
  have T5 := hid (TO.out _ (below_on K4.out b5))
  clear L4 K4 b5 B4 TO
  cases LB
  case true =>
    have he : JE = 2 := HE4.out
    subst he
    have hv' : JV = vnz := by rw [HV.out]; simp
    subst hv'
    obtain ⟨⟨r0, r1, r2, r3, r4⟩, q0, q1, q2, q3, q4⟩ := B5.out.may4
    have BZ := hid (B5.out.set54 (Nat.le_refl _) (.int .i64 0) (.bool false) (.int .i64 0) (.string ⟨#[]⟩) (.slice none 0 0)).1
    clear HE4 HV T5 B5
    go_wp2
    exact bodyPost_ret (v := .tuple #[.agg #[.int .i64 0, .bool false, .int .i64 0, .string ⟨#[]⟩, .slice none 0 0], .int .i64 2]) (ret_vt4 (p := 4) (u := 5) rfl _ _ w.heap.size _ _ rfl rfl (run_loadVar_row _ _ _ _ _ _ _ BZ.out.row Try.underlying47 rfl (by kernel_rfl))) rfl (NIL.out _ _ BZ.out)
  have he : JE = 0 := HE4.out
  subst he
  have HV2 : Hid (JV = ⟨0, false, szT PL, dgT (sumT PL), psT PL⟩) := HV.out
  clear HE4 HV NIL
  unfold vnV at T5
  simp only at T5
  generalize hpn : (psT PL).length = pn at *
  generalize szT PL = SZ at *
  generalize dgT (sumT PL) = DG at *
  generalize psT PL = PS at *
  go_wp2_with fail
  refine T5.out.mono ?_
  rintro e w6 ⟨ad6, cap6, rfl, o6, b6⟩
  have B6 := hid (B5.out.next b6)
  obtain ⟨⟨r0, r1, r2, r3, r4⟩, q0, q1, q2, q3, q4⟩ := B6.out.may4
  have S5 := B6.out.set54 (Nat.le_refl _) (.int .i64 0) (.bool false) (.int .i64 SZ) (.string DG) (.slice ad6 pn cap6)
  have BZ := hid S5.1
  have P5 := hid (OwnP.pcs (S5.2.ownsRow o6 (fun g hg e => by have h1 := ownsRow_ge o6 hg; have h2 := B5.out.row.lt; omega)))
  clear S5 o6 b6 T5 B5 B6
  go_wp2
  refine bodyPost_ret (v := .tuple #[.agg #[.int .i64 0, .bool false, .int .i64 SZ, .string DG, .slice ad6 pn cap6], .int .i64 0]) (ret_vt4 (p := 4) (u := 5) rfl _ _ w.heap.size _ _ rfl rfl (run_loadVar_row _ _ _ _ _ _ _ BZ.out.row Try.underlying47 rfl (by kernel_rfl))) rfl ?_
  have hv' := HV2.out
  subst hv'
  subst hpn
  exact ⟨ad6, cap6, rfl, P5.out, BZ.out.b⟩
end Go.Proofs.Ytbiapepalkdkdab
namespace Go.Proofs.Ytbiapepalkdkdab
open Go.RowKit Go.Maps
set_option linter.unusedVariables false
set_option linter.unusedSimpArgs false

theorem pcs_1 (W : World) (z : ByteArray) (s : Int) : PcI (W.alloc (.cells #[.string z, .int .i64 s] 69)) (.slice (some ⟨W.heap.size, 0, none⟩) 1 1) [⟨z, s⟩] := RowC.own (own_made W [.string z, .int .i64 s] 69 2 1 0 (Nat.zero_le _) rfl (by omega))
theorem four4 {W : World} {g : Nat} {v0 v1 v2 v3 x0 x1 x2 x3 : Value} {t : TypeId} (h : RowIs W g [v0, v1, v2, v3] t) : RowIs ((((W.setCell ⟨g, 0, none⟩ x0).setCell ⟨g, 1, none⟩ x1).setCell ⟨g, 2, none⟩ x2).setCell ⟨g, 3, none⟩ x3) g [x0, x1, x2, x3] t ∧ Keep (· = g) W ((((W.setCell ⟨g, 0, none⟩ x0).setCell ⟨g, 1, none⟩ x1).setCell ⟨g, 2, none⟩ x2).setCell ⟨g, 3, none⟩ x3) :=
  ⟨(((h.set 0 x0).set 1 x1).set 2 x2).set 3 x3, (((keep_setCell _ _ _ _).trans (keep_setCell _ _ _ _)).trans (keep_setCell _ _ _ _)).trans (keep_setCell _ _ _ _)⟩
set_option maxRecDepth 100000 in
set_option maxHeartbeats 2000000 in
theorem one14_any (n s : Int) (w : World) : Calls Try.prog 35 #[.int .i64 n, .int .i64 s] w fun e w' => ∃ ad cap, e = .returned (.agg #[.int .i64 n, .int .i64 s, .string ZS, .slice ad 1 cap]) ∧ PcI w' (.slice ad 1 cap) [⟨ZS, s⟩] ∧ Below w.heap.size w w' := by
  have ZR := hid (fun W => zeros_any W)
  have BM := hid (Bx.made (Below.refl w.heap.size w) [.int .i64 0, .int .i64 0, .string ⟨#[]⟩, .slice none 0 0] 25)
  have PO : Hid (∀ W : World, PcI (W.alloc (.cells #[.string ZS, .int .i64 s] 69)) (.slice (some ⟨W.heap.size, 0, none⟩) 1 1) [⟨ZS, s⟩]) := fun W => pcs_1 W ZS s
  generalize ZS = Z at *
  go_enter Try.func35, Try.ntmps35
  go_wp2_with fail
  refine (ZR.out _).mono ?_
  rintro e w1 ⟨rfl, b1⟩
  have B1 := hid (BM.out.next b1)
  clear b1 BM
  go_wp2_with fail
  refine (ZR.out _).mono ?_
  rintro e w2 ⟨rfl, b2⟩
  have B2 := hid (B1.out.next b2)
  clear b2 B1 ZR
  have B3 := hid (B2.out.al (.cells #[.string Z, .int .i64 s] 69))
  have X3 := hid (PO.out w2)
  have r0 := B3.out.row.cellAt (o := 0) rfl
  have r1 := B3.out.row.cellAt (o := 1) rfl
  have r2 := B3.out.row.cellAt (o := 2) rfl
  have r3 := B3.out.row.cellAt (o := 3) rfl
  have q0 := B3.out.row.frozen (o := 0)
  have q1 := B3.out.row.frozen (o := 1)
  have q2 := B3.out.row.frozen (o := 2)
  have q3 := B3.out.row.frozen (o := 3)
  have F4 := four4 B3.out.row (x0 := .int .i64 n) (x1 := .int .i64 s) (x2 := .string Z) (x3 := .slice (some ⟨w2.heap.size, 0, none⟩) 1 1)
  have RES := hid F4.1
  have PCS : Hid (PcI (((((w2.alloc (.cells #[.string Z, .int .i64 s] 69)).setCell ⟨w.heap.size, 0, none⟩ (.int .i64 n)).setCell ⟨w.heap.size, 1, none⟩ (.int .i64 s)).setCell ⟨w.heap.size, 2, none⟩ (.string Z)).setCell ⟨w.heap.size, 3, none⟩ (.slice (some ⟨w2.heap.size, 0, none⟩) 1 1)) (.slice (some ⟨w2.heap.size, 0, none⟩) 1 1) [⟨Z, s⟩]) := by
    have o := own_made w2 [.string Z, .int .i64 s] 69 2 1 w2.heap.size (Nat.le_refl _) rfl (by omega)
    exact RowC.own (F4.2.ownsRow o (fun g hg e => by have h1 := ownsRow_ge o hg; have h2 := B2.out.row.lt; omega))
  have BEL := hid (B3.out.b.trans (keep_below F4.2 (fun k hk e => by omega) B3.out.b.size))
  clear F4 X3 PO B2 B3
  go_wp2
  exact bodyPost_ret (v := .agg #[.int .i64 n, .int .i64 s, .string Z, .slice (some ⟨w2.heap.size, 0, none⟩) 1 1]) (results_cell_row (p := 4) rfl _ _ w.heap.size 25 #[.int .i64 n, .int .i64 s, .string Z, .slice (some ⟨w2.heap.size, 0, none⟩) 1 1] (0, 0) _ rfl RES.out Try.underlying25 rfl (by kernel_rfl)) rfl ⟨_, _, rfl, PCS.out, BEL.out⟩
def A1 : Pt := ⟨1, 64, ZS, [⟨ZS, 64⟩]⟩
def A2 : Pt := ⟨2, 1, ZS, [⟨ZS, 1⟩]⟩
def KS2 : List Pk := [⟨1, ZS⟩, ⟨2, ZS⟩]
set_option maxRecDepth 100000 in
theorem aw14_pure : tputE [] A2 = 0 ∧ tputL [] A2 = [A2] ∧ tputE [A2] A1 = 0 ∧ tputL [A2] A1 = [A1, A2] ∧ tjE [A1, A2] KS2 = 0 ∧ tjW [A1, A2] KS2 = ⟨0, false, 65, dgT [ZS, ZS], [⟨ZS, 64⟩, ⟨ZS, 1⟩]⟩ := by
  have c0 : arePt [] = true := rfl
  have k1 : ptOk A1 = true := by decide +kernel
  have k2 : ptOk A2 = true := by decide +kernel
  have c1 : arePt [A2] = true := by decide +kernel
  have c2 : arePt [A1, A2] = true := by decide +kernel
  have e1 : tputE [] A2 = 0 := by unfold tputE; rw [if_pos ⟨c0, k2⟩]
  have e2 : tputE [A2] A1 = 0 := by unfold tputE; rw [if_pos ⟨c1, k1⟩]
  have hp : pkL [A1, A2] KS2 = [A1, A2] := by kernel_rfl
  have ha : pkAll [A1, A2] KS2 = true := by decide +kernel
  have hr : riseK KS2 = true := by decide +kernel
  have hz : szT [A1, A2] = 65 := by kernel_rfl
  have e3 : tjE [A1, A2] KS2 = 0 := by
    unfold tjE
    rw [hp, ha, c2, hr]
    have h1 : smT [A1, A2].dropLast = false := by decide +kernel
    have h2 : loT [A1, A2] = false := by decide +kernel
    rw [h1, h2]
    rfl
  refine ⟨e1, by unfold tputL; rw [if_pos e1]; rfl, e2, by unfold tputL; rw [if_pos e2]; rfl, e3, ?_⟩
  unfold tjW
  rw [if_pos e3, hp, hz]
  rfl
set_option maxRecDepth 100000 in
set_option maxHeartbeats 2000000 in
theorem awake14 (w : World) : Calls Try.prog 12 #[] w fun e w' => e = .returned (.bool true) ∧ Below w.heap.size w w' := by
  obtain ⟨a1, a2, a3, a4, a5, a6⟩ := aw14_pure
  have ZR := hid (fun W => zeros_any W)
  have O1 := hid (fun W => one14_any 2 1 W)
  have O2 := hid (fun W => one14_any 1 64 W)
  have P1 : Hid (∀ W pv, PcI W pv [⟨ZS, 1⟩] → Calls Try.prog 9 #[.slice none 0 0, .agg #[.int .i64 2, .int .i64 1, .string ZS, pv]] W (GiveT W [A2] 0)) := fun W pv h => by
    have := tput_any (.slice none 0 0) [] pv A2 W (pti_none _) h (by simp)
    rw [show tqL [] = [] from rfl, a1, a2] at this
    exact this
  have P2 : Hid (∀ W v q pv, PtI W v q → tqL q = [A2] → PcI W pv [⟨ZS, 64⟩] → Calls Try.prog 9 #[v, .agg #[.int .i64 1, .int .i64 64, .string ZS, pv]] W (GiveT W [A1, A2] 0)) := fun W v q pv h e hp => by
    have := tput_any v q pv A1 W h hp (by have h2 := congrArg List.length e; rw [tqL_len] at h2; simp at h2; omega)
    rw [e, a3, a4] at this
    exact this
  have J1 : Hid (∀ W v q u, PtI W v q → tqL q = [A1, A2] → PkI W u KS2 → Calls Try.prog 19 #[v, u] W (GiveJ W ⟨0, false, 65, dgT [ZS, ZS], [⟨ZS, 64⟩, ⟨ZS, 1⟩]⟩ 0)) := fun W v q u h e hu => by
    have := join_any v q u KS2 W h hu (by have h2 := congrArg List.length e; rw [tqL_len] at h2; simp at h2; omega) (by simp [KS2])
    rw [e, a5, a6] at this
    exact this
  have KO : Hid (∀ W : World, PkI (W.alloc (.cells #[.int .i64 1, .string ZS, .int .i64 2, .string ZS] 67)) (.slice (some ⟨W.heap.size, 0, none⟩) 2 2) KS2) := fun W => RowC.own (own_made W [.int .i64 1, .string ZS, .int .i64 2, .string ZS] 67 2 2 0 (Nat.zero_le _) rfl (by omega))
  clear a1 a2 a3 a4 a5 a6
  generalize KS2 = KK at *
  generalize A1 = X1 at *
  generalize A2 = X2 at *
  generalize dgT [ZS, ZS] = DD at *
  generalize ZS = Z at *
  go_enter Try.func12, Try.ntmps12
  go_wp2_with fail
  refine (O1.out _).mono ?_
  rintro e w1 ⟨ad1, cp1, rfl, p1, b1⟩
  have B1 := hid b1
  have C1 := hid p1
  clear b1 p1 O1
  go_wp2_with fail
  refine (P1.out _ _ C1.out).mono ?_
  rintro e w2 ⟨ad2, n2, cp2, q2, rfl, hq2, v2, b2⟩
  have B2 := hid (below_on B1.out b2)
  have Q2 := hid hq2
  have I2 := hid v2.pt
  clear b2 hq2 v2 P1 C1 B1
  go_wp2_with fail
  refine (O2.out _).mono ?_
  rintro e w3 ⟨ad3, cp3, rfl, p3, b3⟩
  have B3 := hid (below_on B2.out b3)
  have I3 := hid (I2.out.next b3)
  have C3 := hid p3
  clear b3 p3 O2 B2 I2
  go_wp2_with fail
  refine (P2.out _ _ _ _ I3.out Q2.out C3.out).mono ?_
  rintro e w4 ⟨ad4, n4, cp4, q4, rfl, hq4, v4, b4⟩
  have B4 := hid (below_on B3.out b4)
  have Q4 := hid hq4
  have I4 := hid v4.pt
  clear b4 hq4 v4 P2 C3 B3 I3 Q2
  go_wp2_with fail
  refine (ZR.out _).mono ?_
  rintro e w5 ⟨rfl, b5⟩
  have B5 := hid (below_on B4.out b5)
  have I5 := hid (I4.out.next b5)
  clear b5 B4 I4
  go_wp2_with fail
  refine (ZR.out _).mono ?_
  rintro e w6 ⟨rfl, b6⟩
  have B6 := hid (below_on B5.out b6)
  have I6 : Hid (PtI (w6.alloc (.cells #[.int .i64 1, .string Z, .int .i64 2, .string Z] 67)) (.slice ad4 n4 cp4) q4) := (I5.out.next b6).next ((Below.refl _ _).alloc (Nat.le_refl _) _)
  have K6 := hid (KO.out w6)
  clear b6 B5 I5 ZR KO
  go_wp2_with fail
  refine (J1.out _ _ _ _ I6.out Q4.out K6.out).mono ?_
  rintro e w7 ⟨ad7, cp7, rfl, p7, b7⟩
  have B7 := hid (below_on (below_al B6.out _) b7)
  obtain ⟨ad8, cp8, e8, hc8⟩ := p7.form
  injection e8 with e8 _ e9
  subst e8 e9
  obtain ⟨b, off, rfl, hb, c0, c1⟩ := hc8 0 (by simp)
  simp only [List.getElem_cons_zero, Nat.zero_mul, Nat.add_zero] at c1
  unfold vnV
  simp only [List.length_cons, List.length_nil, Nat.zero_add, Nat.reduceAdd]
  have SR := srow w7 [.int .i64 0, .bool false, .int .i64 65, .string DD, .slice (some ⟨b, off, none⟩) 2 cp7] 47
  have y2 := SR.cellAt (o := 2) rfl
  have y4 := SR.cellAt (o := 4) rfl
  have z1 : (w7.alloc (.cells #[.int .i64 0, .bool false, .int .i64 65, .string DD, .slice (some ⟨b, off, none⟩) 2 cp7] 47)).cell? ⟨b, off + 1, none⟩ = some (.int .i64 64) := ((keep_alloc (fun _ => False) w7 (.cells #[.int .i64 0, .bool false, .int .i64 65, .string DD, .slice (some ⟨b, off, none⟩) 2 cp7] 47)).cell hb (fun h => h)).trans c1
  have HBF : Hid (∀ X, Below w.heap.size w (w7.alloc X)) := fun X => below_al B7.out _
  clear p7 b7 J1 Q4 I6 K6 B6 SR B7 hc8 c0 c1 hb
  go_wp2
  go_ret
  exact ⟨rfl, HBF.out _⟩
end Go.Proofs.Ytbiapepalkdkdab
namespace Go.Proofs.Ytbiapepalkdkdab
open Go.RowKit Go.Maps
set_option linter.unusedVariables false
set_option linter.unusedSimpArgs false

theorem plT_split : ∀ {l : List Pt} {n : Int}, l.Pairwise (fun a b => a.n < b.n) → (∀ i (h : i < l.length), i < plT l n → l[i].n < n) ∧ (∀ i (h : i < l.length), plT l n ≤ i → n ≤ l[i].n)
  | [], n, _ => ⟨fun i h => absurd h (by simp), fun i h => absurd h (by simp)⟩
  | x :: r, n, hs => by
    have h1 := List.pairwise_cons.1 hs
    obtain ⟨a, b⟩ := plT_split (n := n) h1.2
    have e2 : plT (x :: r) n = plT r n + (if lb x.n n = true then 1 else 0) := by unfold plT; rw [List.countP_cons]
    by_cases hx : x.n < n
    · have h0 : lb x.n n = true := decide_eq_true hx
      rw [e2, h0]
      refine ⟨fun i h hi => ?_, fun i h hi => ?_⟩
      · cases i with
        | zero => exact hx
        | succ j => exact a j (by simpa using h) (by simpa using hi)
      · cases i with
        | zero => simp at hi
        | succ j => exact b j (by simpa using h) (by simpa using hi)
    · have h0 : lb x.n n = false := decide_eq_false hx
      have hz : plT r n = 0 := by
        unfold plT
        rw [List.countP_eq_zero]
        intro y hy
        have := h1.1 y hy
        unfold lb
        simp
        omega
      rw [e2, h0, hz]
      refine ⟨fun i h hi => absurd hi (by simp), fun i h hi => ?_⟩
      cases i with
      | zero => simp only [List.getElem_cons_zero]; omega
      | succ j =>
        have hj : j < r.length := by simpa using h
        have := h1.1 r[j] (List.getElem_mem _)
        simp only [List.getElem_cons_succ]
        omega
theorem skT_split {l : List Pt} {n : Int} (hs : l.Pairwise (fun a b => a.n < b.n)) : (∀ i (h : i < l.length), i < skT l n → l[i].n ≤ n) ∧ (∀ i (h : i < l.length), skT l n ≤ i → n < l[i].n) := by
  obtain ⟨a, b⟩ := plT_split (n := n) hs
  unfold skT
  cases hh : hasT l n with
  | true =>
    obtain ⟨x, hx, hn⟩ := plT_at hs hh
    obtain ⟨hj, hx⟩ := List.getElem?_eq_some_iff.1 hx
    simp only [if_true]
    refine ⟨fun i h hi => ?_, fun i h hi => ?_⟩
    · by_cases e : i = plT l n
      · subst e; rw [hx]; omega
      · have := a i h (by omega); omega
    · have := List.pairwise_iff_getElem.1 hs _ i hj h (by omega)
      rw [hx] at this
      omega
  | false =>
    simp only [Bool.false_eq_true, if_false, Nat.add_zero]
    refine ⟨fun i h hi => by have := a i h hi; omega, fun i h hi => ?_⟩
    have h1 := b i h hi
    have h2 : l[i].n ≠ n := fun e => by
      have : hasT l n = true := by unfold hasT; rw [List.any_eq_true]; exact ⟨l[i], List.getElem_mem h, decide_eq_true e⟩
      rw [hh] at this
      cases this
    omega
theorem plT_sk (l : List Pt) (n : Int) : plT l n ≤ skT l n := by unfold skT; omega
/-- a call that gives parts, in whatever memory -/
def GiveQ (w : World) (l : List Pt) (x : Int) (e : Ending) (w' : World) : Prop := ∃ ad n cap q, e = .returned (.tuple #[.slice ad n cap, .int .i64 x]) ∧ tqL q = l ∧ PtI w' (.slice ad n cap) q ∧ Below w.heap.size w w'
theorem giveQ_none {w w' : World} {x : Int} (h : Below w.heap.size w w') : GiveQ w [] x (.returned (.tuple #[.slice none 0 0, .int .i64 x])) w' := ⟨none, 0, 0, [], rfl, rfl, pti_none _, h⟩
theorem dr_succ {α : Type} (q : List α) (i K : Nat) (hi : i < q.length) (hK : K ≤ i) : (q.take (i + 1)).drop K = (q.take i).drop K ++ [q[i]] := by
  rw [List.take_succ_eq_append_getElem hi, List.drop_append_of_le_length (by rw [List.length_take]; omega)]
theorem dr_nil {α : Type} (q : List α) (i K : Nat) (hK : i ≤ K) : (q.take i).drop K = [] := by
  rw [List.drop_eq_nil_iff, List.length_take]; omega
/-- what the document's Put keeps: the part in a box, what is put together in a row -/
structure PuS (w : World) (cs : List Value) (v : Value) (m : Nat) (L : List (Value × Pt)) (W : World) : Prop where
  n : L.length = m
  r : W.ownsRow (w.heap.size + 1) 35 4 v m (tqC L)
  b : Bx w w.heap.size cs 35 W
section
variable {w W W' : World} {cs : List Value} {v v' : Value} {m : Nat} {L : List (Value × Pt)}
theorem PuS.next (h : PuS w cs v m L W) (hb : Below W.heap.size W W') : PuS w cs v m L W' := ⟨h.n, (hb.keep (fun _ => False)).ownsRow h.r (fun _ _ h => h), h.b.next hb⟩
theorem PuS.drewN (h : PuS w cs v m L W) (n : Nat) : PuS w cs v m L (W.drewN n) := h.next (below_drewN (Below.refl _ _) n)
theorem PuS.al (h : PuS w cs v m L W) (o : Obj) : PuS w cs v m L (W.alloc o) := h.next ((Below.refl _ _).alloc (Nat.le_refl _) o)
theorem PuS.size (h : PuS w cs v m L W) : w.heap.size + 1 ≤ W.heap.size := h.b.row.lt
theorem PuS.app (h : PuS w cs v m L W) {y : Value × Pt} (hr : W'.ownsRow (w.heap.size + 1) 35 4 v' (m + 1) (tqC L ++ ptC y)) (hk : Keep (fun j => v.ownBlock = some j) W W') : PuS w cs v' (m + 1) (L ++ [y]) W' := by
  refine ⟨by rw [List.length_append, h.n]; rfl, by rw [tqC_app, tqC_one]; exact hr, ⟨h.b.row.keep hk (fun e => by have := ownsRow_ge h.r e; omega), h.b.b.trans (keep_below hk (fun j hj e => by have := ownsRow_ge h.r e; omega) h.b.b.size)⟩⟩
end
set_option maxRecDepth 100000 in
set_option maxHeartbeats 4000000 in
theorem rtput_any (v : Value) (q : List (Value × Pt)) (pv : Value) (x : Pt) (w : World) (hv : PtI w v q) (hp : PcI w pv x.ps) (hl : q.length ≤ 8796093022208)
    (hs : ∀ y ∈ q, y.2.sum.size ≤ 140737488355328 ∧ y.2.ps.length ≤ 8796093022208 ∧ ∀ p ∈ y.2.ps, p.id.size ≤ 140737488355328) (hx : x.sum.size ≤ 140737488355328 ∧ x.ps.length ≤ 8796093022208 ∧ ∀ p ∈ x.ps, p.id.size ≤ 140737488355328) :
    Calls Try.prog 10 #[v, ptV (pv, x)] w (GiveQ w (tputL (tqL q) x) (tputE (tqL q) x)) := by
  obtain ⟨pa, pc, rfl⟩ := hp.sl
  obtain ⟨ad, cap, rfl, hc⟩ := hv.form
  have HC := hid hc
  have BM := hid (Bx.made (Below.refl w.heap.size w) [.int .i64 x.n, .int .i64 x.sz, .string x.sum, .slice pa x.ps.length pc] 35)
  have IT := hid (rtmay_any _ q _ (hv.next BM.out.b) hl hs)
  have CK : Hid (∀ W, Below w.heap.size w W → Calls Try.prog 14 #[.agg #[.int .i64 x.n, .int .i64 x.sz, .string x.sum, .slice pa x.ps.length pc]] W fun e w' => e = .returned (.int .i64 (ptE x)) ∧ Below W.heap.size W w') := fun W hW => rtcheck_any _ x W (hp.next hW) hx.2.1 hx.2.2 hx.1
  have HE : Hid (tputE (tqL q) x = if arePt (tqL q) = true ∧ ptOk x = true then 0 else 1) := rfl
  have HNL : Hid (tputL (tqL q) x = if tputE (tqL q) x = 0 then insT (tqL q) x else []) := rfl
  have HPE := hid (ptE_cases x)
  have HLN : Hid (arePt (tqL q) = true → q.length ≤ 100) := fun h => by have := arePt_len h; rw [tqL_len] at this; exact this
  have HJ : Hid (plT (tqL q) x.n ≤ q.length ∧ plT (tqL q) x.n ≤ skT (tqL q) x.n ∧ skT (tqL q) x.n ≤ q.length) := by
    have h1 := plT_le (tqL q) x.n
    have h2 := skT_le (tqL q) x.n
    rw [tqL_len] at h1 h2
    exact ⟨h1, plT_sk _ _, h2⟩
  have HSP : Hid (arePt (tqL q) = true → ∀ (i : Nat) (h : i < q.length), (i < plT (tqL q) x.n → q[i].2.n < x.n) ∧ (plT (tqL q) x.n ≤ i → x.n ≤ q[i].2.n) ∧ (i < skT (tqL q) x.n → q[i].2.n ≤ x.n) ∧ (skT (tqL q) x.n ≤ i → x.n < q[i].2.n)) := fun h i hi => by
    have hr := arePt_rise h
    have h1 := plT_split (n := x.n) hr
    have h2 := skT_split (n := x.n) hr
    have hi' : i < (tqL q).length := by rw [tqL_len]; exact hi
    have e := tqL_get q i hi
    refine ⟨fun k => ?_, fun k => ?_, fun k => ?_, fun k => ?_⟩
    · have := h1.1 i hi' k; rw [e] at this; exact this
    · have := h1.2 i hi' k; rw [e] at this; exact this
    · have := h2.1 i hi' k; rw [e] at this; exact this
    · have := h2.2 i hi' k; rw [e] at this; exact this
  have HIN : Hid (tqL (q.take (plT (tqL q) x.n) ++ ((.slice pa x.ps.length pc : Value), x) :: q.drop (skT (tqL q) x.n)) = insT (tqL q) x) := by
    show _ = _
    unfold insT tqL
    rw [List.map_append, List.map_cons, List.map_take, List.map_drop]
  have HTP : Hid (∀ W, Below w.heap.size w W → ∀ J K, TqP W (q.take J ++ ((.slice pa x.ps.length pc : Value), x) :: q.drop K)) := fun W hW J K y hy => by
    rcases List.mem_append.1 hy with e | e
    · exact (hv.2 y (List.mem_of_mem_take e)).next hW
    · rcases List.mem_cons.1 e with e | e
      · rw [e]; exact hp.next hW
      · exact (hv.2 y (List.mem_of_mem_drop e)).next hW
  have HSL : Hid (∀ y ∈ q, ∃ a c, y.1 = .slice a y.2.ps.length c) := fun y hy => (hv.2 y hy).sl
  clear hc hv hp hl hs hx
  unfold ptV
  generalize tputE (tqL q) x = NE at *
  generalize tputL (tqL q) x = NL at *
  generalize arePt (tqL q) = IS at *
  generalize ptOk x = OKB at *
  generalize ptE x = PE at *
  generalize plT (tqL q) x.n = J at *
  generalize skT (tqL q) x.n = K at *
  generalize insT (tqL q) x = IH at *
  obtain ⟨xn, xsz, xsum, xps⟩ := x
  simp only at *
  generalize hxp : xps.length = xpn at *
  have HXP := hid hxp
  clear hxp
  have y0 := BM.out.row.cellAt (o := 0) rfl
  go_enter Try.func10, Try.ntmps10
  go_wp2_with fail
  refine IT.out.mono ?_
  rintro e w1 ⟨rfl, b1⟩
  have B1 := hid (BM.out.next b1)
  clear IT b1 BM y0
  cases IS
  · have hne : NE = 1 := by rw [HE.out]; simp
    subst hne
    have hnl : NL = [] := by rw [HNL.out]; simp
    subst hnl
    clear HC CK HE HNL HPE HLN HJ HSP HIN HTP HSL
    go_wp2
    go_ret2
    exact giveQ_none B1.out.b
  have y0 := B1.out.row.cellAt (o := 0) rfl
  have y1 := B1.out.row.cellAt (o := 1) rfl
  have y2 := B1.out.row.cellAt (o := 2) rfl
  have y3 := B1.out.row.cellAt (o := 3) rfl
  go_wp2_with fail
  refine (CK.out _ B1.out.b).mono ?_
  rintro e w2 ⟨rfl, b2⟩
  have B2 := hid (B1.out.next b2)
  clear CK b2 B1 y0 y1 y2 y3
  rcases HPE.out with ⟨rfl, rfl⟩ | ⟨rfl, rfl⟩
  case inr =>
    have hne : NE = 1 := by rw [HE.out]; simp
    subst hne
    have hnl : NL = [] := by rw [HNL.out]; simp
    subst hnl
    clear HC HE HNL HPE HLN HJ HSP HIN HTP HSL
    go_wp2
    go_ret2
    exact giveQ_none B2.out.b
  have hne : NE = 0 := by rw [HE.out]; simp
  subst hne
  have hnl : NL = IH := by rw [HNL.out]; simp
  subst hnl
  have HL := hid (HLN.out (by first | rfl | trivial))
  have HS := hid (HSP.out (by first | rfl | trivial))
  clear HE HNL HPE HLN HSP
  go_wp2
  go_loopw [6, 7] (fun o i wr => ∃ (k : Nat) (ad1 : Option Addr) (cp1 : Nat), k ≤ J ∧ o = .slice ad1 k cp1 ∧ i = .int .i64 (k : Int) ∧ Hid (PuS w [.int .i64 xn, .int .i64 xsz, .string xsum, .slice pa xpn pc] (.slice ad1 k cp1) k (q.take k) wr)) (fun _ i _ => J - (intOf i).toNat)
  case atStart => exact ⟨0, none, 0, Nat.zero_le _, rfl, rfl, ⟨rfl, ⟨rfl, .inl ⟨rfl, rfl⟩⟩, B2.out⟩⟩
  case round =>
    clear B2
    obtain ⟨k, ad1, cp1, hk, rfl, rfl, HP⟩ := hrel
    have hkq : k ≤ q.length := by have := HJ.out; omega
    have hwk : wrap64 ((k : Int) + 1) = ((k + 1 : Nat) : Int) := by have := HL.out; rw [IntWalk.wrap64_in _ (by omega)]; omega
    have y0 := HP.out.b.row.cellAt (o := 0) rfl
    by_cases hlt : k < J
    · have hkl : k < q.length := by have := HJ.out; omega
      have hk1 : (k : Int) < (q.length : Int) := by omega
      have hk0 : (0 : Int) ≤ (k : Int) := by omega
      have hd1 : decide ((k : Int) < (q.length : Int)) = true := decide_eq_true hk1
      have hd2 : decide (k < q.length) = true := decide_eq_true hkl
      obtain ⟨b, off, rfl, hb, c0, c1, c2, c3, hp⟩ := HC.out k hkl
      have HCE : Hid (∀ W, Below w.heap.size w W → W.cell? ⟨b, off + k * 4, none⟩ = some (.int .i64 q[k].2.n) ∧ W.cell? ⟨b, off + k * 4 + 1, none⟩ = some (.int .i64 q[k].2.sz) ∧ W.cell? ⟨b, off + k * 4 + 2, none⟩ = some (.string q[k].2.sum) ∧ W.cell? ⟨b, off + k * 4 + 3, none⟩ = some q[k].1) := fun W hW => ⟨(hW.cell hb).trans c0, (hW.cell hb).trans c1, (hW.cell hb).trans c2, (hW.cell hb).trans c3⟩
      have hlt2 := (HS.out k hkl).1 hlt
      have g1 : decide (q[k].2.n < xn) = true := decide_eq_true hlt2
      have hpf := hp.sl
      have HLT := hid hlt
      have HTK : Hid (q.take (k + 1) = q.take k ++ [q[k]]) := List.take_succ_eq_append_getElem hkl
      have HQ1 : Hid (k + 1 ≤ 4611686018427387904) := by have := HL.out; show _ ≤ _; omega
      have HQ2 : Hid ((k + 1) * 56 ≤ 140737488355328) := by have := HL.out; show _ ≤ _; omega
      clear HC HJ HS HIN HTP HSL HXP c0 c1 c2 c3 hp hb hlt2 HL
      generalize q[k] = z at *
      clear hk hlt hkl hkq
      obtain ⟨pv, n, sz, sum, ps⟩ := z
      simp only at *
      obtain ⟨ad2, cap2, rfl⟩ := hpf
      generalize ps.length = pn at *
      obtain ⟨d0, d1, d2, d3⟩ := HCE.out _ HP.out.b.b
      go_wp2
      go_quiet (fail)
      have HP2 := hid (HP.out.drewN nq)
      clear HP y0 d0 d1 d2 d3
      generalize wr.drewN nq = w3 at *
      obtain ⟨d0, d1, d2, d3⟩ := HCE.out _ HP2.out.b.b
      clear HCE
      have HP2A := hid (HP2.out.al (.cells #[.int .i64 n, .int .i64 sz, .string sum, .slice ad2 pn cap2] 35))
      have HGA := hid HP2A.out.r
      have HSZ := hid HP2A.out.size
      have HGX : Hid (GSrc (w3.alloc (.cells #[.int .i64 n, .int .i64 sz, .string sum, .slice ad2 pn cap2] 35)) (.slice (some ⟨w3.heap.size, 0, none⟩) 1 1) 1 (ptC (.slice ad2 pn cap2, ⟨n, sz, sum, ps⟩))) := gsrc_block (heap_alloc_new _ _)
      have HO1 : Hid (∀ u ∈ ptC (.slice ad2 pn cap2, ⟨n, sz, sum, ps⟩), u.oneCell' = true) := ptC_cell _ _ _ _
      have HX2 : Hid ((ptC (.slice ad2 pn cap2, ⟨n, sz, sum, ps⟩)).length = 1 * 4) := rfl
      have FAP : Hid (∀ ad' cap' w', w'.ownsRow (w.heap.size + 1) 35 4 (.slice ad' (k + 1) cap') (k + 1) (tqC (q.take k) ++ ptC (.slice ad2 pn cap2, ⟨n, sz, sum, ps⟩)) → Keep (fun j => (Value.slice ad1 k cp1).ownBlock = some j) (w3.alloc (.cells #[.int .i64 n, .int .i64 sz, .string sum, .slice ad2 pn cap2] 35)) w' → Hid (PuS w [.int .i64 xn, .int .i64 xsz, .string xsum, .slice pa xpn pc] (.slice ad' (k + 1) cap') (k + 1) (q.take k ++ [(.slice ad2 pn cap2, ⟨n, sz, sum, ps⟩)]) w')) := fun ad' cap' w' hr hk => HP2A.out.app hr hk
      clear HP2 HP2A
      generalize ptC (.slice ad2 pn cap2, ⟨n, sz, sum, ps⟩) = XS at *
      generalize tqC (q.take k) = PA at *
      go_wp2_with (at_builtin; refine wpl_gappL rfl _ _ elRT rfl (w.heap.size + 1) (.slice ad1 k cp1) (.slice (some ⟨w3.heap.size, 0, none⟩) 1 1) PA XS k 1 (k + 1) rfl rfl rfl HGA.out HSZ.out HGX.out HX2.out HO1.out HQ1.out HQ2.out ?_; intro ad' cap' w' hr' hk')
      have F1 := FAP.out _ _ _ hr' hk'
      clear hr' hk' FAP HGA HGX HSZ HO1 HX2 HQ1 HQ2
      clear d0 d1 d2 d3
      rw [← HTK.out] at F1
      go_wp2
      exact ⟨⟨k + 1, _, _, HLT.out, rfl, by first | rw [hwk] | rfl | simp, F1⟩, by (try rw [hwk]); have := HLT.out; simp [intOf]; omega⟩
    · have hkj : k = J := by omega
      subst hkj
      have QB : Hid (∃ nq, True) := ⟨0, trivial⟩
      by_cases hkl : k < q.length
      · have hk1 : (k : Int) < (q.length : Int) := by omega
        have hk0 : (0 : Int) ≤ (k : Int) := by omega
        have hd1 : decide ((k : Int) < (q.length : Int)) = true := decide_eq_true hk1
        have hd2 : decide (k < q.length) = true := decide_eq_true hkl
        obtain ⟨b, off, e1, hb, c0, c1, c2, c3, hp⟩ := HC.out k hkl
        subst e1
        have d0 := (HP.out.b.b.cell (p := ⟨b, off + k * 4, none⟩) hb).trans c0
        have hge := (HS.out k hkl).2.1 (Nat.le_refl _)
        have g1 : decide (q[k].2.n < xn) = false := decide_eq_false (by omega)
        have HKL := hid hkl
        clear c0 c1 c2 c3 hp hb hge hlt hk hkq QB
        generalize q[k].2.n = zn at *
        clear hkl
        go_wp2
        go_quiet (fail)
        have HP2 := hid (HP.out.drewN nq)
        clear HP y0 d0 hk1 hk0 hd1 hd2 g1
        generalize wr.drewN nq = w3 at *
        have y0 := HP2.out.b.row.cellAt (o := 0) rfl
        have y1 := HP2.out.b.row.cellAt (o := 1) rfl
        have y2 := HP2.out.b.row.cellAt (o := 2) rfl
        have y3 := HP2.out.b.row.cellAt (o := 3) rfl
        have HQ1 : Hid (k + 1 ≤ 4611686018427387904) := by have := HL.out; have := HJ.out; show _ ≤ _; omega
        have HQ2 : Hid ((k + 1) * 56 ≤ 140737488355328) := by have := HL.out; have := HJ.out; show _ ≤ _; omega
        have HP2A := hid (HP2.out.al (.cells #[.int .i64 xn, .int .i64 xsz, .string xsum, .slice pa xpn pc] 35))
        have HGA := hid HP2A.out.r
        have HSZ := hid HP2A.out.size
        have HGX : Hid (GSrc (w3.alloc (.cells #[.int .i64 xn, .int .i64 xsz, .string xsum, .slice pa xpn pc] 35)) (.slice (some ⟨w3.heap.size, 0, none⟩) 1 1) 1 (ptC (.slice pa xpn pc, ⟨xn, xsz, xsum, xps⟩))) := gsrc_block (heap_alloc_new _ _)
        have HO1 : Hid (∀ u ∈ ptC (.slice pa xpn pc, ⟨xn, xsz, xsum, xps⟩), u.oneCell' = true) := ptC_cell _ _ _ _
        have HX2 : Hid ((ptC (.slice pa xpn pc, ⟨xn, xsz, xsum, xps⟩)).length = 1 * 4) := rfl
        have FAP : Hid (∀ ad' cap' w', w'.ownsRow (w.heap.size + 1) 35 4 (.slice ad' (k + 1) cap') (k + 1) (tqC (q.take k) ++ ptC (.slice pa xpn pc, ⟨xn, xsz, xsum, xps⟩)) → Keep (fun j => (Value.slice ad1 k cp1).ownBlock = some j) (w3.alloc (.cells #[.int .i64 xn, .int .i64 xsz, .string xsum, .slice pa xpn pc] 35)) w' → Hid (PuS w [.int .i64 xn, .int .i64 xsz, .string xsum, .slice pa xpn pc] (.slice ad' (k + 1) cap') (k + 1) (q.take k ++ [(.slice pa xpn pc, ⟨xn, xsz, xsum, xps⟩)]) w')) := fun ad' cap' w' hr hk => HP2A.out.app hr hk
        clear HP2 HP2A
        generalize ptC (.slice pa xpn pc, ⟨xn, xsz, xsum, xps⟩) = XS at *
        generalize tqC (q.take k) = PA at *
        go_wp2_with (at_builtin; refine wpl_gappL rfl _ _ elRT rfl (w.heap.size + 1) (.slice ad1 k cp1) (.slice (some ⟨w3.heap.size, 0, none⟩) 1 1) PA XS k 1 (k + 1) rfl rfl rfl HGA.out HSZ.out HGX.out HX2.out HO1.out HQ1.out HQ2.out ?_; intro ad' cap' w' hr' hk')
        have F1 := FAP.out _ _ _ hr' hk'
        clear hr' hk' FAP HGA HGX HSZ HO1 HX2 HQ1 HQ2
        clear y0 y1 y2 y3
        have HZ0 : Hid ((q.take 0).drop K = []) := by show _ = _; simp
        go_wp2
        go_loopw [6, 8] (fun o i wr => ∃ (j m : Nat) (ad2 : Option Addr) (cp2 : Nat), j ≤ q.length ∧ o = .slice ad2 m cp2 ∧ i = .int .i64 (j : Int) ∧ Hid (PuS w [.int .i64 xn, .int .i64 xsz, .string xsum, .slice pa xpn pc] (.slice ad2 m cp2) m (q.take k ++ [((.slice pa xpn pc : Value), (⟨xn, xsz, xsum, xps⟩ : Pt))] ++ (q.take j).drop K) wr)) (fun _ i _ => q.length - (intOf i).toNat)
        case atStart => exact ⟨0, k + 1, _, _, Nat.zero_le _, rfl, rfl, by rw [HZ0.out, List.append_nil]; exact F1⟩
        case round =>
          clear F1 HZ0
          obtain ⟨j, m, ad2, cp2, hj, rfl, rfl, HP⟩ := hrel
          by_cases hjl : j < q.length
          · have hj1 : (j : Int) < (q.length : Int) := by omega
            have hj0 : (0 : Int) ≤ (j : Int) := by omega
            have hwj : wrap64 ((j : Int) + 1) = ((j + 1 : Nat) : Int) := by have := HL.out; rw [IntWalk.wrap64_in _ (by omega)]; omega
            obtain ⟨b, off, e1, hb, c0, c1, c2, c3, hp⟩ := HC.out j hjl
            first | subst e1 | (injection e1 with e1; injection e1 with e1 e2; subst e1 e2)
            have HCE : Hid (∀ W, Below w.heap.size w W → W.cell? ⟨b, off + j * 4, none⟩ = some (.int .i64 q[j].2.n) ∧ W.cell? ⟨b, off + j * 4 + 1, none⟩ = some (.int .i64 q[j].2.sz) ∧ W.cell? ⟨b, off + j * 4 + 2, none⟩ = some (.string q[j].2.sum) ∧ W.cell? ⟨b, off + j * 4 + 3, none⟩ = some q[j].1) := fun W hW => ⟨(hW.cell hb).trans c0, (hW.cell hb).trans c1, (hW.cell hb).trans c2, (hW.cell hb).trans c3⟩
            have y0 := HP.out.b.row.cellAt (o := 0) rfl
            have HJL := hid hjl
            have hm100 : m ≤ 201 := by
              have h1 := HP.out.n
              have h2 := HL.out
              simp only [List.length_append, List.length_take, List.length_drop, List.length_cons, List.length_nil] at h1
              omega
            have hpf := hp.sl
            by_cases hjk : K ≤ j
            · have hgt := (HS.out j hjl).2.2.2 hjk
              have g1 : decide (xn < q[j].2.n) = true := decide_eq_true hgt
              have HDS : Hid ((q.take (j + 1)).drop K = (q.take j).drop K ++ [q[j]]) := dr_succ q j K hjl hjk
              have HQ1 : Hid (m + 1 ≤ 4611686018427387904) := by show _ ≤ _; omega
              have HQ2 : Hid ((m + 1) * 56 ≤ 140737488355328) := by show _ ≤ _; omega
              clear HC HJ HS HIN HTP HSL HXP c0 c1 c2 c3 hp hb hgt HL hm100
              generalize q[j] = z at *
              clear hj hjl hjk
              obtain ⟨pv, n, sz, sum, ps⟩ := z
              simp only at *
              obtain ⟨ad4, cap4, rfl⟩ := hpf
              generalize ps.length = pn at *
              obtain ⟨d0, d1, d2, d3⟩ := HCE.out _ HP.out.b.b
              go_wp2
              go_quiet (fail)
              have HP3 := hid (HP.out.drewN nq)
              clear HP y0 d0 d1 d2 d3
              generalize wr.drewN nq = w5 at *
              obtain ⟨d0, d1, d2, d3⟩ := HCE.out _ HP3.out.b.b
              clear HCE
              have HP3A := hid (HP3.out.al (.cells #[.int .i64 n, .int .i64 sz, .string sum, .slice ad4 pn cap4] 35))
              have HGA := hid HP3A.out.r
              have HSZ := hid HP3A.out.size
              have HGX : Hid (GSrc (w5.alloc (.cells #[.int .i64 n, .int .i64 sz, .string sum, .slice ad4 pn cap4] 35)) (.slice (some ⟨w5.heap.size, 0, none⟩) 1 1) 1 (ptC (.slice ad4 pn cap4, ⟨n, sz, sum, ps⟩))) := gsrc_block (heap_alloc_new _ _)
              have HO1 : Hid (∀ u ∈ ptC (.slice ad4 pn cap4, ⟨n, sz, sum, ps⟩), u.oneCell' = true) := ptC_cell _ _ _ _
              have HX2 : Hid ((ptC (.slice ad4 pn cap4, ⟨n, sz, sum, ps⟩)).length = 1 * 4) := rfl
              have FAP : Hid (∀ ad' cap' w', w'.ownsRow (w.heap.size + 1) 35 4 (.slice ad' (m + 1) cap') (m + 1) (tqC (q.take k ++ [((.slice pa xpn pc : Value), (⟨xn, xsz, xsum, xps⟩ : Pt))] ++ (q.take j).drop K) ++ ptC (.slice ad4 pn cap4, ⟨n, sz, sum, ps⟩)) → Keep (fun j => (Value.slice ad2 m cp2).ownBlock = some j) (w5.alloc (.cells #[.int .i64 n, .int .i64 sz, .string sum, .slice ad4 pn cap4] 35)) w' → Hid (PuS w [.int .i64 xn, .int .i64 xsz, .string xsum, .slice pa xpn pc] (.slice ad' (m + 1) cap') (m + 1) (q.take k ++ [((.slice pa xpn pc : Value), (⟨xn, xsz, xsum, xps⟩ : Pt))] ++ (q.take j).drop K ++ [(.slice ad4 pn cap4, ⟨n, sz, sum, ps⟩)]) w')) := fun ad' cap' w' hr hk => HP3A.out.app hr hk
              clear HP3 HP3A
              generalize ptC (.slice ad4 pn cap4, ⟨n, sz, sum, ps⟩) = XS at *
              generalize tqC (q.take k ++ [((.slice pa xpn pc : Value), (⟨xn, xsz, xsum, xps⟩ : Pt))] ++ (q.take j).drop K) = PA at *
              go_wp2_with (at_builtin; refine wpl_gappL rfl _ _ elRT rfl (w.heap.size + 1) (.slice ad2 m cp2) (.slice (some ⟨w5.heap.size, 0, none⟩) 1 1) PA XS m 1 (m + 1) rfl rfl rfl HGA.out HSZ.out HGX.out HX2.out HO1.out HQ1.out HQ2.out ?_; intro ad' cap' w' hr' hk')
              have F3 := FAP.out _ _ _ hr' hk'
              clear hr' hk' FAP HGA HGX HSZ HO1 HX2 HQ1 HQ2
              clear d0 d1 d2 d3
              rw [List.append_assoc, ← HDS.out] at F3
              go_wp2
              exact ⟨⟨j + 1, m + 1, _, _, HJL.out, rfl, by first | rw [hwj] | rfl | simp, F3⟩, by (try rw [hwj]); have := HJL.out; simp [intOf]; omega⟩
            · have hle := (HS.out j hjl).2.2.1 (by omega)
              have g1 : decide (xn < q[j].2.n) = false := decide_eq_false (by omega)
              have HDS : Hid ((q.take (j + 1)).drop K = (q.take j).drop K) := by show _ = _; rw [dr_nil q (j + 1) K (by omega), dr_nil q j K (by omega)]
              have d0 := (HP.out.b.b.cell (p := ⟨b, off + j * 4, none⟩) hb).trans c0
              clear HC HJ HS HIN HTP HSL HXP c0 c1 c2 c3 hp hb hle HL hm100 HCE hpf
              generalize q[j].2.n = zn at *
              clear hj hjl hjk
              go_wp2
              go_quiet (fail)
              have HP3 := hid (HP.out.drewN nq)
              clear HP y0 d0
              rw [← HDS.out] at HP3
              go_wp2
              exact ⟨⟨j + 1, m, _, _, HJL.out, rfl, by first | rw [hwj] | rfl | simp, HP3⟩, by (try rw [hwj]); have := HJL.out; simp [intOf]; omega⟩
          · have hje : j = q.length := by omega
            have hd1 : decide ((j : Int) < (q.length : Int)) = false := decide_eq_false (by omega)
            have hd2 : decide (j < q.length) = false := decide_eq_false hjl
            subst hje
            rw [List.take_length, List.append_assoc, List.singleton_append] at HP
            have FI : Hid (PtI wr (.slice ad2 m cp2) (q.take k ++ ((.slice pa xpn pc : Value), (⟨xn, xsz, xsum, xps⟩ : Pt)) :: q.drop K)) := ⟨by have := RowC.own HP.out.r; rw [HP.out.n]; exact this, HTP.out _ HP.out.b.b k K⟩
            clear HC HJ HS HTP HSL HXP HL hj hjl
            go_wp2
            go_ret2
            exact ⟨ad2, m, cp2, _, rfl, HIN.out, FI.out, HP.out.b.b⟩
      · have hd1 : decide ((k : Int) < (q.length : Int)) = false := decide_eq_false (by omega)
        have hd2 : decide (k < q.length) = false := decide_eq_false hkl
        clear hlt hk hkq QB hkl
        go_wp2
        go_quiet (fail)
        have HP2 := hid (HP.out.drewN nq)
        clear HP y0 hd1 hd2
        generalize wr.drewN nq = w3 at *
        have y0 := HP2.out.b.row.cellAt (o := 0) rfl
        have y1 := HP2.out.b.row.cellAt (o := 1) rfl
        have y2 := HP2.out.b.row.cellAt (o := 2) rfl
        have y3 := HP2.out.b.row.cellAt (o := 3) rfl
        have HQ1 : Hid (k + 1 ≤ 4611686018427387904) := by have := HL.out; have := HJ.out; show _ ≤ _; omega
        have HQ2 : Hid ((k + 1) * 56 ≤ 140737488355328) := by have := HL.out; have := HJ.out; show _ ≤ _; omega
        have HP2A := hid (HP2.out.al (.cells #[.int .i64 xn, .int .i64 xsz, .string xsum, .slice pa xpn pc] 35))
        have HGA := hid HP2A.out.r
        have HSZ := hid HP2A.out.size
        have HGX : Hid (GSrc (w3.alloc (.cells #[.int .i64 xn, .int .i64 xsz, .string xsum, .slice pa xpn pc] 35)) (.slice (some ⟨w3.heap.size, 0, none⟩) 1 1) 1 (ptC (.slice pa xpn pc, ⟨xn, xsz, xsum, xps⟩))) := gsrc_block (heap_alloc_new _ _)
        have HO1 : Hid (∀ u ∈ ptC (.slice pa xpn pc, ⟨xn, xsz, xsum, xps⟩), u.oneCell' = true) := ptC_cell _ _ _ _
        have HX2 : Hid ((ptC (.slice pa xpn pc, ⟨xn, xsz, xsum, xps⟩)).length = 1 * 4) := rfl
        have FAP : Hid (∀ ad' cap' w', w'.ownsRow (w.heap.size + 1) 35 4 (.slice ad' (k + 1) cap') (k + 1) (tqC (q.take k) ++ ptC (.slice pa xpn pc, ⟨xn, xsz, xsum, xps⟩)) → Keep (fun j => (Value.slice ad1 k cp1).ownBlock = some j) (w3.alloc (.cells #[.int .i64 xn, .int .i64 xsz, .string xsum, .slice pa xpn pc] 35)) w' → Hid (PuS w [.int .i64 xn, .int .i64 xsz, .string xsum, .slice pa xpn pc] (.slice ad' (k + 1) cap') (k + 1) (q.take k ++ [(.slice pa xpn pc, ⟨xn, xsz, xsum, xps⟩)]) w')) := fun ad' cap' w' hr hk => HP2A.out.app hr hk
        clear HP2 HP2A
        generalize ptC (.slice pa xpn pc, ⟨xn, xsz, xsum, xps⟩) = XS at *
        generalize tqC (q.take k) = PA at *
        go_wp2_with (at_builtin; refine wpl_gappL rfl _ _ elRT rfl (w.heap.size + 1) (.slice ad1 k cp1) (.slice (some ⟨w3.heap.size, 0, none⟩) 1 1) PA XS k 1 (k + 1) rfl rfl rfl HGA.out HSZ.out HGX.out HX2.out HO1.out HQ1.out HQ2.out ?_; intro ad' cap' w' hr' hk')
        have F1 := FAP.out _ _ _ hr' hk'
        clear hr' hk' FAP HGA HGX HSZ HO1 HX2 HQ1 HQ2
        clear y0 y1 y2 y3
        have HZ0 : Hid ((q.take 0).drop K = []) := by show _ = _; simp
        go_wp2
        go_loopw [6, 8] (fun o i wr => ∃ (j m : Nat) (ad2 : Option Addr) (cp2 : Nat), j ≤ q.length ∧ o = .slice ad2 m cp2 ∧ i = .int .i64 (j : Int) ∧ Hid (PuS w [.int .i64 xn, .int .i64 xsz, .string xsum, .slice pa xpn pc] (.slice ad2 m cp2) m (q.take k ++ [((.slice pa xpn pc : Value), (⟨xn, xsz, xsum, xps⟩ : Pt))] ++ (q.take j).drop K) wr)) (fun _ i _ => q.length - (intOf i).toNat)
        case atStart => exact ⟨0, k + 1, _, _, Nat.zero_le _, rfl, rfl, by rw [HZ0.out, List.append_nil]; exact F1⟩
        case round =>
          clear F1 HZ0
          obtain ⟨j, m, ad2, cp2, hj, rfl, rfl, HP⟩ := hrel
          by_cases hjl : j < q.length
          · have hj1 : (j : Int) < (q.length : Int) := by omega
            have hj0 : (0 : Int) ≤ (j : Int) := by omega
            have hwj : wrap64 ((j : Int) + 1) = ((j + 1 : Nat) : Int) := by have := HL.out; rw [IntWalk.wrap64_in _ (by omega)]; omega
            obtain ⟨b, off, e1, hb, c0, c1, c2, c3, hp⟩ := HC.out j hjl
            first | subst e1 | (injection e1 with e1; injection e1 with e1 e2; subst e1 e2)
            have HCE : Hid (∀ W, Below w.heap.size w W → W.cell? ⟨b, off + j * 4, none⟩ = some (.int .i64 q[j].2.n) ∧ W.cell? ⟨b, off + j * 4 + 1, none⟩ = some (.int .i64 q[j].2.sz) ∧ W.cell? ⟨b, off + j * 4 + 2, none⟩ = some (.string q[j].2.sum) ∧ W.cell? ⟨b, off + j * 4 + 3, none⟩ = some q[j].1) := fun W hW => ⟨(hW.cell hb).trans c0, (hW.cell hb).trans c1, (hW.cell hb).trans c2, (hW.cell hb).trans c3⟩
            have y0 := HP.out.b.row.cellAt (o := 0) rfl
            have HJL := hid hjl
            have hm100 : m ≤ 201 := by
              have h1 := HP.out.n
              have h2 := HL.out
              simp only [List.length_append, List.length_take, List.length_drop, List.length_cons, List.length_nil] at h1
              omega
            have hpf := hp.sl
            by_cases hjk : K ≤ j
            · have hgt := (HS.out j hjl).2.2.2 hjk
              have g1 : decide (xn < q[j].2.n) = true := decide_eq_true hgt
              have HDS : Hid ((q.take (j + 1)).drop K = (q.take j).drop K ++ [q[j]]) := dr_succ q j K hjl hjk
              have HQ1 : Hid (m + 1 ≤ 4611686018427387904) := by show _ ≤ _; omega
              have HQ2 : Hid ((m + 1) * 56 ≤ 140737488355328) := by show _ ≤ _; omega
              clear HC HJ HS HIN HTP HSL HXP c0 c1 c2 c3 hp hb hgt HL hm100
              generalize q[j] = z at *
              clear hj hjl hjk
              obtain ⟨pv, n, sz, sum, ps⟩ := z
              simp only at *
              obtain ⟨ad4, cap4, rfl⟩ := hpf
              generalize ps.length = pn at *
              obtain ⟨d0, d1, d2, d3⟩ := HCE.out _ HP.out.b.b
              go_wp2
              go_quiet (fail)
              have HP3 := hid (HP.out.drewN nq)
              clear HP y0 d0 d1 d2 d3
              generalize wr.drewN nq = w5 at *
              obtain ⟨d0, d1, d2, d3⟩ := HCE.out _ HP3.out.b.b
              clear HCE
              have HP3A := hid (HP3.out.al (.cells #[.int .i64 n, .int .i64 sz, .string sum, .slice ad4 pn cap4] 35))
              have HGA := hid HP3A.out.r
              have HSZ := hid HP3A.out.size
              have HGX : Hid (GSrc (w5.alloc (.cells #[.int .i64 n, .int .i64 sz, .string sum, .slice ad4 pn cap4] 35)) (.slice (some ⟨w5.heap.size, 0, none⟩) 1 1) 1 (ptC (.slice ad4 pn cap4, ⟨n, sz, sum, ps⟩))) := gsrc_block (heap_alloc_new _ _)
              have HO1 : Hid (∀ u ∈ ptC (.slice ad4 pn cap4, ⟨n, sz, sum, ps⟩), u.oneCell' = true) := ptC_cell _ _ _ _
              have HX2 : Hid ((ptC (.slice ad4 pn cap4, ⟨n, sz, sum, ps⟩)).length = 1 * 4) := rfl
              have FAP : Hid (∀ ad' cap' w', w'.ownsRow (w.heap.size + 1) 35 4 (.slice ad' (m + 1) cap') (m + 1) (tqC (q.take k ++ [((.slice pa xpn pc : Value), (⟨xn, xsz, xsum, xps⟩ : Pt))] ++ (q.take j).drop K) ++ ptC (.slice ad4 pn cap4, ⟨n, sz, sum, ps⟩)) → Keep (fun j => (Value.slice ad2 m cp2).ownBlock = some j) (w5.alloc (.cells #[.int .i64 n, .int .i64 sz, .string sum, .slice ad4 pn cap4] 35)) w' → Hid (PuS w [.int .i64 xn, .int .i64 xsz, .string xsum, .slice pa xpn pc] (.slice ad' (m + 1) cap') (m + 1) (q.take k ++ [((.slice pa xpn pc : Value), (⟨xn, xsz, xsum, xps⟩ : Pt))] ++ (q.take j).drop K ++ [(.slice ad4 pn cap4, ⟨n, sz, sum, ps⟩)]) w')) := fun ad' cap' w' hr hk => HP3A.out.app hr hk
              clear HP3 HP3A
              generalize ptC (.slice ad4 pn cap4, ⟨n, sz, sum, ps⟩) = XS at *
              generalize tqC (q.take k ++ [((.slice pa xpn pc : Value), (⟨xn, xsz, xsum, xps⟩ : Pt))] ++ (q.take j).drop K) = PA at *
              go_wp2_with (at_builtin; refine wpl_gappL rfl _ _ elRT rfl (w.heap.size + 1) (.slice ad2 m cp2) (.slice (some ⟨w5.heap.size, 0, none⟩) 1 1) PA XS m 1 (m + 1) rfl rfl rfl HGA.out HSZ.out HGX.out HX2.out HO1.out HQ1.out HQ2.out ?_; intro ad' cap' w' hr' hk')
              have F3 := FAP.out _ _ _ hr' hk'
              clear hr' hk' FAP HGA HGX HSZ HO1 HX2 HQ1 HQ2
              clear d0 d1 d2 d3
              rw [List.append_assoc, ← HDS.out] at F3
              go_wp2
              exact ⟨⟨j + 1, m + 1, _, _, HJL.out, rfl, by first | rw [hwj] | rfl | simp, F3⟩, by (try rw [hwj]); have := HJL.out; simp [intOf]; omega⟩
            · have hle := (HS.out j hjl).2.2.1 (by omega)
              have g1 : decide (xn < q[j].2.n) = false := decide_eq_false (by omega)
              have HDS : Hid ((q.take (j + 1)).drop K = (q.take j).drop K) := by show _ = _; rw [dr_nil q (j + 1) K (by omega), dr_nil q j K (by omega)]
              have d0 := (HP.out.b.b.cell (p := ⟨b, off + j * 4, none⟩) hb).trans c0
              clear HC HJ HS HIN HTP HSL HXP c0 c1 c2 c3 hp hb hle HL hm100 HCE hpf
              generalize q[j].2.n = zn at *
              clear hj hjl hjk
              go_wp2
              go_quiet (fail)
              have HP3 := hid (HP.out.drewN nq)
              clear HP y0 d0
              rw [← HDS.out] at HP3
              go_wp2
              exact ⟨⟨j + 1, m, _, _, HJL.out, rfl, by first | rw [hwj] | rfl | simp, HP3⟩, by (try rw [hwj]); have := HJL.out; simp [intOf]; omega⟩
          · have hje : j = q.length := by omega
            have hd1 : decide ((j : Int) < (q.length : Int)) = false := decide_eq_false (by omega)
            have hd2 : decide (j < q.length) = false := decide_eq_false hjl
            subst hje
            rw [List.take_length, List.append_assoc, List.singleton_append] at HP
            have FI : Hid (PtI wr (.slice ad2 m cp2) (q.take k ++ ((.slice pa xpn pc : Value), (⟨xn, xsz, xsum, xps⟩ : Pt)) :: q.drop K)) := ⟨by have := RowC.own HP.out.r; rw [HP.out.n]; exact this, HTP.out _ HP.out.b.b k K⟩
            clear HC HJ HS HTP HSL HXP HL hj hjl
            go_wp2
            go_ret2
            exact ⟨ad2, m, cp2, _, rfl, HIN.out, FI.out, HP.out.b.b⟩
end Go.Proofs.Ytbiapepalkdkdab
namespace Go.Proofs.Ytbiapepalkdkdab
open Go.RowKit Go.Maps
set_option linter.unusedVariables false
set_option linter.unusedSimpArgs false

def pcI9 (l : List Pc) : List ByteArray := l.map (·.id)
theorem ss_one9 (l : List ByteArray) : ∀ u ∈ ss l, u.oneCell' = true := by
  intro u hu
  obtain ⟨x, _, rfl⟩ := List.mem_map.1 hu
  rfl
theorem pcI9_take (l : List Pc) (k : Nat) (hk : k < l.length) : pcI9 (l.take (k + 1)) = pcI9 (l.take k) ++ [l[k].id] := by
  unfold pcI9; rw [List.take_succ_eq_append_getElem hk, List.map_append]; rfl
set_option maxRecDepth 100000 in
set_option maxHeartbeats 2000000 in
theorem pids9_any (v : Value) (l : List Pc) (w : World) (hv : PcI w v l) (hl : l.length ≤ 1048576) (hb : ∀ x ∈ l, x.id.size ≤ 1048576) :
    Calls Try.prog 41 #[v] w fun e w' => ∃ ad cap, e = .returned (.slice ad l.length cap) ∧ w'.ownsRow w.heap.size 9 1 (.slice ad l.length cap) l.length (ss (pcI9 l)) ∧ Below w.heap.size w w' := by
  obtain ⟨ad, cap, rfl, hc⟩ := hv.form
  have HC := hid hc
  have HCL : Hid (∀ (k : Nat) (hk : k < l.length) (W : World), Calls Try.prog 71 #[.string l[k].id] W fun e w' => e = .returned (.string l[k].id) ∧ Below W.heap.size W w') := fun k hk W => clone_any _ W (by have := hb _ (List.getElem_mem hk); omega)
  have HT : Hid (∀ (k : Nat) (hk : k < l.length), ss (pcI9 (l.take (k + 1))) = ss (pcI9 (l.take k)) ++ [.string l[k].id]) := fun k hk => by rw [pcI9_take l k hk, ss_app9]; rfl
  have HZ : Hid (l.take l.length = l) := List.take_length
  have HR0 : Hid (w.ownsRow w.heap.size 9 1 (.slice none 0 0) 0 (ss (pcI9 (l.take 0)))) := ⟨rfl, .inl ⟨rfl, rfl⟩⟩
  clear hv hb hc
  go_enter Try.func41, Try.ntmps41
  go_wp2
  go_loopw [3, 8] (fun o i wr => ∃ (k : Nat) (ad0 : Option Addr) (cp0 : Nat), k ≤ l.length ∧ i = .int .i64 k ∧ o = .slice ad0 k cp0 ∧ Hid (wr.ownsRow w.heap.size 9 1 (.slice ad0 k cp0) k (ss (pcI9 (l.take k)))) ∧ Hid (Below w.heap.size w wr)) (fun _ i _ => l.length - (intOf i).toNat)
  case atStart => exact ⟨0, none, 0, by omega, rfl, rfl, HR0, Below.refl _ _⟩
  case round =>
    clear HR0
    obtain ⟨k, ad0, cp0, hk, rfl, rfl, HR, HB⟩ := hrel
    by_cases hlt : k < l.length
    · have hk0 : (0 : Int) ≤ (k : Int) := by omega
      have hk1 : (k : Int) < (l.length : Int) := by omega
      obtain ⟨b, off, rfl, hb, c0, c1⟩ := HC.out k hlt
      have d0 := (HB.out.cell (p := ⟨b, off + k * 2, none⟩) hb).trans c0
      have d1 := (HB.out.cell (p := ⟨b, off + k * 2 + 1, none⟩) hb).trans c1
      have CL := hid (HCL.out k hlt)
      have HPL := hid (HT.out k hlt)
      clear HC HCL HT HZ c0 c1 hb
      generalize l[k] = y at *
      obtain ⟨NN, F⟩ := y
      simp only at *
      have BX := hid (Bx.made HB.out [.string NN, .int .i64 F] 69)
      have y0 := BX.out.row.cellAt (o := 0) rfl
      have RX := hid (((keep_alloc (fun _ => False) wr (.cells #[.string NN, .int .i64 F] 69)).ownsRow HR.out (fun _ _ h => h)))
      go_wp2_with fail
      refine (CL.out _).mono ?_
      rintro e w1 ⟨rfl, b1⟩
      have B1 := hid (BX.out.next b1)
      have R1 := hid ((b1.keep (fun _ => False)).ownsRow RX.out (fun _ _ h => h))
      clear b1 CL BX RX y0 HR HB d0 d1
      have HGA := hid ((keep_alloc (fun _ => False) w1 (.cells #[.string NN] 9)).ownsRow R1.out (fun _ _ h => h))
      have HGX : Hid (GSrc (w1.alloc (.cells #[.string NN] 9)) (.slice (some ⟨w1.heap.size, 0, none⟩) 1 1) 1 [.string NN]) := gsrc_block (heap_alloc_new _ _)
      have HSZ : Hid (w.heap.size ≤ (w1.alloc (.cells #[.string NN] 9)).heap.size) := Nat.le_trans B1.out.b.size (keep_alloc (fun _ => False) _ _).size
      have HO1 : Hid (∀ u ∈ [Value.string NN], u.oneCell' = true) := fun u hu => by simp at hu; subst hu; rfl
      have HB1 : Hid (k + 1 ≤ 4611686018427387904) := by show _ ≤ _; omega
      have HB2 : Hid ((k + 1) * 16 ≤ 140737488355328) := by show _ ≤ _; omega
      have FIN : Hid (∀ ad' cap' w', w'.ownsRow w.heap.size 9 1 (.slice ad' (k + 1) cap') (k + 1) (ss (pcI9 (l.take k)) ++ [.string NN]) → Keep (fun j => (Value.slice ad0 k cp0).ownBlock = some j) (w1.alloc (.cells #[.string NN] 9)) w' → Hid (w'.ownsRow w.heap.size 9 1 (.slice ad' (k + 1) cap') (k + 1) (ss (pcI9 (l.take (k + 1))))) ∧ Hid (Below w.heap.size w w')) := fun ad' cap' w' hr hk' => by
        refine ⟨?_, (below_al B1.out.b _).trans (keep_below hk' (fun j hj e => by have := ownsRow_ge HGA.out e; omega) HSZ.out)⟩
        show World.ownsRow _ _ _ _ _ _ _
        rw [HPL.out]; exact hr
      have HX2 : Hid ([Value.string NN].length = 1 * 1) := rfl
      generalize ss (pcI9 (l.take k)) = YS at *
      clear HPL R1 B1
      go_wp2_with (at_builtin; refine wpl_gappL rfl _ _ elS9 rfl w.heap.size (.slice ad0 k cp0) (.slice (some ⟨w1.heap.size, 0, none⟩) 1 1) YS [.string NN] k 1 (k + 1) rfl rfl rfl HGA.out HSZ.out HGX.out HX2.out HO1.out HB1.out HB2.out ?_; intro ad' cap' w' hr' hk')
      obtain ⟨F1, F2⟩ := FIN.out _ _ _ hr' hk'
      clear hr' hk' FIN HGA HGX HSZ
      go_wp2
      exact ⟨⟨k + 1, _, _, by omega, by go_num, rfl, F1, F2⟩, by simp [intOf]; omega⟩
    · have hd : decide ((k : Int) < (l.length : Int)) = false := decide_eq_false (by omega)
      have hke : k = l.length := by omega
      have HF : Hid (wr.ownsRow w.heap.size 9 1 (.slice ad0 k cp0) l.length (ss (pcI9 l))) := by
        have := HR.out
        rw [hke, HZ.out] at this
        rw [hke]
        exact this
      have HKE := hid hke
      clear HC HCL HT HZ HR hke
      go_wp2
      go_ret
      refine ⟨ad0, cp0, ?_, ?_, HB.out⟩
      · rw [HKE.out]; rfl
      · have := HF.out; rw [HKE.out] at this; exact this
def idsT (l : List Pt) : List ByteArray := l.flatMap fun v => pcI9 v.ps
def ptIs (l : List Pt) : List ByteArray := if arePt l = true then idsT l else []
theorem idsT_take (q : List (Value × Pt)) (k : Nat) (hk : k < q.length) : idsT (tqL (q.take (k + 1))) = idsT (tqL (q.take k)) ++ pcI9 q[k].2.ps := by
  unfold idsT tqL; rw [List.take_succ_eq_append_getElem hk, List.map_append, List.flatMap_append]; simp
theorem idsT_len (q : List (Value × Pt)) (k : Nat) (h : ∀ y ∈ q, y.2.ps.length ≤ 512) : (idsT (tqL (q.take k))).length ≤ 512 * k := by
  induction k with
  | zero => simp [tqL, idsT]
  | succ k ih =>
    by_cases hk : k < q.length
    · rw [idsT_take q k hk, List.length_append]
      have := h _ (List.getElem_mem hk)
      simp only [pcI9, List.length_map]
      omega
    · rw [List.take_of_length_le (by omega)]
      rw [List.take_of_length_le (by omega)] at ih
      omega
theorem app_strs9 {w W w' : World} {B : Nat} {v : Value} {xs : List Value} {n : Nat} (h : W.ownsRow B 9 1 v n xs) (hw : Below w.heap.size w W) (hB : B = w.heap.size) (hk : Keep (fun j => v.ownBlock = some j) W w') : Below w.heap.size w w' :=
  hw.trans (keep_below hk (fun j hj e => by have := ownsRow_ge h e; omega) hw.size)
set_option maxRecDepth 100000 in
set_option maxHeartbeats 2000000 in
theorem tids_any (v : Value) (q : List (Value × Pt)) (w : World) (hv : PtI w v q) (hl : q.length ≤ 8796093022208) : Calls Try.prog 17 #[v] w fun e w' => ∃ u, e = .returned u ∧ Strs w' u (ptIs (tqL q)) ∧ Below w.heap.size w w' := by
  obtain ⟨ad, cap, rfl, hc⟩ := hv.form
  have IC := hid (areParts_any (.slice ad q.length cap) q w hv hl)
  have HC := hid hc
  have HLN : Hid (arePt (tqL q) = true → q.length ≤ 100) := fun h => by have := arePt_len h; rw [tqL_len] at this; exact this
  have HPS : Hid (arePt (tqL q) = true → ∀ y ∈ q, y.2.ps.length ≤ 512 ∧ ∀ p ∈ y.2.ps, p.id.size ≤ 1048576) := fun h y hy => by
    have h1 := arePt_all h _ (tq_mem hy)
    exact ⟨(ptOk_b h1).2.2.1, (ptOk_sz h1).2.1⟩
  have HI : Hid (ptIs (tqL q) = if arePt (tqL q) = true then idsT (tqL q) else []) := rfl
  have HT : Hid (∀ (k : Nat) (hk : k < q.length), idsT (tqL (q.take (k + 1))) = idsT (tqL (q.take k)) ++ pcI9 q[k].2.ps) := idsT_take q
  generalize ptIs (tqL q) = CI at *
  generalize arePt (tqL q) = IS at *
  clear hc hv
  go_enter Try.func17, Try.ntmps17
  go_wp2_with fail
  refine IC.out.mono ?_
  rintro e w1 ⟨rfl, b1⟩
  have B1 := hid b1
  clear IC b1
  cases IS
  · have hi : CI = [] := HI.out
    subst hi
    clear HC HLN HPS HI HT
    go_wp2
    go_ret
    exact ⟨_, rfl, .inl ⟨rfl, none, 0, rfl⟩, B1.out⟩
  · have hi : CI = idsT (tqL q) := HI.out
    have HPS2 := hid (HPS.out rfl)
    have HL := hid (HLN.out rfl)
    have HLE : Hid (∀ k, (idsT (tqL (q.take k))).length ≤ 512 * k) := fun k => idsT_len q k (fun y hy => (HPS2.out y hy).1)
    subst hi
    clear HPS HLN HI
    go_wp2
    go_loopw [3, 11] (fun o i wr => ∃ (k m : Nat) (ad0 : Option Addr) (cp0 : Nat), k ≤ q.length ∧ i = .int .i64 k ∧ o = .slice ad0 m cp0 ∧ Hid (m = (idsT (tqL (q.take k))).length ∧ wr.ownsRow w.heap.size 9 1 (.slice ad0 m cp0) m (ss (idsT (tqL (q.take k))))) ∧ Hid (Below w.heap.size w wr)) (fun _ i _ => q.length - (intOf i).toNat)
    case atStart => exact ⟨0, 0, none, 0, by omega, rfl, rfl, ⟨rfl, rfl, .inl ⟨rfl, rfl⟩⟩, B1⟩
    case round =>
      clear B1
      obtain ⟨k, m, ad0, cp0, hk, rfl, rfl, HR, HB⟩ := hrel
      by_cases hlt : k < q.length
      · have hk0 : (0 : Int) ≤ (k : Int) := by omega
        have hk1 : (k : Int) < (q.length : Int) := by omega
        have hwk : wrap64 ((k : Int) + 1) = ((k + 1 : Nat) : Int) := by have := HL.out; rw [IntWalk.wrap64_in _ (by omega)]; omega
        obtain ⟨b, off, rfl, hb, c0, c1, c2, c3, hp⟩ := HC.out k hlt
        have d0 := (HB.out.cell (p := ⟨b, off + k * 4, none⟩) hb).trans c0
        have d1 := (HB.out.cell (p := ⟨b, off + k * 4 + 1, none⟩) hb).trans c1
        have d2 := (HB.out.cell (p := ⟨b, off + k * 4 + 2, none⟩) hb).trans c2
        have d3 := (HB.out.cell (p := ⟨b, off + k * 4 + 3, none⟩) hb).trans c3
        have hps := HPS2.out _ (List.getElem_mem hlt)
        have PI : Hid (∀ W, Below w.heap.size w W → Calls Try.prog 41 #[q[k].1] W fun e w' => ∃ ad cap, e = .returned (.slice ad q[k].2.ps.length cap) ∧ w'.ownsRow W.heap.size 9 1 (.slice ad q[k].2.ps.length cap) q[k].2.ps.length (ss (pcI9 q[k].2.ps)) ∧ Below W.heap.size W w') := fun W hW => pids9_any q[k].1 q[k].2.ps W (hp.next hW) (by omega) hps.2
        have hmb : m + q[k].2.ps.length ≤ 100000 := by have h1 := HLE.out k; have h2 := HL.out; have h3 := HR.out.1; omega
        have HTK := hid (HT.out k hlt)
        have HSL : Hid ((ss (pcI9 q[k].2.ps)).length = q[k].2.ps.length * 1) := by show _ = _; rw [ss_len]; simp [pcI9]
        have HSO := hid (ss_one9 (pcI9 q[k].2.ps))
        have HPL : Hid ((pcI9 q[k].2.ps).length = q[k].2.ps.length) := by show _ = _; simp [pcI9]
        have hpf := hp.sl
        have HLT := hid hlt
        have hk33 : (k : Int) < 101 := by have := HL.out; omega
        clear HC HT HPS2 HLE hps hp c0 c1 c2 c3 hb HL
        generalize q[k] = y at *
        obtain ⟨pv, id, sz, sum, ps⟩ := y
        simp only at *
        obtain ⟨ad2, cap2, rfl⟩ := hpf
        generalize pcI9 ps = PS at *
        generalize ps.length = pn at *
        have BX := hid (Bx.made HB.out [.int .i64 id, .int .i64 sz, .string sum, .slice ad2 pn cap2] 25)
        have y4 := BX.out.row.cellAt (o := 3) rfl
        have RX := hid (((keep_alloc (fun _ => False) wr (.cells #[.int .i64 id, .int .i64 sz, .string sum, .slice ad2 pn cap2] 25)).ownsRow HR.out.2 (fun _ _ h => h)))
        clear hlt hk
        go_wp2_with fail
        refine (PI.out _ BX.out.b).mono ?_
        rintro e w2 ⟨ad3, cap3, rfl, o2, b2⟩
        have B2 := hid (BX.out.next b2)
        have R2 := hid ((b2.keep (fun _ => False)).ownsRow RX.out (fun _ _ h => h))
        have S2 := hid (RowC.own o2)
        clear b2 PI BX RX y4 HB d0 d1 d2 d3 o2
        have HSZ := hid B2.out.b.size
        have HB1 : Hid (m + pn ≤ 4611686018427387904) := by show _ ≤ _; omega
        have HB2 : Hid ((m + pn) * 16 ≤ 140737488355328) := by show _ ≤ _; omega
        have FIN : Hid (∀ ad' cap' w', w'.ownsRow w.heap.size 9 1 (.slice ad' (m + pn) cap') (m + pn) (ss (idsT (tqL (q.take k))) ++ ss PS) → Keep (fun j => (Value.slice ad0 m cp0).ownBlock = some j) w2 w' → Hid (m + pn = (idsT (tqL (q.take (k + 1)))).length ∧ w'.ownsRow w.heap.size 9 1 (.slice ad' (m + pn) cap') (m + pn) (ss (idsT (tqL (q.take (k + 1)))))) ∧ Hid (Below w.heap.size w w')) := fun ad' cap' w' hr hk' => by
          refine ⟨?_, app_strs9 R2.out B2.out.b rfl hk'⟩
          show _ ∧ _
          rw [HTK.out, ss_app9, List.length_append, ← HR.out.1, HPL.out]
          exact ⟨rfl, hr⟩
        generalize ss (idsT (tqL (q.take k))) = YS at *
        generalize ss PS = XS at *
        clear HTK HR B2 HPL hmb
        go_wp2_with (at_builtin; refine wpl_gappR rfl _ _ elS9 rfl w.heap.size (.slice ad0 m cp0) (.slice ad3 pn cap3) YS XS m pn (m + pn) rfl rfl rfl R2.out HSZ.out S2.out HSL.out HSO.out HB1.out HB2.out ?_; intro ad' cap' w' hr' hk')
        obtain ⟨F1, F2⟩ := FIN.out _ _ _ hr' hk'
        clear hr' hk' FIN R2 S2 HSZ
        go_wp2
        exact ⟨⟨k + 1, _, _, _, HLT.out, by first | rw [hwk] | rfl | simp, rfl, F1, F2⟩, by (try rw [hwk]); have := HLT.out; simp [intOf]; omega⟩
      · have hd : decide ((k : Int) < (q.length : Int)) = false := decide_eq_false (by omega)
        have hd2 : decide (k < q.length) = false := decide_eq_false hlt
        have hke : k = q.length := by omega
        have HF : Hid (Strs wr (.slice ad0 m cp0) (idsT (tqL q))) := by
          obtain ⟨hm, hr⟩ := HR.out
          rw [hke, List.take_length] at hm hr
          have := hr
          rw [hm] at this ⊢
          exact strs_own9 this
        clear HC HT HPS2 HLE HR hke HL hlt hk
        go_wp2
        go_ret
        exact ⟨_, rfl, HF.out, HB.out⟩
set_option maxRecDepth 100000 in
set_option maxHeartbeats 2000000 in
theorem rtids_any (v : Value) (q : List (Value × Pt)) (w : World) (hv : PtI w v q) (hq : q.length ≤ 8796093022208 ∧ ∀ y ∈ q, y.2.sum.size ≤ 140737488355328 ∧ y.2.ps.length ≤ 8796093022208 ∧ ∀ p ∈ y.2.ps, p.id.size ≤ 140737488355328) : Calls Try.prog 18 #[v] w fun e w' => ∃ u, e = .returned u ∧ Strs w' u (ptIs (tqL q)) ∧ Below w.heap.size w w' := by
  obtain ⟨ad, cap, rfl, hc⟩ := hv.form
  have IC : Hid (∀ W, Below w.heap.size w W → Calls Try.prog 33 #[.slice ad q.length cap] W fun e w' => e = .returned (.bool (arePt (tqL q))) ∧ Below W.heap.size W w') := fun W hW => rtmay_any _ q W (hv.next hW) hq.1 hq.2
  have HC := hid hc
  have HLQ := hid hq.1
  have HLN : Hid (arePt (tqL q) = true → q.length ≤ 100) := fun h => by have := arePt_len h; rw [tqL_len] at this; exact this
  have HPS : Hid (arePt (tqL q) = true → ∀ y ∈ q, y.2.ps.length ≤ 512) := fun h y hy => (ptOk_b (arePt_all h _ (tq_mem hy))).2.2.1
  have HI : Hid (ptIs (tqL q) = if arePt (tqL q) = true then idsT (tqL q) else []) := rfl
  have HT : Hid (∀ (k : Nat) (hk : k < q.length), idsT (tqL (q.take (k + 1))) = idsT (tqL (q.take k)) ++ pcI9 q[k].2.ps) := idsT_take q
  have HNE : Hid (q.length = 0 → ptIs (tqL q) = []) := fun h => by rw [List.length_eq_zero_iff.1 h]; unfold ptIs; split <;> rfl
  generalize ptIs (tqL q) = CI at *
  generalize arePt (tqL q) = IS at *
  clear hc hv hq
  go_enter Try.func18, Try.ntmps18
  go_wp2
  go_loopw [3, 4] (fun o i wr => ∃ (k m : Nat) (ad0 : Option Addr) (cp0 : Nat), k ≤ q.length ∧ i = .int .i64 k ∧ o = .slice ad0 m cp0 ∧ Hid (k = 0 ∨ IS = true) ∧ Hid (m = (idsT (tqL (q.take k))).length ∧ wr.ownsRow w.heap.size 9 1 (.slice ad0 m cp0) m (ss (idsT (tqL (q.take k))))) ∧ Hid (Below w.heap.size w wr)) (fun _ i _ => q.length - (intOf i).toNat)
  case atStart => exact ⟨0, 0, none, 0, by omega, rfl, rfl, .inl rfl, ⟨rfl, rfl, .inl ⟨rfl, rfl⟩⟩, Below.refl _ _⟩
  case round =>
    obtain ⟨k, m, ad0, cp0, hk, rfl, rfl, HZ, HR, HB⟩ := hrel
    by_cases hlt : k < q.length
    · have hk0 : (0 : Int) ≤ (k : Int) := by omega
      have hk1 : (k : Int) < (q.length : Int) := by omega
      have hkd : decide ((k : Int) < (q.length : Int)) = true := decide_eq_true hk1
      have hkd2 : decide (k < q.length) = true := decide_eq_true hlt
      go_wp2_with fail
      refine (IC.out _ HB.out).mono ?_
      rintro e w2 ⟨rfl, b2⟩
      have B2 := hid (below_on HB.out b2)
      have R2 := hid ((b2.keep (fun _ => False)).ownsRow HR.out.2 (fun _ _ h => h))
      have HM := hid HR.out.1
      clear b2 HB HR
      cases IS
      · have hi : CI = [] := HI.out
        have hz : k = 0 := by rcases HZ.out with h | h; exact h; cases h
        subst hi
        have HF : Hid (Strs w2 (.slice ad0 m cp0) []) := by
          have hm := HM.out
          rw [hz] at hm
          have : m = 0 := hm
          subst this
          exact .inl ⟨rfl, _, _, rfl⟩
        clear HC HLN HPS HI HT HNE IC HZ hz R2 HM HLQ hlt hk
        go_wp2
        go_ret
        exact ⟨_, rfl, HF.out, B2.out⟩
      · have hi : CI = idsT (tqL q) := HI.out
        have HL := hid (HLN.out rfl)
        have HLE : Hid (∀ k, (idsT (tqL (q.take k))).length ≤ 512 * k) := fun k => idsT_len q k (HPS.out rfl)
        have hwk : wrap64 ((k : Int) + 1) = ((k + 1 : Nat) : Int) := by have := HL.out; rw [IntWalk.wrap64_in _ (by omega)]; omega
        obtain ⟨b, off, rfl, hb, c0, c1, c2, c3, hp⟩ := HC.out k hlt
        have hps := HPS.out rfl _ (List.getElem_mem hlt)
        have HCE : Hid (∀ W, Below w.heap.size w W → W.cell? ⟨b, off + k * 4 + 3, none⟩ = some q[k].1) := fun W hW => (hW.cell (p := ⟨b, off + k * 4 + 3, none⟩) hb).trans c3
        obtain ⟨ad2, cap2, hpv, hpc⟩ := hp.form
        rw [hpv] at HCE
        have HPC : Hid (∀ (i : Nat) (hi : i < q[k].2.ps.length) (W : World), Below w.heap.size w W → ∃ b2 o2, ad2 = some ⟨b2, o2, none⟩ ∧ W.cell? ⟨b2, o2 + i * 2, none⟩ = some (.string q[k].2.ps[i].id)) := fun i hi W hW => by
          obtain ⟨b2, o2, e2, hb2, e3, _⟩ := hpc i hi
          exact ⟨b2, o2, e2, (hW.cell (p := ⟨b2, o2 + i * 2, none⟩) hb2).trans e3⟩
        have hmb : m ≤ 51200 := by have h1 := HLE.out k; have h2 := HL.out; have h3 := HM.out; omega
        have HTK := hid (HT.out k hlt)
        have HLT := hid hlt
        have hk33 : (k : Int) < 101 := by have := HL.out; omega
        clear HC HLN HPS HI HNE HZ HLQ c0 c1 c2 c3 hp hb hpc hpv HLE HL
        generalize q[k].2.ps = ps at *
        clear hlt hk
        go_wp2
        go_loopw [3, 5] (fun o i wr => ∃ (j : Nat) (ad1 : Option Addr) (cp1 : Nat), j ≤ ps.length ∧ i = .int .i64 j ∧ o = .slice ad1 (m + j) cp1 ∧ Hid (wr.ownsRow w.heap.size 9 1 (.slice ad1 (m + j) cp1) (m + j) (ss (idsT (tqL (q.take k)) ++ pcI9 (ps.take j)))) ∧ Hid (Below w.heap.size w wr)) (fun _ i _ => ps.length - (intOf i).toNat)
        case atStart => exact ⟨0, ad0, cp0, Nat.zero_le _, rfl, rfl, hid (by simpa [pcI9] using R2.out), B2⟩
        case round =>
          clear R2 B2
          obtain ⟨j, ad1, cp1, hj, rfl, rfl, HR, HB⟩ := hrel
          have yc := HCE.out _ HB.out
          by_cases hjl : j < ps.length
          · have hj0 : (0 : Int) ≤ (j : Int) := by omega
            have hj1 : (j : Int) < (ps.length : Int) := by omega
            obtain ⟨b2, o2, rfl, e3⟩ := HPC.out j hjl _ HB.out
            have HPT : Hid (ss (idsT (tqL (q.take k)) ++ pcI9 (ps.take (j + 1))) = ss (idsT (tqL (q.take k)) ++ pcI9 (ps.take j)) ++ [.string ps[j].id]) := by show _ = _; rw [pcI9_take ps j hjl, ← List.append_assoc, ss_app9]; rfl
            generalize ps[j].id = NN at *
            have HGA := hid ((keep_alloc (fun _ => False) wr (.cells #[.string NN] 9)).ownsRow HR.out (fun _ _ h => h))
            have HGX : Hid (GSrc (wr.alloc (.cells #[.string NN] 9)) (.slice (some ⟨wr.heap.size, 0, none⟩) 1 1) 1 [.string NN]) := gsrc_block (heap_alloc_new _ _)
            have HSZ : Hid (w.heap.size ≤ (wr.alloc (.cells #[.string NN] 9)).heap.size) := Nat.le_trans HB.out.size (keep_alloc (fun _ => False) _ _).size
            have HO1 : Hid (∀ u ∈ [Value.string NN], u.oneCell' = true) := fun u hu => by simp at hu; subst hu; rfl
            have HB1 : Hid (m + j + 1 ≤ 4611686018427387904) := by show _ ≤ _; omega
            have HB2 : Hid ((m + j + 1) * 16 ≤ 140737488355328) := by show _ ≤ _; omega
            have FIN : Hid (∀ ad' cap' w', w'.ownsRow w.heap.size 9 1 (.slice ad' (m + j + 1) cap') (m + j + 1) (ss (idsT (tqL (q.take k)) ++ pcI9 (ps.take j)) ++ [.string NN]) → Keep (fun i => (Value.slice ad1 (m + j) cp1).ownBlock = some i) (wr.alloc (.cells #[.string NN] 9)) w' → Hid (w'.ownsRow w.heap.size 9 1 (.slice ad' (m + (j + 1)) cap') (m + (j + 1)) (ss (idsT (tqL (q.take k)) ++ pcI9 (ps.take (j + 1))))) ∧ Hid (Below w.heap.size w w')) := fun ad' cap' w' hr hk' => by
              refine ⟨?_, app_strs9 HGA.out (below_al HB.out _) rfl hk'⟩
              show World.ownsRow _ _ _ _ _ _ _
              rw [HPT.out]; exact hr
            have HX2 : Hid ([Value.string NN].length = 1 * 1) := rfl
            generalize ss (idsT (tqL (q.take k)) ++ pcI9 (ps.take j)) = YS at *
            clear HPT HR HPC HCE HTK HT HM IC
            go_wp2_with (at_builtin; refine wpl_gappL rfl _ _ elS9 rfl w.heap.size (.slice ad1 (m + j) cp1) (.slice (some ⟨wr.heap.size, 0, none⟩) 1 1) YS [.string NN] (m + j) 1 (m + j + 1) rfl rfl rfl HGA.out HSZ.out HGX.out HX2.out HO1.out HB1.out HB2.out ?_; intro ad' cap' w' hr' hk')
            obtain ⟨F1, F2⟩ := FIN.out _ _ _ hr' hk'
            clear hr' hk' FIN HGA HGX HSZ yc e3 HB
            go_wp2
            exact ⟨⟨j + 1, _, _, by omega, by go_num, by first | rfl | simp [Nat.add_assoc], F1, F2⟩, by simp [intOf]; omega⟩
          · have hd : decide ((j : Int) < (ps.length : Int)) = false := decide_eq_false (by omega)
            have hd2 : decide (j < ps.length) = false := decide_eq_false hjl
            have hje : j = ps.length := by omega
            have HF : Hid (m + j = (idsT (tqL (q.take (k + 1)))).length ∧ wr.ownsRow w.heap.size 9 1 (.slice ad1 (m + j) cp1) (m + j) (ss (idsT (tqL (q.take (k + 1)))))) := by
              have h1 := HR.out
              rw [hje, List.take_length] at h1
              show _ ∧ _
              rw [HTK.out, hje, List.length_append, ← HM.out]
              exact ⟨by simp [pcI9], h1⟩
            clear HPC HCE HTK HT HM IC HR hje hjl hj
            go_wp2
            exact ⟨⟨k + 1, _, _, _, HLT.out, by first | rw [hwk] | rfl | simp, rfl, .inr (by first | rfl | trivial), HF, HB⟩, by (try rw [hwk]); have := HLT.out; simp [intOf]; omega⟩
    · have hd : decide ((k : Int) < (q.length : Int)) = false := decide_eq_false (by omega)
      have hd2 : decide (k < q.length) = false := decide_eq_false hlt
      have hke : k = q.length := by omega
      have HF : Hid (Strs wr (.slice ad0 m cp0) CI) := by
        obtain ⟨hm, hr⟩ := HR.out
        rcases HZ.out with h | h
        · have e := HNE.out (by omega)
          subst e
          rw [h] at hm
          have : m = 0 := hm
          subst this
          exact .inl ⟨rfl, _, _, rfl⟩
        · have e := HI.out
          rw [if_pos h] at e
          rw [hke, List.take_length] at hm hr
          rw [e]
          rw [hm] at hr ⊢
          exact strs_own9 hr
      clear HC HLN HPS HI HT HNE HZ HR hke hlt hk IC HLQ
      go_wp2
      go_ret
      exact ⟨_, rfl, HF.out, HB.out⟩
end Go.Proofs.Ytbiapepalkdkdab
