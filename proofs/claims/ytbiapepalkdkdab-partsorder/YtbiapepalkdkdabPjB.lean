/- The parts that picks name: pick. -/
import Derived.Test.YtbiapepalkdkdabPjA
import Derived.Test.YtbiapepalkdkdabJoined09
namespace Go.Proofs.Ytbiapepalkdkdab
open Go.RowKit Go.Maps
set_option linter.unusedVariables false
set_option linter.unusedSimpArgs false

/-- what a pick names among parts in memory, by the place -/
theorem pq1_at {q : List (Value × Pt)} (h : arePt (tqL q) = true) (k : Pk) : (hasT (tqL q) k.n = false ∧ pk1 (tqL q) k = none) ∨ (hasT (tqL q) k.n = true ∧ ∃ hj : plT (tqL q) k.n < q.length, (q[plT (tqL q) k.n].2.sum ≠ k.su ∧ pk1 (tqL q) k = none) ∨ (q[plT (tqL q) k.n].2.sum = k.su ∧ pk1 (tqL q) k = some q[plT (tqL q) k.n].2 ∧ pq1 q k = some q[plT (tqL q) k.n])) := by
  have hs := arePt_rise h
  have hp := pk1_place hs k
  cases hh : hasT (tqL q) k.n with
  | false => rw [hh] at hp; exact .inl ⟨rfl, by simpa using hp⟩
  | true =>
    right
    refine ⟨rfl, ?_⟩
    obtain ⟨x, hx, hn⟩ := plT_at hs hh
    have hj0 := plT_has _ _ hh
    have hj : plT (tqL q) k.n < q.length := by rw [tqL_len] at hj0; exact hj0
    refine ⟨hj, ?_⟩
    have hxe : x = q[plT (tqL q) k.n].2 := by
      rw [List.getElem?_eq_getElem hj0] at hx
      injection hx with hx
      rw [← hx, tqL_get q _ hj]
    rw [hh, hx] at hp
    simp only [if_true] at hp
    rw [hxe] at hp
    by_cases hsu : q[plT (tqL q) k.n].2.sum = k.su
    · right
      rw [if_pos hsu] at hp
      refine ⟨hsu, hp, ?_⟩
      have he := pq1_eq q k
      rw [hp] at he
      cases hq : pq1 q k with
      | none => rw [hq] at he; cases he
      | some y =>
        rw [hq] at he
        simp only [Option.map_some, Option.some.injEq] at he
        have hy := List.mem_of_find?_eq_some hq
        -- the same number, so the same place
        have hpw : q.Pairwise (fun a b => a.2.n < b.2.n) := by
          have := hs
          unfold tqL at this
          rw [List.pairwise_map] at this
          exact this
        obtain ⟨i, hi, rfl⟩ := List.getElem_of_mem hy
        rcases Nat.lt_trichotomy i (plT (tqL q) k.n) with hlt | heq | hgt
        · have := List.pairwise_iff_getElem.1 hpw i _ hi hj hlt
          rw [he] at this; omega
        · subst heq; rfl
        · have := List.pairwise_iff_getElem.1 hpw _ i hj hi hgt
          rw [he] at this; omega
    · left
      rw [if_neg hsu] at hp
      exact ⟨hsu, hp⟩
/-- a call that gives parts, with the pieces where they lay -/
def GiveP4 (w : World) (q : List (Value × Pt)) (x : Int) (e : Ending) (w' : World) : Prop := ∃ ad cap, e = .returned (.tuple #[.slice ad q.length cap, .int .i64 x]) ∧ w'.ownsRow w.heap.size 25 4 (.slice ad q.length cap) q.length (tqC q) ∧ Below w.heap.size w w'
def pqR (q : List (Value × Pt)) (ks : List Pk) : List (Value × Pt) := if pkAll (tqL q) ks = true then pqL q ks else []
def pqE (q : List (Value × Pt)) (ks : List Pk) : Int := if pkAll (tqL q) ks = true then 0 else 140
theorem pqL_len {q : List (Value × Pt)} {ks : List Pk} (h : pkAll (tqL q) ks = true) : (pqL q ks).length = ks.length := by
  have := pkL_len h
  rw [← pqL_eq, tqL_len] at this
  exact this
theorem pkAll_bad {l : List Pt} {ks : List Pk} {k : Nat} (hk : k < ks.length) (h : pk1 l ks[k] = none) : pkAll l ks = false := by
  unfold pkAll
  rw [List.all_eq_false]
  exact ⟨ks[k], List.getElem_mem hk, by rw [h]; simp⟩
theorem str_ne3 (a b : ByteArray) (h : a ≠ b) : (a.toList == b.toList) = false ∧ (a.toList != b.toList) = true ∧ (a.data.toList == b.data.toList) = false := by
  have h1 : a.data.toList ≠ b.data.toList := fun e => h (WideShapes.bytes_inj e)
  rw [ByteArray.toList_eq, ByteArray.toList_eq]
  exact ⟨beq_eq_false_iff_ne.2 h1, bne_iff_ne.2 h1, beq_eq_false_iff_ne.2 h1⟩
set_option maxRecDepth 100000 in
set_option maxHeartbeats 4000000 in
theorem pick_any (v : Value) (q : List (Value × Pt)) (u : Value) (ks : List Pk) (w : World) (hv : PtI w v q) (hu : PkI w u ks) (ha : arePt (tqL q) = true) (hr : riseK ks = true) : Calls Try.prog 43 #[v, u] w (GiveP4 w (pqR q ks) (pqE q ks)) := by
  obtain ⟨ad, cap, rfl, hc⟩ := hv.form
  obtain ⟨au, cu, rfl, hcu⟩ := hu.form
  have HC := hid hc
  have HCU := hid hcu
  have PL : Hid (∀ n W, Below w.heap.size w W → Calls Try.prog 30 #[.slice ad q.length cap, .int .i64 n] W fun e w' => e = .returned (.tuple #[.int .i64 (plT (tqL q) n : Nat), .bool (hasT (tqL q) n)]) ∧ Below W.heap.size W w') := fun n W hW => tplace_of _ q n W (hv.next hW) ha
  have HP1 : Hid (∀ (k : Pk), (hasT (tqL q) k.n = false ∧ pk1 (tqL q) k = none) ∨ (hasT (tqL q) k.n = true ∧ ∃ hj : plT (tqL q) k.n < q.length, (q[plT (tqL q) k.n].2.sum ≠ k.su ∧ pk1 (tqL q) k = none) ∨ (q[plT (tqL q) k.n].2.sum = k.su ∧ pk1 (tqL q) k = some q[plT (tqL q) k.n].2 ∧ pq1 q k = some q[plT (tqL q) k.n]))) := fun k => pq1_at ha k
  have HBD : Hid (∀ (k : Nat) (hk : k < ks.length), pkAll (tqL q) ks = true ∨ pk1 (tqL q) ks[k] = none ∨ True) := fun _ _ => .inr (.inr trivial)
  have HBAD : Hid (∀ (k : Nat) (hk : k < ks.length), pk1 (tqL q) ks[k] = none → pqR q ks = [] ∧ pqE q ks = 140) := fun k hk h => by
    have := pkAll_bad hk h
    exact ⟨by unfold pqR; rw [if_neg (by rw [this]; simp)], by unfold pqE; rw [if_neg (by rw [this]; simp)]⟩
  have HLN : Hid (∀ k, pkAll (tqL q) (ks.take k) = true → k ≤ ks.length → k ≤ 100) := fun k h hk => by
    have := pk_len ha ((riseK_pw hr).sublist (List.take_sublist k ks)) h
    rw [List.length_take] at this
    omega
  have HGO : Hid (∀ (k : Nat) (hk : k < ks.length) (x : Pt) (y : Value × Pt), pkAll (tqL q) (ks.take k) = true → pk1 (tqL q) ks[k] = some x → pq1 q ks[k] = some y → pkAll (tqL q) (ks.take (k + 1)) = true ∧ tqC (pqL q (ks.take (k + 1))) = tqC (pqL q (ks.take k)) ++ ptC y ∧ (pqL q (ks.take k)).length = k) := fun k hk x y h1 h2 h3 => by
    refine ⟨by rw [pkAll_take hk, h1, h2]; rfl, by rw [pqL_take hk h3, tqC_app, tqC_one], ?_⟩
    have := pqL_len (q := q) h1
    rw [this, List.length_take]; omega
  have HZ : Hid (pkAll (tqL q) (ks.take ks.length) = true → pqR q ks = pqL q (ks.take ks.length) ∧ pqE q ks = 0 ∧ (pqL q (ks.take ks.length)).length = ks.length) := fun h => by
    rw [List.take_length] at h ⊢
    exact ⟨by unfold pqR; rw [if_pos h], by unfold pqE; rw [if_pos h], pqL_len h⟩
  have HA0 : Hid (pkAll (tqL q) (ks.take 0) = true ∧ pqL q (ks.take 0) = []) := ⟨rfl, rfl⟩
  generalize pqE q ks = PE at *
  generalize pqR q ks = PR at *
  clear hc hv hcu hu ha hr HBD
  go_enter Try.func43, Try.ntmps43
  go_wp2
  go_loopw [6, 13] (fun o i wr => ∃ (k : Nat) (ad1 : Option Addr) (cp1 : Nat), k ≤ ks.length ∧ o = .slice ad1 k cp1 ∧ i = .int .i64 (k : Int) ∧ Hid (pkAll (tqL q) (ks.take k) = true ∧ wr.ownsRow w.heap.size 25 4 (.slice ad1 k cp1) k (tqC (pqL q (ks.take k)))) ∧ Hid (Below w.heap.size w wr)) (fun _ i _ => ks.length - (intOf i).toNat)
  case atStart => exact ⟨0, none, 0, Nat.zero_le _, rfl, rfl, ⟨HA0.out.1, by rw [HA0.out.2]; exact ⟨rfl, .inl ⟨rfl, rfl⟩⟩⟩, Below.refl _ _⟩
  case round =>
    clear HA0
    obtain ⟨k, ad1, cp1, hk, rfl, rfl, HR, HB⟩ := hrel
    by_cases hlt : k < ks.length
    · have hk1 : (k : Int) < (ks.length : Int) := by omega
      have hk0 : (0 : Int) ≤ (k : Int) := by omega
      have HL1 : Hid (k ≤ 100) := HLN.out k HR.out.1 hk
      have hwk : wrap64 ((k : Int) + 1) = ((k + 1 : Nat) : Int) := by have := HL1.out; rw [IntWalk.wrap64_in _ (by omega)]; omega
      obtain ⟨b, off, rfl, hb, c0, c1⟩ := HCU.out k hlt
      have d0 := (HB.out.cell (p := ⟨b, off + k * 2, none⟩) hb).trans c0
      have d1 := (HB.out.cell (p := ⟨b, off + k * 2 + 1, none⟩) hb).trans c1
      have BM := hid (Bx.made (Below.refl wr.heap.size wr) [.int .i64 ks[k].n, .string ks[k].su] 67)
      have HLT := hid hlt
      have HP := hid (HP1.out ks[k])
      have HB1 := hid (HBAD.out k hlt)
      have HG1 : Hid (∀ (x : Pt) (y : Value × Pt), pk1 (tqL q) ks[k] = some x → pq1 q ks[k] = some y → pkAll (tqL q) (ks.take (k + 1)) = true ∧ tqC (pqL q (ks.take (k + 1))) = tqC (pqL q (ks.take k)) ++ ptC y ∧ (pqL q (ks.take k)).length = k) := fun x y => HGO.out k hlt x y HR.out.1
      have HR1 := hid HR.out.2
      clear HCU c0 c1 hb HP1 HBAD HGO HZ HLN HR
      generalize ks[k] = y at *
      obtain ⟨n, su⟩ := y
      simp only at *
      clear hk hlt
      have y0 := BM.out.row.cellAt (o := 0) rfl
      have P1 := hid (PL.out n _ (below_on HB.out BM.out.b))
      clear PL
      rcases HP.out with ⟨h1, h2⟩ | ⟨h1, hj, h2⟩
      · -- none of that number
        obtain ⟨hpr, hpe⟩ := HB1.out h2
        subst hpr hpe
        rw [h1] at P1
        clear HP HB1 HG1 HR1 HC h1 h2 HL1
        go_wp2_with fail
        refine P1.out.mono ?_
        rintro e w1 ⟨rfl, b1⟩
        have B1 := hid (BM.out.next b1)
        clear P1 b1 BM y0 d0 d1
        go_wp2
        go_quiet (fail)
        have B2 := hid (B1.out.drewN nq)
        clear B1
        go_wp2
        go_ret2
        exact ⟨none, 0, rfl, ⟨rfl, .inl ⟨rfl, rfl⟩⟩, below_on HB.out B2.out.b⟩
      · obtain ⟨b2, off2, e2, hb2, z0, z1, z2, z3, hp⟩ := HC.out _ hj
        subst e2
        have hj0 : (0 : Int) ≤ ((plT (tqL q) n : Nat) : Int) := by omega
        have hj1 : ((plT (tqL q) n : Nat) : Int) < (q.length : Int) := by omega
        have HCE : Hid (∀ W, Below w.heap.size w W → W.cell? ⟨b2, off2 + plT (tqL q) n * 4, none⟩ = some (.int .i64 q[plT (tqL q) n].2.n) ∧ W.cell? ⟨b2, off2 + plT (tqL q) n * 4 + 1, none⟩ = some (.int .i64 q[plT (tqL q) n].2.sz) ∧ W.cell? ⟨b2, off2 + plT (tqL q) n * 4 + 2, none⟩ = some (.string q[plT (tqL q) n].2.sum) ∧ W.cell? ⟨b2, off2 + plT (tqL q) n * 4 + 3, none⟩ = some q[plT (tqL q) n].1) := fun W hW => ⟨(hW.cell hb2).trans z0, (hW.cell hb2).trans z1, (hW.cell hb2).trans z2, (hW.cell hb2).trans z3⟩
        have hpf := hp.sl
        have H2 := hid h2
        have HJ := hid hj
        rw [h1] at P1
        clear HP HC h1 h2 hb2 z0 z1 z2 z3 hp
        generalize q[plT (tqL q) n] = z at *
        clear hj HJ
        generalize plT (tqL q) n = j at *
        obtain ⟨pv, zn, sz, sum, ps⟩ := z
        simp only at *
        obtain ⟨ad2, cap2, rfl⟩ := hpf
        generalize hpn : ps.length = pn at *
        go_wp2_with fail
        refine P1.out.mono ?_
        rintro e w1 ⟨rfl, b1⟩
        have B1 := hid (BM.out.next b1)
        clear P1 b1 BM y0 d0 d1
        have y1 := B1.out.row.cellAt (o := 1) rfl
        obtain ⟨e0, e1, e2, e3⟩ := HCE.out _ (below_on HB.out B1.out.b)
        rcases H2.out with ⟨h3, h4⟩ | ⟨h3, h4, h5⟩
        · obtain ⟨hpr, hpe⟩ := HB1.out h4
          subst hpr hpe
          obtain ⟨s1, s2, s3⟩ := str_ne3 _ _ h3
          clear HB1 HG1 HR1 h3 h4 H2 HL1 hpn HCE
          go_wp2
          go_quiet (fail)
          have B2 := hid (B1.out.drewN nq)
          clear B1 y1 e0 e1 e2 e3
          go_wp2
          go_ret2
          exact ⟨none, 0, rfl, ⟨rfl, .inl ⟨rfl, rfl⟩⟩, below_on HB.out B2.out.b⟩
        · obtain ⟨f1, f2, f3⟩ := HG1.out _ _ h4 h5
          subst h3
          have F1 := hid f1
          have F2 := hid f2
          have HO1 : Hid (∀ u ∈ ptC (.slice ad2 pn cap2, ⟨zn, sz, sum, ps⟩), u.oneCell' = true) := ptC_cell _ _ _ _
          have HX2 : Hid ((ptC (.slice ad2 pn cap2, ⟨zn, sz, sum, ps⟩)).length = 1 * 4) := rfl
          have HQ1 : Hid (k + 1 ≤ 4611686018427387904) := by have := HL1.out; show _ ≤ _; omega
          have HQ2 : Hid ((k + 1) * 56 ≤ 140737488355328) := by have := HL1.out; show _ ≤ _; omega
          clear HB1 HG1 h4 h5 H2 HL1 f1 f2 f3 hpn
          go_wp2
          go_quiet (fail)
          have B2 := hid (B1.out.drewN nq)
          clear B1 y1 e0 e1 e2 e3
          obtain ⟨e0, e1, e2, e3⟩ := HCE.out _ (below_on HB.out B2.out.b)
          generalize w1.drewN nq = w2 at *
          have BA : Hid (Below w.heap.size w (w2.alloc (.cells #[.int .i64 zn, .int .i64 sz, .string sum, .slice ad2 pn cap2] 25))) := below_al (below_on HB.out B2.out.b) _
          have HK : Hid (Below wr.heap.size wr (w2.alloc (.cells #[.int .i64 zn, .int .i64 sz, .string sum, .slice ad2 pn cap2] 25))) := below_al B2.out.b _
          have HGA : Hid ((w2.alloc (.cells #[.int .i64 zn, .int .i64 sz, .string sum, .slice ad2 pn cap2] 25)).ownsRow w.heap.size 25 4 (.slice ad1 k cp1) k (tqC (pqL q (ks.take k)))) := (HK.out.keep (fun _ => False)).ownsRow HR1.out (fun _ _ h => h)
          have HGX : Hid (GSrc (w2.alloc (.cells #[.int .i64 zn, .int .i64 sz, .string sum, .slice ad2 pn cap2] 25)) (.slice (some ⟨w2.heap.size, 0, none⟩) 1 1) 1 (ptC (.slice ad2 pn cap2, ⟨zn, sz, sum, ps⟩))) := gsrc_block (heap_alloc_new _ _)
          have HSZ := hid BA.out.size
          clear HR1 HK HCE
          generalize ptC (.slice ad2 pn cap2, ⟨zn, sz, sum, ps⟩) = XS at *
          generalize tqC (pqL q (ks.take k)) = PA at *
          go_wp2_with (at_builtin; refine wpl_gappL rfl _ _ elT rfl w.heap.size (.slice ad1 k cp1) (.slice (some ⟨w2.heap.size, 0, none⟩) 1 1) PA XS k 1 (k + 1) rfl rfl rfl HGA.out HSZ.out HGX.out HX2.out HO1.out HQ1.out HQ2.out ?_; intro ad' cap' w' hr' hk')
          have HR2 : Hid (w'.ownsRow w.heap.size 25 4 (.slice ad' (k + 1) cap') (k + 1) (tqC (pqL q (ks.take (k + 1))))) := by rw [F2.out]; exact hr'
          have HB2 : Hid (Below w.heap.size w w') := BA.out.trans (keep_below hk' (fun j hj e => by have := ownsRow_ge HGA.out e; omega) HSZ.out)
          clear hr' hk' HGA HGX HSZ BA B2 HB
          go_wp2
          exact ⟨⟨k + 1, _, _, HLT.out, rfl, by first | rw [hwk] | rfl | simp, ⟨F1.out, HR2.out⟩, HB2⟩, by (try rw [hwk]); have := HLT.out; simp [intOf]; omega⟩
    · have hke : k = ks.length := by omega
      have hd : decide ((k : Int) < (ks.length : Int)) = false := decide_eq_false (by omega)
      have hd2 : decide (k < ks.length) = false := decide_eq_false hlt
      subst hke
      obtain ⟨h1, h2, h3⟩ := HZ.out HR.out.1
      subst h1 h2
      have HR2 := hid HR.out.2
      have H3 := hid h3
      clear HC HCU HR PL HP1 HBAD HGO HZ HLN hlt hk h3
      go_wp2
      go_ret2
      refine ⟨ad1, cp1, by rw [H3.out]; rfl, ?_, HB.out⟩
      rw [H3.out]
      exact HR2.out
end Go.Proofs.Ytbiapepalkdkdab
