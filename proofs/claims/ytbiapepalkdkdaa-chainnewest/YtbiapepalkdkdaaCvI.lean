/- A version is put ahead of a chain: the program. -/
import Derived.Test.YtbiapepalkdkdaaGApR
import Derived.Test.YtbiapepalkdkdaaBxM
import Derived.Test.YtbiapepalkdkdaaCvH
import Derived.ArgAppend
import Derived.Deep.QuietTactic
import Derived.BigQuiet
namespace Go.Proofs.Ytbiapepalkdkdaa
open Go.RowKit Go.Maps
set_option linter.unusedVariables false
set_option linter.unusedSimpArgs false

theorem vqC_cell {w : World} {q : List (Value × Vn)} (h : VqP w q) : ∀ u ∈ vqC q, u.oneCell' = true := by
  intro u hu
  obtain ⟨y, hy, hu⟩ := List.mem_flatMap.1 hu
  obtain ⟨pv, x⟩ := y
  obtain ⟨ad, cap, e⟩ := (h _ hy).sl
  simp only at e
  subst e
  exact vnC_one ad _ cap x u hu
def hdGe (l : List Vn) (v : Vn) : Bool := match l with | [] => false | y :: _ => decide (v.id ≤ y.id)
def putE (l : List Vn) (v : Vn) : Int := if isCh l = true ∧ vnOk v = true then (if hdGe l v = true then 1 else if l.length = 32 then 131 else 0) else 1
def putL (l : List Vn) (v : Vn) : List Vn := if putE l v = 0 then v :: l else []
/-- a call that gives versions and an error -/
def GiveV (w : World) (l : List Vn) (x : Int) (e : Ending) (w' : World) : Prop := ∃ ad n cap q, e = .returned (.tuple #[.slice ad n cap, .int .i64 x]) ∧ vqL q = l ∧ VnI w' (.slice ad n cap) q ∧ Below w.heap.size w w'
theorem giveV_none {w w' : World} {x : Int} (h : Below w.heap.size w w') : GiveV w [] x (.returned (.tuple #[.slice none 0 0, .int .i64 x])) w' := ⟨none, 0, 0, [], rfl, rfl, vni_none _, h⟩
theorem vapart_ch (v : Value) (q : List (Value × Vn)) (w : World) (hv : VnI w v q) (hq : q.length ≤ 1048576) (ha : ∀ y ∈ q, vnOk y.2 = true) : Calls Try.prog 40 #[v] w fun e w' => ∃ ad n cap q', e = .returned (.slice ad n cap) ∧ vqL q' = vqL q ∧ Hid (VnI w' (.slice ad n cap) q') ∧ Hid (Below w.heap.size w w') :=
  (vapart_any v q w hv (by omega) (fun y hy => by
    have h1 := vnOk_ps (ha y hy)
    have h2 := vnOk_sum (ha y hy)
    exact ⟨by omega, fun p hp => by have := (pcOk_id (h1.2.1 p hp)).1; omega, by omega⟩)).mono fun e w' ⟨ad, cap, q', he, hl, ho, hb⟩ => ⟨ad, _, cap, q', he, hl, ho.vn, hb⟩
theorem vq_mem {q : List (Value × Vn)} {y : Value × Vn} (h : y ∈ q) : y.2 ∈ vqL q := List.mem_map.2 ⟨y, h, rfl⟩
set_option maxRecDepth 100000 in
set_option maxHeartbeats 2000000 in
theorem put_any (v0 : Value) (q : List (Value × Vn)) (pv : Value) (x : Vn) (w : World) (hv : VnI w v0 q) (hp : PcI w pv x.ps) : Calls Try.prog 16 #[v0, vnV (pv, x)] w (GiveV w (putL (vqL q) x) (putE (vqL q) x)) := by
  obtain ⟨ad2, cap2, rfl⟩ := hp.sl
  obtain ⟨ad, cap, rfl, hc⟩ := hv.form
  have HBX : Hid (Below w.heap.size w (w.alloc (.cells #[.int .i64 x.id, .bool x.ma, .int .i64 x.sz, .string x.sum, .slice ad2 x.ps.length cap2] 24))) := below_al (Below.refl _ _) _
  have BM := hid (Bx.made (Below.refl w.heap.size w) [.int .i64 x.id, .bool x.ma, .int .i64 x.sz, .string x.sum, .slice ad2 x.ps.length cap2] 24)
  have IC := hid (isChain_any (.slice ad q.length cap) q _ (hv.next HBX.out))
  have CK : Hid (∀ W, Below w.heap.size w W → Calls Try.prog 13 #[vnV (.slice ad2 x.ps.length cap2, x)] W fun e w' => e = .returned (.int .i64 (vnE x)) ∧ Below W.heap.size W w') := fun W hW => vcheck_any _ x W (hp.next hW)
  have HPE : Hid (putE (vqL q) x = if isCh (vqL q) = true ∧ vnOk x = true then (if hdGe (vqL q) x = true then 1 else if q.length = 32 then 131 else 0) else 1) := by show _ = _; unfold putE; rw [vqL_len]
  have HPL : Hid (putL (vqL q) x = if putE (vqL q) x = 0 then x :: vqL q else []) := rfl
  have HE := hid (vnE_cases x)
  have HLN : Hid (isCh (vqL q) = true → q.length ≤ 32) := fun h => by have := isCh_len h; rw [vqL_len] at this; exact this
  have HAL : Hid (isCh (vqL q) = true → ∀ y ∈ q, vnOk y.2 = true) := fun h y hy => isCh_all h _ (vq_mem hy)
  have HAP : Hid (∀ W u, Below w.heap.size w W → q.length ≤ 32 → (∀ y ∈ q, vnOk y.2 = true) → vnOk x = true → RowC W u (1 + q.length) (vnC (.slice ad2 x.ps.length cap2, x) ++ vqC q) → Calls Try.prog 40 #[u] W fun e w' => ∃ ad n cap q', e = .returned (.slice ad n cap) ∧ vqL q' = x :: vqL q ∧ Hid (VnI w' (.slice ad n cap) q') ∧ Hid (Below w.heap.size w w')) := fun W u hW h32 ha hx hr =>
    (vapart_ch u ((.slice ad2 x.ps.length cap2, x) :: q) W ⟨by
        show RowC W u (q.length + 1) (vqC (_ :: q))
        rw [Nat.add_comm, show vqC ((.slice ad2 x.ps.length cap2, x) :: q) = vnC (.slice ad2 x.ps.length cap2, x) ++ vqC q from rfl]
        exact hr, fun y hy => by
        rcases List.mem_cons.1 hy with e | e
        · rw [e]; exact hp.next hW
        · exact (hv.2 y e).next hW⟩ (by simp; omega) (fun y hy => by
        rcases List.mem_cons.1 hy with e | e
        · rw [e]; exact hx
        · exact ha y e)).mono fun e w' ⟨ad, n, cap, q', he, hl, hi, hb⟩ => ⟨ad, n, cap, q', he, hl, hi, below_on hW hb.out⟩
  have HRC : Hid (∀ W, Below w.heap.size w W → RowC W (.slice ad q.length cap) q.length (vqC q)) := fun W hW => hv.1.next hW
  have HO1 := hid (vqC_cell hv.2)
  have HQL := hid (vqC_len q)
  have HHD : Hid (q.length = 0 ∧ hdGe (vqL q) x = false ∨ ∃ (b off : Nat) (hi : Int), ad = some ⟨b, off, none⟩ ∧ 0 < q.length ∧ hdGe (vqL q) x = decide (x.id ≤ hi) ∧ ∀ W, Below w.heap.size w W → W.cell? ⟨b, off, none⟩ = some (.int .i64 hi)) := by
    cases q with
    | nil => exact .inl ⟨rfl, rfl⟩
    | cons y r =>
      obtain ⟨b, off, e, hb, c0, _⟩ := hc 0 (by simp)
      exact .inr ⟨b, off, y.2.id, e, by simp, rfl, fun W hW => (hW.cell (p := ⟨b, off, none⟩) hb).trans (by simpa using c0)⟩
  clear hc hv hp
  unfold vnV at *
  obtain ⟨id, ma, sz, sum, ps⟩ := x
  simp only at *
  generalize hdGe _ _ = HG at *
  generalize putE _ _ = PE at *
  generalize putL _ _ = PL at *
  generalize isCh _ = IS at *
  generalize vnE _ = E at *
  generalize hok : vnOk _ = OK at *
  clear hok
  generalize hpn : ps.length = pn at *
  clear hpn
  go_enter Try.func16, Try.ntmps16
  go_wp2_with fail
  refine IC.out.mono ?_
  rintro e w1 ⟨rfl, b1⟩
  have B1 := hid (BM.out.next b1)
  clear IC b1 BM HBX
  cases IS
  · have hpe : PE = 1 := by rw [HPE.out]; simp
    subst hpe
    have hpl : PL = [] := by rw [HPL.out]; simp
    subst hpl
    clear CK HPE HPL HE HLN HAL HAP HRC HO1 HQL HHD
    go_wp2
    go_ret2
    exact giveV_none B1.out.b
  · have y0 := B1.out.row.cellAt (o := 0) rfl
    have y1 := B1.out.row.cellAt (o := 1) rfl
    have y2 := B1.out.row.cellAt (o := 2) rfl
    have y3 := B1.out.row.cellAt (o := 3) rfl
    have y4 := B1.out.row.cellAt (o := 4) rfl
    go_wp2_with fail
    refine (CK.out _ B1.out.b).mono ?_
    rintro e w2 ⟨rfl, b2⟩
    have B2 := hid (B1.out.next b2)
    clear CK b2 B1 y0 y1 y2 y3 y4
    rcases HE.out with ⟨rfl, rfl⟩ | ⟨rfl, rfl⟩
    · have y0 := B2.out.row.cellAt (o := 0) rfl
      have h32 := HLN.out (by first | rfl | trivial)
      have HAL2 := hid (HAL.out (by first | rfl | trivial))
      rcases HHD.out with ⟨hz, rfl⟩ | ⟨b, off, hi, rfl, hpos, rfl, hcell⟩
      · have g1 : decide (0 < (q.length : Int)) = false := decide_eq_false (by omega)
        have g2 : decide (0 < q.length) = false := decide_eq_false (by omega)
        have g4 : ((q.length : Int) == 32) = false := beq_eq_false_iff_ne.2 (by omega)
        have hpe : PE = 0 := by rw [HPE.out, if_pos ⟨by first | rfl | trivial, by first | rfl | trivial⟩, if_neg (by simp), if_neg (by omega)]
        subst hpe
        have hpl : PL = ⟨id, ma, sz, sum, ps⟩ :: vqL q := by rw [HPL.out]; simp
        subst hpl
        clear hz
        clear HPE HPL HE HLN HAL HHD
        go_wp2
        go_quiet (fail)
        have B3 := hid (B2.out.drewN nq)
        generalize w2.drewN nq = w3 at *
        clear B2 y0
        have y0 := B3.out.row.cellAt (o := 0) rfl
        have HGA : Hid ((w3.alloc (.cells #[.int .i64 id, .bool ma, .int .i64 sz, .string sum, .slice ad2 pn cap2] 24)).ownsRow w.heap.size 24 5 (.slice (some ⟨w3.heap.size, 0, none⟩) 1 1) 1 (vnC (.slice ad2 pn cap2, ⟨id, ma, sz, sum, ps⟩))) := own_made w3 _ _ 5 1 _ B3.out.b.size rfl (by omega)
        have HBA : Hid (Below w.heap.size w (w3.alloc (.cells #[.int .i64 id, .bool ma, .int .i64 sz, .string sum, .slice ad2 pn cap2] 24))) := below_al B3.out.b _
        have HRA := hid (HRC.out _ HBA.out)
        have HSZ := hid HBA.out.size
        have HB1 : Hid (1 + q.length ≤ 4611686018427387904) := by show _ ≤ _; omega
        have HB2 : Hid ((1 + q.length) * 64 ≤ 140737488355328) := by show _ ≤ _; omega
        have FIN : Hid (∀ ad' cap' w', w'.ownsRow w.heap.size 24 5 (.slice ad' (1 + q.length) cap') (1 + q.length) (vnC (.slice ad2 pn cap2, ⟨id, ma, sz, sum, ps⟩) ++ vqC q) → Keep (fun j => (Value.slice (some ⟨w3.heap.size, 0, none⟩) 1 1).ownBlock = some j) (w3.alloc (.cells #[.int .i64 id, .bool ma, .int .i64 sz, .string sum, .slice ad2 pn cap2] 24)) w' → Hid (Calls Try.prog 40 #[.slice ad' (1 + q.length) cap'] w' fun e w' => ∃ ad n cap q', e = .returned (.slice ad n cap) ∧ vqL q' = ⟨id, ma, sz, sum, ps⟩ :: vqL q ∧ Hid (VnI w' (.slice ad n cap) q') ∧ Hid (Below w.heap.size w w'))) := fun ad' cap' w' hr hk' => HAP.out w' _ (HBA.out.trans (keep_below hk' (fun j hj e => by have := ownsRow_ge HGA.out e; omega) HSZ.out)) h32 HAL2.out (by first | rfl | trivial) (RowC.own hr)
        generalize vnC (.slice ad2 pn cap2, ⟨id, ma, sz, sum, ps⟩) = XS at *
        generalize vqC q = YS at *
        have y1 := B3.out.row.cellAt (o := 1) rfl
        have y2 := B3.out.row.cellAt (o := 2) rfl
        have y3 := B3.out.row.cellAt (o := 3) rfl
        have y4 := B3.out.row.cellAt (o := 4) rfl
        clear HAP HRC HAL2 h32 HBA
        go_wp2_with (at_builtin; refine wpl_gappR rfl _ _ elV rfl w.heap.size (.slice (some ⟨w3.heap.size, 0, none⟩) 1 1) (.slice ad q.length cap) XS YS 1 q.length (1 + q.length) rfl rfl rfl HGA.out HSZ.out HRA.out HQL.out HO1.out HB1.out HB2.out ?_; intro ad' cap' w' hr' hk')
        have AP := FIN.out _ _ _ hr' hk'
        clear hr' hk' FIN HGA HRA HSZ HQL HO1 HB1 HB2 y0 y1 y2 y3 y4
        go_wp2_with fail
        refine AP.out.mono ?_
        rintro e w4 ⟨ad4, n4, cap4, q4, rfl, hl4, I4, B4⟩
        have HL4 := hid hl4
        clear AP hl4
        go_wp2
        go_ret2
        exact ⟨ad4, n4, cap4, q4, rfl, HL4.out, I4.out, B4.out⟩
      · have g1 : decide (0 < (q.length : Int)) = true := decide_eq_true (by omega)
        have g2 : decide (0 < q.length) = true := decide_eq_true (by omega)
        have gi : (0 : Int) < (q.length : Int) := by omega
        have d0 := hcell _ B2.out.b
        by_cases hge : id ≤ hi
        · have g3 : decide (id ≤ hi) = true := decide_eq_true hge
          have hpe : PE = 1 := by rw [HPE.out, g3]; simp
          subst hpe
          have hpl : PL = [] := by rw [HPL.out]; simp
          subst hpl
          clear HPE HPL HE HLN HAL HAP HRC HO1 HQL HHD hge hcell h32 hpos HAL2
          go_wp2
          go_quiet (fail)
          go_wp2
          go_ret2
          exact giveV_none (B2.out.drewN _).b
        · have g3 : decide (id ≤ hi) = false := decide_eq_false hge
          by_cases h9 : q.length = 32
          · have g4 : ((q.length : Int) == 32) = true := by rw [h9]; rfl
            have hpe : PE = 131 := by rw [HPE.out, if_pos ⟨by first | rfl | trivial, by first | rfl | trivial⟩, if_neg (by rw [g3]; simp), if_pos h9]
            subst hpe
            have hpl : PL = [] := by rw [HPL.out]; simp
            subst hpl
            clear HPE HPL HE HLN HAL HAP HRC HO1 HQL HHD hge hcell h32 hpos HAL2 h9
            go_wp2
            go_quiet (fail)
            go_wp2
            go_ret2
            exact giveV_none (B2.out.drewN _).b
          have g4 : ((q.length : Int) == 32) = false := beq_eq_false_iff_ne.2 (by omega)
          have hpe : PE = 0 := by rw [HPE.out, if_pos ⟨by first | rfl | trivial, by first | rfl | trivial⟩, if_neg (by rw [g3]; simp), if_neg h9]
          subst hpe
          have hpl : PL = ⟨id, ma, sz, sum, ps⟩ :: vqL q := by rw [HPL.out]; simp
          subst hpl
          clear h9 hge hcell hpos
          clear HPE HPL HE HLN HAL HHD
          go_wp2
          go_quiet (fail)
          have B3 := hid (B2.out.drewN nq)
          generalize w2.drewN nq = w3 at *
          clear B2 y0 d0
          have y0 := B3.out.row.cellAt (o := 0) rfl
          have HGA : Hid ((w3.alloc (.cells #[.int .i64 id, .bool ma, .int .i64 sz, .string sum, .slice ad2 pn cap2] 24)).ownsRow w.heap.size 24 5 (.slice (some ⟨w3.heap.size, 0, none⟩) 1 1) 1 (vnC (.slice ad2 pn cap2, ⟨id, ma, sz, sum, ps⟩))) := own_made w3 _ _ 5 1 _ B3.out.b.size rfl (by omega)
          have HBA : Hid (Below w.heap.size w (w3.alloc (.cells #[.int .i64 id, .bool ma, .int .i64 sz, .string sum, .slice ad2 pn cap2] 24))) := below_al B3.out.b _
          have HRA := hid (HRC.out _ HBA.out)
          have HSZ := hid HBA.out.size
          have HB1 : Hid (1 + q.length ≤ 4611686018427387904) := by show _ ≤ _; omega
          have HB2 : Hid ((1 + q.length) * 64 ≤ 140737488355328) := by show _ ≤ _; omega
          have FIN : Hid (∀ ad' cap' w', w'.ownsRow w.heap.size 24 5 (.slice ad' (1 + q.length) cap') (1 + q.length) (vnC (.slice ad2 pn cap2, ⟨id, ma, sz, sum, ps⟩) ++ vqC q) → Keep (fun j => (Value.slice (some ⟨w3.heap.size, 0, none⟩) 1 1).ownBlock = some j) (w3.alloc (.cells #[.int .i64 id, .bool ma, .int .i64 sz, .string sum, .slice ad2 pn cap2] 24)) w' → Hid (Calls Try.prog 40 #[.slice ad' (1 + q.length) cap'] w' fun e w' => ∃ ad n cap q', e = .returned (.slice ad n cap) ∧ vqL q' = ⟨id, ma, sz, sum, ps⟩ :: vqL q ∧ Hid (VnI w' (.slice ad n cap) q') ∧ Hid (Below w.heap.size w w'))) := fun ad' cap' w' hr hk' => HAP.out w' _ (HBA.out.trans (keep_below hk' (fun j hj e => by have := ownsRow_ge HGA.out e; omega) HSZ.out)) h32 HAL2.out (by first | rfl | trivial) (RowC.own hr)
          generalize vnC (.slice ad2 pn cap2, ⟨id, ma, sz, sum, ps⟩) = XS at *
          generalize vqC q = YS at *
          have y1 := B3.out.row.cellAt (o := 1) rfl
          have y2 := B3.out.row.cellAt (o := 2) rfl
          have y3 := B3.out.row.cellAt (o := 3) rfl
          have y4 := B3.out.row.cellAt (o := 4) rfl
          clear HAP HRC HAL2 h32 HBA
          go_wp2_with (at_builtin; refine wpl_gappR rfl _ _ elV rfl w.heap.size (.slice (some ⟨w3.heap.size, 0, none⟩) 1 1) (.slice (some ⟨b, off, none⟩) q.length cap) XS YS 1 q.length (1 + q.length) rfl rfl rfl HGA.out HSZ.out HRA.out HQL.out HO1.out HB1.out HB2.out ?_; intro ad' cap' w' hr' hk')
          have AP := FIN.out _ _ _ hr' hk'
          clear hr' hk' FIN HGA HRA HSZ HQL HO1 HB1 HB2 y0 y1 y2 y3 y4
          go_wp2_with fail
          refine AP.out.mono ?_
          rintro e w4 ⟨ad4, n4, cap4, q4, rfl, hl4, I4, B4⟩
          have HL4 := hid hl4
          clear AP hl4
          go_wp2
          go_ret2
          exact ⟨ad4, n4, cap4, q4, rfl, HL4.out, I4.out, B4.out⟩
    · have hpe : PE = 1 := by rw [HPE.out]; simp
      subst hpe
      have hpl : PL = [] := by rw [HPL.out]; simp
      subst hpl
      clear HPE HPL HE HLN HAL HAP HRC HO1 HQL HHD
      go_wp2
      go_ret2
      exact giveV_none B2.out.b
end Go.Proofs.Ytbiapepalkdkdaa
