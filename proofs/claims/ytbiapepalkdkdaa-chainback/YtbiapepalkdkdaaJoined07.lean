/- Joined: A version is put ahead of a chain: the program. A version's place; one is taken away: the program. A version is taken away: the program. -/
import Derived.Test.YtbiapepalkdkdaaGApR
import Derived.Test.YtbiapepalkdkdaaJoined03
import Derived.Test.YtbiapepalkdkdaaJoined06
import Derived.ArgAppend
import Derived.Deep.QuietTactic
import Derived.BigQuiet
namespace Go.Proofs.Ytbiapepalkdkdaa
open Go.RowKit Go.Maps
set_option linter.unusedVariables false
set_option linter.unusedSimpArgs false

theorem vqC_cell {w : World} {q : List (Value × Vn)} (h : VqP w q) : ∀ u ∈ vqC q, u.oneCell' = true := by
  intro u hu
  obtain ⟨y, hy, hu⟩ := List.mem_flatMap.1 hu
  obtain ⟨pv, x⟩ := y
  obtain ⟨ad, cap, e⟩ := (h _ hy).sl
  simp only at e
  subst e
  exact vnC_one ad _ cap x u hu
def hdGe (l : List Vn) (v : Vn) : Bool := match l with | [] => false | y :: _ => decide (v.id ≤ y.id)
def putE (l : List Vn) (v : Vn) : Int := if isCh l = true ∧ vnOk v = true then (if hdGe l v = true then 1 else if l.length = 32 then 131 else 0) else 1
def putL (l : List Vn) (v : Vn) : List Vn := if putE l v = 0 then v :: l else []
/-- a call that gives versions and an error -/
def GiveV (w : World) (l : List Vn) (x : Int) (e : Ending) (w' : World) : Prop := ∃ ad n cap q, e = .returned (.tuple #[.slice ad n cap, .int .i64 x]) ∧ vqL q = l ∧ VnI w' (.slice ad n cap) q ∧ Below w.heap.size w w'
theorem giveV_none {w w' : World} {x : Int} (h : Below w.heap.size w w') : GiveV w [] x (.returned (.tuple #[.slice none 0 0, .int .i64 x])) w' := ⟨none, 0, 0, [], rfl, rfl, vni_none _, h⟩
theorem vapart_ch (v : Value) (q : List (Value × Vn)) (w : World) (hv : VnI w v q) (hq : q.length ≤ 1048576) (ha : ∀ y ∈ q, vnOk y.2 = true) : Calls Try.prog 40 #[v] w fun e w' => ∃ ad n cap q', e = .returned (.slice ad n cap) ∧ vqL q' = vqL q ∧ Hid (VnI w' (.slice ad n cap) q') ∧ Hid (Below w.heap.size w w') :=
  (vapart_any v q w hv (by omega) (fun y hy => by
    have h1 := vnOk_ps (ha y hy)
    have h2 := vnOk_sum (ha y hy)
    exact ⟨by omega, fun p hp => by have := (pcOk_id (h1.2.1 p hp)).1; omega, by omega⟩)).mono fun e w' ⟨ad, cap, q', he, hl, ho, hb⟩ => ⟨ad, _, cap, q', he, hl, ho.vn, hb⟩
theorem vq_mem {q : List (Value × Vn)} {y : Value × Vn} (h : y ∈ q) : y.2 ∈ vqL q := List.mem_map.2 ⟨y, h, rfl⟩
set_option maxRecDepth 100000 in
set_option maxHeartbeats 2000000 in
theorem put_any (v0 : Value) (q : List (Value × Vn)) (pv : Value) (x : Vn) (w : World) (hv : VnI w v0 q) (hp : PcI w pv x.ps) : Calls Try.prog 16 #[v0, vnV (pv, x)] w (GiveV w (putL (vqL q) x) (putE (vqL q) x)) := by
  obtain ⟨ad2, cap2, rfl⟩ := hp.sl
  obtain ⟨ad, cap, rfl, hc⟩ := hv.form
  have HBX : Hid (Below w.heap.size w (w.alloc (.cells #[.int .i64 x.id, .bool x.ma, .int .i64 x.sz, .string x.sum, .slice ad2 x.ps.length cap2] 24))) := below_al (Below.refl _ _) _
  have BM := hid (Bx.made (Below.refl w.heap.size w) [.int .i64 x.id, .bool x.ma, .int .i64 x.sz, .string x.sum, .slice ad2 x.ps.length cap2] 24)
  have IC := hid (isChain_any (.slice ad q.length cap) q _ (hv.next HBX.out))
  have CK : Hid (∀ W, Below w.heap.size w W → Calls Try.prog 13 #[vnV (.slice ad2 x.ps.length cap2, x)] W fun e w' => e = .returned (.int .i64 (vnE x)) ∧ Below W.heap.size W w') := fun W hW => vcheck_any _ x W (hp.next hW)
  have HPE : Hid (putE (vqL q) x = if isCh (vqL q) = true ∧ vnOk x = true then (if hdGe (vqL q) x = true then 1 else if q.length = 32 then 131 else 0) else 1) := by show _ = _; unfold putE; rw [vqL_len]
  have HPL : Hid (putL (vqL q) x = if putE (vqL q) x = 0 then x :: vqL q else []) := rfl
  have HE := hid (vnE_cases x)
  have HLN : Hid (isCh (vqL q) = true → q.length ≤ 32) := fun h => by have := isCh_len h; rw [vqL_len] at this; exact this
  have HAL : Hid (isCh (vqL q) = true → ∀ y ∈ q, vnOk y.2 = true) := fun h y hy => isCh_all h _ (vq_mem hy)
  have HAP : Hid (∀ W u, Below w.heap.size w W → q.length ≤ 32 → (∀ y ∈ q, vnOk y.2 = true) → vnOk x = true → RowC W u (1 + q.length) (vnC (.slice ad2 x.ps.length cap2, x) ++ vqC q) → Calls Try.prog 40 #[u] W fun e w' => ∃ ad n cap q', e = .returned (.slice ad n cap) ∧ vqL q' = x :: vqL q ∧ Hid (VnI w' (.slice ad n cap) q') ∧ Hid (Below w.heap.size w w')) := fun W u hW h32 ha hx hr =>
    (vapart_ch u ((.slice ad2 x.ps.length cap2, x) :: q) W ⟨by
        show RowC W u (q.length + 1) (vqC (_ :: q))
        rw [Nat.add_comm, show vqC ((.slice ad2 x.ps.length cap2, x) :: q) = vnC (.slice ad2 x.ps.length cap2, x) ++ vqC q from rfl]
        exact hr, fun y hy => by
        rcases List.mem_cons.1 hy with e | e
        · rw [e]; exact hp.next hW
        · exact (hv.2 y e).next hW⟩ (by simp; omega) (fun y hy => by
        rcases List.mem_cons.1 hy with e | e
        · rw [e]; exact hx
        · exact ha y e)).mono fun e w' ⟨ad, n, cap, q', he, hl, hi, hb⟩ => ⟨ad, n, cap, q', he, hl, hi, below_on hW hb.out⟩
  have HRC : Hid (∀ W, Below w.heap.size w W → RowC W (.slice ad q.length cap) q.length (vqC q)) := fun W hW => hv.1.next hW
  have HO1 := hid (vqC_cell hv.2)
  have HQL := hid (vqC_len q)
  have HHD : Hid (q.length = 0 ∧ hdGe (vqL q) x = false ∨ ∃ (b off : Nat) (hi : Int), ad = some ⟨b, off, none⟩ ∧ 0 < q.length ∧ hdGe (vqL q) x = decide (x.id ≤ hi) ∧ ∀ W, Below w.heap.size w W → W.cell? ⟨b, off, none⟩ = some (.int .i64 hi)) := by
    cases q with
    | nil => exact .inl ⟨rfl, rfl⟩
    | cons y r =>
      obtain ⟨b, off, e, hb, c0, _⟩ := hc 0 (by simp)
      exact .inr ⟨b, off, y.2.id, e, by simp, rfl, fun W hW => (hW.cell (p := ⟨b, off, none⟩) hb).trans (by simpa using c0)⟩
  clear hc hv hp
  unfold vnV at *
  obtain ⟨id, ma, sz, sum, ps⟩ := x
  simp only at *
  generalize hdGe _ _ = HG at *
  generalize putE _ _ = PE at *
  generalize putL _ _ = PL at *
  generalize isCh _ = IS at *
  generalize vnE _ = E at *
  generalize hok : vnOk _ = OK at *
  clear hok
  generalize hpn : ps.length = pn at *
  clear hpn
  go_enter Try.func16, Try.ntmps16
  go_wp2_with fail
  refine IC.out.mono ?_
  rintro e w1 ⟨rfl, b1⟩
  have B1 := hid (BM.out.next b1)
  clear IC b1 BM HBX
  cases IS
  · have hpe : PE = 1 := by rw [HPE.out]; simp
    subst hpe
    have hpl : PL = [] := by rw [HPL.out]; simp
    subst hpl
    clear CK HPE HPL HE HLN HAL HAP HRC HO1 HQL HHD
    go_wp2
    go_ret2
    exact giveV_none B1.out.b
  · have y0 := B1.out.row.cellAt (o := 0) rfl
    have y1 := B1.out.row.cellAt (o := 1) rfl
    have y2 := B1.out.row.cellAt (o := 2) rfl
    have y3 := B1.out.row.cellAt (o := 3) rfl
    have y4 := B1.out.row.cellAt (o := 4) rfl
    go_wp2_with fail
    refine (CK.out _ B1.out.b).mono ?_
    rintro e w2 ⟨rfl, b2⟩
    have B2 := hid (B1.out.next b2)
    clear CK b2 B1 y0 y1 y2 y3 y4
    rcases HE.out with ⟨rfl, rfl⟩ | ⟨rfl, rfl⟩
    · have y0 := B2.out.row.cellAt (o := 0) rfl
      have h32 := HLN.out (by first | rfl | trivial)
      have HAL2 := hid (HAL.out (by first | rfl | trivial))
      rcases HHD.out with ⟨hz, rfl⟩ | ⟨b, off, hi, rfl, hpos, rfl, hcell⟩
      · have g1 : decide (0 < (q.length : Int)) = false := decide_eq_false (by omega)
        have g2 : decide (0 < q.length) = false := decide_eq_false (by omega)
        have g4 : ((q.length : Int) == 32) = false := beq_eq_false_iff_ne.2 (by omega)
        have hpe : PE = 0 := by rw [HPE.out, if_pos ⟨by first | rfl | trivial, by first | rfl | trivial⟩, if_neg (by simp), if_neg (by omega)]
        subst hpe
        have hpl : PL = ⟨id, ma, sz, sum, ps⟩ :: vqL q := by rw [HPL.out]; simp
        subst hpl
        clear hz
        clear HPE HPL HE HLN HAL HHD
        go_wp2
        go_quiet (fail)
        have B3 := hid (B2.out.drewN nq)
        generalize w2.drewN nq = w3 at *
        clear B2 y0
        have y0 := B3.out.row.cellAt (o := 0) rfl
        have HGA : Hid ((w3.alloc (.cells #[.int .i64 id, .bool ma, .int .i64 sz, .string sum, .slice ad2 pn cap2] 24)).ownsRow w.heap.size 24 5 (.slice (some ⟨w3.heap.size, 0, none⟩) 1 1) 1 (vnC (.slice ad2 pn cap2, ⟨id, ma, sz, sum, ps⟩))) := own_made w3 _ _ 5 1 _ B3.out.b.size rfl (by omega)
        have HBA : Hid (Below w.heap.size w (w3.alloc (.cells #[.int .i64 id, .bool ma, .int .i64 sz, .string sum, .slice ad2 pn cap2] 24))) := below_al B3.out.b _
        have HRA := hid (HRC.out _ HBA.out)
        have HSZ := hid HBA.out.size
        have HB1 : Hid (1 + q.length ≤ 4611686018427387904) := by show _ ≤ _; omega
        have HB2 : Hid ((1 + q.length) * 64 ≤ 140737488355328) := by show _ ≤ _; omega
        have FIN : Hid (∀ ad' cap' w', w'.ownsRow w.heap.size 24 5 (.slice ad' (1 + q.length) cap') (1 + q.length) (vnC (.slice ad2 pn cap2, ⟨id, ma, sz, sum, ps⟩) ++ vqC q) → Keep (fun j => (Value.slice (some ⟨w3.heap.size, 0, none⟩) 1 1).ownBlock = some j) (w3.alloc (.cells #[.int .i64 id, .bool ma, .int .i64 sz, .string sum, .slice ad2 pn cap2] 24)) w' → Hid (Calls Try.prog 40 #[.slice ad' (1 + q.length) cap'] w' fun e w' => ∃ ad n cap q', e = .returned (.slice ad n cap) ∧ vqL q' = ⟨id, ma, sz, sum, ps⟩ :: vqL q ∧ Hid (VnI w' (.slice ad n cap) q') ∧ Hid (Below w.heap.size w w'))) := fun ad' cap' w' hr hk' => HAP.out w' _ (HBA.out.trans (keep_below hk' (fun j hj e => by have := ownsRow_ge HGA.out e; omega) HSZ.out)) h32 HAL2.out (by first | rfl | trivial) (RowC.own hr)
        generalize vnC (.slice ad2 pn cap2, ⟨id, ma, sz, sum, ps⟩) = XS at *
        generalize vqC q = YS at *
        have y1 := B3.out.row.cellAt (o := 1) rfl
        have y2 := B3.out.row.cellAt (o := 2) rfl
        have y3 := B3.out.row.cellAt (o := 3) rfl
        have y4 := B3.out.row.cellAt (o := 4) rfl
        clear HAP HRC HAL2 h32 HBA
        go_wp2_with (at_builtin; refine wpl_gappR rfl _ _ elV rfl w.heap.size (.slice (some ⟨w3.heap.size, 0, none⟩) 1 1) (.slice ad q.length cap) XS YS 1 q.length (1 + q.length) rfl rfl rfl HGA.out HSZ.out HRA.out HQL.out HO1.out HB1.out HB2.out ?_; intro ad' cap' w' hr' hk')
        have AP := FIN.out _ _ _ hr' hk'
        clear hr' hk' FIN HGA HRA HSZ HQL HO1 HB1 HB2 y0 y1 y2 y3 y4
        go_wp2_with fail
        refine AP.out.mono ?_
        rintro e w4 ⟨ad4, n4, cap4, q4, rfl, hl4, I4, B4⟩
        have HL4 := hid hl4
        clear AP hl4
        go_wp2
        go_ret2
        exact ⟨ad4, n4, cap4, q4, rfl, HL4.out, I4.out, B4.out⟩
      · have g1 : decide (0 < (q.length : Int)) = true := decide_eq_true (by omega)
        have g2 : decide (0 < q.length) = true := decide_eq_true (by omega)
        have gi : (0 : Int) < (q.length : Int) := by omega
        have d0 := hcell _ B2.out.b
        by_cases hge : id ≤ hi
        · have g3 : decide (id ≤ hi) = true := decide_eq_true hge
          have hpe : PE = 1 := by rw [HPE.out, g3]; simp
          subst hpe
          have hpl : PL = [] := by rw [HPL.out]; simp
          subst hpl
          clear HPE HPL HE HLN HAL HAP HRC HO1 HQL HHD hge hcell h32 hpos HAL2
          go_wp2
          go_quiet (fail)
          go_wp2
          go_ret2
          exact giveV_none (B2.out.drewN _).b
        · have g3 : decide (id ≤ hi) = false := decide_eq_false hge
          by_cases h9 : q.length = 32
          · have g4 : ((q.length : Int) == 32) = true := by rw [h9]; rfl
            have hpe : PE = 131 := by rw [HPE.out, if_pos ⟨by first | rfl | trivial, by first | rfl | trivial⟩, if_neg (by rw [g3]; simp), if_pos h9]
            subst hpe
            have hpl : PL = [] := by rw [HPL.out]; simp
            subst hpl
            clear HPE HPL HE HLN HAL HAP HRC HO1 HQL HHD hge hcell h32 hpos HAL2 h9
            go_wp2
            go_quiet (fail)
            go_wp2
            go_ret2
            exact giveV_none (B2.out.drewN _).b
          have g4 : ((q.length : Int) == 32) = false := beq_eq_false_iff_ne.2 (by omega)
          have hpe : PE = 0 := by rw [HPE.out, if_pos ⟨by first | rfl | trivial, by first | rfl | trivial⟩, if_neg (by rw [g3]; simp), if_neg h9]
          subst hpe
          have hpl : PL = ⟨id, ma, sz, sum, ps⟩ :: vqL q := by rw [HPL.out]; simp
          subst hpl
          clear h9 hge hcell hpos
          clear HPE HPL HE HLN HAL HHD
          go_wp2
          go_quiet (fail)
          have B3 := hid (B2.out.drewN nq)
          generalize w2.drewN nq = w3 at *
          clear B2 y0 d0
          have y0 := B3.out.row.cellAt (o := 0) rfl
          have HGA : Hid ((w3.alloc (.cells #[.int .i64 id, .bool ma, .int .i64 sz, .string sum, .slice ad2 pn cap2] 24)).ownsRow w.heap.size 24 5 (.slice (some ⟨w3.heap.size, 0, none⟩) 1 1) 1 (vnC (.slice ad2 pn cap2, ⟨id, ma, sz, sum, ps⟩))) := own_made w3 _ _ 5 1 _ B3.out.b.size rfl (by omega)
          have HBA : Hid (Below w.heap.size w (w3.alloc (.cells #[.int .i64 id, .bool ma, .int .i64 sz, .string sum, .slice ad2 pn cap2] 24))) := below_al B3.out.b _
          have HRA := hid (HRC.out _ HBA.out)
          have HSZ := hid HBA.out.size
          have HB1 : Hid (1 + q.length ≤ 4611686018427387904) := by show _ ≤ _; omega
          have HB2 : Hid ((1 + q.length) * 64 ≤ 140737488355328) := by show _ ≤ _; omega
          have FIN : Hid (∀ ad' cap' w', w'.ownsRow w.heap.size 24 5 (.slice ad' (1 + q.length) cap') (1 + q.length) (vnC (.slice ad2 pn cap2, ⟨id, ma, sz, sum, ps⟩) ++ vqC q) → Keep (fun j => (Value.slice (some ⟨w3.heap.size, 0, none⟩) 1 1).ownBlock = some j) (w3.alloc (.cells #[.int .i64 id, .bool ma, .int .i64 sz, .string sum, .slice ad2 pn cap2] 24)) w' → Hid (Calls Try.prog 40 #[.slice ad' (1 + q.length) cap'] w' fun e w' => ∃ ad n cap q', e = .returned (.slice ad n cap) ∧ vqL q' = ⟨id, ma, sz, sum, ps⟩ :: vqL q ∧ Hid (VnI w' (.slice ad n cap) q') ∧ Hid (Below w.heap.size w w'))) := fun ad' cap' w' hr hk' => HAP.out w' _ (HBA.out.trans (keep_below hk' (fun j hj e => by have := ownsRow_ge HGA.out e; omega) HSZ.out)) h32 HAL2.out (by first | rfl | trivial) (RowC.own hr)
          generalize vnC (.slice ad2 pn cap2, ⟨id, ma, sz, sum, ps⟩) = XS at *
          generalize vqC q = YS at *
          have y1 := B3.out.row.cellAt (o := 1) rfl
          have y2 := B3.out.row.cellAt (o := 2) rfl
          have y3 := B3.out.row.cellAt (o := 3) rfl
          have y4 := B3.out.row.cellAt (o := 4) rfl
          clear HAP HRC HAL2 h32 HBA
          go_wp2_with (at_builtin; refine wpl_gappR rfl _ _ elV rfl w.heap.size (.slice (some ⟨w3.heap.size, 0, none⟩) 1 1) (.slice (some ⟨b, off, none⟩) q.length cap) XS YS 1 q.length (1 + q.length) rfl rfl rfl HGA.out HSZ.out HRA.out HQL.out HO1.out HB1.out HB2.out ?_; intro ad' cap' w' hr' hk')
          have AP := FIN.out _ _ _ hr' hk'
          clear hr' hk' FIN HGA HRA HSZ HQL HO1 HB1 HB2 y0 y1 y2 y3 y4
          go_wp2_with fail
          refine AP.out.mono ?_
          rintro e w4 ⟨ad4, n4, cap4, q4, rfl, hl4, I4, B4⟩
          have HL4 := hid hl4
          clear AP hl4
          go_wp2
          go_ret2
          exact ⟨ad4, n4, cap4, q4, rfl, HL4.out, I4.out, B4.out⟩
    · have hpe : PE = 1 := by rw [HPE.out]; simp
      subst hpe
      have hpl : PL = [] := by rw [HPL.out]; simp
      subst hpl
      clear HPE HPL HE HLN HAL HAP HRC HO1 HQL HHD
      go_wp2
      go_ret2
      exact giveV_none B2.out.b
end Go.Proofs.Ytbiapepalkdkdaa
namespace Go.Proofs.Ytbiapepalkdkdaa
open Go.RowKit Go.Maps
set_option linter.unusedVariables false
set_option linter.unusedSimpArgs false

/-- the first place of a number -/
def idxF (id : Int) : List Vn → Nat → Option Nat
  | [], _ => none
  | v :: r, k => if v.id = id then some k else idxF id r (k + 1)
theorem idxF_at (id : Int) (l : List Vn) (k : Nat) (hk : k < l.length) : idxF id (l.drop k) k = if l[k].id = id then some k else idxF id (l.drop (k + 1)) (k + 1) := by
  rw [List.drop_eq_getElem_cons hk]; rfl
theorem idxF_some {id : Int} : ∀ {l : List Vn} {k j : Nat}, idxF id l k = some j → k ≤ j ∧ ∃ h : j - k < l.length, l[j - k].id = id
  | [], k, j, h => by simp [idxF] at h
  | v :: r, k, j, h => by
    unfold idxF at h
    split at h
    · rename_i hv
      injection h with h
      subst h
      exact ⟨Nat.le_refl _, by simp, by simpa using hv⟩
    · obtain ⟨h1, h2, h3⟩ := idxF_some h
      refine ⟨by omega, by simp; omega, ?_⟩
      have e : j - k = (j - (k + 1)) + 1 := by omega
      simp only [e, List.getElem_cons_succ]
      exact h3
def plO (l : List Vn) (id : Int) : Option Nat := if isCh l = true then idxF id l 0 else none
def plE (l : List Vn) (id : Int) : Int := if isCh l = true then (if (idxF id l 0).isSome = true then 0 else 4) else 1
def plN (l : List Vn) (id : Int) : Nat := (plO l id).getD 0
theorem pl_cases (l : List Vn) (id : Int) : (isCh l = false ∧ plO l id = none ∧ plE l id = 1 ∧ plN l id = 0) ∨ (isCh l = true ∧ plO l id = none ∧ plE l id = 4 ∧ plN l id = 0) ∨ (isCh l = true ∧ ∃ j, plO l id = some j ∧ plE l id = 0 ∧ plN l id = j ∧ ∃ h : j < l.length, l[j].id = id) := by
  unfold plE plN plO
  cases h : isCh l
  · exact .inl ⟨rfl, rfl, rfl, rfl⟩
  · refine .inr ?_
    simp only [if_true]
    cases h2 : idxF id l 0 with
    | none => exact .inl ⟨trivial, rfl, rfl, rfl⟩
    | some j =>
      obtain ⟨_, h3, h4⟩ := idxF_some h2
      exact .inr ⟨trivial, j, rfl, rfl, rfl, h3, h4⟩
set_option maxRecDepth 100000 in
set_option maxHeartbeats 2000000 in
theorem place_any (v : Value) (q : List (Value × Vn)) (n : Int) (w : World) (hv : VnI w v q) : Calls Try.prog 42 #[v, .int .i64 n] w fun e w' => e = .returned (.tuple #[.int .i64 (plN (vqL q) n : Nat), .int .i64 (plE (vqL q) n)]) ∧ Below w.heap.size w w' := by
  obtain ⟨ad, cap, rfl, hc⟩ := hv.form
  have HC := hid hc
  have IC := hid (isChain_any (.slice ad q.length cap) q w hv)
  have HLN : Hid (isCh (vqL q) = true → q.length ≤ 32) := fun h => by have := isCh_len h; rw [vqL_len] at this; exact this
  have HE : Hid (plE (vqL q) n = if isCh (vqL q) = true then (if (idxF n (vqL q) 0).isSome = true then 0 else 4) else 1) := rfl
  have HN : Hid (plN (vqL q) n = (if isCh (vqL q) = true then idxF n (vqL q) 0 else none).getD 0) := rfl
  have HI0 : Hid (idxF n (vqL q) 0 = idxF n ((vqL q).drop 0) 0) := rfl
  generalize plE _ _ = PE at *
  generalize plN _ _ = PN at *
  generalize isCh _ = IS at *
  generalize idxF n (vqL q) 0 = R at *
  clear hc hv
  go_enter Try.func42, Try.ntmps42
  go_wp2_with fail
  refine IC.out.mono ?_
  rintro e w1 ⟨rfl, b1⟩
  have B1 := hid b1
  clear IC b1
  cases IS
  · have he : PE = 1 := HE.out
    have hn : PN = 0 := HN.out
    subst he hn
    clear HC HLN HE HN HI0
    go_wp2
    go_ret2
    exact ⟨rfl, B1.out⟩
  · have HE2 : Hid (PE = (if R.isSome = true then 0 else 4)) := HE.out
    have HN2 : Hid (PN = R.getD 0) := HN.out
    have HL := hid (HLN.out rfl)
    clear HE HN HLN
    go_wp2
    go_loopw [13] (fun i wr => ∃ (k : Nat), k ≤ q.length ∧ i = .int .i64 (k : Int) ∧ Hid (Below w.heap.size w wr) ∧ Hid (R = idxF n ((vqL q).drop k) k)) (fun i _ => q.length - (intOf i).toNat)
    case atStart => exact ⟨0, Nat.zero_le _, rfl, B1, HI0⟩
    case round =>
      clear HI0
      obtain ⟨k, hk, rfl, HB, HR⟩ := hrel
      by_cases hlt : k < q.length
      · have hk1 : (k : Int) < (q.length : Int) := by omega
        have hk0 : (0 : Int) ≤ (k : Int) := by omega
        have hwk : wrap64 ((k : Int) + 1) = ((k + 1 : Nat) : Int) := by have := HL.out; rw [IntWalk.wrap64_in _ (by omega)]; omega
        obtain ⟨b, off, rfl, hb, c0, c1, c2, c3, c4, hp⟩ := HC.out k hlt
        have d0 := (HB.out.cell (p := ⟨b, off + k * 5, none⟩) hb).trans c0
        have d1 := (HB.out.cell (p := ⟨b, off + k * 5 + 1, none⟩) hb).trans c1
        have d2 := (HB.out.cell (p := ⟨b, off + k * 5 + 2, none⟩) hb).trans c2
        have d3 := (HB.out.cell (p := ⟨b, off + k * 5 + 3, none⟩) hb).trans c3
        have d4 := (HB.out.cell (p := ⟨b, off + k * 5 + 4, none⟩) hb).trans c4
        have HR2 : Hid (R = if q[k].2.id = n then some k else idxF n ((vqL q).drop (k + 1)) (k + 1)) := by show _ = _; rw [HR.out, idxF_at n (vqL q) k (by rw [vqL_len]; exact hlt), vqL_get q k hlt]
        have HLT := hid hlt
        have hpf := hp.sl
        clear HC HR c0 c1 c2 c3 c4 hp hb
        generalize q[k] = y at *
        obtain ⟨pv, id, ma, sz, sum, ps⟩ := y
        simp only at *
        obtain ⟨ad2, cap2, rfl⟩ := hpf
        generalize ps.length = pn at *
        have SR := srow wr [.int .i64 id, .bool ma, .int .i64 sz, .string sum, .slice ad2 pn cap2] 24
        have y0 := SR.cellAt (o := 0) rfl
        have HBX : Hid (∀ X, Below w.heap.size w (wr.alloc X)) := fun X => below_al HB.out _
        have hk33 : (k : Int) < 33 := by have := HL.out; omega
        clear SR hlt hk HL
        by_cases hi : id = n
        · have g1 : (id == n) = true := by rw [hi]; simp
          have hr : R = some k := by rw [HR2.out, if_pos hi]
          have he : PE = 0 := by rw [HE2.out, hr]; rfl
          have hn : PN = k := by rw [HN2.out, hr]; rfl
          subst he hn
          clear HE2 HN2 HR2 hi hr HB
          go_wp2
          go_ret2
          exact ⟨rfl, HBX.out _⟩
        · have g1 : (id == n) = false := beq_eq_false_iff_ne.2 hi
          have HR3 : Hid (R = idxF n ((vqL q).drop (k + 1)) (k + 1)) := by show _ = _; rw [HR2.out, if_neg hi]
          have HB2 := hid (HBX.out (.cells #[.int .i64 id, .bool ma, .int .i64 sz, .string sum, .slice ad2 pn cap2] 24))
          clear HE2 HN2 HR2 hi HB HBX
          go_wp2
          exact ⟨⟨k + 1, HLT.out, by first | rw [hwk] | rfl | simp, HB2, HR3⟩, by (try rw [hwk]); have := HLT.out; simp [intOf]; omega⟩
      · have hke : k = q.length := by omega
        have hd : decide ((k : Int) < (q.length : Int)) = false := decide_eq_false (by omega)
        have hd2 : decide (k < q.length) = false := decide_eq_false hlt
        have hr : R = none := by rw [HR.out, List.drop_eq_nil_of_le (by rw [vqL_len]; omega)]; rfl
        have he : PE = 4 := by rw [HE2.out, hr]; rfl
        have hn : PN = 0 := by rw [HN2.out, hr]; rfl
        subst he hn
        clear HC HR hke hlt hk HL HE2 HN2 hr
        go_wp2
        go_ret2
        exact ⟨rfl, HB.out⟩
end Go.Proofs.Ytbiapepalkdkdaa
namespace Go.Proofs.Ytbiapepalkdkdaa
open Go.RowKit Go.Maps
set_option linter.unusedVariables false
set_option linter.unusedSimpArgs false

theorem wrap_succ (j : Nat) (h : j ≤ 1048576) : wrap64 ((j : Int) + 1) = (j : Int) + 1 ∧ IntKind.i64.wrap ((j : Int) + 1) = (j : Int) + 1 := by
  constructor
  · rw [IntWalk.wrap64_in _ (by omega)]
  · rw [IntKind.wrap_i64]; omega
theorem step_rapp {w w0 : World} {ops : Array Oper} {o : Oper} {a : Act} {K : Act → World → Prop} {Q : Exit → Act → World → Prop} {E : Prop} (hgd : o.guard = none) (sl x : Operand) {st e size bytes : Nat} (T : ElT st e size bytes)
    (ho : o.op = .call { callee := .builtin .append, args := #[sl, x], argTypes := #[st, st] }) (b off : Nat) (xv : Value) (olds news : List Value) (n m nm : Nat) (hnm : n + m = nm) (hk : Keep (fun _ => False) w0 w)
    (hs : a.eval sl = .slice (some ⟨b, off, none⟩) n n) (hx : a.eval x = xv) (hlo : olds.length = n * size) (holds : ∀ j u, olds[j]? = some u → w0.cell? ⟨b, off + j, none⟩ = some u) (hb : b < w0.heap.size) (hX : RowC w0 xv m news) (hl : news.length = m * size) (h1 : ∀ u ∈ news, u.oneCell' = true) (hm : nm ≤ 1048576) (hby : nm * bytes ≤ 140737488355328)
    (h : ∀ ad' cap' w', RowC w' (.slice ad' nm cap') nm (olds ++ news) → Below w0.heap.size w0 w' → K (a.put o.dst (.slice ad' nm cap')) w') : if Region.wanted o (yielded ops a.tmps) = true then Oper.wp Try.prog o a w K Q else E := by
  subst hnm
  have hwn : Region.wanted o (yielded ops a.tmps) = true := by simp [Region.wanted, hgd]
  rw [if_pos hwn]
  obtain ⟨ad', cap', w', hr, h2, h3⟩ := rapp T o.type hlo (fun j u hu => (hk.cell hb (fun h => h)).trans (holds j u hu)) (Nat.lt_of_lt_of_le hb hk.size) (hX.keep hk (fun _ _ h => h)) hl h1 hm hby
  unfold Oper.wp execOp
  simp only [ho, resolve, invoke, builtin, Sem.run_bind, Sem.run_pure, Result.andThen_ok, List.map_toArray, List.map_cons, List.map_nil, hs, hx, hr, Oper.upon]
  exact h ad' cap' w' h2 ((keep_below hk (fun _ _ h => h) (Nat.le_refl _)).trans (h3.mono hk.size))
theorem slice3 {st e size bytes : Nat} (T : ElT st e size bytes) (b off len cap j : Nat) (hj : j ≤ cap) (W : World) : (Instr.slice st (.slice (some ⟨b, off, none⟩) len cap) none (some (.int .i64 (j : Int))) (some (.int .i64 (j : Int)))).run Try.prog W = .ok (.slice (some ⟨b, off, none⟩) j j) W := by
  obtain ⟨z, hz, _⟩ := T.inf
  obtain ⟨i0, hi, _⟩ := Option.map_eq_some_iff.1 hz
  have e1 : (0 : Int) ≤ (j : Int) := by omega
  have e3 : (⟨b, off, none⟩ : Addr).add 0 = ⟨b, off, none⟩ := rfl
  simp [Instr.slice, Instr.sliceBounds, Instr.sliceBound, asIntOf, run_underlying T.und, sizeOf, typeInfo, hi, Result.andThen, e1, hj, e3]
theorem sliceFrom {st e size bytes : Nat} (T : ElT st e size bytes) {w : World} {b off len cap k : Nat} {cs : List Value} (hr : RowC w (.slice (some ⟨b, off, none⟩) len cap) len cs) (hcs : cs.length = len * size) (hk : k ≤ len) : ∃ x, RowC w x (len - k) (cs.drop (k * size)) ∧ ∀ W : World, (Instr.slice st (.slice (some ⟨b, off, none⟩) len cap) (some (.int .i64 (k : Int))) none none).run Try.prog W = .ok x W := by
  obtain ⟨z, hz, _⟩ := T.inf
  obtain ⟨i0, hi, hi2⟩ := Option.map_eq_some_iff.1 hz
  simp only [Prod.mk.injEq] at hi2
  obtain ⟨_, hi3, _⟩ := hi2
  have e1 : (0 : Int) ≤ (k : Int) := by omega
  rcases hr with ⟨ad, cap', e0, h0, h1⟩ | ⟨b', off', cap', e0, hn, hb, hc⟩
  · injection e0 with e0 e2 e4
    subst h0 e4
    have hk0 : k = 0 := by omega
    subst hk0
    refine ⟨.slice (some ⟨b, off, none⟩) 0 cap, .inl ⟨_, _, rfl, rfl, by rw [h1]; simp⟩, fun W => ?_⟩
    have e3 : (⟨b, off, none⟩ : Addr).add 0 = ⟨b, off, none⟩ := rfl
    simp [Instr.slice, Instr.sliceBounds, Instr.sliceBound, asIntOf, run_underlying T.und, sizeOf, typeInfo, hi, Result.andThen, e3]
  · injection e0 with e0 e2 e4
    injection e0 with e0
    injection e0 with e5 e6
    subst e5 e6 e4
    by_cases hck : cap = k
    · have hkA : k = len := by omega
      refine ⟨.slice (some ⟨b, off, none⟩) (len - k) (cap - k), .inl ⟨_, _, by rw [hkA, Nat.sub_self], by omega, List.drop_eq_nil_of_le (by rw [hcs, hkA]; exact Nat.le_refl _)⟩, fun W => ?_⟩
      simp [Instr.slice, Instr.sliceBounds, Instr.sliceBound, asIntOf, run_underlying T.und, sizeOf, typeInfo, hi, Result.andThen, e1, hk, hck]
    · refine ⟨.slice (some ⟨b, off + k * size, none⟩) (len - k) (cap - k), .inr ⟨b, off + k * size, _, rfl, by omega, hb, fun j u hu => ?_⟩, fun W => ?_⟩
      · rw [List.getElem?_drop] at hu
        have := hc _ u hu
        rw [Nat.add_assoc]
        exact this
      · have e3 : (⟨b, off, none⟩ : Addr).add (k * size) = ⟨b, off + k * size, none⟩ := by rw [Addr.add_lit]
        simp [Instr.slice, Instr.sliceBounds, Instr.sliceBound, asIntOf, run_underlying T.und, sizeOf, typeInfo, hi, Result.andThen, e1, hk, hck, hi3, e3]
theorem vqC_drop (q : List (Value × Vn)) (k : Nat) (hk : k ≤ q.length) : (vqC q).drop (k * 5) = vqC (q.drop k) := by
  have e : vqC q = vqC (q.take k) ++ vqC (q.drop k) := by rw [← vqC_app, List.take_append_drop]
  have hl : (vqC (q.take k)).length = k * 5 := by rw [vqC_len, List.length_take, Nat.min_eq_left hk]
  rw [e, ← hl, List.drop_left]
theorem vqC_pre (q : List (Value × Vn)) (k j : Nat) (u : Value) (h : (vqC (q.take k))[j]? = some u) : (vqC q)[j]? = some u := by
  have e : vqC q = vqC (q.take k) ++ vqC (q.drop k) := by rw [← vqC_app, List.take_append_drop]
  rw [e, List.getElem?_append_left (List.getElem?_eq_some_iff.1 h).1]
  exact h
def drL (l : List Vn) (n : Int) : List Vn := match plO l n with | some j => l.take j ++ l.drop (j + 1) | none => []
theorem vqL_cut (q : List (Value × Vn)) (j : Nat) : vqL (q.take j ++ q.drop (j + 1)) = (vqL q).take j ++ (vqL q).drop (j + 1) := by
  unfold vqL; rw [List.map_append, List.map_take, List.map_drop]
set_option maxRecDepth 100000 in
set_option maxHeartbeats 2000000 in
theorem drop_any (v : Value) (q : List (Value × Vn)) (n : Int) (w : World) (hv : VnI w v q) : Calls Try.prog 19 #[v, .int .i64 n] w (GiveV w (drL (vqL q) n) (plE (vqL q) n)) := by
  obtain ⟨ad, cap, rfl, hc⟩ := hv.form
  have PL := hid (place_any (.slice ad q.length cap) q n w hv)
  have HD : Hid (drL (vqL q) n = match plO (vqL q) n with | some j => (vqL q).take j ++ (vqL q).drop (j + 1) | none => []) := rfl
  have HE := hid (pl_cases (vqL q) n)
  have HLN : Hid (isCh (vqL q) = true → q.length ≤ 32) := fun h => by have := isCh_len h; rw [vqL_len] at this; exact this
  have HAL : Hid (isCh (vqL q) = true → ∀ y ∈ q, vnOk y.2 = true) := fun h y hy => isCh_all h _ (vq_mem hy)
  have HV := hid hv
  have HC := hid hc
  clear hc hv
  rcases HE.out with ⟨h1, h2, h3, h4⟩ | ⟨h1, h2, h3, h4⟩ | ⟨h1, j, h2, h3, h4, h5, h6⟩
  · rw [h3, h4] at PL
    rw [h3]
    rw [h2] at HD
    have hd := HD.out
    rw [hd]
    clear HE HD HLN HAL HV HC h1 h2 h3 h4 hd
    go_enter Try.func19, Try.ntmps19
    go_wp2_with fail
    refine PL.out.mono ?_
    rintro e w1 ⟨rfl, b1⟩
    have B1 := hid b1
    clear PL b1
    go_wp2
    go_ret2
    exact giveV_none B1.out
  · rw [h3, h4] at PL
    rw [h3]
    rw [h2] at HD
    have hd := HD.out
    rw [hd]
    clear HE HD HLN HAL HV HC h1 h2 h3 h4 hd
    go_enter Try.func19, Try.ntmps19
    go_wp2_with fail
    refine PL.out.mono ?_
    rintro e w1 ⟨rfl, b1⟩
    have B1 := hid b1
    clear PL b1
    go_wp2
    go_ret2
    exact giveV_none B1.out
  · rw [h3, h4] at PL
    rw [h3]
    rw [h2] at HD
    have hd := HD.out
    rw [hd]
    show Calls _ _ _ _ (GiveV w ((vqL q).take j ++ (vqL q).drop (j + 1)) 0)
    have hj : j < q.length := by rw [vqL_len] at h5; exact h5
    have h32 := HLN.out h1
    obtain ⟨b, off, rfl, hb, -⟩ := HC.out j hj
    have hcap : q.length ≤ cap := by
      rcases HV.out.1 with ⟨_, _, _, h0, _⟩ | ⟨_, _, _, e0, hn, _⟩
      · omega
      · injection e0 with _ _ e; omega
    have HRC := HV.out.1
    have S1 := fun W => slice3 elV b off q.length cap j (by omega) W
    obtain ⟨X2, hx2, S2⟩ := sliceFrom elV HRC (vqC_len q) (show j + 1 ≤ q.length from hj)
    rw [vqC_drop q (j + 1) hj] at hx2
    rw [show ((j + 1 : Nat) : Int) = (j : Int) + 1 by omega] at S2
    have HX2 : Hid (∀ W, Below w.heap.size w W → RowC W X2 (q.length - (j + 1)) (vqC (q.drop (j + 1)))) := fun W hW => hx2.next hW
    have HOL : Hid (∀ W, Below w.heap.size w W → ∀ i u, (vqC (q.take j))[i]? = some u → W.cell? ⟨b, off + i, none⟩ = some u) := fun W hW i u hu => by
      rcases HRC with ⟨_, _, _, h0, _⟩ | ⟨b', off', cap', e0, _, hb', hc'⟩
      · omega
      · injection e0 with e0
        injection e0 with e0
        injection e0 with e1 e2
        subst e1 e2
        exact (hW.cell (p := ⟨b, off + i, none⟩) hb').trans (hc' i u (vqC_pre q j i u hu))
    have HLO : Hid ((vqC (q.take j)).length = j * 5) := by show _ = _; rw [vqC_len, List.length_take, Nat.min_eq_left (by omega)]
    have HLD : Hid ((vqC (q.drop (j + 1))).length = (q.length - (j + 1)) * 5) := by show _ = _; rw [vqC_len, List.length_drop]
    have HO1 : Hid (∀ u ∈ vqC (q.drop (j + 1)), u.oneCell' = true) := vqC_cell (w := w) (fun y hy => HV.out.2 y (List.mem_of_mem_drop hy))
    have HNM : Hid (j + (q.length - (j + 1)) = q.length - 1) := by show _ = _; omega
    have HB1 : Hid (q.length - 1 ≤ 1048576) := by show _ ≤ _; omega
    have HB2 : Hid ((q.length - 1) * 64 ≤ 140737488355328) := by show _ ≤ _; omega
    have HBL : Hid (∀ W, Below w.heap.size w W → b < W.heap.size) := fun W hW => Nat.lt_of_lt_of_le hb hW.size
    have HAP : Hid (∀ W u, Below w.heap.size w W → RowC W u (q.length - 1) (vqC (q.take j) ++ vqC (q.drop (j + 1))) → Calls Try.prog 40 #[u] W fun e w' => ∃ ad n cap q', e = .returned (.slice ad n cap) ∧ vqL q' = (vqL q).take j ++ (vqL q).drop (j + 1) ∧ Hid (VnI w' (.slice ad n cap) q') ∧ Hid (Below w.heap.size w w')) := fun W u hW hr =>
      (vapart_ch u (q.take j ++ q.drop (j + 1)) W ⟨by
          have e : (q.take j ++ q.drop (j + 1)).length = q.length - 1 := by simp; omega
          rw [e, vqC_app]; exact hr, fun y hy => by
          rcases List.mem_append.1 hy with e | e
          · exact (HV.out.2 y (List.mem_of_mem_take e)).next hW
          · exact (HV.out.2 y (List.mem_of_mem_drop e)).next hW⟩ (by simp; omega) (fun y hy => by
          rcases List.mem_append.1 hy with e | e
          · exact HAL.out h1 y (List.mem_of_mem_take e)
          · exact HAL.out h1 y (List.mem_of_mem_drop e))).mono fun e w' ⟨ad, n, cap, q', he, hl, hi, hb⟩ => ⟨ad, n, cap, q', he, by rw [hl, vqL_cut], hi, below_on hW hb.out⟩
    obtain ⟨hwj, hwj2⟩ := wrap_succ j (by omega)
    generalize (vqL q).take j ++ (vqL q).drop (j + 1) = DL at *
    generalize vqC (q.take j) = OS at *
    generalize vqC (q.drop (j + 1)) = NS at *
    clear HE HD HLN HAL HV HC h1 h2 h3 h4 hd h5 h6 hx2 HRC hb
    go_enter Try.func19, Try.ntmps19
    go_wp2_with fail
    refine PL.out.mono ?_
    rintro e w1 ⟨rfl, b1⟩
    have B1 := hid b1
    clear PL b1
    have R1 := hid (HX2.out _ B1.out)
    have O1 := hid (HOL.out _ B1.out)
    have L1 := hid (HBL.out _ B1.out)
    have FIN : Hid (∀ ad' cap' w', RowC w' (.slice ad' (q.length - 1) cap') (q.length - 1) (OS ++ NS) → Below w1.heap.size w1 w' → Hid (∀ W, Keep (fun _ => False) w' W → Calls Try.prog 40 #[.slice ad' (q.length - 1) cap'] W fun e w' => ∃ ad n cap q', e = .returned (.slice ad n cap) ∧ vqL q' = DL ∧ Hid (VnI w' (.slice ad n cap) q') ∧ Hid (Below w.heap.size w w'))) := fun ad' cap' w' hr hb W hW => HAP.out W _ (below_on (below_on B1.out hb) (keep_below hW (fun _ _ h => h) (Nat.le_refl _))) (hr.keep hW (fun _ _ h => h))
    clear HX2 HOL HBL HAP hj h32 hcap
    go_wp2
    go_region_law (first | (refine step_rapp (w0 := w1) (by rfl) _ _ elV (by rfl) b off X2 OS NS j (q.length - (j + 1)) (q.length - 1) HNM.out (by first | with_reducible exact Keep.refl _ _ | with_reducible exact keep_drew _ _ | exact keep_drew _ _) (by kernel_rfl) (by kernel_rfl) HLO.out O1.out L1.out R1.out HLD.out HO1.out HB1.out HB2.out ?_; intro ad' cap' w2 hr2 hb2; have AP := FIN.out ad' cap' w2 hr2 hb2) | (go_simp; go_at_call 40; with_reducible (refine (AP.out _ ?_).mono ?_); (first | with_reducible exact Keep.refl _ _ | with_reducible exact keep_drew _ _ | exact keep_drew _ _); rintro e w4 ⟨ad4, n4, cap4, q4, rfl, hl4, I4, B4⟩; go_simp))
    all_goals
      have HL4 := hid hl4
      clear hl4 hr2 hb2 AP
      go_wp2
      go_ret2
      exact ⟨ad4, n4, cap4, q4, rfl, HL4.out, I4.out, B4.out⟩
end Go.Proofs.Ytbiapepalkdkdaa
