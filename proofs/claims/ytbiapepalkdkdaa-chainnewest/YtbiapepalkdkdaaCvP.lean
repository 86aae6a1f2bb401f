/- A version is put ahead of a chain, by the document. -/
import Derived.Test.YtbiapepalkdkdaaCvO
namespace Go.Proofs.Ytbiapepalkdkdaa
open Go.RowKit Go.Maps
set_option linter.unusedVariables false
set_option linter.unusedSimpArgs false

theorem chF_lt {p : Option Int} {l : List Vn} (h : chF p l = true) : (∀ y, p = some y → ∀ v ∈ l, v.id < y) ∧ l.Pairwise (fun a b => b.id < a.id) := by
  induction l generalizing p with
  | nil => exact ⟨(fun _ _ v hv => by cases hv), List.Pairwise.nil⟩
  | cons x r ih =>
    simp only [chF, Bool.and_eq_true] at h
    obtain ⟨i1, i2⟩ := ih h.2
    refine ⟨fun y hy v hv => ?_, .cons (fun v hv => i1 _ rfl v hv) i2⟩
    have hx : x.id < y := by have := h.1.2; rw [hy] at this; simpa [vnBelow] using this
    rcases List.mem_cons.1 hv with e | e
    · rw [e]; exact hx
    · have := i1 _ rfl v e; omega
theorem isCh_falls {l : List Vn} (h : isCh l = true) : l.Pairwise (fun a b => b.id < a.id) := by
  simp only [isCh, Bool.and_eq_true] at h
  exact (chF_lt h.2).2
theorem hdGe_of {l : List Vn} (h : isCh l = true) {k : Nat} (hk : k < l.length) {v : Vn} (hv : v.id ≤ l[k].id) : hdGe l v = true := by
  cases l with
  | nil => simp at hk
  | cons y r =>
    have hp := isCh_falls h
    simp only [hdGe]
    cases k with
    | zero => exact decide_eq_true (by simpa using hv)
    | succ k =>
      have hk' : k < r.length := by simpa using hk
      have := (List.pairwise_cons.1 hp).1 r[k] (List.getElem_mem hk')
      simp only [List.getElem_cons_succ] at hv
      exact decide_eq_true (by omega)
theorem hdGe_no {l : List Vn} {v : Vn} (h : ∀ y ∈ l, y.id < v.id) : hdGe l v = false := by
  cases l with
  | nil => rfl
  | cons y r => simp only [hdGe]; have := h y (by simp); exact decide_eq_false (by omega)
/-- what bounds versions -/
def SzQ (q : List (Value × Vn)) : Prop := q.length ≤ 8796093022208 ∧ ∀ y ∈ q, y.2.sum.size ≤ 140737488355328 ∧ y.2.ps.length ≤ 8796093022208 ∧ ∀ p ∈ y.2.ps, p.id.size ≤ 140737488355328
set_option maxRecDepth 100000 in
set_option maxHeartbeats 2000000 in
theorem rput_any (v0 : Value) (q : List (Value × Vn)) (pv : Value) (x : Vn) (w : World) (hv : VnI w v0 q) (hp : PcI w pv x.ps) (hq : SzQ q) (hl : x.ps.length ≤ 8796093022208) (hs : ∀ p ∈ x.ps, p.id.size ≤ 140737488355328) (hu : x.sum.size ≤ 140737488355328) : Calls Try.prog 17 #[v0, vnV (pv, x)] w (GiveV w (putL (vqL q) x) (putE (vqL q) x)) := by
  obtain ⟨ad2, cap2, rfl⟩ := hp.sl
  obtain ⟨ad, cap, rfl, hc⟩ := hv.form
  have HBX : Hid (Below w.heap.size w (w.alloc (.cells #[.int .i64 x.id, .bool x.ma, .int .i64 x.sz, .string x.sum, .slice ad2 x.ps.length cap2] 36))) := below_al (Below.refl _ _) _
  have BM := hid (Bx.made (Below.refl w.heap.size w) [.int .i64 x.id, .bool x.ma, .int .i64 x.sz, .string x.sum, .slice ad2 x.ps.length cap2] 36)
  have IC := hid (rmay_any (.slice ad q.length cap) q _ (hv.next HBX.out) hq.1 hq.2)
  have CK : Hid (∀ W, Below w.heap.size w W → Calls Try.prog 14 #[vnV (.slice ad2 x.ps.length cap2, x)] W fun e w' => e = .returned (.int .i64 (vnE x)) ∧ Below W.heap.size W w') := fun W hW => rvcheck_any _ x W (hp.next hW) hl hs hu
  have HPE : Hid (putE (vqL q) x = if isCh (vqL q) = true ∧ vnOk x = true then (if hdGe (vqL q) x = true then 1 else if q.length = 32 then 131 else 0) else 1) := by show _ = _; unfold putE; rw [vqL_len]
  have HPL : Hid (putL (vqL q) x = if putE (vqL q) x = 0 then x :: vqL q else []) := rfl
  have HE := hid (vnE_cases x)
  have HLN : Hid (isCh (vqL q) = true → q.length ≤ 32) := fun h => by have := isCh_len h; rw [vqL_len] at this; exact this
  have HHY : Hid (isCh (vqL q) = true → ∀ (k : Nat) (hk : k < q.length), x.id ≤ q[k].2.id → hdGe (vqL q) x = true) := fun h k hk hx => hdGe_of h (by rw [vqL_len]; exact hk) (by rw [vqL_get q k hk]; exact hx)
  have HHN : Hid ((∀ y ∈ q, y.2.id < x.id) → hdGe (vqL q) x = false) := fun h => hdGe_no fun y hy => by
    obtain ⟨z, hz, rfl⟩ := List.mem_map.1 hy
    exact h z hz
  have HC := hid hc
  have HFI : Hid (∀ W u, Below w.heap.size w W → RowC W u (1 + q.length) (vnC (.slice ad2 x.ps.length cap2, x) ++ vqC q) → VnI W u ((.slice ad2 x.ps.length cap2, x) :: q)) := fun W u hW hr => ⟨by
      show RowC W u (q.length + 1) (vqC (_ :: q))
      rw [Nat.add_comm, show vqC ((.slice ad2 x.ps.length cap2, x) :: q) = vnC (.slice ad2 x.ps.length cap2, x) ++ vqC q from rfl]
      exact hr, fun y hy => by
      rcases List.mem_cons.1 hy with e | e
      · rw [e]; exact hp.next hW
      · exact (hv.2 y e).next hW⟩
  have HRC : Hid (∀ W, Below w.heap.size w W → RowC W (.slice ad q.length cap) q.length (vqC q)) := fun W hW => hv.1.next hW
  have HO1 := hid (vqC_cell hv.2)
  have HQL := hid (vqC_len q)
  have HTA : Hid (∀ (k : Nat) (hk : k < q.length), (∀ y ∈ q.take k, y.2.id < x.id) → q[k].2.id < x.id → ∀ y ∈ q.take (k + 1), y.2.id < x.id) := fun k hk h h2 y hy => by
    rw [List.take_succ_eq_append_getElem hk] at hy
    rcases List.mem_append.1 hy with e | e
    · exact h y e
    · rw [List.mem_singleton.1 e]; exact h2
  clear hc hv hp hq hl hs hu
  unfold vnV at *
  obtain ⟨id, ma, sz, sum, ps⟩ := x
  simp only at *
  generalize hdGe _ _ = HG at *
  generalize putE _ _ = PE at *
  generalize putL _ _ = PL at *
  generalize isCh _ = IS at *
  generalize vnE _ = E at *
  generalize hok : vnOk _ = OK at *
  clear hok
  generalize hpn : ps.length = pn at *
  clear hpn
  go_enter Try.func17, Try.ntmps17
  go_wp2_with fail
  refine IC.out.mono ?_
  rintro e w1 ⟨rfl, b1⟩
  have B1 := hid (BM.out.next b1)
  clear IC b1 BM HBX
  cases IS
  · have hpe : PE = 1 := by rw [HPE.out]; simp
    subst hpe
    have hpl : PL = [] := by rw [HPL.out]; simp
    subst hpl
    clear CK HPE HPL HE HLN HHY HHN HFI HRC HO1 HQL HC HTA
    go_wp2
    go_ret2
    exact giveV_none B1.out.b
  · obtain ⟨⟨y0, y1, y2, y3, y4⟩, -⟩ := B1.out.may
    go_wp2_with fail
    refine (CK.out _ B1.out.b).mono ?_
    rintro e w2 ⟨rfl, b2⟩
    have B2 := hid (B1.out.next b2)
    clear CK b2 B1 y0 y1 y2 y3 y4
    rcases HE.out with ⟨rfl, rfl⟩ | ⟨rfl, rfl⟩
    · have h32 := HLN.out (by first | rfl | trivial)
      have HHY2 : Hid (∀ (k : Nat) (hk : k < q.length), id ≤ q[k].2.id → HG = true) := HHY.out (by first | rfl | trivial)
      have HPE2 : Hid (PE = if HG = true then 1 else if q.length = 32 then 131 else 0) := by have := HPE.out; rw [if_pos ⟨by first | rfl | trivial, by first | rfl | trivial⟩] at this; exact this
      clear HHY HPE HLN HE
      go_wp2
      go_loopw [6] (fun i wr => ∃ (k : Nat), k ≤ q.length ∧ i = .int .i64 (k : Int) ∧ Hid (Bx w w.heap.size [.int .i64 id, .bool ma, .int .i64 sz, .string sum, .slice ad2 pn cap2] 36 wr) ∧ Hid (∀ y ∈ q.take k, y.2.id < id)) (fun i _ => q.length - (intOf i).toNat)
      case atStart => exact ⟨0, Nat.zero_le _, rfl, B2, fun y hy => by simp at hy⟩
      case round =>
        clear B2
        obtain ⟨k, hk, rfl, BR, HA⟩ := hrel
        by_cases hlt : k < q.length
        · have hk1 : (k : Int) < (q.length : Int) := by omega
          have hk0 : (0 : Int) ≤ (k : Int) := by omega
          have hwk : wrap64 ((k : Int) + 1) = ((k + 1 : Nat) : Int) := by rw [IntWalk.wrap64_in _ (by omega)]; omega
          obtain ⟨b, off, rfl, hb, c0, -⟩ := HC.out k hlt
          have d0 := (BR.out.b.cell (p := ⟨b, off + k * 5, none⟩) hb).trans c0
          have y0 := BR.out.row.cellAt (o := 0) rfl
          have HLT := hid hlt
          have HT2 := hid (HTA.out k hlt HA.out)
          have HH2 := hid (HHY2.out k hlt)
          have hk33 : (k : Int) < 33 := by omega
          clear HC HTA HHN HFI HRC HO1 HQL HHY2 hb c0
          generalize q[k].2.id = z at *
          by_cases hge : id ≤ z
          · have g1 : decide (id ≤ z) = true := decide_eq_true hge
            have hg := HH2.out hge
            subst hg
            have hpe : PE = 1 := HPE2.out
            subst hpe
            have hpl : PL = [] := by rw [HPL.out]; simp
            subst hpl
            clear HPE2 HPL HT2 HH2 HA hge h32 hlt hk
            go_wp2
            go_quiet (fail)
            go_wp2
            go_ret2
            exact giveV_none (BR.out.drewN _).b
          · have g1 : decide (id ≤ z) = false := decide_eq_false hge
            have HA2 := hid (HT2.out (by omega))
            clear HPE2 HPL HT2 HH2 HA hge h32 hlt hk
            go_wp2
            go_quiet (fail)
            have BR2 := hid (BR.out.drewN nq)
            clear BR d0 y0
            go_wp2
            exact ⟨⟨k + 1, HLT.out, by first | rw [hwk] | rfl | simp, BR2, HA2⟩, by (try rw [hwk]); have := HLT.out; simp [intOf]; omega⟩
        · have hke : k = q.length := by omega
          have hd : decide ((k : Int) < (q.length : Int)) = false := decide_eq_false (by omega)
          have hd2 : decide (k < q.length) = false := decide_eq_false hlt
          have hg := HHN.out (by have := HA.out; rw [hke, List.take_length] at this; exact this)
          subst hg
          have HPE3 : Hid (PE = if q.length = 32 then 131 else 0) := HPE2.out
          clear HHN HPE2 HTA HHY2 HC HA hlt hk hke
          by_cases h9 : q.length = 32
          · have g4 : decide ((32 : Int) ≤ (q.length : Int)) = true := decide_eq_true (by omega)
            have g5 : decide (32 ≤ q.length) = true := decide_eq_true (by omega)
            have hpe : PE = 131 := by rw [HPE3.out, if_pos h9]
            subst hpe
            have hpl : PL = [] := by rw [HPL.out]; simp
            subst hpl
            clear HPE3 HPL HFI HRC HO1 HQL h9 h32
            go_wp2
            go_ret2
            exact giveV_none BR.out.b
          · have g4 : decide ((32 : Int) ≤ (q.length : Int)) = false := decide_eq_false (by omega)
            have g5 : decide (32 ≤ q.length) = false := decide_eq_false (by omega)
            have hpe : PE = 0 := by rw [HPE3.out, if_neg h9]
            subst hpe
            have hpl : PL = ⟨id, ma, sz, sum, ps⟩ :: vqL q := by rw [HPL.out]; simp
            subst hpl
            clear HPE3 HPL h9
            obtain ⟨⟨y0, y1, y2, y3, y4⟩, -⟩ := BR.out.may
            have HGA : Hid ((wr.alloc (.cells #[.int .i64 id, .bool ma, .int .i64 sz, .string sum, .slice ad2 pn cap2] 36)).ownsRow w.heap.size 36 5 (.slice (some ⟨wr.heap.size, 0, none⟩) 1 1) 1 (vnC (.slice ad2 pn cap2, ⟨id, ma, sz, sum, ps⟩))) := own_made wr _ _ 5 1 _ BR.out.b.size rfl (by omega)
            have HBA : Hid (Below w.heap.size w (wr.alloc (.cells #[.int .i64 id, .bool ma, .int .i64 sz, .string sum, .slice ad2 pn cap2] 36))) := below_al BR.out.b _
            have HRA := hid (HRC.out _ HBA.out)
            have HSZ := hid HBA.out.size
            have HB1 : Hid (1 + q.length ≤ 4611686018427387904) := by show _ ≤ _; omega
            have HB2 : Hid ((1 + q.length) * 64 ≤ 140737488355328) := by show _ ≤ _; omega
            have FIN : Hid (∀ ad' cap' w', w'.ownsRow w.heap.size 36 5 (.slice ad' (1 + q.length) cap') (1 + q.length) (vnC (.slice ad2 pn cap2, ⟨id, ma, sz, sum, ps⟩) ++ vqC q) → Keep (fun j => (Value.slice (some ⟨wr.heap.size, 0, none⟩) 1 1).ownBlock = some j) (wr.alloc (.cells #[.int .i64 id, .bool ma, .int .i64 sz, .string sum, .slice ad2 pn cap2] 36)) w' → GiveV w (⟨id, ma, sz, sum, ps⟩ :: vqL q) 0 (.returned (.tuple #[.slice ad' (1 + q.length) cap', .int .i64 0])) w') := fun ad' cap' w' hr hk' => by
              have hb := HBA.out.trans (keep_below hk' (fun j hj e => by have := ownsRow_ge HGA.out e; omega) HSZ.out)
              exact ⟨_, _, _, _, rfl, rfl, HFI.out w' _ hb (RowC.own hr), hb⟩
            generalize vnC (.slice ad2 pn cap2, ⟨id, ma, sz, sum, ps⟩) = XS at *
            generalize vqC q = YS at *
            clear HFI HRC h32 HBA
            go_wp2_with (at_builtin; refine wpl_gappR rfl _ _ elRV rfl w.heap.size (.slice (some ⟨wr.heap.size, 0, none⟩) 1 1) (.slice ad q.length cap) XS YS 1 q.length (1 + q.length) rfl rfl rfl HGA.out HSZ.out HRA.out HQL.out HO1.out HB1.out HB2.out ?_; intro ad' cap' w' hr' hk')
            have AP := hid (FIN.out _ _ _ hr' hk')
            clear hr' hk' FIN HGA HRA HSZ HQL HO1 HB1 HB2 y0 y1 y2 y3 y4
            go_wp2
            go_ret2
            exact AP.out
    · have hpe : PE = 1 := by rw [HPE.out]; simp
      subst hpe
      have hpl : PL = [] := by rw [HPL.out]; simp
      subst hpl
      clear HPE HPL HE HLN HHY HHN HFI HRC HO1 HQL HC HTA
      go_wp2
      go_ret2
      exact giveV_none B2.out.b
def noId (n : Int) (v : Vn) : Bool := v.id != n
theorem fil_none {n : Int} : ∀ {l : List Vn} {k : Nat}, idxF n l k = none → l.filter (noId n) = l
  | [], _, _ => rfl
  | v :: r, k, h => by
    unfold idxF at h
    split at h
    · cases h
    · rename_i hv
      have : noId n v = true := by unfold noId; rw [bne_iff_ne]; exact hv
      rw [List.filter_cons_of_pos this, fil_none h]
theorem fil_some {n : Int} : ∀ {l : List Vn} {k j : Nat}, l.Pairwise (fun a b => b.id < a.id) → idxF n l k = some j → l.filter (noId n) = l.take (j - k) ++ l.drop (j - k + 1)
  | [], _, _, _, h => by simp [idxF] at h
  | v :: r, k, j, hp, h => by
    unfold idxF at h
    obtain ⟨hp1, hp2⟩ := List.pairwise_cons.1 hp
    split at h
    · rename_i hv
      injection h with h
      subst h
      have : ¬ noId n v = true := by unfold noId; rw [bne_iff_ne]; exact fun h => h hv
      rw [List.filter_cons_of_neg this, Nat.sub_self]
      simp only [List.take_zero, List.nil_append, Nat.zero_add, List.drop_succ_cons, List.drop_zero]
      rw [List.filter_eq_self]
      intro y hy
      have := hp1 y hy
      unfold noId
      rw [bne_iff_ne]
      omega
    · rename_i hv
      have : noId n v = true := by unfold noId; rw [bne_iff_ne]; exact hv
      have hj := (idxF_some h).1
      rw [List.filter_cons_of_pos this, fil_some hp2 h, show j - k = (j - (k + 1)) + 1 by omega]
      simp
theorem fil_q (n : Int) (q : List (Value × Vn)) : vqL (q.filter (fun y => noId n y.2)) = (vqL q).filter (noId n) := by
  unfold vqL
  rw [List.filter_map]
  rfl
set_option maxRecDepth 100000 in
set_option maxHeartbeats 2000000 in
theorem rdrop_any (v : Value) (q : List (Value × Vn)) (n : Int) (w : World) (hv : VnI w v q) (hq : SzQ q) : Calls Try.prog 20 #[v, .int .i64 n] w (GiveV w (drL (vqL q) n) (plE (vqL q) n)) := by
  obtain ⟨ad, cap, rfl, hc⟩ := hv.form
  have IC := hid (rmay_any (.slice ad q.length cap) q w hv hq.1 hq.2)
  have HC := hid hc
  have HCH := hid (pl_cases (vqL q) n)
  have HD : Hid (drL (vqL q) n = match plO (vqL q) n with | some j => (vqL q).take j ++ (vqL q).drop (j + 1) | none => []) := rfl
  have HPO : Hid (isCh (vqL q) = true → plO (vqL q) n = idxF n (vqL q) 0) := fun h => by unfold plO; rw [if_pos h]
  have HFA : Hid (isCh (vqL q) = true → (vqL q).Pairwise (fun a b => b.id < a.id)) := isCh_falls
  have HLN : Hid (isCh (vqL q) = true → q.length ≤ 32) := fun h => by have := isCh_len h; rw [vqL_len] at this; exact this
  have HVP : Hid (∀ W, Below w.heap.size w W → VqP W (q.filter (fun y => noId n y.2))) := fun W hW y hy => (hv.2 y ((List.mem_filter.1 hy).1)).next hW
  have HTK : Hid (∀ (k : Nat) (hk : k < q.length), (q.take (k + 1)).filter (fun y => noId n y.2) = (q.take k).filter (fun y => noId n y.2) ++ (if noId n q[k].2 = true then [q[k]] else [])) := fun k hk => by
    rw [List.take_succ_eq_append_getElem hk, List.filter_append]
    congr 1
    by_cases h : noId n q[k].2 = true
    · simp [List.filter_cons, h]
    · simp [List.filter_cons, h]
  have HLE : Hid (∀ k, ((q.take k).filter (fun y => noId n y.2)).length ≤ q.length) := fun k => by
    have h1 := List.length_filter_le (fun y : Value × Vn => noId n y.2) (q.take k)
    have h2 : (q.take k).length ≤ q.length := by simp; omega
    omega
  have HLK : Hid (∀ k, ((q.take k).filter (fun y => noId n y.2)).length ≤ k) := fun k => by
    have h1 := List.length_filter_le (fun y : Value × Vn => noId n y.2) (q.take k)
    have h2 : (q.take k).length ≤ k := by simp; omega
    omega
  clear hc hv hq
  generalize hIS : isCh (vqL q) = IS at *
  go_enter Try.func20, Try.ntmps20
  go_wp2_with fail
  refine IC.out.mono ?_
  rintro e w1 ⟨rfl, b1⟩
  have B1 := hid b1
  clear IC b1
  cases IS
  · have hx : plO (vqL q) n = none ∧ plE (vqL q) n = 1 := by
      rcases HCH.out with ⟨_, h2, h3, _⟩ | ⟨h1, _⟩ | ⟨h1, _⟩
      · exact ⟨h2, h3⟩
      · cases h1
      · cases h1
    have hd : drL (vqL q) n = [] := by rw [HD.out, hx.1]
    have FIN : Hid (GiveV w (drL (vqL q) n) (plE (vqL q) n) (.returned (.tuple #[.slice none 0 0, .int .i64 1])) w1) := by rw [hd, hx.2]; exact giveV_none B1.out
    clear hx hd HC HCH HD HPO HFA HLN HVP HTK HLE HLK hIS
    generalize drL _ _ = DL at *
    generalize plE _ _ = PE at *
    go_wp2
    go_ret2
    exact FIN.out
  · have h32 := HLN.out rfl
    have HEND : Hid (∀ W u, Below w.heap.size w W → VnI W u (q.filter (fun y => noId n y.2)) → (∃ ad m cap, u = .slice ad m cap) → ((q.filter (fun y => noId n y.2)).length = q.length → GiveV w (drL (vqL q) n) (plE (vqL q) n) (.returned (.tuple #[.slice none 0 0, .int .i64 4])) W) ∧ ((q.filter (fun y => noId n y.2)).length ≠ q.length → GiveV w (drL (vqL q) n) (plE (vqL q) n) (.returned (.tuple #[u, .int .i64 0])) W)) := fun W u hW hI hu => by
      have hfq := fil_q n q
      rcases HCH.out with ⟨h1, _⟩ | ⟨h1, h2, h3, _⟩ | ⟨h1, j, h2, h3, _, h5, h6⟩
      · cases h1
      · have hd : drL (vqL q) n = [] := by rw [HD.out, h2]
        rw [HPO.out rfl] at h2
        rw [fil_none h2] at hfq
        have hlen : (q.filter (fun y => noId n y.2)).length = q.length := by rw [← vqL_len, hfq, vqL_len]
        refine ⟨fun _ => by rw [hd, h3]; exact giveV_none hW, fun h => absurd hlen h⟩
      · have hd : drL (vqL q) n = (vqL q).take j ++ (vqL q).drop (j + 1) := by rw [HD.out, h2]
        rw [HPO.out rfl] at h2
        have hf := fil_some (HFA.out rfl) h2
        rw [hf] at hfq
        simp only [Nat.sub_zero] at hfq
        have hlen : (q.filter (fun y => noId n y.2)).length ≠ q.length := by
          rw [← vqL_len, hfq]
          rw [vqL_len] at h5
          simp [vqL_len]
          omega
        refine ⟨fun h => absurd h hlen, fun _ => ?_⟩
        obtain ⟨ad, m, cap, rfl⟩ := hu
        rw [hd, h3]
        exact ⟨ad, m, cap, _, rfl, hfq, hI, hW⟩
    clear HCH HD HPO HFA HLN hIS
    generalize drL _ _ = DL at *
    generalize plE _ _ = PE at *
    go_wp2
    go_loopw [6, 7] (fun o i wr => ∃ (k m : Nat) (ad1 : Option Addr) (cp1 : Nat), k ≤ q.length ∧ o = .slice ad1 m cp1 ∧ i = .int .i64 (k : Int) ∧ Hid (m = ((q.take k).filter (fun y => noId n y.2)).length ∧ wr.ownsRow w.heap.size 36 5 (.slice ad1 m cp1) m (vqC ((q.take k).filter (fun y => noId n y.2)))) ∧ Hid (Below w.heap.size w wr)) (fun _ i _ => q.length - (intOf i).toNat)
    case atStart => exact ⟨0, 0, none, 0, Nat.zero_le _, rfl, rfl, ⟨rfl, rfl, .inl ⟨rfl, rfl⟩⟩, B1⟩
    case round =>
      clear B1
      obtain ⟨k, m, ad1, cp1, hk, rfl, rfl, HR, HB⟩ := hrel
      by_cases hlt : k < q.length
      · have hk1 : (k : Int) < (q.length : Int) := by omega
        have hk0 : (0 : Int) ≤ (k : Int) := by omega
        have hwk : wrap64 ((k : Int) + 1) = ((k + 1 : Nat) : Int) := by rw [IntWalk.wrap64_in _ (by omega)]; omega
        obtain ⟨b, off, rfl, hb, c0, c1, c2, c3, c4, hp⟩ := HC.out k hlt
        have d0 := (HB.out.cell (p := ⟨b, off + k * 5, none⟩) hb).trans c0
        have d1 := (HB.out.cell (p := ⟨b, off + k * 5 + 1, none⟩) hb).trans c1
        have d2 := (HB.out.cell (p := ⟨b, off + k * 5 + 2, none⟩) hb).trans c2
        have d3 := (HB.out.cell (p := ⟨b, off + k * 5 + 3, none⟩) hb).trans c3
        have d4 := (HB.out.cell (p := ⟨b, off + k * 5 + 4, none⟩) hb).trans c4
        have HT := hid (HTK.out k hlt)
        have HLT := hid hlt
        have hmk : m ≤ k := by rw [HR.out.1]; exact HLK.out k
        have hpf := hp.sl
        have HNI : Hid (noId n q[k].2 = (q[k].2.id != n)) := rfl
        have hk33 : (k : Int) < 33 := by omega
        clear HC c0 c1 c2 c3 c4 hp hb HEND HTK HLE HLK HVP
        generalize q[k] = y at *
        obtain ⟨pv, id, ma, sz, sum, ps⟩ := y
        simp only at *
        obtain ⟨ad2, cap2, rfl⟩ := hpf
        generalize hpn : ps.length = pn at *
        clear hpn
        by_cases hi : id = n
        · have g1 : (id != n) = false := by rw [hi]; simp
          have HR2 : Hid (m = ((q.take (k + 1)).filter (fun y => noId n y.2)).length ∧ wr.ownsRow w.heap.size 36 5 (.slice ad1 m cp1) m (vqC ((q.take (k + 1)).filter (fun y => noId n y.2)))) := by
            have e := HT.out
            rw [HNI.out, g1, if_neg (by simp), List.append_nil] at e
            show _ ∧ _
            rw [e]
            exact HR.out
          clear HT HNI hi HR hlt hk h32
          go_wp2
          exact ⟨⟨k + 1, m, _, _, HLT.out, rfl, by first | rw [hwk] | rfl | simp, HR2, HB⟩, by (try rw [hwk]); have := HLT.out; simp [intOf]; omega⟩
        · have g1 : (id != n) = true := by rw [bne_iff_ne]; exact hi
          have HE2 : Hid ((q.take (k + 1)).filter (fun y => noId n y.2) = (q.take k).filter (fun y => noId n y.2) ++ [(.slice ad2 pn cap2, ⟨id, ma, sz, sum, ps⟩)]) := by
            have e := HT.out
            rw [HNI.out, g1, if_pos rfl] at e
            exact e
          have HGA : Hid ((wr.alloc (.cells #[.int .i64 id, .bool ma, .int .i64 sz, .string sum, .slice ad2 pn cap2] 36)).ownsRow w.heap.size 36 5 (.slice ad1 m cp1) m (vqC ((q.take k).filter (fun y => noId n y.2)))) := (keep_alloc (fun _ => False) _ _).ownsRow HR.out.2 (fun _ _ h => h)
          have HGX : Hid (GSrc (wr.alloc (.cells #[.int .i64 id, .bool ma, .int .i64 sz, .string sum, .slice ad2 pn cap2] 36)) (.slice (some ⟨wr.heap.size, 0, none⟩) 1 1) 1 (vnC (.slice ad2 pn cap2, ⟨id, ma, sz, sum, ps⟩))) := gsrc_block (heap_alloc_new _ _)
          have HSZ : Hid (w.heap.size ≤ (wr.alloc (.cells #[.int .i64 id, .bool ma, .int .i64 sz, .string sum, .slice ad2 pn cap2] 36)).heap.size) := Nat.le_trans HB.out.size (keep_alloc (fun _ => False) _ _).size
          have HO1 := hid (vnC_one ad2 pn cap2 ⟨id, ma, sz, sum, ps⟩)
          have HX2 : Hid ((vnC (.slice ad2 pn cap2, ⟨id, ma, sz, sum, ps⟩)).length = 1 * 5) := rfl
          have HB1 : Hid (m + 1 ≤ 4611686018427387904) := by show _ ≤ _; omega
          have HB2 : Hid ((m + 1) * 64 ≤ 140737488355328) := by show _ ≤ _; omega
          have FIN : Hid (∀ ad' cap' w', w'.ownsRow w.heap.size 36 5 (.slice ad' (m + 1) cap') (m + 1) (vqC ((q.take k).filter (fun y => noId n y.2)) ++ vnC (.slice ad2 pn cap2, ⟨id, ma, sz, sum, ps⟩)) → Keep (fun j => (Value.slice ad1 m cp1).ownBlock = some j) (wr.alloc (.cells #[.int .i64 id, .bool ma, .int .i64 sz, .string sum, .slice ad2 pn cap2] 36)) w' → Hid (m + 1 = ((q.take (k + 1)).filter (fun y => noId n y.2)).length ∧ w'.ownsRow w.heap.size 36 5 (.slice ad' (m + 1) cap') (m + 1) (vqC ((q.take (k + 1)).filter (fun y => noId n y.2)))) ∧ Hid (Below w.heap.size w w')) := fun ad' cap' w' hr hk' => by
            refine ⟨?_, (below_al HB.out _).trans (keep_below hk' (fun j hj e => by have := ownsRow_ge HGA.out e; omega) HSZ.out)⟩
            show _ ∧ _
            rw [HE2.out, vqC_app, vqC_one, List.length_append, ← HR.out.1]
            exact ⟨rfl, hr⟩
          generalize vnC (.slice ad2 pn cap2, ⟨id, ma, sz, sum, ps⟩) = XS at *
          generalize vqC ((q.take k).filter (fun y => noId n y.2)) = YS at *
          clear HT HNI hi HR hlt hk h32 HE2 hmk
          go_wp2_with (at_builtin; refine wpl_gappL rfl _ _ elRV rfl w.heap.size (.slice ad1 m cp1) (.slice (some ⟨wr.heap.size, 0, none⟩) 1 1) YS XS m 1 (m + 1) rfl rfl rfl HGA.out HSZ.out HGX.out HX2.out HO1.out HB1.out HB2.out ?_; intro ad' cap' w' hr' hk')
          obtain ⟨F1, F2⟩ := FIN.out _ _ _ hr' hk'
          clear hr' hk' FIN HGA HGX HSZ d0 d1 d2 d3 d4 HB HO1 HX2 HB1 HB2
          go_wp2
          exact ⟨⟨k + 1, m + 1, _, _, HLT.out, by first | rfl | simp, by first | rw [hwk] | rfl | simp, F1, F2⟩, by (try rw [hwk]); have := HLT.out; simp [intOf]; omega⟩
      · have hke : k = q.length := by omega
        have hd : decide ((k : Int) < (q.length : Int)) = false := decide_eq_false (by omega)
        have hd2 : decide (k < q.length) = false := decide_eq_false hlt
        obtain ⟨hm, hr⟩ := HR.out
        rw [hke, List.take_length] at hm hr
        have HI : Hid (VnI wr (.slice ad1 m cp1) (q.filter (fun y => noId n y.2))) := ⟨by rw [← hm]; exact RowC.own hr, HVP.out _ HB.out⟩
        obtain ⟨E1, E2⟩ := HEND.out wr _ HB.out HI.out ⟨_, _, _, rfl⟩
        rw [← hm] at E1 E2
        have HE1 := hid E1
        have HE2 := hid E2
        clear HC HVP HTK HLE HLK HEND HR hlt hk hke hm hr HI E1 E2
        by_cases h9 : m = q.length
        · have g4 : ((m : Int) == (q.length : Int)) = true := by rw [h9]; simp
          have F := hid (HE1.out h9)
          clear HE1 HE2 h9
          go_wp2
          go_ret2
          exact F.out
        · have g4 : ((m : Int) == (q.length : Int)) = false := beq_eq_false_iff_ne.2 (by omega)
          have F := hid (HE2.out h9)
          clear HE1 HE2 h9
          go_wp2
          go_ret2
          exact F.out
end Go.Proofs.Ytbiapepalkdkdaa
