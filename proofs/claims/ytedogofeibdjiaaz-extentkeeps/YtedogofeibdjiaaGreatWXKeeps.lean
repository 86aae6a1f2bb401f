/- The walk of the law ExtentKeeps. -/
import Derived.Test.YtedogofeibdjiaaGreatJoined19
import Derived.Deep.CutRange
import Derived.Deep.RegionHeld3
namespace Go.Proofs.YtedogofeibdjiaaGreat
open Go.RowKit Go.Maps
set_option linter.unusedVariables false
set_option linter.unusedSimpArgs false

set_option maxRecDepth 100000 in
set_option maxHeartbeats 4000000 in
theorem extentKeeps_walk (v : Value) (q : List ByteArray) (u : Value) (t : List ByteArray) (w : World) (hs : Strs w v q) (hq2 : q.length ≤ 9223372036854775807) (ht : Strs w u t) (ht2 : t.length ≤ 9223372036854775807) : Calls Tryz.prog 5 #[v, u] w fun e w' => e = .returned (.bool true) ∧ Below w.heap.size w w' := by
  obtain ⟨ad, cap, rfl⟩ := strs_form hs
  obtain ⟨td, tc, rfl⟩ := strs_form ht
  have CEL : Hid (∀ (k : Nat) (h : k < q.length), ∃ g off, ad = some ⟨g, off, none⟩ ∧ ∀ W, Below w.heap.size w W → W.cell? ⟨g, off + k, none⟩ = some (.string q[k])) := fun k h => by
    obtain ⟨g, off, h1, h3, h2⟩ := strs_at hs k h
    exact ⟨g, off, h1, fun W hW => (hW.cell h3).trans h2⟩
  have IDS : Hid (∀ W, Below w.heap.size w W → Calls Tryz.prog 15 #[.slice td t.length tc] W fun e w' => ∃ v', e = .returned v' ∧ w'.ownsRow W.heap.size 9 1 v' (idL t).length (txC (idL t)) ∧ Keep (fun _ => False) W w') := fun W hW => ids_any t _ W (ht.below hW)
  have NW := hid (new_any w)
  obtain ⟨p, hp⟩ : ∃ p, p = w.heap.size := ⟨_, rfl⟩
  have HP := hid hp
  rw [← hp] at NW
  have AW := hid (fun W => awake6 W)
  clear hs ht hp hq2 ht2
  go_enter Tryz.func5, Tryz.ntmps5
  go_wp2_with fail
  refine NW.out.mono ?_
  rintro e w1 ⟨rfl, hD, hk⟩
  have HK := hid hk
  have OP := hid (xs_open w1 p hD)
  have HB : Hid (∀ x d W, XsM w1 p x d W → Below w.heap.size w W) := fun x d W h => h.below HK.out (by have := HP.out; omega)
  clear hD hk NW
  go_wp2_with fail
  refine OP.out.mono ?_
  rintro e w2 ⟨rfl, hX⟩
  have X2 := hid hX
  clear hX OP
  go_wp2_with fail
  refine (AW.out _).mono ?_
  rintro e w3 ⟨rfl, hb⟩
  have X3 := hid (X2.out.on (hb.keep _))
  clear hb X2 AW
  generalize w1.heap.size = x at *
  go_wp2
  go_loopw [8] (fun i wr => ∃ (k n : Nat) (A : List (Bs × Bs)), i = .int .i64 (k : Int) ∧ Hid (k ≤ 12) ∧ Hid (XsM w1 p x (dR A [] n) wr) ∧ Hid (EInv A ∧ A.length ≤ k ∧ n ≤ 2 * k)) (fun i _ => 12 - (intOf i).toNat)
  case atStart => exact ⟨0, 0, [], rfl, Nat.zero_le _, X3, ⟨EInv.nil, Nat.zero_le _, Nat.zero_le _⟩⟩
  case round =>
    clear X3
    obtain ⟨k, n, A, rfl, HK12, HX, HA⟩ := hrel
    by_cases h1 : k < q.length
    · have n1 : decide ((k : Int) < (q.length : Int)) = true := decide_eq_true (by omega)
      have n1' : decide (k < q.length) = true := decide_eq_true h1
      by_cases h2 : k < 12
      · have n2 : decide ((k : Int) < 12) = true := decide_eq_true (by omega)
        have n2' : decide (k < 12) = true := decide_eq_true h2
        obtain ⟨g, off, hva, hcl⟩ := CEL.out k h1
        have hc := hcl wr (HB.out _ _ _ HX.out)
        have FW := hid (fun W : World => few_any q[k] W)
        have PU := hid (xs_put HX.out HA.out.1 (by have := HA.out.2.1; omega) (by have := HA.out.2.2; omega) (fwB q[k]) (fwB_len _))
        generalize tx (fwB q[k]) = FB at *
        generalize q[k] = QK at *
        subst hva
        have hk0 : (0 : Int) ≤ (k : Int) := by omega
        have hk1 : (k : Int) < (q.length : Int) := by omega
        have H2 := hid h2
        have HW : Hid (wrap64 ((k : Int) + 1) = (k : Int) + 1) := IntWalk.wrap64_in _ (by omega)
        clear h2 hcl CEL
        go_wp2_with fail
        refine (FW.out _).mono ?_
        rintro e u1 ⟨rfl, rfl⟩
        clear FW
        go_wp2_with fail
        refine PU.out.mono ?_
        rintro e u2 ⟨A', n', TT, rr, rfl, hX, hE, hl, hn⟩
        have X2 := hid hX
        have HE2 : Hid (EInv A' ∧ A'.length ≤ k + 1 ∧ n' ≤ 2 * (k + 1)) := ⟨hE, by have := HA.out.2.1; omega, by have := HA.out.2.2; omega⟩
        clear hX hE hl hn PU hc
        go_wp2
        exact ⟨⟨k + 1, n', A', by rw [HW.out]; rfl, by have := H2.out; show k + 1 ≤ 12; omega, X2, HE2⟩, by have := H2.out; have hw := HW.out; rw [hw]; simp [intOf]; omega⟩
      · have n2 : decide ((k : Int) < 12) = false := decide_eq_false (by omega)
        have n2' : decide (k < 12) = false := decide_eq_false h2
        have hA12 : A.length ≤ 12 := by have h1 := HK12.out; have h2 := HA.out.2.1; omega
        have hn24 : n ≤ 24 := by have h1 := HK12.out; have h2 := HA.out.2.2; omega
        obtain ⟨hkA, hkl⟩ := HA.out.1.kp (idL t)
        have hgl := gone_len A (idL t)
        obtain ⟨i20, i64⟩ := idL_bd t
        have AL1 : Hid (∀ W, XsM w1 p x (dR A [] n) W → Calls Tryz.prog 23 #[.pointer (some ⟨x, 0, none⟩)] W fun e w' => ∃ v, e = .returned v ∧ w'.ownsRow W.heap.size 9 1 v (idsOf A).length (txC (idsOf A)) ∧ Keep (fun _ => False) W w') := fun W h => xs_all h HA.out.1 hA12
        have KP1 : Hid (∀ Wa W v, XsM w1 p x (dR A [] n) Wa → Keep (fun _ => False) Wa W → Strs W v ((idL t).map tx) → Calls Tryz.prog 16 #[.pointer (some ⟨x, 0, none⟩), v] W fun e w' => e = .returned (.tuple #[.int .i64 (((gone A (idL t)).length : Nat) : Int), .int .i64 0]) ∧ XsM w1 p x (dR (kpA A (idL t)) [] (n + (gone A (idL t)).length)) w' ∧ Keep (fun j => j < Wa.heap.size) W w') := fun Wa W v h k hv => xs_keep h k HA.out.1 hA12 (by omega) (idL t) v hv (by omega) (fun i hi => by rw [i64 i hi]; omega)
        have AL2 : Hid (∀ W, XsM w1 p x (dR (kpA A (idL t)) [] (n + (gone A (idL t)).length)) W → Calls Tryz.prog 23 #[.pointer (some ⟨x, 0, none⟩)] W fun e w' => ∃ v, e = .returned v ∧ w'.ownsRow W.heap.size 9 1 v (idsOf (kpA A (idL t))).length (txC (idsOf (kpA A (idL t)))) ∧ Keep (fun _ => False) W w') := fun W h => xs_all h hkA (by omega)
        have hil := len_ids A
        have hil2 := len_ids (kpA A (idL t))
        have hi64 : ∀ i ∈ idsOf (kpA A (idL t)), i.length ≤ 1048576 := fun i hi => by
          obtain ⟨y, _, h2⟩ := mem_idsOf hi
          rw [isIdB_len (idOf_some h2).2]
          omega
        have KP2 : Hid (∀ W v, XsM w1 p x (dR (kpA A (idL t)) [] (n + (gone A (idL t)).length)) W → Strs W v ((idsOf (kpA A (idL t))).map tx) → Calls Tryz.prog 16 #[.pointer (some ⟨x, 0, none⟩), v] W fun e w' => e = .returned (.tuple #[.int .i64 0, .int .i64 0]) ∧ ∃ d', XsM w1 p x d' w') := fun W v h hv => by
          have := xs_keep h (Keep.refl _ _) hkA (by omega) (by omega) _ v hv (by omega) hi64
          rw [gone_own] at this
          exact this.mono fun e w' ⟨he, hX, _⟩ => ⟨he, _, hX⟩
        have hcnt := cnt_kp A (idL t)
        have AM : Hid (∀ (i : Bs), i ∈ idsOf A → decide (i ∈ idsOf (kpA A (idL t))) = decide (i ∈ idL t)) := fun i hi => am_kp hi
        have HWK : Hid (wrap64 (((idsOf A).length : Int) - ((idsOf (kpA A (idL t))).length : Int)) = (((gone A (idL t)).length : Nat) : Int)) := by show _ = _; rw [IntWalk.wrap64_in _ (by omega)]; omega
        have HLI : Hid ((idsOf A).length ≤ 12) := by show _ ≤ _; omega
        have HLK : Hid ((idsOf (kpA A (idL t))).length ≤ 1048576) := by show _ ≤ _; omega
        have HLT : Hid ((idL t).length ≤ 1048576) := by show _ ≤ _; omega
        have HX0 := hid HX.out
        clear hA12 hn24 hkA hkl hgl i20 i64 hil hil2 hi64 hcnt HA HX CEL
        generalize dR A [] n = D1 at *
        generalize dR (kpA A (idL t)) [] (n + (gone A (idL t)).length) = D2 at *
        generalize (gone A (idL t)).length = N at *
        generalize idsOf (kpA A (idL t)) = J at *
        generalize idsOf A = I at *
        generalize idL t = T at *
        go_wp2_with fail
        refine (AL1.out _ HX0.out).mono ?_
        rintro e u1 ⟨va, rfl, hr, hk⟩
        have X1 := hid (HX0.out.on hk)
        have R1 := hid hr
        have K1 := hid hk
        have HS1 : Hid (wr.heap.size ≤ u1.heap.size) := hk.size
        clear hr hk AL1
        obtain ⟨aa, ac, rfl⟩ := row_form R1.out
        go_wp2_with fail
        refine (IDS.out _ (HB.out _ _ _ X1.out)).mono ?_
        rintro e u2 ⟨vi, rfl, hr, hk⟩
        have S2 := hid (row_strs hr)
        have K2 := hid (K1.out.trans hk)
        have R2 : Hid (u2.ownsRow wr.heap.size 9 1 (.slice aa I.length ac) I.length (txC I)) := hk.ownsRow R1.out (fun _ _ h => h)
        clear hr hk X1 K1 R1 HS1
        go_wp2_with fail
        refine (KP1.out _ _ _ HX0.out K2.out S2.out).mono ?_
        rintro e u3 ⟨rfl, hX, hk⟩
        have X3 := hid hX
        have R3 : Hid (u3.ownsRow wr.heap.size 9 1 (.slice aa I.length ac) I.length (txC I)) := hk.ownsRow R2.out (fun g e h => by have := ownsRow_ge R2.out e; omega)
        clear hX hk KP1 S2 K2 R2 HX0
        go_wp2_with fail
        refine (AL2.out _ X3.out).mono ?_
        rintro e u4 ⟨vj, rfl, hr, hk⟩
        have X4 := hid (X3.out.on hk)
        have R4 : Hid (u4.ownsRow wr.heap.size 9 1 (.slice aa I.length ac) I.length (txC I)) := hk.ownsRow R3.out (fun _ _ h => h)
        have S4 := hid (row_strs hr)
        obtain ⟨ja, jc, rfl⟩ : ∃ ja jc, vj = .slice ja J.length jc := by obtain ⟨a, c, e⟩ := row_form hr; exact ⟨a, c, e⟩
        clear hr hk AL2 X3 R3
        have hwk := HWK.out
        go_upto_region 13 with fail
        clear hwk HWK
        generalize wr.heap.size = gz at *
        have H0 : Hid (XsM w1 p x D2 u4 ∧ u4.ownsRow gz 9 1 (.slice aa I.length ac) I.length (txC I) ∧ Strs u4 (.slice ja J.length jc) (J.map tx)) := ⟨X4.out, R4.out, S4.out⟩
        clear X4 R4 S4
        go_wp2
        go_loopw [13] (fun i wr => ∃ k : Nat, i = .int .i64 (k : Int) ∧ k ≤ I.length ∧ Hid (XsM w1 p x D2 wr ∧ wr.ownsRow gz 9 1 (.slice aa I.length ac) I.length (txC I) ∧ Strs wr (.slice ja J.length jc) (J.map tx))) (fun i _ => I.length - (intOf i).toNat)
        case atStart => exact ⟨0, rfl, Nat.zero_le _, H0⟩
        case round =>
          clear H0
          obtain ⟨m, rfl, hm, HM⟩ := hrel
          by_cases hlt : m < I.length
          · have n3 : decide ((m : Int) < (I.length : Int)) = true := decide_eq_true (by omega)
            have n3' : decide (m < I.length) = true := decide_eq_true hlt
            have hm0 : (0 : Int) ≤ (m : Int) := by omega
            have hm1 : (m : Int) < (I.length : Int) := by omega
            have hSI := row_strs HM.out.2.1
            obtain ⟨g, off, hga, hg, hgc⟩ := strs_at hSI m (by simpa using hlt)
            have hgc' : wr.cell? ⟨g, off + m, none⟩ = some (.string (tx I[m])) := by rw [hgc]; simp
            have HGC : Hid (∀ W, Keep (fun _ => False) wr W → W.cell? ⟨g, off + m, none⟩ = some (.string (tx I[m]))) := fun W hW => (hW.cell hg (fun h => h)).trans hgc'
            have AMk := hid (AM.out _ (List.getElem_mem hlt))
            have A1 : Hid (∀ W, Keep (fun _ => False) wr W → Calls Tryz.prog 29 #[.string (tx I[m]), .slice ja J.length jc] W fun e w' => e = .returned (.bool (decide (I[m] ∈ J))) ∧ w' = W) := fun W hW => among_any I[m] J _ W (HM.out.2.2.below (keep_below hW (fun _ _ h => h.elim) (Nat.le_refl _))) HLK.out
            have A2 : Hid (∀ v W, Strs W v (T.map tx) → Calls Tryz.prog 29 #[.string (tx I[m]), v] W fun e w' => e = .returned (.bool (decide (I[m] ∈ T))) ∧ w' = W) := fun v W h => among_any I[m] T v W h HLT.out
            rw [AMk.out] at A1
            have HLTm := hid hlt
            have HWm : Hid (wrap64 ((m : Int) + 1) = (m : Int) + 1) := by have := HLI.out; show _ = _; exact IntWalk.wrap64_in _ (by omega)
            clear hSI hgc hgc' AMk hg
            generalize decide (I[m] ∈ T) = BB at *
            generalize tx I[m] = IM at *
            clear hlt
            subst hga
            have HKP : Hid (∀ W, Keep (fun _ => False) wr W → Below w.heap.size w W) := fun W hW => HB.out _ _ _ (HM.out.1.on hW)
            go_upto_region 16 with fail
            have K0 : Hid (Keep (fun _ => False) wr wr.drew) := keep_drew _ _
            have hbb : (BB != BB) = false := by cases BB <;> rfl
            have hbc : (!BB == BB) = false := by cases BB <;> rfl
            refine wp_region_held_drew (S := (fun w' => w'.cell? ⟨g, off + m, none⟩ = some (.string IM))) (by kernel_rfl) (HGC.out _ K0.out) (fun hHeld => ?_)
            refine wpAnyH_take (i := 0) (v := ?vv1) rfl (by kernel_rfl) (by kernel_rfl) (by kernel_rfl) (fun _ _ _ h => h) (Or.inl ⟨by rfl, ?hy1⟩) (by assumption) ?rest1
            case hy1 => (intro w hSw; (try dsimp only at hSw); go_simp; first | done | with_reducible rfl)
            try simp only [Act.put, List.getElem_toArray, List.getElem_cons_succ, List.getElem_cons_zero, List.setIfInBounds_toArray, List.set_cons_zero, List.set_cons_succ]
            refine wpAnyH_take (i := 1) (v := ?vv2) rfl (by kernel_rfl) (by kernel_rfl) (by kernel_rfl) (fun _ _ _ h => h) (Or.inl ⟨by rfl, ?hy2⟩) (by assumption) ?rest2
            case hy2 => (intro w hSw; (try dsimp only at hSw); go_simp; first | done | with_reducible rfl)
            try simp only [Act.put, List.getElem_toArray, List.getElem_cons_succ, List.getElem_cons_zero, List.setIfInBounds_toArray, List.set_cons_zero, List.set_cons_succ]
            refine wpAnyH_take (i := 2) (v := ?vv3) rfl (by kernel_rfl) (by kernel_rfl) (by kernel_rfl) (fun _ _ _ h => h) (Or.inl ⟨by rfl, ?hy3⟩) (by assumption) ?rest3
            case hy3 => (intro w hSw; (try dsimp only at hSw); go_simp; first | done | with_reducible rfl)
            try simp only [Act.put, List.getElem_toArray, List.getElem_cons_succ, List.getElem_cons_zero, List.setIfInBounds_toArray, List.set_cons_zero, List.set_cons_succ]
            refine wpAnyH_take (i := 3) (v := ?vv4) rfl (by kernel_rfl) (by kernel_rfl) (by kernel_rfl) (fun _ _ _ h => h) (Or.inl ⟨by rfl, ?hy4⟩) (by assumption) ?rest4
            case hy4 => (intro w hSw; (try dsimp only at hSw); go_simp; first | done | with_reducible rfl)
            try simp only [Act.put, List.getElem_toArray, List.getElem_cons_succ, List.getElem_cons_zero, List.setIfInBounds_toArray, List.set_cons_zero, List.set_cons_succ]
            refine wpAnyH_take (i := 4) (v := ?vv5) rfl (by kernel_rfl) (by kernel_rfl) (by kernel_rfl) (fun _ _ _ h => h) (Or.inl ⟨by rfl, ?hy5⟩) (by assumption) ?rest5
            case hy5 => (intro w hSw; (try dsimp only at hSw); go_simp; first | done | with_reducible rfl)
            try simp only [Act.put, List.getElem_toArray, List.getElem_cons_succ, List.getElem_cons_zero, List.setIfInBounds_toArray, List.set_cons_zero, List.set_cons_succ]
            refine wpAnyH_take (i := 6) (v := ?vv6) rfl (by kernel_rfl) (by kernel_rfl) (by kernel_rfl) (fun _ _ _ h => h) (Or.inl ⟨by rfl, ?hy6⟩) (by assumption) ?rest6
            case hy6 => (intro w hSw; (try dsimp only at hSw); go_simp; first | done | with_reducible rfl)
            try simp only [Act.put, List.getElem_toArray, List.getElem_cons_succ, List.getElem_cons_zero, List.setIfInBounds_toArray, List.set_cons_zero, List.set_cons_succ]
            refine wpAnyH_take (i := 7) (v := ?vv7) rfl (by kernel_rfl) (by kernel_rfl) (by kernel_rfl) (fun _ _ _ h => h) (Or.inl ⟨by rfl, ?hy7⟩) (by assumption) ?rest7
            case hy7 => (intro w hSw; (try dsimp only at hSw); go_simp; first | done | with_reducible rfl)
            try simp only [Act.put, List.getElem_toArray, List.getElem_cons_succ, List.getElem_cons_zero, List.setIfInBounds_toArray, List.set_cons_zero, List.set_cons_succ]
            refine wpAnyH_take (i := 8) (v := ?vv8) rfl (by kernel_rfl) (by kernel_rfl) (by kernel_rfl) (fun _ _ _ h => h) (Or.inl ⟨by rfl, ?hy8⟩) (by assumption) ?rest8
            case hy8 => (intro w hSw; (try dsimp only at hSw); go_simp; first | done | with_reducible rfl)
            try simp only [Act.put, List.getElem_toArray, List.getElem_cons_succ, List.getElem_cons_zero, List.setIfInBounds_toArray, List.set_cons_zero, List.set_cons_succ]
            refine wpAnyH_take (i := 9) (v := ?vv9) rfl (by kernel_rfl) (by kernel_rfl) (by kernel_rfl) (fun _ _ _ h => h) (Or.inl ⟨by rfl, ?hy9⟩) (by assumption) ?rest9
            case hy9 => (intro w hSw; (try dsimp only at hSw); go_simp; first | done | with_reducible rfl)
            try simp only [Act.put, List.getElem_toArray, List.getElem_cons_succ, List.getElem_cons_zero, List.setIfInBounds_toArray, List.set_cons_zero, List.set_cons_succ]
            refine wpAnyH_take (i := 10) (v := ?vv10) rfl (by kernel_rfl) (by kernel_rfl) (by kernel_rfl) (fun _ _ _ h => h) (Or.inl ⟨by rfl, ?hy10⟩) (by assumption) ?rest10
            case hy10 => (intro w hSw; (try dsimp only at hSw); go_simp; first | done | with_reducible rfl)
            try simp only [Act.put, List.getElem_toArray, List.getElem_cons_succ, List.getElem_cons_zero, List.setIfInBounds_toArray, List.set_cons_zero, List.set_cons_succ]
            refine wpAnyH_ready (rs := [5]) (by kernel_rfl) (by simp) ?_
            refine AllReadyH.cons rfl (fun K hK => ?_) AllReadyH.nil
            go_simp
            refine (A1.out _ K0.out).mono ?_
            rintro e wq ⟨rfl, rfl⟩
            go_wp2_with fail
            refine hK.out _ _ (HGC.out _ K0.out) (fun hHeld => ?_)
            clear hK K
            try simp only [Act.put, List.getElem_toArray, List.getElem_cons_succ, List.getElem_cons_zero, List.setIfInBounds_toArray, List.set_cons_zero, List.set_cons_succ]
            refine wpAnyH_ready (rs := [11]) (by kernel_rfl) (by simp) ?_
            refine AllReadyH.cons rfl (fun K hK => ?_) AllReadyH.nil
            go_simp
            refine (IDS.out _ (HKP.out _ K0.out)).mono ?_
            rintro e wz ⟨vi, rfl, hr, hk⟩
            have S9 := hid (row_strs hr)
            have K9 := hid (K0.out.trans hk)
            clear hr hk hHeld
            go_wp2_with fail
            refine hK.out _ _ (HGC.out _ K9.out) (fun hHeld => ?_)
            clear hK K
            try simp only [Act.put, List.getElem_toArray, List.getElem_cons_succ, List.getElem_cons_zero, List.setIfInBounds_toArray, List.set_cons_zero, List.set_cons_succ]
            refine wpAnyH_ready (rs := [12]) (by kernel_rfl) (by simp) ?_
            refine AllReadyH.cons rfl (fun K hK => ?_) AllReadyH.nil
            go_simp
            refine (A2.out _ _ S9.out).mono ?_
            rintro e wq ⟨rfl, rfl⟩
            go_wp2_with fail
            refine hK.out _ _ (HGC.out _ K9.out) (fun hHeld => ?_)
            clear hK K
            try simp only [Act.put, List.getElem_toArray, List.getElem_cons_succ, List.getElem_cons_zero, List.setIfInBounds_toArray, List.set_cons_zero, List.set_cons_succ]
            refine wpAnyH_take (i := 13) (v := ?vv11) rfl (by kernel_rfl) (by kernel_rfl) (by kernel_rfl) (fun _ _ _ h => h) (Or.inl ⟨by rfl, ?hy11⟩) (by assumption) ?rest11
            case hy11 => (intro w hSw; (try dsimp only at hSw); go_simp; first | done | with_reducible rfl)
            try simp only [Act.put, List.getElem_toArray, List.getElem_cons_succ, List.getElem_cons_zero, List.setIfInBounds_toArray, List.set_cons_zero, List.set_cons_succ]
            refine wpAnyH_done (by kernel_rfl) ?_ _
            clear hHeld HGC A1 A2 S9
            have M9 : Hid (XsM w1 p x D2 wq ∧ wq.ownsRow gz 9 1 (.slice (some ⟨g, off, none⟩) I.length ac) I.length (txC I) ∧ Strs wq (.slice ja J.length jc) (J.map tx)) := ⟨HM.out.1.on K9.out, K9.out.ownsRow HM.out.2.1 (fun _ _ h => h), HM.out.2.2.below (keep_below K9.out (fun _ _ h => h.elim) (Nat.le_refl _))⟩
            go_wp2
            exact ⟨⟨m + 1, by rw [HWm.out]; rfl, by have := HLTm.out; omega, M9⟩, by have := HLTm.out; have hw := HWm.out; rw [hw]; simp [intOf]; omega⟩
          · have n3 : decide ((m : Int) < (I.length : Int)) = false := decide_eq_false (by omega)
            have n3' : decide (m < I.length) = false := decide_eq_false hlt
            clear hlt
            go_wp2_with fail
            refine (KP2.out _ _ HM.out.1 HM.out.2.2).mono ?_
            rintro e u5 ⟨rfl, d', hX⟩
            have X5 := hid hX
            clear hX KP2
            go_wp2
            go_ret
            exact ⟨rfl, HB.out _ _ _ X5.out⟩
    · have n1 : decide ((k : Int) < (q.length : Int)) = false := decide_eq_false (by omega)
      have n1' : decide (k < q.length) = false := decide_eq_false h1
      have hA12 : A.length ≤ 12 := by have h1 := HK12.out; have h2 := HA.out.2.1; omega
      have hn24 : n ≤ 24 := by have h1 := HK12.out; have h2 := HA.out.2.2; omega
      obtain ⟨hkA, hkl⟩ := HA.out.1.kp (idL t)
      have hgl := gone_len A (idL t)
      obtain ⟨i20, i64⟩ := idL_bd t
      have AL1 : Hid (∀ W, XsM w1 p x (dR A [] n) W → Calls Tryz.prog 23 #[.pointer (some ⟨x, 0, none⟩)] W fun e w' => ∃ v, e = .returned v ∧ w'.ownsRow W.heap.size 9 1 v (idsOf A).length (txC (idsOf A)) ∧ Keep (fun _ => False) W w') := fun W h => xs_all h HA.out.1 hA12
      have KP1 : Hid (∀ Wa W v, XsM w1 p x (dR A [] n) Wa → Keep (fun _ => False) Wa W → Strs W v ((idL t).map tx) → Calls Tryz.prog 16 #[.pointer (some ⟨x, 0, none⟩), v] W fun e w' => e = .returned (.tuple #[.int .i64 (((gone A (idL t)).length : Nat) : Int), .int .i64 0]) ∧ XsM w1 p x (dR (kpA A (idL t)) [] (n + (gone A (idL t)).length)) w' ∧ Keep (fun j => j < Wa.heap.size) W w') := fun Wa W v h k hv => xs_keep h k HA.out.1 hA12 (by omega) (idL t) v hv (by omega) (fun i hi => by rw [i64 i hi]; omega)
      have AL2 : Hid (∀ W, XsM w1 p x (dR (kpA A (idL t)) [] (n + (gone A (idL t)).length)) W → Calls Tryz.prog 23 #[.pointer (some ⟨x, 0, none⟩)] W fun e w' => ∃ v, e = .returned v ∧ w'.ownsRow W.heap.size 9 1 v (idsOf (kpA A (idL t))).length (txC (idsOf (kpA A (idL t)))) ∧ Keep (fun _ => False) W w') := fun W h => xs_all h hkA (by omega)
      have hil := len_ids A
      have hil2 := len_ids (kpA A (idL t))
      have hi64 : ∀ i ∈ idsOf (kpA A (idL t)), i.length ≤ 1048576 := fun i hi => by
        obtain ⟨y, _, h2⟩ := mem_idsOf hi
        rw [isIdB_len (idOf_some h2).2]
        omega
      have KP2 : Hid (∀ W v, XsM w1 p x (dR (kpA A (idL t)) [] (n + (gone A (idL t)).length)) W → Strs W v ((idsOf (kpA A (idL t))).map tx) → Calls Tryz.prog 16 #[.pointer (some ⟨x, 0, none⟩), v] W fun e w' => e = .returned (.tuple #[.int .i64 0, .int .i64 0]) ∧ ∃ d', XsM w1 p x d' w') := fun W v h hv => by
        have := xs_keep h (Keep.refl _ _) hkA (by omega) (by omega) _ v hv (by omega) hi64
        rw [gone_own] at this
        exact this.mono fun e w' ⟨he, hX, _⟩ => ⟨he, _, hX⟩
      have hcnt := cnt_kp A (idL t)
      have AM : Hid (∀ (i : Bs), i ∈ idsOf A → decide (i ∈ idsOf (kpA A (idL t))) = decide (i ∈ idL t)) := fun i hi => am_kp hi
      have HWK : Hid (wrap64 (((idsOf A).length : Int) - ((idsOf (kpA A (idL t))).length : Int)) = (((gone A (idL t)).length : Nat) : Int)) := by show _ = _; rw [IntWalk.wrap64_in _ (by omega)]; omega
      have HLI : Hid ((idsOf A).length ≤ 12) := by show _ ≤ _; omega
      have HLK : Hid ((idsOf (kpA A (idL t))).length ≤ 1048576) := by show _ ≤ _; omega
      have HLT : Hid ((idL t).length ≤ 1048576) := by show _ ≤ _; omega
      have HX0 := hid HX.out
      clear hA12 hn24 hkA hkl hgl i20 i64 hil hil2 hi64 hcnt HA HX CEL
      generalize dR A [] n = D1 at *
      generalize dR (kpA A (idL t)) [] (n + (gone A (idL t)).length) = D2 at *
      generalize (gone A (idL t)).length = N at *
      generalize idsOf (kpA A (idL t)) = J at *
      generalize idsOf A = I at *
      generalize idL t = T at *
      go_wp2_with fail
      refine (AL1.out _ HX0.out).mono ?_
      rintro e u1 ⟨va, rfl, hr, hk⟩
      have X1 := hid (HX0.out.on hk)
      have R1 := hid hr
      have K1 := hid hk
      have HS1 : Hid (wr.heap.size ≤ u1.heap.size) := hk.size
      clear hr hk AL1
      obtain ⟨aa, ac, rfl⟩ := row_form R1.out
      go_wp2_with fail
      refine (IDS.out _ (HB.out _ _ _ X1.out)).mono ?_
      rintro e u2 ⟨vi, rfl, hr, hk⟩
      have S2 := hid (row_strs hr)
      have K2 := hid (K1.out.trans hk)
      have R2 : Hid (u2.ownsRow wr.heap.size 9 1 (.slice aa I.length ac) I.length (txC I)) := hk.ownsRow R1.out (fun _ _ h => h)
      clear hr hk X1 K1 R1 HS1
      go_wp2_with fail
      refine (KP1.out _ _ _ HX0.out K2.out S2.out).mono ?_
      rintro e u3 ⟨rfl, hX, hk⟩
      have X3 := hid hX
      have R3 : Hid (u3.ownsRow wr.heap.size 9 1 (.slice aa I.length ac) I.length (txC I)) := hk.ownsRow R2.out (fun g e h => by have := ownsRow_ge R2.out e; omega)
      clear hX hk KP1 S2 K2 R2 HX0
      go_wp2_with fail
      refine (AL2.out _ X3.out).mono ?_
      rintro e u4 ⟨vj, rfl, hr, hk⟩
      have X4 := hid (X3.out.on hk)
      have R4 : Hid (u4.ownsRow wr.heap.size 9 1 (.slice aa I.length ac) I.length (txC I)) := hk.ownsRow R3.out (fun _ _ h => h)
      have S4 := hid (row_strs hr)
      obtain ⟨ja, jc, rfl⟩ : ∃ ja jc, vj = .slice ja J.length jc := by obtain ⟨a, c, e⟩ := row_form hr; exact ⟨a, c, e⟩
      clear hr hk AL2 X3 R3
      have hwk := HWK.out
      go_upto_region 13 with fail
      clear hwk HWK
      generalize wr.heap.size = gz at *
      have H0 : Hid (XsM w1 p x D2 u4 ∧ u4.ownsRow gz 9 1 (.slice aa I.length ac) I.length (txC I) ∧ Strs u4 (.slice ja J.length jc) (J.map tx)) := ⟨X4.out, R4.out, S4.out⟩
      clear X4 R4 S4
      go_wp2
      go_loopw [13] (fun i wr => ∃ k : Nat, i = .int .i64 (k : Int) ∧ k ≤ I.length ∧ Hid (XsM w1 p x D2 wr ∧ wr.ownsRow gz 9 1 (.slice aa I.length ac) I.length (txC I) ∧ Strs wr (.slice ja J.length jc) (J.map tx))) (fun i _ => I.length - (intOf i).toNat)
      case atStart => exact ⟨0, rfl, Nat.zero_le _, H0⟩
      case round =>
        clear H0
        obtain ⟨m, rfl, hm, HM⟩ := hrel
        by_cases hlt : m < I.length
        · have n3 : decide ((m : Int) < (I.length : Int)) = true := decide_eq_true (by omega)
          have n3' : decide (m < I.length) = true := decide_eq_true hlt
          have hm0 : (0 : Int) ≤ (m : Int) := by omega
          have hm1 : (m : Int) < (I.length : Int) := by omega
          have hSI := row_strs HM.out.2.1
          obtain ⟨g, off, hga, hg, hgc⟩ := strs_at hSI m (by simpa using hlt)
          have hgc' : wr.cell? ⟨g, off + m, none⟩ = some (.string (tx I[m])) := by rw [hgc]; simp
          have HGC : Hid (∀ W, Keep (fun _ => False) wr W → W.cell? ⟨g, off + m, none⟩ = some (.string (tx I[m]))) := fun W hW => (hW.cell hg (fun h => h)).trans hgc'
          have AMk := hid (AM.out _ (List.getElem_mem hlt))
          have A1 : Hid (∀ W, Keep (fun _ => False) wr W → Calls Tryz.prog 29 #[.string (tx I[m]), .slice ja J.length jc] W fun e w' => e = .returned (.bool (decide (I[m] ∈ J))) ∧ w' = W) := fun W hW => among_any I[m] J _ W (HM.out.2.2.below (keep_below hW (fun _ _ h => h.elim) (Nat.le_refl _))) HLK.out
          have A2 : Hid (∀ v W, Strs W v (T.map tx) → Calls Tryz.prog 29 #[.string (tx I[m]), v] W fun e w' => e = .returned (.bool (decide (I[m] ∈ T))) ∧ w' = W) := fun v W h => among_any I[m] T v W h HLT.out
          rw [AMk.out] at A1
          have HLTm := hid hlt
          have HWm : Hid (wrap64 ((m : Int) + 1) = (m : Int) + 1) := by have := HLI.out; show _ = _; exact IntWalk.wrap64_in _ (by omega)
          clear hSI hgc hgc' AMk hg
          generalize decide (I[m] ∈ T) = BB at *
          generalize tx I[m] = IM at *
          clear hlt
          subst hga
          have HKP : Hid (∀ W, Keep (fun _ => False) wr W → Below w.heap.size w W) := fun W hW => HB.out _ _ _ (HM.out.1.on hW)
          go_upto_region 16 with fail
          have K0 : Hid (Keep (fun _ => False) wr wr.drew) := keep_drew _ _
          have hbb : (BB != BB) = false := by cases BB <;> rfl
          have hbc : (!BB == BB) = false := by cases BB <;> rfl
          refine wp_region_held_drew (S := (fun w' => w'.cell? ⟨g, off + m, none⟩ = some (.string IM))) (by kernel_rfl) (HGC.out _ K0.out) (fun hHeld => ?_)
          refine wpAnyH_take (i := 0) (v := ?vv12) rfl (by kernel_rfl) (by kernel_rfl) (by kernel_rfl) (fun _ _ _ h => h) (Or.inl ⟨by rfl, ?hy12⟩) (by assumption) ?rest12
          case hy12 => (intro w hSw; (try dsimp only at hSw); go_simp; first | done | with_reducible rfl)
          try simp only [Act.put, List.getElem_toArray, List.getElem_cons_succ, List.getElem_cons_zero, List.setIfInBounds_toArray, List.set_cons_zero, List.set_cons_succ]
          refine wpAnyH_take (i := 1) (v := ?vv13) rfl (by kernel_rfl) (by kernel_rfl) (by kernel_rfl) (fun _ _ _ h => h) (Or.inl ⟨by rfl, ?hy13⟩) (by assumption) ?rest13
          case hy13 => (intro w hSw; (try dsimp only at hSw); go_simp; first | done | with_reducible rfl)
          try simp only [Act.put, List.getElem_toArray, List.getElem_cons_succ, List.getElem_cons_zero, List.setIfInBounds_toArray, List.set_cons_zero, List.set_cons_succ]
          refine wpAnyH_take (i := 2) (v := ?vv14) rfl (by kernel_rfl) (by kernel_rfl) (by kernel_rfl) (fun _ _ _ h => h) (Or.inl ⟨by rfl, ?hy14⟩) (by assumption) ?rest14
          case hy14 => (intro w hSw; (try dsimp only at hSw); go_simp; first | done | with_reducible rfl)
          try simp only [Act.put, List.getElem_toArray, List.getElem_cons_succ, List.getElem_cons_zero, List.setIfInBounds_toArray, List.set_cons_zero, List.set_cons_succ]
          refine wpAnyH_take (i := 3) (v := ?vv15) rfl (by kernel_rfl) (by kernel_rfl) (by kernel_rfl) (fun _ _ _ h => h) (Or.inl ⟨by rfl, ?hy15⟩) (by assumption) ?rest15
          case hy15 => (intro w hSw; (try dsimp only at hSw); go_simp; first | done | with_reducible rfl)
          try simp only [Act.put, List.getElem_toArray, List.getElem_cons_succ, List.getElem_cons_zero, List.setIfInBounds_toArray, List.set_cons_zero, List.set_cons_succ]
          refine wpAnyH_take (i := 4) (v := ?vv16) rfl (by kernel_rfl) (by kernel_rfl) (by kernel_rfl) (fun _ _ _ h => h) (Or.inl ⟨by rfl, ?hy16⟩) (by assumption) ?rest16
          case hy16 => (intro w hSw; (try dsimp only at hSw); go_simp; first | done | with_reducible rfl)
          try simp only [Act.put, List.getElem_toArray, List.getElem_cons_succ, List.getElem_cons_zero, List.setIfInBounds_toArray, List.set_cons_zero, List.set_cons_succ]
          refine wpAnyH_take (i := 6) (v := ?vv17) rfl (by kernel_rfl) (by kernel_rfl) (by kernel_rfl) (fun _ _ _ h => h) (Or.inl ⟨by rfl, ?hy17⟩) (by assumption) ?rest17
          case hy17 => (intro w hSw; (try dsimp only at hSw); go_simp; first | done | with_reducible rfl)
          try simp only [Act.put, List.getElem_toArray, List.getElem_cons_succ, List.getElem_cons_zero, List.setIfInBounds_toArray, List.set_cons_zero, List.set_cons_succ]
          refine wpAnyH_take (i := 7) (v := ?vv18) rfl (by kernel_rfl) (by kernel_rfl) (by kernel_rfl) (fun _ _ _ h => h) (Or.inl ⟨by rfl, ?hy18⟩) (by assumption) ?rest18
          case hy18 => (intro w hSw; (try dsimp only at hSw); go_simp; first | done | with_reducible rfl)
          try simp only [Act.put, List.getElem_toArray, List.getElem_cons_succ, List.getElem_cons_zero, List.setIfInBounds_toArray, List.set_cons_zero, List.set_cons_succ]
          refine wpAnyH_take (i := 8) (v := ?vv19) rfl (by kernel_rfl) (by kernel_rfl) (by kernel_rfl) (fun _ _ _ h => h) (Or.inl ⟨by rfl, ?hy19⟩) (by assumption) ?rest19
          case hy19 => (intro w hSw; (try dsimp only at hSw); go_simp; first | done | with_reducible rfl)
          try simp only [Act.put, List.getElem_toArray, List.getElem_cons_succ, List.getElem_cons_zero, List.setIfInBounds_toArray, List.set_cons_zero, List.set_cons_succ]
          refine wpAnyH_take (i := 9) (v := ?vv20) rfl (by kernel_rfl) (by kernel_rfl) (by kernel_rfl) (fun _ _ _ h => h) (Or.inl ⟨by rfl, ?hy20⟩) (by assumption) ?rest20
          case hy20 => (intro w hSw; (try dsimp only at hSw); go_simp; first | done | with_reducible rfl)
          try simp only [Act.put, List.getElem_toArray, List.getElem_cons_succ, List.getElem_cons_zero, List.setIfInBounds_toArray, List.set_cons_zero, List.set_cons_succ]
          refine wpAnyH_take (i := 10) (v := ?vv21) rfl (by kernel_rfl) (by kernel_rfl) (by kernel_rfl) (fun _ _ _ h => h) (Or.inl ⟨by rfl, ?hy21⟩) (by assumption) ?rest21
          case hy21 => (intro w hSw; (try dsimp only at hSw); go_simp; first | done | with_reducible rfl)
          try simp only [Act.put, List.getElem_toArray, List.getElem_cons_succ, List.getElem_cons_zero, List.setIfInBounds_toArray, List.set_cons_zero, List.set_cons_succ]
          refine wpAnyH_ready (rs := [5]) (by kernel_rfl) (by simp) ?_
          refine AllReadyH.cons rfl (fun K hK => ?_) AllReadyH.nil
          go_simp
          refine (A1.out _ K0.out).mono ?_
          rintro e wq ⟨rfl, rfl⟩
          go_wp2_with fail
          refine hK.out _ _ (HGC.out _ K0.out) (fun hHeld => ?_)
          clear hK K
          try simp only [Act.put, List.getElem_toArray, List.getElem_cons_succ, List.getElem_cons_zero, List.setIfInBounds_toArray, List.set_cons_zero, List.set_cons_succ]
          refine wpAnyH_ready (rs := [11]) (by kernel_rfl) (by simp) ?_
          refine AllReadyH.cons rfl (fun K hK => ?_) AllReadyH.nil
          go_simp
          refine (IDS.out _ (HKP.out _ K0.out)).mono ?_
          rintro e wz ⟨vi, rfl, hr, hk⟩
          have S9 := hid (row_strs hr)
          have K9 := hid (K0.out.trans hk)
          clear hr hk hHeld
          go_wp2_with fail
          refine hK.out _ _ (HGC.out _ K9.out) (fun hHeld => ?_)
          clear hK K
          try simp only [Act.put, List.getElem_toArray, List.getElem_cons_succ, List.getElem_cons_zero, List.setIfInBounds_toArray, List.set_cons_zero, List.set_cons_succ]
          refine wpAnyH_ready (rs := [12]) (by kernel_rfl) (by simp) ?_
          refine AllReadyH.cons rfl (fun K hK => ?_) AllReadyH.nil
          go_simp
          refine (A2.out _ _ S9.out).mono ?_
          rintro e wq ⟨rfl, rfl⟩
          go_wp2_with fail
          refine hK.out _ _ (HGC.out _ K9.out) (fun hHeld => ?_)
          clear hK K
          try simp only [Act.put, List.getElem_toArray, List.getElem_cons_succ, List.getElem_cons_zero, List.setIfInBounds_toArray, List.set_cons_zero, List.set_cons_succ]
          refine wpAnyH_take (i := 13) (v := ?vv22) rfl (by kernel_rfl) (by kernel_rfl) (by kernel_rfl) (fun _ _ _ h => h) (Or.inl ⟨by rfl, ?hy22⟩) (by assumption) ?rest22
          case hy22 => (intro w hSw; (try dsimp only at hSw); go_simp; first | done | with_reducible rfl)
          try simp only [Act.put, List.getElem_toArray, List.getElem_cons_succ, List.getElem_cons_zero, List.setIfInBounds_toArray, List.set_cons_zero, List.set_cons_succ]
          refine wpAnyH_done (by kernel_rfl) ?_ _
          clear hHeld HGC A1 A2 S9
          have M9 : Hid (XsM w1 p x D2 wq ∧ wq.ownsRow gz 9 1 (.slice (some ⟨g, off, none⟩) I.length ac) I.length (txC I) ∧ Strs wq (.slice ja J.length jc) (J.map tx)) := ⟨HM.out.1.on K9.out, K9.out.ownsRow HM.out.2.1 (fun _ _ h => h), HM.out.2.2.below (keep_below K9.out (fun _ _ h => h.elim) (Nat.le_refl _))⟩
          go_wp2
          exact ⟨⟨m + 1, by rw [HWm.out]; rfl, by have := HLTm.out; omega, M9⟩, by have := HLTm.out; have hw := HWm.out; rw [hw]; simp [intOf]; omega⟩
        · have n3 : decide ((m : Int) < (I.length : Int)) = false := decide_eq_false (by omega)
          have n3' : decide (m < I.length) = false := decide_eq_false hlt
          clear hlt
          go_wp2_with fail
          refine (KP2.out _ _ HM.out.1 HM.out.2.2).mono ?_
          rintro e u5 ⟨rfl, d', hX⟩
          have X5 := hid hX
          clear hX KP2
          go_wp2
          go_ret
          exact ⟨rfl, HB.out _ _ _ X5.out⟩
end Go.Proofs.YtedogofeibdjiaaGreat
