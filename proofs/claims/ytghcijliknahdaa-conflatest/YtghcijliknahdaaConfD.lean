/- A configuration with a node more, and with one less: the program's walks and the reference's. -/
import Derived.Test.YtghcijliknahdaaConfO
import Derived.Test.YtghcijliknahdaaConfQ
namespace Go.Proofs.Ytghcijliknahdaa
open Go.RowKit Go.Maps
set_option linter.unusedVariables false
set_option linter.unusedSimpArgs false

theorem addE_bad {l : List Int} {n : Int} (h : areM l = false) : addE l n = 70 ∧ addV l n = [] := by unfold addE addV; rw [h]; exact ⟨rfl, rfl⟩
theorem addE_arg {l : List Int} {n : Int} (h : areM l = true) (h2 : isNd n = false) : addE l n = 1 ∧ addV l n = [] := by unfold addE addV; rw [h, h2]; exact ⟨rfl, rfl⟩
theorem addE_there {l : List Int} {n : Int} (h : areM l = true) (h2 : isNd n = true) (h3 : hasI n l = true) : addE l n = 71 ∧ addV l n = [] := by unfold addE addV; rw [h, h2, h3]; exact ⟨rfl, rfl⟩
theorem addE_ok {l : List Int} {n : Int} (h : areM l = true) (h2 : isNd n = true) (h3 : hasI n l = false) : addE l n = 0 ∧ addV l n = addL l n := by unfold addE addV; rw [h, h2, h3]; exact ⟨rfl, rfl⟩
theorem dropE_bad {l : List Int} {n : Int} (h : areM l = false) : dropE l n = 70 ∧ dropV l n = [] := by unfold dropE dropV; rw [h]; exact ⟨rfl, rfl⟩
theorem dropE_none {l : List Int} {n : Int} (h : areM l = true) (h2 : hasI n l = false) : dropE l n = 4 ∧ dropV l n = [] := by unfold dropE dropV; rw [h, h2]; exact ⟨rfl, rfl⟩
theorem dropE_one {l : List Int} {n : Int} (h : areM l = true) (h2 : hasI n l = true) (h3 : l.length = 1) : dropE l n = 1 ∧ dropV l n = [] := by unfold dropE dropV; rw [h, h2, if_pos h3, if_pos h3]; exact ⟨rfl, rfl⟩
theorem dropE_ok {l : List Int} {n : Int} (h : areM l = true) (h2 : hasI n l = true) (h3 : ¬ l.length = 1) : dropE l n = 0 ∧ dropV l n = dropL l n := by unfold dropE dropV; rw [h, h2, if_neg h3, if_neg h3]; exact ⟨rfl, rfl⟩
theorem ints_none (w : World) : IntsI w (.slice none 0 0) [] := .inl ⟨none, 0, rfl, rfl⟩
/-- what a call that answers a list and an error comes to -/
def GivesI (w : World) (l : List Int) (x : Int) (e : Ending) (w' : World) : Prop := ∃ v, e = .returned (.tuple #[v, .int .i64 x]) ∧ IntsI w' v l ∧ Below w.heap.size w w' ∧ (∀ b, v.ownBlock = some b → w.heap.size ≤ b)
theorem gives_none {w w' : World} (x : Int) (h : Below w.heap.size w w') : GivesI w [] x (.returned (.tuple #[.slice none 0 0, .int .i64 x])) w' := ⟨_, rfl, ints_none _, h, fun b hb => by simp [Value.ownBlock] at hb⟩
theorem gives_own {w w' : World} {v : Value} {l : List Int} (x : Int) (ho : OwnI w' w.heap.size v l) (h : Below w.heap.size w w') : GivesI w l x (.returned (.tuple #[v, .int .i64 x])) w' := ⟨_, rfl, ho.ints, h, fun b hb => ownsRow_ge ho hb⟩

set_option maxRecDepth 100000 in
set_option maxHeartbeats 1000000 in
theorem cadd_any (v : Value) (l : List Int) (n : Int) (w : World) (hv : IntsI w v l) (hl : l.length ≤ 9223372036854775807) : Calls Try.prog 18 #[v, .int .i64 n] w (GivesI w (addV l n) (addE l n)) := by

  have C := hid (ccheck_any v l w hv hl)
  have HK : Hid (chkC l = if areM l = true then 0 else 70) := rfl
  have HS := hid (chas_any v l n w hv hl)
  have ND := hid (isNode_any n w)
  obtain ⟨ad, cap, rfl, hc⟩ := hv.form
  clear hc
  cases hA : areM l
  · obtain ⟨e1, e2⟩ := addE_bad (n := n) hA
    rw [e1, e2]
    have hk : chkC l = 70 := by rw [HK.out, hA]; rfl
    rw [hk] at C
    clear HK HS ND hv hl hA e1 e2 hk
    go_enter Try.func18, Try.ntmps18
    go_wp2_with fail
    refine C.out.mono ?_
    rintro e w1 ⟨rfl, rfl⟩
    go_wp2
    go_ret2
    exact gives_none _ (Below.refl _ _)
  have hk : chkC l = 0 := by rw [HK.out, hA]; rfl
  rw [hk] at C
  clear HK hk
  cases hB : isNd n
  · obtain ⟨e1, e2⟩ := addE_arg hA hB
    rw [e1, e2]
    rw [hB] at ND
    clear HS hv hl hA hB e1 e2
    go_enter Try.func18, Try.ntmps18
    go_wp2_with fail
    refine C.out.mono ?_
    rintro e w1 ⟨rfl, rfl⟩
    go_wp2_with fail
    refine ND.out.mono ?_
    rintro e w1 ⟨rfl, rfl⟩
    go_wp2
    go_ret2
    exact gives_none _ (Below.refl _ _)
  rw [hB] at ND
  cases hH : hasI n l
  · obtain ⟨e1, e2⟩ := addE_ok hA hB hH
    rw [e1, e2]
    rw [hH] at HS
    have hl7 := areM_len hA
    have HSA := hid (srt_add hA hB hH)
    obtain ⟨N, hN⟩ : ∃ N, N = l.length + 1 := ⟨_, rfl⟩
    have hwl : wrap64 ((l.length : Int) + 1) = (N : Int) := by rw [IntWalk.wrap64_in _ (by omega)]; omega
    have hmk := madeI N (by omega) w
    have hr0 := srow w (isC (List.replicate N 0)) 3
    have kA : Below w.heap.size w (w.alloc (.cells (isC (List.replicate N 0)).toArray 3)) := (Below.refl _ _).alloc (Nat.le_refl _) _
    obtain ⟨q, hcp⟩ := copyI w.heap.size N N 3 _ l (List.replicate N 0) _ hr0 (by simp) (hv.next kA) 3
    have hpd : pad l (List.replicate N 0) = l ++ [0] := by
      unfold pad
      rw [List.length_replicate, List.take_of_length_le (by omega), Nat.min_eq_left (by omega), List.drop_replicate, hN, Nat.add_sub_cancel_left]
      rfl
    rw [hpd] at hcp
    have hr1 : RowIs ((w.alloc (.cells (isC (List.replicate N 0)).toArray 3)).setRow w.heap.size (isC (l ++ [0])).toArray) w.heap.size (isC (l ++ [0])) 3 := setRow_heap _ _ _ _ _ (0, 0) hr0
    have kB : Below w.heap.size w ((w.alloc (.cells (isC (List.replicate N 0)).toArray 3)).setRow w.heap.size (isC (l ++ [0])).toArray) := kA.trans ⟨rfl, rfl, rfl, by simp, fun k hk => setRow_other _ _ _ _ (by omega)⟩
    generalize (w.alloc (.cells (isC (List.replicate N 0)).toArray 3)).setRow w.heap.size (isC (l ++ [0])).toArray = W2 at *
    have hck := hr1.cellAt (isC_get (l ++ [0]) l.length (by simp))
    generalize (l ++ [0])[l.length] = z0 at hck
    have hfk : W2.frozen? ⟨w.heap.size, l.length, none⟩ = false := hr1.frozen
    have hr2 := hr1.set l.length (.int .i64 n)
    have e9 : (l ++ [(0 : Int)]).set l.length n = l ++ [n] := by simp
    rw [isC_set, e9] at hr2
    have kC : Below w.heap.size w (W2.setCell ⟨w.heap.size, l.length, none⟩ (.int .i64 n)) := kB.trans (keep_below (keep_setCell _ _ _ _) (fun j hj => by omega) kB.size)
    have SO := sortI_any w.heap.size N 3 (l ++ [n]) _ hr2 (by simp; omega)
    rw [show (l ++ [n]).length = N by simp [hN]] at SO
    have SO := hid SO
    have KC := hid kC
    have HLN : Hid ((srt (l ++ [n])).length = N) := by show _ = _; rw [srt_len]; simp [hN]
    have hx0 : (0 : Int) ≤ (l.length : Int) := by omega
    have hx1 : (l.length : Int) < (N : Int) := by omega
    have HLT : Hid (w.heap.size < W2.heap.size) := hr1.lt
    clear hr0 kA hpd hr1 kB hr2 kC hv hl hA hB hH hl7 e1 e2 hN
    generalize (isC (List.replicate N 0)).toArray = MM at *
    go_enter Try.func18, Try.ntmps18
    go_wp2_with fail
    refine C.out.mono ?_
    rintro e w1 ⟨rfl, rfl⟩
    go_wp2_with fail
    refine ND.out.mono ?_
    rintro e w1 ⟨rfl, rfl⟩
    go_wp2_with fail
    refine HS.out.mono ?_
    rintro e w1 ⟨rfl, rfl⟩
    go_wp2_with fail
    refine SO.out.mono ?_
    rintro e w2 ⟨rfl, h1, h2⟩
    have HV : Hid (IntsI w2 (.slice (some ⟨w1.heap.size, 0, none⟩) N N) (addL l n)) := by
      rw [← HSA.out]
      have hh : (srt (l ++ [n])).length = N := HLN.out
      rw [← hh]
      refine .inr ⟨w1.heap.size, 0, _, rfl, ?_, fun j hj => by rw [Nat.zero_add]; exact h1 j hj⟩
      have := h2.size
      have := HLT.out
      simp at *
      omega
    have HB : Hid (Below w1.heap.size w1 w2) := KC.out.trans (keep_below h2 (fun j hj => by omega) KC.out.size)
    clear h1 h2 SO KC HSA HLN C ND HS
    go_wp2
    go_ret2
    exact ⟨_, rfl, HV.out, HB.out, fun b hb => by simp [Value.ownBlock] at hb; omega⟩
  · obtain ⟨e1, e2⟩ := addE_there hA hB hH
    rw [e1, e2]
    rw [hH] at HS
    clear hv hl hA hB hH e1 e2
    go_enter Try.func18, Try.ntmps18
    go_wp2_with fail
    refine C.out.mono ?_
    rintro e w1 ⟨rfl, rfl⟩
    go_wp2_with fail
    refine ND.out.mono ?_
    rintro e w1 ⟨rfl, rfl⟩
    go_wp2_with fail
    refine HS.out.mono ?_
    rintro e w1 ⟨rfl, rfl⟩
    go_wp2
    go_ret2
    exact gives_none _ (Below.refl _ _)

set_option maxRecDepth 100000 in
set_option maxHeartbeats 1000000 in
theorem radd_any (v : Value) (l : List Int) (n : Int) (w : World) (hv : IntsI w v l) (hl : l.length ≤ 9223372036854775807) : Calls Try.prog 19 #[v, .int .i64 n] w (GivesI w (addV l n) (addE l n)) := by

  have C : Hid (Calls Try.prog 11 #[v] w fun e w' => e = .returned (.bool (areM l)) ∧ Below w.heap.size w w') := may_any v l w hv hl
  have HS : Hid (∀ x W, Below w.heap.size w W → Calls Try.prog 13 #[v, .int .i64 x] W fun e w' => e = .returned (.bool (hasI x l)) ∧ w' = W) := fun x W hW => rhas_any v l x W (hv.next hW) hl
  obtain ⟨ad, cap, rfl, hc⟩ := hv.form
  clear hc
  have HL := hid hl
  have C0 := hid C.out
  clear C
  cases hA : areM l
  · obtain ⟨e1, e2⟩ := addE_bad (n := n) hA
    rw [e1, e2]
    rw [hA] at C0
    clear HS hv hl hA e1 e2 HL
    go_enter Try.func19, Try.ntmps19
    go_wp2_with fail
    refine C0.out.mono ?_
    rintro e w1 ⟨rfl, h1⟩
    have H1 := hid h1
    clear h1
    go_wp2
    go_ret2
    exact gives_none _ H1.out
  rw [hA] at C0
  by_cases g0 : n < 0
  · obtain ⟨e1, e2⟩ := addE_arg (n := n) hA (by simp [isNd]; omega)
    rw [e1, e2]
    have g0' : decide (n < 0) = true := decide_eq_true g0
    clear HS hv hl hA e1 e2 HL
    go_enter Try.func19, Try.ntmps19
    go_wp2_with fail
    refine C0.out.mono ?_
    rintro e w1 ⟨rfl, h1⟩
    have H1 := hid h1
    clear h1
    go_wp2
    go_ret2
    exact gives_none _ H1.out
  have b0 : decide (n < 0) = false := decide_eq_false g0
  by_cases g1 : 6 < n
  · obtain ⟨e1, e2⟩ := addE_arg (n := n) hA (by simp [isNd]; omega)
    rw [e1, e2]
    have b1 : decide (6 < n) = true := decide_eq_true g1
    clear HS hv hl hA e1 e2 HL
    go_enter Try.func19, Try.ntmps19
    go_wp2_with fail
    refine C0.out.mono ?_
    rintro e w1 ⟨rfl, h1⟩
    have H1 := hid h1
    clear h1
    go_wp2
    go_ret2
    exact gives_none _ H1.out
  have b1 : decide (6 < n) = false := decide_eq_false g1
  have hB : isNd n = true := by simp [isNd]; omega
  cases hH : hasI n l
  · obtain ⟨e1, e2⟩ := addE_ok hA hB hH
    rw [e1, e2]
    have HR : Hid (∃ R, R = addL l n) := ⟨_, rfl⟩
    obtain ⟨R, HR⟩ := HR.out
    have HR : Hid (R = ((nodesF 7 0).drop 0).filter (fun x => (x == n) || hasI x l)) := HR
    rw [show addL l n = R from HR.out.symm]
    have HS0 := hid (HS.out n)
    rw [hH] at HS0
    clear hv hl hA hB hH e1 e2 HL g0 g1
    go_enter Try.func19, Try.ntmps19
    go_wp2_with fail
    refine C0.out.mono ?_
    rintro e w1 ⟨rfl, h1⟩
    have H1 := hid h1
    clear h1 C0
    go_wp2_with fail
    refine (HS0.out _ H1.out).mono ?_
    rintro e w2 ⟨rfl, rfl⟩
    clear HS0
    go_wp2
    go_loopw [6, 7] (fun t i wr => ∃ (k : Nat) (acc : List Int) (ad : Option Addr) (cap : Nat), k ≤ 7 ∧ t = .slice ad acc.length cap ∧ i = .int .i64 (k : Int) ∧ Hid (acc.length ≤ k) ∧ Hid (OwnI wr w.heap.size (.slice ad acc.length cap) acc) ∧ Hid (Below w.heap.size w wr) ∧ Hid (R = acc ++ ((nodesF 7 0).drop k).filter (fun x => (x == n) || hasI x l))) (fun _ i _ => 7 - (intOf i).toNat)
    case atStart => exact ⟨0, [], none, 0, by omega, rfl, rfl, Nat.le_refl _, ownI_nil _ _, H1, by rw [List.nil_append]; exact HR⟩
    case round =>
      clear H1 HR b0 b1
      obtain ⟨k, acc, ad, cap, hk, rfl, rfl, HA, HO, HB, HR⟩ := hrel
      by_cases hlt : k < 7
      · have hk7 : (k : Int) < 7 := by omega
        have HRA := hid (addL_at l n k hlt)
        have S1 := hid (HS.out (k : Int) wr HB.out)
        have hAk : acc.length ≤ k := HA.out
        have HA2 : Hid (acc.length + 1 ≤ k + 1) := by show _ ≤ _; omega
        have HA3 : Hid (acc.length + 1 ≤ 70368744177) := by show _ ≤ _; omega
        have HA4 : Hid (acc.length ≤ k + 1) := by show _ ≤ _; omega
        have HNX : Hid (RowIs (wr.alloc (.cells #[.int .i64 (k : Int)] 3)) wr.heap.size [.int .i64 (k : Int)] 3) := srow wr [.int .i64 (k : Int)] 3
        have HON : Hid (OwnI (wr.alloc (.cells #[.int .i64 (k : Int)] 3)) w.heap.size (.slice ad acc.length cap) acc) := own_new HO.out _
        have HBN : Hid (Below w.heap.size w (wr.alloc (.cells #[.int .i64 (k : Int)] 3))) := HB.out.alloc HB.out.size _
        clear hAk
        cases hq : ((k : Int) == n)
        · rw [hq, Bool.false_or] at HRA
          generalize hasI (k : Int) l = G at *
          cases G
          · have HR2 : Hid (R = acc ++ ((nodesF 7 0).drop (k + 1)).filter (fun x => (x == n) || hasI x l)) := by show _ = _; rw [HR.out, HRA.out]; rfl
            clear HR HRA HA HNX HON HBN HA2 HA3
            go_wp2_with fail
            refine S1.out.mono ?_
            rintro e w3 ⟨rfl, rfl⟩
            go_wp2
            exact ⟨⟨k + 1, acc, ad, cap, by omega, rfl, by go_num, HA4, HO, HB, HR2⟩, by simp [intOf]; omega⟩
          · have HR2 : Hid (R = (acc ++ [(k : Int)]) ++ ((nodesF 7 0).drop (k + 1)).filter (fun x => (x == n) || hasI x l)) := by show _ = _; rw [HR.out, HRA.out, if_pos rfl, List.append_assoc]
            clear HR HRA HA HA4 HO HB
            go_wp2_with fail
            refine S1.out.mono ?_
            rintro e w3 ⟨rfl, rfl⟩
            go_wp2_with (at_builtin; refine wpl_iapp rfl _ _ rfl w.heap.size w3.heap.size acc.length (.slice ad acc.length cap) acc (k : Int) rfl rfl rfl HON.out HBN.out.size HNX.out HA3.out ?_; intro ad' cap' w' ho' hk')
            have HO' := hid ho'
            have HB' : Hid (Below w.heap.size w w') := HBN.out.trans hk'
            clear ho' hk' HON HBN HNX S1
            go_wp2
            exact ⟨⟨k + 1, acc ++ [(k : Int)], ad', cap', by omega, by simp, by go_num, hid (by simpa using HA2.out), hid (by simpa using HO'.out), HB', HR2⟩, by simp [intOf]; omega⟩
        · have HR2 : Hid (R = (acc ++ [(k : Int)]) ++ ((nodesF 7 0).drop (k + 1)).filter (fun x => (x == n) || hasI x l)) := by show _ = _; rw [HR.out, HRA.out, hq, Bool.true_or, if_pos rfl, List.append_assoc]
          clear HR HRA HA HA4 HO HB S1
          go_wp2_with (at_builtin; refine wpl_iapp rfl _ _ rfl w.heap.size wr.heap.size acc.length (.slice ad acc.length cap) acc (k : Int) rfl rfl rfl HON.out HBN.out.size HNX.out HA3.out ?_; intro ad' cap' w' ho' hk')
          have HO' := hid ho'
          have HB' : Hid (Below w.heap.size w w') := HBN.out.trans hk'
          clear ho' hk' HON HBN HNX
          go_wp2
          exact ⟨⟨k + 1, acc ++ [(k : Int)], ad', cap', by omega, by simp, by go_num, hid (by simpa using HA2.out), hid (by simpa using HO'.out), HB', HR2⟩, by simp [intOf]; omega⟩
      · have hk9 : k = 7 := by omega
        subst hk9
        have HR2 : Hid (acc = R) := by show _ = _; rw [HR.out]; simp [nodesF]
        clear HR HA HS
        go_wp2
        go_ret2
        rw [← HR2.out]
        exact gives_own _ HO.out HB.out
  · obtain ⟨e1, e2⟩ := addE_there hA hB hH
    rw [e1, e2]
    have HS0 := hid (HS.out n)
    rw [hH] at HS0
    clear hv hl hA hB hH e1 e2 HL HS g0 g1
    go_enter Try.func19, Try.ntmps19
    go_wp2_with fail
    refine C0.out.mono ?_
    rintro e w1 ⟨rfl, h1⟩
    have H1 := hid h1
    clear h1 C0
    go_wp2_with fail
    refine (HS0.out _ H1.out).mono ?_
    rintro e w2 ⟨rfl, rfl⟩
    go_wp2
    go_ret2
    exact gives_none _ H1.out

set_option maxRecDepth 100000 in
set_option maxHeartbeats 1000000 in
theorem cdrop_any (v : Value) (l : List Int) (n : Int) (w : World) (hv : IntsI w v l) (hl : l.length ≤ 9223372036854775807) : Calls Try.prog 20 #[v, .int .i64 n] w (GivesI w (dropV l n) (dropE l n)) := by

  have C : Hid (Calls Try.prog 10 #[v] w fun e w' => e = .returned (.int .i64 (chkC l)) ∧ Below w.heap.size w w') := (ccheck_any v l w hv hl).mono fun e w' ⟨he, hw⟩ => ⟨he, hw ▸ Below.refl _ _⟩
  have HK : Hid (chkC l = if areM l = true then 0 else 70) := rfl
  have HS : Hid (∀ W, Below w.heap.size w W → Calls Try.prog 12 #[v, .int .i64 n] W fun e w' => e = .returned (.bool (hasI n l)) ∧ w' = W) := fun W hW => chas_any v l n W (hv.next hW) hl
  obtain ⟨ad, cap, rfl, hc⟩ := hv.form
  have HC := hid hc
  clear hc
  cases hA : areM l
  · obtain ⟨e1, e2⟩ := dropE_bad (n := n) hA
    rw [e1, e2]
    have hk : chkC l = 70 := by rw [HK.out, hA]; rfl
    rw [hk] at C
    clear hk
    clear HS hv hl hA e1 e2 HC HK
    go_enter Try.func20, Try.ntmps20
    go_wp2_with fail
    refine C.out.mono ?_
    rintro e w1 ⟨rfl, h1⟩
    have H1 := hid h1
    clear h1
    go_wp2
    go_ret2
    exact gives_none _ H1.out
  have hk : chkC l = 0 := by rw [HK.out, hA]; rfl
  rw [hk] at C
  clear hk HK
  cases hH : hasI n l
  · obtain ⟨e1, e2⟩ := dropE_none hA hH
    rw [e1, e2]
    rw [hH] at HS
    clear hv hl hA hH e1 e2 HC
    go_enter Try.func20, Try.ntmps20
    go_wp2_with fail
    refine C.out.mono ?_
    rintro e w1 ⟨rfl, h1⟩
    have H1 := hid h1
    clear h1
    go_wp2_with fail
    refine (HS.out _ H1.out).mono ?_
    rintro e w2 ⟨rfl, rfl⟩
    go_wp2
    go_ret2
    exact gives_none _ H1.out
  rw [hH] at HS
  by_cases h1 : l.length = 1
  · obtain ⟨e1, e2⟩ := dropE_one hA hH h1
    rw [e1, e2]
    have hz : ((l.length : Int) == 1) = true := by rw [h1]; rfl
    clear hv hl hA hH e1 e2 HC h1
    go_enter Try.func20, Try.ntmps20
    go_wp2_with fail
    refine C.out.mono ?_
    rintro e w1 ⟨rfl, h1⟩
    have H1 := hid h1
    clear h1
    go_wp2_with fail
    refine (HS.out _ H1.out).mono ?_
    rintro e w2 ⟨rfl, rfl⟩
    go_wp2
    go_ret2
    exact gives_none _ H1.out
  obtain ⟨e1, e2⟩ := dropE_ok hA hH h1
  rw [e1, e2]
  have hz : ((l.length : Int) == 1) = false := by rw [beq_eq_false_iff_ne]; omega
  have HL7 := hid (areM_len hA)
  have HR : Hid (∃ R, R = dropL l n) := ⟨_, rfl⟩
  obtain ⟨R, HR⟩ := HR.out
  have HR : Hid (R = dropL (l.drop 0) n) := HR
  rw [show dropL l n = R from HR.out.symm]
  clear hv hl hA hH e1 e2 h1
  go_enter Try.func20, Try.ntmps20
  go_wp2_with fail
  refine C.out.mono ?_
  rintro e w1 ⟨rfl, h1⟩
  have H1 := hid h1
  clear h1 C
  go_wp2_with fail
  refine (HS.out _ H1.out).mono ?_
  rintro e w2 ⟨rfl, rfl⟩
  clear HS
  go_wp2
  clear hz
  go_loopw [7, 23] (fun t i wr => ∃ (k : Nat) (acc : List Int) (ad : Option Addr) (cap : Nat), k ≤ l.length ∧ t = .slice ad acc.length cap ∧ i = .int .i64 (k : Int) ∧ Hid (acc.length ≤ k) ∧ Hid (OwnI wr w.heap.size (.slice ad acc.length cap) acc) ∧ Hid (Below w.heap.size w wr) ∧ Hid (R = acc ++ dropL (l.drop k) n)) (fun _ i _ => l.length - (intOf i).toNat)
  case atStart => exact ⟨0, [], none, 0, by omega, rfl, rfl, Nat.le_refl _, ownI_nil _ _, H1, by rw [List.nil_append]; exact HR⟩
  case round =>
    clear H1 HR
    obtain ⟨k, acc, ad1, cap1, hk, rfl, rfl, HA, HO, HB, HR⟩ := hrel
    by_cases hlt : k < l.length
    · have hk0 : (0 : Int) ≤ (k : Int) := by omega
      have hk1 : (k : Int) < (l.length : Int) := by omega
      have hk7 : k < 7 := by have := HL7.out; omega
      obtain ⟨b, off, rfl, hb, hc⟩ := HC.out k hlt
      have hc1 := (HB.out.cell (p := ⟨b, off + k, none⟩) hb).trans hc
      have HRA := hid (dropL_at (n := n) hlt)
      have HA2 : Hid (acc.length + 1 ≤ k + 1) := by have := HA.out; show _ ≤ _; omega
      have HA3 : Hid (acc.length + 1 ≤ 70368744177) := by have := HA.out; show _ ≤ _; omega
      have HA4 : Hid (acc.length ≤ k + 1) := by have := HA.out; show _ ≤ _; omega
      generalize l[k] = y at *
      have HNX : Hid (RowIs (wr.alloc (.cells #[.int .i64 y] 3)) wr.heap.size [.int .i64 y] 3) := srow wr [.int .i64 y] 3
      have HON : Hid (OwnI (wr.alloc (.cells #[.int .i64 y] 3)) w.heap.size (.slice ad1 acc.length cap1) acc) := own_new HO.out _
      have HBN : Hid (Below w.heap.size w (wr.alloc (.cells #[.int .i64 y] 3))) := HB.out.alloc HB.out.size _
      clear HC hb hc HL7
      by_cases hq : y = n
      · have hne : (y != n) = false := by simp [hq]
        have HR2 : Hid (R = acc ++ dropL (l.drop (k + 1)) n) := by show _ = _; rw [HR.out, HRA.out, hq]; simp
        clear HR HRA HA HNX HON HBN HA2 HA3 hq
        go_wp2
        exact ⟨⟨k + 1, acc, ad1, cap1, by omega, rfl, by go_num, HA4, HO, HB, HR2⟩, by simp [intOf]; omega⟩
      · have hne : (y != n) = true := by simp [hq]
        have HR2 : Hid (R = (acc ++ [y]) ++ dropL (l.drop (k + 1)) n) := by show _ = _; rw [HR.out, HRA.out, beq_eq_false_iff_ne.2 hq, List.append_assoc]; rfl
        clear HR HRA HA HA4 HO HB hq
        go_wp2_with (at_builtin; refine wpl_iapp rfl _ _ rfl w.heap.size wr.heap.size acc.length (.slice ad1 acc.length cap1) acc y rfl rfl rfl HON.out HBN.out.size HNX.out HA3.out ?_; intro ad' cap' w' ho' hk')
        have HO' := hid ho'
        have HB' : Hid (Below w.heap.size w w') := HBN.out.trans hk'
        clear ho' hk' HON HBN HNX
        go_wp2
        exact ⟨⟨k + 1, acc ++ [y], ad', cap', by omega, by simp, by go_num, hid (by simpa using HA2.out), hid (by simpa using HO'.out), HB', HR2⟩, by simp [intOf]; omega⟩
    · have hk9 : k = l.length := by omega
      subst hk9
      have hdl : decide ((l.length : Int) < (l.length : Int)) = false := decide_eq_false (by omega)
      have HR2 : Hid (acc = R) := by show _ = _; rw [HR.out, List.drop_length]; simp [dropL]
      clear HR HA HC
      go_wp2
      go_ret2
      rw [← HR2.out]
      exact gives_own _ HO.out HB.out

set_option maxRecDepth 100000 in
set_option maxHeartbeats 1000000 in
theorem rdrop_any (v : Value) (l : List Int) (n : Int) (w : World) (hv : IntsI w v l) (hl : l.length ≤ 9223372036854775807) : Calls Try.prog 21 #[v, .int .i64 n] w (GivesI w (dropV l n) (dropE l n)) := by

  have C : Hid (Calls Try.prog 11 #[v] w fun e w' => e = .returned (.bool (areM l)) ∧ Below w.heap.size w w') := may_any v l w hv hl
  have HK : Hid True := trivial
  have HS : Hid (∀ W, Below w.heap.size w W → Calls Try.prog 13 #[v, .int .i64 n] W fun e w' => e = .returned (.bool (hasI n l)) ∧ w' = W) := fun W hW => rhas_any v l n W (hv.next hW) hl
  obtain ⟨ad, cap, rfl, hc⟩ := hv.form
  have HC := hid hc
  clear hc
  cases hA : areM l
  · obtain ⟨e1, e2⟩ := dropE_bad (n := n) hA
    rw [e1, e2]
    rw [hA] at C
    clear HS hv hl hA e1 e2 HC HK
    go_enter Try.func21, Try.ntmps21
    go_wp2_with fail
    refine C.out.mono ?_
    rintro e w1 ⟨rfl, h1⟩
    have H1 := hid h1
    clear h1
    go_wp2
    go_ret2
    exact gives_none _ H1.out
  rw [hA] at C
  clear HK
  cases hH : hasI n l
  · obtain ⟨e1, e2⟩ := dropE_none hA hH
    rw [e1, e2]
    rw [hH] at HS
    clear hv hl hA hH e1 e2 HC
    go_enter Try.func21, Try.ntmps21
    go_wp2_with fail
    refine C.out.mono ?_
    rintro e w1 ⟨rfl, h1⟩
    have H1 := hid h1
    clear h1
    go_wp2_with fail
    refine (HS.out _ H1.out).mono ?_
    rintro e w2 ⟨rfl, rfl⟩
    go_wp2
    go_ret2
    exact gives_none _ H1.out
  rw [hH] at HS
  by_cases h1 : l.length = 1
  · obtain ⟨e1, e2⟩ := dropE_one hA hH h1
    rw [e1, e2]
    have hz : ((l.length : Int) == 1) = true := by rw [h1]; rfl
    clear hv hl hA hH e1 e2 HC h1
    go_enter Try.func21, Try.ntmps21
    go_wp2_with fail
    refine C.out.mono ?_
    rintro e w1 ⟨rfl, h1⟩
    have H1 := hid h1
    clear h1
    go_wp2_with fail
    refine (HS.out _ H1.out).mono ?_
    rintro e w2 ⟨rfl, rfl⟩
    go_wp2
    go_ret2
    exact gives_none _ H1.out
  obtain ⟨e1, e2⟩ := dropE_ok hA hH h1
  rw [e1, e2]
  have hz : ((l.length : Int) == 1) = false := by rw [beq_eq_false_iff_ne]; omega
  have HL7 := hid (areM_len hA)
  have HR : Hid (∃ R, R = dropL l n) := ⟨_, rfl⟩
  obtain ⟨R, HR⟩ := HR.out
  have HR : Hid (R = dropL (l.drop 0) n) := HR
  rw [show dropL l n = R from HR.out.symm]
  clear hv hl hA hH e1 e2 h1
  go_enter Try.func21, Try.ntmps21
  go_wp2_with fail
  refine C.out.mono ?_
  rintro e w1 ⟨rfl, h1⟩
  have H1 := hid h1
  clear h1 C
  go_wp2_with fail
  refine (HS.out _ H1.out).mono ?_
  rintro e w2 ⟨rfl, rfl⟩
  clear HS
  go_wp2
  clear hz
  go_loopw [6, 7] (fun t i wr => ∃ (k : Nat) (acc : List Int) (ad : Option Addr) (cap : Nat), k ≤ l.length ∧ t = .slice ad acc.length cap ∧ i = .int .i64 (k : Int) ∧ Hid (acc.length ≤ k) ∧ Hid (OwnI wr w.heap.size (.slice ad acc.length cap) acc) ∧ Hid (Below w.heap.size w wr) ∧ Hid (R = acc ++ dropL (l.drop k) n)) (fun _ i _ => l.length - (intOf i).toNat)
  case atStart => exact ⟨0, [], none, 0, by omega, rfl, rfl, Nat.le_refl _, ownI_nil _ _, H1, by rw [List.nil_append]; exact HR⟩
  case round =>
    clear H1 HR
    obtain ⟨k, acc, ad1, cap1, hk, rfl, rfl, HA, HO, HB, HR⟩ := hrel
    by_cases hlt : k < l.length
    · have hk0 : (0 : Int) ≤ (k : Int) := by omega
      have hk1 : (k : Int) < (l.length : Int) := by omega
      have hk7 : k < 7 := by have := HL7.out; omega
      obtain ⟨b, off, rfl, hb, hc⟩ := HC.out k hlt
      have hc1 := (HB.out.cell (p := ⟨b, off + k, none⟩) hb).trans hc
      have HRA := hid (dropL_at (n := n) hlt)
      have HA2 : Hid (acc.length + 1 ≤ k + 1) := by have := HA.out; show _ ≤ _; omega
      have HA3 : Hid (acc.length + 1 ≤ 70368744177) := by have := HA.out; show _ ≤ _; omega
      have HA4 : Hid (acc.length ≤ k + 1) := by have := HA.out; show _ ≤ _; omega
      generalize l[k] = y at *
      have HNX : Hid (RowIs (wr.alloc (.cells #[.int .i64 y] 3)) wr.heap.size [.int .i64 y] 3) := srow wr [.int .i64 y] 3
      have HON : Hid (OwnI (wr.alloc (.cells #[.int .i64 y] 3)) w.heap.size (.slice ad1 acc.length cap1) acc) := own_new HO.out _
      have HBN : Hid (Below w.heap.size w (wr.alloc (.cells #[.int .i64 y] 3))) := HB.out.alloc HB.out.size _
      clear HC hb hc HL7
      by_cases hq : y = n
      · have hne : (y != n) = false := by simp [hq]
        have HR2 : Hid (R = acc ++ dropL (l.drop (k + 1)) n) := by show _ = _; rw [HR.out, HRA.out, hq]; simp
        clear HR HRA HA HNX HON HBN HA2 HA3 hq
        go_wp2
        exact ⟨⟨k + 1, acc, ad1, cap1, by omega, rfl, by go_num, HA4, HO, HB, HR2⟩, by simp [intOf]; omega⟩
      · have hne : (y != n) = true := by simp [hq]
        have HR2 : Hid (R = (acc ++ [y]) ++ dropL (l.drop (k + 1)) n) := by show _ = _; rw [HR.out, HRA.out, beq_eq_false_iff_ne.2 hq, List.append_assoc]; rfl
        clear HR HRA HA HA4 HO HB hq
        go_wp2_with (at_builtin; refine wpl_iapp rfl _ _ rfl w.heap.size wr.heap.size acc.length (.slice ad1 acc.length cap1) acc y rfl rfl rfl HON.out HBN.out.size HNX.out HA3.out ?_; intro ad' cap' w' ho' hk')
        have HO' := hid ho'
        have HB' : Hid (Below w.heap.size w w') := HBN.out.trans hk'
        clear ho' hk' HON HBN HNX
        go_wp2
        exact ⟨⟨k + 1, acc ++ [y], ad', cap', by omega, by simp, by go_num, hid (by simpa using HA2.out), hid (by simpa using HO'.out), HB', HR2⟩, by simp [intOf]; omega⟩
    · have hk9 : k = l.length := by omega
      subst hk9
      have hdl : decide ((l.length : Int) < (l.length : Int)) = false := decide_eq_false (by omega)
      have HR2 : Hid (acc = R) := by show _ = _; rw [HR.out, List.drop_length]; simp [dropL]
      clear HR HA HC
      go_wp2
      go_ret2
      rw [← HR2.out]
      exact gives_own _ HO.out HB.out

end Go.Proofs.Ytghcijliknahdaa
