/- A nil net; the walk of the law WiresNil. -/
import Derived.Test.YtfcchmjofejkhaaNetA
namespace Go.Proofs.Ytfcchmjofejkhaa
open Go.RowKit Go.Maps
set_option linter.unusedVariables false
set_option linter.unusedSimpArgs false

set_option maxRecDepth 100000 in
theorem heal_nil (w : World) : Calls Try.prog 19 #[.pointer none] w fun e w' => e = .returned (.tuple #[]) ∧ Keep (fun _ => False) w w' := by
  go_enter Try.func19, Try.ntmps19
  go_wp2
  (try simp only [Exit.inBlock, Exit.then]); exact bodyPost_ret (results_none rfl _ _ _) rfl ⟨rfl, Keep.refl _ _⟩
set_option maxRecDepth 100000 in
theorem cut_nil (a b : Int) (w : World) : Calls Try.prog 18 #[.pointer none, .int .i64 a, .int .i64 b] w fun e w' => e = .returned (.int .i64 0) ∧ Keep (fun _ => False) w w' := by
  go_enter Try.func18, Try.ntmps18
  go_wp2
  go_ret
  exact ⟨rfl, keep_alloc _ _ _⟩
set_option maxRecDepth 100000 in
theorem clear_nil (n : Int) (w : World) : Calls Try.prog 23 #[.pointer none, .int .i64 n] w fun e w' => e = .returned (.int .i64 0) ∧ Keep (fun _ => False) w w' := by
  go_enter Try.func23, Try.ntmps23
  go_wp2
  go_ret
  exact ⟨rfl, keep_alloc _ _ _⟩
set_option maxRecDepth 100000 in
theorem rnode_any (n : Int) (w : World) : Calls Try.prog 21 #[.int .i64 n] w fun e w' => e = .returned (.bool (isN n)) ∧ w' = w := by
  by_cases h : 0 ≤ n
  · rw [isN_eq, if_pos h]
    go_enter Try.func21, Try.ntmps21
    go_wp2
    go_ret
    exact ⟨rfl, rfl⟩
  · rw [isN_eq, if_neg h]
    go_enter Try.func21, Try.ntmps21
    go_wp2
    go_ret
    exact ⟨rfl, rfl⟩
theorem send_net0 (x : Pk) : ∃ n, sendD net0 x = (n, two x.fr x.tt) := by
  have hc : cutAt net0.ct x.fr x.tt = false := by
    unfold cutAt net0
    rw [List.getD_eq_getElem?_getD, List.getElem?_replicate]
    split <;> rfl
  unfold sendD
  by_cases h : two x.fr x.tt = true
  · exact ⟨{ net0 with L := net0.L ++ [x], se := net0.se + 1 }, by rw [if_pos ⟨h, hc, by decide⟩, h]⟩
  · exact ⟨_, by rw [if_neg (fun e => h e.1)]; simp at h; rw [h]⟩
/-- a new net; all that was there is not its own -/
theorem newC (w : World) : Calls Try.prog 9 #[] w fun e w' => e = .returned (.pointer (some ⟨w.heap.size, 0, none⟩)) ∧ NSt w (fun j => j < w.heap.size) w.heap.size net0 w' :=
  (new_net w).mono fun e w' ⟨he, hk, hn⟩ => ⟨he, _, hn, fun k hk hp => by omega, fun r hr => ⟨fun hp => by omega, Nat.lt_of_lt_of_le hr hk.size⟩, hk⟩
set_option maxRecDepth 100000 in
set_option maxHeartbeats 4000000 in
theorem wiresNil_core (x : Pk) (n : Int) (w : World) (hs : x.s.size ≤ 140737488355328) : Calls Try.prog 8 #[pkV x, .int .i64 n] w fun e w' => e = .returned (.bool true) ∧ Below w.heap.size w w' := by
  have T : Hid (∀ W W' : World, Keep (fun _ => False) w W → Keep (fun _ => False) W W' → Keep (fun _ => False) w W') := fun _ _ a b => a.trans b
  have AT := hid (fun W => at_none (.pointer none) n W (fun W' _ => nhas_nil n W'))
  have TK := hid (fun W => take_none (.pointer none) n W (fun W' _ => nhas_nil n W'))
  have HL := hid (fun W => heal_nil W)
  have CN := hid (fun W => counts_nil W)
  have NW := hid (fun W => newC W)
  have AW := hid (fun W => awake8 W)
  have ND := hid (fun m W => rnode_any m W)
  have SN := hid (fun W => send_nil x W)
  have LN := hid (fun W => nlen_nil W)
  have DR := hid (fun W => ndrop_none (.pointer none) n W (fun W' e => nhas_nil n W'))
  have DB := hid (fun W => double_none (.pointer none) n W (fun W' e => nhas_nil n W'))
  have CU := hid (fun W => cut_nil 0 1 W)
  have CL := hid (fun W => clear_nil n W)
  obtain ⟨n9, h9⟩ := send_net0 x
  have SD : Hid (∀ (w0 W : World) (p : Nat) (A : Nat → Prop), NSt w0 A p net0 W → Calls Try.prog 13 #[.pointer (some ⟨p, 0, none⟩), pkV x] W fun e w' => e = .returned (.bool (two x.fr x.tt)) ∧ NSt w0 A p n9 w' ∧ Keep (fun j => ¬ A j) W w') := fun w0 W p A h => stepA h fun P1 h1 => by
    have := send_any p P1 net0 x W h1 hs (by decide) (by decide)
    rw [h9] at this
    exact this
  have HT : Hid (two x.fr x.tt = (isN x.fr && isN x.tt && !decide (x.fr = x.tt))) := rfl
  clear h9 hs
  obtain ⟨fr, tt, s⟩ := x
  unfold pkV pk0 at *
  simp only at *
  have hb0 : RowIs (w.alloc (.cells #[.int .i64 fr, .int .i64 tt, .string s] 33)) w.heap.size [.int .i64 fr, .int .i64 tt, .string s] 33 := heap_alloc_new _ _
  have HB := hid hb0
  have HK := hid (keep_alloc (fun _ => False) w (.cells #[.int .i64 fr, .int .i64 tt, .string s] 33))
  clear hb0
  go_enter Try.func8, Try.ntmps8
  go_wp2_with fail
  refine (AT.out _).mono ?_
  rintro e w1 ⟨rfl, hk⟩
  replace HK := hid (T.out _ _ HK.out (hk.trans (keep_alloc (fun _ => False) w1 (.cells #[.int .i64 0, .int .i64 0, .string ⟨#[]⟩] 33))))
  replace HB := hid (HB.out.keep (hk.trans (keep_alloc (fun _ => False) w1 (.cells #[.int .i64 0, .int .i64 0, .string ⟨#[]⟩] 33))) (fun h => h))
  clear hk AT
  go_wp2_with fail
  refine (TK.out _).mono ?_
  rintro e w2 ⟨rfl, hk⟩
  replace HK := hid (T.out _ _ HK.out (hk.trans (keep_alloc (fun _ => False) w2 (.cells #[.int .i64 0, .int .i64 0, .string ⟨#[]⟩] 33))))
  replace HB := hid (HB.out.keep (hk.trans (keep_alloc (fun _ => False) w2 (.cells #[.int .i64 0, .int .i64 0, .string ⟨#[]⟩] 33))) (fun h => h))
  clear hk TK
  go_wp2_with fail
  refine (HL.out _).mono ?_
  rintro e w3 ⟨rfl, hk⟩
  replace HK := hid (T.out _ _ HK.out hk)
  replace HB := hid (HB.out.keep hk (fun h => h))
  clear hk HL
  go_wp2_with fail
  refine (CN.out _).mono ?_
  rintro e w4 ⟨rfl, rfl⟩
  clear CN
  go_wp2_with fail
  refine (NW.out _).mono ?_
  rintro e w5 ⟨rfl, hn5⟩
  have HBL := HB.out.lt
  replace HB := hid (HB.out.keep hn5.kp (fun h => h))
  replace HK := hid (T.out _ _ HK.out hn5.kp)
  have HN := hid hn5
  clear hn5 NW
  go_wp2_with fail
  refine (AW.out _).mono ?_
  rintro e w6 ⟨rfl, hk⟩
  replace HK := hid (T.out _ _ HK.out hk)
  replace HB := hid (HB.out.keep hk (fun h => h))
  replace HN := hid (HN.out.keep hk)
  clear hk AW
  have q0 := HB.out.cellAt (o := 0) rfl
  have q1 := HB.out.cellAt (o := 1) rfl
  have q2 := HB.out.cellAt (o := 2) rfl
  have NA := hid (fun W => ND.out fr W)
  have NB := hid (fun W => ND.out tt W)
  clear ND
  generalize hxa : isN fr = xa at *
  generalize hxb : isN tt = xb at *
  cases xa with
  | false =>
    clear hxa hxb
    have HR : Hid (two fr tt = false) := by show _ = _; rw [HT.out]; simp
    rw [HR.out] at SD
    clear HT HR
    go_wp2_with fail
    refine (NA.out _).mono ?_
    rintro e w9 ⟨rfl, rfl⟩
    go_wp2_with fail
    refine (SD.out _ _ _ _ HN.out).mono ?_
    rintro e w7 ⟨rfl, hn7, hk7⟩
    replace HK := hid (HK.out.then hk7 (fun j hj e => e (Nat.lt_trans hj HBL)))
    replace HB := hid (HB.out.keep hk7 (fun e => e HBL))
    have p0 := HB.out.cellAt (o := 0) rfl
    have p1 := HB.out.cellAt (o := 1) rfl
    have p2 := HB.out.cellAt (o := 2) rfl
    clear hn7 hk7 SD HN HB
    go_wp2_with fail
    refine (SN.out _).mono ?_
    rintro e w8 ⟨rfl, hk⟩
    replace HK := hid (T.out _ _ HK.out hk)
    clear hk SN p0 p1 p2
    go_wp2_with fail
    refine (LN.out _).mono ?_
    rintro e w9 ⟨rfl, rfl⟩
    clear LN
    go_wp2_with fail
    refine (DR.out _).mono ?_
    rintro e w9 ⟨rfl, rfl⟩
    clear DR
    go_wp2_with fail
    refine (DB.out _).mono ?_
    rintro e w9 ⟨rfl, rfl⟩
    clear DB
    go_wp2_with fail
    refine (CU.out _).mono ?_
    rintro e w10 ⟨rfl, hk⟩
    replace HK := hid (T.out _ _ HK.out hk)
    clear hk CU
    go_wp2_with fail
    refine (CL.out _).mono ?_
    rintro e w11 ⟨rfl, hk⟩
    replace HK := hid (T.out _ _ HK.out hk)
    clear hk CL T
    go_wp2
    go_ret
    exact ⟨rfl, keep_below HK.out (fun _ _ h => h) (Nat.le_refl _)⟩
  | true =>
    cases xb with
    | false =>
      clear hxa hxb
      have HR : Hid (two fr tt = false) := by show _ = _; rw [HT.out]; simp
      rw [HR.out] at SD
      clear HT HR
      go_wp2_with fail
      refine (NA.out _).mono ?_
      rintro e w9 ⟨rfl, rfl⟩
      go_wp2_with fail
      refine (NB.out _).mono ?_
      rintro e w9 ⟨rfl, rfl⟩
      go_wp2_with fail
      refine (SD.out _ _ _ _ HN.out).mono ?_
      rintro e w7 ⟨rfl, hn7, hk7⟩
      replace HK := hid (HK.out.then hk7 (fun j hj e => e (Nat.lt_trans hj HBL)))
      replace HB := hid (HB.out.keep hk7 (fun e => e HBL))
      have p0 := HB.out.cellAt (o := 0) rfl
      have p1 := HB.out.cellAt (o := 1) rfl
      have p2 := HB.out.cellAt (o := 2) rfl
      clear hn7 hk7 SD HN HB
      go_wp2_with fail
      refine (SN.out _).mono ?_
      rintro e w8 ⟨rfl, hk⟩
      replace HK := hid (T.out _ _ HK.out hk)
      clear hk SN p0 p1 p2
      go_wp2_with fail
      refine (LN.out _).mono ?_
      rintro e w9 ⟨rfl, rfl⟩
      clear LN
      go_wp2_with fail
      refine (DR.out _).mono ?_
      rintro e w9 ⟨rfl, rfl⟩
      clear DR
      go_wp2_with fail
      refine (DB.out _).mono ?_
      rintro e w9 ⟨rfl, rfl⟩
      clear DB
      go_wp2_with fail
      refine (CU.out _).mono ?_
      rintro e w10 ⟨rfl, hk⟩
      replace HK := hid (T.out _ _ HK.out hk)
      clear hk CU
      go_wp2_with fail
      refine (CL.out _).mono ?_
      rintro e w11 ⟨rfl, hk⟩
      replace HK := hid (T.out _ _ HK.out hk)
      clear hk CL T
      go_wp2
      go_ret
      exact ⟨rfl, keep_below HK.out (fun _ _ h => h) (Nat.le_refl _)⟩
    | true =>
      clear hxa hxb
      by_cases hft : fr = tt
      · have htt : tt = fr := hft.symm
        clear hft
        subst htt
        have HR : Hid (two tt tt = false) := by show _ = _; rw [HT.out]; simp
        rw [HR.out] at SD
        clear HT HR
        go_wp2_with fail
        refine (NA.out _).mono ?_
        rintro e w9 ⟨rfl, rfl⟩
        go_wp2_with fail
        refine (NB.out _).mono ?_
        rintro e w9 ⟨rfl, rfl⟩
        go_wp2_with fail
        refine (SD.out _ _ _ _ HN.out).mono ?_
        rintro e w7 ⟨rfl, hn7, hk7⟩
        replace HK := hid (HK.out.then hk7 (fun j hj e => e (Nat.lt_trans hj HBL)))
        replace HB := hid (HB.out.keep hk7 (fun e => e HBL))
        have p0 := HB.out.cellAt (o := 0) rfl
        have p1 := HB.out.cellAt (o := 1) rfl
        have p2 := HB.out.cellAt (o := 2) rfl
        clear hn7 hk7 SD HN HB
        go_wp2_with fail
        refine (SN.out _).mono ?_
        rintro e w8 ⟨rfl, hk⟩
        replace HK := hid (T.out _ _ HK.out hk)
        clear hk SN p0 p1 p2
        go_wp2_with fail
        refine (LN.out _).mono ?_
        rintro e w9 ⟨rfl, rfl⟩
        clear LN
        go_wp2_with fail
        refine (DR.out _).mono ?_
        rintro e w9 ⟨rfl, rfl⟩
        clear DR
        go_wp2_with fail
        refine (DB.out _).mono ?_
        rintro e w9 ⟨rfl, rfl⟩
        clear DB
        go_wp2_with fail
        refine (CU.out _).mono ?_
        rintro e w10 ⟨rfl, hk⟩
        replace HK := hid (T.out _ _ HK.out hk)
        clear hk CU
        go_wp2_with fail
        refine (CL.out _).mono ?_
        rintro e w11 ⟨rfl, hk⟩
        replace HK := hid (T.out _ _ HK.out hk)
        clear hk CL T
        go_wp2
        go_ret
        exact ⟨rfl, keep_below HK.out (fun _ _ h => h) (Nat.le_refl _)⟩
      · have hfd : decide (fr = tt) = false := decide_eq_false hft
        have hfn : (fr != tt) = true := bne_iff_ne.2 hft
        have HR : Hid (two fr tt = true) := by show _ = _; rw [HT.out]; simp; exact hft
        rw [HR.out] at SD
        clear HT HR
        go_wp2_with fail
        refine (NA.out _).mono ?_
        rintro e w9 ⟨rfl, rfl⟩
        go_wp2_with fail
        refine (NB.out _).mono ?_
        rintro e w9 ⟨rfl, rfl⟩
        go_wp2_with fail
        refine (SD.out _ _ _ _ HN.out).mono ?_
        rintro e w7 ⟨rfl, hn7, hk7⟩
        replace HK := hid (HK.out.then hk7 (fun j hj e => e (Nat.lt_trans hj HBL)))
        replace HB := hid (HB.out.keep hk7 (fun e => e HBL))
        have p0 := HB.out.cellAt (o := 0) rfl
        have p1 := HB.out.cellAt (o := 1) rfl
        have p2 := HB.out.cellAt (o := 2) rfl
        clear hn7 hk7 SD HN HB
        go_wp2_with fail
        refine (SN.out _).mono ?_
        rintro e w8 ⟨rfl, hk⟩
        replace HK := hid (T.out _ _ HK.out hk)
        clear hk SN p0 p1 p2
        go_wp2_with fail
        refine (LN.out _).mono ?_
        rintro e w9 ⟨rfl, rfl⟩
        clear LN
        go_wp2_with fail
        refine (DR.out _).mono ?_
        rintro e w9 ⟨rfl, rfl⟩
        clear DR
        go_wp2_with fail
        refine (DB.out _).mono ?_
        rintro e w9 ⟨rfl, rfl⟩
        clear DB
        go_wp2_with fail
        refine (CU.out _).mono ?_
        rintro e w10 ⟨rfl, hk⟩
        replace HK := hid (T.out _ _ HK.out hk)
        clear hk CU
        go_wp2_with fail
        refine (CL.out _).mono ?_
        rintro e w11 ⟨rfl, hk⟩
        replace HK := hid (T.out _ _ HK.out hk)
        clear hk CL T
        go_wp2
        go_ret
        exact ⟨rfl, keep_below HK.out (fun _ _ h => h) (Nat.le_refl _)⟩
end Go.Proofs.Ytfcchmjofejkhaa
