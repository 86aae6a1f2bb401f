/- A table's text: the document. -/
import Derived.Test.YtojiahdbgdgdcaaTkP
import Derived.Test.YtojiahdbgdgdcaaJoined15
import Derived.Deep.RegionHeld3
namespace Go.Proofs.Ytojiahdbgdgdcaa
open Go.RowKit Go.Maps
set_option linter.unusedVariables false
set_option linter.unusedSimpArgs false

set_option maxRecDepth 100000 in
set_option maxHeartbeats 4000000 in
theorem rtencode_any (v : Value) (q : List Hd) (w : World) (hv : HdI w v q) (hl : q.length ≤ 8796093022208) (hs : ∀ y ∈ q, y.tk.size ≤ 140737488355328 ∧ y.su.size ≤ 140737488355328) : Calls Try.prog 18 #[v] w fun e w' => e = .returned (.tuple #[.string (tbT q), .int .i64 (tbTE q)]) ∧ Below w.heap.size w w' := by
  obtain ⟨ad, cap, rfl, hc⟩ := hv.form
  have IC := hid (may15_any (.slice ad q.length cap) q w hv hl hs)
  have HTE : Hid (tbTE q = if isTb q = true then 0 else 1) := rfl
  have HTT : Hid (tbT q = if isTb q = true then ⟨(tbB q).toArray⟩ else ⟨#[]⟩) := rfl
  clear hl hs
  cases hIS : isTb q
  · rw [hIS] at IC HTE HTT
    have h1 := HTE.out
    have h2 := HTT.out
    simp only [Bool.false_eq_true, if_false] at h1 h2
    rw [h1, h2]
    clear HTE HTT h1 h2 hIS hc hv
    go_enter Try.func18, Try.ntmps18
    go_wp2_with fail
    refine IC.out.mono ?_
    rintro e w1 ⟨rfl, b1⟩
    have B1 := hid b1
    clear IC b1
    go_wp2
    go_ret2
    exact ⟨rfl, B1.out⟩
  · have HC := hid hc
    have hl64 : q.length ≤ 64 := isTb_len hIS
    have hok : ∀ y ∈ q, hdOk y = true := isTb_all hIS
    have N0 := hid (fun W => ref_number_any q.length W (by omega))
    have HTX : Hid (∀ (k : Nat) (hk : k < q.length), (∀ W, Calls Try.prog 37 #[.string q[k].tk] W fun e w' => e = .returned (.string ⟨(ptx q[k].tk).toArray⟩) ∧ Below W.heap.size W w') ∧ (∀ W, Calls Try.prog 37 #[.string q[k].su] W fun e w' => e = .returned (.string ⟨(ptx q[k].su).toArray⟩) ∧ Below W.heap.size W w') ∧ (∀ W, Calls Try.prog 37 #[.string q[k].ou] W fun e w' => e = .returned (.string ⟨(ptx q[k].ou).toArray⟩) ∧ Below W.heap.size W w') ∧ (∀ W, Calls Try.prog 36 #[.int .u64 ((q[k].at_.toNat : Nat) : Int)] W fun e w' => e = .returned (.string ⟨(put q[k].at_.toNat).toArray⟩) ∧ Below W.heap.size W w')) := fun k hk => by
      have h := hdOk_sz (hok _ (List.getElem_mem hk))
      exact ⟨fun W => ref_text_any _ W (Nat.le_trans h.1 (by decide)), fun W => ref_text_any _ W (Nat.le_trans (Nat.le_of_eq h.2.1) (by decide)), fun W => ref_text_any _ W (Nat.le_trans h.2.2.1 (by decide)), fun W => ref_number_any _ W (by omega)⟩
    have HT : Hid (∀ (k : Nat) (hk : k < q.length), put q.length ++ (q.take (k + 1)).flatMap hdB = (((put q.length ++ (q.take k).flatMap hdB) ++ ptx q[k].tk) ++ ptx q[k].su ++ ptx q[k].ou) ++ put q[k].at_.toNat) := fun k hk => by
      rw [flatB_take hdB q k hk]; unfold hdB; simp
    have HLN : Hid (∀ (k : Nat) (hk : k < q.length), (put q.length ++ (q.take k).flatMap hdB).length ≤ 300000 ∧ (ptx q[k].tk).length ≤ 74 ∧ (ptx q[k].su).length ≤ 74 ∧ (ptx q[k].ou).length ≤ 4106 ∧ (put q[k].at_.toNat).length ≤ 10 ∧ q[k].at_ = ((q[k].at_.toNat : Nat) : Int) ∧ q[k].at_.toNat ≤ 1099511627776) := fun k hk => by
      have h1 := flatB_len hdB 4264 (q.take k) (fun x hx => hdB_len (hok x (List.mem_of_mem_take hx)))
      have h2 := (put_len q.length).2
      have h3 : (q.take k).length ≤ 64 := by simp; omega
      refine ⟨?_, hd_lens (hok _ (List.getElem_mem hk))⟩
      rw [List.length_append]
      omega
    have HZ : Hid (put q.length ++ (q.take q.length).flatMap hdB = tbB q) := by show _ = _; rw [List.take_length]; rfl
    have hwl : IntKind.u64.wrap (q.length : Int) = (q.length : Int) := by rw [IntKind.wrap_u64]; omega
    rw [hIS] at IC HTE HTT
    have h1 := HTE.out
    have h2 := HTT.out
    simp only [if_true] at h1 h2
    rw [h1, h2]
    generalize tbB q = R at *
    clear HTE HTT h1 h2 hIS hc hv hok
    go_enter Try.func18, Try.ntmps18
    go_wp2_with fail
    refine IC.out.mono ?_
    rintro e w0 ⟨rfl, b0⟩
    have BW := hid b0
    clear IC b0
    go_wp2_with fail
    refine (N0.out _).mono ?_
    rintro e w1 ⟨rfl, b1⟩
    have B1 := hid (below_on BW.out b1)
    clear b1 N0 hwl BW
    go_wp2
    go_loopw [4, 5] (fun t i wr => ∃ (k : Nat) (A : List UInt8), k ≤ q.length ∧ t = .string ⟨A.toArray⟩ ∧ i = .int .i64 (k : Int) ∧ Hid (A = put q.length ++ (q.take k).flatMap hdB) ∧ Hid (Below w.heap.size w wr)) (fun _ i _ => q.length - (intOf i).toNat)
    case atStart => exact ⟨0, put q.length, Nat.zero_le _, rfl, rfl, by show _ = _; simp, B1⟩
    case round =>
      clear B1
      obtain ⟨k, A, hk, rfl, rfl, HA, HB⟩ := hrel
      by_cases hlt : k < q.length
      · have hk1 : (k : Int) < (q.length : Int) := by omega
        have hk0 : (0 : Int) ≤ (k : Int) := by omega
        have hwk : wrap64 ((k : Int) + 1) = ((k + 1 : Nat) : Int) := by rw [IntWalk.wrap64_in _ (by omega)]; omega
        obtain ⟨b, off, rfl, hb, c0, c1, c2, c3⟩ := HC.out k hlt
        obtain ⟨t0, t1, t2, t3⟩ := HTX.out k hlt
        have HTK := hid (HT.out k hlt)
        have HLL := HLN.out k hlt
        have HLT := hid hlt
        have hk33 : (k : Int) < 65 := by omega
        rw [← HA.out] at HTK HLL
        obtain ⟨l0, l1, l2, l3, l4, hz1, hz2⟩ := HLL
        clear HC HTX HT HLN HZ HA
        generalize q[k] = y at *
        obtain ⟨tk, su, ou, at_⟩ := y
        simp only at *
        generalize hn : at_.toNat = N at *
        subst hz1
        clear hn
        have hwu : IntKind.u64.wrap (N : Int) = (N : Int) := by rw [IntKind.wrap_u64]; omega
        generalize ptx tk = X1 at *
        generalize ptx su = X2 at *
        generalize ptx ou = X3 at *
        generalize put N = X4 at *
        have q1 := fun W => add_ls A X1 W (by omega)
        have q2 := fun W => add_ls (A ++ X1) X2 W (by rw [List.length_append]; omega)
        have q3 := fun W => add_ls (A ++ X1 ++ X2) X3 W (by rw [List.length_append, List.length_append]; omega)
        have q4 := fun W => add_ls (A ++ X1 ++ X2 ++ X3) X4 W (by rw [List.length_append, List.length_append, List.length_append]; omega)
        generalize A ++ X1 ++ X2 ++ X3 ++ X4 = Y4 at *
        generalize A ++ X1 ++ X2 ++ X3 = Y3 at *
        generalize A ++ X1 ++ X2 = Y2 at *
        generalize A ++ X1 = Y1 at *
        have CL : Hid (∀ W, Below w.heap.size w W → W.cell? ⟨b, off + k * 4, none⟩ = some (.string tk) ∧ W.cell? ⟨b, off + k * 4 + 1, none⟩ = some (.string su) ∧ W.cell? ⟨b, off + k * 4 + 2, none⟩ = some (.string ou) ∧ W.cell? ⟨b, off + k * 4 + 3, none⟩ = some (.int .i64 (N : Int))) := fun W h => ⟨(h.cell (p := ⟨b, off + k * 4, none⟩) hb).trans c0, (h.cell (p := ⟨b, off + k * 4 + 1, none⟩) hb).trans c1, (h.cell (p := ⟨b, off + k * 4 + 2, none⟩) hb).trans c2, (h.cell (p := ⟨b, off + k * 4 + 3, none⟩) hb).trans c3⟩
        have BD := hid HB.out.drew
        have YD := hid (CL.out _ HB.out)
        have TZ0 : Hid (∀ W, Below w.heap.size w W → Calls Try.prog 37 #[.string tk] W fun e w' => e = .returned (.string ⟨X1.toArray⟩) ∧ (w'.cell? ⟨b, off + k * 4, none⟩ = some (.string tk) ∧ w'.cell? ⟨b, off + k * 4 + 1, none⟩ = some (.string su) ∧ w'.cell? ⟨b, off + k * 4 + 2, none⟩ = some (.string ou) ∧ w'.cell? ⟨b, off + k * 4 + 3, none⟩ = some (.int .i64 (N : Int))) ∧ Hid (Below w.heap.size w w')) := fun W h => (t0 W).mono fun e w' ⟨he, hb⟩ => ⟨he, CL.out _ (below_on h hb), below_on h hb⟩
        have TZ1 : Hid (∀ W, Below w.heap.size w W → Calls Try.prog 37 #[.string su] W fun e w' => e = .returned (.string ⟨X2.toArray⟩) ∧ (w'.cell? ⟨b, off + k * 4, none⟩ = some (.string tk) ∧ w'.cell? ⟨b, off + k * 4 + 1, none⟩ = some (.string su) ∧ w'.cell? ⟨b, off + k * 4 + 2, none⟩ = some (.string ou) ∧ w'.cell? ⟨b, off + k * 4 + 3, none⟩ = some (.int .i64 (N : Int))) ∧ Hid (Below w.heap.size w w')) := fun W h => (t1 W).mono fun e w' ⟨he, hb⟩ => ⟨he, CL.out _ (below_on h hb), below_on h hb⟩
        have TZ2 : Hid (∀ W, Below w.heap.size w W → Calls Try.prog 37 #[.string ou] W fun e w' => e = .returned (.string ⟨X3.toArray⟩) ∧ (w'.cell? ⟨b, off + k * 4, none⟩ = some (.string tk) ∧ w'.cell? ⟨b, off + k * 4 + 1, none⟩ = some (.string su) ∧ w'.cell? ⟨b, off + k * 4 + 2, none⟩ = some (.string ou) ∧ w'.cell? ⟨b, off + k * 4 + 3, none⟩ = some (.int .i64 (N : Int))) ∧ Hid (Below w.heap.size w w')) := fun W h => (t2 W).mono fun e w' ⟨he, hb⟩ => ⟨he, CL.out _ (below_on h hb), below_on h hb⟩
        have NZ : Hid (∀ W, Below w.heap.size w W → Calls Try.prog 36 #[.int .u64 (N : Int)] W fun e w' => e = .returned (.string ⟨X4.toArray⟩) ∧ (w'.cell? ⟨b, off + k * 4, none⟩ = some (.string tk) ∧ w'.cell? ⟨b, off + k * 4 + 1, none⟩ = some (.string su) ∧ w'.cell? ⟨b, off + k * 4 + 2, none⟩ = some (.string ou) ∧ w'.cell? ⟨b, off + k * 4 + 3, none⟩ = some (.int .i64 (N : Int))) ∧ Hid (Below w.heap.size w w')) := fun W h => (t3 W).mono fun e w' ⟨he, hb⟩ => ⟨he, CL.out _ (below_on h hb), below_on h hb⟩
        clear t0 t1 t2 t3 CL HB hlt hk hz2 l0 l1 l2 l3 l4 c0 c1 c2 c3 hb
        go_wp2
        refine wp_region_held_drew (S := (fun w' => w'.cell? ⟨b, off + k * 4, none⟩ = some (.string tk) ∧ w'.cell? ⟨b, off + k * 4 + 1, none⟩ = some (.string su) ∧ w'.cell? ⟨b, off + k * 4 + 2, none⟩ = some (.string ou) ∧ w'.cell? ⟨b, off + k * 4 + 3, none⟩ = some (.int .i64 (N : Int)))) (by kernel_rfl) YD.out (fun hHeld => ?_)
        refine wpAnyH_take (i := 0) (v := ?vv1) rfl (by kernel_rfl) (by kernel_rfl) (by kernel_rfl) (fun _ _ _ h => h) (Or.inl ⟨by rfl, ?hy1⟩) (by assumption) ?rest1
        case hy1 => (intro w hSw; (try dsimp only at hSw); go_simp; first | done | with_reducible rfl)
        try simp only [Act.put, List.getElem_toArray, List.getElem_cons_succ, List.getElem_cons_zero, List.setIfInBounds_toArray, List.set_cons_zero, List.set_cons_succ]
        refine wpAnyH_take (i := 1) (v := ?vv2) rfl (by kernel_rfl) (by kernel_rfl) (by kernel_rfl) (fun _ _ _ h => h) (Or.inl ⟨by rfl, ?hy2⟩) (by assumption) ?rest2
        case hy2 => (intro w hSw; (try dsimp only at hSw); go_simp; first | done | with_reducible rfl)
        try simp only [Act.put, List.getElem_toArray, List.getElem_cons_succ, List.getElem_cons_zero, List.setIfInBounds_toArray, List.set_cons_zero, List.set_cons_succ]
        refine wpAnyH_take (i := 2) (v := ?vv3) rfl (by kernel_rfl) (by kernel_rfl) (by kernel_rfl) (fun _ _ _ h => h) (Or.inl ⟨by rfl, ?hy3⟩) (by assumption) ?rest3
        case hy3 => (intro w hSw; (try dsimp only at hSw); go_simp; first | done | with_reducible rfl)
        try simp only [Act.put, List.getElem_toArray, List.getElem_cons_succ, List.getElem_cons_zero, List.setIfInBounds_toArray, List.set_cons_zero, List.set_cons_succ]
        refine wpAnyH_take (i := 3) (v := ?vv4) rfl (by kernel_rfl) (by kernel_rfl) (by kernel_rfl) (fun _ _ _ h => h) (Or.inl ⟨by rfl, ?hy4⟩) (by assumption) ?rest4
        case hy4 => (intro w hSw; (try dsimp only at hSw); go_simp; first | done | with_reducible rfl)
        try simp only [Act.put, List.getElem_toArray, List.getElem_cons_succ, List.getElem_cons_zero, List.setIfInBounds_toArray, List.set_cons_zero, List.set_cons_succ]
        refine wpAnyH_take (i := 4) (v := ?vv5) rfl (by kernel_rfl) (by kernel_rfl) (by kernel_rfl) (fun _ _ _ h => h) (Or.inl ⟨by rfl, ?hy5⟩) (by assumption) ?rest5
        case hy5 => (intro w hSw; (try dsimp only at hSw); go_simp; first | done | with_reducible rfl)
        try simp only [Act.put, List.getElem_toArray, List.getElem_cons_succ, List.getElem_cons_zero, List.setIfInBounds_toArray, List.set_cons_zero, List.set_cons_succ]
        refine wpAnyH_take (i := 5) (v := ?vv6) rfl (by kernel_rfl) (by kernel_rfl) (by kernel_rfl) (fun _ _ _ h => h) (Or.inl ⟨by rfl, ?hy6⟩) (by assumption) ?rest6
        case hy6 => (intro w hSw; (try dsimp only at hSw); go_simp; first | done | with_reducible rfl)
        try simp only [Act.put, List.getElem_toArray, List.getElem_cons_succ, List.getElem_cons_zero, List.setIfInBounds_toArray, List.set_cons_zero, List.set_cons_succ]
        refine wpAnyH_take (i := 8) (v := ?vv7) rfl (by kernel_rfl) (by kernel_rfl) (by kernel_rfl) (fun _ _ _ h => h) (Or.inl ⟨by rfl, ?hy7⟩) (by assumption) ?rest7
        case hy7 => (intro w hSw; (try dsimp only at hSw); go_simp; first | done | with_reducible rfl)
        try simp only [Act.put, List.getElem_toArray, List.getElem_cons_succ, List.getElem_cons_zero, List.setIfInBounds_toArray, List.set_cons_zero, List.set_cons_succ]
        refine wpAnyH_take (i := 9) (v := ?vv8) rfl (by kernel_rfl) (by kernel_rfl) (by kernel_rfl) (fun _ _ _ h => h) (Or.inl ⟨by rfl, ?hy8⟩) (by assumption) ?rest8
        case hy8 => (intro w hSw; (try dsimp only at hSw); go_simp; first | done | with_reducible rfl)
        try simp only [Act.put, List.getElem_toArray, List.getElem_cons_succ, List.getElem_cons_zero, List.setIfInBounds_toArray, List.set_cons_zero, List.set_cons_succ]
        refine wpAnyH_take (i := 10) (v := ?vv9) rfl (by kernel_rfl) (by kernel_rfl) (by kernel_rfl) (fun _ _ _ h => h) (Or.inl ⟨by rfl, ?hy9⟩) (by assumption) ?rest9
        case hy9 => (intro w hSw; (try dsimp only at hSw); go_simp; first | done | with_reducible rfl)
        try simp only [Act.put, List.getElem_toArray, List.getElem_cons_succ, List.getElem_cons_zero, List.setIfInBounds_toArray, List.set_cons_zero, List.set_cons_succ]
        refine wpAnyH_take (i := 11) (v := ?vv10) rfl (by kernel_rfl) (by kernel_rfl) (by kernel_rfl) (fun _ _ _ h => h) (Or.inl ⟨by rfl, ?hy10⟩) (by assumption) ?rest10
        case hy10 => (intro w hSw; (try dsimp only at hSw); go_simp; first | done | with_reducible rfl)
        try simp only [Act.put, List.getElem_toArray, List.getElem_cons_succ, List.getElem_cons_zero, List.setIfInBounds_toArray, List.set_cons_zero, List.set_cons_succ]
        refine wpAnyH_take (i := 12) (v := ?vv11) rfl (by kernel_rfl) (by kernel_rfl) (by kernel_rfl) (fun _ _ _ h => h) (Or.inl ⟨by rfl, ?hy11⟩) (by assumption) ?rest11
        case hy11 => (intro w hSw; (try dsimp only at hSw); go_simp; first | done | with_reducible rfl)
        try simp only [Act.put, List.getElem_toArray, List.getElem_cons_succ, List.getElem_cons_zero, List.setIfInBounds_toArray, List.set_cons_zero, List.set_cons_succ]
        refine wpAnyH_take (i := 15) (v := ?vv12) rfl (by kernel_rfl) (by kernel_rfl) (by kernel_rfl) (fun _ _ _ h => h) (Or.inl ⟨by rfl, ?hy12⟩) (by assumption) ?rest12
        case hy12 => (intro w hSw; (try dsimp only at hSw); go_simp; first | done | with_reducible rfl)
        try simp only [Act.put, List.getElem_toArray, List.getElem_cons_succ, List.getElem_cons_zero, List.setIfInBounds_toArray, List.set_cons_zero, List.set_cons_succ]
        refine wpAnyH_take (i := 16) (v := ?vv13) rfl (by kernel_rfl) (by kernel_rfl) (by kernel_rfl) (fun _ _ _ h => h) (Or.inl ⟨by rfl, ?hy13⟩) (by assumption) ?rest13
        case hy13 => (intro w hSw; (try dsimp only at hSw); go_simp; first | done | with_reducible rfl)
        try simp only [Act.put, List.getElem_toArray, List.getElem_cons_succ, List.getElem_cons_zero, List.setIfInBounds_toArray, List.set_cons_zero, List.set_cons_succ]
        refine wpAnyH_take (i := 17) (v := ?vv14) rfl (by kernel_rfl) (by kernel_rfl) (by kernel_rfl) (fun _ _ _ h => h) (Or.inl ⟨by rfl, ?hy14⟩) (by assumption) ?rest14
        case hy14 => (intro w hSw; (try dsimp only at hSw); go_simp; first | done | with_reducible rfl)
        try simp only [Act.put, List.getElem_toArray, List.getElem_cons_succ, List.getElem_cons_zero, List.setIfInBounds_toArray, List.set_cons_zero, List.set_cons_succ]
        refine wpAnyH_take (i := 18) (v := ?vv15) rfl (by kernel_rfl) (by kernel_rfl) (by kernel_rfl) (fun _ _ _ h => h) (Or.inl ⟨by rfl, ?hy15⟩) (by assumption) ?rest15
        case hy15 => (intro w hSw; (try dsimp only at hSw); go_simp; first | done | with_reducible rfl)
        try simp only [Act.put, List.getElem_toArray, List.getElem_cons_succ, List.getElem_cons_zero, List.setIfInBounds_toArray, List.set_cons_zero, List.set_cons_succ]
        refine wpAnyH_take (i := 19) (v := ?vv16) rfl (by kernel_rfl) (by kernel_rfl) (by kernel_rfl) (fun _ _ _ h => h) (Or.inl ⟨by rfl, ?hy16⟩) (by assumption) ?rest16
        case hy16 => (intro w hSw; (try dsimp only at hSw); go_simp; first | done | with_reducible rfl)
        try simp only [Act.put, List.getElem_toArray, List.getElem_cons_succ, List.getElem_cons_zero, List.setIfInBounds_toArray, List.set_cons_zero, List.set_cons_succ]
        refine wpAnyH_take (i := 22) (v := ?vv17) rfl (by kernel_rfl) (by kernel_rfl) (by kernel_rfl) (fun _ _ _ h => h) (Or.inl ⟨by rfl, ?hy17⟩) (by assumption) ?rest17
        case hy17 => (intro w hSw; (try dsimp only at hSw); go_simp; first | done | with_reducible rfl)
        try simp only [Act.put, List.getElem_toArray, List.getElem_cons_succ, List.getElem_cons_zero, List.setIfInBounds_toArray, List.set_cons_zero, List.set_cons_succ]
        refine wpAnyH_take (i := 23) (v := ?vv18) rfl (by kernel_rfl) (by kernel_rfl) (by kernel_rfl) (fun _ _ _ h => h) (Or.inl ⟨by rfl, ?hy18⟩) (by assumption) ?rest18
        case hy18 => (intro w hSw; (try dsimp only at hSw); go_simp; first | done | with_reducible rfl)
        try simp only [Act.put, List.getElem_toArray, List.getElem_cons_succ, List.getElem_cons_zero, List.setIfInBounds_toArray, List.set_cons_zero, List.set_cons_succ]
        refine wpAnyH_take (i := 24) (v := ?vv19) rfl (by kernel_rfl) (by kernel_rfl) (by kernel_rfl) (fun _ _ _ h => h) (Or.inl ⟨by rfl, ?hy19⟩) (by assumption) ?rest19
        case hy19 => (intro w hSw; (try dsimp only at hSw); go_simp; first | done | with_reducible rfl)
        try simp only [Act.put, List.getElem_toArray, List.getElem_cons_succ, List.getElem_cons_zero, List.setIfInBounds_toArray, List.set_cons_zero, List.set_cons_succ]
        refine wpAnyH_take (i := 25) (v := ?vv20) rfl (by kernel_rfl) (by kernel_rfl) (by kernel_rfl) (fun _ _ _ h => h) (Or.inl ⟨by rfl, ?hy20⟩) (by assumption) ?rest20
        case hy20 => (intro w hSw; (try dsimp only at hSw); go_simp; first | done | with_reducible rfl)
        try simp only [Act.put, List.getElem_toArray, List.getElem_cons_succ, List.getElem_cons_zero, List.setIfInBounds_toArray, List.set_cons_zero, List.set_cons_succ]
        refine wpAnyH_take (i := 26) (v := ?vv21) rfl (by kernel_rfl) (by kernel_rfl) (by kernel_rfl) (fun _ _ _ h => h) (Or.inl ⟨by rfl, ?hy21⟩) (by assumption) ?rest21
        case hy21 => (intro w hSw; (try dsimp only at hSw); go_simp; first | done | with_reducible rfl)
        try simp only [Act.put, List.getElem_toArray, List.getElem_cons_succ, List.getElem_cons_zero, List.setIfInBounds_toArray, List.set_cons_zero, List.set_cons_succ]
        refine wpAnyH_take (i := 27) (v := ?vv22) rfl (by kernel_rfl) (by kernel_rfl) (by kernel_rfl) (fun _ _ _ h => h) (Or.inl ⟨by rfl, ?hy22⟩) (by assumption) ?rest22
        case hy22 => (intro w hSw; (try dsimp only at hSw); go_simp; first | done | with_reducible rfl)
        try simp only [Act.put, List.getElem_toArray, List.getElem_cons_succ, List.getElem_cons_zero, List.setIfInBounds_toArray, List.set_cons_zero, List.set_cons_succ]
        refine wpAnyH_ready (rs := [6]) (by kernel_rfl) (by simp) ?_
        refine AllReadyH.cons rfl (fun K hK => ?_) AllReadyH.nil
        go_simp
        refine (TZ0.out _ BD.out).mono ?_
        rintro e wa ⟨rfl, ZCwa, Bwa⟩
        go_wp2_with fail
        refine hK.out _ _ ZCwa (fun hHeld => ?_)
        clear hK K
        try simp only [Act.put, List.getElem_toArray, List.getElem_cons_succ, List.getElem_cons_zero, List.setIfInBounds_toArray, List.set_cons_zero, List.set_cons_succ]
        refine wpAnyH_take (i := 7) (v := ?vv23) rfl (by kernel_rfl) (by kernel_rfl) (by kernel_rfl) (fun _ _ _ h => h) (Or.inl ⟨by rfl, ?hy23⟩) (by assumption) ?rest23
        case hy23 => (intro w hSw; (try dsimp only at hSw); go_simp; first | done | with_reducible rfl)
        try simp only [Act.put, List.getElem_toArray, List.getElem_cons_succ, List.getElem_cons_zero, List.setIfInBounds_toArray, List.set_cons_zero, List.set_cons_succ]
        refine wpAnyH_ready (rs := [13]) (by kernel_rfl) (by simp) ?_
        refine AllReadyH.cons rfl (fun K hK => ?_) AllReadyH.nil
        go_simp
        refine (TZ1.out _ Bwa.out).mono ?_
        rintro e wb ⟨rfl, ZCwb, Bwb⟩
        go_wp2_with fail
        refine hK.out _ _ ZCwb (fun hHeld => ?_)
        clear hK K
        try simp only [Act.put, List.getElem_toArray, List.getElem_cons_succ, List.getElem_cons_zero, List.setIfInBounds_toArray, List.set_cons_zero, List.set_cons_succ]
        refine wpAnyH_take (i := 14) (v := ?vv24) rfl (by kernel_rfl) (by kernel_rfl) (by kernel_rfl) (fun _ _ _ h => h) (Or.inl ⟨by rfl, ?hy24⟩) (by assumption) ?rest24
        case hy24 => (intro w hSw; (try dsimp only at hSw); go_simp; first | done | with_reducible rfl)
        try simp only [Act.put, List.getElem_toArray, List.getElem_cons_succ, List.getElem_cons_zero, List.setIfInBounds_toArray, List.set_cons_zero, List.set_cons_succ]
        refine wpAnyH_ready (rs := [20]) (by kernel_rfl) (by simp) ?_
        refine AllReadyH.cons rfl (fun K hK => ?_) AllReadyH.nil
        go_simp
        refine (TZ2.out _ Bwb.out).mono ?_
        rintro e wc ⟨rfl, ZCwc, Bwc⟩
        go_wp2_with fail
        refine hK.out _ _ ZCwc (fun hHeld => ?_)
        clear hK K
        try simp only [Act.put, List.getElem_toArray, List.getElem_cons_succ, List.getElem_cons_zero, List.setIfInBounds_toArray, List.set_cons_zero, List.set_cons_succ]
        refine wpAnyH_take (i := 21) (v := ?vv25) rfl (by kernel_rfl) (by kernel_rfl) (by kernel_rfl) (fun _ _ _ h => h) (Or.inl ⟨by rfl, ?hy25⟩) (by assumption) ?rest25
        case hy25 => (intro w hSw; (try dsimp only at hSw); go_simp; first | done | with_reducible rfl)
        try simp only [Act.put, List.getElem_toArray, List.getElem_cons_succ, List.getElem_cons_zero, List.setIfInBounds_toArray, List.set_cons_zero, List.set_cons_succ]
        refine wpAnyH_ready (rs := [28]) (by kernel_rfl) (by simp) ?_
        refine AllReadyH.cons rfl (fun K hK => ?_) AllReadyH.nil
        go_simp
        refine (NZ.out _ Bwc.out).mono ?_
        rintro e wd ⟨rfl, ZCwd, Bwd⟩
        go_wp2_with fail
        refine hK.out _ _ ZCwd (fun hHeld => ?_)
        clear hK K
        try simp only [Act.put, List.getElem_toArray, List.getElem_cons_succ, List.getElem_cons_zero, List.setIfInBounds_toArray, List.set_cons_zero, List.set_cons_succ]
        refine wpAnyH_take (i := 29) (v := ?vv26) rfl (by kernel_rfl) (by kernel_rfl) (by kernel_rfl) (fun _ _ _ h => h) (Or.inl ⟨by rfl, ?hy26⟩) (by assumption) ?rest26
        case hy26 => (intro w hSw; (try dsimp only at hSw); go_simp; first | done | with_reducible rfl)
        try simp only [Act.put, List.getElem_toArray, List.getElem_cons_succ, List.getElem_cons_zero, List.setIfInBounds_toArray, List.set_cons_zero, List.set_cons_succ]
        refine wpAnyH_take (i := 30) (v := ?vv27) rfl (by kernel_rfl) (by kernel_rfl) (by kernel_rfl) (fun _ _ _ h => h) (Or.inl ⟨by rfl, ?hy27⟩) (by assumption) ?rest27
        case hy27 => (intro w hSw; (try dsimp only at hSw); go_simp; first | done | with_reducible rfl)
        try simp only [Act.put, List.getElem_toArray, List.getElem_cons_succ, List.getElem_cons_zero, List.setIfInBounds_toArray, List.set_cons_zero, List.set_cons_succ]
        refine wpAnyH_done (by kernel_rfl) ?_ _
        clear hHeld ZCwa ZCwb ZCwc ZCwd q1 q2 q3 q4 TZ0 TZ1 TZ2 NZ YD BD Bwa Bwb Bwc hwu
        go_wp2
        exact ⟨⟨k + 1, Y4, HLT.out, rfl, by first | rw [hwk] | rfl | simp, HTK.out.symm, Bwd⟩, by (try rw [hwk]); have := HLT.out; simp [intOf]; omega⟩
      · have hke : k = q.length := by omega
        have hd : decide ((k : Int) < (q.length : Int)) = false := decide_eq_false (by omega)
        have hd2 : decide (k < q.length) = false := decide_eq_false hlt
        have hA : A = R := by rw [HA.out, hke, HZ.out]
        subst hA
        clear HC HTX HT HLN HZ HA hke hlt hk
        go_wp2
        go_ret2
        exact ⟨rfl, HB.out⟩
end Go.Proofs.Ytojiahdbgdgdcaa
