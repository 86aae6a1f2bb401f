/- Joined: The reference's texts of pieces and chains. The reference's text of a chain. -/
import Derived.Test.YtbiapepalkdkdaaCvT
import Derived.Test.YtbiapepalkdkdaaJoined09
import Derived.Test.YtbiapepalkdkdaaJoined10
import Derived.Deep.RegionHeld3
namespace Go.Proofs.Ytbiapepalkdkdaa
open Go.RowKit Go.Maps
set_option linter.unusedVariables false
set_option linter.unusedSimpArgs false

set_option maxRecDepth 100000 in
set_option maxHeartbeats 2000000 in
theorem rtold_any (v : Value) (l : List Pc) (w : World) (hv : PcI w v l) (ha : ∀ p ∈ l, pcOk p = true) (hl : l.length ≤ 512) : Calls Try.prog 50 #[v] w fun e w' => e = .returned (.string ⟨(pcsB l).toArray⟩) ∧ Below w.heap.size w w' := by
  obtain ⟨ad, cap, rfl, hc⟩ := hv.form
  have HC := hid hc
  have N0 := hid (fun W => ref_number_any l.length W (by omega))
  have HNM : Hid (∀ (k : Nat) (hk : k < l.length) W, Calls Try.prog 49 #[.int .u64 ((l[k].sz.toNat : Nat) : Int)] W fun e w' => e = .returned (.string ⟨(put l[k].sz.toNat).toArray⟩) ∧ Below W.heap.size W w') := fun k hk W => ref_number_any _ W (by have := pcOk_id (ha _ (List.getElem_mem hk)); omega)
  have HTX : Hid (∀ (k : Nat) (hk : k < l.length) W, Calls Try.prog 51 #[.string l[k].id] W fun e w' => e = .returned (.string ⟨(ptx l[k].id).toArray⟩) ∧ Below W.heap.size W w') := fun k hk W => ref_text_any _ W (Nat.le_trans (Nat.le_of_eq (pcOk_id (ha _ (List.getElem_mem hk))).1) (by decide))
  have HSZ : Hid (∀ (k : Nat) (hk : k < l.length), l[k].sz = ((l[k].sz.toNat : Nat) : Int) ∧ l[k].sz.toNat ≤ 4096) := fun k hk => by have := pcOk_id (ha _ (List.getElem_mem hk)); omega
  have HT : Hid (∀ (k : Nat) (hk : k < l.length), put l.length ++ (l.take (k + 1)).flatMap pcB = (put l.length ++ (l.take k).flatMap pcB) ++ ptx l[k].id ++ put l[k].sz.toNat) := fun k hk => by rw [flatB_take pcB l k hk]; unfold pcB; simp
  have HLN : Hid (∀ (k : Nat) (hk : k < l.length), (put l.length ++ (l.take k).flatMap pcB).length ≤ 50000 ∧ (ptx l[k].id).length ≤ 74 ∧ (put l[k].sz.toNat).length ≤ 10) := fun k hk => by
    have h1 := flatB_len pcB 84 (l.take k) (fun p hp => pcB_len (by have := (pcOk_id (ha p (List.mem_of_mem_take hp))).1; omega))
    have h2 := (put_len l.length).2
    have h3 : (l.take k).length ≤ 512 := by simp; omega
    have h4 := ptx_len l[k].id
    have h5 := (put_len l[k].id.size).2
    have h6 := (pcOk_id (ha _ (List.getElem_mem hk))).1
    have h7 := (put_len l[k].sz.toNat).2
    rw [List.length_append]
    omega
  have HZ : Hid (put l.length ++ (l.take l.length).flatMap pcB = pcsB l) := by show _ = _; rw [List.take_length]; rfl
  have hwl : IntKind.u64.wrap (l.length : Int) = (l.length : Int) := by rw [IntKind.wrap_u64]; omega
  generalize pcsB l = R at *
  clear hc hv ha
  go_enter Try.func50, Try.ntmps50
  go_wp2_with fail
  refine (N0.out _).mono ?_
  rintro e w1 ⟨rfl, b1⟩
  have B1 := hid b1
  clear b1 N0 hwl
  go_wp2
  go_loopw [3, 4] (fun t i wr => ∃ (k : Nat) (A : List UInt8), k ≤ l.length ∧ t = .string ⟨A.toArray⟩ ∧ i = .int .i64 (k : Int) ∧ Hid (A = put l.length ++ (l.take k).flatMap pcB) ∧ Hid (Below w.heap.size w wr)) (fun _ i _ => l.length - (intOf i).toNat)
  case atStart => exact ⟨0, put l.length, Nat.zero_le _, rfl, rfl, by show _ = _; simp, B1⟩
  case round =>
    clear B1
    obtain ⟨k, A, hk, rfl, rfl, HA, HB⟩ := hrel
    by_cases hlt : k < l.length
    · have hk1 : (k : Int) < (l.length : Int) := by omega
      have hk0 : (0 : Int) ≤ (k : Int) := by omega
      have hwk : wrap64 ((k : Int) + 1) = ((k + 1 : Nat) : Int) := by rw [IntWalk.wrap64_in _ (by omega)]; omega
      obtain ⟨b, off, rfl, hb, c0, c1⟩ := HC.out k hlt
      have NM := hid (HNM.out k hlt)
      have TX := hid (HTX.out k hlt)
      have HTK := hid (HT.out k hlt)
      obtain ⟨hz1, hz2⟩ := HSZ.out k hlt
      have HLL := HLN.out k hlt
      have HLT := hid hlt
      rw [← HA.out] at HTK HLL
      clear HC HNM HTX HT HSZ HLN HZ HA
      generalize l[k] = p at *
      obtain ⟨id, sz⟩ := p
      simp only at *
      generalize hn : sz.toNat = N at *
      subst hz1
      clear hn
      have hwu : IntKind.u64.wrap (N : Int) = (N : Int) := by rw [IntKind.wrap_u64]; omega
      generalize ptx id = X1 at *
      generalize put N = X2 at *
      have q1 := fun W => add_ls A X1 W (by omega)
      have q2 := fun W => add_ls (A ++ X1) X2 W (by rw [List.length_append]; omega)
      generalize A ++ X1 ++ X2 = Y2 at *
      generalize A ++ X1 = Y1 at *
      have CL : Hid (∀ W, Below w.heap.size w W → W.cell? ⟨b, off + k * 2, none⟩ = some (.string id) ∧ W.cell? ⟨b, off + k * 2 + 1, none⟩ = some (.int .i64 (N : Int))) := fun W h => ⟨(h.cell (p := ⟨b, off + k * 2, none⟩) hb).trans c0, (h.cell (p := ⟨b, off + k * 2 + 1, none⟩) hb).trans c1⟩
      have BD := hid HB.out.drew
      have YD := hid (CL.out _ BD.out)
      have NZ : Hid (∀ W, Below w.heap.size w W → Calls Try.prog 49 #[.int .u64 (N : Int)] W fun e w' => e = .returned (.string ⟨X2.toArray⟩) ∧ (w'.cell? ⟨b, off + k * 2, none⟩ = some (.string id) ∧ w'.cell? ⟨b, off + k * 2 + 1, none⟩ = some (.int .i64 (N : Int))) ∧ Hid (Below w.heap.size w w')) := fun W h => (NM.out W).mono fun e w' ⟨he, hb⟩ => ⟨he, CL.out _ (below_on h hb), below_on h hb⟩
      have TZ : Hid (∀ W, Below w.heap.size w W → Calls Try.prog 51 #[.string id] W fun e w' => e = .returned (.string ⟨X1.toArray⟩) ∧ (w'.cell? ⟨b, off + k * 2, none⟩ = some (.string id) ∧ w'.cell? ⟨b, off + k * 2 + 1, none⟩ = some (.int .i64 (N : Int))) ∧ Hid (Below w.heap.size w w')) := fun W h => (TX.out W).mono fun e w' ⟨he, hb⟩ => ⟨he, CL.out _ (below_on h hb), below_on h hb⟩
      clear NM TX CL HB hlt hk hz2 HLL c0 c1 hb
      go_wp2
      go_region_held3 (fun w' => w'.cell? ⟨b, off + k * 2, none⟩ = some (.string id) ∧ w'.cell? ⟨b, off + k * 2 + 1, none⟩ = some (.int .i64 (N : Int))) (first | with_reducible exact YD.out | with_reducible assumption) (first | (go_at_call 49; (first | with_reducible (refine (NZ.out _ BT.out).mono ?_) | with_reducible (refine (NZ.out _ BD.out).mono ?_)); rintro e wn ⟨rfl, Zn, BN⟩) | (go_at_call 51; (first | with_reducible (refine (TZ.out _ BN.out).mono ?_) | with_reducible (refine (TZ.out _ BD.out).mono ?_)); rintro e wt ⟨rfl, Zt, BT⟩))
      all_goals
        clear q1 q2 NZ TZ Zn Zt YD BD
        go_wp2
        first | exact ⟨⟨k + 1, Y2, HLT.out, rfl, by first | rw [hwk] | rfl | simp, hid HTK.out.symm, BT⟩, by (try rw [hwk]); have := HLT.out; simp [intOf]; omega⟩ | exact ⟨⟨k + 1, Y2, HLT.out, rfl, by first | rw [hwk] | rfl | simp, hid HTK.out.symm, BN⟩, by (try rw [hwk]); have := HLT.out; simp [intOf]; omega⟩
    · have hke : k = l.length := by omega
      have hd : decide ((k : Int) < (l.length : Int)) = false := decide_eq_false (by omega)
      have hd2 : decide (k < l.length) = false := decide_eq_false hlt
      have HF : A = R := by rw [HA.out, hke, HZ.out]
      subst HF
      clear HC HNM HTX HT HSZ HLN HZ HA hke hlt hk
      go_wp2
      go_ret
      exact ⟨rfl, HB.out⟩
end Go.Proofs.Ytbiapepalkdkdaa
namespace Go.Proofs.Ytbiapepalkdkdaa
open Go.RowKit Go.Maps
set_option linter.unusedVariables false
set_option linter.unusedSimpArgs false

set_option maxRecDepth 100000 in
set_option maxHeartbeats 4000000 in
theorem rvencode_any (v : Value) (q : List (Value × Vn)) (w : World) (hv : VnI w v q) (hz : SzQ q) : Calls Try.prog 31 #[v] w fun e w' => e = .returned (.tuple #[.string (chT (vqL q)), .int .i64 (chTE (vqL q))]) ∧ Below w.heap.size w w' := by
  obtain ⟨ad, cap, rfl, hc⟩ := hv.form
  have IC := hid (rmay_any (.slice ad q.length cap) q w hv hz.1 hz.2)
  have HTE : Hid (chTE (vqL q) = if isCh (vqL q) = true then 0 else 1) := rfl
  have HTT : Hid (chT (vqL q) = if isCh (vqL q) = true then ⟨(chB (vqL q)).toArray⟩ else ⟨#[]⟩) := rfl
  cases hIS : isCh (vqL q)
  · rw [hIS] at IC HTE HTT
    have h1 := HTE.out
    have h2 := HTT.out
    simp only [Bool.false_eq_true, if_false] at h1 h2
    rw [h1, h2]
    clear HTE HTT h1 h2 hIS hc hv
    go_enter Try.func31, Try.ntmps31
    go_wp2_with fail
    refine IC.out.mono ?_
    rintro e w1 ⟨rfl, b1⟩
    have B1 := hid b1
    clear IC b1
    go_wp2
    go_ret2
    exact ⟨rfl, B1.out⟩
  · have HC := hid hc
    have hl32 : q.length ≤ 32 := by have := isCh_len hIS; rw [vqL_len] at this; exact this
    have hok : ∀ y ∈ q, vnOk y.2 = true := fun y hy => isCh_all hIS _ (vq_mem hy)
    have N0 := hid (fun W => ref_number_any q.length W (by omega))
    have HI : Hid (∀ (k : Nat) (hk : k < q.length), q[k].2.id = ((q[k].2.id.toNat : Nat) : Int) ∧ q[k].2.id.toNat ≤ 1099511627776) := fun k hk => by
      have hx := hok _ (List.getElem_mem hk)
      simp only [vnOk, Bool.and_eq_true, decide_eq_true_eq] at hx
      have := hx.1
      omega
    have HNI : Hid (∀ (k : Nat) (hk : k < q.length) W, Calls Try.prog 49 #[.int .u64 ((q[k].2.id.toNat : Nat) : Int)] W fun e w' => e = .returned (.string ⟨(put q[k].2.id.toNat).toArray⟩) ∧ Below W.heap.size W w') := fun k hk W => ref_number_any _ W (by have := (HI.out k hk).2; omega)
    have HPT : Hid (∀ (k : Nat) (hk : k < q.length) W, Below w.heap.size w W → Calls Try.prog 50 #[q[k].1] W fun e w' => e = .returned (.string ⟨(pcsB q[k].2.ps).toArray⟩) ∧ Below W.heap.size W w') := fun k hk W hW => by
      obtain ⟨_, _, _, _, _, _, _, _, _, hp⟩ := hc k hk
      have h1 := vnOk_ps (hok _ (List.getElem_mem hk))
      exact rtold_any q[k].1 q[k].2.ps W (hp.next hW) h1.2.1 h1.1
    have HTX : Hid (∀ (k : Nat) (hk : k < q.length) W, Calls Try.prog 51 #[.string q[k].2.sum] W fun e w' => e = .returned (.string ⟨(ptx q[k].2.sum).toArray⟩) ∧ Below W.heap.size W w') := fun k hk W => ref_text_any _ W (Nat.le_trans (vnOk_sum (hok _ (List.getElem_mem hk))) (by decide))
    have HT : Hid (∀ (k : Nat) (hk : k < q.length), put q.length ++ (vqL (q.take (k + 1))).flatMap vnB = (put q.length ++ (vqL (q.take k)).flatMap vnB) ++ (if q[k].2.ma = true then put q[k].2.id.toNat ++ [1] else put q[k].2.id.toNat ++ [0] ++ pcsB q[k].2.ps ++ ptx q[k].2.sum)) := fun k hk => by
      have e1 : vqL (q.take (k + 1)) = vqL (q.take k) ++ [q[k].2] := by unfold vqL; rw [List.take_succ_eq_append_getElem hk, List.map_append]; rfl
      have e2 : vnB q[k].2 = (if q[k].2.ma = true then put q[k].2.id.toNat ++ [1] else put q[k].2.id.toNat ++ [0] ++ pcsB q[k].2.ps ++ ptx q[k].2.sum) := rfl
      rw [e1, List.flatMap_append, ← e2]; simp
    have HLN : Hid (∀ (k : Nat) (hk : k < q.length), (put q.length ++ (vqL (q.take k)).flatMap vnB).length ≤ 1400000 ∧ (put q[k].2.id.toNat).length ≤ 10 ∧ (pcsB q[k].2.ps).length ≤ 43018 ∧ (ptx q[k].2.sum).length ≤ 100) := fun k hk => by
      have h1 := flatB_len vnB 43122 (vqL (q.take k)) (fun x hx => by
        obtain ⟨y, hy, rfl⟩ := List.mem_map.1 hx
        exact vnB_len (hok y (List.mem_of_mem_take hy)))
      have h2 := (put_len q.length).2
      have h3 : (vqL (q.take k)).length ≤ 32 := by rw [vqL_len]; simp; omega
      have h4 := vnOk_ps (hok _ (List.getElem_mem hk))
      have h5 := pcsB_len h4.2.1 h4.1
      have h6 := (put_len q[k].2.id.toNat).2
      have h7 := ptx_len q[k].2.sum
      have h8 := (put_len q[k].2.sum.size).2
      have h9 := vnOk_sum (hok _ (List.getElem_mem hk))
      rw [List.length_append]
      omega
    have HZ : Hid (put q.length ++ (vqL (q.take q.length)).flatMap vnB = chB (vqL q)) := by show _ = _; rw [List.take_length]; unfold chB; rw [vqL_len]
    have hwl : IntKind.u64.wrap (q.length : Int) = (q.length : Int) := by rw [IntKind.wrap_u64]; omega
    rw [hIS] at IC HTE HTT
    have h1 := HTE.out
    have h2 := HTT.out
    simp only [if_true] at h1 h2
    rw [h1, h2]
    generalize chB (vqL q) = R at *
    clear HTE HTT h1 h2 hIS hc hv hok hz
    go_enter Try.func31, Try.ntmps31
    go_wp2_with fail
    refine IC.out.mono ?_
    rintro e w0 ⟨rfl, b0⟩
    have BW := hid b0
    clear IC b0
    go_wp2_with fail
    refine (N0.out _).mono ?_
    rintro e w1 ⟨rfl, b1⟩
    have B1 := hid (below_on BW.out b1)
    clear b1 N0 BW hwl
    go_wp2
    go_loopw [4, 5] (fun t i wr => ∃ (k : Nat) (A : List UInt8), k ≤ q.length ∧ t = .string ⟨A.toArray⟩ ∧ i = .int .i64 (k : Int) ∧ Hid (A = put q.length ++ (vqL (q.take k)).flatMap vnB) ∧ Hid (Below w.heap.size w wr)) (fun _ i _ => q.length - (intOf i).toNat)
    case atStart => exact ⟨0, put q.length, Nat.zero_le _, rfl, rfl, by show _ = _; simp [vqL], B1⟩
    case round =>
      clear B1
      obtain ⟨k, A, hk, rfl, rfl, HA, HB⟩ := hrel
      by_cases hlt : k < q.length
      · have hk1 : (k : Int) < (q.length : Int) := by omega
        have hk0 : (0 : Int) ≤ (k : Int) := by omega
        have hwk : wrap64 ((k : Int) + 1) = ((k + 1 : Nat) : Int) := by rw [IntWalk.wrap64_in _ (by omega)]; omega
        obtain ⟨b, off, rfl, hb, c0, c1, c2, c3, c4, hp⟩ := HC.out k hlt
        have d0 := (HB.out.cell (p := ⟨b, off + k * 5, none⟩) hb).trans c0
        have d1 := (HB.out.cell (p := ⟨b, off + k * 5 + 1, none⟩) hb).trans c1
        have d2 := (HB.out.cell (p := ⟨b, off + k * 5 + 2, none⟩) hb).trans c2
        have d3 := (HB.out.cell (p := ⟨b, off + k * 5 + 3, none⟩) hb).trans c3
        have d4 := (HB.out.cell (p := ⟨b, off + k * 5 + 4, none⟩) hb).trans c4
        have NI := hid (HNI.out k hlt)
        have PT := hid (HPT.out k hlt)
        have TX := hid (HTX.out k hlt)
        have HTK := hid (HT.out k hlt)
        have HLL := HLN.out k hlt
        have HII := HI.out k hlt
        have HLT := hid hlt
        have hpf := hp.sl
        rw [← HA.out] at HTK HLL
        clear HC HNI HPT HTX HT HLN HI HZ HA c0 c1 c2 c3 c4 hp hb
        generalize q[k] = y at *
        obtain ⟨pv, id, ma, sz, sum, ps⟩ := y
        simp only at *
        obtain ⟨ad2, cap2, rfl⟩ := hpf
        obtain ⟨hi1, hi2⟩ := HII
        generalize hn : id.toNat = N at *
        subst hi1
        clear hn
        have hwu : IntKind.u64.wrap (N : Int) = (N : Int) := by rw [IntKind.wrap_u64]; omega
        generalize ps.length = pn at *
        generalize put N = X1 at *
        generalize pcsB ps = X2 at *
        generalize ptx sum = X3 at *
        have BX := hid (Bx.made HB.out [.int .i64 (N : Int), .bool ma, .int .i64 sz, .string sum, .slice ad2 pn cap2] 36)
        have q1 := fun W => add_ls A X1 W (by omega)
        obtain ⟨⟨y0, y1, y2, y3, y4⟩, -⟩ := BX.out.may
        clear hlt hk HB
        cases ma
        · have q2 := fun W => add_ls (A ++ X1) [0] W (by rw [List.length_append]; simp; omega)
          have q3 := fun W => add_ls (A ++ X1 ++ [0]) X2 W (by rw [List.length_append, List.length_append]; simp; omega)
          have q4 := fun W => add_ls (A ++ X1 ++ [0] ++ X2) X3 W (by rw [List.length_append, List.length_append, List.length_append]; simp; omega)
          have HY : Hid (put q.length ++ (vqL (q.take (k + 1))).flatMap vnB = A ++ X1 ++ [0] ++ X2 ++ X3) := by show _ = _; rw [HTK.out]; simp
          clear HTK HLL
          generalize A ++ X1 ++ [0] ++ X2 ++ X3 = Y4 at *
          generalize A ++ X1 ++ [0] ++ X2 = Y3 at *
          generalize A ++ X1 ++ [0] = Y2 at *
          generalize A ++ X1 = Y1 at *
          have PZ : Hid (∀ W, Bx w wr.heap.size [.int .i64 (N : Int), .bool false, .int .i64 sz, .string sum, .slice ad2 pn cap2] 36 W → Calls Try.prog 50 #[.slice ad2 pn cap2] W fun e w' => e = .returned (.string ⟨X2.toArray⟩) ∧ (w'.cell? ⟨wr.heap.size, 0, none⟩ = some (.int .i64 (N : Int)) ∧ w'.cell? ⟨wr.heap.size, 1, none⟩ = some (.bool false) ∧ w'.cell? ⟨wr.heap.size, 2, none⟩ = some (.int .i64 sz) ∧ w'.cell? ⟨wr.heap.size, 3, none⟩ = some (.string sum) ∧ w'.cell? ⟨wr.heap.size, 4, none⟩ = some (.slice ad2 pn cap2)) ∧ Hid (Bx w wr.heap.size [.int .i64 (N : Int), .bool false, .int .i64 sz, .string sum, .slice ad2 pn cap2] 36 w')) := fun W h => (PT.out W h.b).mono fun e w' ⟨he, hb⟩ => ⟨he, (h.next hb).may.1, h.next hb⟩
          have TZ : Hid (∀ W, Bx w wr.heap.size [.int .i64 (N : Int), .bool false, .int .i64 sz, .string sum, .slice ad2 pn cap2] 36 W → Calls Try.prog 51 #[.string sum] W fun e w' => e = .returned (.string ⟨X3.toArray⟩) ∧ (w'.cell? ⟨wr.heap.size, 0, none⟩ = some (.int .i64 (N : Int)) ∧ w'.cell? ⟨wr.heap.size, 1, none⟩ = some (.bool false) ∧ w'.cell? ⟨wr.heap.size, 2, none⟩ = some (.int .i64 sz) ∧ w'.cell? ⟨wr.heap.size, 3, none⟩ = some (.string sum) ∧ w'.cell? ⟨wr.heap.size, 4, none⟩ = some (.slice ad2 pn cap2)) ∧ Hid (Bx w wr.heap.size [.int .i64 (N : Int), .bool false, .int .i64 sz, .string sum, .slice ad2 pn cap2] 36 w')) := fun W h => (TX.out W).mono fun e w' ⟨he, hb⟩ => ⟨he, (h.next hb).may.1, h.next hb⟩
          clear PT TX
          go_wp2_with fail
          refine (NI.out _).mono ?_
          rintro e w3 ⟨rfl, b3⟩
          have B3 := hid (BX.out.next b3)
          have z1 := B3.out.may.1.2.1
          have BD := hid B3.out.drew
          have YD := hid B3.out.drew.may.1
          clear b3 NI BX y0 y1 y2 y3 y4 d0 d1 d2 d3 d4 B3
          go_wp2
          go_region_held3 (fun w' => w'.cell? ⟨wr.heap.size, 0, none⟩ = some (.int .i64 (N : Int)) ∧ w'.cell? ⟨wr.heap.size, 1, none⟩ = some (.bool false) ∧ w'.cell? ⟨wr.heap.size, 2, none⟩ = some (.int .i64 sz) ∧ w'.cell? ⟨wr.heap.size, 3, none⟩ = some (.string sum) ∧ w'.cell? ⟨wr.heap.size, 4, none⟩ = some (.slice ad2 pn cap2)) (first | with_reducible exact YD.out | with_reducible assumption) (first | (go_at_call 50; (first | with_reducible (refine (PZ.out _ BT.out).mono ?_) | with_reducible (refine (PZ.out _ BD.out).mono ?_)); rintro e wn ⟨rfl, Zn, BN⟩) | (go_at_call 51; (first | with_reducible (refine (TZ.out _ BN.out).mono ?_) | with_reducible (refine (TZ.out _ BD.out).mono ?_)); rintro e wt ⟨rfl, Zt, BT⟩))
          all_goals
            clear q1 q2 q3 q4 PZ TZ Zn Zt YD BD
            go_wp2
            first | exact ⟨⟨k + 1, Y4, HLT.out, rfl, by first | rw [hwk] | rfl | simp, hid HY.out.symm, hid BT.out.b⟩, by (try rw [hwk]); have := HLT.out; simp [intOf]; omega⟩ | exact ⟨⟨k + 1, Y4, HLT.out, rfl, by first | rw [hwk] | rfl | simp, hid HY.out.symm, hid BN.out.b⟩, by (try rw [hwk]); have := HLT.out; simp [intOf]; omega⟩
        · have q2 := fun W => add_ls (A ++ X1) [1] W (by rw [List.length_append]; simp; omega)
          have HY : Hid (put q.length ++ (vqL (q.take (k + 1))).flatMap vnB = A ++ X1 ++ [1]) := by show _ = _; rw [HTK.out]; simp
          clear HTK HLL PT TX
          generalize A ++ X1 ++ [1] = Y2 at *
          generalize A ++ X1 = Y1 at *
          go_wp2_with fail
          refine (NI.out _).mono ?_
          rintro e w3 ⟨rfl, b3⟩
          have B3 := hid (BX.out.next b3)
          have z1 := B3.out.may.1.2.1
          clear b3 NI BX y0 y1 y2 y3 y4 d0 d1 d2 d3 d4
          go_wp2
          exact ⟨⟨k + 1, Y2, HLT.out, rfl, by first | rw [hwk] | rfl | simp, hid HY.out.symm, hid B3.out.b⟩, by (try rw [hwk]); have := HLT.out; simp [intOf]; omega⟩
      · have hke : k = q.length := by omega
        have hd : decide ((k : Int) < (q.length : Int)) = false := decide_eq_false (by omega)
        have hd2 : decide (k < q.length) = false := decide_eq_false hlt
        have HF : A = R := by rw [HA.out, hke, HZ.out]
        subst HF
        clear HC HNI HPT HTX HT HLN HI HZ HA hke hlt hk
        go_wp2
        go_ret2
        exact ⟨rfl, HB.out⟩
end Go.Proofs.Ytbiapepalkdkdaa
