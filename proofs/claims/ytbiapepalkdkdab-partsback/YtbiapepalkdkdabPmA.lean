/- Parts' text: the program's Encode and the document's. -/
import Derived.Test.YtbiapepalkdkdabPkC
import Derived.Test.YtbiapepalkdkdabCvT
import Derived.Test.YtbiapepalkdkdabCvU
namespace Go.Proofs.Ytbiapepalkdkdab
open Go.RowKit Go.Maps
set_option linter.unusedVariables false
set_option linter.unusedSimpArgs false

def ptB (x : Pt) : List UInt8 := put x.n.toNat ++ pcsB x.ps ++ ptx x.sum
def tsB (l : List Pt) : List UInt8 := put l.length ++ l.flatMap ptB
def ptTx (l : List Pt) : ByteArray := if arePt l = true then ⟨(tsB l).toArray⟩ else ⟨#[]⟩
def ptTxE (l : List Pt) : Int := if arePt l = true then 0 else 1
theorem ptOk_pcs {x : Pt} (h : ptOk x = true) : ∀ p ∈ x.ps, pcOk p = true := by
  simp only [ptOk, pcsOk, Bool.and_eq_true, decide_eq_true_eq, List.all_eq_true] at h
  exact h.1.1.1.1.2
theorem ptB_lens {x : Pt} (h : ptOk x = true) : (put x.n.toNat).length ≤ 10 ∧ (pcsB x.ps).length ≤ 43018 ∧ (ptx x.sum).length ≤ 100 := by
  have h1 := ptOk_b h
  have h2 := pcsB_len (ptOk_pcs h) h1.2.2.1
  have h4 := (put_len x.n.toNat).2
  have h7 := ptx_len x.sum
  have h8 := (put_len x.sum.size).2
  omega
theorem ptB_len {x : Pt} (h : ptOk x = true) : (ptB x).length ≤ 43128 := by
  have := ptB_lens h
  unfold ptB
  rw [List.length_append, List.length_append]
  omega
theorem tsB_len {l : List Pt} (h : arePt l = true) : (tsB l).length ≤ 4312810 := by
  unfold tsB
  have h1 := flatB_len ptB 43128 l (fun v hv => ptB_len (arePt_all h v hv))
  have h2 := arePt_len h
  have := (put_len l.length).2
  rw [List.length_append]
  omega
set_option maxRecDepth 100000 in
set_option maxHeartbeats 4000000 in
theorem ptencode_any (v : Value) (q : List (Value × Pt)) (w : World) (hv : PtI w v q) (hl : q.length ≤ 8796093022208) : Calls Try.prog 24 #[v] w fun e w' => e = .returned (.tuple #[.string (ptTx (tqL q)), .int .i64 (ptTxE (tqL q))]) ∧ Below w.heap.size w w' := by
  obtain ⟨ad, cap, rfl, hc⟩ := hv.form
  have IC := hid (areParts_any (.slice ad q.length cap) q w hv hl)
  have HTE : Hid (ptTxE (tqL q) = if arePt (tqL q) = true then 0 else 1) := rfl
  have HTT : Hid (ptTx (tqL q) = if arePt (tqL q) = true then ⟨(tsB (tqL q)).toArray⟩ else ⟨#[]⟩) := rfl
  cases hIS : arePt (tqL q)
  · rw [hIS] at IC HTE HTT
    have h1 := HTE.out
    have h2 := HTT.out
    simp only [Bool.false_eq_true, if_false] at h1 h2
    rw [h1, h2]
    clear HTE HTT h1 h2 hIS hc hv hl
    go_enter Try.func24, Try.ntmps24
    go_wp2_with fail
    refine IC.out.mono ?_
    rintro e w1 ⟨rfl, b1⟩
    have B1 := hid b1
    clear IC b1
    go_wp2
    go_ret2
    exact ⟨rfl, B1.out⟩
  · have HC := hid hc
    have hl100 : q.length ≤ 100 := by have := arePt_len hIS; rw [tqL_len] at this; exact this
    have hok : ∀ y ∈ q, ptOk y.2 = true := fun y hy => arePt_all hIS _ (tq_mem hy)
    have N0 := hid (fun W => number_any q.length W (by omega))
    have HI : Hid (∀ (k : Nat) (hk : k < q.length), q[k].2.n = ((q[k].2.n.toNat : Nat) : Int) ∧ q[k].2.n.toNat ≤ 100) := fun k hk => by
      have hx := ptOk_n (hok _ (List.getElem_mem hk))
      omega
    have HNM : Hid (∀ (k : Nat) (hk : k < q.length) W, Calls Try.prog 51 #[.int .u64 ((q[k].2.n.toNat : Nat) : Int)] W fun e w' => e = .returned (.string ⟨(put q[k].2.n.toNat).toArray⟩) ∧ Below W.heap.size W w') := fun k hk W => number_any _ W (by have := (HI.out k hk).2; omega)
    have HPT : Hid (∀ (k : Nat) (hk : k < q.length) W, Below w.heap.size w W → Calls Try.prog 52 #[q[k].1] W fun e w' => e = .returned (.string ⟨(pcsB q[k].2.ps).toArray⟩) ∧ Below W.heap.size W w') := fun k hk W hW => by
      obtain ⟨_, _, _, _, _, _, _, _, hp⟩ := hc k hk
      have h1 := hok _ (List.getElem_mem hk)
      exact ptext_any q[k].1 q[k].2.ps W (hp.next hW) (ptOk_pcs h1) (ptOk_b h1).2.2.1
    have HTX : Hid (∀ (k : Nat) (hk : k < q.length) W, Calls Try.prog 53 #[.string q[k].2.sum] W fun e w' => e = .returned (.string ⟨(ptx q[k].2.sum).toArray⟩) ∧ Below W.heap.size W w') := fun k hk W => text_any _ W (Nat.le_trans (Nat.le_of_eq (ptOk_b (hok _ (List.getElem_mem hk))).2.2.2) (by decide))
    have HT : Hid (∀ (k : Nat) (hk : k < q.length), put q.length ++ (tqL (q.take (k + 1))).flatMap ptB = (put q.length ++ (tqL (q.take k)).flatMap ptB) ++ put q[k].2.n.toNat ++ pcsB q[k].2.ps ++ ptx q[k].2.sum) := fun k hk => by
      have e1 : tqL (q.take (k + 1)) = tqL (q.take k) ++ [q[k].2] := by unfold tqL; rw [List.take_succ_eq_append_getElem hk, List.map_append]; rfl
      rw [e1, List.flatMap_append]; simp [ptB]
    have HLN : Hid (∀ (k : Nat) (hk : k < q.length), (put q.length ++ (tqL (q.take k)).flatMap ptB).length ≤ 4312810 ∧ (put q[k].2.n.toNat).length ≤ 10 ∧ (pcsB q[k].2.ps).length ≤ 43018 ∧ (ptx q[k].2.sum).length ≤ 100) := fun k hk => by
      have h1 := flatB_len ptB 43128 (tqL (q.take k)) (fun x hx => by
        obtain ⟨y, hy, rfl⟩ := List.mem_map.1 hx
        exact ptB_len (hok y (List.mem_of_mem_take hy)))
      have h2 := (put_len q.length).2
      have h3 : (tqL (q.take k)).length ≤ 100 := by rw [tqL_len]; simp; omega
      have h4 := ptB_lens (hok _ (List.getElem_mem hk))
      rw [List.length_append]
      omega
    have HPL := hid (put_len q.length).2
    have HZ : Hid (put q.length ++ (tqL (q.take q.length)).flatMap ptB = tsB (tqL q)) := by show _ = _; rw [List.take_length]; unfold tsB; rw [tqL_len]
    have hwl : IntKind.u64.wrap (q.length : Int) = (q.length : Int) := by rw [IntKind.wrap_u64]; omega
    rw [hIS] at IC HTE HTT
    have h1 := HTE.out
    have h2 := HTT.out
    simp only [if_true] at h1 h2
    rw [h1, h2]
    generalize tsB (tqL q) = R at *
    clear HTE HTT h1 h2 hIS hc hv hok hl
    go_enter Try.func24, Try.ntmps24
    go_wp2_with fail
    refine IC.out.mono ?_
    rintro e w0 ⟨rfl, b0⟩
    have B0 := hid (BS.new w0)
    have BW := hid b0
    clear IC b0
    go_wp2_with fail
    refine (N0.out _).mono ?_
    rintro e w1 ⟨rfl, b1⟩
    have B1 := hid (B0.out.next b1)
    have W1 := hid (B1.out.wr (put q.length) (by have := HPL.out; simp; omega))
    clear b1 N0 B0
    go_wp2_with fail
    refine W1.out.mono ?_
    rintro e w2 ⟨n2, rfl, B2, -⟩
    clear W1 B1 hwl
    go_wp2
    go_loopw [17] (fun i wr => ∃ (k : Nat), k ≤ q.length ∧ i = .int .i64 (k : Int) ∧ Hid (BS w0 (put q.length ++ (tqL (q.take k)).flatMap ptB) wr)) (fun i _ => q.length - (intOf i).toNat)
    case atStart => exact ⟨0, Nat.zero_le _, rfl, hid (by simpa [tqL] using B2.out)⟩
    case round =>
      clear B2
      obtain ⟨k, hk, rfl, HB⟩ := hrel
      have BWR := hid (below_on BW.out HB.out.b)
      by_cases hlt : k < q.length
      · have hk1 : (k : Int) < (q.length : Int) := by omega
        have hk0 : (0 : Int) ≤ (k : Int) := by omega
        have hwk : wrap64 ((k : Int) + 1) = ((k + 1 : Nat) : Int) := by rw [IntWalk.wrap64_in _ (by omega)]; omega
        obtain ⟨b, off, rfl, hb, c0, c1, c2, c3, hp⟩ := HC.out k hlt
        have d0 := (BWR.out.cell (p := ⟨b, off + k * 4, none⟩) hb).trans c0
        have d1 := (BWR.out.cell (p := ⟨b, off + k * 4 + 1, none⟩) hb).trans c1
        have d2 := (BWR.out.cell (p := ⟨b, off + k * 4 + 2, none⟩) hb).trans c2
        have d3 := (BWR.out.cell (p := ⟨b, off + k * 4 + 3, none⟩) hb).trans c3
        have NM := hid (HNM.out k hlt)
        have PT := hid (HPT.out k hlt)
        have TX := hid (HTX.out k hlt)
        have HTK := hid (HT.out k hlt)
        have HLL := hid (HLN.out k hlt)
        have HII := HI.out k hlt
        have HLT := hid hlt
        have hpf := hp.sl
        have hk33 : (k : Int) < 101 := by omega
        clear HC HNM HPT HTX HT HLN HZ HI c0 c1 c2 c3 hp hb
        generalize q[k] = y at *
        obtain ⟨pv, id, sz, sum, ps⟩ := y
        simp only at *
        obtain ⟨ad2, cap2, rfl⟩ := hpf
        obtain ⟨hi1, hi2⟩ := HII
        generalize hn : id.toNat = N at *
        subst hi1
        clear hn
        have hwu : IntKind.u64.wrap (N : Int) = (N : Int) := by rw [IntKind.wrap_u64]; omega
        generalize ps.length = pn at *
        generalize put N = X1 at *
        generalize pcsB ps = X2 at *
        generalize ptx sum = X3 at *
        generalize put q.length ++ (tqL (q.take k)).flatMap ptB = X0 at *
        have BX := hid (srow wr [.int .i64 (N : Int), .int .i64 sz, .string sum, .slice ad2 pn cap2] 25)
        have H1 := hid (HB.out.al (.cells #[.int .i64 (N : Int), .int .i64 sz, .string sum, .slice ad2 pn cap2] 25))
        have HNE : Hid (w0.heap.size < wr.heap.size) := by
          rcases HB.out.bd with ⟨_, _, h, _⟩ | ⟨_, _, h, _⟩ <;> exact (Array.getElem?_eq_some_iff.1 h).1
        have y0 := BX.out.cellAt (o := 0) rfl
        clear hlt hk HB BWR
        go_wp2_with fail
        refine (NM.out _).mono ?_
        rintro e w3 ⟨rfl, b3⟩
        have H3 := hid (H1.out.next b3)
        have E3 := hid (BX.out.keep (b3.keep (fun _ => False)) (fun h => h))
        have W3 := hid (H3.out.wr X1 (by have := HLL.out; omega))
        clear b3 NM BX H1 y0 d0 d1 d2 d3
        go_wp2_with fail
        refine W3.out.mono ?_
        rintro e w4 ⟨n4, rfl, H4, K4⟩
        have E4 := hid (K4.out _ _ _ (by have := HNE.out; omega) (by decide) E3.out)
        have B4 := hid (below_on BW.out H4.out.b)
        clear W3 K4 E3 H3
        have y3 := E4.out.cellAt (o := 3) rfl
        go_wp2_with fail
        refine (PT.out _ B4.out).mono ?_
        rintro e w5 ⟨rfl, b5⟩
        have H5 := hid (H4.out.next b5)
        have E5 := hid (E4.out.keep (b5.keep (fun _ => False)) (fun h => h))
        have W5 := hid (H5.out.wr X2 (by have := HLL.out; simp; omega))
        clear b5 PT E4 H4 y3 B4
        go_wp2_with fail
        refine W5.out.mono ?_
        rintro e w6 ⟨n6, rfl, H6, K6⟩
        have E6 := hid (K6.out _ _ _ (by have := HNE.out; omega) (by decide) E5.out)
        clear W5 K6 E5 H5
        have y2 := E6.out.cellAt (o := 2) rfl
        go_wp2_with fail
        refine (TX.out _).mono ?_
        rintro e w7 ⟨rfl, b7⟩
        have H7 := hid (H6.out.next b7)
        have W7 := hid (H7.out.wr X3 (by have := HLL.out; simp; omega))
        clear b7 TX E6 H6 y2
        go_wp2_with fail
        refine W7.out.mono ?_
        rintro e w8 ⟨n8, rfl, H8, -⟩
        have H9 : Hid (BS w0 (put q.length ++ (tqL (q.take (k + 1))).flatMap ptB) w8) := by have := H8.out; rw [HTK.out]; exact this
        clear W7 H7 H8 HTK HLL hwu
        go_wp2
        exact ⟨⟨k + 1, HLT.out, by first | rw [hwk] | rfl | simp, H9⟩, by (try rw [hwk]); have := HLT.out; simp [intOf]; omega⟩
      · have hke : k = q.length := by omega
        have hd : decide ((k : Int) < (q.length : Int)) = false := decide_eq_false (by omega)
        have hd2 : decide (k < q.length) = false := decide_eq_false hlt
        have HF : Hid (BS w0 R wr) := by have := HB.out; rw [hke, HZ.out] at this; exact this
        have ST := hid (bld_string w0.heap.size w0.heap.size R wr HF.out.bd HF.out.b.size)
        clear HC HNM HPT HTX HT HLN HZ HI HB hke hlt hk BWR
        go_wp2_with fail
        refine ST.out.mono ?_
        rintro e w5 ⟨rfl, b5⟩
        have B5 := hid (below_on BW.out (HF.out.b.trans b5))
        clear ST b5 HF
        go_wp2
        go_ret2
        exact ⟨rfl, B5.out⟩
set_option maxRecDepth 100000 in
set_option maxHeartbeats 4000000 in
theorem rptencode_any (v : Value) (q : List (Value × Pt)) (w : World) (hv : PtI w v q) (hz : q.length ≤ 8796093022208 ∧ ∀ y ∈ q, y.2.sum.size ≤ 140737488355328 ∧ y.2.ps.length ≤ 8796093022208 ∧ ∀ p ∈ y.2.ps, p.id.size ≤ 140737488355328) : Calls Try.prog 25 #[v] w fun e w' => e = .returned (.tuple #[.string (ptTx (tqL q)), .int .i64 (ptTxE (tqL q))]) ∧ Below w.heap.size w w' := by
  obtain ⟨ad, cap, rfl, hc⟩ := hv.form
  have IC := hid (rtmay_any (.slice ad q.length cap) q w hv hz.1 hz.2)
  have HTE : Hid (ptTxE (tqL q) = if arePt (tqL q) = true then 0 else 1) := rfl
  have HTT : Hid (ptTx (tqL q) = if arePt (tqL q) = true then ⟨(tsB (tqL q)).toArray⟩ else ⟨#[]⟩) := rfl
  cases hIS : arePt (tqL q)
  · rw [hIS] at IC HTE HTT
    have h1 := HTE.out
    have h2 := HTT.out
    simp only [Bool.false_eq_true, if_false] at h1 h2
    rw [h1, h2]
    clear HTE HTT h1 h2 hIS hc hv hz
    go_enter Try.func25, Try.ntmps25
    go_wp2_with fail
    refine IC.out.mono ?_
    rintro e w1 ⟨rfl, b1⟩
    have B1 := hid b1
    clear IC b1
    go_wp2
    go_ret2
    exact ⟨rfl, B1.out⟩
  · have HC := hid hc
    have hl100 : q.length ≤ 100 := by have := arePt_len hIS; rw [tqL_len] at this; exact this
    have hok : ∀ y ∈ q, ptOk y.2 = true := fun y hy => arePt_all hIS _ (tq_mem hy)
    have N0 := hid (fun W => ref_number_any q.length W (by omega))
    have HI : Hid (∀ (k : Nat) (hk : k < q.length), q[k].2.n = ((q[k].2.n.toNat : Nat) : Int) ∧ q[k].2.n.toNat ≤ 100) := fun k hk => by
      have hx := ptOk_n (hok _ (List.getElem_mem hk))
      omega
    have HNI : Hid (∀ (k : Nat) (hk : k < q.length) W, Calls Try.prog 55 #[.int .u64 ((q[k].2.n.toNat : Nat) : Int)] W fun e w' => e = .returned (.string ⟨(put q[k].2.n.toNat).toArray⟩) ∧ Below W.heap.size W w') := fun k hk W => ref_number_any _ W (by have := (HI.out k hk).2; omega)
    have HPT : Hid (∀ (k : Nat) (hk : k < q.length) W, Below w.heap.size w W → Calls Try.prog 56 #[q[k].1] W fun e w' => e = .returned (.string ⟨(pcsB q[k].2.ps).toArray⟩) ∧ Below W.heap.size W w') := fun k hk W hW => by
      obtain ⟨_, _, _, _, _, _, _, _, hp⟩ := hc k hk
      have h1 := hok _ (List.getElem_mem hk)
      exact rtold_any q[k].1 q[k].2.ps W (hp.next hW) (ptOk_pcs h1) (ptOk_b h1).2.2.1
    have HTX : Hid (∀ (k : Nat) (hk : k < q.length) W, Calls Try.prog 57 #[.string q[k].2.sum] W fun e w' => e = .returned (.string ⟨(ptx q[k].2.sum).toArray⟩) ∧ Below W.heap.size W w') := fun k hk W => ref_text_any _ W (Nat.le_trans (Nat.le_of_eq (ptOk_b (hok _ (List.getElem_mem hk))).2.2.2) (by decide))
    have HT : Hid (∀ (k : Nat) (hk : k < q.length), put q.length ++ (tqL (q.take (k + 1))).flatMap ptB = (put q.length ++ (tqL (q.take k)).flatMap ptB) ++ put q[k].2.n.toNat ++ pcsB q[k].2.ps ++ ptx q[k].2.sum) := fun k hk => by
      have e1 : tqL (q.take (k + 1)) = tqL (q.take k) ++ [q[k].2] := by unfold tqL; rw [List.take_succ_eq_append_getElem hk, List.map_append]; rfl
      rw [e1, List.flatMap_append]; simp [ptB]
    have HLN : Hid (∀ (k : Nat) (hk : k < q.length), (put q.length ++ (tqL (q.take k)).flatMap ptB).length ≤ 4312810 ∧ (put q[k].2.n.toNat).length ≤ 10 ∧ (pcsB q[k].2.ps).length ≤ 43018 ∧ (ptx q[k].2.sum).length ≤ 100) := fun k hk => by
      have h1 := flatB_len ptB 43128 (tqL (q.take k)) (fun x hx => by
        obtain ⟨y, hy, rfl⟩ := List.mem_map.1 hx
        exact ptB_len (hok y (List.mem_of_mem_take hy)))
      have h2 := (put_len q.length).2
      have h3 : (tqL (q.take k)).length ≤ 100 := by rw [tqL_len]; simp; omega
      have h4 := ptB_lens (hok _ (List.getElem_mem hk))
      rw [List.length_append]
      omega
    have HZ : Hid (put q.length ++ (tqL (q.take q.length)).flatMap ptB = tsB (tqL q)) := by show _ = _; rw [List.take_length]; unfold tsB; rw [tqL_len]
    have hwl : IntKind.u64.wrap (q.length : Int) = (q.length : Int) := by rw [IntKind.wrap_u64]; omega
    rw [hIS] at IC HTE HTT
    have h1 := HTE.out
    have h2 := HTT.out
    simp only [if_true] at h1 h2
    rw [h1, h2]
    generalize tsB (tqL q) = R at *
    clear HTE HTT h1 h2 hIS hc hv hok hz
    go_enter Try.func25, Try.ntmps25
    go_wp2_with fail
    refine IC.out.mono ?_
    rintro e w0 ⟨rfl, b0⟩
    have BW := hid b0
    clear IC b0
    go_wp2_with fail
    refine (N0.out _).mono ?_
    rintro e w1 ⟨rfl, b1⟩
    have B1 := hid (below_on BW.out b1)
    clear b1 N0 BW hwl
    go_wp2
    go_loopw [4, 5] (fun t i wr => ∃ (k : Nat) (A : List UInt8), k ≤ q.length ∧ t = .string ⟨A.toArray⟩ ∧ i = .int .i64 (k : Int) ∧ Hid (A = put q.length ++ (tqL (q.take k)).flatMap ptB) ∧ Hid (Below w.heap.size w wr)) (fun _ i _ => q.length - (intOf i).toNat)
    case atStart => exact ⟨0, put q.length, Nat.zero_le _, rfl, rfl, by show _ = _; simp [tqL], B1⟩
    case round =>
      clear B1
      obtain ⟨k, A, hk, rfl, rfl, HA, HB⟩ := hrel
      by_cases hlt : k < q.length
      · have hk1 : (k : Int) < (q.length : Int) := by omega
        have hk0 : (0 : Int) ≤ (k : Int) := by omega
        have hwk : wrap64 ((k : Int) + 1) = ((k + 1 : Nat) : Int) := by rw [IntWalk.wrap64_in _ (by omega)]; omega
        obtain ⟨b, off, rfl, hb, c0, c1, c2, c3, hp⟩ := HC.out k hlt
        have HCE : Hid (∀ W, Below w.heap.size w W → W.cell? ⟨b, off + k * 4, none⟩ = some (.int .i64 q[k].2.n) ∧ W.cell? ⟨b, off + k * 4 + 1, none⟩ = some (.int .i64 q[k].2.sz) ∧ W.cell? ⟨b, off + k * 4 + 2, none⟩ = some (.string q[k].2.sum) ∧ W.cell? ⟨b, off + k * 4 + 3, none⟩ = some q[k].1) := fun W hW => ⟨(hW.cell hb).trans c0, (hW.cell hb).trans c1, (hW.cell hb).trans c2, (hW.cell hb).trans c3⟩
        have NI := hid (HNI.out k hlt)
        have PT := hid (HPT.out k hlt)
        have TX := hid (HTX.out k hlt)
        have HTK := hid (HT.out k hlt)
        have HLL := HLN.out k hlt
        have HII := HI.out k hlt
        have HLT := hid hlt
        have hpf := hp.sl
        rw [← HA.out] at HTK HLL
        clear HC HNI HPT HTX HT HLN HI HZ HA c0 c1 c2 c3 hp hb
        generalize q[k] = y at *
        clear hk hlt
        obtain ⟨pv, id, sz, sum, ps⟩ := y
        simp only at *
        obtain ⟨ad2, cap2, rfl⟩ := hpf
        obtain ⟨hi1, hi2⟩ := HII
        generalize hn : id.toNat = N at *
        subst hi1
        clear hn
        have hwu : IntKind.u64.wrap (N : Int) = (N : Int) := by rw [IntKind.wrap_u64]; omega
        generalize ps.length = pn at *
        generalize put N = X1 at *
        generalize pcsB ps = X2 at *
        generalize ptx sum = X3 at *
        have q1 := fun W => add_ls A X1 W (by omega)
        have q2 := fun W => add_ls (A ++ X1) X2 W (by rw [List.length_append]; omega)
        have q3 := fun W => add_ls (A ++ X1 ++ X2) X3 W (by rw [List.length_append, List.length_append]; omega)
        have HY : Hid (put q.length ++ (tqL (q.take (k + 1))).flatMap ptB = A ++ X1 ++ X2 ++ X3) := HTK.out
        clear HTK HLL
        generalize A ++ X1 ++ X2 ++ X3 = Y3 at *
        generalize A ++ X1 ++ X2 = Y2 at *
        generalize A ++ X1 = Y1 at *
        have ZC0 := HCE.out _ HB.out.drew
        have NZ : Hid (∀ W, Below w.heap.size w W → Calls Try.prog 55 #[.int .u64 (N : Int)] W fun e w' => e = .returned (.string ⟨X1.toArray⟩) ∧ (w'.cell? ⟨b, off + k * 4, none⟩ = some (.int .i64 (N : Int)) ∧ w'.cell? ⟨b, off + k * 4 + 1, none⟩ = some (.int .i64 sz) ∧ w'.cell? ⟨b, off + k * 4 + 2, none⟩ = some (.string sum) ∧ w'.cell? ⟨b, off + k * 4 + 3, none⟩ = some (.slice ad2 pn cap2)) ∧ Hid (Below w.heap.size w w')) := fun W h => (NI.out W).mono fun e w' ⟨he, hb⟩ => ⟨he, HCE.out _ (below_on h hb), below_on h hb⟩
        have PZ : Hid (∀ W, Below w.heap.size w W → Calls Try.prog 56 #[.slice ad2 pn cap2] W fun e w' => e = .returned (.string ⟨X2.toArray⟩) ∧ (w'.cell? ⟨b, off + k * 4, none⟩ = some (.int .i64 (N : Int)) ∧ w'.cell? ⟨b, off + k * 4 + 1, none⟩ = some (.int .i64 sz) ∧ w'.cell? ⟨b, off + k * 4 + 2, none⟩ = some (.string sum) ∧ w'.cell? ⟨b, off + k * 4 + 3, none⟩ = some (.slice ad2 pn cap2)) ∧ Hid (Below w.heap.size w w')) := fun W h => (PT.out W h).mono fun e w' ⟨he, hb⟩ => ⟨he, HCE.out _ (below_on h hb), below_on h hb⟩
        have TZ : Hid (∀ W, Below w.heap.size w W → Calls Try.prog 57 #[.string sum] W fun e w' => e = .returned (.string ⟨X3.toArray⟩) ∧ (w'.cell? ⟨b, off + k * 4, none⟩ = some (.int .i64 (N : Int)) ∧ w'.cell? ⟨b, off + k * 4 + 1, none⟩ = some (.int .i64 sz) ∧ w'.cell? ⟨b, off + k * 4 + 2, none⟩ = some (.string sum) ∧ w'.cell? ⟨b, off + k * 4 + 3, none⟩ = some (.slice ad2 pn cap2)) ∧ Hid (Below w.heap.size w w')) := fun W h => (TX.out W).mono fun e w' ⟨he, hb⟩ => ⟨he, HCE.out _ (below_on h hb), below_on h hb⟩
        have HBD := hid HB.out.drew
        clear NI PT TX HCE HB
        go_wp2
        refine wp_region_held_drew (S := (fun w' => w'.cell? ⟨b, off + k * 4, none⟩ = some (.int .i64 (N : Int)) ∧ w'.cell? ⟨b, off + k * 4 + 1, none⟩ = some (.int .i64 sz) ∧ w'.cell? ⟨b, off + k * 4 + 2, none⟩ = some (.string sum) ∧ w'.cell? ⟨b, off + k * 4 + 3, none⟩ = some (.slice ad2 pn cap2))) (by kernel_rfl) ZC0 (fun hHeld => ?_)
        refine wpAnyH_take (i := 0) (v := ?vv89) rfl (by kernel_rfl) (by kernel_rfl) (by kernel_rfl) (fun _ _ _ h => h) (Or.inl ⟨by rfl, ?hy89⟩) (by assumption) ?rest89
        case hy89 => (intro w hSw; (try dsimp only at hSw); go_simp; first | done | with_reducible rfl)
        try simp only [Act.put, List.getElem_toArray, List.getElem_cons_succ, List.getElem_cons_zero, List.setIfInBounds_toArray, List.set_cons_zero, List.set_cons_succ]
        refine wpAnyH_take (i := 1) (v := ?vv90) rfl (by kernel_rfl) (by kernel_rfl) (by kernel_rfl) (fun _ _ _ h => h) (Or.inl ⟨by rfl, ?hy90⟩) (by assumption) ?rest90
        case hy90 => (intro w hSw; (try dsimp only at hSw); go_simp; first | done | with_reducible rfl)
        try simp only [Act.put, List.getElem_toArray, List.getElem_cons_succ, List.getElem_cons_zero, List.setIfInBounds_toArray, List.set_cons_zero, List.set_cons_succ]
        refine wpAnyH_take (i := 2) (v := ?vv91) rfl (by kernel_rfl) (by kernel_rfl) (by kernel_rfl) (fun _ _ _ h => h) (Or.inl ⟨by rfl, ?hy91⟩) (by assumption) ?rest91
        case hy91 => (intro w hSw; (try dsimp only at hSw); go_simp; first | done | with_reducible rfl)
        try simp only [Act.put, List.getElem_toArray, List.getElem_cons_succ, List.getElem_cons_zero, List.setIfInBounds_toArray, List.set_cons_zero, List.set_cons_succ]
        refine wpAnyH_take (i := 3) (v := ?vv92) rfl (by kernel_rfl) (by kernel_rfl) (by kernel_rfl) (fun _ _ _ h => h) (Or.inl ⟨by rfl, ?hy92⟩) (by assumption) ?rest92
        case hy92 => (intro w hSw; (try dsimp only at hSw); go_simp; first | done | with_reducible rfl)
        try simp only [Act.put, List.getElem_toArray, List.getElem_cons_succ, List.getElem_cons_zero, List.setIfInBounds_toArray, List.set_cons_zero, List.set_cons_succ]
        refine wpAnyH_take (i := 4) (v := ?vv93) rfl (by kernel_rfl) (by kernel_rfl) (by kernel_rfl) (fun _ _ _ h => h) (Or.inl ⟨by rfl, ?hy93⟩) (by assumption) ?rest93
        case hy93 => (intro w hSw; (try dsimp only at hSw); go_simp; first | done | with_reducible rfl)
        try simp only [Act.put, List.getElem_toArray, List.getElem_cons_succ, List.getElem_cons_zero, List.setIfInBounds_toArray, List.set_cons_zero, List.set_cons_succ]
        refine wpAnyH_take (i := 5) (v := ?vv94) rfl (by kernel_rfl) (by kernel_rfl) (by kernel_rfl) (fun _ _ _ h => h) (Or.inl ⟨by rfl, ?hy94⟩) (by assumption) ?rest94
        case hy94 => (intro w hSw; (try dsimp only at hSw); go_simp; first | done | with_reducible rfl)
        try simp only [Act.put, List.getElem_toArray, List.getElem_cons_succ, List.getElem_cons_zero, List.setIfInBounds_toArray, List.set_cons_zero, List.set_cons_succ]
        refine wpAnyH_take (i := 6) (v := ?vv95) rfl (by kernel_rfl) (by kernel_rfl) (by kernel_rfl) (fun _ _ _ h => h) (Or.inl ⟨by rfl, ?hy95⟩) (by assumption) ?rest95
        case hy95 => (intro w hSw; (try dsimp only at hSw); go_simp; first | done | with_reducible rfl)
        try simp only [Act.put, List.getElem_toArray, List.getElem_cons_succ, List.getElem_cons_zero, List.setIfInBounds_toArray, List.set_cons_zero, List.set_cons_succ]
        refine wpAnyH_take (i := 9) (v := ?vv96) rfl (by kernel_rfl) (by kernel_rfl) (by kernel_rfl) (fun _ _ _ h => h) (Or.inl ⟨by rfl, ?hy96⟩) (by assumption) ?rest96
        case hy96 => (intro w hSw; (try dsimp only at hSw); go_simp; first | done | with_reducible rfl)
        try simp only [Act.put, List.getElem_toArray, List.getElem_cons_succ, List.getElem_cons_zero, List.setIfInBounds_toArray, List.set_cons_zero, List.set_cons_succ]
        refine wpAnyH_take (i := 10) (v := ?vv97) rfl (by kernel_rfl) (by kernel_rfl) (by kernel_rfl) (fun _ _ _ h => h) (Or.inl ⟨by rfl, ?hy97⟩) (by assumption) ?rest97
        case hy97 => (intro w hSw; (try dsimp only at hSw); go_simp; first | done | with_reducible rfl)
        try simp only [Act.put, List.getElem_toArray, List.getElem_cons_succ, List.getElem_cons_zero, List.setIfInBounds_toArray, List.set_cons_zero, List.set_cons_succ]
        refine wpAnyH_take (i := 11) (v := ?vv98) rfl (by kernel_rfl) (by kernel_rfl) (by kernel_rfl) (fun _ _ _ h => h) (Or.inl ⟨by rfl, ?hy98⟩) (by assumption) ?rest98
        case hy98 => (intro w hSw; (try dsimp only at hSw); go_simp; first | done | with_reducible rfl)
        try simp only [Act.put, List.getElem_toArray, List.getElem_cons_succ, List.getElem_cons_zero, List.setIfInBounds_toArray, List.set_cons_zero, List.set_cons_succ]
        refine wpAnyH_take (i := 12) (v := ?vv99) rfl (by kernel_rfl) (by kernel_rfl) (by kernel_rfl) (fun _ _ _ h => h) (Or.inl ⟨by rfl, ?hy99⟩) (by assumption) ?rest99
        case hy99 => (intro w hSw; (try dsimp only at hSw); go_simp; first | done | with_reducible rfl)
        try simp only [Act.put, List.getElem_toArray, List.getElem_cons_succ, List.getElem_cons_zero, List.setIfInBounds_toArray, List.set_cons_zero, List.set_cons_succ]
        refine wpAnyH_take (i := 13) (v := ?vv100) rfl (by kernel_rfl) (by kernel_rfl) (by kernel_rfl) (fun _ _ _ h => h) (Or.inl ⟨by rfl, ?hy100⟩) (by assumption) ?rest100
        case hy100 => (intro w hSw; (try dsimp only at hSw); go_simp; first | done | with_reducible rfl)
        try simp only [Act.put, List.getElem_toArray, List.getElem_cons_succ, List.getElem_cons_zero, List.setIfInBounds_toArray, List.set_cons_zero, List.set_cons_succ]
        refine wpAnyH_take (i := 16) (v := ?vv101) rfl (by kernel_rfl) (by kernel_rfl) (by kernel_rfl) (fun _ _ _ h => h) (Or.inl ⟨by rfl, ?hy101⟩) (by assumption) ?rest101
        case hy101 => (intro w hSw; (try dsimp only at hSw); go_simp; first | done | with_reducible rfl)
        try simp only [Act.put, List.getElem_toArray, List.getElem_cons_succ, List.getElem_cons_zero, List.setIfInBounds_toArray, List.set_cons_zero, List.set_cons_succ]
        refine wpAnyH_take (i := 17) (v := ?vv102) rfl (by kernel_rfl) (by kernel_rfl) (by kernel_rfl) (fun _ _ _ h => h) (Or.inl ⟨by rfl, ?hy102⟩) (by assumption) ?rest102
        case hy102 => (intro w hSw; (try dsimp only at hSw); go_simp; first | done | with_reducible rfl)
        try simp only [Act.put, List.getElem_toArray, List.getElem_cons_succ, List.getElem_cons_zero, List.setIfInBounds_toArray, List.set_cons_zero, List.set_cons_succ]
        refine wpAnyH_take (i := 18) (v := ?vv103) rfl (by kernel_rfl) (by kernel_rfl) (by kernel_rfl) (fun _ _ _ h => h) (Or.inl ⟨by rfl, ?hy103⟩) (by assumption) ?rest103
        case hy103 => (intro w hSw; (try dsimp only at hSw); go_simp; first | done | with_reducible rfl)
        try simp only [Act.put, List.getElem_toArray, List.getElem_cons_succ, List.getElem_cons_zero, List.setIfInBounds_toArray, List.set_cons_zero, List.set_cons_succ]
        refine wpAnyH_take (i := 19) (v := ?vv104) rfl (by kernel_rfl) (by kernel_rfl) (by kernel_rfl) (fun _ _ _ h => h) (Or.inl ⟨by rfl, ?hy104⟩) (by assumption) ?rest104
        case hy104 => (intro w hSw; (try dsimp only at hSw); go_simp; first | done | with_reducible rfl)
        try simp only [Act.put, List.getElem_toArray, List.getElem_cons_succ, List.getElem_cons_zero, List.setIfInBounds_toArray, List.set_cons_zero, List.set_cons_succ]
        refine wpAnyH_take (i := 20) (v := ?vv105) rfl (by kernel_rfl) (by kernel_rfl) (by kernel_rfl) (fun _ _ _ h => h) (Or.inl ⟨by rfl, ?hy105⟩) (by assumption) ?rest105
        case hy105 => (intro w hSw; (try dsimp only at hSw); go_simp; first | done | with_reducible rfl)
        try simp only [Act.put, List.getElem_toArray, List.getElem_cons_succ, List.getElem_cons_zero, List.setIfInBounds_toArray, List.set_cons_zero, List.set_cons_succ]
        refine wpAnyH_ready (rs := [7]) (by kernel_rfl) (by simp) ?_
        refine AllReadyH.cons rfl (fun K hK => ?_) AllReadyH.nil
        go_simp
        refine (NZ.out _ HBD.out).mono ?_
        rintro e w1 ⟨rfl, Z1, K1⟩
        go_wp2_with fail
        refine hK.out _ _ Z1 (fun hHeld => ?_)
        clear hK K
        try simp only [Act.put, List.getElem_toArray, List.getElem_cons_succ, List.getElem_cons_zero, List.setIfInBounds_toArray, List.set_cons_zero, List.set_cons_succ]
        refine wpAnyH_take (i := 8) (v := ?vv106) rfl (by kernel_rfl) (by kernel_rfl) (by kernel_rfl) (fun _ _ _ h => h) (Or.inl ⟨by rfl, ?hy106⟩) (by assumption) ?rest106
        case hy106 => (intro w hSw; (try dsimp only at hSw); go_simp; first | done | with_reducible rfl)
        try simp only [Act.put, List.getElem_toArray, List.getElem_cons_succ, List.getElem_cons_zero, List.setIfInBounds_toArray, List.set_cons_zero, List.set_cons_succ]
        refine wpAnyH_ready (rs := [14]) (by kernel_rfl) (by simp) ?_
        refine AllReadyH.cons rfl (fun K hK => ?_) AllReadyH.nil
        go_simp
        refine (PZ.out _ K1.out).mono ?_
        rintro e w2 ⟨rfl, Z2, K2⟩
        go_wp2_with fail
        refine hK.out _ _ Z2 (fun hHeld => ?_)
        clear hK K
        try simp only [Act.put, List.getElem_toArray, List.getElem_cons_succ, List.getElem_cons_zero, List.setIfInBounds_toArray, List.set_cons_zero, List.set_cons_succ]
        refine wpAnyH_take (i := 15) (v := ?vv107) rfl (by kernel_rfl) (by kernel_rfl) (by kernel_rfl) (fun _ _ _ h => h) (Or.inl ⟨by rfl, ?hy107⟩) (by assumption) ?rest107
        case hy107 => (intro w hSw; (try dsimp only at hSw); go_simp; first | done | with_reducible rfl)
        try simp only [Act.put, List.getElem_toArray, List.getElem_cons_succ, List.getElem_cons_zero, List.setIfInBounds_toArray, List.set_cons_zero, List.set_cons_succ]
        refine wpAnyH_ready (rs := [21]) (by kernel_rfl) (by simp) ?_
        refine AllReadyH.cons rfl (fun K hK => ?_) AllReadyH.nil
        go_simp
        refine (TZ.out _ K2.out).mono ?_
        rintro e w3 ⟨rfl, Z3, K3⟩
        go_wp2_with fail
        refine hK.out _ _ Z3 (fun hHeld => ?_)
        clear hK K
        try simp only [Act.put, List.getElem_toArray, List.getElem_cons_succ, List.getElem_cons_zero, List.setIfInBounds_toArray, List.set_cons_zero, List.set_cons_succ]
        refine wpAnyH_take (i := 22) (v := ?vv108) rfl (by kernel_rfl) (by kernel_rfl) (by kernel_rfl) (fun _ _ _ h => h) (Or.inl ⟨by rfl, ?hy108⟩) (by assumption) ?rest108
        case hy108 => (intro w hSw; (try dsimp only at hSw); go_simp; first | done | with_reducible rfl)
        try simp only [Act.put, List.getElem_toArray, List.getElem_cons_succ, List.getElem_cons_zero, List.setIfInBounds_toArray, List.set_cons_zero, List.set_cons_succ]
        refine wpAnyH_take (i := 23) (v := ?vv109) rfl (by kernel_rfl) (by kernel_rfl) (by kernel_rfl) (fun _ _ _ h => h) (Or.inl ⟨by rfl, ?hy109⟩) (by assumption) ?rest109
        case hy109 => (intro w hSw; (try dsimp only at hSw); go_simp; first | done | with_reducible rfl)
        try simp only [Act.put, List.getElem_toArray, List.getElem_cons_succ, List.getElem_cons_zero, List.setIfInBounds_toArray, List.set_cons_zero, List.set_cons_succ]
        refine wpAnyH_done (by kernel_rfl) ?_ _
        clear hHeld ZC0 HBD NZ PZ TZ Z1 Z2 Z3 K1 K2 q1 q2 q3
        go_wp2
        exact ⟨⟨k + 1, Y3, HLT.out, rfl, by first | rw [hwk] | rfl | simp, hid HY.out.symm, K3⟩, by (try rw [hwk]); have := HLT.out; simp [intOf]; omega⟩
      · have hke : k = q.length := by omega
        have hd : decide ((k : Int) < (q.length : Int)) = false := decide_eq_false (by omega)
        have hd2 : decide (k < q.length) = false := decide_eq_false hlt
        have HF : A = R := by rw [HA.out, hke, HZ.out]
        subst HF
        clear HC HNI HPT HTX HT HLN HI HZ HA hke hlt hk
        go_wp2
        go_ret2
        exact ⟨rfl, HB.out⟩
end Go.Proofs.Ytbiapepalkdkdab
