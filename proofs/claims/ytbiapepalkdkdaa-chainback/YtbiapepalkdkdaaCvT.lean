/- Pieces', versions' and chains' texts: the program. -/
import Derived.Test.YtbiapepalkdkdaaTxM
import Derived.Test.YtbiapepalkdkdaaJoined08
import Derived.Test.YtbiapepalkdkdaaLayB
import Derived.Test.YtbiapepalkdkdaaJoined01
namespace Go.Proofs.Ytbiapepalkdkdaa
open Go.RowKit Go.Maps
set_option linter.unusedVariables false
set_option linter.unusedSimpArgs false

def pcB (p : Pc) : List UInt8 := ptx p.id ++ put p.sz.toNat
def pcsB (l : List Pc) : List UInt8 := put l.length ++ l.flatMap pcB
def vnB (v : Vn) : List UInt8 := if v.ma = true then put v.id.toNat ++ put 1 else put v.id.toNat ++ put 0 ++ pcsB v.ps ++ ptx v.sum
def chB (l : List Vn) : List UInt8 := put l.length ++ l.flatMap vnB
def chT (l : List Vn) : ByteArray := if isCh l = true then ⟨(chB l).toArray⟩ else ⟨#[]⟩
def chTE (l : List Vn) : Int := if isCh l = true then 0 else 1
theorem pcB_len {p : Pc} (h : p.id.size ≤ 64) : (pcB p).length ≤ 84 := by
  unfold pcB
  rw [List.length_append, ptx_len]
  have := (put_len p.id.size).2
  have := (put_len p.sz.toNat).2
  omega
theorem pcsB_len {l : List Pc} (h : ∀ p ∈ l, pcOk p = true) (hl : l.length ≤ 512) : (pcsB l).length ≤ 43018 := by
  unfold pcsB
  have h1 := flatB_len pcB 84 l (fun p hp => pcB_len (by have := (pcOk_id (h p hp)).1; omega))
  have := (put_len l.length).2
  rw [List.length_append]
  omega
theorem vnB_len {v : Vn} (h : vnOk v = true) : (vnB v).length ≤ 43122 := by
  have h1 := vnOk_ps h
  have h2 := vnOk_sum h
  have h3 := pcsB_len h1.2.1 h1.1
  have h4 := (put_len v.id.toNat).2
  have h5 := (put_len 0).2
  have h6 := (put_len 1).2
  have h7 := ptx_len v.sum
  have h8 := (put_len v.sum.size).2
  unfold vnB
  split
  · rw [List.length_append]; omega
  · rw [List.length_append, List.length_append, List.length_append]; omega
theorem chB_len {l : List Vn} (h : isCh l = true) : (chB l).length ≤ 1379914 := by
  unfold chB
  have h1 := flatB_len vnB 43122 l (fun v hv => vnB_len (isCh_all h v hv))
  have h2 := isCh_len h
  have := (put_len l.length).2
  rw [List.length_append]
  omega
set_option maxRecDepth 100000 in
set_option maxHeartbeats 2000000 in
theorem ptext_any (v : Value) (l : List Pc) (w : World) (hv : PcI w v l) (ha : ∀ p ∈ l, pcOk p = true) (hl : l.length ≤ 512) : Calls Try.prog 66 #[v] w fun e w' => e = .returned (.string ⟨(pcsB l).toArray⟩) ∧ Below w.heap.size w w' := by
  obtain ⟨ad, cap, rfl, hc⟩ := hv.form
  have HC := hid hc
  have N0 := hid (fun W => number_any l.length W (by omega))
  have HNM : Hid (∀ (k : Nat) (hk : k < l.length) W, Calls Try.prog 46 #[.int .u64 ((l[k].sz.toNat : Nat) : Int)] W fun e w' => e = .returned (.string ⟨(put l[k].sz.toNat).toArray⟩) ∧ Below W.heap.size W w') := fun k hk W => number_any _ W (by have := pcOk_id (ha _ (List.getElem_mem hk)); omega)
  have HTX : Hid (∀ (k : Nat) (hk : k < l.length) W, Calls Try.prog 67 #[.string l[k].id] W fun e w' => e = .returned (.string ⟨(ptx l[k].id).toArray⟩) ∧ Below W.heap.size W w') := fun k hk W => text_any _ W (Nat.le_trans (Nat.le_of_eq (pcOk_id (ha _ (List.getElem_mem hk))).1) (by decide))
  have HSZ : Hid (∀ (k : Nat) (hk : k < l.length), l[k].sz = ((l[k].sz.toNat : Nat) : Int) ∧ l[k].sz.toNat ≤ 4096) := fun k hk => by have := pcOk_id (ha _ (List.getElem_mem hk)); omega
  have HT : Hid (∀ (k : Nat) (hk : k < l.length), put l.length ++ (l.take (k + 1)).flatMap pcB = (put l.length ++ (l.take k).flatMap pcB) ++ ptx l[k].id ++ put l[k].sz.toNat) := fun k hk => by rw [flatB_take pcB l k hk]; unfold pcB; simp
  have HLN : Hid (∀ (k : Nat) (hk : k < l.length), (put l.length ++ (l.take k).flatMap pcB).length ≤ 50000 ∧ (ptx l[k].id).length ≤ 74 ∧ (put l[k].sz.toNat).length ≤ 10) := fun k hk => by
    have h1 := flatB_len pcB 84 (l.take k) (fun p hp => pcB_len (by have := (pcOk_id (ha p (List.mem_of_mem_take hp))).1; omega))
    have h2 := (put_len l.length).2
    have h3 : (l.take k).length ≤ 512 := by simp; omega
    have h4 := ptx_len l[k].id
    have h5 := (put_len l[k].id.size).2
    have h6 := (pcOk_id (ha _ (List.getElem_mem hk))).1
    have h7 := (put_len l[k].sz.toNat).2
    rw [List.length_append]
    omega
  have HPL := hid (put_len l.length).2
  have HZ : Hid (put l.length ++ (l.take l.length).flatMap pcB = pcsB l) := by show _ = _; rw [List.take_length]; rfl
  have B0 := hid (BS.new w)
  have hwl : IntKind.u64.wrap (l.length : Int) = (l.length : Int) := by rw [IntKind.wrap_u64]; omega
  generalize pcsB l = R at *
  clear hc hv ha
  go_enter Try.func66, Try.ntmps66
  go_wp2_with fail
  refine (N0.out _).mono ?_
  rintro e w1 ⟨rfl, b1⟩
  have B1 := hid (B0.out.next b1)
  have W1 := hid (B1.out.wr (put l.length) (by have := HPL.out; simp; omega))
  clear b1 N0 B0
  go_wp2_with fail
  refine W1.out.mono ?_
  rintro e w2 ⟨n2, rfl, B2, -⟩
  clear W1 B1 hwl
  go_wp2
  go_loopw [13] (fun i wr => ∃ (k : Nat), k ≤ l.length ∧ i = .int .i64 (k : Int) ∧ Hid (BS w (put l.length ++ (l.take k).flatMap pcB) wr)) (fun i _ => l.length - (intOf i).toNat)
  case atStart => exact ⟨0, Nat.zero_le _, rfl, hid (by simpa using B2.out)⟩
  case round =>
    clear B2
    obtain ⟨k, hk, rfl, HB⟩ := hrel
    by_cases hlt : k < l.length
    · have hk1 : (k : Int) < (l.length : Int) := by omega
      have hk0 : (0 : Int) ≤ (k : Int) := by omega
      have hwk : wrap64 ((k : Int) + 1) = ((k + 1 : Nat) : Int) := by rw [IntWalk.wrap64_in _ (by omega)]; omega
      obtain ⟨b, off, rfl, hb, c0, c1⟩ := HC.out k hlt
      have d0 := (HB.out.b.cell (p := ⟨b, off + k * 2, none⟩) hb).trans c0
      have d1 := (HB.out.b.cell (p := ⟨b, off + k * 2 + 1, none⟩) hb).trans c1
      have NM := hid (HNM.out k hlt)
      have TX := hid (HTX.out k hlt)
      have HTK := hid (HT.out k hlt)
      obtain ⟨hz1, hz2⟩ := HSZ.out k hlt
      have HLL := hid (HLN.out k hlt)
      have HLT := hid hlt
      have hk5 : (k : Int) < 512 := by omega
      clear HC HNM HTX HT HSZ HLN HZ c0 c1 hb
      generalize l[k] = p at *
      obtain ⟨id, sz⟩ := p
      simp only at *
      generalize hn : sz.toNat = N at *
      subst hz1
      clear hn
      have hwu : IntKind.u64.wrap (N : Int) = (N : Int) := by rw [IntKind.wrap_u64]; omega
      generalize put l.length ++ (l.take k).flatMap pcB = X0 at *
      generalize ptx id = X1 at *
      generalize put N = X2 at *
      have BX := hid (srow wr [.string id, .int .i64 (N : Int)] 72)
      have H1 := hid (HB.out.al (.cells #[.string id, .int .i64 (N : Int)] 72))
      have HNE : Hid (w.heap.size < wr.heap.size) := by
        rcases HB.out.bd with ⟨_, _, h, _⟩ | ⟨_, _, h, _⟩ <;> exact (Array.getElem?_eq_some_iff.1 h).1
      have y0 := BX.out.cellAt (o := 0) rfl
      clear hlt hk HB
      go_wp2_with fail
      refine (TX.out _).mono ?_
      rintro e w3 ⟨rfl, b3⟩
      have H3 := hid (H1.out.next b3)
      have X3 := hid (BX.out.keep (b3.keep (fun _ => False)) (fun h => h))
      have W3 := hid (H3.out.wr X1 (by have := HLL.out; omega))
      clear b3 TX BX H1 y0 d0 d1
      go_wp2_with fail
      refine W3.out.mono ?_
      rintro e w4 ⟨n4, rfl, H4, K4⟩
      have X4 := hid (K4.out _ _ _ (by have := HNE.out; omega) (by decide) X3.out)
      clear W3 K4 X3 H3
      have y1 := X4.out.cellAt (o := 1) rfl
      go_wp2_with fail
      refine (NM.out _).mono ?_
      rintro e w5 ⟨rfl, b5⟩
      have H5 := hid (H4.out.next b5)
      have W5 := hid (H5.out.wr X2 (by have := HLL.out; simp; omega))
      clear b5 NM X4 H4 y1
      go_wp2_with fail
      refine W5.out.mono ?_
      rintro e w6 ⟨n6, rfl, H6, -⟩
      have H7 : Hid (BS w (put l.length ++ (l.take (k + 1)).flatMap pcB) w6) := by have := H6.out; rw [HTK.out]; exact this
      clear W5 H5 H6 HTK HLL hwu
      go_wp2
      exact ⟨⟨k + 1, HLT.out, by first | rw [hwk] | rfl | simp, H7⟩, by (try rw [hwk]); have := HLT.out; simp [intOf]; omega⟩
    · have hke : k = l.length := by omega
      have hd : decide ((k : Int) < (l.length : Int)) = false := decide_eq_false (by omega)
      have hd2 : decide (k < l.length) = false := decide_eq_false hlt
      have HF : Hid (BS w R wr) := by have := HB.out; rw [hke, HZ.out] at this; exact this
      have ST := hid (bld_string w.heap.size w.heap.size R wr HF.out.bd HF.out.b.size)
      clear HC HNM HTX HT HSZ HLN HZ HB hke hlt hk
      go_wp2_with fail
      refine ST.out.mono ?_
      rintro e w5 ⟨rfl, b5⟩
      have B5 := hid (HF.out.b.trans b5)
      clear ST b5 HF
      go_wp2
      go_ret
      exact ⟨rfl, B5.out⟩
set_option maxRecDepth 100000 in
set_option maxHeartbeats 2000000 in
theorem vtext_any (pv : Value) (x : Vn) (w : World) (hp : PcI w pv x.ps) (hx : vnOk x = true) : Calls Try.prog 47 #[vnV (pv, x)] w fun e w' => e = .returned (.string ⟨(vnB x).toArray⟩) ∧ Below w.heap.size w w' := by
  obtain ⟨ad, cap, rfl⟩ := hp.sl
  have h1 := vnOk_ps hx
  have h2 := vnOk_sum hx
  have hid : 1 ≤ x.id ∧ x.id ≤ 1099511627776 := by simp only [vnOk, Bool.and_eq_true, decide_eq_true_eq] at hx; exact hx.1
  have h3 := pcsB_len h1.2.1 h1.1
  have NI := Go.Proofs.Ytbiapepalkdkdaa.hid (fun W => number_any x.id.toNat W (by omega))
  have N0 : Hid (∀ W, Calls Try.prog 46 #[.int .u64 0] W fun e w' => e = .returned (.string ⟨(put 0).toArray⟩) ∧ Below W.heap.size W w') := fun W => number_any 0 W (by omega)
  have N1 : Hid (∀ W, Calls Try.prog 46 #[.int .u64 1] W fun e w' => e = .returned (.string ⟨(put 1).toArray⟩) ∧ Below W.heap.size W w') := fun W => number_any 1 W (by omega)
  have PT : Hid (∀ W, Below w.heap.size w W → Calls Try.prog 66 #[.slice ad x.ps.length cap] W fun e w' => e = .returned (.string ⟨(pcsB x.ps).toArray⟩) ∧ Below W.heap.size W w') := fun W hW => ptext_any _ x.ps W (hp.next hW) h1.2.1 h1.1
  have TX := Go.Proofs.Ytbiapepalkdkdaa.hid (fun W => text_any x.sum W (Nat.le_trans h2 (by decide)))
  have BM := Go.Proofs.Ytbiapepalkdkdaa.hid (Bx.made (Below.refl w.heap.size w) [.int .i64 x.id, .bool x.ma, .int .i64 x.sz, .string x.sum, .slice ad x.ps.length cap] 24)
  have HV : Hid (vnB x = if x.ma = true then put x.id.toNat ++ put 1 else put x.id.toNat ++ put 0 ++ pcsB x.ps ++ ptx x.sum) := rfl
  have hwi : IntKind.u64.wrap x.id = ((x.id.toNat : Nat) : Int) := by rw [IntKind.wrap_u64]; omega
  have l1 := (put_len x.id.toNat).2
  have l2 := (put_len 0).2
  have l3 := (put_len 1).2
  have l4 := ptx_len x.sum
  have l5 := (put_len x.sum.size).2
  have q1 := fun W => add_ls (put x.id.toNat) (put 1) W (by omega)
  have q2 := fun W => add_ls (put x.id.toNat) (put 0) W (by omega)
  have q3 := fun W => add_ls (put x.id.toNat ++ put 0) (pcsB x.ps) W (by rw [List.length_append]; omega)
  have q4 := fun W => add_ls (put x.id.toNat ++ put 0 ++ pcsB x.ps) (ptx x.sum) W (by rw [List.length_append, List.length_append]; omega)
  clear hp hx h1 h2 h3 hid l1 l2 l3 l4 l5
  unfold vnV
  generalize vnB x = R at *
  obtain ⟨id, ma, sz, sum, ps⟩ := x
  simp only at *
  generalize id.toNat = I at *
  generalize put I ++ put 0 ++ pcsB ps ++ ptx sum = R4 at *
  generalize put I ++ put 0 ++ pcsB ps = R3 at *
  generalize put I ++ put 0 = R2 at *
  generalize put I ++ put 1 = R1 at *
  generalize pcsB ps = PB at *
  generalize ptx sum = TB at *
  generalize put I = IB at *
  generalize put 0 = ZB at *
  generalize put 1 = OB at *
  generalize ps.length = pn at *
  have y0 := BM.out.row.cellAt (o := 0) rfl
  go_enter Try.func47, Try.ntmps47
  go_wp2_with fail
  refine (NI.out _).mono ?_
  rintro e w1 ⟨rfl, b1⟩
  have B1 := Go.Proofs.Ytbiapepalkdkdaa.hid (BM.out.next b1)
  clear NI b1 BM y0
  have y1 := B1.out.row.cellAt (o := 1) rfl
  cases ma
  · have hr : R = R4 := HV.out
    subst hr
    have BD := Go.Proofs.Ytbiapepalkdkdaa.hid B1.out.drew
    have YD := Go.Proofs.Ytbiapepalkdkdaa.hid B1.out.drew.may.1
    have NZ : Hid (∀ W, Bx w w.heap.size [.int .i64 id, .bool false, .int .i64 sz, .string sum, .slice ad pn cap] 24 W → Calls Try.prog 46 #[.int .u64 0] W fun e w' => e = .returned (.string ⟨ZB.toArray⟩) ∧ (w'.cell? ⟨w.heap.size, 0, none⟩ = some (.int .i64 id) ∧ w'.cell? ⟨w.heap.size, 1, none⟩ = some (.bool false) ∧ w'.cell? ⟨w.heap.size, 2, none⟩ = some (.int .i64 sz) ∧ w'.cell? ⟨w.heap.size, 3, none⟩ = some (.string sum) ∧ w'.cell? ⟨w.heap.size, 4, none⟩ = some (.slice ad pn cap)) ∧ Hid (Bx w w.heap.size [.int .i64 id, .bool false, .int .i64 sz, .string sum, .slice ad pn cap] 24 w')) := fun W h => (N0.out W).mono fun e w' ⟨he, hb⟩ => ⟨he, (h.next hb).may.1, h.next hb⟩
    have PZ : Hid (∀ W, Bx w w.heap.size [.int .i64 id, .bool false, .int .i64 sz, .string sum, .slice ad pn cap] 24 W → Calls Try.prog 66 #[.slice ad pn cap] W fun e w' => e = .returned (.string ⟨PB.toArray⟩) ∧ (w'.cell? ⟨w.heap.size, 0, none⟩ = some (.int .i64 id) ∧ w'.cell? ⟨w.heap.size, 1, none⟩ = some (.bool false) ∧ w'.cell? ⟨w.heap.size, 2, none⟩ = some (.int .i64 sz) ∧ w'.cell? ⟨w.heap.size, 3, none⟩ = some (.string sum) ∧ w'.cell? ⟨w.heap.size, 4, none⟩ = some (.slice ad pn cap)) ∧ Hid (Bx w w.heap.size [.int .i64 id, .bool false, .int .i64 sz, .string sum, .slice ad pn cap] 24 w')) := fun W h => (PT.out W h.b).mono fun e w' ⟨he, hb⟩ => ⟨he, (h.next hb).may.1, h.next hb⟩
    have TZ : Hid (∀ W, Bx w w.heap.size [.int .i64 id, .bool false, .int .i64 sz, .string sum, .slice ad pn cap] 24 W → Calls Try.prog 67 #[.string sum] W fun e w' => e = .returned (.string ⟨TB.toArray⟩) ∧ (w'.cell? ⟨w.heap.size, 0, none⟩ = some (.int .i64 id) ∧ w'.cell? ⟨w.heap.size, 1, none⟩ = some (.bool false) ∧ w'.cell? ⟨w.heap.size, 2, none⟩ = some (.int .i64 sz) ∧ w'.cell? ⟨w.heap.size, 3, none⟩ = some (.string sum) ∧ w'.cell? ⟨w.heap.size, 4, none⟩ = some (.slice ad pn cap)) ∧ Hid (Bx w w.heap.size [.int .i64 id, .bool false, .int .i64 sz, .string sum, .slice ad pn cap] 24 w')) := fun W h => (TX.out W).mono fun e w' ⟨he, hb⟩ => ⟨he, (h.next hb).may.1, h.next hb⟩
    clear HV N0 N1 PT TX B1
    go_wp2
    go_region_held3 (fun w' => w'.cell? ⟨w.heap.size, 0, none⟩ = some (.int .i64 id) ∧ w'.cell? ⟨w.heap.size, 1, none⟩ = some (.bool false) ∧ w'.cell? ⟨w.heap.size, 2, none⟩ = some (.int .i64 sz) ∧ w'.cell? ⟨w.heap.size, 3, none⟩ = some (.string sum) ∧ w'.cell? ⟨w.heap.size, 4, none⟩ = some (.slice ad pn cap)) (first | with_reducible exact YD.out | with_reducible assumption) (first | (go_at_call 46; (first | with_reducible (refine (NZ.out _ BT.out).mono ?_) | with_reducible (refine (NZ.out _ BP.out).mono ?_) | with_reducible (refine (NZ.out _ BD.out).mono ?_)); rintro e wn ⟨rfl, Zn, BN⟩) | (go_at_call 66; (first | with_reducible (refine (PZ.out _ BT.out).mono ?_) | with_reducible (refine (PZ.out _ BN.out).mono ?_) | with_reducible (refine (PZ.out _ BD.out).mono ?_)); rintro e wp ⟨rfl, Zp, BP⟩) | (go_at_call 67; (first | with_reducible (refine (TZ.out _ BP.out).mono ?_) | with_reducible (refine (TZ.out _ BN.out).mono ?_) | with_reducible (refine (TZ.out _ BD.out).mono ?_)); rintro e wt ⟨rfl, Zt, BT⟩))
    all_goals
      go_wp2
      go_ret
      first | exact ⟨rfl, BT.out.b⟩ | exact ⟨rfl, BP.out.b⟩ | exact ⟨rfl, BN.out.b⟩
  · have hr : R = R1 := HV.out
    subst hr
    clear HV N0 PT TX
    go_wp2_with fail
    refine (N1.out _).mono ?_
    rintro e w2 ⟨rfl, b2⟩
    have B2 := Go.Proofs.Ytbiapepalkdkdaa.hid (B1.out.next b2)
    clear b2 N1 B1 y1
    go_wp2
    go_ret
    exact ⟨rfl, B2.out.b⟩
set_option maxRecDepth 100000 in
set_option maxHeartbeats 2000000 in
theorem vencode_any (v : Value) (q : List (Value × Vn)) (w : World) (hv : VnI w v q) : Calls Try.prog 30 #[v] w fun e w' => e = .returned (.tuple #[.string (chT (vqL q)), .int .i64 (chTE (vqL q))]) ∧ Below w.heap.size w w' := by
  obtain ⟨ad, cap, rfl, hc⟩ := hv.form
  have IC := hid (isChain_any (.slice ad q.length cap) q w hv)
  have HTE : Hid (chTE (vqL q) = if isCh (vqL q) = true then 0 else 1) := rfl
  have HTT : Hid (chT (vqL q) = if isCh (vqL q) = true then ⟨(chB (vqL q)).toArray⟩ else ⟨#[]⟩) := rfl
  cases hIS : isCh (vqL q)
  · rw [hIS] at IC HTE HTT
    have h1 := HTE.out
    have h2 := HTT.out
    simp only [Bool.false_eq_true, if_false] at h1 h2
    rw [h1, h2]
    clear HTE HTT h1 h2 hIS hc hv
    go_enter Try.func30, Try.ntmps30
    go_wp2_with fail
    refine IC.out.mono ?_
    rintro e w1 ⟨rfl, b1⟩
    have B1 := hid b1
    clear IC b1
    go_wp2
    go_ret2
    exact ⟨rfl, B1.out⟩
  · have HC := hid hc
    have hl32 : q.length ≤ 32 := by have := isCh_len hIS; rw [vqL_len] at this; exact this
    have hok : ∀ y ∈ q, vnOk y.2 = true := fun y hy => isCh_all hIS _ (vq_mem hy)
    have N0 := hid (fun W => number_any q.length W (by omega))
    have HVT : Hid (∀ (k : Nat) (hk : k < q.length) W, Below w.heap.size w W → Calls Try.prog 47 #[vnV q[k]] W fun e w' => e = .returned (.string ⟨(vnB q[k].2).toArray⟩) ∧ Below W.heap.size W w') := fun k hk W hW => by
      obtain ⟨_, _, _, _, _, _, _, _, _, hp⟩ := hc k hk
      exact vtext_any q[k].1 q[k].2 W (hp.next hW) (hok _ (List.getElem_mem hk))
    have HT : Hid (∀ (k : Nat) (hk : k < q.length), put q.length ++ (vqL (q.take (k + 1))).flatMap vnB = (put q.length ++ (vqL (q.take k)).flatMap vnB) ++ vnB q[k].2) := fun k hk => by
      have e1 : vqL (q.take (k + 1)) = vqL (q.take k) ++ [q[k].2] := by unfold vqL; rw [List.take_succ_eq_append_getElem hk, List.map_append]; rfl
      rw [e1, List.flatMap_append]; simp
    have HLN : Hid (∀ (k : Nat) (hk : k < q.length), (put q.length ++ (vqL (q.take k)).flatMap vnB).length ≤ 1400000 ∧ (vnB q[k].2).length ≤ 43122) := fun k hk => by
      have h1 := flatB_len vnB 43122 (vqL (q.take k)) (fun x hx => by
        obtain ⟨y, hy, rfl⟩ := List.mem_map.1 hx
        exact vnB_len (hok y (List.mem_of_mem_take hy)))
      have h2 := (put_len q.length).2
      have h3 : (vqL (q.take k)).length ≤ 32 := by rw [vqL_len]; simp; omega
      have h4 := vnB_len (hok _ (List.getElem_mem hk))
      rw [List.length_append]
      omega
    have HPL := hid (put_len q.length).2
    have HZ : Hid (put q.length ++ (vqL (q.take q.length)).flatMap vnB = chB (vqL q)) := by show _ = _; rw [List.take_length]; unfold chB; rw [vqL_len]
    have hwl : IntKind.u64.wrap (q.length : Int) = (q.length : Int) := by rw [IntKind.wrap_u64]; omega
    rw [hIS] at IC HTE HTT
    have h1 := HTE.out
    have h2 := HTT.out
    simp only [if_true] at h1 h2
    rw [h1, h2]
    generalize chB (vqL q) = R at *
    clear HTE HTT h1 h2 hIS hc hv hok
    go_enter Try.func30, Try.ntmps30
    go_wp2_with fail
    refine IC.out.mono ?_
    rintro e w0 ⟨rfl, b0⟩
    have B0 := hid (BS.new w0)
    have BW := hid b0
    clear IC b0
    go_wp2_with fail
    refine (N0.out _).mono ?_
    rintro e w1 ⟨rfl, b1⟩
    have B1 := hid (B0.out.next b1)
    have W1 := hid (B1.out.wr (put q.length) (by have := HPL.out; simp; omega))
    clear b1 N0 B0
    go_wp2_with fail
    refine W1.out.mono ?_
    rintro e w2 ⟨n2, rfl, B2, -⟩
    clear W1 B1 hwl
    go_wp2
    go_loopw [17] (fun i wr => ∃ (k : Nat), k ≤ q.length ∧ i = .int .i64 (k : Int) ∧ Hid (BS w0 (put q.length ++ (vqL (q.take k)).flatMap vnB) wr)) (fun i _ => q.length - (intOf i).toNat)
    case atStart => exact ⟨0, Nat.zero_le _, rfl, hid (by simpa [vqL] using B2.out)⟩
    case round =>
      clear B2
      obtain ⟨k, hk, rfl, HB⟩ := hrel
      have BWR := hid (below_on BW.out HB.out.b)
      by_cases hlt : k < q.length
      · have hk1 : (k : Int) < (q.length : Int) := by omega
        have hk0 : (0 : Int) ≤ (k : Int) := by omega
        have hwk : wrap64 ((k : Int) + 1) = ((k + 1 : Nat) : Int) := by rw [IntWalk.wrap64_in _ (by omega)]; omega
        obtain ⟨b, off, rfl, hb, c0, c1, c2, c3, c4, hp⟩ := HC.out k hlt
        have d0 := (BWR.out.cell (p := ⟨b, off + k * 5, none⟩) hb).trans c0
        have d1 := (BWR.out.cell (p := ⟨b, off + k * 5 + 1, none⟩) hb).trans c1
        have d2 := (BWR.out.cell (p := ⟨b, off + k * 5 + 2, none⟩) hb).trans c2
        have d3 := (BWR.out.cell (p := ⟨b, off + k * 5 + 3, none⟩) hb).trans c3
        have d4 := (BWR.out.cell (p := ⟨b, off + k * 5 + 4, none⟩) hb).trans c4
        have VT := hid (HVT.out k hlt)
        have HTK := hid (HT.out k hlt)
        have HLL := hid (HLN.out k hlt)
        have HLT := hid hlt
        have hpf := hp.sl
        have hk33 : (k : Int) < 33 := by omega
        clear HC HVT HT HLN HZ c0 c1 c2 c3 c4 hp hb
        generalize q[k] = y at *
        obtain ⟨pv, id, ma, sz, sum, ps⟩ := y
        unfold vnV at VT
        simp only at *
        obtain ⟨ad2, cap2, rfl⟩ := hpf
        generalize ps.length = pn at *
        generalize vnB ⟨id, ma, sz, sum, ps⟩ = X1 at *
        generalize put q.length ++ (vqL (q.take k)).flatMap vnB = X0 at *
        have BX := hid (Bx.made BWR.out [.int .i64 id, .bool ma, .int .i64 sz, .string sum, .slice ad2 pn cap2] 24)
        have H1 := hid (HB.out.al (.cells #[.int .i64 id, .bool ma, .int .i64 sz, .string sum, .slice ad2 pn cap2] 24))
        obtain ⟨⟨y0, y1, y2, y3, y4⟩, -⟩ := BX.out.may
        clear hlt hk HB
        go_wp2_with fail
        refine (VT.out _ BX.out.b).mono ?_
        rintro e w3 ⟨rfl, b3⟩
        have H3 := hid (H1.out.next b3)
        have W3 := hid (H3.out.wr X1 (by have := HLL.out; omega))
        clear b3 VT BX H1 y0 y1 y2 y3 y4 d0 d1 d2 d3 d4 BWR
        go_wp2_with fail
        refine W3.out.mono ?_
        rintro e w4 ⟨n4, rfl, H4, -⟩
        have H5 : Hid (BS w0 (put q.length ++ (vqL (q.take (k + 1))).flatMap vnB) w4) := by have := H4.out; rw [HTK.out]; exact this
        clear W3 H3 H4 HTK HLL
        go_wp2
        exact ⟨⟨k + 1, HLT.out, by first | rw [hwk] | rfl | simp, H5⟩, by (try rw [hwk]); have := HLT.out; simp [intOf]; omega⟩
      · have hke : k = q.length := by omega
        have hd : decide ((k : Int) < (q.length : Int)) = false := decide_eq_false (by omega)
        have hd2 : decide (k < q.length) = false := decide_eq_false hlt
        have HF : Hid (BS w0 R wr) := by have := HB.out; rw [hke, HZ.out] at this; exact this
        have ST := hid (bld_string w0.heap.size w0.heap.size R wr HF.out.bd HF.out.b.size)
        clear HC HVT HT HLN HZ HB hke hlt hk BWR
        go_wp2_with fail
        refine ST.out.mono ?_
        rintro e w5 ⟨rfl, b5⟩
        have B5 := hid (below_on BW.out (HF.out.b.trans b5))
        clear ST b5 HF
        go_wp2
        go_ret2
        exact ⟨rfl, B5.out⟩
end Go.Proofs.Ytbiapepalkdkdaa
