/- A table's text: the program. -/
import Derived.Test.YtojiahdbgdgdcaaJoined11
import Derived.Test.YtojiahdbgdgdcaaTxM
namespace Go.Proofs.Ytojiahdbgdgdcaa
open Go.RowKit Go.Maps
set_option linter.unusedVariables false
set_option linter.unusedSimpArgs false

def hdB (h : Hd) : List UInt8 := ptx h.tk ++ ptx h.su ++ ptx h.ou ++ put h.at_.toNat
def tbB (l : List Hd) : List UInt8 := put l.length ++ l.flatMap hdB
def tbT (l : List Hd) : ByteArray := if isTb l = true then ⟨(tbB l).toArray⟩ else ⟨#[]⟩
def tbTE (l : List Hd) : Int := if isTb l = true then 0 else 1
theorem hdB_len {h : Hd} (e : hdOk h = true) : (hdB h).length ≤ 4264 := by
  have hs := hdOk_sz e
  unfold hdB
  rw [List.length_append, List.length_append, List.length_append, ptx_len, ptx_len, ptx_len]
  have := (put_len h.tk.size).2
  have := (put_len h.su.size).2
  have := (put_len h.ou.size).2
  have := (put_len h.at_.toNat).2
  omega
theorem tbB_len {l : List Hd} (h : isTb l = true) : (tbB l).length ≤ 272906 := by
  unfold tbB
  have h1 := flatB_len hdB 4264 l (fun v hv => hdB_len (isTb_all h v hv))
  have h2 := isTb_len h
  have := (put_len l.length).2
  rw [List.length_append]
  omega
/-- what is wanted of the texts' lengths, and of a number -/
theorem hd_lens {h : Hd} (e : hdOk h = true) : (ptx h.tk).length ≤ 74 ∧ (ptx h.su).length ≤ 74 ∧ (ptx h.ou).length ≤ 4106 ∧ (put h.at_.toNat).length ≤ 10 ∧ h.at_ = ((h.at_.toNat : Nat) : Int) ∧ h.at_.toNat ≤ 1099511627776 := by
  have hs := hdOk_sz e
  have := ptx_len h.tk
  have := ptx_len h.su
  have := ptx_len h.ou
  have := (put_len h.tk.size).2
  have := (put_len h.su.size).2
  have := (put_len h.ou.size).2
  have := (put_len h.at_.toNat).2
  omega
set_option maxRecDepth 100000 in
set_option maxHeartbeats 2000000 in
theorem tencode_any (v : Value) (q : List Hd) (w : World) (hv : HdI w v q) : Calls Try.prog 17 #[v] w fun e w' => e = .returned (.tuple #[.string (tbT q), .int .i64 (tbTE q)]) ∧ Below w.heap.size w w' := by
  obtain ⟨ad, cap, rfl, hc⟩ := hv.form
  have IC := hid (isTable_any (.slice ad q.length cap) q w hv)
  have HTE : Hid (tbTE q = if isTb q = true then 0 else 1) := rfl
  have HTT : Hid (tbT q = if isTb q = true then ⟨(tbB q).toArray⟩ else ⟨#[]⟩) := rfl
  cases hIS : isTb q
  · rw [hIS] at IC HTE HTT
    have h1 := HTE.out
    have h2 := HTT.out
    simp only [Bool.false_eq_true, if_false] at h1 h2
    rw [h1, h2]
    clear HTE HTT h1 h2 hIS hc hv
    go_enter Try.func17, Try.ntmps17
    go_wp2_with fail
    refine IC.out.mono ?_
    rintro e w1 ⟨rfl, b1⟩
    have B1 := hid b1
    clear IC b1
    go_wp2
    go_ret2
    exact ⟨rfl, B1.out⟩
  · have HC := hid hc
    have hl64 : q.length ≤ 64 := isTb_len hIS
    have hok : ∀ y ∈ q, hdOk y = true := isTb_all hIS
    have N0 := hid (fun W => number_any q.length W (by omega))
    have HTX : Hid (∀ (k : Nat) (hk : k < q.length), (∀ W, Calls Try.prog 34 #[.string q[k].tk] W fun e w' => e = .returned (.string ⟨(ptx q[k].tk).toArray⟩) ∧ Below W.heap.size W w') ∧ (∀ W, Calls Try.prog 34 #[.string q[k].su] W fun e w' => e = .returned (.string ⟨(ptx q[k].su).toArray⟩) ∧ Below W.heap.size W w') ∧ (∀ W, Calls Try.prog 34 #[.string q[k].ou] W fun e w' => e = .returned (.string ⟨(ptx q[k].ou).toArray⟩) ∧ Below W.heap.size W w') ∧ (∀ W, Calls Try.prog 33 #[.int .u64 ((q[k].at_.toNat : Nat) : Int)] W fun e w' => e = .returned (.string ⟨(put q[k].at_.toNat).toArray⟩) ∧ Below W.heap.size W w')) := fun k hk => by
      have h := hdOk_sz (hok _ (List.getElem_mem hk))
      exact ⟨fun W => text_any _ W (Nat.le_trans h.1 (by decide)), fun W => text_any _ W (Nat.le_trans (Nat.le_of_eq h.2.1) (by decide)), fun W => text_any _ W (Nat.le_trans h.2.2.1 (by decide)), fun W => number_any _ W (by omega)⟩
    have HT : Hid (∀ (k : Nat) (hk : k < q.length), put q.length ++ (q.take (k + 1)).flatMap hdB = (((put q.length ++ (q.take k).flatMap hdB) ++ ptx q[k].tk) ++ ptx q[k].su ++ ptx q[k].ou) ++ put q[k].at_.toNat) := fun k hk => by
      rw [flatB_take hdB q k hk]; unfold hdB; simp
    have HLN : Hid (∀ (k : Nat) (hk : k < q.length), (put q.length ++ (q.take k).flatMap hdB).length ≤ 300000 ∧ (ptx q[k].tk).length ≤ 74 ∧ (ptx q[k].su).length ≤ 74 ∧ (ptx q[k].ou).length ≤ 4106 ∧ (put q[k].at_.toNat).length ≤ 10 ∧ q[k].at_ = ((q[k].at_.toNat : Nat) : Int) ∧ q[k].at_.toNat ≤ 1099511627776) := fun k hk => by
      have h1 := flatB_len hdB 4264 (q.take k) (fun x hx => hdB_len (hok x (List.mem_of_mem_take hx)))
      have h2 := (put_len q.length).2
      have h3 : (q.take k).length ≤ 64 := by simp; omega
      refine ⟨?_, hd_lens (hok _ (List.getElem_mem hk))⟩
      rw [List.length_append]
      omega
    have HPL := hid (put_len q.length).2
    have HZ : Hid (put q.length ++ (q.take q.length).flatMap hdB = tbB q) := by show _ = _; rw [List.take_length]; rfl
    have hwl : IntKind.u64.wrap (q.length : Int) = (q.length : Int) := by rw [IntKind.wrap_u64]; omega
    rw [hIS] at IC HTE HTT
    have h1 := HTE.out
    have h2 := HTT.out
    simp only [if_true] at h1 h2
    rw [h1, h2]
    generalize tbB q = R at *
    clear HTE HTT h1 h2 hIS hc hv hok
    go_enter Try.func17, Try.ntmps17
    go_wp2_with fail
    refine IC.out.mono ?_
    rintro e w0 ⟨rfl, b0⟩
    have B0 := hid (BS.new w0)
    have BW := hid b0
    clear IC b0
    go_wp2_with fail
    refine (N0.out _).mono ?_
    rintro e w1 ⟨rfl, b1⟩
    have B1 := hid (B0.out.next b1)
    have W1 := hid (B1.out.wr (put q.length) (by have := HPL.out; simp; omega))
    clear b1 N0 B0
    go_wp2_with fail
    refine W1.out.mono ?_
    rintro e w2 ⟨n2, rfl, B2, -⟩
    clear W1 B1 hwl
    go_wp2
    go_loopw [17] (fun i wr => ∃ (k : Nat), k ≤ q.length ∧ i = .int .i64 (k : Int) ∧ Hid (BS w0 (put q.length ++ (q.take k).flatMap hdB) wr)) (fun i _ => q.length - (intOf i).toNat)
    case atStart => exact ⟨0, Nat.zero_le _, rfl, hid (by simpa using B2.out)⟩
    case round =>
      clear B2
      obtain ⟨k, hk, rfl, HB⟩ := hrel
      have BWR := hid (below_on BW.out HB.out.b)
      by_cases hlt : k < q.length
      · have hk1 : (k : Int) < (q.length : Int) := by omega
        have hk0 : (0 : Int) ≤ (k : Int) := by omega
        have hwk : wrap64 ((k : Int) + 1) = ((k + 1 : Nat) : Int) := by rw [IntWalk.wrap64_in _ (by omega)]; omega
        obtain ⟨b, off, rfl, hb, c0, c1, c2, c3⟩ := HC.out k hlt
        have d0 := (BWR.out.cell (p := ⟨b, off + k * 4, none⟩) hb).trans c0
        have d1 := (BWR.out.cell (p := ⟨b, off + k * 4 + 1, none⟩) hb).trans c1
        have d2 := (BWR.out.cell (p := ⟨b, off + k * 4 + 2, none⟩) hb).trans c2
        have d3 := (BWR.out.cell (p := ⟨b, off + k * 4 + 3, none⟩) hb).trans c3
        obtain ⟨t0, t1, t2, t3⟩ := HTX.out k hlt
        have TX0 := hid t0
        have TX1 := hid t1
        have TX2 := hid t2
        have NM := hid t3
        have HTK := hid (HT.out k hlt)
        have HLL0 := HLN.out k hlt
        have HLL := hid HLL0
        obtain ⟨-, -, -, -, -, hz1, hz2⟩ := HLL0
        have HLT := hid hlt
        have hk33 : (k : Int) < 65 := by omega
        clear HC HTX HT HLN HZ c0 c1 c2 c3 hb t0 t1 t2 t3
        generalize q[k] = y at *
        obtain ⟨tk, su, ou, at_⟩ := y
        simp only at *
        generalize hn : at_.toNat = N at *
        subst hz1
        clear hn
        have hwu : IntKind.u64.wrap (N : Int) = (N : Int) := by rw [IntKind.wrap_u64]; omega
        generalize put q.length ++ (q.take k).flatMap hdB = X0 at *
        generalize ptx tk = X1 at *
        generalize ptx su = X2 at *
        generalize ptx ou = X3 at *
        generalize put N = X4 at *
        have BX := hid (srow wr [.string tk, .string su, .string ou, .int .i64 (N : Int)] 31)
        have H1 := hid (HB.out.al (.cells #[.string tk, .string su, .string ou, .int .i64 (N : Int)] 31))
        have HNE : Hid (w0.heap.size < wr.heap.size) := by
          rcases HB.out.bd with ⟨_, _, h, _⟩ | ⟨_, _, h, _⟩ <;> exact (Array.getElem?_eq_some_iff.1 h).1
        have y0 := BX.out.cellAt (o := 0) rfl
        clear hlt hk HB
        go_wp2_with fail
        refine (TX0.out _).mono ?_
        rintro e wa0 ⟨rfl, b3⟩
        have Ha0 := hid (H1.out.next b3)
        have Xa0 := hid (BX.out.keep (b3.keep (fun _ => False)) (fun h => h))
        have W3 := hid (Ha0.out.wr X1 (by have := HLL.out; (try simp only [List.length_append]); omega))
        clear b3 TX0 H1 BX y0 d0 d1 d2 d3 BWR
        go_wp2_with fail
        refine W3.out.mono ?_
        rintro e wb0 ⟨n4, rfl, Hb0, K4⟩
        have Xb0 := hid (K4.out _ _ _ (by have := HNE.out; omega) (by decide) Xa0.out)
        clear W3 K4 Xa0 Ha0
        have y1 := Xb0.out.cellAt (o := 1) rfl
        go_wp2_with fail
        refine (TX1.out _).mono ?_
        rintro e wa1 ⟨rfl, b3⟩
        have Ha1 := hid (Hb0.out.next b3)
        have Xa1 := hid (Xb0.out.keep (b3.keep (fun _ => False)) (fun h => h))
        have W3 := hid (Ha1.out.wr X2 (by have := HLL.out; (try simp only [List.length_append]); omega))
        clear b3 TX1 Hb0 Xb0 y1
        go_wp2_with fail
        refine W3.out.mono ?_
        rintro e wb1 ⟨n4, rfl, Hb1, K4⟩
        have Xb1 := hid (K4.out _ _ _ (by have := HNE.out; omega) (by decide) Xa1.out)
        clear W3 K4 Xa1 Ha1
        have y2 := Xb1.out.cellAt (o := 2) rfl
        go_wp2_with fail
        refine (TX2.out _).mono ?_
        rintro e wa2 ⟨rfl, b3⟩
        have Ha2 := hid (Hb1.out.next b3)
        have Xa2 := hid (Xb1.out.keep (b3.keep (fun _ => False)) (fun h => h))
        have W3 := hid (Ha2.out.wr X3 (by have := HLL.out; (try simp only [List.length_append]); omega))
        clear b3 TX2 Hb1 Xb1 y2
        go_wp2_with fail
        refine W3.out.mono ?_
        rintro e wb2 ⟨n4, rfl, Hb2, K4⟩
        have Xb2 := hid (K4.out _ _ _ (by have := HNE.out; omega) (by decide) Xa2.out)
        clear W3 K4 Xa2 Ha2
        have y3 := Xb2.out.cellAt (o := 3) rfl
        go_wp2_with fail
        refine (NM.out _).mono ?_
        rintro e wa3 ⟨rfl, b3⟩
        have Ha3 := hid (Hb2.out.next b3)
        have Xa3 := hid (Xb2.out.keep (b3.keep (fun _ => False)) (fun h => h))
        have W3 := hid (Ha3.out.wr X4 (by have := HLL.out; (try simp only [List.length_append]); omega))
        clear b3 NM Hb2 Xb2 y3
        go_wp2_with fail
        refine W3.out.mono ?_
        rintro e wb3 ⟨n4, rfl, Hb3, K4⟩
        have Xb3 := hid (K4.out _ _ _ (by have := HNE.out; omega) (by decide) Xa3.out)
        clear W3 K4 Xa3 Ha3
        have H9 : Hid (BS w0 (put q.length ++ (q.take (k + 1)).flatMap hdB) wb3) := by have := Hb3.out; rw [HTK.out]; exact this
        clear HTK HLL hwu Hb3
        go_wp2
        exact ⟨⟨k + 1, HLT.out, by first | rw [hwk] | rfl | simp, H9⟩, by (try rw [hwk]); have := HLT.out; simp [intOf]; omega⟩
      · have hke : k = q.length := by omega
        have hd : decide ((k : Int) < (q.length : Int)) = false := decide_eq_false (by omega)
        have hd2 : decide (k < q.length) = false := decide_eq_false hlt
        have HF : Hid (BS w0 R wr) := by have := HB.out; rw [hke, HZ.out] at this; exact this
        have ST := hid (bld_string w0.heap.size w0.heap.size R wr HF.out.bd HF.out.b.size)
        clear HC HTX HT HLN HZ HB hke hlt hk BWR
        go_wp2_with fail
        refine ST.out.mono ?_
        rintro e w5 ⟨rfl, b5⟩
        have B5 := hid (below_on BW.out (HF.out.b.trans b5))
        clear ST b5 HF
        go_wp2
        go_ret2
        exact ⟨rfl, B5.out⟩
end Go.Proofs.Ytojiahdbgdgdcaa
