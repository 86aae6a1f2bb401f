/- The program's text of a command. -/
import Derived.Test.YtmadlnchmkhdjaaGreatJoined10
import Derived.Test.YtmadlnchmkhdjaaGreatCvT
namespace Go.Proofs.YtmadlnchmkhdjaaGreat
open Go.RowKit Go.Maps
set_option linter.unusedVariables false
set_option linter.unusedSimpArgs false

def pkB (k : Pk) : List UInt8 := put k.n.toNat ++ ptx k.su
def pksB (l : List Pk) : List UInt8 := put l.length ++ l.flatMap pkB
theorem isDg_64 {s : ByteArray} (h : isDg s = true) : s.size = 64 := by
  have := (pcOk_id (p := ⟨s, 1⟩) (by simp [pcOk, h])).1
  exact this
theorem pkOk_bd {k : Pk} (h : pkOk k = true) : 0 ≤ k.n ∧ k.n ≤ 100 ∧ k.su.size = 64 := by
  unfold pkOk wiB at h
  simp at h
  exact ⟨h.1.1, h.1.2, isDg_64 h.2⟩
theorem pkB_len {k : Pk} (h : k.su.size ≤ 64) : (pkB k).length ≤ 84 := by
  unfold pkB
  rw [List.length_append, ptx_len]
  have := (put_len k.su.size).2
  have := (put_len k.n.toNat).2
  omega
theorem cnumber_any (n : Nat) (w : World) (hn : n ≤ 9223372036854775807) : Calls Tryz.prog 50 #[.int .i64 (n : Int)] w fun e w' => e = .returned (.string ⟨(put n).toArray⟩) ∧ Below w.heap.size w w' := by
  have C := hid (number_any n w (by omega))
  have hw : IntKind.u64.wrap (n : Int) = (n : Int) := by rw [IntKind.wrap_u64]; omega
  go_enter Tryz.func50, Tryz.ntmps50
  go_wp2_with fail
  refine C.out.mono ?_
  rintro e w1 ⟨rfl, h1⟩
  have H1 := hid h1
  clear h1 C
  go_wp2
  go_ret
  exact ⟨rfl, H1.out⟩
set_option maxRecDepth 100000 in
set_option maxHeartbeats 2000000 in
theorem ktext_any (v : Value) (l : List Pk) (w : World) (hv : PkI w v l) (ha : ∀ p ∈ l, pkOk p = true) (hl : l.length ≤ 100) : Calls Tryz.prog 59 #[v] w fun e w' => e = .returned (.string ⟨(pksB l).toArray⟩) ∧ Below w.heap.size w w' := by
  obtain ⟨ad, cap, rfl, hc⟩ := hv.form
  have HC := hid hc
  have N0 : Hid (∀ W, Calls Tryz.prog 50 #[.int .i64 ((l.length : Nat) : Int)] W fun e w' => e = .returned (.string ⟨(put l.length).toArray⟩) ∧ Below W.heap.size W w') := fun W => cnumber_any l.length W (by omega)
  have HNM : Hid (∀ (k : Nat) (hk : k < l.length) W, Calls Tryz.prog 50 #[.int .i64 ((l[k].n.toNat : Nat) : Int)] W fun e w' => e = .returned (.string ⟨(put l[k].n.toNat).toArray⟩) ∧ Below W.heap.size W w') := fun k hk W => cnumber_any _ W (by have := pkOk_bd (ha _ (List.getElem_mem hk)); omega)
  have HTX : Hid (∀ (k : Nat) (hk : k < l.length) W, Calls Tryz.prog 51 #[.string l[k].su] W fun e w' => e = .returned (.string ⟨(ptx l[k].su).toArray⟩) ∧ Below W.heap.size W w') := fun k hk W => text_any _ W (Nat.le_trans (Nat.le_of_eq (pkOk_bd (ha _ (List.getElem_mem hk))).2.2) (by decide))
  have HSZ : Hid (∀ (k : Nat) (hk : k < l.length), l[k].n = ((l[k].n.toNat : Nat) : Int) ∧ l[k].n.toNat ≤ 100) := fun k hk => by have := pkOk_bd (ha _ (List.getElem_mem hk)); omega
  have HT : Hid (∀ (k : Nat) (hk : k < l.length), put l.length ++ (l.take (k + 1)).flatMap pkB = (put l.length ++ (l.take k).flatMap pkB) ++ put l[k].n.toNat ++ ptx l[k].su) := fun k hk => by rw [flatB_take pkB l k hk]; unfold pkB; simp
  have HLN : Hid (∀ (k : Nat) (hk : k < l.length), (put l.length ++ (l.take k).flatMap pkB).length ≤ 50000 ∧ (ptx l[k].su).length ≤ 74 ∧ (put l[k].n.toNat).length ≤ 10) := fun k hk => by
    have h1 := flatB_len pkB 84 (l.take k) (fun p hp => pkB_len (by have := (pkOk_bd (ha p (List.mem_of_mem_take hp))).2.2; omega))
    have h2 := (put_len l.length).2
    have h3 : (l.take k).length ≤ 100 := by simp; omega
    have h4 := ptx_len l[k].su
    have h5 := (put_len l[k].su.size).2
    have h6 := (pkOk_bd (ha _ (List.getElem_mem hk))).2.2
    have h7 := (put_len l[k].n.toNat).2
    rw [List.length_append]
    omega
  have HPL := hid (put_len l.length).2
  have HZ : Hid (put l.length ++ (l.take l.length).flatMap pkB = pksB l) := by show _ = _; rw [List.take_length]; rfl
  have B0 := hid (BS.new w)
  generalize pksB l = R at *
  clear hc hv ha
  go_enter Tryz.func59, Tryz.ntmps59
  go_wp2_with fail
  refine (N0.out _).mono ?_
  rintro e w1 ⟨rfl, b1⟩
  have B1 := hid (B0.out.next b1)
  have W1 := hid (B1.out.wr (put l.length) (by have := HPL.out; simp; omega))
  clear b1 N0 B0
  go_wp2_with fail
  refine W1.out.mono ?_
  rintro e w2 ⟨n2, rfl, B2, -⟩
  clear W1 B1
  go_wp2
  go_loopw [12] (fun i wr => ∃ (k : Nat), k ≤ l.length ∧ i = .int .i64 (k : Int) ∧ Hid (BS w (put l.length ++ (l.take k).flatMap pkB) wr)) (fun i _ => l.length - (intOf i).toNat)
  case atStart => exact ⟨0, Nat.zero_le _, rfl, hid (by simpa using B2.out)⟩
  case round =>
    clear B2
    obtain ⟨k, hk, rfl, HB⟩ := hrel
    by_cases hlt : k < l.length
    · have hk1 : (k : Int) < (l.length : Int) := by omega
      have hk0 : (0 : Int) ≤ (k : Int) := by omega
      have hwk : wrap64 ((k : Int) + 1) = ((k + 1 : Nat) : Int) := by rw [IntWalk.wrap64_in _ (by omega)]; omega
      obtain ⟨b, off, rfl, hb, c0, c1⟩ := HC.out k hlt
      have d0 := (HB.out.b.cell (p := ⟨b, off + k * 2, none⟩) hb).trans c0
      have d1 := (HB.out.b.cell (p := ⟨b, off + k * 2 + 1, none⟩) hb).trans c1
      have NM := hid (HNM.out k hlt)
      have TX := hid (HTX.out k hlt)
      have HTK := hid (HT.out k hlt)
      obtain ⟨hz1, hz2⟩ := HSZ.out k hlt
      have HLL := hid (HLN.out k hlt)
      have HLT := hid hlt
      have hk5 : (k : Int) < 100 := by omega
      clear HC HNM HTX HT HSZ HLN HZ c0 c1 hb
      generalize l[k] = p at *
      obtain ⟨sz, id⟩ := p
      simp only at *
      generalize hn : sz.toNat = N at *
      subst hz1
      clear hn
      generalize put l.length ++ (l.take k).flatMap pkB = X0 at *
      generalize ptx id = X1 at *
      generalize put N = X2 at *
      have BX := hid (srow wr [.int .i64 (N : Int), .string id] 61)
      have H1 := hid (HB.out.al (.cells #[.int .i64 (N : Int), .string id] 61))
      have HNE : Hid (w.heap.size < wr.heap.size) := by
        rcases HB.out.bd with ⟨_, _, h, _⟩ | ⟨_, _, h, _⟩ <;> exact (Array.getElem?_eq_some_iff.1 h).1
      have y0 := BX.out.cellAt (o := 0) rfl
      clear hlt hk HB
      go_wp2_with fail
      refine (NM.out _).mono ?_
      rintro e w3 ⟨rfl, b3⟩
      have H3 := hid (H1.out.next b3)
      have X3 := hid (BX.out.keep (b3.keep (fun _ => False)) (fun h => h))
      have W3 := hid (H3.out.wr X2 (by have := HLL.out; omega))
      clear b3 NM BX H1 y0 d0 d1
      go_wp2_with fail
      refine W3.out.mono ?_
      rintro e w4 ⟨n4, rfl, H4, K4⟩
      have X4 := hid (K4.out _ _ _ (by have := HNE.out; omega) (by decide) X3.out)
      clear W3 K4 X3 H3
      have y1 := X4.out.cellAt (o := 1) rfl
      go_wp2_with fail
      refine (TX.out _).mono ?_
      rintro e w5 ⟨rfl, b5⟩
      have H5 := hid (H4.out.next b5)
      have W5 := hid (H5.out.wr X1 (by have := HLL.out; simp; omega))
      clear b5 TX X4 H4 y1
      go_wp2_with fail
      refine W5.out.mono ?_
      rintro e w6 ⟨n6, rfl, H6, -⟩
      have H7 : Hid (BS w (put l.length ++ (l.take (k + 1)).flatMap pkB) w6) := by have := H6.out; rw [HTK.out]; exact this
      clear W5 H5 H6 HTK HLL
      go_wp2
      exact ⟨⟨k + 1, HLT.out, by first | rw [hwk] | rfl | simp, H7⟩, by (try rw [hwk]); have := HLT.out; simp [intOf]; omega⟩
    · have hke : k = l.length := by omega
      have hd : decide ((k : Int) < (l.length : Int)) = false := decide_eq_false (by omega)
      have hd2 : decide (k < l.length) = false := decide_eq_false hlt
      have HF : Hid (BS w R wr) := by have := HB.out; rw [hke, HZ.out] at this; exact this
      have ST := hid (bld_string w.heap.size w.heap.size R wr HF.out.bd HF.out.b.size)
      clear HC HNM HTX HT HSZ HLN HZ HB hke hlt hk
      go_wp2_with fail
      refine ST.out.mono ?_
      rintro e w5 ⟨rfl, b5⟩
      have B5 := hid (HF.out.b.trans b5)
      clear ST b5 HF
      go_wp2
      go_ret
      exact ⟨rfl, B5.out⟩

/-- what a field adds -/
def flB (h f : Int) (x : List UInt8) : List UInt8 := if hasF h f = true then x else []
set_option maxRecDepth 100000 in
set_option maxHeartbeats 2000000 in
theorem tell_any (w W : World) (g : Nat) (h f : Int) (l x : List UInt8) (hb : BS w l W) (hg : g < w.heap.size) (hc : w.cell? ⟨g, 0, none⟩ = some (.int .u64 h)) (hlen : l.length + x.length ≤ 140737488355328) : Calls Tryz.prog 56 #[.int .u64 f, .string ⟨x.toArray⟩, .pointer (some ⟨g, 0, none⟩), .pointer (some ⟨w.heap.size, 0, none⟩)] W fun e w' => e = .returned (.tuple #[]) ∧ BS w (l ++ flB h f x) w' := by
  have c0 := (hb.b.cell (p := ⟨g, 0, none⟩) hg).trans hc
  have HB := hid hb
  have WR := hid (hb.wr x hlen)
  unfold flB hasF
  clear hb hc hg
  cases hq : (bits BinOp.and IntKind.u64 h f != 0)
  · clear WR
    go_enter Tryz.func56, Tryz.ntmps56
    go_wp2
    go_end0
    exact ⟨rfl, HB.out⟩
  · go_enter Tryz.func56, Tryz.ntmps56
    go_wp2_with fail
    refine WR.out.mono ?_
    rintro e w1 ⟨n1, rfl, H1, -⟩
    clear WR HB c0
    go_wp2
    go_end0
    exact ⟨rfl, H1.out⟩
theorem flB_len (h f : Int) (x : List UInt8) : (flB h f x).length ≤ x.length := by unfold flB; split <;> simp
/-- a command's text -/
def cmB (c : Cm) : List UInt8 := put c.kd.toNat ++ flB (flN c.kd) 1 (ptx c.tk) ++ flB (flN c.kd) 2 (ptx c.bk) ++ flB (flN c.kd) 4 (ptx c.ky) ++ flB (flN c.kd) 8 (put c.id.toNat) ++ flB (flN c.kd) 16 (put c.n.toNat) ++ flB (flN c.kd) 32 (ptx c.sm) ++ flB (flN c.kd) 64 (pcsB c.ps) ++ flB (flN c.kd) 128 (pksB c.ks)
theorem pksB_len {l : List Pk} (h : ∀ p ∈ l, pkOk p = true) (hl : l.length ≤ 100) : (pksB l).length ≤ 8410 := by
  unfold pksB
  have h1 := flatB_len pkB 84 l (fun p hp => pkB_len (by have := (pkOk_bd (h p hp)).2.2; omega))
  have := (put_len l.length).2
  rw [List.length_append]
  omega
/-- what a command's bounds are -/
structure CmD (c : Cm) : Prop where
  kd : 1 ≤ c.kd ∧ c.kd ≤ 10
  tk : c.tk.size ≤ 64
  bk : c.bk.size ≤ 63
  ky : c.ky.size ≤ 1024
  id : 0 ≤ c.id ∧ c.id ≤ 1099511627776
  n : 0 ≤ c.n ∧ c.n ≤ 100
  sm : c.sm.size ≤ 64
  ps : ∀ p ∈ c.ps, pcOk p = true
  pl : c.ps.length ≤ 512
  ks : ∀ p ∈ c.ks, pkOk p = true
  kl : c.ks.length ≤ 100
theorem fit_of {h f : Int} {r n : Bool} (e : fitB h f r n = true) : r = true ∨ n = true := by
  unfold fitB at e
  split at e
  · exact .inl e
  · exact .inr e
theorem em_sz {s : ByteArray} (e : emB s = true) : s.size = 0 := of_decide_eq_true e
theorem pcs_bd {l : List Pc} (h : pcsOk l = true) : (∀ p ∈ l, pcOk p = true) ∧ l.length ≤ 512 := by
  unfold pcsOk at h
  simp only [Bool.and_eq_true, List.all_eq_true, decide_eq_true_eq] at h
  exact ⟨h.2, h.1⟩
theorem cm_bd {c : Cm} (h : cmOk c = true) : CmD c := by
  unfold cmOk nfB nuB dfB at h
  simp only [Bool.and_eq_true, Bool.not_eq_true', decide_eq_false_iff_not] at h
  obtain ⟨⟨⟨hk, ⟨ht, hb⟩, hy⟩, hi, hn⟩, ⟨hs, hp⟩, hq⟩ := h
  have hl : ∀ s : ByteArray, s.data.toList.length = s.size := fun s => by simp
  refine ⟨?_, ?_, ?_, ?_, ?_, ?_, ?_, ?_, ?_, ?_, ?_⟩
  · unfold flN at hk
    by_cases h0 : 1 ≤ c.kd ∧ c.kd ≤ 10
    · exact h0
    · exfalso
      apply hk
      repeat (first | rw [if_neg (by omega)])
  · rcases fit_of ht with e | e
    · simp only [Bool.or_eq_true] at e
      rcases e with e | e
      · have := em_sz e; omega
      · unfold tokOk at e; simp at e; omega
    · have := em_sz e; omega
  · rcases fit_of hb with e | e
    · unfold bktOk at e; simp at e; omega
    · have := em_sz e; omega
  · rcases fit_of hy with e | e
    · unfold keyOk at e; simp at e; omega
    · have := em_sz e; omega
  · rcases fit_of hi with e | e
    · unfold wiB at e
      simp at e
      have e1 := e.1
      split at e1 <;> omega
    · simp at e; omega
  · rcases fit_of hn with e | e
    · unfold wiB at e; simp at e; omega
    · simp at e; omega
  · rcases fit_of hs with e | e
    · have := isDg_64 e; omega
    · have := em_sz e; omega
  · rcases fit_of hp with e | e
    · unfold obB pcE at e
      simp only [Bool.and_eq_true, decide_eq_true_eq] at e
      have e1 := e.1
      split at e1
      · rename_i h5
        exact (pcs_bd h5).1
      · omega
    · simp at e; simp [e]
  · rcases fit_of hp with e | e
    · unfold obB pcE at e
      simp only [Bool.and_eq_true, decide_eq_true_eq] at e
      have e1 := e.1
      split at e1
      · rename_i h5
        exact (pcs_bd h5).2
      · omega
    · simp at e; simp [e]
  · rcases fit_of hq with e | e
    · unfold pksOk at e
      simp only [Bool.and_eq_true, List.all_eq_true] at e
      exact e.2
    · simp at e; simp [e]
  · rcases fit_of hq with e | e
    · unfold pksOk at e
      simp at e
      omega
    · simp at e; simp [e]
set_option maxRecDepth 100000 in
set_option maxHeartbeats 4000000 in
theorem ctext_any (pv kv : Value) (c : Cm) (w : World) (hp : PcI w pv c.ps) (hk : PkI w kv c.ks) (hd : CmD c) : Calls Tryz.prog 22 #[cmV pv kv c] w fun e w' => e = .returned (.string ⟨(cmB c).toArray⟩) ∧ Below w.heap.size w w' := by
  obtain ⟨pa, pc, rfl, -⟩ := hp.form
  obtain ⟨ka, kc, rfl, -⟩ := hk.form
  have hR : Hid (cmB c = cmB c) := rfl
  generalize hRR : cmB c = R at *
  unfold cmB at hRR
  clear hR
  have HRR := hid hRR
  clear hRR
  have FO := hid (fun W => fieldsOf_any c.kd W)
  have K0 : Hid (∀ W, Calls Tryz.prog 50 #[.int .i64 c.kd] W fun e w' => e = .returned (.string ⟨(put c.kd.toNat).toArray⟩) ∧ Below W.heap.size W w') := fun W => by
    have := cnumber_any c.kd.toNat W (by have := hd.kd; omega)
    rwa [show ((c.kd.toNat : Nat) : Int) = c.kd from by have := hd.kd; omega] at this
  have K1 : Hid (∀ W, Below w.heap.size w W → Calls Tryz.prog 51 #[.string c.tk] W fun e w' => e = .returned (.string ⟨(ptx c.tk).toArray⟩) ∧ Below W.heap.size W w') := fun W hW => text_any c.tk W (Nat.le_trans hd.tk (by decide))
  have L1 : Hid ((ptx c.tk).length ≤ 50000) := by show _ ≤ _; have h1 := ptx_len c.tk; have h2 := (put_len c.tk.size).2; have := hd.tk; omega
  have K2 : Hid (∀ W, Below w.heap.size w W → Calls Tryz.prog 51 #[.string c.bk] W fun e w' => e = .returned (.string ⟨(ptx c.bk).toArray⟩) ∧ Below W.heap.size W w') := fun W hW => text_any c.bk W (Nat.le_trans hd.bk (by decide))
  have L2 : Hid ((ptx c.bk).length ≤ 50000) := by show _ ≤ _; have h1 := ptx_len c.bk; have h2 := (put_len c.bk.size).2; have := hd.bk; omega
  have K3 : Hid (∀ W, Below w.heap.size w W → Calls Tryz.prog 51 #[.string c.ky] W fun e w' => e = .returned (.string ⟨(ptx c.ky).toArray⟩) ∧ Below W.heap.size W w') := fun W hW => text_any c.ky W (Nat.le_trans hd.ky (by decide))
  have L3 : Hid ((ptx c.ky).length ≤ 50000) := by show _ ≤ _; have h1 := ptx_len c.ky; have h2 := (put_len c.ky.size).2; have := hd.ky; omega
  have K4 : Hid (∀ W, Below w.heap.size w W → Calls Tryz.prog 50 #[.int .i64 c.id] W fun e w' => e = .returned (.string ⟨(put c.id.toNat).toArray⟩) ∧ Below W.heap.size W w') := fun W hW => by
    have := cnumber_any c.id.toNat W (by have := hd.id; omega)
    rwa [show ((c.id.toNat : Nat) : Int) = c.id from by have := hd.id; omega] at this
  have L4 : Hid ((put c.id.toNat).length ≤ 50000) := by show _ ≤ _; have := (put_len c.id.toNat).2; omega
  have K5 : Hid (∀ W, Below w.heap.size w W → Calls Tryz.prog 50 #[.int .i64 c.n] W fun e w' => e = .returned (.string ⟨(put c.n.toNat).toArray⟩) ∧ Below W.heap.size W w') := fun W hW => by
    have := cnumber_any c.n.toNat W (by have := hd.n; omega)
    rwa [show ((c.n.toNat : Nat) : Int) = c.n from by have := hd.n; omega] at this
  have L5 : Hid ((put c.n.toNat).length ≤ 50000) := by show _ ≤ _; have := (put_len c.n.toNat).2; omega
  have K6 : Hid (∀ W, Below w.heap.size w W → Calls Tryz.prog 51 #[.string c.sm] W fun e w' => e = .returned (.string ⟨(ptx c.sm).toArray⟩) ∧ Below W.heap.size W w') := fun W hW => text_any c.sm W (Nat.le_trans hd.sm (by decide))
  have L6 : Hid ((ptx c.sm).length ≤ 50000) := by show _ ≤ _; have h1 := ptx_len c.sm; have h2 := (put_len c.sm.size).2; have := hd.sm; omega
  have K7 : Hid (∀ W, Below w.heap.size w W → Calls Tryz.prog 58 #[.slice pa c.ps.length pc] W fun e w' => e = .returned (.string ⟨(pcsB c.ps).toArray⟩) ∧ Below W.heap.size W w') := fun W hW => ptext_any _ c.ps W (hp.next hW) hd.ps hd.pl
  have L7 : Hid ((pcsB c.ps).length ≤ 50000) := by show _ ≤ _; have := pcsB_len hd.ps hd.pl; omega
  have K8 : Hid (∀ W, Below w.heap.size w W → Calls Tryz.prog 59 #[.slice ka c.ks.length kc] W fun e w' => e = .returned (.string ⟨(pksB c.ks).toArray⟩) ∧ Below W.heap.size W w') := fun W hW => ktext_any _ c.ks W (hk.next hW) hd.ks hd.kl
  have L8 : Hid ((pksB c.ks).length ≤ 50000) := by show _ ≤ _; have := pksB_len hd.ks hd.kl; omega
  have L0 : Hid ((put c.kd.toNat).length ≤ 50000) := by show _ ≤ _; have := (put_len c.kd.toNat).2; omega
  generalize ptx c.tk = x1 at *
  generalize ptx c.bk = x2 at *
  generalize ptx c.ky = x3 at *
  generalize put c.id.toNat = x4 at *
  generalize put c.n.toNat = x5 at *
  generalize ptx c.sm = x6 at *
  generalize pcsB c.ps = x7 at *
  generalize pksB c.ks = x8 at *
  generalize put c.kd.toNat = x0 at *
  generalize flN c.kd = h at *
  clear hp hk hd
  unfold cmV
  obtain ⟨kd, tk, bk, ky, id, n, sm, ps, ks⟩ := c
  simp only at *
  generalize ps.length = pn at *
  generalize ks.length = kn at *
  have BX := hid (srow w [.int .i64 kd, .string tk, .string bk, .string ky, .int .i64 id, .int .i64 n, .string sm, .slice pa pn pc, .slice ka kn kc] 25)
  have BA := hid (below_al (Below.refl w.heap.size w) (.cells #[.int .i64 kd, .string tk, .string bk, .string ky, .int .i64 id, .int .i64 n, .string sm, .slice pa pn pc, .slice ka kn kc] 25))
  go_enter Tryz.func22, Tryz.ntmps22
  go_wp2_with fail
  refine (FO.out _).mono ?_
  rintro e w1 ⟨rfl, rfl⟩
  clear FO
  go_wp2_with fail
  generalize hV : ((w.alloc (.cells #[.int .i64 kd, .string tk, .string bk, .string ky, .int .i64 id, .int .i64 n, .string sm, .slice pa pn pc, .slice ka kn kc] 25)).alloc (.cells #[.int .u64 h] 68)) = V at *
  have hz : V.heap.size = w.heap.size + 1 + 1 := by subst hV; simp
  have VB : Hid (Below w.heap.size w V) := by subst hV; exact below_al BA.out _
  have VR : Hid (RowIs V w.heap.size [.int .i64 kd, .string tk, .string bk, .string ky, .int .i64 id, .int .i64 n, .string sm, .slice pa pn pc, .slice ka kn kc] 25) := by subst hV; exact row_old BX.out _
  have VH : Hid (V.cell? ⟨w.heap.size + 1, 0, none⟩ = some (.int .u64 h)) := by
    subst hV
    have := srow (w.alloc (.cells #[.int .i64 kd, .string tk, .string bk, .string ky, .int .i64 id, .int .i64 n, .string sm, .slice pa pn pc, .slice ka kn kc] 25)) [.int .u64 h] 68
    rw [show (w.alloc (.cells #[.int .i64 kd, .string tk, .string bk, .string ky, .int .i64 id, .int .i64 n, .string sm, .slice pa pn pc, .slice ka kn kc] 25)).heap.size = w.heap.size + 1 from by simp] at this
    exact this.cellAt rfl
  have HBX : Hid (∀ W, Below V.heap.size V W → W.cell? ⟨w.heap.size, 0, none⟩ = some (.int .i64 kd) ∧ W.cell? ⟨w.heap.size, 1, none⟩ = some (.string tk) ∧ W.cell? ⟨w.heap.size, 2, none⟩ = some (.string bk) ∧ W.cell? ⟨w.heap.size, 3, none⟩ = some (.string ky) ∧ W.cell? ⟨w.heap.size, 4, none⟩ = some (.int .i64 id) ∧ W.cell? ⟨w.heap.size, 5, none⟩ = some (.int .i64 n) ∧ W.cell? ⟨w.heap.size, 6, none⟩ = some (.string sm) ∧ W.cell? ⟨w.heap.size, 7, none⟩ = some (.slice pa pn pc) ∧ W.cell? ⟨w.heap.size, 8, none⟩ = some (.slice ka kn kc)) := fun W hW => by
    have q := VR.out.keep (hW.keep (fun _ => False)) (fun h => h)
    exact ⟨q.cellAt rfl, q.cellAt rfl, q.cellAt rfl, q.cellAt rfl, q.cellAt rfl, q.cellAt rfl, q.cellAt rfl, q.cellAt rfl, q.cellAt rfl⟩
  have HBW : Hid (∀ W, Below V.heap.size V W → Below w.heap.size w W) := fun W hW => below_on VB.out hW
  have S0 := hid (BS.new V)
  have TL : Hid (∀ f l x W, BS V l W → l.length + x.length ≤ 1000000 → Calls Tryz.prog 56 #[.int .u64 f, .string ⟨x.toArray⟩, .pointer (some ⟨w.heap.size + 1, 0, none⟩), .pointer (some ⟨w.heap.size + 1 + 1, 0, none⟩)] W fun e w' => e = .returned (.tuple #[]) ∧ BS V (l ++ flB h f x) w') := fun f l x W hb hl => by
    have := tell_any V W (w.heap.size + 1) h f l x hb (by omega) VH.out (by omega)
    rwa [hz] at this
  clear hV BX BA VR VH
  refine (K0.out _).mono ?_
  rintro e wa ⟨rfl, ba⟩
  have S1 := hid (S0.out.next ba)
  have WR := hid (S1.out.wr x0 (by have := L0.out; simp; omega))
  rw [hz] at WR
  clear K0 S0 ba
  go_wp2_with fail
  refine WR.out.mono ?_
  rintro e wb ⟨nb, rfl, T0, -⟩
  simp only [List.nil_append] at T0
  clear WR S1
  obtain ⟨c0, c1, c2, c3, c4, c5, c6, c7, c8⟩ := HBX.out _ T0.out.b
  go_wp2_with fail
  refine (K1.out _ (HBW.out _ T0.out.b)).mono ?_
  rintro e wa1 ⟨rfl, ba⟩
  have S1 := hid (T0.out.next ba)
  have C1 := hid (TL.out 1 x0 x1 _ S1.out (by have := L0.out; have := L1.out; omega))
  clear K1 T0 ba c0 c1 c2 c3 c4 c5 c6 c7 c8
  go_wp2_with fail
  refine C1.out.mono ?_
  rintro e wb1 ⟨rfl, tb⟩
  have T1 := hid tb
  have M1 : Hid ((x0 ++ flB h 1 x1).length ≤ 100000) := by show _ ≤ _; have := L0.out; have := L1.out; have := flB_len h 1 x1; rw [List.length_append]; omega
  clear C1 S1 tb L0 L1
  generalize hy1 : x0 ++ flB h 1 x1 = y1 at *
  have HY1 := hid hy1
  clear hy1
  obtain ⟨c0, c1, c2, c3, c4, c5, c6, c7, c8⟩ := HBX.out _ T1.out.b
  go_wp2_with fail
  refine (K2.out _ (HBW.out _ T1.out.b)).mono ?_
  rintro e wa2 ⟨rfl, ba⟩
  have S2 := hid (T1.out.next ba)
  have C2 := hid (TL.out 2 y1 x2 _ S2.out (by have := M1.out; have := L2.out; omega))
  clear K2 T1 ba c0 c1 c2 c3 c4 c5 c6 c7 c8
  go_wp2_with fail
  refine C2.out.mono ?_
  rintro e wb2 ⟨rfl, tb⟩
  have T2 := hid tb
  have M2 : Hid ((y1 ++ flB h 2 x2).length ≤ 150000) := by show _ ≤ _; have := M1.out; have := L2.out; have := flB_len h 2 x2; rw [List.length_append]; omega
  clear C2 S2 tb M1 L2
  generalize hy2 : y1 ++ flB h 2 x2 = y2 at *
  have HY2 := hid hy2
  clear hy2
  obtain ⟨c0, c1, c2, c3, c4, c5, c6, c7, c8⟩ := HBX.out _ T2.out.b
  go_wp2_with fail
  refine (K3.out _ (HBW.out _ T2.out.b)).mono ?_
  rintro e wa3 ⟨rfl, ba⟩
  have S3 := hid (T2.out.next ba)
  have C3 := hid (TL.out 4 y2 x3 _ S3.out (by have := M2.out; have := L3.out; omega))
  clear K3 T2 ba c0 c1 c2 c3 c4 c5 c6 c7 c8
  go_wp2_with fail
  refine C3.out.mono ?_
  rintro e wb3 ⟨rfl, tb⟩
  have T3 := hid tb
  have M3 : Hid ((y2 ++ flB h 4 x3).length ≤ 200000) := by show _ ≤ _; have := M2.out; have := L3.out; have := flB_len h 4 x3; rw [List.length_append]; omega
  clear C3 S3 tb M2 L3
  generalize hy3 : y2 ++ flB h 4 x3 = y3 at *
  have HY3 := hid hy3
  clear hy3
  obtain ⟨c0, c1, c2, c3, c4, c5, c6, c7, c8⟩ := HBX.out _ T3.out.b
  go_wp2_with fail
  refine (K4.out _ (HBW.out _ T3.out.b)).mono ?_
  rintro e wa4 ⟨rfl, ba⟩
  have S4 := hid (T3.out.next ba)
  have C4 := hid (TL.out 8 y3 x4 _ S4.out (by have := M3.out; have := L4.out; omega))
  clear K4 T3 ba c0 c1 c2 c3 c4 c5 c6 c7 c8
  go_wp2_with fail
  refine C4.out.mono ?_
  rintro e wb4 ⟨rfl, tb⟩
  have T4 := hid tb
  have M4 : Hid ((y3 ++ flB h 8 x4).length ≤ 250000) := by show _ ≤ _; have := M3.out; have := L4.out; have := flB_len h 8 x4; rw [List.length_append]; omega
  clear C4 S4 tb M3 L4
  generalize hy4 : y3 ++ flB h 8 x4 = y4 at *
  have HY4 := hid hy4
  clear hy4
  obtain ⟨c0, c1, c2, c3, c4, c5, c6, c7, c8⟩ := HBX.out _ T4.out.b
  go_wp2_with fail
  refine (K5.out _ (HBW.out _ T4.out.b)).mono ?_
  rintro e wa5 ⟨rfl, ba⟩
  have S5 := hid (T4.out.next ba)
  have C5 := hid (TL.out 16 y4 x5 _ S5.out (by have := M4.out; have := L5.out; omega))
  clear K5 T4 ba c0 c1 c2 c3 c4 c5 c6 c7 c8
  go_wp2_with fail
  refine C5.out.mono ?_
  rintro e wb5 ⟨rfl, tb⟩
  have T5 := hid tb
  have M5 : Hid ((y4 ++ flB h 16 x5).length ≤ 300000) := by show _ ≤ _; have := M4.out; have := L5.out; have := flB_len h 16 x5; rw [List.length_append]; omega
  clear C5 S5 tb M4 L5
  generalize hy5 : y4 ++ flB h 16 x5 = y5 at *
  have HY5 := hid hy5
  clear hy5
  obtain ⟨c0, c1, c2, c3, c4, c5, c6, c7, c8⟩ := HBX.out _ T5.out.b
  go_wp2_with fail
  refine (K6.out _ (HBW.out _ T5.out.b)).mono ?_
  rintro e wa6 ⟨rfl, ba⟩
  have S6 := hid (T5.out.next ba)
  have C6 := hid (TL.out 32 y5 x6 _ S6.out (by have := M5.out; have := L6.out; omega))
  clear K6 T5 ba c0 c1 c2 c3 c4 c5 c6 c7 c8
  go_wp2_with fail
  refine C6.out.mono ?_
  rintro e wb6 ⟨rfl, tb⟩
  have T6 := hid tb
  have M6 : Hid ((y5 ++ flB h 32 x6).length ≤ 350000) := by show _ ≤ _; have := M5.out; have := L6.out; have := flB_len h 32 x6; rw [List.length_append]; omega
  clear C6 S6 tb M5 L6
  generalize hy6 : y5 ++ flB h 32 x6 = y6 at *
  have HY6 := hid hy6
  clear hy6
  obtain ⟨c0, c1, c2, c3, c4, c5, c6, c7, c8⟩ := HBX.out _ T6.out.b
  go_wp2_with fail
  refine (K7.out _ (HBW.out _ T6.out.b)).mono ?_
  rintro e wa7 ⟨rfl, ba⟩
  have S7 := hid (T6.out.next ba)
  have C7 := hid (TL.out 64 y6 x7 _ S7.out (by have := M6.out; have := L7.out; omega))
  clear K7 T6 ba c0 c1 c2 c3 c4 c5 c6 c7 c8
  go_wp2_with fail
  refine C7.out.mono ?_
  rintro e wb7 ⟨rfl, tb⟩
  have T7 := hid tb
  have M7 : Hid ((y6 ++ flB h 64 x7).length ≤ 400000) := by show _ ≤ _; have := M6.out; have := L7.out; have := flB_len h 64 x7; rw [List.length_append]; omega
  clear C7 S7 tb M6 L7
  generalize hy7 : y6 ++ flB h 64 x7 = y7 at *
  have HY7 := hid hy7
  clear hy7
  obtain ⟨c0, c1, c2, c3, c4, c5, c6, c7, c8⟩ := HBX.out _ T7.out.b
  go_wp2_with fail
  refine (K8.out _ (HBW.out _ T7.out.b)).mono ?_
  rintro e wa8 ⟨rfl, ba⟩
  have S8 := hid (T7.out.next ba)
  have C8 := hid (TL.out 128 y7 x8 _ S8.out (by have := M7.out; have := L8.out; omega))
  clear K8 T7 ba c0 c1 c2 c3 c4 c5 c6 c7 c8
  go_wp2_with fail
  refine C8.out.mono ?_
  rintro e wb8 ⟨rfl, tb⟩
  have T8 := hid tb
  have M8 : Hid ((y7 ++ flB h 128 x8).length ≤ 450000) := by show _ ≤ _; have := M7.out; have := L8.out; have := flB_len h 128 x8; rw [List.length_append]; omega
  clear C8 S8 tb M7 L8
  generalize hy8 : y7 ++ flB h 128 x8 = y8 at *
  have HY8 := hid hy8
  clear hy8
  have ST := hid (bld_string V.heap.size V.heap.size y8 _ T8.out.bd T8.out.b.size)
  rw [hz] at ST
  have HV8 := hid (T8.out.b)
  have HEQ : Hid (R = y8) := HRR.out.symm
  clear T8 HRR HY1 HY2 HY3 HY4 HY5 HY6 HY7 HY8 TL HBX
  go_wp2_with fail
  refine ST.out.mono ?_
  rintro e we ⟨rfl, be⟩
  rw [← hz] at be
  have BE := hid (HBW.out _ (HV8.out.trans be))
  clear ST be HV8 HBW
  go_wp2
  go_ret
  exact ⟨by rw [HEQ.out]; rfl, BE.out⟩
end Go.Proofs.YtmadlnchmkhdjaaGreat
