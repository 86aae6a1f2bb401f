/- Pieces', versions' and chains' texts: the program. -/
import Derived.Test.YtmadlnchmkhdjaaGreatTxM
import Derived.Test.YtmadlnchmkhdjaaGreatJoined13
import Derived.Test.YtmadlnchmkhdjaaGreatLayB
import Derived.Test.YtmadlnchmkhdjaaGreatJoined01
namespace Go.Proofs.YtmadlnchmkhdjaaGreat
open Go.RowKit Go.Maps
set_option linter.unusedVariables false
set_option linter.unusedSimpArgs false

def pcB (p : Pc) : List UInt8 := ptx p.id ++ put p.sz.toNat
def pcsB (l : List Pc) : List UInt8 := put l.length ++ l.flatMap pcB
def vnB (v : Vn) : List UInt8 := if v.ma = true then put v.id.toNat ++ put 1 else put v.id.toNat ++ put 0 ++ pcsB v.ps ++ ptx v.sum
def chB (l : List Vn) : List UInt8 := put l.length ++ l.flatMap vnB
def chT (l : List Vn) : ByteArray := if isCh l = true then ⟨(chB l).toArray⟩ else ⟨#[]⟩
def chTE (l : List Vn) : Int := if isCh l = true then 0 else 1
theorem pcB_len {p : Pc} (h : p.id.size ≤ 64) : (pcB p).length ≤ 84 := by
  unfold pcB
  rw [List.length_append, ptx_len]
  have := (put_len p.id.size).2
  have := (put_len p.sz.toNat).2
  omega
theorem pcsB_len {l : List Pc} (h : ∀ p ∈ l, pcOk p = true) (hl : l.length ≤ 512) : (pcsB l).length ≤ 43018 := by
  unfold pcsB
  have h1 := flatB_len pcB 84 l (fun p hp => pcB_len (by have := (pcOk_id (h p hp)).1; omega))
  have := (put_len l.length).2
  rw [List.length_append]
  omega
theorem vnB_len {v : Vn} (h : vnOk v = true) : (vnB v).length ≤ 43122 := by
  have h1 := vnOk_ps h
  have h2 := vnOk_sum h
  have h3 := pcsB_len h1.2.1 h1.1
  have h4 := (put_len v.id.toNat).2
  have h5 := (put_len 0).2
  have h6 := (put_len 1).2
  have h7 := ptx_len v.sum
  have h8 := (put_len v.sum.size).2
  unfold vnB
  split
  · rw [List.length_append]; omega
  · rw [List.length_append, List.length_append, List.length_append]; omega
theorem chB_len {l : List Vn} (h : isCh l = true) : (chB l).length ≤ 1379914 := by
  unfold chB
  have h1 := flatB_len vnB 43122 l (fun v hv => vnB_len (isCh_all h v hv))
  have h2 := isCh_len h
  have := (put_len l.length).2
  rw [List.length_append]
  omega
set_option maxRecDepth 100000 in
set_option maxHeartbeats 2000000 in
theorem ptext_any (v : Value) (l : List Pc) (w : World) (hv : PcI w v l) (ha : ∀ p ∈ l, pcOk p = true) (hl : l.length ≤ 512) : Calls Tryz.prog 58 #[v] w fun e w' => e = .returned (.string ⟨(pcsB l).toArray⟩) ∧ Below w.heap.size w w' := by
  obtain ⟨ad, cap, rfl, hc⟩ := hv.form
  have HC := hid hc
  have N0 := hid (fun W => number_any l.length W (by omega))
  have HNM : Hid (∀ (k : Nat) (hk : k < l.length) W, Calls Tryz.prog 91 #[.int .u64 ((l[k].sz.toNat : Nat) : Int)] W fun e w' => e = .returned (.string ⟨(put l[k].sz.toNat).toArray⟩) ∧ Below W.heap.size W w') := fun k hk W => number_any _ W (by have := pcOk_id (ha _ (List.getElem_mem hk)); omega)
  have HTX : Hid (∀ (k : Nat) (hk : k < l.length) W, Calls Tryz.prog 51 #[.string l[k].id] W fun e w' => e = .returned (.string ⟨(ptx l[k].id).toArray⟩) ∧ Below W.heap.size W w') := fun k hk W => text_any _ W (Nat.le_trans (Nat.le_of_eq (pcOk_id (ha _ (List.getElem_mem hk))).1) (by decide))
  have HSZ : Hid (∀ (k : Nat) (hk : k < l.length), l[k].sz = ((l[k].sz.toNat : Nat) : Int) ∧ l[k].sz.toNat ≤ 4096) := fun k hk => by have := pcOk_id (ha _ (List.getElem_mem hk)); omega
  have HT : Hid (∀ (k : Nat) (hk : k < l.length), put l.length ++ (l.take (k + 1)).flatMap pcB = (put l.length ++ (l.take k).flatMap pcB) ++ ptx l[k].id ++ put l[k].sz.toNat) := fun k hk => by rw [flatB_take pcB l k hk]; unfold pcB; simp
  have HLN : Hid (∀ (k : Nat) (hk : k < l.length), (put l.length ++ (l.take k).flatMap pcB).length ≤ 50000 ∧ (ptx l[k].id).length ≤ 74 ∧ (put l[k].sz.toNat).length ≤ 10) := fun k hk => by
    have h1 := flatB_len pcB 84 (l.take k) (fun p hp => pcB_len (by have := (pcOk_id (ha p (List.mem_of_mem_take hp))).1; omega))
    have h2 := (put_len l.length).2
    have h3 : (l.take k).length ≤ 512 := by simp; omega
    have h4 := ptx_len l[k].id
    have h5 := (put_len l[k].id.size).2
    have h6 := (pcOk_id (ha _ (List.getElem_mem hk))).1
    have h7 := (put_len l[k].sz.toNat).2
    rw [List.length_append]
    omega
  have HPL := hid (put_len l.length).2
  have HZ : Hid (put l.length ++ (l.take l.length).flatMap pcB = pcsB l) := by show _ = _; rw [List.take_length]; rfl
  have B0 := hid (BS.new w)
  have hwl : IntKind.u64.wrap (l.length : Int) = (l.length : Int) := by rw [IntKind.wrap_u64]; omega
  generalize pcsB l = R at *
  clear hc hv ha
  go_enter Tryz.func58, Tryz.ntmps58
  go_wp2_with fail
  refine (N0.out _).mono ?_
  rintro e w1 ⟨rfl, b1⟩
  have B1 := hid (B0.out.next b1)
  have W1 := hid (B1.out.wr (put l.length) (by have := HPL.out; simp; omega))
  clear b1 N0 B0
  go_wp2_with fail
  refine W1.out.mono ?_
  rintro e w2 ⟨n2, rfl, B2, -⟩
  clear W1 B1 hwl
  go_wp2
  go_loopw [13] (fun i wr => ∃ (k : Nat), k ≤ l.length ∧ i = .int .i64 (k : Int) ∧ Hid (BS w (put l.length ++ (l.take k).flatMap pcB) wr)) (fun i _ => l.length - (intOf i).toNat)
  case atStart => exact ⟨0, Nat.zero_le _, rfl, hid (by simpa using B2.out)⟩
  case round =>
    clear B2
    obtain ⟨k, hk, rfl, HB⟩ := hrel
    by_cases hlt : k < l.length
    · have hk1 : (k : Int) < (l.length : Int) := by omega
      have hk0 : (0 : Int) ≤ (k : Int) := by omega
      have hwk : wrap64 ((k : Int) + 1) = ((k + 1 : Nat) : Int) := by rw [IntWalk.wrap64_in _ (by omega)]; omega
      obtain ⟨b, off, rfl, hb, c0, c1⟩ := HC.out k hlt
      have d0 := (HB.out.b.cell (p := ⟨b, off + k * 2, none⟩) hb).trans c0
      have d1 := (HB.out.b.cell (p := ⟨b, off + k * 2 + 1, none⟩) hb).trans c1
      have NM := hid (HNM.out k hlt)
      have TX := hid (HTX.out k hlt)
      have HTK := hid (HT.out k hlt)
      obtain ⟨hz1, hz2⟩ := HSZ.out k hlt
      have HLL := hid (HLN.out k hlt)
      have HLT := hid hlt
      have hk5 : (k : Int) < 512 := by omega
      clear HC HNM HTX HT HSZ HLN HZ c0 c1 hb
      generalize l[k] = p at *
      obtain ⟨id, sz⟩ := p
      simp only at *
      generalize hn : sz.toNat = N at *
      subst hz1
      clear hn
      have hwu : IntKind.u64.wrap (N : Int) = (N : Int) := by rw [IntKind.wrap_u64]; omega
      generalize put l.length ++ (l.take k).flatMap pcB = X0 at *
      generalize ptx id = X1 at *
      generalize put N = X2 at *
      have BX := hid (srow wr [.string id, .int .i64 (N : Int)] 107)
      have H1 := hid (HB.out.al (.cells #[.string id, .int .i64 (N : Int)] 107))
      have HNE : Hid (w.heap.size < wr.heap.size) := by
        rcases HB.out.bd with ⟨_, _, h, _⟩ | ⟨_, _, h, _⟩ <;> exact (Array.getElem?_eq_some_iff.1 h).1
      have y0 := BX.out.cellAt (o := 0) rfl
      clear hlt hk HB
      go_wp2_with fail
      refine (TX.out _).mono ?_
      rintro e w3 ⟨rfl, b3⟩
      have H3 := hid (H1.out.next b3)
      have X3 := hid (BX.out.keep (b3.keep (fun _ => False)) (fun h => h))
      have W3 := hid (H3.out.wr X1 (by have := HLL.out; omega))
      clear b3 TX BX H1 y0 d0 d1
      go_wp2_with fail
      refine W3.out.mono ?_
      rintro e w4 ⟨n4, rfl, H4, K4⟩
      have X4 := hid (K4.out _ _ _ (by have := HNE.out; omega) (by decide) X3.out)
      clear W3 K4 X3 H3
      have y1 := X4.out.cellAt (o := 1) rfl
      go_wp2_with fail
      refine (NM.out _).mono ?_
      rintro e w5 ⟨rfl, b5⟩
      have H5 := hid (H4.out.next b5)
      have W5 := hid (H5.out.wr X2 (by have := HLL.out; simp; omega))
      clear b5 NM X4 H4 y1
      go_wp2_with fail
      refine W5.out.mono ?_
      rintro e w6 ⟨n6, rfl, H6, -⟩
      have H7 : Hid (BS w (put l.length ++ (l.take (k + 1)).flatMap pcB) w6) := by have := H6.out; rw [HTK.out]; exact this
      clear W5 H5 H6 HTK HLL hwu
      go_wp2
      exact ⟨⟨k + 1, HLT.out, by first | rw [hwk] | rfl | simp, H7⟩, by (try rw [hwk]); have := HLT.out; simp [intOf]; omega⟩
    · have hke : k = l.length := by omega
      have hd : decide ((k : Int) < (l.length : Int)) = false := decide_eq_false (by omega)
      have hd2 : decide (k < l.length) = false := decide_eq_false hlt
      have HF : Hid (BS w R wr) := by have := HB.out; rw [hke, HZ.out] at this; exact this
      have ST := hid (bld_string w.heap.size w.heap.size R wr HF.out.bd HF.out.b.size)
      clear HC HNM HTX HT HSZ HLN HZ HB hke hlt hk
      go_wp2_with fail
      refine ST.out.mono ?_
      rintro e w5 ⟨rfl, b5⟩
      have B5 := hid (HF.out.b.trans b5)
      clear ST b5 HF
      go_wp2
      go_ret
      exact ⟨rfl, B5.out⟩
end Go.Proofs.YtmadlnchmkhdjaaGreat
