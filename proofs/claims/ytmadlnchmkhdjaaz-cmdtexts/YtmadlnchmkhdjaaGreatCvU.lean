/- The reference's texts of pieces and chains. -/
import Derived.Test.YtmadlnchmkhdjaaGreatCvT
import Derived.Test.YtmadlnchmkhdjaaGreatJoined24
import Derived.Test.YtmadlnchmkhdjaaGreatJoined25
import Derived.Deep.RegionHeld3
namespace Go.Proofs.YtmadlnchmkhdjaaGreat
open Go.RowKit Go.Maps
set_option linter.unusedVariables false
set_option linter.unusedSimpArgs false

set_option maxRecDepth 100000 in
set_option maxHeartbeats 2000000 in
theorem rtold_any (v : Value) (l : List Pc) (w : World) (hv : PcI w v l) (ha : ∀ p ∈ l, pcOk p = true) (hl : l.length ≤ 512) : Calls Tryz.prog 61 #[v] w fun e w' => e = .returned (.string ⟨(pcsB l).toArray⟩) ∧ Below w.heap.size w w' := by
  obtain ⟨ad, cap, rfl, hc⟩ := hv.form
  have HC := hid hc
  have N0 := hid (fun W => ref_number_any l.length W (by omega))
  have HNM : Hid (∀ (k : Nat) (hk : k < l.length) W, Calls Tryz.prog 93 #[.int .u64 ((l[k].sz.toNat : Nat) : Int)] W fun e w' => e = .returned (.string ⟨(put l[k].sz.toNat).toArray⟩) ∧ Below W.heap.size W w') := fun k hk W => ref_number_any _ W (by have := pcOk_id (ha _ (List.getElem_mem hk)); omega)
  have HTX : Hid (∀ (k : Nat) (hk : k < l.length) W, Calls Tryz.prog 53 #[.string l[k].id] W fun e w' => e = .returned (.string ⟨(ptx l[k].id).toArray⟩) ∧ Below W.heap.size W w') := fun k hk W => ref_text_any _ W (Nat.le_trans (Nat.le_of_eq (pcOk_id (ha _ (List.getElem_mem hk))).1) (by decide))
  have HSZ : Hid (∀ (k : Nat) (hk : k < l.length), l[k].sz = ((l[k].sz.toNat : Nat) : Int) ∧ l[k].sz.toNat ≤ 4096) := fun k hk => by have := pcOk_id (ha _ (List.getElem_mem hk)); omega
  have HT : Hid (∀ (k : Nat) (hk : k < l.length), put l.length ++ (l.take (k + 1)).flatMap pcB = (put l.length ++ (l.take k).flatMap pcB) ++ ptx l[k].id ++ put l[k].sz.toNat) := fun k hk => by rw [flatB_take pcB l k hk]; unfold pcB; simp
  have HLN : Hid (∀ (k : Nat) (hk : k < l.length), (put l.length ++ (l.take k).flatMap pcB).length ≤ 50000 ∧ (ptx l[k].id).length ≤ 74 ∧ (put l[k].sz.toNat).length ≤ 10) := fun k hk => by
    have h1 := flatB_len pcB 84 (l.take k) (fun p hp => pcB_len (by have := (pcOk_id (ha p (List.mem_of_mem_take hp))).1; omega))
    have h2 := (put_len l.length).2
    have h3 : (l.take k).length ≤ 512 := by simp; omega
    have h4 := ptx_len l[k].id
    have h5 := (put_len l[k].id.size).2
    have h6 := (pcOk_id (ha _ (List.getElem_mem hk))).1
    have h7 := (put_len l[k].sz.toNat).2
    rw [List.length_append]
    omega
  have HZ : Hid (put l.length ++ (l.take l.length).flatMap pcB = pcsB l) := by show _ = _; rw [List.take_length]; rfl
  have hwl : IntKind.u64.wrap (l.length : Int) = (l.length : Int) := by rw [IntKind.wrap_u64]; omega
  generalize pcsB l = R at *
  clear hc hv ha
  go_enter Tryz.func61, Tryz.ntmps61
  go_wp2_with fail
  refine (N0.out _).mono ?_
  rintro e w1 ⟨rfl, b1⟩
  have B1 := hid b1
  clear b1 N0 hwl
  go_wp2
  go_loopw [3, 4] (fun t i wr => ∃ (k : Nat) (A : List UInt8), k ≤ l.length ∧ t = .string ⟨A.toArray⟩ ∧ i = .int .i64 (k : Int) ∧ Hid (A = put l.length ++ (l.take k).flatMap pcB) ∧ Hid (Below w.heap.size w wr)) (fun _ i _ => l.length - (intOf i).toNat)
  case atStart => exact ⟨0, put l.length, Nat.zero_le _, rfl, rfl, by show _ = _; simp, B1⟩
  case round =>
    clear B1
    obtain ⟨k, A, hk, rfl, rfl, HA, HB⟩ := hrel
    by_cases hlt : k < l.length
    · have hk1 : (k : Int) < (l.length : Int) := by omega
      have hk0 : (0 : Int) ≤ (k : Int) := by omega
      have hwk : wrap64 ((k : Int) + 1) = ((k + 1 : Nat) : Int) := by rw [IntWalk.wrap64_in _ (by omega)]; omega
      obtain ⟨b, off, rfl, hb, c0, c1⟩ := HC.out k hlt
      have NM := hid (HNM.out k hlt)
      have TX := hid (HTX.out k hlt)
      have HTK := hid (HT.out k hlt)
      obtain ⟨hz1, hz2⟩ := HSZ.out k hlt
      have HLL := HLN.out k hlt
      have HLT := hid hlt
      rw [← HA.out] at HTK HLL
      clear HC HNM HTX HT HSZ HLN HZ HA
      generalize l[k] = p at *
      obtain ⟨id, sz⟩ := p
      simp only at *
      generalize hn : sz.toNat = N at *
      subst hz1
      clear hn
      have hwu : IntKind.u64.wrap (N : Int) = (N : Int) := by rw [IntKind.wrap_u64]; omega
      generalize ptx id = X1 at *
      generalize put N = X2 at *
      have q1 := fun W => add_ls A X1 W (by omega)
      have q2 := fun W => add_ls (A ++ X1) X2 W (by rw [List.length_append]; omega)
      generalize A ++ X1 ++ X2 = Y2 at *
      generalize A ++ X1 = Y1 at *
      have CL : Hid (∀ W, Below w.heap.size w W → W.cell? ⟨b, off + k * 2, none⟩ = some (.string id) ∧ W.cell? ⟨b, off + k * 2 + 1, none⟩ = some (.int .i64 (N : Int))) := fun W h => ⟨(h.cell (p := ⟨b, off + k * 2, none⟩) hb).trans c0, (h.cell (p := ⟨b, off + k * 2 + 1, none⟩) hb).trans c1⟩
      have BD := hid HB.out.drew
      have YD := hid (CL.out _ BD.out)
      have NZ : Hid (∀ W, Below w.heap.size w W → Calls Tryz.prog 93 #[.int .u64 (N : Int)] W fun e w' => e = .returned (.string ⟨X2.toArray⟩) ∧ (w'.cell? ⟨b, off + k * 2, none⟩ = some (.string id) ∧ w'.cell? ⟨b, off + k * 2 + 1, none⟩ = some (.int .i64 (N : Int))) ∧ Hid (Below w.heap.size w w')) := fun W h => (NM.out W).mono fun e w' ⟨he, hb⟩ => ⟨he, CL.out _ (below_on h hb), below_on h hb⟩
      have TZ : Hid (∀ W, Below w.heap.size w W → Calls Tryz.prog 53 #[.string id] W fun e w' => e = .returned (.string ⟨X1.toArray⟩) ∧ (w'.cell? ⟨b, off + k * 2, none⟩ = some (.string id) ∧ w'.cell? ⟨b, off + k * 2 + 1, none⟩ = some (.int .i64 (N : Int))) ∧ Hid (Below w.heap.size w w')) := fun W h => (TX.out W).mono fun e w' ⟨he, hb⟩ => ⟨he, CL.out _ (below_on h hb), below_on h hb⟩
      clear NM TX CL HB hlt hk hz2 HLL c0 c1 hb
      go_wp2
      go_region_held3 (fun w' => w'.cell? ⟨b, off + k * 2, none⟩ = some (.string id) ∧ w'.cell? ⟨b, off + k * 2 + 1, none⟩ = some (.int .i64 (N : Int))) (first | with_reducible exact YD.out | with_reducible assumption) (first | (go_at_call 93; (first | with_reducible (refine (NZ.out _ BT.out).mono ?_) | with_reducible (refine (NZ.out _ BD.out).mono ?_)); rintro e wn ⟨rfl, Zn, BN⟩) | (go_at_call 53; (first | with_reducible (refine (TZ.out _ BN.out).mono ?_) | with_reducible (refine (TZ.out _ BD.out).mono ?_)); rintro e wt ⟨rfl, Zt, BT⟩))
      all_goals
        clear q1 q2 NZ TZ Zn Zt YD BD
        go_wp2
        first | exact ⟨⟨k + 1, Y2, HLT.out, rfl, by first | rw [hwk] | rfl | simp, hid HTK.out.symm, BT⟩, by (try rw [hwk]); have := HLT.out; simp [intOf]; omega⟩ | exact ⟨⟨k + 1, Y2, HLT.out, rfl, by first | rw [hwk] | rfl | simp, hid HTK.out.symm, BN⟩, by (try rw [hwk]); have := HLT.out; simp [intOf]; omega⟩
    · have hke : k = l.length := by omega
      have hd : decide ((k : Int) < (l.length : Int)) = false := decide_eq_false (by omega)
      have hd2 : decide (k < l.length) = false := decide_eq_false hlt
      have HF : A = R := by rw [HA.out, hke, HZ.out]
      subst HF
      clear HC HNM HTX HT HSZ HLN HZ HA hke hlt hk
      go_wp2
      go_ret
      exact ⟨rfl, HB.out⟩
end Go.Proofs.YtmadlnchmkhdjaaGreat
