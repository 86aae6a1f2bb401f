/- The walks of the document's digest of parts, and of what is digested. -/
import Derived.Test.YtnlodlpjokkepaaTag
namespace Go.Proofs.Ytnlodlpjokkepaa
open Go.RowKit
set_option linter.unusedVariables false

theorem BSl.brow {w : World} {base : Nat} {v : Value} {L : List UInt8} (h : BSl w base v L) (hL : L ≠ []) : BRow w base v L := by
  rcases h with ⟨_, h⟩ | h
  · exact absurd h hL
  · exact h
theorem bsl_one (w : World) (c : UInt8) : BSl (w.alloc (.cells #[.int .u8 (c.toNat : Int)] 5)) w.heap.size (.slice (some ⟨w.heap.size, 0, none⟩) 1 1) [c] :=
  .inr ⟨w.heap.size, 1, rfl, Nat.le_refl _, by simp, by simp, fun j hj => by
    have : j = 0 := by simp at hj; omega
    subst this; rw [cell_of_row _ _ _ _ _ _ (heap_alloc_new _ _)]; rfl, fun j hj => ⟨by
    have : j = 0 := by omega
    subst this; rw [cell_of_row _ _ _ _ _ _ (heap_alloc_new _ _)]; rfl, frozen_of_row _ _ _ _ _ (heap_alloc_new _ _)⟩⟩
theorem tld_ne (p : UInt8) (xs : List ByteArray) : tld p xs ≠ [] := by simp [tld]

set_option maxRecDepth 100000 in
set_option maxHeartbeats 1000000 in
theorem rtagged_any (p : UInt8) (v : Value) (xs : List ByteArray) (w : World) (hv : Strs w v xs) (hr : room xs ≤ 100000000) :
    Calls Try.prog 13 #[.int .u8 (p.toNat : Int), v] w fun e w' => e = .returned (.string ⟨(sha (tld p xs)).toArray⟩) ∧ Below w.heap.size w w' := by
  have hxl : 10 * xs.length ≤ room xs := room_len xs
  have HV : Hid (Strs w v xs) := hv
  obtain ⟨ad, cap, hve, hc⟩ := hv.at
  have HC := show Hid _ from hc
  subst hve
  have HB0 : Hid (BSl (w.alloc (.cells #[.int .u8 (p.toNat : Int)] 5)) w.heap.size (.slice (some ⟨w.heap.size, 0, none⟩) 1 1) (tld p (xs.take 0))) := bsl_one w p
  have HE0 : Hid (Below w.heap.size w (w.alloc (.cells #[.int .u8 (p.toNat : Int)] 5))) := (Below.refl _ _).alloc (Nat.le_refl _) _
  clear hc hv
  go_enter Try.func13, Try.ntmps13
  go_wp2
  go_loopw [5, 6] (fun u i wr => ∃ k : Nat, k ≤ xs.length ∧ i = .int .i64 k ∧ Hid (BSl wr w.heap.size u (tld p (xs.take k))) ∧ Hid (Below w.heap.size w wr)) (fun _ i _ => xs.length - (intOf i).toNat)
  case atStart => exact ⟨0, by omega, rfl, HB0, HE0⟩
  case round =>
    clear HB0 HE0
    obtain ⟨k, hk, rfl, HB, HE⟩ := hrel
    by_cases hlt : k < xs.length
    · obtain ⟨gb, off, had, hgb, hcell⟩ := HC.out k hlt
      subst had
      have hcw : wr.cell? ⟨gb, off + k, none⟩ = some (.string (xs.getD k ⟨#[]⟩)) := (HE.out.cell (p := ⟨gb, off + k, none⟩) hgb).trans hcell
      have hxs := room_get xs k
      have htl := tld_len p (xs.take k)
      have hrt := room_take xs k hlt
      have HS := show Hid _ from tld_snoc p xs k hlt
      have HNE := tld_ne p (xs.take k)
      have HN : Hid (tld p (xs.take k) ≠ []) := HNE
      generalize xs.getD k ⟨#[]⟩ = x at hcw hcell hxs hrt HS
      generalize tld p (xs.take k) = L at HB HS htl HN
      have HB' : Hid (BSl wr w.heap.size u5 (L ++ e8p x.size 0)) := by rw [e8p_zero, List.append_nil]; exact HB
      have hk0 : (0 : Int) ≤ (k : Int) := by omega
      have hk1 : (k : Int) < (xs.length : Int) := by omega
      have hxb : (x.size : Int) ≤ 9223372036854775807 := by omega
      have HCE := show Hid _ from hcell
      clear HB HNE hcell
      go_wp2
      go_loopw [5, 8] (fun u i wr => ∃ j : Nat, j ≤ 8 ∧ i = .int .i64 (56 - 8 * (j : Int)) ∧ Hid (BSl wr w.heap.size u (L ++ e8p x.size j)) ∧ Hid (Below w.heap.size w wr)) (fun _ i _ => (intOf i + 8).toNat)
      case atStart => exact ⟨0, by omega, rfl, HB', HE⟩
      case round =>
        clear HB' HE hcw
        obtain ⟨j, hj, rfl, HB, HE⟩ := hrel
        by_cases hlj : j < 8
        · have h56 : (0 : Int) ≤ 56 - 8 * (j : Int) := by omega
          have hle : 56 - 8 * (j : Int) ≤ 56 := by omega
          have HSj := show Hid _ from e8p_succ x.size j hlj
          have hc := byte_shr x.size j hlj
          generalize UInt8.ofNat (x.size / 256 ^ (7 - j)) = c at HSj hc
          have HM1 : Hid (#[Value.int .u8 ((x.size : Int) / 2 ^ (56 - 8 * j) % 256)] = (bs [c]).toArray) := by show _ = _; rw [hc]; rfl
          have HL1 : Hid (1 = [c].length) := rfl
          have HSZ : Hid (w.heap.size ≤ wr.heap.size) := HE.out.size
          have HLL : Hid ((L ++ e8p x.size j).length + [c].length ≤ 140737488355328) := by show _ ≤ _; rw [List.length_append, e8p_len x.size j hj]; simp; omega
          have HMN : Hid ([c] ≠ []) := by show _ ≠ _; simp
          clear hc
          go_wp2_with (at_builtin; refine wpl_bsl rfl _ _ rfl w.heap.size _ (L ++ e8p x.size j) wr [c] _ HM1.out rfl 1 HL1.out rfl rfl HB.out HSZ.out HLL.out HMN.out ?_; intro v1 w3 hb1 hbel1)
          exact ⟨⟨j + 1, by omega, congrArg (Value.int .i64) (by omega), by rw [HSj.out, ← List.append_assoc]; exact hb1, HE.out.trans hbel1⟩, by simp [intOf]; omega⟩
        · have hd : decide (8 * (j : Int) ≤ 56) = false := decide_eq_false (by omega)
          have hd2 : ¬ (8 * (j : Int) ≤ 56) := by omega
          have e8 : j = 8 := by omega
          have HBR : Hid (BRow wr w.heap.size u5 (L ++ be x.size 8)) := by
            have h := HB.out
            rw [e8, e8p_all] at h
            exact h.brow (fun e => HN.out (List.append_eq_nil_iff.1 e).1)
          have hcw : wr.cell? ⟨gb, off + k, none⟩ = some (.string x) := (HE.out.cell (p := ⟨gb, off + k, none⟩) hgb).trans HCE.out
          have HSZ : Hid (w.heap.size ≤ wr.heap.size) := HE.out.size
          have HLL : Hid ((L ++ be x.size 8).length + x.size ≤ 140737488355328) := by show _ ≤ _; rw [List.length_append, be_len]; omega
          clear e8 hlj hj HB
          go_wp2_with (at_builtin; refine wpList_brow _ rfl _ _ rfl w.heap.size _ (L ++ be x.size 8) x rfl rfl HBR.out HSZ.out HLL.out ?_; intro v1 w3 hb1 hbel1)
          exact ⟨⟨k + 1, by omega, by go_num, by rw [HS.out]; exact .inr hb1, HE.out.trans hbel1⟩, by simp [intOf]; omega⟩
    · have hd : decide ((k : Int) < (xs.length : Int)) = false := decide_eq_false (by omega)
      have hd2 : decide (k < xs.length) = false := decide_eq_false hlt
      have e : xs.take k = xs := List.take_of_length_le (by omega)
      rw [e] at HB
      have hcv := HB.out.text
      have htl := tld_len p xs
      clear e HB
      have hts : (ByteArray.mk (tld p xs).toArray).size = (tld p xs).length := by show (tld p xs).toArray.size = _; simp
      have HSm := show Hid _ from fun w => rsum_any ⟨(tld p xs).toArray⟩ w (by rw [hts]; omega)
      clear hts htl
      generalize hT : tld p xs = T at hcv HSm
      have HT := show Hid _ from hT
      clear hT
      go_wp2_with fail
      refine (HSm.out _).mono ?_
      rintro e w3 ⟨rfl, hB3⟩
      go_wp2
      go_ret
      exact ⟨ret_str (by rw [HT.out]), HE.out.trans (hB3.mono HE.out.size)⟩

set_option maxRecDepth 100000 in
set_option maxHeartbeats 1000000 in
theorem told_any (p : UInt8) (v : Value) (xs : List ByteArray) (w : World) (hv : Strs w v xs) (hr : room xs ≤ 100000000) :
    Calls Try.prog 21 #[.int .u8 (p.toNat : Int), v] w fun e w' => e = .returned (.string ⟨(tld p xs).toArray⟩) ∧ Below w.heap.size w w' := by
  have hxl : 10 * xs.length ≤ room xs := room_len xs
  have HV : Hid (Strs w v xs) := hv
  obtain ⟨ad, cap, hve, hc⟩ := hv.at
  have HC := show Hid _ from hc
  subst hve
  have HB0 : Hid (BSl (w.alloc (.cells #[.int .u8 (p.toNat : Int)] 5)) w.heap.size (.slice (some ⟨w.heap.size, 0, none⟩) 1 1) (tld p (xs.take 0))) := bsl_one w p
  have HE0 : Hid (Below w.heap.size w (w.alloc (.cells #[.int .u8 (p.toNat : Int)] 5))) := (Below.refl _ _).alloc (Nat.le_refl _) _
  clear hc hv
  go_enter Try.func21, Try.ntmps21
  go_wp2
  go_loopw [5, 6] (fun u i wr => ∃ k : Nat, k ≤ xs.length ∧ i = .int .i64 k ∧ Hid (BSl wr w.heap.size u (tld p (xs.take k))) ∧ Hid (Below w.heap.size w wr)) (fun _ i _ => xs.length - (intOf i).toNat)
  case atStart => exact ⟨0, by omega, rfl, HB0, HE0⟩
  case round =>
    clear HB0 HE0
    obtain ⟨k, hk, rfl, HB, HE⟩ := hrel
    by_cases hlt : k < xs.length
    · obtain ⟨gb, off, had, hgb, hcell⟩ := HC.out k hlt
      subst had
      have hcw : wr.cell? ⟨gb, off + k, none⟩ = some (.string (xs.getD k ⟨#[]⟩)) := (HE.out.cell (p := ⟨gb, off + k, none⟩) hgb).trans hcell
      have hxs := room_get xs k
      have htl := tld_len p (xs.take k)
      have hrt := room_take xs k hlt
      have HS := show Hid _ from tld_snoc p xs k hlt
      have HNE := tld_ne p (xs.take k)
      have HN : Hid (tld p (xs.take k) ≠ []) := HNE
      generalize xs.getD k ⟨#[]⟩ = x at hcw hcell hxs hrt HS
      generalize tld p (xs.take k) = L at HB HS htl HN
      have HB' : Hid (BSl wr w.heap.size u5 (L ++ e8p x.size 0)) := by rw [e8p_zero, List.append_nil]; exact HB
      have hk0 : (0 : Int) ≤ (k : Int) := by omega
      have hk1 : (k : Int) < (xs.length : Int) := by omega
      have hxb : (x.size : Int) ≤ 9223372036854775807 := by omega
      have HCE := show Hid _ from hcell
      clear HB HNE hcell
      go_wp2
      go_loopw [5, 8] (fun u i wr => ∃ j : Nat, j ≤ 8 ∧ i = .int .i64 (56 - 8 * (j : Int)) ∧ Hid (BSl wr w.heap.size u (L ++ e8p x.size j)) ∧ Hid (Below w.heap.size w wr)) (fun _ i _ => (intOf i + 8).toNat)
      case atStart => exact ⟨0, by omega, rfl, HB', HE⟩
      case round =>
        clear HB' HE hcw
        obtain ⟨j, hj, rfl, HB, HE⟩ := hrel
        by_cases hlj : j < 8
        · have h56 : (0 : Int) ≤ 56 - 8 * (j : Int) := by omega
          have hle : 56 - 8 * (j : Int) ≤ 56 := by omega
          have HSj := show Hid _ from e8p_succ x.size j hlj
          have hc := byte_shr x.size j hlj
          generalize UInt8.ofNat (x.size / 256 ^ (7 - j)) = c at HSj hc
          have HM1 : Hid (#[Value.int .u8 ((x.size : Int) / 2 ^ (56 - 8 * j) % 256)] = (bs [c]).toArray) := by show _ = _; rw [hc]; rfl
          have HL1 : Hid (1 = [c].length) := rfl
          have HSZ : Hid (w.heap.size ≤ wr.heap.size) := HE.out.size
          have HLL : Hid ((L ++ e8p x.size j).length + [c].length ≤ 140737488355328) := by show _ ≤ _; rw [List.length_append, e8p_len x.size j hj]; simp; omega
          have HMN : Hid ([c] ≠ []) := by show _ ≠ _; simp
          clear hc
          go_wp2_with (at_builtin; refine wpl_bsl rfl _ _ rfl w.heap.size _ (L ++ e8p x.size j) wr [c] _ HM1.out rfl 1 HL1.out rfl rfl HB.out HSZ.out HLL.out HMN.out ?_; intro v1 w3 hb1 hbel1)
          exact ⟨⟨j + 1, by omega, congrArg (Value.int .i64) (by omega), by rw [HSj.out, ← List.append_assoc]; exact hb1, HE.out.trans hbel1⟩, by simp [intOf]; omega⟩
        · have hd : decide (8 * (j : Int) ≤ 56) = false := decide_eq_false (by omega)
          have hd2 : ¬ (8 * (j : Int) ≤ 56) := by omega
          have e8 : j = 8 := by omega
          have HBR : Hid (BRow wr w.heap.size u5 (L ++ be x.size 8)) := by
            have h := HB.out
            rw [e8, e8p_all] at h
            exact h.brow (fun e => HN.out (List.append_eq_nil_iff.1 e).1)
          have hcw : wr.cell? ⟨gb, off + k, none⟩ = some (.string x) := (HE.out.cell (p := ⟨gb, off + k, none⟩) hgb).trans HCE.out
          have HSZ : Hid (w.heap.size ≤ wr.heap.size) := HE.out.size
          have HLL : Hid ((L ++ be x.size 8).length + x.size ≤ 140737488355328) := by show _ ≤ _; rw [List.length_append, be_len]; omega
          clear e8 hlj hj HB
          go_wp2_with (at_builtin; refine wpList_brow _ rfl _ _ rfl w.heap.size _ (L ++ be x.size 8) x rfl rfl HBR.out HSZ.out HLL.out ?_; intro v1 w3 hb1 hbel1)
          exact ⟨⟨k + 1, by omega, by go_num, by rw [HS.out]; exact .inr hb1, HE.out.trans hbel1⟩, by simp [intOf]; omega⟩
    · have hd : decide ((k : Int) < (xs.length : Int)) = false := decide_eq_false (by omega)
      have hd2 : decide (k < xs.length) = false := decide_eq_false hlt
      have e : xs.take k = xs := List.take_of_length_le (by omega)
      rw [e] at HB
      have hcv := HB.out.text
      have htl := tld_len p xs
      clear e HB
      go_wp2
      go_ret
      exact ⟨rfl, HE.out⟩
end Go.Proofs.Ytnlodlpjokkepaa
