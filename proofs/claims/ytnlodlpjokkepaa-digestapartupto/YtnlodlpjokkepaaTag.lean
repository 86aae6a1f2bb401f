/- The walk of the digest of parts. -/
import Derived.Test.YtnlodlpjokkepaaAwake3
import Derived.Test.YtnlodlpjokkepaaStrsM
namespace Go.Proofs.Ytnlodlpjokkepaa
open Go.RowKit
set_option linter.unusedVariables false

/-- what is digested of parts for a purpose -/
def tld (p : UInt8) (xs : List ByteArray) : List UInt8 := p :: xs.flatMap fun x => be x.size 8 ++ x.data.toList
theorem tld_nil (p : UInt8) : tld p [] = [p] := rfl
theorem tld_snoc (p : UInt8) (xs : List ByteArray) (j : Nat) (h : j < xs.length) : tld p (xs.take (j + 1)) = tld p (xs.take j) ++ be (xs.getD j ⟨#[]⟩).size 8 ++ (xs.getD j ⟨#[]⟩).data.toList := by
  have e : xs.getD j ⟨#[]⟩ = xs[j] := by rw [List.getD_eq_getElem?_getD, List.getElem?_eq_getElem h]; rfl
  unfold tld
  rw [e, List.take_succ_eq_append_getElem h, List.flatMap_append]
  simp only [List.flatMap_cons, List.flatMap_nil, List.append_nil, List.cons_append, List.append_assoc]
theorem tld_len (p : UInt8) (xs : List ByteArray) : (tld p xs).length ≤ 1 + room xs := by
  induction xs with
  | nil => simp [tld, room]
  | cons x r ih =>
    simp only [tld, room, List.flatMap_cons, List.map_cons, List.sum_cons, List.length_cons, List.length_append, be_len] at ih ⊢
    have : x.data.toList.length = x.size := by simp
    omega

set_option maxRecDepth 100000 in
set_option maxHeartbeats 1000000 in
theorem tagged_any (p : UInt8) (v : Value) (xs : List ByteArray) (w : World) (hv : Strs w v xs) (hr : room xs ≤ 1152921504606846976) :
    Calls Try.prog 12 #[.int .u8 (p.toNat : Int), v] w fun e w' => e = .returned (.string ⟨(sha (tld p xs)).toArray⟩) ∧ Below w.heap.size w w' := by
  have HN := show Hid _ from fun (_ : Unit) => new_any w
  have hb0 : Below w.heap.size w (w.alloc (.cells z73 53)) := (Below.refl _ _).alloc (Nat.le_refl _) _
  have HB0 : Hid (Below w.heap.size w (w.alloc (.cells z73 53))) := hb0
  have HH0 : Hid (HashAt (w.alloc (.cells z73 53)) w.heap.size [] ⟨0, 0, 0, 0, 0, 0, 0, 0⟩ (List.replicate 64 0)) := hash_new w
  have hxl : 10 * xs.length ≤ room xs := room_len xs
  have HV : Hid (Strs w v xs) := hv
  obtain ⟨ad, cap, hve, hc⟩ := hv.at
  have HC := show Hid _ from hc
  subst hve
  have hcv : ∀ W : World, (convert 44 9 (.slice (some ⟨W.heap.size, 0, none⟩) 1 1)).run Try.prog (W.alloc (.cells #[.int .u8 (p.toNat : Int)] 5)) = .ok (.string ⟨[p].toArray⟩) (W.alloc (.cells #[.int .u8 (p.toNat : Int)] 5)) := fun W =>
    run_convert_bytes_back (P := Try.prog) _ 44 9 5 ⟨W.heap.size, 0, none⟩ 1 [p] Try.underlying44 Try.underlying5 Try.underlying9 (by
        intro j hj
        rw [Addr.add_lit, Nat.zero_add, cell_of_row _ _ _ _ _ _ (heap_alloc_new _ _)]
        have : j = 0 := by simp at hj; omega
        subst this; rfl)
  clear hb0 hc hv
  generalize w.alloc (.cells z73 53) = w1 at HN HB0 HH0
  go_enter Try.func12, Try.ntmps12
  go_wp2_with fail
  refine (HN.out ()).mono ?_
  rintro e w' ⟨rfl, rfl⟩
  go_wp2_with fail
  have hb1 : Below w'.heap.size w' (w'.alloc (.cells #[.int .u8 (p.toNat : Int)] 5)) := (Below.refl _ _).alloc (Nat.le_refl _) _
  refine (write_any w.heap.size [] _ _ ⟨[p].toArray⟩ _ (HH0.out.keeps hb1) (by show 0 + 1 < _; decide)).mono ?_
  rintro e w2 ⟨rfl, ⟨b2, hH2⟩, hO2⟩
  have HH2 : Hid (HashAt w2 w.heap.size (tld p (xs.take 0)) (st (tld p (xs.take 0))) b2) := hH2
  have hB2 := HB0.out.trans (hb1.mono HB0.out.size)
  have HB2 : Hid (Below w.heap.size w w2) := hB2.trans (hO2.below (Nat.le_refl _) hB2.size)
  clear hb1 hH2 hO2 hB2 HH0 HB0 HN hcv
  go_wp2
  go_loopw [16] (fun i wr => ∃ (k : Nat) (b : List UInt8), k ≤ xs.length ∧ i = .int .i64 k ∧ Hid (HashAt wr w.heap.size (tld p (xs.take k)) (st (tld p (xs.take k))) b) ∧ Hid (Below w.heap.size w wr)) (fun i _ => xs.length - (intOf i).toNat)
  case atStart => exact ⟨0, b2, by omega, rfl, HH2, HB2⟩
  case round =>
    clear HH2 HB2
    obtain ⟨k, b, hk, rfl, HH, HB⟩ := hrel
    by_cases hlt : k < xs.length
    · obtain ⟨gb, off, had, hgb, hcell⟩ := HC.out k hlt
      subst had
      have hcw : wr.cell? ⟨gb, off + k, none⟩ = some (.string (xs.getD k ⟨#[]⟩)) := (HB.out.cell (p := ⟨gb, off + k, none⟩) hgb).trans hcell
      have hxs := room_get xs k
      have htl := tld_len p (xs.take k)
      have hrt := room_take xs k hlt
      have HS := show Hid _ from tld_snoc p xs k hlt
      generalize xs.getD k ⟨#[]⟩ = x at hcw hcell hxs hrt HS
      have HE := show Hid _ from fun w => eightBytes_any x.size w (by omega)
      have hk0 : (0 : Int) ≤ (k : Int) := by omega
      have hk1 : (k : Int) < (xs.length : Int) := by omega
      have hxb : (x.size : Int) ≤ 9223372036854775807 := by omega
      clear hcell
      go_wp2_with fail
      refine (HE.out _).mono ?_
      rintro e w3 ⟨rfl, hB3⟩
      go_wp2_with fail
      have hbs : (ByteArray.mk (be x.size 8).toArray).size = 8 := by show (be x.size 8).toArray.size = 8; simp [be_len]
      refine (write_any w.heap.size _ _ _ ⟨(be x.size 8).toArray⟩ _ (HH.out.keeps hB3) (by rw [hbs]; omega)).mono ?_
      rintro e w4 ⟨rfl, ⟨b4, hH4⟩, hO4⟩
      go_wp2_with fail
      refine (write_any w.heap.size _ _ _ x _ hH4 (by simp [be_len]; omega)).mono ?_
      rintro e w5 ⟨rfl, ⟨b5, hH5⟩, hO5⟩
      have HH5 : Hid (HashAt w5 w.heap.size (tld p (xs.take (k + 1))) (st (tld p (xs.take (k + 1)))) b5) := by rw [HS.out]; exact hH5
      have hB4 := HB.out.trans (hB3.mono HB.out.size)
      have hB5 := hB4.trans (hO4.below (Nat.le_refl _) hB4.size)
      have HB5 : Hid (Below w.heap.size w w5) := hB5.trans (hO5.below (Nat.le_refl _) hB5.size)
      clear hH4 hH5 hO4 hO5 hB4 hB5 hB3 HH HB HE
      go_wp2
      exact ⟨⟨k + 1, b5, by omega, by go_num, HH5, HB5⟩, by simp [intOf]; omega⟩
    · have hd : decide ((k : Int) < (xs.length : Int)) = false := decide_eq_false (by omega)
      have hd2 : decide (k < xs.length) = false := decide_eq_false hlt
      have e : xs.take k = xs := List.take_of_length_le (by omega)
      rw [e] at HH
      have htl := tld_len p xs
      clear e
      go_wp2_with fail
      refine (hsum_any _ _ _ _ _ HH.out (by omega)).mono ?_
      rintro e w3 ⟨rfl, hB3⟩
      go_wp2
      go_ret
      exact ⟨rfl, HB.out.trans (hB3.mono HB.out.size)⟩
end Go.Proofs.Ytnlodlpjokkepaa
