/- The walk of the law DigestPieces: however bytes are cut, it answers true. -/
import Derived.Test.YtnlodlpjokkepaaWParts
namespace Go.Proofs.Ytnlodlpjokkepaa
open Go.RowKit
set_option linter.unusedVariables false

/-- texts behind one another -/
def cat (xs : List ByteArray) : List UInt8 := xs.flatMap fun x => x.data.toList
theorem cat_snoc (xs : List ByteArray) (j : Nat) (h : j < xs.length) : cat (xs.take (j + 1)) = cat (xs.take j) ++ (xs.getD j ⟨#[]⟩).data.toList := by
  have e : xs.getD j ⟨#[]⟩ = xs[j] := by rw [List.getD_eq_getElem?_getD, List.getElem?_eq_getElem h]; rfl
  unfold cat
  rw [e, List.take_succ_eq_append_getElem h, List.flatMap_append]
  simp only [List.flatMap_cons, List.flatMap_nil, List.append_nil]
theorem cat_len (xs : List ByteArray) : (cat xs).length ≤ room xs := by
  induction xs with
  | nil => simp [cat, room]
  | cons x r ih =>
    simp only [cat, room, List.flatMap_cons, List.map_cons, List.sum_cons, List.length_append] at ih ⊢
    have : x.data.toList.length = x.size := by simp
    omega

set_option maxRecDepth 100000 in
set_option maxHeartbeats 1000000 in
theorem digestPieces_walk (v : Value) (xs : List ByteArray) (w : World) (hv : Strs w v xs) (hr : room xs ≤ 10485760) :
    Calls Try.prog 5 #[v] w fun e w' => e = .returned (.bool true) ∧ Below w.heap.size w w' := by
  have HN := show Hid _ from fun (_ : Unit) => new_any w
  have HB0 : Hid (Below w.heap.size w (w.alloc (.cells z73 53))) := (Below.refl _ _).alloc (Nat.le_refl _) _
  have HH0 : Hid (HashAt (w.alloc (.cells z73 53)) w.heap.size [] ⟨0, 0, 0, 0, 0, 0, 0, 0⟩ (List.replicate 64 0)) := hash_new w
  have hxl : 10 * xs.length ≤ room xs := room_len xs
  obtain ⟨ad, cap, hve, hc⟩ := hv.at
  have HC := show Hid _ from hc
  subst hve
  clear hc hv
  generalize w.alloc (.cells z73 53) = w1 at HN HB0 HH0
  go_enter Try.func5, Try.ntmps5
  go_wp2_with fail
  refine (HN.out ()).mono ?_
  rintro e w' ⟨rfl, rfl⟩
  go_wp2_with fail
  refine (awake3 _).mono ?_
  rintro e w2 ⟨rfl, hB1⟩
  have HH2 : Hid (HashAt w2 w.heap.size (cat (xs.take 0)) ⟨0, 0, 0, 0, 0, 0, 0, 0⟩ (List.replicate 64 0)) := HH0.out.keeps hB1
  have HB2 : Hid (Below w.heap.size w w2) := HB0.out.trans (hB1.mono HB0.out.size)
  clear HN HB0 HH0 hB1
  go_wp2
  go_loopw [4, 5] (fun a i wr => ∃ (k : Nat) (A : ByteArray) (s : St8) (b : List UInt8), k ≤ xs.length ∧ i = .int .i64 k ∧ a = .string A ∧ Hid (A.data.toList = cat (xs.take k)) ∧ Hid (HashAt wr w.heap.size (cat (xs.take k)) s b) ∧ Hid (Below w.heap.size w wr)) (fun _ i _ => xs.length - (intOf i).toNat)
  case atStart => exact ⟨0, ⟨#[]⟩, _, _, by omega, rfl, rfl, rfl, HH2, HB2⟩
  case round =>
    clear HH2 HB2
    obtain ⟨k, A, s, b, hk, rfl, rfl, HA, HH, HB⟩ := hrel
    have hcl : (cat (xs.take k)).length ≤ room xs := by
      have h1 := cat_len (xs.take k)
      have h2 : room (xs.take k) ≤ room xs := by
        by_cases h : k < xs.length
        · have := room_take xs k h; omega
        · rw [List.take_of_length_le (by omega)]; omega
      omega
    by_cases hgo : k < xs.length ∧ k < 20
    · obtain ⟨hlt, h20⟩ := hgo
      obtain ⟨gb, off, had, hgb, hcell⟩ := HC.out k hlt
      subst had
      have hcw : ∀ W, Below w.heap.size w W → W.cell? ⟨gb, off + k, none⟩ = some (.string (xs.getD k ⟨#[]⟩)) := fun W hW => (hW.cell (p := ⟨gb, off + k, none⟩) hgb).trans hcell
      have hc1 := hcw wr HB.out
      have hxs := room_get xs k
      have hrt := room_take xs k hlt
      have hct := cat_len (xs.take k)
      have HS := show Hid _ from cat_snoc xs k hlt
      have HCW := show Hid _ from hcw
      generalize xs.getD k ⟨#[]⟩ = x at hc1 hcell hxs hrt HS HCW
      generalize cat (xs.take k) = T at HA HH HS hcl hct
      have hAs : A.size = T.length := by have := congrArg List.length HA.out; simpa using this
      have hk0 : (0 : Int) ≤ (k : Int) := by omega
      have hk1 : (k : Int) < (xs.length : Int) := by omega
      have hk2 : (k : Int) < 20 := by omega
      have hadd : ∀ W : World, (Op.stringOp .add A x).run Try.prog W = .ok (.string (A ++ x)) W := fun W => run_string_add_sum (P := Try.prog) (w := W) A x (by omega)
      have HA2 : Hid ((A ++ x).data.toList = T ++ x.data.toList) := by show _ = _; rw [← HA.out]; simp [ByteArray.data_append]
      have hAs2 : (A ++ x).size = T.length + x.size := by rw [ByteArray.size_append]; omega
      have HSm : Hid (∀ W, Calls Try.prog 10 #[.string (A ++ x)] W fun e w' => e = .returned (.string ⟨(sha (T ++ x.data.toList)).toArray⟩) ∧ Below W.heap.size W w') := fun W => by
        have h := sum_any (A ++ x) W (by omega)
        rw [HA2.out] at h; exact h
      have hxx : x.data.toList.length = x.size := by simp
      clear hcell hcw hAs hAs2
      go_wp2_with fail
      refine (write_any w.heap.size T _ _ x _ HH.out (by omega)).mono ?_
      rintro e w3 ⟨rfl, ⟨b3, hH3⟩, hO3⟩
      have HB3 : Hid (Below w.heap.size w w3) := HB.out.trans (hO3.below (Nat.le_refl _) HB.out.size)
      have hc3 := HCW.out w3 HB3.out
      have HH3 : Hid (HashAt w3 w.heap.size (T ++ x.data.toList) (st (T ++ x.data.toList)) b3) := hH3
      clear hH3 hO3 HH HB hc1 HCW
      go_wp2_with fail
      refine (hsum_any _ _ _ _ _ HH3.out (by rw [List.length_append, hxx]; omega)).mono ?_
      rintro e w4 ⟨rfl, hB4⟩
      go_wp2_with fail
      refine (HSm.out _).mono ?_
      rintro e w5 ⟨rfl, hB5⟩
      have hB45 := hB4.trans (hB5.mono hB4.size)
      have HH5 : Hid (HashAt w5 w.heap.size (cat (xs.take (k + 1))) (st (T ++ x.data.toList)) b3) := by rw [HS.out]; exact HH3.out.keeps hB45
      have HB5 : Hid (Below w.heap.size w w5) := HB3.out.trans (hB45.mono HB3.out.size)
      have HA5 : Hid ((A ++ x).data.toList = cat (xs.take (k + 1))) := by show _ = _; rw [HA2.out, HS.out]
      clear hB4 hB5 hB45 HH3 HB3 HSm HA2 HA hadd hc3
      generalize sha (T ++ x.data.toList) = u
      go_wp2
      exact ⟨⟨k + 1, A ++ x, _, b3, by omega, by go_num, rfl, HA5, HH5, HB5⟩, by simp [intOf]; omega⟩
    · have hAs : A.size = (cat (xs.take k)).length := by have := congrArg List.length HA.out; simpa using this
      have HSm : Hid (∀ W, Calls Try.prog 11 #[.string A] W fun e w' => e = .returned (.string ⟨(sha (cat (xs.take k))).toArray⟩) ∧ Below W.heap.size W w') := fun W => by
        have h := rsum_any A W (by omega)
        rw [HA.out] at h; exact h
      generalize cat (xs.take k) = T at HA HH HSm hcl hAs
      have HHs := show Hid _ from fun (_ : Unit) => hsum_any _ _ _ _ wr HH.out (by omega)
      clear hAs
      by_cases hlt : k < xs.length
      · have h20 : ¬ k < 20 := fun h => hgo ⟨hlt, h⟩
        have hk1 : (k : Int) < (xs.length : Int) := by omega
        have hd20 : decide ((k : Int) < 20) = false := decide_eq_false (by omega)
        clear hgo HC
        go_wp2_with fail
        refine (write_nil A _).mono ?_
        rintro e w3 ⟨rfl, rfl⟩
        go_wp2_with fail
        refine (HHs.out ()).mono ?_
        rintro e w4 ⟨rfl, hB4⟩
        go_wp2_with fail
        refine (HSm.out _).mono ?_
        rintro e w5 ⟨rfl, hB5⟩
        generalize sha T = u
        go_wp2_with fail
        refine (hsum_nil _).mono ?_
        rintro e w6 ⟨rfl, rfl⟩
        go_wp2
        go_ret
        have b4 := HB.out.trans (hB4.mono HB.out.size)
        exact ⟨rfl, b4.trans (hB5.mono b4.size)⟩
      · have hd1 : decide ((k : Int) < (xs.length : Int)) = false := decide_eq_false (by omega)
        have hd2 : decide (k < xs.length) = false := decide_eq_false hlt
        clear hgo HC
        go_wp2_with fail
        refine (write_nil A _).mono ?_
        rintro e w3 ⟨rfl, rfl⟩
        go_wp2_with fail
        refine (HHs.out ()).mono ?_
        rintro e w4 ⟨rfl, hB4⟩
        go_wp2_with fail
        refine (HSm.out _).mono ?_
        rintro e w5 ⟨rfl, hB5⟩
        generalize sha T = u
        go_wp2_with fail
        refine (hsum_nil _).mono ?_
        rintro e w6 ⟨rfl, rfl⟩
        go_wp2
        go_ret
        have b4 := HB.out.trans (hB4.mono HB.out.size)
        exact ⟨rfl, b4.trans (hB5.mono b4.size)⟩
end Go.Proofs.Ytnlodlpjokkepaa
