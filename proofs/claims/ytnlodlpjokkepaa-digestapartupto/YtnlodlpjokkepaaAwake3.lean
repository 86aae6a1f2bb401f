/- The walk of layer 3's worked example: it answers true; and of the law DigestSums. -/
import Derived.Test.YtnlodlpjokkepaaHexW
namespace Go.Proofs.Ytnlodlpjokkepaa
open Go.RowKit
set_option linter.unusedVariables false

theorem hex_two : hexL (sha [97, 98, 99, 100, 98, 99, 100, 101, 99, 100, 101, 102, 100, 101, 102, 103, 101, 102, 103, 104, 102, 103, 104, 105, 103, 104, 105, 106, 104, 105, 106, 107, 105, 106, 107, 108, 106, 107, 108, 109, 107, 108, 109, 110, 108, 109, 110, 111, 109, 110, 111, 112, 110, 111, 112, 113]) = [50, 52, 56, 100, 54, 97, 54, 49, 100, 50, 48, 54, 51, 56, 98, 56, 101, 53, 99, 48, 50, 54, 57, 51, 48, 99, 51, 101, 54, 48, 51, 57, 97, 51, 51, 99, 101, 52, 53, 57, 54, 52, 102, 102, 50, 49, 54, 55, 102, 54, 101, 99, 101, 100, 100, 52, 49, 57, 100, 98, 48, 54, 99, 49] := by
  decide +kernel
theorem sha_size (l : List UInt8) : (ByteArray.mk (sha l).toArray).size = 32 := by show (sha l).toArray.size = 32; simp [sha_len]
theorem aw3 (l h : List UInt8) (e : hexL (sha l) = h) (w : World) (hl : l.length ≤ 1000) :
    (Calls Try.prog 10 #[.string ⟨l.toArray⟩] w fun e w' => e = .returned (.string ⟨(sha l).toArray⟩) ∧ Below w.heap.size w w') ∧
    ∀ w, Calls Try.prog 19 #[.string ⟨(sha l).toArray⟩] w fun e w' => e = .returned (.string ⟨h.toArray⟩) ∧ Below w.heap.size w w' := by
  refine ⟨sum_any ⟨l.toArray⟩ w (by show l.toArray.size ≤ _; simp; omega), fun w => ?_⟩
  have := hex_any ⟨(sha l).toArray⟩ w (by rw [sha_size]; decide)
  rw [show (ByteArray.mk (sha l).toArray).data.toList = sha l from rfl, e] at this
  exact this

set_option maxRecDepth 100000 in
set_option maxHeartbeats 400000 in
theorem awake3 (w : World) : Calls Try.prog 9 #[] w fun e w' => e = .returned (.bool true) ∧ Below w.heap.size w w' := by
  have HA1 := show Hid _ from fun w => (aw3 [97, 98, 99] _ hex_abc w (by decide)).1
  have HA2 := show Hid _ from (aw3 [97, 98, 99] _ hex_abc w (by decide)).2
  have HB1 := show Hid _ from fun w => (aw3 [97, 98, 99, 100, 98, 99, 100, 101, 99, 100, 101, 102, 100, 101, 102, 103, 101, 102, 103, 104, 102, 103, 104, 105, 103, 104, 105, 106, 104, 105, 106, 107, 105, 106, 107, 108, 106, 107, 108, 109, 107, 108, 109, 110, 108, 109, 110, 111, 109, 110, 111, 112, 110, 111, 112, 113] _ hex_two w (by decide)).1
  have HB2 := show Hid _ from (aw3 [97, 98, 99, 100, 98, 99, 100, 101, 99, 100, 101, 102, 100, 101, 102, 103, 101, 102, 103, 104, 102, 103, 104, 105, 103, 104, 105, 106, 104, 105, 106, 107, 105, 106, 107, 108, 106, 107, 108, 109, 107, 108, 109, 110, 108, 109, 110, 111, 109, 110, 111, 112, 110, 111, 112, 113] _ hex_two w (by decide)).2
  generalize sha [97, 98, 99] = A at HA1 HA2
  generalize sha [97, 98, 99, 100, 98, 99, 100, 101, 99, 100, 101, 102, 100, 101, 102, 103, 101, 102, 103, 104, 102, 103, 104, 105, 103, 104, 105, 106, 104, 105, 106, 107, 105, 106, 107, 108, 106, 107, 108, 109, 107, 108, 109, 110, 108, 109, 110, 111, 109, 110, 111, 112, 110, 111, 112, 113] = B at HB1 HB2
  go_enter Try.func9, Try.ntmps9
  go_wp2_with fail
  refine (HA1.out _).mono ?_
  rintro e w1 ⟨rfl, hB1⟩
  go_wp2_with fail
  refine (HA2.out _).mono ?_
  rintro e w2 ⟨rfl, hB2⟩
  go_wp2_with fail
  refine (HB1.out _).mono ?_
  rintro e w3 ⟨rfl, hB3⟩
  go_wp2_with fail
  refine (HB2.out _).mono ?_
  rintro e w4 ⟨rfl, hB4⟩
  go_wp2
  go_ret
  have b2 := hB1.trans (hB2.mono hB1.size)
  have b3 := b2.trans (hB3.mono b2.size)
  exact ⟨rfl, b3.trans (hB4.mono b3.size)⟩

set_option maxRecDepth 100000 in
set_option maxHeartbeats 400000 in
theorem digestSums_walk (s : ByteArray) (w : World) (hs : s.size ≤ reachBytes) :
    Calls Try.prog 3 #[.string s] w fun e w' => e = .returned (.bool true) ∧ Below w.heap.size w w' := by
  have hs' : s.size + 73 ≤ 140737488355328 := by have : reachBytes + 73 ≤ 140737488355328 := (by decide); omega
  have H1 := show Hid _ from fun w => sum_any s w (by omega)
  have H2 := show Hid _ from fun w => rsum_any s w hs'
  generalize sha s.data.toList = u at H1 H2
  clear hs hs'
  go_enter Try.func3, Try.ntmps3
  go_wp2_with fail
  refine (awake3 _).mono ?_
  rintro e w1 ⟨rfl, hB1⟩
  go_wp2_with fail
  refine (H1.out _).mono ?_
  rintro e w2 ⟨rfl, hB2⟩
  go_wp2_with fail
  refine (H2.out _).mono ?_
  rintro e w3 ⟨rfl, hB3⟩
  go_wp2
  go_ret
  have b2 := hB1.trans (hB2.mono hB1.size)
  exact ⟨rfl, b2.trans (hB3.mono b2.size)⟩
end Go.Proofs.Ytnlodlpjokkepaa
