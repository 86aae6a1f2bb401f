/- The walks of the two readings of a wide number: each comes to 'rdW', and writes nothing. -/
import Derived.Test.YtfdhaedpnjlpiabWide
import Derived.Test.YtfdhaedpnjlpiabPlace
namespace Go.Proofs.Ytfdhaedpnjlpiab
open Go.RowKit
set_option linter.unusedVariables false

/-- the answer of a reading of a wide number -/
def gotW (s : ByteArray) (a k : Int) : Value := .tuple #[.int .u64 (rdW s a k).n, .int .i64 (endAt a (rdW s a k)), .int .i64 (rdW s a k).e]
theorem ret_w {a : Int} {G : Got} {n i e : Int} (h1 : n = G.n) (h2 : i = endAt a G) (h3 : e = G.e) :
    Ending.returned (.tuple #[.int .u64 n, .int .i64 i, .int .i64 e]) = .returned (.tuple #[.int .u64 G.n, .int .i64 (endAt a G), .int .i64 G.e]) := by rw [h1, h2, h3]

theorem rdW_arg (s : ByteArray) (a k : Int) (h : ¬ (1 ≤ k ∧ k ≤ 8 ∧ 0 ≤ a ∧ a ≤ s.size)) : rdW s a k = ⟨0, 0, 1⟩ := by rw [rdW, if_neg h]
theorem rdW_end (s : ByteArray) (a k : Int) (h : 1 ≤ k ∧ k ≤ 8 ∧ 0 ≤ a ∧ a ≤ s.size) (h2 : ¬ a + k ≤ s.size) : rdW s a k = ⟨0, 0, 5⟩ := by rw [rdW, if_pos h, if_neg h2]
theorem rdW_ok (s : ByteArray) (a k : Nat) (h1 : 1 ≤ k) (h8 : k ≤ 8) (h2 : a + k ≤ s.size) : rdW s a k = ⟨beN ((s.data.toList.drop a).take k), k, 0⟩ := by
  rw [rdW, if_pos ⟨by omega, by omega, by omega, by omega⟩, if_pos (by omega)]; simp

theorem beN_step (s : ByteArray) (a k : Nat) (h : a + k < s.size) (c : UInt8) (hc : s[a + k] = c) : beN ((s.data.toList.drop a).take (k + 1)) = beN ((s.data.toList.drop a).take k) * 256 + c.toNat := by
  rw [take_snoc s a k h, beN_snoc, hc]
theorem beN_small (s : ByteArray) (a k : Nat) (hk : k ≤ 7) : beN ((s.data.toList.drop a).take k) < 72057594037927936 := by
  have h1 := beN_lt ((s.data.toList.drop a).take k)
  have h2 : (256 : Nat) ^ ((s.data.toList.drop a).take k).length ≤ 256 ^ 7 := Nat.pow_le_pow_right (by omega) (by simp; omega)
  have h3 := pow256_le 7 (by omega)
  omega

theorem or_step (x c : Nat) (hx : x < 72057594037927936) (hc : c < 256) : bits .or .u64 (IntKind.u64.wrap ((x : Int) * 256)) (IntKind.u64.wrap (c : Int)) = ((x * 256 + c : Nat) : Int) := by
  rw [IntKind.wrap_u64, IntKind.wrap_u64, show ((x : Int) * 256) % 18446744073709551616 = ((x * 256 : Nat) : Int) by omega, show (c : Int) % 18446744073709551616 = (c : Int) by omega]
  exact or_small x c hx hc

set_option maxRecDepth 100000 in
set_option maxHeartbeats 800000 in
theorem readWide_ok (s : ByteArray) (a k : Nat) (w : World) (hs : s.size ≤ maxLen) (h1 : 1 ≤ k) (h8 : k ≤ 8) (h2 : a + k ≤ s.size) :
    Calls Try.prog 35 #[.string s, .int .i64 a, .int .i64 k] w fun e w' =>
      e = .returned (.tuple #[.int .u64 (rdW s a k).n, .int .i64 (endAt a (rdW s a k)), .int .i64 (rdW s a k).e]) ∧ w' = w := by
  unfold maxLen at hs
  have HG := show Hid _ from rdW_ok s a k h1 h8 h2
  generalize rdW s a k = G at HG ⊢
  have q1 : (k : Int) ≤ (s.size : Int) - a := by omega
  have q2 : (a : Int) ≤ s.size := by omega
  have t1 : decide ((s.size : Int) - a < k) = false := by simp; omega
  go_enter Try.func35, Try.ntmps35
  go_wp2_with (first | (go_at_call 38; refine (isWide_yes _ _ (by omega) (by omega)).mono ?_; rintro e w' ⟨rfl, rfl⟩) | (go_at_call 26; refine (isPlace_yes _ _ _ (by omega) (by omega)).mono ?_; rintro e w' ⟨rfl, rfl⟩))
  go_loop [9, 27] (fun n i => ∃ (j x : Nat), j ≤ k ∧ i = .int .i64 j ∧ n = .int .u64 x ∧ Hid (x = beN ((s.data.toList.drop a).take j))) (fun _ i => k - (intOf i).toNat)
  case atStart => exact ⟨0, 0, by omega, rfl, rfl, rfl⟩
  case round =>
    obtain ⟨j, x, hj, rfl, rfl, HX⟩ := hrel
    by_cases hlt : j < k
    · have hlt2 : a + j < s.size := by omega
      have HS := beN_step s a j hlt2
      have hx := beN_small s a j (by omega)
      rw [← HX.out] at hx HS
      generalize hidx : s[a + j] = c at HS
      have HS' := show Hid _ from HS c rfl
      have HO := show Hid _ from or_step x c.toNat hx (UInt8.toNat_lt c)
      clear HS hx
      go_wp2
      go_round
      case rel => exact ⟨j + 1, x * 256 + c.toNat, by omega, by go_num, congrArg (Value.int .u64) HO.out, HS'.out.symm⟩
      case measure => simp [intOf]; omega
    · have hjk : j = k := by omega
      subst hjk
      go_wp2
      go_ret3
      exact ⟨ret_w (by rw [HG.out]; rw [HX.out]) (by rw [HG.out]; rfl) (by rw [HG.out]; rfl), rfl⟩

set_option maxRecDepth 100000 in
set_option maxHeartbeats 800000 in
theorem readWide_end (s : ByteArray) (a : Nat) (k : Int) (w : World) (hs : s.size ≤ maxLen) (h : 1 ≤ k ∧ k ≤ 8) (ha : a ≤ s.size) (h2 : ¬ a + k ≤ s.size) :
    Calls Try.prog 35 #[.string s, .int .i64 a, .int .i64 k] w fun e w' =>
      e = .returned (.tuple #[.int .u64 (rdW s a k).n, .int .i64 (endAt a (rdW s a k)), .int .i64 (rdW s a k).e]) ∧ w' = w := by
  unfold maxLen at hs
  have HG := show Hid _ from rdW_end s a k ⟨h.1, h.2, by omega, by omega⟩ h2
  generalize rdW s a k = G at HG ⊢
  have q1 : (s.size : Int) - a < k := by omega
  have H1 := show Hid _ from h
  clear h h2
  go_enter Try.func35, Try.ntmps35
  go_wp2_with (first | (go_at_call 38; refine (isWide_yes _ _ H1.out.1 H1.out.2).mono ?_; rintro e w' ⟨rfl, rfl⟩) | (go_at_call 26; refine (isPlace_yes _ _ _ (by omega) (by omega)).mono ?_; rintro e w' ⟨rfl, rfl⟩))
  go_ret3
  exact ⟨ret_w (by rw [HG.out]; rfl) (by rw [HG.out]; rfl) (by rw [HG.out]; rfl), rfl⟩

set_option maxRecDepth 100000 in
set_option maxHeartbeats 800000 in
theorem readWide_arg (s : ByteArray) (a k : Int) (w : World) (h : ¬ (1 ≤ k ∧ k ≤ 8 ∧ 0 ≤ a ∧ a ≤ s.size)) :
    Calls Try.prog 35 #[.string s, .int .i64 a, .int .i64 k] w fun e w' =>
      e = .returned (.tuple #[.int .u64 (rdW s a k).n, .int .i64 (endAt a (rdW s a k)), .int .i64 (rdW s a k).e]) ∧ w' = w := by
  have HG := show Hid _ from rdW_arg s a k h
  generalize rdW s a k = G at HG ⊢
  by_cases hk : 1 ≤ k ∧ k ≤ 8
  · have H1 := show Hid _ from hk
    have H2 := show Hid (¬ (0 ≤ a ∧ a ≤ s.size)) from fun c => h ⟨hk.1, hk.2, c.1, c.2⟩
    clear h hk
    go_enter Try.func35, Try.ntmps35
    go_wp2_with (first | (go_at_call 38; refine (isWide_yes _ _ H1.out.1 H1.out.2).mono ?_; rintro e w' ⟨rfl, rfl⟩) | (go_at_call 26; refine (isPlace_no _ _ _ H2.out).mono ?_; rintro e w' ⟨rfl, rfl⟩))
    go_ret3
    exact ⟨ret_w (by rw [HG.out]; rfl) (by rw [HG.out]; rfl) (by rw [HG.out]; rfl), rfl⟩
  · have H1 := show Hid _ from hk
    clear h hk
    go_enter Try.func35, Try.ntmps35
    go_wp2_with (first | (go_at_call 38; refine (isWide_no _ _ H1.out).mono ?_; rintro e w' ⟨rfl, rfl⟩))
    go_ret3
    exact ⟨ret_w (by rw [HG.out]; rfl) (by rw [HG.out]; rfl) (by rw [HG.out]; rfl), rfl⟩

theorem readWide_any (s : ByteArray) (a k : Int) (w : World) (hs : s.size ≤ maxLen) :
    Calls Try.prog 35 #[.string s, .int .i64 a, .int .i64 k] w fun e w' =>
      e = .returned (.tuple #[.int .u64 (rdW s a k).n, .int .i64 (endAt a (rdW s a k)), .int .i64 (rdW s a k).e]) ∧ w' = w := by
  by_cases h : 1 ≤ k ∧ k ≤ 8 ∧ 0 ≤ a ∧ a ≤ s.size
  · obtain ⟨b, rfl⟩ := Int.eq_ofNat_of_zero_le h.2.2.1
    by_cases h2 : b + k ≤ s.size
    · obtain ⟨m, rfl⟩ := Int.eq_ofNat_of_zero_le (show 0 ≤ k by omega)
      exact readWide_ok s b m w hs (by omega) (by omega) (by omega)
    · exact readWide_end s b k w hs ⟨h.1, h.2.1⟩ (by omega) h2
  · exact readWide_arg s a k w h
end Go.Proofs.Ytfdhaedpnjlpiab
