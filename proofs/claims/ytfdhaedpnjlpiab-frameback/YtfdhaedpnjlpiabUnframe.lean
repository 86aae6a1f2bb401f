/- The walk of frame's finding of a frame: it comes to 'unfAt'. -/
import Derived.Test.YtfdhaedpnjlpiabFrame
namespace Go.Proofs.Ytfdhaedpnjlpiab
open Go.RowKit
set_option linter.unusedVariables false

theorem ret_un {T : Txt} {x : ByteArray} {i e : Int} (h1 : x = T.x) (h2 : i = T.to) (h3 : e = T.e) :
    Ending.returned (.tuple #[.string x, .int .i64 i, .int .i64 e]) = .returned (.tuple #[.string T.x, .int .i64 T.to, .int .i64 T.e]) := by rw [h1, h2, h3]

/-- what the walks of Unframe ask of the bytes -/
theorem unf_parts (s : ByteArray) (a : Int) (hs : s.size ≤ 1152921504606846976) :
    (∃ e : Nat, e ≠ 0 ∧ e ≤ 5 ∧ rdW s a 4 = ⟨0, (rdW s a 4).len, e⟩ ∧ unfAt s a = ⟨⟨#[]⟩, 0, e⟩) ∨
    ∃ b n : Nat, a = b ∧ b + 4 ≤ s.size ∧ n < 4294967296 ∧ rdW s a 4 = ⟨n, 4, 0⟩ ∧
      ((262144 < n ∧ unfAt s a = ⟨⟨#[]⟩, 0, 2⟩) ∨
       (n ≤ 262144 ∧ s.size < b + 8 + n ∧ unfAt s a = ⟨⟨#[]⟩, 0, 5⟩) ∨
       (n ≤ 262144 ∧ b + 8 + n ≤ s.size ∧ ∃ u v : Nat, u < 4294967296 ∧ v < 4294967296 ∧ u = sumN ((s.extract b (b + 4)).data.toList ++ (s.extract (b + 8) (b + 8 + n)).data.toList) ∧ rdW s ((b + 4 : Nat) : Int) 4 = ⟨v, 4, 0⟩ ∧
         ((u ≠ v ∧ unfAt s a = ⟨⟨#[]⟩, 0, 10⟩) ∨ (u = v ∧ unfAt s a = ⟨s.extract (b + 8) (b + 8 + n), ((b + 8 + n : Nat) : Int), 0⟩)))) := by
  have hu := unfAt.eq_1 s a
  have hf := rdW_facts s a
  have he := rdW_e s a
  generalize hg : rdW s a 4 = g at hu hf he
  obtain ⟨n, len, e⟩ := g
  simp only at hu hf he
  by_cases h0 : e = 0
  · subst h0
    obtain ⟨ha, h4, hl, hn⟩ := hf rfl
    obtain ⟨b, rfl⟩ := Int.eq_ofNat_of_zero_le ha
    subst hl
    refine .inr ⟨b, n, rfl, by omega, hn, rfl, ?_⟩
    simp only [Int.toNat_natCast, if_true] at hu
    by_cases h1 : n ≤ 262144
    · rw [if_pos h1] at hu
      by_cases h2 : b + 8 + n ≤ s.size
      · rw [if_pos h2] at hu
        refine .inr (.inr ⟨h1, h2, sumN ((s.extract b (b + 4)).data.toList ++ (s.extract (b + 8) (b + 8 + n)).data.toList), (rdW s ((b + 4 : Nat) : Int) 4).n, sumN_lt _, ?_, rfl, ?_, ?_⟩)
        · have e0 : (rdW s ((b + 4 : Nat) : Int) 4) = (rdW s ((b + 4 : Nat) : Int) ((4 : Nat) : Int)) := rfl
          rw [e0, rdW_ok s (b + 4) 4 (by omega) (by omega) (by omega)]
          have h3 := beN_lt ((s.data.toList.drop (b + 4)).take 4)
          have h4 : (256 : Nat) ^ ((s.data.toList.drop (b + 4)).take 4).length ≤ 256 ^ 4 := Nat.pow_le_pow_right (by omega) (by simp; omega)
          exact Nat.lt_of_lt_of_le h3 h4
        · have e0 : (rdW s ((b + 4 : Nat) : Int) 4) = (rdW s ((b + 4 : Nat) : Int) ((4 : Nat) : Int)) := rfl
          rw [e0, rdW_ok s (b + 4) 4 (by omega) (by omega) (by omega)]
        · split at hu
          · rename_i h3; exact .inr ⟨h3, hu⟩
          · rename_i h3; exact .inl ⟨h3, hu⟩
      · rw [if_neg h2] at hu
        exact .inr (.inl ⟨h1, by omega, hu⟩)
    · rw [if_neg h1] at hu
      exact .inl ⟨by omega, hu⟩
  · rw [if_neg h0] at hu
    refine .inl ⟨e, h0, he.1, ?_, hu⟩
    rw [he.2 h0]

set_option maxRecDepth 100000 in
set_option maxHeartbeats 1600000 in
theorem unframe_wide (s : ByteArray) (a : Int) (w : World) (hs : s.size ≤ 1152921504606846976) :
    Calls Try.prog 21 #[.string s, .int .i64 a] w fun e w' =>
      e = .returned (.tuple #[.string (unfAt s a).x, .int .i64 (unfAt s a).to, .int .i64 (unfAt s a).e]) ∧ Below w.heap.size w w' := by
  have hm : s.size ≤ maxLen := by unfold maxLen; omega
  have HR := fun w => readWide_any s a 4 w hm
  rcases unf_parts s a hs with ⟨e, h0, h5, hr, hu⟩ | ⟨b, n, rfl, h4, hn, hr, hc⟩
  · rw [hr] at HR
    simp only [endAt, if_neg h0] at HR
    have HR' := show Hid _ from HR
    have HU := show Hid _ from hu
    have hne : ((e : Int) != 0) = true := by rw [bne_iff_ne]; omega
    generalize unfAt s a = T at HU ⊢
    clear HR hr hu h0
    go_enter Try.func21, Try.ntmps21
    go_wp2_with fail
    refine (HR'.out _).mono ?_
    rintro e w' ⟨rfl, rfl⟩
    go_wp2
    go_ret3
    exact ⟨ret_un (by rw [HU.out]) (by rw [HU.out]) (by rw [HU.out]), Below.refl _ _⟩
  · have HR' : Hid (∀ w, Calls Try.prog 35 #[.string s, .int .i64 b, .int .i64 4] w fun e w' => e = .returned (.tuple #[.int .u64 n, .int .i64 ((b + 4 : Nat) : Int), .int .i64 0]) ∧ w' = w) := by
      show ∀ w, _; intro w; have := HR w; rw [hr] at this; exact this
    clear HR hr
    generalize unfAt s (b : Int) = T at hc ⊢
    rcases hc with ⟨h1, hu⟩ | ⟨h1, h2, hu⟩ | ⟨h1, h2, u, v, hul, hvl, hus, hr2, hc⟩
    · have HU := show Hid _ from hu
      clear hu
      generalize b + 4 = p at HR' h4
      go_enter Try.func21, Try.ntmps21
      go_wp2_with fail
      refine (HR'.out _).mono ?_
      rintro e w' ⟨rfl, rfl⟩
      go_wp2
      go_ret3
      exact ⟨ret_un (by rw [HU.out]) (by rw [HU.out]) (by rw [HU.out]; rfl), Below.refl _ _⟩
    · have HU := show Hid _ from hu
      clear hu
      have hq : (s.size : Int) - b < 8 + n := by omega
      have hbl : b ≤ s.size := by omega
      generalize b + 4 = p at HR' h4
      go_enter Try.func21, Try.ntmps21
      go_wp2_with fail
      refine (HR'.out _).mono ?_
      rintro e w' ⟨rfl, rfl⟩
      go_wp2
      go_ret3
      exact ⟨ret_un (by rw [HU.out]) (by rw [HU.out]) (by rw [HU.out]; rfl), Below.refl _ _⟩
    · have HR2 : Hid (∀ w, Calls Try.prog 35 #[.string s, .int .i64 ((b + 4 : Nat) : Int), .int .i64 4] w fun e w' => e = .returned (.tuple #[.int .u64 v, .int .i64 ((b + 8 : Nat) : Int), .int .i64 0]) ∧ w' = w) := by
        show ∀ w, _; intro w; have := readWide_any s ((b + 4 : Nat) : Int) 4 w hm; rw [hr2] at this; exact this
      have HS := show Hid _ from fun w => sumOf_any (s.extract b (b + 4)) (s.extract (b + 8) (b + 8 + n)) w (by rw [ByteArray.size_extract]; unfold maxLen; omega) (by rw [ByteArray.size_extract]; unfold maxLen; omega)
      rw [← hus] at HS
      have hq : (8 : Int) + n ≤ (s.size : Int) - b := by omega
      have hp : b ≤ b + 4 := by omega
      have hpq : b + 8 ≤ b + 8 + n := by omega
      have hsz : (s.extract (b + 8) (b + 8 + n)).size ≤ 140737488355328 := by rw [ByteArray.size_extract]; omega
      have hbl : b ≤ s.size := by omega
      clear hus hr2
      generalize b + 4 = p at HR' HR2 HS hp h4
      generalize b + 8 = q at HR2 HS hc h2 hpq hsz
      rcases hc with ⟨hne, hu⟩ | ⟨rfl, hu⟩
      · have HU := show Hid _ from hu
        have hneb : ((u : Int) != (v : Int)) = true := by rw [bne_iff_ne]; omega
        clear hu hne
        go_enter Try.func21, Try.ntmps21
        go_wp2_with fail
        refine (HR'.out _).mono ?_
        rintro e w' ⟨rfl, rfl⟩
        go_wp2_with fail
        refine (HR2.out _).mono ?_
        rintro e w' ⟨rfl, rfl⟩
        go_wp2_with fail
        refine (HS.out _).mono ?_
        rintro e w' ⟨rfl, rfl⟩
        go_wp2
        go_ret3
        exact ⟨ret_un (by rw [HU.out]) (by rw [HU.out]) (by rw [HU.out]; rfl), Below.refl _ _⟩
      · have HU := show Hid _ from hu
        have hneb : ((u : Int) != (u : Int)) = false := by simp
        have HZ := show Hid _ from hsz
        clear hu hsz
        go_enter Try.func21, Try.ntmps21
        go_wp2_with fail
        refine (HR'.out _).mono ?_
        rintro e w' ⟨rfl, rfl⟩
        go_wp2_with fail
        refine (HR2.out _).mono ?_
        rintro e w' ⟨rfl, rfl⟩
        go_wp2_with fail
        refine (HS.out _).mono ?_
        rintro e w' ⟨rfl, rfl⟩
        go_wp2_with fail
        refine (clone_any _ _ HZ.out).mono ?_
        rintro e w2 ⟨rfl, hB⟩
        go_wp2
        go_ret3
        exact ⟨ret_un (by rw [HU.out]) (by rw [HU.out]; simp) (by rw [HU.out]; rfl), hB⟩
theorem unframe_any (s : ByteArray) (a : Int) (w : World) (hs : s.size ≤ 140737488355328) :
    Calls Try.prog 21 #[.string s, .int .i64 a] w fun e w' =>
      e = .returned (.tuple #[.string (unfAt s a).x, .int .i64 (unfAt s a).to, .int .i64 (unfAt s a).e]) ∧ Below w.heap.size w w' := unframe_wide s a w (by omega)
end Go.Proofs.Ytfdhaedpnjlpiab
