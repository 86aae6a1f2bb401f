/- The walk of the document's finding of a frame: it comes to 'unfAt' too. -/
import Derived.Test.YtfdhaedpnjlpiabUnframe
import Derived.Test.YtfdhaedpnjlpiabRefCrc
import Derived.Test.YtfdhaedpnjlpiabRefReadWide
namespace Go.Proofs.Ytfdhaedpnjlpiab
open Go.RowKit
set_option linter.unusedVariables false

set_option maxRecDepth 100000 in
set_option maxHeartbeats 1600000 in
theorem ref_unframe_any (s : ByteArray) (a : Int) (w : World) (hs : s.size ≤ 140737488355328) :
    Calls Try.prog 22 #[.string s, .int .i64 a] w fun e w' =>
      e = .returned (.tuple #[.string (unfAt s a).x, .int .i64 (unfAt s a).to, .int .i64 (unfAt s a).e]) ∧ w' = w := by
  have hm : s.size ≤ maxLen := by unfold maxLen; omega
  have HR := fun w => ref_readWide_any s a 4 w hm
  rcases unf_parts s a hs with ⟨e, h0, h5, hr, hu⟩ | ⟨b, n, rfl, h4, hn, hr, hc⟩
  · rw [hr] at HR
    simp only [endAt, if_neg h0] at HR
    have HR' := show Hid _ from HR
    have HU := show Hid _ from hu
    have hne : ((e : Int) != 0) = true := by rw [bne_iff_ne]; omega
    generalize unfAt s a = T at HU ⊢
    clear HR hr hu h0
    go_enter Try.func22, Try.ntmps22
    go_wp2_with fail
    refine (HR'.out _).mono ?_
    rintro e w' ⟨rfl, rfl⟩
    go_wp2
    go_ret3
    exact ⟨ret_un (by rw [HU.out]) (by rw [HU.out]) (by rw [HU.out]), rfl⟩
  · have HR' : Hid (∀ w, Calls Try.prog 36 #[.string s, .int .i64 b, .int .i64 4] w fun e w' => e = .returned (.tuple #[.int .u64 n, .int .i64 ((b + 4 : Nat) : Int), .int .i64 0]) ∧ w' = w) := by
      show ∀ w, _; intro w; have := HR w; rw [hr] at this; exact this
    clear HR hr
    generalize unfAt s (b : Int) = T at hc ⊢
    rcases hc with ⟨h1, hu⟩ | ⟨h1, h2, hu⟩ | ⟨h1, h2, u, v, hul, hvl, hus, hr2, hc⟩
    · have HU := show Hid _ from hu
      clear hu
      generalize b + 4 = p at HR' h4
      go_enter Try.func22, Try.ntmps22
      go_wp2_with fail
      refine (HR'.out _).mono ?_
      rintro e w' ⟨rfl, rfl⟩
      go_wp2
      go_ret3
      exact ⟨ret_un (by rw [HU.out]) (by rw [HU.out]) (by rw [HU.out]; rfl), rfl⟩
    · have HU := show Hid _ from hu
      clear hu
      have hg2 := rdW_facts s ((b + 4 : Nat) : Int)
      have he2 := rdW_e s ((b + 4 : Nat) : Int)
      have HR2 := fun w => ref_readWide_any s ((b + 4 : Nat) : Int) 4 w hm
      generalize rdW s ((b + 4 : Nat) : Int) 4 = g2 at hg2 he2 HR2
      obtain ⟨v, len, e2⟩ := g2
      simp only [endAt] at hg2 he2 HR2
      by_cases h02 : e2 = 0
      · subst h02
        obtain ⟨_, _, rfl, _⟩ := hg2 rfl
        have HR2' : Hid (∀ w, Calls Try.prog 36 #[.string s, .int .i64 ((b + 4 : Nat) : Int), .int .i64 4] w fun e w' => e = .returned (.tuple #[.int .u64 v, .int .i64 ((b + 8 : Nat) : Int), .int .i64 0]) ∧ w' = w) := by
          show ∀ w, _; intro w; exact HR2 w
        have hq : (s.size : Int) - ((b + 8 : Nat) : Int) < n := by omega
        have hq8 : b + 8 ≤ s.size := by omega
        clear HR2 hg2 he2
        generalize b + 4 = p at HR' HR2' h4
        generalize b + 8 = q at HR2' hq h2 hq8
        go_enter Try.func22, Try.ntmps22
        go_wp2_with fail
        refine (HR'.out _).mono ?_
        rintro e w' ⟨rfl, rfl⟩
        go_wp2_with fail
        refine (HR2'.out _).mono ?_
        rintro e w' ⟨rfl, rfl⟩
        go_wp2
        go_ret3
        exact ⟨ret_un (by rw [HU.out]) (by rw [HU.out]) (by rw [HU.out]; rfl), rfl⟩
      · have HR2' : Hid (∀ w, Calls Try.prog 36 #[.string s, .int .i64 ((b + 4 : Nat) : Int), .int .i64 4] w fun e w' => e = .returned (.tuple #[.int .u64 v, .int .i64 0, .int .i64 e2]) ∧ w' = w) := by
          show ∀ w, _; intro w; have := HR2 w; rw [if_neg h02] at this; exact this
        have hneb : ((e2 : Int) != 0) = true := by rw [bne_iff_ne]; omega
        clear HR2 hg2 he2 h02
        generalize b + 4 = p at HR' HR2' h4
        go_enter Try.func22, Try.ntmps22
        go_wp2_with fail
        refine (HR'.out _).mono ?_
        rintro e w' ⟨rfl, rfl⟩
        go_wp2_with fail
        refine (HR2'.out _).mono ?_
        rintro e w' ⟨rfl, rfl⟩
        go_wp2
        go_ret3
        exact ⟨ret_un (by rw [HU.out]) (by rw [HU.out]) (by rw [HU.out]; rfl), rfl⟩
    · have HR2 : Hid (∀ w, Calls Try.prog 36 #[.string s, .int .i64 ((b + 4 : Nat) : Int), .int .i64 4] w fun e w' => e = .returned (.tuple #[.int .u64 v, .int .i64 ((b + 8 : Nat) : Int), .int .i64 0]) ∧ w' = w) := by
        show ∀ w, _; intro w; have := ref_readWide_any s ((b + 4 : Nat) : Int) 4 w hm; rw [hr2] at this; exact this
      have HS := show Hid _ from fun w => ref_sum_any (s.extract b (b + 4) ++ s.extract (b + 8) (b + 8 + n)) w (by rw [ByteArray.size_append, ByteArray.size_extract, ByteArray.size_extract]; unfold maxLen; omega)
      rw [show (s.extract b (b + 4) ++ s.extract (b + 8) (b + 8 + n)).data.toList = (s.extract b (b + 4)).data.toList ++ (s.extract (b + 8) (b + 8 + n)).data.toList by simp [ByteArray.data_append], ← hus] at HS
      have hz1 : (s.extract b (b + 4)).size ≤ 4 := by rw [ByteArray.size_extract]; omega
      have hz2 : (s.extract (b + 8) (b + 8 + n)).size ≤ 262144 := by rw [ByteArray.size_extract]; omega
      have hr5 : (n : Int) ≤ (s.size : Int) - ((b + 8 : Nat) : Int) := by omega
      have hq : (8 : Int) + n ≤ (s.size : Int) - b := by omega
      have hp : b ≤ b + 4 := by omega
      have hpq : b + 8 ≤ b + 8 + n := by omega
      have hsz : (s.extract (b + 8) (b + 8 + n)).size ≤ 140737488355328 := by rw [ByteArray.size_extract]; omega
      have hbl : b ≤ s.size := by omega
      clear hus hr2
      generalize b + 4 = p at HR' HR2 HS hp h4 hz1
      generalize b + 8 = q at HR2 HS hc h2 hpq hsz hz2 hr5
      rcases hc with ⟨hne, hu⟩ | ⟨rfl, hu⟩
      · have HU := show Hid _ from hu
        have hneb : ((v : Int) != (u : Int)) = true := by rw [bne_iff_ne]; omega
        clear hu hne
        go_enter Try.func22, Try.ntmps22
        go_wp2_with fail
        refine (HR'.out _).mono ?_
        rintro e w' ⟨rfl, rfl⟩
        go_wp2_with fail
        refine (HR2.out _).mono ?_
        rintro e w' ⟨rfl, rfl⟩
        go_wp2_with fail
        refine (HS.out _).mono ?_
        rintro e w' ⟨rfl, rfl⟩
        go_wp2
        go_ret3
        exact ⟨ret_un (by rw [HU.out]) (by rw [HU.out]) (by rw [HU.out]; rfl), rfl⟩
      · have HU := show Hid _ from hu
        have hneb : ((u : Int) != (u : Int)) = false := by simp
        have HZ := show Hid _ from hsz
        clear hu hsz
        go_enter Try.func22, Try.ntmps22
        go_wp2_with fail
        refine (HR'.out _).mono ?_
        rintro e w' ⟨rfl, rfl⟩
        go_wp2_with fail
        refine (HR2.out _).mono ?_
        rintro e w' ⟨rfl, rfl⟩
        go_wp2_with fail
        refine (HS.out _).mono ?_
        rintro e w' ⟨rfl, rfl⟩
        go_wp2
        go_ret3
        exact ⟨ret_un (by rw [HU.out]) (by rw [HU.out]; simp) (by rw [HU.out]; rfl), rfl⟩
end Go.Proofs.Ytfdhaedpnjlpiab
