/- The walk of the reading of a list: it comes to 'lstAt'; the texts lie in a slice that the call owns. -/
import Derived.Test.YtfdhaedpnjlpiabReadTxt
import Derived.Test.YtfdhaedpnjlpiabListM
namespace Go.Proofs.Ytfdhaedpnjlpiab
open Go.RowKit
set_option linter.unusedVariables false

theorem info9 : (Try.prog.info? 9).map (fun i => (i.zero, i.size, i.bytes)) = some (some (.string ⟨#[]⟩), 1, 16) := by kernel_rfl

theorem ret_lst {v : Value} {L : Lst} {i e : Int} (h2 : i = L.to) (h3 : e = L.e) :
    Ending.returned (.tuple #[v, .int .i64 i, .int .i64 e]) = .returned (.tuple #[v, .int .i64 L.to, .int .i64 L.e]) := by rw [h2, h3]

theorem rel_lst {base j : Nat} {w wr w1 : World} {v v' : Value} {ts : List ByteArray} {x : ByteArray} (hbase : base ≤ wr.heap.size)
    (hown : wr.ownsRow base 9 1 v j (ss ts)) (hB : Below base w wr)
    (hown' : w1.ownsRow base 9 1 v' (j + 1) (ss ts ++ [.string x])) (hg : (wr.alloc (.cells #[.string x] 9)).grownBy w1 v.ownBlock) :
    w1.ownsRow base 9 1 v' (j + 1) (ss (ts ++ [x])) ∧ Below base w w1 := by
  refine ⟨?_, ?_⟩
  · have e : ss (ts ++ [x]) = ss ts ++ [.string x] := by simp [ss]
    rw [e]; exact hown'
  · refine ((hB.alloc hbase _).grown hg (by simp; omega) ?_)
    intro k hk
    rcases hown.2 with ⟨h, _⟩ | ⟨g, cap, cur, h, hgb, _⟩
    · subst h; simp [Value.ownBlock] at hk
    · subst h; simp [Value.ownBlock] at hk; omega

set_option maxRecDepth 100000 in
set_option maxHeartbeats 800000 in
theorem readList_any (s : ByteArray) (a : Int) (w : World) (hs : s.size ≤ 8796093022207) :
    Calls Try.prog 11 #[.string s, .int .i64 a] w fun e w' =>
      ∃ v, e = .returned (.tuple #[v, .int .i64 (lstAt s a).to, .int .i64 (lstAt s a).e]) ∧ w'.ownsRow w.heap.size 9 1 v (lstAt s a).l.length (ss (lstAt s a).l) ∧ Below w.heap.size w w' := by
  obtain ⟨i0, hi, hz0, hz1, hz2⟩ := info_parts info9
  have HR := show Hid _ from fun w => readNumber_any s a w (by unfold maxLen; omega)
  have hb := rdAt_bounds s a
  have he := rdAt_e s a
  have hT := lstAt.eq_1 s a
  generalize lstAt s a = L at hT ⊢
  generalize rdAt s a = g at HR hT hb he
  obtain ⟨n, len, e⟩ := g
  simp only [endAt] at HR hT hb he
  by_cases h0 : e = 0
  · subst h0
    obtain ⟨ha, hl, hl1, hl2, hn⟩ := hb rfl
    obtain ⟨a, rfl⟩ := Int.eq_ofNat_of_zero_le ha
    have HR' : Hid (∀ w, Calls Try.prog 9 #[.string s, .int .i64 a] w fun e w' => e = .returned (.tuple #[.int .u64 n, .int .i64 ((a + len : Nat) : Int), .int .i64 0]) ∧ w' = w) := by
      show ∀ w, _; intro w; exact HR.out w
    clear HR hb
    have hT' : Hid (L = lstF s (n - 0) ((a + len : Nat) : Int) []) := by show L = _; rw [hT, if_pos rfl]; simp
    clear hT
    have hp : a + len ≤ s.size := by omega
    generalize a + len = p at HR' hT' hp
    clear hl hl1 hl2 he ha
    go_enter Try.func11, Try.ntmps11
    go_wp2_with (go_at_call 9; refine (HR'.out _).mono ?_; rintro e w' ⟨rfl, rfl⟩)
    go_loopw [8, 9, 10, 23] (fun nx er l i wr => ∃ (j q : Nat) (ts : List ByteArray), i = .int .u64 j ∧ j ≤ n ∧ nx = .int .i64 q ∧ er = .int .i64 0 ∧ q ≤ s.size ∧ j ≤ q ∧ wr.ownsRow w'.heap.size 9 1 l j (ss ts) ∧ Below w'.heap.size w' wr ∧ Hid (ts.length = j) ∧ Hid (L = lstF s (n - j) q ts)) (fun _ _ _ i _ => n - (intOf i).toNat)
    case atStart => exact ⟨0, p, [], rfl, by omega, rfl, rfl, hp, by omega, World.ownsRow_nil _ _ _ _, Below.refl _ _, rfl, hT'⟩
    case round =>
      clear hT'
      obtain ⟨j, q, ts, rfl, hj, rfl, rfl, hq, hjq, hown, hB, hts, hL⟩ := hrel
      have hbase := hB.size
      by_cases hlt : j < n
      · have hb' : ((j : Int) < (n : Int)) := by omega
        have HT := show Hid _ from fun w => readText_any s q w (by omega)
        have hok := txt_ok s q
        have hee := txt_e s q
        have hL2 : L = if (txtAt s q).e = 0 then lstF s (n - (j + 1)) (txtAt s q).to (ts ++ [(txtAt s q).x]) else ⟨[], 0, (txtAt s q).e⟩ := by
          rw [hL.out, show n - j = (n - (j + 1)) + 1 by omega]; rfl
        clear hL
        generalize txtAt s q = t at HT hok hee hL2
        obtain ⟨x, to, te⟩ := t
        simp only at HT hok hee hL2
        by_cases h0 : te = 0
        · subst h0
          obtain ⟨hq0, hto, hts2, hxs⟩ := hok rfl
          obtain ⟨to, rfl⟩ := Int.eq_ofNat_of_zero_le (show 0 ≤ to by omega)
          have HL : Hid (L = lstF s (n - (j + 1)) (to : Int) (ts ++ [x])) := by show L = _; rw [hL2, if_pos rfl]
          clear hL2 hok hee
          go_wp2_with (first
            | (go_at_call 10; refine (HT.out _).mono ?_; rintro e w2 ⟨rfl, hB2⟩; have hown2 := own_keeps hown hB2; have hB3 := hB.trans (hB2.mono hbase); have hbase2 := hB3.size)
            | (at_builtin; refine wpList_append_own _ rfl (.tmp 35) (.tmp 37) 28 rfl w'.heap.size 9 i0 (.string ⟨#[]⟩) 1 16 Try.underlying28 hi hz0 hz1 hz2 rfl (by decide) _ _ _ rfl (hown2.alloc _) ⟨w2.heap.size, 0, none⟩ 1 1 [_] rfl rfl (cell_one_new _ _ _) ?c2 ?c3 ?c4 ?c5 ?_))
          case c2 => intro u hu; simp at hu; subst hu; rfl
          case c3 => unfold maxLen; omega
          case c4 => omega
          case c5 => simp; omega
          intro v' w3 hown' hgrow _
          have R := rel_lst hbase2 hown2 hB3 hown' hgrow
          clear hown' hgrow hown2 hB3 hown hB hB2
          go_wp2
          go_roundw
          case rel => exact ⟨j + 1, to, ts ++ [x], by go_num, by omega, rfl, rfl, by omega, by omega, R.1, R.2, (by show _ = _; have := hts.out; simp; omega), HL⟩
          case measure => simp [intOf]; omega
        · have HL : Hid (L = ⟨[], 0, te⟩) := by show L = _; rw [hL2, if_neg h0]
          have hne : ((te : Int) != 0) = true := by rw [bne_iff_ne]; omega
          clear hL2 hok hee h0
          go_wp2_with (first
            | (go_at_call 10; refine (HT.out _).mono ?_; rintro e w2 ⟨rfl, hB2⟩))
          go_ret3
          exact ⟨_, ret_lst (by rw [HL.out]) (by rw [HL.out]), by rw [HL.out]; exact World.ownsRow_nil _ _ _ _, hB.trans (hB2.mono hbase)⟩
      · have hjn : j = n := by omega
        subst hjn
        have HL : Hid (L = ⟨ts, (q : Int), 0⟩) := by show L = _; rw [hL.out, Nat.sub_self]; rfl
        clear hL
        go_wp2
        go_ret3
        exact ⟨_, ret_lst (by rw [HL.out]) (by rw [HL.out]; rfl), by rw [HL.out]; show World.ownsRow _ _ _ _ _ ts.length _; rw [hts.out]; exact hown, hB⟩
  · have HL : Hid (L = ⟨[], 0, e⟩) := by show L = _; rw [hT, if_neg h0]
    have HR' : Hid (∀ w, Calls Try.prog 9 #[.string s, .int .i64 a] w fun e' w' => e' = .returned (.tuple #[.int .u64 n, .int .i64 0, .int .i64 e]) ∧ w' = w) := by
      show ∀ w, _; intro w; have := HR.out w; rw [if_neg h0] at this; exact this
    have hne : ((e : Int) != 0) = true := by rw [bne_iff_ne]; omega
    clear hT HR hb he h0
    go_enter Try.func11, Try.ntmps11
    go_wp2_with (go_at_call 9; refine (HR'.out _).mono ?_; rintro e w' ⟨rfl, rfl⟩)
    go_ret3
    exact ⟨_, ret_lst (by rw [HL.out]) (by rw [HL.out]), by rw [HL.out]; exact World.ownsRow_nil _ _ _ _, Below.refl _ _⟩
end Go.Proofs.Ytfdhaedpnjlpiab
