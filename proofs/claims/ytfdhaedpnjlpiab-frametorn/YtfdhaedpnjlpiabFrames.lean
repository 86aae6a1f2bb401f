/- The walks of the two findings of all frames from the front on. -/
import Derived.Test.YtfdhaedpnjlpiabUnframe
import Derived.Test.YtfdhaedpnjlpiabListM
namespace Go.Proofs.Ytfdhaedpnjlpiab
open Go.RowKit
set_option linter.unusedVariables false

theorem info9' : (Try.prog.info? 9).map (fun i => (i.zero, i.size, i.bytes)) = some (some (.string ⟨#[]⟩), 1, 16) := by kernel_rfl

/-- frames found, and the place behind the last one -/
structure Fnd where
  l : List ByteArray
  to : Nat
/-- frames from a place on -/
def fsF (s : ByteArray) : Nat → Nat → List ByteArray → Fnd
  | 0, a, acc => ⟨acc, a⟩
  | f + 1, a, acc => if (unfAt s a).e = 0 then fsF s f (unfAt s a).to.toNat (acc ++ [(unfAt s a).x]) else ⟨acc, a⟩
/-- all frames -/
def fs (s : ByteArray) : Fnd := fsF s (s.size + 1) 0 []

theorem rel_fs {base j : Nat} {w wr w1 : World} {v v' : Value} {ts : List ByteArray} {x : ByteArray} (hbase : base ≤ wr.heap.size)
    (hown : wr.ownsRow base 9 1 v j (ss ts)) (hB : Below base w wr)
    (hown' : w1.ownsRow base 9 1 v' (j + 1) (ss ts ++ [.string x])) (hg : (wr.alloc (.cells #[.string x] 9)).grownBy w1 v.ownBlock) :
    w1.ownsRow base 9 1 v' (j + 1) (ss (ts ++ [x])) ∧ Below base w w1 := by
  refine ⟨?_, ?_⟩
  · have e : ss (ts ++ [x]) = ss ts ++ [.string x] := by simp [ss]
    rw [e]; exact hown'
  · refine ((hB.alloc hbase _).grown hg (by simp; omega) ?_)
    intro k hk
    rcases hown.2 with ⟨h, _⟩ | ⟨g, cap, cur, h, hgb, _⟩
    · subst h; simp [Value.ownBlock] at hk
    · subst h; simp [Value.ownBlock] at hk; omega

theorem ret_fnd {v : Value} {i j : Int} (h : i = j) : Ending.returned (.tuple #[v, .int .i64 i]) = .returned (.tuple #[v, .int .i64 j]) := by rw [h]

set_option maxRecDepth 100000 in
set_option maxHeartbeats 800000 in
theorem frames_any (s : ByteArray) (w : World) (hs : s.size ≤ 8796093022207) :
    Calls Try.prog 23 #[.string s] w fun e w' =>
      ∃ v, e = .returned (.tuple #[v, .int .i64 (fs s).to]) ∧ w'.ownsRow w.heap.size 9 1 v (fs s).l.length (ss (fs s).l) ∧ Below w.heap.size w w' := by
  obtain ⟨i0, hi, hz0, hz1, hz2⟩ := info_parts info9'
  have hG : Hid (fs s = fsF s (s.size + 1) 0 []) := rfl
  generalize fs s = G at hG ⊢
  go_enter Try.func23, Try.ntmps23
  go_wp2
  go_loopw [4, 5] (fun l a wr => ∃ (j q f : Nat) (ts : List ByteArray), a = .int .i64 q ∧ q ≤ s.size ∧ s.size < f + q ∧ j ≤ q ∧ wr.ownsRow w.heap.size 9 1 l j (ss ts) ∧ Below w.heap.size w wr ∧ Hid (ts.length = j) ∧ Hid (G = fsF s f q ts)) (fun _ a _ => s.size - (intOf a).toNat)
  case atStart => exact ⟨0, 0, s.size + 1, [], rfl, by omega, by omega, by omega, World.ownsRow_nil _ _ _ _, Below.refl _ _, rfl, hG⟩
  case round =>
    clear hG
    obtain ⟨j, q, f, ts, rfl, hq, hf, hjq, hown, hB, hts, hG⟩ := hrel
    have hbase := hB.size
    have HT := show Hid _ from fun w => unframe_any s q w (by omega)
    have hok := unf_ok s q
    have hee := unf_e s q
    have hG2 : G = if (unfAt s q).e = 0 then fsF s (f - 1) (unfAt s q).to.toNat (ts ++ [(unfAt s q).x]) else ⟨ts, q⟩ := by
      rw [hG.out, show f = (f - 1) + 1 by omega]; rfl
    clear hG
    generalize unfAt s q = t at HT hok hee hG2
    obtain ⟨x, to, te⟩ := t
    simp only at HT hok hee hG2
    by_cases h0 : te = 0
    · subst h0
      obtain ⟨hq0, hto, hts2, hxs⟩ := hok rfl
      obtain ⟨to, rfl⟩ := Int.eq_ofNat_of_zero_le (show 0 ≤ to by omega)
      have HG : Hid (G = fsF s (f - 1) to (ts ++ [x])) := by show G = _; rw [hG2, if_pos rfl, Int.toNat_natCast]
      clear hG2 hok hee
      go_wp2_with (first
        | (go_at_call 21; refine (HT.out _).mono ?_; rintro e w2 ⟨rfl, hB2⟩; have hown2 := own_keeps hown hB2; have hB3 := hB.trans (hB2.mono hbase); have hbase2 := hB3.size)
        | (at_builtin; refine wpList_append_own _ rfl (.tmp 20) (.tmp 22) 28 rfl w.heap.size 9 i0 (.string ⟨#[]⟩) 1 16 Try.underlying28 hi hz0 hz1 hz2 rfl (by decide) _ _ _ rfl (hown2.alloc _) ⟨w2.heap.size, 0, none⟩ 1 1 [_] rfl rfl (cell_one_new _ _ _) ?c2 ?c3 ?c4 ?c5 ?_))
      case c2 => intro u hu; simp at hu; subst hu; rfl
      case c3 => unfold maxLen; omega
      case c4 => omega
      case c5 => simp; omega
      intro v' w3 hown' hgrow _
      have R := rel_fs hbase2 hown2 hB3 hown' hgrow
      clear hown' hgrow hown2 hB3 hown hB hB2
      go_wp2
      go_roundw
      case rel => exact ⟨j + 1, to, f - 1, ts ++ [x], rfl, by omega, by omega, by omega, R.1, R.2, (by show _ = _; have := hts.out; simp; omega), HG⟩
      case measure => simp [intOf]; omega
    · have HG : Hid (G = ⟨ts, q⟩) := by show G = _; rw [hG2, if_neg h0]
      have hne : ((te : Int) != 0) = true := by rw [bne_iff_ne]; omega
      clear hG2 hok hee h0
      go_wp2_with (first
        | (go_at_call 21; refine (HT.out _).mono ?_; rintro e w2 ⟨rfl, hB2⟩; have hown2 := own_keeps hown hB2; have hB3 := hB.trans (hB2.mono hbase))
        )
      go_ret2
      exact ⟨_, ret_fnd (by rw [HG.out]), by rw [HG.out]; show World.ownsRow _ _ _ _ _ ts.length _; rw [hts.out]; exact hown2, hB3⟩
end Go.Proofs.Ytfdhaedpnjlpiab
