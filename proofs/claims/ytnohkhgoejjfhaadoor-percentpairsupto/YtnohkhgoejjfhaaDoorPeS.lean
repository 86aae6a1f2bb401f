/- strings.SplitSeq at a sign of one byte: what its iterator hands on. -/
import Derived.RangeFuncNested
import Derived.RangeFuncBound
import Derived.RangeFuncCalls
import Derived.RangeFuncLeaves
import Derived.Shelf.Abstract
import Derived.Shelf.RegionOpen
import Derived.WalkKit
import Derived.OwnWalkIn
import Derived.TacticsInMore
import Derived.LoopNIn
import Derived.LoopIn
import Derived.Test.YtnohkhgoejjfhaaDoorPeI
namespace Go.Proofs.YtnohkhgoejjfhaaDoor
open Go.RowKit Go.Shelf
set_option linter.unusedVariables false
set_option linter.unusedSimpArgs false
attribute [local go_sem] Oper.semAt_some

/-- the parts of a text between a sign -/
def ptsB (b : UInt8) (s : ByteArray) : List ByteArray := (splitB b s.data.toList).map (fun l => ⟨l.toArray⟩)
theorem ba_id (s : ByteArray) : (⟨s.data.toList.toArray⟩ : ByteArray) = s := by cases s; simp
theorem ptsB_one (b : UInt8) (s : ByteArray) (h : Lib.indexByte s.data.toList b = -1) : ptsB b s = [s] := by
  rcases ix_split b s.data.toList with ⟨_, h2, _⟩ | ⟨i, h1, _⟩
  · unfold ptsB; rw [h2]; simp [ba_id]
  · omega
theorem ptsB_cons (b : UInt8) (s : ByteArray) (i : Nat) (h : Lib.indexByte s.data.toList b = (i : Int)) : i < s.size ∧ ptsB b s = s.extract 0 i :: ptsB b (s.extract (i + 1) s.size) := by
  rcases ix_split b s.data.toList with ⟨h1, _⟩ | ⟨j, h1, h2, h3, _⟩
  · omega
  · obtain rfl : i = j := by omega
    have hl : s.data.toList.length = s.size := by simp
    refine ⟨by omega, ?_⟩
    unfold ptsB
    rw [h3, List.map_cons, ext_take s i (by omega), ext_drop s (i + 1)]
theorem wide_d {n : Nat} : Fence.wide.depth.isSome = true → 1 ≤ n := fun h => (by cases h)
/-- how long the text in a box is -/
def lenAt (h : Nat) (W : World) : Nat := match W.cell? ⟨h, 0, none⟩ with
  | some (.string s) => s.size
  | _ => 0
theorem lenAt_eq {h : Nat} {W : World} {s : ByteArray} (e : W.cell? ⟨h, 0, none⟩ = some (.string s)) : lenAt h W = s.size := by unfold lenAt; rw [e]

set_option maxRecDepth 100000 in
set_option maxHeartbeats 2000000 in
theorem split1_in (b : UInt8) (n l h : Nat) (P0 : List ByteArray) (J : List ByteArray → ByteArray → World → Prop) (Jx : List ByteArray → World → Prop)
    (hc : ∀ pre s W, J pre s W → W.cell? ⟨h, 0, none⟩ = some (.string s) ∧ W.frozen? ⟨h, 0, none⟩ = false ∧ W.cell? ⟨h + 1, 0, none⟩ = some (.string ⟨#[b]⟩) ∧ W.cell? ⟨h + 2, 0, none⟩ = some (.int .i64 0))
    (hst : ∀ pre s s' W, J pre s W → J pre s' (W.setCell ⟨h, 0, none⟩ (.string s')))
    (hY : ∀ pre (x : ByteArray) s W, x.size ≤ 1048576 → (pre ++ [x]) <+: P0 → J pre s W → YieldAt Fence.wide (n - 1) Tryd.prog l #[.string x] W fun e W' => (e = .returned (.bool true) ∧ J (pre ++ [x]) s W') ∨ (e = .returned (.bool false) ∧ Jx (pre ++ [x]) W'))
    (s0 : ByteArray) (W : World) (hs : s0.size ≤ 1048576) (hP0 : P0 = ptsB b s0) (h0 : J [] s0 W) :
    CallsIn Fence.wide n Tryd.prog 57 #[.func (.yield l) #[] #[], .pointer (some ⟨h + 1, 0, none⟩), .pointer (some ⟨h, 0, none⟩), .pointer (some ⟨h + 2, 0, none⟩)] W fun e W' => (∃ v, e = .returned v) ∧ ((∃ s, J (ptsB b s0) s W') ∨ ∃ pre, pre <+: ptsB b s0 ∧ Jx pre W') := by
  subst hP0
  have HC := hid hc
  have HST := hid hst
  have HY := hid hY
  have H0 := hid h0
  have hz : ((⟨#[b]⟩ : ByteArray).size : Int) = 1 := rfl
  have HIX : Hid (∀ (s : ByteArray) (W : World), s.size ≤ 1048576 → Calls Tryd.prog 48 #[.string s, .string ⟨#[b]⟩] W fun e w' => e = .returned (.int .i64 (Lib.indexByte s.data.toList b)) ∧ w' = W) := fun s W hs => index_any s b W (by omega)
  obtain ⟨c0, f0, c1, c2⟩ := hc _ _ _ h0
  clear hc hst hY h0
  generalize (⟨#[b]⟩ : ByteArray) = sep at *
  refine callsIn_of_wp Tryd.func57 rfl trivial ?_ rfl
  simp only [Tryd.ntmps57, List.size_toArray, List.length_cons, List.length_nil, Nat.reduceAdd, Nat.reduceSub, Array.replicate_succ, Array.replicate_zero, List.push_toArray, List.append_toArray, List.nil_append, List.cons_append]
  gi_wp2
  gi_loopw [] (fun wr => ∃ (pre : List ByteArray) (s : ByteArray), s.size ≤ 1048576 ∧ Hid (ptsB b s0 = pre ++ ptsB b s) ∧ Hid (J pre s wr)) (fun wr => lenAt h wr)
  case atStart => exact ⟨[], s0, hs, rfl, H0⟩
  case round =>
    clear H0 c0 f0 c1 c2 hs
    obtain ⟨pre, s, hs, HP, HJ⟩ := hrel
    rename World => wr
    obtain ⟨c0, f0, c1, c2⟩ := HC.out _ _ _ HJ.out
    have Q := hid (HIX.out s wr hs)
    by_cases hi : Lib.indexByte s.data.toList b = -1
    · have HO := hid (ptsB_one b s hi)
      rw [hi] at Q
      obtain ⟨fn, tmps, assign, body, hy, hR⟩ := HY.out pre s s wr hs (by rw [HP.out, HO.out]; exact List.prefix_refl _) HJ.out
      clear hi HIX HC HST HY HJ
      gi_wp2
      refine ⟨trivial, wide_d, ?_⟩
      refine (callsIn_wide.2 Q.out).mono ?_
      rintro e w' ⟨rfl, rfl⟩
      clear Q
      gi_wp2
      refine ⟨wide_d, ?_⟩
      refine hR.mono ?_
      have FIN := hid (show ptsB b s0 = pre ++ [s] by rw [HP.out, HO.out])
      clear HP HO hR hy c0 f0 c1 c2
      rintro e W3 (⟨rfl, hJ3⟩ | ⟨rfl, hJx3⟩)
      · have HJ3 := hid hJ3
        clear hJ3
        gi_wp2
        go_end0
        exact ⟨⟨_, rfl⟩, .inl ⟨s, by rw [FIN.out]; exact HJ3.out⟩⟩
      · have HJ3 := hid hJx3
        clear hJx3
        gi_wp2
        go_end0
        exact ⟨⟨_, rfl⟩, .inr ⟨pre ++ [s], by rw [FIN.out]; exact List.prefix_refl _, HJ3.out⟩⟩
    · obtain ⟨i, hi⟩ : ∃ i : Nat, Lib.indexByte s.data.toList b = (i : Int) := by
        rcases ix_split b s.data.toList with ⟨h1, _⟩ | ⟨j, h1, _⟩
        · exact absurd h1 hi
        · exact ⟨j, h1⟩
      have HO := hid (ptsB_cons b s i hi)
      have hlt := HO.out.1
      rw [hi] at Q
      clear hi
      have hxs : (s.extract 0 i).size ≤ 1048576 := by
        have : (s.extract 0 i).size ≤ s.size := by simp; omega
        omega
      obtain ⟨fn, tmps, assign, body, hy, hR⟩ := HY.out pre (s.extract 0 i) s wr hxs (by rw [HP.out, HO.out.2]; exact ⟨ptsB b (s.extract (i + 1) s.size), by simp⟩) HJ.out
      clear hxs
      have a0 : decide ((i : Int) < 0) = false := decide_eq_false (by omega)
      have a1 : (0 : Int) ≤ (i : Int) := by omega
      have a2 : (i : Int) ≤ (s.size : Int) := by omega
      have a3 : (0 : Int) ≤ ((i + 1 : Nat) : Int) := by omega
      have a4 : ((i + 1 : Nat) : Int) ≤ (s.size : Int) := by omega
      have hw0 : wrap64 (i : Int) = (i : Int) := IntWalk.wrap64_in _ (by omega)
      have hw : wrap64 ((i : Int) + 1) = ((i + 1 : Nat) : Int) := by rw [IntWalk.wrap64_in _ (by omega)]; omega
      have HLE : Hid ((s.extract (i + 1) s.size).size < s.size ∧ (s.extract (i + 1) s.size).size ≤ 1048576) := by
        have : (s.extract (i + 1) s.size).size = s.size - (i + 1) := by simp
        exact ⟨by omega, by omega⟩
      have HN : Hid (lenAt h wr = s.size) := lenAt_eq c0
      clear HIX HJ hlt hs
      gi_wp2
      refine ⟨trivial, wide_d, ?_⟩
      refine (callsIn_wide.2 Q.out).mono ?_
      rintro e w' ⟨rfl, rfl⟩
      clear Q
      gi_wp2
      refine ⟨wide_d, ?_⟩
      refine hR.mono ?_
      clear hR hy c0 f0 c1 c2
      rintro e W3 (⟨rfl, hJ3⟩ | ⟨rfl, hJx3⟩)
      · have HJ3 := hid hJ3
        clear hJ3
        obtain ⟨c0, f0, c1, c2⟩ := HC.out _ _ _ HJ3.out
        have HJ4 := hid (HST.out _ _ (s.extract (i + 1) s.size) _ HJ3.out)
        clear HC HST HY HJ3
        gi_wp2
        have c0' := World.cell?_setCell_same' W3 ⟨h, 0, none⟩ (.string (s.extract (i + 1) s.size)) (by rw [c0]; rfl)
        refine ⟨⟨pre ++ [s.extract 0 i], s.extract (i + 1) s.size, HLE.out.2, ?_, HJ4⟩, ?_⟩
        · show ptsB b s0 = _
          rw [HP.out, HO.out.2]; simp
        · rw [HN.out, lenAt_eq c0']; exact HLE.out.1
      · have HJ3 := hid hJx3
        clear hJx3
        gi_wp2
        refine bodyPost_ret (results_none rfl _ _ _) rfl ?_
        exact ⟨⟨_, rfl⟩, .inr ⟨pre ++ [s.extract 0 i], by rw [HP.out, HO.out.2]; exact ⟨ptsB b (s.extract (i + 1) s.size), by simp⟩, HJ3.out⟩⟩
end Go.Proofs.YtnohkhgoejjfhaaDoor
