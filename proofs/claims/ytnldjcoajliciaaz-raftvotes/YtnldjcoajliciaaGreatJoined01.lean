/- Joined: What several walks share: the element type's row, a slice of bytes as a string, what stays behind a call. A fact laid by. The walk of octet's test of a place. The walks of the two readings of a number: each comes to 'rdAt', and writes nothing. Worlds that are alike but for one block. The walk of the document's reading of a number: it comes to 'rdAt' too. The walks of the putting of a number: the bytes are laid behind those of a slice that the call owns. The walks of the putting of a text: its size's bytes, and it. Slices of texts: what they hold in memory; how many bytes texts take. -/
import Derived.Test.YtnldjcoajliciaaGreatProg
import Derived.Test.YtnldjcoajliciaaGreatJoined00
import Derived.WalkSpells
import Derived.WalkLawsBesides
namespace Go.Proofs.YtnldjcoajliciaaGreat
open Go.RowKit
set_option linter.unusedVariables false

theorem info8 : (Tryz.prog.info? 5).map (fun i => (i.zero, i.size, i.bytes)) = some (some (.int .u8 0), 1, 1) := by kernel_rfl

end Go.Proofs.YtnldjcoajliciaaGreat
namespace Go.Proofs.YtnldjcoajliciaaGreat
open Go.RowKit
theorem hid {p : Prop} (h : p) : Hid p := h
end Go.Proofs.YtnldjcoajliciaaGreat
namespace Go.Proofs.YtnldjcoajliciaaGreat
open Go.RowKit
set_option linter.unusedVariables false

set_option maxHeartbeats 400000 in
theorem isPlace_yes (s : ByteArray) (a : Int) (w : World) (h0 : 0 ≤ a) (h1 : a ≤ s.size) :
    Calls Tryz.prog 128 #[.string s, .int .i64 a] w fun e w' => e = .returned (.bool true) ∧ w' = w := by
  go_enter Tryz.func128, Tryz.ntmps128
  go_wp2
  all_goals go_ret
  all_goals exact ⟨rfl, rfl⟩

set_option maxHeartbeats 400000 in
theorem isPlace_no (s : ByteArray) (a : Int) (w : World) (h : ¬ (0 ≤ a ∧ a ≤ s.size)) :
    Calls Tryz.prog 128 #[.string s, .int .i64 a] w fun e w' => e = .returned (.bool false) ∧ w' = w := by
  by_cases h0 : 0 ≤ a
  · have h1 : ¬ a ≤ s.size := by omega
    clear h
    go_enter Tryz.func128, Tryz.ntmps128
    go_wp2
    all_goals go_ret
    all_goals exact ⟨rfl, rfl⟩
  · clear h
    go_enter Tryz.func128, Tryz.ntmps128
    go_wp2
    all_goals go_ret
    all_goals exact ⟨rfl, rfl⟩

end Go.Proofs.YtnldjcoajliciaaGreat
namespace Go.Proofs.YtnldjcoajliciaaGreat
open Go.RowKit
set_option linter.unusedVariables false

theorem ret_boolN {a b : Bool} (h : a = b) : Ending.returned (.bool a) = .returned (.bool b) := by rw [h]
theorem mayB_1 (c k : Nat) (h1 : 0 < k) (h2 : ((c : Int) == 0) = true) : false = mayB c k := by simp [mayB] at *; omega
theorem mayB_2 (c k : Nat) (h1 : 0 < k) (h2 : ((c : Int) == 0) = false) (h3 : 9 ≤ (k : Int)) : (decide ((k : Int) < 9) || decide ((c : Int) ≤ 1)) = mayB c k := by
  have : ¬ (k : Int) < 9 := by omega
  have : ¬ k < 9 := by omega
  have hc : ¬ c = 0 := by simpa using h2
  simp [mayB, *]; omega
theorem mayB_3 (c k : Nat) (h1 : 0 < k) (h2 : ((c : Int) == 0) = false) (h3 : (k : Int) < 9) : true = mayB c k := by
  have hc : ¬ c = 0 := by simpa using h2
  have : k < 9 := by omega
  simp [mayB, *]
theorem mayB_4 (c k : Nat) (h1 : ¬ 0 < k) (h3 : (k : Int) < 9) : true = mayB c k := by
  have : k < 9 := by omega
  simp [mayB, *]

set_option maxHeartbeats 400000 in
theorem mayStand_any (c : UInt8) (k : Nat) (w : World) (hk : k ≤ 20) :
    Calls Tryz.prog 129 #[.int .u8 c.toNat, .int .i64 k] w fun e w' => e = .returned (.bool (mayB c.toNat k)) ∧ w' = w := by
  go_enter Tryz.func129, Tryz.ntmps129
  go_wp2
  all_goals go_ret
  · exact ⟨ret_boolN (mayB_1 _ _ ‹_› ‹_›), rfl⟩
  · exact ⟨ret_boolN (mayB_2 _ _ ‹_› ‹_› ‹_›), rfl⟩
  · exact ⟨ret_boolN (mayB_3 _ _ ‹_› ‹_› ‹_›), rfl⟩
  · exact ⟨ret_boolN (mayB_4 _ _ ‹_› ‹_›), rfl⟩

theorem ret_got {a : Int} {G : Got} {n i e : Int} (h1 : n = G.n) (h2 : i = endAt a G) (h3 : e = G.e) :
    Ending.returned (.tuple #[.int .u64 n, .int .i64 i, .int .i64 e]) = .returned (.tuple #[.int .u64 G.n, .int .i64 (endAt a G), .int .i64 G.e]) := by rw [h1, h2, h3]

set_option maxRecDepth 100000 in
set_option maxHeartbeats 800000 in
theorem readNumber_in (s : ByteArray) (a : Nat) (w : World) (h1 : a ≤ s.size) (hs : s.size ≤ maxLen) :
    Calls Tryz.prog 125 #[.string s, .int .i64 a] w fun e w' =>
      e = .returned (.tuple #[.int .u64 (rdAt s a).n, .int .i64 (endAt a (rdAt s a)), .int .i64 (rdAt s a).e]) ∧ w' = w := by
  unfold maxLen at hs
  have h0 : (0 : Int) ≤ (a : Int) := by omega
  have h1' : (a : Int) ≤ s.size := by omega
  have hG : Hid (rdAt s a = rd (s.data.toList.drop (a + 0)) 0 0) := by show rdAt s a = _; rw [rdAt, if_pos ⟨h0, h1'⟩]; simp
  generalize rdAt s a = G at hG ⊢
  go_enter Tryz.func125, Tryz.ntmps125
  go_wp2_with (go_at_call 128; refine (isPlace_yes _ _ _ h0 h1').mono ?_; rintro e w' ⟨rfl, rfl⟩)
  go_loop [7, 18] (fun n i => ∃ k acc : Nat, k ≤ 9 ∧ a + k ≤ s.size ∧ i = .int .i64 k ∧ n = .int .u64 acc ∧ acc < 128 ^ k ∧ Hid (G = rd (s.data.toList.drop (a + k)) k acc)) (fun _ i => s.size - (intOf i).toNat)
  case atStart => exact ⟨0, 0, by omega, by omega, rfl, rfl, by simp, hG⟩
  case round =>
    clear hG
    obtain ⟨k, acc, hk, hak, rfl, rfl, hacc, hG⟩ := hrel
    by_cases hlt : a + k < s.size
    · have hlt' : (k : Int) < (s.size : Int) - (a : Int) := by omega
      have hdr := drop_cons s _ hlt
      generalize hidx : s[a + k] = c at hdr
      rw [Hid, hdr] at hG
      clear hdr
      have hc8 := UInt8.toNat_lt c
      cases hm : mayB c.toNat k with
      | false =>
        have HG : Hid (G = ⟨0, 0, 3⟩) := by show G = _; rw [hG, rd_bad _ _ _ _ hm]
        have HM := show Hid _ from hm
        clear hG hm
        go_wp2_with (go_at_call 129; refine (mayStand_any _ _ _ (by omega)).mono ?_; rintro e w' ⟨rfl, rfl⟩; rw [HM.out])
        go_ret3
        exact ⟨ret_got (by rw [HG.out]; rfl) (by rw [HG.out]; rfl) (by rw [HG.out]; rfl), rfl⟩
      | true =>
        have HA := show Hid _ from step_is c.toNat k acc hk hc8 hm hacc
        have HL := show Hid _ from add_lt c.toNat k acc hacc
        have HM := show Hid _ from hm
        have HN := show Hid _ from may_more c.toNat k hk hm
        clear hm hacc
        by_cases hc : c.toNat < 128
        · have HG : Hid (G = ⟨acc + c.toNat % 128 * 128 ^ k, k + 1, 0⟩) := by show G = _; rw [hG, rd_last _ _ _ _ HM.out hc]
          clear hG HN HL
          go_wp2_with (go_at_call 129; refine (mayStand_any _ _ _ (by omega)).mono ?_; rintro e w' ⟨rfl, rfl⟩; rw [HM.out])
          go_ret3
          exact ⟨ret_got (by rw [HG.out]; exact HA.out) (by rw [HG.out]; simp [endAt]; omega) (by rw [HG.out]; rfl), rfl⟩
        · have HG : Hid (G = rd (s.data.toList.drop (a + k + 1)) (k + 1) (acc + c.toNat % 128 * 128 ^ k)) := by show G = _; rw [hG, rd_more _ _ _ _ HM.out hc]
          have hk9 := HN.out hc
          clear hG HN
          go_wp2_with (go_at_call 129; refine (mayStand_any _ _ _ (by omega)).mono ?_; rintro e w' ⟨rfl, rfl⟩; rw [HM.out])
          go_round
          case rel => exact ⟨k + 1, _, by omega, by omega, by go_num, congrArg (Value.int .u64) HA.out, HL.out, HG⟩
          case measure => simp [intOf]; omega
    · have HG : Hid (G = ⟨0, 0, 5⟩) := by show G = _; rw [hG.out, drop_none s _ (by omega)]; rfl
      clear hG
      go_wp2
      go_ret3
      exact ⟨ret_got (by rw [HG.out]; rfl) (by rw [HG.out]; rfl) (by rw [HG.out]; rfl), rfl⟩

set_option maxHeartbeats 400000 in
theorem readNumber_out (s : ByteArray) (a : Int) (w : World) (h : ¬ (0 ≤ a ∧ a ≤ s.size)) :
    Calls Tryz.prog 125 #[.string s, .int .i64 a] w fun e w' =>
      e = .returned (.tuple #[.int .u64 (rdAt s a).n, .int .i64 (endAt a (rdAt s a)), .int .i64 (rdAt s a).e]) ∧ w' = w := by
  have hG : Hid (rdAt s a = ⟨0, 0, 1⟩) := by show rdAt s a = _; rw [rdAt, if_neg h]
  have H := show Hid _ from h
  clear h
  generalize rdAt s a = G at hG ⊢
  go_enter Tryz.func125, Tryz.ntmps125
  go_wp2_with (go_at_call 128; refine (isPlace_no _ _ _ H.out).mono ?_; rintro e w' ⟨rfl, rfl⟩)
  go_ret3
  exact ⟨ret_got (by rw [hG.out]; rfl) (by rw [hG.out]; rfl) (by rw [hG.out]; rfl), rfl⟩

theorem readNumber_any (s : ByteArray) (a : Int) (w : World) (hs : s.size ≤ maxLen) :
    Calls Tryz.prog 125 #[.string s, .int .i64 a] w fun e w' =>
      e = .returned (.tuple #[.int .u64 (rdAt s a).n, .int .i64 (endAt a (rdAt s a)), .int .i64 (rdAt s a).e]) ∧ w' = w := by
  by_cases h : 0 ≤ a ∧ a ≤ s.size
  · obtain ⟨n, rfl⟩ := Int.eq_ofNat_of_zero_le h.1
    exact readNumber_in s n w (by omega) hs
  · exact readNumber_out s a w h
end Go.Proofs.YtnldjcoajliciaaGreat
namespace Go.Proofs.YtnldjcoajliciaaGreat
open Go.RowKit
set_option linter.unusedVariables false

/-- the worlds are alike but for block g and what is new -/
structure Only (g : Nat) (w w' : World) : Prop where
  os : w'.os = w.os
  tape : w'.tape = w.tape
  output : w'.output = w.output
  size : w.heap.size ≤ w'.heap.size
  block : ∀ k, k < w.heap.size → k ≠ g → w'.heap[k]? = w.heap[k]?
theorem Only.refl (g : Nat) (w : World) : Only g w w := ⟨rfl, rfl, rfl, Nat.le_refl _, fun _ _ _ => rfl⟩
theorem Only.trans {g : Nat} {a b c : World} (h : Only g a b) (k : Only g b c) : Only g a c :=
  ⟨k.os.trans h.os, k.tape.trans h.tape, k.output.trans h.output, Nat.le_trans h.size k.size, fun i hi hg => (k.block i (Nat.lt_of_lt_of_le hi h.size) hg).trans (h.block i hi hg)⟩
theorem _root_.Go.RowKit.Below.only {w w' : World} (h : Below w.heap.size w w') (g : Nat) : Only g w w' := ⟨h.os, h.tape, h.output, h.size, fun k hk _ => h.block k hk⟩
theorem Only.setCell {g : Nat} {a w : World} (h : Only g a w) (o : Nat) (u : Value) : Only g a (w.setCell ⟨g, o, none⟩ u) :=
  h.trans ⟨rfl, rfl, rfl, by simp [World.setCell], fun k _ hg => Below.heap_setCell _ _ _ _ hg⟩
theorem Only.below {g B : Nat} {w w' : World} (h : Only g w w') (hB : B ≤ g) (hs : B ≤ w.heap.size) : Below B w w' := ⟨h.os, h.tape, h.output, h.size, fun k hk => h.block k (by omega) (by omega)⟩
end Go.Proofs.YtnldjcoajliciaaGreat
namespace Go.Proofs.YtnldjcoajliciaaGreat
open Go.RowKit
set_option linter.unusedVariables false

end Go.Proofs.YtnldjcoajliciaaGreat
namespace Go.Proofs.YtnldjcoajliciaaGreat
open Go.RowKit
set_option linter.unusedVariables false

end Go.Proofs.YtnldjcoajliciaaGreat
namespace Go.Proofs.YtnldjcoajliciaaGreat
open Go.RowKit
set_option linter.unusedVariables false

end Go.Proofs.YtnldjcoajliciaaGreat
namespace Go.Proofs.YtnldjcoajliciaaGreat
open Go.RowKit
set_option linter.unusedVariables false

/-- cells that hold texts -/
def ss (l : List ByteArray) : List Value := l.map Value.string
theorem ss_len (l : List ByteArray) : (ss l).length = l.length := by simp [ss]

/-- a slice of texts: what it holds in memory -/
def Strs (w : World) (v : Value) (xs : List ByteArray) : Prop :=
  (xs = [] ∧ ∃ ad cap, v = .slice ad 0 cap) ∨
  ∃ b off cap, v = .slice (some ⟨b, off, none⟩) xs.length cap ∧ b < w.heap.size ∧ ∀ j, j < xs.length → w.cell? ⟨b, off + j, none⟩ = some (.string (xs.getD j ⟨#[]⟩))

theorem Strs.below {w w' : World} {v : Value} {xs : List ByteArray} (h : Strs w v xs) (hB : Below w.heap.size w w') : Strs w' v xs := by
  rcases h with h | ⟨b, off, cap, hv, hb, hc⟩
  · exact .inl h
  · exact .inr ⟨b, off, cap, hv, Nat.lt_of_lt_of_le hb hB.size, fun j hj => (hB.cell (p := ⟨b, off + j, none⟩) hb).trans (hc j hj)⟩

theorem Strs.at {w : World} {v : Value} {xs : List ByteArray} (h : Strs w v xs) : ∃ ad cap, v = .slice ad xs.length cap ∧
    ∀ j, j < xs.length → ∃ b off, ad = some ⟨b, off, none⟩ ∧ b < w.heap.size ∧ w.cell? ⟨b, off + j, none⟩ = some (.string (xs.getD j ⟨#[]⟩)) := by
  rcases h with ⟨rfl, ad, cap, rfl⟩ | ⟨b, off, cap, rfl, hb, hc⟩
  · exact ⟨ad, cap, rfl, fun j hj => absurd hj (by simp)⟩
  · exact ⟨_, cap, rfl, fun j hj => ⟨b, off, rfl, hb, hc j hj⟩⟩

/-- how many bytes texts take at the most -/
def room (xs : List ByteArray) : Nat := (xs.map fun x => x.size + 10).sum
end Go.Proofs.YtnldjcoajliciaaGreat
