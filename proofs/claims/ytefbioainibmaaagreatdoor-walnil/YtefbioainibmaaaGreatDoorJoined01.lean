/- Joined: What several walks share: the element type's row, a slice of bytes as a string, what stays behind a call. The walks of the two sums: each comes to 'crc'. The walks of the two puttings of a wide number. The walk of octet's test of a place. The walks of the two readings of a wide number: each comes to 'rdW', and writes nothing. The mathematics of frames: what making and finding a frame come to. The walks of the putting of a number: the bytes are laid behind those of a slice that the call owns. The walks of the putting of a text: its size's bytes, and it. A fact laid by. The walks of the two readings of a number: each comes to 'rdAt', and writes nothing. Worlds that are alike but for one block. The walk of the document's reading of a number: it comes to 'rdAt' too. Slices of texts: what they hold in memory; how many bytes texts take. The mathematics of frames, there and back: what is framed is found. -/
import Derived.Test.YtefbioainibmaaaGreatDoorProg
import Derived.Test.YtefbioainibmaaaGreatDoorJoined00
import Derived.WalkSpells
import Derived.WalkLawsBesides
namespace Go.Proofs.YtefbioainibmaaaGreatDoor
open Go.RowKit
set_option linter.unusedVariables false

theorem info8 : (Tryz.prog.info? 5).map (fun i => (i.zero, i.size, i.bytes)) = some (some (.int .u8 0), 1, 1) := by kernel_rfl

/-- 'string(b)' of a slice that the call owns -/
theorem convert_owned {w : World} {base : Nat} {v : Value} {n : Nat} {l : List UInt8} (h : w.ownsRow base 5 1 v n (bs l)) (hl : l ≠ []) :
    (convert 143 9 v).run Tryz.prog w = .ok (.string ⟨l.toArray⟩) w := by
  obtain ⟨h1, h2⟩ := h
  rw [bs_len] at h1
  rcases h2 with ⟨rfl, rfl⟩ | ⟨g, cap, cur, rfl, hg, hh, hn, hm, hs, ht⟩
  · exact absurd (List.length_eq_zero_iff.1 (by omega)) hl
  · have hn' : n = l.length := by omega
    subst hn'
    refine run_convert_bytes_back w 143 9 5 _ cap l Tryz.underlying143 Tryz.underlying5 Tryz.underlying9 ?_
    intro j hj
    have : (bs l)[j]? = some (.int .u8 (l[j].toNat : Int)) := by simp [bs, hj]
    rw [← ht, List.getElem?_take_of_lt (by omega)] at this
    rw [Addr.add_lit]
    simp [World.cell?, hh]
    simpa using this

theorem own_below {base : Nat} {w wr w1 : World} {v : Value} {n : Nat} {xs : List Value} (hbase : base ≤ wr.heap.size) (hown : wr.ownsRow base 5 1 v n xs) (hB : Below base w wr) (hg : wr.grownBy w1 v.ownBlock) : Below base w w1 := by
  refine hB.grown hg hbase ?_
  intro k hk
  rcases hown.2 with ⟨h, _⟩ | ⟨g, cap, cur, h, hgb, _⟩
  · subst h; simp [Value.ownBlock] at hk
  · subst h; simp [Value.ownBlock] at hk; omega

theorem own_assoc {base : Nat} {w : World} {v : Value} {n : Nat} {xs ys zs : List Value} (h : w.ownsRow base 5 1 v n (xs ++ ys ++ zs)) : w.ownsRow base 5 1 v n (xs ++ (ys ++ zs)) := by
  rw [← List.append_assoc]; exact h

end Go.Proofs.YtefbioainibmaaaGreatDoor
namespace Go.Proofs.YtefbioainibmaaaGreatDoor
open Go.RowKit
set_option linter.unusedVariables false

theorem ret_u32 {a b : Int} (h : a = b) : Ending.returned (.int .u32 a) = .returned (.int .u32 b) := by rw [h]

set_option maxRecDepth 100000 in
set_option maxHeartbeats 800000 in
theorem shift_any (x : Nat) (s : ByteArray) (w : World) (hx : x < 4294967296) (hs : s.size ≤ maxLen) :
    Calls Tryz.prog 163 #[.int .u32 x, .string s] w fun e w' => e = .returned (.int .u32 (crc x s.data.toList)) ∧ w' = w := by
  unfold maxLen at hs
  have hG : Hid (crc x s.data.toList = crc x (s.data.toList.drop 0)) := rfl
  generalize crc x s.data.toList = G at hG ⊢
  go_enter Tryz.func163, Tryz.ntmps163
  go_wp2
  go_loop [0, 9] (fun st i => ∃ (k y : Nat), k ≤ s.size ∧ i = .int .i64 k ∧ st = .int .u32 y ∧ y ≤ 4294967295 ∧ Hid (G = crc y (s.data.toList.drop k))) (fun _ i => s.size - (intOf i).toNat)
  case atStart => exact ⟨0, x, by omega, rfl, rfl, by omega, hG⟩
  case round =>
    clear hG
    obtain ⟨k, y, hk, rfl, rfl, hy, hG⟩ := hrel
    by_cases hlt : k < s.size
    · have hdr := drop_cons s k hlt
      generalize hidx : s[k] = c at hdr
      have HG : Hid (G = crc (crcIt (8 - 0) (y ^^^ c.toNat)) (s.data.toList.drop (k + 1))) := by show G = _; rw [hG.out, hdr]; rfl
      have HX := show Hid _ from xor_byte y c (by omega)
      have hz := xor32 y c.toNat (by omega) (by have := UInt8.toNat_lt c; omega)
      generalize y ^^^ c.toNat = z at HG HX hz
      clear hG hdr
      have hlt' : (k : Int) < (s.size : Int) := by omega
      go_wp2
      go_loop [0, 18] (fun st i => ∃ (j u : Nat), j ≤ 8 ∧ i = .int .i64 j ∧ st = .int .u32 u ∧ u ≤ 4294967295 ∧ Hid (G = crc (crcIt (8 - j) u) (s.data.toList.drop (k + 1)))) (fun _ i => 8 - (intOf i).toNat)
      case atStart => exact ⟨0, z, by omega, rfl, congrArg (Value.int .u32) HX.out, by omega, HG⟩
      case round =>
        clear HG HX
        obtain ⟨j, u, hj, rfl, rfl, hu, HG⟩ := hrel
        by_cases hj8 : j < 8
        · have HS := show Hid _ from mask_step u (by omega)
          have hl := crcStep_lt u (by omega)
          have HG2 : Hid (G = crc (crcIt (8 - (j + 1)) (crcStep u)) (s.data.toList.drop (k + 1))) := by show G = _; rw [HG.out, show 8 - j = (8 - (j + 1)) + 1 by omega]; rfl
          clear HG
          generalize crcStep u = u2 at HS hl HG2
          go_wp2
          go_round
          case rel => exact ⟨j + 1, u2, by omega, by go_num, congrArg (Value.int .u32) HS.out, by omega, HG2⟩
          case measure => simp [intOf]; omega
        · have HG2 : Hid (G = crc u (s.data.toList.drop (k + 1))) := by show G = _; rw [HG.out, show 8 - j = 0 by omega]; rfl
          clear HG
          go_wp2
          go_round
          case rel => exact ⟨k + 1, u, by omega, by go_num, rfl, by omega, HG2⟩
          case measure => simp [intOf]; omega
    · have HG : Hid (G = y) := by show G = _; rw [hG.out, drop_none s k (by omega)]; rfl
      clear hG
      go_wp2
      go_ret
      exact ⟨ret_u32 (by rw [HG.out]), rfl⟩

/-- the sum of bytes -/
def sumN (l : List UInt8) : Nat := 4294967295 - crc 4294967295 l

set_option maxRecDepth 100000 in
set_option maxHeartbeats 400000 in
theorem sumOf_any (a s : ByteArray) (w : World) (ha : a.size ≤ maxLen) (hs : s.size ≤ maxLen) :
    Calls Tryz.prog 135 #[.string a, .string s] w fun e w' => e = .returned (.int .u32 (sumN (a.data.toList ++ s.data.toList))) ∧ w' = w := by
  have HA := show Hid _ from fun w => shift_any 4294967295 a w (by decide) ha
  have hc := crc_lt a.data.toList 4294967295 (by decide)
  have HU := show Hid (sumN (a.data.toList ++ s.data.toList) = 4294967295 - crc 4294967295 (a.data.toList ++ s.data.toList)) from rfl
  rw [crc_append] at HU
  generalize crc 4294967295 a.data.toList = c at HA hc HU
  have HS := show Hid _ from fun w => shift_any c s w hc hs
  have hd := crc_lt s.data.toList c hc
  generalize crc c s.data.toList = d at HS hd HU
  go_enter Tryz.func135, Tryz.ntmps135
  go_wp2_with fail
  refine (HA.out _).mono ?_
  rintro e w' ⟨rfl, rfl⟩
  go_wp2_with fail
  refine (HS.out _).mono ?_
  rintro e w2 ⟨rfl, rfl⟩
  go_wp2
  go_ret
  exact ⟨ret_u32 (by rw [HU.out]; exact not_is d hd), rfl⟩

theorem sumN_lt (l : List UInt8) : sumN l < 4294967296 := by unfold sumN; omega
end Go.Proofs.YtefbioainibmaaaGreatDoor
namespace Go.Proofs.YtefbioainibmaaaGreatDoor
open Go.RowKit
set_option linter.unusedVariables false

set_option maxHeartbeats 400000 in
theorem isWide_yes (k : Int) (w : World) (h0 : 1 ≤ k) (h1 : k ≤ 8) :
    Calls Tryz.prog 161 #[.int .i64 k] w fun e w' => e = .returned (.bool true) ∧ w' = w := by
  go_enter Tryz.func161, Tryz.ntmps161
  go_wp2
  all_goals go_ret
  all_goals exact ⟨rfl, rfl⟩
set_option maxHeartbeats 400000 in
theorem isWide_no (k : Int) (w : World) (h : ¬ (1 ≤ k ∧ k ≤ 8)) :
    Calls Tryz.prog 161 #[.int .i64 k] w fun e w' => e = .returned (.bool false) ∧ w' = w := by
  by_cases h0 : 1 ≤ k
  · have h1 : ¬ k ≤ 8 := by omega
    clear h
    go_enter Tryz.func161, Tryz.ntmps161
    go_wp2
    all_goals go_ret
    all_goals exact ⟨rfl, rfl⟩
  · clear h
    go_enter Tryz.func161, Tryz.ntmps161
    go_wp2
    all_goals go_ret
    all_goals exact ⟨rfl, rfl⟩

theorem ret_wide {n : Nat} {k : Int} {x : ByteArray} {e : Int} (h1 : x = ⟨(wideR n k).toArray⟩) (h2 : e = wideE n k) :
    Ending.returned (.tuple #[.string x, .int .i64 e]) = .returned (.tuple #[.string ⟨(wideR n k).toArray⟩, .int .i64 (wideE n k)]) := by rw [h1, h2]

theorem rel_store {w wr : World} {g n wide k : Nat} (hk : k < wide) (hown : wr.ownsRow g 5 1 (.slice (some ⟨g, 0, none⟩) wide wide) wide (bs (laidW n wide k))) (hB : Below g w wr) {x : Int} (hx : x = (UInt8.ofNat (n / 256 ^ k)).toNat) :
    (wr.setCell ⟨g, wide - 1 - k, none⟩ (.int .u8 x)).ownsRow g 5 1 (.slice (some ⟨g, 0, none⟩) wide wide) wide (bs (laidW n wide (k + 1))) ∧ Below g w (wr.setCell ⟨g, wide - 1 - k, none⟩ (.int .u8 x)) := by
  subst hx
  refine ⟨?_, hB.setCell (Nat.le_refl _) _⟩
  have := (hown.stored (wide - 1 - k) (.int .u8 (UInt8.ofNat (n / 256 ^ k)).toNat)).1
  rw [bs_set, laidW_step n wide k hk] at this
  exact this

theorem row_cell {wr : World} {g n wide k : Nat} (hk : k < wide) (hown : wr.ownsRow g 5 1 (.slice (some ⟨g, 0, none⟩) wide wide) wide (bs (laidW n wide k))) : ∃ x, wr.cell? ⟨g, wide - 1 - k, none⟩ = some (.int .u8 x) := by
  have h := hown.cellAt (wide - 1 - k) (by omega)
  have hl := laidW_len n wide k (by omega)
  rw [h, bs, List.getElem?_map, List.getElem?_eq_getElem (by omega)]
  exact ⟨_, rfl⟩

set_option maxRecDepth 100000 in
set_option maxHeartbeats 800000 in
theorem wide_in (n k : Nat) (w : World) (hn : n < 18446744073709551616) (h1 : 1 ≤ k) (h8 : k ≤ 8) :
    Calls Tryz.prog 173 #[.int .u64 n, .int .i64 k] w fun e w' => e = .returned (.tuple #[.string ⟨(wideR n k).toArray⟩, .int .i64 (wideE n k)]) ∧ Below w.heap.size w w' := by
  obtain ⟨i0, hi, hz0, hz1, hz2⟩ := info_parts info8
  by_cases hf : n < 256 ^ k
  · have hb := shr8_ne n k hf
    have HW := show Hid _ from wide_yes n k h1 h8 hf
    clear hf
    go_enter Tryz.func173, Tryz.ntmps173
    go_wp2_with (first | (go_at_call 161; refine (isWide_yes _ _ (by omega) (by omega)).mono ?_; rintro e w' ⟨rfl, rfl⟩) | (at_make; refine wpList_make_full _ rfl (.tmp 18) (.tmp 18) 143 rfl w'.heap.size 5 i0 (.int .u8 0) 1 Tryz.underlying143 hi hz0 hz1 .i64 .i64 _ _ k rfl rfl rfl rfl ?c1 ?c2 (Nat.le_refl _) ?_))
    case c1 => rw [hz2]; omega
    case c2 => unfold maxLen; omega
    intro w2 hown0 hgrow
    have hB0 : Below w'.heap.size w' w2 := (Below.refl _ _).grown hgrow (Nat.le_refl _) (by intro k hk; cases hk)
    have hown : w2.ownsRow w'.heap.size 5 1 (.slice (some ⟨w'.heap.size, 0, none⟩) k k) k (bs (laidW n k 0)) := by
      have e : (madeCells #[Value.int .u8 0] k).toList = bs (laidW n k 0) := by
        rw [toList_madeCells_one]; simp [laidW, be, bs_zero]
      rw [e] at hown0; exact hown0
    clear hown0 hgrow
    generalize hg : w'.heap.size = g at hown hB0 ⊢
    go_wp2
    go_loopw [21] (fun i wr => ∃ j : Nat, j ≤ k ∧ i = .int .i64 j ∧ wr.ownsRow g 5 1 (.slice (some ⟨g, 0, none⟩) k k) k (bs (laidW n k j)) ∧ Below g w' wr) (fun i _ => k - (intOf i).toNat)
    case atStart => exact ⟨0, by omega, rfl, hown, hB0⟩
    case round =>
      clear hown hB0
      obtain ⟨j, hj, rfl, hown, hB⟩ := hrel
      by_cases hlt : j < k
      · obtain ⟨x0, hcell⟩ := row_cell hlt hown
        have hfz := hown.frozenAt (k - 1 - j)
        have R := rel_store hlt hown hB (shr8_byte n j)
        clear hown hB
        go_wp2
        go_roundw
        case rel => exact ⟨j + 1, by omega, by go_num, R.1, R.2⟩
        case measure => simp [intOf]; omega
      · have hjk : j = k := by omega
        subst hjk
        rw [laidW_full] at hown
        have hne : be n j ≠ [] := by intro h; have := be_len n j; rw [h] at this; simp at this; omega
        have hcv := convert_owned hown hne
        clear hown
        go_wp2
        go_ret2
        exact ⟨ret_wide (by rw [HW.out.1]) (by rw [HW.out.2]; rfl), by rw [hg]; exact hB⟩
  · have hb := shr8_ne' n k hf
    have HW := show Hid _ from wide_no n k (by intro h; exact hf (by simpa using h.2.2))
    clear hf
    go_enter Tryz.func173, Tryz.ntmps173
    go_wp2_with (first | (go_at_call 161; refine (isWide_yes _ _ (by omega) (by omega)).mono ?_; rintro e w' ⟨rfl, rfl⟩))
    go_ret2
    exact ⟨ret_wide (by rw [HW.out.1]) (by rw [HW.out.2]; rfl), Below.refl _ _⟩

set_option maxRecDepth 100000 in
set_option maxHeartbeats 400000 in
theorem wide_out (n : Nat) (k : Int) (w : World) (h : ¬ (1 ≤ k ∧ k ≤ 8)) :
    Calls Tryz.prog 173 #[.int .u64 n, .int .i64 k] w fun e w' => e = .returned (.tuple #[.string ⟨(wideR n k).toArray⟩, .int .i64 (wideE n k)]) ∧ Below w.heap.size w w' := by
  have HW := show Hid _ from wide_no n k (fun c => h ⟨c.1, c.2.1⟩)
  have H := show Hid _ from h
  clear h
  go_enter Tryz.func173, Tryz.ntmps173
  go_wp2_with (first | (go_at_call 161; refine (isWide_no _ _ H.out).mono ?_; rintro e w' ⟨rfl, rfl⟩))
  go_ret2
  exact ⟨ret_wide (by rw [HW.out.1]) (by rw [HW.out.2]; rfl), Below.refl _ _⟩

theorem wide_any (n : Nat) (k : Int) (w : World) (hn : n < 18446744073709551616) :
    Calls Tryz.prog 173 #[.int .u64 n, .int .i64 k] w fun e w' => e = .returned (.tuple #[.string ⟨(wideR n k).toArray⟩, .int .i64 (wideE n k)]) ∧ Below w.heap.size w w' := by
  by_cases h : 1 ≤ k ∧ k ≤ 8
  · obtain ⟨m, rfl⟩ := Int.eq_ofNat_of_zero_le (show 0 ≤ k by omega)
    exact wide_in n m w hn (by omega) (by omega)
  · exact wide_out n k w h
end Go.Proofs.YtefbioainibmaaaGreatDoor
namespace Go.Proofs.YtefbioainibmaaaGreatDoor
open Go.RowKit
set_option linter.unusedVariables false

set_option maxHeartbeats 400000 in
theorem isPlace_yes (s : ByteArray) (a : Int) (w : World) (h0 : 0 ≤ a) (h1 : a ≤ s.size) :
    Calls Tryz.prog 162 #[.string s, .int .i64 a] w fun e w' => e = .returned (.bool true) ∧ w' = w := by
  go_enter Tryz.func162, Tryz.ntmps162
  go_wp2
  all_goals go_ret
  all_goals exact ⟨rfl, rfl⟩

set_option maxHeartbeats 400000 in
theorem isPlace_no (s : ByteArray) (a : Int) (w : World) (h : ¬ (0 ≤ a ∧ a ≤ s.size)) :
    Calls Tryz.prog 162 #[.string s, .int .i64 a] w fun e w' => e = .returned (.bool false) ∧ w' = w := by
  by_cases h0 : 0 ≤ a
  · have h1 : ¬ a ≤ s.size := by omega
    clear h
    go_enter Tryz.func162, Tryz.ntmps162
    go_wp2
    all_goals go_ret
    all_goals exact ⟨rfl, rfl⟩
  · clear h
    go_enter Tryz.func162, Tryz.ntmps162
    go_wp2
    all_goals go_ret
    all_goals exact ⟨rfl, rfl⟩

end Go.Proofs.YtefbioainibmaaaGreatDoor
namespace Go.Proofs.YtefbioainibmaaaGreatDoor
open Go.RowKit
set_option linter.unusedVariables false

theorem ret_w {a : Int} {G : Got} {n i e : Int} (h1 : n = G.n) (h2 : i = endAt a G) (h3 : e = G.e) :
    Ending.returned (.tuple #[.int .u64 n, .int .i64 i, .int .i64 e]) = .returned (.tuple #[.int .u64 G.n, .int .i64 (endAt a G), .int .i64 G.e]) := by rw [h1, h2, h3]

theorem rdW_arg (s : ByteArray) (a k : Int) (h : ¬ (1 ≤ k ∧ k ≤ 8 ∧ 0 ≤ a ∧ a ≤ s.size)) : rdW s a k = ⟨0, 0, 1⟩ := by rw [rdW, if_neg h]
theorem rdW_end (s : ByteArray) (a k : Int) (h : 1 ≤ k ∧ k ≤ 8 ∧ 0 ≤ a ∧ a ≤ s.size) (h2 : ¬ a + k ≤ s.size) : rdW s a k = ⟨0, 0, 5⟩ := by rw [rdW, if_pos h, if_neg h2]
theorem rdW_ok (s : ByteArray) (a k : Nat) (h1 : 1 ≤ k) (h8 : k ≤ 8) (h2 : a + k ≤ s.size) : rdW s a k = ⟨beN ((s.data.toList.drop a).take k), k, 0⟩ := by
  rw [rdW, if_pos ⟨by omega, by omega, by omega, by omega⟩, if_pos (by omega)]; simp

theorem beN_step (s : ByteArray) (a k : Nat) (h : a + k < s.size) (c : UInt8) (hc : s[a + k] = c) : beN ((s.data.toList.drop a).take (k + 1)) = beN ((s.data.toList.drop a).take k) * 256 + c.toNat := by
  rw [take_snoc s a k h, beN_snoc, hc]
theorem beN_small (s : ByteArray) (a k : Nat) (hk : k ≤ 7) : beN ((s.data.toList.drop a).take k) < 72057594037927936 := by
  have h1 := beN_lt ((s.data.toList.drop a).take k)
  have h2 : (256 : Nat) ^ ((s.data.toList.drop a).take k).length ≤ 256 ^ 7 := Nat.pow_le_pow_right (by omega) (by simp; omega)
  have h3 := pow256_le 7 (by omega)
  omega

theorem or_step (x c : Nat) (hx : x < 72057594037927936) (hc : c < 256) : bits .or .u64 (IntKind.u64.wrap ((x : Int) * 256)) (IntKind.u64.wrap (c : Int)) = ((x * 256 + c : Nat) : Int) := by
  rw [IntKind.wrap_u64, IntKind.wrap_u64, show ((x : Int) * 256) % 18446744073709551616 = ((x * 256 : Nat) : Int) by omega, show (c : Int) % 18446744073709551616 = (c : Int) by omega]
  exact or_small x c hx hc

set_option maxRecDepth 100000 in
set_option maxHeartbeats 800000 in
theorem readWide_ok (s : ByteArray) (a k : Nat) (w : World) (hs : s.size ≤ maxLen) (h1 : 1 ≤ k) (h8 : k ≤ 8) (h2 : a + k ≤ s.size) :
    Calls Tryz.prog 134 #[.string s, .int .i64 a, .int .i64 k] w fun e w' =>
      e = .returned (.tuple #[.int .u64 (rdW s a k).n, .int .i64 (endAt a (rdW s a k)), .int .i64 (rdW s a k).e]) ∧ w' = w := by
  unfold maxLen at hs
  have HG := show Hid _ from rdW_ok s a k h1 h8 h2
  generalize rdW s a k = G at HG ⊢
  have q1 : (k : Int) ≤ (s.size : Int) - a := by omega
  have q2 : (a : Int) ≤ s.size := by omega
  have t1 : decide ((s.size : Int) - a < k) = false := by simp; omega
  go_enter Tryz.func134, Tryz.ntmps134
  go_wp2_with (first | (go_at_call 161; refine (isWide_yes _ _ (by omega) (by omega)).mono ?_; rintro e w' ⟨rfl, rfl⟩) | (go_at_call 162; refine (isPlace_yes _ _ _ (by omega) (by omega)).mono ?_; rintro e w' ⟨rfl, rfl⟩))
  go_loop [9, 27] (fun n i => ∃ (j x : Nat), j ≤ k ∧ i = .int .i64 j ∧ n = .int .u64 x ∧ Hid (x = beN ((s.data.toList.drop a).take j))) (fun _ i => k - (intOf i).toNat)
  case atStart => exact ⟨0, 0, by omega, rfl, rfl, rfl⟩
  case round =>
    obtain ⟨j, x, hj, rfl, rfl, HX⟩ := hrel
    by_cases hlt : j < k
    · have hlt2 : a + j < s.size := by omega
      have HS := beN_step s a j hlt2
      have hx := beN_small s a j (by omega)
      rw [← HX.out] at hx HS
      generalize hidx : s[a + j] = c at HS
      have HS' := show Hid _ from HS c rfl
      have HO := show Hid _ from or_step x c.toNat hx (UInt8.toNat_lt c)
      clear HS hx
      go_wp2
      go_round
      case rel => exact ⟨j + 1, x * 256 + c.toNat, by omega, by go_num, congrArg (Value.int .u64) HO.out, HS'.out.symm⟩
      case measure => simp [intOf]; omega
    · have hjk : j = k := by omega
      subst hjk
      go_wp2
      go_ret3
      exact ⟨ret_w (by rw [HG.out]; rw [HX.out]) (by rw [HG.out]; rfl) (by rw [HG.out]; rfl), rfl⟩

set_option maxRecDepth 100000 in
set_option maxHeartbeats 800000 in
theorem readWide_end (s : ByteArray) (a : Nat) (k : Int) (w : World) (hs : s.size ≤ maxLen) (h : 1 ≤ k ∧ k ≤ 8) (ha : a ≤ s.size) (h2 : ¬ a + k ≤ s.size) :
    Calls Tryz.prog 134 #[.string s, .int .i64 a, .int .i64 k] w fun e w' =>
      e = .returned (.tuple #[.int .u64 (rdW s a k).n, .int .i64 (endAt a (rdW s a k)), .int .i64 (rdW s a k).e]) ∧ w' = w := by
  unfold maxLen at hs
  have HG := show Hid _ from rdW_end s a k ⟨h.1, h.2, by omega, by omega⟩ h2
  generalize rdW s a k = G at HG ⊢
  have q1 : (s.size : Int) - a < k := by omega
  have H1 := show Hid _ from h
  clear h h2
  go_enter Tryz.func134, Tryz.ntmps134
  go_wp2_with (first | (go_at_call 161; refine (isWide_yes _ _ H1.out.1 H1.out.2).mono ?_; rintro e w' ⟨rfl, rfl⟩) | (go_at_call 162; refine (isPlace_yes _ _ _ (by omega) (by omega)).mono ?_; rintro e w' ⟨rfl, rfl⟩))
  go_ret3
  exact ⟨ret_w (by rw [HG.out]; rfl) (by rw [HG.out]; rfl) (by rw [HG.out]; rfl), rfl⟩

set_option maxRecDepth 100000 in
set_option maxHeartbeats 800000 in
theorem readWide_arg (s : ByteArray) (a k : Int) (w : World) (h : ¬ (1 ≤ k ∧ k ≤ 8 ∧ 0 ≤ a ∧ a ≤ s.size)) :
    Calls Tryz.prog 134 #[.string s, .int .i64 a, .int .i64 k] w fun e w' =>
      e = .returned (.tuple #[.int .u64 (rdW s a k).n, .int .i64 (endAt a (rdW s a k)), .int .i64 (rdW s a k).e]) ∧ w' = w := by
  have HG := show Hid _ from rdW_arg s a k h
  generalize rdW s a k = G at HG ⊢
  by_cases hk : 1 ≤ k ∧ k ≤ 8
  · have H1 := show Hid _ from hk
    have H2 := show Hid (¬ (0 ≤ a ∧ a ≤ s.size)) from fun c => h ⟨hk.1, hk.2, c.1, c.2⟩
    clear h hk
    go_enter Tryz.func134, Tryz.ntmps134
    go_wp2_with (first | (go_at_call 161; refine (isWide_yes _ _ H1.out.1 H1.out.2).mono ?_; rintro e w' ⟨rfl, rfl⟩) | (go_at_call 162; refine (isPlace_no _ _ _ H2.out).mono ?_; rintro e w' ⟨rfl, rfl⟩))
    go_ret3
    exact ⟨ret_w (by rw [HG.out]; rfl) (by rw [HG.out]; rfl) (by rw [HG.out]; rfl), rfl⟩
  · have H1 := show Hid _ from hk
    clear h hk
    go_enter Tryz.func134, Tryz.ntmps134
    go_wp2_with (first | (go_at_call 161; refine (isWide_no _ _ H1.out).mono ?_; rintro e w' ⟨rfl, rfl⟩))
    go_ret3
    exact ⟨ret_w (by rw [HG.out]; rfl) (by rw [HG.out]; rfl) (by rw [HG.out]; rfl), rfl⟩

theorem readWide_any (s : ByteArray) (a k : Int) (w : World) (hs : s.size ≤ maxLen) :
    Calls Tryz.prog 134 #[.string s, .int .i64 a, .int .i64 k] w fun e w' =>
      e = .returned (.tuple #[.int .u64 (rdW s a k).n, .int .i64 (endAt a (rdW s a k)), .int .i64 (rdW s a k).e]) ∧ w' = w := by
  by_cases h : 1 ≤ k ∧ k ≤ 8 ∧ 0 ≤ a ∧ a ≤ s.size
  · obtain ⟨b, rfl⟩ := Int.eq_ofNat_of_zero_le h.2.2.1
    by_cases h2 : b + k ≤ s.size
    · obtain ⟨m, rfl⟩ := Int.eq_ofNat_of_zero_le (show 0 ≤ k by omega)
      exact readWide_ok s b m w hs (by omega) (by omega) (by omega)
    · exact readWide_end s b k w hs ⟨h.1, h.2.1⟩ (by omega) h2
  · exact readWide_arg s a k w h
end Go.Proofs.YtefbioainibmaaaGreatDoor
namespace Go.Proofs.YtefbioainibmaaaGreatDoor
open Go.RowKit
set_option linter.unusedVariables false

/-- a body's frame -/
def frm (b : List UInt8) : List UInt8 := be b.length 4 ++ (be (sumN (be b.length 4 ++ b)) 4 ++ b)
theorem frm_len (b : List UInt8) : (frm b).length = 8 + b.length := by simp [frm, be_len]; omega

theorem rdW_facts (s : ByteArray) (a : Int) (h : (rdW s a 4).e = 0) : 0 ≤ a ∧ a + 4 ≤ s.size ∧ (rdW s a 4).len = 4 ∧ (rdW s a 4).n < 4294967296 := by
  unfold rdW at h ⊢
  by_cases h1 : 1 ≤ (4 : Int) ∧ (4 : Int) ≤ 8 ∧ 0 ≤ a ∧ a ≤ s.size
  · rw [if_pos h1] at h ⊢
    by_cases h2 : a + 4 ≤ s.size
    · rw [if_pos h2]
      refine ⟨h1.2.2.1, h2, rfl, ?_⟩
      have h3 := beN_lt ((s.data.toList.drop a.toNat).take (4 : Int).toNat)
      have h4 : (256 : Nat) ^ ((s.data.toList.drop a.toNat).take (4 : Int).toNat).length ≤ 256 ^ 4 := Nat.pow_le_pow_right (by omega) (by simp; omega)
      exact Nat.lt_of_lt_of_le h3 h4
    · rw [if_neg h2] at h; simp at h
  · rw [if_neg h1] at h; simp at h
theorem rdW_e (s : ByteArray) (a : Int) : (rdW s a 4).e ≤ 5 ∧ ((rdW s a 4).e ≠ 0 → (rdW s a 4).n = 0) := by
  unfold rdW
  split
  · split <;> simp
  · simp

/-- the frame at a place -/
def unfAt (s : ByteArray) (a : Int) : Txt :=
  if (rdW s a 4).e = 0 then
    if (rdW s a 4).n ≤ 262144 then
      if a.toNat + 8 + (rdW s a 4).n ≤ s.size then
        if sumN ((s.extract a.toNat (a.toNat + 4)).data.toList ++ (s.extract (a.toNat + 8) (a.toNat + 8 + (rdW s a 4).n)).data.toList) = (rdW s ((a.toNat + 4 : Nat) : Int) 4).n then
          ⟨s.extract (a.toNat + 8) (a.toNat + 8 + (rdW s a 4).n), ((a.toNat + 8 + (rdW s a 4).n : Nat) : Int), 0⟩
        else ⟨⟨#[]⟩, 0, 10⟩
      else ⟨⟨#[]⟩, 0, 5⟩
    else ⟨⟨#[]⟩, 0, 2⟩
  else ⟨⟨#[]⟩, 0, (rdW s a 4).e⟩

end Go.Proofs.YtefbioainibmaaaGreatDoor
namespace Go.Proofs.YtefbioainibmaaaGreatDoor
open Go.RowKit
set_option linter.unusedVariables false

theorem rel_put {base : Nat} {w wr w1 : World} {v v' : Value} {len : Nat} {xs : List Value} {ys : List UInt8} {c : UInt8} {x : Int} (hx : x = c.toNat) (hbase : base ≤ wr.heap.size)
    (hown : wr.ownsRow base 5 1 v (len + ys.length) (xs ++ bs ys)) (hB : Below base w wr)
    (hown' : w1.ownsRow base 5 1 v' (len + ys.length + 1) (xs ++ (bs ys ++ [.int .u8 x]))) (hg : (wr.alloc (.cells #[.int .u8 x] 5)).grownBy w1 v.ownBlock) :
    w1.ownsRow base 5 1 v' (len + (ys ++ [c]).length) (xs ++ bs (ys ++ [c])) ∧ Below base w w1 := by
  subst hx
  refine ⟨?_, ?_⟩
  · rw [bs_append, List.length_append]
    exact hown'
  · refine ((hB.alloc hbase _).grown hg (by simp; omega) ?_)
    intro k hk
    rcases hown.2 with ⟨h, _⟩ | ⟨g, cap, cur, h, hgb, _⟩
    · subst h; simp [Value.ownBlock] at hk
    · subst h; simp [Value.ownBlock] at hk; omega

set_option maxRecDepth 100000 in
set_option maxHeartbeats 800000 in
theorem appendNumber_any (base len : Nat) (v : Value) (xs : List Value) (n : Nat) (w : World) (hn : n < 18446744073709551616) (hl : len + 10 ≤ 140737488355328) (hbase : base ≤ w.heap.size)
    (hown : w.ownsRow base 5 1 v len xs) :
    Calls Tryz.prog 154 #[v, .int .u64 n] w fun e w' =>
      ∃ v', e = .returned v' ∧ w'.ownsRow base 5 1 v' (len + (put n).length) (xs ++ bs (put n)) ∧ Below base w w' := by
  have hP : Hid (put n = [] ++ putF (9 - 0) n) := rfl
  generalize put n = P at hP ⊢
  obtain ⟨i0, hi, hz0, hz1, hz2⟩ := info_parts info8
  go_enter Tryz.func154, Tryz.ntmps154
  go_wp2
  go_loopw [0, 1, 5] (fun v m i wr => ∃ (k n' : Nat) (ys : List UInt8), k ≤ 9 ∧ i = .int .i64 k ∧ m = .int .u64 n' ∧ n' ≤ 18446744073709551615 ∧ ys.length ≤ 9 ∧ wr.ownsRow base 5 1 v (len + ys.length) (xs ++ bs ys) ∧ Below base w wr ∧ Hid (ys.length = k) ∧ Hid (P = ys ++ putF (9 - k) n')) (fun _ _ i _ => 9 - (intOf i).toNat)
  case atStart => exact ⟨0, n, [], by omega, rfl, rfl, by omega, by simp, by simpa [bs] using hown, Below.refl _ _, rfl, hP⟩
  case round =>
    clear hP hown
    obtain ⟨k, n', ys, hk, rfl, rfl, hn', hyl, hown, hB, hyk, hP⟩ := hrel
    have hbr : base ≤ wr.heap.size := Nat.le_trans hbase hB.size
    by_cases hk9 : k < 9
    · by_cases h128 : n' < 128
      · have HQ : Hid (P = ys ++ [UInt8.ofNat n']) := by show P = _; rw [hP.out, putF_small _ _ h128]
        have HX := show Hid _ from byte_small n' h128
        clear hP
        go_wp2_with (at_builtin; refine wpList_append_own _ rfl (.tmp 19) (.tmp 22) 143 rfl base 5 i0 (.int .u8 0) 1 1 Tryz.underlying143 hi hz0 hz1 hz2 rfl (by decide) _ _ _ rfl (hown.alloc _) ⟨wr.heap.size, 0, none⟩ 1 1 [_] rfl rfl (cell_one_new _ _ _) ?c2 ?c3 ?c4 ?c5 ?_)
        case c2 => intro u hu; simp at hu; subst hu; rfl
        case c3 => unfold maxLen; omega
        case c4 => omega
        case c5 => simp; omega
        intro v' w1 hown' hgrow _
        have R := rel_put HX.out hbr hown hB hown' hgrow
        clear hown' hgrow hown hB HX
        go_wp2
        go_ret
        exact ⟨_, rfl, by rw [HQ.out]; exact R.1, R.2⟩
      · have HQ : Hid (P = (ys ++ [UInt8.ofNat (n' % 128 + 128)]) ++ putF (9 - (k + 1)) (n' / 128)) := by
          show P = _
          rw [hP.out, show 9 - k = (9 - (k + 1)) + 1 by omega, putF_more _ _ h128]; simp
        have HX := show Hid _ from low_is2 n' (by omega)
        have HY := show Hid _ from shr_is n'
        clear hP
        go_wp2_with (at_builtin; refine wpList_append_own _ rfl (.tmp 9) (.tmp 14) 143 rfl base 5 i0 (.int .u8 0) 1 1 Tryz.underlying143 hi hz0 hz1 hz2 rfl (by decide) _ _ _ rfl (hown.alloc _) ⟨wr.heap.size, 0, none⟩ 1 1 [_] rfl rfl (cell_one_new _ _ _) ?c2 ?c3 ?c4 ?c5 ?_)
        case c2 => intro u hu; simp at hu; subst hu; rfl
        case c3 => unfold maxLen; omega
        case c4 => omega
        case c5 => simp; omega
        intro v' w1 hown' hgrow _
        have R := rel_put HX.out hbr hown hB hown' hgrow
        clear hown' hgrow hown hB HX
        go_wp2
        go_roundw
        case rel => exact ⟨k + 1, n' / 128, ys ++ [UInt8.ofNat (n' % 128 + 128)], by omega, by go_num, congrArg (Value.int .u64) HY.out, by omega, by have := hyk.out; simp; omega, R.1, R.2, by have := hyk.out; show _ = _; simp; omega, HQ⟩
        case measure => simp [intOf]; omega
    · have hk9' : k = 9 := by omega
      subst hk9'
      have HQ : Hid (P = ys ++ [UInt8.ofNat n']) := by show P = _; rw [hP.out]; rfl
      have HX := show Hid _ from byte_is2 n'
      clear hP
      go_wp2_with (at_builtin; refine wpList_append_own _ rfl (.tmp 19) (.tmp 22) 143 rfl base 5 i0 (.int .u8 0) 1 1 Tryz.underlying143 hi hz0 hz1 hz2 rfl (by decide) _ _ _ rfl (hown.alloc _) ⟨wr.heap.size, 0, none⟩ 1 1 [_] rfl rfl (cell_one_new _ _ _) ?c2 ?c3 ?c4 ?c5 ?_)
      case c2 => intro u hu; simp at hu; subst hu; rfl
      case c3 => unfold maxLen; omega
      case c4 => omega
      case c5 => simp; omega
      intro v' w1 hown' hgrow _
      have R := rel_put HX.out hbr hown hB hown' hgrow
      clear hown' hgrow hown hB HX
      go_wp2
      go_ret
      exact ⟨_, rfl, by rw [HQ.out]; exact R.1, R.2⟩

set_option maxRecDepth 100000 in
set_option maxHeartbeats 400000 in
theorem number_any (n : Nat) (w : World) (hn : n < 18446744073709551616) :
    Calls Tryz.prog 120 #[.int .u64 n] w fun e w' => e = .returned (.string ⟨(put n).toArray⟩) ∧ Below w.heap.size w w' := by
  go_enter Tryz.func120, Tryz.ntmps120
  go_wp2_with fail
  refine (appendNumber_any w.heap.size 0 _ [] n _ hn (by omega) (Nat.le_refl _) (World.ownsRow_nil _ _ _ _)).mono ?_
  rintro e w' ⟨v', rfl, hown, hB⟩
  have hne : put n ≠ [] := by have := (put_len n).1; intro h; simp [h] at this
  have hcv := convert_owned (by simpa using hown) hne
  clear hown
  go_wp2
  go_ret
  exact ⟨rfl, hB⟩
end Go.Proofs.YtefbioainibmaaaGreatDoor
namespace Go.Proofs.YtefbioainibmaaaGreatDoor
open Go.RowKit
set_option linter.unusedVariables false

/-- a text's bytes -/
def ptx (s : ByteArray) : List UInt8 := put s.size ++ s.data.toList
theorem ptx_len (s : ByteArray) : (ptx s).length = (put s.size).length + s.size := by simp [ptx]

set_option maxRecDepth 100000 in
set_option maxHeartbeats 800000 in
theorem appendText_any (base len : Nat) (v : Value) (xs : List Value) (s : ByteArray) (w : World) (hl : len + 10 + s.size ≤ 140737488355328) (hbase : base ≤ w.heap.size)
    (hown : w.ownsRow base 5 1 v len xs) :
    Calls Tryz.prog 222 #[v, .string s] w fun e w' =>
      ∃ v', e = .returned v' ∧ w'.ownsRow base 5 1 v' (len + (ptx s).length) (xs ++ bs (ptx s)) ∧ Below base w w' := by
  have HP := show Hid _ from ptx_len s
  have HQ := show Hid (bs (ptx s) = bs (put s.size) ++ Lib.strCells s) from by show bs (ptx s) = _; rw [ptx, bs_append, bs_str]
  generalize ptx s = P at HP HQ ⊢
  have hpl := (put_len s.size).2
  obtain ⟨i0, hi, hz0, hz1, hz2⟩ := info_parts info8
  go_enter Tryz.func222, Tryz.ntmps222
  go_wp2_with fail
  refine (appendNumber_any base len _ xs s.size _ (by omega) (by omega) hbase hown).mono ?_
  rintro e w2 ⟨v2, rfl, hown2, hB2⟩
  have hb2 : base ≤ w2.heap.size := Nat.le_trans hbase hB2.size
  clear hown
  generalize put s.size = Q at HP HQ hpl hown2
  go_wp2_with (at_builtin; refine Lib.wpList_append_own_string _ rfl (.tmp 9) (.tmp 10) 143 9 rfl base 5 i0 Tryz.underlying143 Tryz.underlying9 hi hz0 hz1 hz2 _ _ _ rfl hown2 s rfl ?c1 ?c2 hb2 ?_)
  case c1 => unfold maxLen; omega
  case c2 => omega
  intro v' w1 hown' hgrow _
  have R := own_below hb2 hown2 hB2 hgrow
  have HO := show Hid (w1.ownsRow base 5 1 v' (len + Q.length + s.size) (xs ++ bs Q ++ Lib.strCells s)) from by first | exact hown' | (show w1.ownsRow _ _ _ _ _ _; rw [List.append_assoc]; exact hown')
  clear hown' hgrow hown2 hB2
  go_wp2
  go_ret
  refine ⟨_, rfl, ?_, R⟩
  rw [HP.out, HQ.out, ← Nat.add_assoc]
  exact own_assoc HO.out

set_option maxRecDepth 100000 in
set_option maxHeartbeats 400000 in
theorem text_any (s : ByteArray) (w : World) (hs : s.size ≤ reachBytes) :
    Calls Tryz.prog 201 #[.string s] w fun e w' => e = .returned (.string ⟨(ptx s).toArray⟩) ∧ Below w.heap.size w w' := by
  have hr : reachBytes + 4096 ≤ 140737488355328 := by decide
  go_enter Tryz.func201, Tryz.ntmps201
  go_wp2_with fail
  refine (appendText_any w.heap.size 0 _ [] s _ (by omega) (Nat.le_refl _) (World.ownsRow_nil _ _ _ _)).mono ?_
  rintro e w' ⟨v', rfl, hown, hB⟩
  have hne : ptx s ≠ [] := by have := (put_len s.size).1; have := ptx_len s; intro h; simp [h] at this; omega
  have hcv := convert_owned (by simpa using hown) hne
  clear hown
  go_wp2
  go_ret
  exact ⟨rfl, hB⟩

end Go.Proofs.YtefbioainibmaaaGreatDoor
namespace Go.Proofs.YtefbioainibmaaaGreatDoor
open Go.RowKit
theorem hid {p : Prop} (h : p) : Hid p := h
end Go.Proofs.YtefbioainibmaaaGreatDoor
namespace Go.Proofs.YtefbioainibmaaaGreatDoor
open Go.RowKit
set_option linter.unusedVariables false

theorem ret_boolN {a b : Bool} (h : a = b) : Ending.returned (.bool a) = .returned (.bool b) := by rw [h]
theorem mayB_1 (c k : Nat) (h1 : 0 < k) (h2 : ((c : Int) == 0) = true) : false = mayB c k := by simp [mayB] at *; omega
theorem mayB_2 (c k : Nat) (h1 : 0 < k) (h2 : ((c : Int) == 0) = false) (h3 : 9 ≤ (k : Int)) : (decide ((k : Int) < 9) || decide ((c : Int) ≤ 1)) = mayB c k := by
  have : ¬ (k : Int) < 9 := by omega
  have : ¬ k < 9 := by omega
  have hc : ¬ c = 0 := by simpa using h2
  simp [mayB, *]; omega
theorem mayB_3 (c k : Nat) (h1 : 0 < k) (h2 : ((c : Int) == 0) = false) (h3 : (k : Int) < 9) : true = mayB c k := by
  have hc : ¬ c = 0 := by simpa using h2
  have : k < 9 := by omega
  simp [mayB, *]
theorem mayB_4 (c k : Nat) (h1 : ¬ 0 < k) (h3 : (k : Int) < 9) : true = mayB c k := by
  have : k < 9 := by omega
  simp [mayB, *]

set_option maxHeartbeats 400000 in
theorem mayStand_any (c : UInt8) (k : Nat) (w : World) (hk : k ≤ 20) :
    Calls Tryz.prog 186 #[.int .u8 c.toNat, .int .i64 k] w fun e w' => e = .returned (.bool (mayB c.toNat k)) ∧ w' = w := by
  go_enter Tryz.func186, Tryz.ntmps186
  go_wp2
  all_goals go_ret
  · exact ⟨ret_boolN (mayB_1 _ _ ‹_› ‹_›), rfl⟩
  · exact ⟨ret_boolN (mayB_2 _ _ ‹_› ‹_› ‹_›), rfl⟩
  · exact ⟨ret_boolN (mayB_3 _ _ ‹_› ‹_› ‹_›), rfl⟩
  · exact ⟨ret_boolN (mayB_4 _ _ ‹_› ‹_›), rfl⟩

theorem ret_got {a : Int} {G : Got} {n i e : Int} (h1 : n = G.n) (h2 : i = endAt a G) (h3 : e = G.e) :
    Ending.returned (.tuple #[.int .u64 n, .int .i64 i, .int .i64 e]) = .returned (.tuple #[.int .u64 G.n, .int .i64 (endAt a G), .int .i64 G.e]) := by rw [h1, h2, h3]

set_option maxRecDepth 100000 in
set_option maxHeartbeats 800000 in
theorem readNumber_in (s : ByteArray) (a : Nat) (w : World) (h1 : a ≤ s.size) (hs : s.size ≤ maxLen) :
    Calls Tryz.prog 164 #[.string s, .int .i64 a] w fun e w' =>
      e = .returned (.tuple #[.int .u64 (rdAt s a).n, .int .i64 (endAt a (rdAt s a)), .int .i64 (rdAt s a).e]) ∧ w' = w := by
  unfold maxLen at hs
  have h0 : (0 : Int) ≤ (a : Int) := by omega
  have h1' : (a : Int) ≤ s.size := by omega
  have hG : Hid (rdAt s a = rd (s.data.toList.drop (a + 0)) 0 0) := by show rdAt s a = _; rw [rdAt, if_pos ⟨h0, h1'⟩]; simp
  generalize rdAt s a = G at hG ⊢
  go_enter Tryz.func164, Tryz.ntmps164
  go_wp2_with (go_at_call 162; refine (isPlace_yes _ _ _ h0 h1').mono ?_; rintro e w' ⟨rfl, rfl⟩)
  go_loop [7, 18] (fun n i => ∃ k acc : Nat, k ≤ 9 ∧ a + k ≤ s.size ∧ i = .int .i64 k ∧ n = .int .u64 acc ∧ acc < 128 ^ k ∧ Hid (G = rd (s.data.toList.drop (a + k)) k acc)) (fun _ i => s.size - (intOf i).toNat)
  case atStart => exact ⟨0, 0, by omega, by omega, rfl, rfl, by simp, hG⟩
  case round =>
    clear hG
    obtain ⟨k, acc, hk, hak, rfl, rfl, hacc, hG⟩ := hrel
    by_cases hlt : a + k < s.size
    · have hlt' : (k : Int) < (s.size : Int) - (a : Int) := by omega
      have hdr := drop_cons s _ hlt
      generalize hidx : s[a + k] = c at hdr
      rw [Hid, hdr] at hG
      clear hdr
      have hc8 := UInt8.toNat_lt c
      cases hm : mayB c.toNat k with
      | false =>
        have HG : Hid (G = ⟨0, 0, 3⟩) := by show G = _; rw [hG, rd_bad _ _ _ _ hm]
        have HM := show Hid _ from hm
        clear hG hm
        go_wp2_with (go_at_call 186; refine (mayStand_any _ _ _ (by omega)).mono ?_; rintro e w' ⟨rfl, rfl⟩; rw [HM.out])
        go_ret3
        exact ⟨ret_got (by rw [HG.out]; rfl) (by rw [HG.out]; rfl) (by rw [HG.out]; rfl), rfl⟩
      | true =>
        have HA := show Hid _ from step_is c.toNat k acc hk hc8 hm hacc
        have HL := show Hid _ from add_lt c.toNat k acc hacc
        have HM := show Hid _ from hm
        have HN := show Hid _ from may_more c.toNat k hk hm
        clear hm hacc
        by_cases hc : c.toNat < 128
        · have HG : Hid (G = ⟨acc + c.toNat % 128 * 128 ^ k, k + 1, 0⟩) := by show G = _; rw [hG, rd_last _ _ _ _ HM.out hc]
          clear hG HN HL
          go_wp2_with (go_at_call 186; refine (mayStand_any _ _ _ (by omega)).mono ?_; rintro e w' ⟨rfl, rfl⟩; rw [HM.out])
          go_ret3
          exact ⟨ret_got (by rw [HG.out]; exact HA.out) (by rw [HG.out]; simp [endAt]; omega) (by rw [HG.out]; rfl), rfl⟩
        · have HG : Hid (G = rd (s.data.toList.drop (a + k + 1)) (k + 1) (acc + c.toNat % 128 * 128 ^ k)) := by show G = _; rw [hG, rd_more _ _ _ _ HM.out hc]
          have hk9 := HN.out hc
          clear hG HN
          go_wp2_with (go_at_call 186; refine (mayStand_any _ _ _ (by omega)).mono ?_; rintro e w' ⟨rfl, rfl⟩; rw [HM.out])
          go_round
          case rel => exact ⟨k + 1, _, by omega, by omega, by go_num, congrArg (Value.int .u64) HA.out, HL.out, HG⟩
          case measure => simp [intOf]; omega
    · have HG : Hid (G = ⟨0, 0, 5⟩) := by show G = _; rw [hG.out, drop_none s _ (by omega)]; rfl
      clear hG
      go_wp2
      go_ret3
      exact ⟨ret_got (by rw [HG.out]; rfl) (by rw [HG.out]; rfl) (by rw [HG.out]; rfl), rfl⟩

set_option maxHeartbeats 400000 in
theorem readNumber_out (s : ByteArray) (a : Int) (w : World) (h : ¬ (0 ≤ a ∧ a ≤ s.size)) :
    Calls Tryz.prog 164 #[.string s, .int .i64 a] w fun e w' =>
      e = .returned (.tuple #[.int .u64 (rdAt s a).n, .int .i64 (endAt a (rdAt s a)), .int .i64 (rdAt s a).e]) ∧ w' = w := by
  have hG : Hid (rdAt s a = ⟨0, 0, 1⟩) := by show rdAt s a = _; rw [rdAt, if_neg h]
  have H := show Hid _ from h
  clear h
  generalize rdAt s a = G at hG ⊢
  go_enter Tryz.func164, Tryz.ntmps164
  go_wp2_with (go_at_call 162; refine (isPlace_no _ _ _ H.out).mono ?_; rintro e w' ⟨rfl, rfl⟩)
  go_ret3
  exact ⟨ret_got (by rw [hG.out]; rfl) (by rw [hG.out]; rfl) (by rw [hG.out]; rfl), rfl⟩

theorem readNumber_any (s : ByteArray) (a : Int) (w : World) (hs : s.size ≤ maxLen) :
    Calls Tryz.prog 164 #[.string s, .int .i64 a] w fun e w' =>
      e = .returned (.tuple #[.int .u64 (rdAt s a).n, .int .i64 (endAt a (rdAt s a)), .int .i64 (rdAt s a).e]) ∧ w' = w := by
  by_cases h : 0 ≤ a ∧ a ≤ s.size
  · obtain ⟨n, rfl⟩ := Int.eq_ofNat_of_zero_le h.1
    exact readNumber_in s n w (by omega) hs
  · exact readNumber_out s a w h
end Go.Proofs.YtefbioainibmaaaGreatDoor
namespace Go.Proofs.YtefbioainibmaaaGreatDoor
open Go.RowKit
set_option linter.unusedVariables false

/-- the worlds are alike but for block g and what is new -/
structure Only (g : Nat) (w w' : World) : Prop where
  os : w'.os = w.os
  tape : w'.tape = w.tape
  output : w'.output = w.output
  size : w.heap.size ≤ w'.heap.size
  block : ∀ k, k < w.heap.size → k ≠ g → w'.heap[k]? = w.heap[k]?
theorem Only.refl (g : Nat) (w : World) : Only g w w := ⟨rfl, rfl, rfl, Nat.le_refl _, fun _ _ _ => rfl⟩
theorem Only.trans {g : Nat} {a b c : World} (h : Only g a b) (k : Only g b c) : Only g a c :=
  ⟨k.os.trans h.os, k.tape.trans h.tape, k.output.trans h.output, Nat.le_trans h.size k.size, fun i hi hg => (k.block i (Nat.lt_of_lt_of_le hi h.size) hg).trans (h.block i hi hg)⟩
theorem _root_.Go.RowKit.Below.only {w w' : World} (h : Below w.heap.size w w') (g : Nat) : Only g w w' := ⟨h.os, h.tape, h.output, h.size, fun k hk _ => h.block k hk⟩
theorem Only.setCell {g : Nat} {a w : World} (h : Only g a w) (o : Nat) (u : Value) : Only g a (w.setCell ⟨g, o, none⟩ u) :=
  h.trans ⟨rfl, rfl, rfl, by simp [World.setCell], fun k _ hg => Below.heap_setCell _ _ _ _ hg⟩
theorem Only.below {g B : Nat} {w w' : World} (h : Only g w w') (hB : B ≤ g) (hs : B ≤ w.heap.size) : Below B w w' := ⟨h.os, h.tape, h.output, h.size, fun k hk => h.block k (by omega) (by omega)⟩
end Go.Proofs.YtefbioainibmaaaGreatDoor
namespace Go.Proofs.YtefbioainibmaaaGreatDoor
open Go.RowKit
set_option linter.unusedVariables false

end Go.Proofs.YtefbioainibmaaaGreatDoor
namespace Go.Proofs.YtefbioainibmaaaGreatDoor
open Go.RowKit
set_option linter.unusedVariables false

/-- cells that hold texts -/
def ss (l : List ByteArray) : List Value := l.map Value.string
theorem ss_len (l : List ByteArray) : (ss l).length = l.length := by simp [ss]

/-- a slice of texts: what it holds in memory -/
def Strs (w : World) (v : Value) (xs : List ByteArray) : Prop :=
  (xs = [] ∧ ∃ ad cap, v = .slice ad 0 cap) ∨
  ∃ b off cap, v = .slice (some ⟨b, off, none⟩) xs.length cap ∧ b < w.heap.size ∧ ∀ j, j < xs.length → w.cell? ⟨b, off + j, none⟩ = some (.string (xs.getD j ⟨#[]⟩))

theorem Strs.below {w w' : World} {v : Value} {xs : List ByteArray} (h : Strs w v xs) (hB : Below w.heap.size w w') : Strs w' v xs := by
  rcases h with h | ⟨b, off, cap, hv, hb, hc⟩
  · exact .inl h
  · exact .inr ⟨b, off, cap, hv, Nat.lt_of_lt_of_le hb hB.size, fun j hj => (hB.cell (p := ⟨b, off + j, none⟩) hb).trans (hc j hj)⟩

theorem Strs.at {w : World} {v : Value} {xs : List ByteArray} (h : Strs w v xs) : ∃ ad cap, v = .slice ad xs.length cap ∧
    ∀ j, j < xs.length → ∃ b off, ad = some ⟨b, off, none⟩ ∧ b < w.heap.size ∧ w.cell? ⟨b, off + j, none⟩ = some (.string (xs.getD j ⟨#[]⟩)) := by
  rcases h with ⟨rfl, ad, cap, rfl⟩ | ⟨b, off, cap, rfl, hb, hc⟩
  · exact ⟨ad, cap, rfl, fun j hj => absurd hj (by simp)⟩
  · exact ⟨_, cap, rfl, fun j hj => ⟨b, off, rfl, hb, hc j hj⟩⟩

/-- how many bytes texts take at the most -/
def room (xs : List ByteArray) : Nat := (xs.map fun x => x.size + 10).sum
end Go.Proofs.YtefbioainibmaaaGreatDoor
namespace Go.Proofs.YtefbioainibmaaaGreatDoor
open Go.RowKit
set_option linter.unusedVariables false

end Go.Proofs.YtefbioainibmaaaGreatDoor
