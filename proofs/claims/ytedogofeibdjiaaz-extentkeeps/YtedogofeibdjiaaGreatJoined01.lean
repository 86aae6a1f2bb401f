/- Joined: What several walks share: the element type's row, a slice of bytes as a string, what stays behind a call. Slices of texts: what they hold in memory; how many bytes texts take. A fact laid by. The walks of the turning of words. Worlds that are alike but for one block. The walks of the two sums: each comes to 'crc'. The walks of the two puttings of a wide number. The walk of octet's test of a place. The walks of the two readings of a wide number: each comes to 'rdW', and writes nothing. The mathematics of frames: what making and finding a frame come to. The mathematics of frames, there and back: what is framed is found. The walk of the document's sum: it comes to 'sumN' too. The walk of the document's putting of a wide number. The walk of the document's reading of a wide number. -/
import Derived.Test.YtedogofeibdjiaaGreatProg
import Derived.Test.YtedogofeibdjiaaGreatJoined00
import Derived.WalkSpells
import Derived.WalkLawsBesides
namespace Go.Proofs.YtedogofeibdjiaaGreat
open Go.RowKit
set_option linter.unusedVariables false

theorem info8 : (Tryz.prog.info? 5).map (fun i => (i.zero, i.size, i.bytes)) = some (some (.int .u8 0), 1, 1) := by kernel_rfl

/-- 'string(b)' of a slice that the call owns -/
theorem convert_owned {w : World} {base : Nat} {v : Value} {n : Nat} {l : List UInt8} (h : w.ownsRow base 5 1 v n (bs l)) (hl : l ≠ []) :
    (convert 46 9 v).run Tryz.prog w = .ok (.string ⟨l.toArray⟩) w := by
  obtain ⟨h1, h2⟩ := h
  rw [bs_len] at h1
  rcases h2 with ⟨rfl, rfl⟩ | ⟨g, cap, cur, rfl, hg, hh, hn, hm, hs, ht⟩
  · exact absurd (List.length_eq_zero_iff.1 (by omega)) hl
  · have hn' : n = l.length := by omega
    subst hn'
    refine run_convert_bytes_back w 46 9 5 _ cap l Tryz.underlying46 Tryz.underlying5 Tryz.underlying9 ?_
    intro j hj
    have : (bs l)[j]? = some (.int .u8 (l[j].toNat : Int)) := by simp [bs, hj]
    rw [← ht, List.getElem?_take_of_lt (by omega)] at this
    rw [Addr.add_lit]
    simp [World.cell?, hh]
    simpa using this

theorem bcell {W w1 : World} (hb : Below W.heap.size W w1) : ∀ b o, b < W.heap.size → w1.cell? ⟨b, o, none⟩ = W.cell? ⟨b, o, none⟩ :=
  fun b o h => hb.cell (p := ⟨b, o, none⟩) h

theorem own_below {base : Nat} {w wr w1 : World} {v : Value} {n : Nat} {xs : List Value} (hbase : base ≤ wr.heap.size) (hown : wr.ownsRow base 5 1 v n xs) (hB : Below base w wr) (hg : wr.grownBy w1 v.ownBlock) : Below base w w1 := by
  refine hB.grown hg hbase ?_
  intro k hk
  rcases hown.2 with ⟨h, _⟩ | ⟨g, cap, cur, h, hgb, _⟩
  · subst h; simp [Value.ownBlock] at hk
  · subst h; simp [Value.ownBlock] at hk; omega

theorem own_assoc {base : Nat} {w : World} {v : Value} {n : Nat} {xs ys zs : List Value} (h : w.ownsRow base 5 1 v n (xs ++ ys ++ zs)) : w.ownsRow base 5 1 v n (xs ++ (ys ++ zs)) := by
  rw [← List.append_assoc]; exact h

end Go.Proofs.YtedogofeibdjiaaGreat
namespace Go.Proofs.YtedogofeibdjiaaGreat
open Go.RowKit
set_option linter.unusedVariables false

/-- cells that hold texts -/
def ss (l : List ByteArray) : List Value := l.map Value.string
theorem ss_len (l : List ByteArray) : (ss l).length = l.length := by simp [ss]

/-- a slice of texts: what it holds in memory -/
def Strs (w : World) (v : Value) (xs : List ByteArray) : Prop :=
  (xs = [] ∧ ∃ ad cap, v = .slice ad 0 cap) ∨
  ∃ b off cap, v = .slice (some ⟨b, off, none⟩) xs.length cap ∧ b < w.heap.size ∧ ∀ j, j < xs.length → w.cell? ⟨b, off + j, none⟩ = some (.string (xs.getD j ⟨#[]⟩))

theorem Strs.below {w w' : World} {v : Value} {xs : List ByteArray} (h : Strs w v xs) (hB : Below w.heap.size w w') : Strs w' v xs := by
  rcases h with h | ⟨b, off, cap, hv, hb, hc⟩
  · exact .inl h
  · exact .inr ⟨b, off, cap, hv, Nat.lt_of_lt_of_le hb hB.size, fun j hj => (hB.cell (p := ⟨b, off + j, none⟩) hb).trans (hc j hj)⟩

theorem Strs.at {w : World} {v : Value} {xs : List ByteArray} (h : Strs w v xs) : ∃ ad cap, v = .slice ad xs.length cap ∧
    ∀ j, j < xs.length → ∃ b off, ad = some ⟨b, off, none⟩ ∧ b < w.heap.size ∧ w.cell? ⟨b, off + j, none⟩ = some (.string (xs.getD j ⟨#[]⟩)) := by
  rcases h with ⟨rfl, ad, cap, rfl⟩ | ⟨b, off, cap, rfl, hb, hc⟩
  · exact ⟨ad, cap, rfl, fun j hj => absurd hj (by simp)⟩
  · exact ⟨_, cap, rfl, fun j hj => ⟨b, off, rfl, hb, hc j hj⟩⟩

/-- how many bytes texts take at the most -/
def room (xs : List ByteArray) : Nat := (xs.map fun x => x.size + 10).sum
theorem room_take (xs : List ByteArray) (j : Nat) (h : j < xs.length) : room (xs.take j) + ((xs.getD j ⟨#[]⟩).size + 10) ≤ room xs := by
  have e : xs = xs.take j ++ xs.getD j ⟨#[]⟩ :: xs.drop (j + 1) := by
    conv => lhs; rw [← List.take_append_drop j xs, List.drop_eq_getElem_cons h]
    simp [h]
  have : room xs = room (xs.take j ++ xs.getD j ⟨#[]⟩ :: xs.drop (j + 1)) := by rw [← e]
  rw [this]
  simp only [room, List.map_append, List.map_cons, List.sum_append, List.sum_cons]
  omega
theorem room_len (xs : List ByteArray) : 10 * xs.length ≤ room xs := by
  induction xs with
  | nil => simp [room]
  | cons x r ih => simp only [room, List.map_cons, List.sum_cons, List.length_cons] at ih ⊢; omega
theorem room_get (xs : List ByteArray) (j : Nat) : (xs.getD j ⟨#[]⟩).size ≤ room xs := by
  by_cases h : j < xs.length
  · have := room_take xs j h; omega
  · rw [List.getD_eq_getElem?_getD, List.getElem?_eq_none (by omega)]; exact Nat.zero_le _
end Go.Proofs.YtedogofeibdjiaaGreat
namespace Go.Proofs.YtedogofeibdjiaaGreat
open Go.RowKit
theorem hid {p : Prop} (h : p) : Hid p := h
end Go.Proofs.YtedogofeibdjiaaGreat
namespace Go.Proofs.YtedogofeibdjiaaGreat
open Go.RowKit
set_option linter.unusedVariables false

theorem dret_u32 {a b : Int} (h : a = b) : Ending.returned (.int .u32 a) = .returned (.int .u32 b) := by rw [h]
theorem dxor32 (a b : Nat) (ha : a < 4294967296) (hb : b < 4294967296) : a ^^^ b < 4294967296 := Nat.xor_lt_two_pow (n := 32) ha hb
theorem or32 (a b : Nat) (ha : a < 4294967296) (hb : b < 4294967296) : a ||| b < 4294967296 := Nat.or_lt_two_pow (n := 32) ha hb
theorem and32 (a b : Nat) (ha : a < 4294967296) : a &&& b < 4294967296 := Nat.lt_of_le_of_lt Nat.and_le_left ha
theorem dofInt32 (a : Nat) (ha : a < 4294967296) : (BitVec.ofInt 32 (a : Int)).toNat = a := by
  rw [BitVec.ofInt_natCast, BitVec.toNat_ofNat]; exact Nat.mod_eq_of_lt (by omega)
theorem dbits_xor_u32 (a b : Nat) (ha : a < 4294967296) (hb : b < 4294967296) : bits .xor .u32 (a : Int) (b : Int) = ((a ^^^ b : Nat) : Int) := by
  have hx := dxor32 a b ha hb
  show IntKind.u32.wrap ((BitVec.ofInt 32 (a : Int) ^^^ BitVec.ofInt 32 (b : Int)).toNat : Int) = _
  rw [BitVec.toNat_xor, dofInt32 a ha, dofInt32 b hb, IntKind.wrap_u32]
  omega
theorem dbits_and_u32 (a b : Nat) (ha : a < 4294967296) (hb : b < 4294967296) : bits .and .u32 (a : Int) (b : Int) = ((a &&& b : Nat) : Int) := by
  have hx := and32 a b ha
  show IntKind.u32.wrap ((BitVec.ofInt 32 (a : Int) &&& BitVec.ofInt 32 (b : Int)).toNat : Int) = _
  rw [BitVec.toNat_and, dofInt32 a ha, dofInt32 b hb, IntKind.wrap_u32]
  omega
theorem bits_or_u32 (a b : Nat) (ha : a < 4294967296) (hb : b < 4294967296) : bits .or .u32 (a : Int) (b : Int) = ((a ||| b : Nat) : Int) := by
  have hx := or32 a b ha hb
  show IntKind.u32.wrap ((BitVec.ofInt 32 (a : Int) ||| BitVec.ofInt 32 (b : Int)).toNat : Int) = _
  rw [BitVec.toNat_or, dofInt32 a ha, dofInt32 b hb, IntKind.wrap_u32]
  omega
theorem div32 (x n : Nat) (h : x < 4294967296) : x / 2 ^ n < 4294967296 := Nat.lt_of_le_of_lt (Nat.div_le_self _ _) h
theorem rot_lt (x n : Nat) (h : x < 4294967296) : rot x n < 4294967296 := or32 _ _ (div32 x n h) (Nat.mod_lt _ (by decide))
theorem rot3_lt (x i j k : Nat) (h : x < 4294967296) : rot3 x i j k < 4294967296 := dxor32 _ _ (dxor32 _ _ (rot_lt x i h) (rot_lt x j h)) (rot_lt x k h)
theorem older_lt (x : Nat) (h : x < 4294967296) : older x < 4294967296 := dxor32 _ _ (dxor32 _ _ (rot_lt x 7 h) (rot_lt x 18 h)) (div32 x 3 h)
theorem newer_lt (x : Nat) (h : x < 4294967296) : newer x < 4294967296 := dxor32 _ _ (dxor32 _ _ (rot_lt x 17 h) (rot_lt x 19 h)) (div32 x 10 h)
/-- a turning to the left, as the walk writes it -/
theorem rot_is (x m n : Nat) (h : x < 4294967296) (hm : m = 32 - n) : bits .or .u32 ((x : Int) * 2 ^ m % 4294967296) ((x : Int) / 2 ^ n) = ((rot x n : Nat) : Int) := by
  subst hm
  have e1 : ((x : Int) * 2 ^ (32 - n) % 4294967296) = ((x * 2 ^ (32 - n) % 4294967296 : Nat) : Int) := by simp
  have e2 : ((x : Int) / 2 ^ n) = ((x / 2 ^ n : Nat) : Int) := by simp
  rw [e1, e2, bits_or_u32 _ _ (Nat.mod_lt _ (by decide)) (div32 x n h), Nat.or_comm]
  rfl

set_option maxRecDepth 100000 in
set_option maxHeartbeats 400000 in
theorem rotl2 (x : Nat) (w : World) (hx : x < 4294967296) :
    Calls Tryz.prog 143 #[.int .u32 x, .int .i64 (-2)] w fun e w' => e = .returned (.int .u32 (rot x 2)) ∧ w' = w := by
  have hb : bits BinOp.and IntKind.u64 (IntKind.u64.wrap (-2)) 31 = 30 := by decide
  have H := show Hid _ from rot_is x 30 2 hx (by decide)
  generalize rot x 2 = r at H ⊢
  go_enter Tryz.func143, Tryz.ntmps143
  go_wp2
  go_ret
  exact ⟨dret_u32 (by rw [← H.out]; first | rfl | (congr 1; simp [IntKind.wrap_u32])), rfl⟩

set_option maxRecDepth 100000 in
set_option maxHeartbeats 400000 in
theorem rotl6 (x : Nat) (w : World) (hx : x < 4294967296) :
    Calls Tryz.prog 143 #[.int .u32 x, .int .i64 (-6)] w fun e w' => e = .returned (.int .u32 (rot x 6)) ∧ w' = w := by
  have hb : bits BinOp.and IntKind.u64 (IntKind.u64.wrap (-6)) 31 = 26 := by decide
  have H := show Hid _ from rot_is x 26 6 hx (by decide)
  generalize rot x 6 = r at H ⊢
  go_enter Tryz.func143, Tryz.ntmps143
  go_wp2
  go_ret
  exact ⟨dret_u32 (by rw [← H.out]; first | rfl | (congr 1; simp [IntKind.wrap_u32])), rfl⟩

set_option maxRecDepth 100000 in
set_option maxHeartbeats 400000 in
theorem rotl7 (x : Nat) (w : World) (hx : x < 4294967296) :
    Calls Tryz.prog 143 #[.int .u32 x, .int .i64 (-7)] w fun e w' => e = .returned (.int .u32 (rot x 7)) ∧ w' = w := by
  have hb : bits BinOp.and IntKind.u64 (IntKind.u64.wrap (-7)) 31 = 25 := by decide
  have H := show Hid _ from rot_is x 25 7 hx (by decide)
  generalize rot x 7 = r at H ⊢
  go_enter Tryz.func143, Tryz.ntmps143
  go_wp2
  go_ret
  exact ⟨dret_u32 (by rw [← H.out]; first | rfl | (congr 1; simp [IntKind.wrap_u32])), rfl⟩

set_option maxRecDepth 100000 in
set_option maxHeartbeats 400000 in
theorem rotl11 (x : Nat) (w : World) (hx : x < 4294967296) :
    Calls Tryz.prog 143 #[.int .u32 x, .int .i64 (-11)] w fun e w' => e = .returned (.int .u32 (rot x 11)) ∧ w' = w := by
  have hb : bits BinOp.and IntKind.u64 (IntKind.u64.wrap (-11)) 31 = 21 := by decide
  have H := show Hid _ from rot_is x 21 11 hx (by decide)
  generalize rot x 11 = r at H ⊢
  go_enter Tryz.func143, Tryz.ntmps143
  go_wp2
  go_ret
  exact ⟨dret_u32 (by rw [← H.out]; first | rfl | (congr 1; simp [IntKind.wrap_u32])), rfl⟩

set_option maxRecDepth 100000 in
set_option maxHeartbeats 400000 in
theorem rotl13 (x : Nat) (w : World) (hx : x < 4294967296) :
    Calls Tryz.prog 143 #[.int .u32 x, .int .i64 (-13)] w fun e w' => e = .returned (.int .u32 (rot x 13)) ∧ w' = w := by
  have hb : bits BinOp.and IntKind.u64 (IntKind.u64.wrap (-13)) 31 = 19 := by decide
  have H := show Hid _ from rot_is x 19 13 hx (by decide)
  generalize rot x 13 = r at H ⊢
  go_enter Tryz.func143, Tryz.ntmps143
  go_wp2
  go_ret
  exact ⟨dret_u32 (by rw [← H.out]; first | rfl | (congr 1; simp [IntKind.wrap_u32])), rfl⟩

set_option maxRecDepth 100000 in
set_option maxHeartbeats 400000 in
theorem rotl17 (x : Nat) (w : World) (hx : x < 4294967296) :
    Calls Tryz.prog 143 #[.int .u32 x, .int .i64 (-17)] w fun e w' => e = .returned (.int .u32 (rot x 17)) ∧ w' = w := by
  have hb : bits BinOp.and IntKind.u64 (IntKind.u64.wrap (-17)) 31 = 15 := by decide
  have H := show Hid _ from rot_is x 15 17 hx (by decide)
  generalize rot x 17 = r at H ⊢
  go_enter Tryz.func143, Tryz.ntmps143
  go_wp2
  go_ret
  exact ⟨dret_u32 (by rw [← H.out]; first | rfl | (congr 1; simp [IntKind.wrap_u32])), rfl⟩

set_option maxRecDepth 100000 in
set_option maxHeartbeats 400000 in
theorem rotl18 (x : Nat) (w : World) (hx : x < 4294967296) :
    Calls Tryz.prog 143 #[.int .u32 x, .int .i64 (-18)] w fun e w' => e = .returned (.int .u32 (rot x 18)) ∧ w' = w := by
  have hb : bits BinOp.and IntKind.u64 (IntKind.u64.wrap (-18)) 31 = 14 := by decide
  have H := show Hid _ from rot_is x 14 18 hx (by decide)
  generalize rot x 18 = r at H ⊢
  go_enter Tryz.func143, Tryz.ntmps143
  go_wp2
  go_ret
  exact ⟨dret_u32 (by rw [← H.out]; first | rfl | (congr 1; simp [IntKind.wrap_u32])), rfl⟩

set_option maxRecDepth 100000 in
set_option maxHeartbeats 400000 in
theorem rotl19 (x : Nat) (w : World) (hx : x < 4294967296) :
    Calls Tryz.prog 143 #[.int .u32 x, .int .i64 (-19)] w fun e w' => e = .returned (.int .u32 (rot x 19)) ∧ w' = w := by
  have hb : bits BinOp.and IntKind.u64 (IntKind.u64.wrap (-19)) 31 = 13 := by decide
  have H := show Hid _ from rot_is x 13 19 hx (by decide)
  generalize rot x 19 = r at H ⊢
  go_enter Tryz.func143, Tryz.ntmps143
  go_wp2
  go_ret
  exact ⟨dret_u32 (by rw [← H.out]; first | rfl | (congr 1; simp [IntKind.wrap_u32])), rfl⟩

set_option maxRecDepth 100000 in
set_option maxHeartbeats 400000 in
theorem rotl22 (x : Nat) (w : World) (hx : x < 4294967296) :
    Calls Tryz.prog 143 #[.int .u32 x, .int .i64 (-22)] w fun e w' => e = .returned (.int .u32 (rot x 22)) ∧ w' = w := by
  have hb : bits BinOp.and IntKind.u64 (IntKind.u64.wrap (-22)) 31 = 10 := by decide
  have H := show Hid _ from rot_is x 10 22 hx (by decide)
  generalize rot x 22 = r at H ⊢
  go_enter Tryz.func143, Tryz.ntmps143
  go_wp2
  go_ret
  exact ⟨dret_u32 (by rw [← H.out]; first | rfl | (congr 1; simp [IntKind.wrap_u32])), rfl⟩

set_option maxRecDepth 100000 in
set_option maxHeartbeats 400000 in
theorem rotl25 (x : Nat) (w : World) (hx : x < 4294967296) :
    Calls Tryz.prog 143 #[.int .u32 x, .int .i64 (-25)] w fun e w' => e = .returned (.int .u32 (rot x 25)) ∧ w' = w := by
  have hb : bits BinOp.and IntKind.u64 (IntKind.u64.wrap (-25)) 31 = 7 := by decide
  have H := show Hid _ from rot_is x 7 25 hx (by decide)
  generalize rot x 25 = r at H ⊢
  go_enter Tryz.func143, Tryz.ntmps143
  go_wp2
  go_ret
  exact ⟨dret_u32 (by rw [← H.out]; first | rfl | (congr 1; simp [IntKind.wrap_u32])), rfl⟩

set_option maxRecDepth 100000 in
set_option maxHeartbeats 400000 in
theorem turned6 (x : Nat) (w : World) (hx : x < 4294967296) :
    Calls Tryz.prog 128 #[.int .u32 x, .int .i64 6, .int .i64 11, .int .i64 25] w fun e w' => e = .returned (.int .u32 (rot3 x 6 11 25)) ∧ w' = w := by
  have H1 := show Hid _ from fun w => rotl6 x w hx
  have H2 := show Hid _ from fun w => rotl11 x w hx
  have H3 := show Hid _ from fun w => rotl25 x w hx
  have h1 := rot_lt x 6 hx
  have h2 := rot_lt x 11 hx
  have h3 := rot_lt x 25 hx
  have HR : Hid (rot3 x 6 11 25 = rot x 6 ^^^ rot x 11 ^^^ rot x 25) := rfl
  generalize rot3 x 6 11 25 = R at HR ⊢
  generalize rot x 6 = a at H1 h1 HR
  generalize rot x 11 = b at H2 h2 HR
  generalize rot x 25 = c at H3 h3 HR
  have H4 := show Hid _ from dbits_xor_u32 a b h1 h2
  have H5 := show Hid _ from dbits_xor_u32 (a ^^^ b) c (dxor32 a b h1 h2) h3
  go_enter Tryz.func128, Tryz.ntmps128
  go_wp2_with fail
  refine (H1.out _).mono ?_
  rintro e w' ⟨rfl, rfl⟩
  go_wp2_with fail
  refine (H2.out _).mono ?_
  rintro e w' ⟨rfl, rfl⟩
  go_wp2_with fail
  refine (H3.out _).mono ?_
  rintro e w' ⟨rfl, rfl⟩
  go_wp2
  go_ret
  exact ⟨dret_u32 (by rw [H4.out, H5.out, HR.out]), rfl⟩

set_option maxRecDepth 100000 in
set_option maxHeartbeats 400000 in
theorem turned2 (x : Nat) (w : World) (hx : x < 4294967296) :
    Calls Tryz.prog 128 #[.int .u32 x, .int .i64 2, .int .i64 13, .int .i64 22] w fun e w' => e = .returned (.int .u32 (rot3 x 2 13 22)) ∧ w' = w := by
  have H1 := show Hid _ from fun w => rotl2 x w hx
  have H2 := show Hid _ from fun w => rotl13 x w hx
  have H3 := show Hid _ from fun w => rotl22 x w hx
  have h1 := rot_lt x 2 hx
  have h2 := rot_lt x 13 hx
  have h3 := rot_lt x 22 hx
  have HR : Hid (rot3 x 2 13 22 = rot x 2 ^^^ rot x 13 ^^^ rot x 22) := rfl
  generalize rot3 x 2 13 22 = R at HR ⊢
  generalize rot x 2 = a at H1 h1 HR
  generalize rot x 13 = b at H2 h2 HR
  generalize rot x 22 = c at H3 h3 HR
  have H4 := show Hid _ from dbits_xor_u32 a b h1 h2
  have H5 := show Hid _ from dbits_xor_u32 (a ^^^ b) c (dxor32 a b h1 h2) h3
  go_enter Tryz.func128, Tryz.ntmps128
  go_wp2_with fail
  refine (H1.out _).mono ?_
  rintro e w' ⟨rfl, rfl⟩
  go_wp2_with fail
  refine (H2.out _).mono ?_
  rintro e w' ⟨rfl, rfl⟩
  go_wp2_with fail
  refine (H3.out _).mono ?_
  rintro e w' ⟨rfl, rfl⟩
  go_wp2
  go_ret
  exact ⟨dret_u32 (by rw [H4.out, H5.out, HR.out]), rfl⟩
end Go.Proofs.YtedogofeibdjiaaGreat
namespace Go.Proofs.YtedogofeibdjiaaGreat
open Go.RowKit
set_option linter.unusedVariables false

/-- the worlds are alike but for block g and what is new -/
structure Only (g : Nat) (w w' : World) : Prop where
  os : w'.os = w.os
  tape : w'.tape = w.tape
  output : w'.output = w.output
  size : w.heap.size ≤ w'.heap.size
  block : ∀ k, k < w.heap.size → k ≠ g → w'.heap[k]? = w.heap[k]?
theorem Only.refl (g : Nat) (w : World) : Only g w w := ⟨rfl, rfl, rfl, Nat.le_refl _, fun _ _ _ => rfl⟩
theorem Only.trans {g : Nat} {a b c : World} (h : Only g a b) (k : Only g b c) : Only g a c :=
  ⟨k.os.trans h.os, k.tape.trans h.tape, k.output.trans h.output, Nat.le_trans h.size k.size, fun i hi hg => (k.block i (Nat.lt_of_lt_of_le hi h.size) hg).trans (h.block i hi hg)⟩
theorem _root_.Go.RowKit.Below.only {w w' : World} (h : Below w.heap.size w w') (g : Nat) : Only g w w' := ⟨h.os, h.tape, h.output, h.size, fun k hk _ => h.block k hk⟩
theorem Only.setCell {g : Nat} {a w : World} (h : Only g a w) (o : Nat) (u : Value) : Only g a (w.setCell ⟨g, o, none⟩ u) :=
  h.trans ⟨rfl, rfl, rfl, by simp [World.setCell], fun k _ hg => Below.heap_setCell _ _ _ _ hg⟩
theorem Only.below {g B : Nat} {w w' : World} (h : Only g w w') (hB : B ≤ g) (hs : B ≤ w.heap.size) : Below B w w' := ⟨h.os, h.tape, h.output, h.size, fun k hk => h.block k (by omega) (by omega)⟩
end Go.Proofs.YtedogofeibdjiaaGreat
namespace Go.Proofs.YtedogofeibdjiaaGreat
open Go.RowKit
set_option linter.unusedVariables false

theorem ret_u32 {a b : Int} (h : a = b) : Ending.returned (.int .u32 a) = .returned (.int .u32 b) := by rw [h]

set_option maxRecDepth 100000 in
set_option maxHeartbeats 800000 in
theorem shift_any (x : Nat) (s : ByteArray) (w : World) (hx : x < 4294967296) (hs : s.size ≤ maxLen) :
    Calls Tryz.prog 116 #[.int .u32 x, .string s] w fun e w' => e = .returned (.int .u32 (crc x s.data.toList)) ∧ w' = w := by
  unfold maxLen at hs
  have hG : Hid (crc x s.data.toList = crc x (s.data.toList.drop 0)) := rfl
  generalize crc x s.data.toList = G at hG ⊢
  go_enter Tryz.func116, Tryz.ntmps116
  go_wp2
  go_loop [0, 9] (fun st i => ∃ (k y : Nat), k ≤ s.size ∧ i = .int .i64 k ∧ st = .int .u32 y ∧ y ≤ 4294967295 ∧ Hid (G = crc y (s.data.toList.drop k))) (fun _ i => s.size - (intOf i).toNat)
  case atStart => exact ⟨0, x, by omega, rfl, rfl, by omega, hG⟩
  case round =>
    clear hG
    obtain ⟨k, y, hk, rfl, rfl, hy, hG⟩ := hrel
    by_cases hlt : k < s.size
    · have hdr := drop_cons s k hlt
      generalize hidx : s[k] = c at hdr
      have HG : Hid (G = crc (crcIt (8 - 0) (y ^^^ c.toNat)) (s.data.toList.drop (k + 1))) := by show G = _; rw [hG.out, hdr]; rfl
      have HX := show Hid _ from xor_byte y c (by omega)
      have hz := xor32 y c.toNat (by omega) (by have := UInt8.toNat_lt c; omega)
      generalize y ^^^ c.toNat = z at HG HX hz
      clear hG hdr
      have hlt' : (k : Int) < (s.size : Int) := by omega
      go_wp2
      go_loop [0, 18] (fun st i => ∃ (j u : Nat), j ≤ 8 ∧ i = .int .i64 j ∧ st = .int .u32 u ∧ u ≤ 4294967295 ∧ Hid (G = crc (crcIt (8 - j) u) (s.data.toList.drop (k + 1)))) (fun _ i => 8 - (intOf i).toNat)
      case atStart => exact ⟨0, z, by omega, rfl, congrArg (Value.int .u32) HX.out, by omega, HG⟩
      case round =>
        clear HG HX
        obtain ⟨j, u, hj, rfl, rfl, hu, HG⟩ := hrel
        by_cases hj8 : j < 8
        · have HS := show Hid _ from mask_step u (by omega)
          have hl := crcStep_lt u (by omega)
          have HG2 : Hid (G = crc (crcIt (8 - (j + 1)) (crcStep u)) (s.data.toList.drop (k + 1))) := by show G = _; rw [HG.out, show 8 - j = (8 - (j + 1)) + 1 by omega]; rfl
          clear HG
          generalize crcStep u = u2 at HS hl HG2
          go_wp2
          go_round
          case rel => exact ⟨j + 1, u2, by omega, by go_num, congrArg (Value.int .u32) HS.out, by omega, HG2⟩
          case measure => simp [intOf]; omega
        · have HG2 : Hid (G = crc u (s.data.toList.drop (k + 1))) := by show G = _; rw [HG.out, show 8 - j = 0 by omega]; rfl
          clear HG
          go_wp2
          go_round
          case rel => exact ⟨k + 1, u, by omega, by go_num, rfl, by omega, HG2⟩
          case measure => simp [intOf]; omega
    · have HG : Hid (G = y) := by show G = _; rw [hG.out, drop_none s k (by omega)]; rfl
      clear hG
      go_wp2
      go_ret
      exact ⟨ret_u32 (by rw [HG.out]), rfl⟩

/-- the sum of bytes -/
def sumN (l : List UInt8) : Nat := 4294967295 - crc 4294967295 l

set_option maxRecDepth 100000 in
set_option maxHeartbeats 400000 in
theorem sumOf_any (a s : ByteArray) (w : World) (ha : a.size ≤ maxLen) (hs : s.size ≤ maxLen) :
    Calls Tryz.prog 95 #[.string a, .string s] w fun e w' => e = .returned (.int .u32 (sumN (a.data.toList ++ s.data.toList))) ∧ w' = w := by
  have HA := show Hid _ from fun w => shift_any 4294967295 a w (by decide) ha
  have hc := crc_lt a.data.toList 4294967295 (by decide)
  have HU := show Hid (sumN (a.data.toList ++ s.data.toList) = 4294967295 - crc 4294967295 (a.data.toList ++ s.data.toList)) from rfl
  rw [crc_append] at HU
  generalize crc 4294967295 a.data.toList = c at HA hc HU
  have HS := show Hid _ from fun w => shift_any c s w hc hs
  have hd := crc_lt s.data.toList c hc
  generalize crc c s.data.toList = d at HS hd HU
  go_enter Tryz.func95, Tryz.ntmps95
  go_wp2_with fail
  refine (HA.out _).mono ?_
  rintro e w' ⟨rfl, rfl⟩
  go_wp2_with fail
  refine (HS.out _).mono ?_
  rintro e w2 ⟨rfl, rfl⟩
  go_wp2
  go_ret
  exact ⟨ret_u32 (by rw [HU.out]; exact not_is d hd), rfl⟩

theorem sumN_lt (l : List UInt8) : sumN l < 4294967296 := by unfold sumN; omega
end Go.Proofs.YtedogofeibdjiaaGreat
namespace Go.Proofs.YtedogofeibdjiaaGreat
open Go.RowKit
set_option linter.unusedVariables false

set_option maxHeartbeats 400000 in
theorem isWide_yes (k : Int) (w : World) (h0 : 1 ≤ k) (h1 : k ≤ 8) :
    Calls Tryz.prog 115 #[.int .i64 k] w fun e w' => e = .returned (.bool true) ∧ w' = w := by
  go_enter Tryz.func115, Tryz.ntmps115
  go_wp2
  all_goals go_ret
  all_goals exact ⟨rfl, rfl⟩
set_option maxHeartbeats 400000 in
theorem isWide_no (k : Int) (w : World) (h : ¬ (1 ≤ k ∧ k ≤ 8)) :
    Calls Tryz.prog 115 #[.int .i64 k] w fun e w' => e = .returned (.bool false) ∧ w' = w := by
  by_cases h0 : 1 ≤ k
  · have h1 : ¬ k ≤ 8 := by omega
    clear h
    go_enter Tryz.func115, Tryz.ntmps115
    go_wp2
    all_goals go_ret
    all_goals exact ⟨rfl, rfl⟩
  · clear h
    go_enter Tryz.func115, Tryz.ntmps115
    go_wp2
    all_goals go_ret
    all_goals exact ⟨rfl, rfl⟩

theorem ret_wide {n : Nat} {k : Int} {x : ByteArray} {e : Int} (h1 : x = ⟨(wideR n k).toArray⟩) (h2 : e = wideE n k) :
    Ending.returned (.tuple #[.string x, .int .i64 e]) = .returned (.tuple #[.string ⟨(wideR n k).toArray⟩, .int .i64 (wideE n k)]) := by rw [h1, h2]

theorem rel_store {w wr : World} {g n wide k : Nat} (hk : k < wide) (hown : wr.ownsRow g 5 1 (.slice (some ⟨g, 0, none⟩) wide wide) wide (bs (laidW n wide k))) (hB : Below g w wr) {x : Int} (hx : x = (UInt8.ofNat (n / 256 ^ k)).toNat) :
    (wr.setCell ⟨g, wide - 1 - k, none⟩ (.int .u8 x)).ownsRow g 5 1 (.slice (some ⟨g, 0, none⟩) wide wide) wide (bs (laidW n wide (k + 1))) ∧ Below g w (wr.setCell ⟨g, wide - 1 - k, none⟩ (.int .u8 x)) := by
  subst hx
  refine ⟨?_, hB.setCell (Nat.le_refl _) _⟩
  have := (hown.stored (wide - 1 - k) (.int .u8 (UInt8.ofNat (n / 256 ^ k)).toNat)).1
  rw [bs_set, laidW_step n wide k hk] at this
  exact this

theorem row_cell {wr : World} {g n wide k : Nat} (hk : k < wide) (hown : wr.ownsRow g 5 1 (.slice (some ⟨g, 0, none⟩) wide wide) wide (bs (laidW n wide k))) : ∃ x, wr.cell? ⟨g, wide - 1 - k, none⟩ = some (.int .u8 x) := by
  have h := hown.cellAt (wide - 1 - k) (by omega)
  have hl := laidW_len n wide k (by omega)
  rw [h, bs, List.getElem?_map, List.getElem?_eq_getElem (by omega)]
  exact ⟨_, rfl⟩

set_option maxRecDepth 100000 in
set_option maxHeartbeats 800000 in
theorem wide_in (n k : Nat) (w : World) (hn : n < 18446744073709551616) (h1 : 1 ≤ k) (h8 : k ≤ 8) :
    Calls Tryz.prog 94 #[.int .u64 n, .int .i64 k] w fun e w' => e = .returned (.tuple #[.string ⟨(wideR n k).toArray⟩, .int .i64 (wideE n k)]) ∧ Below w.heap.size w w' := by
  obtain ⟨i0, hi, hz0, hz1, hz2⟩ := info_parts info8
  by_cases hf : n < 256 ^ k
  · have hb := shr8_ne n k hf
    have HW := show Hid _ from wide_yes n k h1 h8 hf
    clear hf
    go_enter Tryz.func94, Tryz.ntmps94
    go_wp2_with (first | (go_at_call 115; refine (isWide_yes _ _ (by omega) (by omega)).mono ?_; rintro e w' ⟨rfl, rfl⟩) | (at_make; refine wpList_make_full _ rfl (.tmp 18) (.tmp 18) 46 rfl w'.heap.size 5 i0 (.int .u8 0) 1 Tryz.underlying46 hi hz0 hz1 .i64 .i64 _ _ k rfl rfl rfl rfl ?c1 ?c2 (Nat.le_refl _) ?_))
    case c1 => rw [hz2]; omega
    case c2 => unfold maxLen; omega
    intro w2 hown0 hgrow
    have hB0 : Below w'.heap.size w' w2 := (Below.refl _ _).grown hgrow (Nat.le_refl _) (by intro k hk; cases hk)
    have hown : w2.ownsRow w'.heap.size 5 1 (.slice (some ⟨w'.heap.size, 0, none⟩) k k) k (bs (laidW n k 0)) := by
      have e : (madeCells #[Value.int .u8 0] k).toList = bs (laidW n k 0) := by
        rw [toList_madeCells_one]; simp [laidW, be, bs_zero]
      rw [e] at hown0; exact hown0
    clear hown0 hgrow
    generalize hg : w'.heap.size = g at hown hB0 ⊢
    go_wp2
    go_loopw [21] (fun i wr => ∃ j : Nat, j ≤ k ∧ i = .int .i64 j ∧ wr.ownsRow g 5 1 (.slice (some ⟨g, 0, none⟩) k k) k (bs (laidW n k j)) ∧ Below g w' wr) (fun i _ => k - (intOf i).toNat)
    case atStart => exact ⟨0, by omega, rfl, hown, hB0⟩
    case round =>
      clear hown hB0
      obtain ⟨j, hj, rfl, hown, hB⟩ := hrel
      by_cases hlt : j < k
      · obtain ⟨x0, hcell⟩ := row_cell hlt hown
        have hfz := hown.frozenAt (k - 1 - j)
        have R := rel_store hlt hown hB (shr8_byte n j)
        clear hown hB
        go_wp2
        go_roundw
        case rel => exact ⟨j + 1, by omega, by go_num, R.1, R.2⟩
        case measure => simp [intOf]; omega
      · have hjk : j = k := by omega
        subst hjk
        rw [laidW_full] at hown
        have hne : be n j ≠ [] := by intro h; have := be_len n j; rw [h] at this; simp at this; omega
        have hcv := convert_owned hown hne
        clear hown
        go_wp2
        go_ret2
        exact ⟨ret_wide (by rw [HW.out.1]) (by rw [HW.out.2]; rfl), by rw [hg]; exact hB⟩
  · have hb := shr8_ne' n k hf
    have HW := show Hid _ from wide_no n k (by intro h; exact hf (by simpa using h.2.2))
    clear hf
    go_enter Tryz.func94, Tryz.ntmps94
    go_wp2_with (first | (go_at_call 115; refine (isWide_yes _ _ (by omega) (by omega)).mono ?_; rintro e w' ⟨rfl, rfl⟩))
    go_ret2
    exact ⟨ret_wide (by rw [HW.out.1]) (by rw [HW.out.2]; rfl), Below.refl _ _⟩

set_option maxRecDepth 100000 in
set_option maxHeartbeats 400000 in
theorem wide_out (n : Nat) (k : Int) (w : World) (h : ¬ (1 ≤ k ∧ k ≤ 8)) :
    Calls Tryz.prog 94 #[.int .u64 n, .int .i64 k] w fun e w' => e = .returned (.tuple #[.string ⟨(wideR n k).toArray⟩, .int .i64 (wideE n k)]) ∧ Below w.heap.size w w' := by
  have HW := show Hid _ from wide_no n k (fun c => h ⟨c.1, c.2.1⟩)
  have H := show Hid _ from h
  clear h
  go_enter Tryz.func94, Tryz.ntmps94
  go_wp2_with (first | (go_at_call 115; refine (isWide_no _ _ H.out).mono ?_; rintro e w' ⟨rfl, rfl⟩))
  go_ret2
  exact ⟨ret_wide (by rw [HW.out.1]) (by rw [HW.out.2]; rfl), Below.refl _ _⟩

theorem wide_any (n : Nat) (k : Int) (w : World) (hn : n < 18446744073709551616) :
    Calls Tryz.prog 94 #[.int .u64 n, .int .i64 k] w fun e w' => e = .returned (.tuple #[.string ⟨(wideR n k).toArray⟩, .int .i64 (wideE n k)]) ∧ Below w.heap.size w w' := by
  by_cases h : 1 ≤ k ∧ k ≤ 8
  · obtain ⟨m, rfl⟩ := Int.eq_ofNat_of_zero_le (show 0 ≤ k by omega)
    exact wide_in n m w hn (by omega) (by omega)
  · exact wide_out n k w h
end Go.Proofs.YtedogofeibdjiaaGreat
namespace Go.Proofs.YtedogofeibdjiaaGreat
open Go.RowKit
set_option linter.unusedVariables false

set_option maxHeartbeats 400000 in
theorem isPlace_yes (s : ByteArray) (a : Int) (w : World) (h0 : 0 ≤ a) (h1 : a ≤ s.size) :
    Calls Tryz.prog 140 #[.string s, .int .i64 a] w fun e w' => e = .returned (.bool true) ∧ w' = w := by
  go_enter Tryz.func140, Tryz.ntmps140
  go_wp2
  all_goals go_ret
  all_goals exact ⟨rfl, rfl⟩

set_option maxHeartbeats 400000 in
theorem isPlace_no (s : ByteArray) (a : Int) (w : World) (h : ¬ (0 ≤ a ∧ a ≤ s.size)) :
    Calls Tryz.prog 140 #[.string s, .int .i64 a] w fun e w' => e = .returned (.bool false) ∧ w' = w := by
  by_cases h0 : 0 ≤ a
  · have h1 : ¬ a ≤ s.size := by omega
    clear h
    go_enter Tryz.func140, Tryz.ntmps140
    go_wp2
    all_goals go_ret
    all_goals exact ⟨rfl, rfl⟩
  · clear h
    go_enter Tryz.func140, Tryz.ntmps140
    go_wp2
    all_goals go_ret
    all_goals exact ⟨rfl, rfl⟩

end Go.Proofs.YtedogofeibdjiaaGreat
namespace Go.Proofs.YtedogofeibdjiaaGreat
open Go.RowKit
set_option linter.unusedVariables false

/-- the answer of a reading of a wide number -/
def gotW (s : ByteArray) (a k : Int) : Value := .tuple #[.int .u64 (rdW s a k).n, .int .i64 (endAt a (rdW s a k)), .int .i64 (rdW s a k).e]
theorem ret_w {a : Int} {G : Got} {n i e : Int} (h1 : n = G.n) (h2 : i = endAt a G) (h3 : e = G.e) :
    Ending.returned (.tuple #[.int .u64 n, .int .i64 i, .int .i64 e]) = .returned (.tuple #[.int .u64 G.n, .int .i64 (endAt a G), .int .i64 G.e]) := by rw [h1, h2, h3]

theorem rdW_arg (s : ByteArray) (a k : Int) (h : ¬ (1 ≤ k ∧ k ≤ 8 ∧ 0 ≤ a ∧ a ≤ s.size)) : rdW s a k = ⟨0, 0, 1⟩ := by rw [rdW, if_neg h]
theorem rdW_end (s : ByteArray) (a k : Int) (h : 1 ≤ k ∧ k ≤ 8 ∧ 0 ≤ a ∧ a ≤ s.size) (h2 : ¬ a + k ≤ s.size) : rdW s a k = ⟨0, 0, 5⟩ := by rw [rdW, if_pos h, if_neg h2]
theorem rdW_ok (s : ByteArray) (a k : Nat) (h1 : 1 ≤ k) (h8 : k ≤ 8) (h2 : a + k ≤ s.size) : rdW s a k = ⟨beN ((s.data.toList.drop a).take k), k, 0⟩ := by
  rw [rdW, if_pos ⟨by omega, by omega, by omega, by omega⟩, if_pos (by omega)]; simp

theorem beN_step (s : ByteArray) (a k : Nat) (h : a + k < s.size) (c : UInt8) (hc : s[a + k] = c) : beN ((s.data.toList.drop a).take (k + 1)) = beN ((s.data.toList.drop a).take k) * 256 + c.toNat := by
  rw [take_snoc s a k h, beN_snoc, hc]
theorem beN_small (s : ByteArray) (a k : Nat) (hk : k ≤ 7) : beN ((s.data.toList.drop a).take k) < 72057594037927936 := by
  have h1 := beN_lt ((s.data.toList.drop a).take k)
  have h2 : (256 : Nat) ^ ((s.data.toList.drop a).take k).length ≤ 256 ^ 7 := Nat.pow_le_pow_right (by omega) (by simp; omega)
  have h3 := pow256_le 7 (by omega)
  omega

theorem or_step (x c : Nat) (hx : x < 72057594037927936) (hc : c < 256) : bits .or .u64 (IntKind.u64.wrap ((x : Int) * 256)) (IntKind.u64.wrap (c : Int)) = ((x * 256 + c : Nat) : Int) := by
  rw [IntKind.wrap_u64, IntKind.wrap_u64, show ((x : Int) * 256) % 18446744073709551616 = ((x * 256 : Nat) : Int) by omega, show (c : Int) % 18446744073709551616 = (c : Int) by omega]
  exact or_small x c hx hc

set_option maxRecDepth 100000 in
set_option maxHeartbeats 800000 in
theorem readWide_ok (s : ByteArray) (a k : Nat) (w : World) (hs : s.size ≤ maxLen) (h1 : 1 ≤ k) (h8 : k ≤ 8) (h2 : a + k ≤ s.size) :
    Calls Tryz.prog 123 #[.string s, .int .i64 a, .int .i64 k] w fun e w' =>
      e = .returned (.tuple #[.int .u64 (rdW s a k).n, .int .i64 (endAt a (rdW s a k)), .int .i64 (rdW s a k).e]) ∧ w' = w := by
  unfold maxLen at hs
  have HG := show Hid _ from rdW_ok s a k h1 h8 h2
  generalize rdW s a k = G at HG ⊢
  have q1 : (k : Int) ≤ (s.size : Int) - a := by omega
  have q2 : (a : Int) ≤ s.size := by omega
  have t1 : decide ((s.size : Int) - a < k) = false := by simp; omega
  go_enter Tryz.func123, Tryz.ntmps123
  go_wp2_with (first | (go_at_call 115; refine (isWide_yes _ _ (by omega) (by omega)).mono ?_; rintro e w' ⟨rfl, rfl⟩) | (go_at_call 140; refine (isPlace_yes _ _ _ (by omega) (by omega)).mono ?_; rintro e w' ⟨rfl, rfl⟩))
  go_loop [9, 27] (fun n i => ∃ (j x : Nat), j ≤ k ∧ i = .int .i64 j ∧ n = .int .u64 x ∧ Hid (x = beN ((s.data.toList.drop a).take j))) (fun _ i => k - (intOf i).toNat)
  case atStart => exact ⟨0, 0, by omega, rfl, rfl, rfl⟩
  case round =>
    obtain ⟨j, x, hj, rfl, rfl, HX⟩ := hrel
    by_cases hlt : j < k
    · have hlt2 : a + j < s.size := by omega
      have HS := beN_step s a j hlt2
      have hx := beN_small s a j (by omega)
      rw [← HX.out] at hx HS
      generalize hidx : s[a + j] = c at HS
      have HS' := show Hid _ from HS c rfl
      have HO := show Hid _ from or_step x c.toNat hx (UInt8.toNat_lt c)
      clear HS hx
      go_wp2
      go_round
      case rel => exact ⟨j + 1, x * 256 + c.toNat, by omega, by go_num, congrArg (Value.int .u64) HO.out, HS'.out.symm⟩
      case measure => simp [intOf]; omega
    · have hjk : j = k := by omega
      subst hjk
      go_wp2
      go_ret3
      exact ⟨ret_w (by rw [HG.out]; rw [HX.out]) (by rw [HG.out]; rfl) (by rw [HG.out]; rfl), rfl⟩

set_option maxRecDepth 100000 in
set_option maxHeartbeats 800000 in
theorem readWide_end (s : ByteArray) (a : Nat) (k : Int) (w : World) (hs : s.size ≤ maxLen) (h : 1 ≤ k ∧ k ≤ 8) (ha : a ≤ s.size) (h2 : ¬ a + k ≤ s.size) :
    Calls Tryz.prog 123 #[.string s, .int .i64 a, .int .i64 k] w fun e w' =>
      e = .returned (.tuple #[.int .u64 (rdW s a k).n, .int .i64 (endAt a (rdW s a k)), .int .i64 (rdW s a k).e]) ∧ w' = w := by
  unfold maxLen at hs
  have HG := show Hid _ from rdW_end s a k ⟨h.1, h.2, by omega, by omega⟩ h2
  generalize rdW s a k = G at HG ⊢
  have q1 : (s.size : Int) - a < k := by omega
  have H1 := show Hid _ from h
  clear h h2
  go_enter Tryz.func123, Tryz.ntmps123
  go_wp2_with (first | (go_at_call 115; refine (isWide_yes _ _ H1.out.1 H1.out.2).mono ?_; rintro e w' ⟨rfl, rfl⟩) | (go_at_call 140; refine (isPlace_yes _ _ _ (by omega) (by omega)).mono ?_; rintro e w' ⟨rfl, rfl⟩))
  go_ret3
  exact ⟨ret_w (by rw [HG.out]; rfl) (by rw [HG.out]; rfl) (by rw [HG.out]; rfl), rfl⟩

set_option maxRecDepth 100000 in
set_option maxHeartbeats 800000 in
theorem readWide_arg (s : ByteArray) (a k : Int) (w : World) (h : ¬ (1 ≤ k ∧ k ≤ 8 ∧ 0 ≤ a ∧ a ≤ s.size)) :
    Calls Tryz.prog 123 #[.string s, .int .i64 a, .int .i64 k] w fun e w' =>
      e = .returned (.tuple #[.int .u64 (rdW s a k).n, .int .i64 (endAt a (rdW s a k)), .int .i64 (rdW s a k).e]) ∧ w' = w := by
  have HG := show Hid _ from rdW_arg s a k h
  generalize rdW s a k = G at HG ⊢
  by_cases hk : 1 ≤ k ∧ k ≤ 8
  · have H1 := show Hid _ from hk
    have H2 := show Hid (¬ (0 ≤ a ∧ a ≤ s.size)) from fun c => h ⟨hk.1, hk.2, c.1, c.2⟩
    clear h hk
    go_enter Tryz.func123, Tryz.ntmps123
    go_wp2_with (first | (go_at_call 115; refine (isWide_yes _ _ H1.out.1 H1.out.2).mono ?_; rintro e w' ⟨rfl, rfl⟩) | (go_at_call 140; refine (isPlace_no _ _ _ H2.out).mono ?_; rintro e w' ⟨rfl, rfl⟩))
    go_ret3
    exact ⟨ret_w (by rw [HG.out]; rfl) (by rw [HG.out]; rfl) (by rw [HG.out]; rfl), rfl⟩
  · have H1 := show Hid _ from hk
    clear h hk
    go_enter Tryz.func123, Tryz.ntmps123
    go_wp2_with (first | (go_at_call 115; refine (isWide_no _ _ H1.out).mono ?_; rintro e w' ⟨rfl, rfl⟩))
    go_ret3
    exact ⟨ret_w (by rw [HG.out]; rfl) (by rw [HG.out]; rfl) (by rw [HG.out]; rfl), rfl⟩

theorem readWide_any (s : ByteArray) (a k : Int) (w : World) (hs : s.size ≤ maxLen) :
    Calls Tryz.prog 123 #[.string s, .int .i64 a, .int .i64 k] w fun e w' =>
      e = .returned (.tuple #[.int .u64 (rdW s a k).n, .int .i64 (endAt a (rdW s a k)), .int .i64 (rdW s a k).e]) ∧ w' = w := by
  by_cases h : 1 ≤ k ∧ k ≤ 8 ∧ 0 ≤ a ∧ a ≤ s.size
  · obtain ⟨b, rfl⟩ := Int.eq_ofNat_of_zero_le h.2.2.1
    by_cases h2 : b + k ≤ s.size
    · obtain ⟨m, rfl⟩ := Int.eq_ofNat_of_zero_le (show 0 ≤ k by omega)
      exact readWide_ok s b m w hs (by omega) (by omega) (by omega)
    · exact readWide_end s b k w hs ⟨h.1, h.2.1⟩ (by omega) h2
  · exact readWide_arg s a k w h
end Go.Proofs.YtedogofeibdjiaaGreat
namespace Go.Proofs.YtedogofeibdjiaaGreat
open Go.RowKit
set_option linter.unusedVariables false

/-- a body's frame -/
def frm (b : List UInt8) : List UInt8 := be b.length 4 ++ (be (sumN (be b.length 4 ++ b)) 4 ++ b)
theorem frm_len (b : List UInt8) : (frm b).length = 8 + b.length := by simp [frm, be_len]; omega

theorem rdW_facts (s : ByteArray) (a : Int) (h : (rdW s a 4).e = 0) : 0 ≤ a ∧ a + 4 ≤ s.size ∧ (rdW s a 4).len = 4 ∧ (rdW s a 4).n < 4294967296 := by
  unfold rdW at h ⊢
  by_cases h1 : 1 ≤ (4 : Int) ∧ (4 : Int) ≤ 8 ∧ 0 ≤ a ∧ a ≤ s.size
  · rw [if_pos h1] at h ⊢
    by_cases h2 : a + 4 ≤ s.size
    · rw [if_pos h2]
      refine ⟨h1.2.2.1, h2, rfl, ?_⟩
      have h3 := beN_lt ((s.data.toList.drop a.toNat).take (4 : Int).toNat)
      have h4 : (256 : Nat) ^ ((s.data.toList.drop a.toNat).take (4 : Int).toNat).length ≤ 256 ^ 4 := Nat.pow_le_pow_right (by omega) (by simp; omega)
      exact Nat.lt_of_lt_of_le h3 h4
    · rw [if_neg h2] at h; simp at h
  · rw [if_neg h1] at h; simp at h
theorem rdW_e (s : ByteArray) (a : Int) : (rdW s a 4).e ≤ 5 ∧ ((rdW s a 4).e ≠ 0 → (rdW s a 4).n = 0) := by
  unfold rdW
  split
  · split <;> simp
  · simp

/-- the frame at a place -/
def unfAt (s : ByteArray) (a : Int) : Txt :=
  if (rdW s a 4).e = 0 then
    if (rdW s a 4).n ≤ 262144 then
      if a.toNat + 8 + (rdW s a 4).n ≤ s.size then
        if sumN ((s.extract a.toNat (a.toNat + 4)).data.toList ++ (s.extract (a.toNat + 8) (a.toNat + 8 + (rdW s a 4).n)).data.toList) = (rdW s ((a.toNat + 4 : Nat) : Int) 4).n then
          ⟨s.extract (a.toNat + 8) (a.toNat + 8 + (rdW s a 4).n), ((a.toNat + 8 + (rdW s a 4).n : Nat) : Int), 0⟩
        else ⟨⟨#[]⟩, 0, 10⟩
      else ⟨⟨#[]⟩, 0, 5⟩
    else ⟨⟨#[]⟩, 0, 2⟩
  else ⟨⟨#[]⟩, 0, (rdW s a 4).e⟩

theorem unf_ok (s : ByteArray) (a : Int) (h : (unfAt s a).e = 0) : 0 ≤ a ∧ a + 8 ≤ (unfAt s a).to ∧ (unfAt s a).to ≤ s.size ∧ a + 8 + (unfAt s a).x.size ≤ (unfAt s a).to := by
  unfold unfAt at h ⊢
  by_cases h0 : (rdW s a 4).e = 0
  · have hf := rdW_facts s a h0
    rw [if_pos h0] at h ⊢
    by_cases h1 : (rdW s a 4).n ≤ 262144
    · rw [if_pos h1] at h ⊢
      by_cases h2 : a.toNat + 8 + (rdW s a 4).n ≤ s.size
      · rw [if_pos h2] at h ⊢
        split at h
        · rename_i h3
          rw [if_pos h3]
          simp [ByteArray.size_extract]
          omega
        · simp at h
      · rw [if_neg h2] at h; simp at h
    · rw [if_neg h1] at h; simp at h
  · rw [if_neg h0] at h; simp at h; exact absurd h h0
theorem unf_e (s : ByteArray) (a : Int) : (unfAt s a).e ≤ 10 ∧ ((unfAt s a).e ≠ 0 → (unfAt s a).to = 0 ∧ (unfAt s a).x = ⟨#[]⟩) := by
  have := (rdW_e s a).1
  unfold unfAt
  split
  · split
    · split
      · split <;> simp
      · simp
    · simp
  · simp; omega
end Go.Proofs.YtedogofeibdjiaaGreat
namespace Go.Proofs.YtedogofeibdjiaaGreat
open Go.RowKit
set_option linter.unusedVariables false

theorem foldl_be (l : List UInt8) : ∀ a : Nat, l.foldl (fun a c => a * 256 + c.toNat) a = a * 256 ^ l.length + beN l := by
  induction l with
  | nil => intro a; simp [beN]
  | cons c r ih =>
    intro a
    have h1 := ih (a * 256 + c.toNat)
    have h2 := ih (0 * 256 + c.toNat)
    simp only [beN, List.foldl_cons, List.length_cons] at h1 h2 ⊢
    rw [h1, h2, Nat.pow_succ]
    have e : a * (256 ^ r.length * 256) = a * 256 * 256 ^ r.length := by rw [Nat.mul_comm (256 ^ r.length) 256, Nat.mul_assoc]
    rw [e, Nat.zero_mul, Nat.zero_add, Nat.add_mul, Nat.add_assoc]
theorem beN_cons (c : UInt8) (l : List UInt8) : beN (c :: l) = c.toNat * 256 ^ l.length + beN l := by
  have := foldl_be l c.toNat
  simpa [beN] using this
theorem beN_be (n k : Nat) : beN (be n k) = n % 256 ^ k := by
  induction k with
  | zero => simp [be, beN, Nat.mod_one]
  | succ k ih =>
    rw [be, beN_cons, be_len, ih, Nat.pow_succ, Nat.mod_mul]
    have : (UInt8.ofNat (n / 256 ^ k)).toNat = n / 256 ^ k % 256 := by simp
    rw [this, Nat.mul_comm]; omega

theorem size_of2 (s : ByteArray) (l : List UInt8) (h : s.data.toList = l) : s.size = l.length := by
  have : s.data.toList.length = s.size := by simp
  rw [h] at this; omega
theorem extract_list (s : ByteArray) (p m r : List UInt8) (h : s.data.toList = p ++ (m ++ r)) : (s.extract p.length (p.length + m.length)).data.toList = m := by
  rw [ByteArray.data_extract, Array.toList_extract, h]
  simp only [List.extract, List.drop_left, Nat.add_sub_cancel_left, List.take_left]
theorem rdW_be (s : ByteArray) (p r : List UInt8) (n : Nat) (hn : n < 4294967296) (h : s.data.toList = p ++ (be n 4 ++ r)) : rdW s (p.length : Int) 4 = ⟨n, 4, 0⟩ := by
  have hl := size_of2 s _ h
  rw [List.length_append, List.length_append, be_len] at hl
  have e0 : rdW s (p.length : Int) 4 = rdW s (p.length : Int) ((4 : Nat) : Int) := rfl
  rw [e0, rdW_ok s p.length 4 (by omega) (by omega) (by omega), h, List.drop_left]
  have : (be n 4 ++ r).take 4 = be n 4 := by
    have e := be_len n 4
    rw [List.take_append_of_le_length (by omega), List.take_of_length_le (by omega)]
  rw [this, beN_be, Nat.mod_eq_of_lt (by simpa using hn)]

theorem ba_eq (x y : ByteArray) (h : x.data.toList = y.data.toList) : x = y := by
  apply ByteArray.ext
  exact Array.ext' h

/-- what is framed is found, wherever it stands -/
theorem unf_back (s b : ByteArray) (p r : List UInt8) (hb : b.size ≤ 262144) (h : s.data.toList = p ++ (frm b.data.toList ++ r)) :
    unfAt s (p.length : Int) = ⟨b, ((p.length + 8 + b.size : Nat) : Int), 0⟩ := by
  have hbl : b.data.toList.length = b.size := by simp
  have hl := size_of2 s _ h
  rw [List.length_append, List.length_append, frm_len, hbl] at hl
  have h1 := rdW_be s p (be (sumN (be b.data.toList.length 4 ++ b.data.toList)) 4 ++ (b.data.toList ++ r)) b.data.toList.length (by omega) (by rw [h, frm]; simp)
  have h2 := rdW_be s (p ++ be b.data.toList.length 4) (b.data.toList ++ r) (sumN (be b.data.toList.length 4 ++ b.data.toList)) (sumN_lt _) (by rw [h, frm]; simp)
  have h3 := extract_list s p (be b.data.toList.length 4) (be (sumN (be b.data.toList.length 4 ++ b.data.toList)) 4 ++ (b.data.toList ++ r)) (by rw [h, frm]; simp)
  have h4 := extract_list s (p ++ (be b.data.toList.length 4 ++ be (sumN (be b.data.toList.length 4 ++ b.data.toList)) 4)) b.data.toList r (by rw [h, frm]; simp)
  rw [List.length_append, be_len] at h2
  rw [be_len] at h3
  rw [List.length_append, List.length_append, be_len, be_len] at h4
  rw [show p.length + (4 + 4) = p.length + 8 by omega] at h4
  rw [unfAt, h1, if_pos rfl, if_pos (by show b.data.toList.length ≤ _; omega)]
  simp only [Int.toNat_natCast]
  rw [if_pos (by omega), h2, h3, h4, if_pos rfl, hbl]
  congr 1
  rw [hbl] at h4
  exact ba_eq _ _ h4
end Go.Proofs.YtedogofeibdjiaaGreat
namespace Go.Proofs.YtedogofeibdjiaaGreat
open Go.RowKit
set_option linter.unusedVariables false

set_option maxRecDepth 100000 in
set_option maxHeartbeats 800000 in
theorem ref_sum_any (s : ByteArray) (w : World) (hs : s.size ≤ maxLen) :
    Calls Tryz.prog 93 #[.string s] w fun e w' => e = .returned (.int .u32 (sumN s.data.toList)) ∧ w' = w := by
  unfold maxLen at hs
  have hG : Hid (sumN s.data.toList = 4294967295 - crc 4294967295 (s.data.toList.drop 0)) := rfl
  generalize sumN s.data.toList = G at hG ⊢
  go_enter Tryz.func93, Tryz.ntmps93
  go_wp2
  go_loop [3, 4] (fun st i => ∃ (k y : Nat), k ≤ s.size ∧ i = .int .i64 k ∧ st = .int .u32 y ∧ y ≤ 4294967295 ∧ Hid (G = 4294967295 - crc y (s.data.toList.drop k))) (fun _ i => s.size - (intOf i).toNat)
  case atStart => exact ⟨0, 4294967295, by omega, rfl, rfl, by omega, hG⟩
  case round =>
    clear hG
    obtain ⟨k, y, hk, rfl, rfl, hy, hG⟩ := hrel
    by_cases hlt : k < s.size
    · have hdr := drop_cons s k hlt
      generalize hidx : s[k] = c at hdr
      have HG : Hid (G = 4294967295 - crc (crcIt (8 - 0) (y ^^^ c.toNat)) (s.data.toList.drop (k + 1))) := by show G = _; rw [hG.out, hdr]; rfl
      have HX := show Hid _ from xor_byte y c (by omega)
      have hz := xor32 y c.toNat (by omega) (by have := UInt8.toNat_lt c; omega)
      generalize y ^^^ c.toNat = z at HG HX hz
      clear hG hdr
      have hlt' : (k : Int) < (s.size : Int) := by omega
      go_wp2
      go_loop [3, 5] (fun st i => ∃ (j u : Nat), j ≤ 8 ∧ i = .int .i64 j ∧ st = .int .u32 u ∧ u ≤ 4294967295 ∧ Hid (G = 4294967295 - crc (crcIt (8 - j) u) (s.data.toList.drop (k + 1)))) (fun _ i => 8 - (intOf i).toNat)
      case atStart => exact ⟨0, z, by omega, rfl, congrArg (Value.int .u32) HX.out, by omega, HG⟩
      case round =>
        clear HG HX
        obtain ⟨j, u, hj, rfl, rfl, hu, HG⟩ := hrel
        by_cases hj8 : j < 8
        · have hl := crcStep_lt u (by omega)
          have HG2 : Hid (G = 4294967295 - crc (crcIt (8 - (j + 1)) (crcStep u)) (s.data.toList.drop (k + 1))) := by show G = _; rw [HG.out, show 8 - j = (8 - (j + 1)) + 1 by omega]; rfl
          clear HG
          by_cases hodd : u % 2 = 1
          · have HS := show Hid _ from ref_step1 u (by omega) hodd
            have hb : ((u : Int) % 2 == 1) = true := by rw [beq_iff_eq]; omega
            clear hodd
            generalize crcStep u = u2 at HS hl HG2
            go_wp2
            go_round
            case rel => exact ⟨j + 1, u2, by omega, by go_num, congrArg (Value.int .u32) HS.out, by omega, HG2⟩
            case measure => simp [intOf]; omega
          · have HS := show Hid _ from ref_step0 u hodd
            have hb : ((u : Int) % 2 == 1) = false := by rw [beq_eq_false_iff_ne]; omega
            clear hodd
            generalize crcStep u = u2 at HS hl HG2
            go_wp2
            go_round
            case rel => exact ⟨j + 1, u2, by omega, by go_num, congrArg (Value.int .u32) HS.out, by omega, HG2⟩
            case measure => simp [intOf]; omega
        · have HG2 : Hid (G = 4294967295 - crc u (s.data.toList.drop (k + 1))) := by show G = _; rw [HG.out, show 8 - j = 0 by omega]; rfl
          clear HG
          go_wp2
          go_round
          case rel => exact ⟨k + 1, u, by omega, by go_num, rfl, by omega, HG2⟩
          case measure => simp [intOf]; omega
    · have HG : Hid (G = 4294967295 - y) := by show G = _; rw [hG.out, drop_none s k (by omega)]; rfl
      clear hG
      go_wp2
      go_ret
      exact ⟨ret_u32 (by rw [HG.out]; omega), rfl⟩
end Go.Proofs.YtedogofeibdjiaaGreat
namespace Go.Proofs.YtedogofeibdjiaaGreat
open Go.RowKit
set_option linter.unusedVariables false

set_option maxRecDepth 100000 in
set_option maxHeartbeats 800000 in
theorem ref_wide_in (n k : Nat) (w : World) (hn : n < 18446744073709551616) (h1 : 1 ≤ k) (h8 : k ≤ 8) :
    Calls Tryz.prog 92 #[.int .u64 n, .int .i64 k] w fun e w' => e = .returned (.tuple #[.string ⟨(wideR n k).toArray⟩, .int .i64 (wideE n k)]) ∧ Below w.heap.size w w' := by
  obtain ⟨i0, hi, hz0, hz1, hz2⟩ := info_parts info8
  have t1 : decide ((k : Int) < 1) = false := by simp; omega
  have t2 : decide (8 < (k : Int)) = false := by simp; omega
  have t3 : decide (8 < k) = false := by simp; omega
  go_enter Tryz.func92, Tryz.ntmps92
  go_wp2_with (first | (at_make; refine wpList_make_full _ rfl (.tmp 14) (.tmp 14) 46 rfl w.heap.size 5 i0 (.int .u8 0) 1 Tryz.underlying46 hi hz0 hz1 .i64 .i64 _ _ k rfl rfl rfl rfl ?c1 ?c2 (Nat.le_refl _) ?_))
  case c1 => rw [hz2]; omega
  case c2 => unfold maxLen; omega
  intro w2 hown0 hgrow
  have hB0 : Below w.heap.size w w2 := (Below.refl _ _).grown hgrow (Nat.le_refl _) (by intro k hk; cases hk)
  have hown : w2.ownsRow w.heap.size 5 1 (.slice (some ⟨w.heap.size, 0, none⟩) k k) k (bs (laidW n k 0)) := by
    have e : (madeCells #[Value.int .u8 0] k).toList = bs (laidW n k 0) := by
      rw [toList_madeCells_one]; simp [laidW, be, bs_zero]
    rw [e] at hown0; exact hown0
  clear hown0 hgrow
  generalize hg : w.heap.size = g at hown hB0 ⊢
  go_wp2
  go_loopw [0, 7] (fun c i wr => ∃ j m : Nat, j ≤ k ∧ i = .int .i64 ((k : Int) - 1 - j) ∧ c = .int .u64 m ∧ m ≤ 18446744073709551615 ∧ Hid (m = n / 256 ^ j) ∧ wr.ownsRow g 5 1 (.slice (some ⟨g, 0, none⟩) k k) k (bs (laidW n k j)) ∧ Below g w wr) (fun _ i _ => (intOf i + 1).toNat)
  case atStart => exact ⟨0, n, by omega, by simp, rfl, by omega, (by show n = _; simp), hown, hB0⟩
  case round =>
    clear hown hB0
    obtain ⟨j, m, hj, rfl, rfl, hm, HM, hown, hB⟩ := hrel
    by_cases hlt : j < k
    · obtain ⟨x0, hcell⟩ := row_cell hlt hown
      have hfz := hown.frozenAt (k - 1 - j)
      have R := rel_store hlt hown hB (show (m : Int) % 256 = _ by rw [HM.out]; simp)
      clear hown hB
      go_wp2
      go_roundw
      case rel => exact ⟨j + 1, m / 256, by omega, by go_num, by go_num, by omega, (by show m / 256 = _; rw [HM.out, Nat.div_div_eq_div_mul, Nat.pow_succ]), R.1, R.2⟩
      case measure => simp [intOf]; omega
    · have hjk : j = k := by omega
      subst hjk
      rw [laidW_full] at hown
      have hne : be n j ≠ [] := by intro h; have := be_len n j; rw [h] at this; simp at this; omega
      have hcv := convert_owned hown hne
      clear hown
      by_cases hf : n < 256 ^ j
      · have HW := show Hid _ from wide_yes n j h1 h8 hf
        have hb : ((m : Int) != 0) = false := by rw [HM.out, Nat.div_eq_of_lt hf]; rfl
        clear hf
        go_wp2
        go_ret2
        exact ⟨ret_wide (by rw [HW.out.1]) (by rw [HW.out.2]; rfl), by rw [hg]; exact hB⟩
      · have HW := show Hid _ from wide_no n j (by intro h; exact hf (by simpa using h.2.2))
        have hb : ((m : Int) != 0) = true := by
          have hp : 0 < n / 256 ^ j := Nat.div_pos (by omega) (Nat.pos_of_ne_zero (by simp))
          rw [← HM.out] at hp
          rw [bne_iff_ne]; omega
        clear hf
        go_wp2
        go_ret2
        exact ⟨ret_wide (by rw [HW.out.1]) (by rw [HW.out.2]; rfl), by rw [hg]; exact hB⟩

set_option maxRecDepth 100000 in
set_option maxHeartbeats 400000 in
theorem ref_wide_out (n : Nat) (k : Int) (w : World) (h : ¬ (1 ≤ k ∧ k ≤ 8)) :
    Calls Tryz.prog 92 #[.int .u64 n, .int .i64 k] w fun e w' => e = .returned (.tuple #[.string ⟨(wideR n k).toArray⟩, .int .i64 (wideE n k)]) ∧ Below w.heap.size w w' := by
  have HW := show Hid _ from wide_no n k (fun c => h ⟨c.1, c.2.1⟩)
  by_cases h0 : k < 1
  · clear h
    go_enter Tryz.func92, Tryz.ntmps92
    go_wp2
    go_ret2
    exact ⟨ret_wide (by rw [HW.out.1]) (by rw [HW.out.2]; rfl), Below.refl _ _⟩
  · have h2 : 8 < k := by omega
    clear h
    go_enter Tryz.func92, Tryz.ntmps92
    go_wp2
    go_ret2
    exact ⟨ret_wide (by rw [HW.out.1]) (by rw [HW.out.2]; rfl), Below.refl _ _⟩

theorem ref_wide_any (n : Nat) (k : Int) (w : World) (hn : n < 18446744073709551616) :
    Calls Tryz.prog 92 #[.int .u64 n, .int .i64 k] w fun e w' => e = .returned (.tuple #[.string ⟨(wideR n k).toArray⟩, .int .i64 (wideE n k)]) ∧ Below w.heap.size w w' := by
  by_cases h : 1 ≤ k ∧ k ≤ 8
  · obtain ⟨m, rfl⟩ := Int.eq_ofNat_of_zero_le (show 0 ≤ k by omega)
    exact ref_wide_in n m w hn (by omega) (by omega)
  · exact ref_wide_out n k w h
end Go.Proofs.YtedogofeibdjiaaGreat
namespace Go.Proofs.YtedogofeibdjiaaGreat
open Go.RowKit
set_option linter.unusedVariables false

theorem add_step (x c : Nat) (hx : x < 72057594037927936) (hc : c < 256) : IntKind.u64.wrap (IntKind.u64.wrap ((x : Int) * 256) + IntKind.u64.wrap (c : Int)) = ((x * 256 + c : Nat) : Int) := by
  rw [IntKind.wrap_u64, IntKind.wrap_u64, IntKind.wrap_u64]; omega

set_option maxRecDepth 100000 in
set_option maxHeartbeats 800000 in
theorem ref_readWide_ok (s : ByteArray) (a k : Nat) (w : World) (hs : s.size ≤ maxLen) (h1 : 1 ≤ k) (h8 : k ≤ 8) (h2 : a + k ≤ s.size) :
    Calls Tryz.prog 119 #[.string s, .int .i64 a, .int .i64 k] w fun e w' =>
      e = .returned (.tuple #[.int .u64 (rdW s a k).n, .int .i64 (endAt a (rdW s a k)), .int .i64 (rdW s a k).e]) ∧ w' = w := by
  unfold maxLen at hs
  have HG := show Hid _ from rdW_ok s a k h1 h8 h2
  generalize rdW s a k = G at HG ⊢
  have q1 : (k : Int) ≤ (s.size : Int) - a := by omega
  have q2 : (a : Int) ≤ s.size := by omega
  have t1 : decide ((s.size : Int) - a < k) = false := by simp; omega
  have t2 : decide ((k : Int) < 1) = false := by simp; omega
  have t3 : decide (8 < (k : Int)) = false := by simp; omega
  have t4 : decide ((a : Int) < 0) = false := by simp
  have t5 : decide ((s.size : Int) < (a : Int)) = false := by simp; omega
  have t6 : decide (s.size < a) = false := by simp; omega
  have t7 : decide (8 < k) = false := by simp; omega
  go_enter Tryz.func119, Tryz.ntmps119
  go_wp2
  go_loop [9, 10] (fun n i => ∃ (j x : Nat), j ≤ k ∧ i = .int .i64 ((a : Int) + j) ∧ n = .int .u64 x ∧ Hid (x = beN ((s.data.toList.drop a).take j))) (fun _ i => a + k - (intOf i).toNat)
  case atStart => exact ⟨0, 0, by omega, by simp, rfl, rfl⟩
  case round =>
    obtain ⟨j, x, hj, rfl, rfl, HX⟩ := hrel
    by_cases hlt : j < k
    · have hlt2 : a + j < s.size := by omega
      have HS := beN_step s a j hlt2
      have hx := beN_small s a j (by omega)
      rw [← HX.out] at hx HS
      generalize hidx : s[a + j] = c at HS
      have HS' := show Hid _ from HS c rfl
      have HO := show Hid _ from add_step x c.toNat hx (UInt8.toNat_lt c)
      clear HS hx
      have hq : (a : Int) + j < (a : Int) + k := by omega
      go_wp2
      go_round
      case rel => exact ⟨j + 1, x * 256 + c.toNat, by omega, by go_num, congrArg (Value.int .u64) HO.out, HS'.out.symm⟩
      case measure => simp [intOf]; omega
    · have hjk : j = k := by omega
      subst hjk
      go_wp2
      go_ret3
      exact ⟨ret_w (by rw [HG.out]; rw [HX.out]) (by rw [HG.out]; rfl) (by rw [HG.out]; rfl), rfl⟩

set_option maxRecDepth 100000 in
set_option maxHeartbeats 800000 in
theorem ref_readWide_end (s : ByteArray) (a : Nat) (k : Int) (w : World) (hs : s.size ≤ maxLen) (h : 1 ≤ k ∧ k ≤ 8) (ha : a ≤ s.size) (h2 : ¬ a + k ≤ s.size) :
    Calls Tryz.prog 119 #[.string s, .int .i64 a, .int .i64 k] w fun e w' =>
      e = .returned (.tuple #[.int .u64 (rdW s a k).n, .int .i64 (endAt a (rdW s a k)), .int .i64 (rdW s a k).e]) ∧ w' = w := by
  unfold maxLen at hs
  have HG := show Hid _ from rdW_end s a k ⟨h.1, h.2, by omega, by omega⟩ h2
  generalize rdW s a k = G at HG ⊢
  have q1 : (s.size : Int) - a < k := by omega
  have q2 := h.1
  have q3 := h.2
  clear h h2
  go_enter Tryz.func119, Tryz.ntmps119
  go_wp2
  go_ret3
  exact ⟨ret_w (by rw [HG.out]; rfl) (by rw [HG.out]; rfl) (by rw [HG.out]; rfl), rfl⟩

set_option maxRecDepth 100000 in
set_option maxHeartbeats 800000 in
theorem ref_readWide_arg (s : ByteArray) (a k : Int) (w : World) (h : ¬ (1 ≤ k ∧ k ≤ 8 ∧ 0 ≤ a ∧ a ≤ s.size)) :
    Calls Tryz.prog 119 #[.string s, .int .i64 a, .int .i64 k] w fun e w' =>
      e = .returned (.tuple #[.int .u64 (rdW s a k).n, .int .i64 (endAt a (rdW s a k)), .int .i64 (rdW s a k).e]) ∧ w' = w := by
  have HG := show Hid _ from rdW_arg s a k h
  generalize rdW s a k = G at HG ⊢
  by_cases k1 : k < 1
  · clear h
    go_enter Tryz.func119, Tryz.ntmps119
    go_wp2
    go_ret3
    exact ⟨ret_w (by rw [HG.out]; rfl) (by rw [HG.out]; rfl) (by rw [HG.out]; rfl), rfl⟩
  · by_cases k8 : 8 < k
    · clear h
      go_enter Tryz.func119, Tryz.ntmps119
      go_wp2
      go_ret3
      exact ⟨ret_w (by rw [HG.out]; rfl) (by rw [HG.out]; rfl) (by rw [HG.out]; rfl), rfl⟩
    · by_cases a0 : a < 0
      · clear h
        go_enter Tryz.func119, Tryz.ntmps119
        go_wp2
        go_ret3
        exact ⟨ret_w (by rw [HG.out]; rfl) (by rw [HG.out]; rfl) (by rw [HG.out]; rfl), rfl⟩
      · have a1 : (s.size : Int) < a := by omega
        clear h
        go_enter Tryz.func119, Tryz.ntmps119
        go_wp2
        go_ret3
        exact ⟨ret_w (by rw [HG.out]; rfl) (by rw [HG.out]; rfl) (by rw [HG.out]; rfl), rfl⟩

theorem ref_readWide_any (s : ByteArray) (a k : Int) (w : World) (hs : s.size ≤ maxLen) :
    Calls Tryz.prog 119 #[.string s, .int .i64 a, .int .i64 k] w fun e w' =>
      e = .returned (.tuple #[.int .u64 (rdW s a k).n, .int .i64 (endAt a (rdW s a k)), .int .i64 (rdW s a k).e]) ∧ w' = w := by
  by_cases h : 1 ≤ k ∧ k ≤ 8 ∧ 0 ≤ a ∧ a ≤ s.size
  · obtain ⟨b, rfl⟩ := Int.eq_ofNat_of_zero_le h.2.2.1
    by_cases h2 : b + k ≤ s.size
    · obtain ⟨m, rfl⟩ := Int.eq_ofNat_of_zero_le (show 0 ≤ k by omega)
      exact ref_readWide_ok s b m w hs (by omega) (by omega) (by omega)
    · exact ref_readWide_end s b k w hs ⟨h.1, h.2.1⟩ (by omega) h2
  · exact ref_readWide_arg s a k w h
end Go.Proofs.YtedogofeibdjiaaGreat
