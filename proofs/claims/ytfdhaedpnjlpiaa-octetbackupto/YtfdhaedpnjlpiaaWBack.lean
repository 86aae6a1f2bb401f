/- The walk of the law OctetBack, of arguments of bulk up to 1048576: it answers true. -/
import Derived.Test.YtfdhaedpnjlpiaaAwake1
import Derived.Test.YtfdhaedpnjlpiaaBackM
import Derived.Test.YtfdhaedpnjlpiaaSame
import Derived.Deep.RegionHeld3
namespace Go.Proofs.Ytfdhaedpnjlpiaa
open Go.RowKit
set_option linter.unusedVariables false

/-- what is held of the world while the bytes are put together -/
def HeldB (w0 : World) (v : Value) (l : List ByteArray) (W : World) : Prop := Strs W v l ∧ Below w0.heap.size w0 W
theorem HeldB.next {w0 W W' : World} {v : Value} {l : List ByteArray} (h : HeldB w0 v l W) (hB : Below W.heap.size W W') : HeldB w0 v l W' := ⟨h.1.below hB, h.2.trans (hB.mono h.2.size)⟩
theorem HeldB.strs {w0 W : World} {v : Value} {l : List ByteArray} (h : HeldB w0 v l W) : Strs W v l := h.1
theorem HeldB.below {w0 W : World} {v : Value} {l : List ByteArray} (h : HeldB w0 v l W) : Below w0.heap.size w0 W := h.2
theorem cell_next {W W' : World} {g o : Nat} {x : Value} (hB : Below W.heap.size W W') (h : W.cell? ⟨g, o, none⟩ = some x) : W'.cell? ⟨g, o, none⟩ = some x :=
  (hB.cell (p := ⟨g, o, none⟩) (World.block_lt_of_cell? W ⟨g, o, none⟩ h)).trans h

theorem heldAll_next {w0 W W' : World} {v : Value} {l : List ByteArray} {g : Nat} {a0 a1 : ByteArray} (h : W.cell? ⟨g, 0, none⟩ = some (.string a0) ∧ W.cell? ⟨g, 1, none⟩ = some (.string a1) ∧ HeldB w0 v l W) (hB : Below W.heap.size W W') :
    W'.cell? ⟨g, 0, none⟩ = some (.string a0) ∧ W'.cell? ⟨g, 1, none⟩ = some (.string a1) ∧ HeldB w0 v l W' := ⟨cell_next hB h.1, cell_next hB h.2.1, h.2.2.next hB⟩
theorem heldAll_strs {w0 W : World} {v : Value} {l : List ByteArray} {g : Nat} {a0 a1 : ByteArray} (h : W.cell? ⟨g, 0, none⟩ = some (.string a0) ∧ W.cell? ⟨g, 1, none⟩ = some (.string a1) ∧ HeldB w0 v l W) : Strs W v l := h.2.2.1
theorem heldAll_below {w0 W : World} {v : Value} {l : List ByteArray} {g : Nat} {a0 a1 : ByteArray} (h : W.cell? ⟨g, 0, none⟩ = some (.string a0) ∧ W.cell? ⟨g, 1, none⟩ = some (.string a1) ∧ HeldB w0 v l W) : Below w0.heap.size w0 W := h.2.2.2

theorem room_mem (l : List ByteArray) (x : ByteArray) (h : x ∈ l) : x.size ≤ room l := by
  induction l with
  | nil => cases h
  | cons y r ih =>
    simp only [room, List.map_cons, List.sum_cons] at ih ⊢
    rcases List.mem_cons.1 h with h | h
    · subst h; omega
    · have := ih h; omega
theorem room_len (l : List ByteArray) : 10 * l.length ≤ room l := by
  induction l with
  | nil => simp [room]
  | cons y r ih => simp only [room, List.map_cons, List.sum_cons, List.length_cons] at ih ⊢; omega
theorem pls_len (l : List ByteArray) : (pls l).length ≤ room l + 10 := by
  have h1 := flat_len l
  have h2 := (put_len l.length).2
  rw [pls, List.length_append]; omega
theorem cat4 (a c : ByteArray) (N L : List UInt8) : (((a ++ ByteArray.mk N.toArray) ++ ByteArray.mk L.toArray) ++ c).data.toList = a.data.toList ++ (N ++ (L ++ c.data.toList)) := by simp [ByteArray.data_append]

/-- what was put is taken again: the two readings -/
theorem back_reads (a0 a1 : ByteArray) (n : Nat) (l : List ByteArray) (hn : n < 18446744073709551616) (h0 : a0.size ≤ 1048576) (h1 : a1.size ≤ 1048576) (hl : room l ≤ 10485760) : ∃ (N L : ByteArray) (p q : Nat),
    N = ⟨(put n).toArray⟩ ∧ L = ⟨(pls l).toArray⟩ ∧ N.size ≤ 10 ∧ L.size ≤ 10485770 ∧ q = a0.size + N.size + L.size ∧
    (∀ w, Calls Try.prog 9 #[.string (((a0 ++ N) ++ L) ++ a1), .int .i64 a0.size] w fun e w' => e = .returned (.tuple #[.int .u64 n, .int .i64 p, .int .i64 0]) ∧ w' = w) ∧
    (∀ w, Calls Try.prog 18 #[.string (((a0 ++ N) ++ L) ++ a1), .int .i64 p] w fun e w' => ∃ v, e = .returned (.tuple #[v, .int .i64 q, .int .i64 0]) ∧ Strs w' v l ∧ Below w.heap.size w w') := by
  have hpl := put_len n
  have hll := pls_len l
  have hrl := room_len l
  have hN : (ByteArray.mk (put n).toArray).size = (put n).length := by show (put n).toArray.size = _; simp
  have hL : (ByteArray.mk (pls l).toArray).size = (pls l).length := by show (pls l).toArray.size = _; simp
  have hs := cat4 a0 a1 (put n) (pls l)
  have hz : ((((a0 ++ ByteArray.mk (put n).toArray) ++ ByteArray.mk (pls l).toArray) ++ a1)).size = a0.size + (put n).length + (pls l).length + a1.size := by
    rw [ByteArray.size_append, ByteArray.size_append, ByteArray.size_append, hN, hL]
  have ha : a0.data.toList.length = a0.size := by simp
  refine ⟨_, _, a0.size + (put n).length, a0.size + (put n).length + (pls l).length, rfl, rfl, by omega, by omega, by omega, ?_, ?_⟩
  · intro w
    have h := readNumber_any (((a0 ++ ByteArray.mk (put n).toArray) ++ ByteArray.mk (pls l).toArray) ++ a1) (a0.size : Int) w (by rw [hz]; unfold maxLen; omega)
    have e := rdAt_put _ a0.data.toList (pls l ++ a1.data.toList) n hs hn
    rw [ha] at e
    rw [e] at h
    exact h
  · intro w
    have h := readList_any (((a0 ++ ByteArray.mk (put n).toArray) ++ ByteArray.mk (pls l).toArray) ++ a1) ((a0.size + (put n).length : Nat) : Int) w (by rw [hz]; omega)
    have e := lstAt_put (((a0 ++ ByteArray.mk (put n).toArray) ++ ByteArray.mk (pls l).toArray) ++ a1) (a0.data.toList ++ put n) a1.data.toList l (by rw [hs]; simp) (by omega) (fun x hx => by have := room_mem l x hx; omega)
    rw [List.length_append, ha] at e
    rw [e] at h
    exact h.mono fun r w' ⟨v, a, b, c⟩ => ⟨v, a, Strs.own b, c⟩

set_option maxRecDepth 100000 in
set_option maxHeartbeats 4000000 in
theorem octetBack_core (n : Nat) (v : Value) (l : List ByteArray) (a0 a1 : ByteArray) (w : World) (hn : n < 18446744073709551616) (hv : Strs w v l) (hl : room l ≤ 10485760) (h0 : a0.size ≤ 1048576) (h1 : a1.size ≤ 1048576) :
    Calls Try.prog 8 #[.int .u64 n, v, .agg #[.string a0, .string a1]] w fun e w' => e = .returned (.bool true) ∧ Below w.heap.size w w' := by
  obtain ⟨N, L, p, q, hN, hL, hNs, hLs, hq, HR, HL⟩ := back_reads a0 a1 n l hn h0 h1 hl
  have HN := show Hid (∀ w, Calls Try.prog 12 #[.int .u64 n] w fun e w' => e = .returned (.string N) ∧ Below w.heap.size w w') from fun w => by rw [hN]; exact number_any n w hn
  have hrl := room_len l
  have HLL := show Hid (∀ w, Strs w v l → Calls Try.prog 20 #[v] w fun e w' => e = .returned (.string L) ∧ Below w.heap.size w w') from fun w h => by rw [hL]; exact list_any v l w h (by omega) (by omega)
  have HR' := show Hid _ from HR
  have HL' := show Hid _ from HL
  have HXL := show Hid (l.length ≤ 140737488355328) from by show _ ≤ _; omega
  have HQ := show Hid _ from hq
  have hV0 : Strs (w.alloc (.cells #[.string a0, .string a1] 77)) v l := hv.below ((Below.refl _ _).alloc (Nat.le_refl _) _)
  have HV0 := show Hid _ from hV0
  have hc1 : ∀ (W : World), (Op.stringOp .add a0 N).run Try.prog W = .ok (.string (a0 ++ N)) W := fun W => run_string_add_sum (P := Try.prog) (w := W) a0 N (by omega)
  have hc2 : ∀ (W : World), (Op.stringOp .add (a0 ++ N) L).run Try.prog W = .ok (.string (a0 ++ N ++ L)) W := fun W => run_string_add_sum (P := Try.prog) (w := W) (a0 ++ N) L (by rw [ByteArray.size_append]; omega)
  have hc3 : ∀ (W : World), (Op.stringOp .add (a0 ++ N ++ L) a1).run Try.prog W = .ok (.string (a0 ++ N ++ L ++ a1)) W := fun W => run_string_add_sum (P := Try.prog) (w := W) (a0 ++ N ++ L) a1 (by rw [ByteArray.size_append, ByteArray.size_append]; omega)
  have hcz : (a0 ++ N ++ L ++ a1).size = a0.size + N.size + L.size + a1.size := by rw [ByteArray.size_append, ByteArray.size_append, ByteArray.size_append]
  clear hN hL HR HL hv hn hl hq hV0 hrl
  go_enter Try.func8, Try.ntmps8
  go_wp2_with fail
  have hS0 : (w.alloc (.cells #[.string a0, .string a1] 77)).drew.cell? ⟨w.heap.size, 0, none⟩ = some (.string a0) ∧ (w.alloc (.cells #[.string a0, .string a1] 77)).drew.cell? ⟨w.heap.size, 1, none⟩ = some (.string a1) ∧ HeldB (w.alloc (.cells #[.string a0, .string a1] 77)) v l (w.alloc (.cells #[.string a0, .string a1] 77)).drew :=
    ⟨by simp, by simp, Strs.below HV0.out ((Below.refl _ _).drew), (Below.refl _ _).drew⟩
  generalize hW0 : w.alloc (.cells #[.string a0, .string a1] 77) = W0 at hS0 ⊢
  go_region_held3 (fun W => W.cell? ⟨w.heap.size, 0, none⟩ = some (.string a0) ∧ W.cell? ⟨w.heap.size, 1, none⟩ = some (.string a1) ∧ HeldB W0 v l W) (assumption) (first
    | (go_at_call 12; refine (HN.out _).mono ?_; rintro e w4 ⟨rfl, hB4⟩; have hS4 := heldAll_next (g := w.heap.size) (a0 := a0) (a1 := a1) (w0 := W0) (v := v) (l := l) (by assumption) hB4; clear hB4)
    | (go_at_call 20; refine (HLL.out _ (heldAll_strs (g := w.heap.size) (a0 := a0) (a1 := a1) (w0 := W0) (by assumption))).mono ?_; rintro e w5 ⟨rfl, hB5⟩; have hS5 := heldAll_next (g := w.heap.size) (a0 := a0) (a1 := a1) (w0 := W0) (v := v) (l := l) (by assumption) hB5; clear hB5))
  have hzS : ((a0 ++ N ++ L ++ a1).size : Int) - (a1.size : Int) = (q : Int) := by rw [hcz, HQ.out]; omega
  have HZS := show Hid _ from hzS
  have hzb : (a0 ++ N ++ L ++ a1).size ≤ 100000000 := by rw [hcz]; omega
  generalize a0 ++ N ++ L ++ a1 = S at HR' HL' HZS hzb hc3 ⊢
  have HS5 := show Hid _ from heldAll_below hS5
  clear hc1 hc2 hc3 hcz hzS hS0 hS4
  go_wp2_with fail
  refine (HR'.out _).mono ?_
  rintro e w' ⟨rfl, rfl⟩
  go_wp2_with fail
  refine (HL'.out _).mono ?_
  rintro e w6 ⟨y, rfl, hy, hB6⟩
  have hS6 := heldAll_next hS5 hB6
  have hy' := show Hid _ from hy
  clear hS5 hy
  go_wp2_with fail
  refine (awake1 _).mono ?_
  rintro e w7 ⟨rfl, hB7⟩
  have hS7 := heldAll_next hS6 hB7
  clear hS6
  go_wp2_with fail
  refine (same_any y v l _ (Strs.below hy'.out hB7) (heldAll_strs hS7) HXL.out).mono ?_
  rintro e w8 ⟨rfl, hB8⟩
  have hS8 := heldAll_next hS7 hB8
  clear hS7
  have hfin := HZS.out
  go_wp2
  go_ret
  subst hW0
  exact ⟨rfl, ((Below.refl w.heap.size w).alloc (Nat.le_refl _) _).trans ((heldAll_below hS8).mono (by simp))⟩

theorem octetBack_walk (n : Int) (v : Value) (l : List ByteArray) (a0 a1 : ByteArray) (w : World) (hn : (Lit.int .u64 n).wf = true) (hv : Strs w v l) (hl : room l ≤ 10485760) (h0 : a0.size ≤ 1048576) (h1 : a1.size ≤ 1048576) :
    Calls Try.prog 8 #[.int .u64 n, v, .agg #[.string a0, .string a1]] w fun e w' => e = .returned (.bool true) ∧ Below w.heap.size w w' := by
  have hx : 0 ≤ n ∧ n ≤ 18446744073709551615 := by simpa [Lit.wf, IntKind.min, IntKind.max, IntKind.signed, IntKind.bits] using hn
  obtain ⟨k, rfl⟩ := Int.eq_ofNat_of_zero_le hx.1
  exact octetBack_core k v l a0 a1 w (by omega) hv hl h0 h1
end Go.Proofs.Ytfdhaedpnjlpiaa
