/- Joined: The walk of the document's putting of a number: it calls itself, a byte at a time. The walk of the document's putting of a text. -/
import Derived.Test.YtlkidnfgodficaaGreatJoined01
import Derived.Deep.RegionWith
namespace Go.Proofs.YtlkidnfgodficaaGreat
open Go.RowKit
set_option linter.unusedVariables false

/-- 'string([]byte{x})': the slice has just been laid -/
theorem convert_one (w : World) (c : UInt8) (x : Int) (hx : x = c.toNat) (g : Nat) (hg : w.cell? ⟨g, 0, none⟩ = some (.int .u8 x)) :
    (convert 125 9 (.slice (some ⟨g, 0, none⟩) 1 1)).run Tryz.prog w = .ok (.string ⟨#[c]⟩) w := by
  subst hx
  refine run_convert_bytes_back w 125 9 5 _ 1 [c] Tryz.underlying125 Tryz.underlying5 Tryz.underlying9 ?_
  intro j hj
  match j, hj with
  | 0, _ => simpa [Addr.add_lit] using hg

set_option maxRecDepth 100000 in
set_option maxHeartbeats 400000 in
theorem ref_number_small (n : Nat) (w : World) (h128 : n < 128) :
    Calls Tryz.prog 36 #[.int .u64 n] w fun e w' => e = .returned (.string ⟨#[UInt8.ofNat n]⟩) ∧ Below w.heap.size w w' := by
  have HC := fun (W : World) => convert_one (W.alloc (.cells #[.int .u8 (n : Int)] 5)) (UInt8.ofNat n) n (byte_small n h128) W.heap.size (by simp)
  go_enter Tryz.func36, Tryz.ntmps36
  go_wp2_with fail
  go_ret
  exact ⟨rfl, (Below.refl _ _).alloc (Nat.le_refl _) _⟩

set_option maxRecDepth 100000 in
set_option maxHeartbeats 800000 in
theorem ref_number_f (f : Nat) : f ≤ 9 → ∀ (n : Nat) (w : World), n < 128 ^ (f + 1) → n < 18446744073709551616 →
    Calls Tryz.prog 36 #[.int .u64 n] w fun e w' => e = .returned (.string ⟨(putF f n).toArray⟩) ∧ Below w.heap.size w w' := by
  induction f with
  | zero => intro _ n w hn _; exact ref_number_small n w (by simpa using hn)
  | succ f ih =>
    intro hf n w hn hb
    by_cases h128 : n < 128
    · rw [putF_small _ _ h128]; exact ref_number_small n w h128
    · rw [putF_more _ _ h128]
      have hd : n / 128 < 128 ^ (f + 1) := by rw [Nat.pow_succ] at hn; omega
      have hq : IntKind.u64.wrap ((n : Int) / 128) = ((n / 128 : Nat) : Int) := by rw [IntKind.wrap_u64]; omega
      have hx : IntKind.u8.wrap (IntKind.u64.wrap ((n : Int).tmod 128 + 128)) = ((UInt8.ofNat (n % 128 + 128)).toNat : Int) := by
        rw [Int.tmod_eq_emod_of_nonneg (by omega), IntKind.wrap_u64, IntKind.wrap_u8]; simp
      have hl := (putF_len f (n / 128)).2
      have IH := show Hid _ from ih (by omega) (n / 128)
      clear ih hn
      have hm : n / 128 < 18446744073709551616 := by omega
      generalize n / 128 = m at hd hq IH hl hm ⊢
      generalize putF f m = L at IH hl ⊢
      generalize UInt8.ofNat (n % 128 + 128) = c at hx ⊢
      have HC := fun (W : World) => convert_one W c _ hx
      have HD := show Hid _ from hd
      have HM := show Hid _ from hm
      clear hd hx hm
      have hcat : ∀ (W : World), (Op.stringOp .add ⟨#[c]⟩ ⟨L.toArray⟩).run Tryz.prog W = .ok (.string ⟨(c :: L).toArray⟩) W := by
        intro W
        have h := run_string_add_sum (P := Tryz.prog) (w := W) ⟨#[c]⟩ ⟨L.toArray⟩ (by show 1 + L.toArray.size ≤ _; simp; omega)
        rw [h]
        have := ByteArray.mk_append_mk [c] L
        rw [show (ByteArray.mk #[c]) = ByteArray.mk [c].toArray from rfl, this]; rfl
      clear hl hf
      go_enter Tryz.func36, Tryz.ntmps36
      go_wp2_with fail
      go_region_with (go_at_call 36; refine (IH.out _ HD.out HM.out).mono ?_; rintro e w' ⟨rfl, hB⟩; have hcl := bcell hB)
      all_goals
        go_wp2_with fail
        go_ret
        refine ⟨rfl, ?_⟩
        first
          | exact (((Below.refl _ w).alloc (Nat.le_refl _) _).drew).trans (hB.mono (by simp))
          | exact (((Below.refl _ w).drew).trans hB).alloc hB.size _

theorem ref_number_any (n : Nat) (w : World) (hn : n < 18446744073709551616) :
    Calls Tryz.prog 36 #[.int .u64 n] w fun e w' => e = .returned (.string ⟨(put n).toArray⟩) ∧ Below w.heap.size w w' :=
  ref_number_f 9 (by omega) n w (Nat.lt_of_lt_of_le hn (by decide)) hn
end Go.Proofs.YtlkidnfgodficaaGreat
namespace Go.Proofs.YtlkidnfgodficaaGreat
open Go.RowKit
set_option linter.unusedVariables false

set_option maxRecDepth 100000 in
set_option maxHeartbeats 400000 in
theorem ref_text_any (s : ByteArray) (w : World) (hs : s.size ≤ reachBytes) :
    Calls Tryz.prog 37 #[.string s] w fun e w' => e = .returned (.string ⟨(ptx s).toArray⟩) ∧ Below w.heap.size w w' := by
  have hr : reachBytes + 4096 ≤ 140737488355328 := by decide
  have hpl := (put_len s.size).2
  have HQ := show Hid (ptx s = put s.size ++ s.data.toList) from rfl
  generalize ptx s = P at HQ ⊢
  have hm : s.size ≤ 140737488355328 := by omega
  have hcat : ∀ (W : World), (Op.stringOp .add ⟨(put s.size).toArray⟩ s).run Tryz.prog W = .ok (.string ⟨P.toArray⟩) W := by
    intro W
    have h := run_string_add_sum (P := Tryz.prog) (w := W) ⟨(put s.size).toArray⟩ s (by show (put s.size).toArray.size + _ ≤ _; simp; omega)
    rw [h]
    have := ByteArray.mk_append_mk (put s.size) s.data.toList
    rw [HQ.out, ← this]
  clear hpl
  go_enter Tryz.func37, Tryz.ntmps37
  go_wp2_with fail
  refine (ref_number_any s.size _ (by omega)).mono ?_
  rintro e w' ⟨rfl, hB⟩
  go_wp2
  go_ret
  exact ⟨rfl, hB⟩
end Go.Proofs.YtlkidnfgodficaaGreat
