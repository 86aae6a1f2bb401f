/- The walks of a disk's small questions. -/
import Derived.Test.YtnlodlpjokkepabNameW
import Derived.Test.YtnlodlpjokkepabTear
namespace Go.Proofs.Ytnlodlpjokkepab
open Go.RowKit Go.Maps
set_option linter.unusedVariables false
set_option linter.unusedSimpArgs false

theorem ret_int {a b : Int} (h : a = b) : Ending.returned (.int .i64 a) = .returned (.int .i64 b) := by rw [h]
theorem hid {p : Prop} (h : p) : Hid p := h
/-- a disk that is nil, or one whose mark says whether it is down -/
def DownIs (w : World) (dp : Value) (dn : Bool) : Prop := (dp = .pointer none ∧ dn = true) ∨ ∃ p, dp = .pointer (some ⟨p, 0, none⟩) ∧ w.cell? ⟨p, 9, none⟩ = some (.bool dn)

set_option maxRecDepth 100000 in
theorem down_any (dp : Value) (dn : Bool) (w : World) (h : DownIs w dp dn) : Calls Try.prog 35 #[dp] w fun e w' => e = .returned (.bool dn) ∧ w' = w := by
  rcases h with ⟨rfl, rfl⟩ | ⟨p, rfl, h⟩
  · go_enter Try.func35, Try.ntmps35
    go_wp2
    go_ret
    exact ⟨rfl, rfl⟩
  · go_enter Try.func35, Try.ntmps35
    go_wp2
    go_ret
    exact ⟨rfl, rfl⟩

/-- why nothing can be done -/
def refN (dn : Bool) (ns : List ByteArray) : Int := if dn then 21 else if ns.all (fun n => nameOk n.data.toList) then 0 else 20

set_option maxRecDepth 100000 in
set_option maxHeartbeats 1000000 in
theorem refuses_any (dp : Value) (dn : Bool) (g : Nat) (ns : List ByteArray) (w : World) (h : DownIs w dp dn) (hlen : ns.length ≤ 4611686018427387904) (hc : ∀ j (hj : j < ns.length), w.cell? ⟨g, j, none⟩ = some (.string ns[j])) :
    Calls Try.prog 45 #[dp, .slice (some ⟨g, 0, none⟩) ns.length ns.length] w fun e w' => e = .returned (.int .i64 (refN dn ns)) ∧ w' = w := by
  have HD := hid <| down_any dp dn w h
  have HC := hid <| hc
  clear h hc
  cases dn with
  | true =>
    unfold refN
    simp only [if_true]
    go_enter Try.func45, Try.ntmps45
    go_wp2_with fail
    refine HD.out.mono ?_
    rintro e w1 ⟨rfl, rfl⟩
    go_wp2
    go_ret
    exact ⟨rfl, rfl⟩
  | false =>
    have HS0 : Hid ((ns.take 0).all (fun n => nameOk n.data.toList) = true) := rfl
    have HR1 : Hid (ns.all (fun n => nameOk n.data.toList) = true → 0 = refN false ns) := by intro h; unfold refN; simp [h]
    have HR2 : Hid (ns.all (fun n => nameOk n.data.toList) = false → 20 = refN false ns) := by intro h; unfold refN; simp [h]
    generalize refN false ns = R at HR1 HR2 ⊢
    go_enter Try.func45, Try.ntmps45
    go_wp2_with fail
    refine HD.out.mono ?_
    rintro e w1 ⟨rfl, rfl⟩
    clear HD
    go_wp2
    go_loopw [11] (fun i wr => ∃ k : Nat, k ≤ ns.length ∧ i = .int .i64 k ∧ wr = w1 ∧ Hid ((ns.take k).all (fun n => nameOk n.data.toList) = true)) (fun i _ => ns.length - (intOf i).toNat)
    case atStart => exact ⟨0, by omega, rfl, rfl, HS0⟩
    case round =>
      clear HS0
      obtain ⟨k, hk, rfl, hwr, HA⟩ := hrel
      subst hwr
      by_cases hlt : k < ns.length
      · have hk0 : (0 : Int) ≤ (k : Int) := by omega
        have hk1 : (k : Int) < (ns.length : Int) := by omega
        have hcell := HC.out k hlt
        have HN := hid <| name_any ns[k] wr
        have HT : Hid ((ns.take (k + 1)).all (fun n => nameOk n.data.toList) = nameOk (ns[k]).data.toList) := by
          show _ = _
          rw [List.take_succ_eq_append_getElem hlt, List.all_append, HA.out]
          simp
        have HF : Hid (nameOk (ns[k]).data.toList = false → ns.all (fun n => nameOk n.data.toList) = false) := by
          intro hf
          rw [List.all_eq_false]
          exact ⟨ns[k], List.getElem_mem _, by rw [hf]; simp⟩
        generalize ns[k] = n at hcell HN HT HF
        cases hi : nameOk n.data.toList with
        | true =>
          have HN2 : Hid (Calls Try.prog 31 #[.string n] wr fun e w' => e = .returned (.bool true) ∧ w' = wr) := by have := HN.out; rw [hi] at this; exact this
          rw [hi] at HT
          clear hi HF HA HN
          go_wp2_with fail
          refine HN2.out.mono ?_
          rintro e w1 ⟨rfl, rfl⟩
          go_wp2
          exact ⟨⟨k + 1, by omega, by go_num, by trivial, HT⟩, by simp [intOf]; omega⟩
        | false =>
          have HN2 : Hid (Calls Try.prog 31 #[.string n] wr fun e w' => e = .returned (.bool false) ∧ w' = wr) := by have := HN.out; rw [hi] at this; exact this
          have HF2 : Hid (20 = R) := HR2.out (HF.out hi)
          clear hi HF HA HN HT HR1 HR2
          go_wp2_with fail
          refine HN2.out.mono ?_
          rintro e w1 ⟨rfl, rfl⟩
          go_wp2
          go_ret
          exact ⟨ret_int HF2.out, rfl⟩
      · have hd : decide ((k : Int) < (ns.length : Int)) = false := decide_eq_false (by omega)
        have HE : Hid (0 = R) := by
          have := HA.out
          rw [List.take_of_length_le (by omega)] at this
          exact HR1.out this
        clear HA HR1 HR2
        go_wp2
        go_ret
        exact ⟨ret_int HE.out, rfl⟩
end Go.Proofs.Ytnlodlpjokkepab
