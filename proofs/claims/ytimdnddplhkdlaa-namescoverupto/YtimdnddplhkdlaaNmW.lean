/- The small run ahead of each law. -/
import Derived.Test.YtimdnddplhkdlaaNmE
import Derived.Test.YtimdnddplhkdlaaNmR
namespace Go.Proofs.Ytimdnddplhkdlaa
open Go.RowKit Go.Shelf Go.Maps
set_option linter.unusedVariables false
set_option linter.unusedSimpArgs false

theorem its_awake : Its [] [47] [[99], [98, 47, 49], [97], [98, 47, 50]] (fun n => bytesBefore [] n) [([97], false), ([98, 47], true), ([99], false)] where
  srt := by
    refine List.Pairwise.cons ?_ (List.Pairwise.cons ?_ (List.Pairwise.cons ?_ List.Pairwise.nil))
    · intro x hx; simp at hx; rcases hx with rfl | rfl <;> rfl
    · intro x hx; simp at hx; subst hx; rfl
    · intro x hx; cases hx
  mem x := by
    have h1 : ofK [] [47] [99] = some ([99], false) := by decide
    have h2 : ofK [] [47] [98, 47, 49] = some ([98, 47], true) := by decide
    have h3 : ofK [] [47] [97] = some ([97], false) := by decide
    have h4 : ofK [] [47] [98, 47, 50] = some ([98, 47], true) := by decide
    constructor
    · intro hx
      simp only [List.mem_cons, List.not_mem_nil, or_false] at hx
      rcases hx with rfl | rfl | rfl
      · exact ⟨⟨[97], by simp, h3⟩, rfl⟩
      · exact ⟨⟨[98, 47, 49], by simp, h2⟩, rfl⟩
      · exact ⟨⟨[99], by simp, h1⟩, rfl⟩
    · rintro ⟨⟨k, hk, e⟩, _⟩
      simp only [List.mem_cons, List.not_mem_nil, or_false] at hk
      rcases hk with rfl | rfl | rfl | rfl
      · rw [h1] at e; injection e with e; subst e; simp
      · rw [h2] at e; injection e with e; subst e; simp
      · rw [h3] at e; injection e with e; subst e; simp
      · rw [h4] at e; injection e with e; subst e; simp
  len := by decide
theorem bkt_yes : bktOk [97, 46, 98] = true := by decide
theorem bkt_no : bktOk [97, 46, 46, 98] = false := by decide
set_option maxRecDepth 100000 in
set_option maxHeartbeats 2000000 in
theorem awake12 (w : World) (hm : MaxL w) : Calls Try.prog 8 #[] w fun e w' => e = .returned (.bool true) ∧ Keep (fun _ => False) w w' := by
  have k1 := keep_alloc (fun _ => False) w (.cells #[.string ⟨#[99]⟩, .string ⟨#[98, 47, 49]⟩, .string ⟨#[97]⟩, .string ⟨#[98, 47, 50]⟩] 9)
  have hR : RowIs (w.alloc (.cells #[.string ⟨#[99]⟩, .string ⟨#[98, 47, 49]⟩, .string ⟨#[97]⟩, .string ⟨#[98, 47, 50]⟩] 9)) w.heap.size [.string ⟨#[99]⟩, .string ⟨#[98, 47, 49]⟩, .string ⟨#[97]⟩, .string ⟨#[98, 47, 50]⟩] 9 := heap_alloc_new _ _
  have hS : Strs (w.alloc (.cells #[.string ⟨#[99]⟩, .string ⟨#[98, 47, 49]⟩, .string ⟨#[97]⟩, .string ⟨#[98, 47, 50]⟩] 9)) (.slice (some ⟨w.heap.size, 0, none⟩) 4 4) ([[99], [98, 47, 49], [97], [98, 47, 50]].map tb) := by
    refine .inr ⟨w.heap.size, 0, 4, rfl, by simp, fun j hj => ?_⟩
    rw [Nat.zero_add]
    simp at hj
    match j, hj with
    | 0, _ => exact hR.cellAt rfl
    | 1, _ => exact hR.cellAt rfl
    | 2, _ => exact hR.cellAt rfl
    | 3, _ => exact hR.cellAt rfl
  have HM1 := hid (hm.keep k1)
  have FA : Hid (Calls Try.prog 15 #[.slice (some ⟨w.heap.size, 0, none⟩) 4 4, .string ⟨#[]⟩, .string ⟨#[47]⟩, .string ⟨#[]⟩, .int .i64 9] (w.alloc (.cells #[.string ⟨#[99]⟩, .string ⟨#[98, 47, 49]⟩, .string ⟨#[97]⟩, .string ⟨#[98, 47, 50]⟩] 9)) fun e w' => ∃ g cap, e = .returned (.tuple #[.slice (some ⟨g, 0, none⟩) 3 cap, .bool false]) ∧ w'.cell? ⟨g, 2, none⟩ = some (.string ⟨#[98, 47]⟩) ∧ w'.cell? ⟨g, 3, none⟩ = some (.bool true) ∧ w'.cell? ⟨g, 4, none⟩ = some (.string ⟨#[99]⟩) ∧ w'.cell? ⟨g, 5, none⟩ = some (.bool false) ∧ Hid (Keep (fun _ => False) w w')) := by
    refine (fold_any [[99], [98, 47, 49], [97], [98, 47, 50]] [] [47] [] 9 _ _ hS HM1.out (by decide) (by decide)).mono ?_
    rintro e w' ⟨S, u, rfl, hI, hr, hk⟩
    have e1 : S = [([97], false), ([98, 47], true), ([99], false)] := hI.unique its_awake (fun _ => Iff.rfl)
    subst e1
    have ht : [([97], false), ([98, 47], true), ([99], false)].take (askN 9) = ([([97], false), ([98, 47], true), ([99], false)] : List It) := rfl
    rw [ht] at hr ⊢
    rcases hr.2 with ⟨_, h⟩ | ⟨g, cap, cur, rfl, _⟩
    · cases h
    · exact ⟨g, cap, rfl, grow_at hr rfl, grow_at hr rfl, grow_at hr rfl, grow_at hr rfl, k1.trans hk⟩
  have B1 : Hid (∀ W, MaxL W → Calls Try.prog 9 #[.string ⟨#[97, 46, 98]⟩] W fun e w' => e = .returned (.bool true) ∧ w' = W) := fun W h => by
    have := pbucket_any ⟨#[97, 46, 98]⟩ W h
    rw [show bktOk (⟨#[97, 46, 98]⟩ : ByteArray).data.toList = true from bkt_yes] at this
    exact this
  have B2 : Hid (∀ W, MaxL W → Calls Try.prog 9 #[.string ⟨#[97, 46, 46, 98]⟩] W fun e w' => e = .returned (.bool false) ∧ w' = W) := fun W h => by
    have := pbucket_any ⟨#[97, 46, 46, 98]⟩ W h
    rw [show bktOk (⟨#[97, 46, 46, 98]⟩ : ByteArray).data.toList = false from bkt_no] at this
    exact this
  have HM := hid hm
  have hg := guard39
  have q1 : ∀ W, (binOp .eql 39 (.agg #[.string ⟨#[98, 47]⟩, .bool true]) (.agg #[.string ⟨#[98, 47]⟩, .bool true])).run Try.prog W = .ok (.bool true) W := fun W => by
    rw [eql39]; simp
  have q2 : ∀ W, (binOp .eql 39 (.agg #[.string ⟨#[99]⟩, .bool false]) (.agg #[.string ⟨#[99]⟩, .bool false])).run Try.prog W = .ok (.bool true) W := fun W => by
    rw [eql39]; simp
  clear hR hS k1 HM1 hm
  go_enter Try.func8, Try.ntmps8
  go_wp2_with fail
  refine FA.out.mono ?_
  rintro e w2 ⟨g, cap, rfl, c2, c3, c4, c5, HK⟩
  have B3 := hid (B1.out w2 (HM.out.keep HK.out))
  have B4 := hid (B2.out w2 (HM.out.keep HK.out))
  clear FA B1 B2 HM
  go_wp2_with fail
  refine B3.out.mono ?_
  rintro e w3 ⟨rfl, rfl⟩
  go_wp2_with fail
  refine B4.out.mono ?_
  rintro e w3 ⟨rfl, rfl⟩
  go_wp2
  go_ret
  exact ⟨rfl, HK.out⟩
end Go.Proofs.Ytimdnddplhkdlaa
