/- The small run of layer 9: awake answers true. -/
import Derived.Test.YtghcijliknahdaaConfP
namespace Go.Proofs.Ytghcijliknahdaa
open Go.RowKit Go.Maps
set_option linter.unusedVariables false
set_option linter.unusedSimpArgs false

theorem row_ints {w : World} {g cap : Nat} {t : TypeId} {l : List Int} (h : RowIs w g (isC l) t) : IntsI w (.slice (some ⟨g, 0, none⟩) l.length cap) l :=
  .inr ⟨g, 0, cap, rfl, h.lt, fun j hj => by rw [Nat.zero_add]; exact h.cellAt (isC_get l j hj)⟩
theorem row_last (w : World) (cs : List Value) (t : TypeId) (n : Nat) (hn : n = w.heap.size) : RowIs (w.alloc (.cells cs.toArray t)) n cs t := by subst hn; exact srow w cs t
theorem row_old {w : World} {g : Nat} {cs : List Value} {t : TypeId} (h : RowIs w g cs t) (o : Obj) : RowIs (w.alloc o) g cs t := h.keep (keep_alloc (fun _ => False) _ _) (fun h => h)
theorem below_al {w W : World} (h : Below w.heap.size w W) (o : Obj) : Below w.heap.size w (W.alloc o) := h.alloc h.size o
theorem below_on {w W W' : World} (h : Below w.heap.size w W) (k : Below W.heap.size W W') : Below w.heap.size w W' := h.trans (k.mono h.size)
set_option maxRecDepth 100000 in
set_option maxHeartbeats 1000000 in
theorem awake9 (w : World) : Calls Try.prog 9 #[] w fun e w' => e = .returned (.bool true) ∧ Below w.heap.size w w' := by
  have MJ : Hid (∀ W g, RowIs W g (isC [0, 2, 5]) 3 → Calls Try.prog 14 #[.slice (some ⟨g, 0, none⟩) 3 3] W fun e w' => e = .returned (.int .i64 2) ∧ w' = W) := fun W g h => (cmaj_any _ [0, 2, 5] W (row_ints (cap := 3) h) (by decide)).mono fun e w' ⟨he, hw⟩ => ⟨by rw [he]; rfl, hw⟩
  have E1 : Hid (∀ W g h, RowIs W g (isC [0, 2, 5]) 3 → RowIs W h (isC [5, 0]) 3 → Calls Try.prog 16 #[.slice (some ⟨g, 0, none⟩) 3 3, .slice (some ⟨h, 0, none⟩) 2 2] W fun e w' => e = .returned (.bool true) ∧ w' = W) := fun W g h h1 h2 => (cenough_any _ _ [0, 2, 5] [5, 0] W (row_ints (cap := 3) h1) (row_ints (cap := 2) h2) (by decide) (by decide)).mono fun e w' ⟨he, hw⟩ => ⟨by rw [he]; rfl, hw⟩
  have E2 : Hid (∀ W g h, RowIs W g (isC [0, 2, 5]) 3 → RowIs W h (isC [5, 5, 1]) 3 → Calls Try.prog 16 #[.slice (some ⟨g, 0, none⟩) 3 3, .slice (some ⟨h, 0, none⟩) 3 3] W fun e w' => e = .returned (.bool false) ∧ w' = W) := fun W g h h1 h2 => (cenough_any _ _ [0, 2, 5] [5, 5, 1] W (row_ints (cap := 3) h1) (row_ints (cap := 3) h2) (by decide) (by decide)).mono fun e w' ⟨he, hw⟩ => ⟨by rw [he]; rfl, hw⟩
  have RC : Hid (∀ W g h, RowIs W g (isC [0, 2, 5]) 3 → RowIs W h (isC [7, 9, 4, 9, 9, 1]) 3 → Calls Try.prog 31 #[.slice (some ⟨g, 0, none⟩) 3 3, .slice (some ⟨h, 0, none⟩) 6 6] W fun e w' => e = .returned (.int .i64 4) ∧ Below W.heap.size W w') := fun W g h h1 h2 => (creached_any _ _ [0, 2, 5] [7, 9, 4, 9, 9, 1] W (row_ints (cap := 3) h1) (row_ints (cap := 6) h2) (by decide)).mono fun e w' ⟨he, hw⟩ => ⟨by rw [he, rch_eq]; rfl, hw⟩
  go_enter Try.func9, Try.ntmps9
  go_wp2_with fail
  refine (MJ.out _ _ (row_last w (isC [0, 2, 5]) 3 _ (by first | rfl | simp))).mono ?_
  rintro e w1 ⟨rfl, rfl⟩
  go_wp2_with fail
  refine (E1.out _ _ _ (row_old (row_last _ (isC [0, 2, 5]) 3 _ (by simp)) _) (row_last _ (isC [5, 0]) 3 _ (by simp))).mono ?_
  rintro e w1 ⟨rfl, rfl⟩
  go_wp2_with fail
  refine (E2.out _ _ _ (row_old (row_last _ (isC [0, 2, 5]) 3 _ (by simp)) _) (row_last _ (isC [5, 5, 1]) 3 _ (by simp))).mono ?_
  rintro e w1 ⟨rfl, rfl⟩
  go_wp2_with fail
  refine (RC.out _ _ _ (row_old (row_last _ (isC [0, 2, 5]) 3 _ (by simp)) _) (row_last _ (isC [7, 9, 4, 9, 9, 1]) 3 _ (by simp))).mono ?_
  rintro e w1 ⟨rfl, h1⟩
  have H1 := hid (below_on (below_al (below_al (below_al (below_al (below_al (below_al (below_al (Below.refl w.heap.size w) _) _) _) _) _) _) _) h1)
  clear h1
  go_wp2
  go_ret
  exact ⟨rfl, H1.out⟩
end Go.Proofs.Ytghcijliknahdaa
