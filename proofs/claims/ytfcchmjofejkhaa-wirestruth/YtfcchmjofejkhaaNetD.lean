/- Packets that go: slices.IndexFunc and slices.DeleteFunc on a net's list. -/
import Derived.Test.YtfcchmjofejkhaaNetT
import Derived.Lib.SliceRun
namespace Go.Proofs.Ytfcchmjofejkhaa
open Go.RowKit Go.Maps
set_option linter.unusedVariables false
set_option linter.unusedSimpArgs false

/-- a row that lies at g, and its cells -/
theorem row_cells {w : World} {v : Value} {R : List Pk} {n : Nat} (h : w.ownsRow 0 33 3 v n (pks R)) (k : Nat) (hk : k < R.length) : ∃ g cap, v = .slice (some ⟨g, 0, none⟩) n cap ∧ g < w.heap.size ∧ (w.cell? ⟨g, k * 3, none⟩ = some (.int .i64 R[k].fr) ∧ w.cell? ⟨g, k * 3 + 1, none⟩ = some (.int .i64 R[k].tt) ∧ w.cell? ⟨g, k * 3 + 2, none⟩ = some (.string R[k].s)) ∧ ∀ o, w.frozen? ⟨g, o, none⟩ = false := by
  have hl := h.1
  rw [pks_len] at hl
  rcases h.2 with ⟨e, h0⟩ | ⟨g, cap, cur, e, hg, hb, r⟩
  · omega
  · subst e
    refine ⟨g, cap, rfl, (Array.getElem?_eq_some_iff.1 hb).1, ⟨grow_at h (pks_get R k hk 0 (by omega)), grow_at h (pks_get R k hk 1 (by omega)), grow_at h (pks_get R k hk 2 (by omega))⟩, fun o => ?_⟩
    unfold World.frozen?; rw [hb]; simp
theorem pks_set : ∀ (R : List Pk) (i : Nat) (x : Pk), i < R.length → ((((pks R).set (i * 3) (.int .i64 x.fr)).set (i * 3 + 1) (.int .i64 x.tt)).set (i * 3 + 2) (.string x.s)) = pks (R.set i x)
  | y :: r, 0, x, _ => rfl
  | y :: r, i + 1, x, h => by
    have ih := pks_set r i x (by simpa using h)
    rw [pks_cons, List.set_cons_succ, pks_cons, ← ih]
    have e : (pkC y).length = 3 := rfl
    rw [List.set_append_right _ _ (by omega), List.set_append_right _ _ (by omega), List.set_append_right _ _ (by omega)]
    simp only [e]
    rw [show (i + 1) * 3 - 3 = i * 3 by omega, show (i + 1) * 3 + 1 - 3 = i * 3 + 1 by omega, show (i + 1) * 3 + 2 - 3 = i * 3 + 2 by omega]
theorem own_set {w : World} {n g cap o : Nat} {xs : List Value} {u : Value} (h : w.ownsRow 0 33 3 (.slice (some ⟨g, 0, none⟩) n cap) n xs) (ho : o < xs.length) : (w.setCell ⟨g, o, none⟩ u).ownsRow 0 33 3 (.slice (some ⟨g, 0, none⟩) n cap) n (xs.set o u) := by
  obtain ⟨h1, h2⟩ := h
  rcases h2 with ⟨e, _⟩ | ⟨g', cap', cur, e, hg, hb, hn, hm, hs, ht⟩
  · injection e with e; cases e
  · injection e with e1 e2 e3
    injection e1 with e1
    injection e1 with e1
    subst e1 e3
    refine ⟨by rw [List.length_set]; exact h1, .inr ⟨g, cap, cur.setIfInBounds o u, rfl, hg, heap_setCell_same _ _ _ _ _ _ hb, hn, hm, by simpa using hs, ?_⟩⟩
    rw [← ht]
    simp only [Array.toList_setIfInBounds]
    rw [List.take_set]
theorem own_set3 {w : World} {n g cap i : Nat} {R : List Pk} {x : Pk} (h : w.ownsRow 0 33 3 (.slice (some ⟨g, 0, none⟩) n cap) n (pks R)) (hi : i < R.length) : (((w.setCell ⟨g, i * 3, none⟩ (.int .i64 x.fr)).setCell ⟨g, i * 3 + 1, none⟩ (.int .i64 x.tt)).setCell ⟨g, i * 3 + 2, none⟩ (.string x.s)).ownsRow 0 33 3 (.slice (some ⟨g, 0, none⟩) n cap) n (pks (R.set i x)) := by
  have hl := pks_len R
  rw [← pks_set R i x hi]
  refine own_set (own_set (own_set h ?_) ?_) ?_
  · omega
  · rw [List.length_set]; omega
  · rw [List.length_set, List.length_set]; omega
/-- the front of a row, whatever is written behind it -/
theorem own_front {w : World} {n g cap i : Nat} {R : List Pk} {vs : List Value} (h : w.ownsRow 0 33 3 (.slice (some ⟨g, 0, none⟩) n cap) n (pks R)) (hn : R.length = n) (hi : i ≤ n) : (w.setCells g (i * 3) vs).ownsRow 0 33 3 (.slice (some ⟨g, 0, none⟩) i cap) i (pks (R.take i)) := by
  obtain ⟨h1, h2⟩ := h
  rcases h2 with ⟨e, _⟩ | ⟨g', cap', cur, e, hg, hb, hn2, hm, hs, ht⟩
  · injection e with e; cases e
  · injection e with e1 e2 e3
    injection e1 with e1
    injection e1 with e1
    subst e1 e3
    have key : ∀ (vs : List Value) (o : Nat) (cur : Array Value) (w : World), i * 3 ≤ o → w.heap[g]? = some (.cells cur 33 (0, 0)) → ∃ cur', (w.setCells g o vs).heap[g]? = some (.cells cur' 33 (0, 0)) ∧ cur'.size = cur.size ∧ cur'.toList.take (i * 3) = cur.toList.take (i * 3) := by
      intro vs
      induction vs with
      | nil => intro o cur w _ hb; exact ⟨cur, hb, rfl, rfl⟩
      | cons v r ih =>
        intro o cur w ho hb
        obtain ⟨c', g1, g2, g3⟩ := ih (o + 1) (cur.setIfInBounds o v) (w.setCell ⟨g, o, none⟩ v) (by omega) (heap_setCell_same _ _ _ _ _ _ hb)
        refine ⟨c', g1, by rw [g2]; simp, ?_⟩
        rw [g3, Array.toList_setIfInBounds, List.take_set_of_le (by omega)]
    obtain ⟨c', g1, g2, g3⟩ := key vs (i * 3) cur w (Nat.le_refl _) hb
    refine ⟨by rw [pks_len, List.length_take]; omega, .inr ⟨g, cap, c', rfl, hg, g1, by omega, hm, by rw [g2]; exact hs, ?_⟩⟩
    rw [g3, ← pks_take, ← ht, List.take_take]
    congr 1
    omega
set_option maxRecDepth 100000 in
set_option maxHeartbeats 2000000 in
theorem index_any (f : FuncId) (cv : Value) (G : Pk → Bool) (L : List Pk) (v : Value) (w : World) (hcf : ∀ xs W, (callFunc f xs).run Try.prog W = .ok (.enter f xs) W) (hr : w.ownsRow 0 33 3 v L.length (pks L)) (hl : L.length ≤ 8192)
    (hf : ∀ x ∈ L, ∀ W, Keep (fun j => v.ownBlock = some j) w W → Calls Try.prog f #[pkV x, cv] W fun e w' => e = .returned (.bool (G x)) ∧ Keep (fun _ => False) W w') :
    Calls Try.prog 47 #[v, .func (.func f) #[] #[cv]] w fun e w' => (∃ r : Int, e = .returned (.int .i64 r) ∧ ((r = -1 ∧ ∀ x ∈ L, G x = false) ∨ ∃ (i : Nat) (h : i < L.length), r = (i : Int) ∧ G L[i] = true ∧ ∀ m (hm : m < i), G (L[m]'(by omega)) = false)) ∧ Keep (fun _ => False) w w' := by
  obtain ⟨ad, cap, rfl⟩ := row_form hr
  have HF := hid hf
  have HR := hid hr
  clear hf hr
  go_enter Try.func47, Try.ntmps47
  go_wp2
  go_loopw [8] (fun i wr => ∃ k : Nat, k ≤ L.length ∧ i = .int .i64 (k : Int) ∧ Hid (∀ m (hm : m < L.length), m < k → G L[m] = false) ∧ Hid (Keep (fun _ => False) w wr)) (fun i _ => L.length - (intOf i).toNat)
  case atStart => exact ⟨0, Nat.zero_le _, rfl, fun m _ hm => by omega, Keep.refl _ _⟩
  case round =>
    obtain ⟨k, hk, rfl, HN, HK⟩ := hrel
    by_cases hlt : k < L.length
    · have hk0 : (0 : Int) ≤ (k : Int) := by omega
      have hk1 : (k : Int) < (L.length : Int) := by omega
      have hwk : wrap64 ((k : Int) + 1) = (k : Int) + 1 := IntWalk.wrap64_in _ (by omega)
      obtain ⟨g, cap', hv, hg, ⟨x0, x1, x2⟩, _⟩ := row_cells (HK.out.ownsRow HR.out (fun _ _ h => h)) k hlt
      injection hv with hv1 hv2 hv3
      subst hv1 hv3
      have C := hid (HF.out L[k] (List.getElem_mem hlt) wr (HK.out.mono (fun _ _ h => h.elim)))
      have HN2 : Hid (G L[k] = false → ∀ m (hm : m < L.length), m < k + 1 → G L[m] = false) := fun h m hm h2 => by
        by_cases e : m = k
        · subst e; exact h
        · exact HN.out m hm (by omega)
      have HY : Hid (G L[k] = true → ∃ (i : Nat) (h : i < L.length), (k : Int) = (i : Int) ∧ G L[i] = true ∧ ∀ m (hm : m < i), G (L[m]'(by omega)) = false) := fun h => ⟨k, hlt, rfl, h, fun m hm => HN.out m (by omega) hm⟩
      generalize G L[k] = b at *
      generalize L[k] = x at *
      obtain ⟨fr, tt, s⟩ := x
      unfold pkV at *
      simp only at *
      clear HF HR HN
      cases b with
      | true =>
        have HY2 := hid (HY.out rfl)
        clear HN2 HY
        go_wp2_with fail
        refine C.out.mono ?_
        rintro e w1 ⟨rfl, k1⟩
        have HK2 := hid (HK.out.trans k1)
        clear k1 HK C x0 x1 x2
        go_wp2
        go_ret
        exact ⟨⟨_, rfl, .inr HY2.out⟩, HK2.out⟩
      | false =>
        have HN3 := hid (HN2.out rfl)
        clear HN2 HY
        go_wp2_with fail
        refine C.out.mono ?_
        rintro e w1 ⟨rfl, k1⟩
        have HK2 := hid (HK.out.trans k1)
        clear k1 HK C x0 x1 x2
        go_wp2
        exact ⟨⟨k + 1, by omega, by go_num, HN3, HK2⟩, by simp [intOf]; omega⟩
    · have hk9 : k = L.length := by omega
      subst hk9
      have hdl : decide ((L.length : Int) < (L.length : Int)) = false := decide_eq_false (by omega)
      clear HF HR
      go_wp2
      go_ret
      exact ⟨⟨_, rfl, .inl ⟨rfl, fun x hx => by obtain ⟨m, hm, rfl⟩ := List.getElem_of_mem hx; exact HN.out m hm hm⟩⟩, HK.out⟩
end Go.Proofs.Ytfcchmjofejkhaa
