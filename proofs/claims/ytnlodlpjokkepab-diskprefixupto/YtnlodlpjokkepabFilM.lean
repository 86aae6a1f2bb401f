/- Files in memory: their bytes, shared between what is and what is sure. -/
import Derived.Test.YtnlodlpjokkepabDropW
import Derived.Test.YtnlodlpjokkepabBSl
namespace Go.Proofs.Ytnlodlpjokkepab
open Go.RowKit Go.Maps
set_option linter.unusedVariables false

/-- what is appended to v in its place does not fall on y -/
def Fits (v y : Value) : Prop := ∀ g n1 c1 n2 c2, v = .slice (some ⟨g, 0, none⟩) n1 c1 → y = .slice (some ⟨g, 0, none⟩) n2 c2 → n1 < c1 → n2 ≤ n1
theorem fits_nil (y : Value) : Fits (.slice none 0 0) y := by intro g n1 c1 n2 c2 h; injection h with h; cases h
theorem bsl_block {w : World} {y : Value} {U : Bs} {g : Nat} (h : BSl w 0 y U) (hg : y.ownBlock = some g) : g < w.heap.size := by
  rcases h with ⟨rfl, rfl⟩ | ⟨g', cap, rfl, h1, h2, _⟩
  · simp [Value.ownBlock] at hg
  · simp [Value.ownBlock] at hg; omega
theorem bsl_isSl {w : World} {y : Value} {U : Bs} (h : BSl w 0 y U) : IsSl y := by
  rcases h with ⟨rfl, rfl⟩ | ⟨g', cap, rfl, h1, h2, _⟩
  · exact ⟨_, _, _, rfl⟩
  · exact ⟨_, _, _, rfl⟩
theorem bsl_len {w : World} {y : Value} {U : Bs} (h : BSl w 0 y U) : lenV y = U.length := by
  rcases h with ⟨rfl, rfl⟩ | ⟨g', cap, rfl, h1, h2, _⟩ <;> rfl
theorem Keep.bsl {S : Nat → Prop} {w w' : World} {y : Value} {U : Bs} (k : Keep S w w') (h : BSl w 0 y U) (hS : ∀ g, y.ownBlock = some g → ¬ S g) : BSl w' 0 y U := by
  rcases h with h | ⟨g, cap, rfl, h1, h2, h3, h4, h5⟩
  · exact .inl h
  · have hg := hS g rfl
    have hb := k.block g h2 hg
    exact .inr ⟨g, cap, rfl, h1, Nat.lt_of_lt_of_le h2 k.size, h3, fun j hj => (k.cell h2 hg).trans (h4 j hj), fun j hj => ⟨by rw [k.cell h2 hg]; exact (h5 j hj).1, by have := (h5 j hj).2; unfold World.frozen? at this ⊢; rw [hb]; exact this⟩⟩

theorem append_nil_nil (w : World) (ty : TypeId) : (Builtin.append_ #[94, 9] ty #[.slice none 0 0, .string ⟨#[]⟩]).run Try.prog w = .ok (.slice none 0 0) w := by kernel_rfl

/-- 'append(b, s...)' where others may share the block -/
theorem bsl_more (w : World) (v : Value) (T : Bs) (s : ByteArray) (ty : TypeId) (h : BSl w 0 v T) (hl : T.length + s.size ≤ 140737488355328) :
    ∃ v' w', (Builtin.append_ #[94, 9] ty #[v, .string s]).run Try.prog w = .ok v' w' ∧ BSl w' 0 v' (T ++ s.data.toList) ∧ (v'.ownBlock = v.ownBlock ∨ v'.ownBlock = some w.heap.size) ∧
      Keep (fun k => v.ownBlock = some k) w w' ∧ ∀ y U, BSl w 0 y U → Fits v y → BSl w' 0 y U ∧ Fits v' y := by
  obtain ⟨i0, hi, hz0, hz1, hz2⟩ := info_parts info8
  have hsz : s.data.toList.length = s.size := by simp
  have hbl : (Go.byteCells s).length = s.size := by rw [Go.byteCells, List.length_map, hsz]
  have hsrc : ∀ w, Src Try.prog i0.size 9 (.string s) s.size (Go.byteCells s) w := fun w => by rw [hz1]; exact Src.ofString w Try.underlying9 s
  have grow : ∀ (bs0 : Option Addr) (cap : Nat), v = .slice bs0 T.length cap → cap < T.length + s.size → (Builtin.firstCells i0.size T.length (.slice bs0 T.length cap)).run Try.prog w.drew = .ok (bs T).toArray w.drew →
      ∃ v' w', (Builtin.append_ #[94, 9] ty #[v, .string s]).run Try.prog w = .ok v' w' ∧ BSl w' 0 v' (T ++ s.data.toList) ∧ (v'.ownBlock = v.ownBlock ∨ v'.ownBlock = some w.heap.size) ∧
        Keep (fun k => v.ownBlock = some k) w w' ∧ ∀ y U, BSl w 0 y U → Fits v y → BSl w' 0 y U ∧ Fits v' y := by
    intro bs0 cap hv hcap hold
    subst hv
    have hr := run_append_grow_src (P := Try.prog) w 94 9 ty 5 i0 (.int .u8 0) Try.underlying94 hi hz0 bs0 T.length cap (bs T) hold (.string s) s.size (Go.byteCells s) (hsrc w) hcap (by omega) (growslice_fits (by omega) (by rw [hz2]; omega))
    have hc := grownCap_ge w (T.length + s.size) cap 5
    generalize grownCap w (T.length + s.size) cap 5 = cap2 at hr hc
    have hzc : (Builtin.zeroCells (Value.int .u8 0).cells (cap2 - (T.length + s.size))).size = cap2 - (T.length + s.size) := by simp [Builtin.zeroCells, Value.cells]
    generalize Builtin.zeroCells (Value.int .u8 0).cells (cap2 - (T.length + s.size)) = Z at hr hzc
    have hcs : ((bs T ++ Go.byteCells s).toArray ++ Z).size = cap2 := by simp [bs_len, hbl, hzc]; omega
    have hh : (w.drew.alloc (.cells ((bs T ++ Go.byteCells s).toArray ++ Z) 5)).heap[w.heap.size]? = some (.cells ((bs T ++ Go.byteCells s).toArray ++ Z) 5) := by
      show (w.heap.push _)[w.heap.size]? = _
      simp
    have hB : Below w.heap.size w (w.drew.alloc (.cells ((bs T ++ Go.byteCells s).toArray ++ Z) 5)) := ((Below.refl _ w).drew).alloc (Nat.le_refl _) _
    refine ⟨_, _, hr, .inr ⟨w.heap.size, cap2, by rw [List.length_append, hsz], Nat.zero_le _, by show _ < (w.heap.push _).size; simp, by rw [List.length_append, hsz]; exact hc, fun j hj => ?_, fun j hj => ⟨?_, ?_⟩⟩, .inr rfl, hB.keep _, fun y U hy hf => ⟨(hB.keep (fun _ => False)).bsl hy (fun _ _ h => h), ?_⟩⟩
    · rw [cell_of_row _ _ j _ _ _ hh]
      have hj0 := hj
      rw [List.length_append, hsz] at hj
      have e : bs T ++ Go.byteCells s = bs (T ++ s.data.toList) := by rw [bs_append]; rfl
      rw [e, Array.getElem?_append_left (by simp [bs_len, hsz]; omega), List.getElem?_toArray]
      exact bs_get _ j hj0
    · rw [cell_of_row _ _ j _ _ _ hh]; simp only [Array.getElem?_eq_getElem (by rw [hcs]; exact hj), Option.isSome_some]
    · unfold World.frozen?
      rw [hh]; simp
    · intro g n1 c1 n2 c2 e1 e2 _
      injection e1 with e1
      injection e1 with e1
      injection e1 with e1
      have := bsl_block hy (g := g) (by rw [e2]; rfl)
      omega
  by_cases h0 : s.size = 0
  · have hs : s = ⟨#[]⟩ := by apply ByteArray.ext; exact Array.eq_empty_of_size_eq_zero h0
    subst hs
    rcases h with ⟨rfl, rfl⟩ | ⟨g, cap, rfl, h1, h2, h3, h4, h5⟩
    · exact ⟨_, _, append_nil_nil w ty, .inl ⟨rfl, rfl⟩, .inl rfl, Keep.refl _ _, fun y U hy hf => ⟨hy, hf⟩⟩
    · have hr := run_append_room_src (P := Try.prog) w 94 9 ty 5 i0 Try.underlying94 hi g 0 T.length cap (.string ⟨#[]⟩) 0 (Go.byteCells ⟨#[]⟩) (hsrc w) (by omega)
        (fun j hj => absurd hj (by rw [hbl]; omega)) (fun j hj => absurd hj (by rw [hbl]; omega))
      exact ⟨_, _, hr, by rw [show (ByteArray.mk #[]).data.toList = [] from rfl, List.append_nil]; exact .inr ⟨g, cap, rfl, h1, h2, h3, h4, h5⟩, .inl rfl, Keep.refl _ _, fun y U hy hf => ⟨hy, hf⟩⟩
  · rcases h with ⟨rfl, rfl⟩ | ⟨g, cap, rfl, h1, h2, h3, h4, h5⟩
    · exact grow none 0 rfl (by simp; omega) (run_firstCells_none _ _ _ _ _)
    · by_cases hroom : T.length + s.size ≤ cap
      · have hr := run_append_room_src (P := Try.prog) w 94 9 ty 5 i0 Try.underlying94 hi g 0 T.length cap (.string s) s.size (Go.byteCells s) (hsrc w) hroom
          (fun j hj => by rw [hz1, Nat.mul_one, Nat.zero_add]; exact (h5 _ (by omega)).1) (fun j hj => by rw [hz1, Nat.mul_one, Nat.zero_add]; exact (h5 _ (by omega)).2)
        rw [hz1, Nat.mul_one, Nat.zero_add] at hr
        have hK := keep_setCells w g T.length (Go.byteCells s)
        refine ⟨_, _, hr, .inr ⟨g, cap, by rw [List.length_append, hsz], h1, by rw [setCells_size]; exact h2, by rw [List.length_append, hsz]; exact hroom, fun j hj => ?_, fun j hj => ⟨?_, ?_⟩⟩, .inl rfl,
          hK.mono (fun k _ e => by rw [e]; rfl), fun y U hy hf => ⟨?_, ?_⟩⟩
        · by_cases hjl : j < T.length
          · rw [World.cell?_setCells_out g _ _ w ⟨g, j, none⟩ (fun _ _ => .inl hjl), h4 j hjl, List.getElem_append_left hjl]
          · rw [List.length_append, hsz] at hj
            have hin := World.cell?_setCells_in g (Go.byteCells s) T.length w (fun i hi => (h5 _ (by omega)).1) (j - T.length) (by omega)
            rw [show T.length + (j - T.length) = j by omega] at hin
            rw [hin, List.getElem_append_right (by omega)]
            simp [Go.byteCells]
        · exact World.isSome_setCells g _ _ w _ (h5 j hj).1
        · rw [World.frozen?_setCells]; exact (h5 j hj).2
        · rcases hy with hy | ⟨g2, cap2, rfl, y1, y2, y3, y4, y5⟩
          · exact .inl hy
          · by_cases hg : g2 = g
            · subst hg
              have hle := hf g2 _ _ _ _ rfl rfl (by omega)
              exact .inr ⟨g2, cap2, rfl, y1, by rw [setCells_size]; exact y2, y3, fun j hj => by rw [World.cell?_setCells_out g2 _ _ w ⟨g2, j, none⟩ (fun _ _ => .inl (show j < T.length by omega))]; exact y4 j hj,
                fun j hj => ⟨World.isSome_setCells g2 _ _ w _ (y5 j hj).1, by rw [World.frozen?_setCells]; exact (y5 j hj).2⟩⟩
            · exact hK.bsl (.inr ⟨g2, cap2, rfl, y1, y2, y3, y4, y5⟩) (fun k hk e => hg (by simp [Value.ownBlock] at hk; omega))
        · intro g' n1 c1 n2 c2 e1 e2 hlt
          injection e1 with e1 e3 e4
          injection e1 with e1
          injection e1 with e1
          subst e1 e3 e4
          have := hf g _ _ n2 c2 rfl e2 (by omega)
          omega
      · refine grow (some ⟨g, 0, none⟩) cap rfl (by omega) ?_
        rw [hz1]
        refine run_firstCells_some w.drew 1 T.length ⟨g, 0, none⟩ T.length cap (bs T) (by rw [bs_len, Nat.mul_one]) (fun j u hu => ?_)
        have hj : j < T.length := by have := (List.getElem?_eq_some_iff.1 hu).1; rwa [bs_len] at this
        have e : (bs T)[j]? = some (.int .u8 (T[j]).toNat) := by simp [bs, hj]
        rw [e] at hu
        rw [Addr.add_lit, Nat.zero_add]
        show w.cell? _ = _
        rw [h4 j hj]; exact hu
end Go.Proofs.Ytnlodlpjokkepab
