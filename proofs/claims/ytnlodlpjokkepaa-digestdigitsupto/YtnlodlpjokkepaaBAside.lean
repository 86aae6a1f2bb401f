/- What lies aside of a slice stays where bytes are appended to it. -/
import Derived.Test.YtnlodlpjokkepaaUnhexW
namespace Go.Proofs.Ytnlodlpjokkepaa
open Go.RowKit
set_option linter.unusedVariables false

/-- the slice lies in another block -/
def Aside (v : Value) (g : Nat) : Prop := ∀ ad n c, v = .slice (some ad) n c → ad.block ≠ g
theorem Aside.none (g n c : Nat) : Aside (.slice none n c) g := fun _ _ _ h => by injection h with h; cases h
theorem BSl.aside {w : World} {base : Nat} {v : Value} {L : List UInt8} (h : BSl w base v L) : Aside v w.heap.size := by
  rcases h with ⟨rfl, rfl⟩ | ⟨g, cap, rfl, h1, h2, _⟩
  · exact Aside.none _ _ _
  · intro ad n c h
    injection h with h
    injection h with h
    subst h
    show g ≠ _
    omega

theorem bsl_aside (w : World) (base : Nat) (v : Value) (L : List UInt8) (tx : TypeId) (x : Value) (M : List UInt8) (ty : TypeId) (h : BSl w base v L) (hl : L.length + M.length ≤ 140737488355328)
    (hsrc : Src Try.prog 1 tx x M.length (bs M) w) (hM : M ≠ []) (v' : Value) (w' : World) (hrun : (Builtin.append_ #[44, tx] ty #[v, x]).run Try.prog w = .ok v' w') (q : Nat) (hp : q < w.heap.size) (hne : Aside v q) :
    (∀ o, w'.cell? ⟨q, o, none⟩ = w.cell? ⟨q, o, none⟩) ∧ Aside v' q := by
  obtain ⟨i0, hi, hz0, hz1, hz2⟩ := info_parts info8
  have hM0 : 0 < M.length := List.length_pos_iff.2 hM
  have hsrc' : Src Try.prog i0.size tx x M.length (bs M) w := by rw [hz1]; exact hsrc
  have grow : ∀ (bs0 : Option Addr) (cap : Nat), v = .slice bs0 L.length cap → cap < L.length + M.length → (Builtin.firstCells i0.size L.length (.slice bs0 L.length cap)).run Try.prog w.drew = .ok (bs L).toArray w.drew →
      (∀ o, w'.cell? ⟨q, o, none⟩ = w.cell? ⟨q, o, none⟩) ∧ Aside v' q := by
    intro bs0 cap hv hcap hold
    subst hv
    have hr := run_append_grow_src (P := Try.prog) w 44 tx ty 5 i0 (.int .u8 0) Try.underlying44 hi hz0 bs0 L.length cap (bs L) hold x M.length (bs M) hsrc' hcap (by omega) (growslice_fits (by omega) (by rw [hz2]; omega))
    rw [hrun] at hr
    injection hr with e1 e2
    subst e1 e2
    refine ⟨fun o => (((Below.refl w.heap.size w).drew).alloc (Nat.le_refl _) _).cell (p := ⟨q, o, none⟩) hp, ?_⟩
    intro ad n c h
    injection h with h
    injection h with h
    subst h
    show w.heap.size ≠ q
    omega
  rcases h with ⟨rfl, rfl⟩ | ⟨g, cap, rfl, h1, h2, h3, h4, h5⟩
  · exact grow none 0 rfl (by simpa using hM0) (run_firstCells_none _ _ _ _ _)
  · have hgq : g ≠ q := hne ⟨g, 0, none⟩ _ _ rfl
    by_cases hroom : L.length + M.length ≤ cap
    · have hr := run_append_room_src (P := Try.prog) w 44 tx ty 5 i0 Try.underlying44 hi g 0 L.length cap x M.length (bs M) hsrc' hroom
        (fun j hj => by rw [hz1, Nat.mul_one, Nat.zero_add]; exact (h5 _ (by rw [bs_len] at hj; omega)).1) (fun j hj => by rw [hz1, Nat.mul_one, Nat.zero_add]; exact (h5 _ (by rw [bs_len] at hj; omega)).2)
      rw [hrun] at hr
      injection hr with e1 e2
      subst e1 e2
      refine ⟨fun o => World.cell?_setCells_out g _ _ w ⟨q, o, none⟩ (fun hb _ => absurd hb.symm hgq), ?_⟩
      intro ad n c h
      injection h with h
      injection h with h
      subst h
      exact hgq
    · refine grow (some ⟨g, 0, none⟩) cap rfl (by omega) ?_
      rw [hz1]
      refine run_firstCells_some w.drew 1 L.length ⟨g, 0, none⟩ L.length cap (bs L) (by rw [bs_len, Nat.mul_one]) (fun j u hu => ?_)
      have hj : j < L.length := by have := (List.getElem?_eq_some_iff.1 hu).1; rwa [bs_len] at this
      have e : (bs L)[j]? = some (.int .u8 (L[j]).toNat) := by simp [bs, hj]
      rw [e] at hu
      rw [Addr.add_lit, Nat.zero_add]
      show w.cell? _ = _
      rw [h4 j hj]; exact hu

/-- 'append(b, x, y, ..)' at the operation, and a block that lies aside -/
theorem wpl_bsl_aside {w : World} {ops : Array Oper} {rest : List Oper} {o : Oper} {a : Act} {Q : Exit → Act → World → Prop} (hgd : o.guard = none) (sl x : Operand)
    (ho : o.op = .call { callee := .builtin .append, args := #[sl, x], argTypes := #[44, 44] }) (base : Nat) (v : Value) (L : List UInt8) (w0 : World) (M : List UInt8) (Mc : Array Value) (hMc : Mc = (bs M).toArray) (hw : w = w0.alloc (.cells Mc 5)) (m : Nat) (hm : m = M.length)
    (hs : a.eval sl = v) (hx : a.eval x = .slice (some ⟨w0.heap.size, 0, none⟩) m m)
    (h0 : BSl w0 base v L) (hb : base ≤ w0.heap.size) (hl : L.length + M.length ≤ 140737488355328) (hM : M ≠ []) (q : Nat) (hq : q < w0.heap.size) (hne : Aside v q)
    (h : ∀ v' w', BSl w' base v' (L ++ M) → Below base w0 w' → (∀ o, w'.cell? ⟨q, o, none⟩ = w0.cell? ⟨q, o, none⟩) → Aside v' q → wpList Try.prog ops Q rest (a.put o.dst v') w') : wpList Try.prog ops Q (o :: rest) a w := by
  subst hMc hw hm
  refine wpList_plain hgd fun K hK => ?_
  have b1 : Below w0.heap.size w0 (w0.alloc (.cells (bs M).toArray 5)) := (Below.refl _ _).alloc (Nat.le_refl _) _
  obtain ⟨v', w', hr, h2, h3⟩ := bsl_append (w0.alloc (.cells (bs M).toArray 5)) base v L 44 _ M o.type (h0.keeps b1) (by simp; omega) hl (src_new w0 M 5) hM
  obtain ⟨k1, k2⟩ := bsl_aside (w0.alloc (.cells (bs M).toArray 5)) base v L 44 _ M o.type (h0.keeps b1) hl (src_new w0 M 5) hM v' w' hr q (by simp; omega) hne
  unfold Oper.wp execOp
  simp only [ho, resolve, invoke, builtin, Sem.run_bind, Sem.run_pure, Result.andThen_ok, List.map_toArray, List.map_cons, List.map_nil, hs, hx, hr]
  exact hK _ _ (h v' w' h2 ((b1.mono hb).trans h3) (fun o => (k1 o).trans (b1.cell (p := ⟨q, o, none⟩) hq)) k2)
end Go.Proofs.Ytnlodlpjokkepaa
