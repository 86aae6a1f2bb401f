/- All ways are mended: Heal. -/
import Derived.Test.YtfcchmjofejkhaaNetF
import Derived.Laws.CopyRow
namespace Go.Proofs.Ytfcchmjofejkhaa
open Go.RowKit Go.Maps
set_option linter.unusedVariables false
set_option linter.unusedSimpArgs false

theorem nwpl_id {P : Program} {ops : Array Oper} {l : List Oper} {a : Act} {w : World} {Q : Exit → Act → World → Prop} (h : wpList P ops Q l a w) : wpList P ops Q l a w := h
/-- cells are stored in the middle of a row -/
theorem wpl_store_mid {ops : Array Oper} {rest : List Oper} {o : Oper} {a : Act} {w : World} {Q : Exit → Act → World → Prop} (hgd : o.guard = none) (ty : TypeId) (x y : Operand) (ho : o.op = .store ty x y)
    (g off : Nat) (cs : List Value) (hx : a.eval x = .pointer (some ⟨g, off, none⟩)) (hy : a.eval y = .agg cs.toArray) (t : TypeId) (cur : List Value) (hg : RowIs w g cur t) (hi : (Try.prog.info? ty).map (·.size) = some cs.length) (hl : off + cs.length ≤ cur.length) (h1 : ∀ v ∈ cs, v.oneCell' = true)
    (h : ∀ w', RowIs w' g (cur.take off ++ cs ++ cur.drop (off + cs.length)) t → Keep (· = g) w w' → wpList Try.prog ops Q rest (a.put o.dst undef) w') : wpList Try.prog ops Q (o :: rest) a w := by
  refine wpList_plain hgd fun K hK => ?_
  have hst := run_storeCells_at (P := Try.prog) g off t cs 0 cur.toArray w hg (by simpa using hl) h1
  simp only [Nat.add_zero] at hst
  have hsv : (storeVar ty ⟨g, off, none⟩ (.agg cs.toArray)).run Try.prog w = .ok () (w.setRow g (cur.take off ++ cs ++ cur.drop (off + cs.length)).toArray) := by
    cases hq : Try.prog.info? ty with
    | none => simp [hq] at hi
    | some i =>
      have hs : cs.length = i.size := by simp [hq] at hi; omega
      simp [storeVar, sizeOf, typeInfo, hq, Value.cells, hs]
      simpa [hs] using hst
  unfold Oper.wp execOp
  simp only [ho, hx, hy, Instr.storeAt, Instr.sureAddr, Sem.run_bind, Sem.run_pure, Result.andThen_ok, hsv]
  exact hK _ _ (h _ (setRow_heap w g _ _ t _ hg) ⟨rfl, rfl, rfl, by simp, fun k _ hk => setRow_other w g k _ hk⟩)
set_option maxRecDepth 100000 in
set_option maxHeartbeats 1000000 in
theorem heal_any (p : Nat) (P : Nat → Prop) (n : Net) (w : World) (h : NetIs w P p n) :
    Calls Try.prog 19 #[.pointer (some ⟨p, 0, none⟩)] w fun e w' => e = .returned (.tuple #[]) ∧ NLeft w P p { n with ct := List.replicate 49 false } w' := by
  obtain ⟨v, h⟩ := h
  have H := hid h
  have HR := hid h.row
  have HI : Hid ((Try.prog.info? 54).map (·.size) = some (List.replicate 49 (Value.bool false)).length) := by show _ = _; kernel_rfl
  have HL : Hid (1 + (List.replicate 49 (Value.bool false)).length ≤ (netC v n).length) := by show _ ≤ _; simp [netC, h.ct]
  have H1 : Hid (∀ u ∈ List.replicate 49 (Value.bool false), u.oneCell' = true) := fun u hu => by rw [List.eq_of_mem_replicate hu]; rfl
  have FIN : Hid (∀ w', RowIs w' p ((netC v n).take 1 ++ List.replicate 49 (Value.bool false) ++ (netC v n).drop (1 + (List.replicate 49 (Value.bool false)).length)) 56 → Keep (· = p) w w' → NLeft w P p { n with ct := List.replicate 49 false } w') := fun w' hr hk => by
    have h := H.out
    refine ⟨P, ⟨v, ?_, h.pp, hk.ownsRow h.own (fun g e e2 => (h.vp g e).2 e2), h.vp, h.ln, rfl, h.nd, h.sz⟩, fun _ _ h => h, hk.mono (fun j _ e => e ▸ h.pp)⟩
    have e : (netC v n).take 1 ++ List.replicate 49 (Value.bool false) ++ (netC v n).drop (1 + (List.replicate 49 (Value.bool false)).length) = netC v { n with ct := List.replicate 49 false } := by
      have hd : (netC v n).drop 50 = [.int .i64 n.se, .int .i64 n.ta, .int .i64 n.lo] := by
        unfold netC
        rw [List.drop_succ_cons, List.drop_append_of_le_length (by simp [h.ct]), List.drop_of_length_le (by simp [h.ct])]
        rfl
      rw [List.length_replicate, hd]
      rfl
    rw [e] at hr
    exact hr
  clear h H
  go_enter Try.func19, Try.ntmps19
  go_wp2_with (with_reducible (refine nwpl_id ?_); refine wpl_store_mid rfl _ _ _ rfl p 1 (List.replicate 49 (Value.bool false)) rfl rfl _ _ HR.out HI.out HL.out H1.out ?_; intro w1 hr1 hk1)
  go_end0
  exact ⟨rfl, FIN.out _ hr1 hk1⟩
end Go.Proofs.Ytfcchmjofejkhaa
