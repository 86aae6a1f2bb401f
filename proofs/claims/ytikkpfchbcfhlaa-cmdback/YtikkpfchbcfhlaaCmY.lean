/- A command as the document has it: the law's Ref. -/
import Derived.Test.YtikkpfchbcfhlaaJoined23
import Derived.Test.YtikkpfchbcfhlaaJoined08
import Derived.Deep.CutRange
namespace Go.Proofs.Ytikkpfchbcfhlaa
open Go.RowKit Go.Maps
set_option linter.unusedVariables false
set_option linter.unusedSimpArgs false

theorem elRK : ElT 33 48 2 24 := ⟨Try.underlying33, ⟨.agg #[.int .i64 0, .string ⟨#[]⟩], by kernel_rfl, rfl⟩, by decide⟩
/-- the memory of Ref: its box, its result, the picks that it made -/
structure RfS (w : World) (cs : List Value) (v : Value) (l : List Pk) (W : World) : Prop where
  bx : RowIs W w.heap.size cs 25
  rs : RowIs W (w.heap.size + 1) [.int .i64 0, .string ⟨#[]⟩, .string ⟨#[]⟩, .string ⟨#[]⟩, .int .i64 0, .int .i64 0, .string ⟨#[]⟩, .slice none 0 0, .slice none 0 0] 35
  ow : OwnK W (w.heap.size + 2) 48 v l
  bl : Below w.heap.size w W
theorem RfS.next {w W W' : World} {cs : List Value} {v : Value} {l : List Pk} (x : RfS w cs v l W) (hb : Below W.heap.size W W') : RfS w cs v l W' :=
  have k := hb.keep (fun _ => False)
  ⟨x.bx.keep k (fun h => h), x.rs.keep k (fun h => h), x.ow.next hb, below_on x.bl hb⟩
theorem RfS.app {w W W' : World} {cs : List Value} {v v' : Value} {l l' : List Pk} (x : RfS w cs v l W) (ho : OwnK W' (w.heap.size + 2) 48 v' l') (hk : Keep (fun k => v.ownBlock = some k) W W') : RfS w cs v' l' W' := by
  have hge := fun k (e : v.ownBlock = some k) => ownsRow_ge x.ow e
  exact ⟨x.bx.keep hk (fun e => by have := hge _ e; omega), x.rs.keep hk (fun e => by have := hge _ e; omega), ho, x.bl.trans (keep_below hk (fun j hj e => by have := hge _ e; omega) x.bl.size)⟩
theorem RfS.fin {w W : World} {cs : List Value} {v pv : Value} {l : List Pk} {lp : List Pc} (kd id n : Int) (tk bk ky sm : ByteArray) (x : RfS w cs v l W) (hp : OwnP W (w.heap.size + 2) 46 pv lp) :
    RowIs (((((((((W.setCell ⟨w.heap.size + 1, 0, none⟩ (.int .i64 kd)).setCell ⟨w.heap.size + 1, 1, none⟩ (.string tk)).setCell ⟨w.heap.size + 1, 2, none⟩ (.string bk)).setCell ⟨w.heap.size + 1, 3, none⟩ (.string ky)).setCell ⟨w.heap.size + 1, 4, none⟩ (.int .i64 id)).setCell ⟨w.heap.size + 1, 5, none⟩ (.int .i64 n)).setCell ⟨w.heap.size + 1, 6, none⟩ (.string sm)).setCell ⟨w.heap.size + 1, 7, none⟩ (pv)).setCell ⟨w.heap.size + 1, 8, none⟩ (v)) (w.heap.size + 1) [.int .i64 kd, .string tk, .string bk, .string ky, .int .i64 id, .int .i64 n, .string sm, pv, v] 35 ∧ OwnP (((((((((W.setCell ⟨w.heap.size + 1, 0, none⟩ (.int .i64 kd)).setCell ⟨w.heap.size + 1, 1, none⟩ (.string tk)).setCell ⟨w.heap.size + 1, 2, none⟩ (.string bk)).setCell ⟨w.heap.size + 1, 3, none⟩ (.string ky)).setCell ⟨w.heap.size + 1, 4, none⟩ (.int .i64 id)).setCell ⟨w.heap.size + 1, 5, none⟩ (.int .i64 n)).setCell ⟨w.heap.size + 1, 6, none⟩ (.string sm)).setCell ⟨w.heap.size + 1, 7, none⟩ (pv)).setCell ⟨w.heap.size + 1, 8, none⟩ (v)) w.heap.size 46 pv lp ∧ OwnK (((((((((W.setCell ⟨w.heap.size + 1, 0, none⟩ (.int .i64 kd)).setCell ⟨w.heap.size + 1, 1, none⟩ (.string tk)).setCell ⟨w.heap.size + 1, 2, none⟩ (.string bk)).setCell ⟨w.heap.size + 1, 3, none⟩ (.string ky)).setCell ⟨w.heap.size + 1, 4, none⟩ (.int .i64 id)).setCell ⟨w.heap.size + 1, 5, none⟩ (.int .i64 n)).setCell ⟨w.heap.size + 1, 6, none⟩ (.string sm)).setCell ⟨w.heap.size + 1, 7, none⟩ (pv)).setCell ⟨w.heap.size + 1, 8, none⟩ (v)) w.heap.size 48 v l ∧ Below w.heap.size w (((((((((W.setCell ⟨w.heap.size + 1, 0, none⟩ (.int .i64 kd)).setCell ⟨w.heap.size + 1, 1, none⟩ (.string tk)).setCell ⟨w.heap.size + 1, 2, none⟩ (.string bk)).setCell ⟨w.heap.size + 1, 3, none⟩ (.string ky)).setCell ⟨w.heap.size + 1, 4, none⟩ (.int .i64 id)).setCell ⟨w.heap.size + 1, 5, none⟩ (.int .i64 n)).setCell ⟨w.heap.size + 1, 6, none⟩ (.string sm)).setCell ⟨w.heap.size + 1, 7, none⟩ (pv)).setCell ⟨w.heap.size + 1, 8, none⟩ (v)) ∧ RowIs (((((((((W.setCell ⟨w.heap.size + 1, 0, none⟩ (.int .i64 kd)).setCell ⟨w.heap.size + 1, 1, none⟩ (.string tk)).setCell ⟨w.heap.size + 1, 2, none⟩ (.string bk)).setCell ⟨w.heap.size + 1, 3, none⟩ (.string ky)).setCell ⟨w.heap.size + 1, 4, none⟩ (.int .i64 id)).setCell ⟨w.heap.size + 1, 5, none⟩ (.int .i64 n)).setCell ⟨w.heap.size + 1, 6, none⟩ (.string sm)).setCell ⟨w.heap.size + 1, 7, none⟩ (pv)).setCell ⟨w.heap.size + 1, 8, none⟩ (v)) w.heap.size cs 25 := by
  have k : Keep (· = w.heap.size + 1) W (((((((((W.setCell ⟨w.heap.size + 1, 0, none⟩ (.int .i64 kd)).setCell ⟨w.heap.size + 1, 1, none⟩ (.string tk)).setCell ⟨w.heap.size + 1, 2, none⟩ (.string bk)).setCell ⟨w.heap.size + 1, 3, none⟩ (.string ky)).setCell ⟨w.heap.size + 1, 4, none⟩ (.int .i64 id)).setCell ⟨w.heap.size + 1, 5, none⟩ (.int .i64 n)).setCell ⟨w.heap.size + 1, 6, none⟩ (.string sm)).setCell ⟨w.heap.size + 1, 7, none⟩ (pv)).setCell ⟨w.heap.size + 1, 8, none⟩ (v)) := ((((((((keep_setCell W _ 0 _).trans (keep_setCell _ _ 1 _)).trans (keep_setCell _ _ 2 _)).trans (keep_setCell _ _ 3 _)).trans (keep_setCell _ _ 4 _)).trans (keep_setCell _ _ 5 _)).trans (keep_setCell _ _ 6 _)).trans (keep_setCell _ _ 7 _)).trans (keep_setCell _ _ 8 _)
  exact ⟨((((((((x.rs.set 0 _).set 1 _).set 2 _).set 3 _).set 4 _).set 5 _).set 6 _).set 7 _).set 8 _, ownP_low (k.ownsRow hp (fun b hb e => by have := ownsRow_ge hp hb; omega)) (by omega), ownK_low (k.ownsRow x.ow (fun b hb e => by have := ownsRow_ge x.ow hb; omega)) (by omega), x.bl.trans (keep_below k (fun j hj e => by omega) x.bl.size), x.bx.keep k (by omega)⟩
set_option maxRecDepth 100000 in
set_option maxHeartbeats 4000000 in
theorem cref_any (pv kv : Value) (c : Cm) (w : World) (hp : PcI w pv c.ps) (hk : PkI w kv c.ks) (hpl : c.ps.length * 24 ≤ 140737488355328) (hkl : c.ks.length * 24 ≤ 140737488355328) : Calls Try.prog 7 #[cmV pv kv c] w fun e w' => ∃ pv' kv', e = .returned (cmV pv' kv' c) ∧ OwnP w' w.heap.size 46 pv' c.ps ∧ OwnK w' w.heap.size 48 kv' c.ks ∧ Below w.heap.size w w' := by
  obtain ⟨pa, pc, rfl, -⟩ := hp.form
  obtain ⟨ka, kc, rfl, hc⟩ := hk.form
  have LP : Hid (∀ W, Below w.heap.size w W → Calls Try.prog 14 #[.slice pa c.ps.length pc] W fun e w' => ∃ ad cap, e = .returned (.slice ad c.ps.length cap) ∧ OwnP w' W.heap.size 46 (.slice ad c.ps.length cap) c.ps ∧ Below W.heap.size W w') := fun W hW => lpiece_any _ c.ps W (hp.next hW) hpl
  unfold cmV
  obtain ⟨kd, tk, bk, ky, id, n, sm, ps, l⟩ := c
  simp only at *
  have HC := hid hc
  have HL := hid hkl
  have HTK : Hid (∀ (k : Nat) (hk : k < l.length), kqC (l.take (k + 1)) = kqC (l.take k) ++ pkC l[k]) := fun k hk => kqC_take l k hk
  have HZ : Hid (l.take l.length = l) := List.take_length
  generalize hpn : ps.length = pn at *
  have S0 : Hid (RfS w [.int .i64 kd, .string tk, .string bk, .string ky, .int .i64 id, .int .i64 n, .string sm, .slice pa pn pc, .slice ka l.length kc] (.slice none 0 0) [] ((w.alloc (.cells #[.int .i64 kd, .string tk, .string bk, .string ky, .int .i64 id, .int .i64 n, .string sm, .slice pa pn pc, .slice ka l.length kc] 25)).alloc (.cells #[.int .i64 0, .string ⟨#[]⟩, .string ⟨#[]⟩, .string ⟨#[]⟩, .int .i64 0, .int .i64 0, .string ⟨#[]⟩, .slice none 0 0, .slice none 0 0] 35))) := by
    refine ⟨row_old (srow w _ _) _, ?_, ownK_nil _ _ _, below_al (below_al (Below.refl _ _) _) _⟩
    have := srow (w.alloc (.cells #[.int .i64 kd, .string tk, .string bk, .string ky, .int .i64 id, .int .i64 n, .string sm, .slice pa pn pc, .slice ka l.length kc] 25)) [.int .i64 0, .string ⟨#[]⟩, .string ⟨#[]⟩, .string ⟨#[]⟩, .int .i64 0, .int .i64 0, .string ⟨#[]⟩, .slice none 0 0, .slice none 0 0] 35
    rwa [show (w.alloc (.cells #[.int .i64 kd, .string tk, .string bk, .string ky, .int .i64 id, .int .i64 n, .string sm, .slice pa pn pc, .slice ka l.length kc] 25)).heap.size = w.heap.size + 1 from by simp] at this
  clear hc hp hk hpl hkl
  go_enter Try.func7, Try.ntmps7
  go_wp2
  go_loopw [3, 4] (fun o i wr => ∃ (k : Nat) (ad1 : Option Addr) (cp1 : Nat), k ≤ l.length ∧ o = .slice ad1 k cp1 ∧ i = .int .i64 (k : Int) ∧ Hid (RfS w [.int .i64 kd, .string tk, .string bk, .string ky, .int .i64 id, .int .i64 n, .string sm, .slice pa pn pc, .slice ka l.length kc] (.slice ad1 k cp1) (l.take k) wr)) (fun _ i _ => l.length - (intOf i).toNat)
  case atStart => exact ⟨0, none, 0, Nat.zero_le _, rfl, rfl, S0⟩
  case round =>
    clear S0
    obtain ⟨k, ad1, cp1, hk, rfl, rfl, HS⟩ := hrel
    have y8 := HS.out.bx.cellAt (o := 8) rfl
    by_cases hlt : k < l.length
    · have hk1 : (k : Int) < (l.length : Int) := by omega
      have hk0 : (0 : Int) ≤ (k : Int) := by omega
      obtain ⟨b, off, rfl, hb, c0, c1⟩ := HC.out k hlt
      have d0 := (HS.out.bl.cell (p := ⟨b, off + k * 2, none⟩) hb).trans c0
      have d1 := (HS.out.bl.cell (p := ⟨b, off + k * 2 + 1, none⟩) hb).trans c1
      have hwk : wrap64 ((k : Int) + 1) = ((k + 1 : Nat) : Int) := by have := HL.out; rw [IntWalk.wrap64_in _ (by omega)]; omega
      have HPL := hid (HTK.out k hlt)
      have HTL : Hid ((l.take k).length = k) := by show _ = _; rw [List.length_take]; omega
      have HTL2 : Hid ((l.take (k + 1)).length = k + 1) := by show _ = _; rw [List.length_take]; omega
      have HO1 := hid (pkC_one1 l[k])
      have HX1 : Hid (pkC l[k] = [.int .i64 l[k].n, .string l[k].su]) := rfl
      have HX2 : Hid ((pkC l[k]).length = 1 * 2) := rfl
      have HB1 : Hid (k + 1 ≤ 4611686018427387904) := by have := HL.out; show _ ≤ _; omega
      have HB2 : Hid ((k + 1) * 24 ≤ 140737488355328) := by have := HL.out; show _ ≤ _; omega
      have HLT := hid hlt
      generalize l[k] = p at *
      obtain ⟨pnn, psu⟩ := p
      simp only at d0 d1 HX1
      generalize pkC ⟨pnn, psu⟩ = XS at *
      have HS2 := hid (HS.out.next (below_al (Below.refl _ _) (.cells #[.int .i64 pnn, .string psu] 48)))
      have HGA : Hid ((wr.alloc (.cells #[.int .i64 pnn, .string psu] 48)).ownsRow (w.heap.size + 2) 48 2 (.slice ad1 k cp1) k (kqC (l.take k))) := by
        have := HS2.out.ow; unfold OwnK at this; rw [HTL.out] at this; exact this
      have HGX : Hid (GSrc (wr.alloc (.cells #[.int .i64 pnn, .string psu] 48)) (.slice (some ⟨wr.heap.size, 0, none⟩) 1 1) 1 XS) := by
        rw [HX1.out]; exact gsrc_block (heap_alloc_new _ _)
      have HSZ : Hid (w.heap.size + 2 ≤ (wr.alloc (.cells #[.int .i64 pnn, .string psu] 48)).heap.size) := by have := HS2.out.rs.lt; show _ ≤ _; omega
      have FIN : Hid (∀ ad' cap' w', w'.ownsRow (w.heap.size + 2) 48 2 (.slice ad' (k + 1) cap') (k + 1) (kqC (l.take k) ++ XS) → Keep (fun j => (Value.slice ad1 k cp1).ownBlock = some j) (wr.alloc (.cells #[.int .i64 pnn, .string psu] 48)) w' → Hid (RfS w [.int .i64 kd, .string tk, .string bk, .string ky, .int .i64 id, .int .i64 n, .string sm, .slice pa pn pc, .slice (some ⟨b, off, none⟩) l.length kc] (.slice ad' (k + 1) cap') (l.take (k + 1)) w')) := fun ad' cap' w' hr hk' => by
        refine HS2.out.app ?_ hk'
        unfold OwnK
        rw [HTL2.out, HPL.out]
        exact hr
      clear HC HTK HZ c0 c1 hb HL HS HPL HX1 hlt hk LP HS2 HTL HTL2
      go_wp2_with (at_builtin; refine wpl_gappL rfl _ _ elRK rfl (w.heap.size + 2) (.slice ad1 k cp1) (.slice (some ⟨wr.heap.size, 0, none⟩) 1 1) (kqC (l.take k)) XS k 1 (k + 1) rfl rfl rfl HGA.out HSZ.out HGX.out HX2.out HO1.out HB1.out HB2.out ?_; intro ad' cap' w' hr' hk')
      have F1 := FIN.out _ _ _ hr' hk'
      clear hr' hk' FIN HGA HGX HSZ d0 d1 y8
      go_wp2
      exact ⟨⟨k + 1, _, _, HLT.out, rfl, by first | rw [hwk] | rfl | simp, F1⟩, by (try rw [hwk]); have := HLT.out; simp [intOf]; omega⟩
    · have hke : k = l.length := by omega
      have hd : decide ((k : Int) < (l.length : Int)) = false := decide_eq_false (by omega)
      have hd2 : decide (k < l.length) = false := decide_eq_false hlt
      have HF : Hid (RfS w [.int .i64 kd, .string tk, .string bk, .string ky, .int .i64 id, .int .i64 n, .string sm, .slice pa pn pc, .slice ka l.length kc] (.slice ad1 l.length cp1) l wr) := by
        have := HS.out
        rw [hke, HZ.out] at this
        exact this
      have hke2 := hke
      subst hke2
      have HP2 := hid hpn
      clear HC HTK HZ HL HS hke hlt hk hpn
      go_upto_region 6 with fail
      clear y8
      have SD := hid (HF.out.next (Below.refl _ _).drew)
      have ZC : Hid (∀ W v2 l2, RfS w [.int .i64 kd, .string tk, .string bk, .string ky, .int .i64 id, .int .i64 n, .string sm, .slice pa pn pc, .slice ka l.length kc] v2 l2 W → W.cell? ⟨w.heap.size, 0, none⟩ = some (.int .i64 kd) ∧ W.cell? ⟨w.heap.size, 1, none⟩ = some (.string tk) ∧ W.cell? ⟨w.heap.size, 2, none⟩ = some (.string bk) ∧ W.cell? ⟨w.heap.size, 3, none⟩ = some (.string ky) ∧ W.cell? ⟨w.heap.size, 4, none⟩ = some (.int .i64 id) ∧ W.cell? ⟨w.heap.size, 5, none⟩ = some (.int .i64 n) ∧ W.cell? ⟨w.heap.size, 6, none⟩ = some (.string sm) ∧ W.cell? ⟨w.heap.size, 7, none⟩ = some (.slice pa pn pc) ∧ W.cell? ⟨w.heap.size, 8, none⟩ = some (.slice ka l.length kc)) := fun W v2 l2 h => by
        have q := h.bx
        exact ⟨q.cellAt rfl, q.cellAt rfl, q.cellAt rfl, q.cellAt rfl, q.cellAt rfl, q.cellAt rfl, q.cellAt rfl, q.cellAt rfl, q.cellAt rfl⟩
      refine wp_region_held_drew (S := (fun w' => w'.cell? ⟨w.heap.size, 0, none⟩ = some (.int .i64 kd) ∧ w'.cell? ⟨w.heap.size, 1, none⟩ = some (.string tk) ∧ w'.cell? ⟨w.heap.size, 2, none⟩ = some (.string bk) ∧ w'.cell? ⟨w.heap.size, 3, none⟩ = some (.string ky) ∧ w'.cell? ⟨w.heap.size, 4, none⟩ = some (.int .i64 id) ∧ w'.cell? ⟨w.heap.size, 5, none⟩ = some (.int .i64 n) ∧ w'.cell? ⟨w.heap.size, 6, none⟩ = some (.string sm) ∧ w'.cell? ⟨w.heap.size, 7, none⟩ = some (.slice pa pn pc) ∧ w'.cell? ⟨w.heap.size, 8, none⟩ = some (.slice ka l.length kc))) (by kernel_rfl) (ZC.out _ _ _ SD.out) (fun hHeld => ?_)
      refine wpAnyH_take (i := 0) (v := ?vv1) rfl (by kernel_rfl) (by kernel_rfl) (by kernel_rfl) (fun _ _ _ h => h) (Or.inl ⟨by rfl, ?hy1⟩) (by assumption) ?rest1
      case hy1 => (intro w hSw; (try dsimp only at hSw); go_simp; first | done | with_reducible rfl)
      try simp only [Act.put, List.getElem_toArray, List.getElem_cons_succ, List.getElem_cons_zero, List.setIfInBounds_toArray, List.set_cons_zero, List.set_cons_succ]
      refine wpAnyH_take (i := 1) (v := ?vv2) rfl (by kernel_rfl) (by kernel_rfl) (by kernel_rfl) (fun _ _ _ h => h) (Or.inl ⟨by rfl, ?hy2⟩) (by assumption) ?rest2
      case hy2 => (intro w hSw; (try dsimp only at hSw); go_simp; first | done | with_reducible rfl)
      try simp only [Act.put, List.getElem_toArray, List.getElem_cons_succ, List.getElem_cons_zero, List.setIfInBounds_toArray, List.set_cons_zero, List.set_cons_succ]
      refine wpAnyH_take (i := 2) (v := ?vv3) rfl (by kernel_rfl) (by kernel_rfl) (by kernel_rfl) (fun _ _ _ h => h) (Or.inl ⟨by rfl, ?hy3⟩) (by assumption) ?rest3
      case hy3 => (intro w hSw; (try dsimp only at hSw); go_simp; first | done | with_reducible rfl)
      try simp only [Act.put, List.getElem_toArray, List.getElem_cons_succ, List.getElem_cons_zero, List.setIfInBounds_toArray, List.set_cons_zero, List.set_cons_succ]
      refine wpAnyH_take (i := 3) (v := ?vv4) rfl (by kernel_rfl) (by kernel_rfl) (by kernel_rfl) (fun _ _ _ h => h) (Or.inl ⟨by rfl, ?hy4⟩) (by assumption) ?rest4
      case hy4 => (intro w hSw; (try dsimp only at hSw); go_simp; first | done | with_reducible rfl)
      try simp only [Act.put, List.getElem_toArray, List.getElem_cons_succ, List.getElem_cons_zero, List.setIfInBounds_toArray, List.set_cons_zero, List.set_cons_succ]
      refine wpAnyH_take (i := 4) (v := ?vv5) rfl (by kernel_rfl) (by kernel_rfl) (by kernel_rfl) (fun _ _ _ h => h) (Or.inl ⟨by rfl, ?hy5⟩) (by assumption) ?rest5
      case hy5 => (intro w hSw; (try dsimp only at hSw); go_simp; first | done | with_reducible rfl)
      try simp only [Act.put, List.getElem_toArray, List.getElem_cons_succ, List.getElem_cons_zero, List.setIfInBounds_toArray, List.set_cons_zero, List.set_cons_succ]
      refine wpAnyH_take (i := 5) (v := ?vv6) rfl (by kernel_rfl) (by kernel_rfl) (by kernel_rfl) (fun _ _ _ h => h) (Or.inl ⟨by rfl, ?hy6⟩) (by assumption) ?rest6
      case hy6 => (intro w hSw; (try dsimp only at hSw); go_simp; first | done | with_reducible rfl)
      try simp only [Act.put, List.getElem_toArray, List.getElem_cons_succ, List.getElem_cons_zero, List.setIfInBounds_toArray, List.set_cons_zero, List.set_cons_succ]
      refine wpAnyH_take (i := 6) (v := ?vv7) rfl (by kernel_rfl) (by kernel_rfl) (by kernel_rfl) (fun _ _ _ h => h) (Or.inl ⟨by rfl, ?hy7⟩) (by assumption) ?rest7
      case hy7 => (intro w hSw; (try dsimp only at hSw); go_simp; first | done | with_reducible rfl)
      try simp only [Act.put, List.getElem_toArray, List.getElem_cons_succ, List.getElem_cons_zero, List.setIfInBounds_toArray, List.set_cons_zero, List.set_cons_succ]
      refine wpAnyH_take (i := 7) (v := ?vv8) rfl (by kernel_rfl) (by kernel_rfl) (by kernel_rfl) (fun _ _ _ h => h) (Or.inl ⟨by rfl, ?hy8⟩) (by assumption) ?rest8
      case hy8 => (intro w hSw; (try dsimp only at hSw); go_simp; first | done | with_reducible rfl)
      try simp only [Act.put, List.getElem_toArray, List.getElem_cons_succ, List.getElem_cons_zero, List.setIfInBounds_toArray, List.set_cons_zero, List.set_cons_succ]
      refine wpAnyH_take (i := 8) (v := ?vv9) rfl (by kernel_rfl) (by kernel_rfl) (by kernel_rfl) (fun _ _ _ h => h) (Or.inl ⟨by rfl, ?hy9⟩) (by assumption) ?rest9
      case hy9 => (intro w hSw; (try dsimp only at hSw); go_simp; first | done | with_reducible rfl)
      try simp only [Act.put, List.getElem_toArray, List.getElem_cons_succ, List.getElem_cons_zero, List.setIfInBounds_toArray, List.set_cons_zero, List.set_cons_succ]
      refine wpAnyH_take (i := 9) (v := ?vv10) rfl (by kernel_rfl) (by kernel_rfl) (by kernel_rfl) (fun _ _ _ h => h) (Or.inl ⟨by rfl, ?hy10⟩) (by assumption) ?rest10
      case hy10 => (intro w hSw; (try dsimp only at hSw); go_simp; first | done | with_reducible rfl)
      try simp only [Act.put, List.getElem_toArray, List.getElem_cons_succ, List.getElem_cons_zero, List.setIfInBounds_toArray, List.set_cons_zero, List.set_cons_succ]
      refine wpAnyH_take (i := 10) (v := ?vv11) rfl (by kernel_rfl) (by kernel_rfl) (by kernel_rfl) (fun _ _ _ h => h) (Or.inl ⟨by rfl, ?hy11⟩) (by assumption) ?rest11
      case hy11 => (intro w hSw; (try dsimp only at hSw); go_simp; first | done | with_reducible rfl)
      try simp only [Act.put, List.getElem_toArray, List.getElem_cons_succ, List.getElem_cons_zero, List.setIfInBounds_toArray, List.set_cons_zero, List.set_cons_succ]
      refine wpAnyH_take (i := 11) (v := ?vv12) rfl (by kernel_rfl) (by kernel_rfl) (by kernel_rfl) (fun _ _ _ h => h) (Or.inl ⟨by rfl, ?hy12⟩) (by assumption) ?rest12
      case hy12 => (intro w hSw; (try dsimp only at hSw); go_simp; first | done | with_reducible rfl)
      try simp only [Act.put, List.getElem_toArray, List.getElem_cons_succ, List.getElem_cons_zero, List.setIfInBounds_toArray, List.set_cons_zero, List.set_cons_succ]
      refine wpAnyH_take (i := 12) (v := ?vv13) rfl (by kernel_rfl) (by kernel_rfl) (by kernel_rfl) (fun _ _ _ h => h) (Or.inl ⟨by rfl, ?hy13⟩) (by assumption) ?rest13
      case hy13 => (intro w hSw; (try dsimp only at hSw); go_simp; first | done | with_reducible rfl)
      try simp only [Act.put, List.getElem_toArray, List.getElem_cons_succ, List.getElem_cons_zero, List.setIfInBounds_toArray, List.set_cons_zero, List.set_cons_succ]
      refine wpAnyH_take (i := 13) (v := ?vv14) rfl (by kernel_rfl) (by kernel_rfl) (by kernel_rfl) (fun _ _ _ h => h) (Or.inl ⟨by rfl, ?hy14⟩) (by assumption) ?rest14
      case hy14 => (intro w hSw; (try dsimp only at hSw); go_simp; first | done | with_reducible rfl)
      try simp only [Act.put, List.getElem_toArray, List.getElem_cons_succ, List.getElem_cons_zero, List.setIfInBounds_toArray, List.set_cons_zero, List.set_cons_succ]
      refine wpAnyH_take (i := 14) (v := ?vv15) rfl (by kernel_rfl) (by kernel_rfl) (by kernel_rfl) (fun _ _ _ h => h) (Or.inl ⟨by rfl, ?hy15⟩) (by assumption) ?rest15
      case hy15 => (intro w hSw; (try dsimp only at hSw); go_simp; first | done | with_reducible rfl)
      try simp only [Act.put, List.getElem_toArray, List.getElem_cons_succ, List.getElem_cons_zero, List.setIfInBounds_toArray, List.set_cons_zero, List.set_cons_succ]
      refine wpAnyH_take (i := 15) (v := ?vv16) rfl (by kernel_rfl) (by kernel_rfl) (by kernel_rfl) (fun _ _ _ h => h) (Or.inl ⟨by rfl, ?hy16⟩) (by assumption) ?rest16
      case hy16 => (intro w hSw; (try dsimp only at hSw); go_simp; first | done | with_reducible rfl)
      try simp only [Act.put, List.getElem_toArray, List.getElem_cons_succ, List.getElem_cons_zero, List.setIfInBounds_toArray, List.set_cons_zero, List.set_cons_succ]
      refine wpAnyH_take (i := 17) (v := ?vv17) rfl (by kernel_rfl) (by kernel_rfl) (by kernel_rfl) (fun _ _ _ h => h) (Or.inl ⟨by rfl, ?hy17⟩) (by assumption) ?rest17
      case hy17 => (intro w hSw; (try dsimp only at hSw); go_simp; first | done | with_reducible rfl)
      try simp only [Act.put, List.getElem_toArray, List.getElem_cons_succ, List.getElem_cons_zero, List.setIfInBounds_toArray, List.set_cons_zero, List.set_cons_succ]
      refine wpAnyH_ready (rs := [16]) (by kernel_rfl) (by simp) ?_
      refine AllReadyH.cons rfl (fun K hK => ?_) AllReadyH.nil
      go_simp
      refine (LP.out _ SD.out.bl).mono ?_
      rintro e wq ⟨qa, qc, rfl, op, bq⟩
      have SQ := hid (SD.out.next bq)
      have OP := hid (ownP_low op (show w.heap.size + 2 ≤ _ from by have := SD.out.rs.lt; omega))
      clear op bq hHeld
      go_wp2_with fail
      refine hK.out _ _ (ZC.out _ _ _ SQ.out) (fun hHeld => ?_)
      clear hK K
      try simp only [Act.put, List.getElem_toArray, List.getElem_cons_succ, List.getElem_cons_zero, List.setIfInBounds_toArray, List.set_cons_zero, List.set_cons_succ]
      refine wpAnyH_take (i := 18) (v := ?vv18) rfl (by kernel_rfl) (by kernel_rfl) (by kernel_rfl) (fun _ _ _ h => h) (Or.inl ⟨by rfl, ?hy18⟩) (by assumption) ?rest18
      case hy18 => (intro w hSw; (try dsimp only at hSw); go_simp; first | done | with_reducible rfl)
      try simp only [Act.put, List.getElem_toArray, List.getElem_cons_succ, List.getElem_cons_zero, List.setIfInBounds_toArray, List.set_cons_zero, List.set_cons_succ]
      have d0 := SQ.out.rs.cellAt (o := 0) rfl
      have f0 : wq.frozen? ⟨w.heap.size + 1, 0, none⟩ = false := SQ.out.rs.frozen
      have d1 := SQ.out.rs.cellAt (o := 1) rfl
      have f1 : wq.frozen? ⟨w.heap.size + 1, 1, none⟩ = false := SQ.out.rs.frozen
      have d2 := SQ.out.rs.cellAt (o := 2) rfl
      have f2 : wq.frozen? ⟨w.heap.size + 1, 2, none⟩ = false := SQ.out.rs.frozen
      have d3 := SQ.out.rs.cellAt (o := 3) rfl
      have f3 : wq.frozen? ⟨w.heap.size + 1, 3, none⟩ = false := SQ.out.rs.frozen
      have d4 := SQ.out.rs.cellAt (o := 4) rfl
      have f4 : wq.frozen? ⟨w.heap.size + 1, 4, none⟩ = false := SQ.out.rs.frozen
      have d5 := SQ.out.rs.cellAt (o := 5) rfl
      have f5 : wq.frozen? ⟨w.heap.size + 1, 5, none⟩ = false := SQ.out.rs.frozen
      have d6 := SQ.out.rs.cellAt (o := 6) rfl
      have f6 : wq.frozen? ⟨w.heap.size + 1, 6, none⟩ = false := SQ.out.rs.frozen
      have d7 := SQ.out.rs.cellAt (o := 7) rfl
      have f7 : wq.frozen? ⟨w.heap.size + 1, 7, none⟩ = false := SQ.out.rs.frozen
      have d8 := SQ.out.rs.cellAt (o := 8) rfl
      have f8 : wq.frozen? ⟨w.heap.size + 1, 8, none⟩ = false := SQ.out.rs.frozen
      have FN := hid (SQ.out.fin kd id n tk bk ky sm OP.out)
      clear SQ OP LP SD HF
      refine wpAnyH_ready (rs := [19]) (by kernel_rfl) (by simp) ?_
      refine AllReadyH.cons rfl (fun K hK => ?_) AllReadyH.nil
      clear hHeld
      go_simp
      have SE : (fun w' => w'.cell? ⟨w.heap.size, 0, none⟩ = some (.int .i64 kd) ∧ w'.cell? ⟨w.heap.size, 1, none⟩ = some (.string tk) ∧ w'.cell? ⟨w.heap.size, 2, none⟩ = some (.string bk) ∧ w'.cell? ⟨w.heap.size, 3, none⟩ = some (.string ky) ∧ w'.cell? ⟨w.heap.size, 4, none⟩ = some (.int .i64 id) ∧ w'.cell? ⟨w.heap.size, 5, none⟩ = some (.int .i64 n) ∧ w'.cell? ⟨w.heap.size, 6, none⟩ = some (.string sm) ∧ w'.cell? ⟨w.heap.size, 7, none⟩ = some (.slice pa pn pc) ∧ w'.cell? ⟨w.heap.size, 8, none⟩ = some (.slice ka l.length kc)) (((((((((wq.setCell ⟨w.heap.size + 1, 0, none⟩ (.int .i64 kd)).setCell ⟨w.heap.size + 1, 1, none⟩ (.string tk)).setCell ⟨w.heap.size + 1, 2, none⟩ (.string bk)).setCell ⟨w.heap.size + 1, 3, none⟩ (.string ky)).setCell ⟨w.heap.size + 1, 4, none⟩ (.int .i64 id)).setCell ⟨w.heap.size + 1, 5, none⟩ (.int .i64 n)).setCell ⟨w.heap.size + 1, 6, none⟩ (.string sm)).setCell ⟨w.heap.size + 1, 7, none⟩ (.slice qa pn qc)).setCell ⟨w.heap.size + 1, 8, none⟩ (.slice ad1 l.length cp1)) := by
        have q := FN.out.2.2.2.2
        exact ⟨q.cellAt rfl, q.cellAt rfl, q.cellAt rfl, q.cellAt rfl, q.cellAt rfl, q.cellAt rfl, q.cellAt rfl, q.cellAt rfl, q.cellAt rfl⟩
      refine hK.out _ _ SE (fun hHeld => ?_)
      clear hK K
      try simp only [Act.put, List.getElem_toArray, List.getElem_cons_succ, List.getElem_cons_zero, List.setIfInBounds_toArray, List.set_cons_zero, List.set_cons_succ]
      refine wpAnyH_done (by kernel_rfl) ?_ _
      clear ZC d0 d1 d2 d3 d4 d5 d6 d7 d8 f0 f1 f2 f3 f4 f5 f6 f7 f8
      go_wp2_with fail
      refine bodyPost_ret (v := .agg #[.int .i64 kd, .string tk, .string bk, .string ky, .int .i64 id, .int .i64 n, .string sm, .slice qa pn qc, .slice ad1 l.length cp1]) (results_cell_row (p := 2) rfl _ _ (w.heap.size + 1) 35 #[.int .i64 kd, .string tk, .string bk, .string ky, .int .i64 id, .int .i64 n, .string sm, .slice qa pn qc, .slice ad1 l.length cp1] (0, 0) _ rfl FN.out.1 Try.underlying35 rfl (by kernel_rfl)) rfl ⟨_, _, rfl, FN.out.2.1, FN.out.2.2.1, FN.out.2.2.2.1⟩
end Go.Proofs.Ytikkpfchbcfhlaa
