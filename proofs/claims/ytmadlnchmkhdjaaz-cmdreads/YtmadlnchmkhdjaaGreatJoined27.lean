/- Joined: A command as the document has it: the law's Ref. Picks that a reader takes: the document's walk. The document's Check of a command. -/
import Derived.Test.YtmadlnchmkhdjaaGreatJoined23
import Derived.Test.YtmadlnchmkhdjaaGreatJoined08
import Derived.Deep.CutRange
import Derived.Test.YtmadlnchmkhdjaaGreatJoined18
import Derived.Test.YtmadlnchmkhdjaaGreatJoined19
import Derived.Laws.ResultCell
namespace Go.Proofs.YtmadlnchmkhdjaaGreat
open Go.RowKit Go.Maps
set_option linter.unusedVariables false
set_option linter.unusedSimpArgs false

theorem elRK : ElT 32 60 2 24 := ⟨Tryz.underlying32, ⟨.agg #[.int .i64 0, .string ⟨#[]⟩], by kernel_rfl, rfl⟩, by decide⟩
/-- the memory of Ref: its box, its result, the picks that it made -/
structure RfS (w : World) (cs : List Value) (v : Value) (l : List Pk) (W : World) : Prop where
  bx : RowIs W w.heap.size cs 25
  rs : RowIs W (w.heap.size + 1) [.int .i64 0, .string ⟨#[]⟩, .string ⟨#[]⟩, .string ⟨#[]⟩, .int .i64 0, .int .i64 0, .string ⟨#[]⟩, .slice none 0 0, .slice none 0 0] 34
  ow : OwnK W (w.heap.size + 2) 60 v l
  bl : Below w.heap.size w W
theorem RfS.next {w W W' : World} {cs : List Value} {v : Value} {l : List Pk} (x : RfS w cs v l W) (hb : Below W.heap.size W W') : RfS w cs v l W' :=
  have k := hb.keep (fun _ => False)
  ⟨x.bx.keep k (fun h => h), x.rs.keep k (fun h => h), x.ow.next hb, below_on x.bl hb⟩
theorem RfS.app {w W W' : World} {cs : List Value} {v v' : Value} {l l' : List Pk} (x : RfS w cs v l W) (ho : OwnK W' (w.heap.size + 2) 60 v' l') (hk : Keep (fun k => v.ownBlock = some k) W W') : RfS w cs v' l' W' := by
  have hge := fun k (e : v.ownBlock = some k) => ownsRow_ge x.ow e
  exact ⟨x.bx.keep hk (fun e => by have := hge _ e; omega), x.rs.keep hk (fun e => by have := hge _ e; omega), ho, x.bl.trans (keep_below hk (fun j hj e => by have := hge _ e; omega) x.bl.size)⟩
theorem RfS.fin {w W : World} {cs : List Value} {v pv : Value} {l : List Pk} {lp : List Pc} (kd id n : Int) (tk bk ky sm : ByteArray) (x : RfS w cs v l W) (hp : OwnP W (w.heap.size + 2) 90 pv lp) :
    RowIs (((((((((W.setCell ⟨w.heap.size + 1, 0, none⟩ (.int .i64 kd)).setCell ⟨w.heap.size + 1, 1, none⟩ (.string tk)).setCell ⟨w.heap.size + 1, 2, none⟩ (.string bk)).setCell ⟨w.heap.size + 1, 3, none⟩ (.string ky)).setCell ⟨w.heap.size + 1, 4, none⟩ (.int .i64 id)).setCell ⟨w.heap.size + 1, 5, none⟩ (.int .i64 n)).setCell ⟨w.heap.size + 1, 6, none⟩ (.string sm)).setCell ⟨w.heap.size + 1, 7, none⟩ (pv)).setCell ⟨w.heap.size + 1, 8, none⟩ (v)) (w.heap.size + 1) [.int .i64 kd, .string tk, .string bk, .string ky, .int .i64 id, .int .i64 n, .string sm, pv, v] 34 ∧ OwnP (((((((((W.setCell ⟨w.heap.size + 1, 0, none⟩ (.int .i64 kd)).setCell ⟨w.heap.size + 1, 1, none⟩ (.string tk)).setCell ⟨w.heap.size + 1, 2, none⟩ (.string bk)).setCell ⟨w.heap.size + 1, 3, none⟩ (.string ky)).setCell ⟨w.heap.size + 1, 4, none⟩ (.int .i64 id)).setCell ⟨w.heap.size + 1, 5, none⟩ (.int .i64 n)).setCell ⟨w.heap.size + 1, 6, none⟩ (.string sm)).setCell ⟨w.heap.size + 1, 7, none⟩ (pv)).setCell ⟨w.heap.size + 1, 8, none⟩ (v)) w.heap.size 90 pv lp ∧ OwnK (((((((((W.setCell ⟨w.heap.size + 1, 0, none⟩ (.int .i64 kd)).setCell ⟨w.heap.size + 1, 1, none⟩ (.string tk)).setCell ⟨w.heap.size + 1, 2, none⟩ (.string bk)).setCell ⟨w.heap.size + 1, 3, none⟩ (.string ky)).setCell ⟨w.heap.size + 1, 4, none⟩ (.int .i64 id)).setCell ⟨w.heap.size + 1, 5, none⟩ (.int .i64 n)).setCell ⟨w.heap.size + 1, 6, none⟩ (.string sm)).setCell ⟨w.heap.size + 1, 7, none⟩ (pv)).setCell ⟨w.heap.size + 1, 8, none⟩ (v)) w.heap.size 60 v l ∧ Below w.heap.size w (((((((((W.setCell ⟨w.heap.size + 1, 0, none⟩ (.int .i64 kd)).setCell ⟨w.heap.size + 1, 1, none⟩ (.string tk)).setCell ⟨w.heap.size + 1, 2, none⟩ (.string bk)).setCell ⟨w.heap.size + 1, 3, none⟩ (.string ky)).setCell ⟨w.heap.size + 1, 4, none⟩ (.int .i64 id)).setCell ⟨w.heap.size + 1, 5, none⟩ (.int .i64 n)).setCell ⟨w.heap.size + 1, 6, none⟩ (.string sm)).setCell ⟨w.heap.size + 1, 7, none⟩ (pv)).setCell ⟨w.heap.size + 1, 8, none⟩ (v)) ∧ RowIs (((((((((W.setCell ⟨w.heap.size + 1, 0, none⟩ (.int .i64 kd)).setCell ⟨w.heap.size + 1, 1, none⟩ (.string tk)).setCell ⟨w.heap.size + 1, 2, none⟩ (.string bk)).setCell ⟨w.heap.size + 1, 3, none⟩ (.string ky)).setCell ⟨w.heap.size + 1, 4, none⟩ (.int .i64 id)).setCell ⟨w.heap.size + 1, 5, none⟩ (.int .i64 n)).setCell ⟨w.heap.size + 1, 6, none⟩ (.string sm)).setCell ⟨w.heap.size + 1, 7, none⟩ (pv)).setCell ⟨w.heap.size + 1, 8, none⟩ (v)) w.heap.size cs 25 := by
  have k : Keep (· = w.heap.size + 1) W (((((((((W.setCell ⟨w.heap.size + 1, 0, none⟩ (.int .i64 kd)).setCell ⟨w.heap.size + 1, 1, none⟩ (.string tk)).setCell ⟨w.heap.size + 1, 2, none⟩ (.string bk)).setCell ⟨w.heap.size + 1, 3, none⟩ (.string ky)).setCell ⟨w.heap.size + 1, 4, none⟩ (.int .i64 id)).setCell ⟨w.heap.size + 1, 5, none⟩ (.int .i64 n)).setCell ⟨w.heap.size + 1, 6, none⟩ (.string sm)).setCell ⟨w.heap.size + 1, 7, none⟩ (pv)).setCell ⟨w.heap.size + 1, 8, none⟩ (v)) := ((((((((keep_setCell W _ 0 _).trans (keep_setCell _ _ 1 _)).trans (keep_setCell _ _ 2 _)).trans (keep_setCell _ _ 3 _)).trans (keep_setCell _ _ 4 _)).trans (keep_setCell _ _ 5 _)).trans (keep_setCell _ _ 6 _)).trans (keep_setCell _ _ 7 _)).trans (keep_setCell _ _ 8 _)
  exact ⟨((((((((x.rs.set 0 _).set 1 _).set 2 _).set 3 _).set 4 _).set 5 _).set 6 _).set 7 _).set 8 _, ownP_low (k.ownsRow hp (fun b hb e => by have := ownsRow_ge hp hb; omega)) (by omega), ownK_low (k.ownsRow x.ow (fun b hb e => by have := ownsRow_ge x.ow hb; omega)) (by omega), x.bl.trans (keep_below k (fun j hj e => by omega) x.bl.size), x.bx.keep k (by omega)⟩
set_option maxRecDepth 100000 in
set_option maxHeartbeats 4000000 in
theorem cref_any (pv kv : Value) (c : Cm) (w : World) (hp : PcI w pv c.ps) (hk : PkI w kv c.ks) (hpl : c.ps.length * 24 ≤ 140737488355328) (hkl : c.ks.length * 24 ≤ 140737488355328) : Calls Tryz.prog 9 #[cmV pv kv c] w fun e w' => ∃ pv' kv', e = .returned (cmV pv' kv' c) ∧ OwnP w' w.heap.size 90 pv' c.ps ∧ OwnK w' w.heap.size 60 kv' c.ks ∧ Below w.heap.size w w' := by
  obtain ⟨pa, pc, rfl, -⟩ := hp.form
  obtain ⟨ka, kc, rfl, hc⟩ := hk.form
  have LP : Hid (∀ W, Below w.heap.size w W → Calls Tryz.prog 24 #[.slice pa c.ps.length pc] W fun e w' => ∃ ad cap, e = .returned (.slice ad c.ps.length cap) ∧ OwnP w' W.heap.size 90 (.slice ad c.ps.length cap) c.ps ∧ Below W.heap.size W w') := fun W hW => lpiece_any _ c.ps W (hp.next hW) hpl
  unfold cmV
  obtain ⟨kd, tk, bk, ky, id, n, sm, ps, l⟩ := c
  simp only at *
  have HC := hid hc
  have HL := hid hkl
  have HTK : Hid (∀ (k : Nat) (hk : k < l.length), kqC (l.take (k + 1)) = kqC (l.take k) ++ pkC l[k]) := fun k hk => kqC_take l k hk
  have HZ : Hid (l.take l.length = l) := List.take_length
  generalize hpn : ps.length = pn at *
  have S0 : Hid (RfS w [.int .i64 kd, .string tk, .string bk, .string ky, .int .i64 id, .int .i64 n, .string sm, .slice pa pn pc, .slice ka l.length kc] (.slice none 0 0) [] ((w.alloc (.cells #[.int .i64 kd, .string tk, .string bk, .string ky, .int .i64 id, .int .i64 n, .string sm, .slice pa pn pc, .slice ka l.length kc] 25)).alloc (.cells #[.int .i64 0, .string ⟨#[]⟩, .string ⟨#[]⟩, .string ⟨#[]⟩, .int .i64 0, .int .i64 0, .string ⟨#[]⟩, .slice none 0 0, .slice none 0 0] 34))) := by
    refine ⟨row_old (srow w _ _) _, ?_, ownK_nil _ _ _, below_al (below_al (Below.refl _ _) _) _⟩
    have := srow (w.alloc (.cells #[.int .i64 kd, .string tk, .string bk, .string ky, .int .i64 id, .int .i64 n, .string sm, .slice pa pn pc, .slice ka l.length kc] 25)) [.int .i64 0, .string ⟨#[]⟩, .string ⟨#[]⟩, .string ⟨#[]⟩, .int .i64 0, .int .i64 0, .string ⟨#[]⟩, .slice none 0 0, .slice none 0 0] 34
    rwa [show (w.alloc (.cells #[.int .i64 kd, .string tk, .string bk, .string ky, .int .i64 id, .int .i64 n, .string sm, .slice pa pn pc, .slice ka l.length kc] 25)).heap.size = w.heap.size + 1 from by simp] at this
  clear hc hp hk hpl hkl
  go_enter Tryz.func9, Tryz.ntmps9
  go_wp2
  go_loopw [3, 4] (fun o i wr => ∃ (k : Nat) (ad1 : Option Addr) (cp1 : Nat), k ≤ l.length ∧ o = .slice ad1 k cp1 ∧ i = .int .i64 (k : Int) ∧ Hid (RfS w [.int .i64 kd, .string tk, .string bk, .string ky, .int .i64 id, .int .i64 n, .string sm, .slice pa pn pc, .slice ka l.length kc] (.slice ad1 k cp1) (l.take k) wr)) (fun _ i _ => l.length - (intOf i).toNat)
  case atStart => exact ⟨0, none, 0, Nat.zero_le _, rfl, rfl, S0⟩
  case round =>
    clear S0
    obtain ⟨k, ad1, cp1, hk, rfl, rfl, HS⟩ := hrel
    have y8 := HS.out.bx.cellAt (o := 8) rfl
    by_cases hlt : k < l.length
    · have hk1 : (k : Int) < (l.length : Int) := by omega
      have hk0 : (0 : Int) ≤ (k : Int) := by omega
      obtain ⟨b, off, rfl, hb, c0, c1⟩ := HC.out k hlt
      have d0 := (HS.out.bl.cell (p := ⟨b, off + k * 2, none⟩) hb).trans c0
      have d1 := (HS.out.bl.cell (p := ⟨b, off + k * 2 + 1, none⟩) hb).trans c1
      have hwk : wrap64 ((k : Int) + 1) = ((k + 1 : Nat) : Int) := by have := HL.out; rw [IntWalk.wrap64_in _ (by omega)]; omega
      have HPL := hid (HTK.out k hlt)
      have HTL : Hid ((l.take k).length = k) := by show _ = _; rw [List.length_take]; omega
      have HTL2 : Hid ((l.take (k + 1)).length = k + 1) := by show _ = _; rw [List.length_take]; omega
      have HO1 := hid (pkC_one1 l[k])
      have HX1 : Hid (pkC l[k] = [.int .i64 l[k].n, .string l[k].su]) := rfl
      have HX2 : Hid ((pkC l[k]).length = 1 * 2) := rfl
      have HB1 : Hid (k + 1 ≤ 4611686018427387904) := by have := HL.out; show _ ≤ _; omega
      have HB2 : Hid ((k + 1) * 24 ≤ 140737488355328) := by have := HL.out; show _ ≤ _; omega
      have HLT := hid hlt
      generalize l[k] = p at *
      obtain ⟨pnn, psu⟩ := p
      simp only at d0 d1 HX1
      generalize pkC ⟨pnn, psu⟩ = XS at *
      have HS2 := hid (HS.out.next (below_al (Below.refl _ _) (.cells #[.int .i64 pnn, .string psu] 60)))
      have HGA : Hid ((wr.alloc (.cells #[.int .i64 pnn, .string psu] 60)).ownsRow (w.heap.size + 2) 60 2 (.slice ad1 k cp1) k (kqC (l.take k))) := by
        have := HS2.out.ow; unfold OwnK at this; rw [HTL.out] at this; exact this
      have HGX : Hid (GSrc (wr.alloc (.cells #[.int .i64 pnn, .string psu] 60)) (.slice (some ⟨wr.heap.size, 0, none⟩) 1 1) 1 XS) := by
        rw [HX1.out]; exact gsrc_block (heap_alloc_new _ _)
      have HSZ : Hid (w.heap.size + 2 ≤ (wr.alloc (.cells #[.int .i64 pnn, .string psu] 60)).heap.size) := by have := HS2.out.rs.lt; show _ ≤ _; omega
      have FIN : Hid (∀ ad' cap' w', w'.ownsRow (w.heap.size + 2) 60 2 (.slice ad' (k + 1) cap') (k + 1) (kqC (l.take k) ++ XS) → Keep (fun j => (Value.slice ad1 k cp1).ownBlock = some j) (wr.alloc (.cells #[.int .i64 pnn, .string psu] 60)) w' → Hid (RfS w [.int .i64 kd, .string tk, .string bk, .string ky, .int .i64 id, .int .i64 n, .string sm, .slice pa pn pc, .slice (some ⟨b, off, none⟩) l.length kc] (.slice ad' (k + 1) cap') (l.take (k + 1)) w')) := fun ad' cap' w' hr hk' => by
        refine HS2.out.app ?_ hk'
        unfold OwnK
        rw [HTL2.out, HPL.out]
        exact hr
      clear HC HTK HZ c0 c1 hb HL HS HPL HX1 hlt hk LP HS2 HTL HTL2
      go_wp2_with (at_builtin; refine wpl_gappL rfl _ _ elRK rfl (w.heap.size + 2) (.slice ad1 k cp1) (.slice (some ⟨wr.heap.size, 0, none⟩) 1 1) (kqC (l.take k)) XS k 1 (k + 1) rfl rfl rfl HGA.out HSZ.out HGX.out HX2.out HO1.out HB1.out HB2.out ?_; intro ad' cap' w' hr' hk')
      have F1 := FIN.out _ _ _ hr' hk'
      clear hr' hk' FIN HGA HGX HSZ d0 d1 y8
      go_wp2
      exact ⟨⟨k + 1, _, _, HLT.out, rfl, by first | rw [hwk] | rfl | simp, F1⟩, by (try rw [hwk]); have := HLT.out; simp [intOf]; omega⟩
    · have hke : k = l.length := by omega
      have hd : decide ((k : Int) < (l.length : Int)) = false := decide_eq_false (by omega)
      have hd2 : decide (k < l.length) = false := decide_eq_false hlt
      have HF : Hid (RfS w [.int .i64 kd, .string tk, .string bk, .string ky, .int .i64 id, .int .i64 n, .string sm, .slice pa pn pc, .slice ka l.length kc] (.slice ad1 l.length cp1) l wr) := by
        have := HS.out
        rw [hke, HZ.out] at this
        exact this
      have hke2 := hke
      subst hke2
      have HP2 := hid hpn
      clear HC HTK HZ HL HS hke hlt hk hpn
      go_upto_region 6 with fail
      clear y8
      have SD := hid (HF.out.next (Below.refl _ _).drew)
      have ZC : Hid (∀ W v2 l2, RfS w [.int .i64 kd, .string tk, .string bk, .string ky, .int .i64 id, .int .i64 n, .string sm, .slice pa pn pc, .slice ka l.length kc] v2 l2 W → W.cell? ⟨w.heap.size, 0, none⟩ = some (.int .i64 kd) ∧ W.cell? ⟨w.heap.size, 1, none⟩ = some (.string tk) ∧ W.cell? ⟨w.heap.size, 2, none⟩ = some (.string bk) ∧ W.cell? ⟨w.heap.size, 3, none⟩ = some (.string ky) ∧ W.cell? ⟨w.heap.size, 4, none⟩ = some (.int .i64 id) ∧ W.cell? ⟨w.heap.size, 5, none⟩ = some (.int .i64 n) ∧ W.cell? ⟨w.heap.size, 6, none⟩ = some (.string sm) ∧ W.cell? ⟨w.heap.size, 7, none⟩ = some (.slice pa pn pc) ∧ W.cell? ⟨w.heap.size, 8, none⟩ = some (.slice ka l.length kc)) := fun W v2 l2 h => by
        have q := h.bx
        exact ⟨q.cellAt rfl, q.cellAt rfl, q.cellAt rfl, q.cellAt rfl, q.cellAt rfl, q.cellAt rfl, q.cellAt rfl, q.cellAt rfl, q.cellAt rfl⟩
      refine wp_region_held_drew (S := (fun w' => w'.cell? ⟨w.heap.size, 0, none⟩ = some (.int .i64 kd) ∧ w'.cell? ⟨w.heap.size, 1, none⟩ = some (.string tk) ∧ w'.cell? ⟨w.heap.size, 2, none⟩ = some (.string bk) ∧ w'.cell? ⟨w.heap.size, 3, none⟩ = some (.string ky) ∧ w'.cell? ⟨w.heap.size, 4, none⟩ = some (.int .i64 id) ∧ w'.cell? ⟨w.heap.size, 5, none⟩ = some (.int .i64 n) ∧ w'.cell? ⟨w.heap.size, 6, none⟩ = some (.string sm) ∧ w'.cell? ⟨w.heap.size, 7, none⟩ = some (.slice pa pn pc) ∧ w'.cell? ⟨w.heap.size, 8, none⟩ = some (.slice ka l.length kc))) (by kernel_rfl) (ZC.out _ _ _ SD.out) (fun hHeld => ?_)
      refine wpAnyH_take (i := 0) (v := ?vv1) rfl (by kernel_rfl) (by kernel_rfl) (by kernel_rfl) (fun _ _ _ h => h) (Or.inl ⟨by rfl, ?hy1⟩) (by assumption) ?rest1
      case hy1 => (intro w hSw; (try dsimp only at hSw); go_simp; first | done | with_reducible rfl)
      try simp only [Act.put, List.getElem_toArray, List.getElem_cons_succ, List.getElem_cons_zero, List.setIfInBounds_toArray, List.set_cons_zero, List.set_cons_succ]
      refine wpAnyH_take (i := 1) (v := ?vv2) rfl (by kernel_rfl) (by kernel_rfl) (by kernel_rfl) (fun _ _ _ h => h) (Or.inl ⟨by rfl, ?hy2⟩) (by assumption) ?rest2
      case hy2 => (intro w hSw; (try dsimp only at hSw); go_simp; first | done | with_reducible rfl)
      try simp only [Act.put, List.getElem_toArray, List.getElem_cons_succ, List.getElem_cons_zero, List.setIfInBounds_toArray, List.set_cons_zero, List.set_cons_succ]
      refine wpAnyH_take (i := 2) (v := ?vv3) rfl (by kernel_rfl) (by kernel_rfl) (by kernel_rfl) (fun _ _ _ h => h) (Or.inl ⟨by rfl, ?hy3⟩) (by assumption) ?rest3
      case hy3 => (intro w hSw; (try dsimp only at hSw); go_simp; first | done | with_reducible rfl)
      try simp only [Act.put, List.getElem_toArray, List.getElem_cons_succ, List.getElem_cons_zero, List.setIfInBounds_toArray, List.set_cons_zero, List.set_cons_succ]
      refine wpAnyH_take (i := 3) (v := ?vv4) rfl (by kernel_rfl) (by kernel_rfl) (by kernel_rfl) (fun _ _ _ h => h) (Or.inl ⟨by rfl, ?hy4⟩) (by assumption) ?rest4
      case hy4 => (intro w hSw; (try dsimp only at hSw); go_simp; first | done | with_reducible rfl)
      try simp only [Act.put, List.getElem_toArray, List.getElem_cons_succ, List.getElem_cons_zero, List.setIfInBounds_toArray, List.set_cons_zero, List.set_cons_succ]
      refine wpAnyH_take (i := 4) (v := ?vv5) rfl (by kernel_rfl) (by kernel_rfl) (by kernel_rfl) (fun _ _ _ h => h) (Or.inl ⟨by rfl, ?hy5⟩) (by assumption) ?rest5
      case hy5 => (intro w hSw; (try dsimp only at hSw); go_simp; first | done | with_reducible rfl)
      try simp only [Act.put, List.getElem_toArray, List.getElem_cons_succ, List.getElem_cons_zero, List.setIfInBounds_toArray, List.set_cons_zero, List.set_cons_succ]
      refine wpAnyH_take (i := 5) (v := ?vv6) rfl (by kernel_rfl) (by kernel_rfl) (by kernel_rfl) (fun _ _ _ h => h) (Or.inl ⟨by rfl, ?hy6⟩) (by assumption) ?rest6
      case hy6 => (intro w hSw; (try dsimp only at hSw); go_simp; first | done | with_reducible rfl)
      try simp only [Act.put, List.getElem_toArray, List.getElem_cons_succ, List.getElem_cons_zero, List.setIfInBounds_toArray, List.set_cons_zero, List.set_cons_succ]
      refine wpAnyH_take (i := 6) (v := ?vv7) rfl (by kernel_rfl) (by kernel_rfl) (by kernel_rfl) (fun _ _ _ h => h) (Or.inl ⟨by rfl, ?hy7⟩) (by assumption) ?rest7
      case hy7 => (intro w hSw; (try dsimp only at hSw); go_simp; first | done | with_reducible rfl)
      try simp only [Act.put, List.getElem_toArray, List.getElem_cons_succ, List.getElem_cons_zero, List.setIfInBounds_toArray, List.set_cons_zero, List.set_cons_succ]
      refine wpAnyH_take (i := 7) (v := ?vv8) rfl (by kernel_rfl) (by kernel_rfl) (by kernel_rfl) (fun _ _ _ h => h) (Or.inl ⟨by rfl, ?hy8⟩) (by assumption) ?rest8
      case hy8 => (intro w hSw; (try dsimp only at hSw); go_simp; first | done | with_reducible rfl)
      try simp only [Act.put, List.getElem_toArray, List.getElem_cons_succ, List.getElem_cons_zero, List.setIfInBounds_toArray, List.set_cons_zero, List.set_cons_succ]
      refine wpAnyH_take (i := 8) (v := ?vv9) rfl (by kernel_rfl) (by kernel_rfl) (by kernel_rfl) (fun _ _ _ h => h) (Or.inl ⟨by rfl, ?hy9⟩) (by assumption) ?rest9
      case hy9 => (intro w hSw; (try dsimp only at hSw); go_simp; first | done | with_reducible rfl)
      try simp only [Act.put, List.getElem_toArray, List.getElem_cons_succ, List.getElem_cons_zero, List.setIfInBounds_toArray, List.set_cons_zero, List.set_cons_succ]
      refine wpAnyH_take (i := 9) (v := ?vv10) rfl (by kernel_rfl) (by kernel_rfl) (by kernel_rfl) (fun _ _ _ h => h) (Or.inl ⟨by rfl, ?hy10⟩) (by assumption) ?rest10
      case hy10 => (intro w hSw; (try dsimp only at hSw); go_simp; first | done | with_reducible rfl)
      try simp only [Act.put, List.getElem_toArray, List.getElem_cons_succ, List.getElem_cons_zero, List.setIfInBounds_toArray, List.set_cons_zero, List.set_cons_succ]
      refine wpAnyH_take (i := 10) (v := ?vv11) rfl (by kernel_rfl) (by kernel_rfl) (by kernel_rfl) (fun _ _ _ h => h) (Or.inl ⟨by rfl, ?hy11⟩) (by assumption) ?rest11
      case hy11 => (intro w hSw; (try dsimp only at hSw); go_simp; first | done | with_reducible rfl)
      try simp only [Act.put, List.getElem_toArray, List.getElem_cons_succ, List.getElem_cons_zero, List.setIfInBounds_toArray, List.set_cons_zero, List.set_cons_succ]
      refine wpAnyH_take (i := 11) (v := ?vv12) rfl (by kernel_rfl) (by kernel_rfl) (by kernel_rfl) (fun _ _ _ h => h) (Or.inl ⟨by rfl, ?hy12⟩) (by assumption) ?rest12
      case hy12 => (intro w hSw; (try dsimp only at hSw); go_simp; first | done | with_reducible rfl)
      try simp only [Act.put, List.getElem_toArray, List.getElem_cons_succ, List.getElem_cons_zero, List.setIfInBounds_toArray, List.set_cons_zero, List.set_cons_succ]
      refine wpAnyH_take (i := 12) (v := ?vv13) rfl (by kernel_rfl) (by kernel_rfl) (by kernel_rfl) (fun _ _ _ h => h) (Or.inl ⟨by rfl, ?hy13⟩) (by assumption) ?rest13
      case hy13 => (intro w hSw; (try dsimp only at hSw); go_simp; first | done | with_reducible rfl)
      try simp only [Act.put, List.getElem_toArray, List.getElem_cons_succ, List.getElem_cons_zero, List.setIfInBounds_toArray, List.set_cons_zero, List.set_cons_succ]
      refine wpAnyH_take (i := 13) (v := ?vv14) rfl (by kernel_rfl) (by kernel_rfl) (by kernel_rfl) (fun _ _ _ h => h) (Or.inl ⟨by rfl, ?hy14⟩) (by assumption) ?rest14
      case hy14 => (intro w hSw; (try dsimp only at hSw); go_simp; first | done | with_reducible rfl)
      try simp only [Act.put, List.getElem_toArray, List.getElem_cons_succ, List.getElem_cons_zero, List.setIfInBounds_toArray, List.set_cons_zero, List.set_cons_succ]
      refine wpAnyH_take (i := 14) (v := ?vv15) rfl (by kernel_rfl) (by kernel_rfl) (by kernel_rfl) (fun _ _ _ h => h) (Or.inl ⟨by rfl, ?hy15⟩) (by assumption) ?rest15
      case hy15 => (intro w hSw; (try dsimp only at hSw); go_simp; first | done | with_reducible rfl)
      try simp only [Act.put, List.getElem_toArray, List.getElem_cons_succ, List.getElem_cons_zero, List.setIfInBounds_toArray, List.set_cons_zero, List.set_cons_succ]
      refine wpAnyH_take (i := 15) (v := ?vv16) rfl (by kernel_rfl) (by kernel_rfl) (by kernel_rfl) (fun _ _ _ h => h) (Or.inl ⟨by rfl, ?hy16⟩) (by assumption) ?rest16
      case hy16 => (intro w hSw; (try dsimp only at hSw); go_simp; first | done | with_reducible rfl)
      try simp only [Act.put, List.getElem_toArray, List.getElem_cons_succ, List.getElem_cons_zero, List.setIfInBounds_toArray, List.set_cons_zero, List.set_cons_succ]
      refine wpAnyH_take (i := 17) (v := ?vv17) rfl (by kernel_rfl) (by kernel_rfl) (by kernel_rfl) (fun _ _ _ h => h) (Or.inl ⟨by rfl, ?hy17⟩) (by assumption) ?rest17
      case hy17 => (intro w hSw; (try dsimp only at hSw); go_simp; first | done | with_reducible rfl)
      try simp only [Act.put, List.getElem_toArray, List.getElem_cons_succ, List.getElem_cons_zero, List.setIfInBounds_toArray, List.set_cons_zero, List.set_cons_succ]
      refine wpAnyH_ready (rs := [16]) (by kernel_rfl) (by simp) ?_
      refine AllReadyH.cons rfl (fun K hK => ?_) AllReadyH.nil
      go_simp
      refine (LP.out _ SD.out.bl).mono ?_
      rintro e wq ⟨qa, qc, rfl, op, bq⟩
      have SQ := hid (SD.out.next bq)
      have OP := hid (ownP_low op (show w.heap.size + 2 ≤ _ from by have := SD.out.rs.lt; omega))
      clear op bq hHeld
      go_wp2_with fail
      refine hK.out _ _ (ZC.out _ _ _ SQ.out) (fun hHeld => ?_)
      clear hK K
      try simp only [Act.put, List.getElem_toArray, List.getElem_cons_succ, List.getElem_cons_zero, List.setIfInBounds_toArray, List.set_cons_zero, List.set_cons_succ]
      refine wpAnyH_take (i := 18) (v := ?vv18) rfl (by kernel_rfl) (by kernel_rfl) (by kernel_rfl) (fun _ _ _ h => h) (Or.inl ⟨by rfl, ?hy18⟩) (by assumption) ?rest18
      case hy18 => (intro w hSw; (try dsimp only at hSw); go_simp; first | done | with_reducible rfl)
      try simp only [Act.put, List.getElem_toArray, List.getElem_cons_succ, List.getElem_cons_zero, List.setIfInBounds_toArray, List.set_cons_zero, List.set_cons_succ]
      have d0 := SQ.out.rs.cellAt (o := 0) rfl
      have f0 : wq.frozen? ⟨w.heap.size + 1, 0, none⟩ = false := SQ.out.rs.frozen
      have d1 := SQ.out.rs.cellAt (o := 1) rfl
      have f1 : wq.frozen? ⟨w.heap.size + 1, 1, none⟩ = false := SQ.out.rs.frozen
      have d2 := SQ.out.rs.cellAt (o := 2) rfl
      have f2 : wq.frozen? ⟨w.heap.size + 1, 2, none⟩ = false := SQ.out.rs.frozen
      have d3 := SQ.out.rs.cellAt (o := 3) rfl
      have f3 : wq.frozen? ⟨w.heap.size + 1, 3, none⟩ = false := SQ.out.rs.frozen
      have d4 := SQ.out.rs.cellAt (o := 4) rfl
      have f4 : wq.frozen? ⟨w.heap.size + 1, 4, none⟩ = false := SQ.out.rs.frozen
      have d5 := SQ.out.rs.cellAt (o := 5) rfl
      have f5 : wq.frozen? ⟨w.heap.size + 1, 5, none⟩ = false := SQ.out.rs.frozen
      have d6 := SQ.out.rs.cellAt (o := 6) rfl
      have f6 : wq.frozen? ⟨w.heap.size + 1, 6, none⟩ = false := SQ.out.rs.frozen
      have d7 := SQ.out.rs.cellAt (o := 7) rfl
      have f7 : wq.frozen? ⟨w.heap.size + 1, 7, none⟩ = false := SQ.out.rs.frozen
      have d8 := SQ.out.rs.cellAt (o := 8) rfl
      have f8 : wq.frozen? ⟨w.heap.size + 1, 8, none⟩ = false := SQ.out.rs.frozen
      have FN := hid (SQ.out.fin kd id n tk bk ky sm OP.out)
      clear SQ OP LP SD HF
      refine wpAnyH_ready (rs := [19]) (by kernel_rfl) (by simp) ?_
      refine AllReadyH.cons rfl (fun K hK => ?_) AllReadyH.nil
      clear hHeld
      go_simp
      have SE : (fun w' => w'.cell? ⟨w.heap.size, 0, none⟩ = some (.int .i64 kd) ∧ w'.cell? ⟨w.heap.size, 1, none⟩ = some (.string tk) ∧ w'.cell? ⟨w.heap.size, 2, none⟩ = some (.string bk) ∧ w'.cell? ⟨w.heap.size, 3, none⟩ = some (.string ky) ∧ w'.cell? ⟨w.heap.size, 4, none⟩ = some (.int .i64 id) ∧ w'.cell? ⟨w.heap.size, 5, none⟩ = some (.int .i64 n) ∧ w'.cell? ⟨w.heap.size, 6, none⟩ = some (.string sm) ∧ w'.cell? ⟨w.heap.size, 7, none⟩ = some (.slice pa pn pc) ∧ w'.cell? ⟨w.heap.size, 8, none⟩ = some (.slice ka l.length kc)) (((((((((wq.setCell ⟨w.heap.size + 1, 0, none⟩ (.int .i64 kd)).setCell ⟨w.heap.size + 1, 1, none⟩ (.string tk)).setCell ⟨w.heap.size + 1, 2, none⟩ (.string bk)).setCell ⟨w.heap.size + 1, 3, none⟩ (.string ky)).setCell ⟨w.heap.size + 1, 4, none⟩ (.int .i64 id)).setCell ⟨w.heap.size + 1, 5, none⟩ (.int .i64 n)).setCell ⟨w.heap.size + 1, 6, none⟩ (.string sm)).setCell ⟨w.heap.size + 1, 7, none⟩ (.slice qa pn qc)).setCell ⟨w.heap.size + 1, 8, none⟩ (.slice ad1 l.length cp1)) := by
        have q := FN.out.2.2.2.2
        exact ⟨q.cellAt rfl, q.cellAt rfl, q.cellAt rfl, q.cellAt rfl, q.cellAt rfl, q.cellAt rfl, q.cellAt rfl, q.cellAt rfl, q.cellAt rfl⟩
      refine hK.out _ _ SE (fun hHeld => ?_)
      clear hK K
      try simp only [Act.put, List.getElem_toArray, List.getElem_cons_succ, List.getElem_cons_zero, List.setIfInBounds_toArray, List.set_cons_zero, List.set_cons_succ]
      refine wpAnyH_done (by kernel_rfl) ?_ _
      clear ZC d0 d1 d2 d3 d4 d5 d6 d7 d8 f0 f1 f2 f3 f4 f5 f6 f7 f8
      go_wp2_with fail
      refine bodyPost_ret (v := .agg #[.int .i64 kd, .string tk, .string bk, .string ky, .int .i64 id, .int .i64 n, .string sm, .slice qa pn qc, .slice ad1 l.length cp1]) (results_cell_row (p := 2) rfl _ _ (w.heap.size + 1) 34 #[.int .i64 kd, .string tk, .string bk, .string ky, .int .i64 id, .int .i64 n, .string sm, .slice qa pn qc, .slice ad1 l.length cp1] (0, 0) _ rfl FN.out.1 Tryz.underlying34 rfl (by kernel_rfl)) rfl ⟨_, _, rfl, FN.out.2.1, FN.out.2.2.1, FN.out.2.2.2.1⟩
end Go.Proofs.YtmadlnchmkhdjaaGreat
namespace Go.Proofs.YtmadlnchmkhdjaaGreat
open Go.RowKit Go.Maps
set_option linter.unusedVariables false
set_option linter.unusedSimpArgs false

/-- a reader's value in a box at g, pieces behind it, the result's cell ahead -/
structure RkS (w : World) (g : Nat) (s : ByteArray) (a e : Int) (v : Value) (acc : List Pk) (W : World) : Prop where
  rd : RowIs W g [.string s, .int .i64 a, .int .i64 e] 79
  own : OwnK W (g + 1) 60 v acc
  res : RowIs W (w.heap.size + 1) [.string ⟨#[]⟩, .int .i64 0, .int .i64 0] 79
  bel : Below w.heap.size w W
  low : w.heap.size + 1 < g
theorem RkS.call {w W W' : World} {g : Nat} {s : ByteArray} {a e : Int} {v : Value} {acc : List Pk} (h : RkS w g s a e v acc W) (hb : Below W.heap.size W W') : RkS w g s a e v acc W' :=
  ⟨h.rd.keep (hb.keep (fun _ => False)) (fun h => h), h.own.next hb, h.res.keep (hb.keep (fun _ => False)) (fun h => h), h.bel.trans (hb.mono h.bel.size), h.low⟩
theorem RkS.al {w W : World} {g : Nat} {s : ByteArray} {a e : Int} {v : Value} {acc : List Pk} (h : RkS w g s a e v acc W) (o : Obj) : RkS w g s a e v acc (W.alloc o) := h.call ((Below.refl _ _).alloc (Nat.le_refl _) o)
theorem RkS.put {w W : World} {g : Nat} {s : ByteArray} {a e : Int} {v : Value} {acc : List Pk} (h : RkS w g s a e v acc W) (a' e' : Int) : RkS w g s a' e' v acc (((W.setCell ⟨g, 0, none⟩ (.string s)).setCell ⟨g, 1, none⟩ (.int .i64 a')).setCell ⟨g, 2, none⟩ (.int .i64 e')) := by
  have k : Keep (· = g) W (((W.setCell ⟨g, 0, none⟩ (.string s)).setCell ⟨g, 1, none⟩ (.int .i64 a')).setCell ⟨g, 2, none⟩ (.int .i64 e')) := ((keep_setCell _ _ _ _).trans (keep_setCell _ _ _ _)).trans (keep_setCell _ _ _ _)
  have h1 := h.low
  exact ⟨((h.rd.set 0 _).set 1 _).set 2 _, k.ownsRow h.own (fun j hj e => by have := ownsRow_ge h.own hj; omega), h.res.keep k (by omega), h.bel.trans (keep_below k (fun j hj e => by omega) h.bel.size), h.low⟩
theorem RkS.app {w W W' : World} {g : Nat} {s : ByteArray} {a e : Int} {v v' : Value} {acc acc' : List Pk} (h : RkS w g s a e v acc W) (ho : OwnK W' (g + 1) 60 v' acc') (hk : Keep (fun k => v.ownBlock = some k) W W') : RkS w g s a e v' acc' W' := by
  have hge := fun k (e : v.ownBlock = some k) => ownsRow_ge h.own e
  have hl := h.low
  exact ⟨h.rd.keep hk (fun e => by have := hge _ e; omega), ho, h.res.keep hk (fun e => by have := hge _ e; omega), h.bel.trans (keep_below hk (fun k hk' e => by have := hge _ e; omega) h.bel.size), h.low⟩
theorem RkS.three {w W : World} {g : Nat} {s : ByteArray} {a e : Int} {v : Value} {acc : List Pk} (h : RkS w g s a e v acc W) : (W.cell? ⟨g, 0, none⟩ = some (.string s) ∧ W.cell? ⟨g, 1, none⟩ = some (.int .i64 a) ∧ W.cell? ⟨g, 2, none⟩ = some (.int .i64 e)) ∧ W.frozen? ⟨g, 0, none⟩ = false ∧ W.frozen? ⟨g, 1, none⟩ = false ∧ W.frozen? ⟨g, 2, none⟩ = false :=
  ⟨⟨h.rd.cellAt rfl, h.rd.cellAt rfl, h.rd.cellAt rfl⟩, h.rd.frozen, h.rd.frozen, h.rd.frozen⟩
theorem RkS.done {w W : World} {g : Nat} {s : ByteArray} {a e : Int} {v : Value} {acc : List Pk} (h : RkS w g s a e v acc W) (x0 x1 x2 : Value) : RowIs (((W.setCell ⟨w.heap.size + 1, 0, none⟩ x0).setCell ⟨w.heap.size + 1, 1, none⟩ x1).setCell ⟨w.heap.size + 1, 2, none⟩ x2) (w.heap.size + 1) [x0, x1, x2] 79 ∧ OwnK (((W.setCell ⟨w.heap.size + 1, 0, none⟩ x0).setCell ⟨w.heap.size + 1, 1, none⟩ x1).setCell ⟨w.heap.size + 1, 2, none⟩ x2) w.heap.size 60 v acc ∧ Below w.heap.size w (((W.setCell ⟨w.heap.size + 1, 0, none⟩ x0).setCell ⟨w.heap.size + 1, 1, none⟩ x1).setCell ⟨w.heap.size + 1, 2, none⟩ x2) := by
  have k : Keep (· = w.heap.size + 1) W (((W.setCell ⟨w.heap.size + 1, 0, none⟩ x0).setCell ⟨w.heap.size + 1, 1, none⟩ x1).setCell ⟨w.heap.size + 1, 2, none⟩ x2) := ((keep_setCell _ _ _ _).trans (keep_setCell _ _ _ _)).trans (keep_setCell _ _ _ _)
  have h1 := h.low
  exact ⟨((h.res.set 0 _).set 1 _).set 2 _, ownsRow_base (k.ownsRow h.own (fun j hj e => by have := ownsRow_ge h.own hj; omega)) (by omega), h.bel.trans (keep_below k (fun j hj e => by omega) h.bel.size)⟩
theorem RkS.may {w W : World} {g : Nat} {s : ByteArray} {a e : Int} {v : Value} {acc : List Pk} (h : RkS w g s a e v acc W) : (W.cell? ⟨w.heap.size + 1, 0, none⟩ = some (.string ⟨#[]⟩) ∧ W.cell? ⟨w.heap.size + 1, 1, none⟩ = some (.int .i64 0) ∧ W.cell? ⟨w.heap.size + 1, 2, none⟩ = some (.int .i64 0)) ∧ W.frozen? ⟨w.heap.size + 1, 0, none⟩ = false ∧ W.frozen? ⟨w.heap.size + 1, 1, none⟩ = false ∧ W.frozen? ⟨w.heap.size + 1, 2, none⟩ = false :=
  ⟨⟨h.res.cellAt rfl, h.res.cellAt rfl, h.res.cellAt rfl⟩, h.res.frozen, h.res.frozen, h.res.frozen⟩
set_option maxRecDepth 100000 in
set_option maxHeartbeats 4000000 in
theorem rpicks_any (t : ByteArray) (a0 e0 : Int) (w : World) (hs : t.size ≤ 140737488355328) : Calls Tryz.prog 47 #[.agg #[.string t, .int .i64 a0, .int .i64 e0]] w fun r w' => ∃ ad cap, r = .returned (.tuple #[.agg #[.string t, .int .i64 (rdK t a0 e0).a, .int .i64 (rdK t a0 e0).e], .slice ad (rdK t a0 e0).l.length cap]) ∧ OwnK w' w.heap.size 60 (.slice ad (rdK t a0 e0).l.length cap) (rdK t a0 e0).l ∧ Below w.heap.size w w' := by
  have hsm : t.size ≤ maxLen := by unfold maxLen; omega
  have RI : Hid (∀ (m a e : Int) (W : World), m ≤ 9223372036854775807 → Calls Tryz.prog 44 #[.agg #[.string t, .int .i64 a, .int .i64 e], .int .i64 m] W fun r w' => r = .returned (.tuple #[.agg #[.string t, .int .i64 (dcN t m a e).a, .int .i64 (dcN t m a e).e], .int .i64 (dcN t m a e).n]) ∧ Below W.heap.size W w') := fun m a e W hm => ref_reader_int t a e m W hsm hm (nS_int t a e m hm)
  have RT : Hid (∀ (a e : Int) (W : World), Calls Tryz.prog 45 #[.agg #[.string t, .int .i64 a, .int .i64 e], .int .i64 64] W fun r w' => r = .returned (.tuple #[.agg #[.string t, .int .i64 (tS t a e 64).a, .int .i64 (tS t a e 64).e], .string (tS t a e 64).x]) ∧ Below W.heap.size W w') := fun a e W => ref_reader_text t a e 64 W hs
  obtain ⟨N, hN⟩ : ∃ N, N = dcN t 100 a0 e0 := ⟨_, rfl⟩
  have RN := hid (fun W => RI.out 100 a0 e0 W (by omega))
  have HN5 := hid (dcN_le t 100 a0 e0 (by omega))
  have HM : Hid (rdK t a0 e0 = dcK t (N.n - 0) N.a N.e) := by show _ = _; rw [hN]; rfl
  rw [← hN] at RN HN5
  have HR0 : Hid (RowIs ((w.alloc (.cells #[.string t, .int .i64 a0, .int .i64 e0] 79)).alloc (.cells #[.string ⟨#[]⟩, .int .i64 0, .int .i64 0] 79)) (w.heap.size + 1) [.string ⟨#[]⟩, .int .i64 0, .int .i64 0] 79) := by
    have := srow (w.alloc (.cells #[.string t, .int .i64 a0, .int .i64 e0] 79)) [.string ⟨#[]⟩, .int .i64 0, .int .i64 0] 79
    rw [show (w.alloc (.cells #[.string t, .int .i64 a0, .int .i64 e0] 79)).heap.size = w.heap.size + 1 by simp] at this
    exact this
  have HB0 : Hid (Below w.heap.size w ((w.alloc (.cells #[.string t, .int .i64 a0, .int .i64 e0] 79)).alloc (.cells #[.string ⟨#[]⟩, .int .i64 0, .int .i64 0] 79))) := below_al (below_al (Below.refl _ _) _) _
  obtain ⟨na, ne, n0⟩ := N
  simp only at *
  clear hs hsm hN
  generalize rdK t a0 e0 = M at *
  go_enter Tryz.func47, Tryz.ntmps47
  go_wp2_with fail
  refine (RN.out _).mono ?_
  rintro e w1 ⟨rfl, b1⟩
  have H1 : Hid (RkS w w1.heap.size t na ne (.slice none 0 0) [] (w1.alloc (.cells #[.string t, .int .i64 na, .int .i64 ne] 79))) := by
    have r1 := HR0.out.keep (b1.keep (fun _ => False)) (fun h => h)
    exact ⟨srow w1 _ _, ownK_nil _ _ _, row_old r1 _, below_al (below_on HB0.out b1) _, r1.lt⟩
  clear b1 RN HR0 HB0
  go_wp2
  go_loopw [4, 7] (fun o i wr => ∃ (k : Nat) (acc : List Pk) (ad : Option Addr) (cap : Nat) (a e : Int), k ≤ n0 ∧ o = .slice ad k cap ∧ i = .int .i64 (k : Int) ∧ Hid (acc.length = k) ∧ Hid (RkS w w1.heap.size t a e (.slice ad k cap) acc wr) ∧ Hid (M = ⟨(dcK t (n0 - k) a e).a, (dcK t (n0 - k) a e).e, acc ++ (dcK t (n0 - k) a e).l⟩)) (fun _ i _ => n0 - (intOf i).toNat)
  case atStart => exact ⟨0, [], none, 0, na, ne, Nat.zero_le _, rfl, rfl, rfl, H1, HM⟩
  case round =>
    clear H1 HM
    obtain ⟨k, acc, ad, cap, a, e, hk, rfl, rfl, HA, HS, HM⟩ := hrel
    generalize w1.heap.size = g at *
    obtain ⟨⟨c0, c1, c2⟩, -⟩ := HS.out.three
    by_cases hlt : k < n0
    · have hk1 : (k : Int) < (n0 : Int) := by omega
      have hk5 : k < 100 := by have := HN5.out; omega
      have hwk : wrap64 ((k : Int) + 1) = ((k + 1 : Nat) : Int) := by rw [IntWalk.wrap64_in _ (by omega)]; omega
      have RY := hid (fun W => RI.out 100 a e W (by omega))
      have RX := hid (fun W => RT.out (dcN t 100 a e).a (dcN t 100 a e).e W)
      have HM2 : Hid (M = ⟨(dcK t (n0 - (k + 1)) (tS t (dcN t 100 a e).a (dcN t 100 a e).e 64).a (tS t (dcN t 100 a e).a (dcN t 100 a e).e 64).e).a, (dcK t (n0 - (k + 1)) (tS t (dcN t 100 a e).a (dcN t 100 a e).e 64).a (tS t (dcN t 100 a e).a (dcN t 100 a e).e 64).e).e, (acc ++ [⟨((dcN t 100 a e).n : Int), (tS t (dcN t 100 a e).a (dcN t 100 a e).e 64).x⟩]) ++ (dcK t (n0 - (k + 1)) (tS t (dcN t 100 a e).a (dcN t 100 a e).e 64).a (tS t (dcN t 100 a e).a (dcN t 100 a e).e 64).e).l⟩) := by
        show _ = _
        rw [HM.out, show n0 - k = (n0 - (k + 1)) + 1 by omega]
        simp only [dcK, List.append_assoc, List.singleton_append]
      generalize hY : dcN t 100 a e = Y at *
      generalize hX : tS t Y.a Y.e 64 = X at *
      obtain ⟨ya, ye, yn⟩ := Y
      obtain ⟨xa, xe, xx⟩ := X
      simp only at *
      have HLT := hid hlt
      clear hX hY HM RT RI HN5 hlt hk
      go_wp2_with fail
      refine (RY.out _).mono ?_
      rintro e' w2 ⟨rfl, b2⟩
      have H2 := hid ((HS.out.call b2).al (.cells #[.string t, .int .i64 ya, .int .i64 ye] 79))
      clear b2 RY HS c0 c1 c2
      go_wp2_with fail
      refine (RX.out _).mono ?_
      rintro e' w3 ⟨rfl, b3⟩
      have H3 := hid ((H2.out.call b3).al (.cells #[.string t, .int .i64 xa, .int .i64 xe] 79))
      clear b3 RX H2
      obtain ⟨⟨c0, c1, c2⟩, f0, f1, f2⟩ := H3.out.three
      have hz5 : ((((w3.alloc (.cells #[.string t, .int .i64 xa, .int .i64 xe] 79)).setCell ⟨g, 0, none⟩ (.string t)).setCell ⟨g, 1, none⟩ (.int .i64 xa)).setCell ⟨g, 2, none⟩ (.int .i64 xe)).heap.size = w3.heap.size + 1 := by simp [World.setCell]
      have H4 := hid ((H3.out.put xa xe).al (.cells #[.int .i64 (yn : Int), .string xx] 60))
      have HGX : Hid (GSrc (((((w3.alloc (.cells #[.string t, .int .i64 xa, .int .i64 xe] 79)).setCell ⟨g, 0, none⟩ (.string t)).setCell ⟨g, 1, none⟩ (.int .i64 xa)).setCell ⟨g, 2, none⟩ (.int .i64 xe)).alloc (.cells #[.int .i64 (yn : Int), .string xx] 60)) (.slice (some ⟨w3.heap.size + 1, 0, none⟩) 1 1) 1 (pkC ⟨yn, xx⟩)) := by
        have := srow ((((w3.alloc (.cells #[.string t, .int .i64 xa, .int .i64 xe] 79)).setCell ⟨g, 0, none⟩ (.string t)).setCell ⟨g, 1, none⟩ (.int .i64 xa)).setCell ⟨g, 2, none⟩ (.int .i64 xe)) [.int .i64 (yn : Int), .string xx] 60
        rw [hz5] at this
        exact gsrc_block this
      have HGA : Hid ((((((w3.alloc (.cells #[.string t, .int .i64 xa, .int .i64 xe] 79)).setCell ⟨g, 0, none⟩ (.string t)).setCell ⟨g, 1, none⟩ (.int .i64 xa)).setCell ⟨g, 2, none⟩ (.int .i64 xe)).alloc (.cells #[.int .i64 (yn : Int), .string xx] 60)).ownsRow (g + 1) 60 2 (.slice ad k cap) k (kqC acc)) := by have := H4.out.own; unfold OwnK at this; rw [HA.out] at this; exact this
      have HSZ : Hid (g + 1 ≤ (((((w3.alloc (.cells #[.string t, .int .i64 xa, .int .i64 xe] 79)).setCell ⟨g, 0, none⟩ (.string t)).setCell ⟨g, 1, none⟩ (.int .i64 xa)).setCell ⟨g, 2, none⟩ (.int .i64 xe)).alloc (.cells #[.int .i64 (yn : Int), .string xx] 60)).heap.size) := H4.out.rd.lt
      have HO1 := hid (pkC_one1 ⟨yn, xx⟩)
      have HX2 : Hid ((pkC ⟨yn, xx⟩).length = 1 * 2) := rfl
      have HB1 : Hid (k + 1 ≤ 4611686018427387904) := by show _ ≤ _; omega
      have HB2 : Hid ((k + 1) * 24 ≤ 140737488355328) := by show _ ≤ _; omega
      have HA2 : Hid ((acc ++ [(⟨(yn : Int), xx⟩ : Pk)]).length = k + 1) := by show _ = _; rw [List.length_append, HA.out]; rfl
      have FIN : Hid (∀ ad' cap' w', w'.ownsRow (g + 1) 60 2 (.slice ad' (k + 1) cap') (k + 1) (kqC acc ++ pkC ⟨yn, xx⟩) → Keep (fun j => (Value.slice ad k cap).ownBlock = some j) (((((w3.alloc (.cells #[.string t, .int .i64 xa, .int .i64 xe] 79)).setCell ⟨g, 0, none⟩ (.string t)).setCell ⟨g, 1, none⟩ (.int .i64 xa)).setCell ⟨g, 2, none⟩ (.int .i64 xe)).alloc (.cells #[.int .i64 (yn : Int), .string xx] 60)) w' → Hid (RkS w g t xa xe (.slice ad' (k + 1) cap') (acc ++ [(⟨(yn : Int), xx⟩ : Pk)]) w')) := fun ad' cap' w' hr hk' => by
        refine H4.out.app ?_ hk'
        unfold OwnK
        rw [HA2.out, show kqC (acc ++ [(⟨(yn : Int), xx⟩ : Pk)]) = kqC acc ++ pkC ⟨yn, xx⟩ by simp [kqC]]
        exact hr
      clear H4 H3 HA hz5
      generalize pkC ⟨yn, xx⟩ = XS at *
      generalize kqC acc = PA at *
      go_wp2_with (at_builtin; refine wpl_gappL rfl _ _ elRK rfl (g + 1) (.slice ad k cap) (.slice (some ⟨w3.heap.size + 1, 0, none⟩) 1 1) PA XS k 1 (k + 1) rfl rfl rfl HGA.out HSZ.out HGX.out HX2.out HO1.out HB1.out HB2.out ?_; intro ad' cap' w' hr' hk')
      have F1 := FIN.out _ _ _ hr' hk'
      clear hr' hk' FIN HGA HGX HSZ c0 c1 c2 f0 f1 f2
      go_wp2
      exact ⟨⟨k + 1, _, _, _, xa, xe, HLT.out, rfl, by first | rw [hwk] | rfl | simp, HA2, F1, HM2⟩, by (try rw [hwk]); have := HLT.out; simp [intOf]; omega⟩
    · have hk9 : k = n0 := by omega
      have hdl : decide ((k : Int) < (n0 : Int)) = false := decide_eq_false (by omega)
      have hdl2 : decide (k < n0) = false := decide_eq_false (by omega)
      have HM2 : M = ⟨a, e, acc⟩ := by rw [HM.out, hk9, Nat.sub_self]; simp [dcK]
      subst HM2
      obtain ⟨⟨r0, r1, r2⟩, q0, q1, q2⟩ := HS.out.may
      have H9 := hid (HS.out.done (.string t) (.int .i64 a) (.int .i64 e))
      clear HM RI RT HN5 hlt hk hk9 HS
      go_wp2
      refine bodyPost_ret (v := .tuple #[.agg #[.string t, .int .i64 a, .int .i64 e], .slice ad k cap]) (ret_ct3 (p := 2) (u := 3) rfl _ _ (w.heap.size + 1) _ _ rfl rfl (run_loadVar_row _ _ _ _ _ _ _ H9.out.1 Tryz.underlying79 rfl (by kernel_rfl))) rfl ?_
      refine ⟨ad, cap, ?_, ?_, H9.out.2.2⟩
      · (try simp only); rw [HA.out]
      · (try simp only); rw [HA.out]; exact H9.out.2.1
end Go.Proofs.YtmadlnchmkhdjaaGreat
namespace Go.Proofs.YtmadlnchmkhdjaaGreat
open Go.RowKit Go.Maps
set_option linter.unusedVariables false
set_option linter.unusedSimpArgs false

def hkB (k : Int) : Bool := decide (3 ≤ k) && decide (k ≤ 9)
def hiB (k : Int) : Bool := decide (k = 5) || (decide (7 ≤ k) && decide (k ≤ 10))
def hsB (k : Int) : Bool := decide (k = 3) || decide (k = 7)
theorem hasKey_any (k : Int) (w : World) : Calls Tryz.prog 35 #[.int .i64 k] w fun e w' => e = .returned (.bool (hkB k)) ∧ w' = w := by
  unfold hkB
  by_cases h1 : 3 ≤ k
  · by_cases h2 : k ≤ 9
    · go_enter Tryz.func35, Tryz.ntmps35
      go_wp2
      go_ret
      exact ⟨by simp [h1, h2], rfl⟩
    · go_enter Tryz.func35, Tryz.ntmps35
      go_wp2
      go_ret
      exact ⟨by simp; omega, rfl⟩
  · go_enter Tryz.func35, Tryz.ntmps35
    go_wp2
    go_ret
    exact ⟨by simp; omega, rfl⟩
theorem hasID_any (k : Int) (w : World) : Calls Tryz.prog 37 #[.int .i64 k] w fun e w' => e = .returned (.bool (hiB k)) ∧ w' = w := by
  unfold hiB
  by_cases h0 : k = 5
  · subst h0
    go_enter Tryz.func37, Tryz.ntmps37
    go_wp2
    go_ret
    exact ⟨rfl, rfl⟩
  have q0 : (k == 5) = false := beq_eq_false_iff_ne.2 h0
  rw [decide_eq_false h0]
  clear h0
  by_cases h1 : 7 ≤ k
  · by_cases h2 : k ≤ 10
    · go_enter Tryz.func37, Tryz.ntmps37
      go_wp2
      go_ret
      exact ⟨by simp [h1, h2], rfl⟩
    · go_enter Tryz.func37, Tryz.ntmps37
      go_wp2
      go_ret
      exact ⟨by simp; omega, rfl⟩
  · go_enter Tryz.func37, Tryz.ntmps37
    go_wp2
    go_ret
    exact ⟨by simp; omega, rfl⟩
theorem hasSum_any (k : Int) (w : World) : Calls Tryz.prog 39 #[.int .i64 k] w fun e w' => e = .returned (.bool (hsB k)) ∧ w' = w := by
  unfold hsB
  by_cases h0 : k = 3
  · subst h0
    go_enter Tryz.func39, Tryz.ntmps39
    go_wp2
    go_ret
    exact ⟨rfl, rfl⟩
  have q0 : (k == 3) = false := beq_eq_false_iff_ne.2 h0
  rw [decide_eq_false h0]
  clear h0
  by_cases h1 : k = 7
  · subst h1
    go_enter Tryz.func39, Tryz.ntmps39
    go_wp2
    go_ret
    exact ⟨rfl, rfl⟩
  have q1 : (k == 7) = false := beq_eq_false_iff_ne.2 h1
  rw [decide_eq_false h1]
  clear h1
  go_enter Tryz.func39, Tryz.ntmps39
  go_wp2
  go_ret
  exact ⟨rfl, rfl⟩
set_option maxRecDepth 100000 in
set_option maxHeartbeats 16000000 in
theorem rck_spine (kd id n pe pv : Int) (tk bk ky sm : ByteArray) (pa ka : Option Addr) (pn pc kc : Nat) (ks : List Pk) (w : World) (te be ke se k10 kl k7 k8 ilo ihi i0 nlo nhi n0 p0 pbig plen kbig klen tb bb kb ds hk hi hs r1 r2 r3 r4 r5 r6 r7 : Bool) (E : Int) (h1 : ¬ kd < 1) (h2 : ¬ 10 < kd) (ete0 : (tk.toList == []) = te) (ete1 : tk.toList.isEmpty = te) (ete2 : decide (tk.toList = []) = te) (ebe0 : (bk.toList == []) = be) (ebe1 : bk.toList.isEmpty = be) (ebe2 : decide (bk.toList = []) = be) (eke0 : (ky.toList == []) = ke) (eke1 : ky.toList.isEmpty = ke) (eke2 : decide (ky.toList = []) = ke) (ese0 : (sm.toList == []) = se) (ese1 : sm.toList.isEmpty = se) (ese2 : decide (sm.toList = []) = se) (ek100 : (kd == 10) = k10) (ekl0 : decide (kd < 10) = kl) (ek70 : (kd == 7) = k7) (ek80 : (kd == 8) = k8) (eilo0 : decide (id < 0) = ilo) (eihi0 : decide (1099511627776 < id) = ihi) (ei00 : (id == 0) = i0) (enlo0 : decide (n < 1) = nlo) (enhi0 : decide (100 < n) = nhi) (en00 : (n == 0) = n0) (ep00 : (pe == 0) = p0) (epbig0 : decide (1048576 < pv) = pbig) (eplen0 : decide ((0 : Int) < (pn : Int)) = plen) (eplen1 : decide (0 < pn) = plen) (ekbig0 : decide ((100 : Int) < (ks.length : Int)) = kbig) (ekbig1 : decide (100 < ks.length) = kbig) (eklen0 : decide ((0 : Int) < (ks.length : Int)) = klen) (eklen1 : decide (0 < ks.length) = klen) (TK : Hid (∀ W, Below w.heap.size w W → Calls Tryz.prog 33 #[.string tk] W fun e w' => e = .returned (.bool tb) ∧ Below W.heap.size W w')) (BK : Hid (∀ W, Below w.heap.size w W → Calls Tryz.prog 34 #[.string bk] W fun e w' => e = .returned (.bool bb) ∧ Below W.heap.size W w')) (KY : Hid (∀ W, Below w.heap.size w W → Calls Tryz.prog 36 #[.string ky] W fun e w' => e = .returned (.bool kb) ∧ Below W.heap.size W w')) (HK : Hid (∀ W, Below w.heap.size w W → Calls Tryz.prog 35 #[.int .i64 kd] W fun e w' => e = .returned (.bool hk) ∧ Below W.heap.size W w')) (HI : Hid (∀ W, Below w.heap.size w W → Calls Tryz.prog 37 #[.int .i64 kd] W fun e w' => e = .returned (.bool hi) ∧ Below W.heap.size W w')) (HS : Hid (∀ W, Below w.heap.size w W → Calls Tryz.prog 39 #[.int .i64 kd] W fun e w' => e = .returned (.bool hs) ∧ Below W.heap.size W w')) (DG : Hid (∀ W, Below w.heap.size w W → Calls Tryz.prog 40 #[.string sm] W fun e w' => e = .returned (.bool ds) ∧ Below W.heap.size W w')) (PC : Hid (∀ W, Below w.heap.size w W → Calls Tryz.prog 38 #[.slice pa pn pc] W fun e w' => e = .returned (.tuple #[.int .i64 pv, .int .i64 pe]) ∧ Below W.heap.size W w')) (MY : Hid (∀ (k : Nat) (hk : k < ks.length) W, Below w.heap.size w W → Calls Tryz.prog 40 #[.string ks[k].su] W fun e w' => e = .returned (.bool (isDg ks[k].su)) ∧ Below W.heap.size W w')) (HC : Hid (∀ (k : Nat) (hk : k < ks.length), ∃ b off, ka = some ⟨b, off, none⟩ ∧ b < w.heap.size ∧ w.cell? ⟨b, off + k * 2, none⟩ = some (.int .i64 ks[k].n) ∧ w.cell? ⟨b, off + k * 2 + 1, none⟩ = some (.string ks[k].su))) (Q1 : Hid ((!te && (k10 || !tb)) = r1)) (Q2 : Hid ((k10 && !be || kl && !bb) = r2)) (Q3 : Hid ((hk && !kb || !hk && !ke) = r3)) (Q4 : Hid ((ilo || ihi || !hi && !i0 || hi && kl && i0) = r4)) (Q5 : Hid ((k7 && (nlo || nhi) || !k7 && !n0) = r5)) (Q6 : Hid ((hs && (!ds || !p0 || pbig) || !hs && (!se || plen)) = r6)) (Q7 : Hid ((kbig || !k8 && klen) = r7)) (HKL : Hid (kl = !k10)) (HLK : Hid (ks.length ≤ 8796093022208)) (HE : Hid (E = if (r1 || r2 || r3 || r4 || r5 || r6 || r7 || anK ks) = true then 1 else 0)) : Calls Tryz.prog 14 #[.agg #[.int .i64 kd, .string tk, .string bk, .string ky, .int .i64 id, .int .i64 n, .string sm, .slice pa pn pc, .slice ka ks.length kc]] w fun e w' => e = .returned (.int .i64 E) ∧ Below w.heap.size w w' := by
  have BA := hid (below_al (Below.refl w.heap.size w) (.cells #[.int .i64 kd, .string tk, .string bk, .string ky, .int .i64 id, .int .i64 n, .string sm, .slice pa pn pc, .slice ka ks.length kc] 34))
  have ZC : Hid (∀ W, Below (w.alloc (.cells #[.int .i64 kd, .string tk, .string bk, .string ky, .int .i64 id, .int .i64 n, .string sm, .slice pa pn pc, .slice ka ks.length kc] 34)).heap.size (w.alloc (.cells #[.int .i64 kd, .string tk, .string bk, .string ky, .int .i64 id, .int .i64 n, .string sm, .slice pa pn pc, .slice ka ks.length kc] 34)) W → W.cell? ⟨w.heap.size, 0, none⟩ = some (.int .i64 kd) ∧ W.cell? ⟨w.heap.size, 1, none⟩ = some (.string tk) ∧ W.cell? ⟨w.heap.size, 2, none⟩ = some (.string bk) ∧ W.cell? ⟨w.heap.size, 3, none⟩ = some (.string ky) ∧ W.cell? ⟨w.heap.size, 4, none⟩ = some (.int .i64 id) ∧ W.cell? ⟨w.heap.size, 5, none⟩ = some (.int .i64 n) ∧ W.cell? ⟨w.heap.size, 6, none⟩ = some (.string sm) ∧ W.cell? ⟨w.heap.size, 7, none⟩ = some (.slice pa pn pc) ∧ W.cell? ⟨w.heap.size, 8, none⟩ = some (.slice ka ks.length kc)) := fun W hW => by
    have q := (srow w [.int .i64 kd, .string tk, .string bk, .string ky, .int .i64 id, .int .i64 n, .string sm, .slice pa pn pc, .slice ka ks.length kc] 34).keep (hW.keep (fun _ => False)) (fun h => h)
    exact ⟨q.cellAt rfl, q.cellAt rfl, q.cellAt rfl, q.cellAt rfl, q.cellAt rfl, q.cellAt rfl, q.cellAt rfl, q.cellAt rfl, q.cellAt rfl⟩
  have B0 := hid (Below.refl (w.alloc (.cells #[.int .i64 kd, .string tk, .string bk, .string ky, .int .i64 id, .int .i64 n, .string sm, .slice pa pn pc, .slice ka ks.length kc] 34)).heap.size (w.alloc (.cells #[.int .i64 kd, .string tk, .string bk, .string ky, .int .i64 id, .int .i64 n, .string sm, .slice pa pn pc, .slice ka ks.length kc] 34)))
  obtain ⟨c0, c1, c2, c3, c4, c5, c6, c7, c8⟩ := ZC.out _ B0.out
  have Ete0 := hid ete0
  have Ete1 := hid ete1
  have Ete2 := hid ete2
  have Ebe0 := hid ebe0
  have Ebe1 := hid ebe1
  have Ebe2 := hid ebe2
  have Eke0 := hid eke0
  have Eke1 := hid eke1
  have Eke2 := hid eke2
  have Ese0 := hid ese0
  have Ese1 := hid ese1
  have Ese2 := hid ese2
  have Ek100 := hid ek100
  have Ekl0 := hid ekl0
  have Ek70 := hid ek70
  have Ek80 := hid ek80
  have Eilo0 := hid eilo0
  have Eihi0 := hid eihi0
  have Ei00 := hid ei00
  have Enlo0 := hid enlo0
  have Enhi0 := hid enhi0
  have En00 := hid en00
  have Ep00 := hid ep00
  have Epbig0 := hid epbig0
  have Eplen0 := hid eplen0
  have Eplen1 := hid eplen1
  have Ekbig0 := hid ekbig0
  have Ekbig1 := hid ekbig1
  have Eklen0 := hid eklen0
  have Eklen1 := hid eklen1
  clear ete0 ete1 ete2 ebe0 ebe1 ebe2 eke0 eke1 eke2 ese0 ese1 ese2 ek100 ekl0 ek70 ek80 eilo0 eihi0 ei00 enlo0 enhi0 en00 ep00 epbig0 eplen0 eplen1 ekbig0 ekbig1 eklen0 eklen1
  go_enter Tryz.func14, Tryz.ntmps14
  go_upto_region 3 with fail
  clear h1 h2
  generalize (w.alloc (.cells #[.int .i64 kd, .string tk, .string bk, .string ky, .int .i64 id, .int .i64 n, .string sm, .slice pa pn pc, .slice ka ks.length kc] 34)) = X at *
  go_cut [27] from 14 to 27 (fun sx wx => sx = .bool r1 ∧ Hid (Below X.heap.size X wx))
  case first =>
    have ete0 := Ete0.out
    have ete1 := Ete1.out
    have ete2 := Ete2.out
    have ek100 := Ek100.out
    clear Ete0 Ete1 Ete2 Ebe0 Ebe1 Ebe2 Eke0 Eke1 Eke2 Ese0 Ese1 Ese2 Ek100 Ekl0 Ek70 Ek80 Eilo0 Eihi0 Ei00 Enlo0 Enhi0 En00 Ep00 Epbig0 Eplen0 Eplen1 Ekbig0 Ekbig1 Eklen0 Eklen1
    cases te
    · cases k10
      · go_wp2_with fail
        refine (TK.out _ (below_on BA.out B0.out)).mono ?_
        rintro e v0 ⟨rfl, bv⟩
        have BV0 := hid (below_on B0.out bv)
        clear bv c0 c1 c2 c3 c4 c5 c6 c7 c8
        obtain ⟨c0, c1, c2, c3, c4, c5, c6, c7, c8⟩ := ZC.out _ BV0.out
        go_wp2_with fail
        go_meet
        exact ⟨by rw [← Q1.out]; first | (simp; done) | (simp [bne, en00]; done) | (rw [← en00]; simp [bne]; done), BV0⟩
      · obtain rfl : kd = 10 := by simpa using ek100
        go_wp2_with fail
        go_meet
        exact ⟨by rw [← Q1.out]; first | (simp; done) | (simp [bne, en00]; done) | (rw [← en00]; simp [bne]; done), B0⟩
    · go_wp2_with fail
      go_meet
      exact ⟨by rw [← Q1.out]; first | (simp; done) | (simp [bne, en00]; done) | (rw [← en00]; simp [bne]; done), B0⟩
  case rest =>
  obtain ⟨rfl, BC1⟩ := hcut
  clear c0 c1 c2 c3 c4 c5 c6 c7 c8
  obtain ⟨c0, c1, c2, c3, c4, c5, c6, c7, c8⟩ := ZC.out _ BC1.out
  obtain rfl | rfl : r1 = true ∨ r1 = false := by cases r1 <;> simp
  · have hE : E = 1 := by rw [HE.out]; simp
    subst hE
    clear HE
    go_wp2
    go_ret
    exact ⟨rfl, below_on BA.out BC1.out⟩
  go_upto_region 5 with fail
  go_cut [46] from 28 to 46 (fun sx wx => sx = .bool r2 ∧ Hid (Below X.heap.size X wx))
  case first =>
    have ek100 := Ek100.out
    have ebe0 := Ebe0.out
    have ebe1 := Ebe1.out
    have ebe2 := Ebe2.out
    have ekl0 := Ekl0.out
    clear Ete0 Ete1 Ete2 Ebe0 Ebe1 Ebe2 Eke0 Eke1 Eke2 Ese0 Ese1 Ese2 Ek100 Ekl0 Ek70 Ek80 Eilo0 Eihi0 Ei00 Enlo0 Enhi0 En00 Ep00 Epbig0 Eplen0 Eplen1 Ekbig0 Ekbig1 Eklen0 Eklen1
    have hkl := HKL.out
    subst hkl
    cases k10
    · try simp only [Bool.not_true, Bool.not_false] at ekl0
      go_wp2_with fail
      refine (BK.out _ (below_on BA.out BC1.out)).mono ?_
      rintro e v0 ⟨rfl, bv⟩
      have BV0 := hid (below_on BC1.out bv)
      clear bv c0 c1 c2 c3 c4 c5 c6 c7 c8
      obtain ⟨c0, c1, c2, c3, c4, c5, c6, c7, c8⟩ := ZC.out _ BV0.out
      go_wp2_with fail
      go_meet
      exact ⟨by rw [← Q2.out]; first | (simp; done) | (simp [bne, en00]; done) | (rw [← en00]; simp [bne]; done), BV0⟩
    · obtain rfl : kd = 10 := by simpa using ek100
      cases be
      · try simp only [Bool.not_true, Bool.not_false] at ekl0
        go_wp2_with fail
        go_meet
        exact ⟨by rw [← Q2.out]; first | (simp; done) | (simp [bne, en00]; done) | (rw [← en00]; simp [bne]; done), BC1⟩
      · try simp only [Bool.not_true, Bool.not_false] at ekl0
        go_wp2_with fail
        go_meet
        exact ⟨by rw [← Q2.out]; first | (simp; done) | (simp [bne, en00]; done) | (rw [← en00]; simp [bne]; done), BC1⟩
  case rest =>
  obtain ⟨rfl, BC2⟩ := hcut
  clear c0 c1 c2 c3 c4 c5 c6 c7 c8
  obtain ⟨c0, c1, c2, c3, c4, c5, c6, c7, c8⟩ := ZC.out _ BC2.out
  obtain rfl | rfl : r2 = true ∨ r2 = false := by cases r2 <;> simp
  · have hE : E = 1 := by rw [HE.out]; simp
    subst hE
    clear HE
    go_wp2
    go_ret
    exact ⟨rfl, below_on BA.out BC2.out⟩
  go_upto_region 7 with fail
  go_cut [66] from 47 to 66 (fun sx wx => sx = .bool r3 ∧ Hid (Below X.heap.size X wx))
  case first =>
    have eke0 := Eke0.out
    have eke1 := Eke1.out
    have eke2 := Eke2.out
    clear Ete0 Ete1 Ete2 Ebe0 Ebe1 Ebe2 Eke0 Eke1 Eke2 Ese0 Ese1 Ese2 Ek100 Ekl0 Ek70 Ek80 Eilo0 Eihi0 Ei00 Enlo0 Enhi0 En00 Ep00 Epbig0 Eplen0 Eplen1 Ekbig0 Ekbig1 Eklen0 Eklen1
    cases hk
    · go_wp2_with fail
      refine (HK.out _ (below_on BA.out BC2.out)).mono ?_
      rintro e v0 ⟨rfl, bv⟩
      have BV0 := hid (below_on BC2.out bv)
      clear bv c0 c1 c2 c3 c4 c5 c6 c7 c8
      obtain ⟨c0, c1, c2, c3, c4, c5, c6, c7, c8⟩ := ZC.out _ BV0.out
      go_wp2_with fail
      refine (HK.out _ (below_on BA.out BV0.out)).mono ?_
      rintro e v1 ⟨rfl, bv⟩
      have BV1 := hid (below_on BV0.out bv)
      clear bv c0 c1 c2 c3 c4 c5 c6 c7 c8
      obtain ⟨c0, c1, c2, c3, c4, c5, c6, c7, c8⟩ := ZC.out _ BV1.out
      go_wp2_with fail
      go_meet
      exact ⟨by rw [← Q3.out]; first | (simp; done) | (simp [bne, en00]; done) | (rw [← en00]; simp [bne]; done), BV1⟩
    · cases kb
      · go_wp2_with fail
        refine (HK.out _ (below_on BA.out BC2.out)).mono ?_
        rintro e v0 ⟨rfl, bv⟩
        have BV0 := hid (below_on BC2.out bv)
        clear bv c0 c1 c2 c3 c4 c5 c6 c7 c8
        obtain ⟨c0, c1, c2, c3, c4, c5, c6, c7, c8⟩ := ZC.out _ BV0.out
        go_wp2_with fail
        refine (KY.out _ (below_on BA.out BV0.out)).mono ?_
        rintro e v1 ⟨rfl, bv⟩
        have BV1 := hid (below_on BV0.out bv)
        clear bv c0 c1 c2 c3 c4 c5 c6 c7 c8
        obtain ⟨c0, c1, c2, c3, c4, c5, c6, c7, c8⟩ := ZC.out _ BV1.out
        go_wp2_with fail
        go_meet
        exact ⟨by rw [← Q3.out]; first | (simp; done) | (simp [bne, en00]; done) | (rw [← en00]; simp [bne]; done), BV1⟩
      · go_wp2_with fail
        refine (HK.out _ (below_on BA.out BC2.out)).mono ?_
        rintro e v0 ⟨rfl, bv⟩
        have BV0 := hid (below_on BC2.out bv)
        clear bv c0 c1 c2 c3 c4 c5 c6 c7 c8
        obtain ⟨c0, c1, c2, c3, c4, c5, c6, c7, c8⟩ := ZC.out _ BV0.out
        go_wp2_with fail
        refine (KY.out _ (below_on BA.out BV0.out)).mono ?_
        rintro e v1 ⟨rfl, bv⟩
        have BV1 := hid (below_on BV0.out bv)
        clear bv c0 c1 c2 c3 c4 c5 c6 c7 c8
        obtain ⟨c0, c1, c2, c3, c4, c5, c6, c7, c8⟩ := ZC.out _ BV1.out
        go_wp2_with fail
        refine (HK.out _ (below_on BA.out BV1.out)).mono ?_
        rintro e v2 ⟨rfl, bv⟩
        have BV2 := hid (below_on BV1.out bv)
        clear bv c0 c1 c2 c3 c4 c5 c6 c7 c8
        obtain ⟨c0, c1, c2, c3, c4, c5, c6, c7, c8⟩ := ZC.out _ BV2.out
        go_wp2_with fail
        go_meet
        exact ⟨by rw [← Q3.out]; first | (simp; done) | (simp [bne, en00]; done) | (rw [← en00]; simp [bne]; done), BV2⟩
  case rest =>
  obtain ⟨rfl, BC3⟩ := hcut
  clear c0 c1 c2 c3 c4 c5 c6 c7 c8
  obtain ⟨c0, c1, c2, c3, c4, c5, c6, c7, c8⟩ := ZC.out _ BC3.out
  obtain rfl | rfl : r3 = true ∨ r3 = false := by cases r3 <;> simp
  · have hE : E = 1 := by rw [HE.out]; simp
    subst hE
    clear HE
    go_wp2
    go_ret
    exact ⟨rfl, below_on BA.out BC3.out⟩
  go_upto_region 9 with fail
  go_cut [100] from 67 to 100 (fun sx wx => sx = .bool r4 ∧ Hid (Below X.heap.size X wx))
  case first =>
    have eilo0 := Eilo0.out
    have eihi0 := Eihi0.out
    have ei00 := Ei00.out
    have ekl0 := Ekl0.out
    clear Ete0 Ete1 Ete2 Ebe0 Ebe1 Ebe2 Eke0 Eke1 Eke2 Ese0 Ese1 Ese2 Ek100 Ekl0 Ek70 Ek80 Eilo0 Eihi0 Ei00 Enlo0 Enhi0 En00 Ep00 Epbig0 Eplen0 Eplen1 Ekbig0 Ekbig1 Eklen0 Eklen1
    cases ilo
    · cases ihi
      · cases hi
        · cases i0
          · have bni0 : (id != 0) = true := by simpa using ei00
            go_wp2_with fail
            refine (HI.out _ (below_on BA.out BC3.out)).mono ?_
            rintro e v0 ⟨rfl, bv⟩
            have BV0 := hid (below_on BC3.out bv)
            clear bv c0 c1 c2 c3 c4 c5 c6 c7 c8
            obtain ⟨c0, c1, c2, c3, c4, c5, c6, c7, c8⟩ := ZC.out _ BV0.out
            go_wp2_with fail
            go_meet
            exact ⟨by rw [← Q4.out]; first | (simp; done) | (simp [bne, en00]; done) | (rw [← en00]; simp [bne]; done), BV0⟩
          · obtain rfl : id = 0 := by simpa using ei00
            go_wp2_with fail
            refine (HI.out _ (below_on BA.out BC3.out)).mono ?_
            rintro e v0 ⟨rfl, bv⟩
            have BV0 := hid (below_on BC3.out bv)
            clear bv c0 c1 c2 c3 c4 c5 c6 c7 c8
            obtain ⟨c0, c1, c2, c3, c4, c5, c6, c7, c8⟩ := ZC.out _ BV0.out
            go_wp2_with fail
            refine (HI.out _ (below_on BA.out BV0.out)).mono ?_
            rintro e v1 ⟨rfl, bv⟩
            have BV1 := hid (below_on BV0.out bv)
            clear bv c0 c1 c2 c3 c4 c5 c6 c7 c8
            obtain ⟨c0, c1, c2, c3, c4, c5, c6, c7, c8⟩ := ZC.out _ BV1.out
            go_wp2_with fail
            go_meet
            exact ⟨by rw [← Q4.out]; first | (simp; done) | (simp [bne, en00]; done) | (rw [← en00]; simp [bne]; done), BV1⟩
        · cases kl
          · go_wp2_with fail
            refine (HI.out _ (below_on BA.out BC3.out)).mono ?_
            rintro e v0 ⟨rfl, bv⟩
            have BV0 := hid (below_on BC3.out bv)
            clear bv c0 c1 c2 c3 c4 c5 c6 c7 c8
            obtain ⟨c0, c1, c2, c3, c4, c5, c6, c7, c8⟩ := ZC.out _ BV0.out
            go_wp2_with fail
            refine (HI.out _ (below_on BA.out BV0.out)).mono ?_
            rintro e v1 ⟨rfl, bv⟩
            have BV1 := hid (below_on BV0.out bv)
            clear bv c0 c1 c2 c3 c4 c5 c6 c7 c8
            obtain ⟨c0, c1, c2, c3, c4, c5, c6, c7, c8⟩ := ZC.out _ BV1.out
            go_wp2_with fail
            go_meet
            exact ⟨by rw [← Q4.out]; first | (simp; done) | (simp [bne, en00]; done) | (rw [← en00]; simp [bne]; done), BV1⟩
          · go_wp2_with fail
            refine (HI.out _ (below_on BA.out BC3.out)).mono ?_
            rintro e v0 ⟨rfl, bv⟩
            have BV0 := hid (below_on BC3.out bv)
            clear bv c0 c1 c2 c3 c4 c5 c6 c7 c8
            obtain ⟨c0, c1, c2, c3, c4, c5, c6, c7, c8⟩ := ZC.out _ BV0.out
            go_wp2_with fail
            refine (HI.out _ (below_on BA.out BV0.out)).mono ?_
            rintro e v1 ⟨rfl, bv⟩
            have BV1 := hid (below_on BV0.out bv)
            clear bv c0 c1 c2 c3 c4 c5 c6 c7 c8
            obtain ⟨c0, c1, c2, c3, c4, c5, c6, c7, c8⟩ := ZC.out _ BV1.out
            go_wp2_with fail
            go_meet
            exact ⟨by rw [← Q4.out]; first | (simp; done) | (simp [bne, en00]; done) | (rw [← en00]; simp [bne]; done), BV1⟩
      · go_wp2_with fail
        go_meet
        exact ⟨by rw [← Q4.out]; first | (simp; done) | (simp [bne, en00]; done) | (rw [← en00]; simp [bne]; done), BC3⟩
    · go_wp2_with fail
      go_meet
      exact ⟨by rw [← Q4.out]; first | (simp; done) | (simp [bne, en00]; done) | (rw [← en00]; simp [bne]; done), BC3⟩
  case rest =>
  obtain ⟨rfl, BC4⟩ := hcut
  clear c0 c1 c2 c3 c4 c5 c6 c7 c8
  obtain ⟨c0, c1, c2, c3, c4, c5, c6, c7, c8⟩ := ZC.out _ BC4.out
  obtain rfl | rfl : r4 = true ∨ r4 = false := by cases r4 <;> simp
  · have hE : E = 1 := by rw [HE.out]; simp
    subst hE
    clear HE
    go_wp2
    go_ret
    exact ⟨rfl, below_on BA.out BC4.out⟩
  go_upto_region 11 with fail
  go_cut [123] from 101 to 123 (fun sx wx => sx = .bool r5 ∧ Hid (Below X.heap.size X wx))
  case first =>
    have ek70 := Ek70.out
    have enlo0 := Enlo0.out
    have enhi0 := Enhi0.out
    have en00 := En00.out
    clear Ete0 Ete1 Ete2 Ebe0 Ebe1 Ebe2 Eke0 Eke1 Eke2 Ese0 Ese1 Ese2 Ek100 Ekl0 Ek70 Ek80 Eilo0 Eihi0 Ei00 Enlo0 Enhi0 En00 Ep00 Epbig0 Eplen0 Eplen1 Ekbig0 Ekbig1 Eklen0 Eklen1
    cases k7
    · have bnk7 : (kd != 7) = true := by simpa using ek70
      go_wp2_with fail
      go_meet
      exact ⟨by rw [← Q5.out]; first | (simp; done) | (simp [bne, en00]; done) | (rw [← en00]; simp [bne]; done), BC4⟩
    · obtain rfl : kd = 7 := by simpa using ek70
      cases nlo
      · cases nhi
        · go_wp2_with fail
          go_meet
          exact ⟨by rw [← Q5.out]; first | (simp; done) | (simp [bne, en00]; done) | (rw [← en00]; simp [bne]; done), BC4⟩
        · go_wp2_with fail
          go_meet
          exact ⟨by rw [← Q5.out]; first | (simp; done) | (simp [bne, en00]; done) | (rw [← en00]; simp [bne]; done), BC4⟩
      · go_wp2_with fail
        go_meet
        exact ⟨by rw [← Q5.out]; first | (simp; done) | (simp [bne, en00]; done) | (rw [← en00]; simp [bne]; done), BC4⟩
  case rest =>
  obtain ⟨rfl, BC5⟩ := hcut
  clear c0 c1 c2 c3 c4 c5 c6 c7 c8
  obtain ⟨c0, c1, c2, c3, c4, c5, c6, c7, c8⟩ := ZC.out _ BC5.out
  obtain rfl | rfl : r5 = true ∨ r5 = false := by cases r5 <;> simp
  · have hE : E = 1 := by rw [HE.out]; simp
    subst hE
    clear HE
    go_wp2
    go_ret
    exact ⟨rfl, below_on BA.out BC5.out⟩
  go_wp2_with fail
  refine (PC.out _ (below_on BA.out BC5.out)).mono ?_
  rintro e vp ⟨rfl, bp⟩
  have BP := hid (below_on BC5.out bp)
  clear bp PC c0 c1 c2 c3 c4 c5 c6 c7 c8
  obtain ⟨c0, c1, c2, c3, c4, c5, c6, c7, c8⟩ := ZC.out _ BP.out
  go_upto_region 14 with fail
  go_cut [163] from 130 to 163 (fun sx wx => sx = .bool r6 ∧ Hid (Below X.heap.size X wx))
  case first =>
    have ep00 := Ep00.out
    have epbig0 := Epbig0.out
    have ese0 := Ese0.out
    have ese1 := Ese1.out
    have ese2 := Ese2.out
    have eplen0 := Eplen0.out
    have eplen1 := Eplen1.out
    clear Ete0 Ete1 Ete2 Ebe0 Ebe1 Ebe2 Eke0 Eke1 Eke2 Ese0 Ese1 Ese2 Ek100 Ekl0 Ek70 Ek80 Eilo0 Eihi0 Ei00 Enlo0 Enhi0 En00 Ep00 Epbig0 Eplen0 Eplen1 Ekbig0 Ekbig1 Eklen0 Eklen1
    cases hs
    · cases se
      · go_wp2_with fail
        refine (HS.out _ (below_on BA.out BP.out)).mono ?_
        rintro e v0 ⟨rfl, bv⟩
        have BV0 := hid (below_on BP.out bv)
        clear bv c0 c1 c2 c3 c4 c5 c6 c7 c8
        obtain ⟨c0, c1, c2, c3, c4, c5, c6, c7, c8⟩ := ZC.out _ BV0.out
        go_wp2_with fail
        refine (HS.out _ (below_on BA.out BV0.out)).mono ?_
        rintro e v1 ⟨rfl, bv⟩
        have BV1 := hid (below_on BV0.out bv)
        clear bv c0 c1 c2 c3 c4 c5 c6 c7 c8
        obtain ⟨c0, c1, c2, c3, c4, c5, c6, c7, c8⟩ := ZC.out _ BV1.out
        go_wp2_with fail
        go_meet
        exact ⟨by rw [← Q6.out]; first | (simp; done) | (simp [bne, en00]; done) | (rw [← en00]; simp [bne]; done), BV1⟩
      · go_wp2_with fail
        refine (HS.out _ (below_on BA.out BP.out)).mono ?_
        rintro e v0 ⟨rfl, bv⟩
        have BV0 := hid (below_on BP.out bv)
        clear bv c0 c1 c2 c3 c4 c5 c6 c7 c8
        obtain ⟨c0, c1, c2, c3, c4, c5, c6, c7, c8⟩ := ZC.out _ BV0.out
        go_wp2_with fail
        refine (HS.out _ (below_on BA.out BV0.out)).mono ?_
        rintro e v1 ⟨rfl, bv⟩
        have BV1 := hid (below_on BV0.out bv)
        clear bv c0 c1 c2 c3 c4 c5 c6 c7 c8
        obtain ⟨c0, c1, c2, c3, c4, c5, c6, c7, c8⟩ := ZC.out _ BV1.out
        go_wp2_with fail
        go_meet
        exact ⟨by rw [← Q6.out]; first | (simp; done) | (simp [bne, en00]; done) | (rw [← en00]; simp [bne]; done), BV1⟩
    · cases ds
      · go_wp2_with fail
        refine (HS.out _ (below_on BA.out BP.out)).mono ?_
        rintro e v0 ⟨rfl, bv⟩
        have BV0 := hid (below_on BP.out bv)
        clear bv c0 c1 c2 c3 c4 c5 c6 c7 c8
        obtain ⟨c0, c1, c2, c3, c4, c5, c6, c7, c8⟩ := ZC.out _ BV0.out
        go_wp2_with fail
        refine (DG.out _ (below_on BA.out BV0.out)).mono ?_
        rintro e v1 ⟨rfl, bv⟩
        have BV1 := hid (below_on BV0.out bv)
        clear bv c0 c1 c2 c3 c4 c5 c6 c7 c8
        obtain ⟨c0, c1, c2, c3, c4, c5, c6, c7, c8⟩ := ZC.out _ BV1.out
        go_wp2_with fail
        go_meet
        exact ⟨by rw [← Q6.out]; first | (simp; done) | (simp [bne, en00]; done) | (rw [← en00]; simp [bne]; done), BV1⟩
      · cases p0
        · have bnp0 : (pe != 0) = true := by simpa using ep00
          go_wp2_with fail
          refine (HS.out _ (below_on BA.out BP.out)).mono ?_
          rintro e v0 ⟨rfl, bv⟩
          have BV0 := hid (below_on BP.out bv)
          clear bv c0 c1 c2 c3 c4 c5 c6 c7 c8
          obtain ⟨c0, c1, c2, c3, c4, c5, c6, c7, c8⟩ := ZC.out _ BV0.out
          go_wp2_with fail
          refine (DG.out _ (below_on BA.out BV0.out)).mono ?_
          rintro e v1 ⟨rfl, bv⟩
          have BV1 := hid (below_on BV0.out bv)
          clear bv c0 c1 c2 c3 c4 c5 c6 c7 c8
          obtain ⟨c0, c1, c2, c3, c4, c5, c6, c7, c8⟩ := ZC.out _ BV1.out
          go_wp2_with fail
          go_meet
          exact ⟨by rw [← Q6.out]; first | (simp; done) | (simp [bne, en00]; done) | (rw [← en00]; simp [bne]; done), BV1⟩
        · obtain rfl : pe = 0 := by simpa using ep00
          cases pbig
          · go_wp2_with fail
            refine (HS.out _ (below_on BA.out BP.out)).mono ?_
            rintro e v0 ⟨rfl, bv⟩
            have BV0 := hid (below_on BP.out bv)
            clear bv c0 c1 c2 c3 c4 c5 c6 c7 c8
            obtain ⟨c0, c1, c2, c3, c4, c5, c6, c7, c8⟩ := ZC.out _ BV0.out
            go_wp2_with fail
            refine (DG.out _ (below_on BA.out BV0.out)).mono ?_
            rintro e v1 ⟨rfl, bv⟩
            have BV1 := hid (below_on BV0.out bv)
            clear bv c0 c1 c2 c3 c4 c5 c6 c7 c8
            obtain ⟨c0, c1, c2, c3, c4, c5, c6, c7, c8⟩ := ZC.out _ BV1.out
            go_wp2_with fail
            refine (HS.out _ (below_on BA.out BV1.out)).mono ?_
            rintro e v2 ⟨rfl, bv⟩
            have BV2 := hid (below_on BV1.out bv)
            clear bv c0 c1 c2 c3 c4 c5 c6 c7 c8
            obtain ⟨c0, c1, c2, c3, c4, c5, c6, c7, c8⟩ := ZC.out _ BV2.out
            go_wp2_with fail
            go_meet
            exact ⟨by rw [← Q6.out]; first | (simp; done) | (simp [bne, en00]; done) | (rw [← en00]; simp [bne]; done), BV2⟩
          · go_wp2_with fail
            refine (HS.out _ (below_on BA.out BP.out)).mono ?_
            rintro e v0 ⟨rfl, bv⟩
            have BV0 := hid (below_on BP.out bv)
            clear bv c0 c1 c2 c3 c4 c5 c6 c7 c8
            obtain ⟨c0, c1, c2, c3, c4, c5, c6, c7, c8⟩ := ZC.out _ BV0.out
            go_wp2_with fail
            refine (DG.out _ (below_on BA.out BV0.out)).mono ?_
            rintro e v1 ⟨rfl, bv⟩
            have BV1 := hid (below_on BV0.out bv)
            clear bv c0 c1 c2 c3 c4 c5 c6 c7 c8
            obtain ⟨c0, c1, c2, c3, c4, c5, c6, c7, c8⟩ := ZC.out _ BV1.out
            go_wp2_with fail
            go_meet
            exact ⟨by rw [← Q6.out]; first | (simp; done) | (simp [bne, en00]; done) | (rw [← en00]; simp [bne]; done), BV1⟩
  case rest =>
  obtain ⟨rfl, BC6⟩ := hcut
  clear c0 c1 c2 c3 c4 c5 c6 c7 c8
  obtain ⟨c0, c1, c2, c3, c4, c5, c6, c7, c8⟩ := ZC.out _ BC6.out
  obtain rfl | rfl : r6 = true ∨ r6 = false := by cases r6 <;> simp
  · have hE : E = 1 := by rw [HE.out]; simp
    subst hE
    clear HE
    go_wp2
    go_ret
    exact ⟨rfl, below_on BA.out BC6.out⟩
  go_upto_region 16 with fail
  go_cut [178] from 164 to 178 (fun sx wx => sx = .bool r7 ∧ Hid (Below X.heap.size X wx))
  case first =>
    have ekbig0 := Ekbig0.out
    have ekbig1 := Ekbig1.out
    have ek80 := Ek80.out
    have eklen0 := Eklen0.out
    have eklen1 := Eklen1.out
    clear Ete0 Ete1 Ete2 Ebe0 Ebe1 Ebe2 Eke0 Eke1 Eke2 Ese0 Ese1 Ese2 Ek100 Ekl0 Ek70 Ek80 Eilo0 Eihi0 Ei00 Enlo0 Enhi0 En00 Ep00 Epbig0 Eplen0 Eplen1 Ekbig0 Ekbig1 Eklen0 Eklen1
    cases kbig
    · cases k8
      · have bnk8 : (kd != 8) = true := by simpa using ek80
        go_wp2_with fail
        go_meet
        exact ⟨by rw [← Q7.out]; first | (simp; done) | (simp [bne, en00]; done) | (rw [← en00]; simp [bne]; done), BC6⟩
      · obtain rfl : kd = 8 := by simpa using ek80
        go_wp2_with fail
        go_meet
        exact ⟨by rw [← Q7.out]; first | (simp; done) | (simp [bne, en00]; done) | (rw [← en00]; simp [bne]; done), BC6⟩
    · go_wp2_with fail
      go_meet
      exact ⟨by rw [← Q7.out]; first | (simp; done) | (simp [bne, en00]; done) | (rw [← en00]; simp [bne]; done), BC6⟩
  case rest =>
  obtain ⟨rfl, BC7⟩ := hcut
  clear c0 c1 c2 c3 c4 c5 c6 c7 c8
  obtain ⟨c0, c1, c2, c3, c4, c5, c6, c7, c8⟩ := ZC.out _ BC7.out
  obtain rfl | rfl : r7 = true ∨ r7 = false := by cases r7 <;> simp
  · have hE : E = 1 := by rw [HE.out]; simp
    subst hE
    clear HE
    go_wp2
    go_ret
    exact ⟨rfl, below_on BA.out BC7.out⟩
  have HR0 : Hid (E = if anK (ks.drop 0) = true then 1 else 0) := by show _ = _; rw [HE.out]; simp
  clear HE
  go_wp2
  clear c0 c1 c2 c3 c4 c5 c6 c7 c8
  go_loopw [5] (fun i wr => ∃ (k : Nat), k ≤ ks.length ∧ i = .int .i64 (k : Int) ∧ Hid (Below X.heap.size X wr) ∧ Hid (E = if anK (ks.drop k) = true then 1 else 0)) (fun i _ => ks.length - (intOf i).toNat)
  case atStart => exact ⟨0, Nat.zero_le _, rfl, BC7, HR0⟩
  case round =>
    obtain ⟨k, hk, rfl, HB, HR⟩ := hrel
    clear HR0 BC7
    obtain ⟨c0, c1, c2, c3, c4, c5, c6, c7, c8⟩ := ZC.out _ HB.out
    by_cases hlt : k < ks.length
    · have hk1 : (k : Int) < (ks.length : Int) := by omega
      have hk0 : (0 : Int) ≤ (k : Int) := by omega
      have hwk : wrap64 ((k : Int) + 1) = ((k + 1 : Nat) : Int) := by have := HLK.out; rw [IntWalk.wrap64_in _ (by omega)]; omega
      obtain ⟨b, off, rfl, hb, g0, g1⟩ := HC.out k hlt
      have d0 := ((below_on BA.out HB.out).cell (p := ⟨b, off + k * 2, none⟩) hb).trans g0
      have d1 := ((below_on BA.out HB.out).cell (p := ⟨b, off + k * 2 + 1, none⟩) hb).trans g1
      have MYk := hid (MY.out k hlt)
      have HS2 := hid (anK_at ks k hlt)
      have HLT := hid hlt
      generalize ks[k] = y at *
      clear g0 g1 hb MY HC hlt hk HLK
      obtain ⟨yn, ys⟩ := y
      simp only at d0 d1 MYk
      have HPK : Hid (pkOk ⟨yn, ys⟩ = (decide (0 ≤ yn) && decide (yn ≤ 100) && isDg ys)) := rfl
      by_cases n1 : yn < 0
      · have hE : E = 1 := by rw [HR.out, HS2.out, HPK.out, decide_eq_false (show ¬ 0 ≤ yn by omega)]; simp
        subst hE
        clear HR HS2 HPK MYk
        go_wp2
        go_ret
        exact ⟨rfl, below_on BA.out HB.out⟩
      by_cases n2 : 100 < yn
      · have hE : E = 1 := by rw [HR.out, HS2.out, HPK.out, decide_eq_false (show ¬ yn ≤ 100 by omega)]; simp
        subst hE
        clear HR HS2 HPK MYk
        go_wp2
        go_ret
        exact ⟨rfl, below_on BA.out HB.out⟩
      have hPK2 : pkOk ⟨yn, ys⟩ = isDg ys := by rw [HPK.out, decide_eq_true (show 0 ≤ yn by omega), decide_eq_true (show yn ≤ 100 by omega)]; rfl
      cases hd : isDg ys
      · have hE : E = 1 := by rw [HR.out, HS2.out, hPK2, hd]; simp
        subst hE
        rw [hd] at MYk
        clear HR HS2 HPK hPK2 hd
        go_wp2_with fail
        refine (MYk.out _ (below_on BA.out HB.out)).mono ?_
        rintro e vm ⟨rfl, bm⟩
        have BM := hid (below_on HB.out bm)
        clear bm MYk d0 d1 c0 c1 c2 c3 c4 c5 c6 c7 c8
        go_wp2
        go_ret
        exact ⟨rfl, below_on BA.out BM.out⟩
      · have HR2 : Hid (E = if anK (ks.drop (k + 1)) = true then 1 else 0) := by show _ = _; rw [HR.out, HS2.out, hPK2, hd]; simp
        rw [hd] at MYk
        clear HR HS2 HPK hPK2 hd
        go_wp2_with fail
        refine (MYk.out _ (below_on BA.out HB.out)).mono ?_
        rintro e vm ⟨rfl, bm⟩
        have BM := hid (below_on HB.out bm)
        clear bm MYk d0 d1 c0 c1 c2 c3 c4 c5 c6 c7 c8
        go_wp2
        have hlt := HLT.out
        exact ⟨⟨k + 1, hlt, by first | rw [hwk] | rfl | simp, BM, HR2⟩, by (try rw [hwk]); simp [intOf]; omega⟩
    · have hke : k = ks.length := by omega
      have hd : decide ((k : Int) < (ks.length : Int)) = false := decide_eq_false (by omega)
      have hd2 : decide (k < ks.length) = false := decide_eq_false hlt
      have hE : E = 0 := by rw [HR.out, hke, List.drop_length]; rfl
      subst hE
      clear HR hke hlt hk HC MY
      go_wp2
      go_ret
      exact ⟨rfl, below_on BA.out HB.out⟩
end Go.Proofs.YtmadlnchmkhdjaaGreat
