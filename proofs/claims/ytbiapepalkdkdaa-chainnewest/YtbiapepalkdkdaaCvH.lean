/- Versions that are copied: the law's Refs, the program's apart. -/
import Derived.Test.YtbiapepalkdkdaaCvG
namespace Go.Proofs.Ytbiapepalkdkdaa
open Go.RowKit Go.Maps
set_option linter.unusedVariables false
set_option linter.unusedSimpArgs false

theorem elV : ElT 39 24 5 64 := ⟨Try.underlying39, ⟨.agg #[.int .i64 0, .bool false, .int .i64 0, .string ⟨#[]⟩, .slice none 0 0], by kernel_rfl, rfl⟩, by decide⟩
theorem elRV : ElT 42 36 5 64 := ⟨Try.underlying42, ⟨.agg #[.int .i64 0, .bool false, .int .i64 0, .string ⟨#[]⟩, .slice none 0 0], by kernel_rfl, rfl⟩, by decide⟩
/-- versions in a row that the call owns, with their pieces -/
def OwnQ (W : World) (B tv tp : Nat) (v : Value) (q : List (Value × Vn)) : Prop := W.ownsRow B tv 5 v q.length (vqC q) ∧ ∀ y ∈ q, OwnP W B tp y.1 y.2.ps
theorem OwnQ.next {W W' : World} {B tv tp : Nat} {v : Value} {q : List (Value × Vn)} (h : OwnQ W B tv tp v q) (hb : Below W.heap.size W W') : OwnQ W' B tv tp v q := ⟨(hb.keep (fun _ => False)).ownsRow h.1 (fun _ _ h => h), fun y hy => (h.2 y hy).next hb⟩
theorem OwnQ.vn {W : World} {B tv tp : Nat} {v : Value} {q : List (Value × Vn)} (h : OwnQ W B tv tp v q) : VnI W v q := ⟨RowC.own h.1, fun y hy => (h.2 y hy).pcs⟩
theorem ownQ_nil (W : World) (B tv tp : Nat) : OwnQ W B tv tp (.slice none 0 0) [] := ⟨⟨rfl, .inl ⟨rfl, rfl⟩⟩, fun y hy => by cases hy⟩
theorem OwnQ.app {W W' : World} {B tv tp : Nat} {v v' : Value} {q : List (Value × Vn)} {y : Value × Vn} (h : OwnQ W B tv tp v q) (hy : OwnP W B tp y.1 y.2.ps) (hne : tp ≠ tv) (hr : W'.ownsRow B tv 5 v' (q.length + 1) (vqC q ++ vnC y)) (hk : Keep (fun j => v.ownBlock = some j) W W') : OwnQ W' B tv tp v' (q ++ [y]) := by
  refine ⟨?_, fun z hz => ?_⟩
  · rw [vqC_app, vqC_one, List.length_append, List.length_singleton]
    exact hr
  · rcases List.mem_append.1 hz with hz | hz
    · exact hk.ownsRow (h.2 z hz) (fun g hg e => rows_apart2 (h.2 z hz) h.1 hne hg e)
    · rw [List.mem_singleton.1 hz]
      exact hk.ownsRow hy (fun g hg e => rows_apart2 hy h.1 hne hg e)
theorem vnC_one (ad : Option Addr) (n cap : Nat) (x : Vn) : ∀ u ∈ vnC (.slice ad n cap, x), u.oneCell' = true := by
  intro u hu
  simp [vnC] at hu
  rcases hu with rfl | rfl | rfl | rfl | rfl <;> rfl
set_option maxRecDepth 100000 in
set_option maxHeartbeats 2000000 in
theorem lrefs_any (v : Value) (q : List (Value × Vn)) (w : World) (hv : VnI w v q) (hl : q.length * 64 ≤ 140737488355328) (hs : ∀ y ∈ q, y.2.ps.length * 24 ≤ 140737488355328) : Calls Try.prog 18 #[v] w fun e w' => ∃ ad cap q', e = .returned (.slice ad q.length cap) ∧ vqL q' = vqL q ∧ OwnQ w' w.heap.size 36 74 (.slice ad q.length cap) q' ∧ Below w.heap.size w w' := by
  obtain ⟨ad, cap, rfl, hc⟩ := hv.form
  have HC := hid hc
  have HL := hid hl
  have HS : Hid (∀ (k : Nat) (hk : k < q.length) (W : World), Below w.heap.size w W → Calls Try.prog 15 #[vnV q[k]] W fun e w' => ∃ ad cap, e = .returned (vnV (.slice ad q[k].2.ps.length cap, q[k].2)) ∧ OwnP w' W.heap.size 74 (.slice ad q[k].2.ps.length cap) q[k].2.ps ∧ Below W.heap.size W w') := fun k hk W hW => by
    obtain ⟨b, off, _, _, _, _, _, _, _, hp⟩ := hc k hk
    have h := hs _ (List.getElem_mem hk)
    exact lref_any q[k].1 q[k].2 W (hp.next hW) h
  have HTK : Hid (∀ (k : Nat) (hk : k < q.length), (vqL q).take (k + 1) = (vqL q).take k ++ [q[k].2]) := fun k hk => by
    rw [List.take_succ_eq_append_getElem (by rw [vqL_len]; exact hk), vqL_get q k hk]
  have HZ : Hid ((vqL q).take q.length = vqL q) := by show _ = _; rw [← vqL_len, List.take_length]
  clear hc hv hl hs
  go_enter Try.func18, Try.ntmps18
  go_wp2
  go_loopw [3, 4] (fun o i wr => ∃ (k : Nat) (ad1 : Option Addr) (cp1 : Nat) (q1 : List (Value × Vn)), k ≤ q.length ∧ o = .slice ad1 k cp1 ∧ i = .int .i64 (k : Int) ∧ Hid (q1.length = k ∧ vqL q1 = (vqL q).take k ∧ OwnQ wr w.heap.size 36 74 (.slice ad1 k cp1) q1) ∧ Hid (Below w.heap.size w wr)) (fun _ i _ => q.length - (intOf i).toNat)
  case atStart => exact ⟨0, none, 0, [], Nat.zero_le _, rfl, rfl, ⟨rfl, rfl, ownQ_nil _ _ _ _⟩, Below.refl _ _⟩
  case round =>
    obtain ⟨k, ad1, cp1, q1, hk, rfl, rfl, HR, HB⟩ := hrel
    by_cases hlt : k < q.length
    · have hk1 : (k : Int) < (q.length : Int) := by omega
      have hk0 : (0 : Int) ≤ (k : Int) := by omega
      obtain ⟨b, off, rfl, hb, c0, c1, c2, c3, c4, hp⟩ := HC.out k hlt
      have d0 := (HB.out.cell (p := ⟨b, off + k * 5, none⟩) hb).trans c0
      have d1 := (HB.out.cell (p := ⟨b, off + k * 5 + 1, none⟩) hb).trans c1
      have d2 := (HB.out.cell (p := ⟨b, off + k * 5 + 2, none⟩) hb).trans c2
      have d3 := (HB.out.cell (p := ⟨b, off + k * 5 + 3, none⟩) hb).trans c3
      have d4 := (HB.out.cell (p := ⟨b, off + k * 5 + 4, none⟩) hb).trans c4
      have hwk : wrap64 ((k : Int) + 1) = ((k + 1 : Nat) : Int) := by have := HL.out; rw [IntWalk.wrap64_in _ (by omega)]; omega
      have HB1 : Hid (k + 1 ≤ 4611686018427387904) := by have := HL.out; show _ ≤ _; omega
      have HB2 : Hid ((k + 1) * 64 ≤ 140737488355328) := by have := HL.out; show _ ≤ _; omega
      have HLT := hid hlt
      have HT := hid (HTK.out k hlt)
      have CA := hid (HS.out k hlt)
      have hpf := hp.sl
      clear HC c0 c1 c2 c3 c4 hp HL hb HS HTK HZ
      generalize q[k] = y at *
      obtain ⟨pv, id, ma, sz, sum, ps⟩ := y
      unfold vnV at CA
      simp only at *
      obtain ⟨ad2, cap2, rfl⟩ := hpf
      generalize hpn : ps.length = pn at *
      clear hpn hlt hk
      go_wp2_with fail
      refine (CA.out _ HB.out).mono ?_
      rintro e w1 ⟨ad3, cap3, rfl, o3, b3⟩
      have HB3 : Hid (Below w.heap.size w w1) := below_on HB.out b3
      have O3 : Hid (OwnP w1 w.heap.size 74 (.slice ad3 pn cap3) ps) := ownsRow_base o3 (HB.out).size
      have R3 : Hid (OwnQ w1 w.heap.size 36 74 (.slice ad1 k cp1) q1) := by have := HR.out.2.2.next b3; exact this
      have HN1 := hid HR.out.1
      have HV1 : Hid (vqL (q1 ++ [(.slice ad3 pn cap3, ⟨id, ma, sz, sum, ps⟩)]) = (vqL q).take (k + 1)) := by show _ = _; rw [vqL_app, HR.out.2.1, HT.out]; rfl
      clear o3 b3 CA HB HR HT d0 d1 d2 d3 d4
      have HGA : Hid ((w1.alloc (.cells #[.int .i64 id, .bool ma, .int .i64 sz, .string sum, .slice ad3 pn cap3] 36)).ownsRow w.heap.size 36 5 (.slice ad1 k cp1) k (vqC q1)) := by
        have := (R3.out.next ((Below.refl _ _).alloc (Nat.le_refl _) (.cells #[.int .i64 id, .bool ma, .int .i64 sz, .string sum, .slice ad3 pn cap3] 36))).1
        rw [HN1.out] at this
        exact this
      have HGX : Hid (GSrc (w1.alloc (.cells #[.int .i64 id, .bool ma, .int .i64 sz, .string sum, .slice ad3 pn cap3] 36)) (.slice (some ⟨w1.heap.size, 0, none⟩) 1 1) 1 (vnC (.slice ad3 pn cap3, ⟨id, ma, sz, sum, ps⟩))) := gsrc_block (heap_alloc_new _ _)
      have HSZ : Hid (w.heap.size ≤ (w1.alloc (.cells #[.int .i64 id, .bool ma, .int .i64 sz, .string sum, .slice ad3 pn cap3] 36)).heap.size) := Nat.le_trans HB3.out.size (keep_alloc (fun _ => False) _ _).size
      have HO1 := hid (vnC_one ad3 pn cap3 ⟨id, ma, sz, sum, ps⟩)
      have FIN : Hid (∀ ad' cap' w', w'.ownsRow w.heap.size 36 5 (.slice ad' (k + 1) cap') (k + 1) (vqC q1 ++ vnC (.slice ad3 pn cap3, ⟨id, ma, sz, sum, ps⟩)) → Keep (fun j => (Value.slice ad1 k cp1).ownBlock = some j) (w1.alloc (.cells #[.int .i64 id, .bool ma, .int .i64 sz, .string sum, .slice ad3 pn cap3] 36)) w' → Hid ((q1 ++ [(Value.slice ad3 pn cap3, (⟨id, ma, sz, sum, ps⟩ : Vn))]).length = k + 1 ∧ vqL (q1 ++ [(Value.slice ad3 pn cap3, (⟨id, ma, sz, sum, ps⟩ : Vn))]) = (vqL q).take (k + 1) ∧ OwnQ w' w.heap.size 36 74 (.slice ad' (k + 1) cap') (q1 ++ [(Value.slice ad3 pn cap3, (⟨id, ma, sz, sum, ps⟩ : Vn))])) ∧ Hid (Below w.heap.size w w')) := fun ad' cap' w' hr hk' => by
        have hal := (Below.refl w1.heap.size w1).alloc (Nat.le_refl _) (.cells #[.int .i64 id, .bool ma, .int .i64 sz, .string sum, .slice ad3 pn cap3] 36)
        refine ⟨⟨by rw [List.length_append, HN1.out]; rfl, HV1.out, (R3.out.next hal).app (O3.out.next hal) (by decide) (by rw [HN1.out]; exact hr) hk'⟩, (below_al HB3.out _).trans (keep_below hk' (fun j hj e => by have := ownsRow_ge HGA.out e; omega) HSZ.out)⟩
      have HX2 : Hid ((vnC (.slice ad3 pn cap3, ⟨id, ma, sz, sum, ps⟩)).length = 1 * 5) := rfl
      generalize vnC (.slice ad3 pn cap3, ⟨id, ma, sz, sum, ps⟩) = XS at *
      go_wp2_with (at_builtin; refine wpl_gappL rfl _ _ elRV rfl w.heap.size (.slice ad1 k cp1) (.slice (some ⟨w1.heap.size, 0, none⟩) 1 1) (vqC q1) XS k 1 (k + 1) rfl rfl rfl HGA.out HSZ.out HGX.out HX2.out HO1.out HB1.out HB2.out ?_; intro ad' cap' w' hr' hk')
      obtain ⟨F1, F2⟩ := FIN.out _ _ _ hr' hk'
      clear hr' hk' FIN HGA HGX HSZ R3 O3 HB3
      go_wp2
      exact ⟨⟨k + 1, _, _, _, HLT.out, rfl, by first | rw [hwk] | rfl | simp, F1, F2⟩, by (try rw [hwk]); have := HLT.out; simp [intOf]; omega⟩
    · have hke : k = q.length := by omega
      have hd : decide ((k : Int) < (q.length : Int)) = false := decide_eq_false (by omega)
      have hd2 : decide (k < q.length) = false := decide_eq_false hlt
      have HF : Hid (vqL q1 = vqL q ∧ OwnQ wr w.heap.size 36 74 (.slice ad1 q.length cp1) q1) := by
        obtain ⟨_, h2, h3⟩ := HR.out
        rw [hke, HZ.out] at h2
        rw [hke] at h3
        exact ⟨h2, h3⟩
      have HKE := hid hke
      clear HC HTK HZ HR HL hke hlt hk HS
      go_wp2
      go_ret
      exact ⟨ad1, cp1, q1, by rw [HKE.out]; rfl, HF.out.1, HF.out.2, HB.out⟩
set_option maxRecDepth 100000 in
set_option maxHeartbeats 2000000 in
theorem vapart_any (v : Value) (q : List (Value × Vn)) (w : World) (hv : VnI w v q) (hl : q.length * 64 ≤ 140737488355328) (hs : ∀ y ∈ q, y.2.ps.length ≤ 1048576 ∧ (∀ p ∈ y.2.ps, p.id.size ≤ 1048576) ∧ y.2.sum.size ≤ 1048576) : Calls Try.prog 40 #[v] w fun e w' => ∃ ad cap q', e = .returned (.slice ad q.length cap) ∧ vqL q' = vqL q ∧ OwnQ w' w.heap.size 24 72 (.slice ad q.length cap) q' ∧ Below w.heap.size w w' := by
  obtain ⟨ad, cap, rfl, hc⟩ := hv.form
  have HC := hid hc
  have HL := hid hl
  have HS : Hid (∀ (k : Nat) (hk : k < q.length) (W : World), Below w.heap.size w W → Calls Try.prog 43 #[vnV q[k]] W fun e w' => ∃ ad cap, e = .returned (vnV (.slice ad q[k].2.ps.length cap, q[k].2)) ∧ OwnP w' W.heap.size 72 (.slice ad q[k].2.ps.length cap) q[k].2.ps ∧ Below W.heap.size W w') := fun k hk W hW => by
    obtain ⟨b, off, _, _, _, _, _, _, _, hp⟩ := hc k hk
    have h := hs _ (List.getElem_mem hk)
    exact own_any q[k].1 q[k].2 W (hp.next hW) h.1 h.2.1 h.2.2
  have HTK : Hid (∀ (k : Nat) (hk : k < q.length), (vqL q).take (k + 1) = (vqL q).take k ++ [q[k].2]) := fun k hk => by
    rw [List.take_succ_eq_append_getElem (by rw [vqL_len]; exact hk), vqL_get q k hk]
  have HZ : Hid ((vqL q).take q.length = vqL q) := by show _ = _; rw [← vqL_len, List.take_length]
  clear hc hv hl hs
  go_enter Try.func40, Try.ntmps40
  go_wp2
  go_loopw [3, 8] (fun o i wr => ∃ (k : Nat) (ad1 : Option Addr) (cp1 : Nat) (q1 : List (Value × Vn)), k ≤ q.length ∧ o = .slice ad1 k cp1 ∧ i = .int .i64 (k : Int) ∧ Hid (q1.length = k ∧ vqL q1 = (vqL q).take k ∧ OwnQ wr w.heap.size 24 72 (.slice ad1 k cp1) q1) ∧ Hid (Below w.heap.size w wr)) (fun _ i _ => q.length - (intOf i).toNat)
  case atStart => exact ⟨0, none, 0, [], Nat.zero_le _, rfl, rfl, ⟨rfl, rfl, ownQ_nil _ _ _ _⟩, Below.refl _ _⟩
  case round =>
    obtain ⟨k, ad1, cp1, q1, hk, rfl, rfl, HR, HB⟩ := hrel
    by_cases hlt : k < q.length
    · have hk1 : (k : Int) < (q.length : Int) := by omega
      have hk0 : (0 : Int) ≤ (k : Int) := by omega
      obtain ⟨b, off, rfl, hb, c0, c1, c2, c3, c4, hp⟩ := HC.out k hlt
      have d0 := (HB.out.cell (p := ⟨b, off + k * 5, none⟩) hb).trans c0
      have d1 := (HB.out.cell (p := ⟨b, off + k * 5 + 1, none⟩) hb).trans c1
      have d2 := (HB.out.cell (p := ⟨b, off + k * 5 + 2, none⟩) hb).trans c2
      have d3 := (HB.out.cell (p := ⟨b, off + k * 5 + 3, none⟩) hb).trans c3
      have d4 := (HB.out.cell (p := ⟨b, off + k * 5 + 4, none⟩) hb).trans c4
      have hwk : wrap64 ((k : Int) + 1) = ((k + 1 : Nat) : Int) := by have := HL.out; rw [IntWalk.wrap64_in _ (by omega)]; omega
      have HB1 : Hid (k + 1 ≤ 4611686018427387904) := by have := HL.out; show _ ≤ _; omega
      have HB2 : Hid ((k + 1) * 64 ≤ 140737488355328) := by have := HL.out; show _ ≤ _; omega
      have HLT := hid hlt
      have HT := hid (HTK.out k hlt)
      have CA := hid (HS.out k hlt)
      have hpf := hp.sl
      clear HC c0 c1 c2 c3 c4 hp HL hb HS HTK HZ
      generalize q[k] = y at *
      obtain ⟨pv, id, ma, sz, sum, ps⟩ := y
      unfold vnV at CA
      simp only at *
      obtain ⟨ad2, cap2, rfl⟩ := hpf
      generalize hpn : ps.length = pn at *
      clear hpn hlt hk
      have HBX : Hid (Below w.heap.size w (wr.alloc (.cells #[.int .i64 id, .bool ma, .int .i64 sz, .string sum, .slice ad2 pn cap2] 24))) := below_al HB.out _
      have SR := srow wr [.int .i64 id, .bool ma, .int .i64 sz, .string sum, .slice ad2 pn cap2] 24
      have y0 := SR.cellAt (o := 0) rfl
      have y1 := SR.cellAt (o := 1) rfl
      have y2 := SR.cellAt (o := 2) rfl
      have y3 := SR.cellAt (o := 3) rfl
      have y4 := SR.cellAt (o := 4) rfl
      clear SR
      go_wp2_with fail
      refine (CA.out _ HBX.out).mono ?_
      rintro e w1 ⟨ad3, cap3, rfl, o3, b3⟩
      have HB3 : Hid (Below w.heap.size w w1) := below_on HBX.out b3
      have O3 : Hid (OwnP w1 w.heap.size 72 (.slice ad3 pn cap3) ps) := ownsRow_base o3 (HBX.out).size
      have R3 : Hid (OwnQ w1 w.heap.size 24 72 (.slice ad1 k cp1) q1) := (HR.out.2.2.next ((Below.refl _ _).alloc (Nat.le_refl _) _)).next b3
      have HN1 := hid HR.out.1
      have HV1 : Hid (vqL (q1 ++ [(.slice ad3 pn cap3, ⟨id, ma, sz, sum, ps⟩)]) = (vqL q).take (k + 1)) := by show _ = _; rw [vqL_app, HR.out.2.1, HT.out]; rfl
      clear o3 b3 CA HB HR HT d0 d1 d2 d3 d4 HBX y0 y1 y2 y3 y4
      have HGA : Hid ((w1.alloc (.cells #[.int .i64 id, .bool ma, .int .i64 sz, .string sum, .slice ad3 pn cap3] 24)).ownsRow w.heap.size 24 5 (.slice ad1 k cp1) k (vqC q1)) := by
        have := (R3.out.next ((Below.refl _ _).alloc (Nat.le_refl _) (.cells #[.int .i64 id, .bool ma, .int .i64 sz, .string sum, .slice ad3 pn cap3] 24))).1
        rw [HN1.out] at this
        exact this
      have HGX : Hid (GSrc (w1.alloc (.cells #[.int .i64 id, .bool ma, .int .i64 sz, .string sum, .slice ad3 pn cap3] 24)) (.slice (some ⟨w1.heap.size, 0, none⟩) 1 1) 1 (vnC (.slice ad3 pn cap3, ⟨id, ma, sz, sum, ps⟩))) := gsrc_block (heap_alloc_new _ _)
      have HSZ : Hid (w.heap.size ≤ (w1.alloc (.cells #[.int .i64 id, .bool ma, .int .i64 sz, .string sum, .slice ad3 pn cap3] 24)).heap.size) := Nat.le_trans HB3.out.size (keep_alloc (fun _ => False) _ _).size
      have HO1 := hid (vnC_one ad3 pn cap3 ⟨id, ma, sz, sum, ps⟩)
      have FIN : Hid (∀ ad' cap' w', w'.ownsRow w.heap.size 24 5 (.slice ad' (k + 1) cap') (k + 1) (vqC q1 ++ vnC (.slice ad3 pn cap3, ⟨id, ma, sz, sum, ps⟩)) → Keep (fun j => (Value.slice ad1 k cp1).ownBlock = some j) (w1.alloc (.cells #[.int .i64 id, .bool ma, .int .i64 sz, .string sum, .slice ad3 pn cap3] 24)) w' → Hid ((q1 ++ [(Value.slice ad3 pn cap3, (⟨id, ma, sz, sum, ps⟩ : Vn))]).length = k + 1 ∧ vqL (q1 ++ [(Value.slice ad3 pn cap3, (⟨id, ma, sz, sum, ps⟩ : Vn))]) = (vqL q).take (k + 1) ∧ OwnQ w' w.heap.size 24 72 (.slice ad' (k + 1) cap') (q1 ++ [(Value.slice ad3 pn cap3, (⟨id, ma, sz, sum, ps⟩ : Vn))])) ∧ Hid (Below w.heap.size w w')) := fun ad' cap' w' hr hk' => by
        have hal := (Below.refl w1.heap.size w1).alloc (Nat.le_refl _) (.cells #[.int .i64 id, .bool ma, .int .i64 sz, .string sum, .slice ad3 pn cap3] 24)
        refine ⟨⟨by rw [List.length_append, HN1.out]; rfl, HV1.out, (R3.out.next hal).app (O3.out.next hal) (by decide) (by rw [HN1.out]; exact hr) hk'⟩, (below_al HB3.out _).trans (keep_below hk' (fun j hj e => by have := ownsRow_ge HGA.out e; omega) HSZ.out)⟩
      have HX2 : Hid ((vnC (.slice ad3 pn cap3, ⟨id, ma, sz, sum, ps⟩)).length = 1 * 5) := rfl
      generalize vnC (.slice ad3 pn cap3, ⟨id, ma, sz, sum, ps⟩) = XS at *
      go_wp2_with (at_builtin; refine wpl_gappL rfl _ _ elV rfl w.heap.size (.slice ad1 k cp1) (.slice (some ⟨w1.heap.size, 0, none⟩) 1 1) (vqC q1) XS k 1 (k + 1) rfl rfl rfl HGA.out HSZ.out HGX.out HX2.out HO1.out HB1.out HB2.out ?_; intro ad' cap' w' hr' hk')
      obtain ⟨F1, F2⟩ := FIN.out _ _ _ hr' hk'
      clear hr' hk' FIN HGA HGX HSZ R3 O3 HB3
      go_wp2
      exact ⟨⟨k + 1, _, _, _, HLT.out, rfl, by first | rw [hwk] | rfl | simp, F1, F2⟩, by (try rw [hwk]); have := HLT.out; simp [intOf]; omega⟩
    · have hke : k = q.length := by omega
      have hd : decide ((k : Int) < (q.length : Int)) = false := decide_eq_false (by omega)
      have hd2 : decide (k < q.length) = false := decide_eq_false hlt
      have HF : Hid (vqL q1 = vqL q ∧ OwnQ wr w.heap.size 24 72 (.slice ad1 q.length cp1) q1) := by
        obtain ⟨_, h2, h3⟩ := HR.out
        rw [hke, HZ.out] at h2
        rw [hke] at h3
        exact ⟨h2, h3⟩
      have HKE := hid hke
      clear HC HTK HZ HR HL hke hlt hk HS
      go_wp2
      go_ret
      exact ⟨ad1, cp1, q1, by rw [HKE.out]; rfl, HF.out.1, HF.out.2, HB.out⟩
end Go.Proofs.Ytbiapepalkdkdaa
