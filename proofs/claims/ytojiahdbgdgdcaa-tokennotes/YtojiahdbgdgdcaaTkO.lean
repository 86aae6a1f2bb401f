/- Old tokens are forgotten: the document. -/
import Derived.Test.YtojiahdbgdgdcaaTkN
namespace Go.Proofs.Ytojiahdbgdgdcaa
open Go.RowKit Go.Maps
set_option linter.unusedVariables false
set_option linter.unusedSimpArgs false

set_option maxRecDepth 100000 in
set_option maxHeartbeats 2000000 in
theorem rexpire15_any (v : Value) (q : List Hd) (u : Int) (w : World) (hv : HdI w v q) (hl : q.length ≤ 8796093022208) (hs : ∀ y ∈ q, y.tk.size ≤ 140737488355328 ∧ y.su.size ≤ 140737488355328) : Calls Try.prog 15 #[v, .int .i64 u] w (GiveH w 37 (expL q u) (expN q u)) := by
  obtain ⟨ad, cap, rfl, hc⟩ := hv.form
  have HC := hid hc
  have IT := hid (may15_any _ q w hv hl hs)
  have HEL : Hid (expL q u = if isTb q = true then stayH u q else []) := rfl
  have HEN : Hid (expN q u = if isTb q = true then (q.length : Int) - ((stayH u q).length : Int) else 0) := rfl
  have HLN : Hid (isTb q = true → q.length ≤ 64) := isTb_len
  have HZ : Hid (q.take q.length = q) := List.take_length
  have HSL : Hid (∀ k, (stayH u (q.take k)).length ≤ q.length) := fun k => by have := stayH_len u (q.take k); rw [List.length_take] at this; omega
  have HIN : Hid (∀ (k : Nat) (hk : k < q.length), decide (q[k].at_ ≤ u) = false → stayH u (q.take (k + 1)) = stayH u (q.take k) ++ [q[k]]) := fun k hk h => stayH_in u q k hk h
  have HOUT : Hid (∀ (k : Nat) (hk : k < q.length), decide (q[k].at_ ≤ u) = true → stayH u (q.take (k + 1)) = stayH u (q.take k)) := fun k hk h => stayH_out u q k hk h
  generalize expL q u = EL at *
  generalize expN q u = EN at *
  generalize isTb q = IS at *
  clear hc hv hl hs
  go_enter Try.func15, Try.ntmps15
  go_wp2_with fail
  refine IT.out.mono ?_
  rintro e w1 ⟨rfl, b1⟩
  have B1 := hid b1
  clear IT b1
  cases IS
  · have h1 : EL = [] := HEL.out
    have h2 : EN = 0 := HEN.out
    subst h1 h2
    clear HC HEL HEN HLN HZ HSL HIN HOUT
    go_wp2
    go_ret2
    exact giveH_none B1.out
  have HEL2 : Hid (EL = stayH u q) := HEL.out
  have HEN2 : Hid (EN = (q.length : Int) - ((stayH u q).length : Int)) := HEN.out
  have HL := hid (HLN.out rfl)
  clear HEL HEN HLN
  have HR0 : Hid (w1.ownsRow w.heap.size 37 4 (.slice none 0 0) (stayH u (q.take 0)).length (hqC (stayH u (q.take 0)))) := ⟨rfl, .inl ⟨rfl, rfl⟩⟩
  go_wp2
  go_loopw [6, 7] (fun o i wr => ∃ (k : Nat) (ad1 : Option Addr) (cp1 : Nat), k ≤ q.length ∧ o = .slice ad1 (stayH u (q.take k)).length cp1 ∧ i = .int .i64 (k : Int) ∧ Hid (wr.ownsRow w.heap.size 37 4 (.slice ad1 (stayH u (q.take k)).length cp1) (stayH u (q.take k)).length (hqC (stayH u (q.take k)))) ∧ Hid (Below w.heap.size w wr)) (fun _ i _ => q.length - (intOf i).toNat)
  case atStart => exact ⟨0, none, 0, Nat.zero_le _, rfl, rfl, HR0, B1⟩
  case round =>
    clear HR0 B1
    obtain ⟨k, ad1, cp1, hk, rfl, rfl, HR, HB⟩ := hrel
    by_cases hlt : k < q.length
    · have hk1 : (k : Int) < (q.length : Int) := by omega
      have hk0 : (0 : Int) ≤ (k : Int) := by omega
      obtain ⟨b, off, rfl, hb, c0, c1, c2, c3⟩ := HC.out k hlt
      have d0 := (HB.out.cell (p := ⟨b, off + k * 4, none⟩) hb).trans c0
      have d1 := (HB.out.cell (p := ⟨b, off + k * 4 + 1, none⟩) hb).trans c1
      have d2 := (HB.out.cell (p := ⟨b, off + k * 4 + 2, none⟩) hb).trans c2
      have d3 := (HB.out.cell (p := ⟨b, off + k * 4 + 3, none⟩) hb).trans c3
      have hwk : wrap64 ((k : Int) + 1) = ((k + 1 : Nat) : Int) := by have := HL.out; rw [IntWalk.wrap64_in _ (by omega)]; omega
      have HLT := hid hlt
      have HI1 := hid (HIN.out k hlt)
      have HO2 := hid (HOUT.out k hlt)
      have HFk := hid (HSL.out k)
      have HO1 := hid (hdC_one q[k])
      have HX2 : Hid ((hdC q[k]).length = 1 * 4) := rfl
      have HXS : Hid (hdC q[k] = [.string q[k].tk, .string q[k].su, .string q[k].ou, .int .i64 q[k].at_]) := rfl
      have HQ1 : Hid (hqC (stayH u (q.take k) ++ [q[k]]) = hqC (stayH u (q.take k)) ++ hdC q[k] ∧ (stayH u (q.take k) ++ [q[k]]).length = (stayH u (q.take k)).length + 1) := ⟨by rw [hqC_app, hqC_one], by simp⟩
      have hkL : (k : Int) < 65 := by have := HL.out; omega
      clear HC c0 c1 c2 c3 hb HZ HSL HIN HOUT HEL2 HEN2 hk
      generalize q[k] = y at *
      obtain ⟨tk, su, ou, at_⟩ := y
      simp only at *
      generalize hdC _ = XS at *
      clear hlt
      by_cases hle : at_ ≤ u
      · have g1 : decide (u < at_) = false := decide_eq_false (by omega)
        have e1 := HO2.out (decide_eq_true hle)
        have HE1 := hid e1
        have R2 : Hid (wr.ownsRow w.heap.size 37 4 (.slice ad1 (stayH u (q.take (k + 1))).length cp1) (stayH u (q.take (k + 1))).length (hqC (stayH u (q.take (k + 1))))) := by rw [e1]; exact HR.out
        clear HR HI1 HO2 HFk HO1 HX2 HXS HQ1 HL hle e1
        go_wp2
        exact ⟨⟨k + 1, ad1, cp1, HLT.out, by rw [HE1.out], by first | rw [hwk] | rfl | simp, R2, HB⟩, by (try rw [hwk]); have := HLT.out; simp [intOf]; omega⟩
      · have g1 : decide (u < at_) = true := decide_eq_true (by omega)
        have e1 := HI1.out (decide_eq_false hle)
        have HE1 : Hid ((stayH u (q.take (k + 1))).length = (stayH u (q.take k)).length + 1) := by show _ = _; rw [e1]; exact HQ1.out.2
        have HE2 : Hid (hqC (stayH u (q.take (k + 1))) = hqC (stayH u (q.take k)) ++ XS) := by show _ = _; rw [e1]; exact HQ1.out.1
        have HB3 : Hid ((stayH u (q.take k)).length + 1 ≤ 4611686018427387904) := by have := HFk.out; have := HL.out; show _ ≤ _; omega
        have HB4 : Hid (((stayH u (q.take k)).length + 1) * 56 ≤ 140737488355328) := by have := HFk.out; have := HL.out; show _ ≤ _; omega
        have HGA : Hid ((wr.alloc (.cells #[.string tk, .string su, .string ou, .int .i64 at_] 37)).ownsRow w.heap.size 37 4 (.slice ad1 (stayH u (q.take k)).length cp1) (stayH u (q.take k)).length (hqC (stayH u (q.take k)))) := (keep_alloc (fun _ => False) _ _).ownsRow HR.out (fun _ _ h => h)
        have HGX : Hid (GSrc (wr.alloc (.cells #[.string tk, .string su, .string ou, .int .i64 at_] 37)) (.slice (some ⟨wr.heap.size, 0, none⟩) 1 1) 1 XS) := by
          rw [HXS.out]; exact gsrc_block (heap_alloc_new _ _)
        have HSZ : Hid (w.heap.size ≤ (wr.alloc (.cells #[.string tk, .string su, .string ou, .int .i64 at_] 37)).heap.size) := Nat.le_trans HB.out.size (keep_alloc (fun _ => False) _ _).size
        have FIN : Hid (∀ ad' cap' w', w'.ownsRow w.heap.size 37 4 (.slice ad' ((stayH u (q.take k)).length + 1) cap') ((stayH u (q.take k)).length + 1) (hqC (stayH u (q.take k)) ++ XS) → Keep (fun j => (Value.slice ad1 (stayH u (q.take k)).length cp1).ownBlock = some j) (wr.alloc (.cells #[.string tk, .string su, .string ou, .int .i64 at_] 37)) w' → Hid (w'.ownsRow w.heap.size 37 4 (.slice ad' (stayH u (q.take (k + 1))).length cap') (stayH u (q.take (k + 1))).length (hqC (stayH u (q.take (k + 1))))) ∧ Hid (Below w.heap.size w w')) := fun ad' cap' w' hr hk' => by
          refine ⟨?_, (below_al HB.out _).trans (keep_below hk' (fun j hj e => by have := ownsRow_ge HR.out e; omega) HSZ.out)⟩
          show World.ownsRow _ _ _ _ _ _ _
          rw [HE1.out, HE2.out]; exact hr
        clear HR HB HI1 HO2 HFk HXS HQ1 HL hle e1 HE2
        generalize hqC (stayH u (q.take k)) = PA at *
        generalize (stayH u (q.take k)).length = n0 at *
        go_wp2_with (at_builtin; refine wpl_gappL rfl _ _ elRH rfl w.heap.size (.slice ad1 n0 cp1) (.slice (some ⟨wr.heap.size, 0, none⟩) 1 1) PA XS n0 1 (n0 + 1) rfl rfl rfl HGA.out HSZ.out HGX.out HX2.out HO1.out HB3.out HB4.out ?_; intro ad' cap' w' hr' hk')
        obtain ⟨F1, F2⟩ := FIN.out _ _ _ hr' hk'
        clear hr' hk' FIN HGA HGX HSZ d0 d1 d2 d3
        go_wp2
        exact ⟨⟨k + 1, _, _, HLT.out, by rw [HE1.out], by first | rw [hwk] | rfl | simp, F1, F2⟩, by (try rw [hwk]); have := HLT.out; simp [intOf]; omega⟩
    · have hke : k = q.length := by omega
      have hd : decide ((k : Int) < (q.length : Int)) = false := decide_eq_false (by omega)
      have hd2 : decide (k < q.length) = false := decide_eq_false hlt
      have hsr : q.take k = q := by rw [hke, HZ.out]
      rw [hsr] at HR ⊢
      have h1 := HEL2.out
      have h2 := HEN2.out
      have HS2 : Hid ((stayH u q).length ≤ q.length) := by have := HSL.out q.length; rw [HZ.out] at this; exact this
      have hw : wrap64 ((q.length : Int) - ((stayH u q).length : Int)) = (q.length : Int) - ((stayH u q).length : Int) := by have := HS2.out; have := HL.out; rw [IntWalk.wrap64_in _ (by omega)]
      subst h1 h2
      clear HC HIN HOUT HZ HL hke hlt hk HSL hsr HEL2 HEN2 HS2
      generalize stayH u q = SH at *
      go_wp2
      go_ret2
      exact ⟨ad1, cp1, by rw [hw]; rfl, HR.out, HB.out⟩
end Go.Proofs.Ytojiahdbgdgdcaa
