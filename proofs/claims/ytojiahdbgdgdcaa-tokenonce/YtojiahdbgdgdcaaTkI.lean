/- Old tokens are forgotten: the program's Expire. -/
import Derived.Test.YtojiahdbgdgdcaaTkH
namespace Go.Proofs.Ytojiahdbgdgdcaa
open Go.RowKit Go.Maps
set_option linter.unusedVariables false
set_option linter.unusedSimpArgs false

/-- those that stay -/
def stayH (u : Int) (l : List Hd) : List Hd := l.filter (fun h => decide (u < h.at_))
def expL (l : List Hd) (u : Int) : List Hd := if isTb l = true then stayH u l else []
def expN (l : List Hd) (u : Int) : Int := if isTb l = true then (l.length : Int) - ((stayH u l).length : Int) else 0
theorem stayH_take (u : Int) (l : List Hd) (k : Nat) (hk : k < l.length) : stayH u (l.take (k + 1)) = stayH u (l.take k) ++ (if u < l[k].at_ then [l[k]] else []) := by
  unfold stayH
  rw [List.take_succ_eq_append_getElem hk, List.filter_append]
  by_cases h : u < l[k].at_
  · rw [if_pos h, List.filter_cons_of_pos (by simpa using h), List.filter_nil]
  · rw [if_neg h, List.filter_cons_of_neg (by simpa using h), List.filter_nil]
theorem stayH_out (u : Int) (l : List Hd) (k : Nat) (hk : k < l.length) (h : decide (l[k].at_ ≤ u) = true) : stayH u (l.take (k + 1)) = stayH u (l.take k) := by
  have h2 : ¬ u < l[k].at_ := by have := of_decide_eq_true h; omega
  rw [stayH_take u l k hk, if_neg h2, List.append_nil]
theorem stayH_in (u : Int) (l : List Hd) (k : Nat) (hk : k < l.length) (h : decide (l[k].at_ ≤ u) = false) : stayH u (l.take (k + 1)) = stayH u (l.take k) ++ [l[k]] := by
  have h2 : u < l[k].at_ := by have := of_decide_eq_false h; omega
  rw [stayH_take u l k hk, if_pos h2]
theorem stayH_len (u : Int) (l : List Hd) : (stayH u l).length ≤ l.length := List.length_filter_le ..
theorem stayH_mem {u : Int} {l : List Hd} {h : Hd} (e : h ∈ stayH u l) : h ∈ l := (List.mem_filter.1 e).1
set_option maxRecDepth 100000 in
set_option maxHeartbeats 1000000 in
theorem exp1_any (h : Hd) (g : Nat) (u : Int) (w : World) (hg : RowIs w g [.int .i64 u] 3) : Calls Try.prog 31 #[hdV h, .pointer (some ⟨g, 0, none⟩)] w fun e w' => e = .returned (.bool (decide (h.at_ ≤ u))) ∧ Below w.heap.size w w' := by
  have HB : Hid (∀ X, Below w.heap.size w (w.alloc X)) := fun X => below_al (Below.refl _ _) _
  have hlt := hg.lt
  have c0 := (row_old hg (.cells #[.string h.tk, .string h.su, .string h.ou, .int .i64 h.at_] 31)).cellAt (o := 0) rfl
  have SR := srow w [.string h.tk, .string h.su, .string h.ou, .int .i64 h.at_] 31
  have y3 := SR.cellAt (o := 3) rfl
  clear hlt SR hg
  unfold hdV
  obtain ⟨tk, su, ou, at_⟩ := h
  simp only at *
  go_enter Try.func31, Try.ntmps31
  go_wp2
  go_ret
  exact ⟨rfl, HB.out _⟩
set_option maxRecDepth 100000 in
set_option maxHeartbeats 2000000 in
theorem without_any (v : Value) (q : List Hd) (g : Nat) (u : Int) (w : World) (hv : HdI w v q) (hl : q.length ≤ 1048576) (hg : RowIs w g [.int .i64 u] 3) : Calls Try.prog 30 #[v, .func (.func 31) #[] #[.pointer (some ⟨g, 0, none⟩)]] w fun e w' => ∃ ad cap, e = .returned (.slice ad (stayH u q).length cap) ∧ OwnH w' w.heap.size 31 (.slice ad (stayH u q).length cap) (stayH u q) ∧ Below w.heap.size w w' := by
  obtain ⟨ad, cap, rfl, hc⟩ := hv.form
  have HC := hid hc
  have HL := hid hl
  have HZ : Hid (q.take q.length = q) := List.take_length
  have HSL : Hid (∀ k, (stayH u (q.take k)).length ≤ 1048576) := fun k => by have := stayH_len u (q.take k); rw [List.length_take] at this; omega
  have E1 : Hid (∀ (x : Hd) W, Below w.heap.size w W → Calls Try.prog 31 #[hdV x, .pointer (some ⟨g, 0, none⟩)] W fun e w' => e = .returned (.bool (decide (x.at_ ≤ u))) ∧ Below W.heap.size W w') := fun x W hW => exp1_any x g u W (hg.keep (hW.keep (fun _ => False)) (fun h => h))
  have HR0 : Hid (w.ownsRow w.heap.size 31 4 (.slice none 0 0) (stayH u (q.take 0)).length (hqC (stayH u (q.take 0)))) := ⟨rfl, .inl ⟨rfl, rfl⟩⟩
  have hcf := enters_of Try.func31 (by kernel_rfl) rfl
  clear hc hv hl hg
  go_enter Try.func30, Try.ntmps30
  go_wp2
  go_loopw [5, 10] (fun o i wr => ∃ (k : Nat) (ad1 : Option Addr) (cp1 : Nat), k ≤ q.length ∧ o = .slice ad1 (stayH u (q.take k)).length cp1 ∧ i = .int .i64 (k : Int) ∧ Hid (wr.ownsRow w.heap.size 31 4 (.slice ad1 (stayH u (q.take k)).length cp1) (stayH u (q.take k)).length (hqC (stayH u (q.take k)))) ∧ Hid (Below w.heap.size w wr)) (fun _ i _ => q.length - (intOf i).toNat)
  case atStart => exact ⟨0, none, 0, Nat.zero_le _, rfl, rfl, HR0, Below.refl _ _⟩
  case round =>
    clear HR0
    obtain ⟨k, ad1, cp1, hk, rfl, rfl, HR, HB⟩ := hrel
    by_cases hlt : k < q.length
    · have hk1 : (k : Int) < (q.length : Int) := by omega
      have hk0 : (0 : Int) ≤ (k : Int) := by omega
      obtain ⟨b, off, rfl, hb, c0, c1, c2, c3⟩ := HC.out k hlt
      have d0 := (HB.out.cell (p := ⟨b, off + k * 4, none⟩) hb).trans c0
      have d1 := (HB.out.cell (p := ⟨b, off + k * 4 + 1, none⟩) hb).trans c1
      have d2 := (HB.out.cell (p := ⟨b, off + k * 4 + 2, none⟩) hb).trans c2
      have d3 := (HB.out.cell (p := ⟨b, off + k * 4 + 3, none⟩) hb).trans c3
      have hwk : wrap64 ((k : Int) + 1) = ((k + 1 : Nat) : Int) := by have := HL.out; rw [IntWalk.wrap64_in _ (by omega)]; omega
      have HLT := hid hlt
      have HOUT := hid (stayH_out u q k hlt)
      have HIN := hid (stayH_in u q k hlt)
      have HS1 := hid (HSL.out (k + 1))
      have BM := hid (Bx.made (Below.refl wr.heap.size wr) [.string q[k].tk, .string q[k].su, .string q[k].ou, .int .i64 q[k].at_] 31)
      have EX := hid (E1.out q[k] _ (below_on HB.out BM.out.b))
      have HO1 := hid (hdC_one q[k])
      have HX2 : Hid ((hdC q[k]).length = 1 * 4) := rfl
      have HXS : Hid (hdC q[k] = [.string q[k].tk, .string q[k].su, .string q[k].ou, .int .i64 q[k].at_]) := rfl
      have HCE : Hid (∀ W, Bx wr wr.heap.size [.string q[k].tk, .string q[k].su, .string q[k].ou, .int .i64 q[k].at_] 31 W → W.cell? ⟨wr.heap.size, 0, none⟩ = some (.string q[k].tk) ∧ W.cell? ⟨wr.heap.size, 1, none⟩ = some (.string q[k].su) ∧ W.cell? ⟨wr.heap.size, 2, none⟩ = some (.string q[k].ou) ∧ W.cell? ⟨wr.heap.size, 3, none⟩ = some (.int .i64 q[k].at_)) := fun W h => ⟨h.row.cellAt rfl, h.row.cellAt rfl, h.row.cellAt rfl, h.row.cellAt rfl⟩
      have HGO : Hid (∀ W, Below wr.heap.size wr W → decide (q[k].at_ ≤ u) = true → Hid (W.ownsRow w.heap.size 31 4 (.slice ad1 (stayH u (q.take k)).length cp1) (stayH u (q.take (k + 1))).length (hqC (stayH u (q.take (k + 1))))) ∧ (stayH u (q.take (k + 1))).length = (stayH u (q.take k)).length) := fun W hW h => by
        have e : stayH u (q.take (k + 1)) = stayH u (q.take k) := HOUT.out h
        rw [e]
        exact ⟨(hW.keep (fun _ => False)).ownsRow HR.out (fun _ _ h => h), rfl⟩
      have HST : Hid (decide (q[k].at_ ≤ u) = false → (stayH u (q.take (k + 1))).length = (stayH u (q.take k)).length + 1 ∧ hqC (stayH u (q.take (k + 1))) = hqC (stayH u (q.take k)) ++ hdC q[k]) := fun h => by
        have e : stayH u (q.take (k + 1)) = stayH u (q.take k) ++ [q[k]] := HIN.out h
        rw [e, hqC_app, hqC_one]
        exact ⟨by simp, rfl⟩
      clear HC c0 c1 c2 c3 HL hb HZ HSL E1 HOUT HIN
      unfold hdV at EX
      generalize q[k] = y at *
      obtain ⟨tk, su, ou, at_⟩ := y
      simp only at *
      generalize hdC _ = XS at *
      clear hlt hk
      obtain ⟨y0, y1, y2, y3⟩ := HCE.out _ BM.out
      go_wp2_with fail
      refine EX.out.mono ?_
      rintro e w1 ⟨rfl, b1⟩
      have B1 := hid (BM.out.next b1)
      clear EX b1 BM y0 y1 y2 y3 d0 d1 d2 d3
      cases hle : decide (at_ ≤ u)
      · obtain ⟨e1, e2⟩ := HST.out hle
        obtain ⟨y0, y1, y2, y3⟩ := HCE.out _ B1.out
        have HN1 := hid e1
        have HGA : Hid ((w1.alloc (.cells #[.string tk, .string su, .string ou, .int .i64 at_] 31)).ownsRow w.heap.size 31 4 (.slice ad1 (stayH u (q.take k)).length cp1) (stayH u (q.take k)).length (hqC (stayH u (q.take k)))) := ((below_al B1.out.b _).keep (fun _ => False)).ownsRow HR.out (fun _ _ h => h)
        have HSZ : Hid (w.heap.size ≤ (w1.alloc (.cells #[.string tk, .string su, .string ou, .int .i64 at_] 31)).heap.size) := Nat.le_trans HB.out.size (below_al B1.out.b _).size
        have HGX : Hid (GSrc (w1.alloc (.cells #[.string tk, .string su, .string ou, .int .i64 at_] 31)) (.slice (some ⟨w1.heap.size, 0, none⟩) 1 1) 1 XS) := by
          rw [HXS.out]; exact gsrc_block (heap_alloc_new _ _)
        have HB1 : Hid ((stayH u (q.take k)).length + 1 ≤ 4611686018427387904) := by have := HS1.out; show _ ≤ _; omega
        have HB2 : Hid (((stayH u (q.take k)).length + 1) * 56 ≤ 140737488355328) := by have := HS1.out; show _ ≤ _; omega
        have FIN : Hid (∀ ad' cap' w', w'.ownsRow w.heap.size 31 4 (.slice ad' ((stayH u (q.take k)).length + 1) cap') ((stayH u (q.take k)).length + 1) (hqC (stayH u (q.take k)) ++ XS) → Keep (fun j => (Value.slice ad1 (stayH u (q.take k)).length cp1).ownBlock = some j) (w1.alloc (.cells #[.string tk, .string su, .string ou, .int .i64 at_] 31)) w' → Hid (w'.ownsRow w.heap.size 31 4 (.slice ad' (stayH u (q.take (k + 1))).length cap') (stayH u (q.take (k + 1))).length (hqC (stayH u (q.take (k + 1))))) ∧ Hid (Below w.heap.size w w')) := fun ad' cap' w' hr hk' => by
          refine ⟨?_, (below_on HB.out (below_al B1.out.b _)).trans (keep_below hk' (fun j hj e => by have := ownsRow_ge HR.out e; omega) HSZ.out)⟩
          show World.ownsRow _ _ _ _ _ _ _
          rw [e1, e2]; exact hr
        clear HR HB HGO HST HXS HCE e1 e2 HS1 B1
        generalize (stayH u (q.take k)).length = n0 at *
        generalize hqC (stayH u (q.take k)) = PA at *
        go_wp2_with (at_builtin; refine wpl_gappL rfl _ _ elH rfl w.heap.size (.slice ad1 n0 cp1) (.slice (some ⟨w1.heap.size, 0, none⟩) 1 1) PA XS n0 1 (n0 + 1) rfl rfl rfl HGA.out HSZ.out HGX.out HX2.out HO1.out HB1.out HB2.out ?_; intro ad' cap' w' hr' hk')
        obtain ⟨F1, F2⟩ := FIN.out _ _ _ hr' hk'
        clear hr' hk' FIN HGA HGX HSZ y0 y1 y2 y3
        go_wp2
        exact ⟨⟨k + 1, _, _, HLT.out, by rw [HN1.out], by first | rw [hwk] | rfl | simp, F1, F2⟩, by (try rw [hwk]); have := HLT.out; simp [intOf]; omega⟩
      · obtain ⟨R2, e1⟩ := HGO.out _ B1.out.b hle
        have HN1 := hid e1
        have B2 := hid (below_on HB.out B1.out.b)
        clear HR HB HGO HST HXS HCE e1 HS1 B1 HO1 HX2
        go_wp2
        refine ⟨⟨k + 1, ad1, cp1, HLT.out, by rw [HN1.out], by first | rw [hwk] | rfl | simp, ?_, B2⟩, by (try rw [hwk]); have := HLT.out; simp [intOf]; omega⟩
        rw [← HN1.out] at R2
        exact R2
    · have hke : k = q.length := by omega
      have hd : decide ((k : Int) < (q.length : Int)) = false := decide_eq_false (by omega)
      have hd2 : decide (k < q.length) = false := decide_eq_false hlt
      have hsr : q.take k = q := by rw [hke, HZ.out]
      rw [hsr] at HR ⊢
      clear HC HZ HL hke hlt hk HSL E1 hsr
      go_wp2
      go_ret
      exact ⟨ad1, cp1, rfl, HR.out, HB.out⟩
set_option maxRecDepth 100000 in
set_option maxHeartbeats 2000000 in
theorem expire15_any (v : Value) (q : List Hd) (u : Int) (w : World) (hv : HdI w v q) : Calls Try.prog 14 #[v, .int .i64 u] w (GiveH w 31 (expL q u) (expN q u)) := by
  obtain ⟨ad, cap, rfl, hc⟩ := hv.form
  clear hc
  have BM := hid (Bx.made (Below.refl w.heap.size w) [.int .i64 u] 3)
  have IT := hid (isTable_any _ q _ (hv.next BM.out.b))
  have WO : Hid (∀ W, Bx w w.heap.size [.int .i64 u] 3 W → isTb q = true → Calls Try.prog 30 #[.slice ad q.length cap, .func (.func 31) #[] #[.pointer (some ⟨w.heap.size, 0, none⟩)]] W fun e w' => ∃ ad cap, e = .returned (.slice ad (stayH u q).length cap) ∧ Hid (HdI w' (.slice ad (stayH u q).length cap) (stayH u q)) ∧ Hid (Bx w w.heap.size [.int .i64 u] 3 w')) := fun W hW h => (without_any _ q _ u W (hv.next hW.b) (by have := isTb_len h; omega) hW.row).mono fun e w' ⟨ad, cap, he, ho, hb⟩ => ⟨ad, cap, he, ho.hd, hW.next hb⟩
  have AP : Hid (∀ W x, Bx w w.heap.size [.int .i64 u] 3 W → HdI W x (stayH u q) → isTb q = true → Calls Try.prog 27 #[x] W fun e w' => ∃ ad cap, e = .returned (.slice ad (stayH u q).length cap) ∧ Hid (OwnH w' w.heap.size 31 (.slice ad (stayH u q).length cap) (stayH u q)) ∧ Hid (Below w.heap.size w w')) := fun W x hW hx h => (apart15_any x _ W hx (by have := stayH_len u q; have := isTb_len h; omega) (fun y hy => isTb_all h y (stayH_mem hy))).mono fun e w' ⟨ad, cap, he, ho, hb⟩ => ⟨ad, cap, he, ownsRow_base ho hW.b.size, below_on hW.b hb⟩
  have HEL : Hid (expL q u = if isTb q = true then stayH u q else []) := rfl
  have HEN : Hid (expN q u = if isTb q = true then (q.length : Int) - ((stayH u q).length : Int) else 0) := rfl
  have HLN : Hid (isTb q = true → q.length ≤ 64) := isTb_len
  have HSL := hid (stayH_len u q)
  generalize expL q u = EL at *
  generalize expN q u = EN at *
  generalize isTb q = IS at *
  generalize stayH u q = SH at *
  clear hv
  go_enter Try.func14, Try.ntmps14
  go_wp2_with fail
  refine IT.out.mono ?_
  rintro e w1 ⟨rfl, b1⟩
  have B1 := hid (BM.out.next b1)
  clear IT b1 BM
  cases IS
  · have h1 : EL = [] := HEL.out
    have h2 : EN = 0 := HEN.out
    subst h1 h2
    clear WO AP HEL HEN HLN HSL
    go_wp2
    go_ret2
    exact giveH_none B1.out.b
  have h1 : EL = SH := HEL.out
  have h2 : EN = (q.length : Int) - (SH.length : Int) := HEN.out
  subst h1 h2
  have HL := hid (HLN.out rfl)
  have W1 := hid (WO.out w1 B1.out rfl)
  have A1 := hid (fun W x hW hx => AP.out W x hW hx rfl)
  clear HEL HEN HLN WO AP
  go_wp2_with fail
  refine W1.out.mono ?_
  rintro e w2 ⟨ad2, cap2, rfl, R2, B2⟩
  clear W1 B1
  have A2 := hid (A1.out w2 _ B2.out R2.out)
  have hw : wrap64 ((q.length : Int) - (EL.length : Int)) = (q.length : Int) - (EL.length : Int) := by have := HSL.out; have := HL.out; rw [IntWalk.wrap64_in _ (by omega)]
  clear A1 R2
  go_wp2_with fail
  refine A2.out.mono ?_
  rintro e w3 ⟨ad3, cap3, rfl, R3, B3⟩
  clear A2 B2 HSL HL
  go_wp2
  go_ret2
  exact ⟨ad3, cap3, by rw [hw]; rfl, R3.out, B3.out⟩
end Go.Proofs.Ytojiahdbgdgdcaa
