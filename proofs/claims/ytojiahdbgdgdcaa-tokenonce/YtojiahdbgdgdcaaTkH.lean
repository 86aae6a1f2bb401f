/- A token is kept: the program's Note. -/
import Derived.Test.YtojiahdbgdgdcaaTkG
import Derived.Deep.RegionHeld3
namespace Go.Proofs.Ytojiahdbgdgdcaa
open Go.RowKit Go.Maps
set_option linter.unusedVariables false
set_option linter.unusedSimpArgs false

def insH (l : List Hd) (h : Hd) : List Hd := l.take (plH l h.tk) ++ h :: l.drop (plH l h.tk)
def noteE (l : List Hd) (h : Hd) : Int := if isTb l = true ∧ hdOk h = true then (if hasH l h.tk = true then 71 else if l.length = 64 then 131 else 0) else 1
def noteL (l : List Hd) (h : Hd) : List Hd := if noteE l h = 0 then insH l h else []
theorem insH_len (l : List Hd) (h : Hd) : (insH l h).length = l.length + 1 := by
  have := plH_le l h.tk
  simp [insH]; omega
theorem insH_mem (l : List Hd) (h x : Hd) : x ∈ insH l h ↔ x = h ∨ x ∈ l := by
  unfold insH
  have e : l = l.take (plH l h.tk) ++ l.drop (plH l h.tk) := (List.take_append_drop ..).symm
  constructor
  · intro hx
    rcases List.mem_append.1 hx with hx | hx
    · exact .inr (List.mem_of_mem_take hx)
    · rcases List.mem_cons.1 hx with hx | hx
      · exact .inl hx
      · exact .inr (List.mem_of_mem_drop hx)
  · rintro (hx | hx)
    · subst hx; simp
    · rw [e] at hx
      rcases List.mem_append.1 hx with hx | hx
      · exact List.mem_append.2 (.inl hx)
      · exact List.mem_append.2 (.inr (List.mem_cons_of_mem _ hx))
/-- a call that gives kept tokens and a number -/
def GiveH (w : World) (t : Nat) (l : List Hd) (x : Int) (e : Ending) (w' : World) : Prop := ∃ ad cap, e = .returned (.tuple #[.slice ad l.length cap, .int .i64 x]) ∧ OwnH w' w.heap.size t (.slice ad l.length cap) l ∧ Below w.heap.size w w'
theorem giveH_none {w w' : World} {t : Nat} {x : Int} (h : Below w.heap.size w w') : GiveH w t [] x (.returned (.tuple #[.slice none 0 0, .int .i64 x])) w' := ⟨none, 0, rfl, ownH_nil _ _ _, h⟩
theorem note_srow (W : World) (ad4 : Option Addr) (n4 cap4 : Nat) (ad5 : Option Addr) (n5 cap5 g : Nat) (c4 c5 cm : List Value)
    (h4 : RowC W (.slice ad4 n4 cap4) n4 c4) (h5 : RowC W (.slice ad5 n5 cap5) n5 c5) (hm : RowC W (.slice (some ⟨g, 0, none⟩) 1 1) 1 cm) (l4 : c4.length = n4 * 4) (l5 : c5.length = n5 * 4) (lm : cm.length = 1 * 4) (o4 : ∀ u ∈ c4, u.oneCell' = true) (o5 : ∀ u ∈ c5, u.oneCell' = true) (om : ∀ u ∈ cm, u.oneCell' = true) :
    SrI (W.alloc (.cells #[.slice ad4 n4 cap4, .slice (some ⟨g, 0, none⟩) 1 1, .slice ad5 n5 cap5] 22)) 4 (.slice (some ⟨W.heap.size, 0, none⟩) 3 3) [⟨.slice ad4 n4 cap4, n4, c4⟩, ⟨.slice (some ⟨g, 0, none⟩) 1 1, 1, cm⟩, ⟨.slice ad5 n5 cap5, n5, c5⟩] where
  row := RowC.own (own_made W [.slice ad4 n4 cap4, .slice (some ⟨g, 0, none⟩) 1 1, .slice ad5 n5 cap5] 22 1 3 0 (Nat.zero_le _) rfl (by omega))
  each := by
    have hb : Below W.heap.size W (W.alloc (.cells #[.slice ad4 n4 cap4, .slice (some ⟨g, 0, none⟩) 1 1, .slice ad5 n5 cap5] 22)) := below_al (Below.refl _ _) _
    intro x hx
    simp at hx
    rcases hx with rfl | rfl | rfl
    · exact ⟨h4.next hb, l4, o4⟩
    · exact ⟨hm.next hb, lm, om⟩
    · exact ⟨h5.next hb, l5, o5⟩
theorem hqC_tk (l : List Hd) (k : Nat) (hk : k ≤ l.length) : (hqC l).take (k * 4) = hqC (l.take k) := by
  have e : hqC l = hqC (l.take k) ++ hqC (l.drop k) := by rw [← hqC_app, List.take_append_drop]
  have hl : (hqC (l.take k)).length = k * 4 := by rw [hqC_len, List.length_take, Nat.min_eq_left hk]
  rw [e, ← hl, List.take_left]
theorem hqC_dr (l : List Hd) (k : Nat) (hk : k ≤ l.length) : (hqC l).drop (k * 4) = hqC (l.drop k) := by
  have e : hqC l = hqC (l.take k) ++ hqC (l.drop k) := by rw [← hqC_app, List.take_append_drop]
  have hl : (hqC (l.take k)).length = k * 4 := by rw [hqC_len, List.length_take, Nat.min_eq_left hk]
  rw [e, ← hl, List.drop_left]
set_option maxRecDepth 100000 in
set_option maxHeartbeats 4000000 in
theorem note15_any (v : Value) (q : List Hd) (h : Hd) (w : World) (hv : HdI w v q) : Calls Try.prog 12 #[v, hdV h] w (GiveH w 31 (noteL q h) (noteE q h)) := by
  obtain ⟨ad, cap, rfl, hc⟩ := hv.form
  clear hc
  have BM := hid (Bx.made (Below.refl w.heap.size w) [.string h.tk, .string h.su, .string h.ou, .int .i64 h.at_] 31)
  have IT := hid (isTable_any _ q _ (hv.next BM.out.b))
  have MB := hid (fun W => mayBe_any h W)
  have PL : Hid (∀ W, Below w.heap.size w W → isTb q = true → Calls Try.prog 22 #[.slice ad q.length cap, .string h.tk] W fun e w' => e = .returned (.tuple #[.int .i64 (plH q h.tk : Nat), .bool (hasH q h.tk)]) ∧ Below W.heap.size W w') := fun W hW h2 => place15_any _ q h.tk W (hv.next hW) (isTb_rise h2) (isTb_len h2)
  have HE : Hid (noteE q h = if isTb q = true ∧ hdOk h = true then (if hasH q h.tk = true then 71 else if q.length = 64 then 131 else 0) else 1) := rfl
  have HNL : Hid (noteL q h = if noteE q h = 0 then insH q h else []) := rfl
  have HLN : Hid (isTb q = true → q.length ≤ 64) := isTb_len
  obtain ⟨ad4, cap4, r4, s4⟩ := rowc_to elH (show RowC w (.slice ad q.length cap) q.length (hqC q) from hv) (plH_le q h.tk)
  obtain ⟨ad5, cap5, r5, s5⟩ := rowc_from elH (show RowC w (.slice ad q.length cap) q.length (hqC q) from hv) (hqC_len q) (plH_le q h.tk)
  rw [hqC_tk q _ (plH_le q h.tk)] at r4
  rw [hqC_dr q _ (plH_le q h.tk)] at r5
  have S4 := hid s4
  have S5 := hid s5
  have hpl := plH_le q h.tk
  have HPL := hid hpl
  have CAT : Hid (∀ W : World, ∀ (X1 : Obj), Bx w w.heap.size [.string h.tk, .string h.su, .string h.ou, .int .i64 h.at_] 31 W → q.length ≤ 64 → X1 = .cells #[.string h.tk, .string h.su, .string h.ou, .int .i64 h.at_] 31 → Calls Try.prog 28 #[.slice (some ⟨W.heap.size + 1, 0, none⟩) 3 3] ((W.alloc X1).alloc (.cells #[.slice ad4 (plH q h.tk) cap4, .slice (some ⟨W.heap.size, 0, none⟩) 1 1, .slice ad5 (q.length - plH q h.tk) cap5] 22)).drew fun e w' => ∃ ad6 cap6, e = .returned (.slice ad6 (q.length + 1) cap6) ∧ Hid (HdI w' (.slice ad6 (q.length + 1) cap6) (insH q h)) ∧ Hid (Bx w w.heap.size [.string h.tk, .string h.su, .string h.ou, .int .i64 h.at_] 31 w')) := fun W X1 hW h64 e1 => by
    subst e1
    have b1 : Below W.heap.size W (W.alloc (.cells #[.string h.tk, .string h.su, .string h.ou, .int .i64 h.at_] 31)) := below_al (Below.refl _ _) _
    have hm : RowC (W.alloc (.cells #[.string h.tk, .string h.su, .string h.ou, .int .i64 h.at_] 31)) (.slice (some ⟨W.heap.size, 0, none⟩) 1 1) 1 (hdC h) := RowC.own (own_made W [.string h.tk, .string h.su, .string h.ou, .int .i64 h.at_] 31 4 1 0 (Nat.zero_le _) rfl (by omega))
    have sr := note_srow (W.alloc (.cells #[.string h.tk, .string h.su, .string h.ou, .int .i64 h.at_] 31)) ad4 (plH q h.tk) cap4 ad5 (q.length - plH q h.tk) cap5 W.heap.size (hqC (q.take (plH q h.tk))) (hqC (q.drop (plH q h.tk))) (hdC h) ((r4.next hW.b).next b1) ((r5.next hW.b).next b1) hm (by rw [hqC_len, List.length_take, Nat.min_eq_left hpl]) (by rw [hqC_len, List.length_drop]) rfl (hqC_one' _) (hqC_one' _) (hdC_one _)
    have hsz1 : (W.alloc (.cells #[.string h.tk, .string h.su, .string h.ou, .int .i64 h.at_] 31)).heap.size = W.heap.size + 1 := by simp
    rw [hsz1] at sr
    have sr2 := sr.next (Below.refl _ _).drew
    have hN : srN [⟨.slice ad4 (plH q h.tk) cap4, plH q h.tk, hqC (q.take (plH q h.tk))⟩, ⟨.slice (some ⟨W.heap.size, 0, none⟩) 1 1, 1, hdC h⟩, ⟨.slice ad5 (q.length - plH q h.tk) cap5, q.length - plH q h.tk, hqC (q.drop (plH q h.tk))⟩] = q.length + 1 := by simp only [srN]; omega
    have hCc : srC [⟨.slice ad4 (plH q h.tk) cap4, plH q h.tk, hqC (q.take (plH q h.tk))⟩, ⟨.slice (some ⟨W.heap.size, 0, none⟩) 1 1, 1, hdC h⟩, ⟨.slice ad5 (q.length - plH q h.tk) cap5, q.length - plH q h.tk, hqC (q.drop (plH q h.tk))⟩] = hqC (insH q h) := by
      unfold insH
      rw [hqC_app, show h :: q.drop (plH q h.tk) = [h] ++ q.drop (plH q h.tk) from rfl, hqC_app, hqC_one]
      simp [srC]
    refine (concatH_any _ _ _ sr2 (by simp) (by rw [hN]; omega)).mono fun e w' ⟨ad6, cap6, he, hr, hb⟩ => ?_
    rw [hN] at he hr
    rw [hCc] at hr
    have hr' : HdI w' (.slice ad6 (q.length + 1) cap6) (insH q h) := by
      have := RowC.own hr
      unfold HdI
      rw [insH_len]
      exact this
    exact ⟨ad6, cap6, he, hr', (((hW.next b1).next (below_al (Below.refl _ _) _)).drew).next hb⟩
  have APT : Hid (∀ W u, Bx w w.heap.size [.string h.tk, .string h.su, .string h.ou, .int .i64 h.at_] 31 W → HdI W u (insH q h) → isTb q = true → hdOk h = true → Calls Try.prog 27 #[u] W fun e w' => ∃ ad7 cap7, e = .returned (.slice ad7 (insH q h).length cap7) ∧ Hid (OwnH w' w.heap.size 31 (.slice ad7 (insH q h).length cap7) (insH q h)) ∧ Hid (Bx w w.heap.size [.string h.tk, .string h.su, .string h.ou, .int .i64 h.at_] 31 w')) := fun W u hW hu ht hok => by
    refine (apart15_any u (insH q h) W hu (by rw [insH_len]; have := isTb_len ht; omega) (fun y hy => ?_)).mono fun e w' ⟨ad7, cap7, he, ho, hb⟩ => ⟨ad7, cap7, he, ownsRow_base ho hW.b.size, hW.next hb⟩
    rcases (insH_mem q h y).1 hy with e | e
    · rw [e]; exact hok
    · exact isTb_all ht y e
  have HCE : Hid (∀ W, Bx w w.heap.size [.string h.tk, .string h.su, .string h.ou, .int .i64 h.at_] 31 W → W.cell? ⟨w.heap.size, 0, none⟩ = some (.string h.tk) ∧ W.cell? ⟨w.heap.size, 1, none⟩ = some (.string h.su) ∧ W.cell? ⟨w.heap.size, 2, none⟩ = some (.string h.ou) ∧ W.cell? ⟨w.heap.size, 3, none⟩ = some (.int .i64 h.at_)) := fun W hW => ⟨hW.row.cellAt rfl, hW.row.cellAt rfl, hW.row.cellAt rfl, hW.row.cellAt rfl⟩
  clear hv r4 r5 s4 s5 hpl
  unfold hdV at *
  generalize noteE q h = NE at *
  generalize noteL q h = NL at *
  generalize insH q h = IH at *
  generalize isTb q = IS at *
  generalize hdOk h = OK at *
  generalize hasH q h.tk = HB at *
  generalize plH q h.tk = PN at *
  obtain ⟨tk, su, ou, at_⟩ := h
  simp only at *
  go_enter Try.func12, Try.ntmps12
  go_wp2_with fail
  refine IT.out.mono ?_
  rintro e w1 ⟨rfl, b1⟩
  have B1 := hid (BM.out.next b1)
  clear IT b1 BM
  cases IS
  · have hne : NE = 1 := by rw [HE.out]; simp
    subst hne
    have hnl : NL = [] := by rw [HNL.out]; simp
    subst hnl
    clear MB PL HE HNL HLN S4 S5 HPL CAT APT HCE
    go_wp2
    go_ret2
    exact giveH_none B1.out.b
  obtain ⟨y0, y1, y2, y3⟩ := HCE.out _ B1.out
  have HL := hid (HLN.out rfl)
  have PL1 := hid (fun W hW => PL.out W hW rfl)
  have AT1 := hid (fun W u hW hu => APT.out W u hW hu rfl)
  clear HLN PL APT
  go_wp2_with fail
  refine (MB.out _).mono ?_
  rintro e w2 ⟨rfl, b2⟩
  have B2 := hid (B1.out.next b2)
  clear MB b2 B1 y0 y1 y2 y3
  cases OK
  · have hne : NE = 1 := by rw [HE.out]; simp
    subst hne
    have hnl : NL = [] := by rw [HNL.out]; simp
    subst hnl
    clear PL1 HE HNL S4 S5 HPL CAT AT1 HCE HL
    go_wp2
    go_ret2
    exact giveH_none B2.out.b
  have HE2 : Hid (NE = (if HB = true then 71 else if q.length = 64 then 131 else 0)) := by show _ = _; rw [HE.out]; simp
  have AT := hid (fun W u hW hu => AT1.out W u hW hu rfl)
  clear HE AT1
  have P2 := hid (PL1.out w2 B2.out.b)
  obtain ⟨y0, y1, y2, y3⟩ := HCE.out _ B2.out
  clear PL1
  go_wp2_with fail
  refine P2.out.mono ?_
  rintro e w3 ⟨rfl, b3⟩
  have B3 := hid (B2.out.next b3)
  clear P2 b3 B2 y0 y1 y2 y3
  cases HB
  case true =>
    have hne : NE = 71 := by rw [HE2.out]; simp
    subst hne
    have hnl : NL = [] := by rw [HNL.out]; simp
    subst hnl
    clear HNL S4 S5 HPL CAT AT HCE HL HE2
    go_wp2
    go_ret2
    exact giveH_none B3.out.b
  by_cases h64 : q.length = 64
  · have hne : NE = 131 := by rw [HE2.out]; simp [h64]
    subst hne
    have hnl : NL = [] := by rw [HNL.out]; simp
    subst hnl
    have g1 : ((q.length : Int) == 64) = true := by rw [h64]; rfl
    have g2 : (q.length == 64) = true := by rw [h64]; rfl
    clear HNL S4 S5 HPL CAT AT HCE HL HE2 h64
    go_wp2
    go_ret2
    exact giveH_none B3.out.b
  · have hne : NE = 0 := by rw [HE2.out]; simp [h64]
    subst hne
    have hnl : NL = IH := by rw [HNL.out]; simp
    subst hnl
    have g1 : ((q.length : Int) == 64) = false := by rw [beq_eq_false_iff_ne]; omega
    have g2 : (q.length == 64) = false := beq_eq_false_iff_ne.2 h64
    have s4 := S4.out
    have s5 := S5.out
    obtain ⟨y0, y1, y2, y3⟩ := HCE.out _ B3.out
    have CT := hid (CAT.out w3 _ B3.out HL.out rfl)
    clear HNL S4 S5 CAT HE2 h64 HPL HL
    go_wp2
    refine wp_region_held_drew (S := (fun w' => w'.cell? ⟨w.heap.size, 0, none⟩ = some (.string tk) ∧ w'.cell? ⟨w.heap.size, 1, none⟩ = some (.string su) ∧ w'.cell? ⟨w.heap.size, 2, none⟩ = some (.string ou) ∧ w'.cell? ⟨w.heap.size, 3, none⟩ = some (.int .i64 at_))) (by kernel_rfl) ⟨y0, y1, y2, y3⟩ (fun hHeld => ?_)
    refine wpAnyH_take (i := 0) (v := ?vv1) rfl (by kernel_rfl) (by kernel_rfl) (by kernel_rfl) (fun _ _ _ h => h) (Or.inl ⟨by rfl, ?hy1⟩) (by assumption) ?rest1
    case hy1 => (intro w hSw; (try dsimp only at hSw); go_simp; first | done | with_reducible rfl)
    try simp only [Act.put, List.getElem_toArray, List.getElem_cons_succ, List.getElem_cons_zero, List.setIfInBounds_toArray, List.set_cons_zero, List.set_cons_succ]
    refine wpAnyH_take (i := 1) (v := ?vv2) rfl (by kernel_rfl) (by kernel_rfl) (by kernel_rfl) (fun _ _ _ h => h) (Or.inl ⟨by rfl, ?hy2⟩) (by assumption) ?rest2
    case hy2 => (intro w hSw; (try dsimp only at hSw); go_simp; first | done | with_reducible rfl)
    try simp only [Act.put, List.getElem_toArray, List.getElem_cons_succ, List.getElem_cons_zero, List.setIfInBounds_toArray, List.set_cons_zero, List.set_cons_succ]
    refine wpAnyH_take (i := 2) (v := ?vv3) rfl (by kernel_rfl) (by kernel_rfl) (by kernel_rfl) (fun _ _ _ h => h) (Or.inl ⟨by rfl, ?hy3⟩) (by assumption) ?rest3
    case hy3 => (intro w hSw; (try dsimp only at hSw); go_simp; first | done | with_reducible rfl)
    try simp only [Act.put, List.getElem_toArray, List.getElem_cons_succ, List.getElem_cons_zero, List.setIfInBounds_toArray, List.set_cons_zero, List.set_cons_succ]
    refine wpAnyH_take (i := 3) (v := ?vv4) rfl (by kernel_rfl) (by kernel_rfl) (by kernel_rfl) (fun _ _ _ h => h) (Or.inl ⟨by rfl, ?hy4⟩) (by assumption) ?rest4
    case hy4 => (intro w hSw; (try dsimp only at hSw); go_simp; first | done | with_reducible rfl)
    try simp only [Act.put, List.getElem_toArray, List.getElem_cons_succ, List.getElem_cons_zero, List.setIfInBounds_toArray, List.set_cons_zero, List.set_cons_succ]
    refine wpAnyH_take (i := 5) (v := ?vv5) rfl (by kernel_rfl) (by kernel_rfl) (by kernel_rfl) (fun _ _ _ h => h) (Or.inl ⟨by rfl, ?hy5⟩) (by assumption) ?rest5
    case hy5 => (intro w hSw; (try dsimp only at hSw); go_simp; first | done | with_reducible rfl)
    try simp only [Act.put, List.getElem_toArray, List.getElem_cons_succ, List.getElem_cons_zero, List.setIfInBounds_toArray, List.set_cons_zero, List.set_cons_succ]
    refine wpAnyH_take (i := 6) (v := ?vv6) rfl (by kernel_rfl) (by kernel_rfl) (by kernel_rfl) (fun _ _ _ h => h) (Or.inl ⟨by rfl, ?hy6⟩) (by assumption) ?rest6
    case hy6 => (intro w hSw; (try dsimp only at hSw); go_simp; first | done | with_reducible rfl)
    try simp only [Act.put, List.getElem_toArray, List.getElem_cons_succ, List.getElem_cons_zero, List.setIfInBounds_toArray, List.set_cons_zero, List.set_cons_succ]
    refine wpAnyH_take (i := 7) (v := ?vv7) rfl (by kernel_rfl) (by kernel_rfl) (by kernel_rfl) (fun _ _ _ h => h) (Or.inl ⟨by rfl, ?hy7⟩) (by assumption) ?rest7
    case hy7 => (intro w hSw; (try dsimp only at hSw); go_simp; first | done | with_reducible rfl)
    try simp only [Act.put, List.getElem_toArray, List.getElem_cons_succ, List.getElem_cons_zero, List.setIfInBounds_toArray, List.set_cons_zero, List.set_cons_succ]
    refine wpAnyH_ready (rs := [4]) (by kernel_rfl) (by simp) ?_
    refine AllReadyH.cons rfl (fun K hK => ?_) AllReadyH.nil
    go_simp
    refine hK.out _ _ (HCE.out _ (B3.out.al _).drew) (fun hHeld => ?_)
    clear hK K
    try simp only [Act.put, List.getElem_toArray, List.getElem_cons_succ, List.getElem_cons_zero, List.setIfInBounds_toArray, List.set_cons_zero, List.set_cons_succ]
    refine wpAnyH_ready (rs := [8]) (by kernel_rfl) (by simp) ?_
    refine AllReadyH.cons rfl (fun K hK => ?_) AllReadyH.nil
    go_simp
    refine hK.out _ _ (HCE.out _ ((B3.out.al _).al _).drew) (fun hHeld => ?_)
    clear hK K
    try simp only [Act.put, List.getElem_toArray, List.getElem_cons_succ, List.getElem_cons_zero, List.setIfInBounds_toArray, List.set_cons_zero, List.set_cons_succ]
    refine wpAnyH_ready (rs := [9]) (by kernel_rfl) (by simp) ?_
    refine AllReadyH.cons rfl (fun K hK => ?_) AllReadyH.nil
    go_simp
    refine CT.out.mono ?_
    rintro e w4 ⟨ad6, cap6, rfl, R4, B4⟩
    have ZC4 := HCE.out _ B4.out
    go_wp2_with fail
    refine hK.out _ _ ZC4 (fun hHeld => ?_)
    clear hK K
    try simp only [Act.put, List.getElem_toArray, List.getElem_cons_succ, List.getElem_cons_zero, List.setIfInBounds_toArray, List.set_cons_zero, List.set_cons_succ]
    refine wpAnyH_ready (rs := [10]) (by kernel_rfl) (by simp) ?_
    refine AllReadyH.cons rfl (fun K hK => ?_) AllReadyH.nil
    go_simp
    refine (AT.out _ _ B4.out R4.out).mono ?_
    rintro e w5 ⟨ad7, cap7, rfl, R5, B5⟩
    have ZC5 := HCE.out _ B5.out
    go_wp2_with fail
    refine hK.out _ _ ZC5 (fun hHeld => ?_)
    clear hK K
    try simp only [Act.put, List.getElem_toArray, List.getElem_cons_succ, List.getElem_cons_zero, List.setIfInBounds_toArray, List.set_cons_zero, List.set_cons_succ]
    refine wpAnyH_take (i := 11) (v := ?vv8) rfl (by kernel_rfl) (by kernel_rfl) (by kernel_rfl) (fun _ _ _ h => h) (Or.inl ⟨by rfl, ?hy8⟩) (by assumption) ?rest8
    case hy8 => (intro w hSw; (try dsimp only at hSw); go_simp; first | done | with_reducible rfl)
    try simp only [Act.put, List.getElem_toArray, List.getElem_cons_succ, List.getElem_cons_zero, List.setIfInBounds_toArray, List.set_cons_zero, List.set_cons_succ]
    refine wpAnyH_take (i := 12) (v := ?vv9) rfl (by kernel_rfl) (by kernel_rfl) (by kernel_rfl) (fun _ _ _ h => h) (Or.inl ⟨by rfl, ?hy9⟩) (by assumption) ?rest9
    case hy9 => (intro w hSw; (try dsimp only at hSw); go_simp; first | done | with_reducible rfl)
    try simp only [Act.put, List.getElem_toArray, List.getElem_cons_succ, List.getElem_cons_zero, List.setIfInBounds_toArray, List.set_cons_zero, List.set_cons_succ]
    refine wpAnyH_done (by kernel_rfl) ?_ _
    clear hHeld ZC4 ZC5 s4 s5 CT AT HCE y0 y1 y2 y3
    go_wp2
    go_ret2
    exact ⟨ad7, cap7, rfl, R5.out, B5.out.b⟩
end Go.Proofs.Ytojiahdbgdgdcaa
