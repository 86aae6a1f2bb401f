/- Joined: The numbers of a disk's segments. A log that is none; no disk, and one that is down. A log in memory; what it tells at once. A log's base, its last segment, its end. A log's end. 'append' to a row that a log owns, also a cut one: in the text's order, and in a region that draws its order. 'append' to a row that a log owns: what comes lies where it lay, or in new memory. A segment with its first entries alone. A log and its disk; SetHard. Segments and what is found of them, as plain data and in memory. 'append' to a row that a log owns: in its place, where nothing but its own block changes and the old row stays; or in new memory, where nothing changes at all. -/
import Derived.Test.YtefbioainibmaaaGreatDoorJoined19
import Derived.Test.YtefbioainibmaaaGreatDoorJoined20
import Derived.Test.YtefbioainibmaaaGreatDoorConfS
import Derived.Deep.RegionHeld3
namespace Go.Proofs.YtefbioainibmaaaGreatDoor
open Go.RowKit Go.Maps Go.Sort Go.Shelf
set_option linter.unusedVariables false
set_option linter.unusedSimpArgs false

/-- the numbers of files' names -/
def nbsOf (L : List (Bs × Bs)) : List Int := L.filterMap fun x => if (nbO x.1).2 = true then some (nbO x.1).1 else none
theorem nbsOf_take {L : List (Bs × Bs)} {k : Nat} (h : k < L.length) : nbsOf (L.take (k + 1)) = nbsOf (L.take k) ++ (if (nbO (L[k]).1).2 = true then [(nbO (L[k]).1).1] else []) := by
  unfold nbsOf
  rw [List.take_succ_eq_append_getElem h, List.filterMap_append]
  congr 1
  cases hh : (nbO (L[k]).1).2 <;> simp [hh]
theorem GV.keep {w W : World} (h : GV w) (k : Keep (fun _ => False) w W) : GV W := h.next (keep_below k (fun _ _ h => h) (Nat.le_refl _))
/-- a row of numbers that a call owns, sorted -/
theorem sortO_any (B : Nat) (v : Value) (zs : List Int) (w : World) (ho : OwnI w B v zs) (hl : zs.length ≤ 1048576) :
    Calls Tryz.prog 141 #[v] w fun e w' => e = .returned (.tuple #[]) ∧ IntsI w' v (srt zs) ∧ Keep (fun k => v.ownBlock = some k) w w' := by
  rcases ho.2 with ⟨e, h0⟩ | ⟨g, cap, cur, e, hg, hb, h1, h2, h3, h4⟩
  · have hz : zs = [] := List.length_eq_zero_iff.1 h0
    subst e hz
    exact (AnyM.slices_Sort_int_none sortILaid none 0 w).mono fun e w' h => ⟨h.1, .inl ⟨none, 0, rfl, by simp [srt]⟩, by obtain ⟨_, h2⟩ := h; first | (obtain ⟨q, hq⟩ := h2; subst hq; exact (below_drewN (Below.refl _ _) _).keep _) | (subst h2; exact Keep.refl _ _) | (obtain ⟨q, os, hq⟩ := h2; subst hq; exact (Lib.below_grow _ w (Nat.le_refl _) _ _).keep _)⟩
  · subst e
    have hc : ∀ j (hj : j < zs.length), w.cell? ⟨g, j, none⟩ = some (.int .i64 zs[j]) := fun j hj => grow_at ho (isC_get zs j hj)
    have hH : Holds (Value.int .i64) w g 0 zs.toArray := fun j hj => by
      have hj' : j < zs.length := by simpa using hj
      refine ⟨?_, ?_⟩
      · rw [Nat.zero_add, hc j hj']
        simp [hj']
      · unfold World.frozen?
        rw [hb]
        simp
    have hlt : g < w.heap.size := (Array.getElem?_eq_some_iff.1 hb).1
    refine (AnyM.slices_Sort_int sortILaid g 0 cap zs w hH hlt (by omega)).mono fun e w' ⟨he, n, os, hw⟩ => ⟨he, ?_, ?_⟩
    · rw [hw]
      have hsz : (zs.mergeSort fun x y => decide (x ≤ y)).toArray.size = zs.toArray.size := by simp
      have h1 := holds_putRow (Value.int .i64) (Sort.ahead w n) g 0 zs.toArray (zs.mergeSort fun x y => decide (x ≤ y)).toArray (holds_ahead _ _ _ _ _ _ hH) hsz
      have h2 := holds_grow (Value.int .i64) _ os g 0 _ (by simp; exact hlt) h1
      refine .inr ⟨g, 0, cap, by rw [srt_len], by simp; omega, fun j hj => ?_⟩
      have := (h2 j (by simpa [srt] using hj)).1
      rw [this]
      have hj2 : j < (zs.mergeSort fun x y => decide (x ≤ y)).length := hj
      simp only [List.getElem!_toArray, getElem!_pos (zs.mergeSort fun x y => decide (x ≤ y)) j hj2]
      rfl
    · rw [hw]
      refine ⟨rfl, rfl, rfl, by simp, fun k hk hn => ?_⟩
      have hne : g ≠ k := fun h => hn (by rw [h]; rfl)
      rw [heap_grow_old _ _ (by simp; exact hk)]
      simp [putRow, mapBlock, Array.getElem?_modify, hne]
set_option maxRecDepth 100000 in
set_option maxHeartbeats 4000000 in
theorem numbersOn_any (p : Nat) (c : Nat → Nat) (d : Ds) (w : World) (h : DiskIs w c p d) (hdn : d.dn = false) (hl : d.now.length ≤ 1048576) (hnm : ∀ y ∈ d.now, y.1.length ≤ 80) (hG : GV w) :
    Calls Tryz.prog 102 #[.pointer (some ⟨p, 0, none⟩)] w fun e w' => ∃ v, e = .returned v ∧ IntsI w' v (srt (nbsOf d.now)) ∧ Keep (fun _ => False) w w' := by
  have NM := hid (names_any keysC sortedC p c d w h hdn (by omega) hnm)
  have HNM := hid hnm
  have HG := hid hG
  generalize d.now = L at *
  clear h hdn hnm hG
  go_enter Tryz.func102, Tryz.ntmps102
  go_wp2_with fail
  refine NM.out.mono ?_
  rintro e w1 ⟨v, rfl, hr, hk1⟩
  have HK1 := hid hk1
  have HR := hid hr
  have HG1 := hid (HG.out.keep hk1)
  obtain ⟨ad0, cap0, rfl⟩ := row_form hr
  clear NM hr hk1 HG
  have HCE : Hid (∀ k (hk : k < L.length), ∃ g, ad0 = some ⟨g, 0, none⟩ ∧ g < w1.heap.size ∧ w1.cell? ⟨g, 0 + k, none⟩ = some (.string (tx (L[k]).1))) := fun k hk => by
    rcases HR.out.2 with ⟨e, h0⟩ | ⟨g, cap, cur, e, hg, hb, r⟩
    · omega
    · injection e with e1 e2 e3
      refine ⟨g, e1, (Array.getElem?_eq_some_iff.1 hb).1, ?_⟩
      have e9 : ad0 = some ⟨g, 0, none⟩ := e1
      subst e9
      rw [Nat.zero_add]
      exact grow_at HR.out (by simp [nmC, hk])
  have H1 : Hid (OwnI w1 w1.heap.size (.slice none 0 0) (nbsOf (L.take 0))) := ownI_nil _ _
  clear HR
  go_wp2
  go_loopw [3, 11] (fun l i wr => ∃ (k m : Nat) (ad : Option Addr) (cap : Nat), k ≤ L.length ∧ m ≤ k ∧ l = .slice ad m cap ∧ i = .int .i64 (k : Int) ∧ Hid (m = (nbsOf (L.take k)).length) ∧ Hid (OwnI wr w1.heap.size (.slice ad m cap) (nbsOf (L.take k))) ∧ Hid (Keep (fun _ => False) w1 wr)) (fun _ i _ => L.length - (intOf i).toNat)
  case atStart => exact ⟨0, 0, none, 0, Nat.zero_le _, Nat.le_refl _, rfl, rfl, rfl, H1, Keep.refl _ _⟩
  case round =>
    clear H1
    obtain ⟨k, m, ad, cap, hk, hmk, rfl, rfl, HM, HO, HK⟩ := hrel
    by_cases hlt : k < L.length
    · obtain ⟨gb, had, hgb, hcell⟩ := HCE.out k hlt
      subst had
      have hcw : wr.cell? ⟨gb, 0 + k, none⟩ = some (.string (tx (L[k]).1)) := by rw [← hcell]; exact HK.out.cell hgb (fun h => h)
      have hcw2 : wr.cell? ⟨gb, k, none⟩ = some (.string (tx (L[k]).1)) := by rw [Nat.zero_add] at hcw; exact hcw
      have hk0 : (0 : Int) ≤ (k : Int) := by omega
      have hk1 : (k : Int) < (L.length : Int) := by omega
      have hnl := HNM.out _ (List.getElem_mem hlt)
      have HS := hid (nbsOf_take hlt)
      have NO := hid (numberOf_any (L[k]).1 wr (by omega) (HG1.out.keep HK.out))
      clear hcell hnl
      have HT : Hid (tx (L[k]).1 = ⟨(L[k]).1.toArray⟩) := rfl
      rw [← HT.out] at NO
      clear HT
      generalize nbO (L[k]).1 = R at *
      generalize tx (L[k]).1 = T at *
      obtain ⟨x, is⟩ := R
      simp only at *
      cases is with
      | false =>
        have HS2 : Hid (nbsOf (L.take (k + 1)) = nbsOf (L.take k)) := by show _ = _; rw [HS.out]; simp
        have HM2 : Hid (m = (nbsOf (L.take (k + 1))).length) := by show _ = _; rw [HS2.out]; exact HM.out
        have FIN : Hid (∀ W, Below wr.heap.size wr W → OwnI W w1.heap.size (.slice ad m cap) (nbsOf (L.take (k + 1))) ∧ Keep (fun _ => False) w1 W) := fun W b => ⟨by rw [HS2.out]; exact HO.out.next b, HK.out.trans (b.keep _)⟩
        clear HS HS2 HM HO HK
        go_wp2_with fail
        refine NO.out.mono ?_
        rintro e w2 ⟨rfl, b2⟩
        have F2 := hid (FIN.out w2 b2)
        clear NO FIN b2 hcw hcw2
        go_wp2
        exact ⟨⟨k + 1, m, ad, cap, by omega, by omega, rfl, by go_num, HM2, F2.out.1, F2.out.2⟩, by simp [intOf]; omega⟩
      | true =>
        have HS2 : Hid (nbsOf (L.take (k + 1)) = nbsOf (L.take k) ++ [x]) := by show _ = _; rw [HS.out]; simp
        have HM2 : Hid (m + 1 = (nbsOf (L.take (k + 1))).length) := by show _ = _; rw [HS2.out, List.length_append, ← HM.out]; rfl
        have HO1 : Hid (∀ u ∈ [Value.int .i64 x], u.oneCell' = true) := fun u hu => by simp at hu; rw [hu]; rfl
        have HB1 : Hid (m + 1 ≤ 70368744177) := by show _ ≤ _; omega
        have HB2 : Hid ((m + 1) * 8 ≤ 140737488355328) := by show _ ≤ _; omega
        have HOM : Hid (∀ W, OwnI W w1.heap.size (.slice ad m cap) (nbsOf (L.take k)) → W.ownsRow w1.heap.size 3 1 (.slice ad m cap) m (isC (nbsOf (L.take k)))) := fun W h => by have h9 : W.ownsRow _ 3 1 _ (nbsOf (L.take k)).length _ := h; rw [← HM.out] at h9; exact h9
        have HOA : Hid (∀ W, Keep (fun _ => False) wr W → (W.alloc (Obj.cells #[.int .i64 x] 3)).ownsRow w1.heap.size 3 1 (.slice ad m cap) m (isC (nbsOf (L.take k))) ∧ GSrc (W.alloc (Obj.cells #[.int .i64 x] 3)) (.slice (some ⟨W.heap.size, 0, none⟩) 1 1) 1 [.int .i64 x] ∧ w1.heap.size ≤ (W.alloc (Obj.cells #[.int .i64 x] 3)).heap.size) := fun W hW => ⟨(keep_alloc (fun _ => False) _ _).ownsRow (hW.ownsRow (HOM.out wr HO.out) (fun _ _ h => h)) (fun _ _ h => h), gsrc_block (heap_alloc_new _ _), ((HK.out.trans hW).trans (keep_alloc (fun _ => False) _ _)).size⟩
        have FIN : Hid (∀ (W : World) (ad' : Option Addr) (cap' : Nat) (w' : World), Keep (fun _ => False) wr W → w'.ownsRow w1.heap.size 3 1 (.slice ad' (m + 1) cap') (m + 1) (isC (nbsOf (L.take k)) ++ [.int .i64 x]) → Keep (fun j => (Value.slice ad m cap).ownBlock = some j) (W.alloc (Obj.cells #[.int .i64 x] 3)) w' → Hid (OwnI w' w1.heap.size (.slice ad' (m + 1) cap') (nbsOf (L.take (k + 1)))) ∧ Hid (Keep (fun _ => False) w1 w')) := fun W ad' cap' w' hW ho hk => ⟨by
          show w'.ownsRow _ 3 1 _ (nbsOf (L.take (k + 1))).length (isC (nbsOf (L.take (k + 1))))
          rw [← HM2.out, HS2.out, show isC (nbsOf (L.take k) ++ [x]) = isC (nbsOf (L.take k)) ++ [.int .i64 x] by simp [isC]]
          exact ho, ((HK.out.trans hW).trans (keep_alloc _ _ _)).then hk (fun j hj e => by have := ownsRow_ge (HOM.out wr HO.out) e; omega)⟩
        clear HS HS2 HM HO HK
        go_wp2_with fail
        refine NO.out.mono ?_
        rintro e w3 ⟨rfl, b2⟩
        have hk3 : Keep (fun _ => False) wr w3 := b2.keep _
        have HO3 := hid (HOA.out w3 hk3).1
        have HG3 := hid (HOA.out w3 hk3).2.1
        have HS3 := hid (HOA.out w3 hk3).2.2
        have HFN := hid (fun ad' cap' w' => FIN.out w3 ad' cap' w' hk3)
        clear hk3 HOA FIN NO HOM b2 hcw hcw2
        go_wp2_with (at_builtin; refine wpl_gapp rfl _ _ elIn rfl w1.heap.size (.slice ad m cap) (.slice (some ⟨w3.heap.size, 0, none⟩) 1 1) (isC (nbsOf (L.take k))) [.int .i64 x] m 1 (m + 1) rfl rfl rfl HO3.out HS3.out HG3.out rfl HO1.out HB1.out HB2.out ?_; intro ad' cap' w' ho' hk')
        obtain ⟨f1, f2⟩ := HFN.out ad' cap' w' ho' hk'
        exact ⟨⟨k + 1, m + 1, ad', cap', by omega, by omega, rfl, by go_num, HM2, f1, f2⟩, by simp [intOf]; omega⟩
    · have hd : decide ((k : Int) < (L.length : Int)) = false := decide_eq_false (by omega)
      have hd2 : decide (k < L.length) = false := decide_eq_false hlt
      have e : L.take k = L := List.take_of_length_le (by omega)
      have HN : Hid ((nbsOf L).length ≤ 1048576) := by have h1 := HM.out; rw [e] at h1; show _ ≤ _; omega
      have HE : Hid (OwnI wr w1.heap.size (.slice ad m cap) (nbsOf L)) := by have h2 := HO.out; rw [e] at h2; exact h2
      have SO := hid (sortO_any _ _ _ wr HE.out HN.out)
      clear HM HO e
      go_wp2_with fail
      refine SO.out.mono ?_
      rintro e w5 ⟨rfl, hi, hk5⟩
      have FK : Hid (Keep (fun _ => False) w w5) := (HK1.out.trans HK.out).then hk5 (fun j hj e => by have := ownsRow_ge HE.out e; have := HK1.out.size; omega)
      have FI := hid hi
      clear SO HE hk5 hi
      go_wp2
      go_ret
      exact ⟨_, rfl, FI.out, FK.out⟩


end Go.Proofs.YtefbioainibmaaaGreatDoor
namespace Go.Proofs.YtefbioainibmaaaGreatDoor
open Go.RowKit Go.Maps
set_option linter.unusedVariables false
set_option linter.unusedSimpArgs false

set_option maxRecDepth 100000 in
set_option maxHeartbeats 1000000 in
theorem isNone_nil (w : World) : Calls Tryz.prog 62 #[.pointer none] w fun e w' => e = .returned (.bool true) ∧ w' = w := by
  go_enter Tryz.func62, Tryz.ntmps62
  go_wp2
  go_ret
  exact ⟨rfl, rfl⟩
set_option maxRecDepth 100000 in
set_option maxHeartbeats 1000000 in
theorem wrefuses_nil (w : World) : Calls Tryz.prog 65 #[.pointer none] w fun e w' => e = .returned (.int .i64 1) ∧ w' = w := by
  have N := hid (isNone_nil w)
  go_enter Tryz.func65, Tryz.ntmps65
  go_wp2_with fail
  refine N.out.mono ?_
  rintro e w1 ⟨rfl, rfl⟩
  clear N
  go_wp2
  go_ret
  exact ⟨rfl, rfl⟩
set_option maxRecDepth 100000 in
set_option maxHeartbeats 1000000 in
theorem wbase_nil (w : World) : Calls Tryz.prog 26 #[.pointer none] w fun e w' => e = .returned (.tuple #[.int .i64 0, .int .i64 0]) ∧ w' = w := by
  have N := hid (isNone_nil w)
  go_enter Tryz.func26, Tryz.ntmps26
  go_wp2_with fail
  refine N.out.mono ?_
  rintro e w1 ⟨rfl, rfl⟩
  clear N
  go_wp2
  go_ret2
  exact ⟨rfl, rfl⟩
set_option maxRecDepth 100000 in
set_option maxHeartbeats 1000000 in
theorem wend_nil (w : World) : Calls Tryz.prog 20 #[.pointer none] w fun e w' => e = .returned (.tuple #[.int .i64 0, .int .i64 0]) ∧ w' = w := by
  have N := hid (isNone_nil w)
  go_enter Tryz.func20, Tryz.ntmps20
  go_wp2_with fail
  refine N.out.mono ?_
  rintro e w1 ⟨rfl, rfl⟩
  clear N
  go_wp2
  go_ret2
  exact ⟨rfl, rfl⟩
set_option maxRecDepth 100000 in
set_option maxHeartbeats 1000000 in
theorem whard_nil (w : World) : Calls Tryz.prog 34 #[.pointer none] w fun e w' => e = .returned (.tuple #[.int .i64 0, .int .i64 0]) ∧ w' = w := by
  have N := hid (isNone_nil w)
  go_enter Tryz.func34, Tryz.ntmps34
  go_wp2_with fail
  refine N.out.mono ?_
  rintro e w1 ⟨rfl, rfl⟩
  clear N
  go_wp2
  go_ret2
  exact ⟨rfl, rfl⟩
set_option maxRecDepth 100000 in
set_option maxHeartbeats 1000000 in
theorem wfrom_nil (n : Int) (w : World) : Calls Tryz.prog 25 #[.pointer none, .int .i64 n] w fun e w' => e = .returned (.slice none 0 0) ∧ w' = w := by
  have N := hid (isNone_nil w)
  go_enter Tryz.func25, Tryz.ntmps25
  go_wp2_with fail
  refine N.out.mono ?_
  rintro e w1 ⟨rfl, rfl⟩
  clear N
  go_wp2
  go_ret
  exact ⟨rfl, rfl⟩
set_option maxRecDepth 100000 in
set_option maxHeartbeats 1000000 in
theorem wsethard_nil (a b : Int) (w : World) : Calls Tryz.prog 36 #[.pointer none, .int .i64 a, .int .i64 b] w fun e w' => e = .returned (.int .i64 1) ∧ w' = w := by
  have N := hid (wrefuses_nil w)
  go_enter Tryz.func36, Tryz.ntmps36
  go_wp2_with fail
  refine N.out.mono ?_
  rintro e w1 ⟨rfl, rfl⟩
  clear N
  go_wp2
  go_ret
  exact ⟨rfl, rfl⟩
set_option maxRecDepth 100000 in
set_option maxHeartbeats 1000000 in
theorem wappend_nil (a : Int) (v : Value) (w : World) : Calls Tryz.prog 21 #[.pointer none, .int .i64 a, v] w fun e w' => e = .returned (.int .i64 1) ∧ w' = w := by
  have N := hid (wrefuses_nil w)
  go_enter Tryz.func21, Tryz.ntmps21
  go_wp2_with fail
  refine N.out.mono ?_
  rintro e w1 ⟨rfl, rfl⟩
  clear N
  go_wp2
  go_ret
  exact ⟨rfl, rfl⟩
set_option maxRecDepth 100000 in
set_option maxHeartbeats 1000000 in
theorem wreset_nil (a b : Int) (w : World) : Calls Tryz.prog 38 #[.pointer none, .int .i64 a, .int .i64 b] w fun e w' => e = .returned (.int .i64 1) ∧ w' = w := by
  have N := hid (wrefuses_nil w)
  go_enter Tryz.func38, Tryz.ntmps38
  go_wp2_with fail
  refine N.out.mono ?_
  rintro e w1 ⟨rfl, rfl⟩
  clear N
  go_wp2
  go_ret
  exact ⟨rfl, rfl⟩
set_option maxRecDepth 100000 in
set_option maxHeartbeats 1000000 in
theorem wcompact_nil (n : Int) (w : World) : Calls Tryz.prog 37 #[.pointer none, .int .i64 n] w fun e w' => e = .returned (.int .i64 1) ∧ Below w.heap.size w w' := by
  have N := hid (fun W => wrefuses_nil W)
  have HB : Hid (Below w.heap.size w ((w.alloc (.cells #[.pointer none] 31)).alloc (.cells #[.int .i64 n] 3))) := below_al (below_al (Below.refl _ _) _) _
  go_enter Tryz.func37, Tryz.ntmps37
  go_wp2_with fail
  refine (N.out _).mono ?_
  rintro e w1 ⟨rfl, rfl⟩
  clear N
  go_wp2
  go_ret
  exact ⟨rfl, HB.out⟩
theorem three {W : World} {g : Nat} {v0 v1 v2 : Value} {t : TypeId} (h : RowIs W g [v0, v1, v2] t) (x0 x1 x2 : Value) : RowIs (((W.setCell ⟨g, 0, none⟩ x0).setCell ⟨g, 1, none⟩ x1).setCell ⟨g, 2, none⟩ x2) g [x0, x1, x2] t ∧ Keep (· = g) W (((W.setCell ⟨g, 0, none⟩ x0).setCell ⟨g, 1, none⟩ x1).setCell ⟨g, 2, none⟩ x2) :=
  ⟨((h.set 0 x0).set 1 x1).set 2 x2, ((keep_setCell _ _ _ _).trans (keep_setCell _ _ _ _)).trans (keep_setCell _ _ _ _)⟩
set_option maxRecDepth 100000 in
set_option maxHeartbeats 1000000 in
theorem wentry_nil (n : Int) (w : World) : Calls Tryz.prog 35 #[.pointer none, .int .i64 n] w fun e w' => e = .returned (.tuple #[.agg #[.int .i64 0, .int .i64 0, .string ⟨#[]⟩], .bool false]) ∧ Below w.heap.size w w' := by
  have NB := hid (fun W => wbase_nil W)
  have NE := hid (fun W => wend_nil W)
  have R1 := hid (srow w [.int .i64 0, .int .i64 0, .string ⟨#[]⟩] 68)
  have B1 : Hid (Below w.heap.size w (w.alloc (.cells #[.int .i64 0, .int .i64 0, .string ⟨#[]⟩] 68))) := below_al (Below.refl _ _) _
  have d0 := R1.out.cellAt (o := 0) rfl
  have d1 := R1.out.cellAt (o := 1) rfl
  have d2 := R1.out.cellAt (o := 2) rfl
  have f0 : (w.alloc (.cells #[.int .i64 0, .int .i64 0, .string ⟨#[]⟩] 68)).frozen? ⟨w.heap.size, 0, none⟩ = false := R1.out.frozen
  have f1 : (w.alloc (.cells #[.int .i64 0, .int .i64 0, .string ⟨#[]⟩] 68)).frozen? ⟨w.heap.size, 1, none⟩ = false := R1.out.frozen
  have f2 : (w.alloc (.cells #[.int .i64 0, .int .i64 0, .string ⟨#[]⟩] 68)).frozen? ⟨w.heap.size, 2, none⟩ = false := R1.out.frozen
  by_cases h1 : n ≤ 0
  · have g1 : decide (n ≤ 0) = true := decide_eq_true h1
    go_enter Tryz.func35, Tryz.ntmps35
    go_wp2_with fail
    refine (NB.out _).mono ?_
    rintro e w1 ⟨rfl, rfl⟩
    clear NB
    go_wp2_with fail
    refine (NE.out _).mono ?_
    rintro e w1 ⟨rfl, rfl⟩
    clear NE
    go_wp2
    exact bodyPost_ret (ret_ctw (p := 4) (u := 5) rfl _ _ w.heap.size #[.int .i64 0, .int .i64 0, .string ⟨#[]⟩] (.bool false) rfl rfl (run_loadVar_row _ _ _ _ _ _ _ R1.out Tryz.underlying68 rfl (by kernel_rfl))) rfl ⟨rfl, B1.out⟩
  · have g1 : decide (n ≤ 0) = false := decide_eq_false h1
    have g2 : decide (n > 0) = true := decide_eq_true (by omega)
    go_enter Tryz.func35, Tryz.ntmps35
    go_wp2_with fail
    refine (NB.out _).mono ?_
    rintro e w1 ⟨rfl, rfl⟩
    clear NB
    go_wp2_with fail
    refine (NE.out _).mono ?_
    rintro e w1 ⟨rfl, rfl⟩
    clear NE
    go_wp2
    exact bodyPost_ret (ret_ctw (p := 4) (u := 5) rfl _ _ w.heap.size #[.int .i64 0, .int .i64 0, .string ⟨#[]⟩] (.bool false) rfl rfl (run_loadVar_row _ _ _ _ _ _ _ R1.out Tryz.underlying68 rfl (by kernel_rfl))) rfl ⟨rfl, B1.out⟩
set_option maxRecDepth 100000 in
set_option maxHeartbeats 1000000 in
theorem wopen_nil (w : World) : Calls Tryz.prog 10 #[.pointer none] w fun e w' => e = .returned (.tuple #[.pointer none, .int .i64 1]) ∧ w' = w := by
  go_enter Tryz.func10, Tryz.ntmps10
  go_wp2
  go_ret2
  exact ⟨rfl, rfl⟩
set_option maxRecDepth 100000 in
set_option maxHeartbeats 1000000 in
theorem wopen_down (p : Nat) (c : Nat → Nat) (d : Ds) (w : World) (h : DiskIs w c p d) (hd : d.dn = true) : Calls Tryz.prog 10 #[.pointer (some ⟨p, 0, none⟩)] w fun e w' => e = .returned (.tuple #[.pointer none, .int .i64 21]) ∧ w' = w := by
  have hD := h.down
  rw [hd] at hD
  have HD := hid (down_any _ true w hD)
  clear h hD
  go_enter Tryz.func10, Tryz.ntmps10
  go_wp2_with fail
  refine HD.out.mono ?_
  rintro e w1 ⟨rfl, rfl⟩
  clear HD
  go_wp2
  go_ret2
  exact ⟨rfl, rfl⟩
end Go.Proofs.YtefbioainibmaaaGreatDoor
namespace Go.Proofs.YtefbioainibmaaaGreatDoor
open Go.RowKit Go.Maps
set_option linter.unusedVariables false
set_option linter.unusedSimpArgs false

theorem elSg : ElT 101 126 5 72 := ⟨Tryz.underlying101, ⟨.agg #[.int .i64 0, .int .i64 0, .int .i64 0, .slice none 0 0, .slice none 0 0], by kernel_rfl, rfl⟩, by decide⟩
/-- a segment, and where its rows lie -/
structure Sv where
  n : Int
  ix : Int
  tm : Int
  ve : Value
  vp : Value
  es : List En
  ps : List Int
def svC (x : Sv) : List Value := sgC x.n x.ix x.tm x.ve x.vp
def svsC (l : List Sv) : List Value := l.flatMap svC
theorem svsC_len (l : List Sv) : (svsC l).length = l.length * 5 := by
  induction l with
  | nil => rfl
  | cons x r ih => simp [svsC, svC, sgC] at ih ⊢; omega
theorem svsC_get : ∀ (l : List Sv) (i : Nat) (h : i < l.length) (j : Nat), j < 5 → (svsC l)[i * 5 + j]? = (svC l[i])[j]?
  | x :: r, 0, _, j, hj => by
    show (svC x ++ svsC r)[0 * 5 + j]? = _
    rw [List.getElem?_append_left (by simp [svC, sgC]; omega)]
    simp
  | x :: r, i + 1, h, j, hj => by
    show (svC x ++ svsC r)[(i + 1) * 5 + j]? = _
    rw [List.getElem?_append_right (by simp [svC, sgC]; omega), show (i + 1) * 5 + j - (svC x).length = i * 5 + j by simp [svC, sgC]; omega]
    exact svsC_get r i (by simpa using h) j hj
theorem svsC_snoc (l : List Sv) (x : Sv) : svsC (l ++ [x]) = svsC l ++ svC x := by simp [svsC]
/-- a segment's rows in memory -/
structure SvI (w : World) (B : Nat) (x : Sv) : Prop where
  oe : ORow w B 68 3 x.ve x.es.length (ensC x.es)
  oi : ORow w B 3 1 x.vp x.ps.length (isC x.ps)
/-- segments in memory: no two share a row -/
structure SgsI (w : World) (B : Nat) (v : Value) (l : List Sv) : Prop where
  row : ORow w B 126 5 v l.length (svsC l)
  sg : ∀ x ∈ l, SvI w B x
  ae : l.Pairwise fun a b => ∀ g, a.ve.ownBlock = some g → ¬ b.ve.ownBlock = some g
  ai : l.Pairwise fun a b => ∀ g, a.vp.ownBlock = some g → ¬ b.vp.ownBlock = some g
theorem SgsI.keep {S : Nat → Prop} {w w' : World} {B : Nat} {v : Value} {l : List Sv} (h : SgsI w B v l) (k : Keep S w w') (hv : ∀ g, v.ownBlock = some g → ¬ S g) (hs : ∀ x ∈ l, ∀ g, x.ve.ownBlock = some g ∨ x.vp.ownBlock = some g → ¬ S g) : SgsI w' B v l :=
  ⟨h.row.keep k hv, fun x hx => ⟨(h.sg x hx).oe.keep k (fun g hg => hs x hx g (.inl hg)), (h.sg x hx).oi.keep k (fun g hg => hs x hx g (.inr hg))⟩, h.ae, h.ai⟩
theorem SgsI.next {w w' : World} {B : Nat} {v : Value} {l : List Sv} (h : SgsI w B v l) (b : Below w.heap.size w w') : SgsI w' B v l := h.keep (b.keep (fun _ => False)) (fun _ _ h => h) (fun _ _ _ _ h => h)
/-- a log in memory -/
structure LogI (w : World) (B L p : Nat) (tm vt : Int) (lost : Bool) (v : Value) (l : List Sv) : Prop where
  bx : RowIs w L [.pointer (some ⟨p, 0, none⟩), .int .i64 tm, .int .i64 vt, v, .bool lost] 107
  sg : SgsI w B v l
theorem LogI.next {w w' : World} {B L p : Nat} {tm vt : Int} {lost : Bool} {v : Value} {l : List Sv} (h : LogI w B L p tm vt lost v l) (b : Below w.heap.size w w') : LogI w' B L p tm vt lost v l :=
  ⟨h.bx.keep (b.keep (fun _ => False)) (fun h => h), h.sg.next b⟩
theorem ORow.not_row {w : World} {B t k n L t' : Nat} {v : Value} {xs cs : List Value} (h : ORow w B t k v n xs) (r : RowIs w L cs t') (hne : t ≠ t') : ∀ g, v.ownBlock = some g → ¬ g = L := fun g hg e => h.ne_row r hne (e ▸ hg)
/-- a cell of the log's own block is written -/
theorem LogI.set {w : World} {B L p : Nat} {tm vt : Int} {lost : Bool} {v : Value} {l : List Sv} (h : LogI w B L p tm vt lost v l) (o : Nat) (y : Value) : SgsI (w.setCell ⟨L, o, none⟩ y) B v l :=
  h.sg.keep (keep_setCell w L o y) (fun g hg e => h.sg.row.not_row h.bx (by decide) g hg e) (fun x hx g hg e => by
    rcases hg with hg | hg
    · exact (h.sg.sg x hx).oe.not_row h.bx (by decide) g hg e
    · exact (h.sg.sg x hx).oi.not_row h.bx (by decide) g hg e)
section
variable {w : World} {B L p : Nat} {tm vt : Int} {lost : Bool} {v : Value} {l : List Sv}
set_option maxRecDepth 100000 in
set_option maxHeartbeats 1000000 in
theorem wisNone_any (h : LogI w B L p tm vt lost v l) : Calls Tryz.prog 62 #[.pointer (some ⟨L, 0, none⟩)] w fun e w' => e = .returned (.bool false) ∧ w' = w := by
  have c0 := h.bx.cellAt (o := 0) rfl
  clear h
  go_enter Tryz.func62, Tryz.ntmps62
  go_wp2
  go_ret
  exact ⟨rfl, rfl⟩
set_option maxRecDepth 100000 in
set_option maxHeartbeats 1000000 in
theorem wrefuses_any (h : LogI w B L p tm vt lost v l) : Calls Tryz.prog 65 #[.pointer (some ⟨L, 0, none⟩)] w fun e w' => e = .returned (.int .i64 (if lost then 21 else 0)) ∧ w' = w := by
  have N := hid (wisNone_any h)
  have c4 := h.bx.cellAt (o := 4) rfl
  clear h
  cases lost with
  | false =>
    go_enter Tryz.func65, Tryz.ntmps65
    go_wp2_with fail
    refine N.out.mono ?_
    rintro e w1 ⟨rfl, rfl⟩
    go_wp2
    go_ret
    exact ⟨rfl, rfl⟩
  | true =>
    go_enter Tryz.func65, Tryz.ntmps65
    go_wp2_with fail
    refine N.out.mono ?_
    rintro e w1 ⟨rfl, rfl⟩
    go_wp2
    go_ret
    exact ⟨rfl, rfl⟩
set_option maxRecDepth 100000 in
set_option maxHeartbeats 1000000 in
theorem wdone_any (h : LogI w B L p tm vt lost v l) (er : Int) : Calls Tryz.prog 67 #[.pointer (some ⟨L, 0, none⟩), .int .i64 er] w fun e w' => e = .returned (.int .i64 er) ∧ LogI w' B L p tm vt (er == 21) v l ∧ Keep (· = L) w w' := by
  have c4 := h.bx.cellAt (o := 4) rfl
  have f4 : w.frozen? ⟨L, 4, none⟩ = false := h.bx.frozen
  have F : Hid (LogI (w.setCell ⟨L, 4, none⟩ (.bool (er == 21))) B L p tm vt (er == 21) v l) := ⟨h.bx.set 4 (.bool (er == 21)), h.set 4 _⟩
  have K := hid (keep_setCell w L 4 (.bool (er == 21)))
  clear h
  go_enter Tryz.func67, Tryz.ntmps67
  go_wp2
  go_ret
  exact ⟨rfl, F.out, K.out⟩
set_option maxRecDepth 100000 in
set_option maxHeartbeats 1000000 in
theorem whard_any (h : LogI w B L p tm vt lost v l) : Calls Tryz.prog 34 #[.pointer (some ⟨L, 0, none⟩)] w fun e w' => e = .returned (.tuple #[.int .i64 tm, .int .i64 vt]) ∧ Below w.heap.size w w' := by
  have N := hid (wisNone_any h)
  have c1 := h.bx.cellAt (o := 1) rfl
  have c2 := h.bx.cellAt (o := 2) rfl
  clear h
  go_enter Tryz.func34, Tryz.ntmps34
  go_wp2_with fail
  refine N.out.mono ?_
  rintro e w1 ⟨rfl, rfl⟩
  clear N
  go_wp2
  go_quiet (fail)
  go_wp2
  go_ret2
  exact ⟨rfl, below_drewN (Below.refl _ _) nq⟩
end
end Go.Proofs.YtefbioainibmaaaGreatDoor
namespace Go.Proofs.YtefbioainibmaaaGreatDoor
open Go.RowKit Go.Maps
set_option linter.unusedVariables false
set_option linter.unusedSimpArgs false

theorem SgsI.at {w : World} {B : Nat} {v : Value} {l : List Sv} (h : SgsI w B v l) (i : Nat) (hi : i < l.length) : ∃ b off cap, v = .slice (some ⟨b, off, none⟩) l.length cap ∧ b < w.heap.size ∧ v.ownBlock = some b ∧ ∀ j u, (svC l[i])[j]? = some u → w.cell? ⟨b, off + i * 5 + j, none⟩ = some u := by
  obtain ⟨ad, cap, hv, hc⟩ := h.row.rowC.form
  have h0 := svsC_get l i hi 0 (by omega)
  obtain ⟨b, off, e, hb, _⟩ := hc (i * 5 + 0) (.int .i64 l[i].n) (by rw [h0]; rfl)
  subst e
  refine ⟨b, off, cap, hv, hb, by rw [hv]; rfl, fun j u hu => ?_⟩
  have hj : j < 5 := by
    rcases Nat.lt_or_ge j 5 with h | h
    · exact h
    · rw [List.getElem?_eq_none (by simp [svC, sgC]; omega)] at hu; cases hu
  obtain ⟨b2, off2, e2, _, hcell⟩ := hc (i * 5 + j) u (by rw [svsC_get l i hi j hj]; exact hu)
  injection e2 with e2
  injection e2 with e3 e4 e5
  subst e3 e4
  rw [show off + i * 5 + j = off + (i * 5 + j) by omega]
  exact hcell
section
variable {w : World} {B L p : Nat} {tm vt : Int} {lost : Bool} {v : Value} {l : List Sv}
set_option maxRecDepth 100000 in
set_option maxHeartbeats 1000000 in
theorem wbase_any (h : LogI w B L p tm vt lost v l) (h0 : 0 < l.length) (h1 : l.length ≤ 1048576) : Calls Tryz.prog 26 #[.pointer (some ⟨L, 0, none⟩)] w fun e w' => e = .returned (.tuple #[.int .i64 (l[0]).ix, .int .i64 (l[0]).tm]) ∧ Below w.heap.size w w' := by
  have N := hid (wisNone_any h)
  have c3 := h.bx.cellAt (o := 3) rfl
  obtain ⟨b, off, cap, rfl, hb, -, hc⟩ := h.sg.at 0 h0
  have d1 : w.cell? ⟨b, off + 1, none⟩ = some (.int .i64 (l[0]).ix) := by simpa using hc 1 _ rfl
  have d2 : w.cell? ⟨b, off + 2, none⟩ = some (.int .i64 (l[0]).tm) := by simpa using hc 2 _ rfl
  have q1 : (0 : Int) < (l.length : Int) := by omega
  clear h hc
  generalize (l[0]).ix = x at *
  generalize (l[0]).tm = y at *
  generalize l.length = N at *
  go_enter Tryz.func26, Tryz.ntmps26
  go_wp2_with fail
  refine (by assumption : Hid (Calls Tryz.prog 62 _ _ _)).out.mono ?_
  rintro e w1 ⟨rfl, rfl⟩
  go_wp2
  go_quiet (fail)
  go_wp2
  go_ret2
  exact ⟨rfl, below_drewN (Below.refl _ _) nq⟩
set_option maxRecDepth 100000 in
set_option maxHeartbeats 1600000 in
theorem wlast_any (h : LogI w B L p tm vt lost v l) (m : Nat) (hm : l.length = m + 1) (h1 : l.length ≤ 1048576) (x : Sv) (hx : l[m]? = some x) : Calls Tryz.prog 63 #[.pointer (some ⟨L, 0, none⟩)] w fun e w' => e = .returned (sgV x.n x.ix x.tm x.ve x.vp) ∧ Below w.heap.size w w' := by
  have hml : m < l.length := by omega
  obtain rfl : l[m] = x := by rw [List.getElem?_eq_getElem hml] at hx; exact Option.some.inj hx
  have hsi := h.sg.sg _ (List.getElem_mem hml)
  obtain ⟨ea, ec, hve⟩ := hsi.oe.form
  obtain ⟨pa, pc, hvp⟩ := hsi.oi.form
  have HBX := hid h.bx
  obtain ⟨b, off, cap, rfl, hb, -, hc⟩ := h.sg.at m hml
  have HC := hid hc
  have HBL := hid hb
  have q0 : (l.length : Int) - 1 = (m : Int) := by omega
  have q1 : (m : Int) < (l.length : Int) := by omega
  have q2 : (0 : Int) ≤ (m : Int) := by omega

  have q4 : (l.length : Int) ≤ 1048576 := by omega
  have q5 : IntKind.i64.wrap (m : Int) = (m : Int) := by rw [IntKind.wrap_i64]; omega
  have HLL : Hid (L < w.heap.size) := h.bx.lt
  clear h hc hm h1 hx hsi hb
  generalize l[m] = x at *
  generalize l.length = N at *
  obtain ⟨sn, si, st, ve, vp, es, ps⟩ := x
  simp only at *
  generalize es.length = el at *
  generalize ps.length = pl at *
  have HVE : Hid (ve = .slice ea el ec ∧ vp = .slice pa pl pc) := ⟨hve, hvp⟩
  subst hve hvp
  have R0 := hid (srow w [.int .i64 0, .int .i64 0, .int .i64 0, .slice none 0 0, .slice none 0 0] 126)
  have HB : Hid (Below w.heap.size w (w.alloc (.cells #[.int .i64 0, .int .i64 0, .int .i64 0, .slice none 0 0, .slice none 0 0] 126))) := below_al (Below.refl _ _) _
  unfold sgV
  go_enter Tryz.func63, Tryz.ntmps63
  go_wp2_with fail
  generalize w.alloc (.cells #[.int .i64 0, .int .i64 0, .int .i64 0, .slice none 0 0, .slice none 0 0] 126) = V at *
  have B0 : Hid (Below w.heap.size w V.drew) := HB.out.drew
  have R1 : Hid (RowIs V.drew w.heap.size [.int .i64 0, .int .i64 0, .int .i64 0, .slice none 0 0, .slice none 0 0] 126) := R0.out
  have ZC : Hid (∀ W, Below w.heap.size w W → (W.cell? ⟨L, 3, none⟩ = some (.slice (some ⟨b, off, none⟩) N cap) ∧ W.cell? ⟨b, off + m * 5, none⟩ = some (.int .i64 sn) ∧ W.cell? ⟨b, off + m * 5 + 1, none⟩ = some (.int .i64 si) ∧ W.cell? ⟨b, off + m * 5 + 2, none⟩ = some (.int .i64 st) ∧ W.cell? ⟨b, off + m * 5 + 3, none⟩ = some (.slice ea el ec) ∧ W.cell? ⟨b, off + m * 5 + 4, none⟩ = some (.slice pa pl pc))) := fun W hW =>
    ⟨(hW.cell HLL.out).trans (HBX.out.cellAt (o := 3) rfl), by simpa using (hW.cell HBL.out).trans (HC.out 0 _ rfl), (hW.cell HBL.out).trans (HC.out 1 _ rfl), (hW.cell HBL.out).trans (HC.out 2 _ rfl), (hW.cell HBL.out).trans (HC.out 3 _ rfl), (hW.cell HBL.out).trans (HC.out 4 _ rfl)⟩
  have d0 := R1.out.cellAt (o := 0) rfl
  have d1 := R1.out.cellAt (o := 1) rfl
  have d2 := R1.out.cellAt (o := 2) rfl
  have d3 := R1.out.cellAt (o := 3) rfl
  have d4 := R1.out.cellAt (o := 4) rfl
  have f0 : V.drew.frozen? ⟨w.heap.size, 0, none⟩ = false := R1.out.frozen
  have f1 : V.drew.frozen? ⟨w.heap.size, 1, none⟩ = false := R1.out.frozen
  have f2 : V.drew.frozen? ⟨w.heap.size, 2, none⟩ = false := R1.out.frozen
  have f3 : V.drew.frozen? ⟨w.heap.size, 3, none⟩ = false := R1.out.frozen
  have f4 : V.drew.frozen? ⟨w.heap.size, 4, none⟩ = false := R1.out.frozen
  have FV := hid (five R1.out (.int .i64 sn) (.int .i64 si) (.int .i64 st) (.slice ea el ec) (.slice pa pl pc))
  have BF := hid (B0.out.trans (keep_below FV.out.2 (fun j hj e => by omega) B0.out.size))
  have ZF := hid (ZC.out _ BF.out)
  refine wp_region_held_drew (S := fun W => W.cell? ⟨L, 3, none⟩ = some (.slice (some ⟨b, off, none⟩) N cap) ∧ W.cell? ⟨b, off + m * 5, none⟩ = some (.int .i64 sn) ∧ W.cell? ⟨b, off + m * 5 + 1, none⟩ = some (.int .i64 si) ∧ W.cell? ⟨b, off + m * 5 + 2, none⟩ = some (.int .i64 st) ∧ W.cell? ⟨b, off + m * 5 + 3, none⟩ = some (.slice ea el ec) ∧ W.cell? ⟨b, off + m * 5 + 4, none⟩ = some (.slice pa pl pc)) (by kernel_rfl) (ZC.out _ B0.out) (fun hHeld => ?_)
  generalize V.drew = U at *
  refine wpAnyH_take (i := 0) (v := ?vv1) rfl (by kernel_rfl) (by kernel_rfl) (by kernel_rfl) (fun _ _ _ h => h) (Or.inl ⟨by rfl, ?hy1⟩) (by assumption) ?rest1
  case hy1 => (intro w hSw; (try dsimp only at hSw); go_simp; first | done | with_reducible rfl)
  try simp only [Act.put, List.getElem_toArray, List.getElem_cons_succ, List.getElem_cons_zero, List.setIfInBounds_toArray, List.set_cons_zero, List.set_cons_succ]
  refine wpAnyH_take (i := 1) (v := ?vv2) rfl (by kernel_rfl) (by kernel_rfl) (by kernel_rfl) (fun _ _ _ h => h) (Or.inl ⟨by rfl, ?hy2⟩) (by assumption) ?rest2
  case hy2 => (intro w hSw; (try dsimp only at hSw); go_simp; first | done | with_reducible rfl)
  try simp only [Act.put, List.getElem_toArray, List.getElem_cons_succ, List.getElem_cons_zero, List.setIfInBounds_toArray, List.set_cons_zero, List.set_cons_succ]
  refine wpAnyH_take (i := 2) (v := ?vv3) rfl (by kernel_rfl) (by kernel_rfl) (by kernel_rfl) (fun _ _ _ h => h) (Or.inl ⟨by rfl, ?hy3⟩) (by assumption) ?rest3
  case hy3 => (intro w hSw; (try dsimp only at hSw); go_simp; first | done | with_reducible rfl)
  try simp only [Act.put, List.getElem_toArray, List.getElem_cons_succ, List.getElem_cons_zero, List.setIfInBounds_toArray, List.set_cons_zero, List.set_cons_succ]
  refine wpAnyH_take (i := 3) (v := ?vv4) rfl (by kernel_rfl) (by kernel_rfl) (by kernel_rfl) (fun _ _ _ h => h) (Or.inl ⟨by rfl, ?hy4⟩) (by assumption) ?rest4
  case hy4 => (intro w hSw; (try dsimp only at hSw); go_simp; first | done | with_reducible rfl)
  try simp only [Act.put, List.getElem_toArray, List.getElem_cons_succ, List.getElem_cons_zero, List.setIfInBounds_toArray, List.set_cons_zero, List.set_cons_succ]
  refine wpAnyH_take (i := 4) (v := ?vv5) rfl (by kernel_rfl) (by kernel_rfl) (by kernel_rfl) (fun _ _ _ h => h) (Or.inl ⟨by rfl, ?hy5⟩) (by assumption) ?rest5
  case hy5 => (intro w hSw; (try dsimp only at hSw); go_simp; first | done | with_reducible rfl)
  try simp only [Act.put, List.getElem_toArray, List.getElem_cons_succ, List.getElem_cons_zero, List.setIfInBounds_toArray, List.set_cons_zero, List.set_cons_succ]
  refine wpAnyH_take (i := 5) (v := ?vv6) rfl (by kernel_rfl) (by kernel_rfl) (by kernel_rfl) (fun _ _ _ h => h) (Or.inl ⟨by rfl, ?hy6⟩) (by assumption) ?rest6
  case hy6 => (intro w hSw; (try dsimp only at hSw); go_simp; first | done | with_reducible rfl)
  try simp only [Act.put, List.getElem_toArray, List.getElem_cons_succ, List.getElem_cons_zero, List.setIfInBounds_toArray, List.set_cons_zero, List.set_cons_succ]
  refine wpAnyH_take (i := 6) (v := ?vv7) rfl (by kernel_rfl) (by kernel_rfl) (by kernel_rfl) (fun _ _ _ h => h) (Or.inl ⟨by rfl, ?hy7⟩) (by assumption) ?rest7
  case hy7 => (intro w hSw; (try dsimp only at hSw); go_simp; first | done | with_reducible rfl)
  try simp only [Act.put, List.getElem_toArray, List.getElem_cons_succ, List.getElem_cons_zero, List.setIfInBounds_toArray, List.set_cons_zero, List.set_cons_succ]
  refine wpAnyH_take (i := 7) (v := ?vv8) rfl (by kernel_rfl) (by kernel_rfl) (by kernel_rfl) (fun _ _ _ h => h) (Or.inl ⟨by rfl, ?hy8⟩) (by assumption) ?rest8
  case hy8 => (intro w hSw; (try dsimp only at hSw); go_simp; first | done | with_reducible rfl)
  try simp only [Act.put, List.getElem_toArray, List.getElem_cons_succ, List.getElem_cons_zero, List.setIfInBounds_toArray, List.set_cons_zero, List.set_cons_succ]
  refine wpAnyH_take (i := 8) (v := ?vv9) rfl (by kernel_rfl) (by kernel_rfl) (by kernel_rfl) (fun _ _ _ h => h) (Or.inl ⟨by rfl, ?hy9⟩) (by assumption) ?rest9
  case hy9 => (intro w hSw; (try dsimp only at hSw); go_simp; first | done | with_reducible rfl)
  try simp only [Act.put, List.getElem_toArray, List.getElem_cons_succ, List.getElem_cons_zero, List.setIfInBounds_toArray, List.set_cons_zero, List.set_cons_succ]
  refine wpAnyH_take (i := 9) (v := ?vv10) rfl (by kernel_rfl) (by kernel_rfl) (by kernel_rfl) (fun _ _ _ h => h) (Or.inl ⟨by rfl, ?hy10⟩) (by assumption) ?rest10
  case hy10 => (intro w hSw; (try dsimp only at hSw); go_simp; first | done | with_reducible rfl)
  try simp only [Act.put, List.getElem_toArray, List.getElem_cons_succ, List.getElem_cons_zero, List.setIfInBounds_toArray, List.set_cons_zero, List.set_cons_succ]
  refine wpAnyH_take (i := 10) (v := ?vv11) rfl (by kernel_rfl) (by kernel_rfl) (by kernel_rfl) (fun _ _ _ h => h) (Or.inl ⟨by rfl, ?hy11⟩) (by assumption) ?rest11
  case hy11 => (intro w hSw; (try dsimp only at hSw); go_simp; first | done | with_reducible rfl)
  try simp only [Act.put, List.getElem_toArray, List.getElem_cons_succ, List.getElem_cons_zero, List.setIfInBounds_toArray, List.set_cons_zero, List.set_cons_succ]
  refine wpAnyH_take (i := 11) (v := ?vv12) rfl (by kernel_rfl) (by kernel_rfl) (by kernel_rfl) (fun _ _ _ h => h) (Or.inl ⟨by rfl, ?hy12⟩) (by assumption) ?rest12
  case hy12 => (intro w hSw; (try dsimp only at hSw); go_simp; first | done | with_reducible rfl)
  try simp only [Act.put, List.getElem_toArray, List.getElem_cons_succ, List.getElem_cons_zero, List.setIfInBounds_toArray, List.set_cons_zero, List.set_cons_succ]
  refine wpAnyH_ready (rs := [12]) (by kernel_rfl) (by simp) ?_
  refine AllReadyH.cons rfl (fun K hK => ?_) AllReadyH.nil
  go_simp
  refine hK.out _ _ ZF.out (fun hHeld => ?_)
  clear hK K
  try simp only [Act.put, List.getElem_toArray, List.getElem_cons_succ, List.getElem_cons_zero, List.setIfInBounds_toArray, List.set_cons_zero, List.set_cons_succ]
  refine wpAnyH_done (by kernel_rfl) ?_ _
  go_wp2
  exact bodyPost_ret (v := .agg #[.int .i64 sn, .int .i64 si, .int .i64 st, .slice ea el ec, .slice pa pl pc]) (results_cell_row (p := 2) rfl _ _ w.heap.size 126 #[.int .i64 sn, .int .i64 si, .int .i64 st, .slice ea el ec, .slice pa pl pc] (0, 0) _ rfl FV.out.1 Tryz.underlying126 rfl (by kernel_rfl)) rfl ⟨rfl, BF.out⟩
end
end Go.Proofs.YtefbioainibmaaaGreatDoor
namespace Go.Proofs.YtefbioainibmaaaGreatDoor
open Go.RowKit Go.Maps
set_option linter.unusedVariables false
set_option linter.unusedSimpArgs false

theorem ORow.ents {w : World} {B : Nat} {v : Value} {l : List En} (h : ORow w B 68 3 v l.length (ensC l)) : EntI w v l := by
  rcases h.rowC with ⟨ad, cap, e, h0, h1⟩ | ⟨b, off, cap, e, _, hb, hc⟩
  · have hl : l = [] := List.length_eq_zero_iff.1 h0
    subst hl
    exact .inl ⟨ad, cap, e, rfl⟩
  · refine .inr ⟨b, off, cap, e, hb, fun j hj i hi => ?_⟩
    have h1 := ensC_get l j hj i hi
    have h2 : i < (enC l[j]).length := hi
    rw [List.getElem?_eq_getElem h2] at h1 ⊢
    have := hc _ _ h1
    rw [show off + (j * 3 + i) = off + j * 3 + i by omega] at this
    exact this
theorem ORow.ints {w : World} {B : Nat} {v : Value} {l : List Int} (h : ORow w B 3 1 v l.length (isC l)) : IntsI w v l := by
  rcases h.rowC with ⟨ad, cap, e, h0, h1⟩ | ⟨b, off, cap, e, _, hb, hc⟩
  · have hl : l = [] := List.length_eq_zero_iff.1 h0
    subst hl
    exact .inl ⟨ad, cap, e, rfl⟩
  · exact .inr ⟨b, off, cap, e, hb, fun j hj => hc j _ (isC_get l j hj)⟩
section
variable {w : World} {B L p : Nat} {tm vt : Int} {lost : Bool} {v : Value} {l : List Sv}
set_option maxRecDepth 100000 in
set_option maxHeartbeats 1000000 in
theorem wend_any (h : LogI w B L p tm vt lost v l) (m : Nat) (hm : l.length = m + 1) (h1 : l.length ≤ 1048576) (x : Sv) (hx : l[m]? = some x) (i0 : 0 ≤ x.ix) (i1 : x.ix ≤ 4611686018427387904) (i2 : x.es.length ≤ 1048576) : Calls Tryz.prog 20 #[.pointer (some ⟨L, 0, none⟩)] w fun e w' => e = .returned (.tuple #[.int .i64 (x.ix + x.es.length), .int .i64 (enT x.tm x.es)]) ∧ Below w.heap.size w w' := by
  have N := hid (wisNone_any h)
  have LA := hid (wlast_any h m hm h1 x hx)
  have hxm : x ∈ l := List.mem_of_getElem? hx
  have EN := hid (fun W (b : Below w.heap.size w W) => sgend_any x.n x.ix x.tm x.ve x.vp x.es W ((h.sg.sg x hxm).oe.ents.next b) i0 i1 i2)
  clear h hm h1 hx hxm i0 i1 i2
  unfold sgV at *
  go_enter Tryz.func20, Tryz.ntmps20
  go_wp2_with fail
  refine N.out.mono ?_
  rintro e w1 ⟨rfl, rfl⟩
  clear N
  go_wp2_with fail
  refine LA.out.mono ?_
  rintro e w2 ⟨rfl, b2⟩
  have B2 := hid b2
  clear LA b2
  go_wp2_with fail
  refine (EN.out _ B2.out).mono ?_
  rintro e w3 ⟨rfl, b3⟩
  have B3 := hid (below_on B2.out b3)
  clear EN b3
  go_wp2
  go_ret2
  exact ⟨rfl, B3.out⟩
end
end Go.Proofs.YtefbioainibmaaaGreatDoor
namespace Go.Proofs.YtefbioainibmaaaGreatDoor
open Go.RowKit Go.Maps
set_option linter.unusedVariables false
set_option linter.unusedSimpArgs false

/-- a beginning of a row is such a row too -/
theorem ORow.cut {w : World} {B t k n : Nat} {ad : Option Addr} {cap : Nat} {xs : List Value} (h : ORow w B t k (.slice ad n cap) n xs) (m : Nat) (hm : m ≤ n) (hn : n ≤ 1048576) : ORow w B t k (.slice ad m m) m (xs.take (m * k)) := by
  have hl := h.len
  have hmk : m * k ≤ n * k := Nat.mul_le_mul_right k hm
  rcases h with h | ⟨h1, g, cs, e, h2, h3, h4, h5⟩
  · rcases h.2 with ⟨e, h0⟩ | ⟨g, cap', cur, e, hg, hb, _, _, hz, ht⟩
    · injection e with e1 e2 e3
      subst e1 h0
      have : m = 0 := by omega
      subst this
      exact .inl ⟨by simp, .inl ⟨rfl, rfl⟩⟩
    · injection e with e1 e2 e3
      subst e1
      refine .inr ⟨by rw [List.length_take, hl]; omega, g, cur.toList, rfl, hg, by show w.heap[g]? = _; rw [hb], by omega, ?_⟩
      rw [← ht, List.take_take, Nat.min_eq_left hmk]
  · injection e with e1 e2 e3
    subst e1
    refine .inr ⟨by rw [List.length_take, hl]; omega, g, cs, rfl, h2, h3, by omega, ?_⟩
    rw [← h5, List.take_take, Nat.min_eq_left hmk]
end Go.Proofs.YtefbioainibmaaaGreatDoor
namespace Go.Proofs.YtefbioainibmaaaGreatDoor
open Go.RowKit Go.Maps
set_option linter.unusedVariables false
set_option linter.unusedSimpArgs false

end Go.Proofs.YtefbioainibmaaaGreatDoor
namespace Go.Proofs.YtefbioainibmaaaGreatDoor
open Go.RowKit Go.Maps
set_option linter.unusedVariables false
set_option linter.unusedSimpArgs false

set_option maxRecDepth 100000 in
set_option maxHeartbeats 1600000 in
theorem sgfirst_any (sn si st : Int) (b1 l1 c1 b2 l2 c2 n : Nat) (w : World) (h1 : n ≤ c1) (h2 : n + 1 ≤ c2) (h3 : n ≤ 1048576) : Calls Tryz.prog 150 #[sgV sn si st (.slice (some ⟨b1, 0, none⟩) l1 c1) (.slice (some ⟨b2, 0, none⟩) l2 c2), .int .i64 (n : Int)] w fun e w' => e = .returned (sgV sn si st (.slice (some ⟨b1, 0, none⟩) n n) (.slice (some ⟨b2, 0, none⟩) (n + 1) (n + 1))) ∧ Below w.heap.size w w' := by
  have q1 : (n : Int) ≤ (c1 : Int) := by omega
  have q2 : (n : Int) + 1 ≤ (c2 : Int) := by omega
  have q3 : (n : Int) ≤ 1048576 := by omega
  have q4 : (0 : Int) ≤ (n : Int) := by omega
  have q5 : (0 : Int) ≤ (n : Int) + 1 := by omega
  have q6 : ((n : Int) + 1).toNat = n + 1 := by omega
  have q7 : IntKind.i64.wrap ((n : Int) + 1) = (n : Int) + 1 := by rw [IntKind.wrap_i64]; omega
  unfold sgV
  go_enter Tryz.func150, Tryz.ntmps150
  go_wp2
  have R1 := srow (w.alloc (.cells #[.int .i64 sn, .int .i64 si, .int .i64 st, .slice (some ⟨b1, 0, none⟩) n n, .slice (some ⟨b2, 0, none⟩) (n + 1) (n + 1)] 126)) [.int .i64 sn, .int .i64 si, .int .i64 st, .slice (some ⟨b1, 0, none⟩) n n, .slice (some ⟨b2, 0, none⟩) (n + 1) (n + 1)] 126
  rw [show (w.alloc (.cells #[.int .i64 sn, .int .i64 si, .int .i64 st, .slice (some ⟨b1, 0, none⟩) n n, .slice (some ⟨b2, 0, none⟩) (n + 1) (n + 1)] 126)).heap.size = w.heap.size + 1 by simp] at R1
  exact bodyPost_ret (v := .agg #[.int .i64 sn, .int .i64 si, .int .i64 st, .slice (some ⟨b1, 0, none⟩) n n, .slice (some ⟨b2, 0, none⟩) (n + 1) (n + 1)]) (results_cell_row (p := 4) rfl _ _ (w.heap.size + 1) 126 #[.int .i64 sn, .int .i64 si, .int .i64 st, .slice (some ⟨b1, 0, none⟩) n n, .slice (some ⟨b2, 0, none⟩) (n + 1) (n + 1)] (0, 0) _ rfl R1 Tryz.underlying126 rfl (by kernel_rfl)) rfl ⟨rfl, below_al (below_al (Below.refl _ _) _) _⟩
end Go.Proofs.YtefbioainibmaaaGreatDoor
namespace Go.Proofs.YtefbioainibmaaaGreatDoor
open Go.RowKit Go.Maps
set_option linter.unusedVariables false
set_option linter.unusedSimpArgs false

/-- a log, and its disk: the log's blocks are none of the disk's -/
structure LogD (w : World) (c : Nat → Nat) (p : Nat) (d : Ds) (B L : Nat) (tm vt : Int) (lost : Bool) (v : Value) (l : List Sv) : Prop where
  dk : DiskIs w c p d
  lg : LogI w B L p tm vt lost v l
  cL : 6 < c L
  cv : ∀ g, v.ownBlock = some g → 6 < c g
  cs : ∀ x ∈ l, ∀ g, x.ve.ownBlock = some g ∨ x.vp.ownBlock = some g → 6 < c g
section
variable {w w' : World} {c : Nat → Nat} {B L p : Nat} {d d' : Ds} {tm vt : Int} {lost : Bool} {v : Value} {l : List Sv}
theorem LogI.bltv (h : LogI w B L p tm vt lost v l) {g : Nat} (hg : v.ownBlock = some g) : g < w.heap.size := h.sg.row.lt hg
theorem LogI.blts (h : LogI w B L p tm vt lost v l) {x : Sv} (hx : x ∈ l) {g : Nat} (hg : x.ve.ownBlock = some g ∨ x.vp.ownBlock = some g) : g < w.heap.size := by
  rcases hg with hg | hg
  · exact (h.sg.sg x hx).oe.lt hg
  · exact (h.sg.sg x hx).oi.lt hg
/-- behind a call of the disk's -/
theorem LogD.left (h : LogD w c p d B L tm vt lost v l) (k : Left w c p d' w') : ∃ c', LogD w' c' p d' B L tm vt lost v l ∧ (∀ j, j < w.heap.size → c' j = c j) ∧ Keep (fun j => c j < 6) w w' := by
  obtain ⟨⟨c', D, hc⟩, K⟩ := k
  refine ⟨c', ⟨D, ⟨h.lg.bx.keep K (by have := h.cL; omega), h.lg.sg.keep K (fun g hg e => by have := h.cv g hg; omega) (fun x hx g hg e => by have := h.cs x hx g hg; omega)⟩, ?_, fun g hg => ?_, fun x hx g hg => ?_⟩, hc, K⟩
  · rw [hc L h.lg.bx.lt]; exact h.cL
  · rw [hc g (h.lg.bltv hg)]; exact h.cv g hg
  · rw [hc g (h.lg.blts hx hg)]; exact h.cs x hx g hg
/-- behind what makes new memory alone; new blocks are given the color 7 -/
theorem LogD.fresh (h : LogD w c p d B L tm vt lost v l) (k : Keep (fun _ => False) w w') : ∃ c', LogD w' c' p d B L tm vt lost v l ∧ (∀ j, j < w.heap.size → c' j = c j) ∧ ∀ j, w.heap.size ≤ j → c' j = 7 := by
  refine ⟨fun j => if j < w.heap.size then c j else 7, ⟨h.dk.keep k (fun j hj => if_pos hj) (fun _ _ h => h.elim), ⟨h.lg.bx.keep k (fun h => h), h.lg.sg.keep k (fun _ _ h => h) (fun _ _ _ _ h => h)⟩, ?_, fun g hg => ?_, fun x hx g hg => ?_⟩, fun j hj => if_pos hj, fun j hj => if_neg (by omega)⟩
  · simp only [if_pos h.lg.bx.lt]; exact h.cL
  · simp only [if_pos (h.lg.bltv hg)]; exact h.cv g hg
  · simp only [if_pos (h.lg.blts hx hg)]; exact h.cs x hx g hg
/-- behind a writing into the log's own block -/
theorem LogD.own {tm' vt' : Int} {lost' : Bool} (h : LogD w c p d B L tm vt lost v l) (k : Keep (· = L) w w') (i : LogI w' B L p tm' vt' lost' v l) : LogD w' c p d B L tm' vt' lost' v l :=
  ⟨h.dk.keep k (fun _ _ => rfl) (fun j hj e => by subst e; exact h.cL), i, h.cL, h.cv, h.cs⟩
set_option maxRecDepth 100000 in
set_option maxHeartbeats 4000000 in
theorem wsethard_any (h : LogD w c p d B L tm vt false v l) (tn vn : Nat) (bv : Int) (hb : bv + 1 = (vn : Int)) (hok : hdOk tn bv = true) (hL : LyOk d hnw hrd (hdB tn vn)) : Calls Tryz.prog 36 #[.pointer (some ⟨L, 0, none⟩), .int .i64 (tn : Int), .int .i64 bv] w fun e w' => e = .returned (.int .i64 (layD d hnw hrd (hdB tn vn)).2) ∧ (∃ c', LogD w' c' p (layD d hnw hrd (hdB tn vn)).1 B L (if (layD d hnw hrd (hdB tn vn)).2 = 0 then tn else tm) (if (layD d hnw hrd (hdB tn vn)).2 = 0 then bv else vt) ((layD d hnw hrd (hdB tn vn)).2 == 21) v l ∧ ∀ j, j < w.heap.size → c' j = c j) ∧ Keep (fun j => c j < 6 ∨ j = L) w w' := by
  have RF := hid (wrefuses_any h.lg)
  have MB := hid (fun W => hmayBe_any tn bv W)
  rw [hok] at MB
  have hbd : (tn : Int) ≤ 1099511627776 ∧ bv < 7 := by
    unfold hdOk tmOk at hok
    simp at hok
    omega
  have LY : Hid (∀ W c, DiskIs W c p d → Calls Tryz.prog 78 #[.agg #[.int .i64 (tn : Int), .int .i64 bv], .pointer (some ⟨p, 0, none⟩)] W fun e w' => e = .returned (.int .i64 (layD d hnw hrd (hdB tn vn)).2) ∧ Left W c p (layD d hnw hrd (hdB tn vn)).1 w') := fun W c D => hlay_any p c d tn vn bv W D (by omega) (by omega) hb hL
  have HD := hid h
  clear h hL hok hbd hb
  generalize layD d hnw hrd (hdB tn vn) = q at *
  obtain ⟨d2, er⟩ := q
  simp only at *
  go_enter Tryz.func36, Tryz.ntmps36
  go_wp2_with fail
  refine RF.out.mono ?_
  rintro e w1 ⟨rfl, rfl⟩
  clear RF
  go_wp2_with fail
  refine (MB.out _).mono ?_
  rintro e w2 ⟨rfl, b2⟩
  have KA : Keep (fun _ => False) w1 w2.drew := ((keep_alloc (fun _ => False) w1 _).trans (b2.keep _)).trans (keep_drew _ _)
  have Q0 := (srow w1 [.int .i64 (tn : Int), .int .i64 bv] 98).keep (b2.keep (fun _ => False)) (fun h => h)
  have Q3 : Hid (RowIs w2.drew w1.heap.size [.int .i64 (tn : Int), .int .i64 bv] 98) := Q0
  obtain ⟨c3, s3, hc3, hn3⟩ := HD.out.fresh KA
  have S3 := hid s3
  have HC3 := hid hc3
  have K3 := hid KA
  have HCB : Hid (c3 w1.heap.size = 7) := hn3 _ (Nat.le_refl _)
  have HNE : Hid (¬ w1.heap.size = L) := by have := HD.out.lg.bx.lt; show ¬ _; omega
  have HLT : Hid (L < w1.heap.size) := HD.out.lg.bx.lt
  have ZS : Hid (w2.drew.cell? ⟨w1.heap.size, 0, none⟩ = some (.int .i64 (tn : Int)) ∧ w2.drew.cell? ⟨w1.heap.size, 1, none⟩ = some (.int .i64 bv) ∧ w2.drew.cell? ⟨L, 0, none⟩ = some (.pointer (some ⟨p, 0, none⟩))) := ⟨Q3.out.cellAt (o := 0) rfl, Q3.out.cellAt (o := 1) rfl, S3.out.lg.bx.cellAt (o := 0) rfl⟩
  clear MB HD b2 KA Q0 s3 hc3 hn3
  go_wp2_with fail
  generalize hbb : w1.heap.size = b at *
  have HBB := hid hbb
  clear hbb
  refine wp_region_held_drew (S := fun W => W.cell? ⟨b, 0, none⟩ = some (.int .i64 (tn : Int)) ∧ W.cell? ⟨b, 1, none⟩ = some (.int .i64 bv) ∧ W.cell? ⟨L, 0, none⟩ = some (.pointer (some ⟨p, 0, none⟩))) (by kernel_rfl) ZS.out (fun hHeld => ?_)
  generalize w2.drew = w3 at *
  refine wpAnyH_take (i := 0) (v := ?vv1) rfl (by kernel_rfl) (by kernel_rfl) (by kernel_rfl) (fun _ _ _ h => h) (Or.inl ⟨by rfl, ?hy1⟩) (by assumption) ?rest1
  case hy1 => (intro w hSw; (try dsimp only at hSw); go_simp; first | done | with_reducible rfl)
  try simp only [Act.put, List.getElem_toArray, List.getElem_cons_succ, List.getElem_cons_zero, List.setIfInBounds_toArray, List.set_cons_zero, List.set_cons_succ]
  refine wpAnyH_take (i := 1) (v := ?vv2) rfl (by kernel_rfl) (by kernel_rfl) (by kernel_rfl) (fun _ _ _ h => h) (Or.inl ⟨by rfl, ?hy2⟩) (by assumption) ?rest2
  case hy2 => (intro w hSw; (try dsimp only at hSw); go_simp; first | done | with_reducible rfl)
  try simp only [Act.put, List.getElem_toArray, List.getElem_cons_succ, List.getElem_cons_zero, List.setIfInBounds_toArray, List.set_cons_zero, List.set_cons_succ]
  refine wpAnyH_take (i := 2) (v := ?vv3) rfl (by kernel_rfl) (by kernel_rfl) (by kernel_rfl) (fun _ _ _ h => h) (Or.inl ⟨by rfl, ?hy3⟩) (by assumption) ?rest3
  case hy3 => (intro w hSw; (try dsimp only at hSw); go_simp; first | done | with_reducible rfl)
  try simp only [Act.put, List.getElem_toArray, List.getElem_cons_succ, List.getElem_cons_zero, List.setIfInBounds_toArray, List.set_cons_zero, List.set_cons_succ]
  refine wpAnyH_take (i := 3) (v := ?vv4) rfl (by kernel_rfl) (by kernel_rfl) (by kernel_rfl) (fun _ _ _ h => h) (Or.inl ⟨by rfl, ?hy4⟩) (by assumption) ?rest4
  case hy4 => (intro w hSw; (try dsimp only at hSw); go_simp; first | done | with_reducible rfl)
  try simp only [Act.put, List.getElem_toArray, List.getElem_cons_succ, List.getElem_cons_zero, List.setIfInBounds_toArray, List.set_cons_zero, List.set_cons_succ]
  refine wpAnyH_take (i := 4) (v := ?vv5) rfl (by kernel_rfl) (by kernel_rfl) (by kernel_rfl) (fun _ _ _ h => h) (Or.inl ⟨by rfl, ?hy5⟩) (by assumption) ?rest5
  case hy5 => (intro w hSw; (try dsimp only at hSw); go_simp; first | done | with_reducible rfl)
  try simp only [Act.put, List.getElem_toArray, List.getElem_cons_succ, List.getElem_cons_zero, List.setIfInBounds_toArray, List.set_cons_zero, List.set_cons_succ]
  refine wpAnyH_take (i := 5) (v := ?vv6) rfl (by kernel_rfl) (by kernel_rfl) (by kernel_rfl) (fun _ _ _ h => h) (Or.inl ⟨by rfl, ?hy6⟩) (by assumption) ?rest6
  case hy6 => (intro w hSw; (try dsimp only at hSw); go_simp; first | done | with_reducible rfl)
  try simp only [Act.put, List.getElem_toArray, List.getElem_cons_succ, List.getElem_cons_zero, List.setIfInBounds_toArray, List.set_cons_zero, List.set_cons_succ]
  refine wpAnyH_ready (rs := [6]) (by kernel_rfl) (by simp) ?_
  refine AllReadyH.cons rfl (fun K hK => ?_) AllReadyH.nil
  go_simp
  refine (LY.out _ _ S3.out.dk).mono ?_
  rintro e w4 ⟨rfl, hL⟩
  obtain ⟨c4, s4, hc4, hk4⟩ := S3.out.left hL
  have S4 := hid s4
  have Q4 := hid (Q3.out.keep hk4 (fun h => by have := HCB.out; omega))
  have K4 := hid hk4
  have Z4 : (w4.cell? ⟨b, 0, none⟩ = some (.int .i64 (tn : Int)) ∧ w4.cell? ⟨b, 1, none⟩ = some (.int .i64 bv) ∧ w4.cell? ⟨L, 0, none⟩ = some (.pointer (some ⟨p, 0, none⟩))) := ⟨Q4.out.cellAt (o := 0) rfl, Q4.out.cellAt (o := 1) rfl, S4.out.lg.bx.cellAt (o := 0) rfl⟩
  clear s4 hL hk4 LY hHeld
  go_wp2_with fail
  refine hK.out _ _ Z4 (fun hHeld => ?_)
  clear hK K
  try simp only [Act.put, List.getElem_toArray, List.getElem_cons_succ, List.getElem_cons_zero, List.setIfInBounds_toArray, List.set_cons_zero, List.set_cons_succ]
  refine wpAnyH_ready (rs := [7]) (by kernel_rfl) (by simp) ?_
  refine AllReadyH.cons rfl (fun K hK => ?_) AllReadyH.nil
  go_simp
  refine (wdone_any S4.out.lg er).mono ?_
  rintro e w5 ⟨rfl, i5, k5⟩
  have S5 := hid (S4.out.own k5 i5)
  have Q5 := hid (Q4.out.keep k5 HNE.out)
  have K5 := hid k5
  have Z5 : (w5.cell? ⟨b, 0, none⟩ = some (.int .i64 (tn : Int)) ∧ w5.cell? ⟨b, 1, none⟩ = some (.int .i64 bv) ∧ w5.cell? ⟨L, 0, none⟩ = some (.pointer (some ⟨p, 0, none⟩))) := ⟨Q5.out.cellAt (o := 0) rfl, Q5.out.cellAt (o := 1) rfl, S5.out.lg.bx.cellAt (o := 0) rfl⟩
  clear i5 k5 hHeld
  go_wp2_with fail
  refine hK.out _ _ Z5 (fun hHeld => ?_)
  clear hK K
  try simp only [Act.put, List.getElem_toArray, List.getElem_cons_succ, List.getElem_cons_zero, List.setIfInBounds_toArray, List.set_cons_zero, List.set_cons_succ]
  refine wpAnyH_take (i := 8) (v := ?vv7) rfl (by kernel_rfl) (by kernel_rfl) (by kernel_rfl) (fun _ _ _ h => h) (Or.inl ⟨by rfl, ?hy7⟩) (by assumption) ?rest7
  case hy7 => (intro w hSw; (try dsimp only at hSw); go_simp; first | done | with_reducible rfl)
  try simp only [Act.put, List.getElem_toArray, List.getElem_cons_succ, List.getElem_cons_zero, List.setIfInBounds_toArray, List.set_cons_zero, List.set_cons_succ]
  refine wpAnyH_done (by kernel_rfl) ?_ _
  have FIN : Hid (∀ W d9 c9 t9 v9 o9, LogD W c9 p d9 B L t9 v9 o9 v l → (∀ j, j < b → c9 j = c3 j) → ∃ c', LogD W c' p d9 B L t9 v9 o9 v l ∧ ∀ j, j < w1.heap.size → c' j = c j) := fun W d9 c9 t9 v9 o9 h k => ⟨c9, h, fun j hj => (k j (by have := HBB.out; omega)).trans (HC3.out j (by have := HBB.out; omega))⟩
  have HC4 : Hid (∀ j, j < b → c4 j = c3 j) := fun j hj => hc4 j (by have := K3.out.size; have := HBB.out; omega)
  have KK : Hid (Keep (fun j => c j < 6 ∨ j = L) w1 w5) := by
    have k1 : Keep (fun j => c j < 6 ∨ j = L) w1 w4 := (K3.out.mono (T := fun j => c j < 6 ∨ j = L) (fun _ _ h => h.elim)).then K4.out (fun j hj e => .inl (by have := HC3.out j (by have := HBB.out; omega); omega))
    exact k1.then K5.out (fun j hj e => .inr e)
  clear hc4 K3 K4 K5 HC3 Q3 Q4 S3 S4
  by_cases h0 : er = 0
  · subst h0
    have c0 := Q5.out.cellAt (o := 0) rfl
    have c1 := Q5.out.cellAt (o := 1) rfl
    have l1 := S5.out.lg.bx.cellAt (o := 1) rfl
    have l2 := S5.out.lg.bx.cellAt (o := 2) rfl
    have f1 : w5.frozen? ⟨L, 1, none⟩ = false := S5.out.lg.bx.frozen
    have f2 : w5.frozen? ⟨L, 2, none⟩ = false := S5.out.lg.bx.frozen
    have i1 : LogI (w5.setCell ⟨L, 1, none⟩ (.int .i64 (tn : Int))) B L p tn vt false v l := ⟨S5.out.lg.bx.set 1 _, S5.out.lg.set 1 _⟩
    have s1 := S5.out.own (keep_setCell w5 L 1 (.int .i64 (tn : Int))) i1
    have i2 : LogI ((w5.setCell ⟨L, 1, none⟩ (.int .i64 (tn : Int))).setCell ⟨L, 2, none⟩ (.int .i64 bv)) B L p tn bv false v l := ⟨i1.bx.set 2 _, i1.set 2 _⟩
    have S6 := hid (s1.own (keep_setCell (w5.setCell ⟨L, 1, none⟩ (.int .i64 (tn : Int))) L 2 (.int .i64 bv)) i2)
    have K6 := hid (KK.out.then ((keep_setCell w5 L 1 (.int .i64 (tn : Int))).trans (keep_setCell _ L 2 (.int .i64 bv))) (fun j hj e => .inr e))
    clear i1 s1 i2 Q5 S5 KK
    go_wp2
    go_ret
    exact ⟨rfl, FIN.out _ _ _ _ _ _ S6.out HC4.out, K6.out⟩
  · have hq : (er == 0) = false := beq_eq_false_iff_ne.2 h0
    clear Q5
    go_wp2
    go_ret
    exact ⟨rfl, FIN.out _ _ _ _ _ _ S5.out HC4.out, KK.out⟩
end
end Go.Proofs.YtefbioainibmaaaGreatDoor
namespace Go.Proofs.YtefbioainibmaaaGreatDoor
open Go.RowKit Go.Maps
set_option linter.unusedVariables false
set_option linter.unusedSimpArgs false

/-- a segment, where nothing is said of where it lies -/
structure Sg where
  n : Int
  ix : Int
  tm : Int
  es : List En
  ps : List Int
def Sv.sg (x : Sv) : Sg := ⟨x.n, x.ix, x.tm, x.es, x.ps⟩
def Sg.sz (g : Sg) : Int := g.ps.getLastD 0
def Sg.en (g : Sg) : Int := g.ix + g.es.length
def Sg.lt (g : Sg) : Int := enT g.tm g.es
/-- does a segment go on from another? -/
def goesS (g y : Sg) : Bool := g.ix == y.en && g.tm == y.lt
theorem SgsI.nil (w : World) (B : Nat) : SgsI w B (.slice none 0 0) [] :=
  ⟨.inl ⟨rfl, .inl ⟨rfl, rfl⟩⟩, fun _ h => (by cases h), .nil, .nil⟩
theorem SvI.keep {S : Nat → Prop} {w w' : World} {B : Nat} {x : Sv} (h : SvI w B x) (k : Keep S w w') (hs : ∀ g, x.ve.ownBlock = some g ∨ x.vp.ownBlock = some g → ¬ S g) : SvI w' B x :=
  ⟨h.oe.keep k (fun g hg => hs g (.inl hg)), h.oi.keep k (fun g hg => hs g (.inr hg))⟩
theorem SvI.next {w w' : World} {B : Nat} {x : Sv} (h : SvI w B x) (b : Below w.heap.size w w') : SvI w' B x := h.keep (b.keep (fun _ => False)) (fun _ _ h => h)
theorem SvI.base {w : World} {B B' : Nat} {x : Sv} (h : SvI w B x) (hB : B' ≤ B) : SvI w B' x := ⟨h.oe.base hB, h.oi.base hB⟩
theorem SvI.ge {w : World} {B : Nat} {x : Sv} (h : SvI w B x) {g : Nat} (hg : x.ve.ownBlock = some g ∨ x.vp.ownBlock = some g) : B ≤ g := by
  rcases hg with hg | hg
  · exact h.oe.ge hg
  · exact h.oi.ge hg
theorem SvI.lt {w : World} {B : Nat} {x : Sv} (h : SvI w B x) {g : Nat} (hg : x.ve.ownBlock = some g ∨ x.vp.ownBlock = some g) : g < w.heap.size := by
  rcases hg with hg | hg
  · exact h.oe.lt hg
  · exact h.oi.lt hg
theorem SgsI.base {w : World} {B B' : Nat} {v : Value} {l : List Sv} (h : SgsI w B v l) (hB : B' ≤ B) : SgsI w B' v l :=
  ⟨h.row.base hB, fun x hx => (h.sg x hx).base hB, h.ae, h.ai⟩
/-- a segment more behind the others -/
theorem SgsI.snoc {w w' : World} {B : Nat} {v v' : Value} {l : List Sv} (h : SgsI w B v l) (x : Sv) (hx : SvI w B x) (hae : ∀ a ∈ l, ∀ g, a.ve.ownBlock = some g → ¬ x.ve.ownBlock = some g) (hai : ∀ a ∈ l, ∀ g, a.vp.ownBlock = some g → ¬ x.vp.ownBlock = some g)
    (ho : w'.ownsRow B 126 5 v' (l.length + 1) (svsC l ++ svC x)) (hk : Keep (fun k => v.ownBlock = some k) w w') : SgsI w' B v' (l ++ [x]) := by
  have hS : ∀ y, SvI w B y → SvI w' B y := fun y hy => hy.keep hk (fun g hg e => by
    rcases hg with hg | hg
    · exact h.row.apart hy.oe (by decide) e hg
    · exact h.row.apart hy.oi (by decide) e hg)
  refine ⟨?_, fun y hy => ?_, ?_, ?_⟩
  · rw [svsC_snoc, List.length_append]
    exact .inl ho
  · rcases List.mem_append.1 hy with hy | hy
    · exact hS y (h.sg y hy)
    · rw [List.mem_singleton.1 hy]; exact hS x hx
  · rw [List.pairwise_append]
    exact ⟨h.ae, List.pairwise_singleton _ _, fun a ha b hb => by rw [List.mem_singleton.1 hb]; exact hae a ha⟩
  · rw [List.pairwise_append]
    exact ⟨h.ai, List.pairwise_singleton _ _, fun a ha b hb => by rw [List.mem_singleton.1 hb]; exact hai a ha⟩
theorem svC_cell1 (x : Sv) (he : ∃ a n c, x.ve = .slice a n c) (hp : ∃ a n c, x.vp = .slice a n c) : ∀ u ∈ svC x, u.oneCell' = true := by
  obtain ⟨a, n, c, e⟩ := he
  obtain ⟨a2, n2, c2, e2⟩ := hp
  intro u hu
  simp [svC, sgC, e, e2] at hu
  rcases hu with rfl | rfl | rfl | rfl | rfl <;> rfl
/-- what is found, in memory -/
structure FdI (w : World) (B fb : Nat) (vs vg : Value) (l : List Sv) (gs : List Int) (torn : Bool) : Prop where
  bx : RowIs w fb [vs, vg, .bool torn] 103
  sg : SgsI w B vs l
  og : OwnI w B vg gs
  ap : ∀ y ∈ l, ∀ g, y.vp.ownBlock = some g → ¬ vg.ownBlock = some g
section
variable {w w' : World} {B fb : Nat} {vs vg : Value} {l : List Sv} {gs : List Int} {torn : Bool}
theorem FdI.keep {S : Nat → Prop} (h : FdI w B fb vs vg l gs torn) (k : Keep S w w') (h0 : ¬ S fb) (h1 : ∀ g, B ≤ g → ¬ S g) : FdI w' B fb vs vg l gs torn :=
  ⟨h.bx.keep k h0, h.sg.keep k (fun g hg => h1 g (h.sg.row.ge hg)) (fun x hx g hg => h1 g ((h.sg.sg x hx).ge hg)), k.ownsRow h.og (fun g hg => h1 g (ownsRow_ge h.og hg)), h.ap⟩
theorem FdI.next (h : FdI w B fb vs vg l gs torn) (b : Below w.heap.size w w') : FdI w' B fb vs vg l gs torn := h.keep (b.keep (fun _ => False)) (fun h => h) (fun _ _ h => h)
theorem FdI.nofb (h : FdI w B fb vs vg l gs torn) : (∀ g, vs.ownBlock = some g → ¬ g = fb) ∧ (∀ x ∈ l, ∀ g, x.ve.ownBlock = some g ∨ x.vp.ownBlock = some g → ¬ g = fb) ∧ ∀ g, vg.ownBlock = some g → ¬ g = fb :=
  ⟨h.sg.row.not_row h.bx (by decide), fun x hx g hg => by
    rcases hg with hg | hg
    · exact (h.sg.sg x hx).oe.not_row h.bx (by decide) g hg
    · exact (h.sg.sg x hx).oi.not_row h.bx (by decide) g hg, fun g hg e => own_ne_row h.og h.bx (by decide) (e ▸ hg)⟩
/-- a number more of those that go, put into the box -/
theorem FdI.goes {vg' : Value} {n : Int} (h : FdI w B fb vs vg l gs torn) (ho : w'.ownsRow B 3 1 vg' (gs.length + 1) (isC gs ++ [.int .i64 n])) (hk : Keep (fun k => vg.ownBlock = some k) w w') (hw : ∀ g, vg'.ownBlock = some g → vg.ownBlock = some g ∨ w.heap.size ≤ g) : FdI (w'.setCell ⟨fb, 1, none⟩ vg') B fb vs vg' l (gs ++ [n]) torn := by
  have b2 := h.bx.keep hk (own_ne_row h.og h.bx (by decide))
  have s2 : SgsI w' B vs l := h.sg.keep hk (fun g hg e => h.sg.row.apart (ORow.base (.inl h.og) (Nat.le_refl _)) (by decide) hg e) (fun x hx g hg e => by
    rcases hg with hg | hg
    · exact (h.sg.sg x hx).oe.apart (ORow.base (.inl h.og) (Nat.le_refl _)) (by decide) hg e
    · exact h.ap x hx g hg e)
  have kS := keep_setCell w' fb 1 vg'
  have h5 : OwnI w' B vg' (gs ++ [n]) := by
    show w'.ownsRow B 3 1 vg' (gs ++ [n]).length (isC (gs ++ [n]))
    rw [show isC (gs ++ [n]) = isC gs ++ [.int .i64 n] by simp [isC], List.length_append]
    exact ho
  obtain ⟨n1, n2, -⟩ := h.nofb
  refine ⟨b2.set 1 vg', s2.keep kS n1 n2, kS.ownsRow h5 (fun g hg e => own_ne_row ho b2 (by decide) (e ▸ hg)), fun y hy g hg e => ?_⟩
  rcases hw g e with e | e
  · exact h.ap y hy g hg e
  · have := (h.sg.sg y hy).lt (.inr hg); omega
/-- nothing stays -/
theorem FdI.nothing (h : FdI w B fb vs vg l gs torn) : FdI (w.setCell ⟨fb, 0, none⟩ (.slice none 0 0)) B fb (.slice none 0 0) vg [] gs torn :=
  ⟨h.bx.set 0 _, .nil _ _, (keep_setCell w fb 0 _).ownsRow h.og (fun g hg e => h.nofb.2.2 g hg e), fun _ h => by cases h⟩
/-- a segment more stays, put into the box -/
theorem FdI.stay {vs' : Value} {x : Sv} (h : FdI w B fb vs vg l gs torn) (hx : SvI w B x) (hae : ∀ a ∈ l, ∀ g, a.ve.ownBlock = some g → ¬ x.ve.ownBlock = some g) (hai : ∀ a ∈ l, ∀ g, a.vp.ownBlock = some g → ¬ x.vp.ownBlock = some g) (hag : ∀ g, x.vp.ownBlock = some g → ¬ vg.ownBlock = some g)
    (ho : w'.ownsRow B 126 5 vs' (l.length + 1) (svsC l ++ svC x)) (hk : Keep (fun k => vs.ownBlock = some k) w w') : FdI (w'.setCell ⟨fb, 0, none⟩ vs') B fb vs' vg (l ++ [x]) gs torn := by
  have b2 := h.bx.keep hk (h.sg.row.ne_row h.bx (by decide))
  have s2 := h.sg.snoc x hx hae hai ho hk
  have g2 : OwnI w' B vg gs := hk.ownsRow h.og (fun g hg e => h.sg.row.apart (.inl h.og) (by decide) e hg)
  have kS := keep_setCell w' fb 0 vs'
  refine ⟨b2.set 0 vs', s2.keep kS (s2.row.not_row b2 (by decide)) (fun y hy g hg => ?_), kS.ownsRow g2 (fun g hg e => own_ne_row g2 b2 (by decide) (e ▸ hg)), fun y hy => ?_⟩
  · rcases hg with hg | hg
    · exact (s2.sg y hy).oe.not_row b2 (by decide) g hg
    · exact (s2.sg y hy).oi.not_row b2 (by decide) g hg
  · rcases List.mem_append.1 hy with hy | hy
    · exact h.ap y hy
    · rw [List.mem_singleton.1 hy]; exact hag
end
/-- does the next segment go on from those that stay? -/
def onC (l : List Sv) (x : Sv) : Bool := match l.getLast? with
  | none => true
  | some y => goesS x.sg y.sg
/-- those that stay behind one more, and those that are left out -/
def tkS (l : List Sv) (x : Sv) : List Sv := if onC l x = true then l ++ [x] else [x]
def tkG (l : List Sv) (gs : List Int) (x : Sv) : List Int := if onC l x = true then gs else gs ++ l.map (·.n)
end Go.Proofs.YtefbioainibmaaaGreatDoor
namespace Go.Proofs.YtefbioainibmaaaGreatDoor
open Go.RowKit Go.Maps
set_option linter.unusedVariables false
set_option linter.unusedSimpArgs false

theorem gappP {st e size bytes : Nat} (T : ElT st e size bytes) {w : World} {B n m : Nat} {v x : Value} {xs cs : List Value} (ty : TypeId) (h0 : ORow w B e size v n xs) (hB : B ≤ w.heap.size) (hx : RowC w x m cs) (hcs : cs.length = m * size) (h1 : ∀ u ∈ cs, u.oneCell' = true) (hm0 : 0 < m) (hm : n + m ≤ 1048576) (hl : (n + m) * bytes ≤ 140737488355328) :
    ∃ ad' cap' w', (Builtin.append_ #[st, st] ty #[v, x]).run Tryz.prog w = .ok (.slice ad' (n + m) cap') w' ∧ w'.ownsRow B e size (.slice ad' (n + m) cap') (n + m) (xs ++ cs) ∧ ((Keep (fun _ => False) w w' ∧ ∀ g, (Value.slice ad' (n + m) cap').ownBlock = some g → w.heap.size ≤ g) ∨ (v = .slice ad' n cap' ∧ Keep (fun k => v.ownBlock = some k) w w')) := by
  obtain ⟨z, hz, hzc⟩ := T.inf
  obtain ⟨i0, hi, hz0, hz1, hz2⟩ := info_parts hz
  rcases hx with ⟨ad, cap, _, h7, _⟩ | ⟨b2, off2, cap, rfl, _, hb2, hc⟩
  · omega
  · have GR : ∀ (g c : Nat), v = .slice (some ⟨g, 0, none⟩) n c → c < n + m → xs.length = n * size → (∀ j u, xs[j]? = some u → w.cell? ⟨g, 0 + j, none⟩ = some u) → ∃ ad' cap' w', (Builtin.append_ #[st, st] ty #[v, .slice (some ⟨b2, off2, none⟩) m cap]).run Tryz.prog w = .ok (.slice ad' (n + m) cap') w' ∧ w'.ownsRow B e size (.slice ad' (n + m) cap') (n + m) (xs ++ cs) ∧ ((Keep (fun _ => False) w w' ∧ ∀ g, (Value.slice ad' (n + m) cap').ownBlock = some g → w.heap.size ≤ g) ∨ (v = .slice ad' n cap' ∧ Keep (fun k => v.ownBlock = some k) w w')) := fun g c hv hlt h2 holds => by
      subst hv
      obtain ⟨v', w', hr, ho, hg⟩ := run_append_arg_grows (P := Tryz.prog) w st ty e i0 _ size bytes T.und hi hz0 hz1 hz2 hzc T.pos ⟨g, 0, none⟩ n c xs h2 (fun j u hu => by rw [Addr.add_lit]; exact holds j u hu) ⟨b2, off2, none⟩ m cap cs hcs (fun j u hu => by rw [Addr.add_lit]; exact hc j u hu) hlt (by unfold maxLen; omega) hl
      obtain ⟨ad', cap', rfl⟩ := row_form ho
      exact ⟨ad', cap', w', hr, ownsRow_base ho hB, .inl ⟨⟨hg.os, hg.tape, hg.output, hg.size, fun k hk hn => hg.block k hk (fun e => by cases e)⟩, fun g hg => ownsRow_ge ho hg⟩⟩
    rcases id h0 with h | ⟨h2, g, ds, rfl, h3, h4, h5, h6⟩
    · rcases h.2 with ⟨rfl, hn0⟩ | ⟨g, cp, cur, rfl, hbg, hg, hnc, hcm, hcz, htk⟩
      · obtain ⟨v', w', hr, h2, h3, h4, h5⟩ := run_append_own_at (P := Tryz.prog) w B st ty e i0 _ size bytes T.und hi hz0 hz1 hz2 hzc T.pos _ n xs h ⟨b2, off2, none⟩ m cap cs hcs
          (fun j u hu => by rw [Addr.add_lit]; exact hc j u hu) h1 (by unfold maxLen; omega) hl hB
        obtain ⟨ad', cap', rfl⟩ := row_form h2
        refine ⟨ad', cap', w', hr, h2, .inl ⟨⟨h3.os, h3.tape, h3.output, h3.size, fun k hk hn => h3.block k hk (fun e => by cases e)⟩, fun g hg => ?_⟩⟩
        rcases h5 with h5 | h5
        · rw [h5] at hg; cases hg
        · rw [h5] at hg
          injection hg with hg
          omega
      · by_cases hroom : n + m ≤ cp
        · subst hz1
          have hlen : (xs ++ cs).length = (n + m) * i0.size := by rw [List.length_append, h.1, hcs, Nat.add_mul]
          have hfit : n * i0.size + cs.length ≤ cur.size := by rw [hcs, hcz, ← Nat.add_mul]; exact Nat.mul_le_mul_right _ hroom
          have hr := run_append_room (P := Tryz.prog) w st ty e i0 T.und hi g n cp cur hg ⟨b2, off2, none⟩ m cap cs hcs (fun j u hu => by rw [Addr.add_lit]; exact hc j u hu) h1 hroom hfit
          refine ⟨_, _, _, hr, ⟨hlen, .inr ⟨g, cp, _, rfl, hbg, setRow_heap w g cur _ e _ hg, hroom, hcm, ?_, ?_⟩⟩, .inr ⟨rfl, ⟨rfl, rfl, by simp [World.setRow], by simp [World.setRow], fun k _ hk => setRow_other w g k _ (fun e => hk (by simp [Value.ownBlock, e]))⟩⟩⟩
          · simp only [List.size_toArray, List.length_append, List.length_take, List.length_drop, Array.length_toList]
            omega
          · rw [htk, ← hlen]
            exact List.take_left
        · exact GR g cp rfl (by omega) h.1 (fun j u hu => by
            have := h.cells (g := g) rfl j u hu
            rw [Addr.add_lit] at this
            exact this)
    · exact GR g n rfl (by omega) h2 (fun j u hu => by
        rw [Nat.zero_add]
        refine h4.cellAt ?_
        rw [← h6, List.getElem?_take] at hu
        split at hu
        · exact hu
        · cases hu)
/-- a beginning of a row that lies in the same place is owned, too -/
theorem own_prefix {w : World} {B e k n m : Nat} {ad : Option Addr} {cap : Nat} {xs ys : List Value} (h : w.ownsRow B e k (.slice ad n cap) n (xs ++ ys)) (hx : xs.length = m * k) (hm : m ≤ n) : w.ownsRow B e k (.slice ad m cap) m xs := by
  rcases h.2 with ⟨e1, h0⟩ | ⟨g, cp, cur, e1, hbg, hg, hnc, hcm, hcz, htk⟩
  · injection e1 with e1 e2 e3
    subst e1 e3
    have : m = 0 := by omega
    subst this
    exact ⟨hx, .inl ⟨rfl, rfl⟩⟩
  · injection e1 with e1 e2 e3
    subst e1 e3
    refine ⟨hx, .inr ⟨g, cap, cur, rfl, hbg, hg, by omega, hcm, hcz, ?_⟩⟩
    have : (cur.toList.take (n * k)).take (m * k) = (xs ++ ys).take (m * k) := by rw [htk]
    rw [List.take_take, Nat.min_eq_left (Nat.mul_le_mul_right k hm)] at this
    rw [this, ← hx]
    exact List.take_left
theorem step_gappP {w : World} {ops : Array Oper} {o : Oper} {a : Act} {K : Act → World → Prop} {Q : Exit → Act → World → Prop} {E : Prop} (hgd : o.guard = none) (sl x : Operand) {st e size bytes : Nat} (T : ElT st e size bytes)
    (ho : o.op = .call { callee := .builtin .append, args := #[sl, x], argTypes := #[st, st] }) (B : Nat) (v xv : Value) (xs cs : List Value) (n m nm : Nat) (hnm : n + m = nm)
    (hs : a.eval sl = v) (hx : a.eval x = xv) (h0 : ORow w B e size v n xs) (hB : B ≤ w.heap.size) (hX : RowC w xv m cs) (hcs : cs.length = m * size) (h1 : ∀ u ∈ cs, u.oneCell' = true) (hm0 : 0 < m) (hl : nm ≤ 1048576) (hby : nm * bytes ≤ 140737488355328)
    (h : ∀ ad' cap' w', w'.ownsRow B e size (.slice ad' nm cap') nm (xs ++ cs) → ((Keep (fun _ => False) w w' ∧ ∀ g, (Value.slice ad' nm cap').ownBlock = some g → w.heap.size ≤ g) ∨ (v = .slice ad' n cap' ∧ Keep (fun k => v.ownBlock = some k) w w')) → K (a.put o.dst (.slice ad' nm cap')) w') : if Region.wanted o (yielded ops a.tmps) = true then Oper.wp Tryz.prog o a w K Q else E := by
  subst hnm
  have hwn : Region.wanted o (yielded ops a.tmps) = true := by simp [Region.wanted, hgd]
  rw [if_pos hwn]
  obtain ⟨ad', cap', w', hr, h2, h3⟩ := gappP T o.type h0 hB hX hcs h1 hm0 hl hby
  unfold Oper.wp execOp
  simp only [ho, resolve, invoke, builtin, Sem.run_bind, Sem.run_pure, Result.andThen_ok, List.map_toArray, List.map_cons, List.map_nil, hs, hx, hr, Oper.upon]
  exact h ad' cap' w' h2 h3
end Go.Proofs.YtefbioainibmaaaGreatDoor
