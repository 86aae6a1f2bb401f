/- The walk of a disk's names, over what the library's sort of a map's keys does. -/
import Derived.Test.YtnlodlpjokkepabRmW
namespace Go.Proofs.Ytnlodlpjokkepab
open Go.RowKit Go.Maps
set_option linter.unusedVariables false
set_option linter.unusedSimpArgs false

/-- what maps.Keys does -/
def KeysC : Prop := ∀ (mb : Option Nat) (W : World), Calls Try.prog 53 #[.map mb] W fun e w' => e = .returned (.func (.func 68) #[] #[.pointer (some ⟨W.heap.size, 0, none⟩)]) ∧ w' = W.alloc (.cells #[.map mb] 67)
/-- the names, as cells -/
def nmC {α : Type} (L : List (Bs × α)) : List Value := L.map fun p => .string (tx p.1)
/-- what slices.Sorted does with that -/
def SortedC : Prop := ∀ (mo : Option Nat) (L : List (Bs × Value)) (w : World), MapV w mo L → Srt L → L.length ≤ 70368744177 →
  Calls Try.prog 52 #[.func (.func 68) #[] #[.pointer (some ⟨w.heap.size, 0, none⟩)]] (w.alloc (.cells #[.map mo] 67)) fun e w' => ∃ v, e = .returned v ∧ w'.ownsRow (w.heap.size + 1) 9 1 v L.length (nmC L) ∧ Keep (fun _ => False) (w.alloc (.cells #[.map mo] 67)) w'

theorem owns_same {w : World} {B n g cap k : Nat} {xs : List Value} {u : Value} (h : w.ownsRow B 9 1 (.slice (some ⟨g, 0, none⟩) n cap) n xs) (hk : xs[k]? = some u) : (w.setCell ⟨g, k, none⟩ u).ownsRow B 9 1 (.slice (some ⟨g, 0, none⟩) n cap) n xs := by
  obtain ⟨h1, h2⟩ := h
  rcases h2 with ⟨e, _⟩ | ⟨g', cap', cur, e, hg, hb, hn, hm, hs, ht⟩
  · injection e with e; cases e
  · injection e with e1 e2 e3
    injection e1 with e1
    injection e1 with e1
    subst e1
    have hcur : cur[k]? = some u := by
      have hk' : k < xs.length := (List.getElem?_eq_some_iff.1 hk).1
      rw [← ht, List.getElem?_take_of_lt (by omega)] at hk
      simpa using hk
    have hsame : cur.setIfInBounds k u = cur := by
      apply Array.ext_getElem?
      intro i
      rw [Array.getElem?_setIfInBounds]
      by_cases hi : k = i
      · subst hi
        rw [if_pos rfl, hcur]
        rw [if_pos (Array.getElem?_eq_some_iff.1 hcur).1]
      · rw [if_neg hi]
    refine ⟨h1, .inr ⟨g, cap', cur, by rw [e3], hg, ?_, hn, hm, hs, ht⟩⟩
    rw [heap_setCell_same _ _ _ _ _ _ hb, hsame]
theorem owns_cell {w : World} {B n g cap k : Nat} {xs : List Value} {u : Value} (h : w.ownsRow B 9 1 (.slice (some ⟨g, 0, none⟩) n cap) n xs) (hk : xs[k]? = some u) : w.cell? ⟨g, k, none⟩ = some u ∧ w.frozen? ⟨g, k, none⟩ = false := by
  obtain ⟨h1, h2⟩ := h
  rcases h2 with ⟨e, _⟩ | ⟨g', cap', cur, e, hg, hb, hn, hm, hs, ht⟩
  · injection e with e; cases e
  · injection e with e1 e2 e3
    injection e1 with e1
    injection e1 with e1
    subst e1
    refine ⟨?_, by unfold World.frozen?; rw [hb]; simp⟩
    rw [cell_of_row _ _ _ _ _ _ hb]
    have hk' : k < xs.length := (List.getElem?_eq_some_iff.1 hk).1
    rw [← ht, List.getElem?_take_of_lt (by omega)] at hk
    simpa using hk

set_option maxRecDepth 100000 in
set_option maxHeartbeats 2000000 in
theorem names_any (KC : KeysC) (SC : SortedC) (p : Nat) (c : Nat → Nat) (d : Ds) (w : World) (h : DiskIs w c p d) (hdn : d.dn = false) (hl : d.now.length ≤ 70368744177) (hnm : ∀ x ∈ d.now, x.1.length ≤ 80) :
    Calls Try.prog 21 #[.pointer (some ⟨p, 0, none⟩)] w fun e w' => ∃ v, e = .returned v ∧ w'.ownsRow w.heap.size 9 1 v d.now.length (nmC d.now) ∧ Keep (fun _ => False) w w' := by
  have hD := h.down
  rw [hdn] at hD
  have HD := hid (down_any _ false w hD)
  obtain ⟨mo, N, c0, hmv, hN, hrow⟩ := h.files (Keep.refl _ w)
  have hsrt : Srt (vals N) := by
    obtain ⟨R, hR⟩ := h
    have hS : Srt d.S := by rw [← hR.eS]; exact srt_txts.2 hR.sure.srt
    have hmv2 : ∀ x ∈ d.ws, x.kind = 2 → x.to ≠ x.name := fun x hm => by obtain ⟨i, hi, rfl⟩ := List.getElem_of_mem hm; exact (hR.oks i hi).move
    have hb := (replay_bounds d.ws d.S hS hmv2).1
    have hb2 : Srt (txts N) := by rw [hN]; exact hb
    exact (srt_map (fun x : FV => x.1)).2 (srt_txts.1 hb2)
  have hlen : (vals N).length = d.now.length := by rw [← hN]; simp [vals, txts]
  have hnc : nmC (vals N) = nmC d.now := by rw [← hN]; simp [nmC, vals, txts]
  have KY := hid (KC mo w)
  have ST := hid (SC mo (vals N) w hmv hsrt (by omega))
  rw [hlen, hnc] at ST
  have HCL : Hid (∀ k, k < d.now.length → ∃ u, (nmC d.now)[k]? = some (.string u) ∧ u.size ≤ 140737488355328) := fun k hk => ⟨tx (d.now[k]).1, by simp [nmC, hk], by rw [size_mk]; have := hnm _ (List.getElem_mem hk); omega⟩
  generalize hn : d.now.length = n at *
  generalize nmC d.now = xs at *
  clear h hD hdn hmv hN hrow hsrt hlen hnc hnm hn
  go_enter Try.func21, Try.ntmps21
  go_wp2_with fail
  refine HD.out.mono ?_
  rintro e w1 ⟨rfl, rfl⟩
  clear HD
  go_wp2_with fail
  refine KY.out.mono ?_
  rintro e w2 ⟨rfl, rfl⟩
  clear KY
  go_wp2_with fail
  refine ST.out.mono ?_
  rintro e w3 ⟨v, rfl, hr3, hk3⟩
  have hK3 : Keep (fun _ => False) w1 w3 := (keep_alloc _ _ _).trans hk3
  have hr3' : w3.ownsRow w1.heap.size 9 1 v n xs := by
    refine ⟨hr3.1, hr3.2.imp id ?_⟩
    rintro ⟨g, cap, cur, e, hg, r⟩
    exact ⟨g, cap, cur, e, by omega, r⟩
  clear ST hr3 hk3 c0
  rcases hr3'.2 with ⟨e, h0⟩ | ⟨g, cap, cur, e, hg, _⟩
  · subst e h0
    have HR := hid hr3'
    have HK := hid hK3
    clear hr3' hK3 HCL
    go_wp2
    go_loopw [17] (fun i wr => i = .int .i64 0 ∧ wr = w3) (fun _ _ => 0)
    case atStart => exact ⟨rfl, rfl⟩
    case round =>
      obtain ⟨rfl, rfl⟩ := hrel
      go_wp2
      go_ret
      exact ⟨_, rfl, HR.out, HK.out⟩
  · subst e
    have HR := hid hr3'
    have HK := hid hK3
    have HGB := hid hg
    clear hr3' hK3 hg
    go_wp2
    go_loopw [17] (fun i wr => ∃ k : Nat, k ≤ n ∧ i = .int .i64 k ∧ Hid (wr.ownsRow w1.heap.size 9 1 (.slice (some ⟨g, 0, none⟩) n cap) n xs) ∧ Hid (Keep (fun _ => False) w1 wr)) (fun i _ => n - (intOf i).toNat)
    case atStart => exact ⟨0, by omega, rfl, HR, HK⟩
    case round =>
      clear HR HK
      obtain ⟨k, hk, rfl, HR, HK⟩ := hrel
      by_cases hlt : k < n
      · have hk0 : (0 : Int) ≤ (k : Int) := by omega
        have hk1 : (k : Int) < (n : Int) := by omega
        obtain ⟨u, hu, hus⟩ := HCL.out k hlt
        have hc := (owns_cell HR.out hu).1
        have CL := hid (clone_any u wr hus)
        have AFT : Hid (∀ w5, Below wr.heap.size wr w5 → w5.cell? ⟨g, k, none⟩ = some (.string u) ∧ w5.frozen? ⟨g, k, none⟩ = false ∧ (w5.setCell ⟨g, k, none⟩ (.string u)).ownsRow w1.heap.size 9 1 (.slice (some ⟨g, 0, none⟩) n cap) n xs ∧ Keep (fun _ => False) w1 (w5.setCell ⟨g, k, none⟩ (.string u))) := by
          intro w5 hb
          have hr5 := (hb.keep (fun _ => False)).ownsRow HR.out (fun _ _ h => h)
          obtain ⟨e1, e2⟩ := owns_cell hr5 hu
          exact ⟨e1, e2, owns_same hr5 hu, (HK.out.trans (hb.keep _)).then (keep_setCell _ _ _ _) (fun j hj e => by have := HGB.out; omega)⟩
        clear HR HK HCL hu hus
        go_wp2_with fail
        refine CL.out.mono ?_
        rintro e w5 ⟨rfl, hb⟩
        obtain ⟨e1, e2, hr6, hk6⟩ := AFT.out w5 hb
        have HR := hid hr6
        have HK := hid hk6
        clear CL AFT hr6 hk6 hb
        go_wp2
        exact ⟨⟨k + 1, by omega, by go_num, HR, HK⟩, by simp [intOf]; omega⟩
      · have hd : decide ((k : Int) < (n : Int)) = false := decide_eq_false (by omega)
        clear HCL
        go_wp2
        go_ret
        exact ⟨_, rfl, HR.out, HK.out⟩
end Go.Proofs.Ytnlodlpjokkepab
