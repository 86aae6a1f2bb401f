/- Joined: A part is put among others: the program's Put. A part is put among others: the program's Put, walked. -/
import Derived.Test.YtbiapepalkdkdabJoined08
import Derived.Test.YtbiapepalkdkdabPtG
import Derived.Test.YtbiapepalkdkdabJoined07
import Derived.Deep.RegionHeld3
namespace Go.Proofs.Ytbiapepalkdkdab
open Go.RowKit Go.Maps
set_option linter.unusedVariables false
set_option linter.unusedSimpArgs false

def skT (l : List Pt) (n : Int) : Nat := plT l n + (if hasT l n = true then 1 else 0)
def insT (l : List Pt) (p : Pt) : List Pt := l.take (plT l p.n) ++ p :: l.drop (skT l p.n)
def tputE (l : List Pt) (p : Pt) : Int := if arePt l = true ∧ ptOk p = true then 0 else 1
def tputL (l : List Pt) (p : Pt) : List Pt := if tputE l p = 0 then insT l p else []
theorem plT_le (l : List Pt) (n : Int) : plT l n ≤ l.length := List.countP_le_length
theorem plT_has : ∀ (l : List Pt) (n : Int), hasT l n = true → plT l n < l.length
  | [], n, h => by simp [hasT] at h
  | x :: r, n, h => by
    have e : hasT (x :: r) n = (decide (x.n = n) || hasT r n) := rfl
    have e2 : plT (x :: r) n = plT r n + (if lb x.n n = true then 1 else 0) := by unfold plT; rw [List.countP_cons]
    have h3 := plT_le r n
    rw [e] at h
    rw [e2]
    simp only [List.length_cons]
    rcases Bool.or_eq_true _ _ ▸ h with h | h
    · have hx := of_decide_eq_true h
      have : lb x.n n = false := by unfold lb; exact decide_eq_false (by omega)
      rw [this]; simp; omega
    · have := plT_has r n h
      split <;> omega
theorem skT_le (l : List Pt) (n : Int) : skT l n ≤ l.length := by
  unfold skT
  split
  · rename_i h; exact plT_has l n h
  · exact plT_le l n
def GiveT (w : World) (l : List Pt) (x : Int) (e : Ending) (w' : World) : Prop := ∃ ad n cap q, e = .returned (.tuple #[.slice ad n cap, .int .i64 x]) ∧ tqL q = l ∧ OwnT w' w.heap.size 25 69 (.slice ad n cap) q ∧ Below w.heap.size w w'
theorem giveT_none {w w' : World} {x : Int} (h : Below w.heap.size w w') : GiveT w [] x (.returned (.tuple #[.slice none 0 0, .int .i64 x])) w' := ⟨none, 0, 0, [], rfl, rfl, ownT_nil _ _ _ _, h⟩
theorem tqC_tk (l : List (Value × Pt)) (k : Nat) (hk : k ≤ l.length) : (tqC l).take (k * 4) = tqC (l.take k) := by
  have e : tqC l = tqC (l.take k) ++ tqC (l.drop k) := by rw [← tqC_app, List.take_append_drop]
  have hl : (tqC (l.take k)).length = k * 4 := by rw [tqC_len, List.length_take, Nat.min_eq_left hk]
  rw [e, ← hl, List.take_left]
theorem tqC_dr (l : List (Value × Pt)) (k : Nat) (hk : k ≤ l.length) : (tqC l).drop (k * 4) = tqC (l.drop k) := by
  have e : tqC l = tqC (l.take k) ++ tqC (l.drop k) := by rw [← tqC_app, List.take_append_drop]
  have hl : (tqC (l.take k)).length = k * 4 := by rw [tqC_len, List.length_take, Nat.min_eq_left hk]
  rw [e, ← hl, List.drop_left]
theorem tqC_one' {w : World} {q : List (Value × Pt)} (h : TqP w q) : ∀ u ∈ tqC q, u.oneCell' = true := by
  intro u hu
  obtain ⟨y, hy, hu⟩ := List.mem_flatMap.1 hu
  obtain ⟨a, c, e⟩ := (h y hy).sl
  obtain ⟨v, x⟩ := y
  simp only at e
  subst e
  exact ptC_cell _ _ _ _ u hu
theorem put_srow (W : World) (ad4 : Option Addr) (n4 cap4 : Nat) (ad5 : Option Addr) (n5 cap5 g : Nat) (c4 c5 cm : List Value)
    (h4 : RowC W (.slice ad4 n4 cap4) n4 c4) (h5 : RowC W (.slice ad5 n5 cap5) n5 c5) (hm : RowC W (.slice (some ⟨g, 0, none⟩) 1 1) 1 cm) (l4 : c4.length = n4 * 4) (l5 : c5.length = n5 * 4) (lm : cm.length = 1 * 4) (o4 : ∀ u ∈ c4, u.oneCell' = true) (o5 : ∀ u ∈ c5, u.oneCell' = true) (om : ∀ u ∈ cm, u.oneCell' = true) :
    SrI (W.alloc (.cells #[.slice ad4 n4 cap4, .slice (some ⟨g, 0, none⟩) 1 1, .slice ad5 n5 cap5] 22)) 4 (.slice (some ⟨W.heap.size, 0, none⟩) 3 3) [⟨.slice ad4 n4 cap4, n4, c4⟩, ⟨.slice (some ⟨g, 0, none⟩) 1 1, 1, cm⟩, ⟨.slice ad5 n5 cap5, n5, c5⟩] where
  row := RowC.own (own_made W [.slice ad4 n4 cap4, .slice (some ⟨g, 0, none⟩) 1 1, .slice ad5 n5 cap5] 22 1 3 0 (Nat.zero_le _) rfl (by omega))
  each := by
    have hb : Below W.heap.size W (W.alloc (.cells #[.slice ad4 n4 cap4, .slice (some ⟨g, 0, none⟩) 1 1, .slice ad5 n5 cap5] 22)) := below_al (Below.refl _ _) _
    intro x hx
    simp at hx
    rcases hx with rfl | rfl | rfl
    · exact ⟨h4.next hb, l4, o4⟩
    · exact ⟨hm.next hb, lm, om⟩
    · exact ⟨h5.next hb, l5, o5⟩
/-- the three rows put together -/
theorem put_cat (w : World) (q : List (Value × Pt)) (pa : Option Addr) (pc : Nat) (x : Pt) (j k : Nat) (hjk : j ≤ k) (hk : k ≤ q.length) (h100 : q.length ≤ 100) (ad4 : Option Addr) (cap4 : Nat) (ad5 : Option Addr) (cap5 n5 : Nat) (hn5 : n5 = q.length - k) (hq : TqP w q) (r4 : RowC w (.slice ad4 j cap4) j (tqC (q.take j))) (r5 : RowC w (.slice ad5 n5 cap5) n5 (tqC (q.drop k))) (hp : PcI w (.slice pa x.ps.length pc) x.ps) (W : World) (hW : Bx w w.heap.size [.int .i64 x.n, .int .i64 x.sz, .string x.sum, .slice pa x.ps.length pc] 25 W) :
    Calls Try.prog 32 #[.slice (some ⟨W.heap.size + 1, 0, none⟩) 3 3] ((W.alloc (.cells #[.int .i64 x.n, .int .i64 x.sz, .string x.sum, .slice pa x.ps.length pc] 25)).alloc (.cells #[.slice ad4 j cap4, .slice (some ⟨W.heap.size, 0, none⟩) 1 1, .slice ad5 n5 cap5] 22)).drew fun e w' => ∃ ad6 cap6, e = .returned (.slice ad6 (j + 1 + n5) cap6) ∧ Hid (PtI w' (.slice ad6 (j + 1 + n5) cap6) (q.take j ++ (.slice pa x.ps.length pc, x) :: q.drop k)) ∧ Hid (Bx w w.heap.size [.int .i64 x.n, .int .i64 x.sz, .string x.sum, .slice pa x.ps.length pc] 25 w') := by
  have b1 : Below W.heap.size W (W.alloc (.cells #[.int .i64 x.n, .int .i64 x.sz, .string x.sum, .slice pa x.ps.length pc] 25)) := below_al (Below.refl _ _) _
  have hm : RowC (W.alloc (.cells #[.int .i64 x.n, .int .i64 x.sz, .string x.sum, .slice pa x.ps.length pc] 25)) (.slice (some ⟨W.heap.size, 0, none⟩) 1 1) 1 (ptC (.slice pa x.ps.length pc, x)) := RowC.own (own_made W [.int .i64 x.n, .int .i64 x.sz, .string x.sum, .slice pa x.ps.length pc] 25 4 1 0 (Nat.zero_le _) rfl (by omega))
  have sr := put_srow (W.alloc (.cells #[.int .i64 x.n, .int .i64 x.sz, .string x.sum, .slice pa x.ps.length pc] 25)) ad4 j cap4 ad5 n5 cap5 W.heap.size (tqC (q.take j)) (tqC (q.drop k)) (ptC (.slice pa x.ps.length pc, x)) ((r4.next hW.b).next b1) ((r5.next hW.b).next b1) hm (by rw [tqC_len, List.length_take, Nat.min_eq_left (by omega)]) (by rw [tqC_len, List.length_drop, hn5]) rfl (tqC_one' (w := w) (fun y hy => hq y (List.mem_of_mem_take hy))) (tqC_one' (w := w) (fun y hy => hq y (List.mem_of_mem_drop hy))) (ptC_cell _ _ _ _)
  have hsz1 : (W.alloc (.cells #[.int .i64 x.n, .int .i64 x.sz, .string x.sum, .slice pa x.ps.length pc] 25)).heap.size = W.heap.size + 1 := by simp
  rw [hsz1] at sr
  have sr2 := sr.next (Below.refl _ _).drew
  have hN : srN [⟨.slice ad4 j cap4, j, tqC (q.take j)⟩, ⟨.slice (some ⟨W.heap.size, 0, none⟩) 1 1, 1, ptC (.slice pa x.ps.length pc, x)⟩, ⟨.slice ad5 n5 cap5, n5, tqC (q.drop k)⟩] = j + 1 + n5 := by simp only [srN]; omega
  have hCc : srC [⟨.slice ad4 j cap4, j, tqC (q.take j)⟩, ⟨.slice (some ⟨W.heap.size, 0, none⟩) 1 1, 1, ptC (.slice pa x.ps.length pc, x)⟩, ⟨.slice ad5 n5 cap5, n5, tqC (q.drop k)⟩] = tqC (q.take j ++ (.slice pa x.ps.length pc, x) :: q.drop k) := by
    rw [tqC_app, show ((.slice pa x.ps.length pc, x) : Value × Pt) :: q.drop k = [(.slice pa x.ps.length pc, x)] ++ q.drop k from rfl, tqC_app, tqC_one]
    simp [srC]
  refine (concatT_any _ _ _ sr2 (by simp) (by rw [hN]; omega)).mono fun e w' ⟨ad6, cap6, he, hr, hb⟩ => ?_
  rw [hN] at he hr
  rw [hCc] at hr
  have B' : Bx w w.heap.size [.int .i64 x.n, .int .i64 x.sz, .string x.sum, .slice pa x.ps.length pc] 25 w' := (((hW.next b1).next (below_al (Below.refl _ _) _)).drew).next hb
  refine ⟨ad6, cap6, he, ⟨?_, fun y hy => ?_⟩, B'⟩
  · have := RowC.own hr
    rw [show (q.take j ++ (.slice pa x.ps.length pc, x) :: q.drop k).length = j + 1 + n5 by simp; omega]
    exact this
  · rcases List.mem_append.1 hy with e | e
    · exact (hq y (List.mem_of_mem_take e)).next B'.b
    · rcases List.mem_cons.1 e with e | e
      · rw [e]; exact hp.next B'.b
      · exact (hq y (List.mem_of_mem_drop e)).next B'.b
end Go.Proofs.Ytbiapepalkdkdab
namespace Go.Proofs.Ytbiapepalkdkdab
open Go.RowKit Go.Maps
set_option linter.unusedVariables false
set_option linter.unusedSimpArgs false

theorem ptOk_sz {x : Pt} (h : ptOk x = true) : x.ps.length ≤ 1048576 ∧ (∀ p ∈ x.ps, p.id.size ≤ 1048576) ∧ x.sum.size ≤ 1048576 := by
  simp only [ptOk, pcsOk, Bool.and_eq_true, decide_eq_true_eq, List.all_eq_true] at h
  obtain ⟨⟨⟨⟨⟨h1, h2⟩, -⟩, -⟩, -⟩, h5⟩ := h
  simp only [isDg, Bool.and_eq_true, decide_eq_true_eq] at h5
  exact ⟨by omega, fun p hp => by have := (pcOk_id (h2 p hp)).1; omega, by omega⟩
set_option maxRecDepth 100000 in
set_option maxHeartbeats 4000000 in
theorem tput_any (v0 : Value) (q : List (Value × Pt)) (pv : Value) (x : Pt) (w : World) (hv : PtI w v0 q) (hp : PcI w pv x.ps) (hl : q.length ≤ 8796093022208) : Calls Try.prog 9 #[v0, ptV (pv, x)] w (GiveT w (tputL (tqL q) x) (tputE (tqL q) x)) := by
  obtain ⟨pa, pc, rfl⟩ := hp.sl
  obtain ⟨ad, cap, rfl, hc⟩ := hv.form
  clear hc
  have BM := hid (Bx.made (Below.refl w.heap.size w) [.int .i64 x.n, .int .i64 x.sz, .string x.sum, .slice pa x.ps.length pc] 25)
  have IT := hid (areParts_any _ q _ (hv.next BM.out.b) hl)
  have CK : Hid (∀ W, Below w.heap.size w W → Calls Try.prog 13 #[.agg #[.int .i64 x.n, .int .i64 x.sz, .string x.sum, .slice pa x.ps.length pc]] W fun e w' => e = .returned (.int .i64 (ptE x)) ∧ Below W.heap.size W w') := fun W hW => tcheck_any _ x W (hp.next hW)
  have PL : Hid (∀ W, Below w.heap.size w W → arePt (tqL q) = true → Calls Try.prog 30 #[.slice ad q.length cap, .int .i64 x.n] W fun e w' => e = .returned (.tuple #[.int .i64 (plT (tqL q) x.n : Nat), .bool (hasT (tqL q) x.n)]) ∧ Below W.heap.size W w') := fun W hW h => tplace_of _ q x.n W (hv.next hW) h
  have HE : Hid (tputE (tqL q) x = if arePt (tqL q) = true ∧ ptOk x = true then 0 else 1) := rfl
  have HNL : Hid (tputL (tqL q) x = if tputE (tqL q) x = 0 then insT (tqL q) x else []) := rfl
  have HPE := hid (ptE_cases x)
  have hj : plT (tqL q) x.n ≤ q.length := by have := plT_le (tqL q) x.n; rw [tqL_len] at this; exact this
  have hh : hasT (tqL q) x.n = true → plT (tqL q) x.n + 1 ≤ q.length := fun h => by have := plT_has (tqL q) x.n h; rw [tqL_len] at this; exact this
  obtain ⟨ad4, cap4, r4, s4⟩ := rowc_to elT hv.1 hj
  obtain ⟨ad5, cap5, r5, s5⟩ := rowc_from elT hv.1 (tqC_len q) hj
  rw [tqC_tk q _ hj] at r4
  rw [tqC_dr q _ hj] at r5
  have S4 := hid s4
  have S5 := hid s5
  have HL : Hid (arePt (tqL q) = true → q.length ≤ 100) := fun h => by have := arePt_len h; rw [tqL_len] at this; exact this
  have CTF : Hid (arePt (tqL q) = true → ∀ W, Bx w w.heap.size [.int .i64 x.n, .int .i64 x.sz, .string x.sum, .slice pa x.ps.length pc] 25 W → Calls Try.prog 32 #[.slice (some ⟨W.heap.size + 1, 0, none⟩) 3 3] ((W.alloc (.cells #[.int .i64 x.n, .int .i64 x.sz, .string x.sum, .slice pa x.ps.length pc] 25)).alloc (.cells #[.slice ad4 (plT (tqL q) x.n) cap4, .slice (some ⟨W.heap.size, 0, none⟩) 1 1, .slice ad5 (q.length - plT (tqL q) x.n) cap5] 22)).drew fun e w' => ∃ ad6 cap6, e = .returned (.slice ad6 (plT (tqL q) x.n + 1 + (q.length - plT (tqL q) x.n)) cap6) ∧ Hid (PtI w' (.slice ad6 (plT (tqL q) x.n + 1 + (q.length - plT (tqL q) x.n)) cap6) (q.take (plT (tqL q) x.n) ++ (.slice pa x.ps.length pc, x) :: q.drop (plT (tqL q) x.n))) ∧ Hid (Bx w w.heap.size [.int .i64 x.n, .int .i64 x.sz, .string x.sum, .slice pa x.ps.length pc] 25 w')) := fun h W hW => put_cat w q pa pc x _ _ (Nat.le_refl _) hj (HL.out h) ad4 cap4 ad5 cap5 _ rfl hv.2 r4 r5 hp W hW
  have CTT : Hid (hasT (tqL q) x.n = true → ∃ ad8 cap8, (∀ W : World, (Instr.slice 22 (.slice ad5 (q.length - plT (tqL q) x.n) cap5) (some (.int .i64 1)) none none).run Try.prog W = .ok (.slice ad8 (q.length - plT (tqL q) x.n - 1) cap8) W) ∧ (arePt (tqL q) = true → ∀ W, Bx w w.heap.size [.int .i64 x.n, .int .i64 x.sz, .string x.sum, .slice pa x.ps.length pc] 25 W → Calls Try.prog 32 #[.slice (some ⟨W.heap.size + 1, 0, none⟩) 3 3] ((W.alloc (.cells #[.int .i64 x.n, .int .i64 x.sz, .string x.sum, .slice pa x.ps.length pc] 25)).alloc (.cells #[.slice ad4 (plT (tqL q) x.n) cap4, .slice (some ⟨W.heap.size, 0, none⟩) 1 1, .slice ad8 (q.length - plT (tqL q) x.n - 1) cap8] 22)).drew fun e w' => ∃ ad6 cap6, e = .returned (.slice ad6 (plT (tqL q) x.n + 1 + (q.length - plT (tqL q) x.n - 1)) cap6) ∧ Hid (PtI w' (.slice ad6 (plT (tqL q) x.n + 1 + (q.length - plT (tqL q) x.n - 1)) cap6) (q.take (plT (tqL q) x.n) ++ (.slice pa x.ps.length pc, x) :: q.drop (plT (tqL q) x.n + 1))) ∧ Hid (Bx w w.heap.size [.int .i64 x.n, .int .i64 x.sz, .string x.sum, .slice pa x.ps.length pc] 25 w'))) := fun h => by
    have h1 := hh h
    obtain ⟨ad8, cap8, r8, s8⟩ := rowc_from elT r5 (by rw [tqC_len, List.length_drop]) (k := 1) (by omega)
    rw [tqC_dr _ 1 (by rw [List.length_drop]; omega), List.drop_drop] at r8
    exact ⟨ad8, cap8, s8, fun h2 W hW => put_cat w q pa pc x _ (plT (tqL q) x.n + 1) (by omega) h1 (HL.out h2) ad4 cap4 ad8 cap8 _ (by omega) hv.2 r4 r8 hp W hW⟩
  have APT : Hid (∀ W u q2, Bx w w.heap.size [.int .i64 x.n, .int .i64 x.sz, .string x.sum, .slice pa x.ps.length pc] 25 W → PtI W u q2 → (∀ y ∈ q2, ptOk y.2 = true) → q2.length ≤ 201 → Calls Try.prog 31 #[u] W fun e w' => ∃ ad7 n7 cap7 q7, e = .returned (.slice ad7 n7 cap7) ∧ Hid (tqL q7 = tqL q2) ∧ Hid (OwnT w' w.heap.size 25 69 (.slice ad7 n7 cap7) q7) ∧ Hid (Bx w w.heap.size [.int .i64 x.n, .int .i64 x.sz, .string x.sum, .slice pa x.ps.length pc] 25 w')) := fun W u q2 hW hu hok h101 => by
    refine (tapart_any u q2 W hu (by omega) (fun y hy => ptOk_sz (hok y hy))).mono fun e w' ⟨ad7, cap7, q7, he, hl7, ho, hb⟩ => ⟨ad7, _, cap7, q7, he, hl7, ⟨ownsRow_base ho.1 hW.b.size, fun y hy => ownsRow_base (ho.2 y hy) hW.b.size⟩, hW.next hb⟩
  have INF : Hid (hasT (tqL q) x.n = false → tqL (q.take (plT (tqL q) x.n) ++ ((.slice pa x.ps.length pc : Value), x) :: q.drop (plT (tqL q) x.n)) = insT (tqL q) x) := fun h => by
    show _ = _
    unfold insT skT
    rw [h]
    simp [tqL, List.map_take, List.map_drop]
  have INT : Hid (hasT (tqL q) x.n = true → tqL (q.take (plT (tqL q) x.n) ++ ((.slice pa x.ps.length pc : Value), x) :: q.drop (plT (tqL q) x.n + 1)) = insT (tqL q) x) := fun h => by
    show _ = _
    unfold insT skT
    rw [h]
    simp [tqL, List.map_take, List.map_drop]
  have OKS : Hid (∀ k, arePt (tqL q) = true → ptOk x = true → (∀ y ∈ q.take (plT (tqL q) x.n) ++ ((.slice pa x.ps.length pc : Value), x) :: q.drop k, ptOk y.2 = true) ∧ (q.take (plT (tqL q) x.n) ++ ((.slice pa x.ps.length pc : Value), x) :: q.drop k).length ≤ 201) := fun k h1 h2 => by
    refine ⟨fun y hy => ?_, by have := HL.out h1; simp; omega⟩
    rcases List.mem_append.1 hy with e | e
    · exact arePt_all h1 _ (List.mem_map.2 ⟨y, List.mem_of_mem_take e, rfl⟩)
    · rcases List.mem_cons.1 e with e | e
      · rw [e]; exact h2
      · exact arePt_all h1 _ (List.mem_map.2 ⟨y, List.mem_of_mem_drop e, rfl⟩)
  have HCE : Hid (∀ W, Bx w w.heap.size [.int .i64 x.n, .int .i64 x.sz, .string x.sum, .slice pa x.ps.length pc] 25 W → W.cell? ⟨w.heap.size, 0, none⟩ = some (.int .i64 x.n) ∧ W.cell? ⟨w.heap.size, 1, none⟩ = some (.int .i64 x.sz) ∧ W.cell? ⟨w.heap.size, 2, none⟩ = some (.string x.sum) ∧ W.cell? ⟨w.heap.size, 3, none⟩ = some (.slice pa x.ps.length pc)) := fun W hW => ⟨hW.row.cellAt rfl, hW.row.cellAt rfl, hW.row.cellAt rfl, hW.row.cellAt rfl⟩
  clear hv hp hl r4 r5 s4 s5 hj hh HL
  unfold ptV at *
  generalize tputE (tqL q) x = NE at *
  generalize tputL (tqL q) x = NL at *
  generalize insT (tqL q) x = IH at *
  generalize arePt (tqL q) = IS at *
  generalize ptOk x = OK at *
  generalize hasT (tqL q) x.n = HB at *
  generalize plT (tqL q) x.n = PN at *
  generalize ptE x = PE at *
  simp only at *
  go_enter Try.func9, Try.ntmps9
  go_wp2_with fail
  refine IT.out.mono ?_
  rintro e w1 ⟨rfl, b1⟩
  have B1 := hid (BM.out.next b1)
  clear IT b1 BM
  cases IS
  · have hne : NE = 1 := by rw [HE.out]; simp
    subst hne
    have hnl : NL = [] := by rw [HNL.out]; simp
    subst hnl
    clear CK PL HE HNL HPE S4 S5 CTF CTT APT INF INT OKS HCE
    go_wp2
    go_ret2
    exact giveT_none B1.out.b
  obtain ⟨y0, y1, y2, y3⟩ := HCE.out _ B1.out
  go_wp2_with fail
  refine (CK.out _ B1.out.b).mono ?_
  rintro e w2 ⟨rfl, b2⟩
  have B2 := hid (B1.out.next b2)
  clear CK b2 B1 y0 y1 y2 y3
  rcases HPE.out with ⟨rfl, rfl⟩ | ⟨rfl, rfl⟩
  case inr =>
    have hne : NE = 1 := by rw [HE.out]; simp
    subst hne
    have hnl : NL = [] := by rw [HNL.out]; simp
    subst hnl
    clear PL HE HNL HPE S4 S5 CTF CTT APT INF INT OKS HCE
    go_wp2
    go_ret2
    exact giveT_none B2.out.b
  have hne : NE = 0 := by rw [HE.out]; simp
  subst hne
  have hnl : NL = IH := by rw [HNL.out]; simp
  subst hnl
  have P2 := hid (PL.out w2 B2.out.b (by first | rfl | trivial))
  obtain ⟨y0, y1, y2, y3⟩ := HCE.out _ B2.out
  clear PL HE HNL HPE
  go_wp2_with fail
  refine P2.out.mono ?_
  rintro e w3 ⟨rfl, b3⟩
  have B3 := hid (B2.out.next b3)
  clear P2 b3 B2 y0 y1 y2 y3
  have s4 := S4.out
  have s5 := S5.out
  obtain ⟨y0, y1, y2, y3⟩ := HCE.out _ B3.out
  cases HB
  · have CT := hid (CTF.out (by first | rfl | trivial) w3 B3.out)
    obtain ⟨ok1, ok2⟩ := OKS.out PN (by first | rfl | trivial) (by first | rfl | trivial)
    have AT : Hid (∀ W u, Bx w w.heap.size [.int .i64 x.n, .int .i64 x.sz, .string x.sum, .slice pa x.ps.length pc] 25 W → PtI W u (q.take PN ++ ((.slice pa x.ps.length pc : Value), x) :: q.drop PN) → Calls Try.prog 31 #[u] W fun e w' => ∃ ad7 n7 cap7 q7, e = .returned (.slice ad7 n7 cap7) ∧ Hid (tqL q7 = tqL (q.take PN ++ ((.slice pa x.ps.length pc : Value), x) :: q.drop PN)) ∧ Hid (OwnT w' w.heap.size 25 69 (.slice ad7 n7 cap7) q7) ∧ Hid (Bx w w.heap.size [.int .i64 x.n, .int .i64 x.sz, .string x.sum, .slice pa x.ps.length pc] 25 w')) := fun W u hW hu => APT.out W u _ hW hu ok1 ok2
    have HIN := hid (INF.out (by first | rfl | trivial))
    clear S4 S5 CTF CTT APT INF INT OKS ok1 ok2
    obtain ⟨n, sz, sum, ps⟩ := x
    simp only at *
    generalize ps.length = pn at *
    go_wp2
    refine wp_region_held_drew (S := (fun w' => w'.cell? ⟨w.heap.size, 0, none⟩ = some (.int .i64 n) ∧ w'.cell? ⟨w.heap.size, 1, none⟩ = some (.int .i64 sz) ∧ w'.cell? ⟨w.heap.size, 2, none⟩ = some (.string sum) ∧ w'.cell? ⟨w.heap.size, 3, none⟩ = some (.slice pa pn pc))) (by kernel_rfl) ⟨y0, y1, y2, y3⟩ (fun hHeld => ?_)
    refine wpAnyH_take (i := 0) (v := ?vv1) rfl (by kernel_rfl) (by kernel_rfl) (by kernel_rfl) (fun _ _ _ h => h) (Or.inl ⟨by rfl, ?hy1⟩) (by assumption) ?rest1
    case hy1 => (intro w hSw; (try dsimp only at hSw); go_simp; first | done | with_reducible rfl)
    try simp only [Act.put, List.getElem_toArray, List.getElem_cons_succ, List.getElem_cons_zero, List.setIfInBounds_toArray, List.set_cons_zero, List.set_cons_succ]
    refine wpAnyH_take (i := 1) (v := ?vv2) rfl (by kernel_rfl) (by kernel_rfl) (by kernel_rfl) (fun _ _ _ h => h) (Or.inl ⟨by rfl, ?hy2⟩) (by assumption) ?rest2
    case hy2 => (intro w hSw; (try dsimp only at hSw); go_simp; first | done | with_reducible rfl)
    try simp only [Act.put, List.getElem_toArray, List.getElem_cons_succ, List.getElem_cons_zero, List.setIfInBounds_toArray, List.set_cons_zero, List.set_cons_succ]
    refine wpAnyH_take (i := 2) (v := ?vv3) rfl (by kernel_rfl) (by kernel_rfl) (by kernel_rfl) (fun _ _ _ h => h) (Or.inl ⟨by rfl, ?hy3⟩) (by assumption) ?rest3
    case hy3 => (intro w hSw; (try dsimp only at hSw); go_simp; first | done | with_reducible rfl)
    try simp only [Act.put, List.getElem_toArray, List.getElem_cons_succ, List.getElem_cons_zero, List.setIfInBounds_toArray, List.set_cons_zero, List.set_cons_succ]
    refine wpAnyH_take (i := 3) (v := ?vv4) rfl (by kernel_rfl) (by kernel_rfl) (by kernel_rfl) (fun _ _ _ h => h) (Or.inl ⟨by rfl, ?hy4⟩) (by assumption) ?rest4
    case hy4 => (intro w hSw; (try dsimp only at hSw); go_simp; first | done | with_reducible rfl)
    try simp only [Act.put, List.getElem_toArray, List.getElem_cons_succ, List.getElem_cons_zero, List.setIfInBounds_toArray, List.set_cons_zero, List.set_cons_succ]
    refine wpAnyH_take (i := 5) (v := ?vv5) rfl (by kernel_rfl) (by kernel_rfl) (by kernel_rfl) (fun _ _ _ h => h) (Or.inl ⟨by rfl, ?hy5⟩) (by assumption) ?rest5
    case hy5 => (intro w hSw; (try dsimp only at hSw); go_simp; first | done | with_reducible rfl)
    try simp only [Act.put, List.getElem_toArray, List.getElem_cons_succ, List.getElem_cons_zero, List.setIfInBounds_toArray, List.set_cons_zero, List.set_cons_succ]
    refine wpAnyH_ready (rs := [4]) (by kernel_rfl) (by simp) ?_
    refine AllReadyH.cons rfl (fun K hK => ?_) AllReadyH.nil
    go_simp
    refine hK.out _ _ (HCE.out _ (B3.out.al _).drew) (fun hHeld => ?_)
    clear hK K
    try simp only [Act.put, List.getElem_toArray, List.getElem_cons_succ, List.getElem_cons_zero, List.setIfInBounds_toArray, List.set_cons_zero, List.set_cons_succ]
    refine wpAnyH_ready (rs := [6]) (by kernel_rfl) (by simp) ?_
    refine AllReadyH.cons rfl (fun K hK => ?_) AllReadyH.nil
    go_simp
    refine hK.out _ _ (HCE.out _ ((B3.out.al _).al _).drew) (fun hHeld => ?_)
    clear hK K
    try simp only [Act.put, List.getElem_toArray, List.getElem_cons_succ, List.getElem_cons_zero, List.setIfInBounds_toArray, List.set_cons_zero, List.set_cons_succ]
    refine wpAnyH_ready (rs := [7]) (by kernel_rfl) (by simp) ?_
    refine AllReadyH.cons rfl (fun K hK => ?_) AllReadyH.nil
    go_simp
    refine CT.out.mono ?_
    rintro e w4 ⟨ad6, cap6, rfl, R4, B4⟩
    have ZC4 := HCE.out _ B4.out
    go_wp2_with fail
    refine hK.out _ _ ZC4 (fun hHeld => ?_)
    clear hK K
    try simp only [Act.put, List.getElem_toArray, List.getElem_cons_succ, List.getElem_cons_zero, List.setIfInBounds_toArray, List.set_cons_zero, List.set_cons_succ]
    refine wpAnyH_ready (rs := [8]) (by kernel_rfl) (by simp) ?_
    refine AllReadyH.cons rfl (fun K hK => ?_) AllReadyH.nil
    go_simp
    refine (AT.out _ _ B4.out R4.out).mono ?_
    rintro e w5 ⟨ad7, n7, cap7, q7, rfl, L7, R5, B5⟩
    have ZC5 := HCE.out _ B5.out
    go_wp2_with fail
    refine hK.out _ _ ZC5 (fun hHeld => ?_)
    clear hK K
    try simp only [Act.put, List.getElem_toArray, List.getElem_cons_succ, List.getElem_cons_zero, List.setIfInBounds_toArray, List.set_cons_zero, List.set_cons_succ]
    refine wpAnyH_take (i := 9) (v := ?vv6) rfl (by kernel_rfl) (by kernel_rfl) (by kernel_rfl) (fun _ _ _ h => h) (Or.inl ⟨by rfl, ?hy6⟩) (by assumption) ?rest6
    case hy6 => (intro w hSw; (try dsimp only at hSw); go_simp; first | done | with_reducible rfl)
    try simp only [Act.put, List.getElem_toArray, List.getElem_cons_succ, List.getElem_cons_zero, List.setIfInBounds_toArray, List.set_cons_zero, List.set_cons_succ]
    refine wpAnyH_take (i := 10) (v := ?vv7) rfl (by kernel_rfl) (by kernel_rfl) (by kernel_rfl) (fun _ _ _ h => h) (Or.inl ⟨by rfl, ?hy7⟩) (by assumption) ?rest7
    case hy7 => (intro w hSw; (try dsimp only at hSw); go_simp; first | done | with_reducible rfl)
    try simp only [Act.put, List.getElem_toArray, List.getElem_cons_succ, List.getElem_cons_zero, List.setIfInBounds_toArray, List.set_cons_zero, List.set_cons_succ]
    refine wpAnyH_done (by kernel_rfl) ?_ _
    clear hHeld ZC4 ZC5 s4 s5 CT AT HCE y0 y1 y2 y3
    go_wp2
    go_ret2
    exact ⟨ad7, n7, cap7, q7, rfl, by rw [L7.out, HIN.out], R5.out, B5.out.b⟩
  · obtain ⟨ad8, cap8, s8, ct⟩ := CTT.out (by first | rfl | trivial)
    have CT := hid (ct (by first | rfl | trivial) w3 B3.out)
    obtain ⟨ok1, ok2⟩ := OKS.out (PN + 1) (by first | rfl | trivial) (by first | rfl | trivial)
    have AT : Hid (∀ W u, Bx w w.heap.size [.int .i64 x.n, .int .i64 x.sz, .string x.sum, .slice pa x.ps.length pc] 25 W → PtI W u (q.take PN ++ ((.slice pa x.ps.length pc : Value), x) :: q.drop (PN + 1)) → Calls Try.prog 31 #[u] W fun e w' => ∃ ad7 n7 cap7 q7, e = .returned (.slice ad7 n7 cap7) ∧ Hid (tqL q7 = tqL (q.take PN ++ ((.slice pa x.ps.length pc : Value), x) :: q.drop (PN + 1))) ∧ Hid (OwnT w' w.heap.size 25 69 (.slice ad7 n7 cap7) q7) ∧ Hid (Bx w w.heap.size [.int .i64 x.n, .int .i64 x.sz, .string x.sum, .slice pa x.ps.length pc] 25 w')) := fun W u hW hu => APT.out W u _ hW hu ok1 ok2
    have HIN := hid (INT.out (by first | rfl | trivial))
    clear S4 S5 CTF CTT APT INF INT OKS ok1 ok2 ct
    obtain ⟨n, sz, sum, ps⟩ := x
    simp only at *
    generalize ps.length = pn at *
    go_wp2
    refine wp_region_held_drew (S := (fun w' => w'.cell? ⟨w.heap.size, 0, none⟩ = some (.int .i64 n) ∧ w'.cell? ⟨w.heap.size, 1, none⟩ = some (.int .i64 sz) ∧ w'.cell? ⟨w.heap.size, 2, none⟩ = some (.string sum) ∧ w'.cell? ⟨w.heap.size, 3, none⟩ = some (.slice pa pn pc))) (by kernel_rfl) ⟨y0, y1, y2, y3⟩ (fun hHeld => ?_)
    refine wpAnyH_take (i := 0) (v := ?vv8) rfl (by kernel_rfl) (by kernel_rfl) (by kernel_rfl) (fun _ _ _ h => h) (Or.inl ⟨by rfl, ?hy8⟩) (by assumption) ?rest8
    case hy8 => (intro w hSw; (try dsimp only at hSw); go_simp; first | done | with_reducible rfl)
    try simp only [Act.put, List.getElem_toArray, List.getElem_cons_succ, List.getElem_cons_zero, List.setIfInBounds_toArray, List.set_cons_zero, List.set_cons_succ]
    refine wpAnyH_take (i := 1) (v := ?vv9) rfl (by kernel_rfl) (by kernel_rfl) (by kernel_rfl) (fun _ _ _ h => h) (Or.inl ⟨by rfl, ?hy9⟩) (by assumption) ?rest9
    case hy9 => (intro w hSw; (try dsimp only at hSw); go_simp; first | done | with_reducible rfl)
    try simp only [Act.put, List.getElem_toArray, List.getElem_cons_succ, List.getElem_cons_zero, List.setIfInBounds_toArray, List.set_cons_zero, List.set_cons_succ]
    refine wpAnyH_take (i := 2) (v := ?vv10) rfl (by kernel_rfl) (by kernel_rfl) (by kernel_rfl) (fun _ _ _ h => h) (Or.inl ⟨by rfl, ?hy10⟩) (by assumption) ?rest10
    case hy10 => (intro w hSw; (try dsimp only at hSw); go_simp; first | done | with_reducible rfl)
    try simp only [Act.put, List.getElem_toArray, List.getElem_cons_succ, List.getElem_cons_zero, List.setIfInBounds_toArray, List.set_cons_zero, List.set_cons_succ]
    refine wpAnyH_take (i := 3) (v := ?vv11) rfl (by kernel_rfl) (by kernel_rfl) (by kernel_rfl) (fun _ _ _ h => h) (Or.inl ⟨by rfl, ?hy11⟩) (by assumption) ?rest11
    case hy11 => (intro w hSw; (try dsimp only at hSw); go_simp; first | done | with_reducible rfl)
    try simp only [Act.put, List.getElem_toArray, List.getElem_cons_succ, List.getElem_cons_zero, List.setIfInBounds_toArray, List.set_cons_zero, List.set_cons_succ]
    refine wpAnyH_take (i := 5) (v := ?vv12) rfl (by kernel_rfl) (by kernel_rfl) (by kernel_rfl) (fun _ _ _ h => h) (Or.inl ⟨by rfl, ?hy12⟩) (by assumption) ?rest12
    case hy12 => (intro w hSw; (try dsimp only at hSw); go_simp; first | done | with_reducible rfl)
    try simp only [Act.put, List.getElem_toArray, List.getElem_cons_succ, List.getElem_cons_zero, List.setIfInBounds_toArray, List.set_cons_zero, List.set_cons_succ]
    refine wpAnyH_ready (rs := [4]) (by kernel_rfl) (by simp) ?_
    refine AllReadyH.cons rfl (fun K hK => ?_) AllReadyH.nil
    go_simp
    refine hK.out _ _ (HCE.out _ (B3.out.al _).drew) (fun hHeld => ?_)
    clear hK K
    try simp only [Act.put, List.getElem_toArray, List.getElem_cons_succ, List.getElem_cons_zero, List.setIfInBounds_toArray, List.set_cons_zero, List.set_cons_succ]
    refine wpAnyH_ready (rs := [6]) (by kernel_rfl) (by simp) ?_
    refine AllReadyH.cons rfl (fun K hK => ?_) AllReadyH.nil
    go_simp
    refine hK.out _ _ (HCE.out _ ((B3.out.al _).al _).drew) (fun hHeld => ?_)
    clear hK K
    try simp only [Act.put, List.getElem_toArray, List.getElem_cons_succ, List.getElem_cons_zero, List.setIfInBounds_toArray, List.set_cons_zero, List.set_cons_succ]
    refine wpAnyH_ready (rs := [7]) (by kernel_rfl) (by simp) ?_
    refine AllReadyH.cons rfl (fun K hK => ?_) AllReadyH.nil
    go_simp
    refine CT.out.mono ?_
    rintro e w4 ⟨ad6, cap6, rfl, R4, B4⟩
    have ZC4 := HCE.out _ B4.out
    go_wp2_with fail
    refine hK.out _ _ ZC4 (fun hHeld => ?_)
    clear hK K
    try simp only [Act.put, List.getElem_toArray, List.getElem_cons_succ, List.getElem_cons_zero, List.setIfInBounds_toArray, List.set_cons_zero, List.set_cons_succ]
    refine wpAnyH_ready (rs := [8]) (by kernel_rfl) (by simp) ?_
    refine AllReadyH.cons rfl (fun K hK => ?_) AllReadyH.nil
    go_simp
    refine (AT.out _ _ B4.out R4.out).mono ?_
    rintro e w5 ⟨ad7, n7, cap7, q7, rfl, L7, R5, B5⟩
    have ZC5 := HCE.out _ B5.out
    go_wp2_with fail
    refine hK.out _ _ ZC5 (fun hHeld => ?_)
    clear hK K
    try simp only [Act.put, List.getElem_toArray, List.getElem_cons_succ, List.getElem_cons_zero, List.setIfInBounds_toArray, List.set_cons_zero, List.set_cons_succ]
    refine wpAnyH_take (i := 9) (v := ?vv13) rfl (by kernel_rfl) (by kernel_rfl) (by kernel_rfl) (fun _ _ _ h => h) (Or.inl ⟨by rfl, ?hy13⟩) (by assumption) ?rest13
    case hy13 => (intro w hSw; (try dsimp only at hSw); go_simp; first | done | with_reducible rfl)
    try simp only [Act.put, List.getElem_toArray, List.getElem_cons_succ, List.getElem_cons_zero, List.setIfInBounds_toArray, List.set_cons_zero, List.set_cons_succ]
    refine wpAnyH_take (i := 10) (v := ?vv14) rfl (by kernel_rfl) (by kernel_rfl) (by kernel_rfl) (fun _ _ _ h => h) (Or.inl ⟨by rfl, ?hy14⟩) (by assumption) ?rest14
    case hy14 => (intro w hSw; (try dsimp only at hSw); go_simp; first | done | with_reducible rfl)
    try simp only [Act.put, List.getElem_toArray, List.getElem_cons_succ, List.getElem_cons_zero, List.setIfInBounds_toArray, List.set_cons_zero, List.set_cons_succ]
    refine wpAnyH_done (by kernel_rfl) ?_ _
    clear hHeld ZC4 ZC5 s4 s5 s8 CT AT HCE y0 y1 y2 y3
    go_wp2
    go_ret2
    exact ⟨ad7, n7, cap7, q7, rfl, by rw [L7.out, HIN.out], R5.out, B5.out.b⟩
end Go.Proofs.Ytbiapepalkdkdab
