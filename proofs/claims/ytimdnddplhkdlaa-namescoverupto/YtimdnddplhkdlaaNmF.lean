/- The program's listing. -/
import Derived.Test.YtimdnddplhkdlaaNmA
namespace Go.Proofs.Ytimdnddplhkdlaa
open Go.RowKit Go.Shelf Go.Maps
set_option linter.unusedVariables false
set_option linter.unusedSimpArgs false

/-- how many are asked for -/
def askN (most : Int) : Nat := (max most 0).toNat
theorem slice_to_some (g n cap k : Nat) (hk : k ≤ n) (hn : n ≤ cap) (W : World) : (Instr.slice 27 (.slice (some ⟨g, 0, none⟩) n cap) none (some (.int .i64 (k : Int))) none).run Try.prog W = .ok (.slice (some ⟨g, 0, none⟩) k cap) W := by
  obtain ⟨z, hz, _⟩ := elI.inf
  obtain ⟨i0, hi, _⟩ := Option.map_eq_some_iff.1 hz
  have e1 : (0 : Int) ≤ (k : Int) := by omega
  have e2 : k ≤ cap := by omega
  have e3 : (⟨g, 0, none⟩ : Addr).add 0 = ⟨g, 0, none⟩ := rfl
  simp [Instr.slice, Instr.sliceBounds, Instr.sliceBound, asIntOf, run_underlying elI.und, sizeOf, typeInfo, hi, Result.andThen, e1, e2, e3]
theorem slice_to_none (W : World) : (Instr.slice 27 (.slice none 0 0) none (some (.int .i64 ((0 : Nat) : Int))) none).run Try.prog W = .ok (.slice none 0 0) W := by
  obtain ⟨z, hz, _⟩ := elI.inf
  obtain ⟨i0, hi, _⟩ := Option.map_eq_some_iff.1 hz
  simp [Instr.slice, Instr.sliceBounds, Instr.sliceBound, asIntOf, run_underlying elI.und, sizeOf, typeInfo, hi, Result.andThen]
theorem its_names {p d : Bs} {ks : List Bs} {f : Bs → Bool} {l : List It} (hm : ∀ x, x ∈ l ↔ (∃ k ∈ ks, ofK p d k = some x) ∧ f x.1 = true) (hb : ∀ k ∈ ks, k.length ≤ 1048576) : ∀ x ∈ l, x.1.length ≤ 1048576 := by
  intro x hx
  obtain ⟨⟨k, hk, e⟩, _⟩ := (hm x).1 hx
  unfold ofK at e
  split at e
  · rename_i hp
    injection e with e
    subst e
    have h1 := (itK_pre (d := d) hp).2
    rw [List.isPrefixOf_iff_prefix] at h1
    exact Nat.le_trans h1.length_le (hb k hk)
  · cases e
theorem itC_take (l : List It) (n : Nat) (j : Nat) (u : Value) (h : (itC (l.take n))[j]? = some u) : (itC l)[j]? = some u := by
  have e : itC l = itC (l.take n) ++ itC (l.drop n) := by
    unfold itC
    rw [← List.flatMap_append, List.take_append_drop]
  rw [e, List.getElem?_append_left (List.getElem?_eq_some_iff.1 h).1]
  exact h

set_option maxRecDepth 100000 in
set_option maxHeartbeats 4000000 in
theorem fold_any (ks : List Bs) (p d af : Bs) (most : Int) (v : Value) (w : World) (hv : Strs w v (ks.map tb)) (hm : MaxL w) (hl : ks.length ≤ 1048576) (hb : ∀ k ∈ ks, k.length ≤ 1048576) :
    Calls Try.prog 15 #[v, .string (tb p), .string (tb d), .string (tb af), .int .i64 most] w fun e w' => ∃ (S : List It) (u : Value), e = .returned (.tuple #[u, .bool (decide ((S.take (askN most)).length < S.length))]) ∧ Its p d ks (fun n => bytesBefore af n) S ∧ w'.ownsRow w.heap.size 39 2 u (S.take (askN most)).length (itC (S.take (askN most))) ∧ Keep (fun _ => False) w w' := by
  have IB := hid (itemsBehind_any ks p d af v w hv hm hl hb)
  have HB := hid hb
  have HL := hid hl
  clear hm hl hb
  obtain ⟨ad0, cap0, hve, _⟩ := hv.at
  rw [List.length_map] at hve
  subst hve
  clear hv
  go_enter Try.func15, Try.ntmps15
  go_wp2_with fail
  refine IB.out.mono ?_
  rintro e w1 ⟨l, u, rfl, hM, hR, hK⟩
  clear IB
  have HLL : Hid (l.length ≤ 1048576) := Nat.le_trans hM.len HL.out
  have HK1 := hid hK
  by_cases h0 : l = []
  · subst h0
    have HI : Hid (Its p d ks (fun n => bytesBefore af n) []) := ⟨List.Pairwise.nil, hM.mem, by simp⟩
    obtain ⟨ad, cap, rfl⟩ := row_form hR
    have hle : ∃ g, (ad = none ∧ cap = 0) ∨ ad = some ⟨g, 0, none⟩ := by
      rcases hR.2 with ⟨e, _⟩ | ⟨g, c, cur, e, _⟩
      · injection e with e1 e2 e3; exact ⟨0, .inl ⟨e1, e3⟩⟩
      · injection e with e1 e2 e3; exact ⟨g, .inr e1⟩
    have HG : Hid (∀ g, ad = some ⟨g, 0, none⟩ → g < w1.heap.size) := fun g e => by
      rcases hR.2 with ⟨e2, _⟩ | ⟨g', c, cur, e2, _, hb, _⟩
      · injection e2 with e1; rw [e] at e1; cases e1
      · injection e2 with e1 e3 e4
        rw [e] at e1
        injection e1 with e1
        injection e1 with e1
        subst e1
        exact (Array.getElem?_eq_some_iff.1 hb).1
    have SN := hid (sortI_none ad cap (.func (.func 27) #[] #[]) w1)
    have HA : Hid (∀ x, GSrc w1 x 0 (itC []) → Calls Try.prog 29 #[x] w1 fun e w' => ∃ u, e = .returned u ∧ w'.ownsRow w1.heap.size 39 2 u 0 (itC []) ∧ Keep (fun _ => False) w1 w') := fun x hx => apart_any [] x w1 hx (by simp) (by simp)
    have FIN : Hid (∀ u w2, w2.ownsRow w1.heap.size 39 2 u 0 (itC []) → Keep (fun _ => False) w1 w2 → ∃ (S : List It) (u' : Value), Ending.returned (.tuple #[u, .bool false]) = .returned (.tuple #[u', .bool (decide ((S.take (askN most)).length < S.length))]) ∧ Its p d ks (fun n => bytesBefore af n) S ∧ w2.ownsRow w.heap.size 39 2 u' (S.take (askN most)).length (itC (S.take (askN most))) ∧ Keep (fun _ => False) w w2) := fun u w2 hr hk2 => by
      refine ⟨[], u, ?_, HI.out, ?_, HK1.out.trans hk2⟩
      · simp
      · have := ownsRow_base hr HK1.out.size
        simpa using this
    have hmn : min (max most 0) (0 : Int) = 0 := by omega
    clear hM hR hK HI HL HB HLL
    obtain ⟨g, ⟨rfl, rfl⟩ | rfl⟩ := hle
    · have A1 := hid (HA.out (.slice none 0 0) (.inl ⟨0, rfl, rfl, rfl⟩))
      clear HA
      go_wp2_with fail
      refine SN.out.mono ?_
      rintro e w2 ⟨rfl, rfl⟩
      go_wp2_with fail
      refine A1.out.mono ?_
      rintro e w3 ⟨u, rfl, hr3, hk3⟩
      have HF := hid (FIN.out u w3 hr3 hk3)
      clear FIN A1 SN hr3 hk3
      go_wp2
      go_ret2
      exact HF.out
    · have hlt : g < w1.heap.size := HG.out g rfl
      have A1 := hid (HA.out (.slice (some ⟨g, 0, none⟩) 0 cap) (.inr ⟨g, 0, cap, rfl, hlt, fun j u hu => by simp [itC] at hu⟩))
      clear HA
      go_wp2_with fail
      refine SN.out.mono ?_
      rintro e w2 ⟨rfl, rfl⟩
      go_wp2_with fail
      refine A1.out.mono ?_
      rintro e w3 ⟨u, rfl, hr3, hk3⟩
      have HF := hid (FIN.out u w3 hr3 hk3)
      clear FIN A1 SN hr3 hk3
      go_wp2
      go_ret2
      exact HF.out
  · obtain ⟨g, cap, cur, rfl, hg, hbk, hnc, hrest⟩ : ∃ g cap cur, u = .slice (some ⟨g, 0, none⟩) l.length cap ∧ w.heap.size + 1 ≤ g ∧ w1.heap[g]? = some (.cells cur 39 (0, 0)) ∧ l.length ≤ cap ∧ True := by
      rcases hR.2 with ⟨e, h⟩ | ⟨g, cap, cur, e, hg, hb, hn, _⟩
      · exact absurd (List.length_eq_zero_iff.1 h) h0
      · exact ⟨g, cap, cur, e, hg, hb, hn, trivial⟩
    have hlt := (Array.getElem?_eq_some_iff.1 hbk).1
    have SS := hid (sortI_some g cap l w1 (fun j u hu => grow_at hR hu) (fun j _ => by unfold World.frozen?; rw [hbk]; simp) hlt HLL.out)
    have HS : Hid (∀ m w2, l.Perm m → m.Pairwise (fun x y => bytesBefore y.1 x.1 = false) → (∀ j u, (itC m)[j]? = some u → w2.cell? ⟨g, j, none⟩ = some u) → Keep (· = g) w1 w2 → Its p d ks (fun n => bytesBefore af n) m ∧ GSrc w2 (.slice (some ⟨g, 0, none⟩) (m.take (askN most)).length cap) (m.take (askN most)).length (itC (m.take (askN most))) ∧ (m.take (askN most)).length ≤ 1048576 ∧ (∀ x ∈ m.take (askN most), x.1.length ≤ 1048576) ∧ Keep (fun _ => False) w w2 ∧ m.length = l.length) := fun m w2 hp hs hc hk => by
      have hI := hM.sorted hp hs
      refine ⟨hI, .inr ⟨g, 0, cap, rfl, Nat.lt_of_lt_of_le hlt hk.size, fun j u hu => ?_⟩, ?_, ?_, ?_, hp.length_eq.symm⟩
      · rw [Nat.zero_add]; exact hc j u (itC_take _ _ _ _ hu)
      · rw [List.length_take]; have := hI.len; have := HL.out; omega
      · intro x hx
        exact its_names hI.mem HB.out x (List.mem_of_mem_take hx)
      · exact HK1.out.then hk fun j hj e => by omega
    have HT : Hid (∀ m : List It, m.length = l.length → (m.take (askN most)).length = min (askN most) l.length) := fun m h => by show _ = _; rw [List.length_take, h]
    obtain ⟨t, ht⟩ : ∃ t, t = min (askN most) l.length := ⟨_, rfl⟩
    have hmn : min (max most 0) (l.length : Int) = (t : Int) := by rw [ht]; unfold askN; omega
    have ht0 : (0 : Int) ≤ (t : Int) := by omega
    have htc : t ≤ cap := by omega
    have htc2 : (t : Int) ≤ (cap : Int) := by omega
    rw [← ht] at HT
    have hbo : decide ((t : Int) < (l.length : Int)) = decide (t < l.length) := decide_eq_decide.2 (by omega)
    clear hM hR hK HL HB HLL hbk hg hnc hrest ht h0
    go_wp2_with fail
    refine SS.out.mono ?_
    rintro e w2 ⟨rfl, m, hp, hs, hc, hk⟩
    obtain ⟨hI, hG, hL2, hN2, hK2, hml⟩ := HS.out m w2 hp hs hc hk
    have hmt := HT.out m hml
    have A1 := hid (apart_any (m.take (askN most)) _ w2 hG hL2 hN2)
    have FIN : Hid (∀ u w3, w3.ownsRow w2.heap.size 39 2 u (m.take (askN most)).length (itC (m.take (askN most))) → Keep (fun _ => False) w2 w3 → ∃ (S : List It) (u' : Value), Ending.returned (.tuple #[u, .bool (decide (t < l.length))]) = .returned (.tuple #[u', .bool (decide ((S.take (askN most)).length < S.length))]) ∧ Its p d ks (fun n => bytesBefore af n) S ∧ w3.ownsRow w.heap.size 39 2 u' (S.take (askN most)).length (itC (S.take (askN most))) ∧ Keep (fun _ => False) w w3) := fun u w3 hr hk3 => by
      refine ⟨m, u, ?_, hI, ownsRow_base hr hK2.size, hK2.trans hk3⟩
      rw [hmt, hml]
    rw [hmt] at A1
    generalize itC (m.take (askN most)) = XS at *
    generalize (m.take (askN most)).length = mt at *
    subst hmt
    clear hp hs hc hk HS HT hI hG hL2 hN2 hK2 hml SS
    go_wp2_with fail
    refine A1.out.mono ?_
    rintro e w3 ⟨u, rfl, hr3, hk3⟩
    have HF := hid (FIN.out u w3 hr3 hk3)
    clear FIN A1 hr3 hk3
    go_wp2
    go_ret2
    exact HF.out
end Go.Proofs.Ytimdnddplhkdlaa
