/- The document's items, and its listing. -/
import Derived.Test.YtimdnddplhkdlaaNmU
namespace Go.Proofs.Ytimdnddplhkdlaa
open Go.RowKit Go.Shelf Go.Maps
set_option linter.unusedVariables false
set_option linter.unusedSimpArgs false

set_option maxRecDepth 100000 in
set_option maxHeartbeats 4000000 in
theorem ritems_any (ks : List Bs) (p d : Bs) (v : Value) (w : World) (hv : Strs w v (ks.map tb)) (hl : ks.length ≤ 1048576) (hb : ∀ k ∈ ks, k.length ≤ 1048576) (hpl : p.length ≤ 140737488355328) (hdl : d.length ≤ 140737488355328) :
    Calls Try.prog 18 #[v, .string (tb p), .string (tb d)] w fun e w' => ∃ (S : List It) (u : Value), e = .returned u ∧ Its p d ks (fun _ => true) S ∧ w'.ownsRow w.heap.size 38 2 u S.length (itC S) ∧ Keep (fun _ => False) w w' := by
  obtain ⟨ad, cap, rfl, hcell⟩ := hv.at
  rw [List.length_map] at hcell ⊢
  have HC : Hid (∀ (k : Nat) (hk : k < ks.length) (W : World), Keep (fun _ => False) w W → ∃ b off, ad = some ⟨b, off, none⟩ ∧ W.cell? ⟨b, off + k, none⟩ = some (.string (tb ks[k]))) := by
    intro k hk W hW
    obtain ⟨b, off, e, hb, hc⟩ := hcell k (by simpa using hk)
    refine ⟨b, off, e, (hW.cell hb (fun h => h)).trans (hc.trans ?_)⟩
    simp [hk]
  have HT : Hid (∀ (k : Nat) (hk : k < ks.length), ks.take (k + 1) = ks.take k ++ [ks[k]]) := fun k hk => List.take_succ_eq_append_getElem hk
  have HB : Hid (∀ (k : Nat) (hk : k < ks.length), (ks[k]).length ≤ 1048576) := fun k hk => hb _ (List.getElem_mem hk)
  have HZ : Hid (ks.take ks.length = ks) := List.take_length
  have HI0 : Hid (Its p d (ks.take 0) (fun _ => true) []) := Its.nil p d
  have HR0 : Hid (w.ownsRow w.heap.size 38 2 (.slice none 0 0) 0 (itC [])) := nil_row
  have HPL := hid hpl
  have HDL := hid hdl
  clear hv hcell hb hpl hdl
  go_enter Try.func18, Try.ntmps18
  go_wp2
  go_loopw [7, 8] (fun o i wr => ∃ (k : Nat) (l : List It), k ≤ ks.length ∧ i = .int .i64 k ∧ (∃ ad cp, o = .slice ad l.length cp) ∧ Hid (Its p d (ks.take k) (fun _ => true) l) ∧ Hid (wr.ownsRow w.heap.size 38 2 o l.length (itC l)) ∧ Hid (Keep (fun _ => False) w wr)) (fun _ i _ => ks.length - (intOf i).toNat)
  case atStart => exact ⟨0, [], by omega, rfl, ⟨none, 0, rfl⟩, HI0, HR0, Keep.refl _ _⟩
  case round =>
    clear HI0 HR0
    obtain ⟨k, l, hk, rfl, ⟨ad0, cp0, rfl⟩, HI, HR, HK⟩ := hrel
    by_cases hlt : k < ks.length
    · have hk0 : (0 : Int) ≤ (k : Int) := by omega
      have hk1 : (k : Int) < (ks.length : Int) := by omega
      obtain ⟨b, off, e1, hc⟩ := HC.out k hlt wr HK.out
      subst e1
      have HKL := hid (HB.out k hlt)
      have HTK := hid (HT.out k hlt)
      have HLL : Hid (l.length ≤ 1048576) := by
        have := HI.out.len
        rw [List.length_take] at this
        exact Nat.le_trans this (by omega)
      clear HC HB HT HZ
      generalize ks[k] = kk at *
      cases hp : p.isPrefixOf kk with
      | false =>
        have OF := hid (rof_no p d kk wr hp HKL.out HPL.out)
        have HI2 : Hid (Its p d (ks.take (k + 1)) (fun _ => true) l) := by
          show Its _ _ _ _ _
          rw [HTK.out]
          exact HI.out.skip (by unfold ofK; rw [hp]; rfl)
        clear HI HTK hp HKL
        generalize tb kk = KK at *
        go_wp2_with fail
        refine OF.out.mono ?_
        rintro e w2 ⟨rfl, hk2⟩
        have k3 := hk2.trans (keep_alloc (fun _ => False) w2 (.cells #[.string ⟨#[]⟩, .bool false] 38))
        have HK3 := hid (HK.out.trans k3)
        have HR3 := hid (k3.ownsRow HR.out (fun _ _ h => h))
        clear OF hk2 k3 HK HR
        go_wp2
        exact ⟨⟨k + 1, l, by omega, by go_num, ⟨_, _, rfl⟩, HI2, HR3, HK3⟩, by simp [intOf]; omega⟩
      | true =>
        have OF := hid (rof_yes p d kk wr hp HKL.out HDL.out)
        have HOK : Hid (ofK p d kk = some (itK p d kk)) := by show _ = _; unfold ofK; rw [hp]; rfl
        have HI2 : Hid (Its p d (ks.take (k + 1)) (fun _ => true) (insI (itK p d kk) l)) := by
          show Its _ _ _ _ _
          rw [HTK.out]
          exact HI.out.ins HOK.out
        have HX : Hid (∀ y ∈ l, y.1 = (itK p d kk).1 → y = itK p d kk) := fun z hz e => by
          obtain ⟨⟨k', _, hk'⟩, _⟩ := (HI.out.mem z).1 hz
          have h1 := ofK_flag hk'
          have h2 := ofK_flag HOK.out
          exact Prod.ext e (by rw [h1, h2, e])
        clear HI HTK hp HKL HOK
        generalize itK p d kk = y at *
        generalize tb kk = KK at *
        obtain ⟨N, F⟩ := y
        simp only at OF
        go_wp2_with fail
        refine OF.out.mono ?_
        rintro e w2 ⟨rfl, hk2⟩
        have k3 := hk2.trans (keep_alloc (fun _ => False) w2 (.cells #[.string (tb N), .bool F] 38))
        have HK3 := hid (HK.out.trans k3)
        have HR3 := hid (k3.ownsRow HR.out (fun _ _ h => h))
        have WI := hid (rwith_any l (N, F) w.heap.size (.slice ad0 l.length cp0) _ HR3.out HK3.out.size HX.out HLL.out)
        clear OF hk2 k3 HK HR HX HR3
        generalize tb N = NN at *
        go_wp2_with fail
        refine WI.out.mono ?_
        rintro e w4 ⟨u, rfl, hr4, hk4⟩
        have HR4 := hid hr4
        have HK4 := hid (HK3.out.trans hk4)
        have HF4 := hid (row_form hr4)
        clear WI hr4 hk4 HK3
        go_wp2
        exact ⟨⟨k + 1, insI (N, F) l, by omega, by go_num, HF4.out, HI2, HR4, HK4⟩, by simp [intOf]; omega⟩
    · have hd : decide ((k : Int) < (ks.length : Int)) = false := decide_eq_false (by omega)
      have hke : k = ks.length := by omega
      have HF : Hid (Its p d ks (fun _ => true) l) := by
        have := HI.out
        rw [hke, HZ.out] at this
        exact this
      clear HC HB HT HZ HI hke
      go_wp2
      go_ret
      exact ⟨l, _, rfl, HF.out, HR.out, HK.out⟩
theorem filter_succ (A : List It) (f : Bs → Bool) (k : Nat) (hk : k < A.length) : (A.take (k + 1)).filter (fun x => f x.1) = (A.take k).filter (fun x => f x.1) ++ (if f A[k].1 then [A[k]] else []) := by
  rw [List.take_succ_eq_append_getElem hk, List.filter_append]
  congr 1
  simp [List.filter_cons]
set_option maxRecDepth 100000 in
set_option maxHeartbeats 4000000 in
theorem rfold_any (ks : List Bs) (p d af : Bs) (most : Int) (v : Value) (w : World) (hv : Strs w v (ks.map tb)) (hl : ks.length ≤ 1048576) (hb : ∀ k ∈ ks, k.length ≤ 1048576) (hpl : p.length ≤ 140737488355328) (hdl : d.length ≤ 140737488355328) :
    Calls Try.prog 16 #[v, .string (tb p), .string (tb d), .string (tb af), .int .i64 most] w fun e w' => ∃ (S : List It) (u : Value), e = .returned (.tuple #[u, .bool (decide ((S.take (askN most)).length < S.length))]) ∧ Its p d ks (fun n => bytesBefore af n) S ∧ w'.ownsRow w.heap.size 38 2 u (S.take (askN most)).length (itC (S.take (askN most))) ∧ Keep (fun _ => False) w w' := by
  have IT := hid (ritems_any ks p d v w hv hl hb hpl hdl)
  have HL := hid hl
  obtain ⟨ad0, cap0, hve, _⟩ := hv.at
  rw [List.length_map] at hve
  subst hve
  have HLE : Hid (∀ N, (Op.bytesLess (tb N).toList (tb af).toList || (tb N).toList == (tb af).toList) = !bytesBefore af N) := fun N => tb_le N af
  clear hv hl hb hpl hdl
  generalize tb af = AF at *
  go_enter Try.func16, Try.ntmps16
  go_wp2_with fail
  refine IT.out.mono ?_
  rintro e w1 ⟨A, u, rfl, hI, hR, hK⟩
  obtain ⟨adA, capA, rfl⟩ := row_form hR
  have HA : Hid (A.length ≤ 1048576) := Nat.le_trans hI.len HL.out
  have HI := hid (hI.filter (fun n => bytesBefore af n))
  have HC : Hid (∀ (k : Nat) (hk : k < A.length) (W : World), Keep (fun _ => False) w1 W → ∃ g, adA = some ⟨g, 0, none⟩ ∧ W.cell? ⟨g, k * 2, none⟩ = some (.string (tb A[k].1)) ∧ W.cell? ⟨g, k * 2 + 1, none⟩ = some (.bool A[k].2)) := fun k hk W hW => by
    have hr := hW.ownsRow hR (fun _ _ h => h)
    rcases hr.2 with ⟨e, h⟩ | ⟨g, c, cur, e, _⟩
    · omega
    · injection e with e1 e2 e3
      subst e1 e3
      have h0 := itC_get A k hk 0 (by omega)
      have h1 := itC_get A k hk 1 (by omega)
      exact ⟨g, rfl, grow_at hr h0, grow_at hr h1⟩
  have HK1 := hid hK
  have HFS := hid (fun k hk => filter_succ A (fun n => bytesBefore af n) k hk)
  have HZ : Hid (A.take A.length = A) := List.take_length
  have HEND : Hid (∀ L, L = A.filter (fun x => bytesBefore af x.1) → L.length ≤ askN most → (A.filter (fun x => bytesBefore af x.1)).take (askN most) = L ∧ decide (((A.filter (fun x => bytesBefore af x.1)).take (askN most)).length < (A.filter (fun x => bytesBefore af x.1)).length) = false) := fun L e h => by
    subst e
    rw [List.take_of_length_le h]
    exact ⟨rfl, decide_eq_false (by omega)⟩
  have HCUT : Hid (∀ k (hk : k < A.length), ((A.take k).filter (fun x => bytesBefore af x.1)).length ≤ askN most → most ≤ (((A.take k).filter (fun x => bytesBefore af x.1)).length : Int) → bytesBefore af A[k].1 = true → (A.filter (fun x => bytesBefore af x.1)).take (askN most) = (A.take k).filter (fun x => bytesBefore af x.1) ∧ decide (((A.filter (fun x => bytesBefore af x.1)).take (askN most)).length < (A.filter (fun x => bytesBefore af x.1)).length) = true) := fun k hk h1 h2 h3 => by
    have e : A.filter (fun x => bytesBefore af x.1) = (A.take k).filter (fun x => bytesBefore af x.1) ++ (A.drop k).filter (fun x => bytesBefore af x.1) := by
      rw [← List.filter_append, List.take_append_drop]
    have e2 : askN most = ((A.take k).filter (fun x => bytesBefore af x.1)).length := by unfold askN at h1 ⊢; omega
    have e3 : 0 < ((A.drop k).filter (fun x => bytesBefore af x.1)).length := by
      rw [List.drop_eq_getElem_cons hk, List.filter_cons, if_pos h3]
      simp
    rw [e, e2, List.take_left' rfl]
    exact ⟨rfl, decide_eq_true (by rw [List.length_append]; omega)⟩
  have HR0 : Hid (w1.ownsRow w1.heap.size 38 2 (.slice none 0 0) 0 (itC ((A.take 0).filter fun x => bytesBefore af x.1))) := nil_row
  have hAl := HA.out
  clear IT hI hR hK
  go_wp2
  go_loopw [13, 14] (fun o i wr => ∃ (k : Nat) (L : List It), k ≤ A.length ∧ i = .int .i64 k ∧ (∃ ad cp, o = .slice ad L.length cp) ∧ Hid (L = (A.take k).filter fun x => bytesBefore af x.1) ∧ Hid (L.length ≤ askN most) ∧ Hid (L.length ≤ k) ∧ Hid (wr.ownsRow w1.heap.size 38 2 o L.length (itC L)) ∧ Hid (Keep (fun _ => False) w1 wr)) (fun _ i _ => A.length - (intOf i).toNat)
  case atStart => exact ⟨0, [], by omega, rfl, ⟨none, 0, rfl⟩, rfl, Nat.zero_le _, Nat.zero_le _, HR0, Keep.refl _ _⟩
  case round =>
    clear HR0
    obtain ⟨k, L, hk, rfl, ⟨ad1, cp1, rfl⟩, HEQ, HLA, HLK, HR, HK⟩ := hrel
    by_cases hlt : k < A.length
    · have hk0 : (0 : Int) ≤ (k : Int) := by omega
      have hk1 : (k : Int) < (A.length : Int) := by omega
      obtain ⟨g, e1, c0, c1⟩ := HC.out k hlt wr HK.out
      subst e1
      have hle := HLE.out A[k].1
      have HF := hid (HFS.out k hlt)
      have HCT := hid (HCUT.out k hlt)
      clear HC HLE HFS HCUT HEND HZ
      cases hq : bytesBefore af A[k].1 with
      | false =>
        have HEQ2 : Hid (L = (A.take (k + 1)).filter fun x => bytesBefore af x.1) := by show _ = _; rw [HF.out, hq, HEQ.out]; simp
        have HLK2 : Hid (L.length ≤ k + 1) := Nat.le_succ_of_le HLK.out
        rw [hq] at hle
        clear HF HCT HEQ HLK hq
        generalize tb A[k].1 = NN at *
        go_wp2
        exact ⟨⟨k + 1, L, by omega, by go_num, ⟨_, _, rfl⟩, HEQ2, HLA, HLK2, HR, HK⟩, by simp [intOf]; omega⟩
      | true =>
        rw [hq] at hle
        by_cases hm : most ≤ (L.length : Int)
        · obtain ⟨h1, h2⟩ := HCT.out (by rw [← HEQ.out]; exact HLA.out) (by rw [← HEQ.out]; exact hm) hq
          rw [← HEQ.out] at h1
          have HFIN : Hid (∃ (S : List It) (u : Value), Ending.returned (.tuple #[.slice ad1 L.length cp1, .bool true]) = .returned (.tuple #[u, .bool (decide ((S.take (askN most)).length < S.length))]) ∧ Its p d ks (fun n => bytesBefore af n) S ∧ wr.ownsRow w.heap.size 38 2 u (S.take (askN most)).length (itC (S.take (askN most))) ∧ Keep (fun _ => False) w wr) := by
            refine ⟨_, .slice ad1 L.length cp1, ?_, HI.out, ?_, HK1.out.trans HK.out⟩
            · rw [h2]
            · rw [h1]; exact ownsRow_base HR.out HK1.out.size
          clear HF HCT HEQ HLK hq h1 h2 HLA HR HK HI HK1
          generalize tb A[k].1 = NN at *
          go_wp2
          go_ret2
          exact HFIN.out
        · have hmd : decide (most ≤ (L.length : Int)) = false := decide_eq_false hm
          have HEQ2 : Hid (L ++ [A[k]] = (A.take (k + 1)).filter fun x => bytesBefore af x.1) := by show _ = _; rw [HF.out, hq, HEQ.out]; simp
          have HLA2 : Hid ((L ++ [A[k]]).length ≤ askN most) := by show _ ≤ _; rw [List.length_append]; unfold askN; simp; omega
          have HLK2 : Hid ((L ++ [A[k]]).length ≤ k + 1) := by have := HLK.out; show _ ≤ _; rw [List.length_append]; simp; omega
          have HAK : Hid (A[k] = (A[k].1, A[k].2)) := rfl
          generalize hAk : A[k] = y at *
          obtain ⟨N, F⟩ := y
          simp only at c0 c1 hle
          have k2 := keep_alloc (fun _ => False) wr (.cells #[.string (tb N), .bool F] 38)
          have HR2 := hid (k2.ownsRow HR.out (fun _ _ h => h))
          have HX2 : Hid (GSrc (wr.alloc (.cells #[.string (tb N), .bool F] 38)) (.slice (some ⟨wr.heap.size, 0, none⟩) 1 1) 1 (itC1 (N, F))) := gsrc_block (cs := itC1 (N, F)) (heap_alloc_new _ _)
          have HS2 : Hid (w1.heap.size ≤ (wr.alloc (.cells #[.string (tb N), .bool F] 38)).heap.size) := Nat.le_trans HK.out.size k2.size
          have HO := hid (itC1_one (N, F))
          have N1 : Hid (L.length + 1 ≤ 70368744177) := by have := HLK.out; have := HA.out; show _ ≤ _; omega
          have N2 : Hid ((L.length + 1) * 24 ≤ 140737488355328) := by have := HLK.out; have := HA.out; show _ ≤ _; omega
          have FIN : Hid (∀ ad' cap' w', w'.ownsRow w1.heap.size 38 2 (.slice ad' (L.length + 1) cap') (L.length + 1) (itC L ++ itC1 (N, F)) → Keep (fun j => (Value.slice ad1 L.length cp1).ownBlock = some j) (wr.alloc (.cells #[.string (tb N), .bool F] 38)) w' → Hid (w'.ownsRow w1.heap.size 38 2 (.slice ad' (L.length + 1) cap') (L ++ [(N, F)]).length (itC (L ++ [(N, F)]))) ∧ Hid (Keep (fun _ => False) w1 w')) := fun ad' cap' w' hr hk' => by
            refine ⟨?_, (HK.out.trans k2).then hk' (fun j hj e => by have := ownsRow_ge HR.out e; omega)⟩
            show World.ownsRow _ _ _ _ _ _ _
            rw [itC_app, List.length_append]; exact hr
          clear HF HCT HEQ HLK hq k2 HR HK HI hm hAk HAK HLA
          generalize tb N = NN at *
          go_wp2_with (at_builtin; refine wpl_gapp rfl _ _ elR rfl w1.heap.size (.slice ad1 L.length cp1) _ (itC L) (itC1 (N, F)) L.length 1 (L.length + 1) rfl rfl rfl HR2.out HS2.out HX2.out rfl HO.out N1.out N2.out ?_; intro ad2 cap2 w8 hr8 hk8)
          obtain ⟨HR8, HK8⟩ := FIN.out ad2 cap2 w8 hr8 hk8
          clear hr8 hk8 FIN HR2 HS2 HX2 HO N1 N2
          go_wp2
          exact ⟨⟨k + 1, L ++ [(N, F)], by omega, by go_num, ⟨ad2, cap2, by rw [List.length_append]; rfl⟩, HEQ2, HLA2, HLK2, HR8, HK8⟩, by simp [intOf]; omega⟩
    · have hd : decide ((k : Int) < (A.length : Int)) = false := decide_eq_false (by omega)
      have hke : k = A.length := by omega
      obtain ⟨h1, h2⟩ := HEND.out L (by rw [HEQ.out, hke, HZ.out]) HLA.out
      have HFIN : Hid (∃ (S : List It) (u : Value), Ending.returned (.tuple #[.slice ad1 L.length cp1, .bool false]) = .returned (.tuple #[u, .bool (decide ((S.take (askN most)).length < S.length))]) ∧ Its p d ks (fun n => bytesBefore af n) S ∧ wr.ownsRow w.heap.size 38 2 u (S.take (askN most)).length (itC (S.take (askN most))) ∧ Keep (fun _ => False) w wr) := by
        refine ⟨_, .slice ad1 L.length cp1, ?_, HI.out, ?_, HK1.out.trans HK.out⟩
        · rw [h2]
        · rw [h1]; exact ownsRow_base HR.out HK1.out.size
      clear HC HLE HFS HCUT HEND HZ HEQ HLA HLK HR HK HI HK1 hke h1 h2
      go_wp2
      go_ret2
      exact HFIN.out
end Go.Proofs.Ytimdnddplhkdlaa
