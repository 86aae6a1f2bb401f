/- Joined: A row of numbers: made, copied into, sorted. How far a majority is: the program's walk. How far a majority is: the middle one of a sorted list is the greatest that a majority has reached. The small run of layer 9: awake answers true. A row of numbers that grows by append; two lists held against one another. How far a majority is: the reference's walk. A configuration with a node more, in order: sorting gives the document's list. A configuration with a node more, and with one less: the program's walks and the reference's. -/
import Derived.Test.YtnldjcoajliciaaGreatJoined11
import Derived.Test.YtnldjcoajliciaaGreatLaid
import Derived.Lib.SortBridge
import Derived.Laws.CopyRow
import Derived.Laws.MakeOwn
import Derived.Test.YtnldjcoajliciaaGreatJoined04
namespace Go.Proofs.YtnldjcoajliciaaGreat
open Go.RowKit Go.Maps Go.Sort Go.Shelf
set_option linter.unusedVariables false
set_option linter.unusedSimpArgs false

def srt (l : List Int) : List Int := l.mergeSort fun x y => decide (x ≤ y)
theorem srt_len (l : List Int) : (srt l).length = l.length := List.length_mergeSort l
theorem sortI_any (g cap : Nat) (t : TypeId) (zs : List Int) (w : World) (hr : RowIs w g (isC zs) t) (hl : zs.length < 4611686018427387904) :
    Calls Tryz.prog 85 #[.slice (some ⟨g, 0, none⟩) zs.length cap] w fun e w' => e = .returned (.tuple #[]) ∧ (∀ j (hj : j < (srt zs).length), w'.cell? ⟨g, j, none⟩ = some (.int .i64 (srt zs)[j])) ∧ Keep (· = g) w w' := by
  have hH : Holds (Value.int .i64) w g 0 zs.toArray := fun j hj => by
    have hj' : j < zs.length := by simpa using hj
    refine ⟨?_, hr.frozen⟩
    rw [Nat.zero_add, hr.cellAt (isC_get zs j hj')]
    simp [hj']
  refine (AnyM.slices_Sort_int sortILaid g 0 cap zs w hH hr.lt hl).mono fun e w' ⟨he, n, os, hw⟩ => ⟨he, ?_, ?_⟩
  · rw [hw]
    have hsz : (zs.mergeSort fun x y => decide (x ≤ y)).toArray.size = zs.toArray.size := by simp
    have h1 := holds_putRow (Value.int .i64) (Sort.ahead w n) g 0 zs.toArray (zs.mergeSort fun x y => decide (x ≤ y)).toArray (holds_ahead _ _ _ _ _ _ hH) hsz
    have h2 := holds_grow (Value.int .i64) _ os g 0 _ (by simp; exact hr.lt) h1
    intro j hj
    have := (h2 j (by simpa [srt] using hj)).1
    rw [Nat.zero_add] at this
    rw [this]
    have hj2 : j < (zs.mergeSort fun x y => decide (x ≤ y)).length := hj
    simp only [List.getElem!_toArray, getElem!_pos (zs.mergeSort fun x y => decide (x ≤ y)) j hj2]
    rfl
  · rw [hw]
    refine ⟨rfl, rfl, rfl, by simp, fun k hk hn => ?_⟩
    rw [heap_grow_old _ _ (by simp; exact hk)]
    simp [putRow, mapBlock, Array.getElem?_modify, Ne.symm hn]
theorem madeI (n : Nat) (hn : n ≤ 1000000) (W : World) : (Instr.makeSlice 26 (.int .i64 (n : Int)) (.int .i64 (n : Int))).run Tryz.prog W = .ok (.slice (some ⟨W.heap.size, 0, none⟩) n n) (W.alloc (.cells (isC (List.replicate n 0)).toArray 3)) := by
  obtain ⟨i0, hi, hz0, hz1, hz2⟩ := info_parts info3
  have h := run_make (P := Tryz.prog) W 26 3 i0 (.int .i64 0) Tryz.underlying26 hi hz0 .i64 .i64 (n : Int) (n : Int) (by omega) (by omega) (by rw [hz2]; omega) (by omega)
  rw [h, hz1]
  have e : madeCells (Value.int .i64 0).cells ((n : Int).toNat * 1) = (isC (List.replicate n 0)).toArray := by
    rw [Int.toNat_natCast, Nat.mul_one]
    apply Array.ext
    · simp [madeCells, isC]
    · intro k h1 h2
      simp [madeCells, isC, Value.cells, Nat.mod_one]
  rw [e, Int.toNat_natCast]
/-- the first n numbers of l, then those of o -/
def pad (l o : List Int) : List Int := l.take o.length ++ o.drop (min l.length o.length)
theorem pad_len (l o : List Int) : (pad l o).length = o.length := by simp [pad]; omega
theorem pad_get (l o : List Int) (k : Nat) : (pad l o).getD k 0 = if k < o.length then (if k < l.length then l.getD k 0 else o.getD k 0) else 0 := by
  simp only [pad, List.getD_eq_getElem?_getD, List.getElem?_append, List.getElem?_take, List.getElem?_drop, List.length_take]
  by_cases h1 : k < o.length
  · by_cases h2 : k < l.length
    · have e2 : k < min o.length l.length := by omega
      simp [h1, h2, e2]
    · have e : min l.length o.length + (k - min o.length l.length) = k := by omega
      have e2 : ¬ k < min o.length l.length := by omega
      simp only [e2, e, h1, h2, if_true, if_false]
  · have e : o[min l.length o.length + (k - min o.length l.length)]? = none := List.getElem?_eq_none (by omega)
    rw [if_neg (by omega : ¬ k < min o.length l.length), e, if_neg h1]
    rfl
theorem copyI (g n cap : Nat) (t : TypeId) (v : Value) (l o : List Int) (W : World) (hr : RowIs W g (isC o) t) (hn : n = o.length) (hv : IntsI W v l) (ty : TypeId) :
    ∃ q, (Builtin.copy_ #[26, 26] ty #[.slice (some ⟨g, 0, none⟩) n cap, v]).run Tryz.prog W = .ok (goInt q) (W.setRow g (isC (pad l o)).toArray) := by
  subst hn
  have hinf : (Tryz.prog.info? 3).map (·.size) = some 1 := by obtain ⟨i0, hi, hz0, hz1, hz2⟩ := info_parts info3; rw [hi]; simp [hz1]
  rcases hv with ⟨ad, c, rfl, rfl⟩ | ⟨b, off, c, rfl, hb, hc⟩
  · refine ⟨0, ?_⟩
    have hp : pad [] o = o := by simp [pad]
    rw [hp, setRow_self _ _ _ _ _ hr]
    cases hq : Tryz.prog.info? 3 with
    | none => simp [hq] at hinf
    | some i => cases ad <;> simp [Builtin.copy_, run_underlying Tryz.underlying26, Builtin.lenOf, Builtin.firstCells, sizeOf, typeInfo, hq, storeCells, loadCells, loadCellsFrom]
  · refine ⟨(Nat.min l.length o.length : Nat), ?_⟩
    have hcs : (isC (l.take o.length)).length = Nat.min l.length o.length := by rw [isC_len, List.length_take]; exact Nat.min_comm _ _
    have := run_copy_row Tryz.prog W 26 26 ty 3 g 0 o.length cap ⟨b, off, none⟩ l.length c (isC o).toArray t (isC (l.take o.length)) Tryz.underlying26 hinf hr hcs
      (fun j u hu => by
        have hj := (List.getElem?_eq_some_iff.1 hu).1
        rw [isC_len, List.length_take] at hj
        rw [isC_get _ j (by rw [List.length_take]; exact hj)] at hu
        rw [Addr.add_lit, hc j (by omega), ← hu, List.getElem_take])
      (by rw [hcs]; simp [isC]; exact Nat.min_le_right _ _) (fun u hu => by obtain ⟨x, _, rfl⟩ := List.mem_map.1 hu; rfl)
    rw [this, hcs]
    have e : (isC o).toArray.toList.take 0 ++ isC (l.take o.length) ++ (isC o).toArray.toList.drop (0 + Nat.min l.length o.length) = isC (pad l o) := by
      rw [List.take_zero, List.nil_append, Nat.zero_add]
      unfold pad isC
      rw [List.map_append, List.map_drop]
    rw [e]
end Go.Proofs.YtnldjcoajliciaaGreat
namespace Go.Proofs.YtnldjcoajliciaaGreat
open Go.RowKit Go.Maps
set_option linter.unusedVariables false
set_option linter.unusedSimpArgs false

def vAt (o : List Int) (x : Int) : Int := o.getD x.toNat 0
def rchC (l o : List Int) : Int := if areM l = true then (srt (l.map (vAt o))).getD (l.length - majC l) 0 else 0
set_option maxRecDepth 100000 in
set_option maxHeartbeats 1000000 in
theorem creached_any (v v2 : Value) (l o : List Int) (w : World) (hv : IntsI w v l) (hv2 : IntsI w v2 o) (hl : l.length ≤ 9223372036854775807) : Calls Tryz.prog 75 #[v, v2] w fun e w' => e = .returned (.int .i64 (rchC l o)) ∧ Below w.heap.size w w' := by
  have C := hid (ccheck_any v l w hv hl)
  obtain ⟨ad, cap, rfl, hc⟩ := hv.form
  obtain ⟨ad2, cap2, rfl, _⟩ := hv2.form
  have HK : Hid (chkC l = if areM l = true then 0 else 70) := rfl
  generalize chkC l = K at *
  cases hA : areM l
  · have HR : Hid (rchC l o = 0) := by show (if areM l = true then _ else _) = _; rw [hA]; rfl
    have hk : K = 70 := by rw [HK.out, hA]; rfl
    subst hk
    generalize rchC l o = R at *
    clear HK hc hv hv2 hA hl
    go_enter Tryz.func75, Tryz.ntmps75
    go_wp2_with fail
    refine C.out.mono ?_
    rintro e w1 ⟨rfl, rfl⟩
    go_wp2
    go_ret
    rw [HR.out]
    exact ⟨rfl, Below.refl _ _⟩
  · have hk : K = 0 := by rw [HK.out, hA]; rfl
    subst hk
    have hl7 := areM_len hA
    have hbd := areM_bd hA
    have HR : Hid (rchC l o = (srt (l.map (vAt o))).getD (l.length - majC l) 0) := by show (if areM l = true then _ else _) = _; rw [if_pos hA]
    have hmj : majC l = l.length / 2 + 1 := by unfold majC; rw [if_pos hA]
    have MJ : Hid (∀ W, Below w.heap.size w W → Calls Tryz.prog 86 #[.slice ad l.length cap] W fun e w' => e = .returned (.int .i64 (majC l : Nat)) ∧ w' = W) := fun W hW => cmaj_any _ l W (hv.next hW) hl
    generalize rchC l o = R at *
    have hr0 : RowIs (w.alloc (.cells #[.int .i64 0, .int .i64 0, .int .i64 0, .int .i64 0, .int .i64 0, .int .i64 0, .int .i64 0] 102)) w.heap.size (isC (List.replicate 7 0)) 102 := srow w (isC (List.replicate 7 0)) 102
    have kA : Below w.heap.size w (w.alloc (.cells #[.int .i64 0, .int .i64 0, .int .i64 0, .int .i64 0, .int .i64 0, .int .i64 0, .int .i64 0] 102)) := (Below.refl _ _).alloc (Nat.le_refl _) _
    obtain ⟨q, hcp⟩ := copyI w.heap.size 7 7 102 _ o (List.replicate 7 0) _ hr0 (by simp) (hv2.next kA) 3
    have hpg : ∀ m : Nat, m < 7 → (isC (pad o (List.replicate 7 0)))[m]? = some (.int .i64 (vAt o (m : Int))) := fun m hm => by
      rw [isC_get _ m (by rw [pad_len]; simpa using hm)]
      have h1 := pad_get o (List.replicate 7 0) m
      rw [List.length_replicate, if_pos hm, List.getD_eq_getElem?_getD, List.getElem?_eq_getElem (by rw [pad_len]; simpa using hm)] at h1
      simp only [Option.getD_some] at h1
      rw [h1]
      unfold vAt
      rw [Int.toNat_natCast]
      split
      · rfl
      · rename_i h2
        rw [List.getD_eq_getElem?_getD, List.getD_eq_getElem?_getD, List.getElem?_eq_none (by omega : o.length ≤ m)]
        simp only [List.getElem?_replicate, if_pos hm]
        rfl
    obtain ⟨P7, hP7⟩ : ∃ P7, P7 = isC (pad o (List.replicate 7 0)) := ⟨_, rfl⟩
    rw [← hP7] at hcp hpg
    have hr1 : RowIs ((w.alloc (.cells #[.int .i64 0, .int .i64 0, .int .i64 0, .int .i64 0, .int .i64 0, .int .i64 0, .int .i64 0] 102)).setRow w.heap.size P7.toArray) w.heap.size P7 102 := setRow_heap _ _ _ _ _ (0, 0) hr0
    have kB : Below w.heap.size w ((w.alloc (.cells #[.int .i64 0, .int .i64 0, .int .i64 0, .int .i64 0, .int .i64 0, .int .i64 0, .int .i64 0] 102)).setRow w.heap.size P7.toArray) := kA.trans ⟨rfl, rfl, rfl, by simp, fun k hk => setRow_other _ _ _ _ (by omega)⟩
    generalize (w.alloc (.cells #[.int .i64 0, .int .i64 0, .int .i64 0, .int .i64 0, .int .i64 0, .int .i64 0, .int .i64 0] 102)).setRow w.heap.size P7.toArray = W2 at *
    have hmk := fun W => madeI l.length (by omega) W
    have hr2 := srow W2 (isC (List.replicate l.length 0)) 3
    have kC : Below w.heap.size w (W2.alloc (.cells (isC (List.replicate l.length 0)).toArray 3)) := kB.alloc kB.size _
    have hr3 : RowIs (W2.alloc (.cells (isC (List.replicate l.length 0)).toArray 3)) w.heap.size P7 102 := hr1.keep (keep_alloc (fun _ => False) _ _) (fun h => h)
    have hgh : w.heap.size < W2.heap.size := hr1.lt
    have S0 : Hid (RowIs (W2.alloc (.cells (isC (List.replicate l.length 0)).toArray 3)) W2.heap.size (isC ((l.take 0).map (vAt o) ++ List.replicate (l.length - 0) 0)) 3 ∧ RowIs (W2.alloc (.cells (isC (List.replicate l.length 0)).toArray 3)) w.heap.size P7 102 ∧ Below w.heap.size w (W2.alloc (.cells (isC (List.replicate l.length 0)).toArray 3))) := ⟨by simpa using hr2, hr3, kC⟩
    have hmk2 := hmk W2
    have HGH := hid hgh
    have HC := hid hc
    have HV := hid hv
    have HBD := hid hbd
    have HP := hid hpg
    have HMJ := hid hmj
    have HL7 := hid hl7
    clear hmk hr2 hr3 kC hr1 kB kA hr0 hgh HK hc hv hv2 hbd hpg hP7 hmj hl7 hA hl
    generalize (isC (List.replicate l.length 0)).toArray = MM at *
    go_enter Tryz.func75, Tryz.ntmps75
    go_wp2_with fail
    refine C.out.mono ?_
    rintro e w1 ⟨rfl, rfl⟩
    clear C
    go_wp2
    clear hcp hmk2
    go_loopw [19] (fun i wr => ∃ k : Nat, k ≤ l.length ∧ i = .int .i64 (k : Int) ∧ Hid (RowIs wr W2.heap.size (isC ((l.take k).map (vAt o) ++ List.replicate (l.length - k) 0)) 3 ∧ RowIs wr w1.heap.size P7 102 ∧ Below w1.heap.size w1 wr)) (fun i _ => l.length - (intOf i).toNat)
    case atStart => exact ⟨0, Nat.zero_le _, rfl, S0⟩
    case round =>
      clear S0
      obtain ⟨k, hk, rfl, HS⟩ := hrel
      by_cases hlt : k < l.length
      · have hk0 : (0 : Int) ≤ (k : Int) := by omega
        have hk1 : (k : Int) < (l.length : Int) := by omega
        have hk7 : k < 7 := by have := HL7.out; omega
        obtain ⟨b, off, rfl, hb, hc⟩ := HC.out k hlt
        have hc1 := (HS.out.2.2.cell (p := ⟨b, off + k, none⟩) hb).trans hc
        obtain ⟨y0, y7⟩ := HBD.out l[k] (List.getElem_mem hlt)
        have HTK : Hid ((l.take (k + 1)).map (vAt o) ++ List.replicate (l.length - (k + 1)) 0 = ((l.take k).map (vAt o) ++ List.replicate (l.length - k) 0).set k (vAt o l[k])) := by
          show _ = _
          have hlen : ((l.take k).map (vAt o)).length = k := by simp; omega
          rw [List.set_append_right _ _ (by omega), hlen, Nat.sub_self, List.take_succ_eq_append_getElem hlt, List.map_append, List.append_assoc]
          congr 1
          rw [show l.length - k = (l.length - (k + 1)) + 1 by omega, List.replicate_succ]
          rfl
        generalize l[k] = y at *
        obtain ⟨m, rfl⟩ : ∃ m : Nat, y = (m : Int) := ⟨y.toNat, by omega⟩
        have hm0 : (0 : Int) ≤ (m : Int) := by omega
        have hm7 : m < 7 := by omega
        have hcm := HS.out.2.1.cellAt (HP.out m hm7)
        have hck : ∃ u, wr.cell? ⟨W2.heap.size, k, none⟩ = some u := by
          refine ⟨_, HS.out.1.cellAt (isC_get _ k ?_)⟩
          simp; omega
        obtain ⟨u, hck⟩ := hck
        have hfk : wr.frozen? ⟨W2.heap.size, k, none⟩ = false := HS.out.1.frozen
        have HS2 : Hid (RowIs (wr.setCell ⟨W2.heap.size, k, none⟩ (.int .i64 (vAt o (m : Int)))) W2.heap.size (isC ((l.take (k + 1)).map (vAt o) ++ List.replicate (l.length - (k + 1)) 0)) 3 ∧ RowIs (wr.setCell ⟨W2.heap.size, k, none⟩ (.int .i64 (vAt o (m : Int)))) w1.heap.size P7 102 ∧ Below w1.heap.size w1 (wr.setCell ⟨W2.heap.size, k, none⟩ (.int .i64 (vAt o (m : Int))))) := by
          refine ⟨?_, HS.out.2.1.keep (keep_setCell _ _ _ _) (by have := HGH.out; omega), HS.out.2.2.trans ((keep_below (keep_setCell _ _ _ _) (fun j hj => by have := HGH.out; omega) HS.out.2.2.size))⟩
          rw [HTK.out, ← isC_set]
          exact HS.out.1.set k _
        generalize vAt o (m : Int) = X at *
        clear HS HTK HBD HC HP HGH HV HMJ HL7 hb hc y0 y7 MJ HR
        go_wp2
        exact ⟨⟨k + 1, by omega, by go_num, HS2⟩, by simp [intOf]; omega⟩
      · have hk9 : k = l.length := by omega
        subst hk9
        have hdl : decide ((l.length : Int) < (l.length : Int)) = false := decide_eq_false (by omega)
        obtain ⟨s1, s2, s3⟩ := HS.out
        rw [List.take_length, Nat.sub_self, List.replicate_zero, List.append_nil] at s1
        have h7 := HL7.out
        have hmj := HMJ.out
        have SO := sortI_any W2.heap.size l.length 3 (l.map (vAt o)) wr s1 (by rw [List.length_map]; omega)
        rw [List.length_map] at SO
        have SO := hid SO
        have H3 := hid s3
        have hqi : wrap64 ((l.length : Int) - ((majC l : Nat) : Int)) = ((l.length - majC l : Nat) : Int) := by rw [IntWalk.wrap64_in _ (by omega)]; omega
        have HQ : Hid (l.length - majC l < (srt (l.map (vAt o))).length) := by show _ < _; rw [srt_len, List.length_map]; omega
        have hq0 : (0 : Int) ≤ ((l.length - majC l : Nat) : Int) := by omega
        have hq1 : ((l.length - majC l : Nat) : Int) < (l.length : Int) := by omega
        have HGH2 : Hid (¬ w1.heap.size = W2.heap.size ∧ ∀ j, j < w1.heap.size → ¬ j = W2.heap.size) := by have := HGH.out; exact ⟨by omega, fun j hj => by omega⟩
        clear s1 s2 s3 HS h7 hmj HBD HC HP HGH HV HMJ HL7 hk hlt
        generalize l.length - majC l = qi at *
        generalize majC l = mj at *
        go_wp2_with fail
        refine SO.out.mono ?_
        rintro e w2 ⟨rfl, h1, h2⟩
        have H5 : Hid (Below w1.heap.size w1 w2) := H3.out.trans (keep_below h2 HGH2.out.2 H3.out.size)
        have hcq := h1 qi HQ.out
        have HX : Hid (R = (srt (l.map (vAt o)))[qi]'HQ.out) := by show _ = _; rw [HR.out, List.getD_eq_getElem?_getD, List.getElem?_eq_getElem HQ.out]; rfl
        generalize (srt (l.map (vAt o)))[qi]'HQ.out = X at *
        clear h1 h2 SO HR H3
        have M1 := hid (MJ.out w2 H5.out)
        clear MJ
        go_wp2_with fail
        refine M1.out.mono ?_
        rintro e w3 ⟨rfl, rfl⟩
        go_wp2
        go_ret
        rw [HX.out]
        exact ⟨rfl, H5.out⟩
end Go.Proofs.YtnldjcoajliciaaGreat
namespace Go.Proofs.YtnldjcoajliciaaGreat
open Go.RowKit Go.Maps
set_option linter.unusedVariables false
set_option linter.unusedSimpArgs false

end Go.Proofs.YtnldjcoajliciaaGreat
namespace Go.Proofs.YtnldjcoajliciaaGreat
open Go.RowKit Go.Maps
set_option linter.unusedVariables false
set_option linter.unusedSimpArgs false

end Go.Proofs.YtnldjcoajliciaaGreat
namespace Go.Proofs.YtnldjcoajliciaaGreat
open Go.RowKit Go.Maps
set_option linter.unusedVariables false
set_option linter.unusedSimpArgs false

end Go.Proofs.YtnldjcoajliciaaGreat
namespace Go.Proofs.YtnldjcoajliciaaGreat
open Go.RowKit Go.Maps
set_option linter.unusedVariables false
set_option linter.unusedSimpArgs false

end Go.Proofs.YtnldjcoajliciaaGreat
namespace Go.Proofs.YtnldjcoajliciaaGreat
open Go.RowKit Go.Maps
set_option linter.unusedVariables false
set_option linter.unusedSimpArgs false

end Go.Proofs.YtnldjcoajliciaaGreat
namespace Go.Proofs.YtnldjcoajliciaaGreat
open Go.RowKit Go.Maps
set_option linter.unusedVariables false
set_option linter.unusedSimpArgs false

/-- what a call that answers a list and an error comes to -/
def GivesI (w : World) (l : List Int) (x : Int) (e : Ending) (w' : World) : Prop := ∃ v, e = .returned (.tuple #[v, .int .i64 x]) ∧ IntsI w' v l ∧ Below w.heap.size w w' ∧ (∀ b, v.ownBlock = some b → w.heap.size ≤ b)
theorem gives_none {w w' : World} (x : Int) (h : Below w.heap.size w w') : GivesI w [] x (.returned (.tuple #[.slice none 0 0, .int .i64 x])) w' := ⟨_, rfl, ints_none _, h, fun b hb => by simp [Value.ownBlock] at hb⟩
theorem gives_own {w w' : World} {v : Value} {l : List Int} (x : Int) (ho : OwnI w' w.heap.size v l) (h : Below w.heap.size w w') : GivesI w l x (.returned (.tuple #[v, .int .i64 x])) w' := ⟨_, rfl, ho.ints, h, fun b hb => ownsRow_ge ho hb⟩

end Go.Proofs.YtnldjcoajliciaaGreat
