/- Joined: A map's keys, sorted: what the library's contracts say at this program. The walks of the laws' own reading of all files, and of their being the same. The walk of two lists of files that are the same; and of a call as an act says. What becomes of a disk in the law DiskRoom; nothing of the program stands here. The walk of the law DiskRoom. A disk that some acts have changed, without falls and a room; nothing of the program stands here. What becomes of a disk in the law DiskSynced; nothing of the program stands here. The walk of 'changed'. The walk of the law DiskSynced. The walk of the law DiskSynced, its body. A slice of all files as they stood, beside a disk that goes on. The reference's Find. What Find's place is good for; nothing of the program stands here. The reference's without. 'append(out, l[a:b]...)' on rows of files. -/
import Derived.Test.YtedogofeibdjiaaGreatLaid
import Derived.Test.YtedogofeibdjiaaGreatJoined10
import Derived.Sort.KeysCollected
import Derived.BigQuiet
namespace Go.Proofs.YtedogofeibdjiaaGreat
open Go.RowKit Go.Maps Go.Sort Go.Shelf
set_option linter.unusedVariables false

theorem sortsAt (m : Nat) : AnyZ.SortsIn Tryz.prog sortedLaid_ren Fence.wide m :=
  ⟨fun blk off cap ss W hH hblk hsz => callsIn_wide.2 (AnyM.slices_Sort_string sortLaid blk off cap ss W hH hblk hsz), fun p cap W => callsIn_wide.2 (AnyM.slices_Sort_string_none sortLaid p cap W)⟩

theorem keysC : KeysC := fun mb W => callsIn_wide.1 (AnyZ.keys_in keysLaid Fence.wide 5 trivial rfl mb W)

theorem bef_lt : ∀ (a b : List UInt8), bytesBefore a b = true → a < b
  | [], [], h => by simp [bytesBefore] at h
  | [], _ :: _, _ => by simp
  | _ :: _, [], h => by simp [bytesBefore] at h
  | x :: r, y :: s, h => by
    simp [bytesBefore] at h
    rcases h with h | ⟨rfl, h⟩
    · exact List.Lex.rel h
    · exact List.Lex.cons (bef_lt r s h)
theorem srt_le {L : List (Bs × Value)} (h : Srt L) : (L.map (·.1)).mergeSort (fun x y => decide (x ≤ y)) = L.map (·.1) := by
  refine List.mergeSort_of_pairwise ?_
  rw [List.pairwise_map]
  refine h.imp fun {x y} hb => ?_
  simp
  have := bef_lt x.1 y.1 hb
  exact List.le_of_lt this
theorem strKeys_mp (L : List (Bs × Value)) : strKeys (mp L) = L.map (·.1) := by
  unfold mp strKeys
  simp [strOf]

set_option maxHeartbeats 1000000 in
theorem sortedC : SortedC := by
  intro mo L w hm hs hl
  rcases hm with ⟨rfl, rfl⟩ | ⟨b, rfl, hown⟩
  · have hseq : SeqGives Fence.wide 2 Tryz.prog 104 #[.pointer (some ⟨w.heap.size, 0, none⟩)] encStr (fun ss : List (List UInt8) => ss = []) 0 (w.alloc (.cells #[.map none] 63)) :=
      AnyZ.keys_gives_nil (ρ := keysLaid_ren) { keysLaid with } Fence.wide _ trivial rfl w.heap.size _ (by simp) (by simp)
    have h := AnyZ.sorted_in sortedLaid Fence.wide 5 trivial trivial trivial trivial rfl (by omega) (sortsAt _) (enters_of Tryz.func103 (by kernel_rfl) rfl) 104 #[.pointer (some ⟨w.heap.size, 0, none⟩)] trivial (enters_of Tryz.func104 (by kernel_rfl) rfl) _ 0 (Nat.zero_le _) (by omega) _ hseq
    refine (callsIn_wide.1 h).mono fun e w' ⟨v, ss, he, hS, hrow, hnil, hb⟩ => ⟨v, he, ?_, hb.keep _⟩
    subst hS
    have hv : v = .slice none 0 0 := hnil.2 rfl
    subst hv
    exact ⟨rfl, .inl ⟨rfl, rfl⟩⟩
  · have hbl := World.ownsMap.lt hown
    have hsz : Maps.size (mp L) = L.length := mp_size L
    have hseq : SeqGives Fence.wide 2 Tryz.prog 104 #[.pointer (some ⟨w.heap.size, 0, none⟩)] encStr (fun ss => ss.Perm (strKeys (mp L))) (Maps.size (mp L)) (w.alloc (.cells #[.map (some b)] 63)) :=
      AnyZ.keys_gives (ρ := keysLaid_ren) { keysLaid with } Fence.wide _ trivial rfl (by omega) w.heap.size b L.length (mp L) _ (by simp) (by simp) (by
        obtain ⟨es, clock, hb, Ft, hs, hD⟩ := hown
        exact ⟨es, clock, (Below.heap_alloc _ _ b hbl).trans hb, Ft, hs, hD⟩)
    have h := AnyZ.sorted_in sortedLaid Fence.wide 5 trivial trivial trivial trivial rfl (by omega) (sortsAt _) (enters_of Tryz.func103 (by kernel_rfl) rfl) 104 #[.pointer (some ⟨w.heap.size, 0, none⟩)] trivial (enters_of Tryz.func104 (by kernel_rfl) rfl) _ _ (by rw [hsz]; unfold maxLen; omega) (by rw [hsz]; omega) _ hseq
    refine (callsIn_wide.1 h).mono fun e w' ⟨v, ss, he, hS, hrow, hnil, hb⟩ => ⟨v, he, ?_, hb.keep _⟩
    have e1 : ss.mergeSort (fun x y => decide (x ≤ y)) = L.map (·.1) := (mergeSort_of_perm hS).trans (by rw [strKeys_mp]; exact srt_le hs)
    have e2 : ss.length = L.length := by have := hS.length_eq; rw [strKeys_mp] at this; simpa using this
    rw [e1, e2] at hrow
    have e3 : (w.alloc (.cells #[.map (some b)] 63)).heap.size = w.heap.size + 1 := by simp
    rw [e3] at hrow
    have e4 : (L.map (·.1)).map encStr = nmC L := by simp [nmC, encStr]
    rw [e4] at hrow
    exact hrow
end Go.Proofs.YtedogofeibdjiaaGreat
namespace Go.Proofs.YtedogofeibdjiaaGreat
open Go.RowKit Go.Maps
set_option linter.unusedVariables false
set_option linter.unusedSimpArgs false

/-- files as cells -/
def fC1 (x : Bs × Bs) : List Value := [.string (tx x.1), .string (tx x.2)]
def fC (A : List (Bs × Bs)) : List Value := A.flatMap fC1
theorem fC_get : ∀ (A : List (Bs × Bs)) (i : Nat) (h : i < A.length) (j : Nat), j < 2 → (fC A)[i * 2 + j]? = (fC1 A[i])[j]?
  | x :: r, 0, _, j, hj => by
    show (fC1 x ++ fC r)[0 * 2 + j]? = _
    rw [List.getElem?_append_left (by simp [fC1]; omega)]
    simp
  | x :: r, i + 1, h, j, hj => by
    show (fC1 x ++ fC r)[(i + 1) * 2 + j]? = _
    rw [List.getElem?_append_right (by simp [fC1]; omega), show (i + 1) * 2 + j - (fC1 x).length = i * 2 + j by simp [fC1]; omega]
    exact fC_get r i (by simpa using h) j hj
theorem fC1_cell1 (x : Bs × Bs) : ∀ u ∈ fC1 x, u.oneCell' = true := by
  intro u hu
  simp [fC1] at hu
  rcases hu with rfl | rfl <;> rfl
theorem info50 : (Tryz.prog.info? 59).map (fun i => (i.zero, i.size, i.bytes)) = some (some (.agg #[.string ⟨#[]⟩, .string ⟨#[]⟩]), 2, 32) := by kernel_rfl

/-- 'append(out, f)' at the operation -/
theorem wpl_file {w : World} {ops : Array Oper} {rest : List Oper} {o : Oper} {a : Act} {Q : Exit → Act → World → Prop} (hgd : o.guard = none) (sl x : Operand)
    (ho : o.op = .call { callee := .builtin .append, args := #[sl, x], argTypes := #[30, 30] }) (B : Nat) (v : Value) (fs : List (Bs × Bs)) (n : Nat) (hn : n = fs.length) (y : Bs × Bs) (w0 : World) (Mc : Array Value) (hMc : Mc = (fC1 y).toArray) (hw : w = w0.alloc (.cells Mc 59))
    (hs : a.eval sl = v) (hx : a.eval x = .slice (some ⟨w0.heap.size, 0, none⟩) 1 1) (h0 : w0.ownsRow B 59 2 v n (fC fs)) (hB : B ≤ w0.heap.size) (hl : n ≤ 70368744177)
    (h : ∀ ad' cap' w', w'.ownsRow B 59 2 (.slice ad' (n + 1) cap') (n + 1) (fC (fs ++ [y])) → Keep (fun k => v.ownBlock = some k) w0 w' → wpList Tryz.prog ops Q rest (a.put o.dst (.slice ad' (n + 1) cap')) w') : wpList Tryz.prog ops Q (o :: rest) a w := by
  subst hMc hw hn
  refine wpList_plain hgd fun K hK => ?_
  obtain ⟨i0, hi, hz0, hz1, hz2⟩ := info_parts info50
  have ka := keep_alloc (fun _ => False) w0 (.cells (fC1 y).toArray 59)
  obtain ⟨v', w', hr, h2, h3, h4, h5⟩ := run_append_own_at (P := Tryz.prog) (w0.alloc (.cells (fC1 y).toArray 59)) B 30 o.type 59 i0 _ 2 32 Tryz.underlying30 hi hz0 hz1 hz2 rfl (by decide) v fs.length (fC fs) (ka.ownsRow h0 (fun _ _ h => h)) ⟨w0.heap.size, 0, none⟩ 1 1 (fC1 y) rfl
    (fun j u hu => by rw [Addr.add_lit, Nat.zero_add, cell_of_row _ _ _ _ _ _ (heap_alloc_new _ _)]; simpa using hu) (fC1_cell1 y) (by unfold maxLen; omega) (by omega) (by simp; omega)
  obtain ⟨ad', cap', rfl⟩ : ∃ ad' cap', v' = .slice ad' (fs.length + 1) cap' := by
    rcases h2.2 with ⟨_, h0⟩ | ⟨g, cap, cur, e, _⟩
    · omega
    · exact ⟨_, _, e⟩
  unfold Oper.wp execOp
  simp only [ho, resolve, invoke, builtin, Sem.run_bind, Sem.run_pure, Result.andThen_ok, List.map_toArray, List.map_cons, List.map_nil, hs, hx, hr]
  exact hK _ _ (h ad' cap' w' (by rw [show fC (fs ++ [y]) = fC fs ++ fC1 y by simp [fC]]; exact h2) ((ka.mono (fun _ _ h => h.elim)).trans ⟨h3.os, h3.tape, h3.output, h3.size, fun k hk hn => h3.block k hk (fun e => hn e.symm)⟩))

/-- each name of the files that are may be one -/
def NmOk (d : Ds) : Prop := ∀ x ∈ d.now, nameOk x.1 = true

set_option maxRecDepth 100000 in
set_option maxHeartbeats 2000000 in
theorem files_any (p : Nat) (c : Nat → Nat) (d : Ds) (w : World) (h : DiskIs w c p d) (hdn : d.dn = false) (hl : d.now.length ≤ 70368744177) (hnm : NmOk d) (hs : Srt d.now) :
    Calls Tryz.prog 26 #[.pointer (some ⟨p, 0, none⟩)] w fun e w' => ∃ v, e = .returned v ∧ w'.ownsRow w.heap.size 59 2 v d.now.length (fC d.now) ∧ Keep (fun _ => False) w w' := by
  have NA := hid (names_any keysC sortedC p c d w h hdn hl (fun x hx => nameOk_len (hnm x hx)))
  have RD : Hid (∀ (k : Nat) (hk : k < d.now.length) (W : World), Keep (fun _ => False) w W → Calls Tryz.prog 18 #[.pointer (some ⟨p, 0, none⟩), .string (tx (d.now[k]).1)] W fun e w' => e = .returned (.tuple #[.string (tx (d.now[k]).2), .int .i64 0]) ∧ Keep (fun _ => False) W w') := by
    intro k hk W hW
    have hD := h.keep hW (c' := c) (fun _ _ => rfl) (fun _ _ h => h.elim)
    have := read_any p c d (d.now[k]).1 W hD
    have e : rdD d (d.now[k]).1 = ((d.now[k]).2, 0) := by
      unfold rdD
      rw [if_neg (by rw [hdn]; decide), if_neg (by rw [hnm _ (List.getElem_mem hk)]; decide), srt_mem hs (n := (d.now[k]).1) (v := (d.now[k]).2) (List.getElem_mem hk)]
    rw [e] at this
    exact this
  have HT : Hid (∀ (k : Nat) (hk : k < d.now.length), d.now.take k ++ [d.now[k]] = d.now.take (k + 1)) := fun k hk => (List.take_succ_eq_append_getElem hk).symm
  have HN : Hid (∀ (k : Nat) (hk : k < d.now.length), (nmC d.now)[k]? = some (.string (tx (d.now[k]).1))) := fun k hk => by show _ = _; simp [nmC, hk]
  clear h hdn hnm hs
  generalize d.now = A at *
  go_enter Tryz.func26, Tryz.ntmps26
  go_wp2_with fail
  refine NA.out.mono ?_
  rintro e w2 ⟨v, rfl, hr2, hk2⟩
  clear NA
  by_cases h0 : A.length = 0
  · have hv : ∃ ad cap, v = .slice ad 0 cap := by
      rcases hr2.2 with ⟨e, _⟩ | ⟨g, cap, cur, e, _⟩
      · exact ⟨none, 0, e⟩
      · exact ⟨_, cap, by rw [e, h0]⟩
    obtain ⟨ad, cap, rfl⟩ := hv
    have hA : A = [] := List.length_eq_zero_iff.1 h0
    subst hA
    have HK := hid hk2
    clear hr2 hk2 RD HT HN hl h0
    go_wp2
    go_loopw [3, 5] (fun o i wr => o = .slice none 0 0 ∧ i = .int .i64 0 ∧ wr = w2) (fun _ _ _ => 0)
    case atStart => exact ⟨rfl, rfl, rfl⟩
    case round =>
      obtain ⟨rfl, rfl, rfl⟩ := hrel
      go_wp2
      go_ret
      exact ⟨_, rfl, ⟨rfl, .inl ⟨rfl, rfl⟩⟩, HK.out⟩
  · obtain ⟨g, cap, cur, e, hg, hb, _⟩ : ∃ g cap cur, v = .slice (some ⟨g, 0, none⟩) A.length cap ∧ w.heap.size ≤ g ∧ w2.heap[g]? = some (.cells cur 9 (0, 0)) ∧ True := by
      rcases hr2.2 with ⟨_, e⟩ | ⟨g, cap, cur, e, hg, hb, _⟩
      · exact absurd e h0
      · exact ⟨g, cap, cur, e, hg, hb, trivial⟩
    subst e
    have hgl : g < w2.heap.size := (Array.getElem?_eq_some_iff.1 hb).1
    have HR2 := hid hr2
    have HK2 := hid hk2
    have HW : Hid (w.heap.size ≤ w2.heap.size) := hk2.size
    have H0 : Hid (w2.ownsRow w2.heap.size 59 2 (.slice none 0 0) 0 (fC (A.take 0))) := ⟨rfl, .inl ⟨rfl, rfl⟩⟩
    clear hr2 hk2 hb hg h0
    go_wp2
    go_loopw [3, 5] (fun o i wr => ∃ (k : Nat), k ≤ A.length ∧ i = .int .i64 k ∧ (∃ ad cp, o = .slice ad k cp) ∧ Hid (wr.ownsRow w2.heap.size 59 2 o k (fC (A.take k))) ∧ Hid (Keep (fun _ => False) w2 wr)) (fun _ i _ => A.length - (intOf i).toNat)
    case atStart => exact ⟨0, by omega, rfl, ⟨none, 0, rfl⟩, H0, Keep.refl _ _⟩
    case round =>
      clear H0
      obtain ⟨k, hk, rfl, ⟨ad, cp, rfl⟩, HO, HK⟩ := hrel
      by_cases hlt : k < A.length
      · have hk0 : (0 : Int) ≤ (k : Int) := by omega
        have hk1 : (k : Int) < (A.length : Int) := by omega
        have hcn := HN.out k hlt
        have hrw := HK.out.ownsRow HR2.out (fun _ _ h => h)
        have hc := (owns_cell hrw hcn).1
        have R1 := hid (RD.out k hlt wr (HK2.out.trans HK.out))
        have HT1 := hid (HT.out k hlt)
        have HTL : Hid ((A.take k).length = k) := by show _ = _; rw [List.length_take]; omega
        have hcl : g < wr.heap.size := Nat.lt_of_lt_of_le hgl HK.out.size
        clear hcn hrw RD HT HN
        generalize A[k] = y at *
        have hkk : k ≤ 70368744177 := by omega
        go_wp2_with fail
        refine R1.out.mono ?_
        rintro e w5 ⟨rfl, hk5⟩
        have c5 := (hk5.cell (o := k) hcl (fun h => h)).trans hc
        have HO5 := hid (hk5.ownsRow HO.out (fun _ _ h => h))
        have HB5 : Hid (w2.heap.size ≤ w5.heap.size) := Nat.le_trans HK.out.size hk5.size
        have HK5 := hid (HK.out.trans hk5)
        have HKK := hid hkk
        have HTS : Hid (k = (A.take k).length) := HTL.out.symm
        have HMc : Hid (#[Value.string (tx y.1), .string (tx y.2)] = (fC1 y).toArray) := rfl
        clear R1 HO HK hk5 hc hcl hkk HTL
        go_wp2_with (at_builtin; refine wpl_file rfl _ _ rfl w2.heap.size (.slice ad k cp) (A.take k) k HTS.out y w5 _ HMc.out rfl rfl rfl HO5.out HB5.out HKK.out ?_; intro ad1 cap1 w6 hr6 hk6)
        rw [HT1.out] at hr6
        have HO6 := hid hr6
        have HK6 : Hid (Keep (fun _ => False) w2 w6) := HK5.out.then hk6 (fun j hj e => by
          rcases HO5.out.2 with ⟨e2, _⟩ | ⟨g', cap', cur, e2, hg', _⟩
          · rw [e2] at e; simp [Value.ownBlock] at e
          · rw [e2] at e; simp [Value.ownBlock] at e; omega)
        clear hr6 hk6 HO5 HB5 HK5 HT1 HMc HTS c5
        go_wp2
        exact ⟨⟨k + 1, by omega, by go_num, ⟨_, _, rfl⟩, HO6, HK6⟩, by simp [intOf]; omega⟩
      · have hd : decide ((k : Int) < (A.length : Int)) = false := decide_eq_false (by omega)
        have hkl : k = A.length := by omega
        have HE : Hid (wr.ownsRow w.heap.size 59 2 (.slice ad k cp) A.length (fC A)) := by
          have h := HO.out
          subst hkl
          rw [List.take_of_length_le (Nat.le_refl _)] at h
          refine ⟨h.1, h.2.imp id ?_⟩
          rintro ⟨g, cap, cur, e, hg, r⟩
          exact ⟨g, cap, cur, e, Nat.le_trans HW.out hg, r⟩
        have HKF := hid (HK2.out.trans HK.out)
        clear HO HK RD HT HN HR2 HK2 hkl
        go_wp2
        go_ret
        exact ⟨_, rfl, HE.out, HKF.out⟩
end Go.Proofs.YtedogofeibdjiaaGreat
namespace Go.Proofs.YtedogofeibdjiaaGreat
open Go.RowKit Go.Maps
set_option linter.unusedVariables false
set_option linter.unusedSimpArgs false

theorem tl_self (A : ByteArray) : (A.toList == A.toList) = true := by simp
theorem file_cell {w : World} {B n g cap k : Nat} {A : List (Bs × Bs)} (h : w.ownsRow B 59 2 (.slice (some ⟨g, 0, none⟩) n cap) n (fC A)) (hk : k < A.length) : w.cell? ⟨g, k * 2, none⟩ = some (.string (tx (A[k]).1)) ∧ w.cell? ⟨g, k * 2 + 1, none⟩ = some (.string (tx (A[k]).2)) := by
  obtain ⟨h1, h2⟩ := h
  rcases h2 with ⟨e, _⟩ | ⟨g', cap', cur, e, hg, hb, hn, hm, hs, ht⟩
  · injection e with e; cases e
  · injection e with e1 e2 e3
    injection e1 with e1
    injection e1 with e1
    subst e1
    have hl : (fC A).length = A.length * 2 := by
      clear h1 ht hk
      induction A with
      | nil => rfl
      | cons x r ih => simp [fC, fC1] at ih ⊢; omega
    have hc : ∀ j, j < 2 → w.cell? ⟨g, k * 2 + j, none⟩ = (fC1 A[k])[j]? := fun j hj => by
      rw [cell_of_row _ _ _ _ _ _ hb, ← fC_get A k hk j hj, ← ht, List.getElem?_take_of_lt (by omega)]
      simp
    exact ⟨hc 0 (by omega), hc 1 (by omega)⟩
theorem file_form {w : World} {B : Nat} {v : Value} {A : List (Bs × Bs)} (h : w.ownsRow B 59 2 v A.length (fC A)) : (A = [] ∧ ∃ ad cap, v = .slice ad 0 cap) ∨ ∃ g cap, v = .slice (some ⟨g, 0, none⟩) A.length cap := by
  rcases h.2 with ⟨e, h0⟩ | ⟨g, cap, cur, e, _⟩
  · exact .inl ⟨List.length_eq_zero_iff.1 h0, none, 0, e⟩
  · exact .inr ⟨g, cap, e⟩

set_option maxRecDepth 100000 in
set_option maxHeartbeats 2000000 in
theorem same_true (A : List (Bs × Bs)) (B1 B2 : Nat) (v1 v2 : Value) (w : World) (h1 : w.ownsRow B1 59 2 v1 A.length (fC A)) (h2 : w.ownsRow B2 59 2 v2 A.length (fC A)) (hl : A.length ≤ 70368744177) :
    Calls Tryz.prog 25 #[v1, v2] w fun e w' => e = .returned (.bool true) ∧ Keep (fun _ => False) w w' := by
  obtain ⟨a1, n1, hv1⟩ : ∃ ad cap, v1 = .slice ad A.length cap := by
    rcases h1.2 with ⟨e, h0⟩ | ⟨g, cap, cur, e, _⟩
    · exact ⟨none, 0, by rw [e, h0]⟩
    · exact ⟨_, _, e⟩
  obtain ⟨a2, n2, hv2⟩ : ∃ ad cap, v2 = .slice ad A.length cap := by
    rcases h2.2 with ⟨e, h0⟩ | ⟨g, cap, cur, e, _⟩
    · exact ⟨none, 0, by rw [e, h0]⟩
    · exact ⟨_, _, e⟩
  have HC : Hid (∀ (k : Nat) (hk : k < A.length) (W : World), Keep (fun _ => False) w W → ∃ g1 g2 x y, a1 = some ⟨g1, 0, none⟩ ∧ a2 = some ⟨g2, 0, none⟩ ∧ W.cell? ⟨g1, k * 2, none⟩ = some (.string x) ∧ W.cell? ⟨g1, k * 2 + 1, none⟩ = some (.string y) ∧ W.cell? ⟨g2, k * 2, none⟩ = some (.string x) ∧ W.cell? ⟨g2, k * 2 + 1, none⟩ = some (.string y)) := by
    intro k hk W hW
    have hb1 := hW.ownsRow h1 (fun _ _ h => h)
    have hb2 := hW.ownsRow h2 (fun _ _ h => h)
    rcases file_form hb1 with ⟨e, _⟩ | ⟨g1, c1, e1⟩
    · rw [e] at hk; simp at hk
    rcases file_form hb2 with ⟨e, _⟩ | ⟨g2, c2, e2⟩
    · rw [e] at hk; simp at hk
    rw [e1] at hb1
    rw [e2] at hb2
    have hc1 := file_cell hb1 hk
    have hc2 := file_cell hb2 hk
    rw [hv1] at e1
    rw [hv2] at e2
    injection e1 with e1
    injection e2 with e2
    exact ⟨g1, g2, _, _, e1, e2, hc1.1, hc1.2, hc2.1, hc2.2⟩
  clear h1 h2
  subst hv1 hv2
  generalize A.length = n at *
  have hne : ((n : Int) != (n : Int)) = false := by simp
  go_enter Tryz.func25, Tryz.ntmps25
  go_wp2
  go_loopw [5] (fun i wr => ∃ k : Nat, k ≤ n ∧ i = .int .i64 k ∧ Hid (Keep (fun _ => False) w wr)) (fun i _ => n - (intOf i).toNat)
  case atStart => exact ⟨0, by omega, rfl, Keep.refl _ _⟩
  case round =>
    obtain ⟨k, hk, rfl, HK⟩ := hrel
    by_cases hlt : k < n
    · have hk0 : (0 : Int) ≤ (k : Int) := by omega
      have hk1 : (k : Int) < (n : Int) := by omega
      obtain ⟨g1, g2, x, y, e1, e2, p1, p2, q1, q2⟩ := HC.out k hlt wr HK.out
      subst e1 e2
      have hxx := tl_self x
      have hyy := tl_self y
      clear HC
      go_wp2
      go_quiet (fail)
      have HK2 := hid (HK.out.trans (keep_drewN wr nq))
      clear HK
      go_wp2
      exact ⟨⟨k + 1, by omega, by go_num, HK2⟩, by simp [intOf]; omega⟩
    · have hd : decide ((k : Int) < (n : Int)) = false := decide_eq_false (by omega)
      clear HC
      go_wp2
      go_ret
      exact ⟨rfl, HK.out⟩

/-- an act, as far as the laws read it -/
structure AC where
  kind : Int
  name : Bs
  to : Bs
  s : Bs
  n : Int
  f0 : Int
  f1 : Int
  f2 : Int
  pv : Value
def acV (a : AC) : Value := .agg #[.int .i64 a.kind, .string (tx a.name), .string (tx a.to), .string (tx a.s), .int .i64 a.n, .int .i64 a.f0, .int .i64 a.f1, .int .i64 a.f2, a.pv]
/-- what a call as an act says makes of a disk, and what is told -/
def calD (d : Ds) (a : AC) : Ds × Int := if a.kind = 0 then appD d a.name a.s else if a.kind = 1 then wrD d a.name a.s else if a.kind = 2 then mvD d a.name a.to else if a.kind = 3 then rmD d a.name else cuD d a.name a.n
theorem Calls.into {w W : World} {c : Nat → Nat} {p : Nat} {d d' : Ds} {f : FuncId} {args : Array Value} {r : Value} (k : Keep (fun _ => False) w W) (C : Calls Tryz.prog f args W fun e w' => e = .returned r ∧ Left W c p d' w') : Calls Tryz.prog f args W fun e w' => e = .returned r ∧ Left w c p d' w' :=
  Calls.mono C fun e w' ⟨he, hL⟩ => ⟨he, hL.from k⟩

end Go.Proofs.YtedogofeibdjiaaGreat
namespace Go.Proofs.YtedogofeibdjiaaGreat
open Go.RowKit Go.Maps
set_option linter.unusedVariables false
set_option linter.unusedSimpArgs false

/-- a disk without falls, that is up, and whose names may be names -/
structure Calm (d : Ds) : Prop where
  dn : d.dn = false
  fl : d.fl = []
  nm : NmOk d
theorem chg_calm {d : Ds} (h : Calm d) (ch : Chg) : chgD d ch = ({ d.more ch with n := d.n + 1 }, 0) := by
  unfold chgD; rw [h.fl]; rfl
theorem now_more (d : Ds) (ch : Chg) : ({ d.more ch with n := d.n + 1 } : Ds).now = doC d.now ch := by
  show replay (d.ws ++ [ch]) d.S = _
  rw [replay_snoc]; rfl
theorem mem_doC {A : List (Bs × Bs)} {ch : Chg} {x : Bs × Bs} (h : x ∈ doC A ch) : x ∈ A ∨ x.1 = ch.name ∨ (ch.kind = 2 ∧ x.1 = ch.to) := by
  unfold doC at h
  split at h
  · rcases mem_kput.1 h with rfl | ⟨h, _⟩
    · exact .inr (.inl rfl)
    · exact .inl h
  · split at h
    · rcases mem_kput.1 h with rfl | ⟨h, _⟩
      · exact .inr (.inl rfl)
      · exact .inl h
    · split at h
      · rename_i h2
        rcases mem_kput.1 (mem_kdel.1 h).1 with rfl | ⟨h, _⟩
        · exact .inr (.inr ⟨h2, rfl⟩)
        · exact .inl h
      · split at h
        · exact .inl (mem_kdel.1 h).1
        · rcases mem_kput.1 h with rfl | ⟨h, _⟩
          · exact .inr (.inl rfl)
          · exact .inl h
theorem calm_more {d : Ds} (h : Calm d) (ch : Chg) (hn : nameOk ch.name = true) (ht : ch.kind = 2 → nameOk ch.to = true) : Calm { d.more ch with n := d.n + 1 } := by
  refine ⟨h.dn, h.fl, fun x hx => ?_⟩
  rw [now_more] at hx
  rcases mem_doC hx with hx | e | ⟨h2, e⟩
  · exact h.nm x hx
  · rw [e]; exact hn
  · rw [e]; exact ht h2
/-- a call leaves a disk as it was, or does one change that may be done -/
theorem cal_calm {d : Ds} (h : Calm d) (a : AC) : ((calD d a).1 = d ∧ (calD d a).2 ≠ 0) ∨ ∃ ch : Chg, (calD d a) = ({ d.more ch with n := d.n + 1 }, 0) ∧ nameOk ch.name = true ∧ (ch.kind = 2 → nameOk ch.to = true ∧ ch.to ≠ ch.name) ∧ ch.s.length ≤ a.s.length ∧
    ((ch.kind = 0 ∧ fitB d.bd d.rm (tot d.now) ch.s.length = true) ∨ (ch.kind = 1 ∧ fitB d.bd d.rm (tot d.now) ((ch.s.length : Int) - (((kget d.now ch.name).getD []).length : Int)) = true) ∨ (2 ≤ ch.kind ∧ ch.s = [])) := by
  have hdn : ¬ d.dn = true := by rw [h.dn]; decide
  unfold calD
  split
  · unfold appD
    rw [if_neg hdn]
    split
    · exact .inl ⟨rfl, by simp⟩
    · split
      · exact .inl ⟨rfl, by simp⟩
      · rename_i hn hf
        exact .inr ⟨⟨0, a.name, [], a.s, 0⟩, chg_calm h _, by simpa using hn, by simp, Nat.le_refl _, .inl ⟨rfl, by simpa using hf⟩⟩
  · split
    · unfold wrD
      rw [if_neg hdn]
      split
      · exact .inl ⟨rfl, by simp⟩
      · split
        · exact .inl ⟨rfl, by simp⟩
        · rename_i hn hf
          exact .inr ⟨⟨1, a.name, [], a.s, 0⟩, chg_calm h _, by simpa using hn, by simp, Nat.le_refl _, .inr (.inl ⟨rfl, by simpa using hf⟩)⟩
    · split
      · unfold mvD
        rw [if_neg hdn]
        split
        · exact .inl ⟨rfl, by simp⟩
        · split
          · exact .inl ⟨rfl, by simp⟩
          · split
            · exact .inl ⟨rfl, by simp⟩
            · rename_i hn hs hne
              have hn2 : nameOk a.name = true ∧ nameOk a.to = true := by simpa using hn
              exact .inr ⟨⟨2, a.name, a.to, [], 0⟩, chg_calm h _, hn2.1, fun _ => ⟨hn2.2, fun e => hne e.symm⟩, Nat.zero_le _, .inr (.inr ⟨Nat.le_refl _, rfl⟩)⟩
      · split
        · unfold rmD
          rw [if_neg hdn]
          split
          · exact .inl ⟨rfl, by simp⟩
          · split
            · exact .inl ⟨rfl, by simp⟩
            · rename_i hn hs
              exact .inr ⟨⟨3, a.name, [], [], 0⟩, chg_calm h _, by simpa using hn, by simp, Nat.zero_le _, .inr (.inr ⟨by show 2 ≤ 3; omega, rfl⟩)⟩
        · unfold cuD
          rw [if_neg hdn]
          split
          · exact .inl ⟨rfl, by simp⟩
          · split
            · exact .inl ⟨rfl, by simp⟩
            · split
              · exact .inl ⟨rfl, by simp⟩
              · rename_i hn hs hl
                exact .inr ⟨⟨4, a.name, [], [], a.n.toNat⟩, chg_calm h _, by simpa using hn, by simp, Nat.zero_le _, .inr (.inr ⟨by show 2 ≤ 4; omega, rfl⟩)⟩

/-- what the loop keeps: there is never more than there is room for -/
structure RI (d : Ds) (r : Int) (k B : Nat) : Prop where
  calm : Calm d
  bd : d.bd = true
  rm : d.rm = r
  fit : (tot d.now : Int) ≤ r
  S : d.S = []
  len : d.ws.length ≤ k
  sum : (d.ws.map fun ch => ch.s.length).sum ≤ B
  n : d.n ≤ k
set_option maxRecDepth 100000 in
theorem RI.next {d : Ds} {rm : Int} {k B : Nat} (h : RI d rm k B) (hs : Srt d.now) (a : AC) (ha : a.s.length ≤ 1048576) : RI (calD d a).1 rm (k + 1) (B + 1048576) ∧ ((calD d a).2 ≠ 0 → (calD d a).1 = d) := by
  rcases cal_calm h.calm a with ⟨e, hne⟩ | ⟨ch, e, hn, ht, hl, hf⟩
  · rw [e]
    exact ⟨⟨h.calm, h.bd, h.rm, h.fit, h.S, Nat.le_succ_of_le h.len, Nat.le_trans h.sum (Nat.le_add_right _ _), Nat.le_succ_of_le h.n⟩, fun _ => rfl⟩
  · rw [e]
    refine ⟨⟨calm_more h.calm ch hn (fun e => (ht e).1), h.bd, h.rm, ?_, h.S, ?_, ?_, ?_⟩, fun hc => absurd rfl hc⟩
    · rw [now_more]
      have hfit := h.fit
      rcases hf with ⟨hk, hf⟩ | ⟨hk, hf⟩ | ⟨hk, hf⟩
      · have e1 := tot_doC hs ch (fun e => (ht e).2)
        unfold fitB at hf
        rw [h.bd, h.rm] at hf
        simp at hf
        rcases hf with hf | hf
        · rw [hf] at e1; simp at e1; omega
        · omega
      · have e1 : doC d.now ch = kput d.now ch.name ch.s := by unfold doC; rw [hk]; simp
        have e2 := tot_kput hs ch.name ch.s
        rw [e1]
        unfold fitB at hf
        rw [h.bd, h.rm] at hf
        simp at hf
        omega
      · have e1 := tot_doC hs ch (fun e => (ht e).2)
        rw [hf] at e1
        simp at e1
        omega
    · show (d.ws ++ [ch]).length ≤ _
      rw [List.length_append]; have := h.len; simp; omega
    · show ((d.ws ++ [ch]).map fun ch => ch.s.length).sum ≤ _
      rw [List.map_append, List.sum_append]; have := h.sum; simp; omega
    · show d.n + 1 ≤ _
      have := h.n; omega
set_option maxRecDepth 100000 in
theorem RI.wt {d : Ds} {rm : Int} {k B : Nat} (h : RI d rm k B) : d.wt + d.S.length + d.ws.length ≤ B + k := by
  have h1 := h.sum
  have h2 := h.len
  unfold Ds.wt
  rw [h.S]
  simp [tot]
  omega
theorem DiskIs.srt {w : World} {c : Nat → Nat} {p : Nat} {d : Ds} (h : DiskIs w c p d) : Srt d.now := by
  obtain ⟨R, hR⟩ := h
  have hS : Srt d.S := by rw [← hR.eS]; exact srt_txts.2 hR.sure.srt
  have hmv2 : ∀ x ∈ d.ws, x.kind = 2 → x.to ≠ x.name := fun x hm => by obtain ⟨i, hi, rfl⟩ := List.getElem_of_mem hm; exact (hR.oks i hi).move
  exact (replay_bounds d.ws d.S hS hmv2).1
end Go.Proofs.YtedogofeibdjiaaGreat
namespace Go.Proofs.YtedogofeibdjiaaGreat
open Go.RowKit Go.Maps
set_option linter.unusedVariables false
set_option linter.unusedSimpArgs false

/-- an act's cells -/
def acC (a : AC) : List Value := [.int .i64 a.kind, .string (tx a.name), .string (tx a.to), .string (tx a.s), .int .i64 a.n, .int .i64 a.f0, .int .i64 a.f1, .int .i64 a.f2, a.pv]
/-- acts that are handed in -/
def ActsIn (w : World) (v : Value) (l : List AC) : Prop := (∃ ad cap, v = .slice ad 0 cap ∧ l = []) ∨ ∃ g off cap, v = .slice (some ⟨g, off, none⟩) l.length cap ∧ g < w.heap.size ∧ ∀ j (h : j < l.length) i, i < 9 → w.cell? ⟨g, off + j * 9 + i, none⟩ = (acC l[j])[i]?
structure ActOk (a : AC) : Prop where
  s : a.s.length ≤ 1048576
  name : a.name.length ≤ 1048576
  to : a.to.length ≤ 1048576
  pv : ∃ ad n cp, a.pv = .slice ad n cp
theorem RI.mono {d : Ds} {r : Int} {k B : Nat} (h : RI d r k B) (k' B' : Nat) (hk : k ≤ k') (hB : B ≤ B') : RI d r k' B' := ⟨h.calm, h.bd, h.rm, h.fit, h.S, Nat.le_trans h.len hk, Nat.le_trans h.sum hB, Nat.le_trans h.n hk⟩
theorem room_val (a : Int) : ∃ t : Int, (wrap64 (a.tmod 64 + 64)).tmod 64 = t ∧ 0 ≤ t := by
  refine ⟨_, rfl, ?_⟩
  have h1 : -64 < a.tmod 64 ∧ a.tmod 64 < 64 := by
    have h2 := Int.natAbs_tmod a 64
    have h3 : (a.tmod 64).natAbs < 64 := by rw [h2]; exact Nat.mod_lt _ (by decide)
    omega
  have e1 : wrap64 (a.tmod 64 + 64) = a.tmod 64 + 64 := IntWalk.wrap64_in _ (by omega)
  rw [e1, Int.tmod_eq_emod_of_nonneg (by omega)]
  omega

theorem acts_cells {w W : World} {p : Nat} {d : Ds} {ad : Option Addr} {n cap : Nat} {l : List AC} (h : ActsIn w (.slice ad n cap) l) (k : Keep (fun j => c0 p j < 6) w W) (hp : w.heap.size ≤ p) (j : Nat) (hj : j < l.length) : ∃ g off, ad = some ⟨g, off, none⟩ ∧ ∀ i, i < 9 → W.cell? ⟨g, off + j * 9 + i, none⟩ = (acC l[j])[i]? := by
  rcases h with ⟨_, _, _, e⟩ | ⟨g, off, cap', e, hg, hc⟩
  · rw [e] at hj; simp at hj
  · injection e with e1 e2 e3
    refine ⟨g, off, e1, fun i hi => (k.cell hg fun e => ?_).trans (hc j hj i hi)⟩
    have e' : (if g = p then 0 else 7) < 6 := e
    rw [if_neg (by omega)] at e'
    omega

end Go.Proofs.YtedogofeibdjiaaGreat
namespace Go.Proofs.YtedogofeibdjiaaGreat
open Go.RowKit Go.Maps
set_option linter.unusedVariables false
set_option linter.unusedSimpArgs false

/-- what the loop of 'changed' keeps -/
structure CI (d : Ds) (k B : Nat) : Prop where
  calm : Calm d
  bd : d.bd = false
  wt : d.wt + d.S.length + d.ws.length ≤ B
  n : d.n ≤ k
theorem CI.mono {d : Ds} {k B k' B' : Nat} (h : CI d k B) (hk : k ≤ k') (hB : B ≤ B') : CI d k' B' := ⟨h.calm, h.bd, Nat.le_trans h.wt hB, Nat.le_trans h.n hk⟩
theorem CI.call {d : Ds} {k B : Nat} (h : CI d k B) (a : AC) : CI (calD d a).1 (k + 1) (B + (a.s.length + 1)) := by
  rcases cal_calm h.calm a with ⟨e, _⟩ | ⟨ch, e, hn, ht, hl, _⟩
  · rw [e]; exact h.mono (by omega) (by omega)
  · rw [e]
    refine ⟨calm_more h.calm ch hn (fun e => (ht e).1), h.bd, ?_, ?_⟩
    · have hw := h.wt
      show tot d.S + ((d.ws ++ [ch]).map fun ch => ch.s.length).sum + d.S.length + (d.ws ++ [ch]).length ≤ _
      unfold Ds.wt at hw
      rw [List.map_append, List.sum_append, List.length_append]
      simp
      omega
    · show d.n + 1 ≤ _
      have := h.n; omega
theorem syn_now (d : Ds) : (synD d).now = d.now := rfl
theorem CI.sync {d : Ds} {k B : Nat} (h : CI d k B) (hs : Srt d.S) (hm : ∀ ch ∈ d.ws, ch.kind = 2 → ch.to ≠ ch.name) : CI (synD d) k B := by
  obtain ⟨_, h2, h3⟩ := replay_bounds d.ws d.S hs hm
  refine ⟨⟨h.calm.dn, h.calm.fl, fun x hx => h.calm.nm x hx⟩, h.bd, ?_, h.n⟩
  have hw := h.wt
  show tot (replay d.ws d.S) + 0 + (replay d.ws d.S).length + 0 ≤ B
  unfold Ds.wt at hw
  omega
theorem DiskIs.ok {w : World} {c : Nat → Nat} {p : Nat} {d : Ds} (h : DiskIs w c p d) : Srt d.S ∧ ∀ ch ∈ d.ws, ch.kind = 2 → ch.to ≠ ch.name := by
  obtain ⟨R, hR⟩ := h
  exact ⟨by rw [← hR.eS]; exact srt_txts.2 hR.sure.srt, fun x hm => by obtain ⟨i, hi, rfl⟩ := List.getElem_of_mem hm; exact (hR.oks i hi).move⟩
theorem Left.ok {w w' : World} {c : Nat → Nat} {p : Nat} {d : Ds} (h : Left w c p d w') : Srt d.S ∧ ∀ ch ∈ d.ws, ch.kind = 2 → ch.to ≠ ch.name := by
  obtain ⟨⟨_, D, _⟩, _⟩ := h; exact D.ok
theorem Left.srt {w w' : World} {c : Nat → Nat} {p : Nat} {d : Ds} (h : Left w c p d w') : Srt d.now := by
  obtain ⟨⟨_, D, _⟩, _⟩ := h; exact D.srt
/-- what one act makes of a disk in 'changed' -/
def stD (d : Ds) (a : AC) : Ds := if 0 ≤ a.kind ∧ a.kind ≤ 4 then (calD d a).1 else if a.kind = 5 then synD d else d
theorem CI.step {d : Ds} {k B : Nat} (h : CI d k B) (a : AC) (ha : a.s.length ≤ 1048576) (hs : Srt d.S) (hm : ∀ ch ∈ d.ws, ch.kind = 2 → ch.to ≠ ch.name) : CI (stD d a) (k + 1) (B + 1048577) := by
  unfold stD
  split
  · exact (h.call a).mono (Nat.le_refl _) (by omega)
  · split
    · exact (h.sync hs hm).mono (by omega) (by omega)
    · exact h.mono (by omega) (by omega)
end Go.Proofs.YtedogofeibdjiaaGreat
namespace Go.Proofs.YtedogofeibdjiaaGreat
open Go.RowKit Go.Maps
set_option linter.unusedVariables false
set_option linter.unusedSimpArgs false

theorem hit_kdel {A : List (Bs × Bs)} (h : Srt A) (n : Bs) : (kdel A n).length + (if (kget A n).isSome then 1 else 0) = A.length := by
  induction A with
  | nil => simp [kdel, kget]
  | cons y r ih =>
    have h2 := List.pairwise_cons.1 h
    have ih := ih h2.2
    by_cases hy : y.1 = n
    · have e : kdel r n = r := by
        unfold kdel
        rw [List.filter_eq_self]
        intro z hz
        have := bef_ne (h2.1 z hz)
        simp
        intro e
        exact this (hy.trans e.symm)
      have e2 : kdel (y :: r) n = r := by
        unfold kdel at e ⊢
        rw [List.filter_cons]
        simp [hy]
        simpa using e
      rw [e2]
      have e3 : kget (y :: r) n = some y.2 := by unfold kget; simp [hy]
      rw [e3]
      simp
    · have e1 : kdel (y :: r) n = y :: kdel r n := by unfold kdel; rw [List.filter_cons]; simp [hy]
      have e2 : kget (y :: r) n = kget r n := by unfold kget; simp [hy]
      rw [e1, e2]
      simp only [List.length_cons] at ih ⊢
      omega
theorem hit_kput {A : List (Bs × Bs)} (h : Srt A) (n b : Bs) : (kput A n b).length + (if (kget A n).isSome then 1 else 0) = A.length + 1 := by
  have := hit_kdel h n
  unfold kput
  rw [length_kins]
  omega

/-- files that are others at one name at most -/
structure Oth (o : Bs) (A F : List (Bs × Bs)) : Prop where
  srt : Srt F
  get : ∀ m, m ≠ o → kget F m = kget A m
  here : (kget A o).isSome = true → (kget F o).isSome = true
  len : (F.length = A.length ∧ (kget F o).isSome = (kget A o).isSome) ∨ (F.length = A.length + 1 ∧ (kget F o).isSome = true)
  nm : ∀ x ∈ F, x ∈ A ∨ x.1 = o
theorem oth_refl {o : Bs} {A : List (Bs × Bs)} (h : Srt A) : Oth o A A := ⟨h, fun _ _ => rfl, fun h => h, .inl ⟨rfl, rfl⟩, fun x hx => .inl hx⟩
theorem Oth.put {o : Bs} {A F : List (Bs × Bs)} (h : Oth o A F) (b : Bs) : Oth o A (kput F o b) := by
  have hl := hit_kput h.srt o b
  refine ⟨srt_kput h.srt _ _, fun m hm => by rw [kget_put_other _ _ (Ne.symm hm)]; exact h.get m hm, fun _ => by rw [kget_put_same]; rfl, ?_, fun x hx => ?_⟩
  · rw [kget_put_same]
    rcases h.len with ⟨h1, h2⟩ | ⟨h1, h2⟩
    · by_cases hs : (kget F o).isSome = true
      · rw [if_pos hs] at hl
        refine .inl ⟨by omega, ?_⟩
        rw [← h2, hs]; rfl
      · rw [if_neg hs] at hl
        exact .inr ⟨by omega, rfl⟩
    · rw [if_pos h2] at hl
      exact .inr ⟨by omega, rfl⟩
  · rcases mem_kput.1 hx with rfl | ⟨hx, _⟩
    · exact .inr rfl
    · exact h.nm x hx
theorem Oth.app {o : Bs} {A F : List (Bs × Bs)} (h : Oth o A F) (s : Bs) : Oth o A (doC F ⟨0, o, [], s, 0⟩) := h.put _
theorem Oth.tear {o : Bs} {A F : List (Bs × Bs)} (h : Oth o A F) (s : Bs) (torn : Int) : Oth o A (tearC F ⟨0, o, [], s, 0⟩ torn) := by
  unfold tearC
  split
  · exact h
  · exact h.put _

/-- a disk on which two pieces were laid behind one file -/
def twoD (d : Ds) (o x y : Bs) : Ds := { d with ws := [⟨0, o, [], x, 0⟩, ⟨0, o, [], y, 0⟩], n := d.n + 2 }
def oneD (d : Ds) (o x : Bs) : Ds := { d with ws := [⟨0, o, [], x, 0⟩], n := d.n + 1 }
theorem app_calm {d : Ds} {k B : Nat} (h : CI d k B) (o s : Bs) (ho : nameOk o = true) : appD d o s = ({ d.more ⟨0, o, [], s, 0⟩ with n := d.n + 1 }, 0) := by
  unfold appD
  rw [if_neg (by rw [h.calm.dn]; decide), if_neg (by rw [ho]; decide), if_neg (by unfold fitB; rw [h.bd]; simp)]
  exact chg_calm h.calm _
theorem CI.app {d : Ds} {k B : Nat} (h : CI d k B) (o s : Bs) (ho : nameOk o = true) : CI { d.more ⟨0, o, [], s, 0⟩ with n := d.n + 1 } (k + 1) (B + (s.length + 1)) := by
  have e := app_calm h o s ho
  have h2 := h.call ⟨0, o, [], s, 0, 0, 0, 0, .slice none 0 0⟩
  have e2 : calD d ⟨0, o, [], s, 0, 0, 0, 0, .slice none 0 0⟩ = appD d o s := by unfold calD; rw [if_pos rfl]
  rw [e2, e] at h2
  exact h2
theorem fail_two {d : Ds} (o x y : Bs) (keep torn : Int) (hs : Srt d.S) : Oth o d.S (failS (twoD d o x y) keep torn) := by
  have h0 := oth_refl (o := o) hs
  unfold failS
  have hk : keepN (twoD d o x y) keep ≤ 2 := Nat.min_le_right _ _
  generalize keepN (twoD d o x y) keep = k at hk
  match k, hk with
  | 0, _ => exact h0.tear x torn
  | 1, _ => exact (h0.app x).tear y torn
  | 2, _ => exact (h0.app x).app y
/-- behind the loss of power -/
def upD (d : Ds) (keep torn : Int) : Ds := { failD d keep torn with dn := false }
theorem up_now {d : Ds} (hd : d.dn = false) (keep torn : Int) : upD d keep torn = { d with S := failS d keep torn, ws := [], dn := false } := by
  unfold upD failD
  rw [if_neg (by rw [hd]; decide)]
structure SynAll (o : Bs) (A : List (Bs × Bs)) (u : Ds) : Prop where
  dn : u.dn = false
  oth : Oth o A u.now
  rd : ∀ i (h : i < A.length), ∃ b, rdD u A[i].1 = (b, 0) ∧ (A[i].1 ≠ o → b = A[i].2)
  nm : NmOk u
theorem syn_all {d : Ds} (o x y : Bs) (keep torn : Int) (hdn : d.dn = false) (hs : Srt d.S) (ho : nameOk o = true) (hnm : ∀ z ∈ d.S, nameOk z.1 = true) : SynAll o d.S (upD (twoD d o x y) keep torn) := by
  have e := up_now (d := twoD d o x y) hdn keep torn
  have hF := fail_two (d := d) o x y keep torn hs
  rw [e]
  have en : ({ twoD d o x y with S := failS (twoD d o x y) keep torn, ws := [], dn := false } : Ds).now = failS (twoD d o x y) keep torn := rfl
  refine ⟨rfl, by rw [en]; exact hF, fun i hi => ?_, fun z hz => ?_⟩
  · have hg : kget d.S d.S[i].1 = some d.S[i].2 := srt_mem hs (List.getElem_mem hi)
    have hn := hnm _ (List.getElem_mem hi)
    unfold rdD
    rw [en, if_neg (by simp), if_neg (by rw [hn]; decide)]
    by_cases ho2 : d.S[i].1 = o
    · have h1 := hF.here (by rw [← ho2, hg]; rfl)
      obtain ⟨b, hb⟩ := Option.isSome_iff_exists.1 h1
      rw [ho2, hb]
      exact ⟨b, rfl, fun h => absurd rfl h⟩
    · rw [hF.get _ ho2, hg]
      exact ⟨_, rfl, fun _ => rfl⟩
  · rw [en] at hz
    rcases hF.nm z hz with h | h
    · exact hnm z h
    · rw [h]; exact ho
end Go.Proofs.YtedogofeibdjiaaGreat
namespace Go.Proofs.YtedogofeibdjiaaGreat
open Go.RowKit Go.Maps
set_option linter.unusedVariables false
set_option linter.unusedSimpArgs false

theorem left_sync {w1 wr : World} {c : Nat → Nat} {p : Nat} {d : Ds} {k B : Nat} (hL : Left w1 c p d wr) (hR : CI d k B) (hB : B ≤ 70000000000) :
    Calls Tryz.prog 20 #[.pointer (some ⟨p, 0, none⟩)] wr fun e w3 => e = .returned (.int .i64 0) ∧ Left w1 c p (synD d) w3 := by
  have h4 := hR.wt
  obtain ⟨⟨ci, D, hc⟩, K⟩ := hL
  exact (sync_any p ci d wr D hR.calm.dn (by omega)).mono fun e w' ⟨he, hL⟩ => ⟨he, hL.trans hc K⟩

end Go.Proofs.YtedogofeibdjiaaGreat
namespace Go.Proofs.YtedogofeibdjiaaGreat
open Go.RowKit Go.Maps
set_option linter.unusedVariables false
set_option linter.unusedSimpArgs false

theorem left_fresh {w1 wr w2 : World} {c : Nat → Nat} {p : Nat} {d : Ds} (h : Left w1 c p d wr) (k : Keep (fun _ => False) wr w2) : ∃ c2 : Nat → Nat, Left w2 c2 p d w2 ∧ (∀ j, wr.heap.size ≤ j → c2 j = 7) ∧ ∀ d' w', Left w2 c2 p d' w' → Left w1 c p d' w' := by
  obtain ⟨⟨ci, D, hc⟩, K⟩ := h
  have hs2 := k.size
  refine ⟨fun j => if j < wr.heap.size then ci j else 7, left_same (D.keep k (fun j hj => if_pos hj) (fun _ _ h => h.elim)) (Keep.refl _ _), fun j hj => if_neg (by omega), fun d' w' hl => ?_⟩
  obtain ⟨⟨c3, D3, hc3⟩, K3⟩ := hl
  have h3 : Left wr ci p d' w' := by
    refine ⟨⟨c3, D3, fun j hj => ?_⟩, (k.mono (fun _ _ h => h.elim)).then K3 fun j hj e => ?_⟩
    · rw [hc3 j (by omega)]; exact if_pos hj
    · have e' : (if j < wr.heap.size then ci j else 7) < 6 := e
      rw [if_pos hj] at e'
      exact e'
  exact h3.trans hc K
/-- a row that came behind the disk stays -/
theorem fresh_row {B e size n : Nat} {v : Value} {xs : List Value} {w2 W : World} {c2 : Nat → Nat} {p : Nat} {d : Ds} (hr : w2.ownsRow B e size v n xs) (h7 : ∀ j, B ≤ j → c2 j = 7) (hl : Left w2 c2 p d W) : W.ownsRow B e size v n xs :=
  hl.2.ownsRow hr fun g e e2 => by
    rcases hr.2 with ⟨e3, _⟩ | ⟨g', cap, cur, e3, hg', _⟩
    · rw [e3] at e; simp [Value.ownBlock] at e
    · rw [e3] at e; simp [Value.ownBlock] at e
      have := h7 g (by omega)
      omega
theorem ActsIn.keep {w W : World} {v : Value} {l : List AC} (h : ActsIn w v l) (k : Keep (fun _ => False) w W) : ActsIn W v l := by
  rcases h with h | ⟨g, off, cap, e, hg, hc⟩
  · exact .inl h
  · exact .inr ⟨g, off, cap, e, Nat.lt_of_lt_of_le hg k.size, fun j hj i hi => (k.cell hg (fun h => h)).trans (hc j hj i hi)⟩
/-- the other file's name -/
def nmO : Bs := [111, 116, 104, 101, 114, 45, 102, 105, 108, 101]
theorem nmO_ok : nameOk nmO = true := by decide
theorem nmO_beq (a : Bs) : ((tx a).toList == [111, 116, 104, 101, 114, 45, 102, 105, 108, 101]) = decide (a = nmO) := by
  have := tx_beq a nmO
  rw [ByteArray.toList_eq (tx nmO), tx_list] at this
  exact this

end Go.Proofs.YtedogofeibdjiaaGreat
namespace Go.Proofs.YtedogofeibdjiaaGreat
open Go.RowKit Go.Maps
set_option linter.unusedVariables false
set_option linter.unusedSimpArgs false

/-- all files of a disk that is left, and the disk goes on beside them -/
theorem left_files {w1 wr : World} {c : Nat → Nat} {p : Nat} {d : Ds} {k B : Nat} (hL : Left w1 c p d wr) (hC : CI d k B) (hB : B ≤ 70000000000) :
    Calls Tryz.prog 26 #[.pointer (some ⟨p, 0, none⟩)] wr fun e w2 => ∃ v, e = .returned v ∧ w2.ownsRow wr.heap.size 59 2 v d.now.length (fC d.now) ∧ ∃ c2 : Nat → Nat, Left w2 c2 p d w2 ∧ (∀ j, wr.heap.size ≤ j → c2 j = 7) ∧ ∀ d' w', Left w2 c2 p d' w' → Left w1 c p d' w' := by
  have hsr := hL.srt
  have hok := hL.ok
  have hwt := hC.wt
  have hl := (replay_bounds d.ws d.S hok.1 hok.2).2.2
  have hl2 : d.now.length ≤ 70368744177 := by unfold Ds.now; omega
  have hL2 := hL
  obtain ⟨⟨ci, D, hc⟩, K⟩ := hL
  exact (files_any p ci d wr D hC.calm.dn hl2 hC.calm.nm hsr).mono fun e w2 ⟨v1, he, hr1, hk2⟩ => ⟨v1, he, hr1, left_fresh hL2 hk2⟩

end Go.Proofs.YtedogofeibdjiaaGreat
namespace Go.Proofs.YtedogofeibdjiaaGreat
open Go.RowKit Go.Maps
set_option linter.unusedVariables false
set_option linter.unusedSimpArgs false

/-- the files' row -/
def FileRow (w : World) (B : Nat) (v : Value) (A : List (Bs × Bs)) : Prop := w.ownsRow B 59 2 v A.length (fC A)
/-- the disk, and beside it a slice of all files as they stood -/
structure MayC (w1 : World) (p : Nat) (d : Ds) (hs : List (List (Bs × Bs))) (m : Value) (vs : List Value) (wr : World) (c : Nat → Nat) : Prop where
  disk : DiskIs wr c p d
  old : ∀ j, j < w1.heap.size → c j = c0 p j
  keep : Keep (fun j => c0 p j < 6) w1 wr
  len : vs.length = hs.length
  row : wr.ownsRow w1.heap.size 30 1 m hs.length vs
  col : ∀ g, m.ownBlock = some g → c g = 7
  rows : ∀ i (h : i < hs.length) (h2 : i < vs.length), FileRow wr w1.heap.size vs[i] hs[i]
  cols : ∀ v ∈ vs, ∀ g, v.ownBlock = some g → c g = 7 ∧ m.ownBlock ≠ some g
def MayAt (w1 : World) (p : Nat) (d : Ds) (hs : List (List (Bs × Bs))) (m : Value) (wr : World) : Prop := ∃ vs c, MayC w1 p d hs m vs wr c
theorem MayC.left {w1 wr w' : World} {p : Nat} {d d' : Ds} {hs : List (List (Bs × Bs))} {m : Value} {vs : List Value} {c : Nat → Nat} (h : MayC w1 p d hs m vs wr c) (hl : Left wr c p d' w') : MayAt w1 p d' hs m w' := by
  obtain ⟨⟨c', D, hc'⟩, K⟩ := hl
  have hsz := h.keep.size
  refine ⟨vs, c', D, fun j hj => by rw [hc' j (by omega)]; exact h.old j hj, h.keep.then K (fun j hj e => by rw [← h.old j hj]; exact e), h.len, K.ownsRow h.row (fun g e e2 => by have := h.col g e; omega), fun g e => by rw [hc' g (ownsRow_lt h.row e)]; exact h.col g e, fun i hi h2 => K.ownsRow (h.rows i hi h2) (fun g e e2 => by have := (h.cols _ (List.getElem_mem h2) g e).1; omega), fun v hv g e => ?_⟩
  obtain ⟨i, hi, rfl⟩ := List.getElem_of_mem hv
  have := h.cols _ hv g e
  exact ⟨by rw [hc' g (ownsRow_lt (h.rows i (by rw [← h.len]; exact hi) hi) e)]; exact this.1, this.2⟩
theorem MayAt.step {w1 wr : World} {p : Nat} {d d' : Ds} {hs : List (List (Bs × Bs))} {m : Value} {f : FuncId} {args : Array Value} {r : Value} (h : MayAt w1 p d hs m wr) (C : ∀ W c, DiskIs W c p d → Calls Tryz.prog f args W fun e w' => e = .returned r ∧ Left W c p d' w') : Calls Tryz.prog f args wr fun e w' => e = .returned r ∧ MayAt w1 p d' hs m w' := by
  obtain ⟨vs, c, hM⟩ := h
  exact (C wr c hM.disk).mono fun e w' ⟨he, hl⟩ => ⟨he, hM.left hl⟩
/-- and one row of files more, that is not in the slice yet -/
def MayP (w1 : World) (p : Nat) (d : Ds) (hs : List (List (Bs × Bs))) (m v : Value) (A : List (Bs × Bs)) (wr : World) : Prop :=
  ∃ vs c, MayC w1 p d hs m vs wr c ∧ FileRow wr w1.heap.size v A ∧ ∀ g, v.ownBlock = some g → c g = 7 ∧ m.ownBlock ≠ some g
theorem MayC.same {w1 wr w2 : World} {p : Nat} {d : Ds} {hs : List (List (Bs × Bs))} {m : Value} {vs : List Value} {c c2 : Nat → Nat} (h : MayC w1 p d hs m vs wr c) (hk : Keep (fun _ => False) wr w2) (hc : ∀ j, j < wr.heap.size → c2 j = c j) : MayC w1 p d hs m vs w2 c2 := by
  have hsz := h.keep.size
  refine ⟨h.disk.keep hk hc (fun _ _ h => h.elim), fun j hj => by rw [hc j (by omega)]; exact h.old j hj, h.keep.then hk (fun _ _ h => h.elim), h.len, hk.ownsRow h.row (fun _ _ h => h), fun g e => by rw [hc g (ownsRow_lt h.row e)]; exact h.col g e, fun i hi h2 => hk.ownsRow (h.rows i hi h2) (fun _ _ h => h), fun v hv g e => ?_⟩
  obtain ⟨i, hi, rfl⟩ := List.getElem_of_mem hv
  have := h.cols _ hv g e
  exact ⟨by rw [hc g (ownsRow_lt (h.rows i (by rw [← h.len]; exact hi) hi) e)]; exact this.1, this.2⟩
theorem CI.len {w : World} {c : Nat → Nat} {p : Nat} {d : Ds} {k B : Nat} (hC : CI d k B) (h : DiskIs w c p d) : d.now.length ≤ B := by
  have hok := h.ok
  have hl := (replay_bounds d.ws d.S hok.1 hok.2).2.2
  have hwt := hC.wt
  unfold Ds.now
  omega
theorem MayAt.files {w1 wr : World} {p : Nat} {d : Ds} {hs : List (List (Bs × Bs))} {m : Value} {k B : Nat} (h : MayAt w1 p d hs m wr) (hC : CI d k B) (hB : B ≤ 70000000000) : Calls Tryz.prog 26 #[.pointer (some ⟨p, 0, none⟩)] wr fun e w' => ∃ ad cap, e = .returned (.slice ad d.now.length cap) ∧ MayP w1 p d hs m (.slice ad d.now.length cap) d.now w' := by
  obtain ⟨vs, c, hM⟩ := h
  have hl := hC.len hM.disk
  have hsz := hM.keep.size
  refine (files_any p c d wr hM.disk hC.calm.dn (by omega) hC.calm.nm hM.disk.srt).mono fun e w2 ⟨v, he, hr, hk⟩ => ?_
  obtain ⟨ad, cap, rfl⟩ := row_form hr
  refine ⟨ad, cap, he, vs, (fun j => if j < wr.heap.size then c j else 7), hM.same hk (fun j hj => if_pos hj), ownsRow_base hr hsz, fun g e => ⟨if_neg (by have := ownsRow_ge hr e; omega), fun e2 => by have h1 := ownsRow_ge hr e; have h2 := ownsRow_lt hM.row e2; omega⟩⟩
/-- the row is laid into the slice -/
theorem may_app {w1 wr w2 : World} {p : Nat} {d : Ds} {hs : List (List (Bs × Bs))} {m m2 v : Value} {vs : List Value} {A : List (Bs × Bs)} {c : Nat → Nat} (h : MayC w1 p d hs m vs wr c) (hv : FileRow wr w1.heap.size v A) (hvc : ∀ g, v.ownBlock = some g → c g = 7 ∧ m.ownBlock ≠ some g)
    (hr : w2.ownsRow w1.heap.size 30 1 m2 (hs.length + 1) (vs ++ [v])) (hk : Keep (fun k => m.ownBlock = some k) wr w2) (hloc : m2.ownBlock = m.ownBlock ∨ ∃ g, m2.ownBlock = some g ∧ wr.heap.size ≤ g) : MayAt w1 p d (hs ++ [A]) m2 w2 := by
  have hsz := h.keep.size
  have hcol : ∀ j, j < wr.heap.size → (if j < wr.heap.size then c j else 7) = c j := fun j hj => if_pos hj
  have hne : ∀ g, g < wr.heap.size → m.ownBlock ≠ some g → m2.ownBlock ≠ some g := fun g hg h1 h2 => by
    rcases hloc with e | ⟨g', e, hg'⟩
    · exact h1 (e ▸ h2)
    · rw [e] at h2; injection h2 with h2; omega
  refine ⟨vs ++ [v], fun j => if j < wr.heap.size then c j else 7, h.disk.keep hk hcol (fun j hj e => by rw [h.col j e]; omega), fun j hj => by rw [hcol j (by omega)]; exact h.old j hj, h.keep.then hk (fun j hj e => by have := ownsRow_ge h.row e; omega), by simp [h.len], by rw [List.length_append, List.length_singleton]; exact hr, fun g e => ?_, fun i hi h2 => ?_, fun u hu g e => ?_⟩
  · by_cases hg : g < wr.heap.size
    · rw [hcol g hg]
      rcases hloc with e2 | ⟨g', e2, hg'⟩
      · exact h.col g (e2 ▸ e)
      · rw [e2] at e; injection e with e; omega
    · exact if_neg hg
  · have hlen := h.len
    by_cases hi2 : i < hs.length
    · rw [List.getElem_append_left (h := by omega), List.getElem_append_left (h := hi2)]
      exact hk.ownsRow (h.rows i hi2 (by omega)) (fun g e e2 => (h.cols _ (List.getElem_mem (by omega)) g e).2 e2)
    · have hi3 : i = hs.length := by simp at hi; omega
      subst hi3
      rw [List.getElem_append_right (by omega), List.getElem_append_right (by omega)]
      simp only [hlen, Nat.sub_self, List.getElem_cons_zero]
      exact hk.ownsRow hv (fun g e e2 => (hvc g e).2 e2)
  · rcases List.mem_append.1 hu with hu | hu
    · obtain ⟨i, hi, rfl⟩ := List.getElem_of_mem hu
      have hlt := ownsRow_lt (h.rows i (by rw [← h.len]; exact hi) hi) e
      have := h.cols _ hu g e
      exact ⟨by rw [hcol g hlt]; exact this.1, hne g hlt this.2⟩
    · rw [List.mem_singleton] at hu
      subst hu
      have hlt := ownsRow_lt hv e
      have := hvc g e
      exact ⟨by rw [hcol g hlt]; exact this.1, hne g hlt this.2⟩
theorem info26 : (Tryz.prog.info? 30).map (fun i => (i.zero, i.size, i.bytes)) = some (some (.slice none 0 0), 1, 24) := by kernel_rfl
/-- the slice at first -/
theorem files_new {w1 wr : World} {p : Nat} {d : Ds} {k B : Nat} (h : Left w1 (c0 p) p d wr) (hC : CI d k B) (hB : B ≤ 70000000000) : Calls Tryz.prog 26 #[.pointer (some ⟨p, 0, none⟩)] wr fun e w2 => ∃ ad cap, e = .returned (.slice ad d.now.length cap) ∧ MayAt w1 p d [d.now] (.slice (some ⟨w2.heap.size, 0, none⟩) 1 1) (w2.alloc (.cells #[.slice ad d.now.length cap] 30)) := by
  obtain ⟨⟨c, D, hc⟩, K⟩ := h
  have hl := hC.len D
  have hsz := K.size
  refine (files_any p c d wr D hC.calm.dn (by omega) hC.calm.nm D.srt).mono fun e w2 ⟨v, he, hr, hk⟩ => ?_
  obtain ⟨ad, cap, rfl⟩ := row_form hr
  have hs2 := hk.size
  have ka := keep_alloc (fun _ => False) w2 (.cells #[.slice ad d.now.length cap] 30)
  have hkk := hk.trans ka
  refine ⟨ad, cap, he, [.slice ad d.now.length cap], fun j => if j < wr.heap.size then c j else 7, D.keep hkk (fun j hj => if_pos hj) (fun _ _ h => h.elim), fun j hj => ?_, K.then hkk (fun _ _ h => h.elim), rfl, ⟨rfl, .inr ⟨w2.heap.size, 1, _, rfl, by omega, heap_alloc_new _ _, Nat.le_refl _, by decide, rfl, rfl⟩⟩, fun g e => ?_, fun i hi h2 => ?_, fun u hu g e => ?_⟩
  · show (if j < wr.heap.size then c j else 7) = _
    rw [if_pos (by omega)]; exact hc j hj
  · simp [Value.ownBlock] at e
    subst e
    exact if_neg (by omega)
  · have hi0 : i = 0 := by simp at hi; omega
    subst hi0
    exact ka.ownsRow (ownsRow_base hr hsz) (fun _ _ h => h)
  · rw [List.mem_singleton] at hu
    subst hu
    have h1 := ownsRow_ge hr e
    have h2 := ownsRow_lt hr e
    exact ⟨if_neg (by omega), fun e2 => by simp [Value.ownBlock] at e2; omega⟩

/-- the files as they stood behind each change -/
structure Hist (d : Ds) (hs : List (List (Bs × Bs))) : Prop where
  len : hs.length = d.ws.length + 1
  at_ : ∀ i (h : i < hs.length), hs[i] = replay (d.ws.take i) d.S
  nm : ∀ A ∈ hs, ∀ x ∈ A, nameOk x.1 = true
theorem hist_new {d : Ds} (hws : d.ws = []) (hn : NmOk d) : Hist d [d.now] := by
  refine ⟨by rw [hws]; rfl, fun i hi => ?_, fun A hA x hx => ?_⟩
  · have hi0 : i = 0 := by simp at hi; omega
    subst hi0
    show replay d.ws d.S = _
    rw [hws]; rfl
  · rw [List.mem_singleton] at hA
    subst hA
    exact hn x hx
theorem Hist.next {d : Ds} {hs : List (List (Bs × Bs))} {k B : Nat} (h : Hist d hs) (hC : CI d k B) (a : AC) : ((calD d a).2 ≠ 0 ∧ (calD d a).1 = d) ∨ ((calD d a).2 = 0 ∧ Hist (calD d a).1 (hs ++ [(calD d a).1.now])) := by
  have hC2 := hC.call a
  rcases cal_calm hC.calm a with ⟨e, hne⟩ | ⟨ch, e, _⟩
  · exact .inl ⟨hne, e⟩
  · rw [e] at hC2 ⊢
    refine .inr ⟨rfl, ?_, fun i hi => ?_, fun A hA x hx => ?_⟩
    · show _ = (d.ws ++ [ch]).length + 1
      have := h.len
      simp; omega
    · have hl := h.len
      show _ = replay ((d.ws ++ [ch]).take i) d.S
      by_cases hi2 : i < hs.length
      · rw [List.getElem_append_left (h := hi2), h.at_ i hi2, List.take_append_of_le_length (by omega)]
      · have hi3 : i = hs.length := by simp at hi; omega
        subst hi3
        rw [List.getElem_append_right (by omega)]
        simp only [Nat.sub_self, List.getElem_cons_zero]
        rw [List.take_of_length_le (by simp; omega)]
        rfl
    · rcases List.mem_append.1 hA with hA | hA
      · exact h.nm A hA x hx
      · rw [List.mem_singleton] at hA
        subst hA
        exact hC2.calm.nm x hx
theorem fail_zero (d : Ds) (keep : Int) : failS d keep 0 = replay (d.ws.take (keepN d keep)) d.S := by
  unfold failS
  split
  · rfl
  · unfold tearC; rw [if_pos (.inl (Int.le_refl _))]
theorem take_sum (ws : List Chg) (k : Nat) : ((ws.take k).map fun ch => ch.s.length).sum ≤ (ws.map fun ch => ch.s.length).sum := by
  conv => rhs; rw [← List.take_append_drop k ws]
  rw [List.map_append, List.sum_append]
  omega
theorem pre_up {d : Ds} {hs : List (List (Bs × Bs))} {k B : Nat} (h : Hist d hs) (hC : CI d k B) (hS : Srt d.S) (hm : ∀ ch ∈ d.ws, ch.kind = 2 → ch.to ≠ ch.name) (keep : Int) : CI (upD d keep 0) k B ∧ ∃ hi : keepN d keep < hs.length, (upD d keep 0).now = hs[keepN d keep] := by
  have hk : keepN d keep ≤ d.ws.length := Nat.min_le_right _ _
  have hi : keepN d keep < hs.length := by rw [h.len]; omega
  have e := up_now hC.calm.dn keep 0
  rw [fail_zero] at e
  have hb := replay_bounds (d.ws.take (keepN d keep)) d.S hS (fun ch hc => hm ch (List.mem_of_mem_take hc))
  have hn : (upD d keep 0).now = hs[keepN d keep] := by rw [h.at_ _ hi, e]; rfl
  refine ⟨⟨⟨by rw [e], by rw [e]; exact hC.calm.fl, fun x hx => ?_⟩, by rw [e]; exact hC.bd, ?_, by rw [e]; exact hC.n⟩, hi, hn⟩
  · rw [hn] at hx
    exact h.nm _ (List.getElem_mem hi) x hx
  · rw [e]
    have hw := hC.wt
    have ht := take_sum d.ws (keepN d keep)
    show tot (replay (d.ws.take (keepN d keep)) d.S) + 0 + (replay (d.ws.take (keepN d keep)) d.S).length + 0 ≤ B
    unfold Ds.wt at hw
    have hl : (d.ws.take (keepN d keep)).length ≤ d.ws.length := by rw [List.length_take]; omega
    omega
end Go.Proofs.YtedogofeibdjiaaGreat
namespace Go.Proofs.YtedogofeibdjiaaGreat
open Go.RowKit Go.Maps
set_option linter.unusedVariables false
set_option linter.unusedSimpArgs false

theorem less_bef : ∀ a b : List UInt8, Op.bytesLess a b = bytesBefore a b
  | [], [] => rfl
  | [], _ :: _ => rfl
  | _ :: _, [] => rfl
  | x :: r, y :: s => by simp only [Op.bytesLess, bytesBefore, less_bef r s]
theorem tx_less (a b : Bs) : Op.bytesLess (tx a).toList (tx b).toList = bytesBefore a b := by
  rw [ByteArray.toList_eq, ByteArray.toList_eq, tx_list, tx_list, less_bef]
/-- where a name stands, or would stand -/
structure FindIs (A : List (Bs × Bs)) (n : Bs) (k : Nat) (b : Bool) : Prop where
  le : k ≤ A.length
  bef : ∀ i (h : i < A.length), i < k → bytesBefore A[i].1 n = true
  stop : ∀ (h : k < A.length), bytesBefore A[k].1 n = false
  is : b = true ↔ ∃ h : k < A.length, A[k].1 = n

set_option maxRecDepth 100000 in
set_option maxHeartbeats 2000000 in
theorem find_any (A : List (Bs × Bs)) (v : Value) (n : Bs) (w : World) (hr : FileRow w 0 v A) (hl : A.length ≤ 70368744177) :
    Calls Tryz.prog 54 #[v, .string (tx n)] w fun e w' => ∃ (k : Nat) (b : Bool), e = .returned (.tuple #[.int .i64 (k : Int), .bool b]) ∧ FindIs A n k b ∧ Keep (fun _ => False) w w' := by
  obtain ⟨ad, cap, rfl⟩ := row_form hr
  have HC : Hid (∀ (k : Nat) (hk : k < A.length), ∃ g, ad = some ⟨g, 0, none⟩ ∧ w.cell? ⟨g, k * 2, none⟩ = some (.string (tx A[k].1))) := by
    intro k hk
    rcases file_form hr with ⟨e, _⟩ | ⟨g, c1, e1⟩
    · rw [e] at hk; simp at hk
    have e2 := e1
    rw [e1] at hr
    have hc1 := file_cell hr hk
    injection e2 with e2
    exact ⟨g, e2, hc1.1⟩
  clear hr
  go_enter Tryz.func54, Tryz.ntmps54
  go_wp2
  go_loopw [6] (fun i wr => ∃ k : Nat, k ≤ A.length ∧ i = .int .i64 k ∧ wr = w ∧ Hid (∀ i (h : i < A.length), i < k → bytesBefore A[i].1 n = true)) (fun i _ => A.length - (intOf i).toNat)
  case atStart => exact ⟨0, by omega, rfl, rfl, fun i h hk => by omega⟩
  case round =>
    obtain ⟨k, hk, rfl, rfl, HB⟩ := hrel
    by_cases hlt : k < A.length
    · have hk0 : (0 : Int) ≤ (k : Int) := by omega
      have hk1 : (k : Int) < (A.length : Int) := by omega
      have hk1d : decide ((k : Int) < (A.length : Int)) = true := decide_eq_true hk1
      obtain ⟨g, hg, q0⟩ := HC.out k hlt
      have hL := tx_less A[k].1 n
      have hE := tx_beq A[k].1 n
      subst hg
      by_cases hb : bytesBefore A[k].1 n = true
      · rw [hb] at hL
        have HB2 : Hid (∀ i (h : i < A.length), i < k + 1 → bytesBefore A[i].1 n = true) := fun i h hi => by
          by_cases e : i = k
          · subst e; exact hb
          · exact HB.out i h (by omega)
        clear HC HB hE hb
        generalize tx A[k].1 = X at *
        generalize tx n = Y at *
        go_wp2
        exact ⟨⟨k + 1, by omega, by go_num, trivial, HB2⟩, by simp [intOf]; omega⟩
      · have hbf : bytesBefore A[k].1 n = false := by simpa using hb
        rw [hbf] at hL
        by_cases he : A[k].1 = n
        · have HF : Hid (FindIs A n k true) := ⟨hk, HB.out, fun _ => hbf, by simp; exact ⟨hlt, he⟩⟩
          rw [decide_eq_true he] at hE
          clear HC HB hb hbf he
          generalize tx A[k].1 = X at *
          generalize tx n = Y at *
          go_wp2
          go_quiet (fail)
          go_wp2
          go_ret2
          exact ⟨k, _, rfl, HF.out, keep_drewN _ _⟩
        · have HF : Hid (FindIs A n k false) := ⟨hk, HB.out, fun _ => hbf, by simp; exact fun _ => he⟩
          rw [decide_eq_false he] at hE
          clear HC HB hb hbf he
          generalize tx A[k].1 = X at *
          generalize tx n = Y at *
          go_wp2
          go_quiet (fail)
          go_wp2
          go_ret2
          exact ⟨k, _, rfl, HF.out, keep_drewN _ _⟩
    · have hd : decide ((k : Int) < (A.length : Int)) = false := decide_eq_false (by omega)
      have HF : Hid (FindIs A n k false) := ⟨hk, HB.out, fun h => absurd h hlt, by simp; exact fun h => absurd h hlt⟩
      clear HC HB
      go_wp2
      go_quiet (fail)
      go_wp2
      go_ret2
      exact ⟨k, _, rfl, HF.out, keep_drewN _ _⟩
end Go.Proofs.YtedogofeibdjiaaGreat
namespace Go.Proofs.YtedogofeibdjiaaGreat
open Go.RowKit Go.Maps
set_option linter.unusedVariables false
set_option linter.unusedSimpArgs false

theorem bb_irrefl (a : Bs) : bytesBefore a a = false := WideAt.bytes_irrefl a
theorem bb_total {a b : Bs} (h : bytesBefore a b = false) (hne : a ≠ b) : bytesBefore b a = true := by
  rcases WideAt.bytes_total a b hne with h2 | h2
  · rw [h] at h2; cases h2
  · exact h2
theorem bb_asymm {a b : Bs} (h : bytesBefore a b = true) : bytesBefore b a = false := by
  cases h2 : bytesBefore b a
  · rfl
  · have := WideShapes.bytes_trans a b a h h2
    rw [bb_irrefl] at this; cases this
theorem bb_ne {a b : Bs} (h : bytesBefore a b = true) : a ≠ b := fun e => by rw [e, bb_irrefl] at h; cases h
theorem kdel_id {A : List (Bs × Bs)} {n : Bs} (h : ∀ y ∈ A, y.1 ≠ n) : kdel A n = A := by
  unfold kdel
  rw [List.filter_eq_self]
  intro z hz
  simpa using h z hz
theorem kins_head {A : List (Bs × Bs)} {n v : Bs} (h : ∀ y ∈ A, bytesBefore n y.1 = true) : kins (n, v) A = (n, v) :: A := by
  cases A with
  | nil => rfl
  | cons y r =>
    have := h y (by simp)
    unfold kins
    rw [if_pos (show (Lit.string n).before (.string y.1) = true from this)]
theorem srt_cons {y : Bs × Bs} {r : List (Bs × Bs)} (h : Srt (y :: r)) : (∀ z ∈ r, bytesBefore y.1 z.1 = true) ∧ Srt r := by
  have := List.pairwise_cons.1 h
  exact ⟨fun z hz => this.1 z hz, this.2⟩
theorem FindIs.tail {y : Bs × Bs} {r : List (Bs × Bs)} {n : Bs} {k : Nat} {b : Bool} (h : FindIs (y :: r) n (k + 1) b) : FindIs r n k b := by
  refine ⟨by have := h.le; simp at this; omega, fun i hi hk => h.bef (i + 1) (by simp; omega) (by omega), fun hk => h.stop (by simp; omega), ?_⟩
  rw [h.is]
  constructor
  · rintro ⟨h1, h2⟩; exact ⟨by simpa using h1, h2⟩
  · rintro ⟨h1, h2⟩; exact ⟨by simpa using h1, h2⟩
theorem find_put (n v : Bs) : ∀ (A : List (Bs × Bs)) (k : Nat) (b : Bool), Srt A → FindIs A n k b → A.take k ++ (n, v) :: A.drop (if b then k + 1 else k) = kput A n v
  | [], k, b, _, h => by
    have hk : k = 0 := by have := h.le; simpa using this
    subst hk
    simp [kput, kdel, kins]
  | y :: r, 0, b, hs, h => by
    obtain ⟨hy, hr⟩ := srt_cons hs
    have hst := h.stop (by simp)
    simp only [List.getElem_cons_zero] at hst
    by_cases he : y.1 = n
    · have hb : b = true := h.is.2 ⟨by simp, he⟩
      subst hb
      have hall : ∀ z ∈ r, bytesBefore n z.1 = true := fun z hz => he ▸ hy z hz
      have e1 : kdel (y :: r) n = r := by
        have := kdel_id (A := r) (n := n) (fun z hz e => by have := bb_ne (hall z hz); exact this e.symm)
        unfold kdel at this ⊢
        rw [List.filter_cons, if_neg (by simp [he]), this]
      unfold kput
      rw [e1, kins_head hall]
      rfl
    · have hb : b = false := by
        cases b with
        | false => rfl
        | true => obtain ⟨_, h2⟩ := h.is.1 rfl; exact absurd h2 he
      subst hb
      have hny := bb_total hst he
      have hall : ∀ z ∈ y :: r, bytesBefore n z.1 = true := fun z hz => by
        rcases List.mem_cons.1 hz with rfl | hz
        · exact hny
        · exact WideShapes.bytes_trans _ _ _ hny (hy z hz)
      unfold kput
      rw [kdel_id (fun z hz e => (bb_ne (hall z hz)) e.symm), kins_head hall]
      rfl
  | y :: r, k + 1, b, hs, h => by
    obtain ⟨hy, hr⟩ := srt_cons hs
    have hb := h.bef 0 (by simp) (by omega)
    simp only [List.getElem_cons_zero] at hb
    have ih := find_put n v r k b hr h.tail
    have e1 : kdel (y :: r) n = y :: kdel r n := by unfold kdel; rw [List.filter_cons, if_pos (by simpa using bb_ne hb)]
    have e2 : kput (y :: r) n v = y :: kput r n v := by
      unfold kput
      rw [e1]
      conv => lhs; unfold kins
      rw [if_neg (by show ¬ bytesBefore n y.1 = true; rw [bb_asymm hb]; decide)]
    rw [e2, ← ih]
    cases b <;> rfl
theorem find_some {A : List (Bs × Bs)} {n : Bs} {k : Nat} (hs : Srt A) (h : FindIs A n k true) : ∃ hk : k < A.length, A[k].1 = n ∧ kget A n = some A[k].2 := by
  obtain ⟨hk, he⟩ := h.is.1 rfl
  refine ⟨hk, he, srt_mem hs ?_⟩
  rw [← he]
  exact List.getElem_mem hk
theorem find_none {A : List (Bs × Bs)} {n : Bs} {k : Nat} (hs : Srt A) (h : FindIs A n k false) : kget A n = none := by
  cases hg : kget A n with
  | none => rfl
  | some u =>
    exfalso
    obtain ⟨i, hi, e⟩ := List.getElem_of_mem (kget_mem hg)
    have e1 : A[i].1 = n := by rw [e]
    by_cases h1 : i < k
    · have := h.bef i hi h1
      rw [e1, bb_irrefl] at this; cases this
    · by_cases h2 : i = k
      · subst h2
        have := h.is.2 ⟨hi, e1⟩
        cases this
      · have hk : k < A.length := by omega
        have h3 := h.stop hk
        have h4 : bytesBefore A[k].1 A[i].1 = true := List.pairwise_iff_getElem.1 hs k i hk hi (by omega)
        rw [e1, h3] at h4
        cases h4
end Go.Proofs.YtedogofeibdjiaaGreat
namespace Go.Proofs.YtedogofeibdjiaaGreat
open Go.RowKit Go.Maps
set_option linter.unusedVariables false
set_option linter.unusedSimpArgs false

theorem row_cells {w : World} {A : List (Bs × Bs)} {ad : Option Addr} {n cap B : Nat} (hr : w.ownsRow B 59 2 (.slice ad n cap) A.length (fC A)) : ∀ (k : Nat) (hk : k < A.length), ∃ g, ad = some ⟨g, 0, none⟩ ∧ g < w.heap.size ∧ w.cell? ⟨g, k * 2, none⟩ = some (.string (tx A[k].1)) ∧ w.cell? ⟨g, k * 2 + 1, none⟩ = some (.string (tx A[k].2)) := by
  intro k hk
  rcases file_form hr with ⟨e, _⟩ | ⟨g, c1, e1⟩
  · rw [e] at hk; simp at hk
  have e2 := e1
  rw [e1] at hr
  have hc1 := file_cell hr hk
  injection e2 with e2
  exact ⟨g, e2, ownsRow_lt hr rfl, hc1.1, hc1.2⟩
theorem kdel_snoc (A : List (Bs × Bs)) (n : Bs) (k : Nat) (hk : k < A.length) : kdel (A.take (k + 1)) n = kdel (A.take k) n ++ (if A[k].1 = n then [] else [A[k]]) := by
  rw [List.take_succ_eq_append_getElem hk]
  unfold kdel
  rw [List.filter_append]
  by_cases h : A[k].1 = n
  · rw [if_pos h, List.filter_cons, if_neg (by simp [h])]; rfl
  · rw [if_neg h, List.filter_cons, if_pos (by simpa using h)]; rfl

set_option maxRecDepth 100000 in
set_option maxHeartbeats 2000000 in
theorem without_any (A : List (Bs × Bs)) (v : Value) (n : Bs) (w : World) (hr : FileRow w 0 v A) (hl : A.length ≤ 70368744177) :
    Calls Tryz.prog 56 #[v, .string (tx n)] w fun e w' => ∃ v', e = .returned v' ∧ FileRow w' w.heap.size v' (kdel A n) ∧ Keep (fun _ => False) w w' := by
  obtain ⟨ad, cap, rfl⟩ := row_form hr
  have HC := hid (row_cells hr)
  have HS := hid (kdel_snoc A n)
  have HT : Hid (A.take A.length = A) := List.take_length
  have H0 : Hid (w.ownsRow w.heap.size 59 2 (.slice none 0 0) 0 (fC (kdel (A.take 0) n))) := ⟨rfl, .inl ⟨rfl, rfl⟩⟩
  clear hr
  go_enter Tryz.func56, Tryz.ntmps56
  go_wp2
  go_loopw [5, 6] (fun o i wr => ∃ k : Nat, k ≤ A.length ∧ i = .int .i64 k ∧ (∃ ad' m cp, o = .slice ad' m cp ∧ Hid (m = (kdel (A.take k) n).length ∧ wr.ownsRow w.heap.size 59 2 (.slice ad' m cp) m (fC (kdel (A.take k) n)))) ∧ Hid (Keep (fun _ => False) w wr)) (fun _ i _ => A.length - (intOf i).toNat)
  case atStart => exact ⟨0, by omega, rfl, ⟨none, 0, 0, rfl, rfl, H0.out⟩, Keep.refl _ _⟩
  case round =>
    clear H0
    obtain ⟨k, hk, rfl, ⟨ad', m, cp, rfl, HO⟩, HK⟩ := hrel
    by_cases hlt : k < A.length
    · have hk0 : (0 : Int) ≤ (k : Int) := by omega
      have hk1 : (k : Int) < (A.length : Int) := by omega
      obtain ⟨g, hg, hgl, q0', q1'⟩ := HC.out k hlt
      have q0 := (HK.out.cell (o := k * 2) hgl (fun h => h)).trans q0'
      have q1 := (HK.out.cell (o := k * 2 + 1) hgl (fun h => h)).trans q1'
      have HS1 := hid (HS.out k hlt)
      have hE := tx_beq A[k].1 n
      have HML : Hid (m ≤ 70368744177) := by
        have h1 := HO.out.1
        have h2 := len_kdel (A.take k) n
        rw [List.length_take] at h2
        show _ ≤ _
        omega
      have HBW : Hid (w.heap.size ≤ wr.heap.size) := HK.out.size
      subst hg
      clear HC HS q0' q1' hgl
      by_cases he : A[k].1 = n
      · rw [decide_eq_true he] at hE
        have HO2 : Hid (m = (kdel (A.take (k + 1)) n).length ∧ wr.ownsRow w.heap.size 59 2 (.slice ad' m cp) m (fC (kdel (A.take (k + 1)) n))) := by
          rw [if_pos he, List.append_nil] at HS1
          rw [HS1.out]; exact HO.out
        clear he HS1 HO
        generalize tx A[k].1 = X at *
        generalize tx n = Y at *
        go_wp2
        exact ⟨⟨k + 1, by omega, by go_num, ⟨_, _, _, rfl, HO2⟩, HK⟩, by simp [intOf]; omega⟩
      · rw [decide_eq_false he] at hE
        rw [if_neg he] at HS1
        clear he
        generalize hy : A[k] = y at *
        clear hy
        have HMc : Hid (#[Value.string (tx y.1), .string (tx y.2)] = (fC1 y).toArray) := rfl
        have HR := hid HO.out.2
        have HTS := hid HO.out.1
        clear HO
        generalize tx y.1 = X at *
        generalize tx y.2 = X2 at *
        generalize tx n = Y at *
        go_wp2_with (at_builtin; (refine wpl_file rfl _ _ rfl w.heap.size (.slice ad' m cp) (kdel (A.take k) n) m HTS.out y wr _ HMc.out rfl rfl rfl HR.out HBW.out HML.out ?_; intro ad1 cap1 w6 hr6 hk6))
        rw [← HS1.out] at hr6
        have HO6 : Hid (m + 1 = (kdel (A.take (k + 1)) n).length ∧ w6.ownsRow w.heap.size 59 2 (.slice ad1 (m + 1) cap1) (m + 1) (fC (kdel (A.take (k + 1)) n))) := by
          refine ⟨?_, hr6⟩
          rw [HS1.out, List.length_append, ← HTS.out]; rfl
        have HK6 : Hid (Keep (fun _ => False) w w6) := HK.out.then hk6 (fun j hj e => by have := ownsRow_ge HR.out e; omega)
        clear hr6 hk6 HR HTS HMc HS1 HK q0 q1
        go_wp2
        exact ⟨⟨k + 1, by omega, by go_num, ⟨_, _, _, rfl, HO6⟩, HK6⟩, by simp [intOf]; omega⟩
    · have hd : decide ((k : Int) < (A.length : Int)) = false := decide_eq_false (by omega)
      have hkA : k = A.length := by omega
      subst hkA
      rw [HT.out] at HO
      have HO2 := hid (show FileRow wr w.heap.size (.slice ad' m cp) (kdel A n) by
        have h := HO.out.2
        have e := HO.out.1
        unfold FileRow
        rw [← e]
        exact h)
      clear HO HC HS
      go_wp2
      go_ret
      exact ⟨_, rfl, HO2.out, HK.out⟩
end Go.Proofs.YtedogofeibdjiaaGreat
namespace Go.Proofs.YtedogofeibdjiaaGreat
open Go.RowKit Go.Maps
set_option linter.unusedVariables false
set_option linter.unusedSimpArgs false

theorem fC_len (A : List (Bs × Bs)) : (fC A).length = A.length * 2 := by
  induction A with
  | nil => rfl
  | cons x r ih => simp [fC, fC1] at ih ⊢; omega
theorem fC_append (A B : List (Bs × Bs)) : fC (A ++ B) = fC A ++ fC B := by simp [fC]
theorem fC_cells (A : List (Bs × Bs)) : ∀ u ∈ fC A, u.oneCell' = true := by
  intro u hu
  unfold fC at hu
  obtain ⟨x, _, hx⟩ := List.mem_flatMap.1 hu
  exact fC1_cell1 x u hx
/-- files that are read from a slice -/
def SrcIs (w : World) (x : Value) (A : List (Bs × Bs)) : Prop := (∃ c, x = .slice none 0 c ∧ A = []) ∨ ∃ g off c, x = .slice (some ⟨g, off, none⟩) A.length c ∧ g < w.heap.size ∧ ∀ j u, (fC A)[j]? = some u → w.cell? ⟨g, off + j, none⟩ = some u
theorem SrcIs.keep {w w' : World} {x : Value} {A : List (Bs × Bs)} (h : SrcIs w x A) (S : Nat → Prop) (k : Keep S w w') (hS : ∀ g, g < w.heap.size → ¬ S g) : SrcIs w' x A := by
  rcases h with h | ⟨g, off, c, e, hg, hc⟩
  · exact .inl h
  · exact .inr ⟨g, off, c, e, Nat.lt_of_lt_of_le hg k.size, fun j u hu => (k.cell hg (hS g hg)).trans (hc j u hu)⟩
theorem size50 : (Tryz.prog.info? 59).map (·.size) = some 2 := by kernel_rfl
theorem row_at {w : World} {B n g cap k : Nat} {xs : List Value} {u : Value} (h : w.ownsRow B 59 2 (.slice (some ⟨g, 0, none⟩) n cap) n xs) (hk : xs[k]? = some u) : w.cell? ⟨g, k, none⟩ = some u := by
  obtain ⟨h1, h2⟩ := h
  rcases h2 with ⟨e, _⟩ | ⟨g', cap', cur, e, hg, hb, hn, hm, hs, ht⟩
  · injection e with e; cases e
  · injection e with e1 e2 e3
    injection e1 with e1
    injection e1 with e1
    subst e1
    have hkl : k < xs.length := (List.getElem?_eq_some_iff.1 hk).1
    rw [cell_of_row _ _ _ _ _ _ hb, ← hk, ← ht, List.getElem?_take_of_lt (by omega)]
    simp
theorem src_to {w : World} {v : Value} {A : List (Bs × Bs)} {B : Nat} (h : FileRow w B v A) (k : Nat) (hk : k ≤ A.length) : ∃ x, SrcIs w x (A.take k) ∧ ∀ W : World, (Instr.slice 30 v none (some (.int .i64 (k : Int))) none).run Tryz.prog W = .ok x W := by
  obtain ⟨i0, hi, _⟩ := Option.map_eq_some_iff.1 size50
  rcases h.2 with ⟨e, h0⟩ | ⟨g, cap, cur, e, _, hb, hn, _⟩
  · have hk0 : k = 0 := by omega
    subst hk0 e
    refine ⟨.slice none 0 0, .inl ⟨0, rfl, by simp⟩, fun W => ?_⟩
    simp [Instr.slice, Instr.sliceBounds, Instr.sliceBound, asIntOf, run_underlying Tryz.underlying30, sizeOf, typeInfo, hi, Result.andThen]
  · refine ⟨.slice (some ⟨g, 0, none⟩) (A.take k).length cap, .inr ⟨g, 0, cap, rfl, (Array.getElem?_eq_some_iff.1 hb).1, fun j u hu => ?_⟩, fun W => ?_⟩
    · have hr := h
      rw [e] at hr
      rw [Nat.zero_add]
      refine row_at hr ?_
      have : fC A = fC (A.take k) ++ fC (A.drop k) := by rw [← fC_append, List.take_append_drop]
      rw [this, List.getElem?_append_left (List.getElem?_eq_some_iff.1 hu).1]
      exact hu
    · have e1 : (0 : Int) ≤ (k : Int) := by omega
      have e2 : k ≤ cap := by omega
      have e3 : (⟨g, 0, none⟩ : Addr).add 0 = ⟨g, 0, none⟩ := rfl
      have e4 : min k A.length = k := by omega
      simp [Instr.slice, Instr.sliceBounds, Instr.sliceBound, asIntOf, run_underlying Tryz.underlying30, sizeOf, typeInfo, hi, Result.andThen, e, e1, e2, e3, e4]
theorem src_from {w : World} {v : Value} {A : List (Bs × Bs)} {B : Nat} (h : FileRow w B v A) (k : Nat) (hk : k ≤ A.length) : ∃ x, SrcIs w x (A.drop k) ∧ ∀ W : World, (Instr.slice 30 v (some (.int .i64 (k : Int))) none none).run Tryz.prog W = .ok x W := by
  obtain ⟨i0, hi, hi2⟩ := Option.map_eq_some_iff.1 size50
  rcases h.2 with ⟨e, h0⟩ | ⟨g, cap, cur, e, _, hb, hn, _⟩
  · have hk0 : k = 0 := by omega
    subst hk0 e
    refine ⟨.slice none 0 0, .inl ⟨0, rfl, by simp; exact List.length_eq_zero_iff.1 h0⟩, fun W => ?_⟩
    simp [Instr.slice, Instr.sliceBounds, Instr.sliceBound, asIntOf, run_underlying Tryz.underlying30, sizeOf, typeInfo, hi, Result.andThen]
  · have e1 : (0 : Int) ≤ (k : Int) := by omega
    have hlt := (Array.getElem?_eq_some_iff.1 hb).1
    by_cases hc : cap = k
    · have hkA : k = A.length := by omega
      refine ⟨.slice (some ⟨g, 0, none⟩) (A.drop k).length (cap - k), .inr ⟨g, 0, _, rfl, hlt, fun j u hu => ?_⟩, fun W => ?_⟩
      · rw [hkA] at hu; simp [fC] at hu
      · simp [Instr.slice, Instr.sliceBounds, Instr.sliceBound, asIntOf, run_underlying Tryz.underlying30, sizeOf, typeInfo, hi, Result.andThen, e, e1, hk, hc]
    · refine ⟨.slice (some ⟨g, k * 2, none⟩) (A.drop k).length (cap - k), .inr ⟨g, k * 2, _, rfl, hlt, fun j u hu => ?_⟩, fun W => ?_⟩
      · have hr := h
        rw [e] at hr
        refine row_at hr ?_
        have h1 : fC A = fC (A.take k) ++ fC (A.drop k) := by rw [← fC_append, List.take_append_drop]
        have h2 : (fC (A.take k)).length = k * 2 := by rw [fC_len, List.length_take]; omega
        rw [h1, List.getElem?_append_right (by omega), h2, Nat.add_sub_cancel_left]
        exact hu
      · have e3 : (⟨g, 0, none⟩ : Addr).add (k * 2) = ⟨g, k * 2, none⟩ := by rw [Addr.add_lit, Nat.zero_add]
        simp [Instr.slice, Instr.sliceBounds, Instr.sliceBound, asIntOf, run_underlying Tryz.underlying30, sizeOf, typeInfo, hi, Result.andThen, e, e1, hk, hc, hi2, e3]
theorem app_src {w : World} {B n : Nat} {v x : Value} {xs : List Value} {A : List (Bs × Bs)} (ty : TypeId) (h0 : w.ownsRow B 59 2 v n xs) (hB : B ≤ w.heap.size) (hx : SrcIs w x A) (hl : n + A.length ≤ 70368744177) :
    ∃ ad' cap' w', (Builtin.append_ #[30, 30] ty #[v, x]).run Tryz.prog w = .ok (.slice ad' (n + A.length) cap') w' ∧ w'.ownsRow B 59 2 (.slice ad' (n + A.length) cap') (n + A.length) (xs ++ fC A) ∧ Keep (fun k => v.ownBlock = some k) w w' := by
  obtain ⟨i0, hi, hz0, hz1, hz2⟩ := info_parts info50
  rcases hx with ⟨c, rfl, rfl⟩ | ⟨g, off, c, rfl, hg, hc⟩
  · obtain ⟨ad, cap, rfl⟩ := row_form h0
    have hle : n ≤ cap := by
      rcases h0.2 with ⟨e, h⟩ | ⟨g, cap', cur, e, _, _, h, _⟩
      · omega
      · injection e with _ _ e3; omega
    refine ⟨ad, cap, w, ?_, by simpa [fC] using h0, Keep.refl _ _⟩
    cases ad <;> simp [Builtin.append_, run_underlying Tryz.underlying30, sizeOf, typeInfo, hi, Builtin.lenOf, Builtin.firstCells, hle, storeCells]
  · obtain ⟨v', w', hr, h2, h3, h4, h5⟩ := run_append_own_at (P := Tryz.prog) w B 30 ty 59 i0 _ 2 32 Tryz.underlying30 hi hz0 hz1 hz2 rfl (by decide) v n xs h0 ⟨g, off, none⟩ A.length c (fC A) (fC_len A)
      (fun j u hu => by rw [Addr.add_lit]; exact hc j u hu) (fC_cells A) (by unfold maxLen; omega) (by omega) hB
    obtain ⟨ad', cap', rfl⟩ := row_form h2
    exact ⟨ad', cap', w', hr, h2, ⟨h3.os, h3.tape, h3.output, h3.size, fun k hk hn => h3.block k hk (fun e => hn e.symm)⟩⟩
end Go.Proofs.YtedogofeibdjiaaGreat
