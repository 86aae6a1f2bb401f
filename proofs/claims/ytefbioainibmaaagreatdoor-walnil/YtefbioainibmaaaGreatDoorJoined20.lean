/- Joined: A map's keys, sorted: what the library's contracts say at this program. The walks of the laws' own reading of all files, and of their being the same. The walk of two lists of files that are the same; and of a call as an act says. What becomes of a disk in the law DiskRoom; nothing of the program stands here. The walk of the law DiskRoom. A disk that some acts have changed, without falls and a room; nothing of the program stands here. What becomes of a disk in the law DiskSynced; nothing of the program stands here. The walk of 'changed'. The walk of the law DiskSynced. The walk of the law DiskSynced, its body. A slice of all files as they stood, beside a disk that goes on. The reference's Find. What Find's place is good for; nothing of the program stands here. The reference's without. 'append(out, l[a:b]...)' on rows of files. The reference's with. The reference's Do: Append, Write, Remove. The reference's Do: Write, Remove. The reference's Do: Move. The reference's Do: Cut. The reference's Do. The reference's disk, and its files. The reference's Used. The reference's Read. The reference's Sync. What becomes of a disk in the law DiskPlays; nothing of the program stands here. -/
import Derived.Test.YtefbioainibmaaaGreatDoorLaid
import Derived.Test.YtefbioainibmaaaGreatDoorJoined17
import Derived.Sort.KeysCollected
import Derived.BigQuiet
import Derived.Test.YtefbioainibmaaaGreatDoorJoined04
import Derived.Laws.ResultCell
namespace Go.Proofs.YtefbioainibmaaaGreatDoor
open Go.RowKit Go.Maps Go.Sort Go.Shelf
set_option linter.unusedVariables false

theorem sortsAt (m : Nat) : AnyZ.SortsIn Tryz.prog sortedLaid_ren Fence.wide m :=
  ⟨fun blk off cap ss W hH hblk hsz => callsIn_wide.2 (AnyM.slices_Sort_string sortLaid blk off cap ss W hH hblk hsz), fun p cap W => callsIn_wide.2 (AnyM.slices_Sort_string_none sortLaid p cap W)⟩

theorem keysC : KeysC := fun mb W => callsIn_wide.1 (AnyZ.keys_in keysLaid Fence.wide 5 trivial rfl mb W)

theorem bef_lt : ∀ (a b : List UInt8), bytesBefore a b = true → a < b
  | [], [], h => by simp [bytesBefore] at h
  | [], _ :: _, _ => by simp
  | _ :: _, [], h => by simp [bytesBefore] at h
  | x :: r, y :: s, h => by
    simp [bytesBefore] at h
    rcases h with h | ⟨rfl, h⟩
    · exact List.Lex.rel h
    · exact List.Lex.cons (bef_lt r s h)
theorem srt_le {L : List (Bs × Value)} (h : Srt L) : (L.map (·.1)).mergeSort (fun x y => decide (x ≤ y)) = L.map (·.1) := by
  refine List.mergeSort_of_pairwise ?_
  rw [List.pairwise_map]
  refine h.imp fun {x y} hb => ?_
  simp
  have := bef_lt x.1 y.1 hb
  exact List.le_of_lt this
theorem strKeys_mp (L : List (Bs × Value)) : strKeys (mp L) = L.map (·.1) := by
  unfold mp strKeys
  simp [strOf]

set_option maxHeartbeats 1000000 in
theorem sortedC : SortedC := by
  intro mo L w hm hs hl
  rcases hm with ⟨rfl, rfl⟩ | ⟨b, rfl, hown⟩
  · have hseq : SeqGives Fence.wide 2 Tryz.prog 129 #[.pointer (some ⟨w.heap.size, 0, none⟩)] encStr (fun ss : List (List UInt8) => ss = []) 0 (w.alloc (.cells #[.map none] 118)) :=
      AnyZ.keys_gives_nil (ρ := keysLaid_ren) { keysLaid with } Fence.wide _ trivial rfl w.heap.size _ (by simp) (by simp)
    have h := AnyZ.sorted_in sortedLaid Fence.wide 5 trivial trivial trivial trivial rfl (by omega) (sortsAt _) (enters_of Tryz.func128 (by kernel_rfl) rfl) 129 #[.pointer (some ⟨w.heap.size, 0, none⟩)] trivial (enters_of Tryz.func129 (by kernel_rfl) rfl) _ 0 (Nat.zero_le _) (by omega) _ hseq
    refine (callsIn_wide.1 h).mono fun e w' ⟨v, ss, he, hS, hrow, hnil, hb⟩ => ⟨v, he, ?_, hb.keep _⟩
    subst hS
    have hv : v = .slice none 0 0 := hnil.2 rfl
    subst hv
    exact ⟨rfl, .inl ⟨rfl, rfl⟩⟩
  · have hbl := World.ownsMap.lt hown
    have hsz : Maps.size (mp L) = L.length := mp_size L
    have hseq : SeqGives Fence.wide 2 Tryz.prog 129 #[.pointer (some ⟨w.heap.size, 0, none⟩)] encStr (fun ss => ss.Perm (strKeys (mp L))) (Maps.size (mp L)) (w.alloc (.cells #[.map (some b)] 118)) :=
      AnyZ.keys_gives (ρ := keysLaid_ren) { keysLaid with } Fence.wide _ trivial rfl (by omega) w.heap.size b L.length (mp L) _ (by simp) (by simp) (by
        obtain ⟨es, clock, hb, Ft, hs, hD⟩ := hown
        exact ⟨es, clock, (Below.heap_alloc _ _ b hbl).trans hb, Ft, hs, hD⟩)
    have h := AnyZ.sorted_in sortedLaid Fence.wide 5 trivial trivial trivial trivial rfl (by omega) (sortsAt _) (enters_of Tryz.func128 (by kernel_rfl) rfl) 129 #[.pointer (some ⟨w.heap.size, 0, none⟩)] trivial (enters_of Tryz.func129 (by kernel_rfl) rfl) _ _ (by rw [hsz]; unfold maxLen; omega) (by rw [hsz]; omega) _ hseq
    refine (callsIn_wide.1 h).mono fun e w' ⟨v, ss, he, hS, hrow, hnil, hb⟩ => ⟨v, he, ?_, hb.keep _⟩
    have e1 : ss.mergeSort (fun x y => decide (x ≤ y)) = L.map (·.1) := (mergeSort_of_perm hS).trans (by rw [strKeys_mp]; exact srt_le hs)
    have e2 : ss.length = L.length := by have := hS.length_eq; rw [strKeys_mp] at this; simpa using this
    rw [e1, e2] at hrow
    have e3 : (w.alloc (.cells #[.map (some b)] 118)).heap.size = w.heap.size + 1 := by simp
    rw [e3] at hrow
    have e4 : (L.map (·.1)).map encStr = nmC L := by simp [nmC, encStr]
    rw [e4] at hrow
    exact hrow
end Go.Proofs.YtefbioainibmaaaGreatDoor
namespace Go.Proofs.YtefbioainibmaaaGreatDoor
open Go.RowKit Go.Maps
set_option linter.unusedVariables false
set_option linter.unusedSimpArgs false

/-- files as cells -/
def fC1 (x : Bs × Bs) : List Value := [.string (tx x.1), .string (tx x.2)]
def fC (A : List (Bs × Bs)) : List Value := A.flatMap fC1
theorem fC1_cell1 (x : Bs × Bs) : ∀ u ∈ fC1 x, u.oneCell' = true := by
  intro u hu
  simp [fC1] at hu
  rcases hu with rfl | rfl <;> rfl
theorem info50 : (Tryz.prog.info? 76).map (fun i => (i.zero, i.size, i.bytes)) = some (some (.agg #[.string ⟨#[]⟩, .string ⟨#[]⟩]), 2, 32) := by kernel_rfl

/-- 'append(out, f)' at the operation -/
theorem wpl_file {w : World} {ops : Array Oper} {rest : List Oper} {o : Oper} {a : Act} {Q : Exit → Act → World → Prop} (hgd : o.guard = none) (sl x : Operand)
    (ho : o.op = .call { callee := .builtin .append, args := #[sl, x], argTypes := #[22, 22] }) (B : Nat) (v : Value) (fs : List (Bs × Bs)) (n : Nat) (hn : n = fs.length) (y : Bs × Bs) (w0 : World) (Mc : Array Value) (hMc : Mc = (fC1 y).toArray) (hw : w = w0.alloc (.cells Mc 76))
    (hs : a.eval sl = v) (hx : a.eval x = .slice (some ⟨w0.heap.size, 0, none⟩) 1 1) (h0 : w0.ownsRow B 76 2 v n (fC fs)) (hB : B ≤ w0.heap.size) (hl : n ≤ 70368744177)
    (h : ∀ ad' cap' w', w'.ownsRow B 76 2 (.slice ad' (n + 1) cap') (n + 1) (fC (fs ++ [y])) → Keep (fun k => v.ownBlock = some k) w0 w' → wpList Tryz.prog ops Q rest (a.put o.dst (.slice ad' (n + 1) cap')) w') : wpList Tryz.prog ops Q (o :: rest) a w := by
  subst hMc hw hn
  refine wpList_plain hgd fun K hK => ?_
  obtain ⟨i0, hi, hz0, hz1, hz2⟩ := info_parts info50
  have ka := keep_alloc (fun _ => False) w0 (.cells (fC1 y).toArray 76)
  obtain ⟨v', w', hr, h2, h3, h4, h5⟩ := run_append_own_at (P := Tryz.prog) (w0.alloc (.cells (fC1 y).toArray 76)) B 22 o.type 76 i0 _ 2 32 Tryz.underlying22 hi hz0 hz1 hz2 rfl (by decide) v fs.length (fC fs) (ka.ownsRow h0 (fun _ _ h => h)) ⟨w0.heap.size, 0, none⟩ 1 1 (fC1 y) rfl
    (fun j u hu => by rw [Addr.add_lit, Nat.zero_add, cell_of_row _ _ _ _ _ _ (heap_alloc_new _ _)]; simpa using hu) (fC1_cell1 y) (by unfold maxLen; omega) (by omega) (by simp; omega)
  obtain ⟨ad', cap', rfl⟩ : ∃ ad' cap', v' = .slice ad' (fs.length + 1) cap' := by
    rcases h2.2 with ⟨_, h0⟩ | ⟨g, cap, cur, e, _⟩
    · omega
    · exact ⟨_, _, e⟩
  unfold Oper.wp execOp
  simp only [ho, resolve, invoke, builtin, Sem.run_bind, Sem.run_pure, Result.andThen_ok, List.map_toArray, List.map_cons, List.map_nil, hs, hx, hr]
  exact hK _ _ (h ad' cap' w' (by rw [show fC (fs ++ [y]) = fC fs ++ fC1 y by simp [fC]]; exact h2) ((ka.mono (fun _ _ h => h.elim)).trans ⟨h3.os, h3.tape, h3.output, h3.size, fun k hk hn => h3.block k hk (fun e => hn e.symm)⟩))

/-- each name of the files that are may be one -/
def NmOk (d : Ds) : Prop := ∀ x ∈ d.now, nameOk x.1 = true

set_option maxRecDepth 100000 in
set_option maxHeartbeats 2000000 in
theorem files_any (p : Nat) (c : Nat → Nat) (d : Ds) (w : World) (h : DiskIs w c p d) (hdn : d.dn = false) (hl : d.now.length ≤ 70368744177) (hnm : NmOk d) (hs : Srt d.now) :
    Calls Tryz.prog 8 #[.pointer (some ⟨p, 0, none⟩)] w fun e w' => ∃ v, e = .returned v ∧ w'.ownsRow w.heap.size 76 2 v d.now.length (fC d.now) ∧ Keep (fun _ => False) w w' := by
  have NA := hid (names_any keysC sortedC p c d w h hdn hl (fun x hx => nameOk_len (hnm x hx)))
  have RD : Hid (∀ (k : Nat) (hk : k < d.now.length) (W : World), Keep (fun _ => False) w W → Calls Tryz.prog 42 #[.pointer (some ⟨p, 0, none⟩), .string (tx (d.now[k]).1)] W fun e w' => e = .returned (.tuple #[.string (tx (d.now[k]).2), .int .i64 0]) ∧ Keep (fun _ => False) W w') := by
    intro k hk W hW
    have hD := h.keep hW (c' := c) (fun _ _ => rfl) (fun _ _ h => h.elim)
    have := read_any p c d (d.now[k]).1 W hD
    have e : rdD d (d.now[k]).1 = ((d.now[k]).2, 0) := by
      unfold rdD
      rw [if_neg (by rw [hdn]; decide), if_neg (by rw [hnm _ (List.getElem_mem hk)]; decide), srt_mem hs (n := (d.now[k]).1) (v := (d.now[k]).2) (List.getElem_mem hk)]
    rw [e] at this
    exact this
  have HT : Hid (∀ (k : Nat) (hk : k < d.now.length), d.now.take k ++ [d.now[k]] = d.now.take (k + 1)) := fun k hk => (List.take_succ_eq_append_getElem hk).symm
  have HN : Hid (∀ (k : Nat) (hk : k < d.now.length), (nmC d.now)[k]? = some (.string (tx (d.now[k]).1))) := fun k hk => by show _ = _; simp [nmC, hk]
  clear h hdn hnm hs
  generalize d.now = A at *
  go_enter Tryz.func8, Tryz.ntmps8
  go_wp2_with fail
  refine NA.out.mono ?_
  rintro e w2 ⟨v, rfl, hr2, hk2⟩
  clear NA
  by_cases h0 : A.length = 0
  · have hv : ∃ ad cap, v = .slice ad 0 cap := by
      rcases hr2.2 with ⟨e, _⟩ | ⟨g, cap, cur, e, _⟩
      · exact ⟨none, 0, e⟩
      · exact ⟨_, cap, by rw [e, h0]⟩
    obtain ⟨ad, cap, rfl⟩ := hv
    have hA : A = [] := List.length_eq_zero_iff.1 h0
    subst hA
    have HK := hid hk2
    clear hr2 hk2 RD HT HN hl h0
    go_wp2
    go_loopw [3, 5] (fun o i wr => o = .slice none 0 0 ∧ i = .int .i64 0 ∧ wr = w2) (fun _ _ _ => 0)
    case atStart => exact ⟨rfl, rfl, rfl⟩
    case round =>
      obtain ⟨rfl, rfl, rfl⟩ := hrel
      go_wp2
      go_ret
      exact ⟨_, rfl, ⟨rfl, .inl ⟨rfl, rfl⟩⟩, HK.out⟩
  · obtain ⟨g, cap, cur, e, hg, hb, _⟩ : ∃ g cap cur, v = .slice (some ⟨g, 0, none⟩) A.length cap ∧ w.heap.size ≤ g ∧ w2.heap[g]? = some (.cells cur 9 (0, 0)) ∧ True := by
      rcases hr2.2 with ⟨_, e⟩ | ⟨g, cap, cur, e, hg, hb, _⟩
      · exact absurd e h0
      · exact ⟨g, cap, cur, e, hg, hb, trivial⟩
    subst e
    have hgl : g < w2.heap.size := (Array.getElem?_eq_some_iff.1 hb).1
    have HR2 := hid hr2
    have HK2 := hid hk2
    have HW : Hid (w.heap.size ≤ w2.heap.size) := hk2.size
    have H0 : Hid (w2.ownsRow w2.heap.size 76 2 (.slice none 0 0) 0 (fC (A.take 0))) := ⟨rfl, .inl ⟨rfl, rfl⟩⟩
    clear hr2 hk2 hb hg h0
    go_wp2
    go_loopw [3, 5] (fun o i wr => ∃ (k : Nat), k ≤ A.length ∧ i = .int .i64 k ∧ (∃ ad cp, o = .slice ad k cp) ∧ Hid (wr.ownsRow w2.heap.size 76 2 o k (fC (A.take k))) ∧ Hid (Keep (fun _ => False) w2 wr)) (fun _ i _ => A.length - (intOf i).toNat)
    case atStart => exact ⟨0, by omega, rfl, ⟨none, 0, rfl⟩, H0, Keep.refl _ _⟩
    case round =>
      clear H0
      obtain ⟨k, hk, rfl, ⟨ad, cp, rfl⟩, HO, HK⟩ := hrel
      by_cases hlt : k < A.length
      · have hk0 : (0 : Int) ≤ (k : Int) := by omega
        have hk1 : (k : Int) < (A.length : Int) := by omega
        have hcn := HN.out k hlt
        have hrw := HK.out.ownsRow HR2.out (fun _ _ h => h)
        have hc := (owns_cell hrw hcn).1
        have R1 := hid (RD.out k hlt wr (HK2.out.trans HK.out))
        have HT1 := hid (HT.out k hlt)
        have HTL : Hid ((A.take k).length = k) := by show _ = _; rw [List.length_take]; omega
        have hcl : g < wr.heap.size := Nat.lt_of_lt_of_le hgl HK.out.size
        clear hcn hrw RD HT HN
        generalize A[k] = y at *
        have hkk : k ≤ 70368744177 := by omega
        go_wp2_with fail
        refine R1.out.mono ?_
        rintro e w5 ⟨rfl, hk5⟩
        have c5 := (hk5.cell (o := k) hcl (fun h => h)).trans hc
        have HO5 := hid (hk5.ownsRow HO.out (fun _ _ h => h))
        have HB5 : Hid (w2.heap.size ≤ w5.heap.size) := Nat.le_trans HK.out.size hk5.size
        have HK5 := hid (HK.out.trans hk5)
        have HKK := hid hkk
        have HTS : Hid (k = (A.take k).length) := HTL.out.symm
        have HMc : Hid (#[Value.string (tx y.1), .string (tx y.2)] = (fC1 y).toArray) := rfl
        clear R1 HO HK hk5 hc hcl hkk HTL
        go_wp2_with (at_builtin; refine wpl_file rfl _ _ rfl w2.heap.size (.slice ad k cp) (A.take k) k HTS.out y w5 _ HMc.out rfl rfl rfl HO5.out HB5.out HKK.out ?_; intro ad1 cap1 w6 hr6 hk6)
        rw [HT1.out] at hr6
        have HO6 := hid hr6
        have HK6 : Hid (Keep (fun _ => False) w2 w6) := HK5.out.then hk6 (fun j hj e => by
          rcases HO5.out.2 with ⟨e2, _⟩ | ⟨g', cap', cur, e2, hg', _⟩
          · rw [e2] at e; simp [Value.ownBlock] at e
          · rw [e2] at e; simp [Value.ownBlock] at e; omega)
        clear hr6 hk6 HO5 HB5 HK5 HT1 HMc HTS c5
        go_wp2
        exact ⟨⟨k + 1, by omega, by go_num, ⟨_, _, rfl⟩, HO6, HK6⟩, by simp [intOf]; omega⟩
      · have hd : decide ((k : Int) < (A.length : Int)) = false := decide_eq_false (by omega)
        have hkl : k = A.length := by omega
        have HE : Hid (wr.ownsRow w.heap.size 76 2 (.slice ad k cp) A.length (fC A)) := by
          have h := HO.out
          subst hkl
          rw [List.take_of_length_le (Nat.le_refl _)] at h
          refine ⟨h.1, h.2.imp id ?_⟩
          rintro ⟨g, cap, cur, e, hg, r⟩
          exact ⟨g, cap, cur, e, Nat.le_trans HW.out hg, r⟩
        have HKF := hid (HK2.out.trans HK.out)
        clear HO HK RD HT HN HR2 HK2 hkl
        go_wp2
        go_ret
        exact ⟨_, rfl, HE.out, HKF.out⟩
end Go.Proofs.YtefbioainibmaaaGreatDoor
namespace Go.Proofs.YtefbioainibmaaaGreatDoor
open Go.RowKit Go.Maps
set_option linter.unusedVariables false
set_option linter.unusedSimpArgs false

/-- an act, as far as the laws read it -/
structure AC where
  kind : Int
  name : Bs
  to : Bs
  s : Bs
  n : Int
  f0 : Int
  f1 : Int
  f2 : Int
  pv : Value
/-- what a call as an act says makes of a disk, and what is told -/
def calD (d : Ds) (a : AC) : Ds × Int := if a.kind = 0 then appD d a.name a.s else if a.kind = 1 then wrD d a.name a.s else if a.kind = 2 then mvD d a.name a.to else if a.kind = 3 then rmD d a.name else cuD d a.name a.n
theorem Calls.into {w W : World} {c : Nat → Nat} {p : Nat} {d d' : Ds} {f : FuncId} {args : Array Value} {r : Value} (k : Keep (fun _ => False) w W) (C : Calls Tryz.prog f args W fun e w' => e = .returned r ∧ Left W c p d' w') : Calls Tryz.prog f args W fun e w' => e = .returned r ∧ Left w c p d' w' :=
  Calls.mono C fun e w' ⟨he, hL⟩ => ⟨he, hL.from k⟩

end Go.Proofs.YtefbioainibmaaaGreatDoor
namespace Go.Proofs.YtefbioainibmaaaGreatDoor
open Go.RowKit Go.Maps
set_option linter.unusedVariables false
set_option linter.unusedSimpArgs false

/-- a disk without falls, that is up, and whose names may be names -/
structure Calm (d : Ds) : Prop where
  dn : d.dn = false
  fl : d.fl = []
  nm : NmOk d
theorem chg_calm {d : Ds} (h : Calm d) (ch : Chg) : chgD d ch = ({ d.more ch with n := d.n + 1 }, 0) := by
  unfold chgD; rw [h.fl]; rfl
theorem now_more (d : Ds) (ch : Chg) : ({ d.more ch with n := d.n + 1 } : Ds).now = doC d.now ch := by
  show replay (d.ws ++ [ch]) d.S = _
  rw [replay_snoc]; rfl
theorem mem_doC {A : List (Bs × Bs)} {ch : Chg} {x : Bs × Bs} (h : x ∈ doC A ch) : x ∈ A ∨ x.1 = ch.name ∨ (ch.kind = 2 ∧ x.1 = ch.to) := by
  unfold doC at h
  split at h
  · rcases mem_kput.1 h with rfl | ⟨h, _⟩
    · exact .inr (.inl rfl)
    · exact .inl h
  · split at h
    · rcases mem_kput.1 h with rfl | ⟨h, _⟩
      · exact .inr (.inl rfl)
      · exact .inl h
    · split at h
      · rename_i h2
        rcases mem_kput.1 (mem_kdel.1 h).1 with rfl | ⟨h, _⟩
        · exact .inr (.inr ⟨h2, rfl⟩)
        · exact .inl h
      · split at h
        · exact .inl (mem_kdel.1 h).1
        · rcases mem_kput.1 h with rfl | ⟨h, _⟩
          · exact .inr (.inl rfl)
          · exact .inl h
theorem calm_more {d : Ds} (h : Calm d) (ch : Chg) (hn : nameOk ch.name = true) (ht : ch.kind = 2 → nameOk ch.to = true) : Calm { d.more ch with n := d.n + 1 } := by
  refine ⟨h.dn, h.fl, fun x hx => ?_⟩
  rw [now_more] at hx
  rcases mem_doC hx with hx | e | ⟨h2, e⟩
  · exact h.nm x hx
  · rw [e]; exact hn
  · rw [e]; exact ht h2
/-- a call leaves a disk as it was, or does one change that may be done -/
theorem cal_calm {d : Ds} (h : Calm d) (a : AC) : ((calD d a).1 = d ∧ (calD d a).2 ≠ 0) ∨ ∃ ch : Chg, (calD d a) = ({ d.more ch with n := d.n + 1 }, 0) ∧ nameOk ch.name = true ∧ (ch.kind = 2 → nameOk ch.to = true ∧ ch.to ≠ ch.name) ∧ ch.s.length ≤ a.s.length ∧
    ((ch.kind = 0 ∧ fitB d.bd d.rm (tot d.now) ch.s.length = true) ∨ (ch.kind = 1 ∧ fitB d.bd d.rm (tot d.now) ((ch.s.length : Int) - (((kget d.now ch.name).getD []).length : Int)) = true) ∨ (2 ≤ ch.kind ∧ ch.s = [])) := by
  have hdn : ¬ d.dn = true := by rw [h.dn]; decide
  unfold calD
  split
  · unfold appD
    rw [if_neg hdn]
    split
    · exact .inl ⟨rfl, by simp⟩
    · split
      · exact .inl ⟨rfl, by simp⟩
      · rename_i hn hf
        exact .inr ⟨⟨0, a.name, [], a.s, 0⟩, chg_calm h _, by simpa using hn, by simp, Nat.le_refl _, .inl ⟨rfl, by simpa using hf⟩⟩
  · split
    · unfold wrD
      rw [if_neg hdn]
      split
      · exact .inl ⟨rfl, by simp⟩
      · split
        · exact .inl ⟨rfl, by simp⟩
        · rename_i hn hf
          exact .inr ⟨⟨1, a.name, [], a.s, 0⟩, chg_calm h _, by simpa using hn, by simp, Nat.le_refl _, .inr (.inl ⟨rfl, by simpa using hf⟩)⟩
    · split
      · unfold mvD
        rw [if_neg hdn]
        split
        · exact .inl ⟨rfl, by simp⟩
        · split
          · exact .inl ⟨rfl, by simp⟩
          · split
            · exact .inl ⟨rfl, by simp⟩
            · rename_i hn hs hne
              have hn2 : nameOk a.name = true ∧ nameOk a.to = true := by simpa using hn
              exact .inr ⟨⟨2, a.name, a.to, [], 0⟩, chg_calm h _, hn2.1, fun _ => ⟨hn2.2, fun e => hne e.symm⟩, Nat.zero_le _, .inr (.inr ⟨Nat.le_refl _, rfl⟩)⟩
      · split
        · unfold rmD
          rw [if_neg hdn]
          split
          · exact .inl ⟨rfl, by simp⟩
          · split
            · exact .inl ⟨rfl, by simp⟩
            · rename_i hn hs
              exact .inr ⟨⟨3, a.name, [], [], 0⟩, chg_calm h _, by simpa using hn, by simp, Nat.zero_le _, .inr (.inr ⟨by show 2 ≤ 3; omega, rfl⟩)⟩
        · unfold cuD
          rw [if_neg hdn]
          split
          · exact .inl ⟨rfl, by simp⟩
          · split
            · exact .inl ⟨rfl, by simp⟩
            · split
              · exact .inl ⟨rfl, by simp⟩
              · rename_i hn hs hl
                exact .inr ⟨⟨4, a.name, [], [], a.n.toNat⟩, chg_calm h _, by simpa using hn, by simp, Nat.zero_le _, .inr (.inr ⟨by show 2 ≤ 4; omega, rfl⟩)⟩

/-- what the loop keeps: there is never more than there is room for -/
structure RI (d : Ds) (r : Int) (k B : Nat) : Prop where
  calm : Calm d
  bd : d.bd = true
  rm : d.rm = r
  fit : (tot d.now : Int) ≤ r
  S : d.S = []
  len : d.ws.length ≤ k
  sum : (d.ws.map fun ch => ch.s.length).sum ≤ B
  n : d.n ≤ k
set_option maxRecDepth 100000 in
theorem RI.next {d : Ds} {rm : Int} {k B : Nat} (h : RI d rm k B) (hs : Srt d.now) (a : AC) (ha : a.s.length ≤ 1048576) : RI (calD d a).1 rm (k + 1) (B + 1048576) ∧ ((calD d a).2 ≠ 0 → (calD d a).1 = d) := by
  rcases cal_calm h.calm a with ⟨e, hne⟩ | ⟨ch, e, hn, ht, hl, hf⟩
  · rw [e]
    exact ⟨⟨h.calm, h.bd, h.rm, h.fit, h.S, Nat.le_succ_of_le h.len, Nat.le_trans h.sum (Nat.le_add_right _ _), Nat.le_succ_of_le h.n⟩, fun _ => rfl⟩
  · rw [e]
    refine ⟨⟨calm_more h.calm ch hn (fun e => (ht e).1), h.bd, h.rm, ?_, h.S, ?_, ?_, ?_⟩, fun hc => absurd rfl hc⟩
    · rw [now_more]
      have hfit := h.fit
      rcases hf with ⟨hk, hf⟩ | ⟨hk, hf⟩ | ⟨hk, hf⟩
      · have e1 := tot_doC hs ch (fun e => (ht e).2)
        unfold fitB at hf
        rw [h.bd, h.rm] at hf
        simp at hf
        rcases hf with hf | hf
        · rw [hf] at e1; simp at e1; omega
        · omega
      · have e1 : doC d.now ch = kput d.now ch.name ch.s := by unfold doC; rw [hk]; simp
        have e2 := tot_kput hs ch.name ch.s
        rw [e1]
        unfold fitB at hf
        rw [h.bd, h.rm] at hf
        simp at hf
        omega
      · have e1 := tot_doC hs ch (fun e => (ht e).2)
        rw [hf] at e1
        simp at e1
        omega
    · show (d.ws ++ [ch]).length ≤ _
      rw [List.length_append]; have := h.len; simp; omega
    · show ((d.ws ++ [ch]).map fun ch => ch.s.length).sum ≤ _
      rw [List.map_append, List.sum_append]; have := h.sum; simp; omega
    · show d.n + 1 ≤ _
      have := h.n; omega
set_option maxRecDepth 100000 in
theorem RI.wt {d : Ds} {rm : Int} {k B : Nat} (h : RI d rm k B) : d.wt + d.S.length + d.ws.length ≤ B + k := by
  have h1 := h.sum
  have h2 := h.len
  unfold Ds.wt
  rw [h.S]
  simp [tot]
  omega
theorem DiskIs.srt {w : World} {c : Nat → Nat} {p : Nat} {d : Ds} (h : DiskIs w c p d) : Srt d.now := by
  obtain ⟨R, hR⟩ := h
  have hS : Srt d.S := by rw [← hR.eS]; exact srt_txts.2 hR.sure.srt
  have hmv2 : ∀ x ∈ d.ws, x.kind = 2 → x.to ≠ x.name := fun x hm => by obtain ⟨i, hi, rfl⟩ := List.getElem_of_mem hm; exact (hR.oks i hi).move
  exact (replay_bounds d.ws d.S hS hmv2).1
end Go.Proofs.YtefbioainibmaaaGreatDoor
namespace Go.Proofs.YtefbioainibmaaaGreatDoor
open Go.RowKit Go.Maps
set_option linter.unusedVariables false
set_option linter.unusedSimpArgs false

/-- an act's cells -/
def acC (a : AC) : List Value := [.int .i64 a.kind, .string (tx a.name), .string (tx a.to), .string (tx a.s), .int .i64 a.n, .int .i64 a.f0, .int .i64 a.f1, .int .i64 a.f2, a.pv]
/-- acts that are handed in -/
def ActsIn (w : World) (v : Value) (l : List AC) : Prop := (∃ ad cap, v = .slice ad 0 cap ∧ l = []) ∨ ∃ g off cap, v = .slice (some ⟨g, off, none⟩) l.length cap ∧ g < w.heap.size ∧ ∀ j (h : j < l.length) i, i < 9 → w.cell? ⟨g, off + j * 9 + i, none⟩ = (acC l[j])[i]?
theorem RI.mono {d : Ds} {r : Int} {k B : Nat} (h : RI d r k B) (k' B' : Nat) (hk : k ≤ k') (hB : B ≤ B') : RI d r k' B' := ⟨h.calm, h.bd, h.rm, h.fit, h.S, Nat.le_trans h.len hk, Nat.le_trans h.sum hB, Nat.le_trans h.n hk⟩
end Go.Proofs.YtefbioainibmaaaGreatDoor
namespace Go.Proofs.YtefbioainibmaaaGreatDoor
open Go.RowKit Go.Maps
set_option linter.unusedVariables false
set_option linter.unusedSimpArgs false

/-- what the loop of 'changed' keeps -/
structure CI (d : Ds) (k B : Nat) : Prop where
  calm : Calm d
  bd : d.bd = false
  wt : d.wt + d.S.length + d.ws.length ≤ B
  n : d.n ≤ k
theorem CI.mono {d : Ds} {k B k' B' : Nat} (h : CI d k B) (hk : k ≤ k') (hB : B ≤ B') : CI d k' B' := ⟨h.calm, h.bd, Nat.le_trans h.wt hB, Nat.le_trans h.n hk⟩
theorem CI.call {d : Ds} {k B : Nat} (h : CI d k B) (a : AC) : CI (calD d a).1 (k + 1) (B + (a.s.length + 1)) := by
  rcases cal_calm h.calm a with ⟨e, _⟩ | ⟨ch, e, hn, ht, hl, _⟩
  · rw [e]; exact h.mono (by omega) (by omega)
  · rw [e]
    refine ⟨calm_more h.calm ch hn (fun e => (ht e).1), h.bd, ?_, ?_⟩
    · have hw := h.wt
      show tot d.S + ((d.ws ++ [ch]).map fun ch => ch.s.length).sum + d.S.length + (d.ws ++ [ch]).length ≤ _
      unfold Ds.wt at hw
      rw [List.map_append, List.sum_append, List.length_append]
      simp
      omega
    · show d.n + 1 ≤ _
      have := h.n; omega
theorem CI.sync {d : Ds} {k B : Nat} (h : CI d k B) (hs : Srt d.S) (hm : ∀ ch ∈ d.ws, ch.kind = 2 → ch.to ≠ ch.name) : CI (synD d) k B := by
  obtain ⟨_, h2, h3⟩ := replay_bounds d.ws d.S hs hm
  refine ⟨⟨h.calm.dn, h.calm.fl, fun x hx => h.calm.nm x hx⟩, h.bd, ?_, h.n⟩
  have hw := h.wt
  show tot (replay d.ws d.S) + 0 + (replay d.ws d.S).length + 0 ≤ B
  unfold Ds.wt at hw
  omega
theorem DiskIs.ok {w : World} {c : Nat → Nat} {p : Nat} {d : Ds} (h : DiskIs w c p d) : Srt d.S ∧ ∀ ch ∈ d.ws, ch.kind = 2 → ch.to ≠ ch.name := by
  obtain ⟨R, hR⟩ := h
  exact ⟨by rw [← hR.eS]; exact srt_txts.2 hR.sure.srt, fun x hm => by obtain ⟨i, hi, rfl⟩ := List.getElem_of_mem hm; exact (hR.oks i hi).move⟩
theorem Left.ok {w w' : World} {c : Nat → Nat} {p : Nat} {d : Ds} (h : Left w c p d w') : Srt d.S ∧ ∀ ch ∈ d.ws, ch.kind = 2 → ch.to ≠ ch.name := by
  obtain ⟨⟨_, D, _⟩, _⟩ := h; exact D.ok
theorem Left.srt {w w' : World} {c : Nat → Nat} {p : Nat} {d : Ds} (h : Left w c p d w') : Srt d.now := by
  obtain ⟨⟨_, D, _⟩, _⟩ := h; exact D.srt
/-- what one act makes of a disk in 'changed' -/
def stD (d : Ds) (a : AC) : Ds := if 0 ≤ a.kind ∧ a.kind ≤ 4 then (calD d a).1 else if a.kind = 5 then synD d else d
theorem CI.step {d : Ds} {k B : Nat} (h : CI d k B) (a : AC) (ha : a.s.length ≤ 1048576) (hs : Srt d.S) (hm : ∀ ch ∈ d.ws, ch.kind = 2 → ch.to ≠ ch.name) : CI (stD d a) (k + 1) (B + 1048577) := by
  unfold stD
  split
  · exact (h.call a).mono (Nat.le_refl _) (by omega)
  · split
    · exact (h.sync hs hm).mono (by omega) (by omega)
    · exact h.mono (by omega) (by omega)
end Go.Proofs.YtefbioainibmaaaGreatDoor
namespace Go.Proofs.YtefbioainibmaaaGreatDoor
open Go.RowKit Go.Maps
set_option linter.unusedVariables false
set_option linter.unusedSimpArgs false

theorem hit_kdel {A : List (Bs × Bs)} (h : Srt A) (n : Bs) : (kdel A n).length + (if (kget A n).isSome then 1 else 0) = A.length := by
  induction A with
  | nil => simp [kdel, kget]
  | cons y r ih =>
    have h2 := List.pairwise_cons.1 h
    have ih := ih h2.2
    by_cases hy : y.1 = n
    · have e : kdel r n = r := by
        unfold kdel
        rw [List.filter_eq_self]
        intro z hz
        have := bef_ne (h2.1 z hz)
        simp
        intro e
        exact this (hy.trans e.symm)
      have e2 : kdel (y :: r) n = r := by
        unfold kdel at e ⊢
        rw [List.filter_cons]
        simp [hy]
        simpa using e
      rw [e2]
      have e3 : kget (y :: r) n = some y.2 := by unfold kget; simp [hy]
      rw [e3]
      simp
    · have e1 : kdel (y :: r) n = y :: kdel r n := by unfold kdel; rw [List.filter_cons]; simp [hy]
      have e2 : kget (y :: r) n = kget r n := by unfold kget; simp [hy]
      rw [e1, e2]
      simp only [List.length_cons] at ih ⊢
      omega
theorem hit_kput {A : List (Bs × Bs)} (h : Srt A) (n b : Bs) : (kput A n b).length + (if (kget A n).isSome then 1 else 0) = A.length + 1 := by
  have := hit_kdel h n
  unfold kput
  rw [length_kins]
  omega

/-- files that are others at one name at most -/
structure Oth (o : Bs) (A F : List (Bs × Bs)) : Prop where
  srt : Srt F
  get : ∀ m, m ≠ o → kget F m = kget A m
  here : (kget A o).isSome = true → (kget F o).isSome = true
  len : (F.length = A.length ∧ (kget F o).isSome = (kget A o).isSome) ∨ (F.length = A.length + 1 ∧ (kget F o).isSome = true)
  nm : ∀ x ∈ F, x ∈ A ∨ x.1 = o
theorem Oth.put {o : Bs} {A F : List (Bs × Bs)} (h : Oth o A F) (b : Bs) : Oth o A (kput F o b) := by
  have hl := hit_kput h.srt o b
  refine ⟨srt_kput h.srt _ _, fun m hm => by rw [kget_put_other _ _ (Ne.symm hm)]; exact h.get m hm, fun _ => by rw [kget_put_same]; rfl, ?_, fun x hx => ?_⟩
  · rw [kget_put_same]
    rcases h.len with ⟨h1, h2⟩ | ⟨h1, h2⟩
    · by_cases hs : (kget F o).isSome = true
      · rw [if_pos hs] at hl
        refine .inl ⟨by omega, ?_⟩
        rw [← h2, hs]; rfl
      · rw [if_neg hs] at hl
        exact .inr ⟨by omega, rfl⟩
    · rw [if_pos h2] at hl
      exact .inr ⟨by omega, rfl⟩
  · rcases mem_kput.1 hx with rfl | ⟨hx, _⟩
    · exact .inr rfl
    · exact h.nm x hx
theorem Oth.app {o : Bs} {A F : List (Bs × Bs)} (h : Oth o A F) (s : Bs) : Oth o A (doC F ⟨0, o, [], s, 0⟩) := h.put _
theorem Oth.tear {o : Bs} {A F : List (Bs × Bs)} (h : Oth o A F) (s : Bs) (torn : Int) : Oth o A (tearC F ⟨0, o, [], s, 0⟩ torn) := by
  unfold tearC
  split
  · exact h
  · exact h.put _

theorem app_calm {d : Ds} {k B : Nat} (h : CI d k B) (o s : Bs) (ho : nameOk o = true) : appD d o s = ({ d.more ⟨0, o, [], s, 0⟩ with n := d.n + 1 }, 0) := by
  unfold appD
  rw [if_neg (by rw [h.calm.dn]; decide), if_neg (by rw [ho]; decide), if_neg (by unfold fitB; rw [h.bd]; simp)]
  exact chg_calm h.calm _
theorem CI.app {d : Ds} {k B : Nat} (h : CI d k B) (o s : Bs) (ho : nameOk o = true) : CI { d.more ⟨0, o, [], s, 0⟩ with n := d.n + 1 } (k + 1) (B + (s.length + 1)) := by
  have e := app_calm h o s ho
  have h2 := h.call ⟨0, o, [], s, 0, 0, 0, 0, .slice none 0 0⟩
  have e2 : calD d ⟨0, o, [], s, 0, 0, 0, 0, .slice none 0 0⟩ = appD d o s := by unfold calD; rw [if_pos rfl]
  rw [e2, e] at h2
  exact h2
end Go.Proofs.YtefbioainibmaaaGreatDoor
namespace Go.Proofs.YtefbioainibmaaaGreatDoor
open Go.RowKit Go.Maps
set_option linter.unusedVariables false
set_option linter.unusedSimpArgs false

end Go.Proofs.YtefbioainibmaaaGreatDoor
namespace Go.Proofs.YtefbioainibmaaaGreatDoor
open Go.RowKit Go.Maps
set_option linter.unusedVariables false
set_option linter.unusedSimpArgs false

theorem ActsIn.keep {w W : World} {v : Value} {l : List AC} (h : ActsIn w v l) (k : Keep (fun _ => False) w W) : ActsIn W v l := by
  rcases h with h | ⟨g, off, cap, e, hg, hc⟩
  · exact .inl h
  · exact .inr ⟨g, off, cap, e, Nat.lt_of_lt_of_le hg k.size, fun j hj i hi => (k.cell hg (fun h => h)).trans (hc j hj i hi)⟩
end Go.Proofs.YtefbioainibmaaaGreatDoor
namespace Go.Proofs.YtefbioainibmaaaGreatDoor
open Go.RowKit Go.Maps
set_option linter.unusedVariables false
set_option linter.unusedSimpArgs false

end Go.Proofs.YtefbioainibmaaaGreatDoor
namespace Go.Proofs.YtefbioainibmaaaGreatDoor
open Go.RowKit Go.Maps
set_option linter.unusedVariables false
set_option linter.unusedSimpArgs false

/-- the files' row -/
def FileRow (w : World) (B : Nat) (v : Value) (A : List (Bs × Bs)) : Prop := w.ownsRow B 76 2 v A.length (fC A)
/-- the disk, and beside it a slice of all files as they stood -/
structure MayC (w1 : World) (p : Nat) (d : Ds) (hs : List (List (Bs × Bs))) (m : Value) (vs : List Value) (wr : World) (c : Nat → Nat) : Prop where
  disk : DiskIs wr c p d
  old : ∀ j, j < w1.heap.size → c j = c0 p j
  keep : Keep (fun j => c0 p j < 6) w1 wr
  len : vs.length = hs.length
  row : wr.ownsRow w1.heap.size 22 1 m hs.length vs
  col : ∀ g, m.ownBlock = some g → c g = 7
  rows : ∀ i (h : i < hs.length) (h2 : i < vs.length), FileRow wr w1.heap.size vs[i] hs[i]
  cols : ∀ v ∈ vs, ∀ g, v.ownBlock = some g → c g = 7 ∧ m.ownBlock ≠ some g
def MayAt (w1 : World) (p : Nat) (d : Ds) (hs : List (List (Bs × Bs))) (m : Value) (wr : World) : Prop := ∃ vs c, MayC w1 p d hs m vs wr c
theorem MayC.left {w1 wr w' : World} {p : Nat} {d d' : Ds} {hs : List (List (Bs × Bs))} {m : Value} {vs : List Value} {c : Nat → Nat} (h : MayC w1 p d hs m vs wr c) (hl : Left wr c p d' w') : MayAt w1 p d' hs m w' := by
  obtain ⟨⟨c', D, hc'⟩, K⟩ := hl
  have hsz := h.keep.size
  refine ⟨vs, c', D, fun j hj => by rw [hc' j (by omega)]; exact h.old j hj, h.keep.then K (fun j hj e => by rw [← h.old j hj]; exact e), h.len, K.ownsRow h.row (fun g e e2 => by have := h.col g e; omega), fun g e => by rw [hc' g (ownsRow_lt h.row e)]; exact h.col g e, fun i hi h2 => K.ownsRow (h.rows i hi h2) (fun g e e2 => by have := (h.cols _ (List.getElem_mem h2) g e).1; omega), fun v hv g e => ?_⟩
  obtain ⟨i, hi, rfl⟩ := List.getElem_of_mem hv
  have := h.cols _ hv g e
  exact ⟨by rw [hc' g (ownsRow_lt (h.rows i (by rw [← h.len]; exact hi) hi) e)]; exact this.1, this.2⟩
theorem MayAt.step {w1 wr : World} {p : Nat} {d d' : Ds} {hs : List (List (Bs × Bs))} {m : Value} {f : FuncId} {args : Array Value} {r : Value} (h : MayAt w1 p d hs m wr) (C : ∀ W c, DiskIs W c p d → Calls Tryz.prog f args W fun e w' => e = .returned r ∧ Left W c p d' w') : Calls Tryz.prog f args wr fun e w' => e = .returned r ∧ MayAt w1 p d' hs m w' := by
  obtain ⟨vs, c, hM⟩ := h
  exact (C wr c hM.disk).mono fun e w' ⟨he, hl⟩ => ⟨he, hM.left hl⟩
/-- and one row of files more, that is not in the slice yet -/
def MayP (w1 : World) (p : Nat) (d : Ds) (hs : List (List (Bs × Bs))) (m v : Value) (A : List (Bs × Bs)) (wr : World) : Prop :=
  ∃ vs c, MayC w1 p d hs m vs wr c ∧ FileRow wr w1.heap.size v A ∧ ∀ g, v.ownBlock = some g → c g = 7 ∧ m.ownBlock ≠ some g
theorem MayC.same {w1 wr w2 : World} {p : Nat} {d : Ds} {hs : List (List (Bs × Bs))} {m : Value} {vs : List Value} {c c2 : Nat → Nat} (h : MayC w1 p d hs m vs wr c) (hk : Keep (fun _ => False) wr w2) (hc : ∀ j, j < wr.heap.size → c2 j = c j) : MayC w1 p d hs m vs w2 c2 := by
  have hsz := h.keep.size
  refine ⟨h.disk.keep hk hc (fun _ _ h => h.elim), fun j hj => by rw [hc j (by omega)]; exact h.old j hj, h.keep.then hk (fun _ _ h => h.elim), h.len, hk.ownsRow h.row (fun _ _ h => h), fun g e => by rw [hc g (ownsRow_lt h.row e)]; exact h.col g e, fun i hi h2 => hk.ownsRow (h.rows i hi h2) (fun _ _ h => h), fun v hv g e => ?_⟩
  obtain ⟨i, hi, rfl⟩ := List.getElem_of_mem hv
  have := h.cols _ hv g e
  exact ⟨by rw [hc g (ownsRow_lt (h.rows i (by rw [← h.len]; exact hi) hi) e)]; exact this.1, this.2⟩
theorem CI.len {w : World} {c : Nat → Nat} {p : Nat} {d : Ds} {k B : Nat} (hC : CI d k B) (h : DiskIs w c p d) : d.now.length ≤ B := by
  have hok := h.ok
  have hl := (replay_bounds d.ws d.S hok.1 hok.2).2.2
  have hwt := hC.wt
  unfold Ds.now
  omega
theorem MayAt.files {w1 wr : World} {p : Nat} {d : Ds} {hs : List (List (Bs × Bs))} {m : Value} {k B : Nat} (h : MayAt w1 p d hs m wr) (hC : CI d k B) (hB : B ≤ 70000000000) : Calls Tryz.prog 8 #[.pointer (some ⟨p, 0, none⟩)] wr fun e w' => ∃ ad cap, e = .returned (.slice ad d.now.length cap) ∧ MayP w1 p d hs m (.slice ad d.now.length cap) d.now w' := by
  obtain ⟨vs, c, hM⟩ := h
  have hl := hC.len hM.disk
  have hsz := hM.keep.size
  refine (files_any p c d wr hM.disk hC.calm.dn (by omega) hC.calm.nm hM.disk.srt).mono fun e w2 ⟨v, he, hr, hk⟩ => ?_
  obtain ⟨ad, cap, rfl⟩ := row_form hr
  refine ⟨ad, cap, he, vs, (fun j => if j < wr.heap.size then c j else 7), hM.same hk (fun j hj => if_pos hj), ownsRow_base hr hsz, fun g e => ⟨if_neg (by have := ownsRow_ge hr e; omega), fun e2 => by have h1 := ownsRow_ge hr e; have h2 := ownsRow_lt hM.row e2; omega⟩⟩
/-- the files as they stood behind each change -/
structure Hist (d : Ds) (hs : List (List (Bs × Bs))) : Prop where
  len : hs.length = d.ws.length + 1
  at_ : ∀ i (h : i < hs.length), hs[i] = replay (d.ws.take i) d.S
  nm : ∀ A ∈ hs, ∀ x ∈ A, nameOk x.1 = true
theorem Hist.next {d : Ds} {hs : List (List (Bs × Bs))} {k B : Nat} (h : Hist d hs) (hC : CI d k B) (a : AC) : ((calD d a).2 ≠ 0 ∧ (calD d a).1 = d) ∨ ((calD d a).2 = 0 ∧ Hist (calD d a).1 (hs ++ [(calD d a).1.now])) := by
  have hC2 := hC.call a
  rcases cal_calm hC.calm a with ⟨e, hne⟩ | ⟨ch, e, _⟩
  · exact .inl ⟨hne, e⟩
  · rw [e] at hC2 ⊢
    refine .inr ⟨rfl, ?_, fun i hi => ?_, fun A hA x hx => ?_⟩
    · show _ = (d.ws ++ [ch]).length + 1
      have := h.len
      simp; omega
    · have hl := h.len
      show _ = replay ((d.ws ++ [ch]).take i) d.S
      by_cases hi2 : i < hs.length
      · rw [List.getElem_append_left (h := hi2), h.at_ i hi2, List.take_append_of_le_length (by omega)]
      · have hi3 : i = hs.length := by simp at hi; omega
        subst hi3
        rw [List.getElem_append_right (by omega)]
        simp only [Nat.sub_self, List.getElem_cons_zero]
        rw [List.take_of_length_le (by simp; omega)]
        rfl
    · rcases List.mem_append.1 hA with hA | hA
      · exact h.nm A hA x hx
      · rw [List.mem_singleton] at hA
        subst hA
        exact hC2.calm.nm x hx
theorem take_sum (ws : List Chg) (k : Nat) : ((ws.take k).map fun ch => ch.s.length).sum ≤ (ws.map fun ch => ch.s.length).sum := by
  conv => rhs; rw [← List.take_append_drop k ws]
  rw [List.map_append, List.sum_append]
  omega
end Go.Proofs.YtefbioainibmaaaGreatDoor
namespace Go.Proofs.YtefbioainibmaaaGreatDoor
open Go.RowKit Go.Maps
set_option linter.unusedVariables false
set_option linter.unusedSimpArgs false

/-- where a name stands, or would stand -/
structure FindIs (A : List (Bs × Bs)) (n : Bs) (k : Nat) (b : Bool) : Prop where
  le : k ≤ A.length
  bef : ∀ i (h : i < A.length), i < k → bytesBefore A[i].1 n = true
  stop : ∀ (h : k < A.length), bytesBefore A[k].1 n = false
  is : b = true ↔ ∃ h : k < A.length, A[k].1 = n

end Go.Proofs.YtefbioainibmaaaGreatDoor
namespace Go.Proofs.YtefbioainibmaaaGreatDoor
open Go.RowKit Go.Maps
set_option linter.unusedVariables false
set_option linter.unusedSimpArgs false

theorem FindIs.tail {y : Bs × Bs} {r : List (Bs × Bs)} {n : Bs} {k : Nat} {b : Bool} (h : FindIs (y :: r) n (k + 1) b) : FindIs r n k b := by
  refine ⟨by have := h.le; simp at this; omega, fun i hi hk => h.bef (i + 1) (by simp; omega) (by omega), fun hk => h.stop (by simp; omega), ?_⟩
  rw [h.is]
  constructor
  · rintro ⟨h1, h2⟩; exact ⟨by simpa using h1, h2⟩
  · rintro ⟨h1, h2⟩; exact ⟨by simpa using h1, h2⟩
end Go.Proofs.YtefbioainibmaaaGreatDoor
namespace Go.Proofs.YtefbioainibmaaaGreatDoor
open Go.RowKit Go.Maps
set_option linter.unusedVariables false
set_option linter.unusedSimpArgs false

end Go.Proofs.YtefbioainibmaaaGreatDoor
namespace Go.Proofs.YtefbioainibmaaaGreatDoor
open Go.RowKit Go.Maps
set_option linter.unusedVariables false
set_option linter.unusedSimpArgs false

/-- files that are read from a slice -/
def SrcIs (w : World) (x : Value) (A : List (Bs × Bs)) : Prop := (∃ c, x = .slice none 0 c ∧ A = []) ∨ ∃ g off c, x = .slice (some ⟨g, off, none⟩) A.length c ∧ g < w.heap.size ∧ ∀ j u, (fC A)[j]? = some u → w.cell? ⟨g, off + j, none⟩ = some u
theorem SrcIs.keep {w w' : World} {x : Value} {A : List (Bs × Bs)} (h : SrcIs w x A) (S : Nat → Prop) (k : Keep S w w') (hS : ∀ g, g < w.heap.size → ¬ S g) : SrcIs w' x A := by
  rcases h with h | ⟨g, off, c, e, hg, hc⟩
  · exact .inl h
  · exact .inr ⟨g, off, c, e, Nat.lt_of_lt_of_le hg k.size, fun j u hu => (k.cell hg (hS g hg)).trans (hc j u hu)⟩
end Go.Proofs.YtefbioainibmaaaGreatDoor
namespace Go.Proofs.YtefbioainibmaaaGreatDoor
open Go.RowKit Go.Maps
set_option linter.unusedVariables false
set_option linter.unusedSimpArgs false

end Go.Proofs.YtefbioainibmaaaGreatDoor
namespace Go.Proofs.YtefbioainibmaaaGreatDoor
open Go.RowKit Go.Maps
set_option linter.unusedVariables false
set_option linter.unusedSimpArgs false

end Go.Proofs.YtefbioainibmaaaGreatDoor
namespace Go.Proofs.YtefbioainibmaaaGreatDoor
open Go.RowKit Go.Maps
set_option linter.unusedVariables false
set_option linter.unusedSimpArgs false

end Go.Proofs.YtefbioainibmaaaGreatDoor
namespace Go.Proofs.YtefbioainibmaaaGreatDoor
open Go.RowKit Go.Maps
set_option linter.unusedVariables false
set_option linter.unusedSimpArgs false

end Go.Proofs.YtefbioainibmaaaGreatDoor
namespace Go.Proofs.YtefbioainibmaaaGreatDoor
open Go.RowKit Go.Maps
set_option linter.unusedVariables false
set_option linter.unusedSimpArgs false

end Go.Proofs.YtefbioainibmaaaGreatDoor
namespace Go.Proofs.YtefbioainibmaaaGreatDoor
open Go.RowKit Go.Maps
set_option linter.unusedVariables false
set_option linter.unusedSimpArgs false

/-- a change of the reference's, with all that it was handed -/
structure RC where
  kind : Nat
  name : Bs
  to : Bs
  s : Bs
  long : Int
/-- .. and what of it is read -/
def RC.ch (r : RC) : Chg :=
  if r.kind = 0 then ⟨0, r.name, [], r.s, 0⟩ else if r.kind = 1 then ⟨1, r.name, [], r.s, 0⟩ else if r.kind = 2 then ⟨2, r.name, r.to, [], 0⟩ else if r.kind = 3 then ⟨3, r.name, [], [], 0⟩ else ⟨r.kind, r.name, [], [], r.long.toNat⟩
end Go.Proofs.YtefbioainibmaaaGreatDoor
namespace Go.Proofs.YtefbioainibmaaaGreatDoor
open Go.RowKit Go.Maps
set_option linter.unusedVariables false
set_option linter.unusedSimpArgs false

/-- what may be asked of a disk's changes -/
structure NowOk (d : Ds) : Prop where
  srt : Srt d.S
  oks : ∀ i (h : i < d.ws.length), ChOk (replay (d.ws.take i) d.S) d.ws[i]
  there : ∀ i (h : i < d.ws.length), d.ws[i].kind = 2 ∨ d.ws[i].kind = 4 → (kget (replay (d.ws.take i) d.S) d.ws[i].name).isSome = true
  wt : d.wt + d.S.length + d.ws.length ≤ 7036874417
theorem NowOk.bounds {d : Ds} (h : NowOk d) (k : Nat) (hk : k ≤ d.ws.length) : Srt (replay (d.ws.take k) d.S) ∧ (replay (d.ws.take k) d.S).length ≤ 7036874417 ∧ ∀ (hk2 : k < d.ws.length), tot (replay (d.ws.take k) d.S) + d.ws[k].s.length ≤ 70368744177 := by
  have hb := replay_bounds (d.ws.take k) d.S h.srt (fun ch hc => by
    obtain ⟨i, hi, rfl⟩ := List.getElem_of_mem (List.mem_of_mem_take hc)
    exact (h.oks i hi).move)
  have hw := h.wt
  unfold Ds.wt at hw
  have ht := take_sum d.ws k
  have hl : (d.ws.take k).length ≤ d.ws.length := by rw [List.length_take]; omega
  refine ⟨hb.1, by omega, fun hk2 => ?_⟩
  have h2 := take_sum d.ws (k + 1)
  rw [List.take_succ_eq_append_getElem hk2, List.map_append, List.sum_append] at h2
  simp at h2
  omega
end Go.Proofs.YtefbioainibmaaaGreatDoor
namespace Go.Proofs.YtefbioainibmaaaGreatDoor
open Go.RowKit Go.Maps
set_option linter.unusedVariables false
set_option linter.unusedSimpArgs false

theorem NowOk.tot {d : Ds} (h : NowOk d) : Go.Proofs.YtefbioainibmaaaGreatDoor.tot d.now ≤ 7036874417 ∧ d.now.length ≤ 7036874417 ∧ Srt d.now := by
  have hb := replay_bounds d.ws d.S h.srt (fun ch hc => by
    obtain ⟨i, hi, rfl⟩ := List.getElem_of_mem hc
    exact (h.oks i hi).move)
  have hw := h.wt
  unfold Ds.wt at hw
  unfold Ds.now
  exact ⟨by omega, by omega, hb.1⟩

end Go.Proofs.YtefbioainibmaaaGreatDoor
namespace Go.Proofs.YtefbioainibmaaaGreatDoor
open Go.RowKit Go.Maps
set_option linter.unusedVariables false
set_option linter.unusedSimpArgs false

end Go.Proofs.YtefbioainibmaaaGreatDoor
namespace Go.Proofs.YtefbioainibmaaaGreatDoor
open Go.RowKit Go.Maps
set_option linter.unusedVariables false
set_option linter.unusedSimpArgs false

end Go.Proofs.YtefbioainibmaaaGreatDoor
namespace Go.Proofs.YtefbioainibmaaaGreatDoor
open Go.RowKit Go.Maps
set_option linter.unusedVariables false
set_option linter.unusedSimpArgs false

/-- what hinders a change; 0: nothing but the power -/
def wrgD (d : Ds) (a : AC) : Int :=
  if d.dn then 21 else if nameOk a.name = false ∨ (a.kind = 2 ∧ nameOk a.to = false) then 20
  else if a.kind = 0 then (if fitB d.bd d.rm (tot d.now) a.s.length = false then 22 else 0)
  else if a.kind = 1 then (if fitB d.bd d.rm (tot d.now) ((a.s.length : Int) - (((kget d.now a.name).getD []).length : Int)) = false then 22 else 0)
  else if (kget d.now a.name).isSome = false then 4
  else if a.kind = 2 then (if a.name = a.to then 1 else 0)
  else if a.kind = 3 then 0
  else if a.n < 0 ∨ ((((kget d.now a.name).getD []).length : Nat) : Int) < a.n then 1 else 0
/-- an act as a change of the reference's -/
def rcA (a : AC) : RC := ⟨a.kind.toNat, a.name, a.to, a.s, a.n⟩
theorem cal_wrg (d : Ds) (a : AC) (h0 : 0 ≤ a.kind) (h4 : a.kind ≤ 4) : calD d a = if wrgD d a = 0 then chgD d (rcA a).ch else (d, wrgD d a) := by
  obtain ⟨kind, name, to, s, n, f0, f1, f2, pv⟩ := a
  simp only at h0 h4
  have h5 : kind = 0 ∨ kind = 1 ∨ kind = 2 ∨ kind = 3 ∨ kind = 4 := by omega
  unfold calD wrgD rcA RC.ch
  simp only
  rcases h5 with rfl | rfl | rfl | rfl | rfl
  · simp only [appD, if_pos]
    by_cases h1 : d.dn = true
    · simp [h1]
    by_cases h2 : nameOk name = false
    · simp [h1, h2]
    by_cases h3 : fitB d.bd d.rm (tot d.now) s.length = false
    · simp [h1, h2, h3]
    · simp [h1, h2, h3]
  · simp only [wrD]
    by_cases h1 : d.dn = true
    · simp [h1]
    by_cases h2 : nameOk name = false
    · simp [h1, h2]
    by_cases h3 : fitB d.bd d.rm (tot d.now) ((s.length : Int) - (((kget d.now name).getD []).length : Int)) = false
    · simp [h1, h2, h3]
    · simp [h1, h2, h3]
  · simp only [mvD]
    by_cases h1 : d.dn = true
    · simp [h1]
    by_cases h2 : nameOk name = false
    · simp [h1, h2]
    by_cases h2b : nameOk to = false
    · simp [h1, h2b]
    by_cases h3 : (kget d.now name).isSome = false
    · have h3' : kget d.now name = none := by simpa using h3
      simp [h1, h2, h2b, h3']
    · have h3' : (kget d.now name).isSome = true := by revert h3; cases (kget d.now name).isSome <;> simp
      by_cases h6 : name = to
      · subst h6
        simp [h1, h2, h3']
      · simp [h1, h2, h2b, h3', h6]
  · simp only [rmD]
    by_cases h1 : d.dn = true
    · simp [h1]
    by_cases h2 : nameOk name = false
    · simp [h1, h2]
    by_cases h3 : (kget d.now name).isSome = false
    · have h3' : kget d.now name = none := by simpa using h3
      simp [h1, h2, h3']
    · have h3' : (kget d.now name).isSome = true := by revert h3; cases (kget d.now name).isSome <;> simp
      simp [h1, h2, h3']
  · simp only [cuD]
    by_cases h1 : d.dn = true
    · simp [h1]
    by_cases h2 : nameOk name = false
    · simp [h1, h2]
    by_cases h3 : (kget d.now name).isSome = false
    · have h3' : kget d.now name = none := by simpa using h3
      simp [h1, h2, h3']
    · have h3' : (kget d.now name).isSome = true := by revert h3; cases (kget d.now name).isSome <;> simp
      by_cases h6 : n < 0 ∨ ((((kget d.now name).getD []).length : Nat) : Int) < n
      · simp [h1, h2, h3', h6]
      · simp [h1, h2, h3', h6]
/-- what the loop keeps -/
structure PI (d : Ds) (k B : Nat) : Prop where
  srt : Srt d.S
  oks : ∀ i (h : i < d.ws.length), ChOk (replay (d.ws.take i) d.S) d.ws[i]
  there : ∀ i (h : i < d.ws.length), d.ws[i].kind = 2 ∨ d.ws[i].kind = 4 → (kget (replay (d.ws.take i) d.S) d.ws[i].name).isSome = true
  nS : ∀ x ∈ d.S, nameOk x.1 = true
  nW : ∀ ch ∈ d.ws, nameOk ch.name = true ∧ (ch.kind = 2 → nameOk ch.to = true)
  wt : d.wt + d.S.length + d.ws.length ≤ B
  n : d.n ≤ k
theorem PI.now {d : Ds} {k B : Nat} (h : PI d k B) (hB : B ≤ 7036874417) : NowOk d := ⟨h.srt, h.oks, h.there, Nat.le_trans h.wt hB⟩
theorem PI.mono {d : Ds} {k B k' B' : Nat} (h : PI d k B) (hk : k ≤ k') (hB : B ≤ B') : PI d k' B' := ⟨h.srt, h.oks, h.there, h.nS, h.nW, Nat.le_trans h.wt hB, Nat.le_trans h.n hk⟩
theorem names_replay : ∀ (ws : List Chg) (A : List (Bs × Bs)), (∀ x ∈ A, nameOk x.1 = true) → (∀ ch ∈ ws, nameOk ch.name = true ∧ (ch.kind = 2 → nameOk ch.to = true)) → ∀ x ∈ replay ws A, nameOk x.1 = true
  | [], A, h, _, x, hx => h x hx
  | c :: r, A, h, hw, x, hx => by
    refine names_replay r (doC A c) (fun y hy => ?_) (fun ch hc => hw ch (by simp [hc])) x hx
    rcases mem_doC hy with hy | e | ⟨h2, e⟩
    · exact h y hy
    · rw [e]; exact (hw c (by simp)).1
    · rw [e]; exact (hw c (by simp)).2 h2
theorem PI.nm {d : Ds} {k B : Nat} (h : PI d k B) : NmOk d := fun x hx => names_replay d.ws d.S h.nS h.nW x hx
theorem PI.mv {d : Ds} {k B : Nat} (h : PI d k B) : ∀ ch ∈ d.ws, ch.kind = 2 → ch.to ≠ ch.name := fun ch hc => by
  obtain ⟨i, hi, rfl⟩ := List.getElem_of_mem hc
  exact (h.oks i hi).move
theorem PI.more {d : Ds} {k B : Nat} (h : PI d k B) (ch : Chg) (hok : ChOk d.now ch) (hth : ch.kind = 2 ∨ ch.kind = 4 → (kget d.now ch.name).isSome = true) (hn : nameOk ch.name = true) (ht : ch.kind = 2 → nameOk ch.to = true) : PI (d.more ch) k (B + (ch.s.length + 1)) := by
  have hl : (d.more ch).ws = d.ws ++ [ch] := rfl
  refine ⟨h.srt, fun i hi => ?_, fun i hi => ?_, h.nS, fun x hx => ?_, ?_, h.n⟩
  · simp only [hl, List.length_append, List.length_singleton] at hi ⊢
    by_cases hlt : i < d.ws.length
    · have e1 : (d.ws ++ [ch]).take i = d.ws.take i := List.take_append_of_le_length (by omega)
      rw [e1, List.getElem_append_left hlt]
      exact h.oks i hlt
    · have e : i = d.ws.length := by omega
      subst e
      rw [List.take_append_of_le_length (Nat.le_refl _), List.take_of_length_le (Nat.le_refl _), List.getElem_append_right (Nat.le_refl _)]
      simp only [Nat.sub_self, List.getElem_cons_zero]
      exact hok
  · simp only [hl, List.length_append, List.length_singleton] at hi ⊢
    by_cases hlt : i < d.ws.length
    · have e1 : (d.ws ++ [ch]).take i = d.ws.take i := List.take_append_of_le_length (by omega)
      rw [e1, List.getElem_append_left hlt]
      exact h.there i hlt
    · have e : i = d.ws.length := by omega
      subst e
      rw [List.take_append_of_le_length (Nat.le_refl _), List.take_of_length_le (Nat.le_refl _), List.getElem_append_right (Nat.le_refl _)]
      simp only [Nat.sub_self, List.getElem_cons_zero]
      exact hth
  · rw [hl] at hx
    rcases List.mem_append.1 hx with hx | hx
    · exact h.nW x hx
    · rw [List.mem_singleton] at hx
      subst hx
      exact ⟨hn, ht⟩
  · have hw := h.wt
    show tot d.S + ((d.ws ++ [ch]).map fun ch => ch.s.length).sum + d.S.length + (d.ws ++ [ch]).length ≤ _
    unfold Ds.wt at hw
    rw [List.map_append, List.sum_append, List.length_append]
    simp
    omega
theorem replay_take {d : Ds} {k B : Nat} (h : PI d k B) (j : Nat) : Srt (replay (d.ws.take j) d.S) ∧ (∀ x ∈ replay (d.ws.take j) d.S, nameOk x.1 = true) ∧ tot (replay (d.ws.take j) d.S) ≤ tot d.S + ((d.ws.take j).map fun ch => ch.s.length).sum ∧ (replay (d.ws.take j) d.S).length ≤ d.S.length + (d.ws.take j).length := by
  obtain ⟨h1, h2, h3⟩ := replay_bounds (d.ws.take j) d.S h.srt (fun ch hc => h.mv ch (List.mem_of_mem_take hc))
  exact ⟨h1, names_replay _ _ h.nS (fun ch hc => h.nW ch (List.mem_of_mem_take hc)), h2, h3⟩
theorem PI.fail {d : Ds} {k B : Nat} (h : PI d k B) (kp tn : Int) : PI (failD d kp tn) k B := by
  unfold failD
  split
  · exact h
  · obtain ⟨h1, h2, h3, h4⟩ := replay_take h (keepN d kp)
    have hts := take_sum d.ws (keepN d kp)
    have hw := h.wt
    unfold Ds.wt at hw
    have hl : (d.ws.take (keepN d kp)).length ≤ d.ws.length := by rw [List.length_take]; omega
    have key : Srt (failS d kp tn) ∧ (∀ x ∈ failS d kp tn, nameOk x.1 = true) ∧ tot (failS d kp tn) + (failS d kp tn).length ≤ B := by
      unfold failS
      cases hg : d.ws[keepN d kp]? with
      | none =>
        simp only
        exact ⟨h1, h2, by omega⟩
      | some ch =>
        simp only
        unfold tearC
        split
        · exact ⟨h1, h2, by omega⟩
        · rename_i hne
          have hk2 : ¬ ch.kind = 2 := by omega
          obtain ⟨hlt, hge⟩ := List.getElem?_eq_some_iff.1 hg
          have hmem : ch ∈ d.ws := hge ▸ List.getElem_mem hlt
          have h5 := doC_len (replay (d.ws.take (keepN d kp)) d.S) { ch with s := ch.s.take tn.toNat }
          have h6 := tot_doC h1 { ch with s := ch.s.take tn.toNat } (fun e => absurd e hk2)
          have h7 := take_sum d.ws (keepN d kp + 1)
          rw [List.take_succ_eq_append_getElem hlt, List.map_append, List.sum_append, hge] at h7
          simp only [List.map_cons, List.map_nil, List.sum_cons, List.sum_nil] at h7
          have h8 : (ch.s.take tn.toNat).length ≤ ch.s.length := by rw [List.length_take]; omega
          have h9 : (d.ws.take (keepN d kp)).length = keepN d kp := by rw [List.length_take]; omega
          refine ⟨srt_doC h1 _, fun x hx => ?_, ?_⟩
          · rcases mem_doC hx with hx | e | ⟨e2, e⟩
            · exact h2 x hx
            · rw [e]; exact (h.nW ch hmem).1
            · exact absurd e2 hk2
          · simp only at h6
            omega
    exact ⟨key.1, fun i hi => (by simp at hi), fun i hi => (by simp at hi), key.2.1, fun ch hc => (by cases hc), by show tot (failS d kp tn) + 0 + (failS d kp tn).length + 0 ≤ B; omega, h.n⟩
theorem PI.sync {d : Ds} {k B : Nat} (h : PI d k B) : PI (synD d) k B := by
  obtain ⟨h1, h2, h3⟩ := replay_bounds d.ws d.S h.srt h.mv
  have hw := h.wt
  unfold Ds.wt at hw
  exact ⟨h1, fun i hi => (by simp [synD] at hi), fun i hi => (by simp [synD] at hi), h.nm, fun ch hc => (by cases hc), by show tot (replay d.ws d.S) + 0 + (replay d.ws d.S).length + 0 ≤ B; omega, h.n⟩
/-- what may be done is a change that may be -/
theorem wrg_ok {d : Ds} {a : AC} (h0 : 0 ≤ a.kind) (h4 : a.kind ≤ 4) (hw : wrgD d a = 0) : d.dn = false ∧ nameOk a.name = true ∧ ChOk d.now (rcA a).ch ∧ ((rcA a).ch.kind = 2 ∨ (rcA a).ch.kind = 4 → (kget d.now (rcA a).ch.name).isSome = true) ∧ nameOk (rcA a).ch.name = true ∧ ((rcA a).ch.kind = 2 → nameOk (rcA a).ch.to = true) ∧ ((rcA a).kind = 4 → 0 ≤ (rcA a).long) ∧ (rcA a).ch.s.length ≤ a.s.length := by
  obtain ⟨kind, name, to, s, n, f0, f1, f2, pv⟩ := a
  simp only at h0 h4
  have h5 : kind = 0 ∨ kind = 1 ∨ kind = 2 ∨ kind = 3 ∨ kind = 4 := by omega
  unfold wrgD at hw
  simp only at hw
  have h1 : d.dn = false := by
    cases hd : d.dn with
    | false => rfl
    | true => rw [hd] at hw; simp at hw
  rw [h1, if_neg (by decide)] at hw
  have h2 : nameOk name = true ∧ (kind = 2 → nameOk to = true) := by
    by_cases hc : nameOk name = false ∨ (kind = 2 ∧ nameOk to = false)
    · rw [if_pos hc] at hw; cases hw
    · constructor
      · cases hx : nameOk name with
        | true => rfl
        | false => exact absurd (.inl hx) hc
      · intro e
        cases hx : nameOk to with
        | true => rfl
        | false => exact absurd (.inr ⟨e, hx⟩) hc
  rw [if_neg (by rintro (e | ⟨e1, e2⟩); (rw [h2.1] at e; cases e); rw [h2.2 e1] at e2; cases e2)] at hw
  have hl : name.length ≤ maxLen := by have := nameOk_len h2.1; unfold maxLen; omega
  have hnil : ([] : Bs).length ≤ maxLen := Nat.zero_le _
  refine ⟨h1, h2.1, ?_⟩
  rcases h5 with rfl | rfl | rfl | rfl | rfl
  · exact ⟨⟨(by show 0 ≤ 4; omega), hl, hnil, fun e => (by cases e), fun e => (by cases e)⟩, fun e => (by rcases e with e | e <;> cases e), h2.1, fun e => (by cases e), fun e => (by cases e), Nat.le_refl _⟩
  · exact ⟨⟨(by show 1 ≤ 4; omega), hl, hnil, fun e => (by cases e), fun e => (by cases e)⟩, fun e => (by rcases e with e | e <;> cases e), h2.1, fun e => (by cases e), fun e => (by cases e), Nat.le_refl _⟩
  · rw [if_neg (by decide), if_neg (by decide)] at hw
    by_cases h3 : (kget d.now name).isSome = false
    · rw [if_pos h3] at hw; cases hw
    · rw [if_neg h3, if_pos rfl] at hw
      have h3' : (kget d.now name).isSome = true := by revert h3; cases (kget d.now name).isSome <;> simp
      by_cases h6 : name = to
      · rw [if_pos h6] at hw; cases hw
      · have ht := h2.2 rfl
        exact ⟨⟨(by show 2 ≤ 4; omega), hl, by have := nameOk_len ht; show to.length ≤ maxLen; unfold maxLen; omega, fun _ e => h6 e.symm, fun e => (by cases e)⟩, fun _ => h3', h2.1, fun _ => ht, fun e => (by cases e), Nat.zero_le _⟩
  · rw [if_neg (by decide), if_neg (by decide)] at hw
    exact ⟨⟨(by show 3 ≤ 4; omega), hl, hnil, fun e => (by cases e), fun e => (by cases e)⟩, fun e => (by rcases e with e | e <;> cases e), h2.1, fun e => (by cases e), fun e => (by cases e), Nat.zero_le _⟩
  · rw [if_neg (by decide), if_neg (by decide)] at hw
    by_cases h3 : (kget d.now name).isSome = false
    · rw [if_pos h3] at hw; cases hw
    · rw [if_neg h3, if_neg (by decide), if_neg (by decide)] at hw
      have h3' : (kget d.now name).isSome = true := by revert h3; cases (kget d.now name).isSome <;> simp
      by_cases h6 : n < 0 ∨ ((((kget d.now name).getD []).length : Nat) : Int) < n
      · rw [if_pos h6] at hw; cases hw
      · have h7 : 0 ≤ n ∧ n ≤ ((((kget d.now name).getD []).length : Nat) : Int) := by omega
        exact ⟨⟨(by show 4 ≤ 4; omega), hl, hnil, fun e => (by cases e), fun _ => by show n.toNat ≤ ((kget d.now name).getD []).length; omega⟩, fun _ => h3', h2.1, fun e => (by cases e), fun _ => h7.1, Nat.zero_le _⟩
theorem PI.chg {d : Ds} {k B : Nat} (h : PI d k B) (ch : Chg) (hok : ChOk d.now ch) (hth : ch.kind = 2 ∨ ch.kind = 4 → (kget d.now ch.name).isSome = true) (hn : nameOk ch.name = true) (ht : ch.kind = 2 → nameOk ch.to = true) : PI (chgD d ch).1 (k + 1) (B + (ch.s.length + 1)) := by
  have hm := h.more ch hok hth hn ht
  unfold chgD
  cases d.fl.find? fun x => x.at_ = (d.n : Int) with
  | none => exact ⟨hm.srt, hm.oks, hm.there, hm.nS, hm.nW, hm.wt, by show d.n + 1 ≤ _; have := h.n; omega⟩
  | some f =>
    refine (PI.fail (d := { d.more ch with fl := offF d.fl d.n }) ⟨hm.srt, hm.oks, hm.there, hm.nS, hm.nW, hm.wt, hm.n⟩ f.keep f.torn).mono (by omega) (Nat.le_refl _)
theorem PI.call {d : Ds} {k B : Nat} (h : PI d k B) (a : AC) (h0 : 0 ≤ a.kind) (h4 : a.kind ≤ 4) : PI (calD d a).1 (k + 1) (B + (a.s.length + 1)) := by
  rw [cal_wrg d a h0 h4]
  split
  · rename_i hw
    obtain ⟨_, _, h1, h2, h3, h5, _, h6⟩ := wrg_ok h0 h4 hw
    exact (h.chg _ h1 h2 h3 h5).mono (Nat.le_refl _) (by omega)
  · exact h.mono (by omega) (by omega)
end Go.Proofs.YtefbioainibmaaaGreatDoor
