/- Joined: Which extents a disk has: All. Taking extents away: drop, as Open asks for it. Opening a store at any disk. The document's May, Of and Open of extents. The document's Open of extents, over any files. Keeping an extent: Put at any disk. Extents' files: what a right one holds. The disk of the law's own small run: an extent laid on a new disk, the power lost, opened again. A disk from which files are taken away, pure: what opening a store makes of any files. Keeping some extents: Keep. The laws' own small functions on texts: few, ids, among. ExtentOpens: the disk that files are laid on, pure. -/
import Derived.Test.YtedogofeibdjiaaGreatJoined16
import Derived.Test.YtedogofeibdjiaaGreatJoined17
import Derived.Test.YtedogofeibdjiaaGreatJoined02
import Derived.Deep.RegionHeld3
import Derived.Test.YtedogofeibdjiaaGreatJoined15
import Derived.Test.YtedogofeibdjiaaGreatJoined10
import Derived.Test.YtedogofeibdjiaaGreatJoined01
import Derived.Test.YtedogofeibdjiaaGreatJoined14
namespace Go.Proofs.YtedogofeibdjiaaGreat
open Go.RowKit Go.Maps
set_option linter.unusedVariables false
set_option linter.unusedSimpArgs false

/-- a file's id, if its name is an extent's -/
def idOf (n : Bs) : Option Bs := if ([101, 46] : Bs).isPrefixOf n && isIdB (n.drop 2) then some (n.drop 2) else none
/-- the ids of files -/
def idsOf (L : List (Bs × Bs)) : List Bs := L.filterMap fun x => idOf x.1
theorem idsOf_take {L : List (Bs × Bs)} {k : Nat} (h : k < L.length) : idsOf (L.take (k + 1)) = idsOf (L.take k) ++ (match idOf (L[k]).1 with | some i => [i] | none => []) := by
  unfold idsOf
  rw [List.take_succ_eq_append_getElem h, List.filterMap_append]
  congr 1
  cases hh : idOf (L[k]).1 <;> simp [hh]
/-- cells of texts -/
def txC (l : List Bs) : List Value := l.map fun t => .string (tx t)
theorem txC_ss (l : List Bs) : txC l = ss (l.map tx) := by simp [txC, ss]
set_option maxRecDepth 100000 in
set_option maxHeartbeats 4000000 in
theorem all_any (x p : Nat) (c : Nat → Nat) (d : Ds) (w : World) (hx : StIs w x p) (h : DiskIs w c p d) (hdn : d.dn = false) (hl : d.now.length ≤ 1073741824) (hnm : ∀ y ∈ d.now, y.1.length ≤ 80) :
    Calls Tryz.prog 23 #[.pointer (some ⟨x, 0, none⟩)] w fun e w' => ∃ v, e = .returned v ∧ w'.ownsRow w.heap.size 9 1 v (idsOf d.now).length (txC (idsOf d.now)) ∧ Keep (fun _ => False) w w' := by
  have NN := hid (isNone_any x p w hx)
  have NM := hid (names_any keysC sortedC p c d w h hdn (by omega) hnm)
  have hcx : w.cell? ⟨x, 0, none⟩ = some (.pointer (some ⟨p, 0, none⟩)) := hx
  have HNM := hid hnm
  generalize d.now = L at *
  clear h hdn hnm
  have H0 : Hid (∀ W : World, W.ownsRow W.heap.size 9 1 (.slice none 0 0) 0 (txC (idsOf (L.take 0)))) := fun W => ⟨rfl, .inl ⟨rfl, rfl⟩⟩
  go_enter Tryz.func23, Tryz.ntmps23
  go_wp2_with fail
  refine NN.out.mono ?_
  rintro e w9 ⟨rfl, rfl⟩
  clear NN
  go_wp2_with fail
  refine NM.out.mono ?_
  rintro e w1 ⟨v, rfl, hr, hk1⟩
  have HK1 := hid hk1
  have HR := hid hr
  obtain ⟨ad0, cap0, rfl⟩ := row_form hr
  clear NM hr hk1 hcx
  have HCE : Hid (∀ k (hk : k < L.length), ∃ g, ad0 = some ⟨g, 0, none⟩ ∧ g < w1.heap.size ∧ w1.cell? ⟨g, 0 + k, none⟩ = some (.string (tx (L[k]).1))) := fun k hk => by
    rcases HR.out.2 with ⟨e, h0⟩ | ⟨g, cap, cur, e, hg, hb, r⟩
    · omega
    · injection e with e1 e2 e3
      refine ⟨g, e1, (Array.getElem?_eq_some_iff.1 hb).1, ?_⟩
      have e9 : ad0 = some ⟨g, 0, none⟩ := e1
      subst e9
      rw [Nat.zero_add]
      exact grow_at HR.out (by simp [nmC, hk])
  have H1 := hid (H0.out w1)
  clear H0 HR
  go_wp2
  go_loopw [3, 16] (fun l i wr => ∃ (k m : Nat) (ad : Option Addr) (cap : Nat), k ≤ L.length ∧ m ≤ k ∧ l = .slice ad m cap ∧ i = .int .i64 (k : Int) ∧ Hid (m = (idsOf (L.take k)).length) ∧ Hid (wr.ownsRow w1.heap.size 9 1 (.slice ad m cap) m (txC (idsOf (L.take k)))) ∧ Hid (Keep (fun _ => False) w1 wr)) (fun _ i _ => L.length - (intOf i).toNat)
  case atStart => exact ⟨0, 0, none, 0, Nat.zero_le _, Nat.le_refl _, rfl, rfl, rfl, H1, Keep.refl _ _⟩
  case round =>
    clear H1
    obtain ⟨k, m, ad, cap, hk, hmk, rfl, rfl, HM, HO, HK⟩ := hrel
    by_cases hlt : k < L.length
    · obtain ⟨gb, had, hgb, hcell⟩ := HCE.out k hlt
      subst had
      have hcw : wr.cell? ⟨gb, 0 + k, none⟩ = some (.string (tx (L[k]).1)) := by rw [← hcell]; exact HK.out.cell hgb (fun h => h)
      have hcw2 : wr.cell? ⟨gb, k, none⟩ = some (.string (tx (L[k]).1)) := by rw [Nat.zero_add] at hcw; exact hcw
      have hk0 : (0 : Int) ≤ (k : Int) := by omega
      have hk1 : (k : Int) < (L.length : Int) := by omega
      have hnl := HNM.out _ (List.getElem_mem hlt)
      have HS := hid (idsOf_take hlt)
      have CP := hid (fun W : World => cutP_any (L[k]).1 [101, 46] W)
      have ID := hid (fun W : World => isID_any ((L[k]).1.drop 2) W (by rw [List.length_drop]; omega))
      have HI : Hid (idOf (L[k]).1 = if ([101, 46] : Bs).isPrefixOf (L[k]).1 && isIdB ((L[k]).1.drop 2) then some ((L[k]).1.drop 2) else none) := rfl
      clear hcell hnl
      generalize (L[k]).1 = nm at *
      cases hpf : ([101, 46] : Bs).isPrefixOf nm with
      | false =>
        rw [hpf] at CP HI
        have HS2 : Hid (idsOf (L.take (k + 1)) = idsOf (L.take k)) := by show _ = _; rw [HS.out, HI.out]; simp
        have HM2 : Hid (m = (idsOf (L.take (k + 1))).length) := by show _ = _; rw [HS2.out]; exact HM.out
        have HO2 : Hid (wr.ownsRow w1.heap.size 9 1 (.slice ad m cap) m (txC (idsOf (L.take (k + 1))))) := by rw [HS2.out]; exact HO
        clear HS HS2 HI HM HO ID
        simp only [Bool.false_eq_true, if_false] at CP
        generalize tx nm = T at *
        go_wp2_with fail
        refine (CP.out _).mono ?_
        rintro e w2 ⟨rfl, rfl⟩
        clear CP
        go_wp2
        exact ⟨⟨k + 1, m, ad, cap, by omega, by omega, rfl, by go_num, HM2, HO2, HK⟩, by simp [intOf]; omega⟩
      | true =>
        rw [hpf] at CP HI
        have e2 : ([101, 46] : Bs).length = 2 := rfl
        simp only [if_true, e2, Bool.true_and] at CP HI
        generalize nm.drop 2 = id at *
        cases his : isIdB id with
        | false =>
          rw [his] at ID HI
          have HS2 : Hid (idsOf (L.take (k + 1)) = idsOf (L.take k)) := by show _ = _; rw [HS.out, HI.out]; simp
          have HM2 : Hid (m = (idsOf (L.take (k + 1))).length) := by show _ = _; rw [HS2.out]; exact HM.out
          have HO2 : Hid (wr.ownsRow w1.heap.size 9 1 (.slice ad m cap) m (txC (idsOf (L.take (k + 1))))) := by rw [HS2.out]; exact HO
          have HMK := hid (fun (W : World) (k2 : Keep (fun _ => False) wr W) => (⟨k2.ownsRow HO2.out (fun _ _ h => h), HK.out.trans k2⟩ : _ ∧ _))
          clear HS HS2 HI HM HO HO2 HK
          generalize tx nm = T at *
          generalize tx id = I at *
          go_wp2_with fail
          refine (CP.out _).mono ?_
          rintro e w2 ⟨rfl, rfl⟩
          clear CP
          go_wp2_with fail
          refine (ID.out _).mono ?_
          rintro e w3 ⟨rfl, hk3⟩
          obtain ⟨f1, f2⟩ := HMK.out w3 hk3
          have F1 := hid f1
          have F2 := hid f2
          clear ID HMK hk3 f1 f2 hcw hcw2
          go_wp2
          exact ⟨⟨k + 1, m, ad, cap, by omega, by omega, rfl, by go_num, HM2, F1, F2⟩, by simp [intOf]; omega⟩
        | true =>
          rw [his] at ID HI
          have HS2 : Hid (idsOf (L.take (k + 1)) = idsOf (L.take k) ++ [id]) := by show _ = _; rw [HS.out, HI.out]; simp
          have HM2 : Hid (m + 1 = (idsOf (L.take (k + 1))).length) := by show _ = _; rw [HS2.out, List.length_append, ← HM.out]; rfl
          obtain ⟨I, hI⟩ : ∃ I, I = tx id := ⟨_, rfl⟩
          have HTC : Hid (txC (idsOf (L.take (k + 1))) = txC (idsOf (L.take k)) ++ [.string I]) := by show _ = _; rw [HS2.out, hI]; simp [txC]
          rw [← hI] at CP ID
          have HO1 : Hid (∀ u ∈ [Value.string I], u.oneCell' = true) := fun u hu => by simp at hu; rw [hu]; rfl
          have HB1 : Hid (m + 1 ≤ 70368744177) := by show _ ≤ _; omega
          have HB2 : Hid ((m + 1) * 16 ≤ 140737488355328) := by show _ ≤ _; omega
          have HOA : Hid (∀ W, Keep (fun _ => False) wr W → (W.alloc (Obj.cells #[.string I] 9)).ownsRow w1.heap.size 9 1 (.slice ad m cap) m (txC (idsOf (L.take k))) ∧ GSrc (W.alloc (Obj.cells #[.string I] 9)) (.slice (some ⟨W.heap.size, 0, none⟩) 1 1) 1 [.string I] ∧ w1.heap.size ≤ (W.alloc (Obj.cells #[.string I] 9)).heap.size) := fun W hW => ⟨(keep_alloc (fun _ => False) _ _).ownsRow (hW.ownsRow HO.out (fun _ _ h => h)) (fun _ _ h => h), gsrc_block (heap_alloc_new _ _), ((HK.out.trans hW).trans (keep_alloc (fun _ => False) _ _)).size⟩
          have FIN : Hid (∀ (W : World) (ad' : Option Addr) (cap' : Nat) (w' : World), Keep (fun _ => False) wr W → w'.ownsRow w1.heap.size 9 1 (.slice ad' (m + 1) cap') (m + 1) (txC (idsOf (L.take k)) ++ [.string I]) → Keep (fun j => (Value.slice ad m cap).ownBlock = some j) (W.alloc (Obj.cells #[.string I] 9)) w' → Hid (w'.ownsRow w1.heap.size 9 1 (.slice ad' (m + 1) cap') (m + 1) (txC (idsOf (L.take (k + 1))))) ∧ Hid (Keep (fun _ => False) w1 w')) := fun W ad' cap' w' hW ho hk => ⟨by rw [HTC.out]; exact ho, ((HK.out.trans hW).trans (keep_alloc _ _ _)).then hk (fun j hj e => by have := ownsRow_ge HO.out e; omega)⟩
          clear hI HS HS2 HI HM HO HK HTC
          generalize tx nm = T at *
          go_wp2_with fail
          refine (CP.out _).mono ?_
          rintro e w2 ⟨rfl, rfl⟩
          clear CP
          go_wp2_with fail
          refine (ID.out _).mono ?_
          rintro e w3 ⟨rfl, hk3⟩
          have HO3 := hid (HOA.out w3 hk3).1
          have HG3 := hid (HOA.out w3 hk3).2.1
          have HS3 := hid (HOA.out w3 hk3).2.2
          have HFN := hid (fun ad' cap' w' => FIN.out w3 ad' cap' w' hk3)
          clear hk3 HOA FIN ID hcw hcw2
          go_wp2_with (at_builtin; refine wpl_gapp rfl _ _ elStr rfl w1.heap.size (.slice ad m cap) (.slice (some ⟨w3.heap.size, 0, none⟩) 1 1) (txC (idsOf (L.take k))) [.string I] m 1 (m + 1) rfl rfl rfl HO3.out HS3.out HG3.out rfl HO1.out HB1.out HB2.out ?_; intro ad' cap' w' ho' hk')
          obtain ⟨f1, f2⟩ := HFN.out ad' cap' w' ho' hk'
          exact ⟨⟨k + 1, m + 1, ad', cap', by omega, by omega, rfl, by go_num, HM2, f1, f2⟩, by simp [intOf]; omega⟩
    · have hd : decide ((k : Int) < (L.length : Int)) = false := decide_eq_false (by omega)
      have hd2 : decide (k < L.length) = false := decide_eq_false hlt
      have HE : Hid (wr.ownsRow w9.heap.size 9 1 (.slice ad m cap) (idsOf L).length (txC (idsOf L)) ∧ Keep (fun _ => False) w9 wr) := by
        have e : L.take k = L := List.take_of_length_le (by omega)
        have h1 := HM.out
        have h2 := HO.out
        rw [e] at h1 h2
        rw [← h1]
        exact ⟨ownsRow_base h2 HK1.out.size, HK1.out.trans HK.out⟩
      clear HM HO
      go_wp2
      go_ret
      exact ⟨_, rfl, HE.out.1, HE.out.2⟩
end Go.Proofs.YtedogofeibdjiaaGreat
namespace Go.Proofs.YtedogofeibdjiaaGreat
open Go.RowKit Go.Maps
set_option linter.unusedVariables false
set_option linter.unusedSimpArgs false

set_option maxRecDepth 100000 in
/-- what Open's own test tells -/
theorem goes_any (q x p : Nat) (c : Nat → Nat) (d : Ds) (id : Bs) (w : World) (hq : w.cell? ⟨q, 0, none⟩ = some (.pointer (some ⟨x, 0, none⟩))) (hx : StIs w x p) (h : DiskIs w c p d) (hid1 : id.length ≤ 1073741824) (hf : (rdD d (enm id)).1.length ≤ 1073741824) :
    Calls Tryz.prog 33 #[.string (tx id), .pointer (some ⟨q, 0, none⟩)] w fun e w' => e = .returned (.bool (!decide ((getD d id).2 = 0))) ∧ Keep (fun _ => False) w w' := by
  have HA := hid (xhas_any x p c d id w hx h hid1 hf)
  generalize decide ((getD d id).2 = 0) = b at *
  generalize tx id = I at *
  clear h hx hf
  go_enter Tryz.func33, Tryz.ntmps33
  go_wp2_with fail
  refine HA.out.mono ?_
  rintro e w1 ⟨rfl, hk1⟩
  have HK := hid hk1
  clear HA hk1
  go_wp2
  go_ret
  exact ⟨rfl, HK.out⟩
/-- one extent's turn: is it right, it stays; else it is taken away -/
def dropS (a : Ds × Nat × Int) (id : Bs) : Ds × Nat × Int :=
  if a.2.2 ≠ 0 then a
  else if (getD a.1 id).2 = 0 then a
  else if (rmD a.1 (enm id)).2 ≠ 0 then ((rmD a.1 (enm id)).1, 0, (rmD a.1 (enm id)).2)
  else ((rmD a.1 (enm id)).1, a.2.1 + 1, 0)
/-- what taking away the extents that are not right makes of a disk -/
def dropD (d : Ds) (ids : List Bs) : Ds × Nat × Int := ids.foldl dropS (d, 0, 0)
theorem dropS_stop (ids : List Bs) : ∀ a : Ds × Nat × Int, a.2.2 ≠ 0 → ids.foldl dropS a = a := by
  induction ids with
  | nil => intro a _; rfl
  | cons i r ih => intro a h; rw [List.foldl_cons, show dropS a i = a from if_pos h]; exact ih a h
theorem dropD_take {d : Ds} {ids : List Bs} {k : Nat} (h : k < ids.length) : dropD d (ids.take (k + 1)) = dropS (dropD d (ids.take k)) ids[k] := by
  unfold dropD
  rw [List.take_succ_eq_append_getElem h, List.foldl_append]
  rfl
theorem dropD_stop {d : Ds} {ids : List Bs} {k : Nat} (h : (dropD d (ids.take k)).2.2 ≠ 0) : dropD d ids = dropD d (ids.take k) := by
  unfold dropD at h ⊢
  conv => lhs; rw [← List.take_append_drop k ids, List.foldl_append]
  exact dropS_stop _ _ h
/-- a disk on which an extent can be looked at and taken away -/
def OkD (d : Ds) (id : Bs) : Prop := id.length ≤ 1073741824 ∧ (rdD d (enm id)).1.length ≤ 1073741824 ∧ d.wt + d.S.length + d.ws.length + (enm id).length ≤ 70368744177 ∧ d.n ≤ 1152921504606846976
set_option maxRecDepth 100000 in
set_option maxHeartbeats 4000000 in
theorem xdrop_any (q x p : Nat) (c : Nat → Nat) (d : Ds) (w : World) (hq : w.cell? ⟨q, 0, none⟩ = some (.pointer (some ⟨x, 0, none⟩))) (hcq : 6 < c q) (hx : StIs w x p) (hcx : 6 < c x) (h : DiskIs w c p d) (hdn : d.dn = false) (hl : d.now.length ≤ 1073741824) (hnm : ∀ y ∈ d.now, y.1.length ≤ 80)
    (hok : ∀ k (hk : k < (idsOf d.now).length), OkD (dropD d ((idsOf d.now).take k)).1 ((idsOf d.now)[k])) :
    Calls Tryz.prog 32 #[.pointer (some ⟨x, 0, none⟩), .func (.func 33) #[] #[.pointer (some ⟨q, 0, none⟩)]] w fun e w' => e = .returned (.tuple #[.int .i64 ((dropD d (idsOf d.now)).2.1 : Nat), .int .i64 (dropD d (idsOf d.now)).2.2]) ∧ Left w c p (dropD d (idsOf d.now)).1 w' := by
  have AL := hid (all_any x p c d w hx h hdn hl hnm)
  have hlen : (idsOf d.now).length ≤ d.now.length := List.length_filterMap_le _ _
  have HOK := hid hok
  have HH := hid h
  have HQ := hid hq
  have HX := hid hx
  have hqs : q < w.heap.size := World.block_lt_of_cell? _ _ hq
  have hxs : x < w.heap.size := hx.lt
  generalize idsOf d.now = ids at *
  clear hok h hnm hq hx
  go_enter Tryz.func32, Tryz.ntmps32
  go_wp2_with fail
  refine AL.out.mono ?_
  rintro e w1 ⟨v, rfl, hr, hk1⟩
  obtain ⟨ad0, cap0, rfl⟩ := row_form hr
  have HCE : Hid (∀ k (hk : k < ids.length), ∃ g, ad0 = some ⟨g, 0, none⟩ ∧ w.heap.size ≤ g ∧ g < w1.heap.size ∧ w1.cell? ⟨g, k, none⟩ = some (.string (tx ids[k]))) := fun k hk => by
    rcases hr.2 with ⟨e, h0⟩ | ⟨g, cap, cur, e, hg, hb, r⟩
    · omega
    · injection e with e1 e2 e3
      have e9 : ad0 = some ⟨g, 0, none⟩ := e1
      subst e9
      exact ⟨g, rfl, hg, (Array.getElem?_eq_some_iff.1 hb).1, grow_at hr (by simp [txC, hk])⟩
  obtain ⟨c1, hc1⟩ : ∃ c1 : Nat → Nat, c1 = fun j => if j < w.heap.size then c j else 7 := ⟨_, rfl⟩
  have HC1 : Hid ((∀ j, j < w.heap.size → c1 j = c j) ∧ ∀ j, w.heap.size ≤ j → c1 j = 7) := ⟨fun j hj => by rw [hc1]; exact if_pos hj, fun j hj => by rw [hc1]; exact if_neg (by omega)⟩
  have HL0 : Hid (Left w1 c1 p (dropD d (ids.take 0)).1 w1) := left_same (HH.out.keep hk1 HC1.out.1 (fun _ _ h => h.elim)) (Keep.refl _ _)
  have HQX : Hid (∀ (d' : Ds) (W : World), Left w1 c1 p d' W → W.cell? ⟨q, 0, none⟩ = some (.pointer (some ⟨x, 0, none⟩)) ∧ StIs W x p) := fun d' W hL => by
    have s1 := hk1.size
    refine ⟨?_, ?_⟩
    · rw [hL.2.cell (by omega) (by rw [HC1.out.1 q hqs]; omega), hk1.cell hqs (fun h => h)]; exact HQ.out
    · exact ((hL.2.cell (by omega) (by rw [HC1.out.1 x hxs]; omega)).trans (hk1.cell hxs (fun h => h))).trans HX.out
  have FIN : Hid (∀ (d' : Ds) (W : World), Left w1 c1 p d' W → Left w c p d' W) := fun d' W hL => Left.trans HC1.out.1 (hk1.mono (fun _ _ h => h.elim)) hL
  have HCL : Hid (∀ k (hk : k < ids.length) (d' : Ds) (W : World), Left w1 c1 p d' W → ∃ g, ad0 = some ⟨g, 0, none⟩ ∧ W.cell? ⟨g, k, none⟩ = some (.string (tx ids[k]))) := fun k hk d' W hL => by
    obtain ⟨g, h1, h2, h3, h4⟩ := HCE.out k hk
    exact ⟨g, h1, (hL.2.cell h3 (by rw [HC1.out.2 g h2]; omega)).trans h4⟩
  clear hr hk1 HCE HC1 hc1 AL HQ HX HH
  go_wp2
  go_loopw [6, 13] (fun n i wr => ∃ k : Nat, k ≤ ids.length ∧ n = .int .i64 ((dropD d (ids.take k)).2.1 : Nat) ∧ i = .int .i64 (k : Int) ∧ Hid ((dropD d (ids.take k)).2.1 ≤ k) ∧ Hid ((dropD d (ids.take k)).2.2 = 0) ∧ Hid (Left w1 c1 p (dropD d (ids.take k)).1 wr)) (fun _ i _ => ids.length - (intOf i).toNat)
  case atStart => exact ⟨0, Nat.zero_le _, rfl, rfl, Nat.le_refl _, rfl, HL0⟩
  case round =>
    clear HL0
    obtain ⟨k, hk, rfl, rfl, HN, HE, HL⟩ := hrel
    by_cases hlt : k < ids.length
    · have HST := hid (dropD_take (d := d) hlt)
      have HOKk := hid (HOK.out k hlt)
      clear HOK
      generalize dropD d (ids.take k) = a at *
      obtain ⟨da, na, ea⟩ := a
      simp only at HN HE HL HOKk
      have hN := HN.out
      have hE := HE.out
      subst hE
      obtain ⟨gb, had, hcw⟩ := HCL.out k hlt da wr HL.out
      subst had
      obtain ⟨hqw, hxw⟩ := HQX.out da wr HL.out
      have HXW := hid hxw
      have hk0 : (0 : Int) ≤ (k : Int) := by omega
      have hk1 : (k : Int) < (ids.length : Int) := by omega
      obtain ⟨o1, o2, o3, o4⟩ := HOKk.out
      obtain ⟨⟨ci, hD, hci⟩, hKi⟩ := HL.out
      have GO := hid (goes_any q x p ci da ids[k] wr hqw hxw hD o1 o2)
      have RMc : ∀ W' c', DiskIs W' c' p da → Calls Tryz.prog 60 #[.pointer (some ⟨p, 0, none⟩), .string (tx (enm ids[k]))] W' fun e w' => e = .returned (.int .i64 (rmD da (enm ids[k])).2) ∧ Left W' c' p (rmD da (enm ids[k])).1 w' := fun W' c' D' => remove_any p c' da (enm ids[k]) W' D' o3 o4
      have RM : Hid (∀ W : World, Keep (fun _ => False) wr W → Calls Tryz.prog 60 #[.pointer (some ⟨p, 0, none⟩), .string (tx (enm ids[k]))] W fun e w' => e = .returned (.int .i64 (rmD da (enm ids[k])).2) ∧ Left w1 c1 p (rmD da (enm ids[k])).1 w') := fun W k2 => stepL (HL.out.keepR k2) RMc
      have KR : Hid (∀ W : World, Keep (fun _ => False) wr W → Left w1 c1 p da W) := fun W k2 => HL.out.keepR k2
      have hadd := fun W => enm_add ids[k] W o1
      clear HL hD hci hKi o1 o2 o3 o4 HOKk HN HE hxw RMc
      simp only at HST ⊢
      generalize tx (enm ids[k]) = EN at *
      have HSD : Hid (dropS (da, na, 0) ids[k] = if (getD da ids[k]).2 = 0 then (da, na, 0) else if (rmD da (enm ids[k])).2 ≠ 0 then ((rmD da (enm ids[k])).1, 0, (rmD da (enm ids[k])).2) else ((rmD da (enm ids[k])).1, na + 1, 0)) := rfl
      by_cases hg : (getD da ids[k]).2 = 0
      · rw [decide_eq_true hg] at GO
        have HD2 : Hid (dropD d (ids.take (k + 1)) = (da, na, 0)) := by show _ = _; rw [HST.out, HSD.out, if_pos hg]
        clear HSD HST RM hg hadd
        generalize tx ids[k] = I at *
        go_wp2_with fail
        refine GO.out.mono ?_
        rintro e w2 ⟨rfl, hk2⟩
        have HL2 := hid (KR.out w2 hk2)
        clear hk2 KR GO
        go_wp2
        exact ⟨⟨k + 1, by omega, by rw [HD2.out], by go_num, by show _ ≤ _; rw [HD2.out]; show na ≤ _; omega, by show _ = _; rw [HD2.out], by rw [HD2.out]; exact HL2⟩, by simp [intOf]; omega⟩
      · rw [decide_eq_false hg] at GO
        have HSD2 : Hid (dropD d (ids.take (k + 1)) = if (rmD da (enm ids[k])).2 ≠ 0 then ((rmD da (enm ids[k])).1, 0, (rmD da (enm ids[k])).2) else ((rmD da (enm ids[k])).1, na + 1, 0)) := by show _ = _; rw [HST.out, HSD.out, if_neg hg]
        clear HSD HST hg KR
        generalize rmD da (enm ids[k]) = r at *
        obtain ⟨dr, er⟩ := r
        simp only at *
        generalize tx ids[k] = I at *
        by_cases he : er = 0
        · subst he
          have HD2 : Hid (dropD d (ids.take (k + 1)) = (dr, na + 1, 0)) := by show _ = _; rw [HSD2.out, if_neg (by simp)]
          clear HSD2
          go_wp2_with fail
          refine GO.out.mono ?_
          rintro e w2 ⟨rfl, hk2⟩
          have hxw2 : w2.cell? ⟨x, 0, none⟩ = some (.pointer (some ⟨p, 0, none⟩)) := HXW.out.keep hk2
          have RM2 := hid (RM.out w2 hk2)
          clear hk2 GO RM
          go_wp2_with fail
          refine RM2.out.mono ?_
          rintro e w3 ⟨rfl, hL3⟩
          have HL3 := hid hL3
          clear hL3 RM2 hxw2
          go_wp2
          exact ⟨⟨k + 1, by omega, by rw [HD2.out]; go_num, by go_num, by show _ ≤ _; rw [HD2.out]; show na + 1 ≤ _; omega, by show _ = _; rw [HD2.out], by rw [HD2.out]; exact HL3⟩, by simp [intOf]; omega⟩
        · have hne : (er != 0) = true := by rw [bne_iff_ne]; exact he
          have HD2 : Hid (dropD d ids = (dr, 0, er)) := by
            have h9 : dropD d (ids.take (k + 1)) = (dr, 0, er) := by rw [HSD2.out, if_pos he]
            show _ = _
            rw [dropD_stop (k := k + 1) (by rw [h9]; exact he), h9]
          clear HSD2 he
          go_wp2_with fail
          refine GO.out.mono ?_
          rintro e w2 ⟨rfl, hk2⟩
          have hxw2 : w2.cell? ⟨x, 0, none⟩ = some (.pointer (some ⟨p, 0, none⟩)) := HXW.out.keep hk2
          have RM2 := hid (RM.out w2 hk2)
          clear hk2 GO RM
          go_wp2_with fail
          refine RM2.out.mono ?_
          rintro e w3 ⟨rfl, hL3⟩
          have HL3 := hid (FIN.out _ _ hL3)
          clear hL3 RM2 hxw2
          go_wp2
          go_ret2
          exact ⟨by rw [HD2.out]; rfl, by rw [HD2.out]; exact HL3.out⟩
    · have hd : decide ((k : Int) < (ids.length : Int)) = false := decide_eq_false (by omega)
      have hd2 : decide (k < ids.length) = false := decide_eq_false hlt
      have HL2 : Hid (Left w c p (dropD d ids).1 wr ∧ (dropD d ids).2.2 = 0) := by
        have e : ids.take k = ids := List.take_of_length_le (by omega)
        have h1 := HL.out
        have h2 := HE.out
        rw [e] at h1 h2
        exact ⟨FIN.out _ _ h1, h2⟩
      have HEQ : Hid (dropD d (ids.take k) = dropD d ids) := by show _ = _; rw [List.take_of_length_le (by omega)]
      clear HL HE HN
      go_wp2
      go_ret2
      exact ⟨by rw [HL2.out.2, ← HEQ.out]; rfl, HL2.out.1⟩
end Go.Proofs.YtedogofeibdjiaaGreat
namespace Go.Proofs.YtedogofeibdjiaaGreat
open Go.RowKit Go.Maps
set_option linter.unusedVariables false
set_option linter.unusedSimpArgs false

set_option maxRecDepth 100000 in
theorem chgs_any (p : Nat) (c : Nat → Nat) (d : Ds) (w : World) (h : DiskIs w c p d) : Calls Tryz.prog 28 #[.pointer (some ⟨p, 0, none⟩)] w fun e w' => e = .returned (.int .i64 d.n) ∧ Keep (fun _ => False) w w' := by
  have c5 := h.cells.2.1
  clear h
  go_enter Tryz.func28, Tryz.ntmps28
  go_wp2
  go_ret
  exact ⟨rfl, Keep.refl _ _⟩
theorem stepK {w1 wi : World} {c : Nat → Nat} {p : Nat} {s : Ds} {f : FuncId} {args : Array Value} {r : Value} (h : Left w1 c p s wi) (C : ∀ W c, DiskIs W c p s → Calls Tryz.prog f args W fun e w' => e = .returned r ∧ Keep (fun _ => False) W w') : Calls Tryz.prog f args wi fun e w' => e = .returned r ∧ Left w1 c p s w' :=
  stepL h fun W c hD => (C W c hD).mono fun e w' ⟨he, hk⟩ => ⟨he, left_same hD hk⟩
/-- the spare file's name -/
def enew : Bs := [101, 46, 110, 101, 119]
set_option maxRecDepth 100000 in
theorem open_nil (w : World) : Calls Tryz.prog 7 #[.pointer none] w fun e w' => e = .returned (.tuple #[.pointer none, .int .i64 0, .int .i64 1]) ∧ w' = w := by
  go_enter Tryz.func7, Tryz.ntmps7
  go_wp2
  go_ret3
  exact ⟨rfl, rfl⟩
set_option maxRecDepth 100000 in
theorem open_dn (p : Nat) (c : Nat → Nat) (d : Ds) (w : World) (h : DiskIs w c p d) (hdn : d.dn = true) : Calls Tryz.prog 7 #[.pointer (some ⟨p, 0, none⟩)] w fun e w' => e = .returned (.tuple #[.pointer none, .int .i64 0, .int .i64 21]) ∧ w' = w := by
  have hD := h.down
  rw [hdn] at hD
  have HD := hid (down_any _ true w hD)
  clear h hD
  go_enter Tryz.func7, Tryz.ntmps7
  go_wp2_with fail
  refine HD.out.mono ?_
  rintro e w1 ⟨rfl, rfl⟩
  clear HD
  go_wp2
  go_ret3
  exact ⟨rfl, rfl⟩
/-- what opening makes of a disk, and what is told -/
def openD (d : Ds) : Ds × Nat × Int :=
  if (clrD d enew).2 ≠ 0 then ((clrD d enew).1, 0, (clrD d enew).2)
  else if (dropD (clrD d enew).1 (idsOf (clrD d enew).1.now)).2.2 ≠ 0 then ((dropD (clrD d enew).1 (idsOf (clrD d enew).1.now)).1, 0, (dropD (clrD d enew).1 (idsOf (clrD d enew).1.now)).2.2)
  else if d.n < (dropD (clrD d enew).1 (idsOf (clrD d enew).1.now)).1.n then
    if (synR (dropD (clrD d enew).1 (idsOf (clrD d enew).1.now)).1).2 ≠ 0 then ((synR (dropD (clrD d enew).1 (idsOf (clrD d enew).1.now)).1).1, 0, (synR (dropD (clrD d enew).1 (idsOf (clrD d enew).1.now)).1).2)
    else ((synR (dropD (clrD d enew).1 (idsOf (clrD d enew).1.now)).1).1, (dropD (clrD d enew).1 (idsOf (clrD d enew).1.now)).2.1, 0)
  else ((dropD (clrD d enew).1 (idsOf (clrD d enew).1.now)).1, (dropD (clrD d enew).1 (idsOf (clrD d enew).1.now)).2.1, 0)
/-- a disk that is up and that can be opened within our bounds -/
structure OpOk (d : Ds) : Prop where
  up : d.dn = false
  m0 : d.wt + d.S.length + d.ws.length + enew.length ≤ 70368744177
  n0 : d.n ≤ 1152921504606846976
  up1 : (clrD d enew).2 = 0 → (clrD d enew).1.dn = false
  l1 : (clrD d enew).1.now.length ≤ 1073741824
  nm1 : ∀ y ∈ (clrD d enew).1.now, y.1.length ≤ 80
  ok1 : ∀ k (hk : k < (idsOf (clrD d enew).1.now).length), OkD (dropD (clrD d enew).1 ((idsOf (clrD d enew).1.now).take k)).1 ((idsOf (clrD d enew).1.now)[k])
  m2 : (dropD (clrD d enew).1 (idsOf (clrD d enew).1.now)).1.wt + (dropD (clrD d enew).1 (idsOf (clrD d enew).1.now)).1.S.length + (dropD (clrD d enew).1 (idsOf (clrD d enew).1.now)).1.ws.length ≤ 70368744177
  n2 : (dropD (clrD d enew).1 (idsOf (clrD d enew).1.now)).1.n ≤ 1152921504606846976
/-- a store's pointer, if all went well -/
def stV (x : Nat) (e : Int) : Value := if e = 0 then .pointer (some ⟨x, 0, none⟩) else .pointer none
set_option maxRecDepth 100000 in
set_option maxHeartbeats 4000000 in
theorem open_up (p : Nat) (c : Nat → Nat) (d : Ds) (w : World) (h : DiskIs w c p d) (ok : OpOk d) :
    Calls Tryz.prog 7 #[.pointer (some ⟨p, 0, none⟩)] w fun e w' => e = .returned (.tuple #[stV w.heap.size (openD d).2.2, .int .i64 ((openD d).2.1 : Nat), .int .i64 (openD d).2.2]) ∧ Left w c p (openD d).1 w' ∧ StIs w' w.heap.size p ∧ ∃ c', DiskIs w' c' p (openD d).1 ∧ (∀ k, k < w.heap.size → c' k = c k) ∧ 6 < c' w.heap.size := by
  have hD := h.down
  rw [ok.up] at hD
  have HD := hid (down_any _ false w hD)
  obtain ⟨wA, hwA⟩ : ∃ wA, wA = (w.alloc (.cells #[.pointer (some ⟨p, 0, none⟩)] 71)).alloc (.cells #[.pointer (some ⟨w.heap.size, 0, none⟩)] 25) := ⟨_, rfl⟩
  have HWA := hid hwA
  have kA : Keep (fun _ => False) w wA := by rw [hwA]; exact (keep_alloc _ _ _).trans (keep_alloc _ _ _)
  have sA : wA.heap.size = w.heap.size + 2 := by rw [hwA]; simp
  have xA : StIs wA w.heap.size p := by
    rw [hwA]
    exact StIs.keep (w := w.alloc (.cells #[.pointer (some ⟨p, 0, none⟩)] 71)) (by unfold StIs; rw [cell_of_row _ _ _ _ _ _ (heap_alloc_new _ _)]; rfl) (keep_alloc _ _ _)
  have qA : wA.cell? ⟨w.heap.size + 1, 0, none⟩ = some (.pointer (some ⟨w.heap.size, 0, none⟩)) := by
    have e1 : (w.alloc (.cells #[.pointer (some ⟨p, 0, none⟩)] 71)).heap.size = w.heap.size + 1 := by simp
    rw [hwA, ← e1, cell_of_row _ _ _ _ _ _ (heap_alloc_new _ _)]; rfl
  obtain ⟨cA, hcA⟩ : ∃ cA : Nat → Nat, cA = fun j => if j < w.heap.size then c j else 7 := ⟨_, rfl⟩
  have cA1 : ∀ j, j < w.heap.size → cA j = c j := fun j hj => by rw [hcA]; exact if_pos hj
  have cA2 : ∀ j, w.heap.size ≤ j → cA j = 7 := fun j hj => by rw [hcA]; exact if_neg (by omega)
  have LA : Left wA cA p d wA := left_same (h.keep kA cA1 (fun _ _ h => h.elim)) (Keep.refl _ _)
  have FIN : Hid (∀ d' W, Left wA cA p d' W → Left w c p d' W ∧ StIs W w.heap.size p ∧ W.cell? ⟨w.heap.size + 1, 0, none⟩ = some (.pointer (some ⟨w.heap.size, 0, none⟩)) ∧ ∃ c', DiskIs W c' p d' ∧ (∀ k, k < w.heap.size → c' k = c k) ∧ 6 < c' w.heap.size) := fun d' W hL => ⟨Left.trans cA1 (kA.mono (fun _ _ h => h.elim)) hL, (hL.2.cell (by omega) (by rw [cA2 _ (by omega)]; omega)).trans xA, (hL.2.cell (by omega) (by rw [cA2 _ (by omega)]; omega)).trans qA, by obtain ⟨⟨c', hD', hc'⟩, _⟩ := hL; exact ⟨c', hD', fun k hk => (hc' k (by omega)).trans (cA1 k hk), by rw [hc' _ (by omega), cA2 _ (by omega)]; omega⟩⟩
  have HCA : Hid (6 < cA w.heap.size ∧ 6 < cA (w.heap.size + 1)) := ⟨by rw [cA2 _ (by omega)]; omega, by rw [cA2 _ (by omega)]; omega⟩
  have HG : Hid (∀ k d' W, Left wA cA p d' W → ∀ ci, DiskIs W ci p d' → (∀ j, j < wA.heap.size → ci j = cA j) → k < 2 → 6 < ci (w.heap.size + k)) := fun k d' W hL ci hDi hci hk => by rw [hci _ (by omega), cA2 _ (by omega)]; omega
  have C1 := hid (stepK LA (fun W c' D' => chgs_any p c' d W D'))
  have C2 : Hid (∀ W, Left wA cA p d W → Calls Tryz.prog 31 #[.pointer (some ⟨p, 0, none⟩), .string (tx enew)] W fun e w' => e = .returned (.int .i64 (clrD d enew).2) ∧ Left wA cA p (clrD d enew).1 w') := fun W hL => stepL hL (fun W' c' D' => clear_any p c' d enew W' D' ok.m0 ok.n0)
  have C3 : Hid (∀ W, (clrD d enew).2 = 0 → Left wA cA p (clrD d enew).1 W → Calls Tryz.prog 32 #[.pointer (some ⟨w.heap.size, 0, none⟩), .func (.func 33) #[] #[.pointer (some ⟨w.heap.size + 1, 0, none⟩)]] W fun e w' => e = .returned (.tuple #[.int .i64 ((dropD (clrD d enew).1 (idsOf (clrD d enew).1.now)).2.1 : Nat), .int .i64 (dropD (clrD d enew).1 (idsOf (clrD d enew).1.now)).2.2]) ∧ Left wA cA p (dropD (clrD d enew).1 (idsOf (clrD d enew).1.now)).1 w') := fun W h0 hL => by
    obtain ⟨⟨ci, hDi, hci⟩, hKi⟩ := hL
    have hL' : Left wA cA p (clrD d enew).1 W := ⟨⟨ci, hDi, hci⟩, hKi⟩
    obtain ⟨f1, f2, f3, _⟩ := FIN.out _ W hL'
    refine (xdrop_any (w.heap.size + 1) w.heap.size p ci (clrD d enew).1 W f3 (HG.out 1 _ W hL' ci hDi hci (by omega)) f2 (HG.out 0 _ W hL' ci hDi hci (by omega)) hDi (ok.up1 h0) ok.l1 ok.nm1 ok.ok1).mono fun e w' ⟨he, hl⟩ => ⟨he, hl.trans hci hKi⟩
  have m2 := hid ok.m2
  have n2 := hid ok.n2
  have HO : Hid (openD d = if (clrD d enew).2 ≠ 0 then ((clrD d enew).1, 0, (clrD d enew).2)
  else if (dropD (clrD d enew).1 (idsOf (clrD d enew).1.now)).2.2 ≠ 0 then ((dropD (clrD d enew).1 (idsOf (clrD d enew).1.now)).1, 0, (dropD (clrD d enew).1 (idsOf (clrD d enew).1.now)).2.2)
  else if d.n < (dropD (clrD d enew).1 (idsOf (clrD d enew).1.now)).1.n then
    if (synR (dropD (clrD d enew).1 (idsOf (clrD d enew).1.now)).1).2 ≠ 0 then ((synR (dropD (clrD d enew).1 (idsOf (clrD d enew).1.now)).1).1, 0, (synR (dropD (clrD d enew).1 (idsOf (clrD d enew).1.now)).1).2)
    else ((synR (dropD (clrD d enew).1 (idsOf (clrD d enew).1.now)).1).1, (dropD (clrD d enew).1 (idsOf (clrD d enew).1.now)).2.1, 0)
  else ((dropD (clrD d enew).1 (idsOf (clrD d enew).1.now)).1, (dropD (clrD d enew).1 (idsOf (clrD d enew).1.now)).2.1, 0)) := rfl
  have hn0 := ok.n0
  generalize openD d = R at *
  generalize dropD (clrD d enew).1 (idsOf (clrD d enew).1.now) = s2 at *
  clear ok
  generalize clrD d enew = s1 at *
  obtain ⟨d1, e1⟩ := s1
  obtain ⟨d2, n, e2⟩ := s2
  simp only at C2 C3 m2 n2 HO
  have C4 : Hid (∀ W, Left wA cA p d2 W → Calls Tryz.prog 28 #[.pointer (some ⟨p, 0, none⟩)] W fun e w' => e = .returned (.int .i64 d2.n) ∧ Left wA cA p d2 w') := fun W hL => stepK hL (fun W c' D' => chgs_any p c' d2 W D')
  have C5 : Hid (∀ W, Left wA cA p d2 W → Calls Tryz.prog 20 #[.pointer (some ⟨p, 0, none⟩)] W fun e w' => e = .returned (.int .i64 (synR d2).2) ∧ Left wA cA p (synR d2).1 w') := fun W hL => stepL hL (fun W c' D' => sync_all p c' d2 W D' m2.out)
  generalize synR d2 = s3 at *
  obtain ⟨d3, e3⟩ := s3
  simp only at C5 HO
  have hn2 := n2.out
  clear h hD kA sA xA qA hcA cA1 cA2 LA HCA HG m2 n2 hwA
  go_enter Tryz.func7, Tryz.ntmps7
  go_wp2_with fail
  refine HD.out.mono ?_
  rintro e w9 ⟨rfl, rfl⟩
  clear HD
  go_wp2_with fail
  rw [← HWA.out]
  refine C1.out.mono ?_
  rintro e w1 ⟨rfl, hL1⟩
  have HL1 := hid hL1
  clear hL1 C1
  go_wp2_with fail
  refine (C2.out _ HL1.out).mono ?_
  rintro e w2 ⟨rfl, hL2⟩
  have HL2 := hid hL2
  clear hL2 C2 HL1
  by_cases h1 : e1 = 0
  · subst h1
    have HO2 : Hid (R = if e2 ≠ 0 then (d2, 0, e2) else if d.n < d2.n then if e3 ≠ 0 then (d3, 0, e3) else (d3, n, 0) else (d2, n, 0)) := by have h9 := HO.out; rw [if_neg (by simp)] at h9; exact h9
    have hqc := (FIN.out _ _ HL2.out).2.2.1
    have C3b := hid (C3.out w2 rfl HL2.out)
    clear HO C3 HL2
    go_wp2_with fail
    refine C3b.out.mono ?_
    rintro e w3 ⟨rfl, hL3⟩
    have HL3 := hid hL3
    have hqc3 := (FIN.out _ _ hL3).2.2.1
    clear hL3 C3b hqc
    by_cases h2 : e2 = 0
    · subst h2
      have HO3 : Hid (R = if d.n < d2.n then if e3 ≠ 0 then (d3, 0, e3) else (d3, n, 0) else (d2, n, 0)) := by have h9 := HO2.out; rw [if_neg (by simp)] at h9; exact h9
      have C4b := hid (C4.out w3 HL3.out)
      clear HO2 C4 HL3
      go_wp2_with fail
      refine C4b.out.mono ?_
      rintro e w4 ⟨rfl, hL4⟩
      have HL4 := hid hL4
      have hqc4 := (FIN.out _ _ hL4).2.2.1
      clear hL4 C4b hqc3
      by_cases h3 : d.n < d2.n
      · have t1 : decide ((d.n : Int) < (d2.n : Int)) = true := decide_eq_true (by omega)
        have t2 : (d.n : Int) < (d2.n : Int) := by omega
        have HO4 : Hid (R = if e3 ≠ 0 then (d3, 0, e3) else (d3, n, 0)) := by have h9 := HO3.out; rw [if_pos h3] at h9; exact h9
        have C5b := hid (C5.out w4 HL4.out)
        clear HO3 C5 HL4
        go_wp2_with fail
        refine C5b.out.mono ?_
        rintro e w5 ⟨rfl, hL5⟩
        have HL5 := hid hL5
        have hqc5 := (FIN.out _ _ hL5).2.2.1
        clear hL5 C5b hqc4
        by_cases h4 : e3 = 0
        · subst h4
          have HQ : Hid (R = (d3, n, 0)) := by have h9 := HO4.out; rw [if_neg (by simp)] at h9; exact h9
          clear HO4
          go_wp2
          go_ret3
          obtain ⟨f1, f2, f3, f4⟩ := FIN.out _ _ HL5.out
          exact ⟨by rw [HQ.out]; rfl, by rw [HQ.out]; exact f1, f2, by rw [HQ.out]; exact f4⟩
        · have hne : (e3 != 0) = true := by rw [bne_iff_ne]; exact h4
          have HQ : Hid (R = (d3, 0, e3)) := by have h9 := HO4.out; rw [if_pos h4] at h9; exact h9
          have HS : Hid (stV w9.heap.size e3 = .pointer none) := by show _ = _; unfold stV; rw [if_neg h4]
          clear HO4 h4
          go_wp2
          go_ret3
          obtain ⟨f1, f2, f3, f4⟩ := FIN.out _ _ HL5.out
          exact ⟨by rw [HQ.out]; show _ = Ending.returned (.tuple #[stV w9.heap.size e3, _, _]); rw [HS.out]; rfl, by rw [HQ.out]; exact f1, f2, by rw [HQ.out]; exact f4⟩
      · have t1 : decide ((d.n : Int) < (d2.n : Int)) = false := decide_eq_false (by omega)
        have t2 : decide (d.n < d2.n) = false := decide_eq_false h3
        have HQ : Hid (R = (d2, n, 0)) := by have h9 := HO3.out; rw [if_neg h3] at h9; exact h9
        clear HO3 C5
        go_wp2
        go_ret3
        obtain ⟨f1, f2, f3, f4⟩ := FIN.out _ _ HL4.out
        exact ⟨by rw [HQ.out]; rfl, by rw [HQ.out]; exact f1, f2, by rw [HQ.out]; exact f4⟩
    · have hne : (e2 != 0) = true := by rw [bne_iff_ne]; exact h2
      have hne2 : (e2 == 0) = false := beq_eq_false_iff_ne.2 h2
      have HQ : Hid (R = (d2, 0, e2)) := by have h9 := HO2.out; rw [if_pos h2] at h9; exact h9
      have HS : Hid (stV w9.heap.size e2 = .pointer none) := by show _ = _; unfold stV; rw [if_neg h2]
      clear HO2 C4 C5
      go_wp2
      go_ret3
      obtain ⟨f1, f2, f3, f4⟩ := FIN.out _ _ HL3.out
      exact ⟨by rw [HQ.out]; show _ = Ending.returned (.tuple #[stV w9.heap.size e2, _, _]); rw [HS.out]; rfl, by rw [HQ.out]; exact f1, f2, by rw [HQ.out]; exact f4⟩
  · have hne : (e1 != 0) = true := by rw [bne_iff_ne]; exact h1
    have HQ : Hid (R = (d1, 0, e1)) := by have h9 := HO.out; rw [if_pos h1] at h9; exact h9
    have HS : Hid (stV w9.heap.size e1 = .pointer none) := by show _ = _; unfold stV; rw [if_neg h1]
    clear HO C3 C4 C5 h1
    go_wp2
    go_ret3
    obtain ⟨f1, f2, f3, f4⟩ := FIN.out _ _ HL2.out
    exact ⟨by rw [HQ.out]; show _ = Ending.returned (.tuple #[stV w9.heap.size e1, _, _]); rw [HS.out]; rfl, by rw [HQ.out]; exact f1, f2, by rw [HQ.out]; exact f4⟩
end Go.Proofs.YtedogofeibdjiaaGreat
namespace Go.Proofs.YtedogofeibdjiaaGreat
open Go.RowKit Go.Maps
set_option linter.unusedVariables false
set_option linter.unusedSimpArgs false

set_option maxRecDepth 100000 in
set_option maxHeartbeats 1000000 in
theorem rmayE_any (t : Bs) (w : World) (hs : t.length ≤ 1073741824) : Calls Tryz.prog 73 #[.string (tx t)] w fun e w' => e = .returned (.bool (isIdB t)) ∧ Below w.heap.size w w' := by
  have hsz : (tx t).size = t.length := by show t.toArray.size = _; simp
  have hdl : (tx t).data.toList = t := by show t.toArray.toList = _; simp
  have U := hid (runhex_any (tx t) w (by omega) (unh t []).1 (unh t []).2 (by rw [hdl]))
  have HI : Hid (isIdB t = (decide (t.length = 64) && decide ((unh t []).2 = 0))) := rfl
  rw [← hsz] at HI
  generalize isIdB t = R at *
  generalize (unh t []).1 = X at *
  generalize (unh t []).2 = E at *
  generalize tx t = s at *
  clear hs hsz hdl
  obtain ⟨b4, h4⟩ : ∃ b, decide (s.size = 64) = b := ⟨_, rfl⟩
  have hz : ((s.size : Int) == 64) = b4 := by
    rw [← h4]
    by_cases h : s.size = 64
    · rw [h]; rfl
    · rw [decide_eq_false h, beq_eq_false_iff_ne]; omega
  have hz2 : (s.size == 64) = b4 := by
    rw [← h4]
    by_cases h : s.size = 64
    · rw [h]; rfl
    · rw [decide_eq_false h, beq_eq_false_iff_ne]; exact h
  rw [h4] at HI
  clear h4
  by_cases h0 : E = 0
  · subst h0
    have hr : R = b4 := by rw [HI.out]; simp
    subst hr
    clear HI
    go_enter Tryz.func73, Tryz.ntmps73
    go_wp2_with fail
    refine U.out.mono ?_
    rintro e w1 ⟨rfl, b1⟩
    have B1 := hid b1
    clear U b1
    go_wp2
    go_ret
    exact ⟨rfl, B1.out⟩
  · have hE : ((E : Int) == 0) = false := by rw [beq_eq_false_iff_ne]; omega
    have hE2 : (E == 0) = false := beq_eq_false_iff_ne.2 h0
    have hr : R = false := by rw [HI.out, decide_eq_false h0]; simp
    subst hr
    clear HI h0 hz hz2
    go_enter Tryz.func73, Tryz.ntmps73
    go_wp2_with fail
    refine U.out.mono ?_
    rintro e w1 ⟨rfl, b1⟩
    have B1 := hid b1
    clear U b1
    go_wp2
    go_ret
    exact ⟨rfl, B1.out⟩
theorem isIdB_len {t : Bs} (h : isIdB t = true) : t.length = 64 := by
  unfold isIdB at h
  rw [Bool.and_eq_true] at h
  exact of_decide_eq_true h.1
theorem idOf_eq (n : Bs) : idOf n = if n.length = 66 ∧ n.take 2 = [101, 46] ∧ isIdB (n.drop 2) = true then some (n.drop 2) else none := by
  unfold idOf
  by_cases h : isIdB (n.drop 2) = true
  · have hl := isIdB_len h
    rw [List.length_drop] at hl
    have h66 : n.length = 66 := by omega
    rw [h, Bool.and_true]
    by_cases h2 : n.take 2 = [101, 46]
    · rw [if_pos (by rw [List.isPrefixOf_iff_prefix, List.prefix_iff_eq_take]; exact h2.symm), if_pos ⟨h66, h2, rfl⟩]
    · rw [if_neg (fun h3 => h2 (by rw [List.isPrefixOf_iff_prefix, List.prefix_iff_eq_take] at h3; exact h3.symm)), if_neg (fun h3 => h2 h3.2.1)]
  · rw [if_neg (by simp [h]), if_neg (fun h3 => h h3.2.2)]
theorem extract_to2 (s : Bs) (n : Nat) : (tx s).extract 0 n = tx (s.take n) := by
  apply ByteArray.ext
  simp [tx]
set_option maxRecDepth 100000 in
set_option maxHeartbeats 1000000 in
theorem rof_any (n : Bs) (w : World) (hs : n.length ≤ 1073741824) : Calls Tryz.prog 46 #[.string (tx n)] w fun e w' => e = .returned (.tuple #[.string (tx ((idOf n).getD [])), .bool (idOf n).isSome]) ∧ Below w.heap.size w w' := by
  have MY := hid (fun W : World => rmayE_any (n.drop 2) W (by rw [List.length_drop]; omega))
  have HI := hid (idOf_eq n)
  have hsz : (tx n).size = n.length := by show n.toArray.size = _; simp
  have hx1 : (tx n).extract 0 2 = tx (n.take 2) := extract_to2 n 2
  have hx2 : (tx n).extract 2 (tx n).size = tx (n.drop 2) := extract_from n 2
  generalize idOf n = R at *
  by_cases h1 : n.length = 66
  · have l1 : ((tx n).size : Int) = 66 := by omega
    have m1 : (((tx n).size : Int) != 66) = false := by rw [l1]; rfl
    have m1' : ((tx n).size != 66) = false := by rw [hsz, h1]; rfl
    have b2 : (2 : Int) ≤ ((tx n).size : Int) := by omega
    have b2' : 2 ≤ (tx n).size := by omega
    have HCM := tx_beq (n.take 2) [101, 46]
    rw [tx_toList [101, 46]] at HCM
    by_cases h2 : n.take 2 = [101, 46]
    · rw [decide_eq_true h2] at HCM
      have hcm2 : ((tx (n.take 2)).toList != [101, 46]) = false := by rw [bne, HCM]; rfl
      by_cases h3 : isIdB (n.drop 2) = true
      · have HR : Hid (R = some (n.drop 2)) := by show _ = _; rw [HI.out, if_pos ⟨h1, h2, h3⟩]
        rw [h3] at MY
        clear HI h1 h2 h3 hsz
        generalize tx (n.take 2) = P at *
        have hD : tx (n.drop 2) = tx ((some (n.drop 2)).getD []) := rfl
        generalize n.drop 2 = D at *
        rw [HR.out]
        clear HR hD
        show Calls Tryz.prog 46 #[.string (tx n)] w fun e w' => e = .returned (.tuple #[.string (tx D), .bool true]) ∧ Below w.heap.size w w'
        generalize tx D = DD at *
        generalize tx n = N at *
        go_enter Tryz.func46, Tryz.ntmps46
        go_wp2_with fail
        refine (MY.out _).mono ?_
        rintro e w1 ⟨rfl, b1⟩
        have B1 := hid b1
        clear MY b1
        go_wp2
        go_ret2
        exact ⟨rfl, B1.out⟩
      · have h3' : isIdB (n.drop 2) = false := by simpa using h3
        have HR : Hid (R = none) := by show _ = _; rw [HI.out, if_neg (fun h => h3 h.2.2)]
        rw [h3'] at MY
        rw [HR.out]
        clear HI h1 h2 h3 h3' hsz HR
        show Calls Tryz.prog 46 #[.string (tx n)] w fun e w' => e = .returned (.tuple #[.string ⟨#[]⟩, .bool false]) ∧ Below w.heap.size w w'
        generalize tx (n.take 2) = P at *
        generalize tx (n.drop 2) = DD at *
        generalize tx n = N at *
        go_enter Tryz.func46, Tryz.ntmps46
        go_wp2_with fail
        refine (MY.out _).mono ?_
        rintro e w1 ⟨rfl, b1⟩
        have B1 := hid b1
        clear MY b1
        go_wp2
        go_ret2
        exact ⟨rfl, B1.out⟩
    · rw [decide_eq_false h2] at HCM
      have hcm2 : ((tx (n.take 2)).toList != [101, 46]) = true := by rw [bne, HCM]; rfl
      have HR : Hid (R = none) := by show _ = _; rw [HI.out, if_neg (fun h => h2 h.2.1)]
      rw [HR.out]
      clear HI h1 h2 hsz HR MY
      show Calls Tryz.prog 46 #[.string (tx n)] w fun e w' => e = .returned (.tuple #[.string ⟨#[]⟩, .bool false]) ∧ Below w.heap.size w w'
      generalize tx (n.take 2) = P at *
      generalize tx (n.drop 2) = DD at *
      generalize tx n = N at *
      go_enter Tryz.func46, Tryz.ntmps46
      go_wp2
      go_ret2
      exact ⟨rfl, Below.refl _ _⟩
  · have m1 : (((tx n).size : Int) != 66) = true := bne_iff_ne.2 (by omega)
    have m1' : ((tx n).size != 66) = true := bne_iff_ne.2 (by omega)
    have HR : Hid (R = none) := by show _ = _; rw [HI.out, if_neg (fun h => h1 h.1)]
    rw [HR.out]
    clear HI h1 hsz HR MY hx1 hx2
    show Calls Tryz.prog 46 #[.string (tx n)] w fun e w' => e = .returned (.tuple #[.string ⟨#[]⟩, .bool false]) ∧ Below w.heap.size w w'
    generalize tx n = N at *
    go_enter Tryz.func46, Tryz.ntmps46
    go_wp2
    go_ret2
    exact ⟨rfl, Below.refl _ _⟩
end Go.Proofs.YtedogofeibdjiaaGreat
namespace Go.Proofs.YtedogofeibdjiaaGreat
open Go.RowKit Go.Maps
set_option linter.unusedVariables false
set_option linter.unusedSimpArgs false

/-- a file that stays -/
def roK (y : Bs × Bs) : Bool := decide (y.1 ≠ enew) && (match idOf y.1 with | some i => (rightB i y.2).isSome | none => true)
/-- .. an extent's that goes -/
def roN (y : Bs × Bs) : Bool := decide (y.1 ≠ enew) && (match idOf y.1 with | some i => !(rightB i y.2).isSome | none => false)
theorem ro_new {y : Bs × Bs} (h : y.1 = enew) : roK y = false ∧ roN y = false := by simp [roK, roN, h]
theorem ro_none {y : Bs × Bs} (h : y.1 ≠ enew) (h2 : idOf y.1 = none) : roK y = true ∧ roN y = false := by simp [roK, roN, h, h2]
theorem ro_right {y : Bs × Bs} {i b : Bs} (h : y.1 ≠ enew) (h2 : idOf y.1 = some i) (h3 : rightB i y.2 = some b) : roK y = true ∧ roN y = false := by simp [roK, roN, h, h2, h3]
theorem ro_wrong {y : Bs × Bs} {i : Bs} (h : y.1 ≠ enew) (h2 : idOf y.1 = some i) (h3 : rightB i y.2 = none) : roK y = false ∧ roN y = true := by simp [roK, roN, h, h2, h3]
theorem flt_take (f : Bs × Bs → Bool) {A : List (Bs × Bs)} {k : Nat} (h : k < A.length) : (A.take (k + 1)).filter f = (A.take k).filter f ++ (if f A[k] = true then [A[k]] else []) := by
  rw [List.take_succ_eq_append_getElem h, List.filter_append]
  congr 1
  by_cases h2 : f A[k] = true <;> simp [h2]
theorem tx_enew (n : Bs) : ((tx n).toList == [101, 46, 110, 101, 119]) = decide (n = enew) := by
  have := tx_beq n enew
  rw [tx_toList enew] at this
  exact this
set_option maxRecDepth 100000 in
set_option maxHeartbeats 4000000 in
theorem ropen_any (A : List (Bs × Bs)) (v : Value) (w : World) (hr : FileRow w 0 v A) (hl : A.length ≤ 1048576) (hz : ∀ y ∈ A, y.1.length ≤ 1073741824 ∧ y.2.length ≤ 1073741824) :
    Calls Tryz.prog 17 #[v] w fun e w' => ∃ v', e = .returned (.tuple #[v', .int .i64 (((A.filter roN).length : Nat) : Int)]) ∧ FileRow w' w.heap.size v' (A.filter roK) ∧ Keep (fun _ => False) w w' := by
  obtain ⟨va, vcap, rfl⟩ := row_form hr
  have HC : Hid (∀ (k : Nat) (hk : k < A.length), ∃ g, va = some ⟨g, 0, none⟩ ∧ ∀ W, Keep (fun _ => False) w W → W.cell? ⟨g, k * 2, none⟩ = some (.string (tx A[k].1)) ∧ W.cell? ⟨g, k * 2 + 1, none⟩ = some (.string (tx A[k].2))) := by
    intro k hk
    rcases file_form hr with ⟨e, _⟩ | ⟨g, c1, e1⟩
    · rw [e] at hk; simp at hk
    have e2 := e1
    rw [e1] at hr
    injection e2 with e2
    exact ⟨g, e2, fun W hW => file_cell (hW.ownsRow hr (fun _ _ h => h)) hk⟩
  have HZ : Hid (∀ (k : Nat) (hk : k < A.length), A[k].1.length ≤ 1073741824 ∧ A[k].2.length ≤ 1073741824) := fun k hk => hz _ (List.getElem_mem hk)
  have HTK : Hid (∀ (k : Nat) (hk : k < A.length), (A.take (k + 1)).filter roK = (A.take k).filter roK ++ (if roK A[k] = true then [A[k]] else [])) := fun k hk => flt_take roK hk
  have HTN : Hid (∀ (k : Nat) (hk : k < A.length), (A.take (k + 1)).filter roN = (A.take k).filter roN ++ (if roN A[k] = true then [A[k]] else [])) := fun k hk => flt_take roN hk
  have HLK : Hid (∀ k, ((A.take k).filter roK).length ≤ 1048576 ∧ ((A.take k).filter roN).length ≤ 1048576) := fun k => by
    have h1 := List.length_filter_le roK (A.take k)
    have h2 := List.length_filter_le roN (A.take k)
    rw [List.length_take] at h1 h2
    omega
  have HLN : Hid (A.length ≤ 1048576) := hl
  have H0 : Hid (w.ownsRow w.heap.size 59 2 (.slice none 0 0) ((A.take 0).filter roK).length (fC ((A.take 0).filter roK))) := ⟨rfl, .inl ⟨rfl, rfl⟩⟩
  clear hr hz hl
  go_enter Tryz.func17, Tryz.ntmps17
  go_wp2
  go_loopw [4, 5, 6] (fun o n i wr => ∃ (k m c : Nat) (ad : Option Addr) (cp : Nat), k ≤ A.length ∧ o = .slice ad m cp ∧ n = .int .i64 (c : Int) ∧ i = .int .i64 (k : Int) ∧ Hid (m = ((A.take k).filter roK).length ∧ c = ((A.take k).filter roN).length) ∧ Hid (wr.ownsRow w.heap.size 59 2 (.slice ad m cp) m (fC ((A.take k).filter roK))) ∧ Hid (Keep (fun _ => False) w wr)) (fun _ _ i _ => A.length - (intOf i).toNat)
  case atStart => exact ⟨0, 0, 0, none, 0, Nat.zero_le _, rfl, rfl, rfl, ⟨rfl, rfl⟩, H0, Keep.refl _ _⟩
  case round =>
    clear H0
    obtain ⟨k, m, c, ad, cp, hk, rfl, rfl, rfl, HM, HO, HK⟩ := hrel
    by_cases hlt : k < A.length
    · obtain ⟨g, hva, hcel⟩ := HC.out k hlt
      have HCEL := hid hcel
      obtain ⟨z1, z2⟩ := HZ.out k hlt
      have TK := hid (HTK.out k hlt)
      have TN := hid (HTN.out k hlt)
      have LK := hid (HLK.out k)
      clear hcel HTK HTN HC HZ HLK
      have hk0 : (0 : Int) ≤ (k : Int) := by omega
      have hk1 : (k : Int) < (A.length : Int) := by omega
      have HW : Hid (wrap64 ((k : Int) + 1) = ((k + 1 : Nat) : Int)) := by have := HLN.out; show _ = _; rw [IntWalk.wrap64_in _ (by omega)]; omega
      have HWC : Hid (wrap64 ((c : Int) + 1) = ((c + 1 : Nat) : Int)) := by have h1 := LK.out.2; have h2 := HM.out.2; show _ = _; rw [IntWalk.wrap64_in _ (by omega)]; omega
      have HLT := hid hlt
      have HKL := hid hk
      have OF := hid (fun W : World => rof_any A[k].1 W z1)
      have RT := hid (fun (i : Bs) (W : World) => rright_any i A[k].2 W z2)
      have HEN := tx_enew A[k].1
      subst hva
      generalize A[k] = y at *
      have hcl := (HCEL.out _ HK.out)
      obtain ⟨q0, q1⟩ := hcl
      clear hk
      by_cases h1 : y.1 = enew
      · obtain ⟨e1, e2⟩ := ro_new h1
        rw [e1] at TK
        rw [e2] at TN
        rw [decide_eq_true h1] at HEN
        have TK2 : Hid ((A.take (k + 1)).filter roK = (A.take k).filter roK) := by have := TK.out; show _ = _; simpa using this
        have TN2 : Hid ((A.take (k + 1)).filter roN = (A.take k).filter roN) := by have := TN.out; show _ = _; simpa using this
        clear e1 e2 h1 TK TN RT HWC hlt z1 z2
        generalize tx y.1 = NM at *
        generalize tx y.2 = SS at *
        generalize idOf y.1 = IO at *
        go_wp2_with fail
        refine (OF.out _).mono ?_
        rintro e w1 ⟨rfl, b1⟩
        have K1 := hid (HK.out.trans (b1.keep _))
        have O1 : Hid (w1.ownsRow w.heap.size 59 2 (.slice ad m cp) m (fC ((A.take k).filter roK))) := (b1.keep (fun _ => False)).ownsRow HO.out (fun _ _ h => h)
        clear b1 HK HO OF q0 q1
        obtain ⟨q0, q1⟩ := HCEL.out _ K1.out
        go_wp2
        exact ⟨⟨k + 1, m, c, ad, cp, by have := HLT.out; omega, rfl, rfl, by rw [HW.out], by rw [TK2.out, TN2.out]; exact HM, by rw [TK2.out]; exact O1, K1⟩, by have := HLT.out; rw [HW.out]; simp [intOf]; omega⟩
      · rw [decide_eq_false h1] at HEN
        cases hid2 : idOf y.1 with
        | none =>
          obtain ⟨e1, e2⟩ := ro_none h1 hid2
          rw [hid2] at OF
          rw [e1, if_pos rfl] at TK
          rw [e2] at TN
          have TN2 : Hid ((A.take (k + 1)).filter roN = (A.take k).filter roN) := by have := TN.out; show _ = _; simpa using this
          have HMc : Hid (#[Value.string (tx y.1), .string (tx y.2)] = (fC1 y).toArray) := rfl
          clear e1 e2 h1 hid2 TN RT HWC hlt z1 z2
          generalize hN : tx y.1 = NM at *
          generalize hS : tx y.2 = SS at *
          clear hN hS
          simp only [Option.getD_none, Option.isSome_none] at OF
          generalize tx [] = E0 at *
          go_wp2_with fail
          refine (OF.out _).mono ?_
          rintro e w1 ⟨rfl, b1⟩
          have K1 := hid (HK.out.trans (b1.keep _))
          have O1 : Hid (w1.ownsRow w.heap.size 59 2 (.slice ad m cp) ((A.take k).filter roK).length (fC ((A.take k).filter roK))) := by
            have := (b1.keep (fun _ => False)).ownsRow HO.out (fun _ _ h => h)
            rw [HM.out.1] at this ⊢
            exact this
          clear b1 HK HO OF q0 q1
          obtain ⟨q0, q1⟩ := HCEL.out _ K1.out
          have HB1 : Hid (w.heap.size ≤ w1.heap.size) := K1.out.size
          have HMM := hid HM.out.1
          have hml : Hid (m ≤ 70368744177) := by have h1 := LK.out.1; have h2 := HM.out.1; show _ ≤ _; omega
          go_wp2_with (at_builtin; refine wpl_file rfl _ _ rfl w.heap.size (.slice ad m cp) ((A.take k).filter roK) m HMM.out y w1 _ HMc.out rfl rfl rfl (by rw [HMM.out]; have := O1.out; rw [HMM.out] at this; exact this) HB1.out hml.out ?_; intro ad1 cap1 w6 hr6 hk6)
          have HO6 := hid hr6
          have HK6 : Hid (Keep (fun _ => False) w w6) := K1.out.then hk6 (fun j hj e => by
            rcases O1.out.2 with ⟨e2, _⟩ | ⟨g', cap', cur, e2, hg', _⟩
            · rw [e2] at e; simp [Value.ownBlock] at e
            · rw [e2] at e; simp [Value.ownBlock] at e; omega)
          clear hr6 hk6 O1 K1 HB1 HMc q0 q1
          go_wp2
          exact ⟨⟨k + 1, m + 1, c, ad1, cap1, by have := HLT.out; omega, rfl, rfl, by rw [HW.out], ⟨by rw [TK.out, List.length_append]; have := HM.out.1; simp; omega, by rw [TN2.out]; exact HM.out.2⟩, by rw [TK.out]; exact HO6, HK6⟩, by have := HLT.out; rw [HW.out]; simp [intOf]; omega⟩
        | some i =>
          rw [hid2] at OF
          simp only [Option.getD_some, Option.isSome_some] at OF
          have RT2 := hid (RT.out i)
          clear RT
          cases hrg : rightB i y.2 with
          | none =>
            obtain ⟨e1, e2⟩ := ro_wrong h1 hid2 hrg
            rw [hrg] at RT2
            unfold rightV at RT2
            simp only [Option.getD_none, Option.isSome_none] at RT2
            rw [e1] at TK
            rw [e2, if_pos rfl] at TN
            have TK2 : Hid ((A.take (k + 1)).filter roK = (A.take k).filter roK) := by have := TK.out; show _ = _; simpa using this
            clear e1 e2 h1 hid2 hrg TK hlt z1 z2
            generalize tx y.1 = NM at *
            generalize tx y.2 = SS at *
            generalize tx i = II at *
            generalize tx [] = E0 at *
            go_wp2_with fail
            refine (OF.out _).mono ?_
            rintro e w1 ⟨rfl, b1⟩
            have K1 := hid (HK.out.trans (b1.keep _))
            have O1 : Hid (w1.ownsRow w.heap.size 59 2 (.slice ad m cp) m (fC ((A.take k).filter roK))) := (b1.keep (fun _ => False)).ownsRow HO.out (fun _ _ h => h)
            clear b1 HK HO OF q0 q1
            obtain ⟨q0, q1⟩ := HCEL.out _ K1.out
            go_wp2_with fail
            refine (RT2.out _).mono ?_
            rintro e w2 ⟨rfl, k2⟩
            have K2 := hid (K1.out.trans k2)
            have O2 : Hid (w2.ownsRow w.heap.size 59 2 (.slice ad m cp) m (fC ((A.take k).filter roK))) := k2.ownsRow O1.out (fun _ _ h => h)
            clear k2 K1 O1 RT2 q0 q1
            go_wp2
            exact ⟨⟨k + 1, m, c + 1, ad, cp, by have := HLT.out; omega, rfl, by rw [HWC.out], by rw [HW.out], ⟨by rw [TK2.out]; exact HM.out.1, by rw [TN.out, List.length_append]; have := HM.out.2; simp; omega⟩, by rw [TK2.out]; exact O2, K2⟩, by have := HLT.out; rw [HW.out]; simp [intOf]; omega⟩
          | some bb =>
            obtain ⟨e1, e2⟩ := ro_right h1 hid2 hrg
            rw [hrg] at RT2
            unfold rightV at RT2
            simp only [Option.getD_some, Option.isSome_some] at RT2
            rw [e1, if_pos rfl] at TK
            rw [e2] at TN
            have TN2 : Hid ((A.take (k + 1)).filter roN = (A.take k).filter roN) := by have := TN.out; show _ = _; simpa using this
            have HMc : Hid (#[Value.string (tx y.1), .string (tx y.2)] = (fC1 y).toArray) := rfl
            clear e1 e2 h1 hid2 hrg TN HWC hlt z1 z2
            generalize hN : tx y.1 = NM at *
            generalize hS : tx y.2 = SS at *
            clear hN hS
            generalize tx i = II at *
            generalize tx bb = BB at *
            go_wp2_with fail
            refine (OF.out _).mono ?_
            rintro e w1 ⟨rfl, b1⟩
            have K1 := hid (HK.out.trans (b1.keep _))
            have O1 : Hid (w1.ownsRow w.heap.size 59 2 (.slice ad m cp) m (fC ((A.take k).filter roK))) := (b1.keep (fun _ => False)).ownsRow HO.out (fun _ _ h => h)
            clear b1 HK HO OF q0 q1
            obtain ⟨q0, q1⟩ := HCEL.out _ K1.out
            go_wp2_with fail
            refine (RT2.out _).mono ?_
            rintro e w2 ⟨rfl, k2⟩
            have K2 := hid (K1.out.trans k2)
            have O2 : Hid (w2.ownsRow w.heap.size 59 2 (.slice ad m cp) ((A.take k).filter roK).length (fC ((A.take k).filter roK))) := by
              have := k2.ownsRow O1.out (fun _ _ h => h)
              rw [HM.out.1] at this ⊢
              exact this
            clear k2 K1 O1 RT2 q0 q1
            obtain ⟨q0, q1⟩ := HCEL.out _ K2.out
            have HB1 : Hid (w.heap.size ≤ w2.heap.size) := K2.out.size
            have HMM := hid HM.out.1
            have hml : Hid (m ≤ 70368744177) := by have h1 := LK.out.1; have h2 := HM.out.1; show _ ≤ _; omega
            go_wp2_with (at_builtin; refine wpl_file rfl _ _ rfl w.heap.size (.slice ad m cp) ((A.take k).filter roK) m HMM.out y w2 _ HMc.out rfl rfl rfl (by rw [HMM.out]; have := O2.out; rw [HMM.out] at this; exact this) HB1.out hml.out ?_; intro ad1 cap1 w6 hr6 hk6)
            have HO6 := hid hr6
            have HK6 : Hid (Keep (fun _ => False) w w6) := K2.out.then hk6 (fun j hj e => by
              rcases O2.out.2 with ⟨e2, _⟩ | ⟨g', cap', cur, e2, hg', _⟩
              · rw [e2] at e; simp [Value.ownBlock] at e
              · rw [e2] at e; simp [Value.ownBlock] at e; omega)
            clear hr6 hk6 O2 K2 HB1 HMc q0 q1
            go_wp2
            exact ⟨⟨k + 1, m + 1, c, ad1, cap1, by have := HLT.out; omega, rfl, rfl, by rw [HW.out], ⟨by rw [TK.out, List.length_append]; have := HM.out.1; simp; omega, by rw [TN2.out]; exact HM.out.2⟩, by rw [TK.out]; exact HO6, HK6⟩, by have := HLT.out; rw [HW.out]; simp [intOf]; omega⟩
    · have hd : decide ((k : Int) < (A.length : Int)) = false := decide_eq_false (by omega)
      have hd2 : decide (k < A.length) = false := decide_eq_false hlt
      have he : A.take k = A := List.take_of_length_le (by omega)
      have HF : Hid (c = (A.filter roN).length ∧ wr.ownsRow w.heap.size 59 2 (.slice ad m cp) (A.filter roK).length (fC (A.filter roK))) := by
        have h1 := HO.out
        have h2 := HM.out
        rw [he] at h1 h2
        refine ⟨h2.2, ?_⟩
        rw [h2.1] at h1 ⊢
        exact h1
      clear HO HM he hlt hk
      go_wp2
      go_ret2
      exact ⟨_, by rw [← HF.out.1]; rfl, HF.out.2, HK.out⟩
end Go.Proofs.YtedogofeibdjiaaGreat
namespace Go.Proofs.YtedogofeibdjiaaGreat
open Go.RowKit Go.Maps
set_option linter.unusedVariables false
set_option linter.unusedSimpArgs false

/-- what Put makes of a disk, and what is told -/
def putD (d : Ds) (s : Bs) : Ds × Bs × Int :=
  if s = [] then (d, [], 1) else if 4096 < s.length then (d, [], 2)
  else if (getD d (idB s)).2 = 0 then (d, idB s, 0)
  else if (layD d enew (enm (idB s)) (filB s)).2 ≠ 0 then ((layD d enew (enm (idB s)) (filB s)).1, [], (layD d enew (enm (idB s)) (filB s)).2)
  else ((layD d enew (enm (idB s)) (filB s)).1, idB s, 0)
set_option maxRecDepth 100000 in
set_option maxHeartbeats 4000000 in
theorem put_any (x p : Nat) (c : Nat → Nat) (d : Ds) (s : Bs) (w : World) (hx : StIs w x p) (hcx : 6 < c x) (h : DiskIs w c p d) (hf : (rdD d (enm (idB s))).1.length ≤ 1073741824) (ok : LyOk d enew (enm (idB s)) (filB s)) :
    Calls Tryz.prog 11 #[.pointer (some ⟨x, 0, none⟩), .string (tx s)] w fun e w' => e = .returned (.tuple #[.string (tx (putD d s).2.1), .int .i64 (putD d s).2.2]) ∧ Left w c p (putD d s).1 w' := by
  have NN := hid (isNone_any x p w hx)
  have HL0 := hid (left_same h (Keep.refl _ w))
  have hz : (tx s).size = s.length := size_mk s
  have HP : Hid (putD d s = if s = [] then (d, [], 1) else if 4096 < s.length then (d, [], 2)
    else if (getD d (idB s)).2 = 0 then (d, idB s, 0)
    else if (layD d enew (enm (idB s)) (filB s)).2 ≠ 0 then ((layD d enew (enm (idB s)) (filB s)).1, [], (layD d enew (enm (idB s)) (filB s)).2)
    else ((layD d enew (enm (idB s)) (filB s)).1, idB s, 0)) := rfl
  generalize putD d s = q at *
  by_cases h0 : s = []
  · have he : (tx s).toList.isEmpty = true := by rw [tx_toList, h0]; rfl
    have he2 : (tx s).toList = [] := by rw [tx_toList, h0]
    have HQ : Hid (q = (d, [], 1)) := by have := HP.out; rw [if_pos h0] at this; exact this
    clear HP ok h hx hf hz
    generalize tx s = T at *
    go_enter Tryz.func11, Tryz.ntmps11
    go_wp2_with fail
    refine NN.out.mono ?_
    rintro e w1 ⟨rfl, rfl⟩
    clear NN
    go_wp2
    go_ret2
    exact ⟨by rw [HQ.out]; rfl, by rw [HQ.out]; exact HL0.out⟩
  have he : ¬ (tx s).toList = [] := fun e => by rw [tx_toList] at e; exact h0 e
  have he2 : (tx s).toList.isEmpty = false := by rw [tx_toList]; cases s with
    | nil => exact absurd rfl h0
    | cons _ _ => rfl
  by_cases hl : 4096 < s.length
  · have h1 : (4096 : Int) < ((tx s).size : Int) := by omega
    have HQ : Hid (q = (d, [], 2)) := by have := HP.out; rw [if_neg h0, if_pos hl] at this; exact this
    clear HP ok h hx hf hz
    generalize tx s = T at *
    go_enter Tryz.func11, Tryz.ntmps11
    go_wp2_with fail
    refine NN.out.mono ?_
    rintro e w1 ⟨rfl, rfl⟩
    clear NN
    go_wp2
    go_ret2
    exact ⟨by rw [HQ.out]; rfl, by rw [HQ.out]; exact HL0.out⟩
  have h1 : ¬ (4096 : Int) < ((tx s).size : Int) := by omega
  have h1b : decide ((4096 : Int) < ((tx s).size : Int)) = false := decide_eq_false h1
  have ID := hid (id_any s w (by omega))
  have hil := idB_len s
  have HS := hid (fun (W : World) (k : Keep (fun _ => False) w W) => xhas_any x p (fun j => if j < w.heap.size then c j else 7) d (idB s) W (hx.keep k) (h.keep k (fun j hj => if_pos hj) (fun _ _ h => h.elim)) (by omega) hf)
  have FT := hid (fun W : World => fileText_any s W (by omega))
  have LY : Hid (∀ W, Left w c p d W → Calls Tryz.prog 41 #[.pointer (some ⟨p, 0, none⟩), .string ⟨#[101, 46, 110, 101, 119]⟩, .string (tx (enm (idB s))), .string (tx (filB s))] W fun e w' => e = .returned (.int .i64 (layD d enew (enm (idB s)) (filB s)).2) ∧ w'.cell? ⟨x, 0, none⟩ = some (.pointer (some ⟨p, 0, none⟩)) ∧ Left w c p (layD d enew (enm (idB s)) (filB s)).1 w') := fun W hL => (stepL hL (fun W' c' D' => lay_any p c' d enew (enm (idB s)) (filB s) W' D' ok.m0 ok.n0 ok.m1 ok.m2 ok.n2 ok.m3)).mono fun e w' ⟨he, hl⟩ => ⟨he, (hl.2.cell hx.lt (by omega)).trans hx, hl⟩
  have hadd := fun W => enm_add (idB s) W (by omega)
  have HX := hid hx
  have HP2 : Hid (q = if (getD d (idB s)).2 = 0 then (d, idB s, 0)
    else if (layD d enew (enm (idB s)) (filB s)).2 ≠ 0 then ((layD d enew (enm (idB s)) (filB s)).1, [], (layD d enew (enm (idB s)) (filB s)).2)
    else ((layD d enew (enm (idB s)) (filB s)).1, idB s, 0)) := by have := HP.out; rw [if_neg h0, if_neg hl] at this; exact this
  clear HP ok h hf hz h0 hl hil hx
  generalize layD d enew (enm (idB s)) (filB s) = r at *
  obtain ⟨dl, el⟩ := r
  simp only at LY HP2
  generalize tx (enm (idB s)) = EN at *
  generalize tx (filB s) = FS at *
  obtain ⟨I, hI⟩ : ∃ I, I = tx (idB s) := ⟨_, rfl⟩
  have HI := hid hI
  rw [← hI] at ID HS hadd
  clear hI
  generalize tx s = T at *
  by_cases hg : (getD d (idB s)).2 = 0
  · have HQ : Hid (q = (d, idB s, 0)) := by have := HP2.out; rw [if_pos hg] at this; exact this
    rw [decide_eq_true hg] at HS
    clear HP2 LY FT hadd hg
    go_enter Tryz.func11, Tryz.ntmps11
    go_wp2_with fail
    refine NN.out.mono ?_
    rintro e w1 ⟨rfl, rfl⟩
    clear NN
    go_wp2_with fail
    refine ID.out.mono ?_
    rintro e w2 ⟨rfl, hk2⟩
    have HK2 := hid hk2
    clear hk2 ID
    go_wp2_with fail
    refine (HS.out _ HK2.out).mono ?_
    rintro e w3 ⟨rfl, hk3⟩
    have HK3 := hid (HK2.out.trans hk3)
    clear hk3 HK2 HS
    go_wp2
    go_ret2
    exact ⟨by rw [HQ.out, HI.out]; rfl, by rw [HQ.out]; exact HL0.out.keepR HK3.out⟩
  · rw [decide_eq_false hg] at HS
    have HP3 : Hid (q = if el ≠ 0 then (dl, [], el) else (dl, idB s, 0)) := by have := HP2.out; rw [if_neg hg] at this; exact this
    clear HP2 hg
    go_enter Tryz.func11, Tryz.ntmps11
    go_wp2_with fail
    refine NN.out.mono ?_
    rintro e w1 ⟨rfl, rfl⟩
    clear NN
    go_wp2_with fail
    refine ID.out.mono ?_
    rintro e w2 ⟨rfl, hk2⟩
    have HK2 := hid hk2
    clear hk2 ID
    go_wp2_with fail
    refine (HS.out _ HK2.out).mono ?_
    rintro e w3 ⟨rfl, hk3⟩
    have HK3 := hid (HK2.out.trans hk3)
    clear hk3 HK2 HS
    have hx3 : w3.cell? ⟨x, 0, none⟩ = some (.pointer (some ⟨p, 0, none⟩)) := HX.out.keep HK3.out
    have FT3 : Hid (∀ W, Keep (fun _ => False) w3 W → Calls Tryz.prog 42 #[.string T] W fun e w' => e = .returned (.string FS) ∧ w'.cell? ⟨x, 0, none⟩ = some (.pointer (some ⟨p, 0, none⟩)) ∧ Hid (Left w1 c p d w')) := fun W kW => (FT.out W).mono fun e w' ⟨he, hk⟩ => ⟨he, HX.out.keep ((HK3.out.trans kW).trans hk), HL0.out.keepR ((HK3.out.trans kW).trans hk)⟩
    clear FT
    go_wp2
    go_region_held3 (fun w' => w'.cell? ⟨x, 0, none⟩ = some (.pointer (some ⟨p, 0, none⟩))) (first | with_reducible assumption | go_keep) (first | (go_at_call 42; with_reducible (refine (FT3.out _ ?_).mono ?_); (first | exact Keep.refl _ _ | exact keep_drew _ _); rintro e w6 ⟨rfl, hx6, HL6⟩) | (go_at_call 41; with_reducible (refine (LY.out _ ?_).mono ?_); (first | exact HL6.out | exact HL6.out.keepR (keep_drew _ _)); rintro e w7 ⟨rfl, hx7, hL7⟩))
    all_goals
      clear HL6 hx6 hx7 FT3 hx3 LY
      have HL7 := hid hL7
      clear hL7
      by_cases h9 : el = 0
      · subst h9
        have HQ : Hid (q = (dl, idB s, 0)) := by have := HP3.out; rw [if_neg (by simp)] at this; exact this
        clear HP3
        go_wp2
        go_ret2
        exact ⟨by rw [HQ.out, HI.out]; rfl, by rw [HQ.out]; exact HL7.out⟩
      · have hne : (el != 0) = true := by rw [bne_iff_ne]; exact h9
        have HQ : Hid (q = (dl, [], el)) := by have := HP3.out; rw [if_pos h9] at this; exact this
        clear HP3 h9
        go_wp2
        go_ret2
        exact ⟨by rw [HQ.out]; rfl, by rw [HQ.out]; exact HL7.out⟩
end Go.Proofs.YtedogofeibdjiaaGreat
namespace Go.Proofs.YtedogofeibdjiaaGreat
open Go.RowKit Go.Maps
set_option linter.unusedVariables false
set_option linter.unusedSimpArgs false

theorem catB_chks (n : Nat) (s : Bs) (m : Nat) : catB (chks n s m) = s.take (m * n) := by
  induction m with
  | zero => simp [chks, catB]
  | succ m ih =>
    have e : chks n s (m + 1) = chks n s m ++ [tx (chk n s m)] := by simp [chks, List.range_succ]
    rw [e, catB_append, ih, Nat.succ_mul, List.take_add]
    simp [catB, chk]
theorem frms_chks (s : Bs) (m : Nat) : frms (chks 512 s m) = fpre s m := by
  simp [frms, chks, fpre, Function.comp_def]
theorem nch_all {n : Nat} (s : Bs) (hn : 0 < n) : s.length ≤ nch n s * n := by
  unfold nch
  have := Nat.div_add_mod (s.length + n - 1) n
  have h2 := Nat.mod_lt (s.length + n - 1) hn
  rw [Nat.mul_comm]
  omega
theorem fs_filB (s : Bs) : (fs (tx (filB s))).l = chks 512 s (nch 512 s) := by
  have h1 : (tx (filB s)).data.toList = [] ++ (frms (chks 512 s (nch 512 s)) ++ []) := by rw [frms_chks]; simp [filB]
  have hz : (tx (filB s)).size = (frms (chks 512 s (nch 512 s))).length := by rw [size_mk, frms_chks]; rfl
  have := fsF_all (tx (filB s)) (chks 512 s (nch 512 s)) [] [] ((tx (filB s)).size + 1) [] (fun b hb => by
    simp [chks] at hb
    obtain ⟨i, _, rfl⟩ := hb
    rw [size_mk]; have := chk_len 512 s i; omega) h1 (by simp) (by
      rw [List.length_nil, Nat.zero_add, ← hz]; exact unf_end _)
  unfold fs
  rw [List.length_nil] at this
  rw [this]; rfl
theorem bodB_filB (s : Bs) : bodB (filB s) = s := by
  unfold bodB
  rw [fs_filB, catB_chks]
  exact List.take_of_length_le (nch_all s (by decide))
theorem rightB_filB (s : Bs) (h0 : s ≠ []) (hl : s.length ≤ 4096) : rightB (idB s) (filB s) = some s := by
  unfold rightB
  rw [bodB_filB, if_pos ⟨h0, hl, rfl, rfl⟩]
end Go.Proofs.YtedogofeibdjiaaGreat
namespace Go.Proofs.YtedogofeibdjiaaGreat
open Go.RowKit Go.Maps
set_option linter.unusedVariables false
set_option linter.unusedSimpArgs false

theorem isIdB_idB (s : Bs) : isIdB (idB s) = true := by
  unfold isIdB
  rw [idB_len]
  unfold idB
  rw [unh_hex]
  rfl
theorem dig_in : ∀ n, n < 16 → inN (dig n).toNat = true := by decide
theorem hexL_in (l : Bs) : (hexL l).all (fun c => inN c.toNat) = true := by
  induction l with
  | nil => rfl
  | cons c r ih =>
    have hc : c.toNat < 256 := UInt8.toNat_lt c
    simp only [hexL, List.all_cons, ih, Bool.and_true]
    rw [dig_in _ (by omega), dig_in _ (by omega)]; rfl
theorem nameOk_enm (s : Bs) : nameOk (enm (idB s)) = true := by
  have h1 := idB_len s
  have h2 : (idB s).all (fun c => inN c.toNat) = true := by unfold idB; exact hexL_in _
  unfold nameOk enm
  simp only [List.length_cons, h1, List.all_cons, h2]
  decide
theorem enm_new (s : Bs) : enm (idB s) ≠ enew := fun e => by
  have h1 := congrArg List.length e
  have h2 := idB_len s
  simp [enm, enew, h2] at h1
/-- a new disk on which one file has been laid whole -/
def dOne (E F : Bs) : Ds := ⟨[(E, F)], [], 2, [], false, 0, false⟩
theorem nameOk_new : nameOk enew = true := by decide
theorem wr_one (F : Bs) : wrD d0 enew F = (⟨[], [⟨1, enew, [], F, 0⟩], 1, [], false, 0, false⟩, 0) := by
  simp [wrD, d0, nameOk_new, fitB, chgD, Ds.more]
theorem syn_one (F : Bs) : synR ⟨[], [⟨1, enew, [], F, 0⟩], 1, [], false, 0, false⟩ = (⟨[(enew, F)], [], 1, [], false, 0, false⟩, 0) := by
  simp [synR, synD, Ds.now, replay, doC, kput, kins, kdel]
theorem mv_one (E F : Bs) (hE : nameOk E = true) (hne : E ≠ enew) : mvD ⟨[(enew, F)], [], 1, [], false, 0, false⟩ enew E = (⟨[(enew, F)], [⟨2, enew, E, [], 0⟩], 2, [], false, 0, false⟩, 0) := by
  have hne2 : ¬ enew = E := fun e => hne e.symm
  simp [mvD, nameOk_new, hE, Ds.now, replay, kget, hne2, chgD, Ds.more]
theorem syn_two (E F : Bs) (hne : E ≠ enew) : synR ⟨[(enew, F)], [⟨2, enew, E, [], 0⟩], 2, [], false, 0, false⟩ = (dOne E F, 0) := by
  have hne2 : ¬ enew = E := fun e => hne e.symm
  simp [synR, synD, Ds.now, replay, doC, kput, kins, kdel, kget, hne, hne2, dOne]
  split <;> simp [hne]
theorem lay_one (E F : Bs) (hE : nameOk E = true) (hne : E ≠ enew) : layD d0 enew E F = (dOne E F, 0) := by
  unfold layD
  rw [wr_one]
  simp only
  rw [if_neg (by simp), syn_one]
  simp only
  rw [if_neg (by simp), mv_one E F hE hne]
  simp only
  rw [if_neg (by simp), syn_two E F hne]
theorem clr_d0 : clrD d0 enew = (d0, 0) := by
  simp [clrD, rmD, d0, nameOk_new, Ds.now, replay, kget]
theorem open_d0 : openD d0 = (d0, 0, 0) := by
  unfold openD
  rw [clr_d0]
  simp [idsOf, dropD, d0, Ds.now, replay]
theorem opok_d0 : OpOk d0 := by
  refine ⟨rfl, ?_, ?_, ?_, ?_, ?_, ?_, ?_, ?_⟩
  · simp [Ds.wt, d0, tot, enew]
  · simp [d0]
  · rw [clr_d0]; intro _; rfl
  · rw [clr_d0]; simp [d0, Ds.now, replay]
  · rw [clr_d0]; intro y hy; simp [d0, Ds.now, replay] at hy
  · rw [clr_d0]; intro k hk; simp [d0, Ds.now, replay, idsOf] at hk
  · rw [clr_d0]; simp [d0, Ds.now, replay, idsOf, dropD, Ds.wt, tot]
  · rw [clr_d0]; simp [d0, Ds.now, replay, idsOf, dropD]
theorem filB_len (s : Bs) (h : s.length ≤ 4096) : (filB s).length ≤ 5000000 := by
  have h1 := fpre_len s (nch 512 s)
  have h2 := nch_le (n := 512) (s := s) (by decide)
  unfold filB
  omega
theorem get_d0 (s : Bs) : getD d0 (idB s) = ([], 4) := by
  unfold getD
  rw [isIdB_idB, if_neg (by decide)]
  have : rdD d0 (enm (idB s)) = ([], 4) := by simp [rdD, d0, nameOk_enm, Ds.now, replay, kget]
  rw [this]; rfl
theorem put_d0 (s : Bs) (h0 : s ≠ []) (hl : s.length ≤ 4096) : putD d0 s = (dOne (enm (idB s)) (filB s), idB s, 0) := by
  unfold putD
  rw [if_neg h0, if_neg (by omega), get_d0, if_neg (by decide), lay_one _ _ (nameOk_enm s) (enm_new s), if_neg (by simp)]
theorem lyok_d0 (s : Bs) (hl : s.length ≤ 4096) : LyOk d0 enew (enm (idB s)) (filB s) := by
  have h1 := filB_len s hl
  have h2 := idB_len s
  refine ⟨?_, ?_, ?_, ?_, ?_, ?_⟩
  · simp [Ds.wt, d0, tot, enew]; omega
  · simp [d0]
  · rw [wr_one]; simp [Ds.wt, tot]; omega
  · rw [wr_one, syn_one]; simp [Ds.wt, tot, enew, enm, h2]; omega
  · rw [wr_one, syn_one]; simp
  · rw [wr_one, syn_one, mv_one _ _ (nameOk_enm s) (enm_new s)]; simp [Ds.wt, tot]; omega
theorem fail_one (E F : Bs) : failD (dOne E F) 0 0 = { dOne E F with dn := true } := by
  simp [failD, dOne, failS, replay]
theorem rd_one (s : Bs) (F : Bs) : rdD (dOne (enm (idB s)) F) (enm (idB s)) = (F, 0) := by
  simp [rdD, dOne, nameOk_enm, Ds.now, replay, kget]
theorem get_one (s : Bs) (h0 : s ≠ []) (hl : s.length ≤ 4096) : getD (dOne (enm (idB s)) (filB s)) (idB s) = (s, 0) := by
  unfold getD
  rw [isIdB_idB, if_neg (by decide), rd_one, if_neg (by simp), rightB_filB s h0 hl]
theorem clr_one (s F : Bs) : clrD (dOne (enm (idB s)) F) enew = (dOne (enm (idB s)) F, 0) := by
  have hne := enm_new s
  simp [clrD, rmD, dOne, nameOk_new, Ds.now, replay, kget, hne]
theorem ids_one (s F : Bs) : idsOf (dOne (enm (idB s)) F).now = [idB s] := by
  have h1 := isIdB_idB s
  simp [idsOf, dOne, Ds.now, replay, idOf, enm, h1]
theorem drop_one (s : Bs) (h0 : s ≠ []) (hl : s.length ≤ 4096) : dropD (dOne (enm (idB s)) (filB s)) [idB s] = (dOne (enm (idB s)) (filB s), 0, 0) := by
  show dropS (dOne (enm (idB s)) (filB s), 0, 0) (idB s) = _
  unfold dropS
  rw [if_neg (by simp), if_pos (by rw [get_one s h0 hl])]
theorem open_one (s : Bs) (h0 : s ≠ []) (hl : s.length ≤ 4096) : openD (dOne (enm (idB s)) (filB s)) = (dOne (enm (idB s)) (filB s), 0, 0) := by
  unfold openD
  rw [clr_one]
  simp only
  rw [if_neg (by simp), ids_one, drop_one s h0 hl]
  simp
theorem opok_one (s : Bs) (h0 : s ≠ []) (hl : s.length ≤ 4096) : OpOk (dOne (enm (idB s)) (filB s)) := by
  have h1 := filB_len s hl
  have h2 := idB_len s
  refine ⟨rfl, ?_, ?_, ?_, ?_, ?_, ?_, ?_, ?_⟩
  · simp [Ds.wt, dOne, tot, enew]; omega
  · simp [dOne]
  · rw [clr_one]; intro _; rfl
  · rw [clr_one]; simp [dOne, Ds.now, replay]
  · rw [clr_one]; intro y hy; simp [dOne, Ds.now, replay] at hy; rw [hy]; simp [enm, h2]
  · rw [clr_one]
    simp only
    rw [ids_one]
    intro k hk
    have hk0 : k = 0 := by simpa using hk
    subst hk0
    refine ⟨?_, ?_, ?_, ?_⟩
    · show (idB s).length ≤ _; omega
    · show (rdD (dOne (enm (idB s)) (filB s)) (enm (idB s))).1.length ≤ _; rw [rd_one]; simp only; omega
    · show (dOne (enm (idB s)) (filB s)).wt + _ + _ + _ ≤ _; simp [Ds.wt, dOne, tot, enm, dropD, h2]; omega
    · show (dOne (enm (idB s)) (filB s)).n ≤ _; simp [dOne]
  · rw [clr_one]; simp only; rw [ids_one, drop_one s h0 hl]; simp [Ds.wt, dOne, tot]; omega
  · rw [clr_one]; simp only; rw [ids_one, drop_one s h0 hl]; simp [dOne]
end Go.Proofs.YtedogofeibdjiaaGreat
namespace Go.Proofs.YtedogofeibdjiaaGreat
open Go.RowKit Go.Maps
set_option linter.unusedVariables false
set_option linter.unusedSimpArgs false

/-- a disk from which some files were taken away, not yet made sure -/
def dR (A : List (Bs × Bs)) (rs : List Bs) (n : Nat) : Ds := ⟨A, rs.map fun m => ⟨3, m, [], [], 0⟩, n, [], false, 0, false⟩
def lft (A : List (Bs × Bs)) (rs : List Bs) : List (Bs × Bs) := A.filter fun y => !rs.contains y.1
theorem lft_cons (A : List (Bs × Bs)) (m : Bs) (rs : List Bs) : lft (kdel A m) rs = lft A (m :: rs) := by
  unfold lft kdel
  rw [List.filter_filter]
  congr 1
  funext y
  rw [List.contains_cons]
  cases hq : y.1 == m <;> cases rs.contains y.1 <;> rfl
theorem dR_now (n : Nat) : ∀ (rs : List Bs) (A : List (Bs × Bs)), (dR A rs n).now = lft A rs
  | [], A => by
    show A = lft A []
    exact (List.filter_eq_self.2 (fun _ _ => rfl)).symm
  | m :: rs, A => by
    have ih := dR_now n rs (kdel A m)
    rw [lft_cons] at ih
    rw [← ih]
    rfl
theorem kget_lft (A : List (Bs × Bs)) (rs : List Bs) (m : Bs) : kget (lft A rs) m = if rs.contains m = true then none else kget A m := by
  unfold kget lft
  rw [List.find?_filter]
  by_cases h : rs.contains m = true
  · rw [if_pos h, List.find?_eq_none.2 (fun y _ => ?_)]
    · rfl
    · intro h2
      simp only [Bool.and_eq_true, Bool.not_eq_true', decide_eq_true_eq] at h2
      have e : y.1 = m := by simpa using h2.2
      rw [e, h] at h2
      exact Bool.noConfusion h2.1
  · rw [if_neg h]
    congr 2
    funext y
    by_cases e : y.1 = m
    · rw [e]; simp at h ⊢; exact h
    · simp [e]
theorem rd_dR (A : List (Bs × Bs)) (rs : List Bs) (n : Nat) (m : Bs) (h : rs.contains m = false) : rdD (dR A rs n) m = rdD (dR A [] 0) m := by
  unfold rdD
  rw [dR_now, dR_now, kget_lft, kget_lft, h]
  rfl
theorem getD_dR (A : List (Bs × Bs)) (rs : List Bs) (n : Nat) (i : Bs) (h : rs.contains (enm i) = false) : getD (dR A rs n) i = getD (dR A [] 0) i := by
  unfold getD
  rw [rd_dR A rs n (enm i) h]
theorem rm_dR (A : List (Bs × Bs)) (rs : List Bs) (n : Nat) (m : Bs) (h : rs.contains m = false) (h2 : (kget A m).isSome = true) (h3 : nameOk m = true) : rmD (dR A rs n) m = (dR A (rs ++ [m]) (n + 1), 0) := by
  unfold rmD
  rw [dR_now, kget_lft, h, if_neg (by simp [dR]), if_neg (by rw [h3]; decide), if_neg (by simp [h2])]
  simp [chgD, dR, Ds.more]
/-- an extent that is not right -/
def wrg (A : List (Bs × Bs)) (i : Bs) : Bool := !decide ((getD (dR A [] 0) i).2 = 0)
theorem enm_inj {i j : Bs} (h : enm i = enm j) : i = j := by
  unfold enm at h
  injection h with _ h
  injection h with _ h
theorem drop_dR (A : List (Bs × Bs)) : ∀ (ids rs : List Bs) (n c : Nat), ids.Nodup → (∀ i ∈ ids, rs.contains (enm i) = false ∧ (kget A (enm i)).isSome = true ∧ nameOk (enm i) = true) →
    ids.foldl dropS (dR A rs n, c, 0) = (dR A (rs ++ (ids.filter (wrg A)).map enm) (n + (ids.filter (wrg A)).length), c + (ids.filter (wrg A)).length, 0)
  | [], rs, n, c, _, _ => by simp
  | i :: r, rs, n, c, hd, h => by
    obtain ⟨h1, h2, h3⟩ := h i (by simp)
    have hd' := List.nodup_cons.1 hd
    rw [List.foldl_cons]
    have e0 : dropS (dR A rs n, c, 0) i = if wrg A i = true then (dR A (rs ++ [enm i]) (n + 1), c + 1, 0) else (dR A rs n, c, 0) := by
      unfold dropS
      simp only
      rw [if_neg (by simp), getD_dR A rs n i h1, rm_dR A rs n (enm i) h1 h2 h3]
      unfold wrg
      by_cases hg : (getD (dR A [] 0) i).2 = 0
      · rw [if_pos hg, if_neg (by simp [hg])]
      · rw [if_neg hg, if_neg (by simp), if_pos (by simp [hg])]
    rw [e0]
    cases hw : wrg A i with
    | false =>
      rw [if_neg (by simp), List.filter_cons_of_neg (by simp [hw])]
      exact drop_dR A r rs n c hd'.2 (fun j hj => h j (by simp [hj]))
    | true =>
      rw [if_pos rfl, List.filter_cons_of_pos hw]
      have := drop_dR A r (rs ++ [enm i]) (n + 1) (c + 1) hd'.2 (fun j hj => by
        obtain ⟨g1, g2, g3⟩ := h j (by simp [hj])
        refine ⟨?_, g2, g3⟩
        have hne : ¬ enm j = enm i := fun e => hd'.1 (enm_inj e ▸ hj)
        simp at g1 ⊢
        exact ⟨g1, hne⟩)
      rw [this]
      simp only [List.map_cons, List.length_cons, List.append_assoc, List.singleton_append]
      rw [show n + 1 + (r.filter (wrg A)).length = n + ((r.filter (wrg A)).length + 1) by omega, show c + 1 + (r.filter (wrg A)).length = c + ((r.filter (wrg A)).length + 1) by omega]
theorem idOf_some {n i : Bs} (h : idOf n = some i) : n = enm i ∧ isIdB i = true := by
  rw [idOf_eq] at h
  by_cases hc : n.length = 66 ∧ n.take 2 = [101, 46] ∧ isIdB (n.drop 2) = true
  · rw [if_pos hc] at h
    injection h with h
    refine ⟨?_, h ▸ hc.2.2⟩
    rw [← List.take_append_drop 2 n, hc.2.1, h]
    rfl
  · rw [if_neg hc] at h; cases h
theorem mem_idsOf {L : List (Bs × Bs)} {i : Bs} (h : i ∈ idsOf L) : ∃ y ∈ L, idOf y.1 = some i := by
  obtain ⟨y, hy, h2⟩ := List.mem_filterMap.1 h
  exact ⟨y, hy, h2⟩
theorem ids_nodup {L : List (Bs × Bs)} (h : Srt L) : (idsOf L).Nodup := by
  refine List.Pairwise.filterMap _ (fun a b hab i hi j hj e => ?_) (srt_apart h)
  rw [(idOf_some hi).1, (idOf_some hj).1, e] at hab
  exact hab rfl
theorem srt_lft {A : List (Bs × Bs)} (h : Srt A) (rs : List Bs) : Srt (lft A rs) := List.Pairwise.filter _ h
theorem ids_of {A : List (Bs × Bs)} {rs : List Bs} (hn : ∀ x ∈ A, nameOk x.1 = true) : ∀ i ∈ idsOf (lft A rs), rs.contains (enm i) = false ∧ (kget A (enm i)).isSome = true ∧ nameOk (enm i) = true := by
  intro i hi
  obtain ⟨y, hy, h2⟩ := mem_idsOf hi
  have e := (idOf_some h2).1
  unfold lft at hy
  rw [List.mem_filter] at hy
  rw [← e]
  refine ⟨by simpa using hy.2, ?_, hn _ hy.1⟩
  cases hk : kget A y.1 with
  | none => exact absurd rfl (kget_none hk y hy.1)
  | some u => rfl
/-- a file of an extent is right just if the disk's Get says so -/
theorem wrg_at {A : List (Bs × Bs)} (hs : Srt A) (hn : ∀ x ∈ A, nameOk x.1 = true) {y : Bs × Bs} (hy : y ∈ A) {i : Bs} (hi : idOf y.1 = some i) : wrg A i = !(rightB i y.2).isSome := by
  obtain ⟨e, hid⟩ := idOf_some hi
  have hk : kget A (enm i) = some y.2 := by rw [← e]; exact srt_mem hs hy
  have hrd : rdD (dR A [] 0) (enm i) = (y.2, 0) := by
    unfold rdD
    rw [dR_now, kget_lft, if_neg (by simp [dR]), if_neg (by rw [← e, hn _ hy]; decide)]
    simp [hk]
  unfold wrg getD
  rw [hid, hrd]
  cases rightB i y.2 <;> simp
theorem bad_len (A : List (Bs × Bs)) : ∀ (B : List (Bs × Bs)), (∀ y ∈ B, ∀ i, idOf y.1 = some i → wrg A i = !(rightB i y.2).isSome) → ((idsOf (B.filter fun y => !(y.1 == enew))).filter (wrg A)).length = (B.filter roN).length
  | [], _ => rfl
  | y :: r, h => by
    have ih := bad_len A r (fun z hz => h z (by simp [hz]))
    by_cases h1 : y.1 = enew
    · rw [List.filter_cons_of_neg (by simp [h1]), List.filter_cons_of_neg (by simp [(ro_new h1).2]), ih]
    · rw [List.filter_cons_of_pos (by simp [h1])]
      cases h2 : idOf y.1 with
      | none =>
        rw [List.filter_cons_of_neg (by simp [(ro_none h1 h2).2])]
        unfold idsOf at ih ⊢
        rw [List.filterMap_cons_none (by exact h2), ih]
      | some i =>
        have hw := h y (by simp) i h2
        unfold idsOf at ih ⊢
        rw [List.filterMap_cons_some (by exact h2)]
        cases h3 : rightB i y.2 with
        | none =>
          rw [h3] at hw
          rw [List.filter_cons_of_pos (by simpa using hw), List.filter_cons_of_pos (ro_wrong h1 h2 h3).2, List.length_cons, List.length_cons, ih]
        | some b =>
          rw [h3] at hw
          rw [List.filter_cons_of_neg (by simp [hw]), List.filter_cons_of_neg (by simp [(ro_right h1 h2 h3).2]), ih]
theorem nameOk_new2 : nameOk enew = true := nameOk_new
theorem clr_dR (A : List (Bs × Bs)) (n : Nat) : clrD (dR A [] n) enew = if (kget A enew).isSome = true then (dR A [enew] (n + 1), 0) else (dR A [] n, 0) := by
  unfold clrD
  by_cases h : (kget A enew).isSome = true
  · rw [if_pos h, rm_dR A [] n enew rfl h nameOk_new]
    simp
  · rw [if_neg h]
    have : rmD (dR A [] n) enew = (dR A [] n, 4) := by
      unfold rmD
      rw [dR_now, kget_lft, if_neg (by simp [dR]), if_neg (by rw [nameOk_new]; decide), if_pos (by rw [if_neg (by simp)]; cases hq : kget A enew with | none => rfl | some u => rw [hq] at h; exact absurd rfl h)]
    rw [this]
    simp
/-- what is taken away first -/
def rs0 (A : List (Bs × Bs)) : List Bs := if (kget A enew).isSome = true then [enew] else []
theorem clr_dR' (A : List (Bs × Bs)) (n : Nat) : clrD (dR A [] n) enew = (dR A (rs0 A) (n + (rs0 A).length), 0) := by
  rw [clr_dR]
  unfold rs0
  split <;> simp
theorem lft_rs0 (A : List (Bs × Bs)) : lft A (rs0 A) = A.filter fun y => !(y.1 == enew) := by
  unfold lft rs0
  refine List.filter_congr (fun y hy => ?_)
  by_cases h : (kget A enew).isSome = true
  · rw [if_pos h]; by_cases e : y.1 = enew <;> simp [e]
  · rw [if_neg h]
    have hk : kget A enew = none := by simpa using h
    have := kget_none hk y hy
    simp [this]
theorem idOf_new : idOf enew = none := by
  rw [idOf_eq, if_neg (fun h => by have := h.1; simp [enew] at this)]
theorem open_dR {A : List (Bs × Bs)} {n : Nat} (hs : Srt A) (hn : ∀ x ∈ A, nameOk x.1 = true) :
    ∃ e, openD (dR A [] n) = (dR (A.filter roK) [] (n + e), (A.filter roN).length, 0) ∧ (A.filter roK = A → e = 0) ∧ e ≤ 1 + A.length := by
  have hw := fun y hy i hi => wrg_at hs hn (y := y) hy (i := i) hi
  have hnow : (dR A (rs0 A) (n + (rs0 A).length)).now = lft A (rs0 A) := dR_now _ _ _
  obtain ⟨bad, hbad⟩ : ∃ bad, bad = (idsOf (lft A (rs0 A))).filter (wrg A) := ⟨_, rfl⟩
  have hdrop : dropD (dR A (rs0 A) (n + (rs0 A).length)) (idsOf (lft A (rs0 A))) = (dR A (rs0 A ++ bad.map enm) (n + (rs0 A).length + bad.length), bad.length, 0) := by
    have := drop_dR A (idsOf (lft A (rs0 A))) (rs0 A) (n + (rs0 A).length) 0 (ids_nodup (srt_lft hs _)) (ids_of hn)
    unfold dropD
    rw [this, ← hbad]
    simp
  have hlen : bad.length = (A.filter roN).length := by
    rw [hbad, lft_rs0]
    exact bad_len A A hw
  have hl2 : lft A (rs0 A ++ bad.map enm) = A.filter roK := by
    refine List.filter_congr (fun y hy => ?_)
    have hmem : (rs0 A ++ bad.map enm).contains y.1 = true ↔ y.1 ∈ rs0 A ∨ y.1 ∈ bad.map enm := by
      rw [List.contains_iff_mem, List.mem_append]
    by_cases h1 : y.1 = enew
    · rw [(ro_new h1).1]
      have hk : (kget A enew).isSome = true := by
        rw [← h1]
        cases hk : kget A y.1 with
        | none => exact absurd rfl (kget_none hk y hy)
        | some u => rfl
      have : y.1 ∈ rs0 A := by unfold rs0; rw [if_pos hk, h1]; simp
      rw [hmem.2 (.inl this)]
      rfl
    · have hno : y.1 ∉ rs0 A := by
        unfold rs0
        split <;> simp [h1]
      cases h2 : idOf y.1 with
      | none =>
        rw [(ro_none h1 h2).1]
        have : ¬ (rs0 A ++ bad.map enm).contains y.1 = true := fun h => by
          rcases hmem.1 h with h | h
          · exact hno h
          · obtain ⟨i, hi, e⟩ := List.mem_map.1 h
            rw [hbad, List.mem_filter] at hi
            obtain ⟨z, hz, hz2⟩ := mem_idsOf hi.1
            have e2 := (idOf_some hz2).1
            rw [← e, ← e2, hz2] at h2
            cases h2
        simpa using this
      | some i =>
        obtain ⟨e, _⟩ := idOf_some h2
        have hw1 := hw y hy i h2
        have hin : i ∈ idsOf (lft A (rs0 A)) := List.mem_filterMap.2 ⟨y, by rw [lft_rs0, List.mem_filter]; exact ⟨hy, by simp [h1]⟩, h2⟩
        cases h3 : rightB i y.2 with
        | none =>
          rw [(ro_wrong h1 h2 h3).1]
          rw [h3] at hw1
          have : y.1 ∈ bad.map enm := List.mem_map.2 ⟨i, by rw [hbad, List.mem_filter]; exact ⟨hin, by simpa using hw1⟩, e.symm⟩
          rw [hmem.2 (.inr this)]
          rfl
        | some b =>
          rw [(ro_right h1 h2 h3).1]
          rw [h3] at hw1
          have : ¬ (rs0 A ++ bad.map enm).contains y.1 = true := fun h => by
            rcases hmem.1 h with h | h
            · exact hno h
            · obtain ⟨j, hj, e2⟩ := List.mem_map.1 h
              rw [hbad, List.mem_filter] at hj
              have : i = j := enm_inj (e.symm.trans e2.symm)
              rw [← this, hw1] at hj
              simp at hj
          simpa using this
  have hsyn : ∀ rs m, synR (dR A rs m) = (dR (lft A rs) [] m, 0) := fun rs m => by
    unfold synR
    rw [if_neg (by simp [dR])]
    unfold synD
    rw [dR_now]
    rfl
  refine ⟨(rs0 A).length + bad.length, ?_, fun h => ?_, ?_⟩
  · unfold openD
    rw [clr_dR']
    simp only
    rw [hnow, hdrop]
    simp only
    rw [if_neg (by simp), if_neg (by simp)]
    by_cases h0 : (rs0 A).length + bad.length = 0
    · have hr : rs0 A = [] := List.length_eq_zero_iff.1 (by omega)
      have hb : bad = [] := List.length_eq_zero_iff.1 (by omega)
      rw [hr, hb] at hl2 ⊢
      have : A.filter roK = A := by rw [← hl2]; exact List.filter_eq_self.2 (fun _ _ => rfl)
      rw [if_neg (by simp [dR]), this, ← hlen, hb]
      rfl
    · rw [if_pos (by show n < n + (rs0 A).length + bad.length; omega), hsyn]
      simp only
      rw [if_neg (by simp), hl2, hlen, Nat.add_assoc]
  · have hall : ∀ y ∈ A, roK y = true := List.filter_eq_self.1 h
    have hr : rs0 A = [] := by
      unfold rs0
      rw [if_neg (fun hk => ?_)]
      obtain ⟨u, hu⟩ := Option.isSome_iff_exists.1 hk
      have := hall _ (kget_mem hu)
      rw [(ro_new rfl).1] at this
      cases this
    have hb : bad.length = 0 := by
      rw [hlen, List.length_eq_zero_iff, List.filter_eq_nil_iff]
      intro y hy h2
      have h3 := hall y hy
      unfold roK at h3
      unfold roN at h2
      cases h4 : idOf y.1 <;> simp [h4] at h2 h3
      rw [h2.2] at h3
      simp at h3
    rw [hr, hb]
    rfl
  · have h1 : (rs0 A).length ≤ 1 := by unfold rs0; split <;> simp
    have h2 := List.length_filter_le roN A
    omega
theorem wt_dR (A : List (Bs × Bs)) (rs : List Bs) (n : Nat) : (dR A rs n).wt = tot A := by
  unfold Ds.wt dR
  simp only
  have : ((rs.map fun m => (⟨3, m, [], [], 0⟩ : Chg)).map fun ch => ch.s.length).sum = 0 := by
    induction rs with
    | nil => rfl
    | cons m r ih => simp at ih ⊢; exact ih
  omega
theorem len_ids (L : List (Bs × Bs)) : (idsOf L).length ≤ L.length := List.length_filterMap_le _ _
theorem opok_dR {A : List (Bs × Bs)} {n : Nat} (hs : Srt A) (hn : ∀ x ∈ A, nameOk x.1 = true) (ht : tot A ≤ 100000000) (hz : ∀ y ∈ A, y.2.length ≤ 2000000) (hl : A.length ≤ 100) (hm : n ≤ 100000) : OpOk (dR A [] n) := by
  have h8 : enew.length = 5 := rfl
  have hr1 : (rs0 A).length ≤ 1 := by unfold rs0; split <;> simp
  have hnow : (dR A (rs0 A) (n + (rs0 A).length)).now = lft A (rs0 A) := dR_now _ _ _
  have hll : (lft A (rs0 A)).length ≤ 100 := Nat.le_trans (List.length_filter_le _ _) hl
  have hdrop : ∀ k, dropD (dR A (rs0 A) (n + (rs0 A).length)) ((idsOf (lft A (rs0 A))).take k) = (dR A (rs0 A ++ (((idsOf (lft A (rs0 A))).take k).filter (wrg A)).map enm) (n + (rs0 A).length + (((idsOf (lft A (rs0 A))).take k).filter (wrg A)).length), (((idsOf (lft A (rs0 A))).take k).filter (wrg A)).length, 0) := fun k => by
    have := drop_dR A ((idsOf (lft A (rs0 A))).take k) (rs0 A) (n + (rs0 A).length) 0 ((List.take_sublist _ _).nodup (ids_nodup (srt_lft hs _))) (fun i hi => ids_of hn i (List.mem_of_mem_take hi))
    unfold dropD
    rw [this]
    simp
  have hbl : ∀ k, (((idsOf (lft A (rs0 A))).take k).filter (wrg A)).length ≤ 100 := fun k => by
    have h1 := List.length_filter_le (wrg A) ((idsOf (lft A (rs0 A))).take k)
    have h2 := len_ids (lft A (rs0 A))
    rw [List.length_take] at h1
    omega
  have hbd : ∀ rs m, (dR A rs m).S.length = A.length ∧ (dR A rs m).ws.length = rs.length ∧ (dR A rs m).n = m := fun rs m => ⟨rfl, by simp [dR], rfl⟩
  have hfull := hdrop (idsOf (lft A (rs0 A))).length
  rw [List.take_length] at hfull
  have hb2 := hbl (idsOf (lft A (rs0 A))).length
  rw [List.take_length] at hb2
  refine ⟨rfl, ?_, ?_, ?_, ?_, ?_, ?_, ?_, ?_⟩
  · rw [wt_dR, (hbd _ _).1, (hbd _ _).2.1, h8]; simp; omega
  · rw [(hbd _ _).2.2]; omega
  · rw [clr_dR']; intro _; rfl
  · rw [clr_dR']; simp only; rw [hnow]; omega
  · rw [clr_dR']; simp only; rw [hnow]
    intro y hy
    exact nameOk_len (hn y ((List.mem_filter.1 hy).1))
  · rw [clr_dR']; simp only; rw [hnow]
    intro k hk
    rw [hdrop]
    simp only
    have hi := ids_of hn (rs := rs0 A) _ (List.getElem_mem hk)
    obtain ⟨y, hy, h2⟩ := mem_idsOf (List.getElem_mem hk)
    have hl64 := isIdB_len (idOf_some h2).2
    refine ⟨by omega, ?_, ?_, ?_⟩
    · unfold rdD
      split
      · simp
      · split
        · simp
        · rw [dR_now, kget_lft]
          split
          · simp
          · rename_i u hu
            split at hu
            · cases hu
            · have := hz _ (kget_mem hu)
              simp only at this ⊢
              omega
    · rw [wt_dR, (hbd _ _).1, (hbd _ _).2.1]
      have := hbl k
      simp [enm, hl64]
      omega
    · rw [(hbd _ _).2.2]
      have := hbl k
      omega
  · rw [clr_dR']; simp only; rw [hnow, hfull]; simp only; rw [wt_dR, (hbd _ _).1, (hbd _ _).2.1]; simp; omega
  · rw [clr_dR']; simp only; rw [hnow, hfull]; simp only; rw [(hbd _ _).2.2]; omega
end Go.Proofs.YtedogofeibdjiaaGreat
namespace Go.Proofs.YtedogofeibdjiaaGreat
open Go.RowKit Go.Maps
set_option linter.unusedVariables false
set_option linter.unusedSimpArgs false

/-- the set of texts in block b -/
def SetX (w : World) (b : Nat) (ns : List Bs) : Prop := ∃ L, MapIs w b L ∧ (∀ x ∈ L, x.2 = Value.agg #[]) ∧ (∀ n, (kget L n).isSome = decide (n ∈ ns)) ∧ L.length ≤ ns.length
theorem SetX.keep {S : Nat → Prop} {w w' : World} {b : Nat} {ns : List Bs} (h : SetX w b ns) (k : Keep S w w') (hS : ¬ S b) : SetX w' b ns := by
  obtain ⟨L, h1, r⟩ := h
  exact ⟨L, k.mapIs h1 hS, r⟩
theorem SetX.lt {w : World} {b : Nat} {ns : List Bs} (h : SetX w b ns) : b < w.heap.size := by
  obtain ⟨L, h1, _⟩ := h
  exact World.ownsMap.lt h1
theorem zeroX (w : World) : (zeroValue 83).run Tryz.prog w = .ok (.agg #[]) w := by kernel_rfl
theorem run_mkMapX (n : Int) (w : World) : (Instr.makeMap 82 (some (.int .i64 n))).run Tryz.prog w = .ok (.map (some w.heap.size)) (w.alloc (.map #[] 0)) := by
  simp [Instr.makeMap, run_underlying Tryz.underlying82, asInt, asIntOf, Result.andThen]
theorem tx_dl (n : Bs) : (tx n).data.toList = n := by show n.toArray.toList = _; simp
theorem setX_look {w : World} {b : Nat} {ns : List Bs} (h : SetX w b ns) (n : Bs) (hs : n.length ≤ maxLen) :
    (Instr.lookup 82 (.map (some b)) (.string (tx n)) true).run Tryz.prog w = .ok (.tuple #[.agg #[], .bool (decide (n ∈ ns))]) w := by
  obtain ⟨L, h, h1, h2, _⟩ := h
  have hk := WideMaps.keyOf_string_mk (P := Tryz.prog) (s := tx n) Tryz.underlying9 (by rw [size_mk]; exact hs)
  obtain ⟨v, ps, hr, hv⟩ := World.ownsMap.look_ok h law9 Tryz.underlying82 (zeroX w) (zd := .held (.agg #[])) (zp := []) rfl hk
  rw [mp_at] at hv
  have e : (kget L n).getD (.agg #[]) = v := by
    have := DataW.held.inj (held_inj hv)
    rw [tx_dl] at this
    exact this
  rw [tx_dl, mp_has, h2, ← e] at hr
  have e2 : (kget L n).getD (.agg #[]) = .agg #[] := by
    cases hg : kget L n with
    | none => rfl
    | some v => exact h1 _ (kget_mem hg)
  rw [e2] at hr
  exact hr
theorem setX_store {w : World} {b : Nat} {ns : List Bs} (h : SetX w b ns) (n : Bs) (hs : n.length ≤ maxLen) (hl : ns.length < maxLen) :
    ∃ w', (Instr.mapUpdate 82 (.map (some b)) (.string (tx n)) (.agg #[])).run Tryz.prog w = .ok () w' ∧ SetX w' b (ns ++ [n]) ∧ w.mapTurned w' b := by
  obtain ⟨L, h, h1, h2, h3⟩ := h
  have hk := WideMaps.keyOf_string_mk (P := Tryz.prog) (s := tx n) Tryz.underlying9 (by rw [size_mk]; exact hs)
  obtain ⟨w', hr, ho, ht⟩ := World.ownsMap.store h law9 Tryz.underlying82 (Nat.lt_of_le_of_lt h3 hl) (val := .agg #[]) (d := .held (.agg #[])) (ps := []) hk rfl
  rw [mp_put, tx_dl] at ho
  refine ⟨w', hr, ⟨_, mapIs_of ho, ?_, ?_, ?_⟩, ht⟩
  · intro x hx
    rcases mem_kput.1 hx with rfl | ⟨hx, _⟩
    · rfl
    · exact h1 x hx
  · intro m
    by_cases e : n = m
    · subst e; rw [kget_put_same]; simp
    · rw [kget_put_other _ _ e, h2]
      exact decide_eq_decide.2 (by simp [Ne.symm e])
  · have := len_kput L n (.agg #[] : Value)
    simp; omega
set_option maxRecDepth 100000 in
/-- what Keep's own test tells -/
theorem goesK_any (q b : Nat) (ks : List Bs) (id : Bs) (w : World) (hq : w.cell? ⟨q, 0, none⟩ = some (.map (some b))) (hb : SetX w b ks) (hl : id.length ≤ 1073741824) :
    Calls Tryz.prog 47 #[.string (tx id), .pointer (some ⟨q, 0, none⟩)] w fun e w' => e = .returned (.bool (!decide (id ∈ ks))) ∧ Keep (fun _ => False) w w' := by
  have hlook := setX_look hb id (by unfold maxLen; omega)
  have HK : Hid (Keep (fun _ => False) w (w.alloc (.cells #[] 83))) := keep_alloc _ _ _
  generalize decide (id ∈ ks) = B at *
  generalize tx id = I at *
  clear hb
  go_enter Tryz.func47, Tryz.ntmps47
  go_wp2
  go_ret
  exact ⟨rfl, HK.out⟩
/-- one extent's turn: is it wanted, it stays; else it is taken away -/
def dropT (ks : List Bs) (a : Ds × Nat × Int) (id : Bs) : Ds × Nat × Int :=
  if a.2.2 ≠ 0 then a
  else if id ∈ ks then a
  else if (rmD a.1 (enm id)).2 ≠ 0 then ((rmD a.1 (enm id)).1, 0, (rmD a.1 (enm id)).2)
  else ((rmD a.1 (enm id)).1, a.2.1 + 1, 0)
def dropK (ks : List Bs) (d : Ds) (ids : List Bs) : Ds × Nat × Int := ids.foldl (dropT ks) (d, 0, 0)
theorem dropT_stop (ks ids : List Bs) : ∀ a : Ds × Nat × Int, a.2.2 ≠ 0 → ids.foldl (dropT ks) a = a := by
  induction ids with
  | nil => intro a _; rfl
  | cons i r ih => intro a h; rw [List.foldl_cons, show dropT ks a i = a from if_pos h]; exact ih a h
theorem dropK_take {ks : List Bs} {d : Ds} {ids : List Bs} {k : Nat} (h : k < ids.length) : dropK ks d (ids.take (k + 1)) = dropT ks (dropK ks d (ids.take k)) ids[k] := by
  unfold dropK
  rw [List.take_succ_eq_append_getElem h, List.foldl_append]
  rfl
theorem dropK_stop {ks : List Bs} {d : Ds} {ids : List Bs} {k : Nat} (h : (dropK ks d (ids.take k)).2.2 ≠ 0) : dropK ks d ids = dropK ks d (ids.take k) := by
  unfold dropK at h ⊢
  conv => lhs; rw [← List.take_append_drop k ids, List.foldl_append]
  exact dropT_stop _ _ _ h
set_option maxRecDepth 100000 in
set_option maxHeartbeats 4000000 in
theorem xdropK_any (q b x p : Nat) (ks : List Bs) (c : Nat → Nat) (d : Ds) (w : World) (hq : w.cell? ⟨q, 0, none⟩ = some (.map (some b))) (hb : SetX w b ks) (hcb : 6 < c b) (hcq : 6 < c q) (hx : StIs w x p) (hcx : 6 < c x) (h : DiskIs w c p d) (hdn : d.dn = false) (hl : d.now.length ≤ 1073741824) (hnm : ∀ y ∈ d.now, y.1.length ≤ 80)
    (hok : ∀ k (hk : k < (idsOf d.now).length), OkD (dropK ks d ((idsOf d.now).take k)).1 ((idsOf d.now)[k])) :
    Calls Tryz.prog 32 #[.pointer (some ⟨x, 0, none⟩), .func (.func 47) #[] #[.pointer (some ⟨q, 0, none⟩)]] w fun e w' => e = .returned (.tuple #[.int .i64 ((dropK ks d (idsOf d.now)).2.1 : Nat), .int .i64 (dropK ks d (idsOf d.now)).2.2]) ∧ Left w c p (dropK ks d (idsOf d.now)).1 w' := by
  have AL := hid (all_any x p c d w hx h hdn hl hnm)
  have hlen : (idsOf d.now).length ≤ d.now.length := List.length_filterMap_le _ _
  have HOK := hid hok
  have HH := hid h
  have HQ := hid hq
  have HX := hid hx
  have HBS := hid hb
  have hbs : b < w.heap.size := hb.lt
  have hqs : q < w.heap.size := World.block_lt_of_cell? _ _ hq
  have hxs : x < w.heap.size := hx.lt
  generalize idsOf d.now = ids at *
  clear hok h hnm hq hx hb
  go_enter Tryz.func32, Tryz.ntmps32
  go_wp2_with fail
  refine AL.out.mono ?_
  rintro e w1 ⟨v, rfl, hr, hk1⟩
  obtain ⟨ad0, cap0, rfl⟩ := row_form hr
  have HCE : Hid (∀ k (hk : k < ids.length), ∃ g, ad0 = some ⟨g, 0, none⟩ ∧ w.heap.size ≤ g ∧ g < w1.heap.size ∧ w1.cell? ⟨g, k, none⟩ = some (.string (tx ids[k]))) := fun k hk => by
    rcases hr.2 with ⟨e, h0⟩ | ⟨g, cap, cur, e, hg, hb, r⟩
    · omega
    · injection e with e1 e2 e3
      have e9 : ad0 = some ⟨g, 0, none⟩ := e1
      subst e9
      exact ⟨g, rfl, hg, (Array.getElem?_eq_some_iff.1 hb).1, grow_at hr (by simp [txC, hk])⟩
  obtain ⟨c1, hc1⟩ : ∃ c1 : Nat → Nat, c1 = fun j => if j < w.heap.size then c j else 7 := ⟨_, rfl⟩
  have HC1 : Hid ((∀ j, j < w.heap.size → c1 j = c j) ∧ ∀ j, w.heap.size ≤ j → c1 j = 7) := ⟨fun j hj => by rw [hc1]; exact if_pos hj, fun j hj => by rw [hc1]; exact if_neg (by omega)⟩
  have HL0 : Hid (Left w1 c1 p (dropK ks d (ids.take 0)).1 w1) := left_same (HH.out.keep hk1 HC1.out.1 (fun _ _ h => h.elim)) (Keep.refl _ _)
  have HQX : Hid (∀ (d' : Ds) (W : World), Left w1 c1 p d' W → W.cell? ⟨q, 0, none⟩ = some (.map (some b)) ∧ StIs W x p ∧ SetX W b ks) := fun d' W hL => by
    have s1 := hk1.size
    refine ⟨?_, ?_⟩
    · rw [hL.2.cell (by omega) (by rw [HC1.out.1 q hqs]; omega), hk1.cell hqs (fun h => h)]; exact HQ.out
    · refine ⟨((hL.2.cell (by omega) (by rw [HC1.out.1 x hxs]; omega)).trans (hk1.cell hxs (fun h => h))).trans HX.out, ?_⟩
      exact (HBS.out.keep hk1 (fun h => h)).keep hL.2 (by rw [HC1.out.1 b hbs]; omega)
  have FIN : Hid (∀ (d' : Ds) (W : World), Left w1 c1 p d' W → Left w c p d' W) := fun d' W hL => Left.trans HC1.out.1 (hk1.mono (fun _ _ h => h.elim)) hL
  have HCL : Hid (∀ k (hk : k < ids.length) (d' : Ds) (W : World), Left w1 c1 p d' W → ∃ g, ad0 = some ⟨g, 0, none⟩ ∧ W.cell? ⟨g, k, none⟩ = some (.string (tx ids[k]))) := fun k hk d' W hL => by
    obtain ⟨g, h1, h2, h3, h4⟩ := HCE.out k hk
    exact ⟨g, h1, (hL.2.cell h3 (by rw [HC1.out.2 g h2]; omega)).trans h4⟩
  clear hr hk1 HCE HC1 hc1 AL HQ HX HH HBS
  go_wp2
  go_loopw [6, 13] (fun n i wr => ∃ k : Nat, k ≤ ids.length ∧ n = .int .i64 ((dropK ks d (ids.take k)).2.1 : Nat) ∧ i = .int .i64 (k : Int) ∧ Hid ((dropK ks d (ids.take k)).2.1 ≤ k) ∧ Hid ((dropK ks d (ids.take k)).2.2 = 0) ∧ Hid (Left w1 c1 p (dropK ks d (ids.take k)).1 wr)) (fun _ i _ => ids.length - (intOf i).toNat)
  case atStart => exact ⟨0, Nat.zero_le _, rfl, rfl, Nat.le_refl _, rfl, HL0⟩
  case round =>
    clear HL0
    obtain ⟨k, hk, rfl, rfl, HN, HE, HL⟩ := hrel
    by_cases hlt : k < ids.length
    · have HST := hid (dropK_take (d := d) (ks := ks) hlt)
      have HOKk := hid (HOK.out k hlt)
      clear HOK
      generalize dropK ks d (ids.take k) = a at *
      obtain ⟨da, na, ea⟩ := a
      simp only at HN HE HL HOKk
      have hN := HN.out
      have hE := HE.out
      subst hE
      obtain ⟨gb, had, hcw⟩ := HCL.out k hlt da wr HL.out
      subst had
      obtain ⟨hqw, hxw, hbw⟩ := HQX.out da wr HL.out
      have HXW := hid hxw
      have hk0 : (0 : Int) ≤ (k : Int) := by omega
      have hk1 : (k : Int) < (ids.length : Int) := by omega
      obtain ⟨o1, o2, o3, o4⟩ := HOKk.out
      obtain ⟨⟨ci, hD, hci⟩, hKi⟩ := HL.out
      have GO := hid (goesK_any q b ks ids[k] wr hqw hbw o1)
      have RMc : ∀ W' c', DiskIs W' c' p da → Calls Tryz.prog 60 #[.pointer (some ⟨p, 0, none⟩), .string (tx (enm ids[k]))] W' fun e w' => e = .returned (.int .i64 (rmD da (enm ids[k])).2) ∧ Left W' c' p (rmD da (enm ids[k])).1 w' := fun W' c' D' => remove_any p c' da (enm ids[k]) W' D' o3 o4
      have RM : Hid (∀ W : World, Keep (fun _ => False) wr W → Calls Tryz.prog 60 #[.pointer (some ⟨p, 0, none⟩), .string (tx (enm ids[k]))] W fun e w' => e = .returned (.int .i64 (rmD da (enm ids[k])).2) ∧ Left w1 c1 p (rmD da (enm ids[k])).1 w') := fun W k2 => stepL (HL.out.keepR k2) RMc
      have KR : Hid (∀ W : World, Keep (fun _ => False) wr W → Left w1 c1 p da W) := fun W k2 => HL.out.keepR k2
      have hadd := fun W => enm_add ids[k] W o1
      clear HL hD hci hKi o1 o2 o3 o4 HOKk HN HE hxw hbw RMc
      simp only at HST ⊢
      generalize tx (enm ids[k]) = EN at *
      have HSD : Hid (dropT ks (da, na, 0) ids[k] = if ids[k] ∈ ks then (da, na, 0) else if (rmD da (enm ids[k])).2 ≠ 0 then ((rmD da (enm ids[k])).1, 0, (rmD da (enm ids[k])).2) else ((rmD da (enm ids[k])).1, na + 1, 0)) := rfl
      by_cases hg : ids[k] ∈ ks
      · rw [decide_eq_true hg] at GO
        have HD2 : Hid (dropK ks d (ids.take (k + 1)) = (da, na, 0)) := by show _ = _; rw [HST.out, HSD.out, if_pos hg]
        clear HSD HST RM hg hadd
        generalize tx ids[k] = I at *
        go_wp2_with fail
        refine GO.out.mono ?_
        rintro e w2 ⟨rfl, hk2⟩
        have HL2 := hid (KR.out w2 hk2)
        clear hk2 KR GO
        go_wp2
        exact ⟨⟨k + 1, by omega, by rw [HD2.out], by go_num, by show _ ≤ _; rw [HD2.out]; show na ≤ _; omega, by show _ = _; rw [HD2.out], by rw [HD2.out]; exact HL2⟩, by simp [intOf]; omega⟩
      · rw [decide_eq_false hg] at GO
        have HSD2 : Hid (dropK ks d (ids.take (k + 1)) = if (rmD da (enm ids[k])).2 ≠ 0 then ((rmD da (enm ids[k])).1, 0, (rmD da (enm ids[k])).2) else ((rmD da (enm ids[k])).1, na + 1, 0)) := by show _ = _; rw [HST.out, HSD.out, if_neg hg]
        clear HSD HST hg KR
        generalize rmD da (enm ids[k]) = r at *
        obtain ⟨dr, er⟩ := r
        simp only at *
        generalize tx ids[k] = I at *
        by_cases he : er = 0
        · subst he
          have HD2 : Hid (dropK ks d (ids.take (k + 1)) = (dr, na + 1, 0)) := by show _ = _; rw [HSD2.out, if_neg (by simp)]
          clear HSD2
          go_wp2_with fail
          refine GO.out.mono ?_
          rintro e w2 ⟨rfl, hk2⟩
          have hxw2 : w2.cell? ⟨x, 0, none⟩ = some (.pointer (some ⟨p, 0, none⟩)) := HXW.out.keep hk2
          have RM2 := hid (RM.out w2 hk2)
          clear hk2 GO RM
          go_wp2_with fail
          refine RM2.out.mono ?_
          rintro e w3 ⟨rfl, hL3⟩
          have HL3 := hid hL3
          clear hL3 RM2 hxw2
          go_wp2
          exact ⟨⟨k + 1, by omega, by rw [HD2.out]; go_num, by go_num, by show _ ≤ _; rw [HD2.out]; show na + 1 ≤ _; omega, by show _ = _; rw [HD2.out], by rw [HD2.out]; exact HL3⟩, by simp [intOf]; omega⟩
        · have hne : (er != 0) = true := by rw [bne_iff_ne]; exact he
          have HD2 : Hid (dropK ks d ids = (dr, 0, er)) := by
            have h9 : dropK ks d (ids.take (k + 1)) = (dr, 0, er) := by rw [HSD2.out, if_pos he]
            show _ = _
            rw [dropK_stop (k := k + 1) (by rw [h9]; exact he), h9]
          clear HSD2 he
          go_wp2_with fail
          refine GO.out.mono ?_
          rintro e w2 ⟨rfl, hk2⟩
          have hxw2 : w2.cell? ⟨x, 0, none⟩ = some (.pointer (some ⟨p, 0, none⟩)) := HXW.out.keep hk2
          have RM2 := hid (RM.out w2 hk2)
          clear hk2 GO RM
          go_wp2_with fail
          refine RM2.out.mono ?_
          rintro e w3 ⟨rfl, hL3⟩
          have HL3 := hid (FIN.out _ _ hL3)
          clear hL3 RM2 hxw2
          go_wp2
          go_ret2
          exact ⟨by rw [HD2.out]; rfl, by rw [HD2.out]; exact HL3.out⟩
    · have hd : decide ((k : Int) < (ids.length : Int)) = false := decide_eq_false (by omega)
      have hd2 : decide (k < ids.length) = false := decide_eq_false hlt
      have HL2 : Hid (Left w c p (dropK ks d ids).1 wr ∧ (dropK ks d ids).2.2 = 0) := by
        have e : ids.take k = ids := List.take_of_length_le (by omega)
        have h1 := HL.out
        have h2 := HE.out
        rw [e] at h1 h2
        exact ⟨FIN.out _ _ h1, h2⟩
      have HEQ : Hid (dropK ks d (ids.take k) = dropK ks d ids) := by show _ = _; rw [List.take_of_length_le (by omega)]
      clear HL HE HN
      go_wp2
      go_ret2
      exact ⟨by rw [HL2.out.2, ← HEQ.out]; rfl, HL2.out.1⟩
set_option maxRecDepth 100000 in
set_option maxHeartbeats 4000000 in
theorem keepX_any (x p : Nat) (c : Nat → Nat) (d d2 : Ds) (n : Nat) (ks : List Bs) (v : Value) (w : World) (hx : StIs w x p) (hcx : 6 < c x) (h : DiskIs w c p d) (hdn : d.dn = false) (hl : d.now.length ≤ 1073741824) (hnm : ∀ y ∈ d.now, y.1.length ≤ 80)
    (hv : Strs w v (ks.map tx)) (hkl : ks.length ≤ 1048576) (hks : ∀ i ∈ ks, i.length ≤ 1048576) (hok : ∀ k (hk : k < (idsOf d.now).length), OkD (dropK ks d ((idsOf d.now).take k)).1 ((idsOf d.now)[k]))
    (hdr : dropK ks d (idsOf d.now) = (d2, n, 0)) (hd2 : d2.dn = false) (hM : d2.wt + d2.S.length + d2.ws.length ≤ 70368744177) (hn : n ≤ 1048576) :
    Calls Tryz.prog 16 #[.pointer (some ⟨x, 0, none⟩), v] w fun e w' => e = .returned (.tuple #[.int .i64 (n : Int), .int .i64 0]) ∧ Left w c p (if 0 < n then synD d2 else d2) w' := by
  obtain ⟨ad, cap, rfl⟩ : ∃ ad cap, v = .slice ad ks.length cap := by
    rcases hv with ⟨e, ad, cap, e2⟩ | ⟨g, off, cap, e, _⟩
    · have : ks = [] := by simpa using e
      exact ⟨ad, cap, by rw [e2, this]; rfl⟩
    · exact ⟨_, _, by rw [e, List.length_map]⟩
  have HC : Hid (∀ (k : Nat) (hk : k < ks.length), ∃ g off, ad = some ⟨g, off, none⟩ ∧ g < w.heap.size ∧ ∀ W, Keep (fun j => j = w.heap.size) w W → W.cell? ⟨g, off + k, none⟩ = some (.string (tx ks[k]))) := fun k hk => by
    rcases hv with ⟨e, _⟩ | ⟨g, off, cap', e, hg, hc⟩
    · have : ks = [] := by simpa using e
      rw [this] at hk; simp at hk
    · injection e with e1 e2 e3
      refine ⟨g, off, e1, hg, fun W hW => (hW.cell hg (by omega)).trans ((hc k (by simpa using hk)).trans ?_)⟩
      simp [hk]
  have NN := hid (isNone_any x p w hx)
  have hD := h.down
  rw [hdn] at hD
  have HDn : Hid (∀ W, Keep (fun _ => False) w W → Calls Tryz.prog 30 #[.pointer (some ⟨p, 0, none⟩)] W fun e w' => e = .returned (.bool false) ∧ w' = W) := fun W k => by
    have := (h.keep k (c' := c) (fun _ _ => rfl) (fun _ _ h => h.elim)).down
    rw [hdn] at this
    exact down_any _ false W this
  have HXC := hid hx
  have hxs : x < w.heap.size := hx.lt
  have HT : Hid (∀ (k : Nat) (hk : k < ks.length), ks.take (k + 1) = ks.take k ++ [ks[k]]) := fun k hk => List.take_succ_eq_append_getElem hk
  have HB : Hid (∀ (k : Nat) (hk : k < ks.length), (ks[k]).length ≤ 1048576) := fun k hk => hks _ (List.getElem_mem hk)
  have HTA : Hid (∀ k, ks.length ≤ k → ks.take k = ks) := fun k hk => List.take_of_length_le hk
  have HKL : Hid (ks.length ≤ 1048576) := hkl
  have e1 : (w.alloc (.map #[] 0)).heap.size = w.heap.size + 1 := by simp
  obtain ⟨wA, hwA⟩ : ∃ wA, wA = (w.alloc (.map #[] 0)).alloc (.cells #[.map (some w.heap.size)] 82) := ⟨_, rfl⟩
  have kA : Keep (fun _ => False) w wA := by rw [hwA]; exact (keep_alloc _ _ _).trans (keep_alloc _ _ _)
  have sA : wA.heap.size = w.heap.size + 2 := by rw [hwA]; simp
  have qA : wA.cell? ⟨w.heap.size + 1, 0, none⟩ = some (.map (some w.heap.size)) := by
    rw [hwA, ← e1, cell_of_row _ _ _ _ _ _ (heap_alloc_new _ _)]; rfl
  have mA : SetX wA w.heap.size (ks.take 0) := by
    have : SetX (w.alloc (.map #[] 0)) w.heap.size (ks.take 0) := ⟨[], mapIs_made w, by simp, fun n => by simp [kget], by simp⟩
    rw [hwA]
    exact this.keep (keep_alloc (fun _ => False) _ _) (fun h => h)
  have HWA : Hid (wA = (w.alloc (.map #[] 0)).alloc (.cells #[.map (some w.heap.size)] 82)) := hwA
  have H0 : Hid (SetX wA w.heap.size (ks.take 0) ∧ Keep (fun j => j = w.heap.size) wA wA) := ⟨mA, Keep.refl _ _⟩
  have HKA := hid kA
  have HSA : Hid (wA.heap.size = w.heap.size + 2) := sA
  have HQA := hid qA
  -- the disk behind the map
  have HDK : Hid (∀ W, SetX W w.heap.size ks → Keep (fun j => j = w.heap.size) wA W → ∃ cA : Nat → Nat, DiskIs W cA p d ∧ (∀ j, j < w.heap.size → cA j = c j) ∧ 6 < cA w.heap.size ∧ 6 < cA (w.heap.size + 1) ∧ StIs W x p ∧ W.cell? ⟨w.heap.size + 1, 0, none⟩ = some (.map (some w.heap.size)) ∧ ∀ d' W', Left W cA p d' W' → Left w c p d' W' ∧ StIs W' x p ∧ W'.cell? ⟨w.heap.size + 1, 0, none⟩ = some (.map (some w.heap.size))) := fun W hS hk => by
    have kW : Keep (fun _ => False) w W := (kA.then hk (T := fun j => j = w.heap.size) (fun j hj e => by omega))
    have sW := hk.size
    have xW : StIs W x p := hx.keep kW
    have cA1 : ∀ j, j < w.heap.size → (fun j => if j < w.heap.size then c j else 7) j = c j := fun j hj => if_pos hj
    have cA2 : ∀ j, w.heap.size ≤ j → (fun j => if j < w.heap.size then c j else 7) j = 7 := fun j hj => if_neg (by omega)
    have qW : W.cell? ⟨w.heap.size + 1, 0, none⟩ = some (.map (some w.heap.size)) := (hk.cell (by omega) (by omega)).trans qA
    refine ⟨fun j => if j < w.heap.size then c j else 7, h.keep kW cA1 (fun _ _ h => h.elim), cA1, by rw [cA2 _ (by omega)]; omega, by rw [cA2 _ (by omega)]; omega, xW, qW, fun d' W' hL => ⟨Left.trans cA1 (kW.mono (fun _ _ h => h.elim)) hL, ?_, ?_⟩⟩
    · exact (hL.2.cell (by omega) (by rw [cA1 x hxs]; omega)).trans xW
    · exact (hL.2.cell (by omega) (by rw [cA2 _ (by omega)]; omega)).trans qW
  have DRP : Hid (∀ W cA, DiskIs W cA p d → SetX W w.heap.size ks → 6 < cA w.heap.size → 6 < cA (w.heap.size + 1) → StIs W x p → 6 < cA x → W.cell? ⟨w.heap.size + 1, 0, none⟩ = some (.map (some w.heap.size)) → Calls Tryz.prog 32 #[.pointer (some ⟨x, 0, none⟩), .func (.func 47) #[] #[.pointer (some ⟨w.heap.size + 1, 0, none⟩)]] W fun e w' => e = .returned (.tuple #[.int .i64 (n : Int), .int .i64 0]) ∧ Left W cA p d2 w') := fun W cA D hS h1 h2 hx2 hc2 hq => by
    have := xdropK_any (w.heap.size + 1) w.heap.size x p ks cA d W hq hS h1 h2 hx2 hc2 D hdn hl hnm hok
    rw [hdr] at this
    exact this
  have SY : Hid (∀ W cA, DiskIs W cA p d2 → Calls Tryz.prog 20 #[.pointer (some ⟨p, 0, none⟩)] W fun e w' => e = .returned (.int .i64 0) ∧ Left W cA p (synD d2) w') := fun W cA D => sync_any p cA d2 W D hd2 hM
  have HCX : Hid (6 < c x) := hcx
  have hmm := run_mkMapX (ks.length : Int)
  clear h hD hx hv hks hok hdr hd2 hM hl hnm hdn kA sA qA mA e1 hcx hkl
  generalize synD d2 = d3 at *
  go_enter Tryz.func16, Tryz.ntmps16
  go_wp2_with fail
  refine NN.out.mono ?_
  rintro e w9 ⟨rfl, rfl⟩
  clear NN
  have hxc : w9.cell? ⟨x, 0, none⟩ = some (.pointer (some ⟨p, 0, none⟩)) := HXC.out
  go_wp2_with fail
  refine (HDn.out _ (Keep.refl _ _)).mono ?_
  rintro e w8 ⟨rfl, rfl⟩
  clear HDn hxc
  go_upto_region 6 with fail
  rw [← hwA]
  clear hwA hmm
  go_wp2
  go_loopw [23] (fun i wr => ∃ k : Nat, k ≤ ks.length ∧ i = .int .i64 (k : Int) ∧ Hid (SetX wr w8.heap.size (ks.take k) ∧ Keep (fun j => j = w8.heap.size) wA wr)) (fun i _ => ks.length - (intOf i).toNat)
  case atStart => exact ⟨0, Nat.zero_le _, rfl, H0⟩
  case round =>
    clear H0
    obtain ⟨k, hk, rfl, HM⟩ := hrel
    have hw8 : Keep (fun j => j = w8.heap.size) w8 wr := (HKA.out.mono (fun _ _ h => h.elim)).trans HM.out.2
    by_cases hlt : k < ks.length
    · obtain ⟨g, off, hva, hg, hcel⟩ := HC.out k hlt
      have hk0 : (0 : Int) ≤ (k : Int) := by omega
      have hk1 : (k : Int) < (ks.length : Int) := by omega
      have hcl := hcel wr hw8
      have hmc : wr.cell? ⟨w8.heap.size + 1, 0, none⟩ = some (.map (some w8.heap.size)) := (HM.out.2.cell (by have := HSA.out; omega) (by omega)).trans HQA.out
      have HTK := hid (HT.out k hlt)
      have HBK := hid (HB.out k hlt)
      have HLT := hid hlt
      have HW : Hid (wrap64 ((k : Int) + 1) = (k : Int) + 1) := by have := HKL.out; show _ = _; exact IntWalk.wrap64_in _ (by omega)
      subst hva
      clear hcel HT HB HC HDK DRP hw8 hg
      generalize ks[k] = kk at *
      obtain ⟨w6, hst, hset6, hT6⟩ := setX_store HM.out.1 kk (by have := HBK.out; unfold maxLen; omega) (by rw [List.length_take]; have := HKL.out; unfold maxLen; omega)
      have HK6 := hid (HM.out.2.trans (keep_map hT6))
      have HS6 : Hid (SetX w6 w8.heap.size (ks.take (k + 1))) := by show SetX _ _ _; rw [HTK.out]; exact hset6
      clear hset6 hT6 HM hlt
      generalize tx kk = KK at *
      go_wp2
      exact ⟨⟨k + 1, by have := HLT.out; omega, by rw [HW.out]; rfl, HS6.out, HK6.out⟩, by have := HLT.out; have hw := HW.out; rw [hw]; simp [intOf]; omega⟩
    · have hd : decide ((k : Int) < (ks.length : Int)) = false := decide_eq_false (by omega)
      have hd' : decide (k < ks.length) = false := decide_eq_false hlt
      have hS := HM.out.1
      rw [HTA.out k (by omega)] at hS
      obtain ⟨cA, D, c1, cm, cq, xW, qW, FIN⟩ := HDK.out wr hS HM.out.2
      have DR2 := hid (DRP.out wr cA D hS cm cq xW (by rw [c1 x hxs]; exact HCX.out) qW)
      have HFIN := hid FIN
      clear FIN hS HDK DRP D c1 cm cq xW HM hw8 HC HT HB HTA
      go_wp2_with fail
      refine DR2.out.mono ?_
      rintro e w2 ⟨rfl, hL⟩
      have HL2 := hid hL
      have hq2 := (HFIN.out _ _ hL).2.2
      have hx2 : w2.cell? ⟨x, 0, none⟩ = some (.pointer (some ⟨p, 0, none⟩)) := (HFIN.out _ _ hL).2.1
      clear hL DR2 qW
      by_cases hn0 : 0 < n
      · have n1 : decide ((n : Int) > 0) = true := decide_eq_true (by omega)
        have n2 : decide ((0 : Int) < (n : Int)) = true := decide_eq_true (by omega)
        have n3 : decide (0 < n) = true := decide_eq_true hn0
        obtain ⟨⟨ci, Di, hci⟩, Ki⟩ := HL2.out
        have SY2 := hid (SY.out w2 ci Di)
        have HTT : Hid (∀ W, Left w2 ci p d3 W → Left wr cA p d3 W) := fun W h => Left.trans hci Ki h
        clear Di hci Ki SY
        have HN0 := hid hn0
        clear hn0
        go_wp2_with fail
        refine SY2.out.mono ?_
        rintro e w3 ⟨rfl, hL⟩
        have HL3 := hid ((HFIN.out _ _ (HTT.out _ hL)).1)
        clear hL SY2 HTT hq2 hx2
        go_wp2
        go_ret2
        exact ⟨rfl, by first | exact HL3.out | (rw [if_pos HN0.out]; exact HL3.out)⟩
      · have n1 : decide ((n : Int) > 0) = false := decide_eq_false (by omega)
        have n2 : decide ((0 : Int) < (n : Int)) = false := decide_eq_false (by omega)
        have n3 : decide (0 < n) = false := decide_eq_false hn0
        have HN0 := hid hn0
        clear hn0
        have HL3 := hid ((HFIN.out _ _ HL2.out).1)
        clear SY HL2
        go_wp2
        go_ret2
        exact ⟨rfl, by first | exact HL3.out | (rw [if_neg HN0.out]; exact HL3.out)⟩
end Go.Proofs.YtedogofeibdjiaaGreat
namespace Go.Proofs.YtedogofeibdjiaaGreat
open Go.RowKit Go.Maps
set_option linter.unusedVariables false
set_option linter.unusedSimpArgs false

def fwB (b : ByteArray) : Bs := b.data.toList.take 5000
theorem fwB_len (b : ByteArray) : (fwB b).length ≤ 5000 := by unfold fwB; rw [List.length_take]; omega
set_option maxRecDepth 100000 in
theorem few_any (b : ByteArray) (w : World) : Calls Tryz.prog 9 #[.string b] w fun e w' => e = .returned (.string (tx (fwB b))) ∧ w' = w := by
  have hz : b.data.toList.length = b.size := by simp
  by_cases h : 5000 < b.size
  · have h1 : decide ((b.size : Int) > 5000) = true := decide_eq_true (by omega)
    have h2 : decide ((5000 : Int) < (b.size : Int)) = true := decide_eq_true (by omega)
    have h3 : decide (5000 < b.size) = true := decide_eq_true h
    have h4 : (5000 : Int) ≤ (b.size : Int) := by omega
    have h5 : 5000 ≤ b.size := by omega
    have hx : b.extract 0 5000 = tx (fwB b) := by
      have := extract_to2 b.data.toList 5000
      rw [show tx b.data.toList = b from rfl] at this
      exact this
    generalize tx (fwB b) = T at *
    clear hz h
    go_enter Tryz.func9, Tryz.ntmps9
    go_wp2
    go_ret
    exact ⟨rfl, rfl⟩
  · have h1 : decide ((b.size : Int) > 5000) = false := decide_eq_false (by omega)
    have h2 : decide ((5000 : Int) < (b.size : Int)) = false := decide_eq_false (by omega)
    have h3 : decide (5000 < b.size) = false := decide_eq_false h
    have hx : tx (fwB b) = b := by unfold fwB; rw [List.take_of_length_le (by omega)]
    rw [hx]
    clear hz h hx
    go_enter Tryz.func9, Tryz.ntmps9
    go_wp2
    go_ret
    exact ⟨rfl, rfl⟩
theorem row_strs {w : World} {B n : Nat} {v : Value} {l : List Bs} (h : w.ownsRow B 9 1 v n (txC l)) : Strs w v (l.map tx) := by
  have hn : l.length = n := by have := h.1; simp [txC] at this; omega
  rcases h.2 with ⟨e, h0⟩ | ⟨g, cap, cur, e, hg, hb, r⟩
  · exact .inl ⟨by simp [List.length_eq_zero_iff.1 (show l.length = 0 by omega)], none, 0, e⟩
  · rw [e] at h
    refine .inr ⟨g, 0, cap, by rw [e, List.length_map, hn], (Array.getElem?_eq_some_iff.1 hb).1, fun j hj => ?_⟩
    rw [List.length_map] at hj
    rw [Nat.zero_add, grow_at h (k := j) (u := .string (tx l[j])) (by simp [txC, hj])]
    simp [hj]
theorem strs_at {w : World} {ad : Option Addr} {n cap : Nat} {xs : List ByteArray} (h : Strs w (.slice ad n cap) xs) (k : Nat) (hk : k < xs.length) : ∃ g off, ad = some ⟨g, off, none⟩ ∧ g < w.heap.size ∧ w.cell? ⟨g, off + k, none⟩ = some (.string xs[k]) := by
  rcases h with ⟨e, _⟩ | ⟨g, off, cap', e, hg, hc⟩
  · rw [e] at hk; simp at hk
  · injection e with e1 e2 e3
    exact ⟨g, off, e1, hg, by rw [hc k hk]; simp [hk]⟩
theorem strs_form {w : World} {v : Value} {xs : List ByteArray} (h : Strs w v xs) : ∃ ad cap, v = .slice ad xs.length cap := by
  rcases h with ⟨e, ad, cap, e2⟩ | ⟨g, off, cap, e, _⟩
  · exact ⟨ad, cap, by rw [e2, e]; rfl⟩
  · exact ⟨_, _, e⟩
set_option maxRecDepth 100000 in
set_option maxHeartbeats 2000000 in
theorem among_any (t : Bs) (l : List Bs) (v : Value) (w : World) (hs : Strs w v (l.map tx)) (hl : l.length ≤ 1048576) :
    Calls Tryz.prog 29 #[.string (tx t), v] w fun e w' => e = .returned (.bool (decide (t ∈ l))) ∧ w' = w := by
  obtain ⟨ad, cap, rfl⟩ := strs_form hs
  have HC : Hid (∀ (k : Nat) (hk : k < l.length), ∃ g off, ad = some ⟨g, off, none⟩ ∧ w.cell? ⟨g, off + k, none⟩ = some (.string (tx l[k]))) := fun k hk => by
    obtain ⟨g, off, h1, _, h2⟩ := strs_at hs k (by simpa using hk)
    exact ⟨g, off, h1, by rw [h2]; simp⟩
  have HE : Hid (∀ (k : Nat) (hk : k < l.length), (l[k] = t → ((tx l[k]).toList == (tx t).toList) = true) ∧ (l[k] ≠ t → ((tx l[k]).toList == (tx t).toList) = false)) := fun k hk => ⟨fun h => by rw [tx_beq]; simp [h], fun h => by rw [tx_beq]; simp [h]⟩
  have HLL : Hid (l.length ≤ 1048576) := hl
  rw [List.length_map]
  clear hs hl
  go_enter Tryz.func29, Tryz.ntmps29
  go_wp2
  go_loopw [5] (fun i wr => ∃ k : Nat, k ≤ l.length ∧ i = .int .i64 (k : Int) ∧ wr = w ∧ Hid (∀ (j : Nat) (hj : j < l.length), j < k → l[j] ≠ t)) (fun i _ => l.length - (intOf i).toNat)
  case atStart => exact ⟨0, Nat.zero_le _, rfl, rfl, fun j hj h => by omega⟩
  case round =>
    obtain ⟨k, hk, rfl, rfl, HN⟩ := hrel
    by_cases hlt : k < l.length
    · obtain ⟨g, off, hva, hcl⟩ := HC.out k hlt
      have hk0 : (0 : Int) ≤ (k : Int) := by omega
      have hk1 : (k : Int) < (l.length : Int) := by omega
      have HW : Hid (wrap64 ((k : Int) + 1) = (k : Int) + 1) := by have := HLL.out; show _ = _; exact IntWalk.wrap64_in _ (by omega)
      have HLT := hid hlt
      subst hva
      by_cases h1 : l[k] = t
      · have he := (HE.out k hlt).1 h1
        have HF : Hid (decide (t ∈ l) = true) := by show _ = _; exact decide_eq_true (h1 ▸ List.getElem_mem hlt)
        clear HC HE HN h1
        generalize tx l[k] = X at *
        generalize tx t = T at *
        go_wp2
        go_ret
        exact ⟨by rw [HF.out]; rfl, rfl⟩
      · have he := (HE.out k hlt).2 h1
        have HN2 : Hid (∀ (j : Nat) (hj : j < l.length), j < k + 1 → l[j] ≠ t) := fun j hj h => by
          by_cases e : j = k
          · subst e; exact h1
          · exact HN.out j hj (by omega)
        clear HC HE HN h1
        generalize tx l[k] = X at *
        generalize tx t = T at *
        clear hlt hk
        go_wp2
        exact ⟨⟨k + 1, by have := HLT.out; omega, by rw [HW.out]; rfl, trivial, HN2⟩, by have := HLT.out; have hw := HW.out; rw [hw]; simp [intOf]; omega⟩
    · have hd : decide ((k : Int) < (l.length : Int)) = false := decide_eq_false (by omega)
      have hd' : decide (k < l.length) = false := decide_eq_false hlt
      have HF : Hid (decide (t ∈ l) = false) := by
        show _ = _
        refine decide_eq_false fun h => ?_
        obtain ⟨j, hj, e⟩ := List.getElem_of_mem h
        exact HN.out j hj (by omega) e
      clear HC HE HN
      go_wp2
      go_ret
      exact ⟨by rw [HF.out]; rfl, rfl⟩
/-- the ids of some texts, as the law takes them -/
def idL (xs : List ByteArray) : List Bs := (xs.take 20).map fun b => idB (fwB b)
theorem idL_bd (xs : List ByteArray) : (idL xs).length ≤ 20 ∧ ∀ i ∈ idL xs, i.length = 64 := by
  unfold idL
  refine ⟨by rw [List.length_map, List.length_take]; omega, fun i hi => ?_⟩
  obtain ⟨b, _, rfl⟩ := List.mem_map.1 hi
  exact idB_len _
def idP (xs : List ByteArray) (k : Nat) : List Bs := (xs.take k).map fun b => idB (fwB b)
theorem idP_succ {xs : List ByteArray} {k : Nat} (h : k < xs.length) : idP xs (k + 1) = idP xs k ++ [idB (fwB xs[k])] := by
  unfold idP
  rw [List.take_succ_eq_append_getElem h, List.map_append]
  rfl
set_option maxRecDepth 100000 in
set_option maxHeartbeats 2000000 in
theorem ids_any (xs : List ByteArray) (v : Value) (w : World) (hs : Strs w v xs) :
    Calls Tryz.prog 15 #[v] w fun e w' => ∃ v', e = .returned v' ∧ w'.ownsRow w.heap.size 9 1 v' (idL xs).length (txC (idL xs)) ∧ Keep (fun _ => False) w w' := by
  obtain ⟨ad, cap, rfl⟩ := strs_form hs
  have HC : Hid (∀ (k : Nat) (hk : k < xs.length), ∃ g off, ad = some ⟨g, off, none⟩ ∧ ∀ W, Keep (fun _ => False) w W → W.cell? ⟨g, off + k, none⟩ = some (.string xs[k])) := fun k hk => by
    obtain ⟨g, off, h1, h3, h2⟩ := strs_at hs k hk
    exact ⟨g, off, h1, fun W hW => (hW.cell h3 (fun h => h)).trans h2⟩
  have HS : Hid (∀ (k : Nat) (hk : k < xs.length), idP xs (k + 1) = idP xs k ++ [idB (fwB xs[k])]) := fun k hk => idP_succ hk
  have HPL : Hid (∀ k, k ≤ xs.length → (idP xs k).length = k) := fun k hk => by unfold idP; rw [List.length_map, List.length_take]; omega
  have HEN : Hid (∀ k, k ≤ 20 → k ≤ xs.length → (k = 20 ∨ k = xs.length) → idP xs k = idL xs) := fun k h1 h2 h3 => by
    unfold idP idL
    rcases h3 with rfl | rfl
    · rfl
    · rw [List.take_of_length_le (Nat.le_refl _), List.take_of_length_le (by omega)]
  have H0 : Hid (w.ownsRow w.heap.size 9 1 (.slice none 0 0) 0 (txC (idP xs 0))) := ⟨rfl, .inl ⟨rfl, rfl⟩⟩
  clear hs
  go_enter Tryz.func15, Tryz.ntmps15
  go_wp2
  go_loopw [3, 4] (fun o i wr => ∃ (k : Nat) (a2 : Option Addr) (cp : Nat), k ≤ xs.length ∧ k ≤ 20 ∧ o = .slice a2 k cp ∧ i = .int .i64 (k : Int) ∧ Hid (wr.ownsRow w.heap.size 9 1 (.slice a2 k cp) k (txC (idP xs k))) ∧ Hid (Keep (fun _ => False) w wr)) (fun _ i _ => 20 - (intOf i).toNat)
  case atStart => exact ⟨0, none, 0, Nat.zero_le _, Nat.zero_le _, rfl, rfl, H0, Keep.refl _ _⟩
  case round =>
    clear H0
    obtain ⟨k, a2, cp, hk, hk20, rfl, rfl, HO, HK⟩ := hrel
    by_cases hlt : k < xs.length
    · have n1 : decide ((k : Int) < (xs.length : Int)) = true := decide_eq_true (by omega)
      have n1' : decide (k < xs.length) = true := decide_eq_true hlt
      by_cases h2 : k < 20
      · have n2 : decide ((k : Int) < 20) = true := decide_eq_true (by omega)
        have n2' : decide (k < 20) = true := decide_eq_true h2
        obtain ⟨g, off, hva, hcel⟩ := HC.out k hlt
        have hcl := hcel wr HK.out
        have hk0 : (0 : Int) ≤ (k : Int) := by omega
        have hk1 : (k : Int) < (xs.length : Int) := by omega
        have HSk := hid (HS.out k hlt)
        have FW := hid (fun W : World => few_any xs[k] W)
        have RI := hid (fun W : World => rid_any (fwB xs[k]) W (by have := fwB_len xs[k]; omega))
        have HW : Hid (wrap64 ((k : Int) + 1) = (k : Int) + 1) := IntWalk.wrap64_in _ (by omega)
        have HLT := hid hlt
        have H2 := hid h2
        subst hva
        generalize fwB xs[k] = F at *
        generalize xs[k] = X at *
        obtain ⟨I, hI⟩ : ∃ I, I = tx (idB F) := ⟨_, rfl⟩
        have HTC : Hid (txC (idP xs (k + 1)) = txC (idP xs k) ++ [.string I]) := by show _ = _; rw [HSk.out, hI]; simp [txC]
        rw [← hI] at RI
        have HO1 : Hid (∀ u ∈ [Value.string I], u.oneCell' = true) := fun u hu => by simp at hu; rw [hu]; rfl
        have HB1 : Hid (k + 1 ≤ 70368744177) := by show _ ≤ _; omega
        have HB2 : Hid ((k + 1) * 16 ≤ 140737488355328) := by show _ ≤ _; omega
        have HOA : Hid (∀ W, Keep (fun _ => False) wr W → (W.alloc (Obj.cells #[.string I] 9)).ownsRow w.heap.size 9 1 (.slice a2 k cp) k (txC (idP xs k)) ∧ GSrc (W.alloc (Obj.cells #[.string I] 9)) (.slice (some ⟨W.heap.size, 0, none⟩) 1 1) 1 [.string I] ∧ w.heap.size ≤ (W.alloc (Obj.cells #[.string I] 9)).heap.size) := fun W hW => ⟨(keep_alloc (fun _ => False) _ _).ownsRow (hW.ownsRow HO.out (fun _ _ h => h)) (fun _ _ h => h), gsrc_block (heap_alloc_new _ _), ((HK.out.trans hW).trans (keep_alloc (fun _ => False) _ _)).size⟩
        have FIN : Hid (∀ (W : World) (ad' : Option Addr) (cap' : Nat) (w' : World), Keep (fun _ => False) wr W → w'.ownsRow w.heap.size 9 1 (.slice ad' (k + 1) cap') (k + 1) (txC (idP xs k) ++ [.string I]) → Keep (fun j => (Value.slice a2 k cp).ownBlock = some j) (W.alloc (Obj.cells #[.string I] 9)) w' → Hid (w'.ownsRow w.heap.size 9 1 (.slice ad' (k + 1) cap') (k + 1) (txC (idP xs (k + 1)))) ∧ Hid (Keep (fun _ => False) w w')) := fun W ad' cap' w' hW ho hk => ⟨by rw [HTC.out]; exact ho, ((HK.out.trans hW).trans (keep_alloc _ _ _)).then hk (fun j hj e => by have := ownsRow_ge HO.out e; omega)⟩
        clear hI HSk HO HK HTC HC HS HPL HEN hcel hlt h2 hk hk20
        go_wp2_with fail
        refine (FW.out _).mono ?_
        rintro e w2 ⟨rfl, rfl⟩
        clear FW
        go_wp2_with fail
        refine (RI.out _).mono ?_
        rintro e w3 ⟨rfl, hk3⟩
        have HO3 := hid (HOA.out w3 hk3).1
        have HG3 := hid (HOA.out w3 hk3).2.1
        have HB3 := hid (HOA.out w3 hk3).2.2
        have HK3 := hid hk3
        clear RI HOA hk3 hcl
        go_wp2_with (at_builtin; refine wpl_gapp rfl _ _ elStr rfl w.heap.size (.slice a2 k cp) _ (txC (idP xs k)) [.string I] k 1 (k + 1) rfl rfl rfl HO3.out HB3.out HG3.out rfl HO1.out HB1.out HB2.out ?_; intro ad' cap' w6 hr6 hk6)
        obtain ⟨f1, f2⟩ := FIN.out _ _ _ _ HK3.out hr6 hk6
        clear hr6 hk6 HO3 HG3 HB3 HK3 FIN
        go_wp2
        exact ⟨⟨k + 1, ad', cap', by have := HLT.out; omega, by have := H2.out; omega, rfl, by rw [HW.out]; rfl, f1, f2⟩, by have := H2.out; have hw := HW.out; rw [hw]; simp [intOf]; omega⟩
      · have n2 : decide ((k : Int) < 20) = false := decide_eq_false (by omega)
        have n2' : decide (k < 20) = false := decide_eq_false h2
        have HF : Hid (wr.ownsRow w.heap.size 9 1 (.slice a2 k cp) (idL xs).length (txC (idL xs))) := by
          have h1 := HEN.out k hk20 hk (.inl (by omega))
          have h3 := HPL.out k hk
          have h4 := HO.out
          rw [h1] at h3 h4
          rw [h3]
          exact h4
        clear HO HC HS HPL HEN
        go_wp2
        go_ret
        exact ⟨_, rfl, HF.out, HK.out⟩
    · have n1 : decide ((k : Int) < (xs.length : Int)) = false := decide_eq_false (by omega)
      have n1' : decide (k < xs.length) = false := decide_eq_false hlt
      have HF : Hid (wr.ownsRow w.heap.size 9 1 (.slice a2 k cp) (idL xs).length (txC (idL xs))) := by
        have h1 := HEN.out k hk20 hk (.inr (by omega))
        have h3 := HPL.out k hk
        have h4 := HO.out
        rw [h1] at h3 h4
        rw [h3]
        exact h4
      clear HO HC HS HPL HEN
      go_wp2
      go_ret
      exact ⟨_, rfl, HF.out, HK.out⟩
end Go.Proofs.YtedogofeibdjiaaGreat
namespace Go.Proofs.YtedogofeibdjiaaGreat
open Go.RowKit Go.Maps
set_option linter.unusedVariables false
set_option linter.unusedSimpArgs false

/-- a disk on which files were laid, not yet made sure -/
def wL (l : List (Bs × Bs)) : Ds := ⟨[], l.map (fun y => ⟨1, y.1, [], y.2, 0⟩), l.length, [], false, 0, false⟩
/-- which of the law's files are laid -/
def wOk (q : List (Bs × Bs)) : List (Bs × Bs) := q.filter fun y => nameOk y.1
/-- what is there then -/
def wA (l : List (Bs × Bs)) : List (Bs × Bs) := l.foldl (fun A y => kput A y.1 y.2) []
theorem wL_now (l : List (Bs × Bs)) : (wL l).now = wA l := by
  unfold Ds.now wL wA replay
  simp only
  rw [List.foldl_map]
  rfl
theorem wL_wt (l : List (Bs × Bs)) : (wL l).wt = (l.map fun y => y.2.length).sum := by
  unfold Ds.wt wL
  simp only
  rw [List.map_map]
  show tot [] + _ = _
  simp [tot]
  rfl
theorem wL_wr (l : List (Bs × Bs)) (y : Bs × Bs) : (wrD (wL l) y.1 y.2).1 = wL (l ++ wOk [y]) := by
  unfold wrD wOk
  cases h : nameOk y.1 with
  | false => simp [wL, h]
  | true => simp [wL, h, fitB, chgD, Ds.more]
theorem wOk_take {q : List (Bs × Bs)} {k : Nat} (h : k < q.length) : wOk (q.take (k + 1)) = wOk (q.take k) ++ wOk [q[k]] := by
  unfold wOk
  rw [List.take_succ_eq_append_getElem h, List.filter_append]
theorem wL_syn (l : List (Bs × Bs)) : synR (wL l) = (dR (wA l) [] l.length, 0) := by
  unfold synR
  rw [if_neg (by simp [wL])]
  unfold synD
  rw [wL_now]
  rfl
theorem wA_snoc (l : List (Bs × Bs)) (y : Bs × Bs) : wA (l ++ [y]) = kput (wA l) y.1 y.2 := by unfold wA; rw [List.foldl_append]; rfl
theorem wA_inv (P : Bs × Bs → Prop) : ∀ (l A : List (Bs × Bs)), Srt A → (∀ y ∈ A, P y) → (∀ y ∈ l, P y) → Srt (l.foldl (fun A y => kput A y.1 y.2) A) ∧ (∀ y ∈ l.foldl (fun A y => kput A y.1 y.2) A, P y) ∧ (l.foldl (fun A y => kput A y.1 y.2) A).length ≤ A.length + l.length
  | [], A, h1, h2, _ => ⟨h1, h2, Nat.le_refl _⟩
  | y :: r, A, h1, h2, h3 => by
    have hl := len_kput A y.1 y.2
    obtain ⟨a, b, c⟩ := wA_inv P r (kput A y.1 y.2) (srt_kput h1 _ _) (fun z hz => by
      rcases mem_kput.1 hz with rfl | ⟨hz, _⟩
      · exact h3 y (by simp)
      · exact h2 z hz) (fun z hz => h3 z (by simp [hz]))
    exact ⟨a, b, by simp only [List.foldl_cons, List.length_cons] at c ⊢; omega⟩
theorem tot_le : ∀ (A : List (Bs × Bs)), (∀ y ∈ A, y.2.length ≤ 1048576) → tot A ≤ A.length * 1048576
  | [], _ => by simp [tot]
  | y :: r, h => by
    have h1 := h y (by simp)
    have h2 := tot_le r (fun z hz => h z (by simp [hz]))
    simp only [tot, List.map_cons, List.sum_cons, List.length_cons] at h2 ⊢
    omega
theorem sum_le : ∀ (A : List (Bs × Bs)), (∀ y ∈ A, y.2.length ≤ 1048576) → (A.map fun y => y.2.length).sum ≤ A.length * 1048576
  | [], _ => by simp
  | y :: r, h => by
    have h1 := h y (by simp)
    have h2 := sum_le r (fun z hz => h z (by simp [hz]))
    simp only [List.map_cons, List.sum_cons, List.length_cons] at h2 ⊢
    omega
/-- what is known of the files that are there -/
structure WsOk (A : List (Bs × Bs)) : Prop where
  s : Srt A
  n : ∀ x ∈ A, nameOk x.1 = true
  z : ∀ y ∈ A, y.2.length ≤ 1048576
  l : A.length ≤ 12
theorem ws_ok {l : List (Bs × Bs)} (h : ∀ y ∈ l, nameOk y.1 = true ∧ y.2.length ≤ 1048576) (hl : l.length ≤ 12) : WsOk (wA l) := by
  obtain ⟨a, b, c⟩ := wA_inv (fun y => nameOk y.1 = true ∧ y.2.length ≤ 1048576) l [] srt_nil (by simp) h
  exact ⟨a, fun x hx => (b x hx).1, fun y hy => (b y hy).2, by simp at c; unfold wA; omega⟩
theorem WsOk.flt {A : List (Bs × Bs)} (h : WsOk A) (f : Bs × Bs → Bool) : WsOk (A.filter f) :=
  ⟨List.Pairwise.filter _ h.s, fun x hx => h.n x (List.mem_filter.1 hx).1, fun x hx => h.z x (List.mem_filter.1 hx).1, Nat.le_trans (List.length_filter_le _ _) h.l⟩
theorem WsOk.op {A : List (Bs × Bs)} (h : WsOk A) {n : Nat} (hn : n ≤ 100000) : OpOk (dR A [] n) :=
  opok_dR h.s h.n (by have := tot_le A h.z; have := h.l; omega) (fun y hy => Nat.le_trans (h.z y hy) (by omega)) (Nat.le_trans h.l (by omega)) hn
theorem dR_now0 (A : List (Bs × Bs)) (n : Nat) : (dR A [] n).now = A := by
  rw [dR_now]
  exact List.filter_eq_self.2 (fun _ _ => rfl)
theorem flt_flt (A : List (Bs × Bs)) : (A.filter roK).filter roK = A.filter roK ∧ ((A.filter roK).filter roN).length = 0 := by
  refine ⟨by rw [List.filter_filter]; congr 1; funext y; simp, ?_⟩
  rw [List.length_eq_zero_iff, List.filter_eq_nil_iff]
  intro y hy h2
  have h3 := (List.mem_filter.1 hy).2
  unfold roK at h3
  unfold roN at h2
  cases h4 : idOf y.1 <;> simp [h4] at h2 h3
  rw [h2.2] at h3
  simp at h3
/-- opening such a disk, and again -/
theorem open_ws {A : List (Bs × Bs)} (h : WsOk A) {n : Nat} : ∃ m, openD (dR A [] n) = (dR (A.filter roK) [] m, (A.filter roN).length, 0) ∧ openD (dR (A.filter roK) [] m) = (dR (A.filter roK) [] m, 0, 0) ∧ m ≤ n + 13 := by
  obtain ⟨e, h1, _, he⟩ := open_dR (n := n) h.s h.n
  have hl := h.l
  refine ⟨n + e, h1, ?_, by omega⟩
  obtain ⟨e2, h2, h3, _⟩ := open_dR (n := n + e) (h.flt roK).s (h.flt roK).n
  obtain ⟨f1, f2⟩ := flt_flt A
  rw [f1] at h2 h3
  rw [h3 rfl] at h2
  rw [f2] at h2
  exact h2
end Go.Proofs.YtedogofeibdjiaaGreat
