/- Joined: What a file's frames hold: extent's bodies; the small tests. Reading an extent: Get and Has at any disk. -/
import Derived.Test.YtedogofeibdjiaaGreatJoined14
import Derived.Test.YtedogofeibdjiaaGreatLaid
import Derived.Test.YtedogofeibdjiaaGreatJoined10
namespace Go.Proofs.YtedogofeibdjiaaGreat
open Go.RowKit Go.Maps Go.Shelf
set_option linter.unusedVariables false
set_option linter.unusedSimpArgs false

theorem joinX : Builder.Extra Tryz.prog joinLaid_ren := { sizeBuilder := by kernel_rfl, liesBuilder := by kernel_rfl, t5 := Tryz.underlying5, a5 := Tryz.isAgg5, z5 := Tryz.sizeOf5, v5 := Tryz.zeroValue5, infoByte := by kernel_rfl, cellsByte := by kernel_rfl, sizeByte := by kernel_rfl, neB5 := by decide }
theorem join_flat (l : List ByteArray) : Lib.join (l.map (·.data.toList)) [] = catB l := by
  cases l with
  | nil => rfl
  | cons x r =>
    rw [List.map_cons, Lib.join_cons]
    simp [Lib.joinTail, catB, Function.comp_def]
theorem join_any (l : List ByteArray) (v : Value) (w : World) (h : Strs w v l) (hcap : ∀ ad n c, v = .slice ad n c → n ≤ c) (hl : l.length ≤ 1073741824) (hc : (catB l).length ≤ 1073741824) :
    Calls Tryz.prog 87 #[v, .string ⟨#[]⟩] w fun e w' => e = .returned (.string (tx (catB l))) ∧ Keep (fun _ => False) w w' := by
  rcases h with ⟨rfl, ad, cap, rfl⟩ | ⟨b, off, cap, rfl, hb, hcell⟩
  · exact (Any.strings_Join_none joinLaid joinX ad cap ⟨#[]⟩ w).mono fun e w' ⟨he, hw⟩ => ⟨he, hw ▸ Keep.refl _ _⟩
  · have := Any.strings_Join joinLaid joinX b off cap l ⟨#[]⟩ w (fun j x hx => by
      obtain ⟨hj, hx2⟩ := List.getElem?_eq_some_iff.1 hx
      rw [hcell j hj]; simp [hj, hx2]) hb (by omega) (hcap _ _ _ rfl) (by
        show (Lib.join (l.map (·.data.toList)) []).length ≤ _
        rw [join_flat]; omega)
    refine this.mono fun e w' ⟨he, hb⟩ => ⟨?_, hb.keep _⟩
    rw [he]
    show Ending.returned (.string ⟨(Lib.join (l.map (·.data.toList)) []).toArray⟩) = _
    rw [join_flat]
theorem own_cap {w : World} {base n : Nat} {v : Value} {xs : List Value} (h : w.ownsRow base 9 1 v n xs) : ∀ ad m c, v = .slice ad m c → m ≤ c := by
  intro ad m c e
  rcases h.2 with ⟨e2, h0⟩ | ⟨g, cap, cur, e2, hg, hh, hn, r⟩
  · rw [e2] at e; injection e with _ h1 h2; omega
  · rw [e2] at e; injection e with _ h1 h2; omega
set_option maxRecDepth 100000 in
theorem bodies_any (file : Bs) (w : World) (hf : file.length ≤ 1073741824) : Calls Tryz.prog 64 #[.string (tx file)] w fun e w' => e = .returned (.string (tx (bodB file))) ∧ Keep (fun _ => False) w w' := by
  have FR := hid (frames_any (tx file) w (by rw [size_mk]; omega))
  obtain ⟨b1, b2⟩ := fs_small file
  have HJ : Hid (bodB file = catB (fs (tx file)).l) := rfl
  generalize tx file = T at *
  generalize fs T = G at *
  obtain ⟨l, to⟩ := G
  simp only at FR HJ b2
  have HB : Hid ((catB l).length ≤ 1073741824 ∧ l.length ≤ 1073741824) := ⟨by rw [← HJ.out]; omega, by omega⟩
  go_enter Tryz.func64, Tryz.ntmps64
  go_wp2_with fail
  refine FR.out.mono ?_
  rintro e w1 ⟨v, rfl, hr, hB1⟩
  have HK1 := hid (below_keep hB1)
  have JN := hid (join_any l v w1 (Strs.own hr) (own_cap hr) HB.out.2 HB.out.1)
  obtain ⟨ad, cap, rfl⟩ := row_form hr
  clear hr hB1 FR HB
  go_wp2_with fail
  refine JN.out.mono ?_
  rintro e w2 ⟨rfl, hk2⟩
  have HK2 := hid (HK1.out.trans hk2)
  clear hk2 HK1 JN
  go_wp2
  go_ret
  exact ⟨by rw [HJ.out]; rfl, HK2.out⟩
/-- may bytes be an extent? -/
def isExtB (s : Bs) : Bool := decide (s ≠ [] ∧ s.length ≤ 4096)
set_option maxRecDepth 100000 in
theorem isExtent_any (s : Bs) (w : World) : Calls Tryz.prog 65 #[.string (tx s)] w fun e w' => e = .returned (.bool (isExtB s)) ∧ w' = w := by
  have hz : (tx s).size = s.length := size_mk s
  obtain ⟨b, hb⟩ : ∃ b, b = isExtB s := ⟨_, rfl⟩
  rw [← hb]
  by_cases h0 : s = []
  · have he : (tx s).toList.isEmpty = true := by rw [tx_toList, h0]; rfl
    have he2 : (tx s).toList = [] := by rw [tx_toList, h0]
    have HB : Hid (b = false) := by show _ = _; rw [hb]; exact decide_eq_false (fun h => h.1 h0)
    clear hb
    generalize tx s = T at *
    go_enter Tryz.func65, Tryz.ntmps65
    go_wp2
    go_ret
    exact ⟨by rw [HB.out]; rfl, rfl⟩
  · have he : ¬ (tx s).toList = [] := fun e => by rw [tx_toList] at e; exact h0 e
    have he2 : (tx s).toList.isEmpty = false := by rw [tx_toList]; cases s with
      | nil => exact absurd rfl h0
      | cons _ _ => rfl
    by_cases hl : s.length ≤ 4096
    · have h1 : ((tx s).size : Int) ≤ 4096 := by omega
      have HB : Hid (b = true) := by show _ = _; rw [hb]; exact decide_eq_true ⟨h0, hl⟩
      clear hb hz hl h0
      generalize tx s = T at *
      go_enter Tryz.func65, Tryz.ntmps65
      go_wp2
      go_ret
      exact ⟨by rw [HB.out]; rfl, rfl⟩
    · have h1 : ¬ ((tx s).size : Int) ≤ 4096 := by omega
      have h2 : decide (((tx s).size : Int) ≤ 4096) = false := decide_eq_false h1
      have HB : Hid (b = false) := by show _ = _; rw [hb]; exact decide_eq_false (fun h => hl h.2)
      clear hb hz hl h0
      generalize tx s = T at *
      go_enter Tryz.func65, Tryz.ntmps65
      go_wp2
      go_ret
      exact ⟨by rw [HB.out]; rfl, rfl⟩
theorem cutP_any (s p : Bs) (w : World) : Calls Tryz.prog 58 #[.string (tx s), .string (tx p)] w fun e w' => e = .returned (.tuple #[.string (tx (if p.isPrefixOf s then s.drop p.length else s)), .bool (p.isPrefixOf s)]) ∧ w' = w := by
  have := Any.strings_CutPrefix cutLaid (tx s) (tx p) w
  rw [tx_list, tx_list] at this
  exact this
end Go.Proofs.YtedogofeibdjiaaGreat
namespace Go.Proofs.YtedogofeibdjiaaGreat
open Go.RowKit Go.Maps
set_option linter.unusedVariables false
set_option linter.unusedSimpArgs false

/-- a store of the disk at p -/
def StIs (w : World) (x p : Nat) : Prop := w.cell? ⟨x, 0, none⟩ = some (.pointer (some ⟨p, 0, none⟩))
theorem StIs.lt {w : World} {x p : Nat} (h : StIs w x p) : x < w.heap.size := World.block_lt_of_cell? _ _ h
theorem StIs.keep {w w' : World} {x p : Nat} (h : StIs w x p) (k : Keep (fun _ => False) w w') : StIs w' x p := (k.cell h.lt (fun h => h)).trans h
set_option maxRecDepth 100000 in
theorem isNone_any (x p : Nat) (w : World) (h : StIs w x p) : Calls Tryz.prog 40 #[.pointer (some ⟨x, 0, none⟩)] w fun e w' => e = .returned (.bool false) ∧ w' = w := by
  have hc : w.cell? ⟨x, 0, none⟩ = some (.pointer (some ⟨p, 0, none⟩)) := h
  go_enter Tryz.func40, Tryz.ntmps40
  go_wp2
  go_ret
  exact ⟨rfl, rfl⟩
set_option maxRecDepth 100000 in
theorem isNone_nil (w : World) : Calls Tryz.prog 40 #[.pointer none] w fun e w' => e = .returned (.bool true) ∧ w' = w := by
  go_enter Tryz.func40, Tryz.ntmps40
  go_wp2
  go_ret
  exact ⟨rfl, rfl⟩
/-- an extent's file's name -/
def enm (id : Bs) : Bs := 101 :: 46 :: id
/-- what Get tells of a disk -/
def getD (d : Ds) (id : Bs) : Bs × Int :=
  if isIdB id = false then ([], 1)
  else if (rdD d (enm id)).2 ≠ 0 then ([], (rdD d (enm id)).2)
  else match rightB id (rdD d (enm id)).1 with
    | some J => (J, 0)
    | none => ([], 10)
theorem enm_add (id : Bs) (W : World) (h : id.length ≤ 1073741824) : (Op.stringOp .add ⟨#[101, 46]⟩ (tx id)).run Tryz.prog W = .ok (.string (tx (enm id))) W := by
  have e : tx (enm id) = ⟨#[101, 46]⟩ ++ tx id := by rw [show (⟨#[101, 46]⟩ : ByteArray) = tx [101, 46] from rfl, txs_append]; rfl
  rw [e]
  exact run_string_add_sum (P := Tryz.prog) (w := W) _ _ (by have h9 : (tx id).size = id.length := size_mk id; show 2 + (tx id).size ≤ _; omega)
theorem ret_two {a : Value} {i j : Int} (h : i = j) : Ending.returned (.tuple #[a, .int .i64 i]) = .returned (.tuple #[a, .int .i64 j]) := by rw [h]
theorem cmp_no (X Y : Bs) (h : X ≠ Y) : ((tx X).toList == (tx Y).toList) = false ∧ ((tx X).toList != (tx Y).toList) = true ∧ ¬ (tx X).toList = (tx Y).toList := by
  have h1 : ¬ (tx X).toList = (tx Y).toList := by rw [tx_toList, tx_toList]; exact h
  exact ⟨beq_eq_false_iff_ne.2 h1, bne_iff_ne.2 h1, h1⟩
theorem cmp_yes (X Y : Bs) (h : X = Y) : ((tx X).toList == (tx Y).toList) = true ∧ ((tx X).toList != (tx Y).toList) = false ∧ (tx X).toList = (tx Y).toList := by
  subst h
  exact ⟨beq_self_eq_true _, (by simp), rfl⟩
set_option maxRecDepth 100000 in
set_option maxHeartbeats 4000000 in
theorem xget_any (x p : Nat) (c : Nat → Nat) (d : Ds) (id : Bs) (w : World) (hx : StIs w x p) (h : DiskIs w c p d) (hid1 : id.length ≤ 1073741824) (hf : (rdD d (enm id)).1.length ≤ 1073741824) :
    Calls Tryz.prog 37 #[.pointer (some ⟨x, 0, none⟩), .string (tx id)] w fun e w' => e = .returned (.tuple #[.string (tx (getD d id).1), .int .i64 (getD d id).2]) ∧ Keep (fun _ => False) w w' := by
  have NN := hid (isNone_any x p w hx)
  have IS := hid (isID_any id w hid1)
  have RD := hid (fun (W : World) (k : Keep (fun _ => False) w W) => read_any p (fun j => if j < w.heap.size then c j else 7) d (enm id) W (h.keep k (fun j hj => if_pos hj) (fun _ _ h => h.elim)))
  have HX := hid hx
  have hadd := fun W => enm_add id W hid1
  have HG : Hid (getD d id = if isIdB id = false then ([], 1) else if (rdD d (enm id)).2 ≠ 0 then ([], (rdD d (enm id)).2) else match rightB id (rdD d (enm id)).1 with
    | some J => (J, 0)
    | none => ([], 10)) := rfl
  generalize getD d id = q at *
  generalize rdD d (enm id) = r at *
  generalize tx (enm id) = EN at *
  obtain ⟨f, er⟩ := r
  simp only at RD HG hf
  clear h hx
  cases hb : isIdB id with
  | false =>
    rw [hb] at IS HG
    have HG2 : Hid (q = ([], 1)) := by have := HG.out; rw [if_pos rfl] at this; exact this
    clear HG RD hadd
    generalize tx id = I at *
    go_enter Tryz.func37, Tryz.ntmps37
    go_wp2_with fail
    refine NN.out.mono ?_
    rintro e w1 ⟨rfl, rfl⟩
    go_wp2_with fail
    refine IS.out.mono ?_
    rintro e w2 ⟨rfl, hk2⟩
    have HK2 := hid hk2
    clear hk2 IS NN
    go_wp2
    go_ret2
    exact ⟨by rw [HG2.out]; rfl, HK2.out⟩
  | true =>
    rw [hb] at IS HG
    have hid64 : id.length = 64 := by
      unfold isIdB at hb
      rw [Bool.and_eq_true] at hb
      exact of_decide_eq_true hb.1
    have HG1 : Hid (q = if er ≠ 0 then ([], er) else match rightB id f with
      | some J => (J, 0)
      | none => ([], 10)) := by have := HG.out; rw [if_neg (by decide)] at this; exact this
    clear HG hb
    by_cases he0 : er = 0
    · subst he0
      have HG2 : Hid (q = match rightB id f with
        | some J => (J, 0)
        | none => ([], 10)) := by have := HG1.out; rw [if_neg (by simp)] at this; exact this
      have HR : Hid (rightB id f = if bodB f ≠ [] ∧ (bodB f).length ≤ 4096 ∧ filB (bodB f) = f ∧ idB (bodB f) = id then some (bodB f) else none) := rfl
      have BO := hid (fun W : World => bodies_any f W hf)
      generalize bodB f = J at *
      have IE := hid (fun W : World => isExtent_any J W)
      clear HG1
      cases hie : isExtB J with
      | false =>
        have HQ : Hid (q = ([], 10)) := by
          have h9 := HG2.out
          rw [HR.out, if_neg (by rintro ⟨h1, h2, _⟩; have := of_decide_eq_false hie; exact this ⟨h1, h2⟩)] at h9
          exact h9
        rw [hie] at IE
        clear HG2 HR hie
        generalize tx id = I at *
        generalize tx f = F at *
        generalize tx J = A at *
        go_enter Tryz.func37, Tryz.ntmps37
        go_wp2_with fail
        refine NN.out.mono ?_
        rintro e w1 ⟨rfl, rfl⟩
        go_wp2_with fail
        refine IS.out.mono ?_
        rintro e w2 ⟨rfl, hk2⟩
        have hcx : w2.cell? ⟨x, 0, none⟩ = some (.pointer (some ⟨p, 0, none⟩)) := HX.out.keep hk2
        have HK2 := hid hk2
        clear hk2 IS NN
        go_wp2_with fail
        refine (RD.out _ HK2.out).mono ?_
        rintro e w3 ⟨rfl, hk3⟩
        have HK3 := hid (HK2.out.trans hk3)
        clear hk3 RD HK2 hcx
        go_wp2_with fail
        refine (BO.out _).mono ?_
        rintro e w4 ⟨rfl, hk4⟩
        have HK4 := hid (HK3.out.trans hk4)
        clear hk4 BO HK3
        go_wp2_with fail
        refine (IE.out _).mono ?_
        rintro e w5 ⟨rfl, rfl⟩
        clear IE
        go_wp2
        go_ret2
        exact ⟨by rw [HQ.out]; rfl, HK4.out⟩
      | true =>
        obtain ⟨hJ0, hJ1⟩ := of_decide_eq_true hie
        rw [hie] at IE
        have FT := hid (fun W : World => fileText_any J W (by omega))
        have IT := hid (fun W : World => id_any J W (by omega))
        by_cases hfl : ¬ filB J = f
        · obtain ⟨q1, q2, q3⟩ := cmp_no _ _ hfl
          have HQ : Hid (q = ([], 10)) := by
            have h9 := HG2.out
            rw [HR.out, if_neg (by rintro ⟨_, _, h1, _⟩; exact hfl h1)] at h9
            exact h9
          clear HG2 HR hie hfl IT
          generalize tx id = I at *
          generalize tx f = F at *
          generalize tx (filB J) = D at *
          generalize tx J = A at *
          go_enter Tryz.func37, Tryz.ntmps37
          go_wp2_with fail
          refine NN.out.mono ?_
          rintro e w1 ⟨rfl, rfl⟩
          go_wp2_with fail
          refine IS.out.mono ?_
          rintro e w2 ⟨rfl, hk2⟩
          have hcx : w2.cell? ⟨x, 0, none⟩ = some (.pointer (some ⟨p, 0, none⟩)) := HX.out.keep hk2
          have HK2 := hid hk2
          clear hk2 IS NN
          go_wp2_with fail
          refine (RD.out _ HK2.out).mono ?_
          rintro e w3 ⟨rfl, hk3⟩
          have HK3 := hid (HK2.out.trans hk3)
          clear hk3 RD HK2 hcx
          go_wp2_with fail
          refine (BO.out _).mono ?_
          rintro e w4 ⟨rfl, hk4⟩
          have HK4 := hid (HK3.out.trans hk4)
          clear hk4 BO HK3
          go_wp2_with fail
          refine (IE.out _).mono ?_
          rintro e w5 ⟨rfl, rfl⟩
          clear IE
          go_wp2_with fail
          refine (FT.out _).mono ?_
          rintro e w6 ⟨rfl, hk6⟩
          have HK6 := hid (HK4.out.trans hk6)
          clear hk6 FT HK4
          go_wp2
          go_ret2
          exact ⟨by rw [HQ.out]; rfl, HK6.out⟩
        · have hfl2 : filB J = f := Classical.not_not.1 hfl
          obtain ⟨q1, q2, q3⟩ := cmp_yes _ _ hfl2
          have HQ : ∃ (z : Bool) (o : Bs) (er2 : Int), Hid (q = (o, er2)) ∧ ((tx (idB J)).toList == (tx id).toList) = z ∧ ((tx (idB J)).toList != (tx id).toList) = !z ∧ Hid ((if z then (tx J) else ⟨#[]⟩) = tx o) ∧ Hid ((if z then 0 else 10) = er2) := by
            by_cases hii : idB J = id
            · obtain ⟨p1, p2, p3⟩ := cmp_yes _ _ hii
              refine ⟨true, J, 0, ?_, p1, p2, rfl, rfl⟩
              have h9 := HG2.out
              rw [HR.out, if_pos ⟨hJ0, hJ1, hfl2, hii⟩] at h9
              exact h9
            · obtain ⟨p1, p2, p3⟩ := cmp_no _ _ hii
              refine ⟨false, [], 10, ?_, p1, p2, rfl, rfl⟩
              have h9 := HG2.out
              rw [HR.out, if_neg (by rintro ⟨_, _, _, h1⟩; exact hii h1)] at h9
              exact h9
          obtain ⟨z, o, er2, HQ, z1, z2, HZ, HZ2⟩ := HQ
          clear HG2 HR hie hfl hfl2
          generalize tx id = I at *
          generalize tx f = F at *
          generalize tx (filB J) = D at *
          generalize tx (idB J) = E at *
          generalize tx J = A at *
          go_enter Tryz.func37, Tryz.ntmps37
          go_wp2_with fail
          refine NN.out.mono ?_
          rintro e w1 ⟨rfl, rfl⟩
          go_wp2_with fail
          refine IS.out.mono ?_
          rintro e w2 ⟨rfl, hk2⟩
          have hcx : w2.cell? ⟨x, 0, none⟩ = some (.pointer (some ⟨p, 0, none⟩)) := HX.out.keep hk2
          have HK2 := hid hk2
          clear hk2 IS NN
          go_wp2_with fail
          refine (RD.out _ HK2.out).mono ?_
          rintro e w3 ⟨rfl, hk3⟩
          have HK3 := hid (HK2.out.trans hk3)
          clear hk3 RD HK2 hcx
          go_wp2_with fail
          refine (BO.out _).mono ?_
          rintro e w4 ⟨rfl, hk4⟩
          have HK4 := hid (HK3.out.trans hk4)
          clear hk4 BO HK3
          go_wp2_with fail
          refine (IE.out _).mono ?_
          rintro e w5 ⟨rfl, rfl⟩
          clear IE
          go_wp2_with fail
          refine (FT.out _).mono ?_
          rintro e w6 ⟨rfl, hk6⟩
          have HK6 := hid (HK4.out.trans hk6)
          clear hk6 FT HK4
          go_wp2_with fail
          refine (IT.out _).mono ?_
          rintro e w7 ⟨rfl, hk7⟩
          have HK7 := hid (HK6.out.trans hk7)
          clear hk7 IT HK6
          cases z with
          | true =>
            have z3 : E.toList = I.toList := by simpa using z1
            go_wp2
            go_ret2
            refine ⟨?_, HK7.out⟩
            rw [HQ.out]
            show _ = Ending.returned (.tuple #[.string (tx o), .int .i64 er2])
            rw [← HZ.out, ← HZ2.out]; rfl
          | false =>
            have z3 : ¬ E.toList = I.toList := by simpa using z1
            go_wp2
            go_ret2
            refine ⟨?_, HK7.out⟩
            rw [HQ.out]
            show _ = Ending.returned (.tuple #[.string (tx o), .int .i64 er2])
            rw [← HZ.out, ← HZ2.out]; rfl
    · have hne : (er != 0) = true := by rw [bne_iff_ne]; exact he0
      have HQ : Hid (q = ([], er)) := by have := HG1.out; rw [if_pos he0] at this; exact this
      clear HG1 he0 hf
      generalize tx id = I at *
      generalize tx f = F at *
      go_enter Tryz.func37, Tryz.ntmps37
      go_wp2_with fail
      refine NN.out.mono ?_
      rintro e w1 ⟨rfl, rfl⟩
      go_wp2_with fail
      refine IS.out.mono ?_
      rintro e w2 ⟨rfl, hk2⟩
      have hcx : w2.cell? ⟨x, 0, none⟩ = some (.pointer (some ⟨p, 0, none⟩)) := HX.out.keep hk2
      have HK2 := hid hk2
      clear hk2 IS NN
      go_wp2_with fail
      refine (RD.out _ HK2.out).mono ?_
      rintro e w3 ⟨rfl, hk3⟩
      have HK3 := hid (HK2.out.trans hk3)
      clear hk3 RD HK2 hcx
      go_wp2
      go_ret2
      exact ⟨by rw [HQ.out]; rfl, HK3.out⟩
set_option maxRecDepth 100000 in
theorem xhas_any (x p : Nat) (c : Nat → Nat) (d : Ds) (id : Bs) (w : World) (hx : StIs w x p) (h : DiskIs w c p d) (hid1 : id.length ≤ 1073741824) (hf : (rdD d (enm id)).1.length ≤ 1073741824) :
    Calls Tryz.prog 34 #[.pointer (some ⟨x, 0, none⟩), .string (tx id)] w fun e w' => e = .returned (.bool (decide ((getD d id).2 = 0))) ∧ Keep (fun _ => False) w w' := by
  have GE := hid (xget_any x p c d id w hx h hid1 hf)
  generalize getD d id = q at *
  obtain ⟨o, er⟩ := q
  simp only at GE ⊢
  generalize tx id = I at *
  generalize tx o = O at *
  clear h hx hf
  obtain ⟨b, hb⟩ : ∃ b, b = decide (er = 0) := ⟨_, rfl⟩
  rw [← hb]
  by_cases h0 : er = 0
  · have HB : Hid (b = true) := by show _ = _; rw [hb]; exact decide_eq_true h0
    subst h0
    clear hb
    go_enter Tryz.func34, Tryz.ntmps34
    go_wp2_with fail
    refine GE.out.mono ?_
    rintro e w1 ⟨rfl, hk1⟩
    have HK := hid hk1
    clear GE hk1
    go_wp2
    go_ret
    exact ⟨by rw [HB.out]; rfl, HK.out⟩
  · have HB : Hid (b = false) := by show _ = _; rw [hb]; exact decide_eq_false h0
    have hn : (er == 0) = false := beq_eq_false_iff_ne.2 h0
    clear hb h0
    go_enter Tryz.func34, Tryz.ntmps34
    go_wp2_with fail
    refine GE.out.mono ?_
    rintro e w1 ⟨rfl, hk1⟩
    have HK := hid hk1
    clear GE hk1
    go_wp2
    go_ret
    exact ⟨by rw [HB.out]; rfl, HK.out⟩
end Go.Proofs.YtedogofeibdjiaaGreat
