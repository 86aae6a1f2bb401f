/- Which pairs a text says: the document's Unquery. -/
import Derived.Test.YtnohkhgoejjfhaaDoorPeU
import Derived.Test.YtnohkhgoejjfhaaDoorPeH
import Derived.Deep.RegionHeld3
namespace Go.Proofs.YtnohkhgoejjfhaaDoor
open Go.RowKit Go.Maps Go.Shelf
set_option linter.unusedVariables false
set_option linter.unusedSimpArgs false

/-- what a call of the document's Unquery gives -/
def GiveW (w : World) (l : List Pq) (n : Nat) (e : Ending) (w' : World) : Prop := ∃ ad cap, e = .returned (.tuple #[.slice ad l.length cap, .int .i64 n]) ∧ w'.ownsRow w.heap.size 57 2 (.slice ad l.length cap) l.length (pqC l) ∧ Below w.heap.size w w'
theorem own_nilR (w : World) (B : Nat) : w.ownsRow B 57 2 (.slice none 0 0) 0 (pqC []) := ⟨rfl, .inl ⟨rfl, rfl⟩⟩
theorem cut_at (b : UInt8) (x : List UInt8) (j : Nat) (hj : j < x.length) (hno : ∀ i (hi : i < x.length), i < j → x[i] ≠ b) (hb : x[j] = b) : cutB b x = (x.take j, x.drop (j + 1)) := by
  have e : x = x.take j ++ b :: x.drop (j + 1) := by rw [← hb, ← List.drop_eq_getElem_cons hj, List.take_append_drop]
  have := cutB_app b (x.take j) (x.drop (j + 1)) (fun y hy => by
    obtain ⟨i, hi, rfl⟩ := List.mem_iff_getElem.1 hy
    rw [List.length_take] at hi
    rw [List.getElem_take]
    exact hno i (by omega) (by omega))
  rw [← e] at this
  exact this
theorem cut_end (b : UInt8) (x : List UInt8) (hno : ∀ i (hi : i < x.length), i < x.length → x[i] ≠ b) : cutB b x = (x.take x.length, x.drop (x.length + 1)) := by
  rw [cutB_no b x (fun y hy => by obtain ⟨i, hi, rfl⟩ := List.mem_iff_getElem.1 hy; exact hno i hi hi), List.take_length, List.drop_eq_nil_of_le (by omega)]
theorem rb_none (raw : UInt8 → Option UInt8) (t : List UInt8) (h : (rbE raw t).2 = false) : rdE raw t = none := by
  unfold rbE at h
  cases hr : rdE raw t with
  | none => rfl
  | some l => rw [hr] at h; cases h
theorem rb_some (raw : UInt8 → Option UInt8) (t : List UInt8) (h : (rbE raw t).2 = true) : rdE raw t = some (rbE raw t).1 := by
  unfold rbE at *
  cases hr : rdE raw t with
  | none => rw [hr] at h; cases h
  | some l => rfl
/-- what a part says, from where it is cut -/
theorem rq_zero (x : List UInt8) (j : Nat) (hc : cutB 61 x = (x.take j, x.drop (j + 1))) (h : j = 0) : rdPq x = none := by unfold rdPq; rw [hc, h]; simp
theorem rq_name (x : List UInt8) (j : Nat) (hc : cutB 61 x = (x.take j, x.drop (j + 1))) (h : (rbE rwQ (x.take j)).2 = false) : rdPq x = none := by
  unfold rdPq; rw [hc]; simp only [rb_none _ _ h]; split <;> rfl
theorem rq_value (x : List UInt8) (j : Nat) (hc : cutB 61 x = (x.take j, x.drop (j + 1))) (h : (rbE rwQ (x.drop (j + 1))).2 = false) : rdPq x = none := by
  unfold rdPq; rw [hc]; simp only [rb_none _ _ h]
  split
  · rfl
  · cases rdE rwQ (x.take j) <;> rfl
theorem rq_ok (x : List UInt8) (j : Nat) (hj : j ≤ x.length) (hc : cutB 61 x = (x.take j, x.drop (j + 1))) (h0 : ¬ j = 0) (h1 : (rbE rwQ (x.take j)).2 = true) (h2 : (rbE rwQ (x.drop (j + 1))).2 = true) : rdPq x = some ((rbE rwQ (x.take j)).1, (rbE rwQ (x.drop (j + 1))).1) := by
  unfold rdPq; rw [hc]
  have hne : ¬ x.take j = [] := fun e => by have := congrArg List.length e; rw [List.length_take, List.length_nil] at this; omega
  simp only [rb_some _ _ h1, rb_some _ _ h2]
  rw [if_neg hne]
theorem below_on2 {n : Nat} {a w W : World} (h : Below n a w) (k : Below w.heap.size w W) (hn : n ≤ w.heap.size := by exact Nat.le_refl _) : Below n a W := h.trans (k.mono hn)
theorem split_len (b : UInt8) (t : List UInt8) : ∀ x ∈ splitB b t, x.length ≤ t.length := by
  induction t with
  | nil => intro x hx; simp [splitB] at hx; subst hx; simp
  | cons c r ih =>
    intro x hx
    rw [splitB] at hx
    split at hx
    · rcases List.mem_cons.1 hx with rfl | hx
      · simp
      · have := ih x hx; simp; omega
    · cases hs : splitB b r with
      | nil => exact absurd hs (splitB_ne b r)
      | cons y q =>
        rw [hs] at hx ih
        rcases List.mem_cons.1 hx with rfl | hx
        · have := ih y (by simp); simp; omega
        · have := ih x (List.mem_cons_of_mem _ hx); simp; omega
set_option maxRecDepth 100000 in
set_option maxHeartbeats 8000000 in
theorem runquery_any (t : ByteArray) (w : World) (hs : t.size ≤ 1048576) : Calls Tryd.prog 19 #[.string t] w (GiveW w (unT t.data.toList).1 (unT t.data.toList).2) := by
  have PA := hid (fun W => rparts_any t 38 W hs)
  have hb := emp_b t.data.toList
  rw [ba_id] at hb
  by_cases he : t.data.toList = []
  · have hb2 : (t.toList == []) = true := by rw [hb]; exact decide_eq_true he
    have HU := hid (unT_nil _ he)
    generalize unT t.data.toList = U at *
    clear hb he PA hs
    go_enter Tryd.func19, Tryd.ntmps19
    go_wp2
    go_ret2
    exact ⟨none, 0, by rw [HU.out]; rfl, by rw [HU.out]; exact own_nilR _ _, Below.refl _ _⟩
  · have hb2 : (t.toList == []) = false := by rw [hb]; exact decide_eq_false he
    have hcs := count_split 38 t.data.toList
    by_cases hc : 16 ≤ Lib.countByte t.data.toList 38
    · have HU := hid (unT_many _ he hc)
      have hd : (16 : Int) < (((splitB 38 t.data.toList).length : Nat) : Int) := by omega
      generalize unT t.data.toList = U at *
      generalize splitB 38 t.data.toList = X at *
      clear hb he hs hc hcs
      go_enter Tryd.func19, Tryd.ntmps19
      go_wp2_with fail
      refine (PA.out _).mono ?_
      rintro e w1 ⟨ad, cap, rfl, ho, b1⟩
      have HE := hid b1
      clear PA ho b1
      go_wp2
      go_ret2
      exact ⟨none, 0, by rw [HU.out]; rfl, by rw [HU.out]; exact own_nilR _ _, HE.out⟩
    · have hd : ¬ (16 : Int) < (((splitB 38 t.data.toList).length : Nat) : Int) := by omega
      have HUB := hid (unT_bad _ he hc)
      have HUO := hid (unT_ok _ he hc)
      have HL16 : Hid ((splitB 38 t.data.toList).length ≤ 16) := by show _ ≤ _; omega
      have HXL : Hid (∀ k (hk : k < (splitB 38 t.data.toList).length), ((splitB 38 t.data.toList)[k]).length ≤ 1048576) := fun k hk => by
        have := split_len 38 t.data.toList _ (List.getElem_mem hk)
        have hl : t.data.toList.length = t.size := by simp
        omega
      generalize unT t.data.toList = U at *
      generalize splitB 38 t.data.toList = X at *
      clear hb he hs hc hcs
      go_enter Tryd.func19, Tryd.ntmps19
      go_wp2_with fail
      refine (PA.out _).mono ?_
      rintro e w1 ⟨ad, cap, rfl, ho, b1⟩
      have HC : Hid (∀ k (hk : k < X.length), ∃ b off, ad = some ⟨b, off, none⟩ ∧ b < w1.heap.size ∧ w1.cell? ⟨b, off + k, none⟩ = some (.string ⟨X[k].toArray⟩)) := fun k hk => by
        obtain ⟨ad2, cap2, e2, hcell⟩ := RowC.form (RowC.own ho)
        injection e2 with e3 _ _
        subst e3
        exact hcell k _ (by simp [bsC, hk])
      have HB1 := hid b1
      have HR0 : Hid (w1.ownsRow w1.heap.size 57 2 (.slice none 0 0) 0 (pqC [])) := own_nilR _ _
      clear PA ho b1
      go_wp2
      go_loopw [5, 6] (fun o i wr => ∃ (k : Nat) (ad1 : Option Addr) (cp1 : Nat) (acc : List Pq), k ≤ X.length ∧ o = .slice ad1 k cp1 ∧ i = .int .i64 (k : Int) ∧ Hid (acc.length = k) ∧ Hid (wr.ownsRow w1.heap.size 57 2 (.slice ad1 k cp1) k (pqC acc)) ∧ Hid (Below w1.heap.size w1 wr) ∧ Hid (rdPqs (X.take k) = some acc)) (fun _ i _ => X.length - (intOf i).toNat)
      case atStart => exact ⟨0, none, 0, [], Nat.zero_le _, rfl, rfl, rfl, HR0, Below.refl _ _, rfl⟩
      case round =>
        clear HR0
        obtain ⟨k, ad1, cp1, acc, hk, rfl, rfl, HAL, HR, HB, HP⟩ := hrel
        rename World => wr
        by_cases hlt : k < X.length
        · have hk1 : (k : Int) < (X.length : Int) := by omega
          have hk0 : (0 : Int) ≤ (k : Int) := by omega
          obtain ⟨b, off, rfl, hbb, c0⟩ := HC.out k hlt
          have d0 := (HB.out.cell (p := ⟨b, off + k, none⟩) hbb).trans c0
          have hwk : wrap64 ((k : Int) + 1) = ((k + 1 : Nat) : Int) := by have := HL16.out; rw [IntWalk.wrap64_in _ (by omega)]; omega
          have HXB : Hid (rdPq X[k] = none → U = ([], 3)) := fun h => HUB.out (rdPqs_bad _ _ (List.getElem_mem hlt) h)
          have HXS : Hid (∀ p, rdPq X[k] = some p → rdPqs (X.take (k + 1)) = some (acc ++ [p])) := fun p hp => by
            rw [List.take_succ_eq_append_getElem hlt]; exact rdPqs_snoc _ acc _ p HP.out hp
          have hxl := HXL.out k hlt
          have HBB : Hid (b < wr.heap.size) := Nat.lt_of_lt_of_le hbb HB.out.size
          have HB16 : Hid (k + 1 ≤ 4611686018427387904) := by have := HL16.out; show _ ≤ _; omega
          have HB17 : Hid ((k + 1) * 32 ≤ 140737488355328) := by have := HL16.out; show _ ≤ _; omega
          have HLT := hid hlt
          clear HC c0 hbb HUB HUO HP HL16 HXL HLT
          generalize X[k] = x at *
          have HLT := hid hlt
          clear hlt hk
          obtain ⟨XA, HXA⟩ : ∃ XA : ByteArray, Hid (XA = ⟨x.toArray⟩) := ⟨_, rfl⟩
          have hxs : XA.size = x.length := by rw [HXA.out, ba_size]
          have hxd : XA.data.toList = x := by rw [HXA.out]
          rw [← HXA.out] at d0
          have RA : Hid (∀ (j : Nat) (W : World), j ≤ XA.size → Calls Tryd.prog 26 #[.string (XA.extract 0 j), .int .u8 0, .bool true] W fun e w' => e = .returned (.tuple #[.string ⟨(rbE rwQ (x.take j)).1.toArray⟩, .bool (rbE rwQ (x.take j)).2]) ∧ Below W.heap.size W w') := fun j W hj => by
            have := read_query (XA.extract 0 j) W (by rw [ext_take XA j hj, ba_size, hxd, List.length_take]; omega)
            rw [ext_take XA j hj, ba_list, hxd] at this
            rw [ext_take XA j hj, hxd]
            exact this
          have RB : Hid (∀ (j m : Nat) (W : World), m = min (j + 1) XA.size → Calls Tryd.prog 26 #[.string (XA.extract m XA.size), .int .u8 0, .bool true] W fun e w' => e = .returned (.tuple #[.string ⟨(rbE rwQ (x.drop (j + 1))).1.toArray⟩, .bool (rbE rwQ (x.drop (j + 1))).2]) ∧ Below W.heap.size W w') := fun j m W hm => by
            have e : x.drop m = x.drop (j + 1) := by
              by_cases h : j + 1 ≤ XA.size
              · rw [show m = j + 1 by omega]
              · rw [List.drop_eq_nil_of_le (by omega), List.drop_eq_nil_of_le (by omega)]
            have := read_query (XA.extract m XA.size) W (by rw [ext_drop XA m, ba_size, hxd, List.length_drop]; omega)
            rw [ext_drop XA m, ba_list, hxd, e] at this
            rw [ext_drop XA m, hxd, e]
            exact this
          have HAT : Hid (∀ (j : Nat) (hj : j < XA.size), XA[j] = x[j]'(by omega)) := fun j hj => by simp only [← hxd]; rfl
          have CE := hid (cut_end 61 x)
          have CT := hid (cut_at 61 x)
          have HZX : Hid (x.length ≤ 1048576) := hxl
          clear HXA hxd hxl
          go_wp2
          go_loopw [7] (fun jj w' => ∃ j : Nat, j ≤ XA.size ∧ jj = .int .i64 (j : Int) ∧ Hid (w' = wr) ∧ Hid (∀ i (hi : i < x.length), i < j → x[i] ≠ 61)) (fun jj _ => XA.size - (intOf jj).toNat)
          case atStart => exact ⟨0, by omega, rfl, rfl, by show ∀ _ _ _, _; intro i hi h; omega⟩
          case round =>
            obtain ⟨j, hj, rfl, HW, HN⟩ := hrel
            rename World => wj
            obtain rfl : wj = wr := HW.out
            have j0 : (0 : Int) ≤ (j : Int) := by omega
            have hwj : wrap64 ((j : Int) + 1) = ((j + 1 : Nat) : Int) := by have := HZX.out; rw [IntWalk.wrap64_in _ (by omega)]; omega
            have hwj2 : IntKind.i64.wrap ((j : Int) + 1) = ((j + 1 : Nat) : Int) := by have := HZX.out; rw [IntKind.wrap_i64]; omega
            by_cases hjl : j < XA.size
            · have j1 : (j : Int) < (XA.size : Int) := by omega
              have hat := HAT.out j hjl
              by_cases hx61 : x[j]'(by omega) = 61
              · have e2 : (((XA[j]).toNat : Int) != 61) = false := by rw [hat, hx61]; rfl
                have HCU := hid (CT.out j (by omega) HN.out hx61)
                have hji : (j : Int) ≤ (XA.size : Int) := by omega
                clear hx61 hat HN CE CT HAT HW
                have MN : (min ((j : Int) + 1) (XA.size : Int)) = ((min (j + 1) XA.size : Nat) : Int) := by omega
                have QB := hid (fun W => RB.out j (min (j + 1) XA.size) W rfl)
                have QA := hid (fun W => RA.out j W hj)
                have m1 : (0 : Int) ≤ ((min (j + 1) XA.size : Nat) : Int) := by omega
                have m2 : ((min (j + 1) XA.size : Nat) : Int) ≤ (XA.size : Int) := by omega
                have m3 : (if ((j + 1 : Nat) : Int) < (XA.size : Int) then ((j + 1 : Nat) : Int) else (XA.size : Int)) = ((min (j + 1) XA.size : Nat) : Int) := by split <;> omega
                have EZ := hid (rq_zero x j HCU.out)
                have EN := hid (rq_name x j HCU.out)
                have EV := hid (rq_value x j HCU.out)
                have EO := hid (rq_ok x j (by omega) HCU.out)
                have KB : Hid (∀ W, Below w1.heap.size w1 W → Below w.heap.size w W) := fun W h => HB1.out.trans (h.mono HB1.out.size)
                have hxs2 := hid hxs
                generalize rbE rwQ (x.take j) = RN at *
                generalize rbE rwQ (x.drop (j + 1)) = RV at *
                obtain ⟨rn, rna⟩ := RN
                obtain ⟨rv, rvb⟩ := RV
                simp only at *
                generalize min (j + 1) XA.size = M at *
                clear RA RB HCU hj HZX hxs
                go_wp2_with fail
                refine (QA.out _).mono ?_
                rintro e w2 ⟨rfl, b2⟩
                have B2 := hid (HB.out.trans (b2.mono HB.out.size))
                have K2 := hid b2
                have p0 := (b2.cell (p := ⟨b, off + k, none⟩) HBB.out).trans d0
                have HB2' : Hid (b < w2.heap.size) := Nat.lt_of_lt_of_le HBB.out b2.size
                have HR2 := hid ((b2.keep (fun _ => False)).ownsRow HR.out (fun _ _ h => h))
                have QB2 : Hid (Calls Tryd.prog 26 #[.string (XA.extract M XA.size), .int .u8 0, .bool true] w2.drew fun e w' => e = .returned (.tuple #[.string ⟨rv.toArray⟩, .bool rvb]) ∧ (w'.cell? ⟨b, off + k, none⟩ = some (.string XA)) ∧ Hid (Below w1.heap.size w1 w') ∧ Hid (w'.ownsRow w1.heap.size 57 2 (.slice ad1 k cp1) k (pqC acc))) := (QB.out w2.drew).mono fun e w' ⟨he, hb⟩ => by
                  have hb' : Below w2.heap.size w2 w' := (Below.refl _ w2).drew.trans hb
                  exact ⟨he, (hb'.cell (p := ⟨b, off + k, none⟩) HB2'.out).trans p0, B2.out.trans (hb'.mono B2.out.size), (hb'.keep (fun _ => False)).ownsRow HR2.out (fun _ _ h => h)⟩
                clear b2 QA QB K2 d0 HR HB
                go_wp2
                refine wp_region_held_drew (S := (fun w' => w'.cell? ⟨b, off + k, none⟩ = some (.string XA))) (by kernel_rfl) p0 (fun hHeld => ?_)
                refine wpAnyH_take (i := 0) (v := ?vv1) rfl (by kernel_rfl) (by kernel_rfl) (by kernel_rfl) (fun _ _ _ h => h) (Or.inl ⟨by rfl, ?hy1⟩) (by assumption) ?rest1
                case hy1 => (intro w hSw; (try dsimp only at hSw); go_simp; first | done | with_reducible rfl)
                try simp only [Act.put, List.getElem_toArray, List.getElem_cons_succ, List.getElem_cons_zero, List.setIfInBounds_toArray, List.set_cons_zero, List.set_cons_succ]
                refine wpAnyH_take (i := 1) (v := ?vv2) rfl (by kernel_rfl) (by kernel_rfl) (by kernel_rfl) (fun _ _ _ h => h) (Or.inl ⟨by rfl, ?hy2⟩) (by assumption) ?rest2
                case hy2 => (intro w hSw; (try dsimp only at hSw); go_simp; first | done | with_reducible rfl)
                try simp only [Act.put, List.getElem_toArray, List.getElem_cons_succ, List.getElem_cons_zero, List.setIfInBounds_toArray, List.set_cons_zero, List.set_cons_succ]
                refine wpAnyH_take (i := 2) (v := ?vv3) rfl (by kernel_rfl) (by kernel_rfl) (by kernel_rfl) (fun _ _ _ h => h) (Or.inl ⟨by rfl, ?hy3⟩) (by assumption) ?rest3
                case hy3 => (intro w hSw; (try dsimp only at hSw); go_simp; first | done | with_reducible rfl)
                try simp only [Act.put, List.getElem_toArray, List.getElem_cons_succ, List.getElem_cons_zero, List.setIfInBounds_toArray, List.set_cons_zero, List.set_cons_succ]
                refine wpAnyH_take (i := 3) (v := ?vv4) rfl (by kernel_rfl) (by kernel_rfl) (by kernel_rfl) (fun _ _ _ h => h) (Or.inl ⟨by rfl, ?hy4⟩) (by assumption) ?rest4
                case hy4 => (intro w hSw; (try dsimp only at hSw); go_simp; first | done | with_reducible rfl)
                try simp only [Act.put, List.getElem_toArray, List.getElem_cons_succ, List.getElem_cons_zero, List.setIfInBounds_toArray, List.set_cons_zero, List.set_cons_succ]
                refine wpAnyH_take (i := 4) (v := ?vv5) rfl (by kernel_rfl) (by kernel_rfl) (by kernel_rfl) (fun _ _ _ h => h) (Or.inl ⟨by rfl, ?hy5⟩) (by assumption) ?rest5
                case hy5 => (intro w hSw; (try dsimp only at hSw); go_simp; first | done | with_reducible rfl)
                try simp only [Act.put, List.getElem_toArray, List.getElem_cons_succ, List.getElem_cons_zero, List.setIfInBounds_toArray, List.set_cons_zero, List.set_cons_succ]
                refine wpAnyH_take (i := 5) (v := ?vv6) rfl (by kernel_rfl) (by kernel_rfl) (by kernel_rfl) (fun _ _ _ h => h) (Or.inl ⟨by rfl, ?hy6⟩) (by assumption) ?rest6
                case hy6 => (intro w hSw; (try dsimp only at hSw); go_simp; first | done | with_reducible rfl)
                try simp only [Act.put, List.getElem_toArray, List.getElem_cons_succ, List.getElem_cons_zero, List.setIfInBounds_toArray, List.set_cons_zero, List.set_cons_succ]
                refine wpAnyH_take (i := 6) (v := ?vv7) rfl (by kernel_rfl) (by kernel_rfl) (by kernel_rfl) (fun _ _ _ h => h) (Or.inl ⟨by rfl, ?hy7⟩) (by assumption) ?rest7
                case hy7 => (intro w hSw; (try dsimp only at hSw); go_simp; first | done | with_reducible rfl)
                try simp only [Act.put, List.getElem_toArray, List.getElem_cons_succ, List.getElem_cons_zero, List.setIfInBounds_toArray, List.set_cons_zero, List.set_cons_succ]
                refine wpAnyH_take (i := 7) (v := ?vv8) rfl (by kernel_rfl) (by kernel_rfl) (by kernel_rfl) (fun _ _ _ h => h) (Or.inl ⟨by rfl, ?hy8⟩) (by assumption) ?rest8
                case hy8 => (intro w hSw; (try dsimp only at hSw); go_simp; first | done | with_reducible rfl)
                try simp only [Act.put, List.getElem_toArray, List.getElem_cons_succ, List.getElem_cons_zero, List.setIfInBounds_toArray, List.set_cons_zero, List.set_cons_succ]
                refine wpAnyH_take (i := 8) (v := ?vv9) rfl (by kernel_rfl) (by kernel_rfl) (by kernel_rfl) (fun _ _ _ h => h) (Or.inl ⟨by rfl, ?hy9⟩) (by assumption) ?rest9
                case hy9 => (intro w hSw; (try dsimp only at hSw); go_simp; first | done | with_reducible rfl)
                try simp only [Act.put, List.getElem_toArray, List.getElem_cons_succ, List.getElem_cons_zero, List.setIfInBounds_toArray, List.set_cons_zero, List.set_cons_succ]
                refine wpAnyH_take (i := 9) (v := ?vv10) rfl (by kernel_rfl) (by kernel_rfl) (by kernel_rfl) (fun _ _ _ h => h) (Or.inl ⟨by rfl, ?hy10⟩) (by assumption) ?rest10
                case hy10 => (intro w hSw; (try dsimp only at hSw); go_simp; first | done | with_reducible rfl)
                try simp only [Act.put, List.getElem_toArray, List.getElem_cons_succ, List.getElem_cons_zero, List.setIfInBounds_toArray, List.set_cons_zero, List.set_cons_succ]
                refine wpAnyH_take (i := 10) (v := ?vv11) rfl (by kernel_rfl) (by kernel_rfl) (by kernel_rfl) (fun _ _ _ h => h) (Or.inl ⟨by rfl, ?hy11⟩) (by assumption) ?rest11
                case hy11 => (intro w hSw; (try dsimp only at hSw); go_simp; first | done | with_reducible rfl)
                try simp only [Act.put, List.getElem_toArray, List.getElem_cons_succ, List.getElem_cons_zero, List.setIfInBounds_toArray, List.set_cons_zero, List.set_cons_succ]
                refine wpAnyH_take (i := 11) (v := ?vv12) rfl (by kernel_rfl) (by kernel_rfl) (by kernel_rfl) (fun _ _ _ h => h) (Or.inl ⟨by rfl, ?hy12⟩) (by assumption) ?rest12
                case hy12 => (intro w hSw; (try dsimp only at hSw); go_simp; first | done | with_reducible rfl)
                try simp only [Act.put, List.getElem_toArray, List.getElem_cons_succ, List.getElem_cons_zero, List.setIfInBounds_toArray, List.set_cons_zero, List.set_cons_succ]
                refine wpAnyH_take (i := 12) (v := ?vv13) rfl (by kernel_rfl) (by kernel_rfl) (by kernel_rfl) (fun _ _ _ h => h) (Or.inl ⟨by rfl, ?hy13⟩) (by assumption) ?rest13
                case hy13 => (intro w hSw; (try dsimp only at hSw); go_simp; first | done | with_reducible rfl)
                try simp only [Act.put, List.getElem_toArray, List.getElem_cons_succ, List.getElem_cons_zero, List.setIfInBounds_toArray, List.set_cons_zero, List.set_cons_succ]
                refine wpAnyH_ready (rs := [13]) (by kernel_rfl) (by simp) ?_
                refine AllReadyH.cons rfl (fun K hK => ?_) AllReadyH.nil
                go_simp
                refine QB2.out.mono ?_
                rintro e w3 ⟨rfl, Z3, B3, R3⟩
                go_wp2_with fail
                refine hK.out _ _ Z3 (fun hHeld => ?_)
                clear hK K
                try simp only [Act.put, List.getElem_toArray, List.getElem_cons_succ, List.getElem_cons_zero, List.setIfInBounds_toArray, List.set_cons_zero, List.set_cons_succ]
                refine wpAnyH_take (i := 14) (v := ?vv14) rfl (by kernel_rfl) (by kernel_rfl) (by kernel_rfl) (fun _ _ _ h => h) (Or.inl ⟨by rfl, ?hy14⟩) (by assumption) ?rest14
                case hy14 => (intro w hSw; (try dsimp only at hSw); go_simp; first | done | with_reducible rfl)
                try simp only [Act.put, List.getElem_toArray, List.getElem_cons_succ, List.getElem_cons_zero, List.setIfInBounds_toArray, List.set_cons_zero, List.set_cons_succ]
                refine wpAnyH_take (i := 15) (v := ?vv15) rfl (by kernel_rfl) (by kernel_rfl) (by kernel_rfl) (fun _ _ _ h => h) (Or.inl ⟨by rfl, ?hy15⟩) (by assumption) ?rest15
                case hy15 => (intro w hSw; (try dsimp only at hSw); go_simp; first | done | with_reducible rfl)
                try simp only [Act.put, List.getElem_toArray, List.getElem_cons_succ, List.getElem_cons_zero, List.setIfInBounds_toArray, List.set_cons_zero, List.set_cons_succ]
                refine wpAnyH_take (i := 16) (v := ?vv16) rfl (by kernel_rfl) (by kernel_rfl) (by kernel_rfl) (fun _ _ _ h => h) (Or.inl ⟨by rfl, ?hy16⟩) (by assumption) ?rest16
                case hy16 => (intro w hSw; (try dsimp only at hSw); go_simp; first | done | with_reducible rfl)
                try simp only [Act.put, List.getElem_toArray, List.getElem_cons_succ, List.getElem_cons_zero, List.setIfInBounds_toArray, List.set_cons_zero, List.set_cons_succ]
                refine wpAnyH_take (i := 17) (v := ?vv17) rfl (by kernel_rfl) (by kernel_rfl) (by kernel_rfl) (fun _ _ _ h => h) (Or.inl ⟨by rfl, ?hy17⟩) (by assumption) ?rest17
                case hy17 => (intro w hSw; (try dsimp only at hSw); go_simp; first | done | with_reducible rfl)
                try simp only [Act.put, List.getElem_toArray, List.getElem_cons_succ, List.getElem_cons_zero, List.setIfInBounds_toArray, List.set_cons_zero, List.set_cons_succ]
                refine wpAnyH_take (i := 18) (v := ?vv18) rfl (by kernel_rfl) (by kernel_rfl) (by kernel_rfl) (fun _ _ _ h => h) (Or.inl ⟨by rfl, ?hy18⟩) (by assumption) ?rest18
                case hy18 => (intro w hSw; (try dsimp only at hSw); go_simp; first | done | with_reducible rfl)
                try simp only [Act.put, List.getElem_toArray, List.getElem_cons_succ, List.getElem_cons_zero, List.setIfInBounds_toArray, List.set_cons_zero, List.set_cons_succ]
                refine wpAnyH_done (by kernel_rfl) ?_ _
                clear hHeld QB2 p0 Z3 B2 HR2
                by_cases hz : j = 0
                · have e3 : ((j : Int) == 0) = true := by rw [hz]; rfl
                  have HF := hid (HXB.out (EZ.out hz))
                  clear hz EZ EN EV EO HXB HXS
                  go_wp2
                  go_ret2
                  exact ⟨none, 0, by rw [HF.out]; rfl, by rw [HF.out]; exact own_nilR _ _, KB.out _ B3.out⟩
                · have e3 : ((j : Int) == 0) = false := by rw [beq_eq_false_iff_ne]; omega
                  obtain hna | hna : rna = false ∨ rna = true := by cases rna <;> simp
                  · have HF := hid (HXB.out (EN.out hna))
                    subst hna
                    clear hz EZ EN EV EO HXB HXS
                    go_wp2
                    go_ret2
                    exact ⟨none, 0, by rw [HF.out]; rfl, by rw [HF.out]; exact own_nilR _ _, KB.out _ B3.out⟩
                  · obtain hvb | hvb : rvb = false ∨ rvb = true := by cases rvb <;> simp
                    · have HF := hid (HXB.out (EV.out hvb))
                      subst hna hvb
                      clear hz EZ EN EV EO HXB HXS
                      go_wp2
                      go_ret2
                      exact ⟨none, 0, by rw [HF.out]; rfl, by rw [HF.out]; exact own_nilR _ _, KB.out _ B3.out⟩
                    · have HPP := hid (HXS.out _ (EO.out hz hna hvb))
                      subst hna hvb
                      clear hz EZ EN EV EO HXB HXS
                      have HGA : Hid ((w3.alloc (.cells #[.string ⟨rn.toArray⟩, .string ⟨rv.toArray⟩] 57)).ownsRow w1.heap.size 57 2 (.slice ad1 k cp1) k (pqC acc)) := ((below_al (Below.refl w3.heap.size w3) _).keep (fun _ => False)).ownsRow R3.out (fun _ _ h => h)
                      have HGS : Hid (w1.heap.size ≤ (w3.alloc (.cells #[.string ⟨rn.toArray⟩, .string ⟨rv.toArray⟩] 57)).heap.size) := Nat.le_trans B3.out.size (below_al (Below.refl _ _) _).size
                      have HGX : Hid (GSrc (w3.alloc (.cells #[.string ⟨rn.toArray⟩, .string ⟨rv.toArray⟩] 57)) (.slice (some ⟨w3.heap.size, 0, none⟩) 1 1) 1 (pqC [(rn, rv)])) := gsrc_block (heap_alloc_new _ _)
                      have HX2 : Hid ((pqC [(rn, rv)]).length = 1 * 2) := rfl
                      have HO1 := hid (pqC_cell [(rn, rv)])
                      have FIN : Hid (∀ ad' cap' w', w'.ownsRow w1.heap.size 57 2 (.slice ad' (k + 1) cap') (k + 1) (pqC acc ++ pqC [(rn, rv)]) → Keep (fun j => (Value.slice ad1 k cp1).ownBlock = some j) (w3.alloc (.cells #[.string ⟨rn.toArray⟩, .string ⟨rv.toArray⟩] 57)) w' → Hid (w'.ownsRow w1.heap.size 57 2 (.slice ad' (k + 1) cap') (k + 1) (pqC (acc ++ [(rn, rv)]))) ∧ Hid (Below w1.heap.size w1 w')) := fun ad' cap' w' hr hk' => by
                        refine ⟨?_, (below_on B3.out (below_al (Below.refl _ _) _)).trans (keep_below hk' (fun i hi e => by have := ownsRow_ge R3.out e; omega) HGS.out)⟩
                        show World.ownsRow _ _ _ _ _ _ _
                        rw [pqC_app]; exact hr
                      have HAL2 : Hid ((acc ++ [(rn, rv)]).length = k + 1) := by show _ = _; rw [List.length_append, HAL.out]; rfl
                      generalize hPP : pqC [(rn, rv)] = PV at *
                      clear R3 B3 hPP
                      go_wp2_with (at_builtin; refine wpl_gappL rfl _ _ elRq rfl w1.heap.size (.slice ad1 k cp1) (.slice (some ⟨w3.heap.size, 0, none⟩) 1 1) (pqC acc) PV k 1 (k + 1) rfl rfl rfl HGA.out HGS.out HGX.out HX2.out HO1.out HB16.out HB17.out ?_; intro ad' cap' w' hr' hk')
                      obtain ⟨F1, F2⟩ := FIN.out _ _ _ hr' hk'
                      exact ⟨⟨k + 1, _, _, acc ++ [(rn, rv)], HLT.out, rfl, by first | rw [hwk] | rfl | simp, HAL2, F1, F2, HPP⟩, by (try rw [hwk]); have := HLT.out; simp [intOf]; omega⟩
              · have e2 : (((XA[j]).toNat : Int) != 61) = true := by
                  rw [bne_iff_ne, hat]
                  intro e
                  exact hx61 (UInt8.toNat_inj.1 (by show _ = 61; omega))
                have HN2 : Hid (∀ i (hi : i < x.length), i < j + 1 → x[i] ≠ 61) := fun i hi h => by
                  by_cases e : i = j
                  · subst e; exact hx61
                  · exact HN.out i hi (by omega)
                have HJL := hid hjl
                clear hx61 hat HN CE CT HAT RA RB HXB HXS HW
                go_wp2
                exact ⟨⟨j + 1, HJL.out, by first | rw [hwj] | rfl | simp, by first | rfl | trivial, HN2⟩, by (try rw [hwj]); have := HJL.out; simp [intOf]; omega⟩
            · have j1 : decide ((j : Int) < (XA.size : Int)) = false := decide_eq_false (by omega)
              have j2 : decide (j < XA.size) = false := decide_eq_false hjl
              have HCU : Hid (cutB 61 x = (x.take j, x.drop (j + 1))) := by
                have hje : j = x.length := by omega
                have h := CE.out (fun i hi h => HN.out i hi (by omega))
                show _ = _
                rw [hje]; exact h
              have hji : (j : Int) ≤ (XA.size : Int) := by omega
              clear HN CE CT HAT HW hjl
              have MN : (min ((j : Int) + 1) (XA.size : Int)) = ((min (j + 1) XA.size : Nat) : Int) := by omega
              have QB := hid (fun W => RB.out j (min (j + 1) XA.size) W rfl)
              have QA := hid (fun W => RA.out j W hj)
              have m1 : (0 : Int) ≤ ((min (j + 1) XA.size : Nat) : Int) := by omega
              have m2 : ((min (j + 1) XA.size : Nat) : Int) ≤ (XA.size : Int) := by omega
              have m3 : (if ((j + 1 : Nat) : Int) < (XA.size : Int) then ((j + 1 : Nat) : Int) else (XA.size : Int)) = ((min (j + 1) XA.size : Nat) : Int) := by split <;> omega
              have EZ := hid (rq_zero x j HCU.out)
              have EN := hid (rq_name x j HCU.out)
              have EV := hid (rq_value x j HCU.out)
              have EO := hid (rq_ok x j (by omega) HCU.out)
              have KB : Hid (∀ W, Below w1.heap.size w1 W → Below w.heap.size w W) := fun W h => HB1.out.trans (h.mono HB1.out.size)
              have hxs2 := hid hxs
              generalize rbE rwQ (x.take j) = RN at *
              generalize rbE rwQ (x.drop (j + 1)) = RV at *
              obtain ⟨rn, rna⟩ := RN
              obtain ⟨rv, rvb⟩ := RV
              simp only at *
              generalize min (j + 1) XA.size = M at *
              clear RA RB HCU hj HZX hxs
              go_wp2_with fail
              refine (QA.out _).mono ?_
              rintro e w2 ⟨rfl, b2⟩
              have B2 := hid (HB.out.trans (b2.mono HB.out.size))
              have K2 := hid b2
              have p0 := (b2.cell (p := ⟨b, off + k, none⟩) HBB.out).trans d0
              have HB2' : Hid (b < w2.heap.size) := Nat.lt_of_lt_of_le HBB.out b2.size
              have HR2 := hid ((b2.keep (fun _ => False)).ownsRow HR.out (fun _ _ h => h))
              have QB2 : Hid (Calls Tryd.prog 26 #[.string (XA.extract M XA.size), .int .u8 0, .bool true] w2.drew fun e w' => e = .returned (.tuple #[.string ⟨rv.toArray⟩, .bool rvb]) ∧ (w'.cell? ⟨b, off + k, none⟩ = some (.string XA)) ∧ Hid (Below w1.heap.size w1 w') ∧ Hid (w'.ownsRow w1.heap.size 57 2 (.slice ad1 k cp1) k (pqC acc))) := (QB.out w2.drew).mono fun e w' ⟨he, hb⟩ => by
                have hb' : Below w2.heap.size w2 w' := (Below.refl _ w2).drew.trans hb
                exact ⟨he, (hb'.cell (p := ⟨b, off + k, none⟩) HB2'.out).trans p0, B2.out.trans (hb'.mono B2.out.size), (hb'.keep (fun _ => False)).ownsRow HR2.out (fun _ _ h => h)⟩
              clear b2 QA QB K2 d0 HR HB
              go_wp2
              refine wp_region_held_drew (S := (fun w' => w'.cell? ⟨b, off + k, none⟩ = some (.string XA))) (by kernel_rfl) p0 (fun hHeld => ?_)
              refine wpAnyH_take (i := 0) (v := ?vv19) rfl (by kernel_rfl) (by kernel_rfl) (by kernel_rfl) (fun _ _ _ h => h) (Or.inl ⟨by rfl, ?hy19⟩) (by assumption) ?rest19
              case hy19 => (intro w hSw; (try dsimp only at hSw); go_simp; first | done | with_reducible rfl)
              try simp only [Act.put, List.getElem_toArray, List.getElem_cons_succ, List.getElem_cons_zero, List.setIfInBounds_toArray, List.set_cons_zero, List.set_cons_succ]
              refine wpAnyH_take (i := 1) (v := ?vv20) rfl (by kernel_rfl) (by kernel_rfl) (by kernel_rfl) (fun _ _ _ h => h) (Or.inl ⟨by rfl, ?hy20⟩) (by assumption) ?rest20
              case hy20 => (intro w hSw; (try dsimp only at hSw); go_simp; first | done | with_reducible rfl)
              try simp only [Act.put, List.getElem_toArray, List.getElem_cons_succ, List.getElem_cons_zero, List.setIfInBounds_toArray, List.set_cons_zero, List.set_cons_succ]
              refine wpAnyH_take (i := 2) (v := ?vv21) rfl (by kernel_rfl) (by kernel_rfl) (by kernel_rfl) (fun _ _ _ h => h) (Or.inl ⟨by rfl, ?hy21⟩) (by assumption) ?rest21
              case hy21 => (intro w hSw; (try dsimp only at hSw); go_simp; first | done | with_reducible rfl)
              try simp only [Act.put, List.getElem_toArray, List.getElem_cons_succ, List.getElem_cons_zero, List.setIfInBounds_toArray, List.set_cons_zero, List.set_cons_succ]
              refine wpAnyH_take (i := 3) (v := ?vv22) rfl (by kernel_rfl) (by kernel_rfl) (by kernel_rfl) (fun _ _ _ h => h) (Or.inl ⟨by rfl, ?hy22⟩) (by assumption) ?rest22
              case hy22 => (intro w hSw; (try dsimp only at hSw); go_simp; first | done | with_reducible rfl)
              try simp only [Act.put, List.getElem_toArray, List.getElem_cons_succ, List.getElem_cons_zero, List.setIfInBounds_toArray, List.set_cons_zero, List.set_cons_succ]
              refine wpAnyH_take (i := 4) (v := ?vv23) rfl (by kernel_rfl) (by kernel_rfl) (by kernel_rfl) (fun _ _ _ h => h) (Or.inl ⟨by rfl, ?hy23⟩) (by assumption) ?rest23
              case hy23 => (intro w hSw; (try dsimp only at hSw); go_simp; first | done | with_reducible rfl)
              try simp only [Act.put, List.getElem_toArray, List.getElem_cons_succ, List.getElem_cons_zero, List.setIfInBounds_toArray, List.set_cons_zero, List.set_cons_succ]
              refine wpAnyH_take (i := 5) (v := ?vv24) rfl (by kernel_rfl) (by kernel_rfl) (by kernel_rfl) (fun _ _ _ h => h) (Or.inl ⟨by rfl, ?hy24⟩) (by assumption) ?rest24
              case hy24 => (intro w hSw; (try dsimp only at hSw); go_simp; first | done | with_reducible rfl)
              try simp only [Act.put, List.getElem_toArray, List.getElem_cons_succ, List.getElem_cons_zero, List.setIfInBounds_toArray, List.set_cons_zero, List.set_cons_succ]
              refine wpAnyH_take (i := 6) (v := ?vv25) rfl (by kernel_rfl) (by kernel_rfl) (by kernel_rfl) (fun _ _ _ h => h) (Or.inl ⟨by rfl, ?hy25⟩) (by assumption) ?rest25
              case hy25 => (intro w hSw; (try dsimp only at hSw); go_simp; first | done | with_reducible rfl)
              try simp only [Act.put, List.getElem_toArray, List.getElem_cons_succ, List.getElem_cons_zero, List.setIfInBounds_toArray, List.set_cons_zero, List.set_cons_succ]
              refine wpAnyH_take (i := 7) (v := ?vv26) rfl (by kernel_rfl) (by kernel_rfl) (by kernel_rfl) (fun _ _ _ h => h) (Or.inl ⟨by rfl, ?hy26⟩) (by assumption) ?rest26
              case hy26 => (intro w hSw; (try dsimp only at hSw); go_simp; first | done | with_reducible rfl)
              try simp only [Act.put, List.getElem_toArray, List.getElem_cons_succ, List.getElem_cons_zero, List.setIfInBounds_toArray, List.set_cons_zero, List.set_cons_succ]
              refine wpAnyH_take (i := 8) (v := ?vv27) rfl (by kernel_rfl) (by kernel_rfl) (by kernel_rfl) (fun _ _ _ h => h) (Or.inl ⟨by rfl, ?hy27⟩) (by assumption) ?rest27
              case hy27 => (intro w hSw; (try dsimp only at hSw); go_simp; first | done | with_reducible rfl)
              try simp only [Act.put, List.getElem_toArray, List.getElem_cons_succ, List.getElem_cons_zero, List.setIfInBounds_toArray, List.set_cons_zero, List.set_cons_succ]
              refine wpAnyH_take (i := 9) (v := ?vv28) rfl (by kernel_rfl) (by kernel_rfl) (by kernel_rfl) (fun _ _ _ h => h) (Or.inl ⟨by rfl, ?hy28⟩) (by assumption) ?rest28
              case hy28 => (intro w hSw; (try dsimp only at hSw); go_simp; first | done | with_reducible rfl)
              try simp only [Act.put, List.getElem_toArray, List.getElem_cons_succ, List.getElem_cons_zero, List.setIfInBounds_toArray, List.set_cons_zero, List.set_cons_succ]
              refine wpAnyH_take (i := 10) (v := ?vv29) rfl (by kernel_rfl) (by kernel_rfl) (by kernel_rfl) (fun _ _ _ h => h) (Or.inl ⟨by rfl, ?hy29⟩) (by assumption) ?rest29
              case hy29 => (intro w hSw; (try dsimp only at hSw); go_simp; first | done | with_reducible rfl)
              try simp only [Act.put, List.getElem_toArray, List.getElem_cons_succ, List.getElem_cons_zero, List.setIfInBounds_toArray, List.set_cons_zero, List.set_cons_succ]
              refine wpAnyH_take (i := 11) (v := ?vv30) rfl (by kernel_rfl) (by kernel_rfl) (by kernel_rfl) (fun _ _ _ h => h) (Or.inl ⟨by rfl, ?hy30⟩) (by assumption) ?rest30
              case hy30 => (intro w hSw; (try dsimp only at hSw); go_simp; first | done | with_reducible rfl)
              try simp only [Act.put, List.getElem_toArray, List.getElem_cons_succ, List.getElem_cons_zero, List.setIfInBounds_toArray, List.set_cons_zero, List.set_cons_succ]
              refine wpAnyH_take (i := 12) (v := ?vv31) rfl (by kernel_rfl) (by kernel_rfl) (by kernel_rfl) (fun _ _ _ h => h) (Or.inl ⟨by rfl, ?hy31⟩) (by assumption) ?rest31
              case hy31 => (intro w hSw; (try dsimp only at hSw); go_simp; first | done | with_reducible rfl)
              try simp only [Act.put, List.getElem_toArray, List.getElem_cons_succ, List.getElem_cons_zero, List.setIfInBounds_toArray, List.set_cons_zero, List.set_cons_succ]
              refine wpAnyH_ready (rs := [13]) (by kernel_rfl) (by simp) ?_
              refine AllReadyH.cons rfl (fun K hK => ?_) AllReadyH.nil
              go_simp
              refine QB2.out.mono ?_
              rintro e w3 ⟨rfl, Z3, B3, R3⟩
              go_wp2_with fail
              refine hK.out _ _ Z3 (fun hHeld => ?_)
              clear hK K
              try simp only [Act.put, List.getElem_toArray, List.getElem_cons_succ, List.getElem_cons_zero, List.setIfInBounds_toArray, List.set_cons_zero, List.set_cons_succ]
              refine wpAnyH_take (i := 14) (v := ?vv32) rfl (by kernel_rfl) (by kernel_rfl) (by kernel_rfl) (fun _ _ _ h => h) (Or.inl ⟨by rfl, ?hy32⟩) (by assumption) ?rest32
              case hy32 => (intro w hSw; (try dsimp only at hSw); go_simp; first | done | with_reducible rfl)
              try simp only [Act.put, List.getElem_toArray, List.getElem_cons_succ, List.getElem_cons_zero, List.setIfInBounds_toArray, List.set_cons_zero, List.set_cons_succ]
              refine wpAnyH_take (i := 15) (v := ?vv33) rfl (by kernel_rfl) (by kernel_rfl) (by kernel_rfl) (fun _ _ _ h => h) (Or.inl ⟨by rfl, ?hy33⟩) (by assumption) ?rest33
              case hy33 => (intro w hSw; (try dsimp only at hSw); go_simp; first | done | with_reducible rfl)
              try simp only [Act.put, List.getElem_toArray, List.getElem_cons_succ, List.getElem_cons_zero, List.setIfInBounds_toArray, List.set_cons_zero, List.set_cons_succ]
              refine wpAnyH_take (i := 16) (v := ?vv34) rfl (by kernel_rfl) (by kernel_rfl) (by kernel_rfl) (fun _ _ _ h => h) (Or.inl ⟨by rfl, ?hy34⟩) (by assumption) ?rest34
              case hy34 => (intro w hSw; (try dsimp only at hSw); go_simp; first | done | with_reducible rfl)
              try simp only [Act.put, List.getElem_toArray, List.getElem_cons_succ, List.getElem_cons_zero, List.setIfInBounds_toArray, List.set_cons_zero, List.set_cons_succ]
              refine wpAnyH_take (i := 17) (v := ?vv35) rfl (by kernel_rfl) (by kernel_rfl) (by kernel_rfl) (fun _ _ _ h => h) (Or.inl ⟨by rfl, ?hy35⟩) (by assumption) ?rest35
              case hy35 => (intro w hSw; (try dsimp only at hSw); go_simp; first | done | with_reducible rfl)
              try simp only [Act.put, List.getElem_toArray, List.getElem_cons_succ, List.getElem_cons_zero, List.setIfInBounds_toArray, List.set_cons_zero, List.set_cons_succ]
              refine wpAnyH_take (i := 18) (v := ?vv36) rfl (by kernel_rfl) (by kernel_rfl) (by kernel_rfl) (fun _ _ _ h => h) (Or.inl ⟨by rfl, ?hy36⟩) (by assumption) ?rest36
              case hy36 => (intro w hSw; (try dsimp only at hSw); go_simp; first | done | with_reducible rfl)
              try simp only [Act.put, List.getElem_toArray, List.getElem_cons_succ, List.getElem_cons_zero, List.setIfInBounds_toArray, List.set_cons_zero, List.set_cons_succ]
              refine wpAnyH_done (by kernel_rfl) ?_ _
              clear hHeld QB2 p0 Z3 B2 HR2
              by_cases hz : j = 0
              · have e3 : ((j : Int) == 0) = true := by rw [hz]; rfl
                have HF := hid (HXB.out (EZ.out hz))
                clear hz EZ EN EV EO HXB HXS
                go_wp2
                go_ret2
                exact ⟨none, 0, by rw [HF.out]; rfl, by rw [HF.out]; exact own_nilR _ _, KB.out _ B3.out⟩
              · have e3 : ((j : Int) == 0) = false := by rw [beq_eq_false_iff_ne]; omega
                obtain hna | hna : rna = false ∨ rna = true := by cases rna <;> simp
                · have HF := hid (HXB.out (EN.out hna))
                  subst hna
                  clear hz EZ EN EV EO HXB HXS
                  go_wp2
                  go_ret2
                  exact ⟨none, 0, by rw [HF.out]; rfl, by rw [HF.out]; exact own_nilR _ _, KB.out _ B3.out⟩
                · obtain hvb | hvb : rvb = false ∨ rvb = true := by cases rvb <;> simp
                  · have HF := hid (HXB.out (EV.out hvb))
                    subst hna hvb
                    clear hz EZ EN EV EO HXB HXS
                    go_wp2
                    go_ret2
                    exact ⟨none, 0, by rw [HF.out]; rfl, by rw [HF.out]; exact own_nilR _ _, KB.out _ B3.out⟩
                  · have HPP := hid (HXS.out _ (EO.out hz hna hvb))
                    subst hna hvb
                    clear hz EZ EN EV EO HXB HXS
                    have HGA : Hid ((w3.alloc (.cells #[.string ⟨rn.toArray⟩, .string ⟨rv.toArray⟩] 57)).ownsRow w1.heap.size 57 2 (.slice ad1 k cp1) k (pqC acc)) := ((below_al (Below.refl w3.heap.size w3) _).keep (fun _ => False)).ownsRow R3.out (fun _ _ h => h)
                    have HGS : Hid (w1.heap.size ≤ (w3.alloc (.cells #[.string ⟨rn.toArray⟩, .string ⟨rv.toArray⟩] 57)).heap.size) := Nat.le_trans B3.out.size (below_al (Below.refl _ _) _).size
                    have HGX : Hid (GSrc (w3.alloc (.cells #[.string ⟨rn.toArray⟩, .string ⟨rv.toArray⟩] 57)) (.slice (some ⟨w3.heap.size, 0, none⟩) 1 1) 1 (pqC [(rn, rv)])) := gsrc_block (heap_alloc_new _ _)
                    have HX2 : Hid ((pqC [(rn, rv)]).length = 1 * 2) := rfl
                    have HO1 := hid (pqC_cell [(rn, rv)])
                    have FIN : Hid (∀ ad' cap' w', w'.ownsRow w1.heap.size 57 2 (.slice ad' (k + 1) cap') (k + 1) (pqC acc ++ pqC [(rn, rv)]) → Keep (fun j => (Value.slice ad1 k cp1).ownBlock = some j) (w3.alloc (.cells #[.string ⟨rn.toArray⟩, .string ⟨rv.toArray⟩] 57)) w' → Hid (w'.ownsRow w1.heap.size 57 2 (.slice ad' (k + 1) cap') (k + 1) (pqC (acc ++ [(rn, rv)]))) ∧ Hid (Below w1.heap.size w1 w')) := fun ad' cap' w' hr hk' => by
                      refine ⟨?_, (below_on B3.out (below_al (Below.refl _ _) _)).trans (keep_below hk' (fun i hi e => by have := ownsRow_ge R3.out e; omega) HGS.out)⟩
                      show World.ownsRow _ _ _ _ _ _ _
                      rw [pqC_app]; exact hr
                    have HAL2 : Hid ((acc ++ [(rn, rv)]).length = k + 1) := by show _ = _; rw [List.length_append, HAL.out]; rfl
                    generalize hPP : pqC [(rn, rv)] = PV at *
                    clear R3 B3 hPP
                    go_wp2_with (at_builtin; refine wpl_gappL rfl _ _ elRq rfl w1.heap.size (.slice ad1 k cp1) (.slice (some ⟨w3.heap.size, 0, none⟩) 1 1) (pqC acc) PV k 1 (k + 1) rfl rfl rfl HGA.out HGS.out HGX.out HX2.out HO1.out HB16.out HB17.out ?_; intro ad' cap' w' hr' hk')
                    obtain ⟨F1, F2⟩ := FIN.out _ _ _ hr' hk'
                    exact ⟨⟨k + 1, _, _, acc ++ [(rn, rv)], HLT.out, rfl, by first | rw [hwk] | rfl | simp, HAL2, F1, F2, HPP⟩, by (try rw [hwk]); have := HLT.out; simp [intOf]; omega⟩
        · have hke : k = X.length := by omega
          have hd1 : decide ((k : Int) < (X.length : Int)) = false := decide_eq_false (by omega)
          have hd2 : decide (k < X.length) = false := decide_eq_false hlt
          subst hke
          rw [List.take_length] at HP
          have HF := hid (HUO.out acc HP.out)
          have HBW := hid (HB1.out.trans (HB.out.mono HB1.out.size))
          have HRF := hid (own_lower HR.out HB1.out.size)
          clear HC HUB HUO HP HL16 HXL HR HB hlt hk
          go_wp2
          go_ret2
          refine ⟨ad1, cp1, ?_, ?_, HBW.out⟩
          · rw [HF.out]; simp only [HAL.out]; rfl
          · rw [HF.out]; simp only [HAL.out]; exact HRF.out
end Go.Proofs.YtnohkhgoejjfhaaDoor
