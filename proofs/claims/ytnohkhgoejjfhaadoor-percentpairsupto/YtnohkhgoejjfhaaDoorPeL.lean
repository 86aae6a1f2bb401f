/- What pairs are written as: the program's Query. -/
import Derived.Test.YtnohkhgoejjfhaaDoorPeK
import Derived.Test.YtnohkhgoejjfhaaDoorPeE
import Derived.Test.YtnohkhgoejjfhaaDoorPeD
import Derived.Test.YtnohkhgoejjfhaaDoorStrsM
import Derived.Test.YtnohkhgoejjfhaaDoorLayJ
import Derived.Deep.RegionHeld3
namespace Go.Proofs.YtnohkhgoejjfhaaDoor
open Go.RowKit Go.Maps Go.Shelf
set_option linter.unusedVariables false
set_option linter.unusedSimpArgs false

/-- pairs in memory -/
def PqI (w : World) (v : Value) (l : List Pq) : Prop := RowC w v l.length (pqC l)
theorem PqI.next {w w' : World} {v : Value} {l : List Pq} (h : PqI w v l) (hB : Below w.heap.size w w') : PqI w' v l := RowC.next h hB
theorem pqC_get (l : List Pq) (k : Nat) (hk : k < l.length) : (pqC l)[k * 2]? = some (.string ⟨l[k].1.toArray⟩) ∧ (pqC l)[k * 2 + 1]? = some (.string ⟨l[k].2.toArray⟩) := by
  induction l generalizing k with
  | nil => simp at hk
  | cons p r ih =>
    have e : pqC (p :: r) = [.string ⟨p.1.toArray⟩, .string ⟨p.2.toArray⟩] ++ pqC r := by unfold pqC; rw [List.flatMap_cons]
    cases k with
    | zero => rw [e]; simp
    | succ k =>
      have := ih k (by simpa using hk)
      rw [e, show (k + 1) * 2 = k * 2 + 2 by omega, show k * 2 + 2 + 1 = (k * 2 + 1) + 2 by omega]
      simp only [List.getElem_cons_succ]
      rw [List.getElem?_append_right (by simp), List.getElem?_append_right (by simp)]
      simpa using this
theorem PqI.form {w : World} {v : Value} {l : List Pq} (h : PqI w v l) : ∃ ad cap, v = .slice ad l.length cap ∧ ∀ k (hk : k < l.length), ∃ b off, ad = some ⟨b, off, none⟩ ∧ b < w.heap.size ∧ w.cell? ⟨b, off + k * 2, none⟩ = some (.string ⟨l[k].1.toArray⟩) ∧ w.cell? ⟨b, off + k * 2 + 1, none⟩ = some (.string ⟨l[k].2.toArray⟩) := by
  obtain ⟨ad, cap, e, hc⟩ := RowC.form h
  refine ⟨ad, cap, e, fun k hk => ?_⟩
  obtain ⟨g0, g1⟩ := pqC_get l k hk
  obtain ⟨b, off, e1, hb, c0⟩ := hc _ _ g0
  obtain ⟨b', off', e1', _, c1⟩ := hc _ _ g1
  rw [e1] at e1'
  injection e1' with e1'
  injection e1' with e2 e3 _
  subst e2 e3
  exact ⟨b, off, e1, hb, c0, by rw [← Nat.add_assoc] at c1; exact c1⟩
theorem pqi_own {w : World} {B t : Nat} {v : Value} {l : List Pq} (h : w.ownsRow B t 2 v l.length (pqC l)) : PqI w v l := RowC.own h
theorem ba_list (l : List UInt8) : (⟨l.toArray⟩ : ByteArray).data.toList = l := by simp
theorem ba_size (l : List UInt8) : (⟨l.toArray⟩ : ByteArray).size = l.length := by show (List.toArray _).size = _; simp
theorem pqT_len (p : Pq) : (pqT p).length ≤ 3 * (p.1.length + p.2.length) + 1 := by
  have h1 := (escL_len plB p.1).2
  have h2 := (escL_len plB p.2).2
  unfold pqT
  split
  · omega
  · simp; omega
theorem join_B (b : UInt8) (l : List (List UInt8)) : Lib.join l [b] = joinB b l := by
  cases l with
  | nil => rfl
  | cons x r =>
    rw [Lib.join_cons]
    induction r generalizing x with
    | nil => simp [Lib.joinTail, joinB]
    | cons y r ih => rw [joinB, ← ih y]; simp [Lib.joinTail]
set_option maxRecDepth 100000 in
set_option maxHeartbeats 2000000 in
theorem pairText_any (p : Pq) (w : World) (hs : p.1.length + p.2.length ≤ 1048576) : Calls Tryd.prog 31 #[pqV p] w fun e w' => e = .returned (.string ⟨(pqT p).toArray⟩) ∧ Below w.heap.size w w' := by
  obtain ⟨n, v⟩ := p
  unfold pqV
  simp only at *
  have NN := hid (fun W => pname_any ⟨n.toArray⟩ W (by rw [ba_size]; omega))
  have NV := hid (fun W => pname_any ⟨v.toArray⟩ W (by rw [ba_size]; omega))
  rw [ba_list] at NN NV
  have ln := (escL_len plB n).2
  have lv := (escL_len plB v).2
  have hb := emp_b v
  have BM := hid (Bx.made (Below.refl w.heap.size w) [.string ⟨n.toArray⟩, .string ⟨v.toArray⟩] 32)
  have y0 := BM.out.row.cellAt (o := 0) rfl
  have y1 := BM.out.row.cellAt (o := 1) rfl
  by_cases he : v = []
  · have hb2 : (ByteArray.toList ⟨v.toArray⟩ == []) = true := by rw [hb]; exact decide_eq_true he
    have HR : Hid (pqT (n, v) = escL plB n) := by show pqT _ = _; unfold pqT; rw [if_pos he]
    generalize escL plB n = EN at *
    generalize escL plB v = EV at *
    generalize (⟨n.toArray⟩ : ByteArray) = NA at *
    generalize (⟨v.toArray⟩ : ByteArray) = VA at *
    generalize pqT (n, v) = R at *
    clear hb he NV hs ln lv
    go_enter Tryd.func31, Tryd.ntmps31
    go_wp2_with fail
    refine (NN.out _).mono ?_
    rintro e w1 ⟨rfl, b1⟩
    have HE := hid (below_on BM.out.b b1)
    clear b1 NN BM y0 y1
    go_wp2
    go_ret
    exact ⟨by rw [HR.out]; rfl, HE.out⟩
  · have hb2 : (ByteArray.toList ⟨v.toArray⟩ == []) = false := by rw [hb]; exact decide_eq_false he
    have HR : Hid (pqT (n, v) = escL plB n ++ [61] ++ escL plB v) := by show pqT _ = _; unfold pqT; rw [if_neg he]; simp
    have A1 := fun W => addP (escL plB n) [61] W (by simp; omega)
    have A2 := fun W => addP (escL plB n ++ [61]) (escL plB v) W (by simp; omega)
    generalize escL plB n ++ [61] ++ escL plB v = E2 at *
    generalize escL plB n ++ [61] = E1 at *
    generalize escL plB n = EN at *
    generalize escL plB v = EV at *
    generalize (⟨n.toArray⟩ : ByteArray) = NA at *
    generalize (⟨v.toArray⟩ : ByteArray) = VA at *
    generalize pqT (n, v) = R at *
    clear hb he hs ln lv
    have CN : Hid (∀ W, Bx w w.heap.size [.string NA, .string VA] 32 W → Calls Tryd.prog 13 #[.string NA] W fun e w' => e = .returned (.string ⟨EN.toArray⟩) ∧ (w'.cell? ⟨w.heap.size, 0, none⟩ = some (.string NA) ∧ w'.cell? ⟨w.heap.size, 1, none⟩ = some (.string VA)) ∧ Hid (Bx w w.heap.size [.string NA, .string VA] 32 w')) := fun W hW => (NN.out W).mono fun e w' ⟨he, hb⟩ => ⟨he, ⟨(hW.next hb).row.cellAt rfl, (hW.next hb).row.cellAt rfl⟩, hW.next hb⟩
    have CV : Hid (∀ W, Bx w w.heap.size [.string NA, .string VA] 32 W → Calls Tryd.prog 13 #[.string VA] W fun e w' => e = .returned (.string ⟨EV.toArray⟩) ∧ (w'.cell? ⟨w.heap.size, 0, none⟩ = some (.string NA) ∧ w'.cell? ⟨w.heap.size, 1, none⟩ = some (.string VA)) ∧ Hid (Bx w w.heap.size [.string NA, .string VA] 32 w')) := fun W hW => (NV.out W).mono fun e w' ⟨he, hb⟩ => ⟨he, ⟨(hW.next hb).row.cellAt rfl, (hW.next hb).row.cellAt rfl⟩, hW.next hb⟩
    clear NN NV
    go_enter Tryd.func31, Tryd.ntmps31
    go_wp2
    refine wp_region_held_drew (S := (fun w' => w'.cell? ⟨w.heap.size, 0, none⟩ = some (.string NA) ∧ w'.cell? ⟨w.heap.size, 1, none⟩ = some (.string VA))) (by kernel_rfl) ⟨y0, y1⟩ (fun hHeld => ?_)
    refine wpAnyH_take (i := 0) (v := ?vv1) rfl (by kernel_rfl) (by kernel_rfl) (by kernel_rfl) (fun _ _ _ h => h) (Or.inl ⟨by rfl, ?hy1⟩) (by assumption) ?rest1
    case hy1 => (intro w hSw; (try dsimp only at hSw); go_simp; first | done | with_reducible rfl)
    try simp only [Act.put, List.getElem_toArray, List.getElem_cons_succ, List.getElem_cons_zero, List.setIfInBounds_toArray, List.set_cons_zero, List.set_cons_succ]
    refine wpAnyH_take (i := 1) (v := ?vv2) rfl (by kernel_rfl) (by kernel_rfl) (by kernel_rfl) (fun _ _ _ h => h) (Or.inl ⟨by rfl, ?hy2⟩) (by assumption) ?rest2
    case hy2 => (intro w hSw; (try dsimp only at hSw); go_simp; first | done | with_reducible rfl)
    try simp only [Act.put, List.getElem_toArray, List.getElem_cons_succ, List.getElem_cons_zero, List.setIfInBounds_toArray, List.set_cons_zero, List.set_cons_succ]
    refine wpAnyH_take (i := 4) (v := ?vv3) rfl (by kernel_rfl) (by kernel_rfl) (by kernel_rfl) (fun _ _ _ h => h) (Or.inl ⟨by rfl, ?hy3⟩) (by assumption) ?rest3
    case hy3 => (intro w hSw; (try dsimp only at hSw); go_simp; first | done | with_reducible rfl)
    try simp only [Act.put, List.getElem_toArray, List.getElem_cons_succ, List.getElem_cons_zero, List.setIfInBounds_toArray, List.set_cons_zero, List.set_cons_succ]
    refine wpAnyH_take (i := 5) (v := ?vv4) rfl (by kernel_rfl) (by kernel_rfl) (by kernel_rfl) (fun _ _ _ h => h) (Or.inl ⟨by rfl, ?hy4⟩) (by assumption) ?rest4
    case hy4 => (intro w hSw; (try dsimp only at hSw); go_simp; first | done | with_reducible rfl)
    try simp only [Act.put, List.getElem_toArray, List.getElem_cons_succ, List.getElem_cons_zero, List.setIfInBounds_toArray, List.set_cons_zero, List.set_cons_succ]
    refine wpAnyH_ready (rs := [2]) (by kernel_rfl) (by simp) ?_
    refine AllReadyH.cons rfl (fun K hK => ?_) AllReadyH.nil
    go_simp
    refine (CN.out _ BM.out.drew).mono ?_
    rintro e w1 ⟨rfl, ZC1, B1⟩
    go_wp2_with fail
    refine hK.out _ _ ZC1 (fun hHeld => ?_)
    clear hK K
    try simp only [Act.put, List.getElem_toArray, List.getElem_cons_succ, List.getElem_cons_zero, List.setIfInBounds_toArray, List.set_cons_zero, List.set_cons_succ]
    refine wpAnyH_take (i := 3) (v := ?vv5) rfl (by kernel_rfl) (by kernel_rfl) (by kernel_rfl) (fun _ _ _ h => h) (Or.inl ⟨by rfl, ?hy5⟩) (by assumption) ?rest5
    case hy5 => (intro w hSw; (try dsimp only at hSw); go_simp; first | done | with_reducible rfl)
    try simp only [Act.put, List.getElem_toArray, List.getElem_cons_succ, List.getElem_cons_zero, List.setIfInBounds_toArray, List.set_cons_zero, List.set_cons_succ]
    refine wpAnyH_ready (rs := [6]) (by kernel_rfl) (by simp) ?_
    refine AllReadyH.cons rfl (fun K hK => ?_) AllReadyH.nil
    go_simp
    refine (CV.out _ B1.out).mono ?_
    rintro e w2 ⟨rfl, ZC2, B2⟩
    go_wp2_with fail
    refine hK.out _ _ ZC2 (fun hHeld => ?_)
    clear hK K
    try simp only [Act.put, List.getElem_toArray, List.getElem_cons_succ, List.getElem_cons_zero, List.setIfInBounds_toArray, List.set_cons_zero, List.set_cons_succ]
    refine wpAnyH_take (i := 7) (v := ?vv6) rfl (by kernel_rfl) (by kernel_rfl) (by kernel_rfl) (fun _ _ _ h => h) (Or.inl ⟨by rfl, ?hy6⟩) (by assumption) ?rest6
    case hy6 => (intro w hSw; (try dsimp only at hSw); go_simp; first | done | with_reducible rfl)
    try simp only [Act.put, List.getElem_toArray, List.getElem_cons_succ, List.getElem_cons_zero, List.setIfInBounds_toArray, List.set_cons_zero, List.set_cons_succ]
    refine wpAnyH_take (i := 8) (v := ?vv7) rfl (by kernel_rfl) (by kernel_rfl) (by kernel_rfl) (fun _ _ _ h => h) (Or.inl ⟨by rfl, ?hy7⟩) (by assumption) ?rest7
    case hy7 => (intro w hSw; (try dsimp only at hSw); go_simp; first | done | with_reducible rfl)
    try simp only [Act.put, List.getElem_toArray, List.getElem_cons_succ, List.getElem_cons_zero, List.setIfInBounds_toArray, List.set_cons_zero, List.set_cons_succ]
    refine wpAnyH_done (by kernel_rfl) ?_ _
    have HE := hid B2.out.b
    clear hHeld B1 B2 ZC1 ZC2 CN CV BM y0 y1
    go_wp2
    go_ret
    exact ⟨by rw [HR.out]; rfl, HE.out⟩

theorem elS : ElT 54 9 1 16 := ⟨Tryd.underlying54, ⟨.string ⟨#[]⟩, by kernel_rfl, rfl⟩, by decide⟩
/-- the texts of pairs -/
def txP (l : List Pq) : List ByteArray := l.map (fun p => ⟨(pqT p).toArray⟩)
theorem txP_take (l : List Pq) (k : Nat) (hk : k < l.length) : ss (txP (l.take (k + 1))) = ss (txP (l.take k)) ++ [.string ⟨(pqT l[k]).toArray⟩] := by
  rw [List.take_succ_eq_append_getElem hk]
  unfold txP ss
  rw [List.map_append, List.map_append]
  rfl
theorem txP_map (l : List Pq) : (txP l).map (·.data.toList) = l.map pqT := by unfold txP; rw [List.map_map]; simp [Function.comp_def]
/-- how many bytes pairs have -/
def szP (l : List Pq) : Nat := (l.map (fun p => p.1.length + p.2.length)).sum
theorem szP_at (l : List Pq) (k : Nat) (hk : k < l.length) : l[k].1.length + l[k].2.length ≤ szP l := by
  unfold szP
  induction l generalizing k with
  | nil => simp at hk
  | cons p r ih =>
    cases k with
    | zero => simp
    | succ k => have := ih k (by simpa using hk); simp at this ⊢; omega
theorem joinB_le (b : UInt8) (l : List (List UInt8)) : (joinB b l).length ≤ (l.map List.length).sum + l.length := by
  induction l with
  | nil => simp [joinB]
  | cons x r ih =>
    cases r with
    | nil => simp [joinB]
    | cons y r => rw [joinB]; simp at ih ⊢; omega
theorem tot_le (l : List Pq) : ((l.map pqT).map List.length).sum ≤ 3 * szP l + l.length := by
  unfold szP
  induction l with
  | nil => simp
  | cons p r ih => have := pqT_len p; simp at ih ⊢; omega
theorem quT_many (l : List Pq) (h : 16 < l.length) : quT l = ([], 131) := by unfold quT; rw [if_pos h]
theorem quT_bad (l : List Pq) (h : ¬ 16 < l.length) (p : Pq) (hp : p ∈ l) (h1 : p.1 = []) : quT l = ([], 3) := by unfold quT; rw [if_neg h, if_pos ⟨p, hp, h1⟩]
theorem quT_ok (l : List Pq) (h : ¬ 16 < l.length) (h1 : ∀ p ∈ l, ¬ p.1 = []) : quT l = (joinB 38 (l.map pqT), 0) := by unfold quT; rw [if_neg h, if_neg (fun ⟨p, hp, e⟩ => h1 p hp e)]
theorem joinXp : Builder.Extra Tryd.prog joinLaid_ren := { sizeBuilder := by kernel_rfl, liesBuilder := by kernel_rfl, t5 := Tryd.underlying5, a5 := Tryd.isAgg5, z5 := Tryd.sizeOf5, v5 := Tryd.zeroValue5, infoByte := by kernel_rfl, cellsByte := by kernel_rfl, sizeByte := by kernel_rfl, neB5 := by decide }
theorem join38_any (xs : List ByteArray) (v : Value) (B : Nat) (w : World) (h : w.ownsRow B 9 1 v xs.length (ss xs)) (hl : xs.length ≤ 1048576) (hj : (joinB 38 (xs.map (·.data.toList))).length ≤ 1073741824) : Calls Tryd.prog 32 #[v, .string ⟨#[38]⟩] w fun e w' => e = .returned (.string ⟨(joinB 38 (xs.map (·.data.toList))).toArray⟩) ∧ Below w.heap.size w w' := by
  have hh := gsrc_all h
  obtain ⟨_, h2⟩ := h
  rcases hh with ⟨c, rfl, h0, h1⟩ | ⟨g, off, c, rfl, hg, hc⟩
  · obtain rfl : xs = [] := List.length_eq_zero_iff.1 h0
    exact (Any.strings_Join_none joinLaid joinXp none c ⟨#[38]⟩ w).mono fun e w' ⟨he, hw⟩ => ⟨he, hw ▸ Below.refl _ _⟩
  · have hcap : xs.length ≤ c := by
      rcases h2 with ⟨e, _⟩ | ⟨g1, c1, cur, e, _, hb, hcur, hle⟩
      · cases e
      · injection e with e1 e2 e3
        subst e3
        first | exact hle | (obtain ⟨hle, _⟩ := hle; exact hle) | exact hle.1 | omega
    have := Any.strings_Join joinLaid joinXp g off c xs ⟨#[38]⟩ w (fun j x hx => hc j _ (by simp [ss, hx])) hg (by omega) hcap (by show (Lib.join _ [38]).length ≤ _; rw [join_B]; omega)
    refine this.mono fun e w' ⟨he, hb⟩ => ⟨?_, hb⟩
    rw [he]
    show Ending.returned (.string ⟨(Lib.join (xs.map (·.data.toList)) [38]).toArray⟩) = _
    rw [join_B]

set_option maxRecDepth 100000 in
set_option maxHeartbeats 4000000 in
theorem query_any (v : Value) (l : List Pq) (w : World) (hv : PqI w v l) (hs : szP l ≤ 1048576) : Calls Tryd.prog 15 #[v] w fun e w' => e = .returned (.tuple #[.string ⟨(quT l).1.toArray⟩, .int .i64 (quT l).2]) ∧ Below w.heap.size w w' := by
  obtain ⟨ad, cap, rfl, hc⟩ := hv.form
  by_cases hm : 16 < l.length
  · have HR := hid (quT_many l hm)
    have hd : (16 : Int) < (l.length : Int) := by omega
    clear hc hv hs hm
    generalize quT l = R at *
    generalize l.length = n at *
    go_enter Tryd.func15, Tryd.ntmps15
    go_wp2
    go_ret2
    exact ⟨by rw [HR.out]; rfl, Below.refl _ _⟩
  · have hd : ¬ (16 : Int) < (l.length : Int) := by omega
    have HL : Hid (l.length ≤ 16) := by show _ ≤ _; omega
    have HC := hid hc
    have HBAD := hid (quT_bad l hm)
    have HOK := hid (quT_ok l hm)
    have HSZ := hid (fun k hk => Nat.le_trans (szP_at l k hk) hs)
    have HTK := hid (fun k hk => txP_take l k hk)
    have HJN : Hid (∀ v B W, W.ownsRow B 9 1 v l.length (ss (txP l)) → Calls Tryd.prog 32 #[v, .string ⟨#[38]⟩] W fun e w' => e = .returned (.string ⟨(joinB 38 (l.map pqT)).toArray⟩) ∧ Below W.heap.size W w') := fun v B W h => by
      have e1 : (txP l).length = l.length := by simp [txP]
      have := join38_any (txP l) v B W (by rw [e1]; exact h) (by omega) (by rw [txP_map]; have h1 := joinB_le 38 (l.map pqT); have h2 := tot_le l; simp at h1 h2 ⊢; omega)
      rw [txP_map] at this
      exact this
    have HZ : Hid (l.take l.length = l) := List.take_length
    have HR0 : Hid (w.ownsRow w.heap.size 9 1 (.slice none 0 0) 0 (ss (txP (l.take 0)))) := ⟨rfl, .inl ⟨rfl, rfl⟩⟩
    generalize quT l = R at *
    clear hc hv hs hm
    go_enter Tryd.func15, Tryd.ntmps15
    go_wp2
    go_loopw [4, 12] (fun o i wr => ∃ (k : Nat) (ad1 : Option Addr) (cp1 : Nat), k ≤ l.length ∧ o = .slice ad1 k cp1 ∧ i = .int .i64 (k : Int) ∧ Hid (wr.ownsRow w.heap.size 9 1 (.slice ad1 k cp1) k (ss (txP (l.take k)))) ∧ Hid (Below w.heap.size w wr) ∧ Hid (∀ p ∈ l.take k, ¬ p.1 = [])) (fun _ i _ => l.length - (intOf i).toNat)
    case atStart => exact ⟨0, none, 0, Nat.zero_le _, rfl, rfl, HR0, Below.refl _ _, by show ∀ _ ∈ _, _; simp⟩
    case round =>
      clear HR0
      obtain ⟨k, ad1, cp1, hk, rfl, rfl, HR, HB, HN⟩ := hrel
      rename World => wr
      by_cases hlt : k < l.length
      · have hk1 : (k : Int) < (l.length : Int) := by omega
        have hk0 : (0 : Int) ≤ (k : Int) := by omega
        obtain ⟨b, off, rfl, hb, c0, c1⟩ := HC.out k hlt
        have d0 := (HB.out.cell (p := ⟨b, off + k * 2, none⟩) hb).trans c0
        have d1 := (HB.out.cell (p := ⟨b, off + k * 2 + 1, none⟩) hb).trans c1
        have hwk : wrap64 ((k : Int) + 1) = ((k + 1 : Nat) : Int) := by have := HL.out; rw [IntWalk.wrap64_in _ (by omega)]; omega
        have HLT := hid hlt
        have HPL := hid (HTK.out k hlt)
        have PT := hid (fun W => pairText_any l[k] W (HSZ.out k hlt))
        have HB2 := hid (HBAD.out l[k] (List.getElem_mem hlt))
        have HN2 : Hid (¬ l[k].1 = [] → ∀ p ∈ l.take (k + 1), ¬ p.1 = []) := fun h p hp => by
          rw [List.take_succ_eq_append_getElem hlt] at hp
          rcases List.mem_append.1 hp with hp | hp
          · exact HN.out p hp
          · simp at hp; subst hp; exact h
        have HB16 : Hid (k + 1 ≤ 4611686018427387904) := by have := HL.out; show _ ≤ _; omega
        have HB17 : Hid ((k + 1) * 16 ≤ 140737488355328) := by have := HL.out; show _ ≤ _; omega
        clear HC c0 c1 hb HBAD HOK HJN HZ HN HTK HSZ HL
        generalize ss (txP (l.take k)) = YS at *
        generalize pqT l[k] = TX at *
        unfold pqV at PT
        generalize l[k] = y at *
        obtain ⟨pn, pv⟩ := y
        simp only at *
        clear hlt hk
        have hb := emp_b pn
        by_cases he : pn = []
        · have hb2 : (ByteArray.toList ⟨pn.toArray⟩ == []) = true := by rw [hb]; exact decide_eq_true he
          have HF := hid (HB2.out he)
          have HE := hid (below_al HB.out (.cells #[.string ⟨pn.toArray⟩, .string ⟨pv.toArray⟩] 32))
          generalize (⟨pn.toArray⟩ : ByteArray) = NA at *
          generalize (⟨pv.toArray⟩ : ByteArray) = VA at *
          clear hb he HB2 HN2 PT HPL HR
          go_wp2
          go_ret2
          exact ⟨by rw [HF.out]; rfl, HE.out⟩
        · have hb2 : (ByteArray.toList ⟨pn.toArray⟩ == []) = false := by rw [hb]; exact decide_eq_false he
          have HN3 := hid (HN2.out he)
          have BM := hid (below_al (Below.refl wr.heap.size wr) (.cells #[.string ⟨pn.toArray⟩, .string ⟨pv.toArray⟩] 32))
          have FIN : Hid (∀ ad' cap' W w', Below wr.heap.size wr W → w'.ownsRow w.heap.size 9 1 (.slice ad' (k + 1) cap') (k + 1) (YS ++ [.string ⟨TX.toArray⟩]) → Keep (fun j => (Value.slice ad1 k cp1).ownBlock = some j) W w' → Hid (w'.ownsRow w.heap.size 9 1 (.slice ad' (k + 1) cap') (k + 1) (ss (txP (l.take (k + 1))))) ∧ Hid (Below w.heap.size w w')) := fun ad' cap' W w' hW hr hk' => by
            refine ⟨?_, (below_on HB.out hW).trans (keep_below hk' (fun j hj e => by have := ownsRow_ge HR.out e; omega) (Nat.le_trans HB.out.size hW.size))⟩
            show World.ownsRow _ _ _ _ _ _ _
            rw [HPL.out]; exact hr
          generalize (⟨pn.toArray⟩ : ByteArray) = NA at *
          generalize (⟨pv.toArray⟩ : ByteArray) = VA at *
          clear hb he HB2 HN2 HPL
          go_wp2_with fail
          refine (PT.out _).mono ?_
          rintro e w1 ⟨rfl, b1⟩
          have BW := hid (below_on BM.out b1)
          have HGA : Hid ((w1.alloc (.cells #[.string ⟨TX.toArray⟩] 9)).ownsRow w.heap.size 9 1 (.slice ad1 k cp1) k YS) := ((below_al BW.out _).keep (fun _ => False)).ownsRow HR.out (fun _ _ h => h)
          have HGS : Hid (w.heap.size ≤ (w1.alloc (.cells #[.string ⟨TX.toArray⟩] 9)).heap.size) := Nat.le_trans HB.out.size (below_al BW.out _).size
          have HGX : Hid (GSrc (w1.alloc (.cells #[.string ⟨TX.toArray⟩] 9)) (.slice (some ⟨w1.heap.size, 0, none⟩) 1 1) 1 [.string ⟨TX.toArray⟩]) := gsrc_block (heap_alloc_new _ _)
          have HX2 : Hid ([Value.string ⟨TX.toArray⟩].length = 1 * 1) := rfl
          have HO1 : Hid (∀ u ∈ [Value.string ⟨TX.toArray⟩], u.oneCell' = true) := fun u hu => by simp at hu; subst hu; rfl
          have HBA := hid (below_al BW.out (.cells #[.string ⟨TX.toArray⟩] 9))
          clear b1 PT BM d0 d1 HR HB BW
          generalize (⟨TX.toArray⟩ : ByteArray) = TA at *
          go_wp2_with (at_builtin; refine wpl_gappL rfl _ _ elS rfl w.heap.size (.slice ad1 k cp1) (.slice (some ⟨w1.heap.size, 0, none⟩) 1 1) YS [.string TA] k 1 (k + 1) rfl rfl rfl HGA.out HGS.out HGX.out HX2.out HO1.out HB16.out HB17.out ?_; intro ad' cap' w' hr' hk')
          obtain ⟨F1, F2⟩ := FIN.out _ _ _ _ HBA.out hr' hk'
          exact ⟨⟨k + 1, _, _, HLT.out, rfl, by first | rw [hwk] | rfl | simp, F1, F2, HN3⟩, by (try rw [hwk]); have := HLT.out; simp [intOf]; omega⟩
      · have hke : k = l.length := by omega
        have hd1 : decide ((k : Int) < (l.length : Int)) = false := decide_eq_false (by omega)
        have hd2 : decide (k < l.length) = false := decide_eq_false hlt
        subst hke
        rw [HZ.out] at HR HN
        have HF := hid (HOK.out HN.out)
        have Q := hid (HJN.out _ _ _ HR.out)
        clear HC HBAD HOK HSZ HTK HJN HZ HR HN HL hlt hk
        generalize joinB 38 (l.map pqT) = JB at *
        go_wp2_with fail
        refine Q.out.mono ?_
        rintro e w1 ⟨rfl, b1⟩
        have HE := hid (below_on HB.out b1)
        clear Q b1 HB
        go_wp2
        go_ret2
        exact ⟨by rw [HF.out]; rfl, HE.out⟩
end Go.Proofs.YtnohkhgoejjfhaaDoor
