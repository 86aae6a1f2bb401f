/- Joined: Worlds that are alike but for some blocks, and what is new. The walks of names: which texts may be one. The walk of the document's names. -/
import Derived.Test.YtefbioainibmaaaGreatDoorFM
import Derived.Test.YtefbioainibmaaaGreatDoorJoined03
namespace Go.Proofs.YtefbioainibmaaaGreatDoor
open Go.RowKit Go.Maps
set_option linter.unusedVariables false

/-- the worlds are alike but for the blocks of S and what is new -/
structure Keep (S : Nat → Prop) (w w' : World) : Prop where
  os : w'.os = w.os
  tape : w'.tape = w.tape
  output : w'.output = w.output
  size : w.heap.size ≤ w'.heap.size
  block : ∀ k, k < w.heap.size → ¬ S k → w'.heap[k]? = w.heap[k]?
section
variable {S T : Nat → Prop} {a b c w : World}
theorem Keep.refl (S : Nat → Prop) (w : World) : Keep S w w := ⟨rfl, rfl, rfl, Nat.le_refl _, fun _ _ _ => rfl⟩
theorem Keep.trans (h : Keep S a b) (k : Keep S b c) : Keep S a c :=
  ⟨k.os.trans h.os, k.tape.trans h.tape, k.output.trans h.output, Nat.le_trans h.size k.size, fun i hi hg => (k.block i (Nat.lt_of_lt_of_le hi h.size) hg).trans (h.block i hi hg)⟩
theorem Keep.mono (h : Keep S a b) (hs : ∀ k, k < a.heap.size → S k → T k) : Keep T a b := ⟨h.os, h.tape, h.output, h.size, fun k hk hn => h.block k hk (fun hS => hn (hs k hk hS))⟩
/-- behind a first part what is new may be turned as well -/
theorem Keep.then (h : Keep S a b) (k : Keep T b c) (hT : ∀ j, j < a.heap.size → T j → S j) : Keep S a c :=
  ⟨k.os.trans h.os, k.tape.trans h.tape, k.output.trans h.output, Nat.le_trans h.size k.size, fun i hi hg => (k.block i (Nat.lt_of_lt_of_le hi h.size) (fun e => hg (hT i hi e))).trans (h.block i hi hg)⟩
theorem _root_.Go.RowKit.Below.keep (h : Below w.heap.size w a) (S : Nat → Prop) : Keep S w a := ⟨h.os, h.tape, h.output, h.size, fun k hk _ => h.block k hk⟩
theorem keep_below {B : Nat} (h : Keep S a b) (hS : ∀ k, k < B → ¬ S k) (hs : B ≤ a.heap.size) : Below B a b := ⟨h.os, h.tape, h.output, h.size, fun k hk => h.block k (by omega) (hS k hk)⟩
theorem keep_setCell (w : World) (g o : Nat) (u : Value) : Keep (· = g) w (w.setCell ⟨g, o, none⟩ u) := ⟨rfl, rfl, rfl, by simp [World.setCell], fun k _ hg => Below.heap_setCell _ _ _ _ hg⟩
theorem keep_setCells (w : World) (g o : Nat) (vs : List Value) : Keep (· = g) w (w.setCells g o vs) :=
  ⟨World.os_setCells w g o vs, setCells_tape g vs o w, World.output_setCells w g o vs, by rw [setCells_size]; exact Nat.le_refl _, fun k hk hg => World.heap_setCells_other w g o vs hk hg⟩
theorem keep_alloc (S : Nat → Prop) (w : World) (o : Obj) : Keep S w (w.alloc o) := (((Below.refl w.heap.size w).alloc (Nat.le_refl _) o)).keep S
theorem keep_drew (S : Nat → Prop) (w : World) : Keep S w w.drew := ⟨rfl, rfl, rfl, Nat.le_refl _, fun _ _ _ => rfl⟩
theorem keep_map {g : Nat} (h : w.mapTurned a g) : Keep (· = g) w a := ⟨h.grown.os, h.grown.tape, h.grown.output, h.grown.size, fun k hk hg => h.grown.block k hk (by simpa using hg)⟩
theorem keep_turn {mo : Option Nat} (h : Turn w a mo) : Keep (fun k => mo = some k) w a := by
  cases mo with
  | none => have h' : a = w := h; rw [h']; exact Keep.refl _ _
  | some g => exact (keep_map (g := g) h).mono fun k _ e => by rw [e]
theorem Keep.cell (h : Keep S a b) {g o : Nat} (hg : g < a.heap.size) (hS : ¬ S g) : b.cell? ⟨g, o, none⟩ = a.cell? ⟨g, o, none⟩ := by simp [World.cell?, h.block g hg hS]
theorem Keep.mapIs (h : Keep S a b) {g : Nat} {L : List (Bs × Value)} (hm : MapIs a g L) (hS : ¬ S g) : MapIs b g L := by
  have hlt := hm.lt
  obtain ⟨es, clock, hb, r⟩ := hm
  exact ⟨es, clock, (h.block g hlt hS).trans hb, r⟩
theorem Keep.mapV (h : Keep S a b) {mo : Option Nat} {L : List (Bs × Value)} (hm : MapV a mo L) (hS : ∀ g, mo = some g → ¬ S g) : MapV b mo L := by
  rcases hm with h0 | ⟨g, rfl, hm⟩
  · exact .inl h0
  · exact .inr ⟨g, rfl, h.mapIs hm (hS g rfl)⟩
end
theorem mapIs_made (w : World) : MapIs (w.alloc (.map #[] 0)) w.heap.size [] := mapIs_of (World.ownsMap_made w Tryz.prog 9 rawE)

/-- a row of cells -/
def RowIs (w : World) (g : Nat) (cs : List Value) (t : TypeId) : Prop := w.heap[g]? = some (.cells cs.toArray t (0, 0))
theorem RowIs.cell {w : World} {g : Nat} {cs : List Value} {t : TypeId} (h : RowIs w g cs t) (o : Nat) : w.cell? ⟨g, o, none⟩ = cs[o]? := by rw [cell_of_row _ _ _ _ _ _ h]; simp
theorem RowIs.cellAt {w : World} {g o : Nat} {cs : List Value} {t : TypeId} {v : Value} (h : RowIs w g cs t) (hv : cs[o]? = some v) : w.cell? ⟨g, o, none⟩ = some v := (h.cell o).trans hv
theorem RowIs.frozen {w : World} {g o : Nat} {cs : List Value} {t : TypeId} (h : RowIs w g cs t) : w.frozen? ⟨g, o, none⟩ = false := by unfold World.frozen?; rw [h]; simp
theorem RowIs.lt {w : World} {g : Nat} {cs : List Value} {t : TypeId} (h : RowIs w g cs t) : g < w.heap.size := (Array.getElem?_eq_some_iff.1 h).1
theorem RowIs.set {w : World} {g : Nat} {cs : List Value} {t : TypeId} (h : RowIs w g cs t) (o : Nat) (v : Value) : RowIs (w.setCell ⟨g, o, none⟩ v) g (cs.set o v) t := by
  unfold RowIs; rw [heap_setCell_same _ _ _ _ _ _ h, List.setIfInBounds_toArray]
theorem RowIs.keep {S : Nat → Prop} {w w' : World} {g : Nat} {cs : List Value} {t : TypeId} (h : RowIs w g cs t) (k : Keep S w w') (hS : ¬ S g) : RowIs w' g cs t := (k.block g h.lt hS).trans h
end Go.Proofs.YtefbioainibmaaaGreatDoor
namespace Go.Proofs.YtefbioainibmaaaGreatDoor
open Go.RowKit
set_option linter.unusedVariables false
set_option linter.unusedSimpArgs false

/-- may a byte stand in a name? -/
def inN (n : Nat) : Bool := (decide (97 ≤ n) && decide (n ≤ 122)) || (decide (48 ≤ n) && decide (n ≤ 57)) || n == 46 || n == 45
/-- may a text be a name? -/
def nameOk (l : Bs) : Bool := decide (0 < l.length) && decide (l.length ≤ 80) && l.all fun c => inN c.toNat

theorem ret_bool {a b : Bool} (h : a = b) : Ending.returned (.bool a) = .returned (.bool b) := by rw [h]
set_option maxRecDepth 100000 in
set_option maxHeartbeats 2000000 in
theorem inName_any (c : UInt8) (w : World) : Calls Tryz.prog 157 #[.int .u8 (c.toNat : Int)] w fun e w' => e = .returned (.bool (inN c.toNat)) ∧ w' = w := by
  generalize c.toNat = n
  unfold inN
  by_cases h1 : (97 : Int) ≤ (n : Int) <;> by_cases h2 : (n : Int) ≤ 122 <;> by_cases h3 : (48 : Int) ≤ (n : Int) <;> by_cases h4 : (n : Int) ≤ 57 <;> by_cases h5 : (n : Int) = 46
  all_goals first | (exfalso; omega) | skip
  all_goals
    have e1 : decide (97 ≤ n) = decide ((97 : Int) ≤ (n : Int)) := decide_eq_decide.2 (by omega)
    have e2 : decide (n ≤ 122) = decide ((n : Int) ≤ 122) := decide_eq_decide.2 (by omega)
    have e3 : decide (48 ≤ n) = decide ((48 : Int) ≤ (n : Int)) := decide_eq_decide.2 (by omega)
    have e4 : decide (n ≤ 57) = decide ((n : Int) ≤ 57) := decide_eq_decide.2 (by omega)
    have e5 : (n == 46) = decide ((n : Int) = 46) := by rw [Bool.eq_iff_iff]; simp; omega
    have e6 : (n == 45) = ((n : Int) == 45) := by rw [Bool.eq_iff_iff]; simp; omega
    have HE : Hid ((decide (97 ≤ n) && decide (n ≤ 122) || decide (48 ≤ n) && decide (n ≤ 57) || n == 46 || n == 45) = (decide ((97 : Int) ≤ (n : Int)) && decide ((n : Int) ≤ 122) || decide ((48 : Int) ≤ (n : Int)) && decide ((n : Int) ≤ 57) || decide ((n : Int) = 46) || ((n : Int) == 45))) := by show _ = _; rw [e1, e2, e3, e4, e5, e6]
    clear e1 e2 e3 e4 e5 e6
    rw [HE.out]
    clear HE
    go_enter Tryz.func157, Tryz.ntmps157
    go_wp2
    go_ret
    refine ⟨ret_bool ?_, rfl⟩
    first | rfl | simp [h1, h2, h3, h4, h5] | (rw [Bool.eq_iff_iff]; simp; omega)

theorem all_take_succ (s : ByteArray) (k : Nat) (h : k < s.size) : (s.data.toList.take (k + 1)).all (fun c => inN c.toNat) = ((s.data.toList.take k).all (fun c => inN c.toNat) && inN (s[k]).toNat) := by
  rw [List.take_succ_eq_append_getElem (by simpa using h), List.all_append]
  simp
  rfl
theorem not_all {s : ByteArray} {k : Nat} (h : k < s.size) (hc : inN (s[k]).toNat = false) : s.data.toList.all (fun c => inN c.toNat) = false := by
  rw [List.all_eq_false]
  exact ⟨s[k], by have : s[k] = s.data.toList[k]'(by simpa using h) := rfl; rw [this]; exact List.getElem_mem _, by rw [hc]; simp⟩

set_option maxRecDepth 100000 in
set_option maxHeartbeats 2000000 in
theorem name_any (s : ByteArray) (w : World) : Calls Tryz.prog 125 #[.string s] w fun e w' => e = .returned (.bool (nameOk s.data.toList)) ∧ w' = w := by
  have hsz : s.data.toList.length = s.size := by simp
  have HI := show Hid _ from fun c => inName_any c w
  by_cases h0 : s.size = 0
  · have e : nameOk s.data.toList = false := by unfold nameOk; rw [hsz]; simp [h0]
    rw [e]
    have hb : ((s.size : Int) == 0) = true := by rw [h0]; rfl
    clear e hsz HI
    go_enter Tryz.func125, Tryz.ntmps125
    go_wp2
    go_ret
    exact ⟨rfl, rfl⟩
  · have hb : ((s.size : Int) == 0) = false := by rw [beq_eq_false_iff_ne]; omega
    by_cases h1 : s.size ≤ 80
    · have h2 : decide ((80 : Int) < (s.size : Int)) = false := decide_eq_false (by omega)
      have HE : Hid (nameOk s.data.toList = s.data.toList.all fun c => inN c.toNat) := by show _ = _; unfold nameOk; rw [hsz]; simp [h1, Nat.pos_of_ne_zero h0]
      rw [HE.out]
      clear HE hsz
      have HS0 : Hid ((s.data.toList.take 0).all (fun c => inN c.toNat) = true) := rfl
      go_enter Tryz.func125, Tryz.ntmps125
      go_wp2
      go_loopw [14] (fun i wr => ∃ k : Nat, k ≤ s.size ∧ i = .int .i64 k ∧ wr = w ∧ Hid ((s.data.toList.take k).all (fun c => inN c.toNat) = true)) (fun i _ => s.size - (intOf i).toNat)
      case atStart => exact ⟨0, by omega, rfl, rfl, HS0⟩
      case round =>
        clear HS0
        obtain ⟨k, hk, rfl, hwr, HA⟩ := hrel
        subst hwr
        by_cases hlt : k < s.size
        · have hk0 : (0 : Int) ≤ (k : Int) := by omega
          have hk1 : (k : Int) < (s.size : Int) := by omega
          have HT := show Hid _ from all_take_succ s k hlt
          have HN := show Hid _ from not_all (s := s) (k := k) hlt
          generalize hc : s[k] = c at HT HN
          cases hi : inN c.toNat with
          | true =>
            have HI2 : Hid (Calls Tryz.prog 157 #[.int .u8 (c.toNat : Int)] wr fun e w' => e = .returned (.bool true) ∧ w' = wr) := by have := HI.out c; rw [hi] at this; exact this
            rw [hi, HA.out] at HT
            clear hi HN HA
            go_wp2_with fail
            refine HI2.out.mono ?_
            rintro e w1 ⟨rfl, rfl⟩
            go_wp2
            exact ⟨⟨k + 1, by omega, by go_num, by trivial, HT.out⟩, by simp [intOf]; omega⟩
          | false =>
            have HI2 : Hid (Calls Tryz.prog 157 #[.int .u8 (c.toNat : Int)] wr fun e w' => e = .returned (.bool false) ∧ w' = wr) := by have := HI.out c; rw [hi] at this; exact this
            have HF : Hid (false = s.data.toList.all fun c => inN c.toNat) := (HN.out hi).symm
            clear hi HN HA HT
            go_wp2_with fail
            refine HI2.out.mono ?_
            rintro e w1 ⟨rfl, rfl⟩
            go_wp2
            go_ret
            exact ⟨ret_bool HF.out, rfl⟩
        · have hd : decide ((k : Int) < (s.size : Int)) = false := decide_eq_false (by omega)
          have hks : k = s.size := by omega
          have HE : Hid (true = s.data.toList.all fun c => inN c.toNat) := by
            have := HA.out
            rw [hks, List.take_of_length_le (by simp)] at this
            exact this.symm
          clear HA hks
          go_wp2
          go_ret
          exact ⟨ret_bool HE.out, rfl⟩
    · have h2 : (80 : Int) < (s.size : Int) := by omega
      have e : nameOk s.data.toList = false := by unfold nameOk; rw [hsz]; simp [h1]
      rw [e]
      clear e hsz HI
      go_enter Tryz.func125, Tryz.ntmps125
      go_wp2
      go_ret
      exact ⟨rfl, rfl⟩
end Go.Proofs.YtefbioainibmaaaGreatDoor
namespace Go.Proofs.YtefbioainibmaaaGreatDoor
open Go.RowKit
set_option linter.unusedVariables false
set_option linter.unusedSimpArgs false

end Go.Proofs.YtefbioainibmaaaGreatDoor
