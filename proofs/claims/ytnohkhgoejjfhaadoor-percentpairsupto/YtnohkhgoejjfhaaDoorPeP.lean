/- Pairs as the document has them; pairs held against each other; the value of a name. -/
import Derived.Test.YtnohkhgoejjfhaaDoorPeO
import Derived.Test.YtnohkhgoejjfhaaDoorGApS
import Derived.Deep.QuietTactic
import Derived.BigQuiet
namespace Go.Proofs.YtnohkhgoejjfhaaDoor
open Go.RowKit Go.Maps Go.Shelf
set_option linter.unusedVariables false
set_option linter.unusedSimpArgs false

theorem elRq : ElT 35 57 2 32 := ⟨Tryd.underlying35, ⟨.agg #[.string ⟨#[]⟩, .string ⟨#[]⟩], by kernel_rfl, rfl⟩, by decide⟩
theorem pqC_take (l : List Pq) (k : Nat) (hk : k < l.length) : pqC (l.take (k + 1)) = pqC (l.take k) ++ [.string ⟨l[k].1.toArray⟩, .string ⟨l[k].2.toArray⟩] := by
  rw [List.take_succ_eq_append_getElem hk, pqC_app]
  simp [pqC]
/-- a call that gives pairs in a row of its own -/
def GiveR (w : World) (l : List Pq) (e : Ending) (w' : World) : Prop := ∃ ad cap, e = .returned (.slice ad l.length cap) ∧ w'.ownsRow w.heap.size 57 2 (.slice ad l.length cap) l.length (pqC l) ∧ Below w.heap.size w w'
set_option maxRecDepth 100000 in
set_option maxHeartbeats 4000000 in
theorem refs18_any (v : Value) (l : List Pq) (w : World) (hv : PqI w v l) (hl : l.length ≤ 1048576) : Calls Tryd.prog 17 #[v] w (GiveR w l) := by
  obtain ⟨ad, cap, rfl, hc⟩ := hv.form
  have HL := hid hl
  have HC := hid hc
  have HTK := hid (fun k hk => pqC_take l k hk)
  have HZ : Hid (l.take l.length = l) := List.take_length
  have HR0 : Hid (w.ownsRow w.heap.size 57 2 (.slice none 0 0) 0 (pqC (l.take 0))) := ⟨rfl, .inl ⟨rfl, rfl⟩⟩
  clear hc hv hl
  go_enter Tryd.func17, Tryd.ntmps17
  go_wp2
  go_loopw [3, 4] (fun o i wr => ∃ (k : Nat) (ad1 : Option Addr) (cp1 : Nat), k ≤ l.length ∧ o = .slice ad1 k cp1 ∧ i = .int .i64 (k : Int) ∧ Hid (wr.ownsRow w.heap.size 57 2 (.slice ad1 k cp1) k (pqC (l.take k))) ∧ Hid (Below w.heap.size w wr)) (fun _ i _ => l.length - (intOf i).toNat)
  case atStart => exact ⟨0, none, 0, Nat.zero_le _, rfl, rfl, HR0, Below.refl _ _⟩
  case round =>
    clear HR0
    obtain ⟨k, ad1, cp1, hk, rfl, rfl, HR, HB⟩ := hrel
    rename World => wr
    by_cases hlt : k < l.length
    · have hk1 : (k : Int) < (l.length : Int) := by omega
      have hk0 : (0 : Int) ≤ (k : Int) := by omega
      obtain ⟨b, off, rfl, hb, c0, c1⟩ := HC.out k hlt
      have d0 := (HB.out.cell (p := ⟨b, off + k * 2, none⟩) hb).trans c0
      have d1 := (HB.out.cell (p := ⟨b, off + k * 2 + 1, none⟩) hb).trans c1
      have hwk : wrap64 ((k : Int) + 1) = ((k + 1 : Nat) : Int) := by have := HL.out; rw [IntWalk.wrap64_in _ (by omega)]; omega
      have HLT := hid hlt
      have HPL := hid (HTK.out k hlt)
      have HB16 : Hid (k + 1 ≤ 4611686018427387904) := by have := HL.out; show _ ≤ _; omega
      have HB17 : Hid ((k + 1) * 32 ≤ 140737488355328) := by have := HL.out; show _ ≤ _; omega
      clear HC c0 c1 hb HZ HTK HL
      generalize pqC (l.take k) = YS at *
      generalize (⟨l[k].1.toArray⟩ : ByteArray) = NA at *
      generalize (⟨l[k].2.toArray⟩ : ByteArray) = VA at *
      clear hlt hk
      have HGA : Hid ((wr.alloc (.cells #[.string NA, .string VA] 57)).ownsRow w.heap.size 57 2 (.slice ad1 k cp1) k YS) := ((below_al (Below.refl wr.heap.size wr) _).keep (fun _ => False)).ownsRow HR.out (fun _ _ h => h)
      have HGS : Hid (w.heap.size ≤ (wr.alloc (.cells #[.string NA, .string VA] 57)).heap.size) := Nat.le_trans HB.out.size (below_al (Below.refl _ _) _).size
      have HGX : Hid (GSrc (wr.alloc (.cells #[.string NA, .string VA] 57)) (.slice (some ⟨wr.heap.size, 0, none⟩) 1 1) 1 [.string NA, .string VA]) := gsrc_block (heap_alloc_new _ _)
      have HX2 : Hid ([Value.string NA, Value.string VA].length = 1 * 2) := rfl
      have HO1 : Hid (∀ u ∈ [Value.string NA, Value.string VA], u.oneCell' = true) := fun u hu => by simp at hu; rcases hu with rfl | rfl <;> rfl
      have FIN : Hid (∀ ad' cap' w', w'.ownsRow w.heap.size 57 2 (.slice ad' (k + 1) cap') (k + 1) (YS ++ [.string NA, .string VA]) → Keep (fun j => (Value.slice ad1 k cp1).ownBlock = some j) (wr.alloc (.cells #[.string NA, .string VA] 57)) w' → Hid (w'.ownsRow w.heap.size 57 2 (.slice ad' (k + 1) cap') (k + 1) (pqC (l.take (k + 1)))) ∧ Hid (Below w.heap.size w w')) := fun ad' cap' w' hr hk' => by
        refine ⟨?_, (below_on HB.out (below_al (Below.refl _ _) _)).trans (keep_below hk' (fun j hj e => by have := ownsRow_ge HR.out e; omega) HGS.out)⟩
        show World.ownsRow _ _ _ _ _ _ _
        rw [HPL.out]; exact hr
      clear HR HB HPL
      go_wp2_with (at_builtin; refine wpl_gappL rfl _ _ elRq rfl w.heap.size (.slice ad1 k cp1) (.slice (some ⟨wr.heap.size, 0, none⟩) 1 1) YS [.string NA, .string VA] k 1 (k + 1) rfl rfl rfl HGA.out HGS.out HGX.out HX2.out HO1.out HB16.out HB17.out ?_; intro ad' cap' w' hr' hk')
      obtain ⟨F1, F2⟩ := FIN.out _ _ _ hr' hk'
      exact ⟨⟨k + 1, _, _, HLT.out, rfl, by first | rw [hwk] | rfl | simp, F1, F2⟩, by (try rw [hwk]); have := HLT.out; simp [intOf]; omega⟩
    · have hke : k = l.length := by omega
      have hd1 : decide ((k : Int) < (l.length : Int)) = false := decide_eq_false (by omega)
      have hd2 : decide (k < l.length) = false := decide_eq_false hlt
      subst hke
      rw [HZ.out] at HR
      clear HC HTK HZ HL hlt hk
      go_wp2
      go_ret
      exact ⟨ad1, cp1, rfl, HR.out, HB.out⟩
theorem neqR (X Y A B : ByteArray) (W : World) : (binOp .neq 57 (.agg #[.string X, .string A]) (.agg #[.string Y, .string B])).run Tryd.prog W = .ok (.bool (!(X.toList == Y.toList && A.toList == B.toList))) W := by
  have u9 := Tryd.underlying9
  have z9 := Tryd.sizeOf9
  have a9 := Tryd.isAgg9
  have hS : Tryd.prog.underlying 57 = some (.struct (Tryd.prog.fieldsOf 57)) := by kernel_rfl
  have hp : Tryd.prog.stoodInHeld 57 = false := by kernel_rfl
  rw [run_neq_struct, show (10000 : Nat) = 9999 + 1 from rfl, run_equalIn_agg W 9999 57 _ _ hS hp]
  simp only [Program.fieldsOf, Tryd.underlying57]
  go_simp
  by_cases h1 : X.toList = Y.toList <;> by_cases h2 : A.toList = B.toList <;> simp [h1, h2]
theorem guardR : Tryd.prog.eqGuardType Tryd.prog.depth 57 = false := by kernel_rfl
set_option maxRecDepth 100000 in
set_option maxHeartbeats 4000000 in
theorem rsame18_true (v u : Value) (l : List Pq) (w : World) (hv : PqI w v l) (hu : PqI w u l) (hl : l.length ≤ 1048576) : Calls Tryd.prog 22 #[v, u] w fun e w' => e = .returned (.bool true) ∧ Below w.heap.size w w' := by
  obtain ⟨ad, cap, rfl, hc⟩ := hv.form
  obtain ⟨ad2, cap2, rfl, hc2⟩ := hu.form
  have HC := hid hc
  have HC2 := hid hc2
  have HL := hid hl
  have gR := guardR
  have hbl : ((l.length : Int) != (l.length : Int)) = false := by simp
  clear hc hv hu hc2 hl
  go_enter Tryd.func22, Tryd.ntmps22
  go_wp2
  go_loopw [5] (fun i wr => ∃ (k : Nat), k ≤ l.length ∧ i = .int .i64 (k : Int) ∧ Hid (Below w.heap.size w wr)) (fun i _ => l.length - (intOf i).toNat)
  case atStart => exact ⟨0, Nat.zero_le _, rfl, Below.refl _ _⟩
  case round =>
    obtain ⟨k, hk, rfl, HB⟩ := hrel
    rename World => wr
    by_cases hlt : k < l.length
    · have hk1 : (k : Int) < (l.length : Int) := by omega
      have hk0 : (0 : Int) ≤ (k : Int) := by omega
      obtain ⟨b, off, rfl, hb, c0, c1⟩ := HC.out k hlt
      obtain ⟨b2, off2, rfl, hb2, e0, e1⟩ := HC2.out k hlt
      have d0 := (HB.out.cell (p := ⟨b, off + k * 2, none⟩) hb).trans c0
      have d1 := (HB.out.cell (p := ⟨b, off + k * 2 + 1, none⟩) hb).trans c1
      have f0 := (HB.out.cell (p := ⟨b2, off2 + k * 2, none⟩) hb2).trans e0
      have f1 := (HB.out.cell (p := ⟨b2, off2 + k * 2 + 1, none⟩) hb2).trans e1
      have hwk : wrap64 ((k : Int) + 1) = ((k + 1 : Nat) : Int) := by have := HL.out; rw [IntWalk.wrap64_in _ (by omega)]; omega
      have HLT := hid hlt
      generalize (⟨l[k].1.toArray⟩ : ByteArray) = NA at *
      generalize (⟨l[k].2.toArray⟩ : ByteArray) = VA at *
      have hN : ∀ W, (binOp .neq 57 (.agg #[.string NA, .string VA]) (.agg #[.string NA, .string VA])).run Tryd.prog W = .ok (.bool false) W := fun W => by rw [neqR]; simp
      have HBN : Hid (∀ n, Below w.heap.size w (wr.drewN n)) := fun n => below_drewN HB.out n
      clear HC HC2 c0 c1 e0 e1 hb hb2 HL hlt hk HB
      go_wp2
      go_quiet (fail)
      go_wp2
      exact ⟨⟨k + 1, HLT.out, by first | rw [hwk] | rfl | simp, HBN.out _⟩, by (try rw [hwk]); have := HLT.out; simp [intOf]; omega⟩
    · have hd1 : decide ((k : Int) < (l.length : Int)) = false := decide_eq_false (by omega)
      have hd2 : decide (k < l.length) = false := decide_eq_false hlt
      clear HC HC2 HL
      go_wp2
      go_ret
      exact ⟨rfl, HB.out⟩
end Go.Proofs.YtnohkhgoejjfhaaDoor
