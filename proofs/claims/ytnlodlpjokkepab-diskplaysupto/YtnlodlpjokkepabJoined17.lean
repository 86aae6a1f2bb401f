/- Joined: A step of the law DiskPlays: falls are planned. A step of the law DiskPlays, as a whole. The walk of the law DiskPlays. Acts that came in, for the law DiskPlays. -/
import Derived.Test.YtnlodlpjokkepabJoined12
import Derived.Test.YtnlodlpjokkepabJoined16
import Derived.Deep.RegionHeld3
import Derived.Deep.RegionLaw
import Derived.Deep.CutRange
import Derived.Test.YtnlodlpjokkepabJoined13
import Derived.Test.YtnlodlpjokkepabJoined14
import Derived.Test.YtnlodlpjokkepabJoined15
namespace Go.Proofs.Ytnlodlpjokkepab
open Go.RowKit Go.Maps
set_option linter.unusedVariables false
set_option linter.unusedSimpArgs false

theorem Both.p_not {P : Nat → Prop} {w0 w : World} {p : Nat} {su wa fa : Value} {ms : List RC} {dp dr : Ds} (h : Both P w0 w p su wa fa ms dp dr) : ¬ P p := by
  obtain ⟨⟨c, ⟨R, D⟩, h0, _⟩, _, _⟩ := h
  intro hp
  have := h0 p hp; have := D.cp; omega
theorem plan_fin {P : Nat → Prop} {w0 W : World} {p : Nat} {v : Value} {l : List Fl} (h : bulks.PlanIn w0 v l) (hI : ∀ j, j < w0.heap.size → P j) (k : Keep (fun j => ¬ P j) w0 W) (hp : ¬ P p) : FIn W p v l := by
  rcases h with h | ⟨g, off, cap, e, hg, hc⟩
  · exact .inl h
  · have hn : ¬ ¬ P g := fun h => h (hI g hg)
    exact .inr ⟨g, off, cap, e, fun e2 => hp (e2 ▸ hI g hg), Nat.lt_of_lt_of_le hg k.size, fun j hj => by rw [k.cell hg hn, k.cell hg hn, k.cell hg hn]; exact hc j hj⟩
theorem plan_cells {P : Nat → Prop} {w0 W : World} {ad : Option Addr} {n cp : Nat} {l : List Fl} (h : bulks.PlanIn w0 (.slice ad n cp) l) (hI : ∀ j, j < w0.heap.size → P j) (k : Keep (fun j => ¬ P j) w0 W) (j : Nat) (hj : j < l.length) : ∃ g off, ad = some ⟨g, off, none⟩ ∧ W.cell? ⟨g, off + j * 3, none⟩ = some (.int .i64 l[j].at_) ∧ W.cell? ⟨g, off + j * 3 + 1, none⟩ = some (.int .i64 l[j].keep) ∧ W.cell? ⟨g, off + j * 3 + 2, none⟩ = some (.int .i64 l[j].torn) ∧ g < w0.heap.size := by
  rcases h with ⟨ad', cap, e, e2⟩ | ⟨g, off, cap, e, hg, hc⟩
  · rw [e2] at hj; cases hj
  · injection e with e1 e2 e3
    refine ⟨g, off, e1, ?_⟩
    have hn : ¬ ¬ P g := fun h => h (hI g hg)
    rw [k.cell hg hn, k.cell hg hn, k.cell hg hn]
    obtain ⟨q0, q1, q2⟩ := hc j hj
    exact ⟨q0, q1, q2, hg⟩

set_option maxRecDepth 100000 in
set_option maxHeartbeats 4000000 in
theorem one_8 (P : Nat → Prop) (w0 : World) (p : Nat) (a1 a2 a3 : Option Addr) (x1 c1 x2 c2 x3 c3 : Nat) (ms : List RC) (d : Ds) (rm : Int) (k B : Nat) (NM TT SX : ByteArray) (NN F0 F1 F2 : Int) (ad : Option Addr) (np cp : Nat) (w : World) (h : Both P w0 w p (.slice a1 x1 c1) (.slice a2 x2 c2) (.slice a3 x3 c3) ms d d) (hP : PI d k B) (hB : B ≤ 7036874417) (l : List Fl) (hnp : np = l.length) (wI : World) (hpl : bulks.PlanIn wI (.slice ad np cp) l) (hI : ∀ j, j < wI.heap.size → P j) (hKI : Keep (fun j => ¬ P j) wI w0) (hll : l.length ≤ 1048576) (hwf : ∀ x ∈ l, (Lit.int .i64 x.at_).wf = true) :
    Calls Try.prog 12 #[.pointer (some ⟨p, 0, none⟩), .agg #[.slice a1 x1 c1, .slice a2 x2 c2, .int .i64 (d.n : Int), .bool d.dn, .slice a3 x3 c3, .int .i64 rm], .agg #[.int .i64 8, .string NM, .string TT, .string SX, .int .i64 NN, .int .i64 F0, .int .i64 F1, .int .i64 F2, .slice ad np cp]] w fun e w' => OneP P w0 w' ({ d with fl := l } : Ds) rm e := by
  subst hnp
  have FD : Hid (∀ W, Keep (fun _ => False) w W → Calls Try.prog 27 #[.pointer (some ⟨p, 0, none⟩), .slice ad l.length cp] W fun e w' => e = .returned (.tuple #[]) ∧ RefIs w' (.slice a1 x1 c1) (.slice a2 x2 c2) (.slice a3 x3 c3) ms d ∧ Keep (fun j => j < w.heap.size) W w' ∧ Goes P w0 w.heap.size W.heap.size p (.slice a1 x1 c1) (.slice a2 x2 c2) (.slice a3 x3 c3) ({ d with fl := l } : Ds) w') := fun W hW => h.dpair2 hW (fun c D => plan_any p c d _ l W D (plan_fin hpl hI ((hKI.trans h.keep).trans (hW.mono (fun _ _ h => h.elim))) h.p_not) (by omega) hwf)
  have PC : Hid (∀ W, Keep (fun j => ¬ P j) wI W → ∀ (j : Nat) (hj : j < l.length), ∃ g off, ad = some ⟨g, off, none⟩ ∧ W.cell? ⟨g, off + j * 3, none⟩ = some (.int .i64 l[j].at_) ∧ W.cell? ⟨g, off + j * 3 + 1, none⟩ = some (.int .i64 l[j].keep) ∧ W.cell? ⟨g, off + j * 3 + 2, none⟩ = some (.int .i64 l[j].torn) ∧ g < wI.heap.size) := fun W hW => plan_cells hpl hI hW
  have HKI := hid hKI
  have HPW : Hid (∀ j, P j → j < w.heap.size) := fun j hj => (h.disk.choose_spec.2.1 j hj).1
  clear h hP hB hpl hwf hI hKI
  go_enter Try.func12, Try.ntmps12
  go_wp2_with fail
  have z1 : (w.alloc (.cells #[.slice a1 x1 c1, .slice a2 x2 c2, .int .i64 (d.n : Int), .bool d.dn, .slice a3 x3 c3, .int .i64 rm] 30)).heap.size = w.heap.size + 1 := by simp
  have z2 : ((w.alloc (.cells #[.slice a1 x1 c1, .slice a2 x2 c2, .int .i64 (d.n : Int), .bool d.dn, .slice a3 x3 c3, .int .i64 rm] 30)).alloc (.cells #[.int .i64 8, .string NM, .string TT, .string SX, .int .i64 NN, .int .i64 F0, .int .i64 F1, .int .i64 F2, .slice ad l.length cp] 38)).heap.size = w.heap.size + 1 + 1 := by simp
  have z3 : (((w.alloc (.cells #[.slice a1 x1 c1, .slice a2 x2 c2, .int .i64 (d.n : Int), .bool d.dn, .slice a3 x3 c3, .int .i64 rm] 30)).alloc (.cells #[.int .i64 8, .string NM, .string TT, .string SX, .int .i64 NN, .int .i64 F0, .int .i64 F1, .int .i64 F2, .slice ad l.length cp] 38)).alloc (.cells #[.slice none 0 0, .slice none 0 0, .int .i64 0, .bool false, .slice none 0 0, .int .i64 0] 30)).heap.size = w.heap.size + 1 + 1 + 1 := by simp
  have rd : RowIs (((w.alloc (.cells #[.slice a1 x1 c1, .slice a2 x2 c2, .int .i64 (d.n : Int), .bool d.dn, .slice a3 x3 c3, .int .i64 rm] 30)).alloc (.cells #[.int .i64 8, .string NM, .string TT, .string SX, .int .i64 NN, .int .i64 F0, .int .i64 F1, .int .i64 F2, .slice ad l.length cp] 38)).alloc (.cells #[.slice none 0 0, .slice none 0 0, .int .i64 0, .bool false, .slice none 0 0, .int .i64 0] 30)) w.heap.size [.slice a1 x1 c1, .slice a2 x2 c2, .int .i64 (d.n : Int), .bool d.dn, .slice a3 x3 c3, .int .i64 rm] 30 := (RowIs.keep (heap_alloc_new _ _) (keep_alloc (fun _ => False) _ _) (fun h => h)).keep (keep_alloc (fun _ => False) _ _) (fun h => h)
  have ra : RowIs (((w.alloc (.cells #[.slice a1 x1 c1, .slice a2 x2 c2, .int .i64 (d.n : Int), .bool d.dn, .slice a3 x3 c3, .int .i64 rm] 30)).alloc (.cells #[.int .i64 8, .string NM, .string TT, .string SX, .int .i64 NN, .int .i64 F0, .int .i64 F1, .int .i64 F2, .slice ad l.length cp] 38)).alloc (.cells #[.slice none 0 0, .slice none 0 0, .int .i64 0, .bool false, .slice none 0 0, .int .i64 0] 30)) (w.heap.size + 1) [.int .i64 8, .string NM, .string TT, .string SX, .int .i64 NN, .int .i64 F0, .int .i64 F1, .int .i64 F2, .slice ad l.length cp] 38 := RowIs.keep (by rw [← z1]; exact heap_alloc_new _ _) (keep_alloc (fun _ => False) _ _) (fun h => h)
  have rr : RowIs (((w.alloc (.cells #[.slice a1 x1 c1, .slice a2 x2 c2, .int .i64 (d.n : Int), .bool d.dn, .slice a3 x3 c3, .int .i64 rm] 30)).alloc (.cells #[.int .i64 8, .string NM, .string TT, .string SX, .int .i64 NN, .int .i64 F0, .int .i64 F1, .int .i64 F2, .slice ad l.length cp] 38)).alloc (.cells #[.slice none 0 0, .slice none 0 0, .int .i64 0, .bool false, .slice none 0 0, .int .i64 0] 30)) (w.heap.size + 1 + 1) [.slice none 0 0, .slice none 0 0, .int .i64 0, .bool false, .slice none 0 0, .int .i64 0] 30 := by rw [← z2]; exact heap_alloc_new _ _
  have hk0 := ((keep_alloc (fun _ => False) w (.cells #[.slice a1 x1 c1, .slice a2 x2 c2, .int .i64 (d.n : Int), .bool d.dn, .slice a3 x3 c3, .int .i64 rm] 30)).trans (keep_alloc _ _ (.cells #[.int .i64 8, .string NM, .string TT, .string SX, .int .i64 NN, .int .i64 F0, .int .i64 F1, .int .i64 F2, .slice ad l.length cp] 38))).trans (keep_alloc _ _ (.cells #[.slice none 0 0, .slice none 0 0, .int .i64 0, .bool false, .slice none 0 0, .int .i64 0] 30))
  generalize (((w.alloc (.cells #[.slice a1 x1 c1, .slice a2 x2 c2, .int .i64 (d.n : Int), .bool d.dn, .slice a3 x3 c3, .int .i64 rm] 30)).alloc (.cells #[.int .i64 8, .string NM, .string TT, .string SX, .int .i64 NN, .int .i64 F0, .int .i64 F1, .int .i64 F2, .slice ad l.length cp] 38)).alloc (.cells #[.slice none 0 0, .slice none 0 0, .int .i64 0, .bool false, .slice none 0 0, .int .i64 0] 30)) = wA at *
  clear z1 z2
  have HK0 := hid hk0
  have HRD := hid rd
  have HRA := hid ra
  have HRR := hid rr
  have HZ3 := hid z3
  clear hk0 rd ra rr z3
  refine (FD.out wA HK0.out).mono ?_
  rintro e w1 ⟨rfl, hR1, hk1, hG1⟩
  have HG1 := hid hG1
  have HR1 := hid hR1
  have rd1 := HRD.out.keep hk1 (fun h => by omega)
  have HRA1 := hid (HRA.out.keep hk1 (fun h => by omega))
  have HRR1 := hid (HRR.out.keep hk1 (fun h => by omega))
  have HRD1 := hid rd1
  have HK01 := hid (hG1 w1 _ _ _ ms d (Keep.refl _ _) hR1 (locv_refl _ _) (locv_refl _ _) (locv_refl _ _)).keep
  have HZ1 : Hid (w.heap.size + 1 + 1 < w1.heap.size) := HRR1.out.lt
  have ROW0 : Hid (RowIs (w1.setCell ⟨w.heap.size, 4, none⟩ (.slice none 0 0)) w.heap.size [.slice a1 x1 c1, .slice a2 x2 c2, .int .i64 (d.n : Int), .bool d.dn, .slice none 0 0, .int .i64 rm] 30) := rd1.set 4 (.slice none 0 0)
  have m4 := rd1.cellAt (o := 4) rfl
  have f4 := rd1.frozen (o := 4)
  clear FD hR1 hk1 hG1 rd1 HRD HRA HRR
  go_wp2
  go_loopw [14] (fun i wr => ∃ (k : Nat) (adk : Option Addr) (cpk : Nat), k ≤ l.length ∧ i = .int .i64 k ∧ Hid (RowIs wr w.heap.size [.slice a1 x1 c1, .slice a2 x2 c2, .int .i64 (d.n : Int), .bool d.dn, .slice adk k cpk, .int .i64 rm] 30) ∧ Hid (wr.ownsRow w1.heap.size 81 3 (.slice adk k cpk) k (fls (l.take k))) ∧ Hid (Keep (fun j => j = w.heap.size) w1 wr)) (fun i _ => l.length - (intOf i).toNat)
  case atStart => exact ⟨0, none, 0, Nat.zero_le _, rfl, ROW0, ⟨rfl, .inl ⟨rfl, rfl⟩⟩, keep_setCell _ _ _ _⟩
  case round =>
    clear ROW0 m4 f4
    obtain ⟨k, adk, cpk, hk, rfl, HRW, HOW, HKW⟩ := hrel
    have hra := HRA1.out.keep HKW.out (fun h => by omega)
    have q8 := hra.cellAt (o := 8) rfl
    have hrw := HRW.out
    have hlw := hrw.lt
    have hla := hra.lt
    have m4 := hrw.cellAt (o := 4) rfl
    by_cases hlt : k < l.length
    · have hk0 : (0 : Int) ≤ (k : Int) := by omega
      have hk1 : (k : Int) < (l.length : Int) := by omega
      have HK0R := hid ((HKI.out.trans HK01.out).then HKW.out (fun j hj e hp => by have := HPW.out j hp; omega))
      obtain ⟨g, off, hg, q0, q1, q2, hgl⟩ := PC.out wr HK0R.out k hlt
      have hgw : g < wr.heap.size := Nat.lt_of_lt_of_le hgl HK0R.out.size
      have HFS : Hid (fls (l.take (k + 1)) = fls (l.take k) ++ flC l[k]) := by show _ = _; rw [List.take_succ_eq_append_getElem hlt, fls_append]; congr 1
      subst hg
      clear PC hgl
      generalize l[k] = f at *
      obtain ⟨AT, KP, TN⟩ := f
      simp only [flC] at q0 q1 q2 HFS
      have HOA : Hid ((wr.alloc (Obj.cells #[.int .i64 AT, .int .i64 KP, .int .i64 TN] 81)).ownsRow w1.heap.size 81 3 (.slice adk k cpk) k (fls (l.take k))) := (keep_alloc (fun _ => False) _ _).ownsRow HOW.out (fun _ _ h => h)
      have HGA : Hid (GSrc (wr.alloc (Obj.cells #[.int .i64 AT, .int .i64 KP, .int .i64 TN] 81)) (.slice (some ⟨wr.heap.size, 0, none⟩) 1 1) 1 [.int .i64 AT, .int .i64 KP, .int .i64 TN]) := gsrc_block (heap_alloc_new _ _)
      have HEA : Hid (w1.heap.size ≤ (wr.alloc (Obj.cells #[.int .i64 AT, .int .i64 KP, .int .i64 TN] 81)).heap.size) := Nat.le_trans HKW.out.size (keep_alloc (fun _ => False) wr _).size
      have HC3 : Hid ([Value.int .i64 AT, .int .i64 KP, .int .i64 TN].length = 1 * 3) := rfl
      have HO3 : Hid (∀ u ∈ [Value.int .i64 AT, .int .i64 KP, .int .i64 TN], u.oneCell' = true) := fun u hu => by simp at hu; rcases hu with rfl | rfl | rfl <;> rfl
      have HL3 : Hid (k + 1 ≤ 70368744177) := by show _ ≤ _; omega
      have HB3 : Hid ((k + 1) * 24 ≤ 140737488355328) := by show _ ≤ _; omega
      have kA0 : Hid (Keep (fun _ => False) (wr.alloc (Obj.cells #[.int .i64 AT, .int .i64 KP, .int .i64 TN] 81)) (wr.alloc (Obj.cells #[.int .i64 AT, .int .i64 KP, .int .i64 TN] 81))) := Keep.refl _ _
      have kA1 : Hid (Keep (fun _ => False) (wr.alloc (Obj.cells #[.int .i64 AT, .int .i64 KP, .int .i64 TN] 81)) (wr.alloc (Obj.cells #[.int .i64 AT, .int .i64 KP, .int .i64 TN] 81)).drew) := keep_drew _ _
      have kA2 : Hid (Keep (fun _ => False) (wr.alloc (Obj.cells #[.int .i64 AT, .int .i64 KP, .int .i64 TN] 81)) (wr.alloc (Obj.cells #[.int .i64 AT, .int .i64 KP, .int .i64 TN] 81)).drew.drew) := (keep_drew _ _).trans (keep_drew _ _)
      have FIN : Hid (∀ (adB : Option Addr) (capB : Nat) wB, wB.ownsRow w1.heap.size 81 3 (.slice adB (k + 1) capB) (k + 1) (fls (l.take k) ++ [.int .i64 AT, .int .i64 KP, .int .i64 TN]) → Keep (fun j => (Value.slice adk k cpk).ownBlock = some j) (wr.alloc (Obj.cells #[.int .i64 AT, .int .i64 KP, .int .i64 TN] 81)) wB → (wB.cell? ⟨w.heap.size, 4, none⟩ = some (.slice adk k cpk) ∧ wB.frozen? ⟨w.heap.size, 4, none⟩ = false) ∧ Hid (∀ W, Keep (fun _ => False) (wB.setCell ⟨w.heap.size, 4, none⟩ (.slice adB (k + 1) capB)) W → Hid (RowIs W w.heap.size [.slice a1 x1 c1, .slice a2 x2 c2, .int .i64 (d.n : Int), .bool d.dn, .slice adB (k + 1) capB, .int .i64 rm] 30) ∧ Hid (W.ownsRow w1.heap.size 81 3 (.slice adB (k + 1) capB) (k + 1) (fls (l.take (k + 1)))) ∧ Hid (Keep (fun j => j = w.heap.size) w1 W))) := fun adB capB wB hrB hkB => by
        have hz := HZ1.out
        have kr : Keep (fun j => w1.heap.size ≤ j) wr wB := ((keep_alloc (fun j => w1.heap.size ≤ j) wr _)).then hkB (fun j hj e => ownsRow_ge HOW.out e)
        have rB := hrw.keep kr (fun h => by omega)
        have kS := keep_setCell wB w.heap.size 4 (.slice adB (k + 1) capB)
        refine ⟨⟨rB.cellAt rfl, rB.frozen⟩, fun W hW => ⟨RowIs.keep (rB.set 4 (.slice adB (k + 1) capB)) hW (fun h => h), ?_, ?_⟩⟩
        · rw [HFS.out]; exact hW.ownsRow (kS.ownsRow hrB (fun g e e2 => by have := ownsRow_ge hrB e; omega)) (fun _ _ h => h)
        · exact ((HKW.out.then kr (fun j hj e => by omega)).trans kS).then hW (fun _ _ h => h.elim)
      clear HK0R HRW HKW HOW hrw hra
      go_wp2
      go_region_law ((refine step_gapp (w0 := wr.alloc (Obj.cells #[.int .i64 AT, .int .i64 KP, .int .i64 TN] 81)) (by rfl) _ _ elFall (by rfl) w1.heap.size (.slice adk k cpk) (.slice (some ⟨wr.heap.size, 0, none⟩) 1 1) (fls (l.take k)) [.int .i64 AT, .int .i64 KP, .int .i64 TN] k 1 (k + 1) (by rfl) (by first | with_reducible exact kA0.out | with_reducible exact kA1.out | with_reducible exact kA2.out) (by rfl) (by rfl) HOA.out HEA.out HGA.out HC3.out HO3.out HL3.out HB3.out ?_; intro adB capB wB hrB hkB; obtain ⟨⟨b4, fz4⟩, HF⟩ := FIN.out adB capB wB hrB hkB))
      all_goals
        go_wp2
        first
          | (have hf := HF.out _ (Keep.refl _ _); exact ⟨⟨k + 1, _, _, by omega, by go_num, hf⟩, by simp [intOf]; omega⟩)
          | (have hf := HF.out _ (keep_drew _ _); exact ⟨⟨k + 1, _, _, by omega, by go_num, hf⟩, by simp [intOf]; omega⟩)
    · have hd : decide ((k : Int) < (l.length : Int)) = false := decide_eq_false (by omega)
      have hke : k = l.length := by omega
      subst hke
      have HRRS := hid (HRR1.out.keep HKW.out (fun h => by omega))
      clear HRA1 hra m4 hla PC
      go_wp2
      have hrd := hrw
      have hrr := HRRS.out
      clear hrw q8
      have n0 := hrd.cellAt (o := 0) rfl
      have n1 := hrd.cellAt (o := 1) rfl
      have n2 := hrd.cellAt (o := 2) rfl
      have n3 := hrd.cellAt (o := 3) rfl
      have n4 := hrd.cellAt (o := 4) rfl
      have n5 := hrd.cellAt (o := 5) rfl
      have z0 := hrr.cellAt (o := 0) rfl
      have z1 := hrr.cellAt (o := 1) rfl
      have z2 := hrr.cellAt (o := 2) rfl
      have z3 := hrr.cellAt (o := 3) rfl
      have z4 := hrr.cellAt (o := 4) rfl
      have z5 := hrr.cellAt (o := 5) rfl
      have g0 := hrr.frozen (o := 0)
      have g1 := hrr.frozen (o := 1)
      have g2 := hrr.frozen (o := 2)
      have g3 := hrr.frozen (o := 3)
      have g4 := hrr.frozen (o := 4)
      have g5 := hrr.frozen (o := 5)
      have HS := hid (six (v0 := .slice a1 x1 c1) (v1 := .slice a2 x2 c2) (v2 := .int .i64 (d.n : Int)) (v3 := .bool d.dn) (v4 := .slice adk l.length cpk) (v5 := .int .i64 rm) hrr)
      have HSd : Hid (RowIs ((((((wr.setCell ⟨w.heap.size + 1 + 1, 0, none⟩ (.slice a1 x1 c1)).setCell ⟨w.heap.size + 1 + 1, 1, none⟩ (.slice a2 x2 c2)).setCell ⟨w.heap.size + 1 + 1, 2, none⟩ (.int .i64 (d.n : Int))).setCell ⟨w.heap.size + 1 + 1, 3, none⟩ (.bool d.dn)).setCell ⟨w.heap.size + 1 + 1, 4, none⟩ (.slice adk l.length cpk)).setCell ⟨w.heap.size + 1 + 1, 5, none⟩ (.int .i64 rm)).drew (w.heap.size + 1 + 1) [.slice a1 x1 c1, .slice a2 x2 c2, .int .i64 (d.n : Int), .bool d.dn, .slice adk l.length cpk, .int .i64 rm] 30 ∧ Keep (· = w.heap.size + 1 + 1) wr ((((((wr.setCell ⟨w.heap.size + 1 + 1, 0, none⟩ (.slice a1 x1 c1)).setCell ⟨w.heap.size + 1 + 1, 1, none⟩ (.slice a2 x2 c2)).setCell ⟨w.heap.size + 1 + 1, 2, none⟩ (.int .i64 (d.n : Int))).setCell ⟨w.heap.size + 1 + 1, 3, none⟩ (.bool d.dn)).setCell ⟨w.heap.size + 1 + 1, 4, none⟩ (.slice adk l.length cpk)).setCell ⟨w.heap.size + 1 + 1, 5, none⟩ (.int .i64 rm)).drew) := ⟨HS.out.1.keep (keep_drew (fun _ => False) _) (fun h => h), HS.out.2.trans (keep_drew _ _)⟩
      have HSe : Hid (RowIs ((((((wr.setCell ⟨w.heap.size + 1 + 1, 0, none⟩ (.slice a1 x1 c1)).setCell ⟨w.heap.size + 1 + 1, 1, none⟩ (.slice a2 x2 c2)).setCell ⟨w.heap.size + 1 + 1, 2, none⟩ (.int .i64 (d.n : Int))).setCell ⟨w.heap.size + 1 + 1, 3, none⟩ (.bool d.dn)).setCell ⟨w.heap.size + 1 + 1, 4, none⟩ (.slice adk l.length cpk)).setCell ⟨w.heap.size + 1 + 1, 5, none⟩ (.int .i64 rm)).drew.drew (w.heap.size + 1 + 1) [.slice a1 x1 c1, .slice a2 x2 c2, .int .i64 (d.n : Int), .bool d.dn, .slice adk l.length cpk, .int .i64 rm] 30 ∧ Keep (· = w.heap.size + 1 + 1) wr ((((((wr.setCell ⟨w.heap.size + 1 + 1, 0, none⟩ (.slice a1 x1 c1)).setCell ⟨w.heap.size + 1 + 1, 1, none⟩ (.slice a2 x2 c2)).setCell ⟨w.heap.size + 1 + 1, 2, none⟩ (.int .i64 (d.n : Int))).setCell ⟨w.heap.size + 1 + 1, 3, none⟩ (.bool d.dn)).setCell ⟨w.heap.size + 1 + 1, 4, none⟩ (.slice adk l.length cpk)).setCell ⟨w.heap.size + 1 + 1, 5, none⟩ (.int .i64 rm)).drew.drew) := ⟨HSd.out.1.keep (keep_drew (fun _ => False) _) (fun h => h), HSd.out.2.trans (keep_drew _ _)⟩
      have hSA : Hid (((((((wr.setCell ⟨w.heap.size + 1 + 1, 0, none⟩ (.slice a1 x1 c1)).setCell ⟨w.heap.size + 1 + 1, 1, none⟩ (.slice a2 x2 c2)).setCell ⟨w.heap.size + 1 + 1, 2, none⟩ (.int .i64 (d.n : Int))).setCell ⟨w.heap.size + 1 + 1, 3, none⟩ (.bool d.dn)).setCell ⟨w.heap.size + 1 + 1, 4, none⟩ (.slice adk l.length cpk)).setCell ⟨w.heap.size + 1 + 1, 5, none⟩ (.int .i64 rm)).cell? ⟨w.heap.size, 0, none⟩ = some (.slice a1 x1 c1) ∧ ((((((wr.setCell ⟨w.heap.size + 1 + 1, 0, none⟩ (.slice a1 x1 c1)).setCell ⟨w.heap.size + 1 + 1, 1, none⟩ (.slice a2 x2 c2)).setCell ⟨w.heap.size + 1 + 1, 2, none⟩ (.int .i64 (d.n : Int))).setCell ⟨w.heap.size + 1 + 1, 3, none⟩ (.bool d.dn)).setCell ⟨w.heap.size + 1 + 1, 4, none⟩ (.slice adk l.length cpk)).setCell ⟨w.heap.size + 1 + 1, 5, none⟩ (.int .i64 rm)).cell? ⟨w.heap.size, 1, none⟩ = some (.slice a2 x2 c2) ∧ ((((((wr.setCell ⟨w.heap.size + 1 + 1, 0, none⟩ (.slice a1 x1 c1)).setCell ⟨w.heap.size + 1 + 1, 1, none⟩ (.slice a2 x2 c2)).setCell ⟨w.heap.size + 1 + 1, 2, none⟩ (.int .i64 (d.n : Int))).setCell ⟨w.heap.size + 1 + 1, 3, none⟩ (.bool d.dn)).setCell ⟨w.heap.size + 1 + 1, 4, none⟩ (.slice adk l.length cpk)).setCell ⟨w.heap.size + 1 + 1, 5, none⟩ (.int .i64 rm)).cell? ⟨w.heap.size, 2, none⟩ = some (.int .i64 (d.n : Int)) ∧ ((((((wr.setCell ⟨w.heap.size + 1 + 1, 0, none⟩ (.slice a1 x1 c1)).setCell ⟨w.heap.size + 1 + 1, 1, none⟩ (.slice a2 x2 c2)).setCell ⟨w.heap.size + 1 + 1, 2, none⟩ (.int .i64 (d.n : Int))).setCell ⟨w.heap.size + 1 + 1, 3, none⟩ (.bool d.dn)).setCell ⟨w.heap.size + 1 + 1, 4, none⟩ (.slice adk l.length cpk)).setCell ⟨w.heap.size + 1 + 1, 5, none⟩ (.int .i64 rm)).cell? ⟨w.heap.size, 3, none⟩ = some (.bool d.dn) ∧ ((((((wr.setCell ⟨w.heap.size + 1 + 1, 0, none⟩ (.slice a1 x1 c1)).setCell ⟨w.heap.size + 1 + 1, 1, none⟩ (.slice a2 x2 c2)).setCell ⟨w.heap.size + 1 + 1, 2, none⟩ (.int .i64 (d.n : Int))).setCell ⟨w.heap.size + 1 + 1, 3, none⟩ (.bool d.dn)).setCell ⟨w.heap.size + 1 + 1, 4, none⟩ (.slice adk l.length cpk)).setCell ⟨w.heap.size + 1 + 1, 5, none⟩ (.int .i64 rm)).cell? ⟨w.heap.size, 4, none⟩ = some (.slice adk l.length cpk) ∧ ((((((wr.setCell ⟨w.heap.size + 1 + 1, 0, none⟩ (.slice a1 x1 c1)).setCell ⟨w.heap.size + 1 + 1, 1, none⟩ (.slice a2 x2 c2)).setCell ⟨w.heap.size + 1 + 1, 2, none⟩ (.int .i64 (d.n : Int))).setCell ⟨w.heap.size + 1 + 1, 3, none⟩ (.bool d.dn)).setCell ⟨w.heap.size + 1 + 1, 4, none⟩ (.slice adk l.length cpk)).setCell ⟨w.heap.size + 1 + 1, 5, none⟩ (.int .i64 rm)).cell? ⟨w.heap.size, 5, none⟩ = some (.int .i64 rm)) := by
        have r := HRW.out.keep HS.out.2 (fun h => by omega)
        exact ⟨r.cellAt rfl, r.cellAt rfl, r.cellAt rfl, r.cellAt rfl, r.cellAt rfl, r.cellAt rfl⟩
      have hSB : Hid (((((((wr.setCell ⟨w.heap.size + 1 + 1, 0, none⟩ (.slice a1 x1 c1)).setCell ⟨w.heap.size + 1 + 1, 1, none⟩ (.slice a2 x2 c2)).setCell ⟨w.heap.size + 1 + 1, 2, none⟩ (.int .i64 (d.n : Int))).setCell ⟨w.heap.size + 1 + 1, 3, none⟩ (.bool d.dn)).setCell ⟨w.heap.size + 1 + 1, 4, none⟩ (.slice adk l.length cpk)).setCell ⟨w.heap.size + 1 + 1, 5, none⟩ (.int .i64 rm)).drew.cell? ⟨w.heap.size, 0, none⟩ = some (.slice a1 x1 c1) ∧ ((((((wr.setCell ⟨w.heap.size + 1 + 1, 0, none⟩ (.slice a1 x1 c1)).setCell ⟨w.heap.size + 1 + 1, 1, none⟩ (.slice a2 x2 c2)).setCell ⟨w.heap.size + 1 + 1, 2, none⟩ (.int .i64 (d.n : Int))).setCell ⟨w.heap.size + 1 + 1, 3, none⟩ (.bool d.dn)).setCell ⟨w.heap.size + 1 + 1, 4, none⟩ (.slice adk l.length cpk)).setCell ⟨w.heap.size + 1 + 1, 5, none⟩ (.int .i64 rm)).drew.cell? ⟨w.heap.size, 1, none⟩ = some (.slice a2 x2 c2) ∧ ((((((wr.setCell ⟨w.heap.size + 1 + 1, 0, none⟩ (.slice a1 x1 c1)).setCell ⟨w.heap.size + 1 + 1, 1, none⟩ (.slice a2 x2 c2)).setCell ⟨w.heap.size + 1 + 1, 2, none⟩ (.int .i64 (d.n : Int))).setCell ⟨w.heap.size + 1 + 1, 3, none⟩ (.bool d.dn)).setCell ⟨w.heap.size + 1 + 1, 4, none⟩ (.slice adk l.length cpk)).setCell ⟨w.heap.size + 1 + 1, 5, none⟩ (.int .i64 rm)).drew.cell? ⟨w.heap.size, 2, none⟩ = some (.int .i64 (d.n : Int)) ∧ ((((((wr.setCell ⟨w.heap.size + 1 + 1, 0, none⟩ (.slice a1 x1 c1)).setCell ⟨w.heap.size + 1 + 1, 1, none⟩ (.slice a2 x2 c2)).setCell ⟨w.heap.size + 1 + 1, 2, none⟩ (.int .i64 (d.n : Int))).setCell ⟨w.heap.size + 1 + 1, 3, none⟩ (.bool d.dn)).setCell ⟨w.heap.size + 1 + 1, 4, none⟩ (.slice adk l.length cpk)).setCell ⟨w.heap.size + 1 + 1, 5, none⟩ (.int .i64 rm)).drew.cell? ⟨w.heap.size, 3, none⟩ = some (.bool d.dn) ∧ ((((((wr.setCell ⟨w.heap.size + 1 + 1, 0, none⟩ (.slice a1 x1 c1)).setCell ⟨w.heap.size + 1 + 1, 1, none⟩ (.slice a2 x2 c2)).setCell ⟨w.heap.size + 1 + 1, 2, none⟩ (.int .i64 (d.n : Int))).setCell ⟨w.heap.size + 1 + 1, 3, none⟩ (.bool d.dn)).setCell ⟨w.heap.size + 1 + 1, 4, none⟩ (.slice adk l.length cpk)).setCell ⟨w.heap.size + 1 + 1, 5, none⟩ (.int .i64 rm)).drew.cell? ⟨w.heap.size, 4, none⟩ = some (.slice adk l.length cpk) ∧ ((((((wr.setCell ⟨w.heap.size + 1 + 1, 0, none⟩ (.slice a1 x1 c1)).setCell ⟨w.heap.size + 1 + 1, 1, none⟩ (.slice a2 x2 c2)).setCell ⟨w.heap.size + 1 + 1, 2, none⟩ (.int .i64 (d.n : Int))).setCell ⟨w.heap.size + 1 + 1, 3, none⟩ (.bool d.dn)).setCell ⟨w.heap.size + 1 + 1, 4, none⟩ (.slice adk l.length cpk)).setCell ⟨w.heap.size + 1 + 1, 5, none⟩ (.int .i64 rm)).drew.cell? ⟨w.heap.size, 5, none⟩ = some (.int .i64 rm)) := by
        have r := HRW.out.keep HSd.out.2 (fun h => by omega)
        exact ⟨r.cellAt rfl, r.cellAt rfl, r.cellAt rfl, r.cellAt rfl, r.cellAt rfl, r.cellAt rfl⟩
      have hSC : Hid (((((((wr.setCell ⟨w.heap.size + 1 + 1, 0, none⟩ (.slice a1 x1 c1)).setCell ⟨w.heap.size + 1 + 1, 1, none⟩ (.slice a2 x2 c2)).setCell ⟨w.heap.size + 1 + 1, 2, none⟩ (.int .i64 (d.n : Int))).setCell ⟨w.heap.size + 1 + 1, 3, none⟩ (.bool d.dn)).setCell ⟨w.heap.size + 1 + 1, 4, none⟩ (.slice adk l.length cpk)).setCell ⟨w.heap.size + 1 + 1, 5, none⟩ (.int .i64 rm)).drew.drew.cell? ⟨w.heap.size, 0, none⟩ = some (.slice a1 x1 c1) ∧ ((((((wr.setCell ⟨w.heap.size + 1 + 1, 0, none⟩ (.slice a1 x1 c1)).setCell ⟨w.heap.size + 1 + 1, 1, none⟩ (.slice a2 x2 c2)).setCell ⟨w.heap.size + 1 + 1, 2, none⟩ (.int .i64 (d.n : Int))).setCell ⟨w.heap.size + 1 + 1, 3, none⟩ (.bool d.dn)).setCell ⟨w.heap.size + 1 + 1, 4, none⟩ (.slice adk l.length cpk)).setCell ⟨w.heap.size + 1 + 1, 5, none⟩ (.int .i64 rm)).drew.drew.cell? ⟨w.heap.size, 1, none⟩ = some (.slice a2 x2 c2) ∧ ((((((wr.setCell ⟨w.heap.size + 1 + 1, 0, none⟩ (.slice a1 x1 c1)).setCell ⟨w.heap.size + 1 + 1, 1, none⟩ (.slice a2 x2 c2)).setCell ⟨w.heap.size + 1 + 1, 2, none⟩ (.int .i64 (d.n : Int))).setCell ⟨w.heap.size + 1 + 1, 3, none⟩ (.bool d.dn)).setCell ⟨w.heap.size + 1 + 1, 4, none⟩ (.slice adk l.length cpk)).setCell ⟨w.heap.size + 1 + 1, 5, none⟩ (.int .i64 rm)).drew.drew.cell? ⟨w.heap.size, 2, none⟩ = some (.int .i64 (d.n : Int)) ∧ ((((((wr.setCell ⟨w.heap.size + 1 + 1, 0, none⟩ (.slice a1 x1 c1)).setCell ⟨w.heap.size + 1 + 1, 1, none⟩ (.slice a2 x2 c2)).setCell ⟨w.heap.size + 1 + 1, 2, none⟩ (.int .i64 (d.n : Int))).setCell ⟨w.heap.size + 1 + 1, 3, none⟩ (.bool d.dn)).setCell ⟨w.heap.size + 1 + 1, 4, none⟩ (.slice adk l.length cpk)).setCell ⟨w.heap.size + 1 + 1, 5, none⟩ (.int .i64 rm)).drew.drew.cell? ⟨w.heap.size, 3, none⟩ = some (.bool d.dn) ∧ ((((((wr.setCell ⟨w.heap.size + 1 + 1, 0, none⟩ (.slice a1 x1 c1)).setCell ⟨w.heap.size + 1 + 1, 1, none⟩ (.slice a2 x2 c2)).setCell ⟨w.heap.size + 1 + 1, 2, none⟩ (.int .i64 (d.n : Int))).setCell ⟨w.heap.size + 1 + 1, 3, none⟩ (.bool d.dn)).setCell ⟨w.heap.size + 1 + 1, 4, none⟩ (.slice adk l.length cpk)).setCell ⟨w.heap.size + 1 + 1, 5, none⟩ (.int .i64 rm)).drew.drew.cell? ⟨w.heap.size, 4, none⟩ = some (.slice adk l.length cpk) ∧ ((((((wr.setCell ⟨w.heap.size + 1 + 1, 0, none⟩ (.slice a1 x1 c1)).setCell ⟨w.heap.size + 1 + 1, 1, none⟩ (.slice a2 x2 c2)).setCell ⟨w.heap.size + 1 + 1, 2, none⟩ (.int .i64 (d.n : Int))).setCell ⟨w.heap.size + 1 + 1, 3, none⟩ (.bool d.dn)).setCell ⟨w.heap.size + 1 + 1, 4, none⟩ (.slice adk l.length cpk)).setCell ⟨w.heap.size + 1 + 1, 5, none⟩ (.int .i64 rm)).drew.drew.cell? ⟨w.heap.size, 5, none⟩ = some (.int .i64 rm)) := by
        have r := HRW.out.keep HSe.out.2 (fun h => by omega)
        exact ⟨r.cellAt rfl, r.cellAt rfl, r.cellAt rfl, r.cellAt rfl, r.cellAt rfl, r.cellAt rfl⟩
      clear hrr hrd
      go_cut [6, 8] from 105 to 106 (fun s6 s8 wx => s6 = .pointer (some ⟨p, 0, none⟩) ∧ s8 = .bool true ∧ Hid (RowIs wx (w.heap.size + 1 + 1) [.slice a1 x1 c1, .slice a2 x2 c2, .int .i64 (d.n : Int), .bool d.dn, .slice adk l.length cpk, .int .i64 rm] 30) ∧ Hid (Keep (· = w.heap.size + 1 + 1) wr wx))
      case first =>
        go_region_held3 (fun w' => w'.cell? ⟨w.heap.size, 0, none⟩ = some (.slice a1 x1 c1) ∧ w'.cell? ⟨w.heap.size, 1, none⟩ = some (.slice a2 x2 c2) ∧ w'.cell? ⟨w.heap.size, 2, none⟩ = some (.int .i64 (d.n : Int)) ∧ w'.cell? ⟨w.heap.size, 3, none⟩ = some (.bool d.dn) ∧ w'.cell? ⟨w.heap.size, 4, none⟩ = some (.slice adk l.length cpk) ∧ w'.cell? ⟨w.heap.size, 5, none⟩ = some (.int .i64 rm)) (first | with_reducible assumption | with_reducible (exact hSA.out) | with_reducible (exact hSB.out) | with_reducible (exact hSC.out) | (refine ⟨?_, ?_, ?_, ?_, ?_, ?_⟩ <;> with_reducible assumption) | go_keep) (fail)
        all_goals (go_wp2_with fail; go_meet; exact ⟨rfl, rfl, by first | with_reducible exact hid HS.out.1 | with_reducible exact hid HSd.out.1 | with_reducible exact hid HSe.out.1, by first | with_reducible exact hid HS.out.2 | with_reducible exact hid HSd.out.2 | with_reducible exact hid HSe.out.2⟩)
      case rest =>
        obtain ⟨rfl, rfl, HX, HKX⟩ := hcut
        clear hSA hSB hSC HS HSd HSe z0 z1 z2 z3 z4 z5 g0 g1 g2 g3 g4 g5 n0 n1 n2 n3 n4 n5
        go_wp2
        refine bodyPost_ret (v := .tuple #[.pointer (some ⟨p, 0, none⟩), .agg #[.slice a1 x1 c1, .slice a2 x2 c2, .int .i64 (d.n : Int), .bool d.dn, .slice adk l.length cpk, .int .i64 rm], .bool true]) (ret_three (s := 6) (p := 7) (u := 8) rfl _ _ (w.heap.size + 1 + 1) _ _ _ rfl rfl rfl (run_loadVar_row _ _ _ _ _ _ _ HX.out Try.underlying30 rfl (by kernel_rfl))) rfl ⟨_, _, _, _, _, _, _, _, _, _, ms, rfl, ?_⟩
        have hz := HZ1.out
        have HRX := (HR1.out.box HRD1.out HKW.out).box HRRS.out HKX.out
        refine HG1.out _ _ _ _ ms _ ((HKW.out.mono fun j hj e => ?_).trans (HKX.out.mono fun j hj e => ?_)) ⟨HRX.sure, HRX.wait, ?_, HRX.eqw, HRX.pos⟩ (locv_refl _ _) (locv_refl _ _) (fun g e => .inr (ownsRow_ge HOW.out e))
        · have := HZ3.out
          omega
        · have := HZ3.out
          omega
        · have h9 := HKX.out.ownsRow HOW.out (fun g e e2 => by have := ownsRow_ge HOW.out e; omega)
          rw [List.take_length] at h9
          exact ownsRow_base h9 (Nat.zero_le _)
end Go.Proofs.Ytnlodlpjokkepab
namespace Go.Proofs.Ytnlodlpjokkepab
open Go.RowKit Go.Maps
set_option linter.unusedVariables false
set_option linter.unusedSimpArgs false

theorem off_len (l : List Fl) (n : Nat) : (offF l n).length ≤ l.length := by
  unfold offF
  exact (List.eraseP_sublist).length_le
theorem fail_same (d : Ds) (kp tn : Int) : (failD d kp tn).bd = d.bd ∧ (failD d kp tn).rm = d.rm ∧ (failD d kp tn).fl = d.fl := by
  unfold failD
  split
  · exact ⟨rfl, rfl, rfl⟩
  · exact ⟨rfl, rfl, rfl⟩
theorem chg_same (d : Ds) (ch : Chg) : (chgD d ch).1.bd = d.bd ∧ (chgD d ch).1.rm = d.rm ∧ (chgD d ch).1.fl.length ≤ d.fl.length := by
  unfold chgD
  cases d.fl.find? fun x => x.at_ = (d.n : Int) with
  | none => exact ⟨rfl, rfl, Nat.le_refl _⟩
  | some f =>
    obtain ⟨h1, h2, h3⟩ := fail_same { d.more ch with fl := offF d.fl d.n } f.keep f.torn
    exact ⟨h1, h2, by rw [h3]; exact off_len _ _⟩
theorem cal_same (d : Ds) (a : AC) (h0 : 0 ≤ a.kind) (h4 : a.kind ≤ 4) : (calD d a).1.bd = d.bd ∧ (calD d a).1.rm = d.rm ∧ (calD d a).1.fl.length ≤ d.fl.length := by
  rw [cal_wrg d a h0 h4]
  split
  · exact chg_same d _
  · exact ⟨rfl, rfl, Nat.le_refl _⟩
theorem RmOk.same {d d' : Ds} {rm : Int} (h : RmOk d rm) (h1 : d'.bd = d.bd) (h2 : d'.rm = d.rm) : RmOk d' rm := ⟨by rw [h1]; exact h.bd, fun h9 => by rw [h2]; exact h.rm h9⟩
/-- what is known of an act that came in -/
structure PlOk (wI : World) (a : AC) : Prop where
  len : a.s.length + a.name.length + (AC.to a).length + 1 ≤ 1048576
  plan : ∃ (l : List Fl) (ad : Option Addr) (cp : Nat), a.pv = .slice ad l.length cp ∧ bulks.PlanIn wI (.slice ad l.length cp) l ∧ l.length ≤ 1048576 ∧ ∀ x ∈ l, (Lit.int .i64 x.at_).wf = true
/-- what the loop keeps of a disk -/
structure PlSt (d : Ds) (rm : Int) (k B : Nat) : Prop where
  pi : PI d k B
  rm : RmOk d rm
  fl : d.fl.length ≤ 1048576
theorem one_any (P : Nat → Prop) (wI w0 : World) (p : Nat) (a1 a2 a3 : Option Addr) (x1 c1 x2 c2 x3 c3 : Nat) (ms : List RC) (d : Ds) (rm : Int) (k B : Nat) (a : AC) (w : World) (h : Both P w0 w p (.slice a1 x1 c1) (.slice a2 x2 c2) (.slice a3 x3 c3) ms d d) (hS : PlSt d rm k B) (hB : B + 1048577 ≤ 7036874417) (hk : k ≤ 1152921504606846976) (ha : PlOk wI a) (hI : ∀ j, j < wI.heap.size → P j) (hKI : Keep (fun j => ¬ P j) wI w0) :
    Calls Try.prog 12 #[.pointer (some ⟨p, 0, none⟩), .agg #[.slice a1 x1 c1, .slice a2 x2 c2, .int .i64 (d.n : Int), .bool d.dn, .slice a3 x3 c3, .int .i64 rm], acV a] w fun e w' => ∃ d' rm', OneP P w0 w' d' rm' e ∧ PlSt d' rm' (k + 1) (B + 1048577) := by
  obtain ⟨kind, name, tt, s, n, f0, f1, f2, pv⟩ := a
  obtain ⟨l, ad, cp, hpv, hpl, hll, hwf⟩ := ha.plan
  have hlen := ha.len
  simp only at hpv hlen
  subst hpv
  have hP := hS.pi
  have hfl := hS.fl
  have hn : d.n ≤ 1152921504606846976 := Nat.le_trans hP.n hk
  have hmono : ∀ {d' : Ds} {B' : Nat}, PI d' k B' → B' ≤ B + 1048577 → PI d' (k + 1) (B + 1048577) := fun h h2 => h.mono (by omega) h2
  by_cases hk04 : 0 ≤ kind ∧ kind ≤ 4
  · have key : PlSt (calD d ⟨kind, name, tt, s, n, f0, f1, f2, .slice ad l.length cp⟩).1 rm (k + 1) (B + 1048577) := by
      obtain ⟨h1, h2, h3⟩ := cal_same d ⟨kind, name, tt, s, n, f0, f1, f2, .slice ad l.length cp⟩ hk04.1 hk04.2
      exact ⟨(hP.call ⟨kind, name, tt, s, n, f0, f1, f2, .slice ad l.length cp⟩ hk04.1 hk04.2).mono (Nat.le_refl _) (by show B + (s.length + 1) ≤ _; omega), hS.rm.same h1 h2, by omega⟩
    have h5 : kind = 0 ∨ kind = 1 ∨ kind = 2 ∨ kind = 3 ∨ kind = 4 := by omega
    rcases h5 with rfl | rfl | rfl | rfl | rfl
    · exact (one_0 P w0 p a1 a2 a3 x1 c1 x2 c2 x3 c3 ms d rm k B (tx name) (tx tt) (tx s) n f0 f1 f2 ad l.length cp w h hP (by omega) ⟨0, name, tt, s, n, f0, f1, f2, .slice ad l.length cp⟩ ⟨rfl, rfl, rfl, rfl, rfl, rfl⟩ ⟨_, _, _, rfl⟩ (by show s.length + name.length + tt.length ≤ _; omega) (by show B + s.length + 1 ≤ _; omega) hS.rm (by omega) hn).mono fun e w' hO => ⟨_, rm, hO, key⟩
    · exact (one_1 P w0 p a1 a2 a3 x1 c1 x2 c2 x3 c3 ms d rm k B (tx name) (tx tt) (tx s) n f0 f1 f2 ad l.length cp w h hP (by omega) ⟨1, name, tt, s, n, f0, f1, f2, .slice ad l.length cp⟩ ⟨rfl, rfl, rfl, rfl, rfl, rfl⟩ ⟨_, _, _, rfl⟩ (by show s.length + name.length + tt.length ≤ _; omega) (by show B + s.length + 1 ≤ _; omega) hS.rm (by omega) hn).mono fun e w' hO => ⟨_, rm, hO, key⟩
    · exact (one_2 P w0 p a1 a2 a3 x1 c1 x2 c2 x3 c3 ms d rm k B (tx name) (tx tt) (tx s) n f0 f1 f2 ad l.length cp w h hP (by omega) ⟨2, name, tt, s, n, f0, f1, f2, .slice ad l.length cp⟩ ⟨rfl, rfl, rfl, rfl, rfl, rfl⟩ ⟨_, _, _, rfl⟩ (by show s.length + name.length + tt.length ≤ _; omega) (by show B + s.length + 1 ≤ _; omega) hS.rm (by omega) hn).mono fun e w' hO => ⟨_, rm, hO, key⟩
    · exact (one_3 P w0 p a1 a2 a3 x1 c1 x2 c2 x3 c3 ms d rm k B (tx name) (tx tt) (tx s) n f0 f1 f2 ad l.length cp w h hP (by omega) ⟨3, name, tt, s, n, f0, f1, f2, .slice ad l.length cp⟩ ⟨rfl, rfl, rfl, rfl, rfl, rfl⟩ ⟨_, _, _, rfl⟩ (by show s.length + name.length + tt.length ≤ _; omega) (by show B + s.length + 1 ≤ _; omega) hS.rm (by omega) hn).mono fun e w' hO => ⟨_, rm, hO, key⟩
    · exact (one_4 P w0 p a1 a2 a3 x1 c1 x2 c2 x3 c3 ms d rm k B (tx name) (tx tt) (tx s) n f0 f1 f2 ad l.length cp w h hP (by omega) ⟨4, name, tt, s, n, f0, f1, f2, .slice ad l.length cp⟩ ⟨rfl, rfl, rfl, rfl, rfl, rfl⟩ ⟨_, _, _, rfl⟩ (by show s.length + name.length + tt.length ≤ _; omega) (by show B + s.length + 1 ≤ _; omega) hS.rm (by omega) hn).mono fun e w' hO => ⟨_, rm, hO, key⟩
  · by_cases h5 : kind = 5
    · subst h5
      refine (one_5 P w0 p a1 a2 a3 x1 c1 x2 c2 x3 c3 ms d rm k B (tx name) (tx tt) (tx s) n f0 f1 f2 ad l.length cp w h hP (by omega)).mono fun e w' hO => ⟨_, rm, hO, ?_⟩
      unfold synE
      split
      · exact ⟨hmono hP (by omega), hS.rm, hfl⟩
      · exact ⟨hmono hP.sync (by omega), hS.rm.same rfl rfl, hfl⟩
    · by_cases h6 : kind = 6
      · subst h6
        refine (one_6 P w0 p a1 a2 a3 x1 c1 x2 c2 x3 c3 ms d rm k B (tx name) (tx tt) (tx s) n f0 f1 f2 ad l.length cp w h hP (by omega)).mono fun e w' hO => ⟨_, rm, hO, ?_⟩
        obtain ⟨q1, q2, q3⟩ := fail_same d f1 f2
        exact ⟨hmono (hP.fail f1 f2) (by omega), hS.rm.same q1 q2, by rw [q3]; exact hfl⟩
      · by_cases h7 : kind = 7
        · subst h7
          refine (one_7 P w0 p a1 a2 a3 x1 c1 x2 c2 x3 c3 ms d rm k B (tx name) (tx tt) (tx s) n f0 f1 f2 ad l.length cp w h hP (by omega)).mono fun e w' hO => ⟨_, rm, hO, ?_⟩
          exact ⟨hmono (B' := B) ⟨hP.srt, hP.oks, hP.there, hP.nS, hP.nW, hP.wt, hP.n⟩ (by omega), hS.rm.same rfl rfl, hfl⟩
        · by_cases h8 : kind = 8
          · subst h8
            refine (one_8 P w0 p a1 a2 a3 x1 c1 x2 c2 x3 c3 ms d rm k B (tx name) (tx tt) (tx s) n f0 f1 f2 ad l.length cp w h hP (by omega) l rfl wI hpl hI hKI hll hwf).mono fun e w' hO => ⟨_, rm, hO, ?_⟩
            exact ⟨hmono (B' := B) ⟨hP.srt, hP.oks, hP.there, hP.nS, hP.nW, hP.wt, hP.n⟩ (by omega), hS.rm.same rfl rfl, hll⟩
          · by_cases h9 : kind = 9
            · subst h9
              refine (one_9 P w0 p a1 a2 a3 x1 c1 x2 c2 x3 c3 ms d rm k B (tx name) (tx tt) (tx s) n f0 f1 f2 ad l.length cp w h hP (by omega)).mono fun e w' hO => ⟨_, n, hO, ?_⟩
              exact ⟨hmono (B' := B) ⟨hP.srt, hP.oks, hP.there, hP.nS, hP.nW, hP.wt, hP.n⟩ (by omega), ⟨rfl, fun _ => rfl⟩, hfl⟩
            · refine (one_c P w0 p a1 a2 a3 x1 c1 x2 c2 x3 c3 ms d rm k B (tx name) (tx tt) (tx s) n f0 f1 f2 ad l.length cp kind w h hP (by omega) (by omega) hn).mono fun e w' hO => ⟨_, rm, hO, ?_⟩
              exact ⟨hmono hP (by omega), hS.rm, hfl⟩
end Go.Proofs.Ytnlodlpjokkepab
namespace Go.Proofs.Ytnlodlpjokkepab
open Go.RowKit Go.Maps
set_option linter.unusedVariables false
set_option linter.unusedSimpArgs false

set_option maxRecDepth 100000 in
theorem rnew_any (w : World) : Calls Try.prog 11 #[] w fun e w' => e = .returned (.agg #[.slice none 0 0, .slice none 0 0, .int .i64 0, .bool false, .slice none 0 0, .int .i64 (-1)]) ∧ Keep (fun _ => False) w w' := by
  go_enter Try.func11, Try.ntmps11
  go_wp2
  refine bodyPost_ret (v := .agg #[.slice none 0 0, .slice none 0 0, .int .i64 0, .bool false, .slice none 0 0, .int .i64 (-1)]) (by simp [results, Try.results11, go_sem]) rfl ⟨rfl, ?_⟩
  exact keep_alloc _ _ _
/-- both disks, new -/
theorem both_new {w w1 W : World} {p gm : Nat} (hD : DiskIs w1 (c0 p) p d0) (hk : Keep (fun _ => False) w1 W) (hp : p < w1.heap.size) (hw : Keep (fun _ => False) w w1) (hwp : w.heap.size ≤ p) (hg : w1.heap.size ≤ gm) (hgW : gm < W.heap.size) :
    Both (fun j => j < w.heap.size ∨ j = gm) w W p (.slice none 0 0) (.slice none 0 0) (.slice none 0 0) [] d0 d0 := by
  have hsz := hw.size
  refine ⟨⟨fun j => if j < w1.heap.size then c0 p j else 7, hD.keep hk (fun j hj => if_pos hj) (fun _ _ h => h.elim), fun j hj => ⟨?_, ?_⟩, fun g e => (by simp [Value.ownBlock] at e), fun g e => (by simp [Value.ownBlock] at e), fun g e => (by simp [Value.ownBlock] at e)⟩, ⟨⟨rfl, .inl ⟨rfl, rfl⟩⟩, ⟨rfl, .inl ⟨rfl, rfl⟩⟩, ⟨rfl, .inl ⟨rfl, rfl⟩⟩, rfl, fun r hr => by cases hr⟩, (hw.trans hk).mono (fun _ _ h => h.elim)⟩
  · have := hk.size
    rcases hj with h9 | h9 <;> omega
  · show 6 < if j < w1.heap.size then (if j = p then 0 else 7) else 7
    rcases hj with h9 | h9
    · rw [if_pos (by omega), if_neg (by omega)]; omega
    · rw [if_neg (by omega)]; omega
theorem pl_new : PlSt d0 (-1) 0 (0 * 1048577) := ⟨⟨srt_nil, fun i hi => (by simp [d0] at hi), fun i hi => (by simp [d0] at hi), fun x hx => (by cases hx), fun x hx => (by cases hx), (by decide), Nat.le_refl _⟩, ⟨rfl, fun h => by omega⟩, Nat.zero_le _⟩

theorem acts_at {w : World} {ad : Option Addr} {n cap : Nat} {l : List AC} (h : ActsIn w (.slice ad n cap) l) (j : Nat) (hj : j < l.length) : ∃ g off, ad = some ⟨g, off, none⟩ ∧ g < w.heap.size ∧ ∀ i, i < 9 → w.cell? ⟨g, off + j * 9 + i, none⟩ = (acC l[j])[i]? := by
  rcases h with ⟨_, _, _, e⟩ | ⟨g, off, cap', e, hg, hc⟩
  · rw [e] at hj; simp at hj
  · injection e with e1 e2 e3
    exact ⟨g, off, e1, hg, fun i hi => hc j hj i hi⟩
/-- what a round's step leaves: a struct with the reference's disk -/
structure PlOut (P : Nat → Prop) (w0 : World) (lo p : Nat) (su wa fa : Value) (ms : List RC) (d : Ds) (rm : Int) (g : Nat) (wx : World) : Prop where
  row : RowIs wx g [su, wa, .int .i64 (d.n : Int), .bool d.dn, fa, .int .i64 rm] 30
  both : Both P w0 wx p su wa fa ms d d
  ge : lo ≤ g
theorem PlOut.drew {P : Nat → Prop} {w0 : World} {lo p : Nat} {su wa fa : Value} {ms : List RC} {d : Ds} {rm : Int} {g : Nat} {wx : World} (h : PlOut P w0 lo p su wa fa ms d rm g wx) : PlOut P w0 lo p su wa fa ms d rm g wx.drew :=
  ⟨h.row.keep (keep_drew (fun _ => False) _) (fun h => h), h.both.go (keep_drew _ _), h.ge⟩
theorem plOut_alloc {P : Nat → Prop} {w0 w3 : World} {lo p : Nat} {su wa fa : Value} {ms : List RC} {d : Ds} (h : Both P w0 w3 p su wa fa ms d d) (rm : Int) (hlo : lo ≤ w3.heap.size) : PlOut P w0 lo p su wa fa ms d rm w3.heap.size (w3.alloc (.cells #[su, wa, .int .i64 (d.n : Int), .bool d.dn, fa, .int .i64 rm] 30)) :=
  ⟨heap_alloc_new _ _, h.go (keep_alloc _ _ _), hlo⟩
theorem plOut_store {P P' : Nat → Prop} {w0 w3 : World} {lo p g : Nat} {su wa fa : Value} {ms : List RC} {d : Ds} (h : Both P' w0 w3 p su wa fa ms d d) (hs : ∀ j, P j → P' j) (rm : Int) (hr : RowIs w3 g [.slice none 0 0, .slice none 0 0, .int .i64 0, .bool false, .slice none 0 0, .int .i64 0] 30) (hg : P' g) (hg0 : w0.heap.size ≤ g) (hlo : lo ≤ g) :
    PlOut P w0 lo p su wa fa ms d rm g ((((((w3.setCell ⟨g, 0, none⟩ su).setCell ⟨g, 1, none⟩ wa).setCell ⟨g, 2, none⟩ (.int .i64 (d.n : Int))).setCell ⟨g, 3, none⟩ (.bool d.dn)).setCell ⟨g, 4, none⟩ fa).setCell ⟨g, 5, none⟩ (.int .i64 rm)) :=
  have h6 := six (v0 := su) (v1 := wa) (v2 := .int .i64 (d.n : Int)) (v3 := .bool d.dn) (v4 := fa) (v5 := .int .i64 rm) hr
  ⟨h6.1, (h.box hr hg hg0 h6.2).weaken hs, hlo⟩

set_option maxRecDepth 100000 in
set_option maxHeartbeats 4000000 in
theorem diskPlays_core (v : Value) (l : List AC) (w : World) (hv : ActsIn w v l) (hok : ∀ a ∈ l, PlOk w a) (hlen : l.length ≤ 1048576) :
    Calls Try.prog 3 #[v] w fun e w' => e = .returned (.bool true) ∧ Below w.heap.size w w' := by
  obtain ⟨ad, cap, rfl⟩ : ∃ ad cap, v = .slice ad l.length cap := by
    rcases hv with ⟨ad, cap, e, e2⟩ | ⟨g, off, cap, e, _⟩
    · exact ⟨ad, cap, by rw [e, e2]; rfl⟩
    · exact ⟨_, _, e⟩
  have NW := hid (fun W : World => new_any W)
  have AW := hid (fun W : World => awake4 W)
  have RN := hid (fun W : World => rnew_any W)
  have HV := hid hv
  have HOK := hid hok
  clear hv hok
  go_enter Try.func3, Try.ntmps3
  go_wp2_with fail
  refine (NW.out w).mono ?_
  rintro e w1 ⟨rfl, hD, hk⟩
  have hpl : w.heap.size < w1.heap.size := by obtain ⟨R, hR⟩ := hD; exact hR.row.lt
  generalize hpp : w.heap.size = p at hD ⊢
  have HP : Hid (w.heap.size = p) := hpp
  have HK1 := hid hk
  have HD := hid hD
  have HPL : Hid (p < w1.heap.size) := by show _ < _; omega
  clear NW hD hk hpl hpp
  go_wp2_with fail
  refine (AW.out _).mono ?_
  rintro e w2 ⟨rfl, hb⟩
  have HK2 := hid (hb.keep (fun _ => False))
  clear AW hb
  go_wp2_with fail
  refine (RN.out _).mono ?_
  rintro e w3 ⟨rfl, hk3⟩
  have HK3 := hid (HK2.out.trans hk3)
  clear RN hk3 HK2
  have rm0 : RowIs (w3.alloc (.cells #[.slice none 0 0, .slice none 0 0, .int .i64 0, .bool false, .slice none 0 0, .int .i64 (-1)] 30)) w3.heap.size [.slice none 0 0, .slice none 0 0, .int .i64 0, .bool false, .slice none 0 0, .int .i64 (-1)] 30 := heap_alloc_new _ _
  have HB0 := hid (both_new (w := w) (gm := w3.heap.size) HD.out (HK3.out.trans (keep_alloc (fun _ => False) w3 (.cells #[.slice none 0 0, .slice none 0 0, .int .i64 0, .bool false, .slice none 0 0, .int .i64 (-1)] 30))) HPL.out HK1.out (by have := HP.out; omega) HK3.out.size rm0.lt)
  have HGM : Hid (w.heap.size ≤ w3.heap.size) := (HK1.out.trans HK3.out).size
  have HRM := hid rm0
  clear rm0 HD HK1 HK3 HPL HP
  go_wp2
  generalize w3.heap.size = gm at *
  generalize w3.alloc (.cells #[.slice none 0 0, .slice none 0 0, .int .i64 0, .bool false, .slice none 0 0, .int .i64 (-1)] 30) = wm at *
  go_loopw [3, 5] (fun s3 i wr => ∃ (k p : Nat) (a1 a2 a3 : Option Addr) (x1 c1 x2 c2 x3 c3 : Nat) (ms : List RC) (d : Ds) (rm : Int), k ≤ l.length ∧ k ≤ 60 ∧ i = .int .i64 k ∧ s3 = .pointer (some ⟨p, 0, none⟩) ∧ Hid (RowIs wr gm [.slice a1 x1 c1, .slice a2 x2 c2, .int .i64 (d.n : Int), .bool d.dn, .slice a3 x3 c3, .int .i64 rm] 30) ∧ Hid (Both (fun j => j < w.heap.size ∨ j = gm) w wr p (.slice a1 x1 c1) (.slice a2 x2 c2) (.slice a3 x3 c3) ms d d) ∧ Hid (PlSt d rm k (k * 1048577))) (fun _ i _ => l.length - (intOf i).toNat)
  case atStart => exact ⟨0, p, none, none, none, 0, 0, 0, 0, 0, 0, [], d0, -1, Nat.zero_le _, Nat.zero_le _, rfl, rfl, HRM, HB0, pl_new⟩
  case round =>
    clear HB0 HRM
    obtain ⟨k, p, a1, a2, a3, x1, c1, x2, c2, x3, c3, ms, d, rm, hk, hk60, rfl, rfl, HR, HB, HS⟩ := hrel
    have HBE : Hid (Below w.heap.size w wr) := keep_below HB.out.keep (fun j hj hn => hn (.inl hj)) (Nat.le_refl _)
    by_cases hlt : k < l.length
    · have hk0 : (0 : Int) ≤ (k : Int) := by omega
      have hk1 : (k : Int) < (l.length : Int) := by omega
      by_cases hlt2 : k < 60
      · have hk2 : (k : Int) < 60 := by omega
        have HA := hid (HOK.out l[k] (List.getElem_mem hlt))
        obtain ⟨g, off, hg, hgw, hcl⟩ := acts_at HV.out k hlt
        subst hg
        have HAC : Hid (∀ W, Keep (fun j => ¬ (fun j => j < w.heap.size ∨ j = gm) j) w W → ∀ i, i < 9 → W.cell? ⟨g, off + k * 9 + i, none⟩ = (acC l[k])[i]?) := fun W hW i hi => (hW.cell hgw (fun hn => hn (.inl hgw))).trans (hcl i hi)
        clear hcl HOK HV HBE
        generalize l[k] = a at *
        obtain ⟨lp, adp, cpp, hpv, _⟩ := HA.out.plan
        obtain ⟨np, hnp⟩ : ∃ np, np = lp.length := ⟨_, rfl⟩
        rw [← hnp] at hpv
        have HPV := hid hpv
        clear hnp hpv
        have SK : Hid (∀ W, RowIs W gm [.slice a1 x1 c1, .slice a2 x2 c2, .int .i64 (d.n : Int), .bool d.dn, .slice a3 x3 c3, .int .i64 rm] 30 → Keep (fun j => ¬ (fun j => j < w.heap.size ∨ j = gm) j) w W → (W.cell? ⟨gm, 0, none⟩ = some (.slice a1 x1 c1) ∧ W.cell? ⟨gm, 1, none⟩ = some (.slice a2 x2 c2) ∧ W.cell? ⟨gm, 2, none⟩ = some (.int .i64 (d.n : Int)) ∧ W.cell? ⟨gm, 3, none⟩ = some (.bool d.dn) ∧ W.cell? ⟨gm, 4, none⟩ = some (.slice a3 x3 c3) ∧ W.cell? ⟨gm, 5, none⟩ = some (.int .i64 rm) ∧ W.cell? ⟨g, off + k * 9, none⟩ = some (.int .i64 a.kind) ∧ W.cell? ⟨g, off + k * 9 + 1, none⟩ = some (.string (tx a.name)) ∧ W.cell? ⟨g, off + k * 9 + 2, none⟩ = some (.string (tx (AC.to a))) ∧ W.cell? ⟨g, off + k * 9 + 3, none⟩ = some (.string (tx a.s)) ∧ W.cell? ⟨g, off + k * 9 + 4, none⟩ = some (.int .i64 a.n) ∧ W.cell? ⟨g, off + k * 9 + 5, none⟩ = some (.int .i64 a.f0) ∧ W.cell? ⟨g, off + k * 9 + 6, none⟩ = some (.int .i64 a.f1) ∧ W.cell? ⟨g, off + k * 9 + 7, none⟩ = some (.int .i64 a.f2) ∧ W.cell? ⟨g, off + k * 9 + 8, none⟩ = some (.slice adp np cpp))) := fun W r hW => by
          have hc := HAC.out W hW
          simp only [acC] at hc
          have q0 := hc 0 (by omega)
          have q1 := hc 1 (by omega)
          have q2 := hc 2 (by omega)
          have q3 := hc 3 (by omega)
          have q4 := hc 4 (by omega)
          have q5 := hc 5 (by omega)
          have q6 := hc 6 (by omega)
          have q7 := hc 7 (by omega)
          have q8 := hc 8 (by omega)
          simp only [List.getElem?_cons_zero, List.getElem?_cons_succ, Nat.add_zero] at q0 q1 q2 q3 q4 q5 q6 q7 q8
          rw [HPV.out] at q8
          exact ⟨r.cellAt rfl, r.cellAt rfl, r.cellAt rfl, r.cellAt rfl, r.cellAt rfl, r.cellAt rfl, q0, q1, q2, q3, q4, q5, q6, q7, q8⟩
        have HGR : Hid (gm < wr.heap.size) := HR.out.lt
        have HWR : Hid (w.heap.size ≤ wr.heap.size) := HB.out.keep.size
        have ON : Hid (∀ W, Keep (fun _ => False) wr W → Calls Try.prog 12 #[.pointer (some ⟨p, 0, none⟩), .agg #[.slice a1 x1 c1, .slice a2 x2 c2, .int .i64 (d.n : Int), .bool d.dn, .slice a3 x3 c3, .int .i64 rm], .agg #[.int .i64 a.kind, .string (tx a.name), .string (tx (AC.to a)), .string (tx a.s), .int .i64 a.n, .int .i64 a.f0, .int .i64 a.f1, .int .i64 a.f2, .slice adp np cpp]] W fun e w5 => ∃ (p' : Nat) (b1 b2 b3 : Option Addr) (y1 e1 y2 e2 y3 e3 : Nat) (ms' : List RC) (d' : Ds) (rm' : Int), e = .returned (.tuple #[.pointer (some ⟨p', 0, none⟩), .agg #[.slice b1 y1 e1, .slice b2 y2 e2, .int .i64 (d'.n : Int), .bool d'.dn, .slice b3 y3 e3, .int .i64 rm'], .bool true]) ∧ (w5.cell? ⟨gm, 0, none⟩ = some (.slice a1 x1 c1) ∧ w5.cell? ⟨gm, 1, none⟩ = some (.slice a2 x2 c2) ∧ w5.cell? ⟨gm, 2, none⟩ = some (.int .i64 (d.n : Int)) ∧ w5.cell? ⟨gm, 3, none⟩ = some (.bool d.dn) ∧ w5.cell? ⟨gm, 4, none⟩ = some (.slice a3 x3 c3) ∧ w5.cell? ⟨gm, 5, none⟩ = some (.int .i64 rm) ∧ w5.cell? ⟨g, off + k * 9, none⟩ = some (.int .i64 a.kind) ∧ w5.cell? ⟨g, off + k * 9 + 1, none⟩ = some (.string (tx a.name)) ∧ w5.cell? ⟨g, off + k * 9 + 2, none⟩ = some (.string (tx (AC.to a))) ∧ w5.cell? ⟨g, off + k * 9 + 3, none⟩ = some (.string (tx a.s)) ∧ w5.cell? ⟨g, off + k * 9 + 4, none⟩ = some (.int .i64 a.n) ∧ w5.cell? ⟨g, off + k * 9 + 5, none⟩ = some (.int .i64 a.f0) ∧ w5.cell? ⟨g, off + k * 9 + 6, none⟩ = some (.int .i64 a.f1) ∧ w5.cell? ⟨g, off + k * 9 + 7, none⟩ = some (.int .i64 a.f2) ∧ w5.cell? ⟨g, off + k * 9 + 8, none⟩ = some (.slice adp np cpp)) ∧ Hid (Both (fun j => (fun j => j < w.heap.size ∨ j = gm) j ∨ (wr.heap.size ≤ j ∧ j < W.heap.size)) w w5 p' (.slice b1 y1 e1) (.slice b2 y2 e2) (.slice b3 y3 e3) ms' d' d') ∧ Hid (RowIs w5 gm [.slice a1 x1 c1, .slice a2 x2 c2, .int .i64 (d.n : Int), .bool d.dn, .slice a3 x3 c3, .int .i64 rm] 30) ∧ Hid (PlSt d' rm' (k + 1) ((k + 1) * 1048577)) ∧ Hid (Keep (fun j => ¬ (fun j => (fun j => j < w.heap.size ∨ j = gm) j ∨ (wr.heap.size ≤ j ∧ j < W.heap.size)) j) W w5)) := fun W hW => by
          have hF := HB.out.fresh hW
          have hkw : Keep (fun j => ¬ (fun j => (fun j => j < w.heap.size ∨ j = gm) j ∨ (wr.heap.size ≤ j ∧ j < W.heap.size)) j) w W := (HB.out.keep.trans (hW.mono (fun _ _ h => h.elim))).mono (fun j hj hn => absurd (.inl hj) hn)
          have h1 := one_any (fun j => (fun j => j < w.heap.size ∨ j = gm) j ∨ (wr.heap.size ≤ j ∧ j < W.heap.size)) w W p a1 a2 a3 x1 c1 x2 c2 x3 c3 ms d rm k (k * 1048577) a W hF HS.out (by omega) (by omega) HA.out (fun j hj => .inl (.inl hj)) hkw
          have e9 : acV a = .agg #[.int .i64 a.kind, .string (tx a.name), .string (tx (AC.to a)), .string (tx a.s), .int .i64 a.n, .int .i64 a.f0, .int .i64 a.f1, .int .i64 a.f2, .slice adp np cpp] := by unfold acV; rw [HPV.out]
          rw [e9] at h1
          refine h1.mono fun e w5 ⟨d', rm', ⟨p', b1, b2, b3, y1, e1, y2, e2, y3, e3, ms', he, hB5⟩, hS5⟩ => ?_
          have r5 := (HR.out.keep hW (fun h => h)).keep hB5.keep (fun hn => hn (.inl (.inr rfl)))
          have hB6 := hB5.from hkw
          exact ⟨p', b1, b2, b3, y1, e1, y2, e2, y3, e3, ms', d', rm', he, SK.out w5 r5 (hB6.weaken (fun j hj => .inl hj)).keep, hB6, r5, ⟨hS5.pi.mono (Nat.le_refl _) (by omega), hS5.rm, hS5.fl⟩, hB5.keep⟩
        have ZA : Hid (∀ W w5, Keep (fun _ => False) (wr.alloc (Obj.cells #[.slice none 0 0, .slice none 0 0, .int .i64 0, .bool false, .slice none 0 0, .int .i64 0] 30)) W → Keep (fun j => ¬ (fun j => (fun j => j < w.heap.size ∨ j = gm) j ∨ (wr.heap.size ≤ j ∧ j < W.heap.size)) j) W w5 → Hid (RowIs w5 wr.heap.size [.slice none 0 0, .slice none 0 0, .int .i64 0, .bool false, .slice none 0 0, .int .i64 0] 30) ∧ (w5.cell? ⟨wr.heap.size, 0, none⟩ = some (.slice none 0 0) ∧ w5.cell? ⟨wr.heap.size, 1, none⟩ = some (.slice none 0 0) ∧ w5.cell? ⟨wr.heap.size, 2, none⟩ = some (.int .i64 0) ∧ w5.cell? ⟨wr.heap.size, 3, none⟩ = some (.bool false) ∧ w5.cell? ⟨wr.heap.size, 4, none⟩ = some (.slice none 0 0) ∧ w5.cell? ⟨wr.heap.size, 5, none⟩ = some (.int .i64 0) ∧ w5.frozen? ⟨wr.heap.size, 0, none⟩ = false ∧ w5.frozen? ⟨wr.heap.size, 1, none⟩ = false ∧ w5.frozen? ⟨wr.heap.size, 2, none⟩ = false ∧ w5.frozen? ⟨wr.heap.size, 3, none⟩ = false ∧ w5.frozen? ⟨wr.heap.size, 4, none⟩ = false ∧ w5.frozen? ⟨wr.heap.size, 5, none⟩ = false)) := fun W w5 hW h5 => by
          have h9 := hW.size
          have r : RowIs w5 wr.heap.size [.slice none 0 0, .slice none 0 0, .int .i64 0, .bool false, .slice none 0 0, .int .i64 0] 30 := (RowIs.keep (heap_alloc_new _ _) hW (fun h => h)).keep h5 (fun hn => hn (.inr ⟨Nat.le_refl _, by simp at h9; omega⟩))
          exact ⟨r, r.cellAt rfl, r.cellAt rfl, r.cellAt rfl, r.cellAt rfl, r.cellAt rfl, r.cellAt rfl, r.frozen, r.frozen, r.frozen, r.frozen, r.frozen, r.frozen⟩
        have ON1 : Hid (∀ W, Keep (fun _ => False) wr W → Calls Try.prog 12 #[.pointer (some ⟨p, 0, none⟩), .agg #[.slice a1 x1 c1, .slice a2 x2 c2, .int .i64 (d.n : Int), .bool d.dn, .slice a3 x3 c3, .int .i64 rm], .agg #[.int .i64 a.kind, .string (tx a.name), .string (tx (AC.to a)), .string (tx a.s), .int .i64 a.n, .int .i64 a.f0, .int .i64 a.f1, .int .i64 a.f2, .slice adp np cpp]] W fun e w5 => ∃ (p' : Nat) (b1 b2 b3 : Option Addr) (y1 e1 y2 e2 y3 e3 : Nat) (ms' : List RC) (d' : Ds) (rm' : Int), e = .returned (.tuple #[.pointer (some ⟨p', 0, none⟩), .agg #[.slice b1 y1 e1, .slice b2 y2 e2, .int .i64 (d'.n : Int), .bool d'.dn, .slice b3 y3 e3, .int .i64 rm'], .bool true]) ∧ (w5.cell? ⟨gm, 0, none⟩ = some (.slice a1 x1 c1) ∧ w5.cell? ⟨gm, 1, none⟩ = some (.slice a2 x2 c2) ∧ w5.cell? ⟨gm, 2, none⟩ = some (.int .i64 (d.n : Int)) ∧ w5.cell? ⟨gm, 3, none⟩ = some (.bool d.dn) ∧ w5.cell? ⟨gm, 4, none⟩ = some (.slice a3 x3 c3) ∧ w5.cell? ⟨gm, 5, none⟩ = some (.int .i64 rm) ∧ w5.cell? ⟨g, off + k * 9, none⟩ = some (.int .i64 a.kind) ∧ w5.cell? ⟨g, off + k * 9 + 1, none⟩ = some (.string (tx a.name)) ∧ w5.cell? ⟨g, off + k * 9 + 2, none⟩ = some (.string (tx (AC.to a))) ∧ w5.cell? ⟨g, off + k * 9 + 3, none⟩ = some (.string (tx a.s)) ∧ w5.cell? ⟨g, off + k * 9 + 4, none⟩ = some (.int .i64 a.n) ∧ w5.cell? ⟨g, off + k * 9 + 5, none⟩ = some (.int .i64 a.f0) ∧ w5.cell? ⟨g, off + k * 9 + 6, none⟩ = some (.int .i64 a.f1) ∧ w5.cell? ⟨g, off + k * 9 + 7, none⟩ = some (.int .i64 a.f2) ∧ w5.cell? ⟨g, off + k * 9 + 8, none⟩ = some (.slice adp np cpp)) ∧ Hid (PlOut (fun j => j < w.heap.size ∨ j = gm) w wr.heap.size p' (.slice b1 y1 e1) (.slice b2 y2 e2) (.slice b3 y3 e3) ms' d' rm' w5.heap.size (w5.alloc (Obj.cells #[.slice b1 y1 e1, .slice b2 y2 e2, .int .i64 (d'.n : Int), .bool d'.dn, .slice b3 y3 e3, .int .i64 rm'] 30)) ∧ RowIs (w5.alloc (Obj.cells #[.slice b1 y1 e1, .slice b2 y2 e2, .int .i64 (d'.n : Int), .bool d'.dn, .slice b3 y3 e3, .int .i64 rm'] 30)) gm [.slice a1 x1 c1, .slice a2 x2 c2, .int .i64 (d.n : Int), .bool d.dn, .slice a3 x3 c3, .int .i64 rm] 30) ∧ Hid ((w5.alloc (Obj.cells #[.slice b1 y1 e1, .slice b2 y2 e2, .int .i64 (d'.n : Int), .bool d'.dn, .slice b3 y3 e3, .int .i64 rm'] 30)).cell? ⟨gm, 0, none⟩ = some (.slice a1 x1 c1) ∧ (w5.alloc (Obj.cells #[.slice b1 y1 e1, .slice b2 y2 e2, .int .i64 (d'.n : Int), .bool d'.dn, .slice b3 y3 e3, .int .i64 rm'] 30)).cell? ⟨gm, 1, none⟩ = some (.slice a2 x2 c2) ∧ (w5.alloc (Obj.cells #[.slice b1 y1 e1, .slice b2 y2 e2, .int .i64 (d'.n : Int), .bool d'.dn, .slice b3 y3 e3, .int .i64 rm'] 30)).cell? ⟨gm, 2, none⟩ = some (.int .i64 (d.n : Int)) ∧ (w5.alloc (Obj.cells #[.slice b1 y1 e1, .slice b2 y2 e2, .int .i64 (d'.n : Int), .bool d'.dn, .slice b3 y3 e3, .int .i64 rm'] 30)).cell? ⟨gm, 3, none⟩ = some (.bool d.dn) ∧ (w5.alloc (Obj.cells #[.slice b1 y1 e1, .slice b2 y2 e2, .int .i64 (d'.n : Int), .bool d'.dn, .slice b3 y3 e3, .int .i64 rm'] 30)).cell? ⟨gm, 4, none⟩ = some (.slice a3 x3 c3) ∧ (w5.alloc (Obj.cells #[.slice b1 y1 e1, .slice b2 y2 e2, .int .i64 (d'.n : Int), .bool d'.dn, .slice b3 y3 e3, .int .i64 rm'] 30)).cell? ⟨gm, 5, none⟩ = some (.int .i64 rm) ∧ (w5.alloc (Obj.cells #[.slice b1 y1 e1, .slice b2 y2 e2, .int .i64 (d'.n : Int), .bool d'.dn, .slice b3 y3 e3, .int .i64 rm'] 30)).cell? ⟨g, off + k * 9, none⟩ = some (.int .i64 a.kind) ∧ (w5.alloc (Obj.cells #[.slice b1 y1 e1, .slice b2 y2 e2, .int .i64 (d'.n : Int), .bool d'.dn, .slice b3 y3 e3, .int .i64 rm'] 30)).cell? ⟨g, off + k * 9 + 1, none⟩ = some (.string (tx a.name)) ∧ (w5.alloc (Obj.cells #[.slice b1 y1 e1, .slice b2 y2 e2, .int .i64 (d'.n : Int), .bool d'.dn, .slice b3 y3 e3, .int .i64 rm'] 30)).cell? ⟨g, off + k * 9 + 2, none⟩ = some (.string (tx (AC.to a))) ∧ (w5.alloc (Obj.cells #[.slice b1 y1 e1, .slice b2 y2 e2, .int .i64 (d'.n : Int), .bool d'.dn, .slice b3 y3 e3, .int .i64 rm'] 30)).cell? ⟨g, off + k * 9 + 3, none⟩ = some (.string (tx a.s)) ∧ (w5.alloc (Obj.cells #[.slice b1 y1 e1, .slice b2 y2 e2, .int .i64 (d'.n : Int), .bool d'.dn, .slice b3 y3 e3, .int .i64 rm'] 30)).cell? ⟨g, off + k * 9 + 4, none⟩ = some (.int .i64 a.n) ∧ (w5.alloc (Obj.cells #[.slice b1 y1 e1, .slice b2 y2 e2, .int .i64 (d'.n : Int), .bool d'.dn, .slice b3 y3 e3, .int .i64 rm'] 30)).cell? ⟨g, off + k * 9 + 5, none⟩ = some (.int .i64 a.f0) ∧ (w5.alloc (Obj.cells #[.slice b1 y1 e1, .slice b2 y2 e2, .int .i64 (d'.n : Int), .bool d'.dn, .slice b3 y3 e3, .int .i64 rm'] 30)).cell? ⟨g, off + k * 9 + 6, none⟩ = some (.int .i64 a.f1) ∧ (w5.alloc (Obj.cells #[.slice b1 y1 e1, .slice b2 y2 e2, .int .i64 (d'.n : Int), .bool d'.dn, .slice b3 y3 e3, .int .i64 rm'] 30)).cell? ⟨g, off + k * 9 + 7, none⟩ = some (.int .i64 a.f2) ∧ (w5.alloc (Obj.cells #[.slice b1 y1 e1, .slice b2 y2 e2, .int .i64 (d'.n : Int), .bool d'.dn, .slice b3 y3 e3, .int .i64 rm'] 30)).cell? ⟨g, off + k * 9 + 8, none⟩ = some (.slice adp np cpp)) ∧ Hid ((w5.alloc (Obj.cells #[.slice b1 y1 e1, .slice b2 y2 e2, .int .i64 (d'.n : Int), .bool d'.dn, .slice b3 y3 e3, .int .i64 rm'] 30)).drew.cell? ⟨gm, 0, none⟩ = some (.slice a1 x1 c1) ∧ (w5.alloc (Obj.cells #[.slice b1 y1 e1, .slice b2 y2 e2, .int .i64 (d'.n : Int), .bool d'.dn, .slice b3 y3 e3, .int .i64 rm'] 30)).drew.cell? ⟨gm, 1, none⟩ = some (.slice a2 x2 c2) ∧ (w5.alloc (Obj.cells #[.slice b1 y1 e1, .slice b2 y2 e2, .int .i64 (d'.n : Int), .bool d'.dn, .slice b3 y3 e3, .int .i64 rm'] 30)).drew.cell? ⟨gm, 2, none⟩ = some (.int .i64 (d.n : Int)) ∧ (w5.alloc (Obj.cells #[.slice b1 y1 e1, .slice b2 y2 e2, .int .i64 (d'.n : Int), .bool d'.dn, .slice b3 y3 e3, .int .i64 rm'] 30)).drew.cell? ⟨gm, 3, none⟩ = some (.bool d.dn) ∧ (w5.alloc (Obj.cells #[.slice b1 y1 e1, .slice b2 y2 e2, .int .i64 (d'.n : Int), .bool d'.dn, .slice b3 y3 e3, .int .i64 rm'] 30)).drew.cell? ⟨gm, 4, none⟩ = some (.slice a3 x3 c3) ∧ (w5.alloc (Obj.cells #[.slice b1 y1 e1, .slice b2 y2 e2, .int .i64 (d'.n : Int), .bool d'.dn, .slice b3 y3 e3, .int .i64 rm'] 30)).drew.cell? ⟨gm, 5, none⟩ = some (.int .i64 rm) ∧ (w5.alloc (Obj.cells #[.slice b1 y1 e1, .slice b2 y2 e2, .int .i64 (d'.n : Int), .bool d'.dn, .slice b3 y3 e3, .int .i64 rm'] 30)).drew.cell? ⟨g, off + k * 9, none⟩ = some (.int .i64 a.kind) ∧ (w5.alloc (Obj.cells #[.slice b1 y1 e1, .slice b2 y2 e2, .int .i64 (d'.n : Int), .bool d'.dn, .slice b3 y3 e3, .int .i64 rm'] 30)).drew.cell? ⟨g, off + k * 9 + 1, none⟩ = some (.string (tx a.name)) ∧ (w5.alloc (Obj.cells #[.slice b1 y1 e1, .slice b2 y2 e2, .int .i64 (d'.n : Int), .bool d'.dn, .slice b3 y3 e3, .int .i64 rm'] 30)).drew.cell? ⟨g, off + k * 9 + 2, none⟩ = some (.string (tx (AC.to a))) ∧ (w5.alloc (Obj.cells #[.slice b1 y1 e1, .slice b2 y2 e2, .int .i64 (d'.n : Int), .bool d'.dn, .slice b3 y3 e3, .int .i64 rm'] 30)).drew.cell? ⟨g, off + k * 9 + 3, none⟩ = some (.string (tx a.s)) ∧ (w5.alloc (Obj.cells #[.slice b1 y1 e1, .slice b2 y2 e2, .int .i64 (d'.n : Int), .bool d'.dn, .slice b3 y3 e3, .int .i64 rm'] 30)).drew.cell? ⟨g, off + k * 9 + 4, none⟩ = some (.int .i64 a.n) ∧ (w5.alloc (Obj.cells #[.slice b1 y1 e1, .slice b2 y2 e2, .int .i64 (d'.n : Int), .bool d'.dn, .slice b3 y3 e3, .int .i64 rm'] 30)).drew.cell? ⟨g, off + k * 9 + 5, none⟩ = some (.int .i64 a.f0) ∧ (w5.alloc (Obj.cells #[.slice b1 y1 e1, .slice b2 y2 e2, .int .i64 (d'.n : Int), .bool d'.dn, .slice b3 y3 e3, .int .i64 rm'] 30)).drew.cell? ⟨g, off + k * 9 + 6, none⟩ = some (.int .i64 a.f1) ∧ (w5.alloc (Obj.cells #[.slice b1 y1 e1, .slice b2 y2 e2, .int .i64 (d'.n : Int), .bool d'.dn, .slice b3 y3 e3, .int .i64 rm'] 30)).drew.cell? ⟨g, off + k * 9 + 7, none⟩ = some (.int .i64 a.f2) ∧ (w5.alloc (Obj.cells #[.slice b1 y1 e1, .slice b2 y2 e2, .int .i64 (d'.n : Int), .bool d'.dn, .slice b3 y3 e3, .int .i64 rm'] 30)).drew.cell? ⟨g, off + k * 9 + 8, none⟩ = some (.slice adp np cpp)) ∧ Hid (PlSt d' rm' (k + 1) ((k + 1) * 1048577))) := fun W hW => (ON.out W hW).mono fun e w5 ⟨p', b1, b2, b3, y1, e1, y2, e2, y3, e3, ms', d', rm', he, hS, hB5, hR5, hS5, hK5⟩ => by
          have hBW := hB5.out.weaken (fun j hj => Or.inl hj)
          have r9 : RowIs (w5.alloc (Obj.cells #[.slice b1 y1 e1, .slice b2 y2 e2, .int .i64 (d'.n : Int), .bool d'.dn, .slice b3 y3 e3, .int .i64 rm'] 30)) gm [.slice a1 x1 c1, .slice a2 x2 c2, .int .i64 (d.n : Int), .bool d.dn, .slice a3 x3 c3, .int .i64 rm] 30 := hR5.out.keep (keep_alloc (fun _ => False) _ _) (fun h => h)
          have o9 := plOut_alloc (lo := wr.heap.size) hBW rm' (Nat.le_trans hW.size hK5.out.size)
          exact ⟨p', b1, b2, b3, y1, e1, y2, e2, y3, e3, ms', d', rm', he, hS, ⟨o9, r9⟩, SK.out _ r9 o9.both.keep, SK.out _ (r9.keep (keep_drew (fun _ => False) _) (fun h => h)) o9.drew.both.keep, hS5⟩
        have ON2 : Hid (∀ W, Keep (fun _ => False) (wr.alloc (Obj.cells #[.slice none 0 0, .slice none 0 0, .int .i64 0, .bool false, .slice none 0 0, .int .i64 0] 30)) W → Calls Try.prog 12 #[.pointer (some ⟨p, 0, none⟩), .agg #[.slice a1 x1 c1, .slice a2 x2 c2, .int .i64 (d.n : Int), .bool d.dn, .slice a3 x3 c3, .int .i64 rm], .agg #[.int .i64 a.kind, .string (tx a.name), .string (tx (AC.to a)), .string (tx a.s), .int .i64 a.n, .int .i64 a.f0, .int .i64 a.f1, .int .i64 a.f2, .slice adp np cpp]] W fun e w5 => ∃ (p' : Nat) (b1 b2 b3 : Option Addr) (y1 e1 y2 e2 y3 e3 : Nat) (ms' : List RC) (d' : Ds) (rm' : Int), e = .returned (.tuple #[.pointer (some ⟨p', 0, none⟩), .agg #[.slice b1 y1 e1, .slice b2 y2 e2, .int .i64 (d'.n : Int), .bool d'.dn, .slice b3 y3 e3, .int .i64 rm'], .bool true]) ∧ (w5.cell? ⟨gm, 0, none⟩ = some (.slice a1 x1 c1) ∧ w5.cell? ⟨gm, 1, none⟩ = some (.slice a2 x2 c2) ∧ w5.cell? ⟨gm, 2, none⟩ = some (.int .i64 (d.n : Int)) ∧ w5.cell? ⟨gm, 3, none⟩ = some (.bool d.dn) ∧ w5.cell? ⟨gm, 4, none⟩ = some (.slice a3 x3 c3) ∧ w5.cell? ⟨gm, 5, none⟩ = some (.int .i64 rm) ∧ w5.cell? ⟨g, off + k * 9, none⟩ = some (.int .i64 a.kind) ∧ w5.cell? ⟨g, off + k * 9 + 1, none⟩ = some (.string (tx a.name)) ∧ w5.cell? ⟨g, off + k * 9 + 2, none⟩ = some (.string (tx (AC.to a))) ∧ w5.cell? ⟨g, off + k * 9 + 3, none⟩ = some (.string (tx a.s)) ∧ w5.cell? ⟨g, off + k * 9 + 4, none⟩ = some (.int .i64 a.n) ∧ w5.cell? ⟨g, off + k * 9 + 5, none⟩ = some (.int .i64 a.f0) ∧ w5.cell? ⟨g, off + k * 9 + 6, none⟩ = some (.int .i64 a.f1) ∧ w5.cell? ⟨g, off + k * 9 + 7, none⟩ = some (.int .i64 a.f2) ∧ w5.cell? ⟨g, off + k * 9 + 8, none⟩ = some (.slice adp np cpp)) ∧ (w5.cell? ⟨wr.heap.size, 0, none⟩ = some (.slice none 0 0) ∧ w5.cell? ⟨wr.heap.size, 1, none⟩ = some (.slice none 0 0) ∧ w5.cell? ⟨wr.heap.size, 2, none⟩ = some (.int .i64 0) ∧ w5.cell? ⟨wr.heap.size, 3, none⟩ = some (.bool false) ∧ w5.cell? ⟨wr.heap.size, 4, none⟩ = some (.slice none 0 0) ∧ w5.cell? ⟨wr.heap.size, 5, none⟩ = some (.int .i64 0) ∧ w5.frozen? ⟨wr.heap.size, 0, none⟩ = false ∧ w5.frozen? ⟨wr.heap.size, 1, none⟩ = false ∧ w5.frozen? ⟨wr.heap.size, 2, none⟩ = false ∧ w5.frozen? ⟨wr.heap.size, 3, none⟩ = false ∧ w5.frozen? ⟨wr.heap.size, 4, none⟩ = false ∧ w5.frozen? ⟨wr.heap.size, 5, none⟩ = false) ∧ Hid (PlOut (fun j => j < w.heap.size ∨ j = gm) w wr.heap.size p' (.slice b1 y1 e1) (.slice b2 y2 e2) (.slice b3 y3 e3) ms' d' rm' wr.heap.size ((((((w5.setCell ⟨wr.heap.size, 0, none⟩ (.slice b1 y1 e1)).setCell ⟨wr.heap.size, 1, none⟩ (.slice b2 y2 e2)).setCell ⟨wr.heap.size, 2, none⟩ (.int .i64 (d'.n : Int))).setCell ⟨wr.heap.size, 3, none⟩ (.bool d'.dn)).setCell ⟨wr.heap.size, 4, none⟩ (.slice b3 y3 e3)).setCell ⟨wr.heap.size, 5, none⟩ (.int .i64 rm')) ∧ RowIs ((((((w5.setCell ⟨wr.heap.size, 0, none⟩ (.slice b1 y1 e1)).setCell ⟨wr.heap.size, 1, none⟩ (.slice b2 y2 e2)).setCell ⟨wr.heap.size, 2, none⟩ (.int .i64 (d'.n : Int))).setCell ⟨wr.heap.size, 3, none⟩ (.bool d'.dn)).setCell ⟨wr.heap.size, 4, none⟩ (.slice b3 y3 e3)).setCell ⟨wr.heap.size, 5, none⟩ (.int .i64 rm')) gm [.slice a1 x1 c1, .slice a2 x2 c2, .int .i64 (d.n : Int), .bool d.dn, .slice a3 x3 c3, .int .i64 rm] 30) ∧ Hid (((((((w5.setCell ⟨wr.heap.size, 0, none⟩ (.slice b1 y1 e1)).setCell ⟨wr.heap.size, 1, none⟩ (.slice b2 y2 e2)).setCell ⟨wr.heap.size, 2, none⟩ (.int .i64 (d'.n : Int))).setCell ⟨wr.heap.size, 3, none⟩ (.bool d'.dn)).setCell ⟨wr.heap.size, 4, none⟩ (.slice b3 y3 e3)).setCell ⟨wr.heap.size, 5, none⟩ (.int .i64 rm')).cell? ⟨gm, 0, none⟩ = some (.slice a1 x1 c1) ∧ ((((((w5.setCell ⟨wr.heap.size, 0, none⟩ (.slice b1 y1 e1)).setCell ⟨wr.heap.size, 1, none⟩ (.slice b2 y2 e2)).setCell ⟨wr.heap.size, 2, none⟩ (.int .i64 (d'.n : Int))).setCell ⟨wr.heap.size, 3, none⟩ (.bool d'.dn)).setCell ⟨wr.heap.size, 4, none⟩ (.slice b3 y3 e3)).setCell ⟨wr.heap.size, 5, none⟩ (.int .i64 rm')).cell? ⟨gm, 1, none⟩ = some (.slice a2 x2 c2) ∧ ((((((w5.setCell ⟨wr.heap.size, 0, none⟩ (.slice b1 y1 e1)).setCell ⟨wr.heap.size, 1, none⟩ (.slice b2 y2 e2)).setCell ⟨wr.heap.size, 2, none⟩ (.int .i64 (d'.n : Int))).setCell ⟨wr.heap.size, 3, none⟩ (.bool d'.dn)).setCell ⟨wr.heap.size, 4, none⟩ (.slice b3 y3 e3)).setCell ⟨wr.heap.size, 5, none⟩ (.int .i64 rm')).cell? ⟨gm, 2, none⟩ = some (.int .i64 (d.n : Int)) ∧ ((((((w5.setCell ⟨wr.heap.size, 0, none⟩ (.slice b1 y1 e1)).setCell ⟨wr.heap.size, 1, none⟩ (.slice b2 y2 e2)).setCell ⟨wr.heap.size, 2, none⟩ (.int .i64 (d'.n : Int))).setCell ⟨wr.heap.size, 3, none⟩ (.bool d'.dn)).setCell ⟨wr.heap.size, 4, none⟩ (.slice b3 y3 e3)).setCell ⟨wr.heap.size, 5, none⟩ (.int .i64 rm')).cell? ⟨gm, 3, none⟩ = some (.bool d.dn) ∧ ((((((w5.setCell ⟨wr.heap.size, 0, none⟩ (.slice b1 y1 e1)).setCell ⟨wr.heap.size, 1, none⟩ (.slice b2 y2 e2)).setCell ⟨wr.heap.size, 2, none⟩ (.int .i64 (d'.n : Int))).setCell ⟨wr.heap.size, 3, none⟩ (.bool d'.dn)).setCell ⟨wr.heap.size, 4, none⟩ (.slice b3 y3 e3)).setCell ⟨wr.heap.size, 5, none⟩ (.int .i64 rm')).cell? ⟨gm, 4, none⟩ = some (.slice a3 x3 c3) ∧ ((((((w5.setCell ⟨wr.heap.size, 0, none⟩ (.slice b1 y1 e1)).setCell ⟨wr.heap.size, 1, none⟩ (.slice b2 y2 e2)).setCell ⟨wr.heap.size, 2, none⟩ (.int .i64 (d'.n : Int))).setCell ⟨wr.heap.size, 3, none⟩ (.bool d'.dn)).setCell ⟨wr.heap.size, 4, none⟩ (.slice b3 y3 e3)).setCell ⟨wr.heap.size, 5, none⟩ (.int .i64 rm')).cell? ⟨gm, 5, none⟩ = some (.int .i64 rm) ∧ ((((((w5.setCell ⟨wr.heap.size, 0, none⟩ (.slice b1 y1 e1)).setCell ⟨wr.heap.size, 1, none⟩ (.slice b2 y2 e2)).setCell ⟨wr.heap.size, 2, none⟩ (.int .i64 (d'.n : Int))).setCell ⟨wr.heap.size, 3, none⟩ (.bool d'.dn)).setCell ⟨wr.heap.size, 4, none⟩ (.slice b3 y3 e3)).setCell ⟨wr.heap.size, 5, none⟩ (.int .i64 rm')).cell? ⟨g, off + k * 9, none⟩ = some (.int .i64 a.kind) ∧ ((((((w5.setCell ⟨wr.heap.size, 0, none⟩ (.slice b1 y1 e1)).setCell ⟨wr.heap.size, 1, none⟩ (.slice b2 y2 e2)).setCell ⟨wr.heap.size, 2, none⟩ (.int .i64 (d'.n : Int))).setCell ⟨wr.heap.size, 3, none⟩ (.bool d'.dn)).setCell ⟨wr.heap.size, 4, none⟩ (.slice b3 y3 e3)).setCell ⟨wr.heap.size, 5, none⟩ (.int .i64 rm')).cell? ⟨g, off + k * 9 + 1, none⟩ = some (.string (tx a.name)) ∧ ((((((w5.setCell ⟨wr.heap.size, 0, none⟩ (.slice b1 y1 e1)).setCell ⟨wr.heap.size, 1, none⟩ (.slice b2 y2 e2)).setCell ⟨wr.heap.size, 2, none⟩ (.int .i64 (d'.n : Int))).setCell ⟨wr.heap.size, 3, none⟩ (.bool d'.dn)).setCell ⟨wr.heap.size, 4, none⟩ (.slice b3 y3 e3)).setCell ⟨wr.heap.size, 5, none⟩ (.int .i64 rm')).cell? ⟨g, off + k * 9 + 2, none⟩ = some (.string (tx (AC.to a))) ∧ ((((((w5.setCell ⟨wr.heap.size, 0, none⟩ (.slice b1 y1 e1)).setCell ⟨wr.heap.size, 1, none⟩ (.slice b2 y2 e2)).setCell ⟨wr.heap.size, 2, none⟩ (.int .i64 (d'.n : Int))).setCell ⟨wr.heap.size, 3, none⟩ (.bool d'.dn)).setCell ⟨wr.heap.size, 4, none⟩ (.slice b3 y3 e3)).setCell ⟨wr.heap.size, 5, none⟩ (.int .i64 rm')).cell? ⟨g, off + k * 9 + 3, none⟩ = some (.string (tx a.s)) ∧ ((((((w5.setCell ⟨wr.heap.size, 0, none⟩ (.slice b1 y1 e1)).setCell ⟨wr.heap.size, 1, none⟩ (.slice b2 y2 e2)).setCell ⟨wr.heap.size, 2, none⟩ (.int .i64 (d'.n : Int))).setCell ⟨wr.heap.size, 3, none⟩ (.bool d'.dn)).setCell ⟨wr.heap.size, 4, none⟩ (.slice b3 y3 e3)).setCell ⟨wr.heap.size, 5, none⟩ (.int .i64 rm')).cell? ⟨g, off + k * 9 + 4, none⟩ = some (.int .i64 a.n) ∧ ((((((w5.setCell ⟨wr.heap.size, 0, none⟩ (.slice b1 y1 e1)).setCell ⟨wr.heap.size, 1, none⟩ (.slice b2 y2 e2)).setCell ⟨wr.heap.size, 2, none⟩ (.int .i64 (d'.n : Int))).setCell ⟨wr.heap.size, 3, none⟩ (.bool d'.dn)).setCell ⟨wr.heap.size, 4, none⟩ (.slice b3 y3 e3)).setCell ⟨wr.heap.size, 5, none⟩ (.int .i64 rm')).cell? ⟨g, off + k * 9 + 5, none⟩ = some (.int .i64 a.f0) ∧ ((((((w5.setCell ⟨wr.heap.size, 0, none⟩ (.slice b1 y1 e1)).setCell ⟨wr.heap.size, 1, none⟩ (.slice b2 y2 e2)).setCell ⟨wr.heap.size, 2, none⟩ (.int .i64 (d'.n : Int))).setCell ⟨wr.heap.size, 3, none⟩ (.bool d'.dn)).setCell ⟨wr.heap.size, 4, none⟩ (.slice b3 y3 e3)).setCell ⟨wr.heap.size, 5, none⟩ (.int .i64 rm')).cell? ⟨g, off + k * 9 + 6, none⟩ = some (.int .i64 a.f1) ∧ ((((((w5.setCell ⟨wr.heap.size, 0, none⟩ (.slice b1 y1 e1)).setCell ⟨wr.heap.size, 1, none⟩ (.slice b2 y2 e2)).setCell ⟨wr.heap.size, 2, none⟩ (.int .i64 (d'.n : Int))).setCell ⟨wr.heap.size, 3, none⟩ (.bool d'.dn)).setCell ⟨wr.heap.size, 4, none⟩ (.slice b3 y3 e3)).setCell ⟨wr.heap.size, 5, none⟩ (.int .i64 rm')).cell? ⟨g, off + k * 9 + 7, none⟩ = some (.int .i64 a.f2) ∧ ((((((w5.setCell ⟨wr.heap.size, 0, none⟩ (.slice b1 y1 e1)).setCell ⟨wr.heap.size, 1, none⟩ (.slice b2 y2 e2)).setCell ⟨wr.heap.size, 2, none⟩ (.int .i64 (d'.n : Int))).setCell ⟨wr.heap.size, 3, none⟩ (.bool d'.dn)).setCell ⟨wr.heap.size, 4, none⟩ (.slice b3 y3 e3)).setCell ⟨wr.heap.size, 5, none⟩ (.int .i64 rm')).cell? ⟨g, off + k * 9 + 8, none⟩ = some (.slice adp np cpp)) ∧ Hid (((((((w5.setCell ⟨wr.heap.size, 0, none⟩ (.slice b1 y1 e1)).setCell ⟨wr.heap.size, 1, none⟩ (.slice b2 y2 e2)).setCell ⟨wr.heap.size, 2, none⟩ (.int .i64 (d'.n : Int))).setCell ⟨wr.heap.size, 3, none⟩ (.bool d'.dn)).setCell ⟨wr.heap.size, 4, none⟩ (.slice b3 y3 e3)).setCell ⟨wr.heap.size, 5, none⟩ (.int .i64 rm')).drew.cell? ⟨gm, 0, none⟩ = some (.slice a1 x1 c1) ∧ ((((((w5.setCell ⟨wr.heap.size, 0, none⟩ (.slice b1 y1 e1)).setCell ⟨wr.heap.size, 1, none⟩ (.slice b2 y2 e2)).setCell ⟨wr.heap.size, 2, none⟩ (.int .i64 (d'.n : Int))).setCell ⟨wr.heap.size, 3, none⟩ (.bool d'.dn)).setCell ⟨wr.heap.size, 4, none⟩ (.slice b3 y3 e3)).setCell ⟨wr.heap.size, 5, none⟩ (.int .i64 rm')).drew.cell? ⟨gm, 1, none⟩ = some (.slice a2 x2 c2) ∧ ((((((w5.setCell ⟨wr.heap.size, 0, none⟩ (.slice b1 y1 e1)).setCell ⟨wr.heap.size, 1, none⟩ (.slice b2 y2 e2)).setCell ⟨wr.heap.size, 2, none⟩ (.int .i64 (d'.n : Int))).setCell ⟨wr.heap.size, 3, none⟩ (.bool d'.dn)).setCell ⟨wr.heap.size, 4, none⟩ (.slice b3 y3 e3)).setCell ⟨wr.heap.size, 5, none⟩ (.int .i64 rm')).drew.cell? ⟨gm, 2, none⟩ = some (.int .i64 (d.n : Int)) ∧ ((((((w5.setCell ⟨wr.heap.size, 0, none⟩ (.slice b1 y1 e1)).setCell ⟨wr.heap.size, 1, none⟩ (.slice b2 y2 e2)).setCell ⟨wr.heap.size, 2, none⟩ (.int .i64 (d'.n : Int))).setCell ⟨wr.heap.size, 3, none⟩ (.bool d'.dn)).setCell ⟨wr.heap.size, 4, none⟩ (.slice b3 y3 e3)).setCell ⟨wr.heap.size, 5, none⟩ (.int .i64 rm')).drew.cell? ⟨gm, 3, none⟩ = some (.bool d.dn) ∧ ((((((w5.setCell ⟨wr.heap.size, 0, none⟩ (.slice b1 y1 e1)).setCell ⟨wr.heap.size, 1, none⟩ (.slice b2 y2 e2)).setCell ⟨wr.heap.size, 2, none⟩ (.int .i64 (d'.n : Int))).setCell ⟨wr.heap.size, 3, none⟩ (.bool d'.dn)).setCell ⟨wr.heap.size, 4, none⟩ (.slice b3 y3 e3)).setCell ⟨wr.heap.size, 5, none⟩ (.int .i64 rm')).drew.cell? ⟨gm, 4, none⟩ = some (.slice a3 x3 c3) ∧ ((((((w5.setCell ⟨wr.heap.size, 0, none⟩ (.slice b1 y1 e1)).setCell ⟨wr.heap.size, 1, none⟩ (.slice b2 y2 e2)).setCell ⟨wr.heap.size, 2, none⟩ (.int .i64 (d'.n : Int))).setCell ⟨wr.heap.size, 3, none⟩ (.bool d'.dn)).setCell ⟨wr.heap.size, 4, none⟩ (.slice b3 y3 e3)).setCell ⟨wr.heap.size, 5, none⟩ (.int .i64 rm')).drew.cell? ⟨gm, 5, none⟩ = some (.int .i64 rm) ∧ ((((((w5.setCell ⟨wr.heap.size, 0, none⟩ (.slice b1 y1 e1)).setCell ⟨wr.heap.size, 1, none⟩ (.slice b2 y2 e2)).setCell ⟨wr.heap.size, 2, none⟩ (.int .i64 (d'.n : Int))).setCell ⟨wr.heap.size, 3, none⟩ (.bool d'.dn)).setCell ⟨wr.heap.size, 4, none⟩ (.slice b3 y3 e3)).setCell ⟨wr.heap.size, 5, none⟩ (.int .i64 rm')).drew.cell? ⟨g, off + k * 9, none⟩ = some (.int .i64 a.kind) ∧ ((((((w5.setCell ⟨wr.heap.size, 0, none⟩ (.slice b1 y1 e1)).setCell ⟨wr.heap.size, 1, none⟩ (.slice b2 y2 e2)).setCell ⟨wr.heap.size, 2, none⟩ (.int .i64 (d'.n : Int))).setCell ⟨wr.heap.size, 3, none⟩ (.bool d'.dn)).setCell ⟨wr.heap.size, 4, none⟩ (.slice b3 y3 e3)).setCell ⟨wr.heap.size, 5, none⟩ (.int .i64 rm')).drew.cell? ⟨g, off + k * 9 + 1, none⟩ = some (.string (tx a.name)) ∧ ((((((w5.setCell ⟨wr.heap.size, 0, none⟩ (.slice b1 y1 e1)).setCell ⟨wr.heap.size, 1, none⟩ (.slice b2 y2 e2)).setCell ⟨wr.heap.size, 2, none⟩ (.int .i64 (d'.n : Int))).setCell ⟨wr.heap.size, 3, none⟩ (.bool d'.dn)).setCell ⟨wr.heap.size, 4, none⟩ (.slice b3 y3 e3)).setCell ⟨wr.heap.size, 5, none⟩ (.int .i64 rm')).drew.cell? ⟨g, off + k * 9 + 2, none⟩ = some (.string (tx (AC.to a))) ∧ ((((((w5.setCell ⟨wr.heap.size, 0, none⟩ (.slice b1 y1 e1)).setCell ⟨wr.heap.size, 1, none⟩ (.slice b2 y2 e2)).setCell ⟨wr.heap.size, 2, none⟩ (.int .i64 (d'.n : Int))).setCell ⟨wr.heap.size, 3, none⟩ (.bool d'.dn)).setCell ⟨wr.heap.size, 4, none⟩ (.slice b3 y3 e3)).setCell ⟨wr.heap.size, 5, none⟩ (.int .i64 rm')).drew.cell? ⟨g, off + k * 9 + 3, none⟩ = some (.string (tx a.s)) ∧ ((((((w5.setCell ⟨wr.heap.size, 0, none⟩ (.slice b1 y1 e1)).setCell ⟨wr.heap.size, 1, none⟩ (.slice b2 y2 e2)).setCell ⟨wr.heap.size, 2, none⟩ (.int .i64 (d'.n : Int))).setCell ⟨wr.heap.size, 3, none⟩ (.bool d'.dn)).setCell ⟨wr.heap.size, 4, none⟩ (.slice b3 y3 e3)).setCell ⟨wr.heap.size, 5, none⟩ (.int .i64 rm')).drew.cell? ⟨g, off + k * 9 + 4, none⟩ = some (.int .i64 a.n) ∧ ((((((w5.setCell ⟨wr.heap.size, 0, none⟩ (.slice b1 y1 e1)).setCell ⟨wr.heap.size, 1, none⟩ (.slice b2 y2 e2)).setCell ⟨wr.heap.size, 2, none⟩ (.int .i64 (d'.n : Int))).setCell ⟨wr.heap.size, 3, none⟩ (.bool d'.dn)).setCell ⟨wr.heap.size, 4, none⟩ (.slice b3 y3 e3)).setCell ⟨wr.heap.size, 5, none⟩ (.int .i64 rm')).drew.cell? ⟨g, off + k * 9 + 5, none⟩ = some (.int .i64 a.f0) ∧ ((((((w5.setCell ⟨wr.heap.size, 0, none⟩ (.slice b1 y1 e1)).setCell ⟨wr.heap.size, 1, none⟩ (.slice b2 y2 e2)).setCell ⟨wr.heap.size, 2, none⟩ (.int .i64 (d'.n : Int))).setCell ⟨wr.heap.size, 3, none⟩ (.bool d'.dn)).setCell ⟨wr.heap.size, 4, none⟩ (.slice b3 y3 e3)).setCell ⟨wr.heap.size, 5, none⟩ (.int .i64 rm')).drew.cell? ⟨g, off + k * 9 + 6, none⟩ = some (.int .i64 a.f1) ∧ ((((((w5.setCell ⟨wr.heap.size, 0, none⟩ (.slice b1 y1 e1)).setCell ⟨wr.heap.size, 1, none⟩ (.slice b2 y2 e2)).setCell ⟨wr.heap.size, 2, none⟩ (.int .i64 (d'.n : Int))).setCell ⟨wr.heap.size, 3, none⟩ (.bool d'.dn)).setCell ⟨wr.heap.size, 4, none⟩ (.slice b3 y3 e3)).setCell ⟨wr.heap.size, 5, none⟩ (.int .i64 rm')).drew.cell? ⟨g, off + k * 9 + 7, none⟩ = some (.int .i64 a.f2) ∧ ((((((w5.setCell ⟨wr.heap.size, 0, none⟩ (.slice b1 y1 e1)).setCell ⟨wr.heap.size, 1, none⟩ (.slice b2 y2 e2)).setCell ⟨wr.heap.size, 2, none⟩ (.int .i64 (d'.n : Int))).setCell ⟨wr.heap.size, 3, none⟩ (.bool d'.dn)).setCell ⟨wr.heap.size, 4, none⟩ (.slice b3 y3 e3)).setCell ⟨wr.heap.size, 5, none⟩ (.int .i64 rm')).drew.cell? ⟨g, off + k * 9 + 8, none⟩ = some (.slice adp np cpp)) ∧ Hid (PlSt d' rm' (k + 1) ((k + 1) * 1048577))) := fun W hW => (ON.out W ((keep_alloc _ _ _).trans hW)).mono fun e w5 ⟨p', b1, b2, b3, y1, e1, y2, e2, y3, e3, ms', d', rm', he, hS, hB5, hR5, hS5, hK5⟩ => by
          obtain ⟨zr, zc⟩ := ZA.out W w5 hW hK5.out
          have h9 := hW.size
          have o9 := plOut_store (P := (fun j => j < w.heap.size ∨ j = gm)) (lo := wr.heap.size) hB5.out (fun j hj => Or.inl hj) rm' zr.out (.inr ⟨Nat.le_refl _, by simp at h9; omega⟩) HWR.out (Nat.le_refl _)
          have k9 := (six (v0 := .slice b1 y1 e1) (v1 := .slice b2 y2 e2) (v2 := .int .i64 (d'.n : Int)) (v3 := .bool d'.dn) (v4 := .slice b3 y3 e3) (v5 := .int .i64 rm') zr.out).2
          have r9 : RowIs ((((((w5.setCell ⟨wr.heap.size, 0, none⟩ (.slice b1 y1 e1)).setCell ⟨wr.heap.size, 1, none⟩ (.slice b2 y2 e2)).setCell ⟨wr.heap.size, 2, none⟩ (.int .i64 (d'.n : Int))).setCell ⟨wr.heap.size, 3, none⟩ (.bool d'.dn)).setCell ⟨wr.heap.size, 4, none⟩ (.slice b3 y3 e3)).setCell ⟨wr.heap.size, 5, none⟩ (.int .i64 rm')) gm [.slice a1 x1 c1, .slice a2 x2 c2, .int .i64 (d.n : Int), .bool d.dn, .slice a3 x3 c3, .int .i64 rm] 30 := hR5.out.keep k9 (fun e => by have := HGR.out; omega)
          exact ⟨p', b1, b2, b3, y1, e1, y2, e2, y3, e3, ms', d', rm', he, hS, zc, ⟨o9, r9⟩, SK.out _ r9 o9.both.keep, SK.out _ (r9.keep (keep_drew (fun _ => False) _) (fun h => h)) o9.drew.both.keep, hS5⟩
        have kXa : Hid (Keep (fun _ => False) wr wr) := Keep.refl _ _
        have kXb : Hid (Keep (fun _ => False) wr wr.drew) := keep_drew _ _
        have kXc : Hid (Keep (fun _ => False) (wr.alloc (Obj.cells #[.slice none 0 0, .slice none 0 0, .int .i64 0, .bool false, .slice none 0 0, .int .i64 0] 30)) (wr.alloc (Obj.cells #[.slice none 0 0, .slice none 0 0, .int .i64 0, .bool false, .slice none 0 0, .int .i64 0] 30))) := Keep.refl _ _
        have kXd : Hid (Keep (fun _ => False) (wr.alloc (Obj.cells #[.slice none 0 0, .slice none 0 0, .int .i64 0, .bool false, .slice none 0 0, .int .i64 0] 30)) (wr.alloc (Obj.cells #[.slice none 0 0, .slice none 0 0, .int .i64 0, .bool false, .slice none 0 0, .int .i64 0] 30)).drew) := keep_drew _ _
        obtain ⟨n0, n1, n2, n3, n4, n5, n6, n7, n8, n9, n10, n11, n12, n13, n14⟩ := SK.out wr HR.out HB.out.keep
        clear ON ZA
        go_wp2
        go_cut [6, 7, 8] from 27 to 37 (fun s6 s7 s8 wx => ∃ (gY p' : Nat) (b1 b2 b3 : Option Addr) (y1 e1 y2 e2 y3 e3 : Nat) (ms' : List RC) (d' : Ds) (rm' : Int), s6 = .pointer (some ⟨p', 0, none⟩) ∧ s7 = .pointer (some ⟨gY, 0, none⟩) ∧ s8 = .bool true ∧ Hid (PlOut (fun j => j < w.heap.size ∨ j = gm) w wr.heap.size p' (.slice b1 y1 e1) (.slice b2 y2 e2) (.slice b3 y3 e3) ms' d' rm' gY wx) ∧ Hid (RowIs wx gm [.slice a1 x1 c1, .slice a2 x2 c2, .int .i64 (d.n : Int), .bool d.dn, .slice a3 x3 c3, .int .i64 rm] 30) ∧ Hid (PlSt d' rm' (k + 1) ((k + 1) * 1048577)))
        case first =>
          clear HB HR HS HA HAC SK HWR HGR
          go_region_held3 (fun w' => w'.cell? ⟨gm, 0, none⟩ = some (.slice a1 x1 c1) ∧ w'.cell? ⟨gm, 1, none⟩ = some (.slice a2 x2 c2) ∧ w'.cell? ⟨gm, 2, none⟩ = some (.int .i64 (d.n : Int)) ∧ w'.cell? ⟨gm, 3, none⟩ = some (.bool d.dn) ∧ w'.cell? ⟨gm, 4, none⟩ = some (.slice a3 x3 c3) ∧ w'.cell? ⟨gm, 5, none⟩ = some (.int .i64 rm) ∧ w'.cell? ⟨g, off + k * 9, none⟩ = some (.int .i64 a.kind) ∧ w'.cell? ⟨g, off + k * 9 + 1, none⟩ = some (.string (tx a.name)) ∧ w'.cell? ⟨g, off + k * 9 + 2, none⟩ = some (.string (tx (AC.to a))) ∧ w'.cell? ⟨g, off + k * 9 + 3, none⟩ = some (.string (tx a.s)) ∧ w'.cell? ⟨g, off + k * 9 + 4, none⟩ = some (.int .i64 a.n) ∧ w'.cell? ⟨g, off + k * 9 + 5, none⟩ = some (.int .i64 a.f0) ∧ w'.cell? ⟨g, off + k * 9 + 6, none⟩ = some (.int .i64 a.f1) ∧ w'.cell? ⟨g, off + k * 9 + 7, none⟩ = some (.int .i64 a.f2) ∧ w'.cell? ⟨g, off + k * 9 + 8, none⟩ = some (.slice adp np cpp)) (first | with_reducible assumption | with_reducible (exact hSA.out) | with_reducible (exact hSB.out) | (refine ⟨?_, ?_, ?_, ?_, ?_, ?_, ?_, ?_, ?_, ?_, ?_, ?_, ?_, ?_, ?_⟩ <;> with_reducible assumption) | go_keep) (first | (go_at_call 12; with_reducible (refine (ON1.out _ ?_).mono ?_); (first | with_reducible exact kXa.out | with_reducible exact kXb.out); rintro e w5 ⟨p', b1, b2, b3, y1, e1, y2, e2, y3, e3, ms', d', rm', rfl, ⟨n0, n1, n2, n3, n4, n5, n6, n7, n8, n9, n10, n11, n12, n13, n14⟩, HO, hSA, hSB, HS5⟩) | (go_at_call 12; with_reducible (refine (ON2.out _ ?_).mono ?_); (first | with_reducible exact kXc.out | with_reducible exact kXd.out); rintro e w5 ⟨p', b1, b2, b3, y1, e1, y2, e2, y3, e3, ms', d', rm', rfl, ⟨n0, n1, n2, n3, n4, n5, n6, n7, n8, n9, n10, n11, n12, n13, n14⟩, ⟨z0, z1, z2, z3, z4, z5, g0, g1, g2, g3, g4, g5⟩, HO, hSA, hSB, HS5⟩))
          all_goals (go_wp2_with fail; go_meet; exact ⟨_, p', b1, b2, b3, y1, e1, y2, e2, y3, e3, ms', d', rm', rfl, rfl, rfl, by first | with_reducible exact hid HO.out.1 | with_reducible exact hid HO.out.1.drew, by first | with_reducible exact hid HO.out.2 | with_reducible exact hid (HO.out.2.keep (keep_drew (fun _ => False) _) (fun h => h)), HS5⟩)
        case rest =>
          obtain ⟨gY, p', b1, b2, b3, y1, e1, y2, e2, y3, e3, ms', d', rm', rfl, rfl, rfl, HO, HRM, HS5⟩ := hcut
          clear n0 n1 n2 n3 n4 n5 n6 n7 n8 n9 n10 n11 n12 n13 n14 ON1 ON2 kXa kXb kXc kXd SK HB HR HS HPV
          have SA : Hid (∀ W, Keep (fun _ => False) wc W → Calls Try.prog 13 #[.pointer (some ⟨p', 0, none⟩), .agg #[.slice b1 y1 e1, .slice b2 y2 e2, .int .i64 (d'.n : Int), .bool d'.dn, .slice b3 y3 e3, .int .i64 rm'], .string (tx a.name)] W fun e w8 => e = .returned (.bool true) ∧ (w8.cell? ⟨gY, 0, none⟩ = some (.slice b1 y1 e1) ∧ w8.cell? ⟨gY, 1, none⟩ = some (.slice b2 y2 e2) ∧ w8.cell? ⟨gY, 2, none⟩ = some (.int .i64 (d'.n : Int)) ∧ w8.cell? ⟨gY, 3, none⟩ = some (.bool d'.dn) ∧ w8.cell? ⟨gY, 4, none⟩ = some (.slice b3 y3 e3) ∧ w8.cell? ⟨gY, 5, none⟩ = some (.int .i64 rm') ∧ w8.cell? ⟨g, off + k * 9 + 1, none⟩ = some (.string (tx a.name))) ∧ Hid (Keep (fun _ => False) wc w8)) := fun W hW => (says_any (HO.out.both.go hW) HS5.out.pi (by omega) rm' a.name (by have := HA.out.len; omega)).mono fun e w8 ⟨he, hk8⟩ => by
            have r8 := HO.out.row.keep (hW.trans hk8) (fun h => h)
            have q1 := HAC.out w8 (HO.out.both.go (hW.trans hk8)).keep 1 (by omega)
            exact ⟨he, ⟨r8.cellAt rfl, r8.cellAt rfl, r8.cellAt rfl, r8.cellAt rfl, r8.cellAt rfl, r8.cellAt rfl, q1⟩, hW.trans hk8⟩
          have ro := HO.out.row
          have u0 := ro.cellAt (o := 0) rfl
          have u1 := ro.cellAt (o := 1) rfl
          have u2' := ro.cellAt (o := 2) rfl
          have u3 := ro.cellAt (o := 3) rfl
          have u4 := ro.cellAt (o := 4) rfl
          have u5 := ro.cellAt (o := 5) rfl
          have uq := HAC.out wc HO.out.both.keep 1 (by omega)
          simp only [acC, List.getElem?_cons_zero, List.getElem?_cons_succ] at uq
          have kYa : Hid (Keep (fun _ => False) wc wc) := Keep.refl _ _
          have kYb : Hid (Keep (fun _ => False) wc wc.drew) := keep_drew _ _
          clear ro HA HAC
          generalize tx a.name = NX at *
          go_wp2
          go_region_held3 (fun w' => w'.cell? ⟨gY, 0, none⟩ = some (.slice b1 y1 e1) ∧ w'.cell? ⟨gY, 1, none⟩ = some (.slice b2 y2 e2) ∧ w'.cell? ⟨gY, 2, none⟩ = some (.int .i64 (d'.n : Int)) ∧ w'.cell? ⟨gY, 3, none⟩ = some (.bool d'.dn) ∧ w'.cell? ⟨gY, 4, none⟩ = some (.slice b3 y3 e3) ∧ w'.cell? ⟨gY, 5, none⟩ = some (.int .i64 rm') ∧ w'.cell? ⟨g, off + k * 9 + 1, none⟩ = some (.string NX)) (first | with_reducible assumption | (refine ⟨?_, ?_, ?_, ?_, ?_, ?_, ?_⟩ <;> with_reducible assumption) | go_keep) (first | (go_at_call 13; with_reducible (refine (SA.out _ ?_).mono ?_); (first | with_reducible exact kYa.out | with_reducible exact kYb.out); rintro e w8 ⟨rfl, ⟨u0, u1, u2', u3, u4, u5, uq⟩, hk8⟩))
          all_goals
            have r8 := HRM.out.keep hk8.out (fun h => h)
            have h6 := six (v0 := .slice b1 y1 e1) (v1 := .slice b2 y2 e2) (v2 := .int .i64 (d'.n : Int)) (v3 := .bool d'.dn) (v4 := .slice b3 y3 e3) (v5 := .int .i64 rm') r8
            have HRN := hid h6.1
            have HBN := hid ((HO.out.both.go hk8.out).box r8 (Or.inr rfl) HGM.out h6.2)
            have m0 := r8.cellAt (o := 0) rfl
            have m1 := r8.cellAt (o := 1) rfl
            have m2 := r8.cellAt (o := 2) rfl
            have m3 := r8.cellAt (o := 3) rfl
            have m4 := r8.cellAt (o := 4) rfl
            have m5 := r8.cellAt (o := 5) rfl
            have f0 := r8.frozen (o := 0)
            have f1 := r8.frozen (o := 1)
            have f2 := r8.frozen (o := 2)
            have f3 := r8.frozen (o := 3)
            have f4 := r8.frozen (o := 4)
            have f5 := r8.frozen (o := 5)
            clear SA kYa kYb uq h6 r8 hk8 HO HRM
            go_wp2
            exact ⟨⟨k + 1, p', b1, b2, b3, y1, e1, y2, e2, y3, e3, ms', d', rm', by omega, by omega, by go_num, rfl, HRN, HBN, HS5⟩, by simp [intOf]; omega⟩
      · have hd2 : decide ((k : Int) < 60) = false := decide_eq_false (by omega)
        clear HV HOK HB HR HS
        go_wp2
        go_ret
        exact ⟨rfl, HBE.out⟩
    · have hd : decide ((k : Int) < (l.length : Int)) = false := decide_eq_false (by omega)
      clear HV HOK HB HR HS
      go_wp2
      go_ret
      exact ⟨rfl, HBE.out⟩
end Go.Proofs.Ytnlodlpjokkepab
namespace Go.Proofs.Ytnlodlpjokkepab
open Go.RowKit Go.Maps
set_option linter.unusedVariables false

theorem diskPlays_walk (v : Value) (l : List AC) (w : World) (hv : ActsIn w v l) (hlen : l.length ≤ 1048576) (N : Nat) (hN : N ≤ 1048576)
    (hb : ∀ a ∈ l, a.s.length + a.name.length + (AC.to a).length + 1 ≤ N ∧ (∃ ad n cp, a.pv = .slice ad n cp) ∧ (Lit.int .i64 a.kind).wf = true ∧ (Lit.int .i64 a.n).wf = true ∧ (Lit.int .i64 a.f0).wf = true ∧ (Lit.int .i64 a.f1).wf = true ∧ (Lit.int .i64 a.f2).wf = true ∧ ∃ l, bulks.PlanIn w a.pv l ∧ l.length ≤ N ∧ ∀ x ∈ l, (Lit.int .i64 x.at_).wf = true) :
    Calls Try.prog 3 #[v] w fun e w' => e = .returned (.bool true) ∧ Below w.heap.size w w' :=
  diskPlays_core v l w hv (fun a ha => by
    obtain ⟨h1, _, _, _, _, _, _, pl, h2, h3, h4⟩ := hb a ha
    refine ⟨by omega, ?_⟩
    rcases h2 with ⟨ad, cap, e, e2⟩ | ⟨g, off, cap, e, hg, hc⟩
    · subst e2
      exact ⟨[], ad, cap, e, .inl ⟨ad, cap, rfl, rfl⟩, by simp, fun x hx => by cases hx⟩
    · exact ⟨pl, some ⟨g, off, none⟩, cap, e, .inr ⟨g, off, cap, rfl, hg, hc⟩, by omega, h4⟩) hlen
end Go.Proofs.Ytnlodlpjokkepab
