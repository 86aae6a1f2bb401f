/- All pieces' ids: both sides. -/
import Derived.Test.YtbiapepalkdkdaaCvQ
import Derived.Test.YtbiapepalkdkdaaStrsM
namespace Go.Proofs.Ytbiapepalkdkdaa
open Go.RowKit Go.Maps
set_option linter.unusedVariables false
set_option linter.unusedSimpArgs false

theorem elSt : ElT 58 9 1 16 := ⟨Try.underlying58, ⟨.string ⟨#[]⟩, by kernel_rfl, rfl⟩, by decide⟩
def pcI (l : List Pc) : List ByteArray := l.map (·.id)
def idsV (l : List Vn) : List ByteArray := l.flatMap fun v => pcI v.ps
def chI (l : List Vn) : List ByteArray := if isCh l = true then idsV l else []
theorem ss_one (l : List ByteArray) : ∀ u ∈ ss l, u.oneCell' = true := by
  intro u hu
  obtain ⟨x, _, rfl⟩ := List.mem_map.1 hu
  rfl
theorem own_strs {w : World} {B : Nat} {v : Value} {l : List ByteArray} (h : w.ownsRow B 9 1 v l.length (ss l)) : Strs w v l := by
  rcases gsrc_all h with ⟨c, e, h0, h1⟩ | ⟨g, off, c, e, hg, hc⟩
  · exact .inl ⟨List.length_eq_zero_iff.1 h0, none, c, e⟩
  · refine .inr ⟨g, off, c, e, hg, fun j hj => hc j _ ?_⟩
    simp [ss, hj, List.getD_eq_getElem?_getD]
theorem strs_row {w : World} {v : Value} {l : List ByteArray} (h : w.ownsRow 0 9 1 v l.length (ss l)) : RowC w v l.length (ss l) := RowC.own h
theorem pcI_take (l : List Pc) (k : Nat) (hk : k < l.length) : pcI (l.take (k + 1)) = pcI (l.take k) ++ [l[k].id] := by
  unfold pcI; rw [List.take_succ_eq_append_getElem hk, List.map_append]; rfl
theorem idsV_take (q : List (Value × Vn)) (k : Nat) (hk : k < q.length) : idsV (vqL (q.take (k + 1))) = idsV (vqL (q.take k)) ++ pcI q[k].2.ps := by
  unfold idsV vqL; rw [List.take_succ_eq_append_getElem hk, List.map_append, List.flatMap_append]; simp
theorem ss_app (a b : List ByteArray) : ss (a ++ b) = ss a ++ ss b := List.map_append
set_option maxRecDepth 100000 in
set_option maxHeartbeats 2000000 in
theorem pids_any (v : Value) (l : List Pc) (w : World) (hv : PcI w v l) (hl : l.length ≤ 1048576) (hb : ∀ x ∈ l, x.id.size ≤ 1048576) :
    Calls Try.prog 44 #[v] w fun e w' => ∃ ad cap, e = .returned (.slice ad l.length cap) ∧ w'.ownsRow w.heap.size 9 1 (.slice ad l.length cap) l.length (ss (pcI l)) ∧ Below w.heap.size w w' := by
  obtain ⟨ad, cap, rfl, hc⟩ := hv.form
  have HC := hid hc
  have HCL : Hid (∀ (k : Nat) (hk : k < l.length) (W : World), Calls Try.prog 62 #[.string l[k].id] W fun e w' => e = .returned (.string l[k].id) ∧ Below W.heap.size W w') := fun k hk W => clone_any _ W (by have := hb _ (List.getElem_mem hk); omega)
  have HT : Hid (∀ (k : Nat) (hk : k < l.length), ss (pcI (l.take (k + 1))) = ss (pcI (l.take k)) ++ [.string l[k].id]) := fun k hk => by rw [pcI_take l k hk, ss_app]; rfl
  have HZ : Hid (l.take l.length = l) := List.take_length
  have HR0 : Hid (w.ownsRow w.heap.size 9 1 (.slice none 0 0) 0 (ss (pcI (l.take 0)))) := ⟨rfl, .inl ⟨rfl, rfl⟩⟩
  clear hv hb hc
  go_enter Try.func44, Try.ntmps44
  go_wp2
  go_loopw [3, 8] (fun o i wr => ∃ (k : Nat) (ad0 : Option Addr) (cp0 : Nat), k ≤ l.length ∧ i = .int .i64 k ∧ o = .slice ad0 k cp0 ∧ Hid (wr.ownsRow w.heap.size 9 1 (.slice ad0 k cp0) k (ss (pcI (l.take k)))) ∧ Hid (Below w.heap.size w wr)) (fun _ i _ => l.length - (intOf i).toNat)
  case atStart => exact ⟨0, none, 0, by omega, rfl, rfl, HR0, Below.refl _ _⟩
  case round =>
    clear HR0
    obtain ⟨k, ad0, cp0, hk, rfl, rfl, HR, HB⟩ := hrel
    by_cases hlt : k < l.length
    · have hk0 : (0 : Int) ≤ (k : Int) := by omega
      have hk1 : (k : Int) < (l.length : Int) := by omega
      obtain ⟨b, off, rfl, hb, c0, c1⟩ := HC.out k hlt
      have d0 := (HB.out.cell (p := ⟨b, off + k * 2, none⟩) hb).trans c0
      have d1 := (HB.out.cell (p := ⟨b, off + k * 2 + 1, none⟩) hb).trans c1
      have CL := hid (HCL.out k hlt)
      have HPL := hid (HT.out k hlt)
      clear HC HCL HT HZ c0 c1 hb
      generalize l[k] = y at *
      obtain ⟨NN, F⟩ := y
      simp only at *
      have BX := hid (Bx.made HB.out [.string NN, .int .i64 F] 72)
      have y0 := BX.out.row.cellAt (o := 0) rfl
      have RX := hid (((keep_alloc (fun _ => False) wr (.cells #[.string NN, .int .i64 F] 72)).ownsRow HR.out (fun _ _ h => h)))
      go_wp2_with fail
      refine (CL.out _).mono ?_
      rintro e w1 ⟨rfl, b1⟩
      have B1 := hid (BX.out.next b1)
      have R1 := hid ((b1.keep (fun _ => False)).ownsRow RX.out (fun _ _ h => h))
      clear b1 CL BX RX y0 HR HB d0 d1
      have HGA := hid ((keep_alloc (fun _ => False) w1 (.cells #[.string NN] 9)).ownsRow R1.out (fun _ _ h => h))
      have HGX : Hid (GSrc (w1.alloc (.cells #[.string NN] 9)) (.slice (some ⟨w1.heap.size, 0, none⟩) 1 1) 1 [.string NN]) := gsrc_block (heap_alloc_new _ _)
      have HSZ : Hid (w.heap.size ≤ (w1.alloc (.cells #[.string NN] 9)).heap.size) := Nat.le_trans B1.out.b.size (keep_alloc (fun _ => False) _ _).size
      have HO1 : Hid (∀ u ∈ [Value.string NN], u.oneCell' = true) := fun u hu => by simp at hu; subst hu; rfl
      have HB1 : Hid (k + 1 ≤ 4611686018427387904) := by show _ ≤ _; omega
      have HB2 : Hid ((k + 1) * 16 ≤ 140737488355328) := by show _ ≤ _; omega
      have FIN : Hid (∀ ad' cap' w', w'.ownsRow w.heap.size 9 1 (.slice ad' (k + 1) cap') (k + 1) (ss (pcI (l.take k)) ++ [.string NN]) → Keep (fun j => (Value.slice ad0 k cp0).ownBlock = some j) (w1.alloc (.cells #[.string NN] 9)) w' → Hid (w'.ownsRow w.heap.size 9 1 (.slice ad' (k + 1) cap') (k + 1) (ss (pcI (l.take (k + 1))))) ∧ Hid (Below w.heap.size w w')) := fun ad' cap' w' hr hk' => by
        refine ⟨?_, (below_al B1.out.b _).trans (keep_below hk' (fun j hj e => by have := ownsRow_ge HGA.out e; omega) HSZ.out)⟩
        show World.ownsRow _ _ _ _ _ _ _
        rw [HPL.out]; exact hr
      have HX2 : Hid ([Value.string NN].length = 1 * 1) := rfl
      generalize ss (pcI (l.take k)) = YS at *
      clear HPL R1 B1
      go_wp2_with (at_builtin; refine wpl_gappL rfl _ _ elSt rfl w.heap.size (.slice ad0 k cp0) (.slice (some ⟨w1.heap.size, 0, none⟩) 1 1) YS [.string NN] k 1 (k + 1) rfl rfl rfl HGA.out HSZ.out HGX.out HX2.out HO1.out HB1.out HB2.out ?_; intro ad' cap' w' hr' hk')
      obtain ⟨F1, F2⟩ := FIN.out _ _ _ hr' hk'
      clear hr' hk' FIN HGA HGX HSZ
      go_wp2
      exact ⟨⟨k + 1, _, _, by omega, by go_num, rfl, F1, F2⟩, by simp [intOf]; omega⟩
    · have hd : decide ((k : Int) < (l.length : Int)) = false := decide_eq_false (by omega)
      have hke : k = l.length := by omega
      have HF : Hid (wr.ownsRow w.heap.size 9 1 (.slice ad0 k cp0) l.length (ss (pcI l))) := by
        have := HR.out
        rw [hke, HZ.out] at this
        rw [hke]
        exact this
      have HKE := hid hke
      clear HC HCL HT HZ HR hke
      go_wp2
      go_ret
      refine ⟨ad0, cp0, ?_, ?_, HB.out⟩
      · rw [HKE.out]; rfl
      · have := HF.out; rw [HKE.out] at this; exact this
end Go.Proofs.Ytbiapepalkdkdaa
