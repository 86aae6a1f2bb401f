/- The law TokenNotes, walked. -/
import Derived.Test.YtojiahdbgdgdcaaJoined14
import Derived.Test.YtojiahdbgdgdcaaJoined12
import Derived.Test.YtojiahdbgdgdcaaTkZ
import Derived.Deep.RegionHeld3
namespace Go.Proofs.Ytojiahdbgdgdcaa
open Go.RowKit Go.Maps
set_option linter.unusedVariables false
set_option linter.unusedSimpArgs false

theorem GiveH.hd {w : World} {t : Nat} {l : List Hd} {x : Int} {e : Ending} {w' : World} (h : GiveH w t l x e w') : ∃ ad cap, e = .returned (.tuple #[.slice ad l.length cap, .int .i64 x]) ∧ Hid (HdI w' (.slice ad l.length cap) l) ∧ Below w.heap.size w w' := by
  obtain ⟨ad, cap, he, ho, hb⟩ := h
  exact ⟨ad, cap, he, ho.hd, hb⟩
theorem noteL_len (q : List Hd) (x : Hd) : (noteL q x).length ≤ q.length + 1 := by
  unfold noteL
  split
  · rw [insH_len]; omega
  · simp
theorem noteL_64 (q : List Hd) (x : Hd) : (noteL q x).length ≤ 65 := by
  unfold noteL
  split
  · rename_i h
    unfold noteE at h
    split at h
    · rename_i h2
      rw [insH_len]
      have := isTb_len h2.1
      omega
    · cases h
  · simp
theorem expL_64 (q : List Hd) (u : Int) : (expL q u).length ≤ 64 := by
  unfold expL
  split
  · rename_i h
    have := isTb_len h
    have := stayH_len u q
    omega
  · simp
set_option maxRecDepth 100000 in
set_option maxHeartbeats 2000000 in
theorem tokenNotes_walk (v : Value) (q : List Hd) (x : Hd) (u : Int) (w : World) (hv : HdI w v q) (hz : q.length * 56 ≤ 140737488355328) (hy : ∀ y ∈ q, ibulk.SzHb y) (hx : ibulk.SzHb x) (hu : (Lit.int IntKind.i64 u).wf = true) : Calls Try.prog 4 #[v, hdV x, .int .i64 u] w fun e w' => e = .returned (.bool true) ∧ Below w.heap.size w w' := by
  obtain ⟨ad, cap, rfl, hc⟩ := hv.form
  clear hc
  have hzl : q.length ≤ 8796093022208 := by omega
  have BM := hid (Bx.made (Below.refl w.heap.size w) [.string x.tk, .string x.su, .string x.ou, .int .i64 x.at_] 31)
  have HCE : Hid (∀ W, Bx w w.heap.size [.string x.tk, .string x.su, .string x.ou, .int .i64 x.at_] 31 W → W.cell? ⟨w.heap.size, 0, none⟩ = some (.string x.tk) ∧ W.cell? ⟨w.heap.size, 1, none⟩ = some (.string x.su) ∧ W.cell? ⟨w.heap.size, 2, none⟩ = some (.string x.ou) ∧ W.cell? ⟨w.heap.size, 3, none⟩ = some (.int .i64 x.at_)) := fun W hW => ⟨hW.row.cellAt rfl, hW.row.cellAt rfl, hW.row.cellAt rfl, hW.row.cellAt rfl⟩
  have N1 : Hid (∀ W, Below w.heap.size w W → Calls Try.prog 12 #[.slice ad q.length cap, hdV x] W fun e w' => ∃ ad cap, e = .returned (.tuple #[.slice ad (noteL q x).length cap, .int .i64 (noteE q x)]) ∧ Hid (HdI w' (.slice ad (noteL q x).length cap) (noteL q x)) ∧ Below W.heap.size W w') := fun W hW => (note15_any _ q x W (hv.next hW)).mono fun e w' h => h.hd
  have RF : Hid (∀ W, Below w.heap.size w W → Calls Try.prog 10 #[.slice ad q.length cap] W fun e w' => ∃ ad cap, e = .returned (.slice ad q.length cap) ∧ Hid (HdI w' (.slice ad q.length cap) q) ∧ Below W.heap.size W w') := fun W hW => (refs15_any _ q W (hv.next hW) hz).mono fun e w' ⟨ad, cap, he, ho, hb⟩ => ⟨ad, cap, he, ho.hd, hb⟩
  have N2 : Hid (∀ W u, HdI W u q → Calls Try.prog 13 #[u, hdV x] W fun e w' => ∃ ad cap, e = .returned (.tuple #[.slice ad (noteL q x).length cap, .int .i64 (noteE q x)]) ∧ Hid (HdI w' (.slice ad (noteL q x).length cap) (noteL q x)) ∧ Below W.heap.size W w') := fun W u hu => (rnote15_any u q x W hu hzl (fun y h => ⟨(hy y h).1, (hy y h).2.1⟩) hx.1 hx.2.1).mono fun e w' h => h.hd
  have E1 : Hid (∀ W, Below w.heap.size w W → Calls Try.prog 14 #[.slice ad q.length cap, .int .i64 u] W fun e w' => ∃ ad cap, e = .returned (.tuple #[.slice ad (expL q u).length cap, .int .i64 (expN q u)]) ∧ Hid (HdI w' (.slice ad (expL q u).length cap) (expL q u)) ∧ Below W.heap.size W w') := fun W hW => (expire15_any _ q u W (hv.next hW)).mono fun e w' h => h.hd
  have E2 : Hid (∀ W x, HdI W x q → Calls Try.prog 15 #[x, .int .i64 u] W fun e w' => ∃ ad cap, e = .returned (.tuple #[.slice ad (expL q u).length cap, .int .i64 (expN q u)]) ∧ Hid (HdI w' (.slice ad (expL q u).length cap) (expL q u)) ∧ Below W.heap.size W w') := fun W x hx => (rexpire15_any x q u W hx hzl (fun y h => ⟨(hy y h).1, (hy y h).2.1⟩)).mono fun e w' h => h.hd
  have R2 : Hid (∀ W ad cap, HdI W (.slice ad (noteL q x).length cap) (noteL q x) → Calls Try.prog 10 #[.slice ad (noteL q x).length cap] W fun e w' => ∃ ad cap, e = .returned (.slice ad (noteL q x).length cap) ∧ Hid (HdI w' (.slice ad (noteL q x).length cap) (noteL q x)) ∧ Below W.heap.size W w') := fun W ad cap h => (refs15_any _ _ W h (by have := noteL_64 q x; omega)).mono fun e w' ⟨ad, cap, he, ho, hb⟩ => ⟨ad, cap, he, ho.hd, hb⟩
  have R3 : Hid (∀ W ad cap, HdI W (.slice ad (expL q u).length cap) (expL q u) → Calls Try.prog 10 #[.slice ad (expL q u).length cap] W fun e w' => ∃ ad cap, e = .returned (.slice ad (expL q u).length cap) ∧ Hid (HdI w' (.slice ad (expL q u).length cap) (expL q u)) ∧ Below W.heap.size W w') := fun W ad cap h => (refs15_any _ _ W h (by have := expL_64 q u; omega)).mono fun e w' ⟨ad, cap, he, ho, hb⟩ => ⟨ad, cap, he, ho.hd, hb⟩
  have S2 : Hid (∀ W a b, HdI W a (noteL q x) → HdI W b (noteL q x) → Calls Try.prog 16 #[a, b] W fun e w' => e = .returned (.bool true) ∧ Below W.heap.size W w') := fun W a b ha hb => same15_true a b _ W ha hb (by have := noteL_64 q x; omega)
  have S3 : Hid (∀ W a b, HdI W a (expL q u) → HdI W b (expL q u) → Calls Try.prog 16 #[a, b] W fun e w' => e = .returned (.bool true) ∧ Below W.heap.size W w') := fun W a b ha hb => same15_true a b _ W ha hb (by have := expL_64 q u; omega)
  have AW := hid (fun W => awake15 W)
  clear hv hz hy hx hu hzl
  unfold hdV at *
  generalize noteL q x = NL at *
  generalize noteE q x = NE at *
  generalize expL q u = EL at *
  generalize expN q u = EN at *
  have g1 : (NE == NE) = true := by simp
  have g2 : (EN == EN) = true := by simp
  obtain ⟨tk, su, ou, at_⟩ := x
  simp only at *
  generalize hq : q.length = n at *
  generalize hnl : NL.length = nl at *
  generalize hel : EL.length = el at *
  clear hq hnl hel
  obtain ⟨y0, y1, y2, y3⟩ := HCE.out _ BM.out
  go_enter Try.func4, Try.ntmps4
  go_wp2_with fail
  refine (N1.out _ BM.out.b).mono ?_
  rintro e w1 ⟨ad1, cap1, rfl, I1, b1⟩
  have B1 := hid (BM.out.next b1)
  clear b1 BM N1 y0 y1 y2 y3
  obtain ⟨y0, y1, y2, y3⟩ := HCE.out _ B1.out
  go_wp2
  refine wp_region_held_drew (S := (fun w' => w'.cell? ⟨w.heap.size, 0, none⟩ = some (.string tk) ∧ w'.cell? ⟨w.heap.size, 1, none⟩ = some (.string su) ∧ w'.cell? ⟨w.heap.size, 2, none⟩ = some (.string ou) ∧ w'.cell? ⟨w.heap.size, 3, none⟩ = some (.int .i64 at_))) (by kernel_rfl) ⟨y0, y1, y2, y3⟩ (fun hHeld => ?_)
  refine wpAnyH_take (i := 0) (v := ?vv1) rfl (by kernel_rfl) (by kernel_rfl) (by kernel_rfl) (fun _ _ _ h => h) (Or.inl ⟨by rfl, ?hy1⟩) (by assumption) ?rest1
  case hy1 => (intro w hSw; (try dsimp only at hSw); go_simp; first | done | with_reducible rfl)
  try simp only [Act.put, List.getElem_toArray, List.getElem_cons_succ, List.getElem_cons_zero, List.setIfInBounds_toArray, List.set_cons_zero, List.set_cons_succ]
  refine wpAnyH_take (i := 2) (v := ?vv2) rfl (by kernel_rfl) (by kernel_rfl) (by kernel_rfl) (fun _ _ _ h => h) (Or.inl ⟨by rfl, ?hy2⟩) (by assumption) ?rest2
  case hy2 => (intro w hSw; (try dsimp only at hSw); go_simp; first | done | with_reducible rfl)
  try simp only [Act.put, List.getElem_toArray, List.getElem_cons_succ, List.getElem_cons_zero, List.setIfInBounds_toArray, List.set_cons_zero, List.set_cons_succ]
  refine wpAnyH_ready (rs := [1]) (by kernel_rfl) (by simp) ?_
  refine AllReadyH.cons rfl (fun K hK => ?_) AllReadyH.nil
  go_simp
  refine (RF.out _ B1.out.b.drew).mono ?_
  rintro e w2 ⟨ad2, cap2, rfl, I2, b2⟩
  have B2 := hid (B1.out.drew.next b2)
  have ZC2 := HCE.out _ B2.out
  go_wp2_with fail
  refine hK.out _ _ ZC2 (fun hHeld => ?_)
  clear hK K
  try simp only [Act.put, List.getElem_toArray, List.getElem_cons_succ, List.getElem_cons_zero, List.setIfInBounds_toArray, List.set_cons_zero, List.set_cons_succ]
  refine wpAnyH_ready (rs := [3]) (by kernel_rfl) (by simp) ?_
  refine AllReadyH.cons rfl (fun K hK => ?_) AllReadyH.nil
  go_simp
  refine (N2.out _ _ I2.out).mono ?_
  rintro e w3 ⟨ad3, cap3, rfl, o3, b3⟩
  have B3 := hid (B2.out.next b3)
  have ZC3 := HCE.out _ B3.out
  go_wp2_with fail
  refine hK.out _ _ ZC3 (fun hHeld => ?_)
  clear hK K
  try simp only [Act.put, List.getElem_toArray, List.getElem_cons_succ, List.getElem_cons_zero, List.setIfInBounds_toArray, List.set_cons_zero, List.set_cons_succ]
  refine wpAnyH_take (i := 4) (v := ?vv3) rfl (by kernel_rfl) (by kernel_rfl) (by kernel_rfl) (fun _ _ _ h => h) (Or.inl ⟨by rfl, ?hy3⟩) (by assumption) ?rest3
  case hy3 => (intro w hSw; (try dsimp only at hSw); go_simp; first | done | with_reducible rfl)
  try simp only [Act.put, List.getElem_toArray, List.getElem_cons_succ, List.getElem_cons_zero, List.setIfInBounds_toArray, List.set_cons_zero, List.set_cons_succ]
  refine wpAnyH_take (i := 5) (v := ?vv4) rfl (by kernel_rfl) (by kernel_rfl) (by kernel_rfl) (fun _ _ _ h => h) (Or.inl ⟨by rfl, ?hy4⟩) (by assumption) ?rest4
  case hy4 => (intro w hSw; (try dsimp only at hSw); go_simp; first | done | with_reducible rfl)
  try simp only [Act.put, List.getElem_toArray, List.getElem_cons_succ, List.getElem_cons_zero, List.setIfInBounds_toArray, List.set_cons_zero, List.set_cons_succ]
  refine wpAnyH_take (i := 6) (v := ?vv5) rfl (by kernel_rfl) (by kernel_rfl) (by kernel_rfl) (fun _ _ _ h => h) (Or.inl ⟨by rfl, ?hy5⟩) (by assumption) ?rest5
  case hy5 => (intro w hSw; (try dsimp only at hSw); go_simp; first | done | with_reducible rfl)
  try simp only [Act.put, List.getElem_toArray, List.getElem_cons_succ, List.getElem_cons_zero, List.setIfInBounds_toArray, List.set_cons_zero, List.set_cons_succ]
  refine wpAnyH_take (i := 7) (v := ?vv6) rfl (by kernel_rfl) (by kernel_rfl) (by kernel_rfl) (fun _ _ _ h => h) (Or.inl ⟨by rfl, ?hy6⟩) (by assumption) ?rest6
  case hy6 => (intro w hSw; (try dsimp only at hSw); go_simp; first | done | with_reducible rfl)
  try simp only [Act.put, List.getElem_toArray, List.getElem_cons_succ, List.getElem_cons_zero, List.setIfInBounds_toArray, List.set_cons_zero, List.set_cons_succ]
  refine wpAnyH_take (i := 8) (v := ?vv7) rfl (by kernel_rfl) (by kernel_rfl) (by kernel_rfl) (fun _ _ _ h => h) (Or.inl ⟨by rfl, ?hy7⟩) (by assumption) ?rest7
  case hy7 => (intro w hSw; (try dsimp only at hSw); go_simp; first | done | with_reducible rfl)
  try simp only [Act.put, List.getElem_toArray, List.getElem_cons_succ, List.getElem_cons_zero, List.setIfInBounds_toArray, List.set_cons_zero, List.set_cons_succ]
  refine wpAnyH_done (by kernel_rfl) ?_ _
  have I1c := hid (I1.out.next ((Below.refl _ _).drew))
  have I1b := hid (I1c.out.next b2)
  have I1a := hid (I1b.out.next b3)
  have B4 := hid B3.out.b
  clear hHeld ZC2 ZC3 I1 I1c I1b b2 b3 B1 B2 B3 HCE y0 y1 y2 y3 I2 N2
  go_wp2_with fail
  refine (E1.out _ B4.out).mono ?_
  rintro e w4 ⟨ad4, cap4, rfl, I4, b4⟩
  have B5 := hid (below_on B4.out b4)
  have J1 := hid (I1a.out.next b4)
  have J3 := hid (o3.out.next b4)
  clear b4 B4 E1 I1a o3
  go_wp2_with fail
  refine (RF.out _ B5.out).mono ?_
  rintro e w5 ⟨ad5, cap5, rfl, I5, b5⟩
  have B6 := hid (below_on B5.out b5)
  have K1 := hid (J1.out.next b5)
  have K3 := hid (J3.out.next b5)
  have K4 := hid (I4.out.next b5)
  clear b5 B5 RF J1 J3 I4
  go_wp2_with fail
  refine (E2.out _ _ I5.out).mono ?_
  rintro e w6 ⟨ad6, cap6, rfl, I6, b6⟩
  have B7 := hid (below_on B6.out b6)
  have L1 := hid (K1.out.next b6)
  have L3 := hid (K3.out.next b6)
  have L4 := hid (K4.out.next b6)
  clear b6 B6 E2 K1 K3 K4 I5
  go_wp2_with fail
  refine (AW.out _).mono ?_
  rintro e w7 ⟨rfl, b7⟩
  have B8 := hid (below_on B7.out b7)
  have M1 := hid (L1.out.next b7)
  have M3 := hid (L3.out.next b7)
  have M4 := hid (L4.out.next b7)
  have M6 := hid (I6.out.next b7)
  clear b7 B7 AW L1 L3 L4 I6
  go_wp2_with fail
  refine (R2.out _ _ _ M1.out).mono ?_
  rintro e w8 ⟨ad8, cap8, rfl, I8, b8⟩
  have B9 := hid (below_on B8.out b8)
  have O3 := hid (M3.out.next b8)
  have O4 := hid (M4.out.next b8)
  have O6 := hid (M6.out.next b8)
  clear b8 B8 R2 M1 M3 M4 M6
  go_wp2_with fail
  refine (S2.out _ _ _ I8.out O3.out).mono ?_
  rintro e w9 ⟨rfl, b9⟩
  have B10 := hid (below_on B9.out b9)
  have P4 := hid (O4.out.next b9)
  have P6 := hid (O6.out.next b9)
  clear b9 B9 S2 I8 O3 O4 O6
  go_wp2_with fail
  refine (R3.out _ _ _ P4.out).mono ?_
  rintro e w10 ⟨ad10, cap10, rfl, I10, b10⟩
  have B11 := hid (below_on B10.out b10)
  have Q6 := hid (P6.out.next b10)
  clear b10 B10 R3 P4 P6
  go_wp2_with fail
  refine (S3.out _ _ _ I10.out Q6.out).mono ?_
  rintro e w11 ⟨rfl, b11⟩
  have B12 := hid (below_on B11.out b11)
  clear b11 B11 S3 I10 Q6
  go_wp2
  go_ret
  exact ⟨rfl, B12.out⟩
end Go.Proofs.Ytojiahdbgdgdcaa
