/- The walk of the law WiresFull. -/
import Derived.Test.YtfcchmjofejkhaaNetA
namespace Go.Proofs.Ytfcchmjofejkhaa
open Go.RowKit Go.Maps
set_option linter.unusedVariables false
set_option linter.unusedSimpArgs false

theorem mod7 (x : Int) (m : Int) (hm : 0 < m) : -m < x.tmod m ∧ x.tmod m < m := by
  constructor
  · have := Int.lt_tmod_of_pos x hm; exact this
  · exact Int.tmod_lt_of_pos x hm
theorem up7 (x : Int) (m : Int) (hm : 0 < m) : 0 ≤ (x.tmod m + m).tmod m ∧ (x.tmod m + m).tmod m < m := by
  have h := mod7 x m hm
  exact ⟨Int.tmod_nonneg _ (by omega), Int.tmod_lt_of_pos _ hm⟩
theorem cut0 (a b : Int) : cutAt (List.replicate 49 false) a b = false := by
  unfold cutAt
  rw [List.getD_eq_getElem?_getD, List.getElem?_replicate]
  split <;> rfl
def netF (x : Pk) (k : Nat) : Net := ⟨List.replicate k x, List.replicate 49 false, k, 0, 0⟩
theorem netF_len (x : Pk) (k : Nat) : (netF x k).L.length = k := List.length_replicate
theorem netF_send (x : Pk) (k : Nat) (ht : two x.fr x.tt = true) (hk : k < 4096) : sendD (netF x k) x = (netF x (k + 1), true) := by
  unfold sendD
  rw [if_pos ⟨ht, cut0 _ _, by rw [netF_len]; exact hk⟩]
  show (Net.mk (List.replicate k x ++ [x]) _ _ _ _, true) = (Net.mk (List.replicate (k + 1) x) _ _ _ _, true)
  rw [List.replicate_succ']
  rfl
/-- full -/
def netG (x : Pk) (M : Nat) : Net := ⟨List.replicate M x, List.replicate 49 false, M + 1, 0, 1⟩
theorem netG_len (x : Pk) (M : Nat) : (netG x M).L.length = M := List.length_replicate
theorem netF_full (x : Pk) (M : Nat) (hM : M = 4096) : sendD (netF x M) x = (netG x M, false) := by
  unfold sendD
  rw [if_neg (by rw [netF_len]; omega)]
  rfl
def netH (x : Pk) (M : Nat) : Net := ⟨outL (List.replicate M x) 7, List.replicate 49 false, M + 1, 1, 1⟩
def netI (x y : Pk) (M : Nat) : Net := ⟨outL (List.replicate M x) 7 ++ [y], List.replicate 49 false, M + 2, 1, 1⟩
def netJ (x y : Pk) (M : Nat) : Net := ⟨outL (List.replicate M x) 7 ++ [y], List.replicate 49 false, M + 3, 1, 2⟩
theorem netH_len (x : Pk) (M : Nat) (hM : M = 4096) : (netH x M).L.length = M - 1 := by
  show (outL (List.replicate M x) 7).length = _
  rw [outL_len (by rw [List.length_replicate]; omega), List.length_replicate]
theorem netI_len (x y : Pk) (M : Nat) (hM : M = 4096) : (netI x y M).L.length = M := by
  show (outL (List.replicate M x) 7 ++ [y]).length = M
  rw [List.length_append, show (outL (List.replicate M x) 7).length = M - 1 from netH_len x M hM]
  show M - 1 + 1 = M
  omega
theorem netH_send (x y : Pk) (M : Nat) (hM : M = 4096) (ht : two y.fr y.tt = true) : sendD (netH x M) y = (netI x y M, true) := by
  unfold sendD
  rw [if_pos ⟨ht, cut0 _ _, by rw [netH_len x M hM]; omega⟩]
  rfl
theorem netI_full (x y : Pk) (M : Nat) (hM : M = 4096) : sendD (netI x y M) x = (netJ x y M, false) := by
  unfold sendD
  rw [if_neg (by rw [netI_len x y M hM]; omega)]
  rfl
set_option maxRecDepth 100000 in
set_option maxHeartbeats 300000 in
theorem wiresFull_walk (fr to_ : Int) (w : World) (hfr : (Lit.int .i64 fr).wf = true) (hto : (Lit.int .i64 to_).wf = true) : Calls Try.prog 4 #[.int .i64 fr, .int .i64 to_] w fun e w' => e = .returned (.bool true) ∧ Below w.heap.size w w' := by
  have b1 := mod7 fr 7 (by omega)
  have b2 := mod7 to_ 6 (by omega)
  have u1 := up7 fr 7 (by omega)
  have u2 := up7 to_ 6 (by omega)
  have hw1 : wrap64 (fr.tmod 7 + 7) = fr.tmod 7 + 7 := IntWalk.wrap64_in _ (by omega)
  have hw2 : wrap64 (to_.tmod 6 + 6) = to_.tmod 6 + 6 := IntWalk.wrap64_in _ (by omega)
  generalize ha : (fr.tmod 7 + 7).tmod 7 = a at *
  generalize hc : (to_.tmod 6 + 6).tmod 6 = c at *
  have hw3 : wrap64 (a + 1) = a + 1 := IntWalk.wrap64_in _ (by omega)
  have hw4 : wrap64 (a + 1 + c) = a + 1 + c := IntWalk.wrap64_in _ (by omega)
  obtain ⟨b, hb⟩ : ∃ b, b = (a + 1 + c).tmod 7 := ⟨_, rfl⟩
  have hbe : (a + 1 + c).tmod 7 = b := hb.symm
  have hbb : 0 ≤ b ∧ b < 7 ∧ b ≠ a := by rw [Int.tmod_eq_emod_of_nonneg (by omega)] at hb; omega
  have TW : Hid (two a b = true ∧ two b a = true) := by
    constructor <;> simp [two, isN] <;> omega
  have NW := hid (newA w)
  have AW := hid (fun W => awake8 W)
  obtain ⟨M, hM⟩ : ∃ M : Nat, M = 4096 := ⟨_, rfl⟩
  have z0 : ∀ x : Pk, x.s = ⟨#[]⟩ → x.s.size ≤ 140737488355328 := fun x e => by rw [e]; decide
  have SD : Hid (∀ k : Nat, k < 4096 → ∀ W : World, NSt w (fun _ => False) w.heap.size (netF ⟨a, b, ⟨#[]⟩⟩ k) W → Calls Try.prog 13 #[.pointer (some ⟨w.heap.size, 0, none⟩), .agg #[.int .i64 a, .int .i64 b, .string ⟨#[]⟩]] W fun e w' => e = .returned (.bool true) ∧ NSt w (fun _ => False) w.heap.size (netF ⟨a, b, ⟨#[]⟩⟩ (k + 1)) w' ∧ Keep (fun j => ¬ False) W w') := fun k hk W h => stepA h fun P1 h1 => by
    have := send_any w.heap.size P1 (netF ⟨a, b, ⟨#[]⟩⟩ k) ⟨a, b, ⟨#[]⟩⟩ W h1 (z0 _ rfl) (by show k ≤ _; omega) (by show 0 ≤ _; omega)
    rw [netF_send _ k TW.out.1 hk] at this
    exact this
  have SF : Hid (∀ W : World, NSt w (fun _ => False) w.heap.size (netF ⟨a, b, ⟨#[]⟩⟩ M) W → Calls Try.prog 13 #[.pointer (some ⟨w.heap.size, 0, none⟩), .agg #[.int .i64 a, .int .i64 b, .string ⟨#[]⟩]] W fun e w' => e = .returned (.bool false) ∧ NSt w (fun _ => False) w.heap.size (netG ⟨a, b, ⟨#[]⟩⟩ M) w' ∧ Keep (fun j => ¬ False) W w') := fun W h => stepA h fun P1 h1 => by
    have := send_any w.heap.size P1 (netF ⟨a, b, ⟨#[]⟩⟩ M) ⟨a, b, ⟨#[]⟩⟩ W h1 (z0 _ rfl) (by show M ≤ _; omega) (by show 0 ≤ _; omega)
    rw [netF_full _ M hM] at this
    exact this
  have DF : Hid (∀ W : World, NSt w (fun _ => False) w.heap.size (netG ⟨a, b, ⟨#[]⟩⟩ M) W → Calls Try.prog 14 #[.pointer (some ⟨w.heap.size, 0, none⟩), .int .i64 0] W fun e w' => e = .returned (.bool false) ∧ NSt w (fun _ => False) w.heap.size (netG ⟨a, b, ⟨#[]⟩⟩ M) w' ∧ Keep (fun j => ¬ False) W w') := fun W h => stepK h fun P1 h1 => (double_full w.heap.size P1 _ 0 W h1 (by rw [netG_len]; omega)).mono fun e w' ⟨he, hw⟩ => ⟨he, hw ▸ Keep.refl _ _⟩
  have LF : Hid (∀ W : World, NSt w (fun _ => False) w.heap.size (netG ⟨a, b, ⟨#[]⟩⟩ M) W → Calls Try.prog 15 #[.pointer (some ⟨w.heap.size, 0, none⟩)] W fun e w' => e = .returned (.int .i64 4096) ∧ NSt w (fun _ => False) w.heap.size (netG ⟨a, b, ⟨#[]⟩⟩ M) w' ∧ Keep (fun j => ¬ False) W w') := fun W h => stepK h fun P1 h1 => (nlen_any w.heap.size P1 _ W h1).mono fun e w' ⟨he, hw⟩ => ⟨by rw [he, netG_len, hM]; rfl, hw ▸ Keep.refl _ _⟩
  have TK : Hid (∀ W : World, NSt w (fun _ => False) w.heap.size (netG ⟨a, b, ⟨#[]⟩⟩ M) W → Calls Try.prog 16 #[.pointer (some ⟨w.heap.size, 0, none⟩), .int .i64 7] W fun e w' => e = .returned (.tuple #[.agg #[.int .i64 a, .int .i64 b, .string ⟨#[]⟩], .bool true]) ∧ NSt w (fun _ => False) w.heap.size (netH ⟨a, b, ⟨#[]⟩⟩ M) w' ∧ Keep (fun j => ¬ False) W w') := fun W h => stepA h fun P1 h1 => by
    have hl7 : 7 < (netG ⟨a, b, ⟨#[]⟩⟩ M).L.length := by rw [netG_len]; omega
    have := take_some w.heap.size P1 (netG ⟨a, b, ⟨#[]⟩⟩ M) 7 hl7 (by show 0 ≤ _; omega) W h1
    rw [show (netG ⟨a, b, ⟨#[]⟩⟩ M).L[7]'hl7 = ⟨a, b, ⟨#[]⟩⟩ from List.getElem_replicate _] at this
    exact this
  have SB : Hid (∀ W : World, NSt w (fun _ => False) w.heap.size (netH ⟨a, b, ⟨#[]⟩⟩ M) W → Calls Try.prog 13 #[.pointer (some ⟨w.heap.size, 0, none⟩), .agg #[.int .i64 b, .int .i64 a, .string ⟨#[]⟩]] W fun e w' => e = .returned (.bool true) ∧ NSt w (fun _ => False) w.heap.size (netI ⟨a, b, ⟨#[]⟩⟩ ⟨b, a, ⟨#[]⟩⟩ M) w' ∧ Keep (fun j => ¬ False) W w') := fun W h => stepA h fun P1 h1 => by
    have := send_any w.heap.size P1 (netH ⟨a, b, ⟨#[]⟩⟩ M) ⟨b, a, ⟨#[]⟩⟩ W h1 (z0 _ rfl) (by show M + 1 ≤ _; omega) (by show 1 ≤ _; omega)
    rw [netH_send _ _ M hM TW.out.2] at this
    exact this
  have SE : Hid (∀ W : World, NSt w (fun _ => False) w.heap.size (netI ⟨a, b, ⟨#[]⟩⟩ ⟨b, a, ⟨#[]⟩⟩ M) W → Calls Try.prog 13 #[.pointer (some ⟨w.heap.size, 0, none⟩), .agg #[.int .i64 a, .int .i64 b, .string ⟨#[]⟩]] W fun e w' => e = .returned (.bool false) ∧ NSt w (fun _ => False) w.heap.size (netJ ⟨a, b, ⟨#[]⟩⟩ ⟨b, a, ⟨#[]⟩⟩ M) w' ∧ Keep (fun j => ¬ False) W w') := fun W h => stepA h fun P1 h1 => by
    have := send_any w.heap.size P1 (netI ⟨a, b, ⟨#[]⟩⟩ ⟨b, a, ⟨#[]⟩⟩ M) ⟨a, b, ⟨#[]⟩⟩ W h1 (z0 _ rfl) (by show M + 2 ≤ _; omega) (by show 1 ≤ _; omega)
    rw [netI_full _ _ M hM] at this
    exact this
  have HM := hid hM
  clear z0 TW hb hM
  go_enter Try.func4, Try.ntmps4
  go_wp2_with fail
  refine NW.out.mono ?_
  rintro e w1 ⟨rfl, h1⟩
  have H1 := hid h1
  clear h1 NW
  go_wp2_with fail
  refine (AW.out _).mono ?_
  rintro e w2 ⟨rfl, k2⟩
  have H2 : Hid (NSt w (fun _ => False) w.heap.size (netF ⟨a, b, ⟨#[]⟩⟩ 0) w2) := H1.out.keep k2
  clear k2 H1 AW
  go_wp2
  go_loopw [8] (fun i wr => ∃ k : Nat, k ≤ M ∧ i = .int .i64 (k : Int) ∧ Hid (NSt w (fun _ => False) w.heap.size (netF ⟨a, b, ⟨#[]⟩⟩ k) wr)) (fun i _ => M - (intOf i).toNat)
  case atStart => exact ⟨0, Nat.zero_le _, rfl, H2⟩
  case round =>
    clear H2
    obtain ⟨k, hk, rfl, HK⟩ := hrel
    clear hw1 hw2 hw3 hw4 hbe b1 b2 u1 u2 hbb ha hc hfr hto
    have hM := HM.out
    by_cases hlt : k < M
    · have hd1 : (k : Int) < 4096 := by omega
      have HLT := hid hlt
      have hwk : wrap64 ((k : Int) + 1) = (k : Int) + 1 := IntWalk.wrap64_in _ (by omega)
      have hk4 : k < 4096 := Nat.lt_of_lt_of_eq hlt hM
      have S1 := hid (SD.out k hk4 wr HK.out)
      clear hM hlt hk hk4
      clear SD SF DF LF TK SB SE HK
      go_wp2_with fail
      refine S1.out.mono ?_
      rintro e w3 ⟨rfl, h3, _⟩
      have H3 := hid h3
      clear h3 S1 hd1
      go_wp2
      have hlt := HLT.out
      refine ⟨⟨k + 1, hlt, ?_, H3⟩, ?_⟩
      · exact congrArg (Value.int .i64) (hwk.trans (Int.natCast_succ k).symm)
      · rw [hwk]
        show M - ((k : Int) + 1).toNat < M - (k : Int).toNat
        clear H3 HM hwk HLT
        omega
    · have hk9 : k = M := by omega
      subst hk9
      have hd1 : decide ((k : Int) < 4096) = false := decide_eq_false (by omega)
      clear SD hlt hk hM HM
      go_wp2_with fail
      refine (SF.out _ HK.out).mono ?_
      rintro e w3 ⟨rfl, h3, _⟩
      have H3 := hid h3
      clear h3 SF HK
      go_wp2_with fail
      refine (DF.out _ H3.out).mono ?_
      rintro e w4 ⟨rfl, h4, _⟩
      have H4 := hid h4
      clear h4 DF H3
      go_wp2_with fail
      refine (LF.out _ H4.out).mono ?_
      rintro e w5 ⟨rfl, h5, _⟩
      have H5 := hid h5
      clear h5 LF H4
      go_wp2_with fail
      refine (TK.out _ H5.out).mono ?_
      rintro e w6 ⟨rfl, h6, _⟩
      have H6 := hid (fun X => h6.keep (keep_alloc (fun _ => False) w6 X))
      clear h6 TK H5
      go_wp2_with fail
      refine (SB.out _ (H6.out _)).mono ?_
      rintro e w7 ⟨rfl, h7, _⟩
      have H7 := hid h7
      clear h7 SB H6
      go_wp2_with fail
      refine (SE.out _ H7.out).mono ?_
      rintro e w8 ⟨rfl, h8, _⟩
      have H8 := hid h8.kp
      clear h8 SE H7
      go_wp2
      go_ret
      exact ⟨rfl, keep_below H8.out (fun _ _ h => h) (Nat.le_refl _)⟩
end Go.Proofs.Ytfcchmjofejkhaa
