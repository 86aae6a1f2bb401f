/- The walk of the law OctetReads: whatever the input, it answers true. -/
import Derived.Test.YtfdhaedpnjlpiaaWRdM
namespace Go.Proofs.Ytfdhaedpnjlpiaa
open Go.RowKit
set_option linter.unusedVariables false

set_option maxRecDepth 100000 in
set_option maxHeartbeats 16000000 in
theorem octetReads_walk (s : ByteArray) (v : Value) (n : Nat) (K M : Nat → Int) (w : World) (hs : s.size ≤ reachBytes) (hv : Acts w v n K M) :
    Calls Try.prog 7 #[.string s, v] w fun e w' => e = .returned (.bool true) ∧ Below w.heap.size w w' := by
  obtain ⟨ad, cap, rfl, hn, hA⟩ := hv
  unfold maxLen at hn
  have HA := show Hid _ from hA
  have HS := show Hid _ from hs
  clear hA hs
  go_enter Try.func7, Try.ntmps7
  go_wp2_with fail
  refine (new_reader s _).mono ?_
  rintro e w1 ⟨rfl, hR1, hB1⟩
  go_wp2_with fail
  refine (awake1 _).mono ?_
  rintro e w2 ⟨rfl, hB2⟩
  have hlt : w.heap.size < w1.heap.size := rd_lt hR1
  have h2 : LSt w w.heap.size w1.heap.size s 0 0 w2 :=
    ⟨(hR1.keeps ((Below.refl _ _).alloc (Nat.le_refl _) _)).keeps hB2, (Box.made _ _ _ _ _).keeps hB2, (hB1.alloc hB1.size _).trans (hB2.mono (by simp; omega))⟩
  have H2 := show Hid _ from h2
  clear hR1 hB1 hB2 h2
  go_wp2_with fail
  go_loopw [7] (fun i wr => ∃ (j : Nat) (a e : Int), j ≤ n ∧ i = .int .i64 j ∧ Hid (LSt w w.heap.size w1.heap.size s a e wr)) (fun i _ => n - (intOf i).toNat)
  case atStart => exact ⟨0, 0, 0, by omega, rfl, H2⟩
  case round =>
    clear H2
    obtain ⟨j, a, e, hj, rfl, HL⟩ := hrel
    by_cases hjn : j < n
    · obtain ⟨b, off, rfl, hb, hc⟩ := HA.out.resolve_left (by omega)
      obtain ⟨hk, hm, hm1, hm2⟩ := hc j hjn
      clear hc
      generalize K j = k at hk
      generalize M j = m at hm hm1 hm2
      obtain ⟨⟨c0, c1, c2⟩, f0, f1, f2⟩ := HL.out.m
      have ck : ∀ o, (wr.alloc o).cell? ⟨b, off + j * 2, none⟩ = some (.int .i64 k) := fun o => (((HL.out.bel.alloc (HL.out.bel.size) o)).cell (p := ⟨b, off + j * 2, none⟩) hb).trans hk
      have HM : Hid (w.cell? ⟨b, off + j * 2 + 1, none⟩ = some (.int .i64 m)) := hm
      have h3 : ∀ t, LSt w w.heap.size w1.heap.size s a e (wr.alloc (.cells #[.string s, .int .i64 a, .int .i64 e] t)) ∧ Box (wr.alloc (.cells #[.string s, .int .i64 a, .int .i64 e] t)) wr.heap.size (.string s) (.int .i64 a) (.int .i64 e) ∧ w1.heap.size < wr.heap.size :=
        fun t => ⟨HL.out.keeps ((Below.refl _ _).alloc (Nat.le_refl _) _), Box.made _ _ _ _ _, HL.out.m.lt⟩
      have H3 := show Hid _ from h3
      clear hk hm h3
      go_upto_block 2 with fail
      clear ck c0 c1 c2 f0 f1 f2 HL
      have h3 := H3.out 58
      clear H3
      generalize hbk : wr.heap.size = bk at h3 ⊢
      generalize wr.alloc (.cells #[.string s, .int .i64 a, .int .i64 e] 58) = W at h3 ⊢
      have H3 := show Hid _ from h3
      clear h3
      go_cut [9, 10, 11, 12, 13, 14, 15, 16, 17] from 29 to 162 (fun x _ _ _ _ _ _ _ _ X => x = .bool true ∧ Hid (∃ a' e', MSt w w.heap.size w1.heap.size bk s a e a' e' X))
      case first =>
        obtain ⟨hL, hK, hlt2⟩ := H3.out
        have hks : KSt w w.heap.size w1.heap.size bk s a e W := ⟨hL.rd, hL.m, hK, hL.bel⟩
        clear H3 hL hK HA
        by_cases k0 : k = 0
        · subst k0
          obtain ⟨q, hq⟩ := wrap_nat m
          have HR := show Hid _ from fun X => ref_reader_number s a e q X (Nat.le_trans HS.out (by decide))
          have HO := show Hid _ from fun X h => rd_number w.heap.size s a e q X h (Nat.le_trans HS.out (by decide))
          generalize nS s a e (fitN q (rdAt s a).n) 2 = S at HR HO
          have hS0 := (hks.keeps (Below.refl _ _).drew).ks hb HM.out
          have hbW : bk < W.heap.size := hks.k.lt
          unfold KS at hS0
          clear hks
          go_upto_region 14 with fail
          go_cut [10, 11] from 50 to 60 (fun p x X => x = .int .u64 S.n ∧ ∃ c, p = .pointer (some ⟨c, 0, none⟩) ∧ Hid (Box X c (.string s) (.int .i64 S.a) (.int .i64 S.e) ∧ KSt w w.heap.size w1.heap.size bk s a e X))
          case first =>
            go_region_held3 (fun X => X.cell? ⟨w1.heap.size, 0, none⟩ = some (.string s) ∧ X.cell? ⟨w1.heap.size, 1, none⟩ = some (.int .i64 a) ∧ X.cell? ⟨w1.heap.size, 2, none⟩ = some (.int .i64 e) ∧ X.cell? ⟨b, off + j * 2 + 1, none⟩ = some (.int .i64 m) ∧ KSt w w.heap.size w1.heap.size bk s a e X) (first | assumption | exact KS.keeps (by assumption) ((Below.refl _ _).alloc (Nat.le_refl _) _) | exact KS.put (by assumption) (Nat.le_refl _) hlt hlt2 hbW hb _ _ _) (first
              | (go_at_call 28; refine (HR.out _).mono ?_; rintro e w4 ⟨rfl, hB4⟩; have hS4 := KS.keeps (by assumption) hB4; (first | (have hBx : Box w4 W.heap.size _ _ _ := ((Box.made W _ _ _ _).keeps (Below.refl _ _).drew).keeps hB4; have HBx := show Hid _ from hBx; obtain ⟨⟨x0, x1, x2⟩, y0, y1, y2⟩ := hBx) | skip); clear hB4))
            · have hH : KS w w.heap.size w1.heap.size bk s a e b (off + j * 2 + 1) m (w4.alloc (.cells #[.string s, .int .i64 S.a, .int .i64 S.e] 58)) := by assumption
              have HH := show Hid _ from hH.2.2.2.2
              clear hH
              go_wp2_with fail
              go_meet
              case rel => exact ⟨rfl, _, rfl, (show _ ∧ _ from ⟨Box.made _ _ _ _ _, HH.out⟩)⟩
            · have hH : KS w w.heap.size w1.heap.size bk s a e b (off + j * 2 + 1) m (((w4.setCell ⟨W.heap.size, 0, none⟩ (.string s)).setCell ⟨W.heap.size, 1, none⟩ (.int .i64 S.a)).setCell ⟨W.heap.size, 2, none⟩ (.int .i64 S.e)) := by assumption
              have HH := show Hid _ from hH.2.2.2.2
              clear hH
              go_wp2_with fail
              go_meet
              case rel => exact ⟨rfl, _, rfl, (show _ ∧ _ from ⟨Box.put3 HBx.out _ _ _, HH.out⟩)⟩
          case rest =>
            clear hS0 HR
            obtain ⟨rfl, c, rfl, HX⟩ := hcut
            obtain ⟨hBc, hKS⟩ := HX.out
            have hT : TSt w w.heap.size w1.heap.size bk s a e S.a S.e (((wc.setCell ⟨bk, 0, none⟩ (.string s)).setCell ⟨bk, 1, none⟩ (.int .i64 S.a)).setCell ⟨bk, 2, none⟩ (.int .i64 S.e)) := hKS.take (Nat.le_refl _) hlt hlt2 S.a S.e
            have HT := show Hid _ from hT
            obtain ⟨⟨bc0, bc1, bc2⟩, _, _, _⟩ := hBc
            obtain ⟨⟨kc0, kc1, kc2⟩, kf0, kf1, kf2⟩ := hKS.k
            clear hKS HX hT
            go_upto_region 16 with fail
            clear bc0 bc1 bc2 kc0 kc1 kc2 kf0 kf1 kf2
            have hT := HT.out
            clear HT
            generalize (((wc.setCell ⟨bk, 0, none⟩ (.string s)).setCell ⟨bk, 1, none⟩ (.int .i64 S.a)).setCell ⟨bk, 2, none⟩ (.int .i64 S.e)) = X2 at hT ⊢
            have HT := show Hid _ from hT
            have hact : X2.cell? ⟨b, off + j * 2 + 1, none⟩ = some (.int .i64 m) := (hT.bel.cell (p := ⟨b, off + j * 2 + 1, none⟩) hb).trans HM.out
            clear hT
            go_wp2_with fail
            refine (HO.out _ HT.out.rd).mono ?_
            rintro e w6 ⟨rfl, hR6, hO6⟩
            have H6 := show Hid _ from HT.out.read (Nat.le_refl _) hlt hlt2 hR6 hO6
            clear hR6 hO6 hact
            go_wp2_with fail
            go_meet
            case rel => exact ⟨rfl, _, _, H6.out⟩
        have b0 : (k == 0) = false := by rw [beq_eq_false_iff_ne]; exact k0
        clear k0
        by_cases k1 : k = 1
        · subst k1
          have hnS := nS_int s a e m hm2
          have HR := show Hid _ from fun X => ref_reader_int s a e m X (Nat.le_trans HS.out (by decide)) hm2 hnS
          have HO := show Hid _ from fun X h => rd_int w.heap.size s a e m X h (Nat.le_trans HS.out (by decide)) hm2 hnS
          generalize nS s a e (fitI m (rdAt s a).n) 2 = S at HR HO hnS
          clear hnS
          have hS0 := (hks.keeps (Below.refl _ _).drew).ks hb HM.out
          have hbW : bk < W.heap.size := hks.k.lt
          unfold KS at hS0
          clear hks
          go_upto_region 18 with fail
          go_cut [12, 13] from 74 to 83 (fun p x X => x = .int .i64 S.n ∧ ∃ c, p = .pointer (some ⟨c, 0, none⟩) ∧ Hid (Box X c (.string s) (.int .i64 S.a) (.int .i64 S.e) ∧ KSt w w.heap.size w1.heap.size bk s a e X))
          case first =>
            go_region_held3 (fun X => X.cell? ⟨w1.heap.size, 0, none⟩ = some (.string s) ∧ X.cell? ⟨w1.heap.size, 1, none⟩ = some (.int .i64 a) ∧ X.cell? ⟨w1.heap.size, 2, none⟩ = some (.int .i64 e) ∧ X.cell? ⟨b, off + j * 2 + 1, none⟩ = some (.int .i64 m) ∧ KSt w w.heap.size w1.heap.size bk s a e X) (first | assumption | exact KS.keeps (by assumption) ((Below.refl _ _).alloc (Nat.le_refl _) _) | exact KS.put (by assumption) (Nat.le_refl _) hlt hlt2 hbW hb _ _ _) (first
              | (go_at_call 30; refine (HR.out _).mono ?_; rintro e w4 ⟨rfl, hB4⟩; have hS4 := KS.keeps (by assumption) hB4; (first | (have hBx : Box w4 W.heap.size _ _ _ := ((Box.made W _ _ _ _).keeps (Below.refl _ _).drew).keeps hB4; have HBx := show Hid _ from hBx; obtain ⟨⟨x0, x1, x2⟩, y0, y1, y2⟩ := hBx) | skip); clear hB4))
            · have hH : KS w w.heap.size w1.heap.size bk s a e b (off + j * 2 + 1) m (w4.alloc (.cells #[.string s, .int .i64 S.a, .int .i64 S.e] 58)) := by assumption
              have HH := show Hid _ from hH.2.2.2.2
              clear hH
              go_wp2_with fail
              go_meet
              case rel => exact ⟨rfl, _, rfl, (show _ ∧ _ from ⟨Box.made _ _ _ _ _, HH.out⟩)⟩
            · have hH : KS w w.heap.size w1.heap.size bk s a e b (off + j * 2 + 1) m (((w4.setCell ⟨W.heap.size, 0, none⟩ (.string s)).setCell ⟨W.heap.size, 1, none⟩ (.int .i64 S.a)).setCell ⟨W.heap.size, 2, none⟩ (.int .i64 S.e)) := by assumption
              have HH := show Hid _ from hH.2.2.2.2
              clear hH
              go_wp2_with fail
              go_meet
              case rel => exact ⟨rfl, _, rfl, (show _ ∧ _ from ⟨Box.put3 HBx.out _ _ _, HH.out⟩)⟩
          case rest =>
            clear hS0 HR
            obtain ⟨rfl, c, rfl, HX⟩ := hcut
            obtain ⟨hBc, hKS⟩ := HX.out
            have hT : TSt w w.heap.size w1.heap.size bk s a e S.a S.e (((wc.setCell ⟨bk, 0, none⟩ (.string s)).setCell ⟨bk, 1, none⟩ (.int .i64 S.a)).setCell ⟨bk, 2, none⟩ (.int .i64 S.e)) := hKS.take (Nat.le_refl _) hlt hlt2 S.a S.e
            have HT := show Hid _ from hT
            obtain ⟨⟨bc0, bc1, bc2⟩, _, _, _⟩ := hBc
            obtain ⟨⟨kc0, kc1, kc2⟩, kf0, kf1, kf2⟩ := hKS.k
            clear hKS HX hT
            go_upto_region 20 with fail
            clear bc0 bc1 bc2 kc0 kc1 kc2 kf0 kf1 kf2
            have hT := HT.out
            clear HT
            generalize (((wc.setCell ⟨bk, 0, none⟩ (.string s)).setCell ⟨bk, 1, none⟩ (.int .i64 S.a)).setCell ⟨bk, 2, none⟩ (.int .i64 S.e)) = X2 at hT ⊢
            have HT := show Hid _ from hT
            have hact : X2.cell? ⟨b, off + j * 2 + 1, none⟩ = some (.int .i64 m) := (hT.bel.cell (p := ⟨b, off + j * 2 + 1, none⟩) hb).trans HM.out
            clear hT
            go_wp2_with fail
            refine (HO.out _ HT.out.rd).mono ?_
            rintro e w6 ⟨rfl, hR6, hO6⟩
            have H6 := show Hid _ from HT.out.read (Nat.le_refl _) hlt hlt2 hR6 hO6
            clear hR6 hO6 hact
            go_wp2_with fail
            go_meet
            case rel => exact ⟨rfl, _, _, H6.out⟩
        have b1 : (k == 1) = false := by rw [beq_eq_false_iff_ne]; exact k1
        clear k1
        by_cases k2 : k = 2
        · subst k2
          have HR := show Hid _ from fun X => ref_reader_text s a e m X (Nat.le_trans HS.out (by decide))
          have HO := show Hid _ from fun X h => rd_text w.heap.size s a e m X h (Nat.le_trans HS.out (by decide))
          generalize tS s a e m = S at HR HO
          have hS0 := (hks.keeps (Below.refl _ _).drew).ks hb HM.out
          have hbW : bk < W.heap.size := hks.k.lt
          unfold KS at hS0
          clear hks
          go_upto_region 22 with fail
          go_cut [14, 15] from 96 to 105 (fun p x X => x = .string S.x ∧ ∃ c, p = .pointer (some ⟨c, 0, none⟩) ∧ Hid (Box X c (.string s) (.int .i64 S.a) (.int .i64 S.e) ∧ KSt w w.heap.size w1.heap.size bk s a e X))
          case first =>
            go_region_held3 (fun X => X.cell? ⟨w1.heap.size, 0, none⟩ = some (.string s) ∧ X.cell? ⟨w1.heap.size, 1, none⟩ = some (.int .i64 a) ∧ X.cell? ⟨w1.heap.size, 2, none⟩ = some (.int .i64 e) ∧ X.cell? ⟨b, off + j * 2 + 1, none⟩ = some (.int .i64 m) ∧ KSt w w.heap.size w1.heap.size bk s a e X) (first | assumption | exact KS.keeps (by assumption) ((Below.refl _ _).alloc (Nat.le_refl _) _) | exact KS.put (by assumption) (Nat.le_refl _) hlt hlt2 hbW hb _ _ _) (first
              | (go_at_call 32; refine (HR.out _).mono ?_; rintro e w4 ⟨rfl, hB4⟩; have hS4 := KS.keeps (by assumption) hB4; (first | (have hBx : Box w4 W.heap.size _ _ _ := ((Box.made W _ _ _ _).keeps (Below.refl _ _).drew).keeps hB4; have HBx := show Hid _ from hBx; obtain ⟨⟨x0, x1, x2⟩, y0, y1, y2⟩ := hBx) | skip); clear hB4))
            · have hH : KS w w.heap.size w1.heap.size bk s a e b (off + j * 2 + 1) m (w4.alloc (.cells #[.string s, .int .i64 S.a, .int .i64 S.e] 58)) := by assumption
              have HH := show Hid _ from hH.2.2.2.2
              clear hH
              go_wp2_with fail
              go_meet
              case rel => exact ⟨rfl, _, rfl, (show _ ∧ _ from ⟨Box.made _ _ _ _ _, HH.out⟩)⟩
            · have hH : KS w w.heap.size w1.heap.size bk s a e b (off + j * 2 + 1) m (((w4.setCell ⟨W.heap.size, 0, none⟩ (.string s)).setCell ⟨W.heap.size, 1, none⟩ (.int .i64 S.a)).setCell ⟨W.heap.size, 2, none⟩ (.int .i64 S.e)) := by assumption
              have HH := show Hid _ from hH.2.2.2.2
              clear hH
              go_wp2_with fail
              go_meet
              case rel => exact ⟨rfl, _, rfl, (show _ ∧ _ from ⟨Box.put3 HBx.out _ _ _, HH.out⟩)⟩
          case rest =>
            clear hS0 HR
            obtain ⟨rfl, c, rfl, HX⟩ := hcut
            obtain ⟨hBc, hKS⟩ := HX.out
            have hT : TSt w w.heap.size w1.heap.size bk s a e S.a S.e (((wc.setCell ⟨bk, 0, none⟩ (.string s)).setCell ⟨bk, 1, none⟩ (.int .i64 S.a)).setCell ⟨bk, 2, none⟩ (.int .i64 S.e)) := hKS.take (Nat.le_refl _) hlt hlt2 S.a S.e
            have HT := show Hid _ from hT
            obtain ⟨⟨bc0, bc1, bc2⟩, _, _, _⟩ := hBc
            obtain ⟨⟨kc0, kc1, kc2⟩, kf0, kf1, kf2⟩ := hKS.k
            clear hKS HX hT
            go_upto_region 24 with fail
            clear bc0 bc1 bc2 kc0 kc1 kc2 kf0 kf1 kf2
            have hT := HT.out
            clear HT
            generalize (((wc.setCell ⟨bk, 0, none⟩ (.string s)).setCell ⟨bk, 1, none⟩ (.int .i64 S.a)).setCell ⟨bk, 2, none⟩ (.int .i64 S.e)) = X2 at hT ⊢
            have HT := show Hid _ from hT
            have hact : X2.cell? ⟨b, off + j * 2 + 1, none⟩ = some (.int .i64 m) := (hT.bel.cell (p := ⟨b, off + j * 2 + 1, none⟩) hb).trans HM.out
            clear hT
            go_wp2_with fail
            refine (HO.out _ HT.out.rd).mono ?_
            rintro e w6 ⟨rfl, hR6, hO6⟩
            have H6 := show Hid _ from HT.out.read (Nat.le_refl _) hlt hlt2 hR6 hO6
            clear hR6 hO6 hact
            go_wp2_with fail
            go_meet
            case rel => exact ⟨rfl, _, _, H6.out⟩
        have b2 : (k == 2) = false := by rw [beq_eq_false_iff_ne]; exact k2
        clear k2
        by_cases k3 : k = 3
        · subst k3
          have HR := show Hid _ from fun X => ref_reader_bool s a e X (Nat.le_trans HS.out (by decide))
          have HO := show Hid _ from fun X h => rd_bool w.heap.size s a e X h (Nat.le_trans HS.out (by decide))
          generalize nS s a e (fitB (rdAt s a).n) 3 = S at HR HO
          generalize ((S.n : Int) == 1) = B at HR HO
          have HKS := show Hid _ from hks
          obtain ⟨⟨c0, c1, c2⟩, f0, f1, f2⟩ := hks.m
          clear hks
          go_upto_region 26 with fail
          go_cut [16, 17] from 118 to 122 (fun p x X => x = .bool B ∧ ∃ c, p = .pointer (some ⟨c, 0, none⟩) ∧ Hid (Box X c (.string s) (.int .i64 S.a) (.int .i64 S.e) ∧ KSt w w.heap.size w1.heap.size bk s a e X))
          case first =>
            go_wp2_with fail
            refine (HR.out _).mono ?_
            rintro e w4 ⟨rfl, hB4⟩
            have HH := show Hid _ from fun o => (HKS.out.keeps hB4).keeps ((Below.refl _ _).alloc (Nat.le_refl _) o)
            clear hB4 c0 c1 c2 f0 f1 f2
            go_wp2_with fail
            go_meet
            case rel => exact ⟨rfl, _, rfl, (show _ ∧ _ from ⟨Box.made _ _ _ _ _, HH.out _⟩)⟩
          case rest =>
            clear HR HKS c0 c1 c2 f0 f1 f2
            obtain ⟨rfl, c, rfl, HX⟩ := hcut
            obtain ⟨hBc, hKS⟩ := HX.out
            have hT : TSt w w.heap.size w1.heap.size bk s a e S.a S.e (((wc.setCell ⟨bk, 0, none⟩ (.string s)).setCell ⟨bk, 1, none⟩ (.int .i64 S.a)).setCell ⟨bk, 2, none⟩ (.int .i64 S.e)) := hKS.take (Nat.le_refl _) hlt hlt2 S.a S.e
            have HT := show Hid _ from hT
            obtain ⟨⟨bc0, bc1, bc2⟩, _, _, _⟩ := hBc
            obtain ⟨⟨kc0, kc1, kc2⟩, kf0, kf1, kf2⟩ := hKS.k
            clear hKS HX hT
            go_upto_region 28 with fail
            clear bc0 bc1 bc2 kc0 kc1 kc2 kf0 kf1 kf2
            have hT := HT.out
            clear HT
            generalize (((wc.setCell ⟨bk, 0, none⟩ (.string s)).setCell ⟨bk, 1, none⟩ (.int .i64 S.a)).setCell ⟨bk, 2, none⟩ (.int .i64 S.e)) = X2 at hT ⊢
            have HT := show Hid _ from hT
            have hact : X2.cell? ⟨b, off + j * 2 + 1, none⟩ = some (.int .i64 m) := (hT.bel.cell (p := ⟨b, off + j * 2 + 1, none⟩) hb).trans HM.out
            clear hT
            go_wp2_with fail
            refine (HO.out _ HT.out.rd).mono ?_
            rintro e w6 ⟨rfl, hR6, hO6⟩
            have H6 := show Hid _ from HT.out.read (Nat.le_refl _) hlt hlt2 hR6 hO6
            clear hR6 hO6 hact
            go_wp2_with fail
            go_meet
            case rel => exact ⟨rfl, _, _, H6.out⟩
        have b3 : (k == 3) = false := by rw [beq_eq_false_iff_ne]; exact k3
        clear k3
        by_cases k4 : k = 4
        · subst k4
          have hact : W.cell? ⟨b, off + j * 2 + 1, none⟩ = some (.int .i64 m) := (hks.bel.cell (p := ⟨b, off + j * 2 + 1, none⟩) hb).trans HM.out
          have HKS := show Hid _ from hks
          have HF := show Hid _ from fun X h => fail_any w.heap.size s a e m X h
          clear hks
          go_wp2_with fail
          refine (HF.out _ HKS.out.rd).mono ?_
          rintro e4 w4 ⟨rfl, hR4, hO4⟩
          have hM4 := HKS.out.m.alike (hO4.block _ HKS.out.m.lt (by omega))
          have hK4 := HKS.out.k.alike (hO4.block _ HKS.out.k.lt (by omega))
          have hB4 := HKS.out.bel.trans (hO4.below (Nat.le_refl _) HKS.out.bel.size)
          have H4 : Hid (RdAt w4 w.heap.size s a (failE e m) ∧ Box w4 w1.heap.size (.string s) (.int .i64 a) (.int .i64 e) ∧ Box w4 bk (.string s) (.int .i64 a) (.int .i64 e) ∧ Below w.heap.size w w4) := ⟨hR4, hM4, hK4, hB4⟩
          obtain ⟨⟨mc0, mc1, mc2⟩, _, _, _⟩ := hM4
          obtain ⟨⟨kc0, kc1, kc2⟩, kf0, kf1, kf2⟩ := hK4
          have hact4 : w4.cell? ⟨b, off + j * 2 + 1, none⟩ = some (.int .i64 m) := (hB4.cell (p := ⟨b, off + j * 2 + 1, none⟩) hb).trans HM.out
          clear hR4 hO4 hB4 hact HF HKS
          by_cases he0 : e = 0
          · subst he0
            go_wp2_with fail
            go_meet
            case rel =>
              obtain ⟨p1, p2, p3, p4⟩ := H4.out
              refine ⟨rfl, a, m, ?_⟩
              exact ⟨RdAt.alike (by rw [failE, if_pos rfl] at p1; exact p1) (Below.heap_setCell _ _ _ _ (by show _ ≠ bk; omega)), p2.alike (Below.heap_setCell _ _ _ _ (by show _ ≠ bk; omega)), p3.set2 _, p4.setCell (p := ⟨bk, 2, none⟩) (by show _ ≤ bk; omega) _⟩
          · have he1 : (e == 0) = false := by rw [beq_eq_false_iff_ne]; exact he0
            have HE0 := show Hid _ from he0
            clear he0
            go_wp2_with fail
            go_meet
            case rel =>
              obtain ⟨p1, p2, p3, p4⟩ := H4.out
              rw [failE, if_neg HE0.out] at p1
              exact ⟨rfl, a, e, ⟨p1, p2, p3, p4⟩⟩
        have b4 : (k == 4) = false := by rw [beq_eq_false_iff_ne]; exact k4
        clear k4
        have HKS := show Hid _ from hks
        have HR := show Hid _ from fun X => ref_reader_end s a e X
        have HO := show Hid _ from fun X h => rd_end w.heap.size s a e X h
        generalize endE s a e = E at HR HO
        obtain ⟨⟨mc0, mc1, mc2⟩, _, _, _⟩ := hks.m
        clear hks
        go_wp2_with fail
        refine (HR.out _).mono ?_
        rintro e4 w4 ⟨rfl, hB4⟩
        have hK4 := HKS.out.keeps hB4
        have hT : TSt w w.heap.size w1.heap.size bk s a e a E (((w4.setCell ⟨bk, 0, none⟩ (.string s)).setCell ⟨bk, 1, none⟩ (.int .i64 a)).setCell ⟨bk, 2, none⟩ (.int .i64 E)) := hK4.take (Nat.le_refl _) hlt hlt2 a E
        have HT := show Hid _ from hT
        obtain ⟨⟨kc0, kc1, kc2⟩, kf0, kf1, kf2⟩ := hK4.k
        clear hK4 hT HR mc0 mc1 mc2 hB4
        go_upto_region 12 with fail
        clear kc0 kc1 kc2 kf0 kf1 kf2
        have hT := HT.out
        clear HT
        generalize (((w4.setCell ⟨bk, 0, none⟩ (.string s)).setCell ⟨bk, 1, none⟩ (.int .i64 a)).setCell ⟨bk, 2, none⟩ (.int .i64 E)) = X2 at hT ⊢
        have HT := show Hid _ from hT
        have hS0 : X2.drew.cell? ⟨bk, 2, none⟩ = some (.int .i64 E) ∧ (TSt w w.heap.size w1.heap.size bk s a e a E X2.drew ∨ MSt w w.heap.size w1.heap.size bk s a e a E X2.drew) := ⟨hT.k.1.2.2, Or.inl (hT.keeps (Below.refl _ _).drew)⟩
        clear hT
        go_region_held3 (fun X => X.cell? ⟨bk, 2, none⟩ = some (.int .i64 E) ∧ (TSt w w.heap.size w1.heap.size bk s a e a E X ∨ MSt w w.heap.size w1.heap.size bk s a e a E X)) (assumption) (first
          | (go_at_call 38; refine (HO.out _ (HT.out.keeps (Below.refl _ _).drew).rd).mono ?_; rintro e w6 ⟨rfl, hR6, hO6⟩; have H6 := show Hid _ from (HT.out.keeps (Below.refl _ _).drew).read (Nat.le_refl _) hlt hlt2 hR6 hO6; have hS6 : w6.cell? ⟨bk, 2, none⟩ = some (.int .i64 E) ∧ (TSt w w.heap.size w1.heap.size bk s a e a E w6 ∨ MSt w w.heap.size w1.heap.size bk s a e a E w6) := ⟨H6.out.k.1.2.2, Or.inr H6.out⟩; clear hR6 hO6))
        clear hS0 hS6
        go_wp2_with fail
        go_meet
        case rel => exact ⟨rfl, _, _, H6.out⟩
      case rest =>
        obtain ⟨rfl, HX⟩ := hcut
        obtain ⟨a', e', hX⟩ := HX.out
        obtain ⟨_, _, hlt2⟩ := H3.out
        have h5 : LSt w w.heap.size w1.heap.size s a' e' (((wc.setCell ⟨w1.heap.size, 0, none⟩ (.string s)).setCell ⟨w1.heap.size, 1, none⟩ (.int .i64 a')).setCell ⟨w1.heap.size, 2, none⟩ (.int .i64 e')) :=
          ⟨hX.rd.alike (put3_block _ _ _ _ _ _ (by omega)), hX.m.put3 _ _ _, put3_below hX.bel (by omega) _ _ _⟩
        have H5 := show Hid _ from h5
        obtain ⟨⟨kc0, kc1, kc2⟩, _, _, _⟩ := hX.k
        obtain ⟨⟨mc0, mc1, mc2⟩, mf0, mf1, mf2⟩ := hX.m
        clear HX hX h5 H3 HM HA HS
        go_wp2_with fail
        clear kc0 kc1 kc2 mc0 mc1 mc2 mf0 mf1 mf2
        have h5 := H5.out
        clear H5
        generalize (((wc.setCell ⟨w1.heap.size, 0, none⟩ (.string s)).setCell ⟨w1.heap.size, 1, none⟩ (.int .i64 a')).setCell ⟨w1.heap.size, 2, none⟩ (.int .i64 e')) = W5 at h5 ⊢
        have HE := show Hid _ from fun X h => err_any w.heap.size s a' e' X h
        have HT := show Hid _ from fun X h => at_any w.heap.size s a' e' X h
        have H5 := show Hid _ from h5
        obtain ⟨⟨c0, c1, c2⟩, f0, f1, f2⟩ := h5.m
        clear h5
        go_quiet (first
          | (go_at_call 39; exact Calls.quiet_of_same (HE.out _ (RdAt.keeps H5.out.rd (by first | exact Below.refl _ _ | exact (Below.refl _ _).drew | exact below_drewN (Below.refl _ _) _))))
          | (go_at_call 40; exact Calls.quiet_of_same (HT.out _ (RdAt.keeps H5.out.rd (by first | exact Below.refl _ _ | exact (Below.refl _ _).drew | exact below_drewN (Below.refl _ _) _)))))
        go_wp2
        go_roundw
        case rel => exact ⟨j + 1, a', e', by omega, by go_num, H5.out.keeps (below_drewN (Below.refl _ _) _)⟩
        case measure => simp [intOf]; omega
    · have hjn' : n ≤ j := by omega
      have HBL := show Hid _ from HL.out.bel
      clear hjn HL HA HS
      go_wp2_with fail
      refine (nil_fail _ _).mono ?_
      rintro e1 w3 ⟨rfl, rfl⟩
      go_wp2_with fail
      refine (nil_number _ _).mono ?_
      rintro e1 w4 ⟨rfl, hB4⟩
      go_wp2_with fail
      refine (nil_int _ _).mono ?_
      rintro e1 w5 ⟨rfl, hB5⟩
      go_wp2_with fail
      refine (nil_text _ _).mono ?_
      rintro e1 w6 ⟨rfl, rfl⟩
      go_wp2_with fail
      refine (nil_bool _).mono ?_
      rintro e1 w7 ⟨rfl, rfl⟩
      go_wp2_with fail
      refine (nil_err _).mono ?_
      rintro e1 w8 ⟨rfl, rfl⟩
      go_wp2_with fail
      refine (nil_at _).mono ?_
      rintro e1 w9 ⟨rfl, rfl⟩
      go_wp2_with fail
      refine (nil_end _).mono ?_
      rintro e1 w10 ⟨rfl, hB10⟩
      go_wp2
      go_ret
      have q4 := HBL.out.trans (hB4.mono HBL.out.size)
      have q5 := q4.trans (hB5.mono q4.size)
      exact ⟨rfl, q5.trans (hB10.mono q5.size)⟩
end Go.Proofs.Ytfdhaedpnjlpiaa
