/- Joined: The reference's text of a snapshot. A snapshot as the reference has it. Whether two snapshots are the same. -/
import Derived.Test.YtflecoplpdbonaaShR
import Derived.Test.YtflecoplpdbonaaJoined17
namespace Go.Proofs.Ytflecoplpdbonaa
open Go.RowKit Go.Maps
set_option linter.unusedVariables false
set_option linter.unusedSimpArgs false

end Go.Proofs.Ytflecoplpdbonaa
namespace Go.Proofs.Ytflecoplpdbonaa
open Go.RowKit Go.Maps
set_option linter.unusedVariables false
set_option linter.unusedSimpArgs false

set_option maxRecDepth 100000 in
set_option maxHeartbeats 1000000 in
theorem refOf_any (ad : Option Addr) (m cap : Nat) (s : Sh) (w : World) : Calls Try.prog 10 #[shV (.slice ad m cap) s] w fun e w' => e = .returned (shV (.slice ad m cap) s) ∧ Below w.heap.size w w' := by
  unfold shV
  obtain ⟨ix, tm, ms, da⟩ := s
  simp only
  have hsz : (w.alloc (.cells #[.int .i64 ix, .int .i64 tm, .slice ad m cap, .string da] 36)).heap.size = w.heap.size + 1 := by simp
  have HS : Hid (RowIs ((w.alloc (.cells #[.int .i64 ix, .int .i64 tm, .slice ad m cap, .string da] 36)).alloc (.cells #[.int .i64 ix, .int .i64 tm, .slice ad m cap, .string da] 33)) (w.heap.size + 1) [.int .i64 ix, .int .i64 tm, .slice ad m cap, .string da] 33) := by
    show RowIs _ _ _ _
    rw [← hsz]
    exact heap_alloc_new _ _
  have HK : Hid (Below w.heap.size w ((w.alloc (.cells #[.int .i64 ix, .int .i64 tm, .slice ad m cap, .string da] 36)).alloc (.cells #[.int .i64 ix, .int .i64 tm, .slice ad m cap, .string da] 33))) := ((Below.refl _ _).alloc (Nat.le_refl _) _).alloc (by rw [hsz]; omega) _
  clear hsz
  go_enter Try.func10, Try.ntmps10
  go_wp2
  refine bodyPost_ret (v := .agg #[.int .i64 ix, .int .i64 tm, .slice ad m cap, .string da]) (results_cell_row (p := 2) rfl _ _ (w.heap.size + 1) 33 #[.int .i64 ix, .int .i64 tm, .slice ad m cap, .string da] (0, 0) _ rfl HS.out Try.underlying33 rfl (by kernel_rfl)) rfl ⟨rfl, HK.out⟩
end Go.Proofs.Ytflecoplpdbonaa
namespace Go.Proofs.Ytflecoplpdbonaa
open Go.RowKit Go.Maps
set_option linter.unusedVariables false
set_option linter.unusedSimpArgs false

def smS (a b : Sh) : Bool := decide (a.ix = b.ix ∧ a.tm = b.tm ∧ a.da = b.da ∧ a.ms = b.ms)
theorem bytesInj {a b : ByteArray} (h : a.toList = b.toList) : a = b := by
  rw [Lib.toList_data, Lib.toList_data] at h
  cases a; cases b
  simp only [ByteArray.mk.injEq]
  exact Array.toList_inj.1 h
def HeldT (w0 : World) (g1 g2 : Nat) (cs1 cs2 : List Value) (t : TypeId) (W : World) : Prop := RowIs W g1 cs1 t ∧ RowIs W g2 cs2 t ∧ Below w0.heap.size w0 W
theorem HeldT.drew {w0 W : World} {g1 g2 n : Nat} {cs1 cs2 : List Value} {t : TypeId} (h : HeldT w0 g1 g2 cs1 cs2 t W) : HeldT w0 g1 g2 cs1 cs2 t (W.drewN n) := ⟨h.1, h.2.1, below_drewN h.2.2 n⟩
set_option maxRecDepth 100000 in
set_option maxHeartbeats 2000000 in
theorem rsame_any (v1 v2 : Value) (s1 s2 : Sh) (w : World) (h1 : IntsI w v1 s1.ms) (h2 : IntsI w v2 s2.ms) (hl : s1.ms.length ≤ 9223372036854775807) : Calls Try.prog 16 #[shV v1 s1, shV v2 s2] w fun e w' => e = .returned (.bool (smS s1 s2)) ∧ Below w.heap.size w w' := by
  obtain ⟨a1, c1, rfl, hc1⟩ := h1.form
  obtain ⟨a2, c2, rfl, hc2⟩ := h2.form
  have HC1 := hid hc1
  have HC2 := hid hc2
  have HR : Hid (smS s1 s2 = decide (s1.ix = s2.ix ∧ s1.tm = s2.tm ∧ s1.da = s2.da ∧ s1.ms = s2.ms)) := rfl
  generalize smS s1 s2 = R at *
  unfold shV
  obtain ⟨ix, tm, ms, da⟩ := s1
  obtain ⟨iy, ty, my, db⟩ := s2
  simp only at *
  clear h1 h2 hc1 hc2
  have hsz : (w.alloc (.cells #[.int .i64 ix, .int .i64 tm, .slice a1 ms.length c1, .string da] 33)).heap.size = w.heap.size + 1 := by simp
  have KA : Hid (Below w.heap.size w ((w.alloc (.cells #[.int .i64 ix, .int .i64 tm, .slice a1 ms.length c1, .string da] 33)).alloc (.cells #[.int .i64 iy, .int .i64 ty, .slice a2 my.length c2, .string db] 33))) := ((Below.refl _ _).alloc (Nat.le_refl _) _).alloc (by rw [hsz]; omega) _
  clear hsz
  go_enter Try.func16, Try.ntmps16
  by_cases e1 : ix = iy
  · subst e1
    by_cases e2 : tm = ty
    · subst e2
      by_cases e3 : da = db
      · subst e3
        by_cases e4 : ms.length = my.length
        · have H0 : Hid (HeldT w w.heap.size (w.heap.size + 1) [.int .i64 ix, .int .i64 tm, .slice a1 ms.length c1, .string da] [.int .i64 ix, .int .i64 tm, .slice a2 my.length c2, .string da] 33 ((w.alloc (.cells #[.int .i64 ix, .int .i64 tm, .slice a1 ms.length c1, .string da] 33)).alloc (.cells #[.int .i64 ix, .int .i64 tm, .slice a2 my.length c2, .string da] 33))) := by
            have hsz : (w.alloc (.cells #[.int .i64 ix, .int .i64 tm, .slice a1 ms.length c1, .string da] 33)).heap.size = w.heap.size + 1 := by simp
            refine ⟨(srow w _ _).keep (keep_alloc (fun _ => False) _ _) (fun h => h), ?_, KA.out⟩
            rw [← hsz]
            exact heap_alloc_new _ _
          have HLE := hid e4
          have b4 : ((ms.length : Int) != (my.length : Int)) = false := by simp; omega
          have b5 : (ms.length != my.length) = false := by simpa using e4
          clear e4
          go_wp2
          clear b4 b5
          generalize ((w.alloc (.cells #[.int .i64 ix, .int .i64 tm, .slice a1 ms.length c1, .string da] 33)).alloc (.cells #[.int .i64 ix, .int .i64 tm, .slice a2 my.length c2, .string da] 33)) = w3 at *
          go_loopw [5] (fun i wr => ∃ k : Nat, k ≤ ms.length ∧ i = .int .i64 (k : Int) ∧ Hid (HeldT w w.heap.size (w.heap.size + 1) [.int .i64 ix, .int .i64 tm, .slice a1 ms.length c1, .string da] [.int .i64 ix, .int .i64 tm, .slice a2 my.length c2, .string da] 33 wr) ∧ Hid (∀ j (h1 : j < ms.length) (h2 : j < my.length), j < k → ms[j] = my[j])) (fun i _ => ms.length - (intOf i).toNat)
          case atStart => exact ⟨0, Nat.zero_le _, rfl, H0, fun j _ _ h => absurd h (Nat.not_lt_zero _)⟩
          case round =>
            clear H0 KA
            obtain ⟨k, hk, rfl, HH, HX⟩ := hrel
            have y2 := HH.out.1.cellAt (o := 2) rfl
            have z2 := HH.out.2.1.cellAt (o := 2) rfl
            by_cases hlt : k < ms.length
            · have hlt2 : k < my.length := by have := HLE.out; omega
              have hk0 : (0 : Int) ≤ (k : Int) := by omega
              have hk1 : (k : Int) < (ms.length : Int) := by omega
              have hk2 : (k : Int) < (my.length : Int) := by omega
              obtain ⟨b, off, rfl, hb, hc⟩ := HC1.out k hlt
              obtain ⟨d, off', rfl, hd, hc'⟩ := HC2.out k hlt2
              have x1 := (HH.out.2.2.cell (p := ⟨b, off + k, none⟩) hb).trans hc
              have x2 := (HH.out.2.2.cell (p := ⟨d, off' + k, none⟩) hd).trans hc'
              by_cases he : ms[k] = my[k]
              · have HX2 : Hid (∀ j (h1 : j < ms.length) (h2 : j < my.length), j < k + 1 → ms[j] = my[j]) := fun j h1 h2 hj => by
                  by_cases e : j = k
                  · subst e; exact he
                  · exact HX.out j h1 h2 (by omega)
                rw [he] at x1
                generalize my[k] = u at *
                clear hc hc' hb hd HC1 HC2 HR HX he
                go_wp2
                go_quiet (fail)
                go_wp2
                exact ⟨⟨k + 1, by omega, by go_num, by first | exact HH | exact HH.out.drew, HX2⟩, by simp [intOf]; omega⟩
              · have HF : Hid (R = false) := by show _ = _; rw [HR.out]; simp; intro h; exact he (by simp only [h])
                have bb : (ms[k] != my[k]) = true := bne_iff_ne.2 he
                generalize my[k] = u at *
                generalize ms[k] = t at *
                clear hc hc' hb hd HC1 HC2 HR HX he
                go_wp2
                go_quiet (fail)
                go_wp2
                go_ret
                rw [HF.out]
                exact ⟨rfl, below_drewN HH.out.2.2 _⟩
            · have hk9 : k = ms.length := by omega
              have HT : Hid (R = true) := by
                show _ = _
                rw [HR.out]
                simp
                exact List.ext_getElem HLE.out (fun j h1 h2 => HX.out j h1 h2 (by omega))
              have hdl : decide ((k : Int) < (ms.length : Int)) = false := decide_eq_false (by omega)
              have hdl2 : decide (k < ms.length) = false := decide_eq_false (by omega)
              clear HC1 HC2 HR HX
              go_wp2
              go_ret
              rw [HT.out]
              exact ⟨rfl, HH.out.2.2⟩
        · have b4 : ((ms.length : Int) != (my.length : Int)) = true := by simp; omega
          have b5 : (ms.length != my.length) = true := by simpa using e4
          have HF : Hid (R = false) := by show _ = _; rw [HR.out]; simp; intro h; exact e4 (by rw [h])
          clear HR e4
          go_wp2
          go_ret
          rw [HF.out]
          exact ⟨rfl, KA.out⟩
      · have b3 : ¬ da.toList = db.toList := fun h => e3 (bytesInj h)
        have b4 : (da.toList != db.toList) = true := bne_iff_ne.2 b3
        have b5 : (da.toList == db.toList) = false := beq_eq_false_iff_ne.2 b3
        have HF : Hid (R = false) := by show _ = _; rw [HR.out]; simp [e3]
        clear HR e3
        go_wp2
        go_ret
        rw [HF.out]
        exact ⟨rfl, KA.out⟩
    · have b2 : (tm != ty) = true := bne_iff_ne.2 e2
      have HF : Hid (R = false) := by show _ = _; rw [HR.out]; simp [e2]
      clear HR e2
      go_wp2
      go_ret
      rw [HF.out]
      exact ⟨rfl, KA.out⟩
  · have b1 : (ix != iy) = true := bne_iff_ne.2 e1
    have HF : Hid (R = false) := by show _ = _; rw [HR.out]; simp [e1]
    clear HR e1
    go_wp2
    go_ret
    rw [HF.out]
    exact ⟨rfl, KA.out⟩
end Go.Proofs.Ytflecoplpdbonaa
