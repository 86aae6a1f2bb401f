/- Joined: The names of segments' files. A segment as a value: how long it is, where it ends, how it begins. -/
import Derived.Test.YtefbioainibmaaaGreatDoorLaid
import Derived.Test.YtefbioainibmaaaGreatDoorJoined11
import Derived.Lib.ItoaLen
import Derived.Lib.AppendIntMem
import Derived.Lib.AtoiAllCases
import Derived.Lib.SmallJoins
import Derived.BigQuiet
namespace Go.Proofs.YtefbioainibmaaaGreatDoor
open Go.RowKit Go.Maps
set_option linter.unusedVariables false
set_option linter.unusedSimpArgs false

/-- what the library's variables hold -/
structure GV (w : World) : Prop where
  es : ∃ tp p, w.var? Tryz.prog "strconv.ErrSyntax" = some #[.iface tp p]
  er : ∃ tp p, w.var? Tryz.prog "strconv.ErrRange" = some #[.iface tp p]
  tb : Lib.TabIs Tryz.prog w "internal/strconv.uint64pow10" .u64 Lib.pow10Tab
theorem GV.next {w W : World} (h : GV w) (b : Below w.heap.size w W) : GV W := by
  obtain ⟨⟨t1, p1, h1⟩, ⟨t2, p2, h2⟩, h3⟩ := h
  obtain ⟨g1, e1⟩ := Option.isSome_iff_exists.1 (show (Tryz.prog.globalNamed "strconv.ErrSyntax").isSome = true by kernel_rfl)
  obtain ⟨g2, e2⟩ := Option.isSome_iff_exists.1 (show (Tryz.prog.globalNamed "strconv.ErrRange").isSome = true by kernel_rfl)
  obtain ⟨g3, e3⟩ := Option.isSome_iff_exists.1 (show (Tryz.prog.globalNamed "internal/strconv.uint64pow10").isSome = true by kernel_rfl)
  exact ⟨⟨t1, p1, Go.Joins.var_stays e1 h1 b (Nat.le_refl _)⟩, ⟨t2, p2, Go.Joins.var_stays e2 h2 b (Nat.le_refl _)⟩, Go.Joins.tab_stays e3 h3 b (Nat.le_refl _)⟩
/-- the name of a number's file; the number of a name -/
def fnB (n : Int) : List UInt8 := [119, 46] ++ Lib.itoa n
def nbA (s : List UInt8) : Lib.NumEnd Int := Lib.atoiAll (Lib.trimPrefix s [119, 46])
def nbO (s : List UInt8) : Int × Bool :=
  match nbA s with
  | .ok v => if 1 ≤ v ∧ v ≤ 4611686018427387903 then (v, fnB v == s) else (0, false)
  | _ => (0, false)
set_option maxRecDepth 100000 in
set_option maxHeartbeats 800000 in
theorem fileOf_any (n : Int) (w : World) (h0 : -9223372036854775808 ≤ n) (h1 : n ≤ 9223372036854775807) (hG : GV w) : Calls Tryz.prog 103 #[.int .i64 n] w fun e w' => e = .returned (.string ⟨(fnB n).toArray⟩) ∧ Below w.heap.size w w' := by
  have I : Hid (Calls Tryz.prog 142 #[.int .i64 n] w fun e w' => e = .returned (.string ⟨(Lib.itoa n).toArray⟩) ∧ Below w.heap.size w w') := (Any.strconv_Itoa itoaLaid n h0 h1 w hG.tb).mono fun e w' ⟨he, k, os, hw⟩ => ⟨he, hw ▸ Lib.below_grow _ w (Nat.le_refl _) k os⟩
  have hl := Lib.itoa_length_le n h0 h1
  have AD := fun W => add_ls [119, 46] (Lib.itoa n) W (by simp; omega)
  have HE : Hid (fnB n = [119, 46] ++ Lib.itoa n) := rfl
  rw [HE.out]
  clear HE hl hG
  have e1 : (⟨#[119, 46]⟩ : ByteArray) = ⟨[119, 46].toArray⟩ := rfl
  generalize [119, 46] ++ Lib.itoa n = Z at *
  generalize Lib.itoa n = Y at *
  go_enter Tryz.func103, Tryz.ntmps103
  go_wp2_with fail
  refine I.out.mono ?_
  rintro e w1 ⟨rfl, b1⟩
  go_wp2
  go_ret
  exact ⟨rfl, b1⟩
theorem trimp_any (s : List UInt8) (w : World) : Calls Tryz.prog 166 #[.string ⟨s.toArray⟩, .string ⟨#[119, 46]⟩] w fun e w' => e = .returned (.string ⟨(Lib.trimPrefix s [119, 46]).toArray⟩) ∧ w' = w := by
  have := Any.strings_TrimPrefix trimpLaid ⟨s.toArray⟩ ⟨#[119, 46]⟩ w
  have h : Calls Tryz.prog (trimpLaid_ren.f 101) #[.string ⟨s.toArray⟩, .string ⟨#[119, 46]⟩] w fun e w' => e = .returned (.string ⟨(Lib.trimPrefix s [119, 46]).toArray⟩) ∧ w' = w := by simpa using this
  exact h
theorem trimp_len (s p : List UInt8) : (Lib.trimPrefix s p).length ≤ s.length := by
  unfold Lib.trimPrefix
  split
  · rw [List.length_drop]; omega
  · exact Nat.le_refl _
/-- strconv.Atoi of a name's end -/
theorem atoi_any (l : List UInt8) (w : World) (hl : l.length ≤ 1048576) (hG : GV w) : Calls Tryz.prog 165 #[.string ⟨l.toArray⟩] w fun e w' => (∃ x y, e = .returned (.tuple #[.int .i64 x, y]) ∧ ((∃ v, Lib.atoiAll l = .ok v ∧ x = v ∧ y = .nilIface) ∨ (∃ N t, (∀ v, Lib.atoiAll l ≠ .ok v) ∧ y = .iface t (.pointer (some ⟨N, 0, none⟩))))) ∧ Below w.heap.size w w' := by
  have hz : (⟨l.toArray⟩ : ByteArray).size = l.length := by show l.toArray.size = _; simp
  have hd : (⟨l.toArray⟩ : ByteArray).data.toList = l := rfl
  rcases hA : Lib.atoiAll l with v | _ | _
  · refine (Any.strconv_Atoi_ok atoiLaid ⟨l.toArray⟩ (by rw [hz]; omega) v (by rw [hd]; exact hA) w).mono fun e w' ⟨he, hw⟩ => ⟨⟨_, _, he, .inl ⟨v, rfl, rfl, rfl⟩⟩, ?_⟩
    rcases hw with rfl | ⟨t, rfl⟩
    · exact Below.refl _ _
    · exact Lib.bytesWorld_below _ _ _
  · obtain ⟨tp, p, hv⟩ := hG.es
    exact (Any.strconv_Atoi_syntax_var atoiLaid ⟨l.toArray⟩ (by rw [hz]; omega) (by rw [hd]; exact hA) tp p w hv).mono fun e w' ⟨N, he, _, _, hb⟩ => ⟨⟨_, _, he, .inr ⟨N, _, (fun v hv => by cases hv), rfl⟩⟩, hb⟩
  · obtain ⟨tp, p, hv⟩ := hG.er
    exact (Any.strconv_Atoi_range_var atoiLaid ⟨l.toArray⟩ (by rw [hz]; omega) (by rw [hd]; exact hA) tp p w hv).mono fun e w' ⟨N, he, _, _, hb⟩ => ⟨⟨_, _, he, .inr ⟨N, _, (fun v hv => by cases hv), rfl⟩⟩, hb⟩
set_option maxRecDepth 100000 in
set_option maxHeartbeats 800000 in
theorem numberOf_any (s : List UInt8) (w : World) (hs : s.length ≤ 1048576) (hG : GV w) : Calls Tryz.prog 140 #[.string ⟨s.toArray⟩] w fun e w' => e = .returned (.tuple #[.int .i64 (nbO s).1, .bool (nbO s).2]) ∧ Below w.heap.size w w' := by
  have T := hid (trimp_any s w)
  have A := hid (atoi_any (Lib.trimPrefix s [119, 46]) w (Nat.le_trans (trimp_len _ _) hs) hG)
  have HG := hid hG
  have FO : Hid (∀ v W, 1 ≤ v → v ≤ 4611686018427387903 → GV W → Calls Tryz.prog 103 #[.int .i64 v] W fun e w' => e = .returned (.string ⟨(fnB v).toArray⟩) ∧ Below W.heap.size W w') := fun v W h0 h1 h => fileOf_any v W (by omega) (by omega) h
  have ES : Hid ((⟨s.toArray⟩ : ByteArray).toList = s) := by show _ = _; rw [ByteArray.toList_eq]
  have HN : Hid (nbO s = (match Lib.atoiAll (Lib.trimPrefix s [119, 46]) with | .ok v => if 1 ≤ v ∧ v ≤ 4611686018427387903 then (v, fnB v == s) else (0, false) | _ => (0, false))) := rfl
  clear hs hG
  generalize nbO s = R at *
  generalize Lib.trimPrefix s [119, 46] = L at *
  generalize (⟨s.toArray⟩ : ByteArray) = SS at *
  go_enter Tryz.func140, Tryz.ntmps140
  go_wp2_with fail
  refine T.out.mono ?_
  rintro e w1 ⟨rfl, rfl⟩
  clear T
  go_wp2_with fail
  refine A.out.mono ?_
  rintro e w2 ⟨⟨x, y, rfl, hxy⟩, b2⟩
  have B2 := hid b2
  clear A b2
  rcases hxy with ⟨v, hv, rfl, rfl⟩ | ⟨N, t, hn, rfl⟩
  · have HR := hid (HN.out.trans (by rw [hv]))
    clear HN hv
    by_cases h1 : 1 ≤ x
    · by_cases h2 : x ≤ 4611686018427387903
      · have HR2 := hid (HR.out.trans (if_pos ⟨h1, h2⟩))
        clear HR
        have d1 : decide (x < 1) = false := decide_eq_false (by omega)
        have d2 : decide (x > 4611686018427387903) = false := decide_eq_false (by omega)
        have FOx := hid (FO.out x w2 h1 h2 (HG.out.next B2.out))
        clear FO HG h1 h2
        go_wp2_with fail
        refine FOx.out.mono ?_
        rintro e w3 ⟨rfl, b3⟩
        have B3 := hid (below_on B2.out b3)
        clear b3
        go_wp2
        go_ret2
        rw [HR2.out, ← ES.out]
        exact ⟨rfl, B3.out⟩
      · have HR2 := hid (HR.out.trans (if_neg (fun h => h2 h.2)))
        have d1 : decide (x < 1) = false := decide_eq_false (by omega)
        have d2 : decide (x > 4611686018427387903) = true := decide_eq_true (by omega)
        clear HR FO HG h1 h2
        go_wp2
        go_ret2
        rw [HR2.out]
        exact ⟨rfl, B2.out⟩
    · have HR2 := hid (HR.out.trans (if_neg (fun h => h1 h.1)))
      have d1 : decide (x < 1) = true := decide_eq_true (by omega)
      clear HR FO HG h1
      go_wp2
      go_ret2
      rw [HR2.out]
      exact ⟨rfl, B2.out⟩
  · have HR2 : Hid (R = (0, false)) := by
      show _ = _
      rw [HN.out]
      split
      · rename_i v hv; exact absurd hv (hn v)
      · rfl
    clear HN hn FO HG
    go_wp2
    go_ret2
    rw [HR2.out]
    exact ⟨rfl, B2.out⟩
end Go.Proofs.YtefbioainibmaaaGreatDoor
namespace Go.Proofs.YtefbioainibmaaaGreatDoor
open Go.RowKit Go.Maps
set_option linter.unusedVariables false
set_option linter.unusedSimpArgs false

/-- a segment as a value, as cells -/
def sgV (n ix tm : Int) (ve vp : Value) : Value := .agg #[.int .i64 n, .int .i64 ix, .int .i64 tm, ve, vp]
def sgC (n ix tm : Int) (ve vp : Value) : List Value := [.int .i64 n, .int .i64 ix, .int .i64 tm, ve, vp]
/-- where a segment ends: its term -/
def enT (tm : Int) (es : List En) : Int := ((es.getLast?).map En.tm).getD tm

set_option maxRecDepth 100000 in
set_option maxHeartbeats 1000000 in
theorem sgsize_any (n ix tm : Int) (ve vp : Value) (ps : List Int) (w : World) (hp : IntsI w vp ps) (h0 : 0 < ps.length) (h1 : ps.length ≤ 1048576) : Calls Tryz.prog 105 #[sgV n ix tm ve vp] w fun e w' => e = .returned (.int .i64 (ps.getLastD 0)) ∧ Below w.heap.size w w' := by
  have hB : Below w.heap.size w (w.alloc (.cells #[.int .i64 n, .int .i64 ix, .int .i64 tm, ve, vp] 126)) := below_al (Below.refl _ _) _
  obtain ⟨ad, cap, rfl, hc⟩ := hp.form
  obtain ⟨m, hm⟩ : ∃ m, ps.length = m + 1 := ⟨ps.length - 1, by omega⟩
  obtain ⟨b, off, rfl, hb, hc1⟩ := hc m (by omega)
  have hl : ps.getLastD 0 = ps[m] := by
    cases ps with
    | nil => simp at h0
    | cons a r => simp at hm; subst hm; simp [List.getLastD, List.getLast_eq_getElem]
  rw [hl]
  have hc2 := (hB.cell (p := ⟨b, off + m, none⟩) hb).trans hc1
  have hm1 : (m : Int) + 1 ≤ 1048576 := by omega
  clear hc hc1 hl h0 h1 hp
  generalize ps[m] = x at *
  generalize ps.length = L at *
  subst hm
  have HB := hid hB
  clear hB
  unfold sgV
  go_enter Tryz.func105, Tryz.ntmps105
  go_wp2
  go_ret
  exact ⟨rfl, HB.out⟩
set_option maxRecDepth 100000 in
set_option maxHeartbeats 1000000 in
theorem sgend_any (n ix tm : Int) (ve vp : Value) (es : List En) (w : World) (he : EntI w ve es) (h0 : 0 ≤ ix) (h1 : ix ≤ 4611686018427387904) (h2 : es.length ≤ 1048576) : Calls Tryz.prog 64 #[sgV n ix tm ve vp] w fun e w' => e = .returned (.tuple #[.int .i64 (ix + es.length), .int .i64 (enT tm es)]) ∧ Below w.heap.size w w' := by
  have hB : Below w.heap.size w (w.alloc (.cells #[.int .i64 n, .int .i64 ix, .int .i64 tm, ve, vp] 126)) := below_al (Below.refl _ _) _
  obtain ⟨ad, cap, rfl, hc⟩ := he.form
  by_cases hz : es.length = 0
  · have hx : es = [] := List.length_eq_zero_iff.1 hz
    subst hx
    have HB := hid hB
    have hx : ix + (([] : List En).length : Int) = ix := by simp
    rw [hx]
    clear hB hc he hz hx
    unfold sgV
    go_enter Tryz.func64, Tryz.ntmps64
    go_wp2
    go_quiet (fail)
    go_wp2
    go_ret2
    exact ⟨rfl, below_drewN HB.out nq⟩
  · obtain ⟨m, hm⟩ : ∃ m, es.length = m + 1 := ⟨es.length - 1, by omega⟩
    obtain ⟨b, off, rfl, hb, hc1, -, -⟩ := hc m (by omega)
    have hl : enT tm es = es[m].tm := by
      unfold enT
      rw [List.getLast?_eq_getElem?, show es.length - 1 = m by omega, List.getElem?_eq_getElem (by omega)]
      rfl
    rw [hl]
    have hc2 := (hB.cell (p := ⟨b, off + m * 3, none⟩) hb).trans hc1
    have hm1 : (es.length : Int) - 1 = (m : Int) := by omega
    have hm2 : ((es.length : Int) == 0) = false := beq_eq_false_iff_ne.2 (by omega)
    have hm3 : (m : Int) < (es.length : Int) := by omega
    have hm4 : m < es.length := by omega
    have hm5 : (0 : Int) ≤ (m : Int) := by omega
    have hm6 : (es.length : Int) ≤ 1048576 := by omega
    clear hc hc1 hl he hz
    generalize es[m].tm = x at *
    generalize es.length = L at *
    clear hm h2
    have HB := hid hB
    clear hB
    unfold sgV
    go_enter Tryz.func64, Tryz.ntmps64
    go_wp2
    go_quiet (fail)
    go_wp2
    go_ret2
    exact ⟨rfl, below_drewN HB.out nq⟩
set_option maxRecDepth 100000 in
set_option maxHeartbeats 1000000 in
theorem sgfile_any (n ix tm : Int) (ve vp : Value) (w : World) (h0 : 0 ≤ n) (h1 : n ≤ 9223372036854775807) (hG : GV w) : Calls Tryz.prog 123 #[sgV n ix tm ve vp] w fun e w' => e = .returned (.string ⟨(fnB n).toArray⟩) ∧ Below w.heap.size w w' := by
  have hB : Below w.heap.size w (w.alloc (.cells #[.int .i64 n, .int .i64 ix, .int .i64 tm, ve, vp] 126)) := below_al (Below.refl _ _) _
  have FO := hid (fileOf_any n _ (by omega) h1 (hG.next hB))
  have HB := hid hB
  clear hB hG
  unfold sgV
  go_enter Tryz.func123, Tryz.ntmps123
  go_wp2_with fail
  refine FO.out.mono ?_
  rintro e w1 ⟨rfl, b1⟩
  have B1 := hid (below_on HB.out b1)
  clear b1
  go_wp2
  go_ret
  exact ⟨rfl, B1.out⟩
end Go.Proofs.YtefbioainibmaaaGreatDoor
