/- The byte that a text says first. -/
import Derived.Test.YtnohkhgoejjfhaaDoorPeE
import Derived.OwnWalk
import Derived.Deep.RegionHeld3
namespace Go.Proofs.YtnohkhgoejjfhaaDoor
open Go.RowKit
set_option linter.unusedVariables false
set_option linter.unusedSimpArgs false

/-- the byte that a text says first, and how many bytes say it -/
def stE (raw : UInt8 → Option UInt8) : List UInt8 → Option (UInt8 × Nat)
  | [] => none
  | c :: r =>
    if c.toNat = 37 then
      match r with
      | a :: b :: _ => if sxN a.toNat < 0 ∨ sxN b.toNat < 0 then none else some (byS a b, 3)
      | _ => none
    else (raw c).map (·, 1)
theorem stE_raw (raw : UInt8 → Option UInt8) (c : UInt8) (r : List UInt8) (h : ¬ c.toNat = 37) : stE raw (c :: r) = (raw c).map (·, 1) := by
  show (if c.toNat = 37 then _ else _) = _
  rw [if_neg h]
theorem stE_esc (raw : UInt8 → Option UInt8) (c a b : UInt8) (r : List UInt8) (h : c.toNat = 37) : stE raw (c :: a :: b :: r) = if sxN a.toNat < 0 ∨ sxN b.toNat < 0 then none else some (byS a b, 3) := by
  show (if c.toNat = 37 then _ else _) = _
  rw [if_pos h]
theorem stE_cut1 (raw : UInt8 → Option UInt8) (c : UInt8) (h : c.toNat = 37) : stE raw [c] = none := by
  show (if c.toNat = 37 then _ else _) = _
  rw [if_pos h]
theorem stE_cut2 (raw : UInt8 → Option UInt8) (c a : UInt8) (h : c.toNat = 37) : stE raw [c, a] = none := by
  show (if c.toNat = 37 then _ else _) = _
  rw [if_pos h]
theorem rdE_st (raw : UInt8 → Option UInt8) (c : UInt8) (r : List UInt8) : rdE raw (c :: r) = match stE raw (c :: r) with | none => none | some p => (rdE raw ((c :: r).drop p.2)).map (p.1 :: ·) := by
  by_cases h : c.toNat = 37
  · rcases r with _ | ⟨a, _ | ⟨b, r⟩⟩
    · rw [rdE_cut1 raw c h, stE_cut1 raw c h]
    · rw [rdE_cut2 raw c a h, stE_cut2 raw c a h]
    · rw [rdE_esc raw c a b r h, stE_esc raw c a b r h]
      by_cases g : sxN a.toNat < 0 ∨ sxN b.toNat < 0
      · simp only [if_pos g]
      · simp only [if_neg g]; rfl
  · rw [rdE_raw raw c r h, stE_raw raw c r h]
    cases raw c with
    | none => rfl
    | some d => rfl
/-- how a text begins -/
theorem bytes_cases (t : ByteArray) (h0 : 0 < t.size) : (t.size = 1 ∧ t.data.toList = [t[0]]) ∨ (∃ h1 : 1 < t.size, t.size = 2 ∧ t.data.toList = [t[0], t[1]]) ∨ ∃ (h2 : 2 < t.size) (r : List UInt8), t.data.toList = t[0] :: t[1] :: t[2] :: r := by
  obtain ⟨⟨l⟩⟩ := t
  rcases l with _ | ⟨a, _ | ⟨b, _ | ⟨c, r⟩⟩⟩
  · exact absurd h0 (Nat.lt_irrefl 0)
  · exact .inl ⟨rfl, rfl⟩
  · exact .inr (.inl ⟨by show 1 < 2; omega, rfl, rfl⟩)
  · exact .inr (.inr ⟨by show 2 < r.length + 1 + 1 + 1; omega, r, rfl⟩)
theorem bytes_head (t : ByteArray) (h0 : 0 < t.size) : ∃ r, t.data.toList = t[0] :: r := by
  obtain ⟨⟨l⟩⟩ := t
  rcases l with _ | ⟨a, r⟩
  · exact absurd h0 (Nat.lt_irrefl 0)
  · exact ⟨r, rfl⟩
theorem orF : ∀ h l : Fin 16, bits .or .i64 (16 * (h.val : Int)) (l.val : Int) = 16 * (h.val : Int) + (l.val : Int) := by decide
theorem orP (h l : Int) (h0 : 0 ≤ h) (h1 : h < 16) (l0 : 0 ≤ l) (l1 : l < 16) : bits .or .i64 (h * 16) l = h * 16 + l := by
  have := orF ⟨h.toNat, by omega⟩ ⟨l.toNat, by omega⟩
  rw [show ((⟨h.toNat, by omega⟩ : Fin 16).val : Int) = h by show (h.toNat : Int) = h; omega, show ((⟨l.toNat, by omega⟩ : Fin 16).val : Int) = l by show (l.toNat : Int) = l; omega] at this
  rw [show h * 16 = 16 * h by omega]; exact this
theorem byS_is (a b : UInt8) (ha : ¬ sxN a.toNat < 0) (hb : ¬ sxN b.toNat < 0) : ((byS a b).toNat : Int) = sxN a.toNat * 16 + sxN b.toNat := by
  have h1 := sx_lt a.toNat
  have h2 := sx_lt b.toNat
  unfold byS
  generalize sxN a.toNat = x at *
  generalize sxN b.toNat = y at *
  rw [UInt8.toNat_ofNat']
  omega
/-- what byteAt answers -/
def AtE (r : Option (UInt8 × Nat)) (y n : Int) (ok : Bool) : Prop := match r with
  | none => ok = false
  | some p => ok = true ∧ y = (p.1.toNat : Int) ∧ n = (p.2 : Int)

set_option maxRecDepth 100000 in
set_option maxHeartbeats 2000000 in
theorem byteAt_path (t : ByteArray) (w : World) (h0 : 0 < t.size) : Calls Tryd.prog 38 #[.string t, .func (.func 24) #[] #[]] w fun e w' => (∃ (y n : Int) (ok : Bool), e = .returned (.tuple #[.int .u8 y, .int .i64 n, .bool ok]) ∧ AtE (stE rwP t.data.toList) y n ok) ∧ Below w.heap.size w w' := by
  have hcf := enters_of Tryd.func24 (by kernel_rfl) rfl
  have g0 : (0 : Int) < (t.size : Int) := by omega
  by_cases h : t[0].toNat = 37
  · rcases bytes_cases t h0 with ⟨hs, e⟩ | ⟨h1, hs, e⟩ | ⟨h2, r, e⟩
    · have HA : Hid (AtE (stE rwP t.data.toList) 0 0 false) := by show AtE _ _ _ _; rw [e, stE_cut1 _ _ h]; rfl
      have hn : ((t[0].toNat : Int) != 37) = false := by rw [h]; rfl
      have hl : (t.size : Int) < 3 := by omega
      generalize hc : t[0] = c at *
      clear h e hs
      go_enter Tryd.func38, Tryd.ntmps38
      go_wp2
      go_ret3
      exact ⟨⟨_, _, _, rfl, HA.out⟩, Below.refl _ _⟩
    · have HA : Hid (AtE (stE rwP t.data.toList) 0 0 false) := by show AtE _ _ _ _; rw [e, stE_cut2 _ _ _ h]; rfl
      have hn : ((t[0].toNat : Int) != 37) = false := by rw [h]; rfl
      have hl : (t.size : Int) < 3 := by omega
      generalize hc : t[0] = c at *
      clear h e hs
      go_enter Tryd.func38, Tryd.ntmps38
      go_wp2
      go_ret3
      exact ⟨⟨_, _, _, rfl, HA.out⟩, Below.refl _ _⟩
    · have HE : Hid (stE rwP t.data.toList = if sxN t[1].toNat < 0 ∨ sxN t[2].toNat < 0 then none else some (byS t[1] t[2], 3)) := by show _ = _; rw [e, stE_esc _ _ _ _ _ h]
      have HY := hid (byS_is t[1] t[2])
      have hn : ((t[0].toNat : Int) != 37) = false := by rw [h]; rfl
      have hl : ¬ (t.size : Int) < 3 := by omega
      have g1 : (1 : Int) < (t.size : Int) := by omega
      have g2 : (2 : Int) < (t.size : Int) := by omega
      have S1 := hid (fun W => sixteen_any t[1] W)
      have S2 := hid (fun W => sixteen_any t[2] W)
      have x1 := sx_lt t[1].toNat
      have x2 := sx_lt t[2].toNat
      generalize byS t[1] t[2] = y at *
      generalize hc : t[0] = c at *
      generalize hc1 : t[1] = c1 at *
      generalize hc2 : t[2] = c2 at *
      generalize sxN c1.toNat = p at *
      generalize sxN c2.toNat = q at *
      clear h e
      by_cases hp : p < 0
      · have HA : Hid (stE rwP t.data.toList = none) := by show _ = _; rw [HE.out, if_pos (.inl hp)]
        have hp2 : decide (0 ≤ p) = false := decide_eq_false (by omega)
        clear HE HY
        go_enter Tryd.func38, Tryd.ntmps38
        go_wp2
        go_region_held3 (fun w' => True) (trivial) (first | (go_at_call 53; with_reducible (refine (S1.out _).mono ?_); rintro e w1 ⟨rfl, rfl⟩) | (go_at_call 53; with_reducible (refine (S2.out _).mono ?_); rintro e w2 ⟨rfl, rfl⟩))
        all_goals
          go_wp2
          go_ret3
          exact ⟨⟨_, _, _, rfl, by rw [HA.out]; rfl⟩, (Below.refl _ _).drew⟩
      · have hp2 : decide (0 ≤ p) = true := decide_eq_true (by omega)
        have hp3 : 0 ≤ p := by omega
        by_cases hq : q < 0
        · have HA : Hid (stE rwP t.data.toList = none) := by show _ = _; rw [HE.out, if_pos (.inr hq)]
          have hq2 : decide (0 ≤ q) = false := decide_eq_false (by omega)
          clear HE HY
          go_enter Tryd.func38, Tryd.ntmps38
          go_wp2
          go_region_held3 (fun w' => True) (trivial) (first | (go_at_call 53; with_reducible (refine (S1.out _).mono ?_); rintro e w1 ⟨rfl, rfl⟩) | (go_at_call 53; with_reducible (refine (S2.out _).mono ?_); rintro e w2 ⟨rfl, rfl⟩))
          all_goals
            go_wp2
            go_ret3
            exact ⟨⟨_, _, _, rfl, by rw [HA.out]; rfl⟩, (Below.refl _ _).drew⟩
        · have HA : Hid (stE rwP t.data.toList = some (y, 3)) := by show _ = _; rw [HE.out, if_neg (by omega)]
          have hq2 : decide (0 ≤ q) = true := decide_eq_true (by omega)
          have hq3 : 0 ≤ q := by omega
          have hy := HY.out hp hq
          have HV : Hid (IntKind.u8.wrap (bits .or .i64 (p * 16) q) = (y.toNat : Int)) := by show _ = _; rw [orP p q hp3 x1 hq3 x2, hy, IntKind.wrap_u8]; omega
          have hw : IntKind.i64.wrap (p * 16) = p * 16 := by rw [IntKind.wrap_i64]; omega
          clear HE HY hy
          go_enter Tryd.func38, Tryd.ntmps38
          go_wp2
          go_region_held3 (fun w' => True) (trivial) (first | (go_at_call 53; with_reducible (refine (S1.out _).mono ?_); rintro e w1 ⟨rfl, rfl⟩) | (go_at_call 53; with_reducible (refine (S2.out _).mono ?_); rintro e w2 ⟨rfl, rfl⟩))
          all_goals
            go_wp2
            go_ret3
            exact ⟨⟨_, _, _, rfl, by rw [HA.out]; exact ⟨by simp [hq2], HV.out, rfl⟩⟩, (Below.refl _ _).drew⟩
  · have hn : ((t[0].toNat : Int) != 37) = true := by rw [bne_iff_ne]; omega
    have HQ := hid (unpath1_any t[0] w)
    obtain ⟨r, e⟩ := bytes_head t h0
    have HA : Hid (stE rwP t.data.toList = (rwP t[0]).map (·, 1)) := by show _ = _; rw [e, stE_raw _ _ _ h]
    generalize hc : t[0] = c at *
    generalize rwP c = q at *
    clear h e
    go_enter Tryd.func38, Tryd.ntmps38
    go_wp2_with fail
    refine HQ.out.mono ?_
    rintro e w1 ⟨d, b, rfl, rfl, rfl⟩
    clear HQ
    go_wp2
    go_ret3
    exact ⟨⟨_, _, _, rfl, by rw [HA.out]; cases b <;> simp [AtE]⟩, Below.refl _ _⟩

set_option maxRecDepth 100000 in
set_option maxHeartbeats 2000000 in
theorem byteAt_query (t : ByteArray) (w : World) (h0 : 0 < t.size) : Calls Tryd.prog 38 #[.string t, .func (.func 51) #[] #[]] w fun e w' => (∃ (y n : Int) (ok : Bool), e = .returned (.tuple #[.int .u8 y, .int .i64 n, .bool ok]) ∧ AtE (stE rwQ t.data.toList) y n ok) ∧ Below w.heap.size w w' := by
  have hcf := enters_of Tryd.func51 (by kernel_rfl) rfl
  have g0 : (0 : Int) < (t.size : Int) := by omega
  by_cases h : t[0].toNat = 37
  · rcases bytes_cases t h0 with ⟨hs, e⟩ | ⟨h1, hs, e⟩ | ⟨h2, r, e⟩
    · have HA : Hid (AtE (stE rwQ t.data.toList) 0 0 false) := by show AtE _ _ _ _; rw [e, stE_cut1 _ _ h]; rfl
      have hn : ((t[0].toNat : Int) != 37) = false := by rw [h]; rfl
      have hl : (t.size : Int) < 3 := by omega
      generalize hc : t[0] = c at *
      clear h e hs
      go_enter Tryd.func38, Tryd.ntmps38
      go_wp2
      go_ret3
      exact ⟨⟨_, _, _, rfl, HA.out⟩, Below.refl _ _⟩
    · have HA : Hid (AtE (stE rwQ t.data.toList) 0 0 false) := by show AtE _ _ _ _; rw [e, stE_cut2 _ _ _ h]; rfl
      have hn : ((t[0].toNat : Int) != 37) = false := by rw [h]; rfl
      have hl : (t.size : Int) < 3 := by omega
      generalize hc : t[0] = c at *
      clear h e hs
      go_enter Tryd.func38, Tryd.ntmps38
      go_wp2
      go_ret3
      exact ⟨⟨_, _, _, rfl, HA.out⟩, Below.refl _ _⟩
    · have HE : Hid (stE rwQ t.data.toList = if sxN t[1].toNat < 0 ∨ sxN t[2].toNat < 0 then none else some (byS t[1] t[2], 3)) := by show _ = _; rw [e, stE_esc _ _ _ _ _ h]
      have HY := hid (byS_is t[1] t[2])
      have hn : ((t[0].toNat : Int) != 37) = false := by rw [h]; rfl
      have hl : ¬ (t.size : Int) < 3 := by omega
      have g1 : (1 : Int) < (t.size : Int) := by omega
      have g2 : (2 : Int) < (t.size : Int) := by omega
      have S1 := hid (fun W => sixteen_any t[1] W)
      have S2 := hid (fun W => sixteen_any t[2] W)
      have x1 := sx_lt t[1].toNat
      have x2 := sx_lt t[2].toNat
      generalize byS t[1] t[2] = y at *
      generalize hc : t[0] = c at *
      generalize hc1 : t[1] = c1 at *
      generalize hc2 : t[2] = c2 at *
      generalize sxN c1.toNat = p at *
      generalize sxN c2.toNat = q at *
      clear h e
      by_cases hp : p < 0
      · have HA : Hid (stE rwQ t.data.toList = none) := by show _ = _; rw [HE.out, if_pos (.inl hp)]
        have hp2 : decide (0 ≤ p) = false := decide_eq_false (by omega)
        clear HE HY
        go_enter Tryd.func38, Tryd.ntmps38
        go_wp2
        go_region_held3 (fun w' => True) (trivial) (first | (go_at_call 53; with_reducible (refine (S1.out _).mono ?_); rintro e w1 ⟨rfl, rfl⟩) | (go_at_call 53; with_reducible (refine (S2.out _).mono ?_); rintro e w2 ⟨rfl, rfl⟩))
        all_goals
          go_wp2
          go_ret3
          exact ⟨⟨_, _, _, rfl, by rw [HA.out]; rfl⟩, (Below.refl _ _).drew⟩
      · have hp2 : decide (0 ≤ p) = true := decide_eq_true (by omega)
        have hp3 : 0 ≤ p := by omega
        by_cases hq : q < 0
        · have HA : Hid (stE rwQ t.data.toList = none) := by show _ = _; rw [HE.out, if_pos (.inr hq)]
          have hq2 : decide (0 ≤ q) = false := decide_eq_false (by omega)
          clear HE HY
          go_enter Tryd.func38, Tryd.ntmps38
          go_wp2
          go_region_held3 (fun w' => True) (trivial) (first | (go_at_call 53; with_reducible (refine (S1.out _).mono ?_); rintro e w1 ⟨rfl, rfl⟩) | (go_at_call 53; with_reducible (refine (S2.out _).mono ?_); rintro e w2 ⟨rfl, rfl⟩))
          all_goals
            go_wp2
            go_ret3
            exact ⟨⟨_, _, _, rfl, by rw [HA.out]; rfl⟩, (Below.refl _ _).drew⟩
        · have HA : Hid (stE rwQ t.data.toList = some (y, 3)) := by show _ = _; rw [HE.out, if_neg (by omega)]
          have hq2 : decide (0 ≤ q) = true := decide_eq_true (by omega)
          have hq3 : 0 ≤ q := by omega
          have hy := HY.out hp hq
          have HV : Hid (IntKind.u8.wrap (bits .or .i64 (p * 16) q) = (y.toNat : Int)) := by show _ = _; rw [orP p q hp3 x1 hq3 x2, hy, IntKind.wrap_u8]; omega
          have hw : IntKind.i64.wrap (p * 16) = p * 16 := by rw [IntKind.wrap_i64]; omega
          clear HE HY hy
          go_enter Tryd.func38, Tryd.ntmps38
          go_wp2
          go_region_held3 (fun w' => True) (trivial) (first | (go_at_call 53; with_reducible (refine (S1.out _).mono ?_); rintro e w1 ⟨rfl, rfl⟩) | (go_at_call 53; with_reducible (refine (S2.out _).mono ?_); rintro e w2 ⟨rfl, rfl⟩))
          all_goals
            go_wp2
            go_ret3
            exact ⟨⟨_, _, _, rfl, by rw [HA.out]; exact ⟨by simp [hq2], HV.out, rfl⟩⟩, (Below.refl _ _).drew⟩
  · have hn : ((t[0].toNat : Int) != 37) = true := by rw [bne_iff_ne]; omega
    have HQ := hid (queryByte_any t[0] w)
    obtain ⟨r, e⟩ := bytes_head t h0
    have HA : Hid (stE rwQ t.data.toList = (rwQ t[0]).map (·, 1)) := by show _ = _; rw [e, stE_raw _ _ _ h]
    generalize hc : t[0] = c at *
    generalize rwQ c = q at *
    clear h e
    go_enter Tryd.func38, Tryd.ntmps38
    go_wp2_with fail
    refine HQ.out.mono ?_
    rintro e w1 ⟨d, b, rfl, rfl, rfl⟩
    clear HQ
    go_wp2
    go_ret3
    exact ⟨⟨_, _, _, rfl, by rw [HA.out]; cases b <;> simp [AtE]⟩, Below.refl _ _⟩
end Go.Proofs.YtnohkhgoejjfhaaDoor
