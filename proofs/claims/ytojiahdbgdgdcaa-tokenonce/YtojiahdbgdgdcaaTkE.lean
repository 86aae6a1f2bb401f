/- What a token is: the program's Look. -/
import Derived.Test.YtojiahdbgdgdcaaTkD
namespace Go.Proofs.Ytojiahdbgdgdcaa
open Go.RowKit Go.Maps
set_option linter.unusedVariables false
set_option linter.unusedSimpArgs false

/-- what is kept of a token -/
def findH (l : List Hd) (t : ByteArray) : Option Hd := l.find? (fun h => decide (h.tk = t))
def fdN (s : ByteArray) : Option Hd → Int
  | none => 0
  | some h => if h.su = s then 1 else 2
def fdS (s : ByteArray) : Option Hd → ByteArray
  | none => ⟨#[]⟩
  | some h => if h.su = s then h.ou else ⟨#[]⟩
def lookN (l : List Hd) (t s : ByteArray) : Int := if isTb l = true then fdN s (findH l t) else 2
def lookS (l : List Hd) (t s : ByteArray) : ByteArray := if isTb l = true then fdS s (findH l t) else ⟨#[]⟩
theorem findH_none {l : List Hd} {t : ByteArray} (h : hasH l t = false) : findH l t = none := by
  unfold hasH at h
  unfold findH
  rw [List.find?_eq_none]
  intro x hx
  have := List.any_eq_false.1 h x hx
  exact this
theorem plH_has {l : List Hd} {t : ByteArray} (hs : l.Pairwise (fun a b => bb a.tk b.tk = true)) (h : hasH l t = true) : ∃ (k : plH l t < l.length), findH l t = some l[plH l t] ∧ l[plH l t].tk = t := by
  unfold hasH at h
  obtain ⟨x, hx, he⟩ := List.any_eq_true.1 h
  simp only [decide_eq_true_eq] at he
  obtain ⟨j, hj, rfl⟩ := List.getElem_of_mem hx
  have hp : plH l t = j := plH_at l t j (Nat.le_of_lt hj) (fun i hi hij => by rw [← he]; exact List.pairwise_iff_getElem.1 hs i j hi hj hij) (fun i hi hij => by
    rcases Nat.lt_or_eq_of_le hij with h2 | h2
    · rw [← he]; exact bb_asymm (List.pairwise_iff_getElem.1 hs j i hj hi h2)
    · subst h2; rw [he, bb_irrefl])
  refine ⟨by omega, ?_, ?_⟩
  · unfold findH
    rw [List.find?_eq_some_iff_getElem]
    refine ⟨by simp [hp, he], j, hj, by simp [hp], fun i hi => ?_⟩
    have := bb_ne (List.pairwise_iff_getElem.1 hs i j (by omega) hj hi)
    rw [he] at this
    simpa using this
  · simp [hp, he]
set_option maxRecDepth 100000 in
set_option maxHeartbeats 2000000 in
theorem look15_any (v : Value) (q : List Hd) (t s : ByteArray) (w : World) (hv : HdI w v q) : Calls Try.prog 8 #[v, .string t, .string s] w fun e w' => e = .returned (.tuple #[.int .i64 (lookN q t s), .string (lookS q t s)]) ∧ Below w.heap.size w w' := by
  obtain ⟨ad, cap, rfl, hc⟩ := hv.form
  have HC := hid hc
  have IT := hid (isTable_any _ q w hv)
  have PL : Hid (∀ W, Below w.heap.size w W → isTb q = true → Calls Try.prog 22 #[.slice ad q.length cap, .string t] W fun e w' => e = .returned (.tuple #[.int .i64 (plH q t : Nat), .bool (hasH q t)]) ∧ Below W.heap.size W w') := fun W hW h => place15_any _ q t W (hv.next hW) (isTb_rise h) (isTb_len h)
  have HN : Hid (lookN q t s = if isTb q = true then fdN s (findH q t) else 2) := rfl
  have HS : Hid (lookS q t s = if isTb q = true then fdS s (findH q t) else ⟨#[]⟩) := rfl
  have HF0 : Hid (hasH q t = false → findH q t = none) := findH_none
  have HF1 : Hid (isTb q = true → hasH q t = true → ∃ (k : plH q t < q.length), findH q t = some q[plH q t] ∧ q[plH q t].tk = t) := fun h h2 => plH_has (isTb_rise h) h2
  have HOU : Hid (isTb q = true → ∀ k (h : k < q.length), q[k].ou.size ≤ 4096) := fun h k hk => (hdOk_sz (isTb_all h _ (List.getElem_mem hk))).2.2.1
  have HLN : Hid (isTb q = true → q.length ≤ 64) := isTb_len
  generalize lookN q t s = RN at *
  generalize lookS q t s = RS at *
  generalize isTb q = IS at *
  generalize hasH q t = HB at *
  generalize findH q t = FO at *
  generalize plH q t = PN at *
  clear hc hv
  go_enter Try.func8, Try.ntmps8
  go_wp2_with fail
  refine IT.out.mono ?_
  rintro e w1 ⟨rfl, b1⟩
  have B1 := hid b1
  clear IT b1
  cases IS
  · have hn : RN = 2 := HN.out
    have hs : RS = ⟨#[]⟩ := HS.out
    subst hn hs
    clear HC PL HN HS HF0 HF1 HOU HLN
    go_wp2
    go_ret2
    exact ⟨rfl, B1.out⟩
  · have HN2 : Hid (RN = fdN s FO) := HN.out
    have HS2 : Hid (RS = fdS s FO) := HS.out
    have PL2 := hid (PL.out w1 B1.out rfl)
    have HL := hid (HLN.out rfl)
    have HF2 := hid (HF1.out rfl)
    have HO2 := hid (HOU.out rfl)
    clear HN HS HLN PL HF1 HOU
    go_wp2_with fail
    refine PL2.out.mono ?_
    rintro e w2 ⟨rfl, b2⟩
    have B2 := hid (below_on B1.out b2)
    clear PL2 b2 B1
    cases HB
    · have hf := HF0.out rfl
      subst hf
      have hn : RN = 0 := HN2.out
      have hs : RS = ⟨#[]⟩ := HS2.out
      subst hn hs
      clear HC HN2 HS2 HF0 HF2 HO2
      go_wp2
      go_ret2
      exact ⟨rfl, B2.out⟩
    · obtain ⟨hk, hf, _⟩ := HF2.out rfl
      subst hf
      obtain ⟨b, off, rfl, hb, c0, c1, c2, c3⟩ := HC.out PN hk
      have d1 := (B2.out.cell (p := ⟨b, off + PN * 4 + 1, none⟩) hb).trans c1
      have d2 := (B2.out.cell (p := ⟨b, off + PN * 4 + 2, none⟩) hb).trans c2
      have hk1 : (PN : Int) < (q.length : Int) := by omega
      have hk0 : (0 : Int) ≤ (PN : Int) := by omega
      have CL := hid (fun W => clone_any q[PN].ou W (by have := HO2.out PN hk; omega))
      simp only [fdN, fdS] at HN2 HS2
      clear HC HF0 HF2 HO2 c0 c1 c2 c3 hb
      generalize q[PN] = y at *
      obtain ⟨tk, su, ou, at_⟩ := y
      simp only at *
      by_cases he : su = s
      · have hn : RN = 1 := by rw [HN2.out, if_pos he]
        have hs : RS = ou := by rw [HS2.out, if_pos he]
        have g1 : (su.toList == s.toList) = true := by rw [he]; simp
        subst hn hs
        clear HN2 HS2 he
        go_wp2_with fail
        refine (CL.out _).mono ?_
        rintro e w3 ⟨rfl, b3⟩
        have B3 := hid (below_on B2.out b3)
        clear CL b3 B2 d1 d2
        go_wp2
        go_ret2
        exact ⟨rfl, B3.out⟩
      · have hn : RN = 2 := by rw [HN2.out, if_neg he]
        have hs : RS = ⟨#[]⟩ := by rw [HS2.out, if_neg he]
        have g1 : (su.toList == s.toList) = false := by rw [tl_eq, decide_eq_false he]
        subst hn hs
        clear HN2 HS2 he CL
        go_wp2
        go_ret2
        exact ⟨rfl, B2.out⟩
end Go.Proofs.Ytojiahdbgdgdcaa
