/- The law TokenBack, walked. -/
import Derived.Test.YtojiahdbgdgdcaaTkU
import Derived.Test.YtojiahdbgdgdcaaJoined12
import Derived.Test.YtojiahdbgdgdcaaJoined14
import Derived.Test.YtojiahdbgdgdcaaTkQ
import Derived.Test.YtojiahdbgdgdcaaTkZ
import Derived.Test.YtojiahdbgdgdcaaWTNotes
namespace Go.Proofs.Ytojiahdbgdgdcaa
open Go.RowKit Go.Maps
set_option linter.unusedVariables false
set_option linter.unusedSimpArgs false

set_option maxRecDepth 100000 in
set_option maxHeartbeats 2000000 in
theorem tokenBack_walk (v : Value) (q : List Hd) (s : ByteArray) (w : World) (hv : HdI w v q) (hz : q.length * 56 ≤ 140737488355328) (hy : ∀ y ∈ q, ibulk.SzHb y) (hs : s.size ≤ reachBytes) : Calls Try.prog 6 #[v, .string s] w fun e w' => e = .returned (.bool true) ∧ Below w.heap.size w w' := by
  obtain ⟨ad, cap, rfl, hc⟩ := hv.form
  clear hc
  have hs2 : s.size ≤ 140737488355328 := Nat.le_trans hs (Nat.le_of_lt reachBytes_lt)
  have EN := hid (tencode_any _ q w hv)
  have HTE : Hid (tbTE q = if isTb q = true then 0 else 1) := rfl
  have RF : Hid (∀ W, Below w.heap.size w W → Calls Try.prog 10 #[.slice ad q.length cap] W fun e w' => ∃ ad cap, e = .returned (.slice ad q.length cap) ∧ Hid (HdI w' (.slice ad q.length cap) q) ∧ Below W.heap.size W w') := fun W hW => (refs15_any _ q W (hv.next hW) hz).mono fun e w' ⟨ad, cap, he, ho, hb⟩ => ⟨ad, cap, he, ho.hd, hb⟩
  have D1 : Hid (isTb q = true → ∀ W, Calls Try.prog 19 #[.string (tbT q)] W fun e w' => ∃ ad cap, e = .returned (.tuple #[.slice ad q.length cap, .int .i64 0]) ∧ Hid (HdI w' (.slice ad q.length cap) q) ∧ Below W.heap.size W w') := fun h W => by
    have hsz : (tbT q).size ≤ 140737488355328 := by
      have h1 := tbB_len h
      have h2 : (tbT q).data.toList = tbB q := by unfold tbT; rw [if_pos h]
      have := size_of _ _ h2
      omega
    obtain ⟨a1, a2, -⟩ := td_enc 1024 (by omega) (by omega) h
    have := tdecode_any (tbT q) W hsz
    rw [a1, a2] at this
    exact this.mono fun e w' h => h.hd
  have R2 : Hid (isTb q = true → ∀ W ad cap, HdI W (.slice ad q.length cap) q → Calls Try.prog 10 #[.slice ad q.length cap] W fun e w' => ∃ ad cap, e = .returned (.slice ad q.length cap) ∧ Hid (HdI w' (.slice ad q.length cap) q) ∧ Below W.heap.size W w') := fun hb W ad cap h => (refs15_any _ _ W h (by have := isTb_len hb; omega)).mono fun e w' ⟨ad, cap, he, ho, hb⟩ => ⟨ad, cap, he, ho.hd, hb⟩
  have S2 : Hid (isTb q = true → ∀ W a b, HdI W a q → HdI W b q → Calls Try.prog 16 #[a, b] W fun e w' => e = .returned (.bool true) ∧ Below W.heap.size W w') := fun h W a b ha hb => same15_true a b _ W ha hb (by have := isTb_len h; omega)
  have DC : Hid (∀ W, Calls Try.prog 19 #[.string s] W fun e w' => ∃ ad cap, e = .returned (.tuple #[.slice ad (tdV 1024 s).length cap, .int .i64 (tdE 1024 s)]) ∧ Hid (HdI w' (.slice ad (tdV 1024 s).length cap) (tdV 1024 s)) ∧ Below W.heap.size W w') := fun W => (tdecode_any s W hs2).mono fun e w' h => h.hd
  have HDE : Hid (tdE 1024 s = if tdOk 1024 s = true then 0 else 3) := rfl
  have HDL : Hid (tdV 1024 s = if tdOk 1024 s = true then (tdT 1024 s).l else []) := rfl
  have EN2 : Hid (tdOk 1024 s = true → ∀ W v, HdI W v (tdV 1024 s) → Calls Try.prog 17 #[v] W fun e w' => e = .returned (.tuple #[.string s, .int .i64 0]) ∧ Below W.heap.size W w') := fun h W v hv => by
    obtain ⟨h1, h2⟩ := td_one 1024 h
    have := tencode_any v _ W hv
    rw [h2, show tbTE (tdV 1024 s) = 0 by unfold tbTE; rw [if_pos h1]] at this
    exact this
  have AW := hid (fun W => awake15 W)
  clear hv hz hy hs hs2
  generalize tbT q = CT at *
  generalize tbTE q = CE at *
  generalize isTb q = IS at *
  generalize tdV 1024 s = DL at *
  generalize tdE 1024 s = DE at *
  generalize tdOk 1024 s = OK at *
  generalize (tdT 1024 s).l = DT at *
  have e1 : (s.toList == s.toList) = true := by simp
  generalize hq : q.length = n at *
  clear hq
  go_enter Try.func6, Try.ntmps6
  go_wp2_with fail
  refine EN.out.mono ?_
  rintro e w1 ⟨rfl, b1⟩
  have B1 := hid b1
  clear EN b1
  cases IS
  · have hce : CE = 1 := HTE.out
    subst hce
    clear HTE RF D1 R2 S2
    go_wp2_with fail
    refine (DC.out _).mono ?_
    rintro e wa ⟨ada, capa, rfl, Ia, ba⟩
    have Ba := hid (below_on B1.out ba)
    clear ba B1 DC
    cases OK
    · have hE : DE = 3 := HDE.out
      have hL : DL = [] := HDL.out
      subst hE hL
      clear HDE HDL EN2 Ia
      go_wp2_with fail
      refine (AW.out _).mono ?_
      rintro e wb ⟨rfl, bb⟩
      have Bb := hid (below_on Ba.out bb)
      clear bb Ba AW
      go_wp2
      go_ret
      exact ⟨rfl, Bb.out⟩
    · have hE : DE = 0 := HDE.out
      subst hE
      have E3 := hid (EN2.out rfl _ _ Ia.out)
      clear HDE HDL EN2 Ia
      go_wp2_with fail
      refine E3.out.mono ?_
      rintro e wb ⟨rfl, bb⟩
      have Bb := hid (below_on Ba.out bb)
      clear bb Ba E3
      go_wp2_with fail
      refine (AW.out _).mono ?_
      rintro e wc ⟨rfl, bc⟩
      have Bc := hid (below_on Bb.out bc)
      clear bc Bb AW
      go_wp2
      go_ret
      exact ⟨rfl, Bc.out⟩
  · have hce : CE = 0 := HTE.out
    subst hce
    have D2 := hid (D1.out rfl)
    have R3 := hid (R2.out rfl)
    have S3 := hid (S2.out rfl)
    clear HTE D1 R2 S2
    go_wp2_with fail
    refine (D2.out _).mono ?_
    rintro e w2 ⟨ad2, cap2, rfl, I2, b2⟩
    have B2 := hid (below_on B1.out b2)
    clear b2 B1 D2
    go_wp2_with fail
    refine (R3.out _ _ _ I2.out).mono ?_
    rintro e w3 ⟨ad3, cap3, rfl, I3, b3⟩
    have B3 := hid (below_on B2.out b3)
    clear b3 B2 R3 I2
    go_wp2_with fail
    refine (RF.out _ B3.out).mono ?_
    rintro e w4 ⟨ad4, cap4, rfl, I4, b4⟩
    have I34 := hid (I3.out.next b4)
    have B4 := hid (below_on B3.out b4)
    clear b4 B3 RF I3
    go_wp2_with fail
    refine (S3.out _ _ _ I34.out I4.out).mono ?_
    rintro e w5 ⟨rfl, b5⟩
    have B5 := hid (below_on B4.out b5)
    clear b5 B4 S3 I34 I4
    go_wp2_with fail
    refine (DC.out _).mono ?_
    rintro e wa ⟨ada, capa, rfl, Ia, ba⟩
    have Ba := hid (below_on B5.out ba)
    clear ba B5 DC
    cases OK
    · have hE : DE = 3 := HDE.out
      have hL : DL = [] := HDL.out
      subst hE hL
      clear HDE HDL EN2 Ia
      go_wp2_with fail
      refine (AW.out _).mono ?_
      rintro e wb ⟨rfl, bb⟩
      have Bb := hid (below_on Ba.out bb)
      clear bb Ba AW
      go_wp2
      go_ret
      exact ⟨rfl, Bb.out⟩
    · have hE : DE = 0 := HDE.out
      subst hE
      have E3 := hid (EN2.out rfl _ _ Ia.out)
      clear HDE HDL EN2 Ia
      go_wp2_with fail
      refine E3.out.mono ?_
      rintro e wb ⟨rfl, bb⟩
      have Bb := hid (below_on Ba.out bb)
      clear bb Ba E3
      go_wp2_with fail
      refine (AW.out _).mono ?_
      rintro e wc ⟨rfl, bc⟩
      have Bc := hid (below_on Bb.out bc)
      clear bc Bb AW
      go_wp2
      go_ret
      exact ⟨rfl, Bc.out⟩
end Go.Proofs.Ytojiahdbgdgdcaa
