/- The law TokenBytes, walked. -/
import Derived.Test.YtojiahdbgdgdcaaTkU
import Derived.Test.YtojiahdbgdgdcaaJoined12
import Derived.Test.YtojiahdbgdgdcaaJoined14
import Derived.Test.YtojiahdbgdgdcaaTkQ
import Derived.Test.YtojiahdbgdgdcaaTkZ
import Derived.Test.YtojiahdbgdgdcaaWTNotes
namespace Go.Proofs.Ytojiahdbgdgdcaa
open Go.RowKit Go.Maps
set_option linter.unusedVariables false
set_option linter.unusedSimpArgs false

set_option maxRecDepth 100000 in
set_option maxHeartbeats 2000000 in
theorem tokenBytes_walk (v : Value) (q : List Hd) (s : ByteArray) (w : World) (hv : HdI w v q) (hz : q.length * 56 ≤ 140737488355328) (hy : ∀ y ∈ q, ibulk.SzHb y) (hs : s.size ≤ reachBytes) : Calls Try.prog 5 #[v, .string s] w fun e w' => e = .returned (.bool true) ∧ Below w.heap.size w w' := by
  obtain ⟨ad, cap, rfl, hc⟩ := hv.form
  clear hc
  have hs2 : s.size ≤ 140737488355328 := Nat.le_trans hs (Nat.le_of_lt reachBytes_lt)
  have hzl : q.length ≤ 8796093022208 := by omega
  have EN := hid (tencode_any _ q w hv)
  have RF : Hid (∀ W, Below w.heap.size w W → Calls Try.prog 10 #[.slice ad q.length cap] W fun e w' => ∃ ad cap, e = .returned (.slice ad q.length cap) ∧ Hid (HdI w' (.slice ad q.length cap) q) ∧ Below W.heap.size W w') := fun W hW => (refs15_any _ q W (hv.next hW) hz).mono fun e w' ⟨ad, cap, he, ho, hb⟩ => ⟨ad, cap, he, ho.hd, hb⟩
  have RN : Hid (∀ W v, HdI W v q → Calls Try.prog 18 #[v] W fun e w' => e = .returned (.tuple #[.string (tbT q), .int .i64 (tbTE q)]) ∧ Below W.heap.size W w') := fun W v hv => rtencode_any v q W hv hzl (fun y h => ⟨(hy y h).1, (hy y h).2.1⟩)
  obtain ⟨-, hse, hsv⟩ := td_same s
  have DC : Hid (∀ W, Calls Try.prog 19 #[.string s] W fun e w' => ∃ ad cap, e = .returned (.tuple #[.slice ad (tdV 64 s).length cap, .int .i64 (tdE 64 s)]) ∧ Hid (HdI w' (.slice ad (tdV 64 s).length cap) (tdV 64 s)) ∧ Below W.heap.size W w') := fun W => by
    have := tdecode_any s W hs2
    rw [hse, hsv] at this
    exact this.mono fun e w' h => h.hd
  have RC : Hid (∀ W, Calls Try.prog 20 #[.string s] W fun e w' => ∃ ad cap, e = .returned (.tuple #[.slice ad (tdV 64 s).length cap, .int .i64 (tdE 64 s)]) ∧ Hid (HdI w' (.slice ad (tdV 64 s).length cap) (tdV 64 s)) ∧ Below W.heap.size W w') := fun W => (rtdecode_any s W hs2).mono fun e w' h => h.hd
  have h64 := tdV_64 64 (by omega) (by omega) s
  have R2 : Hid (∀ W ad cap, HdI W (.slice ad (tdV 64 s).length cap) (tdV 64 s) → Calls Try.prog 10 #[.slice ad (tdV 64 s).length cap] W fun e w' => ∃ ad cap, e = .returned (.slice ad (tdV 64 s).length cap) ∧ Hid (HdI w' (.slice ad (tdV 64 s).length cap) (tdV 64 s)) ∧ Below W.heap.size W w') := fun W ad cap h => (refs15_any _ _ W h (by omega)).mono fun e w' ⟨ad, cap, he, ho, hb⟩ => ⟨ad, cap, he, ho.hd, hb⟩
  have S2 : Hid (∀ W a b, HdI W a (tdV 64 s) → HdI W b (tdV 64 s) → Calls Try.prog 16 #[a, b] W fun e w' => e = .returned (.bool true) ∧ Below W.heap.size W w') := fun W a b ha hb => same15_true a b _ W ha hb (by omega)
  have AW := hid (fun W => awake15 W)
  clear hv hz hy hs hs2 hzl hse hsv h64
  generalize tbT q = CT at *
  generalize tbTE q = CE at *
  generalize tdV 64 s = DL at *
  generalize tdE 64 s = DE at *
  have e1 : (CT.toList == CT.toList) = true := by simp
  have e2 : (CE == CE) = true := beq_self_eq_true _
  have e3 : (DE == DE) = true := beq_self_eq_true _
  generalize hq : q.length = n at *
  generalize hdl : DL.length = dl at *
  clear hq hdl
  go_enter Try.func5, Try.ntmps5
  go_wp2_with fail
  refine EN.out.mono ?_
  rintro e w1 ⟨rfl, b1⟩
  have B1 := hid b1
  clear EN b1
  go_wp2_with fail
  refine (RF.out _ B1.out).mono ?_
  rintro e w2 ⟨ad2, cap2, rfl, I2, b2⟩
  have B2 := hid (below_on B1.out b2)
  clear B1 b2 RF
  go_wp2_with fail
  refine (RN.out _ _ I2.out).mono ?_
  rintro e w3 ⟨rfl, b3⟩
  have B3 := hid (below_on B2.out b3)
  clear b3 B2 RN I2
  go_wp2_with fail
  refine (DC.out _).mono ?_
  rintro e w4 ⟨ad4, cap4, rfl, I4, b4⟩
  have B4 := hid (below_on B3.out b4)
  clear b4 B3 DC
  go_wp2_with fail
  refine (RC.out _).mono ?_
  rintro e w5 ⟨ad5, cap5, rfl, I5, b5⟩
  have I45 := hid (I4.out.next b5)
  have B5 := hid (below_on B4.out b5)
  clear b5 B4 RC I4
  go_wp2_with fail
  refine (AW.out _).mono ?_
  rintro e w6 ⟨rfl, b6⟩
  have I46 := hid (I45.out.next b6)
  have I56 := hid (I5.out.next b6)
  have B6 := hid (below_on B5.out b6)
  clear I45 I5 B5 b6 AW
  go_wp2_with fail
  refine (R2.out _ _ _ I46.out).mono ?_
  rintro e w7 ⟨ad7, cap7, rfl, I7, b7⟩
  have B7 := hid (below_on B6.out b7)
  have I57 := hid (I56.out.next b7)
  clear R2 I46 I56 B6 b7
  go_wp2_with fail
  refine (S2.out _ _ _ I7.out I57.out).mono ?_
  rintro e w8 ⟨rfl, b8⟩
  have B8 := hid (below_on B7.out b8)
  clear S2 b8 B7 I7 I57
  go_wp2
  go_ret
  exact ⟨rfl, B8.out⟩
end Go.Proofs.Ytojiahdbgdgdcaa
