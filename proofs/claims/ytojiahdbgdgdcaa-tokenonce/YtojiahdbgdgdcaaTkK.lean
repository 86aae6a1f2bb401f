/- The document's side of layer 15: a table as it has it, Look, Expire, Same. -/
import Derived.Test.YtojiahdbgdgdcaaTkI
import Derived.Laws.StructEq
import Derived.BigQuiet
import Derived.Deep.QuietTactic
namespace Go.Proofs.Ytojiahdbgdgdcaa
open Go.RowKit Go.Maps
set_option linter.unusedVariables false
set_option linter.unusedSimpArgs false

set_option maxRecDepth 100000 in
set_option maxHeartbeats 1000000 in
theorem refs15_any (v : Value) (l : List Hd) (w : World) (hv : HdI w v l) (hl : l.length * 56 ≤ 140737488355328) : Calls Try.prog 10 #[v] w fun e w' => ∃ ad cap, e = .returned (.slice ad l.length cap) ∧ OwnH w' w.heap.size 37 (.slice ad l.length cap) l ∧ Below w.heap.size w w' := by
  obtain ⟨ad, cap, rfl, hc⟩ := hv.form
  have HC := hid hc
  have HL := hid hl
  have HTK : Hid (∀ (k : Nat) (hk : k < l.length), hqC (l.take (k + 1)) = hqC (l.take k) ++ hdC l[k]) := fun k hk => hqC_take l k hk
  have HZ : Hid (l.take l.length = l) := List.take_length
  have HR0 : Hid (w.ownsRow w.heap.size 37 4 (.slice none 0 0) 0 (hqC (l.take 0))) := ⟨rfl, .inl ⟨rfl, rfl⟩⟩
  clear hc hv hl
  go_enter Try.func10, Try.ntmps10
  go_wp2
  go_loopw [3, 4] (fun o i wr => ∃ (k : Nat) (ad1 : Option Addr) (cp1 : Nat), k ≤ l.length ∧ o = .slice ad1 k cp1 ∧ i = .int .i64 (k : Int) ∧ Hid (wr.ownsRow w.heap.size 37 4 (.slice ad1 k cp1) k (hqC (l.take k))) ∧ Hid (Below w.heap.size w wr)) (fun _ i _ => l.length - (intOf i).toNat)
  case atStart => exact ⟨0, none, 0, Nat.zero_le _, rfl, rfl, HR0, Below.refl _ _⟩
  case round =>
    clear HR0
    obtain ⟨k, ad1, cp1, hk, rfl, rfl, HR, HB⟩ := hrel
    by_cases hlt : k < l.length
    · have hk1 : (k : Int) < (l.length : Int) := by omega
      have hk0 : (0 : Int) ≤ (k : Int) := by omega
      obtain ⟨b, off, rfl, hb, c0, c1, c2, c3⟩ := HC.out k hlt
      have d0 := (HB.out.cell (p := ⟨b, off + k * 4, none⟩) hb).trans c0
      have d1 := (HB.out.cell (p := ⟨b, off + k * 4 + 1, none⟩) hb).trans c1
      have d2 := (HB.out.cell (p := ⟨b, off + k * 4 + 2, none⟩) hb).trans c2
      have d3 := (HB.out.cell (p := ⟨b, off + k * 4 + 3, none⟩) hb).trans c3
      have hwk : wrap64 ((k : Int) + 1) = ((k + 1 : Nat) : Int) := by have := HL.out; rw [IntWalk.wrap64_in _ (by omega)]; omega
      have HPL := hid (HTK.out k hlt)
      have HO1 := hid (hdC_one l[k])
      have HX1 : Hid (hdC l[k] = [.string l[k].tk, .string l[k].su, .string l[k].ou, .int .i64 l[k].at_]) := rfl
      have HX2 : Hid ((hdC l[k]).length = 1 * 4) := rfl
      have HB1 : Hid (k + 1 ≤ 4611686018427387904) := by have := HL.out; show _ ≤ _; omega
      have HB2 : Hid ((k + 1) * 56 ≤ 140737488355328) := by have := HL.out; show _ ≤ _; omega
      have HLT := hid hlt
      generalize l[k] = p at *
      obtain ⟨tk, su, ou, at_⟩ := p
      simp only at d0 d1 d2 d3 HX1
      generalize hdC ⟨tk, su, ou, at_⟩ = XS at *
      have HGA : Hid ((wr.alloc (.cells #[.string tk, .string su, .string ou, .int .i64 at_] 37)).ownsRow w.heap.size 37 4 (.slice ad1 k cp1) k (hqC (l.take k))) := (keep_alloc (fun _ => False) _ _).ownsRow HR.out (fun _ _ h => h)
      have HGX : Hid (GSrc (wr.alloc (.cells #[.string tk, .string su, .string ou, .int .i64 at_] 37)) (.slice (some ⟨wr.heap.size, 0, none⟩) 1 1) 1 XS) := by
        rw [HX1.out]; exact gsrc_block (heap_alloc_new _ _)
      have HSZ : Hid (w.heap.size ≤ (wr.alloc (.cells #[.string tk, .string su, .string ou, .int .i64 at_] 37)).heap.size) := Nat.le_trans HB.out.size (keep_alloc (fun _ => False) _ _).size
      have FIN : Hid (∀ ad' cap' w', w'.ownsRow w.heap.size 37 4 (.slice ad' (k + 1) cap') (k + 1) (hqC (l.take k) ++ XS) → Keep (fun j => (Value.slice ad1 k cp1).ownBlock = some j) (wr.alloc (.cells #[.string tk, .string su, .string ou, .int .i64 at_] 37)) w' → Hid (w'.ownsRow w.heap.size 37 4 (.slice ad' (k + 1) cap') (k + 1) (hqC (l.take (k + 1)))) ∧ Hid (Below w.heap.size w w')) := fun ad' cap' w' hr hk' => by
        refine ⟨?_, (below_al HB.out _).trans (keep_below hk' (fun j hj e => by have := ownsRow_ge HR.out e; omega) HSZ.out)⟩
        show World.ownsRow _ _ _ _ _ _ _
        rw [HPL.out]; exact hr
      clear HC HTK HZ c0 c1 c2 c3 hb HL HR HPL HX1 hlt hk
      go_wp2_with (at_builtin; refine wpl_gappL rfl _ _ elRH rfl w.heap.size (.slice ad1 k cp1) (.slice (some ⟨wr.heap.size, 0, none⟩) 1 1) (hqC (l.take k)) XS k 1 (k + 1) rfl rfl rfl HGA.out HSZ.out HGX.out HX2.out HO1.out HB1.out HB2.out ?_; intro ad' cap' w' hr' hk')
      obtain ⟨F1, F2⟩ := FIN.out _ _ _ hr' hk'
      clear hr' hk' FIN HGA HGX HSZ d0 d1 d2 d3
      go_wp2
      exact ⟨⟨k + 1, _, _, HLT.out, rfl, by first | rw [hwk] | rfl | simp, F1, F2⟩, by (try rw [hwk]); have := HLT.out; simp [intOf]; omega⟩
    · have hke : k = l.length := by omega
      have hd : decide ((k : Int) < (l.length : Int)) = false := decide_eq_false (by omega)
      have hd2 : decide (k < l.length) = false := decide_eq_false hlt
      have HF : Hid (wr.ownsRow w.heap.size 37 4 (.slice ad1 k cp1) l.length (hqC l)) := by
        have := HR.out
        rw [hke, HZ.out] at this
        rw [hke]
        exact this
      have HKE := hid hke
      clear HC HTK HZ HR HL hke hlt hk
      go_wp2
      go_ret
      refine ⟨ad1, cp1, ?_, ?_, HB.out⟩
      · rw [HKE.out]; rfl
      · have := HF.out; rw [HKE.out] at this; exact this
/-- the first that is kept with a token, from a place on -/
theorem findH_at (l : List Hd) (t : ByteArray) (k : Nat) (hk : k < l.length) : findH (l.drop k) t = if l[k].tk = t then some l[k] else findH (l.drop (k + 1)) t := by
  rw [List.drop_eq_getElem_cons hk]
  unfold findH
  by_cases h : l[k].tk = t
  · rw [if_pos h, List.find?_cons_of_pos (by simpa using h)]
  · rw [if_neg h, List.find?_cons_of_neg (by simpa using h)]
set_option maxRecDepth 100000 in
set_option maxHeartbeats 2000000 in
theorem rlook15_any (v : Value) (q : List Hd) (t s : ByteArray) (w : World) (hv : HdI w v q) (hl : q.length ≤ 8796093022208) (hs : ∀ y ∈ q, y.tk.size ≤ 140737488355328 ∧ y.su.size ≤ 140737488355328) : Calls Try.prog 9 #[v, .string t, .string s] w fun e w' => e = .returned (.tuple #[.int .i64 (lookN q t s), .string (lookS q t s)]) ∧ Below w.heap.size w w' := by
  obtain ⟨ad, cap, rfl, hc⟩ := hv.form
  have HC := hid hc
  have IT := hid (may15_any _ q w hv hl hs)
  have HN : Hid (lookN q t s = if isTb q = true then fdN s (findH q t) else 2) := rfl
  have HS : Hid (lookS q t s = if isTb q = true then fdS s (findH q t) else ⟨#[]⟩) := rfl
  have HF0 : Hid (findH q t = findH (q.drop 0) t) := rfl
  have HFA : Hid (∀ (k : Nat) (hk : k < q.length), findH (q.drop k) t = if q[k].tk = t then some q[k] else findH (q.drop (k + 1)) t) := fun k hk => findH_at q t k hk
  have HLN : Hid (isTb q = true → q.length ≤ 64) := isTb_len
  generalize lookN q t s = RN at *
  generalize lookS q t s = RS at *
  generalize isTb q = IS at *
  generalize findH q t = FO at *
  clear hc hv hs hl
  go_enter Try.func9, Try.ntmps9
  go_wp2_with fail
  refine IT.out.mono ?_
  rintro e w1 ⟨rfl, b1⟩
  have B1 := hid b1
  clear IT b1
  cases IS
  · have hn : RN = 2 := HN.out
    have hs : RS = ⟨#[]⟩ := HS.out
    subst hn hs
    clear HC HN HS HF0 HFA HLN
    go_wp2
    go_ret2
    exact ⟨rfl, B1.out⟩
  have HN2 : Hid (RN = fdN s FO) := HN.out
  have HS2 : Hid (RS = fdS s FO) := HS.out
  have HL := hid (HLN.out rfl)
  clear HN HS HLN
  go_wp2
  go_loopw [8] (fun i wr => ∃ (k : Nat), k ≤ q.length ∧ i = .int .i64 (k : Int) ∧ Hid (Below w.heap.size w wr) ∧ Hid (FO = findH (q.drop k) t)) (fun i _ => q.length - (intOf i).toNat)
  case atStart => exact ⟨0, Nat.zero_le _, rfl, B1, HF0⟩
  case round =>
    clear HF0
    obtain ⟨k, hk, rfl, HB, HF⟩ := hrel
    by_cases hlt : k < q.length
    · have hk1 : (k : Int) < (q.length : Int) := by omega
      have hk0 : (0 : Int) ≤ (k : Int) := by omega
      have hwk : wrap64 ((k : Int) + 1) = ((k + 1 : Nat) : Int) := by have := HL.out; rw [IntWalk.wrap64_in _ (by omega)]; omega
      obtain ⟨b, off, rfl, hb, c0, c1, c2, c3⟩ := HC.out k hlt
      have d0 := (HB.out.cell (p := ⟨b, off + k * 4, none⟩) hb).trans c0
      have d1 := (HB.out.cell (p := ⟨b, off + k * 4 + 1, none⟩) hb).trans c1
      have d2 := (HB.out.cell (p := ⟨b, off + k * 4 + 2, none⟩) hb).trans c2
      have HF2 : Hid (FO = if q[k].tk = t then some q[k] else findH (q.drop (k + 1)) t) := by show _ = _; rw [HF.out, HFA.out k hlt]
      have HLT := hid hlt
      clear HC HF c0 c1 c2 c3 hb HFA
      generalize q[k] = y at *
      obtain ⟨tk, su, ou, at_⟩ := y
      simp only at *
      have hkL : (k : Int) < 65 := by have := HL.out; omega
      clear hlt hk HL
      by_cases hi : tk = t
      · have g1 : (tk.toList == t.toList) = true := by rw [hi]; simp
        have hr : FO = some ⟨tk, su, ou, at_⟩ := by rw [HF2.out, if_pos hi]
        by_cases he : su = s
        · have g2 : (su.toList == s.toList) = true := by rw [he]; simp
          have hn : RN = 1 := by rw [HN2.out, hr]; simp [fdN, he]
          have hs : RS = ou := by rw [HS2.out, hr]; simp [fdS, he]
          have BDD : Hid (∀ n, Below w.heap.size w (wr.drewN n)) := fun n => below_drewN HB.out n
          subst hn hs
          clear HN2 HS2 HF2 hi hr he
          go_wp2
          go_quiet (fail)
          go_wp2
          go_ret2
          exact ⟨rfl, BDD.out _⟩
        · have g2 : (su.toList == s.toList) = false := by rw [tl_eq, decide_eq_false he]
          have hn : RN = 2 := by rw [HN2.out, hr]; simp [fdN, he]
          have hs : RS = ⟨#[]⟩ := by rw [HS2.out, hr]; simp [fdS, he]
          subst hn hs
          clear HN2 HS2 HF2 hi hr he
          go_wp2
          go_ret2
          exact ⟨rfl, HB.out⟩
      · have g1 : (tk.toList == t.toList) = false := by rw [tl_eq, decide_eq_false hi]
        have HF3 : Hid (FO = findH (q.drop (k + 1)) t) := by show _ = _; rw [HF2.out, if_neg hi]
        clear HN2 HS2 HF2 hi
        go_wp2
        exact ⟨⟨k + 1, HLT.out, by first | rw [hwk] | rfl | simp, HB, HF3⟩, by (try rw [hwk]); have := HLT.out; simp [intOf]; omega⟩
    · have hd : decide ((k : Int) < (q.length : Int)) = false := decide_eq_false (by omega)
      have hd2 : decide (k < q.length) = false := decide_eq_false hlt
      have hr : FO = none := by rw [HF.out, List.drop_eq_nil_of_le (by omega)]; rfl
      have hn : RN = 0 := by rw [HN2.out, hr]; rfl
      have hs : RS = ⟨#[]⟩ := by rw [HS2.out, hr]; rfl
      subst hn hs
      clear HC HF HL HN2 HS2 hr hlt hk HFA
      go_wp2
      go_ret2
      exact ⟨rfl, HB.out⟩
theorem guardHd : Try.prog.eqGuardType Try.prog.depth 37 = false := by kernel_rfl
theorem eqlHd (X Y Z : ByteArray) (a : Int) (W : World) : (binOp .eql 37 (.agg #[.string X, .string Y, .string Z, .int .i64 a]) (.agg #[.string X, .string Y, .string Z, .int .i64 a])).run Try.prog W = .ok (.bool true) W := by
  have u9 := Try.underlying9
  have u4 := Try.underlying3
  have z9 := Try.sizeOf9
  have z4 := Try.sizeOf3
  have a9 := Try.isAgg9
  have a4 := Try.isAgg3
  have hS : Try.prog.underlying 37 = some (.struct (Try.prog.fieldsOf 37)) := by kernel_rfl
  have hp : Try.prog.stoodInHeld 37 = false := by kernel_rfl
  rw [run_eql_struct, show (10000 : Nat) = 9999 + 1 from rfl, run_equalIn_agg W 9999 37 _ _ hS hp]
  simp only [Program.fieldsOf, Try.underlying37]
  go_simp
theorem neqHd (X Y Z : ByteArray) (a : Int) (W : World) : (binOp .neq 37 (.agg #[.string X, .string Y, .string Z, .int .i64 a]) (.agg #[.string X, .string Y, .string Z, .int .i64 a])).run Try.prog W = .ok (.bool false) W := by
  have h := eqlHd X Y Z a W
  rw [run_eql_struct] at h
  rw [run_neq_struct]
  generalize (Op.equalIn 10000 37 (.agg #[.string X, .string Y, .string Z, .int .i64 a]) (.agg #[.string X, .string Y, .string Z, .int .i64 a])).run Try.prog W = R at *
  cases R with
  | ok r W1 =>
    simp only [Result.andThen_ok] at h ⊢
    injection h with h1 h2
    injection h1 with h1
    rw [h1, h2]
    rfl
  | _ => cases h
set_option maxRecDepth 100000 in
set_option maxHeartbeats 2000000 in
theorem same15_true (v1 v2 : Value) (q : List Hd) (w : World) (h1 : HdI w v1 q) (h2 : HdI w v2 q) (hl : q.length ≤ 8796093022208) : Calls Try.prog 16 #[v1, v2] w fun e w' => e = .returned (.bool true) ∧ Below w.heap.size w w' := by
  obtain ⟨a1, c1, rfl, g1⟩ := h1.form
  obtain ⟨a2, c2, rfl, g2⟩ := h2.form
  have HC : Hid (∀ (k : Nat) (hk : k < q.length) (W : World), Below w.heap.size w W → ∃ b1 o1 b2 o2 X Y Z F, a1 = some ⟨b1, o1, none⟩ ∧ a2 = some ⟨b2, o2, none⟩ ∧ (W.cell? ⟨b1, o1 + k * 4, none⟩ = some (.string X) ∧ W.cell? ⟨b1, o1 + k * 4 + 1, none⟩ = some (.string Y) ∧ W.cell? ⟨b1, o1 + k * 4 + 2, none⟩ = some (.string Z) ∧ W.cell? ⟨b1, o1 + k * 4 + 3, none⟩ = some (.int .i64 F)) ∧ (W.cell? ⟨b2, o2 + k * 4, none⟩ = some (.string X) ∧ W.cell? ⟨b2, o2 + k * 4 + 1, none⟩ = some (.string Y) ∧ W.cell? ⟨b2, o2 + k * 4 + 2, none⟩ = some (.string Z) ∧ W.cell? ⟨b2, o2 + k * 4 + 3, none⟩ = some (.int .i64 F))) := by
    intro k hk W hW
    obtain ⟨b1, o1, e1, hb1, p0, p1, p2, p3⟩ := g1 k hk
    obtain ⟨b2, o2, e2, hb2, q0, q1, q2, q3⟩ := g2 k hk
    exact ⟨b1, o1, b2, o2, _, _, _, _, e1, e2, ⟨(hW.cell (p := ⟨b1, o1 + k * 4, none⟩) hb1).trans p0, (hW.cell (p := ⟨b1, o1 + k * 4 + 1, none⟩) hb1).trans p1, (hW.cell (p := ⟨b1, o1 + k * 4 + 2, none⟩) hb1).trans p2, (hW.cell (p := ⟨b1, o1 + k * 4 + 3, none⟩) hb1).trans p3⟩, ⟨(hW.cell (p := ⟨b2, o2 + k * 4, none⟩) hb2).trans q0, (hW.cell (p := ⟨b2, o2 + k * 4 + 1, none⟩) hb2).trans q1, (hW.cell (p := ⟨b2, o2 + k * 4 + 2, none⟩) hb2).trans q2, (hW.cell (p := ⟨b2, o2 + k * 4 + 3, none⟩) hb2).trans q3⟩⟩
  clear h1 h2 g1 g2
  generalize q.length = n at *
  have e5 : ((n : Int) != (n : Int)) = false := by simp
  have hg := guardHd
  go_enter Try.func16, Try.ntmps16
  go_wp2
  clear e5
  go_loopw [5] (fun i wr => ∃ k : Nat, k ≤ n ∧ i = .int .i64 k ∧ Hid (Below w.heap.size w wr)) (fun i _ => n - (intOf i).toNat)
  case atStart => exact ⟨0, by omega, rfl, Below.refl _ _⟩
  case round =>
    obtain ⟨k, hk, rfl, HB⟩ := hrel
    by_cases hlt : k < n
    · have hk0 : (0 : Int) ≤ (k : Int) := by omega
      have hk1 : (k : Int) < (n : Int) := by omega
      obtain ⟨b1, o1, b2, o2, X, Y, Z, F, e1, e2, ⟨p0, p1, p2, p3⟩, ⟨q0, q1, q2, q3⟩⟩ := HC.out k hlt wr HB.out
      subst e1 e2
      have hq := fun W => neqHd X Y Z F W
      have BDD : Hid (∀ n, Below w.heap.size w (wr.drewN n)) := fun n => below_drewN HB.out n
      clear HC
      go_wp2
      go_quiet (fail)
      have HB2 := hid (BDD.out nq)
      clear HB BDD p0 p1 p2 p3 q0 q1 q2 q3
      go_wp2
      exact ⟨⟨k + 1, by omega, by go_num, HB2⟩, by simp [intOf]; omega⟩
    · have hd : decide ((k : Int) < (n : Int)) = false := decide_eq_false (by omega)
      have hd2 : decide (k < n) = false := decide_eq_false hlt
      clear HC
      go_wp2
      go_ret
      exact ⟨rfl, HB.out⟩
end Go.Proofs.Ytojiahdbgdgdcaa
