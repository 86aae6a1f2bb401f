/- Joined: The document's side of layer 15: a table as it has it, Look, Expire, Same. A token is kept, old ones are forgotten: the document. Old tokens are forgotten: the document. -/
import Derived.Test.YtojiahdbgdgdcaaJoined11
import Derived.Laws.StructEq
import Derived.BigQuiet
import Derived.Deep.QuietTactic
namespace Go.Proofs.Ytojiahdbgdgdcaa
open Go.RowKit Go.Maps
set_option linter.unusedVariables false
set_option linter.unusedSimpArgs false

set_option maxRecDepth 100000 in
set_option maxHeartbeats 1000000 in
theorem refs15_any (v : Value) (l : List Hd) (w : World) (hv : HdI w v l) (hl : l.length * 56 ≤ 140737488355328) : Calls Try.prog 10 #[v] w fun e w' => ∃ ad cap, e = .returned (.slice ad l.length cap) ∧ OwnH w' w.heap.size 37 (.slice ad l.length cap) l ∧ Below w.heap.size w w' := by
  obtain ⟨ad, cap, rfl, hc⟩ := hv.form
  have HC := hid hc
  have HL := hid hl
  have HTK : Hid (∀ (k : Nat) (hk : k < l.length), hqC (l.take (k + 1)) = hqC (l.take k) ++ hdC l[k]) := fun k hk => hqC_take l k hk
  have HZ : Hid (l.take l.length = l) := List.take_length
  have HR0 : Hid (w.ownsRow w.heap.size 37 4 (.slice none 0 0) 0 (hqC (l.take 0))) := ⟨rfl, .inl ⟨rfl, rfl⟩⟩
  clear hc hv hl
  go_enter Try.func10, Try.ntmps10
  go_wp2
  go_loopw [3, 4] (fun o i wr => ∃ (k : Nat) (ad1 : Option Addr) (cp1 : Nat), k ≤ l.length ∧ o = .slice ad1 k cp1 ∧ i = .int .i64 (k : Int) ∧ Hid (wr.ownsRow w.heap.size 37 4 (.slice ad1 k cp1) k (hqC (l.take k))) ∧ Hid (Below w.heap.size w wr)) (fun _ i _ => l.length - (intOf i).toNat)
  case atStart => exact ⟨0, none, 0, Nat.zero_le _, rfl, rfl, HR0, Below.refl _ _⟩
  case round =>
    clear HR0
    obtain ⟨k, ad1, cp1, hk, rfl, rfl, HR, HB⟩ := hrel
    by_cases hlt : k < l.length
    · have hk1 : (k : Int) < (l.length : Int) := by omega
      have hk0 : (0 : Int) ≤ (k : Int) := by omega
      obtain ⟨b, off, rfl, hb, c0, c1, c2, c3⟩ := HC.out k hlt
      have d0 := (HB.out.cell (p := ⟨b, off + k * 4, none⟩) hb).trans c0
      have d1 := (HB.out.cell (p := ⟨b, off + k * 4 + 1, none⟩) hb).trans c1
      have d2 := (HB.out.cell (p := ⟨b, off + k * 4 + 2, none⟩) hb).trans c2
      have d3 := (HB.out.cell (p := ⟨b, off + k * 4 + 3, none⟩) hb).trans c3
      have hwk : wrap64 ((k : Int) + 1) = ((k + 1 : Nat) : Int) := by have := HL.out; rw [IntWalk.wrap64_in _ (by omega)]; omega
      have HPL := hid (HTK.out k hlt)
      have HO1 := hid (hdC_one l[k])
      have HX1 : Hid (hdC l[k] = [.string l[k].tk, .string l[k].su, .string l[k].ou, .int .i64 l[k].at_]) := rfl
      have HX2 : Hid ((hdC l[k]).length = 1 * 4) := rfl
      have HB1 : Hid (k + 1 ≤ 4611686018427387904) := by have := HL.out; show _ ≤ _; omega
      have HB2 : Hid ((k + 1) * 56 ≤ 140737488355328) := by have := HL.out; show _ ≤ _; omega
      have HLT := hid hlt
      generalize l[k] = p at *
      obtain ⟨tk, su, ou, at_⟩ := p
      simp only at d0 d1 d2 d3 HX1
      generalize hdC ⟨tk, su, ou, at_⟩ = XS at *
      have HGA : Hid ((wr.alloc (.cells #[.string tk, .string su, .string ou, .int .i64 at_] 37)).ownsRow w.heap.size 37 4 (.slice ad1 k cp1) k (hqC (l.take k))) := (keep_alloc (fun _ => False) _ _).ownsRow HR.out (fun _ _ h => h)
      have HGX : Hid (GSrc (wr.alloc (.cells #[.string tk, .string su, .string ou, .int .i64 at_] 37)) (.slice (some ⟨wr.heap.size, 0, none⟩) 1 1) 1 XS) := by
        rw [HX1.out]; exact gsrc_block (heap_alloc_new _ _)
      have HSZ : Hid (w.heap.size ≤ (wr.alloc (.cells #[.string tk, .string su, .string ou, .int .i64 at_] 37)).heap.size) := Nat.le_trans HB.out.size (keep_alloc (fun _ => False) _ _).size
      have FIN : Hid (∀ ad' cap' w', w'.ownsRow w.heap.size 37 4 (.slice ad' (k + 1) cap') (k + 1) (hqC (l.take k) ++ XS) → Keep (fun j => (Value.slice ad1 k cp1).ownBlock = some j) (wr.alloc (.cells #[.string tk, .string su, .string ou, .int .i64 at_] 37)) w' → Hid (w'.ownsRow w.heap.size 37 4 (.slice ad' (k + 1) cap') (k + 1) (hqC (l.take (k + 1)))) ∧ Hid (Below w.heap.size w w')) := fun ad' cap' w' hr hk' => by
        refine ⟨?_, (below_al HB.out _).trans (keep_below hk' (fun j hj e => by have := ownsRow_ge HR.out e; omega) HSZ.out)⟩
        show World.ownsRow _ _ _ _ _ _ _
        rw [HPL.out]; exact hr
      clear HC HTK HZ c0 c1 c2 c3 hb HL HR HPL HX1 hlt hk
      go_wp2_with (at_builtin; refine wpl_gappL rfl _ _ elRH rfl w.heap.size (.slice ad1 k cp1) (.slice (some ⟨wr.heap.size, 0, none⟩) 1 1) (hqC (l.take k)) XS k 1 (k + 1) rfl rfl rfl HGA.out HSZ.out HGX.out HX2.out HO1.out HB1.out HB2.out ?_; intro ad' cap' w' hr' hk')
      obtain ⟨F1, F2⟩ := FIN.out _ _ _ hr' hk'
      clear hr' hk' FIN HGA HGX HSZ d0 d1 d2 d3
      go_wp2
      exact ⟨⟨k + 1, _, _, HLT.out, rfl, by first | rw [hwk] | rfl | simp, F1, F2⟩, by (try rw [hwk]); have := HLT.out; simp [intOf]; omega⟩
    · have hke : k = l.length := by omega
      have hd : decide ((k : Int) < (l.length : Int)) = false := decide_eq_false (by omega)
      have hd2 : decide (k < l.length) = false := decide_eq_false hlt
      have HF : Hid (wr.ownsRow w.heap.size 37 4 (.slice ad1 k cp1) l.length (hqC l)) := by
        have := HR.out
        rw [hke, HZ.out] at this
        rw [hke]
        exact this
      have HKE := hid hke
      clear HC HTK HZ HR HL hke hlt hk
      go_wp2
      go_ret
      refine ⟨ad1, cp1, ?_, ?_, HB.out⟩
      · rw [HKE.out]; rfl
      · have := HF.out; rw [HKE.out] at this; exact this
/-- the first that is kept with a token, from a place on -/
theorem findH_at (l : List Hd) (t : ByteArray) (k : Nat) (hk : k < l.length) : findH (l.drop k) t = if l[k].tk = t then some l[k] else findH (l.drop (k + 1)) t := by
  rw [List.drop_eq_getElem_cons hk]
  unfold findH
  by_cases h : l[k].tk = t
  · rw [if_pos h, List.find?_cons_of_pos (by simpa using h)]
  · rw [if_neg h, List.find?_cons_of_neg (by simpa using h)]
set_option maxRecDepth 100000 in
set_option maxHeartbeats 2000000 in
theorem rlook15_any (v : Value) (q : List Hd) (t s : ByteArray) (w : World) (hv : HdI w v q) (hl : q.length ≤ 8796093022208) (hs : ∀ y ∈ q, y.tk.size ≤ 140737488355328 ∧ y.su.size ≤ 140737488355328) : Calls Try.prog 9 #[v, .string t, .string s] w fun e w' => e = .returned (.tuple #[.int .i64 (lookN q t s), .string (lookS q t s)]) ∧ Below w.heap.size w w' := by
  obtain ⟨ad, cap, rfl, hc⟩ := hv.form
  have HC := hid hc
  have IT := hid (may15_any _ q w hv hl hs)
  have HN : Hid (lookN q t s = if isTb q = true then fdN s (findH q t) else 2) := rfl
  have HS : Hid (lookS q t s = if isTb q = true then fdS s (findH q t) else ⟨#[]⟩) := rfl
  have HF0 : Hid (findH q t = findH (q.drop 0) t) := rfl
  have HFA : Hid (∀ (k : Nat) (hk : k < q.length), findH (q.drop k) t = if q[k].tk = t then some q[k] else findH (q.drop (k + 1)) t) := fun k hk => findH_at q t k hk
  have HLN : Hid (isTb q = true → q.length ≤ 64) := isTb_len
  generalize lookN q t s = RN at *
  generalize lookS q t s = RS at *
  generalize isTb q = IS at *
  generalize findH q t = FO at *
  clear hc hv hs hl
  go_enter Try.func9, Try.ntmps9
  go_wp2_with fail
  refine IT.out.mono ?_
  rintro e w1 ⟨rfl, b1⟩
  have B1 := hid b1
  clear IT b1
  cases IS
  · have hn : RN = 2 := HN.out
    have hs : RS = ⟨#[]⟩ := HS.out
    subst hn hs
    clear HC HN HS HF0 HFA HLN
    go_wp2
    go_ret2
    exact ⟨rfl, B1.out⟩
  have HN2 : Hid (RN = fdN s FO) := HN.out
  have HS2 : Hid (RS = fdS s FO) := HS.out
  have HL := hid (HLN.out rfl)
  clear HN HS HLN
  go_wp2
  go_loopw [8] (fun i wr => ∃ (k : Nat), k ≤ q.length ∧ i = .int .i64 (k : Int) ∧ Hid (Below w.heap.size w wr) ∧ Hid (FO = findH (q.drop k) t)) (fun i _ => q.length - (intOf i).toNat)
  case atStart => exact ⟨0, Nat.zero_le _, rfl, B1, HF0⟩
  case round =>
    clear HF0
    obtain ⟨k, hk, rfl, HB, HF⟩ := hrel
    by_cases hlt : k < q.length
    · have hk1 : (k : Int) < (q.length : Int) := by omega
      have hk0 : (0 : Int) ≤ (k : Int) := by omega
      have hwk : wrap64 ((k : Int) + 1) = ((k + 1 : Nat) : Int) := by have := HL.out; rw [IntWalk.wrap64_in _ (by omega)]; omega
      obtain ⟨b, off, rfl, hb, c0, c1, c2, c3⟩ := HC.out k hlt
      have d0 := (HB.out.cell (p := ⟨b, off + k * 4, none⟩) hb).trans c0
      have d1 := (HB.out.cell (p := ⟨b, off + k * 4 + 1, none⟩) hb).trans c1
      have d2 := (HB.out.cell (p := ⟨b, off + k * 4 + 2, none⟩) hb).trans c2
      have HF2 : Hid (FO = if q[k].tk = t then some q[k] else findH (q.drop (k + 1)) t) := by show _ = _; rw [HF.out, HFA.out k hlt]
      have HLT := hid hlt
      clear HC HF c0 c1 c2 c3 hb HFA
      generalize q[k] = y at *
      obtain ⟨tk, su, ou, at_⟩ := y
      simp only at *
      have hkL : (k : Int) < 65 := by have := HL.out; omega
      clear hlt hk HL
      by_cases hi : tk = t
      · have g1 : (tk.toList == t.toList) = true := by rw [hi]; simp
        have hr : FO = some ⟨tk, su, ou, at_⟩ := by rw [HF2.out, if_pos hi]
        by_cases he : su = s
        · have g2 : (su.toList == s.toList) = true := by rw [he]; simp
          have hn : RN = 1 := by rw [HN2.out, hr]; simp [fdN, he]
          have hs : RS = ou := by rw [HS2.out, hr]; simp [fdS, he]
          have BDD : Hid (∀ n, Below w.heap.size w (wr.drewN n)) := fun n => below_drewN HB.out n
          subst hn hs
          clear HN2 HS2 HF2 hi hr he
          go_wp2
          go_quiet (fail)
          go_wp2
          go_ret2
          exact ⟨rfl, BDD.out _⟩
        · have g2 : (su.toList == s.toList) = false := by rw [tl_eq, decide_eq_false he]
          have hn : RN = 2 := by rw [HN2.out, hr]; simp [fdN, he]
          have hs : RS = ⟨#[]⟩ := by rw [HS2.out, hr]; simp [fdS, he]
          subst hn hs
          clear HN2 HS2 HF2 hi hr he
          go_wp2
          go_ret2
          exact ⟨rfl, HB.out⟩
      · have g1 : (tk.toList == t.toList) = false := by rw [tl_eq, decide_eq_false hi]
        have HF3 : Hid (FO = findH (q.drop (k + 1)) t) := by show _ = _; rw [HF2.out, if_neg hi]
        clear HN2 HS2 HF2 hi
        go_wp2
        exact ⟨⟨k + 1, HLT.out, by first | rw [hwk] | rfl | simp, HB, HF3⟩, by (try rw [hwk]); have := HLT.out; simp [intOf]; omega⟩
    · have hd : decide ((k : Int) < (q.length : Int)) = false := decide_eq_false (by omega)
      have hd2 : decide (k < q.length) = false := decide_eq_false hlt
      have hr : FO = none := by rw [HF.out, List.drop_eq_nil_of_le (by omega)]; rfl
      have hn : RN = 0 := by rw [HN2.out, hr]; rfl
      have hs : RS = ⟨#[]⟩ := by rw [HS2.out, hr]; rfl
      subst hn hs
      clear HC HF HL HN2 HS2 hr hlt hk HFA
      go_wp2
      go_ret2
      exact ⟨rfl, HB.out⟩
theorem guardHd : Try.prog.eqGuardType Try.prog.depth 37 = false := by kernel_rfl
theorem eqlHd (X Y Z : ByteArray) (a : Int) (W : World) : (binOp .eql 37 (.agg #[.string X, .string Y, .string Z, .int .i64 a]) (.agg #[.string X, .string Y, .string Z, .int .i64 a])).run Try.prog W = .ok (.bool true) W := by
  have u9 := Try.underlying9
  have u4 := Try.underlying3
  have z9 := Try.sizeOf9
  have z4 := Try.sizeOf3
  have a9 := Try.isAgg9
  have a4 := Try.isAgg3
  have hS : Try.prog.underlying 37 = some (.struct (Try.prog.fieldsOf 37)) := by kernel_rfl
  have hp : Try.prog.stoodInHeld 37 = false := by kernel_rfl
  rw [run_eql_struct, show (10000 : Nat) = 9999 + 1 from rfl, run_equalIn_agg W 9999 37 _ _ hS hp]
  simp only [Program.fieldsOf, Try.underlying37]
  go_simp
theorem neqHd (X Y Z : ByteArray) (a : Int) (W : World) : (binOp .neq 37 (.agg #[.string X, .string Y, .string Z, .int .i64 a]) (.agg #[.string X, .string Y, .string Z, .int .i64 a])).run Try.prog W = .ok (.bool false) W := by
  have h := eqlHd X Y Z a W
  rw [run_eql_struct] at h
  rw [run_neq_struct]
  generalize (Op.equalIn 10000 37 (.agg #[.string X, .string Y, .string Z, .int .i64 a]) (.agg #[.string X, .string Y, .string Z, .int .i64 a])).run Try.prog W = R at *
  cases R with
  | ok r W1 =>
    simp only [Result.andThen_ok] at h ⊢
    injection h with h1 h2
    injection h1 with h1
    rw [h1, h2]
    rfl
  | _ => cases h
set_option maxRecDepth 100000 in
set_option maxHeartbeats 2000000 in
theorem same15_true (v1 v2 : Value) (q : List Hd) (w : World) (h1 : HdI w v1 q) (h2 : HdI w v2 q) (hl : q.length ≤ 8796093022208) : Calls Try.prog 16 #[v1, v2] w fun e w' => e = .returned (.bool true) ∧ Below w.heap.size w w' := by
  obtain ⟨a1, c1, rfl, g1⟩ := h1.form
  obtain ⟨a2, c2, rfl, g2⟩ := h2.form
  have HC : Hid (∀ (k : Nat) (hk : k < q.length) (W : World), Below w.heap.size w W → ∃ b1 o1 b2 o2 X Y Z F, a1 = some ⟨b1, o1, none⟩ ∧ a2 = some ⟨b2, o2, none⟩ ∧ (W.cell? ⟨b1, o1 + k * 4, none⟩ = some (.string X) ∧ W.cell? ⟨b1, o1 + k * 4 + 1, none⟩ = some (.string Y) ∧ W.cell? ⟨b1, o1 + k * 4 + 2, none⟩ = some (.string Z) ∧ W.cell? ⟨b1, o1 + k * 4 + 3, none⟩ = some (.int .i64 F)) ∧ (W.cell? ⟨b2, o2 + k * 4, none⟩ = some (.string X) ∧ W.cell? ⟨b2, o2 + k * 4 + 1, none⟩ = some (.string Y) ∧ W.cell? ⟨b2, o2 + k * 4 + 2, none⟩ = some (.string Z) ∧ W.cell? ⟨b2, o2 + k * 4 + 3, none⟩ = some (.int .i64 F))) := by
    intro k hk W hW
    obtain ⟨b1, o1, e1, hb1, p0, p1, p2, p3⟩ := g1 k hk
    obtain ⟨b2, o2, e2, hb2, q0, q1, q2, q3⟩ := g2 k hk
    exact ⟨b1, o1, b2, o2, _, _, _, _, e1, e2, ⟨(hW.cell (p := ⟨b1, o1 + k * 4, none⟩) hb1).trans p0, (hW.cell (p := ⟨b1, o1 + k * 4 + 1, none⟩) hb1).trans p1, (hW.cell (p := ⟨b1, o1 + k * 4 + 2, none⟩) hb1).trans p2, (hW.cell (p := ⟨b1, o1 + k * 4 + 3, none⟩) hb1).trans p3⟩, ⟨(hW.cell (p := ⟨b2, o2 + k * 4, none⟩) hb2).trans q0, (hW.cell (p := ⟨b2, o2 + k * 4 + 1, none⟩) hb2).trans q1, (hW.cell (p := ⟨b2, o2 + k * 4 + 2, none⟩) hb2).trans q2, (hW.cell (p := ⟨b2, o2 + k * 4 + 3, none⟩) hb2).trans q3⟩⟩
  clear h1 h2 g1 g2
  generalize q.length = n at *
  have e5 : ((n : Int) != (n : Int)) = false := by simp
  have hg := guardHd
  go_enter Try.func16, Try.ntmps16
  go_wp2
  clear e5
  go_loopw [5] (fun i wr => ∃ k : Nat, k ≤ n ∧ i = .int .i64 k ∧ Hid (Below w.heap.size w wr)) (fun i _ => n - (intOf i).toNat)
  case atStart => exact ⟨0, by omega, rfl, Below.refl _ _⟩
  case round =>
    obtain ⟨k, hk, rfl, HB⟩ := hrel
    by_cases hlt : k < n
    · have hk0 : (0 : Int) ≤ (k : Int) := by omega
      have hk1 : (k : Int) < (n : Int) := by omega
      obtain ⟨b1, o1, b2, o2, X, Y, Z, F, e1, e2, ⟨p0, p1, p2, p3⟩, ⟨q0, q1, q2, q3⟩⟩ := HC.out k hlt wr HB.out
      subst e1 e2
      have hq := fun W => neqHd X Y Z F W
      have BDD : Hid (∀ n, Below w.heap.size w (wr.drewN n)) := fun n => below_drewN HB.out n
      clear HC
      go_wp2
      go_quiet (fail)
      have HB2 := hid (BDD.out nq)
      clear HB BDD p0 p1 p2 p3 q0 q1 q2 q3
      go_wp2
      exact ⟨⟨k + 1, by omega, by go_num, HB2⟩, by simp [intOf]; omega⟩
    · have hd : decide ((k : Int) < (n : Int)) = false := decide_eq_false (by omega)
      have hd2 : decide (k < n) = false := decide_eq_false hlt
      clear HC
      go_wp2
      go_ret
      exact ⟨rfl, HB.out⟩
end Go.Proofs.Ytojiahdbgdgdcaa
namespace Go.Proofs.Ytojiahdbgdgdcaa
open Go.RowKit Go.Maps
set_option linter.unusedVariables false
set_option linter.unusedSimpArgs false

/-- those ahead of a token -/
def fltH (t : ByteArray) (l : List Hd) : List Hd := l.filter (fun h => bb h.tk t)
theorem fltH_yes (t : ByteArray) (l : List Hd) (k : Nat) (hk : k < l.length) (h : bb l[k].tk t = true) : fltH t (l.take (k + 1)) = fltH t (l.take k) ++ [l[k]] := by
  unfold fltH
  rw [List.take_succ_eq_append_getElem hk, List.filter_append, List.filter_cons_of_pos (by exact h), List.filter_nil]
theorem fltH_no (t : ByteArray) (l : List Hd) (k : Nat) (hk : k < l.length) (h : bb l[k].tk t = false) : fltH t (l.take (k + 1)) = fltH t (l.take k) := by
  unfold fltH
  rw [List.take_succ_eq_append_getElem hk, List.filter_append, List.filter_cons_of_neg (by rw [h]; simp), List.filter_nil, List.append_nil]
theorem fltH_len (t : ByteArray) (l : List Hd) (k : Nat) : (fltH t (l.take k)).length ≤ l.length := by
  have h1 : (fltH t (l.take k)).length ≤ (l.take k).length := List.length_filter_le ..
  have h2 : (l.take k).length ≤ l.length := by rw [List.length_take]; omega
  omega
theorem fltH_take : ∀ {l : List Hd} {t : ByteArray}, l.Pairwise (fun a b => bb a.tk b.tk = true) → fltH t l = l.take (plH l t)
  | [], t, _ => by simp [fltH]
  | a :: r, t, h => by
    cases h with
    | cons h1 h2 =>
      cases ha : bb a.tk t with
      | true =>
        have e1 : fltH t (a :: r) = a :: fltH t r := by unfold fltH; rw [List.filter_cons_of_pos (by exact ha)]
        have e2 : plH (a :: r) t = plH r t + 1 := by unfold plH; rw [List.countP_cons_of_pos (p := fun h : Hd => bb h.tk t) (a := a) (l := r) ha]
        rw [e1, e2, List.take_succ_cons, fltH_take h2]
      | false =>
        have hn : ∀ b ∈ r, bb b.tk t = false := fun b hb => by
          cases hb2 : bb b.tk t with
          | false => rfl
          | true => rw [bb_trans (h1 b hb) hb2] at ha; cases ha
        have e1 : fltH t (a :: r) = [] := by
          unfold fltH
          rw [List.filter_eq_nil_iff]
          intro b hb
          rcases List.mem_cons.1 hb with e | e
          · rw [e, ha]; simp
          · rw [hn b e]; simp
        have e2 : plH (a :: r) t = 0 := by
          unfold plH
          rw [List.countP_eq_zero]
          intro b hb
          rcases List.mem_cons.1 hb with e | e
          · rw [e, ha]; simp
          · rw [hn b e]; simp
        rw [e1, e2, List.take_zero]
theorem hasH_no {l : List Hd} {t : ByteArray} (h : ∀ j (h : j < l.length), l[j].tk ≠ t) : hasH l t = false := by
  unfold hasH
  rw [List.any_eq_false]
  intro x hx
  obtain ⟨j, hj, rfl⟩ := List.getElem_of_mem hx
  simpa using h j hj
theorem hasH_yes {l : List Hd} {t : ByteArray} (j : Nat) (h : j < l.length) (e : l[j].tk = t) : hasH l t = true := by
  unfold hasH
  rw [List.any_eq_true]
  exact ⟨l[j], List.getElem_mem h, by simpa using e⟩
theorem own_drewN {w : World} {B e s n : Nat} {v : Value} {xs : List Value} (h : w.ownsRow B e s v n xs) (q : Nat) : (w.drewN q).ownsRow B e s v n xs := ((below_drew0 w q).keep (fun _ => False)).ownsRow h (fun _ _ h => h)
set_option maxRecDepth 100000 in
set_option maxHeartbeats 4000000 in
theorem rnote15_any (v : Value) (q : List Hd) (x : Hd) (w : World) (hv : HdI w v q) (hl : q.length ≤ 8796093022208) (hs : ∀ y ∈ q, y.tk.size ≤ 140737488355328 ∧ y.su.size ≤ 140737488355328) (hx1 : x.tk.size ≤ 140737488355328) (hx2 : x.su.size ≤ 140737488355328) : Calls Try.prog 13 #[v, hdV x] w (GiveH w 37 (noteL q x) (noteE q x)) := by
  obtain ⟨ad, cap, rfl, hc⟩ := hv.form
  have HCK : Hid (∀ (k : Nat) (hk : k < q.length), ∃ b off, ad = some ⟨b, off, none⟩ ∧ ∀ W, Below w.heap.size w W → W.cell? ⟨b, off + k * 4, none⟩ = some (.string q[k].tk) ∧ W.cell? ⟨b, off + k * 4 + 1, none⟩ = some (.string q[k].su) ∧ W.cell? ⟨b, off + k * 4 + 2, none⟩ = some (.string q[k].ou) ∧ W.cell? ⟨b, off + k * 4 + 3, none⟩ = some (.int .i64 q[k].at_)) := fun k hk => by
    obtain ⟨b, off, e, hb, c0, c1, c2, c3⟩ := hc k hk
    exact ⟨b, off, e, fun W hB => ⟨(hB.cell (p := ⟨b, off + k * 4, none⟩) hb).trans c0, (hB.cell (p := ⟨b, off + k * 4 + 1, none⟩) hb).trans c1, (hB.cell (p := ⟨b, off + k * 4 + 2, none⟩) hb).trans c2, (hB.cell (p := ⟨b, off + k * 4 + 3, none⟩) hb).trans c3⟩⟩
  have BM := hid (Bx.made (Below.refl w.heap.size w) [.string x.tk, .string x.su, .string x.ou, .int .i64 x.at_] 37)
  have IT := hid (may15_any _ q _ (hv.next BM.out.b) hl hs)
  have MB := hid (fun W => one15_any x W hx1 hx2)
  have HE : Hid (noteE q x = if isTb q = true ∧ hdOk x = true then (if hasH q x.tk = true then 71 else if q.length = 64 then 131 else 0) else 1) := rfl
  have HNL : Hid (noteL q x = if noteE q x = 0 then insH q x else []) := rfl
  have HLN : Hid (isTb q = true → q.length ≤ 64) := isTb_len
  have HYES : Hid (∀ (k : Nat) (hk : k < q.length), bb q[k].tk x.tk = true → fltH x.tk (q.take (k + 1)) = fltH x.tk (q.take k) ++ [q[k]]) := fun k hk h => fltH_yes x.tk q k hk h
  have HNO : Hid (∀ (k : Nat) (hk : k < q.length), bb q[k].tk x.tk = false → fltH x.tk (q.take (k + 1)) = fltH x.tk (q.take k)) := fun k hk h => fltH_no x.tk q k hk h
  have HFL : Hid (∀ k, (fltH x.tk (q.take k)).length ≤ q.length) := fun k => fltH_len x.tk q k
  have HHN : Hid ((∀ j (h : j < q.length), q[j].tk ≠ x.tk) → hasH q x.tk = false) := hasH_no
  have HHY : Hid (∀ j (h : j < q.length), q[j].tk = x.tk → hasH q x.tk = true) := fun j h e => hasH_yes j h e
  have HFT : Hid (isTb q = true → fltH x.tk (q.take q.length) = q.take (plH q x.tk)) := fun h => by rw [List.take_length]; exact fltH_take (isTb_rise h)
  have HPL := hid (plH_le q x.tk)
  obtain ⟨ad5, cap5, r5, s5⟩ := rowc_from elRH (show RowC w (.slice ad q.length cap) q.length (hqC q) from hv) (hqC_len q) (plH_le q x.tk)
  rw [hqC_dr q _ (plH_le q x.tk)] at r5
  have S5 := hid s5
  have R5 := hid r5
  have HIN : Hid (hqC (q.take (plH q x.tk)) ++ hdC x ++ hqC (q.drop (plH q x.tk)) = hqC (insH q x)) := by
    show _ = _
    unfold insH
    rw [hqC_app, show x :: q.drop (plH q x.tk) = [x] ++ q.drop (plH q x.tk) from rfl, hqC_app, hqC_one, List.append_assoc]
  have HIL := hid (insH_len q x)
  have HTL : Hid ((q.take (plH q x.tk)).length = plH q x.tk) := by show _ = _; rw [List.length_take, Nat.min_eq_left (plH_le q x.tk)]
  have HDL : Hid ((hqC (q.drop (plH q x.tk))).length = (q.length - plH q x.tk) * 4) := by show _ = _; rw [hqC_len, List.length_drop]
  have HD1 := hid (hqC_one' (q.drop (plH q x.tk)))
  have HXC := hid (hdC_one x)
  have HXL : Hid ((hdC x).length = 1 * 4) := rfl
  have HXS : Hid (hdC x = [.string x.tk, .string x.su, .string x.ou, .int .i64 x.at_]) := rfl
  have HCE : Hid (∀ W, Bx w w.heap.size [.string x.tk, .string x.su, .string x.ou, .int .i64 x.at_] 37 W → W.cell? ⟨w.heap.size, 0, none⟩ = some (.string x.tk) ∧ W.cell? ⟨w.heap.size, 1, none⟩ = some (.string x.su) ∧ W.cell? ⟨w.heap.size, 2, none⟩ = some (.string x.ou) ∧ W.cell? ⟨w.heap.size, 3, none⟩ = some (.int .i64 x.at_)) := fun W hW => ⟨hW.row.cellAt rfl, hW.row.cellAt rfl, hW.row.cellAt rfl, hW.row.cellAt rfl⟩
  clear hc hv hl hs hx1 hx2 s5 r5
  unfold hdV
  generalize noteE q x = NE at *
  generalize noteL q x = NL at *
  generalize insH q x = IH at *
  generalize isTb q = IS at *
  generalize hdOk x = OK at *
  generalize hasH q x.tk = HB at *
  generalize hqC (q.drop (plH q x.tk)) = QD at *
  generalize hqt : q.take (plH q x.tk) = QT at *
  clear hqt
  generalize plH q x.tk = PN at *
  generalize hdC x = XS at *
  obtain ⟨tk, su, ou, at_⟩ := x
  simp only at *
  go_enter Try.func13, Try.ntmps13
  go_wp2_with fail
  refine IT.out.mono ?_
  rintro e w1 ⟨rfl, b1⟩
  have B1 := hid (BM.out.next b1)
  clear IT b1 BM
  cases IS
  · have hne : NE = 1 := by rw [HE.out]; simp
    subst hne
    have hnl : NL = [] := by rw [HNL.out]; simp
    subst hnl
    clear MB HE HNL HLN HCK HYES HNO HFL HHN HHY HFT HPL S5 R5 HIN HIL HTL HDL HD1 HXC HXL HXS HCE
    go_wp2
    go_ret2
    exact giveH_none B1.out.b
  obtain ⟨y0, y1, y2, y3⟩ := HCE.out _ B1.out
  have HL := hid (HLN.out rfl)
  have HF2 := hid (HFT.out rfl)
  clear HLN HFT
  go_wp2_with fail
  refine (MB.out _).mono ?_
  rintro e w2 ⟨rfl, b2⟩
  have B2 := hid (B1.out.next b2)
  clear MB b2 B1 y0 y1 y2 y3
  cases OK
  · have hne : NE = 1 := by rw [HE.out]; simp
    subst hne
    have hnl : NL = [] := by rw [HNL.out]; simp
    subst hnl
    clear HE HNL HCK HYES HNO HFL HHN HHY HF2 HPL S5 R5 HIN HIL HTL HDL HD1 HXC HXL HXS HCE HL
    go_wp2
    go_ret2
    exact giveH_none B2.out.b
  have HE2 : Hid (NE = (if HB = true then 71 else if q.length = 64 then 131 else 0)) := by show _ = _; rw [HE.out]; simp
  clear HE
  have HR0 : Hid (w2.ownsRow (w.heap.size + 1) 37 4 (.slice none 0 0) (fltH tk (q.take 0)).length (hqC (fltH tk (q.take 0)))) := ⟨rfl, .inl ⟨rfl, rfl⟩⟩
  have HN0 : Hid (∀ j (h : j < q.length), j < 0 → q[j].tk ≠ tk) := fun j h hj => by omega
  go_wp2
  go_loopw [6, 7] (fun o i wr => ∃ (k : Nat) (ad1 : Option Addr) (cp1 : Nat), k ≤ q.length ∧ o = .slice ad1 (fltH tk (q.take k)).length cp1 ∧ i = .int .i64 (k : Int) ∧ Hid (wr.ownsRow (w.heap.size + 1) 37 4 (.slice ad1 (fltH tk (q.take k)).length cp1) (fltH tk (q.take k)).length (hqC (fltH tk (q.take k)))) ∧ Hid (Bx w w.heap.size [.string tk, .string su, .string ou, .int .i64 at_] 37 wr) ∧ Hid (∀ j (h : j < q.length), j < k → q[j].tk ≠ tk)) (fun _ i _ => q.length - (intOf i).toNat)
  case atStart => exact ⟨0, none, 0, Nat.zero_le _, rfl, rfl, HR0, B2, HN0⟩
  case round =>
    clear HR0 HN0 B2
    obtain ⟨k, ad1, cp1, hk, rfl, rfl, HR, HB1, HN⟩ := hrel
    by_cases hlt : k < q.length
    · have hk1 : (k : Int) < (q.length : Int) := by omega
      have hk0 : (0 : Int) ≤ (k : Int) := by omega
      have hwk : wrap64 ((k : Int) + 1) = ((k + 1 : Nat) : Int) := by have := HL.out; rw [IntWalk.wrap64_in _ (by omega)]; omega
      obtain ⟨b, off, rfl, hcc⟩ := HCK.out k hlt
      have HCC := hid hcc
      obtain ⟨d0, d1, d2, d3⟩ := hcc _ HB1.out.b
      obtain ⟨y0, y1, y2, y3⟩ := HCE.out _ HB1.out
      have HLT := hid hlt
      have HY1 := hid (HYES.out k hlt)
      have HN1 := hid (HNO.out k hlt)
      have HT1 := hid (HHY.out k hlt)
      have HNN : Hid (q[k].tk ≠ tk → ∀ j (h : j < q.length), j < k + 1 → q[j].tk ≠ tk) := fun h j hj hjk => by
        rcases Nat.lt_or_eq_of_le (Nat.le_of_lt_succ hjk) with h2 | h2
        · exact HN.out j hj h2
        · subst h2; exact h
      have HO1 := hid (hdC_one q[k])
      have HX2 : Hid ((hdC q[k]).length = 1 * 4) := rfl
      have HZS : Hid (hdC q[k] = [.string q[k].tk, .string q[k].su, .string q[k].ou, .int .i64 q[k].at_]) := rfl
      have HQ1 : Hid (hqC (fltH tk (q.take k) ++ [q[k]]) = hqC (fltH tk (q.take k)) ++ hdC q[k] ∧ (fltH tk (q.take k) ++ [q[k]]).length = (fltH tk (q.take k)).length + 1) := ⟨by rw [hqC_app, hqC_one], by simp⟩
      have HFk := hid (HFL.out k)
      have hkL : (k : Int) < 65 := by have := HL.out; omega
      clear HCK HYES HNO HFL HHN HHY HF2 HPL S5 R5 HIN HIL HTL HDL HD1 HXC HXL HXS hcc HN hk
      generalize q[k] = z at *
      obtain ⟨zt, zs, zo, za⟩ := z
      simp only at *
      generalize hdC _ = ZS at *
      clear hlt
      by_cases hi : zt = tk
      · have g1 : (zt.toList == tk.toList) = true := by rw [hi]; simp
        have hh : HB = true := HT1.out hi
        subst hh
        have hne : NE = 71 := by rw [HE2.out]; simp
        subst hne
        have hnl : NL = [] := by rw [HNL.out]; simp
        subst hnl
        have BDD : Hid (∀ n, Below w.heap.size w (wr.drewN n)) := fun n => below_drewN HB1.out.b n
        clear HNL HCE HL HE2 HCC HY1 HN1 HT1 HNN HO1 HX2 HZS HQ1 HFk HR HB1 hi
        go_wp2
        go_quiet (fail)
        go_wp2
        go_ret2
        exact giveH_none (BDD.out _)
      · have g1 : (zt.toList == tk.toList) = false := by rw [tl_eq, decide_eq_false hi]
        have HN2 := hid (HNN.out hi)
        clear HNN HT1 hi HE2 HNL
        cases hbb : bb zt tk
        · have g2 : Op.bytesLess zt.toList tk.toList = false := by rw [bb_less, hbb]
          have e1 := HN1.out hbb
          have HE1 := hid e1
          have BDD : Hid (∀ n m, Bx w w.heap.size [.string tk, .string su, .string ou, .int .i64 at_] 37 ((wr.drewN n).drewN m) ∧ ((wr.drewN n).drewN m).ownsRow (w.heap.size + 1) 37 4 (.slice ad1 (fltH tk (q.take (k + 1))).length cp1) (fltH tk (q.take (k + 1))).length (hqC (fltH tk (q.take (k + 1))))) := fun n m => ⟨(HB1.out.drewN n).drewN m, by rw [e1]; exact own_drewN (own_drewN HR.out n) m⟩
          have CELL : Hid (∀ n, ((wr.drewN n).cell? ⟨b, off + k * 4, none⟩ = some (.string zt)) ∧ ((wr.drewN n).cell? ⟨w.heap.size, 0, none⟩ = some (.string tk))) := fun n => ⟨(HCC.out _ (HB1.out.drewN n).b).1, (HCE.out _ (HB1.out.drewN n)).1⟩
          clear HCE HCC HY1 HN1 HO1 HX2 HZS HQ1 HFk HR HB1 hbb e1 HL
          go_wp2
          go_quiet (fail)
          obtain ⟨d0', y0'⟩ := CELL.out nq
          have BD2 := hid (fun m => BDD.out nq m)
          clear CELL BDD d0 d1 d2 d3 y0 y1 y2 y3
          generalize wr.drewN nq = wa at *
          clear nq
          go_wp2
          go_quiet (fail)
          obtain ⟨F1, F2⟩ := BD2.out nq
          have G1 := hid F1
          have G2 := hid F2
          clear BD2 d0' y0' F1 F2
          go_wp2
          exact ⟨⟨k + 1, ad1, cp1, HLT.out, by rw [HE1.out], by first | rw [hwk] | rfl | simp, G2, G1, HN2⟩, by (try rw [hwk]); have := HLT.out; simp [intOf]; omega⟩
        · have g2 : Op.bytesLess zt.toList tk.toList = true := by rw [bb_less, hbb]
          have e1 := HY1.out hbb
          have HE1 : Hid ((fltH tk (q.take (k + 1))).length = (fltH tk (q.take k)).length + 1) := by show _ = _; rw [e1]; exact HQ1.out.2
          have HE2 : Hid (hqC (fltH tk (q.take (k + 1))) = hqC (fltH tk (q.take k)) ++ ZS) := by show _ = _; rw [e1]; exact HQ1.out.1
          have HB3 : Hid ((fltH tk (q.take k)).length + 1 ≤ 4611686018427387904) := by have := HFk.out; have := HL.out; show _ ≤ _; omega
          have HB4 : Hid (((fltH tk (q.take k)).length + 1) * 56 ≤ 140737488355328) := by have := HFk.out; have := HL.out; show _ ≤ _; omega
          have BDD : Hid (∀ n m, Bx w w.heap.size [.string tk, .string su, .string ou, .int .i64 at_] 37 ((wr.drewN n).drewN m) ∧ ((wr.drewN n).drewN m).ownsRow (w.heap.size + 1) 37 4 (.slice ad1 (fltH tk (q.take k)).length cp1) (fltH tk (q.take k)).length (hqC (fltH tk (q.take k)))) := fun n m => ⟨(HB1.out.drewN n).drewN m, own_drewN (own_drewN HR.out n) m⟩
          have CELL : Hid (∀ n, ((wr.drewN n).cell? ⟨b, off + k * 4, none⟩ = some (.string zt)) ∧ ((wr.drewN n).cell? ⟨w.heap.size, 0, none⟩ = some (.string tk))) := fun n => ⟨(HCC.out _ (HB1.out.drewN n).b).1, (HCE.out _ (HB1.out.drewN n)).1⟩
          clear HCE HY1 HN1 HQ1 HFk HR HB1 hbb e1 HL
          go_wp2
          go_quiet (fail)
          obtain ⟨d0', y0'⟩ := CELL.out nq
          have BD2 := hid (fun m => BDD.out nq m)
          clear CELL BDD d0 d1 d2 d3 y0 y1 y2 y3
          generalize wr.drewN nq = wa at *
          clear nq
          go_wp2
          go_quiet (fail)
          obtain ⟨F1, F2⟩ := BD2.out nq
          have G1 := hid F1
          have G2 := hid F2
          clear BD2 d0' y0' F1 F2
          generalize wa.drewN nq = wb at *
          clear nq wa
          obtain ⟨d0, d1, d2, d3⟩ := HCC.out _ G1.out.b
          have BA := hid (G1.out.al (.cells #[.string zt, .string zs, .string zo, .int .i64 za] 37))
          have HGA : Hid ((wb.alloc (.cells #[.string zt, .string zs, .string zo, .int .i64 za] 37)).ownsRow (w.heap.size + 1) 37 4 (.slice ad1 (fltH tk (q.take k)).length cp1) (fltH tk (q.take k)).length (hqC (fltH tk (q.take k)))) := (keep_alloc (fun _ => False) _ _).ownsRow G2.out (fun _ _ h => h)
          have HGX : Hid (GSrc (wb.alloc (.cells #[.string zt, .string zs, .string zo, .int .i64 za] 37)) (.slice (some ⟨wb.heap.size, 0, none⟩) 1 1) 1 ZS) := by
            rw [HZS.out]; exact gsrc_block (heap_alloc_new _ _)
          have HSZ : Hid (w.heap.size + 1 ≤ (wb.alloc (.cells #[.string zt, .string zs, .string zo, .int .i64 za] 37)).heap.size) := BA.out.row.lt
          have FIN : Hid (∀ ad' cap' w', w'.ownsRow (w.heap.size + 1) 37 4 (.slice ad' ((fltH tk (q.take k)).length + 1) cap') ((fltH tk (q.take k)).length + 1) (hqC (fltH tk (q.take k)) ++ ZS) → Keep (fun j => (Value.slice ad1 (fltH tk (q.take k)).length cp1).ownBlock = some j) (wb.alloc (.cells #[.string zt, .string zs, .string zo, .int .i64 za] 37)) w' → Hid (w'.ownsRow (w.heap.size + 1) 37 4 (.slice ad' (fltH tk (q.take (k + 1))).length cap') (fltH tk (q.take (k + 1))).length (hqC (fltH tk (q.take (k + 1))))) ∧ Hid (Bx w w.heap.size [.string tk, .string su, .string ou, .int .i64 at_] 37 w')) := fun ad' cap' w' hr hk' => by
            have hge : ∀ g, (Value.slice ad1 (fltH tk (q.take k)).length cp1).ownBlock = some g → w.heap.size + 1 ≤ g := fun g e => ownsRow_ge G2.out e
            refine ⟨?_, ⟨BA.out.row.keep hk' (fun e => by have := hge _ e; omega), BA.out.b.trans (keep_below hk' (fun j hj e => by have := hge _ e; omega) BA.out.b.size)⟩⟩
            show World.ownsRow _ _ _ _ _ _ _
            rw [HE1.out, HE2.out]; exact hr
          clear G1 G2 BA HZS HE2 HCC
          generalize hqC (fltH tk (q.take k)) = PA at *
          generalize (fltH tk (q.take k)).length = n0 at *
          go_wp2_with (at_builtin; refine wpl_gappL rfl _ _ elRH rfl (w.heap.size + 1) (.slice ad1 n0 cp1) (.slice (some ⟨wb.heap.size, 0, none⟩) 1 1) PA ZS n0 1 (n0 + 1) rfl rfl rfl HGA.out HSZ.out HGX.out HX2.out HO1.out HB3.out HB4.out ?_; intro ad' cap' w' hr' hk')
          obtain ⟨F1, F2⟩ := FIN.out _ _ _ hr' hk'
          clear hr' hk' FIN HGA HGX HSZ d0 d1 d2 d3
          go_wp2
          exact ⟨⟨k + 1, _, _, HLT.out, by rw [HE1.out], by first | rw [hwk] | rfl | simp, F1, F2, HN2⟩, by (try rw [hwk]); have := HLT.out; simp [intOf]; omega⟩
    · have hke : k = q.length := by omega
      have hd : decide ((k : Int) < (q.length : Int)) = false := decide_eq_false (by omega)
      have hd2 : decide (k < q.length) = false := decide_eq_false hlt
      have hh : HB = false := HHN.out (fun j hj => HN.out j hj (by omega))
      subst hh
      have hfl : fltH tk (q.take k) = QT := by rw [hke]; exact HF2.out
      rw [hfl] at HR ⊢
      clear HN HHN HHY HYES HNO HFL hke HF2 hfl HCK hlt hk
      obtain ⟨y0, y1, y2, y3⟩ := HCE.out _ HB1.out
      by_cases h64 : q.length = 64
      · have hne : NE = 131 := by rw [HE2.out]; simp [h64]
        subst hne
        have hnl : NL = [] := by rw [HNL.out]; simp
        subst hnl
        have g1 : decide (64 ≤ (q.length : Int)) = true := decide_eq_true (by omega)
        have g2 : decide (64 ≤ q.length) = true := decide_eq_true (by omega)
        clear HNL S5 R5 HIN HIL HTL HDL HD1 HXC HXL HXS HCE HL HE2 h64 HR HPL
        go_wp2
        go_ret2
        exact giveH_none HB1.out.b
      · have hne : NE = 0 := by rw [HE2.out]; simp [h64]
        subst hne
        have hnl : NL = IH := by rw [HNL.out]; simp
        subst hnl
        have g1 : decide (64 ≤ (q.length : Int)) = false := decide_eq_false (by have := HL.out; omega)
        have g2 : decide (64 ≤ q.length) = false := decide_eq_false (by have := HL.out; omega)
        have s5 := S5.out
        have hqt := HTL.out
        rw [hqt] at HR ⊢
        have BA := hid (HB1.out.al (.cells #[.string tk, .string su, .string ou, .int .i64 at_] 37))
        have HGA : Hid ((wr.alloc (.cells #[.string tk, .string su, .string ou, .int .i64 at_] 37)).ownsRow (w.heap.size + 1) 37 4 (.slice ad1 PN cp1) PN (hqC QT)) := (keep_alloc (fun _ => False) _ _).ownsRow HR.out (fun _ _ h => h)
        have HGX : Hid (GSrc (wr.alloc (.cells #[.string tk, .string su, .string ou, .int .i64 at_] 37)) (.slice (some ⟨wr.heap.size, 0, none⟩) 1 1) 1 XS) := by
          rw [HXS.out]; exact gsrc_block (heap_alloc_new _ _)
        have HSZ : Hid (w.heap.size + 1 ≤ (wr.alloc (.cells #[.string tk, .string su, .string ou, .int .i64 at_] 37)).heap.size) := BA.out.row.lt
        have HB3 : Hid (PN + 1 ≤ 4611686018427387904) := by have := HPL.out; have := HL.out; show _ ≤ _; omega
        have HB4 : Hid ((PN + 1) * 56 ≤ 140737488355328) := by have := HPL.out; have := HL.out; show _ ≤ _; omega
        have HB5 : Hid (q.length + 1 ≤ 4611686018427387904) := by have := HL.out; show _ ≤ _; omega
        have HB6 : Hid ((q.length + 1) * 56 ≤ 140737488355328) := by have := HL.out; show _ ≤ _; omega
        have HNM : Hid (PN + 1 + (q.length - PN) = q.length + 1) := by have := HPL.out; show _ = _; omega
        have FIN : Hid (∀ ad' cap' w', w'.ownsRow (w.heap.size + 1) 37 4 (.slice ad' (PN + 1) cap') (PN + 1) (hqC QT ++ XS) → Keep (fun j => (Value.slice ad1 PN cp1).ownBlock = some j) (wr.alloc (.cells #[.string tk, .string su, .string ou, .int .i64 at_] 37)) w' → Hid (Below w.heap.size w w')) := fun ad' cap' w' hr hk' => by
          have hge : ∀ g, (Value.slice ad1 PN cp1).ownBlock = some g → w.heap.size + 1 ≤ g := fun g e => ownsRow_ge HR.out e
          exact BA.out.b.trans (keep_below hk' (fun j hj e => by have := hge _ e; omega) BA.out.b.size)
        clear HNL S5 HTL HCE HE2 h64 HPL HR HB1 BA HXS hqt HL
        generalize hqC QT = PA at *
        go_wp2_with (at_builtin; first | (refine wpl_gappR rfl _ _ elRH rfl (w.heap.size + 1) (.slice ad2 (PN + 1) cp2) (.slice ad5 (q.length - PN) cap5) (PA ++ XS) QD (PN + 1) (q.length - PN) (q.length + 1) HNM.out rfl rfl O2.out SZ2.out (R5.out.next B2.out) HDL.out HD1.out HB5.out HB6.out ?_; intro ad3 cp3 w3 hr3 hk3) | (refine wpl_gappL rfl _ _ elRH rfl (w.heap.size + 1) (.slice ad1 PN cp1) (.slice (some ⟨wr.heap.size, 0, none⟩) 1 1) PA XS PN 1 (PN + 1) rfl rfl rfl HGA.out HSZ.out HGX.out HXL.out HXC.out HB3.out HB4.out ?_; intro ad2 cp2 w2 hr2 hk2; have B2 := FIN.out _ _ _ hr2 hk2; have O2 := hid hr2; have SZ2 := hid (Nat.le_trans HSZ.out hk2.size); clear hr2 hk2 FIN HGA HGX HSZ))
        have B3 : Hid (Below w.heap.size w w3) := B2.out.trans (keep_below hk3 (fun j hj e => by have := ownsRow_ge O2.out e; omega) B2.out.size)
        have O3 : Hid (OwnH w3 w.heap.size 37 (.slice ad3 (q.length + 1) cp3) NL) := by
          have := ownsRow_base hr3 (Nat.le_succ w.heap.size)
          rw [HIN.out] at this
          show World.ownsRow _ _ _ _ _ _ _
          rw [HIL.out]
          exact this
        clear hr3 hk3 O2 SZ2 B2 R5 HIN s5 y0 y1 y2 y3
        go_wp2
        go_ret2
        refine ⟨ad3, cp3, ?_, ?_, B3.out⟩
        · rw [HIL.out]; rfl
        · rw [HIL.out]; exact O3.out
end Go.Proofs.Ytojiahdbgdgdcaa
namespace Go.Proofs.Ytojiahdbgdgdcaa
open Go.RowKit Go.Maps
set_option linter.unusedVariables false
set_option linter.unusedSimpArgs false

set_option maxRecDepth 100000 in
set_option maxHeartbeats 2000000 in
theorem rexpire15_any (v : Value) (q : List Hd) (u : Int) (w : World) (hv : HdI w v q) (hl : q.length ≤ 8796093022208) (hs : ∀ y ∈ q, y.tk.size ≤ 140737488355328 ∧ y.su.size ≤ 140737488355328) : Calls Try.prog 15 #[v, .int .i64 u] w (GiveH w 37 (expL q u) (expN q u)) := by
  obtain ⟨ad, cap, rfl, hc⟩ := hv.form
  have HC := hid hc
  have IT := hid (may15_any _ q w hv hl hs)
  have HEL : Hid (expL q u = if isTb q = true then stayH u q else []) := rfl
  have HEN : Hid (expN q u = if isTb q = true then (q.length : Int) - ((stayH u q).length : Int) else 0) := rfl
  have HLN : Hid (isTb q = true → q.length ≤ 64) := isTb_len
  have HZ : Hid (q.take q.length = q) := List.take_length
  have HSL : Hid (∀ k, (stayH u (q.take k)).length ≤ q.length) := fun k => by have := stayH_len u (q.take k); rw [List.length_take] at this; omega
  have HIN : Hid (∀ (k : Nat) (hk : k < q.length), decide (q[k].at_ ≤ u) = false → stayH u (q.take (k + 1)) = stayH u (q.take k) ++ [q[k]]) := fun k hk h => stayH_in u q k hk h
  have HOUT : Hid (∀ (k : Nat) (hk : k < q.length), decide (q[k].at_ ≤ u) = true → stayH u (q.take (k + 1)) = stayH u (q.take k)) := fun k hk h => stayH_out u q k hk h
  generalize expL q u = EL at *
  generalize expN q u = EN at *
  generalize isTb q = IS at *
  clear hc hv hl hs
  go_enter Try.func15, Try.ntmps15
  go_wp2_with fail
  refine IT.out.mono ?_
  rintro e w1 ⟨rfl, b1⟩
  have B1 := hid b1
  clear IT b1
  cases IS
  · have h1 : EL = [] := HEL.out
    have h2 : EN = 0 := HEN.out
    subst h1 h2
    clear HC HEL HEN HLN HZ HSL HIN HOUT
    go_wp2
    go_ret2
    exact giveH_none B1.out
  have HEL2 : Hid (EL = stayH u q) := HEL.out
  have HEN2 : Hid (EN = (q.length : Int) - ((stayH u q).length : Int)) := HEN.out
  have HL := hid (HLN.out rfl)
  clear HEL HEN HLN
  have HR0 : Hid (w1.ownsRow w.heap.size 37 4 (.slice none 0 0) (stayH u (q.take 0)).length (hqC (stayH u (q.take 0)))) := ⟨rfl, .inl ⟨rfl, rfl⟩⟩
  go_wp2
  go_loopw [6, 7] (fun o i wr => ∃ (k : Nat) (ad1 : Option Addr) (cp1 : Nat), k ≤ q.length ∧ o = .slice ad1 (stayH u (q.take k)).length cp1 ∧ i = .int .i64 (k : Int) ∧ Hid (wr.ownsRow w.heap.size 37 4 (.slice ad1 (stayH u (q.take k)).length cp1) (stayH u (q.take k)).length (hqC (stayH u (q.take k)))) ∧ Hid (Below w.heap.size w wr)) (fun _ i _ => q.length - (intOf i).toNat)
  case atStart => exact ⟨0, none, 0, Nat.zero_le _, rfl, rfl, HR0, B1⟩
  case round =>
    clear HR0 B1
    obtain ⟨k, ad1, cp1, hk, rfl, rfl, HR, HB⟩ := hrel
    by_cases hlt : k < q.length
    · have hk1 : (k : Int) < (q.length : Int) := by omega
      have hk0 : (0 : Int) ≤ (k : Int) := by omega
      obtain ⟨b, off, rfl, hb, c0, c1, c2, c3⟩ := HC.out k hlt
      have d0 := (HB.out.cell (p := ⟨b, off + k * 4, none⟩) hb).trans c0
      have d1 := (HB.out.cell (p := ⟨b, off + k * 4 + 1, none⟩) hb).trans c1
      have d2 := (HB.out.cell (p := ⟨b, off + k * 4 + 2, none⟩) hb).trans c2
      have d3 := (HB.out.cell (p := ⟨b, off + k * 4 + 3, none⟩) hb).trans c3
      have hwk : wrap64 ((k : Int) + 1) = ((k + 1 : Nat) : Int) := by have := HL.out; rw [IntWalk.wrap64_in _ (by omega)]; omega
      have HLT := hid hlt
      have HI1 := hid (HIN.out k hlt)
      have HO2 := hid (HOUT.out k hlt)
      have HFk := hid (HSL.out k)
      have HO1 := hid (hdC_one q[k])
      have HX2 : Hid ((hdC q[k]).length = 1 * 4) := rfl
      have HXS : Hid (hdC q[k] = [.string q[k].tk, .string q[k].su, .string q[k].ou, .int .i64 q[k].at_]) := rfl
      have HQ1 : Hid (hqC (stayH u (q.take k) ++ [q[k]]) = hqC (stayH u (q.take k)) ++ hdC q[k] ∧ (stayH u (q.take k) ++ [q[k]]).length = (stayH u (q.take k)).length + 1) := ⟨by rw [hqC_app, hqC_one], by simp⟩
      have hkL : (k : Int) < 65 := by have := HL.out; omega
      clear HC c0 c1 c2 c3 hb HZ HSL HIN HOUT HEL2 HEN2 hk
      generalize q[k] = y at *
      obtain ⟨tk, su, ou, at_⟩ := y
      simp only at *
      generalize hdC _ = XS at *
      clear hlt
      by_cases hle : at_ ≤ u
      · have g1 : decide (u < at_) = false := decide_eq_false (by omega)
        have e1 := HO2.out (decide_eq_true hle)
        have HE1 := hid e1
        have R2 : Hid (wr.ownsRow w.heap.size 37 4 (.slice ad1 (stayH u (q.take (k + 1))).length cp1) (stayH u (q.take (k + 1))).length (hqC (stayH u (q.take (k + 1))))) := by rw [e1]; exact HR.out
        clear HR HI1 HO2 HFk HO1 HX2 HXS HQ1 HL hle e1
        go_wp2
        exact ⟨⟨k + 1, ad1, cp1, HLT.out, by rw [HE1.out], by first | rw [hwk] | rfl | simp, R2, HB⟩, by (try rw [hwk]); have := HLT.out; simp [intOf]; omega⟩
      · have g1 : decide (u < at_) = true := decide_eq_true (by omega)
        have e1 := HI1.out (decide_eq_false hle)
        have HE1 : Hid ((stayH u (q.take (k + 1))).length = (stayH u (q.take k)).length + 1) := by show _ = _; rw [e1]; exact HQ1.out.2
        have HE2 : Hid (hqC (stayH u (q.take (k + 1))) = hqC (stayH u (q.take k)) ++ XS) := by show _ = _; rw [e1]; exact HQ1.out.1
        have HB3 : Hid ((stayH u (q.take k)).length + 1 ≤ 4611686018427387904) := by have := HFk.out; have := HL.out; show _ ≤ _; omega
        have HB4 : Hid (((stayH u (q.take k)).length + 1) * 56 ≤ 140737488355328) := by have := HFk.out; have := HL.out; show _ ≤ _; omega
        have HGA : Hid ((wr.alloc (.cells #[.string tk, .string su, .string ou, .int .i64 at_] 37)).ownsRow w.heap.size 37 4 (.slice ad1 (stayH u (q.take k)).length cp1) (stayH u (q.take k)).length (hqC (stayH u (q.take k)))) := (keep_alloc (fun _ => False) _ _).ownsRow HR.out (fun _ _ h => h)
        have HGX : Hid (GSrc (wr.alloc (.cells #[.string tk, .string su, .string ou, .int .i64 at_] 37)) (.slice (some ⟨wr.heap.size, 0, none⟩) 1 1) 1 XS) := by
          rw [HXS.out]; exact gsrc_block (heap_alloc_new _ _)
        have HSZ : Hid (w.heap.size ≤ (wr.alloc (.cells #[.string tk, .string su, .string ou, .int .i64 at_] 37)).heap.size) := Nat.le_trans HB.out.size (keep_alloc (fun _ => False) _ _).size
        have FIN : Hid (∀ ad' cap' w', w'.ownsRow w.heap.size 37 4 (.slice ad' ((stayH u (q.take k)).length + 1) cap') ((stayH u (q.take k)).length + 1) (hqC (stayH u (q.take k)) ++ XS) → Keep (fun j => (Value.slice ad1 (stayH u (q.take k)).length cp1).ownBlock = some j) (wr.alloc (.cells #[.string tk, .string su, .string ou, .int .i64 at_] 37)) w' → Hid (w'.ownsRow w.heap.size 37 4 (.slice ad' (stayH u (q.take (k + 1))).length cap') (stayH u (q.take (k + 1))).length (hqC (stayH u (q.take (k + 1))))) ∧ Hid (Below w.heap.size w w')) := fun ad' cap' w' hr hk' => by
          refine ⟨?_, (below_al HB.out _).trans (keep_below hk' (fun j hj e => by have := ownsRow_ge HR.out e; omega) HSZ.out)⟩
          show World.ownsRow _ _ _ _ _ _ _
          rw [HE1.out, HE2.out]; exact hr
        clear HR HB HI1 HO2 HFk HXS HQ1 HL hle e1 HE2
        generalize hqC (stayH u (q.take k)) = PA at *
        generalize (stayH u (q.take k)).length = n0 at *
        go_wp2_with (at_builtin; refine wpl_gappL rfl _ _ elRH rfl w.heap.size (.slice ad1 n0 cp1) (.slice (some ⟨wr.heap.size, 0, none⟩) 1 1) PA XS n0 1 (n0 + 1) rfl rfl rfl HGA.out HSZ.out HGX.out HX2.out HO1.out HB3.out HB4.out ?_; intro ad' cap' w' hr' hk')
        obtain ⟨F1, F2⟩ := FIN.out _ _ _ hr' hk'
        clear hr' hk' FIN HGA HGX HSZ d0 d1 d2 d3
        go_wp2
        exact ⟨⟨k + 1, _, _, HLT.out, by rw [HE1.out], by first | rw [hwk] | rfl | simp, F1, F2⟩, by (try rw [hwk]); have := HLT.out; simp [intOf]; omega⟩
    · have hke : k = q.length := by omega
      have hd : decide ((k : Int) < (q.length : Int)) = false := decide_eq_false (by omega)
      have hd2 : decide (k < q.length) = false := decide_eq_false hlt
      have hsr : q.take k = q := by rw [hke, HZ.out]
      rw [hsr] at HR ⊢
      have h1 := HEL2.out
      have h2 := HEN2.out
      have HS2 : Hid ((stayH u q).length ≤ q.length) := by have := HSL.out q.length; rw [HZ.out] at this; exact this
      have hw : wrap64 ((q.length : Int) - ((stayH u q).length : Int)) = (q.length : Int) - ((stayH u q).length : Int) := by have := HS2.out; have := HL.out; rw [IntWalk.wrap64_in _ (by omega)]
      subst h1 h2
      clear HC HIN HOUT HZ HL hke hlt hk HSL hsr HEL2 HEN2 HS2
      generalize stayH u q = SH at *
      go_wp2
      go_ret2
      exact ⟨ad1, cp1, by rw [hw]; rfl, HR.out, HB.out⟩
end Go.Proofs.Ytojiahdbgdgdcaa
