/- Which configuration a log says last: the program's walk. -/
import Derived.Test.YtnldjcoajliciaaGreatWCReached
import Derived.Test.YtnldjcoajliciaaGreatJoined13
import Derived.Test.YtnldjcoajliciaaGreatJoined04
namespace Go.Proofs.YtnldjcoajliciaaGreat
open Go.RowKit Go.Maps
set_option linter.unusedVariables false
set_option linter.unusedSimpArgs false

def goodE (x : En) : Bool := (x.kd == 2) && decOk x.da
/-- the last configuration, and its place -/
structure La where
  l : List Int
  p : Nat
def stpL (k : Nat) (a : La) (x : En) : La := if goodE x = true then ⟨decV x.da, k + 1⟩ else a
def latF (a : La) (k : Nat) : List En → La
  | [] => a
  | x :: r => latF (stpL k a x) (k + 1) r
theorem latF_app (a : La) (k : Nat) (x y : List En) : latF a k (x ++ y) = latF (latF a k x) (k + x.length) y := by
  induction x generalizing a k with
  | nil => rfl
  | cons z r ih => simp only [List.cons_append, latF, List.length_cons]; rw [ih]; congr 1; omega
theorem latF_none (a : La) (k : Nat) (x : List En) (h : ∀ z ∈ x, goodE z = false) : latF a k x = a := by
  induction x generalizing a k with
  | nil => rfl
  | cons z r ih =>
    simp only [latF]
    have : stpL k a z = a := by unfold stpL; rw [h z (by simp)]; rfl
    rw [this]
    exact ih a (k + 1) (fun y hy => h y (List.mem_cons_of_mem _ hy))
theorem lat_found (base : List Int) (l : List En) (q : Nat) (hq : q < l.length) (hg : goodE l[q] = true) (hn : ∀ z ∈ l.drop (q + 1), goodE z = false) : latF ⟨base, 0⟩ 0 l = ⟨decV l[q].da, q + 1⟩ := by
  have e2 : l.take (q + 1) = l.take q ++ [l[q]] := List.take_succ_eq_append_getElem hq
  have key : latF ⟨base, 0⟩ 0 (l.take (q + 1) ++ l.drop (q + 1)) = ⟨decV l[q].da, q + 1⟩ := by
    rw [latF_app, latF_none _ _ _ hn, e2, latF_app]
    simp only [latF]
    unfold stpL
    rw [if_pos hg, List.length_take, Nat.min_eq_left (by omega), Nat.zero_add]
  rw [List.take_append_drop] at key
  exact key
theorem equalIn_isl_nil (w : World) (d : Nat) (ad : Option Addr) (n c : Nat) : (Op.equalIn (d + 1) 26 (.slice ad n c) (.slice none 0 0)).run Tryz.prog w = .ok ad.isNone w := by
  cases ad <;> simp [Op.equalIn, run_underlying Tryz.underlying26]
theorem eql_isl_nil (w : World) (ad : Option Addr) (n c : Nat) : (binOp .eql 26 (.slice ad n c) (.slice none 0 0)).run Tryz.prog w = .ok (.bool ad.isNone) w := by
  simp only [binOp]
  simp [show Op.equal 26 (.slice ad n c) (.slice none 0 0) = Op.equalIn (9999 + 1) 26 (.slice ad n c) (.slice none 0 0) from rfl, equalIn_isl_nil w 9999 ad n c]
set_option maxRecDepth 100000 in
set_option maxHeartbeats 1000000 in
theorem iclone_any (v : Value) (l : List Int) (w : World) (hv : IntsI w v l) (hl : l.length ≤ 17592186044416) : Calls Tryz.prog 45 #[v] w fun e w' => ∃ v', e = .returned v' ∧ IntsI w' v' l ∧ Below w.heap.size w w' := by
  obtain ⟨ad, cap, rfl, hc⟩ := hv.form
  have HV := hid hv
  have he := eql_isl_nil w ad l.length cap
  cases ad with
  | none =>
    have hn : l = [] := by
      cases l with
      | nil => rfl
      | cons x r => obtain ⟨b, off, h, _⟩ := hc 0 (by simp); cases h
    subst hn
    clear hc hv
    simp only [List.length_nil] at he ⊢
    go_enter Tryz.func45, Tryz.ntmps45
    go_wp2
    go_ret
    exact ⟨_, rfl, ints_none _, Below.refl _ _⟩
  | some a =>
    have HGA : Hid ((w.alloc (.cells #[] 3)).heap[w.heap.size]? = some (.cells #[] 3 (0, 0))) := heap_alloc_new _ _
    have HBA : Hid (Below w.heap.size w (w.alloc (.cells #[] 3))) := below_al (Below.refl _ _) _
    have HIA := hid (hv.next HBA.out)
    have HL8 : Hid (l.length * 8 ≤ 140737488355328) := by show _ ≤ _; omega
    have HLE : Hid (w.heap.size ≤ w.heap.size) := Nat.le_refl _
    clear hc hv hl
    go_enter Tryz.func45, Tryz.ntmps45
    go_wp2_with (at_builtin; refine wpl_iall rfl _ _ rfl w.heap.size w.heap.size l.length _ l rfl rfl rfl HGA.out HLE.out HIA.out HL8.out ?_; intro ad' cap' w4 ho' hk')
    have HO := hid ho'.ints
    have HB : Hid (Below w.heap.size w w4) := HBA.out.trans hk'
    clear ho' hk' HGA HBA HIA he
    go_wp2
    go_ret
    exact ⟨_, rfl, HO.out, HB.out⟩
set_option maxRecDepth 100000 in
set_option maxHeartbeats 2000000 in
theorem clatest_any (v v2 : Value) (base : List Int) (es : List En) (w : World) (hv : IntsI w v base) (hv2 : EntI w v2 es) (hl : base.length ≤ 17592186044416) (hl2 : es.length ≤ 17592186044416) (hd : ∀ x ∈ es, x.da.size ≤ 140737488355328) :
    Calls Tryz.prog 83 #[v, v2] w fun e w' => ∃ v', e = .returned (.tuple #[v', .int .i64 ((latF ⟨base, 0⟩ 0 es).p : Nat)]) ∧ IntsI w' v' (latF ⟨base, 0⟩ 0 es).l ∧ Below w.heap.size w w' := by
  obtain ⟨ad, cap, rfl, hc⟩ := hv2.form
  have HC := hid hc
  have CL : Hid (∀ W, Below w.heap.size w W → Calls Tryz.prog 45 #[v] W fun e w' => ∃ v', e = .returned v' ∧ Hid (IntsI w' v' base) ∧ Hid (Below w.heap.size w w')) := fun W hW => (iclone_any v base W (hv.next hW) hl).mono fun e w' ⟨v', he, hi, hb⟩ => ⟨v', he, hi, below_on hW hb⟩
  have DC : Hid (∀ (s : ByteArray) W, s.size ≤ 140737488355328 → Below w.heap.size w W → Calls Tryz.prog 91 #[.string s] W fun e w' => ∃ v', e = .returned (.tuple #[v', .int .i64 (decE s)]) ∧ Hid (IntsI w' v' (decV s)) ∧ Hid (Below w.heap.size w w')) := fun s W hs hW => (cdecode_any s W hs).mono fun e w' ⟨v', he, hi, hb, _⟩ => ⟨v', he, hi, below_on hW hb⟩
  have HF := hid (fun q hq hg hn => lat_found base es q hq hg hn)
  have HN : Hid ((∀ z ∈ es, goodE z = false) → latF ⟨base, 0⟩ 0 es = ⟨base, 0⟩) := fun h => latF_none _ _ _ h
  have HD := hid hd
  have HL := hid hl2
  generalize latF ⟨base, 0⟩ 0 es = R at *
  clear hc hv hv2 hl hl2 hd
  go_enter Tryz.func83, Tryz.ntmps83
  go_wp2
  go_loopw [13] (fun i wr => ∃ (k : Nat), k ≤ es.length ∧ i = .int .i64 (k : Int) ∧ Hid (Below w.heap.size w wr) ∧ Hid (∀ z ∈ es.drop (es.length - k), goodE z = false)) (fun i _ => es.length - (intOf i).toNat)
  case atStart => exact ⟨0, Nat.zero_le _, rfl, Below.refl _ _, by show ∀ z ∈ es.drop (es.length - 0), _; simp⟩
  case round =>
    obtain ⟨k, hk, rfl, HB, HG⟩ := hrel
    by_cases hlt : k < es.length
    · have hk1 : (k : Int) < (es.length : Int) := by omega
      have hlb := HL.out
      obtain ⟨q, hq⟩ : ∃ q : Nat, q = es.length - k - 1 := ⟨_, rfl⟩
      have hql : q < es.length := by omega
      have hw1 : wrap64 ((es.length : Int) - (k : Int)) = ((q + 1 : Nat) : Int) := by rw [IntWalk.wrap64_in _ (by omega)]; omega
      have hw2 : wrap64 (((q + 1 : Nat) : Int) - 1) = (q : Int) := by rw [IntWalk.wrap64_in _ (by omega)]; omega
      have hw3 : wrap64 (q : Int) = (q : Int) := IntWalk.wrap64_in _ (by omega)
      have hwk : wrap64 ((k : Int) + 1) = ((k + 1 : Nat) : Int) := by rw [IntWalk.wrap64_in _ (by omega)]; omega
      have hq0 : (0 : Int) ≤ (q : Int) := by omega
      have hq1 : (q : Int) < (es.length : Int) := by omega
      obtain ⟨b, off, rfl, hb, c0, c1, c2⟩ := HC.out q hql
      have d0 := (HB.out.cell (p := ⟨b, off + q * 3, none⟩) hb).trans c0
      have d1 := (HB.out.cell (p := ⟨b, off + q * 3 + 1, none⟩) hb).trans c1
      have d2 := (HB.out.cell (p := ⟨b, off + q * 3 + 2, none⟩) hb).trans c2
      have HGT : Hid (goodE es[q] = true → R = ⟨decV es[q].da, q + 1⟩) := fun h => HF.out q hql h (by rw [show q + 1 = es.length - k by omega]; exact HG.out)
      have HGF : Hid (goodE es[q] = false → ∀ z ∈ es.drop (es.length - (k + 1)), goodE z = false) := fun h z hz => by
        rw [show es.length - (k + 1) = q by omega, List.drop_eq_getElem_cons hql] at hz
        rcases List.mem_cons.1 hz with e | e
        · rw [e]; exact h
        · refine HG.out z ?_
          rw [show es.length - k = q + 1 by omega]
          exact e
      have HDQ := hid (HD.out es[q] (List.getElem_mem hql))
      have HLT := hid hlt
      have HGE : Hid (goodE es[q] = ((es[q].kd == 2) && decOk es[q].da)) := rfl
      have HAL : Hid (Below w.heap.size w (wr.alloc (.cells #[.int .i64 es[q].tm, .int .i64 es[q].kd, .string es[q].da] 52))) := below_al HB.out _
      have y0 := (srow wr [.int .i64 es[q].tm, .int .i64 es[q].kd, .string es[q].da] 52).cellAt (o := 0) rfl
      have y1 := (srow wr [.int .i64 es[q].tm, .int .i64 es[q].kd, .string es[q].da] 52).cellAt (o := 1) rfl
      have y2 := (srow wr [.int .i64 es[q].tm, .int .i64 es[q].kd, .string es[q].da] 52).cellAt (o := 2) rfl
      have D1 := hid (DC.out es[q].da _ HDQ.out HAL.out)
      have DI := hid (show decE es[q].da = if decOk es[q].da = true then 0 else 3 from rfl)
      generalize es[q] = x at *
      obtain ⟨tm, kd, da⟩ := x
      simp only at *
      generalize goodE ⟨tm, kd, da⟩ = G at *
      generalize decOk da = OK at *
      generalize decE da = DE at *
      generalize decV da = DV at *
      clear HC hb c0 c1 c2 HF HG HN HD HL hlb hq hlt hk hql DC CL HDQ
      by_cases h2 : kd = 2
      · subst h2
        have hn2 : ((2 : Int) != 2) = false := rfl
        cases OK
        · have hde : DE = 3 := DI.out
          subst hde
          have HG2 := hid (HGF.out (by rw [HGE.out]; rfl))
          clear HGT HGF HGE DI
          go_wp2_with fail
          refine D1.out.mono ?_
          rintro e w3 ⟨v', rfl, I3, B3⟩
          clear D1 y0 y1 y2 d0 d1 d2
          go_wp2
          exact ⟨⟨k + 1, HLT.out, by first | rw [hwk] | rfl | simp, B3, HG2⟩, by rw [hwk]; have := HLT.out; simp [intOf]; omega⟩
        · have hde : DE = 0 := DI.out
          subst hde
          have HR := hid (HGT.out (by rw [HGE.out]; rfl))
          clear HGT HGF HGE DI
          go_wp2_with fail
          refine D1.out.mono ?_
          rintro e w3 ⟨v', rfl, I3, B3⟩
          clear D1 y0 y1 y2 d0 d1 d2
          go_wp2
          go_ret2
          rw [HR.out]
          exact ⟨_, rfl, I3.out, B3.out⟩
      · have hn2 : (kd != 2) = true := by rw [bne_iff_ne]; exact h2
        have HG2 := hid (HGF.out (by rw [HGE.out, beq_eq_false_iff_ne.2 h2]; rfl))
        clear HGT HGF HGE DI D1 h2
        go_wp2
        exact ⟨⟨k + 1, HLT.out, by first | rw [hwk] | rfl | simp, HAL, HG2⟩, by rw [hwk]; have := HLT.out; simp [intOf]; omega⟩
    · have hk9 : k = es.length := by omega
      subst hk9
      have hdl : decide ((es.length : Int) < (es.length : Int)) = false := decide_eq_false (by omega)
      have HR : Hid (R = ⟨base, 0⟩) := HN.out (by have := HG.out; rw [Nat.sub_self, List.drop_zero] at this; exact this)
      have C1 := hid (CL.out _ HB.out)
      clear HF HN HD HL HG HC DC CL
      go_wp2_with fail
      refine C1.out.mono ?_
      rintro e w3 ⟨v', rfl, I3, B3⟩
      clear C1
      go_wp2
      go_ret2
      rw [HR.out]
      exact ⟨_, rfl, I3.out, B3.out⟩
end Go.Proofs.YtnldjcoajliciaaGreat
