/- The walk of the document's digest. -/
import Derived.Test.YtnlodlpjokkepaaRStep
import Derived.Test.YtnlodlpjokkepaaRPad
import Derived.Deep.DrawnRows
import Derived.Deep.RegionLaw
namespace Go.Proofs.Ytnlodlpjokkepaa
open Go.RowKit
set_option linter.unusedVariables false

theorem ld43 (ρ : Operand → Value) (dst : Option Tmp) (x : Operand) (ty : TypeId) (pos : String) (after : Array Edge) (guard : Option (Nat × Bool)) (w : World) (h : ldOk w 8 (ρ x) = true) :
    (execOp ρ { dst := dst, op := .load 43 x, type := ty, pos := pos, after := after, guard := guard }).run Try.prog w = .ok (.value (.agg (ldCells w 8 (ρ x)))) w := by
  unfold execOp; simp only [Sem.run_bind, ld_run _ 8 _ Try.underlying43 rfl info43 (ρ x) w h, Result.andThen_ok, Sem.run_pure]
theorem st43 (ρ : Operand → Value) (dst : Option Tmp) (x y : Operand) (ty : TypeId) (pos : String) (after : Array Edge) (guard : Option (Nat × Bool)) (w : World) (h : stOk w 8 (ρ x) (ρ y) = true) :
    (execOp ρ { dst := dst, op := .store 43 x y, type := ty, pos := pos, after := after, guard := guard }).run Try.prog w = .ok .skip (stPut w (ρ x) (ρ y)) := by
  unfold execOp; simp only [Sem.run_bind, st_run _ 8 info43 (ρ x) (ρ y) w h, Result.andThen_ok, Sem.run_pure]
theorem r8_ld {w : World} {n : Nat} {s : St8} (h : w.heap[n]? = some (.cells (c8 s) 43 (0, 0))) : ldOk w 8 (.pointer (some ⟨n, 0, none⟩)) = true ∧ ldCells w 8 (.pointer (some ⟨n, 0, none⟩)) = c8 s := by
  have hr := World.rangeAt_of_block h 0 8
  have e : ((c8 s).extract 0 (0 + 8)).toList = us (w8 s) := rfl
  rw [e] at hr
  have := range_cellsAt 8 0 (us (w8 s)) hr (by simp [us_len, w8])
  simp [ldOk, ldCells, this, c8_us]
theorem r8_st {w : World} {n : Nat} {s : St8} (h : w.heap[n]? = some (.cells (c8 s) 43 (0, 0))) (t : St8) :
    stOk w 8 (.pointer (some ⟨n, 0, none⟩)) (.agg (c8 t)) = true ∧ stPut w (.pointer (some ⟨n, 0, none⟩)) (.agg (c8 t)) = w.setRow n (c8 t) := by
  have h1 := c8_all t
  refine ⟨?_, ?_⟩
  · simp only [stOk, h]; rw [h1]; rfl
  · simp only [stPut, h]; congr 1
theorem mixN_succ (k : Nat) (s : St8) (l : List UInt8) : mixN (k + 1) s l = mix (mixN k s l) ((l.drop (64 * k)).take 64) := by
  rw [mixN_add]; rfl
theorem BSl.row {w : World} {base : Nat} {v : Value} {L : List UInt8} (h : BSl w base v L) (hL : L ≠ []) : ∃ g cap, v = .slice (some ⟨g, 0, none⟩) L.length cap ∧ base ≤ g ∧ L.length ≤ cap ∧ (∀ j (h : j < L.length), w.cell? ⟨g, j, none⟩ = some (.int .u8 (L[j]).toNat)) := by
  rcases h with ⟨_, h⟩ | ⟨g, cap, h1, h2, _, h3, h4, _⟩
  · exact absurd h hL
  · exact ⟨g, cap, h1, h2, h3, h4⟩
/-- the walk stands at a store -/
theorem wpl_hold {P : Program} {ops : Array Oper} {rest : List Oper} {o : Oper} {a : Act} {w : World} {Q : Exit → Act → World → Prop} (ty : TypeId) (x y : Operand) (ho : o.op = .store ty x y) (h : Hid (wpList P ops Q (o :: rest) a w)) : wpList P ops Q (o :: rest) a w := h
theorem be4_is3 (x : Nat) : #[Value.int .u8 (IntKind.u8.wrap ((x : Int) / 16777216)), .int .u8 (IntKind.u8.wrap ((x : Int) / 65536)), .int .u8 (IntKind.u8.wrap ((x : Int) / 256)), .int .u8 (IntKind.u8.wrap (x : Int))] = (bs (be x 4)).toArray := by
  rw [← be4_is]; simp only [IntKind.wrap_u8]
attribute [local go_sem ↓] Go.wp_at_zero Go.wp_at_succ ld43 st43

set_option maxRecDepth 100000 in
set_option maxHeartbeats 2000000 in
theorem rsum_any (s : ByteArray) (w : World) (hs : s.size + 73 ≤ 140737488355328) :
    Calls Try.prog 11 #[.string s] w fun e w' => e = .returned (.string ⟨(sha s.data.toList).toArray⟩) ∧ Below w.heap.size w w' := by
  have HPd := show Hid _ from fun w => padded_any s w hs
  have hPl := padL_len s.data.toList
  have hPs : (padL s.data.toList).length ≤ s.size + 72 := by
    have h1 := tail_len2 s.data.toList.length
    have h2 : s.data.toList.length = s.size := by simp
    unfold padL; rw [List.length_append]; omega
  have hPn : padL s.data.toList ≠ [] := fun e => by
    have h1 : (padL s.data.toList).length = 0 := by rw [e]; rfl
    simp [padL, tail] at h1
  have HSH : Hid (sha s.data.toList = outN (mixN ((padL s.data.toList).length / 64) first8 (padL s.data.toList)) 8) := by show _ = _; rw [outN_all]; rfl
  generalize padL s.data.toList = P at HPd hPl hPs hPn HSH
  go_enter Try.func11, Try.ntmps11
  go_wp2_with (with_reducible (refine wpl_id ?_); first
    | (refine wpl_pure (o := { dst := some 8, op := .build 43 _, type := _, pos := _, after := _, guard := none }) (.agg (c8 first8)) rfl (fun _ => by kernel_rfl) ?_)
    | (refine wpl_alloc 43 z8 alloc43 rfl rfl ?_)
    | (refine wpl_hold 43 _ _ rfl ?_))
  refine wpl_store_new 43 _ _ _ (c8 first8) w z8 rfl rfl info43 rfl (c8_all _) rfl rfl rfl rfl ?_
  go_wp2_with fail
  refine (HPd.out _).mono ?_
  rintro e w2 ⟨v, rfl, hbs, hB2⟩
  have hh : w2.heap[w.heap.size]? = some (.cells (c8 (mixN 0 first8 P)) 43 (0, 0)) := by
    rw [hB2.block _ (by simp), heap_alloc_new]; rfl
  have HH : Hid (w2.heap[w.heap.size]? = some (.cells (c8 (mixN 0 first8 P)) 43 (0, 0))) := hh
  obtain ⟨g, cap, hv, hg1, hg2, hg3⟩ := hbs.row hPn
  have HB0 : Hid (∀ j (h : j < P.length), w2.cell? ⟨g, j, none⟩ = some (.int .u8 (P[j]).toNat)) := hg3
  have hgs : w.heap.size < g := by simp at hg1; omega
  have HBe : Hid (Below w.heap.size w w2) := ((Below.refl _ _).alloc (Nat.le_refl _) _).trans (hB2.mono (by simp))
  subst hv
  clear hh hbs hB2 hg3 HPd
  go_wp2
  go_loopw [5] (fun i wr => ∃ k q : Nat, Hid (q = 64 * k) ∧ q ≤ P.length ∧ i = .int .i64 (q : Int) ∧ Hid (wr.heap[w.heap.size]? = some (.cells (c8 (mixN k first8 P)) 43 (0, 0))) ∧ Hid (∀ j (h : j < P.length), wr.cell? ⟨g, j, none⟩ = some (.int .u8 (P[j]).toNat)) ∧ Hid (Below w.heap.size w wr)) (fun i _ => P.length - (intOf i).toNat)
  case atStart => exact ⟨0, 0, rfl, by omega, rfl, HH, HB0, HBe⟩
  case round =>
    clear HH HB0 HBe
    obtain ⟨k, q, HQ, hk, rfl, HH, HB, HE⟩ := hrel
    by_cases hlt : q < P.length
    · have hq := HQ.out
      have hq64 : q + 64 ≤ P.length := by omega
      have h0 : (0 : Int) ≤ (q : Int) := by omega
      have h1 : (q : Int) ≤ (q : Int) + 64 := by omega
      have h2 : (q : Int) + 64 ≤ (P.length : Int) := by omega
      have h3 : (q : Int) + 64 ≤ (cap : Int) := by omega
      have h4 : (q : Int) < (P.length : Int) := by omega
      have e1 : IntKind.i64.wrap ((q : Int) + 64) = (q : Int) + 64 := by rw [IntKind.wrap_i64]; omega
      have hcq : ¬ cap = q := by omega
      have htn : ((q : Int) + 64).toNat - q = 64 := by omega
      have hbl : ((P.drop q).take 64).length = 64 := by simp; omega
      have hcs : ∀ j, j < 64 → wr.drew.cell? ⟨g, q + j, none⟩ = some (.int .u8 ((((P.drop q).take 64).getD j 0).toNat : Int)) := fun j hj => by
        show wr.cell? _ = _
        rw [HB.out (q + j) (by omega)]
        have : ((P.drop q).take 64).getD j 0 = P[q + j]'(by omega) := by
          rw [List.getD_eq_getElem?_getD, List.getElem?_take_of_lt hj, List.getElem?_drop, List.getElem?_eq_getElem (by omega)]; rfl
        rw [this]
      have HST := show Hid _ from fun (_ : Unit) => rstep_any (mixN k first8 P) ((P.drop q).take 64) g q (cap - q) wr.drew (mixN_lt _ _ _ first8_lt) hbl hcs
      have HMS : Hid (mixN (k + 1) first8 P = mix (mixN k first8 P) ((P.drop q).take 64)) := by show _ = _; rw [mixN_succ, hq]
      obtain ⟨hA1, hA2⟩ := r8_ld (w := wr.drew) HH.out
      have hwl : w.heap.size < wr.heap.size := (Array.getElem?_eq_some_iff.1 HH.out).1
      clear hcs hbl hq
      generalize mix (mixN k first8 P) ((P.drop q).take 64) = NS at HST HMS
      generalize hOS : mixN k first8 P = OS at HST HH hA2
      clear hOS
      generalize hC8 : c8 OS = C8 at HST hA2
      have HC8 := show Hid _ from hC8
      clear hC8
      go_wp2
      go_region_with (go_at_call 23; refine (HST.out ()).mono ?_; rintro e w1 ⟨rfl, hBel⟩; obtain ⟨hS1, hS2⟩ := r8_st (w := w1) (s := OS) ((hBel.block _ hwl).trans HH.out) NS)
      have hrow1 := (hBel.block _ hwl).trans HH.out
      have HH2 : Hid ((w1.setRow w.heap.size (c8 NS)).heap[w.heap.size]? = some (.cells (c8 (mixN (k + 1) first8 P)) 43 (0, 0))) := by rw [HMS.out]; exact setRow_heap _ _ _ _ _ _ hrow1
      have HB2 : Hid (∀ j (h : j < P.length), (w1.setRow w.heap.size (c8 NS)).cell? ⟨g, j, none⟩ = some (.int .u8 (P[j]).toNat)) := fun j hj => by
        rw [cell_setRow_other _ _ _ _ (by simp; omega), hBel.cell (p := ⟨g, j, none⟩) (World.block_lt_of_cell? _ _ (HB.out j hj))]
        exact HB.out j hj
      have HE2 : Hid (Below w.heap.size w (w1.setRow w.heap.size (c8 NS))) := ((below_drewN HE.out 1).trans (hBel.mono (Nat.le_of_lt hwl))).trans ⟨rfl, rfl, rfl, by simp, fun k hk => setRow_other _ _ _ _ (by omega)⟩
      have HQ2 : Hid (q + 64 = 64 * (k + 1)) := by have := HQ.out; show _ = _; omega
      clear hrow1 hS1 hS2 hBel HB HE HH HQ HMS HC8
      go_wp2
      exact ⟨⟨k + 1, q + 64, HQ2, hq64, by go_num, HH2, HB2, HE2⟩, by simp [intOf]; omega⟩
    · have hd : decide ((q : Int) < (P.length : Int)) = false := decide_eq_false (by omega)
      have hd2 : decide (q < P.length) = false := decide_eq_false hlt
      have hq := HQ.out
      have ek : k = P.length / 64 := by omega
      rw [ek] at HH
      have lt8 := mixN_lt (P.length / 64) first8 P first8_lt
      generalize mixN (P.length / 64) first8 P = S at HH HSH lt8
      have HB0 : Hid (BSl wr (w.heap.size + 1) (.slice none 0 0) (outN S 0)) := BSl.nil _ _
      have hsz : w.heap.size + 1 ≤ wr.heap.size := (Array.getElem?_eq_some_iff.1 HH.out).1
      clear HQ hk hq ek HB
      go_wp2
      go_loopw [6, 7] (fun v i wr => ∃ k : Nat, k ≤ 8 ∧ i = .int .i64 k ∧ Hid (BSl wr (w.heap.size + 1) v (outN S k)) ∧ Hid (Below w.heap.size w wr) ∧ Hid (wr.heap[w.heap.size]? = some (.cells (c8 S) 43 (0, 0)))) (fun _ i _ => 8 - (intOf i).toNat)
      case atStart => exact ⟨0, by omega, rfl, HB0, HE, HH⟩
      case round =>
        clear HB0 HE HH hsz
        obtain ⟨k, hk, rfl, HB, HE, HH⟩ := hrel
        by_cases hlt : k < 8
        · have hck : wr.cell? ⟨w.heap.size, k, none⟩ = some (.int .u32 (((w8 S).getD k 0 : Nat) : Int)) := by
            rw [cell_of_row _ _ _ _ _ _ HH.out, c8_us]; exact us_at _ _ (by simpa [w8] using hlt)
          have hx := w8_lt S k lt8
          have HO : Hid (outN S (k + 1) = outN S k ++ be ((w8 S).getD k 0) 4) := rfl
          have hlen := outN_len S k
          generalize (w8 S).getD k 0 = x at hck hx HO
          have HM := show Hid _ from be4_is3 x
          have hlt' : (k : Int) < 8 := by omega
          have hk0 : (0 : Int) ≤ (k : Int) := by omega
          have HML : Hid (4 = (be x 4).length) := (be_len x 4).symm
          have HMN : Hid (be x 4 ≠ []) := fun e => by have := be_len x 4; rw [e] at this; simp at this
          have HLL : Hid ((outN S k).length + (be x 4).length ≤ 140737488355328) := by show _ ≤ _; rw [hlen, be_len]; omega
          have hsz : w.heap.size + 1 ≤ wr.heap.size := (Array.getElem?_eq_some_iff.1 HH.out).1
          have HSZ : Hid (w.heap.size + 1 ≤ wr.heap.size) := hsz
          have HBx : Hid (∀ X, Below (w.heap.size + 1) wr (wr.alloc X).drew) := fun X => below_drewN ((Below.refl _ wr).alloc hsz X) 1
          clear hlen hsz
          generalize be x 4 = M at HO HM HML HMN HLL
          generalize outN S k = L at HO HLL HB
          go_wp2
          go_region_held3 (fun w' => w'.cell? ⟨w.heap.size, k, none⟩ = some (.int .u32 (x : Int))) (first | exact (hbel1.cell (p := ⟨w.heap.size, k, none⟩) (Nat.lt_succ_self _)).trans hck | go_keep) ((refine step_bsl (by rfl) _ _ (by rfl) (w.heap.size + 1) _ L wr M _ HM.out (by rfl) (HBx.out _) 4 HML.out (by rfl) (by rfl) HB.out HSZ.out HLL.out HMN.out ?_; intro v1 w1 hb1 hbel1))
          have HB2 : Hid (BSl w1 (w.heap.size + 1) v1 (outN S (k + 1))) := by rw [HO.out]; exact hb1
          have HE2 : Hid (Below w.heap.size w w1) := HE.out.trans (hbel1.mono (by omega))
          have HH2 : Hid (w1.heap[w.heap.size]? = some (.cells (c8 S) 43 (0, 0))) := (hbel1.block _ (Nat.lt_succ_self _)).trans HH.out
          clear hb1 hbel1 HB HE HH
          go_wp2
          exact ⟨⟨k + 1, by omega, by go_num, HB2, HE2, HH2⟩, by simp [intOf]; omega⟩
        · have hd3 : decide ((k : Int) < 8) = false := decide_eq_false (by omega)
          have e : k = 8 := by omega
          rw [e] at HB
          have hcv := HB.out.text
          clear e hk HB HH
          go_wp2
          go_ret
          exact ⟨ret_str (by rw [HSH.out]), HE.out⟩
end Go.Proofs.Ytnlodlpjokkepaa
