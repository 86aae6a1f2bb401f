/- Joined: The walk of the document's digest. The walks of the digits. The walk of layer 3's worked example: it answers true; and of the law DigestSums. The walk of the digest of parts. -/
import Derived.Test.YtmadlnchmkhdjaaGreatJoined21
import Derived.Test.YtmadlnchmkhdjaaGreatRPad
import Derived.Deep.DrawnRows
import Derived.Deep.RegionLaw
import Derived.Test.YtmadlnchmkhdjaaGreatJoined01
namespace Go.Proofs.YtmadlnchmkhdjaaGreat
open Go.RowKit
set_option linter.unusedVariables false

theorem ld43 (ρ : Operand → Value) (dst : Option Tmp) (x : Operand) (ty : TypeId) (pos : String) (after : Array Edge) (guard : Option (Nat × Bool)) (w : World) (h : ldOk w 8 (ρ x) = true) :
    (execOp ρ { dst := dst, op := .load 136 x, type := ty, pos := pos, after := after, guard := guard }).run Tryz.prog w = .ok (.value (.agg (ldCells w 8 (ρ x)))) w := by
  unfold execOp; simp only [Sem.run_bind, ld_run _ 8 _ Tryz.underlying136 rfl info43 (ρ x) w h, Result.andThen_ok, Sem.run_pure]
theorem st43 (ρ : Operand → Value) (dst : Option Tmp) (x y : Operand) (ty : TypeId) (pos : String) (after : Array Edge) (guard : Option (Nat × Bool)) (w : World) (h : stOk w 8 (ρ x) (ρ y) = true) :
    (execOp ρ { dst := dst, op := .store 136 x y, type := ty, pos := pos, after := after, guard := guard }).run Tryz.prog w = .ok .skip (stPut w (ρ x) (ρ y)) := by
  unfold execOp; simp only [Sem.run_bind, st_run _ 8 info43 (ρ x) (ρ y) w h, Result.andThen_ok, Sem.run_pure]
theorem r8_ld {w : World} {n : Nat} {s : St8} (h : w.heap[n]? = some (.cells (c8 s) 136 (0, 0))) : ldOk w 8 (.pointer (some ⟨n, 0, none⟩)) = true ∧ ldCells w 8 (.pointer (some ⟨n, 0, none⟩)) = c8 s := by
  have hr := World.rangeAt_of_block h 0 8
  have e : ((c8 s).extract 0 (0 + 8)).toList = us (w8 s) := rfl
  rw [e] at hr
  have := range_cellsAt 8 0 (us (w8 s)) hr (by simp [us_len, w8])
  simp [ldOk, ldCells, this, c8_us]
theorem r8_st {w : World} {n : Nat} {s : St8} (h : w.heap[n]? = some (.cells (c8 s) 136 (0, 0))) (t : St8) :
    stOk w 8 (.pointer (some ⟨n, 0, none⟩)) (.agg (c8 t)) = true ∧ stPut w (.pointer (some ⟨n, 0, none⟩)) (.agg (c8 t)) = w.setRow n (c8 t) := by
  have h1 := c8_all t
  refine ⟨?_, ?_⟩
  · simp only [stOk, h]; rw [h1]; rfl
  · simp only [stPut, h]; congr 1
theorem mixN_succ (k : Nat) (s : St8) (l : List UInt8) : mixN (k + 1) s l = mix (mixN k s l) ((l.drop (64 * k)).take 64) := by
  rw [mixN_add]; rfl
theorem BSl.row {w : World} {base : Nat} {v : Value} {L : List UInt8} (h : BSl w base v L) (hL : L ≠ []) : ∃ g cap, v = .slice (some ⟨g, 0, none⟩) L.length cap ∧ base ≤ g ∧ L.length ≤ cap ∧ (∀ j (h : j < L.length), w.cell? ⟨g, j, none⟩ = some (.int .u8 (L[j]).toNat)) := by
  rcases h with ⟨_, h⟩ | ⟨g, cap, h1, h2, _, h3, h4, _⟩
  · exact absurd h hL
  · exact ⟨g, cap, h1, h2, h3, h4⟩
/-- the walk stands at a store -/
theorem wpl_hold {P : Program} {ops : Array Oper} {rest : List Oper} {o : Oper} {a : Act} {w : World} {Q : Exit → Act → World → Prop} (ty : TypeId) (x y : Operand) (ho : o.op = .store ty x y) (h : Hid (wpList P ops Q (o :: rest) a w)) : wpList P ops Q (o :: rest) a w := h
theorem be4_is3 (x : Nat) : #[Value.int .u8 (IntKind.u8.wrap ((x : Int) / 16777216)), .int .u8 (IntKind.u8.wrap ((x : Int) / 65536)), .int .u8 (IntKind.u8.wrap ((x : Int) / 256)), .int .u8 (IntKind.u8.wrap (x : Int))] = (bs (be x 4)).toArray := by
  rw [← be4_is]; simp only [IntKind.wrap_u8]
attribute [local go_sem ↓] Go.wp_at_zero Go.wp_at_succ ld43 st43

set_option maxRecDepth 100000 in
set_option maxHeartbeats 2000000 in
theorem rsum_any (s : ByteArray) (w : World) (hs : s.size + 73 ≤ 140737488355328) :
    Calls Tryz.prog 66 #[.string s] w fun e w' => e = .returned (.string ⟨(sha s.data.toList).toArray⟩) ∧ Below w.heap.size w w' := by
  have HPd := show Hid _ from fun w => padded_any s w hs
  have hPl := padL_len s.data.toList
  have hPs : (padL s.data.toList).length ≤ s.size + 72 := by
    have h1 := tail_len2 s.data.toList.length
    have h2 : s.data.toList.length = s.size := by simp
    unfold padL; rw [List.length_append]; omega
  have hPn : padL s.data.toList ≠ [] := fun e => by
    have h1 : (padL s.data.toList).length = 0 := by rw [e]; rfl
    simp [padL, tail] at h1
  have HSH : Hid (sha s.data.toList = outN (mixN ((padL s.data.toList).length / 64) first8 (padL s.data.toList)) 8) := by show _ = _; rw [outN_all]; rfl
  generalize padL s.data.toList = P at HPd hPl hPs hPn HSH
  go_enter Tryz.func66, Tryz.ntmps66
  go_wp2_with (with_reducible (refine wpl_id ?_); first
    | (refine wpl_pure (o := { dst := some 8, op := .build 136 _, type := _, pos := _, after := _, guard := none }) (.agg (c8 first8)) rfl (fun _ => by kernel_rfl) ?_)
    | (refine wpl_alloc 136 z8 alloc43 rfl rfl ?_)
    | (refine wpl_hold 136 _ _ rfl ?_))
  refine wpl_store_new 136 _ _ _ (c8 first8) w z8 rfl rfl info43 rfl (c8_all _) rfl rfl rfl rfl ?_
  go_wp2_with fail
  refine (HPd.out _).mono ?_
  rintro e w2 ⟨v, rfl, hbs, hB2⟩
  have hh : w2.heap[w.heap.size]? = some (.cells (c8 (mixN 0 first8 P)) 136 (0, 0)) := by
    rw [hB2.block _ (by simp), heap_alloc_new]; rfl
  have HH : Hid (w2.heap[w.heap.size]? = some (.cells (c8 (mixN 0 first8 P)) 136 (0, 0))) := hh
  obtain ⟨g, cap, hv, hg1, hg2, hg3⟩ := hbs.row hPn
  have HB0 : Hid (∀ j (h : j < P.length), w2.cell? ⟨g, j, none⟩ = some (.int .u8 (P[j]).toNat)) := hg3
  have hgs : w.heap.size < g := by simp at hg1; omega
  have HBe : Hid (Below w.heap.size w w2) := ((Below.refl _ _).alloc (Nat.le_refl _) _).trans (hB2.mono (by simp))
  subst hv
  clear hh hbs hB2 hg3 HPd
  go_wp2
  go_loopw [5] (fun i wr => ∃ k q : Nat, Hid (q = 64 * k) ∧ q ≤ P.length ∧ i = .int .i64 (q : Int) ∧ Hid (wr.heap[w.heap.size]? = some (.cells (c8 (mixN k first8 P)) 136 (0, 0))) ∧ Hid (∀ j (h : j < P.length), wr.cell? ⟨g, j, none⟩ = some (.int .u8 (P[j]).toNat)) ∧ Hid (Below w.heap.size w wr)) (fun i _ => P.length - (intOf i).toNat)
  case atStart => exact ⟨0, 0, rfl, by omega, rfl, HH, HB0, HBe⟩
  case round =>
    clear HH HB0 HBe
    obtain ⟨k, q, HQ, hk, rfl, HH, HB, HE⟩ := hrel
    by_cases hlt : q < P.length
    · have hq := HQ.out
      have hq64 : q + 64 ≤ P.length := by omega
      have h0 : (0 : Int) ≤ (q : Int) := by omega
      have h1 : (q : Int) ≤ (q : Int) + 64 := by omega
      have h2 : (q : Int) + 64 ≤ (P.length : Int) := by omega
      have h3 : (q : Int) + 64 ≤ (cap : Int) := by omega
      have h4 : (q : Int) < (P.length : Int) := by omega
      have e1 : IntKind.i64.wrap ((q : Int) + 64) = (q : Int) + 64 := by rw [IntKind.wrap_i64]; omega
      have hcq : ¬ cap = q := by omega
      have htn : ((q : Int) + 64).toNat - q = 64 := by omega
      have hbl : ((P.drop q).take 64).length = 64 := by simp; omega
      have hcs : ∀ j, j < 64 → wr.drew.cell? ⟨g, q + j, none⟩ = some (.int .u8 ((((P.drop q).take 64).getD j 0).toNat : Int)) := fun j hj => by
        show wr.cell? _ = _
        rw [HB.out (q + j) (by omega)]
        have : ((P.drop q).take 64).getD j 0 = P[q + j]'(by omega) := by
          rw [List.getD_eq_getElem?_getD, List.getElem?_take_of_lt hj, List.getElem?_drop, List.getElem?_eq_getElem (by omega)]; rfl
        rw [this]
      have HST := show Hid _ from fun (_ : Unit) => rstep_any (mixN k first8 P) ((P.drop q).take 64) g q (cap - q) wr.drew (mixN_lt _ _ _ first8_lt) hbl hcs
      have HMS : Hid (mixN (k + 1) first8 P = mix (mixN k first8 P) ((P.drop q).take 64)) := by show _ = _; rw [mixN_succ, hq]
      obtain ⟨hA1, hA2⟩ := r8_ld (w := wr.drew) HH.out
      have hwl : w.heap.size < wr.heap.size := (Array.getElem?_eq_some_iff.1 HH.out).1
      clear hcs hbl hq
      generalize mix (mixN k first8 P) ((P.drop q).take 64) = NS at HST HMS
      generalize hOS : mixN k first8 P = OS at HST HH hA2
      clear hOS
      generalize hC8 : c8 OS = C8 at HST hA2
      have HC8 := show Hid _ from hC8
      clear hC8
      go_wp2
      go_region_with (go_at_call 102; refine (HST.out ()).mono ?_; rintro e w1 ⟨rfl, hBel⟩; obtain ⟨hS1, hS2⟩ := r8_st (w := w1) (s := OS) ((hBel.block _ hwl).trans HH.out) NS)
      have hrow1 := (hBel.block _ hwl).trans HH.out
      have HH2 : Hid ((w1.setRow w.heap.size (c8 NS)).heap[w.heap.size]? = some (.cells (c8 (mixN (k + 1) first8 P)) 136 (0, 0))) := by rw [HMS.out]; exact setRow_heap _ _ _ _ _ _ hrow1
      have HB2 : Hid (∀ j (h : j < P.length), (w1.setRow w.heap.size (c8 NS)).cell? ⟨g, j, none⟩ = some (.int .u8 (P[j]).toNat)) := fun j hj => by
        rw [cell_setRow_other _ _ _ _ (by simp; omega), hBel.cell (p := ⟨g, j, none⟩) (World.block_lt_of_cell? _ _ (HB.out j hj))]
        exact HB.out j hj
      have HE2 : Hid (Below w.heap.size w (w1.setRow w.heap.size (c8 NS))) := ((below_drewN HE.out 1).trans (hBel.mono (Nat.le_of_lt hwl))).trans ⟨rfl, rfl, rfl, by simp, fun k hk => setRow_other _ _ _ _ (by omega)⟩
      have HQ2 : Hid (q + 64 = 64 * (k + 1)) := by have := HQ.out; show _ = _; omega
      clear hrow1 hS1 hS2 hBel HB HE HH HQ HMS HC8
      go_wp2
      exact ⟨⟨k + 1, q + 64, HQ2, hq64, by go_num, HH2, HB2, HE2⟩, by simp [intOf]; omega⟩
    · have hd : decide ((q : Int) < (P.length : Int)) = false := decide_eq_false (by omega)
      have hd2 : decide (q < P.length) = false := decide_eq_false hlt
      have hq := HQ.out
      have ek : k = P.length / 64 := by omega
      rw [ek] at HH
      have lt8 := mixN_lt (P.length / 64) first8 P first8_lt
      generalize mixN (P.length / 64) first8 P = S at HH HSH lt8
      have HB0 : Hid (BSl wr (w.heap.size + 1) (.slice none 0 0) (outN S 0)) := BSl.nil _ _
      have hsz : w.heap.size + 1 ≤ wr.heap.size := (Array.getElem?_eq_some_iff.1 HH.out).1
      clear HQ hk hq ek HB
      go_wp2
      go_loopw [6, 7] (fun v i wr => ∃ k : Nat, k ≤ 8 ∧ i = .int .i64 k ∧ Hid (BSl wr (w.heap.size + 1) v (outN S k)) ∧ Hid (Below w.heap.size w wr) ∧ Hid (wr.heap[w.heap.size]? = some (.cells (c8 S) 136 (0, 0)))) (fun _ i _ => 8 - (intOf i).toNat)
      case atStart => exact ⟨0, by omega, rfl, HB0, HE, HH⟩
      case round =>
        clear HB0 HE HH hsz
        obtain ⟨k, hk, rfl, HB, HE, HH⟩ := hrel
        by_cases hlt : k < 8
        · have hck : wr.cell? ⟨w.heap.size, k, none⟩ = some (.int .u32 (((w8 S).getD k 0 : Nat) : Int)) := by
            rw [cell_of_row _ _ _ _ _ _ HH.out, c8_us]; exact us_at _ _ (by simpa [w8] using hlt)
          have hx := w8_lt S k lt8
          have HO : Hid (outN S (k + 1) = outN S k ++ be ((w8 S).getD k 0) 4) := rfl
          have hlen := outN_len S k
          generalize (w8 S).getD k 0 = x at hck hx HO
          have HM := show Hid _ from be4_is3 x
          have hlt' : (k : Int) < 8 := by omega
          have hk0 : (0 : Int) ≤ (k : Int) := by omega
          have HML : Hid (4 = (be x 4).length) := (be_len x 4).symm
          have HMN : Hid (be x 4 ≠ []) := fun e => by have := be_len x 4; rw [e] at this; simp at this
          have HLL : Hid ((outN S k).length + (be x 4).length ≤ 140737488355328) := by show _ ≤ _; rw [hlen, be_len]; omega
          have hsz : w.heap.size + 1 ≤ wr.heap.size := (Array.getElem?_eq_some_iff.1 HH.out).1
          have HSZ : Hid (w.heap.size + 1 ≤ wr.heap.size) := hsz
          have HBx : Hid (∀ X, Below (w.heap.size + 1) wr (wr.alloc X).drew) := fun X => below_drewN ((Below.refl _ wr).alloc hsz X) 1
          clear hlen hsz
          generalize be x 4 = M at HO HM HML HMN HLL
          generalize outN S k = L at HO HLL HB
          go_wp2
          go_region_held3 (fun w' => w'.cell? ⟨w.heap.size, k, none⟩ = some (.int .u32 (x : Int))) (first | exact (hbel1.cell (p := ⟨w.heap.size, k, none⟩) (Nat.lt_succ_self _)).trans hck | go_keep) ((refine step_bsl (by rfl) _ _ (by rfl) (w.heap.size + 1) _ L wr M _ HM.out (by rfl) (HBx.out _) 4 HML.out (by rfl) (by rfl) HB.out HSZ.out HLL.out HMN.out ?_; intro v1 w1 hb1 hbel1))
          have HB2 : Hid (BSl w1 (w.heap.size + 1) v1 (outN S (k + 1))) := by rw [HO.out]; exact hb1
          have HE2 : Hid (Below w.heap.size w w1) := HE.out.trans (hbel1.mono (by omega))
          have HH2 : Hid (w1.heap[w.heap.size]? = some (.cells (c8 S) 136 (0, 0))) := (hbel1.block _ (Nat.lt_succ_self _)).trans HH.out
          clear hb1 hbel1 HB HE HH
          go_wp2
          exact ⟨⟨k + 1, by omega, by go_num, HB2, HE2, HH2⟩, by simp [intOf]; omega⟩
        · have hd3 : decide ((k : Int) < 8) = false := decide_eq_false (by omega)
          have e : k = 8 := by omega
          rw [e] at HB
          have hcv := HB.out.text
          clear e hk HB HH
          go_wp2
          go_ret
          exact ⟨ret_str (by rw [HSH.out]), HE.out⟩
end Go.Proofs.YtmadlnchmkhdjaaGreat
namespace Go.Proofs.YtmadlnchmkhdjaaGreat
open Go.RowKit
set_option linter.unusedVariables false

/-- an empty slice of bytes that has room -/
theorem bsl_make (n : Nat) (hn : n ≤ 140737488355328) : ∃ M : Array Value, (∀ W : World, (Instr.makeSlice 95 (.int .i64 0) (.int .i64 (n : Int))).run Tryz.prog W = .ok (.slice (some ⟨W.heap.size, 0, none⟩) 0 n) (W.alloc (.cells M 5))) ∧
    ∀ (W : World) (base : Nat), base ≤ W.heap.size → BSl (W.alloc (.cells M 5)) base (.slice (some ⟨W.heap.size, 0, none⟩) 0 n) [] := by
  obtain ⟨i0, hi, hz0, hz1, hz2⟩ := info_parts info8
  obtain ⟨M, hM⟩ : ∃ M, M = madeCells (Value.int .u8 0).cells (((n : Nat) : Int).toNat * i0.size) := ⟨_, rfl⟩
  have hMs : M.size = n := by rw [hM, size_madeCells, hz1]; simp
  refine ⟨M, fun W => ?_, fun W base hb => .inr ⟨W.heap.size, n, rfl, hb, by simp, by simp, fun j hj => by simp at hj, fun j hj => ⟨?_, frozen_of_row _ _ _ _ _ (heap_alloc_new _ _)⟩⟩⟩
  · have h := run_make (P := Tryz.prog) W 95 5 i0 (.int .u8 0) Tryz.underlying95 hi hz0 .i64 .i64 0 (n : Int) (by omega) (by omega) (by rw [hz2]; omega) (by omega)
    rw [← hM] at h
    simpa using h
  · rw [cell_of_row _ _ _ _ _ _ (heap_alloc_new _ _), Array.getElem?_eq_getElem (by rw [hMs]; exact hj)]; rfl

theorem take_snocB (s : ByteArray) (k : Nat) (h : k < s.size) : s.data.toList.take (k + 1) = s.data.toList.take k ++ [s[k]] := by
  rw [List.take_succ_eq_append_getElem (by simpa using h)]; rfl

theorem digit_0 (w : World) : (Instr.index 9 (.string ⟨#[48, 49, 50, 51, 52, 53, 54, 55, 56, 57, 97, 98, 99, 100, 101, 102]⟩) (.int .u8 ((0 : Nat) : Int))).run Tryz.prog w = .ok (.int .u8 ((dig 0).toNat : Int)) w := by kernel_rfl
theorem digit_1 (w : World) : (Instr.index 9 (.string ⟨#[48, 49, 50, 51, 52, 53, 54, 55, 56, 57, 97, 98, 99, 100, 101, 102]⟩) (.int .u8 ((1 : Nat) : Int))).run Tryz.prog w = .ok (.int .u8 ((dig 1).toNat : Int)) w := by kernel_rfl
theorem digit_2 (w : World) : (Instr.index 9 (.string ⟨#[48, 49, 50, 51, 52, 53, 54, 55, 56, 57, 97, 98, 99, 100, 101, 102]⟩) (.int .u8 ((2 : Nat) : Int))).run Tryz.prog w = .ok (.int .u8 ((dig 2).toNat : Int)) w := by kernel_rfl
theorem digit_3 (w : World) : (Instr.index 9 (.string ⟨#[48, 49, 50, 51, 52, 53, 54, 55, 56, 57, 97, 98, 99, 100, 101, 102]⟩) (.int .u8 ((3 : Nat) : Int))).run Tryz.prog w = .ok (.int .u8 ((dig 3).toNat : Int)) w := by kernel_rfl
theorem digit_4 (w : World) : (Instr.index 9 (.string ⟨#[48, 49, 50, 51, 52, 53, 54, 55, 56, 57, 97, 98, 99, 100, 101, 102]⟩) (.int .u8 ((4 : Nat) : Int))).run Tryz.prog w = .ok (.int .u8 ((dig 4).toNat : Int)) w := by kernel_rfl
theorem digit_5 (w : World) : (Instr.index 9 (.string ⟨#[48, 49, 50, 51, 52, 53, 54, 55, 56, 57, 97, 98, 99, 100, 101, 102]⟩) (.int .u8 ((5 : Nat) : Int))).run Tryz.prog w = .ok (.int .u8 ((dig 5).toNat : Int)) w := by kernel_rfl
theorem digit_6 (w : World) : (Instr.index 9 (.string ⟨#[48, 49, 50, 51, 52, 53, 54, 55, 56, 57, 97, 98, 99, 100, 101, 102]⟩) (.int .u8 ((6 : Nat) : Int))).run Tryz.prog w = .ok (.int .u8 ((dig 6).toNat : Int)) w := by kernel_rfl
theorem digit_7 (w : World) : (Instr.index 9 (.string ⟨#[48, 49, 50, 51, 52, 53, 54, 55, 56, 57, 97, 98, 99, 100, 101, 102]⟩) (.int .u8 ((7 : Nat) : Int))).run Tryz.prog w = .ok (.int .u8 ((dig 7).toNat : Int)) w := by kernel_rfl
theorem digit_8 (w : World) : (Instr.index 9 (.string ⟨#[48, 49, 50, 51, 52, 53, 54, 55, 56, 57, 97, 98, 99, 100, 101, 102]⟩) (.int .u8 ((8 : Nat) : Int))).run Tryz.prog w = .ok (.int .u8 ((dig 8).toNat : Int)) w := by kernel_rfl
theorem digit_9 (w : World) : (Instr.index 9 (.string ⟨#[48, 49, 50, 51, 52, 53, 54, 55, 56, 57, 97, 98, 99, 100, 101, 102]⟩) (.int .u8 ((9 : Nat) : Int))).run Tryz.prog w = .ok (.int .u8 ((dig 9).toNat : Int)) w := by kernel_rfl
theorem digit_10 (w : World) : (Instr.index 9 (.string ⟨#[48, 49, 50, 51, 52, 53, 54, 55, 56, 57, 97, 98, 99, 100, 101, 102]⟩) (.int .u8 ((10 : Nat) : Int))).run Tryz.prog w = .ok (.int .u8 ((dig 10).toNat : Int)) w := by kernel_rfl
theorem digit_11 (w : World) : (Instr.index 9 (.string ⟨#[48, 49, 50, 51, 52, 53, 54, 55, 56, 57, 97, 98, 99, 100, 101, 102]⟩) (.int .u8 ((11 : Nat) : Int))).run Tryz.prog w = .ok (.int .u8 ((dig 11).toNat : Int)) w := by kernel_rfl
theorem digit_12 (w : World) : (Instr.index 9 (.string ⟨#[48, 49, 50, 51, 52, 53, 54, 55, 56, 57, 97, 98, 99, 100, 101, 102]⟩) (.int .u8 ((12 : Nat) : Int))).run Tryz.prog w = .ok (.int .u8 ((dig 12).toNat : Int)) w := by kernel_rfl
theorem digit_13 (w : World) : (Instr.index 9 (.string ⟨#[48, 49, 50, 51, 52, 53, 54, 55, 56, 57, 97, 98, 99, 100, 101, 102]⟩) (.int .u8 ((13 : Nat) : Int))).run Tryz.prog w = .ok (.int .u8 ((dig 13).toNat : Int)) w := by kernel_rfl
theorem digit_14 (w : World) : (Instr.index 9 (.string ⟨#[48, 49, 50, 51, 52, 53, 54, 55, 56, 57, 97, 98, 99, 100, 101, 102]⟩) (.int .u8 ((14 : Nat) : Int))).run Tryz.prog w = .ok (.int .u8 ((dig 14).toNat : Int)) w := by kernel_rfl
theorem digit_15 (w : World) : (Instr.index 9 (.string ⟨#[48, 49, 50, 51, 52, 53, 54, 55, 56, 57, 97, 98, 99, 100, 101, 102]⟩) (.int .u8 ((15 : Nat) : Int))).run Tryz.prog w = .ok (.int .u8 ((dig 15).toNat : Int)) w := by kernel_rfl
theorem digit_any (i : Nat) (h : i < 16) (w : World) : (Instr.index 9 (.string ⟨#[48, 49, 50, 51, 52, 53, 54, 55, 56, 57, 97, 98, 99, 100, 101, 102]⟩) (.int .u8 (i : Int))).run Tryz.prog w = .ok (.int .u8 ((dig i).toNat : Int)) w := by
  have : i = 0 ∨ i = 1 ∨ i = 2 ∨ i = 3 ∨ i = 4 ∨ i = 5 ∨ i = 6 ∨ i = 7 ∨ i = 8 ∨ i = 9 ∨ i = 10 ∨ i = 11 ∨ i = 12 ∨ i = 13 ∨ i = 14 ∨ i = 15 := by omega
  rcases this with rfl | rfl | rfl | rfl | rfl | rfl | rfl | rfl | rfl | rfl | rfl | rfl | rfl | rfl | rfl | rfl
  · exact digit_0 w
  · exact digit_1 w
  · exact digit_2 w
  · exact digit_3 w
  · exact digit_4 w
  · exact digit_5 w
  · exact digit_6 w
  · exact digit_7 w
  · exact digit_8 w
  · exact digit_9 w
  · exact digit_10 w
  · exact digit_11 w
  · exact digit_12 w
  · exact digit_13 w
  · exact digit_14 w
  · exact digit_15 w
theorem low4 (c : UInt8) : bits .and .u8 (c.toNat : Int) 15 = ((c.toNat % 16 : Nat) : Int) := by
  have h := UInt8.toNat_lt c
  have := bits_mask .u8 8 (by decide) wraps_u8 4 (by decide) (c.toNat : Int) (by omega) (by omega)
  rw [show (15 : Int) = 2 ^ 4 - 1 by decide, this]; omega
theorem hexL_snoc (l : List UInt8) (c : UInt8) : hexL (l ++ [c]) = hexL l ++ [dig (c.toNat / 16), dig (c.toNat % 16)] := by rw [hexL_append]; rfl

set_option maxRecDepth 100000 in
set_option maxHeartbeats 1000000 in
theorem hex_any (s : ByteArray) (w : World) (hs : s.size ≤ 70368744177664) :
    Calls Tryz.prog 25 #[.string s] w fun e w' => e = .returned (.string ⟨(hexL s.data.toList).toArray⟩) ∧ Below w.heap.size w w' := by
  obtain ⟨M, hmk, hb0⟩ := bsl_make (2 * s.size) (by omega)
  have e2 : ((2 * s.size : Nat) : Int) = 2 * (s.size : Int) := by omega
  rw [e2] at hmk
  have HB0 : Hid (BSl (w.alloc (.cells M 5)) w.heap.size (.slice (some ⟨w.heap.size, 0, none⟩) 0 (2 * s.size)) (hexL (s.data.toList.take 0))) := hb0 w w.heap.size (Nat.le_refl _)
  have HE0 : Hid (Below w.heap.size w (w.alloc (.cells M 5))) := (Below.refl _ _).alloc (Nat.le_refl _) _
  clear hb0 e2
  go_enter Tryz.func25, Tryz.ntmps25
  go_wp2
  go_loopw [3, 11] (fun v i wr => ∃ k : Nat, k ≤ s.size ∧ i = .int .i64 k ∧ Hid (BSl wr w.heap.size v (hexL (s.data.toList.take k))) ∧ Hid (Below w.heap.size w wr)) (fun _ i _ => s.size - (intOf i).toNat)
  case atStart => exact ⟨0, by omega, rfl, HB0, HE0⟩
  case round =>
    clear HB0 HE0 hmk
    obtain ⟨k, hk, rfl, HB, HE⟩ := hrel
    by_cases hlt : k < s.size
    · have hk0 : (0 : Int) ≤ (k : Int) := by omega
      have hk1 : (k : Int) < (s.size : Int) := by omega
      have HT := show Hid _ from take_snocB s k hlt
      generalize hc : s[k] = c at HT
      have hcl := UInt8.toNat_lt c
      have h1 := digit_any (c.toNat / 16) (by omega)
      have h2 := digit_any (c.toNat % 16) (by omega)
      have e1 : (c.toNat : Int) / 16 = ((c.toNat / 16 : Nat) : Int) := by omega
      have e2 := low4 c
      have HS : Hid (hexL (s.data.toList.take (k + 1)) = hexL (s.data.toList.take k) ++ [dig (c.toNat / 16), dig (c.toNat % 16)]) := by show _ = _; rw [HT.out, hexL_snoc]
      generalize c.toNat / 16 = i1 at h1 e1 HS
      generalize c.toNat % 16 = i2 at h2 e2 HS
      generalize dig i1 = d1 at h1 HS
      generalize dig i2 = d2 at h2 HS
      have HM : Hid (#[Value.int .u8 (d1.toNat : Int), .int .u8 (d2.toNat : Int)] = (bs [d1, d2]).toArray) := rfl
      have HML : Hid (2 = [d1, d2].length) := rfl
      have HMN : Hid ([d1, d2] ≠ []) := by show _ ≠ _; simp
      have HLL : Hid ((hexL (s.data.toList.take k)).length + [d1, d2].length ≤ 140737488355328) := by show _ ≤ _; rw [hexL_len, List.length_take]; simp; omega
      have hsz : w.heap.size ≤ wr.heap.size := HE.out.size
      have HSZ : Hid (w.heap.size ≤ wr.heap.size) := hsz
      have HBx : Hid (∀ X, Below w.heap.size wr (wr.alloc X).drew) := fun X => below_drewN ((Below.refl _ wr).alloc hsz X) 1
      clear hsz HT
      generalize hexL (s.data.toList.take k) = L at HS HLL HB
      go_wp2
      go_region_held3 (fun w' => True) (trivial) ((refine step_bsl (by rfl) _ _ (by rfl) w.heap.size _ L wr [d1, d2] _ HM.out (by rfl) (HBx.out _) 2 HML.out (by rfl) (by rfl) HB.out HSZ.out HLL.out HMN.out ?_; intro v1 w1 hb1 hbel1))
      all_goals
        have HB2 : Hid (BSl w1 w.heap.size v1 (hexL (s.data.toList.take (k + 1)))) := by rw [HS.out]; exact hb1
        have HE2 : Hid (Below w.heap.size w w1) := HE.out.trans hbel1
        clear hb1 hbel1 HB HE h1 h2 e1 e2 hc
        go_wp2
        exact ⟨⟨k + 1, by omega, by go_num, HB2, HE2⟩, by simp [intOf]; omega⟩
    · have hd : decide ((k : Int) < (s.size : Int)) = false := decide_eq_false (by omega)
      have hd2 : decide (k < s.size) = false := decide_eq_false hlt
      have e : s.data.toList.take k = s.data.toList := List.take_of_length_le (by simp; omega)
      rw [e] at HB
      have hcv := HB.out.text
      clear e HB
      go_wp2
      go_ret
      exact ⟨rfl, HE.out⟩
end Go.Proofs.YtmadlnchmkhdjaaGreat
namespace Go.Proofs.YtmadlnchmkhdjaaGreat
open Go.RowKit
set_option linter.unusedVariables false

theorem hex_two : hexL (sha [97, 98, 99, 100, 98, 99, 100, 101, 99, 100, 101, 102, 100, 101, 102, 103, 101, 102, 103, 104, 102, 103, 104, 105, 103, 104, 105, 106, 104, 105, 106, 107, 105, 106, 107, 108, 106, 107, 108, 109, 107, 108, 109, 110, 108, 109, 110, 111, 109, 110, 111, 112, 110, 111, 112, 113]) = [50, 52, 56, 100, 54, 97, 54, 49, 100, 50, 48, 54, 51, 56, 98, 56, 101, 53, 99, 48, 50, 54, 57, 51, 48, 99, 51, 101, 54, 48, 51, 57, 97, 51, 51, 99, 101, 52, 53, 57, 54, 52, 102, 102, 50, 49, 54, 55, 102, 54, 101, 99, 101, 100, 100, 52, 49, 57, 100, 98, 48, 54, 99, 49] := by
  decide +kernel
theorem sha_size (l : List UInt8) : (ByteArray.mk (sha l).toArray).size = 32 := by show (sha l).toArray.size = 32; simp [sha_len]
end Go.Proofs.YtmadlnchmkhdjaaGreat
namespace Go.Proofs.YtmadlnchmkhdjaaGreat
open Go.RowKit
set_option linter.unusedVariables false

/-- what is digested of parts for a purpose -/
def tld (p : UInt8) (xs : List ByteArray) : List UInt8 := p :: xs.flatMap fun x => be x.size 8 ++ x.data.toList
theorem tld_nil (p : UInt8) : tld p [] = [p] := rfl
theorem tld_snoc (p : UInt8) (xs : List ByteArray) (j : Nat) (h : j < xs.length) : tld p (xs.take (j + 1)) = tld p (xs.take j) ++ be (xs.getD j ⟨#[]⟩).size 8 ++ (xs.getD j ⟨#[]⟩).data.toList := by
  have e : xs.getD j ⟨#[]⟩ = xs[j] := by rw [List.getD_eq_getElem?_getD, List.getElem?_eq_getElem h]; rfl
  unfold tld
  rw [e, List.take_succ_eq_append_getElem h, List.flatMap_append]
  simp only [List.flatMap_cons, List.flatMap_nil, List.append_nil, List.cons_append, List.append_assoc]
theorem tld_len (p : UInt8) (xs : List ByteArray) : (tld p xs).length ≤ 1 + room xs := by
  induction xs with
  | nil => simp [tld, room]
  | cons x r ih =>
    simp only [tld, room, List.flatMap_cons, List.map_cons, List.sum_cons, List.length_cons, List.length_append, be_len] at ih ⊢
    have : x.data.toList.length = x.size := by simp
    omega

set_option maxRecDepth 100000 in
set_option maxHeartbeats 1000000 in
theorem tagged_any (p : UInt8) (v : Value) (xs : List ByteArray) (w : World) (hv : Strs w v xs) (hr : room xs ≤ 1152921504606846976) :
    Calls Tryz.prog 26 #[.int .u8 (p.toNat : Int), v] w fun e w' => e = .returned (.string ⟨(sha (tld p xs)).toArray⟩) ∧ Below w.heap.size w w' := by
  have HN := show Hid _ from fun (_ : Unit) => hnew_any w
  have hb0 : Below w.heap.size w (w.alloc (.cells z73 140)) := (Below.refl _ _).alloc (Nat.le_refl _) _
  have HB0 : Hid (Below w.heap.size w (w.alloc (.cells z73 140))) := hb0
  have HH0 : Hid (HashAt (w.alloc (.cells z73 140)) w.heap.size [] ⟨0, 0, 0, 0, 0, 0, 0, 0⟩ (List.replicate 64 0)) := hash_new w
  have hxl : 10 * xs.length ≤ room xs := room_len xs
  have HV : Hid (Strs w v xs) := hv
  obtain ⟨ad, cap, hve, hc⟩ := hv.at
  have HC := show Hid _ from hc
  subst hve
  have hcv : ∀ W : World, (convert 95 9 (.slice (some ⟨W.heap.size, 0, none⟩) 1 1)).run Tryz.prog (W.alloc (.cells #[.int .u8 (p.toNat : Int)] 5)) = .ok (.string ⟨[p].toArray⟩) (W.alloc (.cells #[.int .u8 (p.toNat : Int)] 5)) := fun W =>
    run_convert_bytes_back (P := Tryz.prog) _ 95 9 5 ⟨W.heap.size, 0, none⟩ 1 [p] Tryz.underlying95 Tryz.underlying5 Tryz.underlying9 (by
        intro j hj
        rw [Addr.add_lit, Nat.zero_add, cell_of_row _ _ _ _ _ _ (heap_alloc_new _ _)]
        have : j = 0 := by simp at hj; omega
        subst this; rfl)
  clear hb0 hc hv
  generalize w.alloc (.cells z73 140) = w1 at HN HB0 HH0
  go_enter Tryz.func26, Tryz.ntmps26
  go_wp2_with fail
  refine (HN.out ()).mono ?_
  rintro e w' ⟨rfl, rfl⟩
  go_wp2_with fail
  have hb1 : Below w'.heap.size w' (w'.alloc (.cells #[.int .u8 (p.toNat : Int)] 5)) := (Below.refl _ _).alloc (Nat.le_refl _) _
  refine (hwrite_any w.heap.size [] _ _ ⟨[p].toArray⟩ _ (HH0.out.keeps hb1) (by show 0 + 1 < _; decide)).mono ?_
  rintro e w2 ⟨rfl, ⟨b2, hH2⟩, hO2⟩
  have HH2 : Hid (HashAt w2 w.heap.size (tld p (xs.take 0)) (st (tld p (xs.take 0))) b2) := hH2
  have hB2 := HB0.out.trans (hb1.mono HB0.out.size)
  have HB2 : Hid (Below w.heap.size w w2) := hB2.trans (hO2.below (Nat.le_refl _) hB2.size)
  clear hb1 hH2 hO2 hB2 HH0 HB0 HN hcv
  go_wp2
  go_loopw [16] (fun i wr => ∃ (k : Nat) (b : List UInt8), k ≤ xs.length ∧ i = .int .i64 k ∧ Hid (HashAt wr w.heap.size (tld p (xs.take k)) (st (tld p (xs.take k))) b) ∧ Hid (Below w.heap.size w wr)) (fun i _ => xs.length - (intOf i).toNat)
  case atStart => exact ⟨0, b2, by omega, rfl, HH2, HB2⟩
  case round =>
    clear HH2 HB2
    obtain ⟨k, b, hk, rfl, HH, HB⟩ := hrel
    by_cases hlt : k < xs.length
    · obtain ⟨gb, off, had, hgb, hcell⟩ := HC.out k hlt
      subst had
      have hcw : wr.cell? ⟨gb, off + k, none⟩ = some (.string (xs.getD k ⟨#[]⟩)) := (HB.out.cell (p := ⟨gb, off + k, none⟩) hgb).trans hcell
      have hxs := room_get xs k
      have htl := tld_len p (xs.take k)
      have hrt := room_take xs k hlt
      have HS := show Hid _ from tld_snoc p xs k hlt
      generalize xs.getD k ⟨#[]⟩ = x at hcw hcell hxs hrt HS
      have HE := show Hid _ from fun w => eightBytes_any x.size w (by omega)
      have hk0 : (0 : Int) ≤ (k : Int) := by omega
      have hk1 : (k : Int) < (xs.length : Int) := by omega
      have hxb : (x.size : Int) ≤ 9223372036854775807 := by omega
      clear hcell
      go_wp2_with fail
      refine (HE.out _).mono ?_
      rintro e w3 ⟨rfl, hB3⟩
      go_wp2_with fail
      have hbs : (ByteArray.mk (be x.size 8).toArray).size = 8 := by show (be x.size 8).toArray.size = 8; simp [be_len]
      refine (hwrite_any w.heap.size _ _ _ ⟨(be x.size 8).toArray⟩ _ (HH.out.keeps hB3) (by rw [hbs]; omega)).mono ?_
      rintro e w4 ⟨rfl, ⟨b4, hH4⟩, hO4⟩
      go_wp2_with fail
      refine (hwrite_any w.heap.size _ _ _ x _ hH4 (by simp [be_len]; omega)).mono ?_
      rintro e w5 ⟨rfl, ⟨b5, hH5⟩, hO5⟩
      have HH5 : Hid (HashAt w5 w.heap.size (tld p (xs.take (k + 1))) (st (tld p (xs.take (k + 1)))) b5) := by rw [HS.out]; exact hH5
      have hB4 := HB.out.trans (hB3.mono HB.out.size)
      have hB5 := hB4.trans (hO4.below (Nat.le_refl _) hB4.size)
      have HB5 : Hid (Below w.heap.size w w5) := hB5.trans (hO5.below (Nat.le_refl _) hB5.size)
      clear hH4 hH5 hO4 hO5 hB4 hB5 hB3 HH HB HE
      go_wp2
      exact ⟨⟨k + 1, b5, by omega, by go_num, HH5, HB5⟩, by simp [intOf]; omega⟩
    · have hd : decide ((k : Int) < (xs.length : Int)) = false := decide_eq_false (by omega)
      have hd2 : decide (k < xs.length) = false := decide_eq_false hlt
      have e : xs.take k = xs := List.take_of_length_le (by omega)
      rw [e] at HH
      have htl := tld_len p xs
      clear e
      go_wp2_with fail
      refine (hsum_any _ _ _ _ _ HH.out (by omega)).mono ?_
      rintro e w3 ⟨rfl, hB3⟩
      go_wp2
      go_ret
      exact ⟨rfl, HB.out.trans (hB3.mono HB.out.size)⟩
end Go.Proofs.YtmadlnchmkhdjaaGreat
