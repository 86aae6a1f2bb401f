/- Joined: The walk of the document's digest. The walks of the digits. The walk of layer 3's worked example: it answers true; and of the law DigestSums. The walk of the digest of parts. The walks of the document's digest of parts, and of what is digested. The walk of Unhex. What lies aside of a slice stays where bytes are appended to it. The walk of the reference's Hex. -/
import Derived.Test.YtedogofeibdjiaaGreatJoined12
import Derived.Test.YtedogofeibdjiaaGreatRPad
import Derived.Deep.DrawnRows
import Derived.Deep.RegionLaw
import Derived.Test.YtedogofeibdjiaaGreatJoined01
namespace Go.Proofs.YtedogofeibdjiaaGreat
open Go.RowKit
set_option linter.unusedVariables false

theorem ld43 (ρ : Operand → Value) (dst : Option Tmp) (x : Operand) (ty : TypeId) (pos : String) (after : Array Edge) (guard : Option (Nat × Bool)) (w : World) (h : ldOk w 8 (ρ x) = true) :
    (execOp ρ { dst := dst, op := .load 130 x, type := ty, pos := pos, after := after, guard := guard }).run Tryz.prog w = .ok (.value (.agg (ldCells w 8 (ρ x)))) w := by
  unfold execOp; simp only [Sem.run_bind, ld_run _ 8 _ Tryz.underlying130 rfl info43 (ρ x) w h, Result.andThen_ok, Sem.run_pure]
theorem st43 (ρ : Operand → Value) (dst : Option Tmp) (x y : Operand) (ty : TypeId) (pos : String) (after : Array Edge) (guard : Option (Nat × Bool)) (w : World) (h : stOk w 8 (ρ x) (ρ y) = true) :
    (execOp ρ { dst := dst, op := .store 130 x y, type := ty, pos := pos, after := after, guard := guard }).run Tryz.prog w = .ok .skip (stPut w (ρ x) (ρ y)) := by
  unfold execOp; simp only [Sem.run_bind, st_run _ 8 info43 (ρ x) (ρ y) w h, Result.andThen_ok, Sem.run_pure]
theorem r8_ld {w : World} {n : Nat} {s : St8} (h : w.heap[n]? = some (.cells (c8 s) 130 (0, 0))) : ldOk w 8 (.pointer (some ⟨n, 0, none⟩)) = true ∧ ldCells w 8 (.pointer (some ⟨n, 0, none⟩)) = c8 s := by
  have hr := World.rangeAt_of_block h 0 8
  have e : ((c8 s).extract 0 (0 + 8)).toList = us (w8 s) := rfl
  rw [e] at hr
  have := range_cellsAt 8 0 (us (w8 s)) hr (by simp [us_len, w8])
  simp [ldOk, ldCells, this, c8_us]
theorem r8_st {w : World} {n : Nat} {s : St8} (h : w.heap[n]? = some (.cells (c8 s) 130 (0, 0))) (t : St8) :
    stOk w 8 (.pointer (some ⟨n, 0, none⟩)) (.agg (c8 t)) = true ∧ stPut w (.pointer (some ⟨n, 0, none⟩)) (.agg (c8 t)) = w.setRow n (c8 t) := by
  have h1 := c8_all t
  refine ⟨?_, ?_⟩
  · simp only [stOk, h]; rw [h1]; rfl
  · simp only [stPut, h]; congr 1
theorem mixN_succ (k : Nat) (s : St8) (l : List UInt8) : mixN (k + 1) s l = mix (mixN k s l) ((l.drop (64 * k)).take 64) := by
  rw [mixN_add]; rfl
theorem BSl.row {w : World} {base : Nat} {v : Value} {L : List UInt8} (h : BSl w base v L) (hL : L ≠ []) : ∃ g cap, v = .slice (some ⟨g, 0, none⟩) L.length cap ∧ base ≤ g ∧ L.length ≤ cap ∧ (∀ j (h : j < L.length), w.cell? ⟨g, j, none⟩ = some (.int .u8 (L[j]).toNat)) := by
  rcases h with ⟨_, h⟩ | ⟨g, cap, h1, h2, _, h3, h4, _⟩
  · exact absurd h hL
  · exact ⟨g, cap, h1, h2, h3, h4⟩
/-- the walk stands at a store -/
theorem wpl_hold {P : Program} {ops : Array Oper} {rest : List Oper} {o : Oper} {a : Act} {w : World} {Q : Exit → Act → World → Prop} (ty : TypeId) (x y : Operand) (ho : o.op = .store ty x y) (h : Hid (wpList P ops Q (o :: rest) a w)) : wpList P ops Q (o :: rest) a w := h
theorem be4_is3 (x : Nat) : #[Value.int .u8 (IntKind.u8.wrap ((x : Int) / 16777216)), .int .u8 (IntKind.u8.wrap ((x : Int) / 65536)), .int .u8 (IntKind.u8.wrap ((x : Int) / 256)), .int .u8 (IntKind.u8.wrap (x : Int))] = (bs (be x 4)).toArray := by
  rw [← be4_is]; simp only [IntKind.wrap_u8]
attribute [local go_sem ↓] Go.wp_at_zero Go.wp_at_succ ld43 st43

set_option maxRecDepth 100000 in
set_option maxHeartbeats 2000000 in
theorem rsum_any (s : ByteArray) (w : World) (hs : s.size + 73 ≤ 140737488355328) :
    Calls Tryz.prog 74 #[.string s] w fun e w' => e = .returned (.string ⟨(sha s.data.toList).toArray⟩) ∧ Below w.heap.size w w' := by
  have HPd := show Hid _ from fun w => padded_any s w hs
  have hPl := padL_len s.data.toList
  have hPs : (padL s.data.toList).length ≤ s.size + 72 := by
    have h1 := tail_len2 s.data.toList.length
    have h2 : s.data.toList.length = s.size := by simp
    unfold padL; rw [List.length_append]; omega
  have hPn : padL s.data.toList ≠ [] := fun e => by
    have h1 : (padL s.data.toList).length = 0 := by rw [e]; rfl
    simp [padL, tail] at h1
  have HSH : Hid (sha s.data.toList = outN (mixN ((padL s.data.toList).length / 64) first8 (padL s.data.toList)) 8) := by show _ = _; rw [outN_all]; rfl
  generalize padL s.data.toList = P at HPd hPl hPs hPn HSH
  go_enter Tryz.func74, Tryz.ntmps74
  go_wp2_with (with_reducible (refine wpl_id ?_); first
    | (refine wpl_pure (o := { dst := some 8, op := .build 130 _, type := _, pos := _, after := _, guard := none }) (.agg (c8 first8)) rfl (fun _ => by kernel_rfl) ?_)
    | (refine wpl_alloc 130 z8 alloc43 rfl rfl ?_)
    | (refine wpl_hold 130 _ _ rfl ?_))
  refine wpl_store_new 130 _ _ _ (c8 first8) w z8 rfl rfl info43 rfl (c8_all _) rfl rfl rfl rfl ?_
  go_wp2_with fail
  refine (HPd.out _).mono ?_
  rintro e w2 ⟨v, rfl, hbs, hB2⟩
  have hh : w2.heap[w.heap.size]? = some (.cells (c8 (mixN 0 first8 P)) 130 (0, 0)) := by
    rw [hB2.block _ (by simp), heap_alloc_new]; rfl
  have HH : Hid (w2.heap[w.heap.size]? = some (.cells (c8 (mixN 0 first8 P)) 130 (0, 0))) := hh
  obtain ⟨g, cap, hv, hg1, hg2, hg3⟩ := hbs.row hPn
  have HB0 : Hid (∀ j (h : j < P.length), w2.cell? ⟨g, j, none⟩ = some (.int .u8 (P[j]).toNat)) := hg3
  have hgs : w.heap.size < g := by simp at hg1; omega
  have HBe : Hid (Below w.heap.size w w2) := ((Below.refl _ _).alloc (Nat.le_refl _) _).trans (hB2.mono (by simp))
  subst hv
  clear hh hbs hB2 hg3 HPd
  go_wp2
  go_loopw [5] (fun i wr => ∃ k q : Nat, Hid (q = 64 * k) ∧ q ≤ P.length ∧ i = .int .i64 (q : Int) ∧ Hid (wr.heap[w.heap.size]? = some (.cells (c8 (mixN k first8 P)) 130 (0, 0))) ∧ Hid (∀ j (h : j < P.length), wr.cell? ⟨g, j, none⟩ = some (.int .u8 (P[j]).toNat)) ∧ Hid (Below w.heap.size w wr)) (fun i _ => P.length - (intOf i).toNat)
  case atStart => exact ⟨0, 0, rfl, by omega, rfl, HH, HB0, HBe⟩
  case round =>
    clear HH HB0 HBe
    obtain ⟨k, q, HQ, hk, rfl, HH, HB, HE⟩ := hrel
    by_cases hlt : q < P.length
    · have hq := HQ.out
      have hq64 : q + 64 ≤ P.length := by omega
      have h0 : (0 : Int) ≤ (q : Int) := by omega
      have h1 : (q : Int) ≤ (q : Int) + 64 := by omega
      have h2 : (q : Int) + 64 ≤ (P.length : Int) := by omega
      have h3 : (q : Int) + 64 ≤ (cap : Int) := by omega
      have h4 : (q : Int) < (P.length : Int) := by omega
      have e1 : IntKind.i64.wrap ((q : Int) + 64) = (q : Int) + 64 := by rw [IntKind.wrap_i64]; omega
      have hcq : ¬ cap = q := by omega
      have htn : ((q : Int) + 64).toNat - q = 64 := by omega
      have hbl : ((P.drop q).take 64).length = 64 := by simp; omega
      have hcs : ∀ j, j < 64 → wr.drew.cell? ⟨g, q + j, none⟩ = some (.int .u8 ((((P.drop q).take 64).getD j 0).toNat : Int)) := fun j hj => by
        show wr.cell? _ = _
        rw [HB.out (q + j) (by omega)]
        have : ((P.drop q).take 64).getD j 0 = P[q + j]'(by omega) := by
          rw [List.getD_eq_getElem?_getD, List.getElem?_take_of_lt hj, List.getElem?_drop, List.getElem?_eq_getElem (by omega)]; rfl
        rw [this]
      have HST := show Hid _ from fun (_ : Unit) => rstep_any (mixN k first8 P) ((P.drop q).take 64) g q (cap - q) wr.drew (mixN_lt _ _ _ first8_lt) hbl hcs
      have HMS : Hid (mixN (k + 1) first8 P = mix (mixN k first8 P) ((P.drop q).take 64)) := by show _ = _; rw [mixN_succ, hq]
      obtain ⟨hA1, hA2⟩ := r8_ld (w := wr.drew) HH.out
      have hwl : w.heap.size < wr.heap.size := (Array.getElem?_eq_some_iff.1 HH.out).1
      clear hcs hbl hq
      generalize mix (mixN k first8 P) ((P.drop q).take 64) = NS at HST HMS
      generalize hOS : mixN k first8 P = OS at HST HH hA2
      clear hOS
      generalize hC8 : c8 OS = C8 at HST hA2
      have HC8 := show Hid _ from hC8
      clear hC8
      go_wp2
      go_region_with (go_at_call 98; refine (HST.out ()).mono ?_; rintro e w1 ⟨rfl, hBel⟩; obtain ⟨hS1, hS2⟩ := r8_st (w := w1) (s := OS) ((hBel.block _ hwl).trans HH.out) NS)
      have hrow1 := (hBel.block _ hwl).trans HH.out
      have HH2 : Hid ((w1.setRow w.heap.size (c8 NS)).heap[w.heap.size]? = some (.cells (c8 (mixN (k + 1) first8 P)) 130 (0, 0))) := by rw [HMS.out]; exact setRow_heap _ _ _ _ _ _ hrow1
      have HB2 : Hid (∀ j (h : j < P.length), (w1.setRow w.heap.size (c8 NS)).cell? ⟨g, j, none⟩ = some (.int .u8 (P[j]).toNat)) := fun j hj => by
        rw [cell_setRow_other _ _ _ _ (by simp; omega), hBel.cell (p := ⟨g, j, none⟩) (World.block_lt_of_cell? _ _ (HB.out j hj))]
        exact HB.out j hj
      have HE2 : Hid (Below w.heap.size w (w1.setRow w.heap.size (c8 NS))) := ((below_drewN HE.out 1).trans (hBel.mono (Nat.le_of_lt hwl))).trans ⟨rfl, rfl, rfl, by simp, fun k hk => setRow_other _ _ _ _ (by omega)⟩
      have HQ2 : Hid (q + 64 = 64 * (k + 1)) := by have := HQ.out; show _ = _; omega
      clear hrow1 hS1 hS2 hBel HB HE HH HQ HMS HC8
      go_wp2
      exact ⟨⟨k + 1, q + 64, HQ2, hq64, by go_num, HH2, HB2, HE2⟩, by simp [intOf]; omega⟩
    · have hd : decide ((q : Int) < (P.length : Int)) = false := decide_eq_false (by omega)
      have hd2 : decide (q < P.length) = false := decide_eq_false hlt
      have hq := HQ.out
      have ek : k = P.length / 64 := by omega
      rw [ek] at HH
      have lt8 := mixN_lt (P.length / 64) first8 P first8_lt
      generalize mixN (P.length / 64) first8 P = S at HH HSH lt8
      have HB0 : Hid (BSl wr (w.heap.size + 1) (.slice none 0 0) (outN S 0)) := BSl.nil _ _
      have hsz : w.heap.size + 1 ≤ wr.heap.size := (Array.getElem?_eq_some_iff.1 HH.out).1
      clear HQ hk hq ek HB
      go_wp2
      go_loopw [6, 7] (fun v i wr => ∃ k : Nat, k ≤ 8 ∧ i = .int .i64 k ∧ Hid (BSl wr (w.heap.size + 1) v (outN S k)) ∧ Hid (Below w.heap.size w wr) ∧ Hid (wr.heap[w.heap.size]? = some (.cells (c8 S) 130 (0, 0)))) (fun _ i _ => 8 - (intOf i).toNat)
      case atStart => exact ⟨0, by omega, rfl, HB0, HE, HH⟩
      case round =>
        clear HB0 HE HH hsz
        obtain ⟨k, hk, rfl, HB, HE, HH⟩ := hrel
        by_cases hlt : k < 8
        · have hck : wr.cell? ⟨w.heap.size, k, none⟩ = some (.int .u32 (((w8 S).getD k 0 : Nat) : Int)) := by
            rw [cell_of_row _ _ _ _ _ _ HH.out, c8_us]; exact us_at _ _ (by simpa [w8] using hlt)
          have hx := w8_lt S k lt8
          have HO : Hid (outN S (k + 1) = outN S k ++ be ((w8 S).getD k 0) 4) := rfl
          have hlen := outN_len S k
          generalize (w8 S).getD k 0 = x at hck hx HO
          have HM := show Hid _ from be4_is3 x
          have hlt' : (k : Int) < 8 := by omega
          have hk0 : (0 : Int) ≤ (k : Int) := by omega
          have HML : Hid (4 = (be x 4).length) := (be_len x 4).symm
          have HMN : Hid (be x 4 ≠ []) := fun e => by have := be_len x 4; rw [e] at this; simp at this
          have HLL : Hid ((outN S k).length + (be x 4).length ≤ 140737488355328) := by show _ ≤ _; rw [hlen, be_len]; omega
          have hsz : w.heap.size + 1 ≤ wr.heap.size := (Array.getElem?_eq_some_iff.1 HH.out).1
          have HSZ : Hid (w.heap.size + 1 ≤ wr.heap.size) := hsz
          have HBx : Hid (∀ X, Below (w.heap.size + 1) wr (wr.alloc X).drew) := fun X => below_drewN ((Below.refl _ wr).alloc hsz X) 1
          clear hlen hsz
          generalize be x 4 = M at HO HM HML HMN HLL
          generalize outN S k = L at HO HLL HB
          go_wp2
          go_region_held3 (fun w' => w'.cell? ⟨w.heap.size, k, none⟩ = some (.int .u32 (x : Int))) (first | exact (hbel1.cell (p := ⟨w.heap.size, k, none⟩) (Nat.lt_succ_self _)).trans hck | go_keep) ((refine step_bsl (by rfl) _ _ (by rfl) (w.heap.size + 1) _ L wr M _ HM.out (by rfl) (HBx.out _) 4 HML.out (by rfl) (by rfl) HB.out HSZ.out HLL.out HMN.out ?_; intro v1 w1 hb1 hbel1))
          have HB2 : Hid (BSl w1 (w.heap.size + 1) v1 (outN S (k + 1))) := by rw [HO.out]; exact hb1
          have HE2 : Hid (Below w.heap.size w w1) := HE.out.trans (hbel1.mono (by omega))
          have HH2 : Hid (w1.heap[w.heap.size]? = some (.cells (c8 S) 130 (0, 0))) := (hbel1.block _ (Nat.lt_succ_self _)).trans HH.out
          clear hb1 hbel1 HB HE HH
          go_wp2
          exact ⟨⟨k + 1, by omega, by go_num, HB2, HE2, HH2⟩, by simp [intOf]; omega⟩
        · have hd3 : decide ((k : Int) < 8) = false := decide_eq_false (by omega)
          have e : k = 8 := by omega
          rw [e] at HB
          have hcv := HB.out.text
          clear e hk HB HH
          go_wp2
          go_ret
          exact ⟨ret_str (by rw [HSH.out]), HE.out⟩
end Go.Proofs.YtedogofeibdjiaaGreat
namespace Go.Proofs.YtedogofeibdjiaaGreat
open Go.RowKit
set_option linter.unusedVariables false

/-- an empty slice of bytes that has room -/
theorem bsl_make (n : Nat) (hn : n ≤ 140737488355328) : ∃ M : Array Value, (∀ W : World, (Instr.makeSlice 46 (.int .i64 0) (.int .i64 (n : Int))).run Tryz.prog W = .ok (.slice (some ⟨W.heap.size, 0, none⟩) 0 n) (W.alloc (.cells M 5))) ∧
    ∀ (W : World) (base : Nat), base ≤ W.heap.size → BSl (W.alloc (.cells M 5)) base (.slice (some ⟨W.heap.size, 0, none⟩) 0 n) [] := by
  obtain ⟨i0, hi, hz0, hz1, hz2⟩ := info_parts info8
  obtain ⟨M, hM⟩ : ∃ M, M = madeCells (Value.int .u8 0).cells (((n : Nat) : Int).toNat * i0.size) := ⟨_, rfl⟩
  have hMs : M.size = n := by rw [hM, size_madeCells, hz1]; simp
  refine ⟨M, fun W => ?_, fun W base hb => .inr ⟨W.heap.size, n, rfl, hb, by simp, by simp, fun j hj => by simp at hj, fun j hj => ⟨?_, frozen_of_row _ _ _ _ _ (heap_alloc_new _ _)⟩⟩⟩
  · have h := run_make (P := Tryz.prog) W 46 5 i0 (.int .u8 0) Tryz.underlying46 hi hz0 .i64 .i64 0 (n : Int) (by omega) (by omega) (by rw [hz2]; omega) (by omega)
    rw [← hM] at h
    simpa using h
  · rw [cell_of_row _ _ _ _ _ _ (heap_alloc_new _ _), Array.getElem?_eq_getElem (by rw [hMs]; exact hj)]; rfl

theorem take_snocB (s : ByteArray) (k : Nat) (h : k < s.size) : s.data.toList.take (k + 1) = s.data.toList.take k ++ [s[k]] := by
  rw [List.take_succ_eq_append_getElem (by simpa using h)]; rfl

theorem digit_0 (w : World) : (Instr.index 9 (.string ⟨#[48, 49, 50, 51, 52, 53, 54, 55, 56, 57, 97, 98, 99, 100, 101, 102]⟩) (.int .u8 ((0 : Nat) : Int))).run Tryz.prog w = .ok (.int .u8 ((dig 0).toNat : Int)) w := by kernel_rfl
theorem digit_1 (w : World) : (Instr.index 9 (.string ⟨#[48, 49, 50, 51, 52, 53, 54, 55, 56, 57, 97, 98, 99, 100, 101, 102]⟩) (.int .u8 ((1 : Nat) : Int))).run Tryz.prog w = .ok (.int .u8 ((dig 1).toNat : Int)) w := by kernel_rfl
theorem digit_2 (w : World) : (Instr.index 9 (.string ⟨#[48, 49, 50, 51, 52, 53, 54, 55, 56, 57, 97, 98, 99, 100, 101, 102]⟩) (.int .u8 ((2 : Nat) : Int))).run Tryz.prog w = .ok (.int .u8 ((dig 2).toNat : Int)) w := by kernel_rfl
theorem digit_3 (w : World) : (Instr.index 9 (.string ⟨#[48, 49, 50, 51, 52, 53, 54, 55, 56, 57, 97, 98, 99, 100, 101, 102]⟩) (.int .u8 ((3 : Nat) : Int))).run Tryz.prog w = .ok (.int .u8 ((dig 3).toNat : Int)) w := by kernel_rfl
theorem digit_4 (w : World) : (Instr.index 9 (.string ⟨#[48, 49, 50, 51, 52, 53, 54, 55, 56, 57, 97, 98, 99, 100, 101, 102]⟩) (.int .u8 ((4 : Nat) : Int))).run Tryz.prog w = .ok (.int .u8 ((dig 4).toNat : Int)) w := by kernel_rfl
theorem digit_5 (w : World) : (Instr.index 9 (.string ⟨#[48, 49, 50, 51, 52, 53, 54, 55, 56, 57, 97, 98, 99, 100, 101, 102]⟩) (.int .u8 ((5 : Nat) : Int))).run Tryz.prog w = .ok (.int .u8 ((dig 5).toNat : Int)) w := by kernel_rfl
theorem digit_6 (w : World) : (Instr.index 9 (.string ⟨#[48, 49, 50, 51, 52, 53, 54, 55, 56, 57, 97, 98, 99, 100, 101, 102]⟩) (.int .u8 ((6 : Nat) : Int))).run Tryz.prog w = .ok (.int .u8 ((dig 6).toNat : Int)) w := by kernel_rfl
theorem digit_7 (w : World) : (Instr.index 9 (.string ⟨#[48, 49, 50, 51, 52, 53, 54, 55, 56, 57, 97, 98, 99, 100, 101, 102]⟩) (.int .u8 ((7 : Nat) : Int))).run Tryz.prog w = .ok (.int .u8 ((dig 7).toNat : Int)) w := by kernel_rfl
theorem digit_8 (w : World) : (Instr.index 9 (.string ⟨#[48, 49, 50, 51, 52, 53, 54, 55, 56, 57, 97, 98, 99, 100, 101, 102]⟩) (.int .u8 ((8 : Nat) : Int))).run Tryz.prog w = .ok (.int .u8 ((dig 8).toNat : Int)) w := by kernel_rfl
theorem digit_9 (w : World) : (Instr.index 9 (.string ⟨#[48, 49, 50, 51, 52, 53, 54, 55, 56, 57, 97, 98, 99, 100, 101, 102]⟩) (.int .u8 ((9 : Nat) : Int))).run Tryz.prog w = .ok (.int .u8 ((dig 9).toNat : Int)) w := by kernel_rfl
theorem digit_10 (w : World) : (Instr.index 9 (.string ⟨#[48, 49, 50, 51, 52, 53, 54, 55, 56, 57, 97, 98, 99, 100, 101, 102]⟩) (.int .u8 ((10 : Nat) : Int))).run Tryz.prog w = .ok (.int .u8 ((dig 10).toNat : Int)) w := by kernel_rfl
theorem digit_11 (w : World) : (Instr.index 9 (.string ⟨#[48, 49, 50, 51, 52, 53, 54, 55, 56, 57, 97, 98, 99, 100, 101, 102]⟩) (.int .u8 ((11 : Nat) : Int))).run Tryz.prog w = .ok (.int .u8 ((dig 11).toNat : Int)) w := by kernel_rfl
theorem digit_12 (w : World) : (Instr.index 9 (.string ⟨#[48, 49, 50, 51, 52, 53, 54, 55, 56, 57, 97, 98, 99, 100, 101, 102]⟩) (.int .u8 ((12 : Nat) : Int))).run Tryz.prog w = .ok (.int .u8 ((dig 12).toNat : Int)) w := by kernel_rfl
theorem digit_13 (w : World) : (Instr.index 9 (.string ⟨#[48, 49, 50, 51, 52, 53, 54, 55, 56, 57, 97, 98, 99, 100, 101, 102]⟩) (.int .u8 ((13 : Nat) : Int))).run Tryz.prog w = .ok (.int .u8 ((dig 13).toNat : Int)) w := by kernel_rfl
theorem digit_14 (w : World) : (Instr.index 9 (.string ⟨#[48, 49, 50, 51, 52, 53, 54, 55, 56, 57, 97, 98, 99, 100, 101, 102]⟩) (.int .u8 ((14 : Nat) : Int))).run Tryz.prog w = .ok (.int .u8 ((dig 14).toNat : Int)) w := by kernel_rfl
theorem digit_15 (w : World) : (Instr.index 9 (.string ⟨#[48, 49, 50, 51, 52, 53, 54, 55, 56, 57, 97, 98, 99, 100, 101, 102]⟩) (.int .u8 ((15 : Nat) : Int))).run Tryz.prog w = .ok (.int .u8 ((dig 15).toNat : Int)) w := by kernel_rfl
theorem digit_any (i : Nat) (h : i < 16) (w : World) : (Instr.index 9 (.string ⟨#[48, 49, 50, 51, 52, 53, 54, 55, 56, 57, 97, 98, 99, 100, 101, 102]⟩) (.int .u8 (i : Int))).run Tryz.prog w = .ok (.int .u8 ((dig i).toNat : Int)) w := by
  have : i = 0 ∨ i = 1 ∨ i = 2 ∨ i = 3 ∨ i = 4 ∨ i = 5 ∨ i = 6 ∨ i = 7 ∨ i = 8 ∨ i = 9 ∨ i = 10 ∨ i = 11 ∨ i = 12 ∨ i = 13 ∨ i = 14 ∨ i = 15 := by omega
  rcases this with rfl | rfl | rfl | rfl | rfl | rfl | rfl | rfl | rfl | rfl | rfl | rfl | rfl | rfl | rfl | rfl
  · exact digit_0 w
  · exact digit_1 w
  · exact digit_2 w
  · exact digit_3 w
  · exact digit_4 w
  · exact digit_5 w
  · exact digit_6 w
  · exact digit_7 w
  · exact digit_8 w
  · exact digit_9 w
  · exact digit_10 w
  · exact digit_11 w
  · exact digit_12 w
  · exact digit_13 w
  · exact digit_14 w
  · exact digit_15 w
theorem low4 (c : UInt8) : bits .and .u8 (c.toNat : Int) 15 = ((c.toNat % 16 : Nat) : Int) := by
  have h := UInt8.toNat_lt c
  have := bits_mask .u8 8 (by decide) wraps_u8 4 (by decide) (c.toNat : Int) (by omega) (by omega)
  rw [show (15 : Int) = 2 ^ 4 - 1 by decide, this]; omega
theorem hexL_snoc (l : List UInt8) (c : UInt8) : hexL (l ++ [c]) = hexL l ++ [dig (c.toNat / 16), dig (c.toNat % 16)] := by rw [hexL_append]; rfl

set_option maxRecDepth 100000 in
set_option maxHeartbeats 1000000 in
theorem hex_any (s : ByteArray) (w : World) (hs : s.size ≤ 70368744177664) :
    Calls Tryz.prog 66 #[.string s] w fun e w' => e = .returned (.string ⟨(hexL s.data.toList).toArray⟩) ∧ Below w.heap.size w w' := by
  obtain ⟨M, hmk, hb0⟩ := bsl_make (2 * s.size) (by omega)
  have e2 : ((2 * s.size : Nat) : Int) = 2 * (s.size : Int) := by omega
  rw [e2] at hmk
  have HB0 : Hid (BSl (w.alloc (.cells M 5)) w.heap.size (.slice (some ⟨w.heap.size, 0, none⟩) 0 (2 * s.size)) (hexL (s.data.toList.take 0))) := hb0 w w.heap.size (Nat.le_refl _)
  have HE0 : Hid (Below w.heap.size w (w.alloc (.cells M 5))) := (Below.refl _ _).alloc (Nat.le_refl _) _
  clear hb0 e2
  go_enter Tryz.func66, Tryz.ntmps66
  go_wp2
  go_loopw [3, 11] (fun v i wr => ∃ k : Nat, k ≤ s.size ∧ i = .int .i64 k ∧ Hid (BSl wr w.heap.size v (hexL (s.data.toList.take k))) ∧ Hid (Below w.heap.size w wr)) (fun _ i _ => s.size - (intOf i).toNat)
  case atStart => exact ⟨0, by omega, rfl, HB0, HE0⟩
  case round =>
    clear HB0 HE0 hmk
    obtain ⟨k, hk, rfl, HB, HE⟩ := hrel
    by_cases hlt : k < s.size
    · have hk0 : (0 : Int) ≤ (k : Int) := by omega
      have hk1 : (k : Int) < (s.size : Int) := by omega
      have HT := show Hid _ from take_snocB s k hlt
      generalize hc : s[k] = c at HT
      have hcl := UInt8.toNat_lt c
      have h1 := digit_any (c.toNat / 16) (by omega)
      have h2 := digit_any (c.toNat % 16) (by omega)
      have e1 : (c.toNat : Int) / 16 = ((c.toNat / 16 : Nat) : Int) := by omega
      have e2 := low4 c
      have HS : Hid (hexL (s.data.toList.take (k + 1)) = hexL (s.data.toList.take k) ++ [dig (c.toNat / 16), dig (c.toNat % 16)]) := by show _ = _; rw [HT.out, hexL_snoc]
      generalize c.toNat / 16 = i1 at h1 e1 HS
      generalize c.toNat % 16 = i2 at h2 e2 HS
      generalize dig i1 = d1 at h1 HS
      generalize dig i2 = d2 at h2 HS
      have HM : Hid (#[Value.int .u8 (d1.toNat : Int), .int .u8 (d2.toNat : Int)] = (bs [d1, d2]).toArray) := rfl
      have HML : Hid (2 = [d1, d2].length) := rfl
      have HMN : Hid ([d1, d2] ≠ []) := by show _ ≠ _; simp
      have HLL : Hid ((hexL (s.data.toList.take k)).length + [d1, d2].length ≤ 140737488355328) := by show _ ≤ _; rw [hexL_len, List.length_take]; simp; omega
      have hsz : w.heap.size ≤ wr.heap.size := HE.out.size
      have HSZ : Hid (w.heap.size ≤ wr.heap.size) := hsz
      have HBx : Hid (∀ X, Below w.heap.size wr (wr.alloc X).drew) := fun X => below_drewN ((Below.refl _ wr).alloc hsz X) 1
      clear hsz HT
      generalize hexL (s.data.toList.take k) = L at HS HLL HB
      go_wp2
      go_region_held3 (fun w' => True) (trivial) ((refine step_bsl (by rfl) _ _ (by rfl) w.heap.size _ L wr [d1, d2] _ HM.out (by rfl) (HBx.out _) 2 HML.out (by rfl) (by rfl) HB.out HSZ.out HLL.out HMN.out ?_; intro v1 w1 hb1 hbel1))
      all_goals
        have HB2 : Hid (BSl w1 w.heap.size v1 (hexL (s.data.toList.take (k + 1)))) := by rw [HS.out]; exact hb1
        have HE2 : Hid (Below w.heap.size w w1) := HE.out.trans hbel1
        clear hb1 hbel1 HB HE h1 h2 e1 e2 hc
        go_wp2
        exact ⟨⟨k + 1, by omega, by go_num, HB2, HE2⟩, by simp [intOf]; omega⟩
    · have hd : decide ((k : Int) < (s.size : Int)) = false := decide_eq_false (by omega)
      have hd2 : decide (k < s.size) = false := decide_eq_false hlt
      have e : s.data.toList.take k = s.data.toList := List.take_of_length_le (by simp; omega)
      rw [e] at HB
      have hcv := HB.out.text
      clear e HB
      go_wp2
      go_ret
      exact ⟨rfl, HE.out⟩
end Go.Proofs.YtedogofeibdjiaaGreat
namespace Go.Proofs.YtedogofeibdjiaaGreat
open Go.RowKit
set_option linter.unusedVariables false

theorem hex_two : hexL (sha [97, 98, 99, 100, 98, 99, 100, 101, 99, 100, 101, 102, 100, 101, 102, 103, 101, 102, 103, 104, 102, 103, 104, 105, 103, 104, 105, 106, 104, 105, 106, 107, 105, 106, 107, 108, 106, 107, 108, 109, 107, 108, 109, 110, 108, 109, 110, 111, 109, 110, 111, 112, 110, 111, 112, 113]) = [50, 52, 56, 100, 54, 97, 54, 49, 100, 50, 48, 54, 51, 56, 98, 56, 101, 53, 99, 48, 50, 54, 57, 51, 48, 99, 51, 101, 54, 48, 51, 57, 97, 51, 51, 99, 101, 52, 53, 57, 54, 52, 102, 102, 50, 49, 54, 55, 102, 54, 101, 99, 101, 100, 100, 52, 49, 57, 100, 98, 48, 54, 99, 49] := by
  decide +kernel
theorem sha_size (l : List UInt8) : (ByteArray.mk (sha l).toArray).size = 32 := by show (sha l).toArray.size = 32; simp [sha_len]
end Go.Proofs.YtedogofeibdjiaaGreat
namespace Go.Proofs.YtedogofeibdjiaaGreat
open Go.RowKit
set_option linter.unusedVariables false

/-- what is digested of parts for a purpose -/
def tld (p : UInt8) (xs : List ByteArray) : List UInt8 := p :: xs.flatMap fun x => be x.size 8 ++ x.data.toList
theorem tld_nil (p : UInt8) : tld p [] = [p] := rfl
theorem tld_snoc (p : UInt8) (xs : List ByteArray) (j : Nat) (h : j < xs.length) : tld p (xs.take (j + 1)) = tld p (xs.take j) ++ be (xs.getD j ⟨#[]⟩).size 8 ++ (xs.getD j ⟨#[]⟩).data.toList := by
  have e : xs.getD j ⟨#[]⟩ = xs[j] := by rw [List.getD_eq_getElem?_getD, List.getElem?_eq_getElem h]; rfl
  unfold tld
  rw [e, List.take_succ_eq_append_getElem h, List.flatMap_append]
  simp only [List.flatMap_cons, List.flatMap_nil, List.append_nil, List.cons_append, List.append_assoc]
theorem tld_len (p : UInt8) (xs : List ByteArray) : (tld p xs).length ≤ 1 + room xs := by
  induction xs with
  | nil => simp [tld, room]
  | cons x r ih =>
    simp only [tld, room, List.flatMap_cons, List.map_cons, List.sum_cons, List.length_cons, List.length_append, be_len] at ih ⊢
    have : x.data.toList.length = x.size := by simp
    omega

set_option maxRecDepth 100000 in
set_option maxHeartbeats 1000000 in
theorem tagged_any (p : UInt8) (v : Value) (xs : List ByteArray) (w : World) (hv : Strs w v xs) (hr : room xs ≤ 1152921504606846976) :
    Calls Tryz.prog 67 #[.int .u8 (p.toNat : Int), v] w fun e w' => e = .returned (.string ⟨(sha (tld p xs)).toArray⟩) ∧ Below w.heap.size w w' := by
  have HN := show Hid _ from fun (_ : Unit) => hnew_any w
  have hb0 : Below w.heap.size w (w.alloc (.cells z73 154)) := (Below.refl _ _).alloc (Nat.le_refl _) _
  have HB0 : Hid (Below w.heap.size w (w.alloc (.cells z73 154))) := hb0
  have HH0 : Hid (HashAt (w.alloc (.cells z73 154)) w.heap.size [] ⟨0, 0, 0, 0, 0, 0, 0, 0⟩ (List.replicate 64 0)) := hash_new w
  have hxl : 10 * xs.length ≤ room xs := room_len xs
  have HV : Hid (Strs w v xs) := hv
  obtain ⟨ad, cap, hve, hc⟩ := hv.at
  have HC := show Hid _ from hc
  subst hve
  have hcv : ∀ W : World, (convert 46 9 (.slice (some ⟨W.heap.size, 0, none⟩) 1 1)).run Tryz.prog (W.alloc (.cells #[.int .u8 (p.toNat : Int)] 5)) = .ok (.string ⟨[p].toArray⟩) (W.alloc (.cells #[.int .u8 (p.toNat : Int)] 5)) := fun W =>
    run_convert_bytes_back (P := Tryz.prog) _ 46 9 5 ⟨W.heap.size, 0, none⟩ 1 [p] Tryz.underlying46 Tryz.underlying5 Tryz.underlying9 (by
        intro j hj
        rw [Addr.add_lit, Nat.zero_add, cell_of_row _ _ _ _ _ _ (heap_alloc_new _ _)]
        have : j = 0 := by simp at hj; omega
        subst this; rfl)
  clear hb0 hc hv
  generalize w.alloc (.cells z73 154) = w1 at HN HB0 HH0
  go_enter Tryz.func67, Tryz.ntmps67
  go_wp2_with fail
  refine (HN.out ()).mono ?_
  rintro e w' ⟨rfl, rfl⟩
  go_wp2_with fail
  have hb1 : Below w'.heap.size w' (w'.alloc (.cells #[.int .u8 (p.toNat : Int)] 5)) := (Below.refl _ _).alloc (Nat.le_refl _) _
  refine (hwrite_any w.heap.size [] _ _ ⟨[p].toArray⟩ _ (HH0.out.keeps hb1) (by show 0 + 1 < _; decide)).mono ?_
  rintro e w2 ⟨rfl, ⟨b2, hH2⟩, hO2⟩
  have HH2 : Hid (HashAt w2 w.heap.size (tld p (xs.take 0)) (st (tld p (xs.take 0))) b2) := hH2
  have hB2 := HB0.out.trans (hb1.mono HB0.out.size)
  have HB2 : Hid (Below w.heap.size w w2) := hB2.trans (hO2.below (Nat.le_refl _) hB2.size)
  clear hb1 hH2 hO2 hB2 HH0 HB0 HN hcv
  go_wp2
  go_loopw [16] (fun i wr => ∃ (k : Nat) (b : List UInt8), k ≤ xs.length ∧ i = .int .i64 k ∧ Hid (HashAt wr w.heap.size (tld p (xs.take k)) (st (tld p (xs.take k))) b) ∧ Hid (Below w.heap.size w wr)) (fun i _ => xs.length - (intOf i).toNat)
  case atStart => exact ⟨0, b2, by omega, rfl, HH2, HB2⟩
  case round =>
    clear HH2 HB2
    obtain ⟨k, b, hk, rfl, HH, HB⟩ := hrel
    by_cases hlt : k < xs.length
    · obtain ⟨gb, off, had, hgb, hcell⟩ := HC.out k hlt
      subst had
      have hcw : wr.cell? ⟨gb, off + k, none⟩ = some (.string (xs.getD k ⟨#[]⟩)) := (HB.out.cell (p := ⟨gb, off + k, none⟩) hgb).trans hcell
      have hxs := room_get xs k
      have htl := tld_len p (xs.take k)
      have hrt := room_take xs k hlt
      have HS := show Hid _ from tld_snoc p xs k hlt
      generalize xs.getD k ⟨#[]⟩ = x at hcw hcell hxs hrt HS
      have HE := show Hid _ from fun w => eightBytes_any x.size w (by omega)
      have hk0 : (0 : Int) ≤ (k : Int) := by omega
      have hk1 : (k : Int) < (xs.length : Int) := by omega
      have hxb : (x.size : Int) ≤ 9223372036854775807 := by omega
      clear hcell
      go_wp2_with fail
      refine (HE.out _).mono ?_
      rintro e w3 ⟨rfl, hB3⟩
      go_wp2_with fail
      have hbs : (ByteArray.mk (be x.size 8).toArray).size = 8 := by show (be x.size 8).toArray.size = 8; simp [be_len]
      refine (hwrite_any w.heap.size _ _ _ ⟨(be x.size 8).toArray⟩ _ (HH.out.keeps hB3) (by rw [hbs]; omega)).mono ?_
      rintro e w4 ⟨rfl, ⟨b4, hH4⟩, hO4⟩
      go_wp2_with fail
      refine (hwrite_any w.heap.size _ _ _ x _ hH4 (by simp [be_len]; omega)).mono ?_
      rintro e w5 ⟨rfl, ⟨b5, hH5⟩, hO5⟩
      have HH5 : Hid (HashAt w5 w.heap.size (tld p (xs.take (k + 1))) (st (tld p (xs.take (k + 1)))) b5) := by rw [HS.out]; exact hH5
      have hB4 := HB.out.trans (hB3.mono HB.out.size)
      have hB5 := hB4.trans (hO4.below (Nat.le_refl _) hB4.size)
      have HB5 : Hid (Below w.heap.size w w5) := hB5.trans (hO5.below (Nat.le_refl _) hB5.size)
      clear hH4 hH5 hO4 hO5 hB4 hB5 hB3 HH HB HE
      go_wp2
      exact ⟨⟨k + 1, b5, by omega, by go_num, HH5, HB5⟩, by simp [intOf]; omega⟩
    · have hd : decide ((k : Int) < (xs.length : Int)) = false := decide_eq_false (by omega)
      have hd2 : decide (k < xs.length) = false := decide_eq_false hlt
      have e : xs.take k = xs := List.take_of_length_le (by omega)
      rw [e] at HH
      have htl := tld_len p xs
      clear e
      go_wp2_with fail
      refine (hsum_any _ _ _ _ _ HH.out (by omega)).mono ?_
      rintro e w3 ⟨rfl, hB3⟩
      go_wp2
      go_ret
      exact ⟨rfl, HB.out.trans (hB3.mono HB.out.size)⟩
end Go.Proofs.YtedogofeibdjiaaGreat
namespace Go.Proofs.YtedogofeibdjiaaGreat
open Go.RowKit
set_option linter.unusedVariables false

theorem BSl.brow {w : World} {base : Nat} {v : Value} {L : List UInt8} (h : BSl w base v L) (hL : L ≠ []) : BRow w base v L := by
  rcases h with ⟨_, h⟩ | h
  · exact absurd h hL
  · exact h
theorem bsl_one (w : World) (c : UInt8) : BSl (w.alloc (.cells #[.int .u8 (c.toNat : Int)] 5)) w.heap.size (.slice (some ⟨w.heap.size, 0, none⟩) 1 1) [c] :=
  .inr ⟨w.heap.size, 1, rfl, Nat.le_refl _, by simp, by simp, fun j hj => by
    have : j = 0 := by simp at hj; omega
    subst this; rw [cell_of_row _ _ _ _ _ _ (heap_alloc_new _ _)]; rfl, fun j hj => ⟨by
    have : j = 0 := by omega
    subst this; rw [cell_of_row _ _ _ _ _ _ (heap_alloc_new _ _)]; rfl, frozen_of_row _ _ _ _ _ (heap_alloc_new _ _)⟩⟩
theorem tld_ne (p : UInt8) (xs : List ByteArray) : tld p xs ≠ [] := by simp [tld]

set_option maxRecDepth 100000 in
set_option maxHeartbeats 1000000 in
theorem rtagged_any (p : UInt8) (v : Value) (xs : List ByteArray) (w : World) (hv : Strs w v xs) (hr : room xs ≤ 100000000) :
    Calls Tryz.prog 45 #[.int .u8 (p.toNat : Int), v] w fun e w' => e = .returned (.string ⟨(sha (tld p xs)).toArray⟩) ∧ Below w.heap.size w w' := by
  have hxl : 10 * xs.length ≤ room xs := room_len xs
  have HV : Hid (Strs w v xs) := hv
  obtain ⟨ad, cap, hve, hc⟩ := hv.at
  have HC := show Hid _ from hc
  subst hve
  have HB0 : Hid (BSl (w.alloc (.cells #[.int .u8 (p.toNat : Int)] 5)) w.heap.size (.slice (some ⟨w.heap.size, 0, none⟩) 1 1) (tld p (xs.take 0))) := bsl_one w p
  have HE0 : Hid (Below w.heap.size w (w.alloc (.cells #[.int .u8 (p.toNat : Int)] 5))) := (Below.refl _ _).alloc (Nat.le_refl _) _
  clear hc hv
  go_enter Tryz.func45, Tryz.ntmps45
  go_wp2
  go_loopw [5, 6] (fun u i wr => ∃ k : Nat, k ≤ xs.length ∧ i = .int .i64 k ∧ Hid (BSl wr w.heap.size u (tld p (xs.take k))) ∧ Hid (Below w.heap.size w wr)) (fun _ i _ => xs.length - (intOf i).toNat)
  case atStart => exact ⟨0, by omega, rfl, HB0, HE0⟩
  case round =>
    clear HB0 HE0
    obtain ⟨k, hk, rfl, HB, HE⟩ := hrel
    by_cases hlt : k < xs.length
    · obtain ⟨gb, off, had, hgb, hcell⟩ := HC.out k hlt
      subst had
      have hcw : wr.cell? ⟨gb, off + k, none⟩ = some (.string (xs.getD k ⟨#[]⟩)) := (HE.out.cell (p := ⟨gb, off + k, none⟩) hgb).trans hcell
      have hxs := room_get xs k
      have htl := tld_len p (xs.take k)
      have hrt := room_take xs k hlt
      have HS := show Hid _ from tld_snoc p xs k hlt
      have HNE := tld_ne p (xs.take k)
      have HN : Hid (tld p (xs.take k) ≠ []) := HNE
      generalize xs.getD k ⟨#[]⟩ = x at hcw hcell hxs hrt HS
      generalize tld p (xs.take k) = L at HB HS htl HN
      have HB' : Hid (BSl wr w.heap.size u5 (L ++ e8p x.size 0)) := by rw [e8p_zero, List.append_nil]; exact HB
      have hk0 : (0 : Int) ≤ (k : Int) := by omega
      have hk1 : (k : Int) < (xs.length : Int) := by omega
      have hxb : (x.size : Int) ≤ 9223372036854775807 := by omega
      have HCE := show Hid _ from hcell
      clear HB HNE hcell
      go_wp2
      go_loopw [5, 8] (fun u i wr => ∃ j : Nat, j ≤ 8 ∧ i = .int .i64 (56 - 8 * (j : Int)) ∧ Hid (BSl wr w.heap.size u (L ++ e8p x.size j)) ∧ Hid (Below w.heap.size w wr)) (fun _ i _ => (intOf i + 8).toNat)
      case atStart => exact ⟨0, by omega, rfl, HB', HE⟩
      case round =>
        clear HB' HE hcw
        obtain ⟨j, hj, rfl, HB, HE⟩ := hrel
        by_cases hlj : j < 8
        · have h56 : (0 : Int) ≤ 56 - 8 * (j : Int) := by omega
          have hle : 56 - 8 * (j : Int) ≤ 56 := by omega
          have HSj := show Hid _ from e8p_succ x.size j hlj
          have hc := byte_shr x.size j hlj
          generalize UInt8.ofNat (x.size / 256 ^ (7 - j)) = c at HSj hc
          have HM1 : Hid (#[Value.int .u8 ((x.size : Int) / 2 ^ (56 - 8 * j) % 256)] = (bs [c]).toArray) := by show _ = _; rw [hc]; rfl
          have HL1 : Hid (1 = [c].length) := rfl
          have HSZ : Hid (w.heap.size ≤ wr.heap.size) := HE.out.size
          have HLL : Hid ((L ++ e8p x.size j).length + [c].length ≤ 140737488355328) := by show _ ≤ _; rw [List.length_append, e8p_len x.size j hj]; simp; omega
          have HMN : Hid ([c] ≠ []) := by show _ ≠ _; simp
          clear hc
          go_wp2_with (at_builtin; refine wpl_bsl rfl _ _ rfl w.heap.size _ (L ++ e8p x.size j) wr [c] _ HM1.out rfl 1 HL1.out rfl rfl HB.out HSZ.out HLL.out HMN.out ?_; intro v1 w3 hb1 hbel1)
          exact ⟨⟨j + 1, by omega, congrArg (Value.int .i64) (by omega), by rw [HSj.out, ← List.append_assoc]; exact hb1, HE.out.trans hbel1⟩, by simp [intOf]; omega⟩
        · have hd : decide (8 * (j : Int) ≤ 56) = false := decide_eq_false (by omega)
          have hd2 : ¬ (8 * (j : Int) ≤ 56) := by omega
          have e8 : j = 8 := by omega
          have HBR : Hid (BRow wr w.heap.size u5 (L ++ be x.size 8)) := by
            have h := HB.out
            rw [e8, e8p_all] at h
            exact h.brow (fun e => HN.out (List.append_eq_nil_iff.1 e).1)
          have hcw : wr.cell? ⟨gb, off + k, none⟩ = some (.string x) := (HE.out.cell (p := ⟨gb, off + k, none⟩) hgb).trans HCE.out
          have HSZ : Hid (w.heap.size ≤ wr.heap.size) := HE.out.size
          have HLL : Hid ((L ++ be x.size 8).length + x.size ≤ 140737488355328) := by show _ ≤ _; rw [List.length_append, be_len]; omega
          clear e8 hlj hj HB
          go_wp2_with (at_builtin; refine wpList_brow _ rfl _ _ rfl w.heap.size _ (L ++ be x.size 8) x rfl rfl HBR.out HSZ.out HLL.out ?_; intro v1 w3 hb1 hbel1)
          exact ⟨⟨k + 1, by omega, by go_num, by rw [HS.out]; exact .inr hb1, HE.out.trans hbel1⟩, by simp [intOf]; omega⟩
    · have hd : decide ((k : Int) < (xs.length : Int)) = false := decide_eq_false (by omega)
      have hd2 : decide (k < xs.length) = false := decide_eq_false hlt
      have e : xs.take k = xs := List.take_of_length_le (by omega)
      rw [e] at HB
      have hcv := HB.out.text
      have htl := tld_len p xs
      clear e HB
      have hts : (ByteArray.mk (tld p xs).toArray).size = (tld p xs).length := by show (tld p xs).toArray.size = _; simp
      have HSm := show Hid _ from fun w => rsum_any ⟨(tld p xs).toArray⟩ w (by rw [hts]; omega)
      clear hts htl
      generalize hT : tld p xs = T at hcv HSm
      have HT := show Hid _ from hT
      clear hT
      go_wp2_with fail
      refine (HSm.out _).mono ?_
      rintro e w3 ⟨rfl, hB3⟩
      go_wp2
      go_ret
      exact ⟨ret_str (by rw [HT.out]), HE.out.trans (hB3.mono HE.out.size)⟩

end Go.Proofs.YtedogofeibdjiaaGreat
namespace Go.Proofs.YtedogofeibdjiaaGreat
open Go.RowKit
set_option linter.unusedVariables false

theorem ret_half {i j : Int} (h : i = j) : Ending.returned (.int .i64 i) = .returned (.int .i64 j) := by rw [h]
set_option maxHeartbeats 1000000 in
theorem half_any (c : UInt8) (w : World) : Calls Tryz.prog 106 #[.int .u8 (c.toNat : Int)] w fun e w' => e = .returned (.int .i64 (halfN c.toNat)) ∧ w' = w := by
  have hc := UInt8.toNat_lt c
  generalize c.toNat = n at hc
  by_cases h1 : 48 ≤ n ∧ n ≤ 57
  · have e : halfN n = (n : Int) - 48 := by unfold halfN; rw [if_pos h1]
    obtain ⟨h2, h3⟩ := h1
    have h4 : (48 : Int) ≤ (n : Int) := by omega
    have h5 : (n : Int) ≤ 57 := by omega
    rw [e]
    clear e
    go_enter Tryz.func106, Tryz.ntmps106
    go_wp2
    go_ret
    exact ⟨ret_half (by go_num), rfl⟩
  · by_cases h6 : 97 ≤ n ∧ n ≤ 102
    · have e : halfN n = (n : Int) - 87 := by unfold halfN; rw [if_neg h1, if_pos h6]
      obtain ⟨h2, h3⟩ := h6
      have h4 : (48 : Int) ≤ (n : Int) := by omega
      have h5 : ¬ (n : Int) ≤ 57 := by omega
      have h7 : (97 : Int) ≤ (n : Int) := by omega
      have h8 : (n : Int) ≤ 102 := by omega
      rw [e]
      clear e h1
      go_enter Tryz.func106, Tryz.ntmps106
      go_wp2
      go_ret
      exact ⟨ret_half (by go_num), rfl⟩
    · have e : halfN n = -1 := by unfold halfN; rw [if_neg h1, if_neg h6]
      rw [e]
      clear e
      by_cases h2 : 48 ≤ n
      · have h4 : (48 : Int) ≤ (n : Int) := by omega
        have h5 : ¬ (n : Int) ≤ 57 := by omega
        by_cases h3 : 97 ≤ n
        · have h7 : (97 : Int) ≤ (n : Int) := by omega
          have h8 : ¬ (n : Int) ≤ 102 := by omega
          clear h1 h6
          go_enter Tryz.func106, Tryz.ntmps106
          go_wp2
          go_ret
          exact ⟨rfl, rfl⟩
        · have h7 : ¬ (97 : Int) ≤ (n : Int) := by omega
          clear h1 h6
          go_enter Tryz.func106, Tryz.ntmps106
          go_wp2
          go_ret
          exact ⟨rfl, rfl⟩
      · have h4 : ¬ (48 : Int) ≤ (n : Int) := by omega
        have h7 : ¬ (97 : Int) ≤ (n : Int) := by omega
        clear h1 h6
        go_enter Tryz.func106, Tryz.ntmps106
        go_wp2
        go_ret
        exact ⟨rfl, rfl⟩

theorem or16 (p q : Nat) (hp : p < 16) (hq : q < 16) : bits .or .i64 ((p : Int) * 16) (q : Int) = (p : Int) * 16 + (q : Int) := by
  have : ∀ (a b : Fin 16), bits .or .i64 (((a.val : Nat) : Int) * 16) ((b.val : Nat) : Int) = ((a.val : Nat) : Int) * 16 + ((b.val : Nat) : Int) := by decide +kernel
  exact this ⟨p, hp⟩ ⟨q, hq⟩
/-- the next two signs -/
theorem drop_two (s : ByteArray) (k : Nat) (h : 2 * k + 1 < s.size) : ∃ a b : UInt8, (∀ h, s[(2 * (k : Int)).toNat]'h = a) ∧ (∀ h, s[(2 * (k : Int) + 1).toNat]'h = b) ∧ s.data.toList.drop (2 * k) = a :: b :: s.data.toList.drop (2 * (k + 1)) := by
  refine ⟨s[2 * k], s[2 * k + 1], fun _ => by congr, fun _ => by congr, ?_⟩
  · rw [List.drop_eq_getElem_cons (by simp; omega), List.drop_eq_getElem_cons (by simp; omega)]
    rfl

set_option maxRecDepth 100000 in
set_option maxHeartbeats 1000000 in
theorem unhex_any (s : ByteArray) (w : World) (hs : s.size ≤ 140737488355328) (x : List UInt8) (er : Nat) (hx : unh s.data.toList [] = (x, er)) :
    Calls Tryz.prog 84 #[.string s] w fun e w' => e = .returned (.tuple #[.string ⟨x.toArray⟩, .int .i64 er]) ∧ Below w.heap.size w w' := by
  by_cases hpar : s.size % 2 = 1
  · have h := unh_odd _ s.data.toList [] (Nat.le_refl _) (by simpa using hpar)
    rw [h] at hx
    cases hx
    have hq : ¬ ((s.size : Int) % 2 = 0) := by omega
    clear h
    go_enter Tryz.func84, Tryz.ntmps84
    go_wp2
    go_ret2
    exact ⟨rfl, Below.refl _ _⟩
  · obtain ⟨m, hm⟩ : ∃ m, s.size = 2 * m := ⟨s.size / 2, by omega⟩
    have hq : (s.size : Int) % 2 = 0 := by omega
    have hd : (s.size : Int) / 2 = (m : Int) := by omega
    obtain ⟨M, hmk, hb0⟩ := bsl_make m (by omega)
    have HB0 : Hid (BSl (w.alloc (.cells M 5)) w.heap.size (.slice (some ⟨w.heap.size, 0, none⟩) 0 m) []) := hb0 w w.heap.size (Nat.le_refl _)
    have HE0 : Hid (Below w.heap.size w (w.alloc (.cells M 5))) := (Below.refl _ _).alloc (Nat.le_refl _) _
    have HX : Hid (unh (s.data.toList.drop 0) [] = (x, er)) := hx
    clear hb0 hpar hx
    go_enter Tryz.func84, Tryz.ntmps84
    go_wp2
    go_loopw [4, 19] (fun v i wr => ∃ (k : Nat) (L : List UInt8), k ≤ m ∧ i = .int .i64 k ∧ L.length = k ∧ Hid (BSl wr w.heap.size v L) ∧ Hid (Below w.heap.size w wr) ∧ Hid (unh (s.data.toList.drop (2 * k)) L = (x, er))) (fun _ i _ => m - (intOf i).toNat)
    case atStart => exact ⟨0, [], by omega, rfl, rfl, HB0, HE0, HX⟩
    case round =>
      clear HB0 HE0 hmk HX
      obtain ⟨k, L, hk, rfl, hL, HB, HE, HX⟩ := hrel
      by_cases hlt : k < m
      · have hk1 : (k : Int) < (m : Int) := by omega
        obtain ⟨a, b, ha, hb, HD⟩ := drop_two s k (by omega)
        have c1 : (0 : Int) ≤ 2 * (k : Int) := by omega
        have c2 : 2 * (k : Int) < (s.size : Int) := by omega
        have c3 : (0 : Int) ≤ 2 * (k : Int) + 1 := by omega
        have c4 : 2 * (k : Int) + 1 < (s.size : Int) := by omega
        have hsm : m ≤ 70368744177664 := by omega
        have c7 : IntKind.i64.wrap (2 * (k : Int)) = 2 * (k : Int) := by rw [IntKind.wrap_i64]; omega
        have c8 : IntKind.i64.wrap (2 * (k : Int) + 1) = 2 * (k : Int) + 1 := by rw [IntKind.wrap_i64]; omega
        have c5 : (2 * (k : Int)).toNat < s.size := by omega
        have c6 : (2 * (k : Int) + 1).toNat < s.size := by omega
        have ea : s[(2 * (k : Int)).toNat]'c5 = a := ha _
        have eb : s[(2 * (k : Int) + 1).toNat]'c6 = b := hb _
        rw [HD] at HX
        clear ha hb hm hq hd
        have HA := show Hid _ from fun W => half_any a W
        have HBb := show Hid _ from fun W => half_any b W
        have hla := half_lt a.toNat
        have hlb := half_lt b.toNat
        have HX := show Hid (_ = _) from HX.out
        unfold Hid at HX
        rw [unh] at HX
        clear HD
        generalize halfN a.toNat = p at HA HX hla
        generalize halfN b.toNat = q at HBb HX hlb
        by_cases hp : p < 0
        · rw [if_pos (Or.inl hp)] at HX
          cases HX
          clear HB
          go_wp2
          go_region_held3 (fun w' => True) (trivial) (first | (go_at_call 106; with_reducible (refine (HA.out _).mono ?_); rintro e w1 ⟨rfl, rfl⟩) | (go_at_call 106; with_reducible (refine (HBb.out _).mono ?_); rintro e w2 ⟨rfl, rfl⟩))
          all_goals
            go_wp2
            go_ret2
            first | exact ⟨rfl, HE.out⟩ | exact ⟨rfl, HE.out.drew⟩
        · by_cases hq2 : q < 0
          · rw [if_pos (Or.inr hq2)] at HX
            cases HX
            clear HB
            go_wp2
            go_region_held3 (fun w' => True) (trivial) (first | (go_at_call 106; with_reducible (refine (HA.out _).mono ?_); rintro e w1 ⟨rfl, rfl⟩) | (go_at_call 106; with_reducible (refine (HBb.out _).mono ?_); rintro e w2 ⟨rfl, rfl⟩))
            all_goals
              go_wp2
              go_ret2
              first | exact ⟨rfl, HE.out⟩ | exact ⟨rfl, HE.out.drew⟩
          · rw [if_neg (by omega)] at HX
            obtain ⟨p, rfl⟩ := Int.eq_ofNat_of_zero_le (show 0 ≤ p by omega)
            obtain ⟨q, rfl⟩ := Int.eq_ofNat_of_zero_le (show 0 ≤ q by omega)
            have hor := or16 p q (by omega) (by omega)
            have hpq : (UInt8.ofNat (((p : Int) * 16 + (q : Int)).toNat)).toNat = p * 16 + q := by simp; omega
            generalize UInt8.ofNat (((p : Int) * 16 + (q : Int)).toNat) = c at HX hpq
            have HM1 : Hid (#[Value.int .u8 ((p : Int) * 16 + (q : Int))] = (bs [c]).toArray) := by show _ = #[Value.int .u8 (c.toNat : Int)]; rw [hpq]; simp
            have HL1 : Hid (1 = [c].length) := rfl
            have HMN : Hid ([c] ≠ []) := by show _ ≠ _; simp
            have HLL : Hid (L.length + [c].length ≤ 140737488355328) := by show _ ≤ _; simp; omega
            have HSZ : Hid (w.heap.size ≤ wr.heap.size) := HE.out.size
            have HBd : Hid (BSl wr.drew w.heap.size u4 L) := HB.out.keeps (Below.refl _ _).drew
            have HSZd : Hid (w.heap.size ≤ wr.drew.heap.size) := HE.out.size
            have HX2 := show Hid (_ = _) from HX
            clear HX hpq
            go_wp2
            go_region_held3 (fun w' => True) (trivial) (first | (go_at_call 106; with_reducible (refine (HA.out _).mono ?_); rintro e w1 ⟨rfl, rfl⟩) | (go_at_call 106; with_reducible (refine (HBb.out _).mono ?_); rintro e w2 ⟨rfl, rfl⟩))
            all_goals
              go_wp2_with (first | (at_builtin; refine wpl_bsl rfl _ _ rfl w.heap.size _ L wr [c] _ HM1.out rfl 1 HL1.out rfl rfl HB.out HSZ.out HLL.out HMN.out ?_; intro v1 w3 hb1 hbel1) | (at_builtin; refine wpl_bsl rfl _ _ rfl w.heap.size _ L wr.drew [c] _ HM1.out rfl 1 HL1.out rfl rfl HBd.out HSZd.out HLL.out HMN.out ?_; intro v1 w3 hb1 hbel1))
              have HB2 : Hid (BSl w3 w.heap.size v1 (L ++ [c])) := hb1
              have HE2 : Hid (Below w.heap.size w w3) := by first | exact HE.out.trans hbel1 | exact HE.out.drew.trans hbel1
              clear hb1 hbel1 HB HE HBd
              go_wp2
              exact ⟨⟨k + 1, L ++ [c], by omega, by go_num, by simp; omega, HB2, HE2, HX2⟩, by simp [intOf]; omega⟩
      · have hd : decide ((k : Int) < (m : Int)) = false := decide_eq_false (by omega)
        have hd2 : decide (k < m) = false := decide_eq_false hlt
        have e : s.data.toList.drop (2 * k) = [] := List.drop_of_length_le (by simp; omega)
        rw [e] at HX
        have hxe : (L, 0) = (x, er) := HX.out
        cases hxe
        have hcv := HB.out.text
        clear e HB
        go_wp2
        go_ret2
        exact ⟨rfl, HE.out⟩
end Go.Proofs.YtedogofeibdjiaaGreat
namespace Go.Proofs.YtedogofeibdjiaaGreat
open Go.RowKit
set_option linter.unusedVariables false

/-- the slice lies in another block -/
def Aside (v : Value) (g : Nat) : Prop := ∀ ad n c, v = .slice (some ad) n c → ad.block ≠ g
theorem Aside.none (g n c : Nat) : Aside (.slice none n c) g := fun _ _ _ h => by injection h with h; cases h
theorem BSl.aside {w : World} {base : Nat} {v : Value} {L : List UInt8} (h : BSl w base v L) : Aside v w.heap.size := by
  rcases h with ⟨rfl, rfl⟩ | ⟨g, cap, rfl, h1, h2, _⟩
  · exact Aside.none _ _ _
  · intro ad n c h
    injection h with h
    injection h with h
    subst h
    show g ≠ _
    omega

theorem bsl_aside (w : World) (base : Nat) (v : Value) (L : List UInt8) (tx : TypeId) (x : Value) (M : List UInt8) (ty : TypeId) (h : BSl w base v L) (hl : L.length + M.length ≤ 140737488355328)
    (hsrc : Src Tryz.prog 1 tx x M.length (bs M) w) (hM : M ≠ []) (v' : Value) (w' : World) (hrun : (Builtin.append_ #[46, tx] ty #[v, x]).run Tryz.prog w = .ok v' w') (q : Nat) (hp : q < w.heap.size) (hne : Aside v q) :
    (∀ o, w'.cell? ⟨q, o, none⟩ = w.cell? ⟨q, o, none⟩) ∧ Aside v' q := by
  obtain ⟨i0, hi, hz0, hz1, hz2⟩ := info_parts info8
  have hM0 : 0 < M.length := List.length_pos_iff.2 hM
  have hsrc' : Src Tryz.prog i0.size tx x M.length (bs M) w := by rw [hz1]; exact hsrc
  have grow : ∀ (bs0 : Option Addr) (cap : Nat), v = .slice bs0 L.length cap → cap < L.length + M.length → (Builtin.firstCells i0.size L.length (.slice bs0 L.length cap)).run Tryz.prog w.drew = .ok (bs L).toArray w.drew →
      (∀ o, w'.cell? ⟨q, o, none⟩ = w.cell? ⟨q, o, none⟩) ∧ Aside v' q := by
    intro bs0 cap hv hcap hold
    subst hv
    have hr := run_append_grow_src (P := Tryz.prog) w 46 tx ty 5 i0 (.int .u8 0) Tryz.underlying46 hi hz0 bs0 L.length cap (bs L) hold x M.length (bs M) hsrc' hcap (by omega) (growslice_fits (by omega) (by rw [hz2]; omega))
    rw [hrun] at hr
    injection hr with e1 e2
    subst e1 e2
    refine ⟨fun o => (((Below.refl w.heap.size w).drew).alloc (Nat.le_refl _) _).cell (p := ⟨q, o, none⟩) hp, ?_⟩
    intro ad n c h
    injection h with h
    injection h with h
    subst h
    show w.heap.size ≠ q
    omega
  rcases h with ⟨rfl, rfl⟩ | ⟨g, cap, rfl, h1, h2, h3, h4, h5⟩
  · exact grow none 0 rfl (by simpa using hM0) (run_firstCells_none _ _ _ _ _)
  · have hgq : g ≠ q := hne ⟨g, 0, none⟩ _ _ rfl
    by_cases hroom : L.length + M.length ≤ cap
    · have hr := run_append_room_src (P := Tryz.prog) w 46 tx ty 5 i0 Tryz.underlying46 hi g 0 L.length cap x M.length (bs M) hsrc' hroom
        (fun j hj => by rw [hz1, Nat.mul_one, Nat.zero_add]; exact (h5 _ (by rw [bs_len] at hj; omega)).1) (fun j hj => by rw [hz1, Nat.mul_one, Nat.zero_add]; exact (h5 _ (by rw [bs_len] at hj; omega)).2)
      rw [hrun] at hr
      injection hr with e1 e2
      subst e1 e2
      refine ⟨fun o => World.cell?_setCells_out g _ _ w ⟨q, o, none⟩ (fun hb _ => absurd hb.symm hgq), ?_⟩
      intro ad n c h
      injection h with h
      injection h with h
      subst h
      exact hgq
    · refine grow (some ⟨g, 0, none⟩) cap rfl (by omega) ?_
      rw [hz1]
      refine run_firstCells_some w.drew 1 L.length ⟨g, 0, none⟩ L.length cap (bs L) (by rw [bs_len, Nat.mul_one]) (fun j u hu => ?_)
      have hj : j < L.length := by have := (List.getElem?_eq_some_iff.1 hu).1; rwa [bs_len] at this
      have e : (bs L)[j]? = some (.int .u8 (L[j]).toNat) := by simp [bs, hj]
      rw [e] at hu
      rw [Addr.add_lit, Nat.zero_add]
      show w.cell? _ = _
      rw [h4 j hj]; exact hu

/-- 'append(b, x, y, ..)' at the operation, and a block that lies aside -/
theorem wpl_bsl_aside {w : World} {ops : Array Oper} {rest : List Oper} {o : Oper} {a : Act} {Q : Exit → Act → World → Prop} (hgd : o.guard = none) (sl x : Operand)
    (ho : o.op = .call { callee := .builtin .append, args := #[sl, x], argTypes := #[46, 46] }) (base : Nat) (v : Value) (L : List UInt8) (w0 : World) (M : List UInt8) (Mc : Array Value) (hMc : Mc = (bs M).toArray) (hw : w = w0.alloc (.cells Mc 5)) (m : Nat) (hm : m = M.length)
    (hs : a.eval sl = v) (hx : a.eval x = .slice (some ⟨w0.heap.size, 0, none⟩) m m)
    (h0 : BSl w0 base v L) (hb : base ≤ w0.heap.size) (hl : L.length + M.length ≤ 140737488355328) (hM : M ≠ []) (q : Nat) (hq : q < w0.heap.size) (hne : Aside v q)
    (h : ∀ v' w', BSl w' base v' (L ++ M) → Below base w0 w' → (∀ o, w'.cell? ⟨q, o, none⟩ = w0.cell? ⟨q, o, none⟩) → Aside v' q → wpList Tryz.prog ops Q rest (a.put o.dst v') w') : wpList Tryz.prog ops Q (o :: rest) a w := by
  subst hMc hw hm
  refine wpList_plain hgd fun K hK => ?_
  have b1 : Below w0.heap.size w0 (w0.alloc (.cells (bs M).toArray 5)) := (Below.refl _ _).alloc (Nat.le_refl _) _
  obtain ⟨v', w', hr, h2, h3⟩ := bsl_append (w0.alloc (.cells (bs M).toArray 5)) base v L 46 _ M o.type (h0.keeps b1) (by simp; omega) hl (src_new w0 M 5) hM
  obtain ⟨k1, k2⟩ := bsl_aside (w0.alloc (.cells (bs M).toArray 5)) base v L 46 _ M o.type (h0.keeps b1) hl (src_new w0 M 5) hM v' w' hr q (by simp; omega) hne
  unfold Oper.wp execOp
  simp only [ho, resolve, invoke, builtin, Sem.run_bind, Sem.run_pure, Result.andThen_ok, List.map_toArray, List.map_cons, List.map_nil, hs, hx, hr]
  exact hK _ _ (h v' w' h2 ((b1.mono hb).trans h3) (fun o => (k1 o).trans (b1.cell (p := ⟨q, o, none⟩) hq)) k2)
end Go.Proofs.YtedogofeibdjiaaGreat
namespace Go.Proofs.YtedogofeibdjiaaGreat
open Go.RowKit
set_option linter.unusedVariables false

theorem dig_cell (n : Nat) (h : n < 16) : #[Value.int .u8 (if n < 10 then 48 + (n : Int) else 87 + (n : Int))] = (bs [dig n]).toArray := by
  show _ = #[Value.int .u8 ((dig n).toNat : Int)]
  unfold dig
  by_cases h1 : n < 10
  · rw [if_pos h1, if_pos h1, show (UInt8.ofNat (48 + n)).toNat = 48 + n by simp; omega]; simp
  · rw [if_neg h1, if_neg h1, show (UInt8.ofNat (87 + n)).toNat = 87 + n by simp; omega]; simp

set_option maxRecDepth 100000 in
set_option maxHeartbeats 2000000 in
theorem rhex_any (s : ByteArray) (w : World) (hs : s.size ≤ 1048576) :
    Calls Tryz.prog 44 #[.string s] w fun e w' => e = .returned (.string ⟨(hexL s.data.toList).toArray⟩) ∧ Below w.heap.size w w' := by
  have HB0 : Hid (BSl w w.heap.size (.slice none 0 0) (hexL (s.data.toList.take 0))) := BSl.nil _ _
  have HE0 : Hid (Below w.heap.size w w) := Below.refl _ _
  go_enter Tryz.func44, Tryz.ntmps44
  go_wp2
  go_loopw [3, 4] (fun v i wr => ∃ k : Nat, k ≤ s.size ∧ i = .int .i64 k ∧ Hid (BSl wr w.heap.size v (hexL (s.data.toList.take k))) ∧ Hid (Below w.heap.size w wr)) (fun _ i _ => s.size - (intOf i).toNat)
  case atStart => exact ⟨0, by omega, rfl, HB0, HE0⟩
  case round =>
    clear HB0 HE0
    obtain ⟨k, hk, rfl, HB, HE⟩ := hrel
    rename World => w1
    by_cases hlt : k < s.size
    · have hk0 : (0 : Int) ≤ (k : Int) := by omega
      have hk1 : (k : Int) < (s.size : Int) := by omega
      have HT := show Hid _ from take_snocB s k hlt
      generalize hc : s[k] = c at HT
      have hcl := UInt8.toNat_lt c
      have e1 : (c.toNat : Int) / 16 = ((c.toNat / 16 : Nat) : Int) := by omega
      have e2 : (c.toNat : Int) % 16 = ((c.toNat % 16 : Nat) : Int) := by omega
      have l1 : c.toNat / 16 < 16 := by omega
      have l2 : c.toNat % 16 < 16 := by omega
      have HS : Hid (hexL (s.data.toList.take (k + 1)) = hexL (s.data.toList.take k) ++ [dig (c.toNat / 16), dig (c.toNat % 16)]) := by show _ = _; rw [HT.out, hexL_snoc]
      have hlen : (hexL (s.data.toList.take k)).length ≤ 2 * k := by rw [hexL_len, List.length_take]; omega
      generalize c.toNat / 16 = i1 at e1 HS l1
      generalize c.toNat % 16 = i2 at e2 HS l2
      have HSZ : Hid (w.heap.size ≤ w1.heap.size) := HE.out.size
      have HA0 := show Hid (Aside _ _) from HB.out.aside
      have e1w : IntKind.u8.wrap (i1 : Int) = (i1 : Int) := by rw [IntKind.wrap_u8]; omega
      have e2t : (c.toNat : Int).tmod 16 = (i2 : Int) := by rw [Int.tmod_eq_emod_of_nonneg (by omega)]; exact e2
      have HK0 : Hid ((w1.alloc (.cells #[.int .u8 (i1 : Int), .int .u8 (i2 : Int)] 5)).drew.cell? ⟨w1.heap.size, 0, none⟩ = some (.int .u8 (i1 : Int))) := by
        show (w1.alloc (.cells #[.int .u8 (i1 : Int), .int .u8 (i2 : Int)] 5)).cell? _ = _
        rw [cell_of_row _ _ _ _ _ _ (heap_alloc_new _ _)]; rfl
      have HK1 : Hid ((w1.alloc (.cells #[.int .u8 (i1 : Int), .int .u8 (i2 : Int)] 5)).drew.cell? ⟨w1.heap.size, 1, none⟩ = some (.int .u8 (i2 : Int))) := by
        show (w1.alloc (.cells #[.int .u8 (i1 : Int), .int .u8 (i2 : Int)] 5)).cell? _ = _
        rw [cell_of_row _ _ _ _ _ _ (heap_alloc_new _ _)]; rfl
      have HQ := show Hid (_ < _) from World.block_lt_of_cell? _ _ HK0.out
      have HBk : Hid (BSl (w1.alloc (.cells #[.int .u8 (i1 : Int), .int .u8 (i2 : Int)] 5)).drew w.heap.size u3 (hexL (s.data.toList.take k) ++ [dig i1, dig i2].take 0)) := by
        show BSl _ _ _ (_ ++ [])
        rw [List.append_nil]; exact HB.out.keeps ((Below.refl _ _).alloc (Nat.le_refl _) _).drew
      have HEk : Hid (Below w.heap.size w (w1.alloc (.cells #[.int .u8 (i1 : Int), .int .u8 (i2 : Int)] 5)).drew) := (HE.out.alloc HE.out.size _).drew
      clear HT
      generalize hexL (s.data.toList.take k) = H at HS HBk hlen HB
      go_wp2
      go_region_held3 (fun w' => True) (trivial) (fail)
      all_goals
        clear HB HE hc hcl e1 e2 e1w e2t
        go_wp2
        go_loopw [3, 23] (fun v j w2 => ∃ i : Nat, i ≤ 2 ∧ j = .int .i64 i ∧ Hid (BSl w2 w.heap.size v (H ++ [dig i1, dig i2].take i)) ∧ Hid (w2.cell? ⟨w1.heap.size, 0, none⟩ = some (.int .u8 (i1 : Int))) ∧ Hid (w2.cell? ⟨w1.heap.size, 1, none⟩ = some (.int .u8 (i2 : Int))) ∧ Hid (w1.heap.size < w2.heap.size) ∧ Hid (Aside v w1.heap.size) ∧ Hid (Below w.heap.size w w2)) (fun _ j _ => 2 - (intOf j).toNat)
        case atStart => exact ⟨0, by omega, rfl, HBk, HK0, HK1, HQ, HA0, HEk⟩
        case round =>
          clear HBk HK0 HK1 HQ HA0 HEk
          obtain ⟨i, hi, rfl, HB2, HC0, HC1, HQ2, HA2, HE2⟩ := hrel
          have HSZ2 : Hid (w.heap.size ≤ wr.heap.size) := HE2.out.size
          have hi3 : i = 0 ∨ i = 1 ∨ i = 2 := by omega
          rcases hi3 with rfl | rfl | rfl
          · have HB2 : Hid (BSl wr w.heap.size _ (H ++ [])) := HB2
            have K0 := HC0.out
            have K1 := HC1.out
            clear HC0 HC1
            by_cases hsm : i1 < 10
            · have hs1 : (i1 : Int) < 10 := by omega
              have HM1 : Hid (#[Value.int .u8 (48 + (i1 : Int))] = (bs [dig i1]).toArray) := by have h := dig_cell i1 (by omega); rw [if_pos hsm] at h; exact h
              have HL1 : Hid (1 = [dig i1].length) := rfl
              have HMN : Hid ([dig i1] ≠ []) := by show _ ≠ _; simp
              have HLL : Hid ((H ++ []).length + [dig i1].length ≤ 140737488355328) := by show _ ≤ _; simp; omega
              have HJN : Hid ((H ++ []) ++ [dig i1] = H ++ [dig i1]) := by show _ = _; simp
              clear hsm
              go_wp2_with (at_builtin; refine wpl_bsl_aside rfl _ _ rfl w.heap.size _ (H ++ []) wr [dig i1] _ HM1.out rfl 1 HL1.out rfl rfl HB2.out HSZ2.out HLL.out HMN.out w1.heap.size HQ2.out HA2.out ?_; intro v1 w3 hb1 hbel1 hk1' ha1)
              have HB3 : Hid (BSl w3 w.heap.size v1 (H ++ [dig i1])) := by rw [← HJN.out]; exact hb1
              have HE3 : Hid (Below w.heap.size w w3) := HE2.out.trans hbel1
              have HK0 : Hid (w3.cell? ⟨w1.heap.size, 0, none⟩ = some (.int .u8 (i1 : Int))) := (hk1' 0).trans K0
              have HK1 : Hid (w3.cell? ⟨w1.heap.size, 1, none⟩ = some (.int .u8 (i2 : Int))) := (hk1' 1).trans K1
              have HQ3 : Hid (w1.heap.size < w3.heap.size) := World.block_lt_of_cell? _ _ HK0.out
              have HA3 : Hid (Aside v1 w1.heap.size) := ha1
              clear hb1 hbel1 hk1' ha1 HB2 HE2 K0 K1 HQ2 HA2
              go_wp2
              exact ⟨⟨0 + 1, by omega, by go_num, HB3, HK0, HK1, HQ3, HA3, HE3⟩, by simp [intOf]⟩
            · have hs1 : ¬ ((i1 : Int) < 10) := by omega
              have HM1 : Hid (#[Value.int .u8 (87 + (i1 : Int))] = (bs [dig i1]).toArray) := by have h := dig_cell i1 (by omega); rw [if_neg hsm] at h; exact h
              have HL1 : Hid (1 = [dig i1].length) := rfl
              have HMN : Hid ([dig i1] ≠ []) := by show _ ≠ _; simp
              have HLL : Hid ((H ++ []).length + [dig i1].length ≤ 140737488355328) := by show _ ≤ _; simp; omega
              have HJN : Hid ((H ++ []) ++ [dig i1] = H ++ [dig i1]) := by show _ = _; simp
              clear hsm
              go_wp2_with (at_builtin; refine wpl_bsl_aside rfl _ _ rfl w.heap.size _ (H ++ []) wr [dig i1] _ HM1.out rfl 1 HL1.out rfl rfl HB2.out HSZ2.out HLL.out HMN.out w1.heap.size HQ2.out HA2.out ?_; intro v1 w3 hb1 hbel1 hk1' ha1)
              have HB3 : Hid (BSl w3 w.heap.size v1 (H ++ [dig i1])) := by rw [← HJN.out]; exact hb1
              have HE3 : Hid (Below w.heap.size w w3) := HE2.out.trans hbel1
              have HK0 : Hid (w3.cell? ⟨w1.heap.size, 0, none⟩ = some (.int .u8 (i1 : Int))) := (hk1' 0).trans K0
              have HK1 : Hid (w3.cell? ⟨w1.heap.size, 1, none⟩ = some (.int .u8 (i2 : Int))) := (hk1' 1).trans K1
              have HQ3 : Hid (w1.heap.size < w3.heap.size) := World.block_lt_of_cell? _ _ HK0.out
              have HA3 : Hid (Aside v1 w1.heap.size) := ha1
              clear hb1 hbel1 hk1' ha1 HB2 HE2 K0 K1 HQ2 HA2
              go_wp2
              exact ⟨⟨0 + 1, by omega, by go_num, HB3, HK0, HK1, HQ3, HA3, HE3⟩, by simp [intOf]⟩
          · have HB2 : Hid (BSl wr w.heap.size _ (H ++ [dig i1])) := HB2
            have K0 := HC0.out
            have K1 := HC1.out
            clear HC0 HC1
            by_cases hsm : i2 < 10
            · have hs1 : (i2 : Int) < 10 := by omega
              have HM1 : Hid (#[Value.int .u8 (48 + (i2 : Int))] = (bs [dig i2]).toArray) := by have h := dig_cell i2 (by omega); rw [if_pos hsm] at h; exact h
              have HL1 : Hid (1 = [dig i2].length) := rfl
              have HMN : Hid ([dig i2] ≠ []) := by show _ ≠ _; simp
              have HLL : Hid ((H ++ [dig i1]).length + [dig i2].length ≤ 140737488355328) := by show _ ≤ _; simp; omega
              have HJN : Hid ((H ++ [dig i1]) ++ [dig i2] = H ++ [dig i1, dig i2]) := by show _ = _; simp
              clear hsm
              go_wp2_with (at_builtin; refine wpl_bsl_aside rfl _ _ rfl w.heap.size _ (H ++ [dig i1]) wr [dig i2] _ HM1.out rfl 1 HL1.out rfl rfl HB2.out HSZ2.out HLL.out HMN.out w1.heap.size HQ2.out HA2.out ?_; intro v1 w3 hb1 hbel1 hk1' ha1)
              have HB3 : Hid (BSl w3 w.heap.size v1 (H ++ [dig i1, dig i2])) := by rw [← HJN.out]; exact hb1
              have HE3 : Hid (Below w.heap.size w w3) := HE2.out.trans hbel1
              have HK0 : Hid (w3.cell? ⟨w1.heap.size, 0, none⟩ = some (.int .u8 (i1 : Int))) := (hk1' 0).trans K0
              have HK1 : Hid (w3.cell? ⟨w1.heap.size, 1, none⟩ = some (.int .u8 (i2 : Int))) := (hk1' 1).trans K1
              have HQ3 : Hid (w1.heap.size < w3.heap.size) := World.block_lt_of_cell? _ _ HK0.out
              have HA3 : Hid (Aside v1 w1.heap.size) := ha1
              clear hb1 hbel1 hk1' ha1 HB2 HE2 K0 K1 HQ2 HA2
              go_wp2
              exact ⟨⟨1 + 1, by omega, by go_num, HB3, HK0, HK1, HQ3, HA3, HE3⟩, by simp [intOf]⟩
            · have hs1 : ¬ ((i2 : Int) < 10) := by omega
              have HM1 : Hid (#[Value.int .u8 (87 + (i2 : Int))] = (bs [dig i2]).toArray) := by have h := dig_cell i2 (by omega); rw [if_neg hsm] at h; exact h
              have HL1 : Hid (1 = [dig i2].length) := rfl
              have HMN : Hid ([dig i2] ≠ []) := by show _ ≠ _; simp
              have HLL : Hid ((H ++ [dig i1]).length + [dig i2].length ≤ 140737488355328) := by show _ ≤ _; simp; omega
              have HJN : Hid ((H ++ [dig i1]) ++ [dig i2] = H ++ [dig i1, dig i2]) := by show _ = _; simp
              clear hsm
              go_wp2_with (at_builtin; refine wpl_bsl_aside rfl _ _ rfl w.heap.size _ (H ++ [dig i1]) wr [dig i2] _ HM1.out rfl 1 HL1.out rfl rfl HB2.out HSZ2.out HLL.out HMN.out w1.heap.size HQ2.out HA2.out ?_; intro v1 w3 hb1 hbel1 hk1' ha1)
              have HB3 : Hid (BSl w3 w.heap.size v1 (H ++ [dig i1, dig i2])) := by rw [← HJN.out]; exact hb1
              have HE3 : Hid (Below w.heap.size w w3) := HE2.out.trans hbel1
              have HK0 : Hid (w3.cell? ⟨w1.heap.size, 0, none⟩ = some (.int .u8 (i1 : Int))) := (hk1' 0).trans K0
              have HK1 : Hid (w3.cell? ⟨w1.heap.size, 1, none⟩ = some (.int .u8 (i2 : Int))) := (hk1' 1).trans K1
              have HQ3 : Hid (w1.heap.size < w3.heap.size) := World.block_lt_of_cell? _ _ HK0.out
              have HA3 : Hid (Aside v1 w1.heap.size) := ha1
              clear hb1 hbel1 hk1' ha1 HB2 HE2 K0 K1 HQ2 HA2
              go_wp2
              exact ⟨⟨1 + 1, by omega, by go_num, HB3, HK0, HK1, HQ3, HA3, HE3⟩, by simp [intOf]⟩
          · have HB3 : Hid (BSl wr w.heap.size u3 (hexL (s.data.toList.take (k + 1)))) := by rw [HS.out]; exact HB2
            clear HB2 HC0 HC1 HQ2 HA2
            go_wp2
            exact ⟨⟨k + 1, by omega, by go_num, HB3, HE2⟩, by simp [intOf]; omega⟩
    · have hd : decide ((k : Int) < (s.size : Int)) = false := decide_eq_false (by omega)
      have hd2 : decide (k < s.size) = false := decide_eq_false hlt
      have e : s.data.toList.take k = s.data.toList := List.take_of_length_le (by simp; omega)
      rw [e] at HB
      have hcv := HB.out.text
      clear e HB
      go_wp2
      go_ret
      exact ⟨rfl, HE.out⟩
end Go.Proofs.YtedogofeibdjiaaGreat
