/- The walk of the mixing of a block. -/
import Derived.Test.YtnlodlpjokkepaaSched
namespace Go.Proofs.Ytnlodlpjokkepaa
open Go.RowKit
set_option linter.unusedVariables false

/-- eight words within 32 bits -/
structure Lt8 (s : St8) : Prop where
  a : s.a < 4294967296
  b : s.b < 4294967296
  c : s.c < 4294967296
  d : s.d < 4294967296
  e : s.e < 4294967296
  f : s.f < 4294967296
  g : s.g < 4294967296
  h : s.h < 4294967296
theorem rnd_lt (s : St8) (k w : Nat) (h : Lt8 s) : Lt8 (rnd s k w) := ⟨Nat.mod_lt _ (by decide), h.a, h.b, h.c, Nat.mod_lt _ (by decide), h.e, h.f, h.g⟩
theorem add8_lt (s t : St8) : Lt8 (add8 s t) := ⟨Nat.mod_lt _ (by decide), Nat.mod_lt _ (by decide), Nat.mod_lt _ (by decide), Nat.mod_lt _ (by decide), Nat.mod_lt _ (by decide), Nat.mod_lt _ (by decide), Nat.mod_lt _ (by decide), Nat.mod_lt _ (by decide)⟩
theorem first8_lt : Lt8 first8 := ⟨by decide, by decide, by decide, by decide, by decide, by decide, by decide, by decide⟩
theorem mixN_lt (n : Nat) (s : St8) (l : List UInt8) (h : Lt8 s) : Lt8 (mixN n s l) := by
  induction n generalizing s l with
  | zero => exact h
  | succ n ih => exact ih _ _ (add8_lt _ _)
theorem st_lt (l : List UInt8) : Lt8 (st l) := mixN_lt _ _ _ first8_lt

/-- the state behind k rounds -/
def rndN (k : Nat) (b : List UInt8) (s : St8) : St8 := rnds (kNums.take k) ((wds b).take k) s
theorem rndN_zero (b : List UInt8) (s : St8) : rndN 0 b s = s := by simp [rndN, rnds]
theorem rndN_all (b : List UInt8) (s : St8) : rndN 64 b s = rnds kNums (wds b) s := by
  unfold rndN
  rw [List.take_of_length_le (by rw [kNums_len]; omega), List.take_of_length_le (by rw [wds_len]; omega)]
theorem rndN_succ (k : Nat) (b : List UInt8) (s : St8) (h : k < 64) : rndN (k + 1) b s = rnd (rndN k b s) (kNums.getD k 0) ((wds b).getD k 0) := by
  have hk : k < kNums.length := by rw [kNums_len]; exact h
  have hw : k < (wds b).length := by rw [wds_len]; exact h
  unfold rndN
  rw [List.take_succ_eq_append_getElem hk, List.take_succ_eq_append_getElem hw, rnds_snoc _ _ _ _ _ (by simp; omega)]
  simp [hk, hw]
theorem rndN_lt (k : Nat) (b : List UInt8) (s : St8) (h : Lt8 s) (hk : k ≤ 64) : Lt8 (rndN k b s) := by
  induction k with
  | zero => rw [rndN_zero]; exact h
  | succ k ih => rw [rndN_succ k b s (by omega)]; exact rnd_lt _ _ _ (ih (by omega))

/-- an operation on one value -/
theorem wpl_un {P : Program} {ops : Array Oper} {rest : List Oper} {o : Oper} {a : Act} {w : World} {Q : Exit → Act → World → Prop} (op : UnOp) (ty : TypeId) (x : Operand) (v u : Value) (h : ∀ w, (Op.unary op v).run P w = .ok u w)
    (hg : o.guard = none) (ho : o.op = .unOp op ty x) (hx : a.eval x = v) (k : wpList P ops Q rest (a.put o.dst u) w) : wpList P ops Q (o :: rest) a w :=
  wpl_value hg _ _ (by unfold execOp; simp only [ho, hx, Sem.run_bind, h w, Result.andThen_ok, Sem.run_pure]) k
theorem not32 (c : Nat) (h : c < 4294967296) : 4294967295 ^^^ c = 4294967295 - c := by
  have h1 : ~~~ (BitVec.ofNat 32 c) = BitVec.allOnes 32 ^^^ BitVec.ofNat 32 c := by
    apply BitVec.eq_of_getElem_eq
    intro i hi
    rw [BitVec.getElem_not, BitVec.getElem_xor, BitVec.getElem_allOnes, Bool.true_xor]
  have h2 := congrArg BitVec.toNat h1
  rw [BitVec.toNat_not, BitVec.toNat_xor, BitVec.toNat_allOnes, BitVec.toNat_ofNat, Nat.mod_eq_of_lt h] at h2
  exact h2.symm
theorem not_is (c : Nat) (h : c < 4294967296) : bits .xor .u32 IntKind.u32.max (c : Int) = ((4294967295 - c : Nat) : Int) := by
  rw [show IntKind.u32.max = ((4294967295 : Nat) : Int) by decide, bits_xor_u32 _ _ (by decide) h, not32 c h]
theorem not_run (x : Nat) (h : x < 4294967296) (w : World) : (Op.unary .xor (.int .u32 (x : Int))).run Try.prog w = .ok (.int .u32 ((4294967295 - x : Nat) : Int)) w := by
  rw [← not_is x h]
  rfl
/-- as the walk writes them -/
theorem chosen_is (e f g : Nat) (he : e < 4294967296) (hf : f < 4294967296) (hg : g < 4294967296) : bits .xor .u32 (bits .and .u32 (e : Int) (f : Int)) (bits .and .u32 ((4294967295 - e : Nat) : Int) (g : Int)) = ((chosen e f g : Nat) : Int) := by
  rw [bits_and_u32 _ _ he hf, bits_and_u32 _ _ (by omega) hg, bits_xor_u32 _ _ (and32 _ _ he) (and32 _ _ (by omega))]; rfl
theorem most_is (a b c : Nat) (ha : a < 4294967296) (hb : b < 4294967296) (hc : c < 4294967296) : bits .xor .u32 (bits .xor .u32 (bits .and .u32 (a : Int) (b : Int)) (bits .and .u32 (a : Int) (c : Int))) (bits .and .u32 (b : Int) (c : Int)) = ((most a b c : Nat) : Int) := by
  rw [bits_and_u32 _ _ ha hb, bits_and_u32 _ _ ha hc, bits_and_u32 _ _ hb hc, bits_xor_u32 _ _ (and32 _ _ ha) (and32 _ _ ha), bits_xor_u32 _ _ (xor32 _ _ (and32 _ _ ha) (and32 _ _ ha)) (and32 _ _ hb)]; rfl
theorem chosen_lt (e f g : Nat) (he : e < 4294967296) : chosen e f g < 4294967296 := xor32 _ _ (and32 _ _ he) (and32 _ _ (by omega))
theorem most_lt (a b c : Nat) (ha : a < 4294967296) (hb : b < 4294967296) : most a b c < 4294967296 := xor32 _ _ (xor32 _ _ (and32 _ _ ha) (and32 _ _ ha)) (and32 _ _ hb)
/-- a value is built of parts -/
theorem wpl_build {P : Program} {ops : Array Oper} {rest : List Oper} {o : Oper} {a : Act} {w : World} {Q : Exit → Act → World → Prop} (t : TypeId) (parts : Array (Nat × Operand)) (vals : Array (Nat × Value)) (v : Value) (h : ∀ w, (Instr.build t vals).run P w = .ok v w)
    (hg : o.guard = none) (ho : o.op = .build t parts) (hv : (parts.map fun (i, x) => (i, a.eval x)) = vals) (k : wpList P ops Q rest (a.put o.dst v) w) : wpList P ops Q (o :: rest) a w :=
  wpl_value hg _ _ (by unfold execOp; simp only [ho]; rw [hv]; simp only [Sem.run_bind, h w, Result.andThen_ok, Sem.run_pure]) k
theorem build50 (a b c d e f g h : Int) (w : World) : (Instr.build 50 #[(0, .int .u32 a), (1, .int .u32 b), (2, .int .u32 c), (3, .int .u32 d), (4, .int .u32 e), (5, .int .u32 f), (6, .int .u32 g), (7, .int .u32 h)]).run Try.prog w = .ok (.agg #[.int .u32 a, .int .u32 b, .int .u32 c, .int .u32 d, .int .u32 e, .int .u32 f, .int .u32 g, .int .u32 h]) w := by kernel_rfl
theorem wpl_store8 {ops : Array Oper} {rest : List Oper} {o : Oper} {a : Act} {w : World} {Q : Exit → Act → World → Prop} (ty : TypeId) (x y : Operand) (g : Nat) (xa xb xc xd xe xf xg xh : Int)
    (hi : (Try.prog.info? ty).map (·.size) = some 8) (hz : w.heap[g]? = some (.cells z8 ty (0, 0)))
    (hg : o.guard = none) (ho : o.op = .store ty x y) (hx : a.eval x = .pointer (some ⟨g, 0, none⟩)) (hy : a.eval y = .agg #[.int .u32 xa, .int .u32 xb, .int .u32 xc, .int .u32 xd, .int .u32 xe, .int .u32 xf, .int .u32 xg, .int .u32 xh])
    (k : wpList Try.prog ops Q rest (a.put o.dst undef) (w.setRow g #[.int .u32 xa, .int .u32 xb, .int .u32 xc, .int .u32 xd, .int .u32 xe, .int .u32 xf, .int .u32 xg, .int .u32 xh])) : wpList Try.prog ops Q (o :: rest) a w :=
  wpList_store_row hg ty x y ho g _ hx hy ty z8 hz hi rfl (all_oneCell_toArray (cs := [.int .u32 xa, .int .u32 xb, .int .u32 xc, .int .u32 xd, .int .u32 xe, .int .u32 xf, .int .u32 xg, .int .u32 xh]) (by intro v hv; simp at hv; rcases hv with h | h | h | h | h | h | h | h <;> (subst h; rfl))) k
theorem c8_eq (s t : St8) (xa xb xc xd xe xf xg xh : Int) (ha : xa = (((s.a + t.a) % 4294967296 : Nat) : Int)) (hb : xb = (((s.b + t.b) % 4294967296 : Nat) : Int)) (hc : xc = (((s.c + t.c) % 4294967296 : Nat) : Int)) (hd : xd = (((s.d + t.d) % 4294967296 : Nat) : Int)) (he : xe = (((s.e + t.e) % 4294967296 : Nat) : Int)) (hf : xf = (((s.f + t.f) % 4294967296 : Nat) : Int)) (hg : xg = (((s.g + t.g) % 4294967296 : Nat) : Int)) (hh : xh = (((s.h + t.h) % 4294967296 : Nat) : Int)) : #[.int .u32 xa, .int .u32 xb, .int .u32 xc, .int .u32 xd, .int .u32 xe, .int .u32 xf, .int .u32 xg, .int .u32 xh] = c8 (add8 s t) := by
  subst ha hb hc hd he hf hg hh; rfl
/-- what lies in memory while a block is mixed in -/
structure Mix (n p q : Nat) (s : St8) (W : Array Value) (w wr : World) : Prop where
  old : wr.heap[n]? = some (.cells (c8 s) 50 (0, 0))
  res : wr.heap[n + 1 + 1]? = some (.cells z8 50 (0, 0))
  wor : wr.heap[p]? = some (.cells W 61 (0, 0))
  num : wr.heap[q]? = some (.cells kCells 61 (0, 0))
  bel : Below n w wr
theorem Mix.drew1 {n p q : Nat} {s : St8} {W : Array Value} {w wr : World} (h : Mix n p q s W w wr) : Mix n p q s W w wr.drew :=
  ⟨h.old, h.res, h.wor, h.num, below_drewN h.bel 1⟩
theorem _root_.Go.RowKit.Below.heap {B : Nat} {w w' : World} (h : Below B w w') (k : Nat) (hk : k < B) : w'.heap[k]? = w.heap[k]? := h.block k hk

theorem mix_start (s : St8) (B W : Array Value) (w w2 w3 : World) (h2 : Below (((w.alloc (.cells (c8 s) 50)).alloc (.cells B 51)).alloc (.cells z8 50)).heap.size (((w.alloc (.cells (c8 s) 50)).alloc (.cells B 51)).alloc (.cells z8 50)) w2)
    (h3 : Below (w2.alloc (.cells W 61)).heap.size (w2.alloc (.cells W 61)) w3) :
    Mix w.heap.size w2.heap.size w3.heap.size s W w (w3.alloc (.cells kCells 61)) := by
  have s2 := h2.size
  have s3 := h3.size
  simp at s2 s3
  have e : ∀ k, k < w.heap.size + 3 → (w3.alloc (.cells kCells 61)).heap[k]? = (((w.alloc (.cells (c8 s) 50)).alloc (.cells B 51)).alloc (.cells z8 50)).heap[k]? := fun k hk => by
    rw [heap_alloc_old _ _ (by omega), h3.block k (by simp; omega), heap_alloc_old _ _ (by omega), h2.block k (by simp; omega)]
  refine ⟨?_, ?_, ?_, ?_, ?_⟩
  · rw [e _ (by omega), heap_alloc_old _ _ (by simp; omega), heap_alloc_old _ _ (by simp), heap_alloc_new]
  · rw [e _ (by omega)]; exact heap_alloc_at _ _ _ (by simp)
  · rw [heap_alloc_old _ _ (by omega), h3.block _ (by simp), heap_alloc_new]
  · exact heap_alloc_new _ _
  · have b1 : Below w.heap.size w (((w.alloc (.cells (c8 s) 50)).alloc (.cells B 51)).alloc (.cells z8 50)) := (((Below.refl _ _).alloc (Nat.le_refl _) _).alloc (by simp) _).alloc (by simp; omega) _
    have b2 := (b1.trans (h2.mono (by simp; omega))).alloc (by omega) (.cells W 61)
    exact (b2.trans (h3.mono (by simp; omega))).alloc (by omega) _

theorem Mix.oldcell {n p q : Nat} {s : St8} {W : Array Value} {w wr : World} (h : Mix n p q s W w wr) (j : Nat) : wr.cell? ⟨n, j, none⟩ = (c8 s)[j]? := cell_of_row _ _ _ _ _ _ h.old

set_option maxRecDepth 100000 in
set_option maxHeartbeats 4000000 in
theorem mixed_any (s : St8) (b : List UInt8) (w : World) (hs : Lt8 s) (hb : b.length = 64) :
    Calls Try.prog 26 #[.agg (c8 s), .agg (bs b).toArray] w fun e w' => e = .returned (.agg (c8 (mix s b))) ∧ Below w.heap.size w w' := by
  have hbox : ∀ w, (Instr.box 51 (.agg (bs b).toArray)).run Try.prog w = .ok (.pointer (some ⟨w.heap.size, 0, none⟩)) (w.alloc (.cells (bs b).toArray 51)) := fun w => rfl
  have hbox2 : ∀ w, (Instr.box 50 (.agg (c8 s))).run Try.prog w = .ok (.pointer (some ⟨w.heap.size, 0, none⟩)) (w.alloc (.cells (c8 s) 50)) := fun w => rfl
  have HSch := show Hid _ from fun w => schedule_any b w hb
  have HNum := show Hid _ from fun w => roundNumbers_any w
  have hBs : (bs b).toArray.size = 64 := by simp [bs_len, hb]
  have hW := wds_len b
  have hWs : (us (wds b)).toArray.size = 64 := by simp [us_len, hW]
  have hWa := us_all (wds b)
  have hBi : (Try.prog.info? 51).map (·.size) = some (bs b).toArray.size := by rw [hBs]; exact info51
  have hWi : (Try.prog.info? 61).map (·.size) = some (us (wds b)).toArray.size := by rw [hWs]; exact info61
  have HBi := show Hid _ from hBi
  have HWi := show Hid _ from hWi
  have HWs := show Hid _ from hWs
  have HWa := show Hid _ from hWa
  clear hBi hWi hWs hWa hBs
  generalize hBe : (bs b).toArray = B at hbox HSch HBi ⊢
  generalize hWe : (us (wds b)).toArray = W at HSch HWi HWs HWa
  generalize hC : c8 s = C at hbox2 ⊢
  have HC := show Hid _ from hC
  have HW := show Hid _ from hWe
  clear hC hWe hBe
  have HZW : Hid (z64.size = W.size) := by show z64.size = W.size; rw [HWs.out]; rfl
  have HZK : Hid (z64.size = kCells.size) := by show z64.size = kCells.size; rw [kCells_size]; rfl
  have HKi : Hid ((Try.prog.info? 61).map (·.size) = some kCells.size) := by show _ = _; rw [kCells_size]; exact info61
  have HKa : Hid (kCells.all (·.oneCell') = true) := us_all _
  generalize hKC : kCells = KC at HNum HZK HKi HKa
  have HKC := show Hid _ from hKC
  clear hKC
  generalize hZ : z64 = Z at HZK HZW
  have HZ := show Hid _ from hZ
  have hal : ∀ w, (Instr.alloc 61 true (.tuple #[])).run Try.prog w = .ok (.pointer (some ⟨w.heap.size, 0, none⟩)) (w.alloc (.cells Z 61)) := fun w => by rw [← hZ]; exact alloc61 w
  clear hZ
  go_enter Try.func26, Try.ntmps26
  go_wp2_with (with_reducible (refine wpl_id ?_); first
    | (refine wpl_alloc 50 z8 alloc50 rfl rfl ?_)
    | (refine wpl_box 51 _ B hbox rfl rfl rfl ?_)
    | (refine wpl_box 50 _ C hbox2 rfl rfl rfl ?_)
    | (refine wpList_load_row rfl 51 _ rfl _ rfl 51 B (0, 0) _ (heap_alloc2_old' _ _ _ _ (by simp)) Try.underlying51 rfl HBi.out ?_))
  refine (HSch.out _).mono ?_
  rintro e w2 ⟨rfl, hB2⟩
  go_wp2_with (with_reducible (refine wpl_id ?_); first
    | (refine wpl_alloc 61 Z hal rfl rfl ?_)
    | (refine wpl_store_new 61 _ _ _ W w2 Z rfl rfl HWi.out HZW.out HWa.out rfl rfl rfl rfl ?_))
  refine (HNum.out _).mono ?_
  rintro e w3 ⟨rfl, hB3⟩
  go_wp2_with (with_reducible (refine wpl_id ?_); first
    | (refine wpl_alloc 61 Z hal rfl rfl ?_)
    | (refine wpl_store_new 61 _ _ _ KC w3 Z rfl rfl HKi.out HZK.out HKa.out rfl rfl rfl rfl ?_))
  have HM : Hid (Mix w.heap.size w2.heap.size w3.heap.size s W w (w3.alloc (.cells KC 61))) := by
    have hC := HC.out
    have hK := HKC.out
    subst hC
    subst hK
    exact mix_start s B W w w2 w3 hB2 hB3
  clear hB2 hB3 HSch HNum hbox hbox2 HBi
  generalize w3.alloc (.cells KC 61) = w4 at HM ⊢
  have k0 : w4.cell? ⟨w.heap.size, 0, none⟩ = some (.int .u32 (s.a : Int)) := HM.out.oldcell 0
  have k1 : w4.cell? ⟨w.heap.size, 1, none⟩ = some (.int .u32 (s.b : Int)) := HM.out.oldcell 1
  have k2 : w4.cell? ⟨w.heap.size, 2, none⟩ = some (.int .u32 (s.c : Int)) := HM.out.oldcell 2
  have k3 : w4.cell? ⟨w.heap.size, 3, none⟩ = some (.int .u32 (s.d : Int)) := HM.out.oldcell 3
  have k4 : w4.cell? ⟨w.heap.size, 4, none⟩ = some (.int .u32 (s.e : Int)) := HM.out.oldcell 4
  have k5 : w4.cell? ⟨w.heap.size, 5, none⟩ = some (.int .u32 (s.f : Int)) := HM.out.oldcell 5
  have k6 : w4.cell? ⟨w.heap.size, 6, none⟩ = some (.int .u32 (s.g : Int)) := HM.out.oldcell 6
  have k7 : w4.cell? ⟨w.heap.size, 7, none⟩ = some (.int .u32 (s.h : Int)) := HM.out.oldcell 7
  go_region_held3 (fun w' => w'.cell? ⟨w.heap.size, 0, none⟩ = some (.int .u32 (s.a : Int)) ∧ w'.cell? ⟨w.heap.size, 1, none⟩ = some (.int .u32 (s.b : Int)) ∧ w'.cell? ⟨w.heap.size, 2, none⟩ = some (.int .u32 (s.c : Int)) ∧ w'.cell? ⟨w.heap.size, 3, none⟩ = some (.int .u32 (s.d : Int)) ∧ w'.cell? ⟨w.heap.size, 4, none⟩ = some (.int .u32 (s.e : Int)) ∧ w'.cell? ⟨w.heap.size, 5, none⟩ = some (.int .u32 (s.f : Int)) ∧ w'.cell? ⟨w.heap.size, 6, none⟩ = some (.int .u32 (s.g : Int)) ∧ w'.cell? ⟨w.heap.size, 7, none⟩ = some (.int .u32 (s.h : Int))) (go_keep) (fail)
  have HM2 : Hid (Mix w.heap.size w2.heap.size w3.heap.size s W w w4.drew) := HM.out.drew1
  clear k0 k1 k2 k3 k4 k5 k6 k7 HM
  go_wp2
  go_loopw [7, 8, 9, 10, 11, 12, 13, 14, 38] (fun sa sb sc sd se sf sg sh i wr => ∃ (k ta tb tc td te tf tg th : Nat), k ≤ 64 ∧ i = .int .i64 k ∧ sa = .int .u32 (ta : Int) ∧ sb = .int .u32 (tb : Int) ∧ sc = .int .u32 (tc : Int) ∧ sd = .int .u32 (td : Int) ∧ se = .int .u32 (te : Int) ∧ sf = .int .u32 (tf : Int) ∧ sg = .int .u32 (tg : Int) ∧ sh = .int .u32 (th : Int) ∧ ta ≤ 4294967295 ∧ tb ≤ 4294967295 ∧ tc ≤ 4294967295 ∧ td ≤ 4294967295 ∧ te ≤ 4294967295 ∧ tf ≤ 4294967295 ∧ tg ≤ 4294967295 ∧ th ≤ 4294967295 ∧ Hid ((⟨ta, tb, tc, td, te, tf, tg, th⟩ : St8) = rndN k b s) ∧ Hid (Mix w.heap.size w2.heap.size w3.heap.size s W w wr)) (fun _ _ _ _ _ _ _ _ i _ => 64 - (intOf i).toNat)
  case atStart => exact ⟨0, s.a, s.b, s.c, s.d, s.e, s.f, s.g, s.h, by omega, rfl, rfl, rfl, rfl, rfl, rfl, rfl, rfl, rfl, Nat.le_of_lt_succ hs.a, Nat.le_of_lt_succ hs.b, Nat.le_of_lt_succ hs.c, Nat.le_of_lt_succ hs.d, Nat.le_of_lt_succ hs.e, Nat.le_of_lt_succ hs.f, Nat.le_of_lt_succ hs.g, Nat.le_of_lt_succ hs.h, (rndN_zero b s).symm, HM2⟩
  case round =>
    clear HM2
    obtain ⟨k, ta, tb, tc, td, te, tf, tg, th, hk, rfl, rfl, rfl, rfl, rfl, rfl, rfl, rfl, rfl, la, lb, lc, ld, le, lf, lg, lh, HR, HM⟩ := hrel
    by_cases hlt : k < 64
    · have hk0 : (0 : Int) ≤ (k : Int) := by omega
      have hk1 : (k : Int) < 64 := by omega
      have HR2 := show Hid _ from rndN_succ k b s hlt
      have hR := HR.out
      rw [← hR] at HR2
      have hcN : wr.cell? ⟨w3.heap.size, k, none⟩ = some (.int .u32 ((kNums.getD k 0 : Nat) : Int)) := by rw [cell_of_row _ _ _ _ _ _ HM.out.num]; exact kCells_at k hlt
      have hcW : wr.cell? ⟨w2.heap.size, k, none⟩ = some (.int .u32 (((wds b).getD k 0 : Nat) : Int)) := by rw [cell_of_row _ _ _ _ _ _ HM.out.wor, ← HW.out]; exact us_at _ _ (by rw [wds_len]; exact hlt)
      generalize kNums.getD k 0 = K at hcN HR2
      generalize (wds b).getD k 0 = X at hcW HR2
      have T6 := show Hid _ from fun w => turned6 te w (by omega)
      have T2 := show Hid _ from fun w => turned2 ta w (by omega)
      clear hR HR hs hb hW HWi HWs HWa HKi HKa HZK HZW HZ hal HKC HC
      have HU := show Hid _ from not_run te (by omega)
      have HCH := show Hid _ from chosen_is te tf tg (by omega) (by omega) (by omega)
      have HMO := show Hid _ from most_is ta tb tc (by omega) (by omega) (by omega)
      have lng : 4294967295 - te ≤ 4294967295 := by omega
      generalize 4294967295 - te = ng at HU HCH lng
      go_wp2_with (with_reducible (refine wpl_id ?_); refine wpl_un .xor _ _ _ _ HU.out rfl rfl rfl ?_)
      rw [HCH.out, HMO.out]
      go_region_held3 (fun w' => w'.cell? ⟨w3.heap.size, k, none⟩ = some (.int .u32 (K : Int)) ∧ w'.cell? ⟨w2.heap.size, k, none⟩ = some (.int .u32 (X : Int))) (go_keep) ((go_at_call 33; refine (T6.out _).mono ?_; rintro e w' ⟨rfl, rfl⟩))
      go_wp2_with fail
      refine (T2.out _).mono ?_
      rintro e w' ⟨rfl, rfl⟩
      go_wp2
      exact ⟨⟨k + 1, ((th + rot3 te 6 11 25 + chosen te tf tg + K + X) % 4294967296 + rot3 ta 2 13 22 + most ta tb tc) % 4294967296, ta, tb, tc, (td + (th + rot3 te 6 11 25 + chosen te tf tg + K + X) % 4294967296) % 4294967296, te, tf, tg, by omega, by go_num, congrArg (Value.int .u32) (by omega), rfl, rfl, rfl, congrArg (Value.int .u32) (by omega), rfl, rfl, rfl, by omega, la, lb, lc, by omega, le, lf, lg, by show _ = _; rw [HR2.out]; rfl, HM.out.drew1⟩, by simp [intOf]; omega⟩
    · have hR := HR.out
      have e64 : k = 64 := by omega
      have hd : decide ((k : Int) < 64) = false := by simp; omega
      rw [e64, rndN_all] at hR
      have HMX : Hid (mix s b = add8 s ⟨ta, tb, tc, td, te, tf, tg, th⟩) := by show _ = _; rw [hR]; rfl
      have k0 : wr.cell? ⟨w.heap.size, 0, none⟩ = some (.int .u32 (s.a : Int)) := HM.out.oldcell 0
      have k1 : wr.cell? ⟨w.heap.size, 1, none⟩ = some (.int .u32 (s.b : Int)) := HM.out.oldcell 1
      have k2 : wr.cell? ⟨w.heap.size, 2, none⟩ = some (.int .u32 (s.c : Int)) := HM.out.oldcell 2
      have k3 : wr.cell? ⟨w.heap.size, 3, none⟩ = some (.int .u32 (s.d : Int)) := HM.out.oldcell 3
      have k4 : wr.cell? ⟨w.heap.size, 4, none⟩ = some (.int .u32 (s.e : Int)) := HM.out.oldcell 4
      have k5 : wr.cell? ⟨w.heap.size, 5, none⟩ = some (.int .u32 (s.f : Int)) := HM.out.oldcell 5
      have k6 : wr.cell? ⟨w.heap.size, 6, none⟩ = some (.int .u32 (s.g : Int)) := HM.out.oldcell 6
      have k7 : wr.cell? ⟨w.heap.size, 7, none⟩ = some (.int .u32 (s.h : Int)) := HM.out.oldcell 7
      have HZ8 : Hid (wr.heap[w.heap.size + 1 + 1]? = some (.cells z8 50 (0, 0))) := HM.out.res
      have HBel : Hid (Below w.heap.size w wr) := HM.out.bel
      clear hR HR e64 hlt hk HM
      go_wp2_with (with_reducible (refine wpl_id ?_); first
        | (refine wpl_build 50 _ _ _ (build50 _ _ _ _ _ _ _ _) rfl rfl rfl ?_)
        | (refine wpl_store8 50 _ _ (w.heap.size + 1 + 1) _ _ _ _ _ _ _ _ info50 HZ8.out rfl rfl rfl rfl ?_))
      refine bodyPost_ret (v := .agg _) (results_cell_row (p := 4) rfl _ _ (w.heap.size + 1 + 1) 50 _ (0, 0) _ rfl (setRow_heap _ _ _ _ _ _ HZ8.out) Try.underlying50 rfl info50) rfl ⟨?_, HBel.out.trans ⟨rfl, rfl, rfl, by simp, fun k hk => setRow_other _ _ _ _ (by omega)⟩⟩
      rw [HMX.out]
      exact congrArg (fun x => Ending.returned (.agg x)) (c8_eq s _ _ _ _ _ _ _ _ _ (by dsimp only; omega) (by dsimp only; omega) (by dsimp only; omega) (by dsimp only; omega) (by dsimp only; omega) (by dsimp only; omega) (by dsimp only; omega) (by dsimp only; omega))
end Go.Proofs.Ytnlodlpjokkepaa
