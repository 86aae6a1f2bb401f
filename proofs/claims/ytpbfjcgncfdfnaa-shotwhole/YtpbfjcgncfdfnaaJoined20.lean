/- Joined: The chunks of any snapshot, of any width: both sides, and the walk of the law ShotChunks. What is gathered of chunks: the program's end. What is gathered of chunks: the program's Take. What is gathered of chunks: the document's Take. What is gathered of chunks: the document's Take. What is gathered of chunks: the document's Take. What is gathered of chunks: the document's Take. What is gathered of chunks: the document's Take. What is gathered of chunks: the program's Take, where a piece fits. What is gathered of chunks: the program's Take, where a piece goes on with what was gathered or begins it (shvgen.py). What is gathered of chunks: the program's Take, where a piece goes on with what was gathered or begins it (shvgen.py). What is gathered of chunks: the program's Take, where a piece goes on with what was gathered or begins it (shvgen.py). What is gathered of chunks: the program's Take, where a piece goes on with what was gathered or begins it (shvgen.py). What is gathered of chunks: the program's Take, where a piece goes on with what was gathered or begins it (shvgen.py). What is gathered of chunks: the program's Take, whatever comes. A new gatherer, Take of none, what Take keeps. Chunks in memory. -/
import Derived.Test.YtpbfjcgncfdfnaaJoined19
import Derived.Test.YtpbfjcgncfdfnaaJoined12
import Derived.Test.YtpbfjcgncfdfnaaJoined18
import Derived.Laws.StructEq
import Derived.BigQuiet
import Derived.Deep.QuietTactic
import Derived.Test.YtpbfjcgncfdfnaaJoined06
import Derived.Laws.ResultCell
import Derived.BigRegion
import Derived.Deep.RegionHeld3
import Derived.Deep.RegionLaw
namespace Go.Proofs.Ytpbfjcgncfdfnaa
open Go.RowKit Go.Maps
set_option linter.unusedVariables false
set_option linter.unusedSimpArgs false

/-- what is told of the chunks of a snapshot -/
def chE (s : Sh) (wd : Int) : Int := if chkS s = 0 then (if wd < 1 then 1 else 0) else chkS s
def chN (s : Sh) (wd : Int) : Nat := if chkS s = 0 then (if wd < 1 then 0 else nck (encS s) wd.toNat) else 0
def chL (s : Sh) (wd : Int) : List Ck := cks s (encS s) wd.toNat (chN s wd)
theorem chL_len (s : Sh) (wd : Int) : (chL s wd).length = chN s wd := cks_len _ _ _ _
theorem nil_row5 {w : World} {B e size : Nat} : w.ownsRow B e size (.slice none 0 0) 0 [] := ⟨by simp, .inl ⟨rfl, rfl⟩⟩
theorem nck_le (T : ByteArray) (wd : Nat) (h : 1 ≤ wd) : nck T wd ≤ T.size := by
  unfold nck
  rw [Nat.div_le_iff_le_mul_add_pred (by omega)]
  have : T.size * 1 ≤ wd * T.size := by rw [Nat.mul_comm wd]; exact Nat.mul_le_mul_left _ h
  omega
theorem chN_le (s : Sh) (wd : Int) : chN s wd ≤ (encS s).size := by
  unfold chN
  split
  · split
    · omega
    · exact nck_le _ _ (by omega)
  · omega
set_option maxRecDepth 100000 in
set_option maxHeartbeats 2000000 in
theorem pchunks_any (v : Value) (s : Sh) (wd : Int) (w : World) (hv : IntsI w v s.ms) (hl : s.ms.length ≤ 9223372036854775807) (hw2 : wd ≤ 9223372036854775807) :
    Calls Try.prog 13 #[shV v s, .int .i64 wd] w fun e w' => ∃ u, e = .returned (.tuple #[u, .int .i64 (chE s wd)]) ∧ w'.ownsRow w.heap.size 34 5 u (chN s wd) (cksC (chL s wd)) ∧ Below w.heap.size w w' := by
  unfold chL chE chN
  by_cases hc : chkS s = 0
  · by_cases hw : wd < 1
    · rw [if_pos hc, if_pos hw, if_pos hc, if_pos hw]
      obtain ⟨ad, cap, rfl, -⟩ := hv.form
      have EN : Hid (∀ W, Below w.heap.size w W → Calls Try.prog 23 #[.agg #[.int .i64 s.ix, .int .i64 s.tm, .slice ad s.ms.length cap, .string s.da]] W fun e w' => e = .returned (.tuple #[.string (encS s), .int .i64 0]) ∧ Below W.heap.size W w') := fun W hW => by
        have := encode_any (.slice ad s.ms.length cap) s W (hv.next hW) hl
        rw [hc] at this
        exact this
      have kA := (Below.refl w.heap.size w).alloc (Nat.le_refl _) (.cells #[.int .i64 s.ix, .int .i64 s.tm, .slice ad s.ms.length cap, .string s.da] 30)
      have E1 := hid (EN.out _ kA)
      have HK := hid kA
      have HR0 : Hid (cksC (cks s (encS s) wd.toNat 0) = []) := rfl
      clear hv hl hc EN kA
      unfold shV
      generalize encS s = X at *
      rw [HR0.out]
      clear HR0
      obtain ⟨ix, tm, ms, da⟩ := s
      simp only at *
      generalize ms.length = m at *
      go_enter Try.func13, Try.ntmps13
      go_wp2_with fail
      refine E1.out.mono ?_
      rintro e w2 ⟨rfl, hb2⟩
      have HB := hid (below_on HK.out hb2)
      clear E1 hb2 HK
      go_wp2
      go_ret2
      exact ⟨_, rfl, nil_row5, HB.out⟩
    · rw [if_pos hc, if_neg hw, if_pos hc, if_neg hw]
      obtain ⟨n, rfl⟩ : ∃ n : Nat, wd = (n : Int) := ⟨wd.toNat, by omega⟩
      rw [Int.toNat_natCast]
      exact pchunks_ok v s n w hv hl hc (by omega) (by omega)
  · rw [if_neg hc, if_neg hc]
    generalize hcv : chkS s = c at *
    have hcb : (c != 0) = true := by rw [bne_iff_ne]; exact hc
    obtain ⟨ad, cap, rfl, -⟩ := hv.form
    have EN : Hid (∀ W, Below w.heap.size w W → Calls Try.prog 23 #[.agg #[.int .i64 s.ix, .int .i64 s.tm, .slice ad s.ms.length cap, .string s.da]] W fun e w' => e = .returned (.tuple #[.string (encS s), .int .i64 c]) ∧ Below W.heap.size W w') := fun W hW => by
      have := encode_any (.slice ad s.ms.length cap) s W (hv.next hW) hl
      rw [hcv] at this
      exact this
    have kA := (Below.refl w.heap.size w).alloc (Nat.le_refl _) (.cells #[.int .i64 s.ix, .int .i64 s.tm, .slice ad s.ms.length cap, .string s.da] 30)
    have E1 := hid (EN.out _ kA)
    have HK := hid kA
    have HR0 : Hid (cksC (cks s (encS s) wd.toNat 0) = []) := rfl
    clear hcv
    clear hv hl hc EN kA
    unfold shV
    generalize encS s = X at *
    rw [HR0.out]
    clear HR0
    obtain ⟨ix, tm, ms, da⟩ := s
    simp only at *
    generalize ms.length = m at *
    go_enter Try.func13, Try.ntmps13
    go_wp2_with fail
    refine E1.out.mono ?_
    rintro e w2 ⟨rfl, hb2⟩
    have HB := hid (below_on HK.out hb2)
    clear E1 hb2 HK
    go_wp2
    go_ret2
    exact ⟨_, rfl, nil_row5, HB.out⟩
/-- a chunk's cells in a row -/
theorem cksC_get : ∀ (A : List Ck) (i : Nat) (h : i < A.length) (j : Nat), j < 5 → (cksC A)[i * 5 + j]? = (ckC A[i])[j]?
  | x :: r, 0, _, j, hj => by
    show (ckC x ++ cksC r)[0 * 5 + j]? = _
    rw [List.getElem?_append_left (by simp [ckC]; omega)]
    simp
  | x :: r, i + 1, h, j, hj => by
    show (ckC x ++ cksC r)[(i + 1) * 5 + j]? = _
    rw [List.getElem?_append_right (by simp [ckC]; omega), show (i + 1) * 5 + j - (ckC x).length = i * 5 + j by simp [ckC]; omega]
    exact cksC_get r i (by simpa using h) j hj
theorem guardCk : Try.prog.eqGuardType Try.prog.depth 38 = false := by kernel_rfl
theorem neqCk (a b c : Int) (l : Bool) (X : ByteArray) (W : World) : (binOp .neq 38 (.agg #[.int .i64 a, .int .i64 b, .int .i64 c, .bool l, .string X]) (.agg #[.int .i64 a, .int .i64 b, .int .i64 c, .bool l, .string X])).run Try.prog W = .ok (.bool false) W := by
  have u9 := Try.underlying9
  have u4 := Try.underlying4
  have u3 := Try.underlying3
  have z9 := Try.sizeOf9
  have z4 := Try.sizeOf4
  have z3 := Try.sizeOf3
  have a9 := Try.isAgg9
  have a4 := Try.isAgg4
  have a3 := Try.isAgg3
  have hS : Try.prog.underlying 38 = some (.struct (Try.prog.fieldsOf 38)) := by kernel_rfl
  have hp : Try.prog.stoodInHeld 38 = false := by kernel_rfl
  rw [run_neq_struct, show (10000 : Nat) = 9999 + 1 from rfl, run_equalIn_agg W 9999 38 _ _ hS hp]
  simp only [Program.fieldsOf, Try.underlying38]
  go_simp
theorem wf_le {a : Int} (h : (Lit.int .i64 a).wf = true) : a ≤ 9223372036854775807 := by
  simp [Lit.wf, IntKind.wrap_i64] at h
  omega
end Go.Proofs.Ytpbfjcgncfdfnaa
namespace Go.Proofs.Ytpbfjcgncfdfnaa
open Go.RowKit Go.Maps
set_option linter.unusedVariables false
set_option linter.unusedSimpArgs false

/-- a chunk that comes -/
structure Ch where
  ix : Int
  tm : Int
  at_ : Int
  ls : Bool
  da : ByteArray
/-- what is gathered -/
structure Ga where
  bg : Bool
  ix : Int
  tm : Int
  tx : Bs
def ga0 : Ga := ⟨false, 0, 0, []⟩
/-- the snapshot that was gathered, if it is one -/
def endS (ix tm : Int) (t : Bs) : Sh × Bool := if sdE ⟨t.toArray⟩ = 0 ∧ (sdV ⟨t.toArray⟩).ix = ix ∧ (sdV ⟨t.toArray⟩).tm = tm then (sdV ⟨t.toArray⟩, true) else (sh0, false)
def gaC (v : Value) (g : Ga) : List Value := [.bool g.bg, .int .i64 g.ix, .int .i64 g.tm, v]
theorem bsl_over {S : Nat → Prop} {w w' : World} {v : Value} {T : Bs} (h : BSl w 0 v T) (k : Keep S w w') (hS : ∀ b, v.ownBlock = some b → ¬ S b) : BSl w' 0 v T := by
  rcases h with h0 | ⟨g, cap, rfl, c1, c2, c3, c4, c5⟩
  · exact .inl h0
  · have hn := hS g rfl
    exact .inr ⟨g, cap, rfl, c1, Nat.lt_of_lt_of_le c2 k.size, c3, fun j hj => (k.cell c2 hn).trans (c4 j hj), fun j hj => by
      rw [k.cell c2 hn]
      refine ⟨(c5 j hj).1, ?_⟩
      have := (c5 j hj).2
      unfold World.frozen? at this ⊢
      rw [k.block g c2 hn]
      exact this⟩
/-- the gatherer's cells, set anew -/
theorem gz (w : World) (p : Nat) (v : Value) (g : Ga) (hr : RowIs w p (gaC v g) 50) (b : Bool) (i t : Int) (u : Value) :
    RowIs ((((w.setCell ⟨p, 0, none⟩ (.bool b)).setCell ⟨p, 1, none⟩ (.int .i64 i)).setCell ⟨p, 2, none⟩ (.int .i64 t)).setCell ⟨p, 3, none⟩ u) p [.bool b, .int .i64 i, .int .i64 t, u] 50 ∧ Keep (· = p) w ((((w.setCell ⟨p, 0, none⟩ (.bool b)).setCell ⟨p, 1, none⟩ (.int .i64 i)).setCell ⟨p, 2, none⟩ (.int .i64 t)).setCell ⟨p, 3, none⟩ u) :=
  ⟨(((hr.set 0 (.bool b)).set 1 (.int .i64 i)).set 2 (.int .i64 t)).set 3 u, (((keep_setCell w p 0 (.bool b)).trans (keep_setCell _ p 1 _)).trans (keep_setCell _ p 2 _)).trans (keep_setCell _ p 3 _)⟩
theorem ret_st {fn : Func} {p u : Tmp} {ty : TypeId} (h : fn.results = #[.cell p ty, .tmp u]) (tmps : Array Value) (w : World) (g : Nat) (cs : Array Value) (x : Value)
    (hp : tmps.getD p undef = .pointer (some ⟨g, 0, none⟩)) (hx : tmps.getD u undef = x) (hg : (loadVar ty ⟨g, 0, none⟩).run Try.prog w = .ok (.agg cs) w) :
    (results fn tmps).run Try.prog w = .ok (.tuple #[.agg cs, x]) w := by
  rw [results_cell_tmp h, hp, hx]
  simp [asAddr, hg, Result.andThen]
set_option maxRecDepth 100000 in
set_option maxHeartbeats 4000000 in
theorem gend_any (p : Nat) (v : Value) (g : Ga) (w : World) (hr : RowIs w p (gaC v g) 50) (hb : BSl w 0 v g.tx) (hv : ∀ b, v.ownBlock = some b → b ≠ p) (hz : g.tx.length ≤ 262144) :
    Calls Try.prog 19 #[.pointer (some ⟨p, 0, none⟩)] w fun e w' => ∃ ad cap, e = .returned (.tuple #[shV (.slice ad (endS g.ix g.tm g.tx).1.ms.length cap) (endS g.ix g.tm g.tx).1, .bool (endS g.ix g.tm g.tx).2]) ∧ OwnI w' w.heap.size (.slice ad (endS g.ix g.tm g.tx).1.ms.length cap) (endS g.ix g.tm g.tx).1.ms ∧ RowIs w' p (gaC (.slice none 0 0) ga0) 50 ∧ Keep (· = p) w w' := by
  obtain ⟨ad, cap, rfl⟩ := hb.size
  obtain ⟨hrz, hkz⟩ := gz w p _ g hr false 0 0 (.slice none 0 0)
  have hbz := bsl_over hb hkz (fun b e e2 => hv b e e2)
  obtain ⟨bg, ix, tm, tx⟩ := g
  simp only [gaC] at *
  have c0 := hr.cellAt (o := 0) rfl
  have c1 := hr.cellAt (o := 1) rfl
  have c2 := hr.cellAt (o := 2) rfl
  have c3 := hr.cellAt (o := 3) rfl
  have f0 := hr.frozen (o := 0)
  have f1 := hr.frozen (o := 1)
  have f2 := hr.frozen (o := 2)
  have f3 := hr.frozen (o := 3)
  have hlt := hr.lt
  obtain ⟨wz, hwz⟩ : ∃ wz, wz = ((((w.setCell ⟨p, 0, none⟩ (.bool false)).setCell ⟨p, 1, none⟩ (.int .i64 0)).setCell ⟨p, 2, none⟩ (.int .i64 0)).setCell ⟨p, 3, none⟩ (.slice none 0 0)) := ⟨_, rfl⟩
  rw [← hwz] at hrz hkz hbz
  have hsz : wz.heap.size = w.heap.size := by rw [hwz]; simp [World.setCell]
  have k1 := (keep_alloc (fun _ => False) wz (.cells #[.int .i64 0, .int .i64 0, .slice none 0 0, .string ⟨#[]⟩] 30))
  have hs1 : (wz.alloc (.cells #[.int .i64 0, .int .i64 0, .slice none 0 0, .string ⟨#[]⟩] 30)).heap.size = w.heap.size + 1 := by simp [hsz]
  have hR0 : RowIs (wz.alloc (.cells #[.int .i64 0, .int .i64 0, .slice none 0 0, .string ⟨#[]⟩] 30)) w.heap.size [.int .i64 0, .int .i64 0, .slice none 0 0, .string ⟨#[]⟩] 30 := by rw [← hsz]; exact heap_alloc_new _ _
  obtain ⟨w1, hw1⟩ : ∃ w1, w1 = wz.alloc (.cells #[.int .i64 0, .int .i64 0, .slice none 0 0, .string ⟨#[]⟩] 30) := ⟨_, rfl⟩
  rw [← hw1] at k1 hs1 hR0
  have k2 := (keep_alloc (fun _ => False) w1 (.cells #[.bool bg, .int .i64 ix, .int .i64 tm, .slice ad tx.length cap] 50))
  have hR1 : RowIs (w1.alloc (.cells #[.bool bg, .int .i64 ix, .int .i64 tm, .slice ad tx.length cap] 50)) (w.heap.size + 1) [.bool bg, .int .i64 ix, .int .i64 tm, .slice ad tx.length cap] 50 := by rw [← hs1]; exact heap_alloc_new _ _
  have k12 := k1.trans k2
  have hbc := (bsl_over hbz k12 (fun _ _ h => h)).text
  obtain ⟨T, hT⟩ : ∃ T : ByteArray, T = ⟨tx.toArray⟩ := ⟨_, rfl⟩
  have hTs : T.size = tx.length := by rw [hT]; show tx.toArray.size = _; simp
  have DC := hid (sdecode_any T (w1.alloc (.cells #[.bool bg, .int .i64 ix, .int .i64 tm, .slice ad tx.length cap] 50)) (by omega))
  have HES : Hid (endS ix tm tx = if sdE T = 0 ∧ (sdV T).ix = ix ∧ (sdV T).tm = tm then (sdV T, true) else (sh0, false)) := by show _ = _; rw [hT]; rfl
  rw [← hT] at hbc
  have HRZ := hid (hrz.keep k12 (fun h => h))
  have HR0 := hid (hR0.keep k2 (fun h => h))
  have HR1 := hid hR1
  have HKZ : Hid (Keep (· = p) w (w1.alloc (.cells #[.bool bg, .int .i64 ix, .int .i64 tm, .slice ad tx.length cap] 50))) := hkz.trans (k12.mono (fun _ _ h => h.elim))
  have HPL : Hid (p < w.heap.size) := hlt
  obtain ⟨w2, hw2⟩ : ∃ w2, w2 = w1.alloc (.cells #[.bool bg, .int .i64 ix, .int .i64 tm, .slice ad tx.length cap] 50) := ⟨_, rfl⟩
  rw [← hw2] at hbc DC HRZ HR0 HR1 HKZ
  clear hr hb hv hz hrz hkz hbz hsz k1 hs1 hR0 k2 hR1 k12 hT hTs
  have FIN : Hid (∀ ad3 cap3 w3, OwnI w3 w2.heap.size (.slice ad3 (sdV T).ms.length cap3) (sdV T).ms → Below w2.heap.size w2 w3 → Hid (RowIs (w3.alloc (.cells #[.int .i64 (sdV T).ix, .int .i64 (sdV T).tm, .slice ad3 (sdV T).ms.length cap3, .string (sdV T).da] 30)) w.heap.size [.int .i64 0, .int .i64 0, .slice none 0 0, .string ⟨#[]⟩] 30) ∧ Hid (RowIs (w3.alloc (.cells #[.int .i64 (sdV T).ix, .int .i64 (sdV T).tm, .slice ad3 (sdV T).ms.length cap3, .string (sdV T).da] 30)) (w.heap.size + 1) [.bool bg, .int .i64 ix, .int .i64 tm, .slice ad tx.length cap] 50) ∧ Hid (RowIs (w3.alloc (.cells #[.int .i64 (sdV T).ix, .int .i64 (sdV T).tm, .slice ad3 (sdV T).ms.length cap3, .string (sdV T).da] 30)) p [.bool false, .int .i64 0, .int .i64 0, .slice none 0 0] 50) ∧ Hid (Keep (· = p) w (w3.alloc (.cells #[.int .i64 (sdV T).ix, .int .i64 (sdV T).tm, .slice ad3 (sdV T).ms.length cap3, .string (sdV T).da] 30))) ∧ Hid (OwnI (w3.alloc (.cells #[.int .i64 (sdV T).ix, .int .i64 (sdV T).tm, .slice ad3 (sdV T).ms.length cap3, .string (sdV T).da] 30)) (w.heap.size + 1) (.slice ad3 (sdV T).ms.length cap3) (sdV T).ms)) := fun ad3 cap3 w3 ho hb3 => by
    have k3 := (hb3.keep (fun _ => False)).trans (keep_alloc (fun _ => False) w3 (.cells #[.int .i64 (sdV T).ix, .int .i64 (sdV T).tm, .slice ad3 (sdV T).ms.length cap3, .string (sdV T).da] 30))
    refine ⟨HR0.out.keep k3 (fun h => h), HR1.out.keep k3 (fun h => h), HRZ.out.keep k3 (fun h => h), HKZ.out.trans (k3.mono (fun _ _ h => h.elim)), ?_⟩
    exact ownsRow_base ((keep_alloc (fun _ => False) w3 _).ownsRow ho (fun _ _ h => h)) (Nat.le_of_lt HR1.out.lt)
  have hgv : sdV T = ⟨(sdV T).ix, (sdV T).tm, (sdV T).ms, (sdV T).da⟩ := rfl
  clear HRZ HR0 HR1 HKZ
  rw [hw2, hw1, hwz] at hbc DC FIN
  clear hwz hw1 hw2
  obtain ⟨X, hX⟩ : ∃ X, X = endS ix tm tx := ⟨_, rfl⟩
  have HX : Hid (X = if sdE T = 0 ∧ (sdV T).ix = ix ∧ (sdV T).tm = tm then (sdV T, true) else (sh0, false)) := hX.trans HES.out
  rw [← hX]
  clear hX HES
  unfold shV at *
  go_enter Try.func19, Try.ntmps19
  go_wp2_with fail
  refine DC.out.mono ?_
  rintro e w3 ⟨ad3, cap3, rfl, ho3, hb3⟩
  obtain ⟨R0, R1, RZ, KZ, IZ⟩ := FIN.out ad3 cap3 w3 ho3 hb3
  clear DC FIN hbc c0 c1 c2 c3 f0 f1 f2 f3 hlt ho3 hb3
  have d1 := R1.out.cellAt (o := 1) rfl
  have d2 := R1.out.cellAt (o := 2) rfl
  have r0 := R0.out.cellAt (o := 0) rfl
  have r1 := R0.out.cellAt (o := 1) rfl
  have r2 := R0.out.cellAt (o := 2) rfl
  have r3 := R0.out.cellAt (o := 3) rfl
  have g0 := R0.out.frozen (o := 0)
  have g1 := R0.out.frozen (o := 1)
  have g2 := R0.out.frozen (o := 2)
  have g3 := R0.out.frozen (o := 3)
  have HMS : Hid ((sdV T).ms = (sdV T).ms) := rfl
  generalize hS : sdV T = S at *
  obtain ⟨si, st, sm, sd⟩ := S
  simp only at *
  generalize hml : sm.length = ml at *
  have HML := hid hml
  clear hml hS HMS
  have FZ : Hid (∀ (a b : Int) (v : Value) (x : ByteArray), RowIs (((((w3.alloc (.cells #[.int .i64 si, .int .i64 st, .slice ad3 ml cap3, .string sd] 30)).setCell ⟨w.heap.size, 0, none⟩ (.int .i64 a)).setCell ⟨w.heap.size, 1, none⟩ (.int .i64 b)).setCell ⟨w.heap.size, 2, none⟩ v).setCell ⟨w.heap.size, 3, none⟩ (.string x)) w.heap.size [.int .i64 a, .int .i64 b, v, .string x] 30 ∧ RowIs (((((w3.alloc (.cells #[.int .i64 si, .int .i64 st, .slice ad3 ml cap3, .string sd] 30)).setCell ⟨w.heap.size, 0, none⟩ (.int .i64 a)).setCell ⟨w.heap.size, 1, none⟩ (.int .i64 b)).setCell ⟨w.heap.size, 2, none⟩ v).setCell ⟨w.heap.size, 3, none⟩ (.string x)) p [.bool false, .int .i64 0, .int .i64 0, .slice none 0 0] 50 ∧ Keep (· = p) w (((((w3.alloc (.cells #[.int .i64 si, .int .i64 st, .slice ad3 ml cap3, .string sd] 30)).setCell ⟨w.heap.size, 0, none⟩ (.int .i64 a)).setCell ⟨w.heap.size, 1, none⟩ (.int .i64 b)).setCell ⟨w.heap.size, 2, none⟩ v).setCell ⟨w.heap.size, 3, none⟩ (.string x)) ∧ OwnI (((((w3.alloc (.cells #[.int .i64 si, .int .i64 st, .slice ad3 ml cap3, .string sd] 30)).setCell ⟨w.heap.size, 0, none⟩ (.int .i64 a)).setCell ⟨w.heap.size, 1, none⟩ (.int .i64 b)).setCell ⟨w.heap.size, 2, none⟩ v).setCell ⟨w.heap.size, 3, none⟩ (.string x)) (w.heap.size + 1) (.slice ad3 ml cap3) sm) := fun a b v x => by
    have kk := (((keep_setCell (w3.alloc (.cells #[.int .i64 si, .int .i64 st, .slice ad3 ml cap3, .string sd] 30)) w.heap.size 0 (.int .i64 a)).trans (keep_setCell _ w.heap.size 1 (.int .i64 b))).trans (keep_setCell _ w.heap.size 2 v)).trans (keep_setCell _ w.heap.size 3 (.string x))
    have hp := HPL.out
    exact ⟨(((R0.out.set 0 (.int .i64 a)).set 1 (.int .i64 b)).set 2 v).set 3 (.string x), RZ.out.keep kk (fun e => by omega), KZ.out.then kk (fun j hj e => by omega), kk.ownsRow IZ.out (fun g hg e => by have := ownsRow_ge IZ.out hg; omega)⟩
  clear R0 R1 RZ KZ IZ HPL
  generalize sdE T = er at *
  by_cases he : er = 0
  · subst he
    by_cases hi : si = ix
    · have hi2 : (si != ix) = false := by simp [hi]
      by_cases ht : st = tm
      · have ht2 : (st != tm) = false := by simp [ht]
        have HC : Hid (X = (⟨si, st, sm, sd⟩, true)) := HX.out.trans (if_pos ⟨rfl, hi, ht⟩)
        clear hi ht HX
        obtain ⟨hrf, hrp, hkf, hof⟩ := FZ.out si st (.slice ad3 ml cap3) sd
        have HRF := hid hrf
        have HRP := hid hrp
        have HKF := hid hkf
        have HOF := hid hof
        clear hrf hrp hkf hof FZ
        go_wp2
        refine bodyPost_ret (v := .tuple #[.agg #[.int .i64 si, .int .i64 st, (.slice ad3 ml cap3), .string sd], .bool true]) (ret_st (p := 2) (u := 3) rfl _ _ w.heap.size _ _ rfl rfl (run_loadVar_row _ _ _ _ _ _ _ HRF.out Try.underlying30 rfl (by kernel_rfl))) rfl ?_
        have hml := HML.out
        subst hml
        rw [HC.out]
        exact ⟨ad3, cap3, rfl, ownsRow_base HOF.out (Nat.le_succ _), HRP.out, HKF.out⟩
      · have ht2 : (st != tm) = true := by rw [bne_iff_ne]; exact ht
        have HC : Hid (X = (sh0, false)) := HX.out.trans <| if_neg (fun h => ht h.2.2)
        clear hi ht HX
        obtain ⟨hrf, hrp, hkf, hof⟩ := FZ.out 0 0 (.slice none 0 0) ⟨#[]⟩
        have HRF := hid hrf
        have HRP := hid hrp
        have HKF := hid hkf
        have HOF := hid hof
        clear hrf hrp hkf hof FZ
        go_wp2
        refine bodyPost_ret (v := .tuple #[.agg #[.int .i64 0, .int .i64 0, (.slice none 0 0), .string ⟨#[]⟩], .bool false]) (ret_st (p := 2) (u := 3) rfl _ _ w.heap.size _ _ rfl rfl (run_loadVar_row _ _ _ _ _ _ _ HRF.out Try.underlying30 rfl (by kernel_rfl))) rfl ?_
        rw [HC.out]
        exact ⟨none, 0, rfl, ownI_nil _ _, HRP.out, HKF.out⟩
    · have hi2 : (si != ix) = true := by rw [bne_iff_ne]; exact hi
      have HC : Hid (X = (sh0, false)) := HX.out.trans <| if_neg (fun h => hi h.2.1)
      clear hi HX
      obtain ⟨hrf, hrp, hkf, hof⟩ := FZ.out 0 0 (.slice none 0 0) ⟨#[]⟩
      have HRF := hid hrf
      have HRP := hid hrp
      have HKF := hid hkf
      have HOF := hid hof
      clear hrf hrp hkf hof FZ
      go_wp2
      refine bodyPost_ret (v := .tuple #[.agg #[.int .i64 0, .int .i64 0, (.slice none 0 0), .string ⟨#[]⟩], .bool false]) (ret_st (p := 2) (u := 3) rfl _ _ w.heap.size _ _ rfl rfl (run_loadVar_row _ _ _ _ _ _ _ HRF.out Try.underlying30 rfl (by kernel_rfl))) rfl ?_
      rw [HC.out]
      exact ⟨none, 0, rfl, ownI_nil _ _, HRP.out, HKF.out⟩
  · have he2 : (er != 0) = true := by rw [bne_iff_ne]; exact he
    have HC : Hid (X = (sh0, false)) := HX.out.trans <| if_neg (fun h => he h.1)
    clear he HX
    obtain ⟨hrf, hrp, hkf, hof⟩ := FZ.out 0 0 (.slice none 0 0) ⟨#[]⟩
    have HRF := hid hrf
    have HRP := hid hrp
    have HKF := hid hkf
    have HOF := hid hof
    clear hrf hrp hkf hof FZ
    go_wp2
    refine bodyPost_ret (v := .tuple #[.agg #[.int .i64 0, .int .i64 0, (.slice none 0 0), .string ⟨#[]⟩], .bool false]) (ret_st (p := 2) (u := 3) rfl _ _ w.heap.size _ _ rfl rfl (run_loadVar_row _ _ _ _ _ _ _ HRF.out Try.underlying30 rfl (by kernel_rfl))) rfl ?_
    rw [HC.out]
    exact ⟨none, 0, rfl, ownI_nil _ _, HRP.out, HKF.out⟩
end Go.Proofs.Ytpbfjcgncfdfnaa
namespace Go.Proofs.Ytpbfjcgncfdfnaa
open Go.RowKit Go.Maps
set_option linter.unusedVariables false
set_option linter.unusedSimpArgs false

def ga1 (g : Ga) (c : Ch) : Ga := if c.at_ = 0 then ⟨true, c.ix, c.tm, []⟩ else g
/-- what Take leaves, the snapshot, and the place that is wanted -/
def takeG (g : Ga) (c : Ch) : Ga × (Sh × Bool) × Int :=
  if ((ga1 g c).bg = true ∧ c.ix = (ga1 g c).ix ∧ c.tm = (ga1 g c).tm) then
    if c.at_ = (ga1 g c).tx.length then
      if (ga1 g c).tx.length + c.da.size ≤ 262144 then
        if c.ls = true then (ga0, endS (ga1 g c).ix (ga1 g c).tm ((ga1 g c).tx ++ c.da.data.toList), 0)
        else (⟨true, (ga1 g c).ix, (ga1 g c).tm, (ga1 g c).tx ++ c.da.data.toList⟩, (sh0, false), ((ga1 g c).tx ++ c.da.data.toList).length)
      else (ga0, (sh0, false), 0)
    else (ga1 g c, (sh0, false), (ga1 g c).tx.length)
  else (ga1 g c, (sh0, false), 0)
theorem results_ctt {fn : Func} {p u u2 : Tmp} {ty : TypeId} (h : fn.results = #[.cell p ty, .tmp u, .tmp u2]) (tmps : Array Value) (P : Program) (w : World) :
    (results fn tmps).run P w =
      ((asAddr (tmps.getD p undef)).run P w).andThen fun a w₁ => ((loadVar ty a).run P w₁).andThen fun v w₂ => .ok (.tuple #[v, tmps.getD u undef, tmps.getD u2 undef]) w₂ := by
  simp only [results, h]
  simp [Sem.run_bind, Result.andThen]
theorem ret_st3 {fn : Func} {p u u2 : Tmp} {ty : TypeId} (h : fn.results = #[.cell p ty, .tmp u, .tmp u2]) (tmps : Array Value) (w : World) (g : Nat) (cs : Array Value) (x y : Value)
    (hp : tmps.getD p undef = .pointer (some ⟨g, 0, none⟩)) (hx : tmps.getD u undef = x) (hy : tmps.getD u2 undef = y) (hg : (loadVar ty ⟨g, 0, none⟩).run Try.prog w = .ok (.agg cs) w) :
    (results fn tmps).run Try.prog w = .ok (.tuple #[.agg cs, x, y]) w := by
  rw [results_ctt h, hp, hx, hy]
  simp [asAddr, hg, Result.andThen]
/-- what Take leaves in memory -/
def Took (p : Nat) (v : Value) (R : Ga × (Sh × Bool) × Int) (w : World) (e : Ending) (w' : World) : Prop :=
  ∃ ad cap v', e = .returned (.tuple #[shV (.slice ad R.2.1.1.ms.length cap) R.2.1.1, .bool R.2.1.2, .int .i64 R.2.2]) ∧ (IntsI w' (.slice ad R.2.1.1.ms.length cap) R.2.1.1.ms ∧ ∀ bb oo, ad = some ⟨bb, oo, none⟩ → w.heap.size ≤ bb) ∧ RowIs w' p (gaC v' R.1) 50 ∧ BSl w' 0 v' R.1.tx ∧
    (∀ b, v'.ownBlock = some b → v.ownBlock = some b ∨ w.heap.size ≤ b) ∧ Keep (fun k => k = p ∨ v.ownBlock = some k) w w'
theorem took0 {p : Nat} {v v' : Value} {g' : Ga} {n : Int} {w w' : World} (hr : RowIs w' p (gaC v' g') 50) (hb : BSl w' 0 v' g'.tx) (ho : ∀ b, v'.ownBlock = some b → v.ownBlock = some b ∨ w.heap.size ≤ b) (hk : Keep (fun k => k = p ∨ v.ownBlock = some k) w w') :
    Took p v (g', (sh0, false), n) w (.returned (.tuple #[.agg #[.int .i64 0, .int .i64 0, .slice none 0 0, .string ⟨#[]⟩], .bool false, .int .i64 n])) w' :=
  ⟨none, 0, v', rfl, ⟨ints_none _, fun _ _ e => nomatch e⟩, hr, hb, ho, hk⟩
theorem tookU {w W : World} {C S : Obj} {p : Nat} {v : Value} {g : Ga} {n : Int} (hr : RowIs w p (gaC v g) 50) (hb : BSl w 0 v g.tx) (hk : Keep (fun _ => False) ((w.alloc C).alloc S) W) :
    Took p v (g, (sh0, false), n) w (.returned (.tuple #[.agg #[.int .i64 0, .int .i64 0, .slice none 0 0, .string ⟨#[]⟩], .bool false, .int .i64 n])) W := by
  have k := ((keep_alloc (fun _ => False) w C).trans (keep_alloc _ _ S)).trans hk
  exact took0 (hr.keep k (fun h => h)) (bsl_over hb k (fun _ _ h => h)) (fun b e => .inl e) (k.mono (fun _ _ h => h.elim))
theorem boxU {w W : World} {C : Obj} (hk : Keep (fun _ => False) ((w.alloc C).alloc (.cells #[.int .i64 0, .int .i64 0, .slice none 0 0, .string ⟨#[]⟩] 30)) W) :
    RowIs W (w.heap.size + 1) [.int .i64 0, .int .i64 0, .slice none 0 0, .string ⟨#[]⟩] 30 := by
  have h := heap_alloc_new (w.alloc C) (.cells #[.int .i64 0, .int .i64 0, .slice none 0 0, .string ⟨#[]⟩] 30)
  rw [show (w.alloc C).heap.size = w.heap.size + 1 by simp] at h
  exact RowIs.keep h hk (fun h => h)
set_option maxRecDepth 100000 in
set_option maxHeartbeats 4000000 in
theorem take_far (p : Nat) (v : Value) (g : Ga) (c : Ch) (w : World) (hr : RowIs w p (gaC v g) 50) (hb : BSl w 0 v g.tx) (hz : g.tx.length ≤ 262144) (h0 : c.at_ ≠ 0) (hf : ¬ (g.bg = true ∧ c.ix = g.ix ∧ c.tm = g.tm ∧ c.at_ = g.tx.length)) :
    Calls Try.prog 7 #[.pointer (some ⟨p, 0, none⟩), .agg #[.int .i64 c.ix, .int .i64 c.tm, .int .i64 c.at_, .bool c.ls, .string c.da]] w fun e w' => Took p v (g, (sh0, false), if g.bg = true ∧ c.ix = g.ix ∧ c.tm = g.tm then g.tx.length else 0) w e w' := by
  obtain ⟨ad, cap, rfl⟩ := hb.size
  have TU := hid (fun (n : Int) (W : World) (hk : Keep (fun _ => False) ((w.alloc (.cells #[.int .i64 c.ix, .int .i64 c.tm, .int .i64 c.at_, .bool c.ls, .string c.da] 34)).alloc (.cells #[.int .i64 0, .int .i64 0, .slice none 0 0, .string ⟨#[]⟩] 30)) W) => And.intro (tookU (n := n) hr hb hk) (boxU hk))
  obtain ⟨bg, ix, tm, tx⟩ := g
  obtain ⟨ci, ct, ca, cl, cd⟩ := c
  simp only [gaC] at *
  have h02 : (ca == 0) = false := by simpa using h0
  have c0 := hr.cellAt (o := 0) rfl
  have c1 := hr.cellAt (o := 1) rfl
  have c2 := hr.cellAt (o := 2) rfl
  have c3 := hr.cellAt (o := 3) rfl
  have hlt := hr.lt
  have HF := hid hf
  obtain ⟨n, hn⟩ : ∃ n : Int, n = if bg = true ∧ ci = ix ∧ ct = tm then (tx.length : Int) else 0 := ⟨_, rfl⟩
  rw [← hn]
  have HN := hid hn
  clear hn hf hr hb h0
  generalize hl : tx.length = L at *
  clear hl
  cases hbg : bg
  · have hn : n = 0 := HN.out.trans (if_neg (fun h => by simp [hbg] at h))
    subst hn
    clear HN HF
    subst hbg
    go_enter Try.func7, Try.ntmps7
    go_wp2
    repeat (go_region; go_wp2)
    refine bodyPost_ret (ret_st3 (p := 4) (u := 5) (u2 := 6) rfl _ _ (w.heap.size + 1) _ _ _ rfl rfl rfl (run_loadVar_row _ _ _ _ _ _ _ (TU.out 0 _ ?_).2 Try.underlying30 rfl (by kernel_rfl))) rfl (TU.out 0 _ ?_).1 <;> first | exact keep_drew _ _ | exact (keep_drew _ _).trans (keep_drew _ _) | exact ((keep_drew _ _).trans (keep_drew _ _)).trans (keep_drew _ _)
  · subst hbg
    by_cases hi : ci = ix
    · have hi2 : (ci != ix) = false := by simp [hi]
      by_cases ht : ct = tm
      · have ht2 : (ct != tm) = false := by simp [ht]
        have hn : n = (L : Int) := HN.out.trans (if_pos ⟨rfl, hi, ht⟩)
        have ha : (ca != (L : Int)) = true := by rw [bne_iff_ne]; exact fun e => HF.out ⟨rfl, hi, ht, e⟩
        subst hn
        clear HN HF hi ht
        go_enter Try.func7, Try.ntmps7
        go_wp2
        repeat (go_region; go_wp2)
        refine bodyPost_ret (ret_st3 (p := 4) (u := 5) (u2 := 6) rfl _ _ (w.heap.size + 1) _ _ _ rfl rfl rfl (run_loadVar_row _ _ _ _ _ _ _ (TU.out L _ ?_).2 Try.underlying30 rfl (by kernel_rfl))) rfl (TU.out L _ ?_).1 <;> first | exact keep_drew _ _ | exact (keep_drew _ _).trans (keep_drew _ _) | exact ((keep_drew _ _).trans (keep_drew _ _)).trans (keep_drew _ _)
      · have ht2 : (ct != tm) = true := by rw [bne_iff_ne]; exact ht
        have hn : n = 0 := HN.out.trans (if_neg (fun h => ht h.2.2))
        subst hn
        clear HN HF hi ht
        go_enter Try.func7, Try.ntmps7
        go_wp2
        repeat (go_region; go_wp2)
        refine bodyPost_ret (ret_st3 (p := 4) (u := 5) (u2 := 6) rfl _ _ (w.heap.size + 1) _ _ _ rfl rfl rfl (run_loadVar_row _ _ _ _ _ _ _ (TU.out 0 _ ?_).2 Try.underlying30 rfl (by kernel_rfl))) rfl (TU.out 0 _ ?_).1 <;> first | exact keep_drew _ _ | exact (keep_drew _ _).trans (keep_drew _ _) | exact ((keep_drew _ _).trans (keep_drew _ _)).trans (keep_drew _ _)
    · have hi2 : (ci != ix) = true := by rw [bne_iff_ne]; exact hi
      have hn : n = 0 := HN.out.trans (if_neg (fun h => hi h.2.1))
      subst hn
      clear HN HF hi
      go_enter Try.func7, Try.ntmps7
      go_wp2
      repeat (go_region; go_wp2)
      refine bodyPost_ret (ret_st3 (p := 4) (u := 5) (u2 := 6) rfl _ _ (w.heap.size + 1) _ _ _ rfl rfl rfl (run_loadVar_row _ _ _ _ _ _ _ (TU.out 0 _ ?_).2 Try.underlying30 rfl (by kernel_rfl))) rfl (TU.out 0 _ ?_).1 <;> first | exact keep_drew _ _ | exact (keep_drew _ _).trans (keep_drew _ _) | exact ((keep_drew _ _).trans (keep_drew _ _)).trans (keep_drew _ _)
end Go.Proofs.Ytpbfjcgncfdfnaa
namespace Go.Proofs.Ytpbfjcgncfdfnaa
open Go.RowKit Go.Maps
set_option linter.unusedVariables false
set_option linter.unusedSimpArgs false

def gaV (g : Ga) : Value := .agg #[.bool g.bg, .int .i64 g.ix, .int .i64 g.tm, .string ⟨g.tx.toArray⟩]
def gcV (c : Ch) : Value := .agg #[.int .i64 c.ix, .int .i64 c.tm, .int .i64 c.at_, .bool c.ls, .string c.da]
theorem ret_cctt {fn : Func} {p u a b : Tmp} {ty tu : TypeId} (h : fn.results = #[.cell p ty, .cell u tu, .tmp a, .tmp b]) (tmps : Array Value) (w : World) (g1 g2 : Nat) (x y : Value)
    (hp : tmps.getD p undef = .pointer (some ⟨g1, 0, none⟩)) (hu : tmps.getD u undef = .pointer (some ⟨g2, 0, none⟩)) (h1 : (loadVar ty ⟨g1, 0, none⟩).run Try.prog w = .ok x w) (h2 : (loadVar tu ⟨g2, 0, none⟩).run Try.prog w = .ok y w) :
    (results fn tmps).run Try.prog w = .ok (.tuple #[x, y, tmps.getD a undef, tmps.getD b undef]) w := by
  have hp' : tmps[p]?.getD undef = .pointer (some ⟨g1, 0, none⟩) := by simpa using hp
  have hu' : tmps[u]?.getD undef = .pointer (some ⟨g2, 0, none⟩) := by simpa using hu
  simp only [results, h]
  simp [Sem.run_bind, Result.andThen, asAddr, hp', hu', h1, h2]
theorem ld_ga {w : World} {g : Nat} {b : Bool} {i t : Int} {s : ByteArray} (h : RowIs w g [.bool b, .int .i64 i, .int .i64 t, .string s] 26) : (loadVar 26 ⟨g, 0, none⟩).run Try.prog w = .ok (.agg #[.bool b, .int .i64 i, .int .i64 t, .string s]) w := by
  have c0 := h.cellAt (o := 0) rfl
  have c1 := h.cellAt (o := 1) rfl
  have c2 := h.cellAt (o := 2) rfl
  have c3 := h.cellAt (o := 3) rfl
  go_simp
theorem ld_sh {w : World} {g : Nat} {i t : Int} {ad : Option Addr} {n cap : Nat} {s : ByteArray} (h : RowIs w g [.int .i64 i, .int .i64 t, .slice ad n cap, .string s] 35) : (loadVar 35 ⟨g, 0, none⟩).run Try.prog w = .ok (.agg #[.int .i64 i, .int .i64 t, .slice ad n cap, .string s]) w := by
  have c0 := h.cellAt (o := 0) rfl
  have c1 := h.cellAt (o := 1) rfl
  have c2 := h.cellAt (o := 2) rfl
  have c3 := h.cellAt (o := 3) rfl
  go_simp
theorem addS (a : List UInt8) (b : ByteArray) (W : World) (h : a.length + b.size ≤ 1073741824) : (Op.stringOp .add ⟨a.toArray⟩ b).run Try.prog W = .ok (.string ⟨(a ++ b.data.toList).toArray⟩) W := by
  have e : (⟨(a ++ b.data.toList).toArray⟩ : ByteArray) = ⟨a.toArray⟩ ++ b := by
    apply ByteArray.ext
    simp [ByteArray.data_append]
  rw [e]
  exact run_string_add_sum (P := Try.prog) (w := W) _ _ (by show a.toArray.size + b.size ≤ _; simp; omega)
/-- what the document's Take gives -/
def TookR (R : Ga × (Sh × Bool) × Int) (w : World) (e : Ending) (w' : World) : Prop :=
  ∃ ad cap, e = .returned (.tuple #[gaV R.1, shV (.slice ad R.2.1.1.ms.length cap) R.2.1.1, .bool R.2.1.2, .int .i64 R.2.2]) ∧ IntsI w' (.slice ad R.2.1.1.ms.length cap) R.2.1.1.ms ∧ Below w.heap.size w w' ∧ ∀ bb oo, ad = some ⟨bb, oo, none⟩ → w.heap.size ≤ bb
/-- the four boxes of Take -/
structure RtX (w : World) (g : Ga) (c : Ch) (g4 : Ga) (W : World) : Prop where
  r2 : RowIs W w.heap.size [.bool g.bg, .int .i64 g.ix, .int .i64 g.tm, .string ⟨g.tx.toArray⟩] 26
  r3 : RowIs W (w.heap.size + 1) [.int .i64 c.ix, .int .i64 c.tm, .int .i64 c.at_, .bool c.ls, .string c.da] 38
  r4 : RowIs W (w.heap.size + 2) [.bool g4.bg, .int .i64 g4.ix, .int .i64 g4.tm, .string ⟨g4.tx.toArray⟩] 26
  r5 : RowIs W (w.heap.size + 3) [.int .i64 0, .int .i64 0, .slice none 0 0, .string ⟨#[]⟩] 35
  b : Below w.heap.size w W
theorem RtX.next {w W W' : World} {g g4 : Ga} {c : Ch} (h : RtX w g c g4 W) (hb : Below W.heap.size W W') : RtX w g c g4 W' := by
  have k := hb.keep (fun _ => False)
  exact ⟨h.r2.keep k (fun h => h), h.r3.keep k (fun h => h), h.r4.keep k (fun h => h), h.r5.keep k (fun h => h), below_on h.b hb⟩
theorem rtx_made (w : World) (g : Ga) (c : Ch) (g4 : Ga) : RtX w g c g4 ((((w.alloc (.cells #[.bool g.bg, .int .i64 g.ix, .int .i64 g.tm, .string ⟨g.tx.toArray⟩] 26)).alloc (.cells #[.int .i64 c.ix, .int .i64 c.tm, .int .i64 c.at_, .bool c.ls, .string c.da] 38)).alloc (.cells #[.bool g4.bg, .int .i64 g4.ix, .int .i64 g4.tm, .string ⟨g4.tx.toArray⟩] 26)).alloc (.cells #[.int .i64 0, .int .i64 0, .slice none 0 0, .string ⟨#[]⟩] 35)) :=
  ⟨row_old (row_old (row_old (srow w _ _) _) _) _, row_old (row_old (row_last _ _ _ _ (by simp)) _) _, row_old (row_last _ _ _ _ (by simp)) _, row_last _ _ _ _ (by simp), below_al (below_al (below_al (below_al (Below.refl _ _) _) _) _) _⟩
/-- Take answers no snapshot -/
theorem tookR0 {w W : World} {g g4 : Ga} {c : Ch} {n : Int} (h : RtX w g c g4 W) {fn : Func} {a b : Tmp} (hf : fn.results = #[.cell 4 26, .cell 5 35, .tmp a, .tmp b]) (tmps : Array Value) (h4 : tmps.getD 4 undef = .pointer (some ⟨w.heap.size + 2, 0, none⟩)) (h5 : tmps.getD 5 undef = .pointer (some ⟨w.heap.size + 3, 0, none⟩)) (ha : tmps.getD a undef = .bool false) (hb : tmps.getD b undef = .int .i64 n) :
    ∃ v, (results fn tmps).run Try.prog W = .ok v W ∧ TookR (g4, (sh0, false), n) w (.returned v) W := by
  refine ⟨_, ret_cctt hf tmps W (w.heap.size + 2) (w.heap.size + 3) _ _ h4 h5 (ld_ga h.r4) (ld_sh h.r5), ?_⟩
  rw [ha, hb]
  exact ⟨none, 0, rfl, ints_none _, h.b, fun _ _ h => by cases h⟩
theorem retR0 {w W : World} {g g4 : Ga} {c : Ch} {n : Int} (h : RtX w g c g4 W) {fn : Func} {a b : Tmp} (hf : fn.results = #[.cell 4 26, .cell 5 35, .tmp a, .tmp b]) (tmps : Array Value) (h4 : tmps.getD 4 undef = .pointer (some ⟨w.heap.size + 2, 0, none⟩)) (h5 : tmps.getD 5 undef = .pointer (some ⟨w.heap.size + 3, 0, none⟩)) (ha : tmps.getD a undef = .bool false) (hb : tmps.getD b undef = .int .i64 n) :
    bodyPost Try.prog fn (TookR (g4, (sh0, false), n) w) Exit.ret { tmps := tmps, defers := [] } W := by
  obtain ⟨v, hr, hT⟩ := tookR0 h hf tmps h4 h5 ha hb
  exact bodyPost_ret hr rfl hT
end Go.Proofs.Ytpbfjcgncfdfnaa
namespace Go.Proofs.Ytpbfjcgncfdfnaa
open Go.RowKit Go.Maps
set_option linter.unusedVariables false
set_option linter.unusedSimpArgs false

/-- the two results' boxes stored anew -/
def pt8 (w W : World) (x : Sh) (v : Value) : World := ((((((((W.setCell ⟨w.heap.size + 2, 0, none⟩ (.bool false)).setCell ⟨w.heap.size + 2, 1, none⟩ (.int .i64 0)).setCell ⟨w.heap.size + 2, 2, none⟩ (.int .i64 0)).setCell ⟨w.heap.size + 2, 3, none⟩ (.string ⟨#[]⟩)).setCell ⟨w.heap.size + 3, 0, none⟩ (.int .i64 x.ix)).setCell ⟨w.heap.size + 3, 1, none⟩ (.int .i64 x.tm)).setCell ⟨w.heap.size + 3, 2, none⟩ v).setCell ⟨w.heap.size + 3, 3, none⟩ (.string x.da))
theorem pt8_row {w W : World} {g g4 : Ga} {c : Ch} (h : RtX w g c g4 W) (x : Sh) (v : Value) : RowIs (pt8 w W x v) (w.heap.size + 2) [.bool false, .int .i64 0, .int .i64 0, .string ⟨#[]⟩] 26 ∧ RowIs (pt8 w W x v) (w.heap.size + 3) [.int .i64 x.ix, .int .i64 x.tm, v, .string x.da] 35 ∧ Below w.heap.size w (pt8 w W x v) ∧ Keep (fun k => k = w.heap.size + 2 ∨ k = w.heap.size + 3) W (pt8 w W x v) := by
  have k2 : ∀ (A : World) (o : Nat) (u : Value), Keep (fun k => k = w.heap.size + 2 ∨ k = w.heap.size + 3) A (A.setCell ⟨w.heap.size + 2, o, none⟩ u) := fun A o u => (keep_setCell A (w.heap.size + 2) o u).mono (fun _ _ h => .inl h)
  have k3 : ∀ (A : World) (o : Nat) (u : Value), Keep (fun k => k = w.heap.size + 2 ∨ k = w.heap.size + 3) A (A.setCell ⟨w.heap.size + 3, o, none⟩ u) := fun A o u => (keep_setCell A (w.heap.size + 3) o u).mono (fun _ _ h => .inr h)
  have a4 := (((h.r4.set 0 (.bool false)).set 1 (.int .i64 0)).set 2 (.int .i64 0)).set 3 (.string ⟨#[]⟩)
  have q4 := (((a4.keep (keep_setCell _ (w.heap.size + 3) 0 (.int .i64 x.ix)) (by omega)).keep (keep_setCell _ (w.heap.size + 3) 1 (.int .i64 x.tm)) (by omega)).keep (keep_setCell _ (w.heap.size + 3) 2 v) (by omega)).keep (keep_setCell _ (w.heap.size + 3) 3 (.string x.da)) (by omega)
  have a5 := (((h.r5.keep (keep_setCell _ (w.heap.size + 2) 0 (.bool false)) (by omega)).keep (keep_setCell _ (w.heap.size + 2) 1 (.int .i64 0)) (by omega)).keep (keep_setCell _ (w.heap.size + 2) 2 (.int .i64 0)) (by omega)).keep (keep_setCell _ (w.heap.size + 2) 3 (.string ⟨#[]⟩)) (by omega)
  have q5 := (((a5.set 0 (.int .i64 x.ix)).set 1 (.int .i64 x.tm)).set 2 v).set 3 (.string x.da)
  have kk : Keep (fun k => k = w.heap.size + 2 ∨ k = w.heap.size + 3) W (pt8 w W x v) := by
    unfold pt8
    refine Keep.trans ?_ (k3 _ 3 _)
    refine Keep.trans ?_ (k3 _ 2 _)
    refine Keep.trans ?_ (k3 _ 1 _)
    refine Keep.trans ?_ (k3 _ 0 _)
    refine Keep.trans ?_ (k2 _ 3 _)
    refine Keep.trans ?_ (k2 _ 2 _)
    refine Keep.trans ?_ (k2 _ 1 _)
    exact k2 _ 0 _
  have kb : Below w.heap.size w (pt8 w W x v) := h.b.trans (keep_below kk (fun j hj e => by omega) h.b.size)
  refine ⟨?_, ?_, kb, kk⟩
  · unfold pt8; exact q4
  · unfold pt8; exact q5
theorem retR8 {w W : World} {g g4 : Ga} {c : Ch} (h : RtX w g c g4 W) (x : Sh) (ad : Option Addr) (cap : Nat) (is : Bool) (hI : IntsI W (.slice ad x.ms.length cap) x.ms) (hN : ∀ bb oo, ad = some ⟨bb, oo, none⟩ → w.heap.size + 3 < bb) {fn : Func} {a b : Tmp} (hf : fn.results = #[.cell 4 26, .cell 5 35, .tmp a, .tmp b]) (tmps : Array Value) (h4 : tmps.getD 4 undef = .pointer (some ⟨w.heap.size + 2, 0, none⟩)) (h5 : tmps.getD 5 undef = .pointer (some ⟨w.heap.size + 3, 0, none⟩)) (ha : tmps.getD a undef = .bool is) (hb : tmps.getD b undef = .int .i64 0) :
    bodyPost Try.prog fn (TookR (ga0, (x, is), 0) w) Exit.ret { tmps := tmps, defers := [] } (pt8 w W x (.slice ad x.ms.length cap)) := by
  obtain ⟨q4, q5, q6, q7⟩ := pt8_row h x (.slice ad x.ms.length cap)
  refine bodyPost_ret (ret_cctt hf tmps _ (w.heap.size + 2) (w.heap.size + 3) _ _ h4 h5 (ld_ga q4) (ld_sh q5)) rfl ?_
  rw [ha, hb]
  refine ⟨ad, cap, rfl, ?_, q6, fun bb oo e => by have := hN bb oo e; omega⟩
  rcases hI with hI | ⟨g1, off, cp, e, hg, hc⟩
  · exact .inl hI
  · have e0 := e
    refine .inr ⟨g1, off, cp, e0, Nat.lt_of_lt_of_le hg q7.size, fun j hj => ?_⟩
    simp only [Value.slice.injEq] at e
    have := hN g1 off e.1
    rw [q7.cell hg (by omega)]
    exact hc j hj
theorem retR8d {w W : World} {g g4 : Ga} {c : Ch} (h : RtX w g c g4 W) (x : Sh) (ad : Option Addr) (cap : Nat) (is : Bool) (hI : IntsI W (.slice ad x.ms.length cap) x.ms) (hN : ∀ bb oo, ad = some ⟨bb, oo, none⟩ → w.heap.size + 3 < bb) {fn : Func} {a b : Tmp} (hf : fn.results = #[.cell 4 26, .cell 5 35, .tmp a, .tmp b]) (tmps : Array Value) (h4 : tmps.getD 4 undef = .pointer (some ⟨w.heap.size + 2, 0, none⟩)) (h5 : tmps.getD 5 undef = .pointer (some ⟨w.heap.size + 3, 0, none⟩)) (ha : tmps.getD a undef = .bool is) (hb : tmps.getD b undef = .int .i64 0) :
    bodyPost Try.prog fn (TookR (ga0, (x, is), 0) w) Exit.ret { tmps := tmps, defers := [] } (pt8 w W x (.slice ad x.ms.length cap)).drew := by
  obtain ⟨p4, p5, p6, p7⟩ := pt8_row h x (.slice ad x.ms.length cap)
  have kd : Below (pt8 w W x (.slice ad x.ms.length cap)).heap.size (pt8 w W x (.slice ad x.ms.length cap)) (pt8 w W x (.slice ad x.ms.length cap)).drew := (Below.refl _ _).drew
  have kk := kd.keep (fun _ => False)
  have q4 := p4.keep kk (fun h => h)
  have q5 := p5.keep kk (fun h => h)
  have q6 := below_on p6 kd
  have q7 := p7.trans (kk.mono (fun _ _ h => h.elim))
  refine bodyPost_ret (ret_cctt hf tmps _ (w.heap.size + 2) (w.heap.size + 3) _ _ h4 h5 (ld_ga q4) (ld_sh q5)) rfl ?_
  rw [ha, hb]
  refine ⟨ad, cap, rfl, ?_, q6, fun bb oo e => by have := hN bb oo e; omega⟩
  rcases hI with hI | ⟨g1, off, cp, e, hg, hc⟩
  · exact .inl hI
  · have e0 := e
    refine .inr ⟨g1, off, cp, e0, Nat.lt_of_lt_of_le hg q7.size, fun j hj => ?_⟩
    simp only [Value.slice.injEq] at e
    have := hN g1 off e.1
    rw [q7.cell hg (by omega)]
    exact hc j hj
end Go.Proofs.Ytpbfjcgncfdfnaa
namespace Go.Proofs.Ytpbfjcgncfdfnaa
open Go.RowKit Go.Maps
set_option linter.unusedVariables false
set_option linter.unusedSimpArgs false

set_option maxRecDepth 100000 in
set_option maxHeartbeats 4000000 in
theorem rtake_n_nb (g : Ga) (c : Ch) (w : World) (hz : g.tx.length ≤ 262144) (hs : c.da.size ≤ 140737488355328) (h0 : ¬ c.at_ = 0) (hb : g.bg = false) : Calls Try.prog 8 #[gaV g, gcV c] w (TookR (g, (sh0, false), 0) w) := by
  unfold gaV gcV
  have e0 : (c.at_ == 0) = false := by rw [beq_eq_false_iff_ne]; exact h0
  have HX := hid (rtx_made w g c g)
  obtain ⟨bg, gi, gt, gx⟩ := g
  obtain ⟨ci, ct, ca, cl, cd⟩ := c
  unfold ga0 at *
  simp only at *
  subst hb
  clear h0
  go_enter Try.func8, Try.ntmps8
  go_wp2
  exact retR0 HX.out rfl _ rfl rfl rfl rfl
set_option maxRecDepth 100000 in
set_option maxHeartbeats 4000000 in
theorem rtake_n_ix (g : Ga) (c : Ch) (w : World) (hz : g.tx.length ≤ 262144) (hs : c.da.size ≤ 140737488355328) (h0 : ¬ c.at_ = 0) (hb : g.bg = true) (hi : ¬ c.ix = g.ix) : Calls Try.prog 8 #[gaV g, gcV c] w (TookR (g, (sh0, false), 0) w) := by
  unfold gaV gcV
  have e0 : (c.at_ == 0) = false := by rw [beq_eq_false_iff_ne]; exact h0
  have e2 : (c.ix != g.ix) = true := by rw [bne_iff_ne]; exact hi
  have HX := hid (rtx_made w g c g)
  obtain ⟨bg, gi, gt, gx⟩ := g
  obtain ⟨ci, ct, ca, cl, cd⟩ := c
  unfold ga0 at *
  simp only at *
  subst hb
  clear h0
  clear hi
  go_enter Try.func8, Try.ntmps8
  go_wp2
  exact retR0 HX.out rfl _ rfl rfl rfl rfl
set_option maxRecDepth 100000 in
set_option maxHeartbeats 4000000 in
theorem rtake_n_tm (g : Ga) (c : Ch) (w : World) (hz : g.tx.length ≤ 262144) (hs : c.da.size ≤ 140737488355328) (h0 : ¬ c.at_ = 0) (hb : g.bg = true) (hi : c.ix = g.ix) (ht : ¬ c.tm = g.tm) : Calls Try.prog 8 #[gaV g, gcV c] w (TookR (g, (sh0, false), 0) w) := by
  unfold gaV gcV
  have e0 : (c.at_ == 0) = false := by rw [beq_eq_false_iff_ne]; exact h0
  have e2 : (c.ix != g.ix) = false := by rw [hi]; simp
  have e3 : (c.tm != g.tm) = true := by rw [bne_iff_ne]; exact ht
  have HX := hid (rtx_made w g c g)
  obtain ⟨bg, gi, gt, gx⟩ := g
  obtain ⟨ci, ct, ca, cl, cd⟩ := c
  unfold ga0 at *
  simp only at *
  subst hb
  subst hi
  clear h0
  clear ht
  go_enter Try.func8, Try.ntmps8
  go_wp2
  exact retR0 HX.out rfl _ rfl rfl rfl rfl
set_option maxRecDepth 100000 in
set_option maxHeartbeats 4000000 in
theorem rtake_n_at (g : Ga) (c : Ch) (w : World) (hz : g.tx.length ≤ 262144) (hs : c.da.size ≤ 140737488355328) (h0 : ¬ c.at_ = 0) (hb : g.bg = true) (hi : c.ix = g.ix) (ht : c.tm = g.tm) (ha : ¬ c.at_ = g.tx.length) : Calls Try.prog 8 #[gaV g, gcV c] w (TookR (g, (sh0, false), (g.tx.length : Int)) w) := by
  unfold gaV gcV
  have e0 : (c.at_ == 0) = false := by rw [beq_eq_false_iff_ne]; exact h0
  have e2 : (c.ix != g.ix) = false := by rw [hi]; simp
  have e3 : (c.tm != g.tm) = false := by rw [ht]; simp
  have hgz : (⟨g.tx.toArray⟩ : ByteArray).size = g.tx.length := by show (List.toArray _).size = _; simp
  have e4 : (c.at_ != (((⟨g.tx.toArray⟩ : ByteArray).size : Nat) : Int)) = true := by rw [hgz]; rw [bne_iff_ne]; exact ha
  have HX := hid (rtx_made w g c g)
  obtain ⟨bg, gi, gt, gx⟩ := g
  obtain ⟨ci, ct, ca, cl, cd⟩ := c
  unfold ga0 at *
  simp only at *
  subst hb
  subst hi
  subst ht
  clear h0
  clear ha
  go_enter Try.func8, Try.ntmps8
  go_wp2
  go_region
  all_goals go_wp2
  all_goals first | exact retR0 HX.out rfl _ rfl rfl rfl rfl | exact retR0 (HX.out.next (Below.refl _ _).drew) rfl _ rfl rfl rfl rfl | (refine retR0 (HX.out.next (Below.refl _ _).drew) rfl _ rfl rfl rfl ?_; simp)
set_option maxRecDepth 100000 in
set_option maxHeartbeats 4000000 in
theorem rtake_n_big (g : Ga) (c : Ch) (w : World) (hz : g.tx.length ≤ 262144) (hs : c.da.size ≤ 140737488355328) (h0 : ¬ c.at_ = 0) (hb : g.bg = true) (hi : c.ix = g.ix) (ht : c.tm = g.tm) (ha : c.at_ = g.tx.length) (hf : ¬ g.tx.length + c.da.size ≤ 262144) : Calls Try.prog 8 #[gaV g, gcV c] w (TookR (ga0, (sh0, false), 0) w) := by
  unfold gaV gcV
  have e0 : (c.at_ == 0) = false := by rw [beq_eq_false_iff_ne]; exact h0
  have e2 : (c.ix != g.ix) = false := by rw [hi]; simp
  have e3 : (c.tm != g.tm) = false := by rw [ht]; simp
  have hgz : (⟨g.tx.toArray⟩ : ByteArray).size = g.tx.length := by show (List.toArray _).size = _; simp
  have e4 : (c.at_ != (((⟨g.tx.toArray⟩ : ByteArray).size : Nat) : Int)) = false := by rw [hgz]; rw [ha]; simp
  have hwz : wrap64 ((((⟨g.tx.toArray⟩ : ByteArray).size : Nat) : Int) + (c.da.size : Int)) = ((g.tx.length + c.da.size : Nat) : Int) := by rw [hgz]; rw [IntWalk.wrap64_in _ (by omega)]; omega
  have e5 : (262144 : Int) < ((g.tx.length + c.da.size : Nat) : Int) := by omega
  have e5b : (262144 : Int) < (g.tx.length : Int) + (c.da.size : Int) := by omega
  have e5c : decide ((262144 : Int) < (g.tx.length : Int) + (c.da.size : Int)) = true := decide_eq_true (by omega)
  have HX := hid (rtx_made w g c ga0)
  obtain ⟨bg, gi, gt, gx⟩ := g
  obtain ⟨ci, ct, ca, cl, cd⟩ := c
  unfold ga0 at *
  simp only at *
  subst hb
  subst hi
  subst ht
  clear h0
  clear ha
  clear hf
  go_enter Try.func8, Try.ntmps8
  go_wp2
  exact retR0 HX.out rfl _ rfl rfl rfl rfl
set_option maxRecDepth 100000 in
set_option maxHeartbeats 4000000 in
theorem rtake_n_nl (g : Ga) (c : Ch) (w : World) (hz : g.tx.length ≤ 262144) (hs : c.da.size ≤ 140737488355328) (h0 : ¬ c.at_ = 0) (hb : g.bg = true) (hi : c.ix = g.ix) (ht : c.tm = g.tm) (ha : c.at_ = g.tx.length) (hf : g.tx.length + c.da.size ≤ 262144) (hl : c.ls = false) : Calls Try.prog 8 #[gaV g, gcV c] w (TookR (⟨true, c.ix, c.tm, g.tx ++ c.da.data.toList⟩, (sh0, false), ((g.tx ++ c.da.data.toList).length : Int)) w) := by
  unfold gaV gcV
  have e0 : (c.at_ == 0) = false := by rw [beq_eq_false_iff_ne]; exact h0
  have e2 : (c.ix != g.ix) = false := by rw [hi]; simp
  have e3 : (c.tm != g.tm) = false := by rw [ht]; simp
  have hgz : (⟨g.tx.toArray⟩ : ByteArray).size = g.tx.length := by show (List.toArray _).size = _; simp
  have e4 : (c.at_ != (((⟨g.tx.toArray⟩ : ByteArray).size : Nat) : Int)) = false := by rw [hgz]; rw [ha]; simp
  have hwz : wrap64 ((((⟨g.tx.toArray⟩ : ByteArray).size : Nat) : Int) + (c.da.size : Int)) = ((g.tx.length + c.da.size : Nat) : Int) := by rw [hgz]; rw [IntWalk.wrap64_in _ (by omega)]; omega
  have e5 : ¬ (262144 : Int) < ((g.tx.length + c.da.size : Nat) : Int) := by omega
  have e5b : ¬ (262144 : Int) < (g.tx.length : Int) + (c.da.size : Int) := by omega
  have e5c : decide ((262144 : Int) < (g.tx.length : Int) + (c.da.size : Int)) = false := decide_eq_false (by omega)
  have A1 := fun W => addS g.tx c.da W (by omega)
  have HX := hid (rtx_made w (⟨g.bg, g.ix, g.tm, g.tx ++ c.da.data.toList⟩ : Ga) c (⟨g.bg, g.ix, g.tm, g.tx ++ c.da.data.toList⟩ : Ga))
  obtain ⟨bg, gi, gt, gx⟩ := g
  obtain ⟨ci, ct, ca, cl, cd⟩ := c
  unfold ga0 at *
  simp only at *
  subst hb
  subst hi
  subst ht
  subst hl
  clear h0
  clear ha
  clear hf
  go_enter Try.func8, Try.ntmps8
  go_wp2
  go_region
  all_goals go_wp2
  all_goals first | exact retR0 HX.out rfl _ rfl rfl rfl rfl | exact retR0 (HX.out.next (Below.refl _ _).drew) rfl _ rfl rfl rfl rfl | (refine retR0 (HX.out.next (Below.refl _ _).drew) rfl _ rfl rfl rfl ?_; simp)
set_option maxRecDepth 100000 in
set_option maxHeartbeats 4000000 in
theorem rtake_z_big (g : Ga) (c : Ch) (w : World) (hz : g.tx.length ≤ 262144) (hs : c.da.size ≤ 140737488355328) (h0 : c.at_ = 0) (hf : ¬ 0 + c.da.size ≤ 262144) : Calls Try.prog 8 #[gaV g, gcV c] w (TookR (ga0, (sh0, false), 0) w) := by
  unfold gaV gcV
  have e0 : (c.at_ == 0) = true := by rw [h0]; rfl
  have e4 : (c.at_ != 0) = false := by rw [h0]; rfl
  have hwz : wrap64 (0 + (c.da.size : Int)) = ((0 + c.da.size : Nat) : Int) := by rw [IntWalk.wrap64_in _ (by omega)]; omega
  have hwz2 : wrap64 (c.da.size : Int) = (c.da.size : Int) := by rw [IntWalk.wrap64_in _ (by omega)]
  have e5 : (262144 : Int) < ((0 + c.da.size : Nat) : Int) := by omega
  have e5b : (262144 : Int) < (c.da.size : Int) := by omega
  have HX := hid (rtx_made w (⟨true, c.ix, c.tm, []⟩ : Ga) c ga0)
  obtain ⟨bg, gi, gt, gx⟩ := g
  obtain ⟨ci, ct, ca, cl, cd⟩ := c
  unfold ga0 at *
  simp only at *
  subst h0
  clear hf
  go_enter Try.func8, Try.ntmps8
  go_wp2
  exact retR0 HX.out rfl _ rfl rfl rfl rfl
set_option maxRecDepth 100000 in
set_option maxHeartbeats 4000000 in
theorem rtake_z_nl (g : Ga) (c : Ch) (w : World) (hz : g.tx.length ≤ 262144) (hs : c.da.size ≤ 140737488355328) (h0 : c.at_ = 0) (hf : 0 + c.da.size ≤ 262144) (hl : c.ls = false) : Calls Try.prog 8 #[gaV g, gcV c] w (TookR (⟨true, c.ix, c.tm, [] ++ c.da.data.toList⟩, (sh0, false), (([] ++ c.da.data.toList).length : Int)) w) := by
  unfold gaV gcV
  have e0 : (c.at_ == 0) = true := by rw [h0]; rfl
  have e4 : (c.at_ != 0) = false := by rw [h0]; rfl
  have hwz : wrap64 (0 + (c.da.size : Int)) = ((0 + c.da.size : Nat) : Int) := by rw [IntWalk.wrap64_in _ (by omega)]; omega
  have hwz2 : wrap64 (c.da.size : Int) = (c.da.size : Int) := by rw [IntWalk.wrap64_in _ (by omega)]
  have e5 : ¬ (262144 : Int) < ((0 + c.da.size : Nat) : Int) := by omega
  have e5b : ¬ (262144 : Int) < (c.da.size : Int) := by omega
  have A1 := fun W => addS ([] : List UInt8) c.da W (by simp; omega)
  have HX := hid (rtx_made w (⟨true, c.ix, c.tm, [] ++ c.da.data.toList⟩ : Ga) c (⟨true, c.ix, c.tm, [] ++ c.da.data.toList⟩ : Ga))
  obtain ⟨bg, gi, gt, gx⟩ := g
  obtain ⟨ci, ct, ca, cl, cd⟩ := c
  unfold ga0 at *
  simp only at *
  subst hl
  subst h0
  clear hf
  go_enter Try.func8, Try.ntmps8
  go_wp2
  go_region
  all_goals go_wp2
  all_goals first | exact retR0 HX.out rfl _ rfl rfl rfl rfl | exact retR0 (HX.out.next (Below.refl _ _).drew) rfl _ rfl rfl rfl rfl | (refine retR0 (HX.out.next (Below.refl _ _).drew) rfl _ rfl rfl rfl ?_; simp)
end Go.Proofs.Ytpbfjcgncfdfnaa
namespace Go.Proofs.Ytpbfjcgncfdfnaa
open Go.RowKit Go.Maps
set_option linter.unusedVariables false
set_option linter.unusedSimpArgs false

set_option maxRecDepth 100000 in
set_option maxHeartbeats 4000000 in
theorem rtake_n_last (g : Ga) (c : Ch) (w : World) (hz : g.tx.length ≤ 262144) (hs : c.da.size ≤ 140737488355328) (h0 : ¬ c.at_ = 0) (hb : g.bg = true) (hi : c.ix = g.ix) (ht : c.tm = g.tm) (ha : c.at_ = g.tx.length) (hf : g.tx.length + c.da.size ≤ 262144) (hl : c.ls = true) : Calls Try.prog 8 #[gaV g, gcV c] w (TookR (ga0, endS c.ix c.tm (g.tx ++ c.da.data.toList), 0) w) := by
  unfold gaV gcV
  have e0 : (c.at_ == 0) = false := by rw [beq_eq_false_iff_ne]; exact h0
  have e2 : (c.ix != g.ix) = false := by rw [hi]; simp
  have e3 : (c.tm != g.tm) = false := by rw [ht]; simp
  have hgz : (⟨g.tx.toArray⟩ : ByteArray).size = g.tx.length := by show (List.toArray _).size = _; simp
  have e4 : (c.at_ != (((⟨g.tx.toArray⟩ : ByteArray).size : Nat) : Int)) = false := by rw [hgz]; rw [ha]; simp
  have hwz : wrap64 ((((⟨g.tx.toArray⟩ : ByteArray).size : Nat) : Int) + (c.da.size : Int)) = ((g.tx.length + c.da.size : Nat) : Int) := by rw [hgz]; rw [IntWalk.wrap64_in _ (by omega)]; omega
  have e5 : ¬ (262144 : Int) < ((g.tx.length + c.da.size : Nat) : Int) := by omega
  have e5b : ¬ (262144 : Int) < (g.tx.length : Int) + (c.da.size : Int) := by omega
  have e5c : decide ((262144 : Int) < (g.tx.length : Int) + (c.da.size : Int)) = false := decide_eq_false (by omega)
  have A1 := fun W => addS g.tx c.da W (by omega)
  have HX := hid (rtx_made w (⟨g.bg, g.ix, g.tm, g.tx ++ c.da.data.toList⟩ : Ga) c ga0)
  obtain ⟨bg, gi, gt, gx⟩ := g
  obtain ⟨ci, ct, ca, cl, cd⟩ := c
  unfold ga0 at *
  simp only at *
  subst hb
  subst hi
  subst ht
  subst hl
  clear h0
  clear ha
  have hTz : (⟨(gx ++ cd.data.toList).toArray⟩ : ByteArray).size ≤ 140737488355328 := by
    have h1 : cd.data.toList.length = cd.size := by simp
    show (List.toArray (gx ++ cd.data.toList)).size ≤ _
    rw [List.size_toArray, List.length_append, h1]
    omega
  have DE := hid (fun W => rsdecode_own ⟨(gx ++ cd.data.toList).toArray⟩ W hTz)
  have HES : Hid (endS ci ct (gx ++ cd.data.toList) = if sdE ⟨(gx ++ cd.data.toList).toArray⟩ = 0 ∧ (sdV ⟨(gx ++ cd.data.toList).toArray⟩).ix = ci ∧ (sdV ⟨(gx ++ cd.data.toList).toArray⟩).tm = ct then (sdV ⟨(gx ++ cd.data.toList).toArray⟩, true) else (sh0, false)) := rfl
  clear hTz
  generalize endS ci ct (gx ++ cd.data.toList) = ES at *
  generalize (⟨(gx ++ cd.data.toList).toArray⟩ : ByteArray) = TT at *
  generalize sdE TT = SE at *
  generalize sdV TT = SV at *
  obtain ⟨si, st, sm, sd⟩ := SV
  unfold shV at DE
  simp only at *
  go_enter Try.func8, Try.ntmps8
  go_wp2_with fail
  refine (DE.out _).mono ?_
  rintro e w2 ⟨ad, cap, rfl, hI, b2⟩
  have X2 := hid (HX.out.next b2)
  have HI2 := hid hI
  clear DE HX hI b2
  have X3 := hid (X2.out.next (below_al (Below.refl _ _) (.cells #[.int .i64 si, .int .i64 st, .slice ad sm.length cap, .string sd] 35)))
  have HI3 := hid (HI2.out.next (below_al (Below.refl w2.heap.size w2) (.cells #[.int .i64 si, .int .i64 st, .slice ad sm.length cap, .string sd] 35)))
  have hlt0 : w.heap.size + 3 < w2.heap.size := X2.out.r5.lt
  have HNN : Hid (∀ bb oo, ad = some ⟨bb, oo, none⟩ → w.heap.size + 3 < bb) := fun bb oo e => by
    have h := ownsRow_ge (g := bb) HI2.out (by rw [e]; rfl)
    simp at h; omega
  have c30 : (w2.alloc (.cells #[.int .i64 si, .int .i64 st, .slice ad sm.length cap, .string sd] 35)).cell? ⟨w.heap.size + 1, 0, none⟩ = some (.int .i64 ci) := X3.out.r3.cellAt rfl
  have c31 : (w2.alloc (.cells #[.int .i64 si, .int .i64 st, .slice ad sm.length cap, .string sd] 35)).cell? ⟨w.heap.size + 1, 1, none⟩ = some (.int .i64 ct) := X3.out.r3.cellAt rfl
  have c40 : (w2.alloc (.cells #[.int .i64 si, .int .i64 st, .slice ad sm.length cap, .string sd] 35)).cell? ⟨w.heap.size + 1 + 1, 0, none⟩ = some (.bool false) := X3.out.r4.cellAt rfl
  have f40 : (w2.alloc (.cells #[.int .i64 si, .int .i64 st, .slice ad sm.length cap, .string sd] 35)).frozen? ⟨w.heap.size + 1 + 1, 0, none⟩ = false := X3.out.r4.frozen
  have c41 : (w2.alloc (.cells #[.int .i64 si, .int .i64 st, .slice ad sm.length cap, .string sd] 35)).cell? ⟨w.heap.size + 1 + 1, 1, none⟩ = some (.int .i64 0) := X3.out.r4.cellAt rfl
  have f41 : (w2.alloc (.cells #[.int .i64 si, .int .i64 st, .slice ad sm.length cap, .string sd] 35)).frozen? ⟨w.heap.size + 1 + 1, 1, none⟩ = false := X3.out.r4.frozen
  have c42 : (w2.alloc (.cells #[.int .i64 si, .int .i64 st, .slice ad sm.length cap, .string sd] 35)).cell? ⟨w.heap.size + 1 + 1, 2, none⟩ = some (.int .i64 0) := X3.out.r4.cellAt rfl
  have f42 : (w2.alloc (.cells #[.int .i64 si, .int .i64 st, .slice ad sm.length cap, .string sd] 35)).frozen? ⟨w.heap.size + 1 + 1, 2, none⟩ = false := X3.out.r4.frozen
  have c43 : (w2.alloc (.cells #[.int .i64 si, .int .i64 st, .slice ad sm.length cap, .string sd] 35)).cell? ⟨w.heap.size + 1 + 1, 3, none⟩ = some (.string ⟨#[]⟩) := X3.out.r4.cellAt rfl
  have f43 : (w2.alloc (.cells #[.int .i64 si, .int .i64 st, .slice ad sm.length cap, .string sd] 35)).frozen? ⟨w.heap.size + 1 + 1, 3, none⟩ = false := X3.out.r4.frozen
  have c50 : (w2.alloc (.cells #[.int .i64 si, .int .i64 st, .slice ad sm.length cap, .string sd] 35)).cell? ⟨w.heap.size + 1 + 1 + 1, 0, none⟩ = some (.int .i64 0) := X3.out.r5.cellAt rfl
  have f50 : (w2.alloc (.cells #[.int .i64 si, .int .i64 st, .slice ad sm.length cap, .string sd] 35)).frozen? ⟨w.heap.size + 1 + 1 + 1, 0, none⟩ = false := X3.out.r5.frozen
  have c51 : (w2.alloc (.cells #[.int .i64 si, .int .i64 st, .slice ad sm.length cap, .string sd] 35)).cell? ⟨w.heap.size + 1 + 1 + 1, 1, none⟩ = some (.int .i64 0) := X3.out.r5.cellAt rfl
  have f51 : (w2.alloc (.cells #[.int .i64 si, .int .i64 st, .slice ad sm.length cap, .string sd] 35)).frozen? ⟨w.heap.size + 1 + 1 + 1, 1, none⟩ = false := X3.out.r5.frozen
  have c52 : (w2.alloc (.cells #[.int .i64 si, .int .i64 st, .slice ad sm.length cap, .string sd] 35)).cell? ⟨w.heap.size + 1 + 1 + 1, 2, none⟩ = some (.slice none 0 0) := X3.out.r5.cellAt rfl
  have f52 : (w2.alloc (.cells #[.int .i64 si, .int .i64 st, .slice ad sm.length cap, .string sd] 35)).frozen? ⟨w.heap.size + 1 + 1 + 1, 2, none⟩ = false := X3.out.r5.frozen
  have c53 : (w2.alloc (.cells #[.int .i64 si, .int .i64 st, .slice ad sm.length cap, .string sd] 35)).cell? ⟨w.heap.size + 1 + 1 + 1, 3, none⟩ = some (.string ⟨#[]⟩) := X3.out.r5.cellAt rfl
  have f53 : (w2.alloc (.cells #[.int .i64 si, .int .i64 st, .slice ad sm.length cap, .string sd] 35)).frozen? ⟨w.heap.size + 1 + 1 + 1, 3, none⟩ = false := X3.out.r5.frozen
  have ER := fun (tmps : Array Value) => retR8 X3.out sh0 none 0 false (ints_none _) (fun _ _ h => by cases h) (fn := Try.f8) (a := 6) (b := 7) rfl tmps
  have OKR := fun (tmps : Array Value) => retR8d X3.out ⟨si, st, sm, sd⟩ ad cap true HI3.out.ints HNN.out (fn := Try.f8) (a := 6) (b := 7) rfl tmps
  have hlt : w.heap.size + 3 < w2.heap.size := X2.out.r5.lt
  have n1 : w.heap.size + 1 + 1 ≠ w2.heap.size := by omega
  have n2 : w2.heap.size ≠ w.heap.size + 1 + 1 := by omega
  have n3 : w.heap.size + 1 + 1 + 1 ≠ w2.heap.size := by omega
  have n4 : w2.heap.size ≠ w.heap.size + 1 + 1 + 1 := by omega
  have HER := hid ER
  have HOKR := hid OKR
  clear ER OKR X2 X3 HI2 HI3 HNN
  clear hlt hlt0
  by_cases hE : SE = 0
  · have b1 : (SE != 0) = false := by rw [hE]; rfl
    by_cases hI : si = ci
    · have b2 : (si != ci) = false := by rw [hI]; simp
      by_cases hT : st = ct
      · have b3 : (st != ct) = false := by rw [hT]; simp
        have HS : Hid (ES = (⟨si, st, sm, sd⟩, true)) := by show ES = _; rw [HES.out, if_pos ⟨hE, hI, hT⟩]
        clear HES hE hI hT HER
        go_wp2
        go_region
        all_goals go_wp2
        rw [HS.out]
        exact HOKR.out _ rfl rfl rfl rfl
      · have b3 : (st != ct) = true := by rw [bne_iff_ne]; exact hT
        have HS : Hid (ES = (sh0, false)) := by show ES = _; rw [HES.out, if_neg (fun h => hT h.2.2)]
        clear HES hE hI hT HOKR
        go_wp2
        rw [HS.out]
        exact HER.out _ rfl rfl rfl rfl
    · have b2 : (si != ci) = true := by rw [bne_iff_ne]; exact hI
      have HS : Hid (ES = (sh0, false)) := by show ES = _; rw [HES.out, if_neg (fun h => hI h.2.1)]
      clear HES hE hI HOKR
      go_wp2
      rw [HS.out]
      exact HER.out _ rfl rfl rfl rfl
  · have b1 : (SE != 0) = true := by rw [bne_iff_ne]; exact hE
    have HS : Hid (ES = (sh0, false)) := by show ES = _; rw [HES.out, if_neg (fun h => hE h.1)]
    clear HES hE HOKR
    go_wp2
    rw [HS.out]
    exact HER.out _ rfl rfl rfl rfl
set_option maxRecDepth 100000 in
set_option maxHeartbeats 4000000 in
theorem rtake_z_last (g : Ga) (c : Ch) (w : World) (hz : g.tx.length ≤ 262144) (hs : c.da.size ≤ 140737488355328) (h0 : c.at_ = 0) (hf : 0 + c.da.size ≤ 262144) (hl : c.ls = true) : Calls Try.prog 8 #[gaV g, gcV c] w (TookR (ga0, endS c.ix c.tm ([] ++ c.da.data.toList), 0) w) := by
  unfold gaV gcV
  have e0 : (c.at_ == 0) = true := by rw [h0]; rfl
  have e4 : (c.at_ != 0) = false := by rw [h0]; rfl
  have hwz : wrap64 (0 + (c.da.size : Int)) = ((0 + c.da.size : Nat) : Int) := by rw [IntWalk.wrap64_in _ (by omega)]; omega
  have hwz2 : wrap64 (c.da.size : Int) = (c.da.size : Int) := by rw [IntWalk.wrap64_in _ (by omega)]
  have e5 : ¬ (262144 : Int) < ((0 + c.da.size : Nat) : Int) := by omega
  have e5b : ¬ (262144 : Int) < (c.da.size : Int) := by omega
  have A1 := fun W => addS ([] : List UInt8) c.da W (by simp; omega)
  have HX := hid (rtx_made w (⟨true, c.ix, c.tm, [] ++ c.da.data.toList⟩ : Ga) c ga0)
  obtain ⟨bg, gi, gt, gx⟩ := g
  obtain ⟨ci, ct, ca, cl, cd⟩ := c
  unfold ga0 at *
  simp only at *
  subst hl
  subst h0
  have hTz : (⟨([] ++ cd.data.toList).toArray⟩ : ByteArray).size ≤ 140737488355328 := by
    have h1 : cd.data.toList.length = cd.size := by simp
    show (List.toArray ([] ++ cd.data.toList)).size ≤ _
    rw [List.size_toArray, List.length_append, h1]
    simp only [List.length_nil]; omega
  have DE := hid (fun W => rsdecode_own ⟨([] ++ cd.data.toList).toArray⟩ W hTz)
  have HES : Hid (endS ci ct ([] ++ cd.data.toList) = if sdE ⟨([] ++ cd.data.toList).toArray⟩ = 0 ∧ (sdV ⟨([] ++ cd.data.toList).toArray⟩).ix = ci ∧ (sdV ⟨([] ++ cd.data.toList).toArray⟩).tm = ct then (sdV ⟨([] ++ cd.data.toList).toArray⟩, true) else (sh0, false)) := rfl
  clear hTz
  generalize endS ci ct ([] ++ cd.data.toList) = ES at *
  generalize (⟨([] ++ cd.data.toList).toArray⟩ : ByteArray) = TT at *
  generalize sdE TT = SE at *
  generalize sdV TT = SV at *
  obtain ⟨si, st, sm, sd⟩ := SV
  unfold shV at DE
  simp only at *
  go_enter Try.func8, Try.ntmps8
  go_wp2_with fail
  refine (DE.out _).mono ?_
  rintro e w2 ⟨ad, cap, rfl, hI, b2⟩
  have X2 := hid (HX.out.next b2)
  have HI2 := hid hI
  clear DE HX hI b2
  have X3 := hid (X2.out.next (below_al (Below.refl _ _) (.cells #[.int .i64 si, .int .i64 st, .slice ad sm.length cap, .string sd] 35)))
  have HI3 := hid (HI2.out.next (below_al (Below.refl w2.heap.size w2) (.cells #[.int .i64 si, .int .i64 st, .slice ad sm.length cap, .string sd] 35)))
  have hlt0 : w.heap.size + 3 < w2.heap.size := X2.out.r5.lt
  have HNN : Hid (∀ bb oo, ad = some ⟨bb, oo, none⟩ → w.heap.size + 3 < bb) := fun bb oo e => by
    have h := ownsRow_ge (g := bb) HI2.out (by rw [e]; rfl)
    simp at h; omega
  have c30 : (w2.alloc (.cells #[.int .i64 si, .int .i64 st, .slice ad sm.length cap, .string sd] 35)).cell? ⟨w.heap.size + 1, 0, none⟩ = some (.int .i64 ci) := X3.out.r3.cellAt rfl
  have c31 : (w2.alloc (.cells #[.int .i64 si, .int .i64 st, .slice ad sm.length cap, .string sd] 35)).cell? ⟨w.heap.size + 1, 1, none⟩ = some (.int .i64 ct) := X3.out.r3.cellAt rfl
  have c40 : (w2.alloc (.cells #[.int .i64 si, .int .i64 st, .slice ad sm.length cap, .string sd] 35)).cell? ⟨w.heap.size + 1 + 1, 0, none⟩ = some (.bool false) := X3.out.r4.cellAt rfl
  have f40 : (w2.alloc (.cells #[.int .i64 si, .int .i64 st, .slice ad sm.length cap, .string sd] 35)).frozen? ⟨w.heap.size + 1 + 1, 0, none⟩ = false := X3.out.r4.frozen
  have c41 : (w2.alloc (.cells #[.int .i64 si, .int .i64 st, .slice ad sm.length cap, .string sd] 35)).cell? ⟨w.heap.size + 1 + 1, 1, none⟩ = some (.int .i64 0) := X3.out.r4.cellAt rfl
  have f41 : (w2.alloc (.cells #[.int .i64 si, .int .i64 st, .slice ad sm.length cap, .string sd] 35)).frozen? ⟨w.heap.size + 1 + 1, 1, none⟩ = false := X3.out.r4.frozen
  have c42 : (w2.alloc (.cells #[.int .i64 si, .int .i64 st, .slice ad sm.length cap, .string sd] 35)).cell? ⟨w.heap.size + 1 + 1, 2, none⟩ = some (.int .i64 0) := X3.out.r4.cellAt rfl
  have f42 : (w2.alloc (.cells #[.int .i64 si, .int .i64 st, .slice ad sm.length cap, .string sd] 35)).frozen? ⟨w.heap.size + 1 + 1, 2, none⟩ = false := X3.out.r4.frozen
  have c43 : (w2.alloc (.cells #[.int .i64 si, .int .i64 st, .slice ad sm.length cap, .string sd] 35)).cell? ⟨w.heap.size + 1 + 1, 3, none⟩ = some (.string ⟨#[]⟩) := X3.out.r4.cellAt rfl
  have f43 : (w2.alloc (.cells #[.int .i64 si, .int .i64 st, .slice ad sm.length cap, .string sd] 35)).frozen? ⟨w.heap.size + 1 + 1, 3, none⟩ = false := X3.out.r4.frozen
  have c50 : (w2.alloc (.cells #[.int .i64 si, .int .i64 st, .slice ad sm.length cap, .string sd] 35)).cell? ⟨w.heap.size + 1 + 1 + 1, 0, none⟩ = some (.int .i64 0) := X3.out.r5.cellAt rfl
  have f50 : (w2.alloc (.cells #[.int .i64 si, .int .i64 st, .slice ad sm.length cap, .string sd] 35)).frozen? ⟨w.heap.size + 1 + 1 + 1, 0, none⟩ = false := X3.out.r5.frozen
  have c51 : (w2.alloc (.cells #[.int .i64 si, .int .i64 st, .slice ad sm.length cap, .string sd] 35)).cell? ⟨w.heap.size + 1 + 1 + 1, 1, none⟩ = some (.int .i64 0) := X3.out.r5.cellAt rfl
  have f51 : (w2.alloc (.cells #[.int .i64 si, .int .i64 st, .slice ad sm.length cap, .string sd] 35)).frozen? ⟨w.heap.size + 1 + 1 + 1, 1, none⟩ = false := X3.out.r5.frozen
  have c52 : (w2.alloc (.cells #[.int .i64 si, .int .i64 st, .slice ad sm.length cap, .string sd] 35)).cell? ⟨w.heap.size + 1 + 1 + 1, 2, none⟩ = some (.slice none 0 0) := X3.out.r5.cellAt rfl
  have f52 : (w2.alloc (.cells #[.int .i64 si, .int .i64 st, .slice ad sm.length cap, .string sd] 35)).frozen? ⟨w.heap.size + 1 + 1 + 1, 2, none⟩ = false := X3.out.r5.frozen
  have c53 : (w2.alloc (.cells #[.int .i64 si, .int .i64 st, .slice ad sm.length cap, .string sd] 35)).cell? ⟨w.heap.size + 1 + 1 + 1, 3, none⟩ = some (.string ⟨#[]⟩) := X3.out.r5.cellAt rfl
  have f53 : (w2.alloc (.cells #[.int .i64 si, .int .i64 st, .slice ad sm.length cap, .string sd] 35)).frozen? ⟨w.heap.size + 1 + 1 + 1, 3, none⟩ = false := X3.out.r5.frozen
  have ER := fun (tmps : Array Value) => retR8 X3.out sh0 none 0 false (ints_none _) (fun _ _ h => by cases h) (fn := Try.f8) (a := 6) (b := 7) rfl tmps
  have OKR := fun (tmps : Array Value) => retR8d X3.out ⟨si, st, sm, sd⟩ ad cap true HI3.out.ints HNN.out (fn := Try.f8) (a := 6) (b := 7) rfl tmps
  have hlt : w.heap.size + 3 < w2.heap.size := X2.out.r5.lt
  have n1 : w.heap.size + 1 + 1 ≠ w2.heap.size := by omega
  have n2 : w2.heap.size ≠ w.heap.size + 1 + 1 := by omega
  have n3 : w.heap.size + 1 + 1 + 1 ≠ w2.heap.size := by omega
  have n4 : w2.heap.size ≠ w.heap.size + 1 + 1 + 1 := by omega
  have HER := hid ER
  have HOKR := hid OKR
  clear ER OKR X2 X3 HI2 HI3 HNN
  clear hlt hlt0
  by_cases hE : SE = 0
  · have b1 : (SE != 0) = false := by rw [hE]; rfl
    by_cases hI : si = ci
    · have b2 : (si != ci) = false := by rw [hI]; simp
      by_cases hT : st = ct
      · have b3 : (st != ct) = false := by rw [hT]; simp
        have HS : Hid (ES = (⟨si, st, sm, sd⟩, true)) := by show ES = _; rw [HES.out, if_pos ⟨hE, hI, hT⟩]
        clear HES hE hI hT HER
        go_wp2
        go_region
        all_goals go_wp2
        rw [HS.out]
        exact HOKR.out _ rfl rfl rfl rfl
      · have b3 : (st != ct) = true := by rw [bne_iff_ne]; exact hT
        have HS : Hid (ES = (sh0, false)) := by show ES = _; rw [HES.out, if_neg (fun h => hT h.2.2)]
        clear HES hE hI hT HOKR
        go_wp2
        rw [HS.out]
        exact HER.out _ rfl rfl rfl rfl
    · have b2 : (si != ci) = true := by rw [bne_iff_ne]; exact hI
      have HS : Hid (ES = (sh0, false)) := by show ES = _; rw [HES.out, if_neg (fun h => hI h.2.1)]
      clear HES hE hI HOKR
      go_wp2
      rw [HS.out]
      exact HER.out _ rfl rfl rfl rfl
  · have b1 : (SE != 0) = true := by rw [bne_iff_ne]; exact hE
    have HS : Hid (ES = (sh0, false)) := by show ES = _; rw [HES.out, if_neg (fun h => hE h.1)]
    clear HES hE HOKR
    go_wp2
    rw [HS.out]
    exact HER.out _ rfl rfl rfl rfl
end Go.Proofs.Ytpbfjcgncfdfnaa
namespace Go.Proofs.Ytpbfjcgncfdfnaa
open Go.RowKit Go.Maps
set_option linter.unusedVariables false
set_option linter.unusedSimpArgs false

theorem rtake_any (g : Ga) (c : Ch) (w : World) (hz : g.tx.length ≤ 262144) (hs : c.da.size ≤ 140737488355328) : Calls Try.prog 8 #[gaV g, gcV c] w (TookR (takeG g c) w) := by
  unfold takeG
  by_cases h0 : c.at_ = 0
  · have hg : ga1 g c = ⟨true, c.ix, c.tm, []⟩ := if_pos h0
    rw [hg]
    have h1 : c.at_ = (([] : Bs).length : Int) := h0
    simp only [true_and, and_self, if_true]
    rw [if_pos h1]
    by_cases hf : ([] : Bs).length + c.da.size ≤ 262144
    · rw [if_pos hf]
      by_cases hl : c.ls = true
      · rw [if_pos hl]; exact rtake_z_last g c w hz hs h0 hf hl
      · rw [if_neg hl]; exact rtake_z_nl g c w hz hs h0 hf (by simpa using hl)
    · rw [if_neg hf]; exact rtake_z_big g c w hz hs h0 hf
  · have hg : ga1 g c = g := if_neg h0
    rw [hg]
    by_cases hb : g.bg = true
    · by_cases hi : c.ix = g.ix
      · by_cases ht : c.tm = g.tm
        · rw [if_pos ⟨hb, hi, ht⟩]
          by_cases ha : c.at_ = (g.tx.length : Int)
          · rw [if_pos ha]
            by_cases hf : g.tx.length + c.da.size ≤ 262144
            · rw [if_pos hf]
              by_cases hl : c.ls = true
              · rw [if_pos hl]
                have := rtake_n_last g c w hz hs h0 hb hi ht ha hf hl
                rw [hi, ht] at this
                exact this
              · rw [if_neg hl]
                have := rtake_n_nl g c w hz hs h0 hb hi ht ha hf (by simpa using hl)
                rw [hi, ht] at this
                exact this
            · rw [if_neg hf]; exact rtake_n_big g c w hz hs h0 hb hi ht ha hf
          · rw [if_neg ha]; exact rtake_n_at g c w hz hs h0 hb hi ht ha
        · rw [if_neg (fun h => ht h.2.2)]; exact rtake_n_tm g c w hz hs h0 hb hi ht
      · rw [if_neg (fun h => hi h.2.1)]; exact rtake_n_ix g c w hz hs h0 hb hi
    · rw [if_neg (fun h => hb h.1)]; exact rtake_n_nb g c w hz hs h0 (by simpa using hb)
end Go.Proofs.Ytpbfjcgncfdfnaa
namespace Go.Proofs.Ytpbfjcgncfdfnaa
open Go.RowKit Go.Maps
set_option linter.unusedVariables false
set_option linter.unusedSimpArgs false
def pcC (c : Ch) : List Value := [.int .i64 c.ix, .int .i64 c.tm, .int .i64 c.at_, .bool c.ls, .string c.da]
def shZ : List Value := [.int .i64 0, .int .i64 0, .slice none 0 0, .string ⟨#[]⟩]
/-- the memory within Take -/
structure Mid (w : World) (p : Nat) (v0 v : Value) (g : Ga) (c : Ch) (B : World) : Prop where
  row : RowIs B p (gaC v g) 50
  bs : BSl B 0 v g.tx
  own : ∀ b, v.ownBlock = some b → v0.ownBlock = some b ∨ w.heap.size + 2 ≤ b
  np : ∀ b, v.ownBlock = some b → b ≠ p
  nl : ∀ b, v0.ownBlock = some b → b < w.heap.size
  pl : p < w.heap.size
  ch : RowIs B w.heap.size (pcC c) 34
  sh : RowIs B (w.heap.size + 1) shZ 30
  keep : Keep (fun k => k = p ∨ v0.ownBlock = some k) w B
theorem Mid.init {w : World} {p : Nat} {v : Value} {g : Ga} (c : Ch) (hr : RowIs w p (gaC v g) 50) (hb : BSl w 0 v g.tx) (hv : ∀ b, v.ownBlock = some b → b ≠ p) :
    Mid w p v v g c ((w.alloc (.cells #[.int .i64 c.ix, .int .i64 c.tm, .int .i64 c.at_, .bool c.ls, .string c.da] 34)).alloc (.cells #[.int .i64 0, .int .i64 0, .slice none 0 0, .string ⟨#[]⟩] 30)) := by
  have k1 := keep_alloc (fun _ => False) w (.cells #[.int .i64 c.ix, .int .i64 c.tm, .int .i64 c.at_, .bool c.ls, .string c.da] 34)
  have k2 := keep_alloc (fun _ => False) (w.alloc (.cells #[.int .i64 c.ix, .int .i64 c.tm, .int .i64 c.at_, .bool c.ls, .string c.da] 34)) (.cells #[.int .i64 0, .int .i64 0, .slice none 0 0, .string ⟨#[]⟩] 30)
  have hc := heap_alloc_new w (.cells #[.int .i64 c.ix, .int .i64 c.tm, .int .i64 c.at_, .bool c.ls, .string c.da] 34)
  have k := k1.trans k2
  exact ⟨hr.keep k (fun h => h), bsl_over hb k (fun _ _ h => h), fun b e => .inl e, hv, fun b e => bsl_block hb e, hr.lt, RowIs.keep hc k2 (fun h => h), boxU (Keep.refl _ _), k.mono (fun _ _ h => h.elim)⟩
theorem Mid.on {w : World} {p : Nat} {v0 v : Value} {g : Ga} {c : Ch} {B B' : World} (h : Mid w p v0 v g c B) (k : Keep (fun _ => False) B B') : Mid w p v0 v g c B' :=
  ⟨h.row.keep k (fun h => h), bsl_over h.bs k (fun _ _ h => h), h.own, h.np, h.nl, h.pl, h.ch.keep k (fun h => h), h.sh.keep k (fun h => h), h.keep.trans (k.mono (fun _ _ h => h.elim))⟩
theorem Mid.set {w : World} {p : Nat} {v0 v : Value} {g : Ga} {c : Ch} {B : World} (h : Mid w p v0 v g c B) (b : Bool) (i t : Int) :
    Mid w p v0 (.slice none 0 0) ⟨b, i, t, []⟩ c ((((B.setCell ⟨p, 0, none⟩ (.bool b)).setCell ⟨p, 1, none⟩ (.int .i64 i)).setCell ⟨p, 2, none⟩ (.int .i64 t)).setCell ⟨p, 3, none⟩ (.slice none 0 0)) := by
  obtain ⟨hr, hk⟩ := gz B p v g h.row b i t (.slice none 0 0)
  have hp := h.pl
  exact ⟨hr, .inl ⟨rfl, rfl⟩, fun b e => (by simp [Value.ownBlock] at e), fun b e => (by simp [Value.ownBlock] at e), h.nl, hp, h.ch.keep hk (fun e => by omega), h.sh.keep hk (fun e => by omega), h.keep.then hk (fun j hj e => .inl e)⟩
theorem Mid.initZ {w : World} {p : Nat} {v : Value} {g : Ga} (c : Ch) (hr : RowIs w p (gaC v g) 50) (hb : BSl w 0 v g.tx) (b : Bool) (i t : Int) :
    Mid w p v (.slice none 0 0) ⟨b, i, t, []⟩ c ((((((w.setCell ⟨p, 0, none⟩ (.bool b)).setCell ⟨p, 1, none⟩ (.int .i64 i)).setCell ⟨p, 2, none⟩ (.int .i64 t)).setCell ⟨p, 3, none⟩ (.slice none 0 0)).alloc (.cells #[.int .i64 c.ix, .int .i64 c.tm, .int .i64 c.at_, .bool c.ls, .string c.da] 34)).alloc (.cells #[.int .i64 0, .int .i64 0, .slice none 0 0, .string ⟨#[]⟩] 30)) := by
  obtain ⟨hrz, hkz⟩ := gz w p v g hr b i t (.slice none 0 0)
  have hp := hr.lt
  obtain ⟨wz, hwz⟩ : ∃ wz, wz = ((((w.setCell ⟨p, 0, none⟩ (.bool b)).setCell ⟨p, 1, none⟩ (.int .i64 i)).setCell ⟨p, 2, none⟩ (.int .i64 t)).setCell ⟨p, 3, none⟩ (.slice none 0 0)) := ⟨_, rfl⟩
  rw [← hwz] at hrz hkz ⊢
  have hsz : wz.heap.size = w.heap.size := by rw [hwz]; simp [World.setCell]
  have k1 := keep_alloc (fun _ => False) wz (.cells #[.int .i64 c.ix, .int .i64 c.tm, .int .i64 c.at_, .bool c.ls, .string c.da] 34)
  have k2 := keep_alloc (fun _ => False) (wz.alloc (.cells #[.int .i64 c.ix, .int .i64 c.tm, .int .i64 c.at_, .bool c.ls, .string c.da] 34)) (.cells #[.int .i64 0, .int .i64 0, .slice none 0 0, .string ⟨#[]⟩] 30)
  have hc := RowIs.keep (heap_alloc_new wz (.cells #[.int .i64 c.ix, .int .i64 c.tm, .int .i64 c.at_, .bool c.ls, .string c.da] 34)) k2 (fun h => h)
  have hs := boxU (w := wz) (C := (.cells #[.int .i64 c.ix, .int .i64 c.tm, .int .i64 c.at_, .bool c.ls, .string c.da] 34)) (Keep.refl _ _)
  rw [hsz] at hc hs
  have k := k1.trans k2
  exact ⟨hrz.keep k (fun h => h), .inl ⟨rfl, rfl⟩, fun b e => (by simp [Value.ownBlock] at e), fun b e => (by simp [Value.ownBlock] at e), fun b e => bsl_block hb e, hp, hc, hs, (hkz.mono (fun _ _ h => .inl h)).trans (k.mono (fun _ _ h => h.elim))⟩
theorem Mid.more {w : World} {p : Nat} {v0 v : Value} {g : Ga} {c : Ch} {B : World} (h : Mid w p v0 v g c B) {s : Bs} {v1 : Value} {w1 : World} (hm : More B v g.tx s v1 w1) :
    RowIs w1 p (gaC v g) 50 ∧ RowIs w1 w.heap.size (pcC c) 34 ∧ RowIs w1 (w.heap.size + 1) shZ 30 ∧ Mid w p v0 v1 ⟨g.bg, g.ix, g.tm, g.tx ++ s⟩ c (w1.setCell ⟨p, 3, none⟩ v1) := by
  have hp := h.pl
  have hn : ∀ q, w.heap.size ≤ q → q < w.heap.size + 2 → ¬ v.ownBlock = some q := fun q h1 h2 e => by
    rcases h.own q e with e | e
    · have := h.nl q e; omega
    · omega
  have hsz := h.sh.lt
  have hr := h.row.keep hm.keep (fun e => h.np p e rfl)
  have hc := h.ch.keep hm.keep (hn _ (Nat.le_refl _) (by omega))
  have hsh := h.sh.keep hm.keep (hn _ (by omega) (by omega))
  have ks := keep_setCell w1 p 3 v1
  have hnp : ∀ b, v1.ownBlock = some b → b ≠ p := fun b e => by
    rcases hm.loc with e1 | ⟨g1, e1, hg⟩
    · exact h.np b (by rw [← e1]; exact e)
    · rw [e1] at e
      have := Option.some.inj e
      omega
  refine ⟨hr, hc, hsh, hr.set 3 v1, bsl_over hm.is ks (fun b e e2 => hnp b e e2), fun b e => ?_, hnp, h.nl, hp, hc.keep ks (fun e => by omega), hsh.keep ks (fun e => by omega), (h.keep.then hm.keep (fun j hj e => ?_)).then ks (fun j hj e => .inl e)⟩
  · rcases hm.loc with e1 | ⟨g1, e1, hg⟩
    · exact h.own b (by rw [← e1]; exact e)
    · rw [e1] at e
      have := Option.some.inj e
      exact .inr (by omega)
  · rcases h.own j e with e | e
    · exact .inr e
    · omega
theorem Mid.took {w : World} {p : Nat} {v0 v : Value} {g : Ga} {c : Ch} {B : World} (h : Mid w p v0 v g c B) (n : Int) :
    Took p v0 (g, (sh0, false), n) w (.returned (.tuple #[.agg #[.int .i64 0, .int .i64 0, .slice none 0 0, .string ⟨#[]⟩], .bool false, .int .i64 n])) B :=
  took0 h.row h.bs (fun b e => (h.own b e).imp id (fun e => by omega)) h.keep
theorem Mid.zeros {w : World} {p : Nat} {v0 v : Value} {g : Ga} {c : Ch} {B : World} (h : Mid w p v0 v g c B) :
    Mid w p v0 v g c ((((B.setCell ⟨w.heap.size + 1, 0, none⟩ (.int .i64 0)).setCell ⟨w.heap.size + 1, 1, none⟩ (.int .i64 0)).setCell ⟨w.heap.size + 1, 2, none⟩ (.slice none 0 0)).setCell ⟨w.heap.size + 1, 3, none⟩ (.string ⟨#[]⟩)) := by
  have kk := (((keep_setCell B (w.heap.size + 1) 0 (.int .i64 0)).trans (keep_setCell _ (w.heap.size + 1) 1 (.int .i64 0))).trans (keep_setCell _ (w.heap.size + 1) 2 (.slice none 0 0))).trans (keep_setCell _ (w.heap.size + 1) 3 (.string ⟨#[]⟩))
  have hp := h.pl
  refine ⟨h.row.keep kk (fun e => by omega), bsl_over h.bs kk (fun b e e2 => ?_), h.own, h.np, h.nl, hp, h.ch.keep kk (fun e => by omega), (((h.sh.set 0 (.int .i64 0)).set 1 (.int .i64 0)).set 2 (.slice none 0 0)).set 3 (.string ⟨#[]⟩), h.keep.then kk (fun j hj e => by omega)⟩
  rcases h.own b e with e | e
  · have := h.nl b e; omega
  · omega
theorem Mid.endC {w : World} {p : Nat} {v0 v : Value} {g : Ga} {c : Ch} {B : World} (h : Mid w p v0 v g c B) (hz : g.tx.length ≤ 262144) :
    Calls Try.prog 19 #[.pointer (some ⟨p, 0, none⟩)] B fun e w' => ∃ ad cap, e = .returned (.tuple #[shV (.slice ad (endS g.ix g.tm g.tx).1.ms.length cap) (endS g.ix g.tm g.tx).1, .bool (endS g.ix g.tm g.tx).2]) ∧ OwnI w' (w.heap.size + 2) (.slice ad (endS g.ix g.tm g.tx).1.ms.length cap) (endS g.ix g.tm g.tx).1.ms ∧ Mid w p v0 (.slice none 0 0) ga0 c w' :=
  (gend_any p v g B h.row h.bs h.np hz).mono fun e w' ⟨ad, cap, he, hi, hr, hk⟩ => by
    have hp := h.pl
    have hs := h.sh.lt
    exact ⟨ad, cap, he, ownsRow_base hi (by omega), hr, .inl ⟨rfl, rfl⟩, fun b e => (by simp [Value.ownBlock] at e), fun b e => (by simp [Value.ownBlock] at e), h.nl, hp, h.ch.keep hk (fun e => by omega), h.sh.keep hk (fun e => by omega), h.keep.then hk (fun j hj e => .inl e)⟩
/-- the snapshot is given back: its box is written, then read -/
theorem Mid.give {w : World} {p : Nat} {v0 v : Value} {g : Ga} {c : Ch} {B : World} (h : Mid w p v0 v g c B) (o : Obj) (X : Sh) (ad : Option Addr) (cap : Nat) (hi : OwnI B (w.heap.size + 2) (.slice ad X.ms.length cap) X.ms) (is : Bool) (n : Int) :
    Hid (RowIs (((((B.setCell ⟨w.heap.size + 1, 0, none⟩ (.int .i64 X.ix)).setCell ⟨w.heap.size + 1, 1, none⟩ (.int .i64 X.tm)).setCell ⟨w.heap.size + 1, 2, none⟩ (.slice ad X.ms.length cap)).setCell ⟨w.heap.size + 1, 3, none⟩ (.string X.da)).alloc o) (w.heap.size + 1) [.int .i64 X.ix, .int .i64 X.tm, .slice ad X.ms.length cap, .string X.da] 30) ∧
    Hid (Took p v0 (g, (X, is), n) w (.returned (.tuple #[.agg #[.int .i64 X.ix, .int .i64 X.tm, .slice ad X.ms.length cap, .string X.da], .bool is, .int .i64 n])) (((((B.setCell ⟨w.heap.size + 1, 0, none⟩ (.int .i64 X.ix)).setCell ⟨w.heap.size + 1, 1, none⟩ (.int .i64 X.tm)).setCell ⟨w.heap.size + 1, 2, none⟩ (.slice ad X.ms.length cap)).setCell ⟨w.heap.size + 1, 3, none⟩ (.string X.da)).alloc o)) := by
  have kk := (((keep_setCell B (w.heap.size + 1) 0 (.int .i64 X.ix)).trans (keep_setCell _ (w.heap.size + 1) 1 (.int .i64 X.tm))).trans (keep_setCell _ (w.heap.size + 1) 2 (.slice ad X.ms.length cap))).trans (keep_setCell _ (w.heap.size + 1) 3 (.string X.da))
  have ka := keep_alloc (fun _ => False) ((((B.setCell ⟨w.heap.size + 1, 0, none⟩ (.int .i64 X.ix)).setCell ⟨w.heap.size + 1, 1, none⟩ (.int .i64 X.tm)).setCell ⟨w.heap.size + 1, 2, none⟩ (.slice ad X.ms.length cap)).setCell ⟨w.heap.size + 1, 3, none⟩ (.string X.da)) o
  have k := kk.trans (ka.mono (fun _ _ h => h.elim))
  have hp := h.pl
  have hiA := k.ownsRow hi (fun g hg e => by have := ownsRow_ge hi hg; omega)
  refine ⟨RowIs.keep ((((h.sh.set 0 (.int .i64 X.ix)).set 1 (.int .i64 X.tm)).set 2 (.slice ad X.ms.length cap)).set 3 (.string X.da)) ka (fun h => h), ad, cap, v, rfl, ⟨OwnI.ints hiA, fun bb oo e => by subst e; have h0 : w.heap.size + 2 ≤ bb := ownsRow_ge hi rfl; omega⟩, h.row.keep k (fun e => by omega), bsl_over h.bs k (fun b e e2 => ?_), fun b e => (h.own b e).imp id (fun e => by omega), h.keep.then k (fun j hj e => by omega)⟩
  rcases h.own b e with e | e
  · have := h.nl b e; omega
  · omega
theorem Mid.last {w : World} {p : Nat} {v0 v : Value} {g : Ga} {c : Ch} {B : World} (h : Mid w p v0 v g c B) (hz : g.tx.length ≤ 262144) (si st : Int) (sm : List Int) (sd : ByteArray) (is : Bool) (N : Nat) (hX : endS g.ix g.tm g.tx = (⟨si, st, sm, sd⟩, is)) (hN : sm.length = N) :
    Calls Try.prog 19 #[.pointer (some ⟨p, 0, none⟩)] B fun e w' => ∃ ad cap, e = .returned (.tuple #[.agg #[.int .i64 si, .int .i64 st, .slice ad N cap, .string sd], .bool is]) ∧
      (w'.cell? ⟨w.heap.size + 1, 0, none⟩ = some (.int .i64 0) ∧ w'.cell? ⟨w.heap.size + 1, 1, none⟩ = some (.int .i64 0) ∧ w'.cell? ⟨w.heap.size + 1, 2, none⟩ = some (.slice none 0 0) ∧ w'.cell? ⟨w.heap.size + 1, 3, none⟩ = some (.string ⟨#[]⟩)) ∧
      (w'.frozen? ⟨w.heap.size + 1, 0, none⟩ = false ∧ w'.frozen? ⟨w.heap.size + 1, 1, none⟩ = false ∧ w'.frozen? ⟨w.heap.size + 1, 2, none⟩ = false ∧ w'.frozen? ⟨w.heap.size + 1, 3, none⟩ = false) ∧ w.heap.size + 1 < w'.heap.size ∧
      Hid (∀ o, Hid (RowIs (((((w'.setCell ⟨w.heap.size + 1, 0, none⟩ (.int .i64 si)).setCell ⟨w.heap.size + 1, 1, none⟩ (.int .i64 st)).setCell ⟨w.heap.size + 1, 2, none⟩ (.slice ad N cap)).setCell ⟨w.heap.size + 1, 3, none⟩ (.string sd)).alloc o) (w.heap.size + 1) [.int .i64 si, .int .i64 st, .slice ad N cap, .string sd] 30) ∧ Hid (Took p v0 (ga0, (⟨si, st, sm, sd⟩, is), 0) w (.returned (.tuple #[.agg #[.int .i64 si, .int .i64 st, .slice ad N cap, .string sd], .bool is, .int .i64 0])) (((((w'.setCell ⟨w.heap.size + 1, 0, none⟩ (.int .i64 si)).setCell ⟨w.heap.size + 1, 1, none⟩ (.int .i64 st)).setCell ⟨w.heap.size + 1, 2, none⟩ (.slice ad N cap)).setCell ⟨w.heap.size + 1, 3, none⟩ (.string sd)).alloc o))) := by
  have hE := h.endC hz
  rw [hX] at hE
  subst hN
  exact hE.mono fun e w' ⟨ad, cap, he, hi, hm⟩ => ⟨ad, cap, he, ⟨hm.sh.cellAt (o := 0) rfl, hm.sh.cellAt (o := 1) rfl, hm.sh.cellAt (o := 2) rfl, hm.sh.cellAt (o := 3) rfl⟩, ⟨hm.sh.frozen (o := 0), hm.sh.frozen (o := 1), hm.sh.frozen (o := 2), hm.sh.frozen (o := 3)⟩, hm.sh.lt, fun o => hm.give o ⟨si, st, sm, sd⟩ ad cap hi is 0⟩
end Go.Proofs.Ytpbfjcgncfdfnaa
namespace Go.Proofs.Ytpbfjcgncfdfnaa
open Go.RowKit Go.Maps
set_option linter.unusedVariables false
set_option linter.unusedSimpArgs false
set_option maxRecDepth 100000 in
set_option maxHeartbeats 4000000 in
theorem take_near_nl (p : Nat) (v : Value) (g : Ga) (c : Ch) (w : World) (hr : RowIs w p (gaC v g) 50) (hb : BSl w 0 v g.tx) (hz : g.tx.length ≤ 262144) (hv : ∀ b, v.ownBlock = some b → b ≠ p) (h0 : c.at_ ≠ 0) (hf : g.bg = true ∧ c.ix = g.ix ∧ c.tm = g.tm ∧ c.at_ = g.tx.length) (hs : c.da.size ≤ maxLen) (hfit : g.tx.length + c.da.size ≤ 262144) (hls : c.ls = false) :
    Calls Try.prog 7 #[.pointer (some ⟨p, 0, none⟩), .agg #[.int .i64 c.ix, .int .i64 c.tm, .int .i64 c.at_, .bool c.ls, .string c.da]] w fun e w' => Took p v (⟨true, g.ix, g.tm, (g.tx ++ c.da.data.toList)⟩, (sh0, false), ((g.tx ++ c.da.data.toList).length : Int)) w e w' := by
  obtain ⟨ad, cap, rfl⟩ := hb.size
  have M0 := hid (Mid.init c hr hb hv)
  
  
  obtain ⟨bg, ix, tm, tx⟩ := g
  obtain ⟨ci, ct, ca, cl, cd⟩ := c
  simp only [gaC] at *
  have c0 := hr.cellAt (o := 0) rfl
  have c1 := hr.cellAt (o := 1) rfl
  have c2 := hr.cellAt (o := 2) rfl
  have c3 := hr.cellAt (o := 3) rfl
  have f0 := hr.frozen (o := 0)
  have f1 := hr.frozen (o := 1)
  have f2 := hr.frozen (o := 2)
  have f3 := hr.frozen (o := 3)
  have hlt := hr.lt
  have h02 : (ca == 0) = false := by simpa using h0
  obtain ⟨rfl, hi, ht, ha⟩ := hf
  have hi2 : (ci != ix) = false := by simp [hi]
  have ht2 : (ct != tm) = false := by simp [ht]
  have ha2 : (ca != (tx.length : Int)) = false := by simp [ha]
  have hft : ((cd.size : Int) > 262144 - (tx.length : Int)) = False := by simp; omega
  subst hls
  have HB : Hid (BSl ((w.alloc (.cells #[.int .i64 ci, .int .i64 ct, .int .i64 ca, .bool false, .string cd] 34)).alloc (.cells #[.int .i64 0, .int .i64 0, .slice none 0 0, .string ⟨#[]⟩] 30)) 0 (.slice ad tx.length cap) tx) := M0.out.bs
  have HLN : Hid ((tx).length + cd.size ≤ 140737488355328) := by show _ ≤ _; omega
  have hcd : cd.data.toList.length = cd.size := by rw [Array.length_toList]; rfl
  have hfl : (tx ++ cd.data.toList).length ≤ 262144 := by rw [List.length_append, hcd]; omega
  have MR : Hid (∀ v1 w1, More ((w.alloc (.cells #[.int .i64 ci, .int .i64 ct, .int .i64 ca, .bool false, .string cd] 34)).alloc (.cells #[.int .i64 0, .int .i64 0, .slice none 0 0, .string ⟨#[]⟩] 30)) (.slice ad tx.length cap) tx cd.data.toList v1 w1 → ∃ ad1 cap1, v1 = .slice ad1 (tx ++ cd.data.toList).length cap1 ∧ w1.cell? ⟨w.heap.size, 3, none⟩ = some (.bool false) ∧ w1.cell? ⟨w.heap.size, 4, none⟩ = some (.string cd) ∧ w1.cell? ⟨p, 3, none⟩ = some (.slice ad tx.length cap) ∧ w1.frozen? ⟨p, 3, none⟩ = false ∧ p < w1.heap.size ∧ w.heap.size < w1.heap.size ∧ (w1.cell? ⟨w.heap.size + 1, 0, none⟩ = some (.int .i64 0) ∧ w1.cell? ⟨w.heap.size + 1, 1, none⟩ = some (.int .i64 0) ∧ w1.cell? ⟨w.heap.size + 1, 2, none⟩ = some (.slice none 0 0) ∧ w1.cell? ⟨w.heap.size + 1, 3, none⟩ = some (.string ⟨#[]⟩)) ∧ (w1.frozen? ⟨w.heap.size + 1, 0, none⟩ = false ∧ w1.frozen? ⟨w.heap.size + 1, 1, none⟩ = false ∧ w1.frozen? ⟨w.heap.size + 1, 2, none⟩ = false ∧ w1.frozen? ⟨w.heap.size + 1, 3, none⟩ = false) ∧ Hid (Mid w p (.slice ad tx.length cap) (.slice ad1 (tx ++ cd.data.toList).length cap1) ⟨true, ix, tm, (tx ++ cd.data.toList)⟩ ⟨ci, ct, ca, false, cd⟩ (w1.setCell ⟨p, 3, none⟩ (.slice ad1 (tx ++ cd.data.toList).length cap1)))) := fun v1 w1 hm => by
    obtain ⟨ad1, cap1, rfl⟩ := hm.is.size
    obtain ⟨q1, q2, q4, q3⟩ := M0.out.more hm
    exact ⟨ad1, cap1, rfl, q2.cellAt (o := 3) rfl, q2.cellAt (o := 4) rfl, q1.cellAt (o := 3) rfl, q1.frozen (o := 3), q1.lt, q2.lt, ⟨q4.cellAt (o := 0) rfl, q4.cellAt (o := 1) rfl, q4.cellAt (o := 2) rfl, q4.cellAt (o := 3) rfl⟩, ⟨q4.frozen (o := 0), q4.frozen (o := 1), q4.frozen (o := 2), q4.frozen (o := 3)⟩, q3⟩
  
  have HFL := hid hfl
  clear hr hb hv hz hfl hcd M0
  obtain ⟨TX, hTX⟩ : ∃ TX, TX = (tx ++ cd.data.toList) := ⟨_, rfl⟩
  rw [← hTX] at MR HFL ⊢
  clear hTX
  obtain ⟨M, hM⟩ : ∃ M, M = TX.length := ⟨_, rfl⟩
  rw [← hM] at MR
  rw [← hM]
  have HM := hid hM
  clear hM
  clear hi ht ha h0
  generalize hl : tx.length = L at *
  go_enter Try.func7, Try.ntmps7
  go_wp2
  go_region
  go_wp2
  go_region
  go_wp2
  go_region
  go_wp2
  go_region_law (refine step_more (w0 := ((w.alloc (.cells #[.int .i64 ci, .int .i64 ct, .int .i64 ca, .bool false, .string cd] 34)).alloc (.cells #[.int .i64 0, .int .i64 0, .slice none 0 0, .string ⟨#[]⟩] 30))) (by rfl) _ _ (by rfl) (.slice ad L cap) tx cd (by rfl) (by with_reducible first | exact Keep.refl _ _ | exact keep_drew _ _ | exact (keep_drew _ _).trans (keep_drew _ _) | exact ((keep_drew _ _).trans (keep_drew _ _)).trans (keep_drew _ _) | exact (((keep_drew _ _).trans (keep_drew _ _)).trans (keep_drew _ _)).trans (keep_drew _ _)) (by rfl) (by rfl) HB.out (by first | exact HLN.out | (rw [hl]; exact HLN.out)) ?_; intro v1 w1 hm1; obtain ⟨ad1, cap1, rfl, q1, q2, q3, q4, q5, q6, ⟨x0, x1, x2, x3⟩, ⟨y0, y1, y2, y3⟩, q7⟩ := MR.out _ _ hm1)
  all_goals
    clear MR HB HLN hm1
    go_wp2_with fail
    repeat (go_region; go_wp2)
    refine bodyPost_ret (ret_st3 (p := 4) (u := 5) (u2 := 6) rfl _ _ (w.heap.size + 1) _ _ _ rfl rfl rfl (run_loadVar_row _ _ _ _ _ _ _ (q7.out.zeros.on ?_).sh Try.underlying30 rfl (by kernel_rfl))) rfl ((q7.out.zeros.on ?_).took _) <;> with_reducible first | exact Keep.refl _ _ | exact keep_drew _ _ | exact (keep_drew _ _).trans (keep_drew _ _) | exact ((keep_drew _ _).trans (keep_drew _ _)).trans (keep_drew _ _) | exact (((keep_drew _ _).trans (keep_drew _ _)).trans (keep_drew _ _)).trans (keep_drew _ _)
set_option maxRecDepth 100000 in
set_option maxHeartbeats 4000000 in
theorem take_near_last (p : Nat) (v : Value) (g : Ga) (c : Ch) (w : World) (hr : RowIs w p (gaC v g) 50) (hb : BSl w 0 v g.tx) (hz : g.tx.length ≤ 262144) (hv : ∀ b, v.ownBlock = some b → b ≠ p) (h0 : c.at_ ≠ 0) (hf : g.bg = true ∧ c.ix = g.ix ∧ c.tm = g.tm ∧ c.at_ = g.tx.length) (hs : c.da.size ≤ maxLen) (hfit : g.tx.length + c.da.size ≤ 262144) (hls : c.ls = true) :
    Calls Try.prog 7 #[.pointer (some ⟨p, 0, none⟩), .agg #[.int .i64 c.ix, .int .i64 c.tm, .int .i64 c.at_, .bool c.ls, .string c.da]] w fun e w' => Took p v (ga0, endS g.ix g.tm (g.tx ++ c.da.data.toList), 0) w e w' := by
  obtain ⟨ad, cap, rfl⟩ := hb.size
  have M0 := hid (Mid.init c hr hb hv)
  
  
  obtain ⟨bg, ix, tm, tx⟩ := g
  obtain ⟨ci, ct, ca, cl, cd⟩ := c
  simp only [gaC] at *
  have c0 := hr.cellAt (o := 0) rfl
  have c1 := hr.cellAt (o := 1) rfl
  have c2 := hr.cellAt (o := 2) rfl
  have c3 := hr.cellAt (o := 3) rfl
  have f0 := hr.frozen (o := 0)
  have f1 := hr.frozen (o := 1)
  have f2 := hr.frozen (o := 2)
  have f3 := hr.frozen (o := 3)
  have hlt := hr.lt
  have h02 : (ca == 0) = false := by simpa using h0
  obtain ⟨rfl, hi, ht, ha⟩ := hf
  have hi2 : (ci != ix) = false := by simp [hi]
  have ht2 : (ct != tm) = false := by simp [ht]
  have ha2 : (ca != (tx.length : Int)) = false := by simp [ha]
  have hft : ((cd.size : Int) > 262144 - (tx.length : Int)) = False := by simp; omega
  subst hls
  have HB : Hid (BSl ((w.alloc (.cells #[.int .i64 ci, .int .i64 ct, .int .i64 ca, .bool true, .string cd] 34)).alloc (.cells #[.int .i64 0, .int .i64 0, .slice none 0 0, .string ⟨#[]⟩] 30)) 0 (.slice ad tx.length cap) tx) := M0.out.bs
  have HLN : Hid ((tx).length + cd.size ≤ 140737488355328) := by show _ ≤ _; omega
  have hcd : cd.data.toList.length = cd.size := by rw [Array.length_toList]; rfl
  have hfl : (tx ++ cd.data.toList).length ≤ 262144 := by rw [List.length_append, hcd]; omega
  have MR : Hid (∀ v1 w1, More ((w.alloc (.cells #[.int .i64 ci, .int .i64 ct, .int .i64 ca, .bool true, .string cd] 34)).alloc (.cells #[.int .i64 0, .int .i64 0, .slice none 0 0, .string ⟨#[]⟩] 30)) (.slice ad tx.length cap) tx cd.data.toList v1 w1 → ∃ ad1 cap1, v1 = .slice ad1 (tx ++ cd.data.toList).length cap1 ∧ w1.cell? ⟨w.heap.size, 3, none⟩ = some (.bool true) ∧ w1.cell? ⟨w.heap.size, 4, none⟩ = some (.string cd) ∧ w1.cell? ⟨p, 3, none⟩ = some (.slice ad tx.length cap) ∧ w1.frozen? ⟨p, 3, none⟩ = false ∧ p < w1.heap.size ∧ w.heap.size < w1.heap.size ∧ (w1.cell? ⟨w.heap.size + 1, 0, none⟩ = some (.int .i64 0) ∧ w1.cell? ⟨w.heap.size + 1, 1, none⟩ = some (.int .i64 0) ∧ w1.cell? ⟨w.heap.size + 1, 2, none⟩ = some (.slice none 0 0) ∧ w1.cell? ⟨w.heap.size + 1, 3, none⟩ = some (.string ⟨#[]⟩)) ∧ (w1.frozen? ⟨w.heap.size + 1, 0, none⟩ = false ∧ w1.frozen? ⟨w.heap.size + 1, 1, none⟩ = false ∧ w1.frozen? ⟨w.heap.size + 1, 2, none⟩ = false ∧ w1.frozen? ⟨w.heap.size + 1, 3, none⟩ = false) ∧ Hid (Mid w p (.slice ad tx.length cap) (.slice ad1 (tx ++ cd.data.toList).length cap1) ⟨true, ix, tm, (tx ++ cd.data.toList)⟩ ⟨ci, ct, ca, true, cd⟩ (w1.setCell ⟨p, 3, none⟩ (.slice ad1 (tx ++ cd.data.toList).length cap1)))) := fun v1 w1 hm => by
    obtain ⟨ad1, cap1, rfl⟩ := hm.is.size
    obtain ⟨q1, q2, q4, q3⟩ := M0.out.more hm
    exact ⟨ad1, cap1, rfl, q2.cellAt (o := 3) rfl, q2.cellAt (o := 4) rfl, q1.cellAt (o := 3) rfl, q1.frozen (o := 3), q1.lt, q2.lt, ⟨q4.cellAt (o := 0) rfl, q4.cellAt (o := 1) rfl, q4.cellAt (o := 2) rfl, q4.cellAt (o := 3) rfl⟩, ⟨q4.frozen (o := 0), q4.frozen (o := 1), q4.frozen (o := 2), q4.frozen (o := 3)⟩, q3⟩
  
  have HFL := hid hfl
  clear hr hb hv hz hfl hcd M0
  obtain ⟨TX, hTX⟩ : ∃ TX, TX = (tx ++ cd.data.toList) := ⟨_, rfl⟩
  rw [← hTX] at MR HFL ⊢
  clear hTX
  obtain ⟨M, hM⟩ : ∃ M, M = TX.length := ⟨_, rfl⟩
  rw [← hM] at MR
  have HM := hid hM
  clear hM
  clear hi ht ha h0
  generalize hl : tx.length = L at *
  obtain ⟨X, hX⟩ : ∃ X, X = endS ix tm TX := ⟨_, rfl⟩
  rw [← hX]
  obtain ⟨⟨si, st, sm, sd⟩, is⟩ := X
  have HX := hid hX.symm
  obtain ⟨N, hN⟩ : ∃ N, sm.length = N := ⟨_, rfl⟩
  have HN := hid hN
  clear hX hN
  go_enter Try.func7, Try.ntmps7
  go_wp2
  go_region
  go_wp2
  go_region
  go_wp2
  go_region
  go_wp2
  go_region_law (refine step_more (w0 := ((w.alloc (.cells #[.int .i64 ci, .int .i64 ct, .int .i64 ca, .bool true, .string cd] 34)).alloc (.cells #[.int .i64 0, .int .i64 0, .slice none 0 0, .string ⟨#[]⟩] 30))) (by rfl) _ _ (by rfl) (.slice ad L cap) tx cd (by rfl) (by with_reducible first | exact Keep.refl _ _ | exact keep_drew _ _ | exact (keep_drew _ _).trans (keep_drew _ _) | exact ((keep_drew _ _).trans (keep_drew _ _)).trans (keep_drew _ _) | exact (((keep_drew _ _).trans (keep_drew _ _)).trans (keep_drew _ _)).trans (keep_drew _ _)) (by rfl) (by rfl) HB.out (by first | exact HLN.out | (rw [hl]; exact HLN.out)) ?_; intro v1 w1 hm1; obtain ⟨ad1, cap1, rfl, q1, q2, q3, q4, q5, q6, ⟨x0, x1, x2, x3⟩, ⟨y0, y1, y2, y3⟩, q7⟩ := MR.out _ _ hm1)
  all_goals
    clear MR HB HLN hm1
    go_wp2_with fail
    refine ((q7.out.on (B' := _) (by with_reducible first | exact Keep.refl _ _ | exact keep_drew _ _ | exact (keep_drew _ _).trans (keep_drew _ _) | exact ((keep_drew _ _).trans (keep_drew _ _)).trans (keep_drew _ _) | exact (((keep_drew _ _).trans (keep_drew _ _)).trans (keep_drew _ _)).trans (keep_drew _ _))).last HFL.out _ _ _ _ _ _ HX.out HN.out).mono ?_
    rintro e w3 ⟨ad2, cap2, rfl, ⟨x0, x1, x2, x3⟩, ⟨y0, y1, y2, y3⟩, hls, HL⟩
    clear q1 q2 q3 q4 q5 q6 q7 c0 c1 c2 c3 f0 f1 f2 f3
    go_wp2
    obtain ⟨HR, HT⟩ := HL.out (.cells #[.int .i64 si, .int .i64 st, .slice ad2 N cap2, .string sd] 30)
    exact bodyPost_ret (ret_st3 (p := 4) (u := 5) (u2 := 6) rfl _ _ (w.heap.size + 1) _ _ _ rfl rfl rfl (run_loadVar_row _ _ _ _ _ _ _ HR.out Try.underlying30 rfl (by kernel_rfl))) rfl HT.out
end Go.Proofs.Ytpbfjcgncfdfnaa
namespace Go.Proofs.Ytpbfjcgncfdfnaa
open Go.RowKit Go.Maps
set_option linter.unusedVariables false
set_option linter.unusedSimpArgs false
set_option maxRecDepth 100000 in
set_option maxHeartbeats 4000000 in
theorem take_near_big (p : Nat) (v : Value) (g : Ga) (c : Ch) (w : World) (hr : RowIs w p (gaC v g) 50) (hb : BSl w 0 v g.tx) (hz : g.tx.length ≤ 262144) (hv : ∀ b, v.ownBlock = some b → b ≠ p) (h0 : c.at_ ≠ 0) (hf : g.bg = true ∧ c.ix = g.ix ∧ c.tm = g.tm ∧ c.at_ = g.tx.length) (hs : c.da.size ≤ maxLen) (hfit : ¬ g.tx.length + c.da.size ≤ 262144) :
    Calls Try.prog 7 #[.pointer (some ⟨p, 0, none⟩), .agg #[.int .i64 c.ix, .int .i64 c.tm, .int .i64 c.at_, .bool c.ls, .string c.da]] w fun e w' => Took p v (ga0, (sh0, false), 0) w e w' := by
  obtain ⟨ad, cap, rfl⟩ := hb.size
  have M0 := hid (Mid.init c hr hb hv)
  
  have MB := hid (Mid.initZ c hr hb false 0 0)
  obtain ⟨bg, ix, tm, tx⟩ := g
  obtain ⟨ci, ct, ca, cl, cd⟩ := c
  simp only [gaC] at *
  have c0 := hr.cellAt (o := 0) rfl
  have c1 := hr.cellAt (o := 1) rfl
  have c2 := hr.cellAt (o := 2) rfl
  have c3 := hr.cellAt (o := 3) rfl
  have f0 := hr.frozen (o := 0)
  have f1 := hr.frozen (o := 1)
  have f2 := hr.frozen (o := 2)
  have f3 := hr.frozen (o := 3)
  have hlt := hr.lt
  have h02 : (ca == 0) = false := by simpa using h0
  obtain ⟨rfl, hi, ht, ha⟩ := hf
  have hi2 : (ci != ix) = false := by simp [hi]
  have ht2 : (ct != tm) = false := by simp [ht]
  have ha2 : (ca != (tx.length : Int)) = false := by simp [ha]
  have hft : ((cd.size : Int) > 262144 - (tx.length : Int)) = True := by simp; omega
  clear hr hb hv M0
  clear hi ht ha h0
  generalize hl : tx.length = L at *
  clear hl
  go_enter Try.func7, Try.ntmps7
  go_wp2
  repeat (go_region; go_wp2)
  refine bodyPost_ret (ret_st3 (p := 4) (u := 5) (u2 := 6) rfl _ _ (w.heap.size + 1) _ _ _ rfl rfl rfl (run_loadVar_row _ _ _ _ _ _ _ (MB.out.on ?_).sh Try.underlying30 rfl (by kernel_rfl))) rfl ((MB.out.on ?_).took _) <;> with_reducible first | exact Keep.refl _ _ | exact keep_drew _ _ | exact (keep_drew _ _).trans (keep_drew _ _) | exact ((keep_drew _ _).trans (keep_drew _ _)).trans (keep_drew _ _) | exact (((keep_drew _ _).trans (keep_drew _ _)).trans (keep_drew _ _)).trans (keep_drew _ _)
end Go.Proofs.Ytpbfjcgncfdfnaa
namespace Go.Proofs.Ytpbfjcgncfdfnaa
open Go.RowKit Go.Maps
set_option linter.unusedVariables false
set_option linter.unusedSimpArgs false
theorem Mid.initY {w w1 : World} {p : Nat} {v v1 : Value} {g g1 : Ga} (c : Ch) (hr : RowIs w p (gaC v g) 50) (hb : BSl w 0 v g.tx) (hr1 : RowIs w1 p (gaC v1 g1) 50) (hk1 : Keep (· = p) w w1) (hs1 : w1.heap.size = w.heap.size) (b : Bool) (i t : Int) :
    Mid w p v (.slice none 0 0) ⟨b, i, t, []⟩ c ((((((w1.setCell ⟨p, 0, none⟩ (.bool b)).setCell ⟨p, 1, none⟩ (.int .i64 i)).setCell ⟨p, 2, none⟩ (.int .i64 t)).setCell ⟨p, 3, none⟩ (.slice none 0 0)).alloc (.cells #[.int .i64 c.ix, .int .i64 c.tm, .int .i64 c.at_, .bool c.ls, .string c.da] 34)).alloc (.cells #[.int .i64 0, .int .i64 0, .slice none 0 0, .string ⟨#[]⟩] 30)) := by
  obtain ⟨hrz, hkz⟩ := gz w1 p v1 g1 hr1 b i t (.slice none 0 0)
  have hp := hr.lt
  obtain ⟨wz, hwz⟩ : ∃ wz, wz = ((((w1.setCell ⟨p, 0, none⟩ (.bool b)).setCell ⟨p, 1, none⟩ (.int .i64 i)).setCell ⟨p, 2, none⟩ (.int .i64 t)).setCell ⟨p, 3, none⟩ (.slice none 0 0)) := ⟨_, rfl⟩
  rw [← hwz] at hrz hkz ⊢
  have hsz : wz.heap.size = w.heap.size := by rw [hwz]; simp [World.setCell]; simpa using hs1
  have k1 := keep_alloc (fun _ => False) wz (.cells #[.int .i64 c.ix, .int .i64 c.tm, .int .i64 c.at_, .bool c.ls, .string c.da] 34)
  have k2 := keep_alloc (fun _ => False) (wz.alloc (.cells #[.int .i64 c.ix, .int .i64 c.tm, .int .i64 c.at_, .bool c.ls, .string c.da] 34)) (.cells #[.int .i64 0, .int .i64 0, .slice none 0 0, .string ⟨#[]⟩] 30)
  have hc := RowIs.keep (heap_alloc_new wz (.cells #[.int .i64 c.ix, .int .i64 c.tm, .int .i64 c.at_, .bool c.ls, .string c.da] 34)) k2 (fun h => h)
  have hs := boxU (w := wz) (C := (.cells #[.int .i64 c.ix, .int .i64 c.tm, .int .i64 c.at_, .bool c.ls, .string c.da] 34)) (Keep.refl _ _)
  rw [hsz] at hc hs
  have k := k1.trans k2
  exact ⟨hrz.keep k (fun h => h), .inl ⟨rfl, rfl⟩, fun b e => (by simp [Value.ownBlock] at e), fun b e => (by simp [Value.ownBlock] at e), fun b e => bsl_block hb e, hp, hc, hs, ((hk1.trans hkz).mono (fun _ _ h => .inl h)).trans (k.mono (fun _ _ h => h.elim))⟩
set_option maxRecDepth 100000 in
set_option maxHeartbeats 4000000 in
theorem take_zero_big (p : Nat) (v : Value) (g : Ga) (c : Ch) (w : World) (hr : RowIs w p (gaC v g) 50) (hb : BSl w 0 v g.tx) (hz : g.tx.length ≤ 262144) (hv : ∀ b, v.ownBlock = some b → b ≠ p) (h0 : c.at_ = 0) (hs : c.da.size ≤ maxLen) (hfit : ¬ c.da.size ≤ 262144) :
    Calls Try.prog 7 #[.pointer (some ⟨p, 0, none⟩), .agg #[.int .i64 c.ix, .int .i64 c.tm, .int .i64 c.at_, .bool c.ls, .string c.da]] w fun e w' => Took p v (ga0, (sh0, false), 0) w e w' := by
  obtain ⟨ad, cap, rfl⟩ := hb.size
  have M0 := hid (Mid.init c hr hb hv)
  have MZ := hid (Mid.initZ c hr hb true c.ix c.tm)
  have MB := hid (Mid.initY (v1 := .slice none 0 0) (g1 := ⟨true, c.ix, c.tm, []⟩) c hr hb (gz w p _ g hr true c.ix c.tm (.slice none 0 0)).1 (gz w p _ g hr true c.ix c.tm (.slice none 0 0)).2 (by simp [World.setCell]) false 0 0)
  obtain ⟨bg, ix, tm, tx⟩ := g
  obtain ⟨ci, ct, ca, cl, cd⟩ := c
  simp only [gaC] at *
  have c0 := hr.cellAt (o := 0) rfl
  have c1 := hr.cellAt (o := 1) rfl
  have c2 := hr.cellAt (o := 2) rfl
  have c3 := hr.cellAt (o := 3) rfl
  have f0 := hr.frozen (o := 0)
  have f1 := hr.frozen (o := 1)
  have f2 := hr.frozen (o := 2)
  have f3 := hr.frozen (o := 3)
  have hlt := hr.lt
  subst h0
  have hft : ((cd.size : Int) > 262144) = True := by simp; omega
  obtain ⟨hrz, -⟩ := gz w p _ ⟨bg, ix, tm, tx⟩ hr true ci ct (.slice none 0 0)
  have Z : Hid (((((w.setCell ⟨p, 0, none⟩ (.bool true)).setCell ⟨p, 1, none⟩ (.int .i64 ci)).setCell ⟨p, 2, none⟩ (.int .i64 ct)).setCell ⟨p, 3, none⟩ (.slice none 0 0)).cell? ⟨p, 0, none⟩ = some (.bool true) ∧ ((((w.setCell ⟨p, 0, none⟩ (.bool true)).setCell ⟨p, 1, none⟩ (.int .i64 ci)).setCell ⟨p, 2, none⟩ (.int .i64 ct)).setCell ⟨p, 3, none⟩ (.slice none 0 0)).cell? ⟨p, 1, none⟩ = some (.int .i64 ci) ∧ ((((w.setCell ⟨p, 0, none⟩ (.bool true)).setCell ⟨p, 1, none⟩ (.int .i64 ci)).setCell ⟨p, 2, none⟩ (.int .i64 ct)).setCell ⟨p, 3, none⟩ (.slice none 0 0)).cell? ⟨p, 2, none⟩ = some (.int .i64 ct) ∧ ((((w.setCell ⟨p, 0, none⟩ (.bool true)).setCell ⟨p, 1, none⟩ (.int .i64 ci)).setCell ⟨p, 2, none⟩ (.int .i64 ct)).setCell ⟨p, 3, none⟩ (.slice none 0 0)).cell? ⟨p, 3, none⟩ = some (.slice none 0 0) ∧ ((((w.setCell ⟨p, 0, none⟩ (.bool true)).setCell ⟨p, 1, none⟩ (.int .i64 ci)).setCell ⟨p, 2, none⟩ (.int .i64 ct)).setCell ⟨p, 3, none⟩ (.slice none 0 0)).frozen? ⟨p, 0, none⟩ = false ∧ ((((w.setCell ⟨p, 0, none⟩ (.bool true)).setCell ⟨p, 1, none⟩ (.int .i64 ci)).setCell ⟨p, 2, none⟩ (.int .i64 ct)).setCell ⟨p, 3, none⟩ (.slice none 0 0)).frozen? ⟨p, 1, none⟩ = false ∧ ((((w.setCell ⟨p, 0, none⟩ (.bool true)).setCell ⟨p, 1, none⟩ (.int .i64 ci)).setCell ⟨p, 2, none⟩ (.int .i64 ct)).setCell ⟨p, 3, none⟩ (.slice none 0 0)).frozen? ⟨p, 2, none⟩ = false ∧ ((((w.setCell ⟨p, 0, none⟩ (.bool true)).setCell ⟨p, 1, none⟩ (.int .i64 ci)).setCell ⟨p, 2, none⟩ (.int .i64 ct)).setCell ⟨p, 3, none⟩ (.slice none 0 0)).frozen? ⟨p, 3, none⟩ = false ∧ ((((w.setCell ⟨p, 0, none⟩ (.bool true)).setCell ⟨p, 1, none⟩ (.int .i64 ci)).setCell ⟨p, 2, none⟩ (.int .i64 ct)).setCell ⟨p, 3, none⟩ (.slice none 0 0)).heap.size = w.heap.size) := ⟨hrz.cellAt (o := 0) rfl, hrz.cellAt (o := 1) rfl, hrz.cellAt (o := 2) rfl, hrz.cellAt (o := 3) rfl, hrz.frozen (o := 0), hrz.frozen (o := 1), hrz.frozen (o := 2), hrz.frozen (o := 3), by simp [World.setCell]⟩
  clear hrz
  clear hr hb hv M0 MZ
  go_enter Try.func7, Try.ntmps7
  go_wp2
  generalize ((((w.setCell ⟨p, 0, none⟩ (.bool true)).setCell ⟨p, 1, none⟩ (.int .i64 ci)).setCell ⟨p, 2, none⟩ (.int .i64 ct)).setCell ⟨p, 3, none⟩ (.slice none 0 0)) = wz at *
  obtain ⟨z0, z1, z2, z3, zf0, zf1, zf2, zf3, zs⟩ := Z.out
  clear Z c0 c1 c2 c3 f0 f1 f2 f3
  repeat (go_region; go_wp2)
  refine bodyPost_ret (ret_st3 (p := 4) (u := 5) (u2 := 6) rfl _ _ (w.heap.size + 1) _ _ _ rfl rfl rfl (run_loadVar_row _ _ _ _ _ _ _ (MB.out.on ?_).sh Try.underlying30 rfl (by kernel_rfl))) rfl ((MB.out.on ?_).took _) <;> with_reducible first | exact Keep.refl _ _ | exact keep_drew _ _ | exact (keep_drew _ _).trans (keep_drew _ _) | exact ((keep_drew _ _).trans (keep_drew _ _)).trans (keep_drew _ _) | exact (((keep_drew _ _).trans (keep_drew _ _)).trans (keep_drew _ _)).trans (keep_drew _ _)
end Go.Proofs.Ytpbfjcgncfdfnaa
namespace Go.Proofs.Ytpbfjcgncfdfnaa
open Go.RowKit Go.Maps
set_option linter.unusedVariables false
set_option linter.unusedSimpArgs false
set_option maxRecDepth 100000 in
set_option maxHeartbeats 4000000 in
theorem take_zero_nl (p : Nat) (v : Value) (g : Ga) (c : Ch) (w : World) (hr : RowIs w p (gaC v g) 50) (hb : BSl w 0 v g.tx) (hz : g.tx.length ≤ 262144) (hv : ∀ b, v.ownBlock = some b → b ≠ p) (h0 : c.at_ = 0) (hs : c.da.size ≤ maxLen) (hfit : c.da.size ≤ 262144) (hls : c.ls = false) :
    Calls Try.prog 7 #[.pointer (some ⟨p, 0, none⟩), .agg #[.int .i64 c.ix, .int .i64 c.tm, .int .i64 c.at_, .bool c.ls, .string c.da]] w fun e w' => Took p v (⟨true, c.ix, c.tm, c.da.data.toList⟩, (sh0, false), (c.da.data.toList.length : Int)) w e w' := by
  obtain ⟨ad, cap, rfl⟩ := hb.size
  have M0 := hid (Mid.init c hr hb hv)
  have MZ := hid (Mid.initZ c hr hb true c.ix c.tm)
  
  obtain ⟨bg, ix, tm, tx⟩ := g
  obtain ⟨ci, ct, ca, cl, cd⟩ := c
  simp only [gaC] at *
  have c0 := hr.cellAt (o := 0) rfl
  have c1 := hr.cellAt (o := 1) rfl
  have c2 := hr.cellAt (o := 2) rfl
  have c3 := hr.cellAt (o := 3) rfl
  have f0 := hr.frozen (o := 0)
  have f1 := hr.frozen (o := 1)
  have f2 := hr.frozen (o := 2)
  have f3 := hr.frozen (o := 3)
  have hlt := hr.lt
  subst h0
  have hft : ((cd.size : Int) > 262144) = False := by simp; omega
  subst hls
  have HB : Hid (BSl ((((((w.setCell ⟨p, 0, none⟩ (.bool true)).setCell ⟨p, 1, none⟩ (.int .i64 ci)).setCell ⟨p, 2, none⟩ (.int .i64 ct)).setCell ⟨p, 3, none⟩ (.slice none 0 0)).alloc (.cells #[.int .i64 ci, .int .i64 ct, .int .i64 0, .bool false, .string cd] 34)).alloc (.cells #[.int .i64 0, .int .i64 0, .slice none 0 0, .string ⟨#[]⟩] 30)) 0 (.slice none 0 0) ([] : Bs)) := MZ.out.bs
  have HLN : Hid ((([] : Bs)).length + cd.size ≤ 140737488355328) := by show _ ≤ _; simp only [List.length_nil]; omega
  have hcd : cd.data.toList.length = cd.size := by rw [Array.length_toList]; rfl
  have hfl : (([] : Bs) ++ cd.data.toList).length ≤ 262144 := by rw [List.length_append, hcd]; simp only [List.length_nil]; omega
  have MR : Hid (∀ v1 w1, More ((((((w.setCell ⟨p, 0, none⟩ (.bool true)).setCell ⟨p, 1, none⟩ (.int .i64 ci)).setCell ⟨p, 2, none⟩ (.int .i64 ct)).setCell ⟨p, 3, none⟩ (.slice none 0 0)).alloc (.cells #[.int .i64 ci, .int .i64 ct, .int .i64 0, .bool false, .string cd] 34)).alloc (.cells #[.int .i64 0, .int .i64 0, .slice none 0 0, .string ⟨#[]⟩] 30)) (.slice none 0 0) ([] : Bs) cd.data.toList v1 w1 → ∃ ad1 cap1, v1 = .slice ad1 (([] : Bs) ++ cd.data.toList).length cap1 ∧ w1.cell? ⟨w.heap.size, 3, none⟩ = some (.bool false) ∧ w1.cell? ⟨w.heap.size, 4, none⟩ = some (.string cd) ∧ w1.cell? ⟨p, 3, none⟩ = some (.slice none 0 0) ∧ w1.frozen? ⟨p, 3, none⟩ = false ∧ p < w1.heap.size ∧ w.heap.size < w1.heap.size ∧ (w1.cell? ⟨w.heap.size + 1, 0, none⟩ = some (.int .i64 0) ∧ w1.cell? ⟨w.heap.size + 1, 1, none⟩ = some (.int .i64 0) ∧ w1.cell? ⟨w.heap.size + 1, 2, none⟩ = some (.slice none 0 0) ∧ w1.cell? ⟨w.heap.size + 1, 3, none⟩ = some (.string ⟨#[]⟩)) ∧ (w1.frozen? ⟨w.heap.size + 1, 0, none⟩ = false ∧ w1.frozen? ⟨w.heap.size + 1, 1, none⟩ = false ∧ w1.frozen? ⟨w.heap.size + 1, 2, none⟩ = false ∧ w1.frozen? ⟨w.heap.size + 1, 3, none⟩ = false) ∧ Hid (Mid w p (.slice ad tx.length cap) (.slice ad1 (([] : Bs) ++ cd.data.toList).length cap1) ⟨true, ci, ct, (([] : Bs) ++ cd.data.toList)⟩ ⟨ci, ct, 0, false, cd⟩ (w1.setCell ⟨p, 3, none⟩ (.slice ad1 (([] : Bs) ++ cd.data.toList).length cap1)))) := fun v1 w1 hm => by
    obtain ⟨ad1, cap1, rfl⟩ := hm.is.size
    obtain ⟨q1, q2, q4, q3⟩ := MZ.out.more hm
    exact ⟨ad1, cap1, rfl, q2.cellAt (o := 3) rfl, q2.cellAt (o := 4) rfl, q1.cellAt (o := 3) rfl, q1.frozen (o := 3), q1.lt, q2.lt, ⟨q4.cellAt (o := 0) rfl, q4.cellAt (o := 1) rfl, q4.cellAt (o := 2) rfl, q4.cellAt (o := 3) rfl⟩, ⟨q4.frozen (o := 0), q4.frozen (o := 1), q4.frozen (o := 2), q4.frozen (o := 3)⟩, q3⟩
  obtain ⟨hrz, -⟩ := gz w p _ ⟨bg, ix, tm, tx⟩ hr true ci ct (.slice none 0 0)
  have Z : Hid (((((w.setCell ⟨p, 0, none⟩ (.bool true)).setCell ⟨p, 1, none⟩ (.int .i64 ci)).setCell ⟨p, 2, none⟩ (.int .i64 ct)).setCell ⟨p, 3, none⟩ (.slice none 0 0)).cell? ⟨p, 0, none⟩ = some (.bool true) ∧ ((((w.setCell ⟨p, 0, none⟩ (.bool true)).setCell ⟨p, 1, none⟩ (.int .i64 ci)).setCell ⟨p, 2, none⟩ (.int .i64 ct)).setCell ⟨p, 3, none⟩ (.slice none 0 0)).cell? ⟨p, 1, none⟩ = some (.int .i64 ci) ∧ ((((w.setCell ⟨p, 0, none⟩ (.bool true)).setCell ⟨p, 1, none⟩ (.int .i64 ci)).setCell ⟨p, 2, none⟩ (.int .i64 ct)).setCell ⟨p, 3, none⟩ (.slice none 0 0)).cell? ⟨p, 2, none⟩ = some (.int .i64 ct) ∧ ((((w.setCell ⟨p, 0, none⟩ (.bool true)).setCell ⟨p, 1, none⟩ (.int .i64 ci)).setCell ⟨p, 2, none⟩ (.int .i64 ct)).setCell ⟨p, 3, none⟩ (.slice none 0 0)).cell? ⟨p, 3, none⟩ = some (.slice none 0 0) ∧ ((((w.setCell ⟨p, 0, none⟩ (.bool true)).setCell ⟨p, 1, none⟩ (.int .i64 ci)).setCell ⟨p, 2, none⟩ (.int .i64 ct)).setCell ⟨p, 3, none⟩ (.slice none 0 0)).frozen? ⟨p, 3, none⟩ = false ∧ ((((w.setCell ⟨p, 0, none⟩ (.bool true)).setCell ⟨p, 1, none⟩ (.int .i64 ci)).setCell ⟨p, 2, none⟩ (.int .i64 ct)).setCell ⟨p, 3, none⟩ (.slice none 0 0)).heap.size = w.heap.size) := ⟨hrz.cellAt (o := 0) rfl, hrz.cellAt (o := 1) rfl, hrz.cellAt (o := 2) rfl, hrz.cellAt (o := 3) rfl, hrz.frozen (o := 3), by simp [World.setCell]⟩
  clear hrz
  have HFL := hid hfl
  clear hr hb hv hz hfl hcd M0 MZ
  obtain ⟨TX, hTX⟩ : ∃ TX, TX = (([] : Bs) ++ cd.data.toList) := ⟨_, rfl⟩
  have hTX2 : cd.data.toList = TX := by rw [hTX]; rfl
  rw [hTX2]
  rw [← hTX] at MR HFL
  clear hTX hTX2
  obtain ⟨M, hM⟩ : ∃ M, M = TX.length := ⟨_, rfl⟩
  rw [← hM] at MR
  rw [← hM]
  have HM := hid hM
  clear hM
  go_enter Try.func7, Try.ntmps7
  go_wp2
  generalize ((((w.setCell ⟨p, 0, none⟩ (.bool true)).setCell ⟨p, 1, none⟩ (.int .i64 ci)).setCell ⟨p, 2, none⟩ (.int .i64 ct)).setCell ⟨p, 3, none⟩ (.slice none 0 0)) = wz at *
  obtain ⟨z0, z1, z2, z3, zf, zs⟩ := Z.out
  clear Z c0 c1 c2 c3 f0 f1 f2 f3
  go_region
  go_wp2
  go_region
  go_wp2
  go_region
  go_wp2
  go_region_law (refine step_more (w0 := ((wz.alloc (.cells #[.int .i64 ci, .int .i64 ct, .int .i64 0, .bool false, .string cd] 34)).alloc (.cells #[.int .i64 0, .int .i64 0, .slice none 0 0, .string ⟨#[]⟩] 30))) (by rfl) _ _ (by rfl) (.slice none 0 0) ([] : Bs) cd (by rfl) (by with_reducible first | exact Keep.refl _ _ | exact keep_drew _ _ | exact (keep_drew _ _).trans (keep_drew _ _) | exact ((keep_drew _ _).trans (keep_drew _ _)).trans (keep_drew _ _) | exact (((keep_drew _ _).trans (keep_drew _ _)).trans (keep_drew _ _)).trans (keep_drew _ _)) (by rfl) (by rfl) HB.out (by first | exact HLN.out | (rw [hl]; exact HLN.out)) ?_; intro v1 w1 hm1; obtain ⟨ad1, cap1, rfl, q1, q2, q3, q4, q5, q6, ⟨x0, x1, x2, x3⟩, ⟨y0, y1, y2, y3⟩, q7⟩ := MR.out _ _ hm1)
  all_goals
    clear MR HB HLN hm1
    go_wp2_with fail
    repeat (go_region; go_wp2)
    refine bodyPost_ret (ret_st3 (p := 4) (u := 5) (u2 := 6) rfl _ _ (w.heap.size + 1) _ _ _ rfl rfl rfl (run_loadVar_row _ _ _ _ _ _ _ (q7.out.zeros.on ?_).sh Try.underlying30 rfl (by kernel_rfl))) rfl ((q7.out.zeros.on ?_).took _) <;> with_reducible first | exact Keep.refl _ _ | exact keep_drew _ _ | exact (keep_drew _ _).trans (keep_drew _ _) | exact ((keep_drew _ _).trans (keep_drew _ _)).trans (keep_drew _ _) | exact (((keep_drew _ _).trans (keep_drew _ _)).trans (keep_drew _ _)).trans (keep_drew _ _)
end Go.Proofs.Ytpbfjcgncfdfnaa
namespace Go.Proofs.Ytpbfjcgncfdfnaa
open Go.RowKit Go.Maps
set_option linter.unusedVariables false
set_option linter.unusedSimpArgs false
set_option maxRecDepth 100000 in
set_option maxHeartbeats 4000000 in
theorem take_zero_last (p : Nat) (v : Value) (g : Ga) (c : Ch) (w : World) (hr : RowIs w p (gaC v g) 50) (hb : BSl w 0 v g.tx) (hz : g.tx.length ≤ 262144) (hv : ∀ b, v.ownBlock = some b → b ≠ p) (h0 : c.at_ = 0) (hs : c.da.size ≤ maxLen) (hfit : c.da.size ≤ 262144) (hls : c.ls = true) :
    Calls Try.prog 7 #[.pointer (some ⟨p, 0, none⟩), .agg #[.int .i64 c.ix, .int .i64 c.tm, .int .i64 c.at_, .bool c.ls, .string c.da]] w fun e w' => Took p v (ga0, endS c.ix c.tm c.da.data.toList, 0) w e w' := by
  obtain ⟨ad, cap, rfl⟩ := hb.size
  have M0 := hid (Mid.init c hr hb hv)
  have MZ := hid (Mid.initZ c hr hb true c.ix c.tm)
  
  obtain ⟨bg, ix, tm, tx⟩ := g
  obtain ⟨ci, ct, ca, cl, cd⟩ := c
  simp only [gaC] at *
  have c0 := hr.cellAt (o := 0) rfl
  have c1 := hr.cellAt (o := 1) rfl
  have c2 := hr.cellAt (o := 2) rfl
  have c3 := hr.cellAt (o := 3) rfl
  have f0 := hr.frozen (o := 0)
  have f1 := hr.frozen (o := 1)
  have f2 := hr.frozen (o := 2)
  have f3 := hr.frozen (o := 3)
  have hlt := hr.lt
  subst h0
  have hft : ((cd.size : Int) > 262144) = False := by simp; omega
  subst hls
  have HB : Hid (BSl ((((((w.setCell ⟨p, 0, none⟩ (.bool true)).setCell ⟨p, 1, none⟩ (.int .i64 ci)).setCell ⟨p, 2, none⟩ (.int .i64 ct)).setCell ⟨p, 3, none⟩ (.slice none 0 0)).alloc (.cells #[.int .i64 ci, .int .i64 ct, .int .i64 0, .bool true, .string cd] 34)).alloc (.cells #[.int .i64 0, .int .i64 0, .slice none 0 0, .string ⟨#[]⟩] 30)) 0 (.slice none 0 0) ([] : Bs)) := MZ.out.bs
  have HLN : Hid ((([] : Bs)).length + cd.size ≤ 140737488355328) := by show _ ≤ _; simp only [List.length_nil]; omega
  have hcd : cd.data.toList.length = cd.size := by rw [Array.length_toList]; rfl
  have hfl : (([] : Bs) ++ cd.data.toList).length ≤ 262144 := by rw [List.length_append, hcd]; simp only [List.length_nil]; omega
  have MR : Hid (∀ v1 w1, More ((((((w.setCell ⟨p, 0, none⟩ (.bool true)).setCell ⟨p, 1, none⟩ (.int .i64 ci)).setCell ⟨p, 2, none⟩ (.int .i64 ct)).setCell ⟨p, 3, none⟩ (.slice none 0 0)).alloc (.cells #[.int .i64 ci, .int .i64 ct, .int .i64 0, .bool true, .string cd] 34)).alloc (.cells #[.int .i64 0, .int .i64 0, .slice none 0 0, .string ⟨#[]⟩] 30)) (.slice none 0 0) ([] : Bs) cd.data.toList v1 w1 → ∃ ad1 cap1, v1 = .slice ad1 (([] : Bs) ++ cd.data.toList).length cap1 ∧ w1.cell? ⟨w.heap.size, 3, none⟩ = some (.bool true) ∧ w1.cell? ⟨w.heap.size, 4, none⟩ = some (.string cd) ∧ w1.cell? ⟨p, 3, none⟩ = some (.slice none 0 0) ∧ w1.frozen? ⟨p, 3, none⟩ = false ∧ p < w1.heap.size ∧ w.heap.size < w1.heap.size ∧ (w1.cell? ⟨w.heap.size + 1, 0, none⟩ = some (.int .i64 0) ∧ w1.cell? ⟨w.heap.size + 1, 1, none⟩ = some (.int .i64 0) ∧ w1.cell? ⟨w.heap.size + 1, 2, none⟩ = some (.slice none 0 0) ∧ w1.cell? ⟨w.heap.size + 1, 3, none⟩ = some (.string ⟨#[]⟩)) ∧ (w1.frozen? ⟨w.heap.size + 1, 0, none⟩ = false ∧ w1.frozen? ⟨w.heap.size + 1, 1, none⟩ = false ∧ w1.frozen? ⟨w.heap.size + 1, 2, none⟩ = false ∧ w1.frozen? ⟨w.heap.size + 1, 3, none⟩ = false) ∧ Hid (Mid w p (.slice ad tx.length cap) (.slice ad1 (([] : Bs) ++ cd.data.toList).length cap1) ⟨true, ci, ct, (([] : Bs) ++ cd.data.toList)⟩ ⟨ci, ct, 0, true, cd⟩ (w1.setCell ⟨p, 3, none⟩ (.slice ad1 (([] : Bs) ++ cd.data.toList).length cap1)))) := fun v1 w1 hm => by
    obtain ⟨ad1, cap1, rfl⟩ := hm.is.size
    obtain ⟨q1, q2, q4, q3⟩ := MZ.out.more hm
    exact ⟨ad1, cap1, rfl, q2.cellAt (o := 3) rfl, q2.cellAt (o := 4) rfl, q1.cellAt (o := 3) rfl, q1.frozen (o := 3), q1.lt, q2.lt, ⟨q4.cellAt (o := 0) rfl, q4.cellAt (o := 1) rfl, q4.cellAt (o := 2) rfl, q4.cellAt (o := 3) rfl⟩, ⟨q4.frozen (o := 0), q4.frozen (o := 1), q4.frozen (o := 2), q4.frozen (o := 3)⟩, q3⟩
  obtain ⟨hrz, -⟩ := gz w p _ ⟨bg, ix, tm, tx⟩ hr true ci ct (.slice none 0 0)
  have Z : Hid (((((w.setCell ⟨p, 0, none⟩ (.bool true)).setCell ⟨p, 1, none⟩ (.int .i64 ci)).setCell ⟨p, 2, none⟩ (.int .i64 ct)).setCell ⟨p, 3, none⟩ (.slice none 0 0)).cell? ⟨p, 0, none⟩ = some (.bool true) ∧ ((((w.setCell ⟨p, 0, none⟩ (.bool true)).setCell ⟨p, 1, none⟩ (.int .i64 ci)).setCell ⟨p, 2, none⟩ (.int .i64 ct)).setCell ⟨p, 3, none⟩ (.slice none 0 0)).cell? ⟨p, 1, none⟩ = some (.int .i64 ci) ∧ ((((w.setCell ⟨p, 0, none⟩ (.bool true)).setCell ⟨p, 1, none⟩ (.int .i64 ci)).setCell ⟨p, 2, none⟩ (.int .i64 ct)).setCell ⟨p, 3, none⟩ (.slice none 0 0)).cell? ⟨p, 2, none⟩ = some (.int .i64 ct) ∧ ((((w.setCell ⟨p, 0, none⟩ (.bool true)).setCell ⟨p, 1, none⟩ (.int .i64 ci)).setCell ⟨p, 2, none⟩ (.int .i64 ct)).setCell ⟨p, 3, none⟩ (.slice none 0 0)).cell? ⟨p, 3, none⟩ = some (.slice none 0 0) ∧ ((((w.setCell ⟨p, 0, none⟩ (.bool true)).setCell ⟨p, 1, none⟩ (.int .i64 ci)).setCell ⟨p, 2, none⟩ (.int .i64 ct)).setCell ⟨p, 3, none⟩ (.slice none 0 0)).frozen? ⟨p, 3, none⟩ = false ∧ ((((w.setCell ⟨p, 0, none⟩ (.bool true)).setCell ⟨p, 1, none⟩ (.int .i64 ci)).setCell ⟨p, 2, none⟩ (.int .i64 ct)).setCell ⟨p, 3, none⟩ (.slice none 0 0)).heap.size = w.heap.size) := ⟨hrz.cellAt (o := 0) rfl, hrz.cellAt (o := 1) rfl, hrz.cellAt (o := 2) rfl, hrz.cellAt (o := 3) rfl, hrz.frozen (o := 3), by simp [World.setCell]⟩
  clear hrz
  have HFL := hid hfl
  clear hr hb hv hz hfl hcd M0 MZ
  obtain ⟨TX, hTX⟩ : ∃ TX, TX = (([] : Bs) ++ cd.data.toList) := ⟨_, rfl⟩
  have hTX2 : cd.data.toList = TX := by rw [hTX]; rfl
  rw [hTX2]
  rw [← hTX] at MR HFL
  clear hTX hTX2
  obtain ⟨M, hM⟩ : ∃ M, M = TX.length := ⟨_, rfl⟩
  rw [← hM] at MR
  have HM := hid hM
  clear hM
  obtain ⟨X, hX⟩ : ∃ X, X = endS ci ct TX := ⟨_, rfl⟩
  rw [← hX]
  obtain ⟨⟨si, st, sm, sd⟩, is⟩ := X
  have HX := hid hX.symm
  obtain ⟨N, hN⟩ : ∃ N, sm.length = N := ⟨_, rfl⟩
  have HN := hid hN
  clear hX hN
  go_enter Try.func7, Try.ntmps7
  go_wp2
  generalize ((((w.setCell ⟨p, 0, none⟩ (.bool true)).setCell ⟨p, 1, none⟩ (.int .i64 ci)).setCell ⟨p, 2, none⟩ (.int .i64 ct)).setCell ⟨p, 3, none⟩ (.slice none 0 0)) = wz at *
  obtain ⟨z0, z1, z2, z3, zf, zs⟩ := Z.out
  clear Z c0 c1 c2 c3 f0 f1 f2 f3
  go_region
  go_wp2
  go_region
  go_wp2
  go_region
  go_wp2
  go_region_law (refine step_more (w0 := ((wz.alloc (.cells #[.int .i64 ci, .int .i64 ct, .int .i64 0, .bool true, .string cd] 34)).alloc (.cells #[.int .i64 0, .int .i64 0, .slice none 0 0, .string ⟨#[]⟩] 30))) (by rfl) _ _ (by rfl) (.slice none 0 0) ([] : Bs) cd (by rfl) (by with_reducible first | exact Keep.refl _ _ | exact keep_drew _ _ | exact (keep_drew _ _).trans (keep_drew _ _) | exact ((keep_drew _ _).trans (keep_drew _ _)).trans (keep_drew _ _) | exact (((keep_drew _ _).trans (keep_drew _ _)).trans (keep_drew _ _)).trans (keep_drew _ _)) (by rfl) (by rfl) HB.out (by first | exact HLN.out | (rw [hl]; exact HLN.out)) ?_; intro v1 w1 hm1; obtain ⟨ad1, cap1, rfl, q1, q2, q3, q4, q5, q6, ⟨x0, x1, x2, x3⟩, ⟨y0, y1, y2, y3⟩, q7⟩ := MR.out _ _ hm1)
  all_goals
    clear MR HB HLN hm1
    go_wp2_with fail
    refine ((q7.out.on (B' := _) (by with_reducible first | exact Keep.refl _ _ | exact keep_drew _ _ | exact (keep_drew _ _).trans (keep_drew _ _) | exact ((keep_drew _ _).trans (keep_drew _ _)).trans (keep_drew _ _) | exact (((keep_drew _ _).trans (keep_drew _ _)).trans (keep_drew _ _)).trans (keep_drew _ _))).last HFL.out _ _ _ _ _ _ HX.out HN.out).mono ?_
    rintro e w3 ⟨ad2, cap2, rfl, ⟨x0, x1, x2, x3⟩, ⟨y0, y1, y2, y3⟩, hls, HL⟩
    clear q1 q2 q3 q4 q5 q6 q7 z0 z1 z2 z3 zf
    go_wp2
    obtain ⟨HR, HT⟩ := HL.out (.cells #[.int .i64 si, .int .i64 st, .slice ad2 N cap2, .string sd] 30)
    exact bodyPost_ret (ret_st3 (p := 4) (u := 5) (u2 := 6) rfl _ _ (w.heap.size + 1) _ _ _ rfl rfl rfl (run_loadVar_row _ _ _ _ _ _ _ HR.out Try.underlying30 rfl (by kernel_rfl))) rfl HT.out
end Go.Proofs.Ytpbfjcgncfdfnaa
namespace Go.Proofs.Ytpbfjcgncfdfnaa
open Go.RowKit Go.Maps
set_option linter.unusedVariables false
set_option linter.unusedSimpArgs false
theorem gtake_any (p : Nat) (v : Value) (g : Ga) (c : Ch) (w : World) (hr : RowIs w p (gaC v g) 50) (hb : BSl w 0 v g.tx) (hz : g.tx.length ≤ 262144) (hv : ∀ b, v.ownBlock = some b → b ≠ p) (hs : c.da.size ≤ maxLen) :
    Calls Try.prog 7 #[.pointer (some ⟨p, 0, none⟩), .agg #[.int .i64 c.ix, .int .i64 c.tm, .int .i64 c.at_, .bool c.ls, .string c.da]] w fun e w' => Took p v (takeG g c) w e w' := by
  unfold takeG
  by_cases h0 : c.at_ = 0
  · have hg : ga1 g c = ⟨true, c.ix, c.tm, []⟩ := if_pos h0
    rw [hg]
    simp only [true_and, and_self, if_true, List.length_nil, Nat.zero_add, List.nil_append]
    rw [if_pos (show c.at_ = ((0 : Nat) : Int) from h0)]
    by_cases hf : c.da.size ≤ 262144
    · rw [if_pos hf]
      by_cases hl : c.ls = true
      · rw [if_pos hl]; exact take_zero_last p v g c w hr hb hz hv h0 hs hf hl
      · rw [if_neg hl]; exact take_zero_nl p v g c w hr hb hz hv h0 hs hf (by simpa using hl)
    · rw [if_neg hf]; exact take_zero_big p v g c w hr hb hz hv h0 hs hf
  · have hg : ga1 g c = g := if_neg h0
    rw [hg]
    by_cases hm : g.bg = true ∧ c.ix = g.ix ∧ c.tm = g.tm
    · rw [if_pos hm]
      by_cases ha : c.at_ = g.tx.length
      · rw [if_pos ha]
        have hf4 : g.bg = true ∧ c.ix = g.ix ∧ c.tm = g.tm ∧ c.at_ = g.tx.length := ⟨hm.1, hm.2.1, hm.2.2, ha⟩
        by_cases hf : g.tx.length + c.da.size ≤ 262144
        · rw [if_pos hf]
          by_cases hl : c.ls = true
          · rw [if_pos hl]; exact take_near_last p v g c w hr hb hz hv h0 hf4 hs hf hl
          · rw [if_neg hl]; exact take_near_nl p v g c w hr hb hz hv h0 hf4 hs hf (by simpa using hl)
        · rw [if_neg hf]; exact take_near_big p v g c w hr hb hz hv h0 hf4 hs hf
      · rw [if_neg ha]
        have h := take_far p v g c w hr hb hz h0 (fun h => ha h.2.2.2)
        rw [if_pos hm] at h
        exact h
    · rw [if_neg hm]
      have h := take_far p v g c w hr hb hz h0 (fun h => hm ⟨h.1, h.2.1, h.2.2.1⟩)
      rw [if_neg hm] at h
      exact h
end Go.Proofs.Ytpbfjcgncfdfnaa
namespace Go.Proofs.Ytpbfjcgncfdfnaa
open Go.RowKit Go.Maps
set_option linter.unusedVariables false
set_option linter.unusedSimpArgs false

theorem takeG_len (g : Ga) (c : Ch) (hz : g.tx.length ≤ 262144) : (takeG g c).1.tx.length ≤ 262144 := by
  have h1 : (ga1 g c).tx.length ≤ 262144 := by
    unfold ga1
    split
    · simp
    · exact hz
  have h2 : c.da.data.toList.length = c.da.size := by simp
  unfold takeG
  split
  · split
    · split
      · split
        · simp [ga0]
        · simp only [List.length_append, h2]; assumption
      · simp [ga0]
    · exact h1
  · exact h1
set_option maxRecDepth 100000 in
set_option maxHeartbeats 4000000 in
theorem newgather_any (w : World) : Calls Try.prog 5 #[] w fun e w' => e = .returned (.pointer (some ⟨w.heap.size, 0, none⟩)) ∧ w' = w.alloc (.cells #[.bool false, .int .i64 0, .int .i64 0, .slice none 0 0] 50) := by
  go_enter Try.func5, Try.ntmps5
  go_wp2
  go_ret
  exact ⟨rfl, rfl⟩
set_option maxRecDepth 100000 in
set_option maxHeartbeats 4000000 in
theorem niltake_any (w : World) : Calls Try.prog 7 #[.pointer none, .agg #[.int .i64 0, .int .i64 0, .int .i64 0, .bool true, .string ⟨#[]⟩]] w fun e w' => e = .returned (.tuple #[.agg #[.int .i64 0, .int .i64 0, .slice none 0 0, .string ⟨#[]⟩], .bool false, .int .i64 0]) ∧ Below w.heap.size w w' := by
  go_enter Try.func7, Try.ntmps7
  go_wp2
  exact bodyPost_ret (ret_st3 (p := 4) (u := 5) (u2 := 6) rfl _ _ (w.heap.size + 1) _ _ _ rfl rfl rfl (run_loadVar_row _ _ _ _ _ _ _ (boxU (Keep.refl _ _)) Try.underlying30 rfl (by kernel_rfl))) rfl ⟨rfl, below_al (below_al (Below.refl _ _) _) _⟩
end Go.Proofs.Ytpbfjcgncfdfnaa
namespace Go.Proofs.Ytpbfjcgncfdfnaa
open Go.RowKit Go.Maps
set_option linter.unusedVariables false
set_option linter.unusedSimpArgs false

def RowCh (w : World) (v : Value) (n : Nat) (cs : List Value) : Prop :=
  (∃ ad cap, v = .slice ad 0 cap ∧ n = 0 ∧ cs = []) ∨ ∃ b off cap, v = .slice (some ⟨b, off, none⟩) n cap ∧ n ≤ cap ∧ b < w.heap.size ∧ ∀ j u, cs[j]? = some u → w.cell? ⟨b, off + j, none⟩ = some u
theorem RowCh.next {w w' : World} {v : Value} {n : Nat} {cs : List Value} (h : RowCh w v n cs) (hB : Below w.heap.size w w') : RowCh w' v n cs := by
  rcases h with h | ⟨b, off, cap, rfl, hn, hb, hc⟩
  · exact .inl h
  · exact .inr ⟨b, off, cap, rfl, hn, Nat.lt_of_lt_of_le hb hB.size, fun j u hu => (hB.cell (p := ⟨b, off + j, none⟩) hb).trans (hc j u hu)⟩
theorem flat_getC {α : Type} (f : α → List Value) (n : Nat) (l : List α) (hf : ∀ x ∈ l, (f x).length = n) (k : Nat) (hk : k < l.length) (i : Nat) (hi : i < n) : (l.flatMap f)[k * n + i]? = (f l[k])[i]? := by
  induction l generalizing k with
  | nil => simp at hk
  | cons x r ih =>
    have hx := hf x (by simp)
    rw [List.flatMap_cons]
    cases k with
    | zero =>
      rw [List.getElem?_append_left (by omega)]
      simp
    | succ k =>
      rw [List.getElem?_append_right (by rw [hx, Nat.succ_mul]; omega)]
      have e : (k + 1) * n + i - (f x).length = k * n + i := by rw [hx, Nat.succ_mul]; omega
      rw [e, ih (fun y hy => hf y (List.mem_cons_of_mem _ hy)) k (by simpa using hk)]
      simp
def chuC (c : Ch) : List Value := [.int .i64 c.ix, .int .i64 c.tm, .int .i64 c.at_, .bool c.ls, .string c.da]
def chuqC (l : List Ch) : List Value := l.flatMap chuC
theorem chuqC_get (l : List Ch) (k : Nat) (hk : k < l.length) (i : Nat) (hi : i < 5) : (chuqC l)[k * 5 + i]? = (chuC l[k])[i]? := flat_getC chuC 5 l (fun _ _ => rfl) k hk i hi
theorem chuqC_len (l : List Ch) : (chuqC l).length = l.length * 5 := by
  induction l with
  | nil => rfl
  | cons p r ih => simp only [chuqC, List.flatMap_cons, List.length_append, List.length_cons] at ih ⊢; rw [ih]; simp [chuC]; omega
def ChI (w : World) (v : Value) (l : List Ch) : Prop := RowCh w v l.length (chuqC l)
theorem ChI.next {w w' : World} {v : Value} {l : List Ch} (h : ChI w v l) (hB : Below w.heap.size w w') : ChI w' v l := RowCh.next h hB
theorem ChI.form {w : World} {v : Value} {l : List Ch} (h : ChI w v l) : ∃ ad cap, v = .slice ad l.length cap ∧ ∀ k (hk : k < l.length), ∃ b off, ad = some ⟨b, off, none⟩ ∧ b < w.heap.size ∧ w.cell? ⟨b, off + k * 5, none⟩ = some (.int .i64 l[k].ix) ∧ w.cell? ⟨b, off + k * 5 + 1, none⟩ = some (.int .i64 l[k].tm) ∧ w.cell? ⟨b, off + k * 5 + 2, none⟩ = some (.int .i64 l[k].at_) ∧ w.cell? ⟨b, off + k * 5 + 3, none⟩ = some (.bool l[k].ls) ∧ w.cell? ⟨b, off + k * 5 + 4, none⟩ = some (.string l[k].da) := by
  rcases h with ⟨ad, cap, rfl, h0, _⟩ | ⟨b, off, cap, rfl, _, hb, hc⟩
  · exact ⟨ad, cap, by rw [h0], fun k hk => by omega⟩
  · refine ⟨_, cap, rfl, fun k hk => ⟨b, off, rfl, hb, ?_, ?_, ?_, ?_, ?_⟩⟩
    · have := hc (k * 5 + 0) _ (chuqC_get l k hk 0 (by omega)); exact this
    · have := hc (k * 5 + 1) _ (chuqC_get l k hk 1 (by omega)); rw [← Nat.add_assoc] at this; exact this
    · have := hc (k * 5 + 2) _ (chuqC_get l k hk 2 (by omega)); rw [← Nat.add_assoc] at this; exact this
    · have := hc (k * 5 + 3) _ (chuqC_get l k hk 3 (by omega)); rw [← Nat.add_assoc] at this; exact this
    · have := hc (k * 5 + 4) _ (chuqC_get l k hk 4 (by omega)); rw [← Nat.add_assoc] at this; exact this
theorem chi_none (w : World) : ChI w (.slice none 0 0) [] := .inl ⟨none, 0, rfl, rfl, rfl⟩
end Go.Proofs.Ytpbfjcgncfdfnaa
