/- The chunks of any snapshot, of any width: both sides, and the walk of the law ShotChunks. -/
import Derived.Test.YtdfeendcjpfbcaaJoined19
import Derived.Test.YtdfeendcjpfbcaaJoined12
import Derived.Test.YtdfeendcjpfbcaaJoined18
import Derived.Laws.StructEq
import Derived.BigQuiet
import Derived.Deep.QuietTactic
namespace Go.Proofs.Ytdfeendcjpfbcaa
open Go.RowKit Go.Maps
set_option linter.unusedVariables false
set_option linter.unusedSimpArgs false

/-- what is told of the chunks of a snapshot -/
def chE (s : Sh) (wd : Int) : Int := if chkS s = 0 then (if wd < 1 then 1 else 0) else chkS s
def chN (s : Sh) (wd : Int) : Nat := if chkS s = 0 then (if wd < 1 then 0 else nck (encS s) wd.toNat) else 0
def chL (s : Sh) (wd : Int) : List Ck := cks s (encS s) wd.toNat (chN s wd)
theorem chL_len (s : Sh) (wd : Int) : (chL s wd).length = chN s wd := cks_len _ _ _ _
theorem nil_row5 {w : World} {B e size : Nat} : w.ownsRow B e size (.slice none 0 0) 0 [] := ⟨by simp, .inl ⟨rfl, rfl⟩⟩
theorem nck_le (T : ByteArray) (wd : Nat) (h : 1 ≤ wd) : nck T wd ≤ T.size := by
  unfold nck
  rw [Nat.div_le_iff_le_mul_add_pred (by omega)]
  have : T.size * 1 ≤ wd * T.size := by rw [Nat.mul_comm wd]; exact Nat.mul_le_mul_left _ h
  omega
theorem chN_le (s : Sh) (wd : Int) : chN s wd ≤ (encS s).size := by
  unfold chN
  split
  · split
    · omega
    · exact nck_le _ _ (by omega)
  · omega
set_option maxRecDepth 100000 in
set_option maxHeartbeats 2000000 in
theorem pchunks_any (v : Value) (s : Sh) (wd : Int) (w : World) (hv : IntsI w v s.ms) (hl : s.ms.length ≤ 9223372036854775807) (hw2 : wd ≤ 9223372036854775807) :
    Calls Try.prog 17 #[shV v s, .int .i64 wd] w fun e w' => ∃ u, e = .returned (.tuple #[u, .int .i64 (chE s wd)]) ∧ w'.ownsRow w.heap.size 49 5 u (chN s wd) (cksC (chL s wd)) ∧ Below w.heap.size w w' := by
  unfold chL chE chN
  by_cases hc : chkS s = 0
  · by_cases hw : wd < 1
    · rw [if_pos hc, if_pos hw, if_pos hc, if_pos hw]
      obtain ⟨ad, cap, rfl, -⟩ := hv.form
      have EN : Hid (∀ W, Below w.heap.size w W → Calls Try.prog 8 #[.agg #[.int .i64 s.ix, .int .i64 s.tm, .slice ad s.ms.length cap, .string s.da]] W fun e w' => e = .returned (.tuple #[.string (encS s), .int .i64 0]) ∧ Below W.heap.size W w') := fun W hW => by
        have := encode_any (.slice ad s.ms.length cap) s W (hv.next hW) hl
        rw [hc] at this
        exact this
      have kA := (Below.refl w.heap.size w).alloc (Nat.le_refl _) (.cells #[.int .i64 s.ix, .int .i64 s.tm, .slice ad s.ms.length cap, .string s.da] 24)
      have E1 := hid (EN.out _ kA)
      have HK := hid kA
      have HR0 : Hid (cksC (cks s (encS s) wd.toNat 0) = []) := rfl
      clear hv hl hc EN kA
      unfold shV
      generalize encS s = X at *
      rw [HR0.out]
      clear HR0
      obtain ⟨ix, tm, ms, da⟩ := s
      simp only at *
      generalize ms.length = m at *
      go_enter Try.func17, Try.ntmps17
      go_wp2_with fail
      refine E1.out.mono ?_
      rintro e w2 ⟨rfl, hb2⟩
      have HB := hid (below_on HK.out hb2)
      clear E1 hb2 HK
      go_wp2
      go_ret2
      exact ⟨_, rfl, nil_row5, HB.out⟩
    · rw [if_pos hc, if_neg hw, if_pos hc, if_neg hw]
      obtain ⟨n, rfl⟩ : ∃ n : Nat, wd = (n : Int) := ⟨wd.toNat, by omega⟩
      rw [Int.toNat_natCast]
      exact pchunks_ok v s n w hv hl hc (by omega) (by omega)
  · rw [if_neg hc, if_neg hc]
    generalize hcv : chkS s = c at *
    have hcb : (c != 0) = true := by rw [bne_iff_ne]; exact hc
    obtain ⟨ad, cap, rfl, -⟩ := hv.form
    have EN : Hid (∀ W, Below w.heap.size w W → Calls Try.prog 8 #[.agg #[.int .i64 s.ix, .int .i64 s.tm, .slice ad s.ms.length cap, .string s.da]] W fun e w' => e = .returned (.tuple #[.string (encS s), .int .i64 c]) ∧ Below W.heap.size W w') := fun W hW => by
      have := encode_any (.slice ad s.ms.length cap) s W (hv.next hW) hl
      rw [hcv] at this
      exact this
    have kA := (Below.refl w.heap.size w).alloc (Nat.le_refl _) (.cells #[.int .i64 s.ix, .int .i64 s.tm, .slice ad s.ms.length cap, .string s.da] 24)
    have E1 := hid (EN.out _ kA)
    have HK := hid kA
    have HR0 : Hid (cksC (cks s (encS s) wd.toNat 0) = []) := rfl
    clear hcv
    clear hv hl hc EN kA
    unfold shV
    generalize encS s = X at *
    rw [HR0.out]
    clear HR0
    obtain ⟨ix, tm, ms, da⟩ := s
    simp only at *
    generalize ms.length = m at *
    go_enter Try.func17, Try.ntmps17
    go_wp2_with fail
    refine E1.out.mono ?_
    rintro e w2 ⟨rfl, hb2⟩
    have HB := hid (below_on HK.out hb2)
    clear E1 hb2 HK
    go_wp2
    go_ret2
    exact ⟨_, rfl, nil_row5, HB.out⟩
set_option maxRecDepth 100000 in
set_option maxHeartbeats 2000000 in
theorem rchunks_any (v : Value) (s : Sh) (wd : Int) (w : World) (hv : IntsI w v s.ms) (hl : s.ms.length ≤ 9223372036854775807) (hw2 : wd ≤ 9223372036854775807) :
    Calls Try.prog 18 #[shV v s, .int .i64 wd] w fun e w' => ∃ u, e = .returned (.tuple #[u, .int .i64 (chE s wd)]) ∧ w'.ownsRow w.heap.size 48 5 u (chN s wd) (cksC (chL s wd)) ∧ Below w.heap.size w w' := by
  unfold chL chE chN
  by_cases hc : chkS s = 0
  · by_cases hw : wd < 1
    · rw [if_pos hc, if_pos hw, if_pos hc, if_pos hw]
      obtain ⟨ad, cap, rfl, -⟩ := hv.form
      have EN : Hid (∀ W, Below w.heap.size w W → Calls Try.prog 9 #[.agg #[.int .i64 s.ix, .int .i64 s.tm, .slice ad s.ms.length cap, .string s.da]] W fun e w' => e = .returned (.tuple #[.string (encS s), .int .i64 0]) ∧ Below W.heap.size W w') := fun W hW => by
        have := rencode_any (.slice ad s.ms.length cap) s W (hv.next hW) hl
        rw [hc] at this
        exact this
      have kA := (Below.refl w.heap.size w).alloc (Nat.le_refl _) (.cells #[.int .i64 s.ix, .int .i64 s.tm, .slice ad s.ms.length cap, .string s.da] 30)
      have E1 := hid (EN.out _ kA)
      have HK := hid kA
      have HR0 : Hid (cksC (cks s (encS s) wd.toNat 0) = []) := rfl
      clear hv hl hc EN kA
      unfold shV
      generalize encS s = X at *
      rw [HR0.out]
      clear HR0
      obtain ⟨ix, tm, ms, da⟩ := s
      simp only at *
      generalize ms.length = m at *
      go_enter Try.func18, Try.ntmps18
      go_wp2_with fail
      refine E1.out.mono ?_
      rintro e w2 ⟨rfl, hb2⟩
      have HB := hid (below_on HK.out hb2)
      clear E1 hb2 HK
      go_wp2
      go_ret2
      exact ⟨_, rfl, nil_row5, HB.out⟩
    · rw [if_pos hc, if_neg hw, if_pos hc, if_neg hw]
      obtain ⟨n, rfl⟩ : ∃ n : Nat, wd = (n : Int) := ⟨wd.toNat, by omega⟩
      rw [Int.toNat_natCast]
      exact rchunks_ok v s n w hv hl hc (by omega) (by omega)
  · rw [if_neg hc, if_neg hc]
    generalize hcv : chkS s = c at *
    have hcb : (c != 0) = true := by rw [bne_iff_ne]; exact hc
    obtain ⟨ad, cap, rfl, -⟩ := hv.form
    have EN : Hid (∀ W, Below w.heap.size w W → Calls Try.prog 9 #[.agg #[.int .i64 s.ix, .int .i64 s.tm, .slice ad s.ms.length cap, .string s.da]] W fun e w' => e = .returned (.tuple #[.string (encS s), .int .i64 c]) ∧ Below W.heap.size W w') := fun W hW => by
      have := rencode_any (.slice ad s.ms.length cap) s W (hv.next hW) hl
      rw [hcv] at this
      exact this
    have kA := (Below.refl w.heap.size w).alloc (Nat.le_refl _) (.cells #[.int .i64 s.ix, .int .i64 s.tm, .slice ad s.ms.length cap, .string s.da] 30)
    have E1 := hid (EN.out _ kA)
    have HK := hid kA
    have HR0 : Hid (cksC (cks s (encS s) wd.toNat 0) = []) := rfl
    clear hcv
    clear hv hl hc EN kA
    unfold shV
    generalize encS s = X at *
    rw [HR0.out]
    clear HR0
    obtain ⟨ix, tm, ms, da⟩ := s
    simp only at *
    generalize ms.length = m at *
    go_enter Try.func18, Try.ntmps18
    go_wp2_with fail
    refine E1.out.mono ?_
    rintro e w2 ⟨rfl, hb2⟩
    have HB := hid (below_on HK.out hb2)
    clear E1 hb2 HK
    go_wp2
    go_ret2
    exact ⟨_, rfl, nil_row5, HB.out⟩
/-- a chunk's cells in a row -/
theorem cksC_get : ∀ (A : List Ck) (i : Nat) (h : i < A.length) (j : Nat), j < 5 → (cksC A)[i * 5 + j]? = (ckC A[i])[j]?
  | x :: r, 0, _, j, hj => by
    show (ckC x ++ cksC r)[0 * 5 + j]? = _
    rw [List.getElem?_append_left (by simp [ckC]; omega)]
    simp
  | x :: r, i + 1, h, j, hj => by
    show (ckC x ++ cksC r)[(i + 1) * 5 + j]? = _
    rw [List.getElem?_append_right (by simp [ckC]; omega), show (i + 1) * 5 + j - (ckC x).length = i * 5 + j by simp [ckC]; omega]
    exact cksC_get r i (by simpa using h) j hj
theorem guardCk : Try.prog.eqGuardType Try.prog.depth 48 = false := by kernel_rfl
theorem neqCk (a b c : Int) (l : Bool) (X : ByteArray) (W : World) : (binOp .neq 48 (.agg #[.int .i64 a, .int .i64 b, .int .i64 c, .bool l, .string X]) (.agg #[.int .i64 a, .int .i64 b, .int .i64 c, .bool l, .string X])).run Try.prog W = .ok (.bool false) W := by
  have u9 := Try.underlying9
  have u4 := Try.underlying4
  have u3 := Try.underlying3
  have z9 := Try.sizeOf9
  have z4 := Try.sizeOf4
  have z3 := Try.sizeOf3
  have a9 := Try.isAgg9
  have a4 := Try.isAgg4
  have a3 := Try.isAgg3
  have hS : Try.prog.underlying 48 = some (.struct (Try.prog.fieldsOf 48)) := by kernel_rfl
  have hp : Try.prog.stoodInHeld 48 = false := by kernel_rfl
  rw [run_neq_struct, show (10000 : Nat) = 9999 + 1 from rfl, run_equalIn_agg W 9999 48 _ _ hS hp]
  simp only [Program.fieldsOf, Try.underlying48]
  go_simp
theorem wf_le {a : Int} (h : (Lit.int .i64 a).wf = true) : a ≤ 9223372036854775807 := by
  simp [Lit.wf, IntKind.wrap_i64] at h
  omega
set_option maxRecDepth 100000 in
set_option maxHeartbeats 4000000 in
theorem shotChunks_walk (u : Value) (x : Sh) (wide : Int) (w : World) (hs : IntsI w u x.ms) (hz : x.ms.length ≤ 17592186044416) (hy : x.da.size ≤ 140737488355328) (hw : (Lit.int .i64 wide).wf = true) :
    Calls Try.prog 5 #[shV u x, .int .i64 wide] w fun e w' => e = .returned (.bool true) ∧ Below w.heap.size w w' := by
  have hwl := wf_le hw
  obtain ⟨ad, cap, rfl, -⟩ := hs.form
  have kA := (Below.refl w.heap.size w).alloc (Nat.le_refl _) (.cells #[.int .i64 x.ix, .int .i64 x.tm, .slice ad x.ms.length cap, .string x.da] 24)
  have hR : RowIs (w.alloc (.cells #[.int .i64 x.ix, .int .i64 x.tm, .slice ad x.ms.length cap, .string x.da] 24)) w.heap.size [.int .i64 x.ix, .int .i64 x.tm, .slice ad x.ms.length cap, .string x.da] 24 := heap_alloc_new _ _
  have PC : Hid (∀ wd, wd ≤ 9223372036854775807 → Calls Try.prog 17 #[.agg #[.int .i64 x.ix, .int .i64 x.tm, .slice ad x.ms.length cap, .string x.da], .int .i64 wd] (w.alloc (.cells #[.int .i64 x.ix, .int .i64 x.tm, .slice ad x.ms.length cap, .string x.da] 24)) fun e w' => ∃ u, e = .returned (.tuple #[u, .int .i64 (chE x wd)]) ∧ w'.ownsRow (w.alloc (.cells #[.int .i64 x.ix, .int .i64 x.tm, .slice ad x.ms.length cap, .string x.da] 24)).heap.size 49 5 u (chN x wd) (cksC (chL x wd)) ∧ Below (w.alloc (.cells #[.int .i64 x.ix, .int .i64 x.tm, .slice ad x.ms.length cap, .string x.da] 24)).heap.size (w.alloc (.cells #[.int .i64 x.ix, .int .i64 x.tm, .slice ad x.ms.length cap, .string x.da] 24)) w') := fun wd h => pchunks_any (.slice ad x.ms.length cap) x wd _ (hs.next kA) (by omega) h
  have RC : Hid (∀ W, Below w.heap.size w W → ∀ wd, wd ≤ 9223372036854775807 → Calls Try.prog 18 #[.agg #[.int .i64 x.ix, .int .i64 x.tm, .slice ad x.ms.length cap, .string x.da], .int .i64 wd] W fun e w' => ∃ u, e = .returned (.tuple #[u, .int .i64 (chE x wd)]) ∧ w'.ownsRow W.heap.size 48 5 u (chN x wd) (cksC (chL x wd)) ∧ Below W.heap.size W w') := fun W hW wd h => rchunks_any (.slice ad x.ms.length cap) x wd W (hs.next hW) (by omega) h
  have RF : Hid (∀ W, Calls Try.prog 10 #[.agg #[.int .i64 x.ix, .int .i64 x.tm, .slice ad x.ms.length cap, .string x.da]] W fun e w' => e = .returned (.agg #[.int .i64 x.ix, .int .i64 x.tm, .slice ad x.ms.length cap, .string x.da]) ∧ Below W.heap.size W w') := fun W => refOf_any ad x.ms.length cap x W
  have AW := hid awake7
  have BX : Hid (∀ W, Below (w.alloc (.cells #[.int .i64 x.ix, .int .i64 x.tm, .slice ad x.ms.length cap, .string x.da] 24)).heap.size (w.alloc (.cells #[.int .i64 x.ix, .int .i64 x.tm, .slice ad x.ms.length cap, .string x.da] 24)) W → W.cell? ⟨w.heap.size, 0, none⟩ = some (.int .i64 x.ix) ∧ W.cell? ⟨w.heap.size, 1, none⟩ = some (.int .i64 x.tm) ∧ W.cell? ⟨w.heap.size, 2, none⟩ = some (.slice ad x.ms.length cap) ∧ W.cell? ⟨w.heap.size, 3, none⟩ = some (.string x.da)) := fun W h => by
    have r := hR.keep (h.keep (fun _ => False)) (fun h => h)
    exact ⟨r.cellAt rfl, r.cellAt rfl, r.cellAt rfl, r.cellAt rfl⟩
  have HKA := hid kA
  have hcl : ∀ wd, chN x wd ≤ 1000000 := fun wd => by
    have h1 := chN_le x wd
    have h2 := encS_size x
    omega
  have HGET : Hid (∀ wd (k : Nat) (hk : k < chN x wd) (B : Nat) (e : TypeId) (W : World) (a : Option Addr) (c : Nat), W.ownsRow B e 5 (.slice a (chN x wd) c) (chN x wd) (cksC (chL x wd)) → ∃ g, a = some ⟨g, 0, none⟩ ∧ ∀ j u', j < 5 → (ckC ((chL x wd)[k]'(by rw [chL_len]; exact hk)))[j]? = some u' → W.cell? ⟨g, k * 5 + j, none⟩ = some u') := fun wd k hk B e W a c hr => by
    rcases hr.2 with ⟨e0, h⟩ | ⟨g, c', cur, e0, _⟩
    · omega
    · injection e0 with e1 e2 e3
      subst e1 e3
      refine ⟨g, rfl, fun j u' hj hu => grow_at hr ?_⟩
      rw [cksC_get (chL x wd) k (by rw [chL_len]; exact hk) j hj]
      exact hu
  clear hs hz hy hw kA hR
  unfold shV
  generalize hsda : x.da = da at *
  clear hsda
  generalize x.ix = ix at *
  generalize x.tm = tm at *
  generalize x.ms.length = m at *
  by_cases h3 : 3000 < da.size
  · have h3i : (3000 : Int) < (da.size : Int) := by omega
    by_cases hwd : 100 ≤ wide
    · have P1 := hid (PC.out wide (by omega))
      have RC1 := hid (fun W hW => RC.out W hW wide (by omega))
      have HG1 := hid (HGET.out wide)
      have hcl1 := hcl wide
      have hee : ((chE x wide) != (chE x wide)) = false := by simp
      clear PC RC HGET hcl hwl
      go_enter Try.func5, Try.ntmps5
      go_wp2_with fail
      refine P1.out.mono ?_
      rintro e w2 ⟨u2, rfl, hr2, hb2⟩
      obtain ⟨ad2, cap2, rfl⟩ := row_form hr2
      obtain ⟨c0, c1, c2, c3⟩ := BX.out w2 hb2
      have HB2 := hid (below_on HKA.out hb2)
      have HR2 := hid hr2
      have F2 := hid (RF.out w2)
      clear P1 hr2 hb2 RF BX HKA
      generalize chE x wide = er at *
      go_wp2_with fail
      refine F2.out.mono ?_
      rintro e w3 ⟨rfl, hb3⟩
      have HB3 := hid (below_on HB2.out hb3)
      have C3 := hid (RC1.out w3 HB3.out)
      have HR3 := hid ((hb3.keep (fun _ => False)).ownsRow HR2.out (fun _ _ h => h))
      clear F2 hb3 HB2 HR2 RC1 c0 c1 c2 c3
      go_wp2_with fail
      refine C3.out.mono ?_
      rintro e w4 ⟨u4, rfl, hr4, hb4⟩
      obtain ⟨ad4, cap4, rfl⟩ := row_form hr4
      have HB4 := hid (below_on HB3.out hb4)
      have HR4 := hid ((hb4.keep (fun _ => False)).ownsRow HR3.out (fun _ _ h => h))
      have HQ4 := hid hr4
      have A4 := hid (AW.out w4)
      clear C3 hr4 hb4 HB3 HR3 AW
      go_wp2_with fail
      refine A4.out.mono ?_
      rintro e w5 ⟨rfl, hb5⟩
      have HB5 := hid (below_on HB4.out hb5)
      have HR5 := hid ((hb5.keep (fun _ => False)).ownsRow HR4.out (fun _ _ h => h))
      have HQ5 := hid ((hb5.keep (fun _ => False)).ownsRow HQ4.out (fun _ _ h => h))
      have HC5 : Hid (∀ (k : Nat) (hk : k < chN x wide) (W : World), Below w5.heap.size w5 W → ∃ g1 g2 a b c l X, ad2 = some ⟨g1, 0, none⟩ ∧ ad4 = some ⟨g2, 0, none⟩ ∧ (W.cell? ⟨g1, k * 5, none⟩ = some (.int .i64 a) ∧ W.cell? ⟨g1, k * 5 + 1, none⟩ = some (.int .i64 b) ∧ W.cell? ⟨g1, k * 5 + 2, none⟩ = some (.int .i64 c) ∧ W.cell? ⟨g1, k * 5 + 3, none⟩ = some (.bool l) ∧ W.cell? ⟨g1, k * 5 + 4, none⟩ = some (.string X)) ∧ (W.cell? ⟨g2, k * 5, none⟩ = some (.int .i64 a) ∧ W.cell? ⟨g2, k * 5 + 1, none⟩ = some (.int .i64 b) ∧ W.cell? ⟨g2, k * 5 + 2, none⟩ = some (.int .i64 c) ∧ W.cell? ⟨g2, k * 5 + 3, none⟩ = some (.bool l) ∧ W.cell? ⟨g2, k * 5 + 4, none⟩ = some (.string X))) := fun k hk W hW => by
        obtain ⟨g1, e1, h1⟩ := HG1.out k hk _ _ W ad2 cap2 ((hW.keep (fun _ => False)).ownsRow HR5.out (fun _ _ h => h))
        obtain ⟨g2, e2, h2⟩ := HG1.out k hk _ _ W ad4 cap4 ((hW.keep (fun _ => False)).ownsRow HQ5.out (fun _ _ h => h))
        exact ⟨g1, g2, _, _, _, _, _, e1, e2, ⟨h1 0 _ (by omega) rfl, h1 1 _ (by omega) rfl, h1 2 _ (by omega) rfl, h1 3 _ (by omega) rfl, h1 4 _ (by omega) rfl⟩, ⟨h2 0 _ (by omega) rfl, h2 1 _ (by omega) rfl, h2 2 _ (by omega) rfl, h2 3 _ (by omega) rfl, h2 4 _ (by omega) rfl⟩⟩
      have hg := guardCk
      clear A4 hb5 HB4 HR4 HQ4 HR5 HQ5 HG1
      generalize chN x wide = n at *
      have hnn : ((n : Int) != (n : Int)) = false := by simp
      go_wp2
      go_loopw [9] (fun i wr => ∃ k : Nat, k ≤ n ∧ i = .int .i64 k ∧ Hid (Below w5.heap.size w5 wr)) (fun i _ => n - (intOf i).toNat)
      case atStart => exact ⟨0, by omega, rfl, Below.refl _ _⟩
      case round =>
        obtain ⟨k, hk, rfl, HK⟩ := hrel
        by_cases hlt : k < n
        · have hk0 : (0 : Int) ≤ (k : Int) := by omega
          have hk1 : (k : Int) < (n : Int) := by omega
          obtain ⟨g1, g2, a, b, c, l, X, e1, e2, ⟨p0, p1, p2, p3, p4⟩, ⟨q0, q1, q2, q3, q4⟩⟩ := HC5.out k hlt wr HK.out
          subst e1 e2
          have hq := fun W => neqCk a b c l X W
          clear HC5
          go_wp2
          go_quiet (fail)
          have HK2 := hid (HK.out.trans (keep_below (keep_drewN wr nq) (fun _ _ h => h) HK.out.size))
          clear HK
          go_wp2
          exact ⟨⟨k + 1, by omega, by go_num, HK2⟩, by simp [intOf]; omega⟩
        · have hd : decide ((k : Int) < (n : Int)) = false := decide_eq_false (by omega)
          have HBZ := hid (below_on HB5.out HK.out)
          clear HC5 HK
          go_wp2
          go_ret
          exact ⟨rfl, HBZ.out⟩
    · have hwd2 : wide < 100 := by omega
      have P1 := hid (PC.out 100 (by omega))
      have RC1 := hid (fun W hW => RC.out W hW 100 (by omega))
      have HG1 := hid (HGET.out 100)
      have hcl1 := hcl 100
      have hee : ((chE x 100) != (chE x 100)) = false := by simp
      clear PC RC HGET hcl hwl
      go_enter Try.func5, Try.ntmps5
      go_wp2_with fail
      refine P1.out.mono ?_
      rintro e w2 ⟨u2, rfl, hr2, hb2⟩
      obtain ⟨ad2, cap2, rfl⟩ := row_form hr2
      obtain ⟨c0, c1, c2, c3⟩ := BX.out w2 hb2
      have HB2 := hid (below_on HKA.out hb2)
      have HR2 := hid hr2
      have F2 := hid (RF.out w2)
      clear P1 hr2 hb2 RF BX HKA
      generalize chE x 100 = er at *
      go_wp2_with fail
      refine F2.out.mono ?_
      rintro e w3 ⟨rfl, hb3⟩
      have HB3 := hid (below_on HB2.out hb3)
      have C3 := hid (RC1.out w3 HB3.out)
      have HR3 := hid ((hb3.keep (fun _ => False)).ownsRow HR2.out (fun _ _ h => h))
      clear F2 hb3 HB2 HR2 RC1 c0 c1 c2 c3
      go_wp2_with fail
      refine C3.out.mono ?_
      rintro e w4 ⟨u4, rfl, hr4, hb4⟩
      obtain ⟨ad4, cap4, rfl⟩ := row_form hr4
      have HB4 := hid (below_on HB3.out hb4)
      have HR4 := hid ((hb4.keep (fun _ => False)).ownsRow HR3.out (fun _ _ h => h))
      have HQ4 := hid hr4
      have A4 := hid (AW.out w4)
      clear C3 hr4 hb4 HB3 HR3 AW
      go_wp2_with fail
      refine A4.out.mono ?_
      rintro e w5 ⟨rfl, hb5⟩
      have HB5 := hid (below_on HB4.out hb5)
      have HR5 := hid ((hb5.keep (fun _ => False)).ownsRow HR4.out (fun _ _ h => h))
      have HQ5 := hid ((hb5.keep (fun _ => False)).ownsRow HQ4.out (fun _ _ h => h))
      have HC5 : Hid (∀ (k : Nat) (hk : k < chN x 100) (W : World), Below w5.heap.size w5 W → ∃ g1 g2 a b c l X, ad2 = some ⟨g1, 0, none⟩ ∧ ad4 = some ⟨g2, 0, none⟩ ∧ (W.cell? ⟨g1, k * 5, none⟩ = some (.int .i64 a) ∧ W.cell? ⟨g1, k * 5 + 1, none⟩ = some (.int .i64 b) ∧ W.cell? ⟨g1, k * 5 + 2, none⟩ = some (.int .i64 c) ∧ W.cell? ⟨g1, k * 5 + 3, none⟩ = some (.bool l) ∧ W.cell? ⟨g1, k * 5 + 4, none⟩ = some (.string X)) ∧ (W.cell? ⟨g2, k * 5, none⟩ = some (.int .i64 a) ∧ W.cell? ⟨g2, k * 5 + 1, none⟩ = some (.int .i64 b) ∧ W.cell? ⟨g2, k * 5 + 2, none⟩ = some (.int .i64 c) ∧ W.cell? ⟨g2, k * 5 + 3, none⟩ = some (.bool l) ∧ W.cell? ⟨g2, k * 5 + 4, none⟩ = some (.string X))) := fun k hk W hW => by
        obtain ⟨g1, e1, h1⟩ := HG1.out k hk _ _ W ad2 cap2 ((hW.keep (fun _ => False)).ownsRow HR5.out (fun _ _ h => h))
        obtain ⟨g2, e2, h2⟩ := HG1.out k hk _ _ W ad4 cap4 ((hW.keep (fun _ => False)).ownsRow HQ5.out (fun _ _ h => h))
        exact ⟨g1, g2, _, _, _, _, _, e1, e2, ⟨h1 0 _ (by omega) rfl, h1 1 _ (by omega) rfl, h1 2 _ (by omega) rfl, h1 3 _ (by omega) rfl, h1 4 _ (by omega) rfl⟩, ⟨h2 0 _ (by omega) rfl, h2 1 _ (by omega) rfl, h2 2 _ (by omega) rfl, h2 3 _ (by omega) rfl, h2 4 _ (by omega) rfl⟩⟩
      have hg := guardCk
      clear A4 hb5 HB4 HR4 HQ4 HR5 HQ5 HG1
      generalize chN x 100 = n at *
      have hnn : ((n : Int) != (n : Int)) = false := by simp
      go_wp2
      go_loopw [9] (fun i wr => ∃ k : Nat, k ≤ n ∧ i = .int .i64 k ∧ Hid (Below w5.heap.size w5 wr)) (fun i _ => n - (intOf i).toNat)
      case atStart => exact ⟨0, by omega, rfl, Below.refl _ _⟩
      case round =>
        obtain ⟨k, hk, rfl, HK⟩ := hrel
        by_cases hlt : k < n
        · have hk0 : (0 : Int) ≤ (k : Int) := by omega
          have hk1 : (k : Int) < (n : Int) := by omega
          obtain ⟨g1, g2, a, b, c, l, X, e1, e2, ⟨p0, p1, p2, p3, p4⟩, ⟨q0, q1, q2, q3, q4⟩⟩ := HC5.out k hlt wr HK.out
          subst e1 e2
          have hq := fun W => neqCk a b c l X W
          clear HC5
          go_wp2
          go_quiet (fail)
          have HK2 := hid (HK.out.trans (keep_below (keep_drewN wr nq) (fun _ _ h => h) HK.out.size))
          clear HK
          go_wp2
          exact ⟨⟨k + 1, by omega, by go_num, HK2⟩, by simp [intOf]; omega⟩
        · have hd : decide ((k : Int) < (n : Int)) = false := decide_eq_false (by omega)
          have HBZ := hid (below_on HB5.out HK.out)
          clear HC5 HK
          go_wp2
          go_ret
          exact ⟨rfl, HBZ.out⟩
  · have h3d : decide ((3000 : Int) < (da.size : Int)) = false := decide_eq_false (by omega)
    have h3n : ¬ 3000 < da.size := h3
    have P1 := hid (PC.out wide (by omega))
    have RC1 := hid (fun W hW => RC.out W hW wide (by omega))
    have HG1 := hid (HGET.out wide)
    have hcl1 := hcl wide
    have hee : ((chE x wide) != (chE x wide)) = false := by simp
    clear PC RC HGET hcl hwl
    go_enter Try.func5, Try.ntmps5
    go_wp2_with fail
    refine P1.out.mono ?_
    rintro e w2 ⟨u2, rfl, hr2, hb2⟩
    obtain ⟨ad2, cap2, rfl⟩ := row_form hr2
    obtain ⟨c0, c1, c2, c3⟩ := BX.out w2 hb2
    have HB2 := hid (below_on HKA.out hb2)
    have HR2 := hid hr2
    have F2 := hid (RF.out w2)
    clear P1 hr2 hb2 RF BX HKA
    generalize chE x wide = er at *
    go_wp2_with fail
    refine F2.out.mono ?_
    rintro e w3 ⟨rfl, hb3⟩
    have HB3 := hid (below_on HB2.out hb3)
    have C3 := hid (RC1.out w3 HB3.out)
    have HR3 := hid ((hb3.keep (fun _ => False)).ownsRow HR2.out (fun _ _ h => h))
    clear F2 hb3 HB2 HR2 RC1 c0 c1 c2 c3
    go_wp2_with fail
    refine C3.out.mono ?_
    rintro e w4 ⟨u4, rfl, hr4, hb4⟩
    obtain ⟨ad4, cap4, rfl⟩ := row_form hr4
    have HB4 := hid (below_on HB3.out hb4)
    have HR4 := hid ((hb4.keep (fun _ => False)).ownsRow HR3.out (fun _ _ h => h))
    have HQ4 := hid hr4
    have A4 := hid (AW.out w4)
    clear C3 hr4 hb4 HB3 HR3 AW
    go_wp2_with fail
    refine A4.out.mono ?_
    rintro e w5 ⟨rfl, hb5⟩
    have HB5 := hid (below_on HB4.out hb5)
    have HR5 := hid ((hb5.keep (fun _ => False)).ownsRow HR4.out (fun _ _ h => h))
    have HQ5 := hid ((hb5.keep (fun _ => False)).ownsRow HQ4.out (fun _ _ h => h))
    have HC5 : Hid (∀ (k : Nat) (hk : k < chN x wide) (W : World), Below w5.heap.size w5 W → ∃ g1 g2 a b c l X, ad2 = some ⟨g1, 0, none⟩ ∧ ad4 = some ⟨g2, 0, none⟩ ∧ (W.cell? ⟨g1, k * 5, none⟩ = some (.int .i64 a) ∧ W.cell? ⟨g1, k * 5 + 1, none⟩ = some (.int .i64 b) ∧ W.cell? ⟨g1, k * 5 + 2, none⟩ = some (.int .i64 c) ∧ W.cell? ⟨g1, k * 5 + 3, none⟩ = some (.bool l) ∧ W.cell? ⟨g1, k * 5 + 4, none⟩ = some (.string X)) ∧ (W.cell? ⟨g2, k * 5, none⟩ = some (.int .i64 a) ∧ W.cell? ⟨g2, k * 5 + 1, none⟩ = some (.int .i64 b) ∧ W.cell? ⟨g2, k * 5 + 2, none⟩ = some (.int .i64 c) ∧ W.cell? ⟨g2, k * 5 + 3, none⟩ = some (.bool l) ∧ W.cell? ⟨g2, k * 5 + 4, none⟩ = some (.string X))) := fun k hk W hW => by
      obtain ⟨g1, e1, h1⟩ := HG1.out k hk _ _ W ad2 cap2 ((hW.keep (fun _ => False)).ownsRow HR5.out (fun _ _ h => h))
      obtain ⟨g2, e2, h2⟩ := HG1.out k hk _ _ W ad4 cap4 ((hW.keep (fun _ => False)).ownsRow HQ5.out (fun _ _ h => h))
      exact ⟨g1, g2, _, _, _, _, _, e1, e2, ⟨h1 0 _ (by omega) rfl, h1 1 _ (by omega) rfl, h1 2 _ (by omega) rfl, h1 3 _ (by omega) rfl, h1 4 _ (by omega) rfl⟩, ⟨h2 0 _ (by omega) rfl, h2 1 _ (by omega) rfl, h2 2 _ (by omega) rfl, h2 3 _ (by omega) rfl, h2 4 _ (by omega) rfl⟩⟩
    have hg := guardCk
    clear A4 hb5 HB4 HR4 HQ4 HR5 HQ5 HG1
    generalize chN x wide = n at *
    have hnn : ((n : Int) != (n : Int)) = false := by simp
    go_wp2
    go_loopw [9] (fun i wr => ∃ k : Nat, k ≤ n ∧ i = .int .i64 k ∧ Hid (Below w5.heap.size w5 wr)) (fun i _ => n - (intOf i).toNat)
    case atStart => exact ⟨0, by omega, rfl, Below.refl _ _⟩
    case round =>
      obtain ⟨k, hk, rfl, HK⟩ := hrel
      by_cases hlt : k < n
      · have hk0 : (0 : Int) ≤ (k : Int) := by omega
        have hk1 : (k : Int) < (n : Int) := by omega
        obtain ⟨g1, g2, a, b, c, l, X, e1, e2, ⟨p0, p1, p2, p3, p4⟩, ⟨q0, q1, q2, q3, q4⟩⟩ := HC5.out k hlt wr HK.out
        subst e1 e2
        have hq := fun W => neqCk a b c l X W
        clear HC5
        go_wp2
        go_quiet (fail)
        have HK2 := hid (HK.out.trans (keep_below (keep_drewN wr nq) (fun _ _ h => h) HK.out.size))
        clear HK
        go_wp2
        exact ⟨⟨k + 1, by omega, by go_num, HK2⟩, by simp [intOf]; omega⟩
      · have hd : decide ((k : Int) < (n : Int)) = false := decide_eq_false (by omega)
        have HBZ := hid (below_on HB5.out HK.out)
        clear HC5 HK
        go_wp2
        go_ret
        exact ⟨rfl, HBZ.out⟩
end Go.Proofs.Ytdfeendcjpfbcaa
