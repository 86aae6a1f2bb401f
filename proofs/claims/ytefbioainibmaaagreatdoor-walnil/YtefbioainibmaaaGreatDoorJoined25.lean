/- Joined: A segment with entries more. A log and its disk, with whose each block is: 8 the log's, 7 others'; how calls go one behind the other. What a log's changes make of a disk and of the segments, as plain data; a segment stored in the row of segments. Entries laid into a log's last segment. -/
import Derived.Test.YtefbioainibmaaaGreatDoorJoined24
namespace Go.Proofs.YtefbioainibmaaaGreatDoor
open Go.RowKit Go.Maps
set_option linter.unusedVariables false
set_option linter.unusedSimpArgs false

/-- what is left behind segment.with -/
structure WtE (w : World) (B : Nat) (x0 : Sv) (q : List En) (ve vp : Value) (W : World) : Prop where
  sv : SvI W B ⟨x0.n, x0.ix, x0.tm, ve, vp, x0.es ++ q, x0.ps ++ psX x0.sg.sz q⟩
  se : SvI W B x0
  le : ∀ g, ve.ownBlock = some g → x0.ve.ownBlock = some g ∨ w.heap.size ≤ g
  lp : ∀ g, vp.ownBlock = some g → x0.vp.ownBlock = some g ∨ w.heap.size ≤ g
  kp : Keep (fun k => x0.ve.ownBlock = some k ∨ x0.vp.ownBlock = some k) w W
theorem share_own {v0 v : Value} {n m lo : Nat} (h : (∃ ad cap, v0 = .slice ad n cap ∧ v = .slice ad m cap) ∨ ∀ g, v.ownBlock = some g → lo ≤ g) : ∀ g, v.ownBlock = some g → v0.ownBlock = some g ∨ lo ≤ g := fun g hg => by
  rcases h with ⟨ad, cap, rfl, rfl⟩ | h
  · cases ad with
    | none => cases hg
    | some a => exact .inl hg
  · exact .inr (h g hg)
theorem WtS.fin {w W W' : World} {B : Nat} {x0 : Sv} {qv ve vp : Value} {q : List En} (h : WtS w B x0 qv q q.length q.length ve vp W) (k : Keep (· = w.heap.size + 1) W W') : WtE w B x0 q ve vp W' := by
  have s1 : SvI W B ⟨x0.n, x0.ix, x0.tm, ve, vp, x0.es ++ q, x0.ps ++ psX x0.sg.sz q⟩ := by
    refine ⟨?_, ?_⟩
    · have := h.oe
      rw [List.take_length] at this
      simpa [ensC, List.length_append] using this
    · have := h.oi
      rw [List.take_length] at this
      simpa [isC, List.length_append, psX_len] using this
  exact ⟨s1.keep k (s1.not_box h.rs), h.se.keep k (h.se.not_box h.rs), share_own h.le, share_own h.lp, h.kp.then k (fun j hj e => by omega)⟩
theorem WtS.ints {w W : World} {B ke k : Nat} {x0 : Sv} {qv ve vp : Value} {q : List En} (h : WtS w B x0 qv q ke k ve vp W) (hk : k ≤ q.length) : IntsI W vp (x0.ps ++ psX x0.sg.sz (q.take k)) := by
  have := h.oi
  refine ORow.ints (B := B) ?_
  have e : (x0.ps ++ psX x0.sg.sz (q.take k)).length = x0.ps.length + k := by rw [List.length_append, psX_len, List.length_take]; omega
  rw [e, show isC (x0.ps ++ psX x0.sg.sz (q.take k)) = isC x0.ps ++ isC (psX x0.sg.sz (q.take k)) by simp [isC]]
  exact this
theorem entryX_any (x : En) (h : enOk x) (W : World) : Calls Tryz.prog 174 #[.agg #[.int .i64 x.tm, .int .i64 x.kd, .string x.da]] W fun e w' => e = .returned (.string ⟨(enX x).toArray⟩) ∧ Below W.heap.size W w' := by
  have := entryText_any x.tm.toNat x.kd.toNat x.da W (by have := h.1; have := h.2.1; omega) (by have := h.2.2.1; have := h.2.2.2.1; omega) h.2.2.2.2
  rw [Int.toNat_of_nonneg h.1, Int.toNat_of_nonneg h.2.2.1] at this
  exact this
set_option maxRecDepth 100000 in
set_option maxHeartbeats 8000000 in
theorem wwith_any (x0 : Sv) (qv : Value) (q : List En) (B : Nat) (w : World) (hx : SvI w B x0) (hB : B ≤ w.heap.size) (he : EntI w qv q) (hok : ∀ x ∈ q, enOk x) (hnq : ∀ b, qv.ownBlock = some b → q ≠ [] → ¬ x0.ve.ownBlock = some b ∧ ¬ x0.vp.ownBlock = some b) (hl : x0.es.length + q.length ≤ 1000) (hps : x0.ps.length = x0.es.length + 1) (hs0 : 0 ≤ x0.sg.sz) (hs1 : x0.sg.sz ≤ 1000000000000) :
    Calls Tryz.prog 156 #[sgV x0.n x0.ix x0.tm x0.ve x0.vp, qv] w fun e w' => ∃ ve vp, e = .returned (.tuple #[sgV x0.n x0.ix x0.tm ve vp, .string ⟨(txW q).toArray⟩]) ∧ WtE w B x0 q ve vp w' := by
  obtain ⟨ea0, ec0, hve⟩ := hx.oe.form
  obtain ⟨pa0, pc0, hvp⟩ := hx.oi.form
  have HOK := hid hok
  have HLL : Hid (x0.es.length + q.length ≤ 1000 ∧ x0.ps.length = x0.es.length + 1) := ⟨hl, hps⟩
  have HSZ : Hid (0 ≤ x0.sg.sz ∧ x0.sg.sz ≤ 1000000000000) := ⟨hs0, hs1⟩
  obtain ⟨aq, cq, rfl, hq⟩ := he.form
  have S0 : Hid (WtS w B x0 (.slice aq q.length cq) q 0 0 x0.ve x0.vp ((w.alloc (.cells #[.int .i64 x0.n, .int .i64 x0.ix, .int .i64 x0.tm, x0.ve, x0.vp] 126)).alloc (.cells #[.int .i64 0, .int .i64 0, .int .i64 0, .slice none 0 0, .slice none 0 0] 126))) := by
    have k0 : Keep (fun _ => False) w ((w.alloc (.cells #[.int .i64 x0.n, .int .i64 x0.ix, .int .i64 x0.tm, x0.ve, x0.vp] 126)).alloc (.cells #[.int .i64 0, .int .i64 0, .int .i64 0, .slice none 0 0, .slice none 0 0] 126)) := (keep_alloc _ _ _).trans (keep_alloc _ _ _)
    have r1 := srow (w.alloc (.cells #[.int .i64 x0.n, .int .i64 x0.ix, .int .i64 x0.tm, x0.ve, x0.vp] 126)) [.int .i64 0, .int .i64 0, .int .i64 0, .slice none 0 0, .slice none 0 0] 126
    rw [show (w.alloc (.cells #[.int .i64 x0.n, .int .i64 x0.ix, .int .i64 x0.tm, x0.ve, x0.vp] 126)).heap.size = w.heap.size + 1 by simp] at r1
    have b0 := keep_below k0 (fun _ _ h => h) (Nat.le_refl _)
    refine ⟨r1, row_old (srow w (sgC x0.n x0.ix x0.tm x0.ve x0.vp) 126) _, ?_, ?_, hx.next b0, fun g hg => hx.lt hg, .inl ⟨ea0, ec0, hve, hve⟩, .inl ⟨pa0, pc0, hvp, hvp⟩, k0.mono (fun _ _ h => h.elim), he.next b0, fun b hb hn => ⟨?_, hnq b hb hn⟩, hB⟩
    · simpa [ensC] using hx.oe.next b0
    · simpa [isC, psX] using hx.oi.next b0
    · obtain ⟨b', off', e1, h2, -⟩ := hq 0 (List.length_pos_iff.2 hn)
      rw [e1] at hb
      have : b' = b := by simpa [Value.ownBlock] using hb
      omega
  clear hx hB he hok hnq hl hps hs0 hs1 hq hve hvp
  unfold sgV
  go_enter Tryz.func156, Tryz.ntmps156
  go_wp2_with fail
  generalize (w.alloc (.cells #[.int .i64 x0.n, .int .i64 x0.ix, .int .i64 x0.tm, x0.ve, x0.vp] 126)).alloc (.cells #[.int .i64 0, .int .i64 0, .int .i64 0, .slice none 0 0, .slice none 0 0] 126) = W0 at *
  go_loopw [6, 11] (fun t i wr => ∃ k : Nat, t = .string ⟨(txW (q.take k)).toArray⟩ ∧ i = .int .i64 (k : Int) ∧ Hid (k ≤ q.length) ∧ Hid (∃ ve vp, WtS w B x0 (.slice aq q.length cq) q k k ve vp wr)) (fun _ i _ => q.length - (intOf i).toNat)
  case atStart => exact ⟨0, rfl, rfl, Nat.zero_le _, _, _, S0.out⟩
  case round =>
    clear S0
    obtain ⟨k, rfl, rfl, HK, HS⟩ := hrel
    obtain ⟨ve, vp, hS⟩ := HS.out
    obtain ⟨ea, ec, rfl⟩ := hS.oe.form
    obtain ⟨pa, pc, rfl⟩ := hS.oi.form
    have S := hid hS
    clear HS hS
    by_cases hk : k < q.length
    case neg =>
      have hd : decide ((k : Int) < (q.length : Int)) = false := decide_eq_false (by omega)
      have hd2 : decide (k < q.length) = false := decide_eq_false hk
      obtain rfl : k = q.length := by have := HK.out; omega
      have d0 := S.out.rs.cellAt (o := 0) rfl
      have d1 := S.out.rs.cellAt (o := 1) rfl
      have d2 := S.out.rs.cellAt (o := 2) rfl
      have d3 := S.out.rs.cellAt (o := 3) rfl
      have d4 := S.out.rs.cellAt (o := 4) rfl
      have f0 : wr.frozen? ⟨w.heap.size + 1, 0, none⟩ = false := S.out.rs.frozen
      have f1 : wr.frozen? ⟨w.heap.size + 1, 1, none⟩ = false := S.out.rs.frozen
      have f2 : wr.frozen? ⟨w.heap.size + 1, 2, none⟩ = false := S.out.rs.frozen
      have f3 : wr.frozen? ⟨w.heap.size + 1, 3, none⟩ = false := S.out.rs.frozen
      have f4 : wr.frozen? ⟨w.heap.size + 1, 4, none⟩ = false := S.out.rs.frozen
      have e0 := S.out.bx.cellAt (o := 0) rfl
      have e1 := S.out.bx.cellAt (o := 1) rfl
      have e2 := S.out.bx.cellAt (o := 2) rfl
      have e3 := S.out.bx.cellAt (o := 3) rfl
      have e4 := S.out.bx.cellAt (o := 4) rfl
      have FV := hid (five S.out.rs (.int .i64 x0.n) (.int .i64 x0.ix) (.int .i64 x0.tm) (.slice ea (x0.es.length + q.length) ec) (.slice pa (x0.ps.length + q.length) pc))
      have FIN : Hid (WtE w B x0 q (.slice ea (x0.es.length + q.length) ec) (.slice pa (x0.ps.length + q.length) pc) (((((wr.setCell ⟨w.heap.size + 1, 0, none⟩ (.int .i64 x0.n)).setCell ⟨w.heap.size + 1, 1, none⟩ (.int .i64 x0.ix)).setCell ⟨w.heap.size + 1, 2, none⟩ (.int .i64 x0.tm)).setCell ⟨w.heap.size + 1, 3, none⟩ (.slice ea (x0.es.length + q.length) ec)).setCell ⟨w.heap.size + 1, 4, none⟩ (.slice pa (x0.ps.length + q.length) pc))) := S.out.fin FV.out.2
      have HTT : Hid (q.take q.length = q) := List.take_length
      rw [HTT.out]
      clear S HK
      go_wp2
      refine bodyPost_ret (ret_ctw (p := 4) (u := 5) rfl _ _ (w.heap.size + 1) #[.int .i64 x0.n, .int .i64 x0.ix, .int .i64 x0.tm, .slice ea (x0.es.length + q.length) ec, .slice pa (x0.ps.length + q.length) pc] (.string ⟨(txW q).toArray⟩) rfl rfl (run_loadVar_row _ _ _ _ _ _ _ FV.out.1 Tryz.underlying126 rfl (by kernel_rfl))) rfl ?_
      exact ⟨_, _, rfl, FIN.out⟩
    obtain ⟨a9, c9, e9, hc9⟩ := S.out.en.form
    obtain ⟨bq, oq, hqa, -, -⟩ := hc9 k hk
    injection e9 with e1 e2 e3
    obtain rfl : aq = some ⟨bq, oq, none⟩ := e1.trans hqa
    clear e1 e2 e3 hqa hc9
    have CN : Hid (∀ W, EntI W (.slice (some ⟨bq, oq, none⟩) q.length cq) q → W.cell? ⟨bq, oq + k * 3, none⟩ = some (.int .i64 (q[k]).tm) ∧ W.cell? ⟨bq, oq + k * 3 + 1, none⟩ = some (.int .i64 (q[k]).kd) ∧ W.cell? ⟨bq, oq + k * 3 + 2, none⟩ = some (.string (q[k]).da)) := fun W h => by
      obtain ⟨a9, c9, e9, hc9⟩ := h.form
      obtain ⟨b9, o9, h9, -, h10⟩ := hc9 k hk
      injection e9 with e1
      rw [h9] at e1
      injection e1 with e1
      injection e1 with e1 e2
      subst e1 e2
      exact h10
    have HQX : Hid (q[k]? = some q[k]) := List.getElem?_eq_getElem hk
    have hxo := HOK.out _ (List.getElem_mem hk)
    have ET := hid (fun W => entryX_any q[k] hxo W)
    have AP := hid (fun W => wapart_any q[k] W (by have := hxo.2.2.2.2; omega))
    have htl := txW_len (q.take k) (fun x hx => HOK.out x (List.mem_of_mem_take hx))
    have hel := enX_len q[k] hxo
    have htk : (q.take k).length = k := by rw [List.length_take]; omega
    have hk1000 : k ≤ 1000 := by have := HLL.out.1; omega
    rw [htk] at htl
    obtain ⟨a, ha⟩ : ∃ a, x0.sg.sz + ((txW (q.take k)).length : Int) = a := ⟨_, rfl⟩
    have SZ : Hid (∀ W ve vp, WtS w B x0 (.slice (some ⟨bq, oq, none⟩) q.length cq) q (k + 1) k ve vp W → Calls Tryz.prog 105 #[.agg #[.int .i64 x0.n, .int .i64 x0.ix, .int .i64 x0.tm, ve, vp]] W fun e w' => e = .returned (.int .i64 a) ∧ Below W.heap.size W w') := fun W ve vp h => by
      have h1 := sgsize_any x0.n x0.ix x0.tm ve vp _ W (h.ints (by omega)) (by have := HLL.out; rw [List.length_append, psX_len, htk]; omega) (by have := HLL.out; rw [List.length_append, psX_len, htk]; omega)
      rw [lastD_app] at h1
      have h2 : (psX x0.sg.sz (q.take k)).getLastD x0.sg.sz = a := by rw [psX_lastD]; exact ha
      rw [show x0.ps.getLastD 0 = x0.sg.sz from rfl, h2] at h1
      exact h1
    have hab : 0 ≤ a ∧ a ≤ 1000100000000 := by have := HSZ.out; omega
    have hTs : ((⟨(enX q[k]).toArray⟩ : ByteArray).size : Int) = ((enX q[k]).length : Int) := by show ((enX q[k]).toArray.size : Int) = _; simp
    have HZA : Hid (a + (((⟨(enX q[k]).toArray⟩ : ByteArray).size : Nat) : Int) = x0.sg.sz + ((txW (q.take k)).length : Int) + ((enX q[k]).length : Int)) := by show _ = _; rw [hTs, ← ha]
    have AD := hid (fun W => add_ls (txW (q.take k)) (enX q[k]) W (by omega))
    have HTX : Hid (txW (q.take (k + 1)) = txW (q.take k) ++ enX q[k]) := by show _ = _; rw [List.take_succ_eq_append_getElem hk, txW_snoc]
    have hwa : wrap64 (a + (((⟨(enX q[k]).toArray⟩ : ByteArray).size : Nat) : Int)) = a + (((⟨(enX q[k]).toArray⟩ : ByteArray).size : Nat) : Int) := by rw [hTs, IntWalk.wrap64_in _ (by omega)]
    have hwb : IntKind.i64.wrap (a + (((⟨(enX q[k]).toArray⟩ : ByteArray).size : Nat) : Int)) = a + (((⟨(enX q[k]).toArray⟩ : ByteArray).size : Nat) : Int) := by rw [hTs, IntKind.wrap_i64]; omega
    have k0 : (0 : Int) ≤ (k : Int) := by omega
    have k1 : (k : Int) < (q.length : Int) := by omega
    have HL1 : Hid (x0.es.length + k + 1 ≤ 1048576) := by have := HLL.out; show _ ≤ _; omega
    have HL2 : Hid ((x0.es.length + k + 1) * 32 ≤ 140737488355328) := by have := HLL.out; show _ ≤ _; omega
    have HL3 : Hid (x0.ps.length + k + 1 ≤ 1048576) := by have := HLL.out; show _ ≤ _; omega
    have HL4 : Hid ((x0.ps.length + k + 1) * 8 ≤ 140737488355328) := by have := HLL.out; show _ ≤ _; omega
    have HWK : Hid (wrap64 ((k : Int) + 1) = (k : Int) + 1) := by show _ = _; rw [IntWalk.wrap64_in _ (by omega)]
    have HK1 : Hid (k + 1 ≤ q.length) := hk
    clear htl hel htk hk1000 ha hab hTs hxo
    obtain ⟨y0, y1, y2⟩ := CN.out _ S.out.en
    generalize hx9 : q[k] = x at *
    have HX9 := hid hx9
    clear hx9
    obtain ⟨tm, kd, da⟩ := x
    simp only at CN ET AP y0 y1 y2
    generalize hTT : (⟨(enX ⟨tm, kd, da⟩).toArray⟩ : ByteArray) = T at *
    clear hTT
    go_wp2_with fail
    refine (ET.out _).mono ?_
    rintro e W6 ⟨rfl, b6⟩
    have S5 := hid (S.out.next b6)
    clear ET S b6 y0 y1 y2
    go_wp2_with fail
    have S6 : Hid (WtS w B x0 (.slice (some ⟨bq, oq, none⟩) q.length cq) q k k (.slice ea (x0.es.length + k) ec) (.slice pa (x0.ps.length + k) pc) W6.drew) := S5.out.next (Below.refl _ _).drew
    have Z60 : (W6.drew.cell? ⟨bq, oq + k * 3, none⟩ = some (.int .i64 tm) ∧ W6.drew.cell? ⟨bq, oq + k * 3 + 1, none⟩ = some (.int .i64 kd) ∧ W6.drew.cell? ⟨bq, oq + k * 3 + 2, none⟩ = some (.string da)) := CN.out _ S6.out.en
    clear S5
    refine wp_region_held_drew (S := fun W => W.cell? ⟨bq, oq + k * 3, none⟩ = some (.int .i64 tm) ∧ W.cell? ⟨bq, oq + k * 3 + 1, none⟩ = some (.int .i64 kd) ∧ W.cell? ⟨bq, oq + k * 3 + 2, none⟩ = some (.string da)) (by kernel_rfl) Z60 (fun hHeld => ?_)
    generalize W6.drew = u0 at *
    have x3c := S6.out.bx.cellAt (o := 3) rfl
    refine wpAnyH_take (i := 0) (v := ?vv1) rfl (by kernel_rfl) (by kernel_rfl) (by kernel_rfl) (fun _ _ _ h => h) (Or.inl ⟨by rfl, ?hy1⟩) (by assumption) ?rest1
    case hy1 => (intro w hSw; (try dsimp only at hSw); go_simp; first | done | with_reducible rfl)
    try simp only [Act.put, List.getElem_toArray, List.getElem_cons_succ, List.getElem_cons_zero, List.setIfInBounds_toArray, List.set_cons_zero, List.set_cons_succ]
    refine wpAnyH_take (i := 2) (v := ?vv2) rfl (by kernel_rfl) (by kernel_rfl) (by kernel_rfl) (fun _ _ _ h => h) (Or.inl ⟨by rfl, ?hy2⟩) (by assumption) ?rest2
    case hy2 => (intro w hSw; (try dsimp only at hSw); go_simp; first | done | with_reducible rfl)
    try simp only [Act.put, List.getElem_toArray, List.getElem_cons_succ, List.getElem_cons_zero, List.setIfInBounds_toArray, List.set_cons_zero, List.set_cons_succ]
    refine wpAnyH_take (i := 3) (v := ?vv3) rfl (by kernel_rfl) (by kernel_rfl) (by kernel_rfl) (fun _ _ _ h => h) (Or.inl ⟨by rfl, ?hy3⟩) (by assumption) ?rest3
    case hy3 => (intro w hSw; (try dsimp only at hSw); go_simp; first | done | with_reducible rfl)
    try simp only [Act.put, List.getElem_toArray, List.getElem_cons_succ, List.getElem_cons_zero, List.setIfInBounds_toArray, List.set_cons_zero, List.set_cons_succ]
    refine wpAnyH_take (i := 4) (v := ?vv4) rfl (by kernel_rfl) (by kernel_rfl) (by kernel_rfl) (fun _ _ _ h => h) (Or.inl ⟨by rfl, ?hy4⟩) (by assumption) ?rest4
    case hy4 => (intro w hSw; (try dsimp only at hSw); go_simp; first | done | with_reducible rfl)
    try simp only [Act.put, List.getElem_toArray, List.getElem_cons_succ, List.getElem_cons_zero, List.setIfInBounds_toArray, List.set_cons_zero, List.set_cons_succ]
    refine wpAnyH_take (i := 5) (v := ?vv5) rfl (by kernel_rfl) (by kernel_rfl) (by kernel_rfl) (fun _ _ _ h => h) (Or.inl ⟨by rfl, ?hy5⟩) (by assumption) ?rest5
    case hy5 => (intro w hSw; (try dsimp only at hSw); go_simp; first | done | with_reducible rfl)
    try simp only [Act.put, List.getElem_toArray, List.getElem_cons_succ, List.getElem_cons_zero, List.setIfInBounds_toArray, List.set_cons_zero, List.set_cons_succ]
    refine wpAnyH_ready (rs := [1, 6]) (by kernel_rfl) (by simp) ?_
    refine AllReadyH.cons rfl (fun K hK => ?_) (AllReadyH.cons rfl (fun K hK => ?_) AllReadyH.nil)
    · go_simp
      refine hK.out _ _ Z60 (fun hHeld => ?_)
      clear hK K
      try simp only [Act.put, List.getElem_toArray, List.getElem_cons_succ, List.getElem_cons_zero, List.setIfInBounds_toArray, List.set_cons_zero, List.set_cons_succ]
      refine wpAnyH_ready (rs := [6]) (by kernel_rfl) (by simp) ?_
      refine AllReadyH.cons rfl (fun K hK => ?_) AllReadyH.nil
      go_simp
      refine (AP.out _).mono ?_
      rintro e u1 ⟨rfl, b1⟩
      have S7 := hid (S6.out.next b1)
      have Z61 : (u1.cell? ⟨bq, oq + k * 3, none⟩ = some (.int .i64 tm) ∧ u1.cell? ⟨bq, oq + k * 3 + 1, none⟩ = some (.int .i64 kd) ∧ u1.cell? ⟨bq, oq + k * 3 + 2, none⟩ = some (.string da)) := CN.out _ S7.out.en
      have y3c := S7.out.bx.cellAt (o := 3) rfl
      have S8 := hid (S7.out.next (below_al (Below.refl _ _) (.cells #[.int .i64 tm, .int .i64 kd, .string da] 68)))
      have Z62 : ((u1.alloc (.cells #[.int .i64 tm, .int .i64 kd, .string da] 68)).cell? ⟨bq, oq + k * 3, none⟩ = some (.int .i64 tm) ∧ (u1.alloc (.cells #[.int .i64 tm, .int .i64 kd, .string da] 68)).cell? ⟨bq, oq + k * 3 + 1, none⟩ = some (.int .i64 kd) ∧ (u1.alloc (.cells #[.int .i64 tm, .int .i64 kd, .string da] 68)).cell? ⟨bq, oq + k * 3 + 2, none⟩ = some (.string da)) := CN.out _ S8.out.en
      have z3c := S8.out.bx.cellAt (o := 3) rfl
      clear b1 AP
      go_wp2_with fail
      refine hK.out _ _ Z61 (fun hHeld => ?_)
      clear hK K
      try simp only [Act.put, List.getElem_toArray, List.getElem_cons_succ, List.getElem_cons_zero, List.setIfInBounds_toArray, List.set_cons_zero, List.set_cons_succ]
      refine wpAnyH_ready (rs := [7]) (by kernel_rfl) (by simp) ?_
      refine AllReadyH.cons rfl (fun K hK => ?_) AllReadyH.nil
      go_simp
      refine hK.out _ _ Z62 (fun hHeld => ?_)
      clear hK K
      try simp only [Act.put, List.getElem_toArray, List.getElem_cons_succ, List.getElem_cons_zero, List.setIfInBounds_toArray, List.set_cons_zero, List.set_cons_succ]
      refine wpAnyH_ready (rs := [8]) (by kernel_rfl) (by simp) ?_
      refine AllReadyH.cons rfl (fun K hK => ?_) AllReadyH.nil
      refine step_gappP (by rfl) _ _ elEn (by rfl) B (.slice ea (x0.es.length + k) ec) (.slice (some ⟨u1.heap.size, 0, none⟩) 1 1) (ensC x0.es ++ ensC (q.take k)) (enC ⟨tm, kd, da⟩) (x0.es.length + k) 1 (x0.es.length + k + 1) rfl (by rfl) (by rfl) S8.out.oe (by have h1 := S8.out.hB; have h2 := S8.out.sz; omega) (RowC.own (own_made u1 (enC ⟨tm, kd, da⟩) 68 3 1 0 (Nat.zero_le _) rfl (by omega))) rfl (enC_cell1 _) (by omega) HL1.out HL2.out ?_
      intro ea2 ec2 w9 ho9 hk9
      obtain ⟨⟨g9, f9⟩, e9, S9⟩ := S8.out.appE ⟨tm, kd, da⟩ HQX.out ho9 hk9
      have Z63 : (w9.cell? ⟨bq, oq + k * 3, none⟩ = some (.int .i64 tm) ∧ w9.cell? ⟨bq, oq + k * 3 + 1, none⟩ = some (.int .i64 kd) ∧ w9.cell? ⟨bq, oq + k * 3 + 2, none⟩ = some (.string da)) := CN.out _ e9
      have Z64 : ((w9.setCell ⟨w.heap.size, 3, none⟩ (.slice ea2 (x0.es.length + k + 1) ec2)).cell? ⟨bq, oq + k * 3, none⟩ = some (.int .i64 tm) ∧ (w9.setCell ⟨w.heap.size, 3, none⟩ (.slice ea2 (x0.es.length + k + 1) ec2)).cell? ⟨bq, oq + k * 3 + 1, none⟩ = some (.int .i64 kd) ∧ (w9.setCell ⟨w.heap.size, 3, none⟩ (.slice ea2 (x0.es.length + k + 1) ec2)).cell? ⟨bq, oq + k * 3 + 2, none⟩ = some (.string da)) := CN.out _ S9.en
      have S10 := hid S9
      clear ho9 hk9 S9 e9
      refine hK.out _ _ Z63 (fun hHeld => ?_)
      clear hK K
      try simp only [Act.put, List.getElem_toArray, List.getElem_cons_succ, List.getElem_cons_zero, List.setIfInBounds_toArray, List.set_cons_zero, List.set_cons_succ]
      refine wpAnyH_take (i := 9) (v := ?vv6) rfl (by kernel_rfl) (by kernel_rfl) (by kernel_rfl) (fun _ _ _ h => h) (Or.inl ⟨by rfl, ?hy6⟩) (by assumption) ?rest6
      case hy6 => (intro w hSw; (try dsimp only at hSw); go_simp; first | done | with_reducible rfl)
      try simp only [Act.put, List.getElem_toArray, List.getElem_cons_succ, List.getElem_cons_zero, List.setIfInBounds_toArray, List.set_cons_zero, List.set_cons_succ]
      refine wpAnyH_ready (rs := [10]) (by kernel_rfl) (by simp) ?_
      refine AllReadyH.cons rfl (fun K hK => ?_) AllReadyH.nil
      go_simp
      refine hK.out _ _ Z64 (fun hHeld => ?_)
      clear hK K
      try simp only [Act.put, List.getElem_toArray, List.getElem_cons_succ, List.getElem_cons_zero, List.setIfInBounds_toArray, List.set_cons_zero, List.set_cons_succ]
      refine wpAnyH_done (by kernel_rfl) ?_ _
      generalize hw9 : (w9.setCell ⟨w.heap.size, 3, none⟩ (.slice ea2 (x0.es.length + k + 1) ec2)) = W7 at *
      clear hw9 g9 f9 Z63 Z64 hHeld CN S8
      go_wp2_with fail
      have S7 : Hid (WtS w B x0 (.slice (some ⟨bq, oq, none⟩) q.length cq) q (k + 1) k (.slice ea2 (x0.es.length + k + 1) ec2) (.slice pa (x0.ps.length + k) pc) W7.drew) := S10.out.next (Below.refl _ _).drew
      clear S10
      refine wp_region_held_drew (S := fun _ => True) (by kernel_rfl) trivial (fun hHeld => ?_)
      generalize W7.drew = u2 at *
      have x0c := S7.out.bx.cellAt (o := 0) rfl
      have x1c := S7.out.bx.cellAt (o := 1) rfl
      have x2c := S7.out.bx.cellAt (o := 2) rfl
      have x3c := S7.out.bx.cellAt (o := 3) rfl
      have x4c := S7.out.bx.cellAt (o := 4) rfl
      refine wpAnyH_take (i := 0) (v := ?vv7) rfl (by kernel_rfl) (by kernel_rfl) (by kernel_rfl) (fun _ _ _ h => h) (Or.inl ⟨by rfl, ?hy7⟩) (by assumption) ?rest7
      case hy7 => (intro w hSw; (try dsimp only at hSw); go_simp; first | done | with_reducible rfl)
      try simp only [Act.put, List.getElem_toArray, List.getElem_cons_succ, List.getElem_cons_zero, List.setIfInBounds_toArray, List.set_cons_zero, List.set_cons_succ]
      refine wpAnyH_take (i := 4) (v := ?vv8) rfl (by kernel_rfl) (by kernel_rfl) (by kernel_rfl) (fun _ _ _ h => h) (Or.inl ⟨by rfl, ?hy8⟩) (by assumption) ?rest8
      case hy8 => (intro w hSw; (try dsimp only at hSw); go_simp; first | done | with_reducible rfl)
      try simp only [Act.put, List.getElem_toArray, List.getElem_cons_succ, List.getElem_cons_zero, List.setIfInBounds_toArray, List.set_cons_zero, List.set_cons_succ]
      refine wpAnyH_take (i := 5) (v := ?vv9) rfl (by kernel_rfl) (by kernel_rfl) (by kernel_rfl) (fun _ _ _ h => h) (Or.inl ⟨by rfl, ?hy9⟩) (by assumption) ?rest9
      case hy9 => (intro w hSw; (try dsimp only at hSw); go_simp; first | done | with_reducible rfl)
      try simp only [Act.put, List.getElem_toArray, List.getElem_cons_succ, List.getElem_cons_zero, List.setIfInBounds_toArray, List.set_cons_zero, List.set_cons_succ]
      refine wpAnyH_ready (rs := [1, 2]) (by kernel_rfl) (by simp) ?_
      refine AllReadyH.cons rfl (fun K hK => ?_) (AllReadyH.cons rfl (fun K hK => ?_) AllReadyH.nil)
      · go_simp
        refine hK.out _ _ trivial (fun hHeld => ?_)
        clear hK K
        try simp only [Act.put, List.getElem_toArray, List.getElem_cons_succ, List.getElem_cons_zero, List.setIfInBounds_toArray, List.set_cons_zero, List.set_cons_succ]
        refine wpAnyH_ready (rs := [2]) (by kernel_rfl) (by simp) ?_
        refine AllReadyH.cons rfl (fun K hK => ?_) AllReadyH.nil
        go_simp
        refine hK.out _ _ trivial (fun hHeld => ?_)
        clear hK K
        try simp only [Act.put, List.getElem_toArray, List.getElem_cons_succ, List.getElem_cons_zero, List.setIfInBounds_toArray, List.set_cons_zero, List.set_cons_succ]
        refine wpAnyH_ready (rs := [3]) (by kernel_rfl) (by simp) ?_
        refine AllReadyH.cons rfl (fun K hK => ?_) AllReadyH.nil
        go_simp
        refine (SZ.out _ _ _ S7.out).mono ?_
        rintro e u3 ⟨rfl, b3⟩
        have S8 := hid (S7.out.next b3)
        have y4c := S8.out.bx.cellAt (o := 4) rfl
        have S9 := hid (S8.out.next (below_al (Below.refl _ _) (.cells #[.int .i64 (a + (T.size : Int))] 3)))
        have z4c := S9.out.bx.cellAt (o := 4) rfl
        clear b3 SZ
        go_wp2_with fail
        refine hK.out _ _ trivial (fun hHeld => ?_)
        clear hK K
        try simp only [Act.put, List.getElem_toArray, List.getElem_cons_succ, List.getElem_cons_zero, List.setIfInBounds_toArray, List.set_cons_zero, List.set_cons_succ]
        refine wpAnyH_take (i := 6) (v := ?vv10) rfl (by kernel_rfl) (by kernel_rfl) (by kernel_rfl) (fun _ _ _ h => h) (Or.inl ⟨by rfl, ?hy10⟩) (by assumption) ?rest10
        case hy10 => (intro w hSw; (try dsimp only at hSw); go_simp; first | done | with_reducible rfl)
        try simp only [Act.put, List.getElem_toArray, List.getElem_cons_succ, List.getElem_cons_zero, List.setIfInBounds_toArray, List.set_cons_zero, List.set_cons_succ]
        refine wpAnyH_ready (rs := [7]) (by kernel_rfl) (by simp) ?_
        refine AllReadyH.cons rfl (fun K hK => ?_) AllReadyH.nil
        go_simp
        refine hK.out _ _ trivial (fun hHeld => ?_)
        clear hK K
        try simp only [Act.put, List.getElem_toArray, List.getElem_cons_succ, List.getElem_cons_zero, List.setIfInBounds_toArray, List.set_cons_zero, List.set_cons_succ]
        refine wpAnyH_ready (rs := [8]) (by kernel_rfl) (by simp) ?_
        refine AllReadyH.cons rfl (fun K hK => ?_) AllReadyH.nil
        refine step_gappP (by rfl) _ _ elIn (by rfl) B (.slice pa (x0.ps.length + k) pc) (.slice (some ⟨u3.heap.size, 0, none⟩) 1 1) (isC x0.ps ++ isC (psX x0.sg.sz (q.take k))) [.int .i64 (a + (T.size : Int))] (x0.ps.length + k) 1 (x0.ps.length + k + 1) rfl (by rfl) (by rfl) S9.out.oi (by have h1 := S9.out.hB; have h2 := S9.out.sz; omega) (RowC.own (own_made u3 [.int .i64 (a + (T.size : Int))] 3 1 1 0 (Nat.zero_le _) rfl (by omega))) rfl (fun u hu => by simp at hu; subst hu; rfl) (by omega) HL3.out HL4.out ?_
        intro pa2 pc2 w9 ho9 hk9
        obtain ⟨⟨g9, f9⟩, S10⟩ := S9.out.appI ⟨tm, kd, da⟩ HQX.out _ HZA.out ho9 hk9
        have S11 := hid S10
        clear ho9 hk9 S10
        refine hK.out _ _ trivial (fun hHeld => ?_)
        clear hK K
        try simp only [Act.put, List.getElem_toArray, List.getElem_cons_succ, List.getElem_cons_zero, List.setIfInBounds_toArray, List.set_cons_zero, List.set_cons_succ]
        refine wpAnyH_take (i := 9) (v := ?vv11) rfl (by kernel_rfl) (by kernel_rfl) (by kernel_rfl) (fun _ _ _ h => h) (Or.inl ⟨by rfl, ?hy11⟩) (by assumption) ?rest11
        case hy11 => (intro w hSw; (try dsimp only at hSw); go_simp; first | done | with_reducible rfl)
        try simp only [Act.put, List.getElem_toArray, List.getElem_cons_succ, List.getElem_cons_zero, List.setIfInBounds_toArray, List.set_cons_zero, List.set_cons_succ]
        refine wpAnyH_ready (rs := [10]) (by kernel_rfl) (by simp) ?_
        refine AllReadyH.cons rfl (fun K hK => ?_) AllReadyH.nil
        go_simp
        refine hK.out _ _ trivial (fun hHeld => ?_)
        clear hK K
        try simp only [Act.put, List.getElem_toArray, List.getElem_cons_succ, List.getElem_cons_zero, List.setIfInBounds_toArray, List.set_cons_zero, List.set_cons_succ]
        refine wpAnyH_done (by kernel_rfl) ?_ _
        generalize hw9 : (w9.setCell ⟨w.heap.size, 4, none⟩ (.slice pa2 (x0.ps.length + k + 1) pc2)) = w10 at *
        clear hw9 g9 f9
        have AD2 := fun W => AD.out W
        go_wp2
        exact ⟨⟨k + 1, by rw [HTX.out], by rw [HWK.out]; go_num, HK1.out, _, _, S11.out⟩, by rw [HWK.out]; exact meas _ _ hk⟩
      · go_simp
        refine hK.out _ _ trivial (fun hHeld => ?_)
        clear hK K
        try simp only [Act.put, List.getElem_toArray, List.getElem_cons_succ, List.getElem_cons_zero, List.setIfInBounds_toArray, List.set_cons_zero, List.set_cons_succ]
        refine wpAnyH_ready (rs := [1, 3]) (by kernel_rfl) (by simp) ?_
        refine AllReadyH.cons rfl (fun K hK => ?_) (AllReadyH.cons rfl (fun K hK => ?_) AllReadyH.nil)
        · go_simp
          refine hK.out _ _ trivial (fun hHeld => ?_)
          clear hK K
          try simp only [Act.put, List.getElem_toArray, List.getElem_cons_succ, List.getElem_cons_zero, List.setIfInBounds_toArray, List.set_cons_zero, List.set_cons_succ]
          refine wpAnyH_ready (rs := [3]) (by kernel_rfl) (by simp) ?_
          refine AllReadyH.cons rfl (fun K hK => ?_) AllReadyH.nil
          go_simp
          refine (SZ.out _ _ _ S7.out).mono ?_
          rintro e u3 ⟨rfl, b3⟩
          have S8 := hid (S7.out.next b3)
          have y4c := S8.out.bx.cellAt (o := 4) rfl
          have S9 := hid (S8.out.next (below_al (Below.refl _ _) (.cells #[.int .i64 (a + (T.size : Int))] 3)))
          have z4c := S9.out.bx.cellAt (o := 4) rfl
          clear b3 SZ
          go_wp2_with fail
          refine hK.out _ _ trivial (fun hHeld => ?_)
          clear hK K
          try simp only [Act.put, List.getElem_toArray, List.getElem_cons_succ, List.getElem_cons_zero, List.setIfInBounds_toArray, List.set_cons_zero, List.set_cons_succ]
          refine wpAnyH_take (i := 6) (v := ?vv12) rfl (by kernel_rfl) (by kernel_rfl) (by kernel_rfl) (fun _ _ _ h => h) (Or.inl ⟨by rfl, ?hy12⟩) (by assumption) ?rest12
          case hy12 => (intro w hSw; (try dsimp only at hSw); go_simp; first | done | with_reducible rfl)
          try simp only [Act.put, List.getElem_toArray, List.getElem_cons_succ, List.getElem_cons_zero, List.setIfInBounds_toArray, List.set_cons_zero, List.set_cons_succ]
          refine wpAnyH_ready (rs := [7]) (by kernel_rfl) (by simp) ?_
          refine AllReadyH.cons rfl (fun K hK => ?_) AllReadyH.nil
          go_simp
          refine hK.out _ _ trivial (fun hHeld => ?_)
          clear hK K
          try simp only [Act.put, List.getElem_toArray, List.getElem_cons_succ, List.getElem_cons_zero, List.setIfInBounds_toArray, List.set_cons_zero, List.set_cons_succ]
          refine wpAnyH_ready (rs := [8]) (by kernel_rfl) (by simp) ?_
          refine AllReadyH.cons rfl (fun K hK => ?_) AllReadyH.nil
          refine step_gappP (by rfl) _ _ elIn (by rfl) B (.slice pa (x0.ps.length + k) pc) (.slice (some ⟨u3.heap.size, 0, none⟩) 1 1) (isC x0.ps ++ isC (psX x0.sg.sz (q.take k))) [.int .i64 (a + (T.size : Int))] (x0.ps.length + k) 1 (x0.ps.length + k + 1) rfl (by rfl) (by rfl) S9.out.oi (by have h1 := S9.out.hB; have h2 := S9.out.sz; omega) (RowC.own (own_made u3 [.int .i64 (a + (T.size : Int))] 3 1 1 0 (Nat.zero_le _) rfl (by omega))) rfl (fun u hu => by simp at hu; subst hu; rfl) (by omega) HL3.out HL4.out ?_
          intro pa2 pc2 w9 ho9 hk9
          obtain ⟨⟨g9, f9⟩, S10⟩ := S9.out.appI ⟨tm, kd, da⟩ HQX.out _ HZA.out ho9 hk9
          have S11 := hid S10
          clear ho9 hk9 S10
          refine hK.out _ _ trivial (fun hHeld => ?_)
          clear hK K
          try simp only [Act.put, List.getElem_toArray, List.getElem_cons_succ, List.getElem_cons_zero, List.setIfInBounds_toArray, List.set_cons_zero, List.set_cons_succ]
          refine wpAnyH_take (i := 9) (v := ?vv13) rfl (by kernel_rfl) (by kernel_rfl) (by kernel_rfl) (fun _ _ _ h => h) (Or.inl ⟨by rfl, ?hy13⟩) (by assumption) ?rest13
          case hy13 => (intro w hSw; (try dsimp only at hSw); go_simp; first | done | with_reducible rfl)
          try simp only [Act.put, List.getElem_toArray, List.getElem_cons_succ, List.getElem_cons_zero, List.setIfInBounds_toArray, List.set_cons_zero, List.set_cons_succ]
          refine wpAnyH_ready (rs := [10]) (by kernel_rfl) (by simp) ?_
          refine AllReadyH.cons rfl (fun K hK => ?_) AllReadyH.nil
          go_simp
          refine hK.out _ _ trivial (fun hHeld => ?_)
          clear hK K
          try simp only [Act.put, List.getElem_toArray, List.getElem_cons_succ, List.getElem_cons_zero, List.setIfInBounds_toArray, List.set_cons_zero, List.set_cons_succ]
          refine wpAnyH_done (by kernel_rfl) ?_ _
          generalize hw9 : (w9.setCell ⟨w.heap.size, 4, none⟩ (.slice pa2 (x0.ps.length + k + 1) pc2)) = w10 at *
          clear hw9 g9 f9
          have AD2 := fun W => AD.out W
          go_wp2
          exact ⟨⟨k + 1, by rw [HTX.out], by rw [HWK.out]; go_num, HK1.out, _, _, S11.out⟩, by rw [HWK.out]; exact meas _ _ hk⟩
        · go_simp
          refine (SZ.out _ _ _ S7.out).mono ?_
          rintro e u3 ⟨rfl, b3⟩
          have S8 := hid (S7.out.next b3)
          have y4c := S8.out.bx.cellAt (o := 4) rfl
          have S9 := hid (S8.out.next (below_al (Below.refl _ _) (.cells #[.int .i64 (a + (T.size : Int))] 3)))
          have z4c := S9.out.bx.cellAt (o := 4) rfl
          clear b3 SZ
          go_wp2_with fail
          refine hK.out _ _ trivial (fun hHeld => ?_)
          clear hK K
          try simp only [Act.put, List.getElem_toArray, List.getElem_cons_succ, List.getElem_cons_zero, List.setIfInBounds_toArray, List.set_cons_zero, List.set_cons_succ]
          refine wpAnyH_take (i := 6) (v := ?vv14) rfl (by kernel_rfl) (by kernel_rfl) (by kernel_rfl) (fun _ _ _ h => h) (Or.inl ⟨by rfl, ?hy14⟩) (by assumption) ?rest14
          case hy14 => (intro w hSw; (try dsimp only at hSw); go_simp; first | done | with_reducible rfl)
          try simp only [Act.put, List.getElem_toArray, List.getElem_cons_succ, List.getElem_cons_zero, List.setIfInBounds_toArray, List.set_cons_zero, List.set_cons_succ]
          refine wpAnyH_ready (rs := [1, 7]) (by kernel_rfl) (by simp) ?_
          refine AllReadyH.cons rfl (fun K hK => ?_) (AllReadyH.cons rfl (fun K hK => ?_) AllReadyH.nil)
          · go_simp
            refine hK.out _ _ trivial (fun hHeld => ?_)
            clear hK K
            try simp only [Act.put, List.getElem_toArray, List.getElem_cons_succ, List.getElem_cons_zero, List.setIfInBounds_toArray, List.set_cons_zero, List.set_cons_succ]
            refine wpAnyH_ready (rs := [7]) (by kernel_rfl) (by simp) ?_
            refine AllReadyH.cons rfl (fun K hK => ?_) AllReadyH.nil
            go_simp
            refine hK.out _ _ trivial (fun hHeld => ?_)
            clear hK K
            try simp only [Act.put, List.getElem_toArray, List.getElem_cons_succ, List.getElem_cons_zero, List.setIfInBounds_toArray, List.set_cons_zero, List.set_cons_succ]
            refine wpAnyH_ready (rs := [8]) (by kernel_rfl) (by simp) ?_
            refine AllReadyH.cons rfl (fun K hK => ?_) AllReadyH.nil
            refine step_gappP (by rfl) _ _ elIn (by rfl) B (.slice pa (x0.ps.length + k) pc) (.slice (some ⟨u3.heap.size, 0, none⟩) 1 1) (isC x0.ps ++ isC (psX x0.sg.sz (q.take k))) [.int .i64 (a + (T.size : Int))] (x0.ps.length + k) 1 (x0.ps.length + k + 1) rfl (by rfl) (by rfl) S9.out.oi (by have h1 := S9.out.hB; have h2 := S9.out.sz; omega) (RowC.own (own_made u3 [.int .i64 (a + (T.size : Int))] 3 1 1 0 (Nat.zero_le _) rfl (by omega))) rfl (fun u hu => by simp at hu; subst hu; rfl) (by omega) HL3.out HL4.out ?_
            intro pa2 pc2 w9 ho9 hk9
            obtain ⟨⟨g9, f9⟩, S10⟩ := S9.out.appI ⟨tm, kd, da⟩ HQX.out _ HZA.out ho9 hk9
            have S11 := hid S10
            clear ho9 hk9 S10
            refine hK.out _ _ trivial (fun hHeld => ?_)
            clear hK K
            try simp only [Act.put, List.getElem_toArray, List.getElem_cons_succ, List.getElem_cons_zero, List.setIfInBounds_toArray, List.set_cons_zero, List.set_cons_succ]
            refine wpAnyH_take (i := 9) (v := ?vv15) rfl (by kernel_rfl) (by kernel_rfl) (by kernel_rfl) (fun _ _ _ h => h) (Or.inl ⟨by rfl, ?hy15⟩) (by assumption) ?rest15
            case hy15 => (intro w hSw; (try dsimp only at hSw); go_simp; first | done | with_reducible rfl)
            try simp only [Act.put, List.getElem_toArray, List.getElem_cons_succ, List.getElem_cons_zero, List.setIfInBounds_toArray, List.set_cons_zero, List.set_cons_succ]
            refine wpAnyH_ready (rs := [10]) (by kernel_rfl) (by simp) ?_
            refine AllReadyH.cons rfl (fun K hK => ?_) AllReadyH.nil
            go_simp
            refine hK.out _ _ trivial (fun hHeld => ?_)
            clear hK K
            try simp only [Act.put, List.getElem_toArray, List.getElem_cons_succ, List.getElem_cons_zero, List.setIfInBounds_toArray, List.set_cons_zero, List.set_cons_succ]
            refine wpAnyH_done (by kernel_rfl) ?_ _
            generalize hw9 : (w9.setCell ⟨w.heap.size, 4, none⟩ (.slice pa2 (x0.ps.length + k + 1) pc2)) = w10 at *
            clear hw9 g9 f9
            have AD2 := fun W => AD.out W
            go_wp2
            exact ⟨⟨k + 1, by rw [HTX.out], by rw [HWK.out]; go_num, HK1.out, _, _, S11.out⟩, by rw [HWK.out]; exact meas _ _ hk⟩
          · go_simp
            refine hK.out _ _ trivial (fun hHeld => ?_)
            clear hK K
            try simp only [Act.put, List.getElem_toArray, List.getElem_cons_succ, List.getElem_cons_zero, List.setIfInBounds_toArray, List.set_cons_zero, List.set_cons_succ]
            refine wpAnyH_ready (rs := [1]) (by kernel_rfl) (by simp) ?_
            refine AllReadyH.cons rfl (fun K hK => ?_) AllReadyH.nil
            go_simp
            refine hK.out _ _ trivial (fun hHeld => ?_)
            clear hK K
            try simp only [Act.put, List.getElem_toArray, List.getElem_cons_succ, List.getElem_cons_zero, List.setIfInBounds_toArray, List.set_cons_zero, List.set_cons_succ]
            refine wpAnyH_ready (rs := [8]) (by kernel_rfl) (by simp) ?_
            refine AllReadyH.cons rfl (fun K hK => ?_) AllReadyH.nil
            refine step_gappP (by rfl) _ _ elIn (by rfl) B (.slice pa (x0.ps.length + k) pc) (.slice (some ⟨u3.heap.size, 0, none⟩) 1 1) (isC x0.ps ++ isC (psX x0.sg.sz (q.take k))) [.int .i64 (a + (T.size : Int))] (x0.ps.length + k) 1 (x0.ps.length + k + 1) rfl (by rfl) (by rfl) S9.out.oi (by have h1 := S9.out.hB; have h2 := S9.out.sz; omega) (RowC.own (own_made u3 [.int .i64 (a + (T.size : Int))] 3 1 1 0 (Nat.zero_le _) rfl (by omega))) rfl (fun u hu => by simp at hu; subst hu; rfl) (by omega) HL3.out HL4.out ?_
            intro pa2 pc2 w9 ho9 hk9
            obtain ⟨⟨g9, f9⟩, S10⟩ := S9.out.appI ⟨tm, kd, da⟩ HQX.out _ HZA.out ho9 hk9
            have S11 := hid S10
            clear ho9 hk9 S10
            refine hK.out _ _ trivial (fun hHeld => ?_)
            clear hK K
            try simp only [Act.put, List.getElem_toArray, List.getElem_cons_succ, List.getElem_cons_zero, List.setIfInBounds_toArray, List.set_cons_zero, List.set_cons_succ]
            refine wpAnyH_take (i := 9) (v := ?vv16) rfl (by kernel_rfl) (by kernel_rfl) (by kernel_rfl) (fun _ _ _ h => h) (Or.inl ⟨by rfl, ?hy16⟩) (by assumption) ?rest16
            case hy16 => (intro w hSw; (try dsimp only at hSw); go_simp; first | done | with_reducible rfl)
            try simp only [Act.put, List.getElem_toArray, List.getElem_cons_succ, List.getElem_cons_zero, List.setIfInBounds_toArray, List.set_cons_zero, List.set_cons_succ]
            refine wpAnyH_ready (rs := [10]) (by kernel_rfl) (by simp) ?_
            refine AllReadyH.cons rfl (fun K hK => ?_) AllReadyH.nil
            go_simp
            refine hK.out _ _ trivial (fun hHeld => ?_)
            clear hK K
            try simp only [Act.put, List.getElem_toArray, List.getElem_cons_succ, List.getElem_cons_zero, List.setIfInBounds_toArray, List.set_cons_zero, List.set_cons_succ]
            refine wpAnyH_done (by kernel_rfl) ?_ _
            generalize hw9 : (w9.setCell ⟨w.heap.size, 4, none⟩ (.slice pa2 (x0.ps.length + k + 1) pc2)) = w10 at *
            clear hw9 g9 f9
            have AD2 := fun W => AD.out W
            go_wp2
            exact ⟨⟨k + 1, by rw [HTX.out], by rw [HWK.out]; go_num, HK1.out, _, _, S11.out⟩, by rw [HWK.out]; exact meas _ _ hk⟩
    · go_simp
      refine (AP.out _).mono ?_
      rintro e u1 ⟨rfl, b1⟩
      have S7 := hid (S6.out.next b1)
      have Z61 : (u1.cell? ⟨bq, oq + k * 3, none⟩ = some (.int .i64 tm) ∧ u1.cell? ⟨bq, oq + k * 3 + 1, none⟩ = some (.int .i64 kd) ∧ u1.cell? ⟨bq, oq + k * 3 + 2, none⟩ = some (.string da)) := CN.out _ S7.out.en
      have y3c := S7.out.bx.cellAt (o := 3) rfl
      have S8 := hid (S7.out.next (below_al (Below.refl _ _) (.cells #[.int .i64 tm, .int .i64 kd, .string da] 68)))
      have Z62 : ((u1.alloc (.cells #[.int .i64 tm, .int .i64 kd, .string da] 68)).cell? ⟨bq, oq + k * 3, none⟩ = some (.int .i64 tm) ∧ (u1.alloc (.cells #[.int .i64 tm, .int .i64 kd, .string da] 68)).cell? ⟨bq, oq + k * 3 + 1, none⟩ = some (.int .i64 kd) ∧ (u1.alloc (.cells #[.int .i64 tm, .int .i64 kd, .string da] 68)).cell? ⟨bq, oq + k * 3 + 2, none⟩ = some (.string da)) := CN.out _ S8.out.en
      have z3c := S8.out.bx.cellAt (o := 3) rfl
      clear b1 AP
      go_wp2_with fail
      refine hK.out _ _ Z61 (fun hHeld => ?_)
      clear hK K
      try simp only [Act.put, List.getElem_toArray, List.getElem_cons_succ, List.getElem_cons_zero, List.setIfInBounds_toArray, List.set_cons_zero, List.set_cons_succ]
      refine wpAnyH_ready (rs := [1, 7]) (by kernel_rfl) (by simp) ?_
      refine AllReadyH.cons rfl (fun K hK => ?_) (AllReadyH.cons rfl (fun K hK => ?_) AllReadyH.nil)
      · go_simp
        refine hK.out _ _ Z61 (fun hHeld => ?_)
        clear hK K
        try simp only [Act.put, List.getElem_toArray, List.getElem_cons_succ, List.getElem_cons_zero, List.setIfInBounds_toArray, List.set_cons_zero, List.set_cons_succ]
        refine wpAnyH_ready (rs := [7]) (by kernel_rfl) (by simp) ?_
        refine AllReadyH.cons rfl (fun K hK => ?_) AllReadyH.nil
        go_simp
        refine hK.out _ _ Z62 (fun hHeld => ?_)
        clear hK K
        try simp only [Act.put, List.getElem_toArray, List.getElem_cons_succ, List.getElem_cons_zero, List.setIfInBounds_toArray, List.set_cons_zero, List.set_cons_succ]
        refine wpAnyH_ready (rs := [8]) (by kernel_rfl) (by simp) ?_
        refine AllReadyH.cons rfl (fun K hK => ?_) AllReadyH.nil
        refine step_gappP (by rfl) _ _ elEn (by rfl) B (.slice ea (x0.es.length + k) ec) (.slice (some ⟨u1.heap.size, 0, none⟩) 1 1) (ensC x0.es ++ ensC (q.take k)) (enC ⟨tm, kd, da⟩) (x0.es.length + k) 1 (x0.es.length + k + 1) rfl (by rfl) (by rfl) S8.out.oe (by have h1 := S8.out.hB; have h2 := S8.out.sz; omega) (RowC.own (own_made u1 (enC ⟨tm, kd, da⟩) 68 3 1 0 (Nat.zero_le _) rfl (by omega))) rfl (enC_cell1 _) (by omega) HL1.out HL2.out ?_
        intro ea2 ec2 w9 ho9 hk9
        obtain ⟨⟨g9, f9⟩, e9, S9⟩ := S8.out.appE ⟨tm, kd, da⟩ HQX.out ho9 hk9
        have Z63 : (w9.cell? ⟨bq, oq + k * 3, none⟩ = some (.int .i64 tm) ∧ w9.cell? ⟨bq, oq + k * 3 + 1, none⟩ = some (.int .i64 kd) ∧ w9.cell? ⟨bq, oq + k * 3 + 2, none⟩ = some (.string da)) := CN.out _ e9
        have Z64 : ((w9.setCell ⟨w.heap.size, 3, none⟩ (.slice ea2 (x0.es.length + k + 1) ec2)).cell? ⟨bq, oq + k * 3, none⟩ = some (.int .i64 tm) ∧ (w9.setCell ⟨w.heap.size, 3, none⟩ (.slice ea2 (x0.es.length + k + 1) ec2)).cell? ⟨bq, oq + k * 3 + 1, none⟩ = some (.int .i64 kd) ∧ (w9.setCell ⟨w.heap.size, 3, none⟩ (.slice ea2 (x0.es.length + k + 1) ec2)).cell? ⟨bq, oq + k * 3 + 2, none⟩ = some (.string da)) := CN.out _ S9.en
        have S10 := hid S9
        clear ho9 hk9 S9 e9
        refine hK.out _ _ Z63 (fun hHeld => ?_)
        clear hK K
        try simp only [Act.put, List.getElem_toArray, List.getElem_cons_succ, List.getElem_cons_zero, List.setIfInBounds_toArray, List.set_cons_zero, List.set_cons_succ]
        refine wpAnyH_take (i := 9) (v := ?vv17) rfl (by kernel_rfl) (by kernel_rfl) (by kernel_rfl) (fun _ _ _ h => h) (Or.inl ⟨by rfl, ?hy17⟩) (by assumption) ?rest17
        case hy17 => (intro w hSw; (try dsimp only at hSw); go_simp; first | done | with_reducible rfl)
        try simp only [Act.put, List.getElem_toArray, List.getElem_cons_succ, List.getElem_cons_zero, List.setIfInBounds_toArray, List.set_cons_zero, List.set_cons_succ]
        refine wpAnyH_ready (rs := [10]) (by kernel_rfl) (by simp) ?_
        refine AllReadyH.cons rfl (fun K hK => ?_) AllReadyH.nil
        go_simp
        refine hK.out _ _ Z64 (fun hHeld => ?_)
        clear hK K
        try simp only [Act.put, List.getElem_toArray, List.getElem_cons_succ, List.getElem_cons_zero, List.setIfInBounds_toArray, List.set_cons_zero, List.set_cons_succ]
        refine wpAnyH_done (by kernel_rfl) ?_ _
        generalize hw9 : (w9.setCell ⟨w.heap.size, 3, none⟩ (.slice ea2 (x0.es.length + k + 1) ec2)) = W7 at *
        clear hw9 g9 f9 Z63 Z64 hHeld CN S8
        go_wp2_with fail
        have S7 : Hid (WtS w B x0 (.slice (some ⟨bq, oq, none⟩) q.length cq) q (k + 1) k (.slice ea2 (x0.es.length + k + 1) ec2) (.slice pa (x0.ps.length + k) pc) W7.drew) := S10.out.next (Below.refl _ _).drew
        clear S10
        refine wp_region_held_drew (S := fun _ => True) (by kernel_rfl) trivial (fun hHeld => ?_)
        generalize W7.drew = u2 at *
        have x0c := S7.out.bx.cellAt (o := 0) rfl
        have x1c := S7.out.bx.cellAt (o := 1) rfl
        have x2c := S7.out.bx.cellAt (o := 2) rfl
        have x3c := S7.out.bx.cellAt (o := 3) rfl
        have x4c := S7.out.bx.cellAt (o := 4) rfl
        refine wpAnyH_take (i := 0) (v := ?vv18) rfl (by kernel_rfl) (by kernel_rfl) (by kernel_rfl) (fun _ _ _ h => h) (Or.inl ⟨by rfl, ?hy18⟩) (by assumption) ?rest18
        case hy18 => (intro w hSw; (try dsimp only at hSw); go_simp; first | done | with_reducible rfl)
        try simp only [Act.put, List.getElem_toArray, List.getElem_cons_succ, List.getElem_cons_zero, List.setIfInBounds_toArray, List.set_cons_zero, List.set_cons_succ]
        refine wpAnyH_take (i := 4) (v := ?vv19) rfl (by kernel_rfl) (by kernel_rfl) (by kernel_rfl) (fun _ _ _ h => h) (Or.inl ⟨by rfl, ?hy19⟩) (by assumption) ?rest19
        case hy19 => (intro w hSw; (try dsimp only at hSw); go_simp; first | done | with_reducible rfl)
        try simp only [Act.put, List.getElem_toArray, List.getElem_cons_succ, List.getElem_cons_zero, List.setIfInBounds_toArray, List.set_cons_zero, List.set_cons_succ]
        refine wpAnyH_take (i := 5) (v := ?vv20) rfl (by kernel_rfl) (by kernel_rfl) (by kernel_rfl) (fun _ _ _ h => h) (Or.inl ⟨by rfl, ?hy20⟩) (by assumption) ?rest20
        case hy20 => (intro w hSw; (try dsimp only at hSw); go_simp; first | done | with_reducible rfl)
        try simp only [Act.put, List.getElem_toArray, List.getElem_cons_succ, List.getElem_cons_zero, List.setIfInBounds_toArray, List.set_cons_zero, List.set_cons_succ]
        refine wpAnyH_ready (rs := [1, 2]) (by kernel_rfl) (by simp) ?_
        refine AllReadyH.cons rfl (fun K hK => ?_) (AllReadyH.cons rfl (fun K hK => ?_) AllReadyH.nil)
        · go_simp
          refine hK.out _ _ trivial (fun hHeld => ?_)
          clear hK K
          try simp only [Act.put, List.getElem_toArray, List.getElem_cons_succ, List.getElem_cons_zero, List.setIfInBounds_toArray, List.set_cons_zero, List.set_cons_succ]
          refine wpAnyH_ready (rs := [2]) (by kernel_rfl) (by simp) ?_
          refine AllReadyH.cons rfl (fun K hK => ?_) AllReadyH.nil
          go_simp
          refine hK.out _ _ trivial (fun hHeld => ?_)
          clear hK K
          try simp only [Act.put, List.getElem_toArray, List.getElem_cons_succ, List.getElem_cons_zero, List.setIfInBounds_toArray, List.set_cons_zero, List.set_cons_succ]
          refine wpAnyH_ready (rs := [3]) (by kernel_rfl) (by simp) ?_
          refine AllReadyH.cons rfl (fun K hK => ?_) AllReadyH.nil
          go_simp
          refine (SZ.out _ _ _ S7.out).mono ?_
          rintro e u3 ⟨rfl, b3⟩
          have S8 := hid (S7.out.next b3)
          have y4c := S8.out.bx.cellAt (o := 4) rfl
          have S9 := hid (S8.out.next (below_al (Below.refl _ _) (.cells #[.int .i64 (a + (T.size : Int))] 3)))
          have z4c := S9.out.bx.cellAt (o := 4) rfl
          clear b3 SZ
          go_wp2_with fail
          refine hK.out _ _ trivial (fun hHeld => ?_)
          clear hK K
          try simp only [Act.put, List.getElem_toArray, List.getElem_cons_succ, List.getElem_cons_zero, List.setIfInBounds_toArray, List.set_cons_zero, List.set_cons_succ]
          refine wpAnyH_take (i := 6) (v := ?vv21) rfl (by kernel_rfl) (by kernel_rfl) (by kernel_rfl) (fun _ _ _ h => h) (Or.inl ⟨by rfl, ?hy21⟩) (by assumption) ?rest21
          case hy21 => (intro w hSw; (try dsimp only at hSw); go_simp; first | done | with_reducible rfl)
          try simp only [Act.put, List.getElem_toArray, List.getElem_cons_succ, List.getElem_cons_zero, List.setIfInBounds_toArray, List.set_cons_zero, List.set_cons_succ]
          refine wpAnyH_ready (rs := [7]) (by kernel_rfl) (by simp) ?_
          refine AllReadyH.cons rfl (fun K hK => ?_) AllReadyH.nil
          go_simp
          refine hK.out _ _ trivial (fun hHeld => ?_)
          clear hK K
          try simp only [Act.put, List.getElem_toArray, List.getElem_cons_succ, List.getElem_cons_zero, List.setIfInBounds_toArray, List.set_cons_zero, List.set_cons_succ]
          refine wpAnyH_ready (rs := [8]) (by kernel_rfl) (by simp) ?_
          refine AllReadyH.cons rfl (fun K hK => ?_) AllReadyH.nil
          refine step_gappP (by rfl) _ _ elIn (by rfl) B (.slice pa (x0.ps.length + k) pc) (.slice (some ⟨u3.heap.size, 0, none⟩) 1 1) (isC x0.ps ++ isC (psX x0.sg.sz (q.take k))) [.int .i64 (a + (T.size : Int))] (x0.ps.length + k) 1 (x0.ps.length + k + 1) rfl (by rfl) (by rfl) S9.out.oi (by have h1 := S9.out.hB; have h2 := S9.out.sz; omega) (RowC.own (own_made u3 [.int .i64 (a + (T.size : Int))] 3 1 1 0 (Nat.zero_le _) rfl (by omega))) rfl (fun u hu => by simp at hu; subst hu; rfl) (by omega) HL3.out HL4.out ?_
          intro pa2 pc2 w9 ho9 hk9
          obtain ⟨⟨g9, f9⟩, S10⟩ := S9.out.appI ⟨tm, kd, da⟩ HQX.out _ HZA.out ho9 hk9
          have S11 := hid S10
          clear ho9 hk9 S10
          refine hK.out _ _ trivial (fun hHeld => ?_)
          clear hK K
          try simp only [Act.put, List.getElem_toArray, List.getElem_cons_succ, List.getElem_cons_zero, List.setIfInBounds_toArray, List.set_cons_zero, List.set_cons_succ]
          refine wpAnyH_take (i := 9) (v := ?vv22) rfl (by kernel_rfl) (by kernel_rfl) (by kernel_rfl) (fun _ _ _ h => h) (Or.inl ⟨by rfl, ?hy22⟩) (by assumption) ?rest22
          case hy22 => (intro w hSw; (try dsimp only at hSw); go_simp; first | done | with_reducible rfl)
          try simp only [Act.put, List.getElem_toArray, List.getElem_cons_succ, List.getElem_cons_zero, List.setIfInBounds_toArray, List.set_cons_zero, List.set_cons_succ]
          refine wpAnyH_ready (rs := [10]) (by kernel_rfl) (by simp) ?_
          refine AllReadyH.cons rfl (fun K hK => ?_) AllReadyH.nil
          go_simp
          refine hK.out _ _ trivial (fun hHeld => ?_)
          clear hK K
          try simp only [Act.put, List.getElem_toArray, List.getElem_cons_succ, List.getElem_cons_zero, List.setIfInBounds_toArray, List.set_cons_zero, List.set_cons_succ]
          refine wpAnyH_done (by kernel_rfl) ?_ _
          generalize hw9 : (w9.setCell ⟨w.heap.size, 4, none⟩ (.slice pa2 (x0.ps.length + k + 1) pc2)) = w10 at *
          clear hw9 g9 f9
          have AD2 := fun W => AD.out W
          go_wp2
          exact ⟨⟨k + 1, by rw [HTX.out], by rw [HWK.out]; go_num, HK1.out, _, _, S11.out⟩, by rw [HWK.out]; exact meas _ _ hk⟩
        · go_simp
          refine hK.out _ _ trivial (fun hHeld => ?_)
          clear hK K
          try simp only [Act.put, List.getElem_toArray, List.getElem_cons_succ, List.getElem_cons_zero, List.setIfInBounds_toArray, List.set_cons_zero, List.set_cons_succ]
          refine wpAnyH_ready (rs := [1, 3]) (by kernel_rfl) (by simp) ?_
          refine AllReadyH.cons rfl (fun K hK => ?_) (AllReadyH.cons rfl (fun K hK => ?_) AllReadyH.nil)
          · go_simp
            refine hK.out _ _ trivial (fun hHeld => ?_)
            clear hK K
            try simp only [Act.put, List.getElem_toArray, List.getElem_cons_succ, List.getElem_cons_zero, List.setIfInBounds_toArray, List.set_cons_zero, List.set_cons_succ]
            refine wpAnyH_ready (rs := [3]) (by kernel_rfl) (by simp) ?_
            refine AllReadyH.cons rfl (fun K hK => ?_) AllReadyH.nil
            go_simp
            refine (SZ.out _ _ _ S7.out).mono ?_
            rintro e u3 ⟨rfl, b3⟩
            have S8 := hid (S7.out.next b3)
            have y4c := S8.out.bx.cellAt (o := 4) rfl
            have S9 := hid (S8.out.next (below_al (Below.refl _ _) (.cells #[.int .i64 (a + (T.size : Int))] 3)))
            have z4c := S9.out.bx.cellAt (o := 4) rfl
            clear b3 SZ
            go_wp2_with fail
            refine hK.out _ _ trivial (fun hHeld => ?_)
            clear hK K
            try simp only [Act.put, List.getElem_toArray, List.getElem_cons_succ, List.getElem_cons_zero, List.setIfInBounds_toArray, List.set_cons_zero, List.set_cons_succ]
            refine wpAnyH_take (i := 6) (v := ?vv23) rfl (by kernel_rfl) (by kernel_rfl) (by kernel_rfl) (fun _ _ _ h => h) (Or.inl ⟨by rfl, ?hy23⟩) (by assumption) ?rest23
            case hy23 => (intro w hSw; (try dsimp only at hSw); go_simp; first | done | with_reducible rfl)
            try simp only [Act.put, List.getElem_toArray, List.getElem_cons_succ, List.getElem_cons_zero, List.setIfInBounds_toArray, List.set_cons_zero, List.set_cons_succ]
            refine wpAnyH_ready (rs := [7]) (by kernel_rfl) (by simp) ?_
            refine AllReadyH.cons rfl (fun K hK => ?_) AllReadyH.nil
            go_simp
            refine hK.out _ _ trivial (fun hHeld => ?_)
            clear hK K
            try simp only [Act.put, List.getElem_toArray, List.getElem_cons_succ, List.getElem_cons_zero, List.setIfInBounds_toArray, List.set_cons_zero, List.set_cons_succ]
            refine wpAnyH_ready (rs := [8]) (by kernel_rfl) (by simp) ?_
            refine AllReadyH.cons rfl (fun K hK => ?_) AllReadyH.nil
            refine step_gappP (by rfl) _ _ elIn (by rfl) B (.slice pa (x0.ps.length + k) pc) (.slice (some ⟨u3.heap.size, 0, none⟩) 1 1) (isC x0.ps ++ isC (psX x0.sg.sz (q.take k))) [.int .i64 (a + (T.size : Int))] (x0.ps.length + k) 1 (x0.ps.length + k + 1) rfl (by rfl) (by rfl) S9.out.oi (by have h1 := S9.out.hB; have h2 := S9.out.sz; omega) (RowC.own (own_made u3 [.int .i64 (a + (T.size : Int))] 3 1 1 0 (Nat.zero_le _) rfl (by omega))) rfl (fun u hu => by simp at hu; subst hu; rfl) (by omega) HL3.out HL4.out ?_
            intro pa2 pc2 w9 ho9 hk9
            obtain ⟨⟨g9, f9⟩, S10⟩ := S9.out.appI ⟨tm, kd, da⟩ HQX.out _ HZA.out ho9 hk9
            have S11 := hid S10
            clear ho9 hk9 S10
            refine hK.out _ _ trivial (fun hHeld => ?_)
            clear hK K
            try simp only [Act.put, List.getElem_toArray, List.getElem_cons_succ, List.getElem_cons_zero, List.setIfInBounds_toArray, List.set_cons_zero, List.set_cons_succ]
            refine wpAnyH_take (i := 9) (v := ?vv24) rfl (by kernel_rfl) (by kernel_rfl) (by kernel_rfl) (fun _ _ _ h => h) (Or.inl ⟨by rfl, ?hy24⟩) (by assumption) ?rest24
            case hy24 => (intro w hSw; (try dsimp only at hSw); go_simp; first | done | with_reducible rfl)
            try simp only [Act.put, List.getElem_toArray, List.getElem_cons_succ, List.getElem_cons_zero, List.setIfInBounds_toArray, List.set_cons_zero, List.set_cons_succ]
            refine wpAnyH_ready (rs := [10]) (by kernel_rfl) (by simp) ?_
            refine AllReadyH.cons rfl (fun K hK => ?_) AllReadyH.nil
            go_simp
            refine hK.out _ _ trivial (fun hHeld => ?_)
            clear hK K
            try simp only [Act.put, List.getElem_toArray, List.getElem_cons_succ, List.getElem_cons_zero, List.setIfInBounds_toArray, List.set_cons_zero, List.set_cons_succ]
            refine wpAnyH_done (by kernel_rfl) ?_ _
            generalize hw9 : (w9.setCell ⟨w.heap.size, 4, none⟩ (.slice pa2 (x0.ps.length + k + 1) pc2)) = w10 at *
            clear hw9 g9 f9
            have AD2 := fun W => AD.out W
            go_wp2
            exact ⟨⟨k + 1, by rw [HTX.out], by rw [HWK.out]; go_num, HK1.out, _, _, S11.out⟩, by rw [HWK.out]; exact meas _ _ hk⟩
          · go_simp
            refine (SZ.out _ _ _ S7.out).mono ?_
            rintro e u3 ⟨rfl, b3⟩
            have S8 := hid (S7.out.next b3)
            have y4c := S8.out.bx.cellAt (o := 4) rfl
            have S9 := hid (S8.out.next (below_al (Below.refl _ _) (.cells #[.int .i64 (a + (T.size : Int))] 3)))
            have z4c := S9.out.bx.cellAt (o := 4) rfl
            clear b3 SZ
            go_wp2_with fail
            refine hK.out _ _ trivial (fun hHeld => ?_)
            clear hK K
            try simp only [Act.put, List.getElem_toArray, List.getElem_cons_succ, List.getElem_cons_zero, List.setIfInBounds_toArray, List.set_cons_zero, List.set_cons_succ]
            refine wpAnyH_take (i := 6) (v := ?vv25) rfl (by kernel_rfl) (by kernel_rfl) (by kernel_rfl) (fun _ _ _ h => h) (Or.inl ⟨by rfl, ?hy25⟩) (by assumption) ?rest25
            case hy25 => (intro w hSw; (try dsimp only at hSw); go_simp; first | done | with_reducible rfl)
            try simp only [Act.put, List.getElem_toArray, List.getElem_cons_succ, List.getElem_cons_zero, List.setIfInBounds_toArray, List.set_cons_zero, List.set_cons_succ]
            refine wpAnyH_ready (rs := [1, 7]) (by kernel_rfl) (by simp) ?_
            refine AllReadyH.cons rfl (fun K hK => ?_) (AllReadyH.cons rfl (fun K hK => ?_) AllReadyH.nil)
            · go_simp
              refine hK.out _ _ trivial (fun hHeld => ?_)
              clear hK K
              try simp only [Act.put, List.getElem_toArray, List.getElem_cons_succ, List.getElem_cons_zero, List.setIfInBounds_toArray, List.set_cons_zero, List.set_cons_succ]
              refine wpAnyH_ready (rs := [7]) (by kernel_rfl) (by simp) ?_
              refine AllReadyH.cons rfl (fun K hK => ?_) AllReadyH.nil
              go_simp
              refine hK.out _ _ trivial (fun hHeld => ?_)
              clear hK K
              try simp only [Act.put, List.getElem_toArray, List.getElem_cons_succ, List.getElem_cons_zero, List.setIfInBounds_toArray, List.set_cons_zero, List.set_cons_succ]
              refine wpAnyH_ready (rs := [8]) (by kernel_rfl) (by simp) ?_
              refine AllReadyH.cons rfl (fun K hK => ?_) AllReadyH.nil
              refine step_gappP (by rfl) _ _ elIn (by rfl) B (.slice pa (x0.ps.length + k) pc) (.slice (some ⟨u3.heap.size, 0, none⟩) 1 1) (isC x0.ps ++ isC (psX x0.sg.sz (q.take k))) [.int .i64 (a + (T.size : Int))] (x0.ps.length + k) 1 (x0.ps.length + k + 1) rfl (by rfl) (by rfl) S9.out.oi (by have h1 := S9.out.hB; have h2 := S9.out.sz; omega) (RowC.own (own_made u3 [.int .i64 (a + (T.size : Int))] 3 1 1 0 (Nat.zero_le _) rfl (by omega))) rfl (fun u hu => by simp at hu; subst hu; rfl) (by omega) HL3.out HL4.out ?_
              intro pa2 pc2 w9 ho9 hk9
              obtain ⟨⟨g9, f9⟩, S10⟩ := S9.out.appI ⟨tm, kd, da⟩ HQX.out _ HZA.out ho9 hk9
              have S11 := hid S10
              clear ho9 hk9 S10
              refine hK.out _ _ trivial (fun hHeld => ?_)
              clear hK K
              try simp only [Act.put, List.getElem_toArray, List.getElem_cons_succ, List.getElem_cons_zero, List.setIfInBounds_toArray, List.set_cons_zero, List.set_cons_succ]
              refine wpAnyH_take (i := 9) (v := ?vv26) rfl (by kernel_rfl) (by kernel_rfl) (by kernel_rfl) (fun _ _ _ h => h) (Or.inl ⟨by rfl, ?hy26⟩) (by assumption) ?rest26
              case hy26 => (intro w hSw; (try dsimp only at hSw); go_simp; first | done | with_reducible rfl)
              try simp only [Act.put, List.getElem_toArray, List.getElem_cons_succ, List.getElem_cons_zero, List.setIfInBounds_toArray, List.set_cons_zero, List.set_cons_succ]
              refine wpAnyH_ready (rs := [10]) (by kernel_rfl) (by simp) ?_
              refine AllReadyH.cons rfl (fun K hK => ?_) AllReadyH.nil
              go_simp
              refine hK.out _ _ trivial (fun hHeld => ?_)
              clear hK K
              try simp only [Act.put, List.getElem_toArray, List.getElem_cons_succ, List.getElem_cons_zero, List.setIfInBounds_toArray, List.set_cons_zero, List.set_cons_succ]
              refine wpAnyH_done (by kernel_rfl) ?_ _
              generalize hw9 : (w9.setCell ⟨w.heap.size, 4, none⟩ (.slice pa2 (x0.ps.length + k + 1) pc2)) = w10 at *
              clear hw9 g9 f9
              have AD2 := fun W => AD.out W
              go_wp2
              exact ⟨⟨k + 1, by rw [HTX.out], by rw [HWK.out]; go_num, HK1.out, _, _, S11.out⟩, by rw [HWK.out]; exact meas _ _ hk⟩
            · go_simp
              refine hK.out _ _ trivial (fun hHeld => ?_)
              clear hK K
              try simp only [Act.put, List.getElem_toArray, List.getElem_cons_succ, List.getElem_cons_zero, List.setIfInBounds_toArray, List.set_cons_zero, List.set_cons_succ]
              refine wpAnyH_ready (rs := [1]) (by kernel_rfl) (by simp) ?_
              refine AllReadyH.cons rfl (fun K hK => ?_) AllReadyH.nil
              go_simp
              refine hK.out _ _ trivial (fun hHeld => ?_)
              clear hK K
              try simp only [Act.put, List.getElem_toArray, List.getElem_cons_succ, List.getElem_cons_zero, List.setIfInBounds_toArray, List.set_cons_zero, List.set_cons_succ]
              refine wpAnyH_ready (rs := [8]) (by kernel_rfl) (by simp) ?_
              refine AllReadyH.cons rfl (fun K hK => ?_) AllReadyH.nil
              refine step_gappP (by rfl) _ _ elIn (by rfl) B (.slice pa (x0.ps.length + k) pc) (.slice (some ⟨u3.heap.size, 0, none⟩) 1 1) (isC x0.ps ++ isC (psX x0.sg.sz (q.take k))) [.int .i64 (a + (T.size : Int))] (x0.ps.length + k) 1 (x0.ps.length + k + 1) rfl (by rfl) (by rfl) S9.out.oi (by have h1 := S9.out.hB; have h2 := S9.out.sz; omega) (RowC.own (own_made u3 [.int .i64 (a + (T.size : Int))] 3 1 1 0 (Nat.zero_le _) rfl (by omega))) rfl (fun u hu => by simp at hu; subst hu; rfl) (by omega) HL3.out HL4.out ?_
              intro pa2 pc2 w9 ho9 hk9
              obtain ⟨⟨g9, f9⟩, S10⟩ := S9.out.appI ⟨tm, kd, da⟩ HQX.out _ HZA.out ho9 hk9
              have S11 := hid S10
              clear ho9 hk9 S10
              refine hK.out _ _ trivial (fun hHeld => ?_)
              clear hK K
              try simp only [Act.put, List.getElem_toArray, List.getElem_cons_succ, List.getElem_cons_zero, List.setIfInBounds_toArray, List.set_cons_zero, List.set_cons_succ]
              refine wpAnyH_take (i := 9) (v := ?vv27) rfl (by kernel_rfl) (by kernel_rfl) (by kernel_rfl) (fun _ _ _ h => h) (Or.inl ⟨by rfl, ?hy27⟩) (by assumption) ?rest27
              case hy27 => (intro w hSw; (try dsimp only at hSw); go_simp; first | done | with_reducible rfl)
              try simp only [Act.put, List.getElem_toArray, List.getElem_cons_succ, List.getElem_cons_zero, List.setIfInBounds_toArray, List.set_cons_zero, List.set_cons_succ]
              refine wpAnyH_ready (rs := [10]) (by kernel_rfl) (by simp) ?_
              refine AllReadyH.cons rfl (fun K hK => ?_) AllReadyH.nil
              go_simp
              refine hK.out _ _ trivial (fun hHeld => ?_)
              clear hK K
              try simp only [Act.put, List.getElem_toArray, List.getElem_cons_succ, List.getElem_cons_zero, List.setIfInBounds_toArray, List.set_cons_zero, List.set_cons_succ]
              refine wpAnyH_done (by kernel_rfl) ?_ _
              generalize hw9 : (w9.setCell ⟨w.heap.size, 4, none⟩ (.slice pa2 (x0.ps.length + k + 1) pc2)) = w10 at *
              clear hw9 g9 f9
              have AD2 := fun W => AD.out W
              go_wp2
              exact ⟨⟨k + 1, by rw [HTX.out], by rw [HWK.out]; go_num, HK1.out, _, _, S11.out⟩, by rw [HWK.out]; exact meas _ _ hk⟩
      · go_simp
        refine hK.out _ _ Z62 (fun hHeld => ?_)
        clear hK K
        try simp only [Act.put, List.getElem_toArray, List.getElem_cons_succ, List.getElem_cons_zero, List.setIfInBounds_toArray, List.set_cons_zero, List.set_cons_succ]
        refine wpAnyH_ready (rs := [1]) (by kernel_rfl) (by simp) ?_
        refine AllReadyH.cons rfl (fun K hK => ?_) AllReadyH.nil
        go_simp
        refine hK.out _ _ Z62 (fun hHeld => ?_)
        clear hK K
        try simp only [Act.put, List.getElem_toArray, List.getElem_cons_succ, List.getElem_cons_zero, List.setIfInBounds_toArray, List.set_cons_zero, List.set_cons_succ]
        refine wpAnyH_ready (rs := [8]) (by kernel_rfl) (by simp) ?_
        refine AllReadyH.cons rfl (fun K hK => ?_) AllReadyH.nil
        refine step_gappP (by rfl) _ _ elEn (by rfl) B (.slice ea (x0.es.length + k) ec) (.slice (some ⟨u1.heap.size, 0, none⟩) 1 1) (ensC x0.es ++ ensC (q.take k)) (enC ⟨tm, kd, da⟩) (x0.es.length + k) 1 (x0.es.length + k + 1) rfl (by rfl) (by rfl) S8.out.oe (by have h1 := S8.out.hB; have h2 := S8.out.sz; omega) (RowC.own (own_made u1 (enC ⟨tm, kd, da⟩) 68 3 1 0 (Nat.zero_le _) rfl (by omega))) rfl (enC_cell1 _) (by omega) HL1.out HL2.out ?_
        intro ea2 ec2 w9 ho9 hk9
        obtain ⟨⟨g9, f9⟩, e9, S9⟩ := S8.out.appE ⟨tm, kd, da⟩ HQX.out ho9 hk9
        have Z63 : (w9.cell? ⟨bq, oq + k * 3, none⟩ = some (.int .i64 tm) ∧ w9.cell? ⟨bq, oq + k * 3 + 1, none⟩ = some (.int .i64 kd) ∧ w9.cell? ⟨bq, oq + k * 3 + 2, none⟩ = some (.string da)) := CN.out _ e9
        have Z64 : ((w9.setCell ⟨w.heap.size, 3, none⟩ (.slice ea2 (x0.es.length + k + 1) ec2)).cell? ⟨bq, oq + k * 3, none⟩ = some (.int .i64 tm) ∧ (w9.setCell ⟨w.heap.size, 3, none⟩ (.slice ea2 (x0.es.length + k + 1) ec2)).cell? ⟨bq, oq + k * 3 + 1, none⟩ = some (.int .i64 kd) ∧ (w9.setCell ⟨w.heap.size, 3, none⟩ (.slice ea2 (x0.es.length + k + 1) ec2)).cell? ⟨bq, oq + k * 3 + 2, none⟩ = some (.string da)) := CN.out _ S9.en
        have S10 := hid S9
        clear ho9 hk9 S9 e9
        refine hK.out _ _ Z63 (fun hHeld => ?_)
        clear hK K
        try simp only [Act.put, List.getElem_toArray, List.getElem_cons_succ, List.getElem_cons_zero, List.setIfInBounds_toArray, List.set_cons_zero, List.set_cons_succ]
        refine wpAnyH_take (i := 9) (v := ?vv28) rfl (by kernel_rfl) (by kernel_rfl) (by kernel_rfl) (fun _ _ _ h => h) (Or.inl ⟨by rfl, ?hy28⟩) (by assumption) ?rest28
        case hy28 => (intro w hSw; (try dsimp only at hSw); go_simp; first | done | with_reducible rfl)
        try simp only [Act.put, List.getElem_toArray, List.getElem_cons_succ, List.getElem_cons_zero, List.setIfInBounds_toArray, List.set_cons_zero, List.set_cons_succ]
        refine wpAnyH_ready (rs := [10]) (by kernel_rfl) (by simp) ?_
        refine AllReadyH.cons rfl (fun K hK => ?_) AllReadyH.nil
        go_simp
        refine hK.out _ _ Z64 (fun hHeld => ?_)
        clear hK K
        try simp only [Act.put, List.getElem_toArray, List.getElem_cons_succ, List.getElem_cons_zero, List.setIfInBounds_toArray, List.set_cons_zero, List.set_cons_succ]
        refine wpAnyH_done (by kernel_rfl) ?_ _
        generalize hw9 : (w9.setCell ⟨w.heap.size, 3, none⟩ (.slice ea2 (x0.es.length + k + 1) ec2)) = W7 at *
        clear hw9 g9 f9 Z63 Z64 hHeld CN S8
        go_wp2_with fail
        have S7 : Hid (WtS w B x0 (.slice (some ⟨bq, oq, none⟩) q.length cq) q (k + 1) k (.slice ea2 (x0.es.length + k + 1) ec2) (.slice pa (x0.ps.length + k) pc) W7.drew) := S10.out.next (Below.refl _ _).drew
        clear S10
        refine wp_region_held_drew (S := fun _ => True) (by kernel_rfl) trivial (fun hHeld => ?_)
        generalize W7.drew = u2 at *
        have x0c := S7.out.bx.cellAt (o := 0) rfl
        have x1c := S7.out.bx.cellAt (o := 1) rfl
        have x2c := S7.out.bx.cellAt (o := 2) rfl
        have x3c := S7.out.bx.cellAt (o := 3) rfl
        have x4c := S7.out.bx.cellAt (o := 4) rfl
        refine wpAnyH_take (i := 0) (v := ?vv29) rfl (by kernel_rfl) (by kernel_rfl) (by kernel_rfl) (fun _ _ _ h => h) (Or.inl ⟨by rfl, ?hy29⟩) (by assumption) ?rest29
        case hy29 => (intro w hSw; (try dsimp only at hSw); go_simp; first | done | with_reducible rfl)
        try simp only [Act.put, List.getElem_toArray, List.getElem_cons_succ, List.getElem_cons_zero, List.setIfInBounds_toArray, List.set_cons_zero, List.set_cons_succ]
        refine wpAnyH_take (i := 4) (v := ?vv30) rfl (by kernel_rfl) (by kernel_rfl) (by kernel_rfl) (fun _ _ _ h => h) (Or.inl ⟨by rfl, ?hy30⟩) (by assumption) ?rest30
        case hy30 => (intro w hSw; (try dsimp only at hSw); go_simp; first | done | with_reducible rfl)
        try simp only [Act.put, List.getElem_toArray, List.getElem_cons_succ, List.getElem_cons_zero, List.setIfInBounds_toArray, List.set_cons_zero, List.set_cons_succ]
        refine wpAnyH_take (i := 5) (v := ?vv31) rfl (by kernel_rfl) (by kernel_rfl) (by kernel_rfl) (fun _ _ _ h => h) (Or.inl ⟨by rfl, ?hy31⟩) (by assumption) ?rest31
        case hy31 => (intro w hSw; (try dsimp only at hSw); go_simp; first | done | with_reducible rfl)
        try simp only [Act.put, List.getElem_toArray, List.getElem_cons_succ, List.getElem_cons_zero, List.setIfInBounds_toArray, List.set_cons_zero, List.set_cons_succ]
        refine wpAnyH_ready (rs := [1, 2]) (by kernel_rfl) (by simp) ?_
        refine AllReadyH.cons rfl (fun K hK => ?_) (AllReadyH.cons rfl (fun K hK => ?_) AllReadyH.nil)
        · go_simp
          refine hK.out _ _ trivial (fun hHeld => ?_)
          clear hK K
          try simp only [Act.put, List.getElem_toArray, List.getElem_cons_succ, List.getElem_cons_zero, List.setIfInBounds_toArray, List.set_cons_zero, List.set_cons_succ]
          refine wpAnyH_ready (rs := [2]) (by kernel_rfl) (by simp) ?_
          refine AllReadyH.cons rfl (fun K hK => ?_) AllReadyH.nil
          go_simp
          refine hK.out _ _ trivial (fun hHeld => ?_)
          clear hK K
          try simp only [Act.put, List.getElem_toArray, List.getElem_cons_succ, List.getElem_cons_zero, List.setIfInBounds_toArray, List.set_cons_zero, List.set_cons_succ]
          refine wpAnyH_ready (rs := [3]) (by kernel_rfl) (by simp) ?_
          refine AllReadyH.cons rfl (fun K hK => ?_) AllReadyH.nil
          go_simp
          refine (SZ.out _ _ _ S7.out).mono ?_
          rintro e u3 ⟨rfl, b3⟩
          have S8 := hid (S7.out.next b3)
          have y4c := S8.out.bx.cellAt (o := 4) rfl
          have S9 := hid (S8.out.next (below_al (Below.refl _ _) (.cells #[.int .i64 (a + (T.size : Int))] 3)))
          have z4c := S9.out.bx.cellAt (o := 4) rfl
          clear b3 SZ
          go_wp2_with fail
          refine hK.out _ _ trivial (fun hHeld => ?_)
          clear hK K
          try simp only [Act.put, List.getElem_toArray, List.getElem_cons_succ, List.getElem_cons_zero, List.setIfInBounds_toArray, List.set_cons_zero, List.set_cons_succ]
          refine wpAnyH_take (i := 6) (v := ?vv32) rfl (by kernel_rfl) (by kernel_rfl) (by kernel_rfl) (fun _ _ _ h => h) (Or.inl ⟨by rfl, ?hy32⟩) (by assumption) ?rest32
          case hy32 => (intro w hSw; (try dsimp only at hSw); go_simp; first | done | with_reducible rfl)
          try simp only [Act.put, List.getElem_toArray, List.getElem_cons_succ, List.getElem_cons_zero, List.setIfInBounds_toArray, List.set_cons_zero, List.set_cons_succ]
          refine wpAnyH_ready (rs := [7]) (by kernel_rfl) (by simp) ?_
          refine AllReadyH.cons rfl (fun K hK => ?_) AllReadyH.nil
          go_simp
          refine hK.out _ _ trivial (fun hHeld => ?_)
          clear hK K
          try simp only [Act.put, List.getElem_toArray, List.getElem_cons_succ, List.getElem_cons_zero, List.setIfInBounds_toArray, List.set_cons_zero, List.set_cons_succ]
          refine wpAnyH_ready (rs := [8]) (by kernel_rfl) (by simp) ?_
          refine AllReadyH.cons rfl (fun K hK => ?_) AllReadyH.nil
          refine step_gappP (by rfl) _ _ elIn (by rfl) B (.slice pa (x0.ps.length + k) pc) (.slice (some ⟨u3.heap.size, 0, none⟩) 1 1) (isC x0.ps ++ isC (psX x0.sg.sz (q.take k))) [.int .i64 (a + (T.size : Int))] (x0.ps.length + k) 1 (x0.ps.length + k + 1) rfl (by rfl) (by rfl) S9.out.oi (by have h1 := S9.out.hB; have h2 := S9.out.sz; omega) (RowC.own (own_made u3 [.int .i64 (a + (T.size : Int))] 3 1 1 0 (Nat.zero_le _) rfl (by omega))) rfl (fun u hu => by simp at hu; subst hu; rfl) (by omega) HL3.out HL4.out ?_
          intro pa2 pc2 w9 ho9 hk9
          obtain ⟨⟨g9, f9⟩, S10⟩ := S9.out.appI ⟨tm, kd, da⟩ HQX.out _ HZA.out ho9 hk9
          have S11 := hid S10
          clear ho9 hk9 S10
          refine hK.out _ _ trivial (fun hHeld => ?_)
          clear hK K
          try simp only [Act.put, List.getElem_toArray, List.getElem_cons_succ, List.getElem_cons_zero, List.setIfInBounds_toArray, List.set_cons_zero, List.set_cons_succ]
          refine wpAnyH_take (i := 9) (v := ?vv33) rfl (by kernel_rfl) (by kernel_rfl) (by kernel_rfl) (fun _ _ _ h => h) (Or.inl ⟨by rfl, ?hy33⟩) (by assumption) ?rest33
          case hy33 => (intro w hSw; (try dsimp only at hSw); go_simp; first | done | with_reducible rfl)
          try simp only [Act.put, List.getElem_toArray, List.getElem_cons_succ, List.getElem_cons_zero, List.setIfInBounds_toArray, List.set_cons_zero, List.set_cons_succ]
          refine wpAnyH_ready (rs := [10]) (by kernel_rfl) (by simp) ?_
          refine AllReadyH.cons rfl (fun K hK => ?_) AllReadyH.nil
          go_simp
          refine hK.out _ _ trivial (fun hHeld => ?_)
          clear hK K
          try simp only [Act.put, List.getElem_toArray, List.getElem_cons_succ, List.getElem_cons_zero, List.setIfInBounds_toArray, List.set_cons_zero, List.set_cons_succ]
          refine wpAnyH_done (by kernel_rfl) ?_ _
          generalize hw9 : (w9.setCell ⟨w.heap.size, 4, none⟩ (.slice pa2 (x0.ps.length + k + 1) pc2)) = w10 at *
          clear hw9 g9 f9
          have AD2 := fun W => AD.out W
          go_wp2
          exact ⟨⟨k + 1, by rw [HTX.out], by rw [HWK.out]; go_num, HK1.out, _, _, S11.out⟩, by rw [HWK.out]; exact meas _ _ hk⟩
        · go_simp
          refine hK.out _ _ trivial (fun hHeld => ?_)
          clear hK K
          try simp only [Act.put, List.getElem_toArray, List.getElem_cons_succ, List.getElem_cons_zero, List.setIfInBounds_toArray, List.set_cons_zero, List.set_cons_succ]
          refine wpAnyH_ready (rs := [1, 3]) (by kernel_rfl) (by simp) ?_
          refine AllReadyH.cons rfl (fun K hK => ?_) (AllReadyH.cons rfl (fun K hK => ?_) AllReadyH.nil)
          · go_simp
            refine hK.out _ _ trivial (fun hHeld => ?_)
            clear hK K
            try simp only [Act.put, List.getElem_toArray, List.getElem_cons_succ, List.getElem_cons_zero, List.setIfInBounds_toArray, List.set_cons_zero, List.set_cons_succ]
            refine wpAnyH_ready (rs := [3]) (by kernel_rfl) (by simp) ?_
            refine AllReadyH.cons rfl (fun K hK => ?_) AllReadyH.nil
            go_simp
            refine (SZ.out _ _ _ S7.out).mono ?_
            rintro e u3 ⟨rfl, b3⟩
            have S8 := hid (S7.out.next b3)
            have y4c := S8.out.bx.cellAt (o := 4) rfl
            have S9 := hid (S8.out.next (below_al (Below.refl _ _) (.cells #[.int .i64 (a + (T.size : Int))] 3)))
            have z4c := S9.out.bx.cellAt (o := 4) rfl
            clear b3 SZ
            go_wp2_with fail
            refine hK.out _ _ trivial (fun hHeld => ?_)
            clear hK K
            try simp only [Act.put, List.getElem_toArray, List.getElem_cons_succ, List.getElem_cons_zero, List.setIfInBounds_toArray, List.set_cons_zero, List.set_cons_succ]
            refine wpAnyH_take (i := 6) (v := ?vv34) rfl (by kernel_rfl) (by kernel_rfl) (by kernel_rfl) (fun _ _ _ h => h) (Or.inl ⟨by rfl, ?hy34⟩) (by assumption) ?rest34
            case hy34 => (intro w hSw; (try dsimp only at hSw); go_simp; first | done | with_reducible rfl)
            try simp only [Act.put, List.getElem_toArray, List.getElem_cons_succ, List.getElem_cons_zero, List.setIfInBounds_toArray, List.set_cons_zero, List.set_cons_succ]
            refine wpAnyH_ready (rs := [7]) (by kernel_rfl) (by simp) ?_
            refine AllReadyH.cons rfl (fun K hK => ?_) AllReadyH.nil
            go_simp
            refine hK.out _ _ trivial (fun hHeld => ?_)
            clear hK K
            try simp only [Act.put, List.getElem_toArray, List.getElem_cons_succ, List.getElem_cons_zero, List.setIfInBounds_toArray, List.set_cons_zero, List.set_cons_succ]
            refine wpAnyH_ready (rs := [8]) (by kernel_rfl) (by simp) ?_
            refine AllReadyH.cons rfl (fun K hK => ?_) AllReadyH.nil
            refine step_gappP (by rfl) _ _ elIn (by rfl) B (.slice pa (x0.ps.length + k) pc) (.slice (some ⟨u3.heap.size, 0, none⟩) 1 1) (isC x0.ps ++ isC (psX x0.sg.sz (q.take k))) [.int .i64 (a + (T.size : Int))] (x0.ps.length + k) 1 (x0.ps.length + k + 1) rfl (by rfl) (by rfl) S9.out.oi (by have h1 := S9.out.hB; have h2 := S9.out.sz; omega) (RowC.own (own_made u3 [.int .i64 (a + (T.size : Int))] 3 1 1 0 (Nat.zero_le _) rfl (by omega))) rfl (fun u hu => by simp at hu; subst hu; rfl) (by omega) HL3.out HL4.out ?_
            intro pa2 pc2 w9 ho9 hk9
            obtain ⟨⟨g9, f9⟩, S10⟩ := S9.out.appI ⟨tm, kd, da⟩ HQX.out _ HZA.out ho9 hk9
            have S11 := hid S10
            clear ho9 hk9 S10
            refine hK.out _ _ trivial (fun hHeld => ?_)
            clear hK K
            try simp only [Act.put, List.getElem_toArray, List.getElem_cons_succ, List.getElem_cons_zero, List.setIfInBounds_toArray, List.set_cons_zero, List.set_cons_succ]
            refine wpAnyH_take (i := 9) (v := ?vv35) rfl (by kernel_rfl) (by kernel_rfl) (by kernel_rfl) (fun _ _ _ h => h) (Or.inl ⟨by rfl, ?hy35⟩) (by assumption) ?rest35
            case hy35 => (intro w hSw; (try dsimp only at hSw); go_simp; first | done | with_reducible rfl)
            try simp only [Act.put, List.getElem_toArray, List.getElem_cons_succ, List.getElem_cons_zero, List.setIfInBounds_toArray, List.set_cons_zero, List.set_cons_succ]
            refine wpAnyH_ready (rs := [10]) (by kernel_rfl) (by simp) ?_
            refine AllReadyH.cons rfl (fun K hK => ?_) AllReadyH.nil
            go_simp
            refine hK.out _ _ trivial (fun hHeld => ?_)
            clear hK K
            try simp only [Act.put, List.getElem_toArray, List.getElem_cons_succ, List.getElem_cons_zero, List.setIfInBounds_toArray, List.set_cons_zero, List.set_cons_succ]
            refine wpAnyH_done (by kernel_rfl) ?_ _
            generalize hw9 : (w9.setCell ⟨w.heap.size, 4, none⟩ (.slice pa2 (x0.ps.length + k + 1) pc2)) = w10 at *
            clear hw9 g9 f9
            have AD2 := fun W => AD.out W
            go_wp2
            exact ⟨⟨k + 1, by rw [HTX.out], by rw [HWK.out]; go_num, HK1.out, _, _, S11.out⟩, by rw [HWK.out]; exact meas _ _ hk⟩
          · go_simp
            refine (SZ.out _ _ _ S7.out).mono ?_
            rintro e u3 ⟨rfl, b3⟩
            have S8 := hid (S7.out.next b3)
            have y4c := S8.out.bx.cellAt (o := 4) rfl
            have S9 := hid (S8.out.next (below_al (Below.refl _ _) (.cells #[.int .i64 (a + (T.size : Int))] 3)))
            have z4c := S9.out.bx.cellAt (o := 4) rfl
            clear b3 SZ
            go_wp2_with fail
            refine hK.out _ _ trivial (fun hHeld => ?_)
            clear hK K
            try simp only [Act.put, List.getElem_toArray, List.getElem_cons_succ, List.getElem_cons_zero, List.setIfInBounds_toArray, List.set_cons_zero, List.set_cons_succ]
            refine wpAnyH_take (i := 6) (v := ?vv36) rfl (by kernel_rfl) (by kernel_rfl) (by kernel_rfl) (fun _ _ _ h => h) (Or.inl ⟨by rfl, ?hy36⟩) (by assumption) ?rest36
            case hy36 => (intro w hSw; (try dsimp only at hSw); go_simp; first | done | with_reducible rfl)
            try simp only [Act.put, List.getElem_toArray, List.getElem_cons_succ, List.getElem_cons_zero, List.setIfInBounds_toArray, List.set_cons_zero, List.set_cons_succ]
            refine wpAnyH_ready (rs := [1, 7]) (by kernel_rfl) (by simp) ?_
            refine AllReadyH.cons rfl (fun K hK => ?_) (AllReadyH.cons rfl (fun K hK => ?_) AllReadyH.nil)
            · go_simp
              refine hK.out _ _ trivial (fun hHeld => ?_)
              clear hK K
              try simp only [Act.put, List.getElem_toArray, List.getElem_cons_succ, List.getElem_cons_zero, List.setIfInBounds_toArray, List.set_cons_zero, List.set_cons_succ]
              refine wpAnyH_ready (rs := [7]) (by kernel_rfl) (by simp) ?_
              refine AllReadyH.cons rfl (fun K hK => ?_) AllReadyH.nil
              go_simp
              refine hK.out _ _ trivial (fun hHeld => ?_)
              clear hK K
              try simp only [Act.put, List.getElem_toArray, List.getElem_cons_succ, List.getElem_cons_zero, List.setIfInBounds_toArray, List.set_cons_zero, List.set_cons_succ]
              refine wpAnyH_ready (rs := [8]) (by kernel_rfl) (by simp) ?_
              refine AllReadyH.cons rfl (fun K hK => ?_) AllReadyH.nil
              refine step_gappP (by rfl) _ _ elIn (by rfl) B (.slice pa (x0.ps.length + k) pc) (.slice (some ⟨u3.heap.size, 0, none⟩) 1 1) (isC x0.ps ++ isC (psX x0.sg.sz (q.take k))) [.int .i64 (a + (T.size : Int))] (x0.ps.length + k) 1 (x0.ps.length + k + 1) rfl (by rfl) (by rfl) S9.out.oi (by have h1 := S9.out.hB; have h2 := S9.out.sz; omega) (RowC.own (own_made u3 [.int .i64 (a + (T.size : Int))] 3 1 1 0 (Nat.zero_le _) rfl (by omega))) rfl (fun u hu => by simp at hu; subst hu; rfl) (by omega) HL3.out HL4.out ?_
              intro pa2 pc2 w9 ho9 hk9
              obtain ⟨⟨g9, f9⟩, S10⟩ := S9.out.appI ⟨tm, kd, da⟩ HQX.out _ HZA.out ho9 hk9
              have S11 := hid S10
              clear ho9 hk9 S10
              refine hK.out _ _ trivial (fun hHeld => ?_)
              clear hK K
              try simp only [Act.put, List.getElem_toArray, List.getElem_cons_succ, List.getElem_cons_zero, List.setIfInBounds_toArray, List.set_cons_zero, List.set_cons_succ]
              refine wpAnyH_take (i := 9) (v := ?vv37) rfl (by kernel_rfl) (by kernel_rfl) (by kernel_rfl) (fun _ _ _ h => h) (Or.inl ⟨by rfl, ?hy37⟩) (by assumption) ?rest37
              case hy37 => (intro w hSw; (try dsimp only at hSw); go_simp; first | done | with_reducible rfl)
              try simp only [Act.put, List.getElem_toArray, List.getElem_cons_succ, List.getElem_cons_zero, List.setIfInBounds_toArray, List.set_cons_zero, List.set_cons_succ]
              refine wpAnyH_ready (rs := [10]) (by kernel_rfl) (by simp) ?_
              refine AllReadyH.cons rfl (fun K hK => ?_) AllReadyH.nil
              go_simp
              refine hK.out _ _ trivial (fun hHeld => ?_)
              clear hK K
              try simp only [Act.put, List.getElem_toArray, List.getElem_cons_succ, List.getElem_cons_zero, List.setIfInBounds_toArray, List.set_cons_zero, List.set_cons_succ]
              refine wpAnyH_done (by kernel_rfl) ?_ _
              generalize hw9 : (w9.setCell ⟨w.heap.size, 4, none⟩ (.slice pa2 (x0.ps.length + k + 1) pc2)) = w10 at *
              clear hw9 g9 f9
              have AD2 := fun W => AD.out W
              go_wp2
              exact ⟨⟨k + 1, by rw [HTX.out], by rw [HWK.out]; go_num, HK1.out, _, _, S11.out⟩, by rw [HWK.out]; exact meas _ _ hk⟩
            · go_simp
              refine hK.out _ _ trivial (fun hHeld => ?_)
              clear hK K
              try simp only [Act.put, List.getElem_toArray, List.getElem_cons_succ, List.getElem_cons_zero, List.setIfInBounds_toArray, List.set_cons_zero, List.set_cons_succ]
              refine wpAnyH_ready (rs := [1]) (by kernel_rfl) (by simp) ?_
              refine AllReadyH.cons rfl (fun K hK => ?_) AllReadyH.nil
              go_simp
              refine hK.out _ _ trivial (fun hHeld => ?_)
              clear hK K
              try simp only [Act.put, List.getElem_toArray, List.getElem_cons_succ, List.getElem_cons_zero, List.setIfInBounds_toArray, List.set_cons_zero, List.set_cons_succ]
              refine wpAnyH_ready (rs := [8]) (by kernel_rfl) (by simp) ?_
              refine AllReadyH.cons rfl (fun K hK => ?_) AllReadyH.nil
              refine step_gappP (by rfl) _ _ elIn (by rfl) B (.slice pa (x0.ps.length + k) pc) (.slice (some ⟨u3.heap.size, 0, none⟩) 1 1) (isC x0.ps ++ isC (psX x0.sg.sz (q.take k))) [.int .i64 (a + (T.size : Int))] (x0.ps.length + k) 1 (x0.ps.length + k + 1) rfl (by rfl) (by rfl) S9.out.oi (by have h1 := S9.out.hB; have h2 := S9.out.sz; omega) (RowC.own (own_made u3 [.int .i64 (a + (T.size : Int))] 3 1 1 0 (Nat.zero_le _) rfl (by omega))) rfl (fun u hu => by simp at hu; subst hu; rfl) (by omega) HL3.out HL4.out ?_
              intro pa2 pc2 w9 ho9 hk9
              obtain ⟨⟨g9, f9⟩, S10⟩ := S9.out.appI ⟨tm, kd, da⟩ HQX.out _ HZA.out ho9 hk9
              have S11 := hid S10
              clear ho9 hk9 S10
              refine hK.out _ _ trivial (fun hHeld => ?_)
              clear hK K
              try simp only [Act.put, List.getElem_toArray, List.getElem_cons_succ, List.getElem_cons_zero, List.setIfInBounds_toArray, List.set_cons_zero, List.set_cons_succ]
              refine wpAnyH_take (i := 9) (v := ?vv38) rfl (by kernel_rfl) (by kernel_rfl) (by kernel_rfl) (fun _ _ _ h => h) (Or.inl ⟨by rfl, ?hy38⟩) (by assumption) ?rest38
              case hy38 => (intro w hSw; (try dsimp only at hSw); go_simp; first | done | with_reducible rfl)
              try simp only [Act.put, List.getElem_toArray, List.getElem_cons_succ, List.getElem_cons_zero, List.setIfInBounds_toArray, List.set_cons_zero, List.set_cons_succ]
              refine wpAnyH_ready (rs := [10]) (by kernel_rfl) (by simp) ?_
              refine AllReadyH.cons rfl (fun K hK => ?_) AllReadyH.nil
              go_simp
              refine hK.out _ _ trivial (fun hHeld => ?_)
              clear hK K
              try simp only [Act.put, List.getElem_toArray, List.getElem_cons_succ, List.getElem_cons_zero, List.setIfInBounds_toArray, List.set_cons_zero, List.set_cons_succ]
              refine wpAnyH_done (by kernel_rfl) ?_ _
              generalize hw9 : (w9.setCell ⟨w.heap.size, 4, none⟩ (.slice pa2 (x0.ps.length + k + 1) pc2)) = w10 at *
              clear hw9 g9 f9
              have AD2 := fun W => AD.out W
              go_wp2
              exact ⟨⟨k + 1, by rw [HTX.out], by rw [HWK.out]; go_num, HK1.out, _, _, S11.out⟩, by rw [HWK.out]; exact meas _ _ hk⟩
end Go.Proofs.YtefbioainibmaaaGreatDoor
namespace Go.Proofs.YtefbioainibmaaaGreatDoor
open Go.RowKit Go.Maps
set_option linter.unusedVariables false
set_option linter.unusedSimpArgs false

/-- the blocks of the library's variables -/
def IsGV (g : Nat) : Prop := Tryz.prog.globalNamed "strconv.ErrSyntax" = some g ∨ Tryz.prog.globalNamed "strconv.ErrRange" = some g ∨ Tryz.prog.globalNamed "internal/strconv.uint64pow10" = some g
theorem var_keep {S : Nat → Prop} {W W' : World} {g : Nat} {n : String} {cs : Array Value} (hg : Tryz.prog.globalNamed n = some g) (h : W.var? Tryz.prog n = some cs) (hk : Keep S W W') (hS : ¬ S g) : W'.var? Tryz.prog n = some cs ∧ g < W.heap.size := by
  unfold World.var? at h ⊢
  rw [hg] at h ⊢
  simp only [Option.bind_some] at h ⊢
  have hlt : g < W.heap.size := by
    rcases Nat.lt_or_ge g W.heap.size with h' | h'
    · exact h'
    · rw [Array.getElem?_eq_none h'] at h; cases h
  rw [hk.block g hlt hS]
  exact ⟨h, hlt⟩
theorem GV.keepS {S : Nat → Prop} {w W : World} (h : GV w) (k : Keep S w W) (hS : ∀ g, IsGV g → ¬ S g) : GV W ∧ ∀ g, IsGV g → g < w.heap.size := by
  obtain ⟨⟨t1, p1, h1⟩, ⟨t2, p2, h2⟩, h3⟩ := h
  obtain ⟨g1, e1⟩ := Option.isSome_iff_exists.1 (show (Tryz.prog.globalNamed "strconv.ErrSyntax").isSome = true by kernel_rfl)
  obtain ⟨g2, e2⟩ := Option.isSome_iff_exists.1 (show (Tryz.prog.globalNamed "strconv.ErrRange").isSome = true by kernel_rfl)
  obtain ⟨g3, e3⟩ := Option.isSome_iff_exists.1 (show (Tryz.prog.globalNamed "internal/strconv.uint64pow10").isSome = true by kernel_rfl)
  have q1 := var_keep e1 h1 k (hS g1 (.inl e1))
  have q2 := var_keep e2 h2 k (hS g2 (.inr (.inl e2)))
  have q3 := var_keep e3 h3 k (hS g3 (.inr (.inr e3)))
  refine ⟨⟨⟨t1, p1, q1.1⟩, ⟨t2, p2, q2.1⟩, q3.1⟩, fun g hg => ?_⟩
  rcases hg with hg | hg | hg
  · rw [e1] at hg; injection hg with hg; omega
  · rw [e2] at hg; injection hg with hg; omega
  · rw [e3] at hg; injection hg with hg; omega
/-- what calls that change the disk and the log leave -/
structure Stp (w : World) (c : Nat → Nat) (w' : World) (c' : Nat → Nat) : Prop where
  co : ∀ j, j < w.heap.size → c' j = c j
  kp : Keep (fun j => c j < 6 ∨ c j = 8) w w'
theorem Stp.refl (w : World) (c : Nat → Nat) : Stp w c w c := ⟨fun _ _ => rfl, Keep.refl _ _⟩
theorem Stp.trans {w w' w2 : World} {c c' c2 : Nat → Nat} (h : Stp w c w' c') (k : Stp w' c' w2 c2) : Stp w c w2 c2 :=
  ⟨fun j hj => (k.co j (Nat.lt_of_lt_of_le hj h.kp.size)).trans (h.co j hj), h.kp.then k.kp (fun j hj e => by rw [h.co j hj] at e; exact e)⟩
theorem Stp.ents {w w' : World} {c c' : Nat → Nat} {v : Value} {l : List En} (h : Stp w c w' c') (e : EntI w v l) (hc : ∀ b, v.ownBlock = some b → l ≠ [] → c b = 7) : EntI w' v l := e.keepS h.kp (fun b hb hl e => by have := hc b hb hl; omega)
theorem EntI.lt {w : World} {v : Value} {l : List En} (h : EntI w v l) {b : Nat} (hb : v.ownBlock = some b) (hl : l ≠ []) : b < w.heap.size := by
  rcases h with ⟨_, _, _, h⟩ | ⟨b', off, cap, rfl, hb', hc⟩
  · exact absurd h hl
  · have : b' = b := by simpa [Value.ownBlock] using hb
    omega
theorem Stp.entc {w w' : World} {c c' : Nat → Nat} {v : Value} {l : List En} (h : Stp w c w' c') (e : EntI w v l) (hc : ∀ b, v.ownBlock = some b → l ≠ [] → c b = 7) : ∀ b, v.ownBlock = some b → l ≠ [] → c' b = 7 := fun b hb hl => (h.co b (e.lt hb hl)).trans (hc b hb hl)
structure LgD (w : World) (c : Nat → Nat) (p : Nat) (d : Ds) (B L : Nat) (tm vt : Int) (lost : Bool) (v : Value) (l : List Sv) : Prop where
  lg : LogD w c p d B L tm vt lost v l
  cL : c L = 8
  cv : ∀ g, v.ownBlock = some g → c g = 8
  cs : ∀ x ∈ l, ∀ g, x.ve.ownBlock = some g ∨ x.vp.ownBlock = some g → c g = 8
  gv : GV w
  gc : ∀ g, IsGV g → c g = 7
  hB : B ≤ w.heap.size
section
variable {w w' : World} {c : Nat → Nat} {B L p : Nat} {d d' : Ds} {tm vt : Int} {lost : Bool} {v : Value} {l : List Sv}
theorem LgD.left (h : LgD w c p d B L tm vt lost v l) (k : Left w c p d' w') : ∃ c', LgD w' c' p d' B L tm vt lost v l ∧ Stp w c w' c' := by
  obtain ⟨c', h1, h2, h3⟩ := h.lg.left k
  have g := h.gv.keepS h3 (fun g hg => by rw [h.gc g hg]; omega)
  exact ⟨c', ⟨h1, (h2 L h.lg.lg.bx.lt).trans h.cL, fun g hg => (h2 g (h.lg.lg.bltv hg)).trans (h.cv g hg), fun x hx g hg => (h2 g (h.lg.lg.blts hx hg)).trans (h.cs x hx g hg), g.1, fun j hj => (h2 j (g.2 j hj)).trans (h.gc j hj), Nat.le_trans h.hB h3.size⟩, h2, h3.mono (fun j _ hj => .inl hj)⟩
/-- behind what makes new memory alone; new blocks are given the color 8 -/
theorem LgD.fresh (h : LgD w c p d B L tm vt lost v l) (k : Keep (fun _ => False) w w') : ∃ c', LgD w' c' p d B L tm vt lost v l ∧ Stp w c w' c' ∧ ∀ j, w.heap.size ≤ j → c' j = 8 := by
  have hL := h.lg.lg.bx.lt
  have g := h.gv.keepS k (fun _ _ h => h)
  have h2 : ∀ j, j < w.heap.size → (fun j => if j < w.heap.size then c j else 8) j = c j := fun j hj => if_pos hj
  refine ⟨fun j => if j < w.heap.size then c j else 8, ⟨⟨h.lg.dk.keep k (fun j hj => if_pos hj) (fun _ _ h => h.elim), ⟨h.lg.lg.bx.keep k (fun h => h), h.lg.lg.sg.keep k (fun _ _ h => h) (fun _ _ _ _ h => h)⟩, ?_, fun g hg => ?_, fun x hx g hg => ?_⟩, (h2 L hL).trans h.cL, fun g hg => (h2 g (h.lg.lg.bltv hg)).trans (h.cv g hg), fun x hx g hg => (h2 g (h.lg.lg.blts hx hg)).trans (h.cs x hx g hg), g.1, fun j hj => (h2 j (g.2 j hj)).trans (h.gc j hj), Nat.le_trans h.hB k.size⟩, ⟨h2, k.mono (fun _ _ h => h.elim)⟩, fun j hj => if_neg (by omega)⟩
  · exact Nat.lt_of_lt_of_eq h.lg.cL (h2 L hL).symm
  · exact Nat.lt_of_lt_of_eq (h.lg.cv g hg) (h2 g (h.lg.lg.bltv hg)).symm
  · exact Nat.lt_of_lt_of_eq (h.lg.cs x hx g hg) (h2 g (h.lg.lg.blts hx hg)).symm
/-- behind writings into blocks of the log's own -/
theorem LgD.own {tm' vt' : Int} {lost' : Bool} {v' : Value} {l' : List Sv} (h : LgD w c p d B L tm vt lost v l) (k : Keep (fun j => c j = 8) w w') (i : LogI w' B L p tm' vt' lost' v' l') (hv : ∀ g, v'.ownBlock = some g → c g = 8) (hs : ∀ x ∈ l', ∀ g, x.ve.ownBlock = some g ∨ x.vp.ownBlock = some g → c g = 8) : LgD w' c p d B L tm' vt' lost' v' l' ∧ Stp w c w' c :=
  have g := h.gv.keepS k (fun g hg => by rw [h.gc g hg]; omega)
  ⟨⟨⟨h.lg.dk.keep k (fun _ _ => rfl) (fun j hj e => by omega), i, h.lg.cL, fun g hg => by rw [hv g hg]; omega, fun x hx g hg => by rw [hs x hx g hg]; omega⟩, h.cL, hv, hs, g.1, h.gc, Nat.le_trans h.hB k.size⟩, fun _ _ => rfl, k.mono (fun j _ e => .inr e)⟩
end
/-- the log is somewhere, with such segments -/
def LgE (w : World) (c : Nat → Nat) (p : Nat) (d : Ds) (B L : Nat) (tm vt : Int) (lost : Bool) (ls : List Sg) (w' : World) : Prop :=
  ∃ c' v l, LgD w' c' p d B L tm vt lost v l ∧ l.map Sv.sg = ls ∧ Stp w c w' c'
section
variable {w wi w' : World} {c : Nat → Nat} {B L p : Nat} {d d' : Ds} {tm vt tm' vt' : Int} {lost lost' : Bool} {v : Value} {l : List Sv} {ls ls' : List Sg}
theorem LgD.e (h : LgD w c p d B L tm vt lost v l) : LgE w c p d B L tm vt lost (l.map Sv.sg) w := ⟨c, v, l, h, rfl, Stp.refl _ _⟩
theorem LgE.trans {c' : Nat → Nat} (s : Stp w c wi c') (h : LgE wi c' p d B L tm vt lost ls w') : LgE w c p d B L tm vt lost ls w' := by
  obtain ⟨c2, v2, l2, h1, h2, h3⟩ := h
  exact ⟨c2, v2, l2, h1, h2, s.trans h3⟩
/-- a call more -/
theorem stepG {f : FuncId} {args : Array Value} {r : Value} (h : LgE w c p d B L tm vt lost ls wi) (C : ∀ W c v l, LgD W c p d B L tm vt lost v l → l.map Sv.sg = ls → Calls Tryz.prog f args W fun e w' => e = .returned r ∧ LgE W c p d' B L tm' vt' lost' ls' w') : Calls Tryz.prog f args wi fun e w' => e = .returned r ∧ LgE w c p d' B L tm' vt' lost' ls' w' := by
  obtain ⟨c2, v2, l2, h1, h2, h3⟩ := h
  exact (C wi c2 v2 l2 h1 h2).mono fun e w' ⟨he, hL⟩ => ⟨he, hL.trans h3⟩
/-- a call of the disk's -/
theorem stepGD {f : FuncId} {args : Array Value} {r : Value} (h : LgE w c p d B L tm vt lost ls wi) (C : ∀ W c, DiskIs W c p d → Calls Tryz.prog f args W fun e w' => e = .returned r ∧ Left W c p d' w') : Calls Tryz.prog f args wi fun e w' => e = .returned r ∧ LgE w c p d' B L tm vt lost ls w' := by
  obtain ⟨c2, v2, l2, h1, h2, h3⟩ := h
  refine (C wi c2 h1.lg.dk).mono fun e w' ⟨he, hL⟩ => ⟨he, ?_⟩
  obtain ⟨c4, h4, h5⟩ := h1.left hL
  exact ⟨c4, v2, l2, h4, h2, h3.trans h5⟩
theorem LgE.keep (h : LgE w c p d B L tm vt lost ls wi) (k : Keep (fun _ => False) wi w') : LgE w c p d B L tm vt lost ls w' := by
  obtain ⟨c2, v2, l2, h1, h2, h3⟩ := h
  obtain ⟨c4, h4, h5, -⟩ := h1.fresh k
  exact ⟨c4, v2, l2, h4, h2, h3.trans h5⟩
theorem LgE.next (h : LgE w c p d B L tm vt lost ls wi) (b : Below wi.heap.size wi w') : LgE w c p d B L tm vt lost ls w' := h.keep (b.keep _)
theorem LgE.stp (h : LgE w c p d B L tm vt lost ls w') : ∃ c', Stp w c w' c' := by
  obtain ⟨c2, v2, l2, h1, h2, h3⟩ := h
  exact ⟨c2, h3⟩
theorem LgE.gv (h : LgE w c p d B L tm vt lost ls w') : GV w' := by
  obtain ⟨c2, v2, l2, h1, h2, h3⟩ := h
  exact h1.gv
theorem LgE.bx (h : LgE w c p d B L tm vt lost ls w') : ∃ v, RowIs w' L [.pointer (some ⟨p, 0, none⟩), .int .i64 tm, .int .i64 vt, v, .bool lost] 107 := by
  obtain ⟨c2, v2, l2, h1, h2, h3⟩ := h
  exact ⟨v2, h1.lg.lg.bx⟩
end
end Go.Proofs.YtefbioainibmaaaGreatDoor
namespace Go.Proofs.YtefbioainibmaaaGreatDoor
open Go.RowKit Go.Maps
set_option linter.unusedVariables false
set_option linter.unusedSimpArgs false

/-- the number of the next segment -/
def nxN (l : List Sg) : Int := match l.getLast? with
  | none => 1
  | some y => y.n + 1
/-- a segment with entries, begun -/
def bgG (n : Int) (ix tm : Nat) (q : List En) : Sg := Sg.wt ⟨n, ix, tm, [], [((bsB ix tm).length : Int)]⟩ q
/-- a new segment behind the others -/
def bgS (d : Ds) (l : List Sg) (ix tm : Nat) (q : List En) : Ds × List Sg × Int :=
  if 4611686018427387903 < nxN l ∨ 1099511627776 < ix then (d, l, 22)
  else ((wrD d (fnB (nxN l)) (bsB ix tm ++ txW q)).1, if (wrD d (fnB (nxN l)) (bsB ix tm ++ txW q)).2 = 0 then l ++ [bgG (nxN l) ix tm q] else l, (wrD d (fnB (nxN l)) (bsB ix tm ++ txW q)).2)
/-- entries into the last segment y of l ++ [y] -/
def flS (d : Ds) (l : List Sg) (y : Sg) (q : List En) : Ds × List Sg × Int :=
  ((appD d (fnB y.n) (txW q)).1, if (appD d (fnB y.n) (txW q)).2 = 0 then l ++ [y.wt q] else l ++ [y], (appD d (fnB y.n) (txW q)).2)
/-- a segment's first entries alone -/
def fsG (g : Sg) (n : Nat) : Sg := { g with es := g.es.take n, ps := g.ps.take (n + 1) }
/-- the last segment y of l ++ [y] is cut -/
def ctS (d : Ds) (l : List Sg) (y : Sg) (at_ : Int) : Ds × List Sg × Int :=
  if (y.es.length : Int) ≤ at_ - 1 - y.ix then (d, l ++ [y], 0)
  else ((cuD d (fnB y.n) (fsG y (at_ - 1 - y.ix).toNat).sz).1, if (cuD d (fnB y.n) (fsG y (at_ - 1 - y.ix).toNat).sz).2 = 0 then l ++ [fsG y (at_ - 1 - y.ix).toNat] else l ++ [y], (cuD d (fnB y.n) (fsG y (at_ - 1 - y.ix).toNat).sz).2)
/-- the log ends ahead of an index; the segments from the last on, the first one y0 apart -/
def eaS (at_ : Int) (y0 : Sg) : Nat → Ds → List Sg → Ds × List Sg × Int
  | 0, d, r => (d, y0 :: r, 0)
  | k + 1, d, r => match r.getLast? with
    | none => ctS d [] y0 at_
    | some y => if at_ - 1 ≤ y.ix then
        if (rmD d (fnB y.n)).2 = 0 then eaS at_ y0 k (rmD d (fnB y.n)).1 r.dropLast else ((rmD d (fnB y.n)).1, y0 :: r, (rmD d (fnB y.n)).2)
      else ctS d (y0 :: r.dropLast) y at_
/-- new segments for entries -/
def lpS : Nat → Ds → List Sg → List En → Ds × List Sg × Int
  | 0, d, l, _ => (d, l, 0)
  | k + 1, d, l, q =>
    if q.length = 0 then (d, l, 0)
    else match l.getLast? with
      | none => (d, l, 0)
      | some y => if (bgS d l y.en.toNat y.lt.toNat (q.take 8)).2.2 = 0 then lpS k (bgS d l y.en.toNat y.lt.toNat (q.take 8)).1 (bgS d l y.en.toNat y.lt.toNat (q.take 8)).2.1 (q.drop 8)
        else bgS d l y.en.toNat y.lt.toNat (q.take 8)
/-- entries behind the log, whose last segment is y of l ++ [y] -/
def lyS (d : Ds) (l : List Sg) (y : Sg) (q : List En) : Ds × List Sg × Int :=
  if q.length = 0 ∨ 8 ≤ y.es.length then lpS q.length d (l ++ [y]) q
  else if (flS d l y (q.take (8 - y.es.length))).2.2 = 0 then lpS q.length (flS d l y (q.take (8 - y.es.length))).1 (flS d l y (q.take (8 - y.es.length))).2.1 (q.drop (8 - y.es.length))
  else flS d l y (q.take (8 - y.es.length))

theorem fnB_len (n : Int) (h0 : 0 ≤ n) (h1 : n ≤ 9223372036854775807) : (fnB n).length ≤ 40 := by
  have hl := Lib.itoa_length_le n (by omega) h1
  unfold fnB
  simp
  omega
/-- a cell of a row is written -/
theorem ORow.set {w : World} {B t k n g cap : Nat} {xs : List Value} (h : ORow w B t k (.slice (some ⟨g, 0, none⟩) n cap) n xs) (o : Nat) (ho : o < n * k) (u : Value) : ORow (w.setCell ⟨g, o, none⟩ u) B t k (.slice (some ⟨g, 0, none⟩) n cap) n (xs.set o u) := by
  rcases h with h | ⟨h1, g', cs, e, h2, h3, h4, h5⟩
  · rcases h.2 with ⟨e, _⟩ | ⟨g', cap', cur, e, hb, hg, hn, hc, hz, ht⟩
    · cases e
    · injection e with e1 e2 e3
      injection e1 with e1
      injection e1 with e1 e4
      subst e1 e3
      have hr : RowIs w g cur.toList t := by show w.heap[g]? = _; rw [hg]
      have hr2 : RowIs (w.setCell ⟨g, o, none⟩ u) g (cur.toList.set o u) t := hr.set o u
      refine .inl ⟨by rw [List.length_set]; exact h.1, .inr ⟨g, cap, (cur.toList.set o u).toArray, rfl, hb, hr2, hn, hc, by simp [hz], ?_⟩⟩
      rw [← ht]
      simp [List.take_set]
  · injection e with e1 e2 e3
    injection e1 with e1
    injection e1 with e1 e4
    subst e1 e3
    refine .inr ⟨by rw [List.length_set]; exact h1, g, cs.set o u, rfl, h2, h3.set o u, h4, ?_⟩
    rw [← h5]
    simp [List.take_set]
theorem svsC_app (a b : List Sv) : svsC (a ++ b) = svsC a ++ svsC b := List.flatMap_append
theorem set5 (A : List Value) (v0 v1 v2 v3 v4 u0 u1 u2 u3 u4 : Value) : (((((A ++ [v0, v1, v2, v3, v4]).set A.length u0).set (A.length + 1) u1).set (A.length + 2) u2).set (A.length + 3) u3).set (A.length + 4) u4 = A ++ [u0, u1, u2, u3, u4] := by
  simp [List.set_append]
/-- the last segment is written anew -/
theorem SgsI.last {w w2 : World} {B g cap m N : Nat} {l : List Sv} {y x : Sv} (h : SgsI w B (.slice (some ⟨g, 0, none⟩) N cap) (l ++ [y])) (hm : l.length = m) (hN : m + 1 = N) (hx : SvI w B x) (hae : ∀ a ∈ l, ∀ g, a.ve.ownBlock = some g → ¬ x.ve.ownBlock = some g) (hai : ∀ a ∈ l, ∀ g, a.vp.ownBlock = some g → ¬ x.vp.ownBlock = some g)
    (e : w2 = ((((w.setCell ⟨g, m * 5, none⟩ (.int .i64 x.n)).setCell ⟨g, m * 5 + 1, none⟩ (.int .i64 x.ix)).setCell ⟨g, m * 5 + 2, none⟩ (.int .i64 x.tm)).setCell ⟨g, m * 5 + 3, none⟩ x.ve).setCell ⟨g, m * 5 + 4, none⟩ x.vp) : SgsI w2 B (.slice (some ⟨g, 0, none⟩) N cap) (l ++ [x]) ∧ Keep (· = g) w w2 := by
  subst hN
  have hr := h.row
  have hl : (l ++ [y]).length = m + 1 := by simp [hm]
  rw [hl] at hr
  have r5 := ((((hr.set (m * 5) (by omega) (.int .i64 x.n)).set (m * 5 + 1) (by omega) (.int .i64 x.ix)).set (m * 5 + 2) (by omega) (.int .i64 x.tm)).set (m * 5 + 3) (by omega) x.ve).set (m * 5 + 4) (by omega) x.vp
  have hc : (svsC l).length = m * 5 := by rw [svsC_len, hm]
  have e2 : svsC (l ++ [y]) = svsC l ++ [.int .i64 y.n, .int .i64 y.ix, .int .i64 y.tm, y.ve, y.vp] := by rw [svsC_app]; simp [svsC, svC, sgC]
  have e3 : svsC (l ++ [x]) = svsC l ++ [.int .i64 x.n, .int .i64 x.ix, .int .i64 x.tm, x.ve, x.vp] := by rw [svsC_app]; simp [svsC, svC, sgC]
  rw [e2, ← hc, set5, ← e3] at r5
  have kk : Keep (· = g) w w2 := by
    rw [e]
    exact ((((keep_setCell _ _ _ _).trans (keep_setCell _ _ _ _)).trans (keep_setCell _ _ _ _)).trans (keep_setCell _ _ _ _)).trans (keep_setCell _ _ _ _)
  obtain ⟨cs, hrow⟩ := h.row.block (g := g) rfl
  have hne : ∀ z, SvI w B z → ∀ j, z.ve.ownBlock = some j ∨ z.vp.ownBlock = some j → ¬ j = g := fun z hz j hj => hz.not_box hrow j hj
  refine ⟨⟨?_, fun z hz => ?_, ?_, ?_⟩, kk⟩
  · rw [show (l ++ [x]).length = m + 1 by simp [hm], e, ← hc]
    exact r5
  · rcases List.mem_append.1 hz with hz | hz
    · exact (h.sg z (List.mem_append_left _ hz)).keep kk (hne z (h.sg z (List.mem_append_left _ hz)))
    · rw [List.mem_singleton.1 hz]; exact hx.keep kk (hne x hx)
  · rw [List.pairwise_append]
    exact ⟨(List.pairwise_append.1 h.ae).1, List.pairwise_singleton _ _, fun a ha b hb => by rw [List.mem_singleton.1 hb]; exact hae a ha⟩
  · rw [List.pairwise_append]
    exact ⟨(List.pairwise_append.1 h.ai).1, List.pairwise_singleton _ _, fun a ha b hb => by rw [List.mem_singleton.1 hb]; exact hai a ha⟩
end Go.Proofs.YtefbioainibmaaaGreatDoor
namespace Go.Proofs.YtefbioainibmaaaGreatDoor
open Go.RowKit Go.Maps
set_option linter.unusedVariables false
set_option linter.unusedSimpArgs false

theorem LgD.keep1 {w w' : World} {c : Nat → Nat} {B L p : Nat} {d : Ds} {tm vt : Int} {lost : Bool} {v : Value} {l : List Sv} (h : LgD w c p d B L tm vt lost v l) (k : Keep (fun _ => False) w w') : LgD w' c p d B L tm vt lost v l :=
  (h.own (k.mono (fun _ _ h => h.elim)) ⟨h.lg.lg.bx.keep k (fun h => h), h.lg.lg.sg.keep k (fun _ _ h => h) (fun _ _ _ _ h => h)⟩ h.cv h.cs).1
/-- the log, and a segment that is laid, in a box -/
structure FlS (w : World) (c : Nat → Nat) (p : Nat) (d : Ds) (B L : Nat) (tm vt : Int) (lost : Bool) (v : Value) (l : List Sv) (bx : Nat) (x : Sv) (c1 : Nat → Nat) (W : World) : Prop where
  g : LgD W c1 p d B L tm vt lost v l
  s : Stp w c W c1
  b : RowIs W bx (svC x) 126
  xi : SvI W B x
  cb : c1 bx = 8
  cx : ∀ j, x.ve.ownBlock = some j ∨ x.vp.ownBlock = some j → c1 j = 8
section
variable {w W W' : World} {c c1 : Nat → Nat} {B L p bx : Nat} {d d' : Ds} {tm vt : Int} {lost : Bool} {v : Value} {l : List Sv} {x : Sv}
theorem Stp.keep1 (h : Stp w c W c1) (k : Keep (fun _ => False) W W') : Stp w c W' c1 := ⟨h.co, h.kp.trans (k.mono (fun _ _ h => h.elim))⟩
theorem FlS.next (h : FlS w c p d B L tm vt lost v l bx x c1 W) (b : Below W.heap.size W W') : FlS w c p d B L tm vt lost v l bx x c1 W' :=
  have k := b.keep (fun _ => False)
  ⟨h.g.keep1 k, h.s.keep1 k, h.b.keep k (fun h => h), h.xi.next b, h.cb, h.cx⟩
theorem FlS.left (h : FlS w c p d B L tm vt lost v l bx x c1 W) (k : Left W c1 p d' W') : ∃ c2, FlS w c p d' B L tm vt lost v l bx x c2 W' := by
  obtain ⟨c2, h1, h2⟩ := h.g.left k
  exact ⟨c2, h1, h.s.trans h2, h.b.keep k.2 (by have := h.cb; omega), h.xi.keep k.2 (fun g hg => by have := h.cx g hg; omega), (h2.co bx h.b.lt).trans h.cb, fun j hj => (h2.co j (h.xi.lt hj)).trans (h.cx j hj)⟩
end
theorem ORow.form0 {w : World} {B t k n : Nat} {v : Value} {xs : List Value} (h : ORow w B t k v n xs) (h0 : 0 < n) : ∃ g cap, v = .slice (some ⟨g, 0, none⟩) n cap := by
  rcases h with h | ⟨_, g, cs, e, _⟩
  · rcases h.2 with ⟨_, e⟩ | ⟨g, cap, cur, e, _⟩
    · omega
    · exact ⟨g, cap, e⟩
  · exact ⟨g, n, e⟩
/-- what 'with' leaves of the others -/
theorem SgsI.wth {w W : World} {B : Nat} {v ve vp : Value} {l0 : List Sv} {y : Sv} {q : List En} (h : SgsI w B v (l0 ++ [y])) (k : WtE w B y q ve vp W) : SgsI W B v (l0 ++ [y]) ∧ ∀ a ∈ l0, (∀ g, a.ve.ownBlock = some g → ¬ ve.ownBlock = some g) ∧ ∀ g, a.vp.ownBlock = some g → ¬ vp.ownBlock = some g := by
  have hy := h.sg y (by simp)
  have e1 := (List.pairwise_append.1 h.ae).2.2
  have e2 := (List.pairwise_append.1 h.ai).2.2
  refine ⟨⟨h.row.keep k.kp (fun g hg e => ?_), fun a ha => ?_, h.ae, h.ai⟩, fun a ha => ⟨fun g hg e => ?_, fun g hg e => ?_⟩⟩
  · rcases e with e | e
    · exact h.row.apart hy.oe (by decide) hg e
    · exact h.row.apart hy.oi (by decide) hg e
  · rcases List.mem_append.1 ha with ha | ha
    · have hs := h.sg a (List.mem_append_left _ ha)
      refine hs.keep k.kp (fun g hg e => ?_)
      rcases hg with hg | hg <;> rcases e with e | e
      · exact e1 a ha y (by simp) g hg e
      · exact hs.oe.apart hy.oi (by decide) hg e
      · exact hs.oi.apart hy.oe (by decide) hg e
      · exact e2 a ha y (by simp) g hg e
    · rw [List.mem_singleton.1 ha]; exact k.se
  · rcases k.le g e with e | e
    · exact e1 a ha y (by simp) g hg e
    · have := (h.sg a (List.mem_append_left _ ha)).lt (.inl hg); omega
  · rcases k.lp g e with e | e
    · exact e2 a ha y (by simp) g hg e
    · have := (h.sg a (List.mem_append_left _ ha)).lt (.inr hg); omega
/-- bounds of a segment of a log -/
def SvO (y : Sv) : Prop := 0 ≤ y.ix ∧ y.ix ≤ 4398046511104 ∧ 0 ≤ y.tm ∧ y.tm ≤ 1099511627776 ∧ y.es.length ≤ 8 ∧ y.ps.length = y.es.length + 1 ∧ 1 ≤ y.n ∧ y.n ≤ 4611686018427387903 ∧ 0 ≤ y.sg.sz ∧ y.sg.sz ≤ 10000000000 ∧ ∀ x ∈ y.es, enOk x
set_option maxRecDepth 100000 in
set_option maxHeartbeats 8000000 in
theorem fill_any {w : World} {c : Nat → Nat} {B L p : Nat} {d : Ds} {tm vt : Int} {lost : Bool} {v : Value} {l0 : List Sv} {y : Sv} (h : LgD w c p d B L tm vt lost v (l0 ++ [y])) (qv : Value) (q : List En) (he : EntI w qv q) (hc : ∀ b, qv.ownBlock = some b → q ≠ [] → c b = 7) (hok : ∀ x ∈ q, enOk x) (hq : q.length ≤ 8) (hy : SvO y) (hl : l0.length ≤ 1000000) (hM : d.wt + d.S.length + d.ws.length + 70000000 ≤ 70368744177) (hn : d.n ≤ 1152921504606846976) :
    Calls Tryz.prog 151 #[.pointer (some ⟨L, 0, none⟩), qv] w fun e w' => e = .returned (.int .i64 (flS d (l0.map Sv.sg) y.sg q).2.2) ∧ LgE w c p (flS d (l0.map Sv.sg) y.sg q).1 B L tm vt lost (flS d (l0.map Sv.sg) y.sg q).2.1 w' := by
  obtain ⟨i0, i1, i2, i3, i4, i5, i6, i7, i8, i9, i10⟩ := hy
  obtain ⟨c1, h1, s1, n1⟩ := h.fresh (Keep.refl _ _)
  have hc1 : ∀ b, qv.ownBlock = some b → q ≠ [] → c1 b = 7 := s1.entc he hc
  have hyi := h1.lg.lg.sg.sg y (by simp)
  obtain ⟨m, hm⟩ : ∃ m, l0.length = m := ⟨_, rfl⟩
  obtain ⟨N, hN⟩ : ∃ N, m + 1 = N := ⟨_, rfl⟩
  obtain ⟨g, cap, hv⟩ := h.lg.lg.sg.row.form0 (by simp)
  rw [List.length_append, hm, List.length_singleton, hN] at hv
  subst hv
  have HGW : Hid (g < w.heap.size) := h.lg.lg.bltv rfl
  have HNM := hid hN
  have q0 : (N : Int) - 1 = (m : Int) := by omega
  have q1 : (m : Int) < (N : Int) := by omega
  have q2 : (0 : Int) ≤ (m : Int) := by omega
  have q3 : (N : Int) ≤ 1048576 := by omega
  have q5 : IntKind.i64.wrap (m : Int) = (m : Int) := by rw [IntKind.wrap_i64]; omega
  have LA := hid (wlast_any h1.lg.lg m (by simp [hm]) (by simp; omega) y (by simp [← hm]))
  have WT : Hid (∀ W, Below w.heap.size w W → Calls Tryz.prog 156 #[sgV y.n y.ix y.tm y.ve y.vp, qv] W fun e w' => ∃ ve vp, e = .returned (.tuple #[sgV y.n y.ix y.tm ve vp, .string ⟨(txW q).toArray⟩]) ∧ WtE W B y q ve vp w') := fun W b => wwith_any y qv q B W (hyi.next b) (Nat.le_trans h1.hB b.size) (he.next b) hok (fun b hb hn => ⟨fun e => by have := h1.cs y (by simp) b (.inl e); have := hc1 b hb hn; omega, fun e => by have := h1.cs y (by simp) b (.inr e); have := hc1 b hb hn; omega⟩) (by omega) i5 i8 (by omega)
  have htl := txW_len q hok
  have FI : Hid (∀ (ve vp : Value) W, GV W → Calls Tryz.prog 123 #[.agg #[.int .i64 y.n, .int .i64 y.ix, .int .i64 y.tm, ve, vp]] W fun e w' => e = .returned (.string ⟨(fnB y.n).toArray⟩) ∧ Below W.heap.size W w') := fun ve vp W hG => sgfile_any y.n y.ix y.tm ve vp W (by omega) (by omega) hG
  have hfl : (fnB y.n).length ≤ 40 := fnB_len _ (by omega) (by omega)
  have AP : Hid (∀ W c, DiskIs W c p d → Calls Tryz.prog 172 #[.pointer (some ⟨p, 0, none⟩), .string ⟨(fnB y.n).toArray⟩, .string ⟨(txW q).toArray⟩] W fun e w' => e = .returned (.int .i64 (appD d (fnB y.n) (txW q)).2) ∧ Left W c p (appD d (fnB y.n) (txW q)).1 w') := fun W c D => append_any p c d (fnB y.n) (txW q) W D (by omega) hn
  have HF : Hid (flS d (l0.map Sv.sg) y.sg q = ((appD d (fnB y.n) (txW q)).1, if (appD d (fnB y.n) (txW q)).2 = 0 then l0.map Sv.sg ++ [y.sg.wt q] else l0.map Sv.sg ++ [y.sg], (appD d (fnB y.n) (txW q)).2)) := rfl
  rw [HF.out]
  clear HF
  have H1 := hid h1
  have HS1 := hid s1
  have HN1 := hid n1
  have HM := hid hm
  have HHB : Hid (B ≤ w.heap.size) := h.hB
  generalize appD d (fnB y.n) (txW q) = A at *
  obtain ⟨d2, er⟩ := A
  simp only at AP ⊢
  clear h he hc hok hq hl hM hn h1 s1 n1 hyi hc1 htl hfl i0 i1 i2 i3 i4 i5 i6 i7 i8 i9 i10 hm hN
  go_enter Tryz.func151, Tryz.ntmps151
  go_wp2_with fail
  refine LA.out.mono ?_
  rintro e w1 ⟨rfl, b1⟩
  have HB1 := hid b1
  clear LA b1
  go_wp2_with fail
  refine (WT.out _ HB1.out).mono ?_
  rintro e w2 ⟨ve, vp, rfl, we⟩
  obtain ⟨ea, ec, hve⟩ := we.sv.oe.form
  obtain ⟨pa, pc, hvp⟩ := we.sv.oi.form
  simp only at hve hvp
  subst hve hvp
  have FIx := hid (fun W => FI.out (.slice ea (y.es ++ q).length ec) (.slice pa (y.ps ++ psX y.sg.sz q).length pc) W)
  -- the log and the new segment, behind 'with'
  have S3 : Hid (FlS w c p d B L tm vt lost (.slice (some ⟨g, 0, none⟩) N cap) (l0 ++ [y]) w2.heap.size ⟨y.n, y.ix, y.tm, .slice ea (y.es ++ q).length ec, .slice pa (y.ps ++ psX y.sg.sz q).length pc, y.es ++ q, y.ps ++ psX y.sg.sz q⟩ c1 (w2.alloc (.cells #[.int .i64 y.n, .int .i64 y.ix, .int .i64 y.tm, .slice ea (y.es ++ q).length ec, .slice pa (y.ps ++ psX y.sg.sz q).length pc] 126)) ∧ ∀ a ∈ l0, (∀ g, a.ve.ownBlock = some g → ¬ (Value.slice ea (y.es ++ q).length ec).ownBlock = some g) ∧ ∀ g, a.vp.ownBlock = some g → ¬ (Value.slice pa (y.ps ++ psX y.sg.sz q).length pc).ownBlock = some g) := by
    have g1 := H1.out.keep1 (HB1.out.keep (fun _ => False))
    obtain ⟨sg2, ap2⟩ := g1.lg.lg.sg.wth we
    have hyi := g1.lg.lg.sg.sg y (by simp)
    have k2 : Keep (fun j => c1 j = 8) w1 w2 := we.kp.mono (fun j _ e => H1.out.cs y (by simp) j e)
    have bx2 := g1.lg.lg.bx.keep we.kp (fun e => by
      rcases e with e | e
      · exact hyi.oe.ne_row g1.lg.lg.bx (by decide) e
      · exact hyi.oi.ne_row g1.lg.lg.bx (by decide) e)
    obtain ⟨g2, st2⟩ := g1.own k2 ⟨bx2, sg2⟩ H1.out.cv H1.out.cs
    have ka : Keep (fun _ => False) w2 (w2.alloc (.cells #[.int .i64 y.n, .int .i64 y.ix, .int .i64 y.tm, .slice ea (y.es ++ q).length ec, .slice pa (y.ps ++ psX y.sg.sz q).length pc] 126)) := keep_alloc _ _ _
    have hsz : w.heap.size ≤ w2.heap.size := Nat.le_trans HB1.out.size we.kp.size
    have st3 : Stp w c w2 c1 := (HS1.out.keep1 (HB1.out.keep _)).trans st2
    refine ⟨⟨g2.keep1 ka, st3.keep1 ka, srow w2 _ _, we.sv.keep ka (fun _ _ h => h), HN1.out _ hsz, fun j hj => ?_⟩, ap2⟩
    rcases hj with hj | hj
    · rcases we.le j hj with e | e
      · exact H1.out.cs y (by simp) j (.inl e)
      · exact HN1.out j (Nat.le_trans HB1.out.size e)
    · rcases we.lp j hj with e | e
      · exact H1.out.cs y (by simp) j (.inr e)
      · exact HN1.out j (Nat.le_trans HB1.out.size e)
  have XAP := hid S3.out.2
  have S3b := hid S3.out.1
  have HBXL : Hid (w.heap.size ≤ w2.heap.size) := Nat.le_trans HB1.out.size we.kp.size
  clear S3 we WT FI H1 HS1 HN1 HB1
  have S3 := S3b
  clear S3b
  have HWT : Hid (y.sg.wt q = Sv.sg ⟨y.n, y.ix, y.tm, .slice ea (y.es ++ q).length ec, .slice pa (y.ps ++ psX y.sg.sz q).length pc, y.es ++ q, y.ps ++ psX y.sg.sz q⟩) := rfl
  unfold sgV
  obtain ⟨yn, yi, yt, yve, yvp, yes, yps⟩ := y
  have HBX : Hid (g ≠ w2.heap.size) := by have h2 := HGW.out; have h3 := HBXL.out; show _ ≠ _; omega
  generalize HX : (⟨yn, yi, yt, .slice ea (yes ++ q).length ec, .slice pa (yps ++ psX (Sv.sg ⟨yn, yi, yt, yve, yvp, yes, yps⟩).sz q).length pc, yes ++ q, yps ++ psX (Sv.sg ⟨yn, yi, yt, yve, yvp, yes, yps⟩).sz q⟩ : Sv) = X at *
  have HXC : Hid (svC X = [.int .i64 yn, .int .i64 yi, .int .i64 yt, .slice ea (yes ++ q).length ec, .slice pa (yps ++ psX (Sv.sg ⟨yn, yi, yt, yve, yvp, yes, yps⟩).sz q).length pc]) := by subst HX; rfl
  have HXV : Hid (X.n = yn ∧ X.ix = yi ∧ X.tm = yt ∧ X.ve = .slice ea (yes ++ q).length ec ∧ X.vp = .slice pa (yps ++ psX (Sv.sg ⟨yn, yi, yt, yve, yvp, yes, yps⟩).sz q).length pc) := by subst HX; exact ⟨rfl, rfl, rfl, rfl, rfl⟩
  have RB : Hid (∀ c2 d W, FlS w c p d B L tm vt lost (.slice (some ⟨g, 0, none⟩) N cap) (l0 ++ [⟨yn, yi, yt, yve, yvp, yes, yps⟩]) w2.heap.size X c2 W → RowIs W w2.heap.size [.int .i64 yn, .int .i64 yi, .int .i64 yt, .slice ea (yes ++ q).length ec, .slice pa (yps ++ psX (Sv.sg ⟨yn, yi, yt, yve, yvp, yes, yps⟩).sz q).length pc] 126) := fun c2 d W h => by have := h.b; rw [HXC.out] at this; exact this
  simp only at *
  generalize (yes ++ q).length = en at *
  generalize (yps ++ psX (Sv.sg ⟨yn, yi, yt, yve, yvp, yes, yps⟩).sz q).length = pn at *
  clear HX HXC
  go_wp2_with fail
  generalize w2.alloc (.cells #[.int .i64 yn, .int .i64 yi, .int .i64 yt, .slice ea en ec, .slice pa pn pc] 126) = W3 at *
  generalize w2.heap.size = bx at *
  have S3d := hid (S3.out.next (Below.refl _ _).drew)
  clear S3
  have S3 := S3d
  clear S3d
  have R3 := hid (RB.out _ _ _ S3.out)
  have Z0 : (W3.drew.cell? ⟨L, 0, none⟩ = some (.pointer (some ⟨p, 0, none⟩)) ∧ W3.drew.cell? ⟨bx, 0, none⟩ = some (.int .i64 yn) ∧ W3.drew.cell? ⟨bx, 1, none⟩ = some (.int .i64 yi) ∧ W3.drew.cell? ⟨bx, 2, none⟩ = some (.int .i64 yt) ∧ W3.drew.cell? ⟨bx, 3, none⟩ = some (.slice ea en ec) ∧ W3.drew.cell? ⟨bx, 4, none⟩ = some (.slice pa pn pc)) := ⟨S3.out.g.lg.lg.bx.cellAt (o := 0) rfl, R3.out.cellAt (o := 0) rfl, R3.out.cellAt (o := 1) rfl, R3.out.cellAt (o := 2) rfl, R3.out.cellAt (o := 3) rfl, R3.out.cellAt (o := 4) rfl⟩
  refine wp_region_held_drew (S := fun W => W.cell? ⟨L, 0, none⟩ = some (.pointer (some ⟨p, 0, none⟩)) ∧ W.cell? ⟨bx, 0, none⟩ = some (.int .i64 yn) ∧ W.cell? ⟨bx, 1, none⟩ = some (.int .i64 yi) ∧ W.cell? ⟨bx, 2, none⟩ = some (.int .i64 yt) ∧ W.cell? ⟨bx, 3, none⟩ = some (.slice ea en ec) ∧ W.cell? ⟨bx, 4, none⟩ = some (.slice pa pn pc)) (by kernel_rfl) Z0 (fun hHeld => ?_)
  generalize W3.drew = u0 at *
  refine wpAnyH_take (i := 0) (v := ?vv13) rfl (by kernel_rfl) (by kernel_rfl) (by kernel_rfl) (fun _ _ _ h => h) (Or.inl ⟨by rfl, ?hy13⟩) (by assumption) ?rest13
  case hy13 => (intro w hSw; (try dsimp only at hSw); go_simp; first | done | with_reducible rfl)
  try simp only [Act.put, List.getElem_toArray, List.getElem_cons_succ, List.getElem_cons_zero, List.setIfInBounds_toArray, List.set_cons_zero, List.set_cons_succ]
  refine wpAnyH_take (i := 1) (v := ?vv14) rfl (by kernel_rfl) (by kernel_rfl) (by kernel_rfl) (fun _ _ _ h => h) (Or.inl ⟨by rfl, ?hy14⟩) (by assumption) ?rest14
  case hy14 => (intro w hSw; (try dsimp only at hSw); go_simp; first | done | with_reducible rfl)
  try simp only [Act.put, List.getElem_toArray, List.getElem_cons_succ, List.getElem_cons_zero, List.setIfInBounds_toArray, List.set_cons_zero, List.set_cons_succ]
  refine wpAnyH_take (i := 2) (v := ?vv15) rfl (by kernel_rfl) (by kernel_rfl) (by kernel_rfl) (fun _ _ _ h => h) (Or.inl ⟨by rfl, ?hy15⟩) (by assumption) ?rest15
  case hy15 => (intro w hSw; (try dsimp only at hSw); go_simp; first | done | with_reducible rfl)
  try simp only [Act.put, List.getElem_toArray, List.getElem_cons_succ, List.getElem_cons_zero, List.setIfInBounds_toArray, List.set_cons_zero, List.set_cons_succ]
  refine wpAnyH_take (i := 3) (v := ?vv16) rfl (by kernel_rfl) (by kernel_rfl) (by kernel_rfl) (fun _ _ _ h => h) (Or.inl ⟨by rfl, ?hy16⟩) (by assumption) ?rest16
  case hy16 => (intro w hSw; (try dsimp only at hSw); go_simp; first | done | with_reducible rfl)
  try simp only [Act.put, List.getElem_toArray, List.getElem_cons_succ, List.getElem_cons_zero, List.setIfInBounds_toArray, List.set_cons_zero, List.set_cons_succ]
  refine wpAnyH_take (i := 4) (v := ?vv17) rfl (by kernel_rfl) (by kernel_rfl) (by kernel_rfl) (fun _ _ _ h => h) (Or.inl ⟨by rfl, ?hy17⟩) (by assumption) ?rest17
  case hy17 => (intro w hSw; (try dsimp only at hSw); go_simp; first | done | with_reducible rfl)
  try simp only [Act.put, List.getElem_toArray, List.getElem_cons_succ, List.getElem_cons_zero, List.setIfInBounds_toArray, List.set_cons_zero, List.set_cons_succ]
  refine wpAnyH_take (i := 6) (v := ?vv18) rfl (by kernel_rfl) (by kernel_rfl) (by kernel_rfl) (fun _ _ _ h => h) (Or.inl ⟨by rfl, ?hy18⟩) (by assumption) ?rest18
  case hy18 => (intro w hSw; (try dsimp only at hSw); go_simp; first | done | with_reducible rfl)
  try simp only [Act.put, List.getElem_toArray, List.getElem_cons_succ, List.getElem_cons_zero, List.setIfInBounds_toArray, List.set_cons_zero, List.set_cons_succ]
  refine wpAnyH_ready (rs := [5]) (by kernel_rfl) (by simp) ?_
  refine AllReadyH.cons rfl (fun K hK => ?_) AllReadyH.nil
  go_simp
  refine (FIx.out _ S3.out.g.gv).mono ?_
  rintro e u1 ⟨rfl, b1⟩
  have S4 := hid (S3.out.next b1)
  have R4 := hid (RB.out _ _ _ S4.out)
  have Z1 : (u1.cell? ⟨L, 0, none⟩ = some (.pointer (some ⟨p, 0, none⟩)) ∧ u1.cell? ⟨bx, 0, none⟩ = some (.int .i64 yn) ∧ u1.cell? ⟨bx, 1, none⟩ = some (.int .i64 yi) ∧ u1.cell? ⟨bx, 2, none⟩ = some (.int .i64 yt) ∧ u1.cell? ⟨bx, 3, none⟩ = some (.slice ea en ec) ∧ u1.cell? ⟨bx, 4, none⟩ = some (.slice pa pn pc)) := ⟨S4.out.g.lg.lg.bx.cellAt (o := 0) rfl, R4.out.cellAt (o := 0) rfl, R4.out.cellAt (o := 1) rfl, R4.out.cellAt (o := 2) rfl, R4.out.cellAt (o := 3) rfl, R4.out.cellAt (o := 4) rfl⟩
  clear b1 S3 R3 Z0 hHeld
  go_wp2_with fail
  refine hK.out _ _ Z1 (fun hHeld => ?_)
  clear hK K
  try simp only [Act.put, List.getElem_toArray, List.getElem_cons_succ, List.getElem_cons_zero, List.setIfInBounds_toArray, List.set_cons_zero, List.set_cons_succ]
  refine wpAnyH_ready (rs := [7]) (by kernel_rfl) (by simp) ?_
  refine AllReadyH.cons rfl (fun K hK => ?_) AllReadyH.nil
  go_simp
  refine (AP.out _ _ S4.out.g.lg.dk).mono ?_
  rintro e u2 ⟨rfl, hL⟩
  obtain ⟨c2, s5⟩ := S4.out.left hL
  have S5 := hid s5
  have R5 := hid (RB.out _ _ _ S5.out)
  have Z2 : (u2.cell? ⟨L, 0, none⟩ = some (.pointer (some ⟨p, 0, none⟩)) ∧ u2.cell? ⟨bx, 0, none⟩ = some (.int .i64 yn) ∧ u2.cell? ⟨bx, 1, none⟩ = some (.int .i64 yi) ∧ u2.cell? ⟨bx, 2, none⟩ = some (.int .i64 yt) ∧ u2.cell? ⟨bx, 3, none⟩ = some (.slice ea en ec) ∧ u2.cell? ⟨bx, 4, none⟩ = some (.slice pa pn pc)) := ⟨S5.out.g.lg.lg.bx.cellAt (o := 0) rfl, R5.out.cellAt (o := 0) rfl, R5.out.cellAt (o := 1) rfl, R5.out.cellAt (o := 2) rfl, R5.out.cellAt (o := 3) rfl, R5.out.cellAt (o := 4) rfl⟩
  clear s5 hL AP S4 R4 Z1 hHeld
  go_wp2_with fail
  refine hK.out _ _ Z2 (fun hHeld => ?_)
  clear hK K
  try simp only [Act.put, List.getElem_toArray, List.getElem_cons_succ, List.getElem_cons_zero, List.setIfInBounds_toArray, List.set_cons_zero, List.set_cons_succ]
  refine wpAnyH_take (i := 8) (v := ?vv19) rfl (by kernel_rfl) (by kernel_rfl) (by kernel_rfl) (fun _ _ _ h => h) (Or.inl ⟨by rfl, ?hy19⟩) (by assumption) ?rest19
  case hy19 => (intro w hSw; (try dsimp only at hSw); go_simp; first | done | with_reducible rfl)
  try simp only [Act.put, List.getElem_toArray, List.getElem_cons_succ, List.getElem_cons_zero, List.setIfInBounds_toArray, List.set_cons_zero, List.set_cons_succ]
  refine wpAnyH_done (by kernel_rfl) ?_ _
  clear Z2 hHeld FIx
  by_cases her : er = 0
  · subst her
    go_wp2_with fail
    have S6 := hid (S5.out.next (Below.refl _ _).drew)
    have R6 := hid (RB.out _ _ _ S6.out)
    have Z5 : (u2.drew.cell? ⟨L, 3, none⟩ = some (.slice (some ⟨g, 0, none⟩) N cap) ∧ u2.drew.cell? ⟨bx, 0, none⟩ = some (.int .i64 yn) ∧ u2.drew.cell? ⟨bx, 1, none⟩ = some (.int .i64 yi) ∧ u2.drew.cell? ⟨bx, 2, none⟩ = some (.int .i64 yt) ∧ u2.drew.cell? ⟨bx, 3, none⟩ = some (.slice ea en ec) ∧ u2.drew.cell? ⟨bx, 4, none⟩ = some (.slice pa pn pc)) := ⟨S6.out.g.lg.lg.bx.cellAt (o := 3) rfl, R6.out.cellAt (o := 0) rfl, R6.out.cellAt (o := 1) rfl, R6.out.cellAt (o := 2) rfl, R6.out.cellAt (o := 3) rfl, R6.out.cellAt (o := 4) rfl⟩
    have LST := S6.out.g.lg.lg.sg.last (x := X) HM.out HNM.out S6.out.xi (fun a ha => by rw [HXV.out.2.2.2.1]; exact (XAP.out a ha).1) (fun a ha => by rw [HXV.out.2.2.2.2]; exact (XAP.out a ha).2) rfl
    rw [HXV.out.1, HXV.out.2.1, HXV.out.2.2.1, HXV.out.2.2.2.1, HXV.out.2.2.2.2] at LST
    have hLg : ¬ L = g := fun e => S6.out.g.lg.lg.sg.row.ne_row S6.out.g.lg.lg.bx (by decide) (by rw [e]; rfl)
    have GF := hid (S6.out.g.own (LST.2.mono (fun j _ e => by rw [e]; exact S6.out.g.cv g rfl)) ⟨S6.out.g.lg.lg.bx.keep LST.2 hLg, LST.1⟩ S6.out.g.cv (fun z hz j hj => by
      rcases List.mem_append.1 hz with hz | hz
      · exact S6.out.g.cs z (List.mem_append_left _ hz) j hj
      · rw [List.mem_singleton.1 hz] at hj; exact S6.out.cx j hj))
    have SF := hid (S6.out.s.trans GF.out.2)
    have RF := hid (R6.out.keep LST.2 (fun e => HBX.out e.symm))
    have Z6 : ((((((u2.drew.setCell ⟨g, m * 5, none⟩ (.int .i64 yn)).setCell ⟨g, m * 5 + 1, none⟩ (.int .i64 yi)).setCell ⟨g, m * 5 + 2, none⟩ (.int .i64 yt)).setCell ⟨g, m * 5 + 3, none⟩ (.slice ea en ec)).setCell ⟨g, m * 5 + 4, none⟩ (.slice pa pn pc)).cell? ⟨L, 3, none⟩ = some (.slice (some ⟨g, 0, none⟩) N cap) ∧ (((((u2.drew.setCell ⟨g, m * 5, none⟩ (.int .i64 yn)).setCell ⟨g, m * 5 + 1, none⟩ (.int .i64 yi)).setCell ⟨g, m * 5 + 2, none⟩ (.int .i64 yt)).setCell ⟨g, m * 5 + 3, none⟩ (.slice ea en ec)).setCell ⟨g, m * 5 + 4, none⟩ (.slice pa pn pc)).cell? ⟨bx, 0, none⟩ = some (.int .i64 yn) ∧ (((((u2.drew.setCell ⟨g, m * 5, none⟩ (.int .i64 yn)).setCell ⟨g, m * 5 + 1, none⟩ (.int .i64 yi)).setCell ⟨g, m * 5 + 2, none⟩ (.int .i64 yt)).setCell ⟨g, m * 5 + 3, none⟩ (.slice ea en ec)).setCell ⟨g, m * 5 + 4, none⟩ (.slice pa pn pc)).cell? ⟨bx, 1, none⟩ = some (.int .i64 yi) ∧ (((((u2.drew.setCell ⟨g, m * 5, none⟩ (.int .i64 yn)).setCell ⟨g, m * 5 + 1, none⟩ (.int .i64 yi)).setCell ⟨g, m * 5 + 2, none⟩ (.int .i64 yt)).setCell ⟨g, m * 5 + 3, none⟩ (.slice ea en ec)).setCell ⟨g, m * 5 + 4, none⟩ (.slice pa pn pc)).cell? ⟨bx, 2, none⟩ = some (.int .i64 yt) ∧ (((((u2.drew.setCell ⟨g, m * 5, none⟩ (.int .i64 yn)).setCell ⟨g, m * 5 + 1, none⟩ (.int .i64 yi)).setCell ⟨g, m * 5 + 2, none⟩ (.int .i64 yt)).setCell ⟨g, m * 5 + 3, none⟩ (.slice ea en ec)).setCell ⟨g, m * 5 + 4, none⟩ (.slice pa pn pc)).cell? ⟨bx, 3, none⟩ = some (.slice ea en ec) ∧ (((((u2.drew.setCell ⟨g, m * 5, none⟩ (.int .i64 yn)).setCell ⟨g, m * 5 + 1, none⟩ (.int .i64 yi)).setCell ⟨g, m * 5 + 2, none⟩ (.int .i64 yt)).setCell ⟨g, m * 5 + 3, none⟩ (.slice ea en ec)).setCell ⟨g, m * 5 + 4, none⟩ (.slice pa pn pc)).cell? ⟨bx, 4, none⟩ = some (.slice pa pn pc)) := ⟨GF.out.1.lg.lg.bx.cellAt (o := 3) rfl, RF.out.cellAt (o := 0) rfl, RF.out.cellAt (o := 1) rfl, RF.out.cellAt (o := 2) rfl, RF.out.cellAt (o := 3) rfl, RF.out.cellAt (o := 4) rfl⟩
    have HGF := hid GF.out.1
    obtain ⟨cs5, rw5⟩ := LST.1.row.block (g := g) rfl
    have HFR : Hid (∀ o, u2.drew.frozen? ⟨g, o, none⟩ = false) := fun o => by obtain ⟨cs0, rw0⟩ := S6.out.g.lg.lg.sg.row.block (g := g) rfl; exact rw0.frozen
    have CEL : Hid (∀ o, o < 5 → ∃ u, u2.drew.cell? ⟨g, m * 5 + o, none⟩ = some u) := fun o ho => by
      have h1 := S6.out.g.lg.lg.sg.cellN m (by simp [HM.out]) o
      rcases ho9 : (svC ((l0 ++ [⟨yn, yi, yt, yve, yvp, yes, yps⟩])[m]'(by simp [HM.out])))[o]? with _ | u
      · rw [List.getElem?_eq_none_iff] at ho9; simp [svC, sgC] at ho9; omega
      · have := h1 u ho9; rw [Nat.zero_add] at this; exact ⟨u, this⟩
    obtain ⟨k0, hk0⟩ := CEL.out 0 (by omega)
    obtain ⟨k1, hk1⟩ := CEL.out 1 (by omega)
    obtain ⟨k2, hk2⟩ := CEL.out 2 (by omega)
    obtain ⟨k3, hk3⟩ := CEL.out 3 (by omega)
    obtain ⟨k4, hk4⟩ := CEL.out 4 (by omega)
    rw [Nat.add_zero] at hk0
    have g0 := HFR.out (m * 5)
    have g1 := HFR.out (m * 5 + 1)
    have g2 := HFR.out (m * 5 + 2)
    have g3 := HFR.out (m * 5 + 3)
    have g4 := HFR.out (m * 5 + 4)
    clear GF RF R6 S6 S5 R5 RB LST hLg cs5 rw5 HFR CEL
    refine wp_region_held_drew (S := fun W => W.cell? ⟨L, 3, none⟩ = some (.slice (some ⟨g, 0, none⟩) N cap) ∧ W.cell? ⟨bx, 0, none⟩ = some (.int .i64 yn) ∧ W.cell? ⟨bx, 1, none⟩ = some (.int .i64 yi) ∧ W.cell? ⟨bx, 2, none⟩ = some (.int .i64 yt) ∧ W.cell? ⟨bx, 3, none⟩ = some (.slice ea en ec) ∧ W.cell? ⟨bx, 4, none⟩ = some (.slice pa pn pc)) (by kernel_rfl) Z5 (fun hHeld => ?_)
    generalize u2.drew = u3 at *
    refine wpAnyH_take (i := 0) (v := ?vv1) rfl (by kernel_rfl) (by kernel_rfl) (by kernel_rfl) (fun _ _ _ h => h) (Or.inl ⟨by rfl, ?hy1⟩) (by assumption) ?rest1
    case hy1 => (intro w hSw; (try dsimp only at hSw); go_simp; first | done | with_reducible rfl)
    try simp only [Act.put, List.getElem_toArray, List.getElem_cons_succ, List.getElem_cons_zero, List.setIfInBounds_toArray, List.set_cons_zero, List.set_cons_succ]
    refine wpAnyH_take (i := 1) (v := ?vv2) rfl (by kernel_rfl) (by kernel_rfl) (by kernel_rfl) (fun _ _ _ h => h) (Or.inl ⟨by rfl, ?hy2⟩) (by assumption) ?rest2
    case hy2 => (intro w hSw; (try dsimp only at hSw); go_simp; first | done | with_reducible rfl)
    try simp only [Act.put, List.getElem_toArray, List.getElem_cons_succ, List.getElem_cons_zero, List.setIfInBounds_toArray, List.set_cons_zero, List.set_cons_succ]
    refine wpAnyH_take (i := 2) (v := ?vv3) rfl (by kernel_rfl) (by kernel_rfl) (by kernel_rfl) (fun _ _ _ h => h) (Or.inl ⟨by rfl, ?hy3⟩) (by assumption) ?rest3
    case hy3 => (intro w hSw; (try dsimp only at hSw); go_simp; first | done | with_reducible rfl)
    try simp only [Act.put, List.getElem_toArray, List.getElem_cons_succ, List.getElem_cons_zero, List.setIfInBounds_toArray, List.set_cons_zero, List.set_cons_succ]
    refine wpAnyH_take (i := 3) (v := ?vv4) rfl (by kernel_rfl) (by kernel_rfl) (by kernel_rfl) (fun _ _ _ h => h) (Or.inl ⟨by rfl, ?hy4⟩) (by assumption) ?rest4
    case hy4 => (intro w hSw; (try dsimp only at hSw); go_simp; first | done | with_reducible rfl)
    try simp only [Act.put, List.getElem_toArray, List.getElem_cons_succ, List.getElem_cons_zero, List.setIfInBounds_toArray, List.set_cons_zero, List.set_cons_succ]
    refine wpAnyH_take (i := 4) (v := ?vv5) rfl (by kernel_rfl) (by kernel_rfl) (by kernel_rfl) (fun _ _ _ h => h) (Or.inl ⟨by rfl, ?hy5⟩) (by assumption) ?rest5
    case hy5 => (intro w hSw; (try dsimp only at hSw); go_simp; first | done | with_reducible rfl)
    try simp only [Act.put, List.getElem_toArray, List.getElem_cons_succ, List.getElem_cons_zero, List.setIfInBounds_toArray, List.set_cons_zero, List.set_cons_succ]
    refine wpAnyH_take (i := 5) (v := ?vv6) rfl (by kernel_rfl) (by kernel_rfl) (by kernel_rfl) (fun _ _ _ h => h) (Or.inl ⟨by rfl, ?hy6⟩) (by assumption) ?rest6
    case hy6 => (intro w hSw; (try dsimp only at hSw); go_simp; first | done | with_reducible rfl)
    try simp only [Act.put, List.getElem_toArray, List.getElem_cons_succ, List.getElem_cons_zero, List.setIfInBounds_toArray, List.set_cons_zero, List.set_cons_succ]
    refine wpAnyH_take (i := 6) (v := ?vv7) rfl (by kernel_rfl) (by kernel_rfl) (by kernel_rfl) (fun _ _ _ h => h) (Or.inl ⟨by rfl, ?hy7⟩) (by assumption) ?rest7
    case hy7 => (intro w hSw; (try dsimp only at hSw); go_simp; first | done | with_reducible rfl)
    try simp only [Act.put, List.getElem_toArray, List.getElem_cons_succ, List.getElem_cons_zero, List.setIfInBounds_toArray, List.set_cons_zero, List.set_cons_succ]
    refine wpAnyH_take (i := 7) (v := ?vv8) rfl (by kernel_rfl) (by kernel_rfl) (by kernel_rfl) (fun _ _ _ h => h) (Or.inl ⟨by rfl, ?hy8⟩) (by assumption) ?rest8
    case hy8 => (intro w hSw; (try dsimp only at hSw); go_simp; first | done | with_reducible rfl)
    try simp only [Act.put, List.getElem_toArray, List.getElem_cons_succ, List.getElem_cons_zero, List.setIfInBounds_toArray, List.set_cons_zero, List.set_cons_succ]
    refine wpAnyH_take (i := 8) (v := ?vv9) rfl (by kernel_rfl) (by kernel_rfl) (by kernel_rfl) (fun _ _ _ h => h) (Or.inl ⟨by rfl, ?hy9⟩) (by assumption) ?rest9
    case hy9 => (intro w hSw; (try dsimp only at hSw); go_simp; first | done | with_reducible rfl)
    try simp only [Act.put, List.getElem_toArray, List.getElem_cons_succ, List.getElem_cons_zero, List.setIfInBounds_toArray, List.set_cons_zero, List.set_cons_succ]
    refine wpAnyH_take (i := 9) (v := ?vv10) rfl (by kernel_rfl) (by kernel_rfl) (by kernel_rfl) (fun _ _ _ h => h) (Or.inl ⟨by rfl, ?hy10⟩) (by assumption) ?rest10
    case hy10 => (intro w hSw; (try dsimp only at hSw); go_simp; first | done | with_reducible rfl)
    try simp only [Act.put, List.getElem_toArray, List.getElem_cons_succ, List.getElem_cons_zero, List.setIfInBounds_toArray, List.set_cons_zero, List.set_cons_succ]
    refine wpAnyH_take (i := 10) (v := ?vv11) rfl (by kernel_rfl) (by kernel_rfl) (by kernel_rfl) (fun _ _ _ h => h) (Or.inl ⟨by rfl, ?hy11⟩) (by assumption) ?rest11
    case hy11 => (intro w hSw; (try dsimp only at hSw); go_simp; first | done | with_reducible rfl)
    try simp only [Act.put, List.getElem_toArray, List.getElem_cons_succ, List.getElem_cons_zero, List.setIfInBounds_toArray, List.set_cons_zero, List.set_cons_succ]
    refine wpAnyH_take (i := 11) (v := ?vv12) rfl (by kernel_rfl) (by kernel_rfl) (by kernel_rfl) (fun _ _ _ h => h) (Or.inl ⟨by rfl, ?hy12⟩) (by assumption) ?rest12
    case hy12 => (intro w hSw; (try dsimp only at hSw); go_simp; first | done | with_reducible rfl)
    try simp only [Act.put, List.getElem_toArray, List.getElem_cons_succ, List.getElem_cons_zero, List.setIfInBounds_toArray, List.set_cons_zero, List.set_cons_succ]
    refine wpAnyH_ready (rs := [12]) (by kernel_rfl) (by simp) ?_
    refine AllReadyH.cons rfl (fun K hK => ?_) AllReadyH.nil
    go_simp
    refine hK.out _ _ Z6 (fun hHeld => ?_)
    clear hK K
    try simp only [Act.put, List.getElem_toArray, List.getElem_cons_succ, List.getElem_cons_zero, List.setIfInBounds_toArray, List.set_cons_zero, List.set_cons_succ]
    refine wpAnyH_done (by kernel_rfl) ?_ _
    go_wp2
    go_ret
    exact ⟨rfl, c2, _, _, HGF.out, by first | (rw [List.map_append, HWT.out]; rfl) | (rw [if_pos rfl, List.map_append, HWT.out]; rfl), SF.out⟩
  · have hne : (er != 0) = true := by simp [her]
    have FIN : Hid (LgE w c p d2 B L tm vt lost (l0.map Sv.sg ++ [Sv.sg ⟨yn, yi, yt, yve, yvp, yes, yps⟩]) u2) := ⟨c2, _, _, S5.out.g, by rw [List.map_append]; rfl, S5.out.s⟩
    clear S5 R5 RB
    go_wp2
    go_ret
    first | exact ⟨rfl, FIN.out⟩ | (rw [if_neg her]; exact ⟨rfl, FIN.out⟩)
end Go.Proofs.YtefbioainibmaaaGreatDoor
