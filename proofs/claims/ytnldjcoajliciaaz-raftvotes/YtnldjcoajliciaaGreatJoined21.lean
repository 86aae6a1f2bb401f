/- Joined: A node answers one who stands. A follower takes the message of one who stands. Base, and where its members lie; a voter. The law's own small run: it answers true. -/
import Derived.Test.YtnldjcoajliciaaGreatJoined20
namespace Go.Proofs.YtnldjcoajliciaaGreat
open Go.RowKit Go.Maps
set_option linter.unusedVariables false
set_option linter.unusedSimpArgs false

section
variable {w w1 : World} {B nb : Nat} {n : Nd} {ms : List Int} {es : List En}
/-- whether the node gives its vote -/
def gvU (n : Nd) (es : List En) (m : Ms) : Bool := decide (m.tm = n.tm) && ((decide (n.vt = -1) || decide (n.vt = m.fr)) && utD m.ix m.lt (n.bi + es.length) (ltT n.bt es))
def ndGv (n : Nd) (es : List En) (m : Ms) : Nd := if gvU n es m then ndVo n m.fr else n
theorem mgV_ok {kd fr to_ tm : Int} {ys : Bool} (h0 : 1 ≤ kd) (h1 : kd ≤ 6) (h2 : ndOk fr = true) (h3 : ndOk to_ = true) (h4 : fr ≠ to_) (h5 : 0 ≤ tm) (h6 : tm ≤ 1099511627776) : msOk (mgV kd fr to_ tm ys) = true := by
  have g2 := h2
  have g3 := h3
  unfold ndOk at h2 h3
  simp only [Bool.and_eq_true, decide_eq_true_eq] at h2 h3
  refine (mo_ok (m := mgV kd fr to_ tm ys) h0 h1 g2 g3 h4 (fun k hk => ?_) h5 (by simp [mgV]) (by show ((ByteArray.mk #[]).size : Int) ≤ 4096; decide)).trans rfl
  have : ∀ x ∈ (mgV kd fr to_ tm ys).nm, tmB x = true := by
    intro x hx
    have hx : x ∈ [kd, fr, to_, tm, 0, 0, 0, 0, 0] := hx
    simp only [List.mem_cons, List.not_mem_nil, or_false] at hx
    exact tmB_ok (by rcases hx with e | e | e | e | e | e | e | e | e <;> omega) (by rcases hx with e | e | e | e | e | e | e | e | e <;> omega)
  exact this _ (nm_at _ k hk)
theorem mgE_ents (W : World) : EntI W (.slice none 0 0) [] := .inl ⟨none, 0, rfl, rfl⟩
theorem NdI.low (h : NdI w B nb n ms es) {j : Nat} (hj : NdB nb n j) : j < w.heap.size := by
  rcases hj with e | e | e
  · rw [e]; exact h.lt
  · exact ownsRow_lt h.mi e
  · exact ownsRow_lt h.lo e
theorem NdG.other {n1 : Nd} (h : NdI w B nb n ms es) (g : NdG w B nb n w1 n1 ms es) (hb : n1.bm = n.bm) (hl : n1.lg = n.lg) {a : Nat} (ha : w.heap.size ≤ a) (o : Nat) (v : Value) : NdG w B nb n (w1.setCell ⟨a, o, none⟩ v) n1 ms es := by
  have k := keep_setCell w1 a o v
  refine ⟨⟨g.nd.bx.keep k (fun e => by have := h.lt; omega), g.nd.ge, k.ownsRow g.nd.mi (fun j hj e => ?_), k.ownsRow g.nd.lo (fun j hj e => ?_)⟩, g.kp.then k (fun j hj e => by omega), g.nx⟩
  · rw [hb] at hj; have := ownsRow_lt h.mi hj; omega
  · rw [hl] at hj; have := ownsRow_lt h.lo hj; omega
set_option maxRecDepth 100000 in
set_option maxHeartbeats 8000000 in
theorem ntakeVote_any (h : NdI w B nb n ms es) (hne : ms ≠ []) (hl : es.length ≤ 17592186044416) (hb0 : 0 ≤ n.bi) (hb1 : n.bi ≤ 1099511627776) (v : Value) (m : Ms) (hk1 : ndOk n.me = true) (hk2 : ndOk m.fr = true) (hk3 : n.me ≠ m.fr) (ht0 : 0 ≤ n.tm) (ht1 : n.tm ≤ 1099511627776) :
    Calls Tryz.prog 26 #[.pointer (some ⟨nb, 0, none⟩), msV v m] w fun e w' => ∃ b, e = .returned (.slice (some ⟨b, 0, none⟩) 1 1) ∧ w.heap.size ≤ b ∧ RowIs w' b (msC (.slice none 0 0) (mgV 2 n.me m.fr n.tm (gvU n es m))) 40 ∧ NdG w B nb n w' (ndGv n es m) ms es := by
  have HG : Hid (gvU n es m = (decide (m.tm = n.tm) && ((decide (n.vt = -1) || decide (n.vt = m.fr)) && utD m.ix m.lt (n.bi + es.length) (ltT n.bt es)))) := rfl
  have HN : Hid (ndGv n es m = if gvU n es m then ndVo n m.fr else n) := rfl
  have ME : Hid (∀ W, Below w.heap.size w W → Calls Tryz.prog 47 #[.pointer (some ⟨nb, 0, none⟩), .int .i64 2, .int .i64 m.fr] W fun e w' => e = .returned (.agg #[.int .i64 2, .int .i64 n.me, .int .i64 m.fr, .int .i64 n.tm, .int .i64 0, .int .i64 0, .int .i64 0, .int .i64 0, .int .i64 0, .bool false, .slice none 0 0, .string ⟨#[]⟩]) ∧ Below W.heap.size W w') := fun W b => nmessage_any (h.next b) 2 m.fr
  have UD : Hid (∀ W, Below w.heap.size w W → Calls Tryz.prog 48 #[.pointer (some ⟨nb, 0, none⟩), .int .i64 m.ix, .int .i64 m.lt] W fun e w' => e = .returned (.bool (utD m.ix m.lt (n.bi + es.length) (ltT n.bt es))) ∧ Below W.heap.size W w') := fun W b => nutd_any (h.next b) hne hl hb0 hb1 _ _
  have VO : Hid (∀ W, Below w.heap.size w W → Calls Tryz.prog 49 #[.pointer (some ⟨nb, 0, none⟩), .int .i64 m.fr] W fun e w' => e = .returned (.tuple #[]) ∧ NdG w B nb n w' (ndVo n m.fr) ms es ∧ Keep (NdB nb n) W w') := fun W b => (nvote_any (h.next b) m.fr).mono fun e w' ⟨he, g⟩ => ⟨he, ((NdG.refl h).next b).trans g, g.kp⟩
  have ON : Hid (∀ ys W, Calls Tryz.prog 50 #[.agg #[.int .i64 2, .int .i64 n.me, .int .i64 m.fr, .int .i64 n.tm, .int .i64 0, .int .i64 0, .int .i64 0, .int .i64 0, .int .i64 0, .bool ys, .slice none 0 0, .string ⟨#[]⟩]] W fun e w' => ∃ b, e = .returned (.slice (some ⟨b, 0, none⟩) 1 1) ∧ W.heap.size ≤ b ∧ RowIs w' b (msC (.slice none 0 0) (mgV 2 n.me m.fr n.tm ys)) 40 ∧ Below W.heap.size W w') := fun ys W => only_yes (.slice none 0 0) (mgV 2 n.me m.fr n.tm ys) W (mgE_ents W) (by simp [mgV]) (mgV_ok (by decide) (by decide) hk1 hk2 hk3 ht0 ht1)
  have KN : Hid (∀ {W}, Below w.heap.size w W → W.cell? ⟨nb, 1, none⟩ = some (.int .i64 n.tm) ∧ W.cell? ⟨nb, 2, none⟩ = some (.int .i64 n.vt)) := fun b => ⟨(h.next b).bx.cellAt rfl, (h.next b).bx.cellAt rfl⟩
  have OT : Hid (∀ W a, w.heap.size ≤ a → NdG w B nb n W (ndVo n m.fr) ms es → NdG w B nb n (W.setCell ⟨a, 9, none⟩ (.bool true)) (ndVo n m.fr) ms es) := fun W a ha g => NdG.other h g rfl rfl ha 9 _
  have RK : Hid (∀ W W' a cs t, w.heap.size ≤ a → Keep (NdB nb n) W W' → RowIs W a cs t → RowIs W' a cs t) := fun W W' a cs t ha k r => r.keep k (fun hj => by have := h.low hj; omega)
  have FR : Hid (∀ W, Below w.heap.size w W → NdG w B nb n W n ms es) := fun W b => (NdG.refl h).next b
  have R0 : Hid (RowIs (w.alloc (.cells #[.int .i64 m.kd, .int .i64 m.fr, .int .i64 m.to_, .int .i64 m.tm, .int .i64 m.ix, .int .i64 m.lt, .int .i64 m.cm, .int .i64 m.rd, .int .i64 m.at_, .bool m.ys, v, .string m.da] 40)) w.heap.size [.int .i64 m.kd, .int .i64 m.fr, .int .i64 m.to_, .int .i64 m.tm, .int .i64 m.ix, .int .i64 m.lt, .int .i64 m.cm, .int .i64 m.rd, .int .i64 m.at_, .bool m.ys, v, .string m.da] 40) := srow w _ _
  have B0 : Hid (Below w.heap.size w (w.alloc (.cells #[.int .i64 m.kd, .int .i64 m.fr, .int .i64 m.to_, .int .i64 m.tm, .int .i64 m.ix, .int .i64 m.lt, .int .i64 m.cm, .int .i64 m.rd, .int .i64 m.at_, .bool m.ys, v, .string m.da] 40))) := below_al (Below.refl _ _) _
  clear h hne hl hb0 hb1 hk1 hk2 hk3 ht0 ht1
  generalize utD m.ix m.lt (n.bi + es.length) (ltT n.bt es) = U at *
  generalize gvU n es m = G at *
  generalize ndGv n es m = N2 at *
  unfold msV
  obtain ⟨kd, fr, to_, tm, ix, lt, cm, rd, at_, ys, mes, da⟩ := m
  simp only at *
  generalize ndVo n fr = NV at *
  generalize n.me = me at *
  generalize n.tm = nt at *
  generalize n.vt = vt at *
  have y1 := R0.out.cellAt (o := 1) rfl
  go_enter Tryz.func26, Tryz.ntmps26
  go_wp2_with fail
  refine (ME.out _ B0.out).mono ?_
  rintro e w2 ⟨rfl, b2⟩
  have B2 := hid (below_on B0.out b2)
  have R2 := hid (R0.out.keep (b2.keep (fun _ => False)) (fun h => h))
  clear y1 ME R0 B0 b2
  obtain ⟨X, hX⟩ : ∃ X, X = w2.alloc (.cells #[.int .i64 2, .int .i64 me, .int .i64 fr, .int .i64 nt, .int .i64 0, .int .i64 0, .int .i64 0, .int .i64 0, .int .i64 0, .bool false, .slice none 0 0, .string ⟨#[]⟩] 40) := ⟨_, rfl⟩
  obtain ⟨a, ha⟩ : ∃ a, a = w2.heap.size := ⟨_, rfl⟩
  have AX : Hid (RowIs X a [.int .i64 2, .int .i64 me, .int .i64 fr, .int .i64 nt, .int .i64 0, .int .i64 0, .int .i64 0, .int .i64 0, .int .i64 0, .bool false, .slice none 0 0, .string ⟨#[]⟩] 40) := by rw [hX, ha]; exact srow w2 _ _
  have RX : Hid (RowIs X w.heap.size [.int .i64 kd, .int .i64 fr, .int .i64 to_, .int .i64 tm, .int .i64 ix, .int .i64 lt, .int .i64 cm, .int .i64 rd, .int .i64 at_, .bool ys, v, .string da] 40) := by rw [hX]; exact row_old R2.out _
  have BX : Hid (Below w.heap.size w X) := by rw [hX]; exact below_al B2.out _
  have HA : Hid (w.heap.size ≤ a) := by rw [ha]; exact B2.out.size
  have HX := hid hX
  have HA2 := hid ha
  clear hX ha R2 B2
  go_wp2
  rw [← HX.out, ← HA2.out]
  clear HX HA2
  obtain ⟨c1, c2⟩ := KN.out BX.out
  have y1 := RX.out.cellAt (o := 1) rfl
  have y3 := RX.out.cellAt (o := 3) rfl
  have y4 := RX.out.cellAt (o := 4) rfl
  have y5 := RX.out.cellAt (o := 5) rfl
  by_cases k1 : vt = -1
  case pos =>
    have b1 : (vt == -1) = true := by rw [beq_iff_eq]; exact k1
    have d1 : decide (vt = -1) = true := decide_eq_true k1
    by_cases k3 : tm = nt
    case neg =>
      have b3 : (tm == nt) = false := by rw [beq_eq_false_iff_ne]; exact k3
      have d3 : decide (tm = nt) = false := decide_eq_false k3
      have hG : G = false := by rw [HG.out, d3]; rfl
      clear k3 k1
      have hN : N2 = n := by rw [HN.out, hG]; rfl
      subst hN hG
      clear HG HN UD VO KN OT RK
      go_wp2
      go_quiet (fail)
      revert nq
      intro nq0
      go_wp2
      go_quiet (fail)
      clear c1 c2 y1 y3 y4 y5
      have z0 := AX.out.cellAt (o := 0) rfl
      have z1 := AX.out.cellAt (o := 1) rfl
      have z2 := AX.out.cellAt (o := 2) rfl
      have z3 := AX.out.cellAt (o := 3) rfl
      have z4 := AX.out.cellAt (o := 4) rfl
      have z5 := AX.out.cellAt (o := 5) rfl
      have z6 := AX.out.cellAt (o := 6) rfl
      have z7 := AX.out.cellAt (o := 7) rfl
      have z8 := AX.out.cellAt (o := 8) rfl
      have z9 := AX.out.cellAt (o := 9) rfl
      have z10 := AX.out.cellAt (o := 10) rfl
      have z11 := AX.out.cellAt (o := 11) rfl
      go_wp2_with fail
      refine (ON.out false _).mono ?_
      rintro e w7 ⟨b, rfl, hb, r7, b7⟩
      have FB := hid (below_drewN BX.out (nq0 + nq))
      have F7 := hid ((FR.out _ FB.out).next b7)
      have R7 := hid r7
      have H7 := hid (Nat.le_trans FB.out.size hb)
      clear ON FR FB r7 hb b7 z0 z1 z2 z3 z4 z5 z6 z7 z8 z9 z10 z11
      go_wp2
      go_ret
      exact ⟨_, rfl, H7.out, R7.out, F7.out⟩
    have b3 : (tm == nt) = true := by rw [beq_iff_eq]; exact k3
    have d3 : decide (tm = nt) = true := decide_eq_true k3
    clear k3 k1
    have UDX : Hid (∀ W, Below X.heap.size X W → Calls Tryz.prog 48 #[.pointer (some ⟨nb, 0, none⟩), .int .i64 ix, .int .i64 lt] W fun e w' => e = .returned (.bool U) ∧ Below W.heap.size W w') := fun W b => UD.out W (below_on BX.out b)
    have ZC : Hid (∀ W, Below X.heap.size X W → W.cell? ⟨nb, 1, none⟩ = some (.int .i64 nt) ∧ W.cell? ⟨nb, 2, none⟩ = some (.int .i64 vt) ∧ W.cell? ⟨w.heap.size, 3, none⟩ = some (.int .i64 tm) ∧ W.cell? ⟨w.heap.size, 4, none⟩ = some (.int .i64 ix) ∧ W.cell? ⟨w.heap.size, 5, none⟩ = some (.int .i64 lt)) := fun W b => ⟨(KN.out (below_on BX.out b)).1, (KN.out (below_on BX.out b)).2, (RX.out.keep (b.keep (fun _ => False)) (fun h => h)).cellAt rfl, (RX.out.keep (b.keep (fun _ => False)) (fun h => h)).cellAt rfl, (RX.out.keep (b.keep (fun _ => False)) (fun h => h)).cellAt rfl⟩
    have AZ : Hid (∀ W, Below X.heap.size X W → RowIs W a [.int .i64 2, .int .i64 me, .int .i64 fr, .int .i64 nt, .int .i64 0, .int .i64 0, .int .i64 0, .int .i64 0, .int .i64 0, .bool false, .slice none 0 0, .string ⟨#[]⟩] 40) := fun W b => AX.out.keep (b.keep (fun _ => False)) (fun h => h)
    have RB : Hid (∀ W, Below X.heap.size X W → W.cell? ⟨w.heap.size, 1, none⟩ = some (.int .i64 fr)) := fun W b => (RX.out.keep (b.keep (fun _ => False)) (fun h => h)).cellAt rfl
    clear UD KN RX AX
    go_wp2
    go_quiet (fail)
    clear c1 c2 y1 y3 y4 y5
    have D0 := hid (below_drewN (Below.refl X.heap.size X) nq).drew
    go_wp2
    refine wp_region_held_drew (S := fun W => W.cell? ⟨nb, 1, none⟩ = some (.int .i64 nt) ∧ W.cell? ⟨nb, 2, none⟩ = some (.int .i64 vt) ∧ W.cell? ⟨w.heap.size, 3, none⟩ = some (.int .i64 tm) ∧ W.cell? ⟨w.heap.size, 4, none⟩ = some (.int .i64 ix) ∧ W.cell? ⟨w.heap.size, 5, none⟩ = some (.int .i64 lt)) (by kernel_rfl) (ZC.out _ D0.out) (fun hHeld => ?_)
    refine wpAnyH_take (i := 0) (v := ?vv1) rfl (by kernel_rfl) (by kernel_rfl) (by kernel_rfl) (fun _ _ _ h => h) (Or.inl ⟨by rfl, ?hy1⟩) (by assumption) ?rest1
    case hy1 => (intro w hSw; (try dsimp only at hSw); go_simp; first | done | with_reducible rfl)
    try simp only [Act.put, List.getElem_toArray, List.getElem_cons_succ, List.getElem_cons_zero, List.setIfInBounds_toArray, List.set_cons_zero, List.set_cons_succ]
    refine wpAnyH_take (i := 1) (v := ?vv2) rfl (by kernel_rfl) (by kernel_rfl) (by kernel_rfl) (fun _ _ _ h => h) (Or.inl ⟨by rfl, ?hy2⟩) (by assumption) ?rest2
    case hy2 => (intro w hSw; (try dsimp only at hSw); go_simp; first | done | with_reducible rfl)
    try simp only [Act.put, List.getElem_toArray, List.getElem_cons_succ, List.getElem_cons_zero, List.setIfInBounds_toArray, List.set_cons_zero, List.set_cons_succ]
    refine wpAnyH_take (i := 2) (v := ?vv3) rfl (by kernel_rfl) (by kernel_rfl) (by kernel_rfl) (fun _ _ _ h => h) (Or.inl ⟨by rfl, ?hy3⟩) (by assumption) ?rest3
    case hy3 => (intro w hSw; (try dsimp only at hSw); go_simp; first | done | with_reducible rfl)
    try simp only [Act.put, List.getElem_toArray, List.getElem_cons_succ, List.getElem_cons_zero, List.setIfInBounds_toArray, List.set_cons_zero, List.set_cons_succ]
    refine wpAnyH_take (i := 3) (v := ?vv4) rfl (by kernel_rfl) (by kernel_rfl) (by kernel_rfl) (fun _ _ _ h => h) (Or.inl ⟨by rfl, ?hy4⟩) (by assumption) ?rest4
    case hy4 => (intro w hSw; (try dsimp only at hSw); go_simp; first | done | with_reducible rfl)
    try simp only [Act.put, List.getElem_toArray, List.getElem_cons_succ, List.getElem_cons_zero, List.setIfInBounds_toArray, List.set_cons_zero, List.set_cons_succ]
    refine wpAnyH_take (i := 4) (v := ?vv5) rfl (by kernel_rfl) (by kernel_rfl) (by kernel_rfl) (fun _ _ _ h => h) (Or.inl ⟨by rfl, ?hy5⟩) (by assumption) ?rest5
    case hy5 => (intro w hSw; (try dsimp only at hSw); go_simp; first | done | with_reducible rfl)
    try simp only [Act.put, List.getElem_toArray, List.getElem_cons_succ, List.getElem_cons_zero, List.setIfInBounds_toArray, List.set_cons_zero, List.set_cons_succ]
    refine wpAnyH_take (i := 5) (v := ?vv6) rfl (by kernel_rfl) (by kernel_rfl) (by kernel_rfl) (fun _ _ _ h => h) (Or.inl ⟨by rfl, ?hy6⟩) (by assumption) ?rest6
    case hy6 => (intro w hSw; (try dsimp only at hSw); go_simp; first | done | with_reducible rfl)
    try simp only [Act.put, List.getElem_toArray, List.getElem_cons_succ, List.getElem_cons_zero, List.setIfInBounds_toArray, List.set_cons_zero, List.set_cons_succ]
    refine wpAnyH_take (i := 6) (v := ?vv7) rfl (by kernel_rfl) (by kernel_rfl) (by kernel_rfl) (fun _ _ _ h => h) (Or.inl ⟨by rfl, ?hy7⟩) (by assumption) ?rest7
    case hy7 => (intro w hSw; (try dsimp only at hSw); go_simp; first | done | with_reducible rfl)
    try simp only [Act.put, List.getElem_toArray, List.getElem_cons_succ, List.getElem_cons_zero, List.setIfInBounds_toArray, List.set_cons_zero, List.set_cons_succ]
    refine wpAnyH_take (i := 7) (v := ?vv8) rfl (by kernel_rfl) (by kernel_rfl) (by kernel_rfl) (fun _ _ _ h => h) (Or.inl ⟨by rfl, ?hy8⟩) (by assumption) ?rest8
    case hy8 => (intro w hSw; (try dsimp only at hSw); go_simp; first | done | with_reducible rfl)
    try simp only [Act.put, List.getElem_toArray, List.getElem_cons_succ, List.getElem_cons_zero, List.setIfInBounds_toArray, List.set_cons_zero, List.set_cons_succ]
    refine wpAnyH_take (i := 8) (v := ?vv9) rfl (by kernel_rfl) (by kernel_rfl) (by kernel_rfl) (fun _ _ _ h => h) (Or.inl ⟨by rfl, ?hy9⟩) (by assumption) ?rest9
    case hy9 => (intro w hSw; (try dsimp only at hSw); go_simp; first | done | with_reducible rfl)
    try simp only [Act.put, List.getElem_toArray, List.getElem_cons_succ, List.getElem_cons_zero, List.setIfInBounds_toArray, List.set_cons_zero, List.set_cons_succ]
    refine wpAnyH_take (i := 9) (v := ?vv10) rfl (by kernel_rfl) (by kernel_rfl) (by kernel_rfl) (fun _ _ _ h => h) (Or.inl ⟨by rfl, ?hy10⟩) (by assumption) ?rest10
    case hy10 => (intro w hSw; (try dsimp only at hSw); go_simp; first | done | with_reducible rfl)
    try simp only [Act.put, List.getElem_toArray, List.getElem_cons_succ, List.getElem_cons_zero, List.setIfInBounds_toArray, List.set_cons_zero, List.set_cons_succ]
    refine wpAnyH_take (i := 10) (v := ?vv11) rfl (by kernel_rfl) (by kernel_rfl) (by kernel_rfl) (fun _ _ _ h => h) (Or.inl ⟨by rfl, ?hy11⟩) (by assumption) ?rest11
    case hy11 => (intro w hSw; (try dsimp only at hSw); go_simp; first | done | with_reducible rfl)
    try simp only [Act.put, List.getElem_toArray, List.getElem_cons_succ, List.getElem_cons_zero, List.setIfInBounds_toArray, List.set_cons_zero, List.set_cons_succ]
    refine wpAnyH_take (i := 11) (v := ?vv12) rfl (by kernel_rfl) (by kernel_rfl) (by kernel_rfl) (fun _ _ _ h => h) (Or.inl ⟨by rfl, ?hy12⟩) (by assumption) ?rest12
    case hy12 => (intro w hSw; (try dsimp only at hSw); go_simp; first | done | with_reducible rfl)
    try simp only [Act.put, List.getElem_toArray, List.getElem_cons_succ, List.getElem_cons_zero, List.setIfInBounds_toArray, List.set_cons_zero, List.set_cons_succ]
    refine wpAnyH_take (i := 12) (v := ?vv13) rfl (by kernel_rfl) (by kernel_rfl) (by kernel_rfl) (fun _ _ _ h => h) (Or.inl ⟨by rfl, ?hy13⟩) (by assumption) ?rest13
    case hy13 => (intro w hSw; (try dsimp only at hSw); go_simp; first | done | with_reducible rfl)
    try simp only [Act.put, List.getElem_toArray, List.getElem_cons_succ, List.getElem_cons_zero, List.setIfInBounds_toArray, List.set_cons_zero, List.set_cons_succ]
    refine wpAnyH_take (i := 13) (v := ?vv14) rfl (by kernel_rfl) (by kernel_rfl) (by kernel_rfl) (fun _ _ _ h => h) (Or.inl ⟨by rfl, ?hy14⟩) (by assumption) ?rest14
    case hy14 => (intro w hSw; (try dsimp only at hSw); go_simp; first | done | with_reducible rfl)
    try simp only [Act.put, List.getElem_toArray, List.getElem_cons_succ, List.getElem_cons_zero, List.setIfInBounds_toArray, List.set_cons_zero, List.set_cons_succ]
    refine wpAnyH_take (i := 14) (v := ?vv15) rfl (by kernel_rfl) (by kernel_rfl) (by kernel_rfl) (fun _ _ _ h => h) (Or.inl ⟨by rfl, ?hy15⟩) (by assumption) ?rest15
    case hy15 => (intro w hSw; (try dsimp only at hSw); go_simp; first | done | with_reducible rfl)
    try simp only [Act.put, List.getElem_toArray, List.getElem_cons_succ, List.getElem_cons_zero, List.setIfInBounds_toArray, List.set_cons_zero, List.set_cons_succ]
    refine wpAnyH_take (i := 15) (v := ?vv16) rfl (by kernel_rfl) (by kernel_rfl) (by kernel_rfl) (fun _ _ _ h => h) (Or.inl ⟨by rfl, ?hy16⟩) (by assumption) ?rest16
    case hy16 => (intro w hSw; (try dsimp only at hSw); go_simp; first | done | with_reducible rfl)
    try simp only [Act.put, List.getElem_toArray, List.getElem_cons_succ, List.getElem_cons_zero, List.setIfInBounds_toArray, List.set_cons_zero, List.set_cons_succ]
    refine wpAnyH_ready (rs := [16]) (by kernel_rfl) (by simp) ?_
    refine AllReadyH.cons rfl (fun K hK => ?_) AllReadyH.nil
    go_simp
    refine (UDX.out _ D0.out).mono ?_
    rintro e wq1 ⟨rfl, bq⟩
    have BQ1 := hid (below_on D0.out bq)
    clear bq hHeld
    go_wp2_with fail
    refine hK.out _ _ (ZC.out _ BQ1.out) (fun hHeld => ?_)
    clear hK K
    try simp only [Act.put, List.getElem_toArray, List.getElem_cons_succ, List.getElem_cons_zero, List.setIfInBounds_toArray, List.set_cons_zero, List.set_cons_succ]
    refine wpAnyH_take (i := 17) (v := ?vv17) rfl (by kernel_rfl) (by kernel_rfl) (by kernel_rfl) (fun _ _ _ h => h) (Or.inl ⟨by rfl, ?hy17⟩) (by assumption) ?rest17
    case hy17 => (intro w hSw; (try dsimp only at hSw); go_simp; first | done | with_reducible rfl)
    try simp only [Act.put, List.getElem_toArray, List.getElem_cons_succ, List.getElem_cons_zero, List.setIfInBounds_toArray, List.set_cons_zero, List.set_cons_succ]
    refine wpAnyH_done (by kernel_rfl) ?_ _
    have BW := hid (below_on BX.out BQ1.out)
    have A5 := hid (AZ.out _ BQ1.out)
    have x1 := RB.out _ BQ1.out
    clear RB AZ ZC UDX D0 hHeld BX BQ1
    cases U
    case false =>
      have hG : G = false := by rw [HG.out, d3, d1]; simp
      have hN : N2 = n := by rw [HN.out, hG]; rfl
      subst hN hG
      clear HG HN VO OT RK x1
      have z0 := A5.out.cellAt (o := 0) rfl
      have z1 := A5.out.cellAt (o := 1) rfl
      have z2 := A5.out.cellAt (o := 2) rfl
      have z3 := A5.out.cellAt (o := 3) rfl
      have z4 := A5.out.cellAt (o := 4) rfl
      have z5 := A5.out.cellAt (o := 5) rfl
      have z6 := A5.out.cellAt (o := 6) rfl
      have z7 := A5.out.cellAt (o := 7) rfl
      have z8 := A5.out.cellAt (o := 8) rfl
      have z9 := A5.out.cellAt (o := 9) rfl
      have z10 := A5.out.cellAt (o := 10) rfl
      have z11 := A5.out.cellAt (o := 11) rfl
      go_wp2_with fail
      refine (ON.out false _).mono ?_
      rintro e w7 ⟨b, rfl, hb, r7, b7⟩
      have F7 := hid ((FR.out _ BW.out).next b7)
      have R7 := hid r7
      have H7 := hid (Nat.le_trans BW.out.size hb)
      clear ON FR BW r7 hb b7 A5 z0 z1 z2 z3 z4 z5 z6 z7 z8 z9 z10 z11
      go_wp2
      go_ret
      exact ⟨_, rfl, H7.out, R7.out, F7.out⟩
    case true =>
      have hG : G = true := by rw [HG.out, d3, d1]; simp
      have hN : N2 = NV := by rw [HN.out, hG]; rfl
      subst hN hG
      clear HG HN FR
      go_wp2_with fail
      refine (VO.out _ BW.out).mono ?_
      rintro e w6 ⟨rfl, g6, k6⟩
      have A6 := hid (RK.out _ _ _ _ _ HA.out k6 A5.out)
      have O6 := hid (OT.out _ _ HA.out g6)
      have HS6 := hid (Nat.le_trans BW.out.size k6.size)
      clear VO RK OT g6 k6 A5 BW x1
      have z0 := A6.out.cellAt (o := 0) rfl
      have z1 := A6.out.cellAt (o := 1) rfl
      have z2 := A6.out.cellAt (o := 2) rfl
      have z3 := A6.out.cellAt (o := 3) rfl
      have z4 := A6.out.cellAt (o := 4) rfl
      have z5 := A6.out.cellAt (o := 5) rfl
      have z6 := A6.out.cellAt (o := 6) rfl
      have z7 := A6.out.cellAt (o := 7) rfl
      have z8 := A6.out.cellAt (o := 8) rfl
      have z9 := A6.out.cellAt (o := 9) rfl
      have z10 := A6.out.cellAt (o := 10) rfl
      have z11 := A6.out.cellAt (o := 11) rfl
      have f9 := A6.out.frozen (o := 9)
      go_wp2_with fail
      refine (ON.out true _).mono ?_
      rintro e w7 ⟨b, rfl, hb, r7, b7⟩
      have F7 := hid (O6.out.next b7)
      have R7 := hid r7
      have H7 := hid (Nat.le_trans HS6.out (Nat.le_trans (by simp [World.setCell]) hb))
      clear ON O6 HS6 A6 r7 hb b7 f9 z0 z1 z2 z3 z4 z5 z6 z7 z8 z9 z10 z11
      go_wp2
      go_ret
      exact ⟨_, rfl, H7.out, R7.out, F7.out⟩
  have b1 : (vt == -1) = false := by rw [beq_eq_false_iff_ne]; exact k1
  have d1 : decide (vt = -1) = false := decide_eq_false k1
  by_cases k2 : vt = fr
  case pos =>
    have b2 : (vt == fr) = true := by rw [beq_iff_eq]; exact k2
    have d2 : decide (vt = fr) = true := decide_eq_true k2
    by_cases k3 : tm = nt
    case neg =>
      have b3 : (tm == nt) = false := by rw [beq_eq_false_iff_ne]; exact k3
      have d3 : decide (tm = nt) = false := decide_eq_false k3
      have hG : G = false := by rw [HG.out, d3]; rfl
      clear k3 k1 k2
      have hN : N2 = n := by rw [HN.out, hG]; rfl
      subst hN hG
      clear HG HN UD VO KN OT RK
      go_wp2
      go_quiet (fail)
      revert nq
      intro nq0
      go_wp2
      go_quiet (fail)
      clear c1 c2 y1 y3 y4 y5
      have z0 := AX.out.cellAt (o := 0) rfl
      have z1 := AX.out.cellAt (o := 1) rfl
      have z2 := AX.out.cellAt (o := 2) rfl
      have z3 := AX.out.cellAt (o := 3) rfl
      have z4 := AX.out.cellAt (o := 4) rfl
      have z5 := AX.out.cellAt (o := 5) rfl
      have z6 := AX.out.cellAt (o := 6) rfl
      have z7 := AX.out.cellAt (o := 7) rfl
      have z8 := AX.out.cellAt (o := 8) rfl
      have z9 := AX.out.cellAt (o := 9) rfl
      have z10 := AX.out.cellAt (o := 10) rfl
      have z11 := AX.out.cellAt (o := 11) rfl
      go_wp2_with fail
      refine (ON.out false _).mono ?_
      rintro e w7 ⟨b, rfl, hb, r7, b7⟩
      have FB := hid (below_drewN BX.out (nq0 + nq))
      have F7 := hid ((FR.out _ FB.out).next b7)
      have R7 := hid r7
      have H7 := hid (Nat.le_trans FB.out.size hb)
      clear ON FR FB r7 hb b7 z0 z1 z2 z3 z4 z5 z6 z7 z8 z9 z10 z11
      go_wp2
      go_ret
      exact ⟨_, rfl, H7.out, R7.out, F7.out⟩
    have b3 : (tm == nt) = true := by rw [beq_iff_eq]; exact k3
    have d3 : decide (tm = nt) = true := decide_eq_true k3
    clear k3 k1 k2
    have UDX : Hid (∀ W, Below X.heap.size X W → Calls Tryz.prog 48 #[.pointer (some ⟨nb, 0, none⟩), .int .i64 ix, .int .i64 lt] W fun e w' => e = .returned (.bool U) ∧ Below W.heap.size W w') := fun W b => UD.out W (below_on BX.out b)
    have ZC : Hid (∀ W, Below X.heap.size X W → W.cell? ⟨nb, 1, none⟩ = some (.int .i64 nt) ∧ W.cell? ⟨nb, 2, none⟩ = some (.int .i64 vt) ∧ W.cell? ⟨w.heap.size, 3, none⟩ = some (.int .i64 tm) ∧ W.cell? ⟨w.heap.size, 4, none⟩ = some (.int .i64 ix) ∧ W.cell? ⟨w.heap.size, 5, none⟩ = some (.int .i64 lt)) := fun W b => ⟨(KN.out (below_on BX.out b)).1, (KN.out (below_on BX.out b)).2, (RX.out.keep (b.keep (fun _ => False)) (fun h => h)).cellAt rfl, (RX.out.keep (b.keep (fun _ => False)) (fun h => h)).cellAt rfl, (RX.out.keep (b.keep (fun _ => False)) (fun h => h)).cellAt rfl⟩
    have AZ : Hid (∀ W, Below X.heap.size X W → RowIs W a [.int .i64 2, .int .i64 me, .int .i64 fr, .int .i64 nt, .int .i64 0, .int .i64 0, .int .i64 0, .int .i64 0, .int .i64 0, .bool false, .slice none 0 0, .string ⟨#[]⟩] 40) := fun W b => AX.out.keep (b.keep (fun _ => False)) (fun h => h)
    have RB : Hid (∀ W, Below X.heap.size X W → W.cell? ⟨w.heap.size, 1, none⟩ = some (.int .i64 fr)) := fun W b => (RX.out.keep (b.keep (fun _ => False)) (fun h => h)).cellAt rfl
    clear UD KN RX AX
    go_wp2
    go_quiet (fail)
    clear c1 c2 y1 y3 y4 y5
    have D0 := hid (below_drewN (Below.refl X.heap.size X) nq).drew
    go_wp2
    refine wp_region_held_drew (S := fun W => W.cell? ⟨nb, 1, none⟩ = some (.int .i64 nt) ∧ W.cell? ⟨nb, 2, none⟩ = some (.int .i64 vt) ∧ W.cell? ⟨w.heap.size, 3, none⟩ = some (.int .i64 tm) ∧ W.cell? ⟨w.heap.size, 4, none⟩ = some (.int .i64 ix) ∧ W.cell? ⟨w.heap.size, 5, none⟩ = some (.int .i64 lt)) (by kernel_rfl) (ZC.out _ D0.out) (fun hHeld => ?_)
    refine wpAnyH_take (i := 0) (v := ?vv18) rfl (by kernel_rfl) (by kernel_rfl) (by kernel_rfl) (fun _ _ _ h => h) (Or.inl ⟨by rfl, ?hy18⟩) (by assumption) ?rest18
    case hy18 => (intro w hSw; (try dsimp only at hSw); go_simp; first | done | with_reducible rfl)
    try simp only [Act.put, List.getElem_toArray, List.getElem_cons_succ, List.getElem_cons_zero, List.setIfInBounds_toArray, List.set_cons_zero, List.set_cons_succ]
    refine wpAnyH_take (i := 1) (v := ?vv19) rfl (by kernel_rfl) (by kernel_rfl) (by kernel_rfl) (fun _ _ _ h => h) (Or.inl ⟨by rfl, ?hy19⟩) (by assumption) ?rest19
    case hy19 => (intro w hSw; (try dsimp only at hSw); go_simp; first | done | with_reducible rfl)
    try simp only [Act.put, List.getElem_toArray, List.getElem_cons_succ, List.getElem_cons_zero, List.setIfInBounds_toArray, List.set_cons_zero, List.set_cons_succ]
    refine wpAnyH_take (i := 2) (v := ?vv20) rfl (by kernel_rfl) (by kernel_rfl) (by kernel_rfl) (fun _ _ _ h => h) (Or.inl ⟨by rfl, ?hy20⟩) (by assumption) ?rest20
    case hy20 => (intro w hSw; (try dsimp only at hSw); go_simp; first | done | with_reducible rfl)
    try simp only [Act.put, List.getElem_toArray, List.getElem_cons_succ, List.getElem_cons_zero, List.setIfInBounds_toArray, List.set_cons_zero, List.set_cons_succ]
    refine wpAnyH_take (i := 3) (v := ?vv21) rfl (by kernel_rfl) (by kernel_rfl) (by kernel_rfl) (fun _ _ _ h => h) (Or.inl ⟨by rfl, ?hy21⟩) (by assumption) ?rest21
    case hy21 => (intro w hSw; (try dsimp only at hSw); go_simp; first | done | with_reducible rfl)
    try simp only [Act.put, List.getElem_toArray, List.getElem_cons_succ, List.getElem_cons_zero, List.setIfInBounds_toArray, List.set_cons_zero, List.set_cons_succ]
    refine wpAnyH_take (i := 4) (v := ?vv22) rfl (by kernel_rfl) (by kernel_rfl) (by kernel_rfl) (fun _ _ _ h => h) (Or.inl ⟨by rfl, ?hy22⟩) (by assumption) ?rest22
    case hy22 => (intro w hSw; (try dsimp only at hSw); go_simp; first | done | with_reducible rfl)
    try simp only [Act.put, List.getElem_toArray, List.getElem_cons_succ, List.getElem_cons_zero, List.setIfInBounds_toArray, List.set_cons_zero, List.set_cons_succ]
    refine wpAnyH_take (i := 5) (v := ?vv23) rfl (by kernel_rfl) (by kernel_rfl) (by kernel_rfl) (fun _ _ _ h => h) (Or.inl ⟨by rfl, ?hy23⟩) (by assumption) ?rest23
    case hy23 => (intro w hSw; (try dsimp only at hSw); go_simp; first | done | with_reducible rfl)
    try simp only [Act.put, List.getElem_toArray, List.getElem_cons_succ, List.getElem_cons_zero, List.setIfInBounds_toArray, List.set_cons_zero, List.set_cons_succ]
    refine wpAnyH_take (i := 6) (v := ?vv24) rfl (by kernel_rfl) (by kernel_rfl) (by kernel_rfl) (fun _ _ _ h => h) (Or.inl ⟨by rfl, ?hy24⟩) (by assumption) ?rest24
    case hy24 => (intro w hSw; (try dsimp only at hSw); go_simp; first | done | with_reducible rfl)
    try simp only [Act.put, List.getElem_toArray, List.getElem_cons_succ, List.getElem_cons_zero, List.setIfInBounds_toArray, List.set_cons_zero, List.set_cons_succ]
    refine wpAnyH_take (i := 7) (v := ?vv25) rfl (by kernel_rfl) (by kernel_rfl) (by kernel_rfl) (fun _ _ _ h => h) (Or.inl ⟨by rfl, ?hy25⟩) (by assumption) ?rest25
    case hy25 => (intro w hSw; (try dsimp only at hSw); go_simp; first | done | with_reducible rfl)
    try simp only [Act.put, List.getElem_toArray, List.getElem_cons_succ, List.getElem_cons_zero, List.setIfInBounds_toArray, List.set_cons_zero, List.set_cons_succ]
    refine wpAnyH_take (i := 8) (v := ?vv26) rfl (by kernel_rfl) (by kernel_rfl) (by kernel_rfl) (fun _ _ _ h => h) (Or.inl ⟨by rfl, ?hy26⟩) (by assumption) ?rest26
    case hy26 => (intro w hSw; (try dsimp only at hSw); go_simp; first | done | with_reducible rfl)
    try simp only [Act.put, List.getElem_toArray, List.getElem_cons_succ, List.getElem_cons_zero, List.setIfInBounds_toArray, List.set_cons_zero, List.set_cons_succ]
    refine wpAnyH_take (i := 9) (v := ?vv27) rfl (by kernel_rfl) (by kernel_rfl) (by kernel_rfl) (fun _ _ _ h => h) (Or.inl ⟨by rfl, ?hy27⟩) (by assumption) ?rest27
    case hy27 => (intro w hSw; (try dsimp only at hSw); go_simp; first | done | with_reducible rfl)
    try simp only [Act.put, List.getElem_toArray, List.getElem_cons_succ, List.getElem_cons_zero, List.setIfInBounds_toArray, List.set_cons_zero, List.set_cons_succ]
    refine wpAnyH_take (i := 10) (v := ?vv28) rfl (by kernel_rfl) (by kernel_rfl) (by kernel_rfl) (fun _ _ _ h => h) (Or.inl ⟨by rfl, ?hy28⟩) (by assumption) ?rest28
    case hy28 => (intro w hSw; (try dsimp only at hSw); go_simp; first | done | with_reducible rfl)
    try simp only [Act.put, List.getElem_toArray, List.getElem_cons_succ, List.getElem_cons_zero, List.setIfInBounds_toArray, List.set_cons_zero, List.set_cons_succ]
    refine wpAnyH_take (i := 11) (v := ?vv29) rfl (by kernel_rfl) (by kernel_rfl) (by kernel_rfl) (fun _ _ _ h => h) (Or.inl ⟨by rfl, ?hy29⟩) (by assumption) ?rest29
    case hy29 => (intro w hSw; (try dsimp only at hSw); go_simp; first | done | with_reducible rfl)
    try simp only [Act.put, List.getElem_toArray, List.getElem_cons_succ, List.getElem_cons_zero, List.setIfInBounds_toArray, List.set_cons_zero, List.set_cons_succ]
    refine wpAnyH_take (i := 12) (v := ?vv30) rfl (by kernel_rfl) (by kernel_rfl) (by kernel_rfl) (fun _ _ _ h => h) (Or.inl ⟨by rfl, ?hy30⟩) (by assumption) ?rest30
    case hy30 => (intro w hSw; (try dsimp only at hSw); go_simp; first | done | with_reducible rfl)
    try simp only [Act.put, List.getElem_toArray, List.getElem_cons_succ, List.getElem_cons_zero, List.setIfInBounds_toArray, List.set_cons_zero, List.set_cons_succ]
    refine wpAnyH_take (i := 13) (v := ?vv31) rfl (by kernel_rfl) (by kernel_rfl) (by kernel_rfl) (fun _ _ _ h => h) (Or.inl ⟨by rfl, ?hy31⟩) (by assumption) ?rest31
    case hy31 => (intro w hSw; (try dsimp only at hSw); go_simp; first | done | with_reducible rfl)
    try simp only [Act.put, List.getElem_toArray, List.getElem_cons_succ, List.getElem_cons_zero, List.setIfInBounds_toArray, List.set_cons_zero, List.set_cons_succ]
    refine wpAnyH_take (i := 14) (v := ?vv32) rfl (by kernel_rfl) (by kernel_rfl) (by kernel_rfl) (fun _ _ _ h => h) (Or.inl ⟨by rfl, ?hy32⟩) (by assumption) ?rest32
    case hy32 => (intro w hSw; (try dsimp only at hSw); go_simp; first | done | with_reducible rfl)
    try simp only [Act.put, List.getElem_toArray, List.getElem_cons_succ, List.getElem_cons_zero, List.setIfInBounds_toArray, List.set_cons_zero, List.set_cons_succ]
    refine wpAnyH_take (i := 15) (v := ?vv33) rfl (by kernel_rfl) (by kernel_rfl) (by kernel_rfl) (fun _ _ _ h => h) (Or.inl ⟨by rfl, ?hy33⟩) (by assumption) ?rest33
    case hy33 => (intro w hSw; (try dsimp only at hSw); go_simp; first | done | with_reducible rfl)
    try simp only [Act.put, List.getElem_toArray, List.getElem_cons_succ, List.getElem_cons_zero, List.setIfInBounds_toArray, List.set_cons_zero, List.set_cons_succ]
    refine wpAnyH_ready (rs := [16]) (by kernel_rfl) (by simp) ?_
    refine AllReadyH.cons rfl (fun K hK => ?_) AllReadyH.nil
    go_simp
    refine (UDX.out _ D0.out).mono ?_
    rintro e wq2 ⟨rfl, bq⟩
    have BQ2 := hid (below_on D0.out bq)
    clear bq hHeld
    go_wp2_with fail
    refine hK.out _ _ (ZC.out _ BQ2.out) (fun hHeld => ?_)
    clear hK K
    try simp only [Act.put, List.getElem_toArray, List.getElem_cons_succ, List.getElem_cons_zero, List.setIfInBounds_toArray, List.set_cons_zero, List.set_cons_succ]
    refine wpAnyH_take (i := 17) (v := ?vv34) rfl (by kernel_rfl) (by kernel_rfl) (by kernel_rfl) (fun _ _ _ h => h) (Or.inl ⟨by rfl, ?hy34⟩) (by assumption) ?rest34
    case hy34 => (intro w hSw; (try dsimp only at hSw); go_simp; first | done | with_reducible rfl)
    try simp only [Act.put, List.getElem_toArray, List.getElem_cons_succ, List.getElem_cons_zero, List.setIfInBounds_toArray, List.set_cons_zero, List.set_cons_succ]
    refine wpAnyH_done (by kernel_rfl) ?_ _
    have BW := hid (below_on BX.out BQ2.out)
    have A5 := hid (AZ.out _ BQ2.out)
    have x1 := RB.out _ BQ2.out
    clear RB AZ ZC UDX D0 hHeld BX BQ2
    cases U
    case false =>
      have hG : G = false := by rw [HG.out, d3, d1, d2]; rfl
      have hN : N2 = n := by rw [HN.out, hG]; rfl
      subst hN hG
      clear HG HN VO OT RK x1
      have z0 := A5.out.cellAt (o := 0) rfl
      have z1 := A5.out.cellAt (o := 1) rfl
      have z2 := A5.out.cellAt (o := 2) rfl
      have z3 := A5.out.cellAt (o := 3) rfl
      have z4 := A5.out.cellAt (o := 4) rfl
      have z5 := A5.out.cellAt (o := 5) rfl
      have z6 := A5.out.cellAt (o := 6) rfl
      have z7 := A5.out.cellAt (o := 7) rfl
      have z8 := A5.out.cellAt (o := 8) rfl
      have z9 := A5.out.cellAt (o := 9) rfl
      have z10 := A5.out.cellAt (o := 10) rfl
      have z11 := A5.out.cellAt (o := 11) rfl
      go_wp2_with fail
      refine (ON.out false _).mono ?_
      rintro e w7 ⟨b, rfl, hb, r7, b7⟩
      have F7 := hid ((FR.out _ BW.out).next b7)
      have R7 := hid r7
      have H7 := hid (Nat.le_trans BW.out.size hb)
      clear ON FR BW r7 hb b7 A5 z0 z1 z2 z3 z4 z5 z6 z7 z8 z9 z10 z11
      go_wp2
      go_ret
      exact ⟨_, rfl, H7.out, R7.out, F7.out⟩
    case true =>
      have hG : G = true := by rw [HG.out, d3, d1, d2]; rfl
      have hN : N2 = NV := by rw [HN.out, hG]; rfl
      subst hN hG
      clear HG HN FR
      go_wp2_with fail
      refine (VO.out _ BW.out).mono ?_
      rintro e w6 ⟨rfl, g6, k6⟩
      have A6 := hid (RK.out _ _ _ _ _ HA.out k6 A5.out)
      have O6 := hid (OT.out _ _ HA.out g6)
      have HS6 := hid (Nat.le_trans BW.out.size k6.size)
      clear VO RK OT g6 k6 A5 BW x1
      have z0 := A6.out.cellAt (o := 0) rfl
      have z1 := A6.out.cellAt (o := 1) rfl
      have z2 := A6.out.cellAt (o := 2) rfl
      have z3 := A6.out.cellAt (o := 3) rfl
      have z4 := A6.out.cellAt (o := 4) rfl
      have z5 := A6.out.cellAt (o := 5) rfl
      have z6 := A6.out.cellAt (o := 6) rfl
      have z7 := A6.out.cellAt (o := 7) rfl
      have z8 := A6.out.cellAt (o := 8) rfl
      have z9 := A6.out.cellAt (o := 9) rfl
      have z10 := A6.out.cellAt (o := 10) rfl
      have z11 := A6.out.cellAt (o := 11) rfl
      have f9 := A6.out.frozen (o := 9)
      go_wp2_with fail
      refine (ON.out true _).mono ?_
      rintro e w7 ⟨b, rfl, hb, r7, b7⟩
      have F7 := hid (O6.out.next b7)
      have R7 := hid r7
      have H7 := hid (Nat.le_trans HS6.out (Nat.le_trans (by simp [World.setCell]) hb))
      clear ON O6 HS6 A6 r7 hb b7 f9 z0 z1 z2 z3 z4 z5 z6 z7 z8 z9 z10 z11
      go_wp2
      go_ret
      exact ⟨_, rfl, H7.out, R7.out, F7.out⟩
  have b2 : (vt == fr) = false := by rw [beq_eq_false_iff_ne]; exact k2
  have d2 : decide (vt = fr) = false := decide_eq_false k2
  by_cases k3 : tm = nt
  case neg =>
    have b3 : (tm == nt) = false := by rw [beq_eq_false_iff_ne]; exact k3
    have d3 : decide (tm = nt) = false := decide_eq_false k3
    have hG : G = false := by rw [HG.out, d3]; rfl
    clear k3 k1 k2
    have hN : N2 = n := by rw [HN.out, hG]; rfl
    subst hN hG
    clear HG HN UD VO KN OT RK
    go_wp2
    go_quiet (fail)
    revert nq
    intro nq0
    go_wp2
    go_quiet (fail)
    clear c1 c2 y1 y3 y4 y5
    have z0 := AX.out.cellAt (o := 0) rfl
    have z1 := AX.out.cellAt (o := 1) rfl
    have z2 := AX.out.cellAt (o := 2) rfl
    have z3 := AX.out.cellAt (o := 3) rfl
    have z4 := AX.out.cellAt (o := 4) rfl
    have z5 := AX.out.cellAt (o := 5) rfl
    have z6 := AX.out.cellAt (o := 6) rfl
    have z7 := AX.out.cellAt (o := 7) rfl
    have z8 := AX.out.cellAt (o := 8) rfl
    have z9 := AX.out.cellAt (o := 9) rfl
    have z10 := AX.out.cellAt (o := 10) rfl
    have z11 := AX.out.cellAt (o := 11) rfl
    go_wp2_with fail
    refine (ON.out false _).mono ?_
    rintro e w7 ⟨b, rfl, hb, r7, b7⟩
    have FB := hid (below_drewN BX.out (nq0 + nq))
    have F7 := hid ((FR.out _ FB.out).next b7)
    have R7 := hid r7
    have H7 := hid (Nat.le_trans FB.out.size hb)
    clear ON FR FB r7 hb b7 z0 z1 z2 z3 z4 z5 z6 z7 z8 z9 z10 z11
    go_wp2
    go_ret
    exact ⟨_, rfl, H7.out, R7.out, F7.out⟩
  have b3 : (tm == nt) = true := by rw [beq_iff_eq]; exact k3
  have d3 : decide (tm = nt) = true := decide_eq_true k3
  have hG : G = false := by rw [HG.out, d3, d1, d2]; rfl
  clear k3 k1 k2
  have hN : N2 = n := by rw [HN.out, hG]; rfl
  subst hN hG
  clear HG HN UD VO KN OT RK
  go_wp2
  go_quiet (fail)
  revert nq
  intro nq0
  go_wp2
  go_quiet (fail)
  clear c1 c2 y1 y3 y4 y5
  have z0 := AX.out.cellAt (o := 0) rfl
  have z1 := AX.out.cellAt (o := 1) rfl
  have z2 := AX.out.cellAt (o := 2) rfl
  have z3 := AX.out.cellAt (o := 3) rfl
  have z4 := AX.out.cellAt (o := 4) rfl
  have z5 := AX.out.cellAt (o := 5) rfl
  have z6 := AX.out.cellAt (o := 6) rfl
  have z7 := AX.out.cellAt (o := 7) rfl
  have z8 := AX.out.cellAt (o := 8) rfl
  have z9 := AX.out.cellAt (o := 9) rfl
  have z10 := AX.out.cellAt (o := 10) rfl
  have z11 := AX.out.cellAt (o := 11) rfl
  go_wp2_with fail
  refine (ON.out false _).mono ?_
  rintro e w7 ⟨b, rfl, hb, r7, b7⟩
  have FB := hid (below_drewN BX.out (nq0 + nq))
  have F7 := hid ((FR.out _ FB.out).next b7)
  have R7 := hid r7
  have H7 := hid (Nat.le_trans FB.out.size hb)
  clear ON FR FB r7 hb b7 z0 z1 z2 z3 z4 z5 z6 z7 z8 z9 z10 z11
  go_wp2
  go_ret
  exact ⟨_, rfl, H7.out, R7.out, F7.out⟩
end
end Go.Proofs.YtnldjcoajliciaaGreat
namespace Go.Proofs.YtnldjcoajliciaaGreat
open Go.RowKit Go.Maps
set_option linter.unusedVariables false
set_option linter.unusedSimpArgs false

section
variable {w w1 : World} {B nb : Nat} {n : Nd} {ms : List Int} {es : List En}
theorem ndRi_me (n : Nd) (t : Int) : (ndRi n t).me = n.me := by unfold ndRi ndFo; split <;> rfl
theorem ndRi_tm (n : Nd) (t : Int) : (ndRi n t).tm = t := by unfold ndRi ndFo; split <;> rfl
theorem ndRi_bi (n : Nd) (t : Int) : (ndRi n t).bi = n.bi := by unfold ndRi ndFo; split <;> rfl
theorem mo_all {m : Ms} (h : msOk m = true) : ndOk m.fr = true ∧ ndOk m.to_ = true ∧ m.fr ≠ m.to_ ∧ 0 ≤ m.tm ∧ m.tm ≤ 1099511627776 := by
  refine ⟨?_, ?_, fun e => ?_, ?_, ?_⟩
  · cases e : ndOk m.fr
    · rw [mo_fr e] at h; cases h
    · rfl
  · cases e : ndOk m.to_
    · rw [mo_to e] at h; cases h
    · rfl
  · rw [mo_eq e] at h; cases h
  · refine Decidable.byContradiction fun e => ?_
    rw [mo_nm 3 (by omega) (tmB_neg (show m.tm < 0 by omega))] at h; cases h
  · refine Decidable.byContradiction fun e => ?_
    rw [mo_nm 3 (by omega) (tmB_big (show m.tm > 1099511627776 by omega))] at h; cases h
set_option maxRecDepth 100000 in
set_option maxHeartbeats 8000000 in
theorem nstep_stay (h : NdI w B nb n ms es) (hne : ms ≠ []) (hl : es.length ≤ 17592186044416) (hb0 : 0 ≤ n.bi) (hb1 : n.bi ≤ 1099511627776) (v : Value) (m : Ms) (hv : EntI w v m.es) (hes : m.es.length ≤ 17592186044416) (ho : msOk m = true) (hto : m.to_ = n.me) (hkd : m.kd = 1) (hrl : n.rl = 0) (hdf : n.df ≤ 0) (ht0 : 0 ≤ n.tm) (ht1 : n.tm ≤ 1099511627776) (hup : m.tm ≤ n.tm) :
    Calls Tryz.prog 8 #[.pointer (some ⟨nb, 0, none⟩), msV v m] w fun e w' => ∃ b, e = .returned (.slice (some ⟨b, 0, none⟩) 1 1) ∧ w.heap.size ≤ b ∧ RowIs w' b (msC (.slice none 0 0) (mgV 2 n.me m.fr n.tm (gvU n es m))) 40 ∧ NdG w B nb n w' (ndGv n es m) ms es := by
  obtain ⟨hk2, hk1, hk3, hm0, hm1⟩ := mo_all ho
  rw [hto] at hk1 hk3
  have IN : Hid (∀ W, Below w.heap.size w W → Calls Tryz.prog 24 #[.pointer (some ⟨nb, 0, none⟩)] W fun e w' => e = .returned (.bool false) ∧ Below W.heap.size W w') := fun W b => (nisNone_any (h.next b) hne).mono fun e w' ⟨he, hw⟩ => ⟨he, by rw [hw]; exact Below.refl _ _⟩
  have CK : Hid (∀ W, Below w.heap.size w W → Calls Tryz.prog 14 #[msV v m] W fun e w' => e = .returned (.bool true) ∧ Below W.heap.size W w') := fun W b => by rw [← ho]; exact mcheck_any v m W (hv.next b) hes
  have TV : Hid (∀ W, Below w.heap.size w W → Calls Tryz.prog 26 #[.pointer (some ⟨nb, 0, none⟩), msV v m] W fun e w' => ∃ b, e = .returned (.slice (some ⟨b, 0, none⟩) 1 1) ∧ w.heap.size ≤ b ∧ RowIs w' b (msC (.slice none 0 0) (mgV 2 n.me m.fr n.tm (gvU n es m))) 40 ∧ NdG w B nb n w' (ndGv n es m) ms es) := fun W b => (ntakeVote_any (h.next b) hne hl hb0 hb1 v m hk1 hk2 hk3.symm ht0 ht1).mono fun e w' ⟨c, he, hb, hr, hg⟩ => ⟨c, he, Nat.le_trans b.size hb, hr, ((NdG.refl h).next b).trans hg⟩
  have KN : Hid (∀ {W}, Below w.heap.size w W → W.cell? ⟨nb, 0, none⟩ = some (.int .i64 n.me) ∧ W.cell? ⟨nb, 1, none⟩ = some (.int .i64 n.tm) ∧ W.cell? ⟨nb, 9, none⟩ = some (.int .i64 0) ∧ W.cell? ⟨nb, 14, none⟩ = some (.int .i64 n.df)) := fun b => ⟨(h.next b).bx.cellAt rfl, (h.next b).bx.cellAt rfl, by rw [← hrl]; exact (h.next b).bx.cellAt rfl, (h.next b).bx.cellAt rfl⟩
  obtain ⟨kd, fr, to_, tm, ix, lt, cm, rd, at_, ys, mes, da⟩ := m
  simp only at hto hkd hup
  subst hkd
  have RX : Hid (RowIs (w.alloc (.cells #[.int .i64 1, .int .i64 fr, .int .i64 n.me, .int .i64 tm, .int .i64 ix, .int .i64 lt, .int .i64 cm, .int .i64 rd, .int .i64 at_, .bool ys, v, .string da] 40)) w.heap.size [.int .i64 1, .int .i64 fr, .int .i64 n.me, .int .i64 tm, .int .i64 ix, .int .i64 lt, .int .i64 cm, .int .i64 rd, .int .i64 at_, .bool ys, v, .string da] 40) := srow w _ _
  have BX : Hid (Below w.heap.size w (w.alloc (.cells #[.int .i64 1, .int .i64 fr, .int .i64 n.me, .int .i64 tm, .int .i64 ix, .int .i64 lt, .int .i64 cm, .int .i64 rd, .int .i64 at_, .bool ys, v, .string da] 40))) := below_al (Below.refl _ _) _
  have u1 : decide (tm > n.tm) = false := decide_eq_false (by omega)
  have u2 : decide (n.tm < tm) = false := decide_eq_false (by omega)
  have f1 : decide (n.df > 0) = false := decide_eq_false (by omega)
  have f2 : decide (0 < n.df) = false := decide_eq_false (by omega)
  subst hto
  clear h hne hl hb0 hb1 hv hes ho hrl hdf ht0 ht1 hup hk1 hk2 hk3 hm0 hm1
  unfold msV at *
  simp only at *
  generalize gvU n es _ = G at *
  generalize ndGv n es _ = N2 at *
  generalize n.me = me at *
  generalize n.tm = nt at *
  generalize n.df = df at *
  have ZC : Hid (∀ W, Below (w.alloc (.cells #[.int .i64 1, .int .i64 fr, .int .i64 me, .int .i64 tm, .int .i64 ix, .int .i64 lt, .int .i64 cm, .int .i64 rd, .int .i64 at_, .bool ys, v, .string da] 40)).heap.size (w.alloc (.cells #[.int .i64 1, .int .i64 fr, .int .i64 me, .int .i64 tm, .int .i64 ix, .int .i64 lt, .int .i64 cm, .int .i64 rd, .int .i64 at_, .bool ys, v, .string da] 40)) W → W.cell? ⟨nb, 0, none⟩ = some (.int .i64 me) ∧ W.cell? ⟨nb, 1, none⟩ = some (.int .i64 nt) ∧ W.cell? ⟨nb, 9, none⟩ = some (.int .i64 0) ∧ W.cell? ⟨nb, 14, none⟩ = some (.int .i64 df) ∧ W.cell? ⟨w.heap.size, 0, none⟩ = some (.int .i64 1) ∧ W.cell? ⟨w.heap.size, 1, none⟩ = some (.int .i64 fr) ∧ W.cell? ⟨w.heap.size, 2, none⟩ = some (.int .i64 me) ∧ W.cell? ⟨w.heap.size, 3, none⟩ = some (.int .i64 tm) ∧ W.cell? ⟨w.heap.size, 4, none⟩ = some (.int .i64 ix) ∧ W.cell? ⟨w.heap.size, 5, none⟩ = some (.int .i64 lt) ∧ W.cell? ⟨w.heap.size, 6, none⟩ = some (.int .i64 cm) ∧ W.cell? ⟨w.heap.size, 7, none⟩ = some (.int .i64 rd) ∧ W.cell? ⟨w.heap.size, 8, none⟩ = some (.int .i64 at_) ∧ W.cell? ⟨w.heap.size, 9, none⟩ = some (.bool ys) ∧ W.cell? ⟨w.heap.size, 10, none⟩ = some (v) ∧ W.cell? ⟨w.heap.size, 11, none⟩ = some (.string da)) := fun W b => by
    have q := KN.out (below_on BX.out b)
    have r := RX.out.keep (b.keep (fun _ => False)) (fun h => h)
    exact ⟨q.1, q.2.1, q.2.2.1, q.2.2.2, r.cellAt rfl, r.cellAt rfl, r.cellAt rfl, r.cellAt rfl, r.cellAt rfl, r.cellAt rfl, r.cellAt rfl, r.cellAt rfl, r.cellAt rfl, r.cellAt rfl, r.cellAt rfl, r.cellAt rfl⟩
  obtain ⟨X, hX⟩ : ∃ X, X = w.alloc (.cells #[.int .i64 1, .int .i64 fr, .int .i64 me, .int .i64 tm, .int .i64 ix, .int .i64 lt, .int .i64 cm, .int .i64 rd, .int .i64 at_, .bool ys, v, .string da] 40) := ⟨_, rfl⟩
  rw [← hX] at RX BX ZC
  have HX := hid hX
  clear hX
  have INX : Hid (∀ W, Below X.heap.size X W → Calls Tryz.prog 24 #[.pointer (some ⟨nb, 0, none⟩)] W fun e w' => e = .returned (.bool false) ∧ Below W.heap.size W w') := fun W b => IN.out W (below_on BX.out b)
  have CKX : Hid (∀ W, Below X.heap.size X W → Calls Tryz.prog 14 #[.agg #[.int .i64 1, .int .i64 fr, .int .i64 me, .int .i64 tm, .int .i64 ix, .int .i64 lt, .int .i64 cm, .int .i64 rd, .int .i64 at_, .bool ys, v, .string da]] W fun e w' => e = .returned (.bool true) ∧ Below W.heap.size W w') := fun W b => CK.out W (below_on BX.out b)
  have D0 := hid (Below.refl X.heap.size X).drew
  clear IN CK KN
  go_enter Tryz.func8, Tryz.ntmps8
  go_wp2
  rw [← HX.out]
  clear HX
  refine wp_region_held_drew (S := fun W => W.cell? ⟨nb, 0, none⟩ = some (.int .i64 me) ∧ W.cell? ⟨nb, 1, none⟩ = some (.int .i64 nt) ∧ W.cell? ⟨nb, 9, none⟩ = some (.int .i64 0) ∧ W.cell? ⟨nb, 14, none⟩ = some (.int .i64 df) ∧ W.cell? ⟨w.heap.size, 0, none⟩ = some (.int .i64 1) ∧ W.cell? ⟨w.heap.size, 1, none⟩ = some (.int .i64 fr) ∧ W.cell? ⟨w.heap.size, 2, none⟩ = some (.int .i64 me) ∧ W.cell? ⟨w.heap.size, 3, none⟩ = some (.int .i64 tm) ∧ W.cell? ⟨w.heap.size, 4, none⟩ = some (.int .i64 ix) ∧ W.cell? ⟨w.heap.size, 5, none⟩ = some (.int .i64 lt) ∧ W.cell? ⟨w.heap.size, 6, none⟩ = some (.int .i64 cm) ∧ W.cell? ⟨w.heap.size, 7, none⟩ = some (.int .i64 rd) ∧ W.cell? ⟨w.heap.size, 8, none⟩ = some (.int .i64 at_) ∧ W.cell? ⟨w.heap.size, 9, none⟩ = some (.bool ys) ∧ W.cell? ⟨w.heap.size, 10, none⟩ = some (v) ∧ W.cell? ⟨w.heap.size, 11, none⟩ = some (.string da)) (by kernel_rfl) (ZC.out _ D0.out) (fun hHeld => ?_)
  refine wpAnyH_take (i := 0) (v := ?vv1) rfl (by kernel_rfl) (by kernel_rfl) (by kernel_rfl) (fun _ _ _ h => h) (Or.inl ⟨by rfl, ?hy1⟩) (by assumption) ?rest1
  case hy1 => (intro w hSw; (try dsimp only at hSw); go_simp; first | done | with_reducible rfl)
  try simp only [Act.put, List.getElem_toArray, List.getElem_cons_succ, List.getElem_cons_zero, List.setIfInBounds_toArray, List.set_cons_zero, List.set_cons_succ]
  refine wpAnyH_ready (rs := [1]) (by kernel_rfl) (by simp) ?_
  refine AllReadyH.cons rfl (fun K hK => ?_) AllReadyH.nil
  go_simp
  refine (INX.out _ D0.out).mono ?_
  rintro e wq1 ⟨rfl, bq⟩
  have BQ1 := hid (below_on D0.out bq)
  clear bq hHeld
  go_wp2_with fail
  refine hK.out _ _ (ZC.out _ BQ1.out) (fun hHeld => ?_)
  clear hK K
  try simp only [Act.put, List.getElem_toArray, List.getElem_cons_succ, List.getElem_cons_zero, List.setIfInBounds_toArray, List.set_cons_zero, List.set_cons_succ]
  refine wpAnyH_take (i := 2) (v := ?vv2) rfl (by kernel_rfl) (by kernel_rfl) (by kernel_rfl) (fun _ _ _ h => h) (Or.inl ⟨by rfl, ?hy2⟩) (by assumption) ?rest2
  case hy2 => (intro w hSw; (try dsimp only at hSw); go_simp; first | done | with_reducible rfl)
  try simp only [Act.put, List.getElem_toArray, List.getElem_cons_succ, List.getElem_cons_zero, List.setIfInBounds_toArray, List.set_cons_zero, List.set_cons_succ]
  refine wpAnyH_take (i := 3) (v := ?vv3) rfl (by kernel_rfl) (by kernel_rfl) (by kernel_rfl) (fun _ _ _ h => h) (Or.inl ⟨by rfl, ?hy3⟩) (by assumption) ?rest3
  case hy3 => (intro w hSw; (try dsimp only at hSw); go_simp; first | done | with_reducible rfl)
  try simp only [Act.put, List.getElem_toArray, List.getElem_cons_succ, List.getElem_cons_zero, List.setIfInBounds_toArray, List.set_cons_zero, List.set_cons_succ]
  refine wpAnyH_ready (rs := [4]) (by kernel_rfl) (by simp) ?_
  refine AllReadyH.cons rfl (fun K hK => ?_) AllReadyH.nil
  go_simp
  refine (CKX.out _ BQ1.out).mono ?_
  rintro e wq2 ⟨rfl, bq⟩
  have BQ2 := hid (below_on BQ1.out bq)
  clear bq hHeld
  go_wp2_with fail
  refine hK.out _ _ (ZC.out _ BQ2.out) (fun hHeld => ?_)
  clear hK K
  try simp only [Act.put, List.getElem_toArray, List.getElem_cons_succ, List.getElem_cons_zero, List.setIfInBounds_toArray, List.set_cons_zero, List.set_cons_succ]
  refine wpAnyH_take (i := 5) (v := ?vv4) rfl (by kernel_rfl) (by kernel_rfl) (by kernel_rfl) (fun _ _ _ h => h) (Or.inl ⟨by rfl, ?hy4⟩) (by assumption) ?rest4
  case hy4 => (intro w hSw; (try dsimp only at hSw); go_simp; first | done | with_reducible rfl)
  try simp only [Act.put, List.getElem_toArray, List.getElem_cons_succ, List.getElem_cons_zero, List.setIfInBounds_toArray, List.set_cons_zero, List.set_cons_succ]
  refine wpAnyH_take (i := 6) (v := ?vv5) rfl (by kernel_rfl) (by kernel_rfl) (by kernel_rfl) (fun _ _ _ h => h) (Or.inl ⟨by rfl, ?hy5⟩) (by assumption) ?rest5
  case hy5 => (intro w hSw; (try dsimp only at hSw); go_simp; first | done | with_reducible rfl)
  try simp only [Act.put, List.getElem_toArray, List.getElem_cons_succ, List.getElem_cons_zero, List.setIfInBounds_toArray, List.set_cons_zero, List.set_cons_succ]
  refine wpAnyH_take (i := 7) (v := ?vv6) rfl (by kernel_rfl) (by kernel_rfl) (by kernel_rfl) (fun _ _ _ h => h) (Or.inl ⟨by rfl, ?hy6⟩) (by assumption) ?rest6
  case hy6 => (intro w hSw; (try dsimp only at hSw); go_simp; first | done | with_reducible rfl)
  try simp only [Act.put, List.getElem_toArray, List.getElem_cons_succ, List.getElem_cons_zero, List.setIfInBounds_toArray, List.set_cons_zero, List.set_cons_succ]
  refine wpAnyH_take (i := 8) (v := ?vv7) rfl (by kernel_rfl) (by kernel_rfl) (by kernel_rfl) (fun _ _ _ h => h) (Or.inl ⟨by rfl, ?hy7⟩) (by assumption) ?rest7
  case hy7 => (intro w hSw; (try dsimp only at hSw); go_simp; first | done | with_reducible rfl)
  try simp only [Act.put, List.getElem_toArray, List.getElem_cons_succ, List.getElem_cons_zero, List.setIfInBounds_toArray, List.set_cons_zero, List.set_cons_succ]
  refine wpAnyH_take (i := 9) (v := ?vv8) rfl (by kernel_rfl) (by kernel_rfl) (by kernel_rfl) (fun _ _ _ h => h) (Or.inl ⟨by rfl, ?hy8⟩) (by assumption) ?rest8
  case hy8 => (intro w hSw; (try dsimp only at hSw); go_simp; first | done | with_reducible rfl)
  try simp only [Act.put, List.getElem_toArray, List.getElem_cons_succ, List.getElem_cons_zero, List.setIfInBounds_toArray, List.set_cons_zero, List.set_cons_succ]
  refine wpAnyH_take (i := 10) (v := ?vv9) rfl (by kernel_rfl) (by kernel_rfl) (by kernel_rfl) (fun _ _ _ h => h) (Or.inl ⟨by rfl, ?hy9⟩) (by assumption) ?rest9
  case hy9 => (intro w hSw; (try dsimp only at hSw); go_simp; first | done | with_reducible rfl)
  try simp only [Act.put, List.getElem_toArray, List.getElem_cons_succ, List.getElem_cons_zero, List.setIfInBounds_toArray, List.set_cons_zero, List.set_cons_succ]
  refine wpAnyH_take (i := 11) (v := ?vv10) rfl (by kernel_rfl) (by kernel_rfl) (by kernel_rfl) (fun _ _ _ h => h) (Or.inl ⟨by rfl, ?hy10⟩) (by assumption) ?rest10
  case hy10 => (intro w hSw; (try dsimp only at hSw); go_simp; first | done | with_reducible rfl)
  try simp only [Act.put, List.getElem_toArray, List.getElem_cons_succ, List.getElem_cons_zero, List.setIfInBounds_toArray, List.set_cons_zero, List.set_cons_succ]
  refine wpAnyH_take (i := 12) (v := ?vv11) rfl (by kernel_rfl) (by kernel_rfl) (by kernel_rfl) (fun _ _ _ h => h) (Or.inl ⟨by rfl, ?hy11⟩) (by assumption) ?rest11
  case hy11 => (intro w hSw; (try dsimp only at hSw); go_simp; first | done | with_reducible rfl)
  try simp only [Act.put, List.getElem_toArray, List.getElem_cons_succ, List.getElem_cons_zero, List.setIfInBounds_toArray, List.set_cons_zero, List.set_cons_succ]
  refine wpAnyH_take (i := 13) (v := ?vv12) rfl (by kernel_rfl) (by kernel_rfl) (by kernel_rfl) (fun _ _ _ h => h) (Or.inl ⟨by rfl, ?hy12⟩) (by assumption) ?rest12
  case hy12 => (intro w hSw; (try dsimp only at hSw); go_simp; first | done | with_reducible rfl)
  try simp only [Act.put, List.getElem_toArray, List.getElem_cons_succ, List.getElem_cons_zero, List.setIfInBounds_toArray, List.set_cons_zero, List.set_cons_succ]
  refine wpAnyH_take (i := 14) (v := ?vv13) rfl (by kernel_rfl) (by kernel_rfl) (by kernel_rfl) (fun _ _ _ h => h) (Or.inl ⟨by rfl, ?hy13⟩) (by assumption) ?rest13
  case hy13 => (intro w hSw; (try dsimp only at hSw); go_simp; first | done | with_reducible rfl)
  try simp only [Act.put, List.getElem_toArray, List.getElem_cons_succ, List.getElem_cons_zero, List.setIfInBounds_toArray, List.set_cons_zero, List.set_cons_succ]
  refine wpAnyH_take (i := 15) (v := ?vv14) rfl (by kernel_rfl) (by kernel_rfl) (by kernel_rfl) (fun _ _ _ h => h) (Or.inl ⟨by rfl, ?hy14⟩) (by assumption) ?rest14
  case hy14 => (intro w hSw; (try dsimp only at hSw); go_simp; first | done | with_reducible rfl)
  try simp only [Act.put, List.getElem_toArray, List.getElem_cons_succ, List.getElem_cons_zero, List.setIfInBounds_toArray, List.set_cons_zero, List.set_cons_succ]
  refine wpAnyH_done (by kernel_rfl) ?_ _
  obtain ⟨c0, c1, c9, c14, y0, y1, y2, y3, y4, y5, y6, y7, y8, y9, y10, y11⟩ := ZC.out _ BQ2.out
  have RQ := hid (RX.out.keep (BQ2.out.keep (fun _ => False)) (fun h => h))
  have BW := hid (below_on BX.out BQ2.out)
  clear ZC INX CKX RX BX D0 hHeld BQ2
  go_wp2
  go_quiet (fail)
  have BW2 := hid (below_drewN BW.out nq)
  have TV2 := hid (TV.out _ BW2.out)
  clear TV RQ BW BW2
  go_wp2_with fail
  refine TV2.out.mono ?_
  rintro e w7 ⟨b, rfl, hb, hr, hg⟩
  have F7 := hid hg
  have R7 := hid hr
  have H7 := hid hb
  clear TV2 hg hr hb c0 c1 c9 c14 y0 y1 y2 y3 y4 y5 y6 y7 y8 y9 y10 y11
  go_wp2
  go_ret
  exact ⟨_, rfl, H7.out, R7.out, F7.out⟩
set_option maxRecDepth 100000 in
set_option maxHeartbeats 8000000 in
theorem nstep_rise (h : NdI w B nb n ms es) (hne : ms ≠ []) (hl : es.length ≤ 17592186044416) (hb0 : 0 ≤ n.bi) (hb1 : n.bi ≤ 1099511627776) (v : Value) (m : Ms) (hv : EntI w v m.es) (hes : m.es.length ≤ 17592186044416) (ho : msOk m = true) (hto : m.to_ = n.me) (hkd : m.kd = 1) (hrl : n.rl = 0) (hdf : n.df ≤ 0) (ht0 : 0 ≤ n.tm) (ht1 : n.tm ≤ 1099511627776) (hup : n.tm < m.tm) :
    Calls Tryz.prog 8 #[.pointer (some ⟨nb, 0, none⟩), msV v m] w fun e w' => ∃ b, e = .returned (.slice (some ⟨b, 0, none⟩) 1 1) ∧ w.heap.size ≤ b ∧ RowIs w' b (msC (.slice none 0 0) (mgV 2 n.me m.fr m.tm (gvU (ndRi n m.tm) es m))) 40 ∧ NdG w B nb n w' (ndGv (ndRi n m.tm) es m) ms es := by
  obtain ⟨hk2, hk1, hk3, hm0, hm1⟩ := mo_all ho
  rw [hto] at hk1 hk3
  have IN : Hid (∀ W, Below w.heap.size w W → Calls Tryz.prog 24 #[.pointer (some ⟨nb, 0, none⟩)] W fun e w' => e = .returned (.bool false) ∧ Below W.heap.size W w') := fun W b => (nisNone_any (h.next b) hne).mono fun e w' ⟨he, hw⟩ => ⟨he, by rw [hw]; exact Below.refl _ _⟩
  have CK : Hid (∀ W, Below w.heap.size w W → Calls Tryz.prog 14 #[msV v m] W fun e w' => e = .returned (.bool true) ∧ Below W.heap.size W w') := fun W b => by rw [← ho]; exact mcheck_any v m W (hv.next b) hes
  have RI : Hid (∀ W, Below w.heap.size w W → Calls Tryz.prog 25 #[.pointer (some ⟨nb, 0, none⟩), .int .i64 m.tm] W fun e w' => e = .returned (.tuple #[]) ∧ NdG w B nb n w' (ndRi n m.tm) ms es ∧ Keep (NdB nb n) W w') := fun W b => (nrise_any (h.next b) m.tm).mono fun e w' ⟨he, g⟩ => ⟨he, ((NdG.refl h).next b).trans g, g.kp⟩
  have RK : Hid (∀ W W' a cs t, w.heap.size ≤ a → Keep (NdB nb n) W W' → RowIs W a cs t → RowIs W' a cs t) := fun W W' a cs t ha k r => r.keep k (fun hj => by have := h.low hj; omega)
  have TV : Hid (∀ W, NdG w B nb n W (ndRi n m.tm) ms es → Calls Tryz.prog 26 #[.pointer (some ⟨nb, 0, none⟩), msV v m] W fun e w' => ∃ b, e = .returned (.slice (some ⟨b, 0, none⟩) 1 1) ∧ w.heap.size ≤ b ∧ RowIs w' b (msC (.slice none 0 0) (mgV 2 n.me m.fr m.tm (gvU (ndRi n m.tm) es m))) 40 ∧ NdG w B nb n w' (ndGv (ndRi n m.tm) es m) ms es) := fun W g => by
    have q := ntakeVote_any g.nd hne hl (by rw [ndRi_bi]; exact hb0) (by rw [ndRi_bi]; exact hb1) v m (by rw [ndRi_me]; exact hk1) hk2 (by rw [ndRi_me]; exact hk3.symm) (by rw [ndRi_tm]; exact hm0) (by rw [ndRi_tm]; exact hm1)
    rw [ndRi_me, ndRi_tm] at q
    exact q.mono fun e w' ⟨b, he, hb, hr, hg⟩ => ⟨b, he, Nat.le_trans g.kp.size hb, hr, g.trans hg⟩
  have KN : Hid (∀ {W}, Below w.heap.size w W → W.cell? ⟨nb, 0, none⟩ = some (.int .i64 n.me) ∧ W.cell? ⟨nb, 1, none⟩ = some (.int .i64 n.tm) ∧ W.cell? ⟨nb, 9, none⟩ = some (.int .i64 0) ∧ W.cell? ⟨nb, 14, none⟩ = some (.int .i64 n.df)) := fun b => ⟨(h.next b).bx.cellAt rfl, (h.next b).bx.cellAt rfl, by rw [← hrl]; exact (h.next b).bx.cellAt rfl, (h.next b).bx.cellAt rfl⟩
  obtain ⟨kd, fr, to_, tm, ix, lt, cm, rd, at_, ys, mes, da⟩ := m
  simp only at hto hkd hup
  subst hkd
  have RX : Hid (RowIs (w.alloc (.cells #[.int .i64 1, .int .i64 fr, .int .i64 n.me, .int .i64 tm, .int .i64 ix, .int .i64 lt, .int .i64 cm, .int .i64 rd, .int .i64 at_, .bool ys, v, .string da] 40)) w.heap.size [.int .i64 1, .int .i64 fr, .int .i64 n.me, .int .i64 tm, .int .i64 ix, .int .i64 lt, .int .i64 cm, .int .i64 rd, .int .i64 at_, .bool ys, v, .string da] 40) := srow w _ _
  have BX : Hid (Below w.heap.size w (w.alloc (.cells #[.int .i64 1, .int .i64 fr, .int .i64 n.me, .int .i64 tm, .int .i64 ix, .int .i64 lt, .int .i64 cm, .int .i64 rd, .int .i64 at_, .bool ys, v, .string da] 40))) := below_al (Below.refl _ _) _
  have u1 : decide (tm > n.tm) = true := decide_eq_true (by omega)
  have u2 : decide (n.tm < tm) = true := decide_eq_true (by omega)
  have f1 : decide (n.df > 0) = false := decide_eq_false (by omega)
  have f2 : decide (0 < n.df) = false := decide_eq_false (by omega)
  subst hto
  clear h hne hl hb0 hb1 hv hes ho hrl hdf ht0 ht1 hup hk1 hk2 hk3 hm0 hm1
  unfold msV at *
  simp only at *
  generalize gvU (ndRi n tm) es _ = G at *
  generalize ndGv (ndRi n tm) es _ = N2 at *
  generalize ndRi n tm = NR at *
  generalize n.me = me at *
  generalize n.tm = nt at *
  generalize n.df = df at *
  have ZC : Hid (∀ W, Below (w.alloc (.cells #[.int .i64 1, .int .i64 fr, .int .i64 me, .int .i64 tm, .int .i64 ix, .int .i64 lt, .int .i64 cm, .int .i64 rd, .int .i64 at_, .bool ys, v, .string da] 40)).heap.size (w.alloc (.cells #[.int .i64 1, .int .i64 fr, .int .i64 me, .int .i64 tm, .int .i64 ix, .int .i64 lt, .int .i64 cm, .int .i64 rd, .int .i64 at_, .bool ys, v, .string da] 40)) W → W.cell? ⟨nb, 0, none⟩ = some (.int .i64 me) ∧ W.cell? ⟨nb, 1, none⟩ = some (.int .i64 nt) ∧ W.cell? ⟨nb, 9, none⟩ = some (.int .i64 0) ∧ W.cell? ⟨nb, 14, none⟩ = some (.int .i64 df) ∧ W.cell? ⟨w.heap.size, 0, none⟩ = some (.int .i64 1) ∧ W.cell? ⟨w.heap.size, 1, none⟩ = some (.int .i64 fr) ∧ W.cell? ⟨w.heap.size, 2, none⟩ = some (.int .i64 me) ∧ W.cell? ⟨w.heap.size, 3, none⟩ = some (.int .i64 tm) ∧ W.cell? ⟨w.heap.size, 4, none⟩ = some (.int .i64 ix) ∧ W.cell? ⟨w.heap.size, 5, none⟩ = some (.int .i64 lt) ∧ W.cell? ⟨w.heap.size, 6, none⟩ = some (.int .i64 cm) ∧ W.cell? ⟨w.heap.size, 7, none⟩ = some (.int .i64 rd) ∧ W.cell? ⟨w.heap.size, 8, none⟩ = some (.int .i64 at_) ∧ W.cell? ⟨w.heap.size, 9, none⟩ = some (.bool ys) ∧ W.cell? ⟨w.heap.size, 10, none⟩ = some (v) ∧ W.cell? ⟨w.heap.size, 11, none⟩ = some (.string da)) := fun W b => by
    have q := KN.out (below_on BX.out b)
    have r := RX.out.keep (b.keep (fun _ => False)) (fun h => h)
    exact ⟨q.1, q.2.1, q.2.2.1, q.2.2.2, r.cellAt rfl, r.cellAt rfl, r.cellAt rfl, r.cellAt rfl, r.cellAt rfl, r.cellAt rfl, r.cellAt rfl, r.cellAt rfl, r.cellAt rfl, r.cellAt rfl, r.cellAt rfl, r.cellAt rfl⟩
  obtain ⟨X, hX⟩ : ∃ X, X = w.alloc (.cells #[.int .i64 1, .int .i64 fr, .int .i64 me, .int .i64 tm, .int .i64 ix, .int .i64 lt, .int .i64 cm, .int .i64 rd, .int .i64 at_, .bool ys, v, .string da] 40) := ⟨_, rfl⟩
  rw [← hX] at RX BX ZC
  have HX := hid hX
  clear hX
  have INX : Hid (∀ W, Below X.heap.size X W → Calls Tryz.prog 24 #[.pointer (some ⟨nb, 0, none⟩)] W fun e w' => e = .returned (.bool false) ∧ Below W.heap.size W w') := fun W b => IN.out W (below_on BX.out b)
  have CKX : Hid (∀ W, Below X.heap.size X W → Calls Tryz.prog 14 #[.agg #[.int .i64 1, .int .i64 fr, .int .i64 me, .int .i64 tm, .int .i64 ix, .int .i64 lt, .int .i64 cm, .int .i64 rd, .int .i64 at_, .bool ys, v, .string da]] W fun e w' => e = .returned (.bool true) ∧ Below W.heap.size W w') := fun W b => CK.out W (below_on BX.out b)
  have D0 := hid (Below.refl X.heap.size X).drew
  clear IN CK KN
  go_enter Tryz.func8, Tryz.ntmps8
  go_wp2
  rw [← HX.out]
  clear HX
  refine wp_region_held_drew (S := fun W => W.cell? ⟨nb, 0, none⟩ = some (.int .i64 me) ∧ W.cell? ⟨nb, 1, none⟩ = some (.int .i64 nt) ∧ W.cell? ⟨nb, 9, none⟩ = some (.int .i64 0) ∧ W.cell? ⟨nb, 14, none⟩ = some (.int .i64 df) ∧ W.cell? ⟨w.heap.size, 0, none⟩ = some (.int .i64 1) ∧ W.cell? ⟨w.heap.size, 1, none⟩ = some (.int .i64 fr) ∧ W.cell? ⟨w.heap.size, 2, none⟩ = some (.int .i64 me) ∧ W.cell? ⟨w.heap.size, 3, none⟩ = some (.int .i64 tm) ∧ W.cell? ⟨w.heap.size, 4, none⟩ = some (.int .i64 ix) ∧ W.cell? ⟨w.heap.size, 5, none⟩ = some (.int .i64 lt) ∧ W.cell? ⟨w.heap.size, 6, none⟩ = some (.int .i64 cm) ∧ W.cell? ⟨w.heap.size, 7, none⟩ = some (.int .i64 rd) ∧ W.cell? ⟨w.heap.size, 8, none⟩ = some (.int .i64 at_) ∧ W.cell? ⟨w.heap.size, 9, none⟩ = some (.bool ys) ∧ W.cell? ⟨w.heap.size, 10, none⟩ = some (v) ∧ W.cell? ⟨w.heap.size, 11, none⟩ = some (.string da)) (by kernel_rfl) (ZC.out _ D0.out) (fun hHeld => ?_)
  refine wpAnyH_take (i := 0) (v := ?vv15) rfl (by kernel_rfl) (by kernel_rfl) (by kernel_rfl) (fun _ _ _ h => h) (Or.inl ⟨by rfl, ?hy15⟩) (by assumption) ?rest15
  case hy15 => (intro w hSw; (try dsimp only at hSw); go_simp; first | done | with_reducible rfl)
  try simp only [Act.put, List.getElem_toArray, List.getElem_cons_succ, List.getElem_cons_zero, List.setIfInBounds_toArray, List.set_cons_zero, List.set_cons_succ]
  refine wpAnyH_ready (rs := [1]) (by kernel_rfl) (by simp) ?_
  refine AllReadyH.cons rfl (fun K hK => ?_) AllReadyH.nil
  go_simp
  refine (INX.out _ D0.out).mono ?_
  rintro e wq3 ⟨rfl, bq⟩
  have BQ3 := hid (below_on D0.out bq)
  clear bq hHeld
  go_wp2_with fail
  refine hK.out _ _ (ZC.out _ BQ3.out) (fun hHeld => ?_)
  clear hK K
  try simp only [Act.put, List.getElem_toArray, List.getElem_cons_succ, List.getElem_cons_zero, List.setIfInBounds_toArray, List.set_cons_zero, List.set_cons_succ]
  refine wpAnyH_take (i := 2) (v := ?vv16) rfl (by kernel_rfl) (by kernel_rfl) (by kernel_rfl) (fun _ _ _ h => h) (Or.inl ⟨by rfl, ?hy16⟩) (by assumption) ?rest16
  case hy16 => (intro w hSw; (try dsimp only at hSw); go_simp; first | done | with_reducible rfl)
  try simp only [Act.put, List.getElem_toArray, List.getElem_cons_succ, List.getElem_cons_zero, List.setIfInBounds_toArray, List.set_cons_zero, List.set_cons_succ]
  refine wpAnyH_take (i := 3) (v := ?vv17) rfl (by kernel_rfl) (by kernel_rfl) (by kernel_rfl) (fun _ _ _ h => h) (Or.inl ⟨by rfl, ?hy17⟩) (by assumption) ?rest17
  case hy17 => (intro w hSw; (try dsimp only at hSw); go_simp; first | done | with_reducible rfl)
  try simp only [Act.put, List.getElem_toArray, List.getElem_cons_succ, List.getElem_cons_zero, List.setIfInBounds_toArray, List.set_cons_zero, List.set_cons_succ]
  refine wpAnyH_ready (rs := [4]) (by kernel_rfl) (by simp) ?_
  refine AllReadyH.cons rfl (fun K hK => ?_) AllReadyH.nil
  go_simp
  refine (CKX.out _ BQ3.out).mono ?_
  rintro e wq4 ⟨rfl, bq⟩
  have BQ4 := hid (below_on BQ3.out bq)
  clear bq hHeld
  go_wp2_with fail
  refine hK.out _ _ (ZC.out _ BQ4.out) (fun hHeld => ?_)
  clear hK K
  try simp only [Act.put, List.getElem_toArray, List.getElem_cons_succ, List.getElem_cons_zero, List.setIfInBounds_toArray, List.set_cons_zero, List.set_cons_succ]
  refine wpAnyH_take (i := 5) (v := ?vv18) rfl (by kernel_rfl) (by kernel_rfl) (by kernel_rfl) (fun _ _ _ h => h) (Or.inl ⟨by rfl, ?hy18⟩) (by assumption) ?rest18
  case hy18 => (intro w hSw; (try dsimp only at hSw); go_simp; first | done | with_reducible rfl)
  try simp only [Act.put, List.getElem_toArray, List.getElem_cons_succ, List.getElem_cons_zero, List.setIfInBounds_toArray, List.set_cons_zero, List.set_cons_succ]
  refine wpAnyH_take (i := 6) (v := ?vv19) rfl (by kernel_rfl) (by kernel_rfl) (by kernel_rfl) (fun _ _ _ h => h) (Or.inl ⟨by rfl, ?hy19⟩) (by assumption) ?rest19
  case hy19 => (intro w hSw; (try dsimp only at hSw); go_simp; first | done | with_reducible rfl)
  try simp only [Act.put, List.getElem_toArray, List.getElem_cons_succ, List.getElem_cons_zero, List.setIfInBounds_toArray, List.set_cons_zero, List.set_cons_succ]
  refine wpAnyH_take (i := 7) (v := ?vv20) rfl (by kernel_rfl) (by kernel_rfl) (by kernel_rfl) (fun _ _ _ h => h) (Or.inl ⟨by rfl, ?hy20⟩) (by assumption) ?rest20
  case hy20 => (intro w hSw; (try dsimp only at hSw); go_simp; first | done | with_reducible rfl)
  try simp only [Act.put, List.getElem_toArray, List.getElem_cons_succ, List.getElem_cons_zero, List.setIfInBounds_toArray, List.set_cons_zero, List.set_cons_succ]
  refine wpAnyH_take (i := 8) (v := ?vv21) rfl (by kernel_rfl) (by kernel_rfl) (by kernel_rfl) (fun _ _ _ h => h) (Or.inl ⟨by rfl, ?hy21⟩) (by assumption) ?rest21
  case hy21 => (intro w hSw; (try dsimp only at hSw); go_simp; first | done | with_reducible rfl)
  try simp only [Act.put, List.getElem_toArray, List.getElem_cons_succ, List.getElem_cons_zero, List.setIfInBounds_toArray, List.set_cons_zero, List.set_cons_succ]
  refine wpAnyH_take (i := 9) (v := ?vv22) rfl (by kernel_rfl) (by kernel_rfl) (by kernel_rfl) (fun _ _ _ h => h) (Or.inl ⟨by rfl, ?hy22⟩) (by assumption) ?rest22
  case hy22 => (intro w hSw; (try dsimp only at hSw); go_simp; first | done | with_reducible rfl)
  try simp only [Act.put, List.getElem_toArray, List.getElem_cons_succ, List.getElem_cons_zero, List.setIfInBounds_toArray, List.set_cons_zero, List.set_cons_succ]
  refine wpAnyH_take (i := 10) (v := ?vv23) rfl (by kernel_rfl) (by kernel_rfl) (by kernel_rfl) (fun _ _ _ h => h) (Or.inl ⟨by rfl, ?hy23⟩) (by assumption) ?rest23
  case hy23 => (intro w hSw; (try dsimp only at hSw); go_simp; first | done | with_reducible rfl)
  try simp only [Act.put, List.getElem_toArray, List.getElem_cons_succ, List.getElem_cons_zero, List.setIfInBounds_toArray, List.set_cons_zero, List.set_cons_succ]
  refine wpAnyH_take (i := 11) (v := ?vv24) rfl (by kernel_rfl) (by kernel_rfl) (by kernel_rfl) (fun _ _ _ h => h) (Or.inl ⟨by rfl, ?hy24⟩) (by assumption) ?rest24
  case hy24 => (intro w hSw; (try dsimp only at hSw); go_simp; first | done | with_reducible rfl)
  try simp only [Act.put, List.getElem_toArray, List.getElem_cons_succ, List.getElem_cons_zero, List.setIfInBounds_toArray, List.set_cons_zero, List.set_cons_succ]
  refine wpAnyH_take (i := 12) (v := ?vv25) rfl (by kernel_rfl) (by kernel_rfl) (by kernel_rfl) (fun _ _ _ h => h) (Or.inl ⟨by rfl, ?hy25⟩) (by assumption) ?rest25
  case hy25 => (intro w hSw; (try dsimp only at hSw); go_simp; first | done | with_reducible rfl)
  try simp only [Act.put, List.getElem_toArray, List.getElem_cons_succ, List.getElem_cons_zero, List.setIfInBounds_toArray, List.set_cons_zero, List.set_cons_succ]
  refine wpAnyH_take (i := 13) (v := ?vv26) rfl (by kernel_rfl) (by kernel_rfl) (by kernel_rfl) (fun _ _ _ h => h) (Or.inl ⟨by rfl, ?hy26⟩) (by assumption) ?rest26
  case hy26 => (intro w hSw; (try dsimp only at hSw); go_simp; first | done | with_reducible rfl)
  try simp only [Act.put, List.getElem_toArray, List.getElem_cons_succ, List.getElem_cons_zero, List.setIfInBounds_toArray, List.set_cons_zero, List.set_cons_succ]
  refine wpAnyH_take (i := 14) (v := ?vv27) rfl (by kernel_rfl) (by kernel_rfl) (by kernel_rfl) (fun _ _ _ h => h) (Or.inl ⟨by rfl, ?hy27⟩) (by assumption) ?rest27
  case hy27 => (intro w hSw; (try dsimp only at hSw); go_simp; first | done | with_reducible rfl)
  try simp only [Act.put, List.getElem_toArray, List.getElem_cons_succ, List.getElem_cons_zero, List.setIfInBounds_toArray, List.set_cons_zero, List.set_cons_succ]
  refine wpAnyH_take (i := 15) (v := ?vv28) rfl (by kernel_rfl) (by kernel_rfl) (by kernel_rfl) (fun _ _ _ h => h) (Or.inl ⟨by rfl, ?hy28⟩) (by assumption) ?rest28
  case hy28 => (intro w hSw; (try dsimp only at hSw); go_simp; first | done | with_reducible rfl)
  try simp only [Act.put, List.getElem_toArray, List.getElem_cons_succ, List.getElem_cons_zero, List.setIfInBounds_toArray, List.set_cons_zero, List.set_cons_succ]
  refine wpAnyH_done (by kernel_rfl) ?_ _
  obtain ⟨c0, c1, c9, c14, y0, y1, y2, y3, y4, y5, y6, y7, y8, y9, y10, y11⟩ := ZC.out _ BQ4.out
  have RQ := hid (RX.out.keep (BQ4.out.keep (fun _ => False)) (fun h => h))
  have BW := hid (below_on BX.out BQ4.out)
  clear ZC INX CKX RX BX D0 hHeld BQ4
  go_wp2
  go_quiet (fail)
  have BW2 := hid (below_drewN BW.out nq)
  have RI2 := hid (RI.out _ BW2.out)
  clear RI BW
  go_wp2_with fail
  refine RI2.out.mono ?_
  rintro e w6 ⟨rfl, g6, k6⟩
  have R6 := hid (RK.out _ _ _ _ _ (Nat.le_refl _) k6 RQ.out)
  have TV2 := hid (TV.out _ g6)
  clear RI2 RK k6 g6 TV RQ BW2 c0 c1 c9 c14 y0 y1 y2 y3 y4 y5 y6 y7 y8 y9 y10 y11
  have y0 := R6.out.cellAt (o := 0) rfl
  have y1 := R6.out.cellAt (o := 1) rfl
  have y2 := R6.out.cellAt (o := 2) rfl
  have y3 := R6.out.cellAt (o := 3) rfl
  have y4 := R6.out.cellAt (o := 4) rfl
  have y5 := R6.out.cellAt (o := 5) rfl
  have y6 := R6.out.cellAt (o := 6) rfl
  have y7 := R6.out.cellAt (o := 7) rfl
  have y8 := R6.out.cellAt (o := 8) rfl
  have y9 := R6.out.cellAt (o := 9) rfl
  have y10 := R6.out.cellAt (o := 10) rfl
  have y11 := R6.out.cellAt (o := 11) rfl
  go_wp2_with fail
  refine TV2.out.mono ?_
  rintro e w7 ⟨b, rfl, hb, hr, hg⟩
  have F7 := hid hg
  have R7 := hid hr
  have H7 := hid hb
  clear TV2 hg hr hb R6 y0 y1 y2 y3 y4 y5 y6 y7 y8 y9 y10 y11
  go_wp2
  go_ret
  exact ⟨_, rfl, H7.out, R7.out, F7.out⟩
end
end Go.Proofs.YtnldjcoajliciaaGreat
namespace Go.Proofs.YtnldjcoajliciaaGreat
open Go.RowKit Go.Maps
set_option linter.unusedVariables false
set_option linter.unusedSimpArgs false

section
variable {w w1 : World} {B nb : Nat} {n : Nd} {ms : List Int} {es : List En}
set_option maxRecDepth 100000 in
set_option maxHeartbeats 2000000 in
theorem nbase_ints (h : NdI w B nb n ms es) (hne : ms ≠ []) (hm : ms.length ≤ 17592186044416) (hd : n.bd.size ≤ 140737488355328) : Calls Tryz.prog 10 #[.pointer (some ⟨nb, 0, none⟩)] w fun e w' => ∃ ad cap, e = .returned (shV (.slice ad ms.length cap) ⟨n.bi, n.bt, ms, n.bd⟩) ∧ IntsI w' (.slice ad ms.length cap) ms ∧ Below w.heap.size w w' := by
  obtain ⟨W0, hW0⟩ : ∃ W0, W0 = w.alloc (.cells #[.int .i64 0, .int .i64 0, .slice none 0 0, .string ⟨#[]⟩] 28) := ⟨_, rfl⟩
  have b0 : Below w.heap.size w W0 := by rw [hW0]; exact below_al (Below.refl _ _) _
  have R0 : Hid (RowIs W0 w.heap.size [.int .i64 0, .int .i64 0, .slice none 0 0, .string ⟨#[]⟩] 28) := by show RowIs _ _ _ _; rw [hW0]; exact srow w _ _
  have h0 := h.next b0
  have IN := hid (nisNone_any h0 hne)
  obtain ⟨ad0, cap0, c5, e5⟩ := h0.bmf
  have c3 := h0.bx.cellAt (o := 3) rfl
  have c4 := h0.bx.cellAt (o := 4) rfl
  have c6 := h0.bx.cellAt (o := 6) rfl
  have CP : Hid (Calls Tryz.prog 19 #[.agg #[.int .i64 n.bi, .int .i64 n.bt, .slice ad0 ms.length cap0, .string n.bd]] W0 fun e w' => ∃ ad3 cap3, e = .returned (.agg #[.int .i64 n.bi, .int .i64 n.bt, .slice ad3 ms.length cap3, .string n.bd]) ∧ OwnI w' W0.heap.size (.slice ad3 ms.length cap3) ms ∧ Below W0.heap.size W0 w') := by
    have hi := h0.mi.ints
    rw [e5] at hi
    exact (cshot_any _ ⟨n.bi, n.bt, ms, n.bd⟩ W0 hi hm hd).mono fun e w' ⟨v', he, ho, hb⟩ => by
      obtain ⟨ad3, cap3, rfl⟩ := ho.form
      exact ⟨ad3, cap3, he, ho, hb⟩
  have B0 := hid b0
  clear h h0 hne hm hd e5 b0
  unfold shV
  simp only at *
  generalize n.bi = bi at *
  generalize n.bt = bt at *
  generalize n.bd = bd at *
  go_enter Tryz.func10, Tryz.ntmps10
  go_wp2_with fail
  rw [← hW0]
  refine IN.out.mono ?_
  rintro e w1 ⟨rfl, hw⟩
  subst hw
  clear IN hW0
  go_wp2_with fail
  refine CP.out.mono ?_
  rintro e w2 ⟨ad3, cap3, rfl, o2, b2⟩
  have B2 := hid (below_on B0.out b2)
  have R2 := hid (R0.out.keep (b2.keep (fun _ => False)) (fun h => h))
  have y0 := R2.out.cellAt (o := 0) rfl
  have y1 := R2.out.cellAt (o := 1) rfl
  have y2 := R2.out.cellAt (o := 2) rfl
  have y3 := R2.out.cellAt (o := 3) rfl
  have f0 := R2.out.frozen (o := 0)
  have f1 := R2.out.frozen (o := 1)
  have f2 := R2.out.frozen (o := 2)
  have f3 := R2.out.frozen (o := 3)
  have F9 : Hid (RowIs ((((w2.setCell ⟨w.heap.size, 0, none⟩ (.int .i64 bi)).setCell ⟨w.heap.size, 1, none⟩ (.int .i64 bt)).setCell ⟨w.heap.size, 2, none⟩ (.slice ad3 ms.length cap3)).setCell ⟨w.heap.size, 3, none⟩ (.string bd)) w.heap.size [.int .i64 bi, .int .i64 bt, .slice ad3 ms.length cap3, .string bd] 28 ∧ Below w.heap.size w ((((w2.setCell ⟨w.heap.size, 0, none⟩ (.int .i64 bi)).setCell ⟨w.heap.size, 1, none⟩ (.int .i64 bt)).setCell ⟨w.heap.size, 2, none⟩ (.slice ad3 ms.length cap3)).setCell ⟨w.heap.size, 3, none⟩ (.string bd))) :=
    ⟨(((R2.out.set 0 _).set 1 _).set 2 _).set 3 _, B2.out.trans (keep_below ((((keep_setCell _ _ _ _).trans (keep_setCell _ _ _ _)).trans (keep_setCell _ _ _ _)).trans (keep_setCell _ _ _ _)) (fun j hj e => by omega) B2.out.size)⟩
  have HL0 : w.heap.size < w1.heap.size := R0.out.lt
  have I9 : Hid (IntsI ((((w2.setCell ⟨w.heap.size, 0, none⟩ (.int .i64 bi)).setCell ⟨w.heap.size, 1, none⟩ (.int .i64 bt)).setCell ⟨w.heap.size, 2, none⟩ (.slice ad3 ms.length cap3)).setCell ⟨w.heap.size, 3, none⟩ (.string bd)) (.slice ad3 ms.length cap3) ms) := OwnI.ints (((((keep_setCell _ _ _ _).trans (keep_setCell _ _ _ _)).trans (keep_setCell _ _ _ _)).trans (keep_setCell _ _ _ _)).ownsRow o2 (fun g hg e => by have := ownsRow_ge o2 hg; omega))
  clear o2 HL0
  clear CP b2 B0 R0 B2 R2 c3 c4 c5 c6
  go_wp2
  exact bodyPost_ret (v := .agg #[.int .i64 bi, .int .i64 bt, .slice ad3 ms.length cap3, .string bd]) (results_cell_row (p := 2) rfl _ _ w.heap.size 28 #[.int .i64 bi, .int .i64 bt, .slice ad3 ms.length cap3, .string bd] (0, 0) _ rfl F9.out.1 Tryz.underlying28 rfl (by kernel_rfl)) rfl ⟨_, _, rfl, I9.out, F9.out.2⟩
/-- a node that only votes -/
structure Vd (n : Nd) (T V ix st : Int) : Prop where
  me : n.me = 0
  tm : n.tm = T
  vt : n.vt = V
  bi : n.bi = ix
  bt : n.bt = st
  bd : n.bd = ⟨#[]⟩
  rl : n.rl = 0
  df : n.df ≤ 0
theorem Vd.ri {T V ix st : Int} (g : Vd n T V ix st) (t : Int) : Vd (ndRi n t) t (-1) ix st := by
  unfold ndRi ndFo
  rw [if_pos (show ({ n with tm := t, vt := -1 } : Nd).rl = 0 from g.rl)]
  exact ⟨g.me, rfl, rfl, g.bi, g.bt, g.bd, rfl, g.df⟩
theorem Vd.gv {T V ix st : Int} (g : Vd n T V ix st) (es : List En) (m : Ms) : Vd (ndGv n es m) T (if gvU n es m then m.fr else V) ix st := by
  unfold ndGv
  cases gvU n es m
  · exact g
  · exact ⟨g.me, g.tm, rfl, g.bi, g.bt, g.bd, g.rl, g.df⟩
theorem Vd.new (tm vt ix st : Int) (ms : List Int) (dr : Int) (bm lg ga : Value) : Vd (ndWa (ndN 0 tm vt ⟨ix, st, ms, ⟨#[]⟩⟩ dr bm lg ga)) tm vt ix st := ⟨rfl, rfl, rfl, rfl, rfl, rfl, rfl, Int.le_refl 0⟩
/-- whether a voter gives its vote -/
def yeV (V fr at_ of_ ix st : Int) : Bool := (decide (V = -1) || decide (V = fr)) && utD at_ of_ ix st
theorem Vd.gvU {T V ix st : Int} (g : Vd n T V ix st) (m : Ms) (hm : m.tm = T) : gvU n [] m = yeV V m.fr m.ix m.lt ix st := by
  unfold Go.Proofs.YtnldjcoajliciaaGreat.gvU yeV
  rw [g.tm, g.vt, g.bi, g.bt, decide_eq_true hm, Bool.true_and]
  simp [ltT]
def L7 : List Int := [0, 1, 2, 3, 4, 5, 6]
def vm (fr t at_ of_ : Int) : Ms := ⟨1, fr, 0, t, at_, of_, 0, 0, 0, false, [], ⟨#[]⟩⟩
theorem vm_ok {fr t at_ of_ : Int} (h1 : 1 ≤ fr ∧ fr ≤ 6) (h2 : 0 ≤ t ∧ t ≤ 1000000) (h3 : 0 ≤ at_ ∧ at_ ≤ 1000000) (h4 : 0 ≤ of_ ∧ of_ ≤ t) : msOk (vm fr t at_ of_) = true := by
  refine (mo_ok (m := vm fr t at_ of_) (by simp [vm]) (by simp [vm]) (by show (decide (0 ≤ fr) && decide (fr < 7)) = true; rw [decide_eq_true (show 0 ≤ fr by omega), decide_eq_true (show fr < 7 by omega)]; rfl) rfl (by show fr ≠ 0; omega) (fun k hk => ?_) h4.2 (by simp [vm]) (by show ((ByteArray.mk #[]).size : Int) ≤ 4096; decide)).trans rfl
  have : ∀ x ∈ (vm fr t at_ of_).nm, tmB x = true := by
    intro x hx
    have hx : x ∈ [1, fr, 0, t, at_, of_, 0, 0, 0] := hx
    simp only [List.mem_cons, List.not_mem_nil, or_false] at hx
    exact tmB_ok (by rcases hx with e | e | e | e | e | e | e | e | e <;> omega) (by rcases hx with e | e | e | e | e | e | e | e | e <;> omega)
  exact this _ (nm_at _ k hk)
/-- what a voter answers -/
theorem vstep {T V ix st fr t at_ of_ : Int} (h : NdI w B nb n L7 []) (g : Vd n T V ix st) (h0 : 0 ≤ ix ∧ ix ≤ 1000) (h1 : 0 ≤ st) (h2 : 0 ≤ T) (h3 : T ≤ t) (h4 : t ≤ 1000000) (h5 : 1 ≤ fr ∧ fr ≤ 6) (h6 : 0 ≤ at_ ∧ at_ ≤ 1000000) (h7 : 0 ≤ of_ ∧ of_ ≤ t) :
    Calls Tryz.prog 8 #[.pointer (some ⟨nb, 0, none⟩), .agg #[.int .i64 1, .int .i64 fr, .int .i64 0, .int .i64 t, .int .i64 at_, .int .i64 of_, .int .i64 0, .int .i64 0, .int .i64 0, .bool false, .slice none 0 0, .string ⟨#[]⟩]] w fun e w' =>
      ∃ b n', e = .returned (.slice (some ⟨b, 0, none⟩) 1 1) ∧ w.heap.size ≤ b ∧ RowIs w' b [.int .i64 2, .int .i64 0, .int .i64 fr, .int .i64 t, .int .i64 0, .int .i64 0, .int .i64 0, .int .i64 0, .int .i64 0, .bool (yeV (if T < t then -1 else V) fr at_ of_ ix st), .slice none 0 0, .string ⟨#[]⟩] 40 ∧ NdI w' B nb n' L7 [] ∧ Vd n' t (if yeV (if T < t then -1 else V) fr at_ of_ ix st then fr else (if T < t then -1 else V)) ix st ∧ Below B w w' := by
  have hne : L7 ≠ [] := by simp [L7]
  have ho := vm_ok h5 ⟨by omega, h4⟩ h6 h7
  by_cases hu : T < t
  · have q := nstep_rise h hne (by simp) (by rw [g.bi]; omega) (by rw [g.bi]; omega) (.slice none 0 0) (vm fr t at_ of_) (mgE_ents w) (by simp [vm]) ho g.me.symm rfl g.rl g.df (by rw [g.tm]; omega) (by rw [g.tm]; omega) (by rw [g.tm]; exact hu)
    have g1 := g.ri t
    have e1 : gvU (ndRi n (vm fr t at_ of_).tm) [] (vm fr t at_ of_) = yeV (-1) fr at_ of_ ix st := g1.gvU (vm fr t at_ of_) rfl
    have g2 := g1.gv [] (vm fr t at_ of_)
    rw [if_pos hu]
    refine Calls.mono q ?_
    rintro e w' ⟨b, he, hb, hr, hg⟩
    rw [e1] at hr
    rw [show gvU (ndRi n t) [] (vm fr t at_ of_) = yeV (-1) fr at_ of_ ix st from e1] at g2
    rw [g.me] at hr
    exact ⟨b, _, he, hb, hr, hg.nd, g2, h.bel hg (Nat.le_refl _)⟩
  · have et : t = T := by omega
    subst et
    have q := nstep_stay h hne (by simp) (by rw [g.bi]; omega) (by rw [g.bi]; omega) (.slice none 0 0) (vm fr t at_ of_) (mgE_ents w) (by simp [vm]) ho g.me.symm rfl g.rl g.df (by rw [g.tm]; omega) (by rw [g.tm]; omega) (by rw [g.tm]; exact Int.le_refl _)
    have e1 : gvU n [] (vm fr t at_ of_) = yeV V fr at_ of_ ix st := g.gvU (vm fr t at_ of_) rfl
    have g2 := g.gv [] (vm fr t at_ of_)
    rw [if_neg hu]
    refine Calls.mono q ?_
    rintro e w' ⟨b, he, hb, hr, hg⟩
    rw [e1] at hr
    rw [e1] at g2
    rw [g.me, g.tm] at hr
    exact ⟨b, _, he, hb, hr, hg.nd, g2, h.bel hg (Nat.le_refl _)⟩
end
end Go.Proofs.YtnldjcoajliciaaGreat
namespace Go.Proofs.YtnldjcoajliciaaGreat
open Go.RowKit Go.Maps
set_option linter.unusedVariables false
set_option linter.unusedSimpArgs false

def shA : Sh := ⟨0, 0, [0], ⟨#[]⟩⟩
def enN : En := ⟨1, 1, ⟨#[]⟩⟩
def enX : En := ⟨1, 0, ⟨#[120]⟩⟩
def nW (bm lg ga : Value) (k : Nat) : Nd := { ndN 0 0 (-1) shA 0 bm lg ga with wt := 10, wd := (k : Int) }
def pL1 : List Int := [1, 0, 0, -1, 0, 1, 0, 0, -1, 0, 1, 0, 0, -1, 0, 1, 0, 0, -1, 0, 1, 0, 0, -1, 0, 1, 0, 0, -1, 0, 1, 0, 0, -1, 0]
def vsL : List Bool := [true, false, false, false, false, false, false]
def nL (bm ga : Value) (cm : Int) (lg : Value) : Nd := ⟨0, 1, 0, 0, 0, bm, ⟨#[]⟩, lg, cm, 2, 0, 0, 10, 0, 0, ga, 0, 0, .slice none 0 0, ⟨#[]⟩, false, vsL.map .bool, 0, 0, pL1.map (.int .i64)⟩
theorem nW_first (bm lg ga : Value) : ndWa (ndN 0 0 (-1) shA 0 bm lg ga) = nW bm lg ga 0 := by kernel_rfl
theorem nW_next (bm lg ga : Value) (k : Nat) : ndTk (nW bm lg ga k) 0 = nW bm lg ga (k + 1) := by
  unfold ndTk nW
  rw [show max (({ ndN 0 0 (-1) shA 0 bm lg ga with wt := 10, wd := (k : Int) } : Nd).df - 1) 0 = 0 from by kernel_rfl]
  rw [show (({ ndN 0 0 (-1) shA 0 bm lg ga with wt := 10, wd := (k : Int) } : Nd).wd + 1) = ((k + 1 : Nat) : Int) from by show (k : Int) + 1 = _; omega]
  rfl
theorem mb0 : mbL [0] [] = [0] := by kernel_rfl
theorem mb1 : mbL [0] [enN] = [0] := by kernel_rfl
theorem mb2 : mbL [0] ([enN] ++ [enX]) = [0] := by kernel_rfl
section
variable {W : World} {B nb : Nat} {bm lg ga : Value}
theorem wait_tick {k : Nat} (h : NdI W B nb (nW bm lg ga k) [0] []) (hk : k < 9) : Calls Tryz.prog 11 #[.pointer (some ⟨nb, 0, none⟩), .int .i64 0] W fun e w' => e = .returned (.slice none 0 0) ∧ NdG W B nb (nW bm lg ga k) w' (nW bm lg ga (k + 1)) [0] [] := by
  have := ntick_wait h (by simp) 0 ⟨of_decide_eq_true (by kernel_rfl), of_decide_eq_true (by kernel_rfl)⟩ ⟨by show (0 : Int) ≤ (k : Int); omega, by show (k : Int) ≤ 1000; omega⟩ (of_decide_eq_true (by kernel_rfl)) (by show (k : Int) + 1 < 10; omega)
  rw [nW_next] at this
  exact this
theorem lay_n {lg : Value} (h : NdI W B nb (nL bm ga 0 lg) [0] []) : Calls Tryz.prog 37 #[.pointer (some ⟨nb, 0, none⟩), .int .i64 1, .string ⟨#[]⟩] W fun e w' => e = .returned (.tuple #[.int .i64 1, .slice none 0 0]) ∧ ∃ lg', NdG W B nb (nL bm ga 0 lg) w' (nL bm ga 1 lg') [0] [enN] := by
  have hne : ([0] : List Int) ≠ [] := by simp
  have hd0 : ∀ x ∈ ([] : List En), x.da.size ≤ 140737488355328 := fun x hx => by simp at hx
  exact nlay_alone h hne (of_decide_eq_true (by kernel_rfl)) (of_decide_eq_true (by kernel_rfl)) hd0 (of_decide_eq_true (by kernel_rfl)) (of_decide_eq_true (by kernel_rfl)) (by kernel_rfl) pL1 (by kernel_rfl) (by kernel_rfl) (by kernel_rfl) 1 ⟨#[]⟩ (of_decide_eq_true (by kernel_rfl)) mb1 (by kernel_rfl) (of_decide_eq_true (by kernel_rfl))
theorem lead_tick (h : NdI W B nb (nW bm lg ga 9) [0] []) : Calls Tryz.prog 11 #[.pointer (some ⟨nb, 0, none⟩), .int .i64 0] W fun e w' => e = .returned (.slice none 0 0) ∧ ∃ lg', NdG W B nb (nW bm lg ga 9) w' (nL bm ga 1 lg') [0] [enN] := by
  have hne : ([0] : List Int) ≠ [] := by simp
  have hd0 : ∀ x ∈ ([] : List En), x.da.size ≤ 140737488355328 := fun x hx => by simp at hx
  refine ntick_stand h hne 0 ⟨of_decide_eq_true (by kernel_rfl), of_decide_eq_true (by kernel_rfl)⟩ ⟨of_decide_eq_true (by kernel_rfl), of_decide_eq_true (by kernel_rfl)⟩ (of_decide_eq_true (by kernel_rfl)) (of_decide_eq_true (by kernel_rfl)) (nL bm ga 1) [enN] ?_ ?_
  · intro W2 g
    rw [nW_next] at g
    have := nmayStand_mem g.nd hne (of_decide_eq_true (by kernel_rfl)) (of_decide_eq_true (by kernel_rfl)) hd0 (by rw [mb0]; exact of_decide_eq_true (by kernel_rfl)) (of_decide_eq_true (by kernel_rfl)) (by rw [mb0]; exact of_decide_eq_true (by kernel_rfl))
    exact this
  · intro W2 g
    rw [nW_next] at g
    have hs := nstand_of g.nd (of_decide_eq_true (by kernel_rfl)) (by kernel_rfl) (by kernel_rfl) 1 (by kernel_rfl) (of_decide_eq_true (by kernel_rfl)) (of_decide_eq_true (by kernel_rfl)) (nL bm ga 1) [enN] ?_ ?_
    · exact hs.mono fun e w' ⟨he, lg', g2⟩ => ⟨he, lg', g.trans g2⟩
    · intro W3 g3
      have := nchosen_any g3.nd hne (of_decide_eq_true (by kernel_rfl)) (of_decide_eq_true (by kernel_rfl)) hd0 (by rw [mb0]; exact of_decide_eq_true (by kernel_rfl)) vsL (by kernel_rfl) (by kernel_rfl)
      rw [mb0, show engC [0] ((nodesF 7 0).filter (fun k => vsL.getD k.toNat false)) = true from by kernel_rfl] at this
      exact this
    · intro W3 g3
      have hl := nlead_of g3.nd hne (of_decide_eq_true (by kernel_rfl)) (of_decide_eq_true (by kernel_rfl)) (of_decide_eq_true (by kernel_rfl)) (by kernel_rfl) (by kernel_rfl) 1 (nL bm ga 1) [enN] ?_
      · exact hl.mono fun e w' ⟨he, lg', g4⟩ => ⟨he, lg', g3.trans g4⟩
      · intro W4 g4
        have e4 : ({ (ndSt (nW bm lg ga 10) 1) with rl := 2, ld := (ndSt (nW bm lg ga 10) 1).me, rn := 0, be := 0, ps := psF (ndSt (nW bm lg ga 10) 1).ps ((ndSt (nW bm lg ga 10) 1).bi + (([] : List En).length : Int) + 1) 7 } : Nd) = nL bm ga 0 lg := by kernel_rfl
        have g5 : NdG W3 B nb (ndSt (nW bm lg ga 10) 1) W4 (nL bm ga 0 lg) [0] [] := by rw [← e4]; exact g4
        exact (lay_n g5.nd).mono fun e w' ⟨he, lg', g6⟩ => ⟨he, lg', g5.trans g6⟩
theorem lay_x (h : NdI W B nb (nL bm ga 1 lg) [0] [enN]) : Calls Tryz.prog 12 #[.pointer (some ⟨nb, 0, none⟩), .string ⟨#[120]⟩] W fun e w' => e = .returned (.tuple #[.int .i64 2, .slice none 0 0, .int .i64 0]) ∧ ∃ lg', NdG W B nb (nL bm ga 1 lg) w' (nL bm ga 2 lg') [0] ([enN] ++ [enX]) := by
  have hne : ([0] : List Int) ≠ [] := by simp
  have hd1 : ∀ x ∈ [enN], x.da.size ≤ 140737488355328 := fun x hx => by simp at hx; subst hx; decide
  refine npropose_of h hne (by kernel_rfl) ⟨#[120]⟩ (of_decide_eq_true (by kernel_rfl)) 2 (nL bm ga 2) ([enN] ++ [enX]) ?_
  intro W2 g
  have hy := nlay_alone g.nd hne (of_decide_eq_true (by kernel_rfl)) (of_decide_eq_true (by kernel_rfl)) hd1 (of_decide_eq_true (by kernel_rfl)) (of_decide_eq_true (by kernel_rfl)) (by kernel_rfl) pL1 (by kernel_rfl) (by kernel_rfl) (by kernel_rfl) 0 ⟨#[120]⟩ (of_decide_eq_true (by kernel_rfl)) (by exact mb2) (by kernel_rfl) (of_decide_eq_true (by kernel_rfl))
  exact hy.mono fun e w' ⟨he, lg', g5⟩ => ⟨he, lg', g.trans g5⟩
end
set_option maxRecDepth 100000 in
set_option maxHeartbeats 4000000 in
theorem awake10 (w : World) : Calls Tryz.prog 7 #[] w fun e w' => e = .returned (.bool true) ∧ Below w.heap.size w w' := by
  have hne : ([0] : List Int) ≠ [] := by simp
  have r0 : RowIs (w.alloc (.cells #[.int .i64 0] 3)) w.heap.size (isC [0]) 3 := srow w (isC [0]) 3
  have b0 : Below w.heap.size w (w.alloc (.cells #[.int .i64 0] 3)) := below_al (Below.refl _ _) _
  have cn := nnew_ok 0 0 (-1) (.slice (some ⟨w.heap.size, 0, none⟩) 1 1) shA (.slice none 0 0) [] 0 (w.alloc (.cells #[.int .i64 0] 3)) (row_ints r0) (.inl ⟨none, 0, rfl, rfl⟩) (by decide) (fun x hx => by simp at hx) (by decide) (by decide) (by decide) (.inl rfl) (by decide) (by decide)
  have CN := hid cn
  unfold shV shA at CN
  simp only at CN
  have B0 := hid b0
  clear r0 b0 cn
  go_enter Tryz.func7, Tryz.ntmps7
  go_wp2_with fail
  refine CN.out.mono ?_
  rintro e w1 ⟨nb, bm, lg, ga, rfl, hn, b1⟩
  have hn' : NdI w1 (w.alloc (.cells #[.int .i64 0] 3)).heap.size nb (nW bm lg ga 0) [0] [] := by rw [← nW_first]; exact hn
  have HG : Hid (NdG w1 (w.alloc (.cells #[.int .i64 0] 3)).heap.size nb (nW bm lg ga 0) w1 (nW bm lg ga 0) [0] []) := NdG.refl hn'
  have HB : Hid (∀ w2 n2 e2, NdG w1 (w.alloc (.cells #[.int .i64 0] 3)).heap.size nb (nW bm lg ga 0) w2 n2 [0] e2 → Below w.heap.size w w2) := fun w2 n2 e2 g => (below_on B0.out b1).trans (hn'.bel g (by simp))
  clear CN hn hn' b1 B0
  generalize (w.alloc (.cells #[.int .i64 0] 3)).heap.size = B at *
  go_wp2
  go_loopw [3] (fun i wr => ∃ (k : Nat), k ≤ 10 ∧ i = .int .i64 (k : Int) ∧ Hid ((k < 10 ∧ NdG w1 B nb (nW bm lg ga 0) wr (nW bm lg ga k) [0] []) ∨ (k = 10 ∧ ∃ lg', NdG w1 B nb (nW bm lg ga 0) wr (nL bm ga 1 lg') [0] [enN]))) (fun i _ => 10 - (intOf i).toNat)
  case atStart => exact ⟨0, by omega, rfl, .inl ⟨by omega, HG.out⟩⟩
  case round =>
    clear HG
    obtain ⟨k, hk, rfl, HS⟩ := hrel
    by_cases hlt : k < 10
    · have r1 : (k : Int) < 10 := by omega
      have g1 := (HS.out.resolve_right (by omega)).2
      have TK : Hid (Calls Tryz.prog 11 #[.pointer (some ⟨nb, 0, none⟩), .int .i64 0] wr fun e w' => e = .returned (.slice none 0 0) ∧ Hid ((k + 1 < 10 ∧ NdG w1 B nb (nW bm lg ga 0) w' (nW bm lg ga (k + 1)) [0] []) ∨ (k + 1 = 10 ∧ ∃ lg', NdG w1 B nb (nW bm lg ga 0) w' (nL bm ga 1 lg') [0] [enN]))) := by
        by_cases h9 : k < 9
        · exact (wait_tick g1.nd h9).mono fun e w' ⟨he, g⟩ => ⟨he, .inl ⟨by omega, g1.trans g⟩⟩
        · have hk9 : k = 9 := by omega
          subst hk9
          exact (lead_tick g1.nd).mono fun e w' ⟨he, lg', g⟩ => ⟨he, .inr ⟨rfl, lg', g1.trans g⟩⟩
      clear HS g1 HB
      go_wp2_with fail
      refine TK.out.mono ?_
      rintro e w2 ⟨rfl, H2⟩
      clear TK
      go_wp2
      exact ⟨⟨k + 1, by omega, by go_num, H2⟩, by simp [intOf]; omega⟩
    · have hk9 : k = 10 := by omega
      subst hk9
      obtain ⟨lg1, g1⟩ := (HS.out.resolve_left (by omega)).2
      have LX := hid (lay_x g1.nd)
      have G1 := hid g1
      clear HS hk hlt g1
      go_wp2_with fail
      refine LX.out.mono ?_
      rintro e w2 ⟨rfl, lg2, g2⟩
      have G2 := hid (G1.out.trans g2)
      have EN := hid (nentry_in G2.out.nd hne (of_decide_eq_true (by kernel_rfl)) (of_decide_eq_true (by kernel_rfl)) (of_decide_eq_true (by kernel_rfl)) 1 (of_decide_eq_true (by kernel_rfl)) (of_decide_eq_true (by kernel_rfl)) 2 (by kernel_rfl))
      simp only [List.cons_append, List.nil_append, List.getElem_cons_succ, List.getElem_cons_zero] at EN
      unfold enX at EN
      simp only at EN
      clear LX G1 g2
      go_wp2_with fail
      refine EN.out.mono ?_
      rintro e w3 ⟨rfl, b3⟩
      have G3 := hid (G2.out.next (below_al b3 (.cells #[.int .i64 1, .int .i64 0, .string ⟨#[120]⟩] 52)))
      have y2 := (srow w3 [.int .i64 1, .int .i64 0, .string ⟨#[120]⟩] 52).cellAt (o := 2) rfl
      have RO := hid (nrole_any G3.out.nd hne)
      have CM := hid (ncommit_any G3.out.nd hne)
      have BF := hid (HB.out _ _ _ G3.out)
      clear EN b3 G2 HB
      go_wp2_with fail
      refine RO.out.mono ?_
      rintro e w4 ⟨rfl, rfl⟩
      clear RO
      go_wp2_with fail
      refine CM.out.mono ?_
      rintro e w5 ⟨rfl, rfl⟩
      clear CM
      go_wp2
      go_ret
      exact ⟨rfl, BF.out⟩
end Go.Proofs.YtnldjcoajliciaaGreat
