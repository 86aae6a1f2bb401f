/- Joined: A node: a tick in which it waits, and one in which it stands; a command that is laid; an entry that is told; its role, and what is committed. A node tells an entry; the law's own small run: it answers true. The law's own small run: it answers true. -/
import Derived.Test.YtlkidnfgodficaaGreatJoined21
import Derived.Laws.ResultCell
namespace Go.Proofs.YtlkidnfgodficaaGreat
open Go.RowKit Go.Maps
set_option linter.unusedVariables false
set_option linter.unusedSimpArgs false

section
variable {w w1 : World} {B nb : Nat} {n : Nd} {ms : List Int} {es : List En}
set_option maxRecDepth 100000 in
set_option maxHeartbeats 1000000 in
theorem nmayStand_mem (h : NdI w B nb n ms es) (hne : ms ≠ []) (hm : ms.length ≤ 17592186044416) (hl : es.length ≤ 17592186044416) (hd : ∀ x ∈ es, x.da.size ≤ 140737488355328) (hq : (mbL ms es).length ≤ 9223372036854775807) (ht : n.tm < 1099511627776) (hM : hasI n.me (mbL ms es) = true) :
    Calls Tryz.prog 77 #[.pointer (some ⟨nb, 0, none⟩)] w fun e w' => e = .returned (.bool true) ∧ Below w.heap.size w w' := by
  have IM := hid (nisMember_any h hne hm hl hd hq n.me)
  rw [hM] at IM
  have c0 := h.bx.cellAt (o := 0) rfl
  have c1 := h.bx.cellAt (o := 1) rfl
  have d1 : decide (n.tm < 1099511627776) = true := decide_eq_true ht
  generalize n.tm = tm at *
  generalize n.me = me at *
  clear h hne hm hl hd hq ht hM
  go_enter Tryz.func77, Tryz.ntmps77
  go_wp2_with fail
  refine IM.out.mono ?_
  rintro e w1 ⟨rfl, b1⟩
  have B1 := hid b1
  clear IM b1
  go_wp2
  go_ret
  exact ⟨rfl, B1.out⟩
/-- a node whose wait goes on by a tick -/
def ndTk (n : Nd) (d : Int) : Nd := { n with dr := d, df := max (n.df - 1) 0, wd := n.wd + 1 }
theorem ntick_end (h : NdI w B nb n ms es) (d : Int) : NdG w B nb n (((w.setCell ⟨nb, 11, none⟩ (.int .i64 d)).setCell ⟨nb, 14, none⟩ (.int .i64 (max (n.df - 1) 0))).setCell ⟨nb, 13, none⟩ (.int .i64 (n.wd + 1))) (ndTk n d) ms es := by
  have k1 := h.put (n1 := { n with dr := d }) 11 (.int .i64 d) rfl rfl rfl
  have k2 := k1.trans (k1.nd.put (n1 := { n with dr := d, df := max (n.df - 1) 0 }) 14 (.int .i64 (max (n.df - 1) 0)) rfl rfl rfl)
  exact k2.trans (k2.nd.put (n1 := ndTk n d) 13 (.int .i64 (n.wd + 1)) rfl rfl rfl)
set_option maxRecDepth 100000 in
set_option maxHeartbeats 2000000 in
theorem ntick_wait (h : NdI w B nb n ms es) (hne : ms ≠ []) (d : Int) (hdf : 0 ≤ n.df ∧ n.df ≤ 1000) (hwd : 0 ≤ n.wd ∧ n.wd ≤ 1000) (hrl : n.rl ≠ 2) (hw : n.wd + 1 < n.wt) :
    Calls Tryz.prog 28 #[.pointer (some ⟨nb, 0, none⟩), .int .i64 d] w fun e w' => e = .returned (.slice none 0 0) ∧ NdG w B nb n w' (ndTk n d) ms es := by
  have IN := hid (nisNone_any h hne)
  have c9 := h.bx.cellAt (o := 9) rfl
  have c11 := h.bx.cellAt (o := 11) rfl
  have c12 := h.bx.cellAt (o := 12) rfl
  have c13 := h.bx.cellAt (o := 13) rfl
  have c14 := h.bx.cellAt (o := 14) rfl
  have f11 := h.bx.frozen (o := 11)
  have f13 := h.bx.frozen (o := 13)
  have f14 := h.bx.frozen (o := 14)
  have FIN := hid (fun q => (ntick_end h d).drewN q)
  have w1 : wrap64 (n.df - 1) = n.df - 1 := IntWalk.wrap64_in _ (by omega)
  have w2 : wrap64 (n.wd + 1) = n.wd + 1 := IntWalk.wrap64_in _ (by omega)
  have d1 : decide (n.rl = 2) = false := decide_eq_false hrl
  have d1b : (n.rl == 2) = false := by rw [beq_eq_false_iff_ne]; exact hrl
  have d2 : decide (n.wd + 1 < n.wt) = true := decide_eq_true hw
  have m1 : (if n.df - 1 < 0 then 0 else n.df - 1) = max (n.df - 1) 0 := by split <;> omega
  have m2 : max 0 (n.df - 1) = max (n.df - 1) 0 := by omega
  generalize ndTk n d = n2 at *
  generalize n.rl = rl at *
  generalize n.df = df at *
  generalize n.wd = wd at *
  generalize n.wt = wt at *
  clear h hne hdf hwd hrl hw
  go_enter Tryz.func28, Tryz.ntmps28
  go_wp2_with fail
  refine IN.out.mono ?_
  rintro e w1 ⟨rfl, rfl⟩
  clear IN
  go_wp2
  go_quiet (fail)
  go_wp2
  go_ret
  exact ⟨rfl, FIN.out _⟩
set_option maxRecDepth 100000 in
set_option maxHeartbeats 2000000 in
theorem ntick_stand (h : NdI w B nb n ms es) (hne : ms ≠ []) (d : Int) (hdf : 0 ≤ n.df ∧ n.df ≤ 1000) (hwd : 0 ≤ n.wd ∧ n.wd ≤ 1000) (hrl : n.rl ≠ 2) (hw : ¬ n.wd + 1 < n.wt) (n2 : Value → Nd) (es2 : List En)
    (hM : ∀ W, NdG w B nb n W (ndTk n d) ms es → Calls Tryz.prog 77 #[.pointer (some ⟨nb, 0, none⟩)] W fun e w' => e = .returned (.bool true) ∧ Below W.heap.size W w')
    (hS : ∀ W, NdG w B nb n W (ndTk n d) ms es → Calls Tryz.prog 78 #[.pointer (some ⟨nb, 0, none⟩)] W fun e w' => e = .returned (.slice none 0 0) ∧ ∃ lg', NdG w B nb n w' (n2 lg') ms es2) :
    Calls Tryz.prog 28 #[.pointer (some ⟨nb, 0, none⟩), .int .i64 d] w fun e w' => e = .returned (.slice none 0 0) ∧ ∃ lg', NdG w B nb n w' (n2 lg') ms es2 := by
  have HM := hid hM
  have HS := hid hS
  have IN := hid (nisNone_any h hne)
  have c9 := h.bx.cellAt (o := 9) rfl
  have c11 := h.bx.cellAt (o := 11) rfl
  have c12 := h.bx.cellAt (o := 12) rfl
  have c13 := h.bx.cellAt (o := 13) rfl
  have c14 := h.bx.cellAt (o := 14) rfl
  have f11 := h.bx.frozen (o := 11)
  have f13 := h.bx.frozen (o := 13)
  have f14 := h.bx.frozen (o := 14)
  have FIN := hid (fun q => (ntick_end h d).drewN q)
  have w1 : wrap64 (n.df - 1) = n.df - 1 := IntWalk.wrap64_in _ (by omega)
  have w2 : wrap64 (n.wd + 1) = n.wd + 1 := IntWalk.wrap64_in _ (by omega)
  have d1 : decide (n.rl = 2) = false := decide_eq_false hrl
  have d1b : (n.rl == 2) = false := by rw [beq_eq_false_iff_ne]; exact hrl
  have d2 : decide (n.wd + 1 < n.wt) = false := decide_eq_false hw
  have m1 : (if n.df - 1 < 0 then 0 else n.df - 1) = max (n.df - 1) 0 := by split <;> omega
  have m2 : max 0 (n.df - 1) = max (n.df - 1) 0 := by omega
  generalize ndTk n d = n2 at *
  generalize n.rl = rl at *
  generalize n.df = df at *
  generalize n.wd = wd at *
  generalize n.wt = wt at *
  clear h hne hdf hwd hrl hw hM hS
  go_enter Tryz.func28, Tryz.ntmps28
  go_wp2_with fail
  refine IN.out.mono ?_
  rintro e w1 ⟨rfl, rfl⟩
  clear IN
  go_wp2
  go_quiet (fail)
  have HM2 := hid (HM.out _ (FIN.out nq))
  clear HM
  go_wp2_with fail
  refine HM2.out.mono ?_
  rintro e w2 ⟨rfl, b2⟩
  have HS2 := hid (HS.out _ ((FIN.out nq).next b2))
  clear HM2 HS FIN b2
  go_wp2_with fail
  refine HS2.out.mono ?_
  rintro e w3 ⟨rfl, g3⟩
  have G3 := hid g3
  clear HS2 g3
  go_wp2
  go_ret
  exact ⟨rfl, G3.out⟩
set_option maxRecDepth 100000 in
set_option maxHeartbeats 1000000 in
theorem nrefuses_lead (h : NdI w B nb n ms es) (hne : ms ≠ []) (hrl : n.rl = 2) : Calls Tryz.prog 63 #[.pointer (some ⟨nb, 0, none⟩)] w fun e w' => e = .returned (.int .i64 0) ∧ w' = w := by
  have IN := hid (nisNone_any h hne)
  have c9 : w.cell? ⟨nb, 9, none⟩ = some (.int .i64 2) := by rw [← hrl]; exact h.bx.cellAt rfl
  clear h hne hrl
  go_enter Tryz.func63, Tryz.ntmps63
  go_wp2_with fail
  refine IN.out.mono ?_
  rintro e w1 ⟨rfl, rfl⟩
  clear IN
  go_wp2
  go_ret
  exact ⟨rfl, rfl⟩
set_option maxRecDepth 100000 in
set_option maxHeartbeats 1000000 in
theorem nrole_any (h : NdI w B nb n ms es) (hne : ms ≠ []) : Calls Tryz.prog 19 #[.pointer (some ⟨nb, 0, none⟩)] w fun e w' => e = .returned (.int .i64 n.rl) ∧ w' = w := by
  have IN := hid (nisNone_any h hne)
  have c9 := h.bx.cellAt (o := 9) rfl
  generalize n.rl = rl at *
  clear h hne
  go_enter Tryz.func19, Tryz.ntmps19
  go_wp2_with fail
  refine IN.out.mono ?_
  rintro e w1 ⟨rfl, rfl⟩
  clear IN
  go_wp2
  go_ret
  exact ⟨rfl, rfl⟩
set_option maxRecDepth 100000 in
set_option maxHeartbeats 1000000 in
theorem ncommit_any (h : NdI w B nb n ms es) (hne : ms ≠ []) : Calls Tryz.prog 18 #[.pointer (some ⟨nb, 0, none⟩)] w fun e w' => e = .returned (.int .i64 n.cm) ∧ w' = w := by
  have IN := hid (nisNone_any h hne)
  have c8 := h.bx.cellAt (o := 8) rfl
  generalize n.cm = cm at *
  clear h hne
  go_enter Tryz.func18, Tryz.ntmps18
  go_wp2_with fail
  refine IN.out.mono ?_
  rintro e w1 ⟨rfl, rfl⟩
  clear IN
  go_wp2
  go_ret
  exact ⟨rfl, rfl⟩
set_option maxRecDepth 100000 in
set_option maxHeartbeats 2000000 in
theorem npropose_of (h : NdI w B nb n ms es) (hne : ms ≠ []) (hrl : n.rl = 2) (da : ByteArray) (hda : da.size ≤ 65536) (at_ : Int) (n2 : Value → Nd) (es2 : List En)
    (hL : ∀ W, NdG w B nb n W n ms es → Calls Tryz.prog 64 #[.pointer (some ⟨nb, 0, none⟩), .int .i64 0, .string da] W fun e w' => e = .returned (.tuple #[.int .i64 at_, .slice none 0 0]) ∧ ∃ lg', NdG w B nb n w' (n2 lg') ms es2) :
    Calls Tryz.prog 23 #[.pointer (some ⟨nb, 0, none⟩), .string da] w fun e w' => e = .returned (.tuple #[.int .i64 at_, .slice none 0 0, .int .i64 0]) ∧ ∃ lg', NdG w B nb n w' (n2 lg') ms es2 := by
  have RF := hid (nrefuses_lead h hne hrl)
  have CL := hid (clone_any da w (by omega))
  have HG := hid (NdG.refl h)
  have HL := hid hL
  have d1 : decide ((da.size : Int) > 65536) = false := decide_eq_false (by omega)
  clear h hne hrl hL hda
  go_enter Tryz.func23, Tryz.ntmps23
  go_wp2_with fail
  refine RF.out.mono ?_
  rintro e w1 ⟨rfl, rfl⟩
  clear RF
  go_wp2_with fail
  refine CL.out.mono ?_
  rintro e w2 ⟨rfl, b2⟩
  have HL2 := hid (HL.out _ (HG.out.next b2))
  clear CL b2 HL HG
  go_wp2_with fail
  refine HL2.out.mono ?_
  rintro e w3 ⟨rfl, g3⟩
  have G3 := hid g3
  clear HL2 g3
  go_wp2
  go_ret3
  exact ⟨rfl, G3.out⟩
end
end Go.Proofs.YtlkidnfgodficaaGreat
namespace Go.Proofs.YtlkidnfgodficaaGreat
open Go.RowKit Go.Maps
set_option linter.unusedVariables false
set_option linter.unusedSimpArgs false

theorem ret_ctE {fn : Func} {p u : Tmp} {ty : TypeId} (h : fn.results = #[.cell p ty, .tmp u]) (tmps : Array Value) (w : World) (g : Nat) (cs : Array Value) (x : Value)
    (hp : tmps.getD p undef = .pointer (some ⟨g, 0, none⟩)) (hx : tmps.getD u undef = x) (hg : (loadVar ty ⟨g, 0, none⟩).run Tryz.prog w = .ok (.agg cs) w) :
    (results fn tmps).run Tryz.prog w = .ok (.tuple #[.agg cs, x]) w := by
  rw [results_cell_tmp h, hp, hx]
  simp [asAddr, hg, Result.andThen]
section
variable {w w1 : World} {B nb : Nat} {n : Nd} {ms : List Int} {es : List En}
set_option maxRecDepth 100000 in
set_option maxHeartbeats 4000000 in
theorem nentry_in (h : NdI w B nb n ms es) (hne : ms ≠ []) (hl : es.length ≤ 17592186044416) (hb0 : 0 ≤ n.bi) (hb1 : n.bi ≤ 1099511627776) (k : Nat) (hk : k < es.length) (hd : (es[k]).da.size ≤ 140737488355328) (i : Int) (hi : i = n.bi + k + 1) :
    Calls Tryz.prog 48 #[.pointer (some ⟨nb, 0, none⟩), .int .i64 i] w fun e w' => e = .returned (.tuple #[.agg #[.int .i64 (es[k]).tm, .int .i64 (es[k]).kd, .string (es[k]).da], .bool true]) ∧ Below w.heap.size w w' := by
  obtain ⟨W0, hW0⟩ : ∃ W0, W0 = w.alloc (.cells #[.int .i64 0, .int .i64 0, .string ⟨#[]⟩] 51) := ⟨_, rfl⟩
  have b0 : Below w.heap.size w W0 := by rw [hW0]; exact below_al (Below.refl _ _) _
  have r0 : RowIs W0 w.heap.size [.int .i64 0, .int .i64 0, .string ⟨#[]⟩] 51 := by rw [hW0]; exact srow w _ _
  have LA : Hid (Calls Tryz.prog 17 #[.pointer (some ⟨nb, 0, none⟩)] W0 fun e w' => e = .returned (.tuple #[.int .i64 (n.bi + es.length), .int .i64 (ltT n.bt es)]) ∧ Below W0.heap.size W0 w') := nlast_any (h.next b0) hne hl hb0 hb1
  have IN : Hid (∀ W, Below w.heap.size w W → Calls Tryz.prog 56 #[.pointer (some ⟨nb, 0, none⟩)] W fun e w' => e = .returned (.bool false) ∧ w' = W) := fun W b => nisNone_any (h.next b) hne
  have PL : Hid (∀ W, Below w.heap.size w W → Calls Tryz.prog 60 #[.pointer (some ⟨nb, 0, none⟩), .int .i64 i] W fun e w' => e = .returned (.int .i64 ((k + 1 : Nat) : Int)) ∧ w' = W) := fun W hW => nplace_any (h.next hW) _ _ (by omega) (by omega) (by omega)
  have CE : Hid (∀ W, Calls Tryz.prog 98 #[.agg #[.int .i64 (es[k]).tm, .int .i64 (es[k]).kd, .string (es[k]).da]] W fun e w' => e = .returned (.agg #[.int .i64 (es[k]).tm, .int .i64 (es[k]).kd, .string (es[k]).da]) ∧ Below W.heap.size W w') := fun W => centry_any (es[k]) W hd
  obtain ⟨ad, cap, c7, e7⟩ := h.lgf
  have hv := h.lo.ents
  rw [e7] at hv
  obtain ⟨ad', cap', e8, hc⟩ := hv.form
  cases e8
  obtain ⟨b, off, hb, hbl, d0, d1, d2⟩ := hc k hk
  subst hb
  have CS : Hid (∀ W, Below w.heap.size w W → W.cell? ⟨nb, 7, none⟩ = some (.slice (some ⟨b, off, none⟩) es.length cap) ∧ W.cell? ⟨b, off + k * 3, none⟩ = some (.int .i64 (es[k]).tm) ∧ W.cell? ⟨b, off + k * 3 + 1, none⟩ = some (.int .i64 (es[k]).kd) ∧ W.cell? ⟨b, off + k * 3 + 2, none⟩ = some (.string (es[k]).da)) := fun W hW => ⟨(hW.cell h.lt).trans c7, (hW.cell hbl).trans d0, (hW.cell hbl).trans d1, (hW.cell hbl).trans d2⟩
  have C3 : Hid (∀ W, Below w.heap.size w W → W.cell? ⟨nb, 3, none⟩ = some (.int .i64 n.bi)) := fun W hW => (h.next hW).bx.cellAt rfl
  have g1 : decide (i > n.bi + (es.length : Int)) = false := decide_eq_false (by omega)
  have g2 : decide (i ≤ n.bi) = false := decide_eq_false (by omega)
  have q0 : wrap64 (((k + 1 : Nat) : Int) - 1) = (k : Int) := by rw [IntWalk.wrap64_in _ (by omega)]; omega
  have q1 : IntKind.i64.wrap (((k + 1 : Nat) : Int) - 1) = (k : Int) := by rw [IntKind.wrap_i64]; omega
  have p0 : (0 : Int) ≤ (k : Int) := by omega
  have p1 : (k : Int) < (es.length : Int) := by omega
  have HLT := hid h.lt
  have B0 := hid b0
  have R0 := hid r0
  generalize ltT n.bt es = lt at *
  generalize hx : es[k] = x at *
  obtain ⟨tm, kd, da⟩ := x
  simp only at *
  clear h hne hl hb0 hb1 hk hd hi hv hc d0 d1 d2 c7 e7 b0 r0 hbl hx
  generalize n.bi = bi at *
  generalize es.length = N at *
  generalize k + 1 = k1 at *
  generalize bi + (N : Int) = s at *
  go_enter Tryz.func48, Tryz.ntmps48
  go_wp2_with fail
  rw [← hW0]
  refine LA.out.mono ?_
  rintro e w1 ⟨rfl, b1⟩
  have B1 := hid (below_on B0.out b1)
  have R1 := hid (R0.out.keep (b1.keep (fun _ => False)) (fun h => h))
  have IN2 := hid (IN.out w1 B1.out)
  have c3 := C3.out w1 B1.out
  clear LA IN b1 B0 R0 hW0 C3
  go_wp2_with fail
  refine IN2.out.mono ?_
  rintro e w2 ⟨rfl, rfl⟩
  clear IN2
  obtain ⟨x0, x1, x2, x3⟩ := CS.out _ B1.out.drew
  go_wp2
  have B3 := hid B1.out.drew
  have R3 : Hid (RowIs w2.drew w.heap.size [.int .i64 0, .int .i64 0, .string ⟨#[]⟩] 51) := R1.out
  clear B1 R1 c3
  refine wp_region_held_drew (S := fun W => W.cell? ⟨nb, 7, none⟩ = some (.slice (some ⟨b, off, none⟩) N cap) ∧ W.cell? ⟨b, off + k * 3, none⟩ = some (.int .i64 tm) ∧ W.cell? ⟨b, off + k * 3 + 1, none⟩ = some (.int .i64 kd) ∧ W.cell? ⟨b, off + k * 3 + 2, none⟩ = some (.string da)) (by kernel_rfl) ⟨x0, x1, x2, x3⟩ (fun hHeld => ?_)
  generalize w2.drew = V at *
  refine wpAnyH_take (i := 0) (v := ?vv1) rfl (by kernel_rfl) (by kernel_rfl) (by kernel_rfl) (fun _ _ _ h => h) (Or.inl ⟨by rfl, ?hy1⟩) (by assumption) ?rest1
  case hy1 => (intro w hSw; (try dsimp only at hSw); go_simp; first | done | with_reducible rfl)
  try simp only [Act.put, List.getElem_toArray, List.getElem_cons_succ, List.getElem_cons_zero, List.setIfInBounds_toArray, List.set_cons_zero, List.set_cons_succ]
  refine wpAnyH_take (i := 1) (v := ?vv2) rfl (by kernel_rfl) (by kernel_rfl) (by kernel_rfl) (fun _ _ _ h => h) (Or.inl ⟨by rfl, ?hy2⟩) (by assumption) ?rest2
  case hy2 => (intro w hSw; (try dsimp only at hSw); go_simp; first | done | with_reducible rfl)
  try simp only [Act.put, List.getElem_toArray, List.getElem_cons_succ, List.getElem_cons_zero, List.setIfInBounds_toArray, List.set_cons_zero, List.set_cons_succ]
  refine wpAnyH_take (i := 2) (v := ?vv3) rfl (by kernel_rfl) (by kernel_rfl) (by kernel_rfl) (fun _ _ _ h => h) (Or.inl ⟨by rfl, ?hy3⟩) (by assumption) ?rest3
  case hy3 => (intro w hSw; (try dsimp only at hSw); go_simp; first | done | with_reducible rfl)
  try simp only [Act.put, List.getElem_toArray, List.getElem_cons_succ, List.getElem_cons_zero, List.setIfInBounds_toArray, List.set_cons_zero, List.set_cons_succ]
  refine wpAnyH_take (i := 3) (v := ?vv4) rfl (by kernel_rfl) (by kernel_rfl) (by kernel_rfl) (fun _ _ _ h => h) (Or.inl ⟨by rfl, ?hy4⟩) (by assumption) ?rest4
  case hy4 => (intro w hSw; (try dsimp only at hSw); go_simp; first | done | with_reducible rfl)
  try simp only [Act.put, List.getElem_toArray, List.getElem_cons_succ, List.getElem_cons_zero, List.setIfInBounds_toArray, List.set_cons_zero, List.set_cons_succ]
  refine wpAnyH_take (i := 4) (v := ?vv5) rfl (by kernel_rfl) (by kernel_rfl) (by kernel_rfl) (fun _ _ _ h => h) (Or.inl ⟨by rfl, ?hy5⟩) (by assumption) ?rest5
  case hy5 => (intro w hSw; (try dsimp only at hSw); go_simp; first | done | with_reducible rfl)
  try simp only [Act.put, List.getElem_toArray, List.getElem_cons_succ, List.getElem_cons_zero, List.setIfInBounds_toArray, List.set_cons_zero, List.set_cons_succ]
  refine wpAnyH_take (i := 5) (v := ?vv6) rfl (by kernel_rfl) (by kernel_rfl) (by kernel_rfl) (fun _ _ _ h => h) (Or.inl ⟨by rfl, ?hy6⟩) (by assumption) ?rest6
  case hy6 => (intro w hSw; (try dsimp only at hSw); go_simp; first | done | with_reducible rfl)
  try simp only [Act.put, List.getElem_toArray, List.getElem_cons_succ, List.getElem_cons_zero, List.setIfInBounds_toArray, List.set_cons_zero, List.set_cons_succ]
  refine wpAnyH_ready (rs := [6]) (by kernel_rfl) (by simp) ?_
  refine AllReadyH.cons rfl (fun K hK => ?_) AllReadyH.nil
  go_simp
  refine (PL.out _ B3.out).mono ?_
  rintro e w4 ⟨rfl, rfl⟩
  clear PL hHeld
  go_wp2_with fail
  refine hK.out _ _ (CS.out _ B3.out) (fun hHeld => ?_)
  clear hK K
  try simp only [Act.put, List.getElem_toArray, List.getElem_cons_succ, List.getElem_cons_zero, List.setIfInBounds_toArray, List.set_cons_zero, List.set_cons_succ]
  refine wpAnyH_take (i := 7) (v := ?vv7) rfl (by kernel_rfl) (by kernel_rfl) (by kernel_rfl) (fun _ _ _ h => h) (Or.inl ⟨by rfl, ?hy7⟩) (by assumption) ?rest7
  case hy7 => (intro w hSw; (try dsimp only at hSw); go_simp; first | done | with_reducible rfl)
  try simp only [Act.put, List.getElem_toArray, List.getElem_cons_succ, List.getElem_cons_zero, List.setIfInBounds_toArray, List.set_cons_zero, List.set_cons_succ]
  refine wpAnyH_take (i := 8) (v := ?vv8) rfl (by kernel_rfl) (by kernel_rfl) (by kernel_rfl) (fun _ _ _ h => h) (Or.inl ⟨by rfl, ?hy8⟩) (by assumption) ?rest8
  case hy8 => (intro w hSw; (try dsimp only at hSw); go_simp; first | done | with_reducible rfl)
  try simp only [Act.put, List.getElem_toArray, List.getElem_cons_succ, List.getElem_cons_zero, List.setIfInBounds_toArray, List.set_cons_zero, List.set_cons_succ]
  refine wpAnyH_take (i := 9) (v := ?vv9) rfl (by kernel_rfl) (by kernel_rfl) (by kernel_rfl) (fun _ _ _ h => h) (Or.inl ⟨by rfl, ?hy9⟩) (by assumption) ?rest9
  case hy9 => (intro w hSw; (try dsimp only at hSw); go_simp; first | done | with_reducible rfl)
  try simp only [Act.put, List.getElem_toArray, List.getElem_cons_succ, List.getElem_cons_zero, List.setIfInBounds_toArray, List.set_cons_zero, List.set_cons_succ]
  refine wpAnyH_ready (rs := [10]) (by kernel_rfl) (by simp) ?_
  refine AllReadyH.cons rfl (fun K hK => ?_) AllReadyH.nil
  go_simp
  refine (CE.out _).mono ?_
  rintro e w5 ⟨rfl, b5⟩
  have B5 := hid (below_on B3.out b5)
  have R5 := hid (R3.out.keep (b5.keep (fun _ => False)) (fun h => h))
  clear CE b5 B3 R3 hHeld x0 x1 x2 x3
  go_wp2_with fail
  refine hK.out _ _ (CS.out _ B5.out) (fun hHeld => ?_)
  clear hK K
  try simp only [Act.put, List.getElem_toArray, List.getElem_cons_succ, List.getElem_cons_zero, List.setIfInBounds_toArray, List.set_cons_zero, List.set_cons_succ]
  refine wpAnyH_ready (rs := [11]) (by kernel_rfl) (by simp) ?_
  refine AllReadyH.cons rfl (fun K hK => ?_) AllReadyH.nil
  have z0 := R5.out.cellAt (o := 0) rfl
  have z1 := R5.out.cellAt (o := 1) rfl
  have z2 := R5.out.cellAt (o := 2) rfl
  have f0 := R5.out.frozen (o := 0)
  have f1 := R5.out.frozen (o := 1)
  have f2 := R5.out.frozen (o := 2)
  have R9 : Hid (RowIs (((w5.setCell ⟨w.heap.size, 0, none⟩ (.int .i64 tm)).setCell ⟨w.heap.size, 1, none⟩ (.int .i64 kd)).setCell ⟨w.heap.size, 2, none⟩ (.string da)) w.heap.size [.int .i64 tm, .int .i64 kd, .string da] 51) := ((R5.out.set 0 _).set 1 _).set 2 _
  have B9 : Hid (Below w.heap.size w (((w5.setCell ⟨w.heap.size, 0, none⟩ (.int .i64 tm)).setCell ⟨w.heap.size, 1, none⟩ (.int .i64 kd)).setCell ⟨w.heap.size, 2, none⟩ (.string da))) := B5.out.trans (keep_below (((keep_setCell _ _ _ _).trans (keep_setCell _ _ _ _)).trans (keep_setCell _ _ _ _)) (fun j hj e => by omega) B5.out.size)
  have Z9 := CS.out _ B9.out
  go_simp
  refine hK.out _ _ Z9 (fun hHeld => ?_)
  clear hK K
  try simp only [Act.put, List.getElem_toArray, List.getElem_cons_succ, List.getElem_cons_zero, List.setIfInBounds_toArray, List.set_cons_zero, List.set_cons_succ]
  refine wpAnyH_take (i := 12) (v := ?vv10) rfl (by kernel_rfl) (by kernel_rfl) (by kernel_rfl) (fun _ _ _ h => h) (Or.inl ⟨by rfl, ?hy10⟩) (by assumption) ?rest10
  case hy10 => (intro w hSw; (try dsimp only at hSw); go_simp; first | done | with_reducible rfl)
  try simp only [Act.put, List.getElem_toArray, List.getElem_cons_succ, List.getElem_cons_zero, List.setIfInBounds_toArray, List.set_cons_zero, List.set_cons_succ]
  refine wpAnyH_done (by kernel_rfl) ?_ _
  clear hHeld
  go_wp2
  refine bodyPost_ret (v := .tuple #[.agg #[.int .i64 tm, .int .i64 kd, .string da], .bool true]) (ret_ctE (p := 4) (u := 5) rfl _ _ w.heap.size _ _ rfl rfl (run_loadVar_row _ _ _ _ _ _ _ R9.out Tryz.underlying51 rfl (by kernel_rfl))) rfl ?_
  exact ⟨rfl, B9.out⟩
end
end Go.Proofs.YtlkidnfgodficaaGreat
namespace Go.Proofs.YtlkidnfgodficaaGreat
open Go.RowKit Go.Maps
set_option linter.unusedVariables false
set_option linter.unusedSimpArgs false

def shA : Sh := ⟨0, 0, [0], ⟨#[]⟩⟩
def enN : En := ⟨1, 1, ⟨#[]⟩⟩
def enX : En := ⟨1, 0, ⟨#[120]⟩⟩
def nW (bm lg ga : Value) (k : Nat) : Nd := { ndN 0 0 (-1) shA 0 bm lg ga with wt := 10, wd := (k : Int) }
def pL1 : List Int := [1, 0, 0, -1, 0, 1, 0, 0, -1, 0, 1, 0, 0, -1, 0, 1, 0, 0, -1, 0, 1, 0, 0, -1, 0, 1, 0, 0, -1, 0, 1, 0, 0, -1, 0]
def vsL : List Bool := [true, false, false, false, false, false, false]
def nL (bm ga : Value) (cm : Int) (lg : Value) : Nd := ⟨0, 1, 0, 0, 0, bm, ⟨#[]⟩, lg, cm, 2, 0, 0, 10, 0, 0, ga, 0, 0, .slice none 0 0, ⟨#[]⟩, false, vsL.map .bool, 0, 0, pL1.map (.int .i64)⟩
theorem nW_first (bm lg ga : Value) : ndWa (ndN 0 0 (-1) shA 0 bm lg ga) = nW bm lg ga 0 := by kernel_rfl
theorem nW_next (bm lg ga : Value) (k : Nat) : ndTk (nW bm lg ga k) 0 = nW bm lg ga (k + 1) := by
  unfold ndTk nW
  rw [show max (({ ndN 0 0 (-1) shA 0 bm lg ga with wt := 10, wd := (k : Int) } : Nd).df - 1) 0 = 0 from by kernel_rfl]
  rw [show (({ ndN 0 0 (-1) shA 0 bm lg ga with wt := 10, wd := (k : Int) } : Nd).wd + 1) = ((k + 1 : Nat) : Int) from by show (k : Int) + 1 = _; omega]
  rfl
theorem mb0 : mbL [0] [] = [0] := by kernel_rfl
theorem mb1 : mbL [0] [enN] = [0] := by kernel_rfl
theorem mb2 : mbL [0] ([enN] ++ [enX]) = [0] := by kernel_rfl
section
variable {W : World} {B nb : Nat} {bm lg ga : Value}
theorem wait_tick {k : Nat} (h : NdI W B nb (nW bm lg ga k) [0] []) (hk : k < 9) : Calls Tryz.prog 28 #[.pointer (some ⟨nb, 0, none⟩), .int .i64 0] W fun e w' => e = .returned (.slice none 0 0) ∧ NdG W B nb (nW bm lg ga k) w' (nW bm lg ga (k + 1)) [0] [] := by
  have := ntick_wait h (by simp) 0 ⟨of_decide_eq_true (by kernel_rfl), of_decide_eq_true (by kernel_rfl)⟩ ⟨by show (0 : Int) ≤ (k : Int); omega, by show (k : Int) ≤ 1000; omega⟩ (of_decide_eq_true (by kernel_rfl)) (by show (k : Int) + 1 < 10; omega)
  rw [nW_next] at this
  exact this
theorem lay_n {lg : Value} (h : NdI W B nb (nL bm ga 0 lg) [0] []) : Calls Tryz.prog 64 #[.pointer (some ⟨nb, 0, none⟩), .int .i64 1, .string ⟨#[]⟩] W fun e w' => e = .returned (.tuple #[.int .i64 1, .slice none 0 0]) ∧ ∃ lg', NdG W B nb (nL bm ga 0 lg) w' (nL bm ga 1 lg') [0] [enN] := by
  have hne : ([0] : List Int) ≠ [] := by simp
  have hd0 : ∀ x ∈ ([] : List En), x.da.size ≤ 140737488355328 := fun x hx => by simp at hx
  exact nlay_alone h hne (of_decide_eq_true (by kernel_rfl)) (of_decide_eq_true (by kernel_rfl)) hd0 (of_decide_eq_true (by kernel_rfl)) (of_decide_eq_true (by kernel_rfl)) (by kernel_rfl) pL1 (by kernel_rfl) (by kernel_rfl) (by kernel_rfl) 1 ⟨#[]⟩ (of_decide_eq_true (by kernel_rfl)) mb1 (by kernel_rfl) (of_decide_eq_true (by kernel_rfl))
theorem lead_tick (h : NdI W B nb (nW bm lg ga 9) [0] []) : Calls Tryz.prog 28 #[.pointer (some ⟨nb, 0, none⟩), .int .i64 0] W fun e w' => e = .returned (.slice none 0 0) ∧ ∃ lg', NdG W B nb (nW bm lg ga 9) w' (nL bm ga 1 lg') [0] [enN] := by
  have hne : ([0] : List Int) ≠ [] := by simp
  have hd0 : ∀ x ∈ ([] : List En), x.da.size ≤ 140737488355328 := fun x hx => by simp at hx
  refine ntick_stand h hne 0 ⟨of_decide_eq_true (by kernel_rfl), of_decide_eq_true (by kernel_rfl)⟩ ⟨of_decide_eq_true (by kernel_rfl), of_decide_eq_true (by kernel_rfl)⟩ (of_decide_eq_true (by kernel_rfl)) (of_decide_eq_true (by kernel_rfl)) (nL bm ga 1) [enN] ?_ ?_
  · intro W2 g
    rw [nW_next] at g
    have := nmayStand_mem g.nd hne (of_decide_eq_true (by kernel_rfl)) (of_decide_eq_true (by kernel_rfl)) hd0 (by rw [mb0]; exact of_decide_eq_true (by kernel_rfl)) (of_decide_eq_true (by kernel_rfl)) (by rw [mb0]; exact of_decide_eq_true (by kernel_rfl))
    exact this
  · intro W2 g
    rw [nW_next] at g
    have hs := nstand_of g.nd (of_decide_eq_true (by kernel_rfl)) (by kernel_rfl) (by kernel_rfl) 1 (by kernel_rfl) (of_decide_eq_true (by kernel_rfl)) (of_decide_eq_true (by kernel_rfl)) (nL bm ga 1) [enN] ?_ ?_
    · exact hs.mono fun e w' ⟨he, lg', g2⟩ => ⟨he, lg', g.trans g2⟩
    · intro W3 g3
      have := nchosen_any g3.nd hne (of_decide_eq_true (by kernel_rfl)) (of_decide_eq_true (by kernel_rfl)) hd0 (by rw [mb0]; exact of_decide_eq_true (by kernel_rfl)) vsL (by kernel_rfl) (by kernel_rfl)
      rw [mb0, show engC [0] ((nodesF 7 0).filter (fun k => vsL.getD k.toNat false)) = true from by kernel_rfl] at this
      exact this
    · intro W3 g3
      have hl := nlead_of g3.nd hne (of_decide_eq_true (by kernel_rfl)) (of_decide_eq_true (by kernel_rfl)) (of_decide_eq_true (by kernel_rfl)) (by kernel_rfl) (by kernel_rfl) 1 (nL bm ga 1) [enN] ?_
      · exact hl.mono fun e w' ⟨he, lg', g4⟩ => ⟨he, lg', g3.trans g4⟩
      · intro W4 g4
        have e4 : ({ (ndSt (nW bm lg ga 10) 1) with rl := 2, ld := (ndSt (nW bm lg ga 10) 1).me, rn := 0, be := 0, ps := psF (ndSt (nW bm lg ga 10) 1).ps ((ndSt (nW bm lg ga 10) 1).bi + (([] : List En).length : Int) + 1) 7 } : Nd) = nL bm ga 0 lg := by kernel_rfl
        have g5 : NdG W3 B nb (ndSt (nW bm lg ga 10) 1) W4 (nL bm ga 0 lg) [0] [] := by rw [← e4]; exact g4
        exact (lay_n g5.nd).mono fun e w' ⟨he, lg', g6⟩ => ⟨he, lg', g5.trans g6⟩
theorem lay_x (h : NdI W B nb (nL bm ga 1 lg) [0] [enN]) : Calls Tryz.prog 23 #[.pointer (some ⟨nb, 0, none⟩), .string ⟨#[120]⟩] W fun e w' => e = .returned (.tuple #[.int .i64 2, .slice none 0 0, .int .i64 0]) ∧ ∃ lg', NdG W B nb (nL bm ga 1 lg) w' (nL bm ga 2 lg') [0] ([enN] ++ [enX]) := by
  have hne : ([0] : List Int) ≠ [] := by simp
  have hd1 : ∀ x ∈ [enN], x.da.size ≤ 140737488355328 := fun x hx => by simp at hx; subst hx; decide
  refine npropose_of h hne (by kernel_rfl) ⟨#[120]⟩ (of_decide_eq_true (by kernel_rfl)) 2 (nL bm ga 2) ([enN] ++ [enX]) ?_
  intro W2 g
  have hy := nlay_alone g.nd hne (of_decide_eq_true (by kernel_rfl)) (of_decide_eq_true (by kernel_rfl)) hd1 (of_decide_eq_true (by kernel_rfl)) (of_decide_eq_true (by kernel_rfl)) (by kernel_rfl) pL1 (by kernel_rfl) (by kernel_rfl) (by kernel_rfl) 0 ⟨#[120]⟩ (of_decide_eq_true (by kernel_rfl)) (by exact mb2) (by kernel_rfl) (of_decide_eq_true (by kernel_rfl))
  exact hy.mono fun e w' ⟨he, lg', g5⟩ => ⟨he, lg', g.trans g5⟩
end
set_option maxRecDepth 100000 in
set_option maxHeartbeats 4000000 in
theorem awake10 (w : World) : Calls Tryz.prog 11 #[] w fun e w' => e = .returned (.bool true) ∧ Below w.heap.size w w' := by
  have hne : ([0] : List Int) ≠ [] := by simp
  have r0 : RowIs (w.alloc (.cells #[.int .i64 0] 3)) w.heap.size (isC [0]) 3 := srow w (isC [0]) 3
  have b0 : Below w.heap.size w (w.alloc (.cells #[.int .i64 0] 3)) := below_al (Below.refl _ _) _
  have cn := nnew_ok 0 0 (-1) (.slice (some ⟨w.heap.size, 0, none⟩) 1 1) shA (.slice none 0 0) [] 0 (w.alloc (.cells #[.int .i64 0] 3)) (row_ints r0) (.inl ⟨none, 0, rfl, rfl⟩) (by decide) (fun x hx => by simp at hx) (by decide) (by decide) (by decide) (.inl rfl) (by decide) (by decide)
  have CN := hid cn
  unfold shV shA at CN
  simp only at CN
  have B0 := hid b0
  clear r0 b0 cn
  go_enter Tryz.func11, Tryz.ntmps11
  go_wp2_with fail
  refine CN.out.mono ?_
  rintro e w1 ⟨nb, bm, lg, ga, rfl, hn, b1⟩
  have hn' : NdI w1 (w.alloc (.cells #[.int .i64 0] 3)).heap.size nb (nW bm lg ga 0) [0] [] := by rw [← nW_first]; exact hn
  have HG : Hid (NdG w1 (w.alloc (.cells #[.int .i64 0] 3)).heap.size nb (nW bm lg ga 0) w1 (nW bm lg ga 0) [0] []) := NdG.refl hn'
  have HB : Hid (∀ w2 n2 e2, NdG w1 (w.alloc (.cells #[.int .i64 0] 3)).heap.size nb (nW bm lg ga 0) w2 n2 [0] e2 → Below w.heap.size w w2) := fun w2 n2 e2 g => (below_on B0.out b1).trans (hn'.bel g (by simp))
  clear CN hn hn' b1 B0
  generalize (w.alloc (.cells #[.int .i64 0] 3)).heap.size = B at *
  go_wp2
  go_loopw [3] (fun i wr => ∃ (k : Nat), k ≤ 10 ∧ i = .int .i64 (k : Int) ∧ Hid ((k < 10 ∧ NdG w1 B nb (nW bm lg ga 0) wr (nW bm lg ga k) [0] []) ∨ (k = 10 ∧ ∃ lg', NdG w1 B nb (nW bm lg ga 0) wr (nL bm ga 1 lg') [0] [enN]))) (fun i _ => 10 - (intOf i).toNat)
  case atStart => exact ⟨0, by omega, rfl, .inl ⟨by omega, HG.out⟩⟩
  case round =>
    clear HG
    obtain ⟨k, hk, rfl, HS⟩ := hrel
    by_cases hlt : k < 10
    · have r1 : (k : Int) < 10 := by omega
      have g1 := (HS.out.resolve_right (by omega)).2
      have TK : Hid (Calls Tryz.prog 28 #[.pointer (some ⟨nb, 0, none⟩), .int .i64 0] wr fun e w' => e = .returned (.slice none 0 0) ∧ Hid ((k + 1 < 10 ∧ NdG w1 B nb (nW bm lg ga 0) w' (nW bm lg ga (k + 1)) [0] []) ∨ (k + 1 = 10 ∧ ∃ lg', NdG w1 B nb (nW bm lg ga 0) w' (nL bm ga 1 lg') [0] [enN]))) := by
        by_cases h9 : k < 9
        · exact (wait_tick g1.nd h9).mono fun e w' ⟨he, g⟩ => ⟨he, .inl ⟨by omega, g1.trans g⟩⟩
        · have hk9 : k = 9 := by omega
          subst hk9
          exact (lead_tick g1.nd).mono fun e w' ⟨he, lg', g⟩ => ⟨he, .inr ⟨rfl, lg', g1.trans g⟩⟩
      clear HS g1 HB
      go_wp2_with fail
      refine TK.out.mono ?_
      rintro e w2 ⟨rfl, H2⟩
      clear TK
      go_wp2
      exact ⟨⟨k + 1, by omega, by go_num, H2⟩, by simp [intOf]; omega⟩
    · have hk9 : k = 10 := by omega
      subst hk9
      obtain ⟨lg1, g1⟩ := (HS.out.resolve_left (by omega)).2
      have LX := hid (lay_x g1.nd)
      have G1 := hid g1
      clear HS hk hlt g1
      go_wp2_with fail
      refine LX.out.mono ?_
      rintro e w2 ⟨rfl, lg2, g2⟩
      have G2 := hid (G1.out.trans g2)
      have EN := hid (nentry_in G2.out.nd hne (of_decide_eq_true (by kernel_rfl)) (of_decide_eq_true (by kernel_rfl)) (of_decide_eq_true (by kernel_rfl)) 1 (of_decide_eq_true (by kernel_rfl)) (of_decide_eq_true (by kernel_rfl)) 2 (by kernel_rfl))
      simp only [List.cons_append, List.nil_append, List.getElem_cons_succ, List.getElem_cons_zero] at EN
      unfold enX at EN
      simp only at EN
      clear LX G1 g2
      go_wp2_with fail
      refine EN.out.mono ?_
      rintro e w3 ⟨rfl, b3⟩
      have G3 := hid (G2.out.next (below_al b3 (.cells #[.int .i64 1, .int .i64 0, .string ⟨#[120]⟩] 51)))
      have y2 := (srow w3 [.int .i64 1, .int .i64 0, .string ⟨#[120]⟩] 51).cellAt (o := 2) rfl
      have RO := hid (nrole_any G3.out.nd hne)
      have CM := hid (ncommit_any G3.out.nd hne)
      have BF := hid (HB.out _ _ _ G3.out)
      clear EN b3 G2 HB
      go_wp2_with fail
      refine RO.out.mono ?_
      rintro e w4 ⟨rfl, rfl⟩
      clear RO
      go_wp2_with fail
      refine CM.out.mono ?_
      rintro e w5 ⟨rfl, rfl⟩
      clear CM
      go_wp2
      go_ret
      exact ⟨rfl, BF.out⟩
end Go.Proofs.YtlkidnfgodficaaGreat
