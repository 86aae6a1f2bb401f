/- Joined: A node is made. A node: it stands and is chosen by itself; a tick; a command that is laid; an entry that is told. A node: a tick in which it waits, and one in which it stands; a command that is laid; an entry that is told; its role, and what is committed. A node tells an entry; the law's own small run: it answers true. The law's own small run: it answers true. A node that is none says nothing; a follower refuses; what a node says of itself. A node that may not be; what a follower refuses; a node's base; the law's list of its log. What the arms of RaftNew's walk share. The walk of RaftNew, arm 1. The walk of RaftNew, arm 2. -/
import Derived.Test.YtlkidnfgodficaaGreatJoined19
import Derived.Test.YtlkidnfgodficaaGreatJoined18
import Derived.Laws.ResultCell
namespace Go.Proofs.YtlkidnfgodficaaGreat
open Go.RowKit Go.Maps
set_option linter.unusedVariables false
set_option linter.unusedSimpArgs false

def vs0 : List Value := List.replicate 7 (.bool false)
def ps0 : List Value := List.replicate 35 (.int .i64 0)
/-- a node as it stands up -/
def ndN (me tm vt : Int) (s : Sh) (dr : Int) (bm lg ga : Value) : Nd := ⟨me, tm, vt, s.ix, s.tm, bm, s.da, lg, s.ix, 0, -1, dr, 0, 0, 0, ga, 0, 0, .slice none 0 0, ⟨#[]⟩, false, vs0, 0, 0, ps0⟩
theorem ndN_arr (me tm vt : Int) (s : Sh) (dr : Int) (bm lg ga : Value) : ((((((((((((Tryz.zeroCells106.setIfInBounds 0 (.int .i64 me)).setIfInBounds 1 (.int .i64 tm)).setIfInBounds 2 (.int .i64 vt)).setIfInBounds 3 (.int .i64 s.ix)).setIfInBounds 4 (.int .i64 s.tm)).setIfInBounds 5 (bm)).setIfInBounds 6 (.string s.da)).setIfInBounds 7 (lg)).setIfInBounds 8 (.int .i64 s.ix)).setIfInBounds 10 (.int .i64 (-1))).setIfInBounds 11 (.int .i64 dr)).setIfInBounds 15 (ga)) = (ndN me tm vt s dr bm lg ga).c.toArray := by kernel_rfl
set_option maxRecDepth 100000 in
set_option maxHeartbeats 4000000 in
theorem nnew_ok (me tm vt : Int) (v : Value) (s : Sh) (v2 : Value) (es : List En) (dr : Int) (w : World) (hv : IntsI w v s.ms) (hv2 : EntI w v2 es) (hes : es.length ≤ 4398046511104) (hed : ∀ x ∈ es, x.da.size ≤ 140737488355328)
    (h0 : ndOk me = true) (h1 : s.tm ≤ tm) (h2 : tm ≤ 1099511627776) (h3 : vt = -1 ∨ ndOk vt = true) (h4 : chkS s = 0) (h5 : mesOk s.tm tm es = true) :
    Calls Tryz.prog 15 #[.int .i64 me, .int .i64 tm, .int .i64 vt, shV v s, v2, .int .i64 dr] w fun e w' => ∃ nb bm lg ga, e = .returned (.tuple #[.pointer (some ⟨nb, 0, none⟩), .int .i64 0]) ∧ NdI w' w.heap.size nb (ndWa (ndN me tm vt s dr bm lg ga)) s.ms es ∧ Below w.heap.size w w' := by
  obtain ⟨ad, cap, rfl, -⟩ := hv.form
  obtain ⟨ad2, cap2, rfl, -⟩ := hv2.form
  have hck := chk_ok h4
  have IN : Hid (∀ W, Calls Tryz.prog 49 #[.int .i64 me] W fun e w' => e = .returned (.bool true) ∧ w' = W) := fun W => by rw [← h0]; exact nodeIs_any me W
  have IV : Hid (ndOk vt = true → ∀ W, Calls Tryz.prog 49 #[.int .i64 vt] W fun e w' => e = .returned (.bool true) ∧ w' = W) := fun h W => by rw [← h]; exact nodeIs_any vt W
  have CK : Hid (∀ W, Below w.heap.size w W → Calls Tryz.prog 51 #[shV (.slice ad s.ms.length cap) s] W fun e w' => e = .returned (.int .i64 0) ∧ Below W.heap.size W w') := fun W b => by rw [← h4]; exact check_any _ s W (hv.next b) (by have := hck.2.2.2.1; omega)
  have AE : Hid (∀ W, Below w.heap.size w W → Calls Tryz.prog 50 #[.slice ad2 es.length cap2, .int .i64 s.tm, .int .i64 tm] W fun e w' => e = .returned (.bool true) ∧ Below W.heap.size W w') := fun W b => by rw [← h5]; exact areEnt_any _ es s.tm tm W (hv2.next b) (by omega)
  have CP : Hid (∀ W, Below w.heap.size w W → Calls Tryz.prog 52 #[shV (.slice ad s.ms.length cap) s] W fun e w' => ∃ ad3 cap3, e = .returned (shV (.slice ad3 s.ms.length cap3) s) ∧ OwnI w' W.heap.size (.slice ad3 s.ms.length cap3) s.ms ∧ Below W.heap.size W w') := fun W b => (cshot_any _ s W (hv.next b) (by have := hck.2.2.2.1; omega) (by have := hck.2.2.2.2; omega)).mono fun e w' ⟨v', he, ho, hb⟩ => by
    obtain ⟨ad3, cap3, rfl⟩ := ho.form
    exact ⟨ad3, cap3, he, ho, hb⟩
  have CE : Hid (∀ W, Below w.heap.size w W → Calls Tryz.prog 53 #[.slice ad2 es.length cap2] W fun e w' => ∃ ad4 cap4, e = .returned (.slice ad4 es.length cap4) ∧ OwnE w' W.heap.size (.slice ad4 es.length cap4) es ∧ Below W.heap.size W w') := fun W b => (centries_any _ es W (hv2.next b) hes hed).mono fun e w' ⟨v', he, ho, hb⟩ => by
    obtain ⟨ad4, cap4, rfl⟩ := ho.form
    exact ⟨ad4, cap4, he, ho, hb⟩
  have NG := hid (fun W => ngather_any W)
  have WA : Hid (∀ W nb n, NdI W w.heap.size nb n s.ms es → Calls Tryz.prog 55 #[.pointer (some ⟨nb, 0, none⟩)] W fun e w' => e = .returned (.tuple #[]) ∧ NdG W w.heap.size nb n w' (ndWa n) s.ms es) := fun W nb n h => nwait_any h
  have R0 : Hid (RowIs (w.alloc (.cells #[.int .i64 s.ix, .int .i64 s.tm, .slice ad s.ms.length cap, .string s.da] 49)) w.heap.size [.int .i64 s.ix, .int .i64 s.tm, .slice ad s.ms.length cap, .string s.da] 49) := srow w _ _
  have B0 : Hid (Below w.heap.size w (w.alloc (.cells #[.int .i64 s.ix, .int .i64 s.tm, .slice ad s.ms.length cap, .string s.da] 49))) := below_al (Below.refl _ _) _
  have d1 : decide (tm < s.tm) = false := decide_eq_false (by omega)
  have d2 : decide (tm > 1099511627776) = false := decide_eq_false (by omega)
  have hnd : Hid (∀ bm lg ga, ndN me tm vt s dr bm lg ga = ⟨me, tm, vt, s.ix, s.tm, bm, s.da, lg, s.ix, 0, -1, dr, 0, 0, 0, ga, 0, 0, .slice none 0 0, ⟨#[]⟩, false, vs0, 0, 0, ps0⟩) := fun _ _ _ => rfl
  clear hv hv2 hes hed h0 h1 h2 h4 h5 hck
  obtain ⟨ix, st, ms, da⟩ := s
  unfold shV at *
  simp only at *
  rcases h3 with rfl | h3
  · clear IV
    go_enter Tryz.func15, Tryz.ntmps15
    have y1 := R0.out.cellAt (o := 1) rfl
    have y0 := R0.out.cellAt (o := 0) rfl
    have y2 := R0.out.cellAt (o := 2) rfl
    have y3 := R0.out.cellAt (o := 3) rfl
    go_wp2_with fail
    refine (IN.out _).mono ?_
    rintro e w1 ⟨rfl, rfl⟩
    clear IN
    go_wp2_with fail
    refine (CK.out _ B0.out).mono ?_
    rintro e w1 ⟨rfl, b1⟩
    have B1 := hid (below_on B0.out b1)
    have R1 := hid (R0.out.keep (b1.keep (fun _ => False)) (fun h => h))
    clear CK b1 B0 R0 y0 y1 y2 y3
    have y1 := R1.out.cellAt (o := 1) rfl
    go_wp2_with fail
    refine (AE.out _ B1.out).mono ?_
    rintro e w2 ⟨rfl, b2⟩
    have B2 := hid (below_on B1.out b2)
    have R2 := hid (R1.out.keep (b2.keep (fun _ => False)) (fun h => h))
    clear AE b2 B1 R1 y1
    have Z0 : RowIs w2 w.heap.size [.int .i64 ix, .int .i64 st, .slice ad ms.length cap, .string da] 49 := R2.out
    have y0 := Z0.cellAt (o := 0) rfl
    have y1 := Z0.cellAt (o := 1) rfl
    have y2 := Z0.cellAt (o := 2) rfl
    have y3 := Z0.cellAt (o := 3) rfl
    clear Z0
    go_wp2
    have CS : Hid (∀ W, RowIs W w.heap.size [.int .i64 ix, .int .i64 st, .slice ad ms.length cap, .string da] 49 → W.cell? ⟨w.heap.size, 0, none⟩ = some (.int .i64 ix) ∧ W.cell? ⟨w.heap.size, 1, none⟩ = some (.int .i64 st) ∧ W.cell? ⟨w.heap.size, 2, none⟩ = some (.slice ad ms.length cap) ∧ W.cell? ⟨w.heap.size, 3, none⟩ = some (.string da)) := fun W h => ⟨h.cellAt rfl, h.cellAt rfl, h.cellAt rfl, h.cellAt rfl⟩
    have B3 := hid B2.out.drew
    have R3 : Hid (RowIs w2.drew w.heap.size [.int .i64 ix, .int .i64 st, .slice ad ms.length cap, .string da] 49) := R2.out
    clear B2 R2
    refine wp_region_held_drew (S := fun W => W.cell? ⟨w.heap.size, 0, none⟩ = some (.int .i64 ix) ∧ W.cell? ⟨w.heap.size, 1, none⟩ = some (.int .i64 st) ∧ W.cell? ⟨w.heap.size, 2, none⟩ = some (.slice ad ms.length cap) ∧ W.cell? ⟨w.heap.size, 3, none⟩ = some (.string da)) (by kernel_rfl) ⟨y0, y1, y2, y3⟩ (fun hHeld => ?_)
    generalize w2.drew = V at *
    refine wpAnyH_take (i := 0) (v := ?vv1) rfl (by kernel_rfl) (by kernel_rfl) (by kernel_rfl) (fun _ _ _ h => h) (Or.inl ⟨by rfl, ?hy1⟩) (by assumption) ?rest1
    case hy1 => (intro w hSw; (try dsimp only at hSw); go_simp; first | done | with_reducible rfl)
    try simp only [Act.put, List.getElem_toArray, List.getElem_cons_succ, List.getElem_cons_zero, List.setIfInBounds_toArray, List.set_cons_zero, List.set_cons_succ]
    refine wpAnyH_take (i := 1) (v := ?vv2) rfl (by kernel_rfl) (by kernel_rfl) (by kernel_rfl) (fun _ _ _ h => h) (Or.inl ⟨by rfl, ?hy2⟩) (by assumption) ?rest2
    case hy2 => (intro w hSw; (try dsimp only at hSw); go_simp; first | done | with_reducible rfl)
    try simp only [Act.put, List.getElem_toArray, List.getElem_cons_succ, List.getElem_cons_zero, List.setIfInBounds_toArray, List.set_cons_zero, List.set_cons_succ]
    refine wpAnyH_take (i := 2) (v := ?vv3) rfl (by kernel_rfl) (by kernel_rfl) (by kernel_rfl) (fun _ _ _ h => h) (Or.inl ⟨by rfl, ?hy3⟩) (by assumption) ?rest3
    case hy3 => (intro w hSw; (try dsimp only at hSw); go_simp; first | done | with_reducible rfl)
    try simp only [Act.put, List.getElem_toArray, List.getElem_cons_succ, List.getElem_cons_zero, List.setIfInBounds_toArray, List.set_cons_zero, List.set_cons_succ]
    refine wpAnyH_take (i := 3) (v := ?vv4) rfl (by kernel_rfl) (by kernel_rfl) (by kernel_rfl) (fun _ _ _ h => h) (Or.inl ⟨by rfl, ?hy4⟩) (by assumption) ?rest4
    case hy4 => (intro w hSw; (try dsimp only at hSw); go_simp; first | done | with_reducible rfl)
    try simp only [Act.put, List.getElem_toArray, List.getElem_cons_succ, List.getElem_cons_zero, List.setIfInBounds_toArray, List.set_cons_zero, List.set_cons_succ]
    refine wpAnyH_take (i := 5) (v := ?vv5) rfl (by kernel_rfl) (by kernel_rfl) (by kernel_rfl) (fun _ _ _ h => h) (Or.inl ⟨by rfl, ?hy5⟩) (by assumption) ?rest5
    case hy5 => (intro w hSw; (try dsimp only at hSw); go_simp; first | done | with_reducible rfl)
    try simp only [Act.put, List.getElem_toArray, List.getElem_cons_succ, List.getElem_cons_zero, List.setIfInBounds_toArray, List.set_cons_zero, List.set_cons_succ]
    refine wpAnyH_take (i := 7) (v := ?vv6) rfl (by kernel_rfl) (by kernel_rfl) (by kernel_rfl) (fun _ _ _ h => h) (Or.inl ⟨by rfl, ?hy6⟩) (by assumption) ?rest6
    case hy6 => (intro w hSw; (try dsimp only at hSw); go_simp; first | done | with_reducible rfl)
    try simp only [Act.put, List.getElem_toArray, List.getElem_cons_succ, List.getElem_cons_zero, List.setIfInBounds_toArray, List.set_cons_zero, List.set_cons_succ]
    refine wpAnyH_take (i := 8) (v := ?vv7) rfl (by kernel_rfl) (by kernel_rfl) (by kernel_rfl) (fun _ _ _ h => h) (Or.inl ⟨by rfl, ?hy7⟩) (by assumption) ?rest7
    case hy7 => (intro w hSw; (try dsimp only at hSw); go_simp; first | done | with_reducible rfl)
    try simp only [Act.put, List.getElem_toArray, List.getElem_cons_succ, List.getElem_cons_zero, List.setIfInBounds_toArray, List.set_cons_zero, List.set_cons_succ]
    refine wpAnyH_take (i := 9) (v := ?vv8) rfl (by kernel_rfl) (by kernel_rfl) (by kernel_rfl) (fun _ _ _ h => h) (Or.inl ⟨by rfl, ?hy8⟩) (by assumption) ?rest8
    case hy8 => (intro w hSw; (try dsimp only at hSw); go_simp; first | done | with_reducible rfl)
    try simp only [Act.put, List.getElem_toArray, List.getElem_cons_succ, List.getElem_cons_zero, List.setIfInBounds_toArray, List.set_cons_zero, List.set_cons_succ]
    refine wpAnyH_ready (rs := [4]) (by kernel_rfl) (by simp) ?_
    refine AllReadyH.cons rfl (fun K hK => ?_) AllReadyH.nil
    go_simp
    refine (CP.out _ B3.out).mono ?_
    rintro e w3 ⟨ad3, cap3, rfl, o3, b3⟩
    have B4 := hid (below_on B3.out b3)
    have O3 := hid (ownsRow_base o3 (B3.out.size))
    have R4 := hid (R3.out.keep (b3.keep (fun _ => False)) (fun h => h))
    clear CP o3 b3 B3 R3 hHeld
    go_wp2_with fail
    refine hK.out _ _ (CS.out _ R4.out) (fun hHeld => ?_)
    clear hK K
    try simp only [Act.put, List.getElem_toArray, List.getElem_cons_succ, List.getElem_cons_zero, List.setIfInBounds_toArray, List.set_cons_zero, List.set_cons_succ]
    refine wpAnyH_ready (rs := [6]) (by kernel_rfl) (by simp) ?_
    refine AllReadyH.cons rfl (fun K hK => ?_) AllReadyH.nil
    go_simp
    refine (CE.out _ B4.out).mono ?_
    rintro e w4 ⟨ad4, cap4, rfl, o4, b4⟩
    have B5 := hid (below_on B4.out b4)
    have O4 := hid (ownsRow_base o4 (B4.out.size))
    have O5 := hid ((b4.keep (fun _ => False)).ownsRow O3.out (fun _ _ h => h))
    have R5 := hid (R4.out.keep (b4.keep (fun _ => False)) (fun h => h))
    clear CE o4 b4 B4 R4 O3 hHeld
    go_wp2_with fail
    refine hK.out _ _ (CS.out _ R5.out) (fun hHeld => ?_)
    clear hK K
    try simp only [Act.put, List.getElem_toArray, List.getElem_cons_succ, List.getElem_cons_zero, List.setIfInBounds_toArray, List.set_cons_zero, List.set_cons_succ]
    refine wpAnyH_ready (rs := [10]) (by kernel_rfl) (by simp) ?_
    refine AllReadyH.cons rfl (fun K hK => ?_) AllReadyH.nil
    go_simp
    refine (NG.out _).mono ?_
    rintro e w5 ⟨rfl, b5⟩
    have B6 := hid (below_on B5.out b5)
    have O6 := hid ((b5.keep (fun _ => False)).ownsRow O4.out (fun _ _ h => h))
    have O7 := hid ((b5.keep (fun _ => False)).ownsRow O5.out (fun _ _ h => h))
    have R6 := hid (R5.out.keep (b5.keep (fun _ => False)) (fun h => h))
    clear NG b5 B5 R5 O4 O5 hHeld
    go_wp2_with fail
    refine hK.out _ _ (CS.out _ R6.out) (fun hHeld => ?_)
    clear hK K
    try simp only [Act.put, List.getElem_toArray, List.getElem_cons_succ, List.getElem_cons_zero, List.setIfInBounds_toArray, List.set_cons_zero, List.set_cons_succ]
    refine wpAnyH_take (i := 11) (v := ?vv9) rfl (by kernel_rfl) (by kernel_rfl) (by kernel_rfl) (fun _ _ _ h => h) (Or.inl ⟨by rfl, ?hy9⟩) (by assumption) ?rest9
    case hy9 => (intro w hSw; (try dsimp only at hSw); go_simp; first | done | with_reducible rfl)
    try simp only [Act.put, List.getElem_toArray, List.getElem_cons_succ, List.getElem_cons_zero, List.setIfInBounds_toArray, List.set_cons_zero, List.set_cons_succ]
    refine wpAnyH_ready (rs := [12]) (by kernel_rfl) (by simp) ?_
    refine AllReadyH.cons rfl (fun K hK => ?_) AllReadyH.nil
    have NI : Hid (NdI (w5.alloc (.cells ((ndN me tm (-1) ⟨ix, st, ms, da⟩ dr (.slice ad3 ms.length cap3) (.slice ad4 es.length cap4) (.pointer (some ⟨w4.heap.size, 0, none⟩))).c).toArray 106)) w.heap.size w5.heap.size (ndN me tm (-1) ⟨ix, st, ms, da⟩ dr (.slice ad3 ms.length cap3) (.slice ad4 es.length cap4) (.pointer (some ⟨w4.heap.size, 0, none⟩))) ms es) := ⟨srow w5 _ _, B6.out.size, (keep_alloc (fun _ => False) w5 _).ownsRow O7.out (fun _ _ h => h), (keep_alloc (fun _ => False) w5 _).ownsRow O6.out (fun _ _ h => h)⟩
    have B7 : Hid (Below w.heap.size w (w5.alloc (.cells ((ndN me tm (-1) ⟨ix, st, ms, da⟩ dr (.slice ad3 ms.length cap3) (.slice ad4 es.length cap4) (.pointer (some ⟨w4.heap.size, 0, none⟩))).c).toArray 106))) := below_al B6.out _
    have R7 := hid (CS.out _ (row_old R6.out (.cells ((ndN me tm (-1) ⟨ix, st, ms, da⟩ dr (.slice ad3 ms.length cap3) (.slice ad4 es.length cap4) (.pointer (some ⟨w4.heap.size, 0, none⟩))).c).toArray 106)))
    have WA2 := hid (WA.out _ _ _ NI.out)
    clear WA B6 O6 O7 R6
    go_simp
    rw [ndN_arr me tm (-1) ⟨ix, st, ms, da⟩ dr (.slice ad3 ms.length cap3) (.slice ad4 es.length cap4) (.pointer (some ⟨w4.heap.size, 0, none⟩))]
    refine hK.out _ _ R7.out (fun hHeld => ?_)
    clear hK K
    try simp only [Act.put, List.getElem_toArray, List.getElem_cons_succ, List.getElem_cons_zero, List.setIfInBounds_toArray, List.set_cons_zero, List.set_cons_succ]
    refine wpAnyH_take (i := 13) (v := ?vv10) rfl (by kernel_rfl) (by kernel_rfl) (by kernel_rfl) (fun _ _ _ h => h) (Or.inl ⟨by rfl, ?hy10⟩) (by assumption) ?rest10
    case hy10 => (intro w hSw; (try dsimp only at hSw); go_simp; first | done | with_reducible rfl)
    try simp only [Act.put, List.getElem_toArray, List.getElem_cons_succ, List.getElem_cons_zero, List.setIfInBounds_toArray, List.set_cons_zero, List.set_cons_succ]
    refine wpAnyH_done (by kernel_rfl) ?_ _
    clear hHeld y0 y1 y2 y3
    go_wp2_with fail
    refine WA2.out.mono ?_
    rintro e w6 ⟨rfl, g6⟩
    have B8 := hid (B7.out.trans (NI.out.bel g6 (Nat.le_refl _)))
    have G6 := hid g6.nd
    clear WA2 g6 B7 NI
    go_wp2
    go_ret2
    exact ⟨_, _, _, _, rfl, G6.out, B8.out⟩
  · have IV2 := hid (IV.out h3)
    clear IV
    have hn1 : ¬ vt = -1 := fun e => by rw [e] at h3; exact absurd h3 (by decide)
    have d3 : (vt != -1) = true := by simp [hn1]
    have d4 : decide (vt = -1) = false := decide_eq_false hn1
    clear h3 hn1
    go_enter Tryz.func15, Tryz.ntmps15
    have y1 := R0.out.cellAt (o := 1) rfl
    have y0 := R0.out.cellAt (o := 0) rfl
    have y2 := R0.out.cellAt (o := 2) rfl
    have y3 := R0.out.cellAt (o := 3) rfl
    go_wp2_with fail
    refine (IN.out _).mono ?_
    rintro e w1 ⟨rfl, rfl⟩
    clear IN
    go_wp2_with fail
    refine (IV2.out _).mono ?_
    rintro e w1 ⟨rfl, rfl⟩
    clear IV2
    go_wp2_with fail
    refine (CK.out _ B0.out).mono ?_
    rintro e w1 ⟨rfl, b1⟩
    have B1 := hid (below_on B0.out b1)
    have R1 := hid (R0.out.keep (b1.keep (fun _ => False)) (fun h => h))
    clear CK b1 B0 R0 y0 y1 y2 y3
    have y1 := R1.out.cellAt (o := 1) rfl
    go_wp2_with fail
    refine (AE.out _ B1.out).mono ?_
    rintro e w2 ⟨rfl, b2⟩
    have B2 := hid (below_on B1.out b2)
    have R2 := hid (R1.out.keep (b2.keep (fun _ => False)) (fun h => h))
    clear AE b2 B1 R1 y1
    have Z0 : RowIs w2 w.heap.size [.int .i64 ix, .int .i64 st, .slice ad ms.length cap, .string da] 49 := R2.out
    have y0 := Z0.cellAt (o := 0) rfl
    have y1 := Z0.cellAt (o := 1) rfl
    have y2 := Z0.cellAt (o := 2) rfl
    have y3 := Z0.cellAt (o := 3) rfl
    clear Z0
    go_wp2
    have CS : Hid (∀ W, RowIs W w.heap.size [.int .i64 ix, .int .i64 st, .slice ad ms.length cap, .string da] 49 → W.cell? ⟨w.heap.size, 0, none⟩ = some (.int .i64 ix) ∧ W.cell? ⟨w.heap.size, 1, none⟩ = some (.int .i64 st) ∧ W.cell? ⟨w.heap.size, 2, none⟩ = some (.slice ad ms.length cap) ∧ W.cell? ⟨w.heap.size, 3, none⟩ = some (.string da)) := fun W h => ⟨h.cellAt rfl, h.cellAt rfl, h.cellAt rfl, h.cellAt rfl⟩
    have B3 := hid B2.out.drew
    have R3 : Hid (RowIs w2.drew w.heap.size [.int .i64 ix, .int .i64 st, .slice ad ms.length cap, .string da] 49) := R2.out
    clear B2 R2
    refine wp_region_held_drew (S := fun W => W.cell? ⟨w.heap.size, 0, none⟩ = some (.int .i64 ix) ∧ W.cell? ⟨w.heap.size, 1, none⟩ = some (.int .i64 st) ∧ W.cell? ⟨w.heap.size, 2, none⟩ = some (.slice ad ms.length cap) ∧ W.cell? ⟨w.heap.size, 3, none⟩ = some (.string da)) (by kernel_rfl) ⟨y0, y1, y2, y3⟩ (fun hHeld => ?_)
    generalize w2.drew = V at *
    refine wpAnyH_take (i := 0) (v := ?vv11) rfl (by kernel_rfl) (by kernel_rfl) (by kernel_rfl) (fun _ _ _ h => h) (Or.inl ⟨by rfl, ?hy11⟩) (by assumption) ?rest11
    case hy11 => (intro w hSw; (try dsimp only at hSw); go_simp; first | done | with_reducible rfl)
    try simp only [Act.put, List.getElem_toArray, List.getElem_cons_succ, List.getElem_cons_zero, List.setIfInBounds_toArray, List.set_cons_zero, List.set_cons_succ]
    refine wpAnyH_take (i := 1) (v := ?vv12) rfl (by kernel_rfl) (by kernel_rfl) (by kernel_rfl) (fun _ _ _ h => h) (Or.inl ⟨by rfl, ?hy12⟩) (by assumption) ?rest12
    case hy12 => (intro w hSw; (try dsimp only at hSw); go_simp; first | done | with_reducible rfl)
    try simp only [Act.put, List.getElem_toArray, List.getElem_cons_succ, List.getElem_cons_zero, List.setIfInBounds_toArray, List.set_cons_zero, List.set_cons_succ]
    refine wpAnyH_take (i := 2) (v := ?vv13) rfl (by kernel_rfl) (by kernel_rfl) (by kernel_rfl) (fun _ _ _ h => h) (Or.inl ⟨by rfl, ?hy13⟩) (by assumption) ?rest13
    case hy13 => (intro w hSw; (try dsimp only at hSw); go_simp; first | done | with_reducible rfl)
    try simp only [Act.put, List.getElem_toArray, List.getElem_cons_succ, List.getElem_cons_zero, List.setIfInBounds_toArray, List.set_cons_zero, List.set_cons_succ]
    refine wpAnyH_take (i := 3) (v := ?vv14) rfl (by kernel_rfl) (by kernel_rfl) (by kernel_rfl) (fun _ _ _ h => h) (Or.inl ⟨by rfl, ?hy14⟩) (by assumption) ?rest14
    case hy14 => (intro w hSw; (try dsimp only at hSw); go_simp; first | done | with_reducible rfl)
    try simp only [Act.put, List.getElem_toArray, List.getElem_cons_succ, List.getElem_cons_zero, List.setIfInBounds_toArray, List.set_cons_zero, List.set_cons_succ]
    refine wpAnyH_take (i := 5) (v := ?vv15) rfl (by kernel_rfl) (by kernel_rfl) (by kernel_rfl) (fun _ _ _ h => h) (Or.inl ⟨by rfl, ?hy15⟩) (by assumption) ?rest15
    case hy15 => (intro w hSw; (try dsimp only at hSw); go_simp; first | done | with_reducible rfl)
    try simp only [Act.put, List.getElem_toArray, List.getElem_cons_succ, List.getElem_cons_zero, List.setIfInBounds_toArray, List.set_cons_zero, List.set_cons_succ]
    refine wpAnyH_take (i := 7) (v := ?vv16) rfl (by kernel_rfl) (by kernel_rfl) (by kernel_rfl) (fun _ _ _ h => h) (Or.inl ⟨by rfl, ?hy16⟩) (by assumption) ?rest16
    case hy16 => (intro w hSw; (try dsimp only at hSw); go_simp; first | done | with_reducible rfl)
    try simp only [Act.put, List.getElem_toArray, List.getElem_cons_succ, List.getElem_cons_zero, List.setIfInBounds_toArray, List.set_cons_zero, List.set_cons_succ]
    refine wpAnyH_take (i := 8) (v := ?vv17) rfl (by kernel_rfl) (by kernel_rfl) (by kernel_rfl) (fun _ _ _ h => h) (Or.inl ⟨by rfl, ?hy17⟩) (by assumption) ?rest17
    case hy17 => (intro w hSw; (try dsimp only at hSw); go_simp; first | done | with_reducible rfl)
    try simp only [Act.put, List.getElem_toArray, List.getElem_cons_succ, List.getElem_cons_zero, List.setIfInBounds_toArray, List.set_cons_zero, List.set_cons_succ]
    refine wpAnyH_take (i := 9) (v := ?vv18) rfl (by kernel_rfl) (by kernel_rfl) (by kernel_rfl) (fun _ _ _ h => h) (Or.inl ⟨by rfl, ?hy18⟩) (by assumption) ?rest18
    case hy18 => (intro w hSw; (try dsimp only at hSw); go_simp; first | done | with_reducible rfl)
    try simp only [Act.put, List.getElem_toArray, List.getElem_cons_succ, List.getElem_cons_zero, List.setIfInBounds_toArray, List.set_cons_zero, List.set_cons_succ]
    refine wpAnyH_ready (rs := [4]) (by kernel_rfl) (by simp) ?_
    refine AllReadyH.cons rfl (fun K hK => ?_) AllReadyH.nil
    go_simp
    refine (CP.out _ B3.out).mono ?_
    rintro e w3 ⟨ad3, cap3, rfl, o3, b3⟩
    have B4 := hid (below_on B3.out b3)
    have O3 := hid (ownsRow_base o3 (B3.out.size))
    have R4 := hid (R3.out.keep (b3.keep (fun _ => False)) (fun h => h))
    clear CP o3 b3 B3 R3 hHeld
    go_wp2_with fail
    refine hK.out _ _ (CS.out _ R4.out) (fun hHeld => ?_)
    clear hK K
    try simp only [Act.put, List.getElem_toArray, List.getElem_cons_succ, List.getElem_cons_zero, List.setIfInBounds_toArray, List.set_cons_zero, List.set_cons_succ]
    refine wpAnyH_ready (rs := [6]) (by kernel_rfl) (by simp) ?_
    refine AllReadyH.cons rfl (fun K hK => ?_) AllReadyH.nil
    go_simp
    refine (CE.out _ B4.out).mono ?_
    rintro e w4 ⟨ad4, cap4, rfl, o4, b4⟩
    have B5 := hid (below_on B4.out b4)
    have O4 := hid (ownsRow_base o4 (B4.out.size))
    have O5 := hid ((b4.keep (fun _ => False)).ownsRow O3.out (fun _ _ h => h))
    have R5 := hid (R4.out.keep (b4.keep (fun _ => False)) (fun h => h))
    clear CE o4 b4 B4 R4 O3 hHeld
    go_wp2_with fail
    refine hK.out _ _ (CS.out _ R5.out) (fun hHeld => ?_)
    clear hK K
    try simp only [Act.put, List.getElem_toArray, List.getElem_cons_succ, List.getElem_cons_zero, List.setIfInBounds_toArray, List.set_cons_zero, List.set_cons_succ]
    refine wpAnyH_ready (rs := [10]) (by kernel_rfl) (by simp) ?_
    refine AllReadyH.cons rfl (fun K hK => ?_) AllReadyH.nil
    go_simp
    refine (NG.out _).mono ?_
    rintro e w5 ⟨rfl, b5⟩
    have B6 := hid (below_on B5.out b5)
    have O6 := hid ((b5.keep (fun _ => False)).ownsRow O4.out (fun _ _ h => h))
    have O7 := hid ((b5.keep (fun _ => False)).ownsRow O5.out (fun _ _ h => h))
    have R6 := hid (R5.out.keep (b5.keep (fun _ => False)) (fun h => h))
    clear NG b5 B5 R5 O4 O5 hHeld
    go_wp2_with fail
    refine hK.out _ _ (CS.out _ R6.out) (fun hHeld => ?_)
    clear hK K
    try simp only [Act.put, List.getElem_toArray, List.getElem_cons_succ, List.getElem_cons_zero, List.setIfInBounds_toArray, List.set_cons_zero, List.set_cons_succ]
    refine wpAnyH_take (i := 11) (v := ?vv19) rfl (by kernel_rfl) (by kernel_rfl) (by kernel_rfl) (fun _ _ _ h => h) (Or.inl ⟨by rfl, ?hy19⟩) (by assumption) ?rest19
    case hy19 => (intro w hSw; (try dsimp only at hSw); go_simp; first | done | with_reducible rfl)
    try simp only [Act.put, List.getElem_toArray, List.getElem_cons_succ, List.getElem_cons_zero, List.setIfInBounds_toArray, List.set_cons_zero, List.set_cons_succ]
    refine wpAnyH_ready (rs := [12]) (by kernel_rfl) (by simp) ?_
    refine AllReadyH.cons rfl (fun K hK => ?_) AllReadyH.nil
    have NI : Hid (NdI (w5.alloc (.cells ((ndN me tm vt ⟨ix, st, ms, da⟩ dr (.slice ad3 ms.length cap3) (.slice ad4 es.length cap4) (.pointer (some ⟨w4.heap.size, 0, none⟩))).c).toArray 106)) w.heap.size w5.heap.size (ndN me tm vt ⟨ix, st, ms, da⟩ dr (.slice ad3 ms.length cap3) (.slice ad4 es.length cap4) (.pointer (some ⟨w4.heap.size, 0, none⟩))) ms es) := ⟨srow w5 _ _, B6.out.size, (keep_alloc (fun _ => False) w5 _).ownsRow O7.out (fun _ _ h => h), (keep_alloc (fun _ => False) w5 _).ownsRow O6.out (fun _ _ h => h)⟩
    have B7 : Hid (Below w.heap.size w (w5.alloc (.cells ((ndN me tm vt ⟨ix, st, ms, da⟩ dr (.slice ad3 ms.length cap3) (.slice ad4 es.length cap4) (.pointer (some ⟨w4.heap.size, 0, none⟩))).c).toArray 106))) := below_al B6.out _
    have R7 := hid (CS.out _ (row_old R6.out (.cells ((ndN me tm vt ⟨ix, st, ms, da⟩ dr (.slice ad3 ms.length cap3) (.slice ad4 es.length cap4) (.pointer (some ⟨w4.heap.size, 0, none⟩))).c).toArray 106)))
    have WA2 := hid (WA.out _ _ _ NI.out)
    clear WA B6 O6 O7 R6
    go_simp
    rw [ndN_arr me tm vt ⟨ix, st, ms, da⟩ dr (.slice ad3 ms.length cap3) (.slice ad4 es.length cap4) (.pointer (some ⟨w4.heap.size, 0, none⟩))]
    refine hK.out _ _ R7.out (fun hHeld => ?_)
    clear hK K
    try simp only [Act.put, List.getElem_toArray, List.getElem_cons_succ, List.getElem_cons_zero, List.setIfInBounds_toArray, List.set_cons_zero, List.set_cons_succ]
    refine wpAnyH_take (i := 13) (v := ?vv20) rfl (by kernel_rfl) (by kernel_rfl) (by kernel_rfl) (fun _ _ _ h => h) (Or.inl ⟨by rfl, ?hy20⟩) (by assumption) ?rest20
    case hy20 => (intro w hSw; (try dsimp only at hSw); go_simp; first | done | with_reducible rfl)
    try simp only [Act.put, List.getElem_toArray, List.getElem_cons_succ, List.getElem_cons_zero, List.setIfInBounds_toArray, List.set_cons_zero, List.set_cons_succ]
    refine wpAnyH_done (by kernel_rfl) ?_ _
    clear hHeld y0 y1 y2 y3
    go_wp2_with fail
    refine WA2.out.mono ?_
    rintro e w6 ⟨rfl, g6⟩
    have B8 := hid (B7.out.trans (NI.out.bel g6 (Nat.le_refl _)))
    have G6 := hid g6.nd
    clear WA2 g6 B7 NI
    go_wp2
    go_ret2
    exact ⟨_, _, _, _, rfl, G6.out, B8.out⟩
end Go.Proofs.YtlkidnfgodficaaGreat
namespace Go.Proofs.YtlkidnfgodficaaGreat
open Go.RowKit Go.Maps
set_option linter.unusedVariables false
set_option linter.unusedSimpArgs false

section
variable {w w1 : World} {B nb : Nat} {n : Nd} {ms : List Int} {es : List En}
set_option maxRecDepth 100000 in
set_option maxHeartbeats 1000000 in
theorem chosen1_any (b nb k : Nat) (x : Bool) (W : World) (hk : k < 7) (hb : W.cell? ⟨b, 0, none⟩ = some (.pointer (some ⟨nb, 0, none⟩))) (hx : W.cell? ⟨nb, 21 + k, none⟩ = some (.bool x)) :
    Calls Tryz.prog 137 #[.int .i64 (k : Int), .pointer (some ⟨b, 0, none⟩)] W fun e w' => e = .returned (.bool x) ∧ Below W.heap.size W w' := by
  have r0 : (0 : Int) ≤ (k : Int) := by omega
  have r1 : (k : Int) < 7 := by omega
  clear hk
  go_enter Tryz.func137, Tryz.ntmps137
  go_wp2
  go_ret
  exact ⟨rfl, Below.refl _ _⟩
set_option maxRecDepth 100000 in
set_option maxHeartbeats 1000000 in
theorem nchosen_any (h : NdI w B nb n ms es) (hne : ms ≠ []) (hm : ms.length ≤ 17592186044416) (hl : es.length ≤ 17592186044416) (hd : ∀ x ∈ es, x.da.size ≤ 140737488355328) (hq : (mbL ms es).length ≤ 4611686018427387904) (vs : List Bool) (hv : n.vs = vs.map Value.bool) (h7 : vs.length = 7) :
    Calls Tryz.prog 119 #[.pointer (some ⟨nb, 0, none⟩)] w fun e w' => e = .returned (.bool (engC (mbL ms es) ((nodesF 7 0).filter (fun k => vs.getD k.toNat false)))) ∧ Below w.heap.size w w' := by
  obtain ⟨W0, hW0⟩ : ∃ W0, W0 = w.alloc (.cells #[.pointer (some ⟨nb, 0, none⟩)] 44) := ⟨_, rfl⟩
  have b0 : Below w.heap.size w W0 := by rw [hW0]; exact below_al (Below.refl _ _) _
  have r0 : RowIs W0 w.heap.size [.pointer (some ⟨nb, 0, none⟩)] 44 := by rw [hW0]; exact srow w _ _
  have EN := hid (nenough_chosen (h.next b0) hne hm hl hd hq w.heap.size (fun k => vs.getD k.toNat false) (fun k W hk hW => by
    have h2 := h.next (b0.trans (hW.mono b0.size))
    refine chosen1_any w.heap.size nb k _ W hk ((r0.keep (hW.keep (fun _ => False)) (fun h => h)).cellAt rfl) ?_
    have hj : k < n.vs.length := by rw [hv, List.length_map, h7]; exact hk
    rw [h2.bx.cellAt (Nd.g_vs n k hj)]
    congr 1
    simp only [hv, List.getElem_map]
    rw [List.getD_eq_getElem?_getD, Int.toNat_natCast, List.getElem?_eq_getElem (by omega)]
    rfl))
  have B0 := hid b0
  have y0 := r0.cellAt (o := 0) rfl
  clear h hne hm hl hd hq hv h7 b0 r0
  generalize engC (mbL ms es) ((nodesF 7 0).filter (fun k => vs.getD k.toNat false)) = R at *
  go_enter Tryz.func119, Tryz.ntmps119
  go_wp2_with fail
  rw [← hW0]
  refine EN.out.mono ?_
  rintro e w1 ⟨rfl, b1⟩
  have B1 := hid (below_on B0.out b1)
  clear EN b1 hW0 B0 y0
  go_wp2
  go_ret
  exact ⟨rfl, B1.out⟩
/-- a node that stands: its state ahead of counting its own vote -/
def ndSt (n : Nd) (t : Int) : Nd := { n with tm := t, vt := 0, rl := 1, ld := -1, wd := 0, wt := wtD n.dr, vs := (.bool true) :: List.replicate 6 (.bool false) }
set_option maxRecDepth 100000 in
set_option maxHeartbeats 4000000 in
theorem nstand_of (h : NdI w B nb n ms es) (h7 : n.vs.length = 7) (hme : n.me = 0) (hrl : n.rl = 0) (t : Int) (ht : t = n.tm + 1) (ht0 : 0 ≤ t) (ht1 : t ≤ 1099511627776) (n2 : Value → Nd) (es2 : List En)
    (hC : ∀ W, NdG w B nb n W (ndSt n t) ms es → Calls Tryz.prog 119 #[.pointer (some ⟨nb, 0, none⟩)] W fun e w' => e = .returned (.bool true) ∧ Below W.heap.size W w')
    (hL : ∀ W, NdG w B nb n W (ndSt n t) ms es → Calls Tryz.prog 120 #[.pointer (some ⟨nb, 0, none⟩)] W fun e w' => e = .returned (.slice none 0 0) ∧ ∃ lg', NdG w B nb n w' (n2 lg') ms es2) :
    Calls Tryz.prog 78 #[.pointer (some ⟨nb, 0, none⟩)] w fun e w' => e = .returned (.slice none 0 0) ∧ ∃ lg', NdG w B nb n w' (n2 lg') ms es2 := by
  have HC := hid hC
  have HL := hid hL
  have hb0 : Below w.heap.size w (w.alloc (.cells #[.pointer (some ⟨nb, 0, none⟩)] 44)) := below_al (Below.refl _ _) _
  have HG0 : Hid (NdG w B nb n (w.alloc (.cells #[.pointer (some ⟨nb, 0, none⟩)] 44)) n ms es) := (NdG.refl h).next hb0
  have HR0 : Hid (RowIs (w.alloc (.cells #[.pointer (some ⟨nb, 0, none⟩)] 44)) w.heap.size [.pointer (some ⟨nb, 0, none⟩)] 44) := srow w _ _
  /- the box stays where calls turn the node alone -/
  have KR : Hid (∀ {W W' : World} {n1 n2 : Nd} {e1 e2 : List En}, NdG w B nb n W n1 ms e1 → NdG W B nb n1 W' n2 ms e2 → RowIs W w.heap.size [.pointer (some ⟨nb, 0, none⟩)] 44 → RowIs W' w.heap.size [.pointer (some ⟨nb, 0, none⟩)] 44) := fun {W W' n1 n2 e1 e2} g g2 r => r.keep g2.kp (fun e => by
    rcases e with e | e | e
    · have := h.lt; omega
    · exact own_ne_row g.nd.mi r (by decide) e
    · exact own_ne_row g.nd.lo r (by decide) e)
  have RI : Hid (∀ W, NdI W B nb n ms es → Calls Tryz.prog 79 #[.pointer (some ⟨nb, 0, none⟩), .int .i64 t] W fun e w' => e = .returned (.tuple #[]) ∧ NdG W B nb n w' { n with tm := t, vt := -1, rl := 0, ld := -1 } ms es) := fun W g => (nrise_any g t).mono fun e w' ⟨he, g2⟩ => ⟨he, by
    unfold ndRi ndFo at g2
    rw [if_pos (show ({ n with tm := t, vt := -1 } : Nd).rl = 0 from hrl)] at g2
    exact g2⟩
  have VO : Hid (∀ W, NdI W B nb { n with tm := t, vt := -1, rl := 1, ld := -1 } ms es → Calls Tryz.prog 118 #[.pointer (some ⟨nb, 0, none⟩), .int .i64 0] W fun e w' => e = .returned (.tuple #[]) ∧ NdG W B nb { n with tm := t, vt := -1, rl := 1, ld := -1 } w' { n with tm := t, vt := 0, rl := 1, ld := -1, wd := 0, wt := wtD n.dr } ms es) := fun W g => nvote_any g 0
  have htw : wrap64 (n.tm + 1) = t := by rw [← ht]; exact IntWalk.wrap64_in _ (by omega)
  have htw2 : IntKind.i64.wrap (n.tm + 1) = t := by rw [IntKind.wrap_i64]; omega
  have F1 : Hid (∀ W, NdI W B nb n ms es → W.cell? ⟨nb, 1, none⟩ = some (.int .i64 n.tm)) := fun W g => g.bx.cellAt rfl
  have F2 : Hid (∀ W, NdG w B nb n W { n with tm := t, vt := -1, rl := 0, ld := -1 } ms es → W.cell? ⟨nb, 9, none⟩ = some (.int .i64 0) ∧ W.frozen? ⟨nb, 9, none⟩ = false ∧ (W.setCell ⟨nb, 9, none⟩ (.int .i64 1)).cell? ⟨nb, 0, none⟩ = some (.int .i64 0) ∧ Hid (NdG W B nb { n with tm := t, vt := -1, rl := 0, ld := -1 } (W.setCell ⟨nb, 9, none⟩ (.int .i64 1)) { n with tm := t, vt := -1, rl := 1, ld := -1 } ms es)) := fun W g => by
    have g2 := g.nd.put (n1 := { n with tm := t, vt := -1, rl := 1, ld := -1 }) 9 (.int .i64 1) rfl rfl rfl
    exact ⟨g.nd.bx.cellAt rfl, g.nd.bx.frozen, by rw [← hme]; exact g2.nd.bx.cellAt rfl, g2⟩
  have F3 : Hid (∀ W, NdG w B nb n W { n with tm := t, vt := 0, rl := 1, ld := -1, wd := 0, wt := wtD n.dr } ms es → (∃ u0 u1 u2 u3 u4 u5 u6, W.cell? ⟨nb, 21, none⟩ = some u0 ∧ W.cell? ⟨nb, 22, none⟩ = some u1 ∧ W.cell? ⟨nb, 23, none⟩ = some u2 ∧ W.cell? ⟨nb, 24, none⟩ = some u3 ∧ W.cell? ⟨nb, 25, none⟩ = some u4 ∧ W.cell? ⟨nb, 26, none⟩ = some u5 ∧ W.cell? ⟨nb, 27, none⟩ = some u6) ∧ (∀ o, W.frozen? ⟨nb, o, none⟩ = false) ∧ Hid (NdG W B nb { n with tm := t, vt := 0, rl := 1, ld := -1, wd := 0, wt := wtD n.dr } (((((((W.setCell ⟨nb, 21, none⟩ (.bool false)).setCell ⟨nb, 22, none⟩ (.bool false)).setCell ⟨nb, 23, none⟩ (.bool false)).setCell ⟨nb, 24, none⟩ (.bool false)).setCell ⟨nb, 25, none⟩ (.bool false)).setCell ⟨nb, 26, none⟩ (.bool false)).setCell ⟨nb, 27, none⟩ (.bool false)) { n with tm := t, vt := 0, rl := 1, ld := -1, wd := 0, wt := wtD n.dr, vs := List.replicate 7 (.bool false) } ms es)) := fun W g => by
    obtain ⟨x0, x1, x2, x3, x4, x5, x6, hvs⟩ : ∃ x0 x1 x2 x3 x4 x5 x6, n.vs = [x0, x1, x2, x3, x4, x5, x6] := by
      generalize n.vs = l at h7
      match l, h7 with
      | [x0, x1, x2, x3, x4, x5, x6], _ => exact ⟨x0, x1, x2, x3, x4, x5, x6, rfl⟩
    have c : ∀ j (hj : j < n.vs.length), W.cell? ⟨nb, 21 + j, none⟩ = some n.vs[j] := fun j hj => g.nd.bx.cellAt (Nd.g_vs ({ n with tm := t, vt := 0, rl := 1, ld := -1, wd := 0, wt := wtD n.dr } : Nd) j hj)
    have s : ∀ {V : World} {m : Nd} (q : NdI V B nb m ms es) (j : Nat) (_ : j < m.vs.length), NdG V B nb m (V.setCell ⟨nb, 21 + j, none⟩ (.bool false)) { m with vs := m.vs.set j (.bool false) } ms es := fun q j hj => q.put (21 + j) (.bool false) (Nd.c_vs _ j _ hj) rfl rfl
    refine ⟨⟨_, _, _, _, _, _, _, c 0 (by omega), c 1 (by omega), c 2 (by omega), c 3 (by omega), c 4 (by omega), c 5 (by omega), c 6 (by omega)⟩, fun o => g.nd.bx.frozen, ?_⟩
    have k0 := s g.nd 0 (by simp; omega)
    have k1 := k0.trans (s k0.nd 1 (by simp; omega))
    have k2 := k1.trans (s k1.nd 2 (by simp; omega))
    have k3 := k2.trans (s k2.nd 3 (by simp; omega))
    have k4 := k3.trans (s k3.nd 4 (by simp; omega))
    have k5 := k4.trans (s k4.nd 5 (by simp; omega))
    have k6 := k5.trans (s k5.nd 6 (by simp; omega))
    have hset : (((((((n.vs.set 0 (.bool false)).set 1 (.bool false)).set 2 (.bool false)).set 3 (.bool false)).set 4 (.bool false)).set 5 (.bool false)).set 6 (.bool false)) = List.replicate 7 (.bool false) := by rw [hvs]; rfl
    have k7 : NdG W B nb ({ n with tm := t, vt := 0, rl := 1, ld := -1, wd := 0, wt := wtD n.dr } : Nd) (((((((W.setCell ⟨nb, 21, none⟩ (.bool false)).setCell ⟨nb, 22, none⟩ (.bool false)).setCell ⟨nb, 23, none⟩ (.bool false)).setCell ⟨nb, 24, none⟩ (.bool false)).setCell ⟨nb, 25, none⟩ (.bool false)).setCell ⟨nb, 26, none⟩ (.bool false)).setCell ⟨nb, 27, none⟩ (.bool false)) { n with tm := t, vt := 0, rl := 1, ld := -1, wd := 0, wt := wtD n.dr, vs := (((((((n.vs.set 0 (.bool false)).set 1 (.bool false)).set 2 (.bool false)).set 3 (.bool false)).set 4 (.bool false)).set 5 (.bool false)).set 6 (.bool false)) } ms es := k6
    rw [hset] at k7
    exact k7
  have F4 : Hid (∀ W, NdG w B nb n W { n with tm := t, vt := 0, rl := 1, ld := -1, wd := 0, wt := wtD n.dr, vs := List.replicate 7 (.bool false) } ms es → W.cell? ⟨nb, 0, none⟩ = some (.int .i64 0) ∧ W.cell? ⟨nb, 21, none⟩ = some (.bool false) ∧ W.frozen? ⟨nb, 21, none⟩ = false ∧ (W.setCell ⟨nb, 21, none⟩ (.bool true)).cell? ⟨nb, 0, none⟩ = some (.int .i64 0) ∧ Hid (NdG W B nb { n with tm := t, vt := 0, rl := 1, ld := -1, wd := 0, wt := wtD n.dr, vs := List.replicate 7 (.bool false) } (W.setCell ⟨nb, 21, none⟩ (.bool true)) (ndSt n t) ms es)) := fun W g => by
    have g2 := g.nd.put (n1 := ndSt n t) 21 (.bool true) (Nd.c_vs _ 0 _ (by simp)) rfl rfl
    exact ⟨by rw [← hme]; exact g.nd.bx.cellAt rfl, g.nd.bx.cellAt rfl, g.nd.bx.frozen, by rw [← hme]; exact g2.nd.bx.cellAt rfl, g2⟩
  have y0 := HR0.out.cellAt (o := 0) rfl
  clear h h7 hme hrl ht ht0 ht1 hC hL hb0
  generalize ndSt n t = nS at *
  generalize ({ n with tm := t, vt := 0, rl := 1, ld := -1, wd := 0, wt := wtD n.dr, vs := List.replicate 7 (.bool false) } : Nd) = nV at *
  generalize ({ n with tm := t, vt := 0, rl := 1, ld := -1, wd := 0, wt := wtD n.dr } : Nd) = nU at *
  generalize ({ n with tm := t, vt := -1, rl := 1, ld := -1 } : Nd) = nT at *
  generalize ({ n with tm := t, vt := -1, rl := 0, ld := -1 } : Nd) = nR at *
  generalize n.tm = tm at *
  go_enter Tryz.func78, Tryz.ntmps78
  go_wp2
  have HG1 := hid HG0.out.drew
  have HR1 : Hid (RowIs (w.alloc (.cells #[.pointer (some ⟨nb, 0, none⟩)] 44)).drew w.heap.size [.pointer (some ⟨nb, 0, none⟩)] 44) := HR0.out
  clear HG0 HR0
  refine wp_region_held_drew (S := fun W => W.cell? ⟨w.heap.size, 0, none⟩ = some (.pointer (some ⟨nb, 0, none⟩))) (by kernel_rfl) y0 (fun hHeld => ?_)
  generalize (w.alloc (.cells #[.pointer (some ⟨nb, 0, none⟩)] 44)).drew = V1 at *
  have x1 := F1.out _ HG1.out.nd
  refine wpAnyH_take (i := 0) (v := ?vv1) rfl (by kernel_rfl) (by kernel_rfl) (by kernel_rfl) (fun _ _ _ h => h) (Or.inl ⟨by rfl, ?hy1⟩) (by assumption) ?rest1
  case hy1 => (intro w hSw; (try dsimp only at hSw); go_simp; first | done | with_reducible rfl)
  try simp only [Act.put, List.getElem_toArray, List.getElem_cons_succ, List.getElem_cons_zero, List.setIfInBounds_toArray, List.set_cons_zero, List.set_cons_succ]
  refine wpAnyH_take (i := 1) (v := ?vv2) rfl (by kernel_rfl) (by kernel_rfl) (by kernel_rfl) (fun _ _ _ h => h) (Or.inl ⟨by rfl, ?hy2⟩) (by assumption) ?rest2
  case hy2 => (intro w hSw; (try dsimp only at hSw); go_simp; first | done | with_reducible rfl)
  try simp only [Act.put, List.getElem_toArray, List.getElem_cons_succ, List.getElem_cons_zero, List.setIfInBounds_toArray, List.set_cons_zero, List.set_cons_succ]
  refine wpAnyH_take (i := 2) (v := ?vv3) rfl (by kernel_rfl) (by kernel_rfl) (by kernel_rfl) (fun _ _ _ h => h) (Or.inl ⟨by rfl, ?hy3⟩) (by assumption) ?rest3
  case hy3 => (intro w hSw; (try dsimp only at hSw); go_simp; first | done | with_reducible rfl)
  try simp only [Act.put, List.getElem_toArray, List.getElem_cons_succ, List.getElem_cons_zero, List.setIfInBounds_toArray, List.set_cons_zero, List.set_cons_succ]
  refine wpAnyH_take (i := 3) (v := ?vv4) rfl (by kernel_rfl) (by kernel_rfl) (by kernel_rfl) (fun _ _ _ h => h) (Or.inl ⟨by rfl, ?hy4⟩) (by assumption) ?rest4
  case hy4 => (intro w hSw; (try dsimp only at hSw); go_simp; first | done | with_reducible rfl)
  try simp only [Act.put, List.getElem_toArray, List.getElem_cons_succ, List.getElem_cons_zero, List.setIfInBounds_toArray, List.set_cons_zero, List.set_cons_succ]
  refine wpAnyH_ready (rs := [4]) (by kernel_rfl) (by simp) ?_
  refine AllReadyH.cons rfl (fun K hK => ?_) AllReadyH.nil
  have y1 := HR1.out.cellAt (o := 0) rfl
  go_simp
  refine hK.out _ _ y1 (fun hHeld => ?_)
  clear hK K
  try simp only [Act.put, List.getElem_toArray, List.getElem_cons_succ, List.getElem_cons_zero, List.setIfInBounds_toArray, List.set_cons_zero, List.set_cons_succ]
  refine wpAnyH_take (i := 5) (v := ?vv5) rfl (by kernel_rfl) (by kernel_rfl) (by kernel_rfl) (fun _ _ _ h => h) (Or.inl ⟨by rfl, ?hy5⟩) (by assumption) ?rest5
  case hy5 => (intro w hSw; (try dsimp only at hSw); go_simp; first | done | with_reducible rfl)
  try simp only [Act.put, List.getElem_toArray, List.getElem_cons_succ, List.getElem_cons_zero, List.setIfInBounds_toArray, List.set_cons_zero, List.set_cons_succ]
  refine wpAnyH_ready (rs := [6]) (by kernel_rfl) (by simp) ?_
  refine AllReadyH.cons rfl (fun K hK => ?_) AllReadyH.nil
  go_simp
  (try rw [htw2])
  refine (RI.out _ HG1.out.nd).mono ?_
  rintro e v2 ⟨rfl, g1⟩
  have R1 := hid (KR.out HG1.out g1 HR1.out)
  have G1 := hid (HG1.out.trans g1)
  have y2 := R1.out.cellAt (o := 0) rfl
  clear g1 HR1 HG1 y0 y1 x1 hHeld
  go_wp2_with fail
  refine hK.out _ _ y2 (fun hHeld => ?_)
  clear hK K
  try simp only [Act.put, List.getElem_toArray, List.getElem_cons_succ, List.getElem_cons_zero, List.setIfInBounds_toArray, List.set_cons_zero, List.set_cons_succ]
  refine wpAnyH_done (by kernel_rfl) ?_ _
  clear hHeld RI F1
  have y0 := R1.out.cellAt (o := 0) rfl
  obtain ⟨x9, f9, x0, g2⟩ := F2.out _ G1.out
  have R2 := hid (KR.out G1.out g2.out R1.out)
  have G2 := hid (G1.out.trans g2.out)
  clear F2 g2 R1 G1
  go_wp2
  have y3 : (v2.setCell ⟨nb, 9, none⟩ (.int .i64 1)).drew.cell? ⟨w.heap.size, 0, none⟩ = some (.pointer (some ⟨nb, 0, none⟩)) := R2.out.cellAt rfl
  have HG3 := hid G2.out.drew
  have HR3 : Hid (RowIs (v2.setCell ⟨nb, 9, none⟩ (.int .i64 1)).drew w.heap.size [.pointer (some ⟨nb, 0, none⟩)] 44) := R2.out
  have x3 : (v2.setCell ⟨nb, 9, none⟩ (.int .i64 1)).drew.cell? ⟨nb, 0, none⟩ = some (.int .i64 0) := x0
  clear G2 R2 y0 y2 x0 x9 f9
  refine wp_region_held_drew (S := fun W => W.cell? ⟨w.heap.size, 0, none⟩ = some (.pointer (some ⟨nb, 0, none⟩))) (by kernel_rfl) y3 (fun hHeld => ?_)
  generalize (v2.setCell ⟨nb, 9, none⟩ (.int .i64 1)).drew = V3 at *
  refine wpAnyH_take (i := 0) (v := ?vv6) rfl (by kernel_rfl) (by kernel_rfl) (by kernel_rfl) (fun _ _ _ h => h) (Or.inl ⟨by rfl, ?hy6⟩) (by assumption) ?rest6
  case hy6 => (intro w hSw; (try dsimp only at hSw); go_simp; first | done | with_reducible rfl)
  try simp only [Act.put, List.getElem_toArray, List.getElem_cons_succ, List.getElem_cons_zero, List.setIfInBounds_toArray, List.set_cons_zero, List.set_cons_succ]
  refine wpAnyH_take (i := 1) (v := ?vv7) rfl (by kernel_rfl) (by kernel_rfl) (by kernel_rfl) (fun _ _ _ h => h) (Or.inl ⟨by rfl, ?hy7⟩) (by assumption) ?rest7
  case hy7 => (intro w hSw; (try dsimp only at hSw); go_simp; first | done | with_reducible rfl)
  try simp only [Act.put, List.getElem_toArray, List.getElem_cons_succ, List.getElem_cons_zero, List.setIfInBounds_toArray, List.set_cons_zero, List.set_cons_succ]
  refine wpAnyH_take (i := 2) (v := ?vv8) rfl (by kernel_rfl) (by kernel_rfl) (by kernel_rfl) (fun _ _ _ h => h) (Or.inl ⟨by rfl, ?hy8⟩) (by assumption) ?rest8
  case hy8 => (intro w hSw; (try dsimp only at hSw); go_simp; first | done | with_reducible rfl)
  try simp only [Act.put, List.getElem_toArray, List.getElem_cons_succ, List.getElem_cons_zero, List.setIfInBounds_toArray, List.set_cons_zero, List.set_cons_succ]
  refine wpAnyH_take (i := 3) (v := ?vv9) rfl (by kernel_rfl) (by kernel_rfl) (by kernel_rfl) (fun _ _ _ h => h) (Or.inl ⟨by rfl, ?hy9⟩) (by assumption) ?rest9
  case hy9 => (intro w hSw; (try dsimp only at hSw); go_simp; first | done | with_reducible rfl)
  try simp only [Act.put, List.getElem_toArray, List.getElem_cons_succ, List.getElem_cons_zero, List.setIfInBounds_toArray, List.set_cons_zero, List.set_cons_succ]
  refine wpAnyH_ready (rs := [4]) (by kernel_rfl) (by simp) ?_
  refine AllReadyH.cons rfl (fun K hK => ?_) AllReadyH.nil
  have y1 := HR3.out.cellAt (o := 0) rfl
  go_simp
  refine hK.out _ _ y1 (fun hHeld => ?_)
  clear hK K
  try simp only [Act.put, List.getElem_toArray, List.getElem_cons_succ, List.getElem_cons_zero, List.setIfInBounds_toArray, List.set_cons_zero, List.set_cons_succ]
  refine wpAnyH_ready (rs := [5]) (by kernel_rfl) (by simp) ?_
  refine AllReadyH.cons rfl (fun K hK => ?_) AllReadyH.nil
  go_simp
  refine (VO.out _ HG3.out.nd).mono ?_
  rintro e v4 ⟨rfl, g1⟩
  have R3 := hid (KR.out HG3.out g1 HR3.out)
  have G3 := hid (HG3.out.trans g1)
  have y2 := R3.out.cellAt (o := 0) rfl
  clear g1 HR3 HG3 y1 y3 x3 hHeld
  go_wp2_with fail
  refine hK.out _ _ y2 (fun hHeld => ?_)
  clear hK K
  try simp only [Act.put, List.getElem_toArray, List.getElem_cons_succ, List.getElem_cons_zero, List.setIfInBounds_toArray, List.set_cons_zero, List.set_cons_succ]
  refine wpAnyH_done (by kernel_rfl) ?_ _
  clear hHeld VO
  have y0 := R3.out.cellAt (o := 0) rfl
  obtain ⟨⟨u0, u1, u2, u3, u4, u5, u6, z0, z1, z2, z3, z4, z5, z6⟩, ff, g4⟩ := F3.out _ G3.out
  have f0 := ff 21
  have f1 := ff 22
  have f2 := ff 23
  have f3 := ff 24
  have f4 := ff 25
  have f5 := ff 26
  have f6 := ff 27
  have R4 := hid (KR.out G3.out g4.out R3.out)
  have G4 := hid (G3.out.trans g4.out)
  clear F3 g4 R3 G3 ff
  go_wp2
  clear y0 y2 z0 z1 z2 z3 z4 z5 z6 f0 f1 f2 f3 f4 f5 f6
  generalize (((((((v4.setCell ⟨nb, 21, none⟩ (.bool false)).setCell ⟨nb, 22, none⟩ (.bool false)).setCell ⟨nb, 23, none⟩ (.bool false)).setCell ⟨nb, 24, none⟩ (.bool false)).setCell ⟨nb, 25, none⟩ (.bool false)).setCell ⟨nb, 26, none⟩ (.bool false)).setCell ⟨nb, 27, none⟩ (.bool false)) = V50 at *
  obtain ⟨x5, p5, q5, x6, g5⟩ := F4.out _ G4.out.drew
  have y5 : V50.drew.cell? ⟨w.heap.size, 0, none⟩ = some (.pointer (some ⟨nb, 0, none⟩)) := R4.out.cellAt rfl
  have HR5 : Hid (RowIs V50.drew w.heap.size [.pointer (some ⟨nb, 0, none⟩)] 44) := R4.out
  have HG5 := hid G4.out.drew
  clear G4 R4
  refine wp_region_held_drew (S := fun W => W.cell? ⟨w.heap.size, 0, none⟩ = some (.pointer (some ⟨nb, 0, none⟩)) ∧ W.cell? ⟨nb, 0, none⟩ = some (.int .i64 0)) (by kernel_rfl) ⟨y5, x5⟩ (fun hHeld => ?_)
  generalize V50.drew = V5 at *
  refine wpAnyH_take (i := 0) (v := ?vv10) rfl (by kernel_rfl) (by kernel_rfl) (by kernel_rfl) (fun _ _ _ h => h) (Or.inl ⟨by rfl, ?hy10⟩) (by assumption) ?rest10
  case hy10 => (intro w hSw; (try dsimp only at hSw); go_simp; first | done | with_reducible rfl)
  try simp only [Act.put, List.getElem_toArray, List.getElem_cons_succ, List.getElem_cons_zero, List.setIfInBounds_toArray, List.set_cons_zero, List.set_cons_succ]
  refine wpAnyH_take (i := 1) (v := ?vv11) rfl (by kernel_rfl) (by kernel_rfl) (by kernel_rfl) (fun _ _ _ h => h) (Or.inl ⟨by rfl, ?hy11⟩) (by assumption) ?rest11
  case hy11 => (intro w hSw; (try dsimp only at hSw); go_simp; first | done | with_reducible rfl)
  try simp only [Act.put, List.getElem_toArray, List.getElem_cons_succ, List.getElem_cons_zero, List.setIfInBounds_toArray, List.set_cons_zero, List.set_cons_succ]
  refine wpAnyH_take (i := 2) (v := ?vv12) rfl (by kernel_rfl) (by kernel_rfl) (by kernel_rfl) (fun _ _ _ h => h) (Or.inl ⟨by rfl, ?hy12⟩) (by assumption) ?rest12
  case hy12 => (intro w hSw; (try dsimp only at hSw); go_simp; first | done | with_reducible rfl)
  try simp only [Act.put, List.getElem_toArray, List.getElem_cons_succ, List.getElem_cons_zero, List.setIfInBounds_toArray, List.set_cons_zero, List.set_cons_succ]
  refine wpAnyH_take (i := 3) (v := ?vv13) rfl (by kernel_rfl) (by kernel_rfl) (by kernel_rfl) (fun _ _ _ h => h) (Or.inl ⟨by rfl, ?hy13⟩) (by assumption) ?rest13
  case hy13 => (intro w hSw; (try dsimp only at hSw); go_simp; first | done | with_reducible rfl)
  try simp only [Act.put, List.getElem_toArray, List.getElem_cons_succ, List.getElem_cons_zero, List.setIfInBounds_toArray, List.set_cons_zero, List.set_cons_succ]
  refine wpAnyH_take (i := 4) (v := ?vv14) rfl (by kernel_rfl) (by kernel_rfl) (by kernel_rfl) (fun _ _ _ h => h) (Or.inl ⟨by rfl, ?hy14⟩) (by assumption) ?rest14
  case hy14 => (intro w hSw; (try dsimp only at hSw); go_simp; first | done | with_reducible rfl)
  try simp only [Act.put, List.getElem_toArray, List.getElem_cons_succ, List.getElem_cons_zero, List.setIfInBounds_toArray, List.set_cons_zero, List.set_cons_succ]
  refine wpAnyH_take (i := 5) (v := ?vv15) rfl (by kernel_rfl) (by kernel_rfl) (by kernel_rfl) (fun _ _ _ h => h) (Or.inl ⟨by rfl, ?hy15⟩) (by assumption) ?rest15
  case hy15 => (intro w hSw; (try dsimp only at hSw); go_simp; first | done | with_reducible rfl)
  try simp only [Act.put, List.getElem_toArray, List.getElem_cons_succ, List.getElem_cons_zero, List.setIfInBounds_toArray, List.set_cons_zero, List.set_cons_succ]
  refine wpAnyH_take (i := 6) (v := ?vv16) rfl (by kernel_rfl) (by kernel_rfl) (by kernel_rfl) (fun _ _ _ h => h) (Or.inl ⟨by rfl, ?hy16⟩) (by assumption) ?rest16
  case hy16 => (intro w hSw; (try dsimp only at hSw); go_simp; first | done | with_reducible rfl)
  try simp only [Act.put, List.getElem_toArray, List.getElem_cons_succ, List.getElem_cons_zero, List.setIfInBounds_toArray, List.set_cons_zero, List.set_cons_succ]
  refine wpAnyH_take (i := 7) (v := ?vv17) rfl (by kernel_rfl) (by kernel_rfl) (by kernel_rfl) (fun _ _ _ h => h) (Or.inl ⟨by rfl, ?hy17⟩) (by assumption) ?rest17
  case hy17 => (intro w hSw; (try dsimp only at hSw); go_simp; first | done | with_reducible rfl)
  try simp only [Act.put, List.getElem_toArray, List.getElem_cons_succ, List.getElem_cons_zero, List.setIfInBounds_toArray, List.set_cons_zero, List.set_cons_succ]
  refine wpAnyH_ready (rs := [8]) (by kernel_rfl) (by simp) ?_
  refine AllReadyH.cons rfl (fun K hK => ?_) AllReadyH.nil
  have R5 := hid (KR.out HG5.out g5.out HR5.out)
  have G5 := hid (HG5.out.trans g5.out)
  have y6 := R5.out.cellAt (o := 0) rfl
  go_simp
  refine hK.out _ _ ⟨y6, x6⟩ (fun hHeld => ?_)
  clear hK K
  try simp only [Act.put, List.getElem_toArray, List.getElem_cons_succ, List.getElem_cons_zero, List.setIfInBounds_toArray, List.set_cons_zero, List.set_cons_succ]
  refine wpAnyH_done (by kernel_rfl) ?_ _
  clear g5 HG5 HR5 y5 x5 p5 q5 y6 x6
  generalize V5.setCell ⟨nb, 21, none⟩ (.bool true) = V6 at *
  clear hHeld F4
  have y0 := R5.out.cellAt (o := 0) rfl
  have HC2 := hid (HC.out _ G5.out)
  clear HC
  go_wp2_with fail
  refine HC2.out.mono ?_
  rintro e w6 ⟨rfl, b6⟩
  have R6 := hid (R5.out.keep (b6.keep (fun _ => False)) (fun h => h))
  have G6 := hid (G5.out.next b6)
  have HL2 := hid (HL.out _ G6.out)
  clear HC2 HL b6 R5 G5 y0 KR
  have y0 := R6.out.cellAt (o := 0) rfl
  go_wp2_with fail
  refine HL2.out.mono ?_
  rintro e w7 ⟨rfl, g7⟩
  have G7 := hid g7
  clear HL2 g7 R6 G6 y0
  go_wp2
  go_ret
  exact ⟨rfl, G7.out⟩
end
end Go.Proofs.YtlkidnfgodficaaGreat
namespace Go.Proofs.YtlkidnfgodficaaGreat
open Go.RowKit Go.Maps
set_option linter.unusedVariables false
set_option linter.unusedSimpArgs false

section
variable {w w1 : World} {B nb : Nat} {n : Nd} {ms : List Int} {es : List En}
set_option maxRecDepth 100000 in
set_option maxHeartbeats 1000000 in
theorem nmayStand_mem (h : NdI w B nb n ms es) (hne : ms ≠ []) (hm : ms.length ≤ 17592186044416) (hl : es.length ≤ 17592186044416) (hd : ∀ x ∈ es, x.da.size ≤ 140737488355328) (hq : (mbL ms es).length ≤ 9223372036854775807) (ht : n.tm < 1099511627776) (hM : hasI n.me (mbL ms es) = true) :
    Calls Tryz.prog 77 #[.pointer (some ⟨nb, 0, none⟩)] w fun e w' => e = .returned (.bool true) ∧ Below w.heap.size w w' := by
  have IM := hid (nisMember_any h hne hm hl hd hq n.me)
  rw [hM] at IM
  have c0 := h.bx.cellAt (o := 0) rfl
  have c1 := h.bx.cellAt (o := 1) rfl
  have d1 : decide (n.tm < 1099511627776) = true := decide_eq_true ht
  generalize n.tm = tm at *
  generalize n.me = me at *
  clear h hne hm hl hd hq ht hM
  go_enter Tryz.func77, Tryz.ntmps77
  go_wp2_with fail
  refine IM.out.mono ?_
  rintro e w1 ⟨rfl, b1⟩
  have B1 := hid b1
  clear IM b1
  go_wp2
  go_ret
  exact ⟨rfl, B1.out⟩
/-- a node whose wait goes on by a tick -/
def ndTk (n : Nd) (d : Int) : Nd := { n with dr := d, df := max (n.df - 1) 0, wd := n.wd + 1 }
theorem ntick_end (h : NdI w B nb n ms es) (d : Int) : NdG w B nb n (((w.setCell ⟨nb, 11, none⟩ (.int .i64 d)).setCell ⟨nb, 14, none⟩ (.int .i64 (max (n.df - 1) 0))).setCell ⟨nb, 13, none⟩ (.int .i64 (n.wd + 1))) (ndTk n d) ms es := by
  have k1 := h.put (n1 := { n with dr := d }) 11 (.int .i64 d) rfl rfl rfl
  have k2 := k1.trans (k1.nd.put (n1 := { n with dr := d, df := max (n.df - 1) 0 }) 14 (.int .i64 (max (n.df - 1) 0)) rfl rfl rfl)
  exact k2.trans (k2.nd.put (n1 := ndTk n d) 13 (.int .i64 (n.wd + 1)) rfl rfl rfl)
set_option maxRecDepth 100000 in
set_option maxHeartbeats 2000000 in
theorem ntick_wait (h : NdI w B nb n ms es) (hne : ms ≠ []) (d : Int) (hdf : 0 ≤ n.df ∧ n.df ≤ 1000) (hwd : 0 ≤ n.wd ∧ n.wd ≤ 1000) (hrl : n.rl ≠ 2) (hw : n.wd + 1 < n.wt) :
    Calls Tryz.prog 28 #[.pointer (some ⟨nb, 0, none⟩), .int .i64 d] w fun e w' => e = .returned (.slice none 0 0) ∧ NdG w B nb n w' (ndTk n d) ms es := by
  have IN := hid (nisNone_any h hne)
  have c9 := h.bx.cellAt (o := 9) rfl
  have c11 := h.bx.cellAt (o := 11) rfl
  have c12 := h.bx.cellAt (o := 12) rfl
  have c13 := h.bx.cellAt (o := 13) rfl
  have c14 := h.bx.cellAt (o := 14) rfl
  have f11 := h.bx.frozen (o := 11)
  have f13 := h.bx.frozen (o := 13)
  have f14 := h.bx.frozen (o := 14)
  have FIN := hid (fun q => (ntick_end h d).drewN q)
  have w1 : wrap64 (n.df - 1) = n.df - 1 := IntWalk.wrap64_in _ (by omega)
  have w2 : wrap64 (n.wd + 1) = n.wd + 1 := IntWalk.wrap64_in _ (by omega)
  have d1 : decide (n.rl = 2) = false := decide_eq_false hrl
  have d1b : (n.rl == 2) = false := by rw [beq_eq_false_iff_ne]; exact hrl
  have d2 : decide (n.wd + 1 < n.wt) = true := decide_eq_true hw
  have m1 : (if n.df - 1 < 0 then 0 else n.df - 1) = max (n.df - 1) 0 := by split <;> omega
  have m2 : max 0 (n.df - 1) = max (n.df - 1) 0 := by omega
  generalize ndTk n d = n2 at *
  generalize n.rl = rl at *
  generalize n.df = df at *
  generalize n.wd = wd at *
  generalize n.wt = wt at *
  clear h hne hdf hwd hrl hw
  go_enter Tryz.func28, Tryz.ntmps28
  go_wp2_with fail
  refine IN.out.mono ?_
  rintro e w1 ⟨rfl, rfl⟩
  clear IN
  go_wp2
  go_quiet (fail)
  go_wp2
  go_ret
  exact ⟨rfl, FIN.out _⟩
set_option maxRecDepth 100000 in
set_option maxHeartbeats 2000000 in
theorem ntick_stand (h : NdI w B nb n ms es) (hne : ms ≠ []) (d : Int) (hdf : 0 ≤ n.df ∧ n.df ≤ 1000) (hwd : 0 ≤ n.wd ∧ n.wd ≤ 1000) (hrl : n.rl ≠ 2) (hw : ¬ n.wd + 1 < n.wt) (n2 : Value → Nd) (es2 : List En)
    (hM : ∀ W, NdG w B nb n W (ndTk n d) ms es → Calls Tryz.prog 77 #[.pointer (some ⟨nb, 0, none⟩)] W fun e w' => e = .returned (.bool true) ∧ Below W.heap.size W w')
    (hS : ∀ W, NdG w B nb n W (ndTk n d) ms es → Calls Tryz.prog 78 #[.pointer (some ⟨nb, 0, none⟩)] W fun e w' => e = .returned (.slice none 0 0) ∧ ∃ lg', NdG w B nb n w' (n2 lg') ms es2) :
    Calls Tryz.prog 28 #[.pointer (some ⟨nb, 0, none⟩), .int .i64 d] w fun e w' => e = .returned (.slice none 0 0) ∧ ∃ lg', NdG w B nb n w' (n2 lg') ms es2 := by
  have HM := hid hM
  have HS := hid hS
  have IN := hid (nisNone_any h hne)
  have c9 := h.bx.cellAt (o := 9) rfl
  have c11 := h.bx.cellAt (o := 11) rfl
  have c12 := h.bx.cellAt (o := 12) rfl
  have c13 := h.bx.cellAt (o := 13) rfl
  have c14 := h.bx.cellAt (o := 14) rfl
  have f11 := h.bx.frozen (o := 11)
  have f13 := h.bx.frozen (o := 13)
  have f14 := h.bx.frozen (o := 14)
  have FIN := hid (fun q => (ntick_end h d).drewN q)
  have w1 : wrap64 (n.df - 1) = n.df - 1 := IntWalk.wrap64_in _ (by omega)
  have w2 : wrap64 (n.wd + 1) = n.wd + 1 := IntWalk.wrap64_in _ (by omega)
  have d1 : decide (n.rl = 2) = false := decide_eq_false hrl
  have d1b : (n.rl == 2) = false := by rw [beq_eq_false_iff_ne]; exact hrl
  have d2 : decide (n.wd + 1 < n.wt) = false := decide_eq_false hw
  have m1 : (if n.df - 1 < 0 then 0 else n.df - 1) = max (n.df - 1) 0 := by split <;> omega
  have m2 : max 0 (n.df - 1) = max (n.df - 1) 0 := by omega
  generalize ndTk n d = n2 at *
  generalize n.rl = rl at *
  generalize n.df = df at *
  generalize n.wd = wd at *
  generalize n.wt = wt at *
  clear h hne hdf hwd hrl hw hM hS
  go_enter Tryz.func28, Tryz.ntmps28
  go_wp2_with fail
  refine IN.out.mono ?_
  rintro e w1 ⟨rfl, rfl⟩
  clear IN
  go_wp2
  go_quiet (fail)
  have HM2 := hid (HM.out _ (FIN.out nq))
  clear HM
  go_wp2_with fail
  refine HM2.out.mono ?_
  rintro e w2 ⟨rfl, b2⟩
  have HS2 := hid (HS.out _ ((FIN.out nq).next b2))
  clear HM2 HS FIN b2
  go_wp2_with fail
  refine HS2.out.mono ?_
  rintro e w3 ⟨rfl, g3⟩
  have G3 := hid g3
  clear HS2 g3
  go_wp2
  go_ret
  exact ⟨rfl, G3.out⟩
set_option maxRecDepth 100000 in
set_option maxHeartbeats 1000000 in
theorem nrefuses_lead (h : NdI w B nb n ms es) (hne : ms ≠ []) (hrl : n.rl = 2) : Calls Tryz.prog 63 #[.pointer (some ⟨nb, 0, none⟩)] w fun e w' => e = .returned (.int .i64 0) ∧ w' = w := by
  have IN := hid (nisNone_any h hne)
  have c9 : w.cell? ⟨nb, 9, none⟩ = some (.int .i64 2) := by rw [← hrl]; exact h.bx.cellAt rfl
  clear h hne hrl
  go_enter Tryz.func63, Tryz.ntmps63
  go_wp2_with fail
  refine IN.out.mono ?_
  rintro e w1 ⟨rfl, rfl⟩
  clear IN
  go_wp2
  go_ret
  exact ⟨rfl, rfl⟩
set_option maxRecDepth 100000 in
set_option maxHeartbeats 1000000 in
theorem nrole_any (h : NdI w B nb n ms es) (hne : ms ≠ []) : Calls Tryz.prog 19 #[.pointer (some ⟨nb, 0, none⟩)] w fun e w' => e = .returned (.int .i64 n.rl) ∧ w' = w := by
  have IN := hid (nisNone_any h hne)
  have c9 := h.bx.cellAt (o := 9) rfl
  generalize n.rl = rl at *
  clear h hne
  go_enter Tryz.func19, Tryz.ntmps19
  go_wp2_with fail
  refine IN.out.mono ?_
  rintro e w1 ⟨rfl, rfl⟩
  clear IN
  go_wp2
  go_ret
  exact ⟨rfl, rfl⟩
set_option maxRecDepth 100000 in
set_option maxHeartbeats 1000000 in
theorem ncommit_any (h : NdI w B nb n ms es) (hne : ms ≠ []) : Calls Tryz.prog 18 #[.pointer (some ⟨nb, 0, none⟩)] w fun e w' => e = .returned (.int .i64 n.cm) ∧ w' = w := by
  have IN := hid (nisNone_any h hne)
  have c8 := h.bx.cellAt (o := 8) rfl
  generalize n.cm = cm at *
  clear h hne
  go_enter Tryz.func18, Tryz.ntmps18
  go_wp2_with fail
  refine IN.out.mono ?_
  rintro e w1 ⟨rfl, rfl⟩
  clear IN
  go_wp2
  go_ret
  exact ⟨rfl, rfl⟩
set_option maxRecDepth 100000 in
set_option maxHeartbeats 2000000 in
theorem npropose_of (h : NdI w B nb n ms es) (hne : ms ≠ []) (hrl : n.rl = 2) (da : ByteArray) (hda : da.size ≤ 65536) (at_ : Int) (n2 : Value → Nd) (es2 : List En)
    (hL : ∀ W, NdG w B nb n W n ms es → Calls Tryz.prog 64 #[.pointer (some ⟨nb, 0, none⟩), .int .i64 0, .string da] W fun e w' => e = .returned (.tuple #[.int .i64 at_, .slice none 0 0]) ∧ ∃ lg', NdG w B nb n w' (n2 lg') ms es2) :
    Calls Tryz.prog 23 #[.pointer (some ⟨nb, 0, none⟩), .string da] w fun e w' => e = .returned (.tuple #[.int .i64 at_, .slice none 0 0, .int .i64 0]) ∧ ∃ lg', NdG w B nb n w' (n2 lg') ms es2 := by
  have RF := hid (nrefuses_lead h hne hrl)
  have CL := hid (clone_any da w (by omega))
  have HG := hid (NdG.refl h)
  have HL := hid hL
  have d1 : decide ((da.size : Int) > 65536) = false := decide_eq_false (by omega)
  clear h hne hrl hL hda
  go_enter Tryz.func23, Tryz.ntmps23
  go_wp2_with fail
  refine RF.out.mono ?_
  rintro e w1 ⟨rfl, rfl⟩
  clear RF
  go_wp2_with fail
  refine CL.out.mono ?_
  rintro e w2 ⟨rfl, b2⟩
  have HL2 := hid (HL.out _ (HG.out.next b2))
  clear CL b2 HL HG
  go_wp2_with fail
  refine HL2.out.mono ?_
  rintro e w3 ⟨rfl, g3⟩
  have G3 := hid g3
  clear HL2 g3
  go_wp2
  go_ret3
  exact ⟨rfl, G3.out⟩
end
end Go.Proofs.YtlkidnfgodficaaGreat
namespace Go.Proofs.YtlkidnfgodficaaGreat
open Go.RowKit Go.Maps
set_option linter.unusedVariables false
set_option linter.unusedSimpArgs false

theorem ret_ctE {fn : Func} {p u : Tmp} {ty : TypeId} (h : fn.results = #[.cell p ty, .tmp u]) (tmps : Array Value) (w : World) (g : Nat) (cs : Array Value) (x : Value)
    (hp : tmps.getD p undef = .pointer (some ⟨g, 0, none⟩)) (hx : tmps.getD u undef = x) (hg : (loadVar ty ⟨g, 0, none⟩).run Tryz.prog w = .ok (.agg cs) w) :
    (results fn tmps).run Tryz.prog w = .ok (.tuple #[.agg cs, x]) w := by
  rw [results_cell_tmp h, hp, hx]
  simp [asAddr, hg, Result.andThen]
section
variable {w w1 : World} {B nb : Nat} {n : Nd} {ms : List Int} {es : List En}
set_option maxRecDepth 100000 in
set_option maxHeartbeats 4000000 in
theorem nentry_in (h : NdI w B nb n ms es) (hne : ms ≠ []) (hl : es.length ≤ 17592186044416) (hb0 : 0 ≤ n.bi) (hb1 : n.bi ≤ 1099511627776) (k : Nat) (hk : k < es.length) (hd : (es[k]).da.size ≤ 140737488355328) (i : Int) (hi : i = n.bi + k + 1) :
    Calls Tryz.prog 48 #[.pointer (some ⟨nb, 0, none⟩), .int .i64 i] w fun e w' => e = .returned (.tuple #[.agg #[.int .i64 (es[k]).tm, .int .i64 (es[k]).kd, .string (es[k]).da], .bool true]) ∧ Below w.heap.size w w' := by
  obtain ⟨W0, hW0⟩ : ∃ W0, W0 = w.alloc (.cells #[.int .i64 0, .int .i64 0, .string ⟨#[]⟩] 51) := ⟨_, rfl⟩
  have b0 : Below w.heap.size w W0 := by rw [hW0]; exact below_al (Below.refl _ _) _
  have r0 : RowIs W0 w.heap.size [.int .i64 0, .int .i64 0, .string ⟨#[]⟩] 51 := by rw [hW0]; exact srow w _ _
  have LA : Hid (Calls Tryz.prog 17 #[.pointer (some ⟨nb, 0, none⟩)] W0 fun e w' => e = .returned (.tuple #[.int .i64 (n.bi + es.length), .int .i64 (ltT n.bt es)]) ∧ Below W0.heap.size W0 w') := nlast_any (h.next b0) hne hl hb0 hb1
  have IN : Hid (∀ W, Below w.heap.size w W → Calls Tryz.prog 56 #[.pointer (some ⟨nb, 0, none⟩)] W fun e w' => e = .returned (.bool false) ∧ w' = W) := fun W b => nisNone_any (h.next b) hne
  have PL : Hid (∀ W, Below w.heap.size w W → Calls Tryz.prog 60 #[.pointer (some ⟨nb, 0, none⟩), .int .i64 i] W fun e w' => e = .returned (.int .i64 ((k + 1 : Nat) : Int)) ∧ w' = W) := fun W hW => nplace_any (h.next hW) _ _ (by omega) (by omega) (by omega)
  have CE : Hid (∀ W, Calls Tryz.prog 98 #[.agg #[.int .i64 (es[k]).tm, .int .i64 (es[k]).kd, .string (es[k]).da]] W fun e w' => e = .returned (.agg #[.int .i64 (es[k]).tm, .int .i64 (es[k]).kd, .string (es[k]).da]) ∧ Below W.heap.size W w') := fun W => centry_any (es[k]) W hd
  obtain ⟨ad, cap, c7, e7⟩ := h.lgf
  have hv := h.lo.ents
  rw [e7] at hv
  obtain ⟨ad', cap', e8, hc⟩ := hv.form
  cases e8
  obtain ⟨b, off, hb, hbl, d0, d1, d2⟩ := hc k hk
  subst hb
  have CS : Hid (∀ W, Below w.heap.size w W → W.cell? ⟨nb, 7, none⟩ = some (.slice (some ⟨b, off, none⟩) es.length cap) ∧ W.cell? ⟨b, off + k * 3, none⟩ = some (.int .i64 (es[k]).tm) ∧ W.cell? ⟨b, off + k * 3 + 1, none⟩ = some (.int .i64 (es[k]).kd) ∧ W.cell? ⟨b, off + k * 3 + 2, none⟩ = some (.string (es[k]).da)) := fun W hW => ⟨(hW.cell h.lt).trans c7, (hW.cell hbl).trans d0, (hW.cell hbl).trans d1, (hW.cell hbl).trans d2⟩
  have C3 : Hid (∀ W, Below w.heap.size w W → W.cell? ⟨nb, 3, none⟩ = some (.int .i64 n.bi)) := fun W hW => (h.next hW).bx.cellAt rfl
  have g1 : decide (i > n.bi + (es.length : Int)) = false := decide_eq_false (by omega)
  have g2 : decide (i ≤ n.bi) = false := decide_eq_false (by omega)
  have q0 : wrap64 (((k + 1 : Nat) : Int) - 1) = (k : Int) := by rw [IntWalk.wrap64_in _ (by omega)]; omega
  have q1 : IntKind.i64.wrap (((k + 1 : Nat) : Int) - 1) = (k : Int) := by rw [IntKind.wrap_i64]; omega
  have p0 : (0 : Int) ≤ (k : Int) := by omega
  have p1 : (k : Int) < (es.length : Int) := by omega
  have HLT := hid h.lt
  have B0 := hid b0
  have R0 := hid r0
  generalize ltT n.bt es = lt at *
  generalize hx : es[k] = x at *
  obtain ⟨tm, kd, da⟩ := x
  simp only at *
  clear h hne hl hb0 hb1 hk hd hi hv hc d0 d1 d2 c7 e7 b0 r0 hbl hx
  generalize n.bi = bi at *
  generalize es.length = N at *
  generalize k + 1 = k1 at *
  generalize bi + (N : Int) = s at *
  go_enter Tryz.func48, Tryz.ntmps48
  go_wp2_with fail
  rw [← hW0]
  refine LA.out.mono ?_
  rintro e w1 ⟨rfl, b1⟩
  have B1 := hid (below_on B0.out b1)
  have R1 := hid (R0.out.keep (b1.keep (fun _ => False)) (fun h => h))
  have IN2 := hid (IN.out w1 B1.out)
  have c3 := C3.out w1 B1.out
  clear LA IN b1 B0 R0 hW0 C3
  go_wp2_with fail
  refine IN2.out.mono ?_
  rintro e w2 ⟨rfl, rfl⟩
  clear IN2
  obtain ⟨x0, x1, x2, x3⟩ := CS.out _ B1.out.drew
  go_wp2
  have B3 := hid B1.out.drew
  have R3 : Hid (RowIs w2.drew w.heap.size [.int .i64 0, .int .i64 0, .string ⟨#[]⟩] 51) := R1.out
  clear B1 R1 c3
  refine wp_region_held_drew (S := fun W => W.cell? ⟨nb, 7, none⟩ = some (.slice (some ⟨b, off, none⟩) N cap) ∧ W.cell? ⟨b, off + k * 3, none⟩ = some (.int .i64 tm) ∧ W.cell? ⟨b, off + k * 3 + 1, none⟩ = some (.int .i64 kd) ∧ W.cell? ⟨b, off + k * 3 + 2, none⟩ = some (.string da)) (by kernel_rfl) ⟨x0, x1, x2, x3⟩ (fun hHeld => ?_)
  generalize w2.drew = V at *
  refine wpAnyH_take (i := 0) (v := ?vv1) rfl (by kernel_rfl) (by kernel_rfl) (by kernel_rfl) (fun _ _ _ h => h) (Or.inl ⟨by rfl, ?hy1⟩) (by assumption) ?rest1
  case hy1 => (intro w hSw; (try dsimp only at hSw); go_simp; first | done | with_reducible rfl)
  try simp only [Act.put, List.getElem_toArray, List.getElem_cons_succ, List.getElem_cons_zero, List.setIfInBounds_toArray, List.set_cons_zero, List.set_cons_succ]
  refine wpAnyH_take (i := 1) (v := ?vv2) rfl (by kernel_rfl) (by kernel_rfl) (by kernel_rfl) (fun _ _ _ h => h) (Or.inl ⟨by rfl, ?hy2⟩) (by assumption) ?rest2
  case hy2 => (intro w hSw; (try dsimp only at hSw); go_simp; first | done | with_reducible rfl)
  try simp only [Act.put, List.getElem_toArray, List.getElem_cons_succ, List.getElem_cons_zero, List.setIfInBounds_toArray, List.set_cons_zero, List.set_cons_succ]
  refine wpAnyH_take (i := 2) (v := ?vv3) rfl (by kernel_rfl) (by kernel_rfl) (by kernel_rfl) (fun _ _ _ h => h) (Or.inl ⟨by rfl, ?hy3⟩) (by assumption) ?rest3
  case hy3 => (intro w hSw; (try dsimp only at hSw); go_simp; first | done | with_reducible rfl)
  try simp only [Act.put, List.getElem_toArray, List.getElem_cons_succ, List.getElem_cons_zero, List.setIfInBounds_toArray, List.set_cons_zero, List.set_cons_succ]
  refine wpAnyH_take (i := 3) (v := ?vv4) rfl (by kernel_rfl) (by kernel_rfl) (by kernel_rfl) (fun _ _ _ h => h) (Or.inl ⟨by rfl, ?hy4⟩) (by assumption) ?rest4
  case hy4 => (intro w hSw; (try dsimp only at hSw); go_simp; first | done | with_reducible rfl)
  try simp only [Act.put, List.getElem_toArray, List.getElem_cons_succ, List.getElem_cons_zero, List.setIfInBounds_toArray, List.set_cons_zero, List.set_cons_succ]
  refine wpAnyH_take (i := 4) (v := ?vv5) rfl (by kernel_rfl) (by kernel_rfl) (by kernel_rfl) (fun _ _ _ h => h) (Or.inl ⟨by rfl, ?hy5⟩) (by assumption) ?rest5
  case hy5 => (intro w hSw; (try dsimp only at hSw); go_simp; first | done | with_reducible rfl)
  try simp only [Act.put, List.getElem_toArray, List.getElem_cons_succ, List.getElem_cons_zero, List.setIfInBounds_toArray, List.set_cons_zero, List.set_cons_succ]
  refine wpAnyH_take (i := 5) (v := ?vv6) rfl (by kernel_rfl) (by kernel_rfl) (by kernel_rfl) (fun _ _ _ h => h) (Or.inl ⟨by rfl, ?hy6⟩) (by assumption) ?rest6
  case hy6 => (intro w hSw; (try dsimp only at hSw); go_simp; first | done | with_reducible rfl)
  try simp only [Act.put, List.getElem_toArray, List.getElem_cons_succ, List.getElem_cons_zero, List.setIfInBounds_toArray, List.set_cons_zero, List.set_cons_succ]
  refine wpAnyH_ready (rs := [6]) (by kernel_rfl) (by simp) ?_
  refine AllReadyH.cons rfl (fun K hK => ?_) AllReadyH.nil
  go_simp
  refine (PL.out _ B3.out).mono ?_
  rintro e w4 ⟨rfl, rfl⟩
  clear PL hHeld
  go_wp2_with fail
  refine hK.out _ _ (CS.out _ B3.out) (fun hHeld => ?_)
  clear hK K
  try simp only [Act.put, List.getElem_toArray, List.getElem_cons_succ, List.getElem_cons_zero, List.setIfInBounds_toArray, List.set_cons_zero, List.set_cons_succ]
  refine wpAnyH_take (i := 7) (v := ?vv7) rfl (by kernel_rfl) (by kernel_rfl) (by kernel_rfl) (fun _ _ _ h => h) (Or.inl ⟨by rfl, ?hy7⟩) (by assumption) ?rest7
  case hy7 => (intro w hSw; (try dsimp only at hSw); go_simp; first | done | with_reducible rfl)
  try simp only [Act.put, List.getElem_toArray, List.getElem_cons_succ, List.getElem_cons_zero, List.setIfInBounds_toArray, List.set_cons_zero, List.set_cons_succ]
  refine wpAnyH_take (i := 8) (v := ?vv8) rfl (by kernel_rfl) (by kernel_rfl) (by kernel_rfl) (fun _ _ _ h => h) (Or.inl ⟨by rfl, ?hy8⟩) (by assumption) ?rest8
  case hy8 => (intro w hSw; (try dsimp only at hSw); go_simp; first | done | with_reducible rfl)
  try simp only [Act.put, List.getElem_toArray, List.getElem_cons_succ, List.getElem_cons_zero, List.setIfInBounds_toArray, List.set_cons_zero, List.set_cons_succ]
  refine wpAnyH_take (i := 9) (v := ?vv9) rfl (by kernel_rfl) (by kernel_rfl) (by kernel_rfl) (fun _ _ _ h => h) (Or.inl ⟨by rfl, ?hy9⟩) (by assumption) ?rest9
  case hy9 => (intro w hSw; (try dsimp only at hSw); go_simp; first | done | with_reducible rfl)
  try simp only [Act.put, List.getElem_toArray, List.getElem_cons_succ, List.getElem_cons_zero, List.setIfInBounds_toArray, List.set_cons_zero, List.set_cons_succ]
  refine wpAnyH_ready (rs := [10]) (by kernel_rfl) (by simp) ?_
  refine AllReadyH.cons rfl (fun K hK => ?_) AllReadyH.nil
  go_simp
  refine (CE.out _).mono ?_
  rintro e w5 ⟨rfl, b5⟩
  have B5 := hid (below_on B3.out b5)
  have R5 := hid (R3.out.keep (b5.keep (fun _ => False)) (fun h => h))
  clear CE b5 B3 R3 hHeld x0 x1 x2 x3
  go_wp2_with fail
  refine hK.out _ _ (CS.out _ B5.out) (fun hHeld => ?_)
  clear hK K
  try simp only [Act.put, List.getElem_toArray, List.getElem_cons_succ, List.getElem_cons_zero, List.setIfInBounds_toArray, List.set_cons_zero, List.set_cons_succ]
  refine wpAnyH_ready (rs := [11]) (by kernel_rfl) (by simp) ?_
  refine AllReadyH.cons rfl (fun K hK => ?_) AllReadyH.nil
  have z0 := R5.out.cellAt (o := 0) rfl
  have z1 := R5.out.cellAt (o := 1) rfl
  have z2 := R5.out.cellAt (o := 2) rfl
  have f0 := R5.out.frozen (o := 0)
  have f1 := R5.out.frozen (o := 1)
  have f2 := R5.out.frozen (o := 2)
  have R9 : Hid (RowIs (((w5.setCell ⟨w.heap.size, 0, none⟩ (.int .i64 tm)).setCell ⟨w.heap.size, 1, none⟩ (.int .i64 kd)).setCell ⟨w.heap.size, 2, none⟩ (.string da)) w.heap.size [.int .i64 tm, .int .i64 kd, .string da] 51) := ((R5.out.set 0 _).set 1 _).set 2 _
  have B9 : Hid (Below w.heap.size w (((w5.setCell ⟨w.heap.size, 0, none⟩ (.int .i64 tm)).setCell ⟨w.heap.size, 1, none⟩ (.int .i64 kd)).setCell ⟨w.heap.size, 2, none⟩ (.string da))) := B5.out.trans (keep_below (((keep_setCell _ _ _ _).trans (keep_setCell _ _ _ _)).trans (keep_setCell _ _ _ _)) (fun j hj e => by omega) B5.out.size)
  have Z9 := CS.out _ B9.out
  go_simp
  refine hK.out _ _ Z9 (fun hHeld => ?_)
  clear hK K
  try simp only [Act.put, List.getElem_toArray, List.getElem_cons_succ, List.getElem_cons_zero, List.setIfInBounds_toArray, List.set_cons_zero, List.set_cons_succ]
  refine wpAnyH_take (i := 12) (v := ?vv10) rfl (by kernel_rfl) (by kernel_rfl) (by kernel_rfl) (fun _ _ _ h => h) (Or.inl ⟨by rfl, ?hy10⟩) (by assumption) ?rest10
  case hy10 => (intro w hSw; (try dsimp only at hSw); go_simp; first | done | with_reducible rfl)
  try simp only [Act.put, List.getElem_toArray, List.getElem_cons_succ, List.getElem_cons_zero, List.setIfInBounds_toArray, List.set_cons_zero, List.set_cons_succ]
  refine wpAnyH_done (by kernel_rfl) ?_ _
  clear hHeld
  go_wp2
  refine bodyPost_ret (v := .tuple #[.agg #[.int .i64 tm, .int .i64 kd, .string da], .bool true]) (ret_ctE (p := 4) (u := 5) rfl _ _ w.heap.size _ _ rfl rfl (run_loadVar_row _ _ _ _ _ _ _ R9.out Tryz.underlying51 rfl (by kernel_rfl))) rfl ?_
  exact ⟨rfl, B9.out⟩
end
end Go.Proofs.YtlkidnfgodficaaGreat
namespace Go.Proofs.YtlkidnfgodficaaGreat
open Go.RowKit Go.Maps
set_option linter.unusedVariables false
set_option linter.unusedSimpArgs false

def shA : Sh := ⟨0, 0, [0], ⟨#[]⟩⟩
def enN : En := ⟨1, 1, ⟨#[]⟩⟩
def enX : En := ⟨1, 0, ⟨#[120]⟩⟩
def nW (bm lg ga : Value) (k : Nat) : Nd := { ndN 0 0 (-1) shA 0 bm lg ga with wt := 10, wd := (k : Int) }
def pL1 : List Int := [1, 0, 0, -1, 0, 1, 0, 0, -1, 0, 1, 0, 0, -1, 0, 1, 0, 0, -1, 0, 1, 0, 0, -1, 0, 1, 0, 0, -1, 0, 1, 0, 0, -1, 0]
def vsL : List Bool := [true, false, false, false, false, false, false]
def nL (bm ga : Value) (cm : Int) (lg : Value) : Nd := ⟨0, 1, 0, 0, 0, bm, ⟨#[]⟩, lg, cm, 2, 0, 0, 10, 0, 0, ga, 0, 0, .slice none 0 0, ⟨#[]⟩, false, vsL.map .bool, 0, 0, pL1.map (.int .i64)⟩
theorem nW_first (bm lg ga : Value) : ndWa (ndN 0 0 (-1) shA 0 bm lg ga) = nW bm lg ga 0 := by kernel_rfl
theorem nW_next (bm lg ga : Value) (k : Nat) : ndTk (nW bm lg ga k) 0 = nW bm lg ga (k + 1) := by
  unfold ndTk nW
  rw [show max (({ ndN 0 0 (-1) shA 0 bm lg ga with wt := 10, wd := (k : Int) } : Nd).df - 1) 0 = 0 from by kernel_rfl]
  rw [show (({ ndN 0 0 (-1) shA 0 bm lg ga with wt := 10, wd := (k : Int) } : Nd).wd + 1) = ((k + 1 : Nat) : Int) from by show (k : Int) + 1 = _; omega]
  rfl
theorem mb0 : mbL [0] [] = [0] := by kernel_rfl
theorem mb1 : mbL [0] [enN] = [0] := by kernel_rfl
theorem mb2 : mbL [0] ([enN] ++ [enX]) = [0] := by kernel_rfl
section
variable {W : World} {B nb : Nat} {bm lg ga : Value}
theorem wait_tick {k : Nat} (h : NdI W B nb (nW bm lg ga k) [0] []) (hk : k < 9) : Calls Tryz.prog 28 #[.pointer (some ⟨nb, 0, none⟩), .int .i64 0] W fun e w' => e = .returned (.slice none 0 0) ∧ NdG W B nb (nW bm lg ga k) w' (nW bm lg ga (k + 1)) [0] [] := by
  have := ntick_wait h (by simp) 0 ⟨of_decide_eq_true (by kernel_rfl), of_decide_eq_true (by kernel_rfl)⟩ ⟨by show (0 : Int) ≤ (k : Int); omega, by show (k : Int) ≤ 1000; omega⟩ (of_decide_eq_true (by kernel_rfl)) (by show (k : Int) + 1 < 10; omega)
  rw [nW_next] at this
  exact this
theorem lay_n {lg : Value} (h : NdI W B nb (nL bm ga 0 lg) [0] []) : Calls Tryz.prog 64 #[.pointer (some ⟨nb, 0, none⟩), .int .i64 1, .string ⟨#[]⟩] W fun e w' => e = .returned (.tuple #[.int .i64 1, .slice none 0 0]) ∧ ∃ lg', NdG W B nb (nL bm ga 0 lg) w' (nL bm ga 1 lg') [0] [enN] := by
  have hne : ([0] : List Int) ≠ [] := by simp
  have hd0 : ∀ x ∈ ([] : List En), x.da.size ≤ 140737488355328 := fun x hx => by simp at hx
  exact nlay_alone h hne (of_decide_eq_true (by kernel_rfl)) (of_decide_eq_true (by kernel_rfl)) hd0 (of_decide_eq_true (by kernel_rfl)) (of_decide_eq_true (by kernel_rfl)) (by kernel_rfl) pL1 (by kernel_rfl) (by kernel_rfl) (by kernel_rfl) 1 ⟨#[]⟩ (of_decide_eq_true (by kernel_rfl)) mb1 (by kernel_rfl) (of_decide_eq_true (by kernel_rfl))
theorem lead_tick (h : NdI W B nb (nW bm lg ga 9) [0] []) : Calls Tryz.prog 28 #[.pointer (some ⟨nb, 0, none⟩), .int .i64 0] W fun e w' => e = .returned (.slice none 0 0) ∧ ∃ lg', NdG W B nb (nW bm lg ga 9) w' (nL bm ga 1 lg') [0] [enN] := by
  have hne : ([0] : List Int) ≠ [] := by simp
  have hd0 : ∀ x ∈ ([] : List En), x.da.size ≤ 140737488355328 := fun x hx => by simp at hx
  refine ntick_stand h hne 0 ⟨of_decide_eq_true (by kernel_rfl), of_decide_eq_true (by kernel_rfl)⟩ ⟨of_decide_eq_true (by kernel_rfl), of_decide_eq_true (by kernel_rfl)⟩ (of_decide_eq_true (by kernel_rfl)) (of_decide_eq_true (by kernel_rfl)) (nL bm ga 1) [enN] ?_ ?_
  · intro W2 g
    rw [nW_next] at g
    have := nmayStand_mem g.nd hne (of_decide_eq_true (by kernel_rfl)) (of_decide_eq_true (by kernel_rfl)) hd0 (by rw [mb0]; exact of_decide_eq_true (by kernel_rfl)) (of_decide_eq_true (by kernel_rfl)) (by rw [mb0]; exact of_decide_eq_true (by kernel_rfl))
    exact this
  · intro W2 g
    rw [nW_next] at g
    have hs := nstand_of g.nd (of_decide_eq_true (by kernel_rfl)) (by kernel_rfl) (by kernel_rfl) 1 (by kernel_rfl) (of_decide_eq_true (by kernel_rfl)) (of_decide_eq_true (by kernel_rfl)) (nL bm ga 1) [enN] ?_ ?_
    · exact hs.mono fun e w' ⟨he, lg', g2⟩ => ⟨he, lg', g.trans g2⟩
    · intro W3 g3
      have := nchosen_any g3.nd hne (of_decide_eq_true (by kernel_rfl)) (of_decide_eq_true (by kernel_rfl)) hd0 (by rw [mb0]; exact of_decide_eq_true (by kernel_rfl)) vsL (by kernel_rfl) (by kernel_rfl)
      rw [mb0, show engC [0] ((nodesF 7 0).filter (fun k => vsL.getD k.toNat false)) = true from by kernel_rfl] at this
      exact this
    · intro W3 g3
      have hl := nlead_of g3.nd hne (of_decide_eq_true (by kernel_rfl)) (of_decide_eq_true (by kernel_rfl)) (of_decide_eq_true (by kernel_rfl)) (by kernel_rfl) (by kernel_rfl) 1 (nL bm ga 1) [enN] ?_
      · exact hl.mono fun e w' ⟨he, lg', g4⟩ => ⟨he, lg', g3.trans g4⟩
      · intro W4 g4
        have e4 : ({ (ndSt (nW bm lg ga 10) 1) with rl := 2, ld := (ndSt (nW bm lg ga 10) 1).me, rn := 0, be := 0, ps := psF (ndSt (nW bm lg ga 10) 1).ps ((ndSt (nW bm lg ga 10) 1).bi + (([] : List En).length : Int) + 1) 7 } : Nd) = nL bm ga 0 lg := by kernel_rfl
        have g5 : NdG W3 B nb (ndSt (nW bm lg ga 10) 1) W4 (nL bm ga 0 lg) [0] [] := by rw [← e4]; exact g4
        exact (lay_n g5.nd).mono fun e w' ⟨he, lg', g6⟩ => ⟨he, lg', g5.trans g6⟩
theorem lay_x (h : NdI W B nb (nL bm ga 1 lg) [0] [enN]) : Calls Tryz.prog 23 #[.pointer (some ⟨nb, 0, none⟩), .string ⟨#[120]⟩] W fun e w' => e = .returned (.tuple #[.int .i64 2, .slice none 0 0, .int .i64 0]) ∧ ∃ lg', NdG W B nb (nL bm ga 1 lg) w' (nL bm ga 2 lg') [0] ([enN] ++ [enX]) := by
  have hne : ([0] : List Int) ≠ [] := by simp
  have hd1 : ∀ x ∈ [enN], x.da.size ≤ 140737488355328 := fun x hx => by simp at hx; subst hx; decide
  refine npropose_of h hne (by kernel_rfl) ⟨#[120]⟩ (of_decide_eq_true (by kernel_rfl)) 2 (nL bm ga 2) ([enN] ++ [enX]) ?_
  intro W2 g
  have hy := nlay_alone g.nd hne (of_decide_eq_true (by kernel_rfl)) (of_decide_eq_true (by kernel_rfl)) hd1 (of_decide_eq_true (by kernel_rfl)) (of_decide_eq_true (by kernel_rfl)) (by kernel_rfl) pL1 (by kernel_rfl) (by kernel_rfl) (by kernel_rfl) 0 ⟨#[120]⟩ (of_decide_eq_true (by kernel_rfl)) (by exact mb2) (by kernel_rfl) (of_decide_eq_true (by kernel_rfl))
  exact hy.mono fun e w' ⟨he, lg', g5⟩ => ⟨he, lg', g.trans g5⟩
end
set_option maxRecDepth 100000 in
set_option maxHeartbeats 4000000 in
theorem awake10 (w : World) : Calls Tryz.prog 11 #[] w fun e w' => e = .returned (.bool true) ∧ Below w.heap.size w w' := by
  have hne : ([0] : List Int) ≠ [] := by simp
  have r0 : RowIs (w.alloc (.cells #[.int .i64 0] 3)) w.heap.size (isC [0]) 3 := srow w (isC [0]) 3
  have b0 : Below w.heap.size w (w.alloc (.cells #[.int .i64 0] 3)) := below_al (Below.refl _ _) _
  have cn := nnew_ok 0 0 (-1) (.slice (some ⟨w.heap.size, 0, none⟩) 1 1) shA (.slice none 0 0) [] 0 (w.alloc (.cells #[.int .i64 0] 3)) (row_ints r0) (.inl ⟨none, 0, rfl, rfl⟩) (by decide) (fun x hx => by simp at hx) (by decide) (by decide) (by decide) (.inl rfl) (by decide) (by decide)
  have CN := hid cn
  unfold shV shA at CN
  simp only at CN
  have B0 := hid b0
  clear r0 b0 cn
  go_enter Tryz.func11, Tryz.ntmps11
  go_wp2_with fail
  refine CN.out.mono ?_
  rintro e w1 ⟨nb, bm, lg, ga, rfl, hn, b1⟩
  have hn' : NdI w1 (w.alloc (.cells #[.int .i64 0] 3)).heap.size nb (nW bm lg ga 0) [0] [] := by rw [← nW_first]; exact hn
  have HG : Hid (NdG w1 (w.alloc (.cells #[.int .i64 0] 3)).heap.size nb (nW bm lg ga 0) w1 (nW bm lg ga 0) [0] []) := NdG.refl hn'
  have HB : Hid (∀ w2 n2 e2, NdG w1 (w.alloc (.cells #[.int .i64 0] 3)).heap.size nb (nW bm lg ga 0) w2 n2 [0] e2 → Below w.heap.size w w2) := fun w2 n2 e2 g => (below_on B0.out b1).trans (hn'.bel g (by simp))
  clear CN hn hn' b1 B0
  generalize (w.alloc (.cells #[.int .i64 0] 3)).heap.size = B at *
  go_wp2
  go_loopw [3] (fun i wr => ∃ (k : Nat), k ≤ 10 ∧ i = .int .i64 (k : Int) ∧ Hid ((k < 10 ∧ NdG w1 B nb (nW bm lg ga 0) wr (nW bm lg ga k) [0] []) ∨ (k = 10 ∧ ∃ lg', NdG w1 B nb (nW bm lg ga 0) wr (nL bm ga 1 lg') [0] [enN]))) (fun i _ => 10 - (intOf i).toNat)
  case atStart => exact ⟨0, by omega, rfl, .inl ⟨by omega, HG.out⟩⟩
  case round =>
    clear HG
    obtain ⟨k, hk, rfl, HS⟩ := hrel
    by_cases hlt : k < 10
    · have r1 : (k : Int) < 10 := by omega
      have g1 := (HS.out.resolve_right (by omega)).2
      have TK : Hid (Calls Tryz.prog 28 #[.pointer (some ⟨nb, 0, none⟩), .int .i64 0] wr fun e w' => e = .returned (.slice none 0 0) ∧ Hid ((k + 1 < 10 ∧ NdG w1 B nb (nW bm lg ga 0) w' (nW bm lg ga (k + 1)) [0] []) ∨ (k + 1 = 10 ∧ ∃ lg', NdG w1 B nb (nW bm lg ga 0) w' (nL bm ga 1 lg') [0] [enN]))) := by
        by_cases h9 : k < 9
        · exact (wait_tick g1.nd h9).mono fun e w' ⟨he, g⟩ => ⟨he, .inl ⟨by omega, g1.trans g⟩⟩
        · have hk9 : k = 9 := by omega
          subst hk9
          exact (lead_tick g1.nd).mono fun e w' ⟨he, lg', g⟩ => ⟨he, .inr ⟨rfl, lg', g1.trans g⟩⟩
      clear HS g1 HB
      go_wp2_with fail
      refine TK.out.mono ?_
      rintro e w2 ⟨rfl, H2⟩
      clear TK
      go_wp2
      exact ⟨⟨k + 1, by omega, by go_num, H2⟩, by simp [intOf]; omega⟩
    · have hk9 : k = 10 := by omega
      subst hk9
      obtain ⟨lg1, g1⟩ := (HS.out.resolve_left (by omega)).2
      have LX := hid (lay_x g1.nd)
      have G1 := hid g1
      clear HS hk hlt g1
      go_wp2_with fail
      refine LX.out.mono ?_
      rintro e w2 ⟨rfl, lg2, g2⟩
      have G2 := hid (G1.out.trans g2)
      have EN := hid (nentry_in G2.out.nd hne (of_decide_eq_true (by kernel_rfl)) (of_decide_eq_true (by kernel_rfl)) (of_decide_eq_true (by kernel_rfl)) 1 (of_decide_eq_true (by kernel_rfl)) (of_decide_eq_true (by kernel_rfl)) 2 (by kernel_rfl))
      simp only [List.cons_append, List.nil_append, List.getElem_cons_succ, List.getElem_cons_zero] at EN
      unfold enX at EN
      simp only at EN
      clear LX G1 g2
      go_wp2_with fail
      refine EN.out.mono ?_
      rintro e w3 ⟨rfl, b3⟩
      have G3 := hid (G2.out.next (below_al b3 (.cells #[.int .i64 1, .int .i64 0, .string ⟨#[120]⟩] 51)))
      have y2 := (srow w3 [.int .i64 1, .int .i64 0, .string ⟨#[120]⟩] 51).cellAt (o := 2) rfl
      have RO := hid (nrole_any G3.out.nd hne)
      have CM := hid (ncommit_any G3.out.nd hne)
      have BF := hid (HB.out _ _ _ G3.out)
      clear EN b3 G2 HB
      go_wp2_with fail
      refine RO.out.mono ?_
      rintro e w4 ⟨rfl, rfl⟩
      clear RO
      go_wp2_with fail
      refine CM.out.mono ?_
      rintro e w5 ⟨rfl, rfl⟩
      clear CM
      go_wp2
      go_ret
      exact ⟨rfl, BF.out⟩
end Go.Proofs.YtlkidnfgodficaaGreat
namespace Go.Proofs.YtlkidnfgodficaaGreat
open Go.RowKit Go.Maps
set_option linter.unusedVariables false
set_option linter.unusedSimpArgs false

set_option maxRecDepth 100000 in
set_option maxHeartbeats 1000000 in
theorem nrefuses_nil (w : World) : Calls Tryz.prog 63 #[.pointer none] w fun e w' => e = .returned (.int .i64 1) ∧ w' = w := by
  have IN := hid (fun W => nisNone_nil W)
  go_enter Tryz.func63, Tryz.ntmps63
  go_wp2_with fail
  refine (IN.out _).mono ?_
  rintro e w1 ⟨rfl, rfl⟩
  clear IN
  go_wp2
  go_ret
  exact ⟨rfl, rfl⟩
set_option maxRecDepth 100000 in
set_option maxHeartbeats 1000000 in
theorem npropose_nil (s : ByteArray) (w : World) : Calls Tryz.prog 23 #[.pointer none, .string s] w fun e w' => e = .returned (.tuple #[.int .i64 0, .slice none 0 0, .int .i64 1]) ∧ w' = w := by
  have RF := hid (fun W => nrefuses_nil W)
  go_enter Tryz.func23, Tryz.ntmps23
  go_wp2_with fail
  refine (RF.out _).mono ?_
  rintro e w1 ⟨rfl, rfl⟩
  clear RF
  go_wp2
  go_ret3
  exact ⟨rfl, rfl⟩
set_option maxRecDepth 100000 in
set_option maxHeartbeats 1000000 in
theorem nchange_nil (v : Value) (w : World) : Calls Tryz.prog 24 #[.pointer none, v] w fun e w' => e = .returned (.tuple #[.int .i64 0, .slice none 0 0, .int .i64 1]) ∧ w' = w := by
  have RF := hid (fun W => nrefuses_nil W)
  go_enter Tryz.func24, Tryz.ntmps24
  go_wp2_with fail
  refine (RF.out _).mono ?_
  rintro e w1 ⟨rfl, rfl⟩
  clear RF
  go_wp2
  go_ret3
  exact ⟨rfl, rfl⟩
set_option maxRecDepth 100000 in
set_option maxHeartbeats 1000000 in
theorem nread_nil (w : World) : Calls Tryz.prog 25 #[.pointer none] w fun e w' => e = .returned (.tuple #[.int .i64 0, .int .i64 0, .slice none 0 0, .int .i64 1]) ∧ w' = w := by
  have RF := hid (fun W => nrefuses_nil W)
  go_enter Tryz.func25, Tryz.ntmps25
  go_wp2_with fail
  refine (RF.out _).mono ?_
  rintro e w1 ⟨rfl, rfl⟩
  clear RF
  go_wp2
  refine bodyPost_ret (v := .tuple #[.int .i64 0, .int .i64 0, .slice none 0 0, .int .i64 1]) (by kernel_rfl) rfl ?_
  exact ⟨rfl, rfl⟩
set_option maxRecDepth 100000 in
set_option maxHeartbeats 1000000 in
theorem nhard_nil (w : World) : Calls Tryz.prog 16 #[.pointer none] w fun e w' => e = .returned (.tuple #[.int .i64 0, .int .i64 (-1)]) ∧ w' = w := by
  have IN := hid (fun W => nisNone_nil W)
  go_enter Tryz.func16, Tryz.ntmps16
  go_wp2_with fail
  refine (IN.out _).mono ?_
  rintro e w1 ⟨rfl, rfl⟩
  clear IN
  go_wp2
  go_ret2
  exact ⟨rfl, rfl⟩
set_option maxRecDepth 100000 in
set_option maxHeartbeats 1000000 in
theorem nleader_nil (w : World) : Calls Tryz.prog 20 #[.pointer none] w fun e w' => e = .returned (.int .i64 (-1)) ∧ w' = w := by
  have IN := hid (fun W => nisNone_nil W)
  go_enter Tryz.func20, Tryz.ntmps20
  go_wp2_with fail
  refine (IN.out _).mono ?_
  rintro e w1 ⟨rfl, rfl⟩
  clear IN
  go_wp2
  go_ret
  exact ⟨rfl, rfl⟩
set_option maxRecDepth 100000 in
set_option maxHeartbeats 1000000 in
theorem ncommit_nil (w : World) : Calls Tryz.prog 18 #[.pointer none] w fun e w' => e = .returned (.int .i64 0) ∧ w' = w := by
  have IN := hid (fun W => nisNone_nil W)
  go_enter Tryz.func18, Tryz.ntmps18
  go_wp2_with fail
  refine (IN.out _).mono ?_
  rintro e w1 ⟨rfl, rfl⟩
  clear IN
  go_wp2
  go_ret
  exact ⟨rfl, rfl⟩
set_option maxRecDepth 100000 in
set_option maxHeartbeats 1000000 in
theorem nmembers_nil (w : World) : Calls Tryz.prog 30 #[.pointer none] w fun e w' => e = .returned (.slice none 0 0) ∧ w' = w := by
  have IN := hid (fun W => nisNone_nil W)
  go_enter Tryz.func30, Tryz.ntmps30
  go_wp2_with fail
  refine (IN.out _).mono ?_
  rintro e w1 ⟨rfl, rfl⟩
  clear IN
  go_wp2
  go_ret
  exact ⟨rfl, rfl⟩
set_option maxRecDepth 100000 in
set_option maxHeartbeats 1000000 in
theorem ntick_nil (d : Int) (w : World) : Calls Tryz.prog 28 #[.pointer none, .int .i64 d] w fun e w' => e = .returned (.slice none 0 0) ∧ w' = w := by
  have IN := hid (fun W => nisNone_nil W)
  go_enter Tryz.func28, Tryz.ntmps28
  go_wp2_with fail
  refine (IN.out _).mono ?_
  rintro e w1 ⟨rfl, rfl⟩
  clear IN
  go_wp2
  go_ret
  exact ⟨rfl, rfl⟩
set_option maxRecDepth 100000 in
set_option maxHeartbeats 1000000 in
theorem ncompact_nil (i : Int) (s : ByteArray) (w : World) : Calls Tryz.prog 22 #[.pointer none, .int .i64 i, .string s] w fun e w' => e = .returned (.int .i64 1) ∧ w' = w := by
  have IN := hid (fun W => nisNone_nil W)
  go_enter Tryz.func22, Tryz.ntmps22
  go_wp2_with fail
  refine (IN.out _).mono ?_
  rintro e w1 ⟨rfl, rfl⟩
  clear IN
  go_wp2
  go_ret
  exact ⟨rfl, rfl⟩
set_option maxRecDepth 100000 in
set_option maxHeartbeats 1000000 in
theorem nstep_nil (w : World) : Calls Tryz.prog 29 #[.pointer none, .agg #[.int .i64 0, .int .i64 0, .int .i64 0, .int .i64 0, .int .i64 0, .int .i64 0, .int .i64 0, .int .i64 0, .int .i64 0, .bool false, .slice none 0 0, .string ⟨#[]⟩]] w fun e w' => e = .returned (.slice none 0 0) ∧ Below w.heap.size w w' := by
  have IN := hid (fun W => nisNone_nil W)
  have BB : Hid (Below w.heap.size w (w.alloc (.cells #[.int .i64 0, .int .i64 0, .int .i64 0, .int .i64 0, .int .i64 0, .int .i64 0, .int .i64 0, .int .i64 0, .int .i64 0, .bool false, .slice none 0 0, .string ⟨#[]⟩] 24)).drew) := (below_al (Below.refl _ _) _).drew
  go_enter Tryz.func29, Tryz.ntmps29
  go_wp2
  refine wp_region_held_drew (S := fun W => True) (by kernel_rfl) trivial (fun hHeld => ?_)
  generalize (w.alloc (.cells #[.int .i64 0, .int .i64 0, .int .i64 0, .int .i64 0, .int .i64 0, .int .i64 0, .int .i64 0, .int .i64 0, .int .i64 0, .bool false, .slice none 0 0, .string ⟨#[]⟩] 24)).drew = V at *
  refine wpAnyH_take (i := 0) (v := ?vv1) rfl (by kernel_rfl) (by kernel_rfl) (by kernel_rfl) (fun _ _ _ h => h) (Or.inl ⟨by rfl, ?hy1⟩) (by assumption) ?rest1
  case hy1 => (intro w hSw; (try dsimp only at hSw); go_simp; first | done | with_reducible rfl)
  try simp only [Act.put, List.getElem_toArray, List.getElem_cons_succ, List.getElem_cons_zero, List.setIfInBounds_toArray, List.set_cons_zero, List.set_cons_succ]
  refine wpAnyH_ready (rs := [1]) (by kernel_rfl) (by simp) ?_
  refine AllReadyH.cons rfl (fun K hK => ?_) AllReadyH.nil
  go_simp
  refine (IN.out _).mono ?_
  rintro e w1 ⟨rfl, rfl⟩
  clear IN
  go_wp2_with fail
  refine hK.out _ _ trivial (fun hHeld => ?_)
  clear hK K
  try simp only [Act.put, List.getElem_toArray, List.getElem_cons_succ, List.getElem_cons_zero, List.setIfInBounds_toArray, List.set_cons_zero, List.set_cons_succ]
  refine wpAnyH_take (i := 2) (v := ?vv2) rfl (by kernel_rfl) (by kernel_rfl) (by kernel_rfl) (fun _ _ _ h => h) (Or.inl ⟨by rfl, ?hy2⟩) (by assumption) ?rest2
  case hy2 => (intro w hSw; (try dsimp only at hSw); go_simp; first | done | with_reducible rfl)
  try simp only [Act.put, List.getElem_toArray, List.getElem_cons_succ, List.getElem_cons_zero, List.setIfInBounds_toArray, List.set_cons_zero, List.set_cons_succ]
  refine wpAnyH_take (i := 3) (v := undef) rfl (by kernel_rfl) (by kernel_rfl) (by kernel_rfl) (fun _ _ _ h => h) (Or.inr ⟨by rfl, rfl⟩) (by assumption) ?_
  try simp only [Act.put, List.getElem_toArray, List.getElem_cons_succ, List.getElem_cons_zero, List.setIfInBounds_toArray, List.set_cons_zero, List.set_cons_succ]
  refine wpAnyH_take (i := 4) (v := undef) rfl (by kernel_rfl) (by kernel_rfl) (by kernel_rfl) (fun _ _ _ h => h) (Or.inr ⟨by rfl, rfl⟩) (by assumption) ?_
  try simp only [Act.put, List.getElem_toArray, List.getElem_cons_succ, List.getElem_cons_zero, List.setIfInBounds_toArray, List.set_cons_zero, List.set_cons_succ]
  refine wpAnyH_take (i := 5) (v := undef) rfl (by kernel_rfl) (by kernel_rfl) (by kernel_rfl) (fun _ _ _ h => h) (Or.inr ⟨by rfl, rfl⟩) (by assumption) ?_
  try simp only [Act.put, List.getElem_toArray, List.getElem_cons_succ, List.getElem_cons_zero, List.setIfInBounds_toArray, List.set_cons_zero, List.set_cons_succ]
  refine wpAnyH_take (i := 6) (v := ?vv3) rfl (by kernel_rfl) (by kernel_rfl) (by kernel_rfl) (fun _ _ _ h => h) (Or.inl ⟨by rfl, ?hy3⟩) (by assumption) ?rest3
  case hy3 => (intro w hSw; (try dsimp only at hSw); go_simp; first | done | with_reducible rfl)
  try simp only [Act.put, List.getElem_toArray, List.getElem_cons_succ, List.getElem_cons_zero, List.setIfInBounds_toArray, List.set_cons_zero, List.set_cons_succ]
  refine wpAnyH_take (i := 7) (v := ?vv4) rfl (by kernel_rfl) (by kernel_rfl) (by kernel_rfl) (fun _ _ _ h => h) (Or.inl ⟨by rfl, ?hy4⟩) (by assumption) ?rest4
  case hy4 => (intro w hSw; (try dsimp only at hSw); go_simp; first | done | with_reducible rfl)
  try simp only [Act.put, List.getElem_toArray, List.getElem_cons_succ, List.getElem_cons_zero, List.setIfInBounds_toArray, List.set_cons_zero, List.set_cons_succ]
  refine wpAnyH_take (i := 8) (v := undef) rfl (by kernel_rfl) (by kernel_rfl) (by kernel_rfl) (fun _ _ _ h => h) (Or.inr ⟨by rfl, rfl⟩) (by assumption) ?_
  try simp only [Act.put, List.getElem_toArray, List.getElem_cons_succ, List.getElem_cons_zero, List.setIfInBounds_toArray, List.set_cons_zero, List.set_cons_succ]
  refine wpAnyH_take (i := 9) (v := undef) rfl (by kernel_rfl) (by kernel_rfl) (by kernel_rfl) (fun _ _ _ h => h) (Or.inr ⟨by rfl, rfl⟩) (by assumption) ?_
  try simp only [Act.put, List.getElem_toArray, List.getElem_cons_succ, List.getElem_cons_zero, List.setIfInBounds_toArray, List.set_cons_zero, List.set_cons_succ]
  refine wpAnyH_take (i := 10) (v := undef) rfl (by kernel_rfl) (by kernel_rfl) (by kernel_rfl) (fun _ _ _ h => h) (Or.inr ⟨by rfl, rfl⟩) (by assumption) ?_
  try simp only [Act.put, List.getElem_toArray, List.getElem_cons_succ, List.getElem_cons_zero, List.setIfInBounds_toArray, List.set_cons_zero, List.set_cons_succ]
  refine wpAnyH_take (i := 11) (v := undef) rfl (by kernel_rfl) (by kernel_rfl) (by kernel_rfl) (fun _ _ _ h => h) (Or.inr ⟨by rfl, rfl⟩) (by assumption) ?_
  try simp only [Act.put, List.getElem_toArray, List.getElem_cons_succ, List.getElem_cons_zero, List.setIfInBounds_toArray, List.set_cons_zero, List.set_cons_succ]
  refine wpAnyH_take (i := 12) (v := undef) rfl (by kernel_rfl) (by kernel_rfl) (by kernel_rfl) (fun _ _ _ h => h) (Or.inr ⟨by rfl, rfl⟩) (by assumption) ?_
  try simp only [Act.put, List.getElem_toArray, List.getElem_cons_succ, List.getElem_cons_zero, List.setIfInBounds_toArray, List.set_cons_zero, List.set_cons_succ]
  refine wpAnyH_take (i := 13) (v := undef) rfl (by kernel_rfl) (by kernel_rfl) (by kernel_rfl) (fun _ _ _ h => h) (Or.inr ⟨by rfl, rfl⟩) (by assumption) ?_
  try simp only [Act.put, List.getElem_toArray, List.getElem_cons_succ, List.getElem_cons_zero, List.setIfInBounds_toArray, List.set_cons_zero, List.set_cons_succ]
  refine wpAnyH_take (i := 14) (v := undef) rfl (by kernel_rfl) (by kernel_rfl) (by kernel_rfl) (fun _ _ _ h => h) (Or.inr ⟨by rfl, rfl⟩) (by assumption) ?_
  try simp only [Act.put, List.getElem_toArray, List.getElem_cons_succ, List.getElem_cons_zero, List.setIfInBounds_toArray, List.set_cons_zero, List.set_cons_succ]
  refine wpAnyH_take (i := 15) (v := ?vv5) rfl (by kernel_rfl) (by kernel_rfl) (by kernel_rfl) (fun _ _ _ h => h) (Or.inl ⟨by rfl, ?hy5⟩) (by assumption) ?rest5
  case hy5 => (intro w hSw; (try dsimp only at hSw); go_simp; first | done | with_reducible rfl)
  try simp only [Act.put, List.getElem_toArray, List.getElem_cons_succ, List.getElem_cons_zero, List.setIfInBounds_toArray, List.set_cons_zero, List.set_cons_succ]
  refine wpAnyH_done (by kernel_rfl) ?_ _
  clear hHeld
  go_wp2
  go_ret
  exact ⟨rfl, BB.out⟩
set_option maxRecDepth 100000 in
set_option maxHeartbeats 1000000 in
theorem nsure_nil (a b : Int) (w : World) : Calls Tryz.prog 26 #[.pointer none, .int .i64 a, .int .i64 b] w fun e w' => e = .returned (.bool false) ∧ Below w.heap.size w w' := by
  have RF := hid (fun W => nrefuses_nil W)
  go_enter Tryz.func26, Tryz.ntmps26
  go_wp2_with fail
  refine (RF.out _).mono ?_
  rintro e w1 ⟨rfl, hw⟩
  subst hw
  clear RF
  go_wp2
  go_ret
  exact ⟨rfl, by first | exact below_al (below_al (Below.refl _ _) _) _ | exact below_al (Below.refl _ _) _ | exact Below.refl _ _⟩
theorem ret_ctQ {fn : Func} {p u : Tmp} {ty : TypeId} (h : fn.results = #[.cell p ty, .tmp u]) (tmps : Array Value) (w : World) (g : Nat) (cs : Array Value) (x : Value)
    (hp : tmps.getD p undef = .pointer (some ⟨g, 0, none⟩)) (hx : tmps.getD u undef = x) (hg : (loadVar ty ⟨g, 0, none⟩).run Tryz.prog w = .ok (.agg cs) w) :
    (results fn tmps).run Tryz.prog w = .ok (.tuple #[.agg cs, x]) w := by
  rw [results_cell_tmp h, hp, hx]
  simp [asAddr, hg, Result.andThen]
set_option maxRecDepth 100000 in
set_option maxHeartbeats 1000000 in
theorem ntaken_nil (w : World) : Calls Tryz.prog 27 #[.pointer none] w fun e w' => e = .returned (.tuple #[.agg #[.int .i64 0, .int .i64 0, .slice none 0 0, .string ⟨#[]⟩], .bool false]) ∧ Below w.heap.size w w' := by
  have IN := hid (fun W => nisNone_nil W)
  have R9 : Hid (RowIs (w.alloc (.cells #[.int .i64 0, .int .i64 0, .slice none 0 0, .string ⟨#[]⟩] 49)) w.heap.size [.int .i64 0, .int .i64 0, .slice none 0 0, .string ⟨#[]⟩] 49) := srow w _ _
  have B9 : Hid (Below w.heap.size w (w.alloc (.cells #[.int .i64 0, .int .i64 0, .slice none 0 0, .string ⟨#[]⟩] 49))) := below_al (Below.refl _ _) _
  go_enter Tryz.func27, Tryz.ntmps27
  go_wp2_with fail
  refine (IN.out _).mono ?_
  rintro e w1 ⟨rfl, hw⟩
  clear IN
  have y0 := R9.out.cellAt (o := 0) rfl
  have y1 := R9.out.cellAt (o := 1) rfl
  have y2 := R9.out.cellAt (o := 2) rfl
  have y3 := R9.out.cellAt (o := 3) rfl
  have f0 := R9.out.frozen (o := 0)
  have f1 := R9.out.frozen (o := 1)
  have f2 := R9.out.frozen (o := 2)
  have f3 := R9.out.frozen (o := 3)
  have F9 : Hid (RowIs ((((w1.setCell ⟨w.heap.size, 0, none⟩ (.int .i64 0)).setCell ⟨w.heap.size, 1, none⟩ (.int .i64 0)).setCell ⟨w.heap.size, 2, none⟩ (.slice none 0 0)).setCell ⟨w.heap.size, 3, none⟩ (.string ⟨#[]⟩)) w.heap.size [.int .i64 0, .int .i64 0, .slice none 0 0, .string ⟨#[]⟩] 49 ∧ Below w.heap.size w ((((w1.setCell ⟨w.heap.size, 0, none⟩ (.int .i64 0)).setCell ⟨w.heap.size, 1, none⟩ (.int .i64 0)).setCell ⟨w.heap.size, 2, none⟩ (.slice none 0 0)).setCell ⟨w.heap.size, 3, none⟩ (.string ⟨#[]⟩))) := by
    subst hw
    exact ⟨(((R9.out.set 0 _).set 1 _).set 2 _).set 3 _, B9.out.trans (keep_below ((((keep_setCell _ _ _ _).trans (keep_setCell _ _ _ _)).trans (keep_setCell _ _ _ _)).trans (keep_setCell _ _ _ _)) (fun j hj e => by omega) B9.out.size)⟩
  rw [← hw] at y0 y1 y2 y3 f0 f1 f2 f3
  clear hw R9 B9
  go_wp2
  refine bodyPost_ret (v := .tuple #[.agg #[.int .i64 0, .int .i64 0, .slice none 0 0, .string ⟨#[]⟩], .bool false]) (ret_ctQ (p := 2) (u := 3) rfl _ _ w.heap.size _ _ rfl rfl (run_loadVar_row _ _ _ _ _ _ _ F9.out.1 Tryz.underlying49 rfl (by kernel_rfl))) rfl ?_
  exact ⟨rfl, F9.out.2⟩
section
variable {w w1 : World} {B nb : Nat} {n : Nd} {ms : List Int} {es : List En}
set_option maxRecDepth 100000 in
set_option maxHeartbeats 1000000 in
theorem nrefuses_no (h : NdI w B nb n ms es) (hne : ms ≠ []) (hr : n.rl ≠ 2) : Calls Tryz.prog 63 #[.pointer (some ⟨nb, 0, none⟩)] w fun e w' => e = .returned (.int .i64 80) ∧ w' = w := by
  have IN := hid (nisNone_any h hne)
  have c9 := h.bx.cellAt (o := 9) rfl
  have d1 : (n.rl != 2) = true := by simp [hr]
  have d2 : decide (n.rl = 2) = false := decide_eq_false hr
  generalize n.rl = rl at *
  clear h hne hr
  go_enter Tryz.func63, Tryz.ntmps63
  go_wp2_with fail
  refine IN.out.mono ?_
  rintro e w1 ⟨rfl, rfl⟩
  clear IN
  go_wp2
  go_ret
  exact ⟨rfl, rfl⟩
set_option maxRecDepth 100000 in
set_option maxHeartbeats 1000000 in
theorem npropose_no (h : NdI w B nb n ms es) (hne : ms ≠ []) (hr : n.rl ≠ 2) (s : ByteArray) : Calls Tryz.prog 23 #[.pointer (some ⟨nb, 0, none⟩), .string s] w fun e w' => e = .returned (.tuple #[.int .i64 0, .slice none 0 0, .int .i64 80]) ∧ w' = w := by
  have RF := hid (nrefuses_no h hne hr)
  clear h hne hr
  go_enter Tryz.func23, Tryz.ntmps23
  go_wp2_with fail
  refine RF.out.mono ?_
  rintro e w1 ⟨rfl, rfl⟩
  clear RF
  go_wp2
  go_ret3
  exact ⟨rfl, rfl⟩
set_option maxRecDepth 100000 in
set_option maxHeartbeats 1000000 in
theorem nchange_no (h : NdI w B nb n ms es) (hne : ms ≠ []) (hr : n.rl ≠ 2) (v : Value) : Calls Tryz.prog 24 #[.pointer (some ⟨nb, 0, none⟩), v] w fun e w' => e = .returned (.tuple #[.int .i64 0, .slice none 0 0, .int .i64 80]) ∧ w' = w := by
  have RF := hid (nrefuses_no h hne hr)
  clear h hne hr
  go_enter Tryz.func24, Tryz.ntmps24
  go_wp2_with fail
  refine RF.out.mono ?_
  rintro e w1 ⟨rfl, rfl⟩
  clear RF
  go_wp2
  go_ret3
  exact ⟨rfl, rfl⟩
set_option maxRecDepth 100000 in
set_option maxHeartbeats 1000000 in
theorem nread_no (h : NdI w B nb n ms es) (hne : ms ≠ []) (hr : n.rl ≠ 2) : Calls Tryz.prog 25 #[.pointer (some ⟨nb, 0, none⟩)] w fun e w' => e = .returned (.tuple #[.int .i64 0, .int .i64 0, .slice none 0 0, .int .i64 80]) ∧ w' = w := by
  have RF := hid (nrefuses_no h hne hr)
  clear h hne hr
  go_enter Tryz.func25, Tryz.ntmps25
  go_wp2_with fail
  refine RF.out.mono ?_
  rintro e w1 ⟨rfl, rfl⟩
  clear RF
  go_wp2
  refine bodyPost_ret (v := .tuple #[.int .i64 0, .int .i64 0, .slice none 0 0, .int .i64 80]) (by kernel_rfl) rfl ?_
  exact ⟨rfl, rfl⟩
set_option maxRecDepth 100000 in
set_option maxHeartbeats 1000000 in
theorem nhard_any (h : NdI w B nb n ms es) (hne : ms ≠ []) : Calls Tryz.prog 16 #[.pointer (some ⟨nb, 0, none⟩)] w fun e w' => e = .returned (.tuple #[.int .i64 n.tm, .int .i64 n.vt]) ∧ Below w.heap.size w w' := by
  have IN := hid (nisNone_any h hne)
  have c1 := h.bx.cellAt (o := 1) rfl
  have c2 := h.bx.cellAt (o := 2) rfl
  generalize n.tm = tm at *
  generalize n.vt = vt at *
  clear h hne
  go_enter Tryz.func16, Tryz.ntmps16
  go_wp2_with fail
  refine IN.out.mono ?_
  rintro e w1 ⟨rfl, rfl⟩
  clear IN
  go_wp2
  go_quiet (fail)
  go_wp2
  go_ret2
  exact ⟨rfl, below_drewN (Below.refl _ _) _⟩
set_option maxRecDepth 100000 in
set_option maxHeartbeats 1000000 in
theorem nleader_any (h : NdI w B nb n ms es) (hne : ms ≠ []) : Calls Tryz.prog 20 #[.pointer (some ⟨nb, 0, none⟩)] w fun e w' => e = .returned (.int .i64 n.ld) ∧ w' = w := by
  have IN := hid (nisNone_any h hne)
  have c10 := h.bx.cellAt (o := 10) rfl
  generalize n.ld = ld at *
  clear h hne
  go_enter Tryz.func20, Tryz.ntmps20
  go_wp2_with fail
  refine IN.out.mono ?_
  rintro e w1 ⟨rfl, rfl⟩
  clear IN
  go_wp2
  go_ret
  exact ⟨rfl, rfl⟩
end
end Go.Proofs.YtlkidnfgodficaaGreat
namespace Go.Proofs.YtlkidnfgodficaaGreat
open Go.RowKit Go.Maps
set_option linter.unusedVariables false
set_option linter.unusedSimpArgs false

set_option maxRecDepth 100000 in
set_option maxHeartbeats 4000000 in
theorem nnew_bad (me tm vt : Int) (v : Value) (s : Sh) (v2 : Value) (es : List En) (dr : Int) (w : World) (hv : IntsI w v s.ms) (hv2 : EntI w v2 es) (hes : es.length ≤ 4398046511104)
    (h4 : chkS s = 0) (hb : ndOk me = false ∨ tm < s.tm ∨ tm > 1099511627776 ∨ (vt ≠ -1 ∧ ndOk vt = false) ∨ mesOk s.tm tm es = false) :
    Calls Tryz.prog 15 #[.int .i64 me, .int .i64 tm, .int .i64 vt, shV v s, v2, .int .i64 dr] w fun e w' => e = .returned (.tuple #[.pointer none, .int .i64 1]) ∧ Below w.heap.size w w' := by
  obtain ⟨ad, cap, rfl, -⟩ := hv.form
  obtain ⟨ad2, cap2, rfl, -⟩ := hv2.form
  have hck := chk_ok h4
  have IN : Hid (∀ W, Calls Tryz.prog 49 #[.int .i64 me] W fun e w' => e = .returned (.bool (ndOk me)) ∧ w' = W) := fun W => nodeIs_any me W
  have IV : Hid (∀ W, Calls Tryz.prog 49 #[.int .i64 vt] W fun e w' => e = .returned (.bool (ndOk vt)) ∧ w' = W) := fun W => nodeIs_any vt W
  have CK : Hid (∀ W, Below w.heap.size w W → Calls Tryz.prog 51 #[shV (.slice ad s.ms.length cap) s] W fun e w' => e = .returned (.int .i64 0) ∧ Below W.heap.size W w') := fun W b => by rw [← h4]; exact check_any _ s W (hv.next b) (by have := hck.2.2.2.1; omega)
  have AE : Hid (∀ W, Below w.heap.size w W → Calls Tryz.prog 50 #[.slice ad2 es.length cap2, .int .i64 s.tm, .int .i64 tm] W fun e w' => e = .returned (.bool (mesOk s.tm tm es)) ∧ Below W.heap.size W w') := fun W b => areEnt_any _ es s.tm tm W (hv2.next b) (by omega)
  have R0 : Hid (RowIs (w.alloc (.cells #[.int .i64 s.ix, .int .i64 s.tm, .slice ad s.ms.length cap, .string s.da] 49)) w.heap.size [.int .i64 s.ix, .int .i64 s.tm, .slice ad s.ms.length cap, .string s.da] 49) := srow w _ _
  have B0 : Hid (Below w.heap.size w (w.alloc (.cells #[.int .i64 s.ix, .int .i64 s.tm, .slice ad s.ms.length cap, .string s.da] 49))) := below_al (Below.refl _ _) _
  clear hv hv2 hes hck
  obtain ⟨ix, st, ms, da⟩ := s
  unfold shV at *
  simp only at *
  clear h4
  have HBB := hid hb
  clear hb
  have y0 := R0.out.cellAt (o := 0) rfl
  have y1 := R0.out.cellAt (o := 1) rfl
  have y2 := R0.out.cellAt (o := 2) rfl
  have y3 := R0.out.cellAt (o := 3) rfl
  cases ha : ndOk me
  case false =>
    rw [ha] at IN
    clear HBB CK AE IV ha
    go_enter Tryz.func15, Tryz.ntmps15
    go_wp2_with fail
    refine (IN.out _).mono ?_
    rintro e w1 ⟨rfl, rfl⟩
    clear IN
    go_wp2
    go_ret2
    exact ⟨rfl, B0.out⟩
  case true =>
  rw [ha] at IN
  by_cases hb : tm < st
  case pos =>
    have d1 : decide (tm < st) = true := decide_eq_true hb
    clear HBB CK AE IV ha hb
    go_enter Tryz.func15, Tryz.ntmps15
    go_wp2_with fail
    refine (IN.out _).mono ?_
    rintro e w1 ⟨rfl, rfl⟩
    clear IN
    go_wp2
    go_ret2
    exact ⟨rfl, B0.out⟩
  case neg =>
  have d1 : decide (tm < st) = false := decide_eq_false hb
  by_cases hc : tm > 1099511627776
  case pos =>
    have d2 : decide (tm > 1099511627776) = true := decide_eq_true hc
    clear HBB CK AE IV ha hb hc
    go_enter Tryz.func15, Tryz.ntmps15
    go_wp2_with fail
    refine (IN.out _).mono ?_
    rintro e w1 ⟨rfl, rfl⟩
    clear IN
    go_wp2
    go_ret2
    exact ⟨rfl, B0.out⟩
  case neg =>
  have d2 : decide (tm > 1099511627776) = false := decide_eq_false hc
  by_cases hd : vt = -1
  case pos =>
    subst hd
    have hm : mesOk st tm es = false := by
      rcases HBB.out with h | h | h | h | h
      · rw [ha] at h; cases h
      · exact absurd h hb
      · exact absurd h hc
      · exact absurd rfl h.1
      · exact h
    rw [hm] at AE
    clear HBB IV ha hb hc hm
    go_enter Tryz.func15, Tryz.ntmps15
    go_wp2_with fail
    refine (IN.out _).mono ?_
    rintro e w1 ⟨rfl, rfl⟩
    clear IN
    go_wp2_with fail
    refine (CK.out _ B0.out).mono ?_
    rintro e w1 ⟨rfl, b1⟩
    have B1 := hid (below_on B0.out b1)
    have R1 := hid (R0.out.keep (b1.keep (fun _ => False)) (fun h => h))
    clear CK b1 B0 R0 y0 y1 y2 y3
    have y1 := R1.out.cellAt (o := 1) rfl
    go_wp2_with fail
    refine (AE.out _ B1.out).mono ?_
    rintro e w2 ⟨rfl, b2⟩
    have B2 := hid (below_on B1.out b2)
    clear AE b2 B1 R1 y1
    go_wp2
    go_ret2
    exact ⟨rfl, B2.out⟩
  case neg =>
  have d3 : (vt != -1) = true := by simp [hd]
  have d4 : decide (vt = -1) = false := decide_eq_false hd
  cases he : ndOk vt
  case false =>
    rw [he] at IV
    clear HBB CK AE ha hb hc hd he
    go_enter Tryz.func15, Tryz.ntmps15
    go_wp2_with fail
    refine (IN.out _).mono ?_
    rintro e w1 ⟨rfl, rfl⟩
    clear IN
    go_wp2_with fail
    refine (IV.out _).mono ?_
    rintro e w1 ⟨rfl, rfl⟩
    clear IV
    go_wp2
    go_ret2
    exact ⟨rfl, B0.out⟩
  case true =>
    have hm : mesOk st tm es = false := by
      rcases HBB.out with h | h | h | h | h
      · rw [ha] at h; cases h
      · exact absurd h hb
      · exact absurd h hc
      · rw [he] at h; exact absurd h.2 (by simp)
      · exact h
    rw [hm] at AE
    rw [he] at IV
    clear HBB ha hb hc hm hd he
    go_enter Tryz.func15, Tryz.ntmps15
    go_wp2_with fail
    refine (IN.out _).mono ?_
    rintro e w1 ⟨rfl, rfl⟩
    clear IN
    go_wp2_with fail
    refine (IV.out _).mono ?_
    rintro e w1 ⟨rfl, rfl⟩
    clear IV
    go_wp2_with fail
    refine (CK.out _ B0.out).mono ?_
    rintro e w1 ⟨rfl, b1⟩
    have B1 := hid (below_on B0.out b1)
    have R1 := hid (R0.out.keep (b1.keep (fun _ => False)) (fun h => h))
    clear CK b1 B0 R0 y0 y1 y2 y3
    have y1 := R1.out.cellAt (o := 1) rfl
    go_wp2_with fail
    refine (AE.out _ B1.out).mono ?_
    rintro e w2 ⟨rfl, b2⟩
    have B2 := hid (below_on B1.out b2)
    clear AE b2 B1 R1 y1
    go_wp2
    go_ret2
    exact ⟨rfl, B2.out⟩
section
variable {w w1 : World} {B nb : Nat} {n : Nd} {ms : List Int} {es : List En}
set_option maxRecDepth 100000 in
set_option maxHeartbeats 1000000 in
theorem nsure_no (h : NdI w B nb n ms es) (hne : ms ≠ []) (hr : n.rl ≠ 2) (a b : Int) : Calls Tryz.prog 26 #[.pointer (some ⟨nb, 0, none⟩), .int .i64 a, .int .i64 b] w fun e w' => e = .returned (.bool false) ∧ Below w.heap.size w w' := by
  have BB : Hid (Below w.heap.size w ((w.alloc (.cells #[.pointer (some ⟨nb, 0, none⟩)] 44)).alloc (.cells #[.int .i64 b] 3))) := below_al (below_al (Below.refl _ _) _) _
  have RF := hid (nrefuses_no (h.next BB.out) hne hr)
  have r0 : RowIs ((w.alloc (.cells #[.pointer (some ⟨nb, 0, none⟩)] 44)).alloc (.cells #[.int .i64 b] 3)) w.heap.size [.pointer (some ⟨nb, 0, none⟩)] 44 := row_old (srow w _ _) _
  have y0 := r0.cellAt (o := 0) rfl
  clear h hne hr r0
  go_enter Tryz.func26, Tryz.ntmps26
  go_wp2_with fail
  refine RF.out.mono ?_
  rintro e w1 ⟨rfl, hw⟩
  subst hw
  clear RF
  go_wp2
  go_ret
  exact ⟨rfl, BB.out⟩
set_option maxRecDepth 100000 in
set_option maxHeartbeats 1000000 in
theorem ncompact_no (h : NdI w B nb n ms es) (hne : ms ≠ []) (i : Int) (h1 : n.bi < i) (h2 : n.cm < i) (s : ByteArray) : Calls Tryz.prog 22 #[.pointer (some ⟨nb, 0, none⟩), .int .i64 i, .string s] w fun e w' => e = .returned (.int .i64 1) ∧ w' = w := by
  have IN := hid (nisNone_any h hne)
  have c3 := h.bx.cellAt (o := 3) rfl
  have c8 := h.bx.cellAt (o := 8) rfl
  have d1 : decide (i ≤ n.bi) = false := decide_eq_false (by omega)
  have d2 : decide (i > n.cm) = true := decide_eq_true (by omega)
  generalize n.bi = bi at *
  generalize n.cm = cm at *
  clear h hne h1 h2
  go_enter Tryz.func22, Tryz.ntmps22
  go_wp2_with fail
  refine IN.out.mono ?_
  rintro e w1 ⟨rfl, rfl⟩
  clear IN
  go_wp2
  go_ret
  exact ⟨rfl, rfl⟩
set_option maxRecDepth 100000 in
set_option maxHeartbeats 2000000 in
theorem nbase_any (h : NdI w B nb n ms es) (hne : ms ≠ []) (hm : ms.length ≤ 17592186044416) (hd : n.bd.size ≤ 140737488355328) : Calls Tryz.prog 58 #[.pointer (some ⟨nb, 0, none⟩)] w fun e w' => ∃ ad cap, e = .returned (shV (.slice ad ms.length cap) ⟨n.bi, n.bt, ms, n.bd⟩) ∧ Below w.heap.size w w' := by
  obtain ⟨W0, hW0⟩ : ∃ W0, W0 = w.alloc (.cells #[.int .i64 0, .int .i64 0, .slice none 0 0, .string ⟨#[]⟩] 49) := ⟨_, rfl⟩
  have b0 : Below w.heap.size w W0 := by rw [hW0]; exact below_al (Below.refl _ _) _
  have R0 : Hid (RowIs W0 w.heap.size [.int .i64 0, .int .i64 0, .slice none 0 0, .string ⟨#[]⟩] 49) := by show RowIs _ _ _ _; rw [hW0]; exact srow w _ _
  have h0 := h.next b0
  have IN := hid (nisNone_any h0 hne)
  obtain ⟨ad0, cap0, c5, e5⟩ := h0.bmf
  have c3 := h0.bx.cellAt (o := 3) rfl
  have c4 := h0.bx.cellAt (o := 4) rfl
  have c6 := h0.bx.cellAt (o := 6) rfl
  have CP : Hid (Calls Tryz.prog 52 #[.agg #[.int .i64 n.bi, .int .i64 n.bt, .slice ad0 ms.length cap0, .string n.bd]] W0 fun e w' => ∃ ad3 cap3, e = .returned (.agg #[.int .i64 n.bi, .int .i64 n.bt, .slice ad3 ms.length cap3, .string n.bd]) ∧ Below W0.heap.size W0 w') := by
    have hi := h0.mi.ints
    rw [e5] at hi
    exact (cshot_any _ ⟨n.bi, n.bt, ms, n.bd⟩ W0 hi hm hd).mono fun e w' ⟨v', he, ho, hb⟩ => by
      obtain ⟨ad3, cap3, rfl⟩ := ho.form
      exact ⟨ad3, cap3, he, hb⟩
  have B0 := hid b0
  clear h h0 hne hm hd e5 b0
  unfold shV
  simp only at *
  generalize n.bi = bi at *
  generalize n.bt = bt at *
  generalize n.bd = bd at *
  go_enter Tryz.func58, Tryz.ntmps58
  go_wp2_with fail
  rw [← hW0]
  refine IN.out.mono ?_
  rintro e w1 ⟨rfl, hw⟩
  subst hw
  clear IN hW0
  go_wp2_with fail
  refine CP.out.mono ?_
  rintro e w2 ⟨ad3, cap3, rfl, b2⟩
  have B2 := hid (below_on B0.out b2)
  have R2 := hid (R0.out.keep (b2.keep (fun _ => False)) (fun h => h))
  have y0 := R2.out.cellAt (o := 0) rfl
  have y1 := R2.out.cellAt (o := 1) rfl
  have y2 := R2.out.cellAt (o := 2) rfl
  have y3 := R2.out.cellAt (o := 3) rfl
  have f0 := R2.out.frozen (o := 0)
  have f1 := R2.out.frozen (o := 1)
  have f2 := R2.out.frozen (o := 2)
  have f3 := R2.out.frozen (o := 3)
  have F9 : Hid (RowIs ((((w2.setCell ⟨w.heap.size, 0, none⟩ (.int .i64 bi)).setCell ⟨w.heap.size, 1, none⟩ (.int .i64 bt)).setCell ⟨w.heap.size, 2, none⟩ (.slice ad3 ms.length cap3)).setCell ⟨w.heap.size, 3, none⟩ (.string bd)) w.heap.size [.int .i64 bi, .int .i64 bt, .slice ad3 ms.length cap3, .string bd] 49 ∧ Below w.heap.size w ((((w2.setCell ⟨w.heap.size, 0, none⟩ (.int .i64 bi)).setCell ⟨w.heap.size, 1, none⟩ (.int .i64 bt)).setCell ⟨w.heap.size, 2, none⟩ (.slice ad3 ms.length cap3)).setCell ⟨w.heap.size, 3, none⟩ (.string bd))) :=
    ⟨(((R2.out.set 0 _).set 1 _).set 2 _).set 3 _, B2.out.trans (keep_below ((((keep_setCell _ _ _ _).trans (keep_setCell _ _ _ _)).trans (keep_setCell _ _ _ _)).trans (keep_setCell _ _ _ _)) (fun j hj e => by omega) B2.out.size)⟩
  clear CP b2 B0 R0 B2 R2 c3 c4 c5 c6
  go_wp2
  exact bodyPost_ret (v := .agg #[.int .i64 bi, .int .i64 bt, .slice ad3 ms.length cap3, .string bd]) (results_cell_row (p := 2) rfl _ _ w.heap.size 49 #[.int .i64 bi, .int .i64 bt, .slice ad3 ms.length cap3, .string bd] (0, 0) _ rfl F9.out.1 Tryz.underlying49 rfl (by kernel_rfl)) rfl ⟨_, _, rfl, F9.out.2⟩
set_option maxRecDepth 100000 in
set_option maxHeartbeats 4000000 in
theorem nlog_any (h : NdI w B nb n ms es) (hne : ms ≠ []) (hm : ms.length ≤ 17592186044416) (hbd : n.bd.size ≤ 140737488355328) (hl : es.length ≤ 4398046511104) (hd : ∀ x ∈ es, x.da.size ≤ 140737488355328) (hb0 : 0 ≤ n.bi) (hb1 : n.bi ≤ 1099511627776) :
    Calls Tryz.prog 21 #[.pointer (some ⟨nb, 0, none⟩)] w fun e w' => ∃ ad cap, e = .returned (.slice ad es.length cap) ∧ Below w.heap.size w w' := by
  have LA := hid (nlast_any h hne (by omega) hb0 hb1)
  have BA : Hid (∀ W, Below w.heap.size w W → Calls Tryz.prog 58 #[.pointer (some ⟨nb, 0, none⟩)] W fun e w' => ∃ ad cap, e = .returned (.agg #[.int .i64 n.bi, .int .i64 n.bt, .slice ad ms.length cap, .string n.bd]) ∧ Below W.heap.size W w') := fun W b => nbase_any (h.next b) hne hm hbd
  have EN : Hid (∀ (k : Nat) (hk : k < es.length) W, Below w.heap.size w W → Calls Tryz.prog 48 #[.pointer (some ⟨nb, 0, none⟩), .int .i64 (n.bi + 1 + k)] W fun e w' => e = .returned (.tuple #[.agg #[.int .i64 (es[k]).tm, .int .i64 (es[k]).kd, .string (es[k]).da], .bool true]) ∧ Below W.heap.size W w') := fun k hk W b => nentry_in (h.next b) hne (by omega) hb0 hb1 k hk (hd _ (List.getElem_mem hk)) _ (by omega)
  have hfd : ∀ ad cap W, (Instr.field 49 (.agg #[.int .i64 n.bi, .int .i64 n.bt, .slice ad ms.length cap, .string n.bd]) 0).run Tryz.prog W = .ok (.int .i64 n.bi) W := fun ad cap W => by kernel_rfl
  have hw1 : wrap64 (n.bi + 1) = n.bi + 1 := IntWalk.wrap64_in _ (by omega)
  have HBI : Hid (0 ≤ n.bi ∧ n.bi ≤ 1099511627776) := ⟨hb0, hb1⟩
  have HL := hid hl
  clear h hne hm hbd hl hd hb0 hb1
  generalize ltT n.bt es = lt at *
  generalize n.bi = bi at *
  generalize n.bt = bt at *
  generalize n.bd = bd at *
  go_enter Tryz.func21, Tryz.ntmps21
  go_wp2_with fail
  refine LA.out.mono ?_
  rintro e w1 ⟨rfl, b1⟩
  have BA2 := hid (BA.out w1 b1)
  have B1 := hid b1
  clear LA BA b1
  go_wp2_with fail
  refine BA2.out.mono ?_
  rintro e w2 ⟨ad, cap, rfl, b2⟩
  have B2 := hid (below_on B1.out b2)
  clear BA2 b2 B1
  go_wp2
  clear hfd
  have HW1 := hid hw1
  clear hw1
  go_loopg [3, 6] es.length (fun gk o i wr => ∃ (k : Nat) (ad2 : Option Addr) (cap2 : Nat), k ≤ es.length ∧ gk = es.length - k ∧ o = .slice ad2 k cap2 ∧ i = .int .i64 (bi + 1 + (k : Int)) ∧ Hid (wr.ownsRow w.heap.size 51 3 (.slice ad2 k cap2) k (ensC (es.take k))) ∧ Hid (Below w.heap.size w wr))
  case atStart => exact ⟨0, none, 0, Nat.zero_le _, rfl, rfl, by rw [HW1.out]; simp, ⟨rfl, .inl ⟨rfl, rfl⟩⟩, B2⟩
  case round =>
    clear B2
    obtain ⟨k, ad2, cap2, hk, hgk, rfl, rfl, HO, HB⟩ := hrel
    by_cases hlt : k < es.length
    · have hlb := HL.out
      have hbi := HBI.out
      have d1 : decide (bi + 1 + (k : Int) ≤ bi + (es.length : Int)) = true := decide_eq_true (by omega)
      have hwk : wrap64 (bi + 1 + (k : Int) + 1) = bi + 1 + ((k + 1 : Nat) : Int) := by rw [IntWalk.wrap64_in _ (by omega)]; omega
      have E1 := hid (EN.out k hlt wr HB.out)
      have HT : Hid (ensC (es.take (k + 1)) = ensC (es.take k) ++ enC es[k]) := by show _ = _; rw [List.take_succ_eq_append_getElem hlt, ensC_snoc]
      have HLT := hid hlt
      have HGK := hid hgk
      have HB1 : Hid (k + 1 ≤ 4611686018427387904) := by show _ ≤ _; omega
      have HB2 : Hid ((k + 1) * 32 ≤ 140737488355328) := by show _ ≤ _; omega
      have HM5 : Hid (es.length - (k + 1) < es.length - k) := by show _ < _; omega
      clear EN hlb hbi hk hgk
      generalize es[k] = x at *
      obtain ⟨tm, kd, da⟩ := x
      simp only at *
      have HO1 := hid (enC_cell1 ⟨tm, kd, da⟩)
      have HX2 : Hid ((enC ⟨tm, kd, da⟩).length = 1 * 3) := rfl
      clear hlt
      generalize hii : bi + 1 + (k : Int) = ii at *
      have HII := hid hii
      clear hii
      go_wp2_with fail
      refine E1.out.mono ?_
      rintro e w3 ⟨rfl, b3⟩
      have B3 := hid (below_al (below_on HB.out b3) (.cells #[.int .i64 tm, .int .i64 kd, .string da] 51))
      have O3 := hid ((keep_alloc (fun _ => False) w3 (.cells #[.int .i64 tm, .int .i64 kd, .string da] 51)).ownsRow ((b3.keep (fun _ => False)).ownsRow HO.out (fun _ _ h => h)) (fun _ _ h => h))
      have q0 := (srow w3 [.int .i64 tm, .int .i64 kd, .string da] 51).cellAt (o := 0) rfl
      have q1 := (srow w3 [.int .i64 tm, .int .i64 kd, .string da] 51).cellAt (o := 1) rfl
      have q2 := (srow w3 [.int .i64 tm, .int .i64 kd, .string da] 51).cellAt (o := 2) rfl
      obtain ⟨W4, hW4⟩ : ∃ W4, W4 = w3.alloc (.cells #[.int .i64 tm, .int .i64 kd, .string da] 51) := ⟨_, rfl⟩
      have hz4 : W4.heap.size = w3.heap.size + 1 := by rw [hW4]; simp
      rw [← hW4] at B3 O3
      have HGX : Hid (GSrc (W4.alloc (.cells #[.int .i64 tm, .int .i64 kd, .string da] 51)) (.slice (some ⟨w3.heap.size + 1, 0, none⟩) 1 1) 1 (enC ⟨tm, kd, da⟩)) := by
        have h := heap_alloc_new W4 (.cells #[.int .i64 tm, .int .i64 kd, .string da] 51)
        rw [hz4] at h
        exact gsrc_block h
      have HGA := hid ((keep_alloc (fun _ => False) W4 (.cells #[.int .i64 tm, .int .i64 kd, .string da] 51)).ownsRow O3.out (fun _ _ h => h))
      have HBL := hid (below_al B3.out (.cells #[.int .i64 tm, .int .i64 kd, .string da] 51))
      have HSZ : Hid (w.heap.size ≤ (W4.alloc (.cells #[.int .i64 tm, .int .i64 kd, .string da] 51)).heap.size) := HBL.out.size
      subst hW4
      clear E1 b3 HO HB B3 O3 hz4
      generalize hXS : enC ⟨tm, kd, da⟩ = XS at *
      clear hXS
      generalize hPA : ensC (es.take k) = PA at *
      clear hPA
      go_wp2_with (at_builtin; refine wpl_gappL rfl _ _ elEn (by rfl) w.heap.size (.slice ad2 k cap2) (.slice (some ⟨w3.heap.size + 1, 0, none⟩) 1 1) PA XS k 1 (k + 1) rfl (by rfl) (by rfl) HGA.out HSZ.out HGX.out HX2.out HO1.out HB1.out HB2.out ?_; intro ad' cap' w' hr' hk')
      have F1 : Hid (w'.ownsRow w.heap.size 51 3 (.slice ad' (k + 1) cap') (k + 1) (ensC (es.take (k + 1)))) := by rw [HT.out]; exact hr'
      have F2 := hid (HBL.out.trans (keep_below hk' (fun j hj e => by have := ownsRow_ge HGA.out e; omega) HSZ.out))
      clear hr' hk' HGA HGX HSZ HBL HT q0 q1 q2
      go_wp2
      go_roundg (es.length - (k + 1))
      case measure => rw [HGK.out]; exact HM5.out
      case rel => exact ⟨k + 1, _, _, HLT.out, rfl, rfl, by first | rw [hwk] | rfl, F1, F2⟩
    · have hk9 : k = es.length := by omega
      have d1 : decide (bi + 1 + (k : Int) ≤ bi + (es.length : Int)) = false := decide_eq_false (by omega)
      subst hk9
      clear EN HL hlt hk hgk HO
      go_wp2
      go_ret
      exact ⟨_, _, rfl, HB.out⟩
end
end Go.Proofs.YtlkidnfgodficaaGreat
namespace Go.Proofs.YtlkidnfgodficaaGreat
open Go.RowKit Go.Maps
set_option linter.unusedVariables false
set_option linter.unusedSimpArgs false

def shN : Sh := ⟨3, 2, [0, 2], ⟨#[]⟩⟩
theorem ltT_take (es : List En) (k : Nat) (hk : k < es.length) : ltT 2 (es.take (k + 1)) = es[k].tm := by
  rw [List.take_succ_eq_append_getElem hk, ltT_snoc]
theorem mesOk_snoc (hi : Int) (x : En) : ∀ (l : List En) (lo : Int), mesOk lo hi (l ++ [x]) = (mesOk lo hi l && meOk (ltT lo l) hi x)
  | [], lo => by simp [mesOk, ltT]
  | y :: r, lo => by
    show (meOk lo hi y && mesOk y.tm hi (r ++ [x])) = ((meOk lo hi y && mesOk y.tm hi r) && _)
    rw [mesOk_snoc hi x r y.tm, Bool.and_assoc]
    congr 2
    cases r with
    | nil => rfl
    | cons z q =>
      have e : (z :: q).getLast? = some ((z :: q).getLast (by simp)) := List.getLast?_eq_some_getLast (by simp)
      show _ = meOk (ltT lo (y :: z :: q)) hi x
      unfold ltT
      rw [List.getLast?_cons_cons, e]
theorem mesOk_take (hi : Int) (es : List En) (k : Nat) (hk : k < es.length) : mesOk 2 hi (es.take (k + 1)) = (mesOk 2 hi (es.take k) && meOk (ltT 2 (es.take k)) hi es[k]) := by
  rw [List.take_succ_eq_append_getElem hk, mesOk_snoc]
/-- what the law needs of a node that is none -/
structure Nils : Prop where
  pr : ∀ (s : ByteArray) W, Calls Tryz.prog 23 #[.pointer none, .string s] W fun e w' => e = .returned (.tuple #[.int .i64 0, .slice none 0 0, .int .i64 1]) ∧ w' = W
  ch : ∀ (v : Value) W, Calls Tryz.prog 24 #[.pointer none, v] W fun e w' => e = .returned (.tuple #[.int .i64 0, .slice none 0 0, .int .i64 1]) ∧ w' = W
  rd : ∀ W, Calls Tryz.prog 25 #[.pointer none] W fun e w' => e = .returned (.tuple #[.int .i64 0, .int .i64 0, .slice none 0 0, .int .i64 1]) ∧ w' = W
  hd : ∀ W, Calls Tryz.prog 16 #[.pointer none] W fun e w' => e = .returned (.tuple #[.int .i64 0, .int .i64 (-1)]) ∧ w' = W
  tk : ∀ W, Calls Tryz.prog 27 #[.pointer none] W fun e w' => e = .returned (.tuple #[.agg #[.int .i64 0, .int .i64 0, .slice none 0 0, .string ⟨#[]⟩], .bool false]) ∧ Below W.heap.size W w'
  cp : ∀ (i : Int) (s : ByteArray) W, Calls Tryz.prog 22 #[.pointer none, .int .i64 i, .string s] W fun e w' => e = .returned (.int .i64 1) ∧ w' = W
  ti : ∀ (d : Int) W, Calls Tryz.prog 28 #[.pointer none, .int .i64 d] W fun e w' => e = .returned (.slice none 0 0) ∧ w' = W
  st : ∀ W, Calls Tryz.prog 29 #[.pointer none, .agg #[.int .i64 0, .int .i64 0, .int .i64 0, .int .i64 0, .int .i64 0, .int .i64 0, .int .i64 0, .int .i64 0, .int .i64 0, .bool false, .slice none 0 0, .string ⟨#[]⟩]] W fun e w' => e = .returned (.slice none 0 0) ∧ Below W.heap.size W w'
  ld : ∀ W, Calls Tryz.prog 20 #[.pointer none] W fun e w' => e = .returned (.int .i64 (-1)) ∧ w' = W
  cm : ∀ W, Calls Tryz.prog 18 #[.pointer none] W fun e w' => e = .returned (.int .i64 0) ∧ w' = W
  su : ∀ (a b : Int) W, Calls Tryz.prog 26 #[.pointer none, .int .i64 a, .int .i64 b] W fun e w' => e = .returned (.bool false) ∧ Below W.heap.size W w'
  me : ∀ W, Calls Tryz.prog 30 #[.pointer none] W fun e w' => e = .returned (.slice none 0 0) ∧ w' = W
theorem nils : Nils := ⟨fun s W => npropose_nil s W, fun v W => nchange_nil v W, fun W => nread_nil W, fun W => nhard_nil W, fun W => ntaken_nil W, fun i s W => ncompact_nil i s W, fun d W => ntick_nil d W, fun W => nstep_nil W, fun W => nleader_nil W, fun W => ncommit_nil W, fun a b W => nsure_nil a b W, fun W => nmembers_nil W⟩
end Go.Proofs.YtlkidnfgodficaaGreat
namespace Go.Proofs.YtlkidnfgodficaaGreat
open Go.RowKit Go.Maps
set_option linter.unusedVariables false
set_option linter.unusedSimpArgs false

set_option maxRecDepth 100000 in
set_option maxHeartbeats 8000000 in
theorem raftNew_1 (me tm vt : Int) (v : Value) (es : List En) (w : World) (hv : EntI w v es) (hz : es.length ≤ 4398046511104) (hy : ∀ x ∈ es, x.da.size ≤ 140737488355328) (h0 : ¬ 0 ≤ me) : Calls Tryz.prog 5 #[.int .i64 me, .agg #[.int .i64 tm, .int .i64 vt], v] w fun e w' => e = .returned (.bool true) ∧ Below w.heap.size w w' := by
  have NI := hid nils
  have AW := hid (fun W => awake10 W)
  obtain ⟨ad, cap, rfl, hcl⟩ := hv.form
  have HC := hid hcl
  have HZ := hid hz
  have R0 : Hid (RowIs (w.alloc (.cells #[.int .i64 tm, .int .i64 vt] 43)) w.heap.size [.int .i64 tm, .int .i64 vt] 43) := srow w _ _
  have BQ : Hid (∀ q, Below w.heap.size w (((w.alloc (.cells #[.int .i64 tm, .int .i64 vt] 43)).drewN q).alloc (.cells #[.int .i64 0, .int .i64 2] 3))) := fun q => below_al (below_drewN (below_al (Below.refl _ _) _) q) _
  have IQ : Hid (∀ q, IntsI (((w.alloc (.cells #[.int .i64 tm, .int .i64 vt] 43)).drewN q).alloc (.cells #[.int .i64 0, .int .i64 2] 3)) (.slice (some ⟨w.heap.size + 1, 0, none⟩) 2 2) [0, 2]) := fun q => by
    have r := srow ((w.alloc (.cells #[.int .i64 tm, .int .i64 vt] 43)).drewN q) (isC [0, 2]) 3
    have hz : ((w.alloc (.cells #[.int .i64 tm, .int .i64 vt] 43)).drewN q).heap.size = w.heap.size + 1 := by rw [show ((w.alloc (.cells #[.int .i64 tm, .int .i64 vt] 43)).drewN q).heap.size = (w.alloc (.cells #[.int .i64 tm, .int .i64 vt] 43)).heap.size from by have := (keep_drewN (w.alloc (.cells #[.int .i64 tm, .int .i64 vt] 43)) q).size; have h2 := World.heap_drewN (w.alloc (.cells #[.int .i64 tm, .int .i64 vt] 43)) q; rw [h2]]; simp
    rw [hz] at r
    exact row_ints r
  have NW : Hid (∀ q, Calls Tryz.prog 15 #[.int .i64 me, .int .i64 tm, .int .i64 vt, .agg #[.int .i64 3, .int .i64 2, .slice (some ⟨w.heap.size + 1, 0, none⟩) 2 2, .string ⟨#[]⟩], .slice ad es.length cap, .int .i64 7] (((w.alloc (.cells #[.int .i64 tm, .int .i64 vt] 43)).drewN q).alloc (.cells #[.int .i64 0, .int .i64 2] 3)) fun e w' => e = .returned (.tuple #[.pointer none, .int .i64 1]) ∧ Below (((w.alloc (.cells #[.int .i64 tm, .int .i64 vt] 43)).drewN q).alloc (.cells #[.int .i64 0, .int .i64 2] 3)).heap.size (((w.alloc (.cells #[.int .i64 tm, .int .i64 vt] 43)).drewN q).alloc (.cells #[.int .i64 0, .int .i64 2] 3)) w') := fun q => nnew_bad me tm vt _ shN _ es 7 _ (IQ.out q) (hv.next (BQ.out q)) hz (by decide) (.inl (by unfold ndOk; rw [decide_eq_false h0]; rfl))
  have e0 : decide (me ≥ 0) = false := decide_eq_false h0
  have f0 : decide (0 ≤ me) = false := decide_eq_false h0
  clear hz hy h0
  have y0 := R0.out.cellAt (o := 0) rfl
  have y1 := R0.out.cellAt (o := 1) rfl
  clear hv hcl
  go_enter Tryz.func5, Tryz.ntmps5
  go_wp2
  go_quiet (fail)
  have NW2 := hid (NW.out nq)
  have BQ2 := hid (BQ.out nq)
  clear NW BQ IQ R0 y0 y1
  go_wp2_with fail
  refine NW2.out.mono ?_
  rintro e w2 ⟨rfl, b2⟩
  have B2 := hid (below_on BQ2.out b2)
  clear NW2 b2 BQ2
  go_wp2
  go_loopg [11, 12, 13] es.length (fun gk o l i wr => ∃ (k : Nat) (ok : Bool) (la : Int), k ≤ es.length ∧ gk = es.length - k ∧ o = .bool ok ∧ l = .int .i64 la ∧ i = .int .i64 (k : Int) ∧ Hid (ok = false) ∧ Hid (Below w.heap.size w wr))
  case atStart => exact ⟨0, false, 2, Nat.zero_le _, rfl, rfl, rfl, rfl, rfl, B2⟩
  case round =>
    clear B2 e0 f0
    obtain ⟨k, ok, la, hk, hgk, rfl, rfl, rfl, HI, HB⟩ := hrel
    have hok := HI.out
    subst hok
    by_cases hlt : k < es.length
    · have hlb := HZ.out
      have hk1 : (k : Int) < (es.length : Int) := by omega
      have hk0 : (0 : Int) ≤ (k : Int) := by omega
      have hwk : wrap64 ((k : Int) + 1) = ((k + 1 : Nat) : Int) := by rw [IntWalk.wrap64_in _ (by omega)]; omega
      obtain ⟨b, off, hadr, hb, c0, c1, c2⟩ := HC.out k hlt
      have d0 := (HB.out.cell (p := ⟨b, off + k * 3, none⟩) hb).trans c0
      have d1 := (HB.out.cell (p := ⟨b, off + k * 3 + 1, none⟩) hb).trans c1
      have d2 := (HB.out.cell (p := ⟨b, off + k * 3 + 2, none⟩) hb).trans c2
      have HLT := hid hlt
      have HGK := hid hgk
      have HM5 : Hid (es.length - (k + 1) < es.length - k) := by show _ < _; omega
      clear c0 c1 c2 hb hlb hk hgk HC NI AW
      generalize es[k] = x at *
      obtain ⟨xt, kd, da⟩ := x
      simp only at *
      subst hadr
      clear hlt
      go_wp2
      go_roundg (es.length - (k + 1))
      case measure => rw [HGK.out]; exact HM5.out
      case rel => exact ⟨k + 1, false, xt, HLT.out, rfl, rfl, rfl, by first | rw [hwk] | rfl | simp, rfl, HB⟩
    · have hk9 : k = es.length := by omega
      have hdl : decide ((k : Int) < (es.length : Int)) = false := decide_eq_false (by omega)
      have hdl2 : decide (k < es.length) = false := decide_eq_false (by omega)
      clear HC HZ hlt hk hk9 hgk HI
      go_wp2_with fail
      refine (AW.out _).mono ?_
      rintro e w5 ⟨rfl, b5⟩
      have B5 := hid (below_on HB.out b5)
      clear AW b5 HB
      go_wp2_with fail
      refine (NI.out.pr _ _).mono ?_
      rintro e wz ⟨rfl, hz⟩
      subst hz
      go_wp2_with fail
      refine (NI.out.ch _ _).mono ?_
      rintro e wz ⟨rfl, hz⟩
      subst hz
      go_wp2_with fail
      refine (NI.out.rd _).mono ?_
      rintro e wz ⟨rfl, hz⟩
      subst hz
      go_wp2_with fail
      refine (NI.out.hd _).mono ?_
      rintro e wz ⟨rfl, hz⟩
      subst hz
      go_wp2_with fail
      refine (NI.out.tk _).mono ?_
      rintro e wt ⟨rfl, bt⟩
      have BT := hid (below_al (below_on B5.out bt) (.cells #[.int .i64 0, .int .i64 0, .slice none 0 0, .string ⟨#[]⟩] 49))
      clear bt B5
      go_wp2_with fail
      refine (NI.out.cp _ _ _).mono ?_
      rintro e wz ⟨rfl, hz⟩
      subst hz
      go_wp2_with fail
      refine (NI.out.ti _ _).mono ?_
      rintro e wz ⟨rfl, hz⟩
      subst hz
      go_wp2_with fail
      refine (NI.out.st _).mono ?_
      rintro e wu ⟨rfl, bu⟩
      have BU := hid (below_on BT.out bu)
      clear bu BT
      go_wp2_with fail
      refine (NI.out.ld _).mono ?_
      rintro e wz ⟨rfl, hz⟩
      subst hz
      go_wp2_with fail
      refine (NI.out.cm _).mono ?_
      rintro e wz ⟨rfl, hz⟩
      subst hz
      go_wp2_with fail
      refine (NI.out.su _ _ _).mono ?_
      rintro e wv ⟨rfl, bv⟩
      have BV := hid (below_on BU.out bv)
      clear bv BU
      go_wp2_with fail
      refine (NI.out.me _).mono ?_
      rintro e wz ⟨rfl, hz⟩
      subst hz
      go_wp2
      go_ret
      exact ⟨rfl, BV.out⟩
end Go.Proofs.YtlkidnfgodficaaGreat
namespace Go.Proofs.YtlkidnfgodficaaGreat
open Go.RowKit Go.Maps
set_option linter.unusedVariables false
set_option linter.unusedSimpArgs false

set_option maxRecDepth 100000 in
set_option maxHeartbeats 8000000 in
theorem raftNew_2 (me tm vt : Int) (v : Value) (es : List En) (w : World) (hv : EntI w v es) (hz : es.length ≤ 4398046511104) (hy : ∀ x ∈ es, x.da.size ≤ 140737488355328) (h0 : 0 ≤ me) (h1 : ¬ me < 7) : Calls Tryz.prog 5 #[.int .i64 me, .agg #[.int .i64 tm, .int .i64 vt], v] w fun e w' => e = .returned (.bool true) ∧ Below w.heap.size w w' := by
  have NI := hid nils
  have AW := hid (fun W => awake10 W)
  obtain ⟨ad, cap, rfl, hcl⟩ := hv.form
  have HC := hid hcl
  have HZ := hid hz
  have R0 : Hid (RowIs (w.alloc (.cells #[.int .i64 tm, .int .i64 vt] 43)) w.heap.size [.int .i64 tm, .int .i64 vt] 43) := srow w _ _
  have BQ : Hid (∀ q, Below w.heap.size w (((w.alloc (.cells #[.int .i64 tm, .int .i64 vt] 43)).drewN q).alloc (.cells #[.int .i64 0, .int .i64 2] 3))) := fun q => below_al (below_drewN (below_al (Below.refl _ _) _) q) _
  have IQ : Hid (∀ q, IntsI (((w.alloc (.cells #[.int .i64 tm, .int .i64 vt] 43)).drewN q).alloc (.cells #[.int .i64 0, .int .i64 2] 3)) (.slice (some ⟨w.heap.size + 1, 0, none⟩) 2 2) [0, 2]) := fun q => by
    have r := srow ((w.alloc (.cells #[.int .i64 tm, .int .i64 vt] 43)).drewN q) (isC [0, 2]) 3
    have hz : ((w.alloc (.cells #[.int .i64 tm, .int .i64 vt] 43)).drewN q).heap.size = w.heap.size + 1 := by rw [show ((w.alloc (.cells #[.int .i64 tm, .int .i64 vt] 43)).drewN q).heap.size = (w.alloc (.cells #[.int .i64 tm, .int .i64 vt] 43)).heap.size from by have := (keep_drewN (w.alloc (.cells #[.int .i64 tm, .int .i64 vt] 43)) q).size; have h2 := World.heap_drewN (w.alloc (.cells #[.int .i64 tm, .int .i64 vt] 43)) q; rw [h2]]; simp
    rw [hz] at r
    exact row_ints r
  have NW : Hid (∀ q, Calls Tryz.prog 15 #[.int .i64 me, .int .i64 tm, .int .i64 vt, .agg #[.int .i64 3, .int .i64 2, .slice (some ⟨w.heap.size + 1, 0, none⟩) 2 2, .string ⟨#[]⟩], .slice ad es.length cap, .int .i64 7] (((w.alloc (.cells #[.int .i64 tm, .int .i64 vt] 43)).drewN q).alloc (.cells #[.int .i64 0, .int .i64 2] 3)) fun e w' => e = .returned (.tuple #[.pointer none, .int .i64 1]) ∧ Below (((w.alloc (.cells #[.int .i64 tm, .int .i64 vt] 43)).drewN q).alloc (.cells #[.int .i64 0, .int .i64 2] 3)).heap.size (((w.alloc (.cells #[.int .i64 tm, .int .i64 vt] 43)).drewN q).alloc (.cells #[.int .i64 0, .int .i64 2] 3)) w') := fun q => nnew_bad me tm vt _ shN _ es 7 _ (IQ.out q) (hv.next (BQ.out q)) hz (by decide) (.inl (by unfold ndOk; rw [decide_eq_false h1]; simp))
  have e0 : decide (me ≥ 0) = true := decide_eq_true h0
  have f0 : decide (0 ≤ me) = true := decide_eq_true h0
  have e1 : decide (me < 7) = false := decide_eq_false h1
  have f1 : decide (me < 7) = false := decide_eq_false h1
  clear hz hy h0 h1
  have y0 := R0.out.cellAt (o := 0) rfl
  have y1 := R0.out.cellAt (o := 1) rfl
  clear hv hcl
  go_enter Tryz.func5, Tryz.ntmps5
  go_wp2
  go_quiet (fail)
  have NW2 := hid (NW.out nq)
  have BQ2 := hid (BQ.out nq)
  clear NW BQ IQ R0 y0 y1
  go_wp2_with fail
  refine NW2.out.mono ?_
  rintro e w2 ⟨rfl, b2⟩
  have B2 := hid (below_on BQ2.out b2)
  clear NW2 b2 BQ2
  go_wp2
  go_loopg [11, 12, 13] es.length (fun gk o l i wr => ∃ (k : Nat) (ok : Bool) (la : Int), k ≤ es.length ∧ gk = es.length - k ∧ o = .bool ok ∧ l = .int .i64 la ∧ i = .int .i64 (k : Int) ∧ Hid (ok = false) ∧ Hid (Below w.heap.size w wr))
  case atStart => exact ⟨0, false, 2, Nat.zero_le _, rfl, rfl, rfl, rfl, rfl, B2⟩
  case round =>
    clear B2 e0 f0 e1 f1
    obtain ⟨k, ok, la, hk, hgk, rfl, rfl, rfl, HI, HB⟩ := hrel
    have hok := HI.out
    subst hok
    by_cases hlt : k < es.length
    · have hlb := HZ.out
      have hk1 : (k : Int) < (es.length : Int) := by omega
      have hk0 : (0 : Int) ≤ (k : Int) := by omega
      have hwk : wrap64 ((k : Int) + 1) = ((k + 1 : Nat) : Int) := by rw [IntWalk.wrap64_in _ (by omega)]; omega
      obtain ⟨b, off, hadr, hb, c0, c1, c2⟩ := HC.out k hlt
      have d0 := (HB.out.cell (p := ⟨b, off + k * 3, none⟩) hb).trans c0
      have d1 := (HB.out.cell (p := ⟨b, off + k * 3 + 1, none⟩) hb).trans c1
      have d2 := (HB.out.cell (p := ⟨b, off + k * 3 + 2, none⟩) hb).trans c2
      have HLT := hid hlt
      have HGK := hid hgk
      have HM5 : Hid (es.length - (k + 1) < es.length - k) := by show _ < _; omega
      clear c0 c1 c2 hb hlb hk hgk HC NI AW
      generalize es[k] = x at *
      obtain ⟨xt, kd, da⟩ := x
      simp only at *
      subst hadr
      clear hlt
      go_wp2
      go_roundg (es.length - (k + 1))
      case measure => rw [HGK.out]; exact HM5.out
      case rel => exact ⟨k + 1, false, xt, HLT.out, rfl, rfl, rfl, by first | rw [hwk] | rfl | simp, rfl, HB⟩
    · have hk9 : k = es.length := by omega
      have hdl : decide ((k : Int) < (es.length : Int)) = false := decide_eq_false (by omega)
      have hdl2 : decide (k < es.length) = false := decide_eq_false (by omega)
      clear HC HZ hlt hk hk9 hgk HI
      go_wp2_with fail
      refine (AW.out _).mono ?_
      rintro e w5 ⟨rfl, b5⟩
      have B5 := hid (below_on HB.out b5)
      clear AW b5 HB
      go_wp2_with fail
      refine (NI.out.pr _ _).mono ?_
      rintro e wz ⟨rfl, hz⟩
      subst hz
      go_wp2_with fail
      refine (NI.out.ch _ _).mono ?_
      rintro e wz ⟨rfl, hz⟩
      subst hz
      go_wp2_with fail
      refine (NI.out.rd _).mono ?_
      rintro e wz ⟨rfl, hz⟩
      subst hz
      go_wp2_with fail
      refine (NI.out.hd _).mono ?_
      rintro e wz ⟨rfl, hz⟩
      subst hz
      go_wp2_with fail
      refine (NI.out.tk _).mono ?_
      rintro e wt ⟨rfl, bt⟩
      have BT := hid (below_al (below_on B5.out bt) (.cells #[.int .i64 0, .int .i64 0, .slice none 0 0, .string ⟨#[]⟩] 49))
      clear bt B5
      go_wp2_with fail
      refine (NI.out.cp _ _ _).mono ?_
      rintro e wz ⟨rfl, hz⟩
      subst hz
      go_wp2_with fail
      refine (NI.out.ti _ _).mono ?_
      rintro e wz ⟨rfl, hz⟩
      subst hz
      go_wp2_with fail
      refine (NI.out.st _).mono ?_
      rintro e wu ⟨rfl, bu⟩
      have BU := hid (below_on BT.out bu)
      clear bu BT
      go_wp2_with fail
      refine (NI.out.ld _).mono ?_
      rintro e wz ⟨rfl, hz⟩
      subst hz
      go_wp2_with fail
      refine (NI.out.cm _).mono ?_
      rintro e wz ⟨rfl, hz⟩
      subst hz
      go_wp2_with fail
      refine (NI.out.su _ _ _).mono ?_
      rintro e wv ⟨rfl, bv⟩
      have BV := hid (below_on BU.out bv)
      clear bv BU
      go_wp2_with fail
      refine (NI.out.me _).mono ?_
      rintro e wz ⟨rfl, hz⟩
      subst hz
      go_wp2
      go_ret
      exact ⟨rfl, BV.out⟩
end Go.Proofs.YtlkidnfgodficaaGreat
