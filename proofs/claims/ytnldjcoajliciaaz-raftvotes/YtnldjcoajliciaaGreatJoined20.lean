/- Joined: A node is made. A node: it stands and is chosen by itself; a tick; a command that is laid; an entry that is told. A node: a tick in which it waits, and one in which it stands; a command that is laid; an entry that is told; its role, and what is committed. A node tells an entry; the law's own small run: it answers true. A node that is none says nothing; a follower refuses; what a node says of itself. A node that may not be; what a follower refuses; a node's base; the law's list of its log. A message: its numbers, and whether it may be: the program's walks. A node's message; a message that is told alone; whether a log is up to date beside the node's. -/
import Derived.Test.YtnldjcoajliciaaGreatJoined19
import Derived.Test.YtnldjcoajliciaaGreatJoined18
import Derived.Laws.ResultCell
import Derived.Test.YtnldjcoajliciaaGreatJoined09
namespace Go.Proofs.YtnldjcoajliciaaGreat
open Go.RowKit Go.Maps
set_option linter.unusedVariables false
set_option linter.unusedSimpArgs false

def vs0 : List Value := List.replicate 7 (.bool false)
def ps0 : List Value := List.replicate 35 (.int .i64 0)
/-- a node as it stands up -/
def ndN (me tm vt : Int) (s : Sh) (dr : Int) (bm lg ga : Value) : Nd := ⟨me, tm, vt, s.ix, s.tm, bm, s.da, lg, s.ix, 0, -1, dr, 0, 0, 0, ga, 0, 0, .slice none 0 0, ⟨#[]⟩, false, vs0, 0, 0, ps0⟩
theorem ndN_arr (me tm vt : Int) (s : Sh) (dr : Int) (bm lg ga : Value) : ((((((((((((Tryz.zeroCells68.setIfInBounds 0 (.int .i64 me)).setIfInBounds 1 (.int .i64 tm)).setIfInBounds 2 (.int .i64 vt)).setIfInBounds 3 (.int .i64 s.ix)).setIfInBounds 4 (.int .i64 s.tm)).setIfInBounds 5 (bm)).setIfInBounds 6 (.string s.da)).setIfInBounds 7 (lg)).setIfInBounds 8 (.int .i64 s.ix)).setIfInBounds 10 (.int .i64 (-1))).setIfInBounds 11 (.int .i64 dr)).setIfInBounds 15 (ga)) = (ndN me tm vt s dr bm lg ga).c.toArray := by kernel_rfl
set_option maxRecDepth 100000 in
set_option maxHeartbeats 4000000 in
theorem nnew_ok (me tm vt : Int) (v : Value) (s : Sh) (v2 : Value) (es : List En) (dr : Int) (w : World) (hv : IntsI w v s.ms) (hv2 : EntI w v2 es) (hes : es.length ≤ 4398046511104) (hed : ∀ x ∈ es, x.da.size ≤ 140737488355328)
    (h0 : ndOk me = true) (h1 : s.tm ≤ tm) (h2 : tm ≤ 1099511627776) (h3 : vt = -1 ∨ ndOk vt = true) (h4 : chkS s = 0) (h5 : mesOk s.tm tm es = true) :
    Calls Tryz.prog 6 #[.int .i64 me, .int .i64 tm, .int .i64 vt, shV v s, v2, .int .i64 dr] w fun e w' => ∃ nb bm lg ga, e = .returned (.tuple #[.pointer (some ⟨nb, 0, none⟩), .int .i64 0]) ∧ NdI w' w.heap.size nb (ndWa (ndN me tm vt s dr bm lg ga)) s.ms es ∧ Below w.heap.size w w' := by
  obtain ⟨ad, cap, rfl, -⟩ := hv.form
  obtain ⟨ad2, cap2, rfl, -⟩ := hv2.form
  have hck := chk_ok h4
  have IN : Hid (∀ W, Calls Tryz.prog 16 #[.int .i64 me] W fun e w' => e = .returned (.bool true) ∧ w' = W) := fun W => by rw [← h0]; exact nodeIs_any me W
  have IV : Hid (ndOk vt = true → ∀ W, Calls Tryz.prog 16 #[.int .i64 vt] W fun e w' => e = .returned (.bool true) ∧ w' = W) := fun h W => by rw [← h]; exact nodeIs_any vt W
  have CK : Hid (∀ W, Below w.heap.size w W → Calls Tryz.prog 17 #[shV (.slice ad s.ms.length cap) s] W fun e w' => e = .returned (.int .i64 0) ∧ Below W.heap.size W w') := fun W b => by rw [← h4]; exact check_any _ s W (hv.next b) (by have := hck.2.2.2.1; omega)
  have AE : Hid (∀ W, Below w.heap.size w W → Calls Tryz.prog 18 #[.slice ad2 es.length cap2, .int .i64 s.tm, .int .i64 tm] W fun e w' => e = .returned (.bool true) ∧ Below W.heap.size W w') := fun W b => by rw [← h5]; exact areEnt_any _ es s.tm tm W (hv2.next b) (by omega)
  have CP : Hid (∀ W, Below w.heap.size w W → Calls Tryz.prog 19 #[shV (.slice ad s.ms.length cap) s] W fun e w' => ∃ ad3 cap3, e = .returned (shV (.slice ad3 s.ms.length cap3) s) ∧ OwnI w' W.heap.size (.slice ad3 s.ms.length cap3) s.ms ∧ Below W.heap.size W w') := fun W b => (cshot_any _ s W (hv.next b) (by have := hck.2.2.2.1; omega) (by have := hck.2.2.2.2; omega)).mono fun e w' ⟨v', he, ho, hb⟩ => by
    obtain ⟨ad3, cap3, rfl⟩ := ho.form
    exact ⟨ad3, cap3, he, ho, hb⟩
  have CE : Hid (∀ W, Below w.heap.size w W → Calls Tryz.prog 20 #[.slice ad2 es.length cap2] W fun e w' => ∃ ad4 cap4, e = .returned (.slice ad4 es.length cap4) ∧ OwnE w' W.heap.size (.slice ad4 es.length cap4) es ∧ Below W.heap.size W w') := fun W b => (centries_any _ es W (hv2.next b) hes hed).mono fun e w' ⟨v', he, ho, hb⟩ => by
    obtain ⟨ad4, cap4, rfl⟩ := ho.form
    exact ⟨ad4, cap4, he, ho, hb⟩
  have NG := hid (fun W => ngather_any W)
  have WA : Hid (∀ W nb n, NdI W w.heap.size nb n s.ms es → Calls Tryz.prog 22 #[.pointer (some ⟨nb, 0, none⟩)] W fun e w' => e = .returned (.tuple #[]) ∧ NdG W w.heap.size nb n w' (ndWa n) s.ms es) := fun W nb n h => nwait_any h
  have R0 : Hid (RowIs (w.alloc (.cells #[.int .i64 s.ix, .int .i64 s.tm, .slice ad s.ms.length cap, .string s.da] 28)) w.heap.size [.int .i64 s.ix, .int .i64 s.tm, .slice ad s.ms.length cap, .string s.da] 28) := srow w _ _
  have B0 : Hid (Below w.heap.size w (w.alloc (.cells #[.int .i64 s.ix, .int .i64 s.tm, .slice ad s.ms.length cap, .string s.da] 28))) := below_al (Below.refl _ _) _
  have d1 : decide (tm < s.tm) = false := decide_eq_false (by omega)
  have d2 : decide (tm > 1099511627776) = false := decide_eq_false (by omega)
  have hnd : Hid (∀ bm lg ga, ndN me tm vt s dr bm lg ga = ⟨me, tm, vt, s.ix, s.tm, bm, s.da, lg, s.ix, 0, -1, dr, 0, 0, 0, ga, 0, 0, .slice none 0 0, ⟨#[]⟩, false, vs0, 0, 0, ps0⟩) := fun _ _ _ => rfl
  clear hv hv2 hes hed h0 h1 h2 h4 h5 hck
  obtain ⟨ix, st, ms, da⟩ := s
  unfold shV at *
  simp only at *
  rcases h3 with rfl | h3
  · clear IV
    go_enter Tryz.func6, Tryz.ntmps6
    have y1 := R0.out.cellAt (o := 1) rfl
    have y0 := R0.out.cellAt (o := 0) rfl
    have y2 := R0.out.cellAt (o := 2) rfl
    have y3 := R0.out.cellAt (o := 3) rfl
    go_wp2_with fail
    refine (IN.out _).mono ?_
    rintro e w1 ⟨rfl, rfl⟩
    clear IN
    go_wp2_with fail
    refine (CK.out _ B0.out).mono ?_
    rintro e w1 ⟨rfl, b1⟩
    have B1 := hid (below_on B0.out b1)
    have R1 := hid (R0.out.keep (b1.keep (fun _ => False)) (fun h => h))
    clear CK b1 B0 R0 y0 y1 y2 y3
    have y1 := R1.out.cellAt (o := 1) rfl
    go_wp2_with fail
    refine (AE.out _ B1.out).mono ?_
    rintro e w2 ⟨rfl, b2⟩
    have B2 := hid (below_on B1.out b2)
    have R2 := hid (R1.out.keep (b2.keep (fun _ => False)) (fun h => h))
    clear AE b2 B1 R1 y1
    have Z0 : RowIs w2 w.heap.size [.int .i64 ix, .int .i64 st, .slice ad ms.length cap, .string da] 28 := R2.out
    have y0 := Z0.cellAt (o := 0) rfl
    have y1 := Z0.cellAt (o := 1) rfl
    have y2 := Z0.cellAt (o := 2) rfl
    have y3 := Z0.cellAt (o := 3) rfl
    clear Z0
    go_wp2
    have CS : Hid (∀ W, RowIs W w.heap.size [.int .i64 ix, .int .i64 st, .slice ad ms.length cap, .string da] 28 → W.cell? ⟨w.heap.size, 0, none⟩ = some (.int .i64 ix) ∧ W.cell? ⟨w.heap.size, 1, none⟩ = some (.int .i64 st) ∧ W.cell? ⟨w.heap.size, 2, none⟩ = some (.slice ad ms.length cap) ∧ W.cell? ⟨w.heap.size, 3, none⟩ = some (.string da)) := fun W h => ⟨h.cellAt rfl, h.cellAt rfl, h.cellAt rfl, h.cellAt rfl⟩
    have B3 := hid B2.out.drew
    have R3 : Hid (RowIs w2.drew w.heap.size [.int .i64 ix, .int .i64 st, .slice ad ms.length cap, .string da] 28) := R2.out
    clear B2 R2
    refine wp_region_held_drew (S := fun W => W.cell? ⟨w.heap.size, 0, none⟩ = some (.int .i64 ix) ∧ W.cell? ⟨w.heap.size, 1, none⟩ = some (.int .i64 st) ∧ W.cell? ⟨w.heap.size, 2, none⟩ = some (.slice ad ms.length cap) ∧ W.cell? ⟨w.heap.size, 3, none⟩ = some (.string da)) (by kernel_rfl) ⟨y0, y1, y2, y3⟩ (fun hHeld => ?_)
    generalize w2.drew = V at *
    refine wpAnyH_take (i := 0) (v := ?vv1) rfl (by kernel_rfl) (by kernel_rfl) (by kernel_rfl) (fun _ _ _ h => h) (Or.inl ⟨by rfl, ?hy1⟩) (by assumption) ?rest1
    case hy1 => (intro w hSw; (try dsimp only at hSw); go_simp; first | done | with_reducible rfl)
    try simp only [Act.put, List.getElem_toArray, List.getElem_cons_succ, List.getElem_cons_zero, List.setIfInBounds_toArray, List.set_cons_zero, List.set_cons_succ]
    refine wpAnyH_take (i := 1) (v := ?vv2) rfl (by kernel_rfl) (by kernel_rfl) (by kernel_rfl) (fun _ _ _ h => h) (Or.inl ⟨by rfl, ?hy2⟩) (by assumption) ?rest2
    case hy2 => (intro w hSw; (try dsimp only at hSw); go_simp; first | done | with_reducible rfl)
    try simp only [Act.put, List.getElem_toArray, List.getElem_cons_succ, List.getElem_cons_zero, List.setIfInBounds_toArray, List.set_cons_zero, List.set_cons_succ]
    refine wpAnyH_take (i := 2) (v := ?vv3) rfl (by kernel_rfl) (by kernel_rfl) (by kernel_rfl) (fun _ _ _ h => h) (Or.inl ⟨by rfl, ?hy3⟩) (by assumption) ?rest3
    case hy3 => (intro w hSw; (try dsimp only at hSw); go_simp; first | done | with_reducible rfl)
    try simp only [Act.put, List.getElem_toArray, List.getElem_cons_succ, List.getElem_cons_zero, List.setIfInBounds_toArray, List.set_cons_zero, List.set_cons_succ]
    refine wpAnyH_take (i := 3) (v := ?vv4) rfl (by kernel_rfl) (by kernel_rfl) (by kernel_rfl) (fun _ _ _ h => h) (Or.inl ⟨by rfl, ?hy4⟩) (by assumption) ?rest4
    case hy4 => (intro w hSw; (try dsimp only at hSw); go_simp; first | done | with_reducible rfl)
    try simp only [Act.put, List.getElem_toArray, List.getElem_cons_succ, List.getElem_cons_zero, List.setIfInBounds_toArray, List.set_cons_zero, List.set_cons_succ]
    refine wpAnyH_take (i := 5) (v := ?vv5) rfl (by kernel_rfl) (by kernel_rfl) (by kernel_rfl) (fun _ _ _ h => h) (Or.inl ⟨by rfl, ?hy5⟩) (by assumption) ?rest5
    case hy5 => (intro w hSw; (try dsimp only at hSw); go_simp; first | done | with_reducible rfl)
    try simp only [Act.put, List.getElem_toArray, List.getElem_cons_succ, List.getElem_cons_zero, List.setIfInBounds_toArray, List.set_cons_zero, List.set_cons_succ]
    refine wpAnyH_take (i := 7) (v := ?vv6) rfl (by kernel_rfl) (by kernel_rfl) (by kernel_rfl) (fun _ _ _ h => h) (Or.inl ⟨by rfl, ?hy6⟩) (by assumption) ?rest6
    case hy6 => (intro w hSw; (try dsimp only at hSw); go_simp; first | done | with_reducible rfl)
    try simp only [Act.put, List.getElem_toArray, List.getElem_cons_succ, List.getElem_cons_zero, List.setIfInBounds_toArray, List.set_cons_zero, List.set_cons_succ]
    refine wpAnyH_take (i := 8) (v := ?vv7) rfl (by kernel_rfl) (by kernel_rfl) (by kernel_rfl) (fun _ _ _ h => h) (Or.inl ⟨by rfl, ?hy7⟩) (by assumption) ?rest7
    case hy7 => (intro w hSw; (try dsimp only at hSw); go_simp; first | done | with_reducible rfl)
    try simp only [Act.put, List.getElem_toArray, List.getElem_cons_succ, List.getElem_cons_zero, List.setIfInBounds_toArray, List.set_cons_zero, List.set_cons_succ]
    refine wpAnyH_take (i := 9) (v := ?vv8) rfl (by kernel_rfl) (by kernel_rfl) (by kernel_rfl) (fun _ _ _ h => h) (Or.inl ⟨by rfl, ?hy8⟩) (by assumption) ?rest8
    case hy8 => (intro w hSw; (try dsimp only at hSw); go_simp; first | done | with_reducible rfl)
    try simp only [Act.put, List.getElem_toArray, List.getElem_cons_succ, List.getElem_cons_zero, List.setIfInBounds_toArray, List.set_cons_zero, List.set_cons_succ]
    refine wpAnyH_ready (rs := [4]) (by kernel_rfl) (by simp) ?_
    refine AllReadyH.cons rfl (fun K hK => ?_) AllReadyH.nil
    go_simp
    refine (CP.out _ B3.out).mono ?_
    rintro e w3 ⟨ad3, cap3, rfl, o3, b3⟩
    have B4 := hid (below_on B3.out b3)
    have O3 := hid (ownsRow_base o3 (B3.out.size))
    have R4 := hid (R3.out.keep (b3.keep (fun _ => False)) (fun h => h))
    clear CP o3 b3 B3 R3 hHeld
    go_wp2_with fail
    refine hK.out _ _ (CS.out _ R4.out) (fun hHeld => ?_)
    clear hK K
    try simp only [Act.put, List.getElem_toArray, List.getElem_cons_succ, List.getElem_cons_zero, List.setIfInBounds_toArray, List.set_cons_zero, List.set_cons_succ]
    refine wpAnyH_ready (rs := [6]) (by kernel_rfl) (by simp) ?_
    refine AllReadyH.cons rfl (fun K hK => ?_) AllReadyH.nil
    go_simp
    refine (CE.out _ B4.out).mono ?_
    rintro e w4 ⟨ad4, cap4, rfl, o4, b4⟩
    have B5 := hid (below_on B4.out b4)
    have O4 := hid (ownsRow_base o4 (B4.out.size))
    have O5 := hid ((b4.keep (fun _ => False)).ownsRow O3.out (fun _ _ h => h))
    have R5 := hid (R4.out.keep (b4.keep (fun _ => False)) (fun h => h))
    clear CE o4 b4 B4 R4 O3 hHeld
    go_wp2_with fail
    refine hK.out _ _ (CS.out _ R5.out) (fun hHeld => ?_)
    clear hK K
    try simp only [Act.put, List.getElem_toArray, List.getElem_cons_succ, List.getElem_cons_zero, List.setIfInBounds_toArray, List.set_cons_zero, List.set_cons_succ]
    refine wpAnyH_ready (rs := [10]) (by kernel_rfl) (by simp) ?_
    refine AllReadyH.cons rfl (fun K hK => ?_) AllReadyH.nil
    go_simp
    refine (NG.out _).mono ?_
    rintro e w5 ⟨rfl, b5⟩
    have B6 := hid (below_on B5.out b5)
    have O6 := hid ((b5.keep (fun _ => False)).ownsRow O4.out (fun _ _ h => h))
    have O7 := hid ((b5.keep (fun _ => False)).ownsRow O5.out (fun _ _ h => h))
    have R6 := hid (R5.out.keep (b5.keep (fun _ => False)) (fun h => h))
    clear NG b5 B5 R5 O4 O5 hHeld
    go_wp2_with fail
    refine hK.out _ _ (CS.out _ R6.out) (fun hHeld => ?_)
    clear hK K
    try simp only [Act.put, List.getElem_toArray, List.getElem_cons_succ, List.getElem_cons_zero, List.setIfInBounds_toArray, List.set_cons_zero, List.set_cons_succ]
    refine wpAnyH_take (i := 11) (v := ?vv9) rfl (by kernel_rfl) (by kernel_rfl) (by kernel_rfl) (fun _ _ _ h => h) (Or.inl ⟨by rfl, ?hy9⟩) (by assumption) ?rest9
    case hy9 => (intro w hSw; (try dsimp only at hSw); go_simp; first | done | with_reducible rfl)
    try simp only [Act.put, List.getElem_toArray, List.getElem_cons_succ, List.getElem_cons_zero, List.setIfInBounds_toArray, List.set_cons_zero, List.set_cons_succ]
    refine wpAnyH_ready (rs := [12]) (by kernel_rfl) (by simp) ?_
    refine AllReadyH.cons rfl (fun K hK => ?_) AllReadyH.nil
    have NI : Hid (NdI (w5.alloc (.cells ((ndN me tm (-1) ⟨ix, st, ms, da⟩ dr (.slice ad3 ms.length cap3) (.slice ad4 es.length cap4) (.pointer (some ⟨w4.heap.size, 0, none⟩))).c).toArray 68)) w.heap.size w5.heap.size (ndN me tm (-1) ⟨ix, st, ms, da⟩ dr (.slice ad3 ms.length cap3) (.slice ad4 es.length cap4) (.pointer (some ⟨w4.heap.size, 0, none⟩))) ms es) := ⟨srow w5 _ _, B6.out.size, (keep_alloc (fun _ => False) w5 _).ownsRow O7.out (fun _ _ h => h), (keep_alloc (fun _ => False) w5 _).ownsRow O6.out (fun _ _ h => h)⟩
    have B7 : Hid (Below w.heap.size w (w5.alloc (.cells ((ndN me tm (-1) ⟨ix, st, ms, da⟩ dr (.slice ad3 ms.length cap3) (.slice ad4 es.length cap4) (.pointer (some ⟨w4.heap.size, 0, none⟩))).c).toArray 68))) := below_al B6.out _
    have R7 := hid (CS.out _ (row_old R6.out (.cells ((ndN me tm (-1) ⟨ix, st, ms, da⟩ dr (.slice ad3 ms.length cap3) (.slice ad4 es.length cap4) (.pointer (some ⟨w4.heap.size, 0, none⟩))).c).toArray 68)))
    have WA2 := hid (WA.out _ _ _ NI.out)
    clear WA B6 O6 O7 R6
    go_simp
    rw [ndN_arr me tm (-1) ⟨ix, st, ms, da⟩ dr (.slice ad3 ms.length cap3) (.slice ad4 es.length cap4) (.pointer (some ⟨w4.heap.size, 0, none⟩))]
    refine hK.out _ _ R7.out (fun hHeld => ?_)
    clear hK K
    try simp only [Act.put, List.getElem_toArray, List.getElem_cons_succ, List.getElem_cons_zero, List.setIfInBounds_toArray, List.set_cons_zero, List.set_cons_succ]
    refine wpAnyH_take (i := 13) (v := ?vv10) rfl (by kernel_rfl) (by kernel_rfl) (by kernel_rfl) (fun _ _ _ h => h) (Or.inl ⟨by rfl, ?hy10⟩) (by assumption) ?rest10
    case hy10 => (intro w hSw; (try dsimp only at hSw); go_simp; first | done | with_reducible rfl)
    try simp only [Act.put, List.getElem_toArray, List.getElem_cons_succ, List.getElem_cons_zero, List.setIfInBounds_toArray, List.set_cons_zero, List.set_cons_succ]
    refine wpAnyH_done (by kernel_rfl) ?_ _
    clear hHeld y0 y1 y2 y3
    go_wp2_with fail
    refine WA2.out.mono ?_
    rintro e w6 ⟨rfl, g6⟩
    have B8 := hid (B7.out.trans (NI.out.bel g6 (Nat.le_refl _)))
    have G6 := hid g6.nd
    clear WA2 g6 B7 NI
    go_wp2
    go_ret2
    exact ⟨_, _, _, _, rfl, G6.out, B8.out⟩
  · have IV2 := hid (IV.out h3)
    clear IV
    have hn1 : ¬ vt = -1 := fun e => by rw [e] at h3; exact absurd h3 (by decide)
    have d3 : (vt != -1) = true := by simp [hn1]
    have d4 : decide (vt = -1) = false := decide_eq_false hn1
    clear h3 hn1
    go_enter Tryz.func6, Tryz.ntmps6
    have y1 := R0.out.cellAt (o := 1) rfl
    have y0 := R0.out.cellAt (o := 0) rfl
    have y2 := R0.out.cellAt (o := 2) rfl
    have y3 := R0.out.cellAt (o := 3) rfl
    go_wp2_with fail
    refine (IN.out _).mono ?_
    rintro e w1 ⟨rfl, rfl⟩
    clear IN
    go_wp2_with fail
    refine (IV2.out _).mono ?_
    rintro e w1 ⟨rfl, rfl⟩
    clear IV2
    go_wp2_with fail
    refine (CK.out _ B0.out).mono ?_
    rintro e w1 ⟨rfl, b1⟩
    have B1 := hid (below_on B0.out b1)
    have R1 := hid (R0.out.keep (b1.keep (fun _ => False)) (fun h => h))
    clear CK b1 B0 R0 y0 y1 y2 y3
    have y1 := R1.out.cellAt (o := 1) rfl
    go_wp2_with fail
    refine (AE.out _ B1.out).mono ?_
    rintro e w2 ⟨rfl, b2⟩
    have B2 := hid (below_on B1.out b2)
    have R2 := hid (R1.out.keep (b2.keep (fun _ => False)) (fun h => h))
    clear AE b2 B1 R1 y1
    have Z0 : RowIs w2 w.heap.size [.int .i64 ix, .int .i64 st, .slice ad ms.length cap, .string da] 28 := R2.out
    have y0 := Z0.cellAt (o := 0) rfl
    have y1 := Z0.cellAt (o := 1) rfl
    have y2 := Z0.cellAt (o := 2) rfl
    have y3 := Z0.cellAt (o := 3) rfl
    clear Z0
    go_wp2
    have CS : Hid (∀ W, RowIs W w.heap.size [.int .i64 ix, .int .i64 st, .slice ad ms.length cap, .string da] 28 → W.cell? ⟨w.heap.size, 0, none⟩ = some (.int .i64 ix) ∧ W.cell? ⟨w.heap.size, 1, none⟩ = some (.int .i64 st) ∧ W.cell? ⟨w.heap.size, 2, none⟩ = some (.slice ad ms.length cap) ∧ W.cell? ⟨w.heap.size, 3, none⟩ = some (.string da)) := fun W h => ⟨h.cellAt rfl, h.cellAt rfl, h.cellAt rfl, h.cellAt rfl⟩
    have B3 := hid B2.out.drew
    have R3 : Hid (RowIs w2.drew w.heap.size [.int .i64 ix, .int .i64 st, .slice ad ms.length cap, .string da] 28) := R2.out
    clear B2 R2
    refine wp_region_held_drew (S := fun W => W.cell? ⟨w.heap.size, 0, none⟩ = some (.int .i64 ix) ∧ W.cell? ⟨w.heap.size, 1, none⟩ = some (.int .i64 st) ∧ W.cell? ⟨w.heap.size, 2, none⟩ = some (.slice ad ms.length cap) ∧ W.cell? ⟨w.heap.size, 3, none⟩ = some (.string da)) (by kernel_rfl) ⟨y0, y1, y2, y3⟩ (fun hHeld => ?_)
    generalize w2.drew = V at *
    refine wpAnyH_take (i := 0) (v := ?vv11) rfl (by kernel_rfl) (by kernel_rfl) (by kernel_rfl) (fun _ _ _ h => h) (Or.inl ⟨by rfl, ?hy11⟩) (by assumption) ?rest11
    case hy11 => (intro w hSw; (try dsimp only at hSw); go_simp; first | done | with_reducible rfl)
    try simp only [Act.put, List.getElem_toArray, List.getElem_cons_succ, List.getElem_cons_zero, List.setIfInBounds_toArray, List.set_cons_zero, List.set_cons_succ]
    refine wpAnyH_take (i := 1) (v := ?vv12) rfl (by kernel_rfl) (by kernel_rfl) (by kernel_rfl) (fun _ _ _ h => h) (Or.inl ⟨by rfl, ?hy12⟩) (by assumption) ?rest12
    case hy12 => (intro w hSw; (try dsimp only at hSw); go_simp; first | done | with_reducible rfl)
    try simp only [Act.put, List.getElem_toArray, List.getElem_cons_succ, List.getElem_cons_zero, List.setIfInBounds_toArray, List.set_cons_zero, List.set_cons_succ]
    refine wpAnyH_take (i := 2) (v := ?vv13) rfl (by kernel_rfl) (by kernel_rfl) (by kernel_rfl) (fun _ _ _ h => h) (Or.inl ⟨by rfl, ?hy13⟩) (by assumption) ?rest13
    case hy13 => (intro w hSw; (try dsimp only at hSw); go_simp; first | done | with_reducible rfl)
    try simp only [Act.put, List.getElem_toArray, List.getElem_cons_succ, List.getElem_cons_zero, List.setIfInBounds_toArray, List.set_cons_zero, List.set_cons_succ]
    refine wpAnyH_take (i := 3) (v := ?vv14) rfl (by kernel_rfl) (by kernel_rfl) (by kernel_rfl) (fun _ _ _ h => h) (Or.inl ⟨by rfl, ?hy14⟩) (by assumption) ?rest14
    case hy14 => (intro w hSw; (try dsimp only at hSw); go_simp; first | done | with_reducible rfl)
    try simp only [Act.put, List.getElem_toArray, List.getElem_cons_succ, List.getElem_cons_zero, List.setIfInBounds_toArray, List.set_cons_zero, List.set_cons_succ]
    refine wpAnyH_take (i := 5) (v := ?vv15) rfl (by kernel_rfl) (by kernel_rfl) (by kernel_rfl) (fun _ _ _ h => h) (Or.inl ⟨by rfl, ?hy15⟩) (by assumption) ?rest15
    case hy15 => (intro w hSw; (try dsimp only at hSw); go_simp; first | done | with_reducible rfl)
    try simp only [Act.put, List.getElem_toArray, List.getElem_cons_succ, List.getElem_cons_zero, List.setIfInBounds_toArray, List.set_cons_zero, List.set_cons_succ]
    refine wpAnyH_take (i := 7) (v := ?vv16) rfl (by kernel_rfl) (by kernel_rfl) (by kernel_rfl) (fun _ _ _ h => h) (Or.inl ⟨by rfl, ?hy16⟩) (by assumption) ?rest16
    case hy16 => (intro w hSw; (try dsimp only at hSw); go_simp; first | done | with_reducible rfl)
    try simp only [Act.put, List.getElem_toArray, List.getElem_cons_succ, List.getElem_cons_zero, List.setIfInBounds_toArray, List.set_cons_zero, List.set_cons_succ]
    refine wpAnyH_take (i := 8) (v := ?vv17) rfl (by kernel_rfl) (by kernel_rfl) (by kernel_rfl) (fun _ _ _ h => h) (Or.inl ⟨by rfl, ?hy17⟩) (by assumption) ?rest17
    case hy17 => (intro w hSw; (try dsimp only at hSw); go_simp; first | done | with_reducible rfl)
    try simp only [Act.put, List.getElem_toArray, List.getElem_cons_succ, List.getElem_cons_zero, List.setIfInBounds_toArray, List.set_cons_zero, List.set_cons_succ]
    refine wpAnyH_take (i := 9) (v := ?vv18) rfl (by kernel_rfl) (by kernel_rfl) (by kernel_rfl) (fun _ _ _ h => h) (Or.inl ⟨by rfl, ?hy18⟩) (by assumption) ?rest18
    case hy18 => (intro w hSw; (try dsimp only at hSw); go_simp; first | done | with_reducible rfl)
    try simp only [Act.put, List.getElem_toArray, List.getElem_cons_succ, List.getElem_cons_zero, List.setIfInBounds_toArray, List.set_cons_zero, List.set_cons_succ]
    refine wpAnyH_ready (rs := [4]) (by kernel_rfl) (by simp) ?_
    refine AllReadyH.cons rfl (fun K hK => ?_) AllReadyH.nil
    go_simp
    refine (CP.out _ B3.out).mono ?_
    rintro e w3 ⟨ad3, cap3, rfl, o3, b3⟩
    have B4 := hid (below_on B3.out b3)
    have O3 := hid (ownsRow_base o3 (B3.out.size))
    have R4 := hid (R3.out.keep (b3.keep (fun _ => False)) (fun h => h))
    clear CP o3 b3 B3 R3 hHeld
    go_wp2_with fail
    refine hK.out _ _ (CS.out _ R4.out) (fun hHeld => ?_)
    clear hK K
    try simp only [Act.put, List.getElem_toArray, List.getElem_cons_succ, List.getElem_cons_zero, List.setIfInBounds_toArray, List.set_cons_zero, List.set_cons_succ]
    refine wpAnyH_ready (rs := [6]) (by kernel_rfl) (by simp) ?_
    refine AllReadyH.cons rfl (fun K hK => ?_) AllReadyH.nil
    go_simp
    refine (CE.out _ B4.out).mono ?_
    rintro e w4 ⟨ad4, cap4, rfl, o4, b4⟩
    have B5 := hid (below_on B4.out b4)
    have O4 := hid (ownsRow_base o4 (B4.out.size))
    have O5 := hid ((b4.keep (fun _ => False)).ownsRow O3.out (fun _ _ h => h))
    have R5 := hid (R4.out.keep (b4.keep (fun _ => False)) (fun h => h))
    clear CE o4 b4 B4 R4 O3 hHeld
    go_wp2_with fail
    refine hK.out _ _ (CS.out _ R5.out) (fun hHeld => ?_)
    clear hK K
    try simp only [Act.put, List.getElem_toArray, List.getElem_cons_succ, List.getElem_cons_zero, List.setIfInBounds_toArray, List.set_cons_zero, List.set_cons_succ]
    refine wpAnyH_ready (rs := [10]) (by kernel_rfl) (by simp) ?_
    refine AllReadyH.cons rfl (fun K hK => ?_) AllReadyH.nil
    go_simp
    refine (NG.out _).mono ?_
    rintro e w5 ⟨rfl, b5⟩
    have B6 := hid (below_on B5.out b5)
    have O6 := hid ((b5.keep (fun _ => False)).ownsRow O4.out (fun _ _ h => h))
    have O7 := hid ((b5.keep (fun _ => False)).ownsRow O5.out (fun _ _ h => h))
    have R6 := hid (R5.out.keep (b5.keep (fun _ => False)) (fun h => h))
    clear NG b5 B5 R5 O4 O5 hHeld
    go_wp2_with fail
    refine hK.out _ _ (CS.out _ R6.out) (fun hHeld => ?_)
    clear hK K
    try simp only [Act.put, List.getElem_toArray, List.getElem_cons_succ, List.getElem_cons_zero, List.setIfInBounds_toArray, List.set_cons_zero, List.set_cons_succ]
    refine wpAnyH_take (i := 11) (v := ?vv19) rfl (by kernel_rfl) (by kernel_rfl) (by kernel_rfl) (fun _ _ _ h => h) (Or.inl ⟨by rfl, ?hy19⟩) (by assumption) ?rest19
    case hy19 => (intro w hSw; (try dsimp only at hSw); go_simp; first | done | with_reducible rfl)
    try simp only [Act.put, List.getElem_toArray, List.getElem_cons_succ, List.getElem_cons_zero, List.setIfInBounds_toArray, List.set_cons_zero, List.set_cons_succ]
    refine wpAnyH_ready (rs := [12]) (by kernel_rfl) (by simp) ?_
    refine AllReadyH.cons rfl (fun K hK => ?_) AllReadyH.nil
    have NI : Hid (NdI (w5.alloc (.cells ((ndN me tm vt ⟨ix, st, ms, da⟩ dr (.slice ad3 ms.length cap3) (.slice ad4 es.length cap4) (.pointer (some ⟨w4.heap.size, 0, none⟩))).c).toArray 68)) w.heap.size w5.heap.size (ndN me tm vt ⟨ix, st, ms, da⟩ dr (.slice ad3 ms.length cap3) (.slice ad4 es.length cap4) (.pointer (some ⟨w4.heap.size, 0, none⟩))) ms es) := ⟨srow w5 _ _, B6.out.size, (keep_alloc (fun _ => False) w5 _).ownsRow O7.out (fun _ _ h => h), (keep_alloc (fun _ => False) w5 _).ownsRow O6.out (fun _ _ h => h)⟩
    have B7 : Hid (Below w.heap.size w (w5.alloc (.cells ((ndN me tm vt ⟨ix, st, ms, da⟩ dr (.slice ad3 ms.length cap3) (.slice ad4 es.length cap4) (.pointer (some ⟨w4.heap.size, 0, none⟩))).c).toArray 68))) := below_al B6.out _
    have R7 := hid (CS.out _ (row_old R6.out (.cells ((ndN me tm vt ⟨ix, st, ms, da⟩ dr (.slice ad3 ms.length cap3) (.slice ad4 es.length cap4) (.pointer (some ⟨w4.heap.size, 0, none⟩))).c).toArray 68)))
    have WA2 := hid (WA.out _ _ _ NI.out)
    clear WA B6 O6 O7 R6
    go_simp
    rw [ndN_arr me tm vt ⟨ix, st, ms, da⟩ dr (.slice ad3 ms.length cap3) (.slice ad4 es.length cap4) (.pointer (some ⟨w4.heap.size, 0, none⟩))]
    refine hK.out _ _ R7.out (fun hHeld => ?_)
    clear hK K
    try simp only [Act.put, List.getElem_toArray, List.getElem_cons_succ, List.getElem_cons_zero, List.setIfInBounds_toArray, List.set_cons_zero, List.set_cons_succ]
    refine wpAnyH_take (i := 13) (v := ?vv20) rfl (by kernel_rfl) (by kernel_rfl) (by kernel_rfl) (fun _ _ _ h => h) (Or.inl ⟨by rfl, ?hy20⟩) (by assumption) ?rest20
    case hy20 => (intro w hSw; (try dsimp only at hSw); go_simp; first | done | with_reducible rfl)
    try simp only [Act.put, List.getElem_toArray, List.getElem_cons_succ, List.getElem_cons_zero, List.setIfInBounds_toArray, List.set_cons_zero, List.set_cons_succ]
    refine wpAnyH_done (by kernel_rfl) ?_ _
    clear hHeld y0 y1 y2 y3
    go_wp2_with fail
    refine WA2.out.mono ?_
    rintro e w6 ⟨rfl, g6⟩
    have B8 := hid (B7.out.trans (NI.out.bel g6 (Nat.le_refl _)))
    have G6 := hid g6.nd
    clear WA2 g6 B7 NI
    go_wp2
    go_ret2
    exact ⟨_, _, _, _, rfl, G6.out, B8.out⟩
end Go.Proofs.YtnldjcoajliciaaGreat
namespace Go.Proofs.YtnldjcoajliciaaGreat
open Go.RowKit Go.Maps
set_option linter.unusedVariables false
set_option linter.unusedSimpArgs false

section
variable {w w1 : World} {B nb : Nat} {n : Nd} {ms : List Int} {es : List En}
set_option maxRecDepth 100000 in
set_option maxHeartbeats 1000000 in
theorem chosen1_any (b nb k : Nat) (x : Bool) (W : World) (hk : k < 7) (hb : W.cell? ⟨b, 0, none⟩ = some (.pointer (some ⟨nb, 0, none⟩))) (hx : W.cell? ⟨nb, 21 + k, none⟩ = some (.bool x)) :
    Calls Tryz.prog 73 #[.int .i64 (k : Int), .pointer (some ⟨b, 0, none⟩)] W fun e w' => e = .returned (.bool x) ∧ Below W.heap.size W w' := by
  have r0 : (0 : Int) ≤ (k : Int) := by omega
  have r1 : (k : Int) < 7 := by omega
  clear hk
  go_enter Tryz.func73, Tryz.ntmps73
  go_wp2
  go_ret
  exact ⟨rfl, Below.refl _ _⟩
set_option maxRecDepth 100000 in
set_option maxHeartbeats 1000000 in
theorem nchosen_any (h : NdI w B nb n ms es) (hne : ms ≠ []) (hm : ms.length ≤ 17592186044416) (hl : es.length ≤ 17592186044416) (hd : ∀ x ∈ es, x.da.size ≤ 140737488355328) (hq : (mbL ms es).length ≤ 4611686018427387904) (vs : List Bool) (hv : n.vs = vs.map Value.bool) (h7 : vs.length = 7) :
    Calls Tryz.prog 52 #[.pointer (some ⟨nb, 0, none⟩)] w fun e w' => e = .returned (.bool (engC (mbL ms es) ((nodesF 7 0).filter (fun k => vs.getD k.toNat false)))) ∧ Below w.heap.size w w' := by
  obtain ⟨W0, hW0⟩ : ∃ W0, W0 = w.alloc (.cells #[.pointer (some ⟨nb, 0, none⟩)] 29) := ⟨_, rfl⟩
  have b0 : Below w.heap.size w W0 := by rw [hW0]; exact below_al (Below.refl _ _) _
  have r0 : RowIs W0 w.heap.size [.pointer (some ⟨nb, 0, none⟩)] 29 := by rw [hW0]; exact srow w _ _
  have EN := hid (nenough_chosen (h.next b0) hne hm hl hd hq w.heap.size (fun k => vs.getD k.toNat false) (fun k W hk hW => by
    have h2 := h.next (b0.trans (hW.mono b0.size))
    refine chosen1_any w.heap.size nb k _ W hk ((r0.keep (hW.keep (fun _ => False)) (fun h => h)).cellAt rfl) ?_
    have hj : k < n.vs.length := by rw [hv, List.length_map, h7]; exact hk
    rw [h2.bx.cellAt (Nd.g_vs n k hj)]
    congr 1
    simp only [hv, List.getElem_map]
    rw [List.getD_eq_getElem?_getD, Int.toNat_natCast, List.getElem?_eq_getElem (by omega)]
    rfl))
  have B0 := hid b0
  have y0 := r0.cellAt (o := 0) rfl
  clear h hne hm hl hd hq hv h7 b0 r0
  generalize engC (mbL ms es) ((nodesF 7 0).filter (fun k => vs.getD k.toNat false)) = R at *
  go_enter Tryz.func52, Tryz.ntmps52
  go_wp2_with fail
  rw [← hW0]
  refine EN.out.mono ?_
  rintro e w1 ⟨rfl, b1⟩
  have B1 := hid (below_on B0.out b1)
  clear EN b1 hW0 B0 y0
  go_wp2
  go_ret
  exact ⟨rfl, B1.out⟩
/-- a node that stands: its state ahead of counting its own vote -/
def ndSt (n : Nd) (t : Int) : Nd := { n with tm := t, vt := 0, rl := 1, ld := -1, wd := 0, wt := wtD n.dr, vs := (.bool true) :: List.replicate 6 (.bool false) }
set_option maxRecDepth 100000 in
set_option maxHeartbeats 4000000 in
theorem nstand_of (h : NdI w B nb n ms es) (h7 : n.vs.length = 7) (hme : n.me = 0) (hrl : n.rl = 0) (t : Int) (ht : t = n.tm + 1) (ht0 : 0 ≤ t) (ht1 : t ≤ 1099511627776) (n2 : Value → Nd) (es2 : List En)
    (hC : ∀ W, NdG w B nb n W (ndSt n t) ms es → Calls Tryz.prog 52 #[.pointer (some ⟨nb, 0, none⟩)] W fun e w' => e = .returned (.bool true) ∧ Below W.heap.size W w')
    (hL : ∀ W, NdG w B nb n W (ndSt n t) ms es → Calls Tryz.prog 53 #[.pointer (some ⟨nb, 0, none⟩)] W fun e w' => e = .returned (.slice none 0 0) ∧ ∃ lg', NdG w B nb n w' (n2 lg') ms es2) :
    Calls Tryz.prog 35 #[.pointer (some ⟨nb, 0, none⟩)] w fun e w' => e = .returned (.slice none 0 0) ∧ ∃ lg', NdG w B nb n w' (n2 lg') ms es2 := by
  have HC := hid hC
  have HL := hid hL
  have hb0 : Below w.heap.size w (w.alloc (.cells #[.pointer (some ⟨nb, 0, none⟩)] 29)) := below_al (Below.refl _ _) _
  have HG0 : Hid (NdG w B nb n (w.alloc (.cells #[.pointer (some ⟨nb, 0, none⟩)] 29)) n ms es) := (NdG.refl h).next hb0
  have HR0 : Hid (RowIs (w.alloc (.cells #[.pointer (some ⟨nb, 0, none⟩)] 29)) w.heap.size [.pointer (some ⟨nb, 0, none⟩)] 29) := srow w _ _
  /- the box stays where calls turn the node alone -/
  have KR : Hid (∀ {W W' : World} {n1 n2 : Nd} {e1 e2 : List En}, NdG w B nb n W n1 ms e1 → NdG W B nb n1 W' n2 ms e2 → RowIs W w.heap.size [.pointer (some ⟨nb, 0, none⟩)] 29 → RowIs W' w.heap.size [.pointer (some ⟨nb, 0, none⟩)] 29) := fun {W W' n1 n2 e1 e2} g g2 r => r.keep g2.kp (fun e => by
    rcases e with e | e | e
    · have := h.lt; omega
    · exact own_ne_row g.nd.mi r (by decide) e
    · exact own_ne_row g.nd.lo r (by decide) e)
  have RI : Hid (∀ W, NdI W B nb n ms es → Calls Tryz.prog 25 #[.pointer (some ⟨nb, 0, none⟩), .int .i64 t] W fun e w' => e = .returned (.tuple #[]) ∧ NdG W B nb n w' { n with tm := t, vt := -1, rl := 0, ld := -1 } ms es) := fun W g => (nrise_any g t).mono fun e w' ⟨he, g2⟩ => ⟨he, by
    unfold ndRi ndFo at g2
    rw [if_pos (show ({ n with tm := t, vt := -1 } : Nd).rl = 0 from hrl)] at g2
    exact g2⟩
  have VO : Hid (∀ W, NdI W B nb { n with tm := t, vt := -1, rl := 1, ld := -1 } ms es → Calls Tryz.prog 49 #[.pointer (some ⟨nb, 0, none⟩), .int .i64 0] W fun e w' => e = .returned (.tuple #[]) ∧ NdG W B nb { n with tm := t, vt := -1, rl := 1, ld := -1 } w' { n with tm := t, vt := 0, rl := 1, ld := -1, wd := 0, wt := wtD n.dr } ms es) := fun W g => nvote_any g 0
  have htw : wrap64 (n.tm + 1) = t := by rw [← ht]; exact IntWalk.wrap64_in _ (by omega)
  have htw2 : IntKind.i64.wrap (n.tm + 1) = t := by rw [IntKind.wrap_i64]; omega
  have F1 : Hid (∀ W, NdI W B nb n ms es → W.cell? ⟨nb, 1, none⟩ = some (.int .i64 n.tm)) := fun W g => g.bx.cellAt rfl
  have F2 : Hid (∀ W, NdG w B nb n W { n with tm := t, vt := -1, rl := 0, ld := -1 } ms es → W.cell? ⟨nb, 9, none⟩ = some (.int .i64 0) ∧ W.frozen? ⟨nb, 9, none⟩ = false ∧ (W.setCell ⟨nb, 9, none⟩ (.int .i64 1)).cell? ⟨nb, 0, none⟩ = some (.int .i64 0) ∧ Hid (NdG W B nb { n with tm := t, vt := -1, rl := 0, ld := -1 } (W.setCell ⟨nb, 9, none⟩ (.int .i64 1)) { n with tm := t, vt := -1, rl := 1, ld := -1 } ms es)) := fun W g => by
    have g2 := g.nd.put (n1 := { n with tm := t, vt := -1, rl := 1, ld := -1 }) 9 (.int .i64 1) rfl rfl rfl
    exact ⟨g.nd.bx.cellAt rfl, g.nd.bx.frozen, by rw [← hme]; exact g2.nd.bx.cellAt rfl, g2⟩
  have F3 : Hid (∀ W, NdG w B nb n W { n with tm := t, vt := 0, rl := 1, ld := -1, wd := 0, wt := wtD n.dr } ms es → (∃ u0 u1 u2 u3 u4 u5 u6, W.cell? ⟨nb, 21, none⟩ = some u0 ∧ W.cell? ⟨nb, 22, none⟩ = some u1 ∧ W.cell? ⟨nb, 23, none⟩ = some u2 ∧ W.cell? ⟨nb, 24, none⟩ = some u3 ∧ W.cell? ⟨nb, 25, none⟩ = some u4 ∧ W.cell? ⟨nb, 26, none⟩ = some u5 ∧ W.cell? ⟨nb, 27, none⟩ = some u6) ∧ (∀ o, W.frozen? ⟨nb, o, none⟩ = false) ∧ Hid (NdG W B nb { n with tm := t, vt := 0, rl := 1, ld := -1, wd := 0, wt := wtD n.dr } (((((((W.setCell ⟨nb, 21, none⟩ (.bool false)).setCell ⟨nb, 22, none⟩ (.bool false)).setCell ⟨nb, 23, none⟩ (.bool false)).setCell ⟨nb, 24, none⟩ (.bool false)).setCell ⟨nb, 25, none⟩ (.bool false)).setCell ⟨nb, 26, none⟩ (.bool false)).setCell ⟨nb, 27, none⟩ (.bool false)) { n with tm := t, vt := 0, rl := 1, ld := -1, wd := 0, wt := wtD n.dr, vs := List.replicate 7 (.bool false) } ms es)) := fun W g => by
    obtain ⟨x0, x1, x2, x3, x4, x5, x6, hvs⟩ : ∃ x0 x1 x2 x3 x4 x5 x6, n.vs = [x0, x1, x2, x3, x4, x5, x6] := by
      generalize n.vs = l at h7
      match l, h7 with
      | [x0, x1, x2, x3, x4, x5, x6], _ => exact ⟨x0, x1, x2, x3, x4, x5, x6, rfl⟩
    have c : ∀ j (hj : j < n.vs.length), W.cell? ⟨nb, 21 + j, none⟩ = some n.vs[j] := fun j hj => g.nd.bx.cellAt (Nd.g_vs ({ n with tm := t, vt := 0, rl := 1, ld := -1, wd := 0, wt := wtD n.dr } : Nd) j hj)
    have s : ∀ {V : World} {m : Nd} (q : NdI V B nb m ms es) (j : Nat) (_ : j < m.vs.length), NdG V B nb m (V.setCell ⟨nb, 21 + j, none⟩ (.bool false)) { m with vs := m.vs.set j (.bool false) } ms es := fun q j hj => q.put (21 + j) (.bool false) (Nd.c_vs _ j _ hj) rfl rfl
    refine ⟨⟨_, _, _, _, _, _, _, c 0 (by omega), c 1 (by omega), c 2 (by omega), c 3 (by omega), c 4 (by omega), c 5 (by omega), c 6 (by omega)⟩, fun o => g.nd.bx.frozen, ?_⟩
    have k0 := s g.nd 0 (by simp; omega)
    have k1 := k0.trans (s k0.nd 1 (by simp; omega))
    have k2 := k1.trans (s k1.nd 2 (by simp; omega))
    have k3 := k2.trans (s k2.nd 3 (by simp; omega))
    have k4 := k3.trans (s k3.nd 4 (by simp; omega))
    have k5 := k4.trans (s k4.nd 5 (by simp; omega))
    have k6 := k5.trans (s k5.nd 6 (by simp; omega))
    have hset : (((((((n.vs.set 0 (.bool false)).set 1 (.bool false)).set 2 (.bool false)).set 3 (.bool false)).set 4 (.bool false)).set 5 (.bool false)).set 6 (.bool false)) = List.replicate 7 (.bool false) := by rw [hvs]; rfl
    have k7 : NdG W B nb ({ n with tm := t, vt := 0, rl := 1, ld := -1, wd := 0, wt := wtD n.dr } : Nd) (((((((W.setCell ⟨nb, 21, none⟩ (.bool false)).setCell ⟨nb, 22, none⟩ (.bool false)).setCell ⟨nb, 23, none⟩ (.bool false)).setCell ⟨nb, 24, none⟩ (.bool false)).setCell ⟨nb, 25, none⟩ (.bool false)).setCell ⟨nb, 26, none⟩ (.bool false)).setCell ⟨nb, 27, none⟩ (.bool false)) { n with tm := t, vt := 0, rl := 1, ld := -1, wd := 0, wt := wtD n.dr, vs := (((((((n.vs.set 0 (.bool false)).set 1 (.bool false)).set 2 (.bool false)).set 3 (.bool false)).set 4 (.bool false)).set 5 (.bool false)).set 6 (.bool false)) } ms es := k6
    rw [hset] at k7
    exact k7
  have F4 : Hid (∀ W, NdG w B nb n W { n with tm := t, vt := 0, rl := 1, ld := -1, wd := 0, wt := wtD n.dr, vs := List.replicate 7 (.bool false) } ms es → W.cell? ⟨nb, 0, none⟩ = some (.int .i64 0) ∧ W.cell? ⟨nb, 21, none⟩ = some (.bool false) ∧ W.frozen? ⟨nb, 21, none⟩ = false ∧ (W.setCell ⟨nb, 21, none⟩ (.bool true)).cell? ⟨nb, 0, none⟩ = some (.int .i64 0) ∧ Hid (NdG W B nb { n with tm := t, vt := 0, rl := 1, ld := -1, wd := 0, wt := wtD n.dr, vs := List.replicate 7 (.bool false) } (W.setCell ⟨nb, 21, none⟩ (.bool true)) (ndSt n t) ms es)) := fun W g => by
    have g2 := g.nd.put (n1 := ndSt n t) 21 (.bool true) (Nd.c_vs _ 0 _ (by simp)) rfl rfl
    exact ⟨by rw [← hme]; exact g.nd.bx.cellAt rfl, g.nd.bx.cellAt rfl, g.nd.bx.frozen, by rw [← hme]; exact g2.nd.bx.cellAt rfl, g2⟩
  have y0 := HR0.out.cellAt (o := 0) rfl
  clear h h7 hme hrl ht ht0 ht1 hC hL hb0
  generalize ndSt n t = nS at *
  generalize ({ n with tm := t, vt := 0, rl := 1, ld := -1, wd := 0, wt := wtD n.dr, vs := List.replicate 7 (.bool false) } : Nd) = nV at *
  generalize ({ n with tm := t, vt := 0, rl := 1, ld := -1, wd := 0, wt := wtD n.dr } : Nd) = nU at *
  generalize ({ n with tm := t, vt := -1, rl := 1, ld := -1 } : Nd) = nT at *
  generalize ({ n with tm := t, vt := -1, rl := 0, ld := -1 } : Nd) = nR at *
  generalize n.tm = tm at *
  go_enter Tryz.func35, Tryz.ntmps35
  go_wp2
  have HG1 := hid HG0.out.drew
  have HR1 : Hid (RowIs (w.alloc (.cells #[.pointer (some ⟨nb, 0, none⟩)] 29)).drew w.heap.size [.pointer (some ⟨nb, 0, none⟩)] 29) := HR0.out
  clear HG0 HR0
  refine wp_region_held_drew (S := fun W => W.cell? ⟨w.heap.size, 0, none⟩ = some (.pointer (some ⟨nb, 0, none⟩))) (by kernel_rfl) y0 (fun hHeld => ?_)
  generalize (w.alloc (.cells #[.pointer (some ⟨nb, 0, none⟩)] 29)).drew = V1 at *
  have x1 := F1.out _ HG1.out.nd
  refine wpAnyH_take (i := 0) (v := ?vv1) rfl (by kernel_rfl) (by kernel_rfl) (by kernel_rfl) (fun _ _ _ h => h) (Or.inl ⟨by rfl, ?hy1⟩) (by assumption) ?rest1
  case hy1 => (intro w hSw; (try dsimp only at hSw); go_simp; first | done | with_reducible rfl)
  try simp only [Act.put, List.getElem_toArray, List.getElem_cons_succ, List.getElem_cons_zero, List.setIfInBounds_toArray, List.set_cons_zero, List.set_cons_succ]
  refine wpAnyH_take (i := 1) (v := ?vv2) rfl (by kernel_rfl) (by kernel_rfl) (by kernel_rfl) (fun _ _ _ h => h) (Or.inl ⟨by rfl, ?hy2⟩) (by assumption) ?rest2
  case hy2 => (intro w hSw; (try dsimp only at hSw); go_simp; first | done | with_reducible rfl)
  try simp only [Act.put, List.getElem_toArray, List.getElem_cons_succ, List.getElem_cons_zero, List.setIfInBounds_toArray, List.set_cons_zero, List.set_cons_succ]
  refine wpAnyH_take (i := 2) (v := ?vv3) rfl (by kernel_rfl) (by kernel_rfl) (by kernel_rfl) (fun _ _ _ h => h) (Or.inl ⟨by rfl, ?hy3⟩) (by assumption) ?rest3
  case hy3 => (intro w hSw; (try dsimp only at hSw); go_simp; first | done | with_reducible rfl)
  try simp only [Act.put, List.getElem_toArray, List.getElem_cons_succ, List.getElem_cons_zero, List.setIfInBounds_toArray, List.set_cons_zero, List.set_cons_succ]
  refine wpAnyH_take (i := 3) (v := ?vv4) rfl (by kernel_rfl) (by kernel_rfl) (by kernel_rfl) (fun _ _ _ h => h) (Or.inl ⟨by rfl, ?hy4⟩) (by assumption) ?rest4
  case hy4 => (intro w hSw; (try dsimp only at hSw); go_simp; first | done | with_reducible rfl)
  try simp only [Act.put, List.getElem_toArray, List.getElem_cons_succ, List.getElem_cons_zero, List.setIfInBounds_toArray, List.set_cons_zero, List.set_cons_succ]
  refine wpAnyH_ready (rs := [4]) (by kernel_rfl) (by simp) ?_
  refine AllReadyH.cons rfl (fun K hK => ?_) AllReadyH.nil
  have y1 := HR1.out.cellAt (o := 0) rfl
  go_simp
  refine hK.out _ _ y1 (fun hHeld => ?_)
  clear hK K
  try simp only [Act.put, List.getElem_toArray, List.getElem_cons_succ, List.getElem_cons_zero, List.setIfInBounds_toArray, List.set_cons_zero, List.set_cons_succ]
  refine wpAnyH_take (i := 5) (v := ?vv5) rfl (by kernel_rfl) (by kernel_rfl) (by kernel_rfl) (fun _ _ _ h => h) (Or.inl ⟨by rfl, ?hy5⟩) (by assumption) ?rest5
  case hy5 => (intro w hSw; (try dsimp only at hSw); go_simp; first | done | with_reducible rfl)
  try simp only [Act.put, List.getElem_toArray, List.getElem_cons_succ, List.getElem_cons_zero, List.setIfInBounds_toArray, List.set_cons_zero, List.set_cons_succ]
  refine wpAnyH_ready (rs := [6]) (by kernel_rfl) (by simp) ?_
  refine AllReadyH.cons rfl (fun K hK => ?_) AllReadyH.nil
  go_simp
  (try rw [htw2])
  refine (RI.out _ HG1.out.nd).mono ?_
  rintro e v2 ⟨rfl, g1⟩
  have R1 := hid (KR.out HG1.out g1 HR1.out)
  have G1 := hid (HG1.out.trans g1)
  have y2 := R1.out.cellAt (o := 0) rfl
  clear g1 HR1 HG1 y0 y1 x1 hHeld
  go_wp2_with fail
  refine hK.out _ _ y2 (fun hHeld => ?_)
  clear hK K
  try simp only [Act.put, List.getElem_toArray, List.getElem_cons_succ, List.getElem_cons_zero, List.setIfInBounds_toArray, List.set_cons_zero, List.set_cons_succ]
  refine wpAnyH_done (by kernel_rfl) ?_ _
  clear hHeld RI F1
  have y0 := R1.out.cellAt (o := 0) rfl
  obtain ⟨x9, f9, x0, g2⟩ := F2.out _ G1.out
  have R2 := hid (KR.out G1.out g2.out R1.out)
  have G2 := hid (G1.out.trans g2.out)
  clear F2 g2 R1 G1
  go_wp2
  have y3 : (v2.setCell ⟨nb, 9, none⟩ (.int .i64 1)).drew.cell? ⟨w.heap.size, 0, none⟩ = some (.pointer (some ⟨nb, 0, none⟩)) := R2.out.cellAt rfl
  have HG3 := hid G2.out.drew
  have HR3 : Hid (RowIs (v2.setCell ⟨nb, 9, none⟩ (.int .i64 1)).drew w.heap.size [.pointer (some ⟨nb, 0, none⟩)] 29) := R2.out
  have x3 : (v2.setCell ⟨nb, 9, none⟩ (.int .i64 1)).drew.cell? ⟨nb, 0, none⟩ = some (.int .i64 0) := x0
  clear G2 R2 y0 y2 x0 x9 f9
  refine wp_region_held_drew (S := fun W => W.cell? ⟨w.heap.size, 0, none⟩ = some (.pointer (some ⟨nb, 0, none⟩))) (by kernel_rfl) y3 (fun hHeld => ?_)
  generalize (v2.setCell ⟨nb, 9, none⟩ (.int .i64 1)).drew = V3 at *
  refine wpAnyH_take (i := 0) (v := ?vv6) rfl (by kernel_rfl) (by kernel_rfl) (by kernel_rfl) (fun _ _ _ h => h) (Or.inl ⟨by rfl, ?hy6⟩) (by assumption) ?rest6
  case hy6 => (intro w hSw; (try dsimp only at hSw); go_simp; first | done | with_reducible rfl)
  try simp only [Act.put, List.getElem_toArray, List.getElem_cons_succ, List.getElem_cons_zero, List.setIfInBounds_toArray, List.set_cons_zero, List.set_cons_succ]
  refine wpAnyH_take (i := 1) (v := ?vv7) rfl (by kernel_rfl) (by kernel_rfl) (by kernel_rfl) (fun _ _ _ h => h) (Or.inl ⟨by rfl, ?hy7⟩) (by assumption) ?rest7
  case hy7 => (intro w hSw; (try dsimp only at hSw); go_simp; first | done | with_reducible rfl)
  try simp only [Act.put, List.getElem_toArray, List.getElem_cons_succ, List.getElem_cons_zero, List.setIfInBounds_toArray, List.set_cons_zero, List.set_cons_succ]
  refine wpAnyH_take (i := 2) (v := ?vv8) rfl (by kernel_rfl) (by kernel_rfl) (by kernel_rfl) (fun _ _ _ h => h) (Or.inl ⟨by rfl, ?hy8⟩) (by assumption) ?rest8
  case hy8 => (intro w hSw; (try dsimp only at hSw); go_simp; first | done | with_reducible rfl)
  try simp only [Act.put, List.getElem_toArray, List.getElem_cons_succ, List.getElem_cons_zero, List.setIfInBounds_toArray, List.set_cons_zero, List.set_cons_succ]
  refine wpAnyH_take (i := 3) (v := ?vv9) rfl (by kernel_rfl) (by kernel_rfl) (by kernel_rfl) (fun _ _ _ h => h) (Or.inl ⟨by rfl, ?hy9⟩) (by assumption) ?rest9
  case hy9 => (intro w hSw; (try dsimp only at hSw); go_simp; first | done | with_reducible rfl)
  try simp only [Act.put, List.getElem_toArray, List.getElem_cons_succ, List.getElem_cons_zero, List.setIfInBounds_toArray, List.set_cons_zero, List.set_cons_succ]
  refine wpAnyH_ready (rs := [4]) (by kernel_rfl) (by simp) ?_
  refine AllReadyH.cons rfl (fun K hK => ?_) AllReadyH.nil
  have y1 := HR3.out.cellAt (o := 0) rfl
  go_simp
  refine hK.out _ _ y1 (fun hHeld => ?_)
  clear hK K
  try simp only [Act.put, List.getElem_toArray, List.getElem_cons_succ, List.getElem_cons_zero, List.setIfInBounds_toArray, List.set_cons_zero, List.set_cons_succ]
  refine wpAnyH_ready (rs := [5]) (by kernel_rfl) (by simp) ?_
  refine AllReadyH.cons rfl (fun K hK => ?_) AllReadyH.nil
  go_simp
  refine (VO.out _ HG3.out.nd).mono ?_
  rintro e v4 ⟨rfl, g1⟩
  have R3 := hid (KR.out HG3.out g1 HR3.out)
  have G3 := hid (HG3.out.trans g1)
  have y2 := R3.out.cellAt (o := 0) rfl
  clear g1 HR3 HG3 y1 y3 x3 hHeld
  go_wp2_with fail
  refine hK.out _ _ y2 (fun hHeld => ?_)
  clear hK K
  try simp only [Act.put, List.getElem_toArray, List.getElem_cons_succ, List.getElem_cons_zero, List.setIfInBounds_toArray, List.set_cons_zero, List.set_cons_succ]
  refine wpAnyH_done (by kernel_rfl) ?_ _
  clear hHeld VO
  have y0 := R3.out.cellAt (o := 0) rfl
  obtain ⟨⟨u0, u1, u2, u3, u4, u5, u6, z0, z1, z2, z3, z4, z5, z6⟩, ff, g4⟩ := F3.out _ G3.out
  have f0 := ff 21
  have f1 := ff 22
  have f2 := ff 23
  have f3 := ff 24
  have f4 := ff 25
  have f5 := ff 26
  have f6 := ff 27
  have R4 := hid (KR.out G3.out g4.out R3.out)
  have G4 := hid (G3.out.trans g4.out)
  clear F3 g4 R3 G3 ff
  go_wp2
  clear y0 y2 z0 z1 z2 z3 z4 z5 z6 f0 f1 f2 f3 f4 f5 f6
  generalize (((((((v4.setCell ⟨nb, 21, none⟩ (.bool false)).setCell ⟨nb, 22, none⟩ (.bool false)).setCell ⟨nb, 23, none⟩ (.bool false)).setCell ⟨nb, 24, none⟩ (.bool false)).setCell ⟨nb, 25, none⟩ (.bool false)).setCell ⟨nb, 26, none⟩ (.bool false)).setCell ⟨nb, 27, none⟩ (.bool false)) = V50 at *
  obtain ⟨x5, p5, q5, x6, g5⟩ := F4.out _ G4.out.drew
  have y5 : V50.drew.cell? ⟨w.heap.size, 0, none⟩ = some (.pointer (some ⟨nb, 0, none⟩)) := R4.out.cellAt rfl
  have HR5 : Hid (RowIs V50.drew w.heap.size [.pointer (some ⟨nb, 0, none⟩)] 29) := R4.out
  have HG5 := hid G4.out.drew
  clear G4 R4
  refine wp_region_held_drew (S := fun W => W.cell? ⟨w.heap.size, 0, none⟩ = some (.pointer (some ⟨nb, 0, none⟩)) ∧ W.cell? ⟨nb, 0, none⟩ = some (.int .i64 0)) (by kernel_rfl) ⟨y5, x5⟩ (fun hHeld => ?_)
  generalize V50.drew = V5 at *
  refine wpAnyH_take (i := 0) (v := ?vv10) rfl (by kernel_rfl) (by kernel_rfl) (by kernel_rfl) (fun _ _ _ h => h) (Or.inl ⟨by rfl, ?hy10⟩) (by assumption) ?rest10
  case hy10 => (intro w hSw; (try dsimp only at hSw); go_simp; first | done | with_reducible rfl)
  try simp only [Act.put, List.getElem_toArray, List.getElem_cons_succ, List.getElem_cons_zero, List.setIfInBounds_toArray, List.set_cons_zero, List.set_cons_succ]
  refine wpAnyH_take (i := 1) (v := ?vv11) rfl (by kernel_rfl) (by kernel_rfl) (by kernel_rfl) (fun _ _ _ h => h) (Or.inl ⟨by rfl, ?hy11⟩) (by assumption) ?rest11
  case hy11 => (intro w hSw; (try dsimp only at hSw); go_simp; first | done | with_reducible rfl)
  try simp only [Act.put, List.getElem_toArray, List.getElem_cons_succ, List.getElem_cons_zero, List.setIfInBounds_toArray, List.set_cons_zero, List.set_cons_succ]
  refine wpAnyH_take (i := 2) (v := ?vv12) rfl (by kernel_rfl) (by kernel_rfl) (by kernel_rfl) (fun _ _ _ h => h) (Or.inl ⟨by rfl, ?hy12⟩) (by assumption) ?rest12
  case hy12 => (intro w hSw; (try dsimp only at hSw); go_simp; first | done | with_reducible rfl)
  try simp only [Act.put, List.getElem_toArray, List.getElem_cons_succ, List.getElem_cons_zero, List.setIfInBounds_toArray, List.set_cons_zero, List.set_cons_succ]
  refine wpAnyH_take (i := 3) (v := ?vv13) rfl (by kernel_rfl) (by kernel_rfl) (by kernel_rfl) (fun _ _ _ h => h) (Or.inl ⟨by rfl, ?hy13⟩) (by assumption) ?rest13
  case hy13 => (intro w hSw; (try dsimp only at hSw); go_simp; first | done | with_reducible rfl)
  try simp only [Act.put, List.getElem_toArray, List.getElem_cons_succ, List.getElem_cons_zero, List.setIfInBounds_toArray, List.set_cons_zero, List.set_cons_succ]
  refine wpAnyH_take (i := 4) (v := ?vv14) rfl (by kernel_rfl) (by kernel_rfl) (by kernel_rfl) (fun _ _ _ h => h) (Or.inl ⟨by rfl, ?hy14⟩) (by assumption) ?rest14
  case hy14 => (intro w hSw; (try dsimp only at hSw); go_simp; first | done | with_reducible rfl)
  try simp only [Act.put, List.getElem_toArray, List.getElem_cons_succ, List.getElem_cons_zero, List.setIfInBounds_toArray, List.set_cons_zero, List.set_cons_succ]
  refine wpAnyH_take (i := 5) (v := ?vv15) rfl (by kernel_rfl) (by kernel_rfl) (by kernel_rfl) (fun _ _ _ h => h) (Or.inl ⟨by rfl, ?hy15⟩) (by assumption) ?rest15
  case hy15 => (intro w hSw; (try dsimp only at hSw); go_simp; first | done | with_reducible rfl)
  try simp only [Act.put, List.getElem_toArray, List.getElem_cons_succ, List.getElem_cons_zero, List.setIfInBounds_toArray, List.set_cons_zero, List.set_cons_succ]
  refine wpAnyH_take (i := 6) (v := ?vv16) rfl (by kernel_rfl) (by kernel_rfl) (by kernel_rfl) (fun _ _ _ h => h) (Or.inl ⟨by rfl, ?hy16⟩) (by assumption) ?rest16
  case hy16 => (intro w hSw; (try dsimp only at hSw); go_simp; first | done | with_reducible rfl)
  try simp only [Act.put, List.getElem_toArray, List.getElem_cons_succ, List.getElem_cons_zero, List.setIfInBounds_toArray, List.set_cons_zero, List.set_cons_succ]
  refine wpAnyH_take (i := 7) (v := ?vv17) rfl (by kernel_rfl) (by kernel_rfl) (by kernel_rfl) (fun _ _ _ h => h) (Or.inl ⟨by rfl, ?hy17⟩) (by assumption) ?rest17
  case hy17 => (intro w hSw; (try dsimp only at hSw); go_simp; first | done | with_reducible rfl)
  try simp only [Act.put, List.getElem_toArray, List.getElem_cons_succ, List.getElem_cons_zero, List.setIfInBounds_toArray, List.set_cons_zero, List.set_cons_succ]
  refine wpAnyH_ready (rs := [8]) (by kernel_rfl) (by simp) ?_
  refine AllReadyH.cons rfl (fun K hK => ?_) AllReadyH.nil
  have R5 := hid (KR.out HG5.out g5.out HR5.out)
  have G5 := hid (HG5.out.trans g5.out)
  have y6 := R5.out.cellAt (o := 0) rfl
  go_simp
  refine hK.out _ _ ⟨y6, x6⟩ (fun hHeld => ?_)
  clear hK K
  try simp only [Act.put, List.getElem_toArray, List.getElem_cons_succ, List.getElem_cons_zero, List.setIfInBounds_toArray, List.set_cons_zero, List.set_cons_succ]
  refine wpAnyH_done (by kernel_rfl) ?_ _
  clear g5 HG5 HR5 y5 x5 p5 q5 y6 x6
  generalize V5.setCell ⟨nb, 21, none⟩ (.bool true) = V6 at *
  clear hHeld F4
  have y0 := R5.out.cellAt (o := 0) rfl
  have HC2 := hid (HC.out _ G5.out)
  clear HC
  go_wp2_with fail
  refine HC2.out.mono ?_
  rintro e w6 ⟨rfl, b6⟩
  have R6 := hid (R5.out.keep (b6.keep (fun _ => False)) (fun h => h))
  have G6 := hid (G5.out.next b6)
  have HL2 := hid (HL.out _ G6.out)
  clear HC2 HL b6 R5 G5 y0 KR
  have y0 := R6.out.cellAt (o := 0) rfl
  go_wp2_with fail
  refine HL2.out.mono ?_
  rintro e w7 ⟨rfl, g7⟩
  have G7 := hid g7
  clear HL2 g7 R6 G6 y0
  go_wp2
  go_ret
  exact ⟨rfl, G7.out⟩
end
end Go.Proofs.YtnldjcoajliciaaGreat
namespace Go.Proofs.YtnldjcoajliciaaGreat
open Go.RowKit Go.Maps
set_option linter.unusedVariables false
set_option linter.unusedSimpArgs false

section
variable {w w1 : World} {B nb : Nat} {n : Nd} {ms : List Int} {es : List En}
set_option maxRecDepth 100000 in
set_option maxHeartbeats 1000000 in
theorem nmayStand_mem (h : NdI w B nb n ms es) (hne : ms ≠ []) (hm : ms.length ≤ 17592186044416) (hl : es.length ≤ 17592186044416) (hd : ∀ x ∈ es, x.da.size ≤ 140737488355328) (hq : (mbL ms es).length ≤ 9223372036854775807) (ht : n.tm < 1099511627776) (hM : hasI n.me (mbL ms es) = true) :
    Calls Tryz.prog 34 #[.pointer (some ⟨nb, 0, none⟩)] w fun e w' => e = .returned (.bool true) ∧ Below w.heap.size w w' := by
  have IM := hid (nisMember_any h hne hm hl hd hq n.me)
  rw [hM] at IM
  have c0 := h.bx.cellAt (o := 0) rfl
  have c1 := h.bx.cellAt (o := 1) rfl
  have d1 : decide (n.tm < 1099511627776) = true := decide_eq_true ht
  generalize n.tm = tm at *
  generalize n.me = me at *
  clear h hne hm hl hd hq ht hM
  go_enter Tryz.func34, Tryz.ntmps34
  go_wp2_with fail
  refine IM.out.mono ?_
  rintro e w1 ⟨rfl, b1⟩
  have B1 := hid b1
  clear IM b1
  go_wp2
  go_ret
  exact ⟨rfl, B1.out⟩
/-- a node whose wait goes on by a tick -/
def ndTk (n : Nd) (d : Int) : Nd := { n with dr := d, df := max (n.df - 1) 0, wd := n.wd + 1 }
theorem ntick_end (h : NdI w B nb n ms es) (d : Int) : NdG w B nb n (((w.setCell ⟨nb, 11, none⟩ (.int .i64 d)).setCell ⟨nb, 14, none⟩ (.int .i64 (max (n.df - 1) 0))).setCell ⟨nb, 13, none⟩ (.int .i64 (n.wd + 1))) (ndTk n d) ms es := by
  have k1 := h.put (n1 := { n with dr := d }) 11 (.int .i64 d) rfl rfl rfl
  have k2 := k1.trans (k1.nd.put (n1 := { n with dr := d, df := max (n.df - 1) 0 }) 14 (.int .i64 (max (n.df - 1) 0)) rfl rfl rfl)
  exact k2.trans (k2.nd.put (n1 := ndTk n d) 13 (.int .i64 (n.wd + 1)) rfl rfl rfl)
set_option maxRecDepth 100000 in
set_option maxHeartbeats 2000000 in
theorem ntick_wait (h : NdI w B nb n ms es) (hne : ms ≠ []) (d : Int) (hdf : 0 ≤ n.df ∧ n.df ≤ 1000) (hwd : 0 ≤ n.wd ∧ n.wd ≤ 1000) (hrl : n.rl ≠ 2) (hw : n.wd + 1 < n.wt) :
    Calls Tryz.prog 11 #[.pointer (some ⟨nb, 0, none⟩), .int .i64 d] w fun e w' => e = .returned (.slice none 0 0) ∧ NdG w B nb n w' (ndTk n d) ms es := by
  have IN := hid (nisNone_any h hne)
  have c9 := h.bx.cellAt (o := 9) rfl
  have c11 := h.bx.cellAt (o := 11) rfl
  have c12 := h.bx.cellAt (o := 12) rfl
  have c13 := h.bx.cellAt (o := 13) rfl
  have c14 := h.bx.cellAt (o := 14) rfl
  have f11 := h.bx.frozen (o := 11)
  have f13 := h.bx.frozen (o := 13)
  have f14 := h.bx.frozen (o := 14)
  have FIN := hid (fun q => (ntick_end h d).drewN q)
  have w1 : wrap64 (n.df - 1) = n.df - 1 := IntWalk.wrap64_in _ (by omega)
  have w2 : wrap64 (n.wd + 1) = n.wd + 1 := IntWalk.wrap64_in _ (by omega)
  have d1 : decide (n.rl = 2) = false := decide_eq_false hrl
  have d1b : (n.rl == 2) = false := by rw [beq_eq_false_iff_ne]; exact hrl
  have d2 : decide (n.wd + 1 < n.wt) = true := decide_eq_true hw
  have m1 : (if n.df - 1 < 0 then 0 else n.df - 1) = max (n.df - 1) 0 := by split <;> omega
  have m2 : max 0 (n.df - 1) = max (n.df - 1) 0 := by omega
  generalize ndTk n d = n2 at *
  generalize n.rl = rl at *
  generalize n.df = df at *
  generalize n.wd = wd at *
  generalize n.wt = wt at *
  clear h hne hdf hwd hrl hw
  go_enter Tryz.func11, Tryz.ntmps11
  go_wp2_with fail
  refine IN.out.mono ?_
  rintro e w1 ⟨rfl, rfl⟩
  clear IN
  go_wp2
  go_quiet (fail)
  go_wp2
  go_ret
  exact ⟨rfl, FIN.out _⟩
set_option maxRecDepth 100000 in
set_option maxHeartbeats 2000000 in
theorem ntick_stand (h : NdI w B nb n ms es) (hne : ms ≠ []) (d : Int) (hdf : 0 ≤ n.df ∧ n.df ≤ 1000) (hwd : 0 ≤ n.wd ∧ n.wd ≤ 1000) (hrl : n.rl ≠ 2) (hw : ¬ n.wd + 1 < n.wt) (n2 : Value → Nd) (es2 : List En)
    (hM : ∀ W, NdG w B nb n W (ndTk n d) ms es → Calls Tryz.prog 34 #[.pointer (some ⟨nb, 0, none⟩)] W fun e w' => e = .returned (.bool true) ∧ Below W.heap.size W w')
    (hS : ∀ W, NdG w B nb n W (ndTk n d) ms es → Calls Tryz.prog 35 #[.pointer (some ⟨nb, 0, none⟩)] W fun e w' => e = .returned (.slice none 0 0) ∧ ∃ lg', NdG w B nb n w' (n2 lg') ms es2) :
    Calls Tryz.prog 11 #[.pointer (some ⟨nb, 0, none⟩), .int .i64 d] w fun e w' => e = .returned (.slice none 0 0) ∧ ∃ lg', NdG w B nb n w' (n2 lg') ms es2 := by
  have HM := hid hM
  have HS := hid hS
  have IN := hid (nisNone_any h hne)
  have c9 := h.bx.cellAt (o := 9) rfl
  have c11 := h.bx.cellAt (o := 11) rfl
  have c12 := h.bx.cellAt (o := 12) rfl
  have c13 := h.bx.cellAt (o := 13) rfl
  have c14 := h.bx.cellAt (o := 14) rfl
  have f11 := h.bx.frozen (o := 11)
  have f13 := h.bx.frozen (o := 13)
  have f14 := h.bx.frozen (o := 14)
  have FIN := hid (fun q => (ntick_end h d).drewN q)
  have w1 : wrap64 (n.df - 1) = n.df - 1 := IntWalk.wrap64_in _ (by omega)
  have w2 : wrap64 (n.wd + 1) = n.wd + 1 := IntWalk.wrap64_in _ (by omega)
  have d1 : decide (n.rl = 2) = false := decide_eq_false hrl
  have d1b : (n.rl == 2) = false := by rw [beq_eq_false_iff_ne]; exact hrl
  have d2 : decide (n.wd + 1 < n.wt) = false := decide_eq_false hw
  have m1 : (if n.df - 1 < 0 then 0 else n.df - 1) = max (n.df - 1) 0 := by split <;> omega
  have m2 : max 0 (n.df - 1) = max (n.df - 1) 0 := by omega
  generalize ndTk n d = n2 at *
  generalize n.rl = rl at *
  generalize n.df = df at *
  generalize n.wd = wd at *
  generalize n.wt = wt at *
  clear h hne hdf hwd hrl hw hM hS
  go_enter Tryz.func11, Tryz.ntmps11
  go_wp2_with fail
  refine IN.out.mono ?_
  rintro e w1 ⟨rfl, rfl⟩
  clear IN
  go_wp2
  go_quiet (fail)
  have HM2 := hid (HM.out _ (FIN.out nq))
  clear HM
  go_wp2_with fail
  refine HM2.out.mono ?_
  rintro e w2 ⟨rfl, b2⟩
  have HS2 := hid (HS.out _ ((FIN.out nq).next b2))
  clear HM2 HS FIN b2
  go_wp2_with fail
  refine HS2.out.mono ?_
  rintro e w3 ⟨rfl, g3⟩
  have G3 := hid g3
  clear HS2 g3
  go_wp2
  go_ret
  exact ⟨rfl, G3.out⟩
set_option maxRecDepth 100000 in
set_option maxHeartbeats 1000000 in
theorem nrefuses_lead (h : NdI w B nb n ms es) (hne : ms ≠ []) (hrl : n.rl = 2) : Calls Tryz.prog 36 #[.pointer (some ⟨nb, 0, none⟩)] w fun e w' => e = .returned (.int .i64 0) ∧ w' = w := by
  have IN := hid (nisNone_any h hne)
  have c9 : w.cell? ⟨nb, 9, none⟩ = some (.int .i64 2) := by rw [← hrl]; exact h.bx.cellAt rfl
  clear h hne hrl
  go_enter Tryz.func36, Tryz.ntmps36
  go_wp2_with fail
  refine IN.out.mono ?_
  rintro e w1 ⟨rfl, rfl⟩
  clear IN
  go_wp2
  go_ret
  exact ⟨rfl, rfl⟩
set_option maxRecDepth 100000 in
set_option maxHeartbeats 1000000 in
theorem nrole_any (h : NdI w B nb n ms es) (hne : ms ≠ []) : Calls Tryz.prog 23 #[.pointer (some ⟨nb, 0, none⟩)] w fun e w' => e = .returned (.int .i64 n.rl) ∧ w' = w := by
  have IN := hid (nisNone_any h hne)
  have c9 := h.bx.cellAt (o := 9) rfl
  generalize n.rl = rl at *
  clear h hne
  go_enter Tryz.func23, Tryz.ntmps23
  go_wp2_with fail
  refine IN.out.mono ?_
  rintro e w1 ⟨rfl, rfl⟩
  clear IN
  go_wp2
  go_ret
  exact ⟨rfl, rfl⟩
set_option maxRecDepth 100000 in
set_option maxHeartbeats 1000000 in
theorem ncommit_any (h : NdI w B nb n ms es) (hne : ms ≠ []) : Calls Tryz.prog 13 #[.pointer (some ⟨nb, 0, none⟩)] w fun e w' => e = .returned (.int .i64 n.cm) ∧ w' = w := by
  have IN := hid (nisNone_any h hne)
  have c8 := h.bx.cellAt (o := 8) rfl
  generalize n.cm = cm at *
  clear h hne
  go_enter Tryz.func13, Tryz.ntmps13
  go_wp2_with fail
  refine IN.out.mono ?_
  rintro e w1 ⟨rfl, rfl⟩
  clear IN
  go_wp2
  go_ret
  exact ⟨rfl, rfl⟩
set_option maxRecDepth 100000 in
set_option maxHeartbeats 2000000 in
theorem npropose_of (h : NdI w B nb n ms es) (hne : ms ≠ []) (hrl : n.rl = 2) (da : ByteArray) (hda : da.size ≤ 65536) (at_ : Int) (n2 : Value → Nd) (es2 : List En)
    (hL : ∀ W, NdG w B nb n W n ms es → Calls Tryz.prog 37 #[.pointer (some ⟨nb, 0, none⟩), .int .i64 0, .string da] W fun e w' => e = .returned (.tuple #[.int .i64 at_, .slice none 0 0]) ∧ ∃ lg', NdG w B nb n w' (n2 lg') ms es2) :
    Calls Tryz.prog 12 #[.pointer (some ⟨nb, 0, none⟩), .string da] w fun e w' => e = .returned (.tuple #[.int .i64 at_, .slice none 0 0, .int .i64 0]) ∧ ∃ lg', NdG w B nb n w' (n2 lg') ms es2 := by
  have RF := hid (nrefuses_lead h hne hrl)
  have CL := hid (clone_any da w (by omega))
  have HG := hid (NdG.refl h)
  have HL := hid hL
  have d1 : decide ((da.size : Int) > 65536) = false := decide_eq_false (by omega)
  clear h hne hrl hL hda
  go_enter Tryz.func12, Tryz.ntmps12
  go_wp2_with fail
  refine RF.out.mono ?_
  rintro e w1 ⟨rfl, rfl⟩
  clear RF
  go_wp2_with fail
  refine CL.out.mono ?_
  rintro e w2 ⟨rfl, b2⟩
  have HL2 := hid (HL.out _ (HG.out.next b2))
  clear CL b2 HL HG
  go_wp2_with fail
  refine HL2.out.mono ?_
  rintro e w3 ⟨rfl, g3⟩
  have G3 := hid g3
  clear HL2 g3
  go_wp2
  go_ret3
  exact ⟨rfl, G3.out⟩
end
end Go.Proofs.YtnldjcoajliciaaGreat
namespace Go.Proofs.YtnldjcoajliciaaGreat
open Go.RowKit Go.Maps
set_option linter.unusedVariables false
set_option linter.unusedSimpArgs false

theorem ret_ctE {fn : Func} {p u : Tmp} {ty : TypeId} (h : fn.results = #[.cell p ty, .tmp u]) (tmps : Array Value) (w : World) (g : Nat) (cs : Array Value) (x : Value)
    (hp : tmps.getD p undef = .pointer (some ⟨g, 0, none⟩)) (hx : tmps.getD u undef = x) (hg : (loadVar ty ⟨g, 0, none⟩).run Tryz.prog w = .ok (.agg cs) w) :
    (results fn tmps).run Tryz.prog w = .ok (.tuple #[.agg cs, x]) w := by
  rw [results_cell_tmp h, hp, hx]
  simp [asAddr, hg, Result.andThen]
section
variable {w w1 : World} {B nb : Nat} {n : Nd} {ms : List Int} {es : List En}
set_option maxRecDepth 100000 in
set_option maxHeartbeats 4000000 in
theorem nentry_in (h : NdI w B nb n ms es) (hne : ms ≠ []) (hl : es.length ≤ 17592186044416) (hb0 : 0 ≤ n.bi) (hb1 : n.bi ≤ 1099511627776) (k : Nat) (hk : k < es.length) (hd : (es[k]).da.size ≤ 140737488355328) (i : Int) (hi : i = n.bi + k + 1) :
    Calls Tryz.prog 15 #[.pointer (some ⟨nb, 0, none⟩), .int .i64 i] w fun e w' => e = .returned (.tuple #[.agg #[.int .i64 (es[k]).tm, .int .i64 (es[k]).kd, .string (es[k]).da], .bool true]) ∧ Below w.heap.size w w' := by
  obtain ⟨W0, hW0⟩ : ∃ W0, W0 = w.alloc (.cells #[.int .i64 0, .int .i64 0, .string ⟨#[]⟩] 52) := ⟨_, rfl⟩
  have b0 : Below w.heap.size w W0 := by rw [hW0]; exact below_al (Below.refl _ _) _
  have r0 : RowIs W0 w.heap.size [.int .i64 0, .int .i64 0, .string ⟨#[]⟩] 52 := by rw [hW0]; exact srow w _ _
  have LA : Hid (Calls Tryz.prog 40 #[.pointer (some ⟨nb, 0, none⟩)] W0 fun e w' => e = .returned (.tuple #[.int .i64 (n.bi + es.length), .int .i64 (ltT n.bt es)]) ∧ Below W0.heap.size W0 w') := nlast_any (h.next b0) hne hl hb0 hb1
  have IN : Hid (∀ W, Below w.heap.size w W → Calls Tryz.prog 24 #[.pointer (some ⟨nb, 0, none⟩)] W fun e w' => e = .returned (.bool false) ∧ w' = W) := fun W b => nisNone_any (h.next b) hne
  have PL : Hid (∀ W, Below w.heap.size w W → Calls Tryz.prog 42 #[.pointer (some ⟨nb, 0, none⟩), .int .i64 i] W fun e w' => e = .returned (.int .i64 ((k + 1 : Nat) : Int)) ∧ w' = W) := fun W hW => nplace_any (h.next hW) _ _ (by omega) (by omega) (by omega)
  have CE : Hid (∀ W, Calls Tryz.prog 41 #[.agg #[.int .i64 (es[k]).tm, .int .i64 (es[k]).kd, .string (es[k]).da]] W fun e w' => e = .returned (.agg #[.int .i64 (es[k]).tm, .int .i64 (es[k]).kd, .string (es[k]).da]) ∧ Below W.heap.size W w') := fun W => centry_any (es[k]) W hd
  obtain ⟨ad, cap, c7, e7⟩ := h.lgf
  have hv := h.lo.ents
  rw [e7] at hv
  obtain ⟨ad', cap', e8, hc⟩ := hv.form
  cases e8
  obtain ⟨b, off, hb, hbl, d0, d1, d2⟩ := hc k hk
  subst hb
  have CS : Hid (∀ W, Below w.heap.size w W → W.cell? ⟨nb, 7, none⟩ = some (.slice (some ⟨b, off, none⟩) es.length cap) ∧ W.cell? ⟨b, off + k * 3, none⟩ = some (.int .i64 (es[k]).tm) ∧ W.cell? ⟨b, off + k * 3 + 1, none⟩ = some (.int .i64 (es[k]).kd) ∧ W.cell? ⟨b, off + k * 3 + 2, none⟩ = some (.string (es[k]).da)) := fun W hW => ⟨(hW.cell h.lt).trans c7, (hW.cell hbl).trans d0, (hW.cell hbl).trans d1, (hW.cell hbl).trans d2⟩
  have C3 : Hid (∀ W, Below w.heap.size w W → W.cell? ⟨nb, 3, none⟩ = some (.int .i64 n.bi)) := fun W hW => (h.next hW).bx.cellAt rfl
  have g1 : decide (i > n.bi + (es.length : Int)) = false := decide_eq_false (by omega)
  have g2 : decide (i ≤ n.bi) = false := decide_eq_false (by omega)
  have q0 : wrap64 (((k + 1 : Nat) : Int) - 1) = (k : Int) := by rw [IntWalk.wrap64_in _ (by omega)]; omega
  have q1 : IntKind.i64.wrap (((k + 1 : Nat) : Int) - 1) = (k : Int) := by rw [IntKind.wrap_i64]; omega
  have p0 : (0 : Int) ≤ (k : Int) := by omega
  have p1 : (k : Int) < (es.length : Int) := by omega
  have HLT := hid h.lt
  have B0 := hid b0
  have R0 := hid r0
  generalize ltT n.bt es = lt at *
  generalize hx : es[k] = x at *
  obtain ⟨tm, kd, da⟩ := x
  simp only at *
  clear h hne hl hb0 hb1 hk hd hi hv hc d0 d1 d2 c7 e7 b0 r0 hbl hx
  generalize n.bi = bi at *
  generalize es.length = N at *
  generalize k + 1 = k1 at *
  generalize bi + (N : Int) = s at *
  go_enter Tryz.func15, Tryz.ntmps15
  go_wp2_with fail
  rw [← hW0]
  refine LA.out.mono ?_
  rintro e w1 ⟨rfl, b1⟩
  have B1 := hid (below_on B0.out b1)
  have R1 := hid (R0.out.keep (b1.keep (fun _ => False)) (fun h => h))
  have IN2 := hid (IN.out w1 B1.out)
  have c3 := C3.out w1 B1.out
  clear LA IN b1 B0 R0 hW0 C3
  go_wp2_with fail
  refine IN2.out.mono ?_
  rintro e w2 ⟨rfl, rfl⟩
  clear IN2
  obtain ⟨x0, x1, x2, x3⟩ := CS.out _ B1.out.drew
  go_wp2
  have B3 := hid B1.out.drew
  have R3 : Hid (RowIs w2.drew w.heap.size [.int .i64 0, .int .i64 0, .string ⟨#[]⟩] 52) := R1.out
  clear B1 R1 c3
  refine wp_region_held_drew (S := fun W => W.cell? ⟨nb, 7, none⟩ = some (.slice (some ⟨b, off, none⟩) N cap) ∧ W.cell? ⟨b, off + k * 3, none⟩ = some (.int .i64 tm) ∧ W.cell? ⟨b, off + k * 3 + 1, none⟩ = some (.int .i64 kd) ∧ W.cell? ⟨b, off + k * 3 + 2, none⟩ = some (.string da)) (by kernel_rfl) ⟨x0, x1, x2, x3⟩ (fun hHeld => ?_)
  generalize w2.drew = V at *
  refine wpAnyH_take (i := 0) (v := ?vv1) rfl (by kernel_rfl) (by kernel_rfl) (by kernel_rfl) (fun _ _ _ h => h) (Or.inl ⟨by rfl, ?hy1⟩) (by assumption) ?rest1
  case hy1 => (intro w hSw; (try dsimp only at hSw); go_simp; first | done | with_reducible rfl)
  try simp only [Act.put, List.getElem_toArray, List.getElem_cons_succ, List.getElem_cons_zero, List.setIfInBounds_toArray, List.set_cons_zero, List.set_cons_succ]
  refine wpAnyH_take (i := 1) (v := ?vv2) rfl (by kernel_rfl) (by kernel_rfl) (by kernel_rfl) (fun _ _ _ h => h) (Or.inl ⟨by rfl, ?hy2⟩) (by assumption) ?rest2
  case hy2 => (intro w hSw; (try dsimp only at hSw); go_simp; first | done | with_reducible rfl)
  try simp only [Act.put, List.getElem_toArray, List.getElem_cons_succ, List.getElem_cons_zero, List.setIfInBounds_toArray, List.set_cons_zero, List.set_cons_succ]
  refine wpAnyH_take (i := 2) (v := ?vv3) rfl (by kernel_rfl) (by kernel_rfl) (by kernel_rfl) (fun _ _ _ h => h) (Or.inl ⟨by rfl, ?hy3⟩) (by assumption) ?rest3
  case hy3 => (intro w hSw; (try dsimp only at hSw); go_simp; first | done | with_reducible rfl)
  try simp only [Act.put, List.getElem_toArray, List.getElem_cons_succ, List.getElem_cons_zero, List.setIfInBounds_toArray, List.set_cons_zero, List.set_cons_succ]
  refine wpAnyH_take (i := 3) (v := ?vv4) rfl (by kernel_rfl) (by kernel_rfl) (by kernel_rfl) (fun _ _ _ h => h) (Or.inl ⟨by rfl, ?hy4⟩) (by assumption) ?rest4
  case hy4 => (intro w hSw; (try dsimp only at hSw); go_simp; first | done | with_reducible rfl)
  try simp only [Act.put, List.getElem_toArray, List.getElem_cons_succ, List.getElem_cons_zero, List.setIfInBounds_toArray, List.set_cons_zero, List.set_cons_succ]
  refine wpAnyH_take (i := 4) (v := ?vv5) rfl (by kernel_rfl) (by kernel_rfl) (by kernel_rfl) (fun _ _ _ h => h) (Or.inl ⟨by rfl, ?hy5⟩) (by assumption) ?rest5
  case hy5 => (intro w hSw; (try dsimp only at hSw); go_simp; first | done | with_reducible rfl)
  try simp only [Act.put, List.getElem_toArray, List.getElem_cons_succ, List.getElem_cons_zero, List.setIfInBounds_toArray, List.set_cons_zero, List.set_cons_succ]
  refine wpAnyH_take (i := 5) (v := ?vv6) rfl (by kernel_rfl) (by kernel_rfl) (by kernel_rfl) (fun _ _ _ h => h) (Or.inl ⟨by rfl, ?hy6⟩) (by assumption) ?rest6
  case hy6 => (intro w hSw; (try dsimp only at hSw); go_simp; first | done | with_reducible rfl)
  try simp only [Act.put, List.getElem_toArray, List.getElem_cons_succ, List.getElem_cons_zero, List.setIfInBounds_toArray, List.set_cons_zero, List.set_cons_succ]
  refine wpAnyH_ready (rs := [6]) (by kernel_rfl) (by simp) ?_
  refine AllReadyH.cons rfl (fun K hK => ?_) AllReadyH.nil
  go_simp
  refine (PL.out _ B3.out).mono ?_
  rintro e w4 ⟨rfl, rfl⟩
  clear PL hHeld
  go_wp2_with fail
  refine hK.out _ _ (CS.out _ B3.out) (fun hHeld => ?_)
  clear hK K
  try simp only [Act.put, List.getElem_toArray, List.getElem_cons_succ, List.getElem_cons_zero, List.setIfInBounds_toArray, List.set_cons_zero, List.set_cons_succ]
  refine wpAnyH_take (i := 7) (v := ?vv7) rfl (by kernel_rfl) (by kernel_rfl) (by kernel_rfl) (fun _ _ _ h => h) (Or.inl ⟨by rfl, ?hy7⟩) (by assumption) ?rest7
  case hy7 => (intro w hSw; (try dsimp only at hSw); go_simp; first | done | with_reducible rfl)
  try simp only [Act.put, List.getElem_toArray, List.getElem_cons_succ, List.getElem_cons_zero, List.setIfInBounds_toArray, List.set_cons_zero, List.set_cons_succ]
  refine wpAnyH_take (i := 8) (v := ?vv8) rfl (by kernel_rfl) (by kernel_rfl) (by kernel_rfl) (fun _ _ _ h => h) (Or.inl ⟨by rfl, ?hy8⟩) (by assumption) ?rest8
  case hy8 => (intro w hSw; (try dsimp only at hSw); go_simp; first | done | with_reducible rfl)
  try simp only [Act.put, List.getElem_toArray, List.getElem_cons_succ, List.getElem_cons_zero, List.setIfInBounds_toArray, List.set_cons_zero, List.set_cons_succ]
  refine wpAnyH_take (i := 9) (v := ?vv9) rfl (by kernel_rfl) (by kernel_rfl) (by kernel_rfl) (fun _ _ _ h => h) (Or.inl ⟨by rfl, ?hy9⟩) (by assumption) ?rest9
  case hy9 => (intro w hSw; (try dsimp only at hSw); go_simp; first | done | with_reducible rfl)
  try simp only [Act.put, List.getElem_toArray, List.getElem_cons_succ, List.getElem_cons_zero, List.setIfInBounds_toArray, List.set_cons_zero, List.set_cons_succ]
  refine wpAnyH_ready (rs := [10]) (by kernel_rfl) (by simp) ?_
  refine AllReadyH.cons rfl (fun K hK => ?_) AllReadyH.nil
  go_simp
  refine (CE.out _).mono ?_
  rintro e w5 ⟨rfl, b5⟩
  have B5 := hid (below_on B3.out b5)
  have R5 := hid (R3.out.keep (b5.keep (fun _ => False)) (fun h => h))
  clear CE b5 B3 R3 hHeld x0 x1 x2 x3
  go_wp2_with fail
  refine hK.out _ _ (CS.out _ B5.out) (fun hHeld => ?_)
  clear hK K
  try simp only [Act.put, List.getElem_toArray, List.getElem_cons_succ, List.getElem_cons_zero, List.setIfInBounds_toArray, List.set_cons_zero, List.set_cons_succ]
  refine wpAnyH_ready (rs := [11]) (by kernel_rfl) (by simp) ?_
  refine AllReadyH.cons rfl (fun K hK => ?_) AllReadyH.nil
  have z0 := R5.out.cellAt (o := 0) rfl
  have z1 := R5.out.cellAt (o := 1) rfl
  have z2 := R5.out.cellAt (o := 2) rfl
  have f0 := R5.out.frozen (o := 0)
  have f1 := R5.out.frozen (o := 1)
  have f2 := R5.out.frozen (o := 2)
  have R9 : Hid (RowIs (((w5.setCell ⟨w.heap.size, 0, none⟩ (.int .i64 tm)).setCell ⟨w.heap.size, 1, none⟩ (.int .i64 kd)).setCell ⟨w.heap.size, 2, none⟩ (.string da)) w.heap.size [.int .i64 tm, .int .i64 kd, .string da] 52) := ((R5.out.set 0 _).set 1 _).set 2 _
  have B9 : Hid (Below w.heap.size w (((w5.setCell ⟨w.heap.size, 0, none⟩ (.int .i64 tm)).setCell ⟨w.heap.size, 1, none⟩ (.int .i64 kd)).setCell ⟨w.heap.size, 2, none⟩ (.string da))) := B5.out.trans (keep_below (((keep_setCell _ _ _ _).trans (keep_setCell _ _ _ _)).trans (keep_setCell _ _ _ _)) (fun j hj e => by omega) B5.out.size)
  have Z9 := CS.out _ B9.out
  go_simp
  refine hK.out _ _ Z9 (fun hHeld => ?_)
  clear hK K
  try simp only [Act.put, List.getElem_toArray, List.getElem_cons_succ, List.getElem_cons_zero, List.setIfInBounds_toArray, List.set_cons_zero, List.set_cons_succ]
  refine wpAnyH_take (i := 12) (v := ?vv10) rfl (by kernel_rfl) (by kernel_rfl) (by kernel_rfl) (fun _ _ _ h => h) (Or.inl ⟨by rfl, ?hy10⟩) (by assumption) ?rest10
  case hy10 => (intro w hSw; (try dsimp only at hSw); go_simp; first | done | with_reducible rfl)
  try simp only [Act.put, List.getElem_toArray, List.getElem_cons_succ, List.getElem_cons_zero, List.setIfInBounds_toArray, List.set_cons_zero, List.set_cons_succ]
  refine wpAnyH_done (by kernel_rfl) ?_ _
  clear hHeld
  go_wp2
  refine bodyPost_ret (v := .tuple #[.agg #[.int .i64 tm, .int .i64 kd, .string da], .bool true]) (ret_ctE (p := 4) (u := 5) rfl _ _ w.heap.size _ _ rfl rfl (run_loadVar_row _ _ _ _ _ _ _ R9.out Tryz.underlying52 rfl (by kernel_rfl))) rfl ?_
  exact ⟨rfl, B9.out⟩
end
end Go.Proofs.YtnldjcoajliciaaGreat
namespace Go.Proofs.YtnldjcoajliciaaGreat
open Go.RowKit Go.Maps
set_option linter.unusedVariables false
set_option linter.unusedSimpArgs false

section
variable {w w1 : World} {B nb : Nat} {n : Nd} {ms : List Int} {es : List En}
set_option maxRecDepth 100000 in
set_option maxHeartbeats 1000000 in
theorem nhard_any (h : NdI w B nb n ms es) (hne : ms ≠ []) : Calls Tryz.prog 9 #[.pointer (some ⟨nb, 0, none⟩)] w fun e w' => e = .returned (.tuple #[.int .i64 n.tm, .int .i64 n.vt]) ∧ Below w.heap.size w w' := by
  have IN := hid (nisNone_any h hne)
  have c1 := h.bx.cellAt (o := 1) rfl
  have c2 := h.bx.cellAt (o := 2) rfl
  generalize n.tm = tm at *
  generalize n.vt = vt at *
  clear h hne
  go_enter Tryz.func9, Tryz.ntmps9
  go_wp2_with fail
  refine IN.out.mono ?_
  rintro e w1 ⟨rfl, rfl⟩
  clear IN
  go_wp2
  go_quiet (fail)
  go_wp2
  go_ret2
  exact ⟨rfl, below_drewN (Below.refl _ _) _⟩
end
end Go.Proofs.YtnldjcoajliciaaGreat
namespace Go.Proofs.YtnldjcoajliciaaGreat
open Go.RowKit Go.Maps
set_option linter.unusedVariables false
set_option linter.unusedSimpArgs false

section
variable {w w1 : World} {B nb : Nat} {n : Nd} {ms : List Int} {es : List En}
end
end Go.Proofs.YtnldjcoajliciaaGreat
namespace Go.Proofs.YtnldjcoajliciaaGreat
open Go.RowKit Go.Maps
set_option linter.unusedVariables false
set_option linter.unusedSimpArgs false

def nmA (m : Ms) : Array Value := #[.int .i64 m.kd, .int .i64 m.fr, .int .i64 m.to_, .int .i64 m.tm, .int .i64 m.ix, .int .i64 m.lt, .int .i64 m.cm, .int .i64 m.rd, .int .i64 m.at_]
def msC (v : Value) (m : Ms) : List Value := [.int .i64 m.kd, .int .i64 m.fr, .int .i64 m.to_, .int .i64 m.tm, .int .i64 m.ix, .int .i64 m.lt, .int .i64 m.cm, .int .i64 m.rd, .int .i64 m.at_, .bool m.ys, v, .string m.da]
theorem ix9_0 (m : Ms) (w : World) : (Instr.index 77 (.agg (nmA m)) (.int .i64 ((0 : Nat) : Int))).run Tryz.prog w = .ok (.int .i64 m.kd) w := by kernel_rfl
theorem ix9_1 (m : Ms) (w : World) : (Instr.index 77 (.agg (nmA m)) (.int .i64 ((1 : Nat) : Int))).run Tryz.prog w = .ok (.int .i64 m.fr) w := by kernel_rfl
theorem ix9_2 (m : Ms) (w : World) : (Instr.index 77 (.agg (nmA m)) (.int .i64 ((2 : Nat) : Int))).run Tryz.prog w = .ok (.int .i64 m.to_) w := by kernel_rfl
theorem ix9_3 (m : Ms) (w : World) : (Instr.index 77 (.agg (nmA m)) (.int .i64 ((3 : Nat) : Int))).run Tryz.prog w = .ok (.int .i64 m.tm) w := by kernel_rfl
theorem ix9_4 (m : Ms) (w : World) : (Instr.index 77 (.agg (nmA m)) (.int .i64 ((4 : Nat) : Int))).run Tryz.prog w = .ok (.int .i64 m.ix) w := by kernel_rfl
theorem ix9_5 (m : Ms) (w : World) : (Instr.index 77 (.agg (nmA m)) (.int .i64 ((5 : Nat) : Int))).run Tryz.prog w = .ok (.int .i64 m.lt) w := by kernel_rfl
theorem ix9_6 (m : Ms) (w : World) : (Instr.index 77 (.agg (nmA m)) (.int .i64 ((6 : Nat) : Int))).run Tryz.prog w = .ok (.int .i64 m.cm) w := by kernel_rfl
theorem ix9_7 (m : Ms) (w : World) : (Instr.index 77 (.agg (nmA m)) (.int .i64 ((7 : Nat) : Int))).run Tryz.prog w = .ok (.int .i64 m.rd) w := by kernel_rfl
theorem ix9_8 (m : Ms) (w : World) : (Instr.index 77 (.agg (nmA m)) (.int .i64 ((8 : Nat) : Int))).run Tryz.prog w = .ok (.int .i64 m.at_) w := by kernel_rfl
theorem ix9 (m : Ms) (k : Nat) (h : k < 9) (w : World) : (Instr.index 77 (.agg (nmA m)) (.int .i64 (k : Int))).run Tryz.prog w = .ok (.int .i64 (m.nm.getD k 0)) w := by
  match k, h with
  | 0, _ => exact ix9_0 m w
  | 1, _ => exact ix9_1 m w
  | 2, _ => exact ix9_2 m w
  | 3, _ => exact ix9_3 m w
  | 4, _ => exact ix9_4 m w
  | 5, _ => exact ix9_5 m w
  | 6, _ => exact ix9_6 m w
  | 7, _ => exact ix9_7 m w
  | 8, _ => exact ix9_8 m w
theorem nm_len (m : Ms) : m.nm.length = 9 := rfl
theorem nm_at (m : Ms) (k : Nat) (h : k < 9) : m.nm.getD k 0 ∈ m.nm := by
  rw [List.getD_eq_getElem?_getD, List.getElem?_eq_getElem (by rw [nm_len]; exact h)]
  exact List.getElem_mem _
section
variable {m : Ms}
theorem mo_kd0 (h : m.kd < 1) : msOk m = false := by unfold msOk; rw [decide_eq_false (show ¬ 1 ≤ m.kd by omega)]; simp
theorem mo_kd1 (h : m.kd > 6) : msOk m = false := by unfold msOk; rw [decide_eq_false (show ¬ m.kd ≤ 6 by omega)]; simp
theorem mo_fr (h : ndOk m.fr = false) : msOk m = false := by unfold msOk; rw [h]; simp
theorem mo_to (h : ndOk m.to_ = false) : msOk m = false := by unfold msOk; rw [h]; simp
theorem mo_eq (h : m.fr = m.to_) : msOk m = false := by unfold msOk; rw [decide_eq_true h]; simp
theorem mo_nm (k : Nat) (hk : k < 9) (h : tmB (m.nm.getD k 0) = false) : msOk m = false := by
  have h1 : m.nm.all tmB = false := by
    rw [List.all_eq_false]
    exact ⟨_, nm_at m k hk, by rw [h]; simp⟩
  unfold msOk; rw [h1]; simp
theorem mo_lt (h : m.lt > m.tm) : msOk m = false := by unfold msOk; rw [decide_eq_false (show ¬ m.lt ≤ m.tm by omega)]; simp
theorem mo_es (h : (m.es.length : Int) > 16) : msOk m = false := by unfold msOk; rw [decide_eq_false (show ¬ m.es.length ≤ 16 by omega)]; simp
theorem mo_da (h : (m.da.size : Int) > 4096) : msOk m = false := by unfold msOk; rw [decide_eq_false (show ¬ m.da.size ≤ 4096 by omega)]; simp
theorem mo_ok (h0 : 1 ≤ m.kd) (h1 : m.kd ≤ 6) (h2 : ndOk m.fr = true) (h3 : ndOk m.to_ = true) (h4 : m.fr ≠ m.to_) (h5 : ∀ k, k < 9 → tmB (m.nm.getD k 0) = true) (h6 : m.lt ≤ m.tm) (h7 : (m.es.length : Int) ≤ 16) (h8 : (m.da.size : Int) ≤ 4096) : msOk m = mesOk m.lt m.tm m.es := by
  have ha : m.nm.all tmB = true := by
    rw [List.all_eq_true]
    intro x hx
    obtain ⟨k, hk, rfl⟩ := List.mem_iff_getElem.1 hx
    have := h5 k (by rw [nm_len] at hk; exact hk)
    rw [List.getD_eq_getElem?_getD, List.getElem?_eq_getElem hk] at this
    exact this
  unfold msOk
  rw [decide_eq_true h0, decide_eq_true h1, h2, h3, decide_eq_false h4, ha, decide_eq_true h6, decide_eq_true (show m.es.length ≤ 16 by omega), decide_eq_true (show m.da.size ≤ 4096 by omega)]
  simp
end
theorem tmB_neg {x : Int} (h : x < 0) : tmB x = false := by unfold tmB; rw [decide_eq_false (show ¬ 0 ≤ x by omega)]; rfl
theorem tmB_big {x : Int} (h : x > 1099511627776) : tmB x = false := by unfold tmB; rw [decide_eq_false (show ¬ x ≤ 1099511627776 by omega)]; simp
theorem tmB_ok {x : Int} (h : ¬ x < 0) (h1 : ¬ x > 1099511627776) : tmB x = true := by unfold tmB; rw [decide_eq_true (show 0 ≤ x by omega), decide_eq_true (show x ≤ 1099511627776 by omega)]; rfl
set_option maxRecDepth 100000 in
set_option maxHeartbeats 2000000 in
theorem rnumbers_any (ad : Option Addr) (n cap : Nat) (m : Ms) (w : World) : Calls Tryz.prog 39 #[msV (.slice ad n cap) m] w fun e w' => e = .returned (.agg (nmA m)) ∧ Below w.heap.size w w' := by
  have R9 : Hid (RowIs ((w.alloc (.cells #[.int .i64 m.kd, .int .i64 m.fr, .int .i64 m.to_, .int .i64 m.tm, .int .i64 m.ix, .int .i64 m.lt, .int .i64 m.cm, .int .i64 m.rd, .int .i64 m.at_, .bool m.ys, .slice ad n cap, .string m.da] 40)).alloc (.cells #[.int .i64 m.kd, .int .i64 m.fr, .int .i64 m.to_, .int .i64 m.tm, .int .i64 m.ix, .int .i64 m.lt, .int .i64 m.cm, .int .i64 m.rd, .int .i64 m.at_] 77)) (w.heap.size + 1) (nmA m).toList 77) := by
    have := srow (w.alloc (.cells #[.int .i64 m.kd, .int .i64 m.fr, .int .i64 m.to_, .int .i64 m.tm, .int .i64 m.ix, .int .i64 m.lt, .int .i64 m.cm, .int .i64 m.rd, .int .i64 m.at_, .bool m.ys, .slice ad n cap, .string m.da] 40)) [.int .i64 m.kd, .int .i64 m.fr, .int .i64 m.to_, .int .i64 m.tm, .int .i64 m.ix, .int .i64 m.lt, .int .i64 m.cm, .int .i64 m.rd, .int .i64 m.at_] 77
    rwa [World.size_alloc] at this
  have B9 : Hid (Below w.heap.size w ((w.alloc (.cells #[.int .i64 m.kd, .int .i64 m.fr, .int .i64 m.to_, .int .i64 m.tm, .int .i64 m.ix, .int .i64 m.lt, .int .i64 m.cm, .int .i64 m.rd, .int .i64 m.at_, .bool m.ys, .slice ad n cap, .string m.da] 40)).alloc (.cells #[.int .i64 m.kd, .int .i64 m.fr, .int .i64 m.to_, .int .i64 m.tm, .int .i64 m.ix, .int .i64 m.lt, .int .i64 m.cm, .int .i64 m.rd, .int .i64 m.at_] 77))) := below_al (below_al (Below.refl _ _) _) _
  have Q0 : Hid (RowIs ((w.alloc (.cells #[.int .i64 m.kd, .int .i64 m.fr, .int .i64 m.to_, .int .i64 m.tm, .int .i64 m.ix, .int .i64 m.lt, .int .i64 m.cm, .int .i64 m.rd, .int .i64 m.at_, .bool m.ys, .slice ad n cap, .string m.da] 40)).alloc (.cells #[.int .i64 0, .int .i64 0, .int .i64 0, .int .i64 0, .int .i64 0, .int .i64 0, .int .i64 0, .int .i64 0, .int .i64 0] 77)) w.heap.size [.int .i64 m.kd, .int .i64 m.fr, .int .i64 m.to_, .int .i64 m.tm, .int .i64 m.ix, .int .i64 m.lt, .int .i64 m.cm, .int .i64 m.rd, .int .i64 m.at_, .bool m.ys, .slice ad n cap, .string m.da] 40) := row_old (srow w _ _) _
  have y0 := Q0.out.cellAt (o := 0) rfl
  have y1 := Q0.out.cellAt (o := 1) rfl
  have y2 := Q0.out.cellAt (o := 2) rfl
  have y3 := Q0.out.cellAt (o := 3) rfl
  have y4 := Q0.out.cellAt (o := 4) rfl
  have y5 := Q0.out.cellAt (o := 5) rfl
  have y6 := Q0.out.cellAt (o := 6) rfl
  have y7 := Q0.out.cellAt (o := 7) rfl
  have y8 := Q0.out.cellAt (o := 8) rfl
  have y9 := Q0.out.cellAt (o := 9) rfl
  have y10 := Q0.out.cellAt (o := 10) rfl
  have y11 := Q0.out.cellAt (o := 11) rfl
  unfold msV
  go_enter Tryz.func39, Tryz.ntmps39
  go_wp2
  exact bodyPost_ret (v := .agg (nmA m)) (results_cell_row (p := 2) rfl _ _ (w.heap.size + 1) 77 (nmA m) (0, 0) _ rfl R9.out Tryz.underlying77 rfl (by kernel_rfl)) rfl ⟨rfl, B9.out⟩
set_option maxRecDepth 100000 in
set_option maxHeartbeats 4000000 in
theorem mcheck_any (v : Value) (m : Ms) (w : World) (hv : EntI w v m.es) (hl : m.es.length ≤ 17592186044416) : Calls Tryz.prog 14 #[msV v m] w fun e w' => e = .returned (.bool (msOk m)) ∧ Below w.heap.size w w' := by
  obtain ⟨ad, cap, rfl, -⟩ := hv.form
  obtain ⟨R, hR⟩ : ∃ R, R = msOk m := ⟨_, rfl⟩
  rw [← hR]
  have HR := hid hR
  have R0 : Hid (RowIs (w.alloc (.cells #[.int .i64 m.kd, .int .i64 m.fr, .int .i64 m.to_, .int .i64 m.tm, .int .i64 m.ix, .int .i64 m.lt, .int .i64 m.cm, .int .i64 m.rd, .int .i64 m.at_, .bool m.ys, .slice ad m.es.length cap, .string m.da] 40)) w.heap.size [.int .i64 m.kd, .int .i64 m.fr, .int .i64 m.to_, .int .i64 m.tm, .int .i64 m.ix, .int .i64 m.lt, .int .i64 m.cm, .int .i64 m.rd, .int .i64 m.at_, .bool m.ys, .slice ad m.es.length cap, .string m.da] 40) := srow w _ _
  have B0 : Hid (Below w.heap.size w (w.alloc (.cells #[.int .i64 m.kd, .int .i64 m.fr, .int .i64 m.to_, .int .i64 m.tm, .int .i64 m.ix, .int .i64 m.lt, .int .i64 m.cm, .int .i64 m.rd, .int .i64 m.at_, .bool m.ys, .slice ad m.es.length cap, .string m.da] 40))) := below_al (Below.refl _ _) _
  have NF : Hid (∀ W, Calls Tryz.prog 16 #[.int .i64 m.fr] W fun e w' => e = .returned (.bool (ndOk m.fr)) ∧ w' = W) := fun W => nodeIs_any _ W
  have NT : Hid (∀ W, Calls Tryz.prog 16 #[.int .i64 m.to_] W fun e w' => e = .returned (.bool (ndOk m.to_)) ∧ w' = W) := fun W => nodeIs_any _ W
  have NU := hid (fun W => rnumbers_any ad m.es.length cap m W)
  have AE : Hid (∀ W, Below w.heap.size w W → Calls Tryz.prog 18 #[.slice ad m.es.length cap, .int .i64 m.lt, .int .i64 m.tm] W fun e w' => e = .returned (.bool (mesOk m.lt m.tm m.es)) ∧ Below W.heap.size W w') := fun W b => areEnt_any _ m.es m.lt m.tm W (hv.next b) hl
  have y0 := R0.out.cellAt (o := 0) rfl
  have y1 := R0.out.cellAt (o := 1) rfl
  have y2 := R0.out.cellAt (o := 2) rfl
  have y3 := R0.out.cellAt (o := 3) rfl
  have y4 := R0.out.cellAt (o := 4) rfl
  have y5 := R0.out.cellAt (o := 5) rfl
  have y6 := R0.out.cellAt (o := 6) rfl
  have y7 := R0.out.cellAt (o := 7) rfl
  have y8 := R0.out.cellAt (o := 8) rfl
  have y9 := R0.out.cellAt (o := 9) rfl
  have y10 := R0.out.cellAt (o := 10) rfl
  have y11 := R0.out.cellAt (o := 11) rfl
  clear hv hl hR
  unfold msV at NU ⊢
  by_cases k0 : m.kd < 1
  case pos =>
    have t0 : decide (m.kd < 1) = true := decide_eq_true k0
    have hr : R = false := by rw [HR.out]; exact mo_kd0 k0
    subst hr
    clear HR k0 NF NT NU AE
    go_enter Tryz.func14, Tryz.ntmps14
    go_wp2
    go_ret
    exact ⟨rfl, B0.out⟩
  case neg =>
  have t0 : decide (m.kd < 1) = false := decide_eq_false k0
  by_cases k1 : m.kd > 6
  case pos =>
    have t1 : decide (m.kd > 6) = true := decide_eq_true k1
    have hr : R = false := by rw [HR.out]; exact mo_kd1 k1
    subst hr
    clear HR k0 k1 NF NT NU AE
    go_enter Tryz.func14, Tryz.ntmps14
    go_wp2
    go_ret
    exact ⟨rfl, B0.out⟩
  case neg =>
  have t1 : decide (m.kd > 6) = false := decide_eq_false k1
  have HK : Hid (1 ≤ m.kd ∧ m.kd ≤ 6) := ⟨by omega, by omega⟩
  clear k0 k1
  go_enter Tryz.func14, Tryz.ntmps14
  go_wp2_with fail
  refine (NF.out _).mono ?_
  rintro e w1 ⟨rfl, rfl⟩
  clear NF
  cases hf : ndOk m.fr
  case false =>
    have hr : R = false := by rw [HR.out]; exact mo_fr hf
    subst hr
    clear HR NT NU AE HK hf
    go_wp2
    go_ret
    exact ⟨rfl, B0.out⟩
  case true =>
  have HF := hid hf
  clear hf
  go_wp2_with fail
  refine (NT.out _).mono ?_
  rintro e w1 ⟨rfl, rfl⟩
  clear NT
  cases ht : ndOk m.to_
  case false =>
    have hr : R = false := by rw [HR.out]; exact mo_to ht
    subst hr
    clear HR NU AE HK ht HF
    go_wp2
    go_ret
    exact ⟨rfl, B0.out⟩
  case true =>
  have HT := hid ht
  clear ht
  by_cases k2 : m.fr = m.to_
  case pos =>
    have t2 : decide (m.fr = m.to_) = true := decide_eq_true k2
    have t2b : (m.fr == m.to_) = true := beq_iff_eq.2 k2
    have hr : R = false := by rw [HR.out]; exact mo_eq k2
    subst hr
    clear HR NU AE HK HT HF k2
    go_wp2
    go_ret
    exact ⟨rfl, B0.out⟩
  case neg =>
  have t2 : decide (m.fr = m.to_) = false := decide_eq_false k2
  have t2b : (m.fr == m.to_) = false := beq_eq_false_iff_ne.2 k2
  have HE := hid k2
  clear k2
  go_wp2_with fail
  refine (NU.out _).mono ?_
  rintro e w1 ⟨rfl, b1⟩
  have B1 := hid (below_on B0.out b1)
  have R1 := hid (R0.out.keep (b1.keep (fun _ => False)) (fun h => h))
  have IX : Hid (∀ (k : Nat), k < 9 → ∀ W, (Instr.index 77 (.agg (nmA m)) (.int .i64 (k : Int))).run Tryz.prog W = .ok (.int .i64 (m.nm.getD k 0)) W) := fun k h W => ix9 m k h W
  clear NU b1 B0 R0 y0 y1 y2 y3 y4 y5 y6 y7 y8 y9 y10 y11 t0 t1 t2 t2b
  generalize nmA m = A9 at *
  go_wp2
  go_loopw [32] (fun i wr => ∃ (k : Nat), k ≤ 9 ∧ i = .int .i64 (k : Int) ∧ wr = w1 ∧ Hid (∀ j, j < k → tmB (m.nm.getD j 0) = true)) (fun i _ => 9 - (intOf i).toNat)
  case atStart => exact ⟨0, by omega, rfl, rfl, fun j hj => by omega⟩
  case round =>
    obtain ⟨k, hk, rfl, rfl, HJ⟩ := hrel
    by_cases hlt : k < 9
    · have r0 : (0 : Int) ≤ (k : Int) := by omega
      have r1 : (k : Int) < 9 := by omega
      have ix := IX.out k hlt
      have HLT := hid hlt
      generalize hx : m.nm.getD k 0 = x at *
      have HX := hid hx
      clear hx IX AE
      by_cases k3 : x < 0
      case pos =>
        have t3 : decide (x < 0) = true := decide_eq_true k3
        have hr : R = false := by rw [HR.out]; exact mo_nm k HLT.out (by rw [HX.out]; exact tmB_neg k3)
        subst hr
        clear HR HK HT HF HE HJ HX k3 hlt hk
        go_wp2
        go_ret
        exact ⟨rfl, B1.out⟩
      case neg =>
      have t3 : decide (x < 0) = false := decide_eq_false k3
      by_cases k4 : x > 1099511627776
      case pos =>
        have t4 : decide (x > 1099511627776) = true := decide_eq_true k4
        have hr : R = false := by rw [HR.out]; exact mo_nm k HLT.out (by rw [HX.out]; exact tmB_big k4)
        subst hr
        clear HR HK HT HF HE HJ HX k3 k4 hlt hk
        go_wp2
        go_ret
        exact ⟨rfl, B1.out⟩
      case neg =>
      have t4 : decide (x > 1099511627776) = false := decide_eq_false k4
      have HJ2 : Hid (∀ j, j < k + 1 → tmB (m.nm.getD j 0) = true) := fun j hj => by
        by_cases e : j = k
        · subst e; rw [HX.out]; exact tmB_ok k3 k4
        · exact HJ.out j (by omega)
      clear HR HK HT HF HE HJ HX k3 k4 R1 B1
      go_wp2
      exact ⟨⟨k + 1, by omega, by go_num, by first | rfl | trivial, HJ2⟩, by simp [intOf]; omega⟩
    · have hk9 : k = 9 := by omega
      subst hk9
      clear IX hk hlt
      have y3 := R1.out.cellAt (o := 3) rfl
      have y5 := R1.out.cellAt (o := 5) rfl
      have y10 := R1.out.cellAt (o := 10) rfl
      have y11 := R1.out.cellAt (o := 11) rfl
      by_cases k5 : m.lt > m.tm
      case pos =>
        have t5 : decide (m.lt > m.tm) = true := decide_eq_true k5
        have hr : R = false := by rw [HR.out]; exact mo_lt k5
        subst hr
        clear HR HK HT HF HE HJ AE k5
        go_wp2
        go_ret
        exact ⟨rfl, B1.out⟩
      case neg =>
      have t5 : decide (m.lt > m.tm) = false := decide_eq_false k5
      by_cases k6 : (m.es.length : Int) > 16
      case pos =>
        have t6 : decide ((m.es.length : Int) > 16) = true := decide_eq_true k6
        have hr : R = false := by rw [HR.out]; exact mo_es k6
        subst hr
        clear HR HK HT HF HE HJ AE k5
        go_wp2
        go_ret
        exact ⟨rfl, B1.out⟩
      case neg =>
      have t6 : decide ((m.es.length : Int) > 16) = false := decide_eq_false k6
      by_cases k7 : (m.da.size : Int) > 4096
      case pos =>
        have t7 : decide ((m.da.size : Int) > 4096) = true := decide_eq_true k7
        have hr : R = false := by rw [HR.out]; exact mo_da k7
        subst hr
        clear HR HK HT HF HE HJ AE k5 k6
        go_wp2
        go_ret
        exact ⟨rfl, B1.out⟩
      case neg =>
      have t7 : decide ((m.da.size : Int) > 4096) = false := decide_eq_false k7
      have hr : R = mesOk m.lt m.tm m.es := by rw [HR.out]; exact mo_ok HK.out.1 HK.out.2 HF.out HT.out HE.out HJ.out (by omega) (by omega) (by omega)
      have AE2 := hid (AE.out _ B1.out)
      rw [← hr] at AE2
      clear HR HK HT HF HE HJ AE k5 k6 k7 hr
      go_wp2_with fail
      refine AE2.out.mono ?_
      rintro e w2 ⟨rfl, b2⟩
      have B2 := hid (below_on B1.out b2)
      clear AE2 b2 B1 R1 y3 y5 y10 y11
      go_wp2
      go_ret
      exact ⟨rfl, B2.out⟩
end Go.Proofs.YtnldjcoajliciaaGreat
namespace Go.Proofs.YtnldjcoajliciaaGreat
open Go.RowKit Go.Maps
set_option linter.unusedVariables false
set_option linter.unusedSimpArgs false

section
variable {w w1 : World} {B nb : Nat} {n : Nd} {ms : List Int} {es : List En}
/-- a message with nothing in it -/
def mgV (kd fr to_ tm : Int) (ys : Bool) : Ms := ⟨kd, fr, to_, tm, 0, 0, 0, 0, 0, ys, [], ⟨#[]⟩⟩
set_option maxRecDepth 100000 in
set_option maxHeartbeats 4000000 in
theorem nmessage_any (h : NdI w B nb n ms es) (kd x : Int) : Calls Tryz.prog 47 #[.pointer (some ⟨nb, 0, none⟩), .int .i64 kd, .int .i64 x] w fun e w' => e = .returned (msV (.slice none 0 0) (mgV kd n.me x n.tm false)) ∧ Below w.heap.size w w' := by
  show Calls _ _ _ _ fun e w' => e = .returned (.agg #[.int .i64 kd, .int .i64 n.me, .int .i64 x, .int .i64 n.tm, .int .i64 0, .int .i64 0, .int .i64 0, .int .i64 0, .int .i64 0, .bool false, .slice none 0 0, .string ⟨#[]⟩]) ∧ _
  have h1 := h.next (below_al (Below.refl _ _) (.cells #[.int .i64 0, .int .i64 0, .int .i64 0, .int .i64 0, .int .i64 0, .int .i64 0, .int .i64 0, .int .i64 0, .int .i64 0, .bool false, .slice none 0 0, .string ⟨#[]⟩] 40))
  have c0 := h1.bx.cellAt (o := 0) rfl
  have c1 := h1.bx.cellAt (o := 1) rfl
  have RZ : Hid (RowIs (w.alloc (.cells #[.int .i64 0, .int .i64 0, .int .i64 0, .int .i64 0, .int .i64 0, .int .i64 0, .int .i64 0, .int .i64 0, .int .i64 0, .bool false, .slice none 0 0, .string ⟨#[]⟩] 40)).drew w.heap.size [.int .i64 0, .int .i64 0, .int .i64 0, .int .i64 0, .int .i64 0, .int .i64 0, .int .i64 0, .int .i64 0, .int .i64 0, .bool false, .slice none 0 0, .string ⟨#[]⟩] 40) := srow w _ _
  have BZ : Hid (Below w.heap.size w (w.alloc (.cells #[.int .i64 0, .int .i64 0, .int .i64 0, .int .i64 0, .int .i64 0, .int .i64 0, .int .i64 0, .int .i64 0, .int .i64 0, .bool false, .slice none 0 0, .string ⟨#[]⟩] 40)).drew) := (below_al (Below.refl _ _) _).drew
  have KN : Hid (∀ {W}, Below w.heap.size w W → W.cell? ⟨nb, 0, none⟩ = some (.int .i64 n.me) ∧ W.cell? ⟨nb, 1, none⟩ = some (.int .i64 n.tm)) := fun b => ⟨(h.next b).bx.cellAt (o := 0) rfl, (h.next b).bx.cellAt (o := 1) rfl⟩
  clear h h1
  generalize n.me = me at *
  generalize n.tm = tm at *
  go_enter Tryz.func47, Tryz.ntmps47
  go_wp2
  refine wp_region_held_drew (S := fun W => W.cell? ⟨nb, 0, none⟩ = some (.int .i64 me) ∧ W.cell? ⟨nb, 1, none⟩ = some (.int .i64 tm)) (by kernel_rfl) ⟨c0, c1⟩ (fun hHeld => ?_)
  generalize (w.alloc (.cells #[.int .i64 0, .int .i64 0, .int .i64 0, .int .i64 0, .int .i64 0, .int .i64 0, .int .i64 0, .int .i64 0, .int .i64 0, .bool false, .slice none 0 0, .string ⟨#[]⟩] 40)).drew = V at *
  refine wpAnyH_take (i := 0) (v := ?vv1) rfl (by kernel_rfl) (by kernel_rfl) (by kernel_rfl) (fun _ _ _ h => h) (Or.inl ⟨by rfl, ?hy1⟩) (by assumption) ?rest1
  case hy1 => (intro w hSw; (try dsimp only at hSw); go_simp; first | done | with_reducible rfl)
  try simp only [Act.put, List.getElem_toArray, List.getElem_cons_succ, List.getElem_cons_zero, List.setIfInBounds_toArray, List.set_cons_zero, List.set_cons_succ]
  refine wpAnyH_take (i := 1) (v := ?vv2) rfl (by kernel_rfl) (by kernel_rfl) (by kernel_rfl) (fun _ _ _ h => h) (Or.inl ⟨by rfl, ?hy2⟩) (by assumption) ?rest2
  case hy2 => (intro w hSw; (try dsimp only at hSw); go_simp; first | done | with_reducible rfl)
  try simp only [Act.put, List.getElem_toArray, List.getElem_cons_succ, List.getElem_cons_zero, List.setIfInBounds_toArray, List.set_cons_zero, List.set_cons_succ]
  refine wpAnyH_take (i := 2) (v := ?vv3) rfl (by kernel_rfl) (by kernel_rfl) (by kernel_rfl) (fun _ _ _ h => h) (Or.inl ⟨by rfl, ?hy3⟩) (by assumption) ?rest3
  case hy3 => (intro w hSw; (try dsimp only at hSw); go_simp; first | done | with_reducible rfl)
  try simp only [Act.put, List.getElem_toArray, List.getElem_cons_succ, List.getElem_cons_zero, List.setIfInBounds_toArray, List.set_cons_zero, List.set_cons_succ]
  refine wpAnyH_take (i := 3) (v := ?vv4) rfl (by kernel_rfl) (by kernel_rfl) (by kernel_rfl) (fun _ _ _ h => h) (Or.inl ⟨by rfl, ?hy4⟩) (by assumption) ?rest4
  case hy4 => (intro w hSw; (try dsimp only at hSw); go_simp; first | done | with_reducible rfl)
  try simp only [Act.put, List.getElem_toArray, List.getElem_cons_succ, List.getElem_cons_zero, List.setIfInBounds_toArray, List.set_cons_zero, List.set_cons_succ]
  refine wpAnyH_take (i := 4) (v := ?vv5) rfl (by kernel_rfl) (by kernel_rfl) (by kernel_rfl) (fun _ _ _ h => h) (Or.inl ⟨by rfl, ?hy5⟩) (by assumption) ?rest5
  case hy5 => (intro w hSw; (try dsimp only at hSw); go_simp; first | done | with_reducible rfl)
  try simp only [Act.put, List.getElem_toArray, List.getElem_cons_succ, List.getElem_cons_zero, List.setIfInBounds_toArray, List.set_cons_zero, List.set_cons_succ]
  refine wpAnyH_take (i := 5) (v := ?vv6) rfl (by kernel_rfl) (by kernel_rfl) (by kernel_rfl) (fun _ _ _ h => h) (Or.inl ⟨by rfl, ?hy6⟩) (by assumption) ?rest6
  case hy6 => (intro w hSw; (try dsimp only at hSw); go_simp; first | done | with_reducible rfl)
  try simp only [Act.put, List.getElem_toArray, List.getElem_cons_succ, List.getElem_cons_zero, List.setIfInBounds_toArray, List.set_cons_zero, List.set_cons_succ]
  refine wpAnyH_take (i := 6) (v := ?vv7) rfl (by kernel_rfl) (by kernel_rfl) (by kernel_rfl) (fun _ _ _ h => h) (Or.inl ⟨by rfl, ?hy7⟩) (by assumption) ?rest7
  case hy7 => (intro w hSw; (try dsimp only at hSw); go_simp; first | done | with_reducible rfl)
  try simp only [Act.put, List.getElem_toArray, List.getElem_cons_succ, List.getElem_cons_zero, List.setIfInBounds_toArray, List.set_cons_zero, List.set_cons_succ]
  refine wpAnyH_take (i := 7) (v := ?vv8) rfl (by kernel_rfl) (by kernel_rfl) (by kernel_rfl) (fun _ _ _ h => h) (Or.inl ⟨by rfl, ?hy8⟩) (by assumption) ?rest8
  case hy8 => (intro w hSw; (try dsimp only at hSw); go_simp; first | done | with_reducible rfl)
  try simp only [Act.put, List.getElem_toArray, List.getElem_cons_succ, List.getElem_cons_zero, List.setIfInBounds_toArray, List.set_cons_zero, List.set_cons_succ]
  refine wpAnyH_take (i := 8) (v := ?vv9) rfl (by kernel_rfl) (by kernel_rfl) (by kernel_rfl) (fun _ _ _ h => h) (Or.inl ⟨by rfl, ?hy9⟩) (by assumption) ?rest9
  case hy9 => (intro w hSw; (try dsimp only at hSw); go_simp; first | done | with_reducible rfl)
  try simp only [Act.put, List.getElem_toArray, List.getElem_cons_succ, List.getElem_cons_zero, List.setIfInBounds_toArray, List.set_cons_zero, List.set_cons_succ]
  refine wpAnyH_take (i := 9) (v := ?vv10) rfl (by kernel_rfl) (by kernel_rfl) (by kernel_rfl) (fun _ _ _ h => h) (Or.inl ⟨by rfl, ?hy10⟩) (by assumption) ?rest10
  case hy10 => (intro w hSw; (try dsimp only at hSw); go_simp; first | done | with_reducible rfl)
  try simp only [Act.put, List.getElem_toArray, List.getElem_cons_succ, List.getElem_cons_zero, List.setIfInBounds_toArray, List.set_cons_zero, List.set_cons_succ]
  refine wpAnyH_take (i := 10) (v := ?vv11) rfl (by kernel_rfl) (by kernel_rfl) (by kernel_rfl) (fun _ _ _ h => h) (Or.inl ⟨by rfl, ?hy11⟩) (by assumption) ?rest11
  case hy11 => (intro w hSw; (try dsimp only at hSw); go_simp; first | done | with_reducible rfl)
  try simp only [Act.put, List.getElem_toArray, List.getElem_cons_succ, List.getElem_cons_zero, List.setIfInBounds_toArray, List.set_cons_zero, List.set_cons_succ]
  refine wpAnyH_ready (rs := [11]) (by kernel_rfl) (by simp) ?_
  refine AllReadyH.cons rfl (fun K hK => ?_) AllReadyH.nil
  have f0 := RZ.out.frozen (o := 0)
  have f1 := RZ.out.frozen (o := 1)
  have f2 := RZ.out.frozen (o := 2)
  have f3 := RZ.out.frozen (o := 3)
  have f4 := RZ.out.frozen (o := 4)
  have f5 := RZ.out.frozen (o := 5)
  have f6 := RZ.out.frozen (o := 6)
  have f7 := RZ.out.frozen (o := 7)
  have f8 := RZ.out.frozen (o := 8)
  have f9 := RZ.out.frozen (o := 9)
  have f10 := RZ.out.frozen (o := 10)
  have f11 := RZ.out.frozen (o := 11)
  have d0 := RZ.out.cellAt (o := 0) rfl
  have d1 := RZ.out.cellAt (o := 1) rfl
  have d2 := RZ.out.cellAt (o := 2) rfl
  have d3 := RZ.out.cellAt (o := 3) rfl
  have d4 := RZ.out.cellAt (o := 4) rfl
  have d5 := RZ.out.cellAt (o := 5) rfl
  have d6 := RZ.out.cellAt (o := 6) rfl
  have d7 := RZ.out.cellAt (o := 7) rfl
  have d8 := RZ.out.cellAt (o := 8) rfl
  have d9 := RZ.out.cellAt (o := 9) rfl
  have d10 := RZ.out.cellAt (o := 10) rfl
  have d11 := RZ.out.cellAt (o := 11) rfl
  have RF : Hid (RowIs ((((((((((((V.setCell ⟨w.heap.size, 0, none⟩ (.int .i64 kd)).setCell ⟨w.heap.size, 1, none⟩ (.int .i64 me)).setCell ⟨w.heap.size, 2, none⟩ (.int .i64 x)).setCell ⟨w.heap.size, 3, none⟩ (.int .i64 tm)).setCell ⟨w.heap.size, 4, none⟩ (.int .i64 0)).setCell ⟨w.heap.size, 5, none⟩ (.int .i64 0)).setCell ⟨w.heap.size, 6, none⟩ (.int .i64 0)).setCell ⟨w.heap.size, 7, none⟩ (.int .i64 0)).setCell ⟨w.heap.size, 8, none⟩ (.int .i64 0)).setCell ⟨w.heap.size, 9, none⟩ (.bool false)).setCell ⟨w.heap.size, 10, none⟩ (.slice none 0 0)).setCell ⟨w.heap.size, 11, none⟩ (.string ⟨#[]⟩)) w.heap.size [.int .i64 kd, .int .i64 me, .int .i64 x, .int .i64 tm, .int .i64 0, .int .i64 0, .int .i64 0, .int .i64 0, .int .i64 0, .bool false, .slice none 0 0, .string ⟨#[]⟩] 40 ∧ Below w.heap.size w ((((((((((((V.setCell ⟨w.heap.size, 0, none⟩ (.int .i64 kd)).setCell ⟨w.heap.size, 1, none⟩ (.int .i64 me)).setCell ⟨w.heap.size, 2, none⟩ (.int .i64 x)).setCell ⟨w.heap.size, 3, none⟩ (.int .i64 tm)).setCell ⟨w.heap.size, 4, none⟩ (.int .i64 0)).setCell ⟨w.heap.size, 5, none⟩ (.int .i64 0)).setCell ⟨w.heap.size, 6, none⟩ (.int .i64 0)).setCell ⟨w.heap.size, 7, none⟩ (.int .i64 0)).setCell ⟨w.heap.size, 8, none⟩ (.int .i64 0)).setCell ⟨w.heap.size, 9, none⟩ (.bool false)).setCell ⟨w.heap.size, 10, none⟩ (.slice none 0 0)).setCell ⟨w.heap.size, 11, none⟩ (.string ⟨#[]⟩))) := ⟨((((((((((((RZ.out.set 0 (.int .i64 kd)).set 1 (.int .i64 me)).set 2 (.int .i64 x)).set 3 (.int .i64 tm)).set 4 (.int .i64 0)).set 5 (.int .i64 0)).set 6 (.int .i64 0)).set 7 (.int .i64 0)).set 8 (.int .i64 0)).set 9 (.bool false)).set 10 (.slice none 0 0)).set 11 (.string ⟨#[]⟩)), BZ.out.trans (keep_below ((((((((((((keep_setCell _ _ _ _).trans (keep_setCell _ _ _ _)).trans (keep_setCell _ _ _ _)).trans (keep_setCell _ _ _ _)).trans (keep_setCell _ _ _ _)).trans (keep_setCell _ _ _ _)).trans (keep_setCell _ _ _ _)).trans (keep_setCell _ _ _ _)).trans (keep_setCell _ _ _ _)).trans (keep_setCell _ _ _ _)).trans (keep_setCell _ _ _ _)).trans (keep_setCell _ _ _ _)) (fun j hj e => by omega) BZ.out.size)⟩
  have FF := hid (KN.out RF.out.2)
  clear RZ BZ c0 c1
  go_simp
  refine hK.out _ _ ⟨FF.out.1, FF.out.2⟩ (fun hHeld => ?_)
  clear hK K
  try simp only [Act.put, List.getElem_toArray, List.getElem_cons_succ, List.getElem_cons_zero, List.setIfInBounds_toArray, List.set_cons_zero, List.set_cons_succ]
  refine wpAnyH_done (by kernel_rfl) ?_ _
  go_wp2
  exact bodyPost_ret (v := .agg #[.int .i64 kd, .int .i64 me, .int .i64 x, .int .i64 tm, .int .i64 0, .int .i64 0, .int .i64 0, .int .i64 0, .int .i64 0, .bool false, .slice none 0 0, .string ⟨#[]⟩]) (results_cell_row (p := 6) rfl _ _ w.heap.size 40 #[.int .i64 kd, .int .i64 me, .int .i64 x, .int .i64 tm, .int .i64 0, .int .i64 0, .int .i64 0, .int .i64 0, .int .i64 0, .bool false, .slice none 0 0, .string ⟨#[]⟩] (0, 0) _ rfl RF.out.1 Tryz.underlying40 rfl (by kernel_rfl)) rfl ⟨rfl, RF.out.2⟩
set_option maxRecDepth 100000 in
set_option maxHeartbeats 4000000 in
theorem only_yes (v : Value) (m : Ms) (w : World) (hv : EntI w v m.es) (hl : m.es.length ≤ 17592186044416) (ho : msOk m = true) : Calls Tryz.prog 50 #[msV v m] w fun e w' => ∃ b, e = .returned (.slice (some ⟨b, 0, none⟩) 1 1) ∧ w.heap.size ≤ b ∧ RowIs w' b (msC v m) 40 ∧ Below w.heap.size w w' := by
  have R0 : Hid (RowIs (w.alloc (.cells #[.int .i64 m.kd, .int .i64 m.fr, .int .i64 m.to_, .int .i64 m.tm, .int .i64 m.ix, .int .i64 m.lt, .int .i64 m.cm, .int .i64 m.rd, .int .i64 m.at_, .bool m.ys, v, .string m.da] 40)) w.heap.size [.int .i64 m.kd, .int .i64 m.fr, .int .i64 m.to_, .int .i64 m.tm, .int .i64 m.ix, .int .i64 m.lt, .int .i64 m.cm, .int .i64 m.rd, .int .i64 m.at_, .bool m.ys, v, .string m.da] 40) := srow w _ _
  have B0 : Hid (Below w.heap.size w (w.alloc (.cells #[.int .i64 m.kd, .int .i64 m.fr, .int .i64 m.to_, .int .i64 m.tm, .int .i64 m.ix, .int .i64 m.lt, .int .i64 m.cm, .int .i64 m.rd, .int .i64 m.at_, .bool m.ys, v, .string m.da] 40))) := below_al (Below.refl _ _) _
  have CK : Hid (∀ W, Below w.heap.size w W → Calls Tryz.prog 14 #[.agg #[.int .i64 m.kd, .int .i64 m.fr, .int .i64 m.to_, .int .i64 m.tm, .int .i64 m.ix, .int .i64 m.lt, .int .i64 m.cm, .int .i64 m.rd, .int .i64 m.at_, .bool m.ys, v, .string m.da]] W fun e w' => e = .returned (.bool true) ∧ Below W.heap.size W w') := fun W b => by rw [← ho]; exact mcheck_any v m W (hv.next b) hl
  have MC : Hid ([.int .i64 m.kd, .int .i64 m.fr, .int .i64 m.to_, .int .i64 m.tm, .int .i64 m.ix, .int .i64 m.lt, .int .i64 m.cm, .int .i64 m.rd, .int .i64 m.at_, .bool m.ys, v, .string m.da] = msC v m) := rfl
  clear hv hl ho
  unfold msV
  obtain ⟨kd, fr, to_, tm, ix, lt, cm, rd, at_, ys, es, da⟩ := m
  simp only at *
  have y0 := R0.out.cellAt (o := 0) rfl
  have y1 := R0.out.cellAt (o := 1) rfl
  have y2 := R0.out.cellAt (o := 2) rfl
  have y3 := R0.out.cellAt (o := 3) rfl
  have y4 := R0.out.cellAt (o := 4) rfl
  have y5 := R0.out.cellAt (o := 5) rfl
  have y6 := R0.out.cellAt (o := 6) rfl
  have y7 := R0.out.cellAt (o := 7) rfl
  have y8 := R0.out.cellAt (o := 8) rfl
  have y9 := R0.out.cellAt (o := 9) rfl
  have y10 := R0.out.cellAt (o := 10) rfl
  have y11 := R0.out.cellAt (o := 11) rfl
  go_enter Tryz.func50, Tryz.ntmps50
  go_wp2_with fail
  refine (CK.out _ B0.out).mono ?_
  rintro e w1 ⟨rfl, b1⟩
  have B1 := hid (below_on B0.out b1)
  have R1 := hid (R0.out.keep (b1.keep (fun _ => False)) (fun h => h))
  clear CK b1 B0 R0 y0 y1 y2 y3 y4 y5 y6 y7 y8 y9 y10 y11
  have y0 := R1.out.cellAt (o := 0) rfl
  have y1 := R1.out.cellAt (o := 1) rfl
  have y2 := R1.out.cellAt (o := 2) rfl
  have y3 := R1.out.cellAt (o := 3) rfl
  have y4 := R1.out.cellAt (o := 4) rfl
  have y5 := R1.out.cellAt (o := 5) rfl
  have y6 := R1.out.cellAt (o := 6) rfl
  have y7 := R1.out.cellAt (o := 7) rfl
  have y8 := R1.out.cellAt (o := 8) rfl
  have y9 := R1.out.cellAt (o := 9) rfl
  have y10 := R1.out.cellAt (o := 10) rfl
  have y11 := R1.out.cellAt (o := 11) rfl
  have F9 := hid (show RowIs (w1.alloc (.cells #[.int .i64 kd, .int .i64 fr, .int .i64 to_, .int .i64 tm, .int .i64 ix, .int .i64 lt, .int .i64 cm, .int .i64 rd, .int .i64 at_, .bool ys, v, .string da] 40)) w1.heap.size _ 40 from srow w1 [.int .i64 kd, .int .i64 fr, .int .i64 to_, .int .i64 tm, .int .i64 ix, .int .i64 lt, .int .i64 cm, .int .i64 rd, .int .i64 at_, .bool ys, v, .string da] _)
  have B9 := hid (below_al B1.out (.cells #[.int .i64 kd, .int .i64 fr, .int .i64 to_, .int .i64 tm, .int .i64 ix, .int .i64 lt, .int .i64 cm, .int .i64 rd, .int .i64 at_, .bool ys, v, .string da] 40))
  have HS : Hid (w.heap.size ≤ w1.heap.size) := B1.out.size
  clear R1 B1
  go_wp2
  go_ret
  exact ⟨_, rfl, HS.out, by rw [← MC.out]; exact F9.out, B9.out⟩
/-- whether a log that ends at (i, t) is up to date beside one that ends at (L, T) -/
def utD (i t L T : Int) : Bool := decide (t > T) || (decide (t = T) && decide (i ≥ L))
set_option maxRecDepth 100000 in
set_option maxHeartbeats 4000000 in
theorem nutd_any (h : NdI w B nb n ms es) (hne : ms ≠ []) (hl : es.length ≤ 17592186044416) (hb0 : 0 ≤ n.bi) (hb1 : n.bi ≤ 1099511627776) (i t : Int) : Calls Tryz.prog 48 #[.pointer (some ⟨nb, 0, none⟩), .int .i64 i, .int .i64 t] w fun e w' => e = .returned (.bool (utD i t (n.bi + es.length) (ltT n.bt es))) ∧ Below w.heap.size w w' := by
  have LA := hid (nlast_any h hne hl hb0 hb1)
  generalize n.bi + (es.length : Int) = L at *
  generalize ltT n.bt es = T at *
  clear h hne hl hb0 hb1
  unfold utD
  by_cases k0 : t > T
  · have d0 : decide (t > T) = true := decide_eq_true k0
    rw [d0, Bool.true_or]
    clear k0
    go_enter Tryz.func48, Tryz.ntmps48
    go_wp2_with fail
    refine LA.out.mono ?_
    rintro e w1 ⟨rfl, b1⟩
    have B1 := hid b1
    clear LA b1
    go_wp2
    go_ret
    exact ⟨rfl, B1.out⟩
  · have d0 : decide (t > T) = false := decide_eq_false k0
    rw [d0, Bool.false_or]
    by_cases k1 : t = T
    · have d1 : decide (t = T) = true := decide_eq_true k1
      have d1b : (t == T) = true := by rw [beq_iff_eq]; exact k1
      rw [d1, Bool.true_and]
      clear k0 k1
      by_cases k2 : i ≥ L
      · have d2 : decide (i ≥ L) = true := decide_eq_true k2
        have d3 : decide (L ≤ i) = true := decide_eq_true k2
        rw [d2]
        clear k2
        go_enter Tryz.func48, Tryz.ntmps48
        go_wp2_with fail
        refine LA.out.mono ?_
        rintro e w1 ⟨rfl, b1⟩
        have B1 := hid b1
        clear LA b1
        go_wp2
        go_ret
        exact ⟨rfl, B1.out⟩
      · have d2 : decide (i ≥ L) = false := decide_eq_false k2
        have d3 : decide (L ≤ i) = false := decide_eq_false k2
        rw [d2]
        clear k2
        go_enter Tryz.func48, Tryz.ntmps48
        go_wp2_with fail
        refine LA.out.mono ?_
        rintro e w1 ⟨rfl, b1⟩
        have B1 := hid b1
        clear LA b1
        go_wp2
        go_ret
        exact ⟨rfl, B1.out⟩
    · have d1 : decide (t = T) = false := decide_eq_false k1
      have d1b : (t == T) = false := by rw [beq_eq_false_iff_ne]; exact k1
      rw [d1, Bool.false_and]
      clear k0 k1
      go_enter Tryz.func48, Tryz.ntmps48
      go_wp2_with fail
      refine LA.out.mono ?_
      rintro e w1 ⟨rfl, b1⟩
      have B1 := hid b1
      clear LA b1
      go_wp2
      go_ret
      exact ⟨rfl, B1.out⟩
end
end Go.Proofs.YtnldjcoajliciaaGreat
