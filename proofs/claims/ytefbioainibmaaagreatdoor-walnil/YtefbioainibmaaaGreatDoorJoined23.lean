/- Joined: What is found: a segment more. What a disk's segments say, as plain data; what the loop over them keeps. -/
import Derived.Test.YtefbioainibmaaaGreatDoorJoined22
namespace Go.Proofs.YtefbioainibmaaaGreatDoor
open Go.RowKit Go.Maps
set_option linter.unusedVariables false
set_option linter.unusedSimpArgs false

theorem onC_at {l : List Sv} {m : Nat} (hm : l.length = m + 1) (x : Sv) (y : Sv) (hy : l[m]? = some y) : onC l x = goesS x.sg y.sg := by
  unfold onC
  rw [List.getLast?_eq_getElem?, show l.length - 1 = m by omega, hy]
theorem SgsI.cellN {w : World} {B b off N cap : Nat} {l : List Sv} (h : SgsI w B (.slice (some ⟨b, off, none⟩) N cap) l) (k : Nat) (hk : k < l.length) (j : Nat) (u : Value) (hu : (svC l[k])[j]? = some u) : w.cell? ⟨b, off + k * 5 + j, none⟩ = some u := by
  obtain ⟨b', off', cap', e, _, _, hc⟩ := h.at k hk
  injection e with e1 e2 e3
  injection e1 with e1
  injection e1 with e1 e4
  subst e1 e4
  exact hc j u hu
theorem keepP {w w' : World} {v : Value} {ad : Option Addr} {n m cap : Nat} (h : (Keep (fun _ => False) w w' ∧ ∀ g, (Value.slice ad m cap).ownBlock = some g → w.heap.size ≤ g) ∨ (v = .slice ad n cap ∧ Keep (fun k => v.ownBlock = some k) w w')) : Keep (fun k => v.ownBlock = some k) w w' ∧ ∀ g, (Value.slice ad m cap).ownBlock = some g → v.ownBlock = some g ∨ w.heap.size ≤ g := by
  rcases h with ⟨h1, h2⟩ | ⟨h1, h2⟩
  · exact ⟨h1.mono (fun _ _ h => h.elim), fun g hg => .inr (h2 g hg)⟩
  · refine ⟨h2, fun g hg => .inl ?_⟩
    rw [h1]
    cases ad with
    | none => cases hg
    | some a => exact hg
/-- the segment is laid behind those that stay -/
theorem ftake_fin {w u : World} {B fb : Nat} {sa : Option Addr} {sc : Nat} {vg : Value} {S : List Sv} {gs : List Int} {torn : Bool} (h : FdI u B fb (.slice sa S.length sc) vg S gs torn) (x : Sv) (hx : SvI u B x) (hr : RowIs u w.heap.size (svC x) 126) (hk : Keep (fun k => k = fb ∨ B ≤ k) w u) (hB : B ≤ w.heap.size) (hbf : fb < B)
    (hne : ∀ g, (Value.slice sa S.length sc).ownBlock = some g → ¬ g = w.heap.size) (hgg : ∀ g, x.vp.ownBlock = some g → ¬ vg.ownBlock = some g) (sn : Nat) (hsn : S.length + 1 = sn) (hap : ∀ a ∈ S, (∀ g, a.ve.ownBlock = some g → ¬ x.ve.ownBlock = some g) ∧ ∀ g, a.vp.ownBlock = some g → ¬ x.vp.ownBlock = some g) :
    ∀ (sa' : Option Addr) (sc' : Nat) (w9 : World), w9.ownsRow B 126 5 (.slice sa' sn sc') sn (svsC S ++ svC x) →
      ((Keep (fun _ => False) (u.alloc (.cells (svC x).toArray 126)) w9 ∧ ∀ g, (Value.slice sa' sn sc').ownBlock = some g → (u.alloc (.cells (svC x).toArray 126)).heap.size ≤ g) ∨ (Value.slice sa S.length sc = .slice sa' S.length sc' ∧ Keep (fun k => (Value.slice sa S.length sc).ownBlock = some k) (u.alloc (.cells (svC x).toArray 126)) w9)) →
      RowIs w9 w.heap.size (svC x) 126 ∧ (w9.cell? ⟨fb, 0, none⟩ = some (.slice sa S.length sc) ∧ w9.frozen? ⟨fb, 0, none⟩ = false) ∧ RowIs (w9.setCell ⟨fb, 0, none⟩ (.slice sa' sn sc')) w.heap.size (svC x) 126 ∧ (∃ vs' vg', FdI (w9.setCell ⟨fb, 0, none⟩ (.slice sa' sn sc')) B fb vs' vg' (S ++ [x]) gs torn) ∧ Keep (fun k => k = fb ∨ B ≤ k) w (w9.setCell ⟨fb, 0, none⟩ (.slice sa' sn sc')) := by
  subst hsn
  intro sa' sc' w9 ho hk9
  obtain ⟨hk9, -⟩ := keepP hk9
  have B1 : Below u.heap.size u (u.alloc (.cells (svC x).toArray 126)) := below_al (Below.refl _ _) _
  have h1 := h.next B1
  have x1 := hx.next B1
  have r1 := hr.keep (B1.keep (fun _ => False)) (fun h => h)
  have r9 := r1.keep hk9 (fun e => hne _ e rfl)
  have b9 := h1.bx.keep hk9 (h1.sg.row.ne_row h1.bx (by decide))
  refine ⟨r9, ⟨b9.cellAt (o := 0) rfl, b9.frozen⟩, r9.keep (keep_setCell _ _ _ _) (by omega), ⟨_, _, h1.stay x1 (fun a ha => (hap a ha).1) (fun a ha => (hap a ha).2) hgg ho hk9⟩, ?_⟩
  exact ((hk.trans (keep_alloc _ _ _)).then hk9 (fun j _ hj => .inr (h1.sg.row.ge hj))).then (keep_setCell _ _ _ _) (fun j _ hj => .inl hj)
/-- a number of one that goes is laid behind the others -/
theorem ftake_goes {w u : World} {B fb b off N sc : Nat} {vg : Value} {l : List Sv} {G : List Int} {torn : Bool} (h : FdI u B fb (.slice (some ⟨b, off, none⟩) N sc) vg l G torn) (k : Nat) (hk : k < l.length) (kn : Int) (hn : l[k].n = kn) (x : Sv) (hx : SvI u B x) (hxg : ∀ g, x.vp.ownBlock = some g → ¬ vg.ownBlock = some g) (hr : RowIs u w.heap.size (svC x) 126) (hK : Keep (fun k => k = fb ∨ B ≤ k) w u) (hB : B ≤ w.heap.size) (hbf : fb < B) :
    ∀ (ga' : Option Addr) (gc' : Nat) (w9 : World), w9.ownsRow B 3 1 (.slice ga' (G.length + 1) gc') (G.length + 1) (isC G ++ [.int .i64 kn]) →
      ((Keep (fun _ => False) (u.alloc (.cells #[.int .i64 kn] 3)) w9 ∧ ∀ g, (Value.slice ga' (G.length + 1) gc').ownBlock = some g → (u.alloc (.cells #[.int .i64 kn] 3)).heap.size ≤ g) ∨ (vg = .slice ga' G.length gc' ∧ Keep (fun k => vg.ownBlock = some k) (u.alloc (.cells #[.int .i64 kn] 3)) w9)) →
      (w9.cell? ⟨fb, 0, none⟩ = some (.slice (some ⟨b, off, none⟩) N sc) ∧ w9.cell? ⟨b, off + k * 5, none⟩ = some (.int .i64 kn)) ∧ (w9.cell? ⟨fb, 1, none⟩ = some vg ∧ w9.frozen? ⟨fb, 1, none⟩ = false) ∧ ((w9.setCell ⟨fb, 1, none⟩ (.slice ga' (G.length + 1) gc')).cell? ⟨fb, 0, none⟩ = some (.slice (some ⟨b, off, none⟩) N sc) ∧ (w9.setCell ⟨fb, 1, none⟩ (.slice ga' (G.length + 1) gc')).cell? ⟨b, off + k * 5, none⟩ = some (.int .i64 kn)) ∧
      FdI (w9.setCell ⟨fb, 1, none⟩ (.slice ga' (G.length + 1) gc')) B fb (.slice (some ⟨b, off, none⟩) N sc) (.slice ga' (G.length + 1) gc') l (G ++ [kn]) torn ∧ SvI (w9.setCell ⟨fb, 1, none⟩ (.slice ga' (G.length + 1) gc')) B x ∧ (∀ g, x.vp.ownBlock = some g → ¬ (Value.slice ga' (G.length + 1) gc').ownBlock = some g) ∧ RowIs (w9.setCell ⟨fb, 1, none⟩ (.slice ga' (G.length + 1) gc')) w.heap.size (svC x) 126 ∧ Keep (fun k => k = fb ∨ B ≤ k) w (w9.setCell ⟨fb, 1, none⟩ (.slice ga' (G.length + 1) gc')) := by
  intro ga' gc' w9 ho hk9
  obtain ⟨hk9, hw9⟩ := keepP hk9
  have B1 : Below u.heap.size u (u.alloc (.cells #[.int .i64 kn] 3)) := below_al (Below.refl _ _) _
  have h1 := h.next B1
  have x1 := hx.next B1
  have r1 := hr.keep (B1.keep (fun _ => False)) (fun h => h)
  have FG := h1.goes ho hk9 hw9
  have b9 := h1.bx.keep hk9 (own_ne_row h1.og h1.bx (by decide))
  have s9 : SgsI w9 B (.slice (some ⟨b, off, none⟩) N sc) l := h1.sg.keep hk9 (fun g hg e => h1.sg.row.apart (.inl h1.og) (by decide) hg e) (fun y hy g hg e => by
    rcases hg with hg | hg
    · exact (h1.sg.sg y hy).oe.apart (.inl h1.og) (by decide) hg e
    · exact h1.ap y hy g hg e)
  have kS := keep_setCell w9 fb 1 (.slice ga' (G.length + 1) gc')
  have c9 : w9.cell? ⟨b, off + k * 5, none⟩ = some (.int .i64 kn) := by simpa [hn] using s9.cellN k hk 0 _ rfl
  have c10 : (w9.setCell ⟨fb, 1, none⟩ (.slice ga' (G.length + 1) gc')).cell? ⟨b, off + k * 5, none⟩ = some (.int .i64 kn) := by simpa [hn] using FG.sg.cellN k hk 0 _ rfl
  have x9 : SvI w9 B x := x1.keep hk9 (fun g hg e => by
    rcases hg with hg | hg
    · exact x1.oe.apart (.inl h1.og) (by decide) hg e
    · exact hxg g hg e)
  have r9 := r1.keep hk9 (own_ne_row h1.og r1 (by decide))
  refine ⟨⟨b9.cellAt (o := 0) rfl, c9⟩, ⟨b9.cellAt (o := 1) rfl, b9.frozen⟩, ⟨FG.bx.cellAt (o := 0) rfl, c10⟩, FG, x9.keep kS (fun g hg e => ?_), fun g hg e => ?_, r9.keep kS (by omega), ?_⟩
  · rcases hg with hg | hg
    · exact x9.oe.not_row b9 (by decide) g hg e
    · exact x9.oi.not_row b9 (by decide) g hg e
  · rcases hw9 g e with e | e
    · exact hxg g hg e
    · have := hx.lt (.inr hg)
      have := B1.size
      omega
  · exact ((hK.trans (keep_alloc _ _ _)).then hk9 (fun j _ hj => .inr (ownsRow_ge h1.og hj))).then kS (fun j _ hj => .inl hj)
/-- what the loop over those that go keeps -/
def TkR (w : World) (B fb b off sc : Nat) (l : List Sv) (gs : List Int) (torn : Bool) (x : Sv) (k : Nat) (wr : World) : Prop :=
  ∃ (G : List Int) (gn : Nat) (ga2 : Option Addr) (gc2 : Nat), k ≤ l.length ∧ G = gs ++ (l.take k).map (·.n) ∧ G.length = gn ∧ FdI wr B fb (.slice (some ⟨b, off, none⟩) l.length sc) (.slice ga2 gn gc2) l G torn ∧ SvI wr B x ∧ (∀ g, x.vp.ownBlock = some g → ¬ (Value.slice ga2 gn gc2).ownBlock = some g) ∧ RowIs wr w.heap.size (svC x) 126 ∧ Keep (fun k => k = fb ∨ B ≤ k) w wr
set_option maxRecDepth 100000 in
set_option maxHeartbeats 4000000 in
theorem ftake_any {w : World} {B fb : Nat} {vs vg : Value} {l : List Sv} {gs : List Int} {torn : Bool} (h : FdI w B fb vs vg l gs torn) (x : Sv) (hx : SvI w B x) (hB : B ≤ w.heap.size) (hbf : fb < B) (hl : l.length ≤ 1000000) (hg : gs.length + l.length ≤ 1000000)
    (hap : ∀ a ∈ l, (∀ g, a.ve.ownBlock = some g → ¬ x.ve.ownBlock = some g) ∧ ∀ g, a.vp.ownBlock = some g → ¬ x.vp.ownBlock = some g) (hag : ∀ g, x.vp.ownBlock = some g → ¬ vg.ownBlock = some g)
    (hb : ∀ y ∈ l, 0 ≤ y.ix ∧ y.ix ≤ 4611686018427387904 ∧ y.es.length ≤ 1048576) :
    Calls Tryz.prog 106 #[.pointer (some ⟨fb, 0, none⟩), sgV x.n x.ix x.tm x.ve x.vp] w fun e w' => e = .returned (.tuple #[]) ∧ (∃ vs' vg', FdI w' B fb vs' vg' (tkS l x) (tkG l gs x) torn) ∧ Keep (fun k => k = fb ∨ B ≤ k) w w' := by
  obtain ⟨ea, ec, hve⟩ := hx.oe.form
  obtain ⟨pa, pc, hvp⟩ := hx.oi.form
  obtain ⟨xn, xi, xt, xve, xvp, xes, xps⟩ := x
  simp only at hve hvp hap hag
  subst hve hvp
  have BE : Below w.heap.size w (w.alloc (.cells #[.int .i64 xn, .int .i64 xi, .int .i64 xt, .slice ea xes.length ec, .slice pa xps.length pc] 126)) := below_al (Below.refl _ _) _
  have R5 : Hid (RowIs (w.alloc (.cells #[.int .i64 xn, .int .i64 xi, .int .i64 xt, .slice ea xes.length ec, .slice pa xps.length pc] 126)) w.heap.size [.int .i64 xn, .int .i64 xi, .int .i64 xt, .slice ea xes.length ec, .slice pa xps.length pc] 126) := srow w [.int .i64 xn, .int .i64 xi, .int .i64 xt, .slice ea xes.length ec, .slice pa xps.length pc] 126
  have F5 : Hid (FdI (w.alloc (.cells #[.int .i64 xn, .int .i64 xi, .int .i64 xt, .slice ea xes.length ec, .slice pa xps.length pc] 126)) B fb vs vg l gs torn) := h.next BE
  have X5 : Hid (SvI (w.alloc (.cells #[.int .i64 xn, .int .i64 xi, .int .i64 xt, .slice ea xes.length ec, .slice pa xps.length pc] 126)) B ⟨xn, xi, xt, .slice ea xes.length ec, .slice pa xps.length pc, xes, xps⟩) := hx.next BE
  have K5 : Hid (Keep (fun k => k = fb ∨ B ≤ k) w (w.alloc (.cells #[.int .i64 xn, .int .i64 xi, .int .i64 xt, .slice ea xes.length ec, .slice pa xps.length pc] 126))) := keep_alloc _ _ _
  have HBL : Hid (B ≤ w.heap.size ∧ fb < B) := ⟨hB, hbf⟩
  have HC9 := hid (svC_cell1 ⟨xn, xi, xt, .slice ea xes.length ec, .slice pa xps.length pc, xes, xps⟩ ⟨_, _, _, rfl⟩ ⟨_, _, _, rfl⟩)
  have HNB : Hid (∀ g, vs.ownBlock = some g → ¬ g = w.heap.size) := fun g hg e => by have := h.sg.row.lt hg; omega
  have HAE := hid hap
  have HAG := hid hag
  obtain ⟨sa, sc, rfl⟩ := h.sg.row.form
  obtain ⟨ga, gc, rfl⟩ := row_form h.og
  unfold sgV
  by_cases hz : l.length = 0
  · obtain rfl : l = [] := List.length_eq_zero_iff.1 hz
    have HL9 : Hid (1 ≤ 1048576) := by show _ ≤ _; omega
    have HL10 : Hid (1 * 72 ≤ 140737488355328) := by show _ ≤ _; omega
    have c0 := F5.out.bx.cellAt (o := 0) rfl
    have ZN : ((w.alloc (.cells #[.int .i64 xn, .int .i64 xi, .int .i64 xt, .slice ea xes.length ec, .slice pa xps.length pc] 126)).cell? ⟨w.heap.size, 0, none⟩ = some (.int .i64 xn) ∧ (w.alloc (.cells #[.int .i64 xn, .int .i64 xi, .int .i64 xt, .slice ea xes.length ec, .slice pa xps.length pc] 126)).cell? ⟨w.heap.size, 1, none⟩ = some (.int .i64 xi) ∧ (w.alloc (.cells #[.int .i64 xn, .int .i64 xi, .int .i64 xt, .slice ea xes.length ec, .slice pa xps.length pc] 126)).cell? ⟨w.heap.size, 2, none⟩ = some (.int .i64 xt) ∧ (w.alloc (.cells #[.int .i64 xn, .int .i64 xi, .int .i64 xt, .slice ea xes.length ec, .slice pa xps.length pc] 126)).cell? ⟨w.heap.size, 3, none⟩ = some (.slice ea xes.length ec) ∧ (w.alloc (.cells #[.int .i64 xn, .int .i64 xi, .int .i64 xt, .slice ea xes.length ec, .slice pa xps.length pc] 126)).cell? ⟨w.heap.size, 4, none⟩ = some (.slice pa xps.length pc)) := ⟨R5.out.cellAt (o := 0) rfl, R5.out.cellAt (o := 1) rfl, R5.out.cellAt (o := 2) rfl, R5.out.cellAt (o := 3) rfl, R5.out.cellAt (o := 4) rfl⟩
    clear h hx hap hag hb hz hl hg BE hB hbf
    go_enter Tryz.func106, Tryz.ntmps106
    have HS2 : Hid (tkS [] ⟨xn, xi, xt, .slice ea xes.length ec, .slice pa xps.length pc, xes, xps⟩ = [] ++ [⟨xn, xi, xt, .slice ea xes.length ec, .slice pa xps.length pc, xes, xps⟩]) := rfl
    have HG2 : Hid (tkG [] gs ⟨xn, xi, xt, .slice ea xes.length ec, .slice pa xps.length pc, xes, xps⟩ = gs) := rfl
    go_wp2_with fail
    have F4 : Hid (FdI (w.alloc (.cells #[.int .i64 xn, .int .i64 xi, .int .i64 xt, .slice ea xes.length ec, .slice pa xps.length pc] 126)).drew B fb (.slice sa 0 sc) (.slice ga gs.length gc) [] gs torn) := F5.out.next (Below.refl _ _).drew
    have X4 : Hid (SvI (w.alloc (.cells #[.int .i64 xn, .int .i64 xi, .int .i64 xt, .slice ea xes.length ec, .slice pa xps.length pc] 126)).drew B ⟨xn, xi, xt, .slice ea xes.length ec, .slice pa xps.length pc, xes, xps⟩) := X5.out.next (Below.refl _ _).drew
    have R4 : Hid (RowIs (w.alloc (.cells #[.int .i64 xn, .int .i64 xi, .int .i64 xt, .slice ea xes.length ec, .slice pa xps.length pc] 126)).drew w.heap.size [.int .i64 xn, .int .i64 xi, .int .i64 xt, .slice ea xes.length ec, .slice pa xps.length pc] 126) := R5.out
    have K4 : Hid (Keep (fun k => k = fb ∨ B ≤ k) w (w.alloc (.cells #[.int .i64 xn, .int .i64 xi, .int .i64 xt, .slice ea xes.length ec, .slice pa xps.length pc] 126)).drew) := K5.out.trans (keep_drew _ _)
    clear F5 X5 R5 K5 c0
    refine wp_region_held_drew (S := fun W => W.cell? ⟨w.heap.size, 0, none⟩ = some (.int .i64 xn) ∧ W.cell? ⟨w.heap.size, 1, none⟩ = some (.int .i64 xi) ∧ W.cell? ⟨w.heap.size, 2, none⟩ = some (.int .i64 xt) ∧ W.cell? ⟨w.heap.size, 3, none⟩ = some (.slice ea xes.length ec) ∧ W.cell? ⟨w.heap.size, 4, none⟩ = some (.slice pa xps.length pc)) (by kernel_rfl) ZN (fun hHeld => ?_)
    generalize (w.alloc (.cells #[.int .i64 xn, .int .i64 xi, .int .i64 xt, .slice ea xes.length ec, .slice pa xps.length pc] 126)).drew = u1 at *
    refine wpAnyH_take (i := 0) (v := ?vv42) rfl (by kernel_rfl) (by kernel_rfl) (by kernel_rfl) (fun _ _ _ h => h) (Or.inl ⟨by rfl, ?hy42⟩) (by assumption) ?rest42
    case hy42 => (intro w hSw; (try dsimp only at hSw); go_simp; first | done | with_reducible rfl)
    try simp only [Act.put, List.getElem_toArray, List.getElem_cons_succ, List.getElem_cons_zero, List.setIfInBounds_toArray, List.set_cons_zero, List.set_cons_succ]
    refine wpAnyH_take (i := 1) (v := ?vv43) rfl (by kernel_rfl) (by kernel_rfl) (by kernel_rfl) (fun _ _ _ h => h) (Or.inl ⟨by rfl, ?hy43⟩) (by assumption) ?rest43
    case hy43 => (intro w hSw; (try dsimp only at hSw); go_simp; first | done | with_reducible rfl)
    try simp only [Act.put, List.getElem_toArray, List.getElem_cons_succ, List.getElem_cons_zero, List.setIfInBounds_toArray, List.set_cons_zero, List.set_cons_succ]
    refine wpAnyH_take (i := 2) (v := ?vv44) rfl (by kernel_rfl) (by kernel_rfl) (by kernel_rfl) (fun _ _ _ h => h) (Or.inl ⟨by rfl, ?hy44⟩) (by assumption) ?rest44
    case hy44 => (intro w hSw; (try dsimp only at hSw); go_simp; first | done | with_reducible rfl)
    try simp only [Act.put, List.getElem_toArray, List.getElem_cons_succ, List.getElem_cons_zero, List.setIfInBounds_toArray, List.set_cons_zero, List.set_cons_succ]
    refine wpAnyH_take (i := 3) (v := undef) rfl (by kernel_rfl) (by kernel_rfl) (by kernel_rfl) (fun _ _ _ h => h) (Or.inr ⟨by rfl, rfl⟩) (by assumption) ?_
    try simp only [Act.put, List.getElem_toArray, List.getElem_cons_succ, List.getElem_cons_zero, List.setIfInBounds_toArray, List.set_cons_zero, List.set_cons_succ]
    refine wpAnyH_take (i := 4) (v := undef) rfl (by kernel_rfl) (by kernel_rfl) (by kernel_rfl) (fun _ _ _ h => h) (Or.inr ⟨by rfl, rfl⟩) (by assumption) ?_
    try simp only [Act.put, List.getElem_toArray, List.getElem_cons_succ, List.getElem_cons_zero, List.setIfInBounds_toArray, List.set_cons_zero, List.set_cons_succ]
    refine wpAnyH_take (i := 5) (v := undef) rfl (by kernel_rfl) (by kernel_rfl) (by kernel_rfl) (fun _ _ _ h => h) (Or.inr ⟨by rfl, rfl⟩) (by assumption) ?_
    try simp only [Act.put, List.getElem_toArray, List.getElem_cons_succ, List.getElem_cons_zero, List.setIfInBounds_toArray, List.set_cons_zero, List.set_cons_succ]
    refine wpAnyH_take (i := 6) (v := undef) rfl (by kernel_rfl) (by kernel_rfl) (by kernel_rfl) (fun _ _ _ h => h) (Or.inr ⟨by rfl, rfl⟩) (by assumption) ?_
    try simp only [Act.put, List.getElem_toArray, List.getElem_cons_succ, List.getElem_cons_zero, List.setIfInBounds_toArray, List.set_cons_zero, List.set_cons_succ]
    refine wpAnyH_take (i := 7) (v := undef) rfl (by kernel_rfl) (by kernel_rfl) (by kernel_rfl) (fun _ _ _ h => h) (Or.inr ⟨by rfl, rfl⟩) (by assumption) ?_
    try simp only [Act.put, List.getElem_toArray, List.getElem_cons_succ, List.getElem_cons_zero, List.setIfInBounds_toArray, List.set_cons_zero, List.set_cons_succ]
    refine wpAnyH_take (i := 8) (v := undef) rfl (by kernel_rfl) (by kernel_rfl) (by kernel_rfl) (fun _ _ _ h => h) (Or.inr ⟨by rfl, rfl⟩) (by assumption) ?_
    try simp only [Act.put, List.getElem_toArray, List.getElem_cons_succ, List.getElem_cons_zero, List.setIfInBounds_toArray, List.set_cons_zero, List.set_cons_succ]
    refine wpAnyH_take (i := 9) (v := undef) rfl (by kernel_rfl) (by kernel_rfl) (by kernel_rfl) (fun _ _ _ h => h) (Or.inr ⟨by rfl, rfl⟩) (by assumption) ?_
    try simp only [Act.put, List.getElem_toArray, List.getElem_cons_succ, List.getElem_cons_zero, List.setIfInBounds_toArray, List.set_cons_zero, List.set_cons_succ]
    refine wpAnyH_take (i := 10) (v := undef) rfl (by kernel_rfl) (by kernel_rfl) (by kernel_rfl) (fun _ _ _ h => h) (Or.inr ⟨by rfl, rfl⟩) (by assumption) ?_
    try simp only [Act.put, List.getElem_toArray, List.getElem_cons_succ, List.getElem_cons_zero, List.setIfInBounds_toArray, List.set_cons_zero, List.set_cons_succ]
    refine wpAnyH_take (i := 11) (v := undef) rfl (by kernel_rfl) (by kernel_rfl) (by kernel_rfl) (fun _ _ _ h => h) (Or.inr ⟨by rfl, rfl⟩) (by assumption) ?_
    try simp only [Act.put, List.getElem_toArray, List.getElem_cons_succ, List.getElem_cons_zero, List.setIfInBounds_toArray, List.set_cons_zero, List.set_cons_succ]
    refine wpAnyH_take (i := 12) (v := undef) rfl (by kernel_rfl) (by kernel_rfl) (by kernel_rfl) (fun _ _ _ h => h) (Or.inr ⟨by rfl, rfl⟩) (by assumption) ?_
    try simp only [Act.put, List.getElem_toArray, List.getElem_cons_succ, List.getElem_cons_zero, List.setIfInBounds_toArray, List.set_cons_zero, List.set_cons_succ]
    refine wpAnyH_take (i := 13) (v := undef) rfl (by kernel_rfl) (by kernel_rfl) (by kernel_rfl) (fun _ _ _ h => h) (Or.inr ⟨by rfl, rfl⟩) (by assumption) ?_
    try simp only [Act.put, List.getElem_toArray, List.getElem_cons_succ, List.getElem_cons_zero, List.setIfInBounds_toArray, List.set_cons_zero, List.set_cons_succ]
    refine wpAnyH_take (i := 14) (v := ?vv45) rfl (by kernel_rfl) (by kernel_rfl) (by kernel_rfl) (fun _ _ _ h => h) (Or.inl ⟨by rfl, ?hy45⟩) (by assumption) ?rest45
    case hy45 => (intro w hSw; (try dsimp only at hSw); go_simp; first | done | with_reducible rfl)
    try simp only [Act.put, List.getElem_toArray, List.getElem_cons_succ, List.getElem_cons_zero, List.setIfInBounds_toArray, List.set_cons_zero, List.set_cons_succ]
    refine wpAnyH_done (by kernel_rfl) ?_ _
    clear ZN
    go_wp2_with fail
    have F6 : Hid (FdI u1.drew B fb (.slice sa 0 sc) (.slice ga gs.length gc) ([]) (gs) torn) := F4.out.next (Below.refl _ _).drew
    have X6 : Hid (SvI u1.drew B ⟨xn, xi, xt, .slice ea xes.length ec, .slice pa xps.length pc, xes, xps⟩) := X4.out.next (Below.refl _ _).drew
    have R6 : Hid (RowIs u1.drew w.heap.size [.int .i64 xn, .int .i64 xi, .int .i64 xt, .slice ea xes.length ec, .slice pa xps.length pc] 126) := R4.out
    have K6 : Hid (Keep (fun k => k = fb ∨ B ≤ k) w u1.drew) := K4.out.trans (keep_drew _ _)
    have FIN := hid (ftake_fin (S := []) F6.out ⟨xn, xi, xt, .slice ea xes.length ec, .slice pa xps.length pc, xes, xps⟩ X6.out R6.out K6.out HBL.out.1 HBL.out.2 HNB.out HAG.out (1) rfl (fun a ha => HAE.out a ((fun a ha => ha) a ha)))
    clear F4 X4 R4 K4 HAE HAG HNB
    have Z90 : (u1.drew.cell? ⟨w.heap.size, 0, none⟩ = some (.int .i64 xn) ∧ u1.drew.cell? ⟨w.heap.size, 1, none⟩ = some (.int .i64 xi) ∧ u1.drew.cell? ⟨w.heap.size, 2, none⟩ = some (.int .i64 xt) ∧ u1.drew.cell? ⟨w.heap.size, 3, none⟩ = some (.slice ea xes.length ec) ∧ u1.drew.cell? ⟨w.heap.size, 4, none⟩ = some (.slice pa xps.length pc)) := ⟨R6.out.cellAt (o := 0) rfl, R6.out.cellAt (o := 1) rfl, R6.out.cellAt (o := 2) rfl, R6.out.cellAt (o := 3) rfl, R6.out.cellAt (o := 4) rfl⟩
    refine wp_region_held_drew (S := fun W => W.cell? ⟨w.heap.size, 0, none⟩ = some (.int .i64 xn) ∧ W.cell? ⟨w.heap.size, 1, none⟩ = some (.int .i64 xi) ∧ W.cell? ⟨w.heap.size, 2, none⟩ = some (.int .i64 xt) ∧ W.cell? ⟨w.heap.size, 3, none⟩ = some (.slice ea xes.length ec) ∧ W.cell? ⟨w.heap.size, 4, none⟩ = some (.slice pa xps.length pc)) (by kernel_rfl) Z90 (fun hHeld => ?_)
    generalize u1.drew = u0 at *
    have q0 := F6.out.bx.cellAt (o := 0) rfl
    have q1 := (F6.out.next (below_al (Below.refl _ _) (.cells #[.int .i64 xn, .int .i64 xi, .int .i64 xt, .slice ea xes.length ec, .slice pa xps.length pc] 126))).bx.cellAt (o := 0) rfl
    have R7 := hid (row_old R6.out (.cells #[.int .i64 xn, .int .i64 xi, .int .i64 xt, .slice ea xes.length ec, .slice pa xps.length pc] 126))
    have Z91 : ((u0.alloc (.cells #[.int .i64 xn, .int .i64 xi, .int .i64 xt, .slice ea xes.length ec, .slice pa xps.length pc] 126)).cell? ⟨w.heap.size, 0, none⟩ = some (.int .i64 xn) ∧ (u0.alloc (.cells #[.int .i64 xn, .int .i64 xi, .int .i64 xt, .slice ea xes.length ec, .slice pa xps.length pc] 126)).cell? ⟨w.heap.size, 1, none⟩ = some (.int .i64 xi) ∧ (u0.alloc (.cells #[.int .i64 xn, .int .i64 xi, .int .i64 xt, .slice ea xes.length ec, .slice pa xps.length pc] 126)).cell? ⟨w.heap.size, 2, none⟩ = some (.int .i64 xt) ∧ (u0.alloc (.cells #[.int .i64 xn, .int .i64 xi, .int .i64 xt, .slice ea xes.length ec, .slice pa xps.length pc] 126)).cell? ⟨w.heap.size, 3, none⟩ = some (.slice ea xes.length ec) ∧ (u0.alloc (.cells #[.int .i64 xn, .int .i64 xi, .int .i64 xt, .slice ea xes.length ec, .slice pa xps.length pc] 126)).cell? ⟨w.heap.size, 4, none⟩ = some (.slice pa xps.length pc)) := ⟨R7.out.cellAt (o := 0) rfl, R7.out.cellAt (o := 1) rfl, R7.out.cellAt (o := 2) rfl, R7.out.cellAt (o := 3) rfl, R7.out.cellAt (o := 4) rfl⟩
    have OG9 : Hid (ORow (u0.alloc (.cells #[.int .i64 xn, .int .i64 xi, .int .i64 xt, .slice ea xes.length ec, .slice pa xps.length pc] 126)) B 126 5 (.slice sa 0 sc) (0) (svsC ([]))) := (F6.out.next (below_al (Below.refl _ _) (.cells #[.int .i64 xn, .int .i64 xi, .int .i64 xt, .slice ea xes.length ec, .slice pa xps.length pc] 126))).sg.row
    have HB9 : Hid (B ≤ (u0.alloc (.cells #[.int .i64 xn, .int .i64 xi, .int .i64 xt, .slice ea xes.length ec, .slice pa xps.length pc] 126)).heap.size) := by have := HBL.out.1; have := K6.out.size; show _ ≤ _; simp; omega
    have HX9 : Hid (RowC (u0.alloc (.cells #[.int .i64 xn, .int .i64 xi, .int .i64 xt, .slice ea xes.length ec, .slice pa xps.length pc] 126)) (.slice (some ⟨u0.heap.size, 0, none⟩) 1 1) 1 (svC ⟨xn, xi, xt, .slice ea xes.length ec, .slice pa xps.length pc, xes, xps⟩)) := RowC.own (own_made u0 (svC ⟨xn, xi, xt, .slice ea xes.length ec, .slice pa xps.length pc, xes, xps⟩) 126 5 1 0 (Nat.zero_le _) rfl (by omega))
    clear F6 X6 R6 R7 K6
    refine wpAnyH_take (i := 0) (v := ?vv1) rfl (by kernel_rfl) (by kernel_rfl) (by kernel_rfl) (fun _ _ _ h => h) (Or.inl ⟨by rfl, ?hy1⟩) (by assumption) ?rest1
    case hy1 => (intro w hSw; (try dsimp only at hSw); go_simp; first | done | with_reducible rfl)
    try simp only [Act.put, List.getElem_toArray, List.getElem_cons_succ, List.getElem_cons_zero, List.setIfInBounds_toArray, List.set_cons_zero, List.set_cons_succ]
    refine wpAnyH_take (i := 1) (v := ?vv2) rfl (by kernel_rfl) (by kernel_rfl) (by kernel_rfl) (fun _ _ _ h => h) (Or.inl ⟨by rfl, ?hy2⟩) (by assumption) ?rest2
    case hy2 => (intro w hSw; (try dsimp only at hSw); go_simp; first | done | with_reducible rfl)
    try simp only [Act.put, List.getElem_toArray, List.getElem_cons_succ, List.getElem_cons_zero, List.setIfInBounds_toArray, List.set_cons_zero, List.set_cons_succ]
    refine wpAnyH_take (i := 2) (v := ?vv3) rfl (by kernel_rfl) (by kernel_rfl) (by kernel_rfl) (fun _ _ _ h => h) (Or.inl ⟨by rfl, ?hy3⟩) (by assumption) ?rest3
    case hy3 => (intro w hSw; (try dsimp only at hSw); go_simp; first | done | with_reducible rfl)
    try simp only [Act.put, List.getElem_toArray, List.getElem_cons_succ, List.getElem_cons_zero, List.setIfInBounds_toArray, List.set_cons_zero, List.set_cons_succ]
    refine wpAnyH_take (i := 3) (v := ?vv4) rfl (by kernel_rfl) (by kernel_rfl) (by kernel_rfl) (fun _ _ _ h => h) (Or.inl ⟨by rfl, ?hy4⟩) (by assumption) ?rest4
    case hy4 => (intro w hSw; (try dsimp only at hSw); go_simp; first | done | with_reducible rfl)
    try simp only [Act.put, List.getElem_toArray, List.getElem_cons_succ, List.getElem_cons_zero, List.setIfInBounds_toArray, List.set_cons_zero, List.set_cons_succ]
    refine wpAnyH_take (i := 5) (v := ?vv5) rfl (by kernel_rfl) (by kernel_rfl) (by kernel_rfl) (fun _ _ _ h => h) (Or.inl ⟨by rfl, ?hy5⟩) (by assumption) ?rest5
    case hy5 => (intro w hSw; (try dsimp only at hSw); go_simp; first | done | with_reducible rfl)
    try simp only [Act.put, List.getElem_toArray, List.getElem_cons_succ, List.getElem_cons_zero, List.setIfInBounds_toArray, List.set_cons_zero, List.set_cons_succ]
    refine wpAnyH_ready (rs := [4, 6]) (by kernel_rfl) (by simp) ?_
    refine AllReadyH.cons rfl (fun K hK => ?_) (AllReadyH.cons rfl (fun K hK => ?_) AllReadyH.nil)
    · go_simp
      refine hK.out _ _ Z90 (fun hHeld => ?_)
      clear hK K
      try simp only [Act.put, List.getElem_toArray, List.getElem_cons_succ, List.getElem_cons_zero, List.setIfInBounds_toArray, List.set_cons_zero, List.set_cons_succ]
      refine wpAnyH_ready (rs := [6]) (by kernel_rfl) (by simp) ?_
      refine AllReadyH.cons rfl (fun K hK => ?_) AllReadyH.nil
      go_simp
      refine hK.out _ _ Z91 (fun hHeld => ?_)
      clear hK K
      try simp only [Act.put, List.getElem_toArray, List.getElem_cons_succ, List.getElem_cons_zero, List.setIfInBounds_toArray, List.set_cons_zero, List.set_cons_succ]
      refine wpAnyH_ready (rs := [7]) (by kernel_rfl) (by simp) ?_
      refine AllReadyH.cons rfl (fun K hK => ?_) AllReadyH.nil
      refine step_gappP (by rfl) _ _ elSg (by rfl) B (.slice sa 0 sc) (.slice (some ⟨u0.heap.size, 0, none⟩) 1 1) (svsC ([])) (svC ⟨xn, xi, xt, .slice ea xes.length ec, .slice pa xps.length pc, xes, xps⟩) (0) 1 (1) rfl (by rfl) (by rfl) OG9.out HB9.out HX9.out rfl HC9.out (by omega) HL9.out HL10.out ?_
      intro sa' sc' w9 ho9 hk9
      obtain ⟨R9, ⟨g99, f99⟩, R98, F98⟩ := FIN.out _ _ _ ho9 hk9
      have Z99 : (w9.cell? ⟨w.heap.size, 0, none⟩ = some (.int .i64 xn) ∧ w9.cell? ⟨w.heap.size, 1, none⟩ = some (.int .i64 xi) ∧ w9.cell? ⟨w.heap.size, 2, none⟩ = some (.int .i64 xt) ∧ w9.cell? ⟨w.heap.size, 3, none⟩ = some (.slice ea xes.length ec) ∧ w9.cell? ⟨w.heap.size, 4, none⟩ = some (.slice pa xps.length pc)) := ⟨R9.cellAt (o := 0) rfl, R9.cellAt (o := 1) rfl, R9.cellAt (o := 2) rfl, R9.cellAt (o := 3) rfl, R9.cellAt (o := 4) rfl⟩
      have Z98 : ((w9.setCell ⟨fb, 0, none⟩ (.slice sa' (1) sc')).cell? ⟨w.heap.size, 0, none⟩ = some (.int .i64 xn) ∧ (w9.setCell ⟨fb, 0, none⟩ (.slice sa' (1) sc')).cell? ⟨w.heap.size, 1, none⟩ = some (.int .i64 xi) ∧ (w9.setCell ⟨fb, 0, none⟩ (.slice sa' (1) sc')).cell? ⟨w.heap.size, 2, none⟩ = some (.int .i64 xt) ∧ (w9.setCell ⟨fb, 0, none⟩ (.slice sa' (1) sc')).cell? ⟨w.heap.size, 3, none⟩ = some (.slice ea xes.length ec) ∧ (w9.setCell ⟨fb, 0, none⟩ (.slice sa' (1) sc')).cell? ⟨w.heap.size, 4, none⟩ = some (.slice pa xps.length pc)) := ⟨R98.cellAt (o := 0) rfl, R98.cellAt (o := 1) rfl, R98.cellAt (o := 2) rfl, R98.cellAt (o := 3) rfl, R98.cellAt (o := 4) rfl⟩
      have F97 := hid F98
      clear ho9 hk9 FIN R9 R98 F98
      refine hK.out _ _ Z99 (fun hHeld => ?_)
      clear hK K
      try simp only [Act.put, List.getElem_toArray, List.getElem_cons_succ, List.getElem_cons_zero, List.setIfInBounds_toArray, List.set_cons_zero, List.set_cons_succ]
      refine wpAnyH_take (i := 8) (v := ?vv6) rfl (by kernel_rfl) (by kernel_rfl) (by kernel_rfl) (fun _ _ _ h => h) (Or.inl ⟨by rfl, ?hy6⟩) (by assumption) ?rest6
      case hy6 => (intro w hSw; (try dsimp only at hSw); go_simp; first | done | with_reducible rfl)
      try simp only [Act.put, List.getElem_toArray, List.getElem_cons_succ, List.getElem_cons_zero, List.setIfInBounds_toArray, List.set_cons_zero, List.set_cons_succ]
      refine wpAnyH_take (i := 9) (v := ?vv7) rfl (by kernel_rfl) (by kernel_rfl) (by kernel_rfl) (fun _ _ _ h => h) (Or.inl ⟨by rfl, ?hy7⟩) (by assumption) ?rest7
      case hy7 => (intro w hSw; (try dsimp only at hSw); go_simp; first | done | with_reducible rfl)
      try simp only [Act.put, List.getElem_toArray, List.getElem_cons_succ, List.getElem_cons_zero, List.setIfInBounds_toArray, List.set_cons_zero, List.set_cons_succ]
      refine wpAnyH_ready (rs := [10]) (by kernel_rfl) (by simp) ?_
      refine AllReadyH.cons rfl (fun K hK => ?_) AllReadyH.nil
      go_simp
      refine hK.out _ _ Z98 (fun hHeld => ?_)
      clear hK K
      try simp only [Act.put, List.getElem_toArray, List.getElem_cons_succ, List.getElem_cons_zero, List.setIfInBounds_toArray, List.set_cons_zero, List.set_cons_succ]
      refine wpAnyH_done (by kernel_rfl) ?_ _
      go_wp2
      go_end0
      rw [HS2.out, HG2.out]
      exact ⟨rfl, F97.out⟩
    · go_simp
      refine hK.out _ _ Z91 (fun hHeld => ?_)
      clear hK K
      try simp only [Act.put, List.getElem_toArray, List.getElem_cons_succ, List.getElem_cons_zero, List.setIfInBounds_toArray, List.set_cons_zero, List.set_cons_succ]
      refine wpAnyH_ready (rs := [4]) (by kernel_rfl) (by simp) ?_
      refine AllReadyH.cons rfl (fun K hK => ?_) AllReadyH.nil
      go_simp
      refine hK.out _ _ Z91 (fun hHeld => ?_)
      clear hK K
      try simp only [Act.put, List.getElem_toArray, List.getElem_cons_succ, List.getElem_cons_zero, List.setIfInBounds_toArray, List.set_cons_zero, List.set_cons_succ]
      refine wpAnyH_ready (rs := [7]) (by kernel_rfl) (by simp) ?_
      refine AllReadyH.cons rfl (fun K hK => ?_) AllReadyH.nil
      refine step_gappP (by rfl) _ _ elSg (by rfl) B (.slice sa 0 sc) (.slice (some ⟨u0.heap.size, 0, none⟩) 1 1) (svsC ([])) (svC ⟨xn, xi, xt, .slice ea xes.length ec, .slice pa xps.length pc, xes, xps⟩) (0) 1 (1) rfl (by rfl) (by rfl) OG9.out HB9.out HX9.out rfl HC9.out (by omega) HL9.out HL10.out ?_
      intro sa' sc' w9 ho9 hk9
      obtain ⟨R9, ⟨g99, f99⟩, R98, F98⟩ := FIN.out _ _ _ ho9 hk9
      have Z99 : (w9.cell? ⟨w.heap.size, 0, none⟩ = some (.int .i64 xn) ∧ w9.cell? ⟨w.heap.size, 1, none⟩ = some (.int .i64 xi) ∧ w9.cell? ⟨w.heap.size, 2, none⟩ = some (.int .i64 xt) ∧ w9.cell? ⟨w.heap.size, 3, none⟩ = some (.slice ea xes.length ec) ∧ w9.cell? ⟨w.heap.size, 4, none⟩ = some (.slice pa xps.length pc)) := ⟨R9.cellAt (o := 0) rfl, R9.cellAt (o := 1) rfl, R9.cellAt (o := 2) rfl, R9.cellAt (o := 3) rfl, R9.cellAt (o := 4) rfl⟩
      have Z98 : ((w9.setCell ⟨fb, 0, none⟩ (.slice sa' (1) sc')).cell? ⟨w.heap.size, 0, none⟩ = some (.int .i64 xn) ∧ (w9.setCell ⟨fb, 0, none⟩ (.slice sa' (1) sc')).cell? ⟨w.heap.size, 1, none⟩ = some (.int .i64 xi) ∧ (w9.setCell ⟨fb, 0, none⟩ (.slice sa' (1) sc')).cell? ⟨w.heap.size, 2, none⟩ = some (.int .i64 xt) ∧ (w9.setCell ⟨fb, 0, none⟩ (.slice sa' (1) sc')).cell? ⟨w.heap.size, 3, none⟩ = some (.slice ea xes.length ec) ∧ (w9.setCell ⟨fb, 0, none⟩ (.slice sa' (1) sc')).cell? ⟨w.heap.size, 4, none⟩ = some (.slice pa xps.length pc)) := ⟨R98.cellAt (o := 0) rfl, R98.cellAt (o := 1) rfl, R98.cellAt (o := 2) rfl, R98.cellAt (o := 3) rfl, R98.cellAt (o := 4) rfl⟩
      have F97 := hid F98
      clear ho9 hk9 FIN R9 R98 F98
      refine hK.out _ _ Z99 (fun hHeld => ?_)
      clear hK K
      try simp only [Act.put, List.getElem_toArray, List.getElem_cons_succ, List.getElem_cons_zero, List.setIfInBounds_toArray, List.set_cons_zero, List.set_cons_succ]
      refine wpAnyH_take (i := 8) (v := ?vv8) rfl (by kernel_rfl) (by kernel_rfl) (by kernel_rfl) (fun _ _ _ h => h) (Or.inl ⟨by rfl, ?hy8⟩) (by assumption) ?rest8
      case hy8 => (intro w hSw; (try dsimp only at hSw); go_simp; first | done | with_reducible rfl)
      try simp only [Act.put, List.getElem_toArray, List.getElem_cons_succ, List.getElem_cons_zero, List.setIfInBounds_toArray, List.set_cons_zero, List.set_cons_succ]
      refine wpAnyH_take (i := 9) (v := ?vv9) rfl (by kernel_rfl) (by kernel_rfl) (by kernel_rfl) (fun _ _ _ h => h) (Or.inl ⟨by rfl, ?hy9⟩) (by assumption) ?rest9
      case hy9 => (intro w hSw; (try dsimp only at hSw); go_simp; first | done | with_reducible rfl)
      try simp only [Act.put, List.getElem_toArray, List.getElem_cons_succ, List.getElem_cons_zero, List.setIfInBounds_toArray, List.set_cons_zero, List.set_cons_succ]
      refine wpAnyH_ready (rs := [10]) (by kernel_rfl) (by simp) ?_
      refine AllReadyH.cons rfl (fun K hK => ?_) AllReadyH.nil
      go_simp
      refine hK.out _ _ Z98 (fun hHeld => ?_)
      clear hK K
      try simp only [Act.put, List.getElem_toArray, List.getElem_cons_succ, List.getElem_cons_zero, List.setIfInBounds_toArray, List.set_cons_zero, List.set_cons_succ]
      refine wpAnyH_done (by kernel_rfl) ?_ _
      go_wp2
      go_end0
      rw [HS2.out, HG2.out]
      exact ⟨rfl, F97.out⟩
  · obtain ⟨m, hm⟩ : ∃ m, l.length = m + 1 := ⟨l.length - 1, by omega⟩
    have hml : m < l.length := by omega
    have hy0 : l[m]? = some l[m] := List.getElem?_eq_getElem hml
    have HON := onC_at hm ⟨xn, xi, xt, .slice ea xes.length ec, .slice pa xps.length pc, xes, xps⟩ l[m] hy0
    have hyb := hb _ (List.getElem_mem hml)
    have hsy := h.sg.sg _ (List.getElem_mem hml)
    obtain ⟨ya, yc, hye⟩ := hsy.oe.form
    obtain ⟨za, zc, hyp⟩ := hsy.oi.form
    obtain ⟨b, off, cap, hvs, -, -, -⟩ := h.sg.at m hml
    injection hvs with e1 e2 e3
    subst e1 e3
    have GO : Hid (∀ W, FdI W B fb (.slice (some ⟨b, off, none⟩) l.length sc) (.slice ga gs.length gc) l gs torn → Calls Tryz.prog 146 #[.agg #[.int .i64 xn, .int .i64 xi, .int .i64 xt, .slice ea xes.length ec, .slice pa xps.length pc], .agg #[.int .i64 (l[m]).n, .int .i64 (l[m]).ix, .int .i64 (l[m]).tm, (l[m]).ve, (l[m]).vp]] W fun e w' => e = .returned (.bool (onC l ⟨xn, xi, xt, .slice ea xes.length ec, .slice pa xps.length pc, xes, xps⟩)) ∧ Below W.heap.size W w') := fun W hW => by
      rw [HON]
      exact goesOn_any xn xi xt (l[m]).n (l[m]).ix (l[m]).tm _ _ (l[m]).ve (l[m]).vp (l[m]).es W (hW.sg.sg _ (List.getElem_mem hml)).oe.ents hyb.1 hyb.2.1 hyb.2.2
    have ZC : Hid (∀ W, FdI W B fb (.slice (some ⟨b, off, none⟩) l.length sc) (.slice ga gs.length gc) l gs torn → RowIs W w.heap.size [.int .i64 xn, .int .i64 xi, .int .i64 xt, .slice ea xes.length ec, .slice pa xps.length pc] 126 → W.cell? ⟨w.heap.size, 0, none⟩ = some (.int .i64 xn) ∧ W.cell? ⟨w.heap.size, 1, none⟩ = some (.int .i64 xi) ∧ W.cell? ⟨w.heap.size, 2, none⟩ = some (.int .i64 xt) ∧ W.cell? ⟨w.heap.size, 3, none⟩ = some (.slice ea xes.length ec) ∧ W.cell? ⟨w.heap.size, 4, none⟩ = some (.slice pa xps.length pc) ∧ W.cell? ⟨fb, 0, none⟩ = some (.slice (some ⟨b, off, none⟩) l.length sc) ∧ W.cell? ⟨b, off + m * 5, none⟩ = some (.int .i64 (l[m]).n) ∧ W.cell? ⟨b, off + m * 5 + 1, none⟩ = some (.int .i64 (l[m]).ix) ∧ W.cell? ⟨b, off + m * 5 + 2, none⟩ = some (.int .i64 (l[m]).tm) ∧ W.cell? ⟨b, off + m * 5 + 3, none⟩ = some (l[m]).ve ∧ W.cell? ⟨b, off + m * 5 + 4, none⟩ = some (l[m]).vp) := fun W hF hR =>
      ⟨hR.cellAt (o := 0) rfl, hR.cellAt (o := 1) rfl, hR.cellAt (o := 2) rfl, hR.cellAt (o := 3) rfl, hR.cellAt (o := 4) rfl, hF.bx.cellAt (o := 0) rfl, by simpa using hF.sg.cellN m hml 0 _ rfl, hF.sg.cellN m hml 1 _ rfl, hF.sg.cellN m hml 2 _ rfl, hF.sg.cellN m hml 3 _ rfl, hF.sg.cellN m hml 4 _ rfl⟩
    have HS : Hid (tkS l ⟨xn, xi, xt, .slice ea xes.length ec, .slice pa xps.length pc, xes, xps⟩ = if onC l ⟨xn, xi, xt, .slice ea xes.length ec, .slice pa xps.length pc, xes, xps⟩ = true then l ++ [⟨xn, xi, xt, .slice ea xes.length ec, .slice pa xps.length pc, xes, xps⟩] else [⟨xn, xi, xt, .slice ea xes.length ec, .slice pa xps.length pc, xes, xps⟩]) := rfl
    have HG : Hid (tkG l gs ⟨xn, xi, xt, .slice ea xes.length ec, .slice pa xps.length pc, xes, xps⟩ = if onC l ⟨xn, xi, xt, .slice ea xes.length ec, .slice pa xps.length pc, xes, xps⟩ = true then gs else gs ++ l.map (·.n)) := rfl
    have q0 : (l.length : Int) - 1 = (m : Int) := by omega
    have q1 : (m : Int) < (l.length : Int) := by omega
    have q2 : (0 : Int) ≤ (m : Int) := by omega
    have q4 : (l.length : Int) ≤ 1048576 := by omega
    have q5 : IntKind.i64.wrap (m : Int) = (m : Int) := by rw [IntKind.wrap_i64]; omega
    have q6 : decide ((l.length : Int) > 0) = true := decide_eq_true (by omega)
    have q7 : decide (l.length > 0) = true := decide_eq_true (by omega)
    have HL9 : Hid (l.length + 1 ≤ 1048576) := by show _ ≤ _; omega
    have HL10 : Hid ((l.length + 1) * 72 ≤ 140737488355328) := by show _ ≤ _; omega
    have HLG := hid hg
    have HGS : Hid (∀ y ∈ l, ∀ g, y.vp.ownBlock = some g → ¬ (Value.slice ga gs.length gc).ownBlock = some g) := h.ap
    have c0 := F5.out.bx.cellAt (o := 0) rfl
    clear h hx hap hag hb hz hl hg BE hB hbf hsy hyb hy0 HON hm
    generalize onC l ⟨xn, xi, xt, .slice ea xes.length ec, .slice pa xps.length pc, xes, xps⟩ = on at *
    have HYV : Hid ((l[m]).ve = .slice ya (l[m]).es.length yc ∧ (l[m]).vp = .slice za (l[m]).ps.length zc) := ⟨hye, hyp⟩
    clear hye hyp
    generalize l[m] = y at *
    obtain ⟨yn, yi, yt, yve, yvp, yes, yps⟩ := y
    simp only at HYV GO ZC
    obtain ⟨rfl, rfl⟩ : yve = _ ∧ yvp = _ := HYV.out
    clear HYV hml e2
    go_enter Tryz.func106, Tryz.ntmps106
    go_wp2_with fail
    have F6 : Hid (FdI (w.alloc (.cells #[.int .i64 xn, .int .i64 xi, .int .i64 xt, .slice ea xes.length ec, .slice pa xps.length pc] 126)).drew B fb (.slice (some ⟨b, off, none⟩) l.length sc) (.slice ga gs.length gc) l gs torn) := F5.out.next (Below.refl _ _).drew
    have X6 : Hid (SvI (w.alloc (.cells #[.int .i64 xn, .int .i64 xi, .int .i64 xt, .slice ea xes.length ec, .slice pa xps.length pc] 126)).drew B ⟨xn, xi, xt, .slice ea xes.length ec, .slice pa xps.length pc, xes, xps⟩) := X5.out.next (Below.refl _ _).drew
    have R6 : Hid (RowIs (w.alloc (.cells #[.int .i64 xn, .int .i64 xi, .int .i64 xt, .slice ea xes.length ec, .slice pa xps.length pc] 126)).drew w.heap.size [.int .i64 xn, .int .i64 xi, .int .i64 xt, .slice ea xes.length ec, .slice pa xps.length pc] 126) := R5.out
    have K6 : Hid (Keep (fun k => k = fb ∨ B ≤ k) w (w.alloc (.cells #[.int .i64 xn, .int .i64 xi, .int .i64 xt, .slice ea xes.length ec, .slice pa xps.length pc] 126)).drew) := K5.out.trans (keep_drew _ _)
    clear F5 X5 R5 K5 c0
    refine wp_region_held_drew (S := fun W => W.cell? ⟨w.heap.size, 0, none⟩ = some (.int .i64 xn) ∧ W.cell? ⟨w.heap.size, 1, none⟩ = some (.int .i64 xi) ∧ W.cell? ⟨w.heap.size, 2, none⟩ = some (.int .i64 xt) ∧ W.cell? ⟨w.heap.size, 3, none⟩ = some (.slice ea xes.length ec) ∧ W.cell? ⟨w.heap.size, 4, none⟩ = some (.slice pa xps.length pc) ∧ W.cell? ⟨fb, 0, none⟩ = some (.slice (some ⟨b, off, none⟩) l.length sc) ∧ W.cell? ⟨b, off + m * 5, none⟩ = some (.int .i64 yn) ∧ W.cell? ⟨b, off + m * 5 + 1, none⟩ = some (.int .i64 yi) ∧ W.cell? ⟨b, off + m * 5 + 2, none⟩ = some (.int .i64 yt) ∧ W.cell? ⟨b, off + m * 5 + 3, none⟩ = some (.slice ya yes.length yc) ∧ W.cell? ⟨b, off + m * 5 + 4, none⟩ = some (.slice za yps.length zc)) (by kernel_rfl) (ZC.out _ F6.out R6.out) (fun hHeld => ?_)
    generalize (w.alloc (.cells #[.int .i64 xn, .int .i64 xi, .int .i64 xt, .slice ea xes.length ec, .slice pa xps.length pc] 126)).drew = u1 at *
    refine wpAnyH_take (i := 0) (v := ?vv28) rfl (by kernel_rfl) (by kernel_rfl) (by kernel_rfl) (fun _ _ _ h => h) (Or.inl ⟨by rfl, ?hy28⟩) (by assumption) ?rest28
    case hy28 => (intro w hSw; (try dsimp only at hSw); go_simp; first | done | with_reducible rfl)
    try simp only [Act.put, List.getElem_toArray, List.getElem_cons_succ, List.getElem_cons_zero, List.setIfInBounds_toArray, List.set_cons_zero, List.set_cons_succ]
    refine wpAnyH_take (i := 1) (v := ?vv29) rfl (by kernel_rfl) (by kernel_rfl) (by kernel_rfl) (fun _ _ _ h => h) (Or.inl ⟨by rfl, ?hy29⟩) (by assumption) ?rest29
    case hy29 => (intro w hSw; (try dsimp only at hSw); go_simp; first | done | with_reducible rfl)
    try simp only [Act.put, List.getElem_toArray, List.getElem_cons_succ, List.getElem_cons_zero, List.setIfInBounds_toArray, List.set_cons_zero, List.set_cons_succ]
    refine wpAnyH_take (i := 2) (v := ?vv30) rfl (by kernel_rfl) (by kernel_rfl) (by kernel_rfl) (fun _ _ _ h => h) (Or.inl ⟨by rfl, ?hy30⟩) (by assumption) ?rest30
    case hy30 => (intro w hSw; (try dsimp only at hSw); go_simp; first | done | with_reducible rfl)
    try simp only [Act.put, List.getElem_toArray, List.getElem_cons_succ, List.getElem_cons_zero, List.setIfInBounds_toArray, List.set_cons_zero, List.set_cons_succ]
    refine wpAnyH_take (i := 3) (v := ?vv31) rfl (by kernel_rfl) (by kernel_rfl) (by kernel_rfl) (fun _ _ _ h => h) (Or.inl ⟨by rfl, ?hy31⟩) (by assumption) ?rest31
    case hy31 => (intro w hSw; (try dsimp only at hSw); go_simp; first | done | with_reducible rfl)
    try simp only [Act.put, List.getElem_toArray, List.getElem_cons_succ, List.getElem_cons_zero, List.setIfInBounds_toArray, List.set_cons_zero, List.set_cons_succ]
    refine wpAnyH_take (i := 4) (v := ?vv32) rfl (by kernel_rfl) (by kernel_rfl) (by kernel_rfl) (fun _ _ _ h => h) (Or.inl ⟨by rfl, ?hy32⟩) (by assumption) ?rest32
    case hy32 => (intro w hSw; (try dsimp only at hSw); go_simp; first | done | with_reducible rfl)
    try simp only [Act.put, List.getElem_toArray, List.getElem_cons_succ, List.getElem_cons_zero, List.setIfInBounds_toArray, List.set_cons_zero, List.set_cons_succ]
    refine wpAnyH_take (i := 5) (v := ?vv33) rfl (by kernel_rfl) (by kernel_rfl) (by kernel_rfl) (fun _ _ _ h => h) (Or.inl ⟨by rfl, ?hy33⟩) (by assumption) ?rest33
    case hy33 => (intro w hSw; (try dsimp only at hSw); go_simp; first | done | with_reducible rfl)
    try simp only [Act.put, List.getElem_toArray, List.getElem_cons_succ, List.getElem_cons_zero, List.setIfInBounds_toArray, List.set_cons_zero, List.set_cons_succ]
    refine wpAnyH_take (i := 6) (v := ?vv34) rfl (by kernel_rfl) (by kernel_rfl) (by kernel_rfl) (fun _ _ _ h => h) (Or.inl ⟨by rfl, ?hy34⟩) (by assumption) ?rest34
    case hy34 => (intro w hSw; (try dsimp only at hSw); go_simp; first | done | with_reducible rfl)
    try simp only [Act.put, List.getElem_toArray, List.getElem_cons_succ, List.getElem_cons_zero, List.setIfInBounds_toArray, List.set_cons_zero, List.set_cons_succ]
    refine wpAnyH_take (i := 7) (v := ?vv35) rfl (by kernel_rfl) (by kernel_rfl) (by kernel_rfl) (fun _ _ _ h => h) (Or.inl ⟨by rfl, ?hy35⟩) (by assumption) ?rest35
    case hy35 => (intro w hSw; (try dsimp only at hSw); go_simp; first | done | with_reducible rfl)
    try simp only [Act.put, List.getElem_toArray, List.getElem_cons_succ, List.getElem_cons_zero, List.setIfInBounds_toArray, List.set_cons_zero, List.set_cons_succ]
    refine wpAnyH_take (i := 8) (v := ?vv36) rfl (by kernel_rfl) (by kernel_rfl) (by kernel_rfl) (fun _ _ _ h => h) (Or.inl ⟨by rfl, ?hy36⟩) (by assumption) ?rest36
    case hy36 => (intro w hSw; (try dsimp only at hSw); go_simp; first | done | with_reducible rfl)
    try simp only [Act.put, List.getElem_toArray, List.getElem_cons_succ, List.getElem_cons_zero, List.setIfInBounds_toArray, List.set_cons_zero, List.set_cons_succ]
    refine wpAnyH_take (i := 9) (v := ?vv37) rfl (by kernel_rfl) (by kernel_rfl) (by kernel_rfl) (fun _ _ _ h => h) (Or.inl ⟨by rfl, ?hy37⟩) (by assumption) ?rest37
    case hy37 => (intro w hSw; (try dsimp only at hSw); go_simp; first | done | with_reducible rfl)
    try simp only [Act.put, List.getElem_toArray, List.getElem_cons_succ, List.getElem_cons_zero, List.setIfInBounds_toArray, List.set_cons_zero, List.set_cons_succ]
    refine wpAnyH_take (i := 10) (v := ?vv38) rfl (by kernel_rfl) (by kernel_rfl) (by kernel_rfl) (fun _ _ _ h => h) (Or.inl ⟨by rfl, ?hy38⟩) (by assumption) ?rest38
    case hy38 => (intro w hSw; (try dsimp only at hSw); go_simp; first | done | with_reducible rfl)
    try simp only [Act.put, List.getElem_toArray, List.getElem_cons_succ, List.getElem_cons_zero, List.setIfInBounds_toArray, List.set_cons_zero, List.set_cons_succ]
    refine wpAnyH_take (i := 11) (v := ?vv39) rfl (by kernel_rfl) (by kernel_rfl) (by kernel_rfl) (fun _ _ _ h => h) (Or.inl ⟨by rfl, ?hy39⟩) (by assumption) ?rest39
    case hy39 => (intro w hSw; (try dsimp only at hSw); go_simp; first | done | with_reducible rfl)
    try simp only [Act.put, List.getElem_toArray, List.getElem_cons_succ, List.getElem_cons_zero, List.setIfInBounds_toArray, List.set_cons_zero, List.set_cons_succ]
    refine wpAnyH_ready (rs := [12]) (by kernel_rfl) (by simp) ?_
    refine AllReadyH.cons rfl (fun K hK => ?_) AllReadyH.nil
    go_simp
    refine (GO.out _ F6.out).mono ?_
    rintro e u2 ⟨rfl, bq⟩
    have F7 := hid (F6.out.next bq)
    have X7 := hid (X6.out.next bq)
    have R7 := hid (R6.out.keep (bq.keep (fun _ => False)) (fun h => h))
    have K7 : Hid (Keep (fun k => k = fb ∨ B ≤ k) w u2) := K6.out.trans (bq.keep _)
    clear bq hHeld
    go_wp2_with fail
    refine hK.out _ _ (ZC.out _ F7.out R7.out) (fun hHeld => ?_)
    clear hK K
    try simp only [Act.put, List.getElem_toArray, List.getElem_cons_succ, List.getElem_cons_zero, List.setIfInBounds_toArray, List.set_cons_zero, List.set_cons_succ]
    refine wpAnyH_take (i := 13) (v := ?vv40) rfl (by kernel_rfl) (by kernel_rfl) (by kernel_rfl) (fun _ _ _ h => h) (Or.inl ⟨by rfl, ?hy40⟩) (by assumption) ?rest40
    case hy40 => (intro w hSw; (try dsimp only at hSw); go_simp; first | done | with_reducible rfl)
    try simp only [Act.put, List.getElem_toArray, List.getElem_cons_succ, List.getElem_cons_zero, List.setIfInBounds_toArray, List.set_cons_zero, List.set_cons_succ]
    refine wpAnyH_take (i := 14) (v := ?vv41) rfl (by kernel_rfl) (by kernel_rfl) (by kernel_rfl) (fun _ _ _ h => h) (Or.inl ⟨by rfl, ?hy41⟩) (by assumption) ?rest41
    case hy41 => (intro w hSw; (try dsimp only at hSw); go_simp; first | done | with_reducible rfl)
    try simp only [Act.put, List.getElem_toArray, List.getElem_cons_succ, List.getElem_cons_zero, List.setIfInBounds_toArray, List.set_cons_zero, List.set_cons_succ]
    refine wpAnyH_done (by kernel_rfl) ?_ _
    clear GO ZC F6 X6 R6 K6
    cases on with
    | true =>
      have HS2 := hid (HS.out.trans (if_pos rfl))
      have HG2 := hid (HG.out.trans (if_pos rfl))
      clear HS HG q0 q1 q2 q5
      go_wp2_with fail
      have F6 : Hid (FdI u2.drew B fb (.slice (some ⟨b, off, none⟩) l.length sc) (.slice ga gs.length gc) (l) (gs) torn) := F7.out.next (Below.refl _ _).drew
      have X6 : Hid (SvI u2.drew B ⟨xn, xi, xt, .slice ea xes.length ec, .slice pa xps.length pc, xes, xps⟩) := X7.out.next (Below.refl _ _).drew
      have R6 : Hid (RowIs u2.drew w.heap.size [.int .i64 xn, .int .i64 xi, .int .i64 xt, .slice ea xes.length ec, .slice pa xps.length pc] 126) := R7.out
      have K6 : Hid (Keep (fun k => k = fb ∨ B ≤ k) w u2.drew) := K7.out.trans (keep_drew _ _)
      have FIN := hid (ftake_fin (S := l) F6.out ⟨xn, xi, xt, .slice ea xes.length ec, .slice pa xps.length pc, xes, xps⟩ X6.out R6.out K6.out HBL.out.1 HBL.out.2 HNB.out HAG.out (l.length + 1) rfl (fun a ha => HAE.out a ((fun a ha => ha) a ha)))
      clear F7 X7 R7 K7 HAE HAG HNB
      have Z90 : (u2.drew.cell? ⟨w.heap.size, 0, none⟩ = some (.int .i64 xn) ∧ u2.drew.cell? ⟨w.heap.size, 1, none⟩ = some (.int .i64 xi) ∧ u2.drew.cell? ⟨w.heap.size, 2, none⟩ = some (.int .i64 xt) ∧ u2.drew.cell? ⟨w.heap.size, 3, none⟩ = some (.slice ea xes.length ec) ∧ u2.drew.cell? ⟨w.heap.size, 4, none⟩ = some (.slice pa xps.length pc)) := ⟨R6.out.cellAt (o := 0) rfl, R6.out.cellAt (o := 1) rfl, R6.out.cellAt (o := 2) rfl, R6.out.cellAt (o := 3) rfl, R6.out.cellAt (o := 4) rfl⟩
      refine wp_region_held_drew (S := fun W => W.cell? ⟨w.heap.size, 0, none⟩ = some (.int .i64 xn) ∧ W.cell? ⟨w.heap.size, 1, none⟩ = some (.int .i64 xi) ∧ W.cell? ⟨w.heap.size, 2, none⟩ = some (.int .i64 xt) ∧ W.cell? ⟨w.heap.size, 3, none⟩ = some (.slice ea xes.length ec) ∧ W.cell? ⟨w.heap.size, 4, none⟩ = some (.slice pa xps.length pc)) (by kernel_rfl) Z90 (fun hHeld => ?_)
      generalize u2.drew = u0 at *
      have q0 := F6.out.bx.cellAt (o := 0) rfl
      have q1 := (F6.out.next (below_al (Below.refl _ _) (.cells #[.int .i64 xn, .int .i64 xi, .int .i64 xt, .slice ea xes.length ec, .slice pa xps.length pc] 126))).bx.cellAt (o := 0) rfl
      have R7 := hid (row_old R6.out (.cells #[.int .i64 xn, .int .i64 xi, .int .i64 xt, .slice ea xes.length ec, .slice pa xps.length pc] 126))
      have Z91 : ((u0.alloc (.cells #[.int .i64 xn, .int .i64 xi, .int .i64 xt, .slice ea xes.length ec, .slice pa xps.length pc] 126)).cell? ⟨w.heap.size, 0, none⟩ = some (.int .i64 xn) ∧ (u0.alloc (.cells #[.int .i64 xn, .int .i64 xi, .int .i64 xt, .slice ea xes.length ec, .slice pa xps.length pc] 126)).cell? ⟨w.heap.size, 1, none⟩ = some (.int .i64 xi) ∧ (u0.alloc (.cells #[.int .i64 xn, .int .i64 xi, .int .i64 xt, .slice ea xes.length ec, .slice pa xps.length pc] 126)).cell? ⟨w.heap.size, 2, none⟩ = some (.int .i64 xt) ∧ (u0.alloc (.cells #[.int .i64 xn, .int .i64 xi, .int .i64 xt, .slice ea xes.length ec, .slice pa xps.length pc] 126)).cell? ⟨w.heap.size, 3, none⟩ = some (.slice ea xes.length ec) ∧ (u0.alloc (.cells #[.int .i64 xn, .int .i64 xi, .int .i64 xt, .slice ea xes.length ec, .slice pa xps.length pc] 126)).cell? ⟨w.heap.size, 4, none⟩ = some (.slice pa xps.length pc)) := ⟨R7.out.cellAt (o := 0) rfl, R7.out.cellAt (o := 1) rfl, R7.out.cellAt (o := 2) rfl, R7.out.cellAt (o := 3) rfl, R7.out.cellAt (o := 4) rfl⟩
      have OG9 : Hid (ORow (u0.alloc (.cells #[.int .i64 xn, .int .i64 xi, .int .i64 xt, .slice ea xes.length ec, .slice pa xps.length pc] 126)) B 126 5 (.slice (some ⟨b, off, none⟩) l.length sc) (l.length) (svsC (l))) := (F6.out.next (below_al (Below.refl _ _) (.cells #[.int .i64 xn, .int .i64 xi, .int .i64 xt, .slice ea xes.length ec, .slice pa xps.length pc] 126))).sg.row
      have HB9 : Hid (B ≤ (u0.alloc (.cells #[.int .i64 xn, .int .i64 xi, .int .i64 xt, .slice ea xes.length ec, .slice pa xps.length pc] 126)).heap.size) := by have := HBL.out.1; have := K6.out.size; show _ ≤ _; simp; omega
      have HX9 : Hid (RowC (u0.alloc (.cells #[.int .i64 xn, .int .i64 xi, .int .i64 xt, .slice ea xes.length ec, .slice pa xps.length pc] 126)) (.slice (some ⟨u0.heap.size, 0, none⟩) 1 1) 1 (svC ⟨xn, xi, xt, .slice ea xes.length ec, .slice pa xps.length pc, xes, xps⟩)) := RowC.own (own_made u0 (svC ⟨xn, xi, xt, .slice ea xes.length ec, .slice pa xps.length pc, xes, xps⟩) 126 5 1 0 (Nat.zero_le _) rfl (by omega))
      clear F6 X6 R6 R7 K6
      refine wpAnyH_take (i := 0) (v := ?vv10) rfl (by kernel_rfl) (by kernel_rfl) (by kernel_rfl) (fun _ _ _ h => h) (Or.inl ⟨by rfl, ?hy10⟩) (by assumption) ?rest10
      case hy10 => (intro w hSw; (try dsimp only at hSw); go_simp; first | done | with_reducible rfl)
      try simp only [Act.put, List.getElem_toArray, List.getElem_cons_succ, List.getElem_cons_zero, List.setIfInBounds_toArray, List.set_cons_zero, List.set_cons_succ]
      refine wpAnyH_take (i := 1) (v := ?vv11) rfl (by kernel_rfl) (by kernel_rfl) (by kernel_rfl) (fun _ _ _ h => h) (Or.inl ⟨by rfl, ?hy11⟩) (by assumption) ?rest11
      case hy11 => (intro w hSw; (try dsimp only at hSw); go_simp; first | done | with_reducible rfl)
      try simp only [Act.put, List.getElem_toArray, List.getElem_cons_succ, List.getElem_cons_zero, List.setIfInBounds_toArray, List.set_cons_zero, List.set_cons_succ]
      refine wpAnyH_take (i := 2) (v := ?vv12) rfl (by kernel_rfl) (by kernel_rfl) (by kernel_rfl) (fun _ _ _ h => h) (Or.inl ⟨by rfl, ?hy12⟩) (by assumption) ?rest12
      case hy12 => (intro w hSw; (try dsimp only at hSw); go_simp; first | done | with_reducible rfl)
      try simp only [Act.put, List.getElem_toArray, List.getElem_cons_succ, List.getElem_cons_zero, List.setIfInBounds_toArray, List.set_cons_zero, List.set_cons_succ]
      refine wpAnyH_take (i := 3) (v := ?vv13) rfl (by kernel_rfl) (by kernel_rfl) (by kernel_rfl) (fun _ _ _ h => h) (Or.inl ⟨by rfl, ?hy13⟩) (by assumption) ?rest13
      case hy13 => (intro w hSw; (try dsimp only at hSw); go_simp; first | done | with_reducible rfl)
      try simp only [Act.put, List.getElem_toArray, List.getElem_cons_succ, List.getElem_cons_zero, List.setIfInBounds_toArray, List.set_cons_zero, List.set_cons_succ]
      refine wpAnyH_take (i := 5) (v := ?vv14) rfl (by kernel_rfl) (by kernel_rfl) (by kernel_rfl) (fun _ _ _ h => h) (Or.inl ⟨by rfl, ?hy14⟩) (by assumption) ?rest14
      case hy14 => (intro w hSw; (try dsimp only at hSw); go_simp; first | done | with_reducible rfl)
      try simp only [Act.put, List.getElem_toArray, List.getElem_cons_succ, List.getElem_cons_zero, List.setIfInBounds_toArray, List.set_cons_zero, List.set_cons_succ]
      refine wpAnyH_ready (rs := [4, 6]) (by kernel_rfl) (by simp) ?_
      refine AllReadyH.cons rfl (fun K hK => ?_) (AllReadyH.cons rfl (fun K hK => ?_) AllReadyH.nil)
      · go_simp
        refine hK.out _ _ Z90 (fun hHeld => ?_)
        clear hK K
        try simp only [Act.put, List.getElem_toArray, List.getElem_cons_succ, List.getElem_cons_zero, List.setIfInBounds_toArray, List.set_cons_zero, List.set_cons_succ]
        refine wpAnyH_ready (rs := [6]) (by kernel_rfl) (by simp) ?_
        refine AllReadyH.cons rfl (fun K hK => ?_) AllReadyH.nil
        go_simp
        refine hK.out _ _ Z91 (fun hHeld => ?_)
        clear hK K
        try simp only [Act.put, List.getElem_toArray, List.getElem_cons_succ, List.getElem_cons_zero, List.setIfInBounds_toArray, List.set_cons_zero, List.set_cons_succ]
        refine wpAnyH_ready (rs := [7]) (by kernel_rfl) (by simp) ?_
        refine AllReadyH.cons rfl (fun K hK => ?_) AllReadyH.nil
        refine step_gappP (by rfl) _ _ elSg (by rfl) B (.slice (some ⟨b, off, none⟩) l.length sc) (.slice (some ⟨u0.heap.size, 0, none⟩) 1 1) (svsC (l)) (svC ⟨xn, xi, xt, .slice ea xes.length ec, .slice pa xps.length pc, xes, xps⟩) (l.length) 1 (l.length + 1) rfl (by rfl) (by rfl) OG9.out HB9.out HX9.out rfl HC9.out (by omega) HL9.out HL10.out ?_
        intro sa' sc' w9 ho9 hk9
        obtain ⟨R9, ⟨g99, f99⟩, R98, F98⟩ := FIN.out _ _ _ ho9 hk9
        have Z99 : (w9.cell? ⟨w.heap.size, 0, none⟩ = some (.int .i64 xn) ∧ w9.cell? ⟨w.heap.size, 1, none⟩ = some (.int .i64 xi) ∧ w9.cell? ⟨w.heap.size, 2, none⟩ = some (.int .i64 xt) ∧ w9.cell? ⟨w.heap.size, 3, none⟩ = some (.slice ea xes.length ec) ∧ w9.cell? ⟨w.heap.size, 4, none⟩ = some (.slice pa xps.length pc)) := ⟨R9.cellAt (o := 0) rfl, R9.cellAt (o := 1) rfl, R9.cellAt (o := 2) rfl, R9.cellAt (o := 3) rfl, R9.cellAt (o := 4) rfl⟩
        have Z98 : ((w9.setCell ⟨fb, 0, none⟩ (.slice sa' (l.length + 1) sc')).cell? ⟨w.heap.size, 0, none⟩ = some (.int .i64 xn) ∧ (w9.setCell ⟨fb, 0, none⟩ (.slice sa' (l.length + 1) sc')).cell? ⟨w.heap.size, 1, none⟩ = some (.int .i64 xi) ∧ (w9.setCell ⟨fb, 0, none⟩ (.slice sa' (l.length + 1) sc')).cell? ⟨w.heap.size, 2, none⟩ = some (.int .i64 xt) ∧ (w9.setCell ⟨fb, 0, none⟩ (.slice sa' (l.length + 1) sc')).cell? ⟨w.heap.size, 3, none⟩ = some (.slice ea xes.length ec) ∧ (w9.setCell ⟨fb, 0, none⟩ (.slice sa' (l.length + 1) sc')).cell? ⟨w.heap.size, 4, none⟩ = some (.slice pa xps.length pc)) := ⟨R98.cellAt (o := 0) rfl, R98.cellAt (o := 1) rfl, R98.cellAt (o := 2) rfl, R98.cellAt (o := 3) rfl, R98.cellAt (o := 4) rfl⟩
        have F97 := hid F98
        clear ho9 hk9 FIN R9 R98 F98
        refine hK.out _ _ Z99 (fun hHeld => ?_)
        clear hK K
        try simp only [Act.put, List.getElem_toArray, List.getElem_cons_succ, List.getElem_cons_zero, List.setIfInBounds_toArray, List.set_cons_zero, List.set_cons_succ]
        refine wpAnyH_take (i := 8) (v := ?vv15) rfl (by kernel_rfl) (by kernel_rfl) (by kernel_rfl) (fun _ _ _ h => h) (Or.inl ⟨by rfl, ?hy15⟩) (by assumption) ?rest15
        case hy15 => (intro w hSw; (try dsimp only at hSw); go_simp; first | done | with_reducible rfl)
        try simp only [Act.put, List.getElem_toArray, List.getElem_cons_succ, List.getElem_cons_zero, List.setIfInBounds_toArray, List.set_cons_zero, List.set_cons_succ]
        refine wpAnyH_take (i := 9) (v := ?vv16) rfl (by kernel_rfl) (by kernel_rfl) (by kernel_rfl) (fun _ _ _ h => h) (Or.inl ⟨by rfl, ?hy16⟩) (by assumption) ?rest16
        case hy16 => (intro w hSw; (try dsimp only at hSw); go_simp; first | done | with_reducible rfl)
        try simp only [Act.put, List.getElem_toArray, List.getElem_cons_succ, List.getElem_cons_zero, List.setIfInBounds_toArray, List.set_cons_zero, List.set_cons_succ]
        refine wpAnyH_ready (rs := [10]) (by kernel_rfl) (by simp) ?_
        refine AllReadyH.cons rfl (fun K hK => ?_) AllReadyH.nil
        go_simp
        refine hK.out _ _ Z98 (fun hHeld => ?_)
        clear hK K
        try simp only [Act.put, List.getElem_toArray, List.getElem_cons_succ, List.getElem_cons_zero, List.setIfInBounds_toArray, List.set_cons_zero, List.set_cons_succ]
        refine wpAnyH_done (by kernel_rfl) ?_ _
        go_wp2
        go_end0
        rw [HS2.out, HG2.out]
        exact ⟨rfl, F97.out⟩
      · go_simp
        refine hK.out _ _ Z91 (fun hHeld => ?_)
        clear hK K
        try simp only [Act.put, List.getElem_toArray, List.getElem_cons_succ, List.getElem_cons_zero, List.setIfInBounds_toArray, List.set_cons_zero, List.set_cons_succ]
        refine wpAnyH_ready (rs := [4]) (by kernel_rfl) (by simp) ?_
        refine AllReadyH.cons rfl (fun K hK => ?_) AllReadyH.nil
        go_simp
        refine hK.out _ _ Z91 (fun hHeld => ?_)
        clear hK K
        try simp only [Act.put, List.getElem_toArray, List.getElem_cons_succ, List.getElem_cons_zero, List.setIfInBounds_toArray, List.set_cons_zero, List.set_cons_succ]
        refine wpAnyH_ready (rs := [7]) (by kernel_rfl) (by simp) ?_
        refine AllReadyH.cons rfl (fun K hK => ?_) AllReadyH.nil
        refine step_gappP (by rfl) _ _ elSg (by rfl) B (.slice (some ⟨b, off, none⟩) l.length sc) (.slice (some ⟨u0.heap.size, 0, none⟩) 1 1) (svsC (l)) (svC ⟨xn, xi, xt, .slice ea xes.length ec, .slice pa xps.length pc, xes, xps⟩) (l.length) 1 (l.length + 1) rfl (by rfl) (by rfl) OG9.out HB9.out HX9.out rfl HC9.out (by omega) HL9.out HL10.out ?_
        intro sa' sc' w9 ho9 hk9
        obtain ⟨R9, ⟨g99, f99⟩, R98, F98⟩ := FIN.out _ _ _ ho9 hk9
        have Z99 : (w9.cell? ⟨w.heap.size, 0, none⟩ = some (.int .i64 xn) ∧ w9.cell? ⟨w.heap.size, 1, none⟩ = some (.int .i64 xi) ∧ w9.cell? ⟨w.heap.size, 2, none⟩ = some (.int .i64 xt) ∧ w9.cell? ⟨w.heap.size, 3, none⟩ = some (.slice ea xes.length ec) ∧ w9.cell? ⟨w.heap.size, 4, none⟩ = some (.slice pa xps.length pc)) := ⟨R9.cellAt (o := 0) rfl, R9.cellAt (o := 1) rfl, R9.cellAt (o := 2) rfl, R9.cellAt (o := 3) rfl, R9.cellAt (o := 4) rfl⟩
        have Z98 : ((w9.setCell ⟨fb, 0, none⟩ (.slice sa' (l.length + 1) sc')).cell? ⟨w.heap.size, 0, none⟩ = some (.int .i64 xn) ∧ (w9.setCell ⟨fb, 0, none⟩ (.slice sa' (l.length + 1) sc')).cell? ⟨w.heap.size, 1, none⟩ = some (.int .i64 xi) ∧ (w9.setCell ⟨fb, 0, none⟩ (.slice sa' (l.length + 1) sc')).cell? ⟨w.heap.size, 2, none⟩ = some (.int .i64 xt) ∧ (w9.setCell ⟨fb, 0, none⟩ (.slice sa' (l.length + 1) sc')).cell? ⟨w.heap.size, 3, none⟩ = some (.slice ea xes.length ec) ∧ (w9.setCell ⟨fb, 0, none⟩ (.slice sa' (l.length + 1) sc')).cell? ⟨w.heap.size, 4, none⟩ = some (.slice pa xps.length pc)) := ⟨R98.cellAt (o := 0) rfl, R98.cellAt (o := 1) rfl, R98.cellAt (o := 2) rfl, R98.cellAt (o := 3) rfl, R98.cellAt (o := 4) rfl⟩
        have F97 := hid F98
        clear ho9 hk9 FIN R9 R98 F98
        refine hK.out _ _ Z99 (fun hHeld => ?_)
        clear hK K
        try simp only [Act.put, List.getElem_toArray, List.getElem_cons_succ, List.getElem_cons_zero, List.setIfInBounds_toArray, List.set_cons_zero, List.set_cons_succ]
        refine wpAnyH_take (i := 8) (v := ?vv17) rfl (by kernel_rfl) (by kernel_rfl) (by kernel_rfl) (fun _ _ _ h => h) (Or.inl ⟨by rfl, ?hy17⟩) (by assumption) ?rest17
        case hy17 => (intro w hSw; (try dsimp only at hSw); go_simp; first | done | with_reducible rfl)
        try simp only [Act.put, List.getElem_toArray, List.getElem_cons_succ, List.getElem_cons_zero, List.setIfInBounds_toArray, List.set_cons_zero, List.set_cons_succ]
        refine wpAnyH_take (i := 9) (v := ?vv18) rfl (by kernel_rfl) (by kernel_rfl) (by kernel_rfl) (fun _ _ _ h => h) (Or.inl ⟨by rfl, ?hy18⟩) (by assumption) ?rest18
        case hy18 => (intro w hSw; (try dsimp only at hSw); go_simp; first | done | with_reducible rfl)
        try simp only [Act.put, List.getElem_toArray, List.getElem_cons_succ, List.getElem_cons_zero, List.setIfInBounds_toArray, List.set_cons_zero, List.set_cons_succ]
        refine wpAnyH_ready (rs := [10]) (by kernel_rfl) (by simp) ?_
        refine AllReadyH.cons rfl (fun K hK => ?_) AllReadyH.nil
        go_simp
        refine hK.out _ _ Z98 (fun hHeld => ?_)
        clear hK K
        try simp only [Act.put, List.getElem_toArray, List.getElem_cons_succ, List.getElem_cons_zero, List.setIfInBounds_toArray, List.set_cons_zero, List.set_cons_succ]
        refine wpAnyH_done (by kernel_rfl) ?_ _
        go_wp2
        go_end0
        rw [HS2.out, HG2.out]
        exact ⟨rfl, F97.out⟩
    | false =>
      have HS2 := hid (HS.out.trans (if_neg (by simp)))
      have HG2 := hid (HG.out.trans (if_neg (by simp)))
      clear HS HG q0 q1 q2 q5
      have HXG0 : Hid (∀ g, (Value.slice pa xps.length pc).ownBlock = some g → ¬ (Value.slice ga gs.length gc).ownBlock = some g) := HAG.out
      have c0 := F7.out.bx.cellAt (o := 0) rfl
      go_wp2_with fail
      go_loopw [27] (fun i wr => ∃ k : Nat, i = .int .i64 (k : Int) ∧ Hid (TkR w B fb b off sc l gs torn ⟨xn, xi, xt, .slice ea xes.length ec, .slice pa xps.length pc, xes, xps⟩ k wr)) (fun i _ => l.length - (intOf i).toNat)
      case atStart => exact ⟨0, rfl, gs, gs.length, ga, gc, Nat.zero_le _, by simp, rfl, F7.out, X7.out, HXG0.out, R7.out, K7.out⟩
      case round =>
        clear F7 X7 HXG0 R7 K7 c0
        obtain ⟨k, rfl, HTK⟩ := hrel
        obtain ⟨G, gn, ga2, gc2, hkk, hge, hgn, hF8, hX8, hG8, hR8, hK8⟩ := HTK.out
        have HKK := hid hkk
        have HGE := hid hge
        have HGN := hid hgn
        have F8 := hid hF8
        have X8 := hid hX8
        have HXG : Hid (∀ g, (Value.slice pa xps.length pc).ownBlock = some g → ¬ (Value.slice ga2 gn gc2).ownBlock = some g) := hG8
        have R8 : Hid (RowIs wr w.heap.size [.int .i64 xn, .int .i64 xi, .int .i64 xt, .slice ea xes.length ec, .slice pa xps.length pc] 126) := hR8
        have K8 := hid hK8
        have c0 := F8.out.bx.cellAt (o := 0) rfl
        clear hkk hge hgn hF8 hX8 hG8 hR8 hK8 HTK
        by_cases hk : k < l.length
        · obtain ⟨kn, hkn⟩ : ∃ kn, (l[k]).n = kn := ⟨_, rfl⟩
          have HKN := hid hkn
          have k0 : (0 : Int) ≤ (k : Int) := by omega
          have k1 : (k : Int) < (l.length : Int) := by omega
          have HKL : Hid (k + 1 ≤ l.length) := hk
          have HG3 : Hid (G ++ [kn] = gs ++ (l.take (k + 1)).map (·.n)) := by show _ = _; rw [HGE.out, List.take_succ_eq_append_getElem hk, List.map_append, ← List.append_assoc, ← hkn]; rfl
          have HGN2 : Hid ((G ++ [kn]).length = gn + 1) := by show _ = _; rw [List.length_append, HGN.out]; rfl
          have hgn : gn = gs.length + k := by have h9 := HGN.out; rw [HGE.out, List.length_append, List.length_map, List.length_take] at h9; omega
          have HL6 : Hid (gn + 1 ≤ 1048576) := by have := HLG.out; show _ ≤ _; omega
          have HL7 : Hid ((gn + 1) * 8 ≤ 140737488355328) := by have := HLG.out; show _ ≤ _; omega
          have F10 : Hid (FdI wr.drew B fb (.slice (some ⟨b, off, none⟩) l.length sc) (.slice ga2 gn gc2) l G torn) := F8.out.next (Below.refl _ _).drew
          have X10 : Hid (SvI wr.drew B ⟨xn, xi, xt, .slice ea xes.length ec, .slice pa xps.length pc, xes, xps⟩) := X8.out.next (Below.refl _ _).drew
          have R10 : Hid (RowIs wr.drew w.heap.size [.int .i64 xn, .int .i64 xi, .int .i64 xt, .slice ea xes.length ec, .slice pa xps.length pc] 126) := R8.out
          have K10 : Hid (Keep (fun k => k = fb ∨ B ≤ k) w wr.drew) := K8.out.trans (keep_drew _ _)
          have Z60 : (wr.drew.cell? ⟨fb, 0, none⟩ = some (.slice (some ⟨b, off, none⟩) l.length sc) ∧ wr.drew.cell? ⟨b, off + k * 5, none⟩ = some (.int .i64 kn)) := ⟨F10.out.bx.cellAt (o := 0) rfl, by simpa [hkn] using F10.out.sg.cellN k hk 0 _ rfl⟩
          clear hkn HGE HKK hgn F8 X8 R8 K8
          go_wp2_with fail
          refine wp_region_held_drew (S := fun W => W.cell? ⟨fb, 0, none⟩ = some (.slice (some ⟨b, off, none⟩) l.length sc) ∧ W.cell? ⟨b, off + k * 5, none⟩ = some (.int .i64 kn)) (by kernel_rfl) Z60 (fun hHeld => ?_)
          generalize wr.drew = u0 at *
          have p0 := F10.out.bx.cellAt (o := 1) rfl
          have p1 := (F10.out.next (below_al (Below.refl _ _) (.cells #[.int .i64 kn] 3))).bx.cellAt (o := 1) rfl
          have Z61 : ((u0.alloc (.cells #[.int .i64 kn] 3)).cell? ⟨fb, 0, none⟩ = some (.slice (some ⟨b, off, none⟩) l.length sc) ∧ (u0.alloc (.cells #[.int .i64 kn] 3)).cell? ⟨b, off + k * 5, none⟩ = some (.int .i64 kn)) := ⟨(F10.out.next (below_al (Below.refl _ _) (.cells #[.int .i64 kn] 3))).bx.cellAt (o := 0) rfl, by simpa [HKN.out] using (F10.out.next (below_al (Below.refl _ _) (.cells #[.int .i64 kn] 3))).sg.cellN k hk 0 _ rfl⟩
          have OG6 : Hid (ORow (u0.alloc (.cells #[.int .i64 kn] 3)) B 3 1 (.slice ga2 gn gc2) gn (isC G)) := by have h9 := (F10.out.next (below_al (Below.refl _ _) (.cells #[.int .i64 kn] 3))).og; have h8 : (u0.alloc (.cells #[.int .i64 kn] 3)).ownsRow B 3 1 (.slice ga2 gn gc2) G.length (isC G) := h9; rw [HGN.out] at h8; exact .inl h8
          have HB6 : Hid (B ≤ (u0.alloc (.cells #[.int .i64 kn] 3)).heap.size) := by have := HBL.out.1; have := K10.out.size; show _ ≤ _; simp; omega
          have HX6 : Hid (RowC (u0.alloc (.cells #[.int .i64 kn] 3)) (.slice (some ⟨u0.heap.size, 0, none⟩) 1 1) 1 [.int .i64 kn]) := RowC.own (own_made u0 [.int .i64 kn] 3 1 1 0 (Nat.zero_le _) rfl (by omega))
          have HO6 : Hid (∀ v ∈ [Value.int .i64 kn], v.oneCell' = true) := fun u hu => by simp at hu; subst hu; rfl
          have FIN := hid (ftake_goes F10.out k hk kn HKN.out ⟨xn, xi, xt, .slice ea xes.length ec, .slice pa xps.length pc, xes, xps⟩ X10.out HXG.out R10.out K10.out HBL.out.1 HBL.out.2)
          rw [HGN.out] at FIN
          clear F10 X10 R10 K10 HXG
          refine wpAnyH_take (i := 0) (v := ?vv46) rfl (by kernel_rfl) (by kernel_rfl) (by kernel_rfl) (fun _ _ _ h => h) (Or.inl ⟨by rfl, ?hy46⟩) (by assumption) ?rest46
          case hy46 => (intro w hSw; (try dsimp only at hSw); go_simp; first | done | with_reducible rfl)
          try simp only [Act.put, List.getElem_toArray, List.getElem_cons_succ, List.getElem_cons_zero, List.setIfInBounds_toArray, List.set_cons_zero, List.set_cons_succ]
          refine wpAnyH_take (i := 1) (v := ?vv47) rfl (by kernel_rfl) (by kernel_rfl) (by kernel_rfl) (fun _ _ _ h => h) (Or.inl ⟨by rfl, ?hy47⟩) (by assumption) ?rest47
          case hy47 => (intro w hSw; (try dsimp only at hSw); go_simp; first | done | with_reducible rfl)
          try simp only [Act.put, List.getElem_toArray, List.getElem_cons_succ, List.getElem_cons_zero, List.setIfInBounds_toArray, List.set_cons_zero, List.set_cons_succ]
          refine wpAnyH_take (i := 2) (v := ?vv48) rfl (by kernel_rfl) (by kernel_rfl) (by kernel_rfl) (fun _ _ _ h => h) (Or.inl ⟨by rfl, ?hy48⟩) (by assumption) ?rest48
          case hy48 => (intro w hSw; (try dsimp only at hSw); go_simp; first | done | with_reducible rfl)
          try simp only [Act.put, List.getElem_toArray, List.getElem_cons_succ, List.getElem_cons_zero, List.setIfInBounds_toArray, List.set_cons_zero, List.set_cons_succ]
          refine wpAnyH_take (i := 3) (v := ?vv49) rfl (by kernel_rfl) (by kernel_rfl) (by kernel_rfl) (fun _ _ _ h => h) (Or.inl ⟨by rfl, ?hy49⟩) (by assumption) ?rest49
          case hy49 => (intro w hSw; (try dsimp only at hSw); go_simp; first | done | with_reducible rfl)
          try simp only [Act.put, List.getElem_toArray, List.getElem_cons_succ, List.getElem_cons_zero, List.setIfInBounds_toArray, List.set_cons_zero, List.set_cons_succ]
          refine wpAnyH_take (i := 5) (v := ?vv50) rfl (by kernel_rfl) (by kernel_rfl) (by kernel_rfl) (fun _ _ _ h => h) (Or.inl ⟨by rfl, ?hy50⟩) (by assumption) ?rest50
          case hy50 => (intro w hSw; (try dsimp only at hSw); go_simp; first | done | with_reducible rfl)
          try simp only [Act.put, List.getElem_toArray, List.getElem_cons_succ, List.getElem_cons_zero, List.setIfInBounds_toArray, List.set_cons_zero, List.set_cons_succ]
          refine wpAnyH_take (i := 6) (v := ?vv51) rfl (by kernel_rfl) (by kernel_rfl) (by kernel_rfl) (fun _ _ _ h => h) (Or.inl ⟨by rfl, ?hy51⟩) (by assumption) ?rest51
          case hy51 => (intro w hSw; (try dsimp only at hSw); go_simp; first | done | with_reducible rfl)
          try simp only [Act.put, List.getElem_toArray, List.getElem_cons_succ, List.getElem_cons_zero, List.setIfInBounds_toArray, List.set_cons_zero, List.set_cons_succ]
          refine wpAnyH_take (i := 7) (v := ?vv52) rfl (by kernel_rfl) (by kernel_rfl) (by kernel_rfl) (fun _ _ _ h => h) (Or.inl ⟨by rfl, ?hy52⟩) (by assumption) ?rest52
          case hy52 => (intro w hSw; (try dsimp only at hSw); go_simp; first | done | with_reducible rfl)
          try simp only [Act.put, List.getElem_toArray, List.getElem_cons_succ, List.getElem_cons_zero, List.setIfInBounds_toArray, List.set_cons_zero, List.set_cons_succ]
          refine wpAnyH_take (i := 8) (v := ?vv53) rfl (by kernel_rfl) (by kernel_rfl) (by kernel_rfl) (fun _ _ _ h => h) (Or.inl ⟨by rfl, ?hy53⟩) (by assumption) ?rest53
          case hy53 => (intro w hSw; (try dsimp only at hSw); go_simp; first | done | with_reducible rfl)
          try simp only [Act.put, List.getElem_toArray, List.getElem_cons_succ, List.getElem_cons_zero, List.setIfInBounds_toArray, List.set_cons_zero, List.set_cons_succ]
          refine wpAnyH_take (i := 9) (v := ?vv54) rfl (by kernel_rfl) (by kernel_rfl) (by kernel_rfl) (fun _ _ _ h => h) (Or.inl ⟨by rfl, ?hy54⟩) (by assumption) ?rest54
          case hy54 => (intro w hSw; (try dsimp only at hSw); go_simp; first | done | with_reducible rfl)
          try simp only [Act.put, List.getElem_toArray, List.getElem_cons_succ, List.getElem_cons_zero, List.setIfInBounds_toArray, List.set_cons_zero, List.set_cons_succ]
          refine wpAnyH_take (i := 10) (v := ?vv55) rfl (by kernel_rfl) (by kernel_rfl) (by kernel_rfl) (fun _ _ _ h => h) (Or.inl ⟨by rfl, ?hy55⟩) (by assumption) ?rest55
          case hy55 => (intro w hSw; (try dsimp only at hSw); go_simp; first | done | with_reducible rfl)
          try simp only [Act.put, List.getElem_toArray, List.getElem_cons_succ, List.getElem_cons_zero, List.setIfInBounds_toArray, List.set_cons_zero, List.set_cons_succ]
          refine wpAnyH_take (i := 11) (v := ?vv56) rfl (by kernel_rfl) (by kernel_rfl) (by kernel_rfl) (fun _ _ _ h => h) (Or.inl ⟨by rfl, ?hy56⟩) (by assumption) ?rest56
          case hy56 => (intro w hSw; (try dsimp only at hSw); go_simp; first | done | with_reducible rfl)
          try simp only [Act.put, List.getElem_toArray, List.getElem_cons_succ, List.getElem_cons_zero, List.setIfInBounds_toArray, List.set_cons_zero, List.set_cons_succ]
          refine wpAnyH_take (i := 12) (v := ?vv57) rfl (by kernel_rfl) (by kernel_rfl) (by kernel_rfl) (fun _ _ _ h => h) (Or.inl ⟨by rfl, ?hy57⟩) (by assumption) ?rest57
          case hy57 => (intro w hSw; (try dsimp only at hSw); go_simp; first | done | with_reducible rfl)
          try simp only [Act.put, List.getElem_toArray, List.getElem_cons_succ, List.getElem_cons_zero, List.setIfInBounds_toArray, List.set_cons_zero, List.set_cons_succ]
          refine wpAnyH_ready (rs := [4, 13]) (by kernel_rfl) (by simp) ?_
          refine AllReadyH.cons rfl (fun K hK => ?_) (AllReadyH.cons rfl (fun K hK => ?_) AllReadyH.nil)
          · go_simp
            refine hK.out _ _ Z60 (fun hHeld => ?_)
            clear hK K
            try simp only [Act.put, List.getElem_toArray, List.getElem_cons_succ, List.getElem_cons_zero, List.setIfInBounds_toArray, List.set_cons_zero, List.set_cons_succ]
            refine wpAnyH_ready (rs := [13]) (by kernel_rfl) (by simp) ?_
            refine AllReadyH.cons rfl (fun K hK => ?_) AllReadyH.nil
            go_simp
            refine hK.out _ _ Z61 (fun hHeld => ?_)
            clear hK K
            try simp only [Act.put, List.getElem_toArray, List.getElem_cons_succ, List.getElem_cons_zero, List.setIfInBounds_toArray, List.set_cons_zero, List.set_cons_succ]
            refine wpAnyH_ready (rs := [14]) (by kernel_rfl) (by simp) ?_
            refine AllReadyH.cons rfl (fun K hK => ?_) AllReadyH.nil
            refine step_gappP (by rfl) _ _ elIn (by rfl) B (.slice ga2 gn gc2) (.slice (some ⟨u0.heap.size, 0, none⟩) 1 1) (isC G) [.int .i64 kn] gn 1 (gn + 1) rfl (by rfl) (by rfl) OG6.out HB6.out HX6.out rfl HO6.out (by omega) HL6.out HL7.out ?_
            intro ga' gc' w9 ho9 hk9
            obtain ⟨Z69, ⟨g69, f69⟩, Z68, F68, X68, G68, R68, K68⟩ := FIN.out _ _ _ ho9 hk9
            clear ho9 hk9 FIN
            refine hK.out _ _ Z69 (fun hHeld => ?_)
            clear hK K
            try simp only [Act.put, List.getElem_toArray, List.getElem_cons_succ, List.getElem_cons_zero, List.setIfInBounds_toArray, List.set_cons_zero, List.set_cons_succ]
            refine wpAnyH_take (i := 15) (v := ?vv58) rfl (by kernel_rfl) (by kernel_rfl) (by kernel_rfl) (fun _ _ _ h => h) (Or.inl ⟨by rfl, ?hy58⟩) (by assumption) ?rest58
            case hy58 => (intro w hSw; (try dsimp only at hSw); go_simp; first | done | with_reducible rfl)
            try simp only [Act.put, List.getElem_toArray, List.getElem_cons_succ, List.getElem_cons_zero, List.setIfInBounds_toArray, List.set_cons_zero, List.set_cons_succ]
            refine wpAnyH_take (i := 16) (v := ?vv59) rfl (by kernel_rfl) (by kernel_rfl) (by kernel_rfl) (fun _ _ _ h => h) (Or.inl ⟨by rfl, ?hy59⟩) (by assumption) ?rest59
            case hy59 => (intro w hSw; (try dsimp only at hSw); go_simp; first | done | with_reducible rfl)
            try simp only [Act.put, List.getElem_toArray, List.getElem_cons_succ, List.getElem_cons_zero, List.setIfInBounds_toArray, List.set_cons_zero, List.set_cons_succ]
            refine wpAnyH_ready (rs := [17]) (by kernel_rfl) (by simp) ?_
            refine AllReadyH.cons rfl (fun K hK => ?_) AllReadyH.nil
            go_simp
            refine hK.out _ _ Z68 (fun hHeld => ?_)
            clear hK K
            try simp only [Act.put, List.getElem_toArray, List.getElem_cons_succ, List.getElem_cons_zero, List.setIfInBounds_toArray, List.set_cons_zero, List.set_cons_succ]
            refine wpAnyH_done (by kernel_rfl) ?_ _
            go_wp2
            exact ⟨⟨k + 1, by go_num, G ++ [kn], gn + 1, ga', gc', HKL.out, HG3.out, HGN2.out, F68, X68, G68, R68, K68⟩, by simp [intOf]; omega⟩
          · go_simp
            refine hK.out _ _ Z61 (fun hHeld => ?_)
            clear hK K
            try simp only [Act.put, List.getElem_toArray, List.getElem_cons_succ, List.getElem_cons_zero, List.setIfInBounds_toArray, List.set_cons_zero, List.set_cons_succ]
            refine wpAnyH_ready (rs := [4]) (by kernel_rfl) (by simp) ?_
            refine AllReadyH.cons rfl (fun K hK => ?_) AllReadyH.nil
            go_simp
            refine hK.out _ _ Z61 (fun hHeld => ?_)
            clear hK K
            try simp only [Act.put, List.getElem_toArray, List.getElem_cons_succ, List.getElem_cons_zero, List.setIfInBounds_toArray, List.set_cons_zero, List.set_cons_succ]
            refine wpAnyH_ready (rs := [14]) (by kernel_rfl) (by simp) ?_
            refine AllReadyH.cons rfl (fun K hK => ?_) AllReadyH.nil
            refine step_gappP (by rfl) _ _ elIn (by rfl) B (.slice ga2 gn gc2) (.slice (some ⟨u0.heap.size, 0, none⟩) 1 1) (isC G) [.int .i64 kn] gn 1 (gn + 1) rfl (by rfl) (by rfl) OG6.out HB6.out HX6.out rfl HO6.out (by omega) HL6.out HL7.out ?_
            intro ga' gc' w9 ho9 hk9
            obtain ⟨Z69, ⟨g69, f69⟩, Z68, F68, X68, G68, R68, K68⟩ := FIN.out _ _ _ ho9 hk9
            clear ho9 hk9 FIN
            refine hK.out _ _ Z69 (fun hHeld => ?_)
            clear hK K
            try simp only [Act.put, List.getElem_toArray, List.getElem_cons_succ, List.getElem_cons_zero, List.setIfInBounds_toArray, List.set_cons_zero, List.set_cons_succ]
            refine wpAnyH_take (i := 15) (v := ?vv60) rfl (by kernel_rfl) (by kernel_rfl) (by kernel_rfl) (fun _ _ _ h => h) (Or.inl ⟨by rfl, ?hy60⟩) (by assumption) ?rest60
            case hy60 => (intro w hSw; (try dsimp only at hSw); go_simp; first | done | with_reducible rfl)
            try simp only [Act.put, List.getElem_toArray, List.getElem_cons_succ, List.getElem_cons_zero, List.setIfInBounds_toArray, List.set_cons_zero, List.set_cons_succ]
            refine wpAnyH_take (i := 16) (v := ?vv61) rfl (by kernel_rfl) (by kernel_rfl) (by kernel_rfl) (fun _ _ _ h => h) (Or.inl ⟨by rfl, ?hy61⟩) (by assumption) ?rest61
            case hy61 => (intro w hSw; (try dsimp only at hSw); go_simp; first | done | with_reducible rfl)
            try simp only [Act.put, List.getElem_toArray, List.getElem_cons_succ, List.getElem_cons_zero, List.setIfInBounds_toArray, List.set_cons_zero, List.set_cons_succ]
            refine wpAnyH_ready (rs := [17]) (by kernel_rfl) (by simp) ?_
            refine AllReadyH.cons rfl (fun K hK => ?_) AllReadyH.nil
            go_simp
            refine hK.out _ _ Z68 (fun hHeld => ?_)
            clear hK K
            try simp only [Act.put, List.getElem_toArray, List.getElem_cons_succ, List.getElem_cons_zero, List.setIfInBounds_toArray, List.set_cons_zero, List.set_cons_succ]
            refine wpAnyH_done (by kernel_rfl) ?_ _
            go_wp2
            exact ⟨⟨k + 1, by go_num, G ++ [kn], gn + 1, ga', gc', HKL.out, HG3.out, HGN2.out, F68, X68, G68, R68, K68⟩, by simp [intOf]; omega⟩
        · have hd : decide ((k : Int) < (l.length : Int)) = false := decide_eq_false (by omega)
          have hd2 : decide (k < l.length) = false := decide_eq_false hk
          have hge : G = gs ++ l.map (·.n) := by rw [HGE.out, List.take_of_length_le (by omega)]
          subst hge
          have f0 : wr.frozen? ⟨fb, 0, none⟩ = false := F8.out.bx.frozen
          have F9 := hid F8.out.nothing
          have hn8 := F8.out.nofb
          have X9 : Hid (SvI (wr.setCell ⟨fb, 0, none⟩ (.slice none 0 0)) B ⟨xn, xi, xt, .slice ea xes.length ec, .slice pa xps.length pc, xes, xps⟩) := X8.out.keep (keep_setCell _ _ _ _) (fun g hg e => by
            rcases hg with hg | hg
            · exact X8.out.oe.not_row F8.out.bx (by decide) g hg e
            · exact X8.out.oi.not_row F8.out.bx (by decide) g hg e)
          have R9 : Hid (RowIs (wr.setCell ⟨fb, 0, none⟩ (.slice none 0 0)) w.heap.size [.int .i64 xn, .int .i64 xi, .int .i64 xt, .slice ea xes.length ec, .slice pa xps.length pc] 126) := R8.out.keep (keep_setCell _ _ _ _) (by have := HBL.out; omega)
          have K9 : Hid (Keep (fun k => k = fb ∨ B ≤ k) w (wr.setCell ⟨fb, 0, none⟩ (.slice none 0 0))) := K8.out.then (keep_setCell _ _ _ _) (fun j _ hj => .inl hj)
          have HL9' : Hid (1 ≤ 1048576) := by show _ ≤ _; omega
          have HL10' : Hid (1 * 72 ≤ 140737488355328) := by show _ ≤ _; omega
          clear HL9 HL10
          have HL9 := HL9'
          have HL10 := HL10'
          clear HL9' HL10' F8 X8 R8 K8 hn8 HKK HGE
          go_wp2_with fail
          have F6 : Hid (FdI (wr.setCell ⟨fb, 0, none⟩ (.slice none 0 0)).drew B fb (.slice none 0 0) (.slice ga2 gn gc2) ([]) ((gs ++ l.map (·.n))) torn) := F9.out.next (Below.refl _ _).drew
          have X6 : Hid (SvI (wr.setCell ⟨fb, 0, none⟩ (.slice none 0 0)).drew B ⟨xn, xi, xt, .slice ea xes.length ec, .slice pa xps.length pc, xes, xps⟩) := X9.out.next (Below.refl _ _).drew
          have R6 : Hid (RowIs (wr.setCell ⟨fb, 0, none⟩ (.slice none 0 0)).drew w.heap.size [.int .i64 xn, .int .i64 xi, .int .i64 xt, .slice ea xes.length ec, .slice pa xps.length pc] 126) := R9.out
          have K6 : Hid (Keep (fun k => k = fb ∨ B ≤ k) w (wr.setCell ⟨fb, 0, none⟩ (.slice none 0 0)).drew) := K9.out.trans (keep_drew _ _)
          have FIN := hid (ftake_fin (S := []) F6.out ⟨xn, xi, xt, .slice ea xes.length ec, .slice pa xps.length pc, xes, xps⟩ X6.out R6.out K6.out HBL.out.1 HBL.out.2 (fun g hg => by cases hg) HXG.out (1) rfl (fun a ha => HAE.out a ((fun a ha => by cases ha) a ha)))
          clear F9 X9 R9 K9 HAE HAG HNB HXG
          have Z90 : ((wr.setCell ⟨fb, 0, none⟩ (.slice none 0 0)).drew.cell? ⟨w.heap.size, 0, none⟩ = some (.int .i64 xn) ∧ (wr.setCell ⟨fb, 0, none⟩ (.slice none 0 0)).drew.cell? ⟨w.heap.size, 1, none⟩ = some (.int .i64 xi) ∧ (wr.setCell ⟨fb, 0, none⟩ (.slice none 0 0)).drew.cell? ⟨w.heap.size, 2, none⟩ = some (.int .i64 xt) ∧ (wr.setCell ⟨fb, 0, none⟩ (.slice none 0 0)).drew.cell? ⟨w.heap.size, 3, none⟩ = some (.slice ea xes.length ec) ∧ (wr.setCell ⟨fb, 0, none⟩ (.slice none 0 0)).drew.cell? ⟨w.heap.size, 4, none⟩ = some (.slice pa xps.length pc)) := ⟨R6.out.cellAt (o := 0) rfl, R6.out.cellAt (o := 1) rfl, R6.out.cellAt (o := 2) rfl, R6.out.cellAt (o := 3) rfl, R6.out.cellAt (o := 4) rfl⟩
          refine wp_region_held_drew (S := fun W => W.cell? ⟨w.heap.size, 0, none⟩ = some (.int .i64 xn) ∧ W.cell? ⟨w.heap.size, 1, none⟩ = some (.int .i64 xi) ∧ W.cell? ⟨w.heap.size, 2, none⟩ = some (.int .i64 xt) ∧ W.cell? ⟨w.heap.size, 3, none⟩ = some (.slice ea xes.length ec) ∧ W.cell? ⟨w.heap.size, 4, none⟩ = some (.slice pa xps.length pc)) (by kernel_rfl) Z90 (fun hHeld => ?_)
          generalize (wr.setCell ⟨fb, 0, none⟩ (.slice none 0 0)).drew = u0 at *
          have q0 := F6.out.bx.cellAt (o := 0) rfl
          have q1 := (F6.out.next (below_al (Below.refl _ _) (.cells #[.int .i64 xn, .int .i64 xi, .int .i64 xt, .slice ea xes.length ec, .slice pa xps.length pc] 126))).bx.cellAt (o := 0) rfl
          have R7 := hid (row_old R6.out (.cells #[.int .i64 xn, .int .i64 xi, .int .i64 xt, .slice ea xes.length ec, .slice pa xps.length pc] 126))
          have Z91 : ((u0.alloc (.cells #[.int .i64 xn, .int .i64 xi, .int .i64 xt, .slice ea xes.length ec, .slice pa xps.length pc] 126)).cell? ⟨w.heap.size, 0, none⟩ = some (.int .i64 xn) ∧ (u0.alloc (.cells #[.int .i64 xn, .int .i64 xi, .int .i64 xt, .slice ea xes.length ec, .slice pa xps.length pc] 126)).cell? ⟨w.heap.size, 1, none⟩ = some (.int .i64 xi) ∧ (u0.alloc (.cells #[.int .i64 xn, .int .i64 xi, .int .i64 xt, .slice ea xes.length ec, .slice pa xps.length pc] 126)).cell? ⟨w.heap.size, 2, none⟩ = some (.int .i64 xt) ∧ (u0.alloc (.cells #[.int .i64 xn, .int .i64 xi, .int .i64 xt, .slice ea xes.length ec, .slice pa xps.length pc] 126)).cell? ⟨w.heap.size, 3, none⟩ = some (.slice ea xes.length ec) ∧ (u0.alloc (.cells #[.int .i64 xn, .int .i64 xi, .int .i64 xt, .slice ea xes.length ec, .slice pa xps.length pc] 126)).cell? ⟨w.heap.size, 4, none⟩ = some (.slice pa xps.length pc)) := ⟨R7.out.cellAt (o := 0) rfl, R7.out.cellAt (o := 1) rfl, R7.out.cellAt (o := 2) rfl, R7.out.cellAt (o := 3) rfl, R7.out.cellAt (o := 4) rfl⟩
          have OG9 : Hid (ORow (u0.alloc (.cells #[.int .i64 xn, .int .i64 xi, .int .i64 xt, .slice ea xes.length ec, .slice pa xps.length pc] 126)) B 126 5 (.slice none 0 0) (0) (svsC ([]))) := (F6.out.next (below_al (Below.refl _ _) (.cells #[.int .i64 xn, .int .i64 xi, .int .i64 xt, .slice ea xes.length ec, .slice pa xps.length pc] 126))).sg.row
          have HB9 : Hid (B ≤ (u0.alloc (.cells #[.int .i64 xn, .int .i64 xi, .int .i64 xt, .slice ea xes.length ec, .slice pa xps.length pc] 126)).heap.size) := by have := HBL.out.1; have := K6.out.size; show _ ≤ _; simp; omega
          have HX9 : Hid (RowC (u0.alloc (.cells #[.int .i64 xn, .int .i64 xi, .int .i64 xt, .slice ea xes.length ec, .slice pa xps.length pc] 126)) (.slice (some ⟨u0.heap.size, 0, none⟩) 1 1) 1 (svC ⟨xn, xi, xt, .slice ea xes.length ec, .slice pa xps.length pc, xes, xps⟩)) := RowC.own (own_made u0 (svC ⟨xn, xi, xt, .slice ea xes.length ec, .slice pa xps.length pc, xes, xps⟩) 126 5 1 0 (Nat.zero_le _) rfl (by omega))
          clear F6 X6 R6 R7 K6
          refine wpAnyH_take (i := 0) (v := ?vv19) rfl (by kernel_rfl) (by kernel_rfl) (by kernel_rfl) (fun _ _ _ h => h) (Or.inl ⟨by rfl, ?hy19⟩) (by assumption) ?rest19
          case hy19 => (intro w hSw; (try dsimp only at hSw); go_simp; first | done | with_reducible rfl)
          try simp only [Act.put, List.getElem_toArray, List.getElem_cons_succ, List.getElem_cons_zero, List.setIfInBounds_toArray, List.set_cons_zero, List.set_cons_succ]
          refine wpAnyH_take (i := 1) (v := ?vv20) rfl (by kernel_rfl) (by kernel_rfl) (by kernel_rfl) (fun _ _ _ h => h) (Or.inl ⟨by rfl, ?hy20⟩) (by assumption) ?rest20
          case hy20 => (intro w hSw; (try dsimp only at hSw); go_simp; first | done | with_reducible rfl)
          try simp only [Act.put, List.getElem_toArray, List.getElem_cons_succ, List.getElem_cons_zero, List.setIfInBounds_toArray, List.set_cons_zero, List.set_cons_succ]
          refine wpAnyH_take (i := 2) (v := ?vv21) rfl (by kernel_rfl) (by kernel_rfl) (by kernel_rfl) (fun _ _ _ h => h) (Or.inl ⟨by rfl, ?hy21⟩) (by assumption) ?rest21
          case hy21 => (intro w hSw; (try dsimp only at hSw); go_simp; first | done | with_reducible rfl)
          try simp only [Act.put, List.getElem_toArray, List.getElem_cons_succ, List.getElem_cons_zero, List.setIfInBounds_toArray, List.set_cons_zero, List.set_cons_succ]
          refine wpAnyH_take (i := 3) (v := ?vv22) rfl (by kernel_rfl) (by kernel_rfl) (by kernel_rfl) (fun _ _ _ h => h) (Or.inl ⟨by rfl, ?hy22⟩) (by assumption) ?rest22
          case hy22 => (intro w hSw; (try dsimp only at hSw); go_simp; first | done | with_reducible rfl)
          try simp only [Act.put, List.getElem_toArray, List.getElem_cons_succ, List.getElem_cons_zero, List.setIfInBounds_toArray, List.set_cons_zero, List.set_cons_succ]
          refine wpAnyH_take (i := 5) (v := ?vv23) rfl (by kernel_rfl) (by kernel_rfl) (by kernel_rfl) (fun _ _ _ h => h) (Or.inl ⟨by rfl, ?hy23⟩) (by assumption) ?rest23
          case hy23 => (intro w hSw; (try dsimp only at hSw); go_simp; first | done | with_reducible rfl)
          try simp only [Act.put, List.getElem_toArray, List.getElem_cons_succ, List.getElem_cons_zero, List.setIfInBounds_toArray, List.set_cons_zero, List.set_cons_succ]
          refine wpAnyH_ready (rs := [4, 6]) (by kernel_rfl) (by simp) ?_
          refine AllReadyH.cons rfl (fun K hK => ?_) (AllReadyH.cons rfl (fun K hK => ?_) AllReadyH.nil)
          · go_simp
            refine hK.out _ _ Z90 (fun hHeld => ?_)
            clear hK K
            try simp only [Act.put, List.getElem_toArray, List.getElem_cons_succ, List.getElem_cons_zero, List.setIfInBounds_toArray, List.set_cons_zero, List.set_cons_succ]
            refine wpAnyH_ready (rs := [6]) (by kernel_rfl) (by simp) ?_
            refine AllReadyH.cons rfl (fun K hK => ?_) AllReadyH.nil
            go_simp
            refine hK.out _ _ Z91 (fun hHeld => ?_)
            clear hK K
            try simp only [Act.put, List.getElem_toArray, List.getElem_cons_succ, List.getElem_cons_zero, List.setIfInBounds_toArray, List.set_cons_zero, List.set_cons_succ]
            refine wpAnyH_ready (rs := [7]) (by kernel_rfl) (by simp) ?_
            refine AllReadyH.cons rfl (fun K hK => ?_) AllReadyH.nil
            refine step_gappP (by rfl) _ _ elSg (by rfl) B (.slice none 0 0) (.slice (some ⟨u0.heap.size, 0, none⟩) 1 1) (svsC ([])) (svC ⟨xn, xi, xt, .slice ea xes.length ec, .slice pa xps.length pc, xes, xps⟩) (0) 1 (1) rfl (by rfl) (by rfl) OG9.out HB9.out HX9.out rfl HC9.out (by omega) HL9.out HL10.out ?_
            intro sa' sc' w9 ho9 hk9
            obtain ⟨R9, ⟨g99, f99⟩, R98, F98⟩ := FIN.out _ _ _ ho9 hk9
            have Z99 : (w9.cell? ⟨w.heap.size, 0, none⟩ = some (.int .i64 xn) ∧ w9.cell? ⟨w.heap.size, 1, none⟩ = some (.int .i64 xi) ∧ w9.cell? ⟨w.heap.size, 2, none⟩ = some (.int .i64 xt) ∧ w9.cell? ⟨w.heap.size, 3, none⟩ = some (.slice ea xes.length ec) ∧ w9.cell? ⟨w.heap.size, 4, none⟩ = some (.slice pa xps.length pc)) := ⟨R9.cellAt (o := 0) rfl, R9.cellAt (o := 1) rfl, R9.cellAt (o := 2) rfl, R9.cellAt (o := 3) rfl, R9.cellAt (o := 4) rfl⟩
            have Z98 : ((w9.setCell ⟨fb, 0, none⟩ (.slice sa' (1) sc')).cell? ⟨w.heap.size, 0, none⟩ = some (.int .i64 xn) ∧ (w9.setCell ⟨fb, 0, none⟩ (.slice sa' (1) sc')).cell? ⟨w.heap.size, 1, none⟩ = some (.int .i64 xi) ∧ (w9.setCell ⟨fb, 0, none⟩ (.slice sa' (1) sc')).cell? ⟨w.heap.size, 2, none⟩ = some (.int .i64 xt) ∧ (w9.setCell ⟨fb, 0, none⟩ (.slice sa' (1) sc')).cell? ⟨w.heap.size, 3, none⟩ = some (.slice ea xes.length ec) ∧ (w9.setCell ⟨fb, 0, none⟩ (.slice sa' (1) sc')).cell? ⟨w.heap.size, 4, none⟩ = some (.slice pa xps.length pc)) := ⟨R98.cellAt (o := 0) rfl, R98.cellAt (o := 1) rfl, R98.cellAt (o := 2) rfl, R98.cellAt (o := 3) rfl, R98.cellAt (o := 4) rfl⟩
            have F97 := hid F98
            clear ho9 hk9 FIN R9 R98 F98
            refine hK.out _ _ Z99 (fun hHeld => ?_)
            clear hK K
            try simp only [Act.put, List.getElem_toArray, List.getElem_cons_succ, List.getElem_cons_zero, List.setIfInBounds_toArray, List.set_cons_zero, List.set_cons_succ]
            refine wpAnyH_take (i := 8) (v := ?vv24) rfl (by kernel_rfl) (by kernel_rfl) (by kernel_rfl) (fun _ _ _ h => h) (Or.inl ⟨by rfl, ?hy24⟩) (by assumption) ?rest24
            case hy24 => (intro w hSw; (try dsimp only at hSw); go_simp; first | done | with_reducible rfl)
            try simp only [Act.put, List.getElem_toArray, List.getElem_cons_succ, List.getElem_cons_zero, List.setIfInBounds_toArray, List.set_cons_zero, List.set_cons_succ]
            refine wpAnyH_take (i := 9) (v := ?vv25) rfl (by kernel_rfl) (by kernel_rfl) (by kernel_rfl) (fun _ _ _ h => h) (Or.inl ⟨by rfl, ?hy25⟩) (by assumption) ?rest25
            case hy25 => (intro w hSw; (try dsimp only at hSw); go_simp; first | done | with_reducible rfl)
            try simp only [Act.put, List.getElem_toArray, List.getElem_cons_succ, List.getElem_cons_zero, List.setIfInBounds_toArray, List.set_cons_zero, List.set_cons_succ]
            refine wpAnyH_ready (rs := [10]) (by kernel_rfl) (by simp) ?_
            refine AllReadyH.cons rfl (fun K hK => ?_) AllReadyH.nil
            go_simp
            refine hK.out _ _ Z98 (fun hHeld => ?_)
            clear hK K
            try simp only [Act.put, List.getElem_toArray, List.getElem_cons_succ, List.getElem_cons_zero, List.setIfInBounds_toArray, List.set_cons_zero, List.set_cons_succ]
            refine wpAnyH_done (by kernel_rfl) ?_ _
            go_wp2
            go_end0
            rw [HS2.out, HG2.out]
            exact ⟨rfl, F97.out⟩
          · go_simp
            refine hK.out _ _ Z91 (fun hHeld => ?_)
            clear hK K
            try simp only [Act.put, List.getElem_toArray, List.getElem_cons_succ, List.getElem_cons_zero, List.setIfInBounds_toArray, List.set_cons_zero, List.set_cons_succ]
            refine wpAnyH_ready (rs := [4]) (by kernel_rfl) (by simp) ?_
            refine AllReadyH.cons rfl (fun K hK => ?_) AllReadyH.nil
            go_simp
            refine hK.out _ _ Z91 (fun hHeld => ?_)
            clear hK K
            try simp only [Act.put, List.getElem_toArray, List.getElem_cons_succ, List.getElem_cons_zero, List.setIfInBounds_toArray, List.set_cons_zero, List.set_cons_succ]
            refine wpAnyH_ready (rs := [7]) (by kernel_rfl) (by simp) ?_
            refine AllReadyH.cons rfl (fun K hK => ?_) AllReadyH.nil
            refine step_gappP (by rfl) _ _ elSg (by rfl) B (.slice none 0 0) (.slice (some ⟨u0.heap.size, 0, none⟩) 1 1) (svsC ([])) (svC ⟨xn, xi, xt, .slice ea xes.length ec, .slice pa xps.length pc, xes, xps⟩) (0) 1 (1) rfl (by rfl) (by rfl) OG9.out HB9.out HX9.out rfl HC9.out (by omega) HL9.out HL10.out ?_
            intro sa' sc' w9 ho9 hk9
            obtain ⟨R9, ⟨g99, f99⟩, R98, F98⟩ := FIN.out _ _ _ ho9 hk9
            have Z99 : (w9.cell? ⟨w.heap.size, 0, none⟩ = some (.int .i64 xn) ∧ w9.cell? ⟨w.heap.size, 1, none⟩ = some (.int .i64 xi) ∧ w9.cell? ⟨w.heap.size, 2, none⟩ = some (.int .i64 xt) ∧ w9.cell? ⟨w.heap.size, 3, none⟩ = some (.slice ea xes.length ec) ∧ w9.cell? ⟨w.heap.size, 4, none⟩ = some (.slice pa xps.length pc)) := ⟨R9.cellAt (o := 0) rfl, R9.cellAt (o := 1) rfl, R9.cellAt (o := 2) rfl, R9.cellAt (o := 3) rfl, R9.cellAt (o := 4) rfl⟩
            have Z98 : ((w9.setCell ⟨fb, 0, none⟩ (.slice sa' (1) sc')).cell? ⟨w.heap.size, 0, none⟩ = some (.int .i64 xn) ∧ (w9.setCell ⟨fb, 0, none⟩ (.slice sa' (1) sc')).cell? ⟨w.heap.size, 1, none⟩ = some (.int .i64 xi) ∧ (w9.setCell ⟨fb, 0, none⟩ (.slice sa' (1) sc')).cell? ⟨w.heap.size, 2, none⟩ = some (.int .i64 xt) ∧ (w9.setCell ⟨fb, 0, none⟩ (.slice sa' (1) sc')).cell? ⟨w.heap.size, 3, none⟩ = some (.slice ea xes.length ec) ∧ (w9.setCell ⟨fb, 0, none⟩ (.slice sa' (1) sc')).cell? ⟨w.heap.size, 4, none⟩ = some (.slice pa xps.length pc)) := ⟨R98.cellAt (o := 0) rfl, R98.cellAt (o := 1) rfl, R98.cellAt (o := 2) rfl, R98.cellAt (o := 3) rfl, R98.cellAt (o := 4) rfl⟩
            have F97 := hid F98
            clear ho9 hk9 FIN R9 R98 F98
            refine hK.out _ _ Z99 (fun hHeld => ?_)
            clear hK K
            try simp only [Act.put, List.getElem_toArray, List.getElem_cons_succ, List.getElem_cons_zero, List.setIfInBounds_toArray, List.set_cons_zero, List.set_cons_succ]
            refine wpAnyH_take (i := 8) (v := ?vv26) rfl (by kernel_rfl) (by kernel_rfl) (by kernel_rfl) (fun _ _ _ h => h) (Or.inl ⟨by rfl, ?hy26⟩) (by assumption) ?rest26
            case hy26 => (intro w hSw; (try dsimp only at hSw); go_simp; first | done | with_reducible rfl)
            try simp only [Act.put, List.getElem_toArray, List.getElem_cons_succ, List.getElem_cons_zero, List.setIfInBounds_toArray, List.set_cons_zero, List.set_cons_succ]
            refine wpAnyH_take (i := 9) (v := ?vv27) rfl (by kernel_rfl) (by kernel_rfl) (by kernel_rfl) (fun _ _ _ h => h) (Or.inl ⟨by rfl, ?hy27⟩) (by assumption) ?rest27
            case hy27 => (intro w hSw; (try dsimp only at hSw); go_simp; first | done | with_reducible rfl)
            try simp only [Act.put, List.getElem_toArray, List.getElem_cons_succ, List.getElem_cons_zero, List.setIfInBounds_toArray, List.set_cons_zero, List.set_cons_succ]
            refine wpAnyH_ready (rs := [10]) (by kernel_rfl) (by simp) ?_
            refine AllReadyH.cons rfl (fun K hK => ?_) AllReadyH.nil
            go_simp
            refine hK.out _ _ Z98 (fun hHeld => ?_)
            clear hK K
            try simp only [Act.put, List.getElem_toArray, List.getElem_cons_succ, List.getElem_cons_zero, List.setIfInBounds_toArray, List.set_cons_zero, List.set_cons_succ]
            refine wpAnyH_done (by kernel_rfl) ?_ _
            go_wp2
            go_end0
            rw [HS2.out, HG2.out]
            exact ⟨rfl, F97.out⟩
end Go.Proofs.YtefbioainibmaaaGreatDoor
namespace Go.Proofs.YtefbioainibmaaaGreatDoor
open Go.RowKit Go.Maps
set_option linter.unusedVariables false
set_option linter.unusedSimpArgs false

structure FdP where
  st : List Sg
  gs : List Int
  torn : Bool
  e : Int
def onS (l : List Sg) (x : Sg) : Bool := match l.getLast? with
  | none => true
  | some y => goesS x y
theorem onC_sg (l : List Sv) (x : Sv) : onC l x = onS (l.map Sv.sg) x.sg := by
  unfold onC onS
  rw [List.getLast?_map]
  cases l.getLast? <;> rfl
def rgG (n : Int) (R : RsG) : Sg := ⟨n, R.ix, R.tm, R.es, R.ps⟩
/-- the segments of so many numbers, behind those that were read -/
def fdL (rd : Int → Bs × Int) : List Int → List Sg → List Int → Bool → FdP
  | [], l, gs, t => ⟨l, gs, t, 0⟩
  | n :: r, l, gs, t =>
    if (rd n).2 ≠ 0 then ⟨[], [], false, (rd n).2⟩
    else if (rsG (tx (rd n).1)).e ≠ 0 then ⟨[], [], false, (rsG (tx (rd n).1)).e⟩
    else if (rsG (tx (rd n).1)).is = false then (if r.length = 0 then ⟨l, gs ++ [n], t, 0⟩ else ⟨[], [], false, 31⟩)
    else if (rsG (tx (rd n).1)).ps.getLastD 0 < (((tx (rd n).1).size : Nat) : Int) ∧ r.length ≠ 0 then ⟨[], [], false, 31⟩
    else if onS l (rgG n (rsG (tx (rd n).1))) = true then fdL rd r (l ++ [rgG n (rsG (tx (rd n).1))]) gs (decide ((rsG (tx (rd n).1)).ps.getLastD 0 < (((tx (rd n).1).size : Nat) : Int)))
    else fdL rd r [rgG n (rsG (tx (rd n).1))] (gs ++ l.map (·.n)) (decide ((rsG (tx (rd n).1)).ps.getLastD 0 < (((tx (rd n).1).size : Nat) : Int)))
/-- entries that may be -/
def enOk (x : En) : Prop := 0 ≤ x.tm ∧ x.tm ≤ 1099511627776 ∧ 0 ≤ x.kd ∧ x.kd ≤ 255 ∧ x.da.size ≤ 65536
theorem reR_ok (b : ByteArray) (h : (reR b).e = 0) : enOk ⟨(reR b).tm, (reR b).kd, (reR b).da⟩ := by
  have h1 := dcN_le b 1099511627776 0 0 (by omega)
  have h2 := dcN_le b 255 (dcN b 1099511627776 0 0).a (dcN b 1099511627776 0 0).e (by omega)
  have h3 := tS_len b (dcN b 255 (dcN b 1099511627776 0 0).a (dcN b 1099511627776 0 0).e).a (dcN b 255 (dcN b 1099511627776 0 0).a (dcN b 1099511627776 0 0).e).e 65536 (by omega)
  unfold enOk reR
  simp only
  refine ⟨by omega, by omega, by omega, by omega, by omega⟩
theorem rsL_ok (s : ByteArray) : ∀ (k : Nat) (es : List En) (ps : List Int), (rsL s k es ps).e = 0 → (∀ x ∈ es, enOk x) → (rsL s k es ps).es.length ≤ es.length + k ∧ (rsL s k es ps).ps.length + es.length = ps.length + (rsL s k es ps).es.length ∧ ∀ x ∈ (rsL s k es ps).es, enOk x
  | 0, es, ps, h, ho => by
    unfold rsL at h ⊢
    split at h
    · cases h
    · rename_i h2
      rw [if_neg h2]
      exact ⟨by simp, by simp, ho⟩
  | k + 1, es, ps, h, ho => by
    unfold rsL at h ⊢
    by_cases h1 : (unfAt s (ps.getLastD 0)).e = 0
    · rw [if_pos h1] at h ⊢
      by_cases h2 : (reR (unfAt s (ps.getLastD 0)).x).e = 0
      · rw [if_pos h2] at h ⊢
        have h4 : enOk ⟨(reR (unfAt s (ps.getLastD 0)).x).tm, (reR (unfAt s (ps.getLastD 0)).x).kd, (reR (unfAt s (ps.getLastD 0)).x).da⟩ := reR_ok _ h2
        have := rsL_ok s k _ _ h (fun x hx => by
          rcases List.mem_append.1 hx with hx | hx
          · exact ho x hx
          · rw [List.mem_singleton.1 hx]; exact h4)
        simp only [List.length_append, List.length_singleton] at this
        exact ⟨by omega, by omega, this.2.2⟩
      · rw [if_neg h2] at h; cases h
    · rw [if_neg h1] at h ⊢
      exact ⟨by simp, by simp, ho⟩
theorem rsG_ok (s : ByteArray) (he : (rsG s).e = 0) (hi : (rsG s).is = true) : (rsG s).ps.length = (rsG s).es.length + 1 ∧ (rsG s).es.length ≤ 8 ∧ (rsG s).ix ≤ 1099511627776 ∧ (rsG s).tm ≤ 1099511627776 ∧ ∀ x ∈ (rsG s).es, enOk x := by
  unfold rsG at he hi ⊢
  by_cases h1 : (unfAt s 0).e = 0
  · rw [if_pos h1] at he hi ⊢
    by_cases h2 : (rbR (unfAt s 0).x).e = 0
    · rw [if_pos h2] at he hi ⊢
      by_cases h3 : (rsL s 8 [] [((bsB (rbR (unfAt s 0).x).ix (rbR (unfAt s 0).x).tm).length : Int)]).e = 0
      · rw [if_pos h3] at he hi ⊢
        have h4 := rsL_ok s 8 [] _ h3 (fun x hx => by cases hx)
        simp only [List.length_nil, List.length_singleton] at h4 ⊢
        have h1 := dcN_le (unfAt s 0).x 1099511627776 0 0 (by omega)
        have h2 := dcN_le (unfAt s 0).x 1099511627776 (dcN (unfAt s 0).x 1099511627776 0 0).a (dcN (unfAt s 0).x 1099511627776 0 0).e (by omega)
        refine ⟨by omega, by omega, ?_, ?_, h4.2.2⟩
        · unfold rbR; simp only; omega
        · unfold rbR; simp only; omega
      · rw [if_neg h3] at he; cases he
    · rw [if_neg h2] at he; cases he
  · rw [if_neg h1] at hi; cases hi
theorem nbsOf_ok (L : List (Bs × Bs)) : ∀ n ∈ nbsOf L, 1 ≤ n ∧ n ≤ 4611686018427387903 := by
  intro n hn
  unfold nbsOf at hn
  obtain ⟨x, -, hx⟩ := List.mem_filterMap.1 hn
  split at hx
  · rename_i h
    injection hx with hx
    unfold nbO at h hx
    split at h
    · rename_i v heq
      rw [heq] at hx
      split at h
      · rename_i h2
        simp only [if_pos h2] at hx
        omega
      · cases h
    · cases h
  · cases hx
theorem srt_ok {L : List (Bs × Bs)} : ∀ n ∈ srt (nbsOf L), 1 ≤ n ∧ n ≤ 4611686018427387903 := fun n hn => nbsOf_ok L n ((List.mergeSort_perm (nbsOf L) _).mem_iff.1 hn)
theorem IntsI.keepS {S : Nat → Prop} {w w' : World} {v : Value} {l : List Int} (h : IntsI w v l) (k : Keep S w w') (hS : ∀ b, v.ownBlock = some b → l ≠ [] → ¬ S b) : IntsI w' v l := by
  rcases h with h | ⟨b, off, cap, rfl, hb, hc⟩
  · exact .inl h
  · refine .inr ⟨b, off, cap, rfl, Nat.lt_of_lt_of_le hb k.size, fun j hj => ?_⟩
    rw [k.cell hb (hS b rfl (fun e => by subst e; simp at hj))]
    exact hc j hj
theorem IntsI.lt {w : World} {v : Value} {l : List Int} (h : IntsI w v l) {b : Nat} (hb : v.ownBlock = some b) (hl : l ≠ []) : b < w.heap.size := by
  rcases h with ⟨_, _, _, h⟩ | ⟨b', off, cap, rfl, hb', hc⟩
  · exact absurd h hl
  · have : b' = b := by simpa [Value.ownBlock] using hb
    omega
theorem IntsI.ne_row {w : World} {v : Value} {l : List Int} (h : IntsI w v l) {b g : Nat} {cs : List Value} {t : TypeId} (hb : v.ownBlock = some b) (hl : l ≠ []) (r : RowIs w g cs t) (hc : ∀ u ∈ cs, ∀ x, u ≠ .int .i64 x) : b ≠ g := by
  rcases h with ⟨_, _, _, h⟩ | ⟨b', off, cap, rfl, hb', hc'⟩
  · exact absurd h hl
  · have e : b' = b := by simpa [Value.ownBlock] using hb
    subst e
    intro e
    subst e
    have h0 : 0 < l.length := List.length_pos_iff.2 hl
    have h1 := hc' 0 h0
    rcases h3 : cs[off + 0]? with _ | u
    · have : w.cell? ⟨b', off + 0, none⟩ = none := by
        unfold World.cell?
        simp only [show w.heap[b']? = _ from r]
        simpa using h3
      rw [this] at h1; cases h1
    · have h4 := r.cellAt h3
      rw [h4] at h1
      injection h1 with h1
      exact hc u (List.mem_of_getElem? h3) _ h1
/-- what the loop over a disk's segments keeps in memory -/
structure FnS (w : World) (B rb fb : Nat) (nv : Value) (ns : List Int) (l : List Sv) (gs : List Int) (torn : Bool) (vs vg : Value) (wr : World) : Prop where
  f : FdI wr B fb vs vg l gs torn
  r : RowIs wr rb [.slice none 0 0, .slice none 0 0, .bool false] 103
  n : IntsI wr nv ns
  k : Keep (fun _ => False) w wr
  hB : B ≤ wr.heap.size
  lo : w.heap.size ≤ rb ∧ rb < fb ∧ fb < B
  nb : ∀ b, nv.ownBlock = some b → ns ≠ [] → b < B ∧ b ≠ fb ∧ b ≠ rb
theorem FnS.next {w : World} {B rb fb : Nat} {nv : Value} {ns : List Int} {l : List Sv} {gs : List Int} {torn : Bool} {vs vg : Value} {wr wr' : World} (h : FnS w B rb fb nv ns l gs torn vs vg wr) (b : Below wr.heap.size wr wr') : FnS w B rb fb nv ns l gs torn vs vg wr' :=
  ⟨h.f.next b, h.r.keep (b.keep (fun _ => False)) (fun h => h), h.n.next b, h.k.trans (b.keep _), Nat.le_trans h.hB b.size, h.lo, h.nb⟩
/-- behind what changes the box and rows above the base alone -/
theorem FnS.on {w : World} {B rb fb : Nat} {nv : Value} {ns : List Int} {l l' : List Sv} {gs gs' : List Int} {torn torn' : Bool} {vs vg vs' vg' : Value} {wr wr' : World} (h : FnS w B rb fb nv ns l gs torn vs vg wr) (k : Keep (fun k => k = fb ∨ B ≤ k) wr wr') (f : FdI wr' B fb vs' vg' l' gs' torn') : FnS w B rb fb nv ns l' gs' torn' vs' vg' wr' :=
  have := h.lo
  ⟨f, h.r.keep k (by omega), h.n.keepS k (fun b hb hl => by have := h.nb b hb hl; omega), h.k.then k (fun j hj e => by omega), Nat.le_trans h.hB k.size, h.lo, h.nb⟩
/-- whether it is torn, put into the box -/
theorem FdI.tear {w : World} {B fb : Nat} {vs vg : Value} {l : List Sv} {gs : List Int} {torn : Bool} (h : FdI w B fb vs vg l gs torn) (t : Bool) : FdI (w.setCell ⟨fb, 2, none⟩ (.bool t)) B fb vs vg l gs t := by
  have kS := keep_setCell w fb 2 (.bool t)
  obtain ⟨n1, n2, n3⟩ := h.nofb
  exact ⟨h.bx.set 2 (.bool t), h.sg.keep kS n1 n2, kS.ownsRow h.og n3, h.ap⟩
end Go.Proofs.YtefbioainibmaaaGreatDoor
