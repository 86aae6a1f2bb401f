/- Joined: The walk of a fall's being taken out of the plan. A disk in the midst of a change. -/
import Derived.Test.YtefbioainibmaaaGreatDoorJoined15
import Derived.Laws.ResultCell
namespace Go.Proofs.YtefbioainibmaaaGreatDoor
open Go.RowKit Go.Maps
set_option linter.unusedVariables false
set_option linter.unusedSimpArgs false

theorem law3 : Keyed Tryz.prog 3 := int_keyed Tryz.underlying3
theorem zero36 (w : World) : (zeroValue 46).run Tryz.prog w = .ok (.slice none 0 0) w := by kernel_rfl
theorem wf_nat {n : Nat} (h : n ≤ 4611686018427387904) : (Lit.int .i64 (n : Int)).wf = true := by
  have e1 : IntKind.i64.min = -9223372036854775808 := by decide
  have e2 : IntKind.i64.max = 9223372036854775807 := by decide
  simp [Lit.wf, e1, e2]; omega
/-- 'd.falls[n]' -/
theorem fall_look {w : World} {c : Nat → Nat} {fm : Option Nat} {fl : List Fl} (h : FallIs w c fm fl) (n : Nat) (hn : n ≤ 4611686018427387904) :
    ∃ v, (∀ W : World, Keep (fun _ => False) w W → (Instr.lookup 122 (.map fm) (.int .i64 n) false).run Tryz.prog W = .ok v W) ∧ FRow w c v (fl.filter fun x => x.at_ = (n : Int)) := by
  have hk := keyOf_int_mk (P := Tryz.prog) Tryz.underlying3 (wf_nat hn)
  rcases h with ⟨rfl, rfl⟩ | ⟨b, m, D, f, rfl, h2, h3, h4, h5, h6, h7⟩
  · exact ⟨.slice none 0 0, fun W _ => Maps.look_nil false law3 Tryz.underlying122 (zero36 W) hk, .inl ⟨_, _, rfl, rfl⟩⟩
  · refine ⟨f n, fun W hW => ?_, h7 n⟩
    have hown : W.ownsMap Tryz.prog 3 rawE b m D := by
      have hlt := h3.lt
      obtain ⟨es, clock, hb, r⟩ := h3
      exact ⟨es, clock, (hW.block b hlt (fun h => h)).trans hb, r⟩
    obtain ⟨v, ps, hr, hv⟩ := World.ownsMap.lookup hown law3 Tryz.underlying122 (zero36 W) (zd := .held (.slice none 0 0)) (zp := []) rfl hk
    rw [h6] at hv
    have e : f n = v := DataW.held.inj (held_inj hv)
    rw [← e] at hr
    exact hr
theorem size35 : (Tryz.prog.info? 43).map (·.size) = some 3 := by kernel_rfl

/-- the plan without its first fall at n -/
def offF (fl : List Fl) (n : Nat) : List Fl := fl.eraseP fun x => x.at_ = (n : Int)
theorem off_filter : ∀ (fl : List Fl) (n : Nat) (f : Fl) (r : List Fl), (fl.filter fun x => x.at_ = (n : Int)) = f :: r → (fl.find? fun x => x.at_ = (n : Int)) = some f ∧ (∀ k : Int, ((offF fl n).filter fun x => x.at_ = k) = if k = n then r else fl.filter fun x => x.at_ = k) ∧ (offF fl n).length + 1 = fl.length
  | [], n, f, r, h => by simp at h
  | x :: t, n, f, r, h => by
    by_cases hx : x.at_ = (n : Int)
    · simp [hx] at h
      obtain ⟨rfl, rfl⟩ := h
      refine ⟨by simp [hx], fun k => ?_, by simp [offF, hx]⟩
      have e : offF (x :: t) n = t := by simp [offF, hx]
      rw [e]
      by_cases hk : k = (n : Int)
      · subst hk; simp
      · rw [if_neg hk, List.filter_cons_of_neg]
        simp [hx]; omega
    · simp [hx] at h
      obtain ⟨h1, h2, h3⟩ := off_filter t n f r h
      have e : offF (x :: t) n = x :: offF t n := by simp [offF, hx]
      refine ⟨by simp [hx]; simpa using h1, fun k => ?_, by rw [e]; simp [h3]⟩
      rw [e]
      by_cases hk : k = (n : Int)
      · subst hk
        have := h2 (n : Int)
        rw [if_pos rfl] at this ⊢
        rw [List.filter_cons_of_neg (by simpa using hx)]; exact this
      · have := h2 k
        rw [if_neg hk] at this ⊢
        rw [List.filter_cons, List.filter_cons, this]
/-- 'l[1:]' -/
theorem tail_run {w : World} {c : Nat → Nat} {v : Value} {f : Fl} {r : List Fl} (h : FRow w c v (f :: r)) : ∃ g off cap v', v = .slice (some ⟨g, off, none⟩) (r.length + 1) cap ∧ c g = 6 ∧ g < w.heap.size ∧ (∀ W : World, (Instr.slice 46 v (some (.int .i64 1)) none none).run Tryz.prog W = .ok v' W) ∧ FRow w c v' r ∧
    w.cell? ⟨g, off, none⟩ = some (.int .i64 f.at_) ∧ w.cell? ⟨g, off + 1, none⟩ = some (.int .i64 f.keep) ∧ w.cell? ⟨g, off + 2, none⟩ = some (.int .i64 f.torn) := by
  obtain ⟨i0, hi, hz⟩ := Option.map_eq_some_iff.1 size35
  rcases h with ⟨ad, cap, _, h⟩ | ⟨g, off, cap, rfl, h2, h3, h4, h5⟩
  · cases h
  · simp only [List.length_cons] at h4
    have h0 := h5 0 (by simp)
    simp at h0
    by_cases hc : cap = 1
    · subst hc
      have hr : r = [] := List.length_eq_zero_iff.1 (by omega)
      subst hr
      refine ⟨g, off, 1, .slice (some ⟨g, off, none⟩) 0 0, rfl, h2, h3, fun W => ?_, .inl ⟨_, _, rfl, rfl⟩, h0.1, h0.2.1, h0.2.2⟩
      simp [Instr.slice, Instr.sliceBounds, Instr.sliceBound, asIntOf, run_underlying Tryz.underlying46, sizeOf, typeInfo, hi, Result.andThen]
    · refine ⟨g, off, cap, .slice (some ⟨g, off + 3, none⟩) r.length (cap - 1), rfl, h2, h3, fun W => ?_, .inr ⟨g, off + 3, cap - 1, rfl, h2, h3, by omega, fun j hj => ?_⟩, h0.1, h0.2.1, h0.2.2⟩
      · have e : ((⟨g, off, none⟩ : Addr).add 3) = ⟨g, off + 3, none⟩ := rfl
        have e1 : ¬ cap = 1 := hc
        have e2 : (1 : Int) ≤ (r.length : Int) + 1 := by omega
        simp [Instr.slice, Instr.sliceBounds, Instr.sliceBound, asIntOf, run_underlying Tryz.underlying46, sizeOf, typeInfo, hi, hz, Result.andThen, e, e1, e2]
      · have := h5 (j + 1) (by simp; omega)
        simp at this
        rw [show off + 3 + 3 * j = off + 3 * (j + 1) by omega]
        exact this

set_option maxRecDepth 100000 in
set_option maxHeartbeats 2000000 in
theorem strike_none (p n : Nat) (fm : Option Nat) (c : Nat → Nat) (fl : List Fl) (w : World) (h5 : w.cell? ⟨p, 5, none⟩ = some (.int .i64 n)) (h6 : w.cell? ⟨p, 6, none⟩ = some (.map fm)) (hp : p < w.heap.size) (hf : FallIs w c fm fl) (hn : n ≤ 4611686018427387904) (h0 : (fl.filter fun x => x.at_ = (n : Int)) = []) :
    Calls Tryz.prog 126 #[.pointer (some ⟨p, 0, none⟩)] w fun e w' => e = .returned (.tuple #[.agg #[.int .i64 0, .int .i64 0, .int .i64 0], .bool false]) ∧ Keep (fun _ => False) w w' := by
  obtain ⟨X, hX⟩ : ∃ X, X = Obj.cells #[.int .i64 0, .int .i64 0, .int .i64 0] 43 := ⟨_, rfl⟩
  have ka := keep_alloc (fun _ => False) w X
  obtain ⟨v, hlk, hrow⟩ := fall_look hf n hn
  rw [h0] at hrow
  obtain ⟨ad, cap, rfl⟩ : ∃ ad cap, v = .slice ad 0 cap := by
    rcases hrow with ⟨ad, cap, h, _⟩ | ⟨g, off, cap, h, _⟩
    · exact ⟨ad, cap, h⟩
    · exact ⟨_, _, h⟩
  have c5 := (ka.cell (o := 5) hp (fun h => h)).trans h5
  have c6 := (ka.cell (o := 6) hp (fun h => h)).trans h6
  have l1 := hlk (w.alloc X) ka
  have l2 := hlk (w.alloc X).drew (ka.trans (keep_drew _ _))
  have HK := hid (ka.trans (keep_drew _ _))
  clear hlk hrow hf h0 hp h5 h6 ka hn
  subst hX
  go_enter Tryz.func126, Tryz.ntmps126
  go_wp2
  go_region
  clear l1 l2 c5 c6
  go_wp2
  exact bodyPost_ret (v := .tuple #[.agg #[.int .i64 0, .int .i64 0, .int .i64 0], .bool false]) (by rw [results_cell_tmp rfl]; go_simp) rfl ⟨rfl, HK.out⟩

/-- 'd.falls[n] = v' -/
theorem fall_store {w : World} {b n q : Nat} {D : DataW Value} (v : Value) (hown : w.ownsMap Tryz.prog 3 rawE b q D) (hq : q < maxLen) (hn : n ≤ 4611686018427387904) :
    ∃ w', (Instr.mapUpdate 122 (.map (some b)) (.int .i64 n) v).run Tryz.prog w = .ok () w' ∧ w'.ownsMap Tryz.prog 3 rawE b (q + 1) (D.put (.int .i64 n) (.held v)) ∧ Keep (· = b) w w' := by
  obtain ⟨w', hr, ho2, ht⟩ := World.ownsMap.store hown law3 Tryz.underlying122 hq (val := v) (d := .held v) (ps := []) (keyOf_int_mk (P := Tryz.prog) Tryz.underlying3 (wf_nat hn)) rfl
  exact ⟨w', hr, ho2, keep_map ht⟩

set_option maxRecDepth 100000 in
set_option maxHeartbeats 2000000 in
theorem strike_some (p n : Nat) (fm : Option Nat) (c : Nat → Nat) (fl : List Fl) (f : Fl) (r : List Fl) (w : World) (h5 : w.cell? ⟨p, 5, none⟩ = some (.int .i64 n)) (h6 : w.cell? ⟨p, 6, none⟩ = some (.map fm)) (hp : p < w.heap.size) (hcp : c p ≠ 5) (hf : FallIs w c fm fl) (hn : n ≤ 4611686018427387904) (h0 : (fl.filter fun x => x.at_ = (n : Int)) = f :: r) :
    Calls Tryz.prog 126 #[.pointer (some ⟨p, 0, none⟩)] w fun e w' => e = .returned (.tuple #[.agg #[.int .i64 f.at_, .int .i64 f.keep, .int .i64 f.torn], .bool true]) ∧ FallIs w' c fm (offF fl n) ∧ Keep (fun k => fm = some k) w w' := by
  obtain ⟨X, hX⟩ : ∃ X, X = Obj.cells #[.int .i64 0, .int .i64 0, .int .i64 0] 43 := ⟨_, rfl⟩
  have ka := keep_alloc (fun _ => False) w X
  obtain ⟨v, hlk, hrow⟩ := fall_look hf n hn
  rw [h0] at hrow
  obtain ⟨g, off, cap, v', rfl, hg6, hg, hsl, hrow', q0, q1, q2⟩ := tail_run hrow
  obtain ⟨o1, o2, o3⟩ := off_filter fl n f r h0
  rcases hf with ⟨rfl, rfl⟩ | ⟨b, m, D, F, rfl, i2, i3, i4, i5, i6, i7⟩
  · simp at h0
  have hbl := i3.lt
  have hbp : b ≠ p := fun e => hcp (e ▸ i2)
  have hpb : p ≠ b := fun e => hbp e.symm
  have hgb : g ≠ b := fun e => by rw [e] at hg6; omega
  have c5 := (ka.cell (o := 5) hp (fun h => h)).trans h5
  have c6 := (ka.cell (o := 6) hp (fun h => h)).trans h6
  have l1 := hlk (w.alloc X) ka
  have l2 := hlk (w.alloc X).drew (ka.trans (keep_drew _ _))
  have hra : RowIs (w.alloc X) w.heap.size [.int .i64 0, .int .i64 0, .int .i64 0] 43 := by subst hX; exact heap_alloc_new _ _
  have hOA : (w.alloc X).ownsMap Tryz.prog 3 rawE b m D := by
    obtain ⟨es, clock, hb, r⟩ := i3
    exact ⟨es, clock, (ka.block b hbl (fun h => h)).trans hb, r⟩
  have ST : Hid (∀ w', w'.ownsMap Tryz.prog 3 rawE b (m + 1) (D.put (.int .i64 n) (.held v')) → Keep (· = b) (w.alloc X) w' → (w'.cell? ⟨p, 6, none⟩ = some (.map (some b)) ∧ w'.cell? ⟨p, 5, none⟩ = some (.int .i64 n)) ∧ w'.cell? ⟨g, off, none⟩ = some (.int .i64 f.at_) ∧ w'.cell? ⟨g, off + 1, none⟩ = some (.int .i64 f.keep) ∧ w'.cell? ⟨g, off + 2, none⟩ = some (.int .i64 f.torn) ∧
      RowIs w' w.heap.size [.int .i64 0, .int .i64 0, .int .i64 0] 43 ∧ ∀ v0 v1 v2, FallIs (((w'.setCell ⟨w.heap.size, 0, none⟩ v0).setCell ⟨w.heap.size, 1, none⟩ v1).setCell ⟨w.heap.size, 2, none⟩ v2) c (some b) (offF fl n) ∧ Keep (fun k => some b = some k) w (((w'.setCell ⟨w.heap.size, 0, none⟩ v0).setCell ⟨w.heap.size, 1, none⟩ v1).setCell ⟨w.heap.size, 2, none⟩ v2)) := by
    intro w' hO hk
    have kw : Keep (· = b) w w' := (ka.mono (fun _ _ h => h.elim)).trans hk
    refine ⟨⟨(kw.cell hp hpb).trans h6, (kw.cell hp hpb).trans h5⟩, (kw.cell hg hgb).trans q0, (kw.cell hg hgb).trans q1, (kw.cell hg hgb).trans q2, hra.keep hk (by omega), fun v0 v1 v2 => ?_⟩
    have k3 : Keep (· = w.heap.size) w' (((w'.setCell ⟨w.heap.size, 0, none⟩ v0).setCell ⟨w.heap.size, 1, none⟩ v1).setCell ⟨w.heap.size, 2, none⟩ v2) := ((keep_setCell _ _ _ _).trans (keep_setCell _ _ _ _)).trans (keep_setCell _ _ _ _)
    generalize (((w'.setCell ⟨w.heap.size, 0, none⟩ v0).setCell ⟨w.heap.size, 1, none⟩ v1).setCell ⟨w.heap.size, 2, none⟩ v2) = w3 at k3 ⊢
    have k03 : Keep (· = b) w w3 := kw.then k3 (fun j hj e => by omega)
    refine ⟨.inr ⟨b, m + 1, D.put (.int .i64 n) (.held v'), fun k => if k = n then v' else F k, rfl, i2, ?_, i4.put _ _, by omega, fun k => ?_, fun k => ?_⟩, k03.mono fun k _ e => by rw [e]⟩
    · have hlt := hO.lt
      obtain ⟨es, clock, hb, r⟩ := hO
      exact ⟨es, clock, (k3.block b hlt (by omega)).trans hb, r⟩
    · show _ = DataW.held (if k = (n : Int) then v' else F k)
      by_cases hk : k = n
      · subst hk; rw [if_pos rfl]; exact atKey_put_same (k := .int .i64 (n : Int)) i4 (by simp [WideAt.IsKeyLit]) _ _
      · rw [if_neg hk, atKey_put_other (fun e => hk (by injection e))]; exact i6 k
    · show FRow w3 c (if k = (n : Int) then v' else F k) _
      rw [o2 k]
      by_cases hk : k = n
      · subst hk
        rw [if_pos rfl, if_pos rfl]
        exact hrow'.keep k03 (fun _ _ => rfl) (fun j _ e => by rw [e]; omega)
      · rw [if_neg hk, if_neg hk]
        exact (i7 k).keep k03 (fun _ _ => rfl) (fun j _ e => by rw [e]; omega)
  obtain ⟨w2, hst, hO2, hk2⟩ := fall_store (w := (w.alloc X).drew.drew) v' hOA (by unfold maxLen; omega) hn
  obtain ⟨_, e0, e1, e2, hr2, hF⟩ := ST.out w2 hO2 (((keep_drew _ (w.alloc X)).trans (keep_drew _ _)).trans hk2)
  have HF := hid hF
  have r0 := hr2.cellAt (o := 0) rfl
  have r1 := hr2.cellAt (o := 1) rfl
  have r2 := hr2.cellAt (o := 2) rfl
  have f0 := hr2.frozen (o := 0)
  have f1 := hr2.frozen (o := 1)
  have f2 := hr2.frozen (o := 2)
  have HR := hid ((((hr2.set 0 (.int .i64 f.at_)).set 1 (.int .i64 f.keep)).set 2 (.int .i64 f.torn)))
  have hz : ((r.length : Int) + 1 == 0) = false := by rw [beq_eq_false_iff_ne]; omega
  clear hlk hrow h0 hp h5 h6 ka hn hrow' o1 o2 o3 i2 i3 i4 i5 i6 i7 hOA hra hg6 q0 q1 q2 hgb hg hbl hcp ST hO2 hk2 hr2 hF
  subst hX
  go_enter Tryz.func126, Tryz.ntmps126
  go_wp2
  go_region
  clear l1 l2
  go_wp2
  go_region
  clear hst c5 c6
  go_wp2
  have t0 := HR.out.cellAt (o := 0) (v := .int .i64 f.at_) rfl
  have t1 := HR.out.cellAt (o := 1) (v := .int .i64 f.keep) rfl
  have t2 := HR.out.cellAt (o := 2) (v := .int .i64 f.torn) rfl
  have HF2 := hid (HF.out (.int .i64 f.at_) (.int .i64 f.keep) (.int .i64 f.torn))
  clear HF HR e0 e1 e2 r0 r1 r2 f0 f1 f2 hsl
  generalize ((w2.setCell ⟨w.heap.size, 0, none⟩ (.int .i64 f.at_)).setCell ⟨w.heap.size, 1, none⟩ (.int .i64 f.keep)).setCell ⟨w.heap.size, 2, none⟩ (.int .i64 f.torn) = w3 at *
  exact bodyPost_ret (v := .tuple #[.agg #[.int .i64 f.at_, .int .i64 f.keep, .int .i64 f.torn], .bool true]) (by rw [results_cell_tmp rfl]; go_simp) rfl ⟨rfl, HF2.out⟩
end Go.Proofs.YtefbioainibmaaaGreatDoor
namespace Go.Proofs.YtefbioainibmaaaGreatDoor
open Go.RowKit Go.Maps
set_option linter.unusedVariables false
set_option linter.unusedSimpArgs false

/-- the change waits already; the files that are, are as they were -/
structure ChMid (w : World) (c : Nat → Nat) (p : Nat) (R : Raw) (d : Ds) (ch : Chg) (v1 : Value) (wM : World) : Prop where
  row : RowIs wM p ((R.cs d).set 4 v1) 124
  keep : Keep (fun k => k = p ∨ c k = 4) w wM
  wrow : wM.ownsRow 0 131 5 v1 (d.ws.length + 1) (chs (d.ws ++ [ch]))
  loc : v1.ownBlock = R.wv.ownBlock ∨ ∃ g, v1.ownBlock = some g ∧ w.heap.size < g
  box : RowIs wM w.heap.size (chC ch) 131
def midC (c : Nat → Nat) (w : World) (v1 : Value) (k : Nat) : Nat := if k < w.heap.size then c k else if v1.ownBlock = some k then 4 else 9
def Ds.more (d : Ds) (ch : Chg) : Ds := { d with ws := d.ws ++ [ch] }
def Raw.more (R : Raw) (v1 : Value) : Raw := { R with wv := v1 }

section
variable {w wM W : World} {c : Nat → Nat} {p : Nat} {R : Raw} {d : Ds} {ch : Chg} {v1 : Value}
theorem midC_lt {k : Nat} (hk : k < w.heap.size) : midC c w v1 k = c k := if_pos hk
theorem ChMid.wcol (h : DiskR w c p R d) (m : ChMid w c p R d ch v1 wM) : ∀ g, v1.ownBlock = some g → midC c w v1 g = 4 := by
  intro g e
  rcases m.loc with h1 | ⟨g', h1, h2⟩
  · have hg := ownsRow_lt h.wrow (h1 ▸ e)
    rw [midC_lt hg]; exact h.wcol g (h1 ▸ e)
  · rw [h1] at e; injection e with e
    unfold midC
    rw [if_neg (by omega), if_pos (by rw [h1, e])]
theorem mid_oks (h : DiskR w c p R d) (hok : ChOk d.now ch) : ∀ i (hi : i < (d.more ch).ws.length), ChOk (replay ((d.more ch).ws.take i) d.S) (d.more ch).ws[i] := by
  intro i hi
  have hl : (d.more ch).ws = d.ws ++ [ch] := rfl
  simp only [hl, List.length_append, List.length_singleton] at hi ⊢
  by_cases hlt : i < d.ws.length
  · have e1 : (d.ws ++ [ch]).take i = d.ws.take i := List.take_append_of_le_length (by omega)
    rw [e1, List.getElem_append_left hlt]
    exact h.oks i hlt
  · have e : i = d.ws.length := by omega
    subst e
    rw [List.take_append_of_le_length (Nat.le_refl _), List.take_of_length_le (Nat.le_refl _), List.getElem_append_right (Nat.le_refl _)]
    simp only [Nat.sub_self, List.getElem_cons_zero]
    exact hok
theorem ChMid.kp (h : DiskR w c p R d) {j : Nat} (hs : j = p ∨ c j = 4) : c j = 0 ∨ c j = 4 := by
  rcases hs with rfl | e
  · exact .inl h.cp
  · exact .inr e
theorem ChMid.f (h : DiskR w c p R d) (m : ChMid w c p R d ch v1 wM) (hok : ChOk d.now ch) (k : Keep (fun _ => False) wM W) : DiskF W (midC c w v1) p (R.more v1) (d.more ch) := by
  have K := m.keep.then k (fun _ _ h => h.elim)
  have hcl : (d.more ch).ws.length = d.ws.length + 1 := by simp [Ds.more]
  refine ⟨?_, by rw [midC_lt h.row.lt]; exact h.cp, h.sure.keep' K (fun k hk => midC_lt hk) (fun j _ hs => by have := ChMid.kp h hs; omega), h.eS, ?_, m.wcol h, h.fall.keep K (fun k hk => midC_lt hk) (fun j _ hs => by have := ChMid.kp h hs; omega), mid_oks h hok⟩
  · have e : (R.cs d).set 4 v1 = (R.more v1).cs (d.more ch) := by simp [Raw.cs, dC, Raw.more, Ds.more]
    rw [← e]; exact m.row.keep k (fun h => h)
  · rw [hcl]; exact k.ownsRow m.wrow (fun _ _ h => h)
theorem ChMid.ap (h : DiskR w c p R d) (m : ChMid w c p R d ch v1 wM) (k : Keep (fun _ => False) wM W) (hlen : R.N.length < maxLen) : ApIn W (midC c w v1) 1 p 0 ((R.cs d).set 4 v1) 124 R.nmo R.N := by
  have K := m.keep.then k (fun _ _ h => h.elim)
  have hp : midC c w v1 p = 0 := by rw [midC_lt h.row.lt]; exact h.cp
  exact ⟨m.row.keep k (fun h => h), by simp [Raw.cs, dC], by simp [Raw.cs, dC], h.now.keep' K (fun k hk => midC_lt hk) (fun j _ hs => by have := ChMid.kp h hs; omega), by decide, by rw [hp]; decide, by rw [hp]; decide, hlen⟩

theorem ChMid.done (h : DiskR w c p R d) (m : ChMid w c p R d ch v1 wM) (hok : ChOk d.now ch) (k : Keep (fun _ => False) wM W) {w6 : World} (ha : Applied W (midC c w v1) 1 p 0 ((R.cs d).set 4 v1) 124 R.nmo R.N ch w6) :
    w6.cell? ⟨p, 5, none⟩ = some (.int .i64 d.n) ∧ w6.frozen? ⟨p, 5, none⟩ = false ∧ (∀ o, w6.cell? ⟨w.heap.size, o, none⟩ = W.cell? ⟨w.heap.size, o, none⟩) ∧
      (∃ c', DiskIs (w6.setCell ⟨p, 5, none⟩ (.int .i64 (d.n + 1 : Nat))) c' p { d.more ch with n := d.n + 1 } ∧ ∀ k, k < w.heap.size → c' k = c k) ∧ Keep (fun k => c k < 6) w (w6.setCell ⟨p, 5, none⟩ (.int .i64 (d.n + 1 : Nat))) := by
  obtain ⟨mo', N', c', hr, hf, ht, hc, hk, hbs, hun, hpv⟩ := ha
  have hp := h.row.lt
  have K := m.keep.then k (fun _ _ h => h.elim)
  have hs := K.size
  have hF := m.f h hok k
  have hp6 : midC c w v1 p = 0 := by rw [midC_lt hp]; exact h.cp
  have hnow : FilIs W (midC c w v1) 1 R.nmo R.N := h.now.keep' K (fun k hk => midC_lt hk) (fun j _ hs => by have := ChMid.kp h hs; omega)
  have hS6 : ∀ j, (j = p ∨ R.nmo = some j ∨ midC c w v1 j = 3) → midC c w v1 j = 0 ∨ midC c w v1 j = 1 ∨ midC c w v1 j = 3 := by
    rintro j (rfl | e | e)
    · exact .inl hp6
    · exact .inr (.inl (hnow.mcol j e))
    · exact .inr (.inr e)
  refine ⟨by rw [hr.cell]; simp [Raw.cs, dC], hr.frozen, fun o => ?_, ?_⟩
  · have hbx : w.heap.size < W.heap.size := Nat.lt_of_lt_of_le m.box.lt k.size
    refine hk.cell hbx fun hS => ?_
    have h9 : midC c w v1 w.heap.size = 9 := by
      unfold midC
      rw [if_neg (by omega), if_neg]
      intro e
      rcases m.loc with h1 | ⟨g', h1, h2⟩
      · have := ownsRow_lt h.wrow (h1 ▸ e); omega
      · rw [h1] at e; injection e with e; omega
    have := hS6 _ hS
    omega
  have k7 := keep_setCell w6 p 5 (.int .i64 (d.n + 1 : Nat))
  have hr7 := hr.set 5 (.int .i64 (d.n + 1 : Nat))
  generalize w6.setCell ⟨p, 5, none⟩ (.int .i64 (d.n + 1 : Nat)) = w7 at k7 hr7 ⊢
  have hs6 := hk.size
  have k67 : Keep (fun j => j = p ∨ R.nmo = some j ∨ midC c w v1 j = 3) W w7 := hk.then k7 (fun j _ e => .inl e)
  have hc'p : c' p = 0 := by rw [hc p (by omega)]; exact hp6
  refine ⟨⟨c', ⟨⟨mo', R.smo, N', R.SL, v1, R.fm⟩, ?_⟩, fun j hj => by rw [hc j (by omega), midC_lt hj]⟩, ?_⟩
  · have hsl : ∀ y ∈ R.SL, BSl w6 0 y.2.1 y.2.2 ∧ Safe N' y.2.1 := fun y hy => hbs _ _ (hF.sure.row y hy) (hF.sure.col y hy) (h.safe y hy)
    have hsm : ∀ b, R.smo = some b → b < W.heap.size := fun b e => by
      rcases hF.sure.map with ⟨h0, _⟩ | ⟨b', h0, hm⟩
      · have h0' : R.smo = none := h0
        rw [h0'] at e; cases e
      · have h0' : R.smo = some b' := h0
        rw [h0'] at e; injection e with e; subst e; exact hm.lt
    have hsure6 : FilIs w6 c' 2 R.smo R.SL := by
      refine ⟨hk.mapV hF.sure.map fun g e hS => ?_, fun b e => by rw [hc b (hsm b e)]; exact hF.sure.mcol b e, fun x hx => (hsl x hx).1, fun x hx g e => by rw [hc g (bsl_block (hF.sure.row x hx) e)]; exact hF.sure.col x hx g e, h.sure.apart, h.sure.srt⟩
      have h2 : midC c w v1 g = 2 := hF.sure.mcol g e
      have := hS6 g hS
      omega
    have hne : ∀ j, j < w6.heap.size → j = p → c' j = 0 := fun j _ e => by rw [e]; exact hc'p
    refine ⟨?_, hc'p, hf.keep' k7 (fun _ _ => rfl) (fun j hj e => by rw [hne j hj e]; decide), hsure6.keep' k7 (fun _ _ => rfl) (fun j hj e => by rw [hne j hj e]; decide), h.eS, ?_, fun y hy => (hsl y hy).2, ?_, ?_, ?_, ?_, mid_oks h hok, (fun e => by simp [Ds.more] at e), fun y hy hyt x hx hxy g e e2 => ?_⟩
    · have e : ((((R.cs d).set 4 v1).set 0 (.map mo')).set (0 + 1) (.int .i64 (tot (txts N')))).set 5 (.int .i64 (d.n + 1 : Nat)) = Raw.cs ⟨mo', R.smo, N', R.SL, v1, R.fm⟩ { d.more ch with n := d.n + 1 } := by
        simp [Raw.cs, dC, Ds.more]
      rw [← e]; exact hr7
    · show txts N' = replay (d.ws ++ [ch]) d.S
      rw [ht, replay_snoc, h.eN]; rfl
    · exact k67.ownsRow hF.wrow fun g e hS => by
        have h4 : midC c w v1 g = 4 := m.wcol h g e
        have := hS6 g hS
        omega
    · intro g e
      have hg : g < W.heap.size := ownsRow_lt hF.wrow e
      rw [hc g hg]; exact m.wcol h g e
    · exact hF.fall.keep k67 (fun j hj => hc j hj) (fun j hj hS => by have := hS6 j hS; omega)
    · intro q hq
      have hq2 : ∀ x ∈ d.ws ++ [ch], q ≠ x.name ∧ q ≠ x.to := hq
      show kget (txts N') q = kget (txts R.SL) q
      rw [txts_get, hun q (hq2 ch (by simp)).1 (hq2 ch (by simp)).2, ← txts_get]
      exact h.unt q (fun x hx => hq2 x (by simp [hx]))
    · have hy2 : ∀ x ∈ d.ws ++ [ch], y.1 ≠ x.name ∧ y.1 ≠ x.to := hyt
      rcases hpv x hx g e with h9 | ⟨x0, h8, h7, h6⟩
      · have h5 := bsl_block (h.sure.row y hy) e2
        omega
      · refine h.xap y hy (fun z hz => hy2 z (by simp [hz])) x0 h8 (fun e9 => ?_) g h7 e2
        rcases h6 with h6 | h6
        · exact hxy (by rw [← h6, e9])
        · exact (hy2 ch (by simp)).1 (by rw [← h6, e9])
  · refine (K.mono fun j _ hs => ?_).then k67 fun j hj hS => ?_
    · have := ChMid.kp h hs; omega
    · have := hS6 j hS
      rw [midC_lt hj] at this
      omega

theorem fall_col {fm : Option Nat} {fl : List Fl} (h : FallIs w c fm fl) : ∀ b, fm = some b → c b = 5 ∧ b < w.heap.size := by
  intro b e
  rcases h with ⟨h0, _⟩ | ⟨b', n, D, f, h1, h2, h3, _⟩
  · rw [h0] at e; cases e
  · rw [h1] at e; injection e with e; subst e; exact ⟨h2, h3.lt⟩
theorem DiskF.struck {w5 : World} {fl' : List Fl} (h : DiskF w c p R d) (hf : FallIs w5 c R.fm fl') (k : Keep (fun k => R.fm = some k) w w5) (k2 : Keep (fun _ => False) w5 W) : DiskF W c p R { d with fl := fl' } := by
  have hcol := fall_col h.fall
  have K : Keep (fun k => R.fm = some k) w W := k.trans (k2.mono (fun _ _ h => h.elim))
  have h5 : ∀ j, R.fm = some j → c j = 5 := fun j e => (hcol j e).1
  have hcp := h.cp
  exact ⟨h.row.keep K (fun e => by have := h5 p e; omega), h.cp, h.sure.keep' K (fun _ _ => rfl) (fun j _ e => by have := h5 j e; omega), h.eS, K.ownsRow h.wrow (fun g e e2 => by have := h5 g e2; have := h.wcol g e; omega), h.wcol, hf.keep k2 (fun _ _ => rfl) (fun _ _ h => h.elim), h.oks⟩
end
end Go.Proofs.YtefbioainibmaaaGreatDoor
