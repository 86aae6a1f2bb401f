/- The walk of a fall's being taken out of the plan. -/
import Derived.Test.YtnlodlpjokkepabFailW
import Derived.Laws.ResultCell
namespace Go.Proofs.Ytnlodlpjokkepab
open Go.RowKit Go.Maps
set_option linter.unusedVariables false
set_option linter.unusedSimpArgs false

theorem law3 : Keyed Try.prog 3 := int_keyed Try.underlying3
theorem zero36 (w : World) : (zeroValue 36).run Try.prog w = .ok (.slice none 0 0) w := by kernel_rfl
theorem wf_nat {n : Nat} (h : n ≤ 4611686018427387904) : (Lit.int .i64 (n : Int)).wf = true := by
  have e1 : IntKind.i64.min = -9223372036854775808 := by decide
  have e2 : IntKind.i64.max = 9223372036854775807 := by decide
  simp [Lit.wf, e1, e2]; omega
/-- 'd.falls[n]' -/
theorem fall_look {w : World} {c : Nat → Nat} {fm : Option Nat} {fl : List Fl} (h : FallIs w c fm fl) (n : Nat) (hn : n ≤ 4611686018427387904) :
    ∃ v, (∀ W : World, Keep (fun _ => False) w W → (Instr.lookup 71 (.map fm) (.int .i64 n) false).run Try.prog W = .ok v W) ∧ FRow w c v (fl.filter fun x => x.at_ = (n : Int)) := by
  have hk := keyOf_int_mk (P := Try.prog) Try.underlying3 (wf_nat hn)
  rcases h with ⟨rfl, rfl⟩ | ⟨b, m, D, f, rfl, h2, h3, h4, h5, h6, h7⟩
  · exact ⟨.slice none 0 0, fun W _ => Maps.look_nil false law3 Try.underlying71 (zero36 W) hk, .inl ⟨_, _, rfl, rfl⟩⟩
  · refine ⟨f n, fun W hW => ?_, h7 n⟩
    have hown : W.ownsMap Try.prog 3 rawE b m D := by
      have hlt := h3.lt
      obtain ⟨es, clock, hb, r⟩ := h3
      exact ⟨es, clock, (hW.block b hlt (fun h => h)).trans hb, r⟩
    obtain ⟨v, ps, hr, hv⟩ := World.ownsMap.lookup hown law3 Try.underlying71 (zero36 W) (zd := .held (.slice none 0 0)) (zp := []) rfl hk
    rw [h6] at hv
    have e : f n = v := DataW.held.inj (held_inj hv)
    rw [← e] at hr
    exact hr
theorem size35 : (Try.prog.info? 35).map (·.size) = some 3 := by kernel_rfl

/-- the plan without its first fall at n -/
def offF (fl : List Fl) (n : Nat) : List Fl := fl.eraseP fun x => x.at_ = (n : Int)
theorem off_filter : ∀ (fl : List Fl) (n : Nat) (f : Fl) (r : List Fl), (fl.filter fun x => x.at_ = (n : Int)) = f :: r → (fl.find? fun x => x.at_ = (n : Int)) = some f ∧ (∀ k : Int, ((offF fl n).filter fun x => x.at_ = k) = if k = n then r else fl.filter fun x => x.at_ = k) ∧ (offF fl n).length + 1 = fl.length
  | [], n, f, r, h => by simp at h
  | x :: t, n, f, r, h => by
    by_cases hx : x.at_ = (n : Int)
    · simp [hx] at h
      obtain ⟨rfl, rfl⟩ := h
      refine ⟨by simp [hx], fun k => ?_, by simp [offF, hx]⟩
      have e : offF (x :: t) n = t := by simp [offF, hx]
      rw [e]
      by_cases hk : k = (n : Int)
      · subst hk; simp
      · rw [if_neg hk, List.filter_cons_of_neg]
        simp [hx]; omega
    · simp [hx] at h
      obtain ⟨h1, h2, h3⟩ := off_filter t n f r h
      have e : offF (x :: t) n = x :: offF t n := by simp [offF, hx]
      refine ⟨by simp [hx]; simpa using h1, fun k => ?_, by rw [e]; simp [h3]⟩
      rw [e]
      by_cases hk : k = (n : Int)
      · subst hk
        have := h2 (n : Int)
        rw [if_pos rfl] at this ⊢
        rw [List.filter_cons_of_neg (by simpa using hx)]; exact this
      · have := h2 k
        rw [if_neg hk] at this ⊢
        rw [List.filter_cons, List.filter_cons, this]
/-- 'l[1:]' -/
theorem tail_run {w : World} {c : Nat → Nat} {v : Value} {f : Fl} {r : List Fl} (h : FRow w c v (f :: r)) : ∃ g off cap v', v = .slice (some ⟨g, off, none⟩) (r.length + 1) cap ∧ c g = 6 ∧ g < w.heap.size ∧ (∀ W : World, (Instr.slice 36 v (some (.int .i64 1)) none none).run Try.prog W = .ok v' W) ∧ FRow w c v' r ∧
    w.cell? ⟨g, off, none⟩ = some (.int .i64 f.at_) ∧ w.cell? ⟨g, off + 1, none⟩ = some (.int .i64 f.keep) ∧ w.cell? ⟨g, off + 2, none⟩ = some (.int .i64 f.torn) := by
  obtain ⟨i0, hi, hz⟩ := Option.map_eq_some_iff.1 size35
  rcases h with ⟨ad, cap, _, h⟩ | ⟨g, off, cap, rfl, h2, h3, h4, h5⟩
  · cases h
  · simp only [List.length_cons] at h4
    have h0 := h5 0 (by simp)
    simp at h0
    by_cases hc : cap = 1
    · subst hc
      have hr : r = [] := List.length_eq_zero_iff.1 (by omega)
      subst hr
      refine ⟨g, off, 1, .slice (some ⟨g, off, none⟩) 0 0, rfl, h2, h3, fun W => ?_, .inl ⟨_, _, rfl, rfl⟩, h0.1, h0.2.1, h0.2.2⟩
      simp [Instr.slice, Instr.sliceBounds, Instr.sliceBound, asIntOf, run_underlying Try.underlying36, sizeOf, typeInfo, hi, Result.andThen]
    · refine ⟨g, off, cap, .slice (some ⟨g, off + 3, none⟩) r.length (cap - 1), rfl, h2, h3, fun W => ?_, .inr ⟨g, off + 3, cap - 1, rfl, h2, h3, by omega, fun j hj => ?_⟩, h0.1, h0.2.1, h0.2.2⟩
      · have e : ((⟨g, off, none⟩ : Addr).add 3) = ⟨g, off + 3, none⟩ := rfl
        have e1 : ¬ cap = 1 := hc
        have e2 : (1 : Int) ≤ (r.length : Int) + 1 := by omega
        simp [Instr.slice, Instr.sliceBounds, Instr.sliceBound, asIntOf, run_underlying Try.underlying36, sizeOf, typeInfo, hi, hz, Result.andThen, e, e1, e2]
      · have := h5 (j + 1) (by simp; omega)
        simp at this
        rw [show off + 3 + 3 * j = off + 3 * (j + 1) by omega]
        exact this

set_option maxRecDepth 100000 in
set_option maxHeartbeats 2000000 in
theorem strike_none (p n : Nat) (fm : Option Nat) (c : Nat → Nat) (fl : List Fl) (w : World) (h5 : w.cell? ⟨p, 5, none⟩ = some (.int .i64 n)) (h6 : w.cell? ⟨p, 6, none⟩ = some (.map fm)) (hp : p < w.heap.size) (hf : FallIs w c fm fl) (hn : n ≤ 4611686018427387904) (h0 : (fl.filter fun x => x.at_ = (n : Int)) = []) :
    Calls Try.prog 64 #[.pointer (some ⟨p, 0, none⟩)] w fun e w' => e = .returned (.tuple #[.agg #[.int .i64 0, .int .i64 0, .int .i64 0], .bool false]) ∧ Keep (fun _ => False) w w' := by
  obtain ⟨X, hX⟩ : ∃ X, X = Obj.cells #[.int .i64 0, .int .i64 0, .int .i64 0] 35 := ⟨_, rfl⟩
  have ka := keep_alloc (fun _ => False) w X
  obtain ⟨v, hlk, hrow⟩ := fall_look hf n hn
  rw [h0] at hrow
  obtain ⟨ad, cap, rfl⟩ : ∃ ad cap, v = .slice ad 0 cap := by
    rcases hrow with ⟨ad, cap, h, _⟩ | ⟨g, off, cap, h, _⟩
    · exact ⟨ad, cap, h⟩
    · exact ⟨_, _, h⟩
  have c5 := (ka.cell (o := 5) hp (fun h => h)).trans h5
  have c6 := (ka.cell (o := 6) hp (fun h => h)).trans h6
  have l1 := hlk (w.alloc X) ka
  have l2 := hlk (w.alloc X).drew (ka.trans (keep_drew _ _))
  have HK := hid (ka.trans (keep_drew _ _))
  clear hlk hrow hf h0 hp h5 h6 ka hn
  subst hX
  go_enter Try.func64, Try.ntmps64
  go_wp2
  go_region
  clear l1 l2 c5 c6
  go_wp2
  exact bodyPost_ret (v := .tuple #[.agg #[.int .i64 0, .int .i64 0, .int .i64 0], .bool false]) (by rw [results_cell_tmp rfl]; go_simp) rfl ⟨rfl, HK.out⟩

/-- 'd.falls[n] = v' -/
theorem fall_store {w : World} {b n q : Nat} {D : DataW Value} (v : Value) (hown : w.ownsMap Try.prog 3 rawE b q D) (hq : q < maxLen) (hn : n ≤ 4611686018427387904) :
    ∃ w', (Instr.mapUpdate 71 (.map (some b)) (.int .i64 n) v).run Try.prog w = .ok () w' ∧ w'.ownsMap Try.prog 3 rawE b (q + 1) (D.put (.int .i64 n) (.held v)) ∧ Keep (· = b) w w' := by
  obtain ⟨w', hr, ho2, ht⟩ := World.ownsMap.store hown law3 Try.underlying71 hq (val := v) (d := .held v) (ps := []) (keyOf_int_mk (P := Try.prog) Try.underlying3 (wf_nat hn)) rfl
  exact ⟨w', hr, ho2, keep_map ht⟩

set_option maxRecDepth 100000 in
set_option maxHeartbeats 2000000 in
theorem strike_some (p n : Nat) (fm : Option Nat) (c : Nat → Nat) (fl : List Fl) (f : Fl) (r : List Fl) (w : World) (h5 : w.cell? ⟨p, 5, none⟩ = some (.int .i64 n)) (h6 : w.cell? ⟨p, 6, none⟩ = some (.map fm)) (hp : p < w.heap.size) (hcp : c p ≠ 5) (hf : FallIs w c fm fl) (hn : n ≤ 4611686018427387904) (h0 : (fl.filter fun x => x.at_ = (n : Int)) = f :: r) :
    Calls Try.prog 64 #[.pointer (some ⟨p, 0, none⟩)] w fun e w' => e = .returned (.tuple #[.agg #[.int .i64 f.at_, .int .i64 f.keep, .int .i64 f.torn], .bool true]) ∧ FallIs w' c fm (offF fl n) ∧ Keep (fun k => fm = some k) w w' := by
  obtain ⟨X, hX⟩ : ∃ X, X = Obj.cells #[.int .i64 0, .int .i64 0, .int .i64 0] 35 := ⟨_, rfl⟩
  have ka := keep_alloc (fun _ => False) w X
  obtain ⟨v, hlk, hrow⟩ := fall_look hf n hn
  rw [h0] at hrow
  obtain ⟨g, off, cap, v', rfl, hg6, hg, hsl, hrow', q0, q1, q2⟩ := tail_run hrow
  obtain ⟨o1, o2, o3⟩ := off_filter fl n f r h0
  rcases hf with ⟨rfl, rfl⟩ | ⟨b, m, D, F, rfl, i2, i3, i4, i5, i6, i7⟩
  · simp at h0
  have hbl := i3.lt
  have hbp : b ≠ p := fun e => hcp (e ▸ i2)
  have hpb : p ≠ b := fun e => hbp e.symm
  have hgb : g ≠ b := fun e => by rw [e] at hg6; omega
  have c5 := (ka.cell (o := 5) hp (fun h => h)).trans h5
  have c6 := (ka.cell (o := 6) hp (fun h => h)).trans h6
  have l1 := hlk (w.alloc X) ka
  have l2 := hlk (w.alloc X).drew (ka.trans (keep_drew _ _))
  have hra : RowIs (w.alloc X) w.heap.size [.int .i64 0, .int .i64 0, .int .i64 0] 35 := by subst hX; exact heap_alloc_new _ _
  have hOA : (w.alloc X).ownsMap Try.prog 3 rawE b m D := by
    obtain ⟨es, clock, hb, r⟩ := i3
    exact ⟨es, clock, (ka.block b hbl (fun h => h)).trans hb, r⟩
  have ST : Hid (∀ w', w'.ownsMap Try.prog 3 rawE b (m + 1) (D.put (.int .i64 n) (.held v')) → Keep (· = b) (w.alloc X) w' → (w'.cell? ⟨p, 6, none⟩ = some (.map (some b)) ∧ w'.cell? ⟨p, 5, none⟩ = some (.int .i64 n)) ∧ w'.cell? ⟨g, off, none⟩ = some (.int .i64 f.at_) ∧ w'.cell? ⟨g, off + 1, none⟩ = some (.int .i64 f.keep) ∧ w'.cell? ⟨g, off + 2, none⟩ = some (.int .i64 f.torn) ∧
      RowIs w' w.heap.size [.int .i64 0, .int .i64 0, .int .i64 0] 35 ∧ ∀ v0 v1 v2, FallIs (((w'.setCell ⟨w.heap.size, 0, none⟩ v0).setCell ⟨w.heap.size, 1, none⟩ v1).setCell ⟨w.heap.size, 2, none⟩ v2) c (some b) (offF fl n) ∧ Keep (fun k => some b = some k) w (((w'.setCell ⟨w.heap.size, 0, none⟩ v0).setCell ⟨w.heap.size, 1, none⟩ v1).setCell ⟨w.heap.size, 2, none⟩ v2)) := by
    intro w' hO hk
    have kw : Keep (· = b) w w' := (ka.mono (fun _ _ h => h.elim)).trans hk
    refine ⟨⟨(kw.cell hp hpb).trans h6, (kw.cell hp hpb).trans h5⟩, (kw.cell hg hgb).trans q0, (kw.cell hg hgb).trans q1, (kw.cell hg hgb).trans q2, hra.keep hk (by omega), fun v0 v1 v2 => ?_⟩
    have k3 : Keep (· = w.heap.size) w' (((w'.setCell ⟨w.heap.size, 0, none⟩ v0).setCell ⟨w.heap.size, 1, none⟩ v1).setCell ⟨w.heap.size, 2, none⟩ v2) := ((keep_setCell _ _ _ _).trans (keep_setCell _ _ _ _)).trans (keep_setCell _ _ _ _)
    generalize (((w'.setCell ⟨w.heap.size, 0, none⟩ v0).setCell ⟨w.heap.size, 1, none⟩ v1).setCell ⟨w.heap.size, 2, none⟩ v2) = w3 at k3 ⊢
    have k03 : Keep (· = b) w w3 := kw.then k3 (fun j hj e => by omega)
    refine ⟨.inr ⟨b, m + 1, D.put (.int .i64 n) (.held v'), fun k => if k = n then v' else F k, rfl, i2, ?_, i4.put _ _, by omega, fun k => ?_, fun k => ?_⟩, k03.mono fun k _ e => by rw [e]⟩
    · have hlt := hO.lt
      obtain ⟨es, clock, hb, r⟩ := hO
      exact ⟨es, clock, (k3.block b hlt (by omega)).trans hb, r⟩
    · show _ = DataW.held (if k = (n : Int) then v' else F k)
      by_cases hk : k = n
      · subst hk; rw [if_pos rfl]; exact atKey_put_same (k := .int .i64 (n : Int)) i4 (by simp [WideAt.IsKeyLit]) _ _
      · rw [if_neg hk, atKey_put_other (fun e => hk (by injection e))]; exact i6 k
    · show FRow w3 c (if k = (n : Int) then v' else F k) _
      rw [o2 k]
      by_cases hk : k = n
      · subst hk
        rw [if_pos rfl, if_pos rfl]
        exact hrow'.keep k03 (fun _ _ => rfl) (fun j _ e => by rw [e]; omega)
      · rw [if_neg hk, if_neg hk]
        exact (i7 k).keep k03 (fun _ _ => rfl) (fun j _ e => by rw [e]; omega)
  obtain ⟨w2, hst, hO2, hk2⟩ := fall_store (w := (w.alloc X).drew.drew) v' hOA (by unfold maxLen; omega) hn
  obtain ⟨_, e0, e1, e2, hr2, hF⟩ := ST.out w2 hO2 (((keep_drew _ (w.alloc X)).trans (keep_drew _ _)).trans hk2)
  have HF := hid hF
  have r0 := hr2.cellAt (o := 0) rfl
  have r1 := hr2.cellAt (o := 1) rfl
  have r2 := hr2.cellAt (o := 2) rfl
  have f0 := hr2.frozen (o := 0)
  have f1 := hr2.frozen (o := 1)
  have f2 := hr2.frozen (o := 2)
  have HR := hid ((((hr2.set 0 (.int .i64 f.at_)).set 1 (.int .i64 f.keep)).set 2 (.int .i64 f.torn)))
  have hz : ((r.length : Int) + 1 == 0) = false := by rw [beq_eq_false_iff_ne]; omega
  clear hlk hrow h0 hp h5 h6 ka hn hrow' o1 o2 o3 i2 i3 i4 i5 i6 i7 hOA hra hg6 q0 q1 q2 hgb hg hbl hcp ST hO2 hk2 hr2 hF
  subst hX
  go_enter Try.func64, Try.ntmps64
  go_wp2
  go_region
  clear l1 l2
  go_wp2
  go_region
  clear hst c5 c6
  go_wp2
  have t0 := HR.out.cellAt (o := 0) (v := .int .i64 f.at_) rfl
  have t1 := HR.out.cellAt (o := 1) (v := .int .i64 f.keep) rfl
  have t2 := HR.out.cellAt (o := 2) (v := .int .i64 f.torn) rfl
  have HF2 := hid (HF.out (.int .i64 f.at_) (.int .i64 f.keep) (.int .i64 f.torn))
  clear HF HR e0 e1 e2 r0 r1 r2 f0 f1 f2 hsl
  generalize ((w2.setCell ⟨w.heap.size, 0, none⟩ (.int .i64 f.at_)).setCell ⟨w.heap.size, 1, none⟩ (.int .i64 f.keep)).setCell ⟨w.heap.size, 2, none⟩ (.int .i64 f.torn) = w3 at *
  exact bodyPost_ret (v := .tuple #[.agg #[.int .i64 f.at_, .int .i64 f.keep, .int .i64 f.torn], .bool true]) (by rw [results_cell_tmp rfl]; go_simp) rfl ⟨rfl, HF2.out⟩
end Go.Proofs.Ytnlodlpjokkepab
