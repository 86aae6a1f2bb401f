/- The walks of a file's being taken away, and being laid. -/
import Derived.Test.YtnlodlpjokkepabKeepM
import Derived.BigRegion
namespace Go.Proofs.Ytnlodlpjokkepab
open Go.RowKit Go.Maps
set_option linter.unusedVariables false

/-- a slice's length -/
def lenV : Value → Nat
  | .slice _ n _ => n
  | _ => 0
theorem len_slice (w : World) (ad : Option Addr) (n c : Nat) (ty : TypeId) : (Builtin.len_ #[94] ty #[.slice ad n c]).run Try.prog w = .ok (.int .i64 n) w := by
  simp [Builtin.len_, run_underlying Try.underlying94, goInt, Result.andThen]
/-- is a slice -/
def IsSl (v : Value) : Prop := ∃ ad n c, v = .slice ad n c

set_option maxRecDepth 100000 in
set_option maxHeartbeats 1000000 in
theorem drop_any (pb po : Nat) (cs : List Value) (t : TypeId) (mo : Option Nat) (u : Int) (L : List (Bs × Value)) (s : ByteArray) (w : World) (hrow : RowIs w pb cs t) (h0 : cs[po]? = some (.map mo)) (h1 : cs[po + 1]? = some (.int .i64 u))
    (hm : MapV w mo L) (hne : ∀ b, mo = some b → b ≠ pb) (hsl : ∀ x ∈ L, IsSl x.2) (hs : s.size ≤ maxLen) :
    Calls Try.prog 63 #[.pointer (some ⟨pb, po, none⟩), .string s] w fun e w' => e = .returned (.tuple #[]) ∧
      RowIs w' pb (cs.set (po + 1) (.int .i64 (wrap64 (u - lenV ((kget L s.data.toList).getD (.slice none 0 0)))))) t ∧ MapV w' mo (kdel L s.data.toList) ∧ Keep (fun k => k = pb ∨ mo = some k) w w' := by
  obtain ⟨ad, n, c, hv⟩ : IsSl ((kget L s.data.toList).getD (.slice none 0 0)) := by
    cases hg : kget L s.data.toList with
    | none => exact ⟨none, 0, 0, rfl⟩
    | some v => exact hsl _ (kget_mem hg)
  have hl := mapV_look hm s hs
  have hl2 := mapV_look (w := w.drew) hm s hs
  rw [hv] at hl hl2 ⊢
  have c0 := hrow.cellAt h0
  have c1 := hrow.cellAt h1
  have f1 := hrow.frozen (o := po + 1)
  have HR := show Hid _ from hrow
  have HM := show Hid _ from hm
  have HN := show Hid _ from hne
  have HS := show Hid _ from hs
  have H0 := show Hid _ from h0
  clear hrow hm hne hsl hv h0 h1 hs
  go_enter Try.func63, Try.ntmps63
  go_wp2
  go_region
  have HR2 : Hid (RowIs (w.setCell ⟨pb, po + 1, none⟩ (.int .i64 (wrap64 (u - n)))).drew pb (cs.set (po + 1) (.int .i64 (wrap64 (u - n)))) t) := RowIs.set HR.out (po + 1) _
  have HK : Hid (Keep (fun k => k = pb ∨ mo = some k) w (w.setCell ⟨pb, po + 1, none⟩ (.int .i64 (wrap64 (u - n)))).drew) := ((keep_setCell w pb (po + 1) _).mono (fun k _ e => .inl e)).trans (keep_drew _ _)
  have HM2 : Hid (MapV (w.setCell ⟨pb, po + 1, none⟩ (.int .i64 (wrap64 (u - n)))).drew mo L) := (keep_setCell w pb (po + 1) (.int .i64 (wrap64 (u - n)))).mapV HM.out (fun g e e2 => HN.out g e e2)
  have c3 : (w.setCell ⟨pb, po + 1, none⟩ (.int .i64 (wrap64 (u - n)))).drew.cell? ⟨pb, po, none⟩ = some (.map mo) := HR2.out.cellAt (by rw [List.getElem?_set_ne (by omega)]; exact H0.out)
  generalize (w.setCell ⟨pb, po + 1, none⟩ (.int .i64 (wrap64 (u - n)))).drew = w1 at HR2 HM2 HK c3 ⊢
  clear hl hl2 c0 c1 f1 HR HM
  obtain ⟨w2, hd, hm2, ht⟩ := mapV_drop HM2.out s HS.out 0
  have HM3 := show Hid _ from hm2
  have HT := show Hid _ from ht
  clear hm2 ht
  go_wp2
  go_end0
  exact ⟨rfl, HR2.out.keep (keep_turn HT.out) (fun e => HN.out pb e rfl), HM3.out, HK.out.trans ((keep_turn HT.out).mono fun k _ e => .inr e)⟩

theorem equalIn_map_nil (w : World) (d : Nat) (p : Option Nat) : (Op.equalIn (d + 1) 67 (.map p) (.map none)).run Try.prog w = .ok p.isNone w := by
  cases p <;> simp [Op.equalIn, run_underlying Try.underlying67]
theorem eql_map_nil (w : World) (p : Option Nat) : (binOp .eql 67 (.map p) (.map none)).run Try.prog w = .ok (.bool p.isNone) w := by
  simp only [binOp]
  simp [show Op.equal 67 (.map p) (.map none) = Op.equalIn (9999 + 1) 67 (.map p) (.map none) from rfl, equalIn_map_nil w 9999 p]

set_option maxRecDepth 100000 in
set_option maxHeartbeats 1000000 in
theorem set_some (pb po : Nat) (cs : List Value) (t : TypeId) (b : Nat) (u : Int) (L : List (Bs × Value)) (s : ByteArray) (ad0 : Option Addr) (n0 c0 : Nat) (w : World) (hrow : RowIs w pb cs t) (h0 : cs[po]? = some (.map (some b))) (h1 : cs[po + 1]? = some (.int .i64 u))
    (hm : MapIs w b L) (hne : b ≠ pb) (hsl : ∀ x ∈ L, IsSl x.2) (hs : s.size ≤ maxLen) (hl : L.length < maxLen) :
    Calls Try.prog 62 #[.pointer (some ⟨pb, po, none⟩), .string s, .slice ad0 n0 c0] w fun e w' => e = .returned (.tuple #[]) ∧
      RowIs w' pb (cs.set (po + 1) (.int .i64 (wrap64 (u + wrap64 (n0 - lenV ((kget L s.data.toList).getD (.slice none 0 0))))))) t ∧ MapIs w' b (kput L s.data.toList (.slice ad0 n0 c0)) ∧ Keep (fun k => k = pb ∨ k = b) w w' := by
  obtain ⟨ad, n, c, hv⟩ : IsSl ((kget L s.data.toList).getD (.slice none 0 0)) := by
    cases hg : kget L s.data.toList with
    | none => exact ⟨none, 0, 0, rfl⟩
    | some v => exact hsl _ (kget_mem hg)
  have hl1 := mapV_look (.inr ⟨b, rfl, hm⟩) s hs
  have hl2 := mapV_look (w := w.drew) (.inr ⟨b, rfl, hm⟩) s hs
  rw [hv] at hl1 hl2 ⊢
  have k0 := hrow.cellAt h0
  have k1 := hrow.cellAt h1
  have f1 := hrow.frozen (o := po + 1)
  have HR := show Hid _ from hrow
  have HM := show Hid _ from hm
  have HN := show Hid _ from hne
  have HS := show Hid _ from hs
  have HL := show Hid _ from hl
  have H0 := show Hid _ from h0
  have he := eql_map_nil w (some b)
  clear hrow hm hne hsl hv h0 h1 hs hl
  go_enter Try.func62, Try.ntmps62
  go_wp2
  go_region
  have HR2 : Hid (RowIs (w.setCell ⟨pb, po + 1, none⟩ (.int .i64 (wrap64 (u + wrap64 (n0 - n))))).drew pb (cs.set (po + 1) (.int .i64 (wrap64 (u + wrap64 (n0 - n))))) t) := RowIs.set HR.out (po + 1) _
  have HK : Hid (Keep (fun k => k = pb ∨ k = b) w (w.setCell ⟨pb, po + 1, none⟩ (.int .i64 (wrap64 (u + wrap64 (n0 - n))))).drew) := ((keep_setCell w pb (po + 1) _).mono (fun k _ e => .inl e)).trans (keep_drew _ _)
  have HM2 : Hid (MapIs (w.setCell ⟨pb, po + 1, none⟩ (.int .i64 (wrap64 (u + wrap64 (n0 - n))))).drew b L) := (keep_setCell w pb (po + 1) (.int .i64 (wrap64 (u + wrap64 (n0 - n))))).mapIs HM.out HN.out
  have c3 : (w.setCell ⟨pb, po + 1, none⟩ (.int .i64 (wrap64 (u + wrap64 (n0 - n))))).drew.cell? ⟨pb, po, none⟩ = some (.map (some b)) := HR2.out.cellAt (by rw [List.getElem?_set_ne (by omega)]; exact H0.out)
  generalize (w.setCell ⟨pb, po + 1, none⟩ (.int .i64 (wrap64 (u + wrap64 (n0 - n))))).drew = w1 at HR2 HM2 HK c3 ⊢
  clear hl1 hl2 k0 k1 f1 HR HM he
  obtain ⟨w2, hd, hm2, ht⟩ := mapIs_store HM2.out s HS.out HL.out (.slice ad0 n0 c0)
  have HM3 := show Hid _ from hm2
  have HT := show Hid _ from ht
  clear hm2 ht
  go_wp2
  go_end0
  exact ⟨rfl, HR2.out.keep (keep_map HT.out) (fun e => HN.out e.symm), HM3.out, HK.out.trans ((keep_map HT.out).mono fun k _ e => .inr e)⟩

set_option maxRecDepth 100000 in
set_option maxHeartbeats 1000000 in
theorem set_none (pb po : Nat) (cs : List Value) (t : TypeId) (u : Int) (s : ByteArray) (ad0 : Option Addr) (n0 c0 : Nat) (w : World) (hrow : RowIs w pb cs t) (h0 : cs[po]? = some (.map none)) (h1 : cs[po + 1]? = some (.int .i64 u)) (hs : s.size ≤ maxLen) :
    Calls Try.prog 62 #[.pointer (some ⟨pb, po, none⟩), .string s, .slice ad0 n0 c0] w fun e w' => e = .returned (.tuple #[]) ∧
      RowIs w' pb ((cs.set po (.map (some w.heap.size))).set (po + 1) (.int .i64 (wrap64 (u + wrap64 n0)))) t ∧ MapIs w' w.heap.size [(s.data.toList, .slice ad0 n0 c0)] ∧ Keep (fun k => k = pb) w w' := by
  have k0 := hrow.cellAt h0
  have f0 := hrow.frozen (o := po)
  have ka : (w.alloc (.map #[] 0)).cell? ⟨pb, po, none⟩ = some (.map none) := ((keep_alloc (fun _ => False) w (.map #[] 0)).cell hrow.lt (fun h => h)).trans k0
  have hrowA : RowIs (w.alloc (.map #[] 0)) pb cs t := hrow.keep (keep_alloc (fun _ => False) w _) (fun h => h)
  have fa : (w.alloc (.map #[] 0)).frozen? ⟨pb, po, none⟩ = false := hrowA.frozen
  have hlt := hrow.lt
  have HK1 : Hid (Keep (fun k => k = pb) w ((w.alloc (.map #[] 0)).setCell ⟨pb, po, none⟩ (.map (some w.heap.size)))) := (keep_alloc _ w _).trans (keep_setCell _ _ _ _)
  have HR1 : Hid (RowIs ((w.alloc (.map #[] 0)).setCell ⟨pb, po, none⟩ (.map (some w.heap.size))) pb (cs.set po (.map (some w.heap.size))) t) := hrowA.set _ _
  have HM1 : Hid (MapIs ((w.alloc (.map #[] 0)).setCell ⟨pb, po, none⟩ (.map (some w.heap.size))) w.heap.size []) := (keep_setCell _ pb po _).mapIs (mapIs_made w) (by omega)
  have HS := show Hid _ from hs
  have h0' := List.getElem?_eq_some_iff.1 h0
  have H0 : Hid ((cs.set po (.map (some w.heap.size)))[po]? = some (.map (some w.heap.size))) := List.getElem?_set_self h0'.1
  have H1 : Hid ((cs.set po (.map (some w.heap.size)))[po + 1]? = some (.int .i64 u)) := (List.getElem?_set_ne (by omega)).trans h1
  have HN : Hid (w.heap.size ≠ pb) := by show _ ≠ _; omega
  have he := eql_map_nil w none
  have hmm := @run_makeMap Try.prog
  clear hrow hrowA h0 h1 h0' hs hlt
  go_enter Try.func62, Try.ntmps62
  go_wp2
  generalize (w.alloc (.map #[] 0)).setCell ⟨pb, po, none⟩ (.map (some w.heap.size)) = w0 at HK1 HR1 HM1 ⊢
  clear he hmm k0 f0 ka fa
  generalize hcs : cs.set po (.map (some w.heap.size)) = cs1 at HR1 H0 H1 ⊢
  have HC : Hid (_ = _) := hcs
  clear hcs
  generalize hb : w.heap.size = b at HM1 H0 HN ⊢
  have HB : Hid (w.heap.size = b) := hb
  clear hb
  have hl1 := mapV_look (.inr ⟨b, rfl, HM1.out⟩) s HS.out
  have hl2 := mapV_look (w := w0.drew) (.inr ⟨b, rfl, HM1.out⟩) s HS.out
  have k0 := HR1.out.cellAt H0.out
  have k1 := HR1.out.cellAt H1.out
  have f1 := HR1.out.frozen (o := po + 1)
  rw [show (kget ([] : List (Bs × Value)) s.data.toList).getD (.slice none 0 0) = .slice none 0 0 from rfl] at hl1 hl2
  go_region
  have HR2 : Hid (RowIs (w0.setCell ⟨pb, po + 1, none⟩ (.int .i64 (wrap64 (u + wrap64 n0)))).drew pb (cs1.set (po + 1) (.int .i64 (wrap64 (u + wrap64 n0)))) t) := RowIs.set HR1.out (po + 1) _
  have HK : Hid (Keep (fun k => k = pb) w (w0.setCell ⟨pb, po + 1, none⟩ (.int .i64 (wrap64 (u + wrap64 n0)))).drew) := HK1.out.trans ((keep_setCell w0 pb (po + 1) _).trans (keep_drew _ _))
  have HM2 : Hid (MapIs (w0.setCell ⟨pb, po + 1, none⟩ (.int .i64 (wrap64 (u + wrap64 n0)))).drew b []) := (keep_setCell w0 pb (po + 1) (.int .i64 (wrap64 (u + wrap64 n0)))).mapIs HM1.out HN.out
  have c3 : (w0.setCell ⟨pb, po + 1, none⟩ (.int .i64 (wrap64 (u + wrap64 n0)))).drew.cell? ⟨pb, po, none⟩ = some (.map (some b)) := HR2.out.cellAt (by rw [List.getElem?_set_ne (by omega)]; exact H0.out)
  generalize (w0.setCell ⟨pb, po + 1, none⟩ (.int .i64 (wrap64 (u + wrap64 n0)))).drew = w1 at HR2 HM2 HK c3 ⊢
  clear hl1 hl2 k0 k1 f1
  obtain ⟨w2, hd, hm2, ht⟩ := mapIs_store HM2.out s HS.out (by decide) (.slice ad0 n0 c0)
  have HM3 := show Hid _ from hm2
  have HT := show Hid _ from ht
  clear hm2 ht
  go_wp2
  go_end0
  rw [HB.out, show cs.set po (.map (some b)) = cs1 from (by rw [← HB.out]; exact HC.out)]
  exact ⟨rfl, HR2.out.keep (keep_map HT.out) (fun e => HN.out e.symm), HM3.out, HK.out.then (keep_map HT.out) fun k hk e => absurd e (by have := HB.out; omega)⟩

/-- a file is laid -/
theorem set_any (pb po : Nat) (cs : List Value) (t : TypeId) (mo : Option Nat) (u : Int) (L : List (Bs × Value)) (s : ByteArray) (ad0 : Option Addr) (n0 c0 : Nat) (w : World) (hrow : RowIs w pb cs t) (h0 : cs[po]? = some (.map mo)) (h1 : cs[po + 1]? = some (.int .i64 u))
    (hm : MapV w mo L) (hne : ∀ b, mo = some b → b ≠ pb) (hsl : ∀ x ∈ L, IsSl x.2) (hs : s.size ≤ maxLen) (hl : L.length < maxLen) :
    Calls Try.prog 62 #[.pointer (some ⟨pb, po, none⟩), .string s, .slice ad0 n0 c0] w fun e w' => e = .returned (.tuple #[]) ∧ ∃ b, (mo = some b ∨ b = w.heap.size) ∧ b ≠ pb ∧
      RowIs w' pb ((cs.set po (.map (some b))).set (po + 1) (.int .i64 (wrap64 (u + wrap64 (n0 - lenV ((kget L s.data.toList).getD (.slice none 0 0))))))) t ∧ MapIs w' b (kput L s.data.toList (.slice ad0 n0 c0)) ∧ Keep (fun k => k = pb ∨ mo = some k) w w' := by
  rcases hm with ⟨rfl, rfl⟩ | ⟨b, rfl, hm⟩
  · refine (set_none pb po cs t u s ad0 n0 c0 w hrow h0 h1 hs).mono fun e w' ⟨he, hr, hm', hk⟩ => ⟨he, w.heap.size, .inr rfl, by have := hrow.lt; omega, ?_, hm', hk.mono fun k _ e => .inl e⟩
    have e : (n0 : Int) - (lenV ((kget ([] : List (Bs × Value)) s.data.toList).getD (.slice none 0 0)) : Nat) = n0 := by show (n0 : Int) - ((0 : Nat) : Int) = n0; omega
    rw [e]; exact hr
  · refine (set_some pb po cs t b u L s ad0 n0 c0 w hrow h0 h1 hm (hne b rfl) hsl hs hl).mono fun e w' ⟨he, hr, hm', hk⟩ => ⟨he, b, .inl rfl, hne b rfl, ?_, hm', hk.mono fun k _ e => e.imp id (fun e => by rw [e])⟩
    have e : cs.set po (.map (some b)) = cs := by
      apply List.ext_getElem?
      intro i
      by_cases hi : po = i
      · subst hi; rw [List.getElem?_set_self (List.getElem?_eq_some_iff.1 h0).1, h0]
      · rw [List.getElem?_set_ne hi]
    rw [e]; exact hr
end Go.Proofs.Ytnlodlpjokkepab
