/- Joined: The walks of a file's being taken away, and being laid. Files in memory: their bytes, shared between what is and what is sure. Files in memory as a whole, and what a change does to them. -/
import Derived.Test.YtefbioainibmaaaGreatDoorJoined04
import Derived.BigRegion
import Derived.Test.YtefbioainibmaaaGreatDoorJoined03
namespace Go.Proofs.YtefbioainibmaaaGreatDoor
open Go.RowKit Go.Maps
set_option linter.unusedVariables false

/-- a slice's length -/
def lenV : Value → Nat
  | .slice _ n _ => n
  | _ => 0
/-- is a slice -/
def IsSl (v : Value) : Prop := ∃ ad n c, v = .slice ad n c

set_option maxRecDepth 100000 in
set_option maxHeartbeats 1000000 in
theorem drop_any (pb po : Nat) (cs : List Value) (t : TypeId) (mo : Option Nat) (u : Int) (L : List (Bs × Value)) (s : ByteArray) (w : World) (hrow : RowIs w pb cs t) (h0 : cs[po]? = some (.map mo)) (h1 : cs[po + 1]? = some (.int .i64 u))
    (hm : MapV w mo L) (hne : ∀ b, mo = some b → b ≠ pb) (hsl : ∀ x ∈ L, IsSl x.2) (hs : s.size ≤ maxLen) :
    Calls Tryz.prog 116 #[.pointer (some ⟨pb, po, none⟩), .string s] w fun e w' => e = .returned (.tuple #[]) ∧
      RowIs w' pb (cs.set (po + 1) (.int .i64 (wrap64 (u - lenV ((kget L s.data.toList).getD (.slice none 0 0)))))) t ∧ MapV w' mo (kdel L s.data.toList) ∧ Keep (fun k => k = pb ∨ mo = some k) w w' := by
  obtain ⟨ad, n, c, hv⟩ : IsSl ((kget L s.data.toList).getD (.slice none 0 0)) := by
    cases hg : kget L s.data.toList with
    | none => exact ⟨none, 0, 0, rfl⟩
    | some v => exact hsl _ (kget_mem hg)
  have hl := mapV_look hm s hs
  have hl2 := mapV_look (w := w.drew) hm s hs
  rw [hv] at hl hl2 ⊢
  have c0 := hrow.cellAt h0
  have c1 := hrow.cellAt h1
  have f1 := hrow.frozen (o := po + 1)
  have HR := show Hid _ from hrow
  have HM := show Hid _ from hm
  have HN := show Hid _ from hne
  have HS := show Hid _ from hs
  have H0 := show Hid _ from h0
  clear hrow hm hne hsl hv h0 h1 hs
  go_enter Tryz.func116, Tryz.ntmps116
  go_wp2
  go_region
  have HR2 : Hid (RowIs (w.setCell ⟨pb, po + 1, none⟩ (.int .i64 (wrap64 (u - n)))).drew pb (cs.set (po + 1) (.int .i64 (wrap64 (u - n)))) t) := RowIs.set HR.out (po + 1) _
  have HK : Hid (Keep (fun k => k = pb ∨ mo = some k) w (w.setCell ⟨pb, po + 1, none⟩ (.int .i64 (wrap64 (u - n)))).drew) := ((keep_setCell w pb (po + 1) _).mono (fun k _ e => .inl e)).trans (keep_drew _ _)
  have HM2 : Hid (MapV (w.setCell ⟨pb, po + 1, none⟩ (.int .i64 (wrap64 (u - n)))).drew mo L) := (keep_setCell w pb (po + 1) (.int .i64 (wrap64 (u - n)))).mapV HM.out (fun g e e2 => HN.out g e e2)
  have c3 : (w.setCell ⟨pb, po + 1, none⟩ (.int .i64 (wrap64 (u - n)))).drew.cell? ⟨pb, po, none⟩ = some (.map mo) := HR2.out.cellAt (by rw [List.getElem?_set_ne (by omega)]; exact H0.out)
  generalize (w.setCell ⟨pb, po + 1, none⟩ (.int .i64 (wrap64 (u - n)))).drew = w1 at HR2 HM2 HK c3 ⊢
  clear hl hl2 c0 c1 f1 HR HM
  obtain ⟨w2, hd, hm2, ht⟩ := mapV_drop HM2.out s HS.out 0
  have HM3 := show Hid _ from hm2
  have HT := show Hid _ from ht
  clear hm2 ht
  go_wp2
  go_end0
  exact ⟨rfl, HR2.out.keep (keep_turn HT.out) (fun e => HN.out pb e rfl), HM3.out, HK.out.trans ((keep_turn HT.out).mono fun k _ e => .inr e)⟩

theorem equalIn_map_nil (w : World) (d : Nat) (p : Option Nat) : (Op.equalIn (d + 1) 118 (.map p) (.map none)).run Tryz.prog w = .ok p.isNone w := by
  cases p <;> simp [Op.equalIn, run_underlying Tryz.underlying118]
theorem eql_map_nil (w : World) (p : Option Nat) : (binOp .eql 118 (.map p) (.map none)).run Tryz.prog w = .ok (.bool p.isNone) w := by
  simp only [binOp]
  simp [show Op.equal 118 (.map p) (.map none) = Op.equalIn (9999 + 1) 118 (.map p) (.map none) from rfl, equalIn_map_nil w 9999 p]

set_option maxRecDepth 100000 in
set_option maxHeartbeats 1000000 in
theorem set_some (pb po : Nat) (cs : List Value) (t : TypeId) (b : Nat) (u : Int) (L : List (Bs × Value)) (s : ByteArray) (ad0 : Option Addr) (n0 c0 : Nat) (w : World) (hrow : RowIs w pb cs t) (h0 : cs[po]? = some (.map (some b))) (h1 : cs[po + 1]? = some (.int .i64 u))
    (hm : MapIs w b L) (hne : b ≠ pb) (hsl : ∀ x ∈ L, IsSl x.2) (hs : s.size ≤ maxLen) (hl : L.length < maxLen) :
    Calls Tryz.prog 115 #[.pointer (some ⟨pb, po, none⟩), .string s, .slice ad0 n0 c0] w fun e w' => e = .returned (.tuple #[]) ∧
      RowIs w' pb (cs.set (po + 1) (.int .i64 (wrap64 (u + wrap64 (n0 - lenV ((kget L s.data.toList).getD (.slice none 0 0))))))) t ∧ MapIs w' b (kput L s.data.toList (.slice ad0 n0 c0)) ∧ Keep (fun k => k = pb ∨ k = b) w w' := by
  obtain ⟨ad, n, c, hv⟩ : IsSl ((kget L s.data.toList).getD (.slice none 0 0)) := by
    cases hg : kget L s.data.toList with
    | none => exact ⟨none, 0, 0, rfl⟩
    | some v => exact hsl _ (kget_mem hg)
  have hl1 := mapV_look (.inr ⟨b, rfl, hm⟩) s hs
  have hl2 := mapV_look (w := w.drew) (.inr ⟨b, rfl, hm⟩) s hs
  rw [hv] at hl1 hl2 ⊢
  have k0 := hrow.cellAt h0
  have k1 := hrow.cellAt h1
  have f1 := hrow.frozen (o := po + 1)
  have HR := show Hid _ from hrow
  have HM := show Hid _ from hm
  have HN := show Hid _ from hne
  have HS := show Hid _ from hs
  have HL := show Hid _ from hl
  have H0 := show Hid _ from h0
  have he := eql_map_nil w (some b)
  clear hrow hm hne hsl hv h0 h1 hs hl
  go_enter Tryz.func115, Tryz.ntmps115
  go_wp2
  go_region
  have HR2 : Hid (RowIs (w.setCell ⟨pb, po + 1, none⟩ (.int .i64 (wrap64 (u + wrap64 (n0 - n))))).drew pb (cs.set (po + 1) (.int .i64 (wrap64 (u + wrap64 (n0 - n))))) t) := RowIs.set HR.out (po + 1) _
  have HK : Hid (Keep (fun k => k = pb ∨ k = b) w (w.setCell ⟨pb, po + 1, none⟩ (.int .i64 (wrap64 (u + wrap64 (n0 - n))))).drew) := ((keep_setCell w pb (po + 1) _).mono (fun k _ e => .inl e)).trans (keep_drew _ _)
  have HM2 : Hid (MapIs (w.setCell ⟨pb, po + 1, none⟩ (.int .i64 (wrap64 (u + wrap64 (n0 - n))))).drew b L) := (keep_setCell w pb (po + 1) (.int .i64 (wrap64 (u + wrap64 (n0 - n))))).mapIs HM.out HN.out
  have c3 : (w.setCell ⟨pb, po + 1, none⟩ (.int .i64 (wrap64 (u + wrap64 (n0 - n))))).drew.cell? ⟨pb, po, none⟩ = some (.map (some b)) := HR2.out.cellAt (by rw [List.getElem?_set_ne (by omega)]; exact H0.out)
  generalize (w.setCell ⟨pb, po + 1, none⟩ (.int .i64 (wrap64 (u + wrap64 (n0 - n))))).drew = w1 at HR2 HM2 HK c3 ⊢
  clear hl1 hl2 k0 k1 f1 HR HM he
  obtain ⟨w2, hd, hm2, ht⟩ := mapIs_store HM2.out s HS.out HL.out (.slice ad0 n0 c0)
  have HM3 := show Hid _ from hm2
  have HT := show Hid _ from ht
  clear hm2 ht
  go_wp2
  go_end0
  exact ⟨rfl, HR2.out.keep (keep_map HT.out) (fun e => HN.out e.symm), HM3.out, HK.out.trans ((keep_map HT.out).mono fun k _ e => .inr e)⟩

set_option maxRecDepth 100000 in
set_option maxHeartbeats 1000000 in
theorem set_none (pb po : Nat) (cs : List Value) (t : TypeId) (u : Int) (s : ByteArray) (ad0 : Option Addr) (n0 c0 : Nat) (w : World) (hrow : RowIs w pb cs t) (h0 : cs[po]? = some (.map none)) (h1 : cs[po + 1]? = some (.int .i64 u)) (hs : s.size ≤ maxLen) :
    Calls Tryz.prog 115 #[.pointer (some ⟨pb, po, none⟩), .string s, .slice ad0 n0 c0] w fun e w' => e = .returned (.tuple #[]) ∧
      RowIs w' pb ((cs.set po (.map (some w.heap.size))).set (po + 1) (.int .i64 (wrap64 (u + wrap64 n0)))) t ∧ MapIs w' w.heap.size [(s.data.toList, .slice ad0 n0 c0)] ∧ Keep (fun k => k = pb) w w' := by
  have k0 := hrow.cellAt h0
  have f0 := hrow.frozen (o := po)
  have ka : (w.alloc (.map #[] 0)).cell? ⟨pb, po, none⟩ = some (.map none) := ((keep_alloc (fun _ => False) w (.map #[] 0)).cell hrow.lt (fun h => h)).trans k0
  have hrowA : RowIs (w.alloc (.map #[] 0)) pb cs t := hrow.keep (keep_alloc (fun _ => False) w _) (fun h => h)
  have fa : (w.alloc (.map #[] 0)).frozen? ⟨pb, po, none⟩ = false := hrowA.frozen
  have hlt := hrow.lt
  have HK1 : Hid (Keep (fun k => k = pb) w ((w.alloc (.map #[] 0)).setCell ⟨pb, po, none⟩ (.map (some w.heap.size)))) := (keep_alloc _ w _).trans (keep_setCell _ _ _ _)
  have HR1 : Hid (RowIs ((w.alloc (.map #[] 0)).setCell ⟨pb, po, none⟩ (.map (some w.heap.size))) pb (cs.set po (.map (some w.heap.size))) t) := hrowA.set _ _
  have HM1 : Hid (MapIs ((w.alloc (.map #[] 0)).setCell ⟨pb, po, none⟩ (.map (some w.heap.size))) w.heap.size []) := (keep_setCell _ pb po _).mapIs (mapIs_made w) (by omega)
  have HS := show Hid _ from hs
  have h0' := List.getElem?_eq_some_iff.1 h0
  have H0 : Hid ((cs.set po (.map (some w.heap.size)))[po]? = some (.map (some w.heap.size))) := List.getElem?_set_self h0'.1
  have H1 : Hid ((cs.set po (.map (some w.heap.size)))[po + 1]? = some (.int .i64 u)) := (List.getElem?_set_ne (by omega)).trans h1
  have HN : Hid (w.heap.size ≠ pb) := by show _ ≠ _; omega
  have he := eql_map_nil w none
  have hmm := @run_makeMap Tryz.prog
  clear hrow hrowA h0 h1 h0' hs hlt
  go_enter Tryz.func115, Tryz.ntmps115
  go_wp2
  generalize (w.alloc (.map #[] 0)).setCell ⟨pb, po, none⟩ (.map (some w.heap.size)) = w0 at HK1 HR1 HM1 ⊢
  clear he hmm k0 f0 ka fa
  generalize hcs : cs.set po (.map (some w.heap.size)) = cs1 at HR1 H0 H1 ⊢
  have HC : Hid (_ = _) := hcs
  clear hcs
  generalize hb : w.heap.size = b at HM1 H0 HN ⊢
  have HB : Hid (w.heap.size = b) := hb
  clear hb
  have hl1 := mapV_look (.inr ⟨b, rfl, HM1.out⟩) s HS.out
  have hl2 := mapV_look (w := w0.drew) (.inr ⟨b, rfl, HM1.out⟩) s HS.out
  have k0 := HR1.out.cellAt H0.out
  have k1 := HR1.out.cellAt H1.out
  have f1 := HR1.out.frozen (o := po + 1)
  rw [show (kget ([] : List (Bs × Value)) s.data.toList).getD (.slice none 0 0) = .slice none 0 0 from rfl] at hl1 hl2
  go_region
  have HR2 : Hid (RowIs (w0.setCell ⟨pb, po + 1, none⟩ (.int .i64 (wrap64 (u + wrap64 n0)))).drew pb (cs1.set (po + 1) (.int .i64 (wrap64 (u + wrap64 n0)))) t) := RowIs.set HR1.out (po + 1) _
  have HK : Hid (Keep (fun k => k = pb) w (w0.setCell ⟨pb, po + 1, none⟩ (.int .i64 (wrap64 (u + wrap64 n0)))).drew) := HK1.out.trans ((keep_setCell w0 pb (po + 1) _).trans (keep_drew _ _))
  have HM2 : Hid (MapIs (w0.setCell ⟨pb, po + 1, none⟩ (.int .i64 (wrap64 (u + wrap64 n0)))).drew b []) := (keep_setCell w0 pb (po + 1) (.int .i64 (wrap64 (u + wrap64 n0)))).mapIs HM1.out HN.out
  have c3 : (w0.setCell ⟨pb, po + 1, none⟩ (.int .i64 (wrap64 (u + wrap64 n0)))).drew.cell? ⟨pb, po, none⟩ = some (.map (some b)) := HR2.out.cellAt (by rw [List.getElem?_set_ne (by omega)]; exact H0.out)
  generalize (w0.setCell ⟨pb, po + 1, none⟩ (.int .i64 (wrap64 (u + wrap64 n0)))).drew = w1 at HR2 HM2 HK c3 ⊢
  clear hl1 hl2 k0 k1 f1
  obtain ⟨w2, hd, hm2, ht⟩ := mapIs_store HM2.out s HS.out (by decide) (.slice ad0 n0 c0)
  have HM3 := show Hid _ from hm2
  have HT := show Hid _ from ht
  clear hm2 ht
  go_wp2
  go_end0
  rw [HB.out, show cs.set po (.map (some b)) = cs1 from (by rw [← HB.out]; exact HC.out)]
  exact ⟨rfl, HR2.out.keep (keep_map HT.out) (fun e => HN.out e.symm), HM3.out, HK.out.then (keep_map HT.out) fun k hk e => absurd e (by have := HB.out; omega)⟩

/-- a file is laid -/
theorem set_any (pb po : Nat) (cs : List Value) (t : TypeId) (mo : Option Nat) (u : Int) (L : List (Bs × Value)) (s : ByteArray) (ad0 : Option Addr) (n0 c0 : Nat) (w : World) (hrow : RowIs w pb cs t) (h0 : cs[po]? = some (.map mo)) (h1 : cs[po + 1]? = some (.int .i64 u))
    (hm : MapV w mo L) (hne : ∀ b, mo = some b → b ≠ pb) (hsl : ∀ x ∈ L, IsSl x.2) (hs : s.size ≤ maxLen) (hl : L.length < maxLen) :
    Calls Tryz.prog 115 #[.pointer (some ⟨pb, po, none⟩), .string s, .slice ad0 n0 c0] w fun e w' => e = .returned (.tuple #[]) ∧ ∃ b, (mo = some b ∨ b = w.heap.size) ∧ b ≠ pb ∧
      RowIs w' pb ((cs.set po (.map (some b))).set (po + 1) (.int .i64 (wrap64 (u + wrap64 (n0 - lenV ((kget L s.data.toList).getD (.slice none 0 0))))))) t ∧ MapIs w' b (kput L s.data.toList (.slice ad0 n0 c0)) ∧ Keep (fun k => k = pb ∨ mo = some k) w w' := by
  rcases hm with ⟨rfl, rfl⟩ | ⟨b, rfl, hm⟩
  · refine (set_none pb po cs t u s ad0 n0 c0 w hrow h0 h1 hs).mono fun e w' ⟨he, hr, hm', hk⟩ => ⟨he, w.heap.size, .inr rfl, by have := hrow.lt; omega, ?_, hm', hk.mono fun k _ e => .inl e⟩
    have e : (n0 : Int) - (lenV ((kget ([] : List (Bs × Value)) s.data.toList).getD (.slice none 0 0)) : Nat) = n0 := by show (n0 : Int) - ((0 : Nat) : Int) = n0; omega
    rw [e]; exact hr
  · refine (set_some pb po cs t b u L s ad0 n0 c0 w hrow h0 h1 hm (hne b rfl) hsl hs hl).mono fun e w' ⟨he, hr, hm', hk⟩ => ⟨he, b, .inl rfl, hne b rfl, ?_, hm', hk.mono fun k _ e => e.imp id (fun e => by rw [e])⟩
    have e : cs.set po (.map (some b)) = cs := by
      apply List.ext_getElem?
      intro i
      by_cases hi : po = i
      · subst hi; rw [List.getElem?_set_self (List.getElem?_eq_some_iff.1 h0).1, h0]
      · rw [List.getElem?_set_ne hi]
    rw [e]; exact hr
end Go.Proofs.YtefbioainibmaaaGreatDoor
namespace Go.Proofs.YtefbioainibmaaaGreatDoor
open Go.RowKit Go.Maps
set_option linter.unusedVariables false

/-- what is appended to v in its place does not fall on y -/
def Fits (v y : Value) : Prop := ∀ g n1 c1 n2 c2, v = .slice (some ⟨g, 0, none⟩) n1 c1 → y = .slice (some ⟨g, 0, none⟩) n2 c2 → n1 < c1 → n2 ≤ n1
theorem fits_nil (y : Value) : Fits (.slice none 0 0) y := by intro g n1 c1 n2 c2 h; injection h with h; cases h
theorem bsl_block {w : World} {y : Value} {U : Bs} {g : Nat} (h : BSl w 0 y U) (hg : y.ownBlock = some g) : g < w.heap.size := by
  rcases h with ⟨rfl, rfl⟩ | ⟨g', cap, rfl, h1, h2, _⟩
  · simp [Value.ownBlock] at hg
  · simp [Value.ownBlock] at hg; omega
theorem bsl_isSl {w : World} {y : Value} {U : Bs} (h : BSl w 0 y U) : IsSl y := by
  rcases h with ⟨rfl, rfl⟩ | ⟨g', cap, rfl, h1, h2, _⟩
  · exact ⟨_, _, _, rfl⟩
  · exact ⟨_, _, _, rfl⟩
theorem bsl_len {w : World} {y : Value} {U : Bs} (h : BSl w 0 y U) : lenV y = U.length := by
  rcases h with ⟨rfl, rfl⟩ | ⟨g', cap, rfl, h1, h2, _⟩ <;> rfl
theorem Keep.bsl {S : Nat → Prop} {w w' : World} {y : Value} {U : Bs} (k : Keep S w w') (h : BSl w 0 y U) (hS : ∀ g, y.ownBlock = some g → ¬ S g) : BSl w' 0 y U := by
  rcases h with h | ⟨g, cap, rfl, h1, h2, h3, h4, h5⟩
  · exact .inl h
  · have hg := hS g rfl
    have hb := k.block g h2 hg
    exact .inr ⟨g, cap, rfl, h1, Nat.lt_of_lt_of_le h2 k.size, h3, fun j hj => (k.cell h2 hg).trans (h4 j hj), fun j hj => ⟨by rw [k.cell h2 hg]; exact (h5 j hj).1, by have := (h5 j hj).2; unfold World.frozen? at this ⊢; rw [hb]; exact this⟩⟩

theorem append_nil_nil (w : World) (ty : TypeId) : (Builtin.append_ #[143, 9] ty #[.slice none 0 0, .string ⟨#[]⟩]).run Tryz.prog w = .ok (.slice none 0 0) w := by kernel_rfl

/-- 'append(b, s...)' where others may share the block -/
theorem bsl_more (w : World) (v : Value) (T : Bs) (s : ByteArray) (ty : TypeId) (h : BSl w 0 v T) (hl : T.length + s.size ≤ 140737488355328) :
    ∃ v' w', (Builtin.append_ #[143, 9] ty #[v, .string s]).run Tryz.prog w = .ok v' w' ∧ BSl w' 0 v' (T ++ s.data.toList) ∧ (v'.ownBlock = v.ownBlock ∨ v'.ownBlock = some w.heap.size) ∧
      Keep (fun k => v.ownBlock = some k) w w' ∧ ∀ y U, BSl w 0 y U → Fits v y → BSl w' 0 y U ∧ Fits v' y := by
  obtain ⟨i0, hi, hz0, hz1, hz2⟩ := info_parts info8
  have hsz : s.data.toList.length = s.size := by simp
  have hbl : (Go.byteCells s).length = s.size := by rw [Go.byteCells, List.length_map, hsz]
  have hsrc : ∀ w, Src Tryz.prog i0.size 9 (.string s) s.size (Go.byteCells s) w := fun w => by rw [hz1]; exact Src.ofString w Tryz.underlying9 s
  have grow : ∀ (bs0 : Option Addr) (cap : Nat), v = .slice bs0 T.length cap → cap < T.length + s.size → (Builtin.firstCells i0.size T.length (.slice bs0 T.length cap)).run Tryz.prog w.drew = .ok (bs T).toArray w.drew →
      ∃ v' w', (Builtin.append_ #[143, 9] ty #[v, .string s]).run Tryz.prog w = .ok v' w' ∧ BSl w' 0 v' (T ++ s.data.toList) ∧ (v'.ownBlock = v.ownBlock ∨ v'.ownBlock = some w.heap.size) ∧
        Keep (fun k => v.ownBlock = some k) w w' ∧ ∀ y U, BSl w 0 y U → Fits v y → BSl w' 0 y U ∧ Fits v' y := by
    intro bs0 cap hv hcap hold
    subst hv
    have hr := run_append_grow_src (P := Tryz.prog) w 143 9 ty 5 i0 (.int .u8 0) Tryz.underlying143 hi hz0 bs0 T.length cap (bs T) hold (.string s) s.size (Go.byteCells s) (hsrc w) hcap (by omega) (growslice_fits (by omega) (by rw [hz2]; omega))
    have hc := grownCap_ge w (T.length + s.size) cap 5
    generalize grownCap w (T.length + s.size) cap 5 = cap2 at hr hc
    have hzc : (Builtin.zeroCells (Value.int .u8 0).cells (cap2 - (T.length + s.size))).size = cap2 - (T.length + s.size) := by simp [Builtin.zeroCells, Value.cells]
    generalize Builtin.zeroCells (Value.int .u8 0).cells (cap2 - (T.length + s.size)) = Z at hr hzc
    have hcs : ((bs T ++ Go.byteCells s).toArray ++ Z).size = cap2 := by simp [bs_len, hbl, hzc]; omega
    have hh : (w.drew.alloc (.cells ((bs T ++ Go.byteCells s).toArray ++ Z) 5)).heap[w.heap.size]? = some (.cells ((bs T ++ Go.byteCells s).toArray ++ Z) 5) := by
      show (w.heap.push _)[w.heap.size]? = _
      simp
    have hB : Below w.heap.size w (w.drew.alloc (.cells ((bs T ++ Go.byteCells s).toArray ++ Z) 5)) := ((Below.refl _ w).drew).alloc (Nat.le_refl _) _
    refine ⟨_, _, hr, .inr ⟨w.heap.size, cap2, by rw [List.length_append, hsz], Nat.zero_le _, by show _ < (w.heap.push _).size; simp, by rw [List.length_append, hsz]; exact hc, fun j hj => ?_, fun j hj => ⟨?_, ?_⟩⟩, .inr rfl, hB.keep _, fun y U hy hf => ⟨(hB.keep (fun _ => False)).bsl hy (fun _ _ h => h), ?_⟩⟩
    · rw [cell_of_row _ _ j _ _ _ hh]
      have hj0 := hj
      rw [List.length_append, hsz] at hj
      have e : bs T ++ Go.byteCells s = bs (T ++ s.data.toList) := by rw [bs_append]; rfl
      rw [e, Array.getElem?_append_left (by simp [bs_len, hsz]; omega), List.getElem?_toArray]
      exact bs_get _ j hj0
    · rw [cell_of_row _ _ j _ _ _ hh]; simp only [Array.getElem?_eq_getElem (by rw [hcs]; exact hj), Option.isSome_some]
    · unfold World.frozen?
      rw [hh]; simp
    · intro g n1 c1 n2 c2 e1 e2 _
      injection e1 with e1
      injection e1 with e1
      injection e1 with e1
      have := bsl_block hy (g := g) (by rw [e2]; rfl)
      omega
  by_cases h0 : s.size = 0
  · have hs : s = ⟨#[]⟩ := by apply ByteArray.ext; exact Array.eq_empty_of_size_eq_zero h0
    subst hs
    rcases h with ⟨rfl, rfl⟩ | ⟨g, cap, rfl, h1, h2, h3, h4, h5⟩
    · exact ⟨_, _, append_nil_nil w ty, .inl ⟨rfl, rfl⟩, .inl rfl, Keep.refl _ _, fun y U hy hf => ⟨hy, hf⟩⟩
    · have hr := run_append_room_src (P := Tryz.prog) w 143 9 ty 5 i0 Tryz.underlying143 hi g 0 T.length cap (.string ⟨#[]⟩) 0 (Go.byteCells ⟨#[]⟩) (hsrc w) (by omega)
        (fun j hj => absurd hj (by rw [hbl]; omega)) (fun j hj => absurd hj (by rw [hbl]; omega))
      exact ⟨_, _, hr, by rw [show (ByteArray.mk #[]).data.toList = [] from rfl, List.append_nil]; exact .inr ⟨g, cap, rfl, h1, h2, h3, h4, h5⟩, .inl rfl, Keep.refl _ _, fun y U hy hf => ⟨hy, hf⟩⟩
  · rcases h with ⟨rfl, rfl⟩ | ⟨g, cap, rfl, h1, h2, h3, h4, h5⟩
    · exact grow none 0 rfl (by simp; omega) (run_firstCells_none _ _ _ _ _)
    · by_cases hroom : T.length + s.size ≤ cap
      · have hr := run_append_room_src (P := Tryz.prog) w 143 9 ty 5 i0 Tryz.underlying143 hi g 0 T.length cap (.string s) s.size (Go.byteCells s) (hsrc w) hroom
          (fun j hj => by rw [hz1, Nat.mul_one, Nat.zero_add]; exact (h5 _ (by omega)).1) (fun j hj => by rw [hz1, Nat.mul_one, Nat.zero_add]; exact (h5 _ (by omega)).2)
        rw [hz1, Nat.mul_one, Nat.zero_add] at hr
        have hK := keep_setCells w g T.length (Go.byteCells s)
        refine ⟨_, _, hr, .inr ⟨g, cap, by rw [List.length_append, hsz], h1, by rw [setCells_size]; exact h2, by rw [List.length_append, hsz]; exact hroom, fun j hj => ?_, fun j hj => ⟨?_, ?_⟩⟩, .inl rfl,
          hK.mono (fun k _ e => by rw [e]; rfl), fun y U hy hf => ⟨?_, ?_⟩⟩
        · by_cases hjl : j < T.length
          · rw [World.cell?_setCells_out g _ _ w ⟨g, j, none⟩ (fun _ _ => .inl hjl), h4 j hjl, List.getElem_append_left hjl]
          · rw [List.length_append, hsz] at hj
            have hin := World.cell?_setCells_in g (Go.byteCells s) T.length w (fun i hi => (h5 _ (by omega)).1) (j - T.length) (by omega)
            rw [show T.length + (j - T.length) = j by omega] at hin
            rw [hin, List.getElem_append_right (by omega)]
            simp [Go.byteCells]
        · exact World.isSome_setCells g _ _ w _ (h5 j hj).1
        · rw [World.frozen?_setCells]; exact (h5 j hj).2
        · rcases hy with hy | ⟨g2, cap2, rfl, y1, y2, y3, y4, y5⟩
          · exact .inl hy
          · by_cases hg : g2 = g
            · subst hg
              have hle := hf g2 _ _ _ _ rfl rfl (by omega)
              exact .inr ⟨g2, cap2, rfl, y1, by rw [setCells_size]; exact y2, y3, fun j hj => by rw [World.cell?_setCells_out g2 _ _ w ⟨g2, j, none⟩ (fun _ _ => .inl (show j < T.length by omega))]; exact y4 j hj,
                fun j hj => ⟨World.isSome_setCells g2 _ _ w _ (y5 j hj).1, by rw [World.frozen?_setCells]; exact (y5 j hj).2⟩⟩
            · exact hK.bsl (.inr ⟨g2, cap2, rfl, y1, y2, y3, y4, y5⟩) (fun k hk e => hg (by simp [Value.ownBlock] at hk; omega))
        · intro g' n1 c1 n2 c2 e1 e2 hlt
          injection e1 with e1 e3 e4
          injection e1 with e1
          injection e1 with e1
          subst e1 e3 e4
          have := hf g _ _ n2 c2 rfl e2 (by omega)
          omega
      · refine grow (some ⟨g, 0, none⟩) cap rfl (by omega) ?_
        rw [hz1]
        refine run_firstCells_some w.drew 1 T.length ⟨g, 0, none⟩ T.length cap (bs T) (by rw [bs_len, Nat.mul_one]) (fun j u hu => ?_)
        have hj : j < T.length := by have := (List.getElem?_eq_some_iff.1 hu).1; rwa [bs_len] at this
        have e : (bs T)[j]? = some (.int .u8 (T[j]).toNat) := by simp [bs, hj]
        rw [e] at hu
        rw [Addr.add_lit, Nat.zero_add]
        show w.cell? _ = _
        rw [h4 j hj]; exact hu
end Go.Proofs.YtefbioainibmaaaGreatDoor
namespace Go.Proofs.YtefbioainibmaaaGreatDoor
open Go.RowKit Go.Maps
set_option linter.unusedVariables false

abbrev FV := Value × Bs
def vals (L : List (Bs × FV)) : List (Bs × Value) := L.map fun p => (p.1, p.2.1)
def txts (L : List (Bs × FV)) : List (Bs × Bs) := L.map fun p => (p.1, p.2.2)
theorem vals_put (L : List (Bs × FV)) (n : Bs) (v : FV) : vals (kput L n v) = kput (vals L) n v.1 := (kput_map (fun x : FV => x.1) L n v).symm
theorem vals_del (L : List (Bs × FV)) (n : Bs) : vals (kdel L n) = kdel (vals L) n := (kdel_map (fun x : FV => x.1) L n).symm
theorem vals_get (L : List (Bs × FV)) (n : Bs) : kget (vals L) n = (kget L n).map (·.1) := kget_map (fun x : FV => x.1) L n
theorem txts_put (L : List (Bs × FV)) (n : Bs) (v : FV) : txts (kput L n v) = kput (txts L) n v.2 := (kput_map (fun x : FV => x.2) L n v).symm
theorem txts_del (L : List (Bs × FV)) (n : Bs) : txts (kdel L n) = kdel (txts L) n := (kdel_map (fun x : FV => x.2) L n).symm
theorem txts_get (L : List (Bs × FV)) (n : Bs) : kget (txts L) n = (kget L n).map (·.2) := kget_map (fun x : FV => x.2) L n
theorem srt_txts {L : List (Bs × FV)} : Srt (txts L) ↔ Srt L := srt_map (fun x : FV => x.2)

/-- a change -/
structure Chg where
  kind : Nat
  name : Bs
  to : Bs
  s : Bs
  long : Nat
/-- files behind a change -/
def doC (A : List (Bs × Bs)) (c : Chg) : List (Bs × Bs) :=
  if c.kind = 0 then kput A c.name ((kget A c.name).getD [] ++ c.s)
  else if c.kind = 1 then kput A c.name c.s
  else if c.kind = 2 then kdel (kput A c.to ((kget A c.name).getD [])) c.name
  else if c.kind = 3 then kdel A c.name
  else kput A c.name (((kget A c.name).getD []).take c.long)

/-- files in memory: the map, and each file's bytes in a block that no other has -/
structure FilIs (w : World) (c : Nat → Nat) (mc : Nat) (mo : Option Nat) (L : List (Bs × FV)) : Prop where
  map : MapV w mo (vals L)
  mcol : ∀ b, mo = some b → c b = mc
  row : ∀ x ∈ L, BSl w 0 x.2.1 x.2.2
  col : ∀ x ∈ L, ∀ g, x.2.1.ownBlock = some g → c g = 3
  apart : ∀ x ∈ L, ∀ y ∈ L, x.1 ≠ y.1 → ∀ g, x.2.1.ownBlock = some g → y.2.1.ownBlock ≠ some g
  srt : Srt L
/-- .. beside which y stays -/
def Safe (L : List (Bs × FV)) (y : Value) : Prop := ∀ x ∈ L, Fits x.2.1 y

theorem FilIs.keep {S : Nat → Prop} {w w' : World} {c c' : Nat → Nat} {mc : Nat} {mo : Option Nat} {L : List (Bs × FV)} (h : FilIs w c mc mo L) (k : Keep S w w') (hc : ∀ k, k < w.heap.size → c' k = c k) (h3 : ∀ k, S k → c k ≠ 3 ∧ c k ≠ mc) : FilIs w' c' mc mo L := by
  have hlt : ∀ b, mo = some b → b < w.heap.size := fun b e => by
    rcases h.map with ⟨h0, _⟩ | ⟨b', h0, hm⟩
    · rw [h0] at e; cases e
    · rw [h0] at e; injection e with e; subst e; exact hm.lt
  refine ⟨k.mapV h.map (fun g e hS => (h3 g hS).2 (h.mcol g e)), fun b e => by rw [hc b (hlt b e)]; exact h.mcol b e, fun x hx => k.bsl (h.row x hx) (fun g e hS => (h3 g hS).1 (h.col x hx g e)), fun x hx g e => ?_, h.apart, h.srt⟩
  rw [hc g (bsl_block (h.row x hx) e)]; exact h.col x hx g e
theorem FilIs.sl {w : World} {c : Nat → Nat} {mc : Nat} {mo : Option Nat} {L : List (Bs × FV)} (h : FilIs w c mc mo L) : ∀ x ∈ vals L, IsSl x.2 := by
  intro x hx
  obtain ⟨y, hy, rfl⟩ := List.mem_map.1 hx
  exact bsl_isSl (h.row y hy)

/-- the old value of a name -/
def oldV (L : List (Bs × FV)) (n : Bs) : FV := (kget L n).getD (.slice none 0 0, [])
theorem oldV_vals (L : List (Bs × FV)) (n : Bs) : (kget (vals L) n).getD (.slice none 0 0) = (oldV L n).1 := by rw [vals_get, oldV]; cases kget L n <;> rfl
theorem oldV_txts (L : List (Bs × FV)) (n : Bs) : (kget (txts L) n).getD [] = (oldV L n).2 := by rw [txts_get, oldV]; cases kget L n <;> rfl
theorem FilIs.old {w : World} {c : Nat → Nat} {mc : Nat} {mo : Option Nat} {L : List (Bs × FV)} (h : FilIs w c mc mo L) (n : Bs) : BSl w 0 (oldV L n).1 (oldV L n).2 := by
  unfold oldV
  cases hg : kget L n with
  | none => exact BSl.nil w 0
  | some v => exact h.row _ (kget_mem hg)
theorem FilIs.oldcol {w : World} {c : Nat → Nat} {mc : Nat} {mo : Option Nat} {L : List (Bs × FV)} (h : FilIs w c mc mo L) (n : Bs) : ∀ g, (oldV L n).1.ownBlock = some g → c g = 3 := by
  unfold oldV
  cases hg : kget L n with
  | none => intro g e; simp [Value.ownBlock] at e
  | some v => exact h.col _ (kget_mem hg)
theorem FilIs.oldapart {w : World} {c : Nat → Nat} {mc : Nat} {mo : Option Nat} {L : List (Bs × FV)} (h : FilIs w c mc mo L) (n : Bs) : ∀ y ∈ L, y.1 ≠ n → ∀ g, (oldV L n).1.ownBlock = some g → y.2.1.ownBlock ≠ some g := by
  unfold oldV
  cases hg : kget L n with
  | none => intro y hy hn g e; simp [Value.ownBlock] at e
  | some v => intro y hy hn g e; exact h.apart _ (kget_mem hg) y hy (fun e => hn e.symm) g e
theorem safe_old {L : List (Bs × FV)} {y : Value} (h : Safe L y) (n : Bs) : Fits (oldV L n).1 y := by
  unfold oldV
  cases hg : kget L n with
  | none => exact fits_nil y
  | some v => exact h _ (kget_mem hg)
theorem apart_fits {v y : Value} (h : ∀ g, v.ownBlock = some g → y.ownBlock ≠ some g) : Fits v y := by
  intro g n1 c1 n2 c2 e1 e2
  exact absurd (by rw [e2]; rfl) (h g (by rw [e1]; rfl))

/-- a file is laid whose bytes lie in the old one's block, or in a new one -/
theorem FilIs.put {w w1 w2 : World} {c c' : Nat → Nat} {mc : Nat} {mo : Option Nat} {L : List (Bs × FV)} (h : FilIs w c mc mo L) (n : Bs) (v : Value) (T : Bs) (b : Nat)
    (hv : BSl w1 0 v T) (hloc : v.ownBlock = (oldV L n).1.ownBlock ∨ ∃ g, v.ownBlock = some g ∧ w.heap.size ≤ g)
    (hP : ∀ y U, BSl w 0 y U → Fits (oldV L n).1 y → BSl w1 0 y U)
    {S : Nat → Prop} (k : Keep S w1 w2) (hS : ∀ k, k < w1.heap.size → S k → c' k ≠ 3) (hm : MapIs w2 b (kput (vals L) n v)) (hb : c' b = mc) (hc : ∀ k, k < w.heap.size → c' k = c k) (hn : ∀ g, v.ownBlock = some g → w.heap.size ≤ g → c' g = 3) :
    FilIs w2 c' mc (some b) (kput L n (v, T)) := by
  have hcv : ∀ g, v.ownBlock = some g → c' g = 3 := by
    intro g e
    rcases hloc with h1 | ⟨g', h1, h2⟩
    · have h3 := bsl_block (h.old n) (h1 ▸ e)
      rw [hc g h3]; exact h.oldcol n g (h1 ▸ e)
    · exact hn g e (by rw [h1] at e; injection e with e; omega)
  have hcy : ∀ y ∈ L, ∀ g, y.2.1.ownBlock = some g → c' g = 3 := fun y hy g e => by rw [hc g (bsl_block (h.row y hy) e)]; exact h.col y hy g e
  have hav : ∀ y ∈ L, y.1 ≠ n → ∀ g, v.ownBlock = some g → y.2.1.ownBlock ≠ some g := by
    intro y hy hne g e
    rcases hloc with h1 | ⟨g', h1, h2⟩
    · exact h.oldapart n y hy hne g (h1 ▸ e)
    · intro e2
      have := bsl_block (h.row y hy) e2
      rw [h1] at e; injection e with e; omega
  have hrow1 : ∀ y ∈ L, y.1 ≠ n → BSl w1 0 y.2.1 y.2.2 := fun y hy hne => hP _ _ (h.row y hy) (apart_fits (h.oldapart n y hy hne))
  refine ⟨.inr ⟨b, rfl, by rw [vals_put]; exact hm⟩, fun b' e => by injection e with e; rw [← e]; exact hb, fun x hx => ?_, fun x hx g e => ?_, fun x hx y hy hne g e => ?_, srt_kput h.srt n _⟩
  · rcases mem_kput.1 hx with rfl | ⟨hx, hne⟩
    · exact k.bsl hv (fun g e hs => hS g (bsl_block hv e) hs (hcv g e))
    · have := hrow1 x hx hne
      exact k.bsl this (fun g e hs => hS g (bsl_block this e) hs (hcy x hx g e))
  · rcases mem_kput.1 hx with rfl | ⟨hx, hne⟩
    · exact hcv g e
    · exact hcy x hx g e
  · rcases mem_kput.1 hx with rfl | ⟨hx, hxn⟩
    · rcases mem_kput.1 hy with rfl | ⟨hy, hyn⟩
      · exact absurd rfl hne
      · exact hav y hy hyn g e
    · rcases mem_kput.1 hy with rfl | ⟨hy, hyn⟩
      · intro e2; exact hav x hx hxn g e2 e
      · exact h.apart x hx y hy hne g e
end Go.Proofs.YtefbioainibmaaaGreatDoor
