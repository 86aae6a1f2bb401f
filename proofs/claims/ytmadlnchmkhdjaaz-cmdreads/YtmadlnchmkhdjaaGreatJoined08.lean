/- Joined: Pieces that are copied: the law's Piece, the program's Apart. Parts in memory. A version as the document has it, and one in memory of its own. Versions that are copied: the law's Refs, the program's apart. -/
import Derived.Test.YtmadlnchmkhdjaaGreatGApR
import Derived.Test.YtmadlnchmkhdjaaGreatJoined04
import Derived.Test.YtmadlnchmkhdjaaGreatJoined07
import Derived.Deep.RegionLaw
namespace Go.Proofs.YtmadlnchmkhdjaaGreat
open Go.RowKit Go.Maps
set_option linter.unusedVariables false
set_option linter.unusedSimpArgs false

theorem elP : ElT 22 107 2 24 := ⟨Tryz.underlying22, ⟨.agg #[.string ⟨#[]⟩, .int .i64 0], by kernel_rfl, rfl⟩, by decide⟩
theorem elRP : ElT 31 90 2 24 := ⟨Tryz.underlying31, ⟨.agg #[.string ⟨#[]⟩, .int .i64 0], by kernel_rfl, rfl⟩, by decide⟩
/-- pieces in a row that the call owns -/
def OwnP (w : World) (B t : Nat) (v : Value) (l : List Pc) : Prop := w.ownsRow B t 2 v l.length (pcsC l)
theorem OwnP.pcs {w : World} {B t : Nat} {v : Value} {l : List Pc} (h : OwnP w B t v l) : PcI w v l := RowC.own h
theorem OwnP.form {w : World} {B t : Nat} {v : Value} {l : List Pc} (h : OwnP w B t v l) : ∃ ad cap, v = .slice ad l.length cap := row_form h
theorem OwnP.next {w w' : World} {B t : Nat} {v : Value} {l : List Pc} (h : OwnP w B t v l) (hB : Below w.heap.size w w') : OwnP w' B t v l := (hB.keep (fun _ => False)).ownsRow h (fun _ _ h => h)
theorem ownP_nil (w : World) (B t : Nat) : OwnP w B t (.slice none 0 0) [] := ⟨rfl, .inl ⟨rfl, rfl⟩⟩
theorem pcC_one (p : Pc) : ∀ u ∈ pcC p, u.oneCell' = true := by intro u hu; simp [pcC] at hu; rcases hu with rfl | rfl <;> rfl
set_option maxRecDepth 100000 in
set_option maxHeartbeats 1000000 in
theorem lpiece_any (v : Value) (l : List Pc) (w : World) (hv : PcI w v l) (hl : l.length * 24 ≤ 140737488355328) : Calls Tryz.prog 24 #[v] w fun e w' => ∃ ad cap, e = .returned (.slice ad l.length cap) ∧ OwnP w' w.heap.size 90 (.slice ad l.length cap) l ∧ Below w.heap.size w w' := by
  obtain ⟨ad, cap, rfl, hc⟩ := hv.form
  have HC := hid hc
  have HL := hid hl
  have HTK : Hid (∀ (k : Nat) (hk : k < l.length), pcsC (l.take (k + 1)) = pcsC (l.take k) ++ pcC l[k]) := fun k hk => pcsC_take l k hk
  have HZ : Hid (l.take l.length = l) := List.take_length
  have HR0 : Hid (w.ownsRow w.heap.size 90 2 (.slice none 0 0) 0 (pcsC (l.take 0))) := ⟨rfl, .inl ⟨rfl, rfl⟩⟩
  clear hc hv hl
  go_enter Tryz.func24, Tryz.ntmps24
  go_wp2
  go_loopw [3, 4] (fun o i wr => ∃ (k : Nat) (ad1 : Option Addr) (cp1 : Nat), k ≤ l.length ∧ o = .slice ad1 k cp1 ∧ i = .int .i64 (k : Int) ∧ Hid (wr.ownsRow w.heap.size 90 2 (.slice ad1 k cp1) k (pcsC (l.take k))) ∧ Hid (Below w.heap.size w wr)) (fun _ i _ => l.length - (intOf i).toNat)
  case atStart => exact ⟨0, none, 0, Nat.zero_le _, rfl, rfl, HR0, Below.refl _ _⟩
  case round =>
    clear HR0
    obtain ⟨k, ad1, cp1, hk, rfl, rfl, HR, HB⟩ := hrel
    by_cases hlt : k < l.length
    · have hk1 : (k : Int) < (l.length : Int) := by omega
      have hk0 : (0 : Int) ≤ (k : Int) := by omega
      obtain ⟨b, off, rfl, hb, c0, c1⟩ := HC.out k hlt
      have d0 := (HB.out.cell (p := ⟨b, off + k * 2, none⟩) hb).trans c0
      have d1 := (HB.out.cell (p := ⟨b, off + k * 2 + 1, none⟩) hb).trans c1
      have hwk : wrap64 ((k : Int) + 1) = ((k + 1 : Nat) : Int) := by have := HL.out; rw [IntWalk.wrap64_in _ (by omega)]; omega
      have HPL := hid (HTK.out k hlt)
      have HO1 := hid (pcC_one l[k])
      have HX1 : Hid (pcC l[k] = [.string l[k].id, .int .i64 l[k].sz]) := rfl
      have HX2 : Hid ((pcC l[k]).length = 1 * 2) := rfl
      have HB1 : Hid (k + 1 ≤ 4611686018427387904) := by have := HL.out; show _ ≤ _; omega
      have HB2 : Hid ((k + 1) * 24 ≤ 140737488355328) := by have := HL.out; show _ ≤ _; omega
      have HLT := hid hlt
      generalize l[k] = p at *
      obtain ⟨id, sz⟩ := p
      simp only at d0 d1 HX1
      generalize pcC ⟨id, sz⟩ = XS at *
      have HGA : Hid ((wr.alloc (.cells #[.string id, .int .i64 sz] 90)).ownsRow w.heap.size 90 2 (.slice ad1 k cp1) k (pcsC (l.take k))) := (keep_alloc (fun _ => False) _ _).ownsRow HR.out (fun _ _ h => h)
      have HGX : Hid (GSrc (wr.alloc (.cells #[.string id, .int .i64 sz] 90)) (.slice (some ⟨wr.heap.size, 0, none⟩) 1 1) 1 XS) := by
        rw [HX1.out]; exact gsrc_block (heap_alloc_new _ _)
      have HSZ : Hid (w.heap.size ≤ (wr.alloc (.cells #[.string id, .int .i64 sz] 90)).heap.size) := Nat.le_trans HB.out.size (keep_alloc (fun _ => False) _ _).size
      have FIN : Hid (∀ ad' cap' w', w'.ownsRow w.heap.size 90 2 (.slice ad' (k + 1) cap') (k + 1) (pcsC (l.take k) ++ XS) → Keep (fun j => (Value.slice ad1 k cp1).ownBlock = some j) (wr.alloc (.cells #[.string id, .int .i64 sz] 90)) w' → Hid (w'.ownsRow w.heap.size 90 2 (.slice ad' (k + 1) cap') (k + 1) (pcsC (l.take (k + 1)))) ∧ Hid (Below w.heap.size w w')) := fun ad' cap' w' hr hk' => by
        refine ⟨?_, (below_al HB.out _).trans (keep_below hk' (fun j hj e => by have := ownsRow_ge HR.out e; omega) HSZ.out)⟩
        show World.ownsRow _ _ _ _ _ _ _
        rw [HPL.out]; exact hr
      clear HC HTK HZ c0 c1 hb HL HR HPL HX1 hlt hk
      go_wp2_with (at_builtin; refine wpl_gappL rfl _ _ elRP rfl w.heap.size (.slice ad1 k cp1) (.slice (some ⟨wr.heap.size, 0, none⟩) 1 1) (pcsC (l.take k)) XS k 1 (k + 1) rfl rfl rfl HGA.out HSZ.out HGX.out HX2.out HO1.out HB1.out HB2.out ?_; intro ad' cap' w' hr' hk')
      obtain ⟨F1, F2⟩ := FIN.out _ _ _ hr' hk'
      clear hr' hk' FIN HGA HGX HSZ d0 d1
      go_wp2
      exact ⟨⟨k + 1, _, _, HLT.out, rfl, by first | rw [hwk] | rfl | simp, F1, F2⟩, by (try rw [hwk]); have := HLT.out; simp [intOf]; omega⟩
    · have hke : k = l.length := by omega
      have hd : decide ((k : Int) < (l.length : Int)) = false := decide_eq_false (by omega)
      have hd2 : decide (k < l.length) = false := decide_eq_false hlt
      have HF : Hid (wr.ownsRow w.heap.size 90 2 (.slice ad1 k cp1) l.length (pcsC l)) := by
        have := HR.out
        rw [hke, HZ.out] at this
        rw [hke]
        exact this
      have HKE := hid hke
      clear HC HTK HZ HR HL hke hlt hk
      go_wp2
      go_ret
      refine ⟨ad1, cp1, ?_, ?_, HB.out⟩
      · rw [HKE.out]; rfl
      · have := HF.out; rw [HKE.out] at this; exact this
end Go.Proofs.YtmadlnchmkhdjaaGreat
namespace Go.Proofs.YtmadlnchmkhdjaaGreat
open Go.RowKit Go.Maps
set_option linter.unusedVariables false
set_option linter.unusedSimpArgs false

def ptC (y : Value × Pt) : List Value := [.int .i64 y.2.n, .int .i64 y.2.sz, .string y.2.sum, y.1]
def tqC (q : List (Value × Pt)) : List Value := q.flatMap ptC
def tqL (q : List (Value × Pt)) : List Pt := q.map (·.2)
theorem tqL_len (q : List (Value × Pt)) : (tqL q).length = q.length := List.length_map ..
theorem tqC_get (q : List (Value × Pt)) (k : Nat) (hk : k < q.length) (i : Nat) (hi : i < 4) : (tqC q)[k * 4 + i]? = (ptC q[k])[i]? := flat_get ptC 4 q (fun _ _ => rfl) k hk i hi
theorem tqC_len (q : List (Value × Pt)) : (tqC q).length = q.length * 4 := by
  induction q with
  | nil => rfl
  | cons p r ih => simp only [tqC, List.flatMap_cons, List.length_append, List.length_cons] at ih ⊢; rw [ih]; simp [ptC]; omega
theorem tqC_app (q r : List (Value × Pt)) : tqC (q ++ r) = tqC q ++ tqC r := List.flatMap_append
theorem tqC_one (y : Value × Pt) : tqC [y] = ptC y := by simp [tqC]
theorem tqL_app (q r : List (Value × Pt)) : tqL (q ++ r) = tqL q ++ tqL r := List.map_append
theorem tqL_get (q : List (Value × Pt)) (k : Nat) (hk : k < q.length) : (tqL q)[k]'(by rw [tqL_len]; exact hk) = q[k].2 := by simp [tqL]
theorem tq_mem {q : List (Value × Pt)} {y : Value × Pt} (h : y ∈ q) : y.2 ∈ tqL q := List.mem_map.2 ⟨y, h, rfl⟩
/-- the pieces of each lie in memory -/
def TqP (w : World) (q : List (Value × Pt)) : Prop := ∀ y ∈ q, PcI w y.1 y.2.ps
theorem TqP.next {w w' : World} {q : List (Value × Pt)} (h : TqP w q) (hB : Below w.heap.size w w') : TqP w' q := fun y hy => (h y hy).next hB
/-- parts in memory -/
def PtI (w : World) (v : Value) (q : List (Value × Pt)) : Prop := RowC w v q.length (tqC q) ∧ TqP w q
theorem PtI.next {w w' : World} {v : Value} {q : List (Value × Pt)} (h : PtI w v q) (hB : Below w.heap.size w w') : PtI w' v q := ⟨RowC.next h.1 hB, h.2.next hB⟩
theorem PtI.form {w : World} {v : Value} {q : List (Value × Pt)} (h : PtI w v q) : ∃ ad cap, v = .slice ad q.length cap ∧ ∀ k (hk : k < q.length), ∃ b off, ad = some ⟨b, off, none⟩ ∧ b < w.heap.size ∧ w.cell? ⟨b, off + k * 4, none⟩ = some (.int .i64 q[k].2.n) ∧ w.cell? ⟨b, off + k * 4 + 1, none⟩ = some (.int .i64 q[k].2.sz) ∧ w.cell? ⟨b, off + k * 4 + 2, none⟩ = some (.string q[k].2.sum) ∧ w.cell? ⟨b, off + k * 4 + 3, none⟩ = some q[k].1 ∧ PcI w q[k].1 q[k].2.ps := by
  obtain ⟨h1, h2⟩ := h
  rcases h1 with ⟨ad, cap, rfl, h0, _⟩ | ⟨b, off, cap, rfl, _, hb, hc⟩
  · exact ⟨ad, cap, by rw [h0], fun k hk => by omega⟩
  · refine ⟨_, cap, rfl, fun k hk => ⟨b, off, rfl, hb, ?_, ?_, ?_, ?_, h2 _ (List.getElem_mem hk)⟩⟩
    · have := hc (k * 4 + 0) _ (tqC_get q k hk 0 (by omega)); exact this
    · have := hc (k * 4 + 1) _ (tqC_get q k hk 1 (by omega)); rw [← Nat.add_assoc] at this; exact this
    · have := hc (k * 4 + 2) _ (tqC_get q k hk 2 (by omega)); rw [← Nat.add_assoc] at this; exact this
    · have := hc (k * 4 + 3) _ (tqC_get q k hk 3 (by omega)); rw [← Nat.add_assoc] at this; exact this
theorem pti_none (w : World) : PtI w (.slice none 0 0) [] := ⟨.inl ⟨none, 0, rfl, rfl, rfl⟩, fun y hy => by cases hy⟩
/-- parts in a row that the call owns, with their pieces -/
def OwnT (W : World) (B tv tp : Nat) (v : Value) (q : List (Value × Pt)) : Prop := W.ownsRow B tv 4 v q.length (tqC q) ∧ ∀ y ∈ q, OwnP W B tp y.1 y.2.ps
theorem OwnT.next {W W' : World} {B tv tp : Nat} {v : Value} {q : List (Value × Pt)} (h : OwnT W B tv tp v q) (hb : Below W.heap.size W W') : OwnT W' B tv tp v q := ⟨(hb.keep (fun _ => False)).ownsRow h.1 (fun _ _ h => h), fun y hy => (h.2 y hy).next hb⟩
theorem OwnT.pt {W : World} {B tv tp : Nat} {v : Value} {q : List (Value × Pt)} (h : OwnT W B tv tp v q) : PtI W v q := ⟨RowC.own h.1, fun y hy => (h.2 y hy).pcs⟩
theorem ownT_nil (W : World) (B tv tp : Nat) : OwnT W B tv tp (.slice none 0 0) [] := ⟨⟨rfl, .inl ⟨rfl, rfl⟩⟩, fun y hy => by cases hy⟩
theorem OwnT.app {W W' : World} {B tv tp : Nat} {v v' : Value} {q : List (Value × Pt)} {y : Value × Pt} (h : OwnT W B tv tp v q) (hy : OwnP W B tp y.1 y.2.ps) (hne : tp ≠ tv) (hr : W'.ownsRow B tv 4 v' (q.length + 1) (tqC q ++ ptC y)) (hk : Keep (fun j => v.ownBlock = some j) W W') : OwnT W' B tv tp v' (q ++ [y]) := by
  refine ⟨?_, fun z hz => ?_⟩
  · rw [tqC_app, tqC_one, List.length_append, List.length_singleton]
    exact hr
  · rcases List.mem_append.1 hz with hz | hz
    · exact hk.ownsRow (h.2 z hz) (fun g hg e => rows_apart2 (h.2 z hz) h.1 hne hg e)
    · rw [List.mem_singleton.1 hz]
      exact hk.ownsRow hy (fun g hg e => rows_apart2 hy h.1 hne hg e)
theorem ptC_cell (ad : Option Addr) (n cap : Nat) (x : Pt) : ∀ u ∈ ptC (.slice ad n cap, x), u.oneCell' = true := by
  intro u hu
  simp [ptC] at hu
  rcases hu with rfl | rfl | rfl | rfl <;> rfl
/-- parts whose numbers rise -/
def ptAbove (p : Option Int) (x : Int) : Bool := match p with | none => true | some y => decide (y < x)
def ptF : Option Int → List Pt → Bool
  | _, [] => true
  | p, v :: r => ptOk v && ptAbove p v.n && ptF (some v.n) r
def arePt (l : List Pt) : Bool := ptF none l
def prevT (l : List Pt) (k : Nat) : Option Int := if k = 0 then none else (l[k - 1]?).map (·.n)
theorem prevT_succ (l : List Pt) (k : Nat) (hk : k < l.length) : prevT l (k + 1) = some l[k].n := by simp [prevT, hk]
theorem ptF_at (l : List Pt) (k : Nat) (hk : k < l.length) : ptF (prevT l k) (l.drop k) = (ptOk l[k] && ptAbove (prevT l k) l[k].n && ptF (prevT l (k + 1)) (l.drop (k + 1))) := by
  rw [List.drop_eq_getElem_cons hk, prevT_succ l k hk]; rfl
end Go.Proofs.YtmadlnchmkhdjaaGreat
namespace Go.Proofs.YtmadlnchmkhdjaaGreat
open Go.RowKit Go.Maps
set_option linter.unusedVariables false
set_option linter.unusedSimpArgs false

/-- a box and a result's cell -/
structure Tb (w : World) (cs zs : List Value) (t1 t2 : TypeId) (W : World) : Prop where
  row : RowIs W w.heap.size cs t1
  res : RowIs W (w.heap.size + 1) zs t2
  b : Below w.heap.size w W
theorem Tb.next {w W W' : World} {cs zs : List Value} {t1 t2 : TypeId} (h : Tb w cs zs t1 t2 W) (hb : Below W.heap.size W W') : Tb w cs zs t1 t2 W' :=
  ⟨h.row.keep (hb.keep (fun _ => False)) (fun h => h), h.res.keep (hb.keep (fun _ => False)) (fun h => h), below_on h.b hb⟩
theorem Tb.drew {w W : World} {cs zs : List Value} {t1 t2 : TypeId} (h : Tb w cs zs t1 t2 W) : Tb w cs zs t1 t2 W.drew := ⟨h.row, h.res, h.b.drew⟩
theorem Tb.al {w W : World} {cs zs : List Value} {t1 t2 : TypeId} (h : Tb w cs zs t1 t2 W) (o : Obj) : Tb w cs zs t1 t2 (W.alloc o) := h.next ((Below.refl _ _).alloc (Nat.le_refl _) o)
theorem Tb.made (w : World) (cs zs : List Value) (t1 t2 : TypeId) : Tb w cs zs t1 t2 ((w.alloc (.cells cs.toArray t1)).alloc (.cells zs.toArray t2)) := by
  have hsz : (w.alloc (.cells cs.toArray t1)).heap.size = w.heap.size + 1 := by simp
  refine ⟨row_old (srow w cs t1) _, ?_, below_al (below_al (Below.refl _ _) _) _⟩
  rw [← hsz]
  exact srow _ zs t2
theorem five {W : World} {g : Nat} {v0 v1 v2 v3 v4 x0 x1 x2 x3 x4 : Value} {t : TypeId} (h : RowIs W g [v0, v1, v2, v3, v4] t) : RowIs (((((W.setCell ⟨g, 0, none⟩ x0).setCell ⟨g, 1, none⟩ x1).setCell ⟨g, 2, none⟩ x2).setCell ⟨g, 3, none⟩ x3).setCell ⟨g, 4, none⟩ x4) g [x0, x1, x2, x3, x4] t ∧ Keep (· = g) W (((((W.setCell ⟨g, 0, none⟩ x0).setCell ⟨g, 1, none⟩ x1).setCell ⟨g, 2, none⟩ x2).setCell ⟨g, 3, none⟩ x3).setCell ⟨g, 4, none⟩ x4) :=
  ⟨((((h.set 0 x0).set 1 x1).set 2 x2).set 3 x3).set 4 x4, ((((keep_setCell _ _ _ _).trans (keep_setCell _ _ _ _)).trans (keep_setCell _ _ _ _)).trans (keep_setCell _ _ _ _)).trans (keep_setCell _ _ _ _)⟩
/-- the result's cell set -/
theorem Tb.done {w W : World} {cs : List Value} {t1 t2 : TypeId} {z0 z1 z2 z3 z4 : Value} (h : Tb w cs [z0, z1, z2, z3, z4] t1 t2 W) (x0 x1 x2 x3 x4 : Value) : RowIs (((((W.setCell ⟨w.heap.size + 1, 0, none⟩ x0).setCell ⟨w.heap.size + 1, 1, none⟩ x1).setCell ⟨w.heap.size + 1, 2, none⟩ x2).setCell ⟨w.heap.size + 1, 3, none⟩ x3).setCell ⟨w.heap.size + 1, 4, none⟩ x4) (w.heap.size + 1) [x0, x1, x2, x3, x4] t2 ∧ Below w.heap.size w (((((W.setCell ⟨w.heap.size + 1, 0, none⟩ x0).setCell ⟨w.heap.size + 1, 1, none⟩ x1).setCell ⟨w.heap.size + 1, 2, none⟩ x2).setCell ⟨w.heap.size + 1, 3, none⟩ x3).setCell ⟨w.heap.size + 1, 4, none⟩ x4) ∧ Keep (· = w.heap.size + 1) W (((((W.setCell ⟨w.heap.size + 1, 0, none⟩ x0).setCell ⟨w.heap.size + 1, 1, none⟩ x1).setCell ⟨w.heap.size + 1, 2, none⟩ x2).setCell ⟨w.heap.size + 1, 3, none⟩ x3).setCell ⟨w.heap.size + 1, 4, none⟩ x4) := by
  have f := five h.res (x0 := x0) (x1 := x1) (x2 := x2) (x3 := x3) (x4 := x4)
  exact ⟨f.1, h.b.trans (keep_below f.2 (fun k hk e => by omega) h.b.size), f.2⟩
/-- the box's five cells -/
theorem Tb.five {w W : World} {zs : List Value} {t1 t2 : TypeId} {x0 x1 x2 x3 x4 : Value} (h : Tb w [x0, x1, x2, x3, x4] zs t1 t2 W) : W.cell? ⟨w.heap.size, 0, none⟩ = some x0 ∧ W.cell? ⟨w.heap.size, 1, none⟩ = some x1 ∧ W.cell? ⟨w.heap.size, 2, none⟩ = some x2 ∧ W.cell? ⟨w.heap.size, 3, none⟩ = some x3 ∧ W.cell? ⟨w.heap.size, 4, none⟩ = some x4 :=
  ⟨h.row.cellAt rfl, h.row.cellAt rfl, h.row.cellAt rfl, h.row.cellAt rfl, h.row.cellAt rfl⟩
/-- the result's five cells may be set -/
theorem Tb.may {w W : World} {cs : List Value} {t1 t2 : TypeId} {z0 z1 z2 z3 z4 : Value} (h : Tb w cs [z0, z1, z2, z3, z4] t1 t2 W) : (W.cell? ⟨w.heap.size + 1, 0, none⟩ = some z0 ∧ W.cell? ⟨w.heap.size + 1, 1, none⟩ = some z1 ∧ W.cell? ⟨w.heap.size + 1, 2, none⟩ = some z2 ∧ W.cell? ⟨w.heap.size + 1, 3, none⟩ = some z3 ∧ W.cell? ⟨w.heap.size + 1, 4, none⟩ = some z4) ∧ (W.frozen? ⟨w.heap.size + 1, 0, none⟩ = false ∧ W.frozen? ⟨w.heap.size + 1, 1, none⟩ = false ∧ W.frozen? ⟨w.heap.size + 1, 2, none⟩ = false ∧ W.frozen? ⟨w.heap.size + 1, 3, none⟩ = false ∧ W.frozen? ⟨w.heap.size + 1, 4, none⟩ = false) :=
  ⟨⟨h.res.cellAt rfl, h.res.cellAt rfl, h.res.cellAt rfl, h.res.cellAt rfl, h.res.cellAt rfl⟩, h.res.frozen, h.res.frozen, h.res.frozen, h.res.frozen, h.res.frozen⟩
/-- behind the store -/
theorem Tb.set {w W : World} {cs : List Value} {t1 t2 : TypeId} {z0 z1 z2 z3 z4 : Value} (h : Tb w cs [z0, z1, z2, z3, z4] t1 t2 W) (x0 x1 x2 x3 x4 : Value) : Tb w cs [x0, x1, x2, x3, x4] t1 t2 (((((W.setCell ⟨w.heap.size + 1, 0, none⟩ x0).setCell ⟨w.heap.size + 1, 1, none⟩ x1).setCell ⟨w.heap.size + 1, 2, none⟩ x2).setCell ⟨w.heap.size + 1, 3, none⟩ x3).setCell ⟨w.heap.size + 1, 4, none⟩ x4) := by
  have d := h.done x0 x1 x2 x3 x4
  exact ⟨h.row.keep d.2.2 (by omega), d.1, d.2.1⟩
/-- a cell of the box set -/
theorem Tb.put {w W : World} {cs zs : List Value} {t1 t2 : TypeId} (h : Tb w cs zs t1 t2 W) (i : Nat) (x : Value) : Tb w (cs.set i x) zs t1 t2 (W.setCell ⟨w.heap.size, i, none⟩ x) := by
  have kS := keep_setCell W w.heap.size i x
  exact ⟨h.row.set i x, h.res.keep kS (by omega), h.b.trans (keep_below kS (fun k hk e => by omega) h.b.size)⟩
end Go.Proofs.YtmadlnchmkhdjaaGreat
namespace Go.Proofs.YtmadlnchmkhdjaaGreat
open Go.RowKit Go.Maps
set_option linter.unusedVariables false
set_option linter.unusedSimpArgs false

/-- versions in a row that the call owns, with their pieces -/
def OwnQ (W : World) (B tv tp : Nat) (v : Value) (q : List (Value × Vn)) : Prop := W.ownsRow B tv 5 v q.length (vqC q) ∧ ∀ y ∈ q, OwnP W B tp y.1 y.2.ps
theorem OwnQ.next {W W' : World} {B tv tp : Nat} {v : Value} {q : List (Value × Vn)} (h : OwnQ W B tv tp v q) (hb : Below W.heap.size W W') : OwnQ W' B tv tp v q := ⟨(hb.keep (fun _ => False)).ownsRow h.1 (fun _ _ h => h), fun y hy => (h.2 y hy).next hb⟩
theorem OwnQ.vn {W : World} {B tv tp : Nat} {v : Value} {q : List (Value × Vn)} (h : OwnQ W B tv tp v q) : VnI W v q := ⟨RowC.own h.1, fun y hy => (h.2 y hy).pcs⟩
theorem ownQ_nil (W : World) (B tv tp : Nat) : OwnQ W B tv tp (.slice none 0 0) [] := ⟨⟨rfl, .inl ⟨rfl, rfl⟩⟩, fun y hy => by cases hy⟩
theorem OwnQ.app {W W' : World} {B tv tp : Nat} {v v' : Value} {q : List (Value × Vn)} {y : Value × Vn} (h : OwnQ W B tv tp v q) (hy : OwnP W B tp y.1 y.2.ps) (hne : tp ≠ tv) (hr : W'.ownsRow B tv 5 v' (q.length + 1) (vqC q ++ vnC y)) (hk : Keep (fun j => v.ownBlock = some j) W W') : OwnQ W' B tv tp v' (q ++ [y]) := by
  refine ⟨?_, fun z hz => ?_⟩
  · rw [vqC_app, vqC_one, List.length_append, List.length_singleton]
    exact hr
  · rcases List.mem_append.1 hz with hz | hz
    · exact hk.ownsRow (h.2 z hz) (fun g hg e => rows_apart2 (h.2 z hz) h.1 hne hg e)
    · rw [List.mem_singleton.1 hz]
      exact hk.ownsRow hy (fun g hg e => rows_apart2 hy h.1 hne hg e)
theorem vnC_one (ad : Option Addr) (n cap : Nat) (x : Vn) : ∀ u ∈ vnC (.slice ad n cap, x), u.oneCell' = true := by
  intro u hu
  simp [vnC] at hu
  rcases hu with rfl | rfl | rfl | rfl | rfl <;> rfl
end Go.Proofs.YtmadlnchmkhdjaaGreat
