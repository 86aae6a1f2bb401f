/- Joined: Pieces and versions that a reader takes; the program's walk over pieces. A version that a reader takes: the program's walk. The chain that a text says: the program's walk. Pieces that a reader takes: the reference's walk. -/
import Derived.Test.YtmadlnchmkhdjaaGreatJoined17
import Derived.Test.YtmadlnchmkhdjaaGreatCvT
import Derived.Test.YtmadlnchmkhdjaaGreatJoined15
import Derived.Test.YtmadlnchmkhdjaaGreatJoined14
import Derived.Test.YtmadlnchmkhdjaaGreatJoined16
import Derived.Laws.ResultCell
namespace Go.Proofs.YtmadlnchmkhdjaaGreat
open Go.RowKit Go.Maps
set_option linter.unusedVariables false
set_option linter.unusedSimpArgs false

/-- a reader behind some pieces, and these -/
structure DpR where
  a : Int
  e : Int
  l : List Pc
def dcP (s : ByteArray) : Nat → Int → Int → DpR
  | 0, a, e => ⟨a, e, []⟩
  | j + 1, a, e =>
    let t := tS s a e 64
    let n := dcN s 4096 t.a t.e
    let r := dcP s j n.a n.e
    ⟨r.a, r.e, ⟨t.x, (n.n : Int)⟩ :: r.l⟩
def rdP (s : ByteArray) (a e : Int) : DpR := dcP s (dcN s 512 a e).n (dcN s 512 a e).a (dcN s 512 a e).e
/-- a truth that a reader takes -/
def dcF (s : ByteArray) (a e : Int) : St := nS s a e (fitBl (rdAt s a).n) 3
/-- a reader behind a version, and this -/
structure DvR where
  a : Int
  e : Int
  v : Vn
def rdV (s : ByteArray) (a e : Int) : DvR :=
  let i := dcN s 1099511627776 a e
  let f := dcF s i.a i.e
  if ((f.n : Int) == 1) = true then ⟨f.a, f.e, ⟨i.n, true, 0, ⟨#[]⟩, []⟩⟩ else
  let p := rdP s f.a f.e
  let t := tS s p.a p.e 64
  ⟨t.a, t.e, ⟨i.n, false, pcV p.l, t.x, p.l⟩⟩
/-- a reader behind some versions, and these -/
structure DwR where
  a : Int
  e : Int
  l : List Vn
def dcV (s : ByteArray) : Nat → Int → Int → DwR
  | 0, a, e => ⟨a, e, []⟩
  | j + 1, a, e =>
    let t := rdV s a e
    let r := dcV s j t.a t.e
    ⟨r.a, r.e, t.v :: r.l⟩
def cdT (s : ByteArray) : DwR := dcV s (dcN s 32 0 0).n (dcN s 32 0 0).a (dcN s 32 0 0).e
def cdOk (s : ByteArray) : Bool := (endE s (cdT s).a (cdT s).e == 0) && isCh (cdT s).l
def cdV (s : ByteArray) : List Vn := if cdOk s = true then (cdT s).l else []
def cdE (s : ByteArray) : Int := if cdOk s = true then 0 else 3
theorem dcP_len (s : ByteArray) : ∀ (j : Nat) (a e : Int), (dcP s j a e).l.length = j
  | 0, _, _ => rfl
  | j + 1, a, e => by simp only [dcP, List.length_cons]; rw [dcP_len s j]
theorem dcP_ids (s : ByteArray) : ∀ (j : Nat) (a e : Int), ∀ p ∈ (dcP s j a e).l, p.id.size ≤ 64
  | 0, _, _, p, hp => by simp [dcP] at hp
  | j + 1, a, e, p, hp => by
    simp only [dcP, List.mem_cons] at hp
    rcases hp with rfl | hp
    · have := tS_len s a e 64 (by omega); simp only; omega
    · exact dcP_ids s j _ _ p hp
theorem rdP_len (s : ByteArray) (a e : Int) : (rdP s a e).l.length ≤ 512 := by
  unfold rdP
  rw [dcP_len]
  have := dcN_le s 512 a e (by omega)
  omega
theorem rdP_ids (s : ByteArray) (a e : Int) : ∀ p ∈ (rdP s a e).l, p.id.size ≤ 64 := dcP_ids s _ _ _
/-- a reader at g, and pieces in a row behind it -/
structure PrS (w : World) (g : Nat) (s : ByteArray) (a e : Int) (v : Value) (acc : List Pc) (W : World) : Prop where
  rd : RdAt W g s a e
  own : OwnP W w.heap.size 107 v acc
  on : Only g w W
  lt : g < w.heap.size
theorem PrS.read {w W W' : World} {g : Nat} {s : ByteArray} {a e a' e' : Int} {v : Value} {acc : List Pc} (h : PrS w g s a e v acc W) (hr : RdAt W' g s a' e') (ho : Only g W W') : PrS w g s a' e' v acc W' :=
  ⟨hr, ho.keep.ownsRow h.own (fun k hk e => by have := ownsRow_ge h.own hk; have := h.lt; omega), h.on.trans ho, h.lt⟩
theorem PrS.al {w W : World} {g : Nat} {s : ByteArray} {a e : Int} {v : Value} {acc : List Pc} (h : PrS w g s a e v acc W) (o : Obj) : PrS w g s a e v acc (W.alloc o) :=
  h.read (h.rd.keeps ((Below.refl _ _).alloc (Nat.le_refl _) o)) (((Below.refl _ _).alloc (Nat.le_refl _) o).only g)
theorem PrS.app {w W W' : World} {g : Nat} {s : ByteArray} {a e : Int} {v v' : Value} {acc acc' : List Pc} (h : PrS w g s a e v acc W) (ho : OwnP W' w.heap.size 107 v' acc') (hk : Keep (fun k => v.ownBlock = some k) W W') : PrS w g s a e v' acc' W' := by
  have hge := fun k (e : v.ownBlock = some k) => ownsRow_ge h.own e
  have hl := h.lt
  exact ⟨h.rd.same (hk.block _ (rd_lt h.rd) (fun e => by have := hge _ e; omega)), ho, ⟨hk.os.trans h.on.os, hk.tape.trans h.on.tape, hk.output.trans h.on.output, Nat.le_trans h.on.size hk.size, fun k hk' hg => (hk.block k (Nat.lt_of_lt_of_le hk' h.on.size) (fun e => by have := hge _ e; omega)).trans (h.on.block k hk' hg)⟩, h.lt⟩
set_option maxRecDepth 100000 in
set_option maxHeartbeats 2000000 in
theorem pread_any (g : Nat) (t : ByteArray) (a0 e0 : Int) (w : World) (h : RdAt w g t a0 e0) (hs : t.size ≤ 140737488355328) : Calls Tryz.prog 83 #[.pointer (some ⟨g, 0, none⟩)] w fun r w' => ∃ ad cap, r = .returned (.slice ad (rdP t a0 e0).l.length cap) ∧ PrS w g t (rdP t a0 e0).a (rdP t a0 e0).e (.slice ad (rdP t a0 e0).l.length cap) (rdP t a0 e0).l w' := by
  have hsm : t.size ≤ maxLen := by unfold maxLen; omega
  have RI : Hid (∀ (m a e : Int) (W : World), RdAt W g t a e → m ≤ 9223372036854775807 → Calls Tryz.prog 54 #[.pointer (some ⟨g, 0, none⟩), .int .i64 m] W fun r w' => r = .returned (.int .i64 (dcN t m a e).n) ∧ RdAt w' g t (dcN t m a e).a (dcN t m a e).e ∧ Only g W w') := fun m a e W h hm => rd_int g t a e m W h hsm hm (nS_int t a e m hm)
  have RT : Hid (∀ (a e : Int) (W : World), RdAt W g t a e → Calls Tryz.prog 55 #[.pointer (some ⟨g, 0, none⟩), .int .i64 64] W fun r w' => r = .returned (.string (tS t a e 64).x) ∧ RdAt w' g t (tS t a e 64).a (tS t a e 64).e ∧ Only g W w') := fun a e W h => rd_text g t a e 64 W h hs
  obtain ⟨N, hN⟩ : ∃ N, N = dcN t 512 a0 e0 := ⟨_, rfl⟩
  have RN := hid (fun W h => RI.out 512 a0 e0 W h (by omega))
  have HN5 := hid (dcN_le t 512 a0 e0 (by omega))
  have HM : Hid (rdP t a0 e0 = dcP t (N.n - 0) N.a N.e) := by show _ = _; rw [hN]; rfl
  rw [← hN] at RN HN5
  have H0 : Hid (PrS w g t a0 e0 (.slice none 0 0) [] w) := ⟨h, ownP_nil _ _ _, Only.refl _ _, rd_lt h⟩
  obtain ⟨na, ne, n0⟩ := N
  simp only at *
  clear hs hsm hN h
  generalize rdP t a0 e0 = M at *
  go_enter Tryz.func83, Tryz.ntmps83
  go_wp2_with fail
  refine (RN.out _ H0.out.rd).mono ?_
  rintro e w1 ⟨rfl, h1, o1⟩
  have H1 := hid (H0.out.read h1 o1)
  clear h1 o1 RN H0
  go_wp2
  go_loopw [3, 6] (fun o i wr => ∃ (k : Nat) (acc : List Pc) (ad : Option Addr) (cap : Nat) (a e : Int), k ≤ n0 ∧ o = .slice ad k cap ∧ i = .int .i64 (k : Int) ∧ Hid (acc.length = k) ∧ Hid (PrS w g t a e (.slice ad k cap) acc wr) ∧ Hid (M = ⟨(dcP t (n0 - k) a e).a, (dcP t (n0 - k) a e).e, acc ++ (dcP t (n0 - k) a e).l⟩)) (fun _ i _ => n0 - (intOf i).toNat)
  case atStart => exact ⟨0, [], none, 0, na, ne, Nat.zero_le _, rfl, rfl, rfl, H1, HM⟩
  case round =>
    clear H1 HM
    obtain ⟨k, acc, ad, cap, a, e, hk, rfl, rfl, HA, HS, HM⟩ := hrel
    by_cases hlt : k < n0
    · have hk1 : (k : Int) < (n0 : Int) := by omega
      have hk5 : k < 512 := by have := HN5.out; omega
      have hwk : wrap64 ((k : Int) + 1) = ((k + 1 : Nat) : Int) := by rw [IntWalk.wrap64_in _ (by omega)]; omega
      have RX := hid (fun W h => RT.out a e W h)
      have RY := hid (fun W h => RI.out 4096 (tS t a e 64).a (tS t a e 64).e W h (by omega))
      have HM2 : Hid (M = ⟨(dcP t (n0 - (k + 1)) (dcN t 4096 (tS t a e 64).a (tS t a e 64).e).a (dcN t 4096 (tS t a e 64).a (tS t a e 64).e).e).a, (dcP t (n0 - (k + 1)) (dcN t 4096 (tS t a e 64).a (tS t a e 64).e).a (dcN t 4096 (tS t a e 64).a (tS t a e 64).e).e).e, (acc ++ [⟨(tS t a e 64).x, ((dcN t 4096 (tS t a e 64).a (tS t a e 64).e).n : Int)⟩]) ++ (dcP t (n0 - (k + 1)) (dcN t 4096 (tS t a e 64).a (tS t a e 64).e).a (dcN t 4096 (tS t a e 64).a (tS t a e 64).e).e).l⟩) := by
        show _ = _
        rw [HM.out, show n0 - k = (n0 - (k + 1)) + 1 by omega]
        simp only [dcP, List.append_assoc, List.singleton_append]
      generalize hX : tS t a e 64 = X at *
      generalize hY : dcN t 4096 X.a X.e = Y at *
      obtain ⟨xa, xe, xx⟩ := X
      obtain ⟨ya, ye, yn⟩ := Y
      simp only at *
      have HLT := hid hlt
      clear hX hY HM RT RI HN5 hlt hk
      go_wp2_with fail
      refine (RX.out _ HS.out.rd).mono ?_
      rintro e' w2 ⟨rfl, h2, o2⟩
      have H2 := hid (HS.out.read h2 o2)
      clear h2 o2 RX HS
      go_wp2_with fail
      refine (RY.out _ H2.out.rd).mono ?_
      rintro e' w3 ⟨rfl, h3, o3⟩
      have H3 := hid (H2.out.read h3 o3)
      clear h3 o3 RY H2
      have H4 := hid (H3.out.al (.cells #[.string xx, .int .i64 (yn : Int)] 107))
      have HGA : Hid ((w3.alloc (.cells #[.string xx, .int .i64 (yn : Int)] 107)).ownsRow w.heap.size 107 2 (.slice ad k cap) k (pcsC acc)) := by have := H4.out.own; unfold OwnP at this; rw [HA.out] at this; exact this
      have HGX : Hid (GSrc (w3.alloc (.cells #[.string xx, .int .i64 (yn : Int)] 107)) (.slice (some ⟨w3.heap.size, 0, none⟩) 1 1) 1 (pcC ⟨xx, yn⟩)) := gsrc_block (heap_alloc_new _ _)
      have HSZ : Hid (w.heap.size ≤ (w3.alloc (.cells #[.string xx, .int .i64 (yn : Int)] 107)).heap.size) := H4.out.on.size
      have HO1 := hid (pcC_one ⟨xx, yn⟩)
      have HX2 : Hid ((pcC ⟨xx, yn⟩).length = 1 * 2) := rfl
      have HB1 : Hid (k + 1 ≤ 4611686018427387904) := by show _ ≤ _; omega
      have HB2 : Hid ((k + 1) * 24 ≤ 140737488355328) := by show _ ≤ _; omega
      have HA2 : Hid ((acc ++ [(⟨xx, (yn : Int)⟩ : Pc)]).length = k + 1) := by show _ = _; rw [List.length_append, HA.out]; rfl
      have FIN : Hid (∀ ad' cap' w', w'.ownsRow w.heap.size 107 2 (.slice ad' (k + 1) cap') (k + 1) (pcsC acc ++ pcC ⟨xx, yn⟩) → Keep (fun j => (Value.slice ad k cap).ownBlock = some j) (w3.alloc (.cells #[.string xx, .int .i64 (yn : Int)] 107)) w' → Hid (PrS w g t ya ye (.slice ad' (k + 1) cap') (acc ++ [(⟨xx, (yn : Int)⟩ : Pc)]) w')) := fun ad' cap' w' hr hk' => by
        refine H4.out.app ?_ hk'
        unfold OwnP
        rw [HA2.out, show pcsC (acc ++ [(⟨xx, (yn : Int)⟩ : Pc)]) = pcsC acc ++ pcC ⟨xx, yn⟩ by simp [pcsC]]
        exact hr
      clear H4 H3 HA
      generalize pcC ⟨xx, yn⟩ = XS at *
      generalize pcsC acc = PA at *
      go_wp2_with (at_builtin; refine wpl_gappL rfl _ _ elP rfl w.heap.size (.slice ad k cap) (.slice (some ⟨w3.heap.size, 0, none⟩) 1 1) PA XS k 1 (k + 1) rfl rfl rfl HGA.out HSZ.out HGX.out HX2.out HO1.out HB1.out HB2.out ?_; intro ad' cap' w' hr' hk')
      have F1 := FIN.out _ _ _ hr' hk'
      clear hr' hk' FIN HGA HGX HSZ
      go_wp2
      exact ⟨⟨k + 1, _, _, _, ya, ye, HLT.out, rfl, by first | rw [hwk] | rfl | simp, HA2, F1, HM2⟩, by (try rw [hwk]); have := HLT.out; simp [intOf]; omega⟩
    · have hk9 : k = n0 := by omega
      have hdl : decide ((k : Int) < (n0 : Int)) = false := decide_eq_false (by omega)
      have hdl2 : decide (k < n0) = false := decide_eq_false (by omega)
      have HM2 : M = ⟨a, e, acc⟩ := by rw [HM.out, hk9, Nat.sub_self]; simp [dcP]
      subst HM2
      clear HM RI RT HN5 hlt hk hk9
      go_wp2
      go_ret
      refine ⟨ad, cap, ?_, ?_⟩
      · simp only; rw [HA.out]; rfl
      · rw [HA.out]; exact HS.out
end Go.Proofs.YtmadlnchmkhdjaaGreat
namespace Go.Proofs.YtmadlnchmkhdjaaGreat
open Go.RowKit Go.Maps
set_option linter.unusedVariables false
set_option linter.unusedSimpArgs false

end Go.Proofs.YtmadlnchmkhdjaaGreat
namespace Go.Proofs.YtmadlnchmkhdjaaGreat
open Go.RowKit Go.Maps
set_option linter.unusedVariables false
set_option linter.unusedSimpArgs false

theorem OwnQ.keep {S : Nat → Prop} {W W' : World} {B tv tp : Nat} {v : Value} {q : List (Value × Vn)} (h : OwnQ W B tv tp v q) (k : Keep S W W') (hS : ∀ g, B ≤ g → ¬ S g) : OwnQ W' B tv tp v q :=
  ⟨k.ownsRow h.1 (fun g hg => hS g (ownsRow_ge h.1 hg)), fun y hy => k.ownsRow (h.2 y hy) (fun g hg => hS g (ownsRow_ge (h.2 y hy) hg))⟩
end Go.Proofs.YtmadlnchmkhdjaaGreat
namespace Go.Proofs.YtmadlnchmkhdjaaGreat
open Go.RowKit Go.Maps
set_option linter.unusedVariables false
set_option linter.unusedSimpArgs false

theorem ret_ct3 {fn : Func} {p u : Tmp} {ty : TypeId} (h : fn.results = #[.cell p ty, .tmp u]) (tmps : Array Value) (w : World) (g : Nat) (cs : Array Value) (x : Value)
    (hp : tmps.getD p undef = .pointer (some ⟨g, 0, none⟩)) (hx : tmps.getD u undef = x) (hg : (loadVar ty ⟨g, 0, none⟩).run Tryz.prog w = .ok (.agg cs) w) :
    (results fn tmps).run Tryz.prog w = .ok (.tuple #[.agg cs, x]) w := by
  rw [results_cell_tmp h, hp, hx]
  simp [asAddr, hg, Result.andThen]
/-- a reader's value in a box at g, pieces behind it, the result's cell ahead -/
structure RpS (w : World) (g : Nat) (s : ByteArray) (a e : Int) (v : Value) (acc : List Pc) (W : World) : Prop where
  rd : RowIs W g [.string s, .int .i64 a, .int .i64 e] 79
  own : OwnP W (g + 1) 90 v acc
  res : RowIs W (w.heap.size + 1) [.string ⟨#[]⟩, .int .i64 0, .int .i64 0] 79
  bel : Below w.heap.size w W
  low : w.heap.size + 1 < g
theorem RpS.call {w W W' : World} {g : Nat} {s : ByteArray} {a e : Int} {v : Value} {acc : List Pc} (h : RpS w g s a e v acc W) (hb : Below W.heap.size W W') : RpS w g s a e v acc W' :=
  ⟨h.rd.keep (hb.keep (fun _ => False)) (fun h => h), h.own.next hb, h.res.keep (hb.keep (fun _ => False)) (fun h => h), h.bel.trans (hb.mono h.bel.size), h.low⟩
theorem RpS.al {w W : World} {g : Nat} {s : ByteArray} {a e : Int} {v : Value} {acc : List Pc} (h : RpS w g s a e v acc W) (o : Obj) : RpS w g s a e v acc (W.alloc o) := h.call ((Below.refl _ _).alloc (Nat.le_refl _) o)
theorem RpS.put {w W : World} {g : Nat} {s : ByteArray} {a e : Int} {v : Value} {acc : List Pc} (h : RpS w g s a e v acc W) (a' e' : Int) : RpS w g s a' e' v acc (((W.setCell ⟨g, 0, none⟩ (.string s)).setCell ⟨g, 1, none⟩ (.int .i64 a')).setCell ⟨g, 2, none⟩ (.int .i64 e')) := by
  have k : Keep (· = g) W (((W.setCell ⟨g, 0, none⟩ (.string s)).setCell ⟨g, 1, none⟩ (.int .i64 a')).setCell ⟨g, 2, none⟩ (.int .i64 e')) := ((keep_setCell _ _ _ _).trans (keep_setCell _ _ _ _)).trans (keep_setCell _ _ _ _)
  have h1 := h.low
  exact ⟨((h.rd.set 0 _).set 1 _).set 2 _, k.ownsRow h.own (fun j hj e => by have := ownsRow_ge h.own hj; omega), h.res.keep k (by omega), h.bel.trans (keep_below k (fun j hj e => by omega) h.bel.size), h.low⟩
theorem RpS.app {w W W' : World} {g : Nat} {s : ByteArray} {a e : Int} {v v' : Value} {acc acc' : List Pc} (h : RpS w g s a e v acc W) (ho : OwnP W' (g + 1) 90 v' acc') (hk : Keep (fun k => v.ownBlock = some k) W W') : RpS w g s a e v' acc' W' := by
  have hge := fun k (e : v.ownBlock = some k) => ownsRow_ge h.own e
  have hl := h.low
  exact ⟨h.rd.keep hk (fun e => by have := hge _ e; omega), ho, h.res.keep hk (fun e => by have := hge _ e; omega), h.bel.trans (keep_below hk (fun k hk' e => by have := hge _ e; omega) h.bel.size), h.low⟩
theorem RpS.three {w W : World} {g : Nat} {s : ByteArray} {a e : Int} {v : Value} {acc : List Pc} (h : RpS w g s a e v acc W) : (W.cell? ⟨g, 0, none⟩ = some (.string s) ∧ W.cell? ⟨g, 1, none⟩ = some (.int .i64 a) ∧ W.cell? ⟨g, 2, none⟩ = some (.int .i64 e)) ∧ W.frozen? ⟨g, 0, none⟩ = false ∧ W.frozen? ⟨g, 1, none⟩ = false ∧ W.frozen? ⟨g, 2, none⟩ = false :=
  ⟨⟨h.rd.cellAt rfl, h.rd.cellAt rfl, h.rd.cellAt rfl⟩, h.rd.frozen, h.rd.frozen, h.rd.frozen⟩
theorem RpS.done {w W : World} {g : Nat} {s : ByteArray} {a e : Int} {v : Value} {acc : List Pc} (h : RpS w g s a e v acc W) (x0 x1 x2 : Value) : RowIs (((W.setCell ⟨w.heap.size + 1, 0, none⟩ x0).setCell ⟨w.heap.size + 1, 1, none⟩ x1).setCell ⟨w.heap.size + 1, 2, none⟩ x2) (w.heap.size + 1) [x0, x1, x2] 79 ∧ OwnP (((W.setCell ⟨w.heap.size + 1, 0, none⟩ x0).setCell ⟨w.heap.size + 1, 1, none⟩ x1).setCell ⟨w.heap.size + 1, 2, none⟩ x2) w.heap.size 90 v acc ∧ Below w.heap.size w (((W.setCell ⟨w.heap.size + 1, 0, none⟩ x0).setCell ⟨w.heap.size + 1, 1, none⟩ x1).setCell ⟨w.heap.size + 1, 2, none⟩ x2) := by
  have k : Keep (· = w.heap.size + 1) W (((W.setCell ⟨w.heap.size + 1, 0, none⟩ x0).setCell ⟨w.heap.size + 1, 1, none⟩ x1).setCell ⟨w.heap.size + 1, 2, none⟩ x2) := ((keep_setCell _ _ _ _).trans (keep_setCell _ _ _ _)).trans (keep_setCell _ _ _ _)
  have h1 := h.low
  exact ⟨((h.res.set 0 _).set 1 _).set 2 _, ownsRow_base (k.ownsRow h.own (fun j hj e => by have := ownsRow_ge h.own hj; omega)) (by omega), h.bel.trans (keep_below k (fun j hj e => by omega) h.bel.size)⟩
theorem RpS.may {w W : World} {g : Nat} {s : ByteArray} {a e : Int} {v : Value} {acc : List Pc} (h : RpS w g s a e v acc W) : (W.cell? ⟨w.heap.size + 1, 0, none⟩ = some (.string ⟨#[]⟩) ∧ W.cell? ⟨w.heap.size + 1, 1, none⟩ = some (.int .i64 0) ∧ W.cell? ⟨w.heap.size + 1, 2, none⟩ = some (.int .i64 0)) ∧ W.frozen? ⟨w.heap.size + 1, 0, none⟩ = false ∧ W.frozen? ⟨w.heap.size + 1, 1, none⟩ = false ∧ W.frozen? ⟨w.heap.size + 1, 2, none⟩ = false :=
  ⟨⟨h.res.cellAt rfl, h.res.cellAt rfl, h.res.cellAt rfl⟩, h.res.frozen, h.res.frozen, h.res.frozen⟩
set_option maxRecDepth 100000 in
set_option maxHeartbeats 4000000 in
theorem rread_any (t : ByteArray) (a0 e0 : Int) (w : World) (hs : t.size ≤ 140737488355328) : Calls Tryz.prog 46 #[.agg #[.string t, .int .i64 a0, .int .i64 e0]] w fun r w' => ∃ ad cap, r = .returned (.tuple #[.agg #[.string t, .int .i64 (rdP t a0 e0).a, .int .i64 (rdP t a0 e0).e], .slice ad (rdP t a0 e0).l.length cap]) ∧ OwnP w' w.heap.size 90 (.slice ad (rdP t a0 e0).l.length cap) (rdP t a0 e0).l ∧ Below w.heap.size w w' := by
  have hsm : t.size ≤ maxLen := by unfold maxLen; omega
  have RI : Hid (∀ (m a e : Int) (W : World), m ≤ 9223372036854775807 → Calls Tryz.prog 44 #[.agg #[.string t, .int .i64 a, .int .i64 e], .int .i64 m] W fun r w' => r = .returned (.tuple #[.agg #[.string t, .int .i64 (dcN t m a e).a, .int .i64 (dcN t m a e).e], .int .i64 (dcN t m a e).n]) ∧ Below W.heap.size W w') := fun m a e W hm => ref_reader_int t a e m W hsm hm (nS_int t a e m hm)
  have RT : Hid (∀ (a e : Int) (W : World), Calls Tryz.prog 45 #[.agg #[.string t, .int .i64 a, .int .i64 e], .int .i64 64] W fun r w' => r = .returned (.tuple #[.agg #[.string t, .int .i64 (tS t a e 64).a, .int .i64 (tS t a e 64).e], .string (tS t a e 64).x]) ∧ Below W.heap.size W w') := fun a e W => ref_reader_text t a e 64 W hs
  obtain ⟨N, hN⟩ : ∃ N, N = dcN t 512 a0 e0 := ⟨_, rfl⟩
  have RN := hid (fun W => RI.out 512 a0 e0 W (by omega))
  have HN5 := hid (dcN_le t 512 a0 e0 (by omega))
  have HM : Hid (rdP t a0 e0 = dcP t (N.n - 0) N.a N.e) := by show _ = _; rw [hN]; rfl
  rw [← hN] at RN HN5
  have HR0 : Hid (RowIs ((w.alloc (.cells #[.string t, .int .i64 a0, .int .i64 e0] 79)).alloc (.cells #[.string ⟨#[]⟩, .int .i64 0, .int .i64 0] 79)) (w.heap.size + 1) [.string ⟨#[]⟩, .int .i64 0, .int .i64 0] 79) := by
    have := srow (w.alloc (.cells #[.string t, .int .i64 a0, .int .i64 e0] 79)) [.string ⟨#[]⟩, .int .i64 0, .int .i64 0] 79
    rw [show (w.alloc (.cells #[.string t, .int .i64 a0, .int .i64 e0] 79)).heap.size = w.heap.size + 1 by simp] at this
    exact this
  have HB0 : Hid (Below w.heap.size w ((w.alloc (.cells #[.string t, .int .i64 a0, .int .i64 e0] 79)).alloc (.cells #[.string ⟨#[]⟩, .int .i64 0, .int .i64 0] 79))) := below_al (below_al (Below.refl _ _) _) _
  obtain ⟨na, ne, n0⟩ := N
  simp only at *
  clear hs hsm hN
  generalize rdP t a0 e0 = M at *
  go_enter Tryz.func46, Tryz.ntmps46
  go_wp2_with fail
  refine (RN.out _).mono ?_
  rintro e w1 ⟨rfl, b1⟩
  have H1 : Hid (RpS w w1.heap.size t na ne (.slice none 0 0) [] (w1.alloc (.cells #[.string t, .int .i64 na, .int .i64 ne] 79))) := by
    have r1 := HR0.out.keep (b1.keep (fun _ => False)) (fun h => h)
    exact ⟨srow w1 _ _, ownP_nil _ _ _, row_old r1 _, below_al (below_on HB0.out b1) _, r1.lt⟩
  clear b1 RN HR0 HB0
  go_wp2
  go_loopw [4, 7] (fun o i wr => ∃ (k : Nat) (acc : List Pc) (ad : Option Addr) (cap : Nat) (a e : Int), k ≤ n0 ∧ o = .slice ad k cap ∧ i = .int .i64 (k : Int) ∧ Hid (acc.length = k) ∧ Hid (RpS w w1.heap.size t a e (.slice ad k cap) acc wr) ∧ Hid (M = ⟨(dcP t (n0 - k) a e).a, (dcP t (n0 - k) a e).e, acc ++ (dcP t (n0 - k) a e).l⟩)) (fun _ i _ => n0 - (intOf i).toNat)
  case atStart => exact ⟨0, [], none, 0, na, ne, Nat.zero_le _, rfl, rfl, rfl, H1, HM⟩
  case round =>
    clear H1 HM
    obtain ⟨k, acc, ad, cap, a, e, hk, rfl, rfl, HA, HS, HM⟩ := hrel
    generalize w1.heap.size = g at *
    obtain ⟨⟨c0, c1, c2⟩, -⟩ := HS.out.three
    by_cases hlt : k < n0
    · have hk1 : (k : Int) < (n0 : Int) := by omega
      have hk5 : k < 512 := by have := HN5.out; omega
      have hwk : wrap64 ((k : Int) + 1) = ((k + 1 : Nat) : Int) := by rw [IntWalk.wrap64_in _ (by omega)]; omega
      have RX := hid (fun W => RT.out a e W)
      have RY := hid (fun W => RI.out 4096 (tS t a e 64).a (tS t a e 64).e W (by omega))
      have HM2 : Hid (M = ⟨(dcP t (n0 - (k + 1)) (dcN t 4096 (tS t a e 64).a (tS t a e 64).e).a (dcN t 4096 (tS t a e 64).a (tS t a e 64).e).e).a, (dcP t (n0 - (k + 1)) (dcN t 4096 (tS t a e 64).a (tS t a e 64).e).a (dcN t 4096 (tS t a e 64).a (tS t a e 64).e).e).e, (acc ++ [⟨(tS t a e 64).x, ((dcN t 4096 (tS t a e 64).a (tS t a e 64).e).n : Int)⟩]) ++ (dcP t (n0 - (k + 1)) (dcN t 4096 (tS t a e 64).a (tS t a e 64).e).a (dcN t 4096 (tS t a e 64).a (tS t a e 64).e).e).l⟩) := by
        show _ = _
        rw [HM.out, show n0 - k = (n0 - (k + 1)) + 1 by omega]
        simp only [dcP, List.append_assoc, List.singleton_append]
      generalize hX : tS t a e 64 = X at *
      generalize hY : dcN t 4096 X.a X.e = Y at *
      obtain ⟨xa, xe, xx⟩ := X
      obtain ⟨ya, ye, yn⟩ := Y
      simp only at *
      have HLT := hid hlt
      clear hX hY HM RT RI HN5 hlt hk
      go_wp2_with fail
      refine (RX.out _).mono ?_
      rintro e' w2 ⟨rfl, b2⟩
      have H2 := hid ((HS.out.call b2).al (.cells #[.string t, .int .i64 xa, .int .i64 xe] 79))
      clear b2 RX HS c0 c1 c2
      go_wp2_with fail
      refine (RY.out _).mono ?_
      rintro e' w3 ⟨rfl, b3⟩
      have H3 := hid ((H2.out.call b3).al (.cells #[.string t, .int .i64 ya, .int .i64 ye] 79))
      clear b3 RY H2
      obtain ⟨⟨c0, c1, c2⟩, f0, f1, f2⟩ := H3.out.three
      have hz5 : ((((w3.alloc (.cells #[.string t, .int .i64 ya, .int .i64 ye] 79)).setCell ⟨g, 0, none⟩ (.string t)).setCell ⟨g, 1, none⟩ (.int .i64 ya)).setCell ⟨g, 2, none⟩ (.int .i64 ye)).heap.size = w3.heap.size + 1 := by simp [World.setCell]
      have H4 := hid ((H3.out.put ya ye).al (.cells #[.string xx, .int .i64 (yn : Int)] 90))
      have HGX : Hid (GSrc (((((w3.alloc (.cells #[.string t, .int .i64 ya, .int .i64 ye] 79)).setCell ⟨g, 0, none⟩ (.string t)).setCell ⟨g, 1, none⟩ (.int .i64 ya)).setCell ⟨g, 2, none⟩ (.int .i64 ye)).alloc (.cells #[.string xx, .int .i64 (yn : Int)] 90)) (.slice (some ⟨w3.heap.size + 1, 0, none⟩) 1 1) 1 (pcC ⟨xx, yn⟩)) := by
        have := srow ((((w3.alloc (.cells #[.string t, .int .i64 ya, .int .i64 ye] 79)).setCell ⟨g, 0, none⟩ (.string t)).setCell ⟨g, 1, none⟩ (.int .i64 ya)).setCell ⟨g, 2, none⟩ (.int .i64 ye)) [.string xx, .int .i64 (yn : Int)] 90
        rw [hz5] at this
        exact gsrc_block this
      have HGA : Hid ((((((w3.alloc (.cells #[.string t, .int .i64 ya, .int .i64 ye] 79)).setCell ⟨g, 0, none⟩ (.string t)).setCell ⟨g, 1, none⟩ (.int .i64 ya)).setCell ⟨g, 2, none⟩ (.int .i64 ye)).alloc (.cells #[.string xx, .int .i64 (yn : Int)] 90)).ownsRow (g + 1) 90 2 (.slice ad k cap) k (pcsC acc)) := by have := H4.out.own; unfold OwnP at this; rw [HA.out] at this; exact this
      have HSZ : Hid (g + 1 ≤ (((((w3.alloc (.cells #[.string t, .int .i64 ya, .int .i64 ye] 79)).setCell ⟨g, 0, none⟩ (.string t)).setCell ⟨g, 1, none⟩ (.int .i64 ya)).setCell ⟨g, 2, none⟩ (.int .i64 ye)).alloc (.cells #[.string xx, .int .i64 (yn : Int)] 90)).heap.size) := H4.out.rd.lt
      have HO1 := hid (pcC_one ⟨xx, yn⟩)
      have HX2 : Hid ((pcC ⟨xx, yn⟩).length = 1 * 2) := rfl
      have HB1 : Hid (k + 1 ≤ 4611686018427387904) := by show _ ≤ _; omega
      have HB2 : Hid ((k + 1) * 24 ≤ 140737488355328) := by show _ ≤ _; omega
      have HA2 : Hid ((acc ++ [(⟨xx, (yn : Int)⟩ : Pc)]).length = k + 1) := by show _ = _; rw [List.length_append, HA.out]; rfl
      have FIN : Hid (∀ ad' cap' w', w'.ownsRow (g + 1) 90 2 (.slice ad' (k + 1) cap') (k + 1) (pcsC acc ++ pcC ⟨xx, yn⟩) → Keep (fun j => (Value.slice ad k cap).ownBlock = some j) (((((w3.alloc (.cells #[.string t, .int .i64 ya, .int .i64 ye] 79)).setCell ⟨g, 0, none⟩ (.string t)).setCell ⟨g, 1, none⟩ (.int .i64 ya)).setCell ⟨g, 2, none⟩ (.int .i64 ye)).alloc (.cells #[.string xx, .int .i64 (yn : Int)] 90)) w' → Hid (RpS w g t ya ye (.slice ad' (k + 1) cap') (acc ++ [(⟨xx, (yn : Int)⟩ : Pc)]) w')) := fun ad' cap' w' hr hk' => by
        refine H4.out.app ?_ hk'
        unfold OwnP
        rw [HA2.out, show pcsC (acc ++ [(⟨xx, (yn : Int)⟩ : Pc)]) = pcsC acc ++ pcC ⟨xx, yn⟩ by simp [pcsC]]
        exact hr
      clear H4 H3 HA hz5
      generalize pcC ⟨xx, yn⟩ = XS at *
      generalize pcsC acc = PA at *
      go_wp2_with (at_builtin; refine wpl_gappL rfl _ _ elRP rfl (g + 1) (.slice ad k cap) (.slice (some ⟨w3.heap.size + 1, 0, none⟩) 1 1) PA XS k 1 (k + 1) rfl rfl rfl HGA.out HSZ.out HGX.out HX2.out HO1.out HB1.out HB2.out ?_; intro ad' cap' w' hr' hk')
      have F1 := FIN.out _ _ _ hr' hk'
      clear hr' hk' FIN HGA HGX HSZ c0 c1 c2 f0 f1 f2
      go_wp2
      exact ⟨⟨k + 1, _, _, _, ya, ye, HLT.out, rfl, by first | rw [hwk] | rfl | simp, HA2, F1, HM2⟩, by (try rw [hwk]); have := HLT.out; simp [intOf]; omega⟩
    · have hk9 : k = n0 := by omega
      have hdl : decide ((k : Int) < (n0 : Int)) = false := decide_eq_false (by omega)
      have hdl2 : decide (k < n0) = false := decide_eq_false (by omega)
      have HM2 : M = ⟨a, e, acc⟩ := by rw [HM.out, hk9, Nat.sub_self]; simp [dcP]
      subst HM2
      obtain ⟨⟨r0, r1, r2⟩, q0, q1, q2⟩ := HS.out.may
      have H9 := hid (HS.out.done (.string t) (.int .i64 a) (.int .i64 e))
      clear HM RI RT HN5 hlt hk hk9 HS
      go_wp2
      refine bodyPost_ret (v := .tuple #[.agg #[.string t, .int .i64 a, .int .i64 e], .slice ad k cap]) (ret_ct3 (p := 2) (u := 3) rfl _ _ (w.heap.size + 1) _ _ rfl rfl (run_loadVar_row _ _ _ _ _ _ _ H9.out.1 Tryz.underlying79 rfl (by kernel_rfl))) rfl ?_
      refine ⟨ad, cap, ?_, ?_, H9.out.2.2⟩
      · (try simp only); rw [HA.out]
      · (try simp only); rw [HA.out]; exact H9.out.2.1
end Go.Proofs.YtmadlnchmkhdjaaGreat
