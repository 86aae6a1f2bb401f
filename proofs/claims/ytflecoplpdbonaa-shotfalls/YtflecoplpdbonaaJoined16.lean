/- Joined: The snapshot that a text says: the program's walk. What is told is read again, and in one form alone: a snapshot's text. Saving and loading a snapshot; the law's own small run answers true. The law's own small run: it answers true. A snapshot that is saved where room is short: what becomes of the disk; Save of any snapshot. The snapshot that a text says: the reference's walk. Loading a snapshot from any disk: the program's Load and the document's. ShotFalls, pure: a disk that has a snapshot's file, or a spare one, or both; what laying, a loss of power and a loading make of it. -/
import Derived.Test.YtflecoplpdbonaaJoined15
import Derived.Test.YtflecoplpdbonaaJoined09
import Derived.Deep.RegionLaw
import Derived.Laws.ResultCell
import Derived.Test.YtflecoplpdbonaaJoined01
import Derived.Test.YtflecoplpdbonaaJoined05
import Derived.Test.YtflecoplpdbonaaShR
import Derived.Test.YtflecoplpdbonaaJoined08
namespace Go.Proofs.Ytflecoplpdbonaa
open Go.RowKit Go.Maps
set_option linter.unusedVariables false
set_option linter.unusedSimpArgs false

/-- all that Decode of a snapshot reads -/
structure SdR where
  a : Int
  e : Int
  s : Sh
def sdT (s : ByteArray) : SdR :=
  let p := dcN s 1099511627776 0 0
  let q := dcN s 1099511627776 p.a p.e
  let n := dcN s 7 q.a q.e
  let m := dcI s 6 n.n n.a n.e
  let t := tS s m.a m.e 131072
  ⟨t.a, t.e, ⟨p.n, q.n, m.l, t.x⟩⟩
def sdOk (s : ByteArray) : Bool := (endE s (sdT s).a (sdT s).e == 0) && (chkS (sdT s).s == 0)
def sh0 : Sh := ⟨0, 0, [], ⟨#[]⟩⟩
def sdV (s : ByteArray) : Sh := if sdOk s = true then (sdT s).s else sh0
def sdE (s : ByteArray) : Int := if sdOk s = true then 0 else 3
/-- a reader, a snapshot in a box behind it, and its members behind that -/
structure SdS (w : World) (s : ByteArray) (a e ix tm : Int) (x : ByteArray) (b : Nat) (v : Value) (acc : List Int) (W : World) : Prop where
  rd : RdAt W (w.heap.size + 1) s a e
  box : RowIs W b [.int .i64 ix, .int .i64 tm, v, .string x] 36
  own : OwnI W (b + 1) v acc
  res : RowIs W w.heap.size [.int .i64 0, .int .i64 0, .slice none 0 0, .string ⟨#[]⟩] 36
  bel : Below w.heap.size w W
  low : w.heap.size + 2 ≤ b
theorem SdS.drew {w W : World} {s x : ByteArray} {a e ix tm : Int} {b : Nat} {v : Value} {acc : List Int} (h : SdS w s a e ix tm x b v acc W) : SdS w s a e ix tm x b v acc W.drew :=
  ⟨h.rd, h.box, h.own, h.res, h.bel.drew, h.low⟩
theorem SdS.read {w W W' : World} {s x : ByteArray} {a e a' e' ix tm : Int} {b : Nat} {v : Value} {acc : List Int} (h : SdS w s a e ix tm x b v acc W) (hr : RdAt W' (w.heap.size + 1) s a' e') (ho : Only (w.heap.size + 1) W W') : SdS w s a' e' ix tm x b v acc W' :=
  ⟨hr, h.box.keep ho.keep (by have := h.low; omega), ho.keep.ownsRow h.own (fun g hg e => by have := ownsRow_ge h.own hg; have := h.low; omega), h.res.keep ho.keep (by omega), h.bel.trans (ho.below (by omega) h.bel.size), h.low⟩
theorem SdS.call {w W W' : World} {s x : ByteArray} {a e ix tm : Int} {b : Nat} {v : Value} {acc : List Int} (h : SdS w s a e ix tm x b v acc W) (hb : Below W.heap.size W W') : SdS w s a e ix tm x b v acc W' :=
  ⟨h.rd.keeps hb, h.box.keep (hb.keep (fun _ => False)) (fun h => h), h.own.next hb, h.res.keep (hb.keep (fun _ => False)) (fun h => h), h.bel.trans (hb.mono h.bel.size), h.low⟩
theorem SdS.al {w W : World} {s x : ByteArray} {a e ix tm : Int} {b : Nat} {v : Value} {acc : List Int} (h : SdS w s a e ix tm x b v acc W) (o : Obj) : SdS w s a e ix tm x b v acc (W.alloc o) := h.call ((Below.refl _ _).alloc (Nat.le_refl _) o)
/-- behind an append, the field set -/
theorem SdS.set {w W WB W' : World} {s x : ByteArray} {a e ix tm : Int} {b : Nat} {v v' : Value} {acc acc' : List Int} (h : SdS w s a e ix tm x b v acc W) (ho : OwnI WB (b + 1) v' acc') (hk : Keep (fun k => v.ownBlock = some k) W WB) (hW : Keep (fun _ => False) (WB.setCell ⟨b, 2, none⟩ v') W') : SdS w s a e ix tm x b v' acc' W' := by
  have hge := fun k (e : v.ownBlock = some k) => ownsRow_ge h.own e
  have hl := h.low
  have rB := h.box.keep hk (fun e => by have := hge b e; omega)
  have kS := keep_setCell WB b 2 v'
  refine ⟨?_, (rB.set 2 v').keep hW (fun h => h), ?_, ?_, ?_, h.low⟩
  · have e1 := hk.block (w.heap.size + 1) (rd_lt h.rd) (fun e => by have := hge _ e; omega)
    have e2 := kS.block (w.heap.size + 1) (Nat.lt_of_lt_of_le (rd_lt h.rd) hk.size) (by omega)
    have e3 := hW.block (w.heap.size + 1) (Nat.lt_of_lt_of_le (rd_lt h.rd) (Nat.le_trans hk.size kS.size)) (fun h => h)
    exact h.rd.same (e3.trans (e2.trans e1))
  · exact hW.ownsRow (kS.ownsRow ho (fun g hg e => by have := ownsRow_ge ho hg; omega)) (fun _ _ h => h)
  · exact ((h.res.keep hk (fun e => by have := hge _ e; omega)).keep kS (by omega)).keep hW (fun h => h)
  · have b1 := keep_below hk (fun k hk' e => by have := hge k e; omega) h.bel.size (B := w.heap.size)
    have b2 := keep_below kS (fun k hk' e => by omega) (Nat.le_trans h.bel.size hk.size) (B := w.heap.size)
    have b3 := keep_below hW (fun k _ e => e) (Nat.le_trans (Nat.le_trans h.bel.size hk.size) kS.size) (B := w.heap.size)
    exact ((h.bel.trans b1).trans b2).trans b3
theorem SdS.lt {w W : World} {s x : ByteArray} {a e ix tm : Int} {b : Nat} {v : Value} {acc : List Int} (h : SdS w s a e ix tm x b v acc W) : b + 1 ≤ W.heap.size := h.box.lt
theorem ret_ct {fn : Func} {p u : Tmp} {ty : TypeId} (h : fn.results = #[.cell p ty, .tmp u]) (tmps : Array Value) (w : World) (g : Nat) (cs : Array Value) (x : Value)
    (hp : tmps.getD p undef = .pointer (some ⟨g, 0, none⟩)) (hx : tmps.getD u undef = x) (hg : (loadVar ty ⟨g, 0, none⟩).run Try.prog w = .ok (.agg cs) w) :
    (results fn tmps).run Try.prog w = .ok (.tuple #[.agg cs, x]) w := by
  rw [results_cell_tmp h, hp, hx]
  simp [asAddr, hg, Result.andThen]
theorem four {W : World} {g : Nat} {v0 v1 v2 v3 x0 x1 x2 x3 : Value} {t : TypeId} (h : RowIs W g [v0, v1, v2, v3] t) : RowIs ((((W.setCell ⟨g, 0, none⟩ x0).setCell ⟨g, 1, none⟩ x1).setCell ⟨g, 2, none⟩ x2).setCell ⟨g, 3, none⟩ x3) g [x0, x1, x2, x3] t ∧ Keep (· = g) W ((((W.setCell ⟨g, 0, none⟩ x0).setCell ⟨g, 1, none⟩ x1).setCell ⟨g, 2, none⟩ x2).setCell ⟨g, 3, none⟩ x3) :=
  ⟨(((h.set 0 x0).set 1 x1).set 2 x2).set 3 x3, (((keep_setCell _ _ _ _).trans (keep_setCell _ _ _ _)).trans (keep_setCell _ _ _ _)).trans (keep_setCell _ _ _ _)⟩
/-- the fourth cell set -/
theorem SdS.data {w W : World} {s x : ByteArray} {a e ix tm : Int} {b : Nat} {v : Value} {acc : List Int} (h : SdS w s a e ix tm x b v acc W) (y : ByteArray) : SdS w s a e ix tm y b v acc (W.setCell ⟨b, 3, none⟩ (.string y)) := by
  have kS := keep_setCell W b 3 (.string y)
  have hl := h.low
  exact ⟨h.rd.same (kS.block _ (rd_lt h.rd) (by omega)), h.box.set 3 (.string y), kS.ownsRow h.own (fun g hg e => by have := ownsRow_ge h.own hg; omega), h.res.keep kS (by omega), h.bel.trans (keep_below kS (fun k hk e => by omega) h.bel.size), h.low⟩
/-- what was read lies in the result's cell -/
theorem SdS.done {w W : World} {s x : ByteArray} {a e ix tm : Int} {b : Nat} {v : Value} {acc : List Int} (h : SdS w s a e ix tm x b v acc W) (x0 x1 x2 x3 : Value) (W' : World) (hW : W' = ((((W.setCell ⟨w.heap.size, 0, none⟩ x0).setCell ⟨w.heap.size, 1, none⟩ x1).setCell ⟨w.heap.size, 2, none⟩ x2).setCell ⟨w.heap.size, 3, none⟩ x3)) : RowIs W' w.heap.size [x0, x1, x2, x3] 36 ∧ Below w.heap.size w W' ∧ OwnI W' w.heap.size v acc := by
  subst hW
  have f := four h.res (x0 := x0) (x1 := x1) (x2 := x2) (x3 := x3)
  have hl := h.low
  exact ⟨f.1, h.bel.trans (keep_below f.2 (fun k hk e => by omega) h.bel.size), ownsRow_base (f.2.ownsRow h.own (fun g hg e => by have := ownsRow_ge h.own hg; omega)) (by omega)⟩
set_option maxRecDepth 100000 in
set_option maxHeartbeats 4000000 in
theorem sdecode_any (t : ByteArray) (w : World) (hs : t.size ≤ 140737488355328) : Calls Try.prog 29 #[.string t] w fun e w' => ∃ ad cap, e = .returned (.tuple #[shV (.slice ad (sdV t).ms.length cap) (sdV t), .int .i64 (sdE t)]) ∧ OwnI w' w.heap.size (.slice ad (sdV t).ms.length cap) (sdV t).ms ∧ Below w.heap.size w w' := by
  have hsm : t.size ≤ maxLen := by unfold maxLen; omega
  have hz1 : (w.alloc (.cells #[.int .i64 0, .int .i64 0, .slice none 0 0, .string ⟨#[]⟩] 36)).heap.size = w.heap.size + 1 := by simp
  have NW := new_reader t (w.alloc (.cells #[.int .i64 0, .int .i64 0, .slice none 0 0, .string ⟨#[]⟩] 36))
  rw [hz1] at NW
  have NW := hid NW
  have RI : Hid (∀ (m a e : Int) (W : World), RdAt W (w.heap.size + 1) t a e → m ≤ 9223372036854775807 → Calls Try.prog 48 #[.pointer (some ⟨w.heap.size + 1, 0, none⟩), .int .i64 m] W fun r w' => r = .returned (.int .i64 (dcN t m a e).n) ∧ RdAt w' (w.heap.size + 1) t (dcN t m a e).a (dcN t m a e).e ∧ Only (w.heap.size + 1) W w') := fun m a e W h hm => rd_int (w.heap.size + 1) t a e m W h hsm hm (nS_int t a e m hm)
  have RT : Hid (∀ (a e : Int) (W : World), RdAt W (w.heap.size + 1) t a e → Calls Try.prog 49 #[.pointer (some ⟨w.heap.size + 1, 0, none⟩), .int .i64 131072] W fun r w' => r = .returned (.string (tS t a e 131072).x) ∧ RdAt w' (w.heap.size + 1) t (tS t a e 131072).a (tS t a e 131072).e ∧ Only (w.heap.size + 1) W w') := fun a e W h => rd_text (w.heap.size + 1) t a e 131072 W h hs
  have RE := hid (fun a e W h => rd_end (w.heap.size + 1) t a e W h)
  have CK : Hid (∀ (v : Value) (s : Sh) W, IntsI W v s.ms → s.ms.length ≤ 9223372036854775807 → Calls Try.prog 17 #[shV v s] W fun e w' => e = .returned (.int .i64 (chkS s)) ∧ Below W.heap.size W w') := fun v s W hv hl => check_any v s W hv hl
  have HR0 := hid (srow w [.int .i64 0, .int .i64 0, .slice none 0 0, .string ⟨#[]⟩] 36)
  have HB0 : Hid (Below w.heap.size w (w.alloc (.cells #[.int .i64 0, .int .i64 0, .slice none 0 0, .string ⟨#[]⟩] 36))) := below_al (Below.refl _ _) _
  have HZ1 := hid hz1
  have HVE : Hid (sdE t = (if sdOk t = true then 0 else 3) ∧ sdV t = (if sdOk t = true then (sdT t).s else sh0)) := ⟨rfl, rfl⟩
  have HOK : Hid (sdOk t = ((endE t (sdT t).a (sdT t).e == 0) && (chkS (sdT t).s == 0))) := rfl
  have HST : Hid (∀ p q n m x, p = dcN t 1099511627776 0 0 → q = dcN t 1099511627776 p.a p.e → n = dcN t 7 q.a q.e → m = dcI t 6 n.n n.a n.e → x = tS t m.a m.e 131072 → sdT t = ⟨x.a, x.e, ⟨p.n, q.n, m.l, x.x⟩⟩) := fun p q n m x h1 h2 h3 h4 h5 => by subst h1 h2 h3 h4 h5; rfl
  obtain ⟨P, hP⟩ : ∃ P, P = dcN t 1099511627776 0 0 := ⟨_, rfl⟩
  obtain ⟨Q, hQ⟩ : ∃ Q, Q = dcN t 1099511627776 P.a P.e := ⟨_, rfl⟩
  obtain ⟨N, hN⟩ : ∃ N, N = dcN t 7 Q.a Q.e := ⟨_, rfl⟩
  obtain ⟨M, hM⟩ : ∃ M, M = dcI t 6 N.n N.a N.e := ⟨_, rfl⟩
  obtain ⟨X, hX⟩ : ∃ X, X = tS t M.a M.e 131072 := ⟨_, rfl⟩
  have hT := HST.out P Q N M X hP hQ hN hM hX
  have RP := hid (fun W h => RI.out 1099511627776 0 0 W h (by omega))
  have RQ := hid (fun W h => RI.out 1099511627776 P.a P.e W h (by omega))
  have RN := hid (fun W h => RI.out 7 Q.a Q.e W h (by omega))
  have RX := hid (fun W h => RT.out M.a M.e W h)
  have HN7 := hid (dcN_le t 7 Q.a Q.e (by omega))
  rw [← hP] at RP
  rw [← hQ] at RQ
  rw [← hN] at RN HN7
  rw [← hX] at RX
  have HM : Hid (M = dcI t 6 (N.n - 0) N.a N.e) := hM
  have HT := hid hT
  obtain ⟨pa, pe, pn⟩ := P
  obtain ⟨qa, qe, qn⟩ := Q
  obtain ⟨na, ne, n0⟩ := N
  obtain ⟨xa, xe, xx⟩ := X
  simp only at *
  clear hs hsm hz1 HST hP hQ hN hM hX hT RT
  generalize sdE t = DE at *
  generalize sdV t = DV at *
  generalize sdOk t = OK at *
  generalize sdT t = T at *
  go_enter Try.func29, Try.ntmps29
  go_wp2_with fail
  refine NW.out.mono ?_
  rintro e w1 ⟨rfl, h1, b1⟩
  have H1 : Hid (RdAt w1 (w.heap.size + 1) t 0 0 ∧ RowIs w1 w.heap.size [.int .i64 0, .int .i64 0, .slice none 0 0, .string ⟨#[]⟩] 36 ∧ Below w.heap.size w w1) := by
    have b1' : Below (w.alloc (.cells #[.int .i64 0, .int .i64 0, .slice none 0 0, .string ⟨#[]⟩] 36)).heap.size (w.alloc (.cells #[.int .i64 0, .int .i64 0, .slice none 0 0, .string ⟨#[]⟩] 36)) w1 := by rw [HZ1.out]; exact b1
    exact ⟨h1, HR0.out.keep (b1'.keep (fun _ => False)) (fun h => h), below_on HB0.out b1'⟩
  clear h1 b1 NW HR0 HB0 HZ1
  go_wp2_with fail
  refine (RP.out _ H1.out.1).mono ?_
  rintro e w2 ⟨rfl, h2, o2⟩
  have H2 : Hid (RdAt w2 (w.heap.size + 1) t pa pe ∧ RowIs w2 w.heap.size [.int .i64 0, .int .i64 0, .slice none 0 0, .string ⟨#[]⟩] 36 ∧ Below w.heap.size w w2) := ⟨h2, H1.out.2.1.keep o2.keep (by omega), H1.out.2.2.trans (o2.below (by omega) H1.out.2.2.size)⟩
  clear h2 o2 RP H1
  go_wp2_with fail
  refine (RQ.out _ H2.out.1).mono ?_
  rintro e w3 ⟨rfl, h3, o3⟩
  have H3 : Hid (SdS w t qa qe pn qn ⟨#[]⟩ w3.heap.size (.slice none 0 0) [] (w3.alloc (.cells #[.int .i64 (pn : Int), .int .i64 (qn : Int), .slice none 0 0, .string ⟨#[]⟩] 36))) :=
    ⟨h3.keeps ((Below.refl _ _).alloc (Nat.le_refl _) _), srow w3 [.int .i64 (pn : Int), .int .i64 (qn : Int), .slice none 0 0, .string ⟨#[]⟩] 36, ownI_nil _ _, row_old (H2.out.2.1.keep o3.keep (by omega)) _, below_al (H2.out.2.2.trans (o3.below (by omega) H2.out.2.2.size)) _, rd_lt h3⟩
  clear h3 o3 RQ H2
  go_wp2_with fail
  refine (RN.out _ H3.out.rd).mono ?_
  rintro e w4 ⟨rfl, h4, o4⟩
  have H4 := hid (H3.out.read h4 o4)
  clear h4 o4 RN H3
  generalize hbb : w3.heap.size = b at *
  clear hbb
  go_wp2
  go_loopw [15] (fun i wr => ∃ (k : Nat) (acc : List Int) (ad : Option Addr) (cap : Nat) (a e : Int), k ≤ n0 ∧ i = .int .i64 (k : Int) ∧ Hid (acc.length = k) ∧ Hid (SdS w t a e pn qn ⟨#[]⟩ b (.slice ad acc.length cap) acc wr) ∧ Hid (M = ⟨(dcI t 6 (n0 - k) a e).a, (dcI t 6 (n0 - k) a e).e, acc ++ (dcI t 6 (n0 - k) a e).l⟩)) (fun i _ => n0 - (intOf i).toNat)
  case atStart => exact ⟨0, [], none, 0, na, ne, Nat.zero_le _, rfl, rfl, H4, HM⟩
  case round =>
    clear H4 HM
    obtain ⟨k, acc, ad, cap, a, e, hk, rfl, HA, HS, HM⟩ := hrel
    by_cases hlt : k < n0
    · have hk1 : (k : Int) < (n0 : Int) := by omega
      have hk7 : k < 7 := by have := HN7.out; omega
      have HM2 : Hid (M = ⟨(dcI t 6 (n0 - (k + 1)) (dcN t 6 a e).a (dcN t 6 a e).e).a, (dcI t 6 (n0 - (k + 1)) (dcN t 6 a e).a (dcN t 6 a e).e).e, (acc ++ [((dcN t 6 a e).n : Int)]) ++ (dcI t 6 (n0 - (k + 1)) (dcN t 6 a e).a (dcN t 6 a e).e).l⟩) := by
        show _ = _
        rw [HM.out, show n0 - k = (n0 - (k + 1)) + 1 by omega]
        simp only [dcI, List.append_assoc, List.singleton_append]
      have R6 : Hid (∀ W, SdS w t a e pn qn ⟨#[]⟩ b (.slice ad acc.length cap) acc W → Calls Try.prog 48 #[.pointer (some ⟨w.heap.size + 1, 0, none⟩), .int .i64 6] W fun r w' => r = .returned (.int .i64 (dcN t 6 a e).n) ∧ w'.cell? ⟨b, 2, none⟩ = some (.slice ad acc.length cap) ∧ b < w'.heap.size ∧ Hid (SdS w t (dcN t 6 a e).a (dcN t 6 a e).e pn qn ⟨#[]⟩ b (.slice ad acc.length cap) acc w')) := fun W hW => (RI.out 6 a e W hW.rd (by omega)).mono fun r w' ⟨hr, h1, h2⟩ => ⟨hr, (hW.read h1 h2).box.cellAt rfl, (hW.read h1 h2).lt, hW.read h1 h2⟩
      generalize dcN t 6 a e = S1 at *
      obtain ⟨a1, e1, n1⟩ := S1
      simp only at *
      have HA2 : Hid ((acc ++ [(n1 : Int)]).length = k + 1) := by show _ = _; simp; exact HA.out
      have HL3 : Hid (acc.length + 1 ≤ 70368744177) := by have := HA.out; show _ ≤ _; omega
      have HB3 : Hid ((acc.length + 1) * 8 ≤ 140737488355328) := by have := HA.out; show _ ≤ _; omega
      have HO3 : Hid (∀ u ∈ [Value.int .i64 (n1 : Int)], u.oneCell' = true) := fun u hu => by simp at hu; subst hu; rfl
      have y2 := HS.out.box.cellAt (o := 2) rfl
      have hbl : b < wr.heap.size := HS.out.lt
      have FIN : Hid (∀ (W : World) (adB : Option Addr) (capB : Nat) wB, SdS w t a1 e1 pn qn ⟨#[]⟩ b (.slice ad acc.length cap) acc W → wB.ownsRow (b + 1) 3 1 (.slice adB (acc.length + 1) capB) (acc.length + 1) (isC acc ++ [.int .i64 (n1 : Int)]) → Keep (fun j => (Value.slice ad acc.length cap).ownBlock = some j) W wB → (wB.cell? ⟨b, 2, none⟩ = some (.slice ad acc.length cap) ∧ wB.frozen? ⟨b, 2, none⟩ = false) ∧ Hid (∀ W', Keep (fun _ => False) (wB.setCell ⟨b, 2, none⟩ (.slice adB (acc.length + 1) capB)) W' → Hid (SdS w t a1 e1 pn qn ⟨#[]⟩ b (.slice adB (acc ++ [(n1 : Int)]).length capB) (acc ++ [(n1 : Int)]) W'))) := fun W adB capB wB hW hrB hkB => by
        have rB := hW.box.keep hkB (fun e => by have := ownsRow_ge hW.own e; omega)
        refine ⟨⟨rB.cellAt rfl, rB.frozen⟩, fun W' hW' => ?_⟩
        have ho : OwnI wB (b + 1) (.slice adB (acc.length + 1) capB) (acc ++ [(n1 : Int)]) := by
          unfold OwnI
          rw [show isC (acc ++ [(n1 : Int)]) = isC acc ++ [.int .i64 (n1 : Int)] by simp [isC], show (acc ++ [(n1 : Int)]).length = acc.length + 1 by simp]
          exact hrB
        have := hW.set ho hkB hW'
        rw [show (acc ++ [(n1 : Int)]).length = acc.length + 1 by simp]
        exact this
      clear HM HA RE CK HT HOK HVE RX RI HN7
      go_wp2
      go_region_law (first | (go_simp; go_at_call 48; with_reducible (refine (R6.out _ ?_).mono ?_); (first | exact HS.out | exact HS.out.drew | exact HS.out.drew.drew); rintro e' w5 ⟨rfl, z2, hb5, H5⟩; go_simp) | (refine step_gapp (w0 := w5.alloc (Obj.cells #[.int .i64 (n1 : Int)] 3)) (by rfl) _ _ elInt (by rfl) (b + 1) (.slice ad acc.length cap) (.slice (some ⟨w5.heap.size, 0, none⟩) 1 1) (isC acc) [.int .i64 (n1 : Int)] acc.length 1 (acc.length + 1) (by rfl) (by first | with_reducible exact Keep.refl _ _ | with_reducible exact keep_drew _ _ | with_reducible exact (keep_drew _ _).trans (keep_drew _ _)) (by rfl) (by rfl) (H5.out.al _).own (H5.out.al _).lt (gsrc_block (heap_alloc_new _ _)) (by rfl) HO3.out HL3.out HB3.out ?_; intro adB capB wB hrB hkB; obtain ⟨⟨b4, fz4⟩, HF⟩ := FIN.out _ adB capB wB (H5.out.al _) hrB hkB))
      all_goals
        go_wp2
        first
          | (have hf := HF.out _ (Keep.refl _ _); exact ⟨⟨k + 1, _, _, _, a1, e1, by omega, by go_num, HA2, hf, HM2⟩, by simp [intOf]; omega⟩)
          | (have hf := HF.out _ (keep_drew _ _); exact ⟨⟨k + 1, _, _, _, a1, e1, by omega, by go_num, HA2, hf, HM2⟩, by simp [intOf]; omega⟩)
    · have hk9 : k = n0 := by omega
      have hdl : decide ((k : Int) < (n0 : Int)) = false := decide_eq_false (by omega)
      have hdl2 : decide (k < n0) = false := decide_eq_false (by omega)
      have HM2 : Hid (M = ⟨a, e, acc⟩) := by show _ = _; rw [HM.out, hk9, Nat.sub_self]; simp [dcI]
      have hm := HM2.out
      subst hm
      simp only at RX HT
      have HL : Hid (acc.length ≤ 9223372036854775807) := by have := HA.out; have := HN7.out; show _ ≤ _; omega
      clear HM HM2 HA RI HN7 hlt hk hk9
      go_wp2_with fail
      refine (RX.out _ HS.out.rd).mono ?_
      rintro e' w5 ⟨rfl, h5, o5⟩
      have H5 := hid (HS.out.read h5 o5)
      have y3 := H5.out.box.cellAt (o := 3) rfl
      have f3 := H5.out.box.frozen (o := 3)
      have H6 := hid (H5.out.data xx)
      have R7 := hid (RE.out xa xe _ H6.out.rd)
      clear h5 o5 RX HS RE H5
      go_wp2_with fail
      refine R7.out.mono ?_
      rintro e' w6 ⟨rfl, h6, o6⟩
      have H7 := hid (H6.out.read h6 o6)
      clear h6 o6 R7 H6 y3 f3
      have HOK2 : Hid (OK = ((endE t xa xe == 0) && (chkS ⟨pn, qn, acc, xx⟩ == 0))) := by show _ = _; rw [HOK.out, HT.out]
      have HVE2 : Hid (DE = (if OK = true then 0 else 3) ∧ DV = (if OK = true then (⟨pn, qn, acc, xx⟩ : Sh) else sh0)) := by
        have := HVE.out
        rw [HT.out] at this
        exact this
      clear HOK HVE HT hdl hdl2 NW
      generalize endE t xa xe = E at *
      have y0 := H7.out.box.cellAt (o := 0) rfl
      have y1 := H7.out.box.cellAt (o := 1) rfl
      have y2 := H7.out.box.cellAt (o := 2) rfl
      have y3 := H7.out.box.cellAt (o := 3) rfl
      by_cases hE : E = 0
      · subst hE
        have C7 := hid (CK.out (.slice ad acc.length cap) ⟨pn, qn, acc, xx⟩ w6 H7.out.own.ints HL.out)
        generalize chkS ⟨pn, qn, acc, xx⟩ = C at *
        clear CK
        go_wp2_with fail
        refine C7.out.mono ?_
        rintro e' w7 ⟨rfl, b7⟩
        have H8 := hid (H7.out.call b7)
        clear C7 b7 y0 y1 y2 y3 H7
        have y0 := H8.out.box.cellAt (o := 0) rfl
        have y1 := H8.out.box.cellAt (o := 1) rfl
        have y2 := H8.out.box.cellAt (o := 2) rfl
        have y3 := H8.out.box.cellAt (o := 3) rfl
        have r0 := H8.out.res.cellAt (o := 0) rfl
        have r1 := H8.out.res.cellAt (o := 1) rfl
        have r2 := H8.out.res.cellAt (o := 2) rfl
        have r3 := H8.out.res.cellAt (o := 3) rfl
        have q0 := H8.out.res.frozen (o := 0)
        have q1 := H8.out.res.frozen (o := 1)
        have q2 := H8.out.res.frozen (o := 2)
        have q3 := H8.out.res.frozen (o := 3)
        by_cases hC : C = 0
        · subst hC
          have hO : OK = true := HOK2.out
          subst hO
          obtain ⟨d1, d2⟩ := HVE2.out
          rw [if_pos rfl] at d1 d2
          have HD : Hid (DE = 0 ∧ DV = ⟨pn, qn, acc, xx⟩) := ⟨d1, d2⟩
          clear d1 d2 HVE2 HOK2
          go_wp2
          obtain ⟨g1, g2, g3⟩ := H8.out.done (.int .i64 (pn : Int)) (.int .i64 (qn : Int)) (.slice ad acc.length cap) (.string xx) _ rfl
          refine bodyPost_ret (v := .tuple #[.agg #[.int .i64 (pn : Int), .int .i64 (qn : Int), .slice ad acc.length cap, .string xx], .int .i64 0]) (ret_ct (p := 2) (u := 3) rfl _ _ w.heap.size _ _ rfl rfl (run_loadVar_row _ _ _ _ _ _ _ g1 Try.underlying36 rfl (by kernel_rfl))) rfl ?_
          rw [HD.out.1, HD.out.2]
          exact ⟨ad, cap, rfl, g3, g2⟩
        · have hO : OK = false := by rw [HOK2.out, beq_eq_false_iff_ne.2 hC]; rfl
          subst hO
          obtain ⟨d1, d2⟩ := HVE2.out
          rw [if_neg (by simp)] at d1 d2
          have HD : Hid (DE = 3 ∧ DV = sh0) := ⟨d1, d2⟩
          clear d1 d2 HVE2 HOK2
          go_wp2
          obtain ⟨g1, g2, g3⟩ := H8.out.done (.int .i64 0) (.int .i64 0) (.slice none 0 0) (.string ⟨#[]⟩) _ rfl
          refine bodyPost_ret (v := .tuple #[.agg #[.int .i64 0, .int .i64 0, .slice none 0 0, .string ⟨#[]⟩], .int .i64 3]) (ret_ct (p := 2) (u := 3) rfl _ _ w.heap.size _ _ rfl rfl (run_loadVar_row _ _ _ _ _ _ _ g1 Try.underlying36 rfl (by kernel_rfl))) rfl ?_
          rw [HD.out.1, HD.out.2]
          exact ⟨none, 0, rfl, ownI_nil _ _, g2⟩
      · have hO : OK = false := by rw [HOK2.out, beq_eq_false_iff_ne.2 hE]; rfl
        subst hO
        obtain ⟨d1, d2⟩ := HVE2.out
        rw [if_neg (by simp)] at d1 d2
        have HD : Hid (DE = 3 ∧ DV = sh0) := ⟨d1, d2⟩
        clear d1 d2 HVE2 HOK2
        have H8 := H7
        clear H7 CK y0 y1 y2 y3
        have r0 := H8.out.res.cellAt (o := 0) rfl
        have r1 := H8.out.res.cellAt (o := 1) rfl
        have r2 := H8.out.res.cellAt (o := 2) rfl
        have r3 := H8.out.res.cellAt (o := 3) rfl
        have q0 := H8.out.res.frozen (o := 0)
        have q1 := H8.out.res.frozen (o := 1)
        have q2 := H8.out.res.frozen (o := 2)
        have q3 := H8.out.res.frozen (o := 3)
        go_wp2
        obtain ⟨g1, g2, g3⟩ := H8.out.done (.int .i64 0) (.int .i64 0) (.slice none 0 0) (.string ⟨#[]⟩) _ rfl
        refine bodyPost_ret (v := .tuple #[.agg #[.int .i64 0, .int .i64 0, .slice none 0 0, .string ⟨#[]⟩], .int .i64 3]) (ret_ct (p := 2) (u := 3) rfl _ _ w.heap.size _ _ rfl rfl (run_loadVar_row _ _ _ _ _ _ _ g1 Try.underlying36 rfl (by kernel_rfl))) rfl ?_
        rw [HD.out.1, HD.out.2]
        exact ⟨none, 0, rfl, ownI_nil _ _, g2⟩
end Go.Proofs.Ytflecoplpdbonaa
namespace Go.Proofs.Ytflecoplpdbonaa
open Go.RowKit Go.Maps
set_option linter.unusedVariables false
set_option linter.unusedSimpArgs false

theorem sd_enc {s : Sh} (h : chkS s = 0) : sdE (encS s) = 0 ∧ sdV (encS s) = s := by
  obtain ⟨h1, h2, h3, h4, h5⟩ := chk_ok h
  have he : encS s = ⟨(encB s).toArray⟩ := by unfold encS; rw [if_pos h]
  have hd : (encS s).data.toList = encB s := by rw [he]
  obtain ⟨i1, i2⟩ := wthn_nat h1
  obtain ⟨t1, t2⟩ := wthn_nat h2
  have a1 := dcN_put (encS s) [] (put s.tm.toNat ++ put s.ms.length ++ msB s.ms ++ ptx s.da) s.ix.toNat 1099511627776 (by rw [hd]; simp [encB]) (by omega) (by omega)
  have a2 := dcN_put (encS s) (put s.ix.toNat) (put s.ms.length ++ msB s.ms ++ ptx s.da) s.tm.toNat 1099511627776 (by rw [hd]; simp [encB]) (by omega) (by omega)
  have a3 := dcN_put (encS s) (put s.ix.toNat ++ put s.tm.toNat) (msB s.ms ++ ptx s.da) s.ms.length 7 (by rw [hd]; simp [encB]) (by omega) (by omega)
  have a4 := dcI_put (encS s) s.ms (put s.ix.toNat ++ put s.tm.toNat ++ put s.ms.length) (ptx s.da) (by rw [hd]; simp [encB]) h3
  have a5 := txtAt_put (encS s) (put s.ix.toNat ++ put s.tm.toNat ++ put s.ms.length ++ msB s.ms) [] s.da (by rw [hd]; simp [encB]) (by omega)
  have a6 : tS (encS s) (((put s.ix.toNat ++ put s.tm.toNat ++ put s.ms.length ++ msB s.ms).length : Nat) : Int) 0 131072 = ⟨(((put s.ix.toNat ++ put s.tm.toNat ++ put s.ms.length ++ msB s.ms).length + (ptx s.da).length : Nat) : Int), 0, s.da⟩ := by
    unfold tS
    rw [a5, if_pos rfl, if_pos rfl, if_pos (by show (s.da.size : Int) ≤ _; omega)]
  have a1' : dcN (encS s) 1099511627776 0 0 = ⟨(((put s.ix.toNat).length : Nat) : Int), 0, s.ix.toNat⟩ := a1
  have hT : sdT (encS s) = ⟨(((put s.ix.toNat ++ put s.tm.toNat ++ put s.ms.length ++ msB s.ms).length + (ptx s.da).length : Nat) : Int), 0, s⟩ := by
    unfold sdT
    simp only [a1', a2, a3, a4, a6]
    rw [← i1, ← t1]
  have hz : (encS s).size = (put s.ix.toNat ++ put s.tm.toNat ++ put s.ms.length ++ msB s.ms).length + (ptx s.da).length := by
    have := size_of _ _ hd
    rw [this]
    simp [encB]
    omega
  have hok : sdOk (encS s) = true := by
    unfold sdOk
    rw [hT]
    simp only
    rw [h]
    have : endE (encS s) (((put s.ix.toNat ++ put s.tm.toNat ++ put s.ms.length ++ msB s.ms).length + (ptx s.da).length : Nat) : Int) 0 = 0 := by
      unfold endE
      rw [if_neg]
      intro hc
      rw [hz] at hc
      omega
    rw [this]
    rfl
  unfold sdE sdV
  rw [hok, hT]
  exact ⟨rfl, rfl⟩
theorem sdE_iff (t : ByteArray) : (sdE t = 0 ∧ sdOk t = true) ∨ (sdE t = 3 ∧ sdV t = sh0) := by
  unfold sdE sdV
  cases h : sdOk t
  · exact .inr ⟨rfl, rfl⟩
  · exact .inl ⟨rfl, rfl⟩
theorem tS_e {s : ByteArray} {a e m : Int} (h : (tS s a e m).e = 0) : e = 0 ∧ (txtAt s a).e = 0 ∧ tS s a e m = ⟨(txtAt s a).to, 0, (txtAt s a).x⟩ := by
  unfold tS at h ⊢
  split at h
  · rename_i he
    split at h
    · rename_i ht
      split at h
      · rename_i hx
        exact ⟨he, ht, by rw [if_pos he, if_pos ht, if_pos hx]⟩
      · simp at h
    · rename_i ht
      exact absurd (by simpa using h) ht
  · rename_i he
    exact absurd h he
theorem drop_cut {l : List UInt8} {a b : Nat} (h : a ≤ b) : l.drop a = (l.drop a).take (b - a) ++ l.drop b := by
  have := (List.take_append_drop (b - a) (l.drop a)).symm
  rw [List.drop_drop, show a + (b - a) = b by omega] at this
  exact this
theorem sd_one {t : ByteArray} (h : sdOk t = true) : chkS (sdV t) = 0 ∧ encS (sdV t) = t := by
  have hv : sdV t = (sdT t).s := by unfold sdV; rw [if_pos h]
  unfold sdOk at h
  rw [Bool.and_eq_true] at h
  obtain ⟨h1, h2⟩ := h
  have h1 := beq_iff_eq.1 h1
  have h2 := beq_iff_eq.1 h2
  rw [hv]
  refine ⟨h2, ?_⟩
  unfold endE at h1
  split at h1
  · cases h1
  · rename_i hc
    have hn1 := dcN_one t 1099511627776 0 0
    have hcast : ((0 : Nat) : Int) = 0 := rfl
    rw [hcast] at hn1
    unfold sdT at h1 hc h2 ⊢
    simp only at h1 hc h2 ⊢
    generalize dcN t 1099511627776 0 0 = P at *
    obtain ⟨pa, pe, pn⟩ := P
    simp only at *
    obtain ⟨g1, g2, g3⟩ := tS_e h1
    rw [g3] at h1 hc h2 ⊢
    simp only at h1 hc h2 ⊢
    have e3 : (dcN t 7 (dcN t 1099511627776 pa pe).a (dcN t 1099511627776 pa pe).e).e = 0 := by
      by_cases h0 : (dcN t 7 (dcN t 1099511627776 pa pe).a (dcN t 1099511627776 pa pe).e).e = 0
      · exact h0
      · exact absurd g1 (dcI_one.dcI_stuck t 6 _ _ _ h0)
    have st : ∀ m a e, (dcN t m a e).e = 0 → e = 0 := fun m a e h => by
      by_cases he : e = 0
      · exact he
      · unfold dcN nS at h; rw [if_neg he] at h; exact absurd h he
    have e2 := st _ _ _ e3
    have e1 := st _ _ _ e2
    obtain ⟨_, l1, p1, p2, p3⟩ := hn1 e1
    rw [Nat.zero_add] at p1 p2
    subst p1
    subst e1
    obtain ⟨_, l2, q1, q2, q3⟩ := dcN_one t 1099511627776 0 l1 e2
    generalize dcN t 1099511627776 (l1 : Int) 0 = Q at *
    obtain ⟨qa, qe, qn⟩ := Q
    simp only at *
    subst q1 e2
    obtain ⟨_, l3, n1, n2, n3⟩ := dcN_one t 7 0 (l1 + l2) e3
    generalize dcN t 7 ((l1 + l2 : Nat) : Int) 0 = N at *
    obtain ⟨na, ne, nn⟩ := N
    simp only at *
    subst n1 e3
    obtain ⟨_, k2, b4, k3, k4, k5, k6⟩ := dcI_one t 6 nn (l1 + l2 + l3) 0 g1 n2
    generalize dcI t 6 nn ((l1 + l2 + l3 : Nat) : Int) 0 = M at *
    obtain ⟨ma, me, ml⟩ := M
    simp only at *
    subst k3 g1
    obtain ⟨b5, x1, x2, x3, x4⟩ := txtAt_one t b4 g2
    generalize txtAt t (b4 : Int) = X at *
    obtain ⟨xx, xt, xe⟩ := X
    simp only at *
    subst x1
    have hsz : t.data.toList.length = t.size := by rw [Array.length_toList]; rfl
    have h5 : b5 = t.size := by
      have : ¬ (b5 : Int) < (t.size : Int) := fun h => hc ⟨by trivial, h⟩
      omega
    have hall : t.data.toList = put pn ++ (put qn ++ (put nn ++ (msB ml ++ ptx xx))) := by
      have c1 := drop_cut (l := t.data.toList) (a := 0) (b := l1) (by omega)
      have c2 := drop_cut (l := t.data.toList) (a := l1) (b := l1 + l2) (by omega)
      have c3 := drop_cut (l := t.data.toList) (a := l1 + l2) (b := l1 + l2 + l3) (by omega)
      have c4 := drop_cut (l := t.data.toList) (a := l1 + l2 + l3) (b := b4) k4
      have c5 := drop_cut (l := t.data.toList) (a := b4) (b := b5) x2
      have c6 : t.data.toList.drop b5 = [] := List.drop_eq_nil_of_le (by omega)
      rw [show l1 + l2 + l3 - (l1 + l2) = l3 by omega, n3] at c3
      rw [show l1 + l2 - l1 = l2 by omega, q3] at c2
      rw [show l1 - 0 = l1 by omega, p3] at c1
      rw [k6] at c4
      rw [x4, c6, List.append_nil] at c5
      have c0 : t.data.toList = t.data.toList.drop 0 := rfl
      rw [c0, c1, c2, c3, c4, c5]
    unfold encS
    rw [if_pos h2]
    unfold encB
    simp only [Int.toNat_natCast]
    rw [k2]
    have : put pn ++ put qn ++ put nn ++ msB ml ++ ptx xx = t.data.toList := by rw [hall]; simp
    rw [this]
theorem encS_size (s : Sh) : (encS s).size ≤ 200000 := by
  unfold encS
  split
  · rename_i h
    obtain ⟨h1, h2, h3, h4, h5⟩ := chk_ok h
    show (encB s).toArray.size ≤ _
    simp [encB]
    have := (put_len s.ix.toNat).2
    have := (put_len s.tm.toNat).2
    have := (put_len s.ms.length).2
    have := msB_len s.ms
    have := ptx_len s.da
    have := (put_len s.da.size).2
    omega
  · decide
end Go.Proofs.Ytflecoplpdbonaa
namespace Go.Proofs.Ytflecoplpdbonaa
open Go.RowKit Go.Maps
set_option linter.unusedVariables false
set_option linter.unusedSimpArgs false

def snw : Bs := [115, 110, 97, 112, 46, 110, 101, 119]
def snp : Bs := [115, 110, 97, 112]
set_option maxRecDepth 100000 in
theorem changes_one (p : Nat) (c : Nat → Nat) (d : Ds) (w : World) (h : DiskIs w c p d) : Calls Try.prog 14 #[.pointer (some ⟨p, 0, none⟩)] w fun e w' => e = .returned (.int .i64 d.n) ∧ Keep (fun _ => False) w w' := by
  have c5 := h.cells.2.1
  clear h
  go_enter Try.func14, Try.ntmps14
  go_wp2
  go_ret
  exact ⟨rfl, Keep.refl _ _⟩
theorem keepL {w1 wi : World} {c : Nat → Nat} {p : Nat} {s : Ds} {f : FuncId} {args : Array Value} {r : Value} (h : Left w1 c p s wi) (C : ∀ W c, DiskIs W c p s → Calls Try.prog f args W fun e w' => e = .returned r ∧ Keep (fun _ => False) W w') : Calls Try.prog f args wi fun e w' => e = .returned r ∧ Left w1 c p s w' :=
  stepL h (fun W c D => (C W c D).mono fun e w' ⟨he, hk⟩ => ⟨he, left_same D hk⟩)
/-- a snapshot that may be is laid whole -/
def savD (d : Ds) (s : Sh) : Ds × Int := layD d snw snp (frm (encB s))
set_option maxRecDepth 100000 in
set_option maxHeartbeats 1000000 in
theorem save_ok (p : Nat) (c : Nat → Nat) (d : Ds) (v : Value) (s : Sh) (w : World) (h : DiskIs w c p d) (hv : IntsI w v s.ms) (hl : s.ms.length ≤ 9223372036854775807) (hc : chkS s = 0) (L : LyOk d snw snp (frm (encB s))) :
    Calls Try.prog 9 #[.pointer (some ⟨p, 0, none⟩), shV v s] w fun e w' => e = .returned (.int .i64 (savD d s).2) ∧ Left w c p (savD d s).1 w' := by
  obtain ⟨ad, cap, rfl, _⟩ := hv.form
  have h4 := encS_size s
  have he : encS s = ⟨(encB s).toArray⟩ := by unfold encS; rw [if_pos hc]
  have EN : Hid (∀ W, Below w.heap.size w W → Calls Try.prog 20 #[.agg #[.int .i64 s.ix, .int .i64 s.tm, .slice ad s.ms.length cap, .string s.da]] W fun e w' => e = .returned (.tuple #[.string (encS s), .int .i64 0]) ∧ Below W.heap.size W w') := fun W hW => by
    have := encode_any (.slice ad s.ms.length cap) s W (hv.next hW) hl
    rw [hc] at this
    exact this
  have FR : Hid (∀ W, Calls Try.prog 21 #[.string (encS s)] W fun e w' => e = .returned (.tuple #[.string (tx (frm (encB s))), .int .i64 0]) ∧ Below W.heap.size W w') := fun W => by
    have := frame_ok (encS s) W (by omega)
    rw [show (encS s).data.toList = encB s by rw [he]] at this
    exact this
  have LY : Hid (∀ W c, DiskIs W c p d → Calls Try.prog 22 #[.pointer (some ⟨p, 0, none⟩), .string ⟨#[115, 110, 97, 112, 46, 110, 101, 119]⟩, .string ⟨#[115, 110, 97, 112]⟩, .string (tx (frm (encB s)))] W fun e w' => e = .returned (.int .i64 (savD d s).2) ∧ Left W c p (savD d s).1 w') := fun W c D => lay_any p c d snw snp (frm (encB s)) W D L.m0 L.n0 L.m1 L.m2 L.n2 L.m3
  have HL : Hid (Left w c p d w) := left_same h (Keep.refl _ _)
  unfold shV
  generalize tx (frm (encB s)) = F at *
  generalize encS s = E at *
  generalize savD d s = q at *
  obtain ⟨ix, tm, ms, da⟩ := s
  simp only at *
  clear h hv hl hc L h4 he
  go_enter Try.func9, Try.ntmps9
  go_wp2_with fail
  refine (EN.out _ (below_al (Below.refl _ _) _)).mono ?_
  rintro e w1 ⟨rfl, b1⟩
  have H1 := hid ((HL.out.keepR (keep_alloc _ w _)).keepR (b1.keep (fun _ => False)))
  clear b1 EN HL
  go_wp2_with fail
  refine (FR.out _).mono ?_
  rintro e w2 ⟨rfl, b2⟩
  have H2 := hid (H1.out.keepR (b2.keep (fun _ => False)))
  clear b2 FR H1
  go_wp2_with fail
  refine (stepL H2.out LY.out).mono ?_
  rintro e w3 ⟨rfl, hL⟩
  have H3 := hid hL
  clear hL LY H2
  go_wp2
  go_ret
  exact ⟨rfl, H3.out⟩
set_option maxRecDepth 100000 in
set_option maxHeartbeats 1000000 in
theorem spare_good (p : Nat) (c : Nat → Nat) (d : Ds) (w : World) (h : DiskIs w c p d) (hcl : clrD d snw = (d, 0)) (hM : d.wt + d.S.length + d.ws.length + 8 ≤ 70368744177) (hn : d.n ≤ 1152921504606846976) :
    Calls Try.prog 26 #[.pointer (some ⟨p, 0, none⟩)] w fun e w' => e = .returned (.int .i64 0) ∧ Left w c p d w' := by
  have HC : Hid (∀ W c, DiskIs W c p d → Calls Try.prog 14 #[.pointer (some ⟨p, 0, none⟩)] W fun e w' => e = .returned (.int .i64 d.n) ∧ Keep (fun _ => False) W w') := fun W c D => changes_one p c d W D
  have CL : Hid (∀ W c, DiskIs W c p d → Calls Try.prog 42 #[.pointer (some ⟨p, 0, none⟩), .string ⟨#[115, 110, 97, 112, 46, 110, 101, 119]⟩] W fun e w' => e = .returned (.int .i64 0) ∧ Left W c p d w') := fun W c D => by
    have := clear_any p c d snw W D hM hn
    rw [hcl] at this
    exact this
  have HL : Hid (Left w c p d w) := left_same h (Keep.refl _ _)
  have hdl : decide ((d.n : Int) < (d.n : Int)) = false := decide_eq_false (by omega)
  generalize d.n = n at *
  clear h hcl hM hn
  go_enter Try.func26, Try.ntmps26
  go_wp2_with fail
  refine (keepL HL.out HC.out).mono ?_
  rintro e w1 ⟨rfl, hL⟩
  have H1 := hid hL
  clear hL HL
  go_wp2_with fail
  refine (stepL H1.out CL.out).mono ?_
  rintro e w2 ⟨rfl, hL⟩
  have H2 := hid hL
  clear hL H1 CL
  go_wp2_with fail
  refine (keepL H2.out HC.out).mono ?_
  rintro e w3 ⟨rfl, hL⟩
  have H3 := hid hL
  clear hL H2 HC
  go_wp2
  go_ret
  exact ⟨rfl, H3.out⟩
theorem ret_ctt {fn : Func} {p u t : Tmp} {ty : TypeId} (h : fn.results = #[.cell p ty, .tmp u, .tmp t]) (tmps : Array Value) (w : World) (g : Nat) (cs : Array Value) (x y : Value)
    (hp : tmps.getD p undef = .pointer (some ⟨g, 0, none⟩)) (hx : tmps.getD u undef = x) (hy : tmps.getD t undef = y) (hg : (loadVar ty ⟨g, 0, none⟩).run Try.prog w = .ok (.agg cs) w) :
    (results fn tmps).run Try.prog w = .ok (.tuple #[.agg cs, x, y]) w := by
  have : (results fn tmps).run Try.prog w = ((asAddr (tmps.getD p undef)).run Try.prog w).andThen fun a w₁ => ((loadVar ty a).run Try.prog w₁).andThen fun v w₂ => .ok (.tuple #[v, tmps.getD u undef, tmps.getD t undef]) w₂ := by
    simp only [results, h]
    simp [Sem.run_bind, Result.andThen]
  rw [this, hp, hx, hy]
  simp [asAddr, hg, Result.andThen]
/-- a color for a block that is just made: it is not the disk's -/
def cnew (c : Nat → Nat) (g : Nat) : Nat → Nat := fun k => if k = g then 7 else c k
theorem left_new {w : World} {c : Nat → Nat} {p : Nat} {d : Ds} (h : DiskIs w c p d) (o : Obj) : Left (w.alloc o) (cnew c w.heap.size) p d (w.alloc o) ∧ ∀ d' W, Left (w.alloc o) (cnew c w.heap.size) p d' W → Left w c p d' W := by
  have hc : ∀ k, k < w.heap.size → cnew c w.heap.size k = c k := fun k hk => if_neg (by omega)
  exact ⟨left_same (h.keep (keep_alloc (fun _ => False) w o) hc (fun _ _ h => h.elim)) (Keep.refl _ _), fun d' W hL => Left.trans hc (keep_alloc _ _ _) hL⟩
theorem left_row {w W : World} {c : Nat → Nat} {p g : Nat} {d : Ds} {l : List Value} {t : TypeId} (h : Left w (cnew c g) p d W) (r : RowIs w g l t) : RowIs W g l t := r.keep h.2 (fun e => by
  have h' : (if g = g then 7 else c g) < 6 := e
  rw [if_pos rfl] at h'
  omega)
theorem left_done {w W W' : World} {c : Nat → Nat} {p : Nat} {d : Ds} {o : Obj} (h : Left (w.alloc o) (cnew c w.heap.size) p d W) (k : Keep (· = w.heap.size) W W') : Left w c p d W' := by
  obtain ⟨⟨c', D, hc⟩, K⟩ := h
  have h7 : c' w.heap.size = 7 := by rw [hc w.heap.size (by simp)]; exact if_pos rfl
  have hcn : ∀ k, k < w.heap.size → cnew c w.heap.size k = c k := fun k hk => if_neg (by omega)
  refine ⟨⟨c', D.keep k (fun _ _ => rfl) (fun j _ e => by rw [e, h7]; omega), fun k hk => by rw [hc k (by simp; omega), hcn k hk]⟩, ?_⟩
  have k0 : Keep (fun k => c k < 6) w (w.alloc o) := keep_alloc _ _ _
  have k1 : Keep (fun k => c k < 6) w W := k0.then K (fun j hj e => by rw [hcn j hj] at e; exact e)
  exact k1.then k (fun j hj e => by omega)
set_option maxRecDepth 100000 in
set_option maxHeartbeats 1000000 in
theorem load_good (p : Nat) (c : Nat → Nat) (d : Ds) (s : Sh) (w : World) (h : DiskIs w c p d) (hcl : clrD d snw = (d, 0)) (hM : d.wt + d.S.length + d.ws.length + 8 ≤ 70368744177) (hn : d.n ≤ 1152921504606846976) (hrd : rdD d snp = (frm (encB s), 0)) (hc : chkS s = 0) :
    Calls Try.prog 15 #[.pointer (some ⟨p, 0, none⟩)] w fun e w' => ∃ ad cap, e = .returned (.tuple #[shV (.slice ad s.ms.length cap) s, .bool true, .int .i64 0]) ∧ IntsI w' (.slice ad s.ms.length cap) s.ms ∧ Left w c p d w' := by
  have h4 := encS_size s
  have he : encS s = ⟨(encB s).toArray⟩ := by unfold encS; rw [if_pos hc]
  have hd : (encS s).data.toList = encB s := by rw [he]
  have SP : Hid (∀ W c, DiskIs W c p d → Calls Try.prog 26 #[.pointer (some ⟨p, 0, none⟩)] W fun e w' => e = .returned (.int .i64 0) ∧ Left W c p d w') := fun W c D => spare_good p c d W D hcl hM hn
  have RD : Hid (∀ W c, DiskIs W c p d → Calls Try.prog 27 #[.pointer (some ⟨p, 0, none⟩), .string ⟨#[115, 110, 97, 112]⟩] W fun e w' => e = .returned (.tuple #[.string (tx (frm (encB s))), .int .i64 0]) ∧ Keep (fun _ => False) W w') := fun W c D => by
    have := read_any p c d snp W D
    rw [hrd] at this
    exact this
  have hfl : (tx (frm (encB s))).size = 8 + (encS s).size := by
    show (frm (encB s)).toArray.size = _
    rw [List.size_toArray, frm_len, size_of _ _ hd]
  have UF : Hid (∀ W, Calls Try.prog 28 #[.string (tx (frm (encB s))), .int .i64 0] W fun e w' => e = .returned (.tuple #[.string (encS s), .int .i64 ((tx (frm (encB s))).size : Int), .int .i64 0]) ∧ Below W.heap.size W w') := fun W => by
    have := unframe_any (tx (frm (encB s))) 0 W (by omega)
    have u := unf_back (tx (frm (encB s))) (encS s) [] [] (by omega) (by rw [hd]; simp)
    have u' : unfAt (tx (frm (encB s))) 0 = ⟨encS s, ((tx (frm (encB s))).size : Int), 0⟩ := by
      rw [hfl]
      have e0 : ((([] : List UInt8).length : Nat) : Int) = 0 := rfl
      rw [e0] at u
      rw [u]
      simp
    rw [u'] at this
    exact this
  have DC : Hid (∀ W, Calls Try.prog 29 #[.string (encS s)] W fun e w' => ∃ ad cap, e = .returned (.tuple #[.agg #[.int .i64 s.ix, .int .i64 s.tm, .slice ad s.ms.length cap, .string s.da], .int .i64 0]) ∧ OwnI w' W.heap.size (.slice ad s.ms.length cap) s.ms ∧ Below W.heap.size W w') := fun W => by
    have := sdecode_any (encS s) W (by omega)
    rw [(sd_enc hc).1, (sd_enc hc).2] at this
    exact this
  have HL : Hid (Left w c p d w) := left_same h (Keep.refl _ _)
  have HP : Hid (p < w.heap.size) := by obtain ⟨R, hR⟩ := h; exact hR.row.lt
  unfold shV
  generalize tx (frm (encB s)) = F at *
  generalize encS s = E at *
  obtain ⟨ix, tm, ms, da⟩ := s
  simp only at *
  clear hc h4 he hd hfl hcl hM hn hrd
  obtain ⟨L0, TR⟩ := left_new h (.cells #[.int .i64 0, .int .i64 0, .slice none 0 0, .string ⟨#[]⟩] 36)
  have H0 := hid L0
  have HTR := hid TR
  have HR0 := hid (srow w [.int .i64 0, .int .i64 0, .slice none 0 0, .string ⟨#[]⟩] 36)
  clear h L0 TR HL
  generalize hw0 : w.alloc (.cells #[.int .i64 0, .int .i64 0, .slice none 0 0, .string ⟨#[]⟩] 36) = w0 at *
  have HW := hid hw0
  go_enter Try.func15, Try.ntmps15
  go_wp2_with fail
  clear hw0
  refine (stepL H0.out SP.out).mono ?_
  rintro e w1 ⟨rfl, hL⟩
  have H1 := hid hL
  clear hL H0 SP
  go_wp2_with fail
  refine (keepL H1.out RD.out).mono ?_
  rintro e w2 ⟨rfl, hL⟩
  have H2 := hid hL
  clear hL H1 RD
  go_wp2_with fail
  refine (UF.out _).mono ?_
  rintro e w3 ⟨rfl, b3⟩
  have H3 := hid (H2.out.keepR (b3.keep (fun _ => False)))
  clear b3 H2 UF
  have hdl : decide ((F.size : Int) < (F.size : Int)) = false := decide_eq_false (by omega)
  go_wp2_with fail
  refine (DC.out _).mono ?_
  rintro e w4 ⟨ad, cap, rfl, o4, b4⟩
  have HS3 : Hid (w.heap.size + 1 ≤ w3.heap.size) := by have := H3.out.2.size; rw [← HW.out] at this; simp at this; exact this
  have H4 := hid ((H3.out.keepR (b4.keep (fun _ => False))).keepR (keep_alloc _ w4 (.cells #[.int .i64 ix, .int .i64 tm, .slice ad ms.length cap, .string da] 36)))
  clear b4 H3 DC
  have R4 := hid (left_row H4.out HR0.out)
  have r0 := R4.out.cellAt (o := 0) rfl
  have r1 := R4.out.cellAt (o := 1) rfl
  have r2 := R4.out.cellAt (o := 2) rfl
  have r3 := R4.out.cellAt (o := 3) rfl
  have q0 := R4.out.frozen (o := 0)
  have q1 := R4.out.frozen (o := 1)
  have q2 := R4.out.frozen (o := 2)
  have q3 := R4.out.frozen (o := 3)
  go_wp2
  have f := four R4.out (x0 := .int .i64 ix) (x1 := .int .i64 tm) (x2 := .slice ad ms.length cap) (x3 := .string da)
  have hL := H4.out
  rw [← HW.out] at hL
  have hl := left_done hL f.2
  have hsz : w.heap.size + 1 ≤ w3.heap.size := HS3.out
  have ho := f.2.ownsRow ((o4.next ((Below.refl _ _).alloc (Nat.le_refl _) _)) : OwnI (w4.alloc (.cells #[.int .i64 ix, .int .i64 tm, .slice ad ms.length cap, .string da] 36)) _ _ _) (fun g hg e => by have := ownsRow_ge o4 hg; omega)
  exact bodyPost_ret (v := .tuple #[.agg #[.int .i64 ix, .int .i64 tm, .slice ad ms.length cap, .string da], .bool true, .int .i64 0]) (ret_ctt (p := 2) (u := 3) (t := 4) rfl _ _ w.heap.size _ _ _ rfl rfl rfl (run_loadVar_row _ _ _ _ _ _ _ f.1 Try.underlying36 rfl (by kernel_rfl))) rfl ⟨ad, cap, rfl, OwnI.ints ho, hl⟩
end Go.Proofs.Ytflecoplpdbonaa
namespace Go.Proofs.Ytflecoplpdbonaa
open Go.RowKit Go.Maps
set_option linter.unusedVariables false
set_option linter.unusedSimpArgs false

def shx : Sh := ⟨4, 2, [0, 3], ⟨#[120]⟩⟩
theorem shx_ok : chkS shx = 0 := by decide
/-- a new disk on which a snapshot has been laid whole -/
def dSn (F : Bs) : Ds := ⟨[(snp, F)], [], 2, [], false, 0, false⟩
theorem ok_snw : nameOk snw = true := by decide
theorem ok_snp : nameOk snp = true := by decide
theorem snp_ne : snp ≠ snw := by decide
theorem wr_sn (F : Bs) : wrD d0 snw F = (⟨[], [⟨1, snw, [], F, 0⟩], 1, [], false, 0, false⟩, 0) := by
  simp [wrD, d0, ok_snw, fitB, chgD, Ds.more]
theorem syn_sn (F : Bs) : synR ⟨[], [⟨1, snw, [], F, 0⟩], 1, [], false, 0, false⟩ = (⟨[(snw, F)], [], 1, [], false, 0, false⟩, 0) := by
  simp [synR, synD, Ds.now, replay, doC, kput, kins, kdel]
theorem mv_sn (F : Bs) : mvD ⟨[(snw, F)], [], 1, [], false, 0, false⟩ snw snp = (⟨[(snw, F)], [⟨2, snw, snp, [], 0⟩], 2, [], false, 0, false⟩, 0) := by
  have hne2 : ¬ snw = snp := by decide
  simp [mvD, ok_snw, ok_snp, Ds.now, replay, kget, hne2, chgD, Ds.more]
theorem syn_sn2 (F : Bs) : synR ⟨[(snw, F)], [⟨2, snw, snp, [], 0⟩], 2, [], false, 0, false⟩ = (dSn F, 0) := by
  have hne := snp_ne
  have hne2 : ¬ snw = snp := by decide
  simp [synR, synD, Ds.now, replay, doC, kput, kins, kdel, kget, hne, hne2, dSn]
  try (split <;> simp [hne])
theorem lay_sn (F : Bs) : layD d0 snw snp F = (dSn F, 0) := by
  unfold layD
  rw [wr_sn]
  simp only
  rw [if_neg (by simp), syn_sn]
  simp only
  rw [if_neg (by simp), mv_sn F]
  simp only
  rw [if_neg (by simp), syn_sn2 F]
theorem lyok_sn (F : Bs) (hl : F.length ≤ 5000000) : LyOk d0 snw snp F := by
  have h8 : snw.length = 8 := rfl
  have h4 : snp.length = 4 := rfl
  refine ⟨?_, ?_, ?_, ?_, ?_, ?_⟩
  · simp [Ds.wt, d0, tot, h8]; omega
  · simp [d0]
  · rw [wr_sn]; simp [Ds.wt, tot]; omega
  · rw [wr_sn, syn_sn]; simp [Ds.wt, tot, h8, h4]; omega
  · rw [wr_sn, syn_sn]; simp
  · rw [wr_sn, syn_sn, mv_sn]; simp [Ds.wt, tot]; omega
theorem fail_sn (F : Bs) : failD (dSn F) 0 0 = { dSn F with dn := true } := by
  simp [failD, dSn, failS, replay]
theorem rd_sn (F : Bs) : rdD (dSn F) snp = (F, 0) := by
  simp [rdD, dSn, ok_snp, Ds.now, replay, kget]
theorem clr_sn (F : Bs) : clrD (dSn F) snw = (dSn F, 0) := by
  have hne := snp_ne
  simp [clrD, rmD, dSn, ok_snw, Ds.now, replay, kget, hne]
theorem shx_len : (frm (encB shx)).length ≤ 5000000 := by
  have h := encS_size shx
  have he : encS shx = ⟨(encB shx).toArray⟩ := by unfold encS; rw [if_pos shx_ok]
  have : (encB shx).length ≤ 200000 := by rw [← size_of (encS shx) (encB shx) (by rw [he])]; exact h
  rw [frm_len]; omega
set_option maxRecDepth 100000 in
set_option maxHeartbeats 4000000 in
theorem awake7 (w : World) : Calls Try.prog 6 #[] w fun e w' => e = .returned (.bool true) ∧ Below w.heap.size w w' := by
  have NW := hid (new_any w)
  obtain ⟨p, hp⟩ : ∃ p, p = w.heap.size := ⟨_, rfl⟩
  have HP := hid hp
  rw [← hp] at NW
  obtain ⟨D1, hD1⟩ : ∃ D1, D1 = dSn (frm (encB shx)) := ⟨_, rfl⟩
  have S1 : Hid (∀ W, DiskIs W (c0 p) p d0 → Calls Try.prog 9 #[.pointer (some ⟨p, 0, none⟩), .agg #[.int .i64 4, .int .i64 2, .slice (some ⟨W.heap.size, 0, none⟩) 2 2, .string ⟨#[120]⟩]] (W.alloc (.cells #[.int .i64 0, .int .i64 3] 3)) fun e w' => e = .returned (.int .i64 0) ∧ Left W (c0 p) p D1 w') := fun W D => by
    have hk : Keep (fun _ => False) W (W.alloc (.cells #[.int .i64 0, .int .i64 3] 3)) := keep_alloc _ _ _
    have hv : IntsI (W.alloc (.cells #[.int .i64 0, .int .i64 3] 3)) (.slice (some ⟨W.heap.size, 0, none⟩) shx.ms.length 2) shx.ms := by
      have r := srow W [.int .i64 0, .int .i64 3] 3
      refine .inr ⟨W.heap.size, 0, 2, rfl, by simp, fun j hj => ?_⟩
      have hj2 : j < 2 := hj
      match j, hj2 with
      | 0, _ => exact r.cellAt (o := 0) rfl
      | 1, _ => exact r.cellAt (o := 1) rfl
    have := save_ok p (c0 p) d0 _ shx _ (D.keep hk (fun _ _ => rfl) (fun _ _ h => h.elim)) hv (by decide) shx_ok (lyok_sn _ shx_len)
    unfold savD at this
    rw [lay_sn, ← hD1] at this
    exact this.mono fun e w' ⟨he, hL⟩ => ⟨he, Left.trans (fun _ _ => rfl) (hk.mono (fun _ _ h => h.elim)) hL⟩
  have F1 : Hid (∀ W c, DiskIs W c p D1 → Calls Try.prog 12 #[.pointer (some ⟨p, 0, none⟩), .int .i64 0, .int .i64 0] W fun e w' => e = .returned (.tuple #[]) ∧ Left W c p { D1 with dn := true } w') := fun W c hD => by
    have := fail_any p c D1 0 0 W hD (by rw [hD1]; have := shx_len; simp [Ds.wt, dSn, tot]; omega)
    rw [hD1, fail_sn, ← hD1] at this
    exact this
  have U1 : Hid (∀ W c, DiskIs W c p { D1 with dn := true } → Calls Try.prog 13 #[.pointer (some ⟨p, 0, none⟩)] W fun e w' => e = .returned (.bool true) ∧ Left W c p D1 w') := fun W c hD => by
    have := up_any p c { D1 with dn := true } W hD
    rw [hD1] at this ⊢
    exact this
  have L1 : Hid (∀ c W, DiskIs W c p D1 → Calls Try.prog 15 #[.pointer (some ⟨p, 0, none⟩)] W fun e w' => ∃ b off cap, e = .returned (.tuple #[.agg #[.int .i64 4, .int .i64 2, .slice (some ⟨b, off, none⟩) 2 cap, .string ⟨#[120]⟩], .bool true, .int .i64 0]) ∧ (b < w'.heap.size ∧ w'.cell? ⟨b, off + 1, none⟩ = some (.int .i64 3)) ∧ Left W c p D1 w') := fun c W D => by
    have := load_good p c D1 shx W D (by rw [hD1]; exact clr_sn _) (by rw [hD1]; have := shx_len; simp [Ds.wt, dSn, tot]; omega) (by rw [hD1]; simp [dSn]) (by rw [hD1]; exact rd_sn _) shx_ok
    refine this.mono ?_
    rintro e w' ⟨ad, cap, rfl, hI, hL⟩
    obtain ⟨ad', cap', e1, hf⟩ := hI.form
    obtain ⟨b, off, e2, hb, hc⟩ := hf 1 (by decide)
    cases e1
    subst e2
    exact ⟨b, off, cap, rfl, ⟨hb, hc⟩, hL⟩
  clear hD1 hp
  go_enter Try.func6, Try.ntmps6
  go_wp2_with fail
  refine NW.out.mono ?_
  rintro e w1 ⟨rfl, hDA, hkA⟩
  have HKA := hid hkA
  have S1b := hid (S1.out w1 hDA)
  clear NW S1 hDA hkA
  go_wp2_with fail
  refine S1b.out.mono ?_
  rintro e w2 ⟨rfl, hL⟩
  have HLC := hid hL
  clear S1b hL
  go_wp2_with fail
  refine (stepL HLC.out F1.out).mono ?_
  rintro e w4 ⟨rfl, hLD⟩
  have HLD := hid hLD
  clear F1 hLD HLC
  go_wp2_with fail
  refine (stepL HLD.out U1.out).mono ?_
  rintro e w5 ⟨rfl, hLE⟩
  obtain ⟨⟨c5, hD5, hc5⟩, hK5⟩ := hLE
  have TRE : Hid (∀ d' W, Left w5 c5 p d' W → Left w1 (c0 p) p d' W) := fun d' W h => Left.trans hc5 hK5 h
  have L2 := hid (L1.out c5 w5 hD5)
  clear U1 HLD L1 hD5 hc5 hK5
  go_wp2_with fail
  refine L2.out.mono ?_
  rintro e w6 ⟨b, off, cap, rfl, ⟨hb, hcl⟩, hLF⟩
  have HLF := hid (TRE.out _ _ hLF)
  clear L2 hLF TRE
  have HLG := hid (HLF.out.keepR (keep_alloc _ w6 (.cells #[.int .i64 4, .int .i64 2, .slice (some ⟨b, off, none⟩) 2 cap, .string ⟨#[120]⟩] 36)))
  have hcl2 : (w6.alloc (.cells #[.int .i64 4, .int .i64 2, .slice (some ⟨b, off, none⟩) 2 cap, .string ⟨#[120]⟩] 36)).cell? ⟨b, off + 1, none⟩ = some (.int .i64 3) := (((Below.refl _ _).alloc (Nat.le_refl _) _ : Below w6.heap.size w6 _).cell hb).trans hcl
  go_wp2
  go_ret
  refine ⟨rfl, ?_⟩
  have k : Keep (fun k => c0 p k < 6) w _ := (HKA.out.mono (fun _ _ h => h.elim)).trans HLG.out.2
  refine keep_below k (fun j hj h => ?_) (Nat.le_refl _)
  have h' : (if j = p then 0 else 7) < 6 := h
  rw [if_neg (by have := HP.out; omega)] at h'
  omega
end Go.Proofs.Ytflecoplpdbonaa
namespace Go.Proofs.Ytflecoplpdbonaa
open Go.RowKit Go.Maps
set_option linter.unusedVariables false
set_option linter.unusedSimpArgs false

/-- a disk that has a snapshot's file alone -/
def dF (F : Bs) (n : Nat) (bd : Bool) (rm : Int) : Ds := ⟨[(snp, F)], [], n, [], bd, rm, false⟩
theorem dF_sn (F : Bs) : dSn F = dF F 2 false 0 := rfl
theorem bef_no : (Lit.string snw).before (.string snp) = false := by decide
theorem bef_yes : (Lit.string snp).before (.string snw) = true := by decide
theorem wr_dF (F G : Bs) (n : Nat) (bd : Bool) (rm : Int) : wrD (dF F n bd rm) snw G = if fitB bd rm F.length (G.length : Int) = false then (dF F n bd rm, 22) else (⟨[(snp, F)], [⟨1, snw, [], G, 0⟩], n + 1, [], bd, rm, false⟩, 0) := by
  have hne := snp_ne
  have hk : kget ([(snp, F)] : List (Bs × Bs)) snw = none := by simp [kget, hne]
  have hnow : (dF F n bd rm).now = [(snp, F)] := rfl
  unfold wrD
  rw [hnow, hk, show tot [(snp, F)] = F.length from by simp [tot]]
  simp [dF, ok_snw, chgD, Ds.more]
theorem syn_dF (F G : Bs) (n : Nat) (bd : Bool) (rm : Int) : synR ⟨[(snp, F)], [⟨1, snw, [], G, 0⟩], n, [], bd, rm, false⟩ = (⟨[(snp, F), (snw, G)], [], n, [], bd, rm, false⟩, 0) := by
  have hne := snp_ne
  have hb := bef_no
  simp [synR, synD, Ds.now, replay, doC, kput, kins, kdel, hne, hb]
theorem mv_dF (F G : Bs) (n : Nat) (bd : Bool) (rm : Int) : mvD ⟨[(snp, F), (snw, G)], [], n, [], bd, rm, false⟩ snw snp = (⟨[(snp, F), (snw, G)], [⟨2, snw, snp, [], 0⟩], n + 1, [], bd, rm, false⟩, 0) := by
  have hne := snp_ne
  have hne2 : ¬ snw = snp := fun h => hne h.symm
  simp [mvD, ok_snw, ok_snp, Ds.now, replay, kget, hne, hne2, chgD, Ds.more]
theorem syn_dF2 (F G : Bs) (n : Nat) (bd : Bool) (rm : Int) : synR ⟨[(snp, F), (snw, G)], [⟨2, snw, snp, [], 0⟩], n, [], bd, rm, false⟩ = (dF G n bd rm, 0) := by
  have hne := snp_ne
  have hne2 : ¬ snw = snp := fun h => hne h.symm
  have hb := bef_yes
  simp [synR, synD, Ds.now, replay, doC, kput, kins, kdel, kget, hne, hne2, hb, dF]
theorem lay_dF (F G : Bs) (n : Nat) (bd : Bool) (rm : Int) : layD (dF F n bd rm) snw snp G = if fitB bd rm F.length (G.length : Int) = false then (dF F n bd rm, 22) else (dF G (n + 2) bd rm, 0) := by
  unfold layD
  rw [wr_dF]
  by_cases h : fitB bd rm F.length (G.length : Int) = false
  · rw [if_pos h]; simp [h]
  · rw [if_neg h]
    simp only
    rw [if_neg (by simp), syn_dF]
    simp only
    rw [if_neg (by simp), mv_dF]
    simp only
    rw [if_neg (by simp), syn_dF2, if_neg h]
theorem lyok_dF (F G : Bs) (n : Nat) (bd : Bool) (rm : Int) (hF : F.length ≤ 5000000) (hG : G.length ≤ 5000000) (hn : n ≤ 1000) : LyOk (dF F n bd rm) snw snp G := by
  have h8 : snw.length = 8 := rfl
  have h4 : snp.length = 4 := rfl
  by_cases h : fitB bd rm F.length (G.length : Int) = false
  · have e1 : wrD (dF F n bd rm) snw G = (dF F n bd rm, 22) := by rw [wr_dF, if_pos h]
    have e2 : synR (dF F n bd rm) = (dF F n bd rm, 0) := by simp [synR, synD, dF, Ds.now, replay]
    have e3 : (mvD (dF F n bd rm) snw snp).1 = dF F n bd rm := by
      have hne := snp_ne
      simp [mvD, dF, ok_snw, ok_snp, Ds.now, replay, kget, hne]
    refine ⟨?_, ?_, ?_, ?_, ?_, ?_⟩
    · simp [Ds.wt, dF, tot, h8]; omega
    · simp [dF]; omega
    · rw [e1]; simp [Ds.wt, dF, tot]; omega
    · rw [e1, e2]; simp [Ds.wt, dF, tot, h8, h4]; omega
    · rw [e1, e2]; simp [dF]; omega
    · rw [e1, e2, e3]; simp [Ds.wt, dF, tot]; omega
  · have e1 : wrD (dF F n bd rm) snw G = (⟨[(snp, F)], [⟨1, snw, [], G, 0⟩], n + 1, [], bd, rm, false⟩, 0) := by rw [wr_dF, if_neg h]
    refine ⟨?_, ?_, ?_, ?_, ?_, ?_⟩
    · simp [Ds.wt, dF, tot, h8]; omega
    · simp [dF]; omega
    · rw [e1]; simp [Ds.wt, tot]; omega
    · rw [e1, syn_dF]; simp [Ds.wt, tot, h8, h4]; omega
    · rw [e1, syn_dF]; simp; omega
    · rw [e1, syn_dF, mv_dF]; simp [Ds.wt, tot]; omega
theorem rd_dF (F : Bs) (n : Nat) (bd : Bool) (rm : Int) : rdD (dF F n bd rm) snp = (F, 0) := by
  simp [rdD, dF, ok_snp, Ds.now, replay, kget]
theorem clr_dF (F : Bs) (n : Nat) (bd : Bool) (rm : Int) : clrD (dF F n bd rm) snw = (dF F n bd rm, 0) := by
  have hne := snp_ne
  simp [clrD, rmD, dF, ok_snw, Ds.now, replay, kget, hne]
theorem sh_len {s : Sh} (h : chkS s = 0) : (frm (encB s)).length ≤ 5000000 ∧ 8 ≤ (frm (encB s)).length := by
  have h1 := encS_size s
  have he : encS s = ⟨(encB s).toArray⟩ := by unfold encS; rw [if_pos h]
  have : (encB s).length ≤ 200000 := by rw [← size_of (encS s) (encB s) (by rw [he])]; exact h1
  rw [frm_len]
  omega
/-- Save of any snapshot: what becomes of the disk, and what is told -/
def savF (d : Ds) (s : Sh) : Ds × Int := if chkS s = 0 then savD d s else (d, chkS s)
set_option maxRecDepth 100000 in
set_option maxHeartbeats 1000000 in
theorem save_bad (p : Nat) (v : Value) (s : Sh) (w : World) (hv : IntsI w v s.ms) (hl : s.ms.length ≤ 9223372036854775807) (hc : chkS s ≠ 0) :
    Calls Try.prog 9 #[.pointer (some ⟨p, 0, none⟩), shV v s] w fun e w' => e = .returned (.int .i64 (chkS s)) ∧ Below w.heap.size w w' := by
  obtain ⟨ad, cap, rfl, _⟩ := hv.form
  have EN : Hid (∀ W, Below w.heap.size w W → Calls Try.prog 20 #[.agg #[.int .i64 s.ix, .int .i64 s.tm, .slice ad s.ms.length cap, .string s.da]] W fun e w' => e = .returned (.tuple #[.string (encS s), .int .i64 (chkS s)]) ∧ Below W.heap.size W w') := fun W hW => encode_any (.slice ad s.ms.length cap) s W (hv.next hW) hl
  have hne : (chkS s != 0) = true := bne_iff_ne.2 hc
  unfold shV
  generalize encS s = E at *
  generalize chkS s = K at *
  obtain ⟨ix, tm, ms, da⟩ := s
  simp only at *
  clear hv hl hc
  go_enter Try.func9, Try.ntmps9
  go_wp2_with fail
  refine (EN.out _ (below_al (Below.refl _ _) _)).mono ?_
  rintro e w1 ⟨rfl, b1⟩
  have B1 := hid (below_on (below_al (Below.refl w.heap.size w) _) b1)
  clear b1 EN
  go_wp2
  go_ret
  exact ⟨rfl, B1.out⟩
theorem save_all (p : Nat) (c : Nat → Nat) (d : Ds) (v : Value) (s : Sh) (w : World) (h : DiskIs w c p d) (hv : IntsI w v s.ms) (hl : s.ms.length ≤ 9223372036854775807) (L : chkS s = 0 → LyOk d snw snp (frm (encB s))) :
    Calls Try.prog 9 #[.pointer (some ⟨p, 0, none⟩), shV v s] w fun e w' => e = .returned (.int .i64 (savF d s).2) ∧ Left w c p (savF d s).1 w' := by
  unfold savF
  by_cases hc : chkS s = 0
  · rw [if_pos hc]; exact save_ok p c d v s w h hv hl hc (L hc)
  · rw [if_neg hc]
    exact (save_bad p v s w hv hl hc).mono fun e w' ⟨he, hb⟩ => ⟨he, left_same h (hb.keep _)⟩
end Go.Proofs.Ytflecoplpdbonaa
namespace Go.Proofs.Ytflecoplpdbonaa
open Go.RowKit Go.Maps
set_option linter.unusedVariables false
set_option linter.unusedSimpArgs false

theorem own_lowI {w : World} {B B' : Nat} {v : Value} {l : List Int} (h : OwnI w B v l) (hB : B' ≤ B) : OwnI w B' v l := by
  obtain ⟨h1, h2⟩ := h
  refine ⟨h1, ?_⟩
  rcases h2 with h2 | ⟨g, cap, cur, e1, e2, r⟩
  · exact .inl h2
  · exact .inr ⟨g, cap, cur, e1, Nat.le_trans hB e2, r⟩
end Go.Proofs.Ytflecoplpdbonaa
namespace Go.Proofs.Ytflecoplpdbonaa
open Go.RowKit Go.Maps
set_option linter.unusedVariables false
set_option linter.unusedSimpArgs false

/-- what clearing the spare file makes of a disk, and what is told -/
def spD (d : Ds) : Ds × Int := if (clrD d snw).2 = 0 ∧ d.n < (clrD d snw).1.n then synR (clrD d snw).1 else clrD d snw
/-- a disk on which a snapshot can be loaded within our bounds -/
structure LdOk (d : Ds) : Prop where
  m0 : d.wt + d.S.length + d.ws.length + 8 ≤ 70368744177
  n0 : d.n ≤ 1152921504606846976
  m1 : (clrD d snw).1.wt + (clrD d snw).1.S.length + (clrD d snw).1.ws.length ≤ 70368744177
  n1 : (clrD d snw).1.n ≤ 1152921504606846977
set_option maxRecDepth 100000 in
set_option maxHeartbeats 1000000 in
theorem spare_any (p : Nat) (c : Nat → Nat) (d : Ds) (w : World) (h : DiskIs w c p d) (L : LdOk d) :
    Calls Try.prog 26 #[.pointer (some ⟨p, 0, none⟩)] w fun e w' => e = .returned (.int .i64 (spD d).2) ∧ Left w c p (spD d).1 w' := by
  have HC : Hid (∀ W c, DiskIs W c p d → Calls Try.prog 14 #[.pointer (some ⟨p, 0, none⟩)] W fun e w' => e = .returned (.int .i64 d.n) ∧ Keep (fun _ => False) W w') := fun W c D => changes_one p c d W D
  have CL : Hid (∀ W c, DiskIs W c p d → Calls Try.prog 42 #[.pointer (some ⟨p, 0, none⟩), .string ⟨#[115, 110, 97, 112, 46, 110, 101, 119]⟩] W fun e w' => e = .returned (.int .i64 (clrD d snw).2) ∧ Left W c p (clrD d snw).1 w') := fun W c D => clear_any p c d snw W D L.m0 L.n0
  have HC2 : Hid (∀ W c, DiskIs W c p (clrD d snw).1 → Calls Try.prog 14 #[.pointer (some ⟨p, 0, none⟩)] W fun e w' => e = .returned (.int .i64 (clrD d snw).1.n) ∧ Keep (fun _ => False) W w') := fun W c D => changes_one p c _ W D
  have SY : Hid (∀ W c, DiskIs W c p (clrD d snw).1 → Calls Try.prog 37 #[.pointer (some ⟨p, 0, none⟩)] W fun e w' => e = .returned (.int .i64 (synR (clrD d snw).1).2) ∧ Left W c p (synR (clrD d snw).1).1 w') := fun W c D => sync_all p c _ W D L.m1
  have HL : Hid (Left w c p d w) := left_same h (Keep.refl _ _)
  have HE : Hid (spD d = if (clrD d snw).2 = 0 ∧ d.n < (clrD d snw).1.n then synR (clrD d snw).1 else clrD d snw) := rfl
  generalize spD d = q at *
  generalize synR (clrD d snw).1 = r2 at *
  generalize clrD d snw = r1 at *
  obtain ⟨d1, k1⟩ := r1
  obtain ⟨d2, k2⟩ := r2
  simp only at HC2 SY CL HE
  clear h L
  go_enter Try.func26, Try.ntmps26
  go_wp2_with fail
  refine (keepL HL.out HC.out).mono ?_
  rintro e w1 ⟨rfl, hL⟩
  have H1 := hid hL
  clear hL HL HC
  go_wp2_with fail
  refine (stepL H1.out CL.out).mono ?_
  rintro e w2 ⟨rfl, hL⟩
  have H2 := hid hL
  clear hL H1 CL
  by_cases h1 : k1 = 0
  · subst h1
    go_wp2_with fail
    refine (keepL H2.out HC2.out).mono ?_
    rintro e w3 ⟨rfl, hL⟩
    have H3 := hid hL
    clear hL H2 HC2
    by_cases h2 : d.n < d1.n
    · have hdl : decide ((d.n : Int) < (d1.n : Int)) = true := decide_eq_true (by omega)
      have hdm : decide (d.n < d1.n) = true := decide_eq_true h2
      have HQ : Hid (q = (d2, k2)) := by have h9 := HE.out; refine hid ?_; simpa [h2] using h9
      clear HE h2
      generalize d.n = n at *
      generalize d1.n = n1 at *
      go_wp2_with fail
      refine (stepL H3.out SY.out).mono ?_
      rintro e w4 ⟨rfl, hL⟩
      have H4 := hid hL
      clear hL H3 SY
      go_wp2
      go_ret
      exact ⟨ret_int (by rw [HQ.out]), by rw [HQ.out]; exact H4.out⟩
    · have hdl : decide ((d.n : Int) < (d1.n : Int)) = false := decide_eq_false (by omega)
      have hdm : decide (d.n < d1.n) = false := decide_eq_false h2
      have HQ : Hid (q = (d1, 0)) := by have h9 := HE.out; refine hid ?_; simpa [h2] using h9
      clear HE h2 SY
      generalize d.n = n at *
      generalize d1.n = n1 at *
      go_wp2
      go_ret
      exact ⟨ret_int (by rw [HQ.out]), by rw [HQ.out]; exact H3.out⟩
  · have hne : (k1 != 0) = true := by rw [bne_iff_ne]; exact h1
    have hne2 : (k1 == 0) = false := by rw [beq_eq_false_iff_ne]; exact h1
    have HQ : Hid (q = (d1, k1)) := by have h9 := HE.out; refine hid ?_; simpa [h1] using h9
    clear HE HC2 SY h1
    go_wp2
    go_ret
    exact ⟨ret_int (by rw [HQ.out]), by rw [HQ.out]; exact H2.out⟩
/-- what is loaded: a snapshot, whether there is one, an error -/
structure LdR where
  s : Sh
  b : Bool
  e : Int
/-- .. from a file's bytes -/
def ldF (F : Bs) : LdR :=
  if (unfAt (tx F) 0).e = 0 ∧ (unfAt (tx F) 0).to = (F.length : Int) then
    if sdE (unfAt (tx F) 0).x = 0 then ⟨sdV (unfAt (tx F) 0).x, true, 0⟩ else ⟨sh0, false, 31⟩
  else ⟨sh0, false, 31⟩
/-- .. from a disk -/
def ldD (d : Ds) : LdR :=
  if (spD d).2 ≠ 0 then ⟨sh0, false, (spD d).2⟩
  else if (rdD (spD d).1 snp).2 = 4 then ⟨sh0, false, 0⟩
  else if (rdD (spD d).1 snp).2 ≠ 0 then ⟨sh0, false, (rdD (spD d).1 snp).2⟩
  else ldF (rdD (spD d).1 snp).1
theorem unf_to_le (s : ByteArray) : (unfAt s 0).to ≤ (s.size : Int) ∧ (unfAt s 0).x.size ≤ s.size := by
  unfold unfAt
  split
  · split
    · split
      · split
        · refine ⟨by simp only; omega, ?_⟩
          simp only [ByteArray.size_extract]; omega
        · exact ⟨Int.natCast_nonneg _, Nat.zero_le _⟩
      · exact ⟨Int.natCast_nonneg _, Nat.zero_le _⟩
    · exact ⟨Int.natCast_nonneg _, Nat.zero_le _⟩
  · exact ⟨Int.natCast_nonneg _, Nat.zero_le _⟩
set_option maxRecDepth 100000 in
set_option maxHeartbeats 4000000 in
theorem load_any (p : Nat) (c : Nat → Nat) (d : Ds) (w : World) (h : DiskIs w c p d) (L : LdOk d) (hF : (rdD (spD d).1 snp).1.length ≤ 1000000000) :
    Calls Try.prog 15 #[.pointer (some ⟨p, 0, none⟩)] w fun e w' => ∃ ad cap, e = .returned (.tuple #[shV (.slice ad (ldD d).s.ms.length cap) (ldD d).s, .bool (ldD d).b, .int .i64 (ldD d).e]) ∧ IntsI w' (.slice ad (ldD d).s.ms.length cap) (ldD d).s.ms ∧ Left w c p (spD d).1 w' := by
  have SP : Hid (∀ W c, DiskIs W c p d → Calls Try.prog 26 #[.pointer (some ⟨p, 0, none⟩)] W fun e w' => e = .returned (.int .i64 (spD d).2) ∧ Left W c p (spD d).1 w') := fun W c D => spare_any p c d W D L
  have RD : Hid (∀ W c, DiskIs W c p (spD d).1 → Calls Try.prog 27 #[.pointer (some ⟨p, 0, none⟩), .string ⟨#[115, 110, 97, 112]⟩] W fun e w' => e = .returned (.tuple #[.string (tx (rdD (spD d).1 snp).1), .int .i64 (rdD (spD d).1 snp).2]) ∧ Keep (fun _ => False) W w') := fun W c D => read_any p c _ snp W D
  have HE : Hid (ldD d = if (spD d).2 ≠ 0 then ⟨sh0, false, (spD d).2⟩
  else if (rdD (spD d).1 snp).2 = 4 then ⟨sh0, false, 0⟩
  else if (rdD (spD d).1 snp).2 ≠ 0 then ⟨sh0, false, (rdD (spD d).1 snp).2⟩
  else ldF (rdD (spD d).1 snp).1) := rfl
  have HL : Hid (Left w c p d w) := left_same h (Keep.refl _ _)
  have HP : Hid (p < w.heap.size) := by obtain ⟨R, hR⟩ := h; exact hR.row.lt
  generalize ldD d = Q at *
  generalize spD d = r1 at *
  obtain ⟨d1, k1⟩ := r1
  simp only at *
  generalize rdD d1 snp = r2 at *
  obtain ⟨F, k2⟩ := r2
  simp only at *
  have hfl : (tx F).size = F.length := by show (F.toArray).size = _; simp
  have UF : Hid (∀ W, Calls Try.prog 28 #[.string (tx F), .int .i64 0] W fun e w' => e = .returned (.tuple #[.string (unfAt (tx F) 0).x, .int .i64 (unfAt (tx F) 0).to, .int .i64 (unfAt (tx F) 0).e]) ∧ Below W.heap.size W w') := fun W => unframe_any (tx F) 0 W (by omega)
  have hto := unf_to_le (tx F)
  have HLF : Hid (ldF F = if (unfAt (tx F) 0).e = 0 ∧ (unfAt (tx F) 0).to = (F.length : Int) then
    if sdE (unfAt (tx F) 0).x = 0 then ⟨sdV (unfAt (tx F) 0).x, true, 0⟩ else ⟨sh0, false, 31⟩
  else ⟨sh0, false, 31⟩) := rfl
  generalize ldF F = Q2 at *
  generalize unfAt (tx F) 0 = u at *
  obtain ⟨x, to, ue⟩ := u
  simp only at *
  have DC : Hid (∀ W, Calls Try.prog 29 #[.string x] W fun e w' => ∃ ad cap, e = .returned (.tuple #[shV (.slice ad (sdV x).ms.length cap) (sdV x), .int .i64 (sdE x)]) ∧ OwnI w' W.heap.size (.slice ad (sdV x).ms.length cap) (sdV x).ms ∧ Below W.heap.size W w') := fun W => sdecode_any x W (by omega)
  unfold shV at DC ⊢
  generalize sdV x = V at *
  generalize sdE x = E at *
  obtain ⟨ix, tm, ms, da⟩ := V
  simp only at *
  rw [← hfl] at HLF
  have HTO : Hid (to ≤ ((tx F).size : Int)) := hto.1
  generalize tx F = G at *
  clear hfl hto hF L
  obtain ⟨L0, TR⟩ := left_new h (.cells #[.int .i64 0, .int .i64 0, .slice none 0 0, .string ⟨#[]⟩] 36)
  have H0 := hid L0
  have HTR := hid TR
  have HR0 := hid (srow w [.int .i64 0, .int .i64 0, .slice none 0 0, .string ⟨#[]⟩] 36)
  clear h L0 TR HL
  generalize hw0 : w.alloc (.cells #[.int .i64 0, .int .i64 0, .slice none 0 0, .string ⟨#[]⟩] 36) = w0 at *
  have HW := hid hw0
  go_enter Try.func15, Try.ntmps15
  go_wp2_with fail
  clear hw0
  refine (stepL H0.out SP.out).mono ?_
  rintro e w1 ⟨rfl, hL⟩
  have H1 := hid hL
  clear hL H0 SP
  by_cases h1 : k1 = 0
  · subst h1
    go_wp2_with fail
    refine (keepL H1.out RD.out).mono ?_
    rintro e w2 ⟨rfl, hL⟩
    have H2 := hid hL
    clear hL H1 RD
    by_cases h2 : k2 = 4
    · subst h2
      have HQ : Hid (Q = ⟨sh0, false, 0⟩) := by have h9 := HE.out; refine hid ?_; simpa using h9
      clear HE UF DC HLF
      have R4 := hid (left_row H2.out HR0.out)
      have r0 := R4.out.cellAt (o := 0) rfl
      have r1 := R4.out.cellAt (o := 1) rfl
      have r2 := R4.out.cellAt (o := 2) rfl
      have r3 := R4.out.cellAt (o := 3) rfl
      have q0 := R4.out.frozen (o := 0)
      have q1 := R4.out.frozen (o := 1)
      have q2 := R4.out.frozen (o := 2)
      have q3 := R4.out.frozen (o := 3)
      go_wp2
      have f := four R4.out (x0 := .int .i64 0) (x1 := .int .i64 0) (x2 := .slice none 0 0) (x3 := .string ⟨#[]⟩)
      have hL := H2.out
      rw [← HW.out] at hL
      have hl := left_done hL f.2
      rw [HQ.out]
      exact bodyPost_ret (v := .tuple #[.agg #[.int .i64 0, .int .i64 0, .slice none 0 0, .string ⟨#[]⟩], .bool false, .int .i64 0]) (ret_ctt (p := 2) (u := 3) (t := 4) rfl _ _ w.heap.size _ _ _ rfl rfl rfl (run_loadVar_row _ _ _ _ _ _ _ f.1 Try.underlying36 rfl (by kernel_rfl))) rfl ⟨none, 0, rfl, ints_none _, hl⟩
    · have hn4 : (k2 == 4) = false := beq_eq_false_iff_ne.2 h2
      by_cases h3 : k2 = 0
      · subst h3
        have HE2 : Hid (Q = Q2) := by have h9 := HE.out; refine hid ?_; simpa using h9
        clear HE h2 hn4
        have HE : Hid (Q = if ue = 0 ∧ to = (G.size : Int) then if E = 0 then ⟨⟨ix, tm, ms, da⟩, true, 0⟩ else ⟨sh0, false, 31⟩ else ⟨sh0, false, 31⟩) := HE2.out.trans HLF.out
        clear HE2 HLF
        go_wp2_with fail
        refine (UF.out _).mono ?_
        rintro e w3 ⟨rfl, b3⟩
        have H3 := hid (H2.out.keepR (b3.keep (fun _ => False)))
        clear b3 H2 UF
        by_cases h4 : ue = 0
        · subst h4
          by_cases h5 : to = (G.size : Int)
          · have h5' := h5
            subst h5
            have hdl : decide ((G.size : Int) < (G.size : Int)) = false := decide_eq_false (by omega)
            have hdm : decide (G.size < G.size) = false := decide_eq_false (by omega)
            go_wp2_with fail
            refine (DC.out _).mono ?_
            rintro e w4 ⟨ad, cap, rfl, o4, b4⟩
            have O4 := hid o4
            have B4 := hid b4
            have HS3 : Hid (w.heap.size + 1 ≤ w3.heap.size) := by have := H3.out.2.size; rw [← HW.out] at this; simp at this; exact this
            have H4 := hid ((H3.out.keepR (b4.keep (fun _ => False))).keepR (keep_alloc _ w4 (.cells #[.int .i64 ix, .int .i64 tm, .slice ad ms.length cap, .string da] 36)))
            clear b4 o4 H3 DC
            by_cases h6 : E = 0
            · subst h6
              have HQ : Hid (Q = ⟨⟨ix, tm, ms, da⟩, true, 0⟩) := by have h9 := HE.out; refine hid ?_; simpa using h9
              clear HE
              have R4 := hid (left_row H4.out HR0.out)
              have r0 := R4.out.cellAt (o := 0) rfl
              have r1 := R4.out.cellAt (o := 1) rfl
              have r2 := R4.out.cellAt (o := 2) rfl
              have r3 := R4.out.cellAt (o := 3) rfl
              have q0 := R4.out.frozen (o := 0)
              have q1 := R4.out.frozen (o := 1)
              have q2 := R4.out.frozen (o := 2)
              have q3 := R4.out.frozen (o := 3)
              go_wp2
              have f := four R4.out (x0 := .int .i64 ix) (x1 := .int .i64 tm) (x2 := .slice ad ms.length cap) (x3 := .string da)
              have hL := H4.out
              rw [← HW.out] at hL
              have hl := left_done hL f.2
              have hsz : w.heap.size + 1 ≤ w3.heap.size := HS3.out
              have ho := f.2.ownsRow ((O4.out.next ((Below.refl _ _).alloc (Nat.le_refl _) _)) : OwnI (w4.alloc (.cells #[.int .i64 ix, .int .i64 tm, .slice ad ms.length cap, .string da] 36)) _ _ _) (fun g hg e => by have := ownsRow_ge O4.out hg; omega)
              rw [HQ.out]
              exact bodyPost_ret (v := .tuple #[.agg #[.int .i64 ix, .int .i64 tm, .slice ad ms.length cap, .string da], .bool true, .int .i64 0]) (ret_ctt (p := 2) (u := 3) (t := 4) rfl _ _ w.heap.size _ _ _ rfl rfl rfl (run_loadVar_row _ _ _ _ _ _ _ f.1 Try.underlying36 rfl (by kernel_rfl))) rfl ⟨ad, cap, rfl, OwnI.ints ho, hl⟩
            · have hne : (E != 0) = true := bne_iff_ne.2 h6
              have HQ : Hid (Q = ⟨sh0, false, 31⟩) := by have h9 := HE.out; refine hid ?_; simpa [h6] using h9
              clear HE h6
              have R4 := hid (left_row H4.out HR0.out)
              have r0 := R4.out.cellAt (o := 0) rfl
              have r1 := R4.out.cellAt (o := 1) rfl
              have r2 := R4.out.cellAt (o := 2) rfl
              have r3 := R4.out.cellAt (o := 3) rfl
              have q0 := R4.out.frozen (o := 0)
              have q1 := R4.out.frozen (o := 1)
              have q2 := R4.out.frozen (o := 2)
              have q3 := R4.out.frozen (o := 3)
              go_wp2
              have f := four R4.out (x0 := .int .i64 0) (x1 := .int .i64 0) (x2 := .slice none 0 0) (x3 := .string ⟨#[]⟩)
              have hL := H4.out
              rw [← HW.out] at hL
              have hl := left_done hL f.2
              rw [HQ.out]
              exact bodyPost_ret (v := .tuple #[.agg #[.int .i64 0, .int .i64 0, .slice none 0 0, .string ⟨#[]⟩], .bool false, .int .i64 31]) (ret_ctt (p := 2) (u := 3) (t := 4) rfl _ _ w.heap.size _ _ _ rfl rfl rfl (run_loadVar_row _ _ _ _ _ _ _ f.1 Try.underlying36 rfl (by kernel_rfl))) rfl ⟨none, 0, rfl, ints_none _, hl⟩
          · have hlt : to < (G.size : Int) := by have := HTO.out; omega
            have hdl : decide (to < (G.size : Int)) = true := decide_eq_true hlt
            have H5 := hid h5
            clear h5 hlt
            have HQ : Hid (Q = ⟨sh0, false, 31⟩) := by have h9 := HE.out; refine hid ?_; simpa [H5.out] using h9
            clear HE H5 HTO DC
            have R4 := hid (left_row H3.out HR0.out)
            have r0 := R4.out.cellAt (o := 0) rfl
            have r1 := R4.out.cellAt (o := 1) rfl
            have r2 := R4.out.cellAt (o := 2) rfl
            have r3 := R4.out.cellAt (o := 3) rfl
            have q0 := R4.out.frozen (o := 0)
            have q1 := R4.out.frozen (o := 1)
            have q2 := R4.out.frozen (o := 2)
            have q3 := R4.out.frozen (o := 3)
            go_wp2
            have f := four R4.out (x0 := .int .i64 0) (x1 := .int .i64 0) (x2 := .slice none 0 0) (x3 := .string ⟨#[]⟩)
            have hL := H3.out
            rw [← HW.out] at hL
            have hl := left_done hL f.2
            rw [HQ.out]
            exact bodyPost_ret (v := .tuple #[.agg #[.int .i64 0, .int .i64 0, .slice none 0 0, .string ⟨#[]⟩], .bool false, .int .i64 31]) (ret_ctt (p := 2) (u := 3) (t := 4) rfl _ _ w.heap.size _ _ _ rfl rfl rfl (run_loadVar_row _ _ _ _ _ _ _ f.1 Try.underlying36 rfl (by kernel_rfl))) rfl ⟨none, 0, rfl, ints_none _, hl⟩
        · have hne : (((ue : Nat) : Int) != 0) = true := bne_iff_ne.2 (by omega)
          have H5 := hid h4
          clear h4
          have HQ : Hid (Q = ⟨sh0, false, 31⟩) := by have h9 := HE.out; refine hid ?_; simpa [H5.out] using h9
          clear HE H5 HTO DC
          have R4 := hid (left_row H3.out HR0.out)
          have r0 := R4.out.cellAt (o := 0) rfl
          have r1 := R4.out.cellAt (o := 1) rfl
          have r2 := R4.out.cellAt (o := 2) rfl
          have r3 := R4.out.cellAt (o := 3) rfl
          have q0 := R4.out.frozen (o := 0)
          have q1 := R4.out.frozen (o := 1)
          have q2 := R4.out.frozen (o := 2)
          have q3 := R4.out.frozen (o := 3)
          go_wp2
          have f := four R4.out (x0 := .int .i64 0) (x1 := .int .i64 0) (x2 := .slice none 0 0) (x3 := .string ⟨#[]⟩)
          have hL := H3.out
          rw [← HW.out] at hL
          have hl := left_done hL f.2
          rw [HQ.out]
          exact bodyPost_ret (v := .tuple #[.agg #[.int .i64 0, .int .i64 0, .slice none 0 0, .string ⟨#[]⟩], .bool false, .int .i64 31]) (ret_ctt (p := 2) (u := 3) (t := 4) rfl _ _ w.heap.size _ _ _ rfl rfl rfl (run_loadVar_row _ _ _ _ _ _ _ f.1 Try.underlying36 rfl (by kernel_rfl))) rfl ⟨none, 0, rfl, ints_none _, hl⟩
      · have hne : (k2 != 0) = true := bne_iff_ne.2 h3
        have H5 := hid h3
        have H6 := hid h2
        clear h2 h3
        have HQ : Hid (Q = ⟨sh0, false, k2⟩) := by have h9 := HE.out; refine hid ?_; simpa [H5.out, H6.out] using h9
        clear HE H5 H6 UF DC HLF
        have R4 := hid (left_row H2.out HR0.out)
        have r0 := R4.out.cellAt (o := 0) rfl
        have r1 := R4.out.cellAt (o := 1) rfl
        have r2 := R4.out.cellAt (o := 2) rfl
        have r3 := R4.out.cellAt (o := 3) rfl
        have q0 := R4.out.frozen (o := 0)
        have q1 := R4.out.frozen (o := 1)
        have q2 := R4.out.frozen (o := 2)
        have q3 := R4.out.frozen (o := 3)
        go_wp2
        have f := four R4.out (x0 := .int .i64 0) (x1 := .int .i64 0) (x2 := .slice none 0 0) (x3 := .string ⟨#[]⟩)
        have hL := H2.out
        rw [← HW.out] at hL
        have hl := left_done hL f.2
        rw [HQ.out]
        exact bodyPost_ret (v := .tuple #[.agg #[.int .i64 0, .int .i64 0, .slice none 0 0, .string ⟨#[]⟩], .bool false, .int .i64 k2]) (ret_ctt (p := 2) (u := 3) (t := 4) rfl _ _ w.heap.size _ _ _ rfl rfl rfl (run_loadVar_row _ _ _ _ _ _ _ f.1 Try.underlying36 rfl (by kernel_rfl))) rfl ⟨none, 0, rfl, ints_none _, hl⟩
  · have hne : (k1 != 0) = true := by rw [bne_iff_ne]; exact h1
    have H5 := hid h1
    clear h1
    have HQ : Hid (Q = ⟨sh0, false, k1⟩) := by have h9 := HE.out; refine hid ?_; simpa [H5.out] using h9
    clear HE H5 UF DC RD HLF
    have R4 := hid (left_row H1.out HR0.out)
    have r0 := R4.out.cellAt (o := 0) rfl
    have r1 := R4.out.cellAt (o := 1) rfl
    have r2 := R4.out.cellAt (o := 2) rfl
    have r3 := R4.out.cellAt (o := 3) rfl
    have q0 := R4.out.frozen (o := 0)
    have q1 := R4.out.frozen (o := 1)
    have q2 := R4.out.frozen (o := 2)
    have q3 := R4.out.frozen (o := 3)
    go_wp2
    have f := four R4.out (x0 := .int .i64 0) (x1 := .int .i64 0) (x2 := .slice none 0 0) (x3 := .string ⟨#[]⟩)
    have hL := H1.out
    rw [← HW.out] at hL
    have hl := left_done hL f.2
    rw [HQ.out]
    exact bodyPost_ret (v := .tuple #[.agg #[.int .i64 0, .int .i64 0, .slice none 0 0, .string ⟨#[]⟩], .bool false, .int .i64 k1]) (ret_ctt (p := 2) (u := 3) (t := 4) rfl _ _ w.heap.size _ _ _ rfl rfl rfl (run_loadVar_row _ _ _ _ _ _ _ f.1 Try.underlying36 rfl (by kernel_rfl))) rfl ⟨none, 0, rfl, ints_none _, hl⟩
end Go.Proofs.Ytflecoplpdbonaa
namespace Go.Proofs.Ytflecoplpdbonaa
open Go.RowKit Go.Maps
set_option linter.unusedVariables false
set_option linter.unusedSimpArgs false

def faF (A B : Option Bs) : List (Bs × Bs) := (match A with | some F => [(snp, F)] | none => []) ++ (match B with | some G => [(snw, G)] | none => [])
/-- the law's disk -/
def faD (A B : Option Bs) (n : Nat) (fl : List Fl) (dn : Bool) : Ds := ⟨faF A B, [], n, fl, false, 0, dn⟩
def OkB (A : Option Bs) : Prop := ∀ F, A = some F → F.length ≤ 5000000
theorem ne_ws : ¬ snw = snp := fun h => snp_ne h.symm
/-- a loss of power that strikes a change -/
theorem fa_fail_w (A : Option Bs) (G : Bs) (n : Nat) (fl : List Fl) (k t : Int) : ∃ B, failD ⟨faF A none, [⟨1, snw, [], G, 0⟩], n, fl, false, 0, false⟩ k t = faD A B n fl true ∧ ∀ X, B = some X → X.length ≤ G.length := by
  have hne := snp_ne
  have hne2 := ne_ws
  have hb := bef_no
  unfold failD failS keepN
  by_cases hk : 1 ≤ k.toNat
  · rw [show min k.toNat [(⟨1, snw, [], G, 0⟩ : Chg)].length = 1 from by simp; omega]
    refine ⟨some G, ?_, fun X h => by injection h with h; subst h; omega⟩
    cases A <;> simp [faD, faF, replay, doC, kput, kins, kdel, hne, hne2, hb]
  · rw [show min k.toNat [(⟨1, snw, [], G, 0⟩ : Chg)].length = 0 from by simp; omega]
    by_cases ht : t ≤ 0
    · refine ⟨none, ?_, fun X h => by cases h⟩
      cases A <;> simp [faD, faF, replay, tearC, ht]
    · refine ⟨some (G.take t.toNat), ?_, fun X h => by injection h with h; subst h; simp; omega⟩
      cases A <;> simp [faD, faF, replay, tearC, ht, doC, kput, kins, kdel, hne, hne2, hb]
theorem fa_fail_m (A : Option Bs) (G : Bs) (n : Nat) (fl : List Fl) (k t : Int) : failD ⟨faF A (some G), [⟨2, snw, snp, [], 0⟩], n, fl, false, 0, false⟩ k t = faD A (some G) n fl true ∨ failD ⟨faF A (some G), [⟨2, snw, snp, [], 0⟩], n, fl, false, 0, false⟩ k t = faD (some G) none n fl true := by
  have hne := snp_ne
  have hne2 := ne_ws
  have hb := bef_yes
  unfold failD failS keepN
  by_cases hk : 1 ≤ k.toNat
  · rw [show min k.toNat [(⟨2, snw, snp, [], 0⟩ : Chg)].length = 1 from by simp; omega]
    refine .inr ?_
    cases A <;> simp [faD, faF, replay, doC, kput, kins, kdel, kget, hne, hne2, hb]
  · rw [show min k.toNat [(⟨2, snw, snp, [], 0⟩ : Chg)].length = 0 from by simp; omega]
    refine .inl ?_
    cases A <;> simp [faD, faF, replay, tearC]
theorem fa_fail_r (A : Option Bs) (G : Bs) (n : Nat) (fl : List Fl) (k t : Int) : ∃ B, failD ⟨faF A (some G), [⟨3, snw, [], [], 0⟩], n, fl, false, 0, false⟩ k t = faD A B n fl true ∧ (B = some G ∨ B = none) := by
  have hne := snp_ne
  have hne2 := ne_ws
  unfold failD failS keepN
  by_cases hk : 1 ≤ k.toNat
  · rw [show min k.toNat [(⟨3, snw, [], [], 0⟩ : Chg)].length = 1 from by simp; omega]
    refine ⟨none, ?_, .inr rfl⟩
    cases A <;> simp [faD, faF, replay, doC, kdel, hne, hne2]
  · rw [show min k.toNat [(⟨3, snw, [], [], 0⟩ : Chg)].length = 0 from by simp; omega]
    refine ⟨some G, ?_, .inl rfl⟩
    cases A <;> simp [faD, faF, replay, tearC]
/-- a loss of power where nothing waits -/
theorem fa_fail (A B : Option Bs) (n : Nat) (fl : List Fl) (dn : Bool) (k t : Int) : failD (faD A B n fl dn) k t = faD A B n fl true := by
  cases dn <;> simp [failD, faD, failS, keepN, replay]
theorem fa_wr (A : Option Bs) (G : Bs) (n : Nat) (f : Fl) : wrD (faD A none n [f] false) snw G = if f.at_ = (n : Int) then (failD ⟨faF A none, [⟨1, snw, [], G, 0⟩], n, [], false, 0, false⟩ f.keep f.torn, 21) else (⟨faF A none, [⟨1, snw, [], G, 0⟩], n + 1, [f], false, 0, false⟩, 0) := by
  have hne := snp_ne
  by_cases h : f.at_ = (n : Int)
  · rw [if_pos h]
    cases A <;> simp [wrD, faD, ok_snw, fitB, chgD, h, Ds.more, offF]
  · rw [if_neg h]
    cases A <;> simp [wrD, faD, ok_snw, fitB, chgD, h, Ds.more]
theorem fa_sy1 (A : Option Bs) (G : Bs) (n : Nat) (fl : List Fl) : synR ⟨faF A none, [⟨1, snw, [], G, 0⟩], n, fl, false, 0, false⟩ = (faD A (some G) n fl false, 0) := by
  have hne := snp_ne
  have hb := bef_no
  cases A <;> simp [synR, synD, Ds.now, replay, doC, kput, kins, kdel, hne, hb, faD, faF]
theorem fa_sy0 (A B : Option Bs) (n : Nat) (fl : List Fl) : synR (faD A B n fl true) = (faD A B n fl true, 21) := by simp [synR, faD]
theorem fa_mv (A : Option Bs) (G : Bs) (n : Nat) (f : Fl) : mvD (faD A (some G) n [f] false) snw snp = if f.at_ = (n : Int) then (failD ⟨faF A (some G), [⟨2, snw, snp, [], 0⟩], n, [], false, 0, false⟩ f.keep f.torn, 21) else (⟨faF A (some G), [⟨2, snw, snp, [], 0⟩], n + 1, [f], false, 0, false⟩, 0) := by
  have hne := snp_ne
  have hne2 := ne_ws
  by_cases h : f.at_ = (n : Int)
  · rw [if_pos h]
    cases A <;> simp [mvD, faD, faF, ok_snw, ok_snp, Ds.now, replay, kget, hne, hne2, chgD, h, Ds.more, offF]
  · rw [if_neg h]
    cases A <;> simp [mvD, faD, faF, ok_snw, ok_snp, Ds.now, replay, kget, hne, hne2, chgD, h, Ds.more]
theorem fa_sy2 (A : Option Bs) (G : Bs) (n : Nat) (fl : List Fl) : synR ⟨faF A (some G), [⟨2, snw, snp, [], 0⟩], n, fl, false, 0, false⟩ = (faD (some G) none n fl false, 0) := by
  have hne := snp_ne
  have hne2 := ne_ws
  have hb := bef_yes
  cases A <;> simp [synR, synD, Ds.now, replay, doC, kput, kins, kdel, kget, hne, hne2, hb, faD, faF]
theorem fa_wt (A B : Option Bs) (hA : OkB A) (hB : OkB B) : tot (faF A B) ≤ 10000000 ∧ (faF A B).length ≤ 2 := by
  cases A with
  | none => cases B with
    | none => simp [faF, tot]
    | some G => have := hB G rfl; simp [faF, tot]; omega
  | some F => have := hA F rfl; cases B with
    | none => simp [faF, tot]; omega
    | some G => have := hB G rfl; simp [faF, tot]; omega
/-- what laying a whole file comes to -/
def FaL (A : Option Bs) (F : Bs) (n : Nat) (f : Fl) (r : Ds × Int) : Prop :=
  r = (faD (some F) none (n + 2) [f] false, 0) ∨ ∃ A' B' m, r = (faD A' B' m [] true, 21) ∧ (A' = A ∨ A' = some F) ∧ m ≤ n + 1 ∧ OkB B'
theorem fa_lay (A : Option Bs) (F : Bs) (n : Nat) (f : Fl) (hF : F.length ≤ 5000000) : FaL A F n f (layD (faD A none n [f] false) snw snp F) := by
  unfold layD
  rw [fa_wr]
  by_cases h : f.at_ = (n : Int)
  · rw [if_pos h, if_pos (by simp)]
    obtain ⟨B, e, hB⟩ := fa_fail_w A F n [] f.keep f.torn
    rw [e]
    exact .inr ⟨A, B, n, rfl, .inl rfl, by omega, fun X hX => Nat.le_trans (hB X hX) hF⟩
  · rw [if_neg h]
    simp only
    rw [if_neg (by simp), fa_sy1]
    simp only
    rw [if_neg (by simp), fa_mv]
    by_cases h2 : f.at_ = ((n + 1 : Nat) : Int)
    · rw [if_pos h2, if_pos (by simp)]
      rcases fa_fail_m A F (n + 1) [] f.keep f.torn with e | e
      · rw [e]; exact .inr ⟨A, some F, n + 1, rfl, .inl rfl, by omega, fun X hX => by injection hX with hX; subst hX; exact hF⟩
      · rw [e]; exact .inr ⟨some F, none, n + 1, rfl, .inr rfl, by omega, fun X hX => by cases hX⟩
    · rw [if_neg h2]
      simp only
      rw [if_neg (by simp), fa_sy2]
      exact .inl rfl
theorem fa_lyok (A : Option Bs) (F : Bs) (n : Nat) (f : Fl) (hA : OkB A) (hF : F.length ≤ 5000000) (hn : n ≤ 1000) : LyOk (faD A none n [f] false) snw snp F := by
  have h8 : snw.length = 8 := rfl
  have h4 : snp.length = 4 := rfl
  have hw := fa_wt A none hA (fun X hX => by cases hX)
  have hw2 := fa_wt A (some F) hA (fun X hX => by injection hX with hX; subst hX; exact hF)
  have w0 : (faD A none n [f] false).wt ≤ 10000000 ∧ (faD A none n [f] false).S.length ≤ 2 ∧ (faD A none n [f] false).ws.length = 0 ∧ (faD A none n [f] false).n = n := ⟨by simp [Ds.wt, faD]; omega, hw.2, rfl, rfl⟩
  by_cases h : f.at_ = (n : Int)
  · obtain ⟨B, e, hB⟩ := fa_fail_w A F n [] f.keep f.torn
    have hB' : OkB B := fun X hX => Nat.le_trans (hB X hX) hF
    have hw3 := fa_wt A B hA hB'
    have e1 : wrD (faD A none n [f] false) snw F = (faD A B n [] true, 21) := by rw [fa_wr, if_pos h, e]
    have e3 : (mvD (faD A B n [] true) snw snp).1 = faD A B n [] true := by simp [mvD, faD]
    have w1 : (faD A B n [] true).wt ≤ 10000000 ∧ (faD A B n [] true).S.length ≤ 2 ∧ (faD A B n [] true).ws.length = 0 ∧ (faD A B n [] true).n = n := ⟨by simp [Ds.wt, faD]; omega, hw3.2, rfl, rfl⟩
    refine ⟨by omega, by omega, ?_, ?_, ?_, ?_⟩
    · rw [e1]; simp only; omega
    · rw [e1]; simp only; rw [fa_sy0]; simp only; omega
    · rw [e1]; simp only; rw [fa_sy0]; simp only; omega
    · rw [e1]; simp only; rw [fa_sy0]; simp only; rw [e3]; omega
  · have e1 : wrD (faD A none n [f] false) snw F = (⟨faF A none, [⟨1, snw, [], F, 0⟩], n + 1, [f], false, 0, false⟩, 0) := by rw [fa_wr, if_neg h]
    have w2 : (faD A (some F) (n + 1) [f] false).wt ≤ 10000000 ∧ (faD A (some F) (n + 1) [f] false).S.length ≤ 2 ∧ (faD A (some F) (n + 1) [f] false).ws.length = 0 ∧ (faD A (some F) (n + 1) [f] false).n = n + 1 := ⟨by simp [Ds.wt, faD]; omega, hw2.2, rfl, rfl⟩
    refine ⟨by omega, by omega, ?_, ?_, ?_, ?_⟩
    · rw [e1]; simp [Ds.wt]; omega
    · rw [e1]; simp only; rw [fa_sy1]; simp only; omega
    · rw [e1]; simp only; rw [fa_sy1]; simp only; omega
    · rw [e1]; simp only; rw [fa_sy1]; simp only; rw [fa_mv]
      by_cases h2 : f.at_ = ((n + 1 : Nat) : Int)
      · rw [if_pos h2]
        simp only
        rcases fa_fail_m A F (n + 1) [] f.keep f.torn with e | e
        · rw [e]; simp [Ds.wt, faD]; omega
        · have hw4 := fa_wt (some F) none (fun X hX => by injection hX with hX; subst hX; exact hF) (fun X hX => by cases hX)
          rw [e]; simp [Ds.wt, faD]; omega
      · rw [if_neg h2]; simp [Ds.wt]; omega
/-- .. a loading that the power may strike -/
theorem fa_cl (A B : Option Bs) (n : Nat) (f : Fl) (hf : f.at_ = (n : Int)) : ∃ B', clrD (faD A B n [f] false) snw = (if B = none then (faD A none n [f] false, 0) else (faD A B' n [] true, 21)) ∧ (B' = B ∨ B' = none) := by
  have hne := snp_ne
  cases B with
  | none =>
    refine ⟨none, ?_, .inl rfl⟩
    cases A <;> simp [clrD, rmD, faD, faF, ok_snw, Ds.now, replay, kget, hne]
  | some G =>
    obtain ⟨B', e, hB⟩ := fa_fail_r A G n [] f.keep f.torn
    refine ⟨B', ?_, hB⟩
    rw [if_neg (by simp), ← e]
    cases A <;> simp [clrD, rmD, faD, faF, ok_snw, Ds.now, replay, kget, hne, chgD, hf, Ds.more, offF]
theorem fa_sp1 (A B : Option Bs) (n : Nat) (f : Fl) (hf : f.at_ = (n : Int)) (hA : OkB A) (hB : OkB B) (hn : n ≤ 1000) : LdOk (faD A B n [f] false) ∧ ∃ B' fl dn, (spD (faD A B n [f] false)).1 = faD A B' n fl dn ∧ (B' = B ∨ B' = none) ∧ (rdD (faD A B' n fl dn) snp).1.length ≤ 5000000 := by
  have hne := snp_ne
  obtain ⟨B', e, hB'⟩ := fa_cl A B n f hf
  have hw := fa_wt A B hA hB
  by_cases h : B = none
  · subst h
    rw [if_pos rfl] at e
    refine ⟨⟨by simp [Ds.wt, faD]; omega, by simp [faD]; omega, by rw [e]; simp [Ds.wt, faD]; omega, by rw [e]; simp [faD]; omega⟩, none, [f], false, ?_, .inl rfl, ?_⟩
    · unfold spD; rw [e]; simp [faD]
    · cases A with
      | none => simp [rdD, faD, faF, ok_snp, Ds.now, replay, kget]
      | some F => have := hA F rfl; simp [rdD, faD, faF, ok_snp, Ds.now, replay, kget]; omega
  · rw [if_neg h] at e
    have hB2 : OkB B' := by rcases hB' with rfl | rfl; exact hB; exact fun X hX => by cases hX
    have hw2 := fa_wt A B' hA hB2
    refine ⟨⟨by simp [Ds.wt, faD]; omega, by simp [faD]; omega, by rw [e]; simp [Ds.wt, faD]; omega, by rw [e]; simp [faD]; omega⟩, B', [], true, ?_, hB', ?_⟩
    · unfold spD; rw [e]; simp [faD]
    · simp [rdD, faD]
/-- .. a loading at which nothing fails -/
theorem fa_cl2 (A B : Option Bs) (n : Nat) : clrD (faD A B n [] false) snw = (match B with | none => (faD A none n [] false, 0) | some G => (⟨faF A (some G), [⟨3, snw, [], [], 0⟩], n + 1, [], false, 0, false⟩, 0)) := by
  have hne := snp_ne
  cases B <;> cases A <;> simp [clrD, rmD, faD, faF, ok_snw, Ds.now, replay, kget, hne, chgD, Ds.more]
theorem fa_sp2 (A B : Option Bs) (n : Nat) (hA : OkB A) (hB : OkB B) (hn : n ≤ 1000) : LdOk (faD A B n [] false) ∧ ∃ m, spD (faD A B n [] false) = (faD A none m [] false, 0) := by
  have hne := snp_ne
  have hne2 := ne_ws
  have hw := fa_wt A B hA hB
  cases B with
  | none =>
    have e := fa_cl2 A none n
    simp only at e
    refine ⟨⟨by simp [Ds.wt, faD]; omega, by simp [faD]; omega, by rw [e]; simp [Ds.wt, faD]; omega, by rw [e]; simp [faD]; omega⟩, n, ?_⟩
    unfold spD; rw [e]; simp [faD]
  | some G =>
    have e := fa_cl2 A (some G) n
    simp only at e
    refine ⟨⟨by simp [Ds.wt, faD]; omega, by simp [faD]; omega, by rw [e]; simp [Ds.wt]; omega, by rw [e]; simp; omega⟩, n + 1, ?_⟩
    unfold spD; rw [e]
    cases A <;> simp [faD, faF, synR, synD, Ds.now, replay, doC, kdel, hne, hne2]
theorem fa_rd (A : Option Bs) (n : Nat) : rdD (faD A none n [] false) snp = (match A with | none => ([], 4) | some F => (F, 0)) := by
  cases A <;> simp [rdD, faD, faF, ok_snp, Ds.now, replay, kget]
/-- the disk says this snapshot, or none -/
def FaS (A : Option Bs) (x : Sh) : Prop := (A = none ∧ x = sh0) ∨ (A = some (frm (encB x)) ∧ chkS x = 0)
theorem FaS.ok {A : Option Bs} {x : Sh} (h : FaS A x) : OkB A := by
  rcases h with ⟨rfl, _⟩ | ⟨rfl, hc⟩
  · exact fun X hX => by cases hX
  · exact fun X hX => by injection hX with hX; subst hX; exact (sh_len hc).1
theorem ldF_enc {x : Sh} (hc : chkS x = 0) : ldF (frm (encB x)) = ⟨x, true, 0⟩ := by
  have h4 := encS_size x
  have he : encS x = ⟨(encB x).toArray⟩ := by unfold encS; rw [if_pos hc]
  have hd : (encS x).data.toList = encB x := by rw [he]
  have hfl : (tx (frm (encB x))).size = 8 + (encS x).size := by
    show (frm (encB x)).toArray.size = _
    rw [List.size_toArray, frm_len, size_of _ _ hd]
  have u := unf_back (tx (frm (encB x))) (encS x) [] [] (by omega) (by rw [hd]; simp)
  have u' : unfAt (tx (frm (encB x))) 0 = ⟨encS x, ((tx (frm (encB x))).size : Int), 0⟩ := by
    rw [hfl]
    have e0 : ((([] : List UInt8).length : Nat) : Int) = 0 := rfl
    rw [e0] at u
    rw [u]
    simp
  unfold ldF
  rw [u']
  simp only
  rw [if_pos ⟨trivial, by show (((frm (encB x)).toArray.size : Nat) : Int) = _; rw [List.size_toArray]⟩, if_pos (sd_enc hc).1, (sd_enc hc).2]
theorem fa_ld {A B : Option Bs} {x : Sh} {n : Nat} (h : FaS A x) (hB : OkB B) (hn : n ≤ 1000) : ldD (faD A B n [] false) = ⟨x, decide (0 < x.ms.length), 0⟩ := by
  obtain ⟨_, m, e⟩ := fa_sp2 A B n h.ok hB hn
  unfold ldD
  rw [e]
  simp only
  rw [fa_rd]
  rcases h with ⟨rfl, rfl⟩ | ⟨rfl, hc⟩
  · simp [sh0]
  · simp only
    rw [if_neg (by simp), if_neg (by decide), if_neg (by simp), ldF_enc hc]
    have : 0 < x.ms.length := by
      unfold chkS at hc
      rcases Nat.eq_zero_or_pos x.ms.length with h0 | h0
      · have h1 : x.ms = [] := List.length_eq_zero_iff.1 h0
        rw [h1] at hc
        simp [areM] at hc
      · exact h0
    rw [decide_eq_true this]
end Go.Proofs.Ytflecoplpdbonaa
