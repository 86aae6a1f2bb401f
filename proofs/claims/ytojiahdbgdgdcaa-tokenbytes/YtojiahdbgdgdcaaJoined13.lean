/- Joined: The table that a text says: the program's walk. The table that a text says: the document's walk. -/
import Derived.Test.YtojiahdbgdgdcaaJoined11
import Derived.Test.YtojiahdbgdgdcaaJoined08
import Derived.Test.YtojiahdbgdgdcaaJoined06
import Derived.Test.YtojiahdbgdgdcaaJoined05
import Derived.Laws.ResultCell
namespace Go.Proofs.Ytojiahdbgdgdcaa
open Go.RowKit Go.Maps
set_option linter.unusedVariables false
set_option linter.unusedSimpArgs false

/-- a reader behind a kept token, and this (m: how long a token may be) -/
structure DhR where
  a : Int
  e : Int
  v : Hd
def rdH (m : Int) (s : ByteArray) (a e : Int) : DhR :=
  let t := tS s a e m
  let u := tS s t.a t.e 64
  let o := tS s u.a u.e 4096
  let n := dcN s 1099511627776 o.a o.e
  ⟨n.a, n.e, ⟨t.x, u.x, o.x, (n.n : Int)⟩⟩
structure DhL where
  a : Int
  e : Int
  l : List Hd
def dcH (m : Int) (s : ByteArray) : Nat → Int → Int → DhL
  | 0, a, e => ⟨a, e, []⟩
  | j + 1, a, e =>
    let t := rdH m s a e
    let r := dcH m s j t.a t.e
    ⟨r.a, r.e, t.v :: r.l⟩
def tdT (m : Int) (s : ByteArray) : DhL := dcH m s (dcN s 64 0 0).n (dcN s 64 0 0).a (dcN s 64 0 0).e
def tdOk (m : Int) (s : ByteArray) : Bool := (endE s (tdT m s).a (tdT m s).e == 0) && isTb (tdT m s).l
def tdV (m : Int) (s : ByteArray) : List Hd := if tdOk m s = true then (tdT m s).l else []
def tdE (m : Int) (s : ByteArray) : Int := if tdOk m s = true then 0 else 3
/-- a reader at g, the result's cells ahead -/
structure RhS (w : World) (g : Nat) (s : ByteArray) (a e : Int) (W : World) : Prop where
  rd : RdAt W g s a e
  res : RowIs W w.heap.size [.string ⟨#[]⟩, .string ⟨#[]⟩, .string ⟨#[]⟩, .int .i64 0] 31
  on : Only g w W
  lt : g < w.heap.size
theorem RhS.read {w W W' : World} {g : Nat} {s : ByteArray} {a e a' e' : Int} (h : RhS w g s a e W) (hr : RdAt W' g s a' e') (ho : Only g W W') : RhS w g s a' e' W' := by
  have h1 := h.lt
  exact ⟨hr, h.res.keep ho.keep (by omega), h.on.trans ho, h.lt⟩
theorem four {W : World} {g : Nat} {z0 z1 z2 z3 : Value} {t : TypeId} (h : RowIs W g [z0, z1, z2, z3] t) {x0 x1 x2 x3 : Value} : RowIs ((((W.setCell ⟨g, 0, none⟩ x0).setCell ⟨g, 1, none⟩ x1).setCell ⟨g, 2, none⟩ x2).setCell ⟨g, 3, none⟩ x3) g [x0, x1, x2, x3] t ∧ Keep (· = g) W ((((W.setCell ⟨g, 0, none⟩ x0).setCell ⟨g, 1, none⟩ x1).setCell ⟨g, 2, none⟩ x2).setCell ⟨g, 3, none⟩ x3) :=
  ⟨(((h.set 0 x0).set 1 x1).set 2 x2).set 3 x3, (((keep_setCell _ _ _ _).trans (keep_setCell _ _ _ _)).trans (keep_setCell _ _ _ _)).trans (keep_setCell _ _ _ _)⟩
theorem RhS.done {w W : World} {g : Nat} {s : ByteArray} {a e : Int} (h : RhS w g s a e W) (x0 x1 x2 x3 : Value) : RowIs ((((W.setCell ⟨w.heap.size, 0, none⟩ x0).setCell ⟨w.heap.size, 1, none⟩ x1).setCell ⟨w.heap.size, 2, none⟩ x2).setCell ⟨w.heap.size, 3, none⟩ x3) w.heap.size [x0, x1, x2, x3] 31 ∧ RdAt ((((W.setCell ⟨w.heap.size, 0, none⟩ x0).setCell ⟨w.heap.size, 1, none⟩ x1).setCell ⟨w.heap.size, 2, none⟩ x2).setCell ⟨w.heap.size, 3, none⟩ x3) g s a e ∧ Only g w ((((W.setCell ⟨w.heap.size, 0, none⟩ x0).setCell ⟨w.heap.size, 1, none⟩ x1).setCell ⟨w.heap.size, 2, none⟩ x2).setCell ⟨w.heap.size, 3, none⟩ x3) := by
  have f := four h.res (x0 := x0) (x1 := x1) (x2 := x2) (x3 := x3)
  have h1 := h.lt
  have k := f.2
  exact ⟨f.1, h.rd.same (k.block _ (rd_lt h.rd) (by omega)), ⟨k.os.trans h.on.os, k.tape.trans h.on.tape, k.output.trans h.on.output, Nat.le_trans h.on.size k.size, fun j hj hg => (k.block j (Nat.lt_of_lt_of_le hj h.on.size) (by omega)).trans (h.on.block j hj hg)⟩⟩
theorem RhS.may {w W : World} {g : Nat} {s : ByteArray} {a e : Int} (h : RhS w g s a e W) : (W.cell? ⟨w.heap.size, 0, none⟩ = some (.string ⟨#[]⟩) ∧ W.cell? ⟨w.heap.size, 1, none⟩ = some (.string ⟨#[]⟩) ∧ W.cell? ⟨w.heap.size, 2, none⟩ = some (.string ⟨#[]⟩) ∧ W.cell? ⟨w.heap.size, 3, none⟩ = some (.int .i64 0)) ∧ W.frozen? ⟨w.heap.size, 0, none⟩ = false ∧ W.frozen? ⟨w.heap.size, 1, none⟩ = false ∧ W.frozen? ⟨w.heap.size, 2, none⟩ = false ∧ W.frozen? ⟨w.heap.size, 3, none⟩ = false :=
  ⟨⟨h.res.cellAt rfl, h.res.cellAt rfl, h.res.cellAt rfl, h.res.cellAt rfl⟩, h.res.frozen, h.res.frozen, h.res.frozen, h.res.frozen⟩
set_option maxRecDepth 100000 in
set_option maxHeartbeats 4000000 in
theorem rdheld_any (g : Nat) (t : ByteArray) (a0 e0 : Int) (w : World) (h : RdAt w g t a0 e0) (hs : t.size ≤ 140737488355328) : Calls Try.prog 40 #[.pointer (some ⟨g, 0, none⟩)] w fun r w' => r = .returned (hdV (rdH 1024 t a0 e0).v) ∧ RdAt w' g t (rdH 1024 t a0 e0).a (rdH 1024 t a0 e0).e ∧ Only g w w' := by
  have hsm : t.size ≤ maxLen := by unfold maxLen; omega
  obtain ⟨T, hT⟩ : ∃ T, T = tS t a0 e0 1024 := ⟨_, rfl⟩
  obtain ⟨U, hU⟩ : ∃ U, U = tS t T.a T.e 64 := ⟨_, rfl⟩
  obtain ⟨O, hO⟩ : ∃ O, O = tS t U.a U.e 4096 := ⟨_, rfl⟩
  obtain ⟨N, hN⟩ : ∃ N, N = dcN t 1099511627776 O.a O.e := ⟨_, rfl⟩
  have HV : Hid (rdH 1024 t a0 e0 = ⟨N.a, N.e, ⟨T.x, U.x, O.x, (N.n : Int)⟩⟩) := by subst hN hO hU hT; rfl
  have R0 : Hid (∀ W, RdAt W g t a0 e0 → Calls Try.prog 59 #[.pointer (some ⟨g, 0, none⟩), .int .i64 1024] W fun r w' => r = .returned (.string T.x) ∧ RdAt w' g t T.a T.e ∧ Only g W w') := fun W h => by rw [hT]; exact rd_text g t a0 e0 1024 W h hs
  have R1 : Hid (∀ W, RdAt W g t T.a T.e → Calls Try.prog 59 #[.pointer (some ⟨g, 0, none⟩), .int .i64 64] W fun r w' => r = .returned (.string U.x) ∧ RdAt w' g t U.a U.e ∧ Only g W w') := fun W h => by rw [hU]; exact rd_text g t T.a T.e 64 W h hs
  have R2 : Hid (∀ W, RdAt W g t U.a U.e → Calls Try.prog 59 #[.pointer (some ⟨g, 0, none⟩), .int .i64 4096] W fun r w' => r = .returned (.string O.x) ∧ RdAt w' g t O.a O.e ∧ Only g W w') := fun W h => by rw [hO]; exact rd_text g t U.a U.e 4096 W h hs
  have R3 : Hid (∀ W, RdAt W g t O.a O.e → Calls Try.prog 39 #[.pointer (some ⟨g, 0, none⟩), .int .i64 1099511627776] W fun r w' => r = .returned (.int .i64 N.n) ∧ RdAt w' g t N.a N.e ∧ Only g W w') := fun W h => by rw [hN]; exact rd_int g t O.a O.e _ W h hsm (by omega) (nS_int t O.a O.e _ (by omega))
  have H0 : Hid (RhS w g t a0 e0 (w.alloc (.cells #[.string ⟨#[]⟩, .string ⟨#[]⟩, .string ⟨#[]⟩, .int .i64 0] 31))) := ⟨h.keeps ((Below.refl _ _).alloc (Nat.le_refl _) _), srow w _ _, ((Below.refl w.heap.size w).alloc (Nat.le_refl _) _).only g, rd_lt h⟩
  clear hT hU hO hN hs hsm h
  generalize rdH 1024 t a0 e0 = R at *
  obtain ⟨ta, te, tx⟩ := T
  obtain ⟨ua, ue, ux⟩ := U
  obtain ⟨oa, oe, ox⟩ := O
  obtain ⟨na, ne, nn⟩ := N
  simp only at *
  have hR := HV.out
  subst hR
  clear HV
  simp only [hdV]
  go_enter Try.func40, Try.ntmps40
  go_wp2_with fail
  refine (R0.out _ H0.out.rd).mono ?_
  rintro e w1 ⟨rfl, h1, o1⟩
  have H1 := hid (H0.out.read h1 o1)
  clear h1 o1 R0 H0
  go_wp2_with fail
  refine (R1.out _ H1.out.rd).mono ?_
  rintro e w2 ⟨rfl, h2, o2⟩
  have H2 := hid (H1.out.read h2 o2)
  clear h2 o2 R1 H1
  go_wp2_with fail
  refine (R2.out _ H2.out.rd).mono ?_
  rintro e w3 ⟨rfl, h3, o3⟩
  have H3 := hid (H2.out.read h3 o3)
  clear h3 o3 R2 H2
  go_wp2_with fail
  refine (R3.out _ H3.out.rd).mono ?_
  rintro e w4 ⟨rfl, h4, o4⟩
  have H4 := hid (H3.out.read h4 o4)
  clear h4 o4 R3 H3
  obtain ⟨⟨r0, r1, r2, r3⟩, q0, q1, q2, q3⟩ := H4.out.may
  have H9 := hid (H4.out.done (.string tx) (.string ux) (.string ox) (.int .i64 (nn : Int)))
  clear H4
  go_wp2
  refine bodyPost_ret (v := .agg #[.string tx, .string ux, .string ox, .int .i64 (nn : Int)]) (results_cell_row (p := 2) rfl _ _ w.heap.size 31 #[.string tx, .string ux, .string ox, .int .i64 (nn : Int)] (0, 0) _ rfl H9.out.1 Try.underlying31 rfl (by kernel_rfl)) rfl ⟨rfl, H9.out.2⟩
/-- a reader, and kept tokens in a row behind it -/
structure DhS (w : World) (s : ByteArray) (a e : Int) (v : Value) (q : List Hd) (W : World) : Prop where
  rd : RdAt W w.heap.size s a e
  own : OwnH W (w.heap.size + 1) 31 v q
  bel : Below w.heap.size w W
theorem DhS.read {w W W' : World} {s : ByteArray} {a e a' e' : Int} {v : Value} {q : List Hd} (h : DhS w s a e v q W) (hr : RdAt W' w.heap.size s a' e') (ho : Only w.heap.size W W') : DhS w s a' e' v q W' :=
  ⟨hr, ho.keep.ownsRow h.own (fun g hg e => by have := ownsRow_ge h.own hg; omega), h.bel.trans (ho.below (Nat.le_refl _) h.bel.size)⟩
theorem DhS.call {w W W' : World} {s : ByteArray} {a e : Int} {v : Value} {q : List Hd} (h : DhS w s a e v q W) (hb : Below W.heap.size W W') : DhS w s a e v q W' := h.read (h.rd.keeps hb) (hb.only _)
theorem DhS.al {w W : World} {s : ByteArray} {a e : Int} {v : Value} {q : List Hd} (h : DhS w s a e v q W) (o : Obj) : DhS w s a e v q (W.alloc o) := h.call ((Below.refl _ _).alloc (Nat.le_refl _) o)
theorem DhS.app {w W W' : World} {s : ByteArray} {a e : Int} {v v' : Value} {q q' : List Hd} (h : DhS w s a e v q W) (hr : OwnH W' (w.heap.size + 1) 31 v' q') (hk : Keep (fun j => v.ownBlock = some j) W W') : DhS w s a e v' q' W' := by
  have hge := fun k (e : v.ownBlock = some k) => ownsRow_ge h.own e
  exact ⟨h.rd.same (hk.block _ (rd_lt h.rd) (fun e => by have := hge _ e; omega)), hr, h.bel.trans (keep_below hk (fun k hk' e => by have := hge _ e; omega) h.bel.size)⟩
set_option maxRecDepth 100000 in
set_option maxHeartbeats 4000000 in
theorem tdecode_any (t : ByteArray) (w : World) (hs : t.size ≤ 140737488355328) : Calls Try.prog 19 #[.string t] w (GiveH w 31 (tdV 1024 t) (tdE 1024 t)) := by
  have hsm : t.size ≤ maxLen := by unfold maxLen; omega
  obtain ⟨N, hN⟩ : ∃ N, N = dcN t 64 0 0 := ⟨_, rfl⟩
  have NW := hid (new_reader t w)
  have RN : Hid (∀ W, RdAt W w.heap.size t 0 0 → Calls Try.prog 39 #[.pointer (some ⟨w.heap.size, 0, none⟩), .int .i64 64] W fun r w' => r = .returned (.int .i64 N.n) ∧ RdAt w' w.heap.size t N.a N.e ∧ Only w.heap.size W w') := fun W h => by rw [hN]; exact rd_int w.heap.size t 0 0 _ W h hsm (by omega) (nS_int t 0 0 _ (by omega))
  have RV : Hid (∀ a e W, RdAt W w.heap.size t a e → Calls Try.prog 40 #[.pointer (some ⟨w.heap.size, 0, none⟩)] W fun r w' => r = .returned (hdV (rdH 1024 t a e).v) ∧ RdAt w' w.heap.size t (rdH 1024 t a e).a (rdH 1024 t a e).e ∧ Only w.heap.size W w') := fun a e W h => rdheld_any w.heap.size t a e W h hs
  have RE := hid (fun a e W h => rd_end w.heap.size t a e W h)
  have IC := hid (fun v q W hv => isTable_any v q W hv)
  have HN64 : Hid ((N.n : Int) ≤ 64) := by have := dcN_le t 64 0 0 (by omega); show _ ≤ _; rw [hN]; exact this
  have HM : Hid (tdT 1024 t = dcH 1024 t (N.n - 0) N.a N.e) := by show _ = _; rw [hN]; rfl
  have HVE : Hid (tdE 1024 t = (if tdOk 1024 t = true then 0 else 3) ∧ tdV 1024 t = (if tdOk 1024 t = true then (tdT 1024 t).l else [])) := ⟨rfl, rfl⟩
  have HOK : Hid (tdOk 1024 t = ((endE t (tdT 1024 t).a (tdT 1024 t).e == 0) && isTb (tdT 1024 t).l)) := rfl
  obtain ⟨na, ne, n0⟩ := N
  simp only at *
  clear hs hsm hN
  generalize tdE 1024 t = DE at *
  generalize tdV 1024 t = DV at *
  generalize tdOk 1024 t = OK at *
  generalize tdT 1024 t = M at *
  go_enter Try.func19, Try.ntmps19
  go_wp2_with fail
  refine NW.out.mono ?_
  rintro e w1 ⟨rfl, h1, b1⟩
  have H1 : Hid (DhS w t 0 0 (.slice none 0 0) [] w1) := ⟨h1, ownH_nil _ _ _, b1⟩
  clear h1 b1 NW
  go_wp2_with fail
  refine (RN.out _ H1.out.rd).mono ?_
  rintro e w2 ⟨rfl, h2, o2⟩
  have H2 := hid (H1.out.read h2 o2)
  clear h2 o2 RN H1
  go_wp2
  go_loopw [5, 10] (fun o i wr => ∃ (k : Nat) (q : List Hd) (ad : Option Addr) (cap : Nat) (a e : Int), k ≤ n0 ∧ o = .slice ad k cap ∧ i = .int .i64 (k : Int) ∧ Hid (q.length = k) ∧ Hid (DhS w t a e (.slice ad k cap) q wr) ∧ Hid (M = ⟨(dcH 1024 t (n0 - k) a e).a, (dcH 1024 t (n0 - k) a e).e, q ++ (dcH 1024 t (n0 - k) a e).l⟩)) (fun _ i _ => n0 - (intOf i).toNat)
  case atStart => exact ⟨0, [], none, 0, na, ne, Nat.zero_le _, rfl, rfl, rfl, H2, HM⟩
  case round =>
    clear H2 HM
    obtain ⟨k, q, ad, cap, a, e, hk, rfl, rfl, HA, HS, HM⟩ := hrel
    by_cases hlt : k < n0
    · have hk1 : (k : Int) < (n0 : Int) := by omega
      have hk5 : k < 64 := by have := HN64.out; omega
      have hwk : wrap64 ((k : Int) + 1) = ((k + 1 : Nat) : Int) := by rw [IntWalk.wrap64_in _ (by omega)]; omega
      have RX := hid (fun W h => RV.out a e W h)
      have HM2 : Hid (M = ⟨(dcH 1024 t (n0 - (k + 1)) (rdH 1024 t a e).a (rdH 1024 t a e).e).a, (dcH 1024 t (n0 - (k + 1)) (rdH 1024 t a e).a (rdH 1024 t a e).e).e, (q ++ [(rdH 1024 t a e).v]) ++ (dcH 1024 t (n0 - (k + 1)) (rdH 1024 t a e).a (rdH 1024 t a e).e).l⟩) := by
        show _ = _
        rw [HM.out, show n0 - k = (n0 - (k + 1)) + 1 by omega]
        simp only [dcH, List.append_assoc, List.singleton_append]
      generalize rdH 1024 t a e = X at *
      obtain ⟨xa, xe, tk, su, ou, at_⟩ := X
      unfold hdV at RX
      simp only at *
      have HLT := hid hlt
      clear HM RV RE IC HN64 HOK HVE hlt hk
      go_wp2_with fail
      refine (RX.out _ HS.out.rd).mono ?_
      rintro e' w3 ⟨rfl, h3, o3⟩
      have H3 := hid (HS.out.read h3 o3)
      clear h3 o3 RX HS
      have H4 := hid (H3.out.al (.cells #[.string tk, .string su, .string ou, .int .i64 at_] 31))
      have HGA : Hid ((w3.alloc (.cells #[.string tk, .string su, .string ou, .int .i64 at_] 31)).ownsRow (w.heap.size + 1) 31 4 (.slice ad k cap) k (hqC q)) := by have := H4.out.own; unfold OwnH at this; rw [HA.out] at this; exact this
      have HGX : Hid (GSrc (w3.alloc (.cells #[.string tk, .string su, .string ou, .int .i64 at_] 31)) (.slice (some ⟨w3.heap.size, 0, none⟩) 1 1) 1 (hdC ⟨tk, su, ou, at_⟩)) := gsrc_block (heap_alloc_new _ _)
      have HSZ : Hid (w.heap.size + 1 ≤ (w3.alloc (.cells #[.string tk, .string su, .string ou, .int .i64 at_] 31)).heap.size) := rd_lt H4.out.rd
      have HO1 := hid (hdC_one ⟨tk, su, ou, at_⟩)
      have HX2 : Hid ((hdC ⟨tk, su, ou, at_⟩).length = 1 * 4) := rfl
      have HB1 : Hid (k + 1 ≤ 4611686018427387904) := by show _ ≤ _; omega
      have HB2 : Hid ((k + 1) * 56 ≤ 140737488355328) := by show _ ≤ _; omega
      have HA2 : Hid ((q ++ [(⟨tk, su, ou, at_⟩ : Hd)]).length = k + 1) := by show _ = _; rw [List.length_append, HA.out]; rfl
      have FIN : Hid (∀ ad' cap' w', w'.ownsRow (w.heap.size + 1) 31 4 (.slice ad' (k + 1) cap') (k + 1) (hqC q ++ hdC ⟨tk, su, ou, at_⟩) → Keep (fun j => (Value.slice ad k cap).ownBlock = some j) (w3.alloc (.cells #[.string tk, .string su, .string ou, .int .i64 at_] 31)) w' → Hid (DhS w t xa xe (.slice ad' (k + 1) cap') (q ++ [(⟨tk, su, ou, at_⟩ : Hd)]) w')) := fun ad' cap' w' hr hk' => by
        refine H4.out.app ?_ hk'
        unfold OwnH
        rw [HA2.out, hqC_app, hqC_one]
        exact hr
      clear H4 H3 HA
      generalize hdC ⟨tk, su, ou, at_⟩ = XS at *
      generalize hqC q = PA at *
      go_wp2_with (at_builtin; refine wpl_gappL rfl _ _ elH rfl (w.heap.size + 1) (.slice ad k cap) (.slice (some ⟨w3.heap.size, 0, none⟩) 1 1) PA XS k 1 (k + 1) rfl rfl rfl HGA.out HSZ.out HGX.out HX2.out HO1.out HB1.out HB2.out ?_; intro ad' cap' w' hr' hk')
      have F1 := FIN.out _ _ _ hr' hk'
      clear hr' hk' FIN HGA HGX HSZ
      go_wp2
      exact ⟨⟨k + 1, _, _, _, xa, xe, HLT.out, rfl, by first | rw [hwk] | rfl | simp, HA2, F1, HM2⟩, by (try rw [hwk]); have := HLT.out; simp [intOf]; omega⟩
    · have hk9 : k = n0 := by omega
      have hdl : decide ((k : Int) < (n0 : Int)) = false := decide_eq_false (by omega)
      have hdl2 : decide (k < n0) = false := decide_eq_false (by omega)
      have HM2 : M = ⟨a, e, q⟩ := by rw [HM.out, hk9, Nat.sub_self]; simp [dcH]
      subst HM2
      simp only at HVE HOK
      have R7 := hid (RE.out a e _ HS.out.rd)
      clear HM RV HN64 hlt hk hk9 RE
      go_wp2_with fail
      refine R7.out.mono ?_
      rintro e' w3 ⟨rfl, h3, o3⟩
      have H3 := hid (HS.out.read h3 o3)
      clear h3 o3 R7 HS
      generalize endE t a e = E at *
      by_cases hE : E = 0
      · subst hE
        have C3 := hid (IC.out _ _ _ H3.out.own.hd)
        clear IC
        generalize isTb q = C at *
        go_wp2_with fail
        refine C3.out.mono ?_
        rintro e' w4 ⟨rfl, b4⟩
        have H4 := hid (H3.out.call b4)
        clear C3 b4 H3
        cases C
        · have hO : OK = false := HOK.out
          subst hO
          obtain ⟨d1, d2⟩ := HVE.out
          simp only [Bool.false_eq_true, if_false] at d1 d2
          have HD : Hid (DE = 3 ∧ DV = []) := ⟨d1, d2⟩
          clear d1 d2 HVE HOK hdl hdl2
          go_wp2
          go_ret2
          rw [HD.out.1, HD.out.2]
          exact giveH_none H4.out.bel
        · have hO : OK = true := HOK.out
          subst hO
          obtain ⟨d1, d2⟩ := HVE.out
          rw [if_pos rfl] at d1 d2
          have HD : Hid (DE = 0 ∧ DV = q) := ⟨d1, d2⟩
          clear d1 d2 HVE HOK hdl hdl2
          go_wp2
          go_ret2
          rw [HD.out.1, HD.out.2]
          refine ⟨ad, cap, ?_, ?_, H4.out.bel⟩
          · rw [HA.out]; rfl
          · rw [HA.out]; exact ownsRow_base H4.out.own (Nat.le_succ _)
      · have hE2 : (E == 0) = false := beq_eq_false_iff_ne.2 hE
        have hE3 : (E != 0) = true := bne_iff_ne.2 hE
        have hO : OK = false := by rw [HOK.out, hE2]; rfl
        subst hO
        obtain ⟨d1, d2⟩ := HVE.out
        simp only [Bool.false_eq_true, if_false] at d1 d2
        have HD : Hid (DE = 3 ∧ DV = []) := ⟨d1, d2⟩
        clear d1 d2 HVE HOK hdl hdl2 IC
        go_wp2
        go_ret2
        rw [HD.out.1, HD.out.2]
        exact giveH_none H3.out.bel
end Go.Proofs.Ytojiahdbgdgdcaa
namespace Go.Proofs.Ytojiahdbgdgdcaa
open Go.RowKit Go.Maps
set_option linter.unusedVariables false
set_option linter.unusedSimpArgs false

def HdBd (v : Hd) : Prop := v.tk.size ≤ 1024 ∧ v.su.size ≤ 64 ∧ v.ou.size ≤ 4096
theorem rdH_b (m : Int) (h0 : 0 ≤ m) (h1 : m ≤ 1024) (s : ByteArray) (a e : Int) : HdBd (rdH m s a e).v := by
  unfold rdH
  simp only
  refine ⟨?_, ?_, ?_⟩
  · have := tS_len s a e m h0; simp only; omega
  · have := tS_len s (tS s a e m).a (tS s a e m).e 64 (by omega); simp only; omega
  · have := tS_len s (tS s (tS s a e m).a (tS s a e m).e 64).a (tS s (tS s a e m).a (tS s a e m).e 64).e 4096 (by omega); simp only; omega
theorem dcH_b (m : Int) (h0 : 0 ≤ m) (h1 : m ≤ 1024) (s : ByteArray) : ∀ (j : Nat) (a e : Int), ∀ v ∈ (dcH m s j a e).l, HdBd v
  | 0, _, _, v, hv => by simp [dcH] at hv
  | j + 1, a, e, v, hv => by
    simp only [dcH, List.mem_cons] at hv
    rcases hv with rfl | hv
    · exact rdH_b m h0 h1 s a e
    · exact dcH_b m h0 h1 s j _ _ v hv
theorem dcH_len (m : Int) (s : ByteArray) : ∀ (j : Nat) (a e : Int), (dcH m s j a e).l.length = j
  | 0, _, _ => rfl
  | j + 1, a, e => by simp only [dcH, List.length_cons]; rw [dcH_len m s j]
theorem tdT_b (m : Int) (h0 : 0 ≤ m) (h1 : m ≤ 1024) (s : ByteArray) : (tdT m s).l.length ≤ 64 ∧ ∀ v ∈ (tdT m s).l, HdBd v := by
  refine ⟨?_, dcH_b m h0 h1 s _ _ _⟩
  unfold tdT
  rw [dcH_len]
  have := dcN_le s 64 0 0 (by omega)
  omega
/-- a reader's value in a box at g, kept tokens in a row behind it -/
structure QhS (w : World) (g : Nat) (s : ByteArray) (a e : Int) (v : Value) (q : List Hd) (W : World) : Prop where
  rd : RowIs W g [.string s, .int .i64 a, .int .i64 e] 79
  own : OwnH W (g + 1) 37 v q
  bel : Below w.heap.size w W
  low : w.heap.size ≤ g
theorem QhS.call {w W W' : World} {g : Nat} {s : ByteArray} {a e : Int} {v : Value} {q : List Hd} (h : QhS w g s a e v q W) (hb : Below W.heap.size W W') : QhS w g s a e v q W' :=
  ⟨h.rd.keep (hb.keep (fun _ => False)) (fun h => h), h.own.next hb, below_on h.bel hb, h.low⟩
theorem QhS.al {w W : World} {g : Nat} {s : ByteArray} {a e : Int} {v : Value} {q : List Hd} (h : QhS w g s a e v q W) (o : Obj) : QhS w g s a e v q (W.alloc o) := h.call ((Below.refl _ _).alloc (Nat.le_refl _) o)
theorem QhS.put {w W : World} {g : Nat} {s : ByteArray} {a e : Int} {v : Value} {q : List Hd} (h : QhS w g s a e v q W) (a' e' : Int) : QhS w g s a' e' v q (((W.setCell ⟨g, 0, none⟩ (.string s)).setCell ⟨g, 1, none⟩ (.int .i64 a')).setCell ⟨g, 2, none⟩ (.int .i64 e')) := by
  have k : Keep (· = g) W (((W.setCell ⟨g, 0, none⟩ (.string s)).setCell ⟨g, 1, none⟩ (.int .i64 a')).setCell ⟨g, 2, none⟩ (.int .i64 e')) := ((keep_setCell _ _ _ _).trans (keep_setCell _ _ _ _)).trans (keep_setCell _ _ _ _)
  have h1 := h.low
  exact ⟨((h.rd.set 0 _).set 1 _).set 2 _, k.ownsRow h.own (fun j hj e => by have := ownsRow_ge h.own hj; omega), h.bel.trans (keep_below k (fun j hj e => by omega) h.bel.size), h.low⟩
theorem QhS.app {w W W' : World} {g : Nat} {s : ByteArray} {a e : Int} {v v' : Value} {q q' : List Hd} (h : QhS w g s a e v q W) (ho : OwnH W' (g + 1) 37 v' q') (hk : Keep (fun k => v.ownBlock = some k) W W') : QhS w g s a e v' q' W' := by
  have hge := fun k (e : v.ownBlock = some k) => ownsRow_ge h.own e
  have hl := h.low
  exact ⟨h.rd.keep hk (fun e => by have := hge _ e; omega), ho, h.bel.trans (keep_below hk (fun k hk' e => by have := hge _ e; omega) h.bel.size), h.low⟩
theorem QhS.three {w W : World} {g : Nat} {s : ByteArray} {a e : Int} {v : Value} {q : List Hd} (h : QhS w g s a e v q W) : (W.cell? ⟨g, 0, none⟩ = some (.string s) ∧ W.cell? ⟨g, 1, none⟩ = some (.int .i64 a) ∧ W.cell? ⟨g, 2, none⟩ = some (.int .i64 e)) ∧ W.frozen? ⟨g, 0, none⟩ = false ∧ W.frozen? ⟨g, 1, none⟩ = false ∧ W.frozen? ⟨g, 2, none⟩ = false :=
  ⟨⟨h.rd.cellAt rfl, h.rd.cellAt rfl, h.rd.cellAt rfl⟩, h.rd.frozen, h.rd.frozen, h.rd.frozen⟩
set_option maxRecDepth 100000 in
set_option maxHeartbeats 8000000 in
theorem rtdecode_any (t : ByteArray) (w : World) (hs : t.size ≤ 140737488355328) : Calls Try.prog 20 #[.string t] w (GiveH w 37 (tdV 64 t) (tdE 64 t)) := by
  have hsm : t.size ≤ maxLen := by unfold maxLen; omega
  obtain ⟨N, hN⟩ : ∃ N, N = dcN t 64 0 0 := ⟨_, rfl⟩
  have RI : Hid (∀ (a e : Int) (W : World), Calls Try.prog 42 #[.agg #[.string t, .int .i64 a, .int .i64 e], .int .i64 1099511627776] W fun r w' => r = .returned (.tuple #[.agg #[.string t, .int .i64 (dcN t 1099511627776 a e).a, .int .i64 (dcN t 1099511627776 a e).e], .int .i64 (dcN t 1099511627776 a e).n]) ∧ Below W.heap.size W w') := fun a e W => ref_reader_int t a e _ W hsm (by omega) (nS_int t a e _ (by omega))
  have RN : Hid (∀ W, Calls Try.prog 42 #[.agg #[.string t, .int .i64 0, .int .i64 0], .int .i64 64] W fun r w' => r = .returned (.tuple #[.agg #[.string t, .int .i64 N.a, .int .i64 N.e], .int .i64 N.n]) ∧ Below W.heap.size W w') := fun W => by rw [hN]; exact ref_reader_int t 0 0 _ W hsm (by omega) (nS_int t 0 0 _ (by omega))
  have RT : Hid (∀ m a e W, Calls Try.prog 43 #[.agg #[.string t, .int .i64 a, .int .i64 e], .int .i64 m] W fun r w' => r = .returned (.tuple #[.agg #[.string t, .int .i64 (tS t a e m).a, .int .i64 (tS t a e m).e], .string (tS t a e m).x]) ∧ Below W.heap.size W w') := fun m a e W => ref_reader_text t a e m W hs
  have RE := hid (fun a e W => ref_reader_end t a e W)
  have CB := tdT_b 64 (by omega) (by omega) t
  have IC : Hid (∀ v q W, HdI W v q → q = (tdT 64 t).l → Calls Try.prog 24 #[v] W fun e w' => e = .returned (.bool (isTb q)) ∧ Below W.heap.size W w') := fun v q W hv hq => may15_any v q W hv (by have := CB.1; rw [← hq] at this; omega) (fun y hy => by
    obtain ⟨h1, h2, h3⟩ := CB.2 y (by rw [← hq]; exact hy)
    exact ⟨by omega, by omega⟩)
  have HN64 : Hid ((N.n : Int) ≤ 64) := by have := dcN_le t 64 0 0 (by omega); show _ ≤ _; rw [hN]; exact this
  have HM : Hid (tdT 64 t = dcH 64 t (N.n - 0) N.a N.e) := by show _ = _; rw [hN]; rfl
  have HVE : Hid (tdE 64 t = (if tdOk 64 t = true then 0 else 3) ∧ tdV 64 t = (if tdOk 64 t = true then (tdT 64 t).l else [])) := ⟨rfl, rfl⟩
  have HOK : Hid (tdOk 64 t = ((endE t (tdT 64 t).a (tdT 64 t).e == 0) && isTb (tdT 64 t).l)) := rfl
  obtain ⟨na, ne, n0⟩ := N
  simp only at *
  clear hs hsm hN CB
  generalize tdE 64 t = DE at *
  generalize tdV 64 t = DV at *
  generalize tdOk 64 t = OK at *
  generalize tdT 64 t = M at *
  go_enter Try.func20, Try.ntmps20
  go_wp2_with fail
  refine (RN.out _).mono ?_
  rintro e w1 ⟨rfl, b1⟩
  have H1 : Hid (QhS w w1.heap.size t na ne (.slice none 0 0) [] (w1.alloc (.cells #[.string t, .int .i64 na, .int .i64 ne] 79))) := ⟨srow w1 _ _, ownH_nil _ _ _, below_al b1 _, b1.size⟩
  clear b1 RN
  go_wp2
  go_loopw [6, 7] (fun o i wr => ∃ (k : Nat) (q : List Hd) (ad : Option Addr) (cap : Nat) (a e : Int), k ≤ n0 ∧ o = .slice ad k cap ∧ i = .int .i64 (k : Int) ∧ Hid (q.length = k) ∧ Hid (QhS w w1.heap.size t a e (.slice ad k cap) q wr) ∧ Hid (M = ⟨(dcH 64 t (n0 - k) a e).a, (dcH 64 t (n0 - k) a e).e, q ++ (dcH 64 t (n0 - k) a e).l⟩)) (fun _ i _ => n0 - (intOf i).toNat)
  case atStart => exact ⟨0, [], none, 0, na, ne, Nat.zero_le _, rfl, rfl, rfl, H1, HM⟩
  case round =>
    clear H1 HM
    obtain ⟨k, q, ad, cap, a, e, hk, rfl, rfl, HA, HS, HM⟩ := hrel
    generalize w1.heap.size = g at *
    obtain ⟨⟨c0, c1, c2⟩, -⟩ := HS.out.three
    by_cases hlt : k < n0
    · have hk1 : (k : Int) < (n0 : Int) := by omega
      have hk5 : k < 64 := by have := HN64.out; omega
      have hwk : wrap64 ((k : Int) + 1) = ((k + 1 : Nat) : Int) := by rw [IntWalk.wrap64_in _ (by omega)]; omega
      have HB1 : Hid (k + 1 ≤ 4611686018427387904) := by show _ ≤ _; omega
      have HB2 : Hid ((k + 1) * 56 ≤ 140737488355328) := by show _ ≤ _; omega
      have HM2 : Hid (M = ⟨(dcH 64 t (n0 - (k + 1)) (rdH 64 t a e).a (rdH 64 t a e).e).a, (dcH 64 t (n0 - (k + 1)) (rdH 64 t a e).a (rdH 64 t a e).e).e, (q ++ [(rdH 64 t a e).v]) ++ (dcH 64 t (n0 - (k + 1)) (rdH 64 t a e).a (rdH 64 t a e).e).l⟩) := by
        show _ = _
        rw [HM.out, show n0 - k = (n0 - (k + 1)) + 1 by omega]
        simp only [dcH, List.append_assoc, List.singleton_append]
      obtain ⟨T, hT⟩ : ∃ T, T = tS t a e 64 := ⟨_, rfl⟩
      obtain ⟨U, hU⟩ : ∃ U, U = tS t T.a T.e 64 := ⟨_, rfl⟩
      obtain ⟨O, hO⟩ : ∃ O, O = tS t U.a U.e 4096 := ⟨_, rfl⟩
      obtain ⟨I, hI⟩ : ∃ I, I = dcN t 1099511627776 O.a O.e := ⟨_, rfl⟩
      have HV : Hid (rdH 64 t a e = ⟨I.a, I.e, ⟨T.x, U.x, O.x, (I.n : Int)⟩⟩) := by subst hI hO hU hT; rfl
      have R1 := hid (fun W => RT.out 64 a e W)
      have R2 := hid (fun W => RT.out 64 T.a T.e W)
      have R3 := hid (fun W => RT.out 4096 U.a U.e W)
      have R4 := hid (fun W => RI.out O.a O.e W)
      rw [← hT] at R1
      rw [← hU] at R2
      rw [← hO] at R3
      rw [← hI] at R4
      have HLT := hid hlt
      clear hT hU hO hI HM RI RT RE IC HN64 HOK HVE hlt hk
      generalize rdH 64 t a e = R at *
      obtain ⟨ta, te, tx⟩ := T
      obtain ⟨ua, ue, ux⟩ := U
      obtain ⟨oa, oe, ox⟩ := O
      obtain ⟨ia, ie, iN⟩ := I
      simp only at *
      have hR := HV.out
      subst hR
      simp only at HM2
      clear HV
      go_wp2_with fail
      refine (R1.out _).mono ?_
      rintro e' w2 ⟨rfl, b2⟩
      have H2 := hid ((HS.out.call b2).al (.cells #[.string t, .int .i64 ta, .int .i64 te] 79))
      clear b2 R1 c0 c1 c2 HS
      go_wp2_with fail
      refine (R2.out _).mono ?_
      rintro e' w3 ⟨rfl, b3⟩
      have H3 := hid ((H2.out.call b3).al (.cells #[.string t, .int .i64 ua, .int .i64 ue] 79))
      clear b3 R2 H2
      go_wp2_with fail
      refine (R3.out _).mono ?_
      rintro e' w4 ⟨rfl, b4⟩
      have H4 := hid ((H3.out.call b4).al (.cells #[.string t, .int .i64 oa, .int .i64 oe] 79))
      clear b4 R3 H3
      go_wp2_with fail
      refine (R4.out _).mono ?_
      rintro e' w5 ⟨rfl, b5⟩
      have H5 := hid ((H4.out.call b5).al (.cells #[.string t, .int .i64 ia, .int .i64 ie] 79))
      clear b5 R4 H4
      obtain ⟨⟨c0, c1, c2⟩, f0, f1, f2⟩ := H5.out.three
      have H6 := hid (H5.out.put ia ie)
      have H7 := hid (H6.out.al (.cells #[.string tx, .string ux, .string ox, .int .i64 (iN : Int)] 37))
      have hz6 : ((((w5.alloc (.cells #[.string t, .int .i64 ia, .int .i64 ie] 79)).setCell ⟨g, 0, none⟩ (.string t)).setCell ⟨g, 1, none⟩ (.int .i64 ia)).setCell ⟨g, 2, none⟩ (.int .i64 ie)).heap.size = w5.heap.size + 1 := by simp [World.setCell]
      have HGA : Hid (((((w5.alloc (.cells #[.string t, .int .i64 ia, .int .i64 ie] 79)).setCell ⟨g, 0, none⟩ (.string t)).setCell ⟨g, 1, none⟩ (.int .i64 ia)).setCell ⟨g, 2, none⟩ (.int .i64 ie)).alloc (.cells #[.string tx, .string ux, .string ox, .int .i64 (iN : Int)] 37) |>.ownsRow (g + 1) 37 4 (.slice ad k cap) k (hqC q)) := by have := H7.out.own; unfold OwnH at this; rw [HA.out] at this; exact this
      have HGX : Hid (GSrc (((((w5.alloc (.cells #[.string t, .int .i64 ia, .int .i64 ie] 79)).setCell ⟨g, 0, none⟩ (.string t)).setCell ⟨g, 1, none⟩ (.int .i64 ia)).setCell ⟨g, 2, none⟩ (.int .i64 ie)).alloc (.cells #[.string tx, .string ux, .string ox, .int .i64 (iN : Int)] 37)) (.slice (some ⟨w5.heap.size + 1, 0, none⟩) 1 1) 1 (hdC ⟨tx, ux, ox, (iN : Int)⟩)) := by
        have := srow ((((w5.alloc (.cells #[.string t, .int .i64 ia, .int .i64 ie] 79)).setCell ⟨g, 0, none⟩ (.string t)).setCell ⟨g, 1, none⟩ (.int .i64 ia)).setCell ⟨g, 2, none⟩ (.int .i64 ie)) [.string tx, .string ux, .string ox, .int .i64 (iN : Int)] 37
        rw [hz6] at this
        exact gsrc_block this
      have HSZ : Hid (g + 1 ≤ (((((w5.alloc (.cells #[.string t, .int .i64 ia, .int .i64 ie] 79)).setCell ⟨g, 0, none⟩ (.string t)).setCell ⟨g, 1, none⟩ (.int .i64 ia)).setCell ⟨g, 2, none⟩ (.int .i64 ie)).alloc (.cells #[.string tx, .string ux, .string ox, .int .i64 (iN : Int)] 37)).heap.size) := H7.out.rd.lt
      have HO1 := hid (hdC_one ⟨tx, ux, ox, (iN : Int)⟩)
      have HX2 : Hid ((hdC ⟨tx, ux, ox, (iN : Int)⟩).length = 1 * 4) := rfl
      have HA2 : Hid ((q ++ [(⟨tx, ux, ox, (iN : Int)⟩ : Hd)]).length = k + 1) := by show _ = _; rw [List.length_append, HA.out]; rfl
      have FIN : Hid (∀ ad' cap' w', w'.ownsRow (g + 1) 37 4 (.slice ad' (k + 1) cap') (k + 1) (hqC q ++ hdC ⟨tx, ux, ox, (iN : Int)⟩) → Keep (fun j => (Value.slice ad k cap).ownBlock = some j) (((((w5.alloc (.cells #[.string t, .int .i64 ia, .int .i64 ie] 79)).setCell ⟨g, 0, none⟩ (.string t)).setCell ⟨g, 1, none⟩ (.int .i64 ia)).setCell ⟨g, 2, none⟩ (.int .i64 ie)).alloc (.cells #[.string tx, .string ux, .string ox, .int .i64 (iN : Int)] 37)) w' → Hid (QhS w g t ia ie (.slice ad' (k + 1) cap') (q ++ [(⟨tx, ux, ox, (iN : Int)⟩ : Hd)]) w')) := fun ad' cap' w' hr hk' => by
        refine H7.out.app ?_ hk'
        unfold OwnH
        rw [HA2.out, hqC_app, hqC_one]
        exact hr
      clear H5 H6 H7 HA hz6
      generalize hdC ⟨tx, ux, ox, (iN : Int)⟩ = XS at *
      generalize hqC q = PA at *
      go_wp2_with (at_builtin; refine wpl_gappL rfl _ _ elRH rfl (g + 1) (.slice ad k cap) (.slice (some ⟨w5.heap.size + 1, 0, none⟩) 1 1) PA XS k 1 (k + 1) rfl rfl rfl HGA.out HSZ.out HGX.out HX2.out HO1.out HB1.out HB2.out ?_; intro ad' cap' w' hr' hk')
      have F1 := FIN.out _ _ _ hr' hk'
      clear hr' hk' FIN HGA HGX HSZ c0 c1 c2 f0 f1 f2
      go_wp2
      exact ⟨⟨k + 1, _, _, _, ia, ie, HLT.out, rfl, by first | rw [hwk] | rfl | simp, HA2, F1, HM2⟩, by (try rw [hwk]); have := HLT.out; simp [intOf]; omega⟩
    · have hk9 : k = n0 := by omega
      have hdl : decide ((k : Int) < (n0 : Int)) = false := decide_eq_false (by omega)
      have hdl2 : decide (k < n0) = false := decide_eq_false (by omega)
      have HM2 : M = ⟨a, e, q⟩ := by rw [HM.out, hk9, Nat.sub_self]; simp [dcH]
      subst HM2
      simp only at HVE HOK IC
      have R7 := hid (fun W => RE.out a e W)
      clear HM RI RT HN64 hlt hk hk9 RE
      go_wp2_with fail
      refine (R7.out _).mono ?_
      rintro e' w3 ⟨rfl, b3⟩
      have H3 := hid (HS.out.call b3)
      clear b3 R7 HS c0 c1 c2
      generalize endE t a e = E at *
      have hfd : ∀ W : World, (Instr.field 79 (.agg #[.string t, .int .i64 a, .int .i64 E]) 2).run Try.prog W = .ok (.int .i64 E) W := fun _ => by kernel_rfl
      by_cases hE : E = 0
      · subst hE
        have C3 := hid (IC.out _ q _ H3.out.own.hd rfl)
        clear IC
        generalize isTb q = C at *
        go_wp2_with fail
        refine C3.out.mono ?_
        rintro e' w4 ⟨rfl, b4⟩
        have H4 := hid (H3.out.call b4)
        clear C3 b4 H3
        cases C
        · have hO : OK = false := HOK.out
          subst hO
          obtain ⟨d1, d2⟩ := HVE.out
          simp only [Bool.false_eq_true, if_false] at d1 d2
          have HD : Hid (DE = 3 ∧ DV = []) := ⟨d1, d2⟩
          clear d1 d2 HVE HOK hdl hdl2
          go_wp2
          go_ret2
          rw [HD.out.1, HD.out.2]
          exact giveH_none H4.out.bel
        · have hO : OK = true := HOK.out
          subst hO
          obtain ⟨d1, d2⟩ := HVE.out
          rw [if_pos rfl] at d1 d2
          have HD : Hid (DE = 0 ∧ DV = q) := ⟨d1, d2⟩
          clear d1 d2 HVE HOK hdl hdl2
          go_wp2
          go_ret2
          rw [HD.out.1, HD.out.2]
          refine ⟨ad, cap, ?_, ?_, H4.out.bel⟩
          · rw [HA.out]; rfl
          · rw [HA.out]; exact ownsRow_base H4.out.own (Nat.le_succ_of_le H4.out.low)
      · have hE2 : (E == 0) = false := beq_eq_false_iff_ne.2 hE
        have hE3 : (E != 0) = true := bne_iff_ne.2 hE
        have hO : OK = false := by rw [HOK.out, hE2]; rfl
        subst hO
        obtain ⟨d1, d2⟩ := HVE.out
        simp only [Bool.false_eq_true, if_false] at d1 d2
        have HD : Hid (DE = 3 ∧ DV = []) := ⟨d1, d2⟩
        clear d1 d2 HVE HOK hdl hdl2 IC
        go_wp2
        go_ret2
        rw [HD.out.1, HD.out.2]
        exact giveH_none H3.out.bel
end Go.Proofs.Ytojiahdbgdgdcaa
