/- Joined: The parts that a text says: the program's walk. The parts that a text says: the document's walk. What is told is read again, and in one form alone: parts' text. -/
import Derived.Test.YtbiapepalkdkdabPkC
import Derived.Test.YtbiapepalkdkdabJoined23
import Derived.Test.YtbiapepalkdkdabJoined22
import Derived.Test.YtbiapepalkdkdabPmA
namespace Go.Proofs.Ytbiapepalkdkdab
open Go.RowKit Go.Maps
set_option linter.unusedVariables false
set_option linter.unusedSimpArgs false

/-- a part that a reader takes -/
structure DtR where
  a : Int
  e : Int
  v : Pt
def rdT (s : ByteArray) (a e : Int) : DtR :=
  let I := dcN s 100 a e
  let P := rdP s I.a I.e
  let X := tS s P.a P.e 64
  ⟨X.a, X.e, ⟨(I.n : Int), pcV P.l, X.x, P.l⟩⟩
structure DtL where
  a : Int
  e : Int
  l : List Pt
def dcT (s : ByteArray) : Nat → Int → Int → DtL
  | 0, a, e => ⟨a, e, []⟩
  | j + 1, a, e =>
    let X := rdT s a e
    let r := dcT s j X.a X.e
    ⟨r.a, r.e, X.v :: r.l⟩
def pdT (s : ByteArray) : DtL := dcT s (dcN s 100 0 0).n (dcN s 100 0 0).a (dcN s 100 0 0).e
def pdOk (s : ByteArray) : Bool := (endE s (pdT s).a (pdT s).e == 0) && arePt (pdT s).l
def pdV (s : ByteArray) : List Pt := if pdOk s = true then (pdT s).l else []
def pdE (s : ByteArray) : Int := if pdOk s = true then 0 else 3
/-- a reader at g, a part in a box at b, its pieces ahead of that, the result's cell ahead of all -/
structure RtS (w : World) (g : Nat) (s : ByteArray) (a e : Int) (b : Nat) (cs : List Value) (v : Value) (ps : List Pc) (W : World) : Prop where
  rd : RdAt W g s a e
  box : RowIs W b cs 25
  own : OwnP W (w.heap.size + 1) 69 v ps
  res : RowIs W w.heap.size [.int .i64 0, .int .i64 0, .string ⟨#[]⟩, .slice none 0 0] 25
  on : Only g w W
  lt : g < w.heap.size
  low : w.heap.size < b
section
variable {w W W' : World} {g b : Nat} {s : ByteArray} {a e : Int} {cs : List Value} {v : Value} {ps : List Pc}
theorem RtS.call (h : RtS w g s a e b cs v ps W) (hb : Below W.heap.size W W') : RtS w g s a e b cs v ps W' :=
  ⟨h.rd.keeps hb, h.box.keep (hb.keep (fun _ => False)) (fun h => h), (hb.keep (fun _ => False)).ownsRow h.own (fun _ _ h => h), h.res.keep (hb.keep (fun _ => False)) (fun h => h), h.on.trans (hb.only g), h.lt, h.low⟩
theorem RtS.put (h : RtS w g s a e b cs v ps W) (i : Nat) (x : Value) : RtS w g s a e b (cs.set i x) v ps (W.setCell ⟨b, i, none⟩ x) := by
  have kS := keep_setCell W b i x
  have h1 := h.lt
  have h2 := h.low
  have h3 := h.box.lt
  exact ⟨h.rd.same (kS.block _ (rd_lt h.rd) (by omega)), h.box.set i x, kS.ownsRow h.own (fun k hk e => box_apart h.box h.own (by decide) (by rw [hk, e])), h.res.keep kS (by omega), ⟨kS.os.trans h.on.os, kS.tape.trans h.on.tape, kS.output.trans h.on.output, Nat.le_trans h.on.size kS.size, fun k hk hg => (kS.block k (Nat.lt_of_lt_of_le hk h.on.size) (by omega)).trans (h.on.block k hk hg)⟩, h.lt, h.low⟩
theorem RtS.done (h : RtS w g s a e b cs v ps W) (x0 x1 x2 x3 : Value) : RowIs ((((W.setCell ⟨w.heap.size, 0, none⟩ x0).setCell ⟨w.heap.size, 1, none⟩ x1).setCell ⟨w.heap.size, 2, none⟩ x2).setCell ⟨w.heap.size, 3, none⟩ x3) w.heap.size [x0, x1, x2, x3] 25 ∧ PrS w g s a e v ps ((((W.setCell ⟨w.heap.size, 0, none⟩ x0).setCell ⟨w.heap.size, 1, none⟩ x1).setCell ⟨w.heap.size, 2, none⟩ x2).setCell ⟨w.heap.size, 3, none⟩ x3) := by
  have f := four4 h.res (x0 := x0) (x1 := x1) (x2 := x2) (x3 := x3)
  have h1 := h.lt
  have h2 := h.low
  have k := f.2
  refine ⟨f.1, h.rd.same (k.block _ (rd_lt h.rd) (by omega)), ownsRow_base (k.ownsRow h.own (fun j hj e => by have := ownsRow_ge h.own hj; omega)) (by omega), ⟨k.os.trans h.on.os, k.tape.trans h.on.tape, k.output.trans h.on.output, Nat.le_trans h.on.size k.size, fun j hj hg => (k.block j (Nat.lt_of_lt_of_le hj h.on.size) (by omega)).trans (h.on.block j hj hg)⟩, h.lt⟩
end
set_option maxRecDepth 100000 in
set_option maxHeartbeats 4000000 in
theorem rdpart_any (g : Nat) (t : ByteArray) (a0 e0 : Int) (w : World) (h : RdAt w g t a0 e0) (hs : t.size ≤ 140737488355328) : Calls Try.prog 60 #[.pointer (some ⟨g, 0, none⟩)] w fun r w' => ∃ ad cap, r = .returned (ptV (.slice ad (rdT t a0 e0).v.ps.length cap, (rdT t a0 e0).v)) ∧ PrS w g t (rdT t a0 e0).a (rdT t a0 e0).e (.slice ad (rdT t a0 e0).v.ps.length cap) (rdT t a0 e0).v.ps w' := by
  have hsm : t.size ≤ maxLen := by unfold maxLen; omega
  obtain ⟨I, hI⟩ : ∃ I, I = dcN t 100 a0 e0 := ⟨_, rfl⟩
  obtain ⟨P, hP⟩ : ∃ P, P = rdP t I.a I.e := ⟨_, rfl⟩
  obtain ⟨X, hX⟩ : ∃ X, X = tS t P.a P.e 64 := ⟨_, rfl⟩
  have HV : Hid (rdT t a0 e0 = ⟨X.a, X.e, ⟨I.n, pcV P.l, X.x, P.l⟩⟩) := by subst hX hP hI; rfl
  have RI : Hid (∀ W, RdAt W g t a0 e0 → Calls Try.prog 59 #[.pointer (some ⟨g, 0, none⟩), .int .i64 100] W fun r w' => r = .returned (.int .i64 I.n) ∧ RdAt w' g t I.a I.e ∧ Only g W w') := fun W h => by rw [hI]; exact rd_int g t a0 e0 _ W h hsm (by omega) (nS_int t a0 e0 _ (by omega))
  have RP : Hid (∀ W, RdAt W g t I.a I.e → Calls Try.prog 85 #[.pointer (some ⟨g, 0, none⟩)] W fun r w' => ∃ ad cap, r = .returned (.slice ad P.l.length cap) ∧ PrS W g t P.a P.e (.slice ad P.l.length cap) P.l w') := fun W h => by rw [hP]; exact pread_any g t I.a I.e W h hs
  have RX : Hid (∀ W, RdAt W g t P.a P.e → Calls Try.prog 86 #[.pointer (some ⟨g, 0, none⟩), .int .i64 64] W fun r w' => r = .returned (.string X.x) ∧ RdAt w' g t X.a X.e ∧ Only g W w') := fun W h => by rw [hX]; exact rd_text g t P.a P.e 64 W h hs
  have PC := hid (fun v W hv => pieces_any v P.l W hv)
  have H0 : Hid (RdAt (w.alloc (.cells #[.int .i64 0, .int .i64 0, .string ⟨#[]⟩, .slice none 0 0] 25)) g t a0 e0) := h.keeps ((Below.refl _ _).alloc (Nat.le_refl _) _)
  have HR0 := hid (srow w [.int .i64 0, .int .i64 0, .string ⟨#[]⟩, .slice none 0 0] 25)
  have HG := hid (rd_lt h)
  clear hI hP hX hs hsm h
  generalize rdT t a0 e0 = R at *
  obtain ⟨ia, ie, iN⟩ := I
  obtain ⟨pa, pe, pl⟩ := P
  obtain ⟨xa, xe, xx⟩ := X
  simp only at *
  have hR := HV.out
  subst hR
  simp only
  clear HV
  go_enter Try.func60, Try.ntmps60
  go_wp2_with fail
  refine (RI.out _ H0.out).mono ?_
  rintro e w1 ⟨rfl, h1, o1⟩
  have H1 : Hid (RdAt w1 g t ia ie ∧ RowIs w1 w.heap.size [.int .i64 0, .int .i64 0, .string ⟨#[]⟩, .slice none 0 0] 25 ∧ Only g w w1) := ⟨h1, HR0.out.keep o1.keep (by have := HG.out; omega), (((Below.refl w.heap.size w).alloc (Nat.le_refl _) _).only g).trans o1⟩
  clear h1 o1 RI H0 HR0
  go_wp2_with fail
  refine (RP.out _ H1.out.1).mono ?_
  rintro e w2 ⟨ad, cap, rfl, h2⟩
  have H2 : Hid (RdAt w2 g t pa pe ∧ RowIs w2 w.heap.size [.int .i64 0, .int .i64 0, .string ⟨#[]⟩, .slice none 0 0] 25 ∧ Only g w w2 ∧ OwnP w2 (w.heap.size + 1) 69 (.slice ad pl.length cap) pl) := ⟨h2.rd, H1.out.2.1.keep h2.on.keep (by have := HG.out; omega), H1.out.2.2.trans h2.on, ownsRow_base h2.own H1.out.2.1.lt⟩
  clear h2 RP H1
  go_wp2_with fail
  refine (RX.out _ H2.out.1).mono ?_
  rintro e w3 ⟨rfl, h3, o3⟩
  obtain ⟨PV, hPV⟩ : ∃ PV, pcV pl = PV := ⟨_, rfl⟩
  rw [hPV] at PC
  have HPV := hid hPV
  clear hPV
  generalize hpn : pl.length = pn at *
  have H3 : Hid (RtS w g t xa xe w3.heap.size [.int .i64 (iN : Int), .int .i64 0, .string xx, .slice ad pn cap] (.slice ad pn cap) pl (w3.alloc (.cells #[.int .i64 (iN : Int), .int .i64 0, .string xx, .slice ad pn cap] 25))) := by
    have r2 := H2.out.2.1.keep o3.keep (by have := HG.out; omega)
    have o2 : OwnP w3 (w.heap.size + 1) 69 (.slice ad pn cap) pl := o3.keep.ownsRow H2.out.2.2.2 (fun k hk e => by have := ownsRow_ge H2.out.2.2.2 hk; have := HG.out; omega)
    refine ⟨h3.keeps ((Below.refl _ _).alloc (Nat.le_refl _) _), srow w3 _ _, OwnP.next o2 ((Below.refl _ _).alloc (Nat.le_refl _) _), row_old r2 _, (H2.out.2.2.1.trans o3).trans (((Below.refl w3.heap.size w3).alloc (Nat.le_refl _) _).only g), HG.out, r2.lt⟩
  clear h3 o3 RX H2
  have y3 := H3.out.box.cellAt (o := 3) rfl
  have C3 := hid (PC.out _ _ H3.out.own.pcs)
  clear PC
  go_wp2_with fail
  refine C3.out.mono ?_
  rintro e w4 ⟨rfl, b4⟩
  have H4 := hid (H3.out.call b4)
  clear b4 C3 H3 y3
  generalize hbb : w3.heap.size = b at *
  clear hbb
  have y1 := H4.out.box.cellAt (o := 1) rfl
  have f1 := H4.out.box.frozen (o := 1)
  have H5 : Hid (RtS w g t xa xe b [.int .i64 (iN : Int), .int .i64 PV, .string xx, .slice ad pn cap] (.slice ad pn cap) pl (w4.setCell ⟨b, 1, none⟩ (.int .i64 PV))) := H4.out.put 1 _
  have z0 := H5.out.box.cellAt (o := 0) rfl
  have z1 := H5.out.box.cellAt (o := 1) rfl
  have z2 := H5.out.box.cellAt (o := 2) rfl
  have z3 := H5.out.box.cellAt (o := 3) rfl
  have r0 := H5.out.res.cellAt (o := 0) rfl
  have r1 := H5.out.res.cellAt (o := 1) rfl
  have r2 := H5.out.res.cellAt (o := 2) rfl
  have r3 := H5.out.res.cellAt (o := 3) rfl
  have q0 := H5.out.res.frozen (o := 0)
  have q1 := H5.out.res.frozen (o := 1)
  have q2 := H5.out.res.frozen (o := 2)
  have q3 := H5.out.res.frozen (o := 3)
  have H9 := hid (H5.out.done (.int .i64 (iN : Int)) (.int .i64 PV) (.string xx) (.slice ad pn cap))
  clear H4 H5
  go_wp2
  refine bodyPost_ret (v := .agg #[.int .i64 (iN : Int), .int .i64 PV, .string xx, .slice ad pn cap]) (results_cell_row (p := 2) rfl _ _ w.heap.size 25 #[.int .i64 (iN : Int), .int .i64 PV, .string xx, .slice ad pn cap] (0, 0) _ rfl H9.out.1 Try.underlying25 rfl (by kernel_rfl)) rfl ?_
  subst hpn
  exact ⟨ad, cap, by rw [HPV.out]; rfl, H9.out.2⟩
/-- a reader, and parts in a row behind it -/
structure DtS (w : World) (s : ByteArray) (a e : Int) (v : Value) (q : List (Value × Pt)) (W : World) : Prop where
  rd : RdAt W w.heap.size s a e
  own : OwnT W (w.heap.size + 1) 25 69 v q
  bel : Below w.heap.size w W
theorem OwnT.keep {S : Nat → Prop} {W W' : World} {B tv tp : Nat} {v : Value} {q : List (Value × Pt)} (h : OwnT W B tv tp v q) (k : Keep S W W') (hS : ∀ g, B ≤ g → ¬ S g) : OwnT W' B tv tp v q :=
  ⟨k.ownsRow h.1 (fun g hg => hS g (ownsRow_ge h.1 hg)), fun y hy => k.ownsRow (h.2 y hy) (fun g hg => hS g (ownsRow_ge (h.2 y hy) hg))⟩
theorem DtS.read {w W W' : World} {s : ByteArray} {a e a' e' : Int} {v : Value} {q : List (Value × Pt)} (h : DtS w s a e v q W) (hr : RdAt W' w.heap.size s a' e') (ho : Only w.heap.size W W') : DtS w s a' e' v q W' :=
  ⟨hr, h.own.keep ho.keep (fun g hg e => by omega), h.bel.trans (ho.below (Nat.le_refl _) h.bel.size)⟩
theorem DtS.call {w W W' : World} {s : ByteArray} {a e : Int} {v : Value} {q : List (Value × Pt)} (h : DtS w s a e v q W) (hb : Below W.heap.size W W') : DtS w s a e v q W' := h.read (h.rd.keeps hb) (hb.only _)
theorem DtS.al {w W : World} {s : ByteArray} {a e : Int} {v : Value} {q : List (Value × Pt)} (h : DtS w s a e v q W) (o : Obj) : DtS w s a e v q (W.alloc o) := h.call ((Below.refl _ _).alloc (Nat.le_refl _) o)
theorem DtS.take {w W W' : World} {s : ByteArray} {a e a' e' : Int} {v pv : Value} {q : List (Value × Pt)} {ps : List Pc} (h : DtS w s a e v q W) (hp : PrS W w.heap.size s a' e' pv ps W') : DtS w s a' e' v q W' ∧ OwnP W' (w.heap.size + 1) 69 pv ps :=
  ⟨h.read hp.rd hp.on, ownsRow_base hp.own (rd_lt h.rd)⟩
theorem DtS.app {w W W' : World} {s : ByteArray} {a e : Int} {v v' : Value} {q : List (Value × Pt)} {y : Value × Pt} (h : DtS w s a e v q W) (hy : OwnP W (w.heap.size + 1) 69 y.1 y.2.ps) (hr : W'.ownsRow (w.heap.size + 1) 25 4 v' (q.length + 1) (tqC q ++ ptC y)) (hk : Keep (fun j => v.ownBlock = some j) W W') : DtS w s a e v' (q ++ [y]) W' := by
  have hge := fun k (e : v.ownBlock = some k) => ownsRow_ge h.own.1 e
  exact ⟨h.rd.same (hk.block _ (rd_lt h.rd) (fun e => by have := hge _ e; omega)), h.own.app hy (by decide) hr hk, h.bel.trans (keep_below hk (fun k hk' e => by have := hge _ e; omega) h.bel.size)⟩
set_option maxRecDepth 100000 in
set_option maxHeartbeats 4000000 in
theorem pdecode_any (t : ByteArray) (w : World) (hs : t.size ≤ 140737488355328) : Calls Try.prog 26 #[.string t] w (GiveQ w (pdV t) (pdE t)) := by
  have hsm : t.size ≤ maxLen := by unfold maxLen; omega
  obtain ⟨N, hN⟩ : ∃ N, N = dcN t 100 0 0 := ⟨_, rfl⟩
  have NW := hid (new_reader t w)
  have RN : Hid (∀ W, RdAt W w.heap.size t 0 0 → Calls Try.prog 59 #[.pointer (some ⟨w.heap.size, 0, none⟩), .int .i64 100] W fun r w' => r = .returned (.int .i64 N.n) ∧ RdAt w' w.heap.size t N.a N.e ∧ Only w.heap.size W w') := fun W h => by rw [hN]; exact rd_int w.heap.size t 0 0 _ W h hsm (by omega) (nS_int t 0 0 _ (by omega))
  have RV : Hid (∀ a e W, RdAt W w.heap.size t a e → Calls Try.prog 60 #[.pointer (some ⟨w.heap.size, 0, none⟩)] W fun r w' => ∃ ad cap, r = .returned (ptV (.slice ad (rdT t a e).v.ps.length cap, (rdT t a e).v)) ∧ PrS W w.heap.size t (rdT t a e).a (rdT t a e).e (.slice ad (rdT t a e).v.ps.length cap) (rdT t a e).v.ps w') := fun a e W h => rdpart_any w.heap.size t a e W h hs
  have RE := hid (fun a e W h => rd_end w.heap.size t a e W h)
  have IC := hid (fun v q W hv hl => areParts_any v q W hv hl)
  have HN32 : Hid ((N.n : Int) ≤ 100) := by have := dcN_le t 100 0 0 (by omega); show _ ≤ _; rw [hN]; exact this
  have HM : Hid (pdT t = dcT t (N.n - 0) N.a N.e) := by show _ = _; rw [hN]; rfl
  have HVE : Hid (pdE t = (if pdOk t = true then 0 else 3) ∧ pdV t = (if pdOk t = true then (pdT t).l else [])) := ⟨rfl, rfl⟩
  have HOK : Hid (pdOk t = ((endE t (pdT t).a (pdT t).e == 0) && arePt (pdT t).l)) := rfl
  obtain ⟨na, ne, n0⟩ := N
  simp only at *
  clear hs hsm hN
  generalize pdE t = DE at *
  generalize pdV t = DV at *
  generalize pdOk t = OK at *
  generalize pdT t = M at *
  go_enter Try.func26, Try.ntmps26
  go_wp2_with fail
  refine NW.out.mono ?_
  rintro e w1 ⟨rfl, h1, b1⟩
  have H1 : Hid (DtS w t 0 0 (.slice none 0 0) [] w1) := ⟨h1, ownT_nil _ _ _ _, b1⟩
  clear h1 b1 NW
  go_wp2_with fail
  refine (RN.out _ H1.out.rd).mono ?_
  rintro e w2 ⟨rfl, h2, o2⟩
  have H2 := hid (H1.out.read h2 o2)
  clear h2 o2 RN H1
  go_wp2
  go_loopw [5, 10] (fun o i wr => ∃ (k : Nat) (q : List (Value × Pt)) (ad : Option Addr) (cap : Nat) (a e : Int), k ≤ n0 ∧ o = .slice ad k cap ∧ i = .int .i64 (k : Int) ∧ Hid (q.length = k) ∧ Hid (DtS w t a e (.slice ad k cap) q wr) ∧ Hid (M = ⟨(dcT t (n0 - k) a e).a, (dcT t (n0 - k) a e).e, tqL q ++ (dcT t (n0 - k) a e).l⟩)) (fun _ i _ => n0 - (intOf i).toNat)
  case atStart => exact ⟨0, [], none, 0, na, ne, Nat.zero_le _, rfl, rfl, rfl, H2, HM⟩
  case round =>
    clear H2 HM
    obtain ⟨k, q, ad, cap, a, e, hk, rfl, rfl, HA, HS, HM⟩ := hrel
    by_cases hlt : k < n0
    · have hk1 : (k : Int) < (n0 : Int) := by omega
      have hk5 : k < 100 := by have := HN32.out; omega
      have hwk : wrap64 ((k : Int) + 1) = ((k + 1 : Nat) : Int) := by rw [IntWalk.wrap64_in _ (by omega)]; omega
      have RX := hid (fun W h => RV.out a e W h)
      have HM2 : Hid (M = ⟨(dcT t (n0 - (k + 1)) (rdT t a e).a (rdT t a e).e).a, (dcT t (n0 - (k + 1)) (rdT t a e).a (rdT t a e).e).e, (tqL q ++ [(rdT t a e).v]) ++ (dcT t (n0 - (k + 1)) (rdT t a e).a (rdT t a e).e).l⟩) := by
        show _ = _
        rw [HM.out, show n0 - k = (n0 - (k + 1)) + 1 by omega]
        simp only [dcT, List.append_assoc, List.singleton_append]
      generalize rdT t a e = X at *
      obtain ⟨xa, xe, id, sz, sum, ps⟩ := X
      unfold ptV at RX
      simp only at *
      have HLT := hid hlt
      generalize hpn : ps.length = pn at *
      clear hpn HM RV RE IC HN32 HOK HVE hlt hk
      go_wp2_with fail
      refine (RX.out _ HS.out.rd).mono ?_
      rintro e' w3 ⟨ad3, cap3, rfl, h3⟩
      have H3 := hid (HS.out.take h3)
      clear h3 RX HS
      have H4 := hid (H3.out.1.al (.cells #[.int .i64 id, .int .i64 sz, .string sum, .slice ad3 pn cap3] 25))
      have O4 := hid (H3.out.2.next ((Below.refl _ _).alloc (Nat.le_refl _) (.cells #[.int .i64 id, .int .i64 sz, .string sum, .slice ad3 pn cap3] 25)))
      have HGA : Hid ((w3.alloc (.cells #[.int .i64 id, .int .i64 sz, .string sum, .slice ad3 pn cap3] 25)).ownsRow (w.heap.size + 1) 25 4 (.slice ad k cap) k (tqC q)) := by have := H4.out.own.1; rw [HA.out] at this; exact this
      have HGX : Hid (GSrc (w3.alloc (.cells #[.int .i64 id, .int .i64 sz, .string sum, .slice ad3 pn cap3] 25)) (.slice (some ⟨w3.heap.size, 0, none⟩) 1 1) 1 (ptC (.slice ad3 pn cap3, ⟨id, sz, sum, ps⟩))) := gsrc_block (heap_alloc_new _ _)
      have HSZ : Hid (w.heap.size + 1 ≤ (w3.alloc (.cells #[.int .i64 id, .int .i64 sz, .string sum, .slice ad3 pn cap3] 25)).heap.size) := rd_lt H4.out.rd
      have HO1 := hid (ptC_cell ad3 pn cap3 ⟨id, sz, sum, ps⟩)
      have HX2 : Hid ((ptC (.slice ad3 pn cap3, ⟨id, sz, sum, ps⟩)).length = 1 * 4) := rfl
      have HB1 : Hid (k + 1 ≤ 4611686018427387904) := by show _ ≤ _; omega
      have HB2 : Hid ((k + 1) * 56 ≤ 140737488355328) := by show _ ≤ _; omega
      have HA2 : Hid ((q ++ [(Value.slice ad3 pn cap3, (⟨id, sz, sum, ps⟩ : Pt))]).length = k + 1) := by show _ = _; rw [List.length_append, HA.out]; rfl
      have HM3 : Hid (M = ⟨(dcT t (n0 - (k + 1)) xa xe).a, (dcT t (n0 - (k + 1)) xa xe).e, tqL (q ++ [(Value.slice ad3 pn cap3, (⟨id, sz, sum, ps⟩ : Pt))]) ++ (dcT t (n0 - (k + 1)) xa xe).l⟩) := by show _ = _; rw [tqL_app]; exact HM2.out
      have FIN : Hid (∀ ad' cap' w', w'.ownsRow (w.heap.size + 1) 25 4 (.slice ad' (k + 1) cap') (k + 1) (tqC q ++ ptC (.slice ad3 pn cap3, ⟨id, sz, sum, ps⟩)) → Keep (fun j => (Value.slice ad k cap).ownBlock = some j) (w3.alloc (.cells #[.int .i64 id, .int .i64 sz, .string sum, .slice ad3 pn cap3] 25)) w' → Hid (DtS w t xa xe (.slice ad' (k + 1) cap') (q ++ [(Value.slice ad3 pn cap3, (⟨id, sz, sum, ps⟩ : Pt))]) w')) := fun ad' cap' w' hr hk' => H4.out.app O4.out (by rw [HA.out]; exact hr) hk'
      clear H4 H3 O4 HA HM2
      generalize ptC (.slice ad3 pn cap3, ⟨id, sz, sum, ps⟩) = XS at *
      generalize tqC q = PA at *
      go_wp2_with (at_builtin; refine wpl_gappL rfl _ _ elT rfl (w.heap.size + 1) (.slice ad k cap) (.slice (some ⟨w3.heap.size, 0, none⟩) 1 1) PA XS k 1 (k + 1) rfl rfl rfl HGA.out HSZ.out HGX.out HX2.out HO1.out HB1.out HB2.out ?_; intro ad' cap' w' hr' hk')
      have F1 := FIN.out _ _ _ hr' hk'
      clear hr' hk' FIN HGA HGX HSZ
      go_wp2
      exact ⟨⟨k + 1, _, _, _, xa, xe, HLT.out, rfl, by first | rw [hwk] | rfl | simp, HA2, F1, HM3⟩, by (try rw [hwk]); have := HLT.out; simp [intOf]; omega⟩
    · have hk9 : k = n0 := by omega
      have hdl : decide ((k : Int) < (n0 : Int)) = false := decide_eq_false (by omega)
      have hdl2 : decide (k < n0) = false := decide_eq_false (by omega)
      have HM2 : M = ⟨a, e, tqL q⟩ := by rw [HM.out, hk9, Nat.sub_self]; simp [dcT]
      subst HM2
      simp only at HVE HOK
      have R7 := hid (RE.out a e _ HS.out.rd)
      have HKB : Hid (q.length ≤ 8796093022208) := by have h1 := HN32.out; have h2 := HA.out; show _ ≤ _; omega
      clear HM RV HN32 hlt hk hk9 RE
      go_wp2_with fail
      refine R7.out.mono ?_
      rintro e' w3 ⟨rfl, h3, o3⟩
      have H3 := hid (HS.out.read h3 o3)
      clear h3 o3 R7 HS
      generalize endE t a e = E at *
      by_cases hE : E = 0
      · subst hE
        have C3 := hid (IC.out _ _ _ H3.out.own.pt HKB.out)
        clear IC
        generalize arePt (tqL q) = C at *
        go_wp2_with fail
        refine C3.out.mono ?_
        rintro e' w4 ⟨rfl, b4⟩
        have H4 := hid (H3.out.call b4)
        clear C3 b4 H3
        cases C
        · have hO : OK = false := HOK.out
          subst hO
          obtain ⟨d1, d2⟩ := HVE.out
          simp only [Bool.false_eq_true, if_false] at d1 d2
          have HD : Hid (DE = 3 ∧ DV = []) := ⟨d1, d2⟩
          clear d1 d2 HVE HOK hdl hdl2
          go_wp2
          go_ret2
          rw [HD.out.1, HD.out.2]
          exact giveQ_none H4.out.bel
        · have hO : OK = true := HOK.out
          subst hO
          obtain ⟨d1, d2⟩ := HVE.out
          rw [if_pos rfl] at d1 d2
          have HD : Hid (DE = 0 ∧ DV = tqL q) := ⟨d1, d2⟩
          clear d1 d2 HVE HOK hdl hdl2
          go_wp2
          go_ret2
          rw [HD.out.1, HD.out.2]
          exact ⟨ad, k, cap, q, rfl, rfl, H4.out.own.pt, H4.out.bel⟩
      · have hE2 : (E == 0) = false := beq_eq_false_iff_ne.2 hE
        have hE3 : (E != 0) = true := bne_iff_ne.2 hE
        have hO : OK = false := by rw [HOK.out, hE2]; rfl
        subst hO
        obtain ⟨d1, d2⟩ := HVE.out
        simp only [Bool.false_eq_true, if_false] at d1 d2
        have HD : Hid (DE = 3 ∧ DV = []) := ⟨d1, d2⟩
        clear d1 d2 HVE HOK hdl hdl2 IC
        go_wp2
        go_ret2
        rw [HD.out.1, HD.out.2]
        exact giveQ_none H3.out.bel
end Go.Proofs.Ytbiapepalkdkdab
namespace Go.Proofs.Ytbiapepalkdkdab
open Go.RowKit Go.Maps
set_option linter.unusedVariables false
set_option linter.unusedSimpArgs false

def PtBd (v : Pt) : Prop := v.sum.size ≤ 64 ∧ v.ps.length ≤ 512 ∧ ∀ p ∈ v.ps, p.id.size ≤ 64
theorem rdT_b (s : ByteArray) (a e : Int) : PtBd (rdT s a e).v := by
  refine ⟨?_, rdP_len _ _ _, rdP_ids _ _ _⟩
  have := tS_len s (rdP s (dcN s 100 a e).a (dcN s 100 a e).e).a (rdP s (dcN s 100 a e).a (dcN s 100 a e).e).e 64 (by omega)
  unfold rdT
  simp only
  omega
theorem dcT_b (s : ByteArray) : ∀ (j : Nat) (a e : Int), ∀ v ∈ (dcT s j a e).l, PtBd v
  | 0, _, _, v, hv => by simp [dcT] at hv
  | j + 1, a, e, v, hv => by
    simp only [dcT, List.mem_cons] at hv
    rcases hv with rfl | hv
    · exact rdT_b s a e
    · exact dcT_b s j _ _ v hv
theorem dcT_len (s : ByteArray) : ∀ (j : Nat) (a e : Int), (dcT s j a e).l.length = j
  | 0, _, _ => rfl
  | j + 1, a, e => by simp only [dcT, List.length_cons]; rw [dcT_len s j]
theorem pdT_b (s : ByteArray) : (pdT s).l.length ≤ 100 ∧ ∀ v ∈ (pdT s).l, PtBd v := by
  refine ⟨?_, dcT_b s _ _ _⟩
  unfold pdT
  rw [dcT_len]
  have := dcN_le s 100 0 0 (by omega)
  omega
/-- a reader's value in a box at g, parts in a row behind it -/
structure DuS (w : World) (g : Nat) (s : ByteArray) (a e : Int) (v : Value) (q : List (Value × Pt)) (W : World) : Prop where
  rd : RowIs W g [.string s, .int .i64 a, .int .i64 e] 114
  own : OwnT W (g + 1) 35 88 v q
  bel : Below w.heap.size w W
  low : w.heap.size ≤ g
section
variable {w W W' : World} {g : Nat} {s : ByteArray} {a e : Int} {v v' : Value} {q : List (Value × Pt)}
theorem DuS.call (h : DuS w g s a e v q W) (hb : Below W.heap.size W W') : DuS w g s a e v q W' :=
  ⟨h.rd.keep (hb.keep (fun _ => False)) (fun h => h), h.own.next hb, below_on h.bel hb, h.low⟩
theorem DuS.al (h : DuS w g s a e v q W) (o : Obj) : DuS w g s a e v q (W.alloc o) := h.call ((Below.refl _ _).alloc (Nat.le_refl _) o)
theorem DuS.put (h : DuS w g s a e v q W) (a' e' : Int) : DuS w g s a' e' v q (((W.setCell ⟨g, 0, none⟩ (.string s)).setCell ⟨g, 1, none⟩ (.int .i64 a')).setCell ⟨g, 2, none⟩ (.int .i64 e')) ∧ Keep (· = g) W (((W.setCell ⟨g, 0, none⟩ (.string s)).setCell ⟨g, 1, none⟩ (.int .i64 a')).setCell ⟨g, 2, none⟩ (.int .i64 e')) := by
  have k : Keep (· = g) W (((W.setCell ⟨g, 0, none⟩ (.string s)).setCell ⟨g, 1, none⟩ (.int .i64 a')).setCell ⟨g, 2, none⟩ (.int .i64 e')) := ((keep_setCell _ _ _ _).trans (keep_setCell _ _ _ _)).trans (keep_setCell _ _ _ _)
  have h2 := h.low
  exact ⟨⟨((h.rd.set 0 _).set 1 _).set 2 _, h.own.keep k (fun j hj e => by omega), h.bel.trans (keep_below k (fun j hj e => by omega) h.bel.size), h.low⟩, k⟩
theorem DuS.app (h : DuS w g s a e v q W) {y : Value × Pt} (hy : OwnP W (g + 1) 88 y.1 y.2.ps) (hr : W'.ownsRow (g + 1) 35 4 v' (q.length + 1) (tqC q ++ ptC y)) (hk : Keep (fun j => v.ownBlock = some j) W W') : DuS w g s a e v' (q ++ [y]) W' := by
  have hge := fun k (e : v.ownBlock = some k) => ownsRow_ge h.own.1 e
  have hl := h.low
  exact ⟨h.rd.keep hk (fun e => by have := hge _ e; omega), h.own.app hy (by decide) hr hk, h.bel.trans (keep_below hk (fun k hk' e => by have := hge _ e; omega) h.bel.size), h.low⟩
theorem DuS.three (h : DuS w g s a e v q W) : (W.cell? ⟨g, 0, none⟩ = some (.string s) ∧ W.cell? ⟨g, 1, none⟩ = some (.int .i64 a) ∧ W.cell? ⟨g, 2, none⟩ = some (.int .i64 e)) ∧ W.frozen? ⟨g, 0, none⟩ = false ∧ W.frozen? ⟨g, 1, none⟩ = false ∧ W.frozen? ⟨g, 2, none⟩ = false := ⟨⟨h.rd.cellAt rfl, h.rd.cellAt rfl, h.rd.cellAt rfl⟩, h.rd.frozen, h.rd.frozen, h.rd.frozen⟩
end
set_option maxRecDepth 100000 in
set_option maxHeartbeats 8000000 in
theorem rpdecode_any (t : ByteArray) (w : World) (hs : t.size ≤ 140737488355328) : Calls Try.prog 27 #[.string t] w (GiveQ w (pdV t) (pdE t)) := by
  have hsm : t.size ≤ maxLen := by unfold maxLen; omega
  obtain ⟨N, hN⟩ : ∃ N, N = dcN t 100 0 0 := ⟨_, rfl⟩
  have RI : Hid (∀ (a e : Int) (W : World), Calls Try.prog 62 #[.agg #[.string t, .int .i64 a, .int .i64 e], .int .i64 100] W fun r w' => r = .returned (.tuple #[.agg #[.string t, .int .i64 (dcN t 100 a e).a, .int .i64 (dcN t 100 a e).e], .int .i64 (dcN t 100 a e).n]) ∧ Below W.heap.size W w') := fun a e W => ref_reader_int t a e _ W hsm (by omega) (nS_int t a e _ (by omega))
  have RN : Hid (∀ W, Calls Try.prog 62 #[.agg #[.string t, .int .i64 0, .int .i64 0], .int .i64 100] W fun r w' => r = .returned (.tuple #[.agg #[.string t, .int .i64 N.a, .int .i64 N.e], .int .i64 N.n]) ∧ Below W.heap.size W w') := fun W => by rw [hN]; exact ref_reader_int t 0 0 _ W hsm (by omega) (nS_int t 0 0 _ (by omega))
  have RR : Hid (∀ (a e : Int) (W : World), Calls Try.prog 63 #[.agg #[.string t, .int .i64 a, .int .i64 e]] W fun r w' => ∃ ad cap, r = .returned (.tuple #[.agg #[.string t, .int .i64 (rdP t a e).a, .int .i64 (rdP t a e).e], .slice ad (rdP t a e).l.length cap]) ∧ OwnP w' W.heap.size 88 (.slice ad (rdP t a e).l.length cap) (rdP t a e).l ∧ Below W.heap.size W w') := fun a e W => rread_any t a e W hs
  have RT : Hid (∀ a e W, Calls Try.prog 64 #[.agg #[.string t, .int .i64 a, .int .i64 e], .int .i64 64] W fun r w' => r = .returned (.tuple #[.agg #[.string t, .int .i64 (tS t a e 64).a, .int .i64 (tS t a e 64).e], .string (tS t a e 64).x]) ∧ Below W.heap.size W w') := fun a e W => ref_reader_text t a e 64 W hs
  have RPC : Hid (∀ (a e : Int) v W, PcI W v (rdP t a e).l → Calls Try.prog 39 #[v] W fun r w' => r = .returned (.tuple #[.int .i64 (pcV (rdP t a e).l), .int .i64 (pcE (rdP t a e).l)]) ∧ Below W.heap.size W w') := fun a e v W hv => rpieces_any v _ W hv (by have := rdP_len t a e; omega) (fun p hp => by have := rdP_ids t a e p hp; omega)
  have RE := hid (fun a e W => ref_reader_end t a e W)
  have CB := pdT_b t
  have IC : Hid (∀ v q W, PtI W v q → tqL q = (pdT t).l → Calls Try.prog 33 #[v] W fun e w' => e = .returned (.bool (arePt (tqL q))) ∧ Below W.heap.size W w') := fun v q W hv hq => rtmay_any v q W hv (by have := CB.1; rw [← hq, tqL_len] at this; omega) (fun y hy => by
    obtain ⟨h1, h2, h3⟩ := CB.2 y.2 (by rw [← hq]; exact tq_mem hy)
    exact ⟨by omega, by omega, fun p hp => by have := h3 p hp; omega⟩)
  have HN64 : Hid ((N.n : Int) ≤ 100) := by have := dcN_le t 100 0 0 (by omega); show _ ≤ _; rw [hN]; exact this
  have HM : Hid (pdT t = dcT t (N.n - 0) N.a N.e) := by show _ = _; rw [hN]; rfl
  have HVE : Hid (pdE t = (if pdOk t = true then 0 else 3) ∧ pdV t = (if pdOk t = true then (pdT t).l else [])) := ⟨rfl, rfl⟩
  have HOK : Hid (pdOk t = ((endE t (pdT t).a (pdT t).e == 0) && arePt (pdT t).l)) := rfl
  obtain ⟨na, ne, n0⟩ := N
  simp only at *
  clear hs hsm hN CB
  generalize pdE t = DE at *
  generalize pdV t = DV at *
  generalize pdOk t = OK at *
  generalize pdT t = M at *
  go_enter Try.func27, Try.ntmps27
  go_wp2_with fail
  refine (RN.out _).mono ?_
  rintro e w1 ⟨rfl, b1⟩
  have H1 : Hid (DuS w w1.heap.size t na ne (.slice none 0 0) [] (w1.alloc (.cells #[.string t, .int .i64 na, .int .i64 ne] 114))) := ⟨srow w1 _ _, ownT_nil _ _ _ _, below_al b1 _, b1.size⟩
  clear b1 RN
  go_wp2
  go_loopw [6, 7] (fun o i wr => ∃ (k : Nat) (q : List (Value × Pt)) (ad : Option Addr) (cap : Nat) (a e : Int), k ≤ n0 ∧ o = .slice ad k cap ∧ i = .int .i64 (k : Int) ∧ Hid (q.length = k) ∧ Hid (DuS w w1.heap.size t a e (.slice ad k cap) q wr) ∧ Hid (M = ⟨(dcT t (n0 - k) a e).a, (dcT t (n0 - k) a e).e, tqL q ++ (dcT t (n0 - k) a e).l⟩)) (fun _ i _ => n0 - (intOf i).toNat)
  case atStart => exact ⟨0, [], none, 0, na, ne, Nat.zero_le _, rfl, rfl, rfl, H1, HM⟩
  case round =>
    clear H1 HM
    obtain ⟨k, q, ad, cap, a, e, hk, rfl, rfl, HA, HS, HM⟩ := hrel
    generalize w1.heap.size = g at *
    obtain ⟨⟨c0, c1, c2⟩, -⟩ := HS.out.three
    by_cases hlt : k < n0
    · have hk1 : (k : Int) < (n0 : Int) := by omega
      have hk5 : k < 100 := by have := HN64.out; omega
      have hwk : wrap64 ((k : Int) + 1) = ((k + 1 : Nat) : Int) := by rw [IntWalk.wrap64_in _ (by omega)]; omega
      have HB1 : Hid (k + 1 ≤ 4611686018427387904) := by show _ ≤ _; omega
      have HB2 : Hid ((k + 1) * 56 ≤ 140737488355328) := by show _ ≤ _; omega
      have HM2 : Hid (M = ⟨(dcT t (n0 - (k + 1)) (rdT t a e).a (rdT t a e).e).a, (dcT t (n0 - (k + 1)) (rdT t a e).a (rdT t a e).e).e, (tqL q ++ [(rdT t a e).v]) ++ (dcT t (n0 - (k + 1)) (rdT t a e).a (rdT t a e).e).l⟩) := by
        show _ = _
        rw [HM.out, show n0 - k = (n0 - (k + 1)) + 1 by omega]
        simp only [dcT, List.append_assoc, List.singleton_append]
      obtain ⟨I, hI⟩ : ∃ I, I = dcN t 100 a e := ⟨_, rfl⟩
      obtain ⟨P, hP⟩ : ∃ P, P = rdP t I.a I.e := ⟨_, rfl⟩
      obtain ⟨X, hX⟩ : ∃ X, X = tS t P.a P.e 64 := ⟨_, rfl⟩
      have HV : Hid (rdT t a e = ⟨X.a, X.e, ⟨I.n, pcV P.l, X.x, P.l⟩⟩) := by subst hX hP hI; rfl
      have R1 := hid (fun W => RI.out a e W)
      have R3 := hid (fun W => RR.out I.a I.e W)
      have R4 := hid (fun W => RT.out P.a P.e W)
      have R5 := hid (fun v W hv => RPC.out I.a I.e v W hv)
      rw [← hI] at R1
      rw [← hP] at R3 R5
      rw [← hX] at R4
      have HLT := hid hlt
      clear hI hP hX HM RI RR RT RPC RE IC HN64 HOK HVE hlt hk
      generalize rdT t a e = R at *
      obtain ⟨ia, ie, iN⟩ := I
      obtain ⟨pa, pe, pl⟩ := P
      obtain ⟨xa, xe, xx⟩ := X
      simp only at *
      have hR := HV.out
      subst hR
      simp only at HM2
      clear HV
      generalize pcV pl = PV at *
      generalize pcE pl = PE at *
      go_wp2_with fail
      refine (R1.out _).mono ?_
      rintro e' w2 ⟨rfl, b2⟩
      have H2 := hid ((HS.out.call b2).al (.cells #[.string t, .int .i64 ia, .int .i64 ie] 114))
      clear b2 R1 c0 c1 c2 HS
      go_wp2_with fail
      refine (R3.out _).mono ?_
      rintro e' w3 ⟨ad3, cap3, rfl, o3, b3⟩
      have H3 := hid ((H2.out.call b3).al (.cells #[.string t, .int .i64 pa, .int .i64 pe] 114))
      have O3 : Hid (OwnP (w3.alloc (.cells #[.string t, .int .i64 pa, .int .i64 pe] 114)) (g + 1) 88 (.slice ad3 pl.length cap3) pl) := OwnP.next (show OwnP w3 (g + 1) _ _ _ from ownsRow_base o3 H2.out.rd.lt) ((Below.refl _ _).alloc (Nat.le_refl _) _)
      clear b3 o3 R3 H2
      go_wp2_with fail
      refine (R4.out _).mono ?_
      rintro e' w4 ⟨rfl, b4⟩
      have H4 := hid ((H3.out.call b4).al (.cells #[.string t, .int .i64 xa, .int .i64 xe] 114))
      have O4 := hid (OwnP.next (O3.out.next b4) ((Below.refl w4.heap.size w4).alloc (Nat.le_refl _) (.cells #[.string t, .int .i64 xa, .int .i64 xe] 114)))
      clear b4 R4 H3 O3
      obtain ⟨⟨c0, c1, c2⟩, f0, f1, f2⟩ := H4.out.three
      have H5 := hid (H4.out.put xa xe)
      have O5 : Hid (OwnP ((((w4.alloc (.cells #[.string t, .int .i64 xa, .int .i64 xe] 114)).setCell ⟨g, 0, none⟩ (.string t)).setCell ⟨g, 1, none⟩ (.int .i64 xa)).setCell ⟨g, 2, none⟩ (.int .i64 xe)) (g + 1) 88 (.slice ad3 pl.length cap3) pl) := H5.out.2.ownsRow O4.out (fun j hj e => by have := ownsRow_ge O4.out hj; omega)
      have C5 := hid (R5.out _ _ O5.out.pcs)
      clear R5 H4 O4
      go_wp2_with fail
      refine C5.out.mono ?_
      rintro e' w6 ⟨rfl, b6⟩
      have H6 := hid (H5.out.1.call b6)
      have O6 := hid (O5.out.next b6)
      clear b6 C5 H5 O5 c0 c1 c2 f0 f1 f2
      generalize hpn : pl.length = pn at *
      clear hpn
      have H7 := hid (H6.out.al (.cells #[.int .i64 (iN : Int), .int .i64 PV, .string xx, .slice ad3 pn cap3] 35))
      have O7 : Hid (OwnP (w6.alloc (.cells #[.int .i64 (iN : Int), .int .i64 PV, .string xx, .slice ad3 pn cap3] 35)) (g + 1) 88 (.slice ad3 pn cap3) pl) := OwnP.next O6.out ((Below.refl _ _).alloc (Nat.le_refl _) _)
      have HGA : Hid ((w6.alloc (.cells #[.int .i64 (iN : Int), .int .i64 PV, .string xx, .slice ad3 pn cap3] 35)).ownsRow (g + 1) 35 4 (.slice ad k cap) k (tqC q)) := by have := H7.out.own.1; rw [HA.out] at this; exact this
      have HGX : Hid (GSrc (w6.alloc (.cells #[.int .i64 (iN : Int), .int .i64 PV, .string xx, .slice ad3 pn cap3] 35)) (.slice (some ⟨w6.heap.size, 0, none⟩) 1 1) 1 (ptC (.slice ad3 pn cap3, ⟨(iN : Int), PV, xx, pl⟩))) := gsrc_block (heap_alloc_new _ _)
      have HSZ : Hid (g + 1 ≤ (w6.alloc (.cells #[.int .i64 (iN : Int), .int .i64 PV, .string xx, .slice ad3 pn cap3] 35)).heap.size) := H7.out.rd.lt
      have HO1 : Hid (∀ u ∈ ptC (.slice ad3 pn cap3, ⟨(iN : Int), PV, xx, pl⟩), u.oneCell' = true) := ptC_cell _ _ _ _
      have HX2 : Hid ((ptC (.slice ad3 pn cap3, ⟨(iN : Int), PV, xx, pl⟩)).length = 1 * 4) := rfl
      have HA2 : Hid ((q ++ [(Value.slice ad3 pn cap3, (⟨(iN : Int), PV, xx, pl⟩ : Pt))]).length = k + 1) := by show _ = _; rw [List.length_append, HA.out]; rfl
      have HM3 : Hid (M = ⟨(dcT t (n0 - (k + 1)) xa xe).a, (dcT t (n0 - (k + 1)) xa xe).e, tqL (q ++ [(Value.slice ad3 pn cap3, (⟨(iN : Int), PV, xx, pl⟩ : Pt))]) ++ (dcT t (n0 - (k + 1)) xa xe).l⟩) := by show _ = _; rw [tqL_app]; exact HM2.out
      have FIN : Hid (∀ ad' cap' w', w'.ownsRow (g + 1) 35 4 (.slice ad' (k + 1) cap') (k + 1) (tqC q ++ ptC (.slice ad3 pn cap3, ⟨(iN : Int), PV, xx, pl⟩)) → Keep (fun j => (Value.slice ad k cap).ownBlock = some j) (w6.alloc (.cells #[.int .i64 (iN : Int), .int .i64 PV, .string xx, .slice ad3 pn cap3] 35)) w' → Hid (DuS w g t xa xe (.slice ad' (k + 1) cap') (q ++ [(Value.slice ad3 pn cap3, (⟨(iN : Int), PV, xx, pl⟩ : Pt))]) w')) := fun ad' cap' w' hr hk' => H7.out.app O7.out (by rw [HA.out]; exact hr) hk'
      clear H6 H7 O6 O7 HA HM2
      generalize ptC (.slice ad3 pn cap3, ⟨(iN : Int), PV, xx, pl⟩) = XS at *
      generalize tqC q = PA at *
      go_wp2_with (at_builtin; refine wpl_gappL rfl _ _ elRT rfl (g + 1) (.slice ad k cap) (.slice (some ⟨w6.heap.size, 0, none⟩) 1 1) PA XS k 1 (k + 1) rfl rfl rfl HGA.out HSZ.out HGX.out HX2.out HO1.out HB1.out HB2.out ?_; intro ad' cap' w' hr' hk')
      have F1 := FIN.out _ _ _ hr' hk'
      clear hr' hk' FIN HGA HGX HSZ
      go_wp2
      exact ⟨⟨k + 1, _, _, _, xa, xe, HLT.out, rfl, by first | rw [hwk] | rfl | simp, HA2, F1, HM3⟩, by (try rw [hwk]); have := HLT.out; simp [intOf]; omega⟩
    · have hk9 : k = n0 := by omega
      have hdl : decide ((k : Int) < (n0 : Int)) = false := decide_eq_false (by omega)
      have hdl2 : decide (k < n0) = false := decide_eq_false (by omega)
      have HM2 : M = ⟨a, e, tqL q⟩ := by rw [HM.out, hk9, Nat.sub_self]; simp [dcT]
      subst HM2
      simp only at HVE HOK IC
      have R7 := hid (fun W => RE.out a e W)
      clear HM RI RT RR RPC HN64 hlt hk hk9 RE
      go_wp2_with fail
      refine (R7.out _).mono ?_
      rintro e' w3 ⟨rfl, b3⟩
      have H3 := hid (HS.out.call b3)
      clear b3 R7 HS c0 c1 c2
      generalize endE t a e = E at *
      have hfd : ∀ W : World, (Instr.field 114 (.agg #[.string t, .int .i64 a, .int .i64 E]) 2).run Try.prog W = .ok (.int .i64 E) W := fun _ => by kernel_rfl
      by_cases hE : E = 0
      · subst hE
        have C3 := hid (IC.out _ q _ H3.out.own.pt rfl)
        clear IC
        generalize arePt (tqL q) = C at *
        go_wp2_with fail
        refine C3.out.mono ?_
        rintro e' w4 ⟨rfl, b4⟩
        have H4 := hid (H3.out.call b4)
        clear C3 b4 H3
        cases C
        · have hO : OK = false := HOK.out
          subst hO
          obtain ⟨d1, d2⟩ := HVE.out
          simp only [Bool.false_eq_true, if_false] at d1 d2
          have HD : Hid (DE = 3 ∧ DV = []) := ⟨d1, d2⟩
          clear d1 d2 HVE HOK hdl hdl2
          go_wp2
          go_ret2
          rw [HD.out.1, HD.out.2]
          exact giveQ_none H4.out.bel
        · have hO : OK = true := HOK.out
          subst hO
          obtain ⟨d1, d2⟩ := HVE.out
          rw [if_pos rfl] at d1 d2
          have HD : Hid (DE = 0 ∧ DV = tqL q) := ⟨d1, d2⟩
          clear d1 d2 HVE HOK hdl hdl2
          go_wp2
          go_ret2
          rw [HD.out.1, HD.out.2]
          exact ⟨ad, k, cap, q, rfl, rfl, H4.out.own.pt, H4.out.bel⟩
      · have hE2 : (E == 0) = false := beq_eq_false_iff_ne.2 hE
        have hE3 : (E != 0) = true := bne_iff_ne.2 hE
        have hO : OK = false := by rw [HOK.out, hE2]; rfl
        subst hO
        obtain ⟨d1, d2⟩ := HVE.out
        simp only [Bool.false_eq_true, if_false] at d1 d2
        have HD : Hid (DE = 3 ∧ DV = []) := ⟨d1, d2⟩
        clear d1 d2 HVE HOK hdl hdl2 IC
        go_wp2
        go_ret2
        rw [HD.out.1, HD.out.2]
        exact giveQ_none H3.out.bel
end Go.Proofs.Ytbiapepalkdkdab
namespace Go.Proofs.Ytbiapepalkdkdab
open Go.RowKit Go.Maps
set_option linter.unusedVariables false
set_option linter.unusedSimpArgs false

theorem dcP4_put (s : ByteArray) : ∀ (l : List Pc) (p r : List UInt8), s.data.toList = p ++ (l.flatMap pcB ++ r) → (∀ x ∈ l, pcOk x = true) → dcP s l.length (p.length : Int) 0 = ⟨(((p ++ l.flatMap pcB).length : Nat) : Int), 0, l⟩
  | [], p, r, hs, _ => by simp [dcP]
  | x :: t, p, r, hs, hb => by
    have hx := pcOk_id (hb x (by simp))
    obtain ⟨id, sz⟩ := x
    simp only at hx
    obtain ⟨n, rfl⟩ : ∃ n : Nat, sz = (n : Int) := ⟨sz.toNat, by omega⟩
    have hm : ((⟨id, (n : Int)⟩ : Pc) :: t).flatMap pcB = ptx id ++ (put n ++ t.flatMap pcB) := by simp [pcB]
    rw [hm] at hs
    have h0 := tS_put s p (put n ++ t.flatMap pcB ++ r) id 64 (by rw [hs]; simp) (by omega) (by omega)
    have h1 := dcN_put s (p ++ ptx id) (t.flatMap pcB ++ r) n 4096 (by rw [hs]; simp) (by omega) (by omega)
    have h2 := dcP4_put s t (p ++ ptx id ++ put n) r (by rw [hs]; simp) (fun y hy => hb y (List.mem_cons_of_mem _ hy))
    simp only [List.length_cons, dcP]
    rw [h0]
    simp only
    rw [h1]
    simp only
    rw [h2, hm]
    simp only [List.append_assoc]
theorem rdP4_put (s : ByteArray) (l : List Pc) (p r : List UInt8) (hs : s.data.toList = p ++ (pcsB l ++ r)) (hb : ∀ x ∈ l, pcOk x = true) (hl : l.length ≤ 512) : rdP s (p.length : Int) 0 = ⟨(((p ++ pcsB l).length : Nat) : Int), 0, l⟩ := by
  unfold pcsB at *
  have h1 := dcN_put s p (l.flatMap pcB ++ r) l.length 512 (by rw [hs]; simp) (by omega) (by omega)
  have h2 := dcP4_put s l (p ++ put l.length) r (by rw [hs]; simp) hb
  unfold rdP
  rw [h1]
  simp only
  rw [h2]
  simp only [List.append_assoc]
theorem rdT_put (s : ByteArray) (v : Pt) (p r : List UInt8) (hs : s.data.toList = p ++ (ptB v ++ r)) (hv : ptOk v = true) : rdT s (p.length : Int) 0 = ⟨(((p ++ ptB v).length : Nat) : Int), 0, v⟩ := by
  have hb := ptOk_b hv
  have hn := ptOk_n hv
  have hp := ptOk_pcs hv
  have hvv := hv
  obtain ⟨id, sz, sum, ps⟩ := v
  simp only at hb hn hp
  simp only [ptOk, Bool.and_eq_true, decide_eq_true_eq] at hvv
  obtain ⟨n, rfl⟩ : ∃ n : Nat, id = (n : Int) := ⟨id.toNat, by omega⟩
  have e0 : ptB ⟨(n : Int), sz, sum, ps⟩ = put n ++ (pcsB ps ++ ptx sum) := by simp [ptB]
  rw [e0] at hs ⊢
  have h1 := dcN_put s p (pcsB ps ++ ptx sum ++ r) n 100 (by rw [hs]; simp) (by omega) (by omega)
  have h3 := rdP4_put s ps (p ++ put n) (ptx sum ++ r) (by rw [hs]; simp) hp hb.2.2.1
  have h4 := tS_put s (p ++ put n ++ pcsB ps) r sum 64 (by rw [hs]; simp) (by omega) (by omega)
  have h6 : pcV ps = sz := hvv.1.1.1.2.symm
  unfold rdT
  simp only
  rw [h1]
  simp only
  rw [h3]
  simp only
  rw [h4]
  simp only [h6, List.append_assoc]
theorem dcT_put (s : ByteArray) : ∀ (l : List Pt) (p r : List UInt8), s.data.toList = p ++ (l.flatMap ptB ++ r) → (∀ x ∈ l, ptOk x = true) → dcT s l.length (p.length : Int) 0 = ⟨(((p ++ l.flatMap ptB).length : Nat) : Int), 0, l⟩
  | [], p, r, hs, _ => by simp [dcT]
  | x :: t, p, r, hs, hb => by
    have hm : (x :: t).flatMap ptB = ptB x ++ t.flatMap ptB := by simp
    rw [hm] at hs
    have h1 := rdT_put s x p (t.flatMap ptB ++ r) (by rw [hs]; simp) (hb x (by simp))
    have h2 := dcT_put s t (p ++ ptB x) r (by rw [hs]; simp) (fun y hy => hb y (List.mem_cons_of_mem _ hy))
    simp only [List.length_cons, dcT]
    rw [h1]
    simp only
    rw [h2, hm]
    simp only [List.append_assoc]
theorem pd_enc {l : List Pt} (h : arePt l = true) : pdE (ptTx l) = 0 ∧ pdV (ptTx l) = l := by
  have he : ptTx l = ⟨(tsB l).toArray⟩ := by unfold ptTx; rw [if_pos h]
  have hd : (ptTx l).data.toList = tsB l := by rw [he]
  have hl := arePt_len h
  have a1 := dcN_put (ptTx l) [] (l.flatMap ptB) l.length 100 (by rw [hd]; simp [tsB]) (by omega) (by omega)
  have a2 := dcT_put (ptTx l) l (put l.length) [] (by rw [hd]; simp [tsB]) (arePt_all h)
  have a1' : dcN (ptTx l) 100 0 0 = ⟨(((put l.length).length : Nat) : Int), 0, l.length⟩ := a1
  have hT : pdT (ptTx l) = ⟨(((tsB l).length : Nat) : Int), 0, l⟩ := by
    unfold pdT
    rw [a1']
    simp only
    rw [a2]
    rfl
  have hz : (ptTx l).size = (tsB l).length := size_of _ _ hd
  have hok : pdOk (ptTx l) = true := by
    unfold pdOk
    rw [hT]
    simp only
    rw [h]
    have : endE (ptTx l) (((tsB l).length : Nat) : Int) 0 = 0 := by
      unfold endE
      rw [if_neg]
      intro hc
      rw [hz] at hc
      omega
    rw [this]
    rfl
  unfold pdE pdV
  rw [hok, hT]
  exact ⟨rfl, rfl⟩
theorem st_P4 {s : ByteArray} : ∀ (j : Nat) {a e : Int}, (dcP s j a e).e = 0 → e = 0
  | 0, a, e, h => h
  | j + 1, a, e, h => by simp only [dcP] at h; exact st_T (st_N (st_P4 j h))
theorem st_T4 {s : ByteArray} {a e : Int} (h : (rdT s a e).e = 0) : e = 0 := by
  unfold rdT at h
  simp only at h
  have h1 := st_T h
  unfold rdP at h1
  exact st_N (st_N (st_P4 _ h1))
theorem st_L4 {s : ByteArray} : ∀ (j : Nat) {a e : Int}, (dcT s j a e).e = 0 → e = 0
  | 0, a, e, h => h
  | j + 1, a, e, h => by simp only [dcT] at h; exact st_T4 (st_L4 j h)
theorem tok_P4 (s : ByteArray) : ∀ (j a : Nat) (e : Int), (dcP s j (a : Int) e).e = 0 → a ≤ s.size → Tok s a (dcP s j (a : Int) e).a ((dcP s j (a : Int) e).l.flatMap pcB)
  | 0, a, e, h, ha => Tok.refl s a ha
  | j + 1, a, e, h, ha => by
    simp only [dcP] at h ⊢
    have hN := st_P4 j h
    have hT := st_N hN
    have t1 := tok_T s 64 e a hT
    generalize tS s (a : Int) e 64 = X at *
    obtain ⟨xa, xe, xx⟩ := X
    simp only at *
    have t1' := t1
    obtain ⟨b, rfl, b1, b2, _⟩ := t1'
    have t2 := tok_N s 4096 xe b hN
    generalize dcN s 4096 (b : Int) xe = Y at *
    obtain ⟨ya, ye, yn⟩ := Y
    simp only at *
    have t2' := t2
    obtain ⟨c, rfl, c1, c2, _⟩ := t2'
    have t3 := tok_P4 s j c ye h c2
    have := (t1.trans t2).trans t3
    have e0 : ((⟨xx, (yn : Int)⟩ : Pc) :: (dcP s j (c : Int) ye).l).flatMap pcB = ptx xx ++ put yn ++ (dcP s j (c : Int) ye).l.flatMap pcB := by simp [pcB]
    rw [e0]
    exact this
theorem tok_rP4 (s : ByteArray) (a : Nat) (e : Int) (h : (rdP s (a : Int) e).e = 0) : Tok s a (rdP s (a : Int) e).a (pcsB (rdP s (a : Int) e).l) := by
  unfold rdP at h ⊢
  have hN := st_P4 _ h
  have t1 := tok_N s 512 e a hN
  have hl := fun a e => dcP_len s (dcN s 512 (a : Int) e).n
  generalize dcN s 512 (a : Int) e = Y at *
  obtain ⟨ya, ye, yn⟩ := Y
  simp only at *
  have t1' := t1
  obtain ⟨c, rfl, c1, c2, _⟩ := t1'
  have t2 := tok_P4 s yn c ye h c2
  have := t1.trans t2
  unfold pcsB
  rw [dcP_len]
  exact this
theorem tok_T4 (s : ByteArray) (a : Nat) (e : Int) (h : (rdT s (a : Int) e).e = 0) : Tok s a (rdT s (a : Int) e).a (ptB (rdT s (a : Int) e).v) := by
  unfold rdT at h ⊢
  simp only at h ⊢
  have hP := st_T h
  have hN : (dcN s 100 (a : Int) e).e = 0 := by unfold rdP at hP; exact st_N (st_P4 _ hP)
  have t1 := tok_N s 100 e a hN
  generalize dcN s 100 (a : Int) e = Y at *
  obtain ⟨ya, ye, yn⟩ := Y
  simp only at *
  have t1' := t1
  obtain ⟨d, rfl, d1, d2, _⟩ := t1'
  have t3 := tok_rP4 s d ye hP
  generalize rdP s (d : Int) ye = P at *
  obtain ⟨pa, pe, pl⟩ := P
  simp only at *
  have t3' := t3
  obtain ⟨g, rfl, g1, g2, _⟩ := t3'
  have t4 := tok_T s 64 pe g h
  generalize tS s (g : Int) pe 64 = X at *
  obtain ⟨xa, xe, xx⟩ := X
  simp only at *
  have e0 : ptB ⟨(yn : Int), pcV pl, xx, pl⟩ = put yn ++ pcsB pl ++ ptx xx := by simp [ptB]
  rw [e0]
  exact (t1.trans t3).trans t4
theorem tok_L4 (s : ByteArray) : ∀ (j a : Nat) (e : Int), (dcT s j (a : Int) e).e = 0 → a ≤ s.size → Tok s a (dcT s j (a : Int) e).a ((dcT s j (a : Int) e).l.flatMap ptB)
  | 0, a, e, h, ha => Tok.refl s a ha
  | j + 1, a, e, h, ha => by
    simp only [dcT] at h ⊢
    have hV := st_L4 j h
    have t1 := tok_T4 s a e hV
    generalize rdT s (a : Int) e = X at *
    obtain ⟨xa, xe, xv⟩ := X
    simp only at *
    have t1' := t1
    obtain ⟨b, rfl, b1, b2, _⟩ := t1'
    have t2 := tok_L4 s j b xe h b2
    have := t1.trans t2
    rw [List.flatMap_cons]
    exact this
theorem pd_one {t : ByteArray} (h : pdOk t = true) : arePt (pdV t) = true ∧ ptTx (pdV t) = t := by
  have hv : pdV t = (pdT t).l := by unfold pdV; rw [if_pos h]
  unfold pdOk at h
  rw [Bool.and_eq_true] at h
  obtain ⟨h1, h2⟩ := h
  have h1 := beq_iff_eq.1 h1
  rw [hv]
  refine ⟨h2, ?_⟩
  unfold endE at h1
  split at h1
  · cases h1
  · rename_i hc
    have hh : (pdT t).e = 0 := h1
    have T0 : Tok t 0 (pdT t).a (tsB (pdT t).l) := by
      unfold pdT at hh ⊢
      have hN := st_L4 _ hh
      have t1 := tok_N t 100 0 0 hN
      have hcast : ((0 : Nat) : Int) = 0 := rfl
      rw [hcast] at t1
      generalize dcN t 100 0 0 = Y at *
      obtain ⟨ya, ye, yn⟩ := Y
      simp only at *
      have t1' := t1
      obtain ⟨c, rfl, c1, c2, _⟩ := t1'
      have t2 := tok_L4 t yn c ye hh c2
      have := t1.trans t2
      unfold tsB
      rw [dcT_len]
      exact this
    obtain ⟨u, g1, g2, g3, g4⟩ := T0
    have hsz : t.data.toList.length = t.size := by rw [Array.length_toList]; rfl
    have hu : u = t.size := by
      have : ¬ (pdT t).a < (t.size : Int) := fun h => hc ⟨hh, h⟩
      omega
    have hd : t.data.toList = tsB (pdT t).l := by
      rw [← g4, List.drop_zero, Nat.sub_zero, List.take_of_length_le (by omega)]
    unfold ptTx
    rw [if_pos h2, ← hd]
end Go.Proofs.Ytbiapepalkdkdab
