/- Joined: The memory of the document's Decode of a command. The document's Decode of a command of the kind 0. The document's Decode of a command of the kind 1. The document's Decode of a command of the kind 2. The document's Decode of a command of the kind 3. The document's Decode of a command of the kind 4. The document's Decode of a command of the kind 5. -/
import Derived.Test.YtmadlnchmkhdjaaGreatCrP
import Derived.Test.YtmadlnchmkhdjaaGreatJoined27
import Derived.Test.YtmadlnchmkhdjaaGreatCmL
namespace Go.Proofs.YtmadlnchmkhdjaaGreat
open Go.RowKit Go.Maps
set_option linter.unusedVariables false
set_option linter.unusedSimpArgs false

structure RcS (w : World) (g : Nat) (s : ByteArray) (a e : Int) (pv kv : Value) (c : Cm) (W : World) : Prop where
  rd : RowIs W g [.string s, .int .i64 a, .int .i64 e] 79
  bx : RowIs W (g + 1) (cmL pv kv c) 34
  rs : RowIs W w.heap.size [.int .i64 0, .string ⟨#[]⟩, .string ⟨#[]⟩, .string ⟨#[]⟩, .int .i64 0, .int .i64 0, .string ⟨#[]⟩, .slice none 0 0, .slice none 0 0] 34
  op : OwnP W (g + 2) 90 pv c.ps
  ok : OwnK W (g + 2) 60 kv c.ks
  bl : Below w.heap.size w W
  lo : w.heap.size < g
theorem RcS.call {w W : World} {g : Nat} {s : ByteArray} {a e : Int} {pv kv : Value} {c : Cm} {W' : World} (x : RcS w g s a e pv kv c W) (hb : Below W.heap.size W W') : RcS w g s a e pv kv c W' :=
  have k := hb.keep (fun _ => False)
  ⟨x.rd.keep k (fun h => h), x.bx.keep k (fun h => h), x.rs.keep k (fun h => h), x.op.next hb, x.ok.next hb, below_on x.bl hb, x.lo⟩
theorem RcS.al {w W : World} {g : Nat} {s : ByteArray} {a e : Int} {pv kv : Value} {c : Cm} (x : RcS w g s a e pv kv c W) (o : Obj) : RcS w g s a e pv kv c (W.alloc o) := x.call ((Below.refl _ _).alloc (Nat.le_refl _) o)
theorem RcS.put {w W : World} {g : Nat} {s : ByteArray} {a e : Int} {pv kv : Value} {c : Cm} (x : RcS w g s a e pv kv c W) (a' e' : Int) : RcS w g s a' e' pv kv c (((W.setCell ⟨g, 0, none⟩ (.string s)).setCell ⟨g, 1, none⟩ (.int .i64 a')).setCell ⟨g, 2, none⟩ (.int .i64 e')) := by
  have k : Keep (· = g) W (((W.setCell ⟨g, 0, none⟩ (.string s)).setCell ⟨g, 1, none⟩ (.int .i64 a')).setCell ⟨g, 2, none⟩ (.int .i64 e')) := ((keep_setCell _ _ _ _).trans (keep_setCell _ _ _ _)).trans (keep_setCell _ _ _ _)
  have h1 := x.lo
  exact ⟨((x.rd.set 0 _).set 1 _).set 2 _, x.bx.keep k (by omega), x.rs.keep k (by omega), k.ownsRow x.op (fun j hj e => by have := ownsRow_ge x.op hj; omega), k.ownsRow x.ok (fun j hj e => by have := ownsRow_ge x.ok hj; omega), x.bl.trans (keep_below k (fun j hj e => by omega) x.bl.size), x.lo⟩
theorem ownP_set {W : World} {B b j t : Nat} {u v : Value} {l : List Pc} (h : OwnP W B t v l) (hb : b < B) : OwnP (W.setCell ⟨b, j, none⟩ u) B t v l := (keep_setCell W b j u).ownsRow h (fun i hi e => by have := ownsRow_ge h hi; omega)
theorem ownK_set {W : World} {B b j t : Nat} {u v : Value} {l : List Pk} (h : OwnK W B t v l) (hb : b < B) : OwnK (W.setCell ⟨b, j, none⟩ u) B t v l := (keep_setCell W b j u).ownsRow h (fun i hi e => by have := ownsRow_ge h hi; omega)
theorem RcS.fld {w W : World} {g : Nat} {s : ByteArray} {a e : Int} {pv kv : Value} {c : Cm} (x : RcS w g s a e pv kv c W) (j : Nat) (u pv' kv' : Value) (c' : Cm) (he : (cmL pv kv c).set j u = cmL pv' kv' c') (hp : OwnP W (g + 2) 90 pv' c'.ps) (hk : OwnK W (g + 2) 60 kv' c'.ks) : RcS w g s a e pv' kv' c' (W.setCell ⟨g + 1, j, none⟩ u) := by
  have k := keep_setCell W (g + 1) j u
  have h1 := x.lo
  have hb := x.bx.set j u
  rw [he] at hb
  exact ⟨x.rd.keep k (by omega), hb, x.rs.keep k (by omega), ownP_set hp (by omega), ownK_set hk (by omega), x.bl.trans (keep_below k (fun j hj e => by omega) x.bl.size), x.lo⟩
theorem rcs_new {w w1 : World} {s : ByteArray} {a e k : Int} (b1 : Below (w.alloc (.cells #[.int .i64 0, .string ⟨#[]⟩, .string ⟨#[]⟩, .string ⟨#[]⟩, .int .i64 0, .int .i64 0, .string ⟨#[]⟩, .slice none 0 0, .slice none 0 0] 34)).heap.size (w.alloc (.cells #[.int .i64 0, .string ⟨#[]⟩, .string ⟨#[]⟩, .string ⟨#[]⟩, .int .i64 0, .int .i64 0, .string ⟨#[]⟩, .slice none 0 0, .slice none 0 0] 34)) w1) : RcS w w1.heap.size s a e (.slice none 0 0) (.slice none 0 0) ⟨k, ⟨#[]⟩, ⟨#[]⟩, ⟨#[]⟩, 0, 0, ⟨#[]⟩, [], []⟩ ((w1.alloc (.cells #[.string s, .int .i64 a, .int .i64 e] 79)).alloc (.cells #[.int .i64 k, .string ⟨#[]⟩, .string ⟨#[]⟩, .string ⟨#[]⟩, .int .i64 0, .int .i64 0, .string ⟨#[]⟩, .slice none 0 0, .slice none 0 0] 34)) := by
  have r1 := (srow w [.int .i64 0, .string ⟨#[]⟩, .string ⟨#[]⟩, .string ⟨#[]⟩, .int .i64 0, .int .i64 0, .string ⟨#[]⟩, .slice none 0 0, .slice none 0 0] 34).keep (b1.keep (fun _ => False)) (fun h => h)
  have s3 := srow (w1.alloc (.cells #[.string s, .int .i64 a, .int .i64 e] 79)) [.int .i64 k, .string ⟨#[]⟩, .string ⟨#[]⟩, .string ⟨#[]⟩, .int .i64 0, .int .i64 0, .string ⟨#[]⟩, .slice none 0 0, .slice none 0 0] 34
  rw [show (w1.alloc (.cells #[.string s, .int .i64 a, .int .i64 e] 79)).heap.size = w1.heap.size + 1 by simp] at s3
  exact ⟨row_old (srow w1 _ _) _, s3, row_old (row_old r1 _) _, ownP_nil _ _ _, ownK_nil _ _ _, below_al (below_al (below_on (below_al (Below.refl w.heap.size w) _) b1) _) _, r1.lt⟩
theorem RcS.fin {w W : World} {g : Nat} {s : ByteArray} {a e : Int} {pv kv : Value} {c : Cm} (x : RcS w g s a e pv kv c W) : RowIs (((((((((W.setCell ⟨w.heap.size, 0, none⟩ (.int .i64 c.kd)).setCell ⟨w.heap.size, 1, none⟩ (.string c.tk)).setCell ⟨w.heap.size, 2, none⟩ (.string c.bk)).setCell ⟨w.heap.size, 3, none⟩ (.string c.ky)).setCell ⟨w.heap.size, 4, none⟩ (.int .i64 c.id)).setCell ⟨w.heap.size, 5, none⟩ (.int .i64 c.n)).setCell ⟨w.heap.size, 6, none⟩ (.string c.sm)).setCell ⟨w.heap.size, 7, none⟩ (pv)).setCell ⟨w.heap.size, 8, none⟩ (kv)) w.heap.size (cmL pv kv c) 34 ∧ OwnP (((((((((W.setCell ⟨w.heap.size, 0, none⟩ (.int .i64 c.kd)).setCell ⟨w.heap.size, 1, none⟩ (.string c.tk)).setCell ⟨w.heap.size, 2, none⟩ (.string c.bk)).setCell ⟨w.heap.size, 3, none⟩ (.string c.ky)).setCell ⟨w.heap.size, 4, none⟩ (.int .i64 c.id)).setCell ⟨w.heap.size, 5, none⟩ (.int .i64 c.n)).setCell ⟨w.heap.size, 6, none⟩ (.string c.sm)).setCell ⟨w.heap.size, 7, none⟩ (pv)).setCell ⟨w.heap.size, 8, none⟩ (kv)) w.heap.size 90 pv c.ps ∧ OwnK (((((((((W.setCell ⟨w.heap.size, 0, none⟩ (.int .i64 c.kd)).setCell ⟨w.heap.size, 1, none⟩ (.string c.tk)).setCell ⟨w.heap.size, 2, none⟩ (.string c.bk)).setCell ⟨w.heap.size, 3, none⟩ (.string c.ky)).setCell ⟨w.heap.size, 4, none⟩ (.int .i64 c.id)).setCell ⟨w.heap.size, 5, none⟩ (.int .i64 c.n)).setCell ⟨w.heap.size, 6, none⟩ (.string c.sm)).setCell ⟨w.heap.size, 7, none⟩ (pv)).setCell ⟨w.heap.size, 8, none⟩ (kv)) w.heap.size 60 kv c.ks ∧ Below w.heap.size w (((((((((W.setCell ⟨w.heap.size, 0, none⟩ (.int .i64 c.kd)).setCell ⟨w.heap.size, 1, none⟩ (.string c.tk)).setCell ⟨w.heap.size, 2, none⟩ (.string c.bk)).setCell ⟨w.heap.size, 3, none⟩ (.string c.ky)).setCell ⟨w.heap.size, 4, none⟩ (.int .i64 c.id)).setCell ⟨w.heap.size, 5, none⟩ (.int .i64 c.n)).setCell ⟨w.heap.size, 6, none⟩ (.string c.sm)).setCell ⟨w.heap.size, 7, none⟩ (pv)).setCell ⟨w.heap.size, 8, none⟩ (kv)) := by
  have k : Keep (· = w.heap.size) W (((((((((W.setCell ⟨w.heap.size, 0, none⟩ (.int .i64 c.kd)).setCell ⟨w.heap.size, 1, none⟩ (.string c.tk)).setCell ⟨w.heap.size, 2, none⟩ (.string c.bk)).setCell ⟨w.heap.size, 3, none⟩ (.string c.ky)).setCell ⟨w.heap.size, 4, none⟩ (.int .i64 c.id)).setCell ⟨w.heap.size, 5, none⟩ (.int .i64 c.n)).setCell ⟨w.heap.size, 6, none⟩ (.string c.sm)).setCell ⟨w.heap.size, 7, none⟩ (pv)).setCell ⟨w.heap.size, 8, none⟩ (kv)) := ((((((((keep_setCell W _ 0 _).trans (keep_setCell _ _ 1 _)).trans (keep_setCell _ _ 2 _)).trans (keep_setCell _ _ 3 _)).trans (keep_setCell _ _ 4 _)).trans (keep_setCell _ _ 5 _)).trans (keep_setCell _ _ 6 _)).trans (keep_setCell _ _ 7 _)).trans (keep_setCell _ _ 8 _)
  have h1 := x.lo
  exact ⟨((((((((x.rs.set 0 _).set 1 _).set 2 _).set 3 _).set 4 _).set 5 _).set 6 _).set 7 _).set 8 _, ownP_low (k.ownsRow x.op (fun b hb e => by have := ownsRow_ge x.op hb; omega)) (by omega), ownK_low (k.ownsRow x.ok (fun b hb e => by have := ownsRow_ge x.ok hb; omega)) (by omega), x.bl.trans (keep_below k (fun j hj e => by omega) x.bl.size)⟩
theorem RcS.bad {w W : World} {g : Nat} {s : ByteArray} {a e : Int} {pv kv : Value} {c : Cm} (x : RcS w g s a e pv kv c W) : RowIs (((((((((W.setCell ⟨w.heap.size, 0, none⟩ (.int .i64 0)).setCell ⟨w.heap.size, 1, none⟩ (.string ⟨#[]⟩)).setCell ⟨w.heap.size, 2, none⟩ (.string ⟨#[]⟩)).setCell ⟨w.heap.size, 3, none⟩ (.string ⟨#[]⟩)).setCell ⟨w.heap.size, 4, none⟩ (.int .i64 0)).setCell ⟨w.heap.size, 5, none⟩ (.int .i64 0)).setCell ⟨w.heap.size, 6, none⟩ (.string ⟨#[]⟩)).setCell ⟨w.heap.size, 7, none⟩ (.slice none 0 0)).setCell ⟨w.heap.size, 8, none⟩ (.slice none 0 0)) w.heap.size [.int .i64 0, .string ⟨#[]⟩, .string ⟨#[]⟩, .string ⟨#[]⟩, .int .i64 0, .int .i64 0, .string ⟨#[]⟩, .slice none 0 0, .slice none 0 0] 34 ∧ Below w.heap.size w (((((((((W.setCell ⟨w.heap.size, 0, none⟩ (.int .i64 0)).setCell ⟨w.heap.size, 1, none⟩ (.string ⟨#[]⟩)).setCell ⟨w.heap.size, 2, none⟩ (.string ⟨#[]⟩)).setCell ⟨w.heap.size, 3, none⟩ (.string ⟨#[]⟩)).setCell ⟨w.heap.size, 4, none⟩ (.int .i64 0)).setCell ⟨w.heap.size, 5, none⟩ (.int .i64 0)).setCell ⟨w.heap.size, 6, none⟩ (.string ⟨#[]⟩)).setCell ⟨w.heap.size, 7, none⟩ (.slice none 0 0)).setCell ⟨w.heap.size, 8, none⟩ (.slice none 0 0)) := by
  have k : Keep (· = w.heap.size) W (((((((((W.setCell ⟨w.heap.size, 0, none⟩ (.int .i64 0)).setCell ⟨w.heap.size, 1, none⟩ (.string ⟨#[]⟩)).setCell ⟨w.heap.size, 2, none⟩ (.string ⟨#[]⟩)).setCell ⟨w.heap.size, 3, none⟩ (.string ⟨#[]⟩)).setCell ⟨w.heap.size, 4, none⟩ (.int .i64 0)).setCell ⟨w.heap.size, 5, none⟩ (.int .i64 0)).setCell ⟨w.heap.size, 6, none⟩ (.string ⟨#[]⟩)).setCell ⟨w.heap.size, 7, none⟩ (.slice none 0 0)).setCell ⟨w.heap.size, 8, none⟩ (.slice none 0 0)) := ((((((((keep_setCell W _ 0 _).trans (keep_setCell _ _ 1 _)).trans (keep_setCell _ _ 2 _)).trans (keep_setCell _ _ 3 _)).trans (keep_setCell _ _ 4 _)).trans (keep_setCell _ _ 5 _)).trans (keep_setCell _ _ 6 _)).trans (keep_setCell _ _ 7 _)).trans (keep_setCell _ _ 8 _)
  exact ⟨((((((((x.rs.set 0 _).set 1 _).set 2 _).set 3 _).set 4 _).set 5 _).set 6 _).set 7 _).set 8 _, x.bl.trans (keep_below k (fun j hj e => by omega) x.bl.size)⟩
/-- what Decode gives -/
def GiveQc (w : World) (s : ByteArray) (q : Ending) (w' : World) : Prop := ∃ pv kv, q = .returned (.tuple #[cmV pv kv (qcC s), .int .i64 (qcE s)]) ∧ OwnP w' w.heap.size 90 pv (qcC s).ps ∧ OwnK w' w.heap.size 60 kv (qcC s).ks ∧ Below w.heap.size w w'
end Go.Proofs.YtmadlnchmkhdjaaGreat
namespace Go.Proofs.YtmadlnchmkhdjaaGreat
open Go.RowKit Go.Maps
set_option linter.unusedVariables false
set_option linter.unusedSimpArgs false

set_option maxRecDepth 100000 in
set_option maxHeartbeats 8000000 in
theorem rdec_0 (s : ByteArray) (w : World) (hs : s.size ≤ 140737488355328) (da de : Int) (hN : dcN s 10 0 0 = ⟨da, de, 0⟩) : Calls Tryz.prog 16 #[.string s] w (GiveQc w s) := by
  have hsm : s.size ≤ maxLen := by unfold maxLen; omega
  have HQ : rdQ s = ⟨da, de, ⟨0, ⟨#[]⟩, ⟨#[]⟩, ⟨#[]⟩, 0, 0, ⟨#[]⟩, [], []⟩⟩ := by
    have hh : flN ((dcN s 10 0 0).n : Int) = 0 := by rw [hN]; exact (show flN 0 = 0 from by decide)
    unfold rdQ
    simp only [hh]
    simp only [q1, q2, s3, s4, s5, s6, s7, s8, r0, hN, show hasF 0 1 = false from by decide, show hasF 0 2 = false from by decide, show hasF 0 4 = false from by decide, show hasF 0 8 = false from by decide, show hasF 0 16 = false from by decide, show hasF 0 32 = false from by decide, show hasF 0 64 = false from by decide, show hasF 0 128 = false from by decide, if_true, Bool.false_eq_true, if_false]
    try rfl
  have HSM := rdQ_sm s
  have RN : Hid (∀ W, Calls Tryz.prog 44 #[.agg #[.string s, .int .i64 0, .int .i64 0], .int .i64 10] W fun r w' => r = .returned (.tuple #[.agg #[.string s, .int .i64 da, .int .i64 de], .int .i64 0]) ∧ Below W.heap.size W w') := fun W => by
    have := ref_reader_int s 0 0 10 W hsm (by omega) (nS_int s 0 0 10 (by omega))
    rw [show nS s 0 0 (fitI 10 (rdAt s 0).n) 2 = ⟨da, de, 0⟩ from hN] at this
    exact this
  clear hs hsm hN
  have HOK : Hid (qcOk s = ((endE s da de == 0) && cmOk (⟨0, ⟨#[]⟩, ⟨#[]⟩, ⟨#[]⟩, 0, 0, ⟨#[]⟩, [], []⟩ : Cm))) := by show _ = _; unfold qcOk; rw [HQ]
  have HD : Hid (qcC s = (if qcOk s = true then (⟨0, ⟨#[]⟩, ⟨#[]⟩, ⟨#[]⟩, 0, 0, ⟨#[]⟩, [], []⟩ : Cm) else cm0) ∧ qcE s = (if qcOk s = true then 0 else 3)) := by refine ⟨?_, rfl⟩; unfold qcC; rw [HQ]
  rw [HQ] at HSM
  have CK : Hid (∀ pv kv W, PcI W pv (⟨0, ⟨#[]⟩, ⟨#[]⟩, ⟨#[]⟩, 0, 0, ⟨#[]⟩, [], []⟩ : Cm).ps → PkI W kv (⟨0, ⟨#[]⟩, ⟨#[]⟩, ⟨#[]⟩, 0, 0, ⟨#[]⟩, [], []⟩ : Cm).ks → Calls Tryz.prog 14 #[cmV pv kv (⟨0, ⟨#[]⟩, ⟨#[]⟩, ⟨#[]⟩, 0, 0, ⟨#[]⟩, [], []⟩ : Cm)] W fun e w' => e = .returned (.int .i64 (ckN (⟨0, ⟨#[]⟩, ⟨#[]⟩, ⟨#[]⟩, 0, 0, ⟨#[]⟩, [], []⟩ : Cm))) ∧ Below W.heap.size W w') := fun pv kv W h1 h2 => rcheck16_any pv kv _ W h1 h2 HSM.sz
  have RE := hid (fun W => ref_reader_end s da de W)
  clear HQ HSM
  unfold GiveQc
  unfold ckN cmV at CK
  generalize qcC s = DC at *
  generalize qcE s = DE at *
  generalize qcOk s = OK at *
  generalize cmOk (⟨0, ⟨#[]⟩, ⟨#[]⟩, ⟨#[]⟩, 0, 0, ⟨#[]⟩, [], []⟩ : Cm) = ok at *
  generalize endE s da de = en at *
  simp only at CK
  have HK1 : Hid (∀ W, Calls Tryz.prog 35 #[.int .i64 0] W fun e w' => e = .returned (.bool false) ∧ w' = W) := fun W => hasKey_any 0 W
  have HI1 : Hid (∀ W, Calls Tryz.prog 37 #[.int .i64 0] W fun e w' => e = .returned (.bool false) ∧ w' = W) := fun W => hasID_any 0 W
  have HS1 : Hid (∀ W, Calls Tryz.prog 39 #[.int .i64 0] W fun e w' => e = .returned (.bool false) ∧ w' = W) := fun W => hasSum_any 0 W
  go_enter Tryz.func16, Tryz.ntmps16
  go_wp2_with fail
  refine (RN.out _).mono ?_
  rintro e0 w1 ⟨rfl, b1⟩
  have S0 := hid (rcs_new (s := s) (a := da) (e := de) (k := 0) b1)
  clear RN b1
  go_upto_region 3 with fail
  generalize ((w1.alloc (.cells #[.string s, .int .i64 da, .int .i64 de] 79)).alloc (.cells #[.int .i64 0, .string ⟨#[]⟩, .string ⟨#[]⟩, .string ⟨#[]⟩, .int .i64 0, .int .i64 0, .string ⟨#[]⟩, .slice none 0 0, .slice none 0 0] 34)) = V0 at *
  generalize w1.heap.size = g at *
  go_wp2_with fail
  refine (HK1.out _).mono ?_
  rintro et1 vt1 ⟨rfl, rfl⟩
  clear HK1
  go_wp2_with fail
  refine (HI1.out _).mono ?_
  rintro et2 vt2 ⟨rfl, rfl⟩
  clear HI1
  go_wp2_with fail
  refine (HS1.out _).mono ?_
  rintro et3 vt3 ⟨rfl, rfl⟩
  clear HS1
  have c0 := S0.out.rd.cellAt (o := 0) rfl
  have c1 := S0.out.rd.cellAt (o := 1) rfl
  have c2 := S0.out.rd.cellAt (o := 2) rfl
  go_wp2_with fail
  refine (RE.out _).mono ?_
  rintro e9' v9 ⟨rfl, b9⟩
  have S9 := hid (S0.out.call b9)
  clear RE b9 S0 c0 c1 c2
  have hfd : ∀ W : World, (Instr.field 79 (.agg #[.string s, .int .i64 da, .int .i64 en]) 2).run Tryz.prog W = .ok (.int .i64 en) W := fun _ => by kernel_rfl
  by_cases hen : en = 0
  · subst hen
    have HNE : w.heap.size ≠ g + 1 := by have := S9.out.lo; omega
    have HNE2 : g + 1 ≠ w.heap.size := fun h => HNE h.symm
    have CK9 := hid (CK.out _ _ _ S9.out.op.pcs S9.out.ok.pks)
    clear CK
    cases ok
    · obtain rfl : OK = false := HOK.out
      obtain ⟨rfl, rfl⟩ := HD.out
      clear HOK HD
      have c0 := S9.out.bx.cellAt (o := 0) rfl
      have c1 := S9.out.bx.cellAt (o := 1) rfl
      have c2 := S9.out.bx.cellAt (o := 2) rfl
      have c3 := S9.out.bx.cellAt (o := 3) rfl
      have c4 := S9.out.bx.cellAt (o := 4) rfl
      have c5 := S9.out.bx.cellAt (o := 5) rfl
      have c6 := S9.out.bx.cellAt (o := 6) rfl
      have c7 := S9.out.bx.cellAt (o := 7) rfl
      have c8 := S9.out.bx.cellAt (o := 8) rfl
      go_wp2_with fail
      refine CK9.out.mono ?_
      rintro e10 w10 ⟨rfl, b10⟩
      have S10 := hid (S9.out.call b10)
      clear CK9 b10 S9 c0 c1 c2 c3 c4 c5 c6 c7 c8
      have d0 := S10.out.rs.cellAt (o := 0) rfl
      have f0 : w10.frozen? ⟨w.heap.size, 0, none⟩ = false := S10.out.rs.frozen
      have d1 := S10.out.rs.cellAt (o := 1) rfl
      have f1 : w10.frozen? ⟨w.heap.size, 1, none⟩ = false := S10.out.rs.frozen
      have d2 := S10.out.rs.cellAt (o := 2) rfl
      have f2 : w10.frozen? ⟨w.heap.size, 2, none⟩ = false := S10.out.rs.frozen
      have d3 := S10.out.rs.cellAt (o := 3) rfl
      have f3 : w10.frozen? ⟨w.heap.size, 3, none⟩ = false := S10.out.rs.frozen
      have d4 := S10.out.rs.cellAt (o := 4) rfl
      have f4 : w10.frozen? ⟨w.heap.size, 4, none⟩ = false := S10.out.rs.frozen
      have d5 := S10.out.rs.cellAt (o := 5) rfl
      have f5 : w10.frozen? ⟨w.heap.size, 5, none⟩ = false := S10.out.rs.frozen
      have d6 := S10.out.rs.cellAt (o := 6) rfl
      have f6 : w10.frozen? ⟨w.heap.size, 6, none⟩ = false := S10.out.rs.frozen
      have d7 := S10.out.rs.cellAt (o := 7) rfl
      have f7 : w10.frozen? ⟨w.heap.size, 7, none⟩ = false := S10.out.rs.frozen
      have d8 := S10.out.rs.cellAt (o := 8) rfl
      have f8 : w10.frozen? ⟨w.heap.size, 8, none⟩ = false := S10.out.rs.frozen
      have FB := hid S10.out.bad
      clear S10
      go_wp2
      exact bodyPost_ret (ret_ct16 (p := 2) (u := 3) rfl _ _ w.heap.size #[.int .i64 0, .string ⟨#[]⟩, .string ⟨#[]⟩, .string ⟨#[]⟩, .int .i64 0, .int .i64 0, .string ⟨#[]⟩, .slice none 0 0, .slice none 0 0] (.int .i64 3) rfl rfl (run_loadVar_row _ _ _ _ _ _ _ FB.out.1 Tryz.underlying34 rfl (by kernel_rfl))) rfl ⟨_, _, rfl, ownP_nil _ _ _, ownK_nil _ _ _, FB.out.2⟩
    · obtain rfl : OK = true := HOK.out
      obtain ⟨rfl, rfl⟩ := HD.out
      clear HOK HD
      have c0 := S9.out.bx.cellAt (o := 0) rfl
      have c1 := S9.out.bx.cellAt (o := 1) rfl
      have c2 := S9.out.bx.cellAt (o := 2) rfl
      have c3 := S9.out.bx.cellAt (o := 3) rfl
      have c4 := S9.out.bx.cellAt (o := 4) rfl
      have c5 := S9.out.bx.cellAt (o := 5) rfl
      have c6 := S9.out.bx.cellAt (o := 6) rfl
      have c7 := S9.out.bx.cellAt (o := 7) rfl
      have c8 := S9.out.bx.cellAt (o := 8) rfl
      go_wp2_with fail
      refine CK9.out.mono ?_
      rintro e10 w10 ⟨rfl, b10⟩
      have S10 := hid (S9.out.call b10)
      clear CK9 b10 S9 c0 c1 c2 c3 c4 c5 c6 c7 c8
      have c0 := S10.out.bx.cellAt (o := 0) rfl
      have c1 := S10.out.bx.cellAt (o := 1) rfl
      have c2 := S10.out.bx.cellAt (o := 2) rfl
      have c3 := S10.out.bx.cellAt (o := 3) rfl
      have c4 := S10.out.bx.cellAt (o := 4) rfl
      have c5 := S10.out.bx.cellAt (o := 5) rfl
      have c6 := S10.out.bx.cellAt (o := 6) rfl
      have c7 := S10.out.bx.cellAt (o := 7) rfl
      have c8 := S10.out.bx.cellAt (o := 8) rfl
      have d0 := S10.out.rs.cellAt (o := 0) rfl
      have f0 : w10.frozen? ⟨w.heap.size, 0, none⟩ = false := S10.out.rs.frozen
      have d1 := S10.out.rs.cellAt (o := 1) rfl
      have f1 : w10.frozen? ⟨w.heap.size, 1, none⟩ = false := S10.out.rs.frozen
      have d2 := S10.out.rs.cellAt (o := 2) rfl
      have f2 : w10.frozen? ⟨w.heap.size, 2, none⟩ = false := S10.out.rs.frozen
      have d3 := S10.out.rs.cellAt (o := 3) rfl
      have f3 : w10.frozen? ⟨w.heap.size, 3, none⟩ = false := S10.out.rs.frozen
      have d4 := S10.out.rs.cellAt (o := 4) rfl
      have f4 : w10.frozen? ⟨w.heap.size, 4, none⟩ = false := S10.out.rs.frozen
      have d5 := S10.out.rs.cellAt (o := 5) rfl
      have f5 : w10.frozen? ⟨w.heap.size, 5, none⟩ = false := S10.out.rs.frozen
      have d6 := S10.out.rs.cellAt (o := 6) rfl
      have f6 : w10.frozen? ⟨w.heap.size, 6, none⟩ = false := S10.out.rs.frozen
      have d7 := S10.out.rs.cellAt (o := 7) rfl
      have f7 : w10.frozen? ⟨w.heap.size, 7, none⟩ = false := S10.out.rs.frozen
      have d8 := S10.out.rs.cellAt (o := 8) rfl
      have f8 : w10.frozen? ⟨w.heap.size, 8, none⟩ = false := S10.out.rs.frozen
      have FB := hid S10.out.fin
      simp only [cmL] at FB
      clear S10
      go_wp2
      exact bodyPost_ret (ret_ct16 (p := 2) (u := 3) rfl _ _ w.heap.size #[.int .i64 0, .string ⟨#[]⟩, .string ⟨#[]⟩, .string ⟨#[]⟩, .int .i64 0, .int .i64 0, .string ⟨#[]⟩, .slice none 0 0, .slice none 0 0] (.int .i64 0) rfl rfl (run_loadVar_row _ _ _ _ _ _ _ FB.out.1 Tryz.underlying34 rfl (by kernel_rfl))) rfl ⟨_, _, rfl, FB.out.2⟩
  · have hq : (en == 0) = false := beq_eq_false_iff_ne.2 hen
    have hq2 : (en != 0) = true := by simp [hen]
    obtain rfl : OK = false := by have := HOK.out; rw [hq] at this; exact this
    obtain ⟨rfl, rfl⟩ := HD.out
    clear hen HOK HD CK
    have d0 := S9.out.rs.cellAt (o := 0) rfl
    have f0 : v9.frozen? ⟨w.heap.size, 0, none⟩ = false := S9.out.rs.frozen
    have d1 := S9.out.rs.cellAt (o := 1) rfl
    have f1 : v9.frozen? ⟨w.heap.size, 1, none⟩ = false := S9.out.rs.frozen
    have d2 := S9.out.rs.cellAt (o := 2) rfl
    have f2 : v9.frozen? ⟨w.heap.size, 2, none⟩ = false := S9.out.rs.frozen
    have d3 := S9.out.rs.cellAt (o := 3) rfl
    have f3 : v9.frozen? ⟨w.heap.size, 3, none⟩ = false := S9.out.rs.frozen
    have d4 := S9.out.rs.cellAt (o := 4) rfl
    have f4 : v9.frozen? ⟨w.heap.size, 4, none⟩ = false := S9.out.rs.frozen
    have d5 := S9.out.rs.cellAt (o := 5) rfl
    have f5 : v9.frozen? ⟨w.heap.size, 5, none⟩ = false := S9.out.rs.frozen
    have d6 := S9.out.rs.cellAt (o := 6) rfl
    have f6 : v9.frozen? ⟨w.heap.size, 6, none⟩ = false := S9.out.rs.frozen
    have d7 := S9.out.rs.cellAt (o := 7) rfl
    have f7 : v9.frozen? ⟨w.heap.size, 7, none⟩ = false := S9.out.rs.frozen
    have d8 := S9.out.rs.cellAt (o := 8) rfl
    have f8 : v9.frozen? ⟨w.heap.size, 8, none⟩ = false := S9.out.rs.frozen
    have FB := hid S9.out.bad
    clear S9
    go_wp2
    exact bodyPost_ret (ret_ct16 (p := 2) (u := 3) rfl _ _ w.heap.size #[.int .i64 0, .string ⟨#[]⟩, .string ⟨#[]⟩, .string ⟨#[]⟩, .int .i64 0, .int .i64 0, .string ⟨#[]⟩, .slice none 0 0, .slice none 0 0] (.int .i64 3) rfl rfl (run_loadVar_row _ _ _ _ _ _ _ FB.out.1 Tryz.underlying34 rfl (by kernel_rfl))) rfl ⟨_, _, rfl, ownP_nil _ _ _, ownK_nil _ _ _, FB.out.2⟩
end Go.Proofs.YtmadlnchmkhdjaaGreat
namespace Go.Proofs.YtmadlnchmkhdjaaGreat
open Go.RowKit Go.Maps
set_option linter.unusedVariables false
set_option linter.unusedSimpArgs false

set_option maxRecDepth 100000 in
set_option maxHeartbeats 8000000 in
theorem rdec_1 (s : ByteArray) (w : World) (hs : s.size ≤ 140737488355328) (da de : Int) (hN : dcN s 10 0 0 = ⟨da, de, 1⟩) : Calls Tryz.prog 16 #[.string s] w (GiveQc w s) := by
  have hsm : s.size ≤ maxLen := by unfold maxLen; omega
  have HQ : rdQ s = ⟨(tS s ((tS s (da) (de) 64).a) ((tS s (da) (de) 64).e) 63).a, (tS s ((tS s (da) (de) 64).a) ((tS s (da) (de) 64).e) 63).e, ⟨1, (tS s (da) (de) 64).x, (tS s ((tS s (da) (de) 64).a) ((tS s (da) (de) 64).e) 63).x, ⟨#[]⟩, 0, 0, ⟨#[]⟩, [], []⟩⟩ := by
    have hh : flN ((dcN s 10 0 0).n : Int) = 3 := by rw [hN]; exact (show flN 1 = 3 from by decide)
    unfold rdQ
    simp only [hh]
    simp only [q1, q2, s3, s4, s5, s6, s7, s8, r0, hN, show hasF 3 1 = true from by decide, show hasF 3 2 = true from by decide, show hasF 3 4 = false from by decide, show hasF 3 8 = false from by decide, show hasF 3 16 = false from by decide, show hasF 3 32 = false from by decide, show hasF 3 64 = false from by decide, show hasF 3 128 = false from by decide, if_true, Bool.false_eq_true, if_false]
    try rfl
  have HSM := rdQ_sm s
  have RN : Hid (∀ W, Calls Tryz.prog 44 #[.agg #[.string s, .int .i64 0, .int .i64 0], .int .i64 10] W fun r w' => r = .returned (.tuple #[.agg #[.string s, .int .i64 da, .int .i64 de], .int .i64 1]) ∧ Below W.heap.size W w') := fun W => by
    have := ref_reader_int s 0 0 10 W hsm (by omega) (nS_int s 0 0 10 (by omega))
    rw [show nS s 0 0 (fitI 10 (rdAt s 0).n) 2 = ⟨da, de, 1⟩ from hN] at this
    exact this
  have R1 : Hid (∀ W, Calls Tryz.prog 45 #[.agg #[.string s, .int .i64 (da), .int .i64 (de)], .int .i64 64] W fun r w' => r = .returned (.tuple #[.agg #[.string s, .int .i64 (tS s (da) (de) 64).a, .int .i64 (tS s (da) (de) 64).e], .string (tS s (da) (de) 64).x]) ∧ Below W.heap.size W w') := fun W => ref_reader_text s _ _ 64 W hs
  have R2 : Hid (∀ W, Calls Tryz.prog 45 #[.agg #[.string s, .int .i64 ((tS s (da) (de) 64).a), .int .i64 ((tS s (da) (de) 64).e)], .int .i64 63] W fun r w' => r = .returned (.tuple #[.agg #[.string s, .int .i64 (tS s ((tS s (da) (de) 64).a) ((tS s (da) (de) 64).e) 63).a, .int .i64 (tS s ((tS s (da) (de) 64).a) ((tS s (da) (de) 64).e) 63).e], .string (tS s ((tS s (da) (de) 64).a) ((tS s (da) (de) 64).e) 63).x]) ∧ Below W.heap.size W w') := fun W => ref_reader_text s _ _ 63 W hs
  clear hs hsm hN
  generalize tS s da de 64 = Y1 at *
  obtain ⟨a1, e1, x1⟩ := Y1
  simp only at *
  generalize tS s a1 e1 63 = Y2 at *
  obtain ⟨a2, e2, x2⟩ := Y2
  simp only at *
  have HOK : Hid (qcOk s = ((endE s a2 e2 == 0) && cmOk (⟨1, x1, x2, ⟨#[]⟩, 0, 0, ⟨#[]⟩, [], []⟩ : Cm))) := by show _ = _; unfold qcOk; rw [HQ]
  have HD : Hid (qcC s = (if qcOk s = true then (⟨1, x1, x2, ⟨#[]⟩, 0, 0, ⟨#[]⟩, [], []⟩ : Cm) else cm0) ∧ qcE s = (if qcOk s = true then 0 else 3)) := by refine ⟨?_, rfl⟩; unfold qcC; rw [HQ]
  rw [HQ] at HSM
  have CK : Hid (∀ pv kv W, PcI W pv (⟨1, x1, x2, ⟨#[]⟩, 0, 0, ⟨#[]⟩, [], []⟩ : Cm).ps → PkI W kv (⟨1, x1, x2, ⟨#[]⟩, 0, 0, ⟨#[]⟩, [], []⟩ : Cm).ks → Calls Tryz.prog 14 #[cmV pv kv (⟨1, x1, x2, ⟨#[]⟩, 0, 0, ⟨#[]⟩, [], []⟩ : Cm)] W fun e w' => e = .returned (.int .i64 (ckN (⟨1, x1, x2, ⟨#[]⟩, 0, 0, ⟨#[]⟩, [], []⟩ : Cm))) ∧ Below W.heap.size W w') := fun pv kv W h1 h2 => rcheck16_any pv kv _ W h1 h2 HSM.sz
  have RE := hid (fun W => ref_reader_end s a2 e2 W)
  clear HQ HSM
  unfold GiveQc
  unfold ckN cmV at CK
  generalize qcC s = DC at *
  generalize qcE s = DE at *
  generalize qcOk s = OK at *
  generalize cmOk (⟨1, x1, x2, ⟨#[]⟩, 0, 0, ⟨#[]⟩, [], []⟩ : Cm) = ok at *
  generalize endE s a2 e2 = en at *
  simp only at CK
  have HK1 : Hid (∀ W, Calls Tryz.prog 35 #[.int .i64 1] W fun e w' => e = .returned (.bool false) ∧ w' = W) := fun W => hasKey_any 1 W
  have HI1 : Hid (∀ W, Calls Tryz.prog 37 #[.int .i64 1] W fun e w' => e = .returned (.bool false) ∧ w' = W) := fun W => hasID_any 1 W
  have HS1 : Hid (∀ W, Calls Tryz.prog 39 #[.int .i64 1] W fun e w' => e = .returned (.bool false) ∧ w' = W) := fun W => hasSum_any 1 W
  go_enter Tryz.func16, Tryz.ntmps16
  go_wp2_with fail
  refine (RN.out _).mono ?_
  rintro e0 w1 ⟨rfl, b1⟩
  have S0 := hid (rcs_new (s := s) (a := da) (e := de) (k := 1) b1)
  clear RN b1
  go_upto_region 3 with fail
  generalize ((w1.alloc (.cells #[.string s, .int .i64 da, .int .i64 de] 79)).alloc (.cells #[.int .i64 1, .string ⟨#[]⟩, .string ⟨#[]⟩, .string ⟨#[]⟩, .int .i64 0, .int .i64 0, .string ⟨#[]⟩, .slice none 0 0, .slice none 0 0] 34)) = V0 at *
  generalize w1.heap.size = g at *
  have c0 := S0.out.rd.cellAt (o := 0) rfl
  have c1 := S0.out.rd.cellAt (o := 1) rfl
  have c2 := S0.out.rd.cellAt (o := 2) rfl
  go_wp2_with fail
  refine (R1.out _).mono ?_
  rintro e1' v1 ⟨rfl, b1⟩
  have P1 := hid ((S0.out.call b1).al (.cells #[.string s, .int .i64 a1, .int .i64 e1] 79))
  clear b1 R1 S0 c0 c1 c2
  go_wp2_with fail
  refine (R2.out _).mono ?_
  rintro e2' v2 ⟨rfl, b2⟩
  have P2 := hid ((P1.out.call b2).al (.cells #[.string s, .int .i64 a2, .int .i64 e2] 79))
  have HL2 := hid (P1.out.call b2).bx.lt
  clear b2 R2 P1
  have c0 := P2.out.rd.cellAt (o := 0) rfl
  have f0 : (v2.alloc (.cells #[.string s, .int .i64 a2, .int .i64 e2] 79)).frozen? ⟨g, 0, none⟩ = false := P2.out.rd.frozen
  have c1 := P2.out.rd.cellAt (o := 1) rfl
  have f1 : (v2.alloc (.cells #[.string s, .int .i64 a2, .int .i64 e2] 79)).frozen? ⟨g, 1, none⟩ = false := P2.out.rd.frozen
  have c2 := P2.out.rd.cellAt (o := 2) rfl
  have f2 : (v2.alloc (.cells #[.string s, .int .i64 a2, .int .i64 e2] 79)).frozen? ⟨g, 2, none⟩ = false := P2.out.rd.frozen
  have z1 := P2.out.bx.cellAt (o := 1) rfl
  have y1 : (v2.alloc (.cells #[.string s, .int .i64 a2, .int .i64 e2] 79)).frozen? ⟨g + 1, 1, none⟩ = false := P2.out.bx.frozen
  have z2 := P2.out.bx.cellAt (o := 2) rfl
  have y2 : (v2.alloc (.cells #[.string s, .int .i64 a2, .int .i64 e2] 79)).frozen? ⟨g + 1, 2, none⟩ = false := P2.out.bx.frozen
  have n1 : v2.heap.size ≠ g := by have h9 := HL2.out; omega
  have n2 : g ≠ v2.heap.size := fun h => n1 h.symm
  have n3 : v2.heap.size ≠ g + 1 := by have h9 := HL2.out; omega
  have n4 : g + 1 ≠ v2.heap.size := fun h => n3 h.symm
  go_upto_region 9 with fail
  have S2 := hid ((((P2.out).fld 1 (.string x1) (.slice none 0 0) (.slice none 0 0) ⟨1, x1, ⟨#[]⟩, ⟨#[]⟩, 0, 0, ⟨#[]⟩, [], []⟩ rfl P2.out.op P2.out.ok).fld 2 (.string x2) (.slice none 0 0) (.slice none 0 0) ⟨1, x1, x2, ⟨#[]⟩, 0, 0, ⟨#[]⟩, [], []⟩ rfl (ownP_set (P2.out.op) (by omega)) (ownK_set (P2.out.ok) (by omega))).put a2 e2)
  clear P2 c0 c1 c2 f0 f1 f2 z1 y1 z2 y2 n1 n2 n3 n4 
  clear HL2
  generalize ((((((v2.alloc (.cells #[.string s, .int .i64 a2, .int .i64 e2] 79)).setCell ⟨g + 1, 1, none⟩ (.string x1)).setCell ⟨g + 1, 2, none⟩ (.string x2)).setCell ⟨g, 0, none⟩ (.string s)).setCell ⟨g, 1, none⟩ (.int .i64 a2)).setCell ⟨g, 2, none⟩ (.int .i64 e2)) = V2 at *
  go_wp2_with fail
  refine (HK1.out _).mono ?_
  rintro et1 vt1 ⟨rfl, rfl⟩
  clear HK1
  go_wp2_with fail
  refine (HI1.out _).mono ?_
  rintro et2 vt2 ⟨rfl, rfl⟩
  clear HI1
  go_wp2_with fail
  refine (HS1.out _).mono ?_
  rintro et3 vt3 ⟨rfl, rfl⟩
  clear HS1
  have c0 := S2.out.rd.cellAt (o := 0) rfl
  have c1 := S2.out.rd.cellAt (o := 1) rfl
  have c2 := S2.out.rd.cellAt (o := 2) rfl
  go_wp2_with fail
  refine (RE.out _).mono ?_
  rintro e9' v9 ⟨rfl, b9⟩
  have S9 := hid (S2.out.call b9)
  clear RE b9 S2 c0 c1 c2
  have hfd : ∀ W : World, (Instr.field 79 (.agg #[.string s, .int .i64 a2, .int .i64 en]) 2).run Tryz.prog W = .ok (.int .i64 en) W := fun _ => by kernel_rfl
  by_cases hen : en = 0
  · subst hen
    have HNE : w.heap.size ≠ g + 1 := by have := S9.out.lo; omega
    have HNE2 : g + 1 ≠ w.heap.size := fun h => HNE h.symm
    have CK9 := hid (CK.out _ _ _ S9.out.op.pcs S9.out.ok.pks)
    clear CK
    cases ok
    · obtain rfl : OK = false := HOK.out
      obtain ⟨rfl, rfl⟩ := HD.out
      clear HOK HD
      have c0 := S9.out.bx.cellAt (o := 0) rfl
      have c1 := S9.out.bx.cellAt (o := 1) rfl
      have c2 := S9.out.bx.cellAt (o := 2) rfl
      have c3 := S9.out.bx.cellAt (o := 3) rfl
      have c4 := S9.out.bx.cellAt (o := 4) rfl
      have c5 := S9.out.bx.cellAt (o := 5) rfl
      have c6 := S9.out.bx.cellAt (o := 6) rfl
      have c7 := S9.out.bx.cellAt (o := 7) rfl
      have c8 := S9.out.bx.cellAt (o := 8) rfl
      go_wp2_with fail
      refine CK9.out.mono ?_
      rintro e10 w10 ⟨rfl, b10⟩
      have S10 := hid (S9.out.call b10)
      clear CK9 b10 S9 c0 c1 c2 c3 c4 c5 c6 c7 c8
      have d0 := S10.out.rs.cellAt (o := 0) rfl
      have f0 : w10.frozen? ⟨w.heap.size, 0, none⟩ = false := S10.out.rs.frozen
      have d1 := S10.out.rs.cellAt (o := 1) rfl
      have f1 : w10.frozen? ⟨w.heap.size, 1, none⟩ = false := S10.out.rs.frozen
      have d2 := S10.out.rs.cellAt (o := 2) rfl
      have f2 : w10.frozen? ⟨w.heap.size, 2, none⟩ = false := S10.out.rs.frozen
      have d3 := S10.out.rs.cellAt (o := 3) rfl
      have f3 : w10.frozen? ⟨w.heap.size, 3, none⟩ = false := S10.out.rs.frozen
      have d4 := S10.out.rs.cellAt (o := 4) rfl
      have f4 : w10.frozen? ⟨w.heap.size, 4, none⟩ = false := S10.out.rs.frozen
      have d5 := S10.out.rs.cellAt (o := 5) rfl
      have f5 : w10.frozen? ⟨w.heap.size, 5, none⟩ = false := S10.out.rs.frozen
      have d6 := S10.out.rs.cellAt (o := 6) rfl
      have f6 : w10.frozen? ⟨w.heap.size, 6, none⟩ = false := S10.out.rs.frozen
      have d7 := S10.out.rs.cellAt (o := 7) rfl
      have f7 : w10.frozen? ⟨w.heap.size, 7, none⟩ = false := S10.out.rs.frozen
      have d8 := S10.out.rs.cellAt (o := 8) rfl
      have f8 : w10.frozen? ⟨w.heap.size, 8, none⟩ = false := S10.out.rs.frozen
      have FB := hid S10.out.bad
      clear S10
      go_wp2
      exact bodyPost_ret (ret_ct16 (p := 2) (u := 3) rfl _ _ w.heap.size #[.int .i64 0, .string ⟨#[]⟩, .string ⟨#[]⟩, .string ⟨#[]⟩, .int .i64 0, .int .i64 0, .string ⟨#[]⟩, .slice none 0 0, .slice none 0 0] (.int .i64 3) rfl rfl (run_loadVar_row _ _ _ _ _ _ _ FB.out.1 Tryz.underlying34 rfl (by kernel_rfl))) rfl ⟨_, _, rfl, ownP_nil _ _ _, ownK_nil _ _ _, FB.out.2⟩
    · obtain rfl : OK = true := HOK.out
      obtain ⟨rfl, rfl⟩ := HD.out
      clear HOK HD
      have c0 := S9.out.bx.cellAt (o := 0) rfl
      have c1 := S9.out.bx.cellAt (o := 1) rfl
      have c2 := S9.out.bx.cellAt (o := 2) rfl
      have c3 := S9.out.bx.cellAt (o := 3) rfl
      have c4 := S9.out.bx.cellAt (o := 4) rfl
      have c5 := S9.out.bx.cellAt (o := 5) rfl
      have c6 := S9.out.bx.cellAt (o := 6) rfl
      have c7 := S9.out.bx.cellAt (o := 7) rfl
      have c8 := S9.out.bx.cellAt (o := 8) rfl
      go_wp2_with fail
      refine CK9.out.mono ?_
      rintro e10 w10 ⟨rfl, b10⟩
      have S10 := hid (S9.out.call b10)
      clear CK9 b10 S9 c0 c1 c2 c3 c4 c5 c6 c7 c8
      have c0 := S10.out.bx.cellAt (o := 0) rfl
      have c1 := S10.out.bx.cellAt (o := 1) rfl
      have c2 := S10.out.bx.cellAt (o := 2) rfl
      have c3 := S10.out.bx.cellAt (o := 3) rfl
      have c4 := S10.out.bx.cellAt (o := 4) rfl
      have c5 := S10.out.bx.cellAt (o := 5) rfl
      have c6 := S10.out.bx.cellAt (o := 6) rfl
      have c7 := S10.out.bx.cellAt (o := 7) rfl
      have c8 := S10.out.bx.cellAt (o := 8) rfl
      have d0 := S10.out.rs.cellAt (o := 0) rfl
      have f0 : w10.frozen? ⟨w.heap.size, 0, none⟩ = false := S10.out.rs.frozen
      have d1 := S10.out.rs.cellAt (o := 1) rfl
      have f1 : w10.frozen? ⟨w.heap.size, 1, none⟩ = false := S10.out.rs.frozen
      have d2 := S10.out.rs.cellAt (o := 2) rfl
      have f2 : w10.frozen? ⟨w.heap.size, 2, none⟩ = false := S10.out.rs.frozen
      have d3 := S10.out.rs.cellAt (o := 3) rfl
      have f3 : w10.frozen? ⟨w.heap.size, 3, none⟩ = false := S10.out.rs.frozen
      have d4 := S10.out.rs.cellAt (o := 4) rfl
      have f4 : w10.frozen? ⟨w.heap.size, 4, none⟩ = false := S10.out.rs.frozen
      have d5 := S10.out.rs.cellAt (o := 5) rfl
      have f5 : w10.frozen? ⟨w.heap.size, 5, none⟩ = false := S10.out.rs.frozen
      have d6 := S10.out.rs.cellAt (o := 6) rfl
      have f6 : w10.frozen? ⟨w.heap.size, 6, none⟩ = false := S10.out.rs.frozen
      have d7 := S10.out.rs.cellAt (o := 7) rfl
      have f7 : w10.frozen? ⟨w.heap.size, 7, none⟩ = false := S10.out.rs.frozen
      have d8 := S10.out.rs.cellAt (o := 8) rfl
      have f8 : w10.frozen? ⟨w.heap.size, 8, none⟩ = false := S10.out.rs.frozen
      have FB := hid S10.out.fin
      simp only [cmL] at FB
      clear S10
      go_wp2
      exact bodyPost_ret (ret_ct16 (p := 2) (u := 3) rfl _ _ w.heap.size #[.int .i64 1, .string x1, .string x2, .string ⟨#[]⟩, .int .i64 0, .int .i64 0, .string ⟨#[]⟩, .slice none 0 0, .slice none 0 0] (.int .i64 0) rfl rfl (run_loadVar_row _ _ _ _ _ _ _ FB.out.1 Tryz.underlying34 rfl (by kernel_rfl))) rfl ⟨_, _, rfl, FB.out.2⟩
  · have hq : (en == 0) = false := beq_eq_false_iff_ne.2 hen
    have hq2 : (en != 0) = true := by simp [hen]
    obtain rfl : OK = false := by have := HOK.out; rw [hq] at this; exact this
    obtain ⟨rfl, rfl⟩ := HD.out
    clear hen HOK HD CK
    have d0 := S9.out.rs.cellAt (o := 0) rfl
    have f0 : v9.frozen? ⟨w.heap.size, 0, none⟩ = false := S9.out.rs.frozen
    have d1 := S9.out.rs.cellAt (o := 1) rfl
    have f1 : v9.frozen? ⟨w.heap.size, 1, none⟩ = false := S9.out.rs.frozen
    have d2 := S9.out.rs.cellAt (o := 2) rfl
    have f2 : v9.frozen? ⟨w.heap.size, 2, none⟩ = false := S9.out.rs.frozen
    have d3 := S9.out.rs.cellAt (o := 3) rfl
    have f3 : v9.frozen? ⟨w.heap.size, 3, none⟩ = false := S9.out.rs.frozen
    have d4 := S9.out.rs.cellAt (o := 4) rfl
    have f4 : v9.frozen? ⟨w.heap.size, 4, none⟩ = false := S9.out.rs.frozen
    have d5 := S9.out.rs.cellAt (o := 5) rfl
    have f5 : v9.frozen? ⟨w.heap.size, 5, none⟩ = false := S9.out.rs.frozen
    have d6 := S9.out.rs.cellAt (o := 6) rfl
    have f6 : v9.frozen? ⟨w.heap.size, 6, none⟩ = false := S9.out.rs.frozen
    have d7 := S9.out.rs.cellAt (o := 7) rfl
    have f7 : v9.frozen? ⟨w.heap.size, 7, none⟩ = false := S9.out.rs.frozen
    have d8 := S9.out.rs.cellAt (o := 8) rfl
    have f8 : v9.frozen? ⟨w.heap.size, 8, none⟩ = false := S9.out.rs.frozen
    have FB := hid S9.out.bad
    clear S9
    go_wp2
    exact bodyPost_ret (ret_ct16 (p := 2) (u := 3) rfl _ _ w.heap.size #[.int .i64 0, .string ⟨#[]⟩, .string ⟨#[]⟩, .string ⟨#[]⟩, .int .i64 0, .int .i64 0, .string ⟨#[]⟩, .slice none 0 0, .slice none 0 0] (.int .i64 3) rfl rfl (run_loadVar_row _ _ _ _ _ _ _ FB.out.1 Tryz.underlying34 rfl (by kernel_rfl))) rfl ⟨_, _, rfl, ownP_nil _ _ _, ownK_nil _ _ _, FB.out.2⟩
end Go.Proofs.YtmadlnchmkhdjaaGreat
namespace Go.Proofs.YtmadlnchmkhdjaaGreat
open Go.RowKit Go.Maps
set_option linter.unusedVariables false
set_option linter.unusedSimpArgs false

set_option maxRecDepth 100000 in
set_option maxHeartbeats 8000000 in
theorem rdec_2 (s : ByteArray) (w : World) (hs : s.size ≤ 140737488355328) (da de : Int) (hN : dcN s 10 0 0 = ⟨da, de, 2⟩) : Calls Tryz.prog 16 #[.string s] w (GiveQc w s) := by
  have hsm : s.size ≤ maxLen := by unfold maxLen; omega
  have HQ : rdQ s = ⟨(tS s ((tS s (da) (de) 64).a) ((tS s (da) (de) 64).e) 63).a, (tS s ((tS s (da) (de) 64).a) ((tS s (da) (de) 64).e) 63).e, ⟨2, (tS s (da) (de) 64).x, (tS s ((tS s (da) (de) 64).a) ((tS s (da) (de) 64).e) 63).x, ⟨#[]⟩, 0, 0, ⟨#[]⟩, [], []⟩⟩ := by
    have hh : flN ((dcN s 10 0 0).n : Int) = 3 := by rw [hN]; exact (show flN 2 = 3 from by decide)
    unfold rdQ
    simp only [hh]
    simp only [q1, q2, s3, s4, s5, s6, s7, s8, r0, hN, show hasF 3 1 = true from by decide, show hasF 3 2 = true from by decide, show hasF 3 4 = false from by decide, show hasF 3 8 = false from by decide, show hasF 3 16 = false from by decide, show hasF 3 32 = false from by decide, show hasF 3 64 = false from by decide, show hasF 3 128 = false from by decide, if_true, Bool.false_eq_true, if_false]
    try rfl
  have HSM := rdQ_sm s
  have RN : Hid (∀ W, Calls Tryz.prog 44 #[.agg #[.string s, .int .i64 0, .int .i64 0], .int .i64 10] W fun r w' => r = .returned (.tuple #[.agg #[.string s, .int .i64 da, .int .i64 de], .int .i64 2]) ∧ Below W.heap.size W w') := fun W => by
    have := ref_reader_int s 0 0 10 W hsm (by omega) (nS_int s 0 0 10 (by omega))
    rw [show nS s 0 0 (fitI 10 (rdAt s 0).n) 2 = ⟨da, de, 2⟩ from hN] at this
    exact this
  have R1 : Hid (∀ W, Calls Tryz.prog 45 #[.agg #[.string s, .int .i64 (da), .int .i64 (de)], .int .i64 64] W fun r w' => r = .returned (.tuple #[.agg #[.string s, .int .i64 (tS s (da) (de) 64).a, .int .i64 (tS s (da) (de) 64).e], .string (tS s (da) (de) 64).x]) ∧ Below W.heap.size W w') := fun W => ref_reader_text s _ _ 64 W hs
  have R2 : Hid (∀ W, Calls Tryz.prog 45 #[.agg #[.string s, .int .i64 ((tS s (da) (de) 64).a), .int .i64 ((tS s (da) (de) 64).e)], .int .i64 63] W fun r w' => r = .returned (.tuple #[.agg #[.string s, .int .i64 (tS s ((tS s (da) (de) 64).a) ((tS s (da) (de) 64).e) 63).a, .int .i64 (tS s ((tS s (da) (de) 64).a) ((tS s (da) (de) 64).e) 63).e], .string (tS s ((tS s (da) (de) 64).a) ((tS s (da) (de) 64).e) 63).x]) ∧ Below W.heap.size W w') := fun W => ref_reader_text s _ _ 63 W hs
  clear hs hsm hN
  generalize tS s da de 64 = Y1 at *
  obtain ⟨a1, e1, x1⟩ := Y1
  simp only at *
  generalize tS s a1 e1 63 = Y2 at *
  obtain ⟨a2, e2, x2⟩ := Y2
  simp only at *
  have HOK : Hid (qcOk s = ((endE s a2 e2 == 0) && cmOk (⟨2, x1, x2, ⟨#[]⟩, 0, 0, ⟨#[]⟩, [], []⟩ : Cm))) := by show _ = _; unfold qcOk; rw [HQ]
  have HD : Hid (qcC s = (if qcOk s = true then (⟨2, x1, x2, ⟨#[]⟩, 0, 0, ⟨#[]⟩, [], []⟩ : Cm) else cm0) ∧ qcE s = (if qcOk s = true then 0 else 3)) := by refine ⟨?_, rfl⟩; unfold qcC; rw [HQ]
  rw [HQ] at HSM
  have CK : Hid (∀ pv kv W, PcI W pv (⟨2, x1, x2, ⟨#[]⟩, 0, 0, ⟨#[]⟩, [], []⟩ : Cm).ps → PkI W kv (⟨2, x1, x2, ⟨#[]⟩, 0, 0, ⟨#[]⟩, [], []⟩ : Cm).ks → Calls Tryz.prog 14 #[cmV pv kv (⟨2, x1, x2, ⟨#[]⟩, 0, 0, ⟨#[]⟩, [], []⟩ : Cm)] W fun e w' => e = .returned (.int .i64 (ckN (⟨2, x1, x2, ⟨#[]⟩, 0, 0, ⟨#[]⟩, [], []⟩ : Cm))) ∧ Below W.heap.size W w') := fun pv kv W h1 h2 => rcheck16_any pv kv _ W h1 h2 HSM.sz
  have RE := hid (fun W => ref_reader_end s a2 e2 W)
  clear HQ HSM
  unfold GiveQc
  unfold ckN cmV at CK
  generalize qcC s = DC at *
  generalize qcE s = DE at *
  generalize qcOk s = OK at *
  generalize cmOk (⟨2, x1, x2, ⟨#[]⟩, 0, 0, ⟨#[]⟩, [], []⟩ : Cm) = ok at *
  generalize endE s a2 e2 = en at *
  simp only at CK
  have HK1 : Hid (∀ W, Calls Tryz.prog 35 #[.int .i64 2] W fun e w' => e = .returned (.bool false) ∧ w' = W) := fun W => hasKey_any 2 W
  have HI1 : Hid (∀ W, Calls Tryz.prog 37 #[.int .i64 2] W fun e w' => e = .returned (.bool false) ∧ w' = W) := fun W => hasID_any 2 W
  have HS1 : Hid (∀ W, Calls Tryz.prog 39 #[.int .i64 2] W fun e w' => e = .returned (.bool false) ∧ w' = W) := fun W => hasSum_any 2 W
  go_enter Tryz.func16, Tryz.ntmps16
  go_wp2_with fail
  refine (RN.out _).mono ?_
  rintro e0 w1 ⟨rfl, b1⟩
  have S0 := hid (rcs_new (s := s) (a := da) (e := de) (k := 2) b1)
  clear RN b1
  go_upto_region 3 with fail
  generalize ((w1.alloc (.cells #[.string s, .int .i64 da, .int .i64 de] 79)).alloc (.cells #[.int .i64 2, .string ⟨#[]⟩, .string ⟨#[]⟩, .string ⟨#[]⟩, .int .i64 0, .int .i64 0, .string ⟨#[]⟩, .slice none 0 0, .slice none 0 0] 34)) = V0 at *
  generalize w1.heap.size = g at *
  have c0 := S0.out.rd.cellAt (o := 0) rfl
  have c1 := S0.out.rd.cellAt (o := 1) rfl
  have c2 := S0.out.rd.cellAt (o := 2) rfl
  go_wp2_with fail
  refine (R1.out _).mono ?_
  rintro e1' v1 ⟨rfl, b1⟩
  have P1 := hid ((S0.out.call b1).al (.cells #[.string s, .int .i64 a1, .int .i64 e1] 79))
  clear b1 R1 S0 c0 c1 c2
  go_wp2_with fail
  refine (R2.out _).mono ?_
  rintro e2' v2 ⟨rfl, b2⟩
  have P2 := hid ((P1.out.call b2).al (.cells #[.string s, .int .i64 a2, .int .i64 e2] 79))
  have HL2 := hid (P1.out.call b2).bx.lt
  clear b2 R2 P1
  have c0 := P2.out.rd.cellAt (o := 0) rfl
  have f0 : (v2.alloc (.cells #[.string s, .int .i64 a2, .int .i64 e2] 79)).frozen? ⟨g, 0, none⟩ = false := P2.out.rd.frozen
  have c1 := P2.out.rd.cellAt (o := 1) rfl
  have f1 : (v2.alloc (.cells #[.string s, .int .i64 a2, .int .i64 e2] 79)).frozen? ⟨g, 1, none⟩ = false := P2.out.rd.frozen
  have c2 := P2.out.rd.cellAt (o := 2) rfl
  have f2 : (v2.alloc (.cells #[.string s, .int .i64 a2, .int .i64 e2] 79)).frozen? ⟨g, 2, none⟩ = false := P2.out.rd.frozen
  have z1 := P2.out.bx.cellAt (o := 1) rfl
  have y1 : (v2.alloc (.cells #[.string s, .int .i64 a2, .int .i64 e2] 79)).frozen? ⟨g + 1, 1, none⟩ = false := P2.out.bx.frozen
  have z2 := P2.out.bx.cellAt (o := 2) rfl
  have y2 : (v2.alloc (.cells #[.string s, .int .i64 a2, .int .i64 e2] 79)).frozen? ⟨g + 1, 2, none⟩ = false := P2.out.bx.frozen
  have n1 : v2.heap.size ≠ g := by have h9 := HL2.out; omega
  have n2 : g ≠ v2.heap.size := fun h => n1 h.symm
  have n3 : v2.heap.size ≠ g + 1 := by have h9 := HL2.out; omega
  have n4 : g + 1 ≠ v2.heap.size := fun h => n3 h.symm
  go_upto_region 9 with fail
  have S2 := hid ((((P2.out).fld 1 (.string x1) (.slice none 0 0) (.slice none 0 0) ⟨2, x1, ⟨#[]⟩, ⟨#[]⟩, 0, 0, ⟨#[]⟩, [], []⟩ rfl P2.out.op P2.out.ok).fld 2 (.string x2) (.slice none 0 0) (.slice none 0 0) ⟨2, x1, x2, ⟨#[]⟩, 0, 0, ⟨#[]⟩, [], []⟩ rfl (ownP_set (P2.out.op) (by omega)) (ownK_set (P2.out.ok) (by omega))).put a2 e2)
  clear P2 c0 c1 c2 f0 f1 f2 z1 y1 z2 y2 n1 n2 n3 n4 
  clear HL2
  generalize ((((((v2.alloc (.cells #[.string s, .int .i64 a2, .int .i64 e2] 79)).setCell ⟨g + 1, 1, none⟩ (.string x1)).setCell ⟨g + 1, 2, none⟩ (.string x2)).setCell ⟨g, 0, none⟩ (.string s)).setCell ⟨g, 1, none⟩ (.int .i64 a2)).setCell ⟨g, 2, none⟩ (.int .i64 e2)) = V2 at *
  go_wp2_with fail
  refine (HK1.out _).mono ?_
  rintro et1 vt1 ⟨rfl, rfl⟩
  clear HK1
  go_wp2_with fail
  refine (HI1.out _).mono ?_
  rintro et2 vt2 ⟨rfl, rfl⟩
  clear HI1
  go_wp2_with fail
  refine (HS1.out _).mono ?_
  rintro et3 vt3 ⟨rfl, rfl⟩
  clear HS1
  have c0 := S2.out.rd.cellAt (o := 0) rfl
  have c1 := S2.out.rd.cellAt (o := 1) rfl
  have c2 := S2.out.rd.cellAt (o := 2) rfl
  go_wp2_with fail
  refine (RE.out _).mono ?_
  rintro e9' v9 ⟨rfl, b9⟩
  have S9 := hid (S2.out.call b9)
  clear RE b9 S2 c0 c1 c2
  have hfd : ∀ W : World, (Instr.field 79 (.agg #[.string s, .int .i64 a2, .int .i64 en]) 2).run Tryz.prog W = .ok (.int .i64 en) W := fun _ => by kernel_rfl
  by_cases hen : en = 0
  · subst hen
    have HNE : w.heap.size ≠ g + 1 := by have := S9.out.lo; omega
    have HNE2 : g + 1 ≠ w.heap.size := fun h => HNE h.symm
    have CK9 := hid (CK.out _ _ _ S9.out.op.pcs S9.out.ok.pks)
    clear CK
    cases ok
    · obtain rfl : OK = false := HOK.out
      obtain ⟨rfl, rfl⟩ := HD.out
      clear HOK HD
      have c0 := S9.out.bx.cellAt (o := 0) rfl
      have c1 := S9.out.bx.cellAt (o := 1) rfl
      have c2 := S9.out.bx.cellAt (o := 2) rfl
      have c3 := S9.out.bx.cellAt (o := 3) rfl
      have c4 := S9.out.bx.cellAt (o := 4) rfl
      have c5 := S9.out.bx.cellAt (o := 5) rfl
      have c6 := S9.out.bx.cellAt (o := 6) rfl
      have c7 := S9.out.bx.cellAt (o := 7) rfl
      have c8 := S9.out.bx.cellAt (o := 8) rfl
      go_wp2_with fail
      refine CK9.out.mono ?_
      rintro e10 w10 ⟨rfl, b10⟩
      have S10 := hid (S9.out.call b10)
      clear CK9 b10 S9 c0 c1 c2 c3 c4 c5 c6 c7 c8
      have d0 := S10.out.rs.cellAt (o := 0) rfl
      have f0 : w10.frozen? ⟨w.heap.size, 0, none⟩ = false := S10.out.rs.frozen
      have d1 := S10.out.rs.cellAt (o := 1) rfl
      have f1 : w10.frozen? ⟨w.heap.size, 1, none⟩ = false := S10.out.rs.frozen
      have d2 := S10.out.rs.cellAt (o := 2) rfl
      have f2 : w10.frozen? ⟨w.heap.size, 2, none⟩ = false := S10.out.rs.frozen
      have d3 := S10.out.rs.cellAt (o := 3) rfl
      have f3 : w10.frozen? ⟨w.heap.size, 3, none⟩ = false := S10.out.rs.frozen
      have d4 := S10.out.rs.cellAt (o := 4) rfl
      have f4 : w10.frozen? ⟨w.heap.size, 4, none⟩ = false := S10.out.rs.frozen
      have d5 := S10.out.rs.cellAt (o := 5) rfl
      have f5 : w10.frozen? ⟨w.heap.size, 5, none⟩ = false := S10.out.rs.frozen
      have d6 := S10.out.rs.cellAt (o := 6) rfl
      have f6 : w10.frozen? ⟨w.heap.size, 6, none⟩ = false := S10.out.rs.frozen
      have d7 := S10.out.rs.cellAt (o := 7) rfl
      have f7 : w10.frozen? ⟨w.heap.size, 7, none⟩ = false := S10.out.rs.frozen
      have d8 := S10.out.rs.cellAt (o := 8) rfl
      have f8 : w10.frozen? ⟨w.heap.size, 8, none⟩ = false := S10.out.rs.frozen
      have FB := hid S10.out.bad
      clear S10
      go_wp2
      exact bodyPost_ret (ret_ct16 (p := 2) (u := 3) rfl _ _ w.heap.size #[.int .i64 0, .string ⟨#[]⟩, .string ⟨#[]⟩, .string ⟨#[]⟩, .int .i64 0, .int .i64 0, .string ⟨#[]⟩, .slice none 0 0, .slice none 0 0] (.int .i64 3) rfl rfl (run_loadVar_row _ _ _ _ _ _ _ FB.out.1 Tryz.underlying34 rfl (by kernel_rfl))) rfl ⟨_, _, rfl, ownP_nil _ _ _, ownK_nil _ _ _, FB.out.2⟩
    · obtain rfl : OK = true := HOK.out
      obtain ⟨rfl, rfl⟩ := HD.out
      clear HOK HD
      have c0 := S9.out.bx.cellAt (o := 0) rfl
      have c1 := S9.out.bx.cellAt (o := 1) rfl
      have c2 := S9.out.bx.cellAt (o := 2) rfl
      have c3 := S9.out.bx.cellAt (o := 3) rfl
      have c4 := S9.out.bx.cellAt (o := 4) rfl
      have c5 := S9.out.bx.cellAt (o := 5) rfl
      have c6 := S9.out.bx.cellAt (o := 6) rfl
      have c7 := S9.out.bx.cellAt (o := 7) rfl
      have c8 := S9.out.bx.cellAt (o := 8) rfl
      go_wp2_with fail
      refine CK9.out.mono ?_
      rintro e10 w10 ⟨rfl, b10⟩
      have S10 := hid (S9.out.call b10)
      clear CK9 b10 S9 c0 c1 c2 c3 c4 c5 c6 c7 c8
      have c0 := S10.out.bx.cellAt (o := 0) rfl
      have c1 := S10.out.bx.cellAt (o := 1) rfl
      have c2 := S10.out.bx.cellAt (o := 2) rfl
      have c3 := S10.out.bx.cellAt (o := 3) rfl
      have c4 := S10.out.bx.cellAt (o := 4) rfl
      have c5 := S10.out.bx.cellAt (o := 5) rfl
      have c6 := S10.out.bx.cellAt (o := 6) rfl
      have c7 := S10.out.bx.cellAt (o := 7) rfl
      have c8 := S10.out.bx.cellAt (o := 8) rfl
      have d0 := S10.out.rs.cellAt (o := 0) rfl
      have f0 : w10.frozen? ⟨w.heap.size, 0, none⟩ = false := S10.out.rs.frozen
      have d1 := S10.out.rs.cellAt (o := 1) rfl
      have f1 : w10.frozen? ⟨w.heap.size, 1, none⟩ = false := S10.out.rs.frozen
      have d2 := S10.out.rs.cellAt (o := 2) rfl
      have f2 : w10.frozen? ⟨w.heap.size, 2, none⟩ = false := S10.out.rs.frozen
      have d3 := S10.out.rs.cellAt (o := 3) rfl
      have f3 : w10.frozen? ⟨w.heap.size, 3, none⟩ = false := S10.out.rs.frozen
      have d4 := S10.out.rs.cellAt (o := 4) rfl
      have f4 : w10.frozen? ⟨w.heap.size, 4, none⟩ = false := S10.out.rs.frozen
      have d5 := S10.out.rs.cellAt (o := 5) rfl
      have f5 : w10.frozen? ⟨w.heap.size, 5, none⟩ = false := S10.out.rs.frozen
      have d6 := S10.out.rs.cellAt (o := 6) rfl
      have f6 : w10.frozen? ⟨w.heap.size, 6, none⟩ = false := S10.out.rs.frozen
      have d7 := S10.out.rs.cellAt (o := 7) rfl
      have f7 : w10.frozen? ⟨w.heap.size, 7, none⟩ = false := S10.out.rs.frozen
      have d8 := S10.out.rs.cellAt (o := 8) rfl
      have f8 : w10.frozen? ⟨w.heap.size, 8, none⟩ = false := S10.out.rs.frozen
      have FB := hid S10.out.fin
      simp only [cmL] at FB
      clear S10
      go_wp2
      exact bodyPost_ret (ret_ct16 (p := 2) (u := 3) rfl _ _ w.heap.size #[.int .i64 2, .string x1, .string x2, .string ⟨#[]⟩, .int .i64 0, .int .i64 0, .string ⟨#[]⟩, .slice none 0 0, .slice none 0 0] (.int .i64 0) rfl rfl (run_loadVar_row _ _ _ _ _ _ _ FB.out.1 Tryz.underlying34 rfl (by kernel_rfl))) rfl ⟨_, _, rfl, FB.out.2⟩
  · have hq : (en == 0) = false := beq_eq_false_iff_ne.2 hen
    have hq2 : (en != 0) = true := by simp [hen]
    obtain rfl : OK = false := by have := HOK.out; rw [hq] at this; exact this
    obtain ⟨rfl, rfl⟩ := HD.out
    clear hen HOK HD CK
    have d0 := S9.out.rs.cellAt (o := 0) rfl
    have f0 : v9.frozen? ⟨w.heap.size, 0, none⟩ = false := S9.out.rs.frozen
    have d1 := S9.out.rs.cellAt (o := 1) rfl
    have f1 : v9.frozen? ⟨w.heap.size, 1, none⟩ = false := S9.out.rs.frozen
    have d2 := S9.out.rs.cellAt (o := 2) rfl
    have f2 : v9.frozen? ⟨w.heap.size, 2, none⟩ = false := S9.out.rs.frozen
    have d3 := S9.out.rs.cellAt (o := 3) rfl
    have f3 : v9.frozen? ⟨w.heap.size, 3, none⟩ = false := S9.out.rs.frozen
    have d4 := S9.out.rs.cellAt (o := 4) rfl
    have f4 : v9.frozen? ⟨w.heap.size, 4, none⟩ = false := S9.out.rs.frozen
    have d5 := S9.out.rs.cellAt (o := 5) rfl
    have f5 : v9.frozen? ⟨w.heap.size, 5, none⟩ = false := S9.out.rs.frozen
    have d6 := S9.out.rs.cellAt (o := 6) rfl
    have f6 : v9.frozen? ⟨w.heap.size, 6, none⟩ = false := S9.out.rs.frozen
    have d7 := S9.out.rs.cellAt (o := 7) rfl
    have f7 : v9.frozen? ⟨w.heap.size, 7, none⟩ = false := S9.out.rs.frozen
    have d8 := S9.out.rs.cellAt (o := 8) rfl
    have f8 : v9.frozen? ⟨w.heap.size, 8, none⟩ = false := S9.out.rs.frozen
    have FB := hid S9.out.bad
    clear S9
    go_wp2
    exact bodyPost_ret (ret_ct16 (p := 2) (u := 3) rfl _ _ w.heap.size #[.int .i64 0, .string ⟨#[]⟩, .string ⟨#[]⟩, .string ⟨#[]⟩, .int .i64 0, .int .i64 0, .string ⟨#[]⟩, .slice none 0 0, .slice none 0 0] (.int .i64 3) rfl rfl (run_loadVar_row _ _ _ _ _ _ _ FB.out.1 Tryz.underlying34 rfl (by kernel_rfl))) rfl ⟨_, _, rfl, ownP_nil _ _ _, ownK_nil _ _ _, FB.out.2⟩
end Go.Proofs.YtmadlnchmkhdjaaGreat
namespace Go.Proofs.YtmadlnchmkhdjaaGreat
open Go.RowKit Go.Maps
set_option linter.unusedVariables false
set_option linter.unusedSimpArgs false

set_option maxRecDepth 100000 in
set_option maxHeartbeats 8000000 in
theorem rdec_3 (s : ByteArray) (w : World) (hs : s.size ≤ 140737488355328) (da de : Int) (hN : dcN s 10 0 0 = ⟨da, de, 3⟩) : Calls Tryz.prog 16 #[.string s] w (GiveQc w s) := by
  have hsm : s.size ≤ maxLen := by unfold maxLen; omega
  have HQ : rdQ s = ⟨(rdP s ((tS s ((tS s ((tS s ((tS s (da) (de) 64).a) ((tS s (da) (de) 64).e) 63).a) ((tS s ((tS s (da) (de) 64).a) ((tS s (da) (de) 64).e) 63).e) 1024).a) ((tS s ((tS s ((tS s (da) (de) 64).a) ((tS s (da) (de) 64).e) 63).a) ((tS s ((tS s (da) (de) 64).a) ((tS s (da) (de) 64).e) 63).e) 1024).e) 64).a) ((tS s ((tS s ((tS s ((tS s (da) (de) 64).a) ((tS s (da) (de) 64).e) 63).a) ((tS s ((tS s (da) (de) 64).a) ((tS s (da) (de) 64).e) 63).e) 1024).a) ((tS s ((tS s ((tS s (da) (de) 64).a) ((tS s (da) (de) 64).e) 63).a) ((tS s ((tS s (da) (de) 64).a) ((tS s (da) (de) 64).e) 63).e) 1024).e) 64).e)).a, (rdP s ((tS s ((tS s ((tS s ((tS s (da) (de) 64).a) ((tS s (da) (de) 64).e) 63).a) ((tS s ((tS s (da) (de) 64).a) ((tS s (da) (de) 64).e) 63).e) 1024).a) ((tS s ((tS s ((tS s (da) (de) 64).a) ((tS s (da) (de) 64).e) 63).a) ((tS s ((tS s (da) (de) 64).a) ((tS s (da) (de) 64).e) 63).e) 1024).e) 64).a) ((tS s ((tS s ((tS s ((tS s (da) (de) 64).a) ((tS s (da) (de) 64).e) 63).a) ((tS s ((tS s (da) (de) 64).a) ((tS s (da) (de) 64).e) 63).e) 1024).a) ((tS s ((tS s ((tS s (da) (de) 64).a) ((tS s (da) (de) 64).e) 63).a) ((tS s ((tS s (da) (de) 64).a) ((tS s (da) (de) 64).e) 63).e) 1024).e) 64).e)).e, ⟨3, (tS s (da) (de) 64).x, (tS s ((tS s (da) (de) 64).a) ((tS s (da) (de) 64).e) 63).x, (tS s ((tS s ((tS s (da) (de) 64).a) ((tS s (da) (de) 64).e) 63).a) ((tS s ((tS s (da) (de) 64).a) ((tS s (da) (de) 64).e) 63).e) 1024).x, 0, 0, (tS s ((tS s ((tS s ((tS s (da) (de) 64).a) ((tS s (da) (de) 64).e) 63).a) ((tS s ((tS s (da) (de) 64).a) ((tS s (da) (de) 64).e) 63).e) 1024).a) ((tS s ((tS s ((tS s (da) (de) 64).a) ((tS s (da) (de) 64).e) 63).a) ((tS s ((tS s (da) (de) 64).a) ((tS s (da) (de) 64).e) 63).e) 1024).e) 64).x, (rdP s ((tS s ((tS s ((tS s ((tS s (da) (de) 64).a) ((tS s (da) (de) 64).e) 63).a) ((tS s ((tS s (da) (de) 64).a) ((tS s (da) (de) 64).e) 63).e) 1024).a) ((tS s ((tS s ((tS s (da) (de) 64).a) ((tS s (da) (de) 64).e) 63).a) ((tS s ((tS s (da) (de) 64).a) ((tS s (da) (de) 64).e) 63).e) 1024).e) 64).a) ((tS s ((tS s ((tS s ((tS s (da) (de) 64).a) ((tS s (da) (de) 64).e) 63).a) ((tS s ((tS s (da) (de) 64).a) ((tS s (da) (de) 64).e) 63).e) 1024).a) ((tS s ((tS s ((tS s (da) (de) 64).a) ((tS s (da) (de) 64).e) 63).a) ((tS s ((tS s (da) (de) 64).a) ((tS s (da) (de) 64).e) 63).e) 1024).e) 64).e)).l, []⟩⟩ := by
    have hh : flN ((dcN s 10 0 0).n : Int) = 103 := by rw [hN]; exact (show flN 3 = 103 from by decide)
    unfold rdQ
    simp only [hh]
    simp only [q1, q2, s3, s4, s5, s6, s7, s8, r0, hN, show hasF 103 1 = true from by decide, show hasF 103 2 = true from by decide, show hasF 103 4 = true from by decide, show hasF 103 8 = false from by decide, show hasF 103 16 = false from by decide, show hasF 103 32 = true from by decide, show hasF 103 64 = true from by decide, show hasF 103 128 = false from by decide, if_true, Bool.false_eq_true, if_false]
    try rfl
  have HSM := rdQ_sm s
  have RN : Hid (∀ W, Calls Tryz.prog 44 #[.agg #[.string s, .int .i64 0, .int .i64 0], .int .i64 10] W fun r w' => r = .returned (.tuple #[.agg #[.string s, .int .i64 da, .int .i64 de], .int .i64 3]) ∧ Below W.heap.size W w') := fun W => by
    have := ref_reader_int s 0 0 10 W hsm (by omega) (nS_int s 0 0 10 (by omega))
    rw [show nS s 0 0 (fitI 10 (rdAt s 0).n) 2 = ⟨da, de, 3⟩ from hN] at this
    exact this
  have R1 : Hid (∀ W, Calls Tryz.prog 45 #[.agg #[.string s, .int .i64 (da), .int .i64 (de)], .int .i64 64] W fun r w' => r = .returned (.tuple #[.agg #[.string s, .int .i64 (tS s (da) (de) 64).a, .int .i64 (tS s (da) (de) 64).e], .string (tS s (da) (de) 64).x]) ∧ Below W.heap.size W w') := fun W => ref_reader_text s _ _ 64 W hs
  have R2 : Hid (∀ W, Calls Tryz.prog 45 #[.agg #[.string s, .int .i64 ((tS s (da) (de) 64).a), .int .i64 ((tS s (da) (de) 64).e)], .int .i64 63] W fun r w' => r = .returned (.tuple #[.agg #[.string s, .int .i64 (tS s ((tS s (da) (de) 64).a) ((tS s (da) (de) 64).e) 63).a, .int .i64 (tS s ((tS s (da) (de) 64).a) ((tS s (da) (de) 64).e) 63).e], .string (tS s ((tS s (da) (de) 64).a) ((tS s (da) (de) 64).e) 63).x]) ∧ Below W.heap.size W w') := fun W => ref_reader_text s _ _ 63 W hs
  have R3 : Hid (∀ W, Calls Tryz.prog 45 #[.agg #[.string s, .int .i64 ((tS s ((tS s (da) (de) 64).a) ((tS s (da) (de) 64).e) 63).a), .int .i64 ((tS s ((tS s (da) (de) 64).a) ((tS s (da) (de) 64).e) 63).e)], .int .i64 1024] W fun r w' => r = .returned (.tuple #[.agg #[.string s, .int .i64 (tS s ((tS s ((tS s (da) (de) 64).a) ((tS s (da) (de) 64).e) 63).a) ((tS s ((tS s (da) (de) 64).a) ((tS s (da) (de) 64).e) 63).e) 1024).a, .int .i64 (tS s ((tS s ((tS s (da) (de) 64).a) ((tS s (da) (de) 64).e) 63).a) ((tS s ((tS s (da) (de) 64).a) ((tS s (da) (de) 64).e) 63).e) 1024).e], .string (tS s ((tS s ((tS s (da) (de) 64).a) ((tS s (da) (de) 64).e) 63).a) ((tS s ((tS s (da) (de) 64).a) ((tS s (da) (de) 64).e) 63).e) 1024).x]) ∧ Below W.heap.size W w') := fun W => ref_reader_text s _ _ 1024 W hs
  have R6 : Hid (∀ W, Calls Tryz.prog 45 #[.agg #[.string s, .int .i64 ((tS s ((tS s ((tS s (da) (de) 64).a) ((tS s (da) (de) 64).e) 63).a) ((tS s ((tS s (da) (de) 64).a) ((tS s (da) (de) 64).e) 63).e) 1024).a), .int .i64 ((tS s ((tS s ((tS s (da) (de) 64).a) ((tS s (da) (de) 64).e) 63).a) ((tS s ((tS s (da) (de) 64).a) ((tS s (da) (de) 64).e) 63).e) 1024).e)], .int .i64 64] W fun r w' => r = .returned (.tuple #[.agg #[.string s, .int .i64 (tS s ((tS s ((tS s ((tS s (da) (de) 64).a) ((tS s (da) (de) 64).e) 63).a) ((tS s ((tS s (da) (de) 64).a) ((tS s (da) (de) 64).e) 63).e) 1024).a) ((tS s ((tS s ((tS s (da) (de) 64).a) ((tS s (da) (de) 64).e) 63).a) ((tS s ((tS s (da) (de) 64).a) ((tS s (da) (de) 64).e) 63).e) 1024).e) 64).a, .int .i64 (tS s ((tS s ((tS s ((tS s (da) (de) 64).a) ((tS s (da) (de) 64).e) 63).a) ((tS s ((tS s (da) (de) 64).a) ((tS s (da) (de) 64).e) 63).e) 1024).a) ((tS s ((tS s ((tS s (da) (de) 64).a) ((tS s (da) (de) 64).e) 63).a) ((tS s ((tS s (da) (de) 64).a) ((tS s (da) (de) 64).e) 63).e) 1024).e) 64).e], .string (tS s ((tS s ((tS s ((tS s (da) (de) 64).a) ((tS s (da) (de) 64).e) 63).a) ((tS s ((tS s (da) (de) 64).a) ((tS s (da) (de) 64).e) 63).e) 1024).a) ((tS s ((tS s ((tS s (da) (de) 64).a) ((tS s (da) (de) 64).e) 63).a) ((tS s ((tS s (da) (de) 64).a) ((tS s (da) (de) 64).e) 63).e) 1024).e) 64).x]) ∧ Below W.heap.size W w') := fun W => ref_reader_text s _ _ 64 W hs
  have R7 : Hid (∀ W, Calls Tryz.prog 46 #[.agg #[.string s, .int .i64 ((tS s ((tS s ((tS s ((tS s (da) (de) 64).a) ((tS s (da) (de) 64).e) 63).a) ((tS s ((tS s (da) (de) 64).a) ((tS s (da) (de) 64).e) 63).e) 1024).a) ((tS s ((tS s ((tS s (da) (de) 64).a) ((tS s (da) (de) 64).e) 63).a) ((tS s ((tS s (da) (de) 64).a) ((tS s (da) (de) 64).e) 63).e) 1024).e) 64).a), .int .i64 ((tS s ((tS s ((tS s ((tS s (da) (de) 64).a) ((tS s (da) (de) 64).e) 63).a) ((tS s ((tS s (da) (de) 64).a) ((tS s (da) (de) 64).e) 63).e) 1024).a) ((tS s ((tS s ((tS s (da) (de) 64).a) ((tS s (da) (de) 64).e) 63).a) ((tS s ((tS s (da) (de) 64).a) ((tS s (da) (de) 64).e) 63).e) 1024).e) 64).e)]] W fun r w' => ∃ ad cap, r = .returned (.tuple #[.agg #[.string s, .int .i64 (rdP s ((tS s ((tS s ((tS s ((tS s (da) (de) 64).a) ((tS s (da) (de) 64).e) 63).a) ((tS s ((tS s (da) (de) 64).a) ((tS s (da) (de) 64).e) 63).e) 1024).a) ((tS s ((tS s ((tS s (da) (de) 64).a) ((tS s (da) (de) 64).e) 63).a) ((tS s ((tS s (da) (de) 64).a) ((tS s (da) (de) 64).e) 63).e) 1024).e) 64).a) ((tS s ((tS s ((tS s ((tS s (da) (de) 64).a) ((tS s (da) (de) 64).e) 63).a) ((tS s ((tS s (da) (de) 64).a) ((tS s (da) (de) 64).e) 63).e) 1024).a) ((tS s ((tS s ((tS s (da) (de) 64).a) ((tS s (da) (de) 64).e) 63).a) ((tS s ((tS s (da) (de) 64).a) ((tS s (da) (de) 64).e) 63).e) 1024).e) 64).e)).a, .int .i64 (rdP s ((tS s ((tS s ((tS s ((tS s (da) (de) 64).a) ((tS s (da) (de) 64).e) 63).a) ((tS s ((tS s (da) (de) 64).a) ((tS s (da) (de) 64).e) 63).e) 1024).a) ((tS s ((tS s ((tS s (da) (de) 64).a) ((tS s (da) (de) 64).e) 63).a) ((tS s ((tS s (da) (de) 64).a) ((tS s (da) (de) 64).e) 63).e) 1024).e) 64).a) ((tS s ((tS s ((tS s ((tS s (da) (de) 64).a) ((tS s (da) (de) 64).e) 63).a) ((tS s ((tS s (da) (de) 64).a) ((tS s (da) (de) 64).e) 63).e) 1024).a) ((tS s ((tS s ((tS s (da) (de) 64).a) ((tS s (da) (de) 64).e) 63).a) ((tS s ((tS s (da) (de) 64).a) ((tS s (da) (de) 64).e) 63).e) 1024).e) 64).e)).e], .slice ad (rdP s ((tS s ((tS s ((tS s ((tS s (da) (de) 64).a) ((tS s (da) (de) 64).e) 63).a) ((tS s ((tS s (da) (de) 64).a) ((tS s (da) (de) 64).e) 63).e) 1024).a) ((tS s ((tS s ((tS s (da) (de) 64).a) ((tS s (da) (de) 64).e) 63).a) ((tS s ((tS s (da) (de) 64).a) ((tS s (da) (de) 64).e) 63).e) 1024).e) 64).a) ((tS s ((tS s ((tS s ((tS s (da) (de) 64).a) ((tS s (da) (de) 64).e) 63).a) ((tS s ((tS s (da) (de) 64).a) ((tS s (da) (de) 64).e) 63).e) 1024).a) ((tS s ((tS s ((tS s (da) (de) 64).a) ((tS s (da) (de) 64).e) 63).a) ((tS s ((tS s (da) (de) 64).a) ((tS s (da) (de) 64).e) 63).e) 1024).e) 64).e)).l.length cap]) ∧ OwnP w' W.heap.size 90 (.slice ad (rdP s ((tS s ((tS s ((tS s ((tS s (da) (de) 64).a) ((tS s (da) (de) 64).e) 63).a) ((tS s ((tS s (da) (de) 64).a) ((tS s (da) (de) 64).e) 63).e) 1024).a) ((tS s ((tS s ((tS s (da) (de) 64).a) ((tS s (da) (de) 64).e) 63).a) ((tS s ((tS s (da) (de) 64).a) ((tS s (da) (de) 64).e) 63).e) 1024).e) 64).a) ((tS s ((tS s ((tS s ((tS s (da) (de) 64).a) ((tS s (da) (de) 64).e) 63).a) ((tS s ((tS s (da) (de) 64).a) ((tS s (da) (de) 64).e) 63).e) 1024).a) ((tS s ((tS s ((tS s (da) (de) 64).a) ((tS s (da) (de) 64).e) 63).a) ((tS s ((tS s (da) (de) 64).a) ((tS s (da) (de) 64).e) 63).e) 1024).e) 64).e)).l.length cap) (rdP s ((tS s ((tS s ((tS s ((tS s (da) (de) 64).a) ((tS s (da) (de) 64).e) 63).a) ((tS s ((tS s (da) (de) 64).a) ((tS s (da) (de) 64).e) 63).e) 1024).a) ((tS s ((tS s ((tS s (da) (de) 64).a) ((tS s (da) (de) 64).e) 63).a) ((tS s ((tS s (da) (de) 64).a) ((tS s (da) (de) 64).e) 63).e) 1024).e) 64).a) ((tS s ((tS s ((tS s ((tS s (da) (de) 64).a) ((tS s (da) (de) 64).e) 63).a) ((tS s ((tS s (da) (de) 64).a) ((tS s (da) (de) 64).e) 63).e) 1024).a) ((tS s ((tS s ((tS s (da) (de) 64).a) ((tS s (da) (de) 64).e) 63).a) ((tS s ((tS s (da) (de) 64).a) ((tS s (da) (de) 64).e) 63).e) 1024).e) 64).e)).l ∧ Below W.heap.size W w') := fun W => rread_any s _ _ W hs
  clear hs hsm hN
  generalize tS s da de 64 = Y1 at *
  obtain ⟨a1, e1, x1⟩ := Y1
  simp only at *
  generalize tS s a1 e1 63 = Y2 at *
  obtain ⟨a2, e2, x2⟩ := Y2
  simp only at *
  generalize tS s a2 e2 1024 = Y3 at *
  obtain ⟨a3, e3, x3⟩ := Y3
  simp only at *
  generalize tS s a3 e3 64 = Y6 at *
  obtain ⟨a6, e6, x6⟩ := Y6
  simp only at *
  generalize rdP s a6 e6 = Y7 at *
  obtain ⟨a7, e7, x7⟩ := Y7
  simp only at *
  have HOK : Hid (qcOk s = ((endE s a7 e7 == 0) && cmOk (⟨3, x1, x2, x3, 0, 0, x6, x7, []⟩ : Cm))) := by show _ = _; unfold qcOk; rw [HQ]
  have HD : Hid (qcC s = (if qcOk s = true then (⟨3, x1, x2, x3, 0, 0, x6, x7, []⟩ : Cm) else cm0) ∧ qcE s = (if qcOk s = true then 0 else 3)) := by refine ⟨?_, rfl⟩; unfold qcC; rw [HQ]
  rw [HQ] at HSM
  have CK : Hid (∀ pv kv W, PcI W pv (⟨3, x1, x2, x3, 0, 0, x6, x7, []⟩ : Cm).ps → PkI W kv (⟨3, x1, x2, x3, 0, 0, x6, x7, []⟩ : Cm).ks → Calls Tryz.prog 14 #[cmV pv kv (⟨3, x1, x2, x3, 0, 0, x6, x7, []⟩ : Cm)] W fun e w' => e = .returned (.int .i64 (ckN (⟨3, x1, x2, x3, 0, 0, x6, x7, []⟩ : Cm))) ∧ Below W.heap.size W w') := fun pv kv W h1 h2 => rcheck16_any pv kv _ W h1 h2 HSM.sz
  have RE := hid (fun W => ref_reader_end s a7 e7 W)
  clear HQ HSM
  unfold GiveQc
  unfold ckN cmV at CK
  generalize qcC s = DC at *
  generalize qcE s = DE at *
  generalize qcOk s = OK at *
  generalize cmOk (⟨3, x1, x2, x3, 0, 0, x6, x7, []⟩ : Cm) = ok at *
  generalize endE s a7 e7 = en at *
  simp only at CK
  have HK1 : Hid (∀ W, Calls Tryz.prog 35 #[.int .i64 3] W fun e w' => e = .returned (.bool true) ∧ w' = W) := fun W => hasKey_any 3 W
  have HI1 : Hid (∀ W, Calls Tryz.prog 37 #[.int .i64 3] W fun e w' => e = .returned (.bool false) ∧ w' = W) := fun W => hasID_any 3 W
  have HS1 : Hid (∀ W, Calls Tryz.prog 39 #[.int .i64 3] W fun e w' => e = .returned (.bool true) ∧ w' = W) := fun W => hasSum_any 3 W
  go_enter Tryz.func16, Tryz.ntmps16
  go_wp2_with fail
  refine (RN.out _).mono ?_
  rintro e0 w1 ⟨rfl, b1⟩
  have S0 := hid (rcs_new (s := s) (a := da) (e := de) (k := 3) b1)
  clear RN b1
  go_upto_region 3 with fail
  generalize ((w1.alloc (.cells #[.string s, .int .i64 da, .int .i64 de] 79)).alloc (.cells #[.int .i64 3, .string ⟨#[]⟩, .string ⟨#[]⟩, .string ⟨#[]⟩, .int .i64 0, .int .i64 0, .string ⟨#[]⟩, .slice none 0 0, .slice none 0 0] 34)) = V0 at *
  generalize w1.heap.size = g at *
  have c0 := S0.out.rd.cellAt (o := 0) rfl
  have c1 := S0.out.rd.cellAt (o := 1) rfl
  have c2 := S0.out.rd.cellAt (o := 2) rfl
  go_wp2_with fail
  refine (R1.out _).mono ?_
  rintro e1' v1 ⟨rfl, b1⟩
  have P1 := hid ((S0.out.call b1).al (.cells #[.string s, .int .i64 a1, .int .i64 e1] 79))
  clear b1 R1 S0 c0 c1 c2
  go_wp2_with fail
  refine (R2.out _).mono ?_
  rintro e2' v2 ⟨rfl, b2⟩
  have P2 := hid ((P1.out.call b2).al (.cells #[.string s, .int .i64 a2, .int .i64 e2] 79))
  have HL2 := hid (P1.out.call b2).bx.lt
  clear b2 R2 P1
  have c0 := P2.out.rd.cellAt (o := 0) rfl
  have f0 : (v2.alloc (.cells #[.string s, .int .i64 a2, .int .i64 e2] 79)).frozen? ⟨g, 0, none⟩ = false := P2.out.rd.frozen
  have c1 := P2.out.rd.cellAt (o := 1) rfl
  have f1 : (v2.alloc (.cells #[.string s, .int .i64 a2, .int .i64 e2] 79)).frozen? ⟨g, 1, none⟩ = false := P2.out.rd.frozen
  have c2 := P2.out.rd.cellAt (o := 2) rfl
  have f2 : (v2.alloc (.cells #[.string s, .int .i64 a2, .int .i64 e2] 79)).frozen? ⟨g, 2, none⟩ = false := P2.out.rd.frozen
  have z1 := P2.out.bx.cellAt (o := 1) rfl
  have y1 : (v2.alloc (.cells #[.string s, .int .i64 a2, .int .i64 e2] 79)).frozen? ⟨g + 1, 1, none⟩ = false := P2.out.bx.frozen
  have z2 := P2.out.bx.cellAt (o := 2) rfl
  have y2 : (v2.alloc (.cells #[.string s, .int .i64 a2, .int .i64 e2] 79)).frozen? ⟨g + 1, 2, none⟩ = false := P2.out.bx.frozen
  have n1 : v2.heap.size ≠ g := by have h9 := HL2.out; omega
  have n2 : g ≠ v2.heap.size := fun h => n1 h.symm
  have n3 : v2.heap.size ≠ g + 1 := by have h9 := HL2.out; omega
  have n4 : g + 1 ≠ v2.heap.size := fun h => n3 h.symm
  go_upto_region 9 with fail
  have S2 := hid ((((P2.out).fld 1 (.string x1) (.slice none 0 0) (.slice none 0 0) ⟨3, x1, ⟨#[]⟩, ⟨#[]⟩, 0, 0, ⟨#[]⟩, [], []⟩ rfl P2.out.op P2.out.ok).fld 2 (.string x2) (.slice none 0 0) (.slice none 0 0) ⟨3, x1, x2, ⟨#[]⟩, 0, 0, ⟨#[]⟩, [], []⟩ rfl (ownP_set (P2.out.op) (by omega)) (ownK_set (P2.out.ok) (by omega))).put a2 e2)
  clear P2 c0 c1 c2 f0 f1 f2 z1 y1 z2 y2 n1 n2 n3 n4 
  clear HL2
  generalize ((((((v2.alloc (.cells #[.string s, .int .i64 a2, .int .i64 e2] 79)).setCell ⟨g + 1, 1, none⟩ (.string x1)).setCell ⟨g + 1, 2, none⟩ (.string x2)).setCell ⟨g, 0, none⟩ (.string s)).setCell ⟨g, 1, none⟩ (.int .i64 a2)).setCell ⟨g, 2, none⟩ (.int .i64 e2)) = V2 at *
  go_wp2_with fail
  refine (HK1.out _).mono ?_
  rintro et1 vt1 ⟨rfl, rfl⟩
  clear HK1
  have c0 := S2.out.rd.cellAt (o := 0) rfl
  have c1 := S2.out.rd.cellAt (o := 1) rfl
  have c2 := S2.out.rd.cellAt (o := 2) rfl
  go_wp2_with fail
  refine (R3.out _).mono ?_
  rintro e3' v3 ⟨rfl, b3⟩
  have P3 := hid ((S2.out.call b3).al (.cells #[.string s, .int .i64 a3, .int .i64 e3] 79))
  have HL3 := hid (S2.out.call b3).bx.lt
  clear b3 R3 S2 c0 c1 c2
  have c0 := P3.out.rd.cellAt (o := 0) rfl
  have f0 : (v3.alloc (.cells #[.string s, .int .i64 a3, .int .i64 e3] 79)).frozen? ⟨g, 0, none⟩ = false := P3.out.rd.frozen
  have c1 := P3.out.rd.cellAt (o := 1) rfl
  have f1 : (v3.alloc (.cells #[.string s, .int .i64 a3, .int .i64 e3] 79)).frozen? ⟨g, 1, none⟩ = false := P3.out.rd.frozen
  have c2 := P3.out.rd.cellAt (o := 2) rfl
  have f2 : (v3.alloc (.cells #[.string s, .int .i64 a3, .int .i64 e3] 79)).frozen? ⟨g, 2, none⟩ = false := P3.out.rd.frozen
  have z3 := P3.out.bx.cellAt (o := 3) rfl
  have y3 : (v3.alloc (.cells #[.string s, .int .i64 a3, .int .i64 e3] 79)).frozen? ⟨g + 1, 3, none⟩ = false := P3.out.bx.frozen
  have n1 : v3.heap.size ≠ g := by have h9 := HL3.out; omega
  have n2 : g ≠ v3.heap.size := fun h => n1 h.symm
  have n3 : v3.heap.size ≠ g + 1 := by have h9 := HL3.out; omega
  have n4 : g + 1 ≠ v3.heap.size := fun h => n3 h.symm
  go_upto_region 13 with fail
  have S3 := hid (((P3.out).fld 3 (.string x3) (.slice none 0 0) (.slice none 0 0) ⟨3, x1, x2, x3, 0, 0, ⟨#[]⟩, [], []⟩ rfl P3.out.op P3.out.ok).put a3 e3)
  clear P3 c0 c1 c2 f0 f1 f2 z3 y3 n1 n2 n3 n4 
  clear HL3
  generalize (((((v3.alloc (.cells #[.string s, .int .i64 a3, .int .i64 e3] 79)).setCell ⟨g + 1, 3, none⟩ (.string x3)).setCell ⟨g, 0, none⟩ (.string s)).setCell ⟨g, 1, none⟩ (.int .i64 a3)).setCell ⟨g, 2, none⟩ (.int .i64 e3)) = V3 at *
  go_wp2_with fail
  refine (HI1.out _).mono ?_
  rintro et2 vt2 ⟨rfl, rfl⟩
  clear HI1
  go_wp2_with fail
  refine (HS1.out _).mono ?_
  rintro et3 vt3 ⟨rfl, rfl⟩
  clear HS1
  have c0 := S3.out.rd.cellAt (o := 0) rfl
  have c1 := S3.out.rd.cellAt (o := 1) rfl
  have c2 := S3.out.rd.cellAt (o := 2) rfl
  go_wp2_with fail
  refine (R6.out _).mono ?_
  rintro e6' v6 ⟨rfl, b6⟩
  have P6 := hid ((S3.out.call b6).al (.cells #[.string s, .int .i64 a6, .int .i64 e6] 79))
  clear b6 R6 S3 c0 c1 c2
  go_wp2_with fail
  refine (R7.out _).mono ?_
  rintro e7' v7 ⟨ad7, cap7, rfl, ho7, b7⟩
  have HO7 := hid (ownP_low ho7 (show g + 2 ≤ _ from P6.out.bx.lt))
  clear ho7
  have P7 := hid ((P6.out.call b7).al (.cells #[.string s, .int .i64 a7, .int .i64 e7] 79))
  have HL7 := hid (P6.out.call b7).bx.lt
  have HP7 := hid (HO7.out.next ((Below.refl v7.heap.size v7).alloc (Nat.le_refl _) (.cells #[.string s, .int .i64 a7, .int .i64 e7] 79)))
  clear HO7
  generalize hl7 : x7.length = ln7 at *
  clear b7 R7 P6
  have c0 := P7.out.rd.cellAt (o := 0) rfl
  have f0 : (v7.alloc (.cells #[.string s, .int .i64 a7, .int .i64 e7] 79)).frozen? ⟨g, 0, none⟩ = false := P7.out.rd.frozen
  have c1 := P7.out.rd.cellAt (o := 1) rfl
  have f1 : (v7.alloc (.cells #[.string s, .int .i64 a7, .int .i64 e7] 79)).frozen? ⟨g, 1, none⟩ = false := P7.out.rd.frozen
  have c2 := P7.out.rd.cellAt (o := 2) rfl
  have f2 : (v7.alloc (.cells #[.string s, .int .i64 a7, .int .i64 e7] 79)).frozen? ⟨g, 2, none⟩ = false := P7.out.rd.frozen
  have z6 := P7.out.bx.cellAt (o := 6) rfl
  have y6 : (v7.alloc (.cells #[.string s, .int .i64 a7, .int .i64 e7] 79)).frozen? ⟨g + 1, 6, none⟩ = false := P7.out.bx.frozen
  have z7 := P7.out.bx.cellAt (o := 7) rfl
  have y7 : (v7.alloc (.cells #[.string s, .int .i64 a7, .int .i64 e7] 79)).frozen? ⟨g + 1, 7, none⟩ = false := P7.out.bx.frozen
  have n1 : v7.heap.size ≠ g := by have h9 := HL7.out; omega
  have n2 : g ≠ v7.heap.size := fun h => n1 h.symm
  have n3 : v7.heap.size ≠ g + 1 := by have h9 := HL7.out; omega
  have n4 : g + 1 ≠ v7.heap.size := fun h => n3 h.symm
  go_upto_region 27 with fail
  have S7 := hid ((((P7.out).fld 6 (.string x6) (.slice none 0 0) (.slice none 0 0) ⟨3, x1, x2, x3, 0, 0, x6, [], []⟩ rfl P7.out.op P7.out.ok).fld 7 (.slice ad7 ln7 cap7) (.slice ad7 ln7 cap7) (.slice none 0 0) ⟨3, x1, x2, x3, 0, 0, x6, x7, []⟩ rfl (ownP_set (HP7.out) (by omega)) (ownK_set (P7.out.ok) (by omega))).put a7 e7)
  clear P7 c0 c1 c2 f0 f1 f2 z6 y6 z7 y7 n1 n2 n3 n4 HP7
  clear HL7
  generalize ((((((v7.alloc (.cells #[.string s, .int .i64 a7, .int .i64 e7] 79)).setCell ⟨g + 1, 6, none⟩ (.string x6)).setCell ⟨g + 1, 7, none⟩ (.slice ad7 ln7 cap7)).setCell ⟨g, 0, none⟩ (.string s)).setCell ⟨g, 1, none⟩ (.int .i64 a7)).setCell ⟨g, 2, none⟩ (.int .i64 e7)) = V7 at *
  have c0 := S7.out.rd.cellAt (o := 0) rfl
  have c1 := S7.out.rd.cellAt (o := 1) rfl
  have c2 := S7.out.rd.cellAt (o := 2) rfl
  go_wp2_with fail
  refine (RE.out _).mono ?_
  rintro e9' v9 ⟨rfl, b9⟩
  have S9 := hid (S7.out.call b9)
  clear RE b9 S7 c0 c1 c2
  have hfd : ∀ W : World, (Instr.field 79 (.agg #[.string s, .int .i64 a7, .int .i64 en]) 2).run Tryz.prog W = .ok (.int .i64 en) W := fun _ => by kernel_rfl
  by_cases hen : en = 0
  · subst hen
    have HNE : w.heap.size ≠ g + 1 := by have := S9.out.lo; omega
    have HNE2 : g + 1 ≠ w.heap.size := fun h => HNE h.symm
    have CK9 := hid (CK.out _ _ _ S9.out.op.pcs S9.out.ok.pks)
    clear CK
    cases ok
    · obtain rfl : OK = false := HOK.out
      obtain ⟨rfl, rfl⟩ := HD.out
      clear HOK HD
      have c0 := S9.out.bx.cellAt (o := 0) rfl
      have c1 := S9.out.bx.cellAt (o := 1) rfl
      have c2 := S9.out.bx.cellAt (o := 2) rfl
      have c3 := S9.out.bx.cellAt (o := 3) rfl
      have c4 := S9.out.bx.cellAt (o := 4) rfl
      have c5 := S9.out.bx.cellAt (o := 5) rfl
      have c6 := S9.out.bx.cellAt (o := 6) rfl
      have c7 := S9.out.bx.cellAt (o := 7) rfl
      have c8 := S9.out.bx.cellAt (o := 8) rfl
      go_wp2_with fail
      refine CK9.out.mono ?_
      rintro e10 w10 ⟨rfl, b10⟩
      have S10 := hid (S9.out.call b10)
      clear CK9 b10 S9 c0 c1 c2 c3 c4 c5 c6 c7 c8
      have d0 := S10.out.rs.cellAt (o := 0) rfl
      have f0 : w10.frozen? ⟨w.heap.size, 0, none⟩ = false := S10.out.rs.frozen
      have d1 := S10.out.rs.cellAt (o := 1) rfl
      have f1 : w10.frozen? ⟨w.heap.size, 1, none⟩ = false := S10.out.rs.frozen
      have d2 := S10.out.rs.cellAt (o := 2) rfl
      have f2 : w10.frozen? ⟨w.heap.size, 2, none⟩ = false := S10.out.rs.frozen
      have d3 := S10.out.rs.cellAt (o := 3) rfl
      have f3 : w10.frozen? ⟨w.heap.size, 3, none⟩ = false := S10.out.rs.frozen
      have d4 := S10.out.rs.cellAt (o := 4) rfl
      have f4 : w10.frozen? ⟨w.heap.size, 4, none⟩ = false := S10.out.rs.frozen
      have d5 := S10.out.rs.cellAt (o := 5) rfl
      have f5 : w10.frozen? ⟨w.heap.size, 5, none⟩ = false := S10.out.rs.frozen
      have d6 := S10.out.rs.cellAt (o := 6) rfl
      have f6 : w10.frozen? ⟨w.heap.size, 6, none⟩ = false := S10.out.rs.frozen
      have d7 := S10.out.rs.cellAt (o := 7) rfl
      have f7 : w10.frozen? ⟨w.heap.size, 7, none⟩ = false := S10.out.rs.frozen
      have d8 := S10.out.rs.cellAt (o := 8) rfl
      have f8 : w10.frozen? ⟨w.heap.size, 8, none⟩ = false := S10.out.rs.frozen
      have FB := hid S10.out.bad
      clear S10
      go_wp2
      exact bodyPost_ret (ret_ct16 (p := 2) (u := 3) rfl _ _ w.heap.size #[.int .i64 0, .string ⟨#[]⟩, .string ⟨#[]⟩, .string ⟨#[]⟩, .int .i64 0, .int .i64 0, .string ⟨#[]⟩, .slice none 0 0, .slice none 0 0] (.int .i64 3) rfl rfl (run_loadVar_row _ _ _ _ _ _ _ FB.out.1 Tryz.underlying34 rfl (by kernel_rfl))) rfl ⟨_, _, rfl, ownP_nil _ _ _, ownK_nil _ _ _, FB.out.2⟩
    · obtain rfl : OK = true := HOK.out
      obtain ⟨rfl, rfl⟩ := HD.out
      clear HOK HD
      have c0 := S9.out.bx.cellAt (o := 0) rfl
      have c1 := S9.out.bx.cellAt (o := 1) rfl
      have c2 := S9.out.bx.cellAt (o := 2) rfl
      have c3 := S9.out.bx.cellAt (o := 3) rfl
      have c4 := S9.out.bx.cellAt (o := 4) rfl
      have c5 := S9.out.bx.cellAt (o := 5) rfl
      have c6 := S9.out.bx.cellAt (o := 6) rfl
      have c7 := S9.out.bx.cellAt (o := 7) rfl
      have c8 := S9.out.bx.cellAt (o := 8) rfl
      go_wp2_with fail
      refine CK9.out.mono ?_
      rintro e10 w10 ⟨rfl, b10⟩
      have S10 := hid (S9.out.call b10)
      clear CK9 b10 S9 c0 c1 c2 c3 c4 c5 c6 c7 c8
      have c0 := S10.out.bx.cellAt (o := 0) rfl
      have c1 := S10.out.bx.cellAt (o := 1) rfl
      have c2 := S10.out.bx.cellAt (o := 2) rfl
      have c3 := S10.out.bx.cellAt (o := 3) rfl
      have c4 := S10.out.bx.cellAt (o := 4) rfl
      have c5 := S10.out.bx.cellAt (o := 5) rfl
      have c6 := S10.out.bx.cellAt (o := 6) rfl
      have c7 := S10.out.bx.cellAt (o := 7) rfl
      have c8 := S10.out.bx.cellAt (o := 8) rfl
      have d0 := S10.out.rs.cellAt (o := 0) rfl
      have f0 : w10.frozen? ⟨w.heap.size, 0, none⟩ = false := S10.out.rs.frozen
      have d1 := S10.out.rs.cellAt (o := 1) rfl
      have f1 : w10.frozen? ⟨w.heap.size, 1, none⟩ = false := S10.out.rs.frozen
      have d2 := S10.out.rs.cellAt (o := 2) rfl
      have f2 : w10.frozen? ⟨w.heap.size, 2, none⟩ = false := S10.out.rs.frozen
      have d3 := S10.out.rs.cellAt (o := 3) rfl
      have f3 : w10.frozen? ⟨w.heap.size, 3, none⟩ = false := S10.out.rs.frozen
      have d4 := S10.out.rs.cellAt (o := 4) rfl
      have f4 : w10.frozen? ⟨w.heap.size, 4, none⟩ = false := S10.out.rs.frozen
      have d5 := S10.out.rs.cellAt (o := 5) rfl
      have f5 : w10.frozen? ⟨w.heap.size, 5, none⟩ = false := S10.out.rs.frozen
      have d6 := S10.out.rs.cellAt (o := 6) rfl
      have f6 : w10.frozen? ⟨w.heap.size, 6, none⟩ = false := S10.out.rs.frozen
      have d7 := S10.out.rs.cellAt (o := 7) rfl
      have f7 : w10.frozen? ⟨w.heap.size, 7, none⟩ = false := S10.out.rs.frozen
      have d8 := S10.out.rs.cellAt (o := 8) rfl
      have f8 : w10.frozen? ⟨w.heap.size, 8, none⟩ = false := S10.out.rs.frozen
      have FB := hid S10.out.fin
      simp only [cmL] at FB
      clear S10
      go_wp2
      exact bodyPost_ret (ret_ct16 (p := 2) (u := 3) rfl _ _ w.heap.size #[.int .i64 3, .string x1, .string x2, .string x3, .int .i64 0, .int .i64 0, .string x6, .slice ad7 ln7 cap7, .slice none 0 0] (.int .i64 0) rfl rfl (run_loadVar_row _ _ _ _ _ _ _ FB.out.1 Tryz.underlying34 rfl (by kernel_rfl))) rfl ⟨_, _, rfl, FB.out.2⟩
  · have hq : (en == 0) = false := beq_eq_false_iff_ne.2 hen
    have hq2 : (en != 0) = true := by simp [hen]
    obtain rfl : OK = false := by have := HOK.out; rw [hq] at this; exact this
    obtain ⟨rfl, rfl⟩ := HD.out
    clear hen HOK HD CK
    have d0 := S9.out.rs.cellAt (o := 0) rfl
    have f0 : v9.frozen? ⟨w.heap.size, 0, none⟩ = false := S9.out.rs.frozen
    have d1 := S9.out.rs.cellAt (o := 1) rfl
    have f1 : v9.frozen? ⟨w.heap.size, 1, none⟩ = false := S9.out.rs.frozen
    have d2 := S9.out.rs.cellAt (o := 2) rfl
    have f2 : v9.frozen? ⟨w.heap.size, 2, none⟩ = false := S9.out.rs.frozen
    have d3 := S9.out.rs.cellAt (o := 3) rfl
    have f3 : v9.frozen? ⟨w.heap.size, 3, none⟩ = false := S9.out.rs.frozen
    have d4 := S9.out.rs.cellAt (o := 4) rfl
    have f4 : v9.frozen? ⟨w.heap.size, 4, none⟩ = false := S9.out.rs.frozen
    have d5 := S9.out.rs.cellAt (o := 5) rfl
    have f5 : v9.frozen? ⟨w.heap.size, 5, none⟩ = false := S9.out.rs.frozen
    have d6 := S9.out.rs.cellAt (o := 6) rfl
    have f6 : v9.frozen? ⟨w.heap.size, 6, none⟩ = false := S9.out.rs.frozen
    have d7 := S9.out.rs.cellAt (o := 7) rfl
    have f7 : v9.frozen? ⟨w.heap.size, 7, none⟩ = false := S9.out.rs.frozen
    have d8 := S9.out.rs.cellAt (o := 8) rfl
    have f8 : v9.frozen? ⟨w.heap.size, 8, none⟩ = false := S9.out.rs.frozen
    have FB := hid S9.out.bad
    clear S9
    go_wp2
    exact bodyPost_ret (ret_ct16 (p := 2) (u := 3) rfl _ _ w.heap.size #[.int .i64 0, .string ⟨#[]⟩, .string ⟨#[]⟩, .string ⟨#[]⟩, .int .i64 0, .int .i64 0, .string ⟨#[]⟩, .slice none 0 0, .slice none 0 0] (.int .i64 3) rfl rfl (run_loadVar_row _ _ _ _ _ _ _ FB.out.1 Tryz.underlying34 rfl (by kernel_rfl))) rfl ⟨_, _, rfl, ownP_nil _ _ _, ownK_nil _ _ _, FB.out.2⟩
end Go.Proofs.YtmadlnchmkhdjaaGreat
namespace Go.Proofs.YtmadlnchmkhdjaaGreat
open Go.RowKit Go.Maps
set_option linter.unusedVariables false
set_option linter.unusedSimpArgs false

set_option maxRecDepth 100000 in
set_option maxHeartbeats 8000000 in
theorem rdec_4 (s : ByteArray) (w : World) (hs : s.size ≤ 140737488355328) (da de : Int) (hN : dcN s 10 0 0 = ⟨da, de, 4⟩) : Calls Tryz.prog 16 #[.string s] w (GiveQc w s) := by
  have hsm : s.size ≤ maxLen := by unfold maxLen; omega
  have HQ : rdQ s = ⟨(tS s ((tS s ((tS s (da) (de) 64).a) ((tS s (da) (de) 64).e) 63).a) ((tS s ((tS s (da) (de) 64).a) ((tS s (da) (de) 64).e) 63).e) 1024).a, (tS s ((tS s ((tS s (da) (de) 64).a) ((tS s (da) (de) 64).e) 63).a) ((tS s ((tS s (da) (de) 64).a) ((tS s (da) (de) 64).e) 63).e) 1024).e, ⟨4, (tS s (da) (de) 64).x, (tS s ((tS s (da) (de) 64).a) ((tS s (da) (de) 64).e) 63).x, (tS s ((tS s ((tS s (da) (de) 64).a) ((tS s (da) (de) 64).e) 63).a) ((tS s ((tS s (da) (de) 64).a) ((tS s (da) (de) 64).e) 63).e) 1024).x, 0, 0, ⟨#[]⟩, [], []⟩⟩ := by
    have hh : flN ((dcN s 10 0 0).n : Int) = 7 := by rw [hN]; exact (show flN 4 = 7 from by decide)
    unfold rdQ
    simp only [hh]
    simp only [q1, q2, s3, s4, s5, s6, s7, s8, r0, hN, show hasF 7 1 = true from by decide, show hasF 7 2 = true from by decide, show hasF 7 4 = true from by decide, show hasF 7 8 = false from by decide, show hasF 7 16 = false from by decide, show hasF 7 32 = false from by decide, show hasF 7 64 = false from by decide, show hasF 7 128 = false from by decide, if_true, Bool.false_eq_true, if_false]
    try rfl
  have HSM := rdQ_sm s
  have RN : Hid (∀ W, Calls Tryz.prog 44 #[.agg #[.string s, .int .i64 0, .int .i64 0], .int .i64 10] W fun r w' => r = .returned (.tuple #[.agg #[.string s, .int .i64 da, .int .i64 de], .int .i64 4]) ∧ Below W.heap.size W w') := fun W => by
    have := ref_reader_int s 0 0 10 W hsm (by omega) (nS_int s 0 0 10 (by omega))
    rw [show nS s 0 0 (fitI 10 (rdAt s 0).n) 2 = ⟨da, de, 4⟩ from hN] at this
    exact this
  have R1 : Hid (∀ W, Calls Tryz.prog 45 #[.agg #[.string s, .int .i64 (da), .int .i64 (de)], .int .i64 64] W fun r w' => r = .returned (.tuple #[.agg #[.string s, .int .i64 (tS s (da) (de) 64).a, .int .i64 (tS s (da) (de) 64).e], .string (tS s (da) (de) 64).x]) ∧ Below W.heap.size W w') := fun W => ref_reader_text s _ _ 64 W hs
  have R2 : Hid (∀ W, Calls Tryz.prog 45 #[.agg #[.string s, .int .i64 ((tS s (da) (de) 64).a), .int .i64 ((tS s (da) (de) 64).e)], .int .i64 63] W fun r w' => r = .returned (.tuple #[.agg #[.string s, .int .i64 (tS s ((tS s (da) (de) 64).a) ((tS s (da) (de) 64).e) 63).a, .int .i64 (tS s ((tS s (da) (de) 64).a) ((tS s (da) (de) 64).e) 63).e], .string (tS s ((tS s (da) (de) 64).a) ((tS s (da) (de) 64).e) 63).x]) ∧ Below W.heap.size W w') := fun W => ref_reader_text s _ _ 63 W hs
  have R3 : Hid (∀ W, Calls Tryz.prog 45 #[.agg #[.string s, .int .i64 ((tS s ((tS s (da) (de) 64).a) ((tS s (da) (de) 64).e) 63).a), .int .i64 ((tS s ((tS s (da) (de) 64).a) ((tS s (da) (de) 64).e) 63).e)], .int .i64 1024] W fun r w' => r = .returned (.tuple #[.agg #[.string s, .int .i64 (tS s ((tS s ((tS s (da) (de) 64).a) ((tS s (da) (de) 64).e) 63).a) ((tS s ((tS s (da) (de) 64).a) ((tS s (da) (de) 64).e) 63).e) 1024).a, .int .i64 (tS s ((tS s ((tS s (da) (de) 64).a) ((tS s (da) (de) 64).e) 63).a) ((tS s ((tS s (da) (de) 64).a) ((tS s (da) (de) 64).e) 63).e) 1024).e], .string (tS s ((tS s ((tS s (da) (de) 64).a) ((tS s (da) (de) 64).e) 63).a) ((tS s ((tS s (da) (de) 64).a) ((tS s (da) (de) 64).e) 63).e) 1024).x]) ∧ Below W.heap.size W w') := fun W => ref_reader_text s _ _ 1024 W hs
  clear hs hsm hN
  generalize tS s da de 64 = Y1 at *
  obtain ⟨a1, e1, x1⟩ := Y1
  simp only at *
  generalize tS s a1 e1 63 = Y2 at *
  obtain ⟨a2, e2, x2⟩ := Y2
  simp only at *
  generalize tS s a2 e2 1024 = Y3 at *
  obtain ⟨a3, e3, x3⟩ := Y3
  simp only at *
  have HOK : Hid (qcOk s = ((endE s a3 e3 == 0) && cmOk (⟨4, x1, x2, x3, 0, 0, ⟨#[]⟩, [], []⟩ : Cm))) := by show _ = _; unfold qcOk; rw [HQ]
  have HD : Hid (qcC s = (if qcOk s = true then (⟨4, x1, x2, x3, 0, 0, ⟨#[]⟩, [], []⟩ : Cm) else cm0) ∧ qcE s = (if qcOk s = true then 0 else 3)) := by refine ⟨?_, rfl⟩; unfold qcC; rw [HQ]
  rw [HQ] at HSM
  have CK : Hid (∀ pv kv W, PcI W pv (⟨4, x1, x2, x3, 0, 0, ⟨#[]⟩, [], []⟩ : Cm).ps → PkI W kv (⟨4, x1, x2, x3, 0, 0, ⟨#[]⟩, [], []⟩ : Cm).ks → Calls Tryz.prog 14 #[cmV pv kv (⟨4, x1, x2, x3, 0, 0, ⟨#[]⟩, [], []⟩ : Cm)] W fun e w' => e = .returned (.int .i64 (ckN (⟨4, x1, x2, x3, 0, 0, ⟨#[]⟩, [], []⟩ : Cm))) ∧ Below W.heap.size W w') := fun pv kv W h1 h2 => rcheck16_any pv kv _ W h1 h2 HSM.sz
  have RE := hid (fun W => ref_reader_end s a3 e3 W)
  clear HQ HSM
  unfold GiveQc
  unfold ckN cmV at CK
  generalize qcC s = DC at *
  generalize qcE s = DE at *
  generalize qcOk s = OK at *
  generalize cmOk (⟨4, x1, x2, x3, 0, 0, ⟨#[]⟩, [], []⟩ : Cm) = ok at *
  generalize endE s a3 e3 = en at *
  simp only at CK
  have HK1 : Hid (∀ W, Calls Tryz.prog 35 #[.int .i64 4] W fun e w' => e = .returned (.bool true) ∧ w' = W) := fun W => hasKey_any 4 W
  have HI1 : Hid (∀ W, Calls Tryz.prog 37 #[.int .i64 4] W fun e w' => e = .returned (.bool false) ∧ w' = W) := fun W => hasID_any 4 W
  have HS1 : Hid (∀ W, Calls Tryz.prog 39 #[.int .i64 4] W fun e w' => e = .returned (.bool false) ∧ w' = W) := fun W => hasSum_any 4 W
  go_enter Tryz.func16, Tryz.ntmps16
  go_wp2_with fail
  refine (RN.out _).mono ?_
  rintro e0 w1 ⟨rfl, b1⟩
  have S0 := hid (rcs_new (s := s) (a := da) (e := de) (k := 4) b1)
  clear RN b1
  go_upto_region 3 with fail
  generalize ((w1.alloc (.cells #[.string s, .int .i64 da, .int .i64 de] 79)).alloc (.cells #[.int .i64 4, .string ⟨#[]⟩, .string ⟨#[]⟩, .string ⟨#[]⟩, .int .i64 0, .int .i64 0, .string ⟨#[]⟩, .slice none 0 0, .slice none 0 0] 34)) = V0 at *
  generalize w1.heap.size = g at *
  have c0 := S0.out.rd.cellAt (o := 0) rfl
  have c1 := S0.out.rd.cellAt (o := 1) rfl
  have c2 := S0.out.rd.cellAt (o := 2) rfl
  go_wp2_with fail
  refine (R1.out _).mono ?_
  rintro e1' v1 ⟨rfl, b1⟩
  have P1 := hid ((S0.out.call b1).al (.cells #[.string s, .int .i64 a1, .int .i64 e1] 79))
  clear b1 R1 S0 c0 c1 c2
  go_wp2_with fail
  refine (R2.out _).mono ?_
  rintro e2' v2 ⟨rfl, b2⟩
  have P2 := hid ((P1.out.call b2).al (.cells #[.string s, .int .i64 a2, .int .i64 e2] 79))
  have HL2 := hid (P1.out.call b2).bx.lt
  clear b2 R2 P1
  have c0 := P2.out.rd.cellAt (o := 0) rfl
  have f0 : (v2.alloc (.cells #[.string s, .int .i64 a2, .int .i64 e2] 79)).frozen? ⟨g, 0, none⟩ = false := P2.out.rd.frozen
  have c1 := P2.out.rd.cellAt (o := 1) rfl
  have f1 : (v2.alloc (.cells #[.string s, .int .i64 a2, .int .i64 e2] 79)).frozen? ⟨g, 1, none⟩ = false := P2.out.rd.frozen
  have c2 := P2.out.rd.cellAt (o := 2) rfl
  have f2 : (v2.alloc (.cells #[.string s, .int .i64 a2, .int .i64 e2] 79)).frozen? ⟨g, 2, none⟩ = false := P2.out.rd.frozen
  have z1 := P2.out.bx.cellAt (o := 1) rfl
  have y1 : (v2.alloc (.cells #[.string s, .int .i64 a2, .int .i64 e2] 79)).frozen? ⟨g + 1, 1, none⟩ = false := P2.out.bx.frozen
  have z2 := P2.out.bx.cellAt (o := 2) rfl
  have y2 : (v2.alloc (.cells #[.string s, .int .i64 a2, .int .i64 e2] 79)).frozen? ⟨g + 1, 2, none⟩ = false := P2.out.bx.frozen
  have n1 : v2.heap.size ≠ g := by have h9 := HL2.out; omega
  have n2 : g ≠ v2.heap.size := fun h => n1 h.symm
  have n3 : v2.heap.size ≠ g + 1 := by have h9 := HL2.out; omega
  have n4 : g + 1 ≠ v2.heap.size := fun h => n3 h.symm
  go_upto_region 9 with fail
  have S2 := hid ((((P2.out).fld 1 (.string x1) (.slice none 0 0) (.slice none 0 0) ⟨4, x1, ⟨#[]⟩, ⟨#[]⟩, 0, 0, ⟨#[]⟩, [], []⟩ rfl P2.out.op P2.out.ok).fld 2 (.string x2) (.slice none 0 0) (.slice none 0 0) ⟨4, x1, x2, ⟨#[]⟩, 0, 0, ⟨#[]⟩, [], []⟩ rfl (ownP_set (P2.out.op) (by omega)) (ownK_set (P2.out.ok) (by omega))).put a2 e2)
  clear P2 c0 c1 c2 f0 f1 f2 z1 y1 z2 y2 n1 n2 n3 n4 
  clear HL2
  generalize ((((((v2.alloc (.cells #[.string s, .int .i64 a2, .int .i64 e2] 79)).setCell ⟨g + 1, 1, none⟩ (.string x1)).setCell ⟨g + 1, 2, none⟩ (.string x2)).setCell ⟨g, 0, none⟩ (.string s)).setCell ⟨g, 1, none⟩ (.int .i64 a2)).setCell ⟨g, 2, none⟩ (.int .i64 e2)) = V2 at *
  go_wp2_with fail
  refine (HK1.out _).mono ?_
  rintro et1 vt1 ⟨rfl, rfl⟩
  clear HK1
  have c0 := S2.out.rd.cellAt (o := 0) rfl
  have c1 := S2.out.rd.cellAt (o := 1) rfl
  have c2 := S2.out.rd.cellAt (o := 2) rfl
  go_wp2_with fail
  refine (R3.out _).mono ?_
  rintro e3' v3 ⟨rfl, b3⟩
  have P3 := hid ((S2.out.call b3).al (.cells #[.string s, .int .i64 a3, .int .i64 e3] 79))
  have HL3 := hid (S2.out.call b3).bx.lt
  clear b3 R3 S2 c0 c1 c2
  have c0 := P3.out.rd.cellAt (o := 0) rfl
  have f0 : (v3.alloc (.cells #[.string s, .int .i64 a3, .int .i64 e3] 79)).frozen? ⟨g, 0, none⟩ = false := P3.out.rd.frozen
  have c1 := P3.out.rd.cellAt (o := 1) rfl
  have f1 : (v3.alloc (.cells #[.string s, .int .i64 a3, .int .i64 e3] 79)).frozen? ⟨g, 1, none⟩ = false := P3.out.rd.frozen
  have c2 := P3.out.rd.cellAt (o := 2) rfl
  have f2 : (v3.alloc (.cells #[.string s, .int .i64 a3, .int .i64 e3] 79)).frozen? ⟨g, 2, none⟩ = false := P3.out.rd.frozen
  have z3 := P3.out.bx.cellAt (o := 3) rfl
  have y3 : (v3.alloc (.cells #[.string s, .int .i64 a3, .int .i64 e3] 79)).frozen? ⟨g + 1, 3, none⟩ = false := P3.out.bx.frozen
  have n1 : v3.heap.size ≠ g := by have h9 := HL3.out; omega
  have n2 : g ≠ v3.heap.size := fun h => n1 h.symm
  have n3 : v3.heap.size ≠ g + 1 := by have h9 := HL3.out; omega
  have n4 : g + 1 ≠ v3.heap.size := fun h => n3 h.symm
  go_upto_region 13 with fail
  have S3 := hid (((P3.out).fld 3 (.string x3) (.slice none 0 0) (.slice none 0 0) ⟨4, x1, x2, x3, 0, 0, ⟨#[]⟩, [], []⟩ rfl P3.out.op P3.out.ok).put a3 e3)
  clear P3 c0 c1 c2 f0 f1 f2 z3 y3 n1 n2 n3 n4 
  clear HL3
  generalize (((((v3.alloc (.cells #[.string s, .int .i64 a3, .int .i64 e3] 79)).setCell ⟨g + 1, 3, none⟩ (.string x3)).setCell ⟨g, 0, none⟩ (.string s)).setCell ⟨g, 1, none⟩ (.int .i64 a3)).setCell ⟨g, 2, none⟩ (.int .i64 e3)) = V3 at *
  go_wp2_with fail
  refine (HI1.out _).mono ?_
  rintro et2 vt2 ⟨rfl, rfl⟩
  clear HI1
  go_wp2_with fail
  refine (HS1.out _).mono ?_
  rintro et3 vt3 ⟨rfl, rfl⟩
  clear HS1
  have c0 := S3.out.rd.cellAt (o := 0) rfl
  have c1 := S3.out.rd.cellAt (o := 1) rfl
  have c2 := S3.out.rd.cellAt (o := 2) rfl
  go_wp2_with fail
  refine (RE.out _).mono ?_
  rintro e9' v9 ⟨rfl, b9⟩
  have S9 := hid (S3.out.call b9)
  clear RE b9 S3 c0 c1 c2
  have hfd : ∀ W : World, (Instr.field 79 (.agg #[.string s, .int .i64 a3, .int .i64 en]) 2).run Tryz.prog W = .ok (.int .i64 en) W := fun _ => by kernel_rfl
  by_cases hen : en = 0
  · subst hen
    have HNE : w.heap.size ≠ g + 1 := by have := S9.out.lo; omega
    have HNE2 : g + 1 ≠ w.heap.size := fun h => HNE h.symm
    have CK9 := hid (CK.out _ _ _ S9.out.op.pcs S9.out.ok.pks)
    clear CK
    cases ok
    · obtain rfl : OK = false := HOK.out
      obtain ⟨rfl, rfl⟩ := HD.out
      clear HOK HD
      have c0 := S9.out.bx.cellAt (o := 0) rfl
      have c1 := S9.out.bx.cellAt (o := 1) rfl
      have c2 := S9.out.bx.cellAt (o := 2) rfl
      have c3 := S9.out.bx.cellAt (o := 3) rfl
      have c4 := S9.out.bx.cellAt (o := 4) rfl
      have c5 := S9.out.bx.cellAt (o := 5) rfl
      have c6 := S9.out.bx.cellAt (o := 6) rfl
      have c7 := S9.out.bx.cellAt (o := 7) rfl
      have c8 := S9.out.bx.cellAt (o := 8) rfl
      go_wp2_with fail
      refine CK9.out.mono ?_
      rintro e10 w10 ⟨rfl, b10⟩
      have S10 := hid (S9.out.call b10)
      clear CK9 b10 S9 c0 c1 c2 c3 c4 c5 c6 c7 c8
      have d0 := S10.out.rs.cellAt (o := 0) rfl
      have f0 : w10.frozen? ⟨w.heap.size, 0, none⟩ = false := S10.out.rs.frozen
      have d1 := S10.out.rs.cellAt (o := 1) rfl
      have f1 : w10.frozen? ⟨w.heap.size, 1, none⟩ = false := S10.out.rs.frozen
      have d2 := S10.out.rs.cellAt (o := 2) rfl
      have f2 : w10.frozen? ⟨w.heap.size, 2, none⟩ = false := S10.out.rs.frozen
      have d3 := S10.out.rs.cellAt (o := 3) rfl
      have f3 : w10.frozen? ⟨w.heap.size, 3, none⟩ = false := S10.out.rs.frozen
      have d4 := S10.out.rs.cellAt (o := 4) rfl
      have f4 : w10.frozen? ⟨w.heap.size, 4, none⟩ = false := S10.out.rs.frozen
      have d5 := S10.out.rs.cellAt (o := 5) rfl
      have f5 : w10.frozen? ⟨w.heap.size, 5, none⟩ = false := S10.out.rs.frozen
      have d6 := S10.out.rs.cellAt (o := 6) rfl
      have f6 : w10.frozen? ⟨w.heap.size, 6, none⟩ = false := S10.out.rs.frozen
      have d7 := S10.out.rs.cellAt (o := 7) rfl
      have f7 : w10.frozen? ⟨w.heap.size, 7, none⟩ = false := S10.out.rs.frozen
      have d8 := S10.out.rs.cellAt (o := 8) rfl
      have f8 : w10.frozen? ⟨w.heap.size, 8, none⟩ = false := S10.out.rs.frozen
      have FB := hid S10.out.bad
      clear S10
      go_wp2
      exact bodyPost_ret (ret_ct16 (p := 2) (u := 3) rfl _ _ w.heap.size #[.int .i64 0, .string ⟨#[]⟩, .string ⟨#[]⟩, .string ⟨#[]⟩, .int .i64 0, .int .i64 0, .string ⟨#[]⟩, .slice none 0 0, .slice none 0 0] (.int .i64 3) rfl rfl (run_loadVar_row _ _ _ _ _ _ _ FB.out.1 Tryz.underlying34 rfl (by kernel_rfl))) rfl ⟨_, _, rfl, ownP_nil _ _ _, ownK_nil _ _ _, FB.out.2⟩
    · obtain rfl : OK = true := HOK.out
      obtain ⟨rfl, rfl⟩ := HD.out
      clear HOK HD
      have c0 := S9.out.bx.cellAt (o := 0) rfl
      have c1 := S9.out.bx.cellAt (o := 1) rfl
      have c2 := S9.out.bx.cellAt (o := 2) rfl
      have c3 := S9.out.bx.cellAt (o := 3) rfl
      have c4 := S9.out.bx.cellAt (o := 4) rfl
      have c5 := S9.out.bx.cellAt (o := 5) rfl
      have c6 := S9.out.bx.cellAt (o := 6) rfl
      have c7 := S9.out.bx.cellAt (o := 7) rfl
      have c8 := S9.out.bx.cellAt (o := 8) rfl
      go_wp2_with fail
      refine CK9.out.mono ?_
      rintro e10 w10 ⟨rfl, b10⟩
      have S10 := hid (S9.out.call b10)
      clear CK9 b10 S9 c0 c1 c2 c3 c4 c5 c6 c7 c8
      have c0 := S10.out.bx.cellAt (o := 0) rfl
      have c1 := S10.out.bx.cellAt (o := 1) rfl
      have c2 := S10.out.bx.cellAt (o := 2) rfl
      have c3 := S10.out.bx.cellAt (o := 3) rfl
      have c4 := S10.out.bx.cellAt (o := 4) rfl
      have c5 := S10.out.bx.cellAt (o := 5) rfl
      have c6 := S10.out.bx.cellAt (o := 6) rfl
      have c7 := S10.out.bx.cellAt (o := 7) rfl
      have c8 := S10.out.bx.cellAt (o := 8) rfl
      have d0 := S10.out.rs.cellAt (o := 0) rfl
      have f0 : w10.frozen? ⟨w.heap.size, 0, none⟩ = false := S10.out.rs.frozen
      have d1 := S10.out.rs.cellAt (o := 1) rfl
      have f1 : w10.frozen? ⟨w.heap.size, 1, none⟩ = false := S10.out.rs.frozen
      have d2 := S10.out.rs.cellAt (o := 2) rfl
      have f2 : w10.frozen? ⟨w.heap.size, 2, none⟩ = false := S10.out.rs.frozen
      have d3 := S10.out.rs.cellAt (o := 3) rfl
      have f3 : w10.frozen? ⟨w.heap.size, 3, none⟩ = false := S10.out.rs.frozen
      have d4 := S10.out.rs.cellAt (o := 4) rfl
      have f4 : w10.frozen? ⟨w.heap.size, 4, none⟩ = false := S10.out.rs.frozen
      have d5 := S10.out.rs.cellAt (o := 5) rfl
      have f5 : w10.frozen? ⟨w.heap.size, 5, none⟩ = false := S10.out.rs.frozen
      have d6 := S10.out.rs.cellAt (o := 6) rfl
      have f6 : w10.frozen? ⟨w.heap.size, 6, none⟩ = false := S10.out.rs.frozen
      have d7 := S10.out.rs.cellAt (o := 7) rfl
      have f7 : w10.frozen? ⟨w.heap.size, 7, none⟩ = false := S10.out.rs.frozen
      have d8 := S10.out.rs.cellAt (o := 8) rfl
      have f8 : w10.frozen? ⟨w.heap.size, 8, none⟩ = false := S10.out.rs.frozen
      have FB := hid S10.out.fin
      simp only [cmL] at FB
      clear S10
      go_wp2
      exact bodyPost_ret (ret_ct16 (p := 2) (u := 3) rfl _ _ w.heap.size #[.int .i64 4, .string x1, .string x2, .string x3, .int .i64 0, .int .i64 0, .string ⟨#[]⟩, .slice none 0 0, .slice none 0 0] (.int .i64 0) rfl rfl (run_loadVar_row _ _ _ _ _ _ _ FB.out.1 Tryz.underlying34 rfl (by kernel_rfl))) rfl ⟨_, _, rfl, FB.out.2⟩
  · have hq : (en == 0) = false := beq_eq_false_iff_ne.2 hen
    have hq2 : (en != 0) = true := by simp [hen]
    obtain rfl : OK = false := by have := HOK.out; rw [hq] at this; exact this
    obtain ⟨rfl, rfl⟩ := HD.out
    clear hen HOK HD CK
    have d0 := S9.out.rs.cellAt (o := 0) rfl
    have f0 : v9.frozen? ⟨w.heap.size, 0, none⟩ = false := S9.out.rs.frozen
    have d1 := S9.out.rs.cellAt (o := 1) rfl
    have f1 : v9.frozen? ⟨w.heap.size, 1, none⟩ = false := S9.out.rs.frozen
    have d2 := S9.out.rs.cellAt (o := 2) rfl
    have f2 : v9.frozen? ⟨w.heap.size, 2, none⟩ = false := S9.out.rs.frozen
    have d3 := S9.out.rs.cellAt (o := 3) rfl
    have f3 : v9.frozen? ⟨w.heap.size, 3, none⟩ = false := S9.out.rs.frozen
    have d4 := S9.out.rs.cellAt (o := 4) rfl
    have f4 : v9.frozen? ⟨w.heap.size, 4, none⟩ = false := S9.out.rs.frozen
    have d5 := S9.out.rs.cellAt (o := 5) rfl
    have f5 : v9.frozen? ⟨w.heap.size, 5, none⟩ = false := S9.out.rs.frozen
    have d6 := S9.out.rs.cellAt (o := 6) rfl
    have f6 : v9.frozen? ⟨w.heap.size, 6, none⟩ = false := S9.out.rs.frozen
    have d7 := S9.out.rs.cellAt (o := 7) rfl
    have f7 : v9.frozen? ⟨w.heap.size, 7, none⟩ = false := S9.out.rs.frozen
    have d8 := S9.out.rs.cellAt (o := 8) rfl
    have f8 : v9.frozen? ⟨w.heap.size, 8, none⟩ = false := S9.out.rs.frozen
    have FB := hid S9.out.bad
    clear S9
    go_wp2
    exact bodyPost_ret (ret_ct16 (p := 2) (u := 3) rfl _ _ w.heap.size #[.int .i64 0, .string ⟨#[]⟩, .string ⟨#[]⟩, .string ⟨#[]⟩, .int .i64 0, .int .i64 0, .string ⟨#[]⟩, .slice none 0 0, .slice none 0 0] (.int .i64 3) rfl rfl (run_loadVar_row _ _ _ _ _ _ _ FB.out.1 Tryz.underlying34 rfl (by kernel_rfl))) rfl ⟨_, _, rfl, ownP_nil _ _ _, ownK_nil _ _ _, FB.out.2⟩
end Go.Proofs.YtmadlnchmkhdjaaGreat
namespace Go.Proofs.YtmadlnchmkhdjaaGreat
open Go.RowKit Go.Maps
set_option linter.unusedVariables false
set_option linter.unusedSimpArgs false

set_option maxRecDepth 100000 in
set_option maxHeartbeats 8000000 in
theorem rdec_5 (s : ByteArray) (w : World) (hs : s.size ≤ 140737488355328) (da de : Int) (hN : dcN s 10 0 0 = ⟨da, de, 5⟩) : Calls Tryz.prog 16 #[.string s] w (GiveQc w s) := by
  have hsm : s.size ≤ maxLen := by unfold maxLen; omega
  have HQ : rdQ s = ⟨(dcN s 1099511627776 ((tS s ((tS s ((tS s (da) (de) 64).a) ((tS s (da) (de) 64).e) 63).a) ((tS s ((tS s (da) (de) 64).a) ((tS s (da) (de) 64).e) 63).e) 1024).a) ((tS s ((tS s ((tS s (da) (de) 64).a) ((tS s (da) (de) 64).e) 63).a) ((tS s ((tS s (da) (de) 64).a) ((tS s (da) (de) 64).e) 63).e) 1024).e)).a, (dcN s 1099511627776 ((tS s ((tS s ((tS s (da) (de) 64).a) ((tS s (da) (de) 64).e) 63).a) ((tS s ((tS s (da) (de) 64).a) ((tS s (da) (de) 64).e) 63).e) 1024).a) ((tS s ((tS s ((tS s (da) (de) 64).a) ((tS s (da) (de) 64).e) 63).a) ((tS s ((tS s (da) (de) 64).a) ((tS s (da) (de) 64).e) 63).e) 1024).e)).e, ⟨5, (tS s (da) (de) 64).x, (tS s ((tS s (da) (de) 64).a) ((tS s (da) (de) 64).e) 63).x, (tS s ((tS s ((tS s (da) (de) 64).a) ((tS s (da) (de) 64).e) 63).a) ((tS s ((tS s (da) (de) 64).a) ((tS s (da) (de) 64).e) 63).e) 1024).x, ((dcN s 1099511627776 ((tS s ((tS s ((tS s (da) (de) 64).a) ((tS s (da) (de) 64).e) 63).a) ((tS s ((tS s (da) (de) 64).a) ((tS s (da) (de) 64).e) 63).e) 1024).a) ((tS s ((tS s ((tS s (da) (de) 64).a) ((tS s (da) (de) 64).e) 63).a) ((tS s ((tS s (da) (de) 64).a) ((tS s (da) (de) 64).e) 63).e) 1024).e)).n : Int), 0, ⟨#[]⟩, [], []⟩⟩ := by
    have hh : flN ((dcN s 10 0 0).n : Int) = 15 := by rw [hN]; exact (show flN 5 = 15 from by decide)
    unfold rdQ
    simp only [hh]
    simp only [q1, q2, s3, s4, s5, s6, s7, s8, r0, hN, show hasF 15 1 = true from by decide, show hasF 15 2 = true from by decide, show hasF 15 4 = true from by decide, show hasF 15 8 = true from by decide, show hasF 15 16 = false from by decide, show hasF 15 32 = false from by decide, show hasF 15 64 = false from by decide, show hasF 15 128 = false from by decide, if_true, Bool.false_eq_true, if_false]
    try rfl
  have HSM := rdQ_sm s
  have RN : Hid (∀ W, Calls Tryz.prog 44 #[.agg #[.string s, .int .i64 0, .int .i64 0], .int .i64 10] W fun r w' => r = .returned (.tuple #[.agg #[.string s, .int .i64 da, .int .i64 de], .int .i64 5]) ∧ Below W.heap.size W w') := fun W => by
    have := ref_reader_int s 0 0 10 W hsm (by omega) (nS_int s 0 0 10 (by omega))
    rw [show nS s 0 0 (fitI 10 (rdAt s 0).n) 2 = ⟨da, de, 5⟩ from hN] at this
    exact this
  have R1 : Hid (∀ W, Calls Tryz.prog 45 #[.agg #[.string s, .int .i64 (da), .int .i64 (de)], .int .i64 64] W fun r w' => r = .returned (.tuple #[.agg #[.string s, .int .i64 (tS s (da) (de) 64).a, .int .i64 (tS s (da) (de) 64).e], .string (tS s (da) (de) 64).x]) ∧ Below W.heap.size W w') := fun W => ref_reader_text s _ _ 64 W hs
  have R2 : Hid (∀ W, Calls Tryz.prog 45 #[.agg #[.string s, .int .i64 ((tS s (da) (de) 64).a), .int .i64 ((tS s (da) (de) 64).e)], .int .i64 63] W fun r w' => r = .returned (.tuple #[.agg #[.string s, .int .i64 (tS s ((tS s (da) (de) 64).a) ((tS s (da) (de) 64).e) 63).a, .int .i64 (tS s ((tS s (da) (de) 64).a) ((tS s (da) (de) 64).e) 63).e], .string (tS s ((tS s (da) (de) 64).a) ((tS s (da) (de) 64).e) 63).x]) ∧ Below W.heap.size W w') := fun W => ref_reader_text s _ _ 63 W hs
  have R3 : Hid (∀ W, Calls Tryz.prog 45 #[.agg #[.string s, .int .i64 ((tS s ((tS s (da) (de) 64).a) ((tS s (da) (de) 64).e) 63).a), .int .i64 ((tS s ((tS s (da) (de) 64).a) ((tS s (da) (de) 64).e) 63).e)], .int .i64 1024] W fun r w' => r = .returned (.tuple #[.agg #[.string s, .int .i64 (tS s ((tS s ((tS s (da) (de) 64).a) ((tS s (da) (de) 64).e) 63).a) ((tS s ((tS s (da) (de) 64).a) ((tS s (da) (de) 64).e) 63).e) 1024).a, .int .i64 (tS s ((tS s ((tS s (da) (de) 64).a) ((tS s (da) (de) 64).e) 63).a) ((tS s ((tS s (da) (de) 64).a) ((tS s (da) (de) 64).e) 63).e) 1024).e], .string (tS s ((tS s ((tS s (da) (de) 64).a) ((tS s (da) (de) 64).e) 63).a) ((tS s ((tS s (da) (de) 64).a) ((tS s (da) (de) 64).e) 63).e) 1024).x]) ∧ Below W.heap.size W w') := fun W => ref_reader_text s _ _ 1024 W hs
  have R4 : Hid (∀ W, Calls Tryz.prog 44 #[.agg #[.string s, .int .i64 ((tS s ((tS s ((tS s (da) (de) 64).a) ((tS s (da) (de) 64).e) 63).a) ((tS s ((tS s (da) (de) 64).a) ((tS s (da) (de) 64).e) 63).e) 1024).a), .int .i64 ((tS s ((tS s ((tS s (da) (de) 64).a) ((tS s (da) (de) 64).e) 63).a) ((tS s ((tS s (da) (de) 64).a) ((tS s (da) (de) 64).e) 63).e) 1024).e)], .int .i64 1099511627776] W fun r w' => r = .returned (.tuple #[.agg #[.string s, .int .i64 (dcN s 1099511627776 ((tS s ((tS s ((tS s (da) (de) 64).a) ((tS s (da) (de) 64).e) 63).a) ((tS s ((tS s (da) (de) 64).a) ((tS s (da) (de) 64).e) 63).e) 1024).a) ((tS s ((tS s ((tS s (da) (de) 64).a) ((tS s (da) (de) 64).e) 63).a) ((tS s ((tS s (da) (de) 64).a) ((tS s (da) (de) 64).e) 63).e) 1024).e)).a, .int .i64 (dcN s 1099511627776 ((tS s ((tS s ((tS s (da) (de) 64).a) ((tS s (da) (de) 64).e) 63).a) ((tS s ((tS s (da) (de) 64).a) ((tS s (da) (de) 64).e) 63).e) 1024).a) ((tS s ((tS s ((tS s (da) (de) 64).a) ((tS s (da) (de) 64).e) 63).a) ((tS s ((tS s (da) (de) 64).a) ((tS s (da) (de) 64).e) 63).e) 1024).e)).e], .int .i64 ((dcN s 1099511627776 ((tS s ((tS s ((tS s (da) (de) 64).a) ((tS s (da) (de) 64).e) 63).a) ((tS s ((tS s (da) (de) 64).a) ((tS s (da) (de) 64).e) 63).e) 1024).a) ((tS s ((tS s ((tS s (da) (de) 64).a) ((tS s (da) (de) 64).e) 63).a) ((tS s ((tS s (da) (de) 64).a) ((tS s (da) (de) 64).e) 63).e) 1024).e)).n : Int)]) ∧ Below W.heap.size W w') := fun W => ref_reader_int s _ _ 1099511627776 W hsm (by omega) (nS_int s _ _ 1099511627776 (by omega))
  clear hs hsm hN
  generalize tS s da de 64 = Y1 at *
  obtain ⟨a1, e1, x1⟩ := Y1
  simp only at *
  generalize tS s a1 e1 63 = Y2 at *
  obtain ⟨a2, e2, x2⟩ := Y2
  simp only at *
  generalize tS s a2 e2 1024 = Y3 at *
  obtain ⟨a3, e3, x3⟩ := Y3
  simp only at *
  generalize dcN s 1099511627776 a3 e3 = Y4 at *
  obtain ⟨a4, e4, x4⟩ := Y4
  simp only at *
  have HOK : Hid (qcOk s = ((endE s a4 e4 == 0) && cmOk (⟨5, x1, x2, x3, (x4 : Int), 0, ⟨#[]⟩, [], []⟩ : Cm))) := by show _ = _; unfold qcOk; rw [HQ]
  have HD : Hid (qcC s = (if qcOk s = true then (⟨5, x1, x2, x3, (x4 : Int), 0, ⟨#[]⟩, [], []⟩ : Cm) else cm0) ∧ qcE s = (if qcOk s = true then 0 else 3)) := by refine ⟨?_, rfl⟩; unfold qcC; rw [HQ]
  rw [HQ] at HSM
  have CK : Hid (∀ pv kv W, PcI W pv (⟨5, x1, x2, x3, (x4 : Int), 0, ⟨#[]⟩, [], []⟩ : Cm).ps → PkI W kv (⟨5, x1, x2, x3, (x4 : Int), 0, ⟨#[]⟩, [], []⟩ : Cm).ks → Calls Tryz.prog 14 #[cmV pv kv (⟨5, x1, x2, x3, (x4 : Int), 0, ⟨#[]⟩, [], []⟩ : Cm)] W fun e w' => e = .returned (.int .i64 (ckN (⟨5, x1, x2, x3, (x4 : Int), 0, ⟨#[]⟩, [], []⟩ : Cm))) ∧ Below W.heap.size W w') := fun pv kv W h1 h2 => rcheck16_any pv kv _ W h1 h2 HSM.sz
  have RE := hid (fun W => ref_reader_end s a4 e4 W)
  clear HQ HSM
  unfold GiveQc
  unfold ckN cmV at CK
  generalize qcC s = DC at *
  generalize qcE s = DE at *
  generalize qcOk s = OK at *
  generalize cmOk (⟨5, x1, x2, x3, (x4 : Int), 0, ⟨#[]⟩, [], []⟩ : Cm) = ok at *
  generalize endE s a4 e4 = en at *
  simp only at CK
  have HK1 : Hid (∀ W, Calls Tryz.prog 35 #[.int .i64 5] W fun e w' => e = .returned (.bool true) ∧ w' = W) := fun W => hasKey_any 5 W
  have HI1 : Hid (∀ W, Calls Tryz.prog 37 #[.int .i64 5] W fun e w' => e = .returned (.bool true) ∧ w' = W) := fun W => hasID_any 5 W
  have HS1 : Hid (∀ W, Calls Tryz.prog 39 #[.int .i64 5] W fun e w' => e = .returned (.bool false) ∧ w' = W) := fun W => hasSum_any 5 W
  go_enter Tryz.func16, Tryz.ntmps16
  go_wp2_with fail
  refine (RN.out _).mono ?_
  rintro e0 w1 ⟨rfl, b1⟩
  have S0 := hid (rcs_new (s := s) (a := da) (e := de) (k := 5) b1)
  clear RN b1
  go_upto_region 3 with fail
  generalize ((w1.alloc (.cells #[.string s, .int .i64 da, .int .i64 de] 79)).alloc (.cells #[.int .i64 5, .string ⟨#[]⟩, .string ⟨#[]⟩, .string ⟨#[]⟩, .int .i64 0, .int .i64 0, .string ⟨#[]⟩, .slice none 0 0, .slice none 0 0] 34)) = V0 at *
  generalize w1.heap.size = g at *
  have c0 := S0.out.rd.cellAt (o := 0) rfl
  have c1 := S0.out.rd.cellAt (o := 1) rfl
  have c2 := S0.out.rd.cellAt (o := 2) rfl
  go_wp2_with fail
  refine (R1.out _).mono ?_
  rintro e1' v1 ⟨rfl, b1⟩
  have P1 := hid ((S0.out.call b1).al (.cells #[.string s, .int .i64 a1, .int .i64 e1] 79))
  clear b1 R1 S0 c0 c1 c2
  go_wp2_with fail
  refine (R2.out _).mono ?_
  rintro e2' v2 ⟨rfl, b2⟩
  have P2 := hid ((P1.out.call b2).al (.cells #[.string s, .int .i64 a2, .int .i64 e2] 79))
  have HL2 := hid (P1.out.call b2).bx.lt
  clear b2 R2 P1
  have c0 := P2.out.rd.cellAt (o := 0) rfl
  have f0 : (v2.alloc (.cells #[.string s, .int .i64 a2, .int .i64 e2] 79)).frozen? ⟨g, 0, none⟩ = false := P2.out.rd.frozen
  have c1 := P2.out.rd.cellAt (o := 1) rfl
  have f1 : (v2.alloc (.cells #[.string s, .int .i64 a2, .int .i64 e2] 79)).frozen? ⟨g, 1, none⟩ = false := P2.out.rd.frozen
  have c2 := P2.out.rd.cellAt (o := 2) rfl
  have f2 : (v2.alloc (.cells #[.string s, .int .i64 a2, .int .i64 e2] 79)).frozen? ⟨g, 2, none⟩ = false := P2.out.rd.frozen
  have z1 := P2.out.bx.cellAt (o := 1) rfl
  have y1 : (v2.alloc (.cells #[.string s, .int .i64 a2, .int .i64 e2] 79)).frozen? ⟨g + 1, 1, none⟩ = false := P2.out.bx.frozen
  have z2 := P2.out.bx.cellAt (o := 2) rfl
  have y2 : (v2.alloc (.cells #[.string s, .int .i64 a2, .int .i64 e2] 79)).frozen? ⟨g + 1, 2, none⟩ = false := P2.out.bx.frozen
  have n1 : v2.heap.size ≠ g := by have h9 := HL2.out; omega
  have n2 : g ≠ v2.heap.size := fun h => n1 h.symm
  have n3 : v2.heap.size ≠ g + 1 := by have h9 := HL2.out; omega
  have n4 : g + 1 ≠ v2.heap.size := fun h => n3 h.symm
  go_upto_region 9 with fail
  have S2 := hid ((((P2.out).fld 1 (.string x1) (.slice none 0 0) (.slice none 0 0) ⟨5, x1, ⟨#[]⟩, ⟨#[]⟩, 0, 0, ⟨#[]⟩, [], []⟩ rfl P2.out.op P2.out.ok).fld 2 (.string x2) (.slice none 0 0) (.slice none 0 0) ⟨5, x1, x2, ⟨#[]⟩, 0, 0, ⟨#[]⟩, [], []⟩ rfl (ownP_set (P2.out.op) (by omega)) (ownK_set (P2.out.ok) (by omega))).put a2 e2)
  clear P2 c0 c1 c2 f0 f1 f2 z1 y1 z2 y2 n1 n2 n3 n4 
  clear HL2
  generalize ((((((v2.alloc (.cells #[.string s, .int .i64 a2, .int .i64 e2] 79)).setCell ⟨g + 1, 1, none⟩ (.string x1)).setCell ⟨g + 1, 2, none⟩ (.string x2)).setCell ⟨g, 0, none⟩ (.string s)).setCell ⟨g, 1, none⟩ (.int .i64 a2)).setCell ⟨g, 2, none⟩ (.int .i64 e2)) = V2 at *
  go_wp2_with fail
  refine (HK1.out _).mono ?_
  rintro et1 vt1 ⟨rfl, rfl⟩
  clear HK1
  have c0 := S2.out.rd.cellAt (o := 0) rfl
  have c1 := S2.out.rd.cellAt (o := 1) rfl
  have c2 := S2.out.rd.cellAt (o := 2) rfl
  go_wp2_with fail
  refine (R3.out _).mono ?_
  rintro e3' v3 ⟨rfl, b3⟩
  have P3 := hid ((S2.out.call b3).al (.cells #[.string s, .int .i64 a3, .int .i64 e3] 79))
  have HL3 := hid (S2.out.call b3).bx.lt
  clear b3 R3 S2 c0 c1 c2
  have c0 := P3.out.rd.cellAt (o := 0) rfl
  have f0 : (v3.alloc (.cells #[.string s, .int .i64 a3, .int .i64 e3] 79)).frozen? ⟨g, 0, none⟩ = false := P3.out.rd.frozen
  have c1 := P3.out.rd.cellAt (o := 1) rfl
  have f1 : (v3.alloc (.cells #[.string s, .int .i64 a3, .int .i64 e3] 79)).frozen? ⟨g, 1, none⟩ = false := P3.out.rd.frozen
  have c2 := P3.out.rd.cellAt (o := 2) rfl
  have f2 : (v3.alloc (.cells #[.string s, .int .i64 a3, .int .i64 e3] 79)).frozen? ⟨g, 2, none⟩ = false := P3.out.rd.frozen
  have z3 := P3.out.bx.cellAt (o := 3) rfl
  have y3 : (v3.alloc (.cells #[.string s, .int .i64 a3, .int .i64 e3] 79)).frozen? ⟨g + 1, 3, none⟩ = false := P3.out.bx.frozen
  have n1 : v3.heap.size ≠ g := by have h9 := HL3.out; omega
  have n2 : g ≠ v3.heap.size := fun h => n1 h.symm
  have n3 : v3.heap.size ≠ g + 1 := by have h9 := HL3.out; omega
  have n4 : g + 1 ≠ v3.heap.size := fun h => n3 h.symm
  go_upto_region 13 with fail
  have S3 := hid (((P3.out).fld 3 (.string x3) (.slice none 0 0) (.slice none 0 0) ⟨5, x1, x2, x3, 0, 0, ⟨#[]⟩, [], []⟩ rfl P3.out.op P3.out.ok).put a3 e3)
  clear P3 c0 c1 c2 f0 f1 f2 z3 y3 n1 n2 n3 n4 
  clear HL3
  generalize (((((v3.alloc (.cells #[.string s, .int .i64 a3, .int .i64 e3] 79)).setCell ⟨g + 1, 3, none⟩ (.string x3)).setCell ⟨g, 0, none⟩ (.string s)).setCell ⟨g, 1, none⟩ (.int .i64 a3)).setCell ⟨g, 2, none⟩ (.int .i64 e3)) = V3 at *
  go_wp2_with fail
  refine (HI1.out _).mono ?_
  rintro et2 vt2 ⟨rfl, rfl⟩
  clear HI1
  have c0 := S3.out.rd.cellAt (o := 0) rfl
  have c1 := S3.out.rd.cellAt (o := 1) rfl
  have c2 := S3.out.rd.cellAt (o := 2) rfl
  go_wp2_with fail
  refine (R4.out _).mono ?_
  rintro e4' v4 ⟨rfl, b4⟩
  have P4 := hid ((S3.out.call b4).al (.cells #[.string s, .int .i64 a4, .int .i64 e4] 79))
  have HL4 := hid (S3.out.call b4).bx.lt
  clear b4 R4 S3 c0 c1 c2
  have c0 := P4.out.rd.cellAt (o := 0) rfl
  have f0 : (v4.alloc (.cells #[.string s, .int .i64 a4, .int .i64 e4] 79)).frozen? ⟨g, 0, none⟩ = false := P4.out.rd.frozen
  have c1 := P4.out.rd.cellAt (o := 1) rfl
  have f1 : (v4.alloc (.cells #[.string s, .int .i64 a4, .int .i64 e4] 79)).frozen? ⟨g, 1, none⟩ = false := P4.out.rd.frozen
  have c2 := P4.out.rd.cellAt (o := 2) rfl
  have f2 : (v4.alloc (.cells #[.string s, .int .i64 a4, .int .i64 e4] 79)).frozen? ⟨g, 2, none⟩ = false := P4.out.rd.frozen
  have z4 := P4.out.bx.cellAt (o := 4) rfl
  have y4 : (v4.alloc (.cells #[.string s, .int .i64 a4, .int .i64 e4] 79)).frozen? ⟨g + 1, 4, none⟩ = false := P4.out.bx.frozen
  have n1 : v4.heap.size ≠ g := by have h9 := HL4.out; omega
  have n2 : g ≠ v4.heap.size := fun h => n1 h.symm
  have n3 : v4.heap.size ≠ g + 1 := by have h9 := HL4.out; omega
  have n4 : g + 1 ≠ v4.heap.size := fun h => n3 h.symm
  go_upto_region 17 with fail
  have S4 := hid (((P4.out).fld 4 (.int .i64 (x4 : Int)) (.slice none 0 0) (.slice none 0 0) ⟨5, x1, x2, x3, (x4 : Int), 0, ⟨#[]⟩, [], []⟩ rfl P4.out.op P4.out.ok).put a4 e4)
  clear P4 c0 c1 c2 f0 f1 f2 z4 y4 n1 n2 n3 n4 
  clear HL4
  generalize (((((v4.alloc (.cells #[.string s, .int .i64 a4, .int .i64 e4] 79)).setCell ⟨g + 1, 4, none⟩ (.int .i64 (x4 : Int))).setCell ⟨g, 0, none⟩ (.string s)).setCell ⟨g, 1, none⟩ (.int .i64 a4)).setCell ⟨g, 2, none⟩ (.int .i64 e4)) = V4 at *
  go_wp2_with fail
  refine (HS1.out _).mono ?_
  rintro et3 vt3 ⟨rfl, rfl⟩
  clear HS1
  have c0 := S4.out.rd.cellAt (o := 0) rfl
  have c1 := S4.out.rd.cellAt (o := 1) rfl
  have c2 := S4.out.rd.cellAt (o := 2) rfl
  go_wp2_with fail
  refine (RE.out _).mono ?_
  rintro e9' v9 ⟨rfl, b9⟩
  have S9 := hid (S4.out.call b9)
  clear RE b9 S4 c0 c1 c2
  have hfd : ∀ W : World, (Instr.field 79 (.agg #[.string s, .int .i64 a4, .int .i64 en]) 2).run Tryz.prog W = .ok (.int .i64 en) W := fun _ => by kernel_rfl
  by_cases hen : en = 0
  · subst hen
    have HNE : w.heap.size ≠ g + 1 := by have := S9.out.lo; omega
    have HNE2 : g + 1 ≠ w.heap.size := fun h => HNE h.symm
    have CK9 := hid (CK.out _ _ _ S9.out.op.pcs S9.out.ok.pks)
    clear CK
    cases ok
    · obtain rfl : OK = false := HOK.out
      obtain ⟨rfl, rfl⟩ := HD.out
      clear HOK HD
      have c0 := S9.out.bx.cellAt (o := 0) rfl
      have c1 := S9.out.bx.cellAt (o := 1) rfl
      have c2 := S9.out.bx.cellAt (o := 2) rfl
      have c3 := S9.out.bx.cellAt (o := 3) rfl
      have c4 := S9.out.bx.cellAt (o := 4) rfl
      have c5 := S9.out.bx.cellAt (o := 5) rfl
      have c6 := S9.out.bx.cellAt (o := 6) rfl
      have c7 := S9.out.bx.cellAt (o := 7) rfl
      have c8 := S9.out.bx.cellAt (o := 8) rfl
      go_wp2_with fail
      refine CK9.out.mono ?_
      rintro e10 w10 ⟨rfl, b10⟩
      have S10 := hid (S9.out.call b10)
      clear CK9 b10 S9 c0 c1 c2 c3 c4 c5 c6 c7 c8
      have d0 := S10.out.rs.cellAt (o := 0) rfl
      have f0 : w10.frozen? ⟨w.heap.size, 0, none⟩ = false := S10.out.rs.frozen
      have d1 := S10.out.rs.cellAt (o := 1) rfl
      have f1 : w10.frozen? ⟨w.heap.size, 1, none⟩ = false := S10.out.rs.frozen
      have d2 := S10.out.rs.cellAt (o := 2) rfl
      have f2 : w10.frozen? ⟨w.heap.size, 2, none⟩ = false := S10.out.rs.frozen
      have d3 := S10.out.rs.cellAt (o := 3) rfl
      have f3 : w10.frozen? ⟨w.heap.size, 3, none⟩ = false := S10.out.rs.frozen
      have d4 := S10.out.rs.cellAt (o := 4) rfl
      have f4 : w10.frozen? ⟨w.heap.size, 4, none⟩ = false := S10.out.rs.frozen
      have d5 := S10.out.rs.cellAt (o := 5) rfl
      have f5 : w10.frozen? ⟨w.heap.size, 5, none⟩ = false := S10.out.rs.frozen
      have d6 := S10.out.rs.cellAt (o := 6) rfl
      have f6 : w10.frozen? ⟨w.heap.size, 6, none⟩ = false := S10.out.rs.frozen
      have d7 := S10.out.rs.cellAt (o := 7) rfl
      have f7 : w10.frozen? ⟨w.heap.size, 7, none⟩ = false := S10.out.rs.frozen
      have d8 := S10.out.rs.cellAt (o := 8) rfl
      have f8 : w10.frozen? ⟨w.heap.size, 8, none⟩ = false := S10.out.rs.frozen
      have FB := hid S10.out.bad
      clear S10
      go_wp2
      exact bodyPost_ret (ret_ct16 (p := 2) (u := 3) rfl _ _ w.heap.size #[.int .i64 0, .string ⟨#[]⟩, .string ⟨#[]⟩, .string ⟨#[]⟩, .int .i64 0, .int .i64 0, .string ⟨#[]⟩, .slice none 0 0, .slice none 0 0] (.int .i64 3) rfl rfl (run_loadVar_row _ _ _ _ _ _ _ FB.out.1 Tryz.underlying34 rfl (by kernel_rfl))) rfl ⟨_, _, rfl, ownP_nil _ _ _, ownK_nil _ _ _, FB.out.2⟩
    · obtain rfl : OK = true := HOK.out
      obtain ⟨rfl, rfl⟩ := HD.out
      clear HOK HD
      have c0 := S9.out.bx.cellAt (o := 0) rfl
      have c1 := S9.out.bx.cellAt (o := 1) rfl
      have c2 := S9.out.bx.cellAt (o := 2) rfl
      have c3 := S9.out.bx.cellAt (o := 3) rfl
      have c4 := S9.out.bx.cellAt (o := 4) rfl
      have c5 := S9.out.bx.cellAt (o := 5) rfl
      have c6 := S9.out.bx.cellAt (o := 6) rfl
      have c7 := S9.out.bx.cellAt (o := 7) rfl
      have c8 := S9.out.bx.cellAt (o := 8) rfl
      go_wp2_with fail
      refine CK9.out.mono ?_
      rintro e10 w10 ⟨rfl, b10⟩
      have S10 := hid (S9.out.call b10)
      clear CK9 b10 S9 c0 c1 c2 c3 c4 c5 c6 c7 c8
      have c0 := S10.out.bx.cellAt (o := 0) rfl
      have c1 := S10.out.bx.cellAt (o := 1) rfl
      have c2 := S10.out.bx.cellAt (o := 2) rfl
      have c3 := S10.out.bx.cellAt (o := 3) rfl
      have c4 := S10.out.bx.cellAt (o := 4) rfl
      have c5 := S10.out.bx.cellAt (o := 5) rfl
      have c6 := S10.out.bx.cellAt (o := 6) rfl
      have c7 := S10.out.bx.cellAt (o := 7) rfl
      have c8 := S10.out.bx.cellAt (o := 8) rfl
      have d0 := S10.out.rs.cellAt (o := 0) rfl
      have f0 : w10.frozen? ⟨w.heap.size, 0, none⟩ = false := S10.out.rs.frozen
      have d1 := S10.out.rs.cellAt (o := 1) rfl
      have f1 : w10.frozen? ⟨w.heap.size, 1, none⟩ = false := S10.out.rs.frozen
      have d2 := S10.out.rs.cellAt (o := 2) rfl
      have f2 : w10.frozen? ⟨w.heap.size, 2, none⟩ = false := S10.out.rs.frozen
      have d3 := S10.out.rs.cellAt (o := 3) rfl
      have f3 : w10.frozen? ⟨w.heap.size, 3, none⟩ = false := S10.out.rs.frozen
      have d4 := S10.out.rs.cellAt (o := 4) rfl
      have f4 : w10.frozen? ⟨w.heap.size, 4, none⟩ = false := S10.out.rs.frozen
      have d5 := S10.out.rs.cellAt (o := 5) rfl
      have f5 : w10.frozen? ⟨w.heap.size, 5, none⟩ = false := S10.out.rs.frozen
      have d6 := S10.out.rs.cellAt (o := 6) rfl
      have f6 : w10.frozen? ⟨w.heap.size, 6, none⟩ = false := S10.out.rs.frozen
      have d7 := S10.out.rs.cellAt (o := 7) rfl
      have f7 : w10.frozen? ⟨w.heap.size, 7, none⟩ = false := S10.out.rs.frozen
      have d8 := S10.out.rs.cellAt (o := 8) rfl
      have f8 : w10.frozen? ⟨w.heap.size, 8, none⟩ = false := S10.out.rs.frozen
      have FB := hid S10.out.fin
      simp only [cmL] at FB
      clear S10
      go_wp2
      exact bodyPost_ret (ret_ct16 (p := 2) (u := 3) rfl _ _ w.heap.size #[.int .i64 5, .string x1, .string x2, .string x3, .int .i64 (x4 : Int), .int .i64 0, .string ⟨#[]⟩, .slice none 0 0, .slice none 0 0] (.int .i64 0) rfl rfl (run_loadVar_row _ _ _ _ _ _ _ FB.out.1 Tryz.underlying34 rfl (by kernel_rfl))) rfl ⟨_, _, rfl, FB.out.2⟩
  · have hq : (en == 0) = false := beq_eq_false_iff_ne.2 hen
    have hq2 : (en != 0) = true := by simp [hen]
    obtain rfl : OK = false := by have := HOK.out; rw [hq] at this; exact this
    obtain ⟨rfl, rfl⟩ := HD.out
    clear hen HOK HD CK
    have d0 := S9.out.rs.cellAt (o := 0) rfl
    have f0 : v9.frozen? ⟨w.heap.size, 0, none⟩ = false := S9.out.rs.frozen
    have d1 := S9.out.rs.cellAt (o := 1) rfl
    have f1 : v9.frozen? ⟨w.heap.size, 1, none⟩ = false := S9.out.rs.frozen
    have d2 := S9.out.rs.cellAt (o := 2) rfl
    have f2 : v9.frozen? ⟨w.heap.size, 2, none⟩ = false := S9.out.rs.frozen
    have d3 := S9.out.rs.cellAt (o := 3) rfl
    have f3 : v9.frozen? ⟨w.heap.size, 3, none⟩ = false := S9.out.rs.frozen
    have d4 := S9.out.rs.cellAt (o := 4) rfl
    have f4 : v9.frozen? ⟨w.heap.size, 4, none⟩ = false := S9.out.rs.frozen
    have d5 := S9.out.rs.cellAt (o := 5) rfl
    have f5 : v9.frozen? ⟨w.heap.size, 5, none⟩ = false := S9.out.rs.frozen
    have d6 := S9.out.rs.cellAt (o := 6) rfl
    have f6 : v9.frozen? ⟨w.heap.size, 6, none⟩ = false := S9.out.rs.frozen
    have d7 := S9.out.rs.cellAt (o := 7) rfl
    have f7 : v9.frozen? ⟨w.heap.size, 7, none⟩ = false := S9.out.rs.frozen
    have d8 := S9.out.rs.cellAt (o := 8) rfl
    have f8 : v9.frozen? ⟨w.heap.size, 8, none⟩ = false := S9.out.rs.frozen
    have FB := hid S9.out.bad
    clear S9
    go_wp2
    exact bodyPost_ret (ret_ct16 (p := 2) (u := 3) rfl _ _ w.heap.size #[.int .i64 0, .string ⟨#[]⟩, .string ⟨#[]⟩, .string ⟨#[]⟩, .int .i64 0, .int .i64 0, .string ⟨#[]⟩, .slice none 0 0, .slice none 0 0] (.int .i64 3) rfl rfl (run_loadVar_row _ _ _ _ _ _ _ FB.out.1 Tryz.underlying34 rfl (by kernel_rfl))) rfl ⟨_, _, rfl, ownP_nil _ _ _, ownK_nil _ _ _, FB.out.2⟩
end Go.Proofs.YtmadlnchmkhdjaaGreat
