/- Joined: The program's Decode of a command. The worked example of commands. -/
import Derived.Test.YtmadlnchmkhdjaaGreatJoined19
import Derived.Test.YtmadlnchmkhdjaaGreatCmV
namespace Go.Proofs.YtmadlnchmkhdjaaGreat
open Go.RowKit Go.Maps
set_option linter.unusedVariables false
set_option linter.unusedSimpArgs false

def cm0 : Cm := ⟨0, ⟨#[]⟩, ⟨#[]⟩, ⟨#[]⟩, 0, 0, ⟨#[]⟩, [], []⟩
def ccOk (s : ByteArray) : Bool := (endE s (rdC s 0 0).a (rdC s 0 0).e == 0) && cmOk (rdC s 0 0).c
def cdC (s : ByteArray) : Cm := if ccOk s = true then (rdC s 0 0).c else cm0
def cdCE (s : ByteArray) : Int := if ccOk s = true then 0 else 3
theorem rdC_ks (s : ByteArray) (a e : Int) : (rdC s a e).c.ks.length ≤ 100 := by
  unfold rdC
  simp only
  generalize flN ((dcN s 10 a e).n : Int) = h
  have g8 : ∀ r : CrR, r.c.ks = [] → (s8 s h r).c.ks.length ≤ 100 := fun r hr => by
    unfold s8
    split
    · exact rdK_len _ _ _
    · rw [hr]; simp
  have e0 : (r0 s a e).c.ks = [] := rfl
  have e1 : (s1 s h (r0 s a e)).c.ks = [] := by unfold s1; split <;> exact e0
  have e2 : (s2 s h (s1 s h (r0 s a e))).c.ks = [] := by unfold s2; split <;> exact e1
  have e3 : (s3 s h (s2 s h (s1 s h (r0 s a e)))).c.ks = [] := by unfold s3; split <;> exact e2
  have e4 : (s4 s h (s3 s h (s2 s h (s1 s h (r0 s a e))))).c.ks = [] := by unfold s4; split <;> exact e3
  have e5 : (s5 s h (s4 s h (s3 s h (s2 s h (s1 s h (r0 s a e)))))).c.ks = [] := by unfold s5; split <;> exact e4
  have e6 : (s6 s h (s5 s h (s4 s h (s3 s h (s2 s h (s1 s h (r0 s a e))))))).c.ks = [] := by unfold s6; split <;> exact e5
  have e7 : (s7 s h (s6 s h (s5 s h (s4 s h (s3 s h (s2 s h (s1 s h (r0 s a e)))))))).c.ks = [] := by unfold s7; split <;> exact e6
  exact g8 _ e7
theorem ret_ct16 {fn : Func} {p u : Tmp} {ty : TypeId} (h : fn.results = #[.cell p ty, .tmp u]) (tmps : Array Value) (w : World) (g : Nat) (cs : Array Value) (x : Value)
    (hp : tmps.getD p undef = .pointer (some ⟨g, 0, none⟩)) (hx : tmps.getD u undef = x) (hg : (loadVar ty ⟨g, 0, none⟩).run Tryz.prog w = .ok (.agg cs) w) :
    (results fn tmps).run Tryz.prog w = .ok (.tuple #[.agg cs, x]) w := by
  rw [results_cell_tmp h, hp, hx]
  simp [asAddr, hg, Result.andThen]
/-- the memory of Decode -/
structure CdS (w : World) (s : ByteArray) (a e : Int) (b : Nat) (pv kv : Value) (c : Cm) (W : World) : Prop where
  rd : RdAt W (w.heap.size + 1) s a e
  rs : RowIs W w.heap.size [.int .i64 0, .string ⟨#[]⟩, .string ⟨#[]⟩, .string ⟨#[]⟩, .int .i64 0, .int .i64 0, .string ⟨#[]⟩, .slice none 0 0, .slice none 0 0] 25
  bc : RowIs W b (cmL pv kv c) 25
  op : OwnP W (w.heap.size + 2) 107 pv c.ps
  ok : OwnK W (w.heap.size + 2) 61 kv c.ks
  bl : Below w.heap.size w W
  hb : w.heap.size + 2 ≤ b
theorem CdS.read {w W W' : World} {s : ByteArray} {a e a' e' : Int} {b : Nat} {pv kv : Value} {c : Cm} (x : CdS w s a e b pv kv c W) (hr : RdAt W' (w.heap.size + 1) s a' e') (ho : Only (w.heap.size + 1) W W') : CdS w s a' e' b pv kv c W' :=
  have k := ho.keep
  have hb := x.hb
  ⟨hr, x.rs.keep k (by omega), x.bc.keep k (by omega), k.ownsRow x.op (fun b hb e => by have := ownsRow_ge x.op hb; omega), k.ownsRow x.ok (fun b hb e => by have := ownsRow_ge x.ok hb; omega), x.bl.trans (ho.below (by omega) x.bl.size), x.hb⟩
theorem CdS.call {w W W' : World} {s : ByteArray} {a e : Int} {b : Nat} {pv kv : Value} {c : Cm} (x : CdS w s a e b pv kv c W) (hb : Below W.heap.size W W') : CdS w s a e b pv kv c W' := x.read (x.rd.keeps hb) (hb.only _)
theorem CdS.fin {w W : World} {s : ByteArray} {a e : Int} {b : Nat} {pv kv : Value} {c : Cm} (x : CdS w s a e b pv kv c W) : RowIs (((((((((W.setCell ⟨w.heap.size, 0, none⟩ (.int .i64 c.kd)).setCell ⟨w.heap.size, 1, none⟩ (.string c.tk)).setCell ⟨w.heap.size, 2, none⟩ (.string c.bk)).setCell ⟨w.heap.size, 3, none⟩ (.string c.ky)).setCell ⟨w.heap.size, 4, none⟩ (.int .i64 c.id)).setCell ⟨w.heap.size, 5, none⟩ (.int .i64 c.n)).setCell ⟨w.heap.size, 6, none⟩ (.string c.sm)).setCell ⟨w.heap.size, 7, none⟩ (pv)).setCell ⟨w.heap.size, 8, none⟩ (kv)) w.heap.size (cmL pv kv c) 25 ∧ OwnP (((((((((W.setCell ⟨w.heap.size, 0, none⟩ (.int .i64 c.kd)).setCell ⟨w.heap.size, 1, none⟩ (.string c.tk)).setCell ⟨w.heap.size, 2, none⟩ (.string c.bk)).setCell ⟨w.heap.size, 3, none⟩ (.string c.ky)).setCell ⟨w.heap.size, 4, none⟩ (.int .i64 c.id)).setCell ⟨w.heap.size, 5, none⟩ (.int .i64 c.n)).setCell ⟨w.heap.size, 6, none⟩ (.string c.sm)).setCell ⟨w.heap.size, 7, none⟩ (pv)).setCell ⟨w.heap.size, 8, none⟩ (kv)) w.heap.size 107 pv c.ps ∧ OwnK (((((((((W.setCell ⟨w.heap.size, 0, none⟩ (.int .i64 c.kd)).setCell ⟨w.heap.size, 1, none⟩ (.string c.tk)).setCell ⟨w.heap.size, 2, none⟩ (.string c.bk)).setCell ⟨w.heap.size, 3, none⟩ (.string c.ky)).setCell ⟨w.heap.size, 4, none⟩ (.int .i64 c.id)).setCell ⟨w.heap.size, 5, none⟩ (.int .i64 c.n)).setCell ⟨w.heap.size, 6, none⟩ (.string c.sm)).setCell ⟨w.heap.size, 7, none⟩ (pv)).setCell ⟨w.heap.size, 8, none⟩ (kv)) w.heap.size 61 kv c.ks ∧ Below w.heap.size w (((((((((W.setCell ⟨w.heap.size, 0, none⟩ (.int .i64 c.kd)).setCell ⟨w.heap.size, 1, none⟩ (.string c.tk)).setCell ⟨w.heap.size, 2, none⟩ (.string c.bk)).setCell ⟨w.heap.size, 3, none⟩ (.string c.ky)).setCell ⟨w.heap.size, 4, none⟩ (.int .i64 c.id)).setCell ⟨w.heap.size, 5, none⟩ (.int .i64 c.n)).setCell ⟨w.heap.size, 6, none⟩ (.string c.sm)).setCell ⟨w.heap.size, 7, none⟩ (pv)).setCell ⟨w.heap.size, 8, none⟩ (kv)) := by
  have k : Keep (· = w.heap.size) W (((((((((W.setCell ⟨w.heap.size, 0, none⟩ (.int .i64 c.kd)).setCell ⟨w.heap.size, 1, none⟩ (.string c.tk)).setCell ⟨w.heap.size, 2, none⟩ (.string c.bk)).setCell ⟨w.heap.size, 3, none⟩ (.string c.ky)).setCell ⟨w.heap.size, 4, none⟩ (.int .i64 c.id)).setCell ⟨w.heap.size, 5, none⟩ (.int .i64 c.n)).setCell ⟨w.heap.size, 6, none⟩ (.string c.sm)).setCell ⟨w.heap.size, 7, none⟩ (pv)).setCell ⟨w.heap.size, 8, none⟩ (kv)) := ((((((((keep_setCell W _ 0 _).trans (keep_setCell _ _ 1 _)).trans (keep_setCell _ _ 2 _)).trans (keep_setCell _ _ 3 _)).trans (keep_setCell _ _ 4 _)).trans (keep_setCell _ _ 5 _)).trans (keep_setCell _ _ 6 _)).trans (keep_setCell _ _ 7 _)).trans (keep_setCell _ _ 8 _)
  exact ⟨((((((((x.rs.set 0 _).set 1 _).set 2 _).set 3 _).set 4 _).set 5 _).set 6 _).set 7 _).set 8 _, ownP_low (k.ownsRow x.op (fun b hb e => by have := ownsRow_ge x.op hb; omega)) (by omega), ownK_low (k.ownsRow x.ok (fun b hb e => by have := ownsRow_ge x.ok hb; omega)) (by omega), x.bl.trans (keep_below k (fun j hj e => by omega) x.bl.size)⟩
theorem CdS.bad {w W : World} {s : ByteArray} {a e : Int} {b : Nat} {pv kv : Value} {c : Cm} (x : CdS w s a e b pv kv c W) : RowIs (((((((((W.setCell ⟨w.heap.size, 0, none⟩ (.int .i64 0)).setCell ⟨w.heap.size, 1, none⟩ (.string ⟨#[]⟩)).setCell ⟨w.heap.size, 2, none⟩ (.string ⟨#[]⟩)).setCell ⟨w.heap.size, 3, none⟩ (.string ⟨#[]⟩)).setCell ⟨w.heap.size, 4, none⟩ (.int .i64 0)).setCell ⟨w.heap.size, 5, none⟩ (.int .i64 0)).setCell ⟨w.heap.size, 6, none⟩ (.string ⟨#[]⟩)).setCell ⟨w.heap.size, 7, none⟩ (.slice none 0 0)).setCell ⟨w.heap.size, 8, none⟩ (.slice none 0 0)) w.heap.size [.int .i64 0, .string ⟨#[]⟩, .string ⟨#[]⟩, .string ⟨#[]⟩, .int .i64 0, .int .i64 0, .string ⟨#[]⟩, .slice none 0 0, .slice none 0 0] 25 ∧ Below w.heap.size w (((((((((W.setCell ⟨w.heap.size, 0, none⟩ (.int .i64 0)).setCell ⟨w.heap.size, 1, none⟩ (.string ⟨#[]⟩)).setCell ⟨w.heap.size, 2, none⟩ (.string ⟨#[]⟩)).setCell ⟨w.heap.size, 3, none⟩ (.string ⟨#[]⟩)).setCell ⟨w.heap.size, 4, none⟩ (.int .i64 0)).setCell ⟨w.heap.size, 5, none⟩ (.int .i64 0)).setCell ⟨w.heap.size, 6, none⟩ (.string ⟨#[]⟩)).setCell ⟨w.heap.size, 7, none⟩ (.slice none 0 0)).setCell ⟨w.heap.size, 8, none⟩ (.slice none 0 0)) := by
  have k : Keep (· = w.heap.size) W (((((((((W.setCell ⟨w.heap.size, 0, none⟩ (.int .i64 0)).setCell ⟨w.heap.size, 1, none⟩ (.string ⟨#[]⟩)).setCell ⟨w.heap.size, 2, none⟩ (.string ⟨#[]⟩)).setCell ⟨w.heap.size, 3, none⟩ (.string ⟨#[]⟩)).setCell ⟨w.heap.size, 4, none⟩ (.int .i64 0)).setCell ⟨w.heap.size, 5, none⟩ (.int .i64 0)).setCell ⟨w.heap.size, 6, none⟩ (.string ⟨#[]⟩)).setCell ⟨w.heap.size, 7, none⟩ (.slice none 0 0)).setCell ⟨w.heap.size, 8, none⟩ (.slice none 0 0)) := ((((((((keep_setCell W _ 0 _).trans (keep_setCell _ _ 1 _)).trans (keep_setCell _ _ 2 _)).trans (keep_setCell _ _ 3 _)).trans (keep_setCell _ _ 4 _)).trans (keep_setCell _ _ 5 _)).trans (keep_setCell _ _ 6 _)).trans (keep_setCell _ _ 7 _)).trans (keep_setCell _ _ 8 _)
  exact ⟨((((((((x.rs.set 0 _).set 1 _).set 2 _).set 3 _).set 4 _).set 5 _).set 6 _).set 7 _).set 8 _, x.bl.trans (keep_below k (fun j hj e => by omega) x.bl.size)⟩
theorem cds_new {w w1 w2 : World} {s : ByteArray} {pv kv : Value} {r : CrR} (b1 : Below (w.heap.size + 1) (w.alloc (.cells #[.int .i64 0, .string ⟨#[]⟩, .string ⟨#[]⟩, .string ⟨#[]⟩, .int .i64 0, .int .i64 0, .string ⟨#[]⟩, .slice none 0 0, .slice none 0 0] 25)) w1) (h1 : RdAt w1 (w.heap.size + 1) s 0 0) (f : CrF w1 (w.heap.size + 1) s pv kv r w2) : CdS w s r.a r.e w2.heap.size pv kv r.c (w2.alloc (.cells (cmL pv kv r.c).toArray 25)) := by
  have hl := rd_lt h1
  have hs := f.on.size
  have B2 := below_al (Below.refl w2.heap.size w2) (.cells (cmL pv kv r.c).toArray 25)
  have r0 := (srow w [.int .i64 0, .string ⟨#[]⟩, .string ⟨#[]⟩, .string ⟨#[]⟩, .int .i64 0, .int .i64 0, .string ⟨#[]⟩, .slice none 0 0, .slice none 0 0] 25).keep ((by simpa using b1 : Below (w.alloc (.cells #[.int .i64 0, .string ⟨#[]⟩, .string ⟨#[]⟩, .string ⟨#[]⟩, .int .i64 0, .int .i64 0, .string ⟨#[]⟩, .slice none 0 0, .slice none 0 0] 25)).heap.size (w.alloc (.cells #[.int .i64 0, .string ⟨#[]⟩, .string ⟨#[]⟩, .string ⟨#[]⟩, .int .i64 0, .int .i64 0, .string ⟨#[]⟩, .slice none 0 0, .slice none 0 0] 25)) w1).keep (fun _ => False)) (fun h => h)
  have b0 : Below w.heap.size w w1 := below_on (below_al (Below.refl w.heap.size w) (.cells #[.int .i64 0, .string ⟨#[]⟩, .string ⟨#[]⟩, .string ⟨#[]⟩, .int .i64 0, .int .i64 0, .string ⟨#[]⟩, .slice none 0 0, .slice none 0 0] 25)) (by simpa using b1)
  exact ⟨f.rd.keeps B2, (r0.keep f.on.keep (by omega)).keep (B2.keep (fun _ => False)) (fun h => h), srow w2 _ _, (ownP_low f.op (by omega)).next B2, (ownK_low f.ok (by omega)).next B2, below_on (b0.trans (f.on.below (by omega) b0.size)) B2, by omega⟩
set_option maxRecDepth 100000 in
set_option maxHeartbeats 4000000 in
theorem cdecode_any (s : ByteArray) (w : World) (hs : s.size ≤ 140737488355328) (hm : MaxL w) : Calls Tryz.prog 15 #[.string s] w fun q w' => ∃ pv kv, q = .returned (.tuple #[cmV pv kv (cdC s), .int .i64 (cdCE s)]) ∧ OwnP w' w.heap.size 107 pv (cdC s).ps ∧ OwnK w' w.heap.size 61 kv (cdC s).ks ∧ Below w.heap.size w w' := by
  have NW : Hid (Calls Tryz.prog 41 #[.string s] (w.alloc (.cells #[.int .i64 0, .string ⟨#[]⟩, .string ⟨#[]⟩, .string ⟨#[]⟩, .int .i64 0, .int .i64 0, .string ⟨#[]⟩, .slice none 0 0, .slice none 0 0] 25)) fun e w' => e = .returned (.pointer (some ⟨w.heap.size + 1, 0, none⟩)) ∧ RdAt w' (w.heap.size + 1) s 0 0 ∧ Below (w.heap.size + 1) (w.alloc (.cells #[.int .i64 0, .string ⟨#[]⟩, .string ⟨#[]⟩, .string ⟨#[]⟩, .int .i64 0, .int .i64 0, .string ⟨#[]⟩, .slice none 0 0, .slice none 0 0] 25)) w') := by
    have := new_reader s (w.alloc (.cells #[.int .i64 0, .string ⟨#[]⟩, .string ⟨#[]⟩, .string ⟨#[]⟩, .int .i64 0, .int .i64 0, .string ⟨#[]⟩, .slice none 0 0, .slice none 0 0] 25))
    rw [show (w.alloc (.cells #[.int .i64 0, .string ⟨#[]⟩, .string ⟨#[]⟩, .string ⟨#[]⟩, .int .i64 0, .int .i64 0, .string ⟨#[]⟩, .slice none 0 0, .slice none 0 0] 25)).heap.size = w.heap.size + 1 from by simp] at this
    exact this
  have RD : Hid (∀ W, RdAt W (w.heap.size + 1) s 0 0 → Calls Tryz.prog 42 #[.pointer (some ⟨w.heap.size + 1, 0, none⟩)] W fun q w' => ∃ pv kv, q = .returned (cmV pv kv (rdC s 0 0).c) ∧ CrF W (w.heap.size + 1) s pv kv (rdC s 0 0) w') := fun W h => cread_any _ s 0 0 W h hs
  have RE : Hid (∀ a e W, RdAt W (w.heap.size + 1) s a e → Calls Tryz.prog 43 #[.pointer (some ⟨w.heap.size + 1, 0, none⟩)] W fun r w' => r = .returned (.int .i64 (endE s a e)) ∧ RdAt w' (w.heap.size + 1) s a (endE s a e) ∧ Only (w.heap.size + 1) W w') := fun a e W h => rd_end _ s a e W h
  have CK : Hid (∀ pv kv b a e W, CdS w s a e b pv kv (rdC s 0 0).c W → Calls Tryz.prog 13 #[cmV pv kv (rdC s 0 0).c] W fun e w' => e = .returned (.int .i64 (ckN (rdC s 0 0).c)) ∧ Below W.heap.size W w') := fun pv kv b a e W h => ccheck_any pv kv _ W h.op.pcs h.ok.pks (by have := rdC_ks s 0 0; omega) (hm.keep (h.bl.keep _))
  have HOK : Hid (ccOk s = ((endE s (rdC s 0 0).a (rdC s 0 0).e == 0) && cmOk (rdC s 0 0).c)) := rfl
  have HD : Hid (cdC s = (if ccOk s = true then (rdC s 0 0).c else cm0) ∧ cdCE s = (if ccOk s = true then 0 else 3)) := ⟨rfl, rfl⟩
  generalize cdC s = DC at *
  generalize cdCE s = DE at *
  generalize ccOk s = OK at *
  generalize rdC s 0 0 = R at *
  have RE1 := hid (RE.out R.a R.e)
  clear hs hm RE
  unfold ckN at CK
  generalize hk0 : cmOk R.c = ok at *
  clear hk0
  generalize endE s R.a R.e = en at *
  obtain ⟨ra, re, c⟩ := R
  simp only at *
  go_enter Tryz.func15, Tryz.ntmps15
  go_wp2_with fail
  refine NW.out.mono ?_
  rintro e1 w1 ⟨rfl, h1, b1⟩
  have H1 := hid h1
  have B1 := hid b1
  clear NW h1 b1
  go_wp2_with fail
  refine (RD.out _ H1.out).mono ?_
  rintro e2 w2 ⟨pv, kv, rfl, f2⟩
  obtain ⟨pa, pc, rfl⟩ := f2.op.form
  obtain ⟨ka, kc, rfl⟩ := f2.ok.form
  have S2 := hid (cds_new B1.out H1.out f2)
  clear RD H1 B1 f2
  unfold cmV at *
  obtain ⟨kd, tk, bk, ky, id, n, sm, ps, ks⟩ := c
  simp only [cmL] at *
  generalize hpl : ps.length = pn at *
  generalize hkl : ks.length = kn at *
  go_wp2_with fail
  generalize w2.alloc (.cells #[.int .i64 kd, .string tk, .string bk, .string ky, .int .i64 id, .int .i64 n, .string sm, .slice pa pn pc, .slice ka kn kc] 25) = V at *
  refine (RE1.out _ S2.out.rd).mono ?_
  rintro e3 w3 ⟨rfl, h3, o3⟩
  have S3 := hid (S2.out.read h3 o3)
  clear RE1 S2 h3 o3
  by_cases hen : en = 0
  · subst hen
    have HNE : w.heap.size ≠ w2.heap.size := by have := S3.out.hb; omega
    have HNE2 : w2.heap.size ≠ w.heap.size := fun h => HNE h.symm
    cases ok
    · obtain rfl : OK = false := HOK.out
      obtain ⟨rfl, rfl⟩ := HD.out
      have CK3 := hid (CK.out _ _ _ _ _ _ S3.out)
      have c0 := S3.out.bc.cellAt (o := 0) rfl
      have d0 := S3.out.rs.cellAt (o := 0) rfl
      have f0 : w3.frozen? ⟨w.heap.size, 0, none⟩ = false := S3.out.rs.frozen
      have c1 := S3.out.bc.cellAt (o := 1) rfl
      have d1 := S3.out.rs.cellAt (o := 1) rfl
      have f1 : w3.frozen? ⟨w.heap.size, 1, none⟩ = false := S3.out.rs.frozen
      have c2 := S3.out.bc.cellAt (o := 2) rfl
      have d2 := S3.out.rs.cellAt (o := 2) rfl
      have f2 : w3.frozen? ⟨w.heap.size, 2, none⟩ = false := S3.out.rs.frozen
      have c3 := S3.out.bc.cellAt (o := 3) rfl
      have d3 := S3.out.rs.cellAt (o := 3) rfl
      have f3 : w3.frozen? ⟨w.heap.size, 3, none⟩ = false := S3.out.rs.frozen
      have c4 := S3.out.bc.cellAt (o := 4) rfl
      have d4 := S3.out.rs.cellAt (o := 4) rfl
      have f4 : w3.frozen? ⟨w.heap.size, 4, none⟩ = false := S3.out.rs.frozen
      have c5 := S3.out.bc.cellAt (o := 5) rfl
      have d5 := S3.out.rs.cellAt (o := 5) rfl
      have f5 : w3.frozen? ⟨w.heap.size, 5, none⟩ = false := S3.out.rs.frozen
      have c6 := S3.out.bc.cellAt (o := 6) rfl
      have d6 := S3.out.rs.cellAt (o := 6) rfl
      have f6 : w3.frozen? ⟨w.heap.size, 6, none⟩ = false := S3.out.rs.frozen
      have c7 := S3.out.bc.cellAt (o := 7) rfl
      have d7 := S3.out.rs.cellAt (o := 7) rfl
      have f7 : w3.frozen? ⟨w.heap.size, 7, none⟩ = false := S3.out.rs.frozen
      have c8 := S3.out.bc.cellAt (o := 8) rfl
      have d8 := S3.out.rs.cellAt (o := 8) rfl
      have f8 : w3.frozen? ⟨w.heap.size, 8, none⟩ = false := S3.out.rs.frozen
      clear CK
      go_wp2_with fail
      refine CK3.out.mono ?_
      rintro e4 w4 ⟨rfl, b4⟩
      have S4 := hid (S3.out.call b4)
      clear CK3 b4 S3 c0 c1 c2 c3 c4 c5 c6 c7 c8 d0 d1 d2 d3 d4 d5 d6 d7 d8 f0 f1 f2 f3 f4 f5 f6 f7 f8
      have d0 := S4.out.rs.cellAt (o := 0) rfl
      have f0 : w4.frozen? ⟨w.heap.size, 0, none⟩ = false := S4.out.rs.frozen
      have d1 := S4.out.rs.cellAt (o := 1) rfl
      have f1 : w4.frozen? ⟨w.heap.size, 1, none⟩ = false := S4.out.rs.frozen
      have d2 := S4.out.rs.cellAt (o := 2) rfl
      have f2 : w4.frozen? ⟨w.heap.size, 2, none⟩ = false := S4.out.rs.frozen
      have d3 := S4.out.rs.cellAt (o := 3) rfl
      have f3 : w4.frozen? ⟨w.heap.size, 3, none⟩ = false := S4.out.rs.frozen
      have d4 := S4.out.rs.cellAt (o := 4) rfl
      have f4 : w4.frozen? ⟨w.heap.size, 4, none⟩ = false := S4.out.rs.frozen
      have d5 := S4.out.rs.cellAt (o := 5) rfl
      have f5 : w4.frozen? ⟨w.heap.size, 5, none⟩ = false := S4.out.rs.frozen
      have d6 := S4.out.rs.cellAt (o := 6) rfl
      have f6 : w4.frozen? ⟨w.heap.size, 6, none⟩ = false := S4.out.rs.frozen
      have d7 := S4.out.rs.cellAt (o := 7) rfl
      have f7 : w4.frozen? ⟨w.heap.size, 7, none⟩ = false := S4.out.rs.frozen
      have d8 := S4.out.rs.cellAt (o := 8) rfl
      have f8 : w4.frozen? ⟨w.heap.size, 8, none⟩ = false := S4.out.rs.frozen
      have FB := hid S4.out.bad
      clear S4
      go_wp2
      exact bodyPost_ret (ret_ct16 (p := 2) (u := 3) rfl _ _ w.heap.size #[.int .i64 0, .string ⟨#[]⟩, .string ⟨#[]⟩, .string ⟨#[]⟩, .int .i64 0, .int .i64 0, .string ⟨#[]⟩, .slice none 0 0, .slice none 0 0] (.int .i64 3) rfl rfl (run_loadVar_row _ _ _ _ _ _ _ FB.out.1 Tryz.underlying25 rfl (by kernel_rfl))) rfl ⟨_, _, rfl, ownP_nil _ _ _, ownK_nil _ _ _, FB.out.2⟩
    · obtain rfl : OK = true := HOK.out
      obtain ⟨rfl, rfl⟩ := HD.out
      have CK3 := hid (CK.out _ _ _ _ _ _ S3.out)
      have c0 := S3.out.bc.cellAt (o := 0) rfl
      have d0 := S3.out.rs.cellAt (o := 0) rfl
      have f0 : w3.frozen? ⟨w.heap.size, 0, none⟩ = false := S3.out.rs.frozen
      have c1 := S3.out.bc.cellAt (o := 1) rfl
      have d1 := S3.out.rs.cellAt (o := 1) rfl
      have f1 : w3.frozen? ⟨w.heap.size, 1, none⟩ = false := S3.out.rs.frozen
      have c2 := S3.out.bc.cellAt (o := 2) rfl
      have d2 := S3.out.rs.cellAt (o := 2) rfl
      have f2 : w3.frozen? ⟨w.heap.size, 2, none⟩ = false := S3.out.rs.frozen
      have c3 := S3.out.bc.cellAt (o := 3) rfl
      have d3 := S3.out.rs.cellAt (o := 3) rfl
      have f3 : w3.frozen? ⟨w.heap.size, 3, none⟩ = false := S3.out.rs.frozen
      have c4 := S3.out.bc.cellAt (o := 4) rfl
      have d4 := S3.out.rs.cellAt (o := 4) rfl
      have f4 : w3.frozen? ⟨w.heap.size, 4, none⟩ = false := S3.out.rs.frozen
      have c5 := S3.out.bc.cellAt (o := 5) rfl
      have d5 := S3.out.rs.cellAt (o := 5) rfl
      have f5 : w3.frozen? ⟨w.heap.size, 5, none⟩ = false := S3.out.rs.frozen
      have c6 := S3.out.bc.cellAt (o := 6) rfl
      have d6 := S3.out.rs.cellAt (o := 6) rfl
      have f6 : w3.frozen? ⟨w.heap.size, 6, none⟩ = false := S3.out.rs.frozen
      have c7 := S3.out.bc.cellAt (o := 7) rfl
      have d7 := S3.out.rs.cellAt (o := 7) rfl
      have f7 : w3.frozen? ⟨w.heap.size, 7, none⟩ = false := S3.out.rs.frozen
      have c8 := S3.out.bc.cellAt (o := 8) rfl
      have d8 := S3.out.rs.cellAt (o := 8) rfl
      have f8 : w3.frozen? ⟨w.heap.size, 8, none⟩ = false := S3.out.rs.frozen
      clear CK
      go_wp2_with fail
      refine CK3.out.mono ?_
      rintro e4 w4 ⟨rfl, b4⟩
      have S4 := hid (S3.out.call b4)
      clear CK3 b4 S3 c0 c1 c2 c3 c4 c5 c6 c7 c8 d0 d1 d2 d3 d4 d5 d6 d7 d8 f0 f1 f2 f3 f4 f5 f6 f7 f8
      have c0 := S4.out.bc.cellAt (o := 0) rfl
      have d0 := S4.out.rs.cellAt (o := 0) rfl
      have f0 : w4.frozen? ⟨w.heap.size, 0, none⟩ = false := S4.out.rs.frozen
      have c1 := S4.out.bc.cellAt (o := 1) rfl
      have d1 := S4.out.rs.cellAt (o := 1) rfl
      have f1 : w4.frozen? ⟨w.heap.size, 1, none⟩ = false := S4.out.rs.frozen
      have c2 := S4.out.bc.cellAt (o := 2) rfl
      have d2 := S4.out.rs.cellAt (o := 2) rfl
      have f2 : w4.frozen? ⟨w.heap.size, 2, none⟩ = false := S4.out.rs.frozen
      have c3 := S4.out.bc.cellAt (o := 3) rfl
      have d3 := S4.out.rs.cellAt (o := 3) rfl
      have f3 : w4.frozen? ⟨w.heap.size, 3, none⟩ = false := S4.out.rs.frozen
      have c4 := S4.out.bc.cellAt (o := 4) rfl
      have d4 := S4.out.rs.cellAt (o := 4) rfl
      have f4 : w4.frozen? ⟨w.heap.size, 4, none⟩ = false := S4.out.rs.frozen
      have c5 := S4.out.bc.cellAt (o := 5) rfl
      have d5 := S4.out.rs.cellAt (o := 5) rfl
      have f5 : w4.frozen? ⟨w.heap.size, 5, none⟩ = false := S4.out.rs.frozen
      have c6 := S4.out.bc.cellAt (o := 6) rfl
      have d6 := S4.out.rs.cellAt (o := 6) rfl
      have f6 : w4.frozen? ⟨w.heap.size, 6, none⟩ = false := S4.out.rs.frozen
      have c7 := S4.out.bc.cellAt (o := 7) rfl
      have d7 := S4.out.rs.cellAt (o := 7) rfl
      have f7 : w4.frozen? ⟨w.heap.size, 7, none⟩ = false := S4.out.rs.frozen
      have c8 := S4.out.bc.cellAt (o := 8) rfl
      have d8 := S4.out.rs.cellAt (o := 8) rfl
      have f8 : w4.frozen? ⟨w.heap.size, 8, none⟩ = false := S4.out.rs.frozen
      have FB := hid S4.out.fin
      simp only [cmL] at FB
      clear S4
      go_wp2
      exact bodyPost_ret (ret_ct16 (p := 2) (u := 3) rfl _ _ w.heap.size #[.int .i64 kd, .string tk, .string bk, .string ky, .int .i64 id, .int .i64 n, .string sm, .slice pa pn pc, .slice ka kn kc] (.int .i64 0) rfl rfl (run_loadVar_row _ _ _ _ _ _ _ FB.out.1 Tryz.underlying25 rfl (by kernel_rfl))) rfl ⟨_, _, rfl, FB.out.2⟩
  · have hq : (en == 0) = false := beq_eq_false_iff_ne.2 hen
    have hq2 : (en != 0) = true := by simp [hen]
    obtain rfl : OK = false := by have := HOK.out; rw [hq] at this; exact this
    obtain ⟨rfl, rfl⟩ := HD.out
    clear hen
    have d0 := S3.out.rs.cellAt (o := 0) rfl
    have f0 : w3.frozen? ⟨w.heap.size, 0, none⟩ = false := S3.out.rs.frozen
    have d1 := S3.out.rs.cellAt (o := 1) rfl
    have f1 : w3.frozen? ⟨w.heap.size, 1, none⟩ = false := S3.out.rs.frozen
    have d2 := S3.out.rs.cellAt (o := 2) rfl
    have f2 : w3.frozen? ⟨w.heap.size, 2, none⟩ = false := S3.out.rs.frozen
    have d3 := S3.out.rs.cellAt (o := 3) rfl
    have f3 : w3.frozen? ⟨w.heap.size, 3, none⟩ = false := S3.out.rs.frozen
    have d4 := S3.out.rs.cellAt (o := 4) rfl
    have f4 : w3.frozen? ⟨w.heap.size, 4, none⟩ = false := S3.out.rs.frozen
    have d5 := S3.out.rs.cellAt (o := 5) rfl
    have f5 : w3.frozen? ⟨w.heap.size, 5, none⟩ = false := S3.out.rs.frozen
    have d6 := S3.out.rs.cellAt (o := 6) rfl
    have f6 : w3.frozen? ⟨w.heap.size, 6, none⟩ = false := S3.out.rs.frozen
    have d7 := S3.out.rs.cellAt (o := 7) rfl
    have f7 : w3.frozen? ⟨w.heap.size, 7, none⟩ = false := S3.out.rs.frozen
    have d8 := S3.out.rs.cellAt (o := 8) rfl
    have f8 : w3.frozen? ⟨w.heap.size, 8, none⟩ = false := S3.out.rs.frozen
    have FB := hid S3.out.bad
    clear S3 CK
    go_wp2
    exact bodyPost_ret (ret_ct16 (p := 2) (u := 3) rfl _ _ w.heap.size #[.int .i64 0, .string ⟨#[]⟩, .string ⟨#[]⟩, .string ⟨#[]⟩, .int .i64 0, .int .i64 0, .string ⟨#[]⟩, .slice none 0 0, .slice none 0 0] (.int .i64 3) rfl rfl (run_loadVar_row _ _ _ _ _ _ _ FB.out.1 Tryz.underlying25 rfl (by kernel_rfl))) rfl ⟨_, _, rfl, ownP_nil _ _ _, ownK_nil _ _ _, FB.out.2⟩
end Go.Proofs.YtmadlnchmkhdjaaGreat
namespace Go.Proofs.YtmadlnchmkhdjaaGreat
open Go.RowKit Go.Maps
set_option linter.unusedVariables false
set_option linter.unusedSimpArgs false

def ca1 : Cm := ⟨1, ⟨#[]⟩, ⟨#[111, 110, 101]⟩, ⟨#[]⟩, 0, 0, ⟨#[]⟩, [], []⟩
def ca2 : Cm := ⟨1, ⟨#[116]⟩, ⟨#[111, 110, 101]⟩, ⟨#[]⟩, 0, 0, ⟨#[]⟩, [], []⟩
theorem ca1_ok : cmOk ca1 = true := by decide +kernel
theorem ca2_ok : cmOk ca2 = true := by decide +kernel
theorem ca1_t : cmT ca1 = ⟨#[1, 0, 3, 111, 110, 101]⟩ := by decide +kernel
theorem ca_cc : ccOk ⟨#[1, 0, 3, 111, 110, 101]⟩ = true := by decide +kernel
theorem ca_bk : (rdC ⟨#[1, 0, 3, 111, 110, 101]⟩ 0 0).c.bk = ⟨#[111, 110, 101]⟩ := by decide +kernel
theorem ca_dg : dgT ca2 = dgT ca1 := by
  unfold dgT
  rw [if_pos ca1_ok, if_pos ca2_ok]
  rfl
theorem ca_len : (dgT ca1).size = 64 := by
  unfold dgT
  rw [if_pos ca1_ok]
  show (hexL _).toArray.size = 64
  rw [List.size_toArray, hexL_len, sha_len]
theorem pcI_none (w : World) : PcI w (.slice none 0 0) [] := (ownP_nil w 0 107).pcs
theorem pkI_none (w : World) : PkI w (.slice none 0 0) [] := (ownK_nil w 0 61).pks
set_option maxRecDepth 100000 in
set_option maxHeartbeats 4000000 in
theorem awake16 (w : World) (hm : MaxL w) : Calls Tryz.prog 12 #[] w fun e w' => e = .returned (.bool true) ∧ Below w.heap.size w w' := by
  have EN : Hid (∀ W, Below w.heap.size w W → Calls Tryz.prog 7 #[.agg #[.int .i64 1, .string ⟨#[]⟩, .string ⟨#[111, 110, 101]⟩, .string ⟨#[]⟩, .int .i64 0, .int .i64 0, .string ⟨#[]⟩, .slice none 0 0, .slice none 0 0]] W fun e w' => e = .returned (.tuple #[.string ⟨#[1, 0, 3, 111, 110, 101]⟩, .int .i64 0]) ∧ Below W.heap.size W w') := fun W hW => by
    have := cencode_any (.slice none 0 0) (.slice none 0 0) ca1 W (pcI_none W) (pkI_none W) (by show (0 : Nat) ≤ _; omega) (hm.keep (hW.keep _))
    rw [ca1_t, show ckN ca1 = 0 from by unfold ckN; rw [if_pos ca1_ok]] at this
    exact this
  have DE : Hid (∀ W, Below w.heap.size w W → Calls Tryz.prog 15 #[.string ⟨#[1, 0, 3, 111, 110, 101]⟩] W fun q w' => ∃ pa pn pc ka kn kc kd tk ky id n sm, q = .returned (.tuple #[.agg #[.int .i64 kd, .string tk, .string ⟨#[111, 110, 101]⟩, .string ky, .int .i64 id, .int .i64 n, .string sm, .slice pa pn pc, .slice ka kn kc], .int .i64 0]) ∧ Below W.heap.size W w') := fun W hW => by
    have := cdecode_any ⟨#[1, 0, 3, 111, 110, 101]⟩ W (by show (6 : Nat) ≤ _; omega) (hm.keep (hW.keep _))
    refine this.mono fun q w' ⟨pv, kv, hq, hp, hk, hb⟩ => ?_
    obtain ⟨pa, pc, rfl⟩ := hp.form
    obtain ⟨ka, kc, rfl⟩ := hk.form
    refine ⟨pa, (cdC ⟨#[1, 0, 3, 111, 110, 101]⟩).ps.length, pc, ka, (cdC ⟨#[1, 0, 3, 111, 110, 101]⟩).ks.length, kc, (cdC ⟨#[1, 0, 3, 111, 110, 101]⟩).kd, (cdC ⟨#[1, 0, 3, 111, 110, 101]⟩).tk, (cdC ⟨#[1, 0, 3, 111, 110, 101]⟩).ky, (cdC ⟨#[1, 0, 3, 111, 110, 101]⟩).id, (cdC ⟨#[1, 0, 3, 111, 110, 101]⟩).n, (cdC ⟨#[1, 0, 3, 111, 110, 101]⟩).sm, ?_, hb⟩
    rw [hq, show cdCE ⟨#[1, 0, 3, 111, 110, 101]⟩ = 0 from by unfold cdCE; rw [if_pos ca_cc]]
    have hbk : (cdC ⟨#[1, 0, 3, 111, 110, 101]⟩).bk = ⟨#[111, 110, 101]⟩ := by
      rw [show cdC ⟨#[1, 0, 3, 111, 110, 101]⟩ = (rdC ⟨#[1, 0, 3, 111, 110, 101]⟩ 0 0).c from by unfold cdC; rw [if_pos ca_cc]]
      exact ca_bk
    unfold cmV
    rw [hbk]
  have D1 : Hid (∀ W, Below w.heap.size w W → Calls Tryz.prog 10 #[.agg #[.int .i64 1, .string ⟨#[]⟩, .string ⟨#[111, 110, 101]⟩, .string ⟨#[]⟩, .int .i64 0, .int .i64 0, .string ⟨#[]⟩, .slice none 0 0, .slice none 0 0]] W fun e w' => e = .returned (.tuple #[.string (dgT ca1), .int .i64 0]) ∧ Below W.heap.size W w') := fun W hW => by
    have := cdigest_any (.slice none 0 0) (.slice none 0 0) ca1 W (pcI_none W) (pkI_none W) (by show (0 : Nat) ≤ _; omega) (hm.keep (hW.keep _))
    rw [show ckN ca1 = 0 from by unfold ckN; rw [if_pos ca1_ok]] at this
    exact this
  have D2 : Hid (∀ W, Below w.heap.size w W → Calls Tryz.prog 10 #[.agg #[.int .i64 1, .string ⟨#[116]⟩, .string ⟨#[111, 110, 101]⟩, .string ⟨#[]⟩, .int .i64 0, .int .i64 0, .string ⟨#[]⟩, .slice none 0 0, .slice none 0 0]] W fun e w' => e = .returned (.tuple #[.string (dgT ca1), .int .i64 0]) ∧ Below W.heap.size W w') := fun W hW => by
    have := cdigest_any (.slice none 0 0) (.slice none 0 0) ca2 W (pcI_none W) (pkI_none W) (by show (0 : Nat) ≤ _; omega) (hm.keep (hW.keep _))
    rw [ca_dg, show ckN ca2 = 0 from by unfold ckN; rw [if_pos ca2_ok]] at this
    exact this
  have hlen := ca_len
  clear hm
  generalize dgT ca1 = DG at *
  have hl2 : (DG.size : Int) = 64 := by omega
  have BA := hid (below_al (Below.refl w.heap.size w) (.cells #[.int .i64 1, .string ⟨#[]⟩, .string ⟨#[111, 110, 101]⟩, .string ⟨#[]⟩, .int .i64 0, .int .i64 0, .string ⟨#[]⟩, .slice none 0 0, .slice none 0 0] 25))
  have RW : Hid (∀ W, Below (w.alloc (.cells #[.int .i64 1, .string ⟨#[]⟩, .string ⟨#[111, 110, 101]⟩, .string ⟨#[]⟩, .int .i64 0, .int .i64 0, .string ⟨#[]⟩, .slice none 0 0, .slice none 0 0] 25)).heap.size (w.alloc (.cells #[.int .i64 1, .string ⟨#[]⟩, .string ⟨#[111, 110, 101]⟩, .string ⟨#[]⟩, .int .i64 0, .int .i64 0, .string ⟨#[]⟩, .slice none 0 0, .slice none 0 0] 25)) W → RowIs W w.heap.size [.int .i64 1, .string ⟨#[]⟩, .string ⟨#[111, 110, 101]⟩, .string ⟨#[]⟩, .int .i64 0, .int .i64 0, .string ⟨#[]⟩, .slice none 0 0, .slice none 0 0] 25) := fun W hW => (srow w [.int .i64 1, .string ⟨#[]⟩, .string ⟨#[111, 110, 101]⟩, .string ⟨#[]⟩, .int .i64 0, .int .i64 0, .string ⟨#[]⟩, .slice none 0 0, .slice none 0 0] 25).keep (hW.keep (fun _ => False)) (fun h => h)
  have BX : Hid (∀ W, Below (w.alloc (.cells #[.int .i64 1, .string ⟨#[]⟩, .string ⟨#[111, 110, 101]⟩, .string ⟨#[]⟩, .int .i64 0, .int .i64 0, .string ⟨#[]⟩, .slice none 0 0, .slice none 0 0] 25)).heap.size (w.alloc (.cells #[.int .i64 1, .string ⟨#[]⟩, .string ⟨#[111, 110, 101]⟩, .string ⟨#[]⟩, .int .i64 0, .int .i64 0, .string ⟨#[]⟩, .slice none 0 0, .slice none 0 0] 25)) W → W.cell? ⟨w.heap.size, 0, none⟩ = some (.int .i64 1) ∧ W.cell? ⟨w.heap.size, 1, none⟩ = some (.string ⟨#[]⟩) ∧ W.cell? ⟨w.heap.size, 2, none⟩ = some (.string ⟨#[111, 110, 101]⟩) ∧ W.cell? ⟨w.heap.size, 3, none⟩ = some (.string ⟨#[]⟩) ∧ W.cell? ⟨w.heap.size, 4, none⟩ = some (.int .i64 0) ∧ W.cell? ⟨w.heap.size, 5, none⟩ = some (.int .i64 0) ∧ W.cell? ⟨w.heap.size, 6, none⟩ = some (.string ⟨#[]⟩) ∧ W.cell? ⟨w.heap.size, 7, none⟩ = some (.slice none 0 0) ∧ W.cell? ⟨w.heap.size, 8, none⟩ = some (.slice none 0 0)) := fun W hW => by
    have q := RW.out W hW
    exact ⟨q.cellAt rfl, q.cellAt rfl, q.cellAt rfl, q.cellAt rfl, q.cellAt rfl, q.cellAt rfl, q.cellAt rfl, q.cellAt rfl, q.cellAt rfl⟩
  have B0 := hid (Below.refl (w.alloc (.cells #[.int .i64 1, .string ⟨#[]⟩, .string ⟨#[111, 110, 101]⟩, .string ⟨#[]⟩, .int .i64 0, .int .i64 0, .string ⟨#[]⟩, .slice none 0 0, .slice none 0 0] 25)).heap.size (w.alloc (.cells #[.int .i64 1, .string ⟨#[]⟩, .string ⟨#[111, 110, 101]⟩, .string ⟨#[]⟩, .int .i64 0, .int .i64 0, .string ⟨#[]⟩, .slice none 0 0, .slice none 0 0] 25)))
  obtain ⟨c0, c1, c2, c3, c4, c5, c6, c7, c8⟩ := BX.out _ B0.out
  go_enter Tryz.func12, Tryz.ntmps12
  go_wp2_with fail
  refine (EN.out _ (below_on BA.out B0.out)).mono ?_
  rintro e w1 ⟨rfl, b1⟩
  have B1 := hid b1
  clear EN b1 B0 c0 c1 c2 c3 c4 c5 c6 c7 c8
  go_wp2_with fail
  refine (DE.out _ (below_on BA.out B1.out)).mono ?_
  rintro e w2 ⟨pa, pn, pc, ka, kn, kc, kd, tk, ky, id, n, sm, rfl, b2⟩
  have B2 := hid (below_al (below_on B1.out b2) (.cells #[.int .i64 kd, .string tk, .string ⟨#[111, 110, 101]⟩, .string ky, .int .i64 id, .int .i64 n, .string sm, .slice pa pn pc, .slice ka kn kc] 25))
  have R2 := hid (srow w2 [.int .i64 kd, .string tk, .string ⟨#[111, 110, 101]⟩, .string ky, .int .i64 id, .int .i64 n, .string sm, .slice pa pn pc, .slice ka kn kc] 25)
  have HN : Hid (w.heap.size < w2.heap.size) := by
    have h1 := (below_on B1.out b2).size
    have h2 : (w.alloc (.cells #[.int .i64 1, .string ⟨#[]⟩, .string ⟨#[111, 110, 101]⟩, .string ⟨#[]⟩, .int .i64 0, .int .i64 0, .string ⟨#[]⟩, .slice none 0 0, .slice none 0 0] 25)).heap.size = w.heap.size + 1 := by simp
    show _ < _
    omega
  clear DE b2 B1
  obtain ⟨c0, c1, c2, c3, c4, c5, c6, c7, c8⟩ := BX.out _ B2.out
  go_wp2_with fail
  refine (D1.out _ (below_on BA.out B2.out)).mono ?_
  rintro e w3 ⟨rfl, b3⟩
  have B3 := hid (below_on B2.out b3)
  have R3 := hid (R2.out.keep (b3.keep (fun _ => False)) (fun h => h))
  clear D1 b3 B2 R2 c0 c1 c2 c3 c4 c5 c6 c7 c8
  obtain ⟨c0, c1, c2, c3, c4, c5, c6, c7, c8⟩ := BX.out _ B3.out
  have f1 : w3.frozen? ⟨w.heap.size, 1, none⟩ = false := (RW.out _ B3.out).frozen
  have B4 : Hid (Below w.heap.size w (w3.setCell ⟨w.heap.size, 1, none⟩ (.string ⟨#[116]⟩))) := (below_on BA.out B3.out).trans (keep_below (keep_setCell w3 w.heap.size 1 (.string ⟨#[116]⟩)) (fun j hj e => by omega) (below_on BA.out B3.out).size)
  have R4 := hid (R3.out.keep (keep_setCell w3 w.heap.size 1 (.string ⟨#[116]⟩)) (by have := HN.out; omega))
  clear RW BX BA B3 R3
  go_wp2_with fail
  refine (D2.out _ B4.out).mono ?_
  rintro e w4 ⟨rfl, b4⟩
  have B5 := hid (below_on B4.out b4)
  have d2 := (R4.out.keep (b4.keep (fun _ => False)) (fun h => h)).cellAt (o := 2) rfl
  clear D2 b4 B4 R4 c0 c1 c2 c3 c4 c5 c6 c7 c8 f1
  have hsz : decide ((DG.size : Int) = 64) = true := decide_eq_true hl2
  go_wp2
  go_ret
  exact ⟨rfl, B5.out⟩
end Go.Proofs.YtmadlnchmkhdjaaGreat
