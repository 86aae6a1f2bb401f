/- Joined: Picks that a reader takes. What a reader takes as a command: the program's closures. The program's read: a command that a reader takes. -/
import Derived.Test.YtmadlnchmkhdjaaGreatCmT
import Derived.Test.YtmadlnchmkhdjaaGreatJoined18
namespace Go.Proofs.YtmadlnchmkhdjaaGreat
open Go.RowKit Go.Maps
set_option linter.unusedVariables false
set_option linter.unusedSimpArgs false

theorem elK : ElT 23 61 2 24 := ⟨Tryz.underlying23, ⟨.agg #[.int .i64 0, .string ⟨#[]⟩], by kernel_rfl, rfl⟩, by decide⟩
def OwnK (w : World) (B t : Nat) (v : Value) (l : List Pk) : Prop := w.ownsRow B t 2 v l.length (kqC l)
theorem ownK_nil (w : World) (B t : Nat) : OwnK w B t (.slice none 0 0) [] := ⟨rfl, .inl ⟨rfl, rfl⟩⟩
theorem OwnK.pks {w : World} {B t : Nat} {v : Value} {l : List Pk} (h : OwnK w B t v l) : PkI w v l := RowC.own h
theorem OwnK.form {w : World} {B t : Nat} {v : Value} {l : List Pk} (h : OwnK w B t v l) : ∃ ad cap, v = .slice ad l.length cap := row_form h
theorem OwnK.next {w w' : World} {B t : Nat} {v : Value} {l : List Pk} (h : OwnK w B t v l) (hB : Below w.heap.size w w') : OwnK w' B t v l := (hB.keep (fun _ => False)).ownsRow h (fun _ _ h => h)
theorem pkC_one1 (k : Pk) : ∀ u ∈ pkC k, u.oneCell' = true := fun u hu => by
  simp [pkC] at hu
  rcases hu with h | h <;> subst h <;> rfl
structure DkR where
  a : Int
  e : Int
  l : List Pk
def dcK (s : ByteArray) : Nat → Int → Int → DkR
  | 0, a, e => ⟨a, e, []⟩
  | j + 1, a, e =>
    let n := dcN s 100 a e
    let t := tS s n.a n.e 64
    let r := dcK s j t.a t.e
    ⟨r.a, r.e, ⟨(n.n : Int), t.x⟩ :: r.l⟩
def rdK (s : ByteArray) (a e : Int) : DkR := dcK s (dcN s 100 a e).n (dcN s 100 a e).a (dcN s 100 a e).e
theorem dcK_len (s : ByteArray) : ∀ (j : Nat) (a e : Int), (dcK s j a e).l.length = j
  | 0, _, _ => rfl
  | j + 1, a, e => by simp only [dcK, List.length_cons]; rw [dcK_len s j]
theorem rdK_len (s : ByteArray) (a e : Int) : (rdK s a e).l.length ≤ 100 := by
  unfold rdK
  rw [dcK_len]
  have := dcN_le s 100 a e (by omega)
  omega
/-- a reader at g, and pieces in a row behind it -/
structure KrS (w : World) (g : Nat) (s : ByteArray) (a e : Int) (v : Value) (acc : List Pk) (W : World) : Prop where
  rd : RdAt W g s a e
  own : OwnK W w.heap.size 61 v acc
  on : Only g w W
  lt : g < w.heap.size
theorem KrS.read {w W W' : World} {g : Nat} {s : ByteArray} {a e a' e' : Int} {v : Value} {acc : List Pk} (h : KrS w g s a e v acc W) (hr : RdAt W' g s a' e') (ho : Only g W W') : KrS w g s a' e' v acc W' :=
  ⟨hr, ho.keep.ownsRow h.own (fun k hk e => by have := ownsRow_ge h.own hk; have := h.lt; omega), h.on.trans ho, h.lt⟩
theorem KrS.al {w W : World} {g : Nat} {s : ByteArray} {a e : Int} {v : Value} {acc : List Pk} (h : KrS w g s a e v acc W) (o : Obj) : KrS w g s a e v acc (W.alloc o) :=
  h.read (h.rd.keeps ((Below.refl _ _).alloc (Nat.le_refl _) o)) (((Below.refl _ _).alloc (Nat.le_refl _) o).only g)
theorem KrS.app {w W W' : World} {g : Nat} {s : ByteArray} {a e : Int} {v v' : Value} {acc acc' : List Pk} (h : KrS w g s a e v acc W) (ho : OwnK W' w.heap.size 61 v' acc') (hk : Keep (fun k => v.ownBlock = some k) W W') : KrS w g s a e v' acc' W' := by
  have hge := fun k (e : v.ownBlock = some k) => ownsRow_ge h.own e
  have hl := h.lt
  exact ⟨h.rd.same (hk.block _ (rd_lt h.rd) (fun e => by have := hge _ e; omega)), ho, ⟨hk.os.trans h.on.os, hk.tape.trans h.on.tape, hk.output.trans h.on.output, Nat.le_trans h.on.size hk.size, fun k hk' hg => (hk.block k (Nat.lt_of_lt_of_le hk' h.on.size) (fun e => by have := hge _ e; omega)).trans (h.on.block k hk' hg)⟩, h.lt⟩
set_option maxRecDepth 100000 in
set_option maxHeartbeats 2000000 in
theorem kread_any (g : Nat) (t : ByteArray) (a0 e0 : Int) (w : World) (h : RdAt w g t a0 e0) (hs : t.size ≤ 140737488355328) : Calls Tryz.prog 85 #[.pointer (some ⟨g, 0, none⟩)] w fun r w' => ∃ ad cap, r = .returned (.slice ad (rdK t a0 e0).l.length cap) ∧ KrS w g t (rdK t a0 e0).a (rdK t a0 e0).e (.slice ad (rdK t a0 e0).l.length cap) (rdK t a0 e0).l w' := by
  have hsm : t.size ≤ maxLen := by unfold maxLen; omega
  have RI : Hid (∀ (m a e : Int) (W : World), RdAt W g t a e → m ≤ 9223372036854775807 → Calls Tryz.prog 54 #[.pointer (some ⟨g, 0, none⟩), .int .i64 m] W fun r w' => r = .returned (.int .i64 (dcN t m a e).n) ∧ RdAt w' g t (dcN t m a e).a (dcN t m a e).e ∧ Only g W w') := fun m a e W h hm => rd_int g t a e m W h hsm hm (nS_int t a e m hm)
  have RT : Hid (∀ (a e : Int) (W : World), RdAt W g t a e → Calls Tryz.prog 55 #[.pointer (some ⟨g, 0, none⟩), .int .i64 64] W fun r w' => r = .returned (.string (tS t a e 64).x) ∧ RdAt w' g t (tS t a e 64).a (tS t a e 64).e ∧ Only g W w') := fun a e W h => rd_text g t a e 64 W h hs
  obtain ⟨N, hN⟩ : ∃ N, N = dcN t 100 a0 e0 := ⟨_, rfl⟩
  have RN := hid (fun W h => RI.out 100 a0 e0 W h (by omega))
  have HN5 := hid (dcN_le t 100 a0 e0 (by omega))
  have HM : Hid (rdK t a0 e0 = dcK t (N.n - 0) N.a N.e) := by show _ = _; rw [hN]; rfl
  rw [← hN] at RN HN5
  have H0 : Hid (KrS w g t a0 e0 (.slice none 0 0) [] w) := ⟨h, ownK_nil _ _ _, Only.refl _ _, rd_lt h⟩
  obtain ⟨na, ne, n0⟩ := N
  simp only at *
  clear hs hsm hN h
  generalize rdK t a0 e0 = M at *
  go_enter Tryz.func85, Tryz.ntmps85
  go_wp2_with fail
  refine (RN.out _ H0.out.rd).mono ?_
  rintro e w1 ⟨rfl, h1, o1⟩
  have H1 := hid (H0.out.read h1 o1)
  clear h1 o1 RN H0
  go_wp2
  go_loopw [3, 6] (fun o i wr => ∃ (k : Nat) (acc : List Pk) (ad : Option Addr) (cap : Nat) (a e : Int), k ≤ n0 ∧ o = .slice ad k cap ∧ i = .int .i64 (k : Int) ∧ Hid (acc.length = k) ∧ Hid (KrS w g t a e (.slice ad k cap) acc wr) ∧ Hid (M = ⟨(dcK t (n0 - k) a e).a, (dcK t (n0 - k) a e).e, acc ++ (dcK t (n0 - k) a e).l⟩)) (fun _ i _ => n0 - (intOf i).toNat)
  case atStart => exact ⟨0, [], none, 0, na, ne, Nat.zero_le _, rfl, rfl, rfl, H1, HM⟩
  case round =>
    clear H1 HM
    obtain ⟨k, acc, ad, cap, a, e, hk, rfl, rfl, HA, HS, HM⟩ := hrel
    by_cases hlt : k < n0
    · have hk1 : (k : Int) < (n0 : Int) := by omega
      have hk5 : k < 100 := by have := HN5.out; omega
      have hwk : wrap64 ((k : Int) + 1) = ((k + 1 : Nat) : Int) := by rw [IntWalk.wrap64_in _ (by omega)]; omega
      have RY := hid (fun W h => RI.out 100 a e W h (by omega))
      have RX := hid (fun W h => RT.out (dcN t 100 a e).a (dcN t 100 a e).e W h)
      have HM2 : Hid (M = ⟨(dcK t (n0 - (k + 1)) (tS t (dcN t 100 a e).a (dcN t 100 a e).e 64).a (tS t (dcN t 100 a e).a (dcN t 100 a e).e 64).e).a, (dcK t (n0 - (k + 1)) (tS t (dcN t 100 a e).a (dcN t 100 a e).e 64).a (tS t (dcN t 100 a e).a (dcN t 100 a e).e 64).e).e, (acc ++ [⟨((dcN t 100 a e).n : Int), (tS t (dcN t 100 a e).a (dcN t 100 a e).e 64).x⟩]) ++ (dcK t (n0 - (k + 1)) (tS t (dcN t 100 a e).a (dcN t 100 a e).e 64).a (tS t (dcN t 100 a e).a (dcN t 100 a e).e 64).e).l⟩) := by
        show _ = _
        rw [HM.out, show n0 - k = (n0 - (k + 1)) + 1 by omega]
        simp only [dcK, List.append_assoc, List.singleton_append]
      generalize hY : dcN t 100 a e = Y at *
      generalize hX : tS t Y.a Y.e 64 = X at *
      obtain ⟨ya, ye, yn⟩ := Y
      obtain ⟨xa, xe, xx⟩ := X
      simp only at *
      have HLT := hid hlt
      clear hX hY HM RT RI HN5 hlt hk
      go_wp2_with fail
      refine (RY.out _ HS.out.rd).mono ?_
      rintro e' w2 ⟨rfl, h2, o2⟩
      have H2 := hid (HS.out.read h2 o2)
      clear h2 o2 RY HS
      go_wp2_with fail
      refine (RX.out _ H2.out.rd).mono ?_
      rintro e' w3 ⟨rfl, h3, o3⟩
      have H3 := hid (H2.out.read h3 o3)
      clear h3 o3 RX H2
      have H4 := hid (H3.out.al (.cells #[.int .i64 (yn : Int), .string xx] 61))
      have HGA : Hid ((w3.alloc (.cells #[.int .i64 (yn : Int), .string xx] 61)).ownsRow w.heap.size 61 2 (.slice ad k cap) k (kqC acc)) := by have := H4.out.own; unfold OwnK at this; rw [HA.out] at this; exact this
      have HGX : Hid (GSrc (w3.alloc (.cells #[.int .i64 (yn : Int), .string xx] 61)) (.slice (some ⟨w3.heap.size, 0, none⟩) 1 1) 1 (pkC ⟨yn, xx⟩)) := gsrc_block (heap_alloc_new _ _)
      have HSZ : Hid (w.heap.size ≤ (w3.alloc (.cells #[.int .i64 (yn : Int), .string xx] 61)).heap.size) := H4.out.on.size
      have HO1 := hid (pkC_one1 ⟨yn, xx⟩)
      have HX2 : Hid ((pkC ⟨yn, xx⟩).length = 1 * 2) := rfl
      have HB1 : Hid (k + 1 ≤ 4611686018427387904) := by show _ ≤ _; omega
      have HB2 : Hid ((k + 1) * 24 ≤ 140737488355328) := by show _ ≤ _; omega
      have HA2 : Hid ((acc ++ [(⟨(yn : Int), xx⟩ : Pk)]).length = k + 1) := by show _ = _; rw [List.length_append, HA.out]; rfl
      have FIN : Hid (∀ ad' cap' w', w'.ownsRow w.heap.size 61 2 (.slice ad' (k + 1) cap') (k + 1) (kqC acc ++ pkC ⟨yn, xx⟩) → Keep (fun j => (Value.slice ad k cap).ownBlock = some j) (w3.alloc (.cells #[.int .i64 (yn : Int), .string xx] 61)) w' → Hid (KrS w g t xa xe (.slice ad' (k + 1) cap') (acc ++ [(⟨(yn : Int), xx⟩ : Pk)]) w')) := fun ad' cap' w' hr hk' => by
        refine H4.out.app ?_ hk'
        unfold OwnK
        rw [HA2.out, show kqC (acc ++ [(⟨(yn : Int), xx⟩ : Pk)]) = kqC acc ++ pkC ⟨yn, xx⟩ by simp [kqC]]
        exact hr
      clear H4 H3 HA
      generalize pkC ⟨yn, xx⟩ = XS at *
      generalize kqC acc = PA at *
      go_wp2_with (at_builtin; refine wpl_gappL rfl _ _ elK rfl w.heap.size (.slice ad k cap) (.slice (some ⟨w3.heap.size, 0, none⟩) 1 1) PA XS k 1 (k + 1) rfl rfl rfl HGA.out HSZ.out HGX.out HX2.out HO1.out HB1.out HB2.out ?_; intro ad' cap' w' hr' hk')
      have F1 := FIN.out _ _ _ hr' hk'
      clear hr' hk' FIN HGA HGX HSZ
      go_wp2
      exact ⟨⟨k + 1, _, _, _, xa, xe, HLT.out, rfl, by first | rw [hwk] | rfl | simp, HA2, F1, HM2⟩, by (try rw [hwk]); have := HLT.out; simp [intOf]; omega⟩
    · have hk9 : k = n0 := by omega
      have hdl : decide ((k : Int) < (n0 : Int)) = false := decide_eq_false (by omega)
      have hdl2 : decide (k < n0) = false := decide_eq_false (by omega)
      have HM2 : M = ⟨a, e, acc⟩ := by rw [HM.out, hk9, Nat.sub_self]; simp [dcK]
      subst HM2
      clear HM RI RT HN5 hlt hk hk9
      go_wp2
      go_ret
      refine ⟨ad, cap, ?_, ?_⟩
      · simp only; rw [HA.out]; rfl
      · rw [HA.out]; exact HS.out
end Go.Proofs.YtmadlnchmkhdjaaGreat
namespace Go.Proofs.YtmadlnchmkhdjaaGreat
open Go.RowKit Go.Maps
set_option linter.unusedVariables false
set_option linter.unusedSimpArgs false

theorem own_low2 {w : World} {B B' e s n : Nat} {v : Value} {xs : List Value} (h : w.ownsRow B e s v n xs) (hB : B' ≤ B) : w.ownsRow B' e s v n xs := by
  refine ⟨h.1, h.2.imp id ?_⟩
  rintro ⟨g, cap, cur, e1, hg, r⟩
  exact ⟨g, cap, cur, e1, Nat.le_trans hB hg, r⟩
theorem ownP_low {w : World} {B B' t : Nat} {v : Value} {l : List Pc} (h : OwnP w B t v l) (hB : B' ≤ B) : OwnP w B' t v l := own_low2 h hB
theorem ownK_low {w : World} {B B' t : Nat} {v : Value} {l : List Pk} (h : OwnK w B t v l) (hB : B' ≤ B) : OwnK w B' t v l := own_low2 h hB
/-- a reader behind some fields, and these -/
structure CrR where
  a : Int
  e : Int
  c : Cm
def s1 (s : ByteArray) (h : Int) (r : CrR) : CrR := if hasF h 1 = true then ⟨(tS s r.a r.e 1024).a, (tS s r.a r.e 1024).e, { r.c with tk := (tS s r.a r.e 1024).x }⟩ else r
def s2 (s : ByteArray) (h : Int) (r : CrR) : CrR := if hasF h 2 = true then ⟨(tS s r.a r.e 1024).a, (tS s r.a r.e 1024).e, { r.c with bk := (tS s r.a r.e 1024).x }⟩ else r
def s3 (s : ByteArray) (h : Int) (r : CrR) : CrR := if hasF h 4 = true then ⟨(tS s r.a r.e 1024).a, (tS s r.a r.e 1024).e, { r.c with ky := (tS s r.a r.e 1024).x }⟩ else r
def s4 (s : ByteArray) (h : Int) (r : CrR) : CrR := if hasF h 8 = true then ⟨(dcN s 1099511627776 r.a r.e).a, (dcN s 1099511627776 r.a r.e).e, { r.c with id := ((dcN s 1099511627776 r.a r.e).n : Int) }⟩ else r
def s5 (s : ByteArray) (h : Int) (r : CrR) : CrR := if hasF h 16 = true then ⟨(dcN s 100 r.a r.e).a, (dcN s 100 r.a r.e).e, { r.c with n := ((dcN s 100 r.a r.e).n : Int) }⟩ else r
def s6 (s : ByteArray) (h : Int) (r : CrR) : CrR := if hasF h 32 = true then ⟨(tS s r.a r.e 64).a, (tS s r.a r.e 64).e, { r.c with sm := (tS s r.a r.e 64).x }⟩ else r
def s7 (s : ByteArray) (h : Int) (r : CrR) : CrR := if hasF h 64 = true then ⟨(rdP s r.a r.e).a, (rdP s r.a r.e).e, { r.c with ps := (rdP s r.a r.e).l }⟩ else r
def s8 (s : ByteArray) (h : Int) (r : CrR) : CrR := if hasF h 128 = true then ⟨(rdK s r.a r.e).a, (rdK s r.a r.e).e, { r.c with ks := (rdK s r.a r.e).l }⟩ else r
def r0 (s : ByteArray) (a e : Int) : CrR := ⟨(dcN s 10 a e).a, (dcN s 10 a e).e, ⟨((dcN s 10 a e).n : Int), ⟨#[]⟩, ⟨#[]⟩, ⟨#[]⟩, 0, 0, ⟨#[]⟩, [], []⟩⟩
def rdC (s : ByteArray) (a e : Int) : CrR :=
  let h := flN ((dcN s 10 a e).n : Int)
  s8 s h (s7 s h (s6 s h (s5 s h (s4 s h (s3 s h (s2 s h (s1 s h (r0 s a e))))))))
/-- the memory of read -/
structure CrS (w : World) (g : Nat) (s : ByteArray) (h : Int) (C : Nat) (pv kv : Value) (r : CrR) (W : World) : Prop where
  rd : RdAt W g s r.a r.e
  bx : RowIs W w.heap.size [.pointer (some ⟨g, 0, none⟩)] 74
  rs : RowIs W (w.heap.size + 1) [.int .i64 0, .string ⟨#[]⟩, .string ⟨#[]⟩, .string ⟨#[]⟩, .int .i64 0, .int .i64 0, .string ⟨#[]⟩, .slice none 0 0, .slice none 0 0] 25
  bc : RowIs W C (cmL pv kv r.c) 25
  hs : RowIs W (C + 1) [.int .u64 h] 68
  op : OwnP W (C + 2) 107 pv r.c.ps
  ok : OwnK W (C + 2) 61 kv r.c.ks
  on : Only g w W
  lt : g < w.heap.size
  cl : w.heap.size + 2 ≤ C
theorem CrS.read {w W W' : World} {g : Nat} {s : ByteArray} {h : Int} {C : Nat} {pv kv : Value} {r : CrR} {a e : Int} (x : CrS w g s h C pv kv r W) (hr : RdAt W' g s a e) (ho : Only g W W') : CrS w g s h C pv kv ⟨a, e, r.c⟩ W' :=
  have hl := x.lt
  have hc := x.cl
  have k := ho.keep
  ⟨hr, x.bx.keep k (by omega), x.rs.keep k (by omega), x.bc.keep k (by omega), x.hs.keep k (by omega), k.ownsRow x.op (fun b hb e => by have := ownsRow_ge x.op hb; omega), k.ownsRow x.ok (fun b hb e => by have := ownsRow_ge x.ok hb; omega), x.on.trans ho, x.lt, x.cl⟩
theorem CrS.put {w W : World} {g : Nat} {s : ByteArray} {h : Int} {C : Nat} {pv kv pv' kv' : Value} {r : CrR} {c : Cm} (x : CrS w g s h C pv kv r W) (j : Nat) (u : Value) (he : (cmL pv kv r.c).set j u = cmL pv' kv' c) (hp : OwnP W (C + 2) 107 pv' c.ps) (hk : OwnK W (C + 2) 61 kv' c.ks) : CrS w g s h C pv' kv' ⟨r.a, r.e, c⟩ (W.setCell ⟨C, j, none⟩ u) := by
  have hl := x.lt
  have hc := x.cl
  have k := keep_setCell W C j u
  have on : Only g W (W.setCell ⟨C, j, none⟩ u) ∨ True := .inr trivial
  refine ⟨x.rd.same (k.block _ (rd_lt x.rd) (by omega)), x.bx.keep k (by omega), x.rs.keep k (by omega), ?_, x.hs.keep k (by omega), k.ownsRow hp (fun b hb e => by have := ownsRow_ge hp hb; omega), k.ownsRow hk (fun b hb e => by have := ownsRow_ge hk hb; omega), ⟨k.os.trans x.on.os, k.tape.trans x.on.tape, k.output.trans x.on.output, Nat.le_trans x.on.size k.size, fun b hb hg => (k.block b (Nat.lt_of_lt_of_le hb x.on.size) (by omega)).trans (x.on.block b hb hg)⟩, x.lt, x.cl⟩
  rw [← he]
  exact x.bc.set j u
set_option maxRecDepth 100000 in
set_option maxHeartbeats 2000000 in
theorem clo1 {w W : World} {g : Nat} {s : ByteArray} {h : Int} {C : Nat} {pv kv : Value} {r : CrR} (x : CrS w g s h C pv kv r W) (hs : s.size ≤ 140737488355328) : Calls Tryz.prog 76 #[.pointer (some ⟨w.heap.size, 0, none⟩), .pointer (some ⟨C, 0, none⟩)] W fun e w' => e = .returned (.tuple #[]) ∧ CrS w g s h C pv kv ⟨(tS s r.a r.e 1024).a, (tS s r.a r.e 1024).e, { r.c with tk := (tS s r.a r.e 1024).x }⟩ w' := by
  have hsm : s.size ≤ maxLen := by unfold maxLen; omega
  have RT : Hid (Calls Tryz.prog 55 #[.pointer (some ⟨g, 0, none⟩), .int .i64 1024] W fun e w' => e = .returned (.string (tS s r.a r.e 1024).x) ∧ RdAt w' g s (tS s r.a r.e 1024).a (tS s r.a r.e 1024).e ∧ Only g W w') := rd_text g s r.a r.e 1024 W x.rd hs
  have b0 := x.bx.cellAt (o := 0) rfl
  have HX := hid x
  generalize tS s r.a r.e 1024 = X at *
  obtain ⟨xa, xe, xx⟩ := X
  simp only at *
  clear hs hsm x
  go_enter Tryz.func76, Tryz.ntmps76
  go_wp2_with fail
  refine RT.out.mono ?_
  rintro e w1 ⟨rfl, h1, o1⟩
  have H1 := hid (HX.out.read h1 o1)
  have y1 := H1.out.bc.cellAt (o := 1) rfl
  have f1 : w1.frozen? ⟨C, 1, none⟩ = false := H1.out.bc.frozen
  have H2 := hid (H1.out.put (c := { r.c with tk := xx }) 1 (.string xx) rfl H1.out.op H1.out.ok)
  clear RT h1 o1 HX H1 b0
  go_wp2
  go_end0
  exact ⟨rfl, H2.out⟩
set_option maxRecDepth 100000 in
set_option maxHeartbeats 2000000 in
theorem clo2 {w W : World} {g : Nat} {s : ByteArray} {h : Int} {C : Nat} {pv kv : Value} {r : CrR} (x : CrS w g s h C pv kv r W) (hs : s.size ≤ 140737488355328) : Calls Tryz.prog 77 #[.pointer (some ⟨w.heap.size, 0, none⟩), .pointer (some ⟨C, 0, none⟩)] W fun e w' => e = .returned (.tuple #[]) ∧ CrS w g s h C pv kv ⟨(tS s r.a r.e 1024).a, (tS s r.a r.e 1024).e, { r.c with bk := (tS s r.a r.e 1024).x }⟩ w' := by
  have hsm : s.size ≤ maxLen := by unfold maxLen; omega
  have RT : Hid (Calls Tryz.prog 55 #[.pointer (some ⟨g, 0, none⟩), .int .i64 1024] W fun e w' => e = .returned (.string (tS s r.a r.e 1024).x) ∧ RdAt w' g s (tS s r.a r.e 1024).a (tS s r.a r.e 1024).e ∧ Only g W w') := rd_text g s r.a r.e 1024 W x.rd hs
  have b0 := x.bx.cellAt (o := 0) rfl
  have HX := hid x
  generalize tS s r.a r.e 1024 = X at *
  obtain ⟨xa, xe, xx⟩ := X
  simp only at *
  clear hs hsm x
  go_enter Tryz.func77, Tryz.ntmps77
  go_wp2_with fail
  refine RT.out.mono ?_
  rintro e w1 ⟨rfl, h1, o1⟩
  have H1 := hid (HX.out.read h1 o1)
  have y2 := H1.out.bc.cellAt (o := 2) rfl
  have f2 : w1.frozen? ⟨C, 2, none⟩ = false := H1.out.bc.frozen
  have H2 := hid (H1.out.put (c := { r.c with bk := xx }) 2 (.string xx) rfl H1.out.op H1.out.ok)
  clear RT h1 o1 HX H1 b0
  go_wp2
  go_end0
  exact ⟨rfl, H2.out⟩
set_option maxRecDepth 100000 in
set_option maxHeartbeats 2000000 in
theorem clo3 {w W : World} {g : Nat} {s : ByteArray} {h : Int} {C : Nat} {pv kv : Value} {r : CrR} (x : CrS w g s h C pv kv r W) (hs : s.size ≤ 140737488355328) : Calls Tryz.prog 78 #[.pointer (some ⟨w.heap.size, 0, none⟩), .pointer (some ⟨C, 0, none⟩)] W fun e w' => e = .returned (.tuple #[]) ∧ CrS w g s h C pv kv ⟨(tS s r.a r.e 1024).a, (tS s r.a r.e 1024).e, { r.c with ky := (tS s r.a r.e 1024).x }⟩ w' := by
  have hsm : s.size ≤ maxLen := by unfold maxLen; omega
  have RT : Hid (Calls Tryz.prog 55 #[.pointer (some ⟨g, 0, none⟩), .int .i64 1024] W fun e w' => e = .returned (.string (tS s r.a r.e 1024).x) ∧ RdAt w' g s (tS s r.a r.e 1024).a (tS s r.a r.e 1024).e ∧ Only g W w') := rd_text g s r.a r.e 1024 W x.rd hs
  have b0 := x.bx.cellAt (o := 0) rfl
  have HX := hid x
  generalize tS s r.a r.e 1024 = X at *
  obtain ⟨xa, xe, xx⟩ := X
  simp only at *
  clear hs hsm x
  go_enter Tryz.func78, Tryz.ntmps78
  go_wp2_with fail
  refine RT.out.mono ?_
  rintro e w1 ⟨rfl, h1, o1⟩
  have H1 := hid (HX.out.read h1 o1)
  have y3 := H1.out.bc.cellAt (o := 3) rfl
  have f3 : w1.frozen? ⟨C, 3, none⟩ = false := H1.out.bc.frozen
  have H2 := hid (H1.out.put (c := { r.c with ky := xx }) 3 (.string xx) rfl H1.out.op H1.out.ok)
  clear RT h1 o1 HX H1 b0
  go_wp2
  go_end0
  exact ⟨rfl, H2.out⟩
set_option maxRecDepth 100000 in
set_option maxHeartbeats 2000000 in
theorem clo4 {w W : World} {g : Nat} {s : ByteArray} {h : Int} {C : Nat} {pv kv : Value} {r : CrR} (x : CrS w g s h C pv kv r W) (hs : s.size ≤ 140737488355328) : Calls Tryz.prog 79 #[.pointer (some ⟨w.heap.size, 0, none⟩), .pointer (some ⟨C, 0, none⟩)] W fun e w' => e = .returned (.tuple #[]) ∧ CrS w g s h C pv kv ⟨(dcN s 1099511627776 r.a r.e).a, (dcN s 1099511627776 r.a r.e).e, { r.c with id := ((dcN s 1099511627776 r.a r.e).n : Int) }⟩ w' := by
  have hsm : s.size ≤ maxLen := by unfold maxLen; omega
  have RT : Hid (Calls Tryz.prog 54 #[.pointer (some ⟨g, 0, none⟩), .int .i64 1099511627776] W fun e w' => e = .returned (.int .i64 ((dcN s 1099511627776 r.a r.e).n : Int)) ∧ RdAt w' g s (dcN s 1099511627776 r.a r.e).a (dcN s 1099511627776 r.a r.e).e ∧ Only g W w') := rd_int g s r.a r.e 1099511627776 W x.rd hsm (by omega) (nS_int s r.a r.e 1099511627776 (by omega))
  have b0 := x.bx.cellAt (o := 0) rfl
  have HX := hid x
  generalize dcN s 1099511627776 r.a r.e = X at *
  obtain ⟨xa, xe, xx⟩ := X
  simp only at *
  clear hs hsm x
  go_enter Tryz.func79, Tryz.ntmps79
  go_wp2_with fail
  refine RT.out.mono ?_
  rintro e w1 ⟨rfl, h1, o1⟩
  have H1 := hid (HX.out.read h1 o1)
  have y4 := H1.out.bc.cellAt (o := 4) rfl
  have f4 : w1.frozen? ⟨C, 4, none⟩ = false := H1.out.bc.frozen
  have H2 := hid (H1.out.put (c := { r.c with id := (xx : Int) }) 4 (.int .i64 (xx : Int)) rfl H1.out.op H1.out.ok)
  clear RT h1 o1 HX H1 b0
  go_wp2
  go_end0
  exact ⟨rfl, H2.out⟩
set_option maxRecDepth 100000 in
set_option maxHeartbeats 2000000 in
theorem clo5 {w W : World} {g : Nat} {s : ByteArray} {h : Int} {C : Nat} {pv kv : Value} {r : CrR} (x : CrS w g s h C pv kv r W) (hs : s.size ≤ 140737488355328) : Calls Tryz.prog 80 #[.pointer (some ⟨w.heap.size, 0, none⟩), .pointer (some ⟨C, 0, none⟩)] W fun e w' => e = .returned (.tuple #[]) ∧ CrS w g s h C pv kv ⟨(dcN s 100 r.a r.e).a, (dcN s 100 r.a r.e).e, { r.c with n := ((dcN s 100 r.a r.e).n : Int) }⟩ w' := by
  have hsm : s.size ≤ maxLen := by unfold maxLen; omega
  have RT : Hid (Calls Tryz.prog 54 #[.pointer (some ⟨g, 0, none⟩), .int .i64 100] W fun e w' => e = .returned (.int .i64 ((dcN s 100 r.a r.e).n : Int)) ∧ RdAt w' g s (dcN s 100 r.a r.e).a (dcN s 100 r.a r.e).e ∧ Only g W w') := rd_int g s r.a r.e 100 W x.rd hsm (by omega) (nS_int s r.a r.e 100 (by omega))
  have b0 := x.bx.cellAt (o := 0) rfl
  have HX := hid x
  generalize dcN s 100 r.a r.e = X at *
  obtain ⟨xa, xe, xx⟩ := X
  simp only at *
  clear hs hsm x
  go_enter Tryz.func80, Tryz.ntmps80
  go_wp2_with fail
  refine RT.out.mono ?_
  rintro e w1 ⟨rfl, h1, o1⟩
  have H1 := hid (HX.out.read h1 o1)
  have y5 := H1.out.bc.cellAt (o := 5) rfl
  have f5 : w1.frozen? ⟨C, 5, none⟩ = false := H1.out.bc.frozen
  have H2 := hid (H1.out.put (c := { r.c with n := (xx : Int) }) 5 (.int .i64 (xx : Int)) rfl H1.out.op H1.out.ok)
  clear RT h1 o1 HX H1 b0
  go_wp2
  go_end0
  exact ⟨rfl, H2.out⟩
set_option maxRecDepth 100000 in
set_option maxHeartbeats 2000000 in
theorem clo6 {w W : World} {g : Nat} {s : ByteArray} {h : Int} {C : Nat} {pv kv : Value} {r : CrR} (x : CrS w g s h C pv kv r W) (hs : s.size ≤ 140737488355328) : Calls Tryz.prog 81 #[.pointer (some ⟨w.heap.size, 0, none⟩), .pointer (some ⟨C, 0, none⟩)] W fun e w' => e = .returned (.tuple #[]) ∧ CrS w g s h C pv kv ⟨(tS s r.a r.e 64).a, (tS s r.a r.e 64).e, { r.c with sm := (tS s r.a r.e 64).x }⟩ w' := by
  have hsm : s.size ≤ maxLen := by unfold maxLen; omega
  have RT : Hid (Calls Tryz.prog 55 #[.pointer (some ⟨g, 0, none⟩), .int .i64 64] W fun e w' => e = .returned (.string (tS s r.a r.e 64).x) ∧ RdAt w' g s (tS s r.a r.e 64).a (tS s r.a r.e 64).e ∧ Only g W w') := rd_text g s r.a r.e 64 W x.rd hs
  have b0 := x.bx.cellAt (o := 0) rfl
  have HX := hid x
  generalize tS s r.a r.e 64 = X at *
  obtain ⟨xa, xe, xx⟩ := X
  simp only at *
  clear hs hsm x
  go_enter Tryz.func81, Tryz.ntmps81
  go_wp2_with fail
  refine RT.out.mono ?_
  rintro e w1 ⟨rfl, h1, o1⟩
  have H1 := hid (HX.out.read h1 o1)
  have y6 := H1.out.bc.cellAt (o := 6) rfl
  have f6 : w1.frozen? ⟨C, 6, none⟩ = false := H1.out.bc.frozen
  have H2 := hid (H1.out.put (c := { r.c with sm := xx }) 6 (.string xx) rfl H1.out.op H1.out.ok)
  clear RT h1 o1 HX H1 b0
  go_wp2
  go_end0
  exact ⟨rfl, H2.out⟩
set_option maxRecDepth 100000 in
set_option maxHeartbeats 2000000 in
theorem clo7 {w W : World} {g : Nat} {s : ByteArray} {h : Int} {C : Nat} {pv kv : Value} {r : CrR} (x : CrS w g s h C pv kv r W) (hs : s.size ≤ 140737488355328) : Calls Tryz.prog 82 #[.pointer (some ⟨w.heap.size, 0, none⟩), .pointer (some ⟨C, 0, none⟩)] W fun e w' => e = .returned (.tuple #[]) ∧ ∃ pv' kv', CrS w g s h C pv' kv' ⟨(rdP s r.a r.e).a, (rdP s r.a r.e).e, { r.c with ps := (rdP s r.a r.e).l }⟩ w' := by
  obtain ⟨qa, qc, rfl⟩ := x.op.form
  have RT := hid (pread_any g s r.a r.e W x.rd hs)
  have b0 := x.bx.cellAt (o := 0) rfl
  have HX := hid x
  have HC : Hid (C + 2 ≤ W.heap.size) := by have := x.hs.lt; show _ ≤ _; omega
  generalize rdP s r.a r.e = X at *
  obtain ⟨xa, xe, xx⟩ := X
  simp only at *
  clear hs x
  go_enter Tryz.func82, Tryz.ntmps82
  go_wp2_with fail
  refine RT.out.mono ?_
  rintro e w1 ⟨ad, cap, rfl, h1⟩
  have H1 := hid (HX.out.read h1.rd h1.on)
  have y7 := H1.out.bc.cellAt (o := 7) rfl
  have f7 : w1.frozen? ⟨C, 7, none⟩ = false := H1.out.bc.frozen
  have HO := hid (ownP_low h1.own HC.out)
  have H2 := hid (H1.out.put (pv' := .slice ad xx.length cap) (kv' := kv) (c := { r.c with ps := xx }) 7 (.slice ad xx.length cap) rfl HO.out H1.out.ok)
  clear RT h1 HX H1 b0 HC HO
  go_wp2
  go_end0
  exact ⟨rfl, _, _, H2.out⟩
set_option maxRecDepth 100000 in
set_option maxHeartbeats 2000000 in
theorem clo8 {w W : World} {g : Nat} {s : ByteArray} {h : Int} {C : Nat} {pv kv : Value} {r : CrR} (x : CrS w g s h C pv kv r W) (hs : s.size ≤ 140737488355328) : Calls Tryz.prog 84 #[.pointer (some ⟨w.heap.size, 0, none⟩), .pointer (some ⟨C, 0, none⟩)] W fun e w' => e = .returned (.tuple #[]) ∧ ∃ pv' kv', CrS w g s h C pv' kv' ⟨(rdK s r.a r.e).a, (rdK s r.a r.e).e, { r.c with ks := (rdK s r.a r.e).l }⟩ w' := by
  obtain ⟨qa, qc, rfl⟩ := x.ok.form
  have RT := hid (kread_any g s r.a r.e W x.rd hs)
  have b0 := x.bx.cellAt (o := 0) rfl
  have HX := hid x
  have HC : Hid (C + 2 ≤ W.heap.size) := by have := x.hs.lt; show _ ≤ _; omega
  generalize rdK s r.a r.e = X at *
  obtain ⟨xa, xe, xx⟩ := X
  simp only at *
  clear hs x
  go_enter Tryz.func84, Tryz.ntmps84
  go_wp2_with fail
  refine RT.out.mono ?_
  rintro e w1 ⟨ad, cap, rfl, h1⟩
  have H1 := hid (HX.out.read h1.rd h1.on)
  have y8 := H1.out.bc.cellAt (o := 8) rfl
  have f8 : w1.frozen? ⟨C, 8, none⟩ = false := H1.out.bc.frozen
  have HO := hid (ownK_low h1.own HC.out)
  have H2 := hid (H1.out.put (pv' := pv) (kv' := .slice ad xx.length cap) (c := { r.c with ks := xx }) 8 (.slice ad xx.length cap) rfl H1.out.op HO.out)
  clear RT h1 HX H1 b0 HC HO
  go_wp2
  go_end0
  exact ⟨rfl, _, _, H2.out⟩
set_option maxRecDepth 100000 in
set_option maxHeartbeats 2000000 in
theorem take1 {w W : World} {g : Nat} {s : ByteArray} {h : Int} {C : Nat} {pv kv : Value} {r : CrR} (x : CrS w g s h C pv kv r W) (hs : s.size ≤ 140737488355328) : Calls Tryz.prog 75 #[.int .u64 1, .func (.func 76) #[] #[.pointer (some ⟨w.heap.size, 0, none⟩), .pointer (some ⟨C, 0, none⟩)], .pointer (some ⟨C + 1, 0, none⟩)] W fun e w' => e = .returned (.tuple #[]) ∧ CrS w g s h C pv kv (s1 s h r) w' := by
  have CL := hid (clo1 x hs)
  have b0 := x.hs.cellAt (o := 0) rfl
  have HX := hid x
  unfold s1 hasF
  clear x
  cases hq : (bits BinOp.and IntKind.u64 h 1 != 0)
  · clear CL
    go_enter Tryz.func75, Tryz.ntmps75
    go_wp2
    go_end0
    exact ⟨rfl, HX.out⟩
  · go_enter Tryz.func75, Tryz.ntmps75
    go_wp2_with fail
    refine CL.out.mono ?_
    rintro e w1 ⟨rfl, h1⟩
    have H1 := hid h1
    clear CL HX b0 h1
    go_wp2
    go_end0
    exact ⟨rfl, H1.out⟩
set_option maxRecDepth 100000 in
set_option maxHeartbeats 2000000 in
theorem take2 {w W : World} {g : Nat} {s : ByteArray} {h : Int} {C : Nat} {pv kv : Value} {r : CrR} (x : CrS w g s h C pv kv r W) (hs : s.size ≤ 140737488355328) : Calls Tryz.prog 75 #[.int .u64 2, .func (.func 77) #[] #[.pointer (some ⟨w.heap.size, 0, none⟩), .pointer (some ⟨C, 0, none⟩)], .pointer (some ⟨C + 1, 0, none⟩)] W fun e w' => e = .returned (.tuple #[]) ∧ CrS w g s h C pv kv (s2 s h r) w' := by
  have CL := hid (clo2 x hs)
  have b0 := x.hs.cellAt (o := 0) rfl
  have HX := hid x
  unfold s2 hasF
  clear x
  cases hq : (bits BinOp.and IntKind.u64 h 2 != 0)
  · clear CL
    go_enter Tryz.func75, Tryz.ntmps75
    go_wp2
    go_end0
    exact ⟨rfl, HX.out⟩
  · go_enter Tryz.func75, Tryz.ntmps75
    go_wp2_with fail
    refine CL.out.mono ?_
    rintro e w1 ⟨rfl, h1⟩
    have H1 := hid h1
    clear CL HX b0 h1
    go_wp2
    go_end0
    exact ⟨rfl, H1.out⟩
set_option maxRecDepth 100000 in
set_option maxHeartbeats 2000000 in
theorem take3 {w W : World} {g : Nat} {s : ByteArray} {h : Int} {C : Nat} {pv kv : Value} {r : CrR} (x : CrS w g s h C pv kv r W) (hs : s.size ≤ 140737488355328) : Calls Tryz.prog 75 #[.int .u64 4, .func (.func 78) #[] #[.pointer (some ⟨w.heap.size, 0, none⟩), .pointer (some ⟨C, 0, none⟩)], .pointer (some ⟨C + 1, 0, none⟩)] W fun e w' => e = .returned (.tuple #[]) ∧ CrS w g s h C pv kv (s3 s h r) w' := by
  have CL := hid (clo3 x hs)
  have b0 := x.hs.cellAt (o := 0) rfl
  have HX := hid x
  unfold s3 hasF
  clear x
  cases hq : (bits BinOp.and IntKind.u64 h 4 != 0)
  · clear CL
    go_enter Tryz.func75, Tryz.ntmps75
    go_wp2
    go_end0
    exact ⟨rfl, HX.out⟩
  · go_enter Tryz.func75, Tryz.ntmps75
    go_wp2_with fail
    refine CL.out.mono ?_
    rintro e w1 ⟨rfl, h1⟩
    have H1 := hid h1
    clear CL HX b0 h1
    go_wp2
    go_end0
    exact ⟨rfl, H1.out⟩
set_option maxRecDepth 100000 in
set_option maxHeartbeats 2000000 in
theorem take4 {w W : World} {g : Nat} {s : ByteArray} {h : Int} {C : Nat} {pv kv : Value} {r : CrR} (x : CrS w g s h C pv kv r W) (hs : s.size ≤ 140737488355328) : Calls Tryz.prog 75 #[.int .u64 8, .func (.func 79) #[] #[.pointer (some ⟨w.heap.size, 0, none⟩), .pointer (some ⟨C, 0, none⟩)], .pointer (some ⟨C + 1, 0, none⟩)] W fun e w' => e = .returned (.tuple #[]) ∧ CrS w g s h C pv kv (s4 s h r) w' := by
  have CL := hid (clo4 x hs)
  have b0 := x.hs.cellAt (o := 0) rfl
  have HX := hid x
  unfold s4 hasF
  clear x
  cases hq : (bits BinOp.and IntKind.u64 h 8 != 0)
  · clear CL
    go_enter Tryz.func75, Tryz.ntmps75
    go_wp2
    go_end0
    exact ⟨rfl, HX.out⟩
  · go_enter Tryz.func75, Tryz.ntmps75
    go_wp2_with fail
    refine CL.out.mono ?_
    rintro e w1 ⟨rfl, h1⟩
    have H1 := hid h1
    clear CL HX b0 h1
    go_wp2
    go_end0
    exact ⟨rfl, H1.out⟩
set_option maxRecDepth 100000 in
set_option maxHeartbeats 2000000 in
theorem take5 {w W : World} {g : Nat} {s : ByteArray} {h : Int} {C : Nat} {pv kv : Value} {r : CrR} (x : CrS w g s h C pv kv r W) (hs : s.size ≤ 140737488355328) : Calls Tryz.prog 75 #[.int .u64 16, .func (.func 80) #[] #[.pointer (some ⟨w.heap.size, 0, none⟩), .pointer (some ⟨C, 0, none⟩)], .pointer (some ⟨C + 1, 0, none⟩)] W fun e w' => e = .returned (.tuple #[]) ∧ CrS w g s h C pv kv (s5 s h r) w' := by
  have CL := hid (clo5 x hs)
  have b0 := x.hs.cellAt (o := 0) rfl
  have HX := hid x
  unfold s5 hasF
  clear x
  cases hq : (bits BinOp.and IntKind.u64 h 16 != 0)
  · clear CL
    go_enter Tryz.func75, Tryz.ntmps75
    go_wp2
    go_end0
    exact ⟨rfl, HX.out⟩
  · go_enter Tryz.func75, Tryz.ntmps75
    go_wp2_with fail
    refine CL.out.mono ?_
    rintro e w1 ⟨rfl, h1⟩
    have H1 := hid h1
    clear CL HX b0 h1
    go_wp2
    go_end0
    exact ⟨rfl, H1.out⟩
set_option maxRecDepth 100000 in
set_option maxHeartbeats 2000000 in
theorem take6 {w W : World} {g : Nat} {s : ByteArray} {h : Int} {C : Nat} {pv kv : Value} {r : CrR} (x : CrS w g s h C pv kv r W) (hs : s.size ≤ 140737488355328) : Calls Tryz.prog 75 #[.int .u64 32, .func (.func 81) #[] #[.pointer (some ⟨w.heap.size, 0, none⟩), .pointer (some ⟨C, 0, none⟩)], .pointer (some ⟨C + 1, 0, none⟩)] W fun e w' => e = .returned (.tuple #[]) ∧ CrS w g s h C pv kv (s6 s h r) w' := by
  have CL := hid (clo6 x hs)
  have b0 := x.hs.cellAt (o := 0) rfl
  have HX := hid x
  unfold s6 hasF
  clear x
  cases hq : (bits BinOp.and IntKind.u64 h 32 != 0)
  · clear CL
    go_enter Tryz.func75, Tryz.ntmps75
    go_wp2
    go_end0
    exact ⟨rfl, HX.out⟩
  · go_enter Tryz.func75, Tryz.ntmps75
    go_wp2_with fail
    refine CL.out.mono ?_
    rintro e w1 ⟨rfl, h1⟩
    have H1 := hid h1
    clear CL HX b0 h1
    go_wp2
    go_end0
    exact ⟨rfl, H1.out⟩
set_option maxRecDepth 100000 in
set_option maxHeartbeats 2000000 in
theorem take7 {w W : World} {g : Nat} {s : ByteArray} {h : Int} {C : Nat} {pv kv : Value} {r : CrR} (x : CrS w g s h C pv kv r W) (hs : s.size ≤ 140737488355328) : Calls Tryz.prog 75 #[.int .u64 64, .func (.func 82) #[] #[.pointer (some ⟨w.heap.size, 0, none⟩), .pointer (some ⟨C, 0, none⟩)], .pointer (some ⟨C + 1, 0, none⟩)] W fun e w' => e = .returned (.tuple #[]) ∧ ∃ pv' kv', CrS w g s h C pv' kv' (s7 s h r) w' := by
  have CL := hid (clo7 x hs)
  have b0 := x.hs.cellAt (o := 0) rfl
  have HX := hid x
  unfold s7 hasF
  clear x
  cases hq : (bits BinOp.and IntKind.u64 h 64 != 0)
  · clear CL
    go_enter Tryz.func75, Tryz.ntmps75
    go_wp2
    go_end0
    exact ⟨rfl, _, _, HX.out⟩
  · go_enter Tryz.func75, Tryz.ntmps75
    go_wp2_with fail
    refine CL.out.mono ?_
    rintro e w1 ⟨rfl, h1⟩
    have H1 := hid h1
    clear CL HX b0 h1
    go_wp2
    go_end0
    exact ⟨rfl, H1.out⟩
set_option maxRecDepth 100000 in
set_option maxHeartbeats 2000000 in
theorem take8 {w W : World} {g : Nat} {s : ByteArray} {h : Int} {C : Nat} {pv kv : Value} {r : CrR} (x : CrS w g s h C pv kv r W) (hs : s.size ≤ 140737488355328) : Calls Tryz.prog 75 #[.int .u64 128, .func (.func 84) #[] #[.pointer (some ⟨w.heap.size, 0, none⟩), .pointer (some ⟨C, 0, none⟩)], .pointer (some ⟨C + 1, 0, none⟩)] W fun e w' => e = .returned (.tuple #[]) ∧ ∃ pv' kv', CrS w g s h C pv' kv' (s8 s h r) w' := by
  have CL := hid (clo8 x hs)
  have b0 := x.hs.cellAt (o := 0) rfl
  have HX := hid x
  unfold s8 hasF
  clear x
  cases hq : (bits BinOp.and IntKind.u64 h 128 != 0)
  · clear CL
    go_enter Tryz.func75, Tryz.ntmps75
    go_wp2
    go_end0
    exact ⟨rfl, _, _, HX.out⟩
  · go_enter Tryz.func75, Tryz.ntmps75
    go_wp2_with fail
    refine CL.out.mono ?_
    rintro e w1 ⟨rfl, h1⟩
    have H1 := hid h1
    clear CL HX b0 h1
    go_wp2
    go_end0
    exact ⟨rfl, H1.out⟩
end Go.Proofs.YtmadlnchmkhdjaaGreat
namespace Go.Proofs.YtmadlnchmkhdjaaGreat
open Go.RowKit Go.Maps
set_option linter.unusedVariables false
set_option linter.unusedSimpArgs false

/-- what read leaves -/
structure CrF (w : World) (g : Nat) (s : ByteArray) (pv kv : Value) (r : CrR) (W : World) : Prop where
  rd : RdAt W g s r.a r.e
  op : OwnP W w.heap.size 107 pv r.c.ps
  ok : OwnK W w.heap.size 61 kv r.c.ks
  on : Only g w W
theorem CrS.fin {w W : World} {g : Nat} {s : ByteArray} {h : Int} {C : Nat} {pv kv : Value} {r : CrR} (x : CrS w g s h C pv kv r W) : RowIs (((((((((W.setCell ⟨w.heap.size + 1, 0, none⟩ (.int .i64 r.c.kd)).setCell ⟨w.heap.size + 1, 1, none⟩ (.string r.c.tk)).setCell ⟨w.heap.size + 1, 2, none⟩ (.string r.c.bk)).setCell ⟨w.heap.size + 1, 3, none⟩ (.string r.c.ky)).setCell ⟨w.heap.size + 1, 4, none⟩ (.int .i64 r.c.id)).setCell ⟨w.heap.size + 1, 5, none⟩ (.int .i64 r.c.n)).setCell ⟨w.heap.size + 1, 6, none⟩ (.string r.c.sm)).setCell ⟨w.heap.size + 1, 7, none⟩ (pv)).setCell ⟨w.heap.size + 1, 8, none⟩ (kv)) (w.heap.size + 1) (cmL pv kv r.c) 25 ∧ CrF w g s pv kv r (((((((((W.setCell ⟨w.heap.size + 1, 0, none⟩ (.int .i64 r.c.kd)).setCell ⟨w.heap.size + 1, 1, none⟩ (.string r.c.tk)).setCell ⟨w.heap.size + 1, 2, none⟩ (.string r.c.bk)).setCell ⟨w.heap.size + 1, 3, none⟩ (.string r.c.ky)).setCell ⟨w.heap.size + 1, 4, none⟩ (.int .i64 r.c.id)).setCell ⟨w.heap.size + 1, 5, none⟩ (.int .i64 r.c.n)).setCell ⟨w.heap.size + 1, 6, none⟩ (.string r.c.sm)).setCell ⟨w.heap.size + 1, 7, none⟩ (pv)).setCell ⟨w.heap.size + 1, 8, none⟩ (kv)) := by
  have hl := x.lt
  have hc := x.cl
  have k : Keep (· = w.heap.size + 1) W (((((((((W.setCell ⟨w.heap.size + 1, 0, none⟩ (.int .i64 r.c.kd)).setCell ⟨w.heap.size + 1, 1, none⟩ (.string r.c.tk)).setCell ⟨w.heap.size + 1, 2, none⟩ (.string r.c.bk)).setCell ⟨w.heap.size + 1, 3, none⟩ (.string r.c.ky)).setCell ⟨w.heap.size + 1, 4, none⟩ (.int .i64 r.c.id)).setCell ⟨w.heap.size + 1, 5, none⟩ (.int .i64 r.c.n)).setCell ⟨w.heap.size + 1, 6, none⟩ (.string r.c.sm)).setCell ⟨w.heap.size + 1, 7, none⟩ (pv)).setCell ⟨w.heap.size + 1, 8, none⟩ (kv)) := ((((((((keep_setCell W _ 0 _).trans (keep_setCell _ _ 1 _)).trans (keep_setCell _ _ 2 _)).trans (keep_setCell _ _ 3 _)).trans (keep_setCell _ _ 4 _)).trans (keep_setCell _ _ 5 _)).trans (keep_setCell _ _ 6 _)).trans (keep_setCell _ _ 7 _)).trans (keep_setCell _ _ 8 _)
  refine ⟨((((((((x.rs.set 0 _).set 1 _).set 2 _).set 3 _).set 4 _).set 5 _).set 6 _).set 7 _).set 8 _, ⟨x.rd.same (k.block _ (rd_lt x.rd) (by omega)), ownP_low (k.ownsRow x.op (fun b hb e => by have := ownsRow_ge x.op hb; omega)) (by omega), ownK_low (k.ownsRow x.ok (fun b hb e => by have := ownsRow_ge x.ok hb; omega)) (by omega), ⟨k.os.trans x.on.os, k.tape.trans x.on.tape, k.output.trans x.on.output, Nat.le_trans x.on.size k.size, fun b hb hg => (k.block b (Nat.lt_of_lt_of_le hb x.on.size) (by omega)).trans (x.on.block b hb hg)⟩⟩⟩
theorem crs_new {w w2 : World} {g : Nat} {s : ByteArray} {h a e a' e' : Int} {K : Nat} (hr : RdAt w g s a e) (h2 : RdAt w2 g s a' e') (o2 : Only g ((w.alloc (.cells #[.pointer (some ⟨g, 0, none⟩)] 74)).alloc (.cells #[.int .i64 0, .string ⟨#[]⟩, .string ⟨#[]⟩, .string ⟨#[]⟩, .int .i64 0, .int .i64 0, .string ⟨#[]⟩, .slice none 0 0, .slice none 0 0] 25)) w2) :
    CrS w g s h w2.heap.size (.slice none 0 0) (.slice none 0 0) ⟨a', e', ⟨(K : Int), ⟨#[]⟩, ⟨#[]⟩, ⟨#[]⟩, 0, 0, ⟨#[]⟩, [], []⟩⟩ ((w2.alloc (.cells #[.int .i64 (K : Int), .string ⟨#[]⟩, .string ⟨#[]⟩, .string ⟨#[]⟩, .int .i64 0, .int .i64 0, .string ⟨#[]⟩, .slice none 0 0, .slice none 0 0] 25)).alloc (.cells #[.int .u64 h] 68)) := by
  have hl := rd_lt hr
  have hz : ((w.alloc (.cells #[.pointer (some ⟨g, 0, none⟩)] 74)).alloc (.cells #[.int .i64 0, .string ⟨#[]⟩, .string ⟨#[]⟩, .string ⟨#[]⟩, .int .i64 0, .int .i64 0, .string ⟨#[]⟩, .slice none 0 0, .slice none 0 0] 25)).heap.size = w.heap.size + 1 + 1 := by simp
  have hs := o2.size
  rw [hz] at hs
  have b1 := row_old (srow w [.pointer (some ⟨g, 0, none⟩)] 74) (.cells #[.int .i64 0, .string ⟨#[]⟩, .string ⟨#[]⟩, .string ⟨#[]⟩, .int .i64 0, .int .i64 0, .string ⟨#[]⟩, .slice none 0 0, .slice none 0 0] 25)
  have b2 : RowIs ((w.alloc (.cells #[.pointer (some ⟨g, 0, none⟩)] 74)).alloc (.cells #[.int .i64 0, .string ⟨#[]⟩, .string ⟨#[]⟩, .string ⟨#[]⟩, .int .i64 0, .int .i64 0, .string ⟨#[]⟩, .slice none 0 0, .slice none 0 0] 25)) (w.heap.size + 1) [.int .i64 0, .string ⟨#[]⟩, .string ⟨#[]⟩, .string ⟨#[]⟩, .int .i64 0, .int .i64 0, .string ⟨#[]⟩, .slice none 0 0, .slice none 0 0] 25 := by
    have := srow (w.alloc (.cells #[.pointer (some ⟨g, 0, none⟩)] 74)) [.int .i64 0, .string ⟨#[]⟩, .string ⟨#[]⟩, .string ⟨#[]⟩, .int .i64 0, .int .i64 0, .string ⟨#[]⟩, .slice none 0 0, .slice none 0 0] 25
    rwa [show (w.alloc (.cells #[.pointer (some ⟨g, 0, none⟩)] 74)).heap.size = w.heap.size + 1 from by simp] at this
  have k2 := o2.keep
  have B2 := below_al (below_al (Below.refl w2.heap.size w2) (.cells #[.int .i64 (K : Int), .string ⟨#[]⟩, .string ⟨#[]⟩, .string ⟨#[]⟩, .int .i64 0, .int .i64 0, .string ⟨#[]⟩, .slice none 0 0, .slice none 0 0] 25)) (.cells #[.int .u64 h] 68)
  have kB := B2.keep (fun _ => False)
  have bh : RowIs ((w2.alloc (.cells #[.int .i64 (K : Int), .string ⟨#[]⟩, .string ⟨#[]⟩, .string ⟨#[]⟩, .int .i64 0, .int .i64 0, .string ⟨#[]⟩, .slice none 0 0, .slice none 0 0] 25)).alloc (.cells #[.int .u64 h] 68)) (w2.heap.size + 1) [.int .u64 h] 68 := by
    have := srow (w2.alloc (.cells #[.int .i64 (K : Int), .string ⟨#[]⟩, .string ⟨#[]⟩, .string ⟨#[]⟩, .int .i64 0, .int .i64 0, .string ⟨#[]⟩, .slice none 0 0, .slice none 0 0] 25)) [.int .u64 h] 68
    rwa [show (w2.alloc (.cells #[.int .i64 (K : Int), .string ⟨#[]⟩, .string ⟨#[]⟩, .string ⟨#[]⟩, .int .i64 0, .int .i64 0, .string ⟨#[]⟩, .slice none 0 0, .slice none 0 0] 25)).heap.size = w2.heap.size + 1 from by simp] at this
  have w0 : Only g w ((w.alloc (.cells #[.pointer (some ⟨g, 0, none⟩)] 74)).alloc (.cells #[.int .i64 0, .string ⟨#[]⟩, .string ⟨#[]⟩, .string ⟨#[]⟩, .int .i64 0, .int .i64 0, .string ⟨#[]⟩, .slice none 0 0, .slice none 0 0] 25)) := (below_al (below_al (Below.refl w.heap.size w) (.cells #[.pointer (some ⟨g, 0, none⟩)] 74)) (.cells #[.int .i64 0, .string ⟨#[]⟩, .string ⟨#[]⟩, .string ⟨#[]⟩, .int .i64 0, .int .i64 0, .string ⟨#[]⟩, .slice none 0 0, .slice none 0 0] 25)).only g
  exact ⟨h2.keeps B2, (b1.keep k2 (by omega)).keep kB (fun h => h), (b2.keep k2 (by omega)).keep kB (fun h => h), row_old (srow w2 _ _) _, bh, ownP_nil _ _ _, ownK_nil _ _ _, (w0.trans o2).trans (B2.only g), hl, by omega⟩
set_option maxRecDepth 100000 in
set_option maxHeartbeats 4000000 in
theorem cread_any (g : Nat) (s : ByteArray) (a e : Int) (w : World) (h : RdAt w g s a e) (hs : s.size ≤ 140737488355328) : Calls Tryz.prog 42 #[.pointer (some ⟨g, 0, none⟩)] w fun q w' => ∃ pv kv, q = .returned (cmV pv kv (rdC s a e).c) ∧ CrF w g s pv kv (rdC s a e) w' := by
  have hsm : s.size ≤ maxLen := by unfold maxLen; omega
  have HSZ := hid hs
  have HR := hid h
  have RI : Hid (∀ W, RdAt W g s a e → Calls Tryz.prog 54 #[.pointer (some ⟨g, 0, none⟩), .int .i64 10] W fun q w' => q = .returned (.int .i64 (dcN s 10 a e).n) ∧ RdAt w' g s (dcN s 10 a e).a (dcN s 10 a e).e ∧ Only g W w') := fun W hW => rd_int g s a e 10 W hW hsm (by omega) (nS_int s a e 10 (by omega))
  have H0 := hid (h.keeps (below_al (below_al (Below.refl w.heap.size w) (.cells #[.pointer (some ⟨g, 0, none⟩)] 74)) (.cells #[.int .i64 0, .string ⟨#[]⟩, .string ⟨#[]⟩, .string ⟨#[]⟩, .int .i64 0, .int .i64 0, .string ⟨#[]⟩, .slice none 0 0, .slice none 0 0] 25)))
  have FO := hid (fun W => fieldsOf_any ((dcN s 10 a e).n : Int) W)
  generalize hRR : rdC s a e = R at *
  unfold rdC r0 at hRR
  simp only at hRR
  generalize flN ((dcN s 10 a e).n : Int) = fl at *
  generalize dcN s 10 a e = D at *
  obtain ⟨da, de, K⟩ := D
  simp only at *
  have HRR := hid hRR
  clear hRR hs hsm h
  go_enter Tryz.func42, Tryz.ntmps42
  go_wp2_with fail
  refine (RI.out _ H0.out).mono ?_
  rintro e2 w2 ⟨rfl, h2, o2⟩
  have N2 := hid (crs_new (h := fl) (K := K) HR.out h2 o2)
  clear RI H0 HR h2 o2
  go_wp2_with fail
  refine (FO.out _).mono ?_
  rintro e3 w3 ⟨rfl, rfl⟩
  clear FO
  go_wp2_with fail
  generalize ((w2.alloc (.cells #[.int .i64 (K : Int), .string ⟨#[]⟩, .string ⟨#[]⟩, .string ⟨#[]⟩, .int .i64 0, .int .i64 0, .string ⟨#[]⟩, .slice none 0 0, .slice none 0 0] 25)).alloc (.cells #[.int .u64 fl] 68)) = V at *
  generalize hr0 : (⟨da, de, ⟨(K : Int), ⟨#[]⟩, ⟨#[]⟩, ⟨#[]⟩, 0, 0, ⟨#[]⟩, [], []⟩⟩ : CrR) = q0 at *
  clear hr0
  have S0 := N2
  clear N2
  refine (take1 S0.out HSZ.out).mono ?_
  rintro e11 v1 ⟨rfl, t1⟩
  have S1 := hid t1
  clear t1 S0
  generalize hq1 : s1 s fl q0 = q1 at *
  clear hq1
  go_wp2_with fail
  refine (take2 S1.out HSZ.out).mono ?_
  rintro e12 v2 ⟨rfl, t2⟩
  have S2 := hid t2
  clear t2 S1
  generalize hq2 : s2 s fl q1 = q2 at *
  clear hq2
  go_wp2_with fail
  refine (take3 S2.out HSZ.out).mono ?_
  rintro e13 v3 ⟨rfl, t3⟩
  have S3 := hid t3
  clear t3 S2
  generalize hq3 : s3 s fl q2 = q3 at *
  clear hq3
  go_wp2_with fail
  refine (take4 S3.out HSZ.out).mono ?_
  rintro e14 v4 ⟨rfl, t4⟩
  have S4 := hid t4
  clear t4 S3
  generalize hq4 : s4 s fl q3 = q4 at *
  clear hq4
  go_wp2_with fail
  refine (take5 S4.out HSZ.out).mono ?_
  rintro e15 v5 ⟨rfl, t5⟩
  have S5 := hid t5
  clear t5 S4
  generalize hq5 : s5 s fl q4 = q5 at *
  clear hq5
  go_wp2_with fail
  refine (take6 S5.out HSZ.out).mono ?_
  rintro e16 v6 ⟨rfl, t6⟩
  have S6 := hid t6
  clear t6 S5
  generalize hq6 : s6 s fl q5 = q6 at *
  clear hq6
  go_wp2_with fail
  refine (take7 S6.out HSZ.out).mono ?_
  rintro e17 v7 ⟨rfl, pv7, kv7, t7⟩
  have S7 := hid t7
  clear t7 S6
  generalize hq7 : s7 s fl q6 = q7 at *
  clear hq7
  go_wp2_with fail
  refine (take8 S7.out HSZ.out).mono ?_
  rintro e18 v8 ⟨rfl, pv8, kv8, t8⟩
  have S8 := hid t8
  clear t8 S7
  generalize hq8 : s8 s fl q7 = q8 at *
  clear hq8
  obtain ⟨pa, pc, rfl⟩ := S8.out.op.form
  obtain ⟨ka, kc, rfl⟩ := S8.out.ok.form
  have F8 := hid S8.out.fin
  have a0 := S8.out.bc.cellAt (o := 0) rfl
  have b0 := S8.out.rs.cellAt (o := 0) rfl
  have f0 : v8.frozen? ⟨w.heap.size + 1, 0, none⟩ = false := S8.out.rs.frozen
  have a1 := S8.out.bc.cellAt (o := 1) rfl
  have b1 := S8.out.rs.cellAt (o := 1) rfl
  have f1 : v8.frozen? ⟨w.heap.size + 1, 1, none⟩ = false := S8.out.rs.frozen
  have a2 := S8.out.bc.cellAt (o := 2) rfl
  have b2 := S8.out.rs.cellAt (o := 2) rfl
  have f2 : v8.frozen? ⟨w.heap.size + 1, 2, none⟩ = false := S8.out.rs.frozen
  have a3 := S8.out.bc.cellAt (o := 3) rfl
  have b3 := S8.out.rs.cellAt (o := 3) rfl
  have f3 : v8.frozen? ⟨w.heap.size + 1, 3, none⟩ = false := S8.out.rs.frozen
  have a4 := S8.out.bc.cellAt (o := 4) rfl
  have b4 := S8.out.rs.cellAt (o := 4) rfl
  have f4 : v8.frozen? ⟨w.heap.size + 1, 4, none⟩ = false := S8.out.rs.frozen
  have a5 := S8.out.bc.cellAt (o := 5) rfl
  have b5 := S8.out.rs.cellAt (o := 5) rfl
  have f5 : v8.frozen? ⟨w.heap.size + 1, 5, none⟩ = false := S8.out.rs.frozen
  have a6 := S8.out.bc.cellAt (o := 6) rfl
  have b6 := S8.out.rs.cellAt (o := 6) rfl
  have f6 : v8.frozen? ⟨w.heap.size + 1, 6, none⟩ = false := S8.out.rs.frozen
  have a7 := S8.out.bc.cellAt (o := 7) rfl
  have b7 := S8.out.rs.cellAt (o := 7) rfl
  have f7 : v8.frozen? ⟨w.heap.size + 1, 7, none⟩ = false := S8.out.rs.frozen
  have a8 := S8.out.bc.cellAt (o := 8) rfl
  have b8 := S8.out.rs.cellAt (o := 8) rfl
  have f8 : v8.frozen? ⟨w.heap.size + 1, 8, none⟩ = false := S8.out.rs.frozen
  have HNE : w.heap.size + 1 ≠ w2.heap.size := by have := S8.out.cl; omega
  have HNE2 : w2.heap.size ≠ w.heap.size + 1 := by have := S8.out.cl; omega
  have hRq : R = q8 := HRR.out.symm
  subst hRq
  clear HRR S8 HSZ
  obtain ⟨ra, re, ⟨kd, tk, bk, ky, id, n, sm, ps, ks⟩⟩ := R
  simp only [cmL] at *
  generalize hpl : ps.length = pl at *
  generalize hkl : ks.length = kl at *
  go_wp2
  refine bodyPost_ret (v := .agg #[.int .i64 kd, .string tk, .string bk, .string ky, .int .i64 id, .int .i64 n, .string sm, .slice pa pl pc, .slice ka kl kc]) (results_cell_row (p := 2) rfl _ _ (w.heap.size + 1) 25 #[.int .i64 kd, .string tk, .string bk, .string ky, .int .i64 id, .int .i64 n, .string sm, .slice pa pl pc, .slice ka kl kc] (0, 0) _ rfl F8.out.1 Tryz.underlying25 rfl (by kernel_rfl)) rfl ⟨_, _, rfl, F8.out.2⟩
end Go.Proofs.YtmadlnchmkhdjaaGreat
