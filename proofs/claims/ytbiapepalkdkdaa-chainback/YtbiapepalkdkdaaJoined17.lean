/- Joined: The chain that a text says: the reference's walk. The chain that a text says: the reference's walk, to the end. What is told is read again, and in one form alone: a chain's text. -/
import Derived.Test.YtbiapepalkdkdaaJoined16
import Derived.Test.YtbiapepalkdkdaaJoined09
import Derived.Test.YtbiapepalkdkdaaJoined15
namespace Go.Proofs.Ytbiapepalkdkdaa
open Go.RowKit Go.Maps
set_option linter.unusedVariables false
set_option linter.unusedSimpArgs false

def VnB (v : Vn) : Prop := v.sum.size ≤ 64 ∧ v.ps.length ≤ 512 ∧ ∀ p ∈ v.ps, p.id.size ≤ 64
theorem rdV_b (s : ByteArray) (a e : Int) : VnB (rdV s a e).v := by
  unfold rdV
  simp only
  split
  · exact ⟨by show (0 : Nat) ≤ _; omega, by show (0 : Nat) ≤ _; omega, fun p hp => by cases hp⟩
  · exact ⟨by have := tS_len s (rdP s (dcF s (dcN s 1099511627776 a e).a (dcN s 1099511627776 a e).e).a (dcF s (dcN s 1099511627776 a e).a (dcN s 1099511627776 a e).e).e).a (rdP s (dcF s (dcN s 1099511627776 a e).a (dcN s 1099511627776 a e).e).a (dcF s (dcN s 1099511627776 a e).a (dcN s 1099511627776 a e).e).e).e 64 (by omega); simp only; omega, rdP_len _ _ _, rdP_ids _ _ _⟩
theorem dcV_b (s : ByteArray) : ∀ (j : Nat) (a e : Int), ∀ v ∈ (dcV s j a e).l, VnB v
  | 0, _, _, v, hv => by simp [dcV] at hv
  | j + 1, a, e, v, hv => by
    simp only [dcV, List.mem_cons] at hv
    rcases hv with rfl | hv
    · exact rdV_b s a e
    · exact dcV_b s j _ _ v hv
theorem dcV_len (s : ByteArray) : ∀ (j : Nat) (a e : Int), (dcV s j a e).l.length = j
  | 0, _, _ => rfl
  | j + 1, a, e => by simp only [dcV, List.length_cons]; rw [dcV_len s j]
theorem cdT_b (s : ByteArray) : (cdT s).l.length ≤ 32 ∧ ∀ v ∈ (cdT s).l, VnB v := by
  refine ⟨?_, dcV_b s _ _ _⟩
  unfold cdT
  rw [dcV_len]
  have := dcN_le s 32 0 0 (by omega)
  omega
/-- a reader's value in a box at g, versions in a row behind it -/
structure DqS (w : World) (g : Nat) (s : ByteArray) (a e : Int) (v : Value) (q : List (Value × Vn)) (W : World) : Prop where
  rd : RowIs W g [.string s, .int .i64 a, .int .i64 e] 101
  own : OwnQ W (g + 1) 36 74 v q
  bel : Below w.heap.size w W
  low : w.heap.size ≤ g
theorem DqS.read {w W W' : World} {g : Nat} {s : ByteArray} {a e a' e' : Int} {v : Value} {q : List (Value × Vn)} (h : DqS w g s a e v q W) (hr : RowIs W' g [.string s, .int .i64 a', .int .i64 e'] 101) (ho : Only g W W') : DqS w g s a' e' v q W' :=
  ⟨hr, h.own.keep ho.keep (fun j hj e => by omega), h.bel.trans (ho.below h.low h.bel.size), h.low⟩
theorem DqS.call {w W W' : World} {g : Nat} {s : ByteArray} {a e : Int} {v : Value} {q : List (Value × Vn)} (h : DqS w g s a e v q W) (hb : Below W.heap.size W W') : DqS w g s a e v q W' := h.read (h.rd.keep (hb.keep (fun _ => False)) (fun h => h)) (hb.only _)
theorem DqS.al {w W : World} {g : Nat} {s : ByteArray} {a e : Int} {v : Value} {q : List (Value × Vn)} (h : DqS w g s a e v q W) (o : Obj) : DqS w g s a e v q (W.alloc o) := h.call ((Below.refl _ _).alloc (Nat.le_refl _) o)
theorem DqS.app {w W W' : World} {g : Nat} {s : ByteArray} {a e : Int} {v v' : Value} {q : List (Value × Vn)} {y : Value × Vn} (h : DqS w g s a e v q W) (hy : OwnP W (g + 1) 74 y.1 y.2.ps) (hr : W'.ownsRow (g + 1) 36 5 v' (q.length + 1) (vqC q ++ vnC y)) (hk : Keep (fun j => v.ownBlock = some j) W W') : DqS w g s a e v' (q ++ [y]) W' := by
  have hge := fun k (e : v.ownBlock = some k) => ownsRow_ge h.own.1 e
  have hl := h.low
  exact ⟨h.rd.keep hk (fun e => by have := hge _ e; omega), h.own.app hy (by decide) hr hk, h.bel.trans (keep_below hk (fun k hk' e => by have := hge _ e; omega) h.bel.size), h.low⟩
theorem DqS.three {w W : World} {g : Nat} {s : ByteArray} {a e : Int} {v : Value} {q : List (Value × Vn)} (h : DqS w g s a e v q W) : W.cell? ⟨g, 0, none⟩ = some (.string s) ∧ W.cell? ⟨g, 1, none⟩ = some (.int .i64 a) ∧ W.cell? ⟨g, 2, none⟩ = some (.int .i64 e) := ⟨h.rd.cellAt rfl, h.rd.cellAt rfl, h.rd.cellAt rfl⟩
/-- within a round: the reader's box at g, a version's box at b -/
structure RoS (wr : World) (g : Nat) (s : ByteArray) (a e : Int) (b : Nat) (cs : List Value) (W : World) : Prop where
  on : Only g wr W
  rd : RowIs W g [.string s, .int .i64 a, .int .i64 e] 101
  box : RowIs W b cs 36
  lt : g < wr.heap.size
  low : wr.heap.size ≤ b
theorem RoS.call {wr W W' : World} {g b : Nat} {s : ByteArray} {a e : Int} {cs : List Value} (h : RoS wr g s a e b cs W) (hb : Below W.heap.size W W') : RoS wr g s a e b cs W' :=
  ⟨h.on.trans (hb.only g), h.rd.keep (hb.keep (fun _ => False)) (fun h => h), h.box.keep (hb.keep (fun _ => False)) (fun h => h), h.lt, h.low⟩
theorem RoS.al {wr W : World} {g b : Nat} {s : ByteArray} {a e : Int} {cs : List Value} (h : RoS wr g s a e b cs W) (o : Obj) : RoS wr g s a e b cs (W.alloc o) := h.call ((Below.refl _ _).alloc (Nat.le_refl _) o)
theorem Only.of {g : Nat} {S : Nat → Prop} {a b c : World} (h : Only g a b) (k : Keep S b c) (hS : ∀ j, j < a.heap.size → j ≠ g → ¬ S j) : Only g a c :=
  ⟨k.os.trans h.os, k.tape.trans h.tape, k.output.trans h.output, Nat.le_trans h.size k.size, fun j hj hg => (k.block j (Nat.lt_of_lt_of_le hj h.size) (hS j hj hg)).trans (h.block j hj hg)⟩
theorem RoS.put {wr W : World} {g b : Nat} {s : ByteArray} {a e : Int} {cs : List Value} (h : RoS wr g s a e b cs W) (a' e' : Int) : RoS wr g s a' e' b cs (((W.setCell ⟨g, 0, none⟩ (.string s)).setCell ⟨g, 1, none⟩ (.int .i64 a')).setCell ⟨g, 2, none⟩ (.int .i64 e')) ∧ Keep (· = g) W (((W.setCell ⟨g, 0, none⟩ (.string s)).setCell ⟨g, 1, none⟩ (.int .i64 a')).setCell ⟨g, 2, none⟩ (.int .i64 e')) := by
  have k : Keep (· = g) W (((W.setCell ⟨g, 0, none⟩ (.string s)).setCell ⟨g, 1, none⟩ (.int .i64 a')).setCell ⟨g, 2, none⟩ (.int .i64 e')) := ((keep_setCell _ _ _ _).trans (keep_setCell _ _ _ _)).trans (keep_setCell _ _ _ _)
  have h1 := h.lt
  have h2 := h.low
  exact ⟨⟨h.on.of k (fun j _ hj e => hj e), ((h.rd.set 0 _).set 1 _).set 2 _, h.box.keep k (by omega), h.lt, h.low⟩, k⟩
theorem RoS.set5 {wr W : World} {g b : Nat} {s : ByteArray} {a e : Int} {z0 z1 z2 z3 z4 : Value} (h : RoS wr g s a e b [z0, z1, z2, z3, z4] W) (x0 x1 x2 x3 x4 : Value) : RoS wr g s a e b [x0, x1, x2, x3, x4] (((((W.setCell ⟨b, 0, none⟩ x0).setCell ⟨b, 1, none⟩ x1).setCell ⟨b, 2, none⟩ x2).setCell ⟨b, 3, none⟩ x3).setCell ⟨b, 4, none⟩ x4) ∧ Keep (· = b) W (((((W.setCell ⟨b, 0, none⟩ x0).setCell ⟨b, 1, none⟩ x1).setCell ⟨b, 2, none⟩ x2).setCell ⟨b, 3, none⟩ x3).setCell ⟨b, 4, none⟩ x4) := by
  have f := five h.box (x0 := x0) (x1 := x1) (x2 := x2) (x3 := x3) (x4 := x4)
  have h1 := h.lt
  have h2 := h.low
  exact ⟨⟨h.on.of f.2 (fun j hj _ e => by omega), h.rd.keep f.2 (by omega), f.1, h.lt, h.low⟩, f.2⟩
theorem RoS.cells {wr W : World} {g b : Nat} {s : ByteArray} {a e : Int} {z0 z1 z2 z3 z4 : Value} (h : RoS wr g s a e b [z0, z1, z2, z3, z4] W) : (W.cell? ⟨g, 0, none⟩ = some (.string s) ∧ W.cell? ⟨g, 1, none⟩ = some (.int .i64 a) ∧ W.cell? ⟨g, 2, none⟩ = some (.int .i64 e)) ∧ (W.frozen? ⟨g, 0, none⟩ = false ∧ W.frozen? ⟨g, 1, none⟩ = false ∧ W.frozen? ⟨g, 2, none⟩ = false) ∧ (W.cell? ⟨b, 0, none⟩ = some z0 ∧ W.cell? ⟨b, 1, none⟩ = some z1 ∧ W.cell? ⟨b, 2, none⟩ = some z2 ∧ W.cell? ⟨b, 3, none⟩ = some z3 ∧ W.cell? ⟨b, 4, none⟩ = some z4) ∧ (W.frozen? ⟨b, 0, none⟩ = false ∧ W.frozen? ⟨b, 1, none⟩ = false ∧ W.frozen? ⟨b, 2, none⟩ = false ∧ W.frozen? ⟨b, 3, none⟩ = false ∧ W.frozen? ⟨b, 4, none⟩ = false) :=
  ⟨⟨h.rd.cellAt rfl, h.rd.cellAt rfl, h.rd.cellAt rfl⟩, ⟨h.rd.frozen, h.rd.frozen, h.rd.frozen⟩, ⟨h.box.cellAt rfl, h.box.cellAt rfl, h.box.cellAt rfl, h.box.cellAt rfl, h.box.cellAt rfl⟩, h.box.frozen, h.box.frozen, h.box.frozen, h.box.frozen, h.box.frozen⟩
end Go.Proofs.Ytbiapepalkdkdaa
namespace Go.Proofs.Ytbiapepalkdkdaa
open Go.RowKit Go.Maps
set_option linter.unusedVariables false
set_option linter.unusedSimpArgs false

set_option maxRecDepth 100000 in
set_option maxHeartbeats 8000000 in
theorem rvdecode_any (t : ByteArray) (w : World) (hs : t.size ≤ 140737488355328) : Calls Try.prog 33 #[.string t] w (GiveV w (cdV t) (cdE t)) := by
  have hsm : t.size ≤ maxLen := by unfold maxLen; omega
  obtain ⟨N, hN⟩ : ∃ N, N = dcN t 32 0 0 := ⟨_, rfl⟩
  have RI : Hid (∀ (a e : Int) (W : World), Calls Try.prog 56 #[.agg #[.string t, .int .i64 a, .int .i64 e], .int .i64 1099511627776] W fun r w' => r = .returned (.tuple #[.agg #[.string t, .int .i64 (dcN t 1099511627776 a e).a, .int .i64 (dcN t 1099511627776 a e).e], .int .i64 (dcN t 1099511627776 a e).n]) ∧ Below W.heap.size W w') := fun a e W => ref_reader_int t a e _ W hsm (by omega) (nS_int t a e _ (by omega))
  have RN : Hid (∀ W, Calls Try.prog 56 #[.agg #[.string t, .int .i64 0, .int .i64 0], .int .i64 32] W fun r w' => r = .returned (.tuple #[.agg #[.string t, .int .i64 N.a, .int .i64 N.e], .int .i64 N.n]) ∧ Below W.heap.size W w') := fun W => by rw [hN]; exact ref_reader_int t 0 0 _ W hsm (by omega) (nS_int t 0 0 _ (by omega))
  have RB : Hid (∀ a e W, Calls Try.prog 57 #[.agg #[.string t, .int .i64 a, .int .i64 e]] W fun r w' => r = .returned (.tuple #[.agg #[.string t, .int .i64 (dcF t a e).a, .int .i64 (dcF t a e).e], .bool (((dcF t a e).n : Int) == 1)]) ∧ Below W.heap.size W w') := fun a e W => ref_reader_bool t a e W hsm
  have RT : Hid (∀ a e W, Calls Try.prog 59 #[.agg #[.string t, .int .i64 a, .int .i64 e], .int .i64 64] W fun r w' => r = .returned (.tuple #[.agg #[.string t, .int .i64 (tS t a e 64).a, .int .i64 (tS t a e 64).e], .string (tS t a e 64).x]) ∧ Below W.heap.size W w') := fun a e W => ref_reader_text t a e 64 W hs
  have RR : Hid (∀ a e W, Calls Try.prog 58 #[.agg #[.string t, .int .i64 a, .int .i64 e]] W fun r w' => ∃ ad cap, r = .returned (.tuple #[.agg #[.string t, .int .i64 (rdP t a e).a, .int .i64 (rdP t a e).e], .slice ad (rdP t a e).l.length cap]) ∧ OwnP w' W.heap.size 74 (.slice ad (rdP t a e).l.length cap) (rdP t a e).l ∧ Below W.heap.size W w') := fun a e W => rread_any t a e W hs
  have RPC : Hid (∀ a e v W, PcI W v (rdP t a e).l → Calls Try.prog 10 #[v] W fun r w' => r = .returned (.tuple #[.int .i64 (pcV (rdP t a e).l), .int .i64 (pcE (rdP t a e).l)]) ∧ Below W.heap.size W w') := fun a e v W hv => rpieces_any v _ W hv (by have := rdP_len t a e; omega) (fun p hp => by have := rdP_ids t a e p hp; omega)
  have RE := hid (fun a e W => ref_reader_end t a e W)
  have CB := cdT_b t
  have IC : Hid (∀ v q W, VnI W v q → vqL q = (cdT t).l → Calls Try.prog 41 #[v] W fun e w' => e = .returned (.bool (isCh (vqL q))) ∧ Below W.heap.size W w') := fun v q W hv hq => rmay_any v q W hv (by have := CB.1; rw [← hq, vqL_len] at this; omega) (fun y hy => by
    obtain ⟨h1, h2, h3⟩ := CB.2 y.2 (by rw [← hq]; exact vq_mem hy)
    exact ⟨by omega, by omega, fun p hp => by have := h3 p hp; omega⟩)
  have HN32 : Hid ((N.n : Int) ≤ 32) := by have := dcN_le t 32 0 0 (by omega); show _ ≤ _; rw [hN]; exact this
  have HM : Hid (cdT t = dcV t (N.n - 0) N.a N.e) := by show _ = _; rw [hN]; rfl
  have HVE : Hid (cdE t = (if cdOk t = true then 0 else 3) ∧ cdV t = (if cdOk t = true then (cdT t).l else [])) := ⟨rfl, rfl⟩
  have HOK : Hid (cdOk t = ((endE t (cdT t).a (cdT t).e == 0) && isCh (cdT t).l)) := rfl
  obtain ⟨na, ne, n0⟩ := N
  simp only at *
  clear hs hsm hN CB
  generalize cdE t = DE at *
  generalize cdV t = DV at *
  generalize cdOk t = OK at *
  generalize cdT t = M at *
  go_enter Try.func33, Try.ntmps33
  go_wp2_with fail
  refine (RN.out _).mono ?_
  rintro e w1 ⟨rfl, b1⟩
  have H1 : Hid (DqS w w1.heap.size t na ne (.slice none 0 0) [] (w1.alloc (.cells #[.string t, .int .i64 na, .int .i64 ne] 101))) := ⟨srow w1 _ _, ownQ_nil _ _ _ _, below_al b1 _, b1.size⟩
  clear b1 RN
  go_wp2
  go_loopw [6, 7] (fun o i wr => ∃ (k : Nat) (q : List (Value × Vn)) (ad : Option Addr) (cap : Nat) (a e : Int), k ≤ n0 ∧ o = .slice ad k cap ∧ i = .int .i64 (k : Int) ∧ Hid (q.length = k) ∧ Hid (DqS w w1.heap.size t a e (.slice ad k cap) q wr) ∧ Hid (M = ⟨(dcV t (n0 - k) a e).a, (dcV t (n0 - k) a e).e, vqL q ++ (dcV t (n0 - k) a e).l⟩)) (fun _ i _ => n0 - (intOf i).toNat)
  case atStart => exact ⟨0, [], none, 0, na, ne, Nat.zero_le _, rfl, rfl, rfl, H1, HM⟩
  case round =>
    clear H1 HM
    obtain ⟨k, q, ad, cap, a, e, hk, rfl, rfl, HA, HS, HM⟩ := hrel
    generalize w1.heap.size = g at *
    obtain ⟨c0, c1, c2⟩ := HS.out.three
    by_cases hlt : k < n0
    · have hk1 : (k : Int) < (n0 : Int) := by omega
      have hk5 : k < 32 := by have := HN32.out; omega
      have hwk : wrap64 ((k : Int) + 1) = ((k + 1 : Nat) : Int) := by rw [IntWalk.wrap64_in _ (by omega)]; omega
      have HB1 : Hid (k + 1 ≤ 4611686018427387904) := by show _ ≤ _; omega
      have HB2 : Hid ((k + 1) * 64 ≤ 140737488355328) := by show _ ≤ _; omega
      have HM2 : Hid (M = ⟨(dcV t (n0 - (k + 1)) (rdV t a e).a (rdV t a e).e).a, (dcV t (n0 - (k + 1)) (rdV t a e).a (rdV t a e).e).e, (vqL q ++ [(rdV t a e).v]) ++ (dcV t (n0 - (k + 1)) (rdV t a e).a (rdV t a e).e).l⟩) := by
        show _ = _
        rw [HM.out, show n0 - k = (n0 - (k + 1)) + 1 by omega]
        simp only [dcV, List.append_assoc, List.singleton_append]
      obtain ⟨I, hI⟩ : ∃ I, I = dcN t 1099511627776 a e := ⟨_, rfl⟩
      obtain ⟨F, hF⟩ : ∃ F, F = dcF t I.a I.e := ⟨_, rfl⟩
      obtain ⟨P, hP⟩ : ∃ P, P = rdP t F.a F.e := ⟨_, rfl⟩
      obtain ⟨X, hX⟩ : ∃ X, X = tS t P.a P.e 64 := ⟨_, rfl⟩
      obtain ⟨FB, hFB⟩ : ∃ FB, ((F.n : Int) == 1) = FB := ⟨_, rfl⟩
      have HV : Hid (rdV t a e = if FB = true then ⟨F.a, F.e, ⟨I.n, true, 0, ⟨#[]⟩, []⟩⟩ else ⟨X.a, X.e, ⟨I.n, false, pcV P.l, X.x, P.l⟩⟩) := by subst hX hP hFB hF hI; rfl
      have R1 := hid (fun W => RI.out a e W)
      have R2 := hid (fun W => RB.out I.a I.e W)
      have R3 := hid (fun W => RR.out F.a F.e W)
      have R4 := hid (fun W => RT.out P.a P.e W)
      have R5 := hid (fun v W hv => RPC.out F.a F.e v W hv)
      rw [← hI] at R1
      rw [← hF, hFB] at R2
      rw [← hP] at R3 R5
      rw [← hX] at R4
      have HLT := hid hlt
      clear hI hF hP hX hFB HM RI RB RR RT RPC RE IC HN32 HOK HVE hlt hk
      generalize rdV t a e = R at *
      obtain ⟨ia, ie, iN⟩ := I
      obtain ⟨fa, fe, fN⟩ := F
      obtain ⟨pa, pe, pl⟩ := P
      obtain ⟨xa, xe, xx⟩ := X
      simp only at *
      go_wp2_with fail
      refine (R1.out _).mono ?_
      rintro e' w2 ⟨rfl, b2⟩
      have O2 : Hid (Only g wr (w2.alloc (.cells #[.string t, .int .i64 ia, .int .i64 ie] 101)) ∧ RowIs (w2.alloc (.cells #[.string t, .int .i64 ia, .int .i64 ie] 101)) g [.string t, .int .i64 a, .int .i64 e] 101 ∧ g < wr.heap.size) := by
        have h2 := (HS.out.call b2).al (.cells #[.string t, .int .i64 ia, .int .i64 ie] 101)
        exact ⟨(b2.only g).trans (((Below.refl w2.heap.size w2).alloc (Nat.le_refl _) _).only g), h2.rd, HS.out.rd.lt⟩
      clear b2 R1 c0 c1 c2
      go_wp2_with fail
      refine (R2.out _).mono ?_
      rintro e' w3 ⟨rfl, b3⟩
      cases FB
      · have hR : R = ⟨xa, xe, ⟨iN, false, pcV pl, xx, pl⟩⟩ := HV.out
        subst hR
        simp only at HM2
        generalize pcV pl = PV at *
        generalize pcE pl = PE at *
        have HR : Hid (RoS wr g t a e (w3.heap.size + 1) [.int .i64 (iN : Int), .bool false, .int .i64 0, .string ⟨#[]⟩, .slice none 0 0] ((w3.alloc (.cells #[.string t, .int .i64 fa, .int .i64 fe] 101)).alloc (.cells #[.int .i64 (iN : Int), .bool false, .int .i64 0, .string ⟨#[]⟩, .slice none 0 0] 36))) := by
          have o3 := O2.out.1.trans (b3.only g)
          have r3 := O2.out.2.1.keep (b3.keep (fun _ => False)) (fun h => h)
          have s3 := srow (w3.alloc (.cells #[.string t, .int .i64 fa, .int .i64 fe] 101)) [.int .i64 (iN : Int), .bool false, .int .i64 0, .string ⟨#[]⟩, .slice none 0 0] 36
          rw [show (w3.alloc (.cells #[.string t, .int .i64 fa, .int .i64 fe] 101)).heap.size = w3.heap.size + 1 by simp] at s3
          exact ⟨(o3.trans (((Below.refl w3.heap.size w3).alloc (Nat.le_refl _) _).only g)).trans (((Below.refl _ _).alloc (Nat.le_refl _) _).only g), row_old (row_old r3 _) _, s3, O2.out.2.2, by have := o3.size; omega⟩
        have T10 : Hid (RowIs ((w3.alloc (.cells #[.string t, .int .i64 fa, .int .i64 fe] 101)).alloc (.cells #[.int .i64 (iN : Int), .bool false, .int .i64 0, .string ⟨#[]⟩, .slice none 0 0] 36)) w3.heap.size [.string t, .int .i64 fa, .int .i64 fe] 101) := row_old (srow w3 _ _) _
        have HGL : Hid (g < w3.heap.size) := Nat.lt_of_lt_of_le O2.out.2.2 (O2.out.1.trans (b3.only g)).size
        clear b3 R2 O2 HV
        obtain ⟨⟨c0, c1, c2⟩, ⟨f0, f1, f2⟩, ⟨z0, z1, z2, z3, z4⟩, -⟩ := HR.out.cells
        have t0 := T10.out.cellAt (o := 0) rfl
        have t1 := T10.out.cellAt (o := 1) rfl
        have t2 := T10.out.cellAt (o := 2) rfl
        have HR9 := hid (HR.out.put fa fe).1
        have T9 := hid (T10.out.keep (HR.out.put fa fe).2 (by have := HGL.out; omega))
        have u0 := T9.out.cellAt (o := 0) rfl
        have u1 := T9.out.cellAt (o := 1) rfl
        have u2 := T9.out.cellAt (o := 2) rfl
        go_wp2_with fail
        refine (R3.out _).mono ?_
        rintro e' w4 ⟨ad4, cap4, rfl, o4, b4⟩
        have HR4 := hid ((HR9.out.call b4).al (.cells #[.string t, .int .i64 pa, .int .i64 pe] 101))
        have O4 : Hid (OwnP (w4.alloc (.cells #[.string t, .int .i64 pa, .int .i64 pe] 101)) (w3.heap.size + 2) 74 (.slice ad4 pl.length cap4) pl) := by
          have := ownsRow_base (B' := w3.heap.size + 2) o4 (by simp [World.setCell])
          exact OwnP.next this ((Below.refl _ _).alloc (Nat.le_refl _) _)
        clear o4 b4 R3 HR T10 HR9 T9 c0 c1 c2 f0 f1 f2 z0 z1 z2 z3 z4 t0 t1 t2 u0 u1 u2
        go_wp2_with fail
        refine (R4.out _).mono ?_
        rintro e' w5 ⟨rfl, b5⟩
        have HR5 := hid ((HR4.out.call b5).al (.cells #[.string t, .int .i64 xa, .int .i64 xe] 101))
        have O5 := hid (OwnP.next (O4.out.next b5) ((Below.refl w5.heap.size w5).alloc (Nat.le_refl _) (.cells #[.string t, .int .i64 xa, .int .i64 xe] 101)))
        have T15 := hid (srow w5 [.string t, .int .i64 xa, .int .i64 xe] 101)
        have HL5 : Hid (w3.heap.size + 1 < w5.heap.size) := (HR4.out.call b5).box.lt
        have C5 := hid (R5.out _ _ O5.out.pcs)
        clear b5 R4 R5 HR4 O4
        go_wp2_with fail
        refine C5.out.mono ?_
        rintro e' w6 ⟨rfl, b6⟩
        have HR6 := hid (HR5.out.call b6)
        have O6 := hid (O5.out.next b6)
        have T6 := hid (T15.out.keep (b6.keep (fun _ => False)) (fun h => h))
        clear b6 C5 HR5 O5 T15
        generalize hpn : pl.length = pn at *
        obtain ⟨⟨c0, c1, c2⟩, ⟨f0, f1, f2⟩, ⟨z0, z1, z2, z3, z4⟩, ⟨y0, y1, y2, y3, y4⟩⟩ := HR6.out.cells
        have HR7 := hid (HR6.out.set5 (.int .i64 (iN : Int)) (.bool false) (.int .i64 PV) (.string xx) (.slice ad4 pn cap4))
        have T7 := hid (T6.out.keep HR7.out.2 (by have := HL5.out; omega))
        have u0 := T7.out.cellAt (o := 0) rfl
        have u1 := T7.out.cellAt (o := 1) rfl
        have u2 := T7.out.cellAt (o := 2) rfl
        obtain ⟨⟨j0, j1, j2⟩, ⟨k0, k1, k2⟩, -, -⟩ := HR7.out.1.cells
        have HR8 := hid (HR7.out.1.put xa xe)
        obtain ⟨-, -, ⟨m0, m1, m2, m3, m4⟩, -⟩ := HR8.out.1.cells
        have hz8 : ((((((((w6.setCell ⟨(w3.heap.size + 1), 0, none⟩ (.int .i64 (iN : Int))).setCell ⟨(w3.heap.size + 1), 1, none⟩ (.bool false)).setCell ⟨(w3.heap.size + 1), 2, none⟩ (.int .i64 PV)).setCell ⟨(w3.heap.size + 1), 3, none⟩ (.string xx)).setCell ⟨(w3.heap.size + 1), 4, none⟩ (.slice ad4 pn cap4)).setCell ⟨g, 0, none⟩ (.string t)).setCell ⟨g, 1, none⟩ (.int .i64 xa)).setCell ⟨g, 2, none⟩ (.int .i64 xe)).heap.size = w6.heap.size := by simp [World.setCell]
        have RO := hid (HR8.out.1.al (.cells #[.int .i64 (iN : Int), .bool false, .int .i64 PV, .string xx, .slice ad4 pn cap4] 36))
        have OP : Hid (OwnP (((((((((w6.setCell ⟨(w3.heap.size + 1), 0, none⟩ (.int .i64 (iN : Int))).setCell ⟨(w3.heap.size + 1), 1, none⟩ (.bool false)).setCell ⟨(w3.heap.size + 1), 2, none⟩ (.int .i64 PV)).setCell ⟨(w3.heap.size + 1), 3, none⟩ (.string xx)).setCell ⟨(w3.heap.size + 1), 4, none⟩ (.slice ad4 pn cap4)).setCell ⟨g, 0, none⟩ (.string t)).setCell ⟨g, 1, none⟩ (.int .i64 xa)).setCell ⟨g, 2, none⟩ (.int .i64 xe)).alloc (.cells #[.int .i64 (iN : Int), .bool false, .int .i64 PV, .string xx, .slice ad4 pn cap4] 36)) (g + 1) 74 (.slice ad4 pn cap4) pl) := by
          have := HGL.out
          have o1 := HR8.out.2.ownsRow (HR7.out.2.ownsRow O6.out (fun j hj e => by have := ownsRow_ge O6.out hj; omega)) (fun j hj e => by have := ownsRow_ge O6.out hj; omega)
          exact ownsRow_base (OwnP.next (show OwnP _ _ _ _ _ from o1) ((Below.refl _ _).alloc (Nat.le_refl _) _)) (by omega)
        have HGA : Hid ((((((((((w6.setCell ⟨(w3.heap.size + 1), 0, none⟩ (.int .i64 (iN : Int))).setCell ⟨(w3.heap.size + 1), 1, none⟩ (.bool false)).setCell ⟨(w3.heap.size + 1), 2, none⟩ (.int .i64 PV)).setCell ⟨(w3.heap.size + 1), 3, none⟩ (.string xx)).setCell ⟨(w3.heap.size + 1), 4, none⟩ (.slice ad4 pn cap4)).setCell ⟨g, 0, none⟩ (.string t)).setCell ⟨g, 1, none⟩ (.int .i64 xa)).setCell ⟨g, 2, none⟩ (.int .i64 xe)).alloc (.cells #[.int .i64 (iN : Int), .bool false, .int .i64 PV, .string xx, .slice ad4 pn cap4] 36)).ownsRow (g + 1) 36 5 (.slice ad k cap) k (vqC q)) := by have := (HS.out.read RO.out.rd RO.out.on).own.1; rw [HA.out] at this; exact this
        have HGX : Hid (GSrc (((((((((w6.setCell ⟨(w3.heap.size + 1), 0, none⟩ (.int .i64 (iN : Int))).setCell ⟨(w3.heap.size + 1), 1, none⟩ (.bool false)).setCell ⟨(w3.heap.size + 1), 2, none⟩ (.int .i64 PV)).setCell ⟨(w3.heap.size + 1), 3, none⟩ (.string xx)).setCell ⟨(w3.heap.size + 1), 4, none⟩ (.slice ad4 pn cap4)).setCell ⟨g, 0, none⟩ (.string t)).setCell ⟨g, 1, none⟩ (.int .i64 xa)).setCell ⟨g, 2, none⟩ (.int .i64 xe)).alloc (.cells #[.int .i64 (iN : Int), .bool false, .int .i64 PV, .string xx, .slice ad4 pn cap4] 36)) (.slice (some ⟨w6.heap.size, 0, none⟩) 1 1) 1 (vnC (Value.slice ad4 pn cap4, (⟨(iN : Int), false, PV, xx, pl⟩ : Vn)))) := by
          have := (show RowIs (((((((((w6.setCell ⟨(w3.heap.size + 1), 0, none⟩ (.int .i64 (iN : Int))).setCell ⟨(w3.heap.size + 1), 1, none⟩ (.bool false)).setCell ⟨(w3.heap.size + 1), 2, none⟩ (.int .i64 PV)).setCell ⟨(w3.heap.size + 1), 3, none⟩ (.string xx)).setCell ⟨(w3.heap.size + 1), 4, none⟩ (.slice ad4 pn cap4)).setCell ⟨g, 0, none⟩ (.string t)).setCell ⟨g, 1, none⟩ (.int .i64 xa)).setCell ⟨g, 2, none⟩ (.int .i64 xe)).alloc (.cells #[.int .i64 (iN : Int), .bool false, .int .i64 PV, .string xx, .slice ad4 pn cap4] 36)) w6.heap.size [.int .i64 (iN : Int), .bool false, .int .i64 PV, .string xx, .slice ad4 pn cap4] 36 from hz8 ▸ srow ((((((((w6.setCell ⟨(w3.heap.size + 1), 0, none⟩ (.int .i64 (iN : Int))).setCell ⟨(w3.heap.size + 1), 1, none⟩ (.bool false)).setCell ⟨(w3.heap.size + 1), 2, none⟩ (.int .i64 PV)).setCell ⟨(w3.heap.size + 1), 3, none⟩ (.string xx)).setCell ⟨(w3.heap.size + 1), 4, none⟩ (.slice ad4 pn cap4)).setCell ⟨g, 0, none⟩ (.string t)).setCell ⟨g, 1, none⟩ (.int .i64 xa)).setCell ⟨g, 2, none⟩ (.int .i64 xe)) [.int .i64 (iN : Int), .bool false, .int .i64 PV, .string xx, .slice ad4 pn cap4] 36)
          exact gsrc_block this
        have HSZ : Hid (g + 1 ≤ (((((((((w6.setCell ⟨(w3.heap.size + 1), 0, none⟩ (.int .i64 (iN : Int))).setCell ⟨(w3.heap.size + 1), 1, none⟩ (.bool false)).setCell ⟨(w3.heap.size + 1), 2, none⟩ (.int .i64 PV)).setCell ⟨(w3.heap.size + 1), 3, none⟩ (.string xx)).setCell ⟨(w3.heap.size + 1), 4, none⟩ (.slice ad4 pn cap4)).setCell ⟨g, 0, none⟩ (.string t)).setCell ⟨g, 1, none⟩ (.int .i64 xa)).setCell ⟨g, 2, none⟩ (.int .i64 xe)).alloc (.cells #[.int .i64 (iN : Int), .bool false, .int .i64 PV, .string xx, .slice ad4 pn cap4] 36)).heap.size) := RO.out.rd.lt
        have HO1 : Hid (∀ u ∈ vnC (Value.slice ad4 pn cap4, (⟨(iN : Int), false, PV, xx, pl⟩ : Vn)), u.oneCell' = true) := vnC_one _ _ _ _
        have HX2 : Hid ((vnC (Value.slice ad4 pn cap4, (⟨(iN : Int), false, PV, xx, pl⟩ : Vn))).length = 1 * 5) := rfl
        have HA2 : Hid ((q ++ [(Value.slice ad4 pn cap4, (⟨(iN : Int), false, PV, xx, pl⟩ : Vn))]).length = k + 1) := by show _ = _; rw [List.length_append, HA.out]; rfl
        have HM3 : Hid (M = ⟨(dcV t (n0 - (k + 1)) xa xe).a, (dcV t (n0 - (k + 1)) xa xe).e, vqL (q ++ [(Value.slice ad4 pn cap4, (⟨(iN : Int), false, PV, xx, pl⟩ : Vn))]) ++ (dcV t (n0 - (k + 1)) xa xe).l⟩) := by show _ = _; rw [vqL_app]; exact HM2.out
        have FIN : Hid (∀ ad' cap' w', w'.ownsRow (g + 1) 36 5 (.slice ad' (k + 1) cap') (k + 1) (vqC q ++ vnC (Value.slice ad4 pn cap4, (⟨(iN : Int), false, PV, xx, pl⟩ : Vn))) → Keep (fun j => (Value.slice ad k cap).ownBlock = some j) (((((((((w6.setCell ⟨(w3.heap.size + 1), 0, none⟩ (.int .i64 (iN : Int))).setCell ⟨(w3.heap.size + 1), 1, none⟩ (.bool false)).setCell ⟨(w3.heap.size + 1), 2, none⟩ (.int .i64 PV)).setCell ⟨(w3.heap.size + 1), 3, none⟩ (.string xx)).setCell ⟨(w3.heap.size + 1), 4, none⟩ (.slice ad4 pn cap4)).setCell ⟨g, 0, none⟩ (.string t)).setCell ⟨g, 1, none⟩ (.int .i64 xa)).setCell ⟨g, 2, none⟩ (.int .i64 xe)).alloc (.cells #[.int .i64 (iN : Int), .bool false, .int .i64 PV, .string xx, .slice ad4 pn cap4] 36)) w' → Hid (DqS w g t xa xe (.slice ad' (k + 1) cap') (q ++ [(Value.slice ad4 pn cap4, (⟨(iN : Int), false, PV, xx, pl⟩ : Vn))]) w')) := fun ad' cap' w' hr hk' => (HS.out.read RO.out.rd RO.out.on).app OP.out (by rw [HA.out]; exact hr) hk'
        clear HR6 HR7 HR8 RO OP O6 T6 T7 HA HM2 HS hz8
        generalize vnC (Value.slice ad4 pn cap4, (⟨(iN : Int), false, PV, xx, pl⟩ : Vn)) = XS at *
        generalize vqC q = PA at *
        go_wp2_with (at_builtin; refine wpl_gappL rfl _ _ elRV rfl (g + 1) (.slice ad k cap) (.slice (some ⟨w6.heap.size, 0, none⟩) 1 1) PA XS k 1 (k + 1) rfl rfl rfl HGA.out HSZ.out HGX.out HX2.out HO1.out HB1.out HB2.out ?_; intro ad' cap' w' hr' hk')
        have F1 := FIN.out _ _ _ hr' hk'
        clear hr' hk' FIN HGA HGX HSZ
        go_wp2
        exact ⟨⟨k + 1, _, _, _, xa, xe, HLT.out, rfl, by first | rw [hwk] | rfl | simp, HA2, F1, HM3⟩, by (try rw [hwk]); have := HLT.out; simp [intOf]; omega⟩
      · have hR : R = ⟨fa, fe, ⟨iN, true, 0, ⟨#[]⟩, []⟩⟩ := HV.out
        subst hR
        simp only at HM2
        have HR : Hid (RoS wr g t a e (w3.heap.size + 1) [.int .i64 (iN : Int), .bool true, .int .i64 0, .string ⟨#[]⟩, .slice none 0 0] ((w3.alloc (.cells #[.string t, .int .i64 fa, .int .i64 fe] 101)).alloc (.cells #[.int .i64 (iN : Int), .bool true, .int .i64 0, .string ⟨#[]⟩, .slice none 0 0] 36))) := by
          have o3 := O2.out.1.trans (b3.only g)
          have r3 := O2.out.2.1.keep (b3.keep (fun _ => False)) (fun h => h)
          have s3 := srow (w3.alloc (.cells #[.string t, .int .i64 fa, .int .i64 fe] 101)) [.int .i64 (iN : Int), .bool true, .int .i64 0, .string ⟨#[]⟩, .slice none 0 0] 36
          rw [show (w3.alloc (.cells #[.string t, .int .i64 fa, .int .i64 fe] 101)).heap.size = w3.heap.size + 1 by simp] at s3
          exact ⟨(o3.trans (((Below.refl w3.heap.size w3).alloc (Nat.le_refl _) _).only g)).trans (((Below.refl _ _).alloc (Nat.le_refl _) _).only g), row_old (row_old r3 _) _, s3, O2.out.2.2, by have := o3.size; omega⟩
        have T10 : Hid (RowIs ((w3.alloc (.cells #[.string t, .int .i64 fa, .int .i64 fe] 101)).alloc (.cells #[.int .i64 (iN : Int), .bool true, .int .i64 0, .string ⟨#[]⟩, .slice none 0 0] 36)) w3.heap.size [.string t, .int .i64 fa, .int .i64 fe] 101) := row_old (srow w3 _ _) _
        have HGL : Hid (g < w3.heap.size) := Nat.lt_of_lt_of_le O2.out.2.2 (O2.out.1.trans (b3.only g)).size
        clear b3 R2 O2 HV R3 R4 R5
        obtain ⟨⟨c0, c1, c2⟩, ⟨f0, f1, f2⟩, ⟨z0, z1, z2, z3, z4⟩, -⟩ := HR.out.cells
        have t0 := T10.out.cellAt (o := 0) rfl
        have t1 := T10.out.cellAt (o := 1) rfl
        have t2 := T10.out.cellAt (o := 2) rfl
        have HR9 := hid (HR.out.put fa fe).1
        obtain ⟨-, -, ⟨m0, m1, m2, m3, m4⟩, -⟩ := HR9.out.cells
        have hz8 : (((((w3.alloc (.cells #[.string t, .int .i64 fa, .int .i64 fe] 101)).alloc (.cells #[.int .i64 (iN : Int), .bool true, .int .i64 0, .string ⟨#[]⟩, .slice none 0 0] 36)).setCell ⟨g, 0, none⟩ (.string t)).setCell ⟨g, 1, none⟩ (.int .i64 fa)).setCell ⟨g, 2, none⟩ (.int .i64 fe)).heap.size = w3.heap.size + 2 := by simp [World.setCell]
        have RO := hid (HR9.out.al (.cells #[.int .i64 (iN : Int), .bool true, .int .i64 0, .string ⟨#[]⟩, .slice none 0 0] 36))
        have OP : Hid (OwnP ((((((w3.alloc (.cells #[.string t, .int .i64 fa, .int .i64 fe] 101)).alloc (.cells #[.int .i64 (iN : Int), .bool true, .int .i64 0, .string ⟨#[]⟩, .slice none 0 0] 36)).setCell ⟨g, 0, none⟩ (.string t)).setCell ⟨g, 1, none⟩ (.int .i64 fa)).setCell ⟨g, 2, none⟩ (.int .i64 fe)).alloc (.cells #[.int .i64 (iN : Int), .bool true, .int .i64 0, .string ⟨#[]⟩, .slice none 0 0] 36)) (g + 1) 74 (.slice none 0 0) []) := ownP_nil _ _ _
        have HGA : Hid (((((((w3.alloc (.cells #[.string t, .int .i64 fa, .int .i64 fe] 101)).alloc (.cells #[.int .i64 (iN : Int), .bool true, .int .i64 0, .string ⟨#[]⟩, .slice none 0 0] 36)).setCell ⟨g, 0, none⟩ (.string t)).setCell ⟨g, 1, none⟩ (.int .i64 fa)).setCell ⟨g, 2, none⟩ (.int .i64 fe)).alloc (.cells #[.int .i64 (iN : Int), .bool true, .int .i64 0, .string ⟨#[]⟩, .slice none 0 0] 36)).ownsRow (g + 1) 36 5 (.slice ad k cap) k (vqC q)) := by have := (HS.out.read RO.out.rd RO.out.on).own.1; rw [HA.out] at this; exact this
        have HGX : Hid (GSrc ((((((w3.alloc (.cells #[.string t, .int .i64 fa, .int .i64 fe] 101)).alloc (.cells #[.int .i64 (iN : Int), .bool true, .int .i64 0, .string ⟨#[]⟩, .slice none 0 0] 36)).setCell ⟨g, 0, none⟩ (.string t)).setCell ⟨g, 1, none⟩ (.int .i64 fa)).setCell ⟨g, 2, none⟩ (.int .i64 fe)).alloc (.cells #[.int .i64 (iN : Int), .bool true, .int .i64 0, .string ⟨#[]⟩, .slice none 0 0] 36)) (.slice (some ⟨w3.heap.size + 2, 0, none⟩) 1 1) 1 (vnC (Value.slice none 0 0, (⟨(iN : Int), true, 0, ⟨#[]⟩, []⟩ : Vn)))) := by
          have := (show RowIs ((((((w3.alloc (.cells #[.string t, .int .i64 fa, .int .i64 fe] 101)).alloc (.cells #[.int .i64 (iN : Int), .bool true, .int .i64 0, .string ⟨#[]⟩, .slice none 0 0] 36)).setCell ⟨g, 0, none⟩ (.string t)).setCell ⟨g, 1, none⟩ (.int .i64 fa)).setCell ⟨g, 2, none⟩ (.int .i64 fe)).alloc (.cells #[.int .i64 (iN : Int), .bool true, .int .i64 0, .string ⟨#[]⟩, .slice none 0 0] 36)) (w3.heap.size + 2) [.int .i64 (iN : Int), .bool true, .int .i64 0, .string ⟨#[]⟩, .slice none 0 0] 36 from hz8 ▸ srow (((((w3.alloc (.cells #[.string t, .int .i64 fa, .int .i64 fe] 101)).alloc (.cells #[.int .i64 (iN : Int), .bool true, .int .i64 0, .string ⟨#[]⟩, .slice none 0 0] 36)).setCell ⟨g, 0, none⟩ (.string t)).setCell ⟨g, 1, none⟩ (.int .i64 fa)).setCell ⟨g, 2, none⟩ (.int .i64 fe)) [.int .i64 (iN : Int), .bool true, .int .i64 0, .string ⟨#[]⟩, .slice none 0 0] 36)
          exact gsrc_block this
        have HSZ : Hid (g + 1 ≤ ((((((w3.alloc (.cells #[.string t, .int .i64 fa, .int .i64 fe] 101)).alloc (.cells #[.int .i64 (iN : Int), .bool true, .int .i64 0, .string ⟨#[]⟩, .slice none 0 0] 36)).setCell ⟨g, 0, none⟩ (.string t)).setCell ⟨g, 1, none⟩ (.int .i64 fa)).setCell ⟨g, 2, none⟩ (.int .i64 fe)).alloc (.cells #[.int .i64 (iN : Int), .bool true, .int .i64 0, .string ⟨#[]⟩, .slice none 0 0] 36)).heap.size) := RO.out.rd.lt
        have HO1 : Hid (∀ u ∈ vnC (Value.slice none 0 0, (⟨(iN : Int), true, 0, ⟨#[]⟩, []⟩ : Vn)), u.oneCell' = true) := vnC_one _ _ _ _
        have HX2 : Hid ((vnC (Value.slice none 0 0, (⟨(iN : Int), true, 0, ⟨#[]⟩, []⟩ : Vn))).length = 1 * 5) := rfl
        have HA2 : Hid ((q ++ [(Value.slice none 0 0, (⟨(iN : Int), true, 0, ⟨#[]⟩, []⟩ : Vn))]).length = k + 1) := by show _ = _; rw [List.length_append, HA.out]; rfl
        have HM3 : Hid (M = ⟨(dcV t (n0 - (k + 1)) fa fe).a, (dcV t (n0 - (k + 1)) fa fe).e, vqL (q ++ [(Value.slice none 0 0, (⟨(iN : Int), true, 0, ⟨#[]⟩, []⟩ : Vn))]) ++ (dcV t (n0 - (k + 1)) fa fe).l⟩) := by show _ = _; rw [vqL_app]; exact HM2.out
        have FIN : Hid (∀ ad' cap' w', w'.ownsRow (g + 1) 36 5 (.slice ad' (k + 1) cap') (k + 1) (vqC q ++ vnC (Value.slice none 0 0, (⟨(iN : Int), true, 0, ⟨#[]⟩, []⟩ : Vn))) → Keep (fun j => (Value.slice ad k cap).ownBlock = some j) ((((((w3.alloc (.cells #[.string t, .int .i64 fa, .int .i64 fe] 101)).alloc (.cells #[.int .i64 (iN : Int), .bool true, .int .i64 0, .string ⟨#[]⟩, .slice none 0 0] 36)).setCell ⟨g, 0, none⟩ (.string t)).setCell ⟨g, 1, none⟩ (.int .i64 fa)).setCell ⟨g, 2, none⟩ (.int .i64 fe)).alloc (.cells #[.int .i64 (iN : Int), .bool true, .int .i64 0, .string ⟨#[]⟩, .slice none 0 0] 36)) w' → Hid (DqS w g t fa fe (.slice ad' (k + 1) cap') (q ++ [(Value.slice none 0 0, (⟨(iN : Int), true, 0, ⟨#[]⟩, []⟩ : Vn))]) w')) := fun ad' cap' w' hr hk' => (HS.out.read RO.out.rd RO.out.on).app OP.out (by rw [HA.out]; exact hr) hk'
        clear HR HR9 RO OP T10 HA HM2 HS hz8
        generalize vnC (Value.slice none 0 0, (⟨(iN : Int), true, 0, ⟨#[]⟩, []⟩ : Vn)) = XS at *
        generalize vqC q = PA at *
        go_wp2_with (at_builtin; refine wpl_gappL rfl _ _ elRV rfl (g + 1) (.slice ad k cap) (.slice (some ⟨w3.heap.size + 2, 0, none⟩) 1 1) PA XS k 1 (k + 1) rfl rfl rfl HGA.out HSZ.out HGX.out HX2.out HO1.out HB1.out HB2.out ?_; intro ad' cap' w' hr' hk')
        have F1 := FIN.out _ _ _ hr' hk'
        clear hr' hk' FIN HGA HGX HSZ
        go_wp2
        exact ⟨⟨k + 1, _, _, _, fa, fe, HLT.out, rfl, by first | rw [hwk] | rfl | simp, HA2, F1, HM3⟩, by (try rw [hwk]); have := HLT.out; simp [intOf]; omega⟩
    · have hk9 : k = n0 := by omega
      have hdl : decide ((k : Int) < (n0 : Int)) = false := decide_eq_false (by omega)
      have hdl2 : decide (k < n0) = false := decide_eq_false (by omega)
      have HM2 : M = ⟨a, e, vqL q⟩ := by rw [HM.out, hk9, Nat.sub_self]; simp [dcV]
      subst HM2
      simp only at HVE HOK IC
      have R7 := hid (fun W => RE.out a e W)
      clear HM RI RB RR RT RPC HN32 hlt hk hk9 RE
      go_wp2_with fail
      refine (R7.out _).mono ?_
      rintro e' w3 ⟨rfl, b3⟩
      have H3 := hid (HS.out.call b3)
      clear b3 R7 HS c0 c1 c2
      generalize endE t a e = E at *
      have hfd : ∀ W : World, (Instr.field 101 (.agg #[.string t, .int .i64 a, .int .i64 E]) 2).run Try.prog W = .ok (.int .i64 E) W := fun _ => by kernel_rfl
      by_cases hE : E = 0
      · subst hE
        have C3 := hid (IC.out _ q _ H3.out.own.vn rfl)
        clear IC
        generalize isCh (vqL q) = C at *
        go_wp2_with fail
        refine C3.out.mono ?_
        rintro e' w4 ⟨rfl, b4⟩
        have H4 := hid (H3.out.call b4)
        clear C3 b4 H3
        cases C
        · have hO : OK = false := HOK.out
          subst hO
          obtain ⟨d1, d2⟩ := HVE.out
          simp only [Bool.false_eq_true, if_false] at d1 d2
          have HD : Hid (DE = 3 ∧ DV = []) := ⟨d1, d2⟩
          clear d1 d2 HVE HOK hdl hdl2
          go_wp2
          go_ret2
          rw [HD.out.1, HD.out.2]
          exact giveV_none H4.out.bel
        · have hO : OK = true := HOK.out
          subst hO
          obtain ⟨d1, d2⟩ := HVE.out
          rw [if_pos rfl] at d1 d2
          have HD : Hid (DE = 0 ∧ DV = vqL q) := ⟨d1, d2⟩
          clear d1 d2 HVE HOK hdl hdl2
          go_wp2
          go_ret2
          rw [HD.out.1, HD.out.2]
          exact ⟨ad, k, cap, q, rfl, rfl, H4.out.own.vn, H4.out.bel⟩
      · have hE2 : (E == 0) = false := beq_eq_false_iff_ne.2 hE
        have hE3 : (E != 0) = true := bne_iff_ne.2 hE
        have hO : OK = false := by rw [HOK.out, hE2]; rfl
        subst hO
        obtain ⟨d1, d2⟩ := HVE.out
        simp only [Bool.false_eq_true, if_false] at d1 d2
        have HD : Hid (DE = 3 ∧ DV = []) := ⟨d1, d2⟩
        clear d1 d2 HVE HOK hdl hdl2 IC
        go_wp2
        go_ret2
        rw [HD.out.1, HD.out.2]
        exact giveV_none H3.out.bel
end Go.Proofs.Ytbiapepalkdkdaa
namespace Go.Proofs.Ytbiapepalkdkdaa
open Go.RowKit Go.Maps
set_option linter.unusedVariables false
set_option linter.unusedSimpArgs false

theorem fit_bl (n : Nat) : fitI 1 n = fitBl n := by
  unfold fitI fitBl
  by_cases h : n ≤ 1
  · rw [decide_eq_true h, decide_eq_true (by omega)]
  · rw [decide_eq_false h, decide_eq_false (by omega)]
theorem dcF_of (s : ByteArray) (a e : Int) (h : (dcN s 1 a e).e = 0 ∨ (dcF s a e).e = 0) : dcF s a e = dcN s 1 a e := by
  unfold dcF dcN at *
  rw [fit_bl] at *
  unfold nS at *
  split
  · split
    · split
      · rfl
      · rename_i h1 h2 h3
        rw [if_pos h1, if_pos h2, if_neg h3, if_pos h1, if_pos h2, if_neg h3] at h
        simp at h
    · rfl
  · rfl
theorem dcP_put (s : ByteArray) : ∀ (l : List Pc) (p r : List UInt8), s.data.toList = p ++ (l.flatMap pcB ++ r) → (∀ x ∈ l, pcOk x = true) → dcP s l.length (p.length : Int) 0 = ⟨(((p ++ l.flatMap pcB).length : Nat) : Int), 0, l⟩
  | [], p, r, hs, _ => by simp [dcP]
  | x :: t, p, r, hs, hb => by
    have hx := pcOk_id (hb x (by simp))
    obtain ⟨id, sz⟩ := x
    simp only at hx
    obtain ⟨n, rfl⟩ : ∃ n : Nat, sz = (n : Int) := ⟨sz.toNat, by omega⟩
    have hm : ((⟨id, (n : Int)⟩ : Pc) :: t).flatMap pcB = ptx id ++ (put n ++ t.flatMap pcB) := by simp [pcB]
    rw [hm] at hs
    have h0 := tS_put s p (put n ++ t.flatMap pcB ++ r) id 64 (by rw [hs]; simp) (by omega) (by omega)
    have h1 := dcN_put s (p ++ ptx id) (t.flatMap pcB ++ r) n 4096 (by rw [hs]; simp) (by omega) (by omega)
    have h2 := dcP_put s t (p ++ ptx id ++ put n) r (by rw [hs]; simp) (fun y hy => hb y (List.mem_cons_of_mem _ hy))
    simp only [List.length_cons, dcP]
    rw [h0]
    simp only
    rw [h1]
    simp only
    rw [h2, hm]
    simp only [List.append_assoc]
theorem rdP_put (s : ByteArray) (l : List Pc) (p r : List UInt8) (hs : s.data.toList = p ++ (pcsB l ++ r)) (hb : ∀ x ∈ l, pcOk x = true) (hl : l.length ≤ 512) : rdP s (p.length : Int) 0 = ⟨(((p ++ pcsB l).length : Nat) : Int), 0, l⟩ := by
  unfold pcsB at *
  have h1 := dcN_put s p (l.flatMap pcB ++ r) l.length 512 (by rw [hs]; simp) (by omega) (by omega)
  have h2 := dcP_put s l (p ++ put l.length) r (by rw [hs]; simp) hb
  unfold rdP
  rw [h1]
  simp only
  rw [h2]
  simp only [List.append_assoc]
theorem rdV_put (s : ByteArray) (v : Vn) (p r : List UInt8) (hs : s.data.toList = p ++ (vnB v ++ r)) (hv : vnOk v = true) : rdV s (p.length : Int) 0 = ⟨(((p ++ vnB v).length : Nat) : Int), 0, v⟩ := by
  have hps := vnOk_ps hv
  have hsm := vnOk_sum hv
  obtain ⟨id, ma, sz, sum, ps⟩ := v
  simp only at hps hsm
  simp only [vnOk, Bool.and_eq_true, decide_eq_true_eq] at hv
  obtain ⟨hid, hv⟩ := hv
  obtain ⟨n, rfl⟩ : ∃ n : Nat, id = (n : Int) := ⟨id.toNat, by omega⟩
  cases ma
  · simp only [Bool.false_eq_true, if_false, vnObj, Bool.and_eq_true, decide_eq_true_eq] at hv
    have e0 : vnB ⟨(n : Int), false, sz, sum, ps⟩ = put n ++ (put 0 ++ (pcsB ps ++ ptx sum)) := by simp [vnB]
    rw [e0] at hs ⊢
    have h1 := dcN_put s p (put 0 ++ (pcsB ps ++ ptx sum) ++ r) n 1099511627776 (by rw [hs]; simp) (by omega) (by omega)
    have h2 := dcN_put s (p ++ put n) (pcsB ps ++ ptx sum ++ r) 0 1 (by rw [hs]; simp) (by omega) (by omega)
    have h3 := rdP_put s ps (p ++ put n ++ put 0) (ptx sum ++ r) (by rw [hs]; simp) hps.2.1 hps.1
    have h4 := tS_put s (p ++ put n ++ put 0 ++ pcsB ps) r sum 64 (by rw [hs]; simp) (by omega) (by omega)
    have h5 : dcF s (((p ++ put n).length : Nat) : Int) 0 = _ := (dcF_of s _ 0 (.inl (by rw [h2]))).trans h2
    have h6 : pcV ps = sz := by unfold pcV; rw [if_pos hv.1.1.1]; exact hv.1.1.2.symm
    unfold rdV
    simp only
    rw [h1]
    simp only
    rw [h5]
    simp only
    rw [if_neg (by simp)]
    rw [h3]
    simp only
    rw [h4]
    simp only [h6, List.append_assoc]
  · simp only [if_true, vnBare, Bool.and_eq_true, decide_eq_true_eq] at hv
    obtain ⟨⟨z1, z2⟩, z3⟩ := hv
    have e2 : sum = ⟨#[]⟩ := by
      obtain ⟨d⟩ := sum
      have : d.size = 0 := z2
      rw [Array.size_eq_zero_iff.1 this]
    have e3 : ps = [] := List.length_eq_zero_iff.1 z3
    subst z1 e2 e3
    have e0 : vnB ⟨(n : Int), true, 0, ⟨#[]⟩, []⟩ = put n ++ put 1 := by simp [vnB]
    rw [e0] at hs ⊢
    have h1 := dcN_put s p (put 1 ++ r) n 1099511627776 (by rw [hs]; simp) (by omega) (by omega)
    have h2 := dcN_put s (p ++ put n) r 1 1 (by rw [hs]; simp) (by omega) (by omega)
    have h5 : dcF s (((p ++ put n).length : Nat) : Int) 0 = _ := (dcF_of s _ 0 (.inl (by rw [h2]))).trans h2
    unfold rdV
    simp only
    rw [h1]
    simp only
    rw [h5]
    simp only
    rw [if_pos (by simp)]
    simp only [List.append_assoc]
theorem dcV_put (s : ByteArray) : ∀ (l : List Vn) (p r : List UInt8), s.data.toList = p ++ (l.flatMap vnB ++ r) → (∀ x ∈ l, vnOk x = true) → dcV s l.length (p.length : Int) 0 = ⟨(((p ++ l.flatMap vnB).length : Nat) : Int), 0, l⟩
  | [], p, r, hs, _ => by simp [dcV]
  | x :: t, p, r, hs, hb => by
    have hm : (x :: t).flatMap vnB = vnB x ++ t.flatMap vnB := by simp
    rw [hm] at hs
    have h1 := rdV_put s x p (t.flatMap vnB ++ r) (by rw [hs]; simp) (hb x (by simp))
    have h2 := dcV_put s t (p ++ vnB x) r (by rw [hs]; simp) (fun y hy => hb y (List.mem_cons_of_mem _ hy))
    simp only [List.length_cons, dcV]
    rw [h1]
    simp only
    rw [h2, hm]
    simp only [List.append_assoc]
theorem cd_enc {l : List Vn} (h : isCh l = true) : cdE (chT l) = 0 ∧ cdV (chT l) = l := by
  have he : chT l = ⟨(chB l).toArray⟩ := by unfold chT; rw [if_pos h]
  have hd : (chT l).data.toList = chB l := by rw [he]
  have hl := isCh_len h
  have a1 := dcN_put (chT l) [] (l.flatMap vnB) l.length 32 (by rw [hd]; simp [chB]) (by omega) (by omega)
  have a2 := dcV_put (chT l) l (put l.length) [] (by rw [hd]; simp [chB]) (isCh_all h)
  have a1' : dcN (chT l) 32 0 0 = ⟨(((put l.length).length : Nat) : Int), 0, l.length⟩ := a1
  have hT : cdT (chT l) = ⟨(((chB l).length : Nat) : Int), 0, l⟩ := by
    unfold cdT
    rw [a1']
    simp only
    rw [a2]
    rfl
  have hz : (chT l).size = (chB l).length := size_of _ _ hd
  have hok : cdOk (chT l) = true := by
    unfold cdOk
    rw [hT]
    simp only
    rw [h]
    have : endE (chT l) (((chB l).length : Nat) : Int) 0 = 0 := by
      unfold endE
      rw [if_neg]
      intro hc
      rw [hz] at hc
      omega
    rw [this]
    rfl
  unfold cdE cdV
  rw [hok, hT]
  exact ⟨rfl, rfl⟩
theorem st_F {s : ByteArray} {a e : Int} (h : (dcF s a e).e = 0) : e = 0 := by
  by_cases he : e = 0
  · exact he
  · unfold dcF nS at h; rw [if_neg he] at h; exact absurd h he
theorem st_P {s : ByteArray} : ∀ (j : Nat) {a e : Int}, (dcP s j a e).e = 0 → e = 0
  | 0, a, e, h => h
  | j + 1, a, e, h => by simp only [dcP] at h; exact st_T (st_N (st_P j h))
theorem st_V {s : ByteArray} {a e : Int} (h : (rdV s a e).e = 0) : e = 0 := by
  unfold rdV at h
  simp only at h
  split at h
  · exact st_N (st_F h)
  · have h1 := st_T h
    unfold rdP at h1
    exact st_N (st_F (st_N (st_P _ h1)))
theorem st_W {s : ByteArray} : ∀ (j : Nat) {a e : Int}, (dcV s j a e).e = 0 → e = 0
  | 0, a, e, h => h
  | j + 1, a, e, h => by simp only [dcV] at h; exact st_V (st_W j h)
theorem tok_F (s : ByteArray) (e : Int) (a : Nat) (h : (dcF s (a : Int) e).e = 0) : Tok s a (dcF s (a : Int) e).a (put (dcF s (a : Int) e).n) ∧ (dcF s (a : Int) e).n ≤ 1 := by
  have h1 := dcF_of s a e (.inr h)
  rw [h1] at h ⊢
  have := dcN_le s 1 a e (by omega)
  exact ⟨tok_N s 1 e a h, by omega⟩
theorem tok_P (s : ByteArray) : ∀ (j a : Nat) (e : Int), (dcP s j (a : Int) e).e = 0 → a ≤ s.size → Tok s a (dcP s j (a : Int) e).a ((dcP s j (a : Int) e).l.flatMap pcB)
  | 0, a, e, h, ha => Tok.refl s a ha
  | j + 1, a, e, h, ha => by
    simp only [dcP] at h ⊢
    have hN := st_P j h
    have hT := st_N hN
    have t1 := tok_T s 64 e a hT
    generalize tS s (a : Int) e 64 = X at *
    obtain ⟨xa, xe, xx⟩ := X
    simp only at *
    have t1' := t1
    obtain ⟨b, rfl, b1, b2, _⟩ := t1'
    have t2 := tok_N s 4096 xe b hN
    generalize dcN s 4096 (b : Int) xe = Y at *
    obtain ⟨ya, ye, yn⟩ := Y
    simp only at *
    have t2' := t2
    obtain ⟨c, rfl, c1, c2, _⟩ := t2'
    have t3 := tok_P s j c ye h c2
    have := (t1.trans t2).trans t3
    have e0 : ((⟨xx, (yn : Int)⟩ : Pc) :: (dcP s j (c : Int) ye).l).flatMap pcB = ptx xx ++ put yn ++ (dcP s j (c : Int) ye).l.flatMap pcB := by simp [pcB]
    rw [e0]
    exact this
theorem tok_rP (s : ByteArray) (a : Nat) (e : Int) (h : (rdP s (a : Int) e).e = 0) : Tok s a (rdP s (a : Int) e).a (pcsB (rdP s (a : Int) e).l) := by
  unfold rdP at h ⊢
  have hN := st_P _ h
  have t1 := tok_N s 512 e a hN
  have hl := fun a e => dcP_len s (dcN s 512 (a : Int) e).n
  generalize dcN s 512 (a : Int) e = Y at *
  obtain ⟨ya, ye, yn⟩ := Y
  simp only at *
  have t1' := t1
  obtain ⟨c, rfl, c1, c2, _⟩ := t1'
  have t2 := tok_P s yn c ye h c2
  have := t1.trans t2
  unfold pcsB
  rw [dcP_len]
  exact this
theorem tok_V (s : ByteArray) (a : Nat) (e : Int) (h : (rdV s (a : Int) e).e = 0) : Tok s a (rdV s (a : Int) e).a (vnB (rdV s (a : Int) e).v) := by
  have hF : (dcF s (dcN s 1099511627776 (a : Int) e).a (dcN s 1099511627776 (a : Int) e).e).e = 0 := by
    unfold rdV at h
    simp only at h
    split at h
    · exact h
    · have h1 := st_T h
      unfold rdP at h1
      exact st_N (st_P _ h1)
  have hN := st_F hF
  have t1 := tok_N s 1099511627776 e a hN
  unfold rdV at h ⊢
  simp only at h ⊢
  generalize dcN s 1099511627776 (a : Int) e = Y at *
  obtain ⟨ya, ye, yn⟩ := Y
  simp only at *
  have t1' := t1
  obtain ⟨c, rfl, c1, c2, _⟩ := t1'
  obtain ⟨t2, hn1⟩ := tok_F s ye c hF
  generalize dcF s (c : Int) ye = F at *
  obtain ⟨fa, fe, fn⟩ := F
  simp only at *
  have t2' := t2
  obtain ⟨d, rfl, d1, d2, _⟩ := t2'
  by_cases hf : fn = 1
  · subst hf
    rw [if_pos (by simp)] at h ⊢
    have e0 : vnB ⟨(yn : Int), true, 0, ⟨#[]⟩, []⟩ = put yn ++ put 1 := by simp [vnB]
    simp only
    rw [e0]
    exact t1.trans t2
  · have hf0 : fn = 0 := by omega
    subst hf0
    rw [if_neg (by simp)] at h ⊢
    simp only at h ⊢
    have hP := st_T h
    have t3 := tok_rP s d fe hP
    generalize rdP s (d : Int) fe = P at *
    obtain ⟨pa, pe, pl⟩ := P
    simp only at *
    have t3' := t3
    obtain ⟨g, rfl, g1, g2, _⟩ := t3'
    have t4 := tok_T s 64 pe g h
    generalize tS s (g : Int) pe 64 = X at *
    obtain ⟨xa, xe, xx⟩ := X
    simp only at *
    have e0 : vnB ⟨(yn : Int), false, pcV pl, xx, pl⟩ = put yn ++ put 0 ++ pcsB pl ++ ptx xx := by simp [vnB]
    rw [e0]
    exact ((t1.trans t2).trans t3).trans t4
theorem tok_W (s : ByteArray) : ∀ (j a : Nat) (e : Int), (dcV s j (a : Int) e).e = 0 → a ≤ s.size → Tok s a (dcV s j (a : Int) e).a ((dcV s j (a : Int) e).l.flatMap vnB)
  | 0, a, e, h, ha => Tok.refl s a ha
  | j + 1, a, e, h, ha => by
    simp only [dcV] at h ⊢
    have hV := st_W j h
    have t1 := tok_V s a e hV
    generalize rdV s (a : Int) e = X at *
    obtain ⟨xa, xe, xv⟩ := X
    simp only at *
    have t1' := t1
    obtain ⟨b, rfl, b1, b2, _⟩ := t1'
    have t2 := tok_W s j b xe h b2
    have := t1.trans t2
    rw [List.flatMap_cons]
    exact this
theorem cd_one {t : ByteArray} (h : cdOk t = true) : isCh (cdV t) = true ∧ chT (cdV t) = t := by
  have hv : cdV t = (cdT t).l := by unfold cdV; rw [if_pos h]
  unfold cdOk at h
  rw [Bool.and_eq_true] at h
  obtain ⟨h1, h2⟩ := h
  have h1 := beq_iff_eq.1 h1
  rw [hv]
  refine ⟨h2, ?_⟩
  unfold endE at h1
  split at h1
  · cases h1
  · rename_i hc
    have hh : (cdT t).e = 0 := h1
    have T0 : Tok t 0 (cdT t).a (chB (cdT t).l) := by
      unfold cdT at hh ⊢
      have hN := st_W _ hh
      have t1 := tok_N t 32 0 0 hN
      have hcast : ((0 : Nat) : Int) = 0 := rfl
      rw [hcast] at t1
      generalize dcN t 32 0 0 = Y at *
      obtain ⟨ya, ye, yn⟩ := Y
      simp only at *
      have t1' := t1
      obtain ⟨c, rfl, c1, c2, _⟩ := t1'
      have t2 := tok_W t yn c ye hh c2
      have := t1.trans t2
      unfold chB
      rw [dcV_len]
      exact this
    obtain ⟨u, g1, g2, g3, g4⟩ := T0
    have hsz : t.data.toList.length = t.size := by rw [Array.length_toList]; rfl
    have hu : u = t.size := by
      have : ¬ (cdT t).a < (t.size : Int) := fun h => hc ⟨hh, h⟩
      omega
    have hd : t.data.toList = chB (cdT t).l := by
      rw [← g4, List.drop_zero, Nat.sub_zero, List.take_of_length_le (by omega)]
    unfold chT
    rw [if_pos h2, ← hd]
end Go.Proofs.Ytbiapepalkdkdaa
