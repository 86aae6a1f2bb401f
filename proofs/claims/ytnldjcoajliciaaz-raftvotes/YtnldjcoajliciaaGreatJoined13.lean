/- Joined: The configuration that a text says: the program's walk. The configuration that a text says: the reference's walk. -/
import Derived.Test.YtnldjcoajliciaaGreatJoined09
import Derived.Test.YtnldjcoajliciaaGreatJoined12
import Derived.Test.YtnldjcoajliciaaGreatJoined08
namespace Go.Proofs.YtnldjcoajliciaaGreat
open Go.RowKit Go.Maps
set_option linter.unusedVariables false
set_option linter.unusedSimpArgs false

/-- all that Decode reads -/
def dcT (s : ByteArray) : DcR := dcI s 6 (dcN s 7 0 0).n (dcN s 7 0 0).a (dcN s 7 0 0).e
def decOk (s : ByteArray) : Bool := (endE s (dcT s).a (dcT s).e == 0) && areM (dcT s).l
def decE (s : ByteArray) : Int := if decOk s = true then 0 else 3
def decV (s : ByteArray) : List Int := if decOk s = true then (dcT s).l else []
/-- a reader at block g0, a row behind it, and what lies below -/
structure DcS (w : World) (s : ByteArray) (a e : Int) (v : Value) (acc : List Int) (W : World) : Prop where
  rd : RdAt W w.heap.size s a e
  own : OwnI W (w.heap.size + 1) v acc
  bel : Below w.heap.size w W
theorem DcS.read {w W W' : World} {s : ByteArray} {a e a' e' : Int} {v : Value} {acc : List Int} (h : DcS w s a e v acc W) (hr : RdAt W' w.heap.size s a' e') (ho : Only w.heap.size W W') : DcS w s a' e' v acc W' :=
  ⟨hr, ho.keep.ownsRow h.own (fun g hg e => by have := ownsRow_ge h.own hg; omega), h.bel.trans (ho.below (Nat.le_refl _) h.bel.size)⟩
theorem DcS.al {w W : World} {s : ByteArray} {a e : Int} {v : Value} {acc : List Int} (h : DcS w s a e v acc W) (o : Obj) : DcS w s a e v acc (W.alloc o) :=
  ⟨h.rd.keeps ((Below.refl _ _).alloc (Nat.le_refl _) o), own_new h.own o, below_al h.bel o⟩
theorem DcS.app {w W W' : World} {s : ByteArray} {a e : Int} {v v' : Value} {acc acc' : List Int} (h : DcS w s a e v acc W) (ho : OwnI W' (w.heap.size + 1) v' acc') (hb : Below (w.heap.size + 1) W W') : DcS w s a e v' acc' W' :=
  ⟨h.rd.same (hb.block _ (by omega)), ho, h.bel.trans (hb.mono (by omega))⟩
theorem DcS.lt {w W : World} {s : ByteArray} {a e : Int} {v : Value} {acc : List Int} (h : DcS w s a e v acc W) : w.heap.size + 1 ≤ W.heap.size := rd_lt h.rd
set_option maxRecDepth 100000 in
set_option maxHeartbeats 2000000 in
theorem cdecode_any (s : ByteArray) (w : World) (hs : s.size ≤ 140737488355328) : Calls Tryz.prog 91 #[.string s] w (GivesI w (decV s) (decE s)) := by
  have hsm : s.size ≤ maxLen := by unfold maxLen; omega
  have NW := hid (new_reader s w)
  have RI : Hid (∀ (m a e : Int) (W : World), RdAt W w.heap.size s a e → m ≤ 9223372036854775807 → Calls Tryz.prog 96 #[.pointer (some ⟨w.heap.size, 0, none⟩), .int .i64 m] W fun r w' => r = .returned (.int .i64 (dcN s m a e).n) ∧ RdAt w' w.heap.size s (dcN s m a e).a (dcN s m a e).e ∧ Only w.heap.size W w') := fun m a e W h hm => rd_int w.heap.size s a e m W h hsm hm (nS_int s a e m hm)
  have RE := hid (fun a e W h => rd_end w.heap.size s a e W h)
  have CK : Hid (∀ (v : Value) (c : List Int) W, IntsI W v c → c.length ≤ 9223372036854775807 → Calls Tryz.prog 84 #[v] W fun e w' => e = .returned (.int .i64 (chkC c)) ∧ w' = W) := fun v c W hv hc => ccheck_any v c W hv hc
  have HT : Hid (dcT s = dcI s 6 ((dcN s 7 0 0).n - 0) (dcN s 7 0 0).a (dcN s 7 0 0).e) := rfl
  have HN := hid (dcN_le s 7 0 0 (by omega))
  have HO : Hid (decE s = (if ((endE s (dcT s).a (dcT s).e == 0) && areM (dcT s).l) = true then 0 else 3) ∧ decV s = (if ((endE s (dcT s).a (dcT s).e == 0) && areM (dcT s).l) = true then (dcT s).l else [])) := ⟨rfl, rfl⟩
  generalize dcT s = T at *
  generalize decE s = DE at *
  generalize decV s = DV at *
  have R1 := hid (fun W h => RI.out 7 0 0 W h (by omega))
  generalize dcN s 7 0 0 = S0 at *
  obtain ⟨a0, e0, n0⟩ := S0
  simp only at *
  clear hs hsm
  go_enter Tryz.func91, Tryz.ntmps91
  go_wp2_with fail
  refine NW.out.mono ?_
  rintro e w1 ⟨rfl, h1, b1⟩
  have H1 : Hid (DcS w s 0 0 (.slice none 0 0) [] w1) := ⟨h1, ownI_nil _ _, b1⟩
  clear h1 b1 NW
  go_wp2_with fail
  refine (R1.out _ H1.out.rd).mono ?_
  rintro e w2 ⟨rfl, h2, o2⟩
  have H2 := hid (H1.out.read h2 o2)
  clear h2 o2 R1 H1
  go_wp2
  go_loopw [5, 10] (fun t i wr => ∃ (k : Nat) (acc : List Int) (ad : Option Addr) (cap : Nat) (a e : Int), k ≤ n0 ∧ t = .slice ad acc.length cap ∧ i = .int .i64 (k : Int) ∧ Hid (acc.length = k) ∧ Hid (DcS w s a e (.slice ad acc.length cap) acc wr) ∧ Hid (T = ⟨(dcI s 6 (n0 - k) a e).a, (dcI s 6 (n0 - k) a e).e, acc ++ (dcI s 6 (n0 - k) a e).l⟩)) (fun _ i _ => n0 - (intOf i).toNat)
  case atStart => exact ⟨0, [], none, 0, a0, e0, Nat.zero_le _, rfl, rfl, rfl, H2, HT⟩
  case round =>
    clear H2 HT
    obtain ⟨k, acc, ad, cap, a, e, hk, rfl, rfl, HA, HS, HT⟩ := hrel
    by_cases hlt : k < n0
    · have hk1 : (k : Int) < (n0 : Int) := by omega
      have hk7 : k < 7 := by have := HN.out; omega
      have R2 := hid (RI.out 6 a e wr HS.out.rd (by omega))
      have HT2 : Hid (T = ⟨(dcI s 6 (n0 - (k + 1)) (dcN s 6 a e).a (dcN s 6 a e).e).a, (dcI s 6 (n0 - (k + 1)) (dcN s 6 a e).a (dcN s 6 a e).e).e, (acc ++ [((dcN s 6 a e).n : Int)]) ++ (dcI s 6 (n0 - (k + 1)) (dcN s 6 a e).a (dcN s 6 a e).e).l⟩) := by
        show _ = _
        rw [HT.out, show n0 - k = (n0 - (k + 1)) + 1 by omega]
        simp only [dcI, List.append_assoc, List.singleton_append]
      generalize dcN s 6 a e = S1 at *
      obtain ⟨a1, e1, n1⟩ := S1
      simp only at *
      have HA2 : Hid ((acc ++ [(n1 : Int)]).length = k + 1) := by show _ = _; simp; exact HA.out
      have HA3 : Hid (acc.length + 1 ≤ 70368744177) := by have := HA.out; show _ ≤ _; omega
      clear HT HA RE CK HO HN RI
      go_wp2_with fail
      refine R2.out.mono ?_
      rintro e' w3 ⟨rfl, h3, o3⟩
      have H3 := hid (HS.out.read h3 o3)
      have HN3 := hid (H3.out.al (.cells #[.int .i64 (n1 : Int)] 3))
      have HNX : Hid (RowIs (w3.alloc (.cells #[.int .i64 (n1 : Int)] 3)) w3.heap.size [.int .i64 (n1 : Int)] 3) := srow w3 [.int .i64 (n1 : Int)] 3
      clear h3 o3 R2 HS
      go_wp2_with (at_builtin; refine wpl_iapp rfl _ _ rfl (w.heap.size + 1) w3.heap.size acc.length (.slice ad acc.length cap) acc (n1 : Int) rfl rfl rfl HN3.out.own HN3.out.lt HNX.out HA3.out ?_; intro ad' cap' w' ho' hk')
      have H4 := hid (HN3.out.app ho' hk')
      clear ho' hk' HN3 HNX H3
      go_wp2
      exact ⟨⟨k + 1, acc ++ [(n1 : Int)], ad', cap', a1, e1, by omega, by simp, by go_num, HA2, hid (by simpa using H4.out), HT2⟩, by simp [intOf]; omega⟩
    · have hk9 : k = n0 := by omega
      subst hk9
      have hdl : decide ((k : Int) < (k : Int)) = false := decide_eq_false (by omega)
      have HT2 : Hid (T = ⟨a, e, acc⟩) := by show _ = _; rw [HT.out, Nat.sub_self]; simp [dcI]
      have hT := HT2.out
      subst hT
      simp only at HO
      have R3 := hid (RE.out a e wr HS.out.rd)
      have HA7 : Hid (acc.length ≤ 9223372036854775807) := by have := HA.out; have := HN.out; show _ ≤ _; omega
      obtain ⟨o1, o2⟩ := HO.out
      clear HT HT2 RI HA HN RE HO
      generalize endE s a e = E at *
      by_cases hE : E = 0
      · subst hE
        have hbz : ((0 : Int) == 0) = true := rfl
        rw [hbz, Bool.true_and] at o1 o2
        cases hM : areM acc
        · rw [hM] at o1 o2
          have HD : Hid (DE = 3 ∧ DV = []) := ⟨o1, o2⟩
          clear o1 o2 hbz
          have hck : chkC acc = 70 := by unfold chkC; rw [hM]; rfl
          clear hM
          go_wp2_with fail
          refine R3.out.mono ?_
          rintro e' w4 ⟨rfl, h4, o4⟩
          have H4 := hid (HS.out.read h4 o4)
          have C4 := hid (CK.out _ acc w4 H4.out.own.ints HA7.out)
          rw [hck] at C4
          clear h4 o4 R3 HS CK hck
          go_wp2_with fail
          refine C4.out.mono ?_
          rintro e' w5 ⟨rfl, rfl⟩
          go_wp2
          go_ret2
          rw [HD.out.1, HD.out.2]
          exact gives_none _ H4.out.bel
        · rw [hM] at o1 o2
          have HD : Hid (DE = 0 ∧ DV = acc) := ⟨o1, o2⟩
          clear o1 o2 hbz
          have hck : chkC acc = 0 := by unfold chkC; rw [hM]; rfl
          clear hM
          go_wp2_with fail
          refine R3.out.mono ?_
          rintro e' w4 ⟨rfl, h4, o4⟩
          have H4 := hid (HS.out.read h4 o4)
          have C4 := hid (CK.out _ acc w4 H4.out.own.ints HA7.out)
          rw [hck] at C4
          clear h4 o4 R3 HS CK hck
          go_wp2_with fail
          refine C4.out.mono ?_
          rintro e' w5 ⟨rfl, rfl⟩
          go_wp2
          go_ret2
          rw [HD.out.1, HD.out.2]
          exact gives_own _ (ownsRow_base H4.out.own (by omega)) H4.out.bel
      · have hb : (E == 0) = false := beq_eq_false_iff_ne.2 hE
        have hn : (E != 0) = true := by rw [bne_iff_ne]; exact hE
        rw [hb, Bool.false_and] at o1 o2
        have HD : Hid (DE = 3 ∧ DV = []) := ⟨o1, o2⟩
        clear o1 o2 hE CK
        go_wp2_with fail
        refine R3.out.mono ?_
        rintro e' w4 ⟨rfl, h4, o4⟩
        have H4 := hid (HS.out.read h4 o4)
        clear h4 o4 R3 HS
        go_wp2
        go_ret2
        rw [HD.out.1, HD.out.2]
        exact gives_none _ H4.out.bel
end Go.Proofs.YtnldjcoajliciaaGreat
namespace Go.Proofs.YtnldjcoajliciaaGreat
open Go.RowKit Go.Maps
set_option linter.unusedVariables false
set_option linter.unusedSimpArgs false

/-- a reader's value in a box at g, a row behind it, and what lies below -/
structure BxS (w : World) (g : Nat) (s : ByteArray) (a e : Int) (v : Value) (acc : List Int) (W : World) : Prop where
  box : Box W g (.string s) (.int .i64 a) (.int .i64 e)
  own : OwnI W (g + 1) v acc
  bel : Below w.heap.size w W
  low : w.heap.size ≤ g
theorem BxS.call {w W W' : World} {g : Nat} {s : ByteArray} {a e : Int} {v : Value} {acc : List Int} (h : BxS w g s a e v acc W) (hb : Below W.heap.size W W') : BxS w g s a e v acc W' :=
  ⟨h.box.keeps hb, h.own.next hb, below_on h.bel hb, h.low⟩
theorem BxS.al {w W : World} {g : Nat} {s : ByteArray} {a e : Int} {v : Value} {acc : List Int} (h : BxS w g s a e v acc W) (o : Obj) : BxS w g s a e v acc (W.alloc o) := h.call ((Below.refl _ _).alloc (Nat.le_refl _) o)
theorem BxS.lt {w W : World} {g : Nat} {s : ByteArray} {a e : Int} {v : Value} {acc : List Int} (h : BxS w g s a e v acc W) : g + 1 ≤ W.heap.size := World.block_lt_of_cell? W _ h.box.1.1
theorem BxS.put {w W : World} {g : Nat} {s : ByteArray} {a e a' e' : Int} {v : Value} {acc : List Int} (h : BxS w g s a e v acc W) : BxS w g s a' e' v acc (((W.setCell ⟨g, 0, none⟩ (.string s)).setCell ⟨g, 1, none⟩ (.int .i64 a')).setCell ⟨g, 2, none⟩ (.int .i64 e')) := by
  obtain ⟨⟨h0, h1, h2⟩, f0, f1, f2⟩ := h.box
  have k : Keep (· = g) W (((W.setCell ⟨g, 0, none⟩ (.string s)).setCell ⟨g, 1, none⟩ (.int .i64 a')).setCell ⟨g, 2, none⟩ (.int .i64 e')) := ((keep_setCell _ _ _ _).trans (keep_setCell _ _ _ _)).trans (keep_setCell _ _ _ _)
  refine ⟨⟨⟨?_, ?_, ?_⟩, ?_, ?_, ?_⟩, k.ownsRow h.own (fun j hj e => by have := ownsRow_ge h.own hj; omega), h.bel.trans (keep_below k (fun j hj => by have := h.low; omega) h.bel.size), h.low⟩
  · rw [World.cell?_setCell_other _ _ _ _ (by simp), World.cell?_setCell_other _ _ _ _ (by simp)]
    exact World.cell?_setCell_same _ _ _ h0
  · rw [World.cell?_setCell_other _ _ _ _ (by simp)]
    have h1' : (W.setCell ⟨g, 0, none⟩ (.string s)).cell? ⟨g, 1, none⟩ = some (.int .i64 a) := by rw [World.cell?_setCell_other _ _ _ _ (by simp)]; exact h1
    exact World.cell?_setCell_same _ _ _ h1'
  · have h2' : ((W.setCell ⟨g, 0, none⟩ (.string s)).setCell ⟨g, 1, none⟩ (.int .i64 a')).cell? ⟨g, 2, none⟩ = some (.int .i64 e) := by rw [World.cell?_setCell_other _ _ _ _ (by simp), World.cell?_setCell_other _ _ _ _ (by simp)]; exact h2
    exact World.cell?_setCell_same _ _ _ h2'
  · rw [World.frozen?_setCell, World.frozen?_setCell, World.frozen?_setCell]; exact f0
  · rw [World.frozen?_setCell, World.frozen?_setCell, World.frozen?_setCell]; exact f1
  · rw [World.frozen?_setCell, World.frozen?_setCell, World.frozen?_setCell]; exact f2
theorem Box.same {w w' : World} {b : Nat} {x y z : Value} (h : Box w b x y z) (hb : w'.heap[b]? = w.heap[b]?) : Box w' b x y z := by
  have hc : ∀ o, w'.cell? ⟨b, o, none⟩ = w.cell? ⟨b, o, none⟩ := fun o => by simp [World.cell?, hb]
  have hf : ∀ o, w'.frozen? ⟨b, o, none⟩ = w.frozen? ⟨b, o, none⟩ := fun o => by simp [World.frozen?, hb]
  obtain ⟨⟨h0, h1, h2⟩, h3, h4, h5⟩ := h
  exact ⟨⟨(hc 0).trans h0, (hc 1).trans h1, (hc 2).trans h2⟩, (hf 0).trans h3, (hf 1).trans h4, (hf 2).trans h5⟩
theorem BxS.app {w W W' : World} {g : Nat} {s : ByteArray} {a e : Int} {v v' : Value} {acc acc' : List Int} (h : BxS w g s a e v acc W) (ho : OwnI W' (g + 1) v' acc') (hb : Below (g + 1) W W') : BxS w g s a e v' acc' W' :=
  ⟨h.box.same (hb.block _ (by omega)), ho, h.bel.trans (hb.mono (by have := h.low; omega)), h.low⟩
end Go.Proofs.YtnldjcoajliciaaGreat
