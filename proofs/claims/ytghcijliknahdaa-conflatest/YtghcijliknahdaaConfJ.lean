/- The configuration that a text says: the reference's walk. -/
import Derived.Test.YtghcijliknahdaaConfI
namespace Go.Proofs.Ytghcijliknahdaa
open Go.RowKit Go.Maps
set_option linter.unusedVariables false
set_option linter.unusedSimpArgs false

/-- a reader's value in a box at g, a row behind it, and what lies below -/
structure BxS (w : World) (g : Nat) (s : ByteArray) (a e : Int) (v : Value) (acc : List Int) (W : World) : Prop where
  box : Box W g (.string s) (.int .i64 a) (.int .i64 e)
  own : OwnI W (g + 1) v acc
  bel : Below w.heap.size w W
  low : w.heap.size ≤ g
theorem BxS.call {w W W' : World} {g : Nat} {s : ByteArray} {a e : Int} {v : Value} {acc : List Int} (h : BxS w g s a e v acc W) (hb : Below W.heap.size W W') : BxS w g s a e v acc W' :=
  ⟨h.box.keeps hb, h.own.next hb, below_on h.bel hb, h.low⟩
theorem BxS.al {w W : World} {g : Nat} {s : ByteArray} {a e : Int} {v : Value} {acc : List Int} (h : BxS w g s a e v acc W) (o : Obj) : BxS w g s a e v acc (W.alloc o) := h.call ((Below.refl _ _).alloc (Nat.le_refl _) o)
theorem BxS.lt {w W : World} {g : Nat} {s : ByteArray} {a e : Int} {v : Value} {acc : List Int} (h : BxS w g s a e v acc W) : g + 1 ≤ W.heap.size := World.block_lt_of_cell? W _ h.box.1.1
theorem BxS.put {w W : World} {g : Nat} {s : ByteArray} {a e a' e' : Int} {v : Value} {acc : List Int} (h : BxS w g s a e v acc W) : BxS w g s a' e' v acc (((W.setCell ⟨g, 0, none⟩ (.string s)).setCell ⟨g, 1, none⟩ (.int .i64 a')).setCell ⟨g, 2, none⟩ (.int .i64 e')) := by
  obtain ⟨⟨h0, h1, h2⟩, f0, f1, f2⟩ := h.box
  have k : Keep (· = g) W (((W.setCell ⟨g, 0, none⟩ (.string s)).setCell ⟨g, 1, none⟩ (.int .i64 a')).setCell ⟨g, 2, none⟩ (.int .i64 e')) := ((keep_setCell _ _ _ _).trans (keep_setCell _ _ _ _)).trans (keep_setCell _ _ _ _)
  refine ⟨⟨⟨?_, ?_, ?_⟩, ?_, ?_, ?_⟩, k.ownsRow h.own (fun j hj e => by have := ownsRow_ge h.own hj; omega), h.bel.trans (keep_below k (fun j hj => by have := h.low; omega) h.bel.size), h.low⟩
  · rw [World.cell?_setCell_other _ _ _ _ (by simp), World.cell?_setCell_other _ _ _ _ (by simp)]
    exact World.cell?_setCell_same _ _ _ h0
  · rw [World.cell?_setCell_other _ _ _ _ (by simp)]
    have h1' : (W.setCell ⟨g, 0, none⟩ (.string s)).cell? ⟨g, 1, none⟩ = some (.int .i64 a) := by rw [World.cell?_setCell_other _ _ _ _ (by simp)]; exact h1
    exact World.cell?_setCell_same _ _ _ h1'
  · have h2' : ((W.setCell ⟨g, 0, none⟩ (.string s)).setCell ⟨g, 1, none⟩ (.int .i64 a')).cell? ⟨g, 2, none⟩ = some (.int .i64 e) := by rw [World.cell?_setCell_other _ _ _ _ (by simp), World.cell?_setCell_other _ _ _ _ (by simp)]; exact h2
    exact World.cell?_setCell_same _ _ _ h2'
  · rw [World.frozen?_setCell, World.frozen?_setCell, World.frozen?_setCell]; exact f0
  · rw [World.frozen?_setCell, World.frozen?_setCell, World.frozen?_setCell]; exact f1
  · rw [World.frozen?_setCell, World.frozen?_setCell, World.frozen?_setCell]; exact f2
theorem Box.same {w w' : World} {b : Nat} {x y z : Value} (h : Box w b x y z) (hb : w'.heap[b]? = w.heap[b]?) : Box w' b x y z := by
  have hc : ∀ o, w'.cell? ⟨b, o, none⟩ = w.cell? ⟨b, o, none⟩ := fun o => by simp [World.cell?, hb]
  have hf : ∀ o, w'.frozen? ⟨b, o, none⟩ = w.frozen? ⟨b, o, none⟩ := fun o => by simp [World.frozen?, hb]
  obtain ⟨⟨h0, h1, h2⟩, h3, h4, h5⟩ := h
  exact ⟨⟨(hc 0).trans h0, (hc 1).trans h1, (hc 2).trans h2⟩, (hf 0).trans h3, (hf 1).trans h4, (hf 2).trans h5⟩
theorem BxS.app {w W W' : World} {g : Nat} {s : ByteArray} {a e : Int} {v v' : Value} {acc acc' : List Int} (h : BxS w g s a e v acc W) (ho : OwnI W' (g + 1) v' acc') (hb : Below (g + 1) W W') : BxS w g s a e v' acc' W' :=
  ⟨h.box.same (hb.block _ (by omega)), ho, h.bel.trans (hb.mono (by have := h.low; omega)), h.low⟩
set_option maxRecDepth 100000 in
set_option maxHeartbeats 2000000 in
theorem rdecode_any (s : ByteArray) (w : World) (hs : s.size ≤ 140737488355328) : Calls Try.prog 28 #[.string s] w (GivesI w (decV s) (decE s)) := by
  have hsm : s.size ≤ maxLen := by unfold maxLen; omega
  have RI : Hid (∀ (m a e : Int) (W : World), m ≤ 9223372036854775807 → Calls Try.prog 41 #[.agg #[.string s, .int .i64 a, .int .i64 e], .int .i64 m] W fun r w' => r = .returned (.tuple #[.agg #[.string s, .int .i64 (dcN s m a e).a, .int .i64 (dcN s m a e).e], .int .i64 (dcN s m a e).n]) ∧ Below W.heap.size W w') := fun m a e W hm => ref_reader_int s a e m W hsm hm (nS_int s a e m hm)
  have RE := hid (fun a e W => ref_reader_end s a e W)
  have CK : Hid (∀ (v : Value) (c : List Int) W, IntsI W v c → c.length ≤ 9223372036854775807 → Calls Try.prog 11 #[v] W fun e w' => e = .returned (.bool (areM c)) ∧ Below W.heap.size W w') := fun v c W hv hc => may_any v c W hv hc
  have HT : Hid (dcT s = dcI s 6 ((dcN s 7 0 0).n - 0) (dcN s 7 0 0).a (dcN s 7 0 0).e) := rfl
  have HN := hid (dcN_le s 7 0 0 (by omega))
  have HO : Hid (decE s = (if ((endE s (dcT s).a (dcT s).e == 0) && areM (dcT s).l) = true then 0 else 3) ∧ decV s = (if ((endE s (dcT s).a (dcT s).e == 0) && areM (dcT s).l) = true then (dcT s).l else [])) := ⟨rfl, rfl⟩
  generalize dcT s = T at *
  generalize decE s = DE at *
  generalize decV s = DV at *
  have R1 := hid (fun W => RI.out 7 0 0 W (by omega))
  generalize dcN s 7 0 0 = S0 at *
  obtain ⟨a0, e0, n0⟩ := S0
  simp only at *
  clear hs hsm
  go_enter Try.func28, Try.ntmps28
  go_wp2_with fail
  refine (R1.out _).mono ?_
  rintro e w2 ⟨rfl, b2⟩
  have H2 : Hid (BxS w w2.heap.size s a0 e0 (.slice none 0 0) [] (w2.alloc (.cells #[.string s, .int .i64 a0, .int .i64 e0] 59))) := ⟨Box.made w2 _ _ _ _, ownI_nil _ _, below_al b2 _, b2.size⟩
  clear b2 R1
  go_wp2
  go_loopw [6, 7] (fun t i wr => ∃ (k : Nat) (acc : List Int) (ad : Option Addr) (cap : Nat) (a e : Int), k ≤ n0 ∧ t = .slice ad acc.length cap ∧ i = .int .i64 (k : Int) ∧ Hid (acc.length = k) ∧ Hid (BxS w w2.heap.size s a e (.slice ad acc.length cap) acc wr) ∧ Hid (T = ⟨(dcI s 6 (n0 - k) a e).a, (dcI s 6 (n0 - k) a e).e, acc ++ (dcI s 6 (n0 - k) a e).l⟩)) (fun _ i _ => n0 - (intOf i).toNat)
  case atStart => exact ⟨0, [], none, 0, a0, e0, Nat.zero_le _, rfl, rfl, rfl, H2, HT⟩
  case round =>
    clear H2 HT
    obtain ⟨k, acc, ad, cap, a, e, hk, rfl, rfl, HA, HS, HT⟩ := hrel
    obtain ⟨⟨c0, c1, c2⟩, f0, f1, f2⟩ := HS.out.box
    by_cases hlt : k < n0
    · have hk1 : (k : Int) < (n0 : Int) := by omega
      have hk7 : k < 7 := by have := HN.out; omega
      have R2 := hid (RI.out 6 a e wr (by omega))
      have HT2 : Hid (T = ⟨(dcI s 6 (n0 - (k + 1)) (dcN s 6 a e).a (dcN s 6 a e).e).a, (dcI s 6 (n0 - (k + 1)) (dcN s 6 a e).a (dcN s 6 a e).e).e, (acc ++ [((dcN s 6 a e).n : Int)]) ++ (dcI s 6 (n0 - (k + 1)) (dcN s 6 a e).a (dcN s 6 a e).e).l⟩) := by
        show _ = _
        rw [HT.out, show n0 - k = (n0 - (k + 1)) + 1 by omega]
        simp only [dcI, List.append_assoc, List.singleton_append]
      generalize dcN s 6 a e = S1 at *
      obtain ⟨a1, e1, n1⟩ := S1
      simp only at *
      have HA2 : Hid ((acc ++ [(n1 : Int)]).length = k + 1) := by show _ = _; simp; exact HA.out
      have HA3 : Hid (acc.length + 1 ≤ 70368744177) := by have := HA.out; show _ ≤ _; omega
      clear HT HA RE CK HO HN RI
      go_wp2_with fail
      refine R2.out.mono ?_
      rintro e' w3 ⟨rfl, b3⟩
      have H3 := hid ((HS.out.call b3).al (.cells #[.string s, .int .i64 a1, .int .i64 e1] 59))
      clear b3 R2 HS c0 c1 c2 f0 f1 f2
      obtain ⟨⟨c0, c1, c2⟩, f0, f1, f2⟩ := H3.out.box
      have H4 := hid (H3.out.put (a' := a1) (e' := e1))
      have hz4 : (((((w3.alloc (.cells #[.string s, .int .i64 a1, .int .i64 e1] 59)).setCell ⟨w2.heap.size, 0, none⟩ (.string s)).setCell ⟨w2.heap.size, 1, none⟩ (.int .i64 a1)).setCell ⟨w2.heap.size, 2, none⟩ (.int .i64 e1)).heap.size) = w3.heap.size + 1 := by simp [World.setCell]
      have HN3 := hid (H4.out.al (.cells #[.int .i64 (n1 : Int)] 3))
      have HNX := hid (srow (((((w3.alloc (.cells #[.string s, .int .i64 a1, .int .i64 e1] 59)).setCell ⟨w2.heap.size, 0, none⟩ (.string s)).setCell ⟨w2.heap.size, 1, none⟩ (.int .i64 a1)).setCell ⟨w2.heap.size, 2, none⟩ (.int .i64 e1))) [.int .i64 (n1 : Int)] 3)
      rw [hz4] at HNX
      clear H4 hz4 H3
      go_wp2_with (at_builtin; refine wpl_iapp rfl _ _ rfl (w2.heap.size + 1) (w3.heap.size + 1) acc.length (.slice ad acc.length cap) acc (n1 : Int) rfl rfl rfl HN3.out.own HN3.out.lt HNX.out HA3.out ?_; intro ad' cap' w' ho' hk')
      have H5 := hid (HN3.out.app ho' hk')
      clear ho' hk' HN3 HNX c0 c1 c2 f0 f1 f2
      go_wp2
      exact ⟨⟨k + 1, acc ++ [(n1 : Int)], ad', cap', a1, e1, by omega, by simp, by go_num, HA2, hid (by simpa using H5.out), HT2⟩, by simp [intOf]; omega⟩
    · have hk9 : k = n0 := by omega
      subst hk9
      have hdl : decide ((k : Int) < (k : Int)) = false := decide_eq_false (by omega)
      have HT2 : Hid (T = ⟨a, e, acc⟩) := by show _ = _; rw [HT.out, Nat.sub_self]; simp [dcI]
      have hT := HT2.out
      subst hT
      simp only at HO
      have R3 := hid (RE.out a e wr)
      have HA7 : Hid (acc.length ≤ 9223372036854775807) := by have := HA.out; have := HN.out; show _ ≤ _; omega
      obtain ⟨o1, o2⟩ := HO.out
      clear HT HT2 RI HA HN RE HO
      generalize endE s a e = E at *
      have hfd : ∀ W : World, (Instr.field 59 (.agg #[.string s, .int .i64 a, .int .i64 E]) 2).run Try.prog W = .ok (.int .i64 E) W := fun _ => by kernel_rfl
      by_cases hE : E = 0
      · subst hE
        have hbz : ((0 : Int) == 0) = true := rfl
        rw [hbz, Bool.true_and] at o1 o2
        cases hM : areM acc
        · rw [hM] at o1 o2
          have HD : Hid (DE = 3 ∧ DV = []) := ⟨o1, o2⟩
          clear o1 o2 hbz
          go_wp2_with fail
          refine R3.out.mono ?_
          rintro e' w4 ⟨rfl, b4⟩
          have H4 := hid (HS.out.call b4)
          have C4 := hid (CK.out _ acc w4 H4.out.own.ints HA7.out)
          rw [hM] at C4
          clear b4 R3 HS CK hM
          go_wp2_with fail
          refine C4.out.mono ?_
          rintro e' w5 ⟨rfl, b5⟩
          have B5 := hid (below_on H4.out.bel b5)
          clear b5
          go_wp2
          go_ret2
          rw [HD.out.1, HD.out.2]
          exact gives_none _ B5.out
        · rw [hM] at o1 o2
          have HD : Hid (DE = 0 ∧ DV = acc) := ⟨o1, o2⟩
          clear o1 o2 hbz
          go_wp2_with fail
          refine R3.out.mono ?_
          rintro e' w4 ⟨rfl, b4⟩
          have H4 := hid (HS.out.call b4)
          have C4 := hid (CK.out _ acc w4 H4.out.own.ints HA7.out)
          rw [hM] at C4
          clear b4 R3 HS CK hM
          go_wp2_with fail
          refine C4.out.mono ?_
          rintro e' w5 ⟨rfl, b5⟩
          have H5 := hid (H4.out.call b5)
          clear b5
          go_wp2
          go_ret2
          rw [HD.out.1, HD.out.2]
          exact gives_own _ (ownsRow_base H5.out.own (by have := H5.out.low; omega)) H5.out.bel
      · have hb : (E == 0) = false := beq_eq_false_iff_ne.2 hE
        have hn : (E != 0) = true := by rw [bne_iff_ne]; exact hE
        rw [hb, Bool.false_and] at o1 o2
        have HD : Hid (DE = 3 ∧ DV = []) := ⟨o1, o2⟩
        clear o1 o2 hE CK
        go_wp2_with fail
        refine R3.out.mono ?_
        rintro e' w4 ⟨rfl, b4⟩
        have H4 := hid (HS.out.call b4)
        clear b4 R3 HS
        go_wp2
        go_ret2
        rw [HD.out.1, HD.out.2]
        exact gives_none _ H4.out.bel
end Go.Proofs.Ytghcijliknahdaa
