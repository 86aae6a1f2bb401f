/- Joined: The chain that a text says: the reference's walk. What is told is read again, and in one form alone: a chain's text. -/
import Derived.Test.YtmadlnchmkhdjaaGreatJoined18
import Derived.Test.YtmadlnchmkhdjaaGreatJoined25
import Derived.Test.YtmadlnchmkhdjaaGreatJoined17
namespace Go.Proofs.YtmadlnchmkhdjaaGreat
open Go.RowKit Go.Maps
set_option linter.unusedVariables false
set_option linter.unusedSimpArgs false

def VnB (v : Vn) : Prop := v.sum.size ≤ 64 ∧ v.ps.length ≤ 512 ∧ ∀ p ∈ v.ps, p.id.size ≤ 64
theorem rdV_b (s : ByteArray) (a e : Int) : VnB (rdV s a e).v := by
  unfold rdV
  simp only
  split
  · exact ⟨by show (0 : Nat) ≤ _; omega, by show (0 : Nat) ≤ _; omega, fun p hp => by cases hp⟩
  · exact ⟨by have := tS_len s (rdP s (dcF s (dcN s 1099511627776 a e).a (dcN s 1099511627776 a e).e).a (dcF s (dcN s 1099511627776 a e).a (dcN s 1099511627776 a e).e).e).a (rdP s (dcF s (dcN s 1099511627776 a e).a (dcN s 1099511627776 a e).e).a (dcF s (dcN s 1099511627776 a e).a (dcN s 1099511627776 a e).e).e).e 64 (by omega); simp only; omega, rdP_len _ _ _, rdP_ids _ _ _⟩
theorem dcV_b (s : ByteArray) : ∀ (j : Nat) (a e : Int), ∀ v ∈ (dcV s j a e).l, VnB v
  | 0, _, _, v, hv => by simp [dcV] at hv
  | j + 1, a, e, v, hv => by
    simp only [dcV, List.mem_cons] at hv
    rcases hv with rfl | hv
    · exact rdV_b s a e
    · exact dcV_b s j _ _ v hv
theorem dcV_len (s : ByteArray) : ∀ (j : Nat) (a e : Int), (dcV s j a e).l.length = j
  | 0, _, _ => rfl
  | j + 1, a, e => by simp only [dcV, List.length_cons]; rw [dcV_len s j]
theorem cdT_b (s : ByteArray) : (cdT s).l.length ≤ 32 ∧ ∀ v ∈ (cdT s).l, VnB v := by
  refine ⟨?_, dcV_b s _ _ _⟩
  unfold cdT
  rw [dcV_len]
  have := dcN_le s 32 0 0 (by omega)
  omega
theorem Only.of {g : Nat} {S : Nat → Prop} {a b c : World} (h : Only g a b) (k : Keep S b c) (hS : ∀ j, j < a.heap.size → j ≠ g → ¬ S j) : Only g a c :=
  ⟨k.os.trans h.os, k.tape.trans h.tape, k.output.trans h.output, Nat.le_trans h.size k.size, fun j hj hg => (k.block j (Nat.lt_of_lt_of_le hj h.size) (hS j hj hg)).trans (h.block j hj hg)⟩
end Go.Proofs.YtmadlnchmkhdjaaGreat
namespace Go.Proofs.YtmadlnchmkhdjaaGreat
open Go.RowKit Go.Maps
set_option linter.unusedVariables false
set_option linter.unusedSimpArgs false

theorem fit_bl (n : Nat) : fitI 1 n = fitBl n := by
  unfold fitI fitBl
  by_cases h : n ≤ 1
  · rw [decide_eq_true h, decide_eq_true (by omega)]
  · rw [decide_eq_false h, decide_eq_false (by omega)]
theorem dcF_of (s : ByteArray) (a e : Int) (h : (dcN s 1 a e).e = 0 ∨ (dcF s a e).e = 0) : dcF s a e = dcN s 1 a e := by
  unfold dcF dcN at *
  rw [fit_bl] at *
  unfold nS at *
  split
  · split
    · split
      · rfl
      · rename_i h1 h2 h3
        rw [if_pos h1, if_pos h2, if_neg h3, if_pos h1, if_pos h2, if_neg h3] at h
        simp at h
    · rfl
  · rfl
theorem dcP_put (s : ByteArray) : ∀ (l : List Pc) (p r : List UInt8), s.data.toList = p ++ (l.flatMap pcB ++ r) → (∀ x ∈ l, pcOk x = true) → dcP s l.length (p.length : Int) 0 = ⟨(((p ++ l.flatMap pcB).length : Nat) : Int), 0, l⟩
  | [], p, r, hs, _ => by simp [dcP]
  | x :: t, p, r, hs, hb => by
    have hx := pcOk_id (hb x (by simp))
    obtain ⟨id, sz⟩ := x
    simp only at hx
    obtain ⟨n, rfl⟩ : ∃ n : Nat, sz = (n : Int) := ⟨sz.toNat, by omega⟩
    have hm : ((⟨id, (n : Int)⟩ : Pc) :: t).flatMap pcB = ptx id ++ (put n ++ t.flatMap pcB) := by simp [pcB]
    rw [hm] at hs
    have h0 := tS_put s p (put n ++ t.flatMap pcB ++ r) id 64 (by rw [hs]; simp) (by omega) (by omega)
    have h1 := dcN_put s (p ++ ptx id) (t.flatMap pcB ++ r) n 4096 (by rw [hs]; simp) (by omega) (by omega)
    have h2 := dcP_put s t (p ++ ptx id ++ put n) r (by rw [hs]; simp) (fun y hy => hb y (List.mem_cons_of_mem _ hy))
    simp only [List.length_cons, dcP]
    rw [h0]
    simp only
    rw [h1]
    simp only
    rw [h2, hm]
    simp only [List.append_assoc]
theorem rdP_put (s : ByteArray) (l : List Pc) (p r : List UInt8) (hs : s.data.toList = p ++ (pcsB l ++ r)) (hb : ∀ x ∈ l, pcOk x = true) (hl : l.length ≤ 512) : rdP s (p.length : Int) 0 = ⟨(((p ++ pcsB l).length : Nat) : Int), 0, l⟩ := by
  unfold pcsB at *
  have h1 := dcN_put s p (l.flatMap pcB ++ r) l.length 512 (by rw [hs]; simp) (by omega) (by omega)
  have h2 := dcP_put s l (p ++ put l.length) r (by rw [hs]; simp) hb
  unfold rdP
  rw [h1]
  simp only
  rw [h2]
  simp only [List.append_assoc]
theorem rdV_put (s : ByteArray) (v : Vn) (p r : List UInt8) (hs : s.data.toList = p ++ (vnB v ++ r)) (hv : vnOk v = true) : rdV s (p.length : Int) 0 = ⟨(((p ++ vnB v).length : Nat) : Int), 0, v⟩ := by
  have hps := vnOk_ps hv
  have hsm := vnOk_sum hv
  obtain ⟨id, ma, sz, sum, ps⟩ := v
  simp only at hps hsm
  simp only [vnOk, Bool.and_eq_true, decide_eq_true_eq] at hv
  obtain ⟨hid, hv⟩ := hv
  obtain ⟨n, rfl⟩ : ∃ n : Nat, id = (n : Int) := ⟨id.toNat, by omega⟩
  cases ma
  · simp only [Bool.false_eq_true, if_false, vnObj, Bool.and_eq_true, decide_eq_true_eq] at hv
    have e0 : vnB ⟨(n : Int), false, sz, sum, ps⟩ = put n ++ (put 0 ++ (pcsB ps ++ ptx sum)) := by simp [vnB]
    rw [e0] at hs ⊢
    have h1 := dcN_put s p (put 0 ++ (pcsB ps ++ ptx sum) ++ r) n 1099511627776 (by rw [hs]; simp) (by omega) (by omega)
    have h2 := dcN_put s (p ++ put n) (pcsB ps ++ ptx sum ++ r) 0 1 (by rw [hs]; simp) (by omega) (by omega)
    have h3 := rdP_put s ps (p ++ put n ++ put 0) (ptx sum ++ r) (by rw [hs]; simp) hps.2.1 hps.1
    have h4 := tS_put s (p ++ put n ++ put 0 ++ pcsB ps) r sum 64 (by rw [hs]; simp) (by omega) (by omega)
    have h5 : dcF s (((p ++ put n).length : Nat) : Int) 0 = _ := (dcF_of s _ 0 (.inl (by rw [h2]))).trans h2
    have h6 : pcV ps = sz := by unfold pcV; rw [if_pos hv.1.1.1]; exact hv.1.1.2.symm
    unfold rdV
    simp only
    rw [h1]
    simp only
    rw [h5]
    simp only
    rw [if_neg (by simp)]
    rw [h3]
    simp only
    rw [h4]
    simp only [h6, List.append_assoc]
  · simp only [if_true, vnBare, Bool.and_eq_true, decide_eq_true_eq] at hv
    obtain ⟨⟨z1, z2⟩, z3⟩ := hv
    have e2 : sum = ⟨#[]⟩ := by
      obtain ⟨d⟩ := sum
      have : d.size = 0 := z2
      rw [Array.size_eq_zero_iff.1 this]
    have e3 : ps = [] := List.length_eq_zero_iff.1 z3
    subst z1 e2 e3
    have e0 : vnB ⟨(n : Int), true, 0, ⟨#[]⟩, []⟩ = put n ++ put 1 := by simp [vnB]
    rw [e0] at hs ⊢
    have h1 := dcN_put s p (put 1 ++ r) n 1099511627776 (by rw [hs]; simp) (by omega) (by omega)
    have h2 := dcN_put s (p ++ put n) r 1 1 (by rw [hs]; simp) (by omega) (by omega)
    have h5 : dcF s (((p ++ put n).length : Nat) : Int) 0 = _ := (dcF_of s _ 0 (.inl (by rw [h2]))).trans h2
    unfold rdV
    simp only
    rw [h1]
    simp only
    rw [h5]
    simp only
    rw [if_pos (by simp)]
    simp only [List.append_assoc]
theorem dcV_put (s : ByteArray) : ∀ (l : List Vn) (p r : List UInt8), s.data.toList = p ++ (l.flatMap vnB ++ r) → (∀ x ∈ l, vnOk x = true) → dcV s l.length (p.length : Int) 0 = ⟨(((p ++ l.flatMap vnB).length : Nat) : Int), 0, l⟩
  | [], p, r, hs, _ => by simp [dcV]
  | x :: t, p, r, hs, hb => by
    have hm : (x :: t).flatMap vnB = vnB x ++ t.flatMap vnB := by simp
    rw [hm] at hs
    have h1 := rdV_put s x p (t.flatMap vnB ++ r) (by rw [hs]; simp) (hb x (by simp))
    have h2 := dcV_put s t (p ++ vnB x) r (by rw [hs]; simp) (fun y hy => hb y (List.mem_cons_of_mem _ hy))
    simp only [List.length_cons, dcV]
    rw [h1]
    simp only
    rw [h2, hm]
    simp only [List.append_assoc]
theorem cd_enc {l : List Vn} (h : isCh l = true) : cdE (chT l) = 0 ∧ cdV (chT l) = l := by
  have he : chT l = ⟨(chB l).toArray⟩ := by unfold chT; rw [if_pos h]
  have hd : (chT l).data.toList = chB l := by rw [he]
  have hl := isCh_len h
  have a1 := dcN_put (chT l) [] (l.flatMap vnB) l.length 32 (by rw [hd]; simp [chB]) (by omega) (by omega)
  have a2 := dcV_put (chT l) l (put l.length) [] (by rw [hd]; simp [chB]) (isCh_all h)
  have a1' : dcN (chT l) 32 0 0 = ⟨(((put l.length).length : Nat) : Int), 0, l.length⟩ := a1
  have hT : cdT (chT l) = ⟨(((chB l).length : Nat) : Int), 0, l⟩ := by
    unfold cdT
    rw [a1']
    simp only
    rw [a2]
    rfl
  have hz : (chT l).size = (chB l).length := size_of _ _ hd
  have hok : cdOk (chT l) = true := by
    unfold cdOk
    rw [hT]
    simp only
    rw [h]
    have : endE (chT l) (((chB l).length : Nat) : Int) 0 = 0 := by
      unfold endE
      rw [if_neg]
      intro hc
      rw [hz] at hc
      omega
    rw [this]
    rfl
  unfold cdE cdV
  rw [hok, hT]
  exact ⟨rfl, rfl⟩
theorem st_F {s : ByteArray} {a e : Int} (h : (dcF s a e).e = 0) : e = 0 := by
  by_cases he : e = 0
  · exact he
  · unfold dcF nS at h; rw [if_neg he] at h; exact absurd h he
theorem st_P {s : ByteArray} : ∀ (j : Nat) {a e : Int}, (dcP s j a e).e = 0 → e = 0
  | 0, a, e, h => h
  | j + 1, a, e, h => by simp only [dcP] at h; exact st_T (st_N (st_P j h))
theorem st_V {s : ByteArray} {a e : Int} (h : (rdV s a e).e = 0) : e = 0 := by
  unfold rdV at h
  simp only at h
  split at h
  · exact st_N (st_F h)
  · have h1 := st_T h
    unfold rdP at h1
    exact st_N (st_F (st_N (st_P _ h1)))
theorem st_W {s : ByteArray} : ∀ (j : Nat) {a e : Int}, (dcV s j a e).e = 0 → e = 0
  | 0, a, e, h => h
  | j + 1, a, e, h => by simp only [dcV] at h; exact st_V (st_W j h)
theorem tok_F (s : ByteArray) (e : Int) (a : Nat) (h : (dcF s (a : Int) e).e = 0) : Tok s a (dcF s (a : Int) e).a (put (dcF s (a : Int) e).n) ∧ (dcF s (a : Int) e).n ≤ 1 := by
  have h1 := dcF_of s a e (.inr h)
  rw [h1] at h ⊢
  have := dcN_le s 1 a e (by omega)
  exact ⟨tok_N s 1 e a h, by omega⟩
theorem tok_P (s : ByteArray) : ∀ (j a : Nat) (e : Int), (dcP s j (a : Int) e).e = 0 → a ≤ s.size → Tok s a (dcP s j (a : Int) e).a ((dcP s j (a : Int) e).l.flatMap pcB)
  | 0, a, e, h, ha => Tok.refl s a ha
  | j + 1, a, e, h, ha => by
    simp only [dcP] at h ⊢
    have hN := st_P j h
    have hT := st_N hN
    have t1 := tok_T s 64 e a hT
    generalize tS s (a : Int) e 64 = X at *
    obtain ⟨xa, xe, xx⟩ := X
    simp only at *
    have t1' := t1
    obtain ⟨b, rfl, b1, b2, _⟩ := t1'
    have t2 := tok_N s 4096 xe b hN
    generalize dcN s 4096 (b : Int) xe = Y at *
    obtain ⟨ya, ye, yn⟩ := Y
    simp only at *
    have t2' := t2
    obtain ⟨c, rfl, c1, c2, _⟩ := t2'
    have t3 := tok_P s j c ye h c2
    have := (t1.trans t2).trans t3
    have e0 : ((⟨xx, (yn : Int)⟩ : Pc) :: (dcP s j (c : Int) ye).l).flatMap pcB = ptx xx ++ put yn ++ (dcP s j (c : Int) ye).l.flatMap pcB := by simp [pcB]
    rw [e0]
    exact this
theorem tok_rP (s : ByteArray) (a : Nat) (e : Int) (h : (rdP s (a : Int) e).e = 0) : Tok s a (rdP s (a : Int) e).a (pcsB (rdP s (a : Int) e).l) := by
  unfold rdP at h ⊢
  have hN := st_P _ h
  have t1 := tok_N s 512 e a hN
  have hl := fun a e => dcP_len s (dcN s 512 (a : Int) e).n
  generalize dcN s 512 (a : Int) e = Y at *
  obtain ⟨ya, ye, yn⟩ := Y
  simp only at *
  have t1' := t1
  obtain ⟨c, rfl, c1, c2, _⟩ := t1'
  have t2 := tok_P s yn c ye h c2
  have := t1.trans t2
  unfold pcsB
  rw [dcP_len]
  exact this
theorem tok_V (s : ByteArray) (a : Nat) (e : Int) (h : (rdV s (a : Int) e).e = 0) : Tok s a (rdV s (a : Int) e).a (vnB (rdV s (a : Int) e).v) := by
  have hF : (dcF s (dcN s 1099511627776 (a : Int) e).a (dcN s 1099511627776 (a : Int) e).e).e = 0 := by
    unfold rdV at h
    simp only at h
    split at h
    · exact h
    · have h1 := st_T h
      unfold rdP at h1
      exact st_N (st_P _ h1)
  have hN := st_F hF
  have t1 := tok_N s 1099511627776 e a hN
  unfold rdV at h ⊢
  simp only at h ⊢
  generalize dcN s 1099511627776 (a : Int) e = Y at *
  obtain ⟨ya, ye, yn⟩ := Y
  simp only at *
  have t1' := t1
  obtain ⟨c, rfl, c1, c2, _⟩ := t1'
  obtain ⟨t2, hn1⟩ := tok_F s ye c hF
  generalize dcF s (c : Int) ye = F at *
  obtain ⟨fa, fe, fn⟩ := F
  simp only at *
  have t2' := t2
  obtain ⟨d, rfl, d1, d2, _⟩ := t2'
  by_cases hf : fn = 1
  · subst hf
    rw [if_pos (by simp)] at h ⊢
    have e0 : vnB ⟨(yn : Int), true, 0, ⟨#[]⟩, []⟩ = put yn ++ put 1 := by simp [vnB]
    simp only
    rw [e0]
    exact t1.trans t2
  · have hf0 : fn = 0 := by omega
    subst hf0
    rw [if_neg (by simp)] at h ⊢
    simp only at h ⊢
    have hP := st_T h
    have t3 := tok_rP s d fe hP
    generalize rdP s (d : Int) fe = P at *
    obtain ⟨pa, pe, pl⟩ := P
    simp only at *
    have t3' := t3
    obtain ⟨g, rfl, g1, g2, _⟩ := t3'
    have t4 := tok_T s 64 pe g h
    generalize tS s (g : Int) pe 64 = X at *
    obtain ⟨xa, xe, xx⟩ := X
    simp only at *
    have e0 : vnB ⟨(yn : Int), false, pcV pl, xx, pl⟩ = put yn ++ put 0 ++ pcsB pl ++ ptx xx := by simp [vnB]
    rw [e0]
    exact ((t1.trans t2).trans t3).trans t4
theorem tok_W (s : ByteArray) : ∀ (j a : Nat) (e : Int), (dcV s j (a : Int) e).e = 0 → a ≤ s.size → Tok s a (dcV s j (a : Int) e).a ((dcV s j (a : Int) e).l.flatMap vnB)
  | 0, a, e, h, ha => Tok.refl s a ha
  | j + 1, a, e, h, ha => by
    simp only [dcV] at h ⊢
    have hV := st_W j h
    have t1 := tok_V s a e hV
    generalize rdV s (a : Int) e = X at *
    obtain ⟨xa, xe, xv⟩ := X
    simp only at *
    have t1' := t1
    obtain ⟨b, rfl, b1, b2, _⟩ := t1'
    have t2 := tok_W s j b xe h b2
    have := t1.trans t2
    rw [List.flatMap_cons]
    exact this
theorem cd_one {t : ByteArray} (h : cdOk t = true) : isCh (cdV t) = true ∧ chT (cdV t) = t := by
  have hv : cdV t = (cdT t).l := by unfold cdV; rw [if_pos h]
  unfold cdOk at h
  rw [Bool.and_eq_true] at h
  obtain ⟨h1, h2⟩ := h
  have h1 := beq_iff_eq.1 h1
  rw [hv]
  refine ⟨h2, ?_⟩
  unfold endE at h1
  split at h1
  · cases h1
  · rename_i hc
    have hh : (cdT t).e = 0 := h1
    have T0 : Tok t 0 (cdT t).a (chB (cdT t).l) := by
      unfold cdT at hh ⊢
      have hN := st_W _ hh
      have t1 := tok_N t 32 0 0 hN
      have hcast : ((0 : Nat) : Int) = 0 := rfl
      rw [hcast] at t1
      generalize dcN t 32 0 0 = Y at *
      obtain ⟨ya, ye, yn⟩ := Y
      simp only at *
      have t1' := t1
      obtain ⟨c, rfl, c1, c2, _⟩ := t1'
      have t2 := tok_W t yn c ye hh c2
      have := t1.trans t2
      unfold chB
      rw [dcV_len]
      exact this
    obtain ⟨u, g1, g2, g3, g4⟩ := T0
    have hsz : t.data.toList.length = t.size := by rw [Array.length_toList]; rfl
    have hu : u = t.size := by
      have : ¬ (cdT t).a < (t.size : Int) := fun h => hc ⟨hh, h⟩
      omega
    have hd : t.data.toList = chB (cdT t).l := by
      rw [← g4, List.drop_zero, Nat.sub_zero, List.take_of_length_le (by omega)]
    unfold chT
    rw [if_pos h2, ← hd]
end Go.Proofs.YtmadlnchmkhdjaaGreat
