/- What is told is read again, and in one form alone: a table's text. -/
import Derived.Test.YtojiahdbgdgdcaaJoined08
import Derived.Test.YtojiahdbgdgdcaaTkP
import Derived.Test.YtojiahdbgdgdcaaJoined13
namespace Go.Proofs.Ytojiahdbgdgdcaa
open Go.RowKit Go.Maps
set_option linter.unusedVariables false
set_option linter.unusedSimpArgs false

theorem rdH_put (m : Int) (hm0 : 64 ≤ m) (hm1 : m ≤ 1024) (s : ByteArray) (h : Hd) (p r : List UInt8) (hs : s.data.toList = p ++ (hdB h ++ r)) (hok : hdOk h = true) : rdH m s (p.length : Int) 0 = ⟨(((p ++ hdB h).length : Nat) : Int), 0, h⟩ := by
  have hz := hdOk_sz hok
  obtain ⟨tk, su, ou, at_⟩ := h
  simp only at hz
  obtain ⟨n, rfl⟩ : ∃ n : Nat, at_ = (n : Int) := ⟨at_.toNat, by omega⟩
  have e0 : hdB ⟨tk, su, ou, (n : Int)⟩ = ptx tk ++ (ptx su ++ (ptx ou ++ put n)) := by simp [hdB]
  rw [e0] at hs ⊢
  have h1 := tS_put s p (ptx su ++ (ptx ou ++ put n) ++ r) tk m (by rw [hs]; simp) (by omega) (by omega)
  have h2 := tS_put s (p ++ ptx tk) (ptx ou ++ put n ++ r) su 64 (by rw [hs]; simp) (by omega) (by omega)
  have h3 := tS_put s (p ++ ptx tk ++ ptx su) (put n ++ r) ou 4096 (by rw [hs]; simp) (by omega) (by omega)
  have h4 := dcN_put s (p ++ ptx tk ++ ptx su ++ ptx ou) r n 1099511627776 (by rw [hs]; simp) (by omega) (by omega)
  unfold rdH
  simp only
  rw [h1]
  simp only
  rw [h2]
  simp only
  rw [h3]
  simp only
  rw [h4]
  simp only [List.append_assoc]
theorem dcH_put (m : Int) (hm0 : 64 ≤ m) (hm1 : m ≤ 1024) (s : ByteArray) : ∀ (l : List Hd) (p r : List UInt8), s.data.toList = p ++ (l.flatMap hdB ++ r) → (∀ x ∈ l, hdOk x = true) → dcH m s l.length (p.length : Int) 0 = ⟨(((p ++ l.flatMap hdB).length : Nat) : Int), 0, l⟩
  | [], p, r, hs, _ => by simp [dcH]
  | x :: t, p, r, hs, hb => by
    have hm : (x :: t).flatMap hdB = hdB x ++ t.flatMap hdB := by simp
    rw [hm] at hs
    have h1 := rdH_put m hm0 hm1 s x p (t.flatMap hdB ++ r) (by rw [hs]; simp) (hb x (by simp))
    have h2 := dcH_put m hm0 hm1 s t (p ++ hdB x) r (by rw [hs]; simp) (fun y hy => hb y (List.mem_cons_of_mem _ hy))
    simp only [List.length_cons, dcH]
    rw [h1]
    simp only
    rw [h2, hm]
    simp only [List.append_assoc]
theorem td_enc (m : Int) (hm0 : 64 ≤ m) (hm1 : m ≤ 1024) {l : List Hd} (h : isTb l = true) : tdE m (tbT l) = 0 ∧ tdV m (tbT l) = l ∧ tdOk m (tbT l) = true := by
  have he : tbT l = ⟨(tbB l).toArray⟩ := by unfold tbT; rw [if_pos h]
  have hd : (tbT l).data.toList = tbB l := by rw [he]
  have hl := isTb_len h
  have a1 := dcN_put (tbT l) [] (l.flatMap hdB) l.length 64 (by rw [hd]; simp [tbB]) (by omega) (by omega)
  have a2 := dcH_put m hm0 hm1 (tbT l) l (put l.length) [] (by rw [hd]; simp [tbB]) (isTb_all h)
  have a1' : dcN (tbT l) 64 0 0 = ⟨(((put l.length).length : Nat) : Int), 0, l.length⟩ := a1
  have hT : tdT m (tbT l) = ⟨(((tbB l).length : Nat) : Int), 0, l⟩ := by
    unfold tdT
    rw [a1']
    simp only
    rw [a2]
    rfl
  have hz : (tbT l).size = (tbB l).length := size_of _ _ hd
  have hok : tdOk m (tbT l) = true := by
    unfold tdOk
    rw [hT]
    simp only
    rw [h]
    have : endE (tbT l) (((tbB l).length : Nat) : Int) 0 = 0 := by
      unfold endE
      rw [if_neg]
      intro hc
      rw [hz] at hc
      omega
    rw [this]
    rfl
  refine ⟨?_, ?_, hok⟩
  · unfold tdE; rw [hok]; rfl
  · unfold tdV; rw [hok, hT]; rfl
theorem st_H {m : Int} {s : ByteArray} {a e : Int} (h : (rdH m s a e).e = 0) : e = 0 := by
  unfold rdH at h
  simp only at h
  exact st_T (st_T (st_T (st_N h)))
theorem st_L {m : Int} {s : ByteArray} : ∀ (j : Nat) {a e : Int}, (dcH m s j a e).e = 0 → e = 0
  | 0, a, e, h => h
  | j + 1, a, e, h => by simp only [dcH] at h; exact st_H (st_L j h)
theorem tok_H (m : Int) (s : ByteArray) (a : Nat) (e : Int) (h : (rdH m s (a : Int) e).e = 0) : Tok s a (rdH m s (a : Int) e).a (hdB (rdH m s (a : Int) e).v) := by
  unfold rdH at h ⊢
  simp only at h ⊢
  have hO := st_N h
  have hU := st_T hO
  have hT := st_T hU
  have t1 := tok_T s m e a hT
  generalize tS s (a : Int) e m = X at *
  obtain ⟨xa, xe, xx⟩ := X
  simp only at *
  have t1' := t1
  obtain ⟨b, rfl, b1, b2, _⟩ := t1'
  have t2 := tok_T s 64 xe b hU
  generalize tS s (b : Int) xe 64 = Y at *
  obtain ⟨ya, ye, yx⟩ := Y
  simp only at *
  have t2' := t2
  obtain ⟨c, rfl, c1, c2, _⟩ := t2'
  have t3 := tok_T s 4096 ye c hO
  generalize tS s (c : Int) ye 4096 = Z at *
  obtain ⟨za, ze, zx⟩ := Z
  simp only at *
  have t3' := t3
  obtain ⟨d, rfl, d1, d2, _⟩ := t3'
  have t4 := tok_N s 1099511627776 ze d h
  generalize dcN s 1099511627776 (d : Int) ze = N at *
  obtain ⟨na, ne, nn⟩ := N
  simp only at *
  have e0 : hdB ⟨xx, yx, zx, (nn : Int)⟩ = ptx xx ++ ptx yx ++ ptx zx ++ put nn := by simp [hdB]
  rw [e0]
  exact ((t1.trans t2).trans t3).trans t4
theorem tok_L (m : Int) (s : ByteArray) : ∀ (j a : Nat) (e : Int), (dcH m s j (a : Int) e).e = 0 → a ≤ s.size → Tok s a (dcH m s j (a : Int) e).a ((dcH m s j (a : Int) e).l.flatMap hdB)
  | 0, a, e, h, ha => Tok.refl s a ha
  | j + 1, a, e, h, ha => by
    simp only [dcH] at h ⊢
    have hV := st_L j h
    have t1 := tok_H m s a e hV
    generalize rdH m s (a : Int) e = X at *
    obtain ⟨xa, xe, xv⟩ := X
    simp only at *
    have t1' := t1
    obtain ⟨b, rfl, b1, b2, _⟩ := t1'
    have t2 := tok_L m s j b xe h b2
    have := t1.trans t2
    rw [List.flatMap_cons]
    exact this
theorem td_one (m : Int) {t : ByteArray} (h : tdOk m t = true) : isTb (tdV m t) = true ∧ tbT (tdV m t) = t := by
  have hv : tdV m t = (tdT m t).l := by unfold tdV; rw [if_pos h]
  unfold tdOk at h
  rw [Bool.and_eq_true] at h
  obtain ⟨h1, h2⟩ := h
  have h1 := beq_iff_eq.1 h1
  rw [hv]
  refine ⟨h2, ?_⟩
  unfold endE at h1
  split at h1
  · cases h1
  · rename_i hc
    have hh : (tdT m t).e = 0 := h1
    have T0 : Tok t 0 (tdT m t).a (tbB (tdT m t).l) := by
      unfold tdT at hh ⊢
      have hN := st_L _ hh
      have t1 := tok_N t 64 0 0 hN
      have hcast : ((0 : Nat) : Int) = 0 := rfl
      rw [hcast] at t1
      generalize dcN t 64 0 0 = Y at *
      obtain ⟨ya, ye, yn⟩ := Y
      simp only at *
      have t1' := t1
      obtain ⟨c, rfl, c1, c2, _⟩ := t1'
      have t2 := tok_L m t yn c ye hh c2
      have := t1.trans t2
      unfold tbB
      rw [dcH_len]
      exact this
    obtain ⟨u, g1, g2, g3, g4⟩ := T0
    have hsz : t.data.toList.length = t.size := by rw [Array.length_toList]; rfl
    have hu : u = t.size := by
      have : ¬ (tdT m t).a < (t.size : Int) := fun h => hc ⟨hh, h⟩
      omega
    have hd : t.data.toList = tbB (tdT m t).l := by
      rw [← g4, List.drop_zero, Nat.sub_zero, List.take_of_length_le (by omega)]
    unfold tbT
    rw [if_pos h2, ← hd]
/-- how long a token may be as a reader takes it does not matter -/
theorem td_same (t : ByteArray) : tdOk 1024 t = tdOk 64 t ∧ tdE 1024 t = tdE 64 t ∧ tdV 1024 t = tdV 64 t := by
  cases h : tdOk 64 t with
  | true =>
    obtain ⟨h1, h2⟩ := td_one 64 h
    obtain ⟨h3, h4, h5⟩ := td_enc 1024 (by omega) (by omega) h1
    rw [h2] at h3 h4 h5
    refine ⟨h5, ?_, h4⟩
    rw [h3]; unfold tdE; rw [h]; rfl
  | false =>
    cases h0 : tdOk 1024 t with
    | true =>
      obtain ⟨h1, h2⟩ := td_one 1024 h0
      obtain ⟨h3, h4, h5⟩ := td_enc 64 (by omega) (by omega) h1
      rw [h2, h] at h5
      cases h5
    | false =>
      refine ⟨rfl, ?_, ?_⟩
      · unfold tdE; rw [h, h0]
      · unfold tdV; rw [h, h0]; rfl
theorem tdV_64 (m : Int) (h0 : 0 ≤ m) (h1 : m ≤ 1024) (t : ByteArray) : (tdV m t).length ≤ 64 := by
  unfold tdV
  split
  · exact (tdT_b m h0 h1 t).1
  · simp
end Go.Proofs.Ytojiahdbgdgdcaa
