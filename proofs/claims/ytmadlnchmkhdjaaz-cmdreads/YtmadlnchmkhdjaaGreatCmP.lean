/- What is told is read again, and in one form alone: a command's text. -/
import Derived.Test.YtmadlnchmkhdjaaGreatJoined23
import Derived.Test.YtmadlnchmkhdjaaGreatJoined26
namespace Go.Proofs.YtmadlnchmkhdjaaGreat
open Go.RowKit Go.Maps
set_option linter.unusedVariables false
set_option linter.unusedSimpArgs false

theorem dcK_put (s : ByteArray) : ∀ (l : List Pk) (p r : List UInt8), s.data.toList = p ++ (l.flatMap pkB ++ r) → (∀ x ∈ l, pkOk x = true) → dcK s l.length (p.length : Int) 0 = ⟨(((p ++ l.flatMap pkB).length : Nat) : Int), 0, l⟩
  | [], p, r, hs, _ => by simp [dcK]
  | x :: t, p, r, hs, hb => by
    have hx := pkOk_bd (hb x (by simp))
    obtain ⟨sz, id⟩ := x
    simp only at hx
    obtain ⟨n, rfl⟩ : ∃ n : Nat, sz = (n : Int) := ⟨sz.toNat, by omega⟩
    have hm : ((⟨(n : Int), id⟩ : Pk) :: t).flatMap pkB = put n ++ (ptx id ++ t.flatMap pkB) := by simp [pkB]
    rw [hm] at hs
    have h1 := dcN_put s p (ptx id ++ t.flatMap pkB ++ r) n 100 (by rw [hs]; simp) (by omega) (by omega)
    have h0 := tS_put s (p ++ put n) (t.flatMap pkB ++ r) id 64 (by rw [hs]; simp) (by omega) (by omega)
    have h2 := dcK_put s t (p ++ put n ++ ptx id) r (by rw [hs]; simp) (fun y hy => hb y (List.mem_cons_of_mem _ hy))
    simp only [List.length_cons, dcK]
    rw [h1]
    simp only
    rw [h0]
    simp only
    rw [h2, hm]
    simp only [List.append_assoc]
theorem rdK_put (s : ByteArray) (l : List Pk) (p r : List UInt8) (hs : s.data.toList = p ++ (pksB l ++ r)) (hb : ∀ x ∈ l, pkOk x = true) (hl : l.length ≤ 100) : rdK s (p.length : Int) 0 = ⟨(((p ++ pksB l).length : Nat) : Int), 0, l⟩ := by
  unfold pksB at *
  have h1 := dcN_put s p (l.flatMap pkB ++ r) l.length 100 (by rw [hs]; simp) (by omega) (by omega)
  have h2 := dcK_put s l (p ++ put l.length) r (by rw [hs]; simp) hb
  unfold rdK
  rw [h1]
  simp only
  rw [h2]
  simp only [List.append_assoc]
/-- what is not a field of the kind is empty -/
structure CmN (c : Cm) : Prop where
  tk : hasF (flN c.kd) 1 = false → c.tk = ⟨#[]⟩
  bk : hasF (flN c.kd) 2 = false → c.bk = ⟨#[]⟩
  ky : hasF (flN c.kd) 4 = false → c.ky = ⟨#[]⟩
  id : hasF (flN c.kd) 8 = false → c.id = 0
  n : hasF (flN c.kd) 16 = false → c.n = 0
  sm : hasF (flN c.kd) 32 = false → c.sm = ⟨#[]⟩
  ps : hasF (flN c.kd) 64 = false → c.ps = []
  ks : hasF (flN c.kd) 128 = false → c.ks = []
theorem fit_no {h f : Int} {r n : Bool} (e : fitB h f r n = true) (hf : hasF h f = false) : n = true := by
  unfold fitB at e
  rw [hf] at e
  exact e
theorem cm_no {c : Cm} (h : cmOk c = true) : CmN c := by
  unfold cmOk nfB nuB dfB at h
  simp only [Bool.and_eq_true, Bool.not_eq_true', decide_eq_false_iff_not] at h
  obtain ⟨⟨⟨hk, ⟨ht, hb⟩, hy⟩, hi, hn⟩, ⟨hs, hp⟩, hq⟩ := h
  exact ⟨fun e => nil_str (em_sz (fit_no ht e)), fun e => nil_str (em_sz (fit_no hb e)), fun e => nil_str (em_sz (fit_no hy e)), fun e => of_decide_eq_true (fit_no hi e), fun e => of_decide_eq_true (fit_no hn e), fun e => nil_str (em_sz (fit_no hs e)), fun e => List.eq_nil_of_length_eq_zero (of_decide_eq_true (fit_no hp e)), fun e => List.eq_nil_of_length_eq_zero (of_decide_eq_true (fit_no hq e))⟩
theorem put1 {c : Cm} (hd : CmD c) (hn : CmN c) (s : ByteArray) (P R : List UInt8) (hs : s.data.toList = P ++ (flB (flN c.kd) 1 (ptx c.tk) ++ R)) : s1 s (flN c.kd) ⟨(P.length : Int), 0, ⟨c.kd, ⟨#[]⟩, ⟨#[]⟩, ⟨#[]⟩, 0, 0, ⟨#[]⟩, [], []⟩⟩ = ⟨(((P ++ flB (flN c.kd) 1 (ptx c.tk)).length : Nat) : Int), 0, ⟨c.kd, c.tk, ⟨#[]⟩, ⟨#[]⟩, 0, 0, ⟨#[]⟩, [], []⟩⟩ := by
  unfold s1
  by_cases hf : hasF (flN c.kd) 1 = true
  · have hf' : ptx c.tk = flB (flN c.kd) 1 (ptx c.tk) := by unfold flB; rw [if_pos hf]
    have hp := tS_put s P R c.tk 1024 (by rw [hs, ← hf']) (by have := hd.tk; omega) (by omega)
    rw [if_pos hf, ← hf']
    simp only
    rw [hp]
    
  · have hf2 : hasF (flN c.kd) 1 = false := by simpa using hf
    have hf' : flB (flN c.kd) 1 (ptx c.tk) = [] := by unfold flB; rw [if_neg hf]
    rw [if_neg hf, hf', List.append_nil]
    rw [hn.tk hf2]
theorem put2 {c : Cm} (hd : CmD c) (hn : CmN c) (s : ByteArray) (P R : List UInt8) (hs : s.data.toList = P ++ (flB (flN c.kd) 2 (ptx c.bk) ++ R)) : s2 s (flN c.kd) ⟨(P.length : Int), 0, ⟨c.kd, c.tk, ⟨#[]⟩, ⟨#[]⟩, 0, 0, ⟨#[]⟩, [], []⟩⟩ = ⟨(((P ++ flB (flN c.kd) 2 (ptx c.bk)).length : Nat) : Int), 0, ⟨c.kd, c.tk, c.bk, ⟨#[]⟩, 0, 0, ⟨#[]⟩, [], []⟩⟩ := by
  unfold s2
  by_cases hf : hasF (flN c.kd) 2 = true
  · have hf' : ptx c.bk = flB (flN c.kd) 2 (ptx c.bk) := by unfold flB; rw [if_pos hf]
    have hp := tS_put s P R c.bk 1024 (by rw [hs, ← hf']) (by have := hd.bk; omega) (by omega)
    rw [if_pos hf, ← hf']
    simp only
    rw [hp]
    
  · have hf2 : hasF (flN c.kd) 2 = false := by simpa using hf
    have hf' : flB (flN c.kd) 2 (ptx c.bk) = [] := by unfold flB; rw [if_neg hf]
    rw [if_neg hf, hf', List.append_nil]
    rw [hn.bk hf2]
theorem put3 {c : Cm} (hd : CmD c) (hn : CmN c) (s : ByteArray) (P R : List UInt8) (hs : s.data.toList = P ++ (flB (flN c.kd) 4 (ptx c.ky) ++ R)) : s3 s (flN c.kd) ⟨(P.length : Int), 0, ⟨c.kd, c.tk, c.bk, ⟨#[]⟩, 0, 0, ⟨#[]⟩, [], []⟩⟩ = ⟨(((P ++ flB (flN c.kd) 4 (ptx c.ky)).length : Nat) : Int), 0, ⟨c.kd, c.tk, c.bk, c.ky, 0, 0, ⟨#[]⟩, [], []⟩⟩ := by
  unfold s3
  by_cases hf : hasF (flN c.kd) 4 = true
  · have hf' : ptx c.ky = flB (flN c.kd) 4 (ptx c.ky) := by unfold flB; rw [if_pos hf]
    have hp := tS_put s P R c.ky 1024 (by rw [hs, ← hf']) (by have := hd.ky; omega) (by omega)
    rw [if_pos hf, ← hf']
    simp only
    rw [hp]
    
  · have hf2 : hasF (flN c.kd) 4 = false := by simpa using hf
    have hf' : flB (flN c.kd) 4 (ptx c.ky) = [] := by unfold flB; rw [if_neg hf]
    rw [if_neg hf, hf', List.append_nil]
    rw [hn.ky hf2]
theorem put4 {c : Cm} (hd : CmD c) (hn : CmN c) (s : ByteArray) (P R : List UInt8) (hs : s.data.toList = P ++ (flB (flN c.kd) 8 (put c.id.toNat) ++ R)) : s4 s (flN c.kd) ⟨(P.length : Int), 0, ⟨c.kd, c.tk, c.bk, c.ky, 0, 0, ⟨#[]⟩, [], []⟩⟩ = ⟨(((P ++ flB (flN c.kd) 8 (put c.id.toNat)).length : Nat) : Int), 0, ⟨c.kd, c.tk, c.bk, c.ky, c.id, 0, ⟨#[]⟩, [], []⟩⟩ := by
  unfold s4
  by_cases hf : hasF (flN c.kd) 8 = true
  · have hf' : put c.id.toNat = flB (flN c.kd) 8 (put c.id.toNat) := by unfold flB; rw [if_pos hf]
    have hp := dcN_put s P R c.id.toNat 1099511627776 (by rw [hs, ← hf']) (by have := hd.id; omega) (by omega)
    rw [if_pos hf, ← hf']
    simp only
    rw [hp]
    simp only
    rw [show ((c.id.toNat : Nat) : Int) = c.id by have := hd.id; omega]
  · have hf2 : hasF (flN c.kd) 8 = false := by simpa using hf
    have hf' : flB (flN c.kd) 8 (put c.id.toNat) = [] := by unfold flB; rw [if_neg hf]
    rw [if_neg hf, hf', List.append_nil]
    rw [hn.id hf2]
theorem put5 {c : Cm} (hd : CmD c) (hn : CmN c) (s : ByteArray) (P R : List UInt8) (hs : s.data.toList = P ++ (flB (flN c.kd) 16 (put c.n.toNat) ++ R)) : s5 s (flN c.kd) ⟨(P.length : Int), 0, ⟨c.kd, c.tk, c.bk, c.ky, c.id, 0, ⟨#[]⟩, [], []⟩⟩ = ⟨(((P ++ flB (flN c.kd) 16 (put c.n.toNat)).length : Nat) : Int), 0, ⟨c.kd, c.tk, c.bk, c.ky, c.id, c.n, ⟨#[]⟩, [], []⟩⟩ := by
  unfold s5
  by_cases hf : hasF (flN c.kd) 16 = true
  · have hf' : put c.n.toNat = flB (flN c.kd) 16 (put c.n.toNat) := by unfold flB; rw [if_pos hf]
    have hp := dcN_put s P R c.n.toNat 100 (by rw [hs, ← hf']) (by have := hd.n; omega) (by omega)
    rw [if_pos hf, ← hf']
    simp only
    rw [hp]
    simp only
    rw [show ((c.n.toNat : Nat) : Int) = c.n by have := hd.n; omega]
  · have hf2 : hasF (flN c.kd) 16 = false := by simpa using hf
    have hf' : flB (flN c.kd) 16 (put c.n.toNat) = [] := by unfold flB; rw [if_neg hf]
    rw [if_neg hf, hf', List.append_nil]
    rw [hn.n hf2]
theorem put6 {c : Cm} (hd : CmD c) (hn : CmN c) (s : ByteArray) (P R : List UInt8) (hs : s.data.toList = P ++ (flB (flN c.kd) 32 (ptx c.sm) ++ R)) : s6 s (flN c.kd) ⟨(P.length : Int), 0, ⟨c.kd, c.tk, c.bk, c.ky, c.id, c.n, ⟨#[]⟩, [], []⟩⟩ = ⟨(((P ++ flB (flN c.kd) 32 (ptx c.sm)).length : Nat) : Int), 0, ⟨c.kd, c.tk, c.bk, c.ky, c.id, c.n, c.sm, [], []⟩⟩ := by
  unfold s6
  by_cases hf : hasF (flN c.kd) 32 = true
  · have hf' : ptx c.sm = flB (flN c.kd) 32 (ptx c.sm) := by unfold flB; rw [if_pos hf]
    have hp := tS_put s P R c.sm 64 (by rw [hs, ← hf']) (by have := hd.sm; omega) (by omega)
    rw [if_pos hf, ← hf']
    simp only
    rw [hp]
    
  · have hf2 : hasF (flN c.kd) 32 = false := by simpa using hf
    have hf' : flB (flN c.kd) 32 (ptx c.sm) = [] := by unfold flB; rw [if_neg hf]
    rw [if_neg hf, hf', List.append_nil]
    rw [hn.sm hf2]
theorem put7 {c : Cm} (hd : CmD c) (hn : CmN c) (s : ByteArray) (P R : List UInt8) (hs : s.data.toList = P ++ (flB (flN c.kd) 64 (pcsB c.ps) ++ R)) : s7 s (flN c.kd) ⟨(P.length : Int), 0, ⟨c.kd, c.tk, c.bk, c.ky, c.id, c.n, c.sm, [], []⟩⟩ = ⟨(((P ++ flB (flN c.kd) 64 (pcsB c.ps)).length : Nat) : Int), 0, ⟨c.kd, c.tk, c.bk, c.ky, c.id, c.n, c.sm, c.ps, []⟩⟩ := by
  unfold s7
  by_cases hf : hasF (flN c.kd) 64 = true
  · have hf' : pcsB c.ps = flB (flN c.kd) 64 (pcsB c.ps) := by unfold flB; rw [if_pos hf]
    have hp := rdP_put s c.ps P R (by rw [hs, ← hf']) hd.ps hd.pl
    rw [if_pos hf, ← hf']
    simp only
    rw [hp]
    
  · have hf2 : hasF (flN c.kd) 64 = false := by simpa using hf
    have hf' : flB (flN c.kd) 64 (pcsB c.ps) = [] := by unfold flB; rw [if_neg hf]
    rw [if_neg hf, hf', List.append_nil]
    rw [hn.ps hf2]
theorem put8 {c : Cm} (hd : CmD c) (hn : CmN c) (s : ByteArray) (P R : List UInt8) (hs : s.data.toList = P ++ (flB (flN c.kd) 128 (pksB c.ks) ++ R)) : s8 s (flN c.kd) ⟨(P.length : Int), 0, ⟨c.kd, c.tk, c.bk, c.ky, c.id, c.n, c.sm, c.ps, []⟩⟩ = ⟨(((P ++ flB (flN c.kd) 128 (pksB c.ks)).length : Nat) : Int), 0, ⟨c.kd, c.tk, c.bk, c.ky, c.id, c.n, c.sm, c.ps, c.ks⟩⟩ := by
  unfold s8
  by_cases hf : hasF (flN c.kd) 128 = true
  · have hf' : pksB c.ks = flB (flN c.kd) 128 (pksB c.ks) := by unfold flB; rw [if_pos hf]
    have hp := rdK_put s c.ks P R (by rw [hs, ← hf']) hd.ks hd.kl
    rw [if_pos hf, ← hf']
    simp only
    rw [hp]
    
  · have hf2 : hasF (flN c.kd) 128 = false := by simpa using hf
    have hf' : flB (flN c.kd) 128 (pksB c.ks) = [] := by unfold flB; rw [if_neg hf]
    rw [if_neg hf, hf', List.append_nil]
    rw [hn.ks hf2]
theorem rdC_put {c : Cm} (h : cmOk c = true) (s : ByteArray) (R : List UInt8) (hs : s.data.toList = cmB c ++ R) : rdC s 0 0 = ⟨(((cmB c).length : Nat) : Int), 0, c⟩ := by
  have hd := cm_bd h
  have hn := cm_no h
  unfold cmB at *
  have a0 := dcN_put s [] (flB (flN c.kd) 1 (ptx c.tk) ++ flB (flN c.kd) 2 (ptx c.bk) ++ flB (flN c.kd) 4 (ptx c.ky) ++ flB (flN c.kd) 8 (put c.id.toNat) ++ flB (flN c.kd) 16 (put c.n.toNat) ++ flB (flN c.kd) 32 (ptx c.sm) ++ flB (flN c.kd) 64 (pcsB c.ps) ++ flB (flN c.kd) 128 (pksB c.ks) ++ R) c.kd.toNat 10 (by rw [hs]; simp) (by have := hd.kd; omega) (by omega)
  have a0' : dcN s 10 0 0 = ⟨(((put c.kd.toNat).length : Nat) : Int), 0, c.kd.toNat⟩ := a0
  have hk : ((c.kd.toNat : Nat) : Int) = c.kd := by have := hd.kd; omega
  have a1 := put1 hd hn s (put c.kd.toNat) (flB (flN c.kd) 2 (ptx c.bk) ++ flB (flN c.kd) 4 (ptx c.ky) ++ flB (flN c.kd) 8 (put c.id.toNat) ++ flB (flN c.kd) 16 (put c.n.toNat) ++ flB (flN c.kd) 32 (ptx c.sm) ++ flB (flN c.kd) 64 (pcsB c.ps) ++ flB (flN c.kd) 128 (pksB c.ks) ++ R) (by rw [hs]; simp)
  have a2 := put2 hd hn s (put c.kd.toNat ++ flB (flN c.kd) 1 (ptx c.tk)) (flB (flN c.kd) 4 (ptx c.ky) ++ flB (flN c.kd) 8 (put c.id.toNat) ++ flB (flN c.kd) 16 (put c.n.toNat) ++ flB (flN c.kd) 32 (ptx c.sm) ++ flB (flN c.kd) 64 (pcsB c.ps) ++ flB (flN c.kd) 128 (pksB c.ks) ++ R) (by rw [hs]; simp)
  have a3 := put3 hd hn s (put c.kd.toNat ++ flB (flN c.kd) 1 (ptx c.tk) ++ flB (flN c.kd) 2 (ptx c.bk)) (flB (flN c.kd) 8 (put c.id.toNat) ++ flB (flN c.kd) 16 (put c.n.toNat) ++ flB (flN c.kd) 32 (ptx c.sm) ++ flB (flN c.kd) 64 (pcsB c.ps) ++ flB (flN c.kd) 128 (pksB c.ks) ++ R) (by rw [hs]; simp)
  have a4 := put4 hd hn s (put c.kd.toNat ++ flB (flN c.kd) 1 (ptx c.tk) ++ flB (flN c.kd) 2 (ptx c.bk) ++ flB (flN c.kd) 4 (ptx c.ky)) (flB (flN c.kd) 16 (put c.n.toNat) ++ flB (flN c.kd) 32 (ptx c.sm) ++ flB (flN c.kd) 64 (pcsB c.ps) ++ flB (flN c.kd) 128 (pksB c.ks) ++ R) (by rw [hs]; simp)
  have a5 := put5 hd hn s (put c.kd.toNat ++ flB (flN c.kd) 1 (ptx c.tk) ++ flB (flN c.kd) 2 (ptx c.bk) ++ flB (flN c.kd) 4 (ptx c.ky) ++ flB (flN c.kd) 8 (put c.id.toNat)) (flB (flN c.kd) 32 (ptx c.sm) ++ flB (flN c.kd) 64 (pcsB c.ps) ++ flB (flN c.kd) 128 (pksB c.ks) ++ R) (by rw [hs]; simp)
  have a6 := put6 hd hn s (put c.kd.toNat ++ flB (flN c.kd) 1 (ptx c.tk) ++ flB (flN c.kd) 2 (ptx c.bk) ++ flB (flN c.kd) 4 (ptx c.ky) ++ flB (flN c.kd) 8 (put c.id.toNat) ++ flB (flN c.kd) 16 (put c.n.toNat)) (flB (flN c.kd) 64 (pcsB c.ps) ++ flB (flN c.kd) 128 (pksB c.ks) ++ R) (by rw [hs]; simp)
  have a7 := put7 hd hn s (put c.kd.toNat ++ flB (flN c.kd) 1 (ptx c.tk) ++ flB (flN c.kd) 2 (ptx c.bk) ++ flB (flN c.kd) 4 (ptx c.ky) ++ flB (flN c.kd) 8 (put c.id.toNat) ++ flB (flN c.kd) 16 (put c.n.toNat) ++ flB (flN c.kd) 32 (ptx c.sm)) (flB (flN c.kd) 128 (pksB c.ks) ++ R) (by rw [hs]; simp)
  have a8 := put8 hd hn s (put c.kd.toNat ++ flB (flN c.kd) 1 (ptx c.tk) ++ flB (flN c.kd) 2 (ptx c.bk) ++ flB (flN c.kd) 4 (ptx c.ky) ++ flB (flN c.kd) 8 (put c.id.toNat) ++ flB (flN c.kd) 16 (put c.n.toNat) ++ flB (flN c.kd) 32 (ptx c.sm) ++ flB (flN c.kd) 64 (pcsB c.ps)) (R) (by rw [hs]; simp)
  unfold rdC r0
  simp only
  rw [a0']
  simp only
  rw [hk, a1, a2, a3, a4, a5, a6, a7, a8]
theorem cc_enc {c : Cm} (h : cmOk c = true) : ccOk (cmT c) = true ∧ cdC (cmT c) = c ∧ cdCE (cmT c) = 0 := by
  have he : cmT c = ⟨(cmB c).toArray⟩ := by unfold cmT; rw [if_pos h]
  have hd : (cmT c).data.toList = cmB c := by rw [he]
  have hT := rdC_put h (cmT c) [] (by rw [hd]; simp)
  have hz : (cmT c).size = (cmB c).length := size_of _ _ hd
  have hok : ccOk (cmT c) = true := by
    unfold ccOk
    rw [hT]
    simp only
    rw [h]
    have : endE (cmT c) (((cmB c).length : Nat) : Int) 0 = 0 := by
      unfold endE
      rw [if_neg]
      intro hc
      rw [hz] at hc
      omega
    rw [this]
    rfl
  refine ⟨hok, ?_, ?_⟩
  · unfold cdC
    rw [if_pos hok, hT]
  · unfold cdCE
    rw [if_pos hok]
theorem st_K {s : ByteArray} : ∀ (j : Nat) {a e : Int}, (dcK s j a e).e = 0 → e = 0
  | 0, a, e, h => h
  | j + 1, a, e, h => by simp only [dcK] at h; exact st_N (st_T (st_K j h))
theorem tok_K (s : ByteArray) : ∀ (j a : Nat) (e : Int), (dcK s j (a : Int) e).e = 0 → a ≤ s.size → Tok s a (dcK s j (a : Int) e).a ((dcK s j (a : Int) e).l.flatMap pkB)
  | 0, a, e, h, ha => Tok.refl s a ha
  | j + 1, a, e, h, ha => by
    simp only [dcK] at h ⊢
    have hT := st_K j h
    have hN := st_T hT
    have t1 := tok_N s 100 e a hN
    generalize dcN s 100 (a : Int) e = Y at *
    obtain ⟨ya, ye, yn⟩ := Y
    simp only at *
    have t1' := t1
    obtain ⟨b, rfl, b1, b2, _⟩ := t1'
    have t2 := tok_T s 64 ye b hT
    generalize tS s (b : Int) ye 64 = X at *
    obtain ⟨xa, xe, xx⟩ := X
    simp only at *
    have t2' := t2
    obtain ⟨d, rfl, d1, d2, _⟩ := t2'
    have t3 := tok_K s j d xe h d2
    have := (t1.trans t2).trans t3
    simpa [pkB] using this
theorem tok_RP (s : ByteArray) (a : Nat) (e : Int) (h : (rdP s (a : Int) e).e = 0) : Tok s a (rdP s (a : Int) e).a (pcsB (rdP s (a : Int) e).l) ∧ e = 0 := by
  unfold rdP at *
  have hN := st_P _ h
  have t1 := tok_N s 512 e a hN
  have e0 := st_N hN
  have hl := dcP_len s (dcN s 512 (a : Int) e).n (dcN s 512 (a : Int) e).a (dcN s 512 (a : Int) e).e
  generalize dcN s 512 (a : Int) e = Y at *
  obtain ⟨ya, ye, yn⟩ := Y
  simp only at *
  have t1' := t1
  obtain ⟨b, rfl, b1, b2, _⟩ := t1'
  have t2 := tok_P s yn b ye h b2
  refine ⟨?_, e0⟩
  have := t1.trans t2
  unfold pcsB
  rw [hl]
  exact this
theorem tok_RK (s : ByteArray) (a : Nat) (e : Int) (h : (rdK s (a : Int) e).e = 0) : Tok s a (rdK s (a : Int) e).a (pksB (rdK s (a : Int) e).l) ∧ e = 0 := by
  unfold rdK at *
  have hN := st_K _ h
  have t1 := tok_N s 100 e a hN
  have e0 := st_N hN
  have hl := dcK_len s (dcN s 100 (a : Int) e).n (dcN s 100 (a : Int) e).a (dcN s 100 (a : Int) e).e
  generalize dcN s 100 (a : Int) e = Y at *
  obtain ⟨ya, ye, yn⟩ := Y
  simp only at *
  have t1' := t1
  obtain ⟨b, rfl, b1, b2, _⟩ := t1'
  have t2 := tok_K s yn b ye h b2
  refine ⟨?_, e0⟩
  have := t1.trans t2
  unfold pksB
  rw [hl]
  exact this
theorem one1 (s : ByteArray) (h : Int) (r : CrR) (a : Nat) (ha : r.a = (a : Int)) (hz : a ≤ s.size) (he : (s1 s h r).e = 0) : Tok s a (s1 s h r).a (flB h 1 (ptx (s1 s h r).c.tk)) ∧ r.e = 0 := by
  unfold s1 flB at *
  by_cases hf : hasF h 1 = true
  · rw [if_pos hf] at he
    rw [if_pos hf, if_pos hf]
    simp only at he ⊢
    rw [ha] at he ⊢
    have hh := he
    refine ⟨?_, st_T hh⟩
    exact tok_T s 1024 r.e a hh
  · rw [if_neg hf] at he
    rw [if_neg hf, if_neg hf]
    exact ⟨by rw [ha]; exact Tok.refl s a hz, he⟩
theorem keep1 (s : ByteArray) (h : Int) (r : CrR) : (s1 s h r).c.kd = r.c.kd ∧ (s1 s h r).c.bk = r.c.bk ∧ (s1 s h r).c.ky = r.c.ky ∧ (s1 s h r).c.id = r.c.id ∧ (s1 s h r).c.n = r.c.n ∧ (s1 s h r).c.sm = r.c.sm ∧ (s1 s h r).c.ps = r.c.ps ∧ (s1 s h r).c.ks = r.c.ks := by
  unfold s1
  split <;> exact ⟨rfl, rfl, rfl, rfl, rfl, rfl, rfl, rfl⟩
theorem one2 (s : ByteArray) (h : Int) (r : CrR) (a : Nat) (ha : r.a = (a : Int)) (hz : a ≤ s.size) (he : (s2 s h r).e = 0) : Tok s a (s2 s h r).a (flB h 2 (ptx (s2 s h r).c.bk)) ∧ r.e = 0 := by
  unfold s2 flB at *
  by_cases hf : hasF h 2 = true
  · rw [if_pos hf] at he
    rw [if_pos hf, if_pos hf]
    simp only at he ⊢
    rw [ha] at he ⊢
    have hh := he
    refine ⟨?_, st_T hh⟩
    exact tok_T s 1024 r.e a hh
  · rw [if_neg hf] at he
    rw [if_neg hf, if_neg hf]
    exact ⟨by rw [ha]; exact Tok.refl s a hz, he⟩
theorem keep2 (s : ByteArray) (h : Int) (r : CrR) : (s2 s h r).c.kd = r.c.kd ∧ (s2 s h r).c.tk = r.c.tk ∧ (s2 s h r).c.ky = r.c.ky ∧ (s2 s h r).c.id = r.c.id ∧ (s2 s h r).c.n = r.c.n ∧ (s2 s h r).c.sm = r.c.sm ∧ (s2 s h r).c.ps = r.c.ps ∧ (s2 s h r).c.ks = r.c.ks := by
  unfold s2
  split <;> exact ⟨rfl, rfl, rfl, rfl, rfl, rfl, rfl, rfl⟩
theorem one3 (s : ByteArray) (h : Int) (r : CrR) (a : Nat) (ha : r.a = (a : Int)) (hz : a ≤ s.size) (he : (s3 s h r).e = 0) : Tok s a (s3 s h r).a (flB h 4 (ptx (s3 s h r).c.ky)) ∧ r.e = 0 := by
  unfold s3 flB at *
  by_cases hf : hasF h 4 = true
  · rw [if_pos hf] at he
    rw [if_pos hf, if_pos hf]
    simp only at he ⊢
    rw [ha] at he ⊢
    have hh := he
    refine ⟨?_, st_T hh⟩
    exact tok_T s 1024 r.e a hh
  · rw [if_neg hf] at he
    rw [if_neg hf, if_neg hf]
    exact ⟨by rw [ha]; exact Tok.refl s a hz, he⟩
theorem keep3 (s : ByteArray) (h : Int) (r : CrR) : (s3 s h r).c.kd = r.c.kd ∧ (s3 s h r).c.tk = r.c.tk ∧ (s3 s h r).c.bk = r.c.bk ∧ (s3 s h r).c.id = r.c.id ∧ (s3 s h r).c.n = r.c.n ∧ (s3 s h r).c.sm = r.c.sm ∧ (s3 s h r).c.ps = r.c.ps ∧ (s3 s h r).c.ks = r.c.ks := by
  unfold s3
  split <;> exact ⟨rfl, rfl, rfl, rfl, rfl, rfl, rfl, rfl⟩
theorem one4 (s : ByteArray) (h : Int) (r : CrR) (a : Nat) (ha : r.a = (a : Int)) (hz : a ≤ s.size) (he : (s4 s h r).e = 0) : Tok s a (s4 s h r).a (flB h 8 (put (s4 s h r).c.id.toNat)) ∧ r.e = 0 := by
  unfold s4 flB at *
  by_cases hf : hasF h 8 = true
  · rw [if_pos hf] at he
    rw [if_pos hf, if_pos hf]
    simp only at he ⊢
    rw [ha] at he ⊢
    have hh := he
    refine ⟨?_, st_N hh⟩
    rw [Int.toNat_natCast]
    exact tok_N s 1099511627776 r.e a hh
  · rw [if_neg hf] at he
    rw [if_neg hf, if_neg hf]
    exact ⟨by rw [ha]; exact Tok.refl s a hz, he⟩
theorem keep4 (s : ByteArray) (h : Int) (r : CrR) : (s4 s h r).c.kd = r.c.kd ∧ (s4 s h r).c.tk = r.c.tk ∧ (s4 s h r).c.bk = r.c.bk ∧ (s4 s h r).c.ky = r.c.ky ∧ (s4 s h r).c.n = r.c.n ∧ (s4 s h r).c.sm = r.c.sm ∧ (s4 s h r).c.ps = r.c.ps ∧ (s4 s h r).c.ks = r.c.ks := by
  unfold s4
  split <;> exact ⟨rfl, rfl, rfl, rfl, rfl, rfl, rfl, rfl⟩
theorem one5 (s : ByteArray) (h : Int) (r : CrR) (a : Nat) (ha : r.a = (a : Int)) (hz : a ≤ s.size) (he : (s5 s h r).e = 0) : Tok s a (s5 s h r).a (flB h 16 (put (s5 s h r).c.n.toNat)) ∧ r.e = 0 := by
  unfold s5 flB at *
  by_cases hf : hasF h 16 = true
  · rw [if_pos hf] at he
    rw [if_pos hf, if_pos hf]
    simp only at he ⊢
    rw [ha] at he ⊢
    have hh := he
    refine ⟨?_, st_N hh⟩
    rw [Int.toNat_natCast]
    exact tok_N s 100 r.e a hh
  · rw [if_neg hf] at he
    rw [if_neg hf, if_neg hf]
    exact ⟨by rw [ha]; exact Tok.refl s a hz, he⟩
theorem keep5 (s : ByteArray) (h : Int) (r : CrR) : (s5 s h r).c.kd = r.c.kd ∧ (s5 s h r).c.tk = r.c.tk ∧ (s5 s h r).c.bk = r.c.bk ∧ (s5 s h r).c.ky = r.c.ky ∧ (s5 s h r).c.id = r.c.id ∧ (s5 s h r).c.sm = r.c.sm ∧ (s5 s h r).c.ps = r.c.ps ∧ (s5 s h r).c.ks = r.c.ks := by
  unfold s5
  split <;> exact ⟨rfl, rfl, rfl, rfl, rfl, rfl, rfl, rfl⟩
theorem one6 (s : ByteArray) (h : Int) (r : CrR) (a : Nat) (ha : r.a = (a : Int)) (hz : a ≤ s.size) (he : (s6 s h r).e = 0) : Tok s a (s6 s h r).a (flB h 32 (ptx (s6 s h r).c.sm)) ∧ r.e = 0 := by
  unfold s6 flB at *
  by_cases hf : hasF h 32 = true
  · rw [if_pos hf] at he
    rw [if_pos hf, if_pos hf]
    simp only at he ⊢
    rw [ha] at he ⊢
    have hh := he
    refine ⟨?_, st_T hh⟩
    exact tok_T s 64 r.e a hh
  · rw [if_neg hf] at he
    rw [if_neg hf, if_neg hf]
    exact ⟨by rw [ha]; exact Tok.refl s a hz, he⟩
theorem keep6 (s : ByteArray) (h : Int) (r : CrR) : (s6 s h r).c.kd = r.c.kd ∧ (s6 s h r).c.tk = r.c.tk ∧ (s6 s h r).c.bk = r.c.bk ∧ (s6 s h r).c.ky = r.c.ky ∧ (s6 s h r).c.id = r.c.id ∧ (s6 s h r).c.n = r.c.n ∧ (s6 s h r).c.ps = r.c.ps ∧ (s6 s h r).c.ks = r.c.ks := by
  unfold s6
  split <;> exact ⟨rfl, rfl, rfl, rfl, rfl, rfl, rfl, rfl⟩
theorem one7 (s : ByteArray) (h : Int) (r : CrR) (a : Nat) (ha : r.a = (a : Int)) (hz : a ≤ s.size) (he : (s7 s h r).e = 0) : Tok s a (s7 s h r).a (flB h 64 (pcsB (s7 s h r).c.ps)) ∧ r.e = 0 := by
  unfold s7 flB at *
  by_cases hf : hasF h 64 = true
  · rw [if_pos hf] at he
    rw [if_pos hf, if_pos hf]
    simp only at he ⊢
    rw [ha] at he ⊢
    have hh := he
    refine ⟨?_, (tok_RP s a r.e hh).2⟩
    exact (tok_RP s a r.e hh).1
  · rw [if_neg hf] at he
    rw [if_neg hf, if_neg hf]
    exact ⟨by rw [ha]; exact Tok.refl s a hz, he⟩
theorem keep7 (s : ByteArray) (h : Int) (r : CrR) : (s7 s h r).c.kd = r.c.kd ∧ (s7 s h r).c.tk = r.c.tk ∧ (s7 s h r).c.bk = r.c.bk ∧ (s7 s h r).c.ky = r.c.ky ∧ (s7 s h r).c.id = r.c.id ∧ (s7 s h r).c.n = r.c.n ∧ (s7 s h r).c.sm = r.c.sm ∧ (s7 s h r).c.ks = r.c.ks := by
  unfold s7
  split <;> exact ⟨rfl, rfl, rfl, rfl, rfl, rfl, rfl, rfl⟩
theorem one8 (s : ByteArray) (h : Int) (r : CrR) (a : Nat) (ha : r.a = (a : Int)) (hz : a ≤ s.size) (he : (s8 s h r).e = 0) : Tok s a (s8 s h r).a (flB h 128 (pksB (s8 s h r).c.ks)) ∧ r.e = 0 := by
  unfold s8 flB at *
  by_cases hf : hasF h 128 = true
  · rw [if_pos hf] at he
    rw [if_pos hf, if_pos hf]
    simp only at he ⊢
    rw [ha] at he ⊢
    have hh := he
    refine ⟨?_, (tok_RK s a r.e hh).2⟩
    exact (tok_RK s a r.e hh).1
  · rw [if_neg hf] at he
    rw [if_neg hf, if_neg hf]
    exact ⟨by rw [ha]; exact Tok.refl s a hz, he⟩
theorem keep8 (s : ByteArray) (h : Int) (r : CrR) : (s8 s h r).c.kd = r.c.kd ∧ (s8 s h r).c.tk = r.c.tk ∧ (s8 s h r).c.bk = r.c.bk ∧ (s8 s h r).c.ky = r.c.ky ∧ (s8 s h r).c.id = r.c.id ∧ (s8 s h r).c.n = r.c.n ∧ (s8 s h r).c.sm = r.c.sm ∧ (s8 s h r).c.ps = r.c.ps := by
  unfold s8
  split <;> exact ⟨rfl, rfl, rfl, rfl, rfl, rfl, rfl, rfl⟩
theorem er1 (s : ByteArray) (h : Int) (r : CrR) (he : (s1 s h r).e = 0) : r.e = 0 := by
  unfold s1 at he
  split at he
  · simp only at he
    exact st_T he
  · exact he
theorem er2 (s : ByteArray) (h : Int) (r : CrR) (he : (s2 s h r).e = 0) : r.e = 0 := by
  unfold s2 at he
  split at he
  · simp only at he
    exact st_T he
  · exact he
theorem er3 (s : ByteArray) (h : Int) (r : CrR) (he : (s3 s h r).e = 0) : r.e = 0 := by
  unfold s3 at he
  split at he
  · simp only at he
    exact st_T he
  · exact he
theorem er4 (s : ByteArray) (h : Int) (r : CrR) (he : (s4 s h r).e = 0) : r.e = 0 := by
  unfold s4 at he
  split at he
  · simp only at he
    exact st_N he
  · exact he
theorem er5 (s : ByteArray) (h : Int) (r : CrR) (he : (s5 s h r).e = 0) : r.e = 0 := by
  unfold s5 at he
  split at he
  · simp only at he
    exact st_N he
  · exact he
theorem er6 (s : ByteArray) (h : Int) (r : CrR) (he : (s6 s h r).e = 0) : r.e = 0 := by
  unfold s6 at he
  split at he
  · simp only at he
    exact st_T he
  · exact he
theorem er7 (s : ByteArray) (h : Int) (r : CrR) (he : (s7 s h r).e = 0) : r.e = 0 := by
  unfold s7 at he
  split at he
  · simp only [rdP] at he
    exact st_N (st_P _ he)
  · exact he
theorem er8 (s : ByteArray) (h : Int) (r : CrR) (he : (s8 s h r).e = 0) : r.e = 0 := by
  unfold s8 at he
  split at he
  · simp only [rdK] at he
    exact st_N (st_K _ he)
  · exact he
theorem cc_one {t : ByteArray} (h : ccOk t = true) : cmOk (cdC t) = true ∧ cmT (cdC t) = t := by
  have hv : cdC t = (rdC t 0 0).c := by unfold cdC; rw [if_pos h]
  unfold ccOk at h
  rw [Bool.and_eq_true] at h
  obtain ⟨h1, h2⟩ := h
  have h1 := beq_iff_eq.1 h1
  rw [hv]
  refine ⟨h2, ?_⟩
  unfold cmT
  rw [if_pos h2]
  unfold endE at h1
  split at h1
  · cases h1
  · rename_i hc
    have hh : (rdC t 0 0).e = 0 := h1
    have T0 : Tok t 0 (rdC t 0 0).a (cmB (rdC t 0 0).c) := by
      unfold rdC at hh ⊢
      simp only at hh ⊢
      generalize hfl : flN ((dcN t 10 0 0).n : Int) = fl at *
      obtain ⟨q0, hq0⟩ : ∃ q, q = (r0 t 0 0) := ⟨_, rfl⟩
      obtain ⟨q1, hq1⟩ : ∃ q, q = s1 t fl q0 := ⟨_, rfl⟩
      obtain ⟨q2, hq2⟩ : ∃ q, q = s2 t fl q1 := ⟨_, rfl⟩
      obtain ⟨q3, hq3⟩ : ∃ q, q = s3 t fl q2 := ⟨_, rfl⟩
      obtain ⟨q4, hq4⟩ : ∃ q, q = s4 t fl q3 := ⟨_, rfl⟩
      obtain ⟨q5, hq5⟩ : ∃ q, q = s5 t fl q4 := ⟨_, rfl⟩
      obtain ⟨q6, hq6⟩ : ∃ q, q = s6 t fl q5 := ⟨_, rfl⟩
      obtain ⟨q7, hq7⟩ : ∃ q, q = s7 t fl q6 := ⟨_, rfl⟩
      obtain ⟨q8, hq8⟩ : ∃ q, q = s8 t fl q7 := ⟨_, rfl⟩
      have hw : (s8 t fl (s7 t fl (s6 t fl (s5 t fl (s4 t fl (s3 t fl (s2 t fl (s1 t fl (r0 t 0 0))))))))) = q8 := by rw [hq8, hq7, hq6, hq5, hq4, hq3, hq2, hq1, hq0]
      rw [hw] at hh ⊢
      have e7 : q7.e = 0 := er8 t fl q7 (by rw [← hq8]; exact hh)
      have e6 : q6.e = 0 := er7 t fl q6 (by rw [← hq7]; exact e7)
      have e5 : q5.e = 0 := er6 t fl q5 (by rw [← hq6]; exact e6)
      have e4 : q4.e = 0 := er5 t fl q4 (by rw [← hq5]; exact e5)
      have e3 : q3.e = 0 := er4 t fl q3 (by rw [← hq4]; exact e4)
      have e2 : q2.e = 0 := er3 t fl q2 (by rw [← hq3]; exact e3)
      have e1 : q1.e = 0 := er2 t fl q1 (by rw [← hq2]; exact e2)
      have e0 : q0.e = 0 := er1 t fl q0 (by rw [← hq1]; exact e1)
      have hr0 : q0.a = (dcN t 10 0 0).a ∧ q0.e = (dcN t 10 0 0).e ∧ q0.c.kd = ((dcN t 10 0 0).n : Int) := by rw [hq0]; exact ⟨rfl, rfl, rfl⟩
      have t0 := tok_N t 10 0 0 (by show (dcN t 10 0 0).e = 0; rw [← hr0.2.1]; exact e0)
      rw [show ((0 : Nat) : Int) = 0 from rfl, ← hr0.1] at t0
      obtain ⟨p0, hp0, l0, z0, _⟩ := id t0
      have t1 := (one1 t fl q0 p0 hp0 z0 (by rw [← hq1]; exact e1)).1
      rw [← hq1] at t1
      have T1 := Tok.trans (by rw [hp0] at t0; exact t0) t1
      obtain ⟨p1, hp1, l1, z1, _⟩ := id t1
      have k1 := keep1 t fl q0
      rw [← hq1] at k1
      have t2 := (one2 t fl q1 p1 hp1 z1 (by rw [← hq2]; exact e2)).1
      rw [← hq2] at t2
      have T2 := Tok.trans (by rw [hp1] at T1; exact T1) t2
      obtain ⟨p2, hp2, l2, z2, _⟩ := id t2
      have k2 := keep2 t fl q1
      rw [← hq2] at k2
      have t3 := (one3 t fl q2 p2 hp2 z2 (by rw [← hq3]; exact e3)).1
      rw [← hq3] at t3
      have T3 := Tok.trans (by rw [hp2] at T2; exact T2) t3
      obtain ⟨p3, hp3, l3, z3, _⟩ := id t3
      have k3 := keep3 t fl q2
      rw [← hq3] at k3
      have t4 := (one4 t fl q3 p3 hp3 z3 (by rw [← hq4]; exact e4)).1
      rw [← hq4] at t4
      have T4 := Tok.trans (by rw [hp3] at T3; exact T3) t4
      obtain ⟨p4, hp4, l4, z4, _⟩ := id t4
      have k4 := keep4 t fl q3
      rw [← hq4] at k4
      have t5 := (one5 t fl q4 p4 hp4 z4 (by rw [← hq5]; exact e5)).1
      rw [← hq5] at t5
      have T5 := Tok.trans (by rw [hp4] at T4; exact T4) t5
      obtain ⟨p5, hp5, l5, z5, _⟩ := id t5
      have k5 := keep5 t fl q4
      rw [← hq5] at k5
      have t6 := (one6 t fl q5 p5 hp5 z5 (by rw [← hq6]; exact e6)).1
      rw [← hq6] at t6
      have T6 := Tok.trans (by rw [hp5] at T5; exact T5) t6
      obtain ⟨p6, hp6, l6, z6, _⟩ := id t6
      have k6 := keep6 t fl q5
      rw [← hq6] at k6
      have t7 := (one7 t fl q6 p6 hp6 z6 (by rw [← hq7]; exact e7)).1
      rw [← hq7] at t7
      have T7 := Tok.trans (by rw [hp6] at T6; exact T6) t7
      obtain ⟨p7, hp7, l7, z7, _⟩ := id t7
      have k7 := keep7 t fl q6
      rw [← hq7] at k7
      have t8 := (one8 t fl q7 p7 hp7 z7 (by rw [← hq8]; exact hh)).1
      rw [← hq8] at t8
      have T8 := Tok.trans (by rw [hp7] at T7; exact T7) t8
      obtain ⟨p8, hp8, l8, z8, _⟩ := id t8
      have k8 := keep8 t fl q7
      rw [← hq8] at k8
      have v1 : q8.c.tk = q1.c.tk := by rw [k8.2.1, k7.2.1, k6.2.1, k5.2.1, k4.2.1, k3.2.1, k2.2.1]
      have v2 : q8.c.bk = q2.c.bk := by rw [k8.2.2.1, k7.2.2.1, k6.2.2.1, k5.2.2.1, k4.2.2.1, k3.2.2.1]
      have v3 : q8.c.ky = q3.c.ky := by rw [k8.2.2.2.1, k7.2.2.2.1, k6.2.2.2.1, k5.2.2.2.1, k4.2.2.2.1]
      have v4 : q8.c.id = q4.c.id := by rw [k8.2.2.2.2.1, k7.2.2.2.2.1, k6.2.2.2.2.1, k5.2.2.2.2.1]
      have v5 : q8.c.n = q5.c.n := by rw [k8.2.2.2.2.2.1, k7.2.2.2.2.2.1, k6.2.2.2.2.2.1]
      have v6 : q8.c.sm = q6.c.sm := by rw [k8.2.2.2.2.2.2.1, k7.2.2.2.2.2.2.1]
      have v7 : q8.c.ps = q7.c.ps := by rw [k8.2.2.2.2.2.2.2]
      have vk : q8.c.kd = ((dcN t 10 0 0).n : Int) := by rw [k8.1, k7.1, k6.1, k5.1, k4.1, k3.1, k2.1, k1.1, hr0.2.2]
      unfold cmB
      rw [vk, hfl, v1, v2, v3, v4, v5, v6, v7, Int.toNat_natCast]
      exact T8
    obtain ⟨c, hc1, c1, c2, c3⟩ := T0
    have hcs : c = t.size := by
      have : ¬ ((rdC t 0 0).e = 0 ∧ (rdC t 0 0).a < (t.size : Int)) := hc
      have := fun hx => this ⟨hh, hx⟩
      omega
    rw [hcs] at c3
    have e2 : t.data.toList = cmB (rdC t 0 0).c := by
      rw [← c3, Nat.sub_zero, List.drop_zero, List.take_of_length_le (by simp)]
    rw [← e2]
end Go.Proofs.YtmadlnchmkhdjaaGreat
