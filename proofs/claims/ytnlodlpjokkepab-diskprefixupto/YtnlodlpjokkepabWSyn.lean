/- The walk of the law DiskSynced. -/
import Derived.Test.YtnlodlpjokkepabSynM
import Derived.Test.YtnlodlpjokkepabWChgd
namespace Go.Proofs.Ytnlodlpjokkepab
open Go.RowKit Go.Maps
set_option linter.unusedVariables false
set_option linter.unusedSimpArgs false

theorem left_fresh {w1 wr w2 : World} {c : Nat → Nat} {p : Nat} {d : Ds} (h : Left w1 c p d wr) (k : Keep (fun _ => False) wr w2) : ∃ c2 : Nat → Nat, Left w2 c2 p d w2 ∧ (∀ j, wr.heap.size ≤ j → c2 j = 7) ∧ ∀ d' w', Left w2 c2 p d' w' → Left w1 c p d' w' := by
  obtain ⟨⟨ci, D, hc⟩, K⟩ := h
  have hs2 := k.size
  refine ⟨fun j => if j < wr.heap.size then ci j else 7, left_same (D.keep k (fun j hj => if_pos hj) (fun _ _ h => h.elim)) (Keep.refl _ _), fun j hj => if_neg (by omega), fun d' w' hl => ?_⟩
  obtain ⟨⟨c3, D3, hc3⟩, K3⟩ := hl
  have h3 : Left wr ci p d' w' := by
    refine ⟨⟨c3, D3, fun j hj => ?_⟩, (k.mono (fun _ _ h => h.elim)).then K3 fun j hj e => ?_⟩
    · rw [hc3 j (by omega)]; exact if_pos hj
    · have e' : (if j < wr.heap.size then ci j else 7) < 7 := e
      rw [if_pos hj] at e'
      exact e'
  exact h3.trans hc K
/-- a row that came behind the disk stays -/
theorem fresh_row {B e size n : Nat} {v : Value} {xs : List Value} {w2 W : World} {c2 : Nat → Nat} {p : Nat} {d : Ds} (hr : w2.ownsRow B e size v n xs) (h7 : ∀ j, B ≤ j → c2 j = 7) (hl : Left w2 c2 p d W) : W.ownsRow B e size v n xs :=
  hl.2.ownsRow hr fun g e e2 => by
    rcases hr.2 with ⟨e3, _⟩ | ⟨g', cap, cur, e3, hg', _⟩
    · rw [e3] at e; simp [Value.ownBlock] at e
    · rw [e3] at e; simp [Value.ownBlock] at e
      have := h7 g (by omega)
      omega
theorem row_form {w : World} {B e size n : Nat} {v : Value} {xs : List Value} (h : w.ownsRow B e size v n xs) : ∃ ad cap, v = .slice ad n cap := by
  rcases h.2 with ⟨e, h0⟩ | ⟨g, cap, cur, e, _⟩
  · exact ⟨none, 0, by rw [e, h0]⟩
  · exact ⟨_, _, e⟩
theorem ActsIn.keep {w W : World} {v : Value} {l : List AC} (h : ActsIn w v l) (k : Keep (fun _ => False) w W) : ActsIn W v l := by
  rcases h with h | ⟨g, off, cap, e, hg, hc⟩
  · exact .inl h
  · exact .inr ⟨g, off, cap, e, Nat.lt_of_lt_of_le hg k.size, fun j hj i hi => (k.cell hg (fun h => h)).trans (hc j hj i hi)⟩
/-- the other file's name -/
def nmO : Bs := [111, 116, 104, 101, 114, 45, 102, 105, 108, 101]
theorem nmO_ok : nameOk nmO = true := by decide
theorem nmO_beq (a : Bs) : ((tx a).toList == [111, 116, 104, 101, 114, 45, 102, 105, 108, 101]) = decide (a = nmO) := by
  have := tx_beq a nmO
  rw [ByteArray.toList_eq (tx nmO), tx_list] at this
  exact this

/-- from what is synced to what is up again -/
theorem syn_calls (p : Nat) (d : Ds) (hC : CI d 40 41943080) (hws : d.ws = []) (kp tn : Int) :
    (∀ W c, DiskIs W c p d → Calls Try.prog 17 #[.pointer (some ⟨p, 0, none⟩), .string ⟨#[111, 116, 104, 101, 114, 45, 102, 105, 108, 101]⟩, .string ⟨#[120]⟩] W fun e w' => e = .returned (.int .i64 0) ∧ Left W c p (oneD d nmO [120]) w') ∧
    (∀ W c, DiskIs W c p (oneD d nmO [120]) → Calls Try.prog 17 #[.pointer (some ⟨p, 0, none⟩), .string ⟨#[111, 116, 104, 101, 114, 45, 102, 105, 108, 101]⟩, .string ⟨#[121]⟩] W fun e w' => e = .returned (.int .i64 0) ∧ Left W c p (twoD d nmO [120] [121]) w') ∧
    (∀ W c, DiskIs W c p (twoD d nmO [120] [121]) → Calls Try.prog 18 #[.pointer (some ⟨p, 0, none⟩), .int .i64 kp, .int .i64 tn] W fun e w' => e = .returned (.tuple #[]) ∧ Left W c p (failD (twoD d nmO [120] [121]) kp tn) w') ∧
    (∀ W c, DiskIs W c p (failD (twoD d nmO [120] [121]) kp tn) → Calls Try.prog 19 #[.pointer (some ⟨p, 0, none⟩)] W fun e w' => e = .returned (.bool true) ∧ Left W c p (upD (twoD d nmO [120] [121]) kp tn) w') := by
  have e1 : ({ d.more ⟨0, nmO, [], [120], 0⟩ with n := d.n + 1 } : Ds) = oneD d nmO [120] := by simp [Ds.more, oneD, hws]
  have e2 : ({ (oneD d nmO [120]).more ⟨0, nmO, [], [121], 0⟩ with n := (oneD d nmO [120]).n + 1 } : Ds) = twoD d nmO [120] [121] := rfl
  have a1 := app_calm hC nmO [120] nmO_ok
  have h1 := hC.app nmO [120] nmO_ok
  rw [e1] at a1 h1
  have a2 := app_calm h1 nmO [121] nmO_ok
  have h2 := h1.app nmO [121] nmO_ok
  rw [e2] at a2 h2
  have w0 := hC.wt
  have w1 := h1.wt
  have w2 := h2.wt
  have n0 := hC.n
  have n1 := h1.n
  have l1 : ([120] : Bs).length = 1 := rfl
  have l2 : ([121] : Bs).length = 1 := rfl
  have l3 : nmO.length = 10 := rfl
  rw [l1] at w1 w2
  rw [l2] at w2
  refine ⟨fun W c h => ?_, fun W c h => ?_, fun W c h => ?_, fun W c h => ?_⟩
  · have := append_any p c d nmO [120] W h (by omega) (by omega)
    rw [a1] at this
    exact this
  · have := append_any p c (oneD d nmO [120]) nmO [121] W h (by omega) (by omega)
    rw [a2] at this
    exact this
  · exact fail_any p c _ kp tn W h (by omega)
  · have := up_any p c _ W h
    have e : (failD (twoD d nmO [120] [121]) kp tn).dn = true := by unfold failD; rw [if_neg (by rw [h2.calm.dn]; decide)]
    rw [e] at this
    exact this
end Go.Proofs.Ytnlodlpjokkepab
