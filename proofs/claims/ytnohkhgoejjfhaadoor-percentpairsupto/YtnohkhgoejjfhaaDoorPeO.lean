/- The small run of layer 18: awake answers true. -/
import Derived.Test.YtnohkhgoejjfhaaDoorPeL
import Derived.Laws.StructEq
namespace Go.Proofs.YtnohkhgoejjfhaaDoor
open Go.RowKit Go.Maps
set_option linter.unusedVariables false
set_option linter.unusedSimpArgs false

set_option maxRecDepth 100000 in
theorem aw18_q : quT [([120, 32, 121], [49, 38, 50]), ([122], [])] = ([120, 37, 50, 48, 121, 61, 49, 37, 50, 54, 50, 38, 122], 0) := by decide +kernel
set_option maxRecDepth 100000 in
theorem aw18_p : escL plP [97, 32, 98, 47, 99] = [97, 37, 50, 48, 98, 47, 99] := by decide +kernel
set_option maxRecDepth 100000 in
theorem aw18_u : unT [97, 43, 98, 61, 37, 52, 49, 38, 99] = ([([97, 32, 98], [65]), ([99], [])], 0) := by decide +kernel
theorem eqlP (X Y A B : ByteArray) (W : World) : (binOp .eql 32 (.agg #[.string X, .string A]) (.agg #[.string Y, .string B])).run Tryd.prog W = .ok (.bool (X.toList == Y.toList && A.toList == B.toList)) W := by
  have u9 := Tryd.underlying9
  have z9 := Tryd.sizeOf9
  have a9 := Tryd.isAgg9
  have hS : Tryd.prog.underlying 32 = some (.struct (Tryd.prog.fieldsOf 32)) := by kernel_rfl
  have hp : Tryd.prog.stoodInHeld 32 = false := by kernel_rfl
  rw [run_eql_struct, show (10000 : Nat) = 9999 + 1 from rfl, run_equalIn_agg W 9999 32 _ _ hS hp]
  simp only [Program.fieldsOf, Tryd.underlying32]
  go_simp
  by_cases h1 : X.toList = Y.toList <;> by_cases h2 : A.toList = B.toList <;> simp [h1, h2]
theorem own_lt1 {w : World} {B e s n g c : Nat} {xs : List Value} (h : w.ownsRow B e s (.slice (some ⟨g, 0, none⟩) n c) n xs) : g < w.heap.size := by
  rcases h.2 with ⟨e0, _⟩ | ⟨g1, c1, cur1, e0, _, hb, _⟩
  · cases e0
  · injection e0 with e1 _ _
    injection e1 with e1
    injection e1 with e1 _ _
    subst e1
    exact (Array.getElem?_eq_some_iff.1 hb).1
theorem guardP : Tryd.prog.eqGuardType Tryd.prog.depth 32 = false := by kernel_rfl

set_option maxRecDepth 100000 in
set_option maxHeartbeats 4000000 in
theorem awake18 (w : World) : Calls Tryd.prog 8 #[] w fun e w' => e = .returned (.bool true) ∧ Below w.heap.size w w' := by
  have QY : Hid (Calls Tryd.prog 15 #[.slice (some ⟨w.heap.size, 0, none⟩) 2 2] (w.alloc (.cells #[.string ⟨#[120, 32, 121]⟩, .string ⟨#[49, 38, 50]⟩, .string ⟨#[122]⟩, .string ⟨#[]⟩] 32)) fun e w' => e = .returned (.tuple #[.string ⟨#[120, 37, 50, 48, 121, 61, 49, 37, 50, 54, 50, 38, 122]⟩, .int .i64 0]) ∧ Below w.heap.size w w') := by
    have hr := srow w (pqC [([120, 32, 121], [49, 38, 50]), ([122], [])]) 32
    have hI : PqI (w.alloc (.cells #[.string ⟨#[120, 32, 121]⟩, .string ⟨#[49, 38, 50]⟩, .string ⟨#[122]⟩, .string ⟨#[]⟩] 32)) (.slice (some ⟨w.heap.size, 0, none⟩) 2 2) [([120, 32, 121], [49, 38, 50]), ([122], [])] :=
      .inr ⟨w.heap.size, 0, 2, rfl, by decide, hr.lt, fun j u hu => by rw [Nat.zero_add]; exact hr.cellAt hu⟩
    have := query_any _ _ _ hI (by decide)
    rw [aw18_q] at this
    exact this.mono fun e w' ⟨he, hb⟩ => ⟨he, below_on (below_al (Below.refl _ _) _) hb⟩
  have UQ : Hid (∀ W, Calls Tryd.prog 18 #[.string ⟨#[97, 43, 98, 61, 37, 52, 49, 38, 99]⟩] W fun e w' => ∃ g cap, e = .returned (.tuple #[.slice (some ⟨g, 0, none⟩) 2 cap, .int .i64 0]) ∧ Hid (g < w'.heap.size ∧ w'.cell? ⟨g, 0, none⟩ = some (.string ⟨#[97, 32, 98]⟩) ∧ w'.cell? ⟨g, 1, none⟩ = some (.string ⟨#[65]⟩) ∧ w'.cell? ⟨g, 2, none⟩ = some (.string ⟨#[99]⟩)) ∧ Below W.heap.size W w') := fun W => by
    have := unquery_any ⟨#[97, 43, 98, 61, 37, 52, 49, 38, 99]⟩ W (by decide)
    rw [aw18_u] at this
    refine this.mono fun e w' ⟨ad, cap, he, ho, hb⟩ => ?_
    obtain ⟨g, cap', e1⟩ := ownsRow_succ (k := 1) ho
    injection e1 with e2 e3 e4
    subst e2
    exact ⟨g, cap, he, ⟨own_lt1 ho, grow_at ho rfl, grow_at ho rfl, grow_at ho rfl⟩, hb⟩
  have PA : Hid (∀ W, Calls Tryd.prog 11 #[.string ⟨#[97, 32, 98, 47, 99]⟩] W fun e w' => e = .returned (.string ⟨#[97, 37, 50, 48, 98, 47, 99]⟩) ∧ Below W.heap.size W w') := fun W => by
    have := ppath_any ⟨#[97, 32, 98, 47, 99]⟩ W (by decide)
    rw [aw18_p] at this
    exact this
  have EQ := fun W => eqlP ⟨#[97, 32, 98]⟩ ⟨#[97, 32, 98]⟩ ⟨#[65]⟩ ⟨#[65]⟩ W
  have gP := guardP
  go_enter Tryd.func8, Tryd.ntmps8
  go_wp2_with fail
  refine QY.out.mono ?_
  rintro e w1 ⟨rfl, b1⟩
  have B1 := hid b1
  clear b1 QY
  go_wp2_with fail
  refine (UQ.out _).mono ?_
  rintro e w2 ⟨g, cap, rfl, C2, b2⟩
  have B2 := hid (below_on B1.out b2)
  clear b2 B1 UQ
  go_wp2_with fail
  refine (PA.out _).mono ?_
  rintro e w3 ⟨rfl, b3⟩
  have B3 := hid (below_on B2.out b3)
  obtain ⟨hg, c0, c1, c2⟩ := C2.out
  have d0 := (b3.cell (p := ⟨g, 0, none⟩) hg).trans c0
  have d1 := (b3.cell (p := ⟨g, 1, none⟩) hg).trans c1
  have d2 := (b3.cell (p := ⟨g, 2, none⟩) hg).trans c2
  clear b3 B2 C2 PA hg c0 c1 c2
  go_wp2
  go_ret
  exact ⟨rfl, B3.out⟩
end Go.Proofs.YtnohkhgoejjfhaaDoor
