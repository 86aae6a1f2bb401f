/- Two appends in one: append(append([]Packet{}, l...), p). -/
import Derived.Test.YtfcchmjofejkhaaRNetA
namespace Go.Proofs.Ytfcchmjofejkhaa
open Go.RowKit Go.Maps
set_option linter.unusedVariables false
set_option linter.unusedSimpArgs false

def oE : Obj := .cells #[] 58
def oX (x : Pk) : Obj := .cells #[.int .i64 x.fr, .int .i64 x.tt, .string x.s] 58
/-- what the two appends want and give, whatever order their parts stand in -/
structure Ap2 (B : World) (lv : Value) (L : List Pk) (x : Pk) : Prop where
  oA : (B.alloc oE).ownsRow B.heap.size 58 3 (.slice (some ⟨B.heap.size, 0, none⟩) 0 0) 0 []
  oB : ((B.alloc oE).alloc (oX x)).ownsRow B.heap.size 58 3 (.slice (some ⟨B.heap.size, 0, none⟩) 0 0) 0 []
  oC : ((B.alloc (oX x)).alloc oE).ownsRow B.heap.size 58 3 (.slice (some ⟨B.heap.size + 1, 0, none⟩) 0 0) 0 []
  sA : B.heap.size ≤ (B.alloc oE).heap.size
  sB : B.heap.size ≤ ((B.alloc oE).alloc (oX x)).heap.size
  sC : B.heap.size ≤ ((B.alloc (oX x)).alloc oE).heap.size
  gA : GSrc (B.alloc oE) lv L.length (pks L)
  gB : GSrc ((B.alloc oE).alloc (oX x)) lv L.length (pks L)
  gC : GSrc ((B.alloc (oX x)).alloc oE) lv L.length (pks L)
  fA : ∀ (ad1 : Option Addr) (cap1 : Nat) w2, w2.ownsRow B.heap.size 58 3 (.slice ad1 L.length cap1) L.length ([] ++ pks L) → Keep (fun k => (Value.slice (some ⟨B.heap.size, 0, none⟩) 0 0).ownBlock = some k) (B.alloc oE) w2 → Keep (fun _ => False) B w2 ∧ Keep (fun _ => False) B (w2.alloc (oX x)) ∧ B.heap.size ≤ (w2.alloc (oX x)).heap.size ∧ (w2.alloc (oX x)).ownsRow B.heap.size 58 3 (.slice ad1 L.length cap1) L.length ([] ++ pks L) ∧ GSrc (w2.alloc (oX x)) (.slice (some ⟨w2.heap.size, 0, none⟩) 1 1) 1 (pks [x])
  fB : ∀ (ad1 : Option Addr) (cap1 : Nat) w2, w2.ownsRow B.heap.size 58 3 (.slice ad1 L.length cap1) L.length ([] ++ pks L) → Keep (fun k => (Value.slice (some ⟨B.heap.size, 0, none⟩) 0 0).ownBlock = some k) ((B.alloc oE).alloc (oX x)) w2 → Keep (fun _ => False) B w2 ∧ B.heap.size ≤ w2.heap.size ∧ GSrc w2 (.slice (some ⟨B.heap.size + 1, 0, none⟩) 1 1) 1 (pks [x])
  fC : ∀ (ad1 : Option Addr) (cap1 : Nat) w2, w2.ownsRow B.heap.size 58 3 (.slice ad1 L.length cap1) L.length ([] ++ pks L) → Keep (fun k => (Value.slice (some ⟨B.heap.size + 1, 0, none⟩) 0 0).ownBlock = some k) ((B.alloc (oX x)).alloc oE) w2 → Keep (fun _ => False) B w2 ∧ B.heap.size ≤ w2.heap.size ∧ GSrc w2 (.slice (some ⟨B.heap.size, 0, none⟩) 1 1) 1 (pks [x])
theorem ap2 (B : World) (lv : Value) (L : List Pk) (x : Pk) (h : B.ownsRow 0 58 3 lv L.length (pks L)) : Ap2 B lv L x := by
  have hs1 : (B.alloc oE).heap.size = B.heap.size + 1 := by simp
  have hs2 : (B.alloc (oX x)).heap.size = B.heap.size + 1 := by simp
  have G : ∀ W, Keep (fun _ => False) B W → GSrc W lv L.length (pks L) := fun W k => gsrc_all (k.ownsRow h (fun _ _ h => h))
  have kA := keep_alloc (fun _ => False) B oE
  have kB := kA.trans (keep_alloc (fun _ => False) _ (oX x))
  have kC := (keep_alloc (fun _ => False) B (oX x)).trans (keep_alloc (fun _ => False) _ oE)
  have oA : (B.alloc oE).ownsRow B.heap.size 58 3 (.slice (some ⟨B.heap.size, 0, none⟩) 0 0) 0 [] := own_empty (heap_alloc_new _ _) (Nat.le_refl _)
  refine ⟨oA, (keep_alloc (fun _ => False) _ _).ownsRow oA (fun _ _ h => h), own_empty (by rw [← hs2]; exact heap_alloc_new _ _) (by omega), kA.size, kB.size, kC.size, G _ kA, G _ kB, G _ kC, ?_, ?_, ?_⟩
  · intro ad1 cap1 w2 hr hk
    have k1 : Keep (fun _ => False) B w2 := kA.then hk (fun j hj e => by have e2 := Option.some.inj (show some B.heap.size = some j from e); omega)
    have k2 := k1.trans (keep_alloc (fun _ => False) w2 (oX x))
    exact ⟨k1, k2, k2.size, (keep_alloc (fun _ => False) w2 (oX x)).ownsRow hr (fun _ _ h => h), gsrc_block (heap_alloc_new _ _)⟩
  · intro ad1 cap1 w2 hr hk
    have k1 : Keep (fun _ => False) B w2 := kB.then hk (fun j hj e => by have e2 := Option.some.inj (show some B.heap.size = some j from e); omega)
    refine ⟨k1, k1.size, gsrc_block (e := 58) ((hk.block _ (by simp) (fun e => by have e2 := Option.some.inj (show some B.heap.size = some (B.heap.size + 1) from e); omega)).trans ?_)⟩
    rw [← hs1]; exact heap_alloc_new _ _
  · intro ad1 cap1 w2 hr hk
    have k1 : Keep (fun _ => False) B w2 := kC.then hk (fun j hj e => by have e2 := Option.some.inj (show some (B.heap.size + 1) = some j from e); omega)
    refine ⟨k1, k1.size, gsrc_block (e := 58) ((hk.block _ (by simp; omega) (fun e => by have e2 := Option.some.inj (show some (B.heap.size + 1) = some B.heap.size from e); omega)).trans ?_)⟩
    exact ((keep_alloc (fun _ => False) _ oE).block _ (by simp) (fun h => h)).trans (heap_alloc_new _ _)
end Go.Proofs.Ytfcchmjofejkhaa
