/- The walks of a map's copy, and of files that are the same. -/
import Derived.Test.YtefbioainibmaaaGreatDoorJoined14
import Derived.Shelf.SlMaps.Clone
namespace Go.Proofs.YtefbioainibmaaaGreatDoor
open Go.RowKit Go.Maps
set_option linter.unusedVariables false

set_option maxRecDepth 100000 in
theorem clone_some (b : Nat) (es : Array MapEntry) (clock : Nat) (w : World) (hb : w.heap[b]? = some (.map es clock)) :
    Calls Tryz.prog 117 #[.map (some b)] w fun e w' => e = .returned (.map (some w.heap.size)) ∧ w' = w.alloc (.map es clock) := by
  have he := eql_map_nil w (some b)
  go_enter Tryz.func117, Tryz.ntmps117
  go_wp2
  rw [run_callFunc_extern Tryz.func152 (by kernel_rfl) (by kernel_rfl) (by kernel_rfl) (e := Extern.MapsClone.clone) (by kernel_rfl), run_maps_clone_sl w 118 hb]
  simp only [Result.andThen]
  rw [Oper.upon_value]
  go_wp2
  rw [run_typeAssert_map_sl _ 118 20 _ _ _ Tryz.underlying118]
  simp only [Result.andThen]
  rw [Oper.upon_value]
  go_wp2
  go_ret
  exact ⟨rfl, rfl⟩
set_option maxRecDepth 100000 in
theorem clone_none (w : World) : Calls Tryz.prog 117 #[.map none] w fun e w' => e = .returned (.map none) ∧ w' = w := by
  have he := eql_map_nil w none
  go_enter Tryz.func117, Tryz.ntmps117
  go_wp2
  go_ret
  exact ⟨rfl, rfl⟩

/-- a map's copy -/
theorem clone_map (mo : Option Nat) (L : List (Bs × Value)) (w : World) (h : MapV w mo L) :
    Calls Tryz.prog 117 #[.map mo] w fun e w' => ∃ mo', e = .returned (.map mo') ∧ MapV w' mo' L ∧ Keep (fun _ => False) w w' ∧ (∀ b, mo' = some b → b = w.heap.size) := by
  rcases h with ⟨rfl, rfl⟩ | ⟨b, rfl, h⟩
  · refine (clone_none w).mono fun e w' ⟨he, hw⟩ => ⟨none, he, .inl ⟨rfl, rfl⟩, ?_, fun b e => by cases e⟩
    subst hw; exact Keep.refl _ _
  · obtain ⟨es, clock, hb, F, hs, hD⟩ := h
    refine (clone_some b es clock w hb).mono fun e w' ⟨he, hw⟩ => ⟨some w.heap.size, he, .inr ⟨_, rfl, ?_⟩, ?_, fun b e => by injection e with e; exact e.symm⟩
    · subst hw; exact ⟨es, clock, (MapKept.heap_alloc w _).1, F, hs, hD⟩
    · subst hw; exact keep_alloc _ _ _

set_option maxRecDepth 100000 in
set_option maxHeartbeats 1000000 in
theorem fsame_any (pb po : Nat) (cs : List Value) (t : TypeId) (mo : Option Nat) (u : Int) (L : List (Bs × Value)) (w : World) (hrow : RowIs w pb cs t) (h0 : cs[po]? = some (.map mo)) (h1 : cs[po + 1]? = some (.int .i64 u)) (hm : MapV w mo L) :
    Calls Tryz.prog 71 #[.pointer (some ⟨pb, po, none⟩)] w fun e w' => ∃ mo', e = .returned (.agg #[.map mo', .int .i64 u]) ∧ MapV w' mo' L ∧ Keep (fun _ => False) w w' ∧ (∀ b, mo' = some b → w.heap.size ≤ b) := by
  have k0 := hrow.cellAt h0
  have k1 := hrow.cellAt h1
  have hlt := hrow.lt
  obtain ⟨X, hX⟩ : ∃ X, X = Obj.cells #[.map none, .int .i64 0] 120 := ⟨_, rfl⟩
  have ka := keep_alloc (fun _ => False) w X
  have c0 := (hrow.keep ka (fun h => h)).cellAt h0
  have c1 := (hrow.keep ka (fun h => h)).cellAt h1
  have hra : RowIs (w.alloc X) w.heap.size [.map none, .int .i64 0] 120 := by subst hX; exact heap_alloc_new _ _
  have HC : Hid (∀ W, Keep (fun _ => False) (w.alloc X) W → Calls Tryz.prog 117 #[.map mo] W fun e w' => ∃ mo', e = .returned (.map mo') ∧ (w'.cell? ⟨pb, po, none⟩ = some (.map mo) ∧ w'.cell? ⟨pb, po + 1, none⟩ = some (.int .i64 u) ∧ w'.cell? ⟨w.heap.size, 0, none⟩ = some (.map none) ∧ w'.cell? ⟨w.heap.size, 1, none⟩ = some (.int .i64 0)) ∧ w'.frozen? ⟨w.heap.size, 0, none⟩ = false ∧ w'.frozen? ⟨w.heap.size, 1, none⟩ = false ∧
      RowIs w' w.heap.size [.map none, .int .i64 0] 120 ∧ MapV w' mo' L ∧ Keep (fun _ => False) w w' ∧ (∀ b, mo' = some b → w.heap.size < b)) := by
    intro W hW
    have kW := ka.trans hW
    refine (clone_map mo L W (kW.mapV hm (fun _ _ h => h))).mono fun e w' ⟨mo', he, hm', hk, hb⟩ => ⟨mo', he, ?_, ?_, ?_, ?_, hm', kW.trans hk, fun b e => ?_⟩
    · have hr1 := hrow.keep (kW.trans hk) (fun h => h)
      have hr2 := hra.keep (hW.trans hk) (fun h => h)
      exact ⟨hr1.cellAt h0, hr1.cellAt h1, hr2.cellAt rfl, hr2.cellAt rfl⟩
    · exact (hra.keep (hW.trans hk) (fun h => h)).frozen
    · exact (hra.keep (hW.trans hk) (fun h => h)).frozen
    · exact hra.keep (hW.trans hk) (fun h => h)
    · have h1 := hb b e
      have h2 := hW.size
      simp at h2
      omega
  have HK1 : Hid (Keep (fun _ => False) (w.alloc X) (w.alloc X)) := Keep.refl _ _
  have HK2 : Hid (Keep (fun _ => False) (w.alloc X) (w.alloc X).drew) := keep_drew _ _
  have hne : pb ≠ w.heap.size := by omega
  have hne2 : w.heap.size ≠ pb := by omega
  have r0 := hra.cellAt (o := 0) rfl
  have r1 := hra.cellAt (o := 1) rfl
  subst hX
  clear hrow h0 h1 hm ka hlt hra k0 k1
  go_enter Tryz.func71, Tryz.ntmps71
  go_wp2
  go_region_held3 (fun w' => w'.cell? ⟨pb, po, none⟩ = some (.map mo) ∧ w'.cell? ⟨pb, po + 1, none⟩ = some (.int .i64 u)) (first | exact ⟨c0, c1⟩ | (refine ⟨?_, ?_⟩ <;> assumption) | go_keep) (first | (go_at_call 117; with_reducible (refine (HC.out _ ?_).mono ?_); (first | exact HK1.out | exact HK2.out); rintro e w2 ⟨mo2, rfl, ⟨d0, d1, d2, d3⟩, hf0, hf1, hr2, hm2, hk2, hb2⟩))
  all_goals
    have HR3 : Hid (RowIs ((w2.setCell ⟨w.heap.size, 0, none⟩ (.map mo2)).setCell ⟨w.heap.size, 1, none⟩ (.int .i64 u)) w.heap.size [.map mo2, .int .i64 u] 120) := (hr2.set 0 _).set 1 _
    have HK3 : Hid (Keep (fun _ => False) w ((w2.setCell ⟨w.heap.size, 0, none⟩ (.map mo2)).setCell ⟨w.heap.size, 1, none⟩ (.int .i64 u))) := (hk2.then (keep_setCell _ _ _ _) (fun j hj e => by omega)).then (keep_setCell _ _ _ _) (fun j hj e => by omega)
    have HM3 : Hid (MapV ((w2.setCell ⟨w.heap.size, 0, none⟩ (.map mo2)).setCell ⟨w.heap.size, 1, none⟩ (.int .i64 u)) mo2 L) := (keep_setCell _ _ _ _).mapV ((keep_setCell _ _ _ _).mapV hm2 (fun b e e2 => by have := hb2 b e; omega)) (fun b e e2 => by have := hb2 b e; omega)
    have HB3 : Hid (∀ b, mo2 = some b → w.heap.size ≤ b) := fun b e => Nat.le_of_lt (hb2 b e)
    clear hr2 hm2 hk2 hb2 hf0 hf1 d0 d1 d2 d3
    generalize (w2.setCell ⟨w.heap.size, 0, none⟩ (.map mo2)).setCell ⟨w.heap.size, 1, none⟩ (.int .i64 u) = w3 at *
    go_wp2
    (try simp only [Exit.inBlock, Exit.then])
    exact bodyPost_ret (v := .agg #[.map mo2, .int .i64 u]) (results_cell_row (p := 2) rfl _ _ w.heap.size 120 #[.map mo2, .int .i64 u] (0, 0) _ rfl HR3.out Tryz.underlying120 rfl (by kernel_rfl)) rfl ⟨mo2, rfl, HM3.out, HK3.out, HB3.out⟩
end Go.Proofs.YtefbioainibmaaaGreatDoor
