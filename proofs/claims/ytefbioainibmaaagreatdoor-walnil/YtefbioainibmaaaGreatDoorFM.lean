/- Files by their names: lists that rise by their names, and the map that reads as one. -/
import Derived.Test.YtefbioainibmaaaGreatDoorJoined01
import Derived.Maps.OwnSet
import Derived.StringKeys
import Derived.WalkKit
namespace Go.Proofs.YtefbioainibmaaaGreatDoor
open Go.RowKit Go.Maps
set_option linter.unusedVariables false

abbrev Bs := List UInt8
section
variable {α β : Type}
/-- laid in, ahead of the first that it stands before -/
def kins (x : Bs × α) : List (Bs × α) → List (Bs × α)
  | [] => [x]
  | y :: r => if (Lit.string x.1).before (.string y.1) then x :: y :: r else y :: kins x r
def kdel (L : List (Bs × α)) (n : Bs) : List (Bs × α) := L.filter fun p => !(p.1 == n)
def kput (L : List (Bs × α)) (n : Bs) (v : α) : List (Bs × α) := kins (n, v) (kdel L n)
def kget (L : List (Bs × α)) (n : Bs) : Option α := (L.find? fun p => p.1 == n).map (·.2)

theorem mem_kins (x y : Bs × α) : ∀ L : List (Bs × α), y ∈ kins x L ↔ y = x ∨ y ∈ L
  | [] => by simp [kins]
  | z :: r => by
    unfold kins
    split
    · simp
    · simp only [List.mem_cons, mem_kins x y r]
      constructor
      · rintro (h | h | h) <;> simp [h]
      · rintro (h | h | h) <;> simp [h]
theorem length_kins (x : Bs × α) : ∀ L : List (Bs × α), (kins x L).length = L.length + 1
  | [] => rfl
  | z :: r => by
    unfold kins
    split
    · rfl
    · simp [length_kins x r]
theorem mem_kdel {L : List (Bs × α)} {n : Bs} {y : Bs × α} : y ∈ kdel L n ↔ y ∈ L ∧ y.1 ≠ n := by simp [kdel]
theorem mem_kput {L : List (Bs × α)} {n : Bs} {v : α} {y : Bs × α} : y ∈ kput L n v ↔ y = (n, v) ∨ (y ∈ L ∧ y.1 ≠ n) := by rw [kput, mem_kins, mem_kdel]
theorem find_kins_hit (x : Bs × α) : ∀ L : List (Bs × α), (∀ p ∈ L, p.1 ≠ x.1) → (kins x L).find? (fun p => p.1 == x.1) = some x
  | [], _ => by simp [kins]
  | y :: r, h => by
    unfold kins
    split
    · simp
    · have h1 : (y.1 == x.1) = false := by simpa using h y (by simp)
      simp only [List.find?_cons, h1]
      exact find_kins_hit x r (fun p hp => h p (by simp [hp]))
theorem find_kins_miss (x : Bs × α) (n : Bs) (hn : x.1 ≠ n) : ∀ L : List (Bs × α), (kins x L).find? (fun p => p.1 == n) = L.find? (fun p => p.1 == n)
  | [] => by simp [kins, hn]
  | y :: r => by
    unfold kins
    split
    · simp [hn]
    · cases hy : (y.1 == n) <;> simp [hy, find_kins_miss x n hn r]
theorem find_kdel (n m : Bs) (hn : m ≠ n) : ∀ L : List (Bs × α), (kdel L m).find? (fun p => p.1 == n) = L.find? (fun p => p.1 == n)
  | [] => rfl
  | y :: r => by
    have ih := find_kdel n m hn r
    unfold kdel at ih ⊢
    by_cases hy : y.1 = m
    · have h2 : (y.1 == n) = false := by rw [hy]; simpa using hn
      simp [hy, ih, hn]
    · cases h2 : (y.1 == n) <;> simp [hy, h2, ih]
theorem kget_put_same (L : List (Bs × α)) (n : Bs) (v : α) : kget (kput L n v) n = some v := by
  unfold kget kput
  rw [find_kins_hit (n, v) _ (fun p hp => (mem_kdel.1 hp).2)]
  rfl
theorem kget_put_other (L : List (Bs × α)) {n m : Bs} (v : α) (h : n ≠ m) : kget (kput L n v) m = kget L m := by
  unfold kget kput
  rw [find_kins_miss (n, v) m h, find_kdel m n h]
theorem kget_del_same (L : List (Bs × α)) (n : Bs) : kget (kdel L n) n = none := by
  unfold kget
  rw [List.find?_eq_none.2 (fun x hx => by simpa using (mem_kdel.1 hx).2)]
  rfl
theorem kget_del_other (L : List (Bs × α)) {n m : Bs} (h : n ≠ m) : kget (kdel L n) m = kget L m := by
  unfold kget
  rw [find_kdel m n h]
theorem kget_mem {L : List (Bs × α)} {n : Bs} {v : α} (h : kget L n = some v) : (n, v) ∈ L := by
  unfold kget at h
  cases hf : L.find? (fun p => p.1 == n) with
  | none => rw [hf] at h; cases h
  | some x =>
    rw [hf] at h
    have h1 : x.1 = n := by simpa using List.find?_some hf
    have h2 := List.mem_of_find?_eq_some hf
    obtain ⟨a, b⟩ := x
    simp at h h1
    subst h h1
    exact h2
theorem kget_map (f : α → β) (L : List (Bs × α)) (n : Bs) : kget (L.map fun p => (p.1, f p.2)) n = (kget L n).map f := by
  unfold kget
  induction L with
  | nil => rfl
  | cons y r ih =>
    cases hy : (y.1 == n) <;> simp [hy]
    simpa using ih
theorem kdel_map (f : α → β) (L : List (Bs × α)) (n : Bs) : kdel (L.map fun p => (p.1, f p.2)) n = (kdel L n).map fun p => (p.1, f p.2) := by
  unfold kdel
  rw [List.filter_map]
  rfl
theorem kins_map (f : α → β) (x : Bs × α) : ∀ L : List (Bs × α), kins (x.1, f x.2) (L.map fun p => (p.1, f p.2)) = (kins x L).map fun p => (p.1, f p.2)
  | [] => rfl
  | y :: r => by
    simp only [List.map_cons]
    unfold kins
    simp only
    split
    · simp
    · simp [kins_map f x r]
theorem kput_map (f : α → β) (L : List (Bs × α)) (n : Bs) (v : α) : kput (L.map fun p => (p.1, f p.2)) n (f v) = (kput L n v).map fun p => (p.1, f p.2) := by
  unfold kput
  rw [kdel_map, kins_map f (n, v)]
end

/-- what the map reads as -/
def mp (L : List (Bs × Value)) : DataW Value := .map (L.map fun p => (.string p.1, .held p.2))
/-- an element reads as itself -/
def rawE (v : Value) : Option (DataW Value × List MemPlace) := some (.held v, [])

theorem same_str (a b : Bs) : (Lit.string a).sameKey (.string b) = (a == b) := rfl
theorem insert_mp (n : Bs) (v : Value) : ∀ L : List (Bs × Value), DataW.insert (.string n, .held v) (L.map fun p => ((.string p.1 : Lit), (.held p.2 : DataW Value))) = (kins (n, v) L).map fun p => (.string p.1, .held p.2)
  | [] => rfl
  | y :: r => by
    simp only [List.map_cons]
    unfold DataW.insert kins
    simp only
    split
    · simp
    · simp [insert_mp n v r]
theorem filter_mp (n : Bs) (L : List (Bs × Value)) : (L.map fun p => ((.string p.1 : Lit), (.held p.2 : DataW Value))).filter (fun p => !p.1.sameKey (.string n)) = (kdel L n).map fun p => (.string p.1, .held p.2) := by
  unfold kdel
  rw [List.filter_map]
  rfl
theorem mp_put (L : List (Bs × Value)) (n : Bs) (v : Value) : (mp L).put (.string n) (.held v) = mp (kput L n v) := by
  unfold mp DataW.put kput
  simp only
  rw [filter_mp, insert_mp]
theorem mp_del (L : List (Bs × Value)) (n : Bs) : (mp L).del (.string n) = mp (kdel L n) := by
  unfold mp DataW.del
  simp only
  rw [filter_mp]
theorem find_mp (n : Bs) : ∀ L : List (Bs × Value), (L.map fun p => ((.string p.1 : Lit), (.held p.2 : DataW Value))).find? (fun p => p.1.sameKey (.string n)) = (L.find? (fun p => p.1 == n)).map fun p => (.string p.1, .held p.2)
  | [] => rfl
  | y :: r => by
    simp only [List.map_cons, List.find?_cons, same_str]
    cases y.1 == n
    · exact find_mp n r
    · rfl
theorem mp_at (L : List (Bs × Value)) (n : Bs) (z : Value) : (mp L).atKey (.string n) (.held z) = .held ((kget L n).getD z) := by
  unfold mp DataW.atKey kget
  simp only
  rw [find_mp]
  cases L.find? (fun p => p.1 == n) <;> rfl
theorem mp_has (L : List (Bs × Value)) (n : Bs) : Maps.has (mp L) (.string n) = (kget L n).isSome := by
  unfold mp Maps.has kget
  simp only
  rw [List.any_map]
  induction L with
  | nil => rfl
  | cons y r ih =>
    simp only [List.any_cons, List.find?_cons, Function.comp, same_str]
    cases y.1 == n
    · simpa using ih
    · simp
theorem mp_size (L : List (Bs × Value)) : Maps.size (mp L) = L.length := by simp [mp, Maps.size]

theorem law9 : Keyed Tryz.prog 9 := string_keyed Tryz.underlying9

/-- the map in block b reads as L -/
def MapIs (w : World) (b : Nat) (L : List (Bs × Value)) : Prop := w.ownsMap Tryz.prog 9 rawE b L.length (mp L)
/-- .. or there is none -/
def MapV (w : World) (mo : Option Nat) (L : List (Bs × Value)) : Prop := (mo = none ∧ L = []) ∨ ∃ b, mo = some b ∧ MapIs w b L

theorem zero94 (w : World) : (zeroValue 143).run Tryz.prog w = .ok (.slice none 0 0) w := by kernel_rfl
theorem held_inj {v : Value} {d : DataW Value} {ps : List MemPlace} (h : rawE v = some (d, ps)) : d = .held v := by unfold rawE at h; simp at h; exact h.1.symm

/-- 'm[k]' -/
theorem mapV_look {w : World} {mo : Option Nat} {L : List (Bs × Value)} (h : MapV w mo L) (s : ByteArray) (hs : s.size ≤ maxLen) :
    (Instr.lookup 118 (.map mo) (.string s) false).run Tryz.prog w = .ok ((kget L s.data.toList).getD (.slice none 0 0)) w := by
  have hk := WideMaps.keyOf_string_mk (P := Tryz.prog) Tryz.underlying9 hs
  rcases h with ⟨rfl, rfl⟩ | ⟨b, rfl, h⟩
  · exact Maps.look_nil false law9 Tryz.underlying118 (zero94 w) hk
  · obtain ⟨v, ps, hr, hv⟩ := World.ownsMap.lookup h law9 Tryz.underlying118 (zero94 w) (zd := .held (.slice none 0 0)) (zp := []) rfl hk
    rw [mp_at] at hv
    have e : (kget L s.data.toList).getD (.slice none 0 0) = v := DataW.held.inj (held_inj hv)
    rw [← e] at hr
    exact hr

/-! the order -/
section
variable {α β : Type}
theorem bef_total {a b : Bs} (h : a ≠ b) : (Lit.string a).before (.string b) = true ∨ (Lit.string b).before (.string a) = true := ChangeMaps.before_total ⟨a, rfl⟩ ⟨b, rfl⟩ (fun e => h (by injection e))
theorem bef_ne {a b : Bs} (h : (Lit.string a).before (.string b) = true) : a ≠ b := fun e => by subst e; rw [WideShapes.before_irrefl] at h; cases h
/-- rising by the names -/
def Srt (L : List (Bs × α)) : Prop := L.Pairwise fun x y => (Lit.string x.1).before (.string y.1) = true
theorem srt_nil : Srt ([] : List (Bs × α)) := List.Pairwise.nil
theorem srt_kdel {L : List (Bs × α)} (h : Srt L) (n : Bs) : Srt (kdel L n) := List.Pairwise.filter _ h
theorem srt_kins {x : Bs × α} : ∀ {L : List (Bs × α)}, Srt L → (∀ y ∈ L, y.1 ≠ x.1) → Srt (kins x L)
  | [], _, _ => by unfold kins Srt; simp
  | y :: r, h, hn => by
    unfold Srt at h
    rw [List.pairwise_cons] at h
    unfold kins
    split
    · rename_i hb
      unfold Srt
      rw [List.pairwise_cons, List.pairwise_cons]
      refine ⟨fun z hz => ?_, h⟩
      rcases List.mem_cons.1 hz with rfl | hz
      · exact hb
      · exact WideShapes.before_trans hb (h.1 z hz)
    · rename_i hb
      have hyx := (bef_total (hn y (by simp))).resolve_right hb
      unfold Srt
      rw [List.pairwise_cons]
      refine ⟨fun z hz => ?_, srt_kins h.2 (fun z hz => hn z (by simp [hz]))⟩
      rcases (mem_kins _ _ _).1 hz with rfl | hz
      · exact hyx
      · exact h.1 z hz
theorem srt_kput {L : List (Bs × α)} (h : Srt L) (n : Bs) (v : α) : Srt (kput L n v) := srt_kins (srt_kdel h n) (fun y hy => (mem_kdel.1 hy).2)
theorem srt_map (f : α → β) {L : List (Bs × α)} : Srt (L.map fun p => (p.1, f p.2)) ↔ Srt L := by unfold Srt; rw [List.pairwise_map]
theorem srt_apart {L : List (Bs × α)} (h : Srt L) : L.Pairwise fun x y => x.1 ≠ y.1 := h.imp fun hb => bef_ne hb
theorem srt_mem {L : List (Bs × α)} (h : Srt L) {n : Bs} {v : α} (hm : (n, v) ∈ L) : kget L n = some v := by
  induction L with
  | nil => cases hm
  | cons y r ih =>
    have h' := List.pairwise_cons.1 (srt_apart h)
    unfold kget
    rw [List.find?_cons]
    by_cases hy : y.1 = n
    · rcases List.mem_cons.1 hm with e | hm
      · subst e; simp
      · exact absurd hy (h'.1 _ hm)
    · have e : (y.1 == n) = false := by simpa using hy
      rw [e]
      rcases List.mem_cons.1 hm with e | hm
      · subst e; exact absurd rfl hy
      · exact ih (List.pairwise_cons.1 h).2 hm
theorem srt_uniq {L : List (Bs × α)} (h : Srt L) {x y : Bs × α} (hx : x ∈ L) (hy : y ∈ L) (e : x.1 = y.1) : x = y := by
  have h1 := srt_mem h (n := x.1) (v := x.2) hx
  have h2 := srt_mem h (n := y.1) (v := y.2) hy
  rw [e, h2] at h1
  injection h1 with h1
  exact Prod.ext e h1.symm
/-- two that rise and hold the same are one -/
theorem srt_ext : ∀ {L M : List (Bs × α)}, Srt L → Srt M → (∀ n, kget L n = kget M n) → L = M
  | [], [], _, _, _ => rfl
  | [], y :: r, _, _, h => by have := h y.1; unfold kget at this; simp at this
  | y :: r, [], _, _, h => by have := h y.1; unfold kget at this; simp at this
  | x :: r, y :: t, hL, hM, h => by
    have hx : (x.1, x.2) ∈ y :: t := kget_mem ((h x.1).symm.trans (srt_mem hL (by simp)))
    have hy : (y.1, y.2) ∈ x :: r := kget_mem ((h y.1).trans (srt_mem hM (by simp)))
    have hL2 := List.pairwise_cons.1 hL
    have hM2 := List.pairwise_cons.1 hM
    have hxy : x = y := by
      rcases List.mem_cons.1 hx with e | hx
      · exact e
      · rcases List.mem_cons.1 hy with e | hy
        · exact e.symm
        · have b1 := hM2.1 _ hx
          have b2 := hL2.1 _ hy
          have := WideShapes.before_trans b1 b2
          rw [WideShapes.before_irrefl] at this
          cases this
    subst hxy
    congr 1
    refine srt_ext hL2.2 hM2.2 fun n => ?_
    by_cases hn : x.1 = n
    · have e1 : kget r n = none := by
        cases hg : kget r n with
        | none => rfl
        | some v => exact absurd (hn.trans rfl) (bef_ne (hL2.1 _ (kget_mem hg)))
      have e2 : kget t n = none := by
        cases hg : kget t n with
        | none => rfl
        | some v => exact absurd (hn.trans rfl) (bef_ne (hM2.1 _ (kget_mem hg)))
      rw [e1, e2]
    · have := h n
      have e : (x.1 == n) = false := by simpa using hn
      unfold kget at this ⊢
      rw [List.find?_cons, List.find?_cons, e] at this
      exact this
end

/-- all bytes -/
def tot (A : List (Bs × Bs)) : Nat := (A.map fun p => p.2.length).sum
theorem tot_kins (x : Bs × Bs) : ∀ A, tot (kins x A) = x.2.length + tot A
  | [] => by simp [kins, tot]
  | y :: r => by
    unfold kins
    split
    · simp [tot]
    · have := tot_kins x r
      simp only [tot, List.map_cons, List.sum_cons] at this ⊢
      omega
theorem tot_kdel {A : List (Bs × Bs)} (h : Srt A) (n : Bs) : tot (kdel A n) + ((kget A n).getD []).length = tot A := by
  induction A with
  | nil => simp [tot, kdel, kget]
  | cons y r ih =>
    have h2 := List.pairwise_cons.1 h
    have ih := ih h2.2
    by_cases hy : y.1 = n
    · have e : kdel r n = r := by
        unfold kdel
        rw [List.filter_eq_self]
        intro z hz
        have := bef_ne (h2.1 z hz)
        simp
        intro e
        exact this (hy.trans e.symm)
      have e2 : kdel (y :: r) n = r := by
        unfold kdel at e ⊢
        rw [List.filter_cons]
        simp [hy]
        simpa using e
      rw [e2]
      have e3 : kget (y :: r) n = some y.2 := by unfold kget; simp [hy]
      rw [e3]
      simp [tot]
      omega
    · have e1 : kdel (y :: r) n = y :: kdel r n := by unfold kdel; rw [List.filter_cons]; simp [hy]
      have e2 : kget (y :: r) n = kget r n := by unfold kget; simp [hy]
      rw [e1, e2]
      simp only [tot, List.map_cons, List.sum_cons] at ih ⊢
      omega
theorem tot_kput {A : List (Bs × Bs)} (h : Srt A) (n b : Bs) : tot (kput A n b) + ((kget A n).getD []).length = tot A + b.length := by
  have := tot_kdel h n
  unfold kput
  rw [tot_kins]
  simp only
  omega
theorem tot_get {A : List (Bs × Bs)} {n b : Bs} (h : kget A n = some b) : b.length ≤ tot A := by
  have hm := kget_mem h
  clear h
  induction A with
  | nil => cases hm
  | cons y r ih =>
    simp only [tot, List.map_cons, List.sum_cons] at ih ⊢
    rcases List.mem_cons.1 hm with e | hm
    · subst e; simp only; omega
    · have := ih hm; omega
theorem len_kdel {α : Type} (L : List (Bs × α)) (n : Bs) : (kdel L n).length ≤ L.length := List.length_filter_le _ _
theorem len_kput {α : Type} (L : List (Bs × α)) (n : Bs) (v : α) : (kput L n v).length ≤ L.length + 1 := by
  unfold kput; rw [length_kins]; have := len_kdel L n; omega

/-! the map's operations -/
theorem mapIs_of {w : World} {b n : Nat} {L : List (Bs × Value)} (h : w.ownsMap Tryz.prog 9 rawE b n (mp L)) : MapIs w b L := by
  obtain ⟨es, clock, hb, F, hs, hD⟩ := h
  refine ⟨es, clock, hb, F, ?_, hD⟩
  have e := congrArg Maps.size hD
  rw [mp_size] at e
  simp [Maps.size, length_sorted] at e
  omega
/-- 'v, ok := m[k]' -/
theorem mapV_lookok {w : World} {mo : Option Nat} {L : List (Bs × Value)} (h : MapV w mo L) (s : ByteArray) (hs : s.size ≤ maxLen) :
    (Instr.lookup 118 (.map mo) (.string s) true).run Tryz.prog w = .ok (.tuple #[(kget L s.data.toList).getD (.slice none 0 0), .bool (kget L s.data.toList).isSome]) w := by
  have hk := WideMaps.keyOf_string_mk (P := Tryz.prog) Tryz.underlying9 hs
  rcases h with ⟨rfl, rfl⟩ | ⟨b, rfl, h⟩
  · exact Maps.look_nil true law9 Tryz.underlying118 (zero94 w) hk
  · obtain ⟨v, ps, hr, hv⟩ := World.ownsMap.look_ok h law9 Tryz.underlying118 (zero94 w) (zd := .held (.slice none 0 0)) (zp := []) rfl hk
    rw [mp_at] at hv
    have e : (kget L s.data.toList).getD (.slice none 0 0) = v := DataW.held.inj (held_inj hv)
    rw [← e, mp_has] at hr
    exact hr
/-- 'm[k] = v' -/
theorem mapIs_store {w : World} {b : Nat} {L : List (Bs × Value)} (h : MapIs w b L) (s : ByteArray) (hs : s.size ≤ maxLen) (hl : L.length < maxLen) (v : Value) :
    ∃ w', (Instr.mapUpdate 118 (.map (some b)) (.string s) v).run Tryz.prog w = .ok () w' ∧ MapIs w' b (kput L s.data.toList v) ∧ w.mapTurned w' b := by
  have hk := WideMaps.keyOf_string_mk (P := Tryz.prog) Tryz.underlying9 hs
  obtain ⟨w', hr, ho, ht⟩ := World.ownsMap.store h law9 Tryz.underlying118 hl (val := v) (d := .held v) (ps := []) hk rfl
  rw [mp_put] at ho
  exact ⟨w', hr, mapIs_of ho, ht⟩
/-- what 'delete' turns -/
def Turn (w w' : World) : Option Nat → Prop
  | none => w' = w
  | some b => w.mapTurned w' b
/-- 'delete(m, k)' -/
theorem mapV_drop {w : World} {mo : Option Nat} {L : List (Bs × Value)} (h : MapV w mo L) (s : ByteArray) (hs : s.size ≤ maxLen) (ty : TypeId) :
    ∃ w', (Builtin.delete_ #[118, 9] ty #[.map mo, .string s]).run Tryz.prog w = .ok (.tuple #[]) w' ∧ MapV w' mo (kdel L s.data.toList) ∧ Turn w w' mo := by
  have hk := WideMaps.keyOf_string_mk (P := Tryz.prog) Tryz.underlying9 hs
  rcases h with ⟨rfl, rfl⟩ | ⟨b, rfl, h⟩
  · exact ⟨w, Maps.drop_nil law9 Tryz.underlying118 hk ty, .inl ⟨rfl, rfl⟩, rfl⟩
  · obtain ⟨w', hr, ho, ht⟩ := World.ownsMap.drop h law9 Tryz.underlying118 hk ty
    rw [mp_del] at ho
    exact ⟨w', hr, .inr ⟨b, rfl, mapIs_of ho⟩, ht⟩
end Go.Proofs.YtefbioainibmaaaGreatDoor
