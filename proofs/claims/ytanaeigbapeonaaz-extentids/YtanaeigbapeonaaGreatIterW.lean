/- A map's keys, sorted: what the library's contracts say at this program. -/
import Derived.Test.YtanaeigbapeonaaGreatLaid
import Derived.Test.YtanaeigbapeonaaGreatJoined10
import Derived.Sort.KeysCollected
namespace Go.Proofs.YtanaeigbapeonaaGreat
open Go.RowKit Go.Maps Go.Sort Go.Shelf
set_option linter.unusedVariables false

theorem sortsAt (m : Nat) : AnyZ.SortsIn Tryz.prog sortedLaid_ren Fence.wide m :=
  ⟨fun blk off cap ss W hH hblk hsz => callsIn_wide.2 (AnyM.slices_Sort_string sortLaid blk off cap ss W hH hblk hsz), fun p cap W => callsIn_wide.2 (AnyM.slices_Sort_string_none sortLaid p cap W)⟩

theorem keysC : KeysC := fun mb W => callsIn_wide.1 (AnyZ.keys_in keysLaid Fence.wide 5 trivial rfl mb W)

theorem bef_lt : ∀ (a b : List UInt8), bytesBefore a b = true → a < b
  | [], [], h => by simp [bytesBefore] at h
  | [], _ :: _, _ => by simp
  | _ :: _, [], h => by simp [bytesBefore] at h
  | x :: r, y :: s, h => by
    simp [bytesBefore] at h
    rcases h with h | ⟨rfl, h⟩
    · exact List.Lex.rel h
    · exact List.Lex.cons (bef_lt r s h)
theorem srt_le {L : List (Bs × Value)} (h : Srt L) : (L.map (·.1)).mergeSort (fun x y => decide (x ≤ y)) = L.map (·.1) := by
  refine List.mergeSort_of_pairwise ?_
  rw [List.pairwise_map]
  refine h.imp fun {x y} hb => ?_
  simp
  have := bef_lt x.1 y.1 hb
  exact List.le_of_lt this
theorem strKeys_mp (L : List (Bs × Value)) : strKeys (mp L) = L.map (·.1) := by
  unfold mp strKeys
  simp [strOf]

set_option maxHeartbeats 1000000 in
theorem sortedC : SortedC := by
  intro mo L w hm hs hl
  rcases hm with ⟨rfl, rfl⟩ | ⟨b, rfl, hown⟩
  · have hseq : SeqGives Fence.wide 2 Tryz.prog 109 #[.pointer (some ⟨w.heap.size, 0, none⟩)] encStr (fun ss : List (List UInt8) => ss = []) 0 (w.alloc (.cells #[.map none] 69)) :=
      AnyZ.keys_gives_nil (ρ := keysLaid_ren) { keysLaid with } Fence.wide _ trivial rfl w.heap.size _ (by simp) (by simp)
    have h := AnyZ.sorted_in sortedLaid Fence.wide 5 trivial trivial trivial trivial rfl (by omega) (sortsAt _) (enters_of Tryz.func108 (by kernel_rfl) rfl) 109 #[.pointer (some ⟨w.heap.size, 0, none⟩)] trivial (enters_of Tryz.func109 (by kernel_rfl) rfl) _ 0 (Nat.zero_le _) (by omega) _ hseq
    refine (callsIn_wide.1 h).mono fun e w' ⟨v, ss, he, hS, hrow, hnil, hb⟩ => ⟨v, he, ?_, hb.keep _⟩
    subst hS
    have hv : v = .slice none 0 0 := hnil.2 rfl
    subst hv
    exact ⟨rfl, .inl ⟨rfl, rfl⟩⟩
  · have hbl := World.ownsMap.lt hown
    have hsz : Maps.size (mp L) = L.length := mp_size L
    have hseq : SeqGives Fence.wide 2 Tryz.prog 109 #[.pointer (some ⟨w.heap.size, 0, none⟩)] encStr (fun ss => ss.Perm (strKeys (mp L))) (Maps.size (mp L)) (w.alloc (.cells #[.map (some b)] 69)) :=
      AnyZ.keys_gives (ρ := keysLaid_ren) { keysLaid with } Fence.wide _ trivial rfl (by omega) w.heap.size b L.length (mp L) _ (by simp) (by simp) (by
        obtain ⟨es, clock, hb, Ft, hs, hD⟩ := hown
        exact ⟨es, clock, (Below.heap_alloc _ _ b hbl).trans hb, Ft, hs, hD⟩)
    have h := AnyZ.sorted_in sortedLaid Fence.wide 5 trivial trivial trivial trivial rfl (by omega) (sortsAt _) (enters_of Tryz.func108 (by kernel_rfl) rfl) 109 #[.pointer (some ⟨w.heap.size, 0, none⟩)] trivial (enters_of Tryz.func109 (by kernel_rfl) rfl) _ _ (by rw [hsz]; unfold maxLen; omega) (by rw [hsz]; omega) _ hseq
    refine (callsIn_wide.1 h).mono fun e w' ⟨v, ss, he, hS, hrow, hnil, hb⟩ => ⟨v, he, ?_, hb.keep _⟩
    have e1 : ss.mergeSort (fun x y => decide (x ≤ y)) = L.map (·.1) := (mergeSort_of_perm hS).trans (by rw [strKeys_mp]; exact srt_le hs)
    have e2 : ss.length = L.length := by have := hS.length_eq; rw [strKeys_mp] at this; simpa using this
    rw [e1, e2] at hrow
    have e3 : (w.alloc (.cells #[.map (some b)] 69)).heap.size = w.heap.size + 1 := by simp
    rw [e3] at hrow
    have e4 : (L.map (·.1)).map encStr = nmC L := by simp [nmC, encStr]
    rw [e4] at hrow
    exact hrow
end Go.Proofs.YtanaeigbapeonaaGreat
