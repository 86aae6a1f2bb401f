/- Joined: The walk of strings.Clone: the same bytes come back; nothing that was there has turned. The walks of frame's making and finding of a frame. The walk of octet's reading of a text: it comes to 'txtAt'. A reader: what it holds in memory, and what its calls come to. The walk of the document's reading of a text: it comes to 'txtAt'. The walk of frame's finding of a frame: it comes to 'unfAt'. -/
import Derived.Test.YtefbioainibmaaaGreatDoorJoined01
import Derived.Lib.Strings
import Derived.Lib.BufferWrite
import Derived.Lib.UnsafeStr
import Derived.Laws.MakeOwn
import Derived.Test.YtefbioainibmaaaGreatDoorJoined00
namespace Go.Proofs.YtefbioainibmaaaGreatDoor
open Go.RowKit
set_option linter.unusedVariables false

theorem cells5 : Tryz.prog.cellsOf 5 = 1 := by kernel_rfl

set_option maxHeartbeats 1000000 in
set_option maxRecDepth 100000 in
theorem clone_any (s : ByteArray) (w : World) (hlim : s.size ≤ 140737488355328) :
    Calls Tryz.prog 90 #[.string s] w fun e w' => e = .returned (.string s) ∧ Below w.heap.size w w' := by
  by_cases h0 : s.size = 0
  · have hs : s = ⟨#[]⟩ := by
      apply ByteArray.ext
      exact Array.eq_empty_of_size_eq_zero h0
    subst hs
    go_enter Tryz.func90, Tryz.ntmps90
    go_wp2
    go_ret
    exact ⟨rfl, Below.refl _ _⟩
  · obtain ⟨i0, hi, hz0, hz1, hz2⟩ := info_parts info8
    have hinfo : (Tryz.prog.info? 5).map (·.size) = some 1 := by rw [hi]; simp [hz1]
    obtain ⟨M, hM⟩ : ∃ M, M = madeCells (Value.int .u8 0).cells (((s.size : Nat) : Int).toNat * i0.size) := ⟨_, rfl⟩
    have hMs : M.size = s.size := by rw [hM, size_madeCells, hz1]; simp
    have hmk : ∀ W : World, (Instr.makeSlice 143 (.int .i64 (s.size : Int)) (.int .i64 (s.size : Int))).run Tryz.prog W = .ok (.slice (some ⟨W.heap.size, 0, none⟩) s.size s.size) (W.alloc (.cells M 5)) := fun W => by
      have h := run_make (P := Tryz.prog) W 143 5 i0 (.int .u8 0) Tryz.underlying143 hi hz0 .i64 .i64 (s.size : Int) (s.size : Int) (by omega) (by omega) (by rw [hz2]; omega) (by omega)
      rw [← hM] at h
      simpa using h
    clear hM
    have hcp := Lib.run_copy_row_string (P := Tryz.prog) (w.alloc (.cells M 5)) 143 9 3 5 w.heap.size 0 s.size s.size s M 5 Tryz.underlying143 hinfo (heap_alloc_new w _) (Nat.le_refl _) (by omega)
    obtain ⟨Y, hY⟩ : ∃ Y, Y = (M.toList.take 0 ++ Lib.byteCells s.data.toList ++ M.toList.drop (0 + s.size)).toArray := ⟨_, rfl⟩
    rw [← hY] at hcp
    have hYl : Y.toList = Lib.byteCells s.data.toList := by
      rw [hY, List.toList_toArray, List.take_zero, List.nil_append, List.drop_of_length_le (by rw [Array.length_toList]; omega), List.append_nil]
    have hYs : Y.size = s.size := by rw [← Array.length_toList, hYl, Lib.byteCells_length, ← Lib.size_eq]
    have hgY : ((w.alloc (.cells M 5)).setRow w.heap.size Y).heap[w.heap.size]? = some (.cells Y 5 (0, 0)) := setRow_heap _ _ M _ 5 (0, 0) (heap_alloc_new w _)
    have hne : s.data.toList ≠ [] := fun e => h0 (by rw [Lib.size_eq, e]; rfl)
    have hUS := Lib.run_unsafeString_row (P := Tryz.prog) ((w.alloc (.cells M 5)).setRow w.heap.size Y) 222 3 9 5 Tryz.underlying222 cells5 w.heap.size Y.size (by unfold World.shape?; rw [hgY]) s.data.toList hne (by rw [← Lib.size_eq]; omega) (by rw [← Lib.size_eq]; omega)
      (fun j x hx => Lib.cells_of_row hgY Y.size j _ (by rw [List.take_of_length_le (by rw [Array.length_toList]; exact Nat.le_refl _), hYl]; simp [Lib.byteCells, hx]))
    rw [← Lib.size_eq] at hUS
    clear hY
    go_enter Tryz.func90, Tryz.ntmps90
    go_wp2
    go_ret
    have hb1 : Below w.heap.size w (w.alloc (.cells M 5)) := (Below.refl _ w).alloc (Nat.le_refl _) _
    have hb2 : Below w.heap.size (w.alloc (.cells M 5)) ((w.alloc (.cells M 5)).setRow w.heap.size Y) := ⟨rfl, rfl, rfl, by simp, fun k hk => setRow_other _ _ _ _ (by omega)⟩
    exact ⟨rfl, Lib.below_freeze (hb1.trans hb2) (p := ⟨w.heap.size, 0, none⟩) (Nat.le_refl _) _⟩
end Go.Proofs.YtefbioainibmaaaGreatDoor
namespace Go.Proofs.YtefbioainibmaaaGreatDoor
open Go.RowKit
set_option linter.unusedVariables false

theorem ret_fr {x y : ByteArray} {i j : Int} (h1 : x = y) (h2 : i = j) : Ending.returned (.tuple #[.string x, .int .i64 i]) = .returned (.tuple #[.string y, .int .i64 j]) := by rw [h1, h2]
theorem wide4 (n : Nat) (h : n < 4294967296) (w : World) :
    Calls Tryz.prog 173 #[.int .u64 n, .int .i64 4] w fun e w' => e = .returned (.tuple #[.string ⟨(be n 4).toArray⟩, .int .i64 0]) ∧ Below w.heap.size w w' := by
  have h1 := wide_any n 4 w (by omega)
  have h2 : wideR n (4 : Int) = be n 4 ∧ wideE n (4 : Int) = 0 := wide_yes n 4 (by omega) (by omega) (by simpa using h)
  rw [h2.1, h2.2] at h1
  exact h1
theorem cat3 (a b : List UInt8) (c : ByteArray) : (ByteArray.mk a.toArray ++ ByteArray.mk b.toArray) ++ c = ByteArray.mk (a ++ (b ++ c.data.toList)).toArray := by
  apply ByteArray.ext
  apply Array.ext'
  simp [ByteArray.data_append]

set_option maxRecDepth 100000 in
set_option maxHeartbeats 800000 in
theorem frame_ok (b : ByteArray) (w : World) (hb : b.size ≤ 262144) :
    Calls Tryz.prog 153 #[.string b] w fun e w' => e = .returned (.tuple #[.string ⟨(frm b.data.toList).toArray⟩, .int .i64 0]) ∧ Below w.heap.size w w' := by
  have HA := show Hid _ from fun w => wide4 b.size (by omega) w
  have hs := sumN_lt (be b.size 4 ++ b.data.toList)
  have HS := show Hid _ from fun w => sumOf_any ⟨(be b.size 4).toArray⟩ b w (by show (be b.size 4).toArray.size ≤ _; rw [List.size_toArray, be_len]; decide) (by unfold maxLen; omega)
  have HF := show Hid (frm b.data.toList = be b.size 4 ++ (be (sumN (be b.size 4 ++ b.data.toList)) 4 ++ b.data.toList)) from by show frm _ = _; simp [frm]
  generalize sumN (be b.size 4 ++ b.data.toList) = u at HS HF hs
  have HB := show Hid _ from fun w => wide4 u hs w
  have l1 := be_len b.size 4
  have l2 := be_len u 4
  generalize be b.size 4 = X at HA HS HF l1
  generalize be u 4 = Y at HB HF l2
  have hx : (ByteArray.mk X.toArray).size = 4 := by show X.toArray.size = 4; simp [l1]
  have hy : (ByteArray.mk Y.toArray).size = 4 := by show Y.toArray.size = 4; simp [l2]
  have HC := show Hid _ from cat3 X Y b
  clear l1 l2
  go_enter Tryz.func153, Tryz.ntmps153
  go_wp2_with fail
  refine (HA.out _).mono ?_
  rintro e w1 ⟨rfl, hB1⟩
  go_wp2_with fail
  refine (HS.out _).mono ?_
  rintro e w' ⟨rfl, rfl⟩
  go_wp2_with fail
  refine (HB.out _).mono ?_
  rintro e w2 ⟨rfl, hB2⟩
  go_wp2
  go_ret2
  exact ⟨ret_fr (by rw [HF.out]; exact HC.out) rfl, hB1.trans (hB2.mono hB1.size)⟩

end Go.Proofs.YtefbioainibmaaaGreatDoor
namespace Go.Proofs.YtefbioainibmaaaGreatDoor
open Go.RowKit
set_option linter.unusedVariables false

theorem ret_txt {T : Txt} {x : ByteArray} {i e : Int} (h1 : x = T.x) (h2 : i = T.to) (h3 : e = T.e) :
    Ending.returned (.tuple #[.string x, .int .i64 i, .int .i64 e]) = .returned (.tuple #[.string T.x, .int .i64 T.to, .int .i64 T.e]) := by rw [h1, h2, h3]

set_option maxRecDepth 100000 in
set_option maxHeartbeats 400000 in
theorem readText_any (s : ByteArray) (a : Int) (w : World) (hs : s.size ≤ 140737488355328) :
    Calls Tryz.prog 200 #[.string s, .int .i64 a] w fun e w' =>
      e = .returned (.tuple #[.string (txtAt s a).x, .int .i64 (txtAt s a).to, .int .i64 (txtAt s a).e]) ∧ Below w.heap.size w w' := by
  have HR := show Hid _ from fun w => readNumber_any s a w (by unfold maxLen; omega)
  have hb := rdAt_bounds s a
  have he := rdAt_e s a
  have hT := txtAt.eq_1 s a
  generalize txtAt s a = T at hT ⊢
  generalize rdAt s a = g at HR hT hb he
  obtain ⟨n, len, e⟩ := g
  simp only [endAt] at HR hT hb he
  by_cases h0 : e = 0
  · subst h0
    obtain ⟨ha, hl, hl1, hl2, hn⟩ := hb rfl
    obtain ⟨a, rfl⟩ := Int.eq_ofNat_of_zero_le ha
    have HR' : Hid (∀ w, Calls Tryz.prog 164 #[.string s, .int .i64 a] w fun e w' => e = .returned (.tuple #[.int .u64 n, .int .i64 ((a + len : Nat) : Int), .int .i64 0]) ∧ w' = w) := by
      show ∀ w, _; intro w; exact HR.out w
    clear HR hb
    simp only [Int.toNat_natCast, if_true] at hT
    have hp : a + len ≤ s.size := by omega
    generalize a + len = p at HR' hT hp
    clear hl hl1 hl2 he ha
    by_cases hlong : p + n ≤ s.size
    · have HT : Hid (T = ⟨s.extract p (p + n), ((p + n : Nat) : Int), 0⟩) := by show T = _; rw [hT, if_pos hlong]
      clear hT
      have hns : (n : Int) ≤ (s.size : Int) - (p : Int) := by omega
      go_enter Tryz.func200, Tryz.ntmps200
      go_wp2_with (first | (go_at_call 164; refine (HR'.out _).mono ?_; rintro e w' ⟨rfl, rfl⟩))
      refine (clone_any _ _ (by rw [ByteArray.size_extract]; omega)).mono ?_
      rintro e w2 ⟨rfl, hB⟩
      go_wp2
      go_ret3
      exact ⟨ret_txt (by rw [HT.out]) (by rw [HT.out]; simp) (by rw [HT.out]; rfl), hB⟩
    · have HT : Hid (T = ⟨⟨#[]⟩, 0, 5⟩) := by show T = _; rw [hT, if_neg hlong]
      clear hT
      have hns : (s.size : Int) - (p : Int) < n := by omega
      go_enter Tryz.func200, Tryz.ntmps200
      go_wp2_with (first | (go_at_call 164; refine (HR'.out _).mono ?_; rintro e w' ⟨rfl, rfl⟩))
      go_ret3
      exact ⟨ret_txt (by rw [HT.out]) (by rw [HT.out]) (by rw [HT.out]; rfl), Below.refl _ _⟩
  · have HT : Hid (T = ⟨⟨#[]⟩, 0, e⟩) := by show T = _; rw [hT, if_neg h0]
    have HR' : Hid (∀ w, Calls Tryz.prog 164 #[.string s, .int .i64 a] w fun e' w' => e' = .returned (.tuple #[.int .u64 n, .int .i64 0, .int .i64 e]) ∧ w' = w) := by
      show ∀ w, _; intro w; have := HR.out w; rw [if_neg h0] at this; exact this
    have hne : ((e : Int) != 0) = true := by rw [bne_iff_ne]; omega
    clear hT HR hb he h0
    go_enter Tryz.func200, Tryz.ntmps200
    go_wp2_with (first | (go_at_call 164; refine (HR'.out _).mono ?_; rintro e w' ⟨rfl, rfl⟩))
    go_ret3
    exact ⟨ret_txt (by rw [HT.out]) (by rw [HT.out]) (by rw [HT.out]), Below.refl _ _⟩
end Go.Proofs.YtefbioainibmaaaGreatDoor
namespace Go.Proofs.YtefbioainibmaaaGreatDoor
open Go.RowKit
set_option linter.unusedVariables false

/-- a reader lies in block g -/
def RdAt (w : World) (g : Nat) (s : ByteArray) (a e : Int) : Prop :=
  w.cell? ⟨g, 0, none⟩ = some (.string s) ∧ w.cell? ⟨g, 1, none⟩ = some (.int .i64 a) ∧ w.cell? ⟨g, 2, none⟩ = some (.int .i64 e) ∧ w.frozen? ⟨g, 1, none⟩ = false ∧ w.frozen? ⟨g, 2, none⟩ = false


/-- a reader behind a taking of a number: its place, its error, what is answered -/
structure St where
  a : Int
  e : Int
  n : Nat
/-- a number is taken -/
def nS (s : ByteArray) (a e : Int) (fit : Bool) (unfit : Int) : St :=
  if e = 0 then if (rdAt s a).e = 0 then if fit = true then ⟨endAt a (rdAt s a), 0, (rdAt s a).n⟩ else ⟨a, unfit, 0⟩ else ⟨a, (rdAt s a).e, 0⟩ else ⟨a, e, 0⟩

set_option maxRecDepth 100000 in
set_option maxHeartbeats 400000 in
theorem err_any (g : Nat) (s : ByteArray) (a e : Int) (w : World) (h : RdAt w g s a e) :
    Calls Tryz.prog 138 #[.pointer (some ⟨g, 0, none⟩)] w fun r w' => r = .returned (.int .i64 e) ∧ w' = w := by
  obtain ⟨h0, h1, h2, h3, h4⟩ := h
  go_enter Tryz.func138, Tryz.ntmps138
  go_wp2
  go_ret
  exact ⟨rfl, rfl⟩
theorem RdAt.err {w : World} {g : Nat} {s : ByteArray} {a e : Int} (h : RdAt w g s a e) (x : Int) : RdAt (w.setCell ⟨g, 2, none⟩ (.int .i64 x)) g s a x := by
  obtain ⟨h0, h1, h2, h3, h4⟩ := h
  refine ⟨?_, ?_, ?_, by rw [World.frozen?_setCell]; exact h3, by rw [World.frozen?_setCell]; exact h4⟩
  · rw [World.cell?_setCell_other _ _ _ _ (by simp)]; exact h0
  · rw [World.cell?_setCell_other _ _ _ _ (by simp)]; exact h1
  · exact World.cell?_setCell_same _ _ _ h2
theorem RdAt.place {w : World} {g : Nat} {s : ByteArray} {a e : Int} (h : RdAt w g s a e) (x : Int) : RdAt (w.setCell ⟨g, 1, none⟩ (.int .i64 x)) g s x e := by
  obtain ⟨h0, h1, h2, h3, h4⟩ := h
  refine ⟨?_, ?_, ?_, by rw [World.frozen?_setCell]; exact h3, by rw [World.frozen?_setCell]; exact h4⟩
  · rw [World.cell?_setCell_other _ _ _ _ (by simp)]; exact h0
  · exact World.cell?_setCell_same _ _ _ h1
  · rw [World.cell?_setCell_other _ _ _ _ (by simp)]; exact h2
theorem RdAt.keeps {w w' : World} {g : Nat} {s : ByteArray} {a e : Int} (h : RdAt w g s a e) (hB : Below w.heap.size w w') : RdAt w' g s a e := by
  have hg := World.block_lt_of_cell? w _ h.1
  have hc := fun o => hB.cell (p := ⟨g, o, none⟩) hg
  have hf := fun o => hB.frozen (p := ⟨g, o, none⟩) hg
  obtain ⟨h0, h1, h2, h3, h4⟩ := h
  exact ⟨(hc 0).trans h0, (hc 1).trans h1, (hc 2).trans h2, (hf 1).trans h3, (hf 2).trans h4⟩

/-- the error, behind Fail -/
def failE (e x : Int) : Int := if e = 0 then x else e

set_option maxRecDepth 100000 in
set_option maxHeartbeats 400000 in
theorem rdfail_any (g : Nat) (s : ByteArray) (a e x : Int) (w : World) (h : RdAt w g s a e) :
    Calls Tryz.prog 139 #[.pointer (some ⟨g, 0, none⟩), .int .i64 x] w fun r w' => r = .returned (.tuple #[]) ∧ RdAt w' g s a (failE e x) ∧ Only g w w' := by
  have h2 := h.err x
  have HE := show Hid _ from fun (_ : Unit) => err_any g s a e w h
  have H0 := show Hid _ from h
  obtain ⟨_, _, c2, _, f2⟩ := h
  have hB : Only g w (w.setCell ⟨g, 2, none⟩ (.int .i64 x)) := (Only.refl _ _).setCell 2 _
  by_cases h0 : e = 0
  · subst h0
    go_enter Tryz.func139, Tryz.ntmps139
    go_wp2_with fail
    refine (HE.out ()).mono ?_
    rintro e w' ⟨rfl, rfl⟩
    go_wp2
    go_end0
    exact ⟨rfl, h2, hB⟩
  · have hb : (e == 0) = false := by rw [beq_eq_false_iff_ne]; exact h0
    have hE : failE e x = e := by rw [failE, if_neg h0]
    rw [hE]
    clear h0 h2 hB
    go_enter Tryz.func139, Tryz.ntmps139
    go_wp2_with fail
    refine (HE.out ()).mono ?_
    rintro e w' ⟨rfl, rfl⟩
    go_wp2
    go_end0
    exact ⟨rfl, H0.out, Only.refl _ _⟩
end Go.Proofs.YtefbioainibmaaaGreatDoor
namespace Go.Proofs.YtefbioainibmaaaGreatDoor
open Go.RowKit
set_option linter.unusedVariables false

end Go.Proofs.YtefbioainibmaaaGreatDoor
namespace Go.Proofs.YtefbioainibmaaaGreatDoor
open Go.RowKit
set_option linter.unusedVariables false

theorem ret_un {T : Txt} {x : ByteArray} {i e : Int} (h1 : x = T.x) (h2 : i = T.to) (h3 : e = T.e) :
    Ending.returned (.tuple #[.string x, .int .i64 i, .int .i64 e]) = .returned (.tuple #[.string T.x, .int .i64 T.to, .int .i64 T.e]) := by rw [h1, h2, h3]

/-- what the walks of Unframe ask of the bytes -/
theorem unf_parts (s : ByteArray) (a : Int) (hs : s.size ≤ 1152921504606846976) :
    (∃ e : Nat, e ≠ 0 ∧ e ≤ 5 ∧ rdW s a 4 = ⟨0, (rdW s a 4).len, e⟩ ∧ unfAt s a = ⟨⟨#[]⟩, 0, e⟩) ∨
    ∃ b n : Nat, a = b ∧ b + 4 ≤ s.size ∧ n < 4294967296 ∧ rdW s a 4 = ⟨n, 4, 0⟩ ∧
      ((262144 < n ∧ unfAt s a = ⟨⟨#[]⟩, 0, 2⟩) ∨
       (n ≤ 262144 ∧ s.size < b + 8 + n ∧ unfAt s a = ⟨⟨#[]⟩, 0, 5⟩) ∨
       (n ≤ 262144 ∧ b + 8 + n ≤ s.size ∧ ∃ u v : Nat, u < 4294967296 ∧ v < 4294967296 ∧ u = sumN ((s.extract b (b + 4)).data.toList ++ (s.extract (b + 8) (b + 8 + n)).data.toList) ∧ rdW s ((b + 4 : Nat) : Int) 4 = ⟨v, 4, 0⟩ ∧
         ((u ≠ v ∧ unfAt s a = ⟨⟨#[]⟩, 0, 10⟩) ∨ (u = v ∧ unfAt s a = ⟨s.extract (b + 8) (b + 8 + n), ((b + 8 + n : Nat) : Int), 0⟩)))) := by
  have hu := unfAt.eq_1 s a
  have hf := rdW_facts s a
  have he := rdW_e s a
  generalize hg : rdW s a 4 = g at hu hf he
  obtain ⟨n, len, e⟩ := g
  simp only at hu hf he
  by_cases h0 : e = 0
  · subst h0
    obtain ⟨ha, h4, hl, hn⟩ := hf rfl
    obtain ⟨b, rfl⟩ := Int.eq_ofNat_of_zero_le ha
    subst hl
    refine .inr ⟨b, n, rfl, by omega, hn, rfl, ?_⟩
    simp only [Int.toNat_natCast, if_true] at hu
    by_cases h1 : n ≤ 262144
    · rw [if_pos h1] at hu
      by_cases h2 : b + 8 + n ≤ s.size
      · rw [if_pos h2] at hu
        refine .inr (.inr ⟨h1, h2, sumN ((s.extract b (b + 4)).data.toList ++ (s.extract (b + 8) (b + 8 + n)).data.toList), (rdW s ((b + 4 : Nat) : Int) 4).n, sumN_lt _, ?_, rfl, ?_, ?_⟩)
        · have e0 : (rdW s ((b + 4 : Nat) : Int) 4) = (rdW s ((b + 4 : Nat) : Int) ((4 : Nat) : Int)) := rfl
          rw [e0, rdW_ok s (b + 4) 4 (by omega) (by omega) (by omega)]
          have h3 := beN_lt ((s.data.toList.drop (b + 4)).take 4)
          have h4 : (256 : Nat) ^ ((s.data.toList.drop (b + 4)).take 4).length ≤ 256 ^ 4 := Nat.pow_le_pow_right (by omega) (by simp; omega)
          exact Nat.lt_of_lt_of_le h3 h4
        · have e0 : (rdW s ((b + 4 : Nat) : Int) 4) = (rdW s ((b + 4 : Nat) : Int) ((4 : Nat) : Int)) := rfl
          rw [e0, rdW_ok s (b + 4) 4 (by omega) (by omega) (by omega)]
        · split at hu
          · rename_i h3; exact .inr ⟨h3, hu⟩
          · rename_i h3; exact .inl ⟨h3, hu⟩
      · rw [if_neg h2] at hu
        exact .inr (.inl ⟨h1, by omega, hu⟩)
    · rw [if_neg h1] at hu
      exact .inl ⟨by omega, hu⟩
  · rw [if_neg h0] at hu
    refine .inl ⟨e, h0, he.1, ?_, hu⟩
    rw [he.2 h0]

set_option maxRecDepth 100000 in
set_option maxHeartbeats 1600000 in
theorem unframe_wide (s : ByteArray) (a : Int) (w : World) (hs : s.size ≤ 1152921504606846976) :
    Calls Tryz.prog 98 #[.string s, .int .i64 a] w fun e w' =>
      e = .returned (.tuple #[.string (unfAt s a).x, .int .i64 (unfAt s a).to, .int .i64 (unfAt s a).e]) ∧ Below w.heap.size w w' := by
  have hm : s.size ≤ maxLen := by unfold maxLen; omega
  have HR := fun w => readWide_any s a 4 w hm
  rcases unf_parts s a hs with ⟨e, h0, h5, hr, hu⟩ | ⟨b, n, rfl, h4, hn, hr, hc⟩
  · rw [hr] at HR
    simp only [endAt, if_neg h0] at HR
    have HR' := show Hid _ from HR
    have HU := show Hid _ from hu
    have hne : ((e : Int) != 0) = true := by rw [bne_iff_ne]; omega
    generalize unfAt s a = T at HU ⊢
    clear HR hr hu h0
    go_enter Tryz.func98, Tryz.ntmps98
    go_wp2_with fail
    refine (HR'.out _).mono ?_
    rintro e w' ⟨rfl, rfl⟩
    go_wp2
    go_ret3
    exact ⟨ret_un (by rw [HU.out]) (by rw [HU.out]) (by rw [HU.out]), Below.refl _ _⟩
  · have HR' : Hid (∀ w, Calls Tryz.prog 134 #[.string s, .int .i64 b, .int .i64 4] w fun e w' => e = .returned (.tuple #[.int .u64 n, .int .i64 ((b + 4 : Nat) : Int), .int .i64 0]) ∧ w' = w) := by
      show ∀ w, _; intro w; have := HR w; rw [hr] at this; exact this
    clear HR hr
    generalize unfAt s (b : Int) = T at hc ⊢
    rcases hc with ⟨h1, hu⟩ | ⟨h1, h2, hu⟩ | ⟨h1, h2, u, v, hul, hvl, hus, hr2, hc⟩
    · have HU := show Hid _ from hu
      clear hu
      generalize b + 4 = p at HR' h4
      go_enter Tryz.func98, Tryz.ntmps98
      go_wp2_with fail
      refine (HR'.out _).mono ?_
      rintro e w' ⟨rfl, rfl⟩
      go_wp2
      go_ret3
      exact ⟨ret_un (by rw [HU.out]) (by rw [HU.out]) (by rw [HU.out]; rfl), Below.refl _ _⟩
    · have HU := show Hid _ from hu
      clear hu
      have hq : (s.size : Int) - b < 8 + n := by omega
      have hbl : b ≤ s.size := by omega
      generalize b + 4 = p at HR' h4
      go_enter Tryz.func98, Tryz.ntmps98
      go_wp2_with fail
      refine (HR'.out _).mono ?_
      rintro e w' ⟨rfl, rfl⟩
      go_wp2
      go_ret3
      exact ⟨ret_un (by rw [HU.out]) (by rw [HU.out]) (by rw [HU.out]; rfl), Below.refl _ _⟩
    · have HR2 : Hid (∀ w, Calls Tryz.prog 134 #[.string s, .int .i64 ((b + 4 : Nat) : Int), .int .i64 4] w fun e w' => e = .returned (.tuple #[.int .u64 v, .int .i64 ((b + 8 : Nat) : Int), .int .i64 0]) ∧ w' = w) := by
        show ∀ w, _; intro w; have := readWide_any s ((b + 4 : Nat) : Int) 4 w hm; rw [hr2] at this; exact this
      have HS := show Hid _ from fun w => sumOf_any (s.extract b (b + 4)) (s.extract (b + 8) (b + 8 + n)) w (by rw [ByteArray.size_extract]; unfold maxLen; omega) (by rw [ByteArray.size_extract]; unfold maxLen; omega)
      rw [← hus] at HS
      have hq : (8 : Int) + n ≤ (s.size : Int) - b := by omega
      have hp : b ≤ b + 4 := by omega
      have hpq : b + 8 ≤ b + 8 + n := by omega
      have hsz : (s.extract (b + 8) (b + 8 + n)).size ≤ 140737488355328 := by rw [ByteArray.size_extract]; omega
      have hbl : b ≤ s.size := by omega
      clear hus hr2
      generalize b + 4 = p at HR' HR2 HS hp h4
      generalize b + 8 = q at HR2 HS hc h2 hpq hsz
      rcases hc with ⟨hne, hu⟩ | ⟨rfl, hu⟩
      · have HU := show Hid _ from hu
        have hneb : ((u : Int) != (v : Int)) = true := by rw [bne_iff_ne]; omega
        clear hu hne
        go_enter Tryz.func98, Tryz.ntmps98
        go_wp2_with fail
        refine (HR'.out _).mono ?_
        rintro e w' ⟨rfl, rfl⟩
        go_wp2_with fail
        refine (HR2.out _).mono ?_
        rintro e w' ⟨rfl, rfl⟩
        go_wp2_with fail
        refine (HS.out _).mono ?_
        rintro e w' ⟨rfl, rfl⟩
        go_wp2
        go_ret3
        exact ⟨ret_un (by rw [HU.out]) (by rw [HU.out]) (by rw [HU.out]; rfl), Below.refl _ _⟩
      · have HU := show Hid _ from hu
        have hneb : ((u : Int) != (u : Int)) = false := by simp
        have HZ := show Hid _ from hsz
        clear hu hsz
        go_enter Tryz.func98, Tryz.ntmps98
        go_wp2_with fail
        refine (HR'.out _).mono ?_
        rintro e w' ⟨rfl, rfl⟩
        go_wp2_with fail
        refine (HR2.out _).mono ?_
        rintro e w' ⟨rfl, rfl⟩
        go_wp2_with fail
        refine (HS.out _).mono ?_
        rintro e w' ⟨rfl, rfl⟩
        go_wp2_with fail
        refine (clone_any _ _ HZ.out).mono ?_
        rintro e w2 ⟨rfl, hB⟩
        go_wp2
        go_ret3
        exact ⟨ret_un (by rw [HU.out]) (by rw [HU.out]; simp) (by rw [HU.out]; rfl), hB⟩
theorem unframe_any (s : ByteArray) (a : Int) (w : World) (hs : s.size ≤ 140737488355328) :
    Calls Tryz.prog 98 #[.string s, .int .i64 a] w fun e w' =>
      e = .returned (.tuple #[.string (unfAt s a).x, .int .i64 (unfAt s a).to, .int .i64 (unfAt s a).e]) ∧ Below w.heap.size w w' := unframe_wide s a w (by omega)
end Go.Proofs.YtefbioainibmaaaGreatDoor
