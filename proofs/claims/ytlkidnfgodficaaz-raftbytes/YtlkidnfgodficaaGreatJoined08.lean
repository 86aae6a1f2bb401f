/- Joined: The document's reader. The document's reader: yes or no, the end. -/
import Derived.Test.YtlkidnfgodficaaGreatJoined07
import Derived.Test.YtlkidnfgodficaaGreatJoined01
import Derived.Test.YtlkidnfgodficaaGreatJoined05
import Derived.Laws.ResultCell
import Derived.Laws.Rows
namespace Go.Proofs.YtlkidnfgodficaaGreat
open Go.RowKit
set_option linter.unusedVariables false

/-- a reader's value lies in block b -/
def Box (w : World) (b : Nat) (x y z : Value) : Prop :=
  (w.cell? ⟨b, 0, none⟩ = some x ∧ w.cell? ⟨b, 1, none⟩ = some y ∧ w.cell? ⟨b, 2, none⟩ = some z) ∧ w.frozen? ⟨b, 0, none⟩ = false ∧ w.frozen? ⟨b, 1, none⟩ = false ∧ w.frozen? ⟨b, 2, none⟩ = false
theorem Box.keeps {w w' : World} {b : Nat} {x y z : Value} (h : Box w b x y z) (hB : Below w.heap.size w w') : Box w' b x y z := by
  have hg := World.block_lt_of_cell? w _ h.1.1
  have hc := fun o => hB.cell (p := ⟨b, o, none⟩) hg
  have hf := fun o => hB.frozen (p := ⟨b, o, none⟩) hg
  obtain ⟨⟨h0, h1, h2⟩, h3, h4, h5⟩ := h
  exact ⟨⟨(hc 0).trans h0, (hc 1).trans h1, (hc 2).trans h2⟩, (hf 0).trans h3, (hf 1).trans h4, (hf 2).trans h5⟩
theorem Box.made (w : World) (x y z : Value) (t : TypeId) : Box (w.alloc (.cells #[x, y, z] t)) w.heap.size x y z :=
  ⟨⟨by simp, by simp, by simp⟩, by simp, by simp, by simp⟩

theorem below_two (w : World) (A B : Obj) : Below w.heap.size w ((w.alloc A).alloc B) :=
  ((Below.refl _ _).alloc (Nat.le_refl _) A).alloc (by simp) B
theorem below_call {w w' : World} {A B C : Obj} {x y z : Value} (hB : Below ((w.alloc A).alloc B).heap.size ((w.alloc A).alloc B) w') :
    Below w.heap.size w ((((w'.alloc C).setCell ⟨w.heap.size + 1, 0, none⟩ x).setCell ⟨w.heap.size + 1, 1, none⟩ y).setCell ⟨w.heap.size + 1, 2, none⟩ z) := by
  have h1 := (below_two w A B).trans (hB.mono (by simp; omega))
  exact (((h1.alloc (Nat.le_trans (by simp; omega) hB.size) C).setCell (p := ⟨w.heap.size + 1, 0, none⟩) (by simp) x).setCell (p := ⟨w.heap.size + 1, 1, none⟩) (by simp) y).setCell (p := ⟨w.heap.size + 1, 2, none⟩) (by simp) z
theorem results_one {fn : Func} {p : Tmp} {ty : TypeId} (h : fn.results = #[.cell p ty]) (tmps : Array Value) (P : Program) (w : World) :
    (results fn tmps).run P w = ((asAddr (tmps.getD p undef)).run P w).andThen fun a w₁ => (loadVar ty a).run P w₁ := by
  simp only [results, h]
  simp [Sem.run_bind, Result.andThen]

set_option maxRecDepth 100000 in
set_option maxHeartbeats 800000 in
theorem ref_number_err (s : ByteArray) (a : Int) (e : Int) (m : Nat) (w : World) (he : e ≠ 0) :
    Calls Tryz.prog 95 #[.agg #[.string s, .int .i64 a, .int .i64 e], .int .u64 m] w fun r w' => r = .returned (.tuple #[.agg #[.string s, .int .i64 a, .int .i64 e], .int .u64 0]) ∧ Below w.heap.size w w' := by
  have hb : (e != 0) = true := by rw [bne_iff_ne]; exact he
  clear he
  go_enter Tryz.func95, Tryz.ntmps95
  go_wp2
  refine bodyPost_ret (v := .tuple #[.agg #[.string s, .int .i64 a, .int .i64 e], .int .u64 0]) (by rw [results_cell_tmp rfl]; go_simp) rfl ⟨rfl, ?_⟩
  exact below_two _ _ _

set_option maxRecDepth 100000 in
set_option maxHeartbeats 800000 in
theorem ref_number_bad (s : ByteArray) (a : Int) (m : Nat) (w : World) (hs : s.size ≤ maxLen) (he : (rdAt s a).e ≠ 0) :
    Calls Tryz.prog 95 #[.agg #[.string s, .int .i64 a, .int .i64 0], .int .u64 m] w fun r w' => r = .returned (.tuple #[.agg #[.string s, .int .i64 a, .int .i64 (rdAt s a).e], .int .u64 0]) ∧ Below w.heap.size w w' := by
  have HR := show Hid _ from fun w => ref_readNumber_any s a w hs
  have hb : (((rdAt s a).e : Int) != 0) = true := by rw [bne_iff_ne]; omega
  generalize (rdAt s a).n = n at HR
  generalize endAt a (rdAt s a) = t at HR
  generalize (rdAt s a).e = er at HR hb ⊢
  clear he hs
  go_enter Tryz.func95, Tryz.ntmps95
  go_wp2_with fail
  refine (HR.out _).mono ?_
  rintro e w' ⟨rfl, rfl⟩
  go_wp2
  refine bodyPost_ret (v := .tuple #[.agg #[.string s, .int .i64 a, .int .i64 er], .int .u64 0]) (by rw [results_cell_tmp rfl]; go_simp) rfl ⟨rfl, ?_⟩
  exact below_two _ _ _

set_option maxRecDepth 100000 in
set_option maxHeartbeats 800000 in
theorem ref_number_not (s : ByteArray) (a : Int) (m : Nat) (w : World) (hs : s.size ≤ maxLen) (he : (rdAt s a).e = 0) (hf : m < (rdAt s a).n) :
    Calls Tryz.prog 95 #[.agg #[.string s, .int .i64 a, .int .i64 0], .int .u64 m] w fun r w' => r = .returned (.tuple #[.agg #[.string s, .int .i64 a, .int .i64 2], .int .u64 0]) ∧ Below w.heap.size w w' := by
  have HR := show Hid _ from fun w => ref_readNumber_any s a w hs
  rw [he] at HR
  generalize (rdAt s a).n = n at HR hf
  generalize endAt a (rdAt s a) = t at HR
  clear he hs
  go_enter Tryz.func95, Tryz.ntmps95
  go_wp2_with fail
  refine (HR.out _).mono ?_
  rintro e w' ⟨rfl, rfl⟩
  go_wp2
  refine bodyPost_ret (v := .tuple #[.agg #[.string s, .int .i64 a, .int .i64 2], .int .u64 0]) (by rw [results_cell_tmp rfl]; go_simp) rfl ⟨rfl, ?_⟩
  exact below_two _ _ _

set_option maxRecDepth 100000 in
set_option maxHeartbeats 800000 in
theorem ref_number_fit (s : ByteArray) (a : Int) (m : Nat) (w : World) (hs : s.size ≤ maxLen) (he : (rdAt s a).e = 0) (hf : (rdAt s a).n ≤ m) :
    Calls Tryz.prog 95 #[.agg #[.string s, .int .i64 a, .int .i64 0], .int .u64 m] w fun r w' => r = .returned (.tuple #[.agg #[.string s, .int .i64 (endAt a (rdAt s a)), .int .i64 0], .int .u64 (rdAt s a).n]) ∧ Below w.heap.size w w' := by
  have HR := show Hid _ from fun w => ref_readNumber_any s a w hs
  rw [he] at HR
  generalize (rdAt s a).n = n at HR hf ⊢
  generalize endAt a (rdAt s a) = t at HR ⊢
  clear he hs
  go_enter Tryz.func95, Tryz.ntmps95
  go_wp2_with fail
  refine (HR.out _).mono ?_
  rintro e w' ⟨rfl, rfl⟩
  go_wp2
  refine bodyPost_ret (v := .tuple #[.agg #[.string s, .int .i64 t, .int .i64 0], .int .u64 n]) (by rw [results_cell_tmp rfl]; go_simp) rfl ⟨rfl, ?_⟩
  exact below_two _ _ _

theorem ref_reader_number (s : ByteArray) (a e : Int) (m : Nat) (w : World) (hs : s.size ≤ maxLen) :
    Calls Tryz.prog 95 #[.agg #[.string s, .int .i64 a, .int .i64 e], .int .u64 m] w fun r w' => r = .returned (.tuple #[.agg #[.string s, .int .i64 (nS s a e (fitN m (rdAt s a).n) 2).a, .int .i64 (nS s a e (fitN m (rdAt s a).n) 2).e], .int .u64 (nS s a e (fitN m (rdAt s a).n) 2).n]) ∧ Below w.heap.size w w' := by
  unfold nS
  by_cases he : e = 0
  · subst he
    rw [if_pos rfl]
    by_cases hr : (rdAt s a).e = 0
    · rw [if_pos hr]
      by_cases hf : (rdAt s a).n ≤ m
      · rw [if_pos (show fitN m (rdAt s a).n = true from decide_eq_true hf)]; exact ref_number_fit s a m w hs hr hf
      · rw [if_neg (show ¬ fitN m (rdAt s a).n = true from fun h => hf (of_decide_eq_true h))]; exact ref_number_not s a m w hs hr (by omega)
    · rw [if_neg hr]; exact ref_number_bad s a m w hs hr
  · rw [if_neg he]; exact ref_number_err s a e m w he

set_option maxRecDepth 100000 in
set_option maxHeartbeats 800000 in
theorem ref_int_pos (s : ByteArray) (a e : Int) (m : Nat) (w : World) (hs : s.size ≤ maxLen) (hm : (m : Int) ≤ 9223372036854775807) (hS : (nS s a e (fitN m (rdAt s a).n) 2).n ≤ 9223372036854775807) :
    Calls Tryz.prog 44 #[.agg #[.string s, .int .i64 a, .int .i64 e], .int .i64 m] w fun r w' => r = .returned (.tuple #[.agg #[.string s, .int .i64 (nS s a e (fitN m (rdAt s a).n) 2).a, .int .i64 (nS s a e (fitN m (rdAt s a).n) 2).e], .int .i64 (nS s a e (fitN m (rdAt s a).n) 2).n]) ∧ Below w.heap.size w w' := by
  have HR := show Hid _ from fun w => ref_reader_number s a e m w hs
  generalize nS s a e (fitN m (rdAt s a).n) 2 = S at HR hS ⊢
  go_enter Tryz.func44, Tryz.ntmps44
  go_wp2_with fail
  refine (HR.out _).mono ?_
  rintro e w' ⟨rfl, hB⟩
  have hBx := fun o => ((Box.made _ _ _ _ _).keeps hB).keeps ((Below.refl _ _).alloc (Nat.le_refl _) o)
  simp only [World.size_alloc] at hBx
  have c0 := fun o => (hBx o).1.1
  have c1 := fun o => (hBx o).1.2.1
  have c2 := fun o => (hBx o).1.2.2
  have f0 := fun o => (hBx o).2.1
  have f1 := fun o => (hBx o).2.2.1
  have f2 := fun o => (hBx o).2.2.2
  clear hBx
  go_wp2
  refine bodyPost_ret (v := .tuple #[.agg #[.string s, .int .i64 S.a, .int .i64 S.e], .int .i64 S.n]) (by rw [results_cell_tmp rfl]; go_simp) rfl ⟨rfl, ?_⟩
  exact below_call hB

set_option maxRecDepth 100000 in
set_option maxHeartbeats 800000 in
theorem ref_int_err (s : ByteArray) (a : Int) (e m : Int) (w : World) (he : e ≠ 0) (hm : m < 0) :
    Calls Tryz.prog 44 #[.agg #[.string s, .int .i64 a, .int .i64 e], .int .i64 m] w fun r w' => r = .returned (.tuple #[.agg #[.string s, .int .i64 a, .int .i64 e], .int .i64 0]) ∧ Below w.heap.size w w' := by
  have hb : (e != 0) = true := by rw [bne_iff_ne]; exact he
  clear he
  go_enter Tryz.func44, Tryz.ntmps44
  go_wp2
  refine bodyPost_ret (v := .tuple #[.agg #[.string s, .int .i64 a, .int .i64 e], .int .i64 0]) (by rw [results_cell_tmp rfl]; go_simp) rfl ⟨rfl, ?_⟩
  exact below_two _ _ _

set_option maxRecDepth 100000 in
set_option maxHeartbeats 800000 in
theorem ref_int_bad (s : ByteArray) (a : Int) (m : Int) (w : World) (hs : s.size ≤ maxLen) (he : (rdAt s a).e ≠ 0) (hm : m < 0) :
    Calls Tryz.prog 44 #[.agg #[.string s, .int .i64 a, .int .i64 0], .int .i64 m] w fun r w' => r = .returned (.tuple #[.agg #[.string s, .int .i64 a, .int .i64 (rdAt s a).e], .int .i64 0]) ∧ Below w.heap.size w w' := by
  have HR := show Hid _ from fun w => ref_readNumber_any s a w hs
  have hb : (((rdAt s a).e : Int) != 0) = true := by rw [bne_iff_ne]; omega
  generalize (rdAt s a).n = n at HR
  generalize endAt a (rdAt s a) = t at HR
  generalize (rdAt s a).e = er at HR hb ⊢
  clear he hs
  have hb2 : ((er : Int) == 0) = false := by simpa using hb
  go_enter Tryz.func44, Tryz.ntmps44
  go_wp2_with fail
  refine (HR.out _).mono ?_
  rintro e w' ⟨rfl, rfl⟩
  go_wp2
  refine bodyPost_ret (v := .tuple #[.agg #[.string s, .int .i64 a, .int .i64 er], .int .i64 0]) (by rw [results_cell_tmp rfl]; go_simp) rfl ⟨rfl, ?_⟩
  exact below_two _ _ _

set_option maxRecDepth 100000 in
set_option maxHeartbeats 800000 in
theorem ref_int_not (s : ByteArray) (a : Int) (m : Int) (w : World) (hs : s.size ≤ maxLen) (he : (rdAt s a).e = 0) (hm : m < 0) :
    Calls Tryz.prog 44 #[.agg #[.string s, .int .i64 a, .int .i64 0], .int .i64 m] w fun r w' => r = .returned (.tuple #[.agg #[.string s, .int .i64 a, .int .i64 2], .int .i64 0]) ∧ Below w.heap.size w w' := by
  have HR := show Hid _ from fun w => ref_readNumber_any s a w hs
  rw [he] at HR
  generalize (rdAt s a).n = n at HR
  generalize endAt a (rdAt s a) = t at HR
  clear he hs
  go_enter Tryz.func44, Tryz.ntmps44
  go_wp2_with fail
  refine (HR.out _).mono ?_
  rintro e w' ⟨rfl, rfl⟩
  go_wp2
  refine bodyPost_ret (v := .tuple #[.agg #[.string s, .int .i64 a, .int .i64 2], .int .i64 0]) (by rw [results_cell_tmp rfl]; go_simp) rfl ⟨rfl, ?_⟩
  exact below_two _ _ _

theorem fitI_nat (m n : Nat) : fitI m n = fitN m n := by simp [fitI, fitN]
theorem ref_reader_int (s : ByteArray) (a e m : Int) (w : World) (hs : s.size ≤ maxLen) (hm : m ≤ 9223372036854775807) (hS : (nS s a e (fitI m (rdAt s a).n) 2).n ≤ 9223372036854775807) :
    Calls Tryz.prog 44 #[.agg #[.string s, .int .i64 a, .int .i64 e], .int .i64 m] w fun r w' => r = .returned (.tuple #[.agg #[.string s, .int .i64 (nS s a e (fitI m (rdAt s a).n) 2).a, .int .i64 (nS s a e (fitI m (rdAt s a).n) 2).e], .int .i64 (nS s a e (fitI m (rdAt s a).n) 2).n]) ∧ Below w.heap.size w w' := by
  by_cases h0 : 0 ≤ m
  · obtain ⟨k, rfl⟩ := Int.eq_ofNat_of_zero_le h0
    rw [fitI_nat] at hS ⊢
    exact ref_int_pos s a e k w hs hm hS
  · have hn : m < 0 := by omega
    have hf : fitI m (rdAt s a).n = false := by simp [fitI]; omega
    rw [hf]
    unfold nS
    by_cases he : e = 0
    · subst he
      rw [if_pos rfl]
      by_cases hr : (rdAt s a).e = 0
      · rw [if_pos hr, if_neg (by decide)]; exact ref_int_not s a m w hs hr hn
      · rw [if_neg hr]; exact ref_int_bad s a m w hs hr hn
    · rw [if_neg he]; exact ref_int_err s a e m w he hn
theorem nS_int (s : ByteArray) (a e m : Int) (hm : m ≤ 9223372036854775807) : (nS s a e (fitI m (rdAt s a).n) 2).n ≤ 9223372036854775807 := by
  unfold nS
  split
  · split
    · split
      · next h => have := of_decide_eq_true (show decide (0 ≤ m ∧ ((rdAt s a).n : Int) ≤ m) = true from h); show (rdAt s a).n ≤ _; omega
      · simp
    · simp
  · simp

set_option maxRecDepth 100000 in
set_option maxHeartbeats 800000 in
theorem ref_text_err (s : ByteArray) (a : Int) (e m : Int) (w : World) (he : e ≠ 0) :
    Calls Tryz.prog 46 #[.agg #[.string s, .int .i64 a, .int .i64 e], .int .i64 m] w fun r w' => r = .returned (.tuple #[.agg #[.string s, .int .i64 a, .int .i64 e], .string ⟨#[]⟩]) ∧ Below w.heap.size w w' := by
  have hb : (e != 0) = true := by rw [bne_iff_ne]; exact he
  clear he
  go_enter Tryz.func46, Tryz.ntmps46
  go_wp2
  refine bodyPost_ret (v := .tuple #[.agg #[.string s, .int .i64 a, .int .i64 e], .string ⟨#[]⟩]) (by rw [results_cell_tmp rfl]; go_simp) rfl ⟨rfl, ?_⟩
  exact below_two _ _ _

set_option maxRecDepth 100000 in
set_option maxHeartbeats 800000 in
theorem ref_text_bad (s : ByteArray) (a : Int) (m : Int) (w : World) (hs : s.size ≤ 140737488355328) (he : (txtAt s a).e ≠ 0) :
    Calls Tryz.prog 46 #[.agg #[.string s, .int .i64 a, .int .i64 0], .int .i64 m] w fun r w' => r = .returned (.tuple #[.agg #[.string s, .int .i64 a, .int .i64 (txtAt s a).e], .string ⟨#[]⟩]) ∧ Below w.heap.size w w' := by
  have HR := show Hid _ from fun w => ref_readText_any s a w hs
  have hb : (((txtAt s a).e : Int) != 0) = true := by rw [bne_iff_ne]; omega
  generalize (txtAt s a).x = x at HR
  generalize (txtAt s a).to = t at HR
  generalize (txtAt s a).e = er at HR hb ⊢
  clear he hs
  go_enter Tryz.func46, Tryz.ntmps46
  go_wp2_with fail
  refine (HR.out _).mono ?_
  rintro e w' ⟨rfl, rfl⟩
  go_wp2
  refine bodyPost_ret (v := .tuple #[.agg #[.string s, .int .i64 a, .int .i64 er], .string ⟨#[]⟩]) (by rw [results_cell_tmp rfl]; go_simp) rfl ⟨rfl, ?_⟩
  exact below_two _ _ _

set_option maxRecDepth 100000 in
set_option maxHeartbeats 800000 in
theorem ref_text_not (s : ByteArray) (a : Int) (m : Int) (w : World) (hs : s.size ≤ 140737488355328) (he : (txtAt s a).e = 0) (hf : m < ((txtAt s a).x.size : Int)) :
    Calls Tryz.prog 46 #[.agg #[.string s, .int .i64 a, .int .i64 0], .int .i64 m] w fun r w' => r = .returned (.tuple #[.agg #[.string s, .int .i64 a, .int .i64 2], .string ⟨#[]⟩]) ∧ Below w.heap.size w w' := by
  have HR := show Hid _ from fun w => ref_readText_any s a w hs
  rw [he] at HR
  generalize (txtAt s a).x = x at HR hf
  generalize (txtAt s a).to = t at HR
  clear he hs
  go_enter Tryz.func46, Tryz.ntmps46
  go_wp2_with fail
  refine (HR.out _).mono ?_
  rintro e w' ⟨rfl, rfl⟩
  go_wp2
  refine bodyPost_ret (v := .tuple #[.agg #[.string s, .int .i64 a, .int .i64 2], .string ⟨#[]⟩]) (by rw [results_cell_tmp rfl]; go_simp) rfl ⟨rfl, ?_⟩
  exact below_two _ _ _

set_option maxRecDepth 100000 in
set_option maxHeartbeats 800000 in
theorem ref_text_fit (s : ByteArray) (a : Int) (m : Int) (w : World) (hs : s.size ≤ 140737488355328) (he : (txtAt s a).e = 0) (hf : ((txtAt s a).x.size : Int) ≤ m) :
    Calls Tryz.prog 46 #[.agg #[.string s, .int .i64 a, .int .i64 0], .int .i64 m] w fun r w' => r = .returned (.tuple #[.agg #[.string s, .int .i64 (txtAt s a).to, .int .i64 0], .string (txtAt s a).x]) ∧ Below w.heap.size w w' := by
  have HR := show Hid _ from fun w => ref_readText_any s a w hs
  rw [he] at HR
  generalize (txtAt s a).x = x at HR hf ⊢
  generalize (txtAt s a).to = t at HR ⊢
  clear he hs
  go_enter Tryz.func46, Tryz.ntmps46
  go_wp2_with fail
  refine (HR.out _).mono ?_
  rintro e w' ⟨rfl, rfl⟩
  go_wp2
  refine bodyPost_ret (v := .tuple #[.agg #[.string s, .int .i64 t, .int .i64 0], .string x]) (by rw [results_cell_tmp rfl]; go_simp) rfl ⟨rfl, ?_⟩
  exact below_two _ _ _

theorem ref_reader_text (s : ByteArray) (a e m : Int) (w : World) (hs : s.size ≤ 140737488355328) :
    Calls Tryz.prog 46 #[.agg #[.string s, .int .i64 a, .int .i64 e], .int .i64 m] w fun r w' => r = .returned (.tuple #[.agg #[.string s, .int .i64 (tS s a e m).a, .int .i64 (tS s a e m).e], .string (tS s a e m).x]) ∧ Below w.heap.size w w' := by
  unfold tS
  by_cases he : e = 0
  · subst he
    rw [if_pos rfl]
    by_cases hr : (txtAt s a).e = 0
    · rw [if_pos hr]
      by_cases hm : ((txtAt s a).x.size : Int) ≤ m
      · rw [if_pos hm]; exact ref_text_fit s a m w hs hr hm
      · rw [if_neg hm]; exact ref_text_not s a m w hs hr (by omega)
    · rw [if_neg hr]; exact ref_text_bad s a m w hs hr
  · rw [if_neg he]; exact ref_text_err s a e m w he

set_option maxRecDepth 100000 in
set_option maxHeartbeats 800000 in
theorem ref_end_left (s : ByteArray) (a : Int)  (w : World) (hl : a < (s.size : Int)) :
    Calls Tryz.prog 47 #[.agg #[.string s, .int .i64 a, .int .i64 0]] w fun r w' => r = .returned (.agg #[.string s, .int .i64 a, .int .i64 2]) ∧ Below w.heap.size w w' := by

  go_enter Tryz.func47, Tryz.ntmps47
  go_wp2
  refine bodyPost_ret (v := .agg #[.string s, .int .i64 a, .int .i64 2]) (by rw [results_one rfl]; go_simp) rfl ⟨rfl, ?_⟩
  exact below_two _ _ _

set_option maxRecDepth 100000 in
set_option maxHeartbeats 800000 in
theorem ref_end_done (s : ByteArray) (a : Int)  (w : World) (hl : (s.size : Int) ≤ a) :
    Calls Tryz.prog 47 #[.agg #[.string s, .int .i64 a, .int .i64 0]] w fun r w' => r = .returned (.agg #[.string s, .int .i64 a, .int .i64 0]) ∧ Below w.heap.size w w' := by

  go_enter Tryz.func47, Tryz.ntmps47
  go_wp2
  refine bodyPost_ret (v := .agg #[.string s, .int .i64 a, .int .i64 0]) (by rw [results_one rfl]; go_simp) rfl ⟨rfl, ?_⟩
  exact below_two _ _ _

set_option maxRecDepth 100000 in
set_option maxHeartbeats 800000 in
theorem ref_end_err (s : ByteArray) (a : Int) (e : Int) (w : World) (he : e ≠ 0) :
    Calls Tryz.prog 47 #[.agg #[.string s, .int .i64 a, .int .i64 e]] w fun r w' => r = .returned (.agg #[.string s, .int .i64 a, .int .i64 e]) ∧ Below w.heap.size w w' := by
  have hb : (e == 0) = false := by rw [beq_eq_false_iff_ne]; exact he
  clear he
  go_enter Tryz.func47, Tryz.ntmps47
  go_wp2
  refine bodyPost_ret (v := .agg #[.string s, .int .i64 a, .int .i64 e]) (by rw [results_one rfl]; go_simp) rfl ⟨rfl, ?_⟩
  exact below_two _ _ _

end Go.Proofs.YtlkidnfgodficaaGreat
namespace Go.Proofs.YtlkidnfgodficaaGreat
open Go.RowKit
set_option linter.unusedVariables false

theorem ref_reader_end (s : ByteArray) (a e : Int) (w : World) :
    Calls Tryz.prog 47 #[.agg #[.string s, .int .i64 a, .int .i64 e]] w fun r w' => r = .returned (.agg #[.string s, .int .i64 a, .int .i64 (endE s a e)]) ∧ Below w.heap.size w w' := by
  unfold endE
  by_cases he : e = 0
  · subst he
    by_cases hl : a < (s.size : Int)
    · rw [if_pos ⟨rfl, hl⟩]; exact ref_end_left s a w hl
    · rw [if_neg (fun h => hl h.2)]; exact ref_end_done s a w (by omega)
  · rw [if_neg (fun h => he h.1)]; exact ref_end_err s a e w he

theorem rd_e2 (l : List UInt8) : ∀ k acc, (rd l k acc).e ≠ 2 := by
  induction l with
  | nil => intro k acc; simp [rd]
  | cons c r ih =>
    intro k acc
    rw [rd]
    split
    · simp
    · split
      · simp
      · exact ih _ _
theorem rdAt_e2 (s : ByteArray) (a : Int) : (rdAt s a).e ≠ 2 := by
  rw [rdAt]
  split
  · exact rd_e2 _ _ _
  · simp

set_option maxRecDepth 100000 in
set_option maxHeartbeats 800000 in
theorem ref_bool_err (s : ByteArray) (a e : Int) (w : World) (he : e ≠ 0) :
    Calls Tryz.prog 45 #[.agg #[.string s, .int .i64 a, .int .i64 e]] w fun r w' => r = .returned (.tuple #[.agg #[.string s, .int .i64 a, .int .i64 e], .bool false]) ∧ Below w.heap.size w w' := by
  have hb : (e != 0) = true := by rw [bne_iff_ne]; exact he
  clear he
  go_enter Tryz.func45, Tryz.ntmps45
  go_wp2
  refine bodyPost_ret (v := .tuple #[.agg #[.string s, .int .i64 a, .int .i64 e], .bool false]) (by rw [results_cell_tmp rfl]; go_simp) rfl ⟨rfl, ?_⟩
  exact below_two _ _ _

set_option maxRecDepth 100000 in
set_option maxHeartbeats 800000 in
theorem ref_bool_ok (s : ByteArray) (a a' e' : Int) (n : Nat) (w : World) (he : (e' == 2) = false)
    (HR : Hid (∀ w, Calls Tryz.prog 95 #[.agg #[.string s, .int .i64 a, .int .i64 0], .int .u64 1] w fun r w' => r = .returned (.tuple #[.agg #[.string s, .int .i64 a', .int .i64 e'], .int .u64 n]) ∧ Below w.heap.size w w')) :
    Calls Tryz.prog 45 #[.agg #[.string s, .int .i64 a, .int .i64 0]] w fun r w' => r = .returned (.tuple #[.agg #[.string s, .int .i64 a', .int .i64 e'], .bool ((n : Int) == 1)]) ∧ Below w.heap.size w w' := by
  go_enter Tryz.func45, Tryz.ntmps45
  go_wp2_with fail
  refine (HR.out _).mono ?_
  rintro e w' ⟨rfl, hB⟩
  have hBx := fun o => ((Box.made _ _ _ _ _).keeps hB).keeps ((Below.refl _ _).alloc (Nat.le_refl _) o)
  simp only [World.size_alloc] at hBx
  have c0 := fun o => (hBx o).1.1
  have c1 := fun o => (hBx o).1.2.1
  have c2 := fun o => (hBx o).1.2.2
  have f0 := fun o => (hBx o).2.1
  have f1 := fun o => (hBx o).2.2.1
  have f2 := fun o => (hBx o).2.2.2
  clear hBx
  go_wp2
  refine bodyPost_ret (v := .tuple #[.agg #[.string s, .int .i64 a', .int .i64 e'], .bool ((n : Int) == 1)]) (by rw [results_cell_tmp rfl]; go_simp) rfl ⟨rfl, ?_⟩
  exact below_call hB

set_option maxRecDepth 100000 in
set_option maxHeartbeats 800000 in
theorem ref_bool_not (s : ByteArray) (a a' : Int) (n : Nat) (w : World)
    (HR : Hid (∀ w, Calls Tryz.prog 95 #[.agg #[.string s, .int .i64 a, .int .i64 0], .int .u64 1] w fun r w' => r = .returned (.tuple #[.agg #[.string s, .int .i64 a', .int .i64 2], .int .u64 n]) ∧ Below w.heap.size w w')) :
    Calls Tryz.prog 45 #[.agg #[.string s, .int .i64 a, .int .i64 0]] w fun r w' => r = .returned (.tuple #[.agg #[.string s, .int .i64 a', .int .i64 3], .bool ((n : Int) == 1)]) ∧ Below w.heap.size w w' := by
  go_enter Tryz.func45, Tryz.ntmps45
  go_wp2_with fail
  refine (HR.out _).mono ?_
  rintro e w' ⟨rfl, hB⟩
  have hBx := fun o => ((Box.made _ _ _ _ _).keeps hB).keeps ((Below.refl _ _).alloc (Nat.le_refl _) o)
  simp only [World.size_alloc] at hBx
  have c0 := fun o => (hBx o).1.1
  have c1 := fun o => (hBx o).1.2.1
  have c2 := fun o => (hBx o).1.2.2
  have f0 := fun o => (hBx o).2.1
  have f1 := fun o => (hBx o).2.2.1
  have f2 := fun o => (hBx o).2.2.2
  clear hBx
  go_wp2
  refine bodyPost_ret (v := .tuple #[.agg #[.string s, .int .i64 a', .int .i64 3], .bool ((n : Int) == 1)]) (by rw [results_cell_tmp rfl]; go_simp) rfl ⟨rfl, ?_⟩
  exact below_call hB

theorem ref_reader_bool (s : ByteArray) (a e : Int) (w : World) (hs : s.size ≤ maxLen) :
    Calls Tryz.prog 45 #[.agg #[.string s, .int .i64 a, .int .i64 e]] w fun r w' => r = .returned (.tuple #[.agg #[.string s, .int .i64 (nS s a e (fitBl (rdAt s a).n) 3).a, .int .i64 (nS s a e (fitBl (rdAt s a).n) 3).e], .bool (((nS s a e (fitBl (rdAt s a).n) 3).n : Int) == 1)]) ∧ Below w.heap.size w w' := by
  by_cases he : e = 0
  · subst he
    have HR := show Hid _ from fun w => ref_reader_number s a 0 1 w hs
    have hfe : fitBl (rdAt s a).n = fitN 1 (rdAt s a).n := rfl
    rw [hfe]
    unfold nS at HR ⊢
    rw [if_pos rfl] at HR ⊢
    by_cases hr : (rdAt s a).e = 0
    · rw [if_pos hr] at HR ⊢
      cases hf : fitN 1 (rdAt s a).n with
      | true => rw [hf, if_pos rfl] at HR; rw [if_pos rfl]; exact ref_bool_ok s a _ _ _ w rfl HR
      | false => rw [hf, if_neg (by decide)] at HR; rw [if_neg (by decide)]; exact ref_bool_not s a _ _ w HR
    · rw [if_neg hr] at HR ⊢; exact ref_bool_ok s a _ _ _ w (by rw [beq_eq_false_iff_ne]; exact fun h => rdAt_e2 s a (Int.ofNat_inj.mp (show ((rdAt s a).e : Int) = (2 : Nat) from h))) HR
  · unfold nS
    rw [if_neg he]; exact ref_bool_err s a e w he
end Go.Proofs.YtlkidnfgodficaaGreat
