/- What a disk that is nil answers; the walk of the law DiskNil. -/
import Derived.Test.YtnlodlpjokkepabAwake4
import Derived.Test.YtnlodlpjokkepabRNameW
namespace Go.Proofs.Ytnlodlpjokkepab
open Go.RowKit Go.Maps
set_option linter.unusedVariables false
set_option linter.unusedSimpArgs false

theorem nilDown (w : World) : DownIs w (.pointer none) true := .inl ⟨rfl, rfl⟩
set_option maxRecDepth 100000 in
theorem plan_nil (v : Value) (w : World) : Calls Try.prog 27 #[.pointer none, v] w fun e w' => e = .returned (.tuple #[]) ∧ w' = w := by
  go_enter Try.func27, Try.ntmps27
  go_wp2
  (try simp only [Exit.inBlock, Exit.then]); exact bodyPost_ret (results_none rfl _ _ _) rfl ⟨rfl, rfl⟩
set_option maxRecDepth 100000 in
theorem room_nil (n : Int) (w : World) : Calls Try.prog 29 #[.pointer none, .int .i64 n] w fun e w' => e = .returned (.tuple #[]) ∧ w' = w := by
  go_enter Try.func29, Try.ntmps29
  go_wp2
  (try simp only [Exit.inBlock, Exit.then]); exact bodyPost_ret (results_none rfl _ _ _) rfl ⟨rfl, rfl⟩
set_option maxRecDepth 100000 in
theorem changes_nil (w : World) : Calls Try.prog 26 #[.pointer none] w fun e w' => e = .returned (.int .i64 0) ∧ w' = w := by
  go_enter Try.func26, Try.ntmps26
  go_wp2
  go_ret; exact ⟨rfl, rfl⟩
set_option maxRecDepth 100000 in
theorem waits_nil (w : World) : Calls Try.prog 23 #[.pointer none] w fun e w' => e = .returned (.int .i64 0) ∧ w' = w := by
  go_enter Try.func23, Try.ntmps23
  go_wp2
  go_ret; exact ⟨rfl, rfl⟩
set_option maxRecDepth 100000 in
theorem clone_nil (w : World) : Calls Try.prog 36 #[.pointer none] w fun e w' => e = .returned (.pointer none) ∧ w' = w := by
  go_enter Try.func36, Try.ntmps36
  go_wp2
  go_ret; exact ⟨rfl, rfl⟩
set_option maxRecDepth 100000 in
theorem sync_down (dp : Value) (w : World) (h : DownIs w dp true) : Calls Try.prog 15 #[dp] w fun e w' => e = .returned (.int .i64 21) ∧ w' = w := by
  have HD := hid (down_any dp true w h)
  clear h
  go_enter Try.func15, Try.ntmps15
  go_wp2_with fail
  refine HD.out.mono ?_
  rintro e w1 ⟨rfl, rfl⟩
  go_wp2
  go_ret
  exact ⟨rfl, rfl⟩
set_option maxRecDepth 100000 in
theorem names_down (dp : Value) (w : World) (h : DownIs w dp true) : Calls Try.prog 21 #[dp] w fun e w' => e = .returned (.slice none 0 0) ∧ w' = w := by
  have HD := hid (down_any dp true w h)
  clear h
  go_enter Try.func21, Try.ntmps21
  go_wp2_with fail
  refine HD.out.mono ?_
  rintro e w1 ⟨rfl, rfl⟩
  go_wp2
  go_ret
  exact ⟨rfl, rfl⟩
set_option maxRecDepth 100000 in
theorem used_down (dp : Value) (w : World) (h : DownIs w dp true) : Calls Try.prog 30 #[dp] w fun e w' => e = .returned (.int .i64 0) ∧ w' = w := by
  have HD := hid (down_any dp true w h)
  clear h
  go_enter Try.func30, Try.ntmps30
  go_wp2_with fail
  refine HD.out.mono ?_
  rintro e w1 ⟨rfl, rfl⟩
  go_wp2
  go_ret
  exact ⟨rfl, rfl⟩

theorem ref21 (ns : List ByteArray) : refN true ns = 21 := rfl
theorem ne21 (ns : List ByteArray) : refN true ns ≠ 0 := by rw [ref21]; decide

set_option maxRecDepth 100000 in
set_option maxHeartbeats 4000000 in
theorem diskNil_core (s : ByteArray) (n : Int) (w : World) : Calls Try.prog 8 #[.string s, .int .i64 n] w fun e w' => e = .returned (.bool true) ∧ Below w.heap.size w w' := by
  have B : Hid (∀ W W', Below w.heap.size w W → Keep (fun _ => False) W W' → Below w.heap.size w W') := fun W W' hb k => ⟨k.os.trans hb.os, k.tape.trans hb.tape, k.output.trans hb.output, Nat.le_trans hb.size k.size, fun j hj => (k.block j (Nat.lt_of_lt_of_le hj hb.size) (fun h => h)).trans (hb.block j hj)⟩
  have F18 := hid (fun (W : World) => fail_down (.pointer none) n n W (nilDown W))
  have F27 := hid (fun (v : Value) (W : World) => plan_nil v W)
  have F29 := hid (fun (W : World) => room_nil n W)
  have F20 := hid (fun (W : World) => read_refused (.pointer none) true s W (nilDown W) (ne21 _))
  have F10 := hid (fun (W : World) => awake4 W)
  have F31 := hid (fun (W : World) => name_any s W)
  have F32 := hid (fun (W : World) => rname_any s W)
  have F17 := hid (fun (W : World) => append_refused (.pointer none) true s s W (nilDown W) (ne21 _))
  have F25 := hid (fun (W : World) => write_refused (.pointer none) true s s W (nilDown W) (ne21 _))
  have F28 := hid (fun (W : World) => move_refused (.pointer none) true s s W (nilDown W) (ne21 _))
  have F33 := hid (fun (W : World) => remove_refused (.pointer none) true s W (nilDown W) (ne21 _))
  have F34 := hid (fun (W : World) => cut_refused (.pointer none) true s n W (nilDown W) (ne21 _))
  have F15 := hid (fun (W : World) => sync_down (.pointer none) W (nilDown W))
  have F35 := hid (fun (W : World) => down_any (.pointer none) true W (nilDown W))
  have F19 := hid (fun (W : World) => up_nil W)
  have F21 := hid (fun (W : World) => names_down (.pointer none) W (nilDown W))
  have F30 := hid (fun (W : World) => used_down (.pointer none) W (nilDown W))
  have F26 := hid (fun (W : World) => changes_nil W)
  have F23 := hid (fun (W : World) => waits_nil W)
  have F36 := hid (fun (W : World) => clone_nil W)
  simp only [ref21] at F20 F17 F25 F28 F33 F34
  generalize nameOk s.data.toList = nb at F31 F32
  have HB0 := hid (Below.refl w.heap.size w)
  go_enter Try.func8, Try.ntmps8
  go_wp2_with fail
  refine (F18.out _).mono ?_
  rintro e w0 ⟨rfl, rfl⟩
  clear F18
  go_wp2_with fail
  refine (F27.out _ _).mono ?_
  rintro e w1 ⟨rfl, rfl⟩
  clear F27
  go_wp2_with fail
  refine (F29.out _).mono ?_
  rintro e w2 ⟨rfl, rfl⟩
  clear F29
  go_wp2_with fail
  refine (F20.out _).mono ?_
  rintro e w3 ⟨rfl, hk⟩
  first | (replace HB0 := hid (B.out _ _ HB0.out hk)) | (replace HB0 := hid (B.out _ _ (B.out _ _ HB0.out (keep_alloc _ _ _)) hk))
  clear F20 hk
  go_wp2_with fail
  refine (F10.out _).mono ?_
  rintro e w4 ⟨rfl, hk⟩
  replace HB0 := hid (HB0.out.trans (hk.mono HB0.out.size))
  clear F10 hk
  go_wp2_with fail
  refine (F31.out _).mono ?_
  rintro e w5 ⟨rfl, rfl⟩
  clear F31
  go_wp2_with fail
  refine (F32.out _).mono ?_
  rintro e w6 ⟨rfl, rfl⟩
  clear F32
  go_wp2_with fail
  refine (F17.out _).mono ?_
  rintro e w7 ⟨rfl, hk⟩
  first | (replace HB0 := hid (B.out _ _ HB0.out hk)) | (replace HB0 := hid (B.out _ _ (B.out _ _ HB0.out (keep_alloc _ _ _)) hk))
  clear F17 hk
  go_wp2_with fail
  refine (F25.out _).mono ?_
  rintro e w8 ⟨rfl, hk⟩
  first | (replace HB0 := hid (B.out _ _ HB0.out hk)) | (replace HB0 := hid (B.out _ _ (B.out _ _ HB0.out (keep_alloc _ _ _)) hk))
  clear F25 hk
  go_wp2_with fail
  refine (F28.out _).mono ?_
  rintro e w9 ⟨rfl, hk⟩
  first | (replace HB0 := hid (B.out _ _ HB0.out hk)) | (replace HB0 := hid (B.out _ _ (B.out _ _ HB0.out (keep_alloc _ _ _)) hk))
  clear F28 hk
  go_wp2_with fail
  refine (F33.out _).mono ?_
  rintro e w10 ⟨rfl, hk⟩
  first | (replace HB0 := hid (B.out _ _ HB0.out hk)) | (replace HB0 := hid (B.out _ _ (B.out _ _ HB0.out (keep_alloc _ _ _)) hk))
  clear F33 hk
  go_wp2_with fail
  refine (F34.out _).mono ?_
  rintro e w11 ⟨rfl, hk⟩
  first | (replace HB0 := hid (B.out _ _ HB0.out hk)) | (replace HB0 := hid (B.out _ _ (B.out _ _ HB0.out (keep_alloc _ _ _)) hk))
  clear F34 hk
  go_wp2_with fail
  refine (F15.out _).mono ?_
  rintro e w12 ⟨rfl, rfl⟩
  clear F15
  go_wp2_with fail
  refine (F35.out _).mono ?_
  rintro e w13 ⟨rfl, rfl⟩
  clear F35
  go_wp2_with fail
  refine (F19.out _).mono ?_
  rintro e w14 ⟨rfl, rfl⟩
  clear F19
  go_wp2_with fail
  refine (F21.out _).mono ?_
  rintro e w15 ⟨rfl, rfl⟩
  clear F21
  go_wp2_with fail
  refine (F30.out _).mono ?_
  rintro e w16 ⟨rfl, rfl⟩
  clear F30
  go_wp2_with fail
  refine (F26.out _).mono ?_
  rintro e w17 ⟨rfl, rfl⟩
  clear F26
  go_wp2_with fail
  refine (F23.out _).mono ?_
  rintro e w18 ⟨rfl, rfl⟩
  clear F23
  go_wp2_with fail
  refine (F36.out _).mono ?_
  rintro e w19 ⟨rfl, rfl⟩
  clear F36
  go_wp2
  go_ret
  exact ⟨rfl, HB0.out⟩
end Go.Proofs.Ytnlodlpjokkepab
