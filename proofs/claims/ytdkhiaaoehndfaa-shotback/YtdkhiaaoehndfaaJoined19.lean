/- Joined: The walk of the law ShotBytes. The walk of the law ShotBack. -/
import Derived.Test.YtdkhiaaoehndfaaJoined15
import Derived.Test.YtdkhiaaoehndfaaJoined17
import Derived.Deep.RegionHeld3
namespace Go.Proofs.Ytdkhiaaoehndfaa
open Go.RowKit Go.Maps
set_option linter.unusedVariables false
set_option linter.unusedSimpArgs false

theorem sdV_len (t : ByteArray) : (sdV t).ms.length ≤ 7 := by
  unfold sdV
  split
  · rename_i h
    unfold sdOk at h
    rw [Bool.and_eq_true] at h
    exact (chk_ok (beq_iff_eq.1 h.2)).2.2.2.1
  · simp [sh0]
theorem row_next {w W : World} {g : Nat} {l : List Value} {t : TypeId} (h : RowIs w g l t) (hb : Below w.heap.size w W) : RowIs W g l t := h.keep (hb.keep (fun _ => False)) (fun h => h)
/-- the three snapshots that the law holds, in their boxes -/
structure SbQ (w : World) (g4 g5 : Nat) (cs cx cy : List Value) (vx vy : Value) (ns : List Int) (W : World) : Prop where
  s : RowIs W w.heap.size cs 24
  x : RowIs W g4 cx 24
  y : RowIs W g5 cy 30
  ix : IntsI W vx ns
  iy : IntsI W vy ns
  b : Below w.heap.size w W
theorem SbQ.next {w W W' : World} {g4 g5 : Nat} {cs cx cy : List Value} {vx vy : Value} {ns : List Int} (h : SbQ w g4 g5 cs cx cy vx vy ns W) (hb : Below W.heap.size W W') : SbQ w g4 g5 cs cx cy vx vy ns W' :=
  ⟨row_next h.s hb, row_next h.x hb, row_next h.y hb, h.ix.next hb, h.iy.next hb, below_on h.b hb⟩
theorem SbQ.drew {w W : World} {g4 g5 : Nat} {cs cx cy : List Value} {vx vy : Value} {ns : List Int} (h : SbQ w g4 g5 cs cx cy vx vy ns W) : SbQ w g4 g5 cs cx cy vx vy ns W.drew := h.next (keep_below (keep_drew (fun _ => False) W) (fun _ _ h => h) (Nat.le_refl _))
theorem SbQ.cells {w W : World} {g4 g5 : Nat} {a0 a1 a2 a3 b0 b1 b2 b3 e0 e1 e2 e3 : Value} {vx vy : Value} {ns : List Int} (h : SbQ w g4 g5 [a0, a1, a2, a3] [b0, b1, b2, b3] [e0, e1, e2, e3] vx vy ns W) :
    (W.cell? ⟨w.heap.size, 0, none⟩ = some a0 ∧ W.cell? ⟨w.heap.size, 1, none⟩ = some a1 ∧ W.cell? ⟨w.heap.size, 2, none⟩ = some a2 ∧ W.cell? ⟨w.heap.size, 3, none⟩ = some a3) ∧
    (W.cell? ⟨g4, 0, none⟩ = some b0 ∧ W.cell? ⟨g4, 1, none⟩ = some b1 ∧ W.cell? ⟨g4, 2, none⟩ = some b2 ∧ W.cell? ⟨g4, 3, none⟩ = some b3) ∧
    (W.cell? ⟨g5, 0, none⟩ = some e0 ∧ W.cell? ⟨g5, 1, none⟩ = some e1 ∧ W.cell? ⟨g5, 2, none⟩ = some e2 ∧ W.cell? ⟨g5, 3, none⟩ = some e3) :=
  ⟨⟨h.s.cellAt rfl, h.s.cellAt rfl, h.s.cellAt rfl, h.s.cellAt rfl⟩, ⟨h.x.cellAt rfl, h.x.cellAt rfl, h.x.cellAt rfl, h.x.cellAt rfl⟩, ⟨h.y.cellAt rfl, h.y.cellAt rfl, h.y.cellAt rfl, h.y.cellAt rfl⟩⟩
theorem smS_refl (s : Sh) : smS s s = true := by simp [smS]
set_option maxRecDepth 100000 in
set_option maxHeartbeats 2000000 in
theorem shotBytes_walk (v : Value) (x : Sh) (t : ByteArray) (w : World) (h0 : IntsI w v x.ms) (zl : x.ms.length ≤ 17592186044416) (zd : x.da.size ≤ 140737488355328) (zt : t.size ≤ reachBytes) :
    Calls Try.prog 3 #[shV v x, .string t] w fun e w' => e = .returned (.bool true) ∧ Below w.heap.size w w' := by
  have ht : t.size ≤ 140737488355328 := Nat.le_trans zt (by decide)
  obtain ⟨ad, cap, rfl, -⟩ := h0.form
  have E1 : Hid (∀ W, Below w.heap.size w W → Calls Try.prog 8 #[.agg #[.int .i64 x.ix, .int .i64 x.tm, .slice ad x.ms.length cap, .string x.da]] W fun e w' => e = .returned (.tuple #[.string (encS x), .int .i64 (chkS x)]) ∧ Below W.heap.size W w') := fun W hW => encode_any _ x W (h0.next hW) (by omega)
  have E2 : Hid (∀ W, Below w.heap.size w W → Calls Try.prog 9 #[.agg #[.int .i64 x.ix, .int .i64 x.tm, .slice ad x.ms.length cap, .string x.da]] W fun e w' => e = .returned (.tuple #[.string (encS x), .int .i64 (chkS x)]) ∧ Below W.heap.size W w') := fun W hW => rencode_any _ x W (h0.next hW) (by omega)
  have C1 : Hid (∀ W, Below w.heap.size w W → Calls Try.prog 14 #[.agg #[.int .i64 x.ix, .int .i64 x.tm, .slice ad x.ms.length cap, .string x.da]] W fun e w' => e = .returned (.int .i64 (chkS x)) ∧ Below W.heap.size W w') := fun W hW => check_any _ x W (h0.next hW) (by omega)
  have C2 : Hid (∀ W, Below w.heap.size w W → Calls Try.prog 15 #[.agg #[.int .i64 x.ix, .int .i64 x.tm, .slice ad x.ms.length cap, .string x.da]] W fun e w' => e = .returned (.int .i64 (chkS x)) ∧ Below W.heap.size W w') := fun W hW => rcheck_any _ x W (h0.next hW) (by omega)
  have RF : Hid (∀ (ad : Option Addr) (m cap : Nat) (i j : Int) (d : ByteArray) W, Calls Try.prog 10 #[.agg #[.int .i64 i, .int .i64 j, .slice ad m cap, .string d]] W fun e w' => e = .returned (.agg #[.int .i64 i, .int .i64 j, .slice ad m cap, .string d]) ∧ Below W.heap.size W w') := fun ad m cap i j d W => refOf_any ad m cap ⟨i, j, [], d⟩ W
  have D1 := hid (fun W => sdecode_any t W ht)
  have D2 := hid (fun W => rsdecode_any t W ht)
  have AW := hid (fun W => awake7 W)
  have LD := hid (sdV_len t)
  have SM : Hid (∀ (y z : Value) (s : Sh) W, IntsI W y s.ms → IntsI W z s.ms → s.ms.length ≤ 7 → Calls Try.prog 16 #[.agg #[.int .i64 s.ix, .int .i64 s.tm, y, .string s.da], .agg #[.int .i64 s.ix, .int .i64 s.tm, z, .string s.da]] W fun e w' => e = .returned (.bool true) ∧ Below W.heap.size W w') := fun y z s W hy hz hl => by
    have := rsame_any y z s s W hy hz (by omega)
    rw [smS_refl] at this
    exact this
  unfold shV
  unfold shV at D1 D2
  generalize sdV t = DV at *
  generalize sdE t = DE at *
  generalize encS x = X at *
  generalize chkS x = K at *
  have hx : (X.data.toList == X.data.toList) = true := beq_self_eq_true _
  have hk : (K == K) = true := beq_self_eq_true _
  have hd : (DE == DE) = true := beq_self_eq_true _
  obtain ⟨ix, tm, ms, da⟩ := x
  obtain ⟨jx, jm, ns, ea⟩ := DV
  simp only at *
  clear h0 zl zd zt ht
  generalize ms.length = m at *
  go_enter Try.func3, Try.ntmps3
  go_wp2_with fail
  refine (E1.out _ (below_al (Below.refl _ _) _)).mono ?_
  rintro e w1 ⟨rfl, b1⟩
  have R1 := hid (row_next (srow w [.int .i64 ix, .int .i64 tm, .slice ad m cap, .string da] 24) b1)
  have B1 := hid (below_on (below_al (Below.refl _ w) _) b1)
  clear b1 E1
  have a0 := R1.out.cellAt (o := 0) rfl
  have a1 := R1.out.cellAt (o := 1) rfl
  have a2 := R1.out.cellAt (o := 2) rfl
  have a3 := R1.out.cellAt (o := 3) rfl
  go_wp2_with fail
  refine (RF.out _ _ _ _ _ _ _).mono ?_
  rintro e w2 ⟨rfl, b2⟩
  have R2 := hid (row_next R1.out b2)
  have B2 := hid (below_on B1.out b2)
  clear b2 R1 B1 a0 a1 a2 a3
  go_wp2_with fail
  refine (E2.out _ B2.out).mono ?_
  rintro e w3 ⟨rfl, b3⟩
  have R3 := hid (row_next R2.out b3)
  have B3 := hid (below_on B2.out b3)
  clear b3 R2 B2 E2
  go_wp2_with fail
  refine (D1.out _).mono ?_
  rintro e w4 ⟨ad4, cap4, rfl, o4, b4⟩
  have R4 := hid (row_old (row_next R3.out b4) (.cells #[.int .i64 jx, .int .i64 jm, .slice ad4 ns.length cap4, .string ea] 24))
  have B4 := hid (below_al (below_on B3.out b4) (.cells #[.int .i64 jx, .int .i64 jm, .slice ad4 ns.length cap4, .string ea] 24))
  have X4 := hid (srow w4 [.int .i64 jx, .int .i64 jm, .slice ad4 ns.length cap4, .string ea] 24)
  have I4 := hid (o4.ints.next ((Below.refl _ _).alloc (Nat.le_refl _) (.cells #[.int .i64 jx, .int .i64 jm, .slice ad4 ns.length cap4, .string ea] 24)))
  clear b4 o4 R3 B3 D1
  go_wp2_with fail
  refine (D2.out _).mono ?_
  rintro e w5 ⟨ad5, cap5, rfl, o5, b5⟩
  have R5 := hid (row_old (row_next R4.out b5) (.cells #[.int .i64 jx, .int .i64 jm, .slice ad5 ns.length cap5, .string ea] 30))
  have X5 := hid (row_old (row_next X4.out b5) (.cells #[.int .i64 jx, .int .i64 jm, .slice ad5 ns.length cap5, .string ea] 30))
  have Y5 := hid (srow w5 [.int .i64 jx, .int .i64 jm, .slice ad5 ns.length cap5, .string ea] 30)
  have B5 := hid (below_al (below_on B4.out b5) (.cells #[.int .i64 jx, .int .i64 jm, .slice ad5 ns.length cap5, .string ea] 30))
  have I5 := hid ((I4.out.next b5).next ((Below.refl _ _).alloc (Nat.le_refl _) (.cells #[.int .i64 jx, .int .i64 jm, .slice ad5 ns.length cap5, .string ea] 30)))
  have J5 := hid (o5.next ((Below.refl _ _).alloc (Nat.le_refl _) (.cells #[.int .i64 jx, .int .i64 jm, .slice ad5 ns.length cap5, .string ea] 30)))
  clear b5 o5 R4 X4 B4 I4 D2
  generalize w4.heap.size = g4 at *
  have Q5 : Hid (SbQ w g4 w5.heap.size [.int .i64 ix, .int .i64 tm, .slice ad m cap, .string da] [.int .i64 jx, .int .i64 jm, .slice ad4 ns.length cap4, .string ea] [.int .i64 jx, .int .i64 jm, .slice ad5 ns.length cap5, .string ea] (.slice ad4 ns.length cap4) (.slice ad5 ns.length cap5) ns _) := ⟨R5.out, X5.out, Y5.out, I5.out, J5.out, B5.out⟩
  have h5 := Q5.out.cells
  clear R5 X5 Y5 I5 J5 B5
  have AW6 : Hid (∀ W, SbQ w g4 w5.heap.size [.int .i64 ix, .int .i64 tm, .slice ad m cap, .string da] [.int .i64 jx, .int .i64 jm, .slice ad4 ns.length cap4, .string ea] [.int .i64 jx, .int .i64 jm, .slice ad5 ns.length cap5, .string ea] (.slice ad4 ns.length cap4) (.slice ad5 ns.length cap5) ns W → Calls Try.prog 13 #[] W fun e w' => e = .returned (.bool true) ∧ ((w'.cell? ⟨w.heap.size, 0, none⟩ = some (.int .i64 ix) ∧ w'.cell? ⟨w.heap.size, 1, none⟩ = some (.int .i64 tm) ∧ w'.cell? ⟨w.heap.size, 2, none⟩ = some (.slice ad m cap) ∧ w'.cell? ⟨w.heap.size, 3, none⟩ = some (.string da)) ∧ (w'.cell? ⟨g4, 0, none⟩ = some (.int .i64 jx) ∧ w'.cell? ⟨g4, 1, none⟩ = some (.int .i64 jm) ∧ w'.cell? ⟨g4, 2, none⟩ = some (.slice ad4 ns.length cap4) ∧ w'.cell? ⟨g4, 3, none⟩ = some (.string ea)) ∧ (w'.cell? ⟨w5.heap.size, 0, none⟩ = some (.int .i64 jx) ∧ w'.cell? ⟨w5.heap.size, 1, none⟩ = some (.int .i64 jm) ∧ w'.cell? ⟨w5.heap.size, 2, none⟩ = some (.slice ad5 ns.length cap5) ∧ w'.cell? ⟨w5.heap.size, 3, none⟩ = some (.string ea))) ∧ Hid (SbQ w g4 w5.heap.size [.int .i64 ix, .int .i64 tm, .slice ad m cap, .string da] [.int .i64 jx, .int .i64 jm, .slice ad4 ns.length cap4, .string ea] [.int .i64 jx, .int .i64 jm, .slice ad5 ns.length cap5, .string ea] (.slice ad4 ns.length cap4) (.slice ad5 ns.length cap5) ns w')) := fun W q => (AW.out W).mono fun e w' ⟨he, hb⟩ => ⟨he, (q.next hb).cells, q.next hb⟩
  have C17 : Hid (∀ W, SbQ w g4 w5.heap.size [.int .i64 ix, .int .i64 tm, .slice ad m cap, .string da] [.int .i64 jx, .int .i64 jm, .slice ad4 ns.length cap4, .string ea] [.int .i64 jx, .int .i64 jm, .slice ad5 ns.length cap5, .string ea] (.slice ad4 ns.length cap4) (.slice ad5 ns.length cap5) ns W → Calls Try.prog 14 #[.agg #[.int .i64 ix, .int .i64 tm, .slice ad m cap, .string da]] W fun e w' => e = .returned (.int .i64 K) ∧ ((w'.cell? ⟨w.heap.size, 0, none⟩ = some (.int .i64 ix) ∧ w'.cell? ⟨w.heap.size, 1, none⟩ = some (.int .i64 tm) ∧ w'.cell? ⟨w.heap.size, 2, none⟩ = some (.slice ad m cap) ∧ w'.cell? ⟨w.heap.size, 3, none⟩ = some (.string da)) ∧ (w'.cell? ⟨g4, 0, none⟩ = some (.int .i64 jx) ∧ w'.cell? ⟨g4, 1, none⟩ = some (.int .i64 jm) ∧ w'.cell? ⟨g4, 2, none⟩ = some (.slice ad4 ns.length cap4) ∧ w'.cell? ⟨g4, 3, none⟩ = some (.string ea)) ∧ (w'.cell? ⟨w5.heap.size, 0, none⟩ = some (.int .i64 jx) ∧ w'.cell? ⟨w5.heap.size, 1, none⟩ = some (.int .i64 jm) ∧ w'.cell? ⟨w5.heap.size, 2, none⟩ = some (.slice ad5 ns.length cap5) ∧ w'.cell? ⟨w5.heap.size, 3, none⟩ = some (.string ea))) ∧ Hid (SbQ w g4 w5.heap.size [.int .i64 ix, .int .i64 tm, .slice ad m cap, .string da] [.int .i64 jx, .int .i64 jm, .slice ad4 ns.length cap4, .string ea] [.int .i64 jx, .int .i64 jm, .slice ad5 ns.length cap5, .string ea] (.slice ad4 ns.length cap4) (.slice ad5 ns.length cap5) ns w')) := fun W q => (C1.out W q.b).mono fun e w' ⟨he, hb⟩ => ⟨he, (q.next hb).cells, q.next hb⟩
  have RF8 : Hid (∀ W, SbQ w g4 w5.heap.size [.int .i64 ix, .int .i64 tm, .slice ad m cap, .string da] [.int .i64 jx, .int .i64 jm, .slice ad4 ns.length cap4, .string ea] [.int .i64 jx, .int .i64 jm, .slice ad5 ns.length cap5, .string ea] (.slice ad4 ns.length cap4) (.slice ad5 ns.length cap5) ns W → Calls Try.prog 10 #[.agg #[.int .i64 ix, .int .i64 tm, .slice ad m cap, .string da]] W fun e w' => e = .returned (.agg #[.int .i64 ix, .int .i64 tm, .slice ad m cap, .string da]) ∧ ((w'.cell? ⟨w.heap.size, 0, none⟩ = some (.int .i64 ix) ∧ w'.cell? ⟨w.heap.size, 1, none⟩ = some (.int .i64 tm) ∧ w'.cell? ⟨w.heap.size, 2, none⟩ = some (.slice ad m cap) ∧ w'.cell? ⟨w.heap.size, 3, none⟩ = some (.string da)) ∧ (w'.cell? ⟨g4, 0, none⟩ = some (.int .i64 jx) ∧ w'.cell? ⟨g4, 1, none⟩ = some (.int .i64 jm) ∧ w'.cell? ⟨g4, 2, none⟩ = some (.slice ad4 ns.length cap4) ∧ w'.cell? ⟨g4, 3, none⟩ = some (.string ea)) ∧ (w'.cell? ⟨w5.heap.size, 0, none⟩ = some (.int .i64 jx) ∧ w'.cell? ⟨w5.heap.size, 1, none⟩ = some (.int .i64 jm) ∧ w'.cell? ⟨w5.heap.size, 2, none⟩ = some (.slice ad5 ns.length cap5) ∧ w'.cell? ⟨w5.heap.size, 3, none⟩ = some (.string ea))) ∧ Hid (SbQ w g4 w5.heap.size [.int .i64 ix, .int .i64 tm, .slice ad m cap, .string da] [.int .i64 jx, .int .i64 jm, .slice ad4 ns.length cap4, .string ea] [.int .i64 jx, .int .i64 jm, .slice ad5 ns.length cap5, .string ea] (.slice ad4 ns.length cap4) (.slice ad5 ns.length cap5) ns w')) := fun W q => (RF.out _ _ _ _ _ _ W).mono fun e w' ⟨he, hb⟩ => ⟨he, (q.next hb).cells, q.next hb⟩
  have C29 : Hid (∀ W, SbQ w g4 w5.heap.size [.int .i64 ix, .int .i64 tm, .slice ad m cap, .string da] [.int .i64 jx, .int .i64 jm, .slice ad4 ns.length cap4, .string ea] [.int .i64 jx, .int .i64 jm, .slice ad5 ns.length cap5, .string ea] (.slice ad4 ns.length cap4) (.slice ad5 ns.length cap5) ns W → Calls Try.prog 15 #[.agg #[.int .i64 ix, .int .i64 tm, .slice ad m cap, .string da]] W fun e w' => e = .returned (.int .i64 K) ∧ ((w'.cell? ⟨w.heap.size, 0, none⟩ = some (.int .i64 ix) ∧ w'.cell? ⟨w.heap.size, 1, none⟩ = some (.int .i64 tm) ∧ w'.cell? ⟨w.heap.size, 2, none⟩ = some (.slice ad m cap) ∧ w'.cell? ⟨w.heap.size, 3, none⟩ = some (.string da)) ∧ (w'.cell? ⟨g4, 0, none⟩ = some (.int .i64 jx) ∧ w'.cell? ⟨g4, 1, none⟩ = some (.int .i64 jm) ∧ w'.cell? ⟨g4, 2, none⟩ = some (.slice ad4 ns.length cap4) ∧ w'.cell? ⟨g4, 3, none⟩ = some (.string ea)) ∧ (w'.cell? ⟨w5.heap.size, 0, none⟩ = some (.int .i64 jx) ∧ w'.cell? ⟨w5.heap.size, 1, none⟩ = some (.int .i64 jm) ∧ w'.cell? ⟨w5.heap.size, 2, none⟩ = some (.slice ad5 ns.length cap5) ∧ w'.cell? ⟨w5.heap.size, 3, none⟩ = some (.string ea))) ∧ Hid (SbQ w g4 w5.heap.size [.int .i64 ix, .int .i64 tm, .slice ad m cap, .string da] [.int .i64 jx, .int .i64 jm, .slice ad4 ns.length cap4, .string ea] [.int .i64 jx, .int .i64 jm, .slice ad5 ns.length cap5, .string ea] (.slice ad4 ns.length cap4) (.slice ad5 ns.length cap5) ns w')) := fun W q => (C2.out W q.b).mono fun e w' ⟨he, hb⟩ => ⟨he, (q.next hb).cells, q.next hb⟩
  have RF10 : Hid (∀ W, SbQ w g4 w5.heap.size [.int .i64 ix, .int .i64 tm, .slice ad m cap, .string da] [.int .i64 jx, .int .i64 jm, .slice ad4 ns.length cap4, .string ea] [.int .i64 jx, .int .i64 jm, .slice ad5 ns.length cap5, .string ea] (.slice ad4 ns.length cap4) (.slice ad5 ns.length cap5) ns W → Calls Try.prog 10 #[.agg #[.int .i64 jx, .int .i64 jm, .slice ad4 ns.length cap4, .string ea]] W fun e w' => e = .returned (.agg #[.int .i64 jx, .int .i64 jm, .slice ad4 ns.length cap4, .string ea]) ∧ ((w'.cell? ⟨w.heap.size, 0, none⟩ = some (.int .i64 ix) ∧ w'.cell? ⟨w.heap.size, 1, none⟩ = some (.int .i64 tm) ∧ w'.cell? ⟨w.heap.size, 2, none⟩ = some (.slice ad m cap) ∧ w'.cell? ⟨w.heap.size, 3, none⟩ = some (.string da)) ∧ (w'.cell? ⟨g4, 0, none⟩ = some (.int .i64 jx) ∧ w'.cell? ⟨g4, 1, none⟩ = some (.int .i64 jm) ∧ w'.cell? ⟨g4, 2, none⟩ = some (.slice ad4 ns.length cap4) ∧ w'.cell? ⟨g4, 3, none⟩ = some (.string ea)) ∧ (w'.cell? ⟨w5.heap.size, 0, none⟩ = some (.int .i64 jx) ∧ w'.cell? ⟨w5.heap.size, 1, none⟩ = some (.int .i64 jm) ∧ w'.cell? ⟨w5.heap.size, 2, none⟩ = some (.slice ad5 ns.length cap5) ∧ w'.cell? ⟨w5.heap.size, 3, none⟩ = some (.string ea))) ∧ Hid (SbQ w g4 w5.heap.size [.int .i64 ix, .int .i64 tm, .slice ad m cap, .string da] [.int .i64 jx, .int .i64 jm, .slice ad4 ns.length cap4, .string ea] [.int .i64 jx, .int .i64 jm, .slice ad5 ns.length cap5, .string ea] (.slice ad4 ns.length cap4) (.slice ad5 ns.length cap5) ns w')) := fun W q => (RF.out _ _ _ _ _ _ W).mono fun e w' ⟨he, hb⟩ => ⟨he, (q.next hb).cells, q.next hb⟩
  have SM11 : Hid (∀ W, SbQ w g4 w5.heap.size [.int .i64 ix, .int .i64 tm, .slice ad m cap, .string da] [.int .i64 jx, .int .i64 jm, .slice ad4 ns.length cap4, .string ea] [.int .i64 jx, .int .i64 jm, .slice ad5 ns.length cap5, .string ea] (.slice ad4 ns.length cap4) (.slice ad5 ns.length cap5) ns W → Calls Try.prog 16 #[.agg #[.int .i64 jx, .int .i64 jm, .slice ad4 ns.length cap4, .string ea], .agg #[.int .i64 jx, .int .i64 jm, .slice ad5 ns.length cap5, .string ea]] W fun e w' => e = .returned (.bool true) ∧ ((w'.cell? ⟨w.heap.size, 0, none⟩ = some (.int .i64 ix) ∧ w'.cell? ⟨w.heap.size, 1, none⟩ = some (.int .i64 tm) ∧ w'.cell? ⟨w.heap.size, 2, none⟩ = some (.slice ad m cap) ∧ w'.cell? ⟨w.heap.size, 3, none⟩ = some (.string da)) ∧ (w'.cell? ⟨g4, 0, none⟩ = some (.int .i64 jx) ∧ w'.cell? ⟨g4, 1, none⟩ = some (.int .i64 jm) ∧ w'.cell? ⟨g4, 2, none⟩ = some (.slice ad4 ns.length cap4) ∧ w'.cell? ⟨g4, 3, none⟩ = some (.string ea)) ∧ (w'.cell? ⟨w5.heap.size, 0, none⟩ = some (.int .i64 jx) ∧ w'.cell? ⟨w5.heap.size, 1, none⟩ = some (.int .i64 jm) ∧ w'.cell? ⟨w5.heap.size, 2, none⟩ = some (.slice ad5 ns.length cap5) ∧ w'.cell? ⟨w5.heap.size, 3, none⟩ = some (.string ea))) ∧ Hid (SbQ w g4 w5.heap.size [.int .i64 ix, .int .i64 tm, .slice ad m cap, .string da] [.int .i64 jx, .int .i64 jm, .slice ad4 ns.length cap4, .string ea] [.int .i64 jx, .int .i64 jm, .slice ad5 ns.length cap5, .string ea] (.slice ad4 ns.length cap4) (.slice ad5 ns.length cap5) ns w')) := fun W q => (SM.out _ _ ⟨jx, jm, ns, ea⟩ W q.ix q.iy LD.out).mono fun e w' ⟨he, hb⟩ => ⟨he, (q.next hb).cells, q.next hb⟩
  clear AW C1 C2 RF SM LD
  go_wp2_with fail
  go_region_held3 (fun w' => (w'.cell? ⟨w.heap.size, 0, none⟩ = some (.int .i64 ix) ∧ w'.cell? ⟨w.heap.size, 1, none⟩ = some (.int .i64 tm) ∧ w'.cell? ⟨w.heap.size, 2, none⟩ = some (.slice ad m cap) ∧ w'.cell? ⟨w.heap.size, 3, none⟩ = some (.string da)) ∧ (w'.cell? ⟨g4, 0, none⟩ = some (.int .i64 jx) ∧ w'.cell? ⟨g4, 1, none⟩ = some (.int .i64 jm) ∧ w'.cell? ⟨g4, 2, none⟩ = some (.slice ad4 ns.length cap4) ∧ w'.cell? ⟨g4, 3, none⟩ = some (.string ea)) ∧ (w'.cell? ⟨w5.heap.size, 0, none⟩ = some (.int .i64 jx) ∧ w'.cell? ⟨w5.heap.size, 1, none⟩ = some (.int .i64 jm) ∧ w'.cell? ⟨w5.heap.size, 2, none⟩ = some (.slice ad5 ns.length cap5) ∧ w'.cell? ⟨w5.heap.size, 3, none⟩ = some (.string ea))) (first | with_reducible assumption | exact h5 | go_keep) (first | (go_at_call 13; with_reducible (refine (AW6.out _ ?_).mono ?_); (first | exact Q5.out | exact Q5.out.drew | exact Q5.out.drew.drew | exact Q5.out.drew.drew.drew); rintro e w6 ⟨rfl, h6, Q6⟩) | (go_at_call 14; with_reducible (refine (C17.out _ ?_).mono ?_); (first | exact Q6.out | exact Q6.out.drew | exact Q6.out.drew.drew | exact Q6.out.drew.drew.drew); rintro e w7 ⟨rfl, h7, Q7⟩) | (go_at_call 10; with_reducible (refine (RF8.out _ ?_).mono ?_); (first | exact Q7.out | exact Q7.out.drew | exact Q7.out.drew.drew | exact Q7.out.drew.drew.drew); rintro e w8 ⟨rfl, h8, Q8⟩) | (go_at_call 15; with_reducible (refine (C29.out _ ?_).mono ?_); (first | exact Q8.out | exact Q8.out.drew | exact Q8.out.drew.drew | exact Q8.out.drew.drew.drew); rintro e w9 ⟨rfl, h9, Q9⟩) | (go_at_call 10; with_reducible (refine (RF10.out _ ?_).mono ?_); (first | exact Q9.out | exact Q9.out.drew | exact Q9.out.drew.drew | exact Q9.out.drew.drew.drew); rintro e w10 ⟨rfl, h10, Q10⟩) | (go_at_call 16; with_reducible (refine (SM11.out _ ?_).mono ?_); (first | exact Q10.out | exact Q10.out.drew | exact Q10.out.drew.drew | exact Q10.out.drew.drew.drew); rintro e w11 ⟨rfl, h11, Q11⟩))
  all_goals
    go_wp2
    go_ret
    exact ⟨rfl, Q11.out.b⟩
end Go.Proofs.Ytdkhiaaoehndfaa
namespace Go.Proofs.Ytdkhiaaoehndfaa
open Go.RowKit Go.Maps
set_option linter.unusedVariables false
set_option linter.unusedSimpArgs false

/-- the two snapshots that the law holds, in their boxes -/
structure SkQ (w : World) (g : Nat) (cs cx : List Value) (vs vx : Value) (ms : List Int) (W : World) : Prop where
  s : RowIs W w.heap.size cs 24
  x : RowIs W g cx 24
  is : IntsI W vs ms
  ix : IntsI W vx ms
  b : Below w.heap.size w W
theorem SkQ.next {w W W' : World} {g : Nat} {cs cx : List Value} {vs vx : Value} {ms : List Int} (h : SkQ w g cs cx vs vx ms W) (hb : Below W.heap.size W W') : SkQ w g cs cx vs vx ms W' :=
  ⟨row_next h.s hb, row_next h.x hb, h.is.next hb, h.ix.next hb, below_on h.b hb⟩
theorem SkQ.drew {w W : World} {g : Nat} {cs cx : List Value} {vs vx : Value} {ms : List Int} (h : SkQ w g cs cx vs vx ms W) : SkQ w g cs cx vs vx ms W.drew := h.next (keep_below (keep_drew (fun _ => False) W) (fun _ _ h => h) (Nat.le_refl _))
theorem SkQ.cells {w W : World} {g : Nat} {a0 a1 a2 a3 b0 b1 b2 b3 : Value} {vs vx : Value} {ms : List Int} (h : SkQ w g [a0, a1, a2, a3] [b0, b1, b2, b3] vs vx ms W) :
    (W.cell? ⟨w.heap.size, 0, none⟩ = some a0 ∧ W.cell? ⟨w.heap.size, 1, none⟩ = some a1 ∧ W.cell? ⟨w.heap.size, 2, none⟩ = some a2 ∧ W.cell? ⟨w.heap.size, 3, none⟩ = some a3) ∧
    (W.cell? ⟨g, 0, none⟩ = some b0 ∧ W.cell? ⟨g, 1, none⟩ = some b1 ∧ W.cell? ⟨g, 2, none⟩ = some b2 ∧ W.cell? ⟨g, 3, none⟩ = some b3) :=
  ⟨⟨h.s.cellAt rfl, h.s.cellAt rfl, h.s.cellAt rfl, h.s.cellAt rfl⟩, ⟨h.x.cellAt rfl, h.x.cellAt rfl, h.x.cellAt rfl, h.x.cellAt rfl⟩⟩
set_option maxRecDepth 100000 in
set_option maxHeartbeats 2000000 in
theorem shotBack_walk (v : Value) (x : Sh) (t : ByteArray) (w : World) (h0 : IntsI w v x.ms) (zl : x.ms.length ≤ 17592186044416) (zd : x.da.size ≤ 140737488355328) (zt : t.size ≤ reachBytes) :
    Calls Try.prog 4 #[shV v x, .string t] w fun e w' => e = .returned (.bool true) ∧ Below w.heap.size w w' := by
  have ht : t.size ≤ 140737488355328 := Nat.le_trans zt (by decide)
  obtain ⟨ad, cap, rfl, -⟩ := h0.form
  have E1 : Hid (∀ W, Below w.heap.size w W → Calls Try.prog 8 #[.agg #[.int .i64 x.ix, .int .i64 x.tm, .slice ad x.ms.length cap, .string x.da]] W fun e w' => e = .returned (.tuple #[.string (encS x), .int .i64 (chkS x)]) ∧ Below W.heap.size W w') := fun W hW => encode_any _ x W (h0.next hW) (by omega)
  have D1 : Hid (chkS x = 0 → ∀ W, Calls Try.prog 11 #[.string (encS x)] W fun e w' => ∃ ad cap, e = .returned (.tuple #[.agg #[.int .i64 x.ix, .int .i64 x.tm, .slice ad x.ms.length cap, .string x.da], .int .i64 0]) ∧ IntsI w' (.slice ad x.ms.length cap) x.ms ∧ Below W.heap.size W w') := fun hc W => by
    have := sdecode_any (encS x) W (by have := encS_size x; omega)
    rw [(sd_enc hc).1, (sd_enc hc).2] at this
    exact this.mono fun e w' ⟨a, c, h1, h2, h3⟩ => ⟨a, c, h1, h2.ints, h3⟩
  have D2 : Hid (∀ W, Below w.heap.size w W → Calls Try.prog 11 #[.string t] W fun e w' => ∃ ad cap, e = .returned (.tuple #[.agg #[.int .i64 (sdV t).ix, .int .i64 (sdV t).tm, .slice ad (sdV t).ms.length cap, .string (sdV t).da], .int .i64 (sdE t)]) ∧ IntsI w' (.slice ad (sdV t).ms.length cap) (sdV t).ms ∧ Below w.heap.size w w') := fun W hW => (sdecode_any t W ht).mono fun e w' ⟨a, c, h1, h2, h3⟩ => ⟨a, c, h1, h2.ints, below_on hW h3⟩
  have LD := hid (sdV_len t)
  have E2 : Hid (sdE t = 0 → ∀ (y : Value) W, IntsI W y (sdV t).ms → Calls Try.prog 8 #[.agg #[.int .i64 (sdV t).ix, .int .i64 (sdV t).tm, y, .string (sdV t).da]] W fun e w' => e = .returned (.tuple #[.string t, .int .i64 0]) ∧ Below W.heap.size W w') := fun hz y W hy => by
    have hok : sdOk t = true := by
      rcases sdE_iff t with h | h
      · exact h.2
      · rw [hz] at h; exact absurd h.1 (by decide)
    have := encode_any y (sdV t) W hy (by have := LD.out; omega)
    rw [(sd_one hok).1, (sd_one hok).2] at this
    exact this
  have HG : Hid (sdE t = 0 ∨ sdE t = 3) := by
    rcases sdE_iff t with h | h
    · exact .inl h.1
    · exact .inr h.1
  have RF : Hid (∀ (ad : Option Addr) (m cap : Nat) (i j : Int) (d : ByteArray) W, Calls Try.prog 10 #[.agg #[.int .i64 i, .int .i64 j, .slice ad m cap, .string d]] W fun e w' => e = .returned (.agg #[.int .i64 i, .int .i64 j, .slice ad m cap, .string d]) ∧ Below W.heap.size W w') := fun ad m cap i j d W => refOf_any ad m cap ⟨i, j, [], d⟩ W
  have AW := hid (fun W => awake7 W)
  have SM : Hid (∀ (y z : Value) W, IntsI W y x.ms → IntsI W z x.ms → Calls Try.prog 16 #[.agg #[.int .i64 x.ix, .int .i64 x.tm, y, .string x.da], .agg #[.int .i64 x.ix, .int .i64 x.tm, z, .string x.da]] W fun e w' => e = .returned (.bool true) ∧ Below W.heap.size W w') := fun y z W hy hz => by
    have := rsame_any y z x x W hy hz (by omega)
    rw [smS_refl] at this
    exact this
  have HI := hid h0
  unfold shV
  generalize sdE t = DE at *
  generalize sdV t = DV at *
  generalize encS x = X at *
  generalize chkS x = K at *
  have ht2 : (t.data.toList == t.data.toList) = true := beq_self_eq_true _
  obtain ⟨ix, tm, ms, da⟩ := x
  obtain ⟨jx, jm, ns, ea⟩ := DV
  simp only at *
  clear h0 zl zd zt ht LD
  go_enter Try.func4, Try.ntmps4
  go_wp2_with fail
  refine (E1.out _ (below_al (Below.refl _ _) _)).mono ?_
  rintro e w1 ⟨rfl, b1⟩
  have R1 := hid (row_next (srow w [.int .i64 ix, .int .i64 tm, .slice ad ms.length cap, .string da] 24) b1)
  have B1 := hid (below_on (below_al (Below.refl _ w) _) b1)
  clear b1 E1
  by_cases hK : K = 0
  · subst hK
    have D1b := hid (D1.out rfl)
    clear D1
    go_wp2_with fail
    refine (D1b.out _).mono ?_
    rintro e w3 ⟨ad3, cap3, rfl, o3, b3⟩
    have Q3 : Hid (SkQ w w3.heap.size [.int .i64 ix, .int .i64 tm, .slice ad ms.length cap, .string da] [.int .i64 ix, .int .i64 tm, .slice ad3 ms.length cap3, .string da] (.slice ad ms.length cap) (.slice ad3 ms.length cap3) ms (w3.alloc (.cells #[.int .i64 ix, .int .i64 tm, .slice ad3 ms.length cap3, .string da] 24))) := ⟨row_old (row_next R1.out b3) _, srow w3 _ _, (HI.out.next (below_on B1.out b3)).next ((Below.refl _ _).alloc (Nat.le_refl _) _), o3.next ((Below.refl _ _).alloc (Nat.le_refl _) _), below_al (below_on B1.out b3) _⟩
    have h3 := Q3.out.cells
    clear b3 o3 R1 B1 D1b HI
    have RX : Hid (∀ W, SkQ w w3.heap.size [.int .i64 ix, .int .i64 tm, .slice ad ms.length cap, .string da] [.int .i64 ix, .int .i64 tm, .slice ad3 ms.length cap3, .string da] (.slice ad ms.length cap) (.slice ad3 ms.length cap3) ms W → Calls Try.prog 10 #[.agg #[.int .i64 ix, .int .i64 tm, .slice ad3 ms.length cap3, .string da]] W fun e w' => e = .returned (.agg #[.int .i64 ix, .int .i64 tm, .slice ad3 ms.length cap3, .string da]) ∧ ((w'.cell? ⟨w.heap.size, 0, none⟩ = some (.int .i64 ix) ∧ w'.cell? ⟨w.heap.size, 1, none⟩ = some (.int .i64 tm) ∧ w'.cell? ⟨w.heap.size, 2, none⟩ = some (.slice ad ms.length cap) ∧ w'.cell? ⟨w.heap.size, 3, none⟩ = some (.string da)) ∧ (w'.cell? ⟨w3.heap.size, 0, none⟩ = some (.int .i64 ix) ∧ w'.cell? ⟨w3.heap.size, 1, none⟩ = some (.int .i64 tm) ∧ w'.cell? ⟨w3.heap.size, 2, none⟩ = some (.slice ad3 ms.length cap3) ∧ w'.cell? ⟨w3.heap.size, 3, none⟩ = some (.string da))) ∧ Hid (SkQ w w3.heap.size [.int .i64 ix, .int .i64 tm, .slice ad ms.length cap, .string da] [.int .i64 ix, .int .i64 tm, .slice ad3 ms.length cap3, .string da] (.slice ad ms.length cap) (.slice ad3 ms.length cap3) ms w')) := fun W q => (RF.out _ _ _ _ _ _ W).mono fun e w' ⟨he, hb⟩ => ⟨he, (q.next hb).cells, q.next hb⟩
    have RS : Hid (∀ W, SkQ w w3.heap.size [.int .i64 ix, .int .i64 tm, .slice ad ms.length cap, .string da] [.int .i64 ix, .int .i64 tm, .slice ad3 ms.length cap3, .string da] (.slice ad ms.length cap) (.slice ad3 ms.length cap3) ms W → Calls Try.prog 10 #[.agg #[.int .i64 ix, .int .i64 tm, .slice ad ms.length cap, .string da]] W fun e w' => e = .returned (.agg #[.int .i64 ix, .int .i64 tm, .slice ad ms.length cap, .string da]) ∧ ((w'.cell? ⟨w.heap.size, 0, none⟩ = some (.int .i64 ix) ∧ w'.cell? ⟨w.heap.size, 1, none⟩ = some (.int .i64 tm) ∧ w'.cell? ⟨w.heap.size, 2, none⟩ = some (.slice ad ms.length cap) ∧ w'.cell? ⟨w.heap.size, 3, none⟩ = some (.string da)) ∧ (w'.cell? ⟨w3.heap.size, 0, none⟩ = some (.int .i64 ix) ∧ w'.cell? ⟨w3.heap.size, 1, none⟩ = some (.int .i64 tm) ∧ w'.cell? ⟨w3.heap.size, 2, none⟩ = some (.slice ad3 ms.length cap3) ∧ w'.cell? ⟨w3.heap.size, 3, none⟩ = some (.string da))) ∧ Hid (SkQ w w3.heap.size [.int .i64 ix, .int .i64 tm, .slice ad ms.length cap, .string da] [.int .i64 ix, .int .i64 tm, .slice ad3 ms.length cap3, .string da] (.slice ad ms.length cap) (.slice ad3 ms.length cap3) ms w')) := fun W q => (RF.out _ _ _ _ _ _ W).mono fun e w' ⟨he, hb⟩ => ⟨he, (q.next hb).cells, q.next hb⟩
    have SS : Hid (∀ W, SkQ w w3.heap.size [.int .i64 ix, .int .i64 tm, .slice ad ms.length cap, .string da] [.int .i64 ix, .int .i64 tm, .slice ad3 ms.length cap3, .string da] (.slice ad ms.length cap) (.slice ad3 ms.length cap3) ms W → Calls Try.prog 16 #[.agg #[.int .i64 ix, .int .i64 tm, .slice ad3 ms.length cap3, .string da], .agg #[.int .i64 ix, .int .i64 tm, .slice ad ms.length cap, .string da]] W fun e w' => e = .returned (.bool true) ∧ ((w'.cell? ⟨w.heap.size, 0, none⟩ = some (.int .i64 ix) ∧ w'.cell? ⟨w.heap.size, 1, none⟩ = some (.int .i64 tm) ∧ w'.cell? ⟨w.heap.size, 2, none⟩ = some (.slice ad ms.length cap) ∧ w'.cell? ⟨w.heap.size, 3, none⟩ = some (.string da)) ∧ (w'.cell? ⟨w3.heap.size, 0, none⟩ = some (.int .i64 ix) ∧ w'.cell? ⟨w3.heap.size, 1, none⟩ = some (.int .i64 tm) ∧ w'.cell? ⟨w3.heap.size, 2, none⟩ = some (.slice ad3 ms.length cap3) ∧ w'.cell? ⟨w3.heap.size, 3, none⟩ = some (.string da))) ∧ Hid (SkQ w w3.heap.size [.int .i64 ix, .int .i64 tm, .slice ad ms.length cap, .string da] [.int .i64 ix, .int .i64 tm, .slice ad3 ms.length cap3, .string da] (.slice ad ms.length cap) (.slice ad3 ms.length cap3) ms w')) := fun W q => (SM.out _ _ W q.ix q.is).mono fun e w' ⟨he, hb⟩ => ⟨he, (q.next hb).cells, q.next hb⟩
    clear RF SM
    go_wp2_with fail
    go_region_held3 (fun w' => (w'.cell? ⟨w.heap.size, 0, none⟩ = some (.int .i64 ix) ∧ w'.cell? ⟨w.heap.size, 1, none⟩ = some (.int .i64 tm) ∧ w'.cell? ⟨w.heap.size, 2, none⟩ = some (.slice ad ms.length cap) ∧ w'.cell? ⟨w.heap.size, 3, none⟩ = some (.string da)) ∧ (w'.cell? ⟨w3.heap.size, 0, none⟩ = some (.int .i64 ix) ∧ w'.cell? ⟨w3.heap.size, 1, none⟩ = some (.int .i64 tm) ∧ w'.cell? ⟨w3.heap.size, 2, none⟩ = some (.slice ad3 ms.length cap3) ∧ w'.cell? ⟨w3.heap.size, 3, none⟩ = some (.string da))) (first | with_reducible assumption | exact h3 | go_keep) (first | (go_at_call 10; with_reducible (refine (RX.out _ ?_).mono ?_); (first | exact Q3.out | exact Q3.out.drew | exact Q3.out.drew.drew | exact Q3.out.drew.drew.drew); rintro e w4 ⟨rfl, h4, Q4⟩) | (go_at_call 10; with_reducible (refine (RS.out _ ?_).mono ?_); (first | exact Q4.out | exact Q4.out.drew | exact Q4.out.drew.drew | exact Q4.out.drew.drew.drew); rintro e w4b ⟨rfl, h4b, Q4b⟩) | (go_at_call 16; with_reducible (refine (SS.out _ ?_).mono ?_); (first | exact Q4b.out | exact Q4b.out.drew | exact Q4b.out.drew.drew | exact Q4b.out.drew.drew.drew); rintro e w4c ⟨rfl, h4c, Q4c⟩))
    all_goals
      have BT : Hid (Below w.heap.size w w4c) := Q4c.out.b
      go_wp2_with fail
      refine (D2.out _ BT.out).mono ?_
      rintro e w5 ⟨ad5, cap5, rfl, o5, b5⟩
      have B5 := hid (below_al b5 (.cells #[.int .i64 jx, .int .i64 jm, .slice ad5 ns.length cap5, .string ea] 24))
      have I5 := hid (o5.next ((Below.refl _ _).alloc (Nat.le_refl _) (.cells #[.int .i64 jx, .int .i64 jm, .slice ad5 ns.length cap5, .string ea] 24)))
      clear o5 b5 BT D2
      rcases HG.out with hg | hg
      · subst hg
        have EY := hid (E2.out rfl _ _ I5.out)
        go_wp2_with fail
        refine EY.out.mono ?_
        rintro e w6 ⟨rfl, b6⟩
        have B6 := hid (below_on B5.out b6)
        clear b6 B5 I5 EY
        go_wp2_with fail
        refine (AW.out _).mono ?_
        rintro e w7 ⟨rfl, b7⟩
        have B7 := hid (below_on B6.out b7)
        clear b7 B6
        go_wp2
        go_ret
        exact ⟨rfl, B7.out⟩
      · subst hg
        go_wp2_with fail
        refine (AW.out _).mono ?_
        rintro e w7 ⟨rfl, b7⟩
        have B7 := hid (below_on B5.out b7)
        clear b7 B5
        go_wp2
        go_ret
        exact ⟨rfl, B7.out⟩
  · have hn : (K == 0) = false := beq_eq_false_iff_ne.2 hK
    have BT := B1
    clear B1 D1 RF SM HI
    go_wp2_with fail
    refine (D2.out _ BT.out).mono ?_
    rintro e w5 ⟨ad5, cap5, rfl, o5, b5⟩
    have B5 := hid (below_al b5 (.cells #[.int .i64 jx, .int .i64 jm, .slice ad5 ns.length cap5, .string ea] 24))
    have I5 := hid (o5.next ((Below.refl _ _).alloc (Nat.le_refl _) (.cells #[.int .i64 jx, .int .i64 jm, .slice ad5 ns.length cap5, .string ea] 24)))
    clear o5 b5 BT D2
    rcases HG.out with hg | hg
    · subst hg
      have EY := hid (E2.out rfl _ _ I5.out)
      go_wp2_with fail
      refine EY.out.mono ?_
      rintro e w6 ⟨rfl, b6⟩
      have B6 := hid (below_on B5.out b6)
      clear b6 B5 I5 EY
      go_wp2_with fail
      refine (AW.out _).mono ?_
      rintro e w7 ⟨rfl, b7⟩
      have B7 := hid (below_on B6.out b7)
      clear b7 B6
      go_wp2
      go_ret
      exact ⟨rfl, B7.out⟩
    · subst hg
      go_wp2_with fail
      refine (AW.out _).mono ?_
      rintro e w7 ⟨rfl, b7⟩
      have B7 := hid (below_on B5.out b7)
      clear b7 B5
      go_wp2
      go_ret
      exact ⟨rfl, B7.out⟩
end Go.Proofs.Ytdkhiaaoehndfaa
