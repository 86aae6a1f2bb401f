/- Joined: The program's disk and the reference's, in one world. The law's own look: does a disk say what the reference's says? The reference's Make, as a whole. Steps of the two disks, beside what a call has laid meanwhile. What is left of both disks behind a step of the law. What the reference's change leaves beside a new struct; the law's 'Made'. A step of the law DiskPlays: a change. -/
import Derived.Test.YtnlodlpjokkepabJoined09
import Derived.Test.YtnlodlpjokkepabJoined11
import Derived.Test.YtnlodlpjokkepabJoined07
import Derived.Test.YtnlodlpjokkepabJoined08
import Derived.Deep.RegionHeld3
import Derived.Test.YtnlodlpjokkepabJoined10
import Derived.Deep.RegionLaw
import Derived.Deep.CutRange
namespace Go.Proofs.Ytnlodlpjokkepab
open Go.RowKit Go.Maps
set_option linter.unusedVariables false
set_option linter.unusedSimpArgs false

/-- the program's disk stands for dp, the reference's for dr; blocks of P are no disk's, and stay -/
structure Both (P : Nat → Prop) (w0 w : World) (p : Nat) (su wa fa : Value) (ms : List RC) (dp dr : Ds) : Prop where
  disk : ∃ c, DiskIs w c p dp ∧ (∀ j, P j → j < w.heap.size ∧ 6 < c j) ∧ (∀ g, su.ownBlock = some g → 6 ≤ c g) ∧ (∀ g, wa.ownBlock = some g → 6 ≤ c g) ∧ (∀ g, fa.ownBlock = some g → 6 ≤ c g)
  ref : RefIs w su wa fa ms dr
  keep : Keep (fun j => ¬ P j) w0 w
theorem RefIs.keepS {S : Nat → Prop} {w w' : World} {su wa fa : Value} {ms : List RC} {d : Ds} (h : RefIs w su wa fa ms d) (k : Keep S w w') (h1 : ∀ g, su.ownBlock = some g → ¬ S g) (h2 : ∀ g, wa.ownBlock = some g → ¬ S g) (h3 : ∀ g, fa.ownBlock = some g → ¬ S g) : RefIs w' su wa fa ms d :=
  ⟨k.ownsRow h.sure h1, k.ownsRow h.wait h2, k.ownsRow h.falls h3, h.eqw, h.pos⟩
theorem RefIs.alike {w : World} {su wa fa : Value} {ms : List RC} {d d' : Ds} (h : RefIs w su wa fa ms d) (h1 : d'.S = d.S) (h2 : d'.ws = d.ws) (h3 : d'.fl = d.fl) : RefIs w su wa fa ms d' :=
  ⟨by rw [h1]; exact h.sure, h.wait, by rw [h3]; exact h.falls, by rw [h2]; exact h.eqw, h.pos⟩
theorem RefIs.lts {w : World} {su wa fa : Value} {ms : List RC} {d : Ds} (h : RefIs w su wa fa ms d) : (∀ g, su.ownBlock = some g → g < w.heap.size) ∧ (∀ g, wa.ownBlock = some g → g < w.heap.size) ∧ ∀ g, fa.ownBlock = some g → g < w.heap.size :=
  ⟨fun g e => ownsRow_lt h.sure e, fun g e => ownsRow_lt h.wait e, fun g e => ownsRow_lt h.falls e⟩
theorem Both.go {P : Nat → Prop} {w0 w w' : World} {p : Nat} {su wa fa : Value} {ms : List RC} {dp dr : Ds} (h : Both P w0 w p su wa fa ms dp dr) (k : Keep (fun _ => False) w w') : Both P w0 w' p su wa fa ms dp dr := by
  obtain ⟨⟨c, D, h0, h1, h2, h3⟩, hR, hK⟩ := h
  exact ⟨⟨c, D.keep k (fun _ _ => rfl) (fun _ _ h => h.elim), fun j hj => ⟨Nat.lt_of_lt_of_le (h0 j hj).1 k.size, (h0 j hj).2⟩, h1, h2, h3⟩, hR.keep k, hK.trans (k.mono (fun _ _ h => h.elim))⟩
/-- seen from another world on -/
theorem Both.rebase {P : Nat → Prop} {w0 w : World} {p : Nat} {su wa fa : Value} {ms : List RC} {dp dr : Ds} (h : Both P w0 w p su wa fa ms dp dr) : Both P w w p su wa fa ms dp dr := ⟨h.disk, h.ref, Keep.refl _ _⟩
theorem Both.from {P : Nat → Prop} {w0 w1 w : World} {p : Nat} {su wa fa : Value} {ms : List RC} {dp dr : Ds} (h : Both P w1 w p su wa fa ms dp dr) (k : Keep (fun j => ¬ P j) w0 w1) : Both P w0 w p su wa fa ms dp dr := ⟨h.disk, h.ref, k.trans h.keep⟩
theorem Both.weaken {P P' : Nat → Prop} {w0 w : World} {p : Nat} {su wa fa : Value} {ms : List RC} {dp dr : Ds} (h : Both P' w0 w p su wa fa ms dp dr) (hs : ∀ j, P j → P' j) : Both P w0 w p su wa fa ms dp dr := by
  obtain ⟨⟨c, D, h0, h1⟩, hR, hK⟩ := h
  exact ⟨⟨c, D, fun j hj => h0 j (hs j hj), h1⟩, hR, hK.mono fun j _ hn hp => hn (hs j hp)⟩
/-- what is laid meanwhile is none of the disks' -/
theorem Both.fresh {P : Nat → Prop} {w0 w W : World} {p : Nat} {su wa fa : Value} {ms : List RC} {dp dr : Ds} (h : Both P w0 w p su wa fa ms dp dr) (k : Keep (fun _ => False) w W) : Both (fun j => P j ∨ (w.heap.size ≤ j ∧ j < W.heap.size)) W W p su wa fa ms dp dr := by
  obtain ⟨⟨c, D, h0, h1, h2, h3⟩, hR, hK⟩ := h
  have hsz := k.size
  have q : ∀ j, 6 ≤ c j → 6 ≤ if j < w.heap.size then c j else 7 := fun j hj => by split <;> omega
  refine ⟨⟨fun j => if j < w.heap.size then c j else 7, D.keep k (fun j hj => if_pos hj) (fun _ _ h => h.elim), fun j hj => ?_, fun g e => q g (h1 g e), fun g e => q g (h2 g e), fun g e => q g (h3 g e)⟩, hR.keep k, Keep.refl _ _⟩
  rcases hj with hj | hj
  · have h9 := h0 j hj
    exact ⟨by omega, by show 6 < if j < w.heap.size then c j else 7; rw [if_pos h9.1]; exact h9.2⟩
  · exact ⟨hj.2, by show 6 < if j < w.heap.size then c j else 7; rw [if_neg (by omega)]; omega⟩
theorem locv_refl (v : Value) (w : World) : LocV v w v := fun g e => .inl e
theorem locv_new {su v : Value} {w w' : World} {e size n : Nat} {xs : List Value} (h : w'.ownsRow w.heap.size e size v n xs) : LocV su w v := fun g e => .inr (ownsRow_ge h e)
theorem locv_nil (su : Value) (w : World) : LocV su w (.slice none 0 0) := fun g e => by simp [Value.ownBlock] at e
end Go.Proofs.Ytnlodlpjokkepab
namespace Go.Proofs.Ytnlodlpjokkepab
open Go.RowKit Go.Maps
set_option linter.unusedVariables false
set_option linter.unusedSimpArgs false

set_option maxRecDepth 100000 in
theorem used_dn (p : Nat) (c : Nat → Nat) (d : Ds) (w : World) (h : DiskIs w c p d) (hdn : d.dn = true) : Calls Try.prog 30 #[.pointer (some ⟨p, 0, none⟩)] w fun e w' => e = .returned (.int .i64 0) ∧ w' = w := by
  have hD := h.down
  rw [hdn] at hD
  have HD := hid (down_any _ true w hD)
  clear h hD
  go_enter Try.func30, Try.ntmps30
  go_wp2_with fail
  refine HD.out.mono ?_
  rintro e w1 ⟨rfl, rfl⟩
  clear HD
  go_wp2
  go_ret
  exact ⟨rfl, rfl⟩
set_option maxRecDepth 100000 in
theorem names_dn (p : Nat) (c : Nat → Nat) (d : Ds) (w : World) (h : DiskIs w c p d) (hdn : d.dn = true) : Calls Try.prog 21 #[.pointer (some ⟨p, 0, none⟩)] w fun e w' => e = .returned (.slice none 0 0) ∧ w' = w := by
  have hD := h.down
  rw [hdn] at hD
  have HD := hid (down_any _ true w hD)
  clear h hD
  go_enter Try.func21, Try.ntmps21
  go_wp2_with fail
  refine HD.out.mono ?_
  rintro e w1 ⟨rfl, rfl⟩
  clear HD
  go_wp2
  go_ret
  exact ⟨rfl, rfl⟩
set_option maxRecDepth 100000 in
theorem changes_same (p : Nat) (c : Nat → Nat) (d : Ds) (w : World) (h : DiskIs w c p d) : Calls Try.prog 26 #[.pointer (some ⟨p, 0, none⟩)] w fun e w' => e = .returned (.int .i64 d.n) ∧ w' = w := by
  have c5 := h.cells.2.1
  clear h
  go_enter Try.func26, Try.ntmps26
  go_wp2
  go_ret
  exact ⟨rfl, rfl⟩
theorem rd_mem {d : Ds} (hd : d.dn = false) (hn : NmOk d) (hs : Srt d.now) (k : Nat) (hk : k < d.now.length) : rdD d d.now[k].1 = (d.now[k].2, 0) := by
  have h1 := hn _ (List.getElem_mem hk)
  have h2 : kget d.now d.now[k].1 = some d.now[k].2 := srt_mem hs (List.getElem_mem hk)
  unfold rdD
  rw [hd, if_neg (by decide), if_neg (by rw [h1]; decide), h2]
theorem nm_cell {w : World} {ad : Option Addr} {n cap k : Nat} {A : List (Bs × Bs)} (h : w.ownsRow 0 9 1 (.slice ad n cap) n (nmC A)) (hn : n = A.length) (hk : k < A.length) : ∃ g, ad = some ⟨g, 0, none⟩ ∧ w.cell? ⟨g, k, none⟩ = some (.string (tx A[k].1)) := by
  rcases h.2 with ⟨e, h0⟩ | ⟨g, cap', cur, e, _⟩
  · omega
  · injection e with e1 e2 e3
    subst e1
    exact ⟨g, rfl, grow_at h (by simp [nmC, hk])⟩
/-- all that is asked of the two, in worlds further on -/
structure SayIn (w : World) (p : Nat) (D : Value) (d : Ds) (name : Bs) (x2 : Nat) : Prop where
  down : ∀ W, Keep (fun _ => False) w W → Calls Try.prog 35 #[.pointer (some ⟨p, 0, none⟩)] W fun e w' => e = .returned (.bool d.dn) ∧ w' = W
  chgs : ∀ W, Keep (fun _ => False) w W → Calls Try.prog 26 #[.pointer (some ⟨p, 0, none⟩)] W fun e w' => e = .returned (.int .i64 d.n) ∧ w' = W
  waits : ∀ W, Keep (fun _ => False) w W → Calls Try.prog 23 #[.pointer (some ⟨p, 0, none⟩)] W fun e w' => e = .returned (.int .i64 x2) ∧ w' = W
  read : ∀ W, Keep (fun _ => False) w W → ∀ nm : Bs, Calls Try.prog 20 #[.pointer (some ⟨p, 0, none⟩), .string (tx nm)] W fun e w' => e = .returned (.tuple #[.string (tx (rdD d nm).1), .int .i64 (rdD d nm).2]) ∧ Keep (fun _ => False) W w'
  rread : ∀ W, Keep (fun _ => False) w W → Calls Try.prog 41 #[D, .string (tx name)] W fun e w' => e = .returned (.tuple #[.string (tx (rdD d name).1), .int .i64 (rdD d name).2]) ∧ Keep (fun _ => False) W w'
  nmdn : d.dn = true → ∀ W, Keep (fun _ => False) w W → Calls Try.prog 21 #[.pointer (some ⟨p, 0, none⟩)] W fun e w' => e = .returned (.slice none 0 0) ∧ w' = W
  usdn : d.dn = true → ∀ W, Keep (fun _ => False) w W → Calls Try.prog 30 #[.pointer (some ⟨p, 0, none⟩)] W fun e w' => e = .returned (.int .i64 0) ∧ w' = W
  nmup : d.dn = false → ∀ W, Keep (fun _ => False) w W → Calls Try.prog 21 #[.pointer (some ⟨p, 0, none⟩)] W fun e w' => ∃ ad cap, e = .returned (.slice ad d.now.length cap) ∧ w'.ownsRow 0 9 1 (.slice ad d.now.length cap) d.now.length (nmC d.now) ∧ Keep (fun _ => False) W w'
  usup : d.dn = false → ∀ W, Keep (fun _ => False) w W → Calls Try.prog 30 #[.pointer (some ⟨p, 0, none⟩)] W fun e w' => e = .returned (.int .i64 (tot d.now)) ∧ w' = W
  now : ∀ W, Keep (fun _ => False) w W → Calls Try.prog 42 #[D] W fun e w' => ∃ ad cap, e = .returned (.slice ad d.now.length cap) ∧ FileRow w' 0 (.slice ad d.now.length cap) d.now ∧ Keep (fun _ => False) W w'
  rused : ∀ W, Keep (fun _ => False) w W → Calls Try.prog 43 #[D] W fun e w' => e = .returned (.int .i64 ((tot d.now : Nat) : Int)) ∧ Keep (fun _ => False) W w'
theorem say_in {P : Nat → Prop} {w0 w : World} {p : Nat} {su wa fa : Value} {ms : List RC} {d : Ds} {k B : Nat} (h : Both P w0 w p su wa fa ms d d) (hPI : PI d k B) (hB : B ≤ 7036874417) (rm : Int) (name : Bs) (hl : name.length ≤ 70368744177) : SayIn w p (rdV su wa d.n d.dn fa rm) d name ms.length := by
  obtain ⟨⟨c, D, _⟩, hR, hK⟩ := h
  have hN := hPI.now hB
  have DW : ∀ W, Keep (fun _ => False) w W → DiskIs W c p d := fun W hW => D.keep hW (fun _ _ => rfl) (fun _ _ h => h.elim)
  obtain ⟨_, hln, hsr⟩ := hN.tot
  refine ⟨fun W hW => down_any _ d.dn W (DW W hW).down, fun W hW => changes_same p c d W (DW W hW), fun W hW => ?_, fun W hW nm => read_any p c d nm W (DW W hW), fun W hW => rread_any su wa fa ms d rm name W (hR.keep hW) hN hl, fun hd W hW => names_dn p c d W (DW W hW) hd, fun hd W hW => used_dn p c d W (DW W hW) hd, fun hd W hW => ?_, fun hd W hW => used_up p c d W (DW W hW) hd, fun W hW => (now_any su wa fa ms d d.n d.dn rm W (hR.keep hW) hN).mono fun e w' ⟨v', he, hr, hk⟩ => ?_, fun W hW => rused_any su wa fa ms d d.n d.dn rm W (hR.keep hW) hN⟩
  · rw [hR.len]; exact waits_any p c d W (DW W hW)
  · refine (names_any keysC sortedC p c d W (DW W hW) hd (by omega) (fun x hx => nameOk_len (hPI.nm x hx))).mono fun e w' ⟨v, he, hr, hk⟩ => ?_
    obtain ⟨ad, cap, rfl⟩ := row_form hr
    exact ⟨ad, cap, he, ownsRow_base hr (Nat.zero_le _), hk⟩
  · obtain ⟨ad, cap, rfl⟩ := row_form hr
    exact ⟨ad, cap, he, hr, hk⟩
set_option maxRecDepth 100000 in
set_option maxHeartbeats 4000000 in
theorem says_dn (p : Nat) (a1 a2 a3 : Option Addr) (x1 c1 x2 c2 b3 c3 n : Nat) (rm : Int) (d : Ds) (name : Bs) (w : World) (hI : SayIn w p (.agg #[.slice a1 x1 c1, .slice a2 x2 c2, .int .i64 (n : Int), .bool true, .slice a3 b3 c3, .int .i64 rm]) d name x2) (hd : d.dn = true) (hn : d.n = n) (hlA : d.now.length ≤ 7036874417) (hNM : NmOk d) (hSR : Srt d.now) :
    Calls Try.prog 13 #[.pointer (some ⟨p, 0, none⟩), .agg #[.slice a1 x1 c1, .slice a2 x2 c2, .int .i64 (n : Int), .bool true, .slice a3 b3 c3, .int .i64 rm], .string (tx name)] w fun e w' => e = .returned (.bool true) ∧ Keep (fun _ => False) w w' := by
  have I1 := hid hI.down
  have I2 := hid hI.chgs
  have I3 := hid hI.waits
  have HI := hid hI
  rw [hd] at I1
  rw [hn] at I2
  have hnn : ((n : Int) != (n : Int)) = false := by simp
  have hxx : ((x2 : Int) != (x2 : Int)) = false := by simp
  have HD := hid hd
  have HL := hid hlA
  have HNM := hid hNM
  have HSR := hid hSR
  clear hI hd hn hlA hNM hSR
  go_enter Try.func13, Try.ntmps13
  go_wp2
  have hk0 := keep_alloc (fun _ => False) w (.cells #[.slice a1 x1 c1, .slice a2 x2 c2, .int .i64 (n : Int), .bool true, .slice a3 b3 c3, .int .i64 rm] 30)
  have hr0 : RowIs (w.alloc (.cells #[.slice a1 x1 c1, .slice a2 x2 c2, .int .i64 (n : Int), .bool true, .slice a3 b3 c3, .int .i64 rm] 30)) w.heap.size [.slice a1 x1 c1, .slice a2 x2 c2, .int .i64 (n : Int), .bool true, .slice a3 b3 c3, .int .i64 rm] 30 := heap_alloc_new _ _
  generalize w.alloc (.cells #[.slice a1 x1 c1, .slice a2 x2 c2, .int .i64 (n : Int), .bool true, .slice a3 b3 c3, .int .i64 rm] 30) = wA at *
  have HKa := hid hk0
  have HKb : Hid (Keep (fun _ => False) w wA.drew) := hk0.trans (keep_drew _ _)
  have HRA := hid hr0
  have m1 := hr0.cellAt (o := 1) rfl
  have m2 := hr0.cellAt (o := 2) rfl
  have m3 := hr0.cellAt (o := 3) rfl
  clear hk0 hr0
  go_region_held3 (fun w' => w'.cell? ⟨w.heap.size, 1, none⟩ = some (.slice a2 x2 c2) ∧ w'.cell? ⟨w.heap.size, 2, none⟩ = some (.int .i64 (n : Int)) ∧ w'.cell? ⟨w.heap.size, 3, none⟩ = some (.bool true)) (first | with_reducible assumption | (refine ⟨?_, ?_, ?_⟩ <;> with_reducible assumption) | go_keep) (first | (go_at_call 35; with_reducible (refine (I1.out _ ?_).mono ?_); (first | exact HKa.out | exact HKb.out); rintro e w2 ⟨rfl, rfl⟩) | (go_at_call 26; with_reducible (refine (I2.out _ ?_).mono ?_); (first | exact HKa.out | exact HKb.out); rintro e w2 ⟨rfl, rfl⟩) | (go_at_call 23; with_reducible (refine (I3.out _ ?_).mono ?_); (first | exact HKa.out | exact HKb.out); rintro e w2 ⟨rfl, rfl⟩))
  go_wp2_with fail
  have HRB := hid (HRA.out.keep (keep_drew (fun _ => False) wA) (fun h => h))
  refine (HI.out.read wA.drew HKb.out name).mono ?_
  rintro e w2 ⟨rfl, hk2⟩
  have HK2 := hid (HKb.out.trans hk2)
  have HR2 := hid (HRB.out.keep hk2 (fun h => h))
  clear hk2 HKa HKb HRA HRB m1 m2 m3 I1 I2 I3
  have m0 := HR2.out.cellAt (o := 0) rfl
  have m1 := HR2.out.cellAt (o := 1) rfl
  have m2 := HR2.out.cellAt (o := 2) rfl
  have m3 := HR2.out.cellAt (o := 3) rfl
  have m4 := HR2.out.cellAt (o := 4) rfl
  have m5 := HR2.out.cellAt (o := 5) rfl
  go_wp2_with fail
  refine (HI.out.rread w2 HK2.out).mono ?_
  rintro e w3 ⟨rfl, hk3⟩
  have HK3 := hid (HK2.out.trans hk3)
  have HR3 := hid (HR2.out.keep hk3 (fun h => h))
  clear hk3 HK2 HR2 m0 m1 m2 m3 m4 m5
  have hs1 := tl_self (tx (rdD d name).1)
  have hs2 : ((rdD d name).2 != (rdD d name).2) = false := by simp
  generalize tx (rdD d name).1 = SX at *
  generalize (rdD d name).2 = EX at *
  go_wp2_with fail
  refine (HI.out.nmdn HD.out w3 HK3.out).mono ?_
  rintro e w4 ⟨rfl, rfl⟩
  have m3 := HR3.out.cellAt (o := 3) rfl
  go_wp2_with fail
  refine (HI.out.usdn HD.out _ HK3.out).mono ?_
  rintro e w5 ⟨rfl, rfl⟩
  go_wp2
  go_ret
  exact ⟨rfl, HK3.out⟩
set_option maxRecDepth 100000 in
set_option maxHeartbeats 4000000 in
theorem says_up (p : Nat) (a1 a2 a3 : Option Addr) (x1 c1 x2 c2 b3 c3 n : Nat) (rm : Int) (d : Ds) (name : Bs) (w : World) (hI : SayIn w p (.agg #[.slice a1 x1 c1, .slice a2 x2 c2, .int .i64 (n : Int), .bool false, .slice a3 b3 c3, .int .i64 rm]) d name x2) (hd : d.dn = false) (hn : d.n = n) (hlA : d.now.length ≤ 7036874417) (hNM : NmOk d) (hSR : Srt d.now) :
    Calls Try.prog 13 #[.pointer (some ⟨p, 0, none⟩), .agg #[.slice a1 x1 c1, .slice a2 x2 c2, .int .i64 (n : Int), .bool false, .slice a3 b3 c3, .int .i64 rm], .string (tx name)] w fun e w' => e = .returned (.bool true) ∧ Keep (fun _ => False) w w' := by
  have I1 := hid hI.down
  have I2 := hid hI.chgs
  have I3 := hid hI.waits
  have HI := hid hI
  rw [hd] at I1
  rw [hn] at I2
  have hnn : ((n : Int) != (n : Int)) = false := by simp
  have hxx : ((x2 : Int) != (x2 : Int)) = false := by simp
  have HD := hid hd
  have HL := hid hlA
  have HNM := hid hNM
  have HSR := hid hSR
  clear hI hd hn hlA hNM hSR
  go_enter Try.func13, Try.ntmps13
  go_wp2
  have hk0 := keep_alloc (fun _ => False) w (.cells #[.slice a1 x1 c1, .slice a2 x2 c2, .int .i64 (n : Int), .bool false, .slice a3 b3 c3, .int .i64 rm] 30)
  have hr0 : RowIs (w.alloc (.cells #[.slice a1 x1 c1, .slice a2 x2 c2, .int .i64 (n : Int), .bool false, .slice a3 b3 c3, .int .i64 rm] 30)) w.heap.size [.slice a1 x1 c1, .slice a2 x2 c2, .int .i64 (n : Int), .bool false, .slice a3 b3 c3, .int .i64 rm] 30 := heap_alloc_new _ _
  generalize w.alloc (.cells #[.slice a1 x1 c1, .slice a2 x2 c2, .int .i64 (n : Int), .bool false, .slice a3 b3 c3, .int .i64 rm] 30) = wA at *
  have HKa := hid hk0
  have HKb : Hid (Keep (fun _ => False) w wA.drew) := hk0.trans (keep_drew _ _)
  have HRA := hid hr0
  have m1 := hr0.cellAt (o := 1) rfl
  have m2 := hr0.cellAt (o := 2) rfl
  have m3 := hr0.cellAt (o := 3) rfl
  clear hk0 hr0
  go_region_held3 (fun w' => w'.cell? ⟨w.heap.size, 1, none⟩ = some (.slice a2 x2 c2) ∧ w'.cell? ⟨w.heap.size, 2, none⟩ = some (.int .i64 (n : Int)) ∧ w'.cell? ⟨w.heap.size, 3, none⟩ = some (.bool false)) (first | with_reducible assumption | (refine ⟨?_, ?_, ?_⟩ <;> with_reducible assumption) | go_keep) (first | (go_at_call 35; with_reducible (refine (I1.out _ ?_).mono ?_); (first | exact HKa.out | exact HKb.out); rintro e w2 ⟨rfl, rfl⟩) | (go_at_call 26; with_reducible (refine (I2.out _ ?_).mono ?_); (first | exact HKa.out | exact HKb.out); rintro e w2 ⟨rfl, rfl⟩) | (go_at_call 23; with_reducible (refine (I3.out _ ?_).mono ?_); (first | exact HKa.out | exact HKb.out); rintro e w2 ⟨rfl, rfl⟩))
  go_wp2_with fail
  have HRB := hid (HRA.out.keep (keep_drew (fun _ => False) wA) (fun h => h))
  refine (HI.out.read wA.drew HKb.out name).mono ?_
  rintro e w2 ⟨rfl, hk2⟩
  have HK2 := hid (HKb.out.trans hk2)
  have HR2 := hid (HRB.out.keep hk2 (fun h => h))
  clear hk2 HKa HKb HRA HRB m1 m2 m3 I1 I2 I3
  have m0 := HR2.out.cellAt (o := 0) rfl
  have m1 := HR2.out.cellAt (o := 1) rfl
  have m2 := HR2.out.cellAt (o := 2) rfl
  have m3 := HR2.out.cellAt (o := 3) rfl
  have m4 := HR2.out.cellAt (o := 4) rfl
  have m5 := HR2.out.cellAt (o := 5) rfl
  go_wp2_with fail
  refine (HI.out.rread w2 HK2.out).mono ?_
  rintro e w3 ⟨rfl, hk3⟩
  have HK3 := hid (HK2.out.trans hk3)
  have HR3 := hid (HR2.out.keep hk3 (fun h => h))
  clear hk3 HK2 HR2 m0 m1 m2 m3 m4 m5
  have hs1 := tl_self (tx (rdD d name).1)
  have hs2 : ((rdD d name).2 != (rdD d name).2) = false := by simp
  generalize tx (rdD d name).1 = SX at *
  generalize (rdD d name).2 = EX at *
  go_wp2_with fail
  refine (HI.out.nmup HD.out w3 HK3.out).mono ?_
  rintro e w4 ⟨adN, capN, rfl, hrN, hk4⟩
  have HK4 := hid (HK3.out.trans hk4)
  have HR4 := hid (HR3.out.keep hk4 (fun h => h))
  have HN4 := hid hrN
  clear hk4 hrN HK3 HR3
  have m0 := HR4.out.cellAt (o := 0) rfl
  have m1 := HR4.out.cellAt (o := 1) rfl
  have m2 := HR4.out.cellAt (o := 2) rfl
  have m3 := HR4.out.cellAt (o := 3) rfl
  have m4 := HR4.out.cellAt (o := 4) rfl
  have m5 := HR4.out.cellAt (o := 5) rfl
  go_wp2_with fail
  refine (HI.out.now w4 HK4.out).mono ?_
  rintro e w5 ⟨adL, capL, rfl, hrL, hk5⟩
  have HK5 := hid (HK4.out.trans hk5)
  have HR5 := hid (HR4.out.keep hk5 (fun h => h))
  have HN5 := hid (hk5.ownsRow HN4.out (fun _ _ h => h))
  have HL5 := hid hrL
  clear hk5 hrL HK4 HR4 HN4 m0 m1 m2 m3 m4 m5 hs1 hs2
  have m0 := HR5.out.cellAt (o := 0) rfl
  have m1 := HR5.out.cellAt (o := 1) rfl
  have m2 := HR5.out.cellAt (o := 2) rfl
  have m3 := HR5.out.cellAt (o := 3) rfl
  have m4 := HR5.out.cellAt (o := 4) rfl
  have m5 := HR5.out.cellAt (o := 5) rfl
  have U1 := hid (HI.out.usup HD.out)
  have U2 : Hid (∀ W, Keep (fun _ => False) w5 W → Calls Try.prog 43 #[.agg #[.slice a1 x1 c1, .slice a2 x2 c2, .int .i64 (n : Int), .bool false, .slice a3 b3 c3, .int .i64 rm]] W fun e w' => e = .returned (.int .i64 ((tot d.now : Nat) : Int)) ∧ (w'.cell? ⟨w.heap.size, 0, none⟩ = some (.slice a1 x1 c1) ∧ w'.cell? ⟨w.heap.size, 1, none⟩ = some (.slice a2 x2 c2) ∧ w'.cell? ⟨w.heap.size, 2, none⟩ = some (.int .i64 (n : Int)) ∧ w'.cell? ⟨w.heap.size, 3, none⟩ = some (.bool false) ∧ w'.cell? ⟨w.heap.size, 4, none⟩ = some (.slice a3 b3 c3) ∧ w'.cell? ⟨w.heap.size, 5, none⟩ = some (.int .i64 rm)) ∧ Hid (Keep (fun _ => False) w5 w')) := fun W hW => (HI.out.rused W (HK5.out.trans hW)).mono fun e w' ⟨he, hk⟩ => by
    have r := HR5.out.keep (hW.trans hk) (fun h => h)
    exact ⟨he, ⟨r.cellAt rfl, r.cellAt rfl, r.cellAt rfl, r.cellAt rfl, r.cellAt rfl, r.cellAt rfl⟩, hW.trans hk⟩
  have HKc : Hid (Keep (fun _ => False) w w5.drew) := HK5.out.trans (keep_drew _ _)
  have k5a : Hid (Keep (fun _ => False) w5 w5) := Keep.refl _ _
  have k5b : Hid (Keep (fun _ => False) w5 w5.drew) := keep_drew _ _
  have hll : ((d.now.length : Int) != (d.now.length : Int)) = false := by simp
  have htt : (((tot d.now : Nat) : Int) != ((tot d.now : Nat) : Int)) = false := by simp
  have HRM := hid (rd_mem HD.out HNM.out HSR.out)
  generalize hA : d.now = A at *
  clear hA
  generalize tot A = TA at *
  go_wp2
  go_region_held3 (fun w' => w'.cell? ⟨w.heap.size, 0, none⟩ = some (.slice a1 x1 c1) ∧ w'.cell? ⟨w.heap.size, 1, none⟩ = some (.slice a2 x2 c2) ∧ w'.cell? ⟨w.heap.size, 2, none⟩ = some (.int .i64 (n : Int)) ∧ w'.cell? ⟨w.heap.size, 3, none⟩ = some (.bool false) ∧ w'.cell? ⟨w.heap.size, 4, none⟩ = some (.slice a3 b3 c3) ∧ w'.cell? ⟨w.heap.size, 5, none⟩ = some (.int .i64 rm)) (first | with_reducible assumption | (refine ⟨?_, ?_, ?_, ?_, ?_, ?_⟩ <;> with_reducible assumption) | go_keep) (first | (go_at_call 30; with_reducible (refine (U1.out _ ?_).mono ?_); (first | exact HK5.out | exact HKc.out); rintro e w6 ⟨rfl, rfl⟩) | (go_at_call 43; with_reducible (refine (U2.out _ ?_).mono ?_); (first | exact k5a.out | exact k5b.out); rintro e w6 ⟨rfl, hc6, hk6⟩))
  all_goals
    clear m0 m1 m2 m3 m4 m5 hc6 U1 U2
    go_wp2
    go_loopw [13] (fun i wr => ∃ k : Nat, k ≤ A.length ∧ i = .int .i64 k ∧ Hid (Keep (fun _ => False) w5 wr)) (fun i _ => A.length - (intOf i).toNat)
    case atStart => exact ⟨0, by omega, rfl, by first | exact hk6 | exact hid (hk6.out.trans (keep_drew _ _))⟩
    case round =>
      obtain ⟨k, hk, rfl, HKR⟩ := hrel
      by_cases hlt : k < A.length
      · have hk0 : (0 : Int) ≤ (k : Int) := by omega
        have hk1 : (k : Int) < (A.length : Int) := by omega
        have hA9 : (A.length : Int) ≤ 7036874417 := by have := HL.out; omega
        obtain ⟨g1, e1, q0⟩ := nm_cell (HKR.out.ownsRow HN5.out (fun _ _ h => h)) rfl hlt
        obtain ⟨g2, e2, _, q1, q2⟩ := row_cells (HKR.out.ownsRow HL5.out (fun _ _ h => h)) k hlt
        have HR1 := HRM.out k hlt
        have RD := hid (HI.out.read wr (HK5.out.trans HKR.out) A[k].1)
        rw [HR1] at RD
        have HXX := hid (fun W => HKR.out.trans (c := W))
        have QQ : Hid (∀ W, Keep (fun _ => False) wr W → W.cell? ⟨g1, k, none⟩ = some (.string (tx A[k].1)) ∧ W.cell? ⟨g2, k * 2, none⟩ = some (.string (tx A[k].1)) ∧ W.cell? ⟨g2, k * 2 + 1, none⟩ = some (.string (tx A[k].2))) := fun W hW => by
          obtain ⟨g1', e1', q0'⟩ := nm_cell ((HKR.out.trans hW).ownsRow HN5.out (fun _ _ h => h)) rfl hlt
          obtain ⟨g2', e2', _, q1', q2'⟩ := row_cells ((HKR.out.trans hW).ownsRow HL5.out (fun _ _ h => h)) k hlt
          rw [e1] at e1'; injection e1' with e1'; injection e1' with e1'
          rw [e2] at e2'; injection e2' with e2'; injection e2' with e2'
          subst e1' e2'
          exact ⟨q0', q1', q2'⟩
        subst e1 e2
        have hx1 := tl_self (tx A[k].1)
        have hx2 := tl_self (tx A[k].2)
        clear HR1 HRM HI HN5 HL5
        simp only at RD
        generalize tx A[k].1 = X1 at *
        generalize tx A[k].2 = X2 at *
        go_wp2_with fail
        refine RD.out.mono ?_
        rintro e w7 ⟨rfl, hk7⟩
        obtain ⟨z0, z1, z2⟩ := QQ.out w7 hk7
        have HK7 := hid (HKR.out.trans hk7)
        clear RD QQ q0 q1 q2 hk7 HKR HXX
        go_wp2
        go_quiet (fail)
        have HK8 := hid (HK7.out.trans (keep_drewN w7 nq))
        clear HK7
        go_wp2
        exact ⟨⟨k + 1, by omega, by go_num, HK8⟩, by simp [intOf]; omega⟩
      · have hd : decide ((k : Int) < (A.length : Int)) = false := decide_eq_false (by omega)
        have HE := hid (HK5.out.trans HKR.out)
        clear HI HRM HN5 HL5
        go_wp2
        go_ret
        exact ⟨rfl, HE.out⟩
theorem says_any {P : Nat → Prop} {w0 w : World} {p : Nat} {su wa fa : Value} {ms : List RC} {d : Ds} {k B : Nat} (h : Both P w0 w p su wa fa ms d d) (hPI : PI d k B) (hB : B ≤ 7036874417) (rm : Int) (name : Bs) (hl : name.length ≤ 70368744177) :
    Calls Try.prog 13 #[.pointer (some ⟨p, 0, none⟩), rdV su wa d.n d.dn fa rm, .string (tx name)] w fun e w' => e = .returned (.bool true) ∧ Keep (fun _ => False) w w' := by
  have hI := say_in h hPI hB rm name hl
  obtain ⟨_, hln, hsr⟩ := (hPI.now hB).tot
  obtain ⟨a1, c1, rfl⟩ := row_form h.ref.sure
  obtain ⟨a2, c2, rfl⟩ := row_form h.ref.wait
  obtain ⟨a3, b3, c3, rfl⟩ := h.ref.fa
  unfold rdV at *
  cases hd : d.dn with
  | true =>
    rw [hd] at hI
    exact says_dn p a1 a2 a3 _ c1 _ c2 b3 c3 d.n rm d name w hI hd rfl hln hPI.nm hsr
  | false =>
    rw [hd] at hI
    exact says_up p a1 a2 a3 _ c1 _ c2 b3 c3 d.n rm d name w hI hd rfl hln hPI.nm hsr
end Go.Proofs.Ytnlodlpjokkepab
namespace Go.Proofs.Ytnlodlpjokkepab
open Go.RowKit Go.Maps
set_option linter.unusedVariables false
set_option linter.unusedSimpArgs false

set_option maxRecDepth 100000 in
set_option maxHeartbeats 4000000 in
/-- what hinders is told, and nothing is changed -/
theorem make_no (a1 a2 a3 : Option Addr) (x1 c1 x2 c2 b3 c3 n : Nat) (dn : Bool) (rm : Int) (KD LG : Int) (NM TT SX : ByteArray) (r : Int) (w : World) (hr : r ≠ 0)
    (HW : ∀ W, Keep (fun _ => False) w W → Calls Try.prog 59 #[.agg #[.slice a1 x1 c1, .slice a2 x2 c2, .int .i64 (n : Int), .bool dn, .slice a3 b3 c3, .int .i64 rm], .agg #[.int .i64 KD, .string NM, .string TT, .string SX, .int .i64 LG]] W fun e w' => e = .returned (.int .i64 r) ∧ Keep (fun _ => False) W w') :
    Calls Try.prog 37 #[.agg #[.slice a1 x1 c1, .slice a2 x2 c2, .int .i64 (n : Int), .bool dn, .slice a3 b3 c3, .int .i64 rm], .agg #[.int .i64 KD, .string NM, .string TT, .string SX, .int .i64 LG]] w fun e w' => e = .returned (.tuple #[.agg #[.slice a1 x1 c1, .slice a2 x2 c2, .int .i64 (n : Int), .bool dn, .slice a3 b3 c3, .int .i64 rm], .int .i64 r]) ∧ Keep (fun _ => False) w w' := by
  have HW' := hid HW
  have hrb : (r != 0) = true := by rw [bne_iff_ne]; exact hr
  clear HW hr
  go_enter Try.func37, Try.ntmps37
  go_wp2_with fail
  refine (HW'.out _ ?_).mono ?_
  · exact ((keep_alloc _ _ _).trans (keep_alloc _ _ _)).trans (keep_alloc _ _ _)
  rintro e w1 ⟨rfl, hk1⟩
  have z1 : ((w.alloc (.cells #[.slice a1 x1 c1, .slice a2 x2 c2, .int .i64 (n : Int), .bool dn, .slice a3 b3 c3, .int .i64 rm] 30)).alloc (.cells #[.int .i64 KD, .string NM, .string TT, .string SX, .int .i64 LG] 77)).heap.size = w.heap.size + 1 + 1 := by simp
  have rd : RowIs w1 w.heap.size [.slice a1 x1 c1, .slice a2 x2 c2, .int .i64 (n : Int), .bool dn, .slice a3 b3 c3, .int .i64 rm] 30 := ((RowIs.keep (heap_alloc_new _ _) (keep_alloc (fun _ => False) _ _) (fun h => h)).keep (keep_alloc (fun _ => False) _ _) (fun h => h)).keep hk1 (fun h => h)
  have rr : RowIs w1 (w.heap.size + 1 + 1) [.slice none 0 0, .slice none 0 0, .int .i64 0, .bool false, .slice none 0 0, .int .i64 0] 30 := RowIs.keep (by rw [← z1]; exact heap_alloc_new _ _) hk1 (fun h => h)
  have HK1 := hid ((((keep_alloc (fun _ => False) w _).trans (keep_alloc _ _ _)).trans (keep_alloc _ _ _)).trans hk1)
  have HS := hid (six (v0 := .slice a1 x1 c1) (v1 := .slice a2 x2 c2) (v2 := .int .i64 (n : Int)) (v3 := .bool dn) (v4 := .slice a3 b3 c3) (v5 := .int .i64 rm) rr)
  have d0 := rd.cellAt (o := 0) rfl
  have d1 := rd.cellAt (o := 1) rfl
  have d2 := rd.cellAt (o := 2) rfl
  have d3 := rd.cellAt (o := 3) rfl
  have d4 := rd.cellAt (o := 4) rfl
  have d5 := rd.cellAt (o := 5) rfl
  have y0 := rr.cellAt (o := 0) rfl
  have y1 := rr.cellAt (o := 1) rfl
  have y2 := rr.cellAt (o := 2) rfl
  have y3 := rr.cellAt (o := 3) rfl
  have y4 := rr.cellAt (o := 4) rfl
  have y5 := rr.cellAt (o := 5) rfl
  have g0 := rr.frozen (o := 0)
  have g1 := rr.frozen (o := 1)
  have g2 := rr.frozen (o := 2)
  have g3 := rr.frozen (o := 3)
  have g4 := rr.frozen (o := 4)
  have g5 := rr.frozen (o := 5)
  clear z1 rd rr hk1 HW'
  go_wp2
  refine bodyPost_ret (v := .tuple #[.agg #[.slice a1 x1 c1, .slice a2 x2 c2, .int .i64 (n : Int), .bool dn, .slice a3 b3 c3, .int .i64 rm], .int .i64 r]) (ret_cell_tmp (p := 4) (u := 5) rfl _ _ (w.heap.size + 1 + 1) _ _ rfl rfl (run_loadVar_row _ _ _ _ _ _ _ HS.out.1 Try.underlying30 rfl (by kernel_rfl))) rfl ⟨rfl, ?_⟩
  exact HK1.out.then HS.out.2 (fun j hj e => by omega)

theorem find_first (l : List Fl) (n : Int) : (l.find? (fun x => x.at_ = n) = none ∧ ∀ j (h : j < l.length), l[j].at_ ≠ n) ∨ ∃ k, ∃ (h : k < l.length), l.find? (fun x => x.at_ = n) = some l[k] ∧ l[k].at_ = n ∧ ∀ j (h : j < l.length), j < k → l[j].at_ ≠ n := by
  induction l with
  | nil => exact .inl ⟨rfl, fun j h => by cases h⟩
  | cons x r ih =>
    by_cases hx : x.at_ = n
    · exact .inr ⟨0, by simp, by simp [hx], hx, fun j h h2 => by omega⟩
    · rcases ih with ⟨h1, h2⟩ | ⟨k, hk, h1, h2, h3⟩
      · refine .inl ⟨by simp [hx, h1], fun j h => ?_⟩
        cases j with
        | zero => exact hx
        | succ j => exact h2 j (by simpa using h)
      · refine .inr ⟨k + 1, by simpa using hk, by simp [hx, h1], h2, fun j h hj => ?_⟩
        cases j with
        | zero => exact hx
        | succ j => exact h3 j (by simpa using h) (by omega)
theorem off_first (l : List Fl) (n : Nat) (k : Nat) (hk : k < l.length) (h1 : l[k].at_ = (n : Int)) (h2 : ∀ j (h : j < l.length), j < k → l[j].at_ ≠ (n : Int)) : offF l n = l.take k ++ l.drop (k + 1) := by
  induction l generalizing k with
  | nil => cases hk
  | cons x r ih =>
    cases k with
    | zero =>
      have h1' : x.at_ = (n : Int) := h1
      simp [offF, List.eraseP_cons, h1']
    | succ k =>
      have h0 : x.at_ ≠ (n : Int) := h2 0 (by simp) (by omega)
      have := ih k (by simpa using hk) h1 (fun j h hj => h2 (j + 1) (by simpa using h) (by omega))
      unfold offF at this ⊢
      rw [List.eraseP_cons_of_neg (by simpa using h0), this]
      rfl
theorem fls_take : ∀ (l : List Fl) (k : Nat), (fls l).take (k * 3) = fls (l.take k)
  | [], k => by simp [fls]
  | x :: r, 0 => by simp [fls]
  | x :: r, k + 1 => by
    have ih := fls_take r k
    show (flC x ++ fls r).take ((k + 1) * 3) = flC x ++ fls (r.take k)
    rw [← ih, List.take_append, List.take_of_length_le (by simp [flC]; omega)]
    congr 2
    simp [flC]; omega
theorem fls_drop : ∀ (l : List Fl) (k : Nat), (fls l).drop (k * 3) = fls (l.drop k)
  | [], k => by simp [fls]
  | x :: r, 0 => by simp [fls]
  | x :: r, k + 1 => by
    have ih := fls_drop r k
    show (flC x ++ fls r).drop ((k + 1) * 3) = fls (r.drop k)
    rw [← ih, List.drop_append, List.drop_eq_nil_of_le (by simp [flC]; omega), List.nil_append]
    congr 1
    simp [flC]; omega
theorem fls_append (a b : List Fl) : fls (a ++ b) = fls a ++ fls b := by simp [fls]

/-- a change of the reference's disk -/
theorem make_any (su wa fa : Value) (ms : List RC) (d : Ds) (rm : Int) (a : AC) (k B : Nat) (w : World) (hR : RefIs w su wa fa ms d) (hP : PI d k B) (hB : B + a.s.length + 1 ≤ 7036874417) (hrm : RmOk d rm) (h0 : 0 ≤ a.kind) (h4 : a.kind ≤ 4) (hfl : d.fl.length ≤ 7036874417) (hn : d.n ≤ 1152921504606846976) :
    Calls Try.prog 37 #[rdV su wa d.n d.dn fa rm, rcV (rcA a)] w fun e w' => ∃ su' wa' fa' ms', e = .returned (.tuple #[rdV su' wa' (calD d a).1.n (calD d a).1.dn fa' rm, .int .i64 (calD d a).2]) ∧ RefIs w' su' wa' fa' ms' (calD d a).1 ∧ Keep (fun _ => False) w w' ∧ LocV su w su' ∧ LocV wa w wa' ∧ LocV fa w fa' := by
  have hN := hP.now (by omega)
  have hml := hR.len
  have hmb : ms.length ≤ 7036874416 := by have := hP.wt; omega
  have WR : ∀ W, Keep (fun _ => False) w W → Calls Try.prog 59 #[rdV su wa d.n d.dn fa rm, rcV (rcA a)] W fun e w' => e = .returned (.int .i64 (wrgD d a)) ∧ Keep (fun _ => False) W w' := fun W hW => wrong_any su wa fa ms d rm a W (hR.keep hW) hN hrm h0 h4 (by omega)
  rw [cal_wrg d a h0 h4]
  obtain ⟨a1, c1, rfl⟩ := row_form hR.sure
  obtain ⟨a2, c2, rfl⟩ := row_form hR.wait
  obtain ⟨a3, c3, rfl⟩ := row_form hR.falls
  by_cases hw : wrgD d a = 0
  · rw [if_pos hw]
    rw [hw] at WR
    obtain ⟨hdn, hnm, hok, hth, hn1, hn2, hpos, hsl⟩ := wrg_ok h0 h4 hw
    have hPM := hP.more (rcA a).ch hok hth hn1 hn2
    have hpos2 : ∀ r ∈ ms ++ [rcA a], r.kind = 4 → 0 ≤ r.long := fun r hr => by
      rcases List.mem_append.1 hr with hr | hr
      · exact hR.pos r hr
      · rw [List.mem_singleton] at hr; subst hr; exact hpos
    have heq2 : (ms ++ [rcA a]).map RC.ch = d.ws ++ [(rcA a).ch] := by rw [List.map_append, hR.eqw]; rfl
    have hrs : rcs (ms ++ [rcA a]) = rcs ms ++ rcC (rcA a) := by simp [rcs]
    have hrl : (ms ++ [rcA a]).length = ms.length + 1 := by simp
    rw [hdn] at WR ⊢
    rcases find_first d.fl (d.n : Int) with ⟨hf, hnf⟩ | ⟨k0, hk0, hf, hat, hnf⟩
    · have hch : chgD d (rcA a).ch = ({ d.more (rcA a).ch with n := d.n + 1 }, 0) := by unfold chgD; rw [hf]
      rw [hch]
      refine (make_on a1 a2 a3 d.S.length c1 c2 c3 ms.length (rcs ms) (rcC (rcA a)) d.fl d.n rm _ _ _ _ _ w rfl hR.wait (rcs_cell1 ms) hR.falls (by omega) hfl hn hnf WR).mono fun e w' ⟨ad, cap, he, ho, hk⟩ => ⟨_, .slice ad (ms.length + 1) cap, _, ms ++ [rcA a], ?_, ?_, hk, locv_refl _ _, locv_new ho, locv_refl _ _⟩
      · rw [he]
        show _ = Ending.returned (.tuple #[rdV _ _ (d.n + 1) d.dn _ rm, _])
        rw [hdn]; rfl
      · exact ⟨hk.ownsRow hR.sure (fun _ _ h => h), by rw [hrs, hrl]; exact ownsRow_base ho (Nat.zero_le _), hk.ownsRow hR.falls (fun _ _ h => h), heq2, hpos2⟩
    · have hof := off_first d.fl d.n k0 hk0 hat hnf
      have hch : chgD d (rcA a).ch = (failD { d.more (rcA a).ch with fl := offF d.fl d.n } d.fl[k0].keep d.fl[k0].torn, 21) := by unfold chgD; rw [hf]
      rw [hch]
      have hfr : (fls d.fl).take (k0 * 3) ++ (fls d.fl).drop ((k0 + 1) * 3) = fls (offF d.fl d.n) := by rw [fls_take, fls_drop, ← fls_append, hof]
      have hol : (offF d.fl d.n).length = d.fl.length - 1 := by rw [hof, List.length_append, List.length_take, List.length_drop]; omega
      have hfd : failD { d.more (rcA a).ch with fl := offF d.fl d.n } d.fl[k0].keep d.fl[k0].torn = { { d.more (rcA a).ch with fl := offF d.fl d.n } with S := failS { d.more (rcA a).ch with fl := offF d.fl d.n } d.fl[k0].keep d.fl[k0].torn, ws := [], dn := true } := by
        unfold failD
        rw [if_neg (by show ¬ d.dn = true; rw [hdn]; decide)]
      have hP2 : PI { d.more (rcA a).ch with fl := offF d.fl d.n } k (B + ((rcA a).ch.s.length + 1)) := ⟨hPM.srt, hPM.oks, hPM.there, hPM.nS, hPM.nW, hPM.wt, hPM.n⟩
      have hN2 := hP2.now (by omega)
      refine (make_fall a1 a2 a3 d.S.length c1 c2 c3 ms.length (rcs ms) (rcC (rcA a)) d.fl d.n rm _ _ _ _ _ w rfl hR.wait (rcs_cell1 ms) hR.falls (by omega) hfl k0 hk0 hat hnf (failS { d.more (rcA a).ch with fl := offF d.fl d.n } d.fl[k0].keep d.fl[k0].torn) ?_ WR).mono fun e w' ⟨ad, cap, v4, he, hf4, hl4, ho4, hk⟩ => ⟨_, .slice none 0 0, v4, [], ?_, ?_, hk, hl4, locv_nil _ _, locv_new ho4⟩
      · intro W v4 v1 h4' h1' hKW
        have hR2 : RefIs W (.slice a1 d.S.length c1) v1 v4 (ms ++ [rcA a]) { d.more (rcA a).ch with fl := offF d.fl d.n } := ⟨hKW.ownsRow hR.sure (fun _ _ h => h), by rw [hrs, hrl]; exact ownsRow_base h1' (Nat.zero_le _), by show W.ownsRow 0 _ 3 v4 (offF d.fl d.n).length (fls (offF d.fl d.n)); rw [hol, ← hfr]; exact ownsRow_base h4' (Nat.zero_le _), heq2, hpos2⟩
        refine (rfail_up _ v1 v4 _ _ rm _ _ W hR2 hN2).mono fun e w' ⟨v', he, hr, hk, hl⟩ => ?_
        obtain ⟨ad, cap, rfl⟩ := row_form hr
        exact ⟨ad, cap, he, hr, hk, fun g e => (hl g e).imp id (Nat.le_trans hKW.size)⟩
      · rw [he, hfd]; rfl
      · rw [hfd]
        exact ⟨hf4, ⟨rfl, .inl ⟨rfl, rfl⟩⟩, by show w'.ownsRow 0 _ 3 v4 (offF d.fl d.n).length (fls (offF d.fl d.n)); rw [hol, ← hfr]; exact ownsRow_base ho4 (Nat.zero_le _), rfl, fun r hr => by cases hr⟩
  · rw [if_neg hw]
    refine (make_no a1 a2 a3 _ c1 _ c2 _ c3 d.n d.dn rm _ _ _ _ _ (wrgD d a) w hw WR).mono fun e w' ⟨he, hk⟩ => ⟨_, _, _, ms, he, hR.keep hk, hk, locv_refl _ _, locv_refl _ _, locv_refl _ _⟩
end Go.Proofs.Ytnlodlpjokkepab
namespace Go.Proofs.Ytnlodlpjokkepab
open Go.RowKit Go.Maps
set_option linter.unusedVariables false
set_option linter.unusedSimpArgs false

theorem ret_three {fn : Func} {s p u : Tmp} {ty : TypeId} (h : fn.results = #[.tmp s, .cell p ty, .tmp u]) (tmps : Array Value) (w : World) (g : Nat) (cs : Array Value) (y x : Value)
    (hs : tmps.getD s undef = y) (hp : tmps.getD p undef = .pointer (some ⟨g, 0, none⟩)) (hx : tmps.getD u undef = x) (hg : (loadVar ty ⟨g, 0, none⟩).run Try.prog w = .ok (.agg cs) w) :
    (results fn tmps).run Try.prog w = .ok (.tuple #[y, .agg cs, x]) w := by
  have hs' : tmps[s]?.getD undef = y := by simpa using hs
  have hp' : tmps[p]?.getD undef = .pointer (some ⟨g, 0, none⟩) := by simpa using hp
  have hx' : tmps[u]?.getD undef = x := by simpa using hx
  simp only [results, h]
  simp [Sem.run_bind, Result.andThen, hp', hx', hs', asAddr, hg]
/-- the program's disk a little further on: what has been laid meanwhile is none of its -/
theorem Both.ext {P : Nat → Prop} {w0 w W : World} {p : Nat} {su wa fa : Value} {ms : List RC} {dp dr : Ds} (h : Both P w0 w p su wa fa ms dp dr) (k : Keep (fun _ => False) w W) :
    ∃ c, DiskIs W c p dp ∧ (∀ j, w.heap.size ≤ j → c j = 7) ∧ (∀ j, P j → j < w.heap.size ∧ 6 < c j) ∧ (∀ g, su.ownBlock = some g → 6 ≤ c g) ∧ (∀ g, wa.ownBlock = some g → 6 ≤ c g) ∧ (∀ g, fa.ownBlock = some g → 6 ≤ c g) := by
  obtain ⟨⟨c, D, h0, h1, h2, h3⟩, hR, hK⟩ := h
  have q : ∀ j, 6 ≤ c j → 6 ≤ if j < w.heap.size then c j else 7 := fun j hj => by split <;> omega
  exact ⟨fun j => if j < w.heap.size then c j else 7, D.keep k (fun j hj => if_pos hj) (fun _ _ h => h.elim), fun j hj => if_neg (by omega), fun j hj => ⟨(h0 j hj).1, by show 6 < if j < w.heap.size then c j else 7; rw [if_pos (h0 j hj).1]; exact (h0 j hj).2⟩, fun g e => q g (h1 g e), fun g e => q g (h2 g e), fun g e => q g (h3 g e)⟩

/-! what is done to both -/
def synE (d : Ds) : Ds × Int := if d.dn then (d, 21) else (synD d, 0)
set_option maxRecDepth 100000 in
theorem sync_dead (dp : Value) (w : World) (h : DownIs w dp true) : Calls Try.prog 15 #[dp] w fun e w' => e = .returned (.int .i64 21) ∧ w' = w := by
  have HD := hid (down_any dp true w h)
  clear h
  go_enter Try.func15, Try.ntmps15
  go_wp2_with fail
  refine HD.out.mono ?_
  rintro e w1 ⟨rfl, rfl⟩
  clear HD
  go_wp2
  go_ret
  exact ⟨rfl, rfl⟩
theorem sync_both (p : Nat) (c : Nat → Nat) (d : Ds) (w : World) (h : DiskIs w c p d) (hM : d.wt + d.S.length + d.ws.length ≤ 70368744177) :
    Calls Try.prog 15 #[.pointer (some ⟨p, 0, none⟩)] w fun e w' => e = .returned (.int .i64 (synE d).2) ∧ Left w c p (synE d).1 w' := by
  unfold synE
  cases hd : d.dn with
  | true =>
    have hD := h.down
    rw [hd] at hD
    refine (sync_dead _ w hD).mono fun e w' ⟨he, hw⟩ => ⟨he, ?_⟩
    subst hw
    exact left_same h (Keep.refl _ _)
  | false => exact sync_any p c d w h hd hM
set_option maxRecDepth 100000 in
theorem rsync_dn (a1 a2 a3 : Option Addr) (x1 c1 x2 c2 b3 c3 n : Nat) (rm : Int) (w : World) :
    Calls Try.prog 39 #[.agg #[.slice a1 x1 c1, .slice a2 x2 c2, .int .i64 (n : Int), .bool true, .slice a3 b3 c3, .int .i64 rm]] w fun e w' => e = .returned (.tuple #[.agg #[.slice a1 x1 c1, .slice a2 x2 c2, .int .i64 (n : Int), .bool true, .slice a3 b3 c3, .int .i64 rm], .int .i64 21]) ∧ Keep (fun _ => False) w w' := by
  go_enter Try.func39, Try.ntmps39
  go_wp2
  refine bodyPost_ret (v := .tuple #[.agg #[.slice a1 x1 c1, .slice a2 x2 c2, .int .i64 (n : Int), .bool true, .slice a3 b3 c3, .int .i64 rm], .int .i64 21]) (by simp [results, Try.results39, go_sem]) rfl ⟨rfl, ?_⟩
  exact (keep_alloc _ _ _).trans (keep_alloc _ _ _)
set_option maxRecDepth 100000 in
theorem rfail_dn (a1 a2 a3 : Option Addr) (x1 c1 x2 c2 b3 c3 n : Nat) (rm kp tn : Int) (w : World) :
    Calls Try.prog 40 #[.agg #[.slice a1 x1 c1, .slice a2 x2 c2, .int .i64 (n : Int), .bool true, .slice a3 b3 c3, .int .i64 rm], .int .i64 kp, .int .i64 tn] w fun e w' => e = .returned (.agg #[.slice a1 x1 c1, .slice a2 x2 c2, .int .i64 (n : Int), .bool true, .slice a3 b3 c3, .int .i64 rm]) ∧ Keep (fun _ => False) w w' := by
  go_enter Try.func40, Try.ntmps40
  go_wp2
  refine bodyPost_ret (v := .agg #[.slice a1 x1 c1, .slice a2 x2 c2, .int .i64 (n : Int), .bool true, .slice a3 b3 c3, .int .i64 rm]) (by simp [results, Try.results40, go_sem]) rfl ⟨rfl, ?_⟩
  exact (keep_alloc _ _ _).trans (keep_alloc _ _ _)
/-- what is left of the reference's disk, as values -/
def Res (w w' : World) (su wa fa : Value) (d' : Ds) (v : Value) (rm : Int) : Prop := ∃ (a1 a2 a3 : Option Addr) (x1 c1 x2 c2 x3 c3 : Nat) (ms' : List RC), v = .agg #[.slice a1 x1 c1, .slice a2 x2 c2, .int .i64 (d'.n : Int), .bool d'.dn, .slice a3 x3 c3, .int .i64 rm] ∧
  RefIs w' (.slice a1 x1 c1) (.slice a2 x2 c2) (.slice a3 x3 c3) ms' d' ∧ LocV su w (.slice a1 x1 c1) ∧ LocV wa w (.slice a2 x2 c2) ∧ LocV fa w (.slice a3 x3 c3)
theorem res_of {w w' : World} {su wa fa su' wa' fa' : Value} {ms' : List RC} {d' : Ds} (rm : Int) (h : RefIs w' su' wa' fa' ms' d') (l1 : LocV su w su') (l2 : LocV wa w wa') (l3 : LocV fa w fa') : Res w w' su wa fa d' (rdV su' wa' d'.n d'.dn fa' rm) rm := by
  obtain ⟨a1, c1, rfl⟩ := row_form h.sure
  obtain ⟨a2, c2, rfl⟩ := row_form h.wait
  obtain ⟨a3, b3, c3, rfl⟩ := h.fa
  exact ⟨a1, a2, a3, _, c1, _, c2, b3, c3, ms', rfl, h, l1, l2, l3⟩
theorem rsync_any (su wa fa : Value) (ms : List RC) (d : Ds) (rm : Int) (w : World) (hR : RefIs w su wa fa ms d) (hN : NowOk d) :
    Calls Try.prog 39 #[rdV su wa d.n d.dn fa rm] w fun e w' => ∃ v, e = .returned (.tuple #[v, .int .i64 (synE d).2]) ∧ Res w w' su wa fa (synE d).1 v rm ∧ Keep (fun _ => False) w w' := by
  unfold synE
  cases hd : d.dn with
  | true =>
    have hR' := hR
    obtain ⟨a1, c1, rfl⟩ := row_form hR.sure
    obtain ⟨a2, c2, rfl⟩ := row_form hR.wait
    obtain ⟨a3, b3, c3, rfl⟩ := hR.fa
    refine (rsync_dn a1 a2 a3 _ c1 _ c2 b3 c3 d.n rm w).mono fun e w' ⟨he, hk⟩ => ⟨_, he, ?_, hk⟩
    have := res_of (w := w) (su := .slice a1 d.S.length c1) (wa := .slice a2 ms.length c2) (fa := .slice a3 b3 c3) rm (hR'.keep hk) (locv_refl _ _) (locv_refl _ _) (locv_refl _ _)
    rw [hd] at this
    exact this
  | false =>
    refine (rsync_up su wa fa ms d rm w hR hN hd).mono fun e w' ⟨v', he, hr, hk, hl⟩ => ⟨_, he, ?_, hk⟩
    have h1 : RefIs w' v' (.slice none 0 0) fa [] (synD d) := ⟨hr, ⟨rfl, .inl ⟨rfl, rfl⟩⟩, hk.ownsRow hR.falls (fun _ _ h => h), rfl, fun r hr => by cases hr⟩
    have := res_of rm h1 hl (locv_nil wa w) (locv_refl fa w)
    have e2 : (synD d).dn = false := hd
    rw [e2] at this
    exact this
theorem rfail_any (su wa fa : Value) (ms : List RC) (d : Ds) (rm kp tn : Int) (w : World) (hR : RefIs w su wa fa ms d) (hN : NowOk d) :
    Calls Try.prog 40 #[rdV su wa d.n d.dn fa rm, .int .i64 kp, .int .i64 tn] w fun e w' => ∃ v, e = .returned v ∧ Res w w' su wa fa (failD d kp tn) v rm ∧ Keep (fun _ => False) w w' := by
  unfold failD
  cases hd : d.dn with
  | true =>
    have hR' := hR
    obtain ⟨a1, c1, rfl⟩ := row_form hR.sure
    obtain ⟨a2, c2, rfl⟩ := row_form hR.wait
    obtain ⟨a3, b3, c3, rfl⟩ := hR.fa
    refine (rfail_dn a1 a2 a3 _ c1 _ c2 b3 c3 d.n rm kp tn w).mono fun e w' ⟨he, hk⟩ => ⟨_, he, ?_, hk⟩
    have := res_of (w := w) (su := .slice a1 d.S.length c1) (wa := .slice a2 ms.length c2) (fa := .slice a3 b3 c3) rm (hR'.keep hk) (locv_refl _ _) (locv_refl _ _) (locv_refl _ _)
    rw [hd] at this
    exact this
  | false =>
    refine (rfail_up su wa fa ms d rm kp tn w hR hN).mono fun e w' ⟨v', he, hr, hk, hl⟩ => ⟨_, he, ?_, hk⟩
    exact res_of (ms' := []) (d' := { d with S := failS d kp tn, ws := [], dn := true }) rm ⟨hr, ⟨rfl, .inl ⟨rfl, rfl⟩⟩, hk.ownsRow hR.falls (fun _ _ h => h), rfl, fun r hr => by cases hr⟩ hl (locv_nil wa w) (locv_refl fa w)
theorem rmake_any (su wa fa : Value) (ms : List RC) (d : Ds) (rm : Int) (a : AC) (k B : Nat) (w : World) (hR : RefIs w su wa fa ms d) (hP : PI d k B) (hB : B + a.s.length + 1 ≤ 7036874417) (hrm : RmOk d rm) (h0 : 0 ≤ a.kind) (h4 : a.kind ≤ 4) (hfl : d.fl.length ≤ 7036874417) (hn : d.n ≤ 1152921504606846976) :
    Calls Try.prog 37 #[rdV su wa d.n d.dn fa rm, rcV (rcA a)] w fun e w' => ∃ v, e = .returned (.tuple #[v, .int .i64 (calD d a).2]) ∧ Res w w' su wa fa (calD d a).1 v rm ∧ Keep (fun _ => False) w w' :=
  (make_any su wa fa ms d rm a k B w hR hP hB hrm h0 h4 hfl hn).mono fun e w' ⟨su', wa', fa', ms', he, hR', hk, l1, l2, l3⟩ => ⟨_, he, res_of rm hR' l1 l2 l3, hk⟩
end Go.Proofs.Ytnlodlpjokkepab
namespace Go.Proofs.Ytnlodlpjokkepab
open Go.RowKit Go.Maps
set_option linter.unusedVariables false
set_option linter.unusedSimpArgs false

theorem row_neT {w : World} {B n g b e size : Nat} {v : Value} {xs cs : List Value} {t : TypeId} (h : w.ownsRow B e size v n xs) (hg : v.ownBlock = some g) (hr : RowIs w b cs t) (ht : t ≠ e) : g ≠ b := by
  rcases h.2 with ⟨e0, _⟩ | ⟨g', cap, cur, e0, _, hb, _⟩
  · rw [e0] at hg; simp [Value.ownBlock] at hg
  · rw [e0] at hg; simp [Value.ownBlock] at hg
    subst hg
    intro e2
    subst e2
    unfold RowIs at hr
    rw [hr] at hb
    injection hb with hb
    injection hb with _ hb
    exact ht hb
/-- a disk's own struct is none of its rows -/
theorem RefIs.box {w w' : World} {su wa fa : Value} {ms : List RC} {d : Ds} {g : Nat} {cs : List Value} (h : RefIs w su wa fa ms d) (hr : RowIs w g cs 30) (k : Keep (· = g) w w') : RefIs w' su wa fa ms d :=
  h.keepS k (fun x e e2 => row_neT h.sure e hr (by decide) e2) (fun x e e2 => row_neT h.wait e hr (by decide) e2) (fun x e e2 => row_neT h.falls e hr (by decide) e2)
/-- a struct that is none of the disks' is stored into -/
theorem Both.box {P : Nat → Prop} {w0 w w' : World} {p g : Nat} {su wa fa : Value} {ms : List RC} {dp dr : Ds} {cs : List Value} (h : Both P w0 w p su wa fa ms dp dr) (hr : RowIs w g cs 30) (hg : P g) (hg0 : w0.heap.size ≤ g) (k : Keep (· = g) w w') : Both P w0 w' p su wa fa ms dp dr := by
  obtain ⟨⟨c, D, h0, h1, h2, h3⟩, hR, hK⟩ := h
  exact ⟨⟨c, D.keep k (fun _ _ => rfl) (fun j _ e => by rw [e]; exact (h0 g hg).2), fun j hj => ⟨Nat.lt_of_lt_of_le (h0 j hj).1 k.size, (h0 j hj).2⟩, h1, h2, h3⟩, hR.box hr k, hK.then k (fun j hj e => by omega)⟩
/-- what goes on from a call that worked on the program's disk: only what the law's step has laid is changed -/
def Goes (P : Nat → Prop) (w0 : World) (lo hi : Nat) (p : Nat) (su wa fa : Value) (dp : Ds) (w : World) : Prop := ∀ W2 su2 wa2 fa2 ms2 dr2, Keep (fun j => lo ≤ j ∧ j < hi) w W2 → RefIs W2 su2 wa2 fa2 ms2 dr2 → LocV su w su2 → LocV wa w wa2 → LocV fa w fa2 → Both P w0 W2 p su2 wa2 fa2 ms2 dp dr2
theorem Both.pair2 {P : Nat → Prop} {w0 w W : World} {p : Nat} {su wa fa su' wa' fa' : Value} {ms ms' : List RC} {dp dp' dr dr' : Ds} (h : Both P w0 w p su wa fa ms dp dr) (k : Keep (fun _ => False) w W) (hR' : RefIs W su' wa' fa' ms' dr') (l1 : LocV su w su') (l2 : LocV wa w wa') (l3 : LocV fa w fa')
    {f : FuncId} {args : Array Value} {r : Value} (C : ∀ c, DiskIs W c p dp → Calls Try.prog f args W fun e w' => e = .returned r ∧ Left W c p dp' w') :
    Calls Try.prog f args W fun e w' => e = .returned r ∧ RefIs w' su' wa' fa' ms' dr' ∧ Keep (fun j => j < w.heap.size) W w' ∧ Goes P w0 w.heap.size W.heap.size p su' wa' fa' dp' w' := by
  obtain ⟨c, D, h7, h0, h1, h2, h3⟩ := h.ext k
  have q : ∀ v v' : Value, LocV v w v' → (∀ g, v.ownBlock = some g → 6 ≤ c g) → ∀ g, v'.ownBlock = some g → 6 ≤ c g := fun v v' hl hv g e => by
    rcases hl g e with e2 | e2
    · exact hv g e2
    · rw [h7 g e2]; omega
  refine (C c D).mono fun e w' ⟨he, ⟨c', D', hc⟩, K⟩ => ⟨he, ?_, K.mono fun j hj e => ?_, fun W2 su2 wa2 fa2 ms2 dr2 K2 hR2 m1 m2 m3 => ?_⟩
  · exact hR'.keepS K (fun g e e2 => by have := q _ _ l1 h1 g e; omega) (fun g e e2 => by have := q _ _ l2 h2 g e; omega) (fun g e e2 => by have := q _ _ l3 h3 g e; omega)
  · rcases Nat.lt_or_ge j w.heap.size with h9 | h9
    · exact h9
    · have e' : c j < 6 := e
      rw [h7 j h9] at e'; omega
  · have hsW := k.size
    have hsw' := K.size
    have q2 : ∀ v v2 : Value, LocV v w' v2 → (∀ g, v.ownBlock = some g → g < W.heap.size ∧ 6 ≤ c g) → ∀ g, v2.ownBlock = some g → 6 ≤ if g < w'.heap.size then c' g else 7 := fun v v2 hl hv g e => by
      rcases hl g e with e2 | e2
      · obtain ⟨h8, h9⟩ := hv g e2
        rw [if_pos (by omega), hc g h8]; exact h9
      · rw [if_neg (by omega)]; omega
    refine ⟨⟨fun j => if j < w'.heap.size then c' j else 7, D'.keep K2 (fun j hj => if_pos hj) (fun j hj ⟨e1, e2⟩ => ?_), fun j hj => ?_, q2 _ _ m1 (fun g e => ⟨hR'.lts.1 g e, q _ _ l1 h1 g e⟩), q2 _ _ m2 (fun g e => ⟨hR'.lts.2.1 g e, q _ _ l2 h2 g e⟩), q2 _ _ m3 (fun g e => ⟨hR'.lts.2.2 g e, q _ _ l3 h3 g e⟩)⟩, hR2, ?_⟩
    · rw [hc j e2, h7 j e1]; omega
    · have h9 := h0 j hj
      refine ⟨by have := K2.size; omega, ?_⟩
      show 6 < if j < w'.heap.size then c' j else 7
      rw [if_pos (by omega), hc j (by omega)]; exact h9.2
    · exact ((h.keep.trans (k.mono (fun _ _ h => h.elim))).then K (fun j hj e hp => by have := h0 j hp; omega)).then K2 (fun j hj e hp => by have := h0 j hp; omega)
theorem Both.dpair2 {P : Nat → Prop} {w0 w W : World} {p : Nat} {su wa fa : Value} {ms : List RC} {dp dp' dr : Ds} (h : Both P w0 w p su wa fa ms dp dr) (k : Keep (fun _ => False) w W)
    {f : FuncId} {args : Array Value} {r : Value} (C : ∀ c, DiskIs W c p dp → Calls Try.prog f args W fun e w' => e = .returned r ∧ Left W c p dp' w') :
    Calls Try.prog f args W fun e w' => e = .returned r ∧ RefIs w' su wa fa ms dr ∧ Keep (fun j => j < w.heap.size) W w' ∧ Goes P w0 w.heap.size W.heap.size p su wa fa dp' w' := h.pair2 k (h.ref.keep k) (locv_refl _ _) (locv_refl _ _) (locv_refl _ _) C
/-- what a step of the law hands back -/
def OneP (P : Nat → Prop) (w0 w' : World) (d' : Ds) (rm' : Int) (e : Ending) : Prop := ∃ (p' : Nat) (a1 a2 a3 : Option Addr) (x1 c1 x2 c2 x3 c3 : Nat) (ms' : List RC), e = .returned (.tuple #[.pointer (some ⟨p', 0, none⟩), .agg #[.slice a1 x1 c1, .slice a2 x2 c2, .int .i64 (d'.n : Int), .bool d'.dn, .slice a3 x3 c3, .int .i64 rm'], .bool true]) ∧
  Both P w0 w' p' (.slice a1 x1 c1) (.slice a2 x2 c2) (.slice a3 x3 c3) ms' d' d'
end Go.Proofs.Ytnlodlpjokkepab
namespace Go.Proofs.Ytnlodlpjokkepab
open Go.RowKit Go.Maps
set_option linter.unusedVariables false
set_option linter.unusedSimpArgs false

structure MkOut (w wA : World) (su wa fa su' wa' fa' : Value) (ms : List RC) (d : Ds) (rm : Int) (g : Nat) (wx : World) : Prop where
  row : RowIs wx g [su', wa', .int .i64 (d.n : Int), .bool d.dn, fa', .int .i64 rm] 30
  ref : RefIs wx su' wa' fa' ms d
  l1 : LocV su w su'
  l2 : LocV wa w wa'
  l3 : LocV fa w fa'
  keep : Keep (fun _ => False) wA wx
  ge : wA.heap.size ≤ g
theorem MkOut.drew {w wA : World} {su wa fa su' wa' fa' : Value} {ms : List RC} {d : Ds} {rm : Int} {g : Nat} {wx : World} (h : MkOut w wA su wa fa su' wa' fa' ms d rm g wx) : MkOut w wA su wa fa su' wa' fa' ms d rm g wx.drew :=
  ⟨h.row.keep (keep_drew (fun _ => False) _) (fun h => h), h.ref.keep (keep_drew _ _), h.l1, h.l2, h.l3, h.keep.trans (keep_drew _ _), h.ge⟩
/-- what the change itself leaves -/
structure MkIn (w wA : World) (su wa fa su' wa' fa' : Value) (ms : List RC) (d : Ds) (w3 : World) : Prop where
  ref : RefIs w3 su' wa' fa' ms d
  l1 : LocV su w su'
  l2 : LocV wa w wa'
  l3 : LocV fa w fa'
  keep : Keep (fun _ => False) wA w3
theorem MkIn.alloc {w wA : World} {su wa fa su' wa' fa' : Value} {ms : List RC} {d : Ds} {w3 : World} (h : MkIn w wA su wa fa su' wa' fa' ms d w3) (rm : Int) : MkOut w wA su wa fa su' wa' fa' ms d rm w3.heap.size (w3.alloc (.cells #[su', wa', .int .i64 (d.n : Int), .bool d.dn, fa', .int .i64 rm] 30)) :=
  ⟨heap_alloc_new _ _, h.ref.keep (keep_alloc _ _ _), h.l1, h.l2, h.l3, h.keep.trans (keep_alloc _ _ _), h.keep.size⟩
theorem MkIn.store {w wA : World} {su wa fa su' wa' fa' : Value} {ms : List RC} {d : Ds} {w3 : World} {g : Nat} (h : MkIn w wA su wa fa su' wa' fa' ms d w3) (rm : Int) (hr : RowIs w3 g [.slice none 0 0, .slice none 0 0, .int .i64 0, .bool false, .slice none 0 0, .int .i64 0] 30) (hg : wA.heap.size ≤ g) :
    MkOut w wA su wa fa su' wa' fa' ms d rm g ((((((w3.setCell ⟨g, 0, none⟩ su').setCell ⟨g, 1, none⟩ wa').setCell ⟨g, 2, none⟩ (.int .i64 (d.n : Int))).setCell ⟨g, 3, none⟩ (.bool d.dn)).setCell ⟨g, 4, none⟩ fa').setCell ⟨g, 5, none⟩ (.int .i64 rm)) :=
  have hs := six (v0 := su') (v1 := wa') (v2 := .int .i64 (d.n : Int)) (v3 := .bool d.dn) (v4 := fa') (v5 := .int .i64 rm) hr
  ⟨hs.1, h.ref.box hr hs.2, h.l1, h.l2, h.l3, h.keep.then hs.2 (fun j hj e => by omega), hg⟩
set_option maxRecDepth 100000 in
theorem made_any (KD NN F0 F1 F2 : Int) (NM TT SX : ByteArray) (ad : Option Addr) (np cp : Nat) (w : World) :
    Calls Try.prog 38 #[.agg #[.int .i64 KD, .string NM, .string TT, .string SX, .int .i64 NN, .int .i64 F0, .int .i64 F1, .int .i64 F2, .slice ad np cp]] w fun e w' => e = .returned (.agg #[.int .i64 KD, .string NM, .string TT, .string SX, .int .i64 NN]) ∧ Keep (fun _ => False) w w' := by
  go_enter Try.func38, Try.ntmps38
  go_wp2
  refine bodyPost_ret (v := .agg #[.int .i64 KD, .string NM, .string TT, .string SX, .int .i64 NN]) (by simp [results, Try.results38, go_sem]) rfl ⟨rfl, ?_⟩
  exact (keep_alloc _ _ _).trans (keep_alloc _ _ _)
end Go.Proofs.Ytnlodlpjokkepab
namespace Go.Proofs.Ytnlodlpjokkepab
open Go.RowKit Go.Maps
set_option linter.unusedVariables false
set_option linter.unusedSimpArgs false

set_option maxRecDepth 100000 in
set_option maxHeartbeats 4000000 in
theorem one_0 (P : Nat → Prop) (w0 : World) (p : Nat) (a1 a2 a3 : Option Addr) (x1 c1 x2 c2 x3 c3 : Nat) (ms : List RC) (d : Ds) (rm : Int) (k B : Nat) (NM TT SX : ByteArray) (NN F0 F1 F2 : Int) (ad : Option Addr) (np cp : Nat) (w : World) (h : Both P w0 w p (.slice a1 x1 c1) (.slice a2 x2 c2) (.slice a3 x3 c3) ms d d) (hP : PI d k B) (hB : B ≤ 7036874417) (ac : AC) (hac : ac.kind = 0 ∧ ac.n = NN ∧ tx ac.name = NM ∧ tx (AC.to ac) = TT ∧ tx ac.s = SX ∧ acV ac = .agg #[.int .i64 0, .string NM, .string TT, .string SX, .int .i64 NN, .int .i64 F0, .int .i64 F1, .int .i64 F2, .slice ad np cp]) (hpv : ∃ ad n cp, ac.pv = .slice ad n cp) (hal : ac.s.length + ac.name.length + (AC.to ac).length ≤ 1048576) (hBa : B + ac.s.length + 1 ≤ 7036874417) (hrm : RmOk d rm) (hfl : d.fl.length ≤ 7036874417) (hn : d.n ≤ 1152921504606846976) :
    Calls Try.prog 12 #[.pointer (some ⟨p, 0, none⟩), .agg #[.slice a1 x1 c1, .slice a2 x2 c2, .int .i64 (d.n : Int), .bool d.dn, .slice a3 x3 c3, .int .i64 rm], .agg #[.int .i64 0, .string NM, .string TT, .string SX, .int .i64 NN, .int .i64 F0, .int .i64 F1, .int .i64 F2, .slice ad np cp]] w fun e w' => OneP P w0 w' (calD d ac).1 rm e := by
  have FD0 : Hid (∀ (WN : World) (b1 b2 b3 : Option Addr) (y1 e1 y2 e2 y3 e3 : Nat) (ms2 : List RC), Keep (fun _ => False) w WN → RefIs WN (.slice b1 y1 e1) (.slice b2 y2 e2) (.slice b3 y3 e3) ms2 (calD d ac).1 → LocV (.slice a1 x1 c1) w (.slice b1 y1 e1) → LocV (.slice a2 x2 c2) w (.slice b2 y2 e2) → LocV (.slice a3 x3 c3) w (.slice b3 y3 e3) → ∀ W, Keep (fun _ => False) WN W → Calls Try.prog 22 #[.pointer (some ⟨p, 0, none⟩), .agg #[.int .i64 0, .string NM, .string TT, .string SX, .int .i64 NN, .int .i64 F0, .int .i64 F1, .int .i64 F2, .slice ad np cp]] W fun e w' => e = .returned (.int .i64 (calD d ac).2) ∧ RefIs w' (.slice b1 y1 e1) (.slice b2 y2 e2) (.slice b3 y3 e3) ms2 (calD d ac).1 ∧ Keep (fun j => j < w.heap.size) W w' ∧ Goes P w0 w.heap.size W.heap.size p (.slice b1 y1 e1) (.slice b2 y2 e2) (.slice b3 y3 e3) (calD d ac).1 w') := fun WN b1 b2 b3 y1 e1 y2 e2 y3 e3 ms2 hkN hRN l1 l2 l3 W hW => by
    have := h.pair2 (hkN.trans hW) (hRN.keep hW) l1 l2 l3 (fun c D => call_any p c d ac W D hpv (by have := hP.wt; omega) hn)
    rw [hac.2.2.2.2.2] at this
    exact this
  have MK0 : Hid (∀ W, Keep (fun _ => False) w W → Calls Try.prog 37 #[.agg #[.slice a1 x1 c1, .slice a2 x2 c2, .int .i64 (d.n : Int), .bool d.dn, .slice a3 x3 c3, .int .i64 rm], .agg #[.int .i64 0, .string NM, .string TT, .string SX, .int .i64 NN]] W fun e w' => ∃ v, e = .returned (.tuple #[v, .int .i64 (calD d ac).2]) ∧ Res W w' (.slice a1 x1 c1) (.slice a2 x2 c2) (.slice a3 x3 c3) (calD d ac).1 v rm ∧ Keep (fun _ => False) W w') := fun W hW => by
    have := rmake_any (.slice a1 x1 c1) (.slice a2 x2 c2) (.slice a3 x3 c3) ms d rm ac k B W (h.ref.keep hW) hP hBa hrm (by rw [hac.1]; decide) (by rw [hac.1]; decide) hfl hn
    have e9 : rcV (rcA ac) = .agg #[.int .i64 0, .string NM, .string TT, .string SX, .int .i64 NN] := by
      unfold rcV rcA
      simp only
      rw [hac.1, hac.2.1, hac.2.2.1, hac.2.2.2.1, hac.2.2.2.2.1]
      rfl
    rw [e9] at this
    exact this
  have MD0 := hid (fun W : World => made_any 0 NN F0 F1 F2 NM TT SX ad np cp W)
  have hbb : ((calD d ac).2 == (calD d ac).2) = true := by simp
  clear h hP hB hac hpv hal hBa hrm hfl hn
  go_enter Try.func12, Try.ntmps12
  go_wp2
  have z1 : (w.alloc (.cells #[.slice a1 x1 c1, .slice a2 x2 c2, .int .i64 (d.n : Int), .bool d.dn, .slice a3 x3 c3, .int .i64 rm] 30)).heap.size = w.heap.size + 1 := by simp
  have z2 : ((w.alloc (.cells #[.slice a1 x1 c1, .slice a2 x2 c2, .int .i64 (d.n : Int), .bool d.dn, .slice a3 x3 c3, .int .i64 rm] 30)).alloc (.cells #[.int .i64 0, .string NM, .string TT, .string SX, .int .i64 NN, .int .i64 F0, .int .i64 F1, .int .i64 F2, .slice ad np cp] 38)).heap.size = w.heap.size + 1 + 1 := by simp
  have z3 : (((w.alloc (.cells #[.slice a1 x1 c1, .slice a2 x2 c2, .int .i64 (d.n : Int), .bool d.dn, .slice a3 x3 c3, .int .i64 rm] 30)).alloc (.cells #[.int .i64 0, .string NM, .string TT, .string SX, .int .i64 NN, .int .i64 F0, .int .i64 F1, .int .i64 F2, .slice ad np cp] 38)).alloc (.cells #[.slice none 0 0, .slice none 0 0, .int .i64 0, .bool false, .slice none 0 0, .int .i64 0] 30)).heap.size = w.heap.size + 1 + 1 + 1 := by simp
  have rd : RowIs (((w.alloc (.cells #[.slice a1 x1 c1, .slice a2 x2 c2, .int .i64 (d.n : Int), .bool d.dn, .slice a3 x3 c3, .int .i64 rm] 30)).alloc (.cells #[.int .i64 0, .string NM, .string TT, .string SX, .int .i64 NN, .int .i64 F0, .int .i64 F1, .int .i64 F2, .slice ad np cp] 38)).alloc (.cells #[.slice none 0 0, .slice none 0 0, .int .i64 0, .bool false, .slice none 0 0, .int .i64 0] 30)) w.heap.size [.slice a1 x1 c1, .slice a2 x2 c2, .int .i64 (d.n : Int), .bool d.dn, .slice a3 x3 c3, .int .i64 rm] 30 := (RowIs.keep (heap_alloc_new _ _) (keep_alloc (fun _ => False) _ _) (fun h => h)).keep (keep_alloc (fun _ => False) _ _) (fun h => h)
  have ra : RowIs (((w.alloc (.cells #[.slice a1 x1 c1, .slice a2 x2 c2, .int .i64 (d.n : Int), .bool d.dn, .slice a3 x3 c3, .int .i64 rm] 30)).alloc (.cells #[.int .i64 0, .string NM, .string TT, .string SX, .int .i64 NN, .int .i64 F0, .int .i64 F1, .int .i64 F2, .slice ad np cp] 38)).alloc (.cells #[.slice none 0 0, .slice none 0 0, .int .i64 0, .bool false, .slice none 0 0, .int .i64 0] 30)) (w.heap.size + 1) [.int .i64 0, .string NM, .string TT, .string SX, .int .i64 NN, .int .i64 F0, .int .i64 F1, .int .i64 F2, .slice ad np cp] 38 := RowIs.keep (by rw [← z1]; exact heap_alloc_new _ _) (keep_alloc (fun _ => False) _ _) (fun h => h)
  have rr : RowIs (((w.alloc (.cells #[.slice a1 x1 c1, .slice a2 x2 c2, .int .i64 (d.n : Int), .bool d.dn, .slice a3 x3 c3, .int .i64 rm] 30)).alloc (.cells #[.int .i64 0, .string NM, .string TT, .string SX, .int .i64 NN, .int .i64 F0, .int .i64 F1, .int .i64 F2, .slice ad np cp] 38)).alloc (.cells #[.slice none 0 0, .slice none 0 0, .int .i64 0, .bool false, .slice none 0 0, .int .i64 0] 30)) (w.heap.size + 1 + 1) [.slice none 0 0, .slice none 0 0, .int .i64 0, .bool false, .slice none 0 0, .int .i64 0] 30 := by rw [← z2]; exact heap_alloc_new _ _
  have hk0 := ((keep_alloc (fun _ => False) w (.cells #[.slice a1 x1 c1, .slice a2 x2 c2, .int .i64 (d.n : Int), .bool d.dn, .slice a3 x3 c3, .int .i64 rm] 30)).trans (keep_alloc _ _ (.cells #[.int .i64 0, .string NM, .string TT, .string SX, .int .i64 NN, .int .i64 F0, .int .i64 F1, .int .i64 F2, .slice ad np cp] 38))).trans (keep_alloc _ _ (.cells #[.slice none 0 0, .slice none 0 0, .int .i64 0, .bool false, .slice none 0 0, .int .i64 0] 30))
  generalize (((w.alloc (.cells #[.slice a1 x1 c1, .slice a2 x2 c2, .int .i64 (d.n : Int), .bool d.dn, .slice a3 x3 c3, .int .i64 rm] 30)).alloc (.cells #[.int .i64 0, .string NM, .string TT, .string SX, .int .i64 NN, .int .i64 F0, .int .i64 F1, .int .i64 F2, .slice ad np cp] 38)).alloc (.cells #[.slice none 0 0, .slice none 0 0, .int .i64 0, .bool false, .slice none 0 0, .int .i64 0] 30)) = wA at *
  clear z1 z2
  have HK0 := hid hk0
  have HRD := hid rd
  have HRA := hid ra
  have HRR := hid rr
  have HZ3 := hid z3
  clear hk0 rd ra rr z3
  have SK : Hid (∀ W, Keep (fun _ => False) wA W → (W.cell? ⟨w.heap.size, 0, none⟩ = some (.slice a1 x1 c1) ∧ W.cell? ⟨w.heap.size, 1, none⟩ = some (.slice a2 x2 c2) ∧ W.cell? ⟨w.heap.size, 2, none⟩ = some (.int .i64 (d.n : Int)) ∧ W.cell? ⟨w.heap.size, 3, none⟩ = some (.bool d.dn) ∧ W.cell? ⟨w.heap.size, 4, none⟩ = some (.slice a3 x3 c3) ∧ W.cell? ⟨w.heap.size, 5, none⟩ = some (.int .i64 rm) ∧ W.cell? ⟨w.heap.size + 1, 0, none⟩ = some (.int .i64 0) ∧ W.cell? ⟨w.heap.size + 1, 1, none⟩ = some (.string NM) ∧ W.cell? ⟨w.heap.size + 1, 2, none⟩ = some (.string TT) ∧ W.cell? ⟨w.heap.size + 1, 3, none⟩ = some (.string SX) ∧ W.cell? ⟨w.heap.size + 1, 4, none⟩ = some (.int .i64 NN) ∧ W.cell? ⟨w.heap.size + 1, 5, none⟩ = some (.int .i64 F0) ∧ W.cell? ⟨w.heap.size + 1, 6, none⟩ = some (.int .i64 F1) ∧ W.cell? ⟨w.heap.size + 1, 7, none⟩ = some (.int .i64 F2) ∧ W.cell? ⟨w.heap.size + 1, 8, none⟩ = some (.slice ad np cp))) := fun W hW => by
    have r1 := HRD.out.keep hW (fun h => h)
    have r2 := HRA.out.keep hW (fun h => h)
    exact ⟨r1.cellAt rfl, r1.cellAt rfl, r1.cellAt rfl, r1.cellAt rfl, r1.cellAt rfl, r1.cellAt rfl, r2.cellAt rfl, r2.cellAt rfl, r2.cellAt rfl, r2.cellAt rfl, r2.cellAt rfl, r2.cellAt rfl, r2.cellAt rfl, r2.cellAt rfl, r2.cellAt rfl⟩
  have MK1 : Hid (∀ W, Keep (fun _ => False) wA W → Calls Try.prog 37 #[.agg #[.slice a1 x1 c1, .slice a2 x2 c2, .int .i64 (d.n : Int), .bool d.dn, .slice a3 x3 c3, .int .i64 rm], .agg #[.int .i64 0, .string NM, .string TT, .string SX, .int .i64 NN]] W fun e w3 => ∃ (b1 b2 b3 : Option Addr) (y1 e1 y2 e2 y3 e3 : Nat) (ms2 : List RC), e = .returned (.tuple #[.agg #[.slice b1 y1 e1, .slice b2 y2 e2, .int .i64 ((calD d ac).1.n : Int), .bool (calD d ac).1.dn, .slice b3 y3 e3, .int .i64 rm], .int .i64 (calD d ac).2]) ∧ (w3.cell? ⟨w.heap.size, 0, none⟩ = some (.slice a1 x1 c1) ∧ w3.cell? ⟨w.heap.size, 1, none⟩ = some (.slice a2 x2 c2) ∧ w3.cell? ⟨w.heap.size, 2, none⟩ = some (.int .i64 (d.n : Int)) ∧ w3.cell? ⟨w.heap.size, 3, none⟩ = some (.bool d.dn) ∧ w3.cell? ⟨w.heap.size, 4, none⟩ = some (.slice a3 x3 c3) ∧ w3.cell? ⟨w.heap.size, 5, none⟩ = some (.int .i64 rm) ∧ w3.cell? ⟨w.heap.size + 1, 0, none⟩ = some (.int .i64 0) ∧ w3.cell? ⟨w.heap.size + 1, 1, none⟩ = some (.string NM) ∧ w3.cell? ⟨w.heap.size + 1, 2, none⟩ = some (.string TT) ∧ w3.cell? ⟨w.heap.size + 1, 3, none⟩ = some (.string SX) ∧ w3.cell? ⟨w.heap.size + 1, 4, none⟩ = some (.int .i64 NN) ∧ w3.cell? ⟨w.heap.size + 1, 5, none⟩ = some (.int .i64 F0) ∧ w3.cell? ⟨w.heap.size + 1, 6, none⟩ = some (.int .i64 F1) ∧ w3.cell? ⟨w.heap.size + 1, 7, none⟩ = some (.int .i64 F2) ∧ w3.cell? ⟨w.heap.size + 1, 8, none⟩ = some (.slice ad np cp)) ∧ Hid (Keep (fun _ => False) W w3) ∧ Hid (MkIn w wA (.slice a1 x1 c1) (.slice a2 x2 c2) (.slice a3 x3 c3) (.slice b1 y1 e1) (.slice b2 y2 e2) (.slice b3 y3 e3) ms2 (calD d ac).1 w3)) := fun W hW => (MK0.out W (HK0.out.trans hW)).mono fun e w3 ⟨v, he, ⟨b1, b2, b3, y1, e1, y2, e2, y3, e3, ms2, hv, hR3, l1, l2, l3⟩, hk3⟩ => by
    subst hv
    exact ⟨b1, b2, b3, y1, e1, y2, e2, y3, e3, ms2, he, SK.out w3 (hW.trans hk3), hk3, hR3, fun g e => (l1 g e).imp id (Nat.le_trans (HK0.out.trans hW).size), fun g e => (l2 g e).imp id (Nat.le_trans (HK0.out.trans hW).size), fun g e => (l3 g e).imp id (Nat.le_trans (HK0.out.trans hW).size), hW.trans hk3⟩
  have MD1 : Hid (∀ W, Keep (fun _ => False) wA W → Calls Try.prog 38 #[.agg #[.int .i64 0, .string NM, .string TT, .string SX, .int .i64 NN, .int .i64 F0, .int .i64 F1, .int .i64 F2, .slice ad np cp]] W fun e w2 => e = .returned (.agg #[.int .i64 0, .string NM, .string TT, .string SX, .int .i64 NN]) ∧ (w2.cell? ⟨w.heap.size, 0, none⟩ = some (.slice a1 x1 c1) ∧ w2.cell? ⟨w.heap.size, 1, none⟩ = some (.slice a2 x2 c2) ∧ w2.cell? ⟨w.heap.size, 2, none⟩ = some (.int .i64 (d.n : Int)) ∧ w2.cell? ⟨w.heap.size, 3, none⟩ = some (.bool d.dn) ∧ w2.cell? ⟨w.heap.size, 4, none⟩ = some (.slice a3 x3 c3) ∧ w2.cell? ⟨w.heap.size, 5, none⟩ = some (.int .i64 rm) ∧ w2.cell? ⟨w.heap.size + 1, 0, none⟩ = some (.int .i64 0) ∧ w2.cell? ⟨w.heap.size + 1, 1, none⟩ = some (.string NM) ∧ w2.cell? ⟨w.heap.size + 1, 2, none⟩ = some (.string TT) ∧ w2.cell? ⟨w.heap.size + 1, 3, none⟩ = some (.string SX) ∧ w2.cell? ⟨w.heap.size + 1, 4, none⟩ = some (.int .i64 NN) ∧ w2.cell? ⟨w.heap.size + 1, 5, none⟩ = some (.int .i64 F0) ∧ w2.cell? ⟨w.heap.size + 1, 6, none⟩ = some (.int .i64 F1) ∧ w2.cell? ⟨w.heap.size + 1, 7, none⟩ = some (.int .i64 F2) ∧ w2.cell? ⟨w.heap.size + 1, 8, none⟩ = some (.slice ad np cp)) ∧ Hid (Keep (fun _ => False) W w2) ∧ Hid (∀ W', Keep (fun _ => False) w2 W' → Calls Try.prog 37 #[.agg #[.slice a1 x1 c1, .slice a2 x2 c2, .int .i64 (d.n : Int), .bool d.dn, .slice a3 x3 c3, .int .i64 rm], .agg #[.int .i64 0, .string NM, .string TT, .string SX, .int .i64 NN]] W' fun e w3 => ∃ (b1 b2 b3 : Option Addr) (y1 e1 y2 e2 y3 e3 : Nat) (ms2 : List RC), e = .returned (.tuple #[.agg #[.slice b1 y1 e1, .slice b2 y2 e2, .int .i64 ((calD d ac).1.n : Int), .bool (calD d ac).1.dn, .slice b3 y3 e3, .int .i64 rm], .int .i64 (calD d ac).2]) ∧ (w3.cell? ⟨w.heap.size, 0, none⟩ = some (.slice a1 x1 c1) ∧ w3.cell? ⟨w.heap.size, 1, none⟩ = some (.slice a2 x2 c2) ∧ w3.cell? ⟨w.heap.size, 2, none⟩ = some (.int .i64 (d.n : Int)) ∧ w3.cell? ⟨w.heap.size, 3, none⟩ = some (.bool d.dn) ∧ w3.cell? ⟨w.heap.size, 4, none⟩ = some (.slice a3 x3 c3) ∧ w3.cell? ⟨w.heap.size, 5, none⟩ = some (.int .i64 rm) ∧ w3.cell? ⟨w.heap.size + 1, 0, none⟩ = some (.int .i64 0) ∧ w3.cell? ⟨w.heap.size + 1, 1, none⟩ = some (.string NM) ∧ w3.cell? ⟨w.heap.size + 1, 2, none⟩ = some (.string TT) ∧ w3.cell? ⟨w.heap.size + 1, 3, none⟩ = some (.string SX) ∧ w3.cell? ⟨w.heap.size + 1, 4, none⟩ = some (.int .i64 NN) ∧ w3.cell? ⟨w.heap.size + 1, 5, none⟩ = some (.int .i64 F0) ∧ w3.cell? ⟨w.heap.size + 1, 6, none⟩ = some (.int .i64 F1) ∧ w3.cell? ⟨w.heap.size + 1, 7, none⟩ = some (.int .i64 F2) ∧ w3.cell? ⟨w.heap.size + 1, 8, none⟩ = some (.slice ad np cp)) ∧ Hid (Keep (fun _ => False) W' w3) ∧ Hid (MkIn w wA (.slice a1 x1 c1) (.slice a2 x2 c2) (.slice a3 x3 c3) (.slice b1 y1 e1) (.slice b2 y2 e2) (.slice b3 y3 e3) ms2 (calD d ac).1 w3)) ∧ Hid (∀ w3, Keep (fun _ => False) (w2.alloc (Obj.cells #[.slice none 0 0, .slice none 0 0, .int .i64 0, .bool false, .slice none 0 0, .int .i64 0] 30)) w3 → Hid (RowIs w3 (w2.heap.size) [.slice none 0 0, .slice none 0 0, .int .i64 0, .bool false, .slice none 0 0, .int .i64 0] 30) ∧ (w3.cell? ⟨w2.heap.size, 0, none⟩ = some (.slice none 0 0) ∧ w3.cell? ⟨w2.heap.size, 1, none⟩ = some (.slice none 0 0) ∧ w3.cell? ⟨w2.heap.size, 2, none⟩ = some (.int .i64 0) ∧ w3.cell? ⟨w2.heap.size, 3, none⟩ = some (.bool false) ∧ w3.cell? ⟨w2.heap.size, 4, none⟩ = some (.slice none 0 0) ∧ w3.cell? ⟨w2.heap.size, 5, none⟩ = some (.int .i64 0) ∧ w3.frozen? ⟨w2.heap.size, 0, none⟩ = false ∧ w3.frozen? ⟨w2.heap.size, 1, none⟩ = false ∧ w3.frozen? ⟨w2.heap.size, 2, none⟩ = false ∧ w3.frozen? ⟨w2.heap.size, 3, none⟩ = false ∧ w3.frozen? ⟨w2.heap.size, 4, none⟩ = false ∧ w3.frozen? ⟨w2.heap.size, 5, none⟩ = false)) ∧ Hid (wA.heap.size ≤ w2.heap.size)) := fun W hW => (MD0.out W).mono fun e w2 ⟨he, hk2⟩ => by
    refine ⟨he, SK.out w2 (hW.trans hk2), hk2, fun W' hW' => MK1.out W' ((hW.trans hk2).trans hW'), fun w3 hk3 => ?_, (hW.trans hk2).size⟩
    have r : RowIs w3 (w2.heap.size) [.slice none 0 0, .slice none 0 0, .int .i64 0, .bool false, .slice none 0 0, .int .i64 0] 30 := RowIs.keep (heap_alloc_new _ _) hk3 (fun h => h)
    exact ⟨r, r.cellAt rfl, r.cellAt rfl, r.cellAt rfl, r.cellAt rfl, r.cellAt rfl, r.cellAt rfl, r.frozen, r.frozen, r.frozen, r.frozen, r.frozen, r.frozen⟩
  have ZA : Hid (∀ w2 w3, Keep (fun _ => False) (wA.alloc (Obj.cells #[.slice none 0 0, .slice none 0 0, .int .i64 0, .bool false, .slice none 0 0, .int .i64 0] 30)) w2 → Keep (fun _ => False) w2 w3 → Hid (RowIs w3 (wA.heap.size) [.slice none 0 0, .slice none 0 0, .int .i64 0, .bool false, .slice none 0 0, .int .i64 0] 30) ∧ (w3.cell? ⟨wA.heap.size, 0, none⟩ = some (.slice none 0 0) ∧ w3.cell? ⟨wA.heap.size, 1, none⟩ = some (.slice none 0 0) ∧ w3.cell? ⟨wA.heap.size, 2, none⟩ = some (.int .i64 0) ∧ w3.cell? ⟨wA.heap.size, 3, none⟩ = some (.bool false) ∧ w3.cell? ⟨wA.heap.size, 4, none⟩ = some (.slice none 0 0) ∧ w3.cell? ⟨wA.heap.size, 5, none⟩ = some (.int .i64 0) ∧ w3.frozen? ⟨wA.heap.size, 0, none⟩ = false ∧ w3.frozen? ⟨wA.heap.size, 1, none⟩ = false ∧ w3.frozen? ⟨wA.heap.size, 2, none⟩ = false ∧ w3.frozen? ⟨wA.heap.size, 3, none⟩ = false ∧ w3.frozen? ⟨wA.heap.size, 4, none⟩ = false ∧ w3.frozen? ⟨wA.heap.size, 5, none⟩ = false)) := fun w2 w3 hk2 hk3 => by
    have r : RowIs w3 (wA.heap.size) [.slice none 0 0, .slice none 0 0, .int .i64 0, .bool false, .slice none 0 0, .int .i64 0] 30 := (RowIs.keep (heap_alloc_new _ _) hk2 (fun h => h)).keep hk3 (fun h => h)
    exact ⟨r, r.cellAt rfl, r.cellAt rfl, r.cellAt rfl, r.cellAt rfl, r.cellAt rfl, r.cellAt rfl, r.frozen, r.frozen, r.frozen, r.frozen, r.frozen, r.frozen⟩
  have kXa : Hid (Keep (fun _ => False) wA wA) := Keep.refl _ _
  have kXb : Hid (Keep (fun _ => False) wA wA.drew) := keep_drew _ _
  have kXc : Hid (Keep (fun _ => False) wA (wA.alloc (Obj.cells #[.slice none 0 0, .slice none 0 0, .int .i64 0, .bool false, .slice none 0 0, .int .i64 0] 30))) := keep_alloc _ _ _
  have kXd : Hid (Keep (fun _ => False) wA (wA.alloc (Obj.cells #[.slice none 0 0, .slice none 0 0, .int .i64 0, .bool false, .slice none 0 0, .int .i64 0] 30)).drew) := (keep_alloc _ _ _).trans (keep_drew _ _)
  have kAd : Hid (Keep (fun _ => False) (wA.alloc (Obj.cells #[.slice none 0 0, .slice none 0 0, .int .i64 0, .bool false, .slice none 0 0, .int .i64 0] 30)) (wA.alloc (Obj.cells #[.slice none 0 0, .slice none 0 0, .int .i64 0, .bool false, .slice none 0 0, .int .i64 0] 30)).drew) := keep_drew _ _
  have HAE : Hid (wA.heap.size ≤ wA.heap.size) := Nat.le_refl _
  obtain ⟨n0, n1, n2, n3, n4, n5, n6, n7, n8, n9, n10, n11, n12, n13, n14⟩ := SK.out wA (Keep.refl _ _)
  clear MD0 MK0
  go_cut [9, 10] from 24 to 30 (fun s9 s10 wx => ∃ (gN : Nat) (b1 b2 b3 : Option Addr) (y1 e1 y2 e2 y3 e3 : Nat) (ms2 : List RC), s9 = .pointer (some ⟨gN, 0, none⟩) ∧ s10 = .int .i64 (calD d ac).2 ∧ Hid (MkOut w wA (.slice a1 x1 c1) (.slice a2 x2 c2) (.slice a3 x3 c3) (.slice b1 y1 e1) (.slice b2 y2 e2) (.slice b3 y3 e3) ms2 (calD d ac).1 rm gN wx))
  case first =>
    clear HK0 HRD HRA HRR FD0 hbb MK1
    go_region_held3 (fun w' => w'.cell? ⟨w.heap.size, 0, none⟩ = some (.slice a1 x1 c1) ∧ w'.cell? ⟨w.heap.size, 1, none⟩ = some (.slice a2 x2 c2) ∧ w'.cell? ⟨w.heap.size, 2, none⟩ = some (.int .i64 (d.n : Int)) ∧ w'.cell? ⟨w.heap.size, 3, none⟩ = some (.bool d.dn) ∧ w'.cell? ⟨w.heap.size, 4, none⟩ = some (.slice a3 x3 c3) ∧ w'.cell? ⟨w.heap.size, 5, none⟩ = some (.int .i64 rm) ∧ w'.cell? ⟨w.heap.size + 1, 0, none⟩ = some (.int .i64 0) ∧ w'.cell? ⟨w.heap.size + 1, 1, none⟩ = some (.string NM) ∧ w'.cell? ⟨w.heap.size + 1, 2, none⟩ = some (.string TT) ∧ w'.cell? ⟨w.heap.size + 1, 3, none⟩ = some (.string SX) ∧ w'.cell? ⟨w.heap.size + 1, 4, none⟩ = some (.int .i64 NN) ∧ w'.cell? ⟨w.heap.size + 1, 5, none⟩ = some (.int .i64 F0) ∧ w'.cell? ⟨w.heap.size + 1, 6, none⟩ = some (.int .i64 F1) ∧ w'.cell? ⟨w.heap.size + 1, 7, none⟩ = some (.int .i64 F2) ∧ w'.cell? ⟨w.heap.size + 1, 8, none⟩ = some (.slice ad np cp)) (first | with_reducible assumption | with_reducible (exact SK.out _ (HI.out.store rm ZROW.out HG.out).keep) | with_reducible (exact SK.out _ (HI.out.store rm ZROW.out HG.out).drew.keep) | with_reducible (exact SK.out _ (HI.out.alloc rm).keep) | with_reducible (exact SK.out _ (HI.out.alloc rm).drew.keep) | (refine ⟨?_, ?_, ?_, ?_, ?_, ?_, ?_, ?_, ?_, ?_, ?_, ?_, ?_, ?_, ?_⟩ <;> with_reducible assumption) | go_keep) (first | (go_at_call 38; with_reducible (refine (MD1.out _ ?_).mono ?_); (first | with_reducible exact kXa.out | with_reducible exact kXb.out); rintro e w2 ⟨rfl, ⟨n0, n1, n2, n3, n4, n5, n6, n7, n8, n9, n10, n11, n12, n13, n14⟩, hk2, MK2, ZK2, HLE⟩) | (go_at_call 38; with_reducible (refine (MD1.out _ ?_).mono ?_); (first | with_reducible exact kXc.out | with_reducible exact kXd.out); rintro e w2 ⟨rfl, ⟨n0, n1, n2, n3, n4, n5, n6, n7, n8, n9, n10, n11, n12, n13, n14⟩, hk2, MK2, ZK2, HLE⟩; have hA2 := hid (show Keep (fun _ => False) (wA.alloc (Obj.cells #[.slice none 0 0, .slice none 0 0, .int .i64 0, .bool false, .slice none 0 0, .int .i64 0] 30)) w2 from (by first | exact hk2.out | exact kAd.out.trans hk2.out))) | (go_at_call 37; have hA3 := hA2.out; with_reducible (refine (MK2.out _ ?_).mono ?_); (first | with_reducible exact Keep.refl _ _ | with_reducible exact keep_drew _ _); rintro e w3 ⟨b1, b2, b3, y1, e1, y2, e2, y3, e3, ms2, rfl, ⟨n0, n1, n2, n3, n4, n5, n6, n7, n8, n9, n10, n11, n12, n13, n14⟩, hk3, HI⟩; obtain ⟨ZROW, ⟨z0, z1, z2, z3, z4, z5, g0, g1, g2, g3, g4, g5⟩⟩ := ZA.out w2 w3 hA2.out (by first | with_reducible exact hk3.out | with_reducible exact (keep_drew _ _).trans hk3.out); have HG := HAE) | (go_at_call 37; with_reducible (refine (MK2.out _ ?_).mono ?_); (first | with_reducible exact keep_alloc _ _ _ | with_reducible exact (keep_alloc _ _ _).trans (keep_drew _ _)); rintro e w3 ⟨b1, b2, b3, y1, e1, y2, e2, y3, e3, ms2, rfl, ⟨n0, n1, n2, n3, n4, n5, n6, n7, n8, n9, n10, n11, n12, n13, n14⟩, hk3, HI⟩; obtain ⟨ZROW, ⟨z0, z1, z2, z3, z4, z5, g0, g1, g2, g3, g4, g5⟩⟩ := ZK2.out w3 (by first | with_reducible exact hk3.out | with_reducible exact (keep_drew _ _).trans hk3.out); have HG := HLE) | (go_at_call 37; with_reducible (refine (MK2.out _ ?_).mono ?_); (first | with_reducible exact Keep.refl _ _ | with_reducible exact keep_drew _ _); rintro e w3 ⟨b1, b2, b3, y1, e1, y2, e2, y3, e3, ms2, rfl, ⟨n0, n1, n2, n3, n4, n5, n6, n7, n8, n9, n10, n11, n12, n13, n14⟩, hk3, HI⟩))
    all_goals (go_wp2_with fail; go_meet; exact ⟨_, _, _, _, _, _, _, _, _, _, ms2, rfl, rfl, by first | with_reducible exact hid (HI.out.alloc rm) | with_reducible exact hid (HI.out.alloc rm).drew | with_reducible exact hid (HI.out.store rm ZROW.out HG.out) | with_reducible exact hid (HI.out.store rm ZROW.out HG.out).drew⟩)
  case rest =>
  obtain ⟨gN, b1, b2, b3, y1, e1, y2, e2, y3, e3, ms2, rfl, rfl, HMO⟩ := hcut
  have FD := hid (FD0.out wc b1 b2 b3 y1 e1 y2 e2 y3 e3 ms2 (HK0.out.trans HMO.out.keep) HMO.out.ref HMO.out.l1 HMO.out.l2 HMO.out.l3)
  have HRN := hid HMO.out.row
  have HRAN := hid (HRA.out.keep HMO.out.keep (fun h => h))
  have HRRN := hid (HRR.out.keep HMO.out.keep (fun h => h))
  have HZN : Hid (w.heap.size + 1 + 1 < gN ∧ gN < wc.heap.size) := ⟨by have h9 := HMO.out.ge; have := HZ3.out; omega, HMO.out.row.lt⟩
  clear SK MK1 MD1 ZA kXa kXb kXc kXd kAd HAE n0 n1 n2 n3 n4 n5 n6 n7 n8 n9 n10 n11 n12 n13 n14 FD0 HMO HK0 HRD HRA HRR HZ3
  go_wp2
  have FX : Hid (∀ W, Keep (fun _ => False) wc W → Calls Try.prog 22 #[.pointer (some ⟨p, 0, none⟩), .agg #[.int .i64 0, .string NM, .string TT, .string SX, .int .i64 NN, .int .i64 F0, .int .i64 F1, .int .i64 F2, .slice ad np cp]] W fun e w1 => e = .returned (.int .i64 (calD d ac).2) ∧ (w1.cell? ⟨w.heap.size + 1 + 1, 0, none⟩ = some (.slice none 0 0) ∧ w1.cell? ⟨w.heap.size + 1 + 1, 1, none⟩ = some (.slice none 0 0) ∧ w1.cell? ⟨w.heap.size + 1 + 1, 2, none⟩ = some (.int .i64 0) ∧ w1.cell? ⟨w.heap.size + 1 + 1, 3, none⟩ = some (.bool false) ∧ w1.cell? ⟨w.heap.size + 1 + 1, 4, none⟩ = some (.slice none 0 0) ∧ w1.cell? ⟨w.heap.size + 1 + 1, 5, none⟩ = some (.int .i64 0) ∧ w1.frozen? ⟨w.heap.size + 1 + 1, 0, none⟩ = false ∧ w1.frozen? ⟨w.heap.size + 1 + 1, 1, none⟩ = false ∧ w1.frozen? ⟨w.heap.size + 1 + 1, 2, none⟩ = false ∧ w1.frozen? ⟨w.heap.size + 1 + 1, 3, none⟩ = false ∧ w1.frozen? ⟨w.heap.size + 1 + 1, 4, none⟩ = false ∧ w1.frozen? ⟨w.heap.size + 1 + 1, 5, none⟩ = false) ∧ (w1.cell? ⟨gN, 0, none⟩ = some (.slice b1 y1 e1) ∧ w1.cell? ⟨gN, 1, none⟩ = some (.slice b2 y2 e2) ∧ w1.cell? ⟨gN, 2, none⟩ = some (.int .i64 ((calD d ac).1.n : Int)) ∧ w1.cell? ⟨gN, 3, none⟩ = some (.bool (calD d ac).1.dn) ∧ w1.cell? ⟨gN, 4, none⟩ = some (.slice b3 y3 e3) ∧ w1.cell? ⟨gN, 5, none⟩ = some (.int .i64 rm) ∧ w1.cell? ⟨w.heap.size + 1, 0, none⟩ = some (.int .i64 0) ∧ w1.cell? ⟨w.heap.size + 1, 1, none⟩ = some (.string NM) ∧ w1.cell? ⟨w.heap.size + 1, 2, none⟩ = some (.string TT) ∧ w1.cell? ⟨w.heap.size + 1, 3, none⟩ = some (.string SX) ∧ w1.cell? ⟨w.heap.size + 1, 4, none⟩ = some (.int .i64 NN) ∧ w1.cell? ⟨w.heap.size + 1, 5, none⟩ = some (.int .i64 F0) ∧ w1.cell? ⟨w.heap.size + 1, 6, none⟩ = some (.int .i64 F1) ∧ w1.cell? ⟨w.heap.size + 1, 7, none⟩ = some (.int .i64 F2) ∧ w1.cell? ⟨w.heap.size + 1, 8, none⟩ = some (.slice ad np cp)) ∧ Hid (((((((w1.setCell ⟨w.heap.size + 1 + 1, 0, none⟩ (.slice b1 y1 e1)).setCell ⟨w.heap.size + 1 + 1, 1, none⟩ (.slice b2 y2 e2)).setCell ⟨w.heap.size + 1 + 1, 2, none⟩ (.int .i64 ((calD d ac).1.n : Int))).setCell ⟨w.heap.size + 1 + 1, 3, none⟩ (.bool (calD d ac).1.dn)).setCell ⟨w.heap.size + 1 + 1, 4, none⟩ (.slice b3 y3 e3)).setCell ⟨w.heap.size + 1 + 1, 5, none⟩ (.int .i64 rm)).cell? ⟨gN, 0, none⟩ = some (.slice b1 y1 e1) ∧ ((((((w1.setCell ⟨w.heap.size + 1 + 1, 0, none⟩ (.slice b1 y1 e1)).setCell ⟨w.heap.size + 1 + 1, 1, none⟩ (.slice b2 y2 e2)).setCell ⟨w.heap.size + 1 + 1, 2, none⟩ (.int .i64 ((calD d ac).1.n : Int))).setCell ⟨w.heap.size + 1 + 1, 3, none⟩ (.bool (calD d ac).1.dn)).setCell ⟨w.heap.size + 1 + 1, 4, none⟩ (.slice b3 y3 e3)).setCell ⟨w.heap.size + 1 + 1, 5, none⟩ (.int .i64 rm)).cell? ⟨gN, 1, none⟩ = some (.slice b2 y2 e2) ∧ ((((((w1.setCell ⟨w.heap.size + 1 + 1, 0, none⟩ (.slice b1 y1 e1)).setCell ⟨w.heap.size + 1 + 1, 1, none⟩ (.slice b2 y2 e2)).setCell ⟨w.heap.size + 1 + 1, 2, none⟩ (.int .i64 ((calD d ac).1.n : Int))).setCell ⟨w.heap.size + 1 + 1, 3, none⟩ (.bool (calD d ac).1.dn)).setCell ⟨w.heap.size + 1 + 1, 4, none⟩ (.slice b3 y3 e3)).setCell ⟨w.heap.size + 1 + 1, 5, none⟩ (.int .i64 rm)).cell? ⟨gN, 2, none⟩ = some (.int .i64 ((calD d ac).1.n : Int)) ∧ ((((((w1.setCell ⟨w.heap.size + 1 + 1, 0, none⟩ (.slice b1 y1 e1)).setCell ⟨w.heap.size + 1 + 1, 1, none⟩ (.slice b2 y2 e2)).setCell ⟨w.heap.size + 1 + 1, 2, none⟩ (.int .i64 ((calD d ac).1.n : Int))).setCell ⟨w.heap.size + 1 + 1, 3, none⟩ (.bool (calD d ac).1.dn)).setCell ⟨w.heap.size + 1 + 1, 4, none⟩ (.slice b3 y3 e3)).setCell ⟨w.heap.size + 1 + 1, 5, none⟩ (.int .i64 rm)).cell? ⟨gN, 3, none⟩ = some (.bool (calD d ac).1.dn) ∧ ((((((w1.setCell ⟨w.heap.size + 1 + 1, 0, none⟩ (.slice b1 y1 e1)).setCell ⟨w.heap.size + 1 + 1, 1, none⟩ (.slice b2 y2 e2)).setCell ⟨w.heap.size + 1 + 1, 2, none⟩ (.int .i64 ((calD d ac).1.n : Int))).setCell ⟨w.heap.size + 1 + 1, 3, none⟩ (.bool (calD d ac).1.dn)).setCell ⟨w.heap.size + 1 + 1, 4, none⟩ (.slice b3 y3 e3)).setCell ⟨w.heap.size + 1 + 1, 5, none⟩ (.int .i64 rm)).cell? ⟨gN, 4, none⟩ = some (.slice b3 y3 e3) ∧ ((((((w1.setCell ⟨w.heap.size + 1 + 1, 0, none⟩ (.slice b1 y1 e1)).setCell ⟨w.heap.size + 1 + 1, 1, none⟩ (.slice b2 y2 e2)).setCell ⟨w.heap.size + 1 + 1, 2, none⟩ (.int .i64 ((calD d ac).1.n : Int))).setCell ⟨w.heap.size + 1 + 1, 3, none⟩ (.bool (calD d ac).1.dn)).setCell ⟨w.heap.size + 1 + 1, 4, none⟩ (.slice b3 y3 e3)).setCell ⟨w.heap.size + 1 + 1, 5, none⟩ (.int .i64 rm)).cell? ⟨gN, 5, none⟩ = some (.int .i64 rm) ∧ ((((((w1.setCell ⟨w.heap.size + 1 + 1, 0, none⟩ (.slice b1 y1 e1)).setCell ⟨w.heap.size + 1 + 1, 1, none⟩ (.slice b2 y2 e2)).setCell ⟨w.heap.size + 1 + 1, 2, none⟩ (.int .i64 ((calD d ac).1.n : Int))).setCell ⟨w.heap.size + 1 + 1, 3, none⟩ (.bool (calD d ac).1.dn)).setCell ⟨w.heap.size + 1 + 1, 4, none⟩ (.slice b3 y3 e3)).setCell ⟨w.heap.size + 1 + 1, 5, none⟩ (.int .i64 rm)).cell? ⟨w.heap.size + 1, 0, none⟩ = some (.int .i64 0) ∧ ((((((w1.setCell ⟨w.heap.size + 1 + 1, 0, none⟩ (.slice b1 y1 e1)).setCell ⟨w.heap.size + 1 + 1, 1, none⟩ (.slice b2 y2 e2)).setCell ⟨w.heap.size + 1 + 1, 2, none⟩ (.int .i64 ((calD d ac).1.n : Int))).setCell ⟨w.heap.size + 1 + 1, 3, none⟩ (.bool (calD d ac).1.dn)).setCell ⟨w.heap.size + 1 + 1, 4, none⟩ (.slice b3 y3 e3)).setCell ⟨w.heap.size + 1 + 1, 5, none⟩ (.int .i64 rm)).cell? ⟨w.heap.size + 1, 1, none⟩ = some (.string NM) ∧ ((((((w1.setCell ⟨w.heap.size + 1 + 1, 0, none⟩ (.slice b1 y1 e1)).setCell ⟨w.heap.size + 1 + 1, 1, none⟩ (.slice b2 y2 e2)).setCell ⟨w.heap.size + 1 + 1, 2, none⟩ (.int .i64 ((calD d ac).1.n : Int))).setCell ⟨w.heap.size + 1 + 1, 3, none⟩ (.bool (calD d ac).1.dn)).setCell ⟨w.heap.size + 1 + 1, 4, none⟩ (.slice b3 y3 e3)).setCell ⟨w.heap.size + 1 + 1, 5, none⟩ (.int .i64 rm)).cell? ⟨w.heap.size + 1, 2, none⟩ = some (.string TT) ∧ ((((((w1.setCell ⟨w.heap.size + 1 + 1, 0, none⟩ (.slice b1 y1 e1)).setCell ⟨w.heap.size + 1 + 1, 1, none⟩ (.slice b2 y2 e2)).setCell ⟨w.heap.size + 1 + 1, 2, none⟩ (.int .i64 ((calD d ac).1.n : Int))).setCell ⟨w.heap.size + 1 + 1, 3, none⟩ (.bool (calD d ac).1.dn)).setCell ⟨w.heap.size + 1 + 1, 4, none⟩ (.slice b3 y3 e3)).setCell ⟨w.heap.size + 1 + 1, 5, none⟩ (.int .i64 rm)).cell? ⟨w.heap.size + 1, 3, none⟩ = some (.string SX) ∧ ((((((w1.setCell ⟨w.heap.size + 1 + 1, 0, none⟩ (.slice b1 y1 e1)).setCell ⟨w.heap.size + 1 + 1, 1, none⟩ (.slice b2 y2 e2)).setCell ⟨w.heap.size + 1 + 1, 2, none⟩ (.int .i64 ((calD d ac).1.n : Int))).setCell ⟨w.heap.size + 1 + 1, 3, none⟩ (.bool (calD d ac).1.dn)).setCell ⟨w.heap.size + 1 + 1, 4, none⟩ (.slice b3 y3 e3)).setCell ⟨w.heap.size + 1 + 1, 5, none⟩ (.int .i64 rm)).cell? ⟨w.heap.size + 1, 4, none⟩ = some (.int .i64 NN) ∧ ((((((w1.setCell ⟨w.heap.size + 1 + 1, 0, none⟩ (.slice b1 y1 e1)).setCell ⟨w.heap.size + 1 + 1, 1, none⟩ (.slice b2 y2 e2)).setCell ⟨w.heap.size + 1 + 1, 2, none⟩ (.int .i64 ((calD d ac).1.n : Int))).setCell ⟨w.heap.size + 1 + 1, 3, none⟩ (.bool (calD d ac).1.dn)).setCell ⟨w.heap.size + 1 + 1, 4, none⟩ (.slice b3 y3 e3)).setCell ⟨w.heap.size + 1 + 1, 5, none⟩ (.int .i64 rm)).cell? ⟨w.heap.size + 1, 5, none⟩ = some (.int .i64 F0) ∧ ((((((w1.setCell ⟨w.heap.size + 1 + 1, 0, none⟩ (.slice b1 y1 e1)).setCell ⟨w.heap.size + 1 + 1, 1, none⟩ (.slice b2 y2 e2)).setCell ⟨w.heap.size + 1 + 1, 2, none⟩ (.int .i64 ((calD d ac).1.n : Int))).setCell ⟨w.heap.size + 1 + 1, 3, none⟩ (.bool (calD d ac).1.dn)).setCell ⟨w.heap.size + 1 + 1, 4, none⟩ (.slice b3 y3 e3)).setCell ⟨w.heap.size + 1 + 1, 5, none⟩ (.int .i64 rm)).cell? ⟨w.heap.size + 1, 6, none⟩ = some (.int .i64 F1) ∧ ((((((w1.setCell ⟨w.heap.size + 1 + 1, 0, none⟩ (.slice b1 y1 e1)).setCell ⟨w.heap.size + 1 + 1, 1, none⟩ (.slice b2 y2 e2)).setCell ⟨w.heap.size + 1 + 1, 2, none⟩ (.int .i64 ((calD d ac).1.n : Int))).setCell ⟨w.heap.size + 1 + 1, 3, none⟩ (.bool (calD d ac).1.dn)).setCell ⟨w.heap.size + 1 + 1, 4, none⟩ (.slice b3 y3 e3)).setCell ⟨w.heap.size + 1 + 1, 5, none⟩ (.int .i64 rm)).cell? ⟨w.heap.size + 1, 7, none⟩ = some (.int .i64 F2) ∧ ((((((w1.setCell ⟨w.heap.size + 1 + 1, 0, none⟩ (.slice b1 y1 e1)).setCell ⟨w.heap.size + 1 + 1, 1, none⟩ (.slice b2 y2 e2)).setCell ⟨w.heap.size + 1 + 1, 2, none⟩ (.int .i64 ((calD d ac).1.n : Int))).setCell ⟨w.heap.size + 1 + 1, 3, none⟩ (.bool (calD d ac).1.dn)).setCell ⟨w.heap.size + 1 + 1, 4, none⟩ (.slice b3 y3 e3)).setCell ⟨w.heap.size + 1 + 1, 5, none⟩ (.int .i64 rm)).cell? ⟨w.heap.size + 1, 8, none⟩ = some (.slice ad np cp)) ∧ Hid (((((((w1.setCell ⟨w.heap.size + 1 + 1, 0, none⟩ (.slice b1 y1 e1)).setCell ⟨w.heap.size + 1 + 1, 1, none⟩ (.slice b2 y2 e2)).setCell ⟨w.heap.size + 1 + 1, 2, none⟩ (.int .i64 ((calD d ac).1.n : Int))).setCell ⟨w.heap.size + 1 + 1, 3, none⟩ (.bool (calD d ac).1.dn)).setCell ⟨w.heap.size + 1 + 1, 4, none⟩ (.slice b3 y3 e3)).setCell ⟨w.heap.size + 1 + 1, 5, none⟩ (.int .i64 rm)).drew.cell? ⟨gN, 0, none⟩ = some (.slice b1 y1 e1) ∧ ((((((w1.setCell ⟨w.heap.size + 1 + 1, 0, none⟩ (.slice b1 y1 e1)).setCell ⟨w.heap.size + 1 + 1, 1, none⟩ (.slice b2 y2 e2)).setCell ⟨w.heap.size + 1 + 1, 2, none⟩ (.int .i64 ((calD d ac).1.n : Int))).setCell ⟨w.heap.size + 1 + 1, 3, none⟩ (.bool (calD d ac).1.dn)).setCell ⟨w.heap.size + 1 + 1, 4, none⟩ (.slice b3 y3 e3)).setCell ⟨w.heap.size + 1 + 1, 5, none⟩ (.int .i64 rm)).drew.cell? ⟨gN, 1, none⟩ = some (.slice b2 y2 e2) ∧ ((((((w1.setCell ⟨w.heap.size + 1 + 1, 0, none⟩ (.slice b1 y1 e1)).setCell ⟨w.heap.size + 1 + 1, 1, none⟩ (.slice b2 y2 e2)).setCell ⟨w.heap.size + 1 + 1, 2, none⟩ (.int .i64 ((calD d ac).1.n : Int))).setCell ⟨w.heap.size + 1 + 1, 3, none⟩ (.bool (calD d ac).1.dn)).setCell ⟨w.heap.size + 1 + 1, 4, none⟩ (.slice b3 y3 e3)).setCell ⟨w.heap.size + 1 + 1, 5, none⟩ (.int .i64 rm)).drew.cell? ⟨gN, 2, none⟩ = some (.int .i64 ((calD d ac).1.n : Int)) ∧ ((((((w1.setCell ⟨w.heap.size + 1 + 1, 0, none⟩ (.slice b1 y1 e1)).setCell ⟨w.heap.size + 1 + 1, 1, none⟩ (.slice b2 y2 e2)).setCell ⟨w.heap.size + 1 + 1, 2, none⟩ (.int .i64 ((calD d ac).1.n : Int))).setCell ⟨w.heap.size + 1 + 1, 3, none⟩ (.bool (calD d ac).1.dn)).setCell ⟨w.heap.size + 1 + 1, 4, none⟩ (.slice b3 y3 e3)).setCell ⟨w.heap.size + 1 + 1, 5, none⟩ (.int .i64 rm)).drew.cell? ⟨gN, 3, none⟩ = some (.bool (calD d ac).1.dn) ∧ ((((((w1.setCell ⟨w.heap.size + 1 + 1, 0, none⟩ (.slice b1 y1 e1)).setCell ⟨w.heap.size + 1 + 1, 1, none⟩ (.slice b2 y2 e2)).setCell ⟨w.heap.size + 1 + 1, 2, none⟩ (.int .i64 ((calD d ac).1.n : Int))).setCell ⟨w.heap.size + 1 + 1, 3, none⟩ (.bool (calD d ac).1.dn)).setCell ⟨w.heap.size + 1 + 1, 4, none⟩ (.slice b3 y3 e3)).setCell ⟨w.heap.size + 1 + 1, 5, none⟩ (.int .i64 rm)).drew.cell? ⟨gN, 4, none⟩ = some (.slice b3 y3 e3) ∧ ((((((w1.setCell ⟨w.heap.size + 1 + 1, 0, none⟩ (.slice b1 y1 e1)).setCell ⟨w.heap.size + 1 + 1, 1, none⟩ (.slice b2 y2 e2)).setCell ⟨w.heap.size + 1 + 1, 2, none⟩ (.int .i64 ((calD d ac).1.n : Int))).setCell ⟨w.heap.size + 1 + 1, 3, none⟩ (.bool (calD d ac).1.dn)).setCell ⟨w.heap.size + 1 + 1, 4, none⟩ (.slice b3 y3 e3)).setCell ⟨w.heap.size + 1 + 1, 5, none⟩ (.int .i64 rm)).drew.cell? ⟨gN, 5, none⟩ = some (.int .i64 rm) ∧ ((((((w1.setCell ⟨w.heap.size + 1 + 1, 0, none⟩ (.slice b1 y1 e1)).setCell ⟨w.heap.size + 1 + 1, 1, none⟩ (.slice b2 y2 e2)).setCell ⟨w.heap.size + 1 + 1, 2, none⟩ (.int .i64 ((calD d ac).1.n : Int))).setCell ⟨w.heap.size + 1 + 1, 3, none⟩ (.bool (calD d ac).1.dn)).setCell ⟨w.heap.size + 1 + 1, 4, none⟩ (.slice b3 y3 e3)).setCell ⟨w.heap.size + 1 + 1, 5, none⟩ (.int .i64 rm)).drew.cell? ⟨w.heap.size + 1, 0, none⟩ = some (.int .i64 0) ∧ ((((((w1.setCell ⟨w.heap.size + 1 + 1, 0, none⟩ (.slice b1 y1 e1)).setCell ⟨w.heap.size + 1 + 1, 1, none⟩ (.slice b2 y2 e2)).setCell ⟨w.heap.size + 1 + 1, 2, none⟩ (.int .i64 ((calD d ac).1.n : Int))).setCell ⟨w.heap.size + 1 + 1, 3, none⟩ (.bool (calD d ac).1.dn)).setCell ⟨w.heap.size + 1 + 1, 4, none⟩ (.slice b3 y3 e3)).setCell ⟨w.heap.size + 1 + 1, 5, none⟩ (.int .i64 rm)).drew.cell? ⟨w.heap.size + 1, 1, none⟩ = some (.string NM) ∧ ((((((w1.setCell ⟨w.heap.size + 1 + 1, 0, none⟩ (.slice b1 y1 e1)).setCell ⟨w.heap.size + 1 + 1, 1, none⟩ (.slice b2 y2 e2)).setCell ⟨w.heap.size + 1 + 1, 2, none⟩ (.int .i64 ((calD d ac).1.n : Int))).setCell ⟨w.heap.size + 1 + 1, 3, none⟩ (.bool (calD d ac).1.dn)).setCell ⟨w.heap.size + 1 + 1, 4, none⟩ (.slice b3 y3 e3)).setCell ⟨w.heap.size + 1 + 1, 5, none⟩ (.int .i64 rm)).drew.cell? ⟨w.heap.size + 1, 2, none⟩ = some (.string TT) ∧ ((((((w1.setCell ⟨w.heap.size + 1 + 1, 0, none⟩ (.slice b1 y1 e1)).setCell ⟨w.heap.size + 1 + 1, 1, none⟩ (.slice b2 y2 e2)).setCell ⟨w.heap.size + 1 + 1, 2, none⟩ (.int .i64 ((calD d ac).1.n : Int))).setCell ⟨w.heap.size + 1 + 1, 3, none⟩ (.bool (calD d ac).1.dn)).setCell ⟨w.heap.size + 1 + 1, 4, none⟩ (.slice b3 y3 e3)).setCell ⟨w.heap.size + 1 + 1, 5, none⟩ (.int .i64 rm)).drew.cell? ⟨w.heap.size + 1, 3, none⟩ = some (.string SX) ∧ ((((((w1.setCell ⟨w.heap.size + 1 + 1, 0, none⟩ (.slice b1 y1 e1)).setCell ⟨w.heap.size + 1 + 1, 1, none⟩ (.slice b2 y2 e2)).setCell ⟨w.heap.size + 1 + 1, 2, none⟩ (.int .i64 ((calD d ac).1.n : Int))).setCell ⟨w.heap.size + 1 + 1, 3, none⟩ (.bool (calD d ac).1.dn)).setCell ⟨w.heap.size + 1 + 1, 4, none⟩ (.slice b3 y3 e3)).setCell ⟨w.heap.size + 1 + 1, 5, none⟩ (.int .i64 rm)).drew.cell? ⟨w.heap.size + 1, 4, none⟩ = some (.int .i64 NN) ∧ ((((((w1.setCell ⟨w.heap.size + 1 + 1, 0, none⟩ (.slice b1 y1 e1)).setCell ⟨w.heap.size + 1 + 1, 1, none⟩ (.slice b2 y2 e2)).setCell ⟨w.heap.size + 1 + 1, 2, none⟩ (.int .i64 ((calD d ac).1.n : Int))).setCell ⟨w.heap.size + 1 + 1, 3, none⟩ (.bool (calD d ac).1.dn)).setCell ⟨w.heap.size + 1 + 1, 4, none⟩ (.slice b3 y3 e3)).setCell ⟨w.heap.size + 1 + 1, 5, none⟩ (.int .i64 rm)).drew.cell? ⟨w.heap.size + 1, 5, none⟩ = some (.int .i64 F0) ∧ ((((((w1.setCell ⟨w.heap.size + 1 + 1, 0, none⟩ (.slice b1 y1 e1)).setCell ⟨w.heap.size + 1 + 1, 1, none⟩ (.slice b2 y2 e2)).setCell ⟨w.heap.size + 1 + 1, 2, none⟩ (.int .i64 ((calD d ac).1.n : Int))).setCell ⟨w.heap.size + 1 + 1, 3, none⟩ (.bool (calD d ac).1.dn)).setCell ⟨w.heap.size + 1 + 1, 4, none⟩ (.slice b3 y3 e3)).setCell ⟨w.heap.size + 1 + 1, 5, none⟩ (.int .i64 rm)).drew.cell? ⟨w.heap.size + 1, 6, none⟩ = some (.int .i64 F1) ∧ ((((((w1.setCell ⟨w.heap.size + 1 + 1, 0, none⟩ (.slice b1 y1 e1)).setCell ⟨w.heap.size + 1 + 1, 1, none⟩ (.slice b2 y2 e2)).setCell ⟨w.heap.size + 1 + 1, 2, none⟩ (.int .i64 ((calD d ac).1.n : Int))).setCell ⟨w.heap.size + 1 + 1, 3, none⟩ (.bool (calD d ac).1.dn)).setCell ⟨w.heap.size + 1 + 1, 4, none⟩ (.slice b3 y3 e3)).setCell ⟨w.heap.size + 1 + 1, 5, none⟩ (.int .i64 rm)).drew.cell? ⟨w.heap.size + 1, 7, none⟩ = some (.int .i64 F2) ∧ ((((((w1.setCell ⟨w.heap.size + 1 + 1, 0, none⟩ (.slice b1 y1 e1)).setCell ⟨w.heap.size + 1 + 1, 1, none⟩ (.slice b2 y2 e2)).setCell ⟨w.heap.size + 1 + 1, 2, none⟩ (.int .i64 ((calD d ac).1.n : Int))).setCell ⟨w.heap.size + 1 + 1, 3, none⟩ (.bool (calD d ac).1.dn)).setCell ⟨w.heap.size + 1 + 1, 4, none⟩ (.slice b3 y3 e3)).setCell ⟨w.heap.size + 1 + 1, 5, none⟩ (.int .i64 rm)).drew.cell? ⟨w.heap.size + 1, 8, none⟩ = some (.slice ad np cp)) ∧ Hid (((((((w1.setCell ⟨w.heap.size + 1 + 1, 0, none⟩ (.slice b1 y1 e1)).setCell ⟨w.heap.size + 1 + 1, 1, none⟩ (.slice b2 y2 e2)).setCell ⟨w.heap.size + 1 + 1, 2, none⟩ (.int .i64 ((calD d ac).1.n : Int))).setCell ⟨w.heap.size + 1 + 1, 3, none⟩ (.bool (calD d ac).1.dn)).setCell ⟨w.heap.size + 1 + 1, 4, none⟩ (.slice b3 y3 e3)).setCell ⟨w.heap.size + 1 + 1, 5, none⟩ (.int .i64 rm)).drew.drew.cell? ⟨gN, 0, none⟩ = some (.slice b1 y1 e1) ∧ ((((((w1.setCell ⟨w.heap.size + 1 + 1, 0, none⟩ (.slice b1 y1 e1)).setCell ⟨w.heap.size + 1 + 1, 1, none⟩ (.slice b2 y2 e2)).setCell ⟨w.heap.size + 1 + 1, 2, none⟩ (.int .i64 ((calD d ac).1.n : Int))).setCell ⟨w.heap.size + 1 + 1, 3, none⟩ (.bool (calD d ac).1.dn)).setCell ⟨w.heap.size + 1 + 1, 4, none⟩ (.slice b3 y3 e3)).setCell ⟨w.heap.size + 1 + 1, 5, none⟩ (.int .i64 rm)).drew.drew.cell? ⟨gN, 1, none⟩ = some (.slice b2 y2 e2) ∧ ((((((w1.setCell ⟨w.heap.size + 1 + 1, 0, none⟩ (.slice b1 y1 e1)).setCell ⟨w.heap.size + 1 + 1, 1, none⟩ (.slice b2 y2 e2)).setCell ⟨w.heap.size + 1 + 1, 2, none⟩ (.int .i64 ((calD d ac).1.n : Int))).setCell ⟨w.heap.size + 1 + 1, 3, none⟩ (.bool (calD d ac).1.dn)).setCell ⟨w.heap.size + 1 + 1, 4, none⟩ (.slice b3 y3 e3)).setCell ⟨w.heap.size + 1 + 1, 5, none⟩ (.int .i64 rm)).drew.drew.cell? ⟨gN, 2, none⟩ = some (.int .i64 ((calD d ac).1.n : Int)) ∧ ((((((w1.setCell ⟨w.heap.size + 1 + 1, 0, none⟩ (.slice b1 y1 e1)).setCell ⟨w.heap.size + 1 + 1, 1, none⟩ (.slice b2 y2 e2)).setCell ⟨w.heap.size + 1 + 1, 2, none⟩ (.int .i64 ((calD d ac).1.n : Int))).setCell ⟨w.heap.size + 1 + 1, 3, none⟩ (.bool (calD d ac).1.dn)).setCell ⟨w.heap.size + 1 + 1, 4, none⟩ (.slice b3 y3 e3)).setCell ⟨w.heap.size + 1 + 1, 5, none⟩ (.int .i64 rm)).drew.drew.cell? ⟨gN, 3, none⟩ = some (.bool (calD d ac).1.dn) ∧ ((((((w1.setCell ⟨w.heap.size + 1 + 1, 0, none⟩ (.slice b1 y1 e1)).setCell ⟨w.heap.size + 1 + 1, 1, none⟩ (.slice b2 y2 e2)).setCell ⟨w.heap.size + 1 + 1, 2, none⟩ (.int .i64 ((calD d ac).1.n : Int))).setCell ⟨w.heap.size + 1 + 1, 3, none⟩ (.bool (calD d ac).1.dn)).setCell ⟨w.heap.size + 1 + 1, 4, none⟩ (.slice b3 y3 e3)).setCell ⟨w.heap.size + 1 + 1, 5, none⟩ (.int .i64 rm)).drew.drew.cell? ⟨gN, 4, none⟩ = some (.slice b3 y3 e3) ∧ ((((((w1.setCell ⟨w.heap.size + 1 + 1, 0, none⟩ (.slice b1 y1 e1)).setCell ⟨w.heap.size + 1 + 1, 1, none⟩ (.slice b2 y2 e2)).setCell ⟨w.heap.size + 1 + 1, 2, none⟩ (.int .i64 ((calD d ac).1.n : Int))).setCell ⟨w.heap.size + 1 + 1, 3, none⟩ (.bool (calD d ac).1.dn)).setCell ⟨w.heap.size + 1 + 1, 4, none⟩ (.slice b3 y3 e3)).setCell ⟨w.heap.size + 1 + 1, 5, none⟩ (.int .i64 rm)).drew.drew.cell? ⟨gN, 5, none⟩ = some (.int .i64 rm) ∧ ((((((w1.setCell ⟨w.heap.size + 1 + 1, 0, none⟩ (.slice b1 y1 e1)).setCell ⟨w.heap.size + 1 + 1, 1, none⟩ (.slice b2 y2 e2)).setCell ⟨w.heap.size + 1 + 1, 2, none⟩ (.int .i64 ((calD d ac).1.n : Int))).setCell ⟨w.heap.size + 1 + 1, 3, none⟩ (.bool (calD d ac).1.dn)).setCell ⟨w.heap.size + 1 + 1, 4, none⟩ (.slice b3 y3 e3)).setCell ⟨w.heap.size + 1 + 1, 5, none⟩ (.int .i64 rm)).drew.drew.cell? ⟨w.heap.size + 1, 0, none⟩ = some (.int .i64 0) ∧ ((((((w1.setCell ⟨w.heap.size + 1 + 1, 0, none⟩ (.slice b1 y1 e1)).setCell ⟨w.heap.size + 1 + 1, 1, none⟩ (.slice b2 y2 e2)).setCell ⟨w.heap.size + 1 + 1, 2, none⟩ (.int .i64 ((calD d ac).1.n : Int))).setCell ⟨w.heap.size + 1 + 1, 3, none⟩ (.bool (calD d ac).1.dn)).setCell ⟨w.heap.size + 1 + 1, 4, none⟩ (.slice b3 y3 e3)).setCell ⟨w.heap.size + 1 + 1, 5, none⟩ (.int .i64 rm)).drew.drew.cell? ⟨w.heap.size + 1, 1, none⟩ = some (.string NM) ∧ ((((((w1.setCell ⟨w.heap.size + 1 + 1, 0, none⟩ (.slice b1 y1 e1)).setCell ⟨w.heap.size + 1 + 1, 1, none⟩ (.slice b2 y2 e2)).setCell ⟨w.heap.size + 1 + 1, 2, none⟩ (.int .i64 ((calD d ac).1.n : Int))).setCell ⟨w.heap.size + 1 + 1, 3, none⟩ (.bool (calD d ac).1.dn)).setCell ⟨w.heap.size + 1 + 1, 4, none⟩ (.slice b3 y3 e3)).setCell ⟨w.heap.size + 1 + 1, 5, none⟩ (.int .i64 rm)).drew.drew.cell? ⟨w.heap.size + 1, 2, none⟩ = some (.string TT) ∧ ((((((w1.setCell ⟨w.heap.size + 1 + 1, 0, none⟩ (.slice b1 y1 e1)).setCell ⟨w.heap.size + 1 + 1, 1, none⟩ (.slice b2 y2 e2)).setCell ⟨w.heap.size + 1 + 1, 2, none⟩ (.int .i64 ((calD d ac).1.n : Int))).setCell ⟨w.heap.size + 1 + 1, 3, none⟩ (.bool (calD d ac).1.dn)).setCell ⟨w.heap.size + 1 + 1, 4, none⟩ (.slice b3 y3 e3)).setCell ⟨w.heap.size + 1 + 1, 5, none⟩ (.int .i64 rm)).drew.drew.cell? ⟨w.heap.size + 1, 3, none⟩ = some (.string SX) ∧ ((((((w1.setCell ⟨w.heap.size + 1 + 1, 0, none⟩ (.slice b1 y1 e1)).setCell ⟨w.heap.size + 1 + 1, 1, none⟩ (.slice b2 y2 e2)).setCell ⟨w.heap.size + 1 + 1, 2, none⟩ (.int .i64 ((calD d ac).1.n : Int))).setCell ⟨w.heap.size + 1 + 1, 3, none⟩ (.bool (calD d ac).1.dn)).setCell ⟨w.heap.size + 1 + 1, 4, none⟩ (.slice b3 y3 e3)).setCell ⟨w.heap.size + 1 + 1, 5, none⟩ (.int .i64 rm)).drew.drew.cell? ⟨w.heap.size + 1, 4, none⟩ = some (.int .i64 NN) ∧ ((((((w1.setCell ⟨w.heap.size + 1 + 1, 0, none⟩ (.slice b1 y1 e1)).setCell ⟨w.heap.size + 1 + 1, 1, none⟩ (.slice b2 y2 e2)).setCell ⟨w.heap.size + 1 + 1, 2, none⟩ (.int .i64 ((calD d ac).1.n : Int))).setCell ⟨w.heap.size + 1 + 1, 3, none⟩ (.bool (calD d ac).1.dn)).setCell ⟨w.heap.size + 1 + 1, 4, none⟩ (.slice b3 y3 e3)).setCell ⟨w.heap.size + 1 + 1, 5, none⟩ (.int .i64 rm)).drew.drew.cell? ⟨w.heap.size + 1, 5, none⟩ = some (.int .i64 F0) ∧ ((((((w1.setCell ⟨w.heap.size + 1 + 1, 0, none⟩ (.slice b1 y1 e1)).setCell ⟨w.heap.size + 1 + 1, 1, none⟩ (.slice b2 y2 e2)).setCell ⟨w.heap.size + 1 + 1, 2, none⟩ (.int .i64 ((calD d ac).1.n : Int))).setCell ⟨w.heap.size + 1 + 1, 3, none⟩ (.bool (calD d ac).1.dn)).setCell ⟨w.heap.size + 1 + 1, 4, none⟩ (.slice b3 y3 e3)).setCell ⟨w.heap.size + 1 + 1, 5, none⟩ (.int .i64 rm)).drew.drew.cell? ⟨w.heap.size + 1, 6, none⟩ = some (.int .i64 F1) ∧ ((((((w1.setCell ⟨w.heap.size + 1 + 1, 0, none⟩ (.slice b1 y1 e1)).setCell ⟨w.heap.size + 1 + 1, 1, none⟩ (.slice b2 y2 e2)).setCell ⟨w.heap.size + 1 + 1, 2, none⟩ (.int .i64 ((calD d ac).1.n : Int))).setCell ⟨w.heap.size + 1 + 1, 3, none⟩ (.bool (calD d ac).1.dn)).setCell ⟨w.heap.size + 1 + 1, 4, none⟩ (.slice b3 y3 e3)).setCell ⟨w.heap.size + 1 + 1, 5, none⟩ (.int .i64 rm)).drew.drew.cell? ⟨w.heap.size + 1, 7, none⟩ = some (.int .i64 F2) ∧ ((((((w1.setCell ⟨w.heap.size + 1 + 1, 0, none⟩ (.slice b1 y1 e1)).setCell ⟨w.heap.size + 1 + 1, 1, none⟩ (.slice b2 y2 e2)).setCell ⟨w.heap.size + 1 + 1, 2, none⟩ (.int .i64 ((calD d ac).1.n : Int))).setCell ⟨w.heap.size + 1 + 1, 3, none⟩ (.bool (calD d ac).1.dn)).setCell ⟨w.heap.size + 1 + 1, 4, none⟩ (.slice b3 y3 e3)).setCell ⟨w.heap.size + 1 + 1, 5, none⟩ (.int .i64 rm)).drew.drew.cell? ⟨w.heap.size + 1, 8, none⟩ = some (.slice ad np cp)) ∧ Hid (RowIs ((((((w1.setCell ⟨w.heap.size + 1 + 1, 0, none⟩ (.slice b1 y1 e1)).setCell ⟨w.heap.size + 1 + 1, 1, none⟩ (.slice b2 y2 e2)).setCell ⟨w.heap.size + 1 + 1, 2, none⟩ (.int .i64 ((calD d ac).1.n : Int))).setCell ⟨w.heap.size + 1 + 1, 3, none⟩ (.bool (calD d ac).1.dn)).setCell ⟨w.heap.size + 1 + 1, 4, none⟩ (.slice b3 y3 e3)).setCell ⟨w.heap.size + 1 + 1, 5, none⟩ (.int .i64 rm)) (w.heap.size + 1 + 1) [.slice b1 y1 e1, .slice b2 y2 e2, .int .i64 ((calD d ac).1.n : Int), .bool (calD d ac).1.dn, .slice b3 y3 e3, .int .i64 rm] 30 ∧ Keep (· = w.heap.size + 1 + 1) w1 ((((((w1.setCell ⟨w.heap.size + 1 + 1, 0, none⟩ (.slice b1 y1 e1)).setCell ⟨w.heap.size + 1 + 1, 1, none⟩ (.slice b2 y2 e2)).setCell ⟨w.heap.size + 1 + 1, 2, none⟩ (.int .i64 ((calD d ac).1.n : Int))).setCell ⟨w.heap.size + 1 + 1, 3, none⟩ (.bool (calD d ac).1.dn)).setCell ⟨w.heap.size + 1 + 1, 4, none⟩ (.slice b3 y3 e3)).setCell ⟨w.heap.size + 1 + 1, 5, none⟩ (.int .i64 rm))) ∧ Hid (RowIs ((((((w1.setCell ⟨w.heap.size + 1 + 1, 0, none⟩ (.slice b1 y1 e1)).setCell ⟨w.heap.size + 1 + 1, 1, none⟩ (.slice b2 y2 e2)).setCell ⟨w.heap.size + 1 + 1, 2, none⟩ (.int .i64 ((calD d ac).1.n : Int))).setCell ⟨w.heap.size + 1 + 1, 3, none⟩ (.bool (calD d ac).1.dn)).setCell ⟨w.heap.size + 1 + 1, 4, none⟩ (.slice b3 y3 e3)).setCell ⟨w.heap.size + 1 + 1, 5, none⟩ (.int .i64 rm)).drew (w.heap.size + 1 + 1) [.slice b1 y1 e1, .slice b2 y2 e2, .int .i64 ((calD d ac).1.n : Int), .bool (calD d ac).1.dn, .slice b3 y3 e3, .int .i64 rm] 30 ∧ Keep (· = w.heap.size + 1 + 1) w1 ((((((w1.setCell ⟨w.heap.size + 1 + 1, 0, none⟩ (.slice b1 y1 e1)).setCell ⟨w.heap.size + 1 + 1, 1, none⟩ (.slice b2 y2 e2)).setCell ⟨w.heap.size + 1 + 1, 2, none⟩ (.int .i64 ((calD d ac).1.n : Int))).setCell ⟨w.heap.size + 1 + 1, 3, none⟩ (.bool (calD d ac).1.dn)).setCell ⟨w.heap.size + 1 + 1, 4, none⟩ (.slice b3 y3 e3)).setCell ⟨w.heap.size + 1 + 1, 5, none⟩ (.int .i64 rm)).drew) ∧ Hid (RowIs ((((((w1.setCell ⟨w.heap.size + 1 + 1, 0, none⟩ (.slice b1 y1 e1)).setCell ⟨w.heap.size + 1 + 1, 1, none⟩ (.slice b2 y2 e2)).setCell ⟨w.heap.size + 1 + 1, 2, none⟩ (.int .i64 ((calD d ac).1.n : Int))).setCell ⟨w.heap.size + 1 + 1, 3, none⟩ (.bool (calD d ac).1.dn)).setCell ⟨w.heap.size + 1 + 1, 4, none⟩ (.slice b3 y3 e3)).setCell ⟨w.heap.size + 1 + 1, 5, none⟩ (.int .i64 rm)).drew.drew (w.heap.size + 1 + 1) [.slice b1 y1 e1, .slice b2 y2 e2, .int .i64 ((calD d ac).1.n : Int), .bool (calD d ac).1.dn, .slice b3 y3 e3, .int .i64 rm] 30 ∧ Keep (· = w.heap.size + 1 + 1) w1 ((((((w1.setCell ⟨w.heap.size + 1 + 1, 0, none⟩ (.slice b1 y1 e1)).setCell ⟨w.heap.size + 1 + 1, 1, none⟩ (.slice b2 y2 e2)).setCell ⟨w.heap.size + 1 + 1, 2, none⟩ (.int .i64 ((calD d ac).1.n : Int))).setCell ⟨w.heap.size + 1 + 1, 3, none⟩ (.bool (calD d ac).1.dn)).setCell ⟨w.heap.size + 1 + 1, 4, none⟩ (.slice b3 y3 e3)).setCell ⟨w.heap.size + 1 + 1, 5, none⟩ (.int .i64 rm)).drew.drew) ∧ Hid (RefIs w1 (.slice b1 y1 e1) (.slice b2 y2 e2) (.slice b3 y3 e3) ms2 (calD d ac).1 ∧ RowIs w1 (w.heap.size + 1 + 1) [.slice none 0 0, .slice none 0 0, .int .i64 0, .bool false, .slice none 0 0, .int .i64 0] 30 ∧ Goes P w0 w.heap.size wc.heap.size p (.slice b1 y1 e1) (.slice b2 y2 e2) (.slice b3 y3 e3) (calD d ac).1 w1)) := fun W hW => (FD.out W hW).mono fun e w1 ⟨he, hR1, hk1, hG1⟩ => by
    have s0 := (HRN.out.keep hW (fun h => h)).keep hk1 (fun h => by have := HZN.out; omega)
    have s1 := (HRAN.out.keep hW (fun h => h)).keep hk1 (fun h => by have := HZN.out; omega)
    have rr1 := (HRRN.out.keep hW (fun h => h)).keep hk1 (fun h => by have := HZN.out; omega)
    have hs := six (v0 := .slice b1 y1 e1) (v1 := .slice b2 y2 e2) (v2 := .int .i64 ((calD d ac).1.n : Int)) (v3 := .bool (calD d ac).1.dn) (v4 := .slice b3 y3 e3) (v5 := .int .i64 rm) rr1
    have hsd : RowIs ((((((w1.setCell ⟨w.heap.size + 1 + 1, 0, none⟩ (.slice b1 y1 e1)).setCell ⟨w.heap.size + 1 + 1, 1, none⟩ (.slice b2 y2 e2)).setCell ⟨w.heap.size + 1 + 1, 2, none⟩ (.int .i64 ((calD d ac).1.n : Int))).setCell ⟨w.heap.size + 1 + 1, 3, none⟩ (.bool (calD d ac).1.dn)).setCell ⟨w.heap.size + 1 + 1, 4, none⟩ (.slice b3 y3 e3)).setCell ⟨w.heap.size + 1 + 1, 5, none⟩ (.int .i64 rm)).drew (w.heap.size + 1 + 1) [.slice b1 y1 e1, .slice b2 y2 e2, .int .i64 ((calD d ac).1.n : Int), .bool (calD d ac).1.dn, .slice b3 y3 e3, .int .i64 rm] 30 ∧ Keep (· = w.heap.size + 1 + 1) w1 ((((((w1.setCell ⟨w.heap.size + 1 + 1, 0, none⟩ (.slice b1 y1 e1)).setCell ⟨w.heap.size + 1 + 1, 1, none⟩ (.slice b2 y2 e2)).setCell ⟨w.heap.size + 1 + 1, 2, none⟩ (.int .i64 ((calD d ac).1.n : Int))).setCell ⟨w.heap.size + 1 + 1, 3, none⟩ (.bool (calD d ac).1.dn)).setCell ⟨w.heap.size + 1 + 1, 4, none⟩ (.slice b3 y3 e3)).setCell ⟨w.heap.size + 1 + 1, 5, none⟩ (.int .i64 rm)).drew := ⟨hs.1.keep (keep_drew (fun _ => False) _) (fun h => h), hs.2.trans (keep_drew _ _)⟩
    have hse : RowIs ((((((w1.setCell ⟨w.heap.size + 1 + 1, 0, none⟩ (.slice b1 y1 e1)).setCell ⟨w.heap.size + 1 + 1, 1, none⟩ (.slice b2 y2 e2)).setCell ⟨w.heap.size + 1 + 1, 2, none⟩ (.int .i64 ((calD d ac).1.n : Int))).setCell ⟨w.heap.size + 1 + 1, 3, none⟩ (.bool (calD d ac).1.dn)).setCell ⟨w.heap.size + 1 + 1, 4, none⟩ (.slice b3 y3 e3)).setCell ⟨w.heap.size + 1 + 1, 5, none⟩ (.int .i64 rm)).drew.drew (w.heap.size + 1 + 1) [.slice b1 y1 e1, .slice b2 y2 e2, .int .i64 ((calD d ac).1.n : Int), .bool (calD d ac).1.dn, .slice b3 y3 e3, .int .i64 rm] 30 ∧ Keep (· = w.heap.size + 1 + 1) w1 ((((((w1.setCell ⟨w.heap.size + 1 + 1, 0, none⟩ (.slice b1 y1 e1)).setCell ⟨w.heap.size + 1 + 1, 1, none⟩ (.slice b2 y2 e2)).setCell ⟨w.heap.size + 1 + 1, 2, none⟩ (.int .i64 ((calD d ac).1.n : Int))).setCell ⟨w.heap.size + 1 + 1, 3, none⟩ (.bool (calD d ac).1.dn)).setCell ⟨w.heap.size + 1 + 1, 4, none⟩ (.slice b3 y3 e3)).setCell ⟨w.heap.size + 1 + 1, 5, none⟩ (.int .i64 rm)).drew.drew := ⟨hsd.1.keep (keep_drew (fun _ => False) _) (fun h => h), hsd.2.trans (keep_drew _ _)⟩
    refine ⟨he, ⟨rr1.cellAt rfl, rr1.cellAt rfl, rr1.cellAt rfl, rr1.cellAt rfl, rr1.cellAt rfl, rr1.cellAt rfl, rr1.frozen, rr1.frozen, rr1.frozen, rr1.frozen, rr1.frozen, rr1.frozen⟩, ⟨s0.cellAt rfl, s0.cellAt rfl, s0.cellAt rfl, s0.cellAt rfl, s0.cellAt rfl, s0.cellAt rfl, s1.cellAt rfl, s1.cellAt rfl, s1.cellAt rfl, s1.cellAt rfl, s1.cellAt rfl, s1.cellAt rfl, s1.cellAt rfl, s1.cellAt rfl, s1.cellAt rfl⟩, ?_, ?_, ?_, hs, hsd, hse, hR1, rr1, fun W2 su2 wa2 fa2 ms2 dr2 K2 => hG1 W2 su2 wa2 fa2 ms2 dr2 (K2.mono fun j _ e => ⟨e.1, Nat.lt_of_lt_of_le e.2 hW.size⟩)⟩
    · have r0 := s0.keep hs.2 (fun h => by have := HZN.out; omega)
      have r1 := s1.keep hs.2 (fun h => by have := HZN.out; omega)
      exact ⟨r0.cellAt rfl, r0.cellAt rfl, r0.cellAt rfl, r0.cellAt rfl, r0.cellAt rfl, r0.cellAt rfl, r1.cellAt rfl, r1.cellAt rfl, r1.cellAt rfl, r1.cellAt rfl, r1.cellAt rfl, r1.cellAt rfl, r1.cellAt rfl, r1.cellAt rfl, r1.cellAt rfl⟩
    · have r0 := s0.keep hsd.2 (fun h => by have := HZN.out; omega)
      have r1 := s1.keep hsd.2 (fun h => by have := HZN.out; omega)
      exact ⟨r0.cellAt rfl, r0.cellAt rfl, r0.cellAt rfl, r0.cellAt rfl, r0.cellAt rfl, r0.cellAt rfl, r1.cellAt rfl, r1.cellAt rfl, r1.cellAt rfl, r1.cellAt rfl, r1.cellAt rfl, r1.cellAt rfl, r1.cellAt rfl, r1.cellAt rfl, r1.cellAt rfl⟩
    · have r0 := s0.keep hse.2 (fun h => by have := HZN.out; omega)
      have r1 := s1.keep hse.2 (fun h => by have := HZN.out; omega)
      exact ⟨r0.cellAt rfl, r0.cellAt rfl, r0.cellAt rfl, r0.cellAt rfl, r0.cellAt rfl, r0.cellAt rfl, r1.cellAt rfl, r1.cellAt rfl, r1.cellAt rfl, r1.cellAt rfl, r1.cellAt rfl, r1.cellAt rfl, r1.cellAt rfl, r1.cellAt rfl, r1.cellAt rfl⟩
  have kXa : Hid (Keep (fun _ => False) wc wc) := Keep.refl _ _
  have kXb : Hid (Keep (fun _ => False) wc wc.drew) := keep_drew _ _
  clear FD
  have t0 := HRN.out
  have t1 := HRAN.out
  have n0 := t0.cellAt (o := 0) rfl
  have n1 := t0.cellAt (o := 1) rfl
  have n2 := t0.cellAt (o := 2) rfl
  have n3 := t0.cellAt (o := 3) rfl
  have n4 := t0.cellAt (o := 4) rfl
  have n5 := t0.cellAt (o := 5) rfl
  have n6 := t1.cellAt (o := 0) rfl
  have n7 := t1.cellAt (o := 1) rfl
  have n8 := t1.cellAt (o := 2) rfl
  have n9 := t1.cellAt (o := 3) rfl
  have n10 := t1.cellAt (o := 4) rfl
  have n11 := t1.cellAt (o := 5) rfl
  have n12 := t1.cellAt (o := 6) rfl
  have n13 := t1.cellAt (o := 7) rfl
  have n14 := t1.cellAt (o := 8) rfl
  clear t0 t1
  go_cut [6, 8] from 31 to 37 (fun s6 s8 wx => ∃ w1, s6 = .pointer (some ⟨p, 0, none⟩) ∧ s8 = .bool true ∧ Hid (RowIs wx (w.heap.size + 1 + 1) [.slice b1 y1 e1, .slice b2 y2 e2, .int .i64 ((calD d ac).1.n : Int), .bool (calD d ac).1.dn, .slice b3 y3 e3, .int .i64 rm] 30) ∧ Hid (Keep (· = w.heap.size + 1 + 1) w1 wx) ∧ Hid (RefIs w1 (.slice b1 y1 e1) (.slice b2 y2 e2) (.slice b3 y3 e3) ms2 (calD d ac).1 ∧ RowIs w1 (w.heap.size + 1 + 1) [.slice none 0 0, .slice none 0 0, .int .i64 0, .bool false, .slice none 0 0, .int .i64 0] 30 ∧ Goes P w0 w.heap.size wc.heap.size p (.slice b1 y1 e1) (.slice b2 y2 e2) (.slice b3 y3 e3) (calD d ac).1 w1))
  case first =>
    go_region_held3 (fun w' => w'.cell? ⟨gN, 0, none⟩ = some (.slice b1 y1 e1) ∧ w'.cell? ⟨gN, 1, none⟩ = some (.slice b2 y2 e2) ∧ w'.cell? ⟨gN, 2, none⟩ = some (.int .i64 ((calD d ac).1.n : Int)) ∧ w'.cell? ⟨gN, 3, none⟩ = some (.bool (calD d ac).1.dn) ∧ w'.cell? ⟨gN, 4, none⟩ = some (.slice b3 y3 e3) ∧ w'.cell? ⟨gN, 5, none⟩ = some (.int .i64 rm) ∧ w'.cell? ⟨w.heap.size + 1, 0, none⟩ = some (.int .i64 0) ∧ w'.cell? ⟨w.heap.size + 1, 1, none⟩ = some (.string NM) ∧ w'.cell? ⟨w.heap.size + 1, 2, none⟩ = some (.string TT) ∧ w'.cell? ⟨w.heap.size + 1, 3, none⟩ = some (.string SX) ∧ w'.cell? ⟨w.heap.size + 1, 4, none⟩ = some (.int .i64 NN) ∧ w'.cell? ⟨w.heap.size + 1, 5, none⟩ = some (.int .i64 F0) ∧ w'.cell? ⟨w.heap.size + 1, 6, none⟩ = some (.int .i64 F1) ∧ w'.cell? ⟨w.heap.size + 1, 7, none⟩ = some (.int .i64 F2) ∧ w'.cell? ⟨w.heap.size + 1, 8, none⟩ = some (.slice ad np cp)) (first | with_reducible assumption | with_reducible (exact hSA.out) | with_reducible (exact hSB.out) | with_reducible (exact hSC.out) | (refine ⟨?_, ?_, ?_, ?_, ?_, ?_, ?_, ?_, ?_, ?_, ?_, ?_, ?_, ?_, ?_⟩ <;> with_reducible assumption) | go_keep) (first | (go_at_call 22; with_reducible (refine (FX.out _ ?_).mono ?_); (first | exact kXa.out | exact kXb.out); rintro e w1 ⟨rfl, ⟨z0, z1, z2, z3, z4, z5, g0, g1, g2, g3, g4, g5⟩, ⟨n0, n1, n2, n3, n4, n5, n6, n7, n8, n9, n10, n11, n12, n13, n14⟩, hSA, hSB, hSC, HS, HSd, HSe, HB⟩))
    all_goals (go_wp2_with fail; go_meet; exact ⟨w1, rfl, rfl, by first | with_reducible exact hid HS.out.1 | with_reducible exact hid HSd.out.1 | with_reducible exact hid HSe.out.1, by first | with_reducible exact hid HS.out.2 | with_reducible exact hid HSd.out.2 | with_reducible exact hid HSe.out.2, HB⟩)
  case rest =>
    obtain ⟨w1, rfl, rfl, HX, HKX, HB⟩ := hcut
    clear FX kXa kXb n0 n1 n2 n3 n4 n5 n6 n7 n8 n9 n10 n11 n12 n13 n14
    go_wp2
    refine bodyPost_ret (v := .tuple #[.pointer (some ⟨p, 0, none⟩), .agg #[.slice b1 y1 e1, .slice b2 y2 e2, .int .i64 ((calD d ac).1.n : Int), .bool (calD d ac).1.dn, .slice b3 y3 e3, .int .i64 rm], .bool true]) (ret_three (s := 6) (p := 7) (u := 8) rfl _ _ (w.heap.size + 1 + 1) _ _ _ rfl rfl rfl (run_loadVar_row _ _ _ _ _ _ _ HX.out Try.underlying30 rfl (by kernel_rfl))) rfl ⟨_, _, _, _, _, _, _, _, _, _, ms2, rfl, ?_⟩
    refine HB.out.2.2 _ _ _ _ ms2 _ (HKX.out.mono fun j hj e => ?_) (HB.out.1.box HB.out.2.1 HKX.out) (locv_refl _ _) (locv_refl _ _) (locv_refl _ _)
    have := HZN.out
    omega
end Go.Proofs.Ytnlodlpjokkepab
