/- The walk of the law RaftBack. -/
import Derived.Test.YtlkidnfgodficaaGreatRmG
import Derived.Test.YtlkidnfgodficaaGreatRmE
import Derived.Test.YtlkidnfgodficaaGreatJoined21
import Derived.Test.YtlkidnfgodficaaGreatJoined09
import Derived.Test.YtlkidnfgodficaaGreatMsZ
namespace Go.Proofs.YtlkidnfgodficaaGreat
open Go.RowKit Go.Maps
set_option linter.unusedVariables false
set_option linter.unusedSimpArgs false

theorem mgS_sz (m : Ms) : (mgS m).size ≤ 140737488355328 := by
  unfold mgS
  cases h : msOk m
  · rw [if_neg (by simp)]; decide
  · rw [if_pos rfl]
    have hn := msOk_in h
    have h1 := msB_len m.nm
    have h2 := mesB_len m.es (fun x hx => (hn.en x hx).z)
    have h3 := hn.es
    have h4 := hn.da
    have h5 := ysB_len m.ys
    have h6 := (put_len m.es.length).2
    have h7 := (put_len m.da.size).2
    rw [nm_len] at h1
    have : (mgB m).length ≤ 2000000 := by
      unfold mgB
      rw [List.length_append, List.length_append, List.length_append, List.length_append, ptx_len]
      omega
    show (mgB m).toArray.size ≤ _
    rw [List.size_toArray]
    omega
set_option maxRecDepth 100000 in
set_option maxHeartbeats 8000000 in
theorem raftBack_walk0 (v : Value) (m : Ms) (t : ByteArray) (w : World) (hv : EntI w v m.es) (zl : m.es.length ≤ 4398046511104) (ht : t.size ≤ 140737488355328) :
    Calls Tryz.prog 4 #[msV v m, .string t] w fun e w' => e = .returned (.bool true) ∧ Below w.heap.size w w' := by
  obtain ⟨ad, cap, rfl, -⟩ := hv.form
  have HV := hid hv
  have LD := hid (mdV_len t)
  have AW := hid (fun W => awake10 W)
  have EN1 : Hid (∀ W, Below w.heap.size w W → Calls Tryz.prog 6 #[.agg #[.int .i64 m.kd, .int .i64 m.fr, .int .i64 m.to_, .int .i64 m.tm, .int .i64 m.ix, .int .i64 m.lt, .int .i64 m.cm, .int .i64 m.rd, .int .i64 m.at_, .bool m.ys, .slice ad m.es.length cap, .string m.da]] W fun e w' => e = .returned (.tuple #[.string (mgS m), .int .i64 (mgE m)]) ∧ Below W.heap.size W w') := fun W b => mencode_any _ m W (hv.next b) (by omega)
  have RF : Hid (∀ (v : Value) (m : Ms) W, EntI W v m.es → m.es.length ≤ 4398046511104 → Calls Tryz.prog 8 #[.agg #[.int .i64 m.kd, .int .i64 m.fr, .int .i64 m.to_, .int .i64 m.tm, .int .i64 m.ix, .int .i64 m.lt, .int .i64 m.cm, .int .i64 m.rd, .int .i64 m.at_, .bool m.ys, v, .string m.da]] W fun e w' => ∃ ad cap, e = .returned (.agg #[.int .i64 m.kd, .int .i64 m.fr, .int .i64 m.to_, .int .i64 m.tm, .int .i64 m.ix, .int .i64 m.lt, .int .i64 m.cm, .int .i64 m.rd, .int .i64 m.at_, .bool m.ys, .slice ad m.es.length cap, .string m.da]) ∧ EntI w' (.slice ad m.es.length cap) m.es ∧ Below W.heap.size W w') := fun v m W h1 h2 => (mref_any v m W h1 h2).mono fun e w' ⟨ad, cap, he, ho, hb⟩ => ⟨ad, cap, he, ho.ents, hb⟩
  have SM : Hid (∀ (v1 v2 : Value) (m : Ms) W, EntI W v1 m.es → EntI W v2 m.es → m.es.length ≤ 4398046511104 → Calls Tryz.prog 14 #[.agg #[.int .i64 m.kd, .int .i64 m.fr, .int .i64 m.to_, .int .i64 m.tm, .int .i64 m.ix, .int .i64 m.lt, .int .i64 m.cm, .int .i64 m.rd, .int .i64 m.at_, .bool m.ys, v1, .string m.da], .agg #[.int .i64 m.kd, .int .i64 m.fr, .int .i64 m.to_, .int .i64 m.tm, .int .i64 m.ix, .int .i64 m.lt, .int .i64 m.cm, .int .i64 m.rd, .int .i64 m.at_, .bool m.ys, v2, .string m.da]] W fun e w' => e = .returned (.bool true) ∧ Below W.heap.size W w') := fun v1 v2 m W h1 h2 h3 => qsame_true v1 v2 m W h1 h2 h3
  have DC2 := hid (fun W => mdecode_any t W ht)
  have H1 : Hid (msOk m = true → ∀ W, Calls Tryz.prog 9 #[.string (mgS m)] W fun e w' => ∃ ad cap, e = .returned (.tuple #[.agg #[.int .i64 m.kd, .int .i64 m.fr, .int .i64 m.to_, .int .i64 m.tm, .int .i64 m.ix, .int .i64 m.lt, .int .i64 m.cm, .int .i64 m.rd, .int .i64 m.at_, .bool m.ys, .slice ad m.es.length cap, .string m.da], .int .i64 0]) ∧ EntI w' (.slice ad m.es.length cap) m.es ∧ Below W.heap.size W w') := fun h W => by
    obtain ⟨h1, h2⟩ := mg_enc h
    have h3 := mdecode_any (mgS m) W (mgS_sz m)
    rw [h2, show mdE (mgS m) = 0 from by unfold mdE; rw [h1]; rfl] at h3
    exact h3.mono fun e w' ⟨ad, cap, he, ho, hb⟩ => ⟨ad, cap, he, ho.ents, hb⟩
  have EN2 : Hid (mdOk t = true → ∀ (v : Value) W, EntI W v (mdV t).es → Calls Tryz.prog 6 #[.agg #[.int .i64 (mdV t).kd, .int .i64 (mdV t).fr, .int .i64 (mdV t).to_, .int .i64 (mdV t).tm, .int .i64 (mdV t).ix, .int .i64 (mdV t).lt, .int .i64 (mdV t).cm, .int .i64 (mdV t).rd, .int .i64 (mdV t).at_, .bool (mdV t).ys, v, .string (mdV t).da]] W fun e w' => e = .returned (.tuple #[.string t, .int .i64 0]) ∧ Below W.heap.size W w') := fun h v W hi => by
    obtain ⟨h1, h2⟩ := md_one h
    have h3 := mencode_any v (mdV t) W hi (by have := LD.out; omega)
    rw [h2, show mgE (mdV t) = 0 from by unfold mgE; rw [h1]; rfl] at h3
    exact h3
  have HDE : Hid (mdE t = if mdOk t = true then 0 else 3) := rfl
  have HZL := hid zl
  have R0 : Hid (RowIs (w.alloc (.cells #[.int .i64 m.kd, .int .i64 m.fr, .int .i64 m.to_, .int .i64 m.tm, .int .i64 m.ix, .int .i64 m.lt, .int .i64 m.cm, .int .i64 m.rd, .int .i64 m.at_, .bool m.ys, .slice ad m.es.length cap, .string m.da] 24)) w.heap.size [.int .i64 m.kd, .int .i64 m.fr, .int .i64 m.to_, .int .i64 m.tm, .int .i64 m.ix, .int .i64 m.lt, .int .i64 m.cm, .int .i64 m.rd, .int .i64 m.at_, .bool m.ys, .slice ad m.es.length cap, .string m.da] 24) := srow w _ _
  have B0 : Hid (Below w.heap.size w (w.alloc (.cells #[.int .i64 m.kd, .int .i64 m.fr, .int .i64 m.to_, .int .i64 m.tm, .int .i64 m.ix, .int .i64 m.lt, .int .i64 m.cm, .int .i64 m.rd, .int .i64 m.at_, .bool m.ys, .slice ad m.es.length cap, .string m.da] 24))) := below_al (Below.refl _ _) _
  have y0 := R0.out.cellAt (o := 0) rfl
  have y1 := R0.out.cellAt (o := 1) rfl
  have y2 := R0.out.cellAt (o := 2) rfl
  have y3 := R0.out.cellAt (o := 3) rfl
  have y4 := R0.out.cellAt (o := 4) rfl
  have y5 := R0.out.cellAt (o := 5) rfl
  have y6 := R0.out.cellAt (o := 6) rfl
  have y7 := R0.out.cellAt (o := 7) rfl
  have y8 := R0.out.cellAt (o := 8) rfl
  have y9 := R0.out.cellAt (o := 9) rfl
  have y10 := R0.out.cellAt (o := 10) rfl
  have y11 := R0.out.cellAt (o := 11) rfl
  unfold msV at DC2 ⊢
  have HGE : Hid (mgE m = if msOk m = true then 0 else 1) := rfl
  clear hv zl ht
  generalize hD : mdV t = D at *
  clear hD
  generalize mdE t = DE at *
  generalize mgS m = G at *
  generalize mgE m = GE at *
  have ql := (by simp : (t.toList == t.toList) = true)
  go_enter Tryz.func4, Tryz.ntmps4
  go_wp2_with fail
  refine (EN1.out _ B0.out).mono ?_
  rintro e w1 ⟨rfl, b1⟩
  have B1 := hid (below_on B0.out b1)
  have R1 := hid (R0.out.keep (b1.keep (fun _ => False)) (fun h => h))
  clear EN1 b1 B0 R0 y0 y1 y2 y3 y4 y5 y6 y7 y8 y9 y10 y11
  cases hm : msOk m
  case false =>
    have hge : GE = 1 := by rw [HGE.out, hm]; rfl
    subst hge
    clear HGE hm
    go_wp2_with fail
    refine (DC2.out w1).mono ?_
    rintro e w8 ⟨ad2, cap2, rfl, o8, b8⟩
    have B8 : Hid (Below w.heap.size w (w8.alloc (.cells #[.int .i64 D.kd, .int .i64 D.fr, .int .i64 D.to_, .int .i64 D.tm, .int .i64 D.ix, .int .i64 D.lt, .int .i64 D.cm, .int .i64 D.rd, .int .i64 D.at_, .bool D.ys, .slice ad2 D.es.length cap2, .string D.da] 24))) := below_al (below_on B1.out b8) _
    have Y8 : Hid (RowIs (w8.alloc (.cells #[.int .i64 D.kd, .int .i64 D.fr, .int .i64 D.to_, .int .i64 D.tm, .int .i64 D.ix, .int .i64 D.lt, .int .i64 D.cm, .int .i64 D.rd, .int .i64 D.at_, .bool D.ys, .slice ad2 D.es.length cap2, .string D.da] 24)) w8.heap.size [.int .i64 D.kd, .int .i64 D.fr, .int .i64 D.to_, .int .i64 D.tm, .int .i64 D.ix, .int .i64 D.lt, .int .i64 D.cm, .int .i64 D.rd, .int .i64 D.at_, .bool D.ys, .slice ad2 D.es.length cap2, .string D.da] 24) := srow w8 _ _
    have J8 : Hid (EntI (w8.alloc (.cells #[.int .i64 D.kd, .int .i64 D.fr, .int .i64 D.to_, .int .i64 D.tm, .int .i64 D.ix, .int .i64 D.lt, .int .i64 D.cm, .int .i64 D.rd, .int .i64 D.at_, .bool D.ys, .slice ad2 D.es.length cap2, .string D.da] 24)) (.slice ad2 D.es.length cap2) D.es) := o8.ents.next (below_al (Below.refl _ _) _)
    clear DC2 b8 o8 B1
    have y0 := Y8.out.cellAt (o := 0) rfl
    have y1 := Y8.out.cellAt (o := 1) rfl
    have y2 := Y8.out.cellAt (o := 2) rfl
    have y3 := Y8.out.cellAt (o := 3) rfl
    have y4 := Y8.out.cellAt (o := 4) rfl
    have y5 := Y8.out.cellAt (o := 5) rfl
    have y6 := Y8.out.cellAt (o := 6) rfl
    have y7 := Y8.out.cellAt (o := 7) rfl
    have y8 := Y8.out.cellAt (o := 8) rfl
    have y9 := Y8.out.cellAt (o := 9) rfl
    have y10 := Y8.out.cellAt (o := 10) rfl
    have y11 := Y8.out.cellAt (o := 11) rfl
    cases hok : mdOk t
    case false =>
      have hde : DE = 3 := by rw [HDE.out, hok]; rfl
      subst hde
      clear HDE H1 EN2 RF SM R1 HV HZL LD
      go_wp2_with fail
      refine (AW.out _).mono ?_
      rintro e w9 ⟨rfl, b9⟩
      have B9 := hid (below_on B8.out b9)
      clear AW b9 B8 Y8 J8 hok
      go_wp2
      go_ret
      exact ⟨rfl, B9.out⟩
    case true =>
      have hde : DE = 0 := by rw [HDE.out, hok]; rfl
      subst hde
      have EN3 := hid (EN2.out hok _ _ J8.out)
      clear HDE H1 EN2 RF SM R1 HV HZL LD
      go_wp2_with fail
      refine EN3.out.mono ?_
      rintro e w9 ⟨rfl, b9⟩
      have B9 := hid (below_on B8.out b9)
      clear EN3 b9 B8 Y8 J8 hok y0 y1 y2 y3 y4 y5 y6 y7 y8 y9 y10 y11
      go_wp2_with fail
      refine (AW.out _).mono ?_
      rintro e w10 ⟨rfl, b10⟩
      have B10 := hid (below_on B9.out b10)
      clear AW b10 B9
      go_wp2
      go_ret
      exact ⟨rfl, B10.out⟩
  case true =>
    have hge : GE = 0 := by rw [HGE.out, hm]; rfl
    subst hge
    have H2 := hid (H1.out hm)
    clear HGE hm
    go_wp2_with fail
    refine (H2.out _).mono ?_
    rintro e w4 ⟨ad1, cap1, rfl, i4, b4⟩
    obtain ⟨g4, hg4⟩ : ∃ g, g = w4.heap.size := ⟨_, rfl⟩
    have bb4 := b4.trans ((below_al (Below.refl _ _) (.cells #[.int .i64 m.kd, .int .i64 m.fr, .int .i64 m.to_, .int .i64 m.tm, .int .i64 m.ix, .int .i64 m.lt, .int .i64 m.cm, .int .i64 m.rd, .int .i64 m.at_, .bool m.ys, .slice ad1 m.es.length cap1, .string m.da] 24)).mono b4.size)
    have B4 : Hid (Below w.heap.size w (w4.alloc (.cells #[.int .i64 m.kd, .int .i64 m.fr, .int .i64 m.to_, .int .i64 m.tm, .int .i64 m.ix, .int .i64 m.lt, .int .i64 m.cm, .int .i64 m.rd, .int .i64 m.at_, .bool m.ys, .slice ad1 m.es.length cap1, .string m.da] 24)).drew) := (below_on B1.out bb4).drew
    have r4 := R1.out.keep (bb4.keep (fun _ => False)) (fun h => h)
    have R4 : Hid (RowIs (w4.alloc (.cells #[.int .i64 m.kd, .int .i64 m.fr, .int .i64 m.to_, .int .i64 m.tm, .int .i64 m.ix, .int .i64 m.lt, .int .i64 m.cm, .int .i64 m.rd, .int .i64 m.at_, .bool m.ys, .slice ad1 m.es.length cap1, .string m.da] 24)).drew w.heap.size [.int .i64 m.kd, .int .i64 m.fr, .int .i64 m.to_, .int .i64 m.tm, .int .i64 m.ix, .int .i64 m.lt, .int .i64 m.cm, .int .i64 m.rd, .int .i64 m.at_, .bool m.ys, .slice ad m.es.length cap, .string m.da] 24) := r4
    have X4 : Hid (RowIs (w4.alloc (.cells #[.int .i64 m.kd, .int .i64 m.fr, .int .i64 m.to_, .int .i64 m.tm, .int .i64 m.ix, .int .i64 m.lt, .int .i64 m.cm, .int .i64 m.rd, .int .i64 m.at_, .bool m.ys, .slice ad1 m.es.length cap1, .string m.da] 24)).drew g4 [.int .i64 m.kd, .int .i64 m.fr, .int .i64 m.to_, .int .i64 m.tm, .int .i64 m.ix, .int .i64 m.lt, .int .i64 m.cm, .int .i64 m.rd, .int .i64 m.at_, .bool m.ys, .slice ad1 m.es.length cap1, .string m.da] 24) := by subst hg4; exact srow w4 _ _
    have I4 : Hid (EntI (w4.alloc (.cells #[.int .i64 m.kd, .int .i64 m.fr, .int .i64 m.to_, .int .i64 m.tm, .int .i64 m.ix, .int .i64 m.lt, .int .i64 m.cm, .int .i64 m.rd, .int .i64 m.at_, .bool m.ys, .slice ad1 m.es.length cap1, .string m.da] 24)).drew (.slice ad1 m.es.length cap1) m.es) := i4.next (below_al (Below.refl _ _) _).drew
    have HG4 := hid hg4
    clear H2 b4 bb4 i4 B1 R1 r4 hg4
    have CS : Hid (∀ W, RowIs W w.heap.size [.int .i64 m.kd, .int .i64 m.fr, .int .i64 m.to_, .int .i64 m.tm, .int .i64 m.ix, .int .i64 m.lt, .int .i64 m.cm, .int .i64 m.rd, .int .i64 m.at_, .bool m.ys, .slice ad m.es.length cap, .string m.da] 24 → RowIs W g4 [.int .i64 m.kd, .int .i64 m.fr, .int .i64 m.to_, .int .i64 m.tm, .int .i64 m.ix, .int .i64 m.lt, .int .i64 m.cm, .int .i64 m.rd, .int .i64 m.at_, .bool m.ys, .slice ad1 m.es.length cap1, .string m.da] 24 → (W.cell? ⟨w.heap.size, 0, none⟩ = some (.int .i64 m.kd) ∧ W.cell? ⟨w.heap.size, 1, none⟩ = some (.int .i64 m.fr) ∧ W.cell? ⟨w.heap.size, 2, none⟩ = some (.int .i64 m.to_) ∧ W.cell? ⟨w.heap.size, 3, none⟩ = some (.int .i64 m.tm) ∧ W.cell? ⟨w.heap.size, 4, none⟩ = some (.int .i64 m.ix) ∧ W.cell? ⟨w.heap.size, 5, none⟩ = some (.int .i64 m.lt) ∧ W.cell? ⟨w.heap.size, 6, none⟩ = some (.int .i64 m.cm) ∧ W.cell? ⟨w.heap.size, 7, none⟩ = some (.int .i64 m.rd) ∧ W.cell? ⟨w.heap.size, 8, none⟩ = some (.int .i64 m.at_) ∧ W.cell? ⟨w.heap.size, 9, none⟩ = some (.bool m.ys) ∧ W.cell? ⟨w.heap.size, 10, none⟩ = some (.slice ad m.es.length cap) ∧ W.cell? ⟨w.heap.size, 11, none⟩ = some (.string m.da)) ∧ (W.cell? ⟨g4, 0, none⟩ = some (.int .i64 m.kd) ∧ W.cell? ⟨g4, 1, none⟩ = some (.int .i64 m.fr) ∧ W.cell? ⟨g4, 2, none⟩ = some (.int .i64 m.to_) ∧ W.cell? ⟨g4, 3, none⟩ = some (.int .i64 m.tm) ∧ W.cell? ⟨g4, 4, none⟩ = some (.int .i64 m.ix) ∧ W.cell? ⟨g4, 5, none⟩ = some (.int .i64 m.lt) ∧ W.cell? ⟨g4, 6, none⟩ = some (.int .i64 m.cm) ∧ W.cell? ⟨g4, 7, none⟩ = some (.int .i64 m.rd) ∧ W.cell? ⟨g4, 8, none⟩ = some (.int .i64 m.at_) ∧ W.cell? ⟨g4, 9, none⟩ = some (.bool m.ys) ∧ W.cell? ⟨g4, 10, none⟩ = some (.slice ad1 m.es.length cap1) ∧ W.cell? ⟨g4, 11, none⟩ = some (.string m.da))) := fun W h1 h2 => ⟨⟨h1.cellAt rfl, h1.cellAt rfl, h1.cellAt rfl, h1.cellAt rfl, h1.cellAt rfl, h1.cellAt rfl, h1.cellAt rfl, h1.cellAt rfl, h1.cellAt rfl, h1.cellAt rfl, h1.cellAt rfl, h1.cellAt rfl⟩, ⟨h2.cellAt rfl, h2.cellAt rfl, h2.cellAt rfl, h2.cellAt rfl, h2.cellAt rfl, h2.cellAt rfl, h2.cellAt rfl, h2.cellAt rfl, h2.cellAt rfl, h2.cellAt rfl, h2.cellAt rfl, h2.cellAt rfl⟩⟩
    have Z0 := CS.out _ R4.out X4.out
    go_wp2
    rw [← HG4.out]
    clear HG4
    refine wp_region_held_drew (S := fun W => (W.cell? ⟨w.heap.size, 0, none⟩ = some (.int .i64 m.kd) ∧ W.cell? ⟨w.heap.size, 1, none⟩ = some (.int .i64 m.fr) ∧ W.cell? ⟨w.heap.size, 2, none⟩ = some (.int .i64 m.to_) ∧ W.cell? ⟨w.heap.size, 3, none⟩ = some (.int .i64 m.tm) ∧ W.cell? ⟨w.heap.size, 4, none⟩ = some (.int .i64 m.ix) ∧ W.cell? ⟨w.heap.size, 5, none⟩ = some (.int .i64 m.lt) ∧ W.cell? ⟨w.heap.size, 6, none⟩ = some (.int .i64 m.cm) ∧ W.cell? ⟨w.heap.size, 7, none⟩ = some (.int .i64 m.rd) ∧ W.cell? ⟨w.heap.size, 8, none⟩ = some (.int .i64 m.at_) ∧ W.cell? ⟨w.heap.size, 9, none⟩ = some (.bool m.ys) ∧ W.cell? ⟨w.heap.size, 10, none⟩ = some (.slice ad m.es.length cap) ∧ W.cell? ⟨w.heap.size, 11, none⟩ = some (.string m.da)) ∧ (W.cell? ⟨g4, 0, none⟩ = some (.int .i64 m.kd) ∧ W.cell? ⟨g4, 1, none⟩ = some (.int .i64 m.fr) ∧ W.cell? ⟨g4, 2, none⟩ = some (.int .i64 m.to_) ∧ W.cell? ⟨g4, 3, none⟩ = some (.int .i64 m.tm) ∧ W.cell? ⟨g4, 4, none⟩ = some (.int .i64 m.ix) ∧ W.cell? ⟨g4, 5, none⟩ = some (.int .i64 m.lt) ∧ W.cell? ⟨g4, 6, none⟩ = some (.int .i64 m.cm) ∧ W.cell? ⟨g4, 7, none⟩ = some (.int .i64 m.rd) ∧ W.cell? ⟨g4, 8, none⟩ = some (.int .i64 m.at_) ∧ W.cell? ⟨g4, 9, none⟩ = some (.bool m.ys) ∧ W.cell? ⟨g4, 10, none⟩ = some (.slice ad1 m.es.length cap1) ∧ W.cell? ⟨g4, 11, none⟩ = some (.string m.da))) (by kernel_rfl) Z0 (fun hHeld => ?_)
    generalize (w4.alloc (.cells #[.int .i64 m.kd, .int .i64 m.fr, .int .i64 m.to_, .int .i64 m.tm, .int .i64 m.ix, .int .i64 m.lt, .int .i64 m.cm, .int .i64 m.rd, .int .i64 m.at_, .bool m.ys, .slice ad1 m.es.length cap1, .string m.da] 24)).drew = V0 at *
    refine wpAnyH_take (i := 0) (v := ?vv26) rfl (by kernel_rfl) (by kernel_rfl) (by kernel_rfl) (fun _ _ _ h => h) (Or.inl ⟨by rfl, ?hy26⟩) (by assumption) ?rest26
    case hy26 => (intro w hSw; (try dsimp only at hSw); go_simp; first | done | with_reducible rfl)
    try simp only [Act.put, List.getElem_toArray, List.getElem_cons_succ, List.getElem_cons_zero, List.setIfInBounds_toArray, List.set_cons_zero, List.set_cons_succ]
    refine wpAnyH_take (i := 1) (v := ?vv27) rfl (by kernel_rfl) (by kernel_rfl) (by kernel_rfl) (fun _ _ _ h => h) (Or.inl ⟨by rfl, ?hy27⟩) (by assumption) ?rest27
    case hy27 => (intro w hSw; (try dsimp only at hSw); go_simp; first | done | with_reducible rfl)
    try simp only [Act.put, List.getElem_toArray, List.getElem_cons_succ, List.getElem_cons_zero, List.setIfInBounds_toArray, List.set_cons_zero, List.set_cons_succ]
    refine wpAnyH_take (i := 2) (v := ?vv28) rfl (by kernel_rfl) (by kernel_rfl) (by kernel_rfl) (fun _ _ _ h => h) (Or.inl ⟨by rfl, ?hy28⟩) (by assumption) ?rest28
    case hy28 => (intro w hSw; (try dsimp only at hSw); go_simp; first | done | with_reducible rfl)
    try simp only [Act.put, List.getElem_toArray, List.getElem_cons_succ, List.getElem_cons_zero, List.setIfInBounds_toArray, List.set_cons_zero, List.set_cons_succ]
    refine wpAnyH_take (i := 3) (v := ?vv29) rfl (by kernel_rfl) (by kernel_rfl) (by kernel_rfl) (fun _ _ _ h => h) (Or.inl ⟨by rfl, ?hy29⟩) (by assumption) ?rest29
    case hy29 => (intro w hSw; (try dsimp only at hSw); go_simp; first | done | with_reducible rfl)
    try simp only [Act.put, List.getElem_toArray, List.getElem_cons_succ, List.getElem_cons_zero, List.setIfInBounds_toArray, List.set_cons_zero, List.set_cons_succ]
    refine wpAnyH_take (i := 5) (v := ?vv30) rfl (by kernel_rfl) (by kernel_rfl) (by kernel_rfl) (fun _ _ _ h => h) (Or.inl ⟨by rfl, ?hy30⟩) (by assumption) ?rest30
    case hy30 => (intro w hSw; (try dsimp only at hSw); go_simp; first | done | with_reducible rfl)
    try simp only [Act.put, List.getElem_toArray, List.getElem_cons_succ, List.getElem_cons_zero, List.setIfInBounds_toArray, List.set_cons_zero, List.set_cons_succ]
    refine wpAnyH_ready (rs := [4]) (by kernel_rfl) (by simp) ?_
    refine AllReadyH.cons rfl (fun K hK => ?_) AllReadyH.nil
    go_simp
    refine (RF.out _ m _ I4.out HZL.out).mono ?_
    rintro e u5 ⟨ad6, cap6, rfl, i5, bq⟩
    have B5 := hid (below_on B4.out bq)
    have R5 := hid (R4.out.keep (bq.keep (fun _ => False)) (fun h => h))
    have X5 := hid (X4.out.keep (bq.keep (fun _ => False)) (fun h => h))
    have I5 := hid (I4.out.next bq)
    have K5 := hid i5
    clear i5
    clear bq hHeld B4 R4 X4 I4
    go_wp2_with fail
    refine hK.out _ _ (CS.out _ R5.out X5.out) (fun hHeld => ?_)
    clear hK K
    try simp only [Act.put, List.getElem_toArray, List.getElem_cons_succ, List.getElem_cons_zero, List.setIfInBounds_toArray, List.set_cons_zero, List.set_cons_succ]
    refine wpAnyH_ready (rs := [6]) (by kernel_rfl) (by simp) ?_
    refine AllReadyH.cons rfl (fun K hK => ?_) AllReadyH.nil
    go_simp
    refine (RF.out _ m _ (HV.out.next B5.out) HZL.out).mono ?_
    rintro e u6 ⟨ad7, cap7, rfl, i6, bq⟩
    have B6 := hid (below_on B5.out bq)
    have R6 := hid (R5.out.keep (bq.keep (fun _ => False)) (fun h => h))
    have X6 := hid (X5.out.keep (bq.keep (fun _ => False)) (fun h => h))
    have I6 := hid (I5.out.next bq)
    have SM3 := hid (SM.out _ _ m _ (K5.out.next bq) i6 HZL.out)
    clear i6 K5
    clear bq hHeld B5 R5 X5 I5
    go_wp2_with fail
    refine hK.out _ _ (CS.out _ R6.out X6.out) (fun hHeld => ?_)
    clear hK K
    try simp only [Act.put, List.getElem_toArray, List.getElem_cons_succ, List.getElem_cons_zero, List.setIfInBounds_toArray, List.set_cons_zero, List.set_cons_succ]
    refine wpAnyH_ready (rs := [7]) (by kernel_rfl) (by simp) ?_
    refine AllReadyH.cons rfl (fun K hK => ?_) AllReadyH.nil
    go_simp
    refine SM3.out.mono ?_
    rintro e u7 ⟨rfl, bq⟩
    have B7 := hid (below_on B6.out bq)
    have R7 := hid (R6.out.keep (bq.keep (fun _ => False)) (fun h => h))
    have X7 := hid (X6.out.keep (bq.keep (fun _ => False)) (fun h => h))
    have I7 := hid (I6.out.next bq)
    clear bq hHeld B6 R6 X6 I6
    go_wp2_with fail
    refine hK.out _ _ (CS.out _ R7.out X7.out) (fun hHeld => ?_)
    clear hK K
    try simp only [Act.put, List.getElem_toArray, List.getElem_cons_succ, List.getElem_cons_zero, List.setIfInBounds_toArray, List.set_cons_zero, List.set_cons_succ]
    refine wpAnyH_take (i := 8) (v := ?vv31) rfl (by kernel_rfl) (by kernel_rfl) (by kernel_rfl) (fun _ _ _ h => h) (Or.inl ⟨by rfl, ?hy31⟩) (by assumption) ?rest31
    case hy31 => (intro w hSw; (try dsimp only at hSw); go_simp; first | done | with_reducible rfl)
    try simp only [Act.put, List.getElem_toArray, List.getElem_cons_succ, List.getElem_cons_zero, List.setIfInBounds_toArray, List.set_cons_zero, List.set_cons_succ]
    refine wpAnyH_take (i := 9) (v := ?vv32) rfl (by kernel_rfl) (by kernel_rfl) (by kernel_rfl) (fun _ _ _ h => h) (Or.inl ⟨by rfl, ?hy32⟩) (by assumption) ?rest32
    case hy32 => (intro w hSw; (try dsimp only at hSw); go_simp; first | done | with_reducible rfl)
    try simp only [Act.put, List.getElem_toArray, List.getElem_cons_succ, List.getElem_cons_zero, List.setIfInBounds_toArray, List.set_cons_zero, List.set_cons_succ]
    refine wpAnyH_done (by kernel_rfl) ?_ _
    have BF := B7
    clear B7 R7 X7 I7 SM3
    clear hHeld CS RF SM
    have BG := BF
    clear BF
    go_wp2_with fail
    refine (DC2.out _).mono ?_
    rintro e w8 ⟨ad2, cap2, rfl, o8, b8⟩
    have B8 : Hid (Below w.heap.size w (w8.alloc (.cells #[.int .i64 D.kd, .int .i64 D.fr, .int .i64 D.to_, .int .i64 D.tm, .int .i64 D.ix, .int .i64 D.lt, .int .i64 D.cm, .int .i64 D.rd, .int .i64 D.at_, .bool D.ys, .slice ad2 D.es.length cap2, .string D.da] 24))) := below_al (below_on BG.out b8) _
    have Y8 : Hid (RowIs (w8.alloc (.cells #[.int .i64 D.kd, .int .i64 D.fr, .int .i64 D.to_, .int .i64 D.tm, .int .i64 D.ix, .int .i64 D.lt, .int .i64 D.cm, .int .i64 D.rd, .int .i64 D.at_, .bool D.ys, .slice ad2 D.es.length cap2, .string D.da] 24)) w8.heap.size [.int .i64 D.kd, .int .i64 D.fr, .int .i64 D.to_, .int .i64 D.tm, .int .i64 D.ix, .int .i64 D.lt, .int .i64 D.cm, .int .i64 D.rd, .int .i64 D.at_, .bool D.ys, .slice ad2 D.es.length cap2, .string D.da] 24) := srow w8 _ _
    have J8 : Hid (EntI (w8.alloc (.cells #[.int .i64 D.kd, .int .i64 D.fr, .int .i64 D.to_, .int .i64 D.tm, .int .i64 D.ix, .int .i64 D.lt, .int .i64 D.cm, .int .i64 D.rd, .int .i64 D.at_, .bool D.ys, .slice ad2 D.es.length cap2, .string D.da] 24)) (.slice ad2 D.es.length cap2) D.es) := o8.ents.next (below_al (Below.refl _ _) _)
    clear DC2 b8 o8 BG
    have y0 := Y8.out.cellAt (o := 0) rfl
    have y1 := Y8.out.cellAt (o := 1) rfl
    have y2 := Y8.out.cellAt (o := 2) rfl
    have y3 := Y8.out.cellAt (o := 3) rfl
    have y4 := Y8.out.cellAt (o := 4) rfl
    have y5 := Y8.out.cellAt (o := 5) rfl
    have y6 := Y8.out.cellAt (o := 6) rfl
    have y7 := Y8.out.cellAt (o := 7) rfl
    have y8 := Y8.out.cellAt (o := 8) rfl
    have y9 := Y8.out.cellAt (o := 9) rfl
    have y10 := Y8.out.cellAt (o := 10) rfl
    have y11 := Y8.out.cellAt (o := 11) rfl
    cases hok : mdOk t
    case false =>
      have hde : DE = 3 := by rw [HDE.out, hok]; rfl
      subst hde
      clear HDE H1 EN2 HV HZL LD
      go_wp2_with fail
      refine (AW.out _).mono ?_
      rintro e w9 ⟨rfl, b9⟩
      have B9 := hid (below_on B8.out b9)
      clear AW b9 B8 Y8 J8 hok
      go_wp2
      go_ret
      exact ⟨rfl, B9.out⟩
    case true =>
      have hde : DE = 0 := by rw [HDE.out, hok]; rfl
      subst hde
      have EN3 := hid (EN2.out hok _ _ J8.out)
      clear HDE H1 EN2 HV HZL LD
      go_wp2_with fail
      refine EN3.out.mono ?_
      rintro e w9 ⟨rfl, b9⟩
      have B9 := hid (below_on B8.out b9)
      clear EN3 b9 B8 Y8 J8 hok y0 y1 y2 y3 y4 y5 y6 y7 y8 y9 y10 y11
      go_wp2_with fail
      refine (AW.out _).mono ?_
      rintro e w10 ⟨rfl, b10⟩
      have B10 := hid (below_on B9.out b10)
      clear AW b10 B9
      go_wp2
      go_ret
      exact ⟨rfl, B10.out⟩
theorem raftBack_walk (v : Value) (m : Ms) (t : ByteArray) (w : World) (hv : EntI w v m.es) (hz : ibulk.SzGb m) (ht : t.size ≤ reachBytes) :
    Calls Tryz.prog 4 #[msV v m, .string t] w fun e w' => e = .returned (.bool true) ∧ Below w.heap.size w w' :=
  raftBack_walk0 v m t w hv hz.el (Nat.le_trans ht (by decide))
end Go.Proofs.YtlkidnfgodficaaGreat
