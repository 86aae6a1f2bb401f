/- Joined: The reference's Do: Cut. The reference's Do. The reference's disk, and its files. The reference's Used. The reference's Read. The reference's Sync. What becomes of a disk in the law DiskPlays; nothing of the program stands here. The walks of slices' and maps' copies. 'append' on rows of whatever elements, from whatever rows. The reference's Wrong. -/
import Derived.Test.YtnlodlpjokkepabJoined07
import Derived.Test.YtnlodlpjokkepabJoined01
import Derived.Laws.ResultCell
namespace Go.Proofs.Ytnlodlpjokkepab
open Go.RowKit Go.Maps
set_option linter.unusedVariables false
set_option linter.unusedSimpArgs false

set_option maxRecDepth 100000 in
set_option maxHeartbeats 2000000 in
theorem do_4 (A : List (Bs × Bs)) (v : Value) (name to s old : Bs) (L : Nat) (w : World) (hr : FileRow w 0 v A) (hl : A.length ≤ 7036874417) (hs : Srt A) (hold : kget A name = some old) (hL : L ≤ old.length) (hB : old.length ≤ 70368744177) :
    Calls Try.prog 60 #[v, .agg #[.int .i64 4, .string (tx name), .string (tx to), .string (tx s), .int .i64 (L : Int)]] w fun e w' => ∃ v', e = .returned v' ∧ FileRow w' w.heap.size v' (kput A name (old.take L)) ∧ Keep (fun _ => False) w w' := by
  have FI := hid (find_at name hr (by omega) hs)
  have HR := hid hr
  have HS := hid hs
  clear hr hs
  go_enter Try.func60, Try.ntmps60
  go_wp2_with fail
  have hk0 := keep_alloc (fun _ => False) w (.cells #[.int .i64 4, .string (tx name), .string (tx to), .string (tx s), .int .i64 (L : Int)] 77)
  have hr0 : RowIs (w.alloc (.cells #[.int .i64 4, .string (tx name), .string (tx to), .string (tx s), .int .i64 (L : Int)] 77)) w.heap.size [.int .i64 4, .string (tx name), .string (tx to), .string (tx s), .int .i64 (L : Int)] 77 := heap_alloc_new _ _
  generalize w.alloc (.cells #[.int .i64 4, .string (tx name), .string (tx to), .string (tx s), .int .i64 (L : Int)] 77) = w0 at *
  refine (FI.out w0 hk0).mono ?_
  rintro e w1 ⟨hk1, hk01, hor⟩
  have hr1 := hr0.keep hk01 (fun h => h)
  have b0 := hr1.cellAt (o := 0) rfl
  have b1 := hr1.cellAt (o := 1) rfl
  have b2 := hr1.cellAt (o := 2) rfl
  have b4 := hr1.cellAt (o := 4) rfl
  have HKa : Hid (Keep (fun _ => False) w1 w1) := Keep.refl _ _
  have HKb : Hid (Keep (fun _ => False) w1 w1.drew) := keep_drew _ _
  have W2 : Hid (∀ W, Keep (fun _ => False) w1 W → Calls Try.prog 72 #[v, .agg #[.string (tx name), .string ((tx old).extract 0 L)]] W fun e w3 => ∃ v3, e = .returned v3 ∧ (w3.cell? ⟨w.heap.size, 1, none⟩ = some (.string (tx name)) ∧ w3.cell? ⟨w.heap.size, 4, none⟩ = some (.int .i64 (L : Int))) ∧ FileRow w3 w.heap.size v3 (kput A name (old.take L)) ∧ Keep (fun _ => False) w w3) := by
    intro W hW
    have hkW := hk1.trans hW
    have e : (tx old).extract 0 L = tx (old.take L) := extract_mk old L
    rw [e]
    refine (with_any A v name (old.take L) W (hkW.ownsRow HR.out (fun _ _ h => h)) hl HS.out).mono fun e w3 ⟨v3, he3, hr3, hk3⟩ => ⟨v3, he3, ?_, ownsRow_base hr3 hkW.size, hkW.trans hk3⟩
    have h := hr1.keep (hW.trans hk3) (fun h => h)
    exact ⟨h.cellAt rfl, h.cellAt rfl⟩
  have hL0 : (0 : Int) ≤ (L : Int) := by omega
  have hL1 : (L : Int) ≤ (((tx old).size : Nat) : Int) := by rw [size_mk]; omega
  have hL2 : L ≤ (tx old).size := by rw [size_mk]; omega
  clear FI hk0 hr0 hk01 hr1 hk1 HR HS b2
  rcases hor with ⟨k, rfl, hg⟩ | ⟨k, g, cap, t, rfl, hg, rfl, hk0, hk1, q1⟩
  · rw [hold] at hg; cases hg
  · have ht : t = old := by rw [hold] at hg; injection hg with hg; exact hg.symm
    subst ht
    clear hg hold
    generalize tx s = S at *
    generalize tx name = N at *
    generalize tx to = T at *
    generalize tx t = O at *
    go_wp2
    go_region_held3 (fun w' => w'.cell? ⟨w.heap.size, 1, none⟩ = some (.string N) ∧ w'.cell? ⟨w.heap.size, 4, none⟩ = some (.int .i64 (L : Int))) (first | with_reducible assumption | (refine ⟨?_, ?_⟩ <;> with_reducible assumption) | go_keep) ((go_at_call 72; with_reducible (refine (W2.out _ ?_).mono ?_); (first | exact HKa.out | exact HKb.out); rintro e w3 ⟨v3, rfl, hc3, hF3⟩))
    all_goals
      have H := hid hF3
      go_wp2
      go_ret
      exact ⟨_, rfl, H.out⟩
end Go.Proofs.Ytnlodlpjokkepab
namespace Go.Proofs.Ytnlodlpjokkepab
open Go.RowKit Go.Maps
set_option linter.unusedVariables false
set_option linter.unusedSimpArgs false

theorem put_del {A : List (Bs × Bs)} (hs : Srt A) {n t b : Bs} (h : t ≠ n) : kput (kdel A n) t b = kdel (kput A t b) n := by
  refine srt_ext (srt_kput (srt_kdel hs _) _ _) (srt_kdel (srt_kput hs _ _) _) fun m => ?_
  by_cases h1 : m = t
  · subst h1
    rw [kget_put_same, kget_del_other _ (Ne.symm h), kget_put_same]
  · rw [kget_put_other _ _ (Ne.symm h1)]
    by_cases h2 : m = n
    · subst h2; rw [kget_del_same, kget_del_same]
    · rw [kget_del_other _ (Ne.symm h2), kget_del_other _ (Ne.symm h2), kget_put_other _ _ (Ne.symm h1)]
/-- a change of the reference's, with all that it was handed -/
structure RC where
  kind : Nat
  name : Bs
  to : Bs
  s : Bs
  long : Int
/-- .. and what of it is read -/
def RC.ch (r : RC) : Chg :=
  if r.kind = 0 then ⟨0, r.name, [], r.s, 0⟩ else if r.kind = 1 then ⟨1, r.name, [], r.s, 0⟩ else if r.kind = 2 then ⟨2, r.name, r.to, [], 0⟩ else if r.kind = 3 then ⟨3, r.name, [], [], 0⟩ else ⟨r.kind, r.name, [], [], r.long.toNat⟩
theorem RC.ch_kind (r : RC) : r.ch.kind = r.kind := by
  unfold RC.ch
  split <;> (try simp_all)
  split <;> (try simp_all)
  split <;> (try simp_all)
  split <;> (try simp_all)
theorem RC.ch_name (r : RC) : r.ch.name = r.name := by
  unfold RC.ch
  split <;> (try rfl)
  split <;> (try rfl)
  split <;> (try rfl)
  split <;> rfl
/-- a change's value, in the reference -/
def rcV (r : RC) : Value := .agg #[.int .i64 (r.kind : Int), .string (tx r.name), .string (tx r.to), .string (tx r.s), .int .i64 r.long]
theorem do_any (A : List (Bs × Bs)) (v : Value) (r : RC) (w : World) (hr : FileRow w 0 v A) (hl : A.length ≤ 7036874417) (hs : Srt A) (hb : tot A + r.ch.s.length ≤ 70368744177) (hc : ChOk A r.ch) (hp : r.ch.kind = 2 ∨ r.ch.kind = 4 → (kget A r.ch.name).isSome = true) (hq : r.kind = 4 → 0 ≤ r.long) :
    Calls Try.prog 60 #[v, rcV r] w fun e w' => ∃ v', e = .returned v' ∧ FileRow w' w.heap.size v' (doC A r.ch) ∧ Keep (fun _ => False) w w' := by
  obtain ⟨kind, name, to, s, long⟩ := r
  have hk := hc.kind
  have hmv := hc.move
  have hcut := hc.cut
  rw [RC.ch_kind] at hk
  simp only at hk hq
  unfold rcV doC
  simp only
  have h5 : kind = 0 ∨ kind = 1 ∨ kind = 2 ∨ kind = 3 ∨ kind = 4 := by omega
  rcases h5 with rfl | rfl | rfl | rfl | rfl
  · exact do_0 A v name to s long w hr hl hs hb
  · exact do_1 A v name to s long w hr hl hs
  · obtain ⟨old, ho⟩ := Option.isSome_iff_exists.1 (hp (.inl rfl))
    have ho' : kget A name = some old := ho
    have := do_2 A v name to s old long w hr hl hs ho'
    have hne : to ≠ name := hmv rfl
    rw [put_del hs hne] at this
    have e9 : (kget A name).getD [] = old := by rw [ho']; rfl
    rw [← e9] at this
    exact this
  · exact do_3 A v name to s long w hr hl hs
  · obtain ⟨old, ho⟩ := Option.isSome_iff_exists.1 (hp (.inr rfl))
    have ho' : kget A name = some old := ho
    have h1 : long.toNat ≤ ((kget A name).getD []).length := hcut rfl
    rw [ho'] at h1
    have h2 := tot_get ho'
    have := do_4 A v name to s old long.toNat w hr hl hs ho' h1 (by omega)
    rw [Int.toNat_of_nonneg (hq rfl)] at this
    have e9 : (kget A name).getD [] = old := by rw [ho']; rfl
    rw [← e9] at this
    exact this
end Go.Proofs.Ytnlodlpjokkepab
namespace Go.Proofs.Ytnlodlpjokkepab
open Go.RowKit Go.Maps
set_option linter.unusedVariables false
set_option linter.unusedSimpArgs false

/-- changes' cells, in the reference -/
def rcC (r : RC) : List Value := [.int .i64 (r.kind : Int), .string (tx r.name), .string (tx r.to), .string (tx r.s), .int .i64 r.long]
def rcs (ms : List RC) : List Value := ms.flatMap rcC
theorem rcs_len (ms : List RC) : (rcs ms).length = ms.length * 5 := by
  induction ms with
  | nil => rfl
  | cons x r ih => simp [rcs, rcC] at ih ⊢; omega
theorem rcs_get : ∀ (ms : List RC) (i : Nat) (h : i < ms.length) (j : Nat), j < 5 → (rcs ms)[5 * i + j]? = (rcC ms[i])[j]?
  | x :: r, 0, _, j, hj => by
    show (rcC x ++ rcs r)[5 * 0 + j]? = _
    rw [List.getElem?_append_left (by simp [rcC]; omega)]
    simp
  | x :: r, i + 1, h, j, hj => by
    show (rcC x ++ rcs r)[5 * (i + 1) + j]? = _
    rw [List.getElem?_append_right (by simp [rcC]; omega), show 5 * (i + 1) + j - (rcC x).length = 5 * i + j by simp [rcC]; omega]
    exact rcs_get r i (by simpa using h) j hj
/-- a disk's value, in the reference -/
def rdV (su wa : Value) (n : Nat) (dn : Bool) (fa : Value) (rm : Int) : Value := .agg #[su, wa, .int .i64 (n : Int), .bool dn, fa, .int .i64 rm]
/-- a disk of the reference lies there -/
structure RefIs (w : World) (su wa fa : Value) (ms : List RC) (d : Ds) : Prop where
  sure : FileRow w 0 su d.S
  wait : w.ownsRow 0 77 5 wa ms.length (rcs ms)
  falls : w.ownsRow 0 81 3 fa d.fl.length (fls d.fl)
  eqw : ms.map RC.ch = d.ws
  pos : ∀ r ∈ ms, r.kind = 4 → 0 ≤ r.long
theorem RefIs.keep {w w' : World} {su wa fa : Value} {ms : List RC} {d : Ds} (h : RefIs w su wa fa ms d) (k : Keep (fun _ => False) w w') : RefIs w' su wa fa ms d :=
  ⟨k.ownsRow h.sure (fun _ _ h => h), k.ownsRow h.wait (fun _ _ h => h), k.ownsRow h.falls (fun _ _ h => h), h.eqw, h.pos⟩
theorem RefIs.len {w : World} {su wa fa : Value} {ms : List RC} {d : Ds} (h : RefIs w su wa fa ms d) : ms.length = d.ws.length := by rw [← h.eqw, List.length_map]
theorem RefIs.fa {w : World} {su wa fa : Value} {ms : List RC} {d : Ds} (h : RefIs w su wa fa ms d) : ∃ a b c, fa = .slice a b c := by obtain ⟨a, c, e⟩ := row_form h.falls; exact ⟨a, _, c, e⟩
/-- a value lies where another lay, or is new -/
def LocV (su : Value) (w : World) (v : Value) : Prop := ∀ g, v.ownBlock = some g → su.ownBlock = some g ∨ w.heap.size ≤ g
/-- what may be asked of a disk's changes -/
structure NowOk (d : Ds) : Prop where
  srt : Srt d.S
  oks : ∀ i (h : i < d.ws.length), ChOk (replay (d.ws.take i) d.S) d.ws[i]
  there : ∀ i (h : i < d.ws.length), d.ws[i].kind = 2 ∨ d.ws[i].kind = 4 → (kget (replay (d.ws.take i) d.S) d.ws[i].name).isSome = true
  wt : d.wt + d.S.length + d.ws.length ≤ 7036874417
theorem NowOk.bounds {d : Ds} (h : NowOk d) (k : Nat) (hk : k ≤ d.ws.length) : Srt (replay (d.ws.take k) d.S) ∧ (replay (d.ws.take k) d.S).length ≤ 7036874417 ∧ ∀ (hk2 : k < d.ws.length), tot (replay (d.ws.take k) d.S) + d.ws[k].s.length ≤ 70368744177 := by
  have hb := replay_bounds (d.ws.take k) d.S h.srt (fun ch hc => by
    obtain ⟨i, hi, rfl⟩ := List.getElem_of_mem (List.mem_of_mem_take hc)
    exact (h.oks i hi).move)
  have hw := h.wt
  unfold Ds.wt at hw
  have ht := take_sum d.ws k
  have hl : (d.ws.take k).length ≤ d.ws.length := by rw [List.length_take]; omega
  refine ⟨hb.1, by omega, fun hk2 => ?_⟩
  have h2 := take_sum d.ws (k + 1)
  rw [List.take_succ_eq_append_getElem hk2, List.map_append, List.sum_append] at h2
  simp at h2
  omega
theorem chg_cells {w : World} {ad : Option Addr} {m c : Nat} {ws : List RC} (h : w.ownsRow 0 77 5 (.slice ad m c) ws.length (rcs ws)) (i : Nat) (hi : i < ws.length) : ∃ g, ad = some ⟨g, 0, none⟩ ∧ ∀ j, j < 5 → w.cell? ⟨g, i * 5 + j, none⟩ = (rcC ws[i])[j]? := by
  obtain ⟨h1, h2⟩ := h
  rcases h2 with ⟨e, h0⟩ | ⟨g, cap, cur, e, _, hb, hn, hm, hs, ht⟩
  · omega
  · injection e with e1 e2 e3
    refine ⟨g, e1, fun j hj => ?_⟩
    rw [cell_of_row _ _ _ _ _ _ hb, ← rcs_get ws i hi j hj, ← ht, List.getElem?_take_of_lt (by omega)]
    simp [Nat.mul_comm]

set_option maxRecDepth 100000 in
set_option maxHeartbeats 2000000 in
theorem now_loc (su wa fa : Value) (ms : List RC) (d : Ds) (n : Nat) (dn : Bool) (rm : Int) (w : World) (hR : RefIs w su wa fa ms d) (hN : NowOk d) :
    Calls Try.prog 42 #[rdV su wa n dn fa rm] w fun e w' => ∃ v', e = .returned v' ∧ FileRow w' 0 v' d.now ∧ Keep (fun _ => False) w w' ∧ LocV su w v' := by
  obtain ⟨a1, c1, rfl⟩ := row_form hR.sure
  obtain ⟨a2, c2, rfl⟩ := row_form hR.wait
  obtain ⟨a3, b3, c3, rfl⟩ := hR.fa
  have HR := hid hR
  have HN := hid hN
  have hml := hR.len
  have hlw : ms.length ≤ 7036874417 := by have := hN.wt; omega
  have DO : Hid (∀ (k : Nat) (hk : k < ms.length) (l : Value) (W : World), FileRow W 0 l (replay (d.ws.take k) d.S) → Calls Try.prog 60 #[l, rcV ms[k]] W fun e w' => ∃ v', e = .returned v' ∧ FileRow w' 0 v' (replay (d.ws.take (k + 1)) d.S) ∧ Keep (fun _ => False) W w' ∧ ∀ g, v'.ownBlock = some g → W.heap.size ≤ g) := by
    intro k hk l W hl
    have hk9 : k < d.ws.length := by omega
    have he9 : ms[k].ch = d.ws[k] := by simp [← HR.out.eqw]
    obtain ⟨h1, h2, h3⟩ := HN.out.bounds k (Nat.le_of_lt hk9)
    refine (do_any _ l ms[k] W hl h2 h1 (by rw [he9]; exact h3 hk9) (by rw [he9]; exact HN.out.oks k hk9) (by rw [he9]; exact HN.out.there k hk9) (HR.out.pos _ (List.getElem_mem hk))).mono fun e w' ⟨v', he, hr, hk'⟩ => ⟨v', he, ?_, hk', fun g e => ownsRow_ge hr e⟩
    rw [List.take_succ_eq_append_getElem hk9, replay_snoc, ← he9]
    exact ownsRow_base hr (Nat.zero_le _)
  have HTE : Hid (replay (d.ws.take ms.length) d.S = d.now) := by rw [hml, List.take_length]; rfl
  clear hR hN hml
  unfold rdV
  go_enter Try.func42, Try.ntmps42
  go_wp2
  have hk0 := keep_alloc (fun _ => False) w (.cells #[.slice a1 d.S.length c1, .slice a2 ms.length c2, .int .i64 (n : Int), .bool dn, .slice a3 b3 c3, .int .i64 rm] 30)
  have hr0 : RowIs (w.alloc (.cells #[.slice a1 d.S.length c1, .slice a2 ms.length c2, .int .i64 (n : Int), .bool dn, .slice a3 b3 c3, .int .i64 rm] 30)) w.heap.size [.slice a1 d.S.length c1, .slice a2 ms.length c2, .int .i64 (n : Int), .bool dn, .slice a3 b3 c3, .int .i64 rm] 30 := heap_alloc_new _ _
  generalize w.alloc (.cells #[.slice a1 d.S.length c1, .slice a2 ms.length c2, .int .i64 (n : Int), .bool dn, .slice a3 b3 c3, .int .i64 rm] 30) = w0 at *
  have HK0 := hid hk0
  have HR0 := hid hr0
  have HS0 : Hid (FileRow w0 0 (.slice a1 d.S.length c1) (replay (d.ws.take 0) d.S)) := hk0.ownsRow HR.out.sure (fun _ _ h => h)
  clear hk0 hr0
  go_loopw [3, 4] (fun l i wr => ∃ k : Nat, k ≤ ms.length ∧ i = .int .i64 k ∧ (∃ ad m cp, l = .slice ad m cp) ∧ Hid (FileRow wr 0 l (replay (d.ws.take k) d.S)) ∧ Hid (Keep (fun _ => False) w0 wr) ∧ Hid (LocV (.slice a1 d.S.length c1) w l)) (fun _ i _ => ms.length - (intOf i).toNat)
  case atStart => exact ⟨0, by omega, rfl, ⟨_, _, _, rfl⟩, HS0, Keep.refl _ _, fun g e => .inl e⟩
  case round =>
    clear HS0
    obtain ⟨k, hk, rfl, ⟨ad, m, cp, rfl⟩, HO, HK, HLC⟩ := hrel
    have b1 := (HR0.out.keep HK.out (fun h => h)).cellAt (o := 1) rfl
    by_cases hlt : k < ms.length
    · have hk0 : (0 : Int) ≤ (k : Int) := by omega
      have hk1 : (k : Int) < (ms.length : Int) := by omega
      obtain ⟨g, hg, hc⟩ := chg_cells ((HK0.out.trans HK.out).ownsRow HR.out.wait (fun _ _ h => h)) k hlt
      have D1 := hid (DO.out k hlt _ wr HO.out)
      subst hg
      clear DO HO
      generalize ms[k] = ch at *
      unfold rcV at D1
      have q0 := hc 0 (by omega)
      have q1 := hc 1 (by omega)
      have q2 := hc 2 (by omega)
      have q3 := hc 3 (by omega)
      have q4 := hc 4 (by omega)
      simp only [rcC, List.getElem?_cons_zero, List.getElem?_cons_succ, Nat.add_zero] at q0 q1 q2 q3 q4
      clear hc
      go_wp2_with fail
      refine D1.out.mono ?_
      rintro e w2 ⟨v', rfl, hr', hk', hnw⟩
      obtain ⟨ad', cp', rfl⟩ := row_form hr'
      have HO2 := hid hr'
      have HK2 := hid (HK.out.trans hk')
      have HL2 : Hid (LocV (.slice a1 d.S.length c1) w (.slice ad' (replay (d.ws.take (k + 1)) d.S).length cp')) := fun g e => .inr (Nat.le_trans (HK0.out.trans HK.out).size (hnw g e))
      clear HLC hnw
      clear D1 hr' hk' HK q0 q1 q2 q3 q4 b1
      go_wp2
      exact ⟨⟨k + 1, by omega, by go_num, ⟨_, _, _, rfl⟩, HO2, HK2, HL2⟩, by simp [intOf]; omega⟩
    · have hd : decide ((k : Int) < (ms.length : Int)) = false := decide_eq_false (by omega)
      have hke : k = ms.length := by omega
      subst hke
      rw [HTE.out] at HO
      have HE := hid (HK0.out.trans HK.out)
      clear DO HK
      go_wp2
      go_ret
      exact ⟨_, rfl, HO.out, HE.out, HLC.out⟩
theorem now_any (su wa fa : Value) (ms : List RC) (d : Ds) (n : Nat) (dn : Bool) (rm : Int) (w : World) (hR : RefIs w su wa fa ms d) (hN : NowOk d) :
    Calls Try.prog 42 #[rdV su wa n dn fa rm] w fun e w' => ∃ v', e = .returned v' ∧ FileRow w' 0 v' d.now ∧ Keep (fun _ => False) w w' :=
  (now_loc su wa fa ms d n dn rm w hR hN).mono fun e w' ⟨v', he, hr, hk, _⟩ => ⟨v', he, hr, hk⟩
end Go.Proofs.Ytnlodlpjokkepab
namespace Go.Proofs.Ytnlodlpjokkepab
open Go.RowKit Go.Maps
set_option linter.unusedVariables false
set_option linter.unusedSimpArgs false

theorem tot_fst (A : List (Bs × Bs)) (k : Nat) (hk : k < A.length) : tot (A.take (k + 1)) = tot (A.take k) + A[k].2.length := by
  rw [List.take_succ_eq_append_getElem hk]
  unfold tot
  rw [List.map_append, List.sum_append]
  simp
theorem tot_fst_le (A : List (Bs × Bs)) (k : Nat) : tot (A.take k) ≤ tot A := by
  have : tot A = tot (A.take k) + tot (A.drop k) := by
    unfold tot
    rw [← List.sum_append, ← List.map_append, List.take_append_drop]
  omega
theorem NowOk.tot {d : Ds} (h : NowOk d) : Go.Proofs.Ytnlodlpjokkepab.tot d.now ≤ 7036874417 ∧ d.now.length ≤ 7036874417 ∧ Srt d.now := by
  have hb := replay_bounds d.ws d.S h.srt (fun ch hc => by
    obtain ⟨i, hi, rfl⟩ := List.getElem_of_mem hc
    exact (h.oks i hi).move)
  have hw := h.wt
  unfold Ds.wt at hw
  unfold Ds.now
  exact ⟨by omega, by omega, hb.1⟩

set_option maxRecDepth 100000 in
set_option maxHeartbeats 2000000 in
theorem rused_any (su wa fa : Value) (ms : List RC) (d : Ds) (n : Nat) (dn : Bool) (rm : Int) (w : World) (hR : RefIs w su wa fa ms d) (hN : NowOk d) :
    Calls Try.prog 43 #[rdV su wa n dn fa rm] w fun e w' => e = .returned (.int .i64 ((tot d.now : Nat) : Int)) ∧ Keep (fun _ => False) w w' := by
  have NW : Hid (∀ W, Keep (fun _ => False) w W → Calls Try.prog 42 #[rdV su wa n dn fa rm] W fun e w' => ∃ v', e = .returned v' ∧ FileRow w' 0 v' d.now ∧ Keep (fun _ => False) w w') := fun W hW => (now_any su wa fa ms d n dn rm W (hR.keep hW) hN).mono fun e w' ⟨v', he, hr, hk⟩ => ⟨v', he, hr, hW.trans hk⟩
  obtain ⟨a1, c1, rfl⟩ := row_form hR.sure
  obtain ⟨a2, c2, rfl⟩ := row_form hR.wait
  obtain ⟨a3, b3, c3, rfl⟩ := hR.fa
  obtain ⟨ht, hl, _⟩ := hN.tot
  unfold rdV at *
  generalize d.S.length = x1 at *
  generalize ms.length = x2 at *
  generalize d.now = A at *
  clear hR hN
  have HT := hid (tot_fst A)
  have HTL := hid (tot_fst_le A)
  have HTE : Hid (tot (A.take A.length) = tot A) := by show _ = _; rw [List.take_length]
  go_enter Try.func43, Try.ntmps43
  go_wp2_with fail
  refine (NW.out _ (keep_alloc (fun _ => False) w _)).mono ?_
  rintro e w1 ⟨v', rfl, hr, hk⟩
  obtain ⟨ad, cap, rfl⟩ := row_form hr
  have HC := hid (row_cells hr)
  have HK := hid hk
  clear NW hr hk
  go_wp2
  go_loopw [3, 5] (fun s i wr => ∃ k : Nat, k ≤ A.length ∧ i = .int .i64 k ∧ s = .int .i64 ((tot (A.take k) : Nat) : Int) ∧ wr = w1) (fun _ i _ => A.length - (intOf i).toNat)
  case atStart => exact ⟨0, by omega, rfl, rfl, rfl⟩
  case round =>
    obtain ⟨k, hk, rfl, rfl, rfl⟩ := hrel
    by_cases hlt : k < A.length
    · have hk0 : (0 : Int) ≤ (k : Int) := by omega
      have hk1 : (k : Int) < (A.length : Int) := by omega
      obtain ⟨g, hg, _, _, q1⟩ := HC.out k hlt
      have HT1 := hid (HT.out k hlt)
      have h1 := HTL.out (k + 1)
      rw [HT1.out] at h1
      have hsz : (tx A[k].2).size = A[k].2.length := size_mk _
      have hw : wrap64 (((tot (A.take k) : Nat) : Int) + ((A[k].2.length : Nat) : Int)) = ((tot (A.take (k + 1)) : Nat) : Int) := by rw [IntWalk.wrap64_in _ (by omega), HT1.out]; omega
      subst hg
      rw [← hsz] at hw
      clear HC HT HTL HT1 h1 hsz
      generalize tx A[k].2 = X at *
      generalize hT2 : tot (A.take (k + 1)) = T2 at *
      have HT2 := hid hT2
      clear hT2
      go_wp2
      exact ⟨⟨k + 1, by omega, by go_num, by rw [HT2.out, hw], trivial⟩, by simp [intOf]; omega⟩
    · have hd : decide ((k : Int) < (A.length : Int)) = false := decide_eq_false (by omega)
      have hke : k = A.length := by omega
      subst hke
      rw [HTE.out]
      clear HC HT HTL
      go_wp2
      go_ret
      exact ⟨rfl, HK.out⟩
end Go.Proofs.Ytnlodlpjokkepab
namespace Go.Proofs.Ytnlodlpjokkepab
open Go.RowKit Go.Maps
set_option linter.unusedVariables false
set_option linter.unusedSimpArgs false

set_option maxRecDepth 100000 in
set_option maxHeartbeats 2000000 in
theorem rread_any (su wa fa : Value) (ms : List RC) (d : Ds) (rm : Int) (name : Bs) (w : World) (hR : RefIs w su wa fa ms d) (hN : NowOk d) (hl : name.length ≤ 70368744177) :
    Calls Try.prog 41 #[rdV su wa d.n d.dn fa rm, .string (tx name)] w fun e w' => e = .returned (.tuple #[.string (tx (rdD d name).1), .int .i64 (rdD d name).2]) ∧ Keep (fun _ => False) w w' := by
  have NW : Hid (∀ W, Keep (fun _ => False) w W → Calls Try.prog 42 #[rdV su wa d.n d.dn fa rm] W fun e w' => ∃ v', e = .returned v' ∧ FileRow w' 0 v' d.now ∧ Keep (fun _ => False) w w') := fun W hW => (now_any su wa fa ms d d.n d.dn rm W (hR.keep hW) hN).mono fun e w' ⟨v', he, hr, hk⟩ => ⟨v', he, hr, hW.trans hk⟩
  obtain ⟨a1, c1, rfl⟩ := row_form hR.sure
  obtain ⟨a2, c2, rfl⟩ := row_form hR.wait
  obtain ⟨a3, b3, c3, rfl⟩ := hR.fa
  obtain ⟨_, hln, hsr⟩ := hN.tot
  have HSR := hid hsr
  unfold rdV at *
  have NA := hid (fun W : World => rname_any (tx name) W)
  rw [tx_list] at NA
  have FA : Hid (∀ W v', FileRow W 0 v' d.now → Calls Try.prog 61 #[v', .string (tx name)] W fun e w' => Keep (fun _ => False) W w' ∧ ((∃ k : Nat, e = .returned (.tuple #[.int .i64 (k : Int), .bool false]) ∧ kget d.now name = none) ∨
      ∃ (k : Nat) (g cap : Nat) (t : Bs), e = .returned (.tuple #[.int .i64 (k : Int), .bool true]) ∧ kget d.now name = some t ∧ v' = .slice (some ⟨g, 0, none⟩) d.now.length cap ∧ (0 : Int) ≤ (k : Int) ∧ (k : Int) < (d.now.length : Int) ∧ w'.cell? ⟨g, k * 2 + 1, none⟩ = some (.string (tx t)))) := fun W v' h => (find_at name h (by omega) HSR.out W (Keep.refl _ _)).mono fun e w' ⟨h1, _, h2⟩ => ⟨h1, h2⟩
  have hrd : rdD d name = if d.dn then (([] : Bs), (21 : Int)) else if nameOk name = false then (([] : Bs), (20 : Int)) else (match kget d.now name with | none => (([] : Bs), (4 : Int)) | some b => (b, (0 : Int))) := rfl
  generalize rdD d name = r at *
  generalize d.S.length = x1 at *
  generalize ms.length = x2 at *
  generalize d.now = A at *
  generalize hnm : nameOk name = nb at *
  clear hR hN hsr hnm HSR
  cases hdn : d.dn with
  | true =>
    rw [hdn, if_pos rfl] at hrd
    subst hrd
    rw [hdn] at NW
    have e0 : tx [] = ⟨#[]⟩ := rfl
    simp only
    rw [e0]
    clear NA FA NW hdn e0
    go_enter Try.func41, Try.ntmps41
    go_wp2
    go_ret2
    exact ⟨rfl, keep_alloc _ _ _⟩
  | false =>
    rw [hdn, if_neg (by decide)] at hrd
    rw [hdn] at NW
    cases nb with
    | false =>
      rw [if_pos rfl] at hrd
      subst hrd
      have e0 : tx [] = ⟨#[]⟩ := rfl
      simp only
      rw [e0]
      clear FA NW hdn e0
      go_enter Try.func41, Try.ntmps41
      go_wp2_with fail
      refine (NA.out _).mono ?_
      rintro e w1 ⟨rfl, rfl⟩
      clear NA
      go_wp2
      go_ret2
      exact ⟨rfl, keep_alloc _ _ _⟩
    | true =>
      rw [if_neg (by decide)] at hrd
      go_enter Try.func41, Try.ntmps41
      go_wp2_with fail
      refine (NA.out _).mono ?_
      rintro e w1 ⟨rfl, rfl⟩
      clear NA
      go_wp2_with fail
      refine (NW.out _ (keep_alloc _ _ _)).mono ?_
      rintro e w2 ⟨v', rfl, hr, hk⟩
      have HK := hid hk
      have F1 := hid (FA.out w2 v' hr)
      obtain ⟨ad, cap, rfl⟩ := row_form hr
      clear NW FA hr hk
      go_wp2_with fail
      refine F1.out.mono ?_
      rintro e w3 ⟨hk3, hor⟩
      have HK3 := hid (HK.out.trans hk3)
      clear F1 HK hk3
      rcases hor with ⟨k, rfl, hg⟩ | ⟨k, g, cap', t, rfl, hg, he, hk0, hk1, q1⟩
      · rw [hg] at hrd
        have h1 : r = ([], 4) := hrd
        have HE : Hid (Value.tuple #[.string ⟨#[]⟩, .int .i64 4] = .tuple #[.string (tx r.1), .int .i64 r.2]) := by rw [h1]; rfl
        clear hrd hg h1
        go_wp2
        go_ret2
        exact ⟨by rw [← HE.out]; rfl, HK3.out⟩
      · rw [hg] at hrd
        have h1 : r = (t, 0) := hrd
        have HE : Hid (Value.tuple #[.string (tx t), .int .i64 0] = .tuple #[.string (tx r.1), .int .i64 r.2]) := by rw [h1]; rfl
        injection he with he1 he2 he3
        subst he1
        clear hrd hg h1
        go_wp2
        go_ret2
        exact ⟨by rw [← HE.out]; rfl, HK3.out⟩
end Go.Proofs.Ytnlodlpjokkepab
namespace Go.Proofs.Ytnlodlpjokkepab
open Go.RowKit Go.Maps
set_option linter.unusedVariables false
set_option linter.unusedSimpArgs false

theorem ret_cell_tmp {fn : Func} {p u : Tmp} {ty : TypeId} (h : fn.results = #[.cell p ty, .tmp u]) (tmps : Array Value) (w : World) (g : Nat) (cs : Array Value) (x : Value)
    (hp : tmps.getD p undef = .pointer (some ⟨g, 0, none⟩)) (hx : tmps.getD u undef = x) (hg : (loadVar ty ⟨g, 0, none⟩).run Try.prog w = .ok (.agg cs) w) :
    (results fn tmps).run Try.prog w = .ok (.tuple #[.agg cs, x]) w := by
  rw [results_cell_tmp h, hp, hx]
  simp [asAddr, hg, Result.andThen]
theorem row_ne {w : World} {B n g b : Nat} {v : Value} {xs cs : List Value} {t : TypeId} (h : w.ownsRow B 50 2 v n xs) (hg : v.ownBlock = some g) (hr : RowIs w b cs t) (ht : t ≠ 50) : g ≠ b := by
  rcases h.2 with ⟨e, _⟩ | ⟨g', cap, cur, e, _, hb, _⟩
  · rw [e] at hg; simp [Value.ownBlock] at hg
  · rw [e] at hg; simp [Value.ownBlock] at hg
    subst hg
    intro e2
    subst e2
    unfold RowIs at hr
    rw [hr] at hb
    injection hb with hb
    injection hb with _ hb
    exact ht hb
/-- six cells are stored -/
theorem six {W : World} {g : Nat} {y0 y1 y2 y3 y4 y5 v0 v1 v2 v3 v4 v5 : Value} {t : TypeId} (h : RowIs W g [y0, y1, y2, y3, y4, y5] t) : RowIs ((((((W.setCell ⟨g, 0, none⟩ v0).setCell ⟨g, 1, none⟩ v1).setCell ⟨g, 2, none⟩ v2).setCell ⟨g, 3, none⟩ v3).setCell ⟨g, 4, none⟩ v4).setCell ⟨g, 5, none⟩ v5) g [v0, v1, v2, v3, v4, v5] t ∧
    Keep (· = g) W ((((((W.setCell ⟨g, 0, none⟩ v0).setCell ⟨g, 1, none⟩ v1).setCell ⟨g, 2, none⟩ v2).setCell ⟨g, 3, none⟩ v3).setCell ⟨g, 4, none⟩ v4).setCell ⟨g, 5, none⟩ v5) :=
  ⟨(((((h.set 0 v0).set 1 v1).set 2 v2).set 3 v3).set 4 v4).set 5 v5, (((((keep_setCell W g 0 v0).trans (keep_setCell _ g 1 v1)).trans (keep_setCell _ g 2 v2)).trans (keep_setCell _ g 3 v3)).trans (keep_setCell _ g 4 v4)).trans (keep_setCell _ g 5 v5)⟩

set_option maxRecDepth 100000 in
set_option maxHeartbeats 2000000 in
theorem rsync_up (su wa fa : Value) (ms : List RC) (d : Ds) (rm : Int) (w : World) (hR : RefIs w su wa fa ms d) (hN : NowOk d) (hdn : d.dn = false) :
    Calls Try.prog 39 #[rdV su wa d.n false fa rm] w fun e w' => ∃ v', e = .returned (.tuple #[rdV v' (.slice none 0 0) d.n false fa rm, .int .i64 0]) ∧ FileRow w' 0 v' d.now ∧ Keep (fun _ => False) w w' ∧ LocV su w v' := by
  have NW : Hid (∀ W, Keep (fun _ => False) w W → Calls Try.prog 42 #[rdV su wa d.n false fa rm] W fun e w' => ∃ v', e = .returned v' ∧ FileRow w' 0 v' d.now ∧ Keep (fun _ => False) W w' ∧ LocV su w v') := fun W hW => (now_loc su wa fa ms d d.n false rm W (hR.keep hW) hN).mono fun e w' ⟨v', he, hr, hk, hl⟩ => ⟨v', he, hr, hk, fun g e => (hl g e).imp id (Nat.le_trans hW.size)⟩
  obtain ⟨a1, c1, rfl⟩ := row_form hR.sure
  obtain ⟨a2, c2, rfl⟩ := row_form hR.wait
  obtain ⟨a3, b3, c3, rfl⟩ := hR.fa
  unfold rdV at *
  generalize d.S.length = x1 at *
  generalize ms.length = x2 at *
  generalize d.now = A at *
  clear hR hN
  go_enter Try.func39, Try.ntmps39
  go_wp2_with fail
  refine (NW.out _ ((keep_alloc _ _ _).trans (keep_alloc _ _ _))).mono ?_
  rintro e w1 ⟨v', rfl, hr, hk, hlc⟩
  obtain ⟨ad, cap, rfl⟩ := row_form hr
  have hsz : (w.alloc (.cells #[.slice a1 x1 c1, .slice a2 x2 c2, .int .i64 (d.n : Int), .bool false, .slice a3 b3 c3, .int .i64 rm] 30)).heap.size = w.heap.size + 1 := by simp
  have hk2 : Keep (fun _ => False) w ((w.alloc (.cells #[.slice a1 x1 c1, .slice a2 x2 c2, .int .i64 (d.n : Int), .bool false, .slice a3 b3 c3, .int .i64 rm] 30)).alloc (.cells #[.slice none 0 0, .slice none 0 0, .int .i64 0, .bool false, .slice none 0 0, .int .i64 0] 30)) := (keep_alloc _ _ _).trans (keep_alloc _ _ _)
  have rb : RowIs (w.alloc (.cells #[.slice a1 x1 c1, .slice a2 x2 c2, .int .i64 (d.n : Int), .bool false, .slice a3 b3 c3, .int .i64 rm] 30)) w.heap.size [.slice a1 x1 c1, .slice a2 x2 c2, .int .i64 (d.n : Int), .bool false, .slice a3 b3 c3, .int .i64 rm] 30 := heap_alloc_new _ _
  have rb1 := (rb.keep (keep_alloc (fun _ => False) _ (.cells #[.slice none 0 0, .slice none 0 0, .int .i64 0, .bool false, .slice none 0 0, .int .i64 0] 30)) (fun h => h)).keep hk (fun h => h)
  have rr : RowIs ((w.alloc (.cells #[.slice a1 x1 c1, .slice a2 x2 c2, .int .i64 (d.n : Int), .bool false, .slice a3 b3 c3, .int .i64 rm] 30)).alloc (.cells #[.slice none 0 0, .slice none 0 0, .int .i64 0, .bool false, .slice none 0 0, .int .i64 0] 30)) (w.heap.size + 1) [.slice none 0 0, .slice none 0 0, .int .i64 0, .bool false, .slice none 0 0, .int .i64 0] 30 := by rw [← hsz]; exact heap_alloc_new _ _
  have rr1 := rr.keep hk (fun h => h)
  have HK := hid (hk2.trans hk)
  have HLC := hid hlc
  clear hlc
  have HRB := hid rb1
  have HRR := hid rr1
  have HF := hid hr
  have kB : Keep (· = w.heap.size) w1 ((w1.setCell ⟨w.heap.size, 0, none⟩ (.slice ad A.length cap)).setCell ⟨w.heap.size, 1, none⟩ (.slice none 0 0)) := (keep_setCell _ _ _ _).trans (keep_setCell _ _ _ _)
  have HS := hid (six (v0 := .slice ad A.length cap) (v1 := .slice none 0 0) (v2 := .int .i64 (d.n : Int)) (v3 := .bool false) (v4 := .slice a3 b3 c3) (v5 := .int .i64 rm) (rr1.keep kB (fun h => by omega)))
  have HKB := hid kB
  clear kB
  have f0 := rb1.frozen (o := 0)
  have f1 := rb1.frozen (o := 1)
  have k0 := rb1.cellAt (o := 0) rfl
  have k1 := rb1.cellAt (o := 1) rfl
  have k2 := rb1.cellAt (o := 2) rfl
  have k3 := rb1.cellAt (o := 3) rfl
  have k4 := rb1.cellAt (o := 4) rfl
  have k5 := rb1.cellAt (o := 5) rfl
  have z0 := rr1.cellAt (o := 0) rfl
  have z1 := rr1.cellAt (o := 1) rfl
  have z2 := rr1.cellAt (o := 2) rfl
  have z3 := rr1.cellAt (o := 3) rfl
  have z4 := rr1.cellAt (o := 4) rfl
  have z5 := rr1.cellAt (o := 5) rfl
  have g0 := rr1.frozen (o := 0)
  have g1 := rr1.frozen (o := 1)
  have g2 := rr1.frozen (o := 2)
  have g3 := rr1.frozen (o := 3)
  have g4 := rr1.frozen (o := 4)
  have g5 := rr1.frozen (o := 5)
  clear NW rb rb1 rr rr1 hk hk2 hr hsz
  go_wp2
  refine bodyPost_ret (v := .tuple #[.agg #[.slice ad A.length cap, .slice none 0 0, .int .i64 (d.n : Int), .bool false, .slice a3 b3 c3, .int .i64 rm], .int .i64 0]) (ret_cell_tmp (p := 2) (u := 3) rfl _ _ (w.heap.size + 1) _ _ rfl rfl (run_loadVar_row _ _ _ _ _ _ _ HS.out.1 Try.underlying30 rfl (by kernel_rfl))) rfl ⟨_, rfl, ?_, ?_, HLC.out⟩
  · refine HS.out.2.ownsRow (HKB.out.ownsRow HF.out (fun g e e2 => row_ne HF.out e HRB.out (by decide) e2)) (fun g e e2 => row_ne HF.out e HRR.out (by decide) e2)
  · exact (HK.out.then HKB.out (fun j hj e => by omega)).then HS.out.2 (fun j hj e => by omega)
end Go.Proofs.Ytnlodlpjokkepab
namespace Go.Proofs.Ytnlodlpjokkepab
open Go.RowKit Go.Maps
set_option linter.unusedVariables false
set_option linter.unusedSimpArgs false

/-- what hinders a change; 0: nothing but the power -/
def wrgD (d : Ds) (a : AC) : Int :=
  if d.dn then 21 else if nameOk a.name = false ∨ (a.kind = 2 ∧ nameOk a.to = false) then 20
  else if a.kind = 0 then (if fitB d.bd d.rm (tot d.now) a.s.length = false then 22 else 0)
  else if a.kind = 1 then (if fitB d.bd d.rm (tot d.now) ((a.s.length : Int) - (((kget d.now a.name).getD []).length : Int)) = false then 22 else 0)
  else if (kget d.now a.name).isSome = false then 4
  else if a.kind = 2 then (if a.name = a.to then 1 else 0)
  else if a.kind = 3 then 0
  else if a.n < 0 ∨ ((((kget d.now a.name).getD []).length : Nat) : Int) < a.n then 1 else 0
/-- an act as a change of the reference's -/
def rcA (a : AC) : RC := ⟨a.kind.toNat, a.name, a.to, a.s, a.n⟩
theorem cal_wrg (d : Ds) (a : AC) (h0 : 0 ≤ a.kind) (h4 : a.kind ≤ 4) : calD d a = if wrgD d a = 0 then chgD d (rcA a).ch else (d, wrgD d a) := by
  obtain ⟨kind, name, to, s, n, f0, f1, f2, pv⟩ := a
  simp only at h0 h4
  have h5 : kind = 0 ∨ kind = 1 ∨ kind = 2 ∨ kind = 3 ∨ kind = 4 := by omega
  unfold calD wrgD rcA RC.ch
  simp only
  rcases h5 with rfl | rfl | rfl | rfl | rfl
  · simp only [appD, if_pos]
    by_cases h1 : d.dn = true
    · simp [h1]
    by_cases h2 : nameOk name = false
    · simp [h1, h2]
    by_cases h3 : fitB d.bd d.rm (tot d.now) s.length = false
    · simp [h1, h2, h3]
    · simp [h1, h2, h3]
  · simp only [wrD]
    by_cases h1 : d.dn = true
    · simp [h1]
    by_cases h2 : nameOk name = false
    · simp [h1, h2]
    by_cases h3 : fitB d.bd d.rm (tot d.now) ((s.length : Int) - (((kget d.now name).getD []).length : Int)) = false
    · simp [h1, h2, h3]
    · simp [h1, h2, h3]
  · simp only [mvD]
    by_cases h1 : d.dn = true
    · simp [h1]
    by_cases h2 : nameOk name = false
    · simp [h1, h2]
    by_cases h2b : nameOk to = false
    · simp [h1, h2b]
    by_cases h3 : (kget d.now name).isSome = false
    · have h3' : kget d.now name = none := by simpa using h3
      simp [h1, h2, h2b, h3']
    · have h3' : (kget d.now name).isSome = true := by revert h3; cases (kget d.now name).isSome <;> simp
      by_cases h6 : name = to
      · subst h6
        simp [h1, h2, h3']
      · simp [h1, h2, h2b, h3', h6]
  · simp only [rmD]
    by_cases h1 : d.dn = true
    · simp [h1]
    by_cases h2 : nameOk name = false
    · simp [h1, h2]
    by_cases h3 : (kget d.now name).isSome = false
    · have h3' : kget d.now name = none := by simpa using h3
      simp [h1, h2, h3']
    · have h3' : (kget d.now name).isSome = true := by revert h3; cases (kget d.now name).isSome <;> simp
      simp [h1, h2, h3']
  · simp only [cuD]
    by_cases h1 : d.dn = true
    · simp [h1]
    by_cases h2 : nameOk name = false
    · simp [h1, h2]
    by_cases h3 : (kget d.now name).isSome = false
    · have h3' : kget d.now name = none := by simpa using h3
      simp [h1, h2, h3']
    · have h3' : (kget d.now name).isSome = true := by revert h3; cases (kget d.now name).isSome <;> simp
      by_cases h6 : n < 0 ∨ ((((kget d.now name).getD []).length : Nat) : Int) < n
      · simp [h1, h2, h3', h6]
      · simp [h1, h2, h3', h6]
/-- the room, as the reference has it -/
structure RmOk (d : Ds) (rm : Int) : Prop where
  bd : d.bd = decide (0 ≤ rm)
  rm : 0 ≤ rm → d.rm = rm
theorem fit_rm {d : Ds} {rm : Int} (h : RmOk d rm) (u : Nat) (more : Int) : fitB d.bd d.rm u more = false ↔ 0 < more ∧ 0 ≤ rm ∧ rm < (u : Int) + more := by
  unfold fitB
  rw [h.bd]
  by_cases h0 : 0 ≤ rm
  · rw [h.rm h0]
    simp [h0]
  · simp [h0]

/-- what the loop keeps -/
structure PI (d : Ds) (k B : Nat) : Prop where
  srt : Srt d.S
  oks : ∀ i (h : i < d.ws.length), ChOk (replay (d.ws.take i) d.S) d.ws[i]
  there : ∀ i (h : i < d.ws.length), d.ws[i].kind = 2 ∨ d.ws[i].kind = 4 → (kget (replay (d.ws.take i) d.S) d.ws[i].name).isSome = true
  nS : ∀ x ∈ d.S, nameOk x.1 = true
  nW : ∀ ch ∈ d.ws, nameOk ch.name = true ∧ (ch.kind = 2 → nameOk ch.to = true)
  wt : d.wt + d.S.length + d.ws.length ≤ B
  n : d.n ≤ k
theorem PI.now {d : Ds} {k B : Nat} (h : PI d k B) (hB : B ≤ 7036874417) : NowOk d := ⟨h.srt, h.oks, h.there, Nat.le_trans h.wt hB⟩
theorem PI.mono {d : Ds} {k B k' B' : Nat} (h : PI d k B) (hk : k ≤ k') (hB : B ≤ B') : PI d k' B' := ⟨h.srt, h.oks, h.there, h.nS, h.nW, Nat.le_trans h.wt hB, Nat.le_trans h.n hk⟩
theorem names_replay : ∀ (ws : List Chg) (A : List (Bs × Bs)), (∀ x ∈ A, nameOk x.1 = true) → (∀ ch ∈ ws, nameOk ch.name = true ∧ (ch.kind = 2 → nameOk ch.to = true)) → ∀ x ∈ replay ws A, nameOk x.1 = true
  | [], A, h, _, x, hx => h x hx
  | c :: r, A, h, hw, x, hx => by
    refine names_replay r (doC A c) (fun y hy => ?_) (fun ch hc => hw ch (by simp [hc])) x hx
    rcases mem_doC hy with hy | e | ⟨h2, e⟩
    · exact h y hy
    · rw [e]; exact (hw c (by simp)).1
    · rw [e]; exact (hw c (by simp)).2 h2
theorem PI.nm {d : Ds} {k B : Nat} (h : PI d k B) : NmOk d := fun x hx => names_replay d.ws d.S h.nS h.nW x hx
theorem PI.mv {d : Ds} {k B : Nat} (h : PI d k B) : ∀ ch ∈ d.ws, ch.kind = 2 → ch.to ≠ ch.name := fun ch hc => by
  obtain ⟨i, hi, rfl⟩ := List.getElem_of_mem hc
  exact (h.oks i hi).move
theorem PI.more {d : Ds} {k B : Nat} (h : PI d k B) (ch : Chg) (hok : ChOk d.now ch) (hth : ch.kind = 2 ∨ ch.kind = 4 → (kget d.now ch.name).isSome = true) (hn : nameOk ch.name = true) (ht : ch.kind = 2 → nameOk ch.to = true) : PI (d.more ch) k (B + (ch.s.length + 1)) := by
  have hl : (d.more ch).ws = d.ws ++ [ch] := rfl
  refine ⟨h.srt, fun i hi => ?_, fun i hi => ?_, h.nS, fun x hx => ?_, ?_, h.n⟩
  · simp only [hl, List.length_append, List.length_singleton] at hi ⊢
    by_cases hlt : i < d.ws.length
    · have e1 : (d.ws ++ [ch]).take i = d.ws.take i := List.take_append_of_le_length (by omega)
      rw [e1, List.getElem_append_left hlt]
      exact h.oks i hlt
    · have e : i = d.ws.length := by omega
      subst e
      rw [List.take_append_of_le_length (Nat.le_refl _), List.take_of_length_le (Nat.le_refl _), List.getElem_append_right (Nat.le_refl _)]
      simp only [Nat.sub_self, List.getElem_cons_zero]
      exact hok
  · simp only [hl, List.length_append, List.length_singleton] at hi ⊢
    by_cases hlt : i < d.ws.length
    · have e1 : (d.ws ++ [ch]).take i = d.ws.take i := List.take_append_of_le_length (by omega)
      rw [e1, List.getElem_append_left hlt]
      exact h.there i hlt
    · have e : i = d.ws.length := by omega
      subst e
      rw [List.take_append_of_le_length (Nat.le_refl _), List.take_of_length_le (Nat.le_refl _), List.getElem_append_right (Nat.le_refl _)]
      simp only [Nat.sub_self, List.getElem_cons_zero]
      exact hth
  · rw [hl] at hx
    rcases List.mem_append.1 hx with hx | hx
    · exact h.nW x hx
    · rw [List.mem_singleton] at hx
      subst hx
      exact ⟨hn, ht⟩
  · have hw := h.wt
    show tot d.S + ((d.ws ++ [ch]).map fun ch => ch.s.length).sum + d.S.length + (d.ws ++ [ch]).length ≤ _
    unfold Ds.wt at hw
    rw [List.map_append, List.sum_append, List.length_append]
    simp
    omega
theorem replay_take {d : Ds} {k B : Nat} (h : PI d k B) (j : Nat) : Srt (replay (d.ws.take j) d.S) ∧ (∀ x ∈ replay (d.ws.take j) d.S, nameOk x.1 = true) ∧ tot (replay (d.ws.take j) d.S) ≤ tot d.S + ((d.ws.take j).map fun ch => ch.s.length).sum ∧ (replay (d.ws.take j) d.S).length ≤ d.S.length + (d.ws.take j).length := by
  obtain ⟨h1, h2, h3⟩ := replay_bounds (d.ws.take j) d.S h.srt (fun ch hc => h.mv ch (List.mem_of_mem_take hc))
  exact ⟨h1, names_replay _ _ h.nS (fun ch hc => h.nW ch (List.mem_of_mem_take hc)), h2, h3⟩
theorem PI.fail {d : Ds} {k B : Nat} (h : PI d k B) (kp tn : Int) : PI (failD d kp tn) k B := by
  unfold failD
  split
  · exact h
  · obtain ⟨h1, h2, h3, h4⟩ := replay_take h (keepN d kp)
    have hts := take_sum d.ws (keepN d kp)
    have hw := h.wt
    unfold Ds.wt at hw
    have hl : (d.ws.take (keepN d kp)).length ≤ d.ws.length := by rw [List.length_take]; omega
    have key : Srt (failS d kp tn) ∧ (∀ x ∈ failS d kp tn, nameOk x.1 = true) ∧ tot (failS d kp tn) + (failS d kp tn).length ≤ B := by
      unfold failS
      cases hg : d.ws[keepN d kp]? with
      | none =>
        simp only
        exact ⟨h1, h2, by omega⟩
      | some ch =>
        simp only
        unfold tearC
        split
        · exact ⟨h1, h2, by omega⟩
        · rename_i hne
          have hk2 : ¬ ch.kind = 2 := by omega
          obtain ⟨hlt, hge⟩ := List.getElem?_eq_some_iff.1 hg
          have hmem : ch ∈ d.ws := hge ▸ List.getElem_mem hlt
          have h5 := doC_len (replay (d.ws.take (keepN d kp)) d.S) { ch with s := ch.s.take tn.toNat }
          have h6 := tot_doC h1 { ch with s := ch.s.take tn.toNat } (fun e => absurd e hk2)
          have h7 := take_sum d.ws (keepN d kp + 1)
          rw [List.take_succ_eq_append_getElem hlt, List.map_append, List.sum_append, hge] at h7
          simp only [List.map_cons, List.map_nil, List.sum_cons, List.sum_nil] at h7
          have h8 : (ch.s.take tn.toNat).length ≤ ch.s.length := by rw [List.length_take]; omega
          have h9 : (d.ws.take (keepN d kp)).length = keepN d kp := by rw [List.length_take]; omega
          refine ⟨srt_doC h1 _, fun x hx => ?_, ?_⟩
          · rcases mem_doC hx with hx | e | ⟨e2, e⟩
            · exact h2 x hx
            · rw [e]; exact (h.nW ch hmem).1
            · exact absurd e2 hk2
          · simp only at h6
            omega
    exact ⟨key.1, fun i hi => (by simp at hi), fun i hi => (by simp at hi), key.2.1, fun ch hc => (by cases hc), by show tot (failS d kp tn) + 0 + (failS d kp tn).length + 0 ≤ B; omega, h.n⟩
theorem PI.sync {d : Ds} {k B : Nat} (h : PI d k B) : PI (synD d) k B := by
  obtain ⟨h1, h2, h3⟩ := replay_bounds d.ws d.S h.srt h.mv
  have hw := h.wt
  unfold Ds.wt at hw
  exact ⟨h1, fun i hi => (by simp [synD] at hi), fun i hi => (by simp [synD] at hi), h.nm, fun ch hc => (by cases hc), by show tot (replay d.ws d.S) + 0 + (replay d.ws d.S).length + 0 ≤ B; omega, h.n⟩
/-- what may be done is a change that may be -/
theorem wrg_ok {d : Ds} {a : AC} (h0 : 0 ≤ a.kind) (h4 : a.kind ≤ 4) (hw : wrgD d a = 0) : d.dn = false ∧ nameOk a.name = true ∧ ChOk d.now (rcA a).ch ∧ ((rcA a).ch.kind = 2 ∨ (rcA a).ch.kind = 4 → (kget d.now (rcA a).ch.name).isSome = true) ∧ nameOk (rcA a).ch.name = true ∧ ((rcA a).ch.kind = 2 → nameOk (rcA a).ch.to = true) ∧ ((rcA a).kind = 4 → 0 ≤ (rcA a).long) ∧ (rcA a).ch.s.length ≤ a.s.length := by
  obtain ⟨kind, name, to, s, n, f0, f1, f2, pv⟩ := a
  simp only at h0 h4
  have h5 : kind = 0 ∨ kind = 1 ∨ kind = 2 ∨ kind = 3 ∨ kind = 4 := by omega
  unfold wrgD at hw
  simp only at hw
  have h1 : d.dn = false := by
    cases hd : d.dn with
    | false => rfl
    | true => rw [hd] at hw; simp at hw
  rw [h1, if_neg (by decide)] at hw
  have h2 : nameOk name = true ∧ (kind = 2 → nameOk to = true) := by
    by_cases hc : nameOk name = false ∨ (kind = 2 ∧ nameOk to = false)
    · rw [if_pos hc] at hw; cases hw
    · constructor
      · cases hx : nameOk name with
        | true => rfl
        | false => exact absurd (.inl hx) hc
      · intro e
        cases hx : nameOk to with
        | true => rfl
        | false => exact absurd (.inr ⟨e, hx⟩) hc
  rw [if_neg (by rintro (e | ⟨e1, e2⟩); (rw [h2.1] at e; cases e); rw [h2.2 e1] at e2; cases e2)] at hw
  have hl : name.length ≤ maxLen := by have := nameOk_len h2.1; unfold maxLen; omega
  have hnil : ([] : Bs).length ≤ maxLen := Nat.zero_le _
  refine ⟨h1, h2.1, ?_⟩
  rcases h5 with rfl | rfl | rfl | rfl | rfl
  · exact ⟨⟨(by show 0 ≤ 4; omega), hl, hnil, fun e => (by cases e), fun e => (by cases e)⟩, fun e => (by rcases e with e | e <;> cases e), h2.1, fun e => (by cases e), fun e => (by cases e), Nat.le_refl _⟩
  · exact ⟨⟨(by show 1 ≤ 4; omega), hl, hnil, fun e => (by cases e), fun e => (by cases e)⟩, fun e => (by rcases e with e | e <;> cases e), h2.1, fun e => (by cases e), fun e => (by cases e), Nat.le_refl _⟩
  · rw [if_neg (by decide), if_neg (by decide)] at hw
    by_cases h3 : (kget d.now name).isSome = false
    · rw [if_pos h3] at hw; cases hw
    · rw [if_neg h3, if_pos rfl] at hw
      have h3' : (kget d.now name).isSome = true := by revert h3; cases (kget d.now name).isSome <;> simp
      by_cases h6 : name = to
      · rw [if_pos h6] at hw; cases hw
      · have ht := h2.2 rfl
        exact ⟨⟨(by show 2 ≤ 4; omega), hl, by have := nameOk_len ht; show to.length ≤ maxLen; unfold maxLen; omega, fun _ e => h6 e.symm, fun e => (by cases e)⟩, fun _ => h3', h2.1, fun _ => ht, fun e => (by cases e), Nat.zero_le _⟩
  · rw [if_neg (by decide), if_neg (by decide)] at hw
    exact ⟨⟨(by show 3 ≤ 4; omega), hl, hnil, fun e => (by cases e), fun e => (by cases e)⟩, fun e => (by rcases e with e | e <;> cases e), h2.1, fun e => (by cases e), fun e => (by cases e), Nat.zero_le _⟩
  · rw [if_neg (by decide), if_neg (by decide)] at hw
    by_cases h3 : (kget d.now name).isSome = false
    · rw [if_pos h3] at hw; cases hw
    · rw [if_neg h3, if_neg (by decide), if_neg (by decide)] at hw
      have h3' : (kget d.now name).isSome = true := by revert h3; cases (kget d.now name).isSome <;> simp
      by_cases h6 : n < 0 ∨ ((((kget d.now name).getD []).length : Nat) : Int) < n
      · rw [if_pos h6] at hw; cases hw
      · have h7 : 0 ≤ n ∧ n ≤ ((((kget d.now name).getD []).length : Nat) : Int) := by omega
        exact ⟨⟨(by show 4 ≤ 4; omega), hl, hnil, fun e => (by cases e), fun _ => by show n.toNat ≤ ((kget d.now name).getD []).length; omega⟩, fun _ => h3', h2.1, fun e => (by cases e), fun _ => h7.1, Nat.zero_le _⟩
theorem PI.chg {d : Ds} {k B : Nat} (h : PI d k B) (ch : Chg) (hok : ChOk d.now ch) (hth : ch.kind = 2 ∨ ch.kind = 4 → (kget d.now ch.name).isSome = true) (hn : nameOk ch.name = true) (ht : ch.kind = 2 → nameOk ch.to = true) : PI (chgD d ch).1 (k + 1) (B + (ch.s.length + 1)) := by
  have hm := h.more ch hok hth hn ht
  unfold chgD
  cases d.fl.find? fun x => x.at_ = (d.n : Int) with
  | none => exact ⟨hm.srt, hm.oks, hm.there, hm.nS, hm.nW, hm.wt, by show d.n + 1 ≤ _; have := h.n; omega⟩
  | some f =>
    refine (PI.fail (d := { d.more ch with fl := offF d.fl d.n }) ⟨hm.srt, hm.oks, hm.there, hm.nS, hm.nW, hm.wt, hm.n⟩ f.keep f.torn).mono (by omega) (Nat.le_refl _)
theorem PI.call {d : Ds} {k B : Nat} (h : PI d k B) (a : AC) (h0 : 0 ≤ a.kind) (h4 : a.kind ≤ 4) : PI (calD d a).1 (k + 1) (B + (a.s.length + 1)) := by
  rw [cal_wrg d a h0 h4]
  split
  · rename_i hw
    obtain ⟨_, _, h1, h2, h3, h5, _, h6⟩ := wrg_ok h0 h4 hw
    exact (h.chg _ h1 h2 h3 h5).mono (Nat.le_refl _) (by omega)
  · exact h.mono (by omega) (by omega)
end Go.Proofs.Ytnlodlpjokkepab
namespace Go.Proofs.Ytnlodlpjokkepab
open Go.RowKit Go.Maps
set_option linter.unusedVariables false
set_option linter.unusedSimpArgs false


theorem equalIn_bsl_nil (w : World) (d : Nat) (ad : Option Addr) (n c : Nat) : (Op.equalIn (d + 1) 94 (.slice ad n c) (.slice none 0 0)).run Try.prog w = .ok ad.isNone w := by
  cases ad <;> simp [Op.equalIn, run_underlying Try.underlying94]
theorem eql_bsl_nil (w : World) (ad : Option Addr) (n c : Nat) : (binOp .eql 94 (.slice ad n c) (.slice none 0 0)).run Try.prog w = .ok (.bool ad.isNone) w := by
  simp only [binOp]
  simp [show Op.equal 94 (.slice ad n c) (.slice none 0 0) = Op.equalIn (9999 + 1) 94 (.slice ad n c) (.slice none 0 0) from rfl, equalIn_bsl_nil w 9999 ad n c]
theorem equalIn_wsl_nil (w : World) (d : Nat) (ad : Option Addr) (n c : Nat) : (Op.equalIn (d + 1) 70 (.slice ad n c) (.slice none 0 0)).run Try.prog w = .ok ad.isNone w := by
  cases ad <;> simp [Op.equalIn, run_underlying Try.underlying70]
theorem eql_wsl_nil (w : World) (ad : Option Addr) (n c : Nat) : (binOp .eql 70 (.slice ad n c) (.slice none 0 0)).run Try.prog w = .ok (.bool ad.isNone) w := by
  simp only [binOp]
  simp [show Op.equal 70 (.slice ad n c) (.slice none 0 0) = Op.equalIn (9999 + 1) 70 (.slice ad n c) (.slice none 0 0) from rfl, equalIn_wsl_nil w 9999 ad n c]

set_option maxRecDepth 100000 in
set_option maxHeartbeats 1000000 in
theorem bclone_none (w : World) : Calls Try.prog 70 #[.slice none 0 0] w fun e w' => e = .returned (.slice none 0 0) ∧ w' = w := by
  have he := eql_bsl_nil w none 0 0
  go_enter Try.func70, Try.ntmps70
  go_wp2
  go_ret
  exact ⟨rfl, rfl⟩

theorem keep_below' {w w1 w2 : World} (k : Keep (fun _ => False) w w1) (h : Below w.heap.size w1 w2) : Keep (fun _ => False) w w2 :=
  ⟨h.os.trans k.os, h.tape.trans k.tape, h.output.trans k.output, Nat.le_trans k.size h.size, fun j hj hn => (h.block j hj).trans (k.block j hj hn)⟩
/-- 'append(b, x...)' at the operation, whatever x is -/
theorem wpl_bcat {w : World} {ops : Array Oper} {rest : List Oper} {o : Oper} {a : Act} {Q : Exit → Act → World → Prop} (hgd : o.guard = none) (sl x : Operand)
    (ho : o.op = .call { callee := .builtin .append, args := #[sl, x], argTypes := #[94, 94] }) (base : Nat) (v xv : Value) (L M : List UInt8) (hs : a.eval sl = v) (hx : a.eval x = xv)
    (h0 : BSl w base v L) (hb : base ≤ w.heap.size) (hl : L.length + M.length ≤ 140737488355328) (hsrc : Src Try.prog 1 94 xv M.length (bs M) w) (hM : M ≠ [])
    (h : ∀ v' w', BSl w' base v' (L ++ M) → Below base w w' → wpList Try.prog ops Q rest (a.put o.dst v') w') : wpList Try.prog ops Q (o :: rest) a w := by
  refine wpList_plain hgd fun K hK => ?_
  obtain ⟨v', w', hr, h2, h3⟩ := bsl_append w base v L 94 xv M o.type h0 hb hl hsrc hM
  unfold Oper.wp execOp
  simp only [ho, resolve, invoke, builtin, Sem.run_bind, Sem.run_pure, Result.andThen_ok, List.map_toArray, List.map_cons, List.map_nil, hs, hx, hr]
  exact hK _ _ (h v' w' h2 h3)
theorem bsl_brow {w : World} {base : Nat} {v : Value} {L : Bs} (h : BSl w base v L) (hL : L ≠ []) : BRow w base v L := by
  rcases h with ⟨_, e⟩ | h
  · exact absurd e hL
  · exact h
set_option maxRecDepth 100000 in
set_option maxHeartbeats 1000000 in
theorem bclone_some (g cap : Nat) (L : Bs) (w : World) (h : BRow w 0 (.slice (some ⟨g, 0, none⟩) L.length cap) L) (hl : L.length ≤ 70368744177) :
    Calls Try.prog 70 #[.slice (some ⟨g, 0, none⟩) L.length cap] w fun e w' => ∃ v', e = .returned v' ∧ BRow w' w.heap.size v' L ∧ Keep (fun _ => False) w w' := by
  by_cases hL : L = []
  · subst hL
    have HB : Hid (BRow (w.alloc (.cells #[] 5)) w.heap.size (.slice (some ⟨w.heap.size, 0, none⟩) 0 0) []) := ⟨w.heap.size, 0, rfl, Nat.le_refl _, by simp, Nat.le_refl _, fun j hj => absurd hj (by simp), fun j hj => absurd hj (by omega)⟩
    have he := eql_bsl_nil w (some ⟨g, 0, none⟩) 0 cap
    clear h
    simp only [List.length_nil]
    go_enter Try.func70, Try.ntmps70
    go_wp2
    go_ret
    exact ⟨_, rfl, HB.out, keep_alloc _ _ _⟩
  · have he := eql_bsl_nil w (some ⟨g, 0, none⟩) L.length cap
    have HLL : Hid (([] : Bs).length + L.length ≤ 140737488355328) := by show _ ≤ _; simp; omega
    have HNE := hid hL
    have HB0 : Hid (BSl (w.alloc (.cells #[] 5)) w.heap.size (.slice (some ⟨w.heap.size, 0, none⟩) 0 0) []) := .inr ⟨w.heap.size, 0, rfl, Nat.le_refl _, by simp, Nat.le_refl _, fun j hj => absurd hj (by simp), fun j hj => absurd hj (by omega)⟩
    have HSZ : Hid (w.heap.size ≤ (w.alloc (.cells #[] 5)).heap.size) := by show _ ≤ _; simp
    have HSR : Hid (Src Try.prog 1 94 (.slice (some ⟨g, 0, none⟩) L.length cap) L.length (bs L) (w.alloc (.cells #[] 5))) := by
      obtain ⟨g', cap', e, h1, h2, h3, h4, h5⟩ := h
      injection e with e1 e2 e3
      injection e1 with e1
      injection e1 with e1
      subst e1
      refine Src.ofSlice _ Try.underlying94 _ _ _ _ (by rw [bs_len, Nat.mul_one]) (fun j u hu => ?_) (bs_cell1 L)
      have hj : j < L.length := by have := (List.getElem?_eq_some_iff.1 hu).1; rwa [bs_len] at this
      rw [bs_get L j hj] at hu
      rw [Addr.add_lit, Nat.zero_add, (keep_alloc (fun _ => False) w (.cells #[] 5)).cell h2 (fun h => h), h4 j hj]
      exact hu
    clear h hL
    go_enter Try.func70, Try.ntmps70
    go_wp2_with (at_builtin; refine wpl_bcat rfl _ _ rfl w.heap.size _ _ [] L rfl rfl HB0.out HSZ.out HLL.out HSR.out HNE.out ?_; intro v' w' hb' hbl)
    have HB := hid (bsl_brow hb' (by rw [List.nil_append]; exact HNE.out))
    have HK : Hid (Keep (fun _ => False) w w') := keep_below' ((keep_alloc (fun _ => False) w (.cells #[] 5))) hbl
    clear hb' hbl HSR HB0 he
    go_wp2
    go_ret
    exact ⟨_, rfl, HB.out, HK.out⟩

theorem equalIn_fmap_nil (w : World) (d : Nat) (p : Option Nat) : (Op.equalIn (d + 1) 71 (.map p) (.map none)).run Try.prog w = .ok p.isNone w := by
  cases p <;> simp [Op.equalIn, run_underlying Try.underlying71]
theorem eql_fmap_nil (w : World) (p : Option Nat) : (binOp .eql 71 (.map p) (.map none)).run Try.prog w = .ok (.bool p.isNone) w := by
  simp only [binOp]
  simp [show Op.equal 71 (.map p) (.map none) = Op.equalIn (9999 + 1) 71 (.map p) (.map none) from rfl, equalIn_fmap_nil w 9999 p]
set_option maxRecDepth 100000 in
theorem fclone_some (b : Nat) (es : Array MapEntry) (clock : Nat) (w : World) (hb : w.heap[b]? = some (.map es clock)) :
    Calls Try.prog 58 #[.map (some b)] w fun e w' => e = .returned (.map (some w.heap.size)) ∧ w' = w.alloc (.map es clock) := by
  have he := eql_fmap_nil w (some b)
  go_enter Try.func58, Try.ntmps58
  go_wp2
  rw [run_callFunc_extern Try.func71 (by kernel_rfl) (by kernel_rfl) (by kernel_rfl) (e := Extern.MapsClone.clone) (by kernel_rfl), run_maps_clone_sl w 71 hb]
  simp only [Result.andThen]
  rw [Oper.upon_value]
  go_wp2
  rw [run_typeAssert_map_sl _ 71 20 _ _ _ Try.underlying71]
  simp only [Result.andThen]
  rw [Oper.upon_value]
  go_wp2
  go_ret
  exact ⟨rfl, rfl⟩
set_option maxRecDepth 100000 in
theorem fclone_none (w : World) : Calls Try.prog 58 #[.map none] w fun e w' => e = .returned (.map none) ∧ w' = w := by
  have he := eql_fmap_nil w none
  go_enter Try.func58, Try.ntmps58
  go_wp2
  go_ret
  exact ⟨rfl, rfl⟩
end Go.Proofs.Ytnlodlpjokkepab
namespace Go.Proofs.Ytnlodlpjokkepab
open Go.RowKit Go.Maps
set_option linter.unusedVariables false
set_option linter.unusedSimpArgs false

/-- a slice's type, its elements' type, their cells and bytes -/
structure ElT (st e size bytes : Nat) : Prop where
  und : Try.prog.underlying st = some (.slice e)
  inf : ∃ z, (Try.prog.info? e).map (fun i => (i.zero, i.size, i.bytes)) = some (some z, size, bytes) ∧ z.cells.size = size
  pos : 0 < size
/-- cells that are read from a slice -/
def GSrc (w : World) (x : Value) (m : Nat) (cs : List Value) : Prop := (∃ c, x = .slice none 0 c ∧ m = 0 ∧ cs = []) ∨ ∃ g off c, x = .slice (some ⟨g, off, none⟩) m c ∧ g < w.heap.size ∧ ∀ j u, cs[j]? = some u → w.cell? ⟨g, off + j, none⟩ = some u
theorem GSrc.keep {w w' : World} {x : Value} {m : Nat} {cs : List Value} (h : GSrc w x m cs) (S : Nat → Prop) (k : Keep S w w') (hS : ∀ g, g < w.heap.size → ¬ S g) : GSrc w' x m cs := by
  rcases h with h | ⟨g, off, c, e, hg, hc⟩
  · exact .inl h
  · exact .inr ⟨g, off, c, e, Nat.lt_of_lt_of_le hg k.size, fun j u hu => (k.cell hg (hS g hg)).trans (hc j u hu)⟩
theorem grow_at {w : World} {B e size n g cap k : Nat} {xs : List Value} {u : Value} (h : w.ownsRow B e size (.slice (some ⟨g, 0, none⟩) n cap) n xs) (hk : xs[k]? = some u) : w.cell? ⟨g, k, none⟩ = some u := by
  obtain ⟨h1, h2⟩ := h
  rcases h2 with ⟨e0, _⟩ | ⟨g', cap', cur, e0, hg, hb, hn, hm, hs, ht⟩
  · injection e0 with e0; cases e0
  · injection e0 with e1 e2 e3
    injection e1 with e1
    injection e1 with e1
    subst e1
    have hkl : k < xs.length := (List.getElem?_eq_some_iff.1 hk).1
    rw [cell_of_row _ _ _ _ _ _ hb, ← hk, ← ht, List.getElem?_take_of_lt (by omega)]
    simp
theorem gsrc_all {w : World} {B e size n : Nat} {v : Value} {xs : List Value} (h : w.ownsRow B e size v n xs) : GSrc w v n xs := by
  rcases h.2 with ⟨e0, h0⟩ | ⟨g, cap, cur, e0, _, hb, hn, _⟩
  · exact .inl ⟨0, e0, h0, List.length_eq_zero_iff.1 (by rw [h.1, h0, Nat.zero_mul])⟩
  · refine .inr ⟨g, 0, cap, e0, (Array.getElem?_eq_some_iff.1 hb).1, fun j u hu => ?_⟩
    rw [Nat.zero_add]
    exact grow_at (e0 ▸ h) hu
theorem gsrc_to {st e size bytes : Nat} (T : ElT st e size bytes) {w : World} {v : Value} {xs : List Value} {B n : Nat} (h : w.ownsRow B e size v n xs) (k : Nat) (hk : k ≤ n) : ∃ x, GSrc w x k (xs.take (k * size)) ∧ ∀ W : World, (Instr.slice st v none (some (.int .i64 (k : Int))) none).run Try.prog W = .ok x W := by
  obtain ⟨z, hz, _⟩ := T.inf
  obtain ⟨i0, hi, _⟩ := Option.map_eq_some_iff.1 hz
  rcases h.2 with ⟨e0, h0⟩ | ⟨g, cap, cur, e0, _, hb, hn, _⟩
  · have hk0 : k = 0 := by omega
    subst hk0 e0
    refine ⟨.slice none 0 0, .inl ⟨0, rfl, rfl, by simp⟩, fun W => ?_⟩
    simp [Instr.slice, Instr.sliceBounds, Instr.sliceBound, asIntOf, run_underlying T.und, sizeOf, typeInfo, hi, Result.andThen]
  · refine ⟨.slice (some ⟨g, 0, none⟩) k cap, .inr ⟨g, 0, cap, rfl, (Array.getElem?_eq_some_iff.1 hb).1, fun j u hu => ?_⟩, fun W => ?_⟩
    · have hr := h
      rw [e0] at hr
      rw [Nat.zero_add]
      refine grow_at hr ?_
      have hj := (List.getElem?_eq_some_iff.1 hu).1
      rw [List.length_take] at hj
      rw [List.getElem?_take_of_lt (by omega)] at hu
      exact hu
    · have e1 : (0 : Int) ≤ (k : Int) := by omega
      have e2 : k ≤ cap := by omega
      have e3 : (⟨g, 0, none⟩ : Addr).add 0 = ⟨g, 0, none⟩ := rfl
      simp [Instr.slice, Instr.sliceBounds, Instr.sliceBound, asIntOf, run_underlying T.und, sizeOf, typeInfo, hi, Result.andThen, e0, e1, e2, e3]
theorem gsrc_from {st e size bytes : Nat} (T : ElT st e size bytes) {w : World} {v : Value} {xs : List Value} {B n : Nat} (h : w.ownsRow B e size v n xs) (k : Nat) (hk : k ≤ n) : ∃ x, GSrc w x (n - k) (xs.drop (k * size)) ∧ ∀ W : World, (Instr.slice st v (some (.int .i64 (k : Int))) none none).run Try.prog W = .ok x W := by
  obtain ⟨z, hz, _⟩ := T.inf
  obtain ⟨i0, hi, hi2⟩ := Option.map_eq_some_iff.1 hz
  simp only [Prod.mk.injEq] at hi2
  obtain ⟨_, hi3, _⟩ := hi2
  rcases h.2 with ⟨e0, h0⟩ | ⟨g, cap, cur, e0, _, hb, hn, _⟩
  · have hk0 : k = 0 := by omega
    subst hk0 e0
    refine ⟨.slice none 0 0, .inl ⟨0, rfl, by omega, List.length_eq_zero_iff.1 (by rw [List.length_drop, h.1, h0]; omega)⟩, fun W => ?_⟩
    simp [Instr.slice, Instr.sliceBounds, Instr.sliceBound, asIntOf, run_underlying T.und, sizeOf, typeInfo, hi, Result.andThen]
  · have e1 : (0 : Int) ≤ (k : Int) := by omega
    have hlt := (Array.getElem?_eq_some_iff.1 hb).1
    by_cases hc : cap = k
    · have hkA : k = n := by omega
      refine ⟨.slice (some ⟨g, 0, none⟩) (n - k) (cap - k), .inr ⟨g, 0, _, rfl, hlt, fun j u hu => ?_⟩, fun W => ?_⟩
      · have hj := (List.getElem?_eq_some_iff.1 hu).1
        rw [List.length_drop, h.1, hkA] at hj
        omega
      · simp [Instr.slice, Instr.sliceBounds, Instr.sliceBound, asIntOf, run_underlying T.und, sizeOf, typeInfo, hi, Result.andThen, e0, e1, hk, hc]
    · refine ⟨.slice (some ⟨g, k * size, none⟩) (n - k) (cap - k), .inr ⟨g, k * size, _, rfl, hlt, fun j u hu => ?_⟩, fun W => ?_⟩
      · have hr := h
        rw [e0] at hr
        refine grow_at hr ?_
        rw [List.getElem?_drop] at hu
        exact hu
      · have e3 : (⟨g, 0, none⟩ : Addr).add (k * size) = ⟨g, k * size, none⟩ := by rw [Addr.add_lit, Nat.zero_add]
        simp [Instr.slice, Instr.sliceBounds, Instr.sliceBound, asIntOf, run_underlying T.und, sizeOf, typeInfo, hi, Result.andThen, e0, e1, hk, hc, hi3, e3]
theorem gapp {st e size bytes : Nat} (T : ElT st e size bytes) {w : World} {B n m : Nat} {v x : Value} {xs cs : List Value} (ty : TypeId) (h0 : w.ownsRow B e size v n xs) (hB : B ≤ w.heap.size) (hx : GSrc w x m cs) (hcs : cs.length = m * size) (h1 : ∀ u ∈ cs, u.oneCell' = true) (hm : n + m ≤ 70368744177) (hl : (n + m) * bytes ≤ 140737488355328) :
    ∃ ad' cap' w', (Builtin.append_ #[st, st] ty #[v, x]).run Try.prog w = .ok (.slice ad' (n + m) cap') w' ∧ w'.ownsRow B e size (.slice ad' (n + m) cap') (n + m) (xs ++ cs) ∧ Keep (fun k => v.ownBlock = some k) w w' := by
  obtain ⟨z, hz, hzc⟩ := T.inf
  obtain ⟨i0, hi, hz0, hz1, hz2⟩ := info_parts hz
  rcases hx with ⟨c, rfl, rfl, rfl⟩ | ⟨g, off, c, rfl, hg, hc⟩
  · obtain ⟨ad, cap, rfl⟩ := row_form h0
    have hle : n ≤ cap := by
      rcases h0.2 with ⟨e0, h⟩ | ⟨g, cap', cur, e0, _, _, h, _⟩
      · omega
      · injection e0 with _ _ e3; omega
    refine ⟨ad, cap, w, ?_, by simpa using h0, Keep.refl _ _⟩
    cases ad <;> simp [Builtin.append_, run_underlying T.und, sizeOf, typeInfo, hi, Builtin.lenOf, Builtin.firstCells, hle, storeCells]
  · obtain ⟨v', w', hr, h2, h3, h4, h5⟩ := run_append_own_at (P := Try.prog) w B st ty e i0 _ size bytes T.und hi hz0 hz1 hz2 hzc T.pos v n xs h0 ⟨g, off, none⟩ m c cs hcs
      (fun j u hu => by rw [Addr.add_lit]; exact hc j u hu) h1 (by unfold maxLen; omega) hl hB
    obtain ⟨ad', cap', rfl⟩ := row_form h2
    exact ⟨ad', cap', w', hr, h2, ⟨h3.os, h3.tape, h3.output, h3.size, fun k hk hn => h3.block k hk (fun e => hn e.symm)⟩⟩
theorem wpl_gapp {w : World} {ops : Array Oper} {rest : List Oper} {o : Oper} {a : Act} {Q : Exit → Act → World → Prop} (hgd : o.guard = none) (sl x : Operand) {st e size bytes : Nat} (T : ElT st e size bytes)
    (ho : o.op = .call { callee := .builtin .append, args := #[sl, x], argTypes := #[st, st] }) (B : Nat) (v xv : Value) (xs cs : List Value) (n m nm : Nat) (hnm : n + m = nm)
    (hs : a.eval sl = v) (hx : a.eval x = xv) (h0 : w.ownsRow B e size v n xs) (hB : B ≤ w.heap.size) (hX : GSrc w xv m cs) (hcs : cs.length = m * size) (h1 : ∀ u ∈ cs, u.oneCell' = true) (hl : nm ≤ 70368744177) (hby : nm * bytes ≤ 140737488355328)
    (h : ∀ ad' cap' w', w'.ownsRow B e size (.slice ad' nm cap') nm (xs ++ cs) → Keep (fun k => v.ownBlock = some k) w w' → wpList Try.prog ops Q rest (a.put o.dst (.slice ad' nm cap')) w') : wpList Try.prog ops Q (o :: rest) a w := by
  subst hnm
  refine wpList_plain hgd fun K hK => ?_
  obtain ⟨ad', cap', w', hr, h2, h3⟩ := gapp T o.type h0 hB hX hcs h1 hl hby
  unfold Oper.wp execOp
  simp only [ho, resolve, invoke, builtin, Sem.run_bind, Sem.run_pure, Result.andThen_ok, List.map_toArray, List.map_cons, List.map_nil, hs, hx, hr]
  exact hK _ _ (h ad' cap' w' h2 h3)
/-- the same in a region that draws its order -/
theorem step_gapp {w w0 : World} {ops : Array Oper} {o : Oper} {a : Act} {K : Act → World → Prop} {Q : Exit → Act → World → Prop} {E : Prop} (hgd : o.guard = none) (sl x : Operand) {st e size bytes : Nat} (T : ElT st e size bytes)
    (ho : o.op = .call { callee := .builtin .append, args := #[sl, x], argTypes := #[st, st] }) (B : Nat) (v xv : Value) (xs cs : List Value) (n m nm : Nat) (hnm : n + m = nm) (hk : Keep (fun _ => False) w0 w)
    (hs : a.eval sl = v) (hx : a.eval x = xv) (h0 : w0.ownsRow B e size v n xs) (hB : B ≤ w0.heap.size) (hX : GSrc w0 xv m cs) (hcs : cs.length = m * size) (h1 : ∀ u ∈ cs, u.oneCell' = true) (hl : nm ≤ 70368744177) (hby : nm * bytes ≤ 140737488355328)
    (h : ∀ ad' cap' w', w'.ownsRow B e size (.slice ad' nm cap') nm (xs ++ cs) → Keep (fun k => v.ownBlock = some k) w0 w' → K (a.put o.dst (.slice ad' nm cap')) w') : if Region.wanted o (yielded ops a.tmps) = true then Oper.wp Try.prog o a w K Q else E := by
  subst hnm
  have hwn : Region.wanted o (yielded ops a.tmps) = true := by simp [Region.wanted, hgd]
  rw [if_pos hwn]
  obtain ⟨ad', cap', w', hr, h2, h3⟩ := gapp T o.type (hk.ownsRow h0 (fun _ _ h => h)) (Nat.le_trans hB hk.size) (hX.keep _ hk (fun _ _ h => h)) hcs h1 hl hby
  unfold Oper.wp execOp
  simp only [ho, resolve, invoke, builtin, Sem.run_bind, Sem.run_pure, Result.andThen_ok, List.map_toArray, List.map_cons, List.map_nil, hs, hx, hr, Oper.upon]
  exact h ad' cap' w' h2 ((hk.mono (fun _ _ h => h.elim)).trans h3)
/-- a row without cells, of the call's own -/
theorem own_empty {W : World} {g B e size : Nat} (hb : W.heap[g]? = some (.cells #[] e (0, 0))) (hB : B ≤ g) : W.ownsRow B e size (.slice (some ⟨g, 0, none⟩) 0 0) 0 [] :=
  ⟨by simp, .inr ⟨g, 0, #[], rfl, hB, hb, Nat.le_refl _, by simp⟩⟩
theorem gsrc_block {W : World} {g m c e : Nat} {cs : List Value} (hb : W.heap[g]? = some (.cells cs.toArray e (0, 0))) : GSrc W (.slice (some ⟨g, 0, none⟩) m c) m cs :=
  .inr ⟨g, 0, c, rfl, (Array.getElem?_eq_some_iff.1 hb).1, fun j u hu => by rw [Nat.zero_add, cell_of_row _ _ _ _ _ _ hb]; simpa using hu⟩
end Go.Proofs.Ytnlodlpjokkepab
namespace Go.Proofs.Ytnlodlpjokkepab
open Go.RowKit Go.Maps
set_option linter.unusedVariables false
set_option linter.unusedSimpArgs false

/-- what a name's file is found by, and all files' bytes, in worlds further on -/
structure WrIn (w : World) (D : Value) (A : List (Bs × Bs)) (name : Bs) : Prop where
  now : ∀ W, Keep (fun _ => False) w W → Calls Try.prog 42 #[D] W fun e w' => ∃ ad cap, e = .returned (.slice ad A.length cap) ∧ FileRow w' 0 (.slice ad A.length cap) A ∧ Keep (fun _ => False) W w'
  used : ∀ W, Keep (fun _ => False) w W → Calls Try.prog 43 #[D] W fun e w' => e = .returned (.int .i64 ((tot A : Nat) : Int)) ∧ Keep (fun _ => False) W w'
  find : ∀ W ad cap, FileRow W 0 (.slice ad A.length cap) A → Calls Try.prog 61 #[.slice ad A.length cap, .string (tx name)] W fun e w' => Keep (fun _ => False) W w' ∧ ((∃ k : Nat, e = .returned (.tuple #[.int .i64 (k : Int), .bool false]) ∧ kget A name = none) ∨
      ∃ (k : Nat) (g : Nat) (t : Bs), e = .returned (.tuple #[.int .i64 (k : Int), .bool true]) ∧ kget A name = some t ∧ ad = some ⟨g, 0, none⟩ ∧ (0 : Int) ≤ (k : Int) ∧ (k : Int) < (A.length : Int) ∧ w'.cell? ⟨g, k * 2 + 1, none⟩ = some (.string (tx t)))
theorem wr_in {w : World} {su wa fa : Value} {ms : List RC} {d : Ds} (n : Nat) (dn : Bool) (rm : Int) (hR : RefIs w su wa fa ms d) (hN : NowOk d) (name : Bs) : WrIn w (rdV su wa n dn fa rm) d.now name := by
  obtain ⟨_, hln, hsr⟩ := hN.tot
  refine ⟨fun W hW => (now_any su wa fa ms d n dn rm W (hR.keep hW) hN).mono fun e w' ⟨v', he, hr, hk⟩ => ?_, fun W hW => rused_any su wa fa ms d n dn rm W (hR.keep hW) hN, fun W ad cap h => (find_at name h (by omega) hsr W (Keep.refl _ _)).mono fun e w' ⟨h1, _, h2⟩ => ⟨h1, ?_⟩⟩
  · obtain ⟨ad, cap, rfl⟩ := row_form hr
    exact ⟨ad, cap, he, hr, hk⟩
  · rcases h2 with h2 | ⟨k, g, cap', t, h3, h4, h5, h6⟩
    · exact .inl h2
    · injection h5 with h5 _ _
      exact .inr ⟨k, g, t, h3, h4, h5, h6⟩
theorem tx_beq0 (s : Bs) : ((tx s).toList == []) = decide (s = []) := by
  rw [ByteArray.toList_eq, tx_list, Bool.eq_iff_iff]
  simp
theorem tx_bne0 (s : Bs) : ((tx s).toList != []) = !decide (s = []) := by
  show (!((tx s).toList == [])) = _
  rw [tx_beq0]
set_option maxRecDepth 100000 in
set_option maxHeartbeats 4000000 in
theorem wrong_3 (a1 a2 a3 : Option Addr) (x1 c1 x2 c2 b3 c3 n : Nat) (rm : Int) (name to s : Bs) (ln : Int) (A : List (Bs × Bs)) (w : World) (hI : WrIn w (.agg #[.slice a1 x1 c1, .slice a2 x2 c2, .int .i64 (n : Int), .bool false, .slice a3 b3 c3, .int .i64 rm]) A name) (hnm : nameOk name = true) (hlA : A.length ≤ 7036874417) (hT : tot A ≤ 7036874417) (hls : s.length ≤ 70368744177) (r : Int) (hr : r = (if (kget A name).isSome = false then 4 else 0)) :
    Calls Try.prog 59 #[.agg #[.slice a1 x1 c1, .slice a2 x2 c2, .int .i64 (n : Int), .bool false, .slice a3 b3 c3, .int .i64 rm], .agg #[.int .i64 3, .string (tx name), .string (tx to), .string (tx s), .int .i64 ln]] w fun e w' => e = .returned (.int .i64 r) ∧ Keep (fun _ => False) w w' := by
  have HI := hid hI
  have HA := hid hr
  have NA := hid (fun W : World => rname_any (tx name) W)
  rw [tx_list, hnm] at NA
  clear hI hr hnm
  go_enter Try.func59, Try.ntmps59
  go_wp2_with fail
  refine (NA.out _).mono ?_
  rintro e w1 ⟨rfl, rfl⟩
  clear NA
  go_wp2_with fail
  have hsz : (w.alloc (.cells #[.slice a1 x1 c1, .slice a2 x2 c2, .int .i64 (n : Int), .bool false, .slice a3 b3 c3, .int .i64 rm] 30)).heap.size = w.heap.size + 1 := by simp
  have hk0 : Keep (fun _ => False) w ((w.alloc (.cells #[.slice a1 x1 c1, .slice a2 x2 c2, .int .i64 (n : Int), .bool false, .slice a3 b3 c3, .int .i64 rm] 30)).alloc (.cells #[.int .i64 3, .string (tx name), .string (tx to), .string (tx s), .int .i64 ln] 77)) := (keep_alloc _ _ _).trans (keep_alloc _ _ _)
  have rd : RowIs ((w.alloc (.cells #[.slice a1 x1 c1, .slice a2 x2 c2, .int .i64 (n : Int), .bool false, .slice a3 b3 c3, .int .i64 rm] 30)).alloc (.cells #[.int .i64 3, .string (tx name), .string (tx to), .string (tx s), .int .i64 ln] 77)) w.heap.size [.slice a1 x1 c1, .slice a2 x2 c2, .int .i64 (n : Int), .bool false, .slice a3 b3 c3, .int .i64 rm] 30 := RowIs.keep (heap_alloc_new _ _) (keep_alloc (fun _ => False) _ _) (fun h => h)
  have rc : RowIs ((w.alloc (.cells #[.slice a1 x1 c1, .slice a2 x2 c2, .int .i64 (n : Int), .bool false, .slice a3 b3 c3, .int .i64 rm] 30)).alloc (.cells #[.int .i64 3, .string (tx name), .string (tx to), .string (tx s), .int .i64 ln] 77)) (w.heap.size + 1) [.int .i64 3, .string (tx name), .string (tx to), .string (tx s), .int .i64 ln] 77 := by rw [← hsz]; exact heap_alloc_new _ _
  generalize (w.alloc (.cells #[.slice a1 x1 c1, .slice a2 x2 c2, .int .i64 (n : Int), .bool false, .slice a3 b3 c3, .int .i64 rm] 30)).alloc (.cells #[.int .i64 3, .string (tx name), .string (tx to), .string (tx s), .int .i64 ln] 77) = w0 at *
  refine (HI.out.now w0 hk0).mono ?_
  rintro e w2 ⟨ad, cap, rfl, hr, hk⟩
  have rd2 := rd.keep hk (fun h => h)
  have rc2 := rc.keep hk (fun h => h)
  have c1 := rc2.cellAt (o := 1) rfl
  have F1 := hid (HI.out.find w2 ad cap hr)
  have HK2 := hid (hk0.trans hk)
  clear hk0 rd rc hr hk hsz
  go_wp2_with fail
  refine F1.out.mono ?_
  rintro e w3 ⟨hk3, hor⟩
  have HK3 := hid (HK2.out.trans hk3)
  have rd3 := rd2.keep hk3 (fun h => h)
  have rc3 := rc2.keep hk3 (fun h => h)
  clear F1 HK2 rd2 rc2 c1 hk3
  have d0 := rd3.cellAt (o := 0) rfl
  have d1 := rd3.cellAt (o := 1) rfl
  have d2 := rd3.cellAt (o := 2) rfl
  have d3 := rd3.cellAt (o := 3) rfl
  have d4 := rd3.cellAt (o := 4) rfl
  have d5 := rd3.cellAt (o := 5) rfl
  have k0 := rc3.cellAt (o := 0) rfl
  have k1 := rc3.cellAt (o := 1) rfl
  have k2 := rc3.cellAt (o := 2) rfl
  have k3 := rc3.cellAt (o := 3) rfl
  have k4 := rc3.cellAt (o := 4) rfl
  have HRD := hid rd3
  have HRC := hid rc3
  clear rd3 rc3
  rcases hor with ⟨k, rfl, hg⟩ | ⟨k, g, t, rfl, hg, rfl, hk0, hk1, q1⟩
  · clear HI HRD HRC
    go_wp2
    go_quiet (fail)
    go_wp2
    go_quiet (fail)
    go_wp2
    go_ret
    exact ⟨ret_int (by rw [HA.out, hg]; rfl), HK3.out.trans (keep_drewN _ _)⟩
  · clear HI HRD HRC
    go_wp2
    go_quiet (fail)
    go_wp2
    go_quiet (fail)
    go_wp2
    go_ret
    exact ⟨ret_int (by rw [HA.out, hg]; rfl), HK3.out.trans (keep_drewN _ _)⟩
set_option maxRecDepth 100000 in
set_option maxHeartbeats 4000000 in
theorem wrong_4 (a1 a2 a3 : Option Addr) (x1 c1 x2 c2 b3 c3 n : Nat) (rm : Int) (name to s : Bs) (ln : Int) (A : List (Bs × Bs)) (w : World) (hI : WrIn w (.agg #[.slice a1 x1 c1, .slice a2 x2 c2, .int .i64 (n : Int), .bool false, .slice a3 b3 c3, .int .i64 rm]) A name) (hnm : nameOk name = true) (hlA : A.length ≤ 7036874417) (hT : tot A ≤ 7036874417) (hls : s.length ≤ 70368744177) (r : Int) (hr : r = (if (kget A name).isSome = false then 4 else if ln < 0 ∨ ((((kget A name).getD []).length : Nat) : Int) < ln then 1 else 0)) :
    Calls Try.prog 59 #[.agg #[.slice a1 x1 c1, .slice a2 x2 c2, .int .i64 (n : Int), .bool false, .slice a3 b3 c3, .int .i64 rm], .agg #[.int .i64 4, .string (tx name), .string (tx to), .string (tx s), .int .i64 ln]] w fun e w' => e = .returned (.int .i64 r) ∧ Keep (fun _ => False) w w' := by
  have HI := hid hI
  have HA := hid hr
  have NA := hid (fun W : World => rname_any (tx name) W)
  rw [tx_list, hnm] at NA
  clear hI hr hnm
  go_enter Try.func59, Try.ntmps59
  go_wp2_with fail
  refine (NA.out _).mono ?_
  rintro e w1 ⟨rfl, rfl⟩
  clear NA
  go_wp2_with fail
  have hsz : (w.alloc (.cells #[.slice a1 x1 c1, .slice a2 x2 c2, .int .i64 (n : Int), .bool false, .slice a3 b3 c3, .int .i64 rm] 30)).heap.size = w.heap.size + 1 := by simp
  have hk0 : Keep (fun _ => False) w ((w.alloc (.cells #[.slice a1 x1 c1, .slice a2 x2 c2, .int .i64 (n : Int), .bool false, .slice a3 b3 c3, .int .i64 rm] 30)).alloc (.cells #[.int .i64 4, .string (tx name), .string (tx to), .string (tx s), .int .i64 ln] 77)) := (keep_alloc _ _ _).trans (keep_alloc _ _ _)
  have rd : RowIs ((w.alloc (.cells #[.slice a1 x1 c1, .slice a2 x2 c2, .int .i64 (n : Int), .bool false, .slice a3 b3 c3, .int .i64 rm] 30)).alloc (.cells #[.int .i64 4, .string (tx name), .string (tx to), .string (tx s), .int .i64 ln] 77)) w.heap.size [.slice a1 x1 c1, .slice a2 x2 c2, .int .i64 (n : Int), .bool false, .slice a3 b3 c3, .int .i64 rm] 30 := RowIs.keep (heap_alloc_new _ _) (keep_alloc (fun _ => False) _ _) (fun h => h)
  have rc : RowIs ((w.alloc (.cells #[.slice a1 x1 c1, .slice a2 x2 c2, .int .i64 (n : Int), .bool false, .slice a3 b3 c3, .int .i64 rm] 30)).alloc (.cells #[.int .i64 4, .string (tx name), .string (tx to), .string (tx s), .int .i64 ln] 77)) (w.heap.size + 1) [.int .i64 4, .string (tx name), .string (tx to), .string (tx s), .int .i64 ln] 77 := by rw [← hsz]; exact heap_alloc_new _ _
  generalize (w.alloc (.cells #[.slice a1 x1 c1, .slice a2 x2 c2, .int .i64 (n : Int), .bool false, .slice a3 b3 c3, .int .i64 rm] 30)).alloc (.cells #[.int .i64 4, .string (tx name), .string (tx to), .string (tx s), .int .i64 ln] 77) = w0 at *
  refine (HI.out.now w0 hk0).mono ?_
  rintro e w2 ⟨ad, cap, rfl, hr, hk⟩
  have rd2 := rd.keep hk (fun h => h)
  have rc2 := rc.keep hk (fun h => h)
  have c1 := rc2.cellAt (o := 1) rfl
  have F1 := hid (HI.out.find w2 ad cap hr)
  have HK2 := hid (hk0.trans hk)
  clear hk0 rd rc hr hk hsz
  go_wp2_with fail
  refine F1.out.mono ?_
  rintro e w3 ⟨hk3, hor⟩
  have HK3 := hid (HK2.out.trans hk3)
  have rd3 := rd2.keep hk3 (fun h => h)
  have rc3 := rc2.keep hk3 (fun h => h)
  clear F1 HK2 rd2 rc2 c1 hk3
  have d0 := rd3.cellAt (o := 0) rfl
  have d1 := rd3.cellAt (o := 1) rfl
  have d2 := rd3.cellAt (o := 2) rfl
  have d3 := rd3.cellAt (o := 3) rfl
  have d4 := rd3.cellAt (o := 4) rfl
  have d5 := rd3.cellAt (o := 5) rfl
  have k0 := rc3.cellAt (o := 0) rfl
  have k1 := rc3.cellAt (o := 1) rfl
  have k2 := rc3.cellAt (o := 2) rfl
  have k3 := rc3.cellAt (o := 3) rfl
  have k4 := rc3.cellAt (o := 4) rfl
  have HRD := hid rd3
  have HRC := hid rc3
  clear rd3 rc3
  rcases hor with ⟨k, rfl, hg⟩ | ⟨k, g, t, rfl, hg, rfl, hk0, hk1, q1⟩
  · clear HI HRD HRC
    go_wp2
    go_quiet (fail)
    go_wp2
    go_quiet (fail)
    go_wp2
    go_ret
    exact ⟨ret_int (by rw [HA.out, hg]; rfl), HK3.out.trans (keep_drewN _ _)⟩
  · have hsz : ((tx t).size : Int) = (t.length : Int) := by rw [size_mk]
    by_cases h1 : ln < 0
    · have e1 : decide (ln < 0) = true := decide_eq_true h1
      clear HI HRD HRC
      go_wp2
      go_quiet (fail)
      go_wp2
      go_quiet (fail)
      go_wp2
      go_ret
      exact ⟨ret_int (by rw [HA.out, hg, if_neg (by simp), if_pos (.inl (by omega))]), HK3.out.trans (keep_drewN _ _)⟩
    · have e1 : decide (ln < 0) = false := decide_eq_false h1
      by_cases h2 : (t.length : Int) < ln
      · have e2 : decide (((tx t).size : Int) < ln) = true := by rw [hsz]; exact decide_eq_true h2
        have e3 : decide (ln > ((tx t).size : Int)) = true := e2
        clear HI HRD HRC hsz
        go_wp2
        go_quiet (fail)
        go_wp2
        go_quiet (fail)
        go_wp2
        go_ret
        exact ⟨ret_int (by rw [HA.out, hg, if_neg (by simp), if_pos (.inr (by show (t.length : Int) < ln; omega))]), HK3.out.trans (keep_drewN _ _)⟩
      · have e2 : decide (((tx t).size : Int) < ln) = false := by rw [hsz]; exact decide_eq_false h2
        have e3 : decide (ln > ((tx t).size : Int)) = false := e2
        clear HI HRD HRC hsz
        go_wp2
        go_quiet (fail)
        go_wp2
        go_quiet (fail)
        go_wp2
        go_ret
        exact ⟨ret_int (by rw [HA.out, hg, if_neg (by simp), if_neg (by have hq : (((kget A name).getD []).length : Int) = (t.length : Int) := (by rw [hg]; rfl); rw [hg] at hq; omega)]), HK3.out.trans (keep_drewN _ _)⟩
set_option maxRecDepth 100000 in
set_option maxHeartbeats 4000000 in
theorem wrong_2 (a1 a2 a3 : Option Addr) (x1 c1 x2 c2 b3 c3 n : Nat) (rm : Int) (name to s : Bs) (ln : Int) (A : List (Bs × Bs)) (w : World) (hI : WrIn w (.agg #[.slice a1 x1 c1, .slice a2 x2 c2, .int .i64 (n : Int), .bool false, .slice a3 b3 c3, .int .i64 rm]) A name) (hnm : nameOk name = true) (hto : nameOk to = true) (hlA : A.length ≤ 7036874417) (hT : tot A ≤ 7036874417) (hls : s.length ≤ 70368744177) (r : Int) (hr : r = (if (kget A name).isSome = false then 4 else if name = to then 1 else 0)) :
    Calls Try.prog 59 #[.agg #[.slice a1 x1 c1, .slice a2 x2 c2, .int .i64 (n : Int), .bool false, .slice a3 b3 c3, .int .i64 rm], .agg #[.int .i64 2, .string (tx name), .string (tx to), .string (tx s), .int .i64 ln]] w fun e w' => e = .returned (.int .i64 r) ∧ Keep (fun _ => False) w w' := by
  have HI := hid hI
  have HA := hid hr
  have NA := hid (fun W : World => rname_any (tx name) W)
  rw [tx_list, hnm] at NA
  have NB := hid (fun W : World => rname_any (tx to) W)
  rw [tx_list, hto] at NB
  clear hI hr hnm hto
  go_enter Try.func59, Try.ntmps59
  go_wp2_with fail
  refine (NA.out _).mono ?_
  rintro e w1 ⟨rfl, rfl⟩
  clear NA
  go_wp2_with fail
  refine (NB.out _).mono ?_
  rintro e w1 ⟨rfl, rfl⟩
  clear NB
  go_wp2_with fail
  have hsz : (w.alloc (.cells #[.slice a1 x1 c1, .slice a2 x2 c2, .int .i64 (n : Int), .bool false, .slice a3 b3 c3, .int .i64 rm] 30)).heap.size = w.heap.size + 1 := by simp
  have hk0 : Keep (fun _ => False) w ((w.alloc (.cells #[.slice a1 x1 c1, .slice a2 x2 c2, .int .i64 (n : Int), .bool false, .slice a3 b3 c3, .int .i64 rm] 30)).alloc (.cells #[.int .i64 2, .string (tx name), .string (tx to), .string (tx s), .int .i64 ln] 77)) := (keep_alloc _ _ _).trans (keep_alloc _ _ _)
  have rd : RowIs ((w.alloc (.cells #[.slice a1 x1 c1, .slice a2 x2 c2, .int .i64 (n : Int), .bool false, .slice a3 b3 c3, .int .i64 rm] 30)).alloc (.cells #[.int .i64 2, .string (tx name), .string (tx to), .string (tx s), .int .i64 ln] 77)) w.heap.size [.slice a1 x1 c1, .slice a2 x2 c2, .int .i64 (n : Int), .bool false, .slice a3 b3 c3, .int .i64 rm] 30 := RowIs.keep (heap_alloc_new _ _) (keep_alloc (fun _ => False) _ _) (fun h => h)
  have rc : RowIs ((w.alloc (.cells #[.slice a1 x1 c1, .slice a2 x2 c2, .int .i64 (n : Int), .bool false, .slice a3 b3 c3, .int .i64 rm] 30)).alloc (.cells #[.int .i64 2, .string (tx name), .string (tx to), .string (tx s), .int .i64 ln] 77)) (w.heap.size + 1) [.int .i64 2, .string (tx name), .string (tx to), .string (tx s), .int .i64 ln] 77 := by rw [← hsz]; exact heap_alloc_new _ _
  generalize (w.alloc (.cells #[.slice a1 x1 c1, .slice a2 x2 c2, .int .i64 (n : Int), .bool false, .slice a3 b3 c3, .int .i64 rm] 30)).alloc (.cells #[.int .i64 2, .string (tx name), .string (tx to), .string (tx s), .int .i64 ln] 77) = w0 at *
  refine (HI.out.now w0 hk0).mono ?_
  rintro e w2 ⟨ad, cap, rfl, hr, hk⟩
  have rd2 := rd.keep hk (fun h => h)
  have rc2 := rc.keep hk (fun h => h)
  have c1 := rc2.cellAt (o := 1) rfl
  have F1 := hid (HI.out.find w2 ad cap hr)
  have HK2 := hid (hk0.trans hk)
  clear hk0 rd rc hr hk hsz
  go_wp2_with fail
  refine F1.out.mono ?_
  rintro e w3 ⟨hk3, hor⟩
  have HK3 := hid (HK2.out.trans hk3)
  have rd3 := rd2.keep hk3 (fun h => h)
  have rc3 := rc2.keep hk3 (fun h => h)
  clear F1 HK2 rd2 rc2 c1 hk3
  have d0 := rd3.cellAt (o := 0) rfl
  have d1 := rd3.cellAt (o := 1) rfl
  have d2 := rd3.cellAt (o := 2) rfl
  have d3 := rd3.cellAt (o := 3) rfl
  have d4 := rd3.cellAt (o := 4) rfl
  have d5 := rd3.cellAt (o := 5) rfl
  have k0 := rc3.cellAt (o := 0) rfl
  have k1 := rc3.cellAt (o := 1) rfl
  have k2 := rc3.cellAt (o := 2) rfl
  have k3 := rc3.cellAt (o := 3) rfl
  have k4 := rc3.cellAt (o := 4) rfl
  have HRD := hid rd3
  have HRC := hid rc3
  clear rd3 rc3
  rcases hor with ⟨k, rfl, hg⟩ | ⟨k, g, t, rfl, hg, rfl, hk0, hk1, q1⟩
  · clear HI HRD HRC
    go_wp2
    go_quiet (fail)
    go_wp2
    go_quiet (fail)
    go_wp2
    go_ret
    exact ⟨ret_int (by rw [HA.out, hg]; rfl), HK3.out.trans (keep_drewN _ _)⟩
  · by_cases h6 : name = to
    · subst h6
      have e1 := tl_self (tx name)
      generalize tx name = N at *
      clear HI HRD HRC
      go_wp2
      go_quiet (fail)
      go_wp2
      go_quiet (fail)
      go_wp2
      go_ret
      exact ⟨ret_int (by rw [HA.out, hg]; simp), HK3.out.trans (keep_drewN _ _)⟩
    · have e1 : ((tx name).toList == (tx to).toList) = false := by rw [tx_beq]; exact decide_eq_false h6
      generalize tx name = N at *
      generalize tx to = T at *
      clear HI HRD HRC
      go_wp2
      go_quiet (fail)
      go_wp2
      go_quiet (fail)
      go_wp2
      go_ret
      exact ⟨ret_int (by rw [HA.out, hg, if_neg (by simp), if_neg h6]), HK3.out.trans (keep_drewN _ _)⟩
end Go.Proofs.Ytnlodlpjokkepab
