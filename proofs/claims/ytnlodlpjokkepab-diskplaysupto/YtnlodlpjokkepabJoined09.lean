/- Joined: The reference's Fail. The reference's Make. The reference's Make. The reference's Wrong: kind 0, not found, a. The reference's Wrong: kind 0, not found, b. The reference's Wrong: kind 0, not found, c. The reference's Wrong: kind 0, found, a. The reference's Wrong: kind 0, found, b. The reference's Wrong: kind 0, found, c. The reference's Wrong: kind 1, not found, a. -/
import Derived.Test.YtnlodlpjokkepabJoined08
import Derived.Deep.CutRange
import Derived.Deep.RegionLaw
namespace Go.Proofs.Ytnlodlpjokkepab
open Go.RowKit Go.Maps
set_option linter.unusedVariables false
set_option linter.unusedSimpArgs false

/-- what the loop keeps -/
structure RfAt (su : Value) (w : World) (v wa : Value) (n : Nat) (fa : Value) (rm : Int) (A : List (Bs × Bs)) (wr : World) : Prop where
  row : RowIs wr w.heap.size [v, wa, .int .i64 (n : Int), .bool false, fa, .int .i64 rm] 30
  res : RowIs wr (w.heap.size + 1) [.slice none 0 0, .slice none 0 0, .int .i64 0, .bool false, .slice none 0 0, .int .i64 0] 30
  fil : FileRow wr 0 v A
  keep : Keep (fun _ => False) w wr
  loc : LocV su w v
theorem RfAt.go {su : Value} {w : World} {v wa : Value} {n : Nat} {fa : Value} {rm : Int} {A : List (Bs × Bs)} {wr W : World} (h : RfAt su w v wa n fa rm A wr) (k : Keep (fun _ => False) wr W) : RfAt su w v wa n fa rm A W :=
  ⟨h.row.keep k (fun h => h), h.res.keep k (fun h => h), k.ownsRow h.fil (fun _ _ h => h), h.keep.trans k, h.loc⟩
/-- the files are stored -/
theorem RfAt.put {su : Value} {w : World} {v v' wa : Value} {n : Nat} {fa : Value} {rm : Int} {A A' : List (Bs × Bs)} {wr : World} (h : RfAt su w v wa n fa rm A wr) (hf : FileRow wr 0 v' A') (hl : LocV su w v') : RfAt su w v' wa n fa rm A' (wr.setCell ⟨w.heap.size, 0, none⟩ v') := by
  have k := keep_setCell wr w.heap.size 0 v'
  exact ⟨h.row.set 0 v', h.res.keep k (fun e => by omega), k.ownsRow hf (fun g e e2 => row_ne hf e h.row (by decide) e2), h.keep.then k (fun j hj e => by omega), hl⟩
theorem fail_ms (d : Ds) (kp tn : Int) (hlt : keepN d kp < d.ws.length) : failS d kp tn = tearC (replay (d.ws.take (keepN d kp)) d.S) d.ws[keepN d kp] tn := by
  unfold failS
  rw [List.getElem?_eq_getElem hlt]
theorem fail_all (d : Ds) (kp tn : Int) (h : keepN d kp = d.ws.length) : failS d kp tn = replay (d.ws.take (keepN d kp)) d.S := by
  unfold failS
  rw [List.getElem?_eq_none (by omega)]
/-- a change with its first bytes alone -/
def RC.tn (r : RC) (t : Nat) : RC := { r with s := r.s.take t }
theorem RC.tn_ch (r : RC) (t : Nat) (h : r.kind ≤ 1) : (r.tn t).ch = { r.ch with s := r.ch.s.take t } := by
  have h2 : r.kind = 0 ∨ r.kind = 1 := by omega
  obtain ⟨kind, name, tt, s, long⟩ := r
  simp only at h2
  rcases h2 with rfl | rfl <;> rfl

/-- what the end of the call leaves -/
theorem rf_fin {su : Value} {w : World} {v wa : Value} {n : Nat} {fa : Value} {rm : Int} {A : List (Bs × Bs)} {wr : World} (h : RfAt su w v wa n fa rm A wr) :
    RowIs ((((((((wr.setCell ⟨w.heap.size, 1, none⟩ (.slice none 0 0)).setCell ⟨w.heap.size, 3, none⟩ (.bool true)).setCell ⟨w.heap.size + 1, 0, none⟩ v).setCell ⟨w.heap.size + 1, 1, none⟩ (.slice none 0 0)).setCell ⟨w.heap.size + 1, 2, none⟩ (.int .i64 (n : Int))).setCell ⟨w.heap.size + 1, 3, none⟩ (.bool true)).setCell ⟨w.heap.size + 1, 4, none⟩ fa).setCell ⟨w.heap.size + 1, 5, none⟩ (.int .i64 rm)) (w.heap.size + 1) [v, .slice none 0 0, .int .i64 (n : Int), .bool true, fa, .int .i64 rm] 30 ∧
    FileRow ((((((((wr.setCell ⟨w.heap.size, 1, none⟩ (.slice none 0 0)).setCell ⟨w.heap.size, 3, none⟩ (.bool true)).setCell ⟨w.heap.size + 1, 0, none⟩ v).setCell ⟨w.heap.size + 1, 1, none⟩ (.slice none 0 0)).setCell ⟨w.heap.size + 1, 2, none⟩ (.int .i64 (n : Int))).setCell ⟨w.heap.size + 1, 3, none⟩ (.bool true)).setCell ⟨w.heap.size + 1, 4, none⟩ fa).setCell ⟨w.heap.size + 1, 5, none⟩ (.int .i64 rm)) 0 v A ∧
    Keep (fun _ => False) w ((((((((wr.setCell ⟨w.heap.size, 1, none⟩ (.slice none 0 0)).setCell ⟨w.heap.size, 3, none⟩ (.bool true)).setCell ⟨w.heap.size + 1, 0, none⟩ v).setCell ⟨w.heap.size + 1, 1, none⟩ (.slice none 0 0)).setCell ⟨w.heap.size + 1, 2, none⟩ (.int .i64 (n : Int))).setCell ⟨w.heap.size + 1, 3, none⟩ (.bool true)).setCell ⟨w.heap.size + 1, 4, none⟩ fa).setCell ⟨w.heap.size + 1, 5, none⟩ (.int .i64 rm)) ∧ LocV su w v := by
  have kB : Keep (· = w.heap.size) wr ((wr.setCell ⟨w.heap.size, 1, none⟩ (.slice none 0 0)).setCell ⟨w.heap.size, 3, none⟩ (.bool true)) := (keep_setCell _ _ _ _).trans (keep_setCell _ _ _ _)
  have HS := six (v0 := v) (v1 := .slice none 0 0) (v2 := .int .i64 (n : Int)) (v3 := .bool true) (v4 := fa) (v5 := .int .i64 rm) (h.res.keep kB (fun h => by omega))
  refine ⟨HS.1, ?_, ?_, h.loc⟩
  · refine HS.2.ownsRow (kB.ownsRow h.fil (fun g e e2 => row_ne h.fil e h.row (by decide) e2)) (fun g e e2 => row_ne h.fil e h.res (by decide) e2)
  · exact (h.keep.then kB (fun j hj e => by omega)).then HS.2 (fun j hj e => by omega)

set_option maxRecDepth 100000 in
set_option maxHeartbeats 4000000 in
theorem rfail_up (su wa fa : Value) (ms : List RC) (d : Ds) (rm kp tn : Int) (w : World) (hR : RefIs w su wa fa ms d) (hN : NowOk d) :
    Calls Try.prog 40 #[rdV su wa d.n false fa rm, .int .i64 kp, .int .i64 tn] w fun e w' => ∃ v', e = .returned (rdV v' (.slice none 0 0) d.n true fa rm) ∧ FileRow w' 0 v' (failS d kp tn) ∧ Keep (fun _ => False) w w' ∧ LocV su w v' := by
  obtain ⟨a1, c1, rfl⟩ := row_form hR.sure
  obtain ⟨a2, c2, rfl⟩ := row_form hR.wait
  obtain ⟨a3, b3, c3, rfl⟩ := hR.fa
  have hml := hR.len
  have hlw : ms.length ≤ 7036874417 := by have := hN.wt; omega
  have HWT := hid hR.wait
  have hkn : keepN d kp ≤ ms.length := by rw [hml]; exact Nat.min_le_right _ _
  have HKN : Hid (keepN d kp = min kp.toNat ms.length) := by show _ = _; rw [hml]; rfl
  have HMS : Hid (∀ (k : Nat) (hk : k < ms.length), ms[k].ch.kind = ms[k].kind) := fun k hk => RC.ch_kind _
  have DO : Hid (∀ (k : Nat) (hk : k < ms.length) (l : Value) (W : World), FileRow W 0 l (replay (d.ws.take k) d.S) → Calls Try.prog 60 #[l, rcV ms[k]] W fun e w' => ∃ v', e = .returned v' ∧ FileRow w' 0 v' (replay (d.ws.take (k + 1)) d.S) ∧ Keep (fun _ => False) W w' ∧ ∀ g, v'.ownBlock = some g → W.heap.size ≤ g) := by
    intro k hk l W hl
    have hk9 : k < d.ws.length := by omega
    have he9 : ms[k].ch = d.ws[k] := by simp [← hR.eqw]
    obtain ⟨h1, h2, h3⟩ := hN.bounds k (Nat.le_of_lt hk9)
    refine (do_any _ l ms[k] W hl h2 h1 (by rw [he9]; exact h3 hk9) (by rw [he9]; exact hN.oks k hk9) (by rw [he9]; exact hN.there k hk9) (hR.pos _ (List.getElem_mem hk))).mono fun e w' ⟨v', he, hr, hk'⟩ => ⟨v', he, ?_, hk', fun g e => ownsRow_ge hr e⟩
    rw [List.take_succ_eq_append_getElem hk9, replay_snoc, ← he9]
    exact ownsRow_base hr (Nat.zero_le _)
  have DOT : Hid (∀ (k : Nat) (hk : k < ms.length) (l : Value) (W : World), k = keepN d kp → ms[k].kind ≤ 1 → 0 < tn → FileRow W 0 l (replay (d.ws.take k) d.S) → Calls Try.prog 60 #[l, rcV (ms[k].tn tn.toNat)] W fun e w' => ∃ v', e = .returned v' ∧ FileRow w' 0 v' (failS d kp tn) ∧ Keep (fun _ => False) W w' ∧ ∀ g, v'.ownBlock = some g → W.heap.size ≤ g) := by
    intro k hk l W hkk hkd htn hl
    have hk9 : k < d.ws.length := by omega
    have he9 : ms[k].ch = d.ws[k] := by simp [← hR.eqw]
    have hkd9 : ms[k].ch.kind ≤ 1 := by rw [RC.ch_kind]; exact hkd
    obtain ⟨h1, h2, h3⟩ := hN.bounds k (Nat.le_of_lt hk9)
    have h4 := h3 hk9
    have hok := hN.oks k hk9
    rw [← he9] at h4 hok
    have htc := RC.tn_ch ms[k] tn.toNat hkd
    have hlen9 : (ms[k].ch.s.take tn.toNat).length ≤ ms[k].ch.s.length := by rw [List.length_take]; omega
    refine (do_any _ l (ms[k].tn tn.toNat) W hl h2 h1 ?_ ?_ ?_ (fun e => ?_)).mono fun e w' ⟨v', he, hr, hk'⟩ => ⟨v', he, ?_, hk', fun g e => ownsRow_ge hr e⟩
    · rw [htc]; show _ + (ms[k].ch.s.take tn.toNat).length ≤ _; omega
    · rw [htc]; exact ⟨hok.kind, hok.name, hok.to, fun e => by simp only at e; omega, fun e => by simp only at e; omega⟩
    · rw [htc]; intro e; simp only at e; omega
    · have e' : ms[k].kind = 4 := e
      omega
    · have hf : failS d kp tn = tearC (replay (d.ws.take k) d.S) d.ws[k] tn := by subst hkk; exact fail_ms d kp tn hk9
      rw [hf, ← he9]
      unfold tearC
      rw [if_neg (by omega), ← htc]
      exact ownsRow_base hr (Nat.zero_le _)
  have HLK : Hid ((keepN d kp < ms.length → ∀ (h : keepN d kp < ms.length), (tn ≤ 0 ∨ 1 < ms[keepN d kp].kind) → replay (d.ws.take (keepN d kp)) d.S = failS d kp tn) ∧ (keepN d kp = ms.length → replay (d.ws.take (keepN d kp)) d.S = failS d kp tn)) := by
    refine ⟨fun h0 h hb => ?_, fun h => (fail_all d kp tn (by omega)).symm⟩
    have hk9 : keepN d kp < d.ws.length := by omega
    have he9 : ms[keepN d kp].ch = d.ws[keepN d kp] := by simp [← hR.eqw]
    rw [fail_ms d kp tn hk9]
    unfold tearC
    rw [if_pos (by rw [← he9, RC.ch_kind]; exact hb)]
  have hs0 := hR.sure
  clear hR hN hml
  unfold rdV
  generalize hknn : keepN d kp = kn at *
  go_enter Try.func40, Try.ntmps40
  go_wp2
  have hAt0 : RfAt (.slice a1 d.S.length c1) w (.slice a1 d.S.length c1) (.slice a2 ms.length c2) d.n (.slice a3 b3 c3) rm (replay (d.ws.take 0) d.S) ((w.alloc (.cells #[.slice a1 d.S.length c1, .slice a2 ms.length c2, .int .i64 (d.n : Int), .bool false, .slice a3 b3 c3, .int .i64 rm] 30)).alloc (.cells #[.slice none 0 0, .slice none 0 0, .int .i64 0, .bool false, .slice none 0 0, .int .i64 0] 30)) := by
    have hsz : (w.alloc (.cells #[.slice a1 d.S.length c1, .slice a2 ms.length c2, .int .i64 (d.n : Int), .bool false, .slice a3 b3 c3, .int .i64 rm] 30)).heap.size = w.heap.size + 1 := by simp
    have hk := (keep_alloc (fun _ => False) w (.cells #[.slice a1 d.S.length c1, .slice a2 ms.length c2, .int .i64 (d.n : Int), .bool false, .slice a3 b3 c3, .int .i64 rm] 30)).trans (keep_alloc (fun _ => False) _ (.cells #[.slice none 0 0, .slice none 0 0, .int .i64 0, .bool false, .slice none 0 0, .int .i64 0] 30))
    refine ⟨RowIs.keep (heap_alloc_new _ _) (keep_alloc (fun _ => False) _ _) (fun h => h), ?_, hk.ownsRow hs0 (fun _ _ h => h), hk, fun g e => .inl e⟩
    rw [← hsz]; exact heap_alloc_new _ _
  have HA0 := hid hAt0
  clear hAt0 hs0
  generalize (w.alloc (.cells #[.slice a1 d.S.length c1, .slice a2 ms.length c2, .int .i64 (d.n : Int), .bool false, .slice a3 b3 c3, .int .i64 rm] 30)).alloc (.cells #[.slice none 0 0, .slice none 0 0, .int .i64 0, .bool false, .slice none 0 0, .int .i64 0] 30) = w0 at *
  go_loopw [7] (fun i wr => ∃ (k : Nat) (v : Value) (AX : List (Bs × Bs)), i = .int .i64 k ∧ k ≤ ms.length ∧ Hid (RfAt (.slice a1 d.S.length c1) w v (.slice a2 ms.length c2) d.n (.slice a3 b3 c3) rm AX wr) ∧ ((k ≤ kn ∧ AX = replay (d.ws.take k) d.S) ∨ (k = kn + 1 ∧ AX = failS d kp tn))) (fun i _ => ms.length - (intOf i).toNat)
  case atStart => exact ⟨0, _, _, rfl, Nat.zero_le _, HA0, .inl ⟨Nat.zero_le _, rfl⟩⟩
  case round =>
    clear HA0
    obtain ⟨k, v, AX, rfl, hk, HAT, hph⟩ := hrel
    have hAt := HAT.out
    clear HAT
    by_cases hlt : k < ms.length
    · have hk0 : (0 : Int) ≤ (k : Int) := by omega
      have hk1 : (k : Int) < (ms.length : Int) := by omega
      obtain ⟨g, hg, hcl⟩ := chg_cells (hAt.keep.ownsRow HWT.out (fun _ _ h => h)) k hlt
      obtain ⟨ad0, cp0, hv0⟩ := row_form hAt.fil
      subst hv0
      subst hg
      have r0 := hAt.row.cellAt (o := 0) rfl
      have r1 := hAt.row.cellAt (o := 1) rfl
      rcases hph with ⟨hkn2, hAX⟩ | ⟨hkn2, hAX⟩
      · by_cases hlt2 : k < kn
        · have DOX := fun W h => DO.out k hlt (.slice ad0 AX.length cp0) W (by rw [← hAX]; exact h)
          have t1 : decide (kp ≤ (k : Int)) = false := decide_eq_false (by have := HKN.out; omega)
          have D1 : Hid (∀ W, Keep (fun _ => False) wr W → Calls Try.prog 60 #[.slice ad0 AX.length cp0, rcV ms[k]] W fun e w' => ∃ ad' n' cp', e = .returned (.slice ad' n' cp') ∧ w'.cell? ⟨w.heap.size, 0, none⟩ = some (.slice ad0 AX.length cp0) ∧ w'.frozen? ⟨w.heap.size, 0, none⟩ = false ∧ Hid (RfAt (.slice a1 d.S.length c1) w (.slice ad' n' cp') (.slice (some ⟨g, 0, none⟩) ms.length c2) d.n (.slice a3 b3 c3) rm (replay (d.ws.take (k + 1)) d.S) (w'.setCell ⟨w.heap.size, 0, none⟩ (.slice ad' n' cp')))) := by
            intro W hW
            have h9 := hAt.go hW
            refine (DOX W h9.fil).mono fun e w' ⟨v', he, hr', hk', hnw⟩ => ?_
            obtain ⟨ad', cp', rfl⟩ := row_form hr'
            have h8 := h9.go hk'
            exact ⟨ad', _, cp', he, h8.row.cellAt rfl, h8.row.frozen, h8.put hr' (fun g e => .inr (Nat.le_trans h9.keep.size (hnw g e)))⟩
          generalize ms[k] = rr at *
          obtain ⟨KD, NM, TT, SX, LG⟩ := rr
          unfold rcV at D1
          simp only at D1
          have q0 := hcl 0 (by omega)
          have q1 := hcl 1 (by omega)
          have q2 := hcl 2 (by omega)
          have q3 := hcl 3 (by omega)
          have q4 := hcl 4 (by omega)
          simp only [rcC, List.getElem?_cons_zero, List.getElem?_cons_succ, Nat.add_zero] at q0 q1 q2 q3 q4
          have r0b : (wr.alloc (.cells #[.int .i64 (KD : Int), .string (tx NM), .string (tx TT), .string (tx SX), .int .i64 LG] 77)).cell? ⟨w.heap.size, 0, none⟩ = some (.slice ad0 AX.length cp0) := (hAt.row.keep (keep_alloc (fun _ => False) _ _) (fun h => h)).cellAt rfl
          clear hcl DO DOT HMS HLK HKN HWT DOX hAt hAX
          go_wp2_with fail
          refine (D1.out _ (keep_alloc _ _ _)).mono ?_
          rintro e w2 ⟨ad', n', cp', rfl, u0, uf, HN⟩
          clear D1 q0 q1 q2 q3 q4 r0 r1
          go_wp2
          exact ⟨⟨k + 1, _, _, by go_num, by omega, HN, .inl ⟨by omega, rfl⟩⟩, by simp [intOf]; omega⟩
        · have hk3 : k = kn := by omega
          by_cases hbk : tn ≤ 0 ∨ 1 < ms[k].kind
          · have HEQ : Hid (AX = failS d kp tn) := by
              show _ = _
              rw [hAX]
              subst hk3
              exact HLK.out.1 hlt hlt hbk
            have HSUB : Hid ((0 ≤ kp ∧ kp = (k : Int) ∧ k = 0) ∨ (0 ≤ kp ∧ kp = (k : Int) ∧ 0 < k) ∨ (kp < 0 ∧ k = 0)) := by have hKN : kn = min kp.toNat ms.length := HKN.out; show _ ∨ _; omega
            clear hAX
            have hAt' := hid hAt
            clear hAt
            generalize ms[k] = rr at *
            obtain ⟨KD, NM, TT, SX, LG⟩ := rr
            simp only at hbk
            have HBK := hid hbk
            clear hbk hk3 hlt2 hkn2 hknn hkn
            have q0 := hcl 0 (by omega)
            have q1 := hcl 1 (by omega)
            have q2 := hcl 2 (by omega)
            have q3 := hcl 3 (by omega)
            have q4 := hcl 4 (by omega)
            simp only [rcC, List.getElem?_cons_zero, List.getElem?_cons_succ, Nat.add_zero] at q0 q1 q2 q3 q4
            clear hcl
            go_upto_region 7 with fail
            go_cut [52] from 12 to 69 (fun s52 wx => s52 = .bool true ∧ wx = (wr.alloc (.cells #[.int .i64 (KD : Int), .string (tx NM), .string (tx TT), .string (tx SX), .int .i64 LG] 77)))
            case first =>
              have hbk := HBK.out
              rcases HSUB.out with hc | hc | hc
              · have t1 : decide (kp ≤ (k : Int)) = true := decide_eq_true (by omega)
                have t2 : decide (kp < (k : Int)) = false := decide_eq_false (by omega)
                have t3 : decide (0 ≤ kp) = true := decide_eq_true (by omega)
                have t4 : decide (0 < (k : Int)) = false := decide_eq_false (by omega)
                have t5 : decide (kp < 0) = false := decide_eq_false (by omega)
                have t4n : decide (0 < k) = false := decide_eq_false (by omega)
                by_cases h6 : tn ≤ 0
                · have t6 : decide (tn ≤ 0) = true := decide_eq_true h6
                  clear hc hbk HBK HSUB DO DOT HMS HLK HKN HWT
                  go_wp2
                  all_goals (go_meet; exact ⟨rfl, rfl⟩)
                · have t6 : decide (tn ≤ 0) = false := decide_eq_false h6
                  have t7 : decide (1 < (KD : Int)) = true := decide_eq_true (by omega)
                  clear hc hbk h6 HBK HSUB DO DOT HMS HLK HKN HWT
                  go_wp2
                  all_goals (go_meet; exact ⟨rfl, rfl⟩)
              · have t1 : decide (kp ≤ (k : Int)) = true := decide_eq_true (by omega)
                have t2 : decide (kp < (k : Int)) = false := decide_eq_false (by omega)
                have t3 : decide (0 ≤ kp) = true := decide_eq_true (by omega)
                have t4 : decide (0 < (k : Int)) = true := decide_eq_true (by omega)
                have t5 : decide (kp < 0) = false := decide_eq_false (by omega)
                have t4n : decide (0 < k) = true := decide_eq_true (by omega)
                by_cases h6 : tn ≤ 0
                · have t6 : decide (tn ≤ 0) = true := decide_eq_true h6
                  clear hc hbk HBK HSUB DO DOT HMS HLK HKN HWT
                  go_wp2
                  all_goals (go_meet; exact ⟨rfl, rfl⟩)
                · have t6 : decide (tn ≤ 0) = false := decide_eq_false h6
                  have t7 : decide (1 < (KD : Int)) = true := decide_eq_true (by omega)
                  clear hc hbk h6 HBK HSUB DO DOT HMS HLK HKN HWT
                  go_wp2
                  all_goals (go_meet; exact ⟨rfl, rfl⟩)
              · have t1 : decide (kp ≤ (k : Int)) = true := decide_eq_true (by omega)
                have t2 : decide (kp < (k : Int)) = true := decide_eq_true (by omega)
                have t3 : decide (0 ≤ kp) = false := decide_eq_false (by omega)
                have t4 : decide (0 < (k : Int)) = false := decide_eq_false (by omega)
                have t5 : decide (kp < 0) = true := decide_eq_true (by omega)
                have t4n : decide (0 < k) = false := decide_eq_false (by omega)
                by_cases h6 : tn ≤ 0
                · have t6 : decide (tn ≤ 0) = true := decide_eq_true h6
                  clear hc hbk HBK HSUB DO DOT HMS HLK HKN HWT
                  go_wp2
                  all_goals (go_meet; exact ⟨rfl, rfl⟩)
                · have t6 : decide (tn ≤ 0) = false := decide_eq_false h6
                  have t7 : decide (1 < (KD : Int)) = true := decide_eq_true (by omega)
                  clear hc hbk h6 HBK HSUB DO DOT HMS HLK HKN HWT
                  go_wp2
                  all_goals (go_meet; exact ⟨rfl, rfl⟩)
            case rest =>
              obtain ⟨rfl, rfl⟩ := hcut
              clear q0 q1 q2 q3 q4 r0 r1 HBK HSUB HKN HWT
              have hAt := hAt'.out.go (keep_alloc (fun _ => False) wr (.cells #[.int .i64 (KD : Int), .string (tx NM), .string (tx TT), .string (tx SX), .int .i64 LG] 77))
              clear hAt'
              generalize (wr.alloc (.cells #[.int .i64 (KD : Int), .string (tx NM), .string (tx TT), .string (tx SX), .int .i64 LG] 77)) = wx at *
              have HE : Hid (AX = failS d kp tn) := by
                show _ = _
                exact HEQ.out
              clear DO DOT HMS HLK
              have HFI := hid (rf_fin hAt)
              have f0 := hAt.row.frozen (o := 0)
              have f1 := hAt.row.frozen (o := 1)
              have f3 := hAt.row.frozen (o := 3)
              have k0 := hAt.row.cellAt (o := 0) rfl
              have k1 := hAt.row.cellAt (o := 1) rfl
              have k2 := hAt.row.cellAt (o := 2) rfl
              have k3 := hAt.row.cellAt (o := 3) rfl
              have k4 := hAt.row.cellAt (o := 4) rfl
              have k5 := hAt.row.cellAt (o := 5) rfl
              have z0 := hAt.res.cellAt (o := 0) rfl
              have z1 := hAt.res.cellAt (o := 1) rfl
              have z2 := hAt.res.cellAt (o := 2) rfl
              have z3 := hAt.res.cellAt (o := 3) rfl
              have z4 := hAt.res.cellAt (o := 4) rfl
              have z5 := hAt.res.cellAt (o := 5) rfl
              have g0 := hAt.res.frozen (o := 0)
              have g1 := hAt.res.frozen (o := 1)
              have g2 := hAt.res.frozen (o := 2)
              have g3 := hAt.res.frozen (o := 3)
              have g4 := hAt.res.frozen (o := 4)
              have g5 := hAt.res.frozen (o := 5)
              clear hAt HEQ
              go_wp2
              refine bodyPost_ret (v := .agg #[.slice ad0 AX.length cp0, .slice none 0 0, .int .i64 (d.n : Int), .bool true, .slice a3 b3 c3, .int .i64 rm]) (results_cell_row (p := 6) rfl _ _ (w.heap.size + 1) 30 _ (0, 0) _ rfl HFI.out.1 Try.underlying30 rfl (by kernel_rfl)) rfl ⟨_, rfl, ?_, HFI.out.2.2⟩
              rw [← HE.out]
              exact HFI.out.2.1
          · have HSUB : Hid ((0 ≤ kp ∧ kp = (k : Int) ∧ k = 0) ∨ (0 ≤ kp ∧ kp = (k : Int) ∧ 0 < k) ∨ (kp < 0 ∧ k = 0)) := by have hKN : kn = min kp.toNat ms.length := HKN.out; show _ ∨ _; omega
            have hkd : ms[k].kind ≤ 1 := by omega
            have htn : 0 < tn := by omega
            have DOX := fun W h => DOT.out k hlt (.slice ad0 AX.length cp0) W hk3 hkd htn (by rw [← hAX]; exact h)
            have D1 : Hid (∀ W, Keep (fun _ => False) wr W → Calls Try.prog 60 #[.slice ad0 AX.length cp0, rcV (ms[k].tn tn.toNat)] W fun e w' => ∃ ad' n' cp', e = .returned (.slice ad' n' cp') ∧ w'.cell? ⟨w.heap.size, 0, none⟩ = some (.slice ad0 AX.length cp0) ∧ w'.frozen? ⟨w.heap.size, 0, none⟩ = false ∧ Hid (RfAt (.slice a1 d.S.length c1) w (.slice ad' n' cp') (.slice (some ⟨g, 0, none⟩) ms.length c2) d.n (.slice a3 b3 c3) rm (failS d kp tn) (w'.setCell ⟨w.heap.size, 0, none⟩ (.slice ad' n' cp')))) := by
              intro W hW
              have h9 := hAt.go hW
              refine (DOX W h9.fil).mono fun e w' ⟨v', he, hr', hk', hnw⟩ => ?_
              obtain ⟨ad', cp', rfl⟩ := row_form hr'
              have h8 := h9.go hk'
              exact ⟨ad', _, cp', he, h8.row.cellAt rfl, h8.row.frozen, h8.put hr' (fun g e => .inr (Nat.le_trans h9.keep.size (hnw g e)))⟩
            have HBK : Hid (¬ (tn ≤ 0 ∨ 1 < ms[k].kind)) := hbk
            have t1 : decide (kp ≤ (k : Int)) = true := decide_eq_true (by have := HSUB.out; omega)
            have hAt' := hid hAt
            have HKN2 := hid hk3
            clear hAt hAX DOX hkd hbk hk3 hlt2 hkn2 hknn hkn
            generalize ms[k] = rr at *
            obtain ⟨KD, NM, TT, SX, LG⟩ := rr
            unfold rcV RC.tn at D1
            simp only at D1 HBK
            have q0 := hcl 0 (by omega)
            have q1 := hcl 1 (by omega)
            have q2 := hcl 2 (by omega)
            have q3 := hcl 3 (by omega)
            have q4 := hcl 4 (by omega)
            simp only [rcC, List.getElem?_cons_zero, List.getElem?_cons_succ, Nat.add_zero] at q0 q1 q2 q3 q4
            clear hcl
            go_upto_region 7 with fail
            go_cut [52] from 12 to 69 (fun s52 wx => s52 = .bool false ∧ wx = (wr.alloc (.cells #[.int .i64 (KD : Int), .string (tx NM), .string (tx TT), .string (tx SX), .int .i64 LG] 77)))
            case first =>
              have hbk := HBK.out
              rcases HSUB.out with hc | hc | hc
              · have t1 : decide (kp ≤ (k : Int)) = true := decide_eq_true (by omega)
                have t2 : decide (kp < (k : Int)) = false := decide_eq_false (by omega)
                have t3 : decide (0 ≤ kp) = true := decide_eq_true (by omega)
                have t4 : decide (0 < (k : Int)) = false := decide_eq_false (by omega)
                have t5 : decide (kp < 0) = false := decide_eq_false (by omega)
                have t4n : decide (0 < k) = false := decide_eq_false (by omega)
                have t6 : decide (tn ≤ 0) = false := decide_eq_false (by omega)
                have t7 : decide (1 < (KD : Int)) = false := decide_eq_false (by omega)
                clear hc hbk HBK HSUB DO DOT HMS HLK HKN HWT
                go_wp2
                all_goals (go_meet; exact ⟨rfl, rfl⟩)
              · have t1 : decide (kp ≤ (k : Int)) = true := decide_eq_true (by omega)
                have t2 : decide (kp < (k : Int)) = false := decide_eq_false (by omega)
                have t3 : decide (0 ≤ kp) = true := decide_eq_true (by omega)
                have t4 : decide (0 < (k : Int)) = true := decide_eq_true (by omega)
                have t5 : decide (kp < 0) = false := decide_eq_false (by omega)
                have t4n : decide (0 < k) = true := decide_eq_true (by omega)
                have t6 : decide (tn ≤ 0) = false := decide_eq_false (by omega)
                have t7 : decide (1 < (KD : Int)) = false := decide_eq_false (by omega)
                clear hc hbk HBK HSUB DO DOT HMS HLK HKN HWT
                go_wp2
                all_goals (go_meet; exact ⟨rfl, rfl⟩)
              · have t1 : decide (kp ≤ (k : Int)) = true := decide_eq_true (by omega)
                have t2 : decide (kp < (k : Int)) = true := decide_eq_true (by omega)
                have t3 : decide (0 ≤ kp) = false := decide_eq_false (by omega)
                have t4 : decide (0 < (k : Int)) = false := decide_eq_false (by omega)
                have t5 : decide (kp < 0) = true := decide_eq_true (by omega)
                have t4n : decide (0 < k) = false := decide_eq_false (by omega)
                have t6 : decide (tn ≤ 0) = false := decide_eq_false (by omega)
                have t7 : decide (1 < (KD : Int)) = false := decide_eq_false (by omega)
                clear hc hbk HBK HSUB DO DOT HMS HLK HKN HWT
                go_wp2
                all_goals (go_meet; exact ⟨rfl, rfl⟩)
            case rest =>
              obtain ⟨rfl, rfl⟩ := hcut
              clear q0 q1 q2 q3 q4 r0 r1 HBK HSUB HKN HWT DO DOT HMS HLK
              have hst : SX.take (min tn.toNat SX.length) = SX.take tn.toNat := by
                by_cases hle : tn.toNat ≤ SX.length
                · rw [Nat.min_eq_left hle]
                · rw [Nat.min_eq_right (by omega), List.take_of_length_le (Nat.le_refl _), List.take_of_length_le (by omega)]
              have hmx : (tx SX).extract 0 (min tn.toNat SX.length) = tx (SX.take tn.toNat) := by rw [← hst]; exact extract_mk SX (min tn.toNat SX.length)
              have hmin : (if ((tx SX).size : Int) < tn then ((tx SX).size : Int) else tn) = ((min tn.toNat SX.length : Nat) : Int) := by
                rw [size_mk]; split <;> omega
              have hmin2 : min tn ((tx SX).size : Int) = ((min tn.toNat SX.length : Nat) : Int) := by
                rw [size_mk]; omega
              have hms : ((min tn.toNat SX.length : Nat) : Int) ≤ ((tx SX).size : Int) := by rw [size_mk]; omega
              have hrb : RowIs (wr.alloc (.cells #[.int .i64 (KD : Int), .string (tx NM), .string (tx TT), .string (tx SX), .int .i64 LG] 77)) wr.heap.size [.int .i64 (KD : Int), .string (tx NM), .string (tx TT), .string (tx SX), .int .i64 LG] 77 := heap_alloc_new _ _
              have hkb := keep_alloc (fun _ => False) wr (.cells #[.int .i64 (KD : Int), .string (tx NM), .string (tx TT), .string (tx SX), .int .i64 LG] 77)
              have b0 := hrb.cellAt (o := 0) rfl
              have b1 := hrb.cellAt (o := 1) rfl
              have b2 := hrb.cellAt (o := 2) rfl
              have b3 := hrb.cellAt (o := 3) rfl
              have b4 := hrb.cellAt (o := 4) rfl
              have bf := hrb.frozen (o := 3)
              have r0b := (hAt'.out.row.keep hkb (fun h => h)).cellAt (o := 0) rfl
              have hlt9 := hAt'.out.row.lt
              have hne1 : wr.heap.size ≠ w.heap.size := by omega
              have hne2 : w.heap.size ≠ wr.heap.size := by omega
              have HKS : Hid (∀ v, Keep (fun _ => False) wr ((wr.alloc (.cells #[.int .i64 (KD : Int), .string (tx NM), .string (tx TT), .string (tx SX), .int .i64 LG] 77)).setCell ⟨wr.heap.size, 3, none⟩ v)) := fun v => hkb.then (keep_setCell _ _ _ v) (fun j hj e => by omega)
              clear hrb hkb hst hAt'
              generalize (wr.alloc (.cells #[.int .i64 (KD : Int), .string (tx NM), .string (tx TT), .string (tx SX), .int .i64 LG] 77)) = wx at *
              generalize tx NM = BN at *
              generalize tx TT = BT at *
              generalize tx (SX.take tn.toNat) = SC at *
              generalize tx SX = SB at *
              generalize min tn.toNat SX.length = mm at *
              go_wp2_with fail
              refine (D1.out _ (HKS.out _)).mono ?_
              rintro e w2 ⟨ad', n', cp', rfl, u0, uf, HN⟩
              clear D1 HKS b0 b1 b2 b3 b4 bf r0b hmin hmin2 hms hmx
              go_wp2
              exact ⟨⟨k + 1, _, _, by go_num, by omega, HN, .inr ⟨by have := HKN2.out; omega, rfl⟩⟩, by simp [intOf]; omega⟩
      · have HEQ := hid hAX
        have HSUB : Hid (k = kn + 1 ∧ kn = min kp.toNat ms.length) := ⟨hkn2, HKN.out⟩
        clear hAX
        have hAt' := hid hAt
        clear hAt hkn2 hknn hkn
        generalize ms[k] = rr at *
        obtain ⟨KD, NM, TT, SX, LG⟩ := rr
        have q0 := hcl 0 (by omega)
        have q1 := hcl 1 (by omega)
        have q2 := hcl 2 (by omega)
        have q3 := hcl 3 (by omega)
        have q4 := hcl 4 (by omega)
        simp only [rcC, List.getElem?_cons_zero, List.getElem?_cons_succ, Nat.add_zero] at q0 q1 q2 q3 q4
        clear hcl
        go_upto_region 7 with fail
        go_cut [52] from 12 to 69 (fun s52 wx => s52 = .bool true ∧ wx = (wr.alloc (.cells #[.int .i64 (KD : Int), .string (tx NM), .string (tx TT), .string (tx SX), .int .i64 LG] 77)))
        case first =>
          have hs9 := HSUB.out
          rcases (show 0 ≤ kp ∨ kp < 0 by omega) with hc | hc
          · have t1 : decide (kp ≤ (k : Int)) = true := decide_eq_true (by omega)
            have t2 : decide (kp < (k : Int)) = true := decide_eq_true (by omega)
            have t3 : decide (0 ≤ kp) = true := decide_eq_true (by omega)
            clear hc hs9 HSUB DO DOT HMS HLK HKN HWT
            go_wp2
            all_goals (go_meet; exact ⟨rfl, rfl⟩)
          · have t1 : decide (kp ≤ (k : Int)) = true := decide_eq_true (by omega)
            have t2 : decide (kp < (k : Int)) = true := decide_eq_true (by omega)
            have t3 : decide (0 ≤ kp) = false := decide_eq_false (by omega)
            have t4 : decide (0 < (k : Int)) = true := decide_eq_true (by omega)
            have t5 : decide (kp < 0) = true := decide_eq_true (by omega)
            have t4n : decide (0 < k) = true := decide_eq_true (by omega)
            clear hc hs9 HSUB DO DOT HMS HLK HKN HWT
            go_wp2
            all_goals (go_meet; exact ⟨rfl, rfl⟩)
        case rest =>
          obtain ⟨rfl, rfl⟩ := hcut
          clear q0 q1 q2 q3 q4 r0 r1 HSUB HKN HWT
          have hAt := hAt'.out.go (keep_alloc (fun _ => False) wr (.cells #[.int .i64 (KD : Int), .string (tx NM), .string (tx TT), .string (tx SX), .int .i64 LG] 77))
          clear hAt'
          generalize (wr.alloc (.cells #[.int .i64 (KD : Int), .string (tx NM), .string (tx TT), .string (tx SX), .int .i64 LG] 77)) = wx at *
          have HE : Hid (AX = failS d kp tn) := by
            show _ = _
            exact HEQ.out
          clear DO DOT HMS HLK
          have HFI := hid (rf_fin hAt)
          have f0 := hAt.row.frozen (o := 0)
          have f1 := hAt.row.frozen (o := 1)
          have f3 := hAt.row.frozen (o := 3)
          have k0 := hAt.row.cellAt (o := 0) rfl
          have k1 := hAt.row.cellAt (o := 1) rfl
          have k2 := hAt.row.cellAt (o := 2) rfl
          have k3 := hAt.row.cellAt (o := 3) rfl
          have k4 := hAt.row.cellAt (o := 4) rfl
          have k5 := hAt.row.cellAt (o := 5) rfl
          have z0 := hAt.res.cellAt (o := 0) rfl
          have z1 := hAt.res.cellAt (o := 1) rfl
          have z2 := hAt.res.cellAt (o := 2) rfl
          have z3 := hAt.res.cellAt (o := 3) rfl
          have z4 := hAt.res.cellAt (o := 4) rfl
          have z5 := hAt.res.cellAt (o := 5) rfl
          have g0 := hAt.res.frozen (o := 0)
          have g1 := hAt.res.frozen (o := 1)
          have g2 := hAt.res.frozen (o := 2)
          have g3 := hAt.res.frozen (o := 3)
          have g4 := hAt.res.frozen (o := 4)
          have g5 := hAt.res.frozen (o := 5)
          clear hAt HEQ
          go_wp2
          refine bodyPost_ret (v := .agg #[.slice ad0 AX.length cp0, .slice none 0 0, .int .i64 (d.n : Int), .bool true, .slice a3 b3 c3, .int .i64 rm]) (results_cell_row (p := 6) rfl _ _ (w.heap.size + 1) 30 _ (0, 0) _ rfl HFI.out.1 Try.underlying30 rfl (by kernel_rfl)) rfl ⟨_, rfl, ?_, HFI.out.2.2⟩
          rw [← HE.out]
          exact HFI.out.2.1
    · have hd : decide ((k : Int) < (ms.length : Int)) = false := decide_eq_false (by omega)
      have HE : Hid (AX = failS d kp tn) := by
        show _ = _
        rcases hph with ⟨h1, rfl⟩ | ⟨h1, h2⟩
        · have h3 : k = kn := by omega
          subst h3
          exact HLK.out.2 (by omega)
        · exact h2
      have HR := hid hAt
      clear DO DOT HMS HLK
      obtain ⟨ad9, cp9, hv9⟩ := row_form hAt.fil
      subst hv9
      have HFI := hid (rf_fin hAt)
      have f0 := hAt.row.frozen (o := 0)
      have f1 := hAt.row.frozen (o := 1)
      have f3 := hAt.row.frozen (o := 3)
      have k0 := hAt.row.cellAt (o := 0) rfl
      have k1 := hAt.row.cellAt (o := 1) rfl
      have k2 := hAt.row.cellAt (o := 2) rfl
      have k3 := hAt.row.cellAt (o := 3) rfl
      have k4 := hAt.row.cellAt (o := 4) rfl
      have k5 := hAt.row.cellAt (o := 5) rfl
      have z0 := hAt.res.cellAt (o := 0) rfl
      have z1 := hAt.res.cellAt (o := 1) rfl
      have z2 := hAt.res.cellAt (o := 2) rfl
      have z3 := hAt.res.cellAt (o := 3) rfl
      have z4 := hAt.res.cellAt (o := 4) rfl
      have z5 := hAt.res.cellAt (o := 5) rfl
      have g0 := hAt.res.frozen (o := 0)
      have g1 := hAt.res.frozen (o := 1)
      have g2 := hAt.res.frozen (o := 2)
      have g3 := hAt.res.frozen (o := 3)
      have g4 := hAt.res.frozen (o := 4)
      have g5 := hAt.res.frozen (o := 5)
      clear hAt HR
      go_wp2
      refine bodyPost_ret (v := .agg #[.slice ad9 AX.length cp9, .slice none 0 0, .int .i64 (d.n : Int), .bool true, .slice a3 b3 c3, .int .i64 rm]) (results_cell_row (p := 6) rfl _ _ (w.heap.size + 1) 30 _ (0, 0) _ rfl HFI.out.1 Try.underlying30 rfl (by kernel_rfl)) rfl ⟨_, rfl, ?_, HFI.out.2.2⟩
      rw [← HE.out]
      exact HFI.out.2.1
end Go.Proofs.Ytnlodlpjokkepab
namespace Go.Proofs.Ytnlodlpjokkepab
open Go.RowKit Go.Maps
set_option linter.unusedVariables false
set_option linter.unusedSimpArgs false

theorem elChange : ElT 27 77 5 64 := ⟨Try.underlying27, ⟨.agg #[.int .i64 0, .string ⟨#[]⟩, .string ⟨#[]⟩, .string ⟨#[]⟩, .int .i64 0], by kernel_rfl, rfl⟩, by decide⟩
theorem elFall : ElT 28 81 3 24 := ⟨Try.underlying28, ⟨.agg #[.int .i64 0, .int .i64 0, .int .i64 0], by kernel_rfl, rfl⟩, by decide⟩
theorem rcC_cell1 (r : RC) : ∀ u ∈ rcC r, u.oneCell' = true := by
  intro u hu
  simp [rcC] at hu
  rcases hu with rfl | rfl | rfl | rfl | rfl <;> rfl
theorem rcs_cell1 (ms : List RC) : ∀ u ∈ rcs ms, u.oneCell' = true := by
  intro u hu
  unfold rcs at hu
  obtain ⟨x, _, hx⟩ := List.mem_flatMap.1 hu
  exact rcC_cell1 x u hx

theorem fall_cells {w : World} {ad : Option Addr} {m c : Nat} {ws : List Fl} (h : w.ownsRow 0 81 3 (.slice ad m c) ws.length (fls ws)) (i : Nat) (hi : i < ws.length) : ∃ g, ad = some ⟨g, 0, none⟩ ∧ ∀ j, j < 3 → w.cell? ⟨g, i * 3 + j, none⟩ = (flC ws[i])[j]? := by
  obtain ⟨h1, h2⟩ := h
  rcases h2 with ⟨e, h0⟩ | ⟨g, cap, cur, e, _, hb, hn, hm, hs, ht⟩
  · omega
  · injection e with e1 e2 e3
    refine ⟨g, e1, fun j hj => ?_⟩
    rw [cell_of_row _ _ _ _ _ _ hb, ← fls_get ws i hi j hj, ← ht, List.getElem?_take_of_lt (by omega)]
    simp [Nat.mul_comm]
theorem fls_cell1 (l : List Fl) : ∀ u ∈ fls l, u.oneCell' = true := by
  intro u hu
  unfold fls at hu
  obtain ⟨x, _, hx⟩ := List.mem_flatMap.1 hu
  exact flC_cell1 x u hx
set_option maxRecDepth 100000 in
set_option maxHeartbeats 4000000 in
theorem make_on (a1 a2 a3 : Option Addr) (x1 c1 c2 c3 m : Nat) (XS CS : List Value) (fl : List Fl) (n : Nat) (rm : Int) (KD LG : Int) (NM TT SX : ByteArray) (w : World) (hCS : CS = [.int .i64 KD, .string NM, .string TT, .string SX, .int .i64 LG]) (hW : w.ownsRow 0 77 5 (.slice a2 m c2) m XS) (hX1 : ∀ u ∈ XS, u.oneCell' = true) (hF : w.ownsRow 0 81 3 (.slice a3 fl.length c3) fl.length (fls fl)) (hl : m ≤ 7036874417)
    (hfl : fl.length ≤ 7036874417) (hnn : n ≤ 1152921504606846976) (hnf : ∀ j (h : j < fl.length), fl[j].at_ ≠ (n : Int))
    (HW : ∀ W, Keep (fun _ => False) w W → Calls Try.prog 59 #[.agg #[.slice a1 x1 c1, .slice a2 m c2, .int .i64 (n : Int), .bool false, .slice a3 fl.length c3, .int .i64 rm], .agg #[.int .i64 KD, .string NM, .string TT, .string SX, .int .i64 LG]] W fun e w' => e = .returned (.int .i64 0) ∧ Keep (fun _ => False) W w') :
    Calls Try.prog 37 #[.agg #[.slice a1 x1 c1, .slice a2 m c2, .int .i64 (n : Int), .bool false, .slice a3 fl.length c3, .int .i64 rm], .agg #[.int .i64 KD, .string NM, .string TT, .string SX, .int .i64 LG]] w fun e w' => ∃ ad cap, e = .returned (.tuple #[.agg #[.slice a1 x1 c1, .slice ad (m + 1) cap, .int .i64 ((n + 1 : Nat) : Int), .bool false, .slice a3 fl.length c3, .int .i64 rm], .int .i64 0]) ∧ w'.ownsRow w.heap.size 77 5 (.slice ad (m + 1) cap) (m + 1) (XS ++ CS) ∧ Keep (fun _ => False) w w' := by
  have HW' := hid HW
  have HXL : Hid (XS.length = m * 5) := hW.1
  have HX1 := hid hX1
  have HZ : Hid (0 + m = m) := Nat.zero_add _
  have HML : Hid (m ≤ 70368744177) := by show _ ≤ _; omega
  have HMB : Hid (m * 64 ≤ 140737488355328) := by show _ ≤ _; omega
  have HML1 : Hid (m + 1 ≤ 70368744177) := by show _ ≤ _; omega
  have HMB1 : Hid ((m + 1) * 64 ≤ 140737488355328) := by show _ ≤ _; omega
  have HCL : Hid (CS.length = 1 * 5) := by rw [hCS]; rfl
  have HC1 : Hid (∀ u ∈ CS, u.oneCell' = true) := by
    rw [hCS]; intro u hu; simp at hu; rcases hu with rfl | rfl | rfl | rfl | rfl <;> rfl
  have HCS : Hid (∀ (W : World) (g : Nat), W.heap[g]? = some (.cells #[.int .i64 KD, .string NM, .string TT, .string SX, .int .i64 LG] 77 (0, 0)) → GSrc W (.slice (some ⟨g, 0, none⟩) 1 1) 1 CS) := fun W g hb => by rw [hCS]; exact gsrc_block hb
  have HNF := hid hnf
  clear HW hX1 hCS hnf
  go_enter Try.func37, Try.ntmps37
  go_wp2_with fail
  refine (HW'.out _ ?_).mono ?_
  · exact ((keep_alloc _ _ _).trans (keep_alloc _ _ _)).trans (keep_alloc _ _ _)
  rintro e w1 ⟨rfl, hk1⟩
  have z1 : (w.alloc (.cells #[.slice a1 x1 c1, .slice a2 m c2, .int .i64 (n : Int), .bool false, .slice a3 fl.length c3, .int .i64 rm] 30)).heap.size = w.heap.size + 1 := by simp
  have z2 : ((w.alloc (.cells #[.slice a1 x1 c1, .slice a2 m c2, .int .i64 (n : Int), .bool false, .slice a3 fl.length c3, .int .i64 rm] 30)).alloc (.cells #[.int .i64 KD, .string NM, .string TT, .string SX, .int .i64 LG] 77)).heap.size = w.heap.size + 1 + 1 := by simp
  have rd : RowIs w1 w.heap.size [.slice a1 x1 c1, .slice a2 m c2, .int .i64 (n : Int), .bool false, .slice a3 fl.length c3, .int .i64 rm] 30 := ((RowIs.keep (heap_alloc_new _ _) (keep_alloc (fun _ => False) _ _) (fun h => h)).keep (keep_alloc (fun _ => False) _ _) (fun h => h)).keep hk1 (fun h => h)
  have rc : RowIs w1 (w.heap.size + 1) [.int .i64 KD, .string NM, .string TT, .string SX, .int .i64 LG] 77 := (RowIs.keep (by rw [← z1]; exact heap_alloc_new _ _) (keep_alloc (fun _ => False) _ _) (fun h => h)).keep hk1 (fun h => h)
  have rr : RowIs w1 (w.heap.size + 1 + 1) [.slice none 0 0, .slice none 0 0, .int .i64 0, .bool false, .slice none 0 0, .int .i64 0] 30 := RowIs.keep (by rw [← z2]; exact heap_alloc_new _ _) hk1 (fun h => h)
  have HK1 := hid ((((keep_alloc (fun _ => False) w _).trans (keep_alloc _ _ _)).trans (keep_alloc _ _ _)).trans hk1)
  clear z1 z2 hk1 HW'
  have b1k : Hid (∀ W, Keep (fun _ => False) w1 W → (W.cell? ⟨w.heap.size, 1, none⟩ = some (.slice a2 m c2) ∧ W.cell? ⟨w.heap.size + 1, 0, none⟩ = some (.int .i64 KD) ∧ W.cell? ⟨w.heap.size + 1, 1, none⟩ = some (.string NM) ∧ W.cell? ⟨w.heap.size + 1, 2, none⟩ = some (.string TT) ∧ W.cell? ⟨w.heap.size + 1, 3, none⟩ = some (.string SX) ∧ W.cell? ⟨w.heap.size + 1, 4, none⟩ = some (.int .i64 LG))) := fun W hW => by
    have r1 := rd.keep hW (fun h => h)
    have r2 := rc.keep hW (fun h => h)
    exact ⟨r1.cellAt rfl, r2.cellAt rfl, r2.cellAt rfl, r2.cellAt rfl, r2.cellAt rfl, r2.cellAt rfl⟩
  obtain ⟨b1, k0, k1, k2, k3, k4⟩ := b1k.out w1 (Keep.refl _ _)
  have HRD := hid rd
  have HRR := hid rr
  have HWW := hid hW
  have HFF := hid hF
  have HK1Z : Hid (w.heap.size + 1 + 1 < w1.heap.size) := rr.lt
  clear rd rc rr hW hF
  go_wp2
  go_cut [7] from 17 to 23 (fun s7 wx => ∃ ad cap, s7 = .slice ad (m + 1) cap ∧ Hid (wx.ownsRow w1.heap.size 77 5 (.slice ad (m + 1) cap) (m + 1) (XS ++ CS)) ∧ Hid (Keep (fun _ => False) w1 wx))
  case first =>
    have hs1 : (w1.alloc (Obj.cells #[] 77)).heap.size = w1.heap.size + 1 := by simp
    have hs2 : (w1.alloc (Obj.cells #[.int .i64 KD, .string NM, .string TT, .string SX, .int .i64 LG] 77)).heap.size = w1.heap.size + 1 := by simp
    have WK : Hid (∀ W, Keep (fun _ => False) w1 W → GSrc W (.slice a2 m c2) m XS ∧ (W.cell? ⟨w.heap.size, 1, none⟩ = some (.slice a2 m c2) ∧ W.cell? ⟨w.heap.size + 1, 0, none⟩ = some (.int .i64 KD) ∧ W.cell? ⟨w.heap.size + 1, 1, none⟩ = some (.string NM) ∧ W.cell? ⟨w.heap.size + 1, 2, none⟩ = some (.string TT) ∧ W.cell? ⟨w.heap.size + 1, 3, none⟩ = some (.string SX) ∧ W.cell? ⟨w.heap.size + 1, 4, none⟩ = some (.int .i64 LG))) := fun W hW => ⟨gsrc_all (hW.ownsRow (HK1.out.ownsRow HWW.out (fun _ _ h => h)) (fun _ _ h => h)), b1k.out W hW⟩
    have kA : Hid (Keep (fun _ => False) (w1.alloc (Obj.cells #[] 77)) (w1.alloc (Obj.cells #[] 77)).drew) := keep_drew _ _
    have kB : Hid (Keep (fun _ => False) ((w1.alloc (Obj.cells #[] 77)).alloc (Obj.cells #[.int .i64 KD, .string NM, .string TT, .string SX, .int .i64 LG] 77)) ((w1.alloc (Obj.cells #[] 77)).alloc (Obj.cells #[.int .i64 KD, .string NM, .string TT, .string SX, .int .i64 LG] 77)).drew) := keep_drew _ _
    have kC : Hid (Keep (fun _ => False) ((w1.alloc (Obj.cells #[.int .i64 KD, .string NM, .string TT, .string SX, .int .i64 LG] 77)).alloc (Obj.cells #[] 77)) ((w1.alloc (Obj.cells #[.int .i64 KD, .string NM, .string TT, .string SX, .int .i64 LG] 77)).alloc (Obj.cells #[] 77)).drew) := keep_drew _ _
    have eA : Hid (w1.heap.size ≤ (w1.alloc (Obj.cells #[] 77)).heap.size) := by show _ ≤ _; simp
    have eB : Hid (w1.heap.size ≤ ((w1.alloc (Obj.cells #[] 77)).alloc (Obj.cells #[.int .i64 KD, .string NM, .string TT, .string SX, .int .i64 LG] 77)).heap.size) := by show _ ≤ _; simp; omega
    have eC : Hid (w1.heap.size ≤ ((w1.alloc (Obj.cells #[.int .i64 KD, .string NM, .string TT, .string SX, .int .i64 LG] 77)).alloc (Obj.cells #[] 77)).heap.size) := by show _ ≤ _; simp; omega
    have oA : Hid ((w1.alloc (Obj.cells #[] 77)).ownsRow w1.heap.size 77 5 (Value.slice (some ⟨w1.heap.size, 0, none⟩) 0 0) 0 []) := own_empty (heap_alloc_new _ _) (Nat.le_refl _)
    have oB : Hid (((w1.alloc (Obj.cells #[] 77)).alloc (Obj.cells #[.int .i64 KD, .string NM, .string TT, .string SX, .int .i64 LG] 77)).ownsRow w1.heap.size 77 5 (Value.slice (some ⟨w1.heap.size, 0, none⟩) 0 0) 0 []) := (keep_alloc (fun _ => False) _ _).ownsRow oA.out (fun _ _ h => h)
    have oC : Hid (((w1.alloc (Obj.cells #[.int .i64 KD, .string NM, .string TT, .string SX, .int .i64 LG] 77)).alloc (Obj.cells #[] 77)).ownsRow w1.heap.size 77 5 (Value.slice (some ⟨w1.heap.size + 1, 0, none⟩) 0 0) 0 []) := own_empty (by rw [← hs2]; exact heap_alloc_new _ _) (by omega)
    have gA : Hid (GSrc (w1.alloc (Obj.cells #[] 77)) (.slice a2 m c2) m XS) := (WK.out _ (keep_alloc _ _ _)).1
    have gB : Hid (GSrc ((w1.alloc (Obj.cells #[] 77)).alloc (Obj.cells #[.int .i64 KD, .string NM, .string TT, .string SX, .int .i64 LG] 77)) (.slice a2 m c2) m XS) := (WK.out _ ((keep_alloc _ _ _).trans (keep_alloc _ _ _))).1
    have gC : Hid (GSrc ((w1.alloc (Obj.cells #[.int .i64 KD, .string NM, .string TT, .string SX, .int .i64 LG] 77)).alloc (Obj.cells #[] 77)) (.slice a2 m c2) m XS) := (WK.out _ ((keep_alloc _ _ _).trans (keep_alloc _ _ _))).1
    have fA : Hid (∀ (ad1 : Option Addr) (cap1 : Nat) w2, w2.ownsRow w1.heap.size 77 5 (.slice ad1 m cap1) m ([] ++ XS) → Keep (fun k => (Value.slice (some ⟨w1.heap.size, 0, none⟩) 0 0).ownBlock = some k) (w1.alloc (Obj.cells #[] 77)) w2 → Hid (w1.heap.size ≤ (w2.alloc (Obj.cells #[.int .i64 KD, .string NM, .string TT, .string SX, .int .i64 LG] 77)).heap.size) ∧ Hid ((w2.alloc (Obj.cells #[.int .i64 KD, .string NM, .string TT, .string SX, .int .i64 LG] 77)).ownsRow w1.heap.size 77 5 (.slice ad1 m cap1) m ([] ++ XS)) ∧ Hid (GSrc (w2.alloc (Obj.cells #[.int .i64 KD, .string NM, .string TT, .string SX, .int .i64 LG] 77)) (.slice (some ⟨w2.heap.size, 0, none⟩) 1 1) 1 CS) ∧ Hid (Keep (fun _ => False) (w2.alloc (Obj.cells #[.int .i64 KD, .string NM, .string TT, .string SX, .int .i64 LG] 77)) (w2.alloc (Obj.cells #[.int .i64 KD, .string NM, .string TT, .string SX, .int .i64 LG] 77))) ∧ (w2.cell? ⟨w.heap.size, 1, none⟩ = some (.slice a2 m c2) ∧ w2.cell? ⟨w.heap.size + 1, 0, none⟩ = some (.int .i64 KD) ∧ w2.cell? ⟨w.heap.size + 1, 1, none⟩ = some (.string NM) ∧ w2.cell? ⟨w.heap.size + 1, 2, none⟩ = some (.string TT) ∧ w2.cell? ⟨w.heap.size + 1, 3, none⟩ = some (.string SX) ∧ w2.cell? ⟨w.heap.size + 1, 4, none⟩ = some (.int .i64 LG)) ∧ Hid (∀ (ad3 : Option Addr) (cap3 : Nat) w3, Keep (fun k => (Value.slice ad1 m cap1).ownBlock = some k) (w2.alloc (Obj.cells #[.int .i64 KD, .string NM, .string TT, .string SX, .int .i64 LG] 77)) w3 → Keep (fun _ => False) w1 w3)) := fun ad1 cap1 w2 hr hk => by
      have k12 : Keep (fun _ => False) w1 w2 := (keep_alloc (fun _ => False) w1 (Obj.cells #[] 77)).then hk (fun j hj e => by have e2 := Option.some.inj (show some w1.heap.size = some j from e); omega)
      have k13 := k12.trans (keep_alloc (fun _ => False) w2 (Obj.cells #[.int .i64 KD, .string NM, .string TT, .string SX, .int .i64 LG] 77))
      refine ⟨k13.size, (keep_alloc (fun _ => False) _ _).ownsRow hr (fun _ _ h => h), HCS.out _ _ (heap_alloc_new _ _), Keep.refl _ _, (WK.out _ k12).2, fun ad3 cap3 w3 hk3 => k13.then hk3 (fun j hj e => by have := ownsRow_ge hr e; omega)⟩
    have fB : Hid (∀ (ad1 : Option Addr) (cap1 : Nat) w2, w2.ownsRow w1.heap.size 77 5 (.slice ad1 m cap1) m ([] ++ XS) → Keep (fun k => (Value.slice (some ⟨w1.heap.size, 0, none⟩) 0 0).ownBlock = some k) ((w1.alloc (Obj.cells #[] 77)).alloc (Obj.cells #[.int .i64 KD, .string NM, .string TT, .string SX, .int .i64 LG] 77)) w2 → Hid (w1.heap.size ≤ w2.heap.size) ∧ Hid (GSrc w2 (.slice (some ⟨w1.heap.size + 1, 0, none⟩) 1 1) 1 CS) ∧ Hid (Keep (fun _ => False) w2 w2) ∧ (w2.cell? ⟨w.heap.size, 1, none⟩ = some (.slice a2 m c2) ∧ w2.cell? ⟨w.heap.size + 1, 0, none⟩ = some (.int .i64 KD) ∧ w2.cell? ⟨w.heap.size + 1, 1, none⟩ = some (.string NM) ∧ w2.cell? ⟨w.heap.size + 1, 2, none⟩ = some (.string TT) ∧ w2.cell? ⟨w.heap.size + 1, 3, none⟩ = some (.string SX) ∧ w2.cell? ⟨w.heap.size + 1, 4, none⟩ = some (.int .i64 LG)) ∧ Hid (∀ (ad3 : Option Addr) (cap3 : Nat) w3, Keep (fun k => (Value.slice ad1 m cap1).ownBlock = some k) w2 w3 → Keep (fun _ => False) w1 w3)) := fun ad1 cap1 w2 hr hk => by
      have k12 : Keep (fun _ => False) w1 w2 := ((keep_alloc (fun _ => False) w1 _).trans (keep_alloc _ _ _)).then hk (fun j hj e => by have e2 := Option.some.inj (show some (w1.heap.size) = some j from e); omega)
      refine ⟨k12.size, HCS.out _ _ ((hk.block _ (by simp; try omega) (fun e => by have e2 := Option.some.inj (show some (w1.heap.size) = some (w1.heap.size + 1) from e); omega)).trans ?_), Keep.refl _ _, (WK.out _ k12).2, fun ad3 cap3 w3 hk3 => k12.then hk3 (fun j hj e => by have := ownsRow_ge hr e; omega)⟩
      rw [← hs1]; exact heap_alloc_new _ _
    have fC : Hid (∀ (ad1 : Option Addr) (cap1 : Nat) w2, w2.ownsRow w1.heap.size 77 5 (.slice ad1 m cap1) m ([] ++ XS) → Keep (fun k => (Value.slice (some ⟨w1.heap.size + 1, 0, none⟩) 0 0).ownBlock = some k) ((w1.alloc (Obj.cells #[.int .i64 KD, .string NM, .string TT, .string SX, .int .i64 LG] 77)).alloc (Obj.cells #[] 77)) w2 → Hid (w1.heap.size ≤ w2.heap.size) ∧ Hid (GSrc w2 (.slice (some ⟨w1.heap.size, 0, none⟩) 1 1) 1 CS) ∧ Hid (Keep (fun _ => False) w2 w2) ∧ (w2.cell? ⟨w.heap.size, 1, none⟩ = some (.slice a2 m c2) ∧ w2.cell? ⟨w.heap.size + 1, 0, none⟩ = some (.int .i64 KD) ∧ w2.cell? ⟨w.heap.size + 1, 1, none⟩ = some (.string NM) ∧ w2.cell? ⟨w.heap.size + 1, 2, none⟩ = some (.string TT) ∧ w2.cell? ⟨w.heap.size + 1, 3, none⟩ = some (.string SX) ∧ w2.cell? ⟨w.heap.size + 1, 4, none⟩ = some (.int .i64 LG)) ∧ Hid (∀ (ad3 : Option Addr) (cap3 : Nat) w3, Keep (fun k => (Value.slice ad1 m cap1).ownBlock = some k) w2 w3 → Keep (fun _ => False) w1 w3)) := fun ad1 cap1 w2 hr hk => by
      have k12 : Keep (fun _ => False) w1 w2 := ((keep_alloc (fun _ => False) w1 _).trans (keep_alloc _ _ _)).then hk (fun j hj e => by have e2 := Option.some.inj (show some (w1.heap.size + 1) = some j from e); omega)
      refine ⟨k12.size, HCS.out _ _ ((hk.block _ (by simp; try omega) (fun e => by have e2 := Option.some.inj (show some (w1.heap.size + 1) = some (w1.heap.size) from e); omega)).trans ?_), Keep.refl _ _, (WK.out _ k12).2, fun ad3 cap3 w3 hk3 => k12.then hk3 (fun j hj e => by have := ownsRow_ge hr e; omega)⟩
      exact (keep_alloc (fun _ => False) _ _).block _ (by simp) (fun h => h) |>.trans (heap_alloc_new _ _)
    clear hs1 hs2 b1k HRD HRR HFF
    go_region_held3 (fun w' => w'.cell? ⟨w.heap.size, 1, none⟩ = some (.slice a2 m c2) ∧ w'.cell? ⟨w.heap.size + 1, 0, none⟩ = some (.int .i64 KD) ∧ w'.cell? ⟨w.heap.size + 1, 1, none⟩ = some (.string NM) ∧ w'.cell? ⟨w.heap.size + 1, 2, none⟩ = some (.string TT) ∧ w'.cell? ⟨w.heap.size + 1, 3, none⟩ = some (.string SX) ∧ w'.cell? ⟨w.heap.size + 1, 4, none⟩ = some (.int .i64 LG)) (first | with_reducible assumption | (refine ⟨?_, ?_, ?_, ?_, ?_, ?_⟩ <;> with_reducible assumption) | go_keep) (first | (refine step_gapp (w0 := w1.alloc (Obj.cells #[] 77)) (by rfl) _ _ elChange (by rfl) w1.heap.size (Value.slice (some ⟨w1.heap.size, 0, none⟩) 0 0) (.slice a2 m c2) [] XS 0 m m HZ.out kA.out (by rfl) (by rfl) oA.out eA.out gA.out HXL.out HX1.out HML.out HMB.out ?_; intro ad1 cap1 w2 hr2 hk2; obtain ⟨f1, f2, f3, f4, ⟨b1, k0, k1, k2, k3, k4⟩, f5⟩ := fA.out ad1 cap1 w2 hr2 hk2) | (refine step_gapp (w0 := (w1.alloc (Obj.cells #[] 77)).alloc (Obj.cells #[.int .i64 KD, .string NM, .string TT, .string SX, .int .i64 LG] 77)) (by rfl) _ _ elChange (by rfl) w1.heap.size (Value.slice (some ⟨w1.heap.size, 0, none⟩) 0 0) (.slice a2 m c2) [] XS 0 m m HZ.out kB.out (by rfl) (by rfl) oB.out eB.out gB.out HXL.out HX1.out HML.out HMB.out ?_; intro ad1 cap1 w2 hr2 hk2; obtain ⟨f1, f3, f4, ⟨b1, k0, k1, k2, k3, k4⟩, f5⟩ := fB.out ad1 cap1 w2 hr2 hk2) | (refine step_gapp (w0 := (w1.alloc (Obj.cells #[.int .i64 KD, .string NM, .string TT, .string SX, .int .i64 LG] 77)).alloc (Obj.cells #[] 77)) (by rfl) _ _ elChange (by rfl) w1.heap.size (Value.slice (some ⟨w1.heap.size + 1, 0, none⟩) 0 0) (.slice a2 m c2) [] XS 0 m m HZ.out kC.out (by rfl) (by rfl) oC.out eC.out gC.out HXL.out HX1.out HML.out HMB.out ?_; intro ad1 cap1 w2 hr2 hk2; obtain ⟨f1, f3, f4, ⟨b1, k0, k1, k2, k3, k4⟩, f5⟩ := fC.out ad1 cap1 w2 hr2 hk2) | (refine step_gapp (w0 := w2.alloc (Obj.cells #[.int .i64 KD, .string NM, .string TT, .string SX, .int .i64 LG] 77)) (by rfl) _ _ elChange (by rfl) w1.heap.size (.slice ad1 m cap1) (.slice (some ⟨w2.heap.size, 0, none⟩) 1 1) ([] ++ XS) CS m 1 (m + 1) (by rfl) f4.out (by rfl) (by rfl) f2.out f1.out f3.out HCL.out HC1.out HML1.out HMB1.out ?_; intro ad3 cap3 w3 hr3 hk3; have HE := hid (f5.out ad3 cap3 w3 hk3); obtain ⟨b1, k0, k1, k2, k3, k4⟩ := (WK.out _ HE.out).2) | (refine step_gapp (w0 := w2) (by rfl) _ _ elChange (by rfl) w1.heap.size (.slice ad1 m cap1) (.slice (some ⟨w1.heap.size + 1, 0, none⟩) 1 1) ([] ++ XS) CS m 1 (m + 1) (by rfl) f4.out (by rfl) (by rfl) hr2 f1.out f3.out HCL.out HC1.out HML1.out HMB1.out ?_; intro ad3 cap3 w3 hr3 hk3; have HE := hid (f5.out ad3 cap3 w3 hk3); obtain ⟨b1, k0, k1, k2, k3, k4⟩ := (WK.out _ HE.out).2) | (refine step_gapp (w0 := w2) (by rfl) _ _ elChange (by rfl) w1.heap.size (.slice ad1 m cap1) (.slice (some ⟨w1.heap.size, 0, none⟩) 1 1) ([] ++ XS) CS m 1 (m + 1) (by rfl) f4.out (by rfl) (by rfl) hr2 f1.out f3.out HCL.out HC1.out HML1.out HMB1.out ?_; intro ad3 cap3 w3 hr3 hk3; have HE := hid (f5.out ad3 cap3 w3 hk3); obtain ⟨b1, k0, k1, k2, k3, k4⟩ := (WK.out _ HE.out).2))
    all_goals (go_wp2_with fail; go_meet; exact ⟨_, _, rfl, hr3, HE.out⟩)
  case rest =>
    obtain ⟨ad3, cap3, rfl, HO3, HE⟩ := hcut
    have HRD3 := hid (HRD.out.keep HE.out (fun h => h))
    have HRR3 := hid (HRR.out.keep HE.out (fun h => h))
    have HF3 := hid ((HK1.out.trans HE.out).ownsRow HFF.out (fun _ _ h => h))
    clear b1 k0 k1 k2 k3 k4 b1k HRD HRR HFF HWW HXL HX1 HZ HML HMB HML1 HMB1 HCL HC1 HCS
    go_wp2
    go_loopw [8] (fun i wr => ∃ k : Nat, k ≤ fl.length ∧ i = .int .i64 k ∧ Hid (Keep (fun _ => False) wc wr)) (fun i _ => fl.length - (intOf i).toNat)
    case atStart => exact ⟨0, by omega, rfl, Keep.refl _ _⟩
    case round =>
      obtain ⟨k, hk, rfl, HK⟩ := hrel
      have rd := HRD3.out.keep HK.out (fun h => h)
      have d4 := rd.cellAt (o := 4) rfl
      have d2 := rd.cellAt (o := 2) rfl
      by_cases hlt : k < fl.length
      · have hk0 : (0 : Int) ≤ (k : Int) := by omega
        have hk1 : (k : Int) < (fl.length : Int) := by omega
        obtain ⟨g, hg, hcl⟩ := fall_cells (HK.out.ownsRow HF3.out (fun _ _ h => h)) k hlt
        subst hg
        have HNE := HNF.out k hlt
        generalize fl[k] = f at *
        obtain ⟨AT, KP, TN⟩ := f
        simp only at HNE
        have q0 := hcl 0 (by omega)
        have q1 := hcl 1 (by omega)
        have q2 := hcl 2 (by omega)
        simp only [flC, List.getElem?_cons_zero, List.getElem?_cons_succ, Nat.add_zero] at q0 q1 q2
        have HKS : Hid (Keep (fun _ => False) wr (wr.alloc (Obj.cells #[.int .i64 AT, .int .i64 KP, .int .i64 TN] 81))) := keep_alloc _ _ _
        have hltd : w.heap.size < wr.heap.size := rd.lt
        have hne : (AT == (n : Int)) = false := by rw [beq_eq_false_iff_ne]; exact HNE
        clear hcl HNE rd
        go_wp2
        exact ⟨⟨k + 1, by omega, by go_num, HK.out.trans HKS.out⟩, by simp [intOf]; omega⟩
      · have hd : decide ((k : Int) < (fl.length : Int)) = false := decide_eq_false (by omega)
        have rr := HRR3.out.keep HK.out (fun h => h)
        have hwn : wrap64 ((n : Int) + 1) = ((n + 1 : Nat) : Int) := by rw [IntWalk.wrap64_in _ (by omega)]; omega
        have kB : Keep (· = w.heap.size) wr ((wr.setCell ⟨w.heap.size, 1, none⟩ (.slice ad3 (m + 1) cap3)).setCell ⟨w.heap.size, 2, none⟩ (.int .i64 ((n + 1 : Nat) : Int))) := (keep_setCell _ _ _ _).trans (keep_setCell _ _ _ _)
        have HS := hid (six (v0 := .slice a1 x1 c1) (v1 := .slice ad3 (m + 1) cap3) (v2 := .int .i64 ((n + 1 : Nat) : Int)) (v3 := .bool false) (v4 := .slice a3 fl.length c3) (v5 := .int .i64 rm) (rr.keep kB (fun h => by omega)))
        have HKB := hid kB
        have HO4 := hid (HK.out.ownsRow HO3.out (fun _ _ h => h))
        have HKW := hid ((HK1.out.trans HE.out).trans HK.out)
        have HW1 := hid (HK1.out.size)
        have HRDx := hid rd
        have HRRx := hid rr
        have d0 := rd.cellAt (o := 0) rfl
        have d1 := rd.cellAt (o := 1) rfl
        have d3 := rd.cellAt (o := 3) rfl
        have d5 := rd.cellAt (o := 5) rfl
        have f1 := rd.frozen (o := 1)
        have f2 := rd.frozen (o := 2)
        have y0 := rr.cellAt (o := 0) rfl
        have y1 := rr.cellAt (o := 1) rfl
        have y2 := rr.cellAt (o := 2) rfl
        have y3 := rr.cellAt (o := 3) rfl
        have y4 := rr.cellAt (o := 4) rfl
        have y5 := rr.cellAt (o := 5) rfl
        have g0 := rr.frozen (o := 0)
        have g1 := rr.frozen (o := 1)
        have g2 := rr.frozen (o := 2)
        have g3 := rr.frozen (o := 3)
        have g4 := rr.frozen (o := 4)
        have g5 := rr.frozen (o := 5)
        clear rd rr kB HK HNF hk
        go_wp2
        refine bodyPost_ret (v := .tuple #[.agg #[.slice a1 x1 c1, .slice ad3 (m + 1) cap3, .int .i64 ((n + 1 : Nat) : Int), .bool false, .slice a3 fl.length c3, .int .i64 rm], .int .i64 0]) (ret_cell_tmp (p := 4) (u := 5) rfl _ _ (w.heap.size + 1 + 1) _ _ rfl rfl (run_loadVar_row _ _ _ _ _ _ _ HS.out.1 Try.underlying30 rfl (by kernel_rfl))) rfl ⟨_, _, rfl, ?_, ?_⟩
        · refine ownsRow_base (HS.out.2.ownsRow (HKB.out.ownsRow HO4.out (fun g e e2 => by have := ownsRow_ge HO4.out e; have := HRDx.out.lt; have := HW1.out; have h9 := HK1Z.out; omega)) (fun g e e2 => by have := ownsRow_ge HO4.out e; have h9 := HK1Z.out; omega)) HW1.out
        · exact (HKW.out.then HKB.out (fun j hj e => by omega)).then HS.out.2 (fun j hj e => by omega)
end Go.Proofs.Ytnlodlpjokkepab
namespace Go.Proofs.Ytnlodlpjokkepab
open Go.RowKit Go.Maps
set_option linter.unusedVariables false
set_option linter.unusedSimpArgs false

set_option maxRecDepth 100000 in
set_option maxHeartbeats 4000000 in
theorem make_fall (a1 a2 a3 : Option Addr) (x1 c1 c2 c3 m : Nat) (XS CS : List Value) (fl : List Fl) (n : Nat) (rm : Int) (KD LG : Int) (NM TT SX : ByteArray) (w : World) (hCS : CS = [.int .i64 KD, .string NM, .string TT, .string SX, .int .i64 LG]) (hW : w.ownsRow 0 77 5 (.slice a2 m c2) m XS) (hX1 : ∀ u ∈ XS, u.oneCell' = true) (hF : w.ownsRow 0 81 3 (.slice a3 fl.length c3) fl.length (fls fl)) (hl : m ≤ 7036874417)
    (hfl : fl.length ≤ 7036874417) (k0 : Nat) (hk00 : k0 < fl.length) (hat : fl[k0].at_ = (n : Int)) (hnf : ∀ j (h : j < fl.length), j < k0 → fl[j].at_ ≠ (n : Int)) (AF : List (Bs × Bs))
    (hfail : ∀ W v4 v1, W.ownsRow w.heap.size 81 3 v4 (fl.length - 1) ((fls fl).take (k0 * 3) ++ (fls fl).drop ((k0 + 1) * 3)) → W.ownsRow w.heap.size 77 5 v1 (m + 1) (XS ++ CS) → Keep (fun _ => False) w W → Calls Try.prog 40 #[.agg #[.slice a1 x1 c1, v1, .int .i64 (n : Int), .bool false, v4, .int .i64 rm], .int .i64 fl[k0].keep, .int .i64 fl[k0].torn] W fun e w' => ∃ ad cap, e = .returned (.agg #[.slice ad AF.length cap, .slice none 0 0, .int .i64 (n : Int), .bool true, v4, .int .i64 rm]) ∧ FileRow w' 0 (.slice ad AF.length cap) AF ∧ Keep (fun _ => False) W w' ∧ LocV (.slice a1 x1 c1) w (.slice ad AF.length cap))
    (HW : ∀ W, Keep (fun _ => False) w W → Calls Try.prog 59 #[.agg #[.slice a1 x1 c1, .slice a2 m c2, .int .i64 (n : Int), .bool false, .slice a3 fl.length c3, .int .i64 rm], .agg #[.int .i64 KD, .string NM, .string TT, .string SX, .int .i64 LG]] W fun e w' => e = .returned (.int .i64 0) ∧ Keep (fun _ => False) W w') :
    Calls Try.prog 37 #[.agg #[.slice a1 x1 c1, .slice a2 m c2, .int .i64 (n : Int), .bool false, .slice a3 fl.length c3, .int .i64 rm], .agg #[.int .i64 KD, .string NM, .string TT, .string SX, .int .i64 LG]] w fun e w' => ∃ ad cap v4, e = .returned (.tuple #[.agg #[.slice ad AF.length cap, .slice none 0 0, .int .i64 (n : Int), .bool true, v4, .int .i64 rm], .int .i64 21]) ∧ FileRow w' 0 (.slice ad AF.length cap) AF ∧ LocV (.slice a1 x1 c1) w (.slice ad AF.length cap) ∧ w'.ownsRow w.heap.size 81 3 v4 (fl.length - 1) ((fls fl).take (k0 * 3) ++ (fls fl).drop ((k0 + 1) * 3)) ∧ Keep (fun _ => False) w w' := by
  have HW' := hid HW
  have HXL : Hid (XS.length = m * 5) := hW.1
  have HX1 := hid hX1
  have HZ : Hid (0 + m = m) := Nat.zero_add _
  have HML : Hid (m ≤ 70368744177) := by show _ ≤ _; omega
  have HMB : Hid (m * 64 ≤ 140737488355328) := by show _ ≤ _; omega
  have HML1 : Hid (m + 1 ≤ 70368744177) := by show _ ≤ _; omega
  have HMB1 : Hid ((m + 1) * 64 ≤ 140737488355328) := by show _ ≤ _; omega
  have HCL : Hid (CS.length = 1 * 5) := by rw [hCS]; rfl
  have HC1 : Hid (∀ u ∈ CS, u.oneCell' = true) := by
    rw [hCS]; intro u hu; simp at hu; rcases hu with rfl | rfl | rfl | rfl | rfl <;> rfl
  have HCS : Hid (∀ (W : World) (g : Nat), W.heap[g]? = some (.cells #[.int .i64 KD, .string NM, .string TT, .string SX, .int .i64 LG] 77 (0, 0)) → GSrc W (.slice (some ⟨g, 0, none⟩) 1 1) 1 CS) := fun W g hb => by rw [hCS]; exact gsrc_block hb
  have HNF := hid hnf
  have HAT := hid hat
  have HFAIL := hid hfail
  clear HW hX1 hCS hnf hat hfail
  go_enter Try.func37, Try.ntmps37
  go_wp2_with fail
  refine (HW'.out _ ?_).mono ?_
  · exact ((keep_alloc _ _ _).trans (keep_alloc _ _ _)).trans (keep_alloc _ _ _)
  rintro e w1 ⟨rfl, hk1⟩
  have z1 : (w.alloc (.cells #[.slice a1 x1 c1, .slice a2 m c2, .int .i64 (n : Int), .bool false, .slice a3 fl.length c3, .int .i64 rm] 30)).heap.size = w.heap.size + 1 := by simp
  have z2 : ((w.alloc (.cells #[.slice a1 x1 c1, .slice a2 m c2, .int .i64 (n : Int), .bool false, .slice a3 fl.length c3, .int .i64 rm] 30)).alloc (.cells #[.int .i64 KD, .string NM, .string TT, .string SX, .int .i64 LG] 77)).heap.size = w.heap.size + 1 + 1 := by simp
  have rd : RowIs w1 w.heap.size [.slice a1 x1 c1, .slice a2 m c2, .int .i64 (n : Int), .bool false, .slice a3 fl.length c3, .int .i64 rm] 30 := ((RowIs.keep (heap_alloc_new _ _) (keep_alloc (fun _ => False) _ _) (fun h => h)).keep (keep_alloc (fun _ => False) _ _) (fun h => h)).keep hk1 (fun h => h)
  have rc : RowIs w1 (w.heap.size + 1) [.int .i64 KD, .string NM, .string TT, .string SX, .int .i64 LG] 77 := (RowIs.keep (by rw [← z1]; exact heap_alloc_new _ _) (keep_alloc (fun _ => False) _ _) (fun h => h)).keep hk1 (fun h => h)
  have rr : RowIs w1 (w.heap.size + 1 + 1) [.slice none 0 0, .slice none 0 0, .int .i64 0, .bool false, .slice none 0 0, .int .i64 0] 30 := RowIs.keep (by rw [← z2]; exact heap_alloc_new _ _) hk1 (fun h => h)
  have HK1 := hid ((((keep_alloc (fun _ => False) w _).trans (keep_alloc _ _ _)).trans (keep_alloc _ _ _)).trans hk1)
  clear z1 z2 hk1 HW'
  have b1k : Hid (∀ W, Keep (fun _ => False) w1 W → (W.cell? ⟨w.heap.size, 1, none⟩ = some (.slice a2 m c2) ∧ W.cell? ⟨w.heap.size + 1, 0, none⟩ = some (.int .i64 KD) ∧ W.cell? ⟨w.heap.size + 1, 1, none⟩ = some (.string NM) ∧ W.cell? ⟨w.heap.size + 1, 2, none⟩ = some (.string TT) ∧ W.cell? ⟨w.heap.size + 1, 3, none⟩ = some (.string SX) ∧ W.cell? ⟨w.heap.size + 1, 4, none⟩ = some (.int .i64 LG))) := fun W hW => by
    have r1 := rd.keep hW (fun h => h)
    have r2 := rc.keep hW (fun h => h)
    exact ⟨r1.cellAt rfl, r2.cellAt rfl, r2.cellAt rfl, r2.cellAt rfl, r2.cellAt rfl, r2.cellAt rfl⟩
  obtain ⟨b1, k0, k1, k2, k3, k4⟩ := b1k.out w1 (Keep.refl _ _)
  have HRD := hid rd
  have HRR := hid rr
  have HWW := hid hW
  have HFF := hid hF
  have HK1Z : Hid (w.heap.size + 1 + 1 < w1.heap.size) := rr.lt
  clear rd rc rr hW hF
  go_wp2
  go_cut [7] from 17 to 23 (fun s7 wx => ∃ ad cap, s7 = .slice ad (m + 1) cap ∧ Hid (wx.ownsRow w1.heap.size 77 5 (.slice ad (m + 1) cap) (m + 1) (XS ++ CS)) ∧ Hid (Keep (fun _ => False) w1 wx))
  case first =>
    have hs1 : (w1.alloc (Obj.cells #[] 77)).heap.size = w1.heap.size + 1 := by simp
    have hs2 : (w1.alloc (Obj.cells #[.int .i64 KD, .string NM, .string TT, .string SX, .int .i64 LG] 77)).heap.size = w1.heap.size + 1 := by simp
    have WK : Hid (∀ W, Keep (fun _ => False) w1 W → GSrc W (.slice a2 m c2) m XS ∧ (W.cell? ⟨w.heap.size, 1, none⟩ = some (.slice a2 m c2) ∧ W.cell? ⟨w.heap.size + 1, 0, none⟩ = some (.int .i64 KD) ∧ W.cell? ⟨w.heap.size + 1, 1, none⟩ = some (.string NM) ∧ W.cell? ⟨w.heap.size + 1, 2, none⟩ = some (.string TT) ∧ W.cell? ⟨w.heap.size + 1, 3, none⟩ = some (.string SX) ∧ W.cell? ⟨w.heap.size + 1, 4, none⟩ = some (.int .i64 LG))) := fun W hW => ⟨gsrc_all (hW.ownsRow (HK1.out.ownsRow HWW.out (fun _ _ h => h)) (fun _ _ h => h)), b1k.out W hW⟩
    have kA : Hid (Keep (fun _ => False) (w1.alloc (Obj.cells #[] 77)) (w1.alloc (Obj.cells #[] 77)).drew) := keep_drew _ _
    have kB : Hid (Keep (fun _ => False) ((w1.alloc (Obj.cells #[] 77)).alloc (Obj.cells #[.int .i64 KD, .string NM, .string TT, .string SX, .int .i64 LG] 77)) ((w1.alloc (Obj.cells #[] 77)).alloc (Obj.cells #[.int .i64 KD, .string NM, .string TT, .string SX, .int .i64 LG] 77)).drew) := keep_drew _ _
    have kC : Hid (Keep (fun _ => False) ((w1.alloc (Obj.cells #[.int .i64 KD, .string NM, .string TT, .string SX, .int .i64 LG] 77)).alloc (Obj.cells #[] 77)) ((w1.alloc (Obj.cells #[.int .i64 KD, .string NM, .string TT, .string SX, .int .i64 LG] 77)).alloc (Obj.cells #[] 77)).drew) := keep_drew _ _
    have eA : Hid (w1.heap.size ≤ (w1.alloc (Obj.cells #[] 77)).heap.size) := by show _ ≤ _; simp
    have eB : Hid (w1.heap.size ≤ ((w1.alloc (Obj.cells #[] 77)).alloc (Obj.cells #[.int .i64 KD, .string NM, .string TT, .string SX, .int .i64 LG] 77)).heap.size) := by show _ ≤ _; simp; omega
    have eC : Hid (w1.heap.size ≤ ((w1.alloc (Obj.cells #[.int .i64 KD, .string NM, .string TT, .string SX, .int .i64 LG] 77)).alloc (Obj.cells #[] 77)).heap.size) := by show _ ≤ _; simp; omega
    have oA : Hid ((w1.alloc (Obj.cells #[] 77)).ownsRow w1.heap.size 77 5 (Value.slice (some ⟨w1.heap.size, 0, none⟩) 0 0) 0 []) := own_empty (heap_alloc_new _ _) (Nat.le_refl _)
    have oB : Hid (((w1.alloc (Obj.cells #[] 77)).alloc (Obj.cells #[.int .i64 KD, .string NM, .string TT, .string SX, .int .i64 LG] 77)).ownsRow w1.heap.size 77 5 (Value.slice (some ⟨w1.heap.size, 0, none⟩) 0 0) 0 []) := (keep_alloc (fun _ => False) _ _).ownsRow oA.out (fun _ _ h => h)
    have oC : Hid (((w1.alloc (Obj.cells #[.int .i64 KD, .string NM, .string TT, .string SX, .int .i64 LG] 77)).alloc (Obj.cells #[] 77)).ownsRow w1.heap.size 77 5 (Value.slice (some ⟨w1.heap.size + 1, 0, none⟩) 0 0) 0 []) := own_empty (by rw [← hs2]; exact heap_alloc_new _ _) (by omega)
    have gA : Hid (GSrc (w1.alloc (Obj.cells #[] 77)) (.slice a2 m c2) m XS) := (WK.out _ (keep_alloc _ _ _)).1
    have gB : Hid (GSrc ((w1.alloc (Obj.cells #[] 77)).alloc (Obj.cells #[.int .i64 KD, .string NM, .string TT, .string SX, .int .i64 LG] 77)) (.slice a2 m c2) m XS) := (WK.out _ ((keep_alloc _ _ _).trans (keep_alloc _ _ _))).1
    have gC : Hid (GSrc ((w1.alloc (Obj.cells #[.int .i64 KD, .string NM, .string TT, .string SX, .int .i64 LG] 77)).alloc (Obj.cells #[] 77)) (.slice a2 m c2) m XS) := (WK.out _ ((keep_alloc _ _ _).trans (keep_alloc _ _ _))).1
    have fA : Hid (∀ (ad1 : Option Addr) (cap1 : Nat) w2, w2.ownsRow w1.heap.size 77 5 (.slice ad1 m cap1) m ([] ++ XS) → Keep (fun k => (Value.slice (some ⟨w1.heap.size, 0, none⟩) 0 0).ownBlock = some k) (w1.alloc (Obj.cells #[] 77)) w2 → Hid (w1.heap.size ≤ (w2.alloc (Obj.cells #[.int .i64 KD, .string NM, .string TT, .string SX, .int .i64 LG] 77)).heap.size) ∧ Hid ((w2.alloc (Obj.cells #[.int .i64 KD, .string NM, .string TT, .string SX, .int .i64 LG] 77)).ownsRow w1.heap.size 77 5 (.slice ad1 m cap1) m ([] ++ XS)) ∧ Hid (GSrc (w2.alloc (Obj.cells #[.int .i64 KD, .string NM, .string TT, .string SX, .int .i64 LG] 77)) (.slice (some ⟨w2.heap.size, 0, none⟩) 1 1) 1 CS) ∧ Hid (Keep (fun _ => False) (w2.alloc (Obj.cells #[.int .i64 KD, .string NM, .string TT, .string SX, .int .i64 LG] 77)) (w2.alloc (Obj.cells #[.int .i64 KD, .string NM, .string TT, .string SX, .int .i64 LG] 77))) ∧ (w2.cell? ⟨w.heap.size, 1, none⟩ = some (.slice a2 m c2) ∧ w2.cell? ⟨w.heap.size + 1, 0, none⟩ = some (.int .i64 KD) ∧ w2.cell? ⟨w.heap.size + 1, 1, none⟩ = some (.string NM) ∧ w2.cell? ⟨w.heap.size + 1, 2, none⟩ = some (.string TT) ∧ w2.cell? ⟨w.heap.size + 1, 3, none⟩ = some (.string SX) ∧ w2.cell? ⟨w.heap.size + 1, 4, none⟩ = some (.int .i64 LG)) ∧ Hid (∀ (ad3 : Option Addr) (cap3 : Nat) w3, Keep (fun k => (Value.slice ad1 m cap1).ownBlock = some k) (w2.alloc (Obj.cells #[.int .i64 KD, .string NM, .string TT, .string SX, .int .i64 LG] 77)) w3 → Keep (fun _ => False) w1 w3)) := fun ad1 cap1 w2 hr hk => by
      have k12 : Keep (fun _ => False) w1 w2 := (keep_alloc (fun _ => False) w1 (Obj.cells #[] 77)).then hk (fun j hj e => by have e2 := Option.some.inj (show some w1.heap.size = some j from e); omega)
      have k13 := k12.trans (keep_alloc (fun _ => False) w2 (Obj.cells #[.int .i64 KD, .string NM, .string TT, .string SX, .int .i64 LG] 77))
      refine ⟨k13.size, (keep_alloc (fun _ => False) _ _).ownsRow hr (fun _ _ h => h), HCS.out _ _ (heap_alloc_new _ _), Keep.refl _ _, (WK.out _ k12).2, fun ad3 cap3 w3 hk3 => k13.then hk3 (fun j hj e => by have := ownsRow_ge hr e; omega)⟩
    have fB : Hid (∀ (ad1 : Option Addr) (cap1 : Nat) w2, w2.ownsRow w1.heap.size 77 5 (.slice ad1 m cap1) m ([] ++ XS) → Keep (fun k => (Value.slice (some ⟨w1.heap.size, 0, none⟩) 0 0).ownBlock = some k) ((w1.alloc (Obj.cells #[] 77)).alloc (Obj.cells #[.int .i64 KD, .string NM, .string TT, .string SX, .int .i64 LG] 77)) w2 → Hid (w1.heap.size ≤ w2.heap.size) ∧ Hid (GSrc w2 (.slice (some ⟨w1.heap.size + 1, 0, none⟩) 1 1) 1 CS) ∧ Hid (Keep (fun _ => False) w2 w2) ∧ (w2.cell? ⟨w.heap.size, 1, none⟩ = some (.slice a2 m c2) ∧ w2.cell? ⟨w.heap.size + 1, 0, none⟩ = some (.int .i64 KD) ∧ w2.cell? ⟨w.heap.size + 1, 1, none⟩ = some (.string NM) ∧ w2.cell? ⟨w.heap.size + 1, 2, none⟩ = some (.string TT) ∧ w2.cell? ⟨w.heap.size + 1, 3, none⟩ = some (.string SX) ∧ w2.cell? ⟨w.heap.size + 1, 4, none⟩ = some (.int .i64 LG)) ∧ Hid (∀ (ad3 : Option Addr) (cap3 : Nat) w3, Keep (fun k => (Value.slice ad1 m cap1).ownBlock = some k) w2 w3 → Keep (fun _ => False) w1 w3)) := fun ad1 cap1 w2 hr hk => by
      have k12 : Keep (fun _ => False) w1 w2 := ((keep_alloc (fun _ => False) w1 _).trans (keep_alloc _ _ _)).then hk (fun j hj e => by have e2 := Option.some.inj (show some (w1.heap.size) = some j from e); omega)
      refine ⟨k12.size, HCS.out _ _ ((hk.block _ (by simp; try omega) (fun e => by have e2 := Option.some.inj (show some (w1.heap.size) = some (w1.heap.size + 1) from e); omega)).trans ?_), Keep.refl _ _, (WK.out _ k12).2, fun ad3 cap3 w3 hk3 => k12.then hk3 (fun j hj e => by have := ownsRow_ge hr e; omega)⟩
      rw [← hs1]; exact heap_alloc_new _ _
    have fC : Hid (∀ (ad1 : Option Addr) (cap1 : Nat) w2, w2.ownsRow w1.heap.size 77 5 (.slice ad1 m cap1) m ([] ++ XS) → Keep (fun k => (Value.slice (some ⟨w1.heap.size + 1, 0, none⟩) 0 0).ownBlock = some k) ((w1.alloc (Obj.cells #[.int .i64 KD, .string NM, .string TT, .string SX, .int .i64 LG] 77)).alloc (Obj.cells #[] 77)) w2 → Hid (w1.heap.size ≤ w2.heap.size) ∧ Hid (GSrc w2 (.slice (some ⟨w1.heap.size, 0, none⟩) 1 1) 1 CS) ∧ Hid (Keep (fun _ => False) w2 w2) ∧ (w2.cell? ⟨w.heap.size, 1, none⟩ = some (.slice a2 m c2) ∧ w2.cell? ⟨w.heap.size + 1, 0, none⟩ = some (.int .i64 KD) ∧ w2.cell? ⟨w.heap.size + 1, 1, none⟩ = some (.string NM) ∧ w2.cell? ⟨w.heap.size + 1, 2, none⟩ = some (.string TT) ∧ w2.cell? ⟨w.heap.size + 1, 3, none⟩ = some (.string SX) ∧ w2.cell? ⟨w.heap.size + 1, 4, none⟩ = some (.int .i64 LG)) ∧ Hid (∀ (ad3 : Option Addr) (cap3 : Nat) w3, Keep (fun k => (Value.slice ad1 m cap1).ownBlock = some k) w2 w3 → Keep (fun _ => False) w1 w3)) := fun ad1 cap1 w2 hr hk => by
      have k12 : Keep (fun _ => False) w1 w2 := ((keep_alloc (fun _ => False) w1 _).trans (keep_alloc _ _ _)).then hk (fun j hj e => by have e2 := Option.some.inj (show some (w1.heap.size + 1) = some j from e); omega)
      refine ⟨k12.size, HCS.out _ _ ((hk.block _ (by simp; try omega) (fun e => by have e2 := Option.some.inj (show some (w1.heap.size + 1) = some (w1.heap.size) from e); omega)).trans ?_), Keep.refl _ _, (WK.out _ k12).2, fun ad3 cap3 w3 hk3 => k12.then hk3 (fun j hj e => by have := ownsRow_ge hr e; omega)⟩
      exact (keep_alloc (fun _ => False) _ _).block _ (by simp) (fun h => h) |>.trans (heap_alloc_new _ _)
    clear hs1 hs2 b1k HRD HRR HFF HFAIL HAT HNF
    go_region_held3 (fun w' => w'.cell? ⟨w.heap.size, 1, none⟩ = some (.slice a2 m c2) ∧ w'.cell? ⟨w.heap.size + 1, 0, none⟩ = some (.int .i64 KD) ∧ w'.cell? ⟨w.heap.size + 1, 1, none⟩ = some (.string NM) ∧ w'.cell? ⟨w.heap.size + 1, 2, none⟩ = some (.string TT) ∧ w'.cell? ⟨w.heap.size + 1, 3, none⟩ = some (.string SX) ∧ w'.cell? ⟨w.heap.size + 1, 4, none⟩ = some (.int .i64 LG)) (first | with_reducible assumption | (refine ⟨?_, ?_, ?_, ?_, ?_, ?_⟩ <;> with_reducible assumption) | go_keep) (first | (refine step_gapp (w0 := w1.alloc (Obj.cells #[] 77)) (by rfl) _ _ elChange (by rfl) w1.heap.size (Value.slice (some ⟨w1.heap.size, 0, none⟩) 0 0) (.slice a2 m c2) [] XS 0 m m HZ.out kA.out (by rfl) (by rfl) oA.out eA.out gA.out HXL.out HX1.out HML.out HMB.out ?_; intro ad1 cap1 w2 hr2 hk2; obtain ⟨f1, f2, f3, f4, ⟨b1, k0, k1, k2, k3, k4⟩, f5⟩ := fA.out ad1 cap1 w2 hr2 hk2) | (refine step_gapp (w0 := (w1.alloc (Obj.cells #[] 77)).alloc (Obj.cells #[.int .i64 KD, .string NM, .string TT, .string SX, .int .i64 LG] 77)) (by rfl) _ _ elChange (by rfl) w1.heap.size (Value.slice (some ⟨w1.heap.size, 0, none⟩) 0 0) (.slice a2 m c2) [] XS 0 m m HZ.out kB.out (by rfl) (by rfl) oB.out eB.out gB.out HXL.out HX1.out HML.out HMB.out ?_; intro ad1 cap1 w2 hr2 hk2; obtain ⟨f1, f3, f4, ⟨b1, k0, k1, k2, k3, k4⟩, f5⟩ := fB.out ad1 cap1 w2 hr2 hk2) | (refine step_gapp (w0 := (w1.alloc (Obj.cells #[.int .i64 KD, .string NM, .string TT, .string SX, .int .i64 LG] 77)).alloc (Obj.cells #[] 77)) (by rfl) _ _ elChange (by rfl) w1.heap.size (Value.slice (some ⟨w1.heap.size + 1, 0, none⟩) 0 0) (.slice a2 m c2) [] XS 0 m m HZ.out kC.out (by rfl) (by rfl) oC.out eC.out gC.out HXL.out HX1.out HML.out HMB.out ?_; intro ad1 cap1 w2 hr2 hk2; obtain ⟨f1, f3, f4, ⟨b1, k0, k1, k2, k3, k4⟩, f5⟩ := fC.out ad1 cap1 w2 hr2 hk2) | (refine step_gapp (w0 := w2.alloc (Obj.cells #[.int .i64 KD, .string NM, .string TT, .string SX, .int .i64 LG] 77)) (by rfl) _ _ elChange (by rfl) w1.heap.size (.slice ad1 m cap1) (.slice (some ⟨w2.heap.size, 0, none⟩) 1 1) ([] ++ XS) CS m 1 (m + 1) (by rfl) f4.out (by rfl) (by rfl) f2.out f1.out f3.out HCL.out HC1.out HML1.out HMB1.out ?_; intro ad3 cap3 w3 hr3 hk3; have HE := hid (f5.out ad3 cap3 w3 hk3); obtain ⟨b1, k0, k1, k2, k3, k4⟩ := (WK.out _ HE.out).2) | (refine step_gapp (w0 := w2) (by rfl) _ _ elChange (by rfl) w1.heap.size (.slice ad1 m cap1) (.slice (some ⟨w1.heap.size + 1, 0, none⟩) 1 1) ([] ++ XS) CS m 1 (m + 1) (by rfl) f4.out (by rfl) (by rfl) hr2 f1.out f3.out HCL.out HC1.out HML1.out HMB1.out ?_; intro ad3 cap3 w3 hr3 hk3; have HE := hid (f5.out ad3 cap3 w3 hk3); obtain ⟨b1, k0, k1, k2, k3, k4⟩ := (WK.out _ HE.out).2) | (refine step_gapp (w0 := w2) (by rfl) _ _ elChange (by rfl) w1.heap.size (.slice ad1 m cap1) (.slice (some ⟨w1.heap.size, 0, none⟩) 1 1) ([] ++ XS) CS m 1 (m + 1) (by rfl) f4.out (by rfl) (by rfl) hr2 f1.out f3.out HCL.out HC1.out HML1.out HMB1.out ?_; intro ad3 cap3 w3 hr3 hk3; have HE := hid (f5.out ad3 cap3 w3 hk3); obtain ⟨b1, k0, k1, k2, k3, k4⟩ := (WK.out _ HE.out).2))
    all_goals (go_wp2_with fail; go_meet; exact ⟨_, _, rfl, hr3, HE.out⟩)
  case rest =>
    obtain ⟨ad3, cap3, rfl, HO3, HE⟩ := hcut
    have HRD3 := hid (HRD.out.keep HE.out (fun h => h))
    have HRR3 := hid (HRR.out.keep HE.out (fun h => h))
    have HF3 := hid ((HK1.out.trans HE.out).ownsRow HFF.out (fun _ _ h => h))
    clear b1 k0 k1 k2 k3 k4 b1k HRD HRR HFF HWW HXL HX1 HZ HML HMB HML1 HMB1 HCL HC1 HCS
    go_wp2
    go_loopw [8] (fun i wr => ∃ k : Nat, k ≤ k0 ∧ i = .int .i64 k ∧ Hid (Keep (fun _ => False) wc wr)) (fun i _ => fl.length - (intOf i).toNat)
    case atStart => exact ⟨0, by omega, rfl, Keep.refl _ _⟩
    case round =>
      obtain ⟨k, hk, rfl, HK⟩ := hrel
      have rd := HRD3.out.keep HK.out (fun h => h)
      have d4 := rd.cellAt (o := 4) rfl
      have d2 := rd.cellAt (o := 2) rfl
      have hlt : k < fl.length := by omega
      by_cases hlt2 : k < k0
      · have hk0 : (0 : Int) ≤ (k : Int) := by omega
        have hk1 : (k : Int) < (fl.length : Int) := by omega
        obtain ⟨g, hg, hcl⟩ := fall_cells (HK.out.ownsRow HF3.out (fun _ _ h => h)) k hlt
        subst hg
        have HNE := HNF.out k hlt hlt2
        clear HFAIL HAT
        generalize fl[k] = f at *
        obtain ⟨AT, KP, TN⟩ := f
        simp only at HNE
        have q0 := hcl 0 (by omega)
        have q1 := hcl 1 (by omega)
        have q2 := hcl 2 (by omega)
        simp only [flC, List.getElem?_cons_zero, List.getElem?_cons_succ, Nat.add_zero] at q0 q1 q2
        have HKS : Hid (Keep (fun _ => False) wr (wr.alloc (Obj.cells #[.int .i64 AT, .int .i64 KP, .int .i64 TN] 81))) := keep_alloc _ _ _
        have hltd : w.heap.size < wr.heap.size := rd.lt
        have hne : (AT == (n : Int)) = false := by rw [beq_eq_false_iff_ne]; exact HNE
        clear hcl HNE rd
        go_wp2
        exact ⟨⟨k + 1, by omega, by go_num, HK.out.trans HKS.out⟩, by simp [intOf]; omega⟩
      · have hkk : k = k0 := by omega
        subst hkk
        have hk0 : (0 : Int) ≤ (k : Int) := by omega
        have hk1 : (k : Int) < (fl.length : Int) := by omega
        obtain ⟨g, hg, hcl⟩ := fall_cells (HK.out.ownsRow HF3.out (fun _ _ h => h)) k hlt
        subst hg
        have HNE := HAT.out
        generalize fl[k] = f at *
        obtain ⟨AT, KP, TN⟩ := f
        simp only at HNE
        have q0 := hcl 0 (by omega)
        have q1 := hcl 1 (by omega)
        have q2 := hcl 2 (by omega)
        simp only [flC, List.getElem?_cons_zero, List.getElem?_cons_succ, Nat.add_zero] at q0 q1 q2
        have HKS : Hid (Keep (fun _ => False) wr (wr.alloc (Obj.cells #[.int .i64 AT, .int .i64 KP, .int .i64 TN] 81))) := keep_alloc _ _ _
        have hltd : w.heap.size < wr.heap.size := rd.lt
        have hne : (AT == (n : Int)) = true := by rw [beq_iff_eq]; exact HNE
        have HFW := hid (HK.out.ownsRow HF3.out (fun _ _ h => h))
        have HRDk := hid rd
        clear hcl HNE rd
        simp only at HFAIL
        go_wp2
        have rf : RowIs (wr.alloc (Obj.cells #[.int .i64 AT, .int .i64 KP, .int .i64 TN] 81)) wr.heap.size [.int .i64 AT, .int .i64 KP, .int .i64 TN] 81 := heap_alloc_new _ _
        have rdf := HRDk.out.keep HKS.out (fun h => h)
        have hff := HKS.out.ownsRow HFW.out (fun _ _ h => h)
        generalize (wr.alloc (Obj.cells #[.int .i64 AT, .int .i64 KP, .int .i64 TN] 81)) = wf at *
        obtain ⟨xA, hx1, hsl1⟩ := gsrc_to elFall hff k (by omega)
        obtain ⟨x2, hx2, hsl2⟩ := gsrc_from elFall hff (k + 1) (by omega)
        have hsl3 : ∀ W : World, (Instr.slice 28 (.slice (some ⟨g, 0, none⟩) fl.length c3) (some (.int .i64 ((k : Int) + 1))) none none).run Try.prog W = .ok x2 W := fun W => hsl2 W
        have hqi : IntKind.i64.wrap ((k : Int) + 1) = (k : Int) + 1 := by rw [IntKind.wrap_i64]; omega
        have hlen : (fls fl).length = fl.length * 3 := hff.1
        have SK : Hid (∀ W, Keep (fun _ => False) wf W → (W.cell? ⟨w.heap.size, 0, none⟩ = some (.slice a1 x1 c1) ∧ W.cell? ⟨w.heap.size, 1, none⟩ = some (.slice a2 m c2) ∧ W.cell? ⟨w.heap.size, 2, none⟩ = some (.int .i64 (n : Int)) ∧ W.cell? ⟨w.heap.size, 3, none⟩ = some (.bool false) ∧ W.cell? ⟨w.heap.size, 4, none⟩ = some (.slice (some ⟨g, 0, none⟩) fl.length c3) ∧ W.cell? ⟨w.heap.size, 5, none⟩ = some (.int .i64 rm) ∧ W.frozen? ⟨w.heap.size, 4, none⟩ = false ∧ W.frozen? ⟨w.heap.size, 1, none⟩ = false ∧ W.cell? ⟨wr.heap.size, 1, none⟩ = some (.int .i64 KP) ∧ W.cell? ⟨wr.heap.size, 2, none⟩ = some (.int .i64 TN))) := fun W hW => by
          have r1 := rdf.keep hW (fun h => h)
          have r2 := rf.keep hW (fun h => h)
          exact ⟨r1.cellAt rfl, r1.cellAt rfl, r1.cellAt rfl, r1.cellAt rfl, r1.cellAt rfl, r1.cellAt rfl, r1.frozen, r1.frozen, r2.cellAt rfl, r2.cellAt rfl⟩
        obtain ⟨b0, b1, b2, b3, b4, b5, f4, f1, p1, p2⟩ := SK.out wf (Keep.refl _ _)
        have HRF := hid rdf
        have HRfl := hid rf
        have HSZ : Hid (wr.heap.size < wf.heap.size ∧ w.heap.size + 1 + 1 < wr.heap.size ∧ w.heap.size < wr.heap.size) := ⟨rf.lt, Nat.lt_of_lt_of_le HK1Z.out (Nat.le_trans HE.out.size HK.out.size), HRDk.out.lt⟩
        have HCF := hid (HK.out.trans HKS.out)
        have kF1 : Hid (Keep (fun _ => False) (wf.alloc (Obj.cells #[] 81)) (wf.alloc (Obj.cells #[] 81))) := Keep.refl _ _
        have kF2 : Hid (Keep (fun _ => False) (wf.alloc (Obj.cells #[] 81)) (wf.alloc (Obj.cells #[] 81)).drew) := keep_drew _ _
        have kF3 : Hid (Keep (fun _ => False) (wf.alloc (Obj.cells #[] 81)) (wf.alloc (Obj.cells #[] 81)).drew.drew) := kF2.out.trans (keep_drew _ _)
        have kF4 : Hid (Keep (fun _ => False) (wf.alloc (Obj.cells #[] 81)) (wf.alloc (Obj.cells #[] 81)).drew.drew.drew) := kF3.out.trans (keep_drew _ _)
        have hlwf : w.heap.size < wf.heap.size := rdf.lt
        have eF : Hid (wf.heap.size ≤ (wf.alloc (Obj.cells #[] 81)).heap.size) := by show _ ≤ _; simp
        have oF : Hid ((wf.alloc (Obj.cells #[] 81)).ownsRow wf.heap.size 81 3 (Value.slice (some ⟨wf.heap.size, 0, none⟩) 0 0) 0 []) := own_empty (heap_alloc_new _ _) (Nat.le_refl _)
        have gF : Hid (GSrc (wf.alloc (Obj.cells #[] 81)) xA k ((fls fl).take (k * 3))) := hx1.keep _ (keep_alloc (fun _ => False) _ _) (fun _ _ h => h)
        have HZ1 : Hid (0 + k = k) := Nat.zero_add _
        have HL1 : Hid (((fls fl).take (k * 3)).length = k * 3) := by show _ = _; rw [List.length_take]; omega
        have HO1 : Hid (∀ u ∈ (fls fl).take (k * 3), u.oneCell' = true) := fun u hu => fls_cell1 fl u (List.mem_of_mem_take hu)
        have HB1 : Hid (k ≤ 70368744177) := by show _ ≤ _; omega
        have HC1 : Hid (k * 24 ≤ 140737488355328) := by show _ ≤ _; omega
        have HZ2 : Hid (k + (fl.length - (k + 1)) = fl.length - 1) := by show _ = _; omega
        have HL2 : Hid (((fls fl).drop ((k + 1) * 3)).length = (fl.length - (k + 1)) * 3) := by show _ = _; rw [List.length_drop]; omega
        have HO2 : Hid (∀ u ∈ (fls fl).drop ((k + 1) * 3), u.oneCell' = true) := fun u hu => fls_cell1 fl u (List.mem_of_mem_drop hu)
        have HB2 : Hid (fl.length - 1 ≤ 70368744177) := by show _ ≤ _; omega
        have HC2 : Hid ((fl.length - 1) * 24 ≤ 140737488355328) := by show _ ≤ _; omega
        have fF : Hid (∀ (adA : Option Addr) (capA : Nat) wA, wA.ownsRow wf.heap.size 81 3 (.slice adA k capA) k ([] ++ (fls fl).take (k * 3)) → Keep (fun j => (Value.slice (some ⟨wf.heap.size, 0, none⟩) 0 0).ownBlock = some j) (wf.alloc (Obj.cells #[] 81)) wA → Hid (wf.heap.size ≤ wA.heap.size) ∧ Hid (GSrc wA x2 (fl.length - (k + 1)) ((fls fl).drop ((k + 1) * 3))) ∧ Hid (Keep (fun _ => False) wA wA) ∧ (wA.cell? ⟨w.heap.size, 0, none⟩ = some (.slice a1 x1 c1) ∧ wA.cell? ⟨w.heap.size, 1, none⟩ = some (.slice a2 m c2) ∧ wA.cell? ⟨w.heap.size, 2, none⟩ = some (.int .i64 (n : Int)) ∧ wA.cell? ⟨w.heap.size, 3, none⟩ = some (.bool false) ∧ wA.cell? ⟨w.heap.size, 4, none⟩ = some (.slice (some ⟨g, 0, none⟩) fl.length c3) ∧ wA.cell? ⟨w.heap.size, 5, none⟩ = some (.int .i64 rm) ∧ wA.frozen? ⟨w.heap.size, 4, none⟩ = false ∧ wA.frozen? ⟨w.heap.size, 1, none⟩ = false ∧ wA.cell? ⟨wr.heap.size, 1, none⟩ = some (.int .i64 KP) ∧ wA.cell? ⟨wr.heap.size, 2, none⟩ = some (.int .i64 TN)) ∧ Hid (∀ wB, Keep (fun j => (Value.slice adA k capA).ownBlock = some j) wA wB → Keep (fun _ => False) wf wB)) := fun adA capA wA hr hk => by
          have k12 : Keep (fun _ => False) wf wA := (keep_alloc (fun _ => False) wf _).then hk (fun j hj e => by have e2 := Option.some.inj (show some wf.heap.size = some j from e); omega)
          exact ⟨k12.size, hx2.keep _ k12 (fun _ _ h => h), Keep.refl _ _, SK.out _ k12, fun wB hkB => k12.then hkB (fun j hj e => by have := ownsRow_ge hr e; omega)⟩
        have hSA := SK.out _ (keep_alloc (fun _ => False) wf (Obj.cells #[] 81))
        have hSAd := SK.out _ ((keep_alloc (fun _ => False) wf (Obj.cells #[] 81)).trans (keep_drew _ _))
        clear hx1 hx2 hsl2 hlen hff rdf rf
        go_cut [52] from 41 to 53 (fun s wx => ∃ adB capB wB, s = .slice adB (fl.length - 1) capB ∧ wx = wB.setCell ⟨w.heap.size, 4, none⟩ (.slice adB (fl.length - 1) capB) ∧ Hid (wB.ownsRow wf.heap.size 81 3 (.slice adB (fl.length - 1) capB) (fl.length - 1) ((fls fl).take (k * 3) ++ (fls fl).drop ((k + 1) * 3))) ∧ Hid (Keep (fun _ => False) wf wB))
        case first =>
          clear HFAIL HRF HSZ HCF HFW HRDk HKS HNF HAT HO3 HE HRR3 HF3 HRD3
          go_region_law ((first | (refine step_gapp (w0 := wf.alloc (Obj.cells #[] 81)) (by rfl) _ _ elFall (by rfl) wf.heap.size (Value.slice (some ⟨wf.heap.size, 0, none⟩) 0 0) xA [] ((fls fl).take (k * 3)) 0 k k HZ1.out (by first | exact kF1.out | exact kF2.out | exact kF3.out | exact kF4.out) (by rfl) (by rfl) oF.out eF.out gF.out HL1.out HO1.out HB1.out HC1.out ?_; intro adA capA wA hrA hkA; obtain ⟨t1, t2, t3, ⟨b0, b1, b2, b3, b4, b5, f4, f1, p1, p2⟩, t5⟩ := fF.out adA capA wA hrA hkA) | (refine step_gapp (w0 := wA) (by rfl) _ _ elFall (by rfl) wf.heap.size (.slice adA k capA) x2 ([] ++ (fls fl).take (k * 3)) ((fls fl).drop ((k + 1) * 3)) k (fl.length - (k + 1)) (fl.length - 1) HZ2.out (by first | exact Keep.refl _ _ | exact keep_drew _ _) (by rfl) (by rfl) hrA t1.out t2.out HL2.out HO2.out HB2.out HC2.out ?_; intro adB capB wB hrB hkB; have HKB := hid (t5.out wB hkB); obtain ⟨b0, b1, b2, b3, b4, b5, f4, f1, p1, p2⟩ := SK.out _ HKB.out)))
          all_goals (go_wp2_with fail; go_meet; exact ⟨_, _, _, rfl, rfl, hrB, HKB.out⟩)
        case rest =>
          obtain ⟨adB, capB, wB, rfl, rfl, HOB, HKB⟩ := hcut
          clear SK b0 b1 b2 b3 b4 b5 f4 f1 p1 p2 hsl1 hsl3 hqi kF1 kF2 kF3 kF4 hlwf eF oF gF HZ1 HL1 HO1 HB1 HC1 HZ2 HL2 HO2 HB2 HC2 fF hSA hSAd
          have rdB := HRF.out.keep HKB.out (fun h => h)
          have rfB := HRfl.out.keep HKB.out (fun h => h)
          have kS : Keep (· = w.heap.size) wB ((wB.setCell ⟨w.heap.size, 4, none⟩ (.slice adB (fl.length - 1) capB)).setCell ⟨w.heap.size, 1, none⟩ (.slice ad3 (m + 1) cap3)) := (keep_setCell _ _ _ _).trans (keep_setCell _ _ _ _)
          have hz := HSZ.out
          have hwW : Keep (fun _ => False) w ((wB.setCell ⟨w.heap.size, 4, none⟩ (.slice adB (fl.length - 1) capB)).setCell ⟨w.heap.size, 1, none⟩ (.slice ad3 (m + 1) cap3)) := (((HK1.out.trans HE.out).trans HCF.out).trans HKB.out).then kS (fun j hj e => by omega)
          have hoB : ((wB.setCell ⟨w.heap.size, 4, none⟩ (.slice adB (fl.length - 1) capB)).setCell ⟨w.heap.size, 1, none⟩ (.slice ad3 (m + 1) cap3)).ownsRow w.heap.size 81 3 (.slice adB (fl.length - 1) capB) (fl.length - 1) ((fls fl).take (k * 3) ++ (fls fl).drop ((k + 1) * 3)) := ownsRow_base (kS.ownsRow HOB.out (fun g e e2 => by have := ownsRow_ge HOB.out e; omega)) (by omega)
          have ho3 : ((wB.setCell ⟨w.heap.size, 4, none⟩ (.slice adB (fl.length - 1) capB)).setCell ⟨w.heap.size, 1, none⟩ (.slice ad3 (m + 1) cap3)).ownsRow w.heap.size 77 5 (.slice ad3 (m + 1) cap3) (m + 1) (XS ++ CS) := ownsRow_base (kS.ownsRow ((HCF.out.trans HKB.out).ownsRow HO3.out (fun _ _ h => h)) (fun g e e2 => by have := ownsRow_ge HO3.out e; have := HK1Z.out; omega)) HK1.out.size
          have F1 := hid (HFAIL.out _ _ _ hoB ho3 hwW)
          have HRS := hid ((HRR3.out.keep (HCF.out.trans HKB.out) (fun h => h)).keep kS (fun h => by omega))
          have HOBS := hid hoB
          have HWW := hid hwW
          have HOBG := hid (fun g e => ownsRow_ge HOB.out (g := g) e)
          have d0 := rdB.cellAt (o := 0) rfl
          have d1 := rdB.cellAt (o := 1) rfl
          have d2' := rdB.cellAt (o := 2) rfl
          have d3 := rdB.cellAt (o := 3) rfl
          have d4' := rdB.cellAt (o := 4) rfl
          have d5 := rdB.cellAt (o := 5) rfl
          have fz := rdB.frozen (o := 1)
          have p1 := rfB.cellAt (o := 1) rfl
          have p2 := rfB.cellAt (o := 2) rfl
          have hnw1 : w.heap.size ≠ wr.heap.size := by omega
          have hnw2 : wr.heap.size ≠ w.heap.size := by omega
          clear rdB rfB kS hz hwW hoB ho3 HFAIL HRF HRfl HKB HOB HCF HO3 HRR3
          go_wp2_with fail
          refine F1.out.mono ?_
          rintro e w5 ⟨ad5, cap5, rfl, hf5, hk5, hl5⟩
          have HKW5 := hid (HWW.out.trans hk5)
          have rr := HRS.out.keep hk5 (fun h => h)
          have HOB5 := hid (hk5.ownsRow HOBS.out (fun _ _ h => h))
          have HF5 := hid hf5
          have HL5 := hid hl5
          have HRR5 := hid rr
          have HS := hid (six (v0 := .slice ad5 AF.length cap5) (v1 := .slice none 0 0) (v2 := .int .i64 (n : Int)) (v3 := .bool true) (v4 := (.slice adB (fl.length - 1) capB)) (v5 := .int .i64 rm) rr)
          clear d0 d1 d2' d3 d4' d5 fz p1 p2 F1 HRS HOBS HWW hf5 hk5 hl5
          have y0 := rr.cellAt (o := 0) rfl
          have y1 := rr.cellAt (o := 1) rfl
          have y2 := rr.cellAt (o := 2) rfl
          have y3 := rr.cellAt (o := 3) rfl
          have y4 := rr.cellAt (o := 4) rfl
          have y5 := rr.cellAt (o := 5) rfl
          have g0 := rr.frozen (o := 0)
          have g1 := rr.frozen (o := 1)
          have g2 := rr.frozen (o := 2)
          have g3 := rr.frozen (o := 3)
          have g4 := rr.frozen (o := 4)
          have g5 := rr.frozen (o := 5)
          clear rr
          go_wp2
          refine bodyPost_ret (v := .tuple #[.agg #[.slice ad5 AF.length cap5, .slice none 0 0, .int .i64 (n : Int), .bool true, (.slice adB (fl.length - 1) capB), .int .i64 rm], .int .i64 21]) (ret_cell_tmp (p := 4) (u := 5) rfl _ _ (w.heap.size + 1 + 1) _ _ rfl rfl (run_loadVar_row _ _ _ _ _ _ _ HS.out.1 Try.underlying30 rfl (by kernel_rfl))) rfl ⟨_, _, _, rfl, ?_, HL5.out, ?_, ?_⟩
          · exact HS.out.2.ownsRow HF5.out (fun g e e2 => row_ne HF5.out e HRR5.out (by decide) e2)
          · exact HS.out.2.ownsRow HOB5.out (fun g e e2 => by have := HOBG.out g e; have := HSZ.out; omega)
          · exact HKW5.out.then HS.out.2 (fun j hj e => by omega)
end Go.Proofs.Ytnlodlpjokkepab
namespace Go.Proofs.Ytnlodlpjokkepab
open Go.RowKit Go.Maps
set_option linter.unusedVariables false
set_option linter.unusedSimpArgs false

set_option maxRecDepth 100000 in
set_option maxHeartbeats 4000000 in
theorem wrong_0na (a1 a2 a3 : Option Addr) (x1 c1 x2 c2 b3 c3 n : Nat) (rm : Int) (name tt s : Bs) (ln : Int) (A : List (Bs × Bs)) (w : World) (hI : WrIn w (.agg #[.slice a1 x1 c1, .slice a2 x2 c2, .int .i64 (n : Int), .bool false, .slice a3 b3 c3, .int .i64 rm]) A name) (hnm : nameOk name = true) (hgx : kget A name = none) (hlA : A.length ≤ 7036874417) (hT : tot A ≤ 7036874417) (hls : s.length ≤ 70368744177) (h1 : s = []) (r : Int) (hr : r = (if 0 < (s.length : Int) ∧ 0 ≤ rm ∧ rm < ((tot A : Nat) : Int) + (s.length : Int) then 22 else 0)) :
    Calls Try.prog 59 #[.agg #[.slice a1 x1 c1, .slice a2 x2 c2, .int .i64 (n : Int), .bool false, .slice a3 b3 c3, .int .i64 rm], .agg #[.int .i64 0, .string (tx name), .string (tx tt), .string (tx s), .int .i64 ln]] w fun e w' => e = .returned (.int .i64 r) ∧ Keep (fun _ => False) w w' := by
  have HI := hid hI
  have HA := hid hr
  have H1 := hid h1
  clear h1
  have NA := hid (fun W : World => rname_any (tx name) W)
  rw [tx_list, hnm] at NA
  clear hI hr hnm
  go_enter Try.func59, Try.ntmps59
  go_wp2_with fail
  refine (NA.out _).mono ?_
  rintro e w1 ⟨rfl, rfl⟩
  clear NA
  go_wp2_with fail
  have hsz : (w.alloc (.cells #[.slice a1 x1 c1, .slice a2 x2 c2, .int .i64 (n : Int), .bool false, .slice a3 b3 c3, .int .i64 rm] 30)).heap.size = w.heap.size + 1 := by simp
  have hk0 : Keep (fun _ => False) w ((w.alloc (.cells #[.slice a1 x1 c1, .slice a2 x2 c2, .int .i64 (n : Int), .bool false, .slice a3 b3 c3, .int .i64 rm] 30)).alloc (.cells #[.int .i64 0, .string (tx name), .string (tx tt), .string (tx s), .int .i64 ln] 77)) := (keep_alloc _ _ _).trans (keep_alloc _ _ _)
  have rd : RowIs ((w.alloc (.cells #[.slice a1 x1 c1, .slice a2 x2 c2, .int .i64 (n : Int), .bool false, .slice a3 b3 c3, .int .i64 rm] 30)).alloc (.cells #[.int .i64 0, .string (tx name), .string (tx tt), .string (tx s), .int .i64 ln] 77)) w.heap.size [.slice a1 x1 c1, .slice a2 x2 c2, .int .i64 (n : Int), .bool false, .slice a3 b3 c3, .int .i64 rm] 30 := RowIs.keep (heap_alloc_new _ _) (keep_alloc (fun _ => False) _ _) (fun h => h)
  have rc : RowIs ((w.alloc (.cells #[.slice a1 x1 c1, .slice a2 x2 c2, .int .i64 (n : Int), .bool false, .slice a3 b3 c3, .int .i64 rm] 30)).alloc (.cells #[.int .i64 0, .string (tx name), .string (tx tt), .string (tx s), .int .i64 ln] 77)) (w.heap.size + 1) [.int .i64 0, .string (tx name), .string (tx tt), .string (tx s), .int .i64 ln] 77 := by rw [← hsz]; exact heap_alloc_new _ _
  generalize (w.alloc (.cells #[.slice a1 x1 c1, .slice a2 x2 c2, .int .i64 (n : Int), .bool false, .slice a3 b3 c3, .int .i64 rm] 30)).alloc (.cells #[.int .i64 0, .string (tx name), .string (tx tt), .string (tx s), .int .i64 ln] 77) = w0 at *
  refine (HI.out.now w0 hk0).mono ?_
  rintro e w2 ⟨ad, cap, rfl, hr, hk⟩
  have rd2 := rd.keep hk (fun h => h)
  have rc2 := rc.keep hk (fun h => h)
  have c1 := rc2.cellAt (o := 1) rfl
  have F1 := hid (HI.out.find w2 ad cap hr)
  have HK2 := hid (hk0.trans hk)
  clear hk0 rd rc hr hk hsz
  go_wp2_with fail
  refine F1.out.mono ?_
  rintro e w3 ⟨hk3, hor⟩
  have HK3 := hid (HK2.out.trans hk3)
  have rd3 := rd2.keep hk3 (fun h => h)
  have rc3 := rc2.keep hk3 (fun h => h)
  clear F1 HK2 rd2 rc2 c1 hk3
  have d0 := rd3.cellAt (o := 0) rfl
  have d1 := rd3.cellAt (o := 1) rfl
  have d2 := rd3.cellAt (o := 2) rfl
  have d3 := rd3.cellAt (o := 3) rfl
  have d4 := rd3.cellAt (o := 4) rfl
  have d5 := rd3.cellAt (o := 5) rfl
  have k0 := rc3.cellAt (o := 0) rfl
  have k1 := rc3.cellAt (o := 1) rfl
  have k2 := rc3.cellAt (o := 2) rfl
  have k3 := rc3.cellAt (o := 3) rfl
  have k4 := rc3.cellAt (o := 4) rfl
  have HRD := hid rd3
  have HRC := hid rc3
  clear rd3 rc3
  rcases hor with ⟨k, rfl, hg⟩ | ⟨k, g, t, rfl, hg, rfl, hk0, hk1, q1⟩
  · have h1 := H1.out
    have hss : ((tx s).size : Int) = (s.length : Int) := by rw [size_mk]
    have e0 := tx_beq0 s
    have e1 := tx_bne0 s
    rw [decide_eq_true h1] at e0 e1
    clear HI HRD HRC
    go_wp2
    go_quiet (fail)
    go_wp2
    go_quiet (fail)
    go_wp2
    go_ret
    exact ⟨ret_int (by rw [HA.out, if_neg (by have h1 := H1.out; subst h1; simp)]), HK3.out.trans (keep_drewN _ _)⟩
  · rw [hgx] at hg; cases hg
end Go.Proofs.Ytnlodlpjokkepab
namespace Go.Proofs.Ytnlodlpjokkepab
open Go.RowKit Go.Maps
set_option linter.unusedVariables false
set_option linter.unusedSimpArgs false

set_option maxRecDepth 100000 in
set_option maxHeartbeats 4000000 in
theorem wrong_0nb (a1 a2 a3 : Option Addr) (x1 c1 x2 c2 b3 c3 n : Nat) (rm : Int) (name tt s : Bs) (ln : Int) (A : List (Bs × Bs)) (w : World) (hI : WrIn w (.agg #[.slice a1 x1 c1, .slice a2 x2 c2, .int .i64 (n : Int), .bool false, .slice a3 b3 c3, .int .i64 rm]) A name) (hnm : nameOk name = true) (hgx : kget A name = none) (hlA : A.length ≤ 7036874417) (hT : tot A ≤ 7036874417) (hls : s.length ≤ 70368744177) (h1 : ¬ (s = [])) (h2 : 0 ≤ rm) (r : Int) (hr : r = (if 0 < (s.length : Int) ∧ 0 ≤ rm ∧ rm < ((tot A : Nat) : Int) + (s.length : Int) then 22 else 0)) :
    Calls Try.prog 59 #[.agg #[.slice a1 x1 c1, .slice a2 x2 c2, .int .i64 (n : Int), .bool false, .slice a3 b3 c3, .int .i64 rm], .agg #[.int .i64 0, .string (tx name), .string (tx tt), .string (tx s), .int .i64 ln]] w fun e w' => e = .returned (.int .i64 r) ∧ Keep (fun _ => False) w w' := by
  have HI := hid hI
  have HA := hid hr
  have H1 := hid h1
  have H2 := hid h2
  clear h2
  clear h1
  have NA := hid (fun W : World => rname_any (tx name) W)
  rw [tx_list, hnm] at NA
  clear hI hr hnm
  go_enter Try.func59, Try.ntmps59
  go_wp2_with fail
  refine (NA.out _).mono ?_
  rintro e w1 ⟨rfl, rfl⟩
  clear NA
  go_wp2_with fail
  have hsz : (w.alloc (.cells #[.slice a1 x1 c1, .slice a2 x2 c2, .int .i64 (n : Int), .bool false, .slice a3 b3 c3, .int .i64 rm] 30)).heap.size = w.heap.size + 1 := by simp
  have hk0 : Keep (fun _ => False) w ((w.alloc (.cells #[.slice a1 x1 c1, .slice a2 x2 c2, .int .i64 (n : Int), .bool false, .slice a3 b3 c3, .int .i64 rm] 30)).alloc (.cells #[.int .i64 0, .string (tx name), .string (tx tt), .string (tx s), .int .i64 ln] 77)) := (keep_alloc _ _ _).trans (keep_alloc _ _ _)
  have rd : RowIs ((w.alloc (.cells #[.slice a1 x1 c1, .slice a2 x2 c2, .int .i64 (n : Int), .bool false, .slice a3 b3 c3, .int .i64 rm] 30)).alloc (.cells #[.int .i64 0, .string (tx name), .string (tx tt), .string (tx s), .int .i64 ln] 77)) w.heap.size [.slice a1 x1 c1, .slice a2 x2 c2, .int .i64 (n : Int), .bool false, .slice a3 b3 c3, .int .i64 rm] 30 := RowIs.keep (heap_alloc_new _ _) (keep_alloc (fun _ => False) _ _) (fun h => h)
  have rc : RowIs ((w.alloc (.cells #[.slice a1 x1 c1, .slice a2 x2 c2, .int .i64 (n : Int), .bool false, .slice a3 b3 c3, .int .i64 rm] 30)).alloc (.cells #[.int .i64 0, .string (tx name), .string (tx tt), .string (tx s), .int .i64 ln] 77)) (w.heap.size + 1) [.int .i64 0, .string (tx name), .string (tx tt), .string (tx s), .int .i64 ln] 77 := by rw [← hsz]; exact heap_alloc_new _ _
  generalize (w.alloc (.cells #[.slice a1 x1 c1, .slice a2 x2 c2, .int .i64 (n : Int), .bool false, .slice a3 b3 c3, .int .i64 rm] 30)).alloc (.cells #[.int .i64 0, .string (tx name), .string (tx tt), .string (tx s), .int .i64 ln] 77) = w0 at *
  refine (HI.out.now w0 hk0).mono ?_
  rintro e w2 ⟨ad, cap, rfl, hr, hk⟩
  have rd2 := rd.keep hk (fun h => h)
  have rc2 := rc.keep hk (fun h => h)
  have c1 := rc2.cellAt (o := 1) rfl
  have F1 := hid (HI.out.find w2 ad cap hr)
  have HK2 := hid (hk0.trans hk)
  clear hk0 rd rc hr hk hsz
  go_wp2_with fail
  refine F1.out.mono ?_
  rintro e w3 ⟨hk3, hor⟩
  have HK3 := hid (HK2.out.trans hk3)
  have rd3 := rd2.keep hk3 (fun h => h)
  have rc3 := rc2.keep hk3 (fun h => h)
  clear F1 HK2 rd2 rc2 c1 hk3
  have d0 := rd3.cellAt (o := 0) rfl
  have d1 := rd3.cellAt (o := 1) rfl
  have d2 := rd3.cellAt (o := 2) rfl
  have d3 := rd3.cellAt (o := 3) rfl
  have d4 := rd3.cellAt (o := 4) rfl
  have d5 := rd3.cellAt (o := 5) rfl
  have k0 := rc3.cellAt (o := 0) rfl
  have k1 := rc3.cellAt (o := 1) rfl
  have k2 := rc3.cellAt (o := 2) rfl
  have k3 := rc3.cellAt (o := 3) rfl
  have k4 := rc3.cellAt (o := 4) rfl
  have HRD := hid rd3
  have HRC := hid rc3
  clear rd3 rc3
  rcases hor with ⟨k, rfl, hg⟩ | ⟨k, g, t, rfl, hg, rfl, hk0, hk1, q1⟩
  · have h1 := H1.out
    have h2 := H2.out
    have hss : ((tx s).size : Int) = (s.length : Int) := by rw [size_mk]
    have e0 := tx_beq0 s
    have e1 := tx_bne0 s
    rw [decide_eq_false h1] at e0 e1
    have h1p : 0 < s.length := List.length_pos_iff.2 h1
    have e3 : decide (rm ≥ 0) = true := decide_eq_true (by omega)
    have e4 : decide (0 ≤ rm) = true := e3
    have w1 : wrap64 (((tot A : Nat) : Int) + ((tx s).size : Int)) = ((tot A : Nat) : Int) + (s.length : Int) := by rw [hss, IntWalk.wrap64_in _ (by omega)]
    have v1 : IntKind.i64.wrap (((tot A : Nat) : Int) + ((tx s).size : Int)) = ((tot A : Nat) : Int) + (s.length : Int) := by rw [IntKind.wrap_i64]; omega
    obtain ⟨bb, hbb⟩ : ∃ bb, bb = decide (((tot A : Nat) : Int) + (s.length : Int) > rm) := ⟨_, rfl⟩
    have e5 : decide (((tot A : Nat) : Int) + (s.length : Int) > rm) = bb := hbb.symm
    have e6 : decide (rm < ((tot A : Nat) : Int) + (s.length : Int)) = bb := hbb.symm
    have HBB := hid hbb
    clear hbb
    have UC : Hid (∀ W, Keep (fun _ => False) w3 W → Calls Try.prog 43 #[.agg #[.slice a1 x1 c1, .slice a2 x2 c2, .int .i64 (n : Int), .bool false, .slice a3 b3 c3, .int .i64 rm]] W fun e w' => e = .returned (.int .i64 ((tot A : Nat) : Int)) ∧ (w'.cell? ⟨w.heap.size, 0, none⟩ = some (.slice a1 x1 c1) ∧ w'.cell? ⟨w.heap.size, 1, none⟩ = some (.slice a2 x2 c2) ∧ w'.cell? ⟨w.heap.size, 2, none⟩ = some (.int .i64 (n : Int)) ∧ w'.cell? ⟨w.heap.size, 3, none⟩ = some (.bool false) ∧ w'.cell? ⟨w.heap.size, 4, none⟩ = some (.slice a3 b3 c3) ∧ w'.cell? ⟨w.heap.size, 5, none⟩ = some (.int .i64 rm) ∧ w'.cell? ⟨w.heap.size + 1, 0, none⟩ = some (.int .i64 0) ∧ w'.cell? ⟨w.heap.size + 1, 3, none⟩ = some (.string (tx s))) ∧ Keep (fun _ => False) w w') := by
      intro W hW
      refine (HI.out.used W (HK3.out.trans hW)).mono fun e w' ⟨he, hk⟩ => ⟨he, ?_, (HK3.out.trans hW).trans hk⟩
      have r1 := HRD.out.keep (hW.trans hk) (fun h => h)
      have r2 := HRC.out.keep (hW.trans hk) (fun h => h)
      exact ⟨r1.cellAt rfl, r1.cellAt rfl, r1.cellAt rfl, r1.cellAt rfl, r1.cellAt rfl, r1.cellAt rfl, r2.cellAt rfl, r2.cellAt rfl⟩
    clear HI HRD HRC HK3 hss
    generalize tx s = SX at *
    go_wp2
    go_cut [42] from 43 to 66 (fun s9 wx => s9 = .bool bb ∧ Hid (wx.cell? ⟨w.heap.size, 0, none⟩ = some (.slice a1 x1 c1) ∧ wx.cell? ⟨w.heap.size, 1, none⟩ = some (.slice a2 x2 c2) ∧ wx.cell? ⟨w.heap.size, 2, none⟩ = some (.int .i64 (n : Int)) ∧ wx.cell? ⟨w.heap.size, 3, none⟩ = some (.bool false) ∧ wx.cell? ⟨w.heap.size, 4, none⟩ = some (.slice a3 b3 c3) ∧ wx.cell? ⟨w.heap.size, 5, none⟩ = some (.int .i64 rm) ∧ wx.cell? ⟨w.heap.size + 1, 0, none⟩ = some (.int .i64 0) ∧ wx.cell? ⟨w.heap.size + 1, 3, none⟩ = some (.string SX)) ∧ Hid (Keep (fun _ => False) w wx))
    case first =>
      have hS0 : w3.cell? ⟨w.heap.size, 0, none⟩ = some (.slice a1 x1 c1) ∧ w3.cell? ⟨w.heap.size, 1, none⟩ = some (.slice a2 x2 c2) ∧ w3.cell? ⟨w.heap.size, 2, none⟩ = some (.int .i64 (n : Int)) ∧ w3.cell? ⟨w.heap.size, 3, none⟩ = some (.bool false) ∧ w3.cell? ⟨w.heap.size, 4, none⟩ = some (.slice a3 b3 c3) ∧ w3.cell? ⟨w.heap.size, 5, none⟩ = some (.int .i64 rm) ∧ w3.cell? ⟨w.heap.size + 1, 0, none⟩ = some (.int .i64 0) ∧ w3.cell? ⟨w.heap.size + 1, 3, none⟩ = some (.string SX) := ⟨d0, d1, d2, d3, d4, d5, k0, k3⟩
      have hS1 : w3.drew.cell? ⟨w.heap.size, 0, none⟩ = some (.slice a1 x1 c1) ∧ w3.drew.cell? ⟨w.heap.size, 1, none⟩ = some (.slice a2 x2 c2) ∧ w3.drew.cell? ⟨w.heap.size, 2, none⟩ = some (.int .i64 (n : Int)) ∧ w3.drew.cell? ⟨w.heap.size, 3, none⟩ = some (.bool false) ∧ w3.drew.cell? ⟨w.heap.size, 4, none⟩ = some (.slice a3 b3 c3) ∧ w3.drew.cell? ⟨w.heap.size, 5, none⟩ = some (.int .i64 rm) ∧ w3.drew.cell? ⟨w.heap.size + 1, 0, none⟩ = some (.int .i64 0) ∧ w3.drew.cell? ⟨w.heap.size + 1, 3, none⟩ = some (.string SX) := ⟨d0, d1, d2, d3, d4, d5, k0, k3⟩
      have HKa : Hid (Keep (fun _ => False) w3 w3) := Keep.refl _ _
      have HKb : Hid (Keep (fun _ => False) w3 w3.drew) := keep_drew _ _
      clear HBB HA hlA hT hls hg k1 k2 k4
      go_region_held3 (fun w' => w'.cell? ⟨w.heap.size, 0, none⟩ = some (.slice a1 x1 c1) ∧ w'.cell? ⟨w.heap.size, 1, none⟩ = some (.slice a2 x2 c2) ∧ w'.cell? ⟨w.heap.size, 2, none⟩ = some (.int .i64 (n : Int)) ∧ w'.cell? ⟨w.heap.size, 3, none⟩ = some (.bool false) ∧ w'.cell? ⟨w.heap.size, 4, none⟩ = some (.slice a3 b3 c3) ∧ w'.cell? ⟨w.heap.size, 5, none⟩ = some (.int .i64 rm) ∧ w'.cell? ⟨w.heap.size + 1, 0, none⟩ = some (.int .i64 0) ∧ w'.cell? ⟨w.heap.size + 1, 3, none⟩ = some (.string SX)) (first | with_reducible assumption | with_reducible (exact hS0) | with_reducible (exact hS1)) (first | (go_at_call 43; with_reducible (refine (UC.out _ ?_).mono ?_); (first | exact HKa.out | exact HKb.out); rintro e w4 ⟨rfl, hf4, hk4⟩))
      all_goals (go_wp2_with fail; go_meet; exact ⟨rfl, hf4, hk4⟩)
    case rest =>
      obtain ⟨rfl, hf4, HK4⟩ := hcut
      clear UC d0 d1 d2 d3 d4 d5 k0 k3
      obtain ⟨d0, d1, d2, d3, d4, d5, k0, k3⟩ := hf4.out
      clear hf4
      cases bb with
      | true =>
        have h3 : rm < ((tot A : Nat) : Int) + (s.length : Int) := of_decide_eq_true HBB.out.symm
        go_wp2
        go_ret
        exact ⟨ret_int (by rw [HA.out, if_pos ⟨by omega, by omega, by omega⟩]), HK4.out⟩
      | false =>
        have h3 : ¬ rm < ((tot A : Nat) : Int) + (s.length : Int) := of_decide_eq_false HBB.out.symm
        go_wp2
        go_quiet (fail)
        go_wp2
        go_ret
        exact ⟨ret_int (by rw [HA.out, if_neg (by omega)]), HK4.out.trans (keep_drewN _ _)⟩
  · rw [hgx] at hg; cases hg
end Go.Proofs.Ytnlodlpjokkepab
namespace Go.Proofs.Ytnlodlpjokkepab
open Go.RowKit Go.Maps
set_option linter.unusedVariables false
set_option linter.unusedSimpArgs false

set_option maxRecDepth 100000 in
set_option maxHeartbeats 4000000 in
theorem wrong_0nc (a1 a2 a3 : Option Addr) (x1 c1 x2 c2 b3 c3 n : Nat) (rm : Int) (name tt s : Bs) (ln : Int) (A : List (Bs × Bs)) (w : World) (hI : WrIn w (.agg #[.slice a1 x1 c1, .slice a2 x2 c2, .int .i64 (n : Int), .bool false, .slice a3 b3 c3, .int .i64 rm]) A name) (hnm : nameOk name = true) (hgx : kget A name = none) (hlA : A.length ≤ 7036874417) (hT : tot A ≤ 7036874417) (hls : s.length ≤ 70368744177) (h1 : ¬ (s = [])) (h2 : ¬ 0 ≤ rm) (r : Int) (hr : r = (if 0 < (s.length : Int) ∧ 0 ≤ rm ∧ rm < ((tot A : Nat) : Int) + (s.length : Int) then 22 else 0)) :
    Calls Try.prog 59 #[.agg #[.slice a1 x1 c1, .slice a2 x2 c2, .int .i64 (n : Int), .bool false, .slice a3 b3 c3, .int .i64 rm], .agg #[.int .i64 0, .string (tx name), .string (tx tt), .string (tx s), .int .i64 ln]] w fun e w' => e = .returned (.int .i64 r) ∧ Keep (fun _ => False) w w' := by
  have HI := hid hI
  have HA := hid hr
  have H1 := hid h1
  have H2 := hid h2
  clear h2
  clear h1
  have NA := hid (fun W : World => rname_any (tx name) W)
  rw [tx_list, hnm] at NA
  clear hI hr hnm
  go_enter Try.func59, Try.ntmps59
  go_wp2_with fail
  refine (NA.out _).mono ?_
  rintro e w1 ⟨rfl, rfl⟩
  clear NA
  go_wp2_with fail
  have hsz : (w.alloc (.cells #[.slice a1 x1 c1, .slice a2 x2 c2, .int .i64 (n : Int), .bool false, .slice a3 b3 c3, .int .i64 rm] 30)).heap.size = w.heap.size + 1 := by simp
  have hk0 : Keep (fun _ => False) w ((w.alloc (.cells #[.slice a1 x1 c1, .slice a2 x2 c2, .int .i64 (n : Int), .bool false, .slice a3 b3 c3, .int .i64 rm] 30)).alloc (.cells #[.int .i64 0, .string (tx name), .string (tx tt), .string (tx s), .int .i64 ln] 77)) := (keep_alloc _ _ _).trans (keep_alloc _ _ _)
  have rd : RowIs ((w.alloc (.cells #[.slice a1 x1 c1, .slice a2 x2 c2, .int .i64 (n : Int), .bool false, .slice a3 b3 c3, .int .i64 rm] 30)).alloc (.cells #[.int .i64 0, .string (tx name), .string (tx tt), .string (tx s), .int .i64 ln] 77)) w.heap.size [.slice a1 x1 c1, .slice a2 x2 c2, .int .i64 (n : Int), .bool false, .slice a3 b3 c3, .int .i64 rm] 30 := RowIs.keep (heap_alloc_new _ _) (keep_alloc (fun _ => False) _ _) (fun h => h)
  have rc : RowIs ((w.alloc (.cells #[.slice a1 x1 c1, .slice a2 x2 c2, .int .i64 (n : Int), .bool false, .slice a3 b3 c3, .int .i64 rm] 30)).alloc (.cells #[.int .i64 0, .string (tx name), .string (tx tt), .string (tx s), .int .i64 ln] 77)) (w.heap.size + 1) [.int .i64 0, .string (tx name), .string (tx tt), .string (tx s), .int .i64 ln] 77 := by rw [← hsz]; exact heap_alloc_new _ _
  generalize (w.alloc (.cells #[.slice a1 x1 c1, .slice a2 x2 c2, .int .i64 (n : Int), .bool false, .slice a3 b3 c3, .int .i64 rm] 30)).alloc (.cells #[.int .i64 0, .string (tx name), .string (tx tt), .string (tx s), .int .i64 ln] 77) = w0 at *
  refine (HI.out.now w0 hk0).mono ?_
  rintro e w2 ⟨ad, cap, rfl, hr, hk⟩
  have rd2 := rd.keep hk (fun h => h)
  have rc2 := rc.keep hk (fun h => h)
  have c1 := rc2.cellAt (o := 1) rfl
  have F1 := hid (HI.out.find w2 ad cap hr)
  have HK2 := hid (hk0.trans hk)
  clear hk0 rd rc hr hk hsz
  go_wp2_with fail
  refine F1.out.mono ?_
  rintro e w3 ⟨hk3, hor⟩
  have HK3 := hid (HK2.out.trans hk3)
  have rd3 := rd2.keep hk3 (fun h => h)
  have rc3 := rc2.keep hk3 (fun h => h)
  clear F1 HK2 rd2 rc2 c1 hk3
  have d0 := rd3.cellAt (o := 0) rfl
  have d1 := rd3.cellAt (o := 1) rfl
  have d2 := rd3.cellAt (o := 2) rfl
  have d3 := rd3.cellAt (o := 3) rfl
  have d4 := rd3.cellAt (o := 4) rfl
  have d5 := rd3.cellAt (o := 5) rfl
  have k0 := rc3.cellAt (o := 0) rfl
  have k1 := rc3.cellAt (o := 1) rfl
  have k2 := rc3.cellAt (o := 2) rfl
  have k3 := rc3.cellAt (o := 3) rfl
  have k4 := rc3.cellAt (o := 4) rfl
  have HRD := hid rd3
  have HRC := hid rc3
  clear rd3 rc3
  rcases hor with ⟨k, rfl, hg⟩ | ⟨k, g, t, rfl, hg, rfl, hk0, hk1, q1⟩
  · have h1 := H1.out
    have h2 := H2.out
    have hss : ((tx s).size : Int) = (s.length : Int) := by rw [size_mk]
    have e0 := tx_beq0 s
    have e1 := tx_bne0 s
    rw [decide_eq_false h1] at e0 e1
    have h1p : 0 < s.length := List.length_pos_iff.2 h1
    have e3 : decide (rm ≥ 0) = false := decide_eq_false (by omega)
    have e4 : decide (0 ≤ rm) = false := e3
    clear HI HRD HRC
    clear h1 h2 h1p hss
    generalize tx s = SX at *
    go_wp2
    go_quiet (fail)
    go_wp2
    go_quiet (fail)
    go_wp2
    go_ret
    exact ⟨ret_int (by have h2 := H2.out; rw [HA.out, if_neg (by omega)]), HK3.out.trans (keep_drewN _ _)⟩
  · rw [hgx] at hg; cases hg
end Go.Proofs.Ytnlodlpjokkepab
namespace Go.Proofs.Ytnlodlpjokkepab
open Go.RowKit Go.Maps
set_option linter.unusedVariables false
set_option linter.unusedSimpArgs false

set_option maxRecDepth 100000 in
set_option maxHeartbeats 4000000 in
theorem wrong_0fa (a1 a2 a3 : Option Addr) (x1 c1 x2 c2 b3 c3 n : Nat) (rm : Int) (name tt s : Bs) (ln : Int) (A : List (Bs × Bs)) (w : World) (hI : WrIn w (.agg #[.slice a1 x1 c1, .slice a2 x2 c2, .int .i64 (n : Int), .bool false, .slice a3 b3 c3, .int .i64 rm]) A name) (hnm : nameOk name = true) (t0 : Bs) (hgx : kget A name = some t0) (hlA : A.length ≤ 7036874417) (hT : tot A ≤ 7036874417) (hls : s.length ≤ 70368744177) (h1 : s = []) (r : Int) (hr : r = (if 0 < (s.length : Int) ∧ 0 ≤ rm ∧ rm < ((tot A : Nat) : Int) + (s.length : Int) then 22 else 0)) :
    Calls Try.prog 59 #[.agg #[.slice a1 x1 c1, .slice a2 x2 c2, .int .i64 (n : Int), .bool false, .slice a3 b3 c3, .int .i64 rm], .agg #[.int .i64 0, .string (tx name), .string (tx tt), .string (tx s), .int .i64 ln]] w fun e w' => e = .returned (.int .i64 r) ∧ Keep (fun _ => False) w w' := by
  have HI := hid hI
  have HA := hid hr
  have H1 := hid h1
  clear h1
  have NA := hid (fun W : World => rname_any (tx name) W)
  rw [tx_list, hnm] at NA
  clear hI hr hnm
  go_enter Try.func59, Try.ntmps59
  go_wp2_with fail
  refine (NA.out _).mono ?_
  rintro e w1 ⟨rfl, rfl⟩
  clear NA
  go_wp2_with fail
  have hsz : (w.alloc (.cells #[.slice a1 x1 c1, .slice a2 x2 c2, .int .i64 (n : Int), .bool false, .slice a3 b3 c3, .int .i64 rm] 30)).heap.size = w.heap.size + 1 := by simp
  have hk0 : Keep (fun _ => False) w ((w.alloc (.cells #[.slice a1 x1 c1, .slice a2 x2 c2, .int .i64 (n : Int), .bool false, .slice a3 b3 c3, .int .i64 rm] 30)).alloc (.cells #[.int .i64 0, .string (tx name), .string (tx tt), .string (tx s), .int .i64 ln] 77)) := (keep_alloc _ _ _).trans (keep_alloc _ _ _)
  have rd : RowIs ((w.alloc (.cells #[.slice a1 x1 c1, .slice a2 x2 c2, .int .i64 (n : Int), .bool false, .slice a3 b3 c3, .int .i64 rm] 30)).alloc (.cells #[.int .i64 0, .string (tx name), .string (tx tt), .string (tx s), .int .i64 ln] 77)) w.heap.size [.slice a1 x1 c1, .slice a2 x2 c2, .int .i64 (n : Int), .bool false, .slice a3 b3 c3, .int .i64 rm] 30 := RowIs.keep (heap_alloc_new _ _) (keep_alloc (fun _ => False) _ _) (fun h => h)
  have rc : RowIs ((w.alloc (.cells #[.slice a1 x1 c1, .slice a2 x2 c2, .int .i64 (n : Int), .bool false, .slice a3 b3 c3, .int .i64 rm] 30)).alloc (.cells #[.int .i64 0, .string (tx name), .string (tx tt), .string (tx s), .int .i64 ln] 77)) (w.heap.size + 1) [.int .i64 0, .string (tx name), .string (tx tt), .string (tx s), .int .i64 ln] 77 := by rw [← hsz]; exact heap_alloc_new _ _
  generalize (w.alloc (.cells #[.slice a1 x1 c1, .slice a2 x2 c2, .int .i64 (n : Int), .bool false, .slice a3 b3 c3, .int .i64 rm] 30)).alloc (.cells #[.int .i64 0, .string (tx name), .string (tx tt), .string (tx s), .int .i64 ln] 77) = w0 at *
  refine (HI.out.now w0 hk0).mono ?_
  rintro e w2 ⟨ad, cap, rfl, hr, hk⟩
  have rd2 := rd.keep hk (fun h => h)
  have rc2 := rc.keep hk (fun h => h)
  have c1 := rc2.cellAt (o := 1) rfl
  have F1 := hid (HI.out.find w2 ad cap hr)
  have HK2 := hid (hk0.trans hk)
  clear hk0 rd rc hr hk hsz
  go_wp2_with fail
  refine F1.out.mono ?_
  rintro e w3 ⟨hk3, hor⟩
  have HK3 := hid (HK2.out.trans hk3)
  have rd3 := rd2.keep hk3 (fun h => h)
  have rc3 := rc2.keep hk3 (fun h => h)
  clear F1 HK2 rd2 rc2 c1 hk3
  have d0 := rd3.cellAt (o := 0) rfl
  have d1 := rd3.cellAt (o := 1) rfl
  have d2 := rd3.cellAt (o := 2) rfl
  have d3 := rd3.cellAt (o := 3) rfl
  have d4 := rd3.cellAt (o := 4) rfl
  have d5 := rd3.cellAt (o := 5) rfl
  have k0 := rc3.cellAt (o := 0) rfl
  have k1 := rc3.cellAt (o := 1) rfl
  have k2 := rc3.cellAt (o := 2) rfl
  have k3 := rc3.cellAt (o := 3) rfl
  have k4 := rc3.cellAt (o := 4) rfl
  have HRD := hid rd3
  have HRC := hid rc3
  clear rd3 rc3
  rcases hor with ⟨k, rfl, hg⟩ | ⟨k, g, t, rfl, hg, rfl, hk0, hk1, q1⟩
  · rw [hgx] at hg; cases hg
  · obtain rfl : t = t0 := by rw [hgx] at hg; injection hg with hg; exact hg.symm
    have h1 := H1.out
    have hss : ((tx s).size : Int) = (s.length : Int) := by rw [size_mk]
    have hsz : ((tx t).size : Int) = (t.length : Int) := by rw [size_mk]
    have e0 := tx_beq0 s
    have e1 := tx_bne0 s
    rw [decide_eq_true h1] at e0 e1
    clear HI HRD HRC
    go_wp2
    go_quiet (fail)
    go_wp2
    go_quiet (fail)
    go_wp2
    go_ret
    exact ⟨ret_int (by rw [HA.out, if_neg (by have h1 := H1.out; subst h1; simp)]), HK3.out.trans (keep_drewN _ _)⟩
end Go.Proofs.Ytnlodlpjokkepab
namespace Go.Proofs.Ytnlodlpjokkepab
open Go.RowKit Go.Maps
set_option linter.unusedVariables false
set_option linter.unusedSimpArgs false

set_option maxRecDepth 100000 in
set_option maxHeartbeats 4000000 in
theorem wrong_0fb (a1 a2 a3 : Option Addr) (x1 c1 x2 c2 b3 c3 n : Nat) (rm : Int) (name tt s : Bs) (ln : Int) (A : List (Bs × Bs)) (w : World) (hI : WrIn w (.agg #[.slice a1 x1 c1, .slice a2 x2 c2, .int .i64 (n : Int), .bool false, .slice a3 b3 c3, .int .i64 rm]) A name) (hnm : nameOk name = true) (t0 : Bs) (hgx : kget A name = some t0) (hlA : A.length ≤ 7036874417) (hT : tot A ≤ 7036874417) (hls : s.length ≤ 70368744177) (h1 : ¬ (s = [])) (h2 : 0 ≤ rm) (r : Int) (hr : r = (if 0 < (s.length : Int) ∧ 0 ≤ rm ∧ rm < ((tot A : Nat) : Int) + (s.length : Int) then 22 else 0)) :
    Calls Try.prog 59 #[.agg #[.slice a1 x1 c1, .slice a2 x2 c2, .int .i64 (n : Int), .bool false, .slice a3 b3 c3, .int .i64 rm], .agg #[.int .i64 0, .string (tx name), .string (tx tt), .string (tx s), .int .i64 ln]] w fun e w' => e = .returned (.int .i64 r) ∧ Keep (fun _ => False) w w' := by
  have HI := hid hI
  have HA := hid hr
  have H1 := hid h1
  have H2 := hid h2
  clear h2
  clear h1
  have NA := hid (fun W : World => rname_any (tx name) W)
  rw [tx_list, hnm] at NA
  clear hI hr hnm
  go_enter Try.func59, Try.ntmps59
  go_wp2_with fail
  refine (NA.out _).mono ?_
  rintro e w1 ⟨rfl, rfl⟩
  clear NA
  go_wp2_with fail
  have hsz : (w.alloc (.cells #[.slice a1 x1 c1, .slice a2 x2 c2, .int .i64 (n : Int), .bool false, .slice a3 b3 c3, .int .i64 rm] 30)).heap.size = w.heap.size + 1 := by simp
  have hk0 : Keep (fun _ => False) w ((w.alloc (.cells #[.slice a1 x1 c1, .slice a2 x2 c2, .int .i64 (n : Int), .bool false, .slice a3 b3 c3, .int .i64 rm] 30)).alloc (.cells #[.int .i64 0, .string (tx name), .string (tx tt), .string (tx s), .int .i64 ln] 77)) := (keep_alloc _ _ _).trans (keep_alloc _ _ _)
  have rd : RowIs ((w.alloc (.cells #[.slice a1 x1 c1, .slice a2 x2 c2, .int .i64 (n : Int), .bool false, .slice a3 b3 c3, .int .i64 rm] 30)).alloc (.cells #[.int .i64 0, .string (tx name), .string (tx tt), .string (tx s), .int .i64 ln] 77)) w.heap.size [.slice a1 x1 c1, .slice a2 x2 c2, .int .i64 (n : Int), .bool false, .slice a3 b3 c3, .int .i64 rm] 30 := RowIs.keep (heap_alloc_new _ _) (keep_alloc (fun _ => False) _ _) (fun h => h)
  have rc : RowIs ((w.alloc (.cells #[.slice a1 x1 c1, .slice a2 x2 c2, .int .i64 (n : Int), .bool false, .slice a3 b3 c3, .int .i64 rm] 30)).alloc (.cells #[.int .i64 0, .string (tx name), .string (tx tt), .string (tx s), .int .i64 ln] 77)) (w.heap.size + 1) [.int .i64 0, .string (tx name), .string (tx tt), .string (tx s), .int .i64 ln] 77 := by rw [← hsz]; exact heap_alloc_new _ _
  generalize (w.alloc (.cells #[.slice a1 x1 c1, .slice a2 x2 c2, .int .i64 (n : Int), .bool false, .slice a3 b3 c3, .int .i64 rm] 30)).alloc (.cells #[.int .i64 0, .string (tx name), .string (tx tt), .string (tx s), .int .i64 ln] 77) = w0 at *
  refine (HI.out.now w0 hk0).mono ?_
  rintro e w2 ⟨ad, cap, rfl, hr, hk⟩
  have rd2 := rd.keep hk (fun h => h)
  have rc2 := rc.keep hk (fun h => h)
  have c1 := rc2.cellAt (o := 1) rfl
  have F1 := hid (HI.out.find w2 ad cap hr)
  have HK2 := hid (hk0.trans hk)
  clear hk0 rd rc hr hk hsz
  go_wp2_with fail
  refine F1.out.mono ?_
  rintro e w3 ⟨hk3, hor⟩
  have HK3 := hid (HK2.out.trans hk3)
  have rd3 := rd2.keep hk3 (fun h => h)
  have rc3 := rc2.keep hk3 (fun h => h)
  clear F1 HK2 rd2 rc2 c1 hk3
  have d0 := rd3.cellAt (o := 0) rfl
  have d1 := rd3.cellAt (o := 1) rfl
  have d2 := rd3.cellAt (o := 2) rfl
  have d3 := rd3.cellAt (o := 3) rfl
  have d4 := rd3.cellAt (o := 4) rfl
  have d5 := rd3.cellAt (o := 5) rfl
  have k0 := rc3.cellAt (o := 0) rfl
  have k1 := rc3.cellAt (o := 1) rfl
  have k2 := rc3.cellAt (o := 2) rfl
  have k3 := rc3.cellAt (o := 3) rfl
  have k4 := rc3.cellAt (o := 4) rfl
  have HRD := hid rd3
  have HRC := hid rc3
  clear rd3 rc3
  rcases hor with ⟨k, rfl, hg⟩ | ⟨k, g, t, rfl, hg, rfl, hk0, hk1, q1⟩
  · rw [hgx] at hg; cases hg
  · obtain rfl : t = t0 := by rw [hgx] at hg; injection hg with hg; exact hg.symm
    have h1 := H1.out
    have h2 := H2.out
    have hss : ((tx s).size : Int) = (s.length : Int) := by rw [size_mk]
    have hsz : ((tx t).size : Int) = (t.length : Int) := by rw [size_mk]
    have e0 := tx_beq0 s
    have e1 := tx_bne0 s
    rw [decide_eq_false h1] at e0 e1
    have h1p : 0 < s.length := List.length_pos_iff.2 h1
    have e3 : decide (rm ≥ 0) = true := decide_eq_true (by omega)
    have e4 : decide (0 ≤ rm) = true := e3
    have w1 : wrap64 (((tot A : Nat) : Int) + ((tx s).size : Int)) = ((tot A : Nat) : Int) + (s.length : Int) := by rw [hss, IntWalk.wrap64_in _ (by omega)]
    have v1 : IntKind.i64.wrap (((tot A : Nat) : Int) + ((tx s).size : Int)) = ((tot A : Nat) : Int) + (s.length : Int) := by rw [IntKind.wrap_i64]; omega
    obtain ⟨bb, hbb⟩ : ∃ bb, bb = decide (((tot A : Nat) : Int) + (s.length : Int) > rm) := ⟨_, rfl⟩
    have e5 : decide (((tot A : Nat) : Int) + (s.length : Int) > rm) = bb := hbb.symm
    have e6 : decide (rm < ((tot A : Nat) : Int) + (s.length : Int)) = bb := hbb.symm
    have HBB := hid hbb
    clear hbb
    have UC : Hid (∀ W, Keep (fun _ => False) w3 W → Calls Try.prog 43 #[.agg #[.slice a1 x1 c1, .slice a2 x2 c2, .int .i64 (n : Int), .bool false, .slice a3 b3 c3, .int .i64 rm]] W fun e w' => e = .returned (.int .i64 ((tot A : Nat) : Int)) ∧ (w'.cell? ⟨w.heap.size, 0, none⟩ = some (.slice a1 x1 c1) ∧ w'.cell? ⟨w.heap.size, 1, none⟩ = some (.slice a2 x2 c2) ∧ w'.cell? ⟨w.heap.size, 2, none⟩ = some (.int .i64 (n : Int)) ∧ w'.cell? ⟨w.heap.size, 3, none⟩ = some (.bool false) ∧ w'.cell? ⟨w.heap.size, 4, none⟩ = some (.slice a3 b3 c3) ∧ w'.cell? ⟨w.heap.size, 5, none⟩ = some (.int .i64 rm) ∧ w'.cell? ⟨w.heap.size + 1, 0, none⟩ = some (.int .i64 0) ∧ w'.cell? ⟨w.heap.size + 1, 3, none⟩ = some (.string (tx s))) ∧ Keep (fun _ => False) w w') := by
      intro W hW
      refine (HI.out.used W (HK3.out.trans hW)).mono fun e w' ⟨he, hk⟩ => ⟨he, ?_, (HK3.out.trans hW).trans hk⟩
      have r1 := HRD.out.keep (hW.trans hk) (fun h => h)
      have r2 := HRC.out.keep (hW.trans hk) (fun h => h)
      exact ⟨r1.cellAt rfl, r1.cellAt rfl, r1.cellAt rfl, r1.cellAt rfl, r1.cellAt rfl, r1.cellAt rfl, r2.cellAt rfl, r2.cellAt rfl⟩
    clear HI HRD HRC HK3 hss
    generalize tx s = SX at *
    generalize tx t = TX at *
    go_wp2
    go_cut [42] from 43 to 66 (fun s9 wx => s9 = .bool bb ∧ Hid (wx.cell? ⟨w.heap.size, 0, none⟩ = some (.slice a1 x1 c1) ∧ wx.cell? ⟨w.heap.size, 1, none⟩ = some (.slice a2 x2 c2) ∧ wx.cell? ⟨w.heap.size, 2, none⟩ = some (.int .i64 (n : Int)) ∧ wx.cell? ⟨w.heap.size, 3, none⟩ = some (.bool false) ∧ wx.cell? ⟨w.heap.size, 4, none⟩ = some (.slice a3 b3 c3) ∧ wx.cell? ⟨w.heap.size, 5, none⟩ = some (.int .i64 rm) ∧ wx.cell? ⟨w.heap.size + 1, 0, none⟩ = some (.int .i64 0) ∧ wx.cell? ⟨w.heap.size + 1, 3, none⟩ = some (.string SX)) ∧ Hid (Keep (fun _ => False) w wx))
    case first =>
      have hS0 : w3.cell? ⟨w.heap.size, 0, none⟩ = some (.slice a1 x1 c1) ∧ w3.cell? ⟨w.heap.size, 1, none⟩ = some (.slice a2 x2 c2) ∧ w3.cell? ⟨w.heap.size, 2, none⟩ = some (.int .i64 (n : Int)) ∧ w3.cell? ⟨w.heap.size, 3, none⟩ = some (.bool false) ∧ w3.cell? ⟨w.heap.size, 4, none⟩ = some (.slice a3 b3 c3) ∧ w3.cell? ⟨w.heap.size, 5, none⟩ = some (.int .i64 rm) ∧ w3.cell? ⟨w.heap.size + 1, 0, none⟩ = some (.int .i64 0) ∧ w3.cell? ⟨w.heap.size + 1, 3, none⟩ = some (.string SX) := ⟨d0, d1, d2, d3, d4, d5, k0, k3⟩
      have hS1 : w3.drew.cell? ⟨w.heap.size, 0, none⟩ = some (.slice a1 x1 c1) ∧ w3.drew.cell? ⟨w.heap.size, 1, none⟩ = some (.slice a2 x2 c2) ∧ w3.drew.cell? ⟨w.heap.size, 2, none⟩ = some (.int .i64 (n : Int)) ∧ w3.drew.cell? ⟨w.heap.size, 3, none⟩ = some (.bool false) ∧ w3.drew.cell? ⟨w.heap.size, 4, none⟩ = some (.slice a3 b3 c3) ∧ w3.drew.cell? ⟨w.heap.size, 5, none⟩ = some (.int .i64 rm) ∧ w3.drew.cell? ⟨w.heap.size + 1, 0, none⟩ = some (.int .i64 0) ∧ w3.drew.cell? ⟨w.heap.size + 1, 3, none⟩ = some (.string SX) := ⟨d0, d1, d2, d3, d4, d5, k0, k3⟩
      have HKa : Hid (Keep (fun _ => False) w3 w3) := Keep.refl _ _
      have HKb : Hid (Keep (fun _ => False) w3 w3.drew) := keep_drew _ _
      clear HBB HA hlA hT hls hg k1 k2 k4
      go_region_held3 (fun w' => w'.cell? ⟨w.heap.size, 0, none⟩ = some (.slice a1 x1 c1) ∧ w'.cell? ⟨w.heap.size, 1, none⟩ = some (.slice a2 x2 c2) ∧ w'.cell? ⟨w.heap.size, 2, none⟩ = some (.int .i64 (n : Int)) ∧ w'.cell? ⟨w.heap.size, 3, none⟩ = some (.bool false) ∧ w'.cell? ⟨w.heap.size, 4, none⟩ = some (.slice a3 b3 c3) ∧ w'.cell? ⟨w.heap.size, 5, none⟩ = some (.int .i64 rm) ∧ w'.cell? ⟨w.heap.size + 1, 0, none⟩ = some (.int .i64 0) ∧ w'.cell? ⟨w.heap.size + 1, 3, none⟩ = some (.string SX)) (first | with_reducible assumption | with_reducible (exact hS0) | with_reducible (exact hS1)) (first | (go_at_call 43; with_reducible (refine (UC.out _ ?_).mono ?_); (first | exact HKa.out | exact HKb.out); rintro e w4 ⟨rfl, hf4, hk4⟩))
      all_goals (go_wp2_with fail; go_meet; exact ⟨rfl, hf4, hk4⟩)
    case rest =>
      obtain ⟨rfl, hf4, HK4⟩ := hcut
      clear UC d0 d1 d2 d3 d4 d5 k0 k3
      obtain ⟨d0, d1, d2, d3, d4, d5, k0, k3⟩ := hf4.out
      clear hf4
      cases bb with
      | true =>
        have h3 : rm < ((tot A : Nat) : Int) + (s.length : Int) := of_decide_eq_true HBB.out.symm
        go_wp2
        go_ret
        exact ⟨ret_int (by rw [HA.out, if_pos ⟨by omega, by omega, by omega⟩]), HK4.out⟩
      | false =>
        have h3 : ¬ rm < ((tot A : Nat) : Int) + (s.length : Int) := of_decide_eq_false HBB.out.symm
        go_wp2
        go_quiet (fail)
        go_wp2
        go_ret
        exact ⟨ret_int (by rw [HA.out, if_neg (by omega)]), HK4.out.trans (keep_drewN _ _)⟩
end Go.Proofs.Ytnlodlpjokkepab
namespace Go.Proofs.Ytnlodlpjokkepab
open Go.RowKit Go.Maps
set_option linter.unusedVariables false
set_option linter.unusedSimpArgs false

set_option maxRecDepth 100000 in
set_option maxHeartbeats 4000000 in
theorem wrong_0fc (a1 a2 a3 : Option Addr) (x1 c1 x2 c2 b3 c3 n : Nat) (rm : Int) (name tt s : Bs) (ln : Int) (A : List (Bs × Bs)) (w : World) (hI : WrIn w (.agg #[.slice a1 x1 c1, .slice a2 x2 c2, .int .i64 (n : Int), .bool false, .slice a3 b3 c3, .int .i64 rm]) A name) (hnm : nameOk name = true) (t0 : Bs) (hgx : kget A name = some t0) (hlA : A.length ≤ 7036874417) (hT : tot A ≤ 7036874417) (hls : s.length ≤ 70368744177) (h1 : ¬ (s = [])) (h2 : ¬ 0 ≤ rm) (r : Int) (hr : r = (if 0 < (s.length : Int) ∧ 0 ≤ rm ∧ rm < ((tot A : Nat) : Int) + (s.length : Int) then 22 else 0)) :
    Calls Try.prog 59 #[.agg #[.slice a1 x1 c1, .slice a2 x2 c2, .int .i64 (n : Int), .bool false, .slice a3 b3 c3, .int .i64 rm], .agg #[.int .i64 0, .string (tx name), .string (tx tt), .string (tx s), .int .i64 ln]] w fun e w' => e = .returned (.int .i64 r) ∧ Keep (fun _ => False) w w' := by
  have HI := hid hI
  have HA := hid hr
  have H1 := hid h1
  have H2 := hid h2
  clear h2
  clear h1
  have NA := hid (fun W : World => rname_any (tx name) W)
  rw [tx_list, hnm] at NA
  clear hI hr hnm
  go_enter Try.func59, Try.ntmps59
  go_wp2_with fail
  refine (NA.out _).mono ?_
  rintro e w1 ⟨rfl, rfl⟩
  clear NA
  go_wp2_with fail
  have hsz : (w.alloc (.cells #[.slice a1 x1 c1, .slice a2 x2 c2, .int .i64 (n : Int), .bool false, .slice a3 b3 c3, .int .i64 rm] 30)).heap.size = w.heap.size + 1 := by simp
  have hk0 : Keep (fun _ => False) w ((w.alloc (.cells #[.slice a1 x1 c1, .slice a2 x2 c2, .int .i64 (n : Int), .bool false, .slice a3 b3 c3, .int .i64 rm] 30)).alloc (.cells #[.int .i64 0, .string (tx name), .string (tx tt), .string (tx s), .int .i64 ln] 77)) := (keep_alloc _ _ _).trans (keep_alloc _ _ _)
  have rd : RowIs ((w.alloc (.cells #[.slice a1 x1 c1, .slice a2 x2 c2, .int .i64 (n : Int), .bool false, .slice a3 b3 c3, .int .i64 rm] 30)).alloc (.cells #[.int .i64 0, .string (tx name), .string (tx tt), .string (tx s), .int .i64 ln] 77)) w.heap.size [.slice a1 x1 c1, .slice a2 x2 c2, .int .i64 (n : Int), .bool false, .slice a3 b3 c3, .int .i64 rm] 30 := RowIs.keep (heap_alloc_new _ _) (keep_alloc (fun _ => False) _ _) (fun h => h)
  have rc : RowIs ((w.alloc (.cells #[.slice a1 x1 c1, .slice a2 x2 c2, .int .i64 (n : Int), .bool false, .slice a3 b3 c3, .int .i64 rm] 30)).alloc (.cells #[.int .i64 0, .string (tx name), .string (tx tt), .string (tx s), .int .i64 ln] 77)) (w.heap.size + 1) [.int .i64 0, .string (tx name), .string (tx tt), .string (tx s), .int .i64 ln] 77 := by rw [← hsz]; exact heap_alloc_new _ _
  generalize (w.alloc (.cells #[.slice a1 x1 c1, .slice a2 x2 c2, .int .i64 (n : Int), .bool false, .slice a3 b3 c3, .int .i64 rm] 30)).alloc (.cells #[.int .i64 0, .string (tx name), .string (tx tt), .string (tx s), .int .i64 ln] 77) = w0 at *
  refine (HI.out.now w0 hk0).mono ?_
  rintro e w2 ⟨ad, cap, rfl, hr, hk⟩
  have rd2 := rd.keep hk (fun h => h)
  have rc2 := rc.keep hk (fun h => h)
  have c1 := rc2.cellAt (o := 1) rfl
  have F1 := hid (HI.out.find w2 ad cap hr)
  have HK2 := hid (hk0.trans hk)
  clear hk0 rd rc hr hk hsz
  go_wp2_with fail
  refine F1.out.mono ?_
  rintro e w3 ⟨hk3, hor⟩
  have HK3 := hid (HK2.out.trans hk3)
  have rd3 := rd2.keep hk3 (fun h => h)
  have rc3 := rc2.keep hk3 (fun h => h)
  clear F1 HK2 rd2 rc2 c1 hk3
  have d0 := rd3.cellAt (o := 0) rfl
  have d1 := rd3.cellAt (o := 1) rfl
  have d2 := rd3.cellAt (o := 2) rfl
  have d3 := rd3.cellAt (o := 3) rfl
  have d4 := rd3.cellAt (o := 4) rfl
  have d5 := rd3.cellAt (o := 5) rfl
  have k0 := rc3.cellAt (o := 0) rfl
  have k1 := rc3.cellAt (o := 1) rfl
  have k2 := rc3.cellAt (o := 2) rfl
  have k3 := rc3.cellAt (o := 3) rfl
  have k4 := rc3.cellAt (o := 4) rfl
  have HRD := hid rd3
  have HRC := hid rc3
  clear rd3 rc3
  rcases hor with ⟨k, rfl, hg⟩ | ⟨k, g, t, rfl, hg, rfl, hk0, hk1, q1⟩
  · rw [hgx] at hg; cases hg
  · obtain rfl : t = t0 := by rw [hgx] at hg; injection hg with hg; exact hg.symm
    have h1 := H1.out
    have h2 := H2.out
    have hss : ((tx s).size : Int) = (s.length : Int) := by rw [size_mk]
    have hsz : ((tx t).size : Int) = (t.length : Int) := by rw [size_mk]
    have e0 := tx_beq0 s
    have e1 := tx_bne0 s
    rw [decide_eq_false h1] at e0 e1
    have h1p : 0 < s.length := List.length_pos_iff.2 h1
    have e3 : decide (rm ≥ 0) = false := decide_eq_false (by omega)
    have e4 : decide (0 ≤ rm) = false := e3
    clear HI HRD HRC
    clear h1 h2 h1p hss hsz
    generalize tx s = SX at *
    go_wp2
    go_quiet (fail)
    go_wp2
    go_quiet (fail)
    go_wp2
    go_ret
    exact ⟨ret_int (by have h2 := H2.out; rw [HA.out, if_neg (by omega)]), HK3.out.trans (keep_drewN _ _)⟩
end Go.Proofs.Ytnlodlpjokkepab
namespace Go.Proofs.Ytnlodlpjokkepab
open Go.RowKit Go.Maps
set_option linter.unusedVariables false
set_option linter.unusedSimpArgs false

set_option maxRecDepth 100000 in
set_option maxHeartbeats 4000000 in
theorem wrong_1na (a1 a2 a3 : Option Addr) (x1 c1 x2 c2 b3 c3 n : Nat) (rm : Int) (name tt s : Bs) (ln : Int) (A : List (Bs × Bs)) (w : World) (hI : WrIn w (.agg #[.slice a1 x1 c1, .slice a2 x2 c2, .int .i64 (n : Int), .bool false, .slice a3 b3 c3, .int .i64 rm]) A name) (hnm : nameOk name = true) (hgx : kget A name = none) (hlA : A.length ≤ 7036874417) (hT : tot A ≤ 7036874417) (hls : s.length ≤ 70368744177) (h1 : ¬ ((0 : Nat) : Int) < (s.length : Int)) (r : Int) (hr : r = (if 0 < (s.length : Int) - (((kget A name).getD []).length : Int) ∧ 0 ≤ rm ∧ rm < ((tot A : Nat) : Int) + ((s.length : Int) - (((kget A name).getD []).length : Int)) then 22 else 0)) :
    Calls Try.prog 59 #[.agg #[.slice a1 x1 c1, .slice a2 x2 c2, .int .i64 (n : Int), .bool false, .slice a3 b3 c3, .int .i64 rm], .agg #[.int .i64 1, .string (tx name), .string (tx tt), .string (tx s), .int .i64 ln]] w fun e w' => e = .returned (.int .i64 r) ∧ Keep (fun _ => False) w w' := by
  have HI := hid hI
  have HA := hid hr
  have H1 := hid h1
  clear h1
  have NA := hid (fun W : World => rname_any (tx name) W)
  rw [tx_list, hnm] at NA
  clear hI hr hnm
  go_enter Try.func59, Try.ntmps59
  go_wp2_with fail
  refine (NA.out _).mono ?_
  rintro e w1 ⟨rfl, rfl⟩
  clear NA
  go_wp2_with fail
  have hsz : (w.alloc (.cells #[.slice a1 x1 c1, .slice a2 x2 c2, .int .i64 (n : Int), .bool false, .slice a3 b3 c3, .int .i64 rm] 30)).heap.size = w.heap.size + 1 := by simp
  have hk0 : Keep (fun _ => False) w ((w.alloc (.cells #[.slice a1 x1 c1, .slice a2 x2 c2, .int .i64 (n : Int), .bool false, .slice a3 b3 c3, .int .i64 rm] 30)).alloc (.cells #[.int .i64 1, .string (tx name), .string (tx tt), .string (tx s), .int .i64 ln] 77)) := (keep_alloc _ _ _).trans (keep_alloc _ _ _)
  have rd : RowIs ((w.alloc (.cells #[.slice a1 x1 c1, .slice a2 x2 c2, .int .i64 (n : Int), .bool false, .slice a3 b3 c3, .int .i64 rm] 30)).alloc (.cells #[.int .i64 1, .string (tx name), .string (tx tt), .string (tx s), .int .i64 ln] 77)) w.heap.size [.slice a1 x1 c1, .slice a2 x2 c2, .int .i64 (n : Int), .bool false, .slice a3 b3 c3, .int .i64 rm] 30 := RowIs.keep (heap_alloc_new _ _) (keep_alloc (fun _ => False) _ _) (fun h => h)
  have rc : RowIs ((w.alloc (.cells #[.slice a1 x1 c1, .slice a2 x2 c2, .int .i64 (n : Int), .bool false, .slice a3 b3 c3, .int .i64 rm] 30)).alloc (.cells #[.int .i64 1, .string (tx name), .string (tx tt), .string (tx s), .int .i64 ln] 77)) (w.heap.size + 1) [.int .i64 1, .string (tx name), .string (tx tt), .string (tx s), .int .i64 ln] 77 := by rw [← hsz]; exact heap_alloc_new _ _
  generalize (w.alloc (.cells #[.slice a1 x1 c1, .slice a2 x2 c2, .int .i64 (n : Int), .bool false, .slice a3 b3 c3, .int .i64 rm] 30)).alloc (.cells #[.int .i64 1, .string (tx name), .string (tx tt), .string (tx s), .int .i64 ln] 77) = w0 at *
  refine (HI.out.now w0 hk0).mono ?_
  rintro e w2 ⟨ad, cap, rfl, hr, hk⟩
  have rd2 := rd.keep hk (fun h => h)
  have rc2 := rc.keep hk (fun h => h)
  have c1 := rc2.cellAt (o := 1) rfl
  have F1 := hid (HI.out.find w2 ad cap hr)
  have HK2 := hid (hk0.trans hk)
  clear hk0 rd rc hr hk hsz
  go_wp2_with fail
  refine F1.out.mono ?_
  rintro e w3 ⟨hk3, hor⟩
  have HK3 := hid (HK2.out.trans hk3)
  have rd3 := rd2.keep hk3 (fun h => h)
  have rc3 := rc2.keep hk3 (fun h => h)
  clear F1 HK2 rd2 rc2 c1 hk3
  have d0 := rd3.cellAt (o := 0) rfl
  have d1 := rd3.cellAt (o := 1) rfl
  have d2 := rd3.cellAt (o := 2) rfl
  have d3 := rd3.cellAt (o := 3) rfl
  have d4 := rd3.cellAt (o := 4) rfl
  have d5 := rd3.cellAt (o := 5) rfl
  have k0 := rc3.cellAt (o := 0) rfl
  have k1 := rc3.cellAt (o := 1) rfl
  have k2 := rc3.cellAt (o := 2) rfl
  have k3 := rc3.cellAt (o := 3) rfl
  have k4 := rc3.cellAt (o := 4) rfl
  have HRD := hid rd3
  have HRC := hid rc3
  clear rd3 rc3
  rcases hor with ⟨k, rfl, hg⟩ | ⟨k, g, t, rfl, hg, rfl, hk0, hk1, q1⟩
  · have h1 := H1.out
    have hss : ((tx s).size : Int) = (s.length : Int) := by rw [size_mk]
    have hgl : (((kget A name).getD []).length : Int) = ((0 : Nat) : Int) := by rw [hg]; rfl
    have e1 : decide (((tx s).size : Int) > 0) = false := by rw [hss]; exact decide_eq_false (by omega)
    have e2 : decide (0 < ((tx s).size : Int)) = false := e1
    have e2n : decide (0 < (tx s).size) = false := decide_eq_false (by have := of_decide_eq_false e2; omega)
    clear HI HRD HRC
    clear h1
    clear hss
    generalize tx s = SX at *
    go_wp2
    go_quiet (fail)
    go_wp2
    go_quiet (fail)
    go_wp2
    go_ret
    exact ⟨ret_int (by have h1 := H1.out; rw [HA.out, if_neg (by omega)]), HK3.out.trans (keep_drewN _ _)⟩
  · rw [hgx] at hg; cases hg
end Go.Proofs.Ytnlodlpjokkepab
