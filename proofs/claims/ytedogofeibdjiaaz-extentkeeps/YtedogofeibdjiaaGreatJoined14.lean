/- Joined: Extents' ids; laying a file whole. What stands in an extent's file: extent's fileText and the document's File. Which extent a file holds: the document's Right. -/
import Derived.Test.YtedogofeibdjiaaGreatJoined10
import Derived.Test.YtedogofeibdjiaaGreatJoined13
import Derived.Test.YtedogofeibdjiaaGreatJoined05
import Derived.Test.YtedogofeibdjiaaGreatListM
import Derived.Test.YtedogofeibdjiaaGreatJoined15
namespace Go.Proofs.YtedogofeibdjiaaGreat
open Go.RowKit Go.Maps
set_option linter.unusedVariables false
set_option linter.unusedSimpArgs false

/-- an extent's id -/
def idB (s : Bs) : Bs := hexL (sha (tld 69 [tx s]))
theorem idB_len (s : Bs) : (idB s).length = 64 := by unfold idB; rw [hexL_len, sha_len]
theorem strs_one {w : World} (T : ByteArray) : Strs (w.alloc (.cells #[.string T] 9)) (.slice (some ⟨w.heap.size, 0, none⟩) 1 1) [T] := by
  refine .inr ⟨w.heap.size, 0, 1, rfl, by simp, fun j hj => ?_⟩
  have hj0 : j = 0 := by simpa using hj
  subst hj0
  rw [cell_of_row _ _ _ _ _ _ (heap_alloc_new _ _)]
  rfl
theorem room_one (T : ByteArray) : room [T] = T.size + 10 := by simp [room]
set_option maxRecDepth 100000 in
theorem id_any (s : Bs) (w : World) (hs : s.length ≤ 1048576) : Calls Tryz.prog 38 #[.string (tx s)] w fun e w' => e = .returned (.string (tx (idB s))) ∧ Keep (fun _ => False) w w' := by
  have TG : Hid (Calls Tryz.prog 67 #[.int .u8 69, .slice (some ⟨w.heap.size, 0, none⟩) 1 1] (w.alloc (.cells #[.string (tx s)] 9)) fun e w' => e = .returned (.string (tx (sha (tld 69 [tx s])))) ∧ Keep (fun _ => False) w w') :=
    (tagged_any 69 _ [tx s] _ (strs_one (w := w) (tx s)) (by rw [room_one, size_mk]; omega)).mono fun e w' ⟨he, hb⟩ => ⟨he, (keep_alloc _ _ _).trans (hb.keep _)⟩
  have HX : Hid (∀ W : World, Calls Tryz.prog 66 #[.string (tx (sha (tld 69 [tx s])))] W fun e w' => e = .returned (.string (tx (idB s))) ∧ Keep (fun _ => False) W w') := fun W => by
    have := hex_any (tx (sha (tld 69 [tx s]))) W (by rw [size_mk, sha_len]; decide)
    rw [tx_list] at this
    exact this.mono fun e w' ⟨he, hb⟩ => ⟨he, hb.keep _⟩
  generalize tx (sha (tld 69 [tx s])) = S1 at *
  generalize tx (idB s) = I1 at *
  generalize tx s = T at *
  go_enter Tryz.func38, Tryz.ntmps38
  go_wp2_with fail
  refine TG.out.mono ?_
  rintro e w1 ⟨rfl, hk1⟩
  have HK := hid hk1
  clear TG hk1
  go_wp2_with fail
  refine (HX.out w1).mono ?_
  rintro e w2 ⟨rfl, hk2⟩
  have HK2 := hid (HK.out.trans hk2)
  clear HX hk2 HK
  go_wp2
  go_ret
  exact ⟨rfl, HK2.out⟩
set_option maxRecDepth 100000 in
theorem rid_any (s : Bs) (w : World) (hs : s.length ≤ 1048576) : Calls Tryz.prog 13 #[.string (tx s)] w fun e w' => e = .returned (.string (tx (idB s))) ∧ Keep (fun _ => False) w w' := by
  have TG : Hid (Calls Tryz.prog 45 #[.int .u8 69, .slice (some ⟨w.heap.size, 0, none⟩) 1 1] (w.alloc (.cells #[.string (tx s)] 9)) fun e w' => e = .returned (.string (tx (sha (tld 69 [tx s])))) ∧ Keep (fun _ => False) w w') :=
    (rtagged_any 69 _ [tx s] _ (strs_one (w := w) (tx s)) (by rw [room_one, size_mk]; omega)).mono fun e w' ⟨he, hb⟩ => ⟨he, (keep_alloc _ _ _).trans (hb.keep _)⟩
  have HX : Hid (∀ W : World, Calls Tryz.prog 44 #[.string (tx (sha (tld 69 [tx s])))] W fun e w' => e = .returned (.string (tx (idB s))) ∧ Keep (fun _ => False) W w') := fun W => by
    have := rhex_any (tx (sha (tld 69 [tx s]))) W (by rw [size_mk, sha_len]; decide)
    rw [tx_list] at this
    exact this.mono fun e w' ⟨he, hb⟩ => ⟨he, hb.keep _⟩
  generalize tx (sha (tld 69 [tx s])) = S1 at *
  generalize tx (idB s) = I1 at *
  generalize tx s = T at *
  go_enter Tryz.func13, Tryz.ntmps13
  go_wp2_with fail
  refine TG.out.mono ?_
  rintro e w1 ⟨rfl, hk1⟩
  have HK := hid hk1
  clear TG hk1
  go_wp2_with fail
  refine (HX.out w1).mono ?_
  rintro e w2 ⟨rfl, hk2⟩
  have HK2 := hid (HK.out.trans hk2)
  clear HX hk2 HK
  go_wp2
  go_ret
  exact ⟨rfl, HK2.out⟩
/-- may a text be an id? -/
def isIdB (t : Bs) : Bool := decide (t.length = 64) && decide ((unh t []).2 = 0)
set_option maxRecDepth 100000 in
theorem isID_any (t : Bs) (w : World) (ht : t.length ≤ 1073741824) : Calls Tryz.prog 59 #[.string (tx t)] w fun e w' => e = .returned (.bool (isIdB t)) ∧ Keep (fun _ => False) w w' := by
  have UX : Hid (Calls Tryz.prog 84 #[.string (tx t)] w fun e w' => e = .returned (.tuple #[.string (tx (unh t []).1), .int .i64 ((unh t []).2 : Nat)]) ∧ Keep (fun _ => False) w w') := by
    have := unhex_any (tx t) w (by rw [size_mk]; omega) (unh t []).1 (unh t []).2 (by rw [tx_list])
    exact this.mono fun e w' ⟨he, hb⟩ => ⟨he, hb.keep _⟩
  have HB : Hid (isIdB t = (decide (t.length = 64) && decide ((unh t []).2 = 0))) := rfl
  have hsz : (tx t).size = t.length := size_mk t
  generalize isIdB t = b at *
  generalize (unh t []).1 = x at *
  generalize (unh t []).2 = er at *
  by_cases h64 : t.length = 64
  · have hz : (((tx t).size : Int) != 64) = false := by rw [hsz, h64]; rfl
    have hz2 : ((tx t).size == 64) = true := by rw [hsz, h64]; rfl
    have HB2 : Hid (b = decide (er = 0)) := by have h9 := HB.out; rw [h9, decide_eq_true h64]; rfl
    clear HB hsz h64
    generalize tx t = T at *
    by_cases he0 : er = 0
    · subst he0
      have HB3 : Hid (b = true) := HB2.out
      clear HB2
      go_enter Tryz.func59, Tryz.ntmps59
      go_wp2_with fail
      refine UX.out.mono ?_
      rintro e w1 ⟨rfl, hk1⟩
      have HK := hid hk1
      clear UX hk1
      go_wp2
      go_ret
      exact ⟨by rw [HB3.out]; rfl, HK.out⟩
    · have hen : ((er : Int) == 0) = false := by rw [beq_eq_false_iff_ne]; omega
      have HB3 : Hid (b = false) := by have h9 := HB2.out; rw [h9]; exact decide_eq_false he0
      clear HB2
      go_enter Tryz.func59, Tryz.ntmps59
      go_wp2_with fail
      refine UX.out.mono ?_
      rintro e w1 ⟨rfl, hk1⟩
      have HK := hid hk1
      clear UX hk1
      go_wp2
      go_ret
      exact ⟨by rw [HB3.out]; rfl, HK.out⟩
  · have hz : (((tx t).size : Int) != 64) = true := by rw [hsz, bne_iff_ne]; omega
    have hz2 : ((tx t).size == 64) = false := by rw [hsz, beq_eq_false_iff_ne]; omega
    have HB3 : Hid (b = false) := by have h9 := HB.out; rw [h9, decide_eq_false h64]; rfl
    clear HB hsz h64 UX
    generalize tx t = T at *
    go_enter Tryz.func59, Tryz.ntmps59
    go_wp2
    go_ret
    exact ⟨by rw [HB3.out]; rfl, Keep.refl _ _⟩
end Go.Proofs.YtedogofeibdjiaaGreat
namespace Go.Proofs.YtedogofeibdjiaaGreat
open Go.RowKit Go.Maps
set_option linter.unusedVariables false
set_option linter.unusedSimpArgs false

/-- the first k pieces, framed -/
def fpre (s : Bs) (k : Nat) : Bs := ((List.range k).map fun i => frm (chk 512 s i)).flatten
/-- an extent's file -/
def filB (s : Bs) : Bs := fpre s (nch 512 s)
theorem fpre_succ (s : Bs) (k : Nat) : fpre s (k + 1) = fpre s k ++ frm (chk 512 s k) := by
  simp [fpre, List.range_succ]
theorem chk_len (n : Nat) (s : Bs) (k : Nat) : (chk n s k).length ≤ n := by unfold chk; rw [List.length_take]; omega
theorem fpre_len (s : Bs) (k : Nat) : (fpre s k).length ≤ k * 520 := by
  induction k with
  | zero => simp [fpre]
  | succ k ih =>
    have := chk_len 512 s k
    rw [fpre_succ, List.length_append, frm_len]; omega
theorem txs_append (a b : Bs) : tx a ++ tx b = tx (a ++ b) := by
  apply ByteArray.ext
  simp [ByteArray.data_append]
theorem chks_get (n : Nat) (s : Bs) (m k : Nat) (h : k < m) : (chks n s m).getD k ⟨#[]⟩ = tx (chk n s k) := by
  simp [chks, h]
set_option maxRecDepth 100000 in
set_option maxHeartbeats 2000000 in
theorem fileText_any (s : Bs) (w : World) (hs : s.length ≤ 1048576) : Calls Tryz.prog 42 #[.string (tx s)] w fun e w' => e = .returned (.string (tx (filB s))) ∧ Keep (fun _ => False) w w' := by
  have PC := hid (pieces_any s 512 w (by decide) (by decide) (by omega))
  have FR := hid (fun (k : Nat) (W : World) => show Calls Tryz.prog 72 #[.string (tx (chk 512 s k))] W fun e w' => e = .returned (.tuple #[.string (tx (frm (chk 512 s k))), .int .i64 0]) ∧ Keep (fun _ => False) W w' from by
    have h := frame_ok (tx (chk 512 s k)) W (by rw [size_mk]; have := chk_len 512 s k; omega)
    rw [tx_list] at h
    exact h.mono fun e w' ⟨he, hb⟩ => ⟨he, hb.keep _⟩)
  have hn := nch_le (n := 512) (s := s) (by decide)
  have HF : Hid (filB s = fpre s (nch 512 s)) := rfl
  generalize tx s = T at PC
  go_enter Tryz.func42, Tryz.ntmps42
  go_wp2_with fail
  refine PC.out.mono ?_
  rintro e w1 ⟨v, rfl, hr, hk1⟩
  have HST := hid (Strs.own hr)
  have HK1 := hid hk1
  obtain ⟨ad, cap, hv, hc⟩ := (Strs.own hr).at
  rw [chks_len] at hv hc
  subst hv
  have HC : Hid (∀ j, j < nch 512 s → ∃ b off, ad = some ⟨b, off, none⟩ ∧ b < w1.heap.size ∧ w1.cell? ⟨b, off + j, none⟩ = some (.string (tx (chk 512 s j)))) := fun j hj => by
    obtain ⟨b, off, h1, h2, h3⟩ := hc j hj
    rw [chks_get _ _ _ _ hj] at h3
    exact ⟨b, off, h1, h2, h3⟩
  clear hr hk1 hc PC HST
  generalize nch 512 s = m at *
  go_wp2
  go_loopw [3, 11] (fun t i wr => ∃ k : Nat, k ≤ m ∧ t = .string (tx (fpre s k)) ∧ i = .int .i64 (k : Int) ∧ Hid (Keep (fun _ => False) w1 wr)) (fun _ i _ => m - (intOf i).toNat)
  case atStart => exact ⟨0, Nat.zero_le _, rfl, rfl, Keep.refl _ _⟩
  case round =>
    obtain ⟨k, hk, rfl, rfl, HK⟩ := hrel
    by_cases hlt : k < m
    · obtain ⟨gb, off, had, hgb, hcell⟩ := HC.out k hlt
      subst had
      have hcw : wr.cell? ⟨gb, off + k, none⟩ = some (.string (tx (chk 512 s k))) := by
        rw [← hcell]; exact HK.out.cell hgb (fun h => h)
      have hk0 : (0 : Int) ≤ (k : Int) := by omega
      have hk1 : (k : Int) < (m : Int) := by omega
      have FK := hid (FR.out k)
      have l1 := fpre_len s k
      have l2 := chk_len 512 s k
      have hadd : ∀ W : World, (Op.stringOp .add (tx (fpre s k)) (tx (frm (chk 512 s k)))).run Tryz.prog W = .ok (.string (tx (fpre s (k + 1)))) W := fun W => by
        rw [fpre_succ, ← txs_append]
        exact run_string_add_sum (P := Tryz.prog) (w := W) _ _ (by rw [size_mk, size_mk, frm_len]; omega)
      clear hcell l1 l2
      generalize tx (chk 512 s k) = C at *
      generalize tx (frm (chk 512 s k)) = D at *
      generalize tx (fpre s k) = A at *
      obtain ⟨A2, hA2⟩ : ∃ A2, A2 = tx (fpre s (k + 1)) := ⟨_, rfl⟩
      have HA2 := hid hA2
      rw [← hA2] at hadd
      clear hA2
      go_wp2_with fail
      refine (FK.out _).mono ?_
      rintro e w3 ⟨rfl, hk3⟩
      have HK3 := hid (HK.out.trans hk3)
      clear hk3 HK
      go_wp2
      exact ⟨⟨k + 1, by omega, by rw [HA2.out], by go_num, HK3⟩, by simp [intOf]; omega⟩
    · have hd : decide ((k : Int) < (m : Int)) = false := decide_eq_false (by omega)
      have hd2 : decide (k < m) = false := decide_eq_false hlt
      have hkm : k = m := by omega
      subst hkm
      go_wp2
      go_ret
      exact ⟨by rw [HF.out]; rfl, HK1.out.trans HK.out⟩
set_option maxRecDepth 100000 in
set_option maxHeartbeats 2000000 in
theorem rfile_any (s : Bs) (w : World) (hs : s.length ≤ 1048576) : Calls Tryz.prog 39 #[.string (tx s)] w fun e w' => e = .returned (.string (tx (filB s))) ∧ Keep (fun _ => False) w w' := by
  have PC := hid (rcut_any s 512 w (by decide) (by decide) (by omega))
  have FR := hid (fun (k : Nat) (W : World) => show Calls Tryz.prog 69 #[.string (tx (chk 512 s k))] W fun e w' => e = .returned (.tuple #[.string (tx (frm (chk 512 s k))), .int .i64 0]) ∧ Keep (fun _ => False) W w' from by
    have h := ref_frame_ok (tx (chk 512 s k)) W (by rw [size_mk]; have := chk_len 512 s k; omega)
    rw [tx_list] at h
    exact h.mono fun e w' ⟨he, hb⟩ => ⟨he, hb.keep _⟩)
  have hn := nch_le (n := 512) (s := s) (by decide)
  have HF : Hid (filB s = fpre s (nch 512 s)) := rfl
  generalize tx s = T at PC
  go_enter Tryz.func39, Tryz.ntmps39
  go_wp2_with fail
  refine PC.out.mono ?_
  rintro e w1 ⟨v, rfl, hr, hk1⟩
  have HST := hid (Strs.own hr)
  have HK1 := hid hk1
  obtain ⟨ad, cap, hv, hc⟩ := (Strs.own hr).at
  rw [chks_len] at hv hc
  subst hv
  have HC : Hid (∀ j, j < nch 512 s → ∃ b off, ad = some ⟨b, off, none⟩ ∧ b < w1.heap.size ∧ w1.cell? ⟨b, off + j, none⟩ = some (.string (tx (chk 512 s j)))) := fun j hj => by
    obtain ⟨b, off, h1, h2, h3⟩ := hc j hj
    rw [chks_get _ _ _ _ hj] at h3
    exact ⟨b, off, h1, h2, h3⟩
  clear hr hk1 hc PC HST
  generalize nch 512 s = m at *
  go_wp2
  go_loopw [4, 5] (fun t i wr => ∃ k : Nat, k ≤ m ∧ t = .string (tx (fpre s k)) ∧ i = .int .i64 (k : Int) ∧ Hid (Keep (fun _ => False) w1 wr)) (fun _ i _ => m - (intOf i).toNat)
  case atStart => exact ⟨0, Nat.zero_le _, rfl, rfl, Keep.refl _ _⟩
  case round =>
    obtain ⟨k, hk, rfl, rfl, HK⟩ := hrel
    by_cases hlt : k < m
    · obtain ⟨gb, off, had, hgb, hcell⟩ := HC.out k hlt
      subst had
      have hcw : wr.cell? ⟨gb, off + k, none⟩ = some (.string (tx (chk 512 s k))) := by
        rw [← hcell]; exact HK.out.cell hgb (fun h => h)
      have hk0 : (0 : Int) ≤ (k : Int) := by omega
      have hk1 : (k : Int) < (m : Int) := by omega
      have FK := hid (FR.out k)
      have l1 := fpre_len s k
      have l2 := chk_len 512 s k
      have hadd : ∀ W : World, (Op.stringOp .add (tx (fpre s k)) (tx (frm (chk 512 s k)))).run Tryz.prog W = .ok (.string (tx (fpre s (k + 1)))) W := fun W => by
        rw [fpre_succ, ← txs_append]
        exact run_string_add_sum (P := Tryz.prog) (w := W) _ _ (by rw [size_mk, size_mk, frm_len]; omega)
      clear hcell l1 l2
      generalize tx (chk 512 s k) = C at *
      generalize tx (frm (chk 512 s k)) = D at *
      generalize tx (fpre s k) = A at *
      obtain ⟨A2, hA2⟩ : ∃ A2, A2 = tx (fpre s (k + 1)) := ⟨_, rfl⟩
      have HA2 := hid hA2
      rw [← hA2] at hadd
      clear hA2
      go_wp2_with fail
      refine (FK.out _).mono ?_
      rintro e w3 ⟨rfl, hk3⟩
      have HK3 := hid (HK.out.trans hk3)
      clear hk3 HK
      go_wp2
      exact ⟨⟨k + 1, by omega, by rw [HA2.out], by go_num, HK3⟩, by simp [intOf]; omega⟩
    · have hd : decide ((k : Int) < (m : Int)) = false := decide_eq_false (by omega)
      have hd2 : decide (k < m) = false := decide_eq_false hlt
      have hkm : k = m := by omega
      subst hkm
      go_wp2
      go_ret
      exact ⟨by rw [HF.out]; rfl, HK1.out.trans HK.out⟩
end Go.Proofs.YtedogofeibdjiaaGreat
namespace Go.Proofs.YtedogofeibdjiaaGreat
open Go.RowKit Go.Maps
set_option linter.unusedVariables false
set_option linter.unusedSimpArgs false

/-- texts, put together -/
def catB (l : List ByteArray) : Bs := (l.map (·.data.toList)).flatten
theorem catB_append (a b : List ByteArray) : catB (a ++ b) = catB a ++ catB b := by simp [catB]
theorem catB_take (l : List ByteArray) (k : Nat) (h : k < l.length) : catB (l.take (k + 1)) = catB (l.take k) ++ (l.getD k ⟨#[]⟩).data.toList := by
  rw [List.take_succ_eq_append_getElem h, catB_append]
  simp [catB, h]
theorem catB_le (l : List ByteArray) (k : Nat) : (catB (l.take k)).length ≤ (catB l).length := by
  conv => rhs; rw [← List.take_append_drop k l, catB_append, List.length_append]
  omega
theorem fsF_cat (s : ByteArray) : ∀ (f a : Nat) (acc : List ByteArray), (catB acc).length ≤ a → acc.length ≤ a → a ≤ s.size → (catB (fsF s f a acc).l).length ≤ s.size ∧ (fsF s f a acc).l.length ≤ s.size := by
  intro f
  induction f with
  | zero => intro a acc h1 h2 h3; exact ⟨by show (catB acc).length ≤ _; omega, by show acc.length ≤ _; omega⟩
  | succ f ih =>
    intro a acc h1 h2 h3
    show (catB (if (unfAt s a).e = 0 then fsF s f (unfAt s a).to.toNat (acc ++ [(unfAt s a).x]) else ⟨acc, a⟩).l).length ≤ _ ∧ (if (unfAt s a).e = 0 then fsF s f (unfAt s a).to.toNat (acc ++ [(unfAt s a).x]) else ⟨acc, a⟩).l.length ≤ _
    split
    · rename_i h0
      obtain ⟨_, p2, p3, p4⟩ := unf_ok s a h0
      refine ih _ _ ?_ ?_ (by omega)
      · rw [catB_append, List.length_append]
        have : (catB [(unfAt s a).x]).length = (unfAt s a).x.size := by simp [catB]
        omega
      · rw [List.length_append]; simp; omega
    · exact ⟨by show (catB acc).length ≤ _; omega, by show acc.length ≤ _; omega⟩
/-- what the frames of a file hold, put together -/
def bodB (file : Bs) : Bs := catB (fs (tx file)).l
theorem fs_small (file : Bs) : (bodB file).length ≤ file.length ∧ (fs (tx file)).l.length ≤ file.length := by
  have := fsF_cat (tx file) ((tx file).size + 1) 0 [] (by simp [catB]) (by simp) (by omega)
  rw [size_mk] at this
  unfold bodB fs
  rw [size_mk]
  exact this
/-- the extent that an id's file holds, if the file is right -/
def rightB (id file : Bs) : Option Bs :=
  if bodB file ≠ [] ∧ (bodB file).length ≤ 4096 ∧ filB (bodB file) = file ∧ idB (bodB file) = id then some (bodB file) else none
/-- as Right tells it -/
def rightV (o : Option Bs) : Value := .tuple #[.string (tx (o.getD [])), .bool o.isSome]
theorem tx_inj {a b : Bs} (h : tx a = tx b) : a = b := by
  have := congrArg (·.data.toList) h
  simpa using this
theorem tx_toList (a : Bs) : (tx a).toList = a := by
  rw [ByteArray.toList_eq]
theorem catB_get (l : List ByteArray) (k : Nat) (h : k < l.length) : (l.getD k ⟨#[]⟩).size ≤ (catB l).length := by
  have h1 := catB_take l k h
  have h2 := catB_le l (k + 1)
  rw [h1, List.length_append] at h2
  have : (l.getD k ⟨#[]⟩).data.toList.length = (l.getD k ⟨#[]⟩).size := by simp
  omega
set_option maxRecDepth 100000 in
set_option maxHeartbeats 4000000 in
theorem rright_any (id file : Bs) (w : World) (hf : file.length ≤ 1073741824) : Calls Tryz.prog 48 #[.string (tx id), .string (tx file)] w fun e w' => e = .returned (rightV (rightB id file)) ∧ Keep (fun _ => False) w w' := by
  have FR := hid (ref_frames_any (tx file) w (by rw [size_mk]; omega))
  obtain ⟨b1, b2⟩ := fs_small file
  have HJ : Hid (bodB file = catB (fs (tx file)).l) := rfl
  have HR : Hid (rightB id file = if bodB file ≠ [] ∧ (bodB file).length ≤ 4096 ∧ filB (bodB file) = file ∧ idB (bodB file) = id then some (bodB file) else none) := rfl
  obtain ⟨T, hT⟩ : ∃ T, T = tx file := ⟨_, rfl⟩
  have HT := hid hT
  rw [← hT] at FR HJ b2 ⊢
  clear hT
  generalize fs T = G at *
  obtain ⟨l, to⟩ := G
  simp only at FR HJ b2
  go_enter Tryz.func48, Tryz.ntmps48
  go_wp2_with fail
  refine FR.out.mono ?_
  rintro e w1 ⟨v, rfl, hr, hB1⟩
  have HK1 := hid (below_keep hB1)
  obtain ⟨ad, cap, hv, hc⟩ := (Strs.own hr).at
  subst hv
  have HC := hid hc
  clear hr hB1 hc FR
  go_wp2
  go_loopw [8, 9] (fun t i wr => ∃ k : Nat, k ≤ l.length ∧ t = .string (tx (catB (l.take k))) ∧ i = .int .i64 (k : Int) ∧ Hid (Keep (fun _ => False) w1 wr)) (fun _ i _ => l.length - (intOf i).toNat)
  case atStart => exact ⟨0, Nat.zero_le _, rfl, rfl, Keep.refl _ _⟩
  case round =>
    obtain ⟨k, hk, rfl, rfl, HK⟩ := hrel
    have hsz : (tx (catB (l.take k))).size = (catB (l.take k)).length := size_mk _
    by_cases hlt : k < l.length
    · by_cases hsm : (catB (l.take k)).length ≤ 4096
      · obtain ⟨gb, off, had, hgb, hcell⟩ := HC.out k hlt
        subst had
        have hcw : wr.cell? ⟨gb, off + k, none⟩ = some (.string (l.getD k ⟨#[]⟩)) := by
          rw [← hcell]; exact HK.out.cell hgb (fun h => h)
        have hk0 : (0 : Int) ≤ (k : Int) := by omega
        have hk1 : (k : Int) < (l.length : Int) := by omega
        have hz : ((tx (catB (l.take k))).size : Int) ≤ 4096 := by omega
        have h9 := catB_get l k hlt
        have hadd : ∀ W : World, (Op.stringOp .add (tx (catB (l.take k))) (l.getD k ⟨#[]⟩)).run Tryz.prog W = .ok (.string (tx (catB (l.take (k + 1))))) W := fun W => by
          have e1 : tx (catB (l.take (k + 1))) = tx (catB (l.take k)) ++ l.getD k ⟨#[]⟩ := by
            rw [catB_take l k hlt, ← txs_append]
          rw [e1]
          exact run_string_add_sum (P := Tryz.prog) (w := W) _ _ (by rw [hsz]; rw [← HJ.out] at h9; omega)
        have HKK := HK
        clear hcell h9
        generalize l.getD k ⟨#[]⟩ = C at *
        obtain ⟨A2, hA2⟩ : ∃ A2, A2 = tx (catB (l.take (k + 1))) := ⟨_, rfl⟩
        have HA2 := hid hA2
        rw [← hA2] at hadd
        clear hA2 hsz hsm
        generalize tx (catB (l.take k)) = A at *
        go_wp2
        exact ⟨⟨k + 1, by omega, by rw [HA2.out], by go_num, HKK⟩, by simp [intOf]; omega⟩
      · have hn1 : decide (((tx (catB (l.take k))).size : Int) ≤ 4096) = false := decide_eq_false (by omega)
        have hn2 : decide ((tx (catB (l.take k))).size ≤ 4096) = false := decide_eq_false (by omega)
        have hn3 : decide (4096 < ((tx (catB (l.take k))).size : Int)) = true := decide_eq_true (by omega)
        have hk1 : (k : Int) < (l.length : Int) := by omega
        have he : ¬ (tx (catB (l.take k))).toList = [] := fun e => by rw [tx_toList] at e; rw [e] at hsm; simp at hsm
        have he2 : (tx (catB (l.take k))).toList.isEmpty = false := by
          cases hh : (tx (catB (l.take k))).toList with
          | nil => exact absurd hh he
          | cons _ _ => rfl
        have he3 : ((tx (catB (l.take k))).toList == []) = false := beq_eq_false_iff_ne.2 he
        have HRN : Hid (rightB id file = none) := by
          show _ = _
          have h8 := catB_le l k
          rw [HR.out, if_neg]
          rw [HJ.out]; rintro ⟨_, h, _⟩; omega
        clear hsz hsm
        generalize tx (catB (l.take k)) = A at *
        go_wp2
        go_ret2
        exact ⟨by rw [HRN.out]; rfl, HK1.out.trans HK.out⟩
    · have hkl : k = l.length := by omega
      subst hkl
      have hd : decide ((l.length : Int) < (l.length : Int)) = false := decide_eq_false (by omega)
      have hd2 : decide (l.length < l.length) = false := decide_eq_false (by omega)
      obtain ⟨J, hJ⟩ : ∃ J, J = catB (l.take l.length) := ⟨_, rfl⟩
      have HR2 : Hid (rightB id file = if J ≠ [] ∧ J.length ≤ 4096 ∧ filB J = file ∧ idB J = id then some J else none) := by
        rw [hJ, List.take_length, ← HJ.out]; exact HR
      rw [← hJ] at hsz ⊢
      clear hJ HC HJ HR b1 hlt hk
      by_cases h0 : J = []
      · have he : (tx J).toList = [] := by rw [tx_toList, h0]
        have he2 : (tx J).toList.isEmpty = true := by rw [he]; rfl
        have HRN : Hid (rightB id file = none) := by show _ = _; rw [HR2.out, if_neg]; rintro ⟨h, _⟩; exact h h0
        have hz : decide (((tx J).size : Int) ≤ 4096) = true := decide_eq_true (by rw [hsz, h0]; decide)
        clear HR2
        generalize tx J = A at *
        go_wp2
        go_ret2
        exact ⟨by rw [HRN.out]; rfl, HK1.out.trans HK.out⟩
      have he : ¬ (tx J).toList = [] := fun e => by rw [tx_toList] at e; exact h0 e
      have he2 : (tx J).toList.isEmpty = false := by
        cases hh : (tx J).toList with
        | nil => exact absurd hh he
        | cons _ _ => rfl
      rcases Nat.lt_or_ge 4096 J.length with hl | hl
      · have hn3 : decide (4096 < ((tx J).size : Int)) = true := decide_eq_true (by omega)
        have hn4 : ¬ ((tx J).size : Int) ≤ 4096 := by omega
        have HRN : Hid (rightB id file = none) := by show _ = _; rw [HR2.out, if_neg]; rintro ⟨_, h, _⟩; omega
        clear HR2 hl h0
        generalize tx J = A at *
        go_wp2
        go_ret2
        exact ⟨by rw [HRN.out]; rfl, HK1.out.trans HK.out⟩
      have hn3 : ((tx J).size : Int) ≤ 4096 := by omega
      have FL := hid (fun (W : World) => rfile_any J W (by omega))
      have IL := hid (fun (W : World) => rid_any J W (by omega))
      obtain ⟨A, hA⟩ : ∃ A, A = tx J := ⟨_, rfl⟩
      have HA := hid hA
      rw [← hA] at hsz he he2 hn3 FL IL ⊢
      clear hA
      have hT := HT.out
      have FX : Hid (∀ X Y : Bs, X ≠ Y → ((tx X).toList == (tx Y).toList) = false ∧ ((tx X).toList != (tx Y).toList) = true ∧ ¬ (tx X).toList = (tx Y).toList) := fun X Y h => by
        have h1 : ¬ (tx X).toList = (tx Y).toList := by rw [tx_toList, tx_toList]; exact h
        exact ⟨beq_eq_false_iff_ne.2 h1, bne_iff_ne.2 h1, h1⟩
      have FY : Hid (∀ X Y : Bs, X = Y → ((tx X).toList == (tx Y).toList) = true ∧ ((tx X).toList != (tx Y).toList) = false ∧ (tx X).toList = (tx Y).toList) := fun X Y h => by
        subst h
        exact ⟨beq_self_eq_true _, (by simp), rfl⟩
      by_cases hfl : ¬ filB J = file
      · have HRN : Hid (rightB id file = none) := by show _ = _; rw [HR2.out, if_neg]; rintro ⟨_, _, h, _⟩; exact hfl h
        obtain ⟨q1, q2, q3⟩ := FX.out _ _ hfl
        rw [← hT] at q1 q2 q3
        clear hT FX FY HR2 IL hfl
        generalize tx (filB J) = D at *
        go_wp2_with fail
        refine (FL.out _).mono ?_
        rintro e w2 ⟨rfl, hk2⟩
        have HK2 := hid ((HK1.out.trans HK.out).trans hk2)
        clear hk2 FL HK HK1
        go_wp2
        go_ret2
        exact ⟨by rw [HRN.out]; rfl, HK2.out⟩
      have hfl2 : filB J = file := Classical.not_not.1 hfl
      obtain ⟨q1, q2, q3⟩ := FY.out _ _ hfl2
      rw [← hT] at q1 q2 q3
      clear hT
      by_cases hid9 : ¬ idB J = id
      · have HRN : Hid (rightB id file = none) := by show _ = _; rw [HR2.out, if_neg]; rintro ⟨_, _, _, h⟩; exact hid9 h
        obtain ⟨p1, p2, p3⟩ := FX.out _ _ hid9
        clear FX FY HR2 hfl hfl2 hid9
        generalize tx (filB J) = D at *
        generalize tx (idB J) = I at *
        generalize tx id = IDT at *
        go_wp2_with fail
        refine (FL.out _).mono ?_
        rintro e w2 ⟨rfl, hk2⟩
        have HK2 := hid ((HK1.out.trans HK.out).trans hk2)
        clear hk2 FL HK HK1
        go_wp2_with fail
        refine (IL.out _).mono ?_
        rintro e w3 ⟨rfl, hk3⟩
        have HK3 := hid (HK2.out.trans hk3)
        clear hk3 IL HK2
        go_wp2
        go_ret2
        exact ⟨by rw [HRN.out]; rfl, HK3.out⟩
      have hid2 : idB J = id := Classical.not_not.1 hid9
      have HRS : Hid (rightB id file = some J) := by show _ = _; rw [HR2.out, if_pos ⟨h0, hl, hfl2, hid2⟩]
      obtain ⟨p1, p2, p3⟩ := FY.out _ _ hid2
      clear FX FY HR2 hfl hfl2 hid9 hid2
      generalize tx (filB J) = D at *
      generalize tx (idB J) = I at *
      generalize tx id = IDT at *
      go_wp2_with fail
      refine (FL.out _).mono ?_
      rintro e w2 ⟨rfl, hk2⟩
      have HK2 := hid ((HK1.out.trans HK.out).trans hk2)
      clear hk2 FL HK HK1
      go_wp2_with fail
      refine (IL.out _).mono ?_
      rintro e w3 ⟨rfl, hk3⟩
      have HK3 := hid (HK2.out.trans hk3)
      clear hk3 IL HK2
      go_wp2
      go_ret2
      exact ⟨by rw [HRS.out, HA.out]; rfl, HK3.out⟩
end Go.Proofs.YtedogofeibdjiaaGreat
