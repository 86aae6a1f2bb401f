/- The walk of the law WiresOrder. -/
import Derived.Test.YtfcchmjofejkhaaWNFull
import Derived.Test.YtfcchmjofejkhaaStrsM
namespace Go.Proofs.Ytfcchmjofejkhaa
open Go.RowKit Go.Maps
set_option linter.unusedVariables false
set_option linter.unusedSimpArgs false

def pkL (a : Int) (xs : List ByteArray) : List Pk := xs.map fun s => ⟨a, a + 1, s⟩
theorem pkL_len (a : Int) (xs : List ByteArray) : (pkL a xs).length = xs.length := List.length_map _
/-- k are sent -/
def netO (a : Int) (xs : List ByteArray) (k : Nat) : Net := ⟨pkL a (xs.take k), List.replicate 49 false, k, 0, 0⟩
/-- all are sent, k are taken -/
def netT (a : Int) (xs : List ByteArray) (k : Nat) : Net := ⟨pkL a (xs.drop k), List.replicate 49 false, xs.length, k, 0⟩
theorem netO_send (a : Int) (xs : List ByteArray) (k : Nat) (hk : k < xs.length) (hl : xs.length ≤ 200) (ht : two a (a + 1) = true) : sendD (netO a xs k) ⟨a, a + 1, xs[k]⟩ = (netO a xs (k + 1), true) := by
  unfold sendD
  rw [if_pos ⟨ht, cut0 _ _, by show (pkL a (xs.take k)).length < _; rw [pkL_len, List.length_take]; omega⟩]
  show (Net.mk (pkL a (xs.take k) ++ [⟨a, a + 1, xs[k]⟩]) _ _ _ _, true) = (Net.mk (pkL a (xs.take (k + 1))) _ _ _ _, true)
  rw [List.take_succ_eq_append_getElem hk, pkL, pkL, List.map_append]
  rfl
theorem netO_all (a : Int) (xs : List ByteArray) : netO a xs xs.length = netT a xs 0 := by
  show Net.mk (pkL a (xs.take xs.length)) _ _ _ _ = Net.mk (pkL a (xs.drop 0)) _ _ _ _
  rw [List.take_length, List.drop_zero]
theorem netT_out (a : Int) (xs : List ByteArray) (k : Nat) (hk : k < xs.length) : ({ netT a xs k with L := outL (netT a xs k).L 0, ta := (netT a xs k).ta + 1 } : Net) = netT a xs (k + 1) := by
  show Net.mk (outL (pkL a (xs.drop k)) 0) _ _ _ _ = Net.mk (pkL a (xs.drop (k + 1))) _ _ _ _
  have e : outL (pkL a (xs.drop k)) 0 = pkL a (xs.drop (k + 1)) := by
    unfold outL pkL
    rw [List.take_zero, List.nil_append, ← List.map_drop, List.drop_drop]
  rw [e]
  rfl
theorem netT_len (a : Int) (xs : List ByteArray) (k : Nat) : (netT a xs k).L.length = xs.length - k := by
  show (pkL a (xs.drop k)).length = _
  rw [pkL_len, List.length_drop]
theorem netT_get (a : Int) (xs : List ByteArray) (k : Nat) (hk : k < xs.length) (h : 0 < (netT a xs k).L.length) : (netT a xs k).L[0]'h = ⟨a, a + 1, xs[k]⟩ := by
  show (pkL a (xs.drop k))[0]'_ = _
  simp [pkL]
theorem xs_getD (xs : List ByteArray) (k : Nat) (hk : k < xs.length) : xs.getD k ⟨#[]⟩ = xs[k] := by simp [List.getD, hk]
set_option maxRecDepth 100000 in
set_option maxHeartbeats 4000000 in
theorem wiresOrder_core (v : Value) (xs : List ByteArray) (fr : Int) (w : World) (hv : Strs w v xs) (hxl : xs.length ≤ 9223372036854775807) (hxs : ∀ x ∈ xs, x.size ≤ 140737488355328) : Calls Try.prog 6 #[v, .int .i64 fr] w fun e w' => e = .returned (.bool true) ∧ Below w.heap.size w w' := by
  have NW := hid (newA w)
  have AW := hid (fun W => awake8 W)
  obtain ⟨ad, cap, rfl, hcl⟩ := hv.at
  by_cases hbig : 200 < xs.length
  · have hd : (200 : Int) < (xs.length : Int) := by omega
    clear hcl hv hbig
    go_enter Try.func6, Try.ntmps6
    go_wp2_with fail
    refine NW.out.mono ?_
    rintro e w1 ⟨rfl, h1⟩
    have K1 := hid h1.kp
    clear h1 NW
    go_wp2_with fail
    refine (AW.out _).mono ?_
    rintro e w2 ⟨rfl, k2⟩
    have K2 := hid (K1.out.trans k2)
    clear k2 K1
    go_wp2_with fail
    refine (AW.out _).mono ?_
    rintro e w3 ⟨rfl, k3⟩
    have K3 := hid (K2.out.trans k3)
    clear k3 K2 AW
    go_wp2
    go_ret
    exact ⟨rfl, keep_below K3.out (fun _ _ h => h) (Nat.le_refl _)⟩
  · have hd : decide ((200 : Int) < (xs.length : Int)) = false := decide_eq_false (by omega)
    have b1 := mod7 fr 6 (by omega)
    have u1 := up7 fr 6 (by omega)
    have hw1 : wrap64 (fr.tmod 6 + 6) = fr.tmod 6 + 6 := IntWalk.wrap64_in _ (by omega)
    generalize ha : (fr.tmod 6 + 6).tmod 6 = a at *
    have hw3 : wrap64 (a + 1) = a + 1 := IntWalk.wrap64_in _ (by omega)
    have hw4 : IntKind.i64.wrap (a + 1) = a + 1 := by rw [IntKind.wrap_i64]; omega
    have TW : two a (a + 1) = true := by simp [two, isN]; omega
    have SD : Hid (∀ (k : Nat) (hk : k < xs.length) (W : World), NSt w (fun _ => False) w.heap.size (netO a xs k) W → Calls Try.prog 13 #[.pointer (some ⟨w.heap.size, 0, none⟩), .agg #[.int .i64 a, .int .i64 (a + 1), .string xs[k]]] W fun e w' => e = .returned (.bool true) ∧ NSt w (fun _ => False) w.heap.size (netO a xs (k + 1)) w' ∧ Keep (fun j => ¬ False) W w') := fun k hk W h => stepA h fun P1 h1 => by
      have := send_any w.heap.size P1 (netO a xs k) ⟨a, a + 1, xs[k]⟩ W h1 (hxs _ (List.getElem_mem hk)) (by show k ≤ _; omega) (by show 0 ≤ _; omega)
      rw [netO_send a xs k hk (by omega) TW] at this
      exact this
    have TK : Hid (∀ (k : Nat) (hk : k < xs.length) (W : World), NSt w (fun _ => False) w.heap.size (netT a xs k) W → Calls Try.prog 16 #[.pointer (some ⟨w.heap.size, 0, none⟩), .int .i64 0] W fun e w' => e = .returned (.tuple #[.agg #[.int .i64 a, .int .i64 (a + 1), .string xs[k]], .bool true]) ∧ NSt w (fun _ => False) w.heap.size (netT a xs (k + 1)) w' ∧ Keep (fun j => ¬ False) W w') := fun k hk W h => stepA h fun P1 h1 => by
      have hl0 : 0 < (netT a xs k).L.length := by rw [netT_len]; omega
      have := take_some w.heap.size P1 (netT a xs k) 0 hl0 (by show k ≤ _; omega) W h1
      rw [netT_get a xs k hk hl0, netT_out a xs k hk] at this
      exact this
    have TN : Hid (∀ (W : World), NSt w (fun _ => False) w.heap.size (netT a xs xs.length) W → Calls Try.prog 16 #[.pointer (some ⟨w.heap.size, 0, none⟩), .int .i64 0] W fun e w' => e = .returned (.tuple #[.agg #[.int .i64 0, .int .i64 0, .string ⟨#[]⟩], .bool false]) ∧ NSt w (fun _ => False) w.heap.size (netT a xs xs.length) w' ∧ Keep (fun j => ¬ False) W w') := fun W h => stepK h fun P1 h1 => take_none _ 0 W fun W' k' => by
      have h9 := nhas_any w.heap.size _ _ 0 W' (h1.keep k' (fun _ _ h => h.elim))
      rwa [show hasI (netT a xs xs.length).L.length 0 = false by rw [netT_len]; simp [hasI]] at h9
    have HE := hid (netO_all a xs)
    have HCL : Hid (∀ k (hk : k < xs.length) W, Keep (fun _ => False) w W → ∃ b off, ad = some ⟨b, off, none⟩ ∧ W.cell? ⟨b, off + k, none⟩ = some (.string xs[k])) := fun k hk W hW => by
      obtain ⟨b, off, e, hb, hc⟩ := hcl k hk
      exact ⟨b, off, e, by rw [hW.cell hb (fun h => h), hc, xs_getD xs k hk]⟩
    have HXL : Hid (xs.length ≤ 200) := by show _ ≤ _; omega
    clear hcl hv hbig hxs TW b1 u1
    go_enter Try.func6, Try.ntmps6
    go_wp2_with fail
    refine NW.out.mono ?_
    rintro e w1 ⟨rfl, h1⟩
    have H1 := hid h1
    clear h1 NW
    go_wp2_with fail
    refine (AW.out _).mono ?_
    rintro e w2 ⟨rfl, k2⟩
    have H2 : Hid (NSt w (fun _ => False) w.heap.size (netO a xs 0) w2) := H1.out.keep k2
    clear k2 H1 AW
    go_wp2
    clear ha hw1 hd
    go_loopw [7] (fun i wr => ∃ k : Nat, k ≤ xs.length ∧ i = .int .i64 (k : Int) ∧ Hid (NSt w (fun _ => False) w.heap.size (netO a xs k) wr)) (fun i _ => xs.length - (intOf i).toNat)
    case atStart => exact ⟨0, Nat.zero_le _, rfl, H2⟩
    case round =>
      clear H2
      obtain ⟨k, hk, rfl, HK⟩ := hrel
      by_cases hlt : k < xs.length
      · have hk0 : (0 : Int) ≤ (k : Int) := by omega
        have hk1 : (k : Int) < (xs.length : Int) := by omega
        have hk9 : k < 200 := by have := HXL.out; omega
        obtain ⟨b, off, rfl, hc⟩ := HCL.out k hlt wr HK.out.kp
        have S1 := hid (SD.out k hlt wr HK.out)
        clear SD TK TN HE HCL HK
        generalize xs[k] = X at *
        go_wp2_with fail
        refine S1.out.mono ?_
        rintro e w3 ⟨rfl, h3, _⟩
        have H3 := hid h3
        clear h3 S1 hc
        go_wp2
        exact ⟨⟨k + 1, by omega, by go_num, H3⟩, by simp [intOf]; omega⟩
      · have hk9 : k = xs.length := by omega
        subst hk9
        rw [HE.out] at HK
        have hdl : decide ((xs.length : Int) < (xs.length : Int)) = false := decide_eq_false (by omega)
        clear SD hlt hk HE
        go_wp2
        go_loopw [8] (fun i wr => ∃ k : Nat, k ≤ xs.length ∧ i = .int .i64 (k : Int) ∧ Hid (NSt w (fun _ => False) w.heap.size (netT a xs k) wr)) (fun i _ => xs.length - (intOf i).toNat)
        case atStart => exact ⟨0, Nat.zero_le _, rfl, HK⟩
        case round =>
          clear HK
          obtain ⟨k, hk, rfl, HK⟩ := hrel
          by_cases hlt : k < xs.length
          · have hk0 : (0 : Int) ≤ (k : Int) := by omega
            have hk1 : (k : Int) < (xs.length : Int) := by omega
            have hk9 : k < 200 := by have := HXL.out; omega
            have S1 := hid (TK.out k hlt wr HK.out)
            have HC2 := hid (HCL.out k hlt)
            clear TK TN HCL HK
            generalize xs[k] = X at *
            go_wp2_with fail
            refine S1.out.mono ?_
            rintro e w3 ⟨rfl, h3, _⟩
            have h4 := h3.keep (keep_alloc (fun _ => False) w3 (.cells #[.int .i64 a, .int .i64 (a + 1), .string X] 33))
            obtain ⟨b, off, rfl, hc⟩ := HC2.out _ h4.kp
            have rx : RowIs (w3.alloc (.cells #[.int .i64 a, .int .i64 (a + 1), .string X] 33)) w3.heap.size [.int .i64 a, .int .i64 (a + 1), .string X] 33 := heap_alloc_new _ _
            have x0 := rx.cellAt (o := 0) rfl
            have x1 := rx.cellAt (o := 1) rfl
            have x2 := rx.cellAt (o := 2) rfl
            have H4 := hid h4
            clear h3 h4 S1 HC2 rx
            go_wp2
            go_quiet (fail)
            have H5 := hid (fun m => H4.out.keep (nkeep_drewN _ m))
            clear H4 x0 x1 x2 hc
            go_wp2
            exact ⟨⟨k + 1, by omega, by go_num, H5.out _⟩, by simp [intOf]; omega⟩
          · have hk9 : k = xs.length := by omega
            subst hk9
            clear TK hlt hk HCL
            go_wp2_with fail
            refine (TN.out _ HK.out).mono ?_
            rintro e w3 ⟨rfl, h3, _⟩
            have H3 := hid (h3.kp.trans (keep_alloc (fun _ => False) w3 (.cells #[.int .i64 0, .int .i64 0, .string ⟨#[]⟩] 33)))
            clear h3 TN HK
            go_wp2
            go_ret
            exact ⟨rfl, keep_below H3.out (fun _ _ h => h) (Nat.le_refl _)⟩
end Go.Proofs.Ytfcchmjofejkhaa
