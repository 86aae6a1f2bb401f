/- The items of keys, as the program gathers them. -/
import Derived.Test.YtimdnddplhkdlaaNmI
import Derived.Test.YtimdnddplhkdlaaStrsM
namespace Go.Proofs.Ytimdnddplhkdlaa
open Go.RowKit Go.Shelf Go.Maps
set_option linter.unusedVariables false
set_option linter.unusedSimpArgs false

/-- the set of names in block b -/
def SetIs (w : World) (b : Nat) (ns : List Bs) : Prop := ∃ L, MapIs w b L ∧ (∀ x ∈ L, x.2 = Value.agg #[]) ∧ (∀ n, (kget L n).isSome = decide (n ∈ ns)) ∧ L.length ≤ ns.length
theorem SetIs.keep {S : Nat → Prop} {w w' : World} {b : Nat} {ns : List Bs} (h : SetIs w b ns) (k : Keep S w w') (hS : ¬ S b) : SetIs w' b ns := by
  obtain ⟨L, h1, r⟩ := h
  exact ⟨L, k.mapIs h1 hS, r⟩
theorem zeroU (w : World) : (zeroValue 58).run Try.prog w = .ok (.agg #[]) w := by kernel_rfl
theorem set_look {w : World} {b : Nat} {ns : List Bs} (h : SetIs w b ns) (n : Bs) (hs : n.length ≤ maxLen) :
    (Instr.lookup 54 (.map (some b)) (.string (tb n)) true).run Try.prog w = .ok (.tuple #[.agg #[], .bool (decide (n ∈ ns))]) w := by
  obtain ⟨L, h, h1, h2, _⟩ := h
  have hk := WideMaps.keyOf_string_mk (P := Try.prog) (s := tb n) Try.underlying9 (by rw [tb_size]; exact hs)
  obtain ⟨v, ps, hr, hv⟩ := World.ownsMap.look_ok h law9 Try.underlying54 (zeroU w) (zd := .held (.agg #[])) (zp := []) rfl hk
  rw [mp_at] at hv
  have e : (kget L n).getD (.agg #[]) = v := by
    have := DataW.held.inj (held_inj hv)
    rw [tb_list] at this
    exact this
  rw [tb_list, mp_has, h2, ← e] at hr
  have e2 : (kget L n).getD (.agg #[]) = .agg #[] := by
    cases hg : kget L n with
    | none => rfl
    | some v => exact h1 _ (kget_mem hg)
  rw [e2] at hr
  exact hr
theorem set_store {w : World} {b : Nat} {ns : List Bs} (h : SetIs w b ns) (n : Bs) (hs : n.length ≤ maxLen) (hl : ns.length < maxLen) :
    ∃ w', (Instr.mapUpdate 54 (.map (some b)) (.string (tb n)) (.agg #[])).run Try.prog w = .ok () w' ∧ SetIs w' b (ns ++ [n]) ∧ w.mapTurned w' b := by
  obtain ⟨L, h, h1, h2, h3⟩ := h
  have hk := WideMaps.keyOf_string_mk (P := Try.prog) (s := tb n) Try.underlying9 (by rw [tb_size]; exact hs)
  obtain ⟨w', hr, ho, ht⟩ := World.ownsMap.store h law9 Try.underlying54 (Nat.lt_of_le_of_lt h3 hl) (val := .agg #[]) (d := .held (.agg #[])) (ps := []) hk rfl
  rw [mp_put, tb_list] at ho
  refine ⟨w', hr, ⟨_, mapIs_of ho, ?_, ?_, ?_⟩, ht⟩
  · intro x hx
    rcases mem_kput.1 hx with rfl | ⟨hx, _⟩
    · rfl
    · exact h1 x hx
  · intro m
    by_cases e : n = m
    · subst e; rw [kget_put_same]; simp
    · rw [kget_put_other _ _ e, h2]
      exact decide_eq_decide.2 (by simp [Ne.symm e])
  · have := len_kput L n (.agg #[] : Value)
    simp; omega
theorem tb_le (a b : Bs) : (Op.bytesLess (tb a).toList (tb b).toList || (tb a).toList == (tb b).toList) = !bytesBefore b a := by
  have less_bef : ∀ a b : List UInt8, Op.bytesLess a b = bytesBefore a b := by
    intro a
    induction a with
    | nil => intro b; cases b <;> rfl
    | cons x r ih => intro b; cases b with
      | nil => rfl
      | cons y s => simp only [Op.bytesLess, bytesBefore, ih]
  rw [tb_toList, tb_toList, less_bef]
  by_cases e : a = b
  · subst e; rw [WideAt.bytes_irrefl]; simp
  · have e2 : (a == b) = false := by simpa using e
    rw [e2, Bool.or_false]
    cases h : bytesBefore b a with
    | true =>
      cases h2 : bytesBefore a b with
      | true => have := WideShapes.bytes_trans _ _ _ h h2; rw [WideAt.bytes_irrefl] at this; cases this
      | false => rfl
    | false =>
      rcases WideAt.bytes_total a b e with h2 | h2
      · rw [h2]; rfl
      · rw [h] at h2; cases h2
theorem elI : ElT 27 39 2 24 := ⟨Try.underlying27, ⟨.agg #[.string ⟨#[]⟩, .bool false], by kernel_rfl, rfl⟩, by decide⟩
theorem nil_row {w : World} {B e size : Nat} : w.ownsRow B e size (.slice none 0 0) 0 [] := ⟨by simp, .inl ⟨rfl, rfl⟩⟩
/-- what the loop has gathered -/
structure Gath (w : World) (p d af : Bs) (ks : List Bs) (l : List It) (v : Value) (wr : World) : Prop where
  met : Met p d ks (fun n => bytesBefore af n) l
  row : wr.ownsRow (w.heap.size + 1) 39 2 v l.length (itC l)
  set : SetIs wr w.heap.size (l.map (·.1))
  keep : Keep (fun _ => False) w wr
  lt : w.heap.size + 1 ≤ wr.heap.size
theorem Gath.max {w : World} {p d af : Bs} {ks : List Bs} {l : List It} {v : Value} {wr : World} (h : Gath w p d af ks l v wr) (hm : MaxL w) : MaxL wr := hm.keep h.keep
theorem Gath.on {w : World} {p d af : Bs} {ks : List Bs} {l : List It} {v : Value} {wr w' : World} (h : Gath w p d af ks l v wr) (k : Keep (fun _ => False) wr w') : Gath w p d af ks l v w' :=
  ⟨h.met, k.ownsRow h.row (fun _ _ h => h), h.set.keep k (fun h => h), h.keep.trans k, Nat.le_trans h.lt k.size⟩
theorem Gath.skip {w : World} {p d af : Bs} {ks : List Bs} {l : List It} {v : Value} {wr : World} (h : Gath w p d af ks l v wr) {k : Bs} (hk : ∀ y, ofK p d k = some y → bytesBefore af y.1 = true → y ∈ l) : Gath w p d af (ks ++ [k]) l v wr :=
  { h with met := h.met.skip hk }

set_option maxRecDepth 100000 in
set_option maxHeartbeats 4000000 in
theorem itemsBehind_any (ks : List Bs) (p d af : Bs) (v : Value) (w : World) (hv : Strs w v (ks.map tb)) (hm : MaxL w) (hl : ks.length ≤ 1048576) (hb : ∀ k ∈ ks, k.length ≤ 1048576) :
    Calls Try.prog 25 #[v, .string (tb p), .string (tb d), .string (tb af)] w fun e w' => ∃ l u, e = .returned u ∧ Met p d ks (fun n => bytesBefore af n) l ∧ w'.ownsRow (w.heap.size + 1) 39 2 u l.length (itC l) ∧ Keep (fun _ => False) w w' := by
  obtain ⟨ad, cap, rfl, hcell⟩ := hv.at
  rw [List.length_map] at hcell ⊢
  have HC : Hid (∀ (k : Nat) (hk : k < ks.length) (W : World), Keep (fun _ => False) w W → ∃ b off, ad = some ⟨b, off, none⟩ ∧ W.cell? ⟨b, off + k, none⟩ = some (.string (tb ks[k]))) := by
    intro k hk W hW
    obtain ⟨b, off, e, hb, hc⟩ := hcell k (by simpa using hk)
    refine ⟨b, off, e, (hW.cell hb (fun h => h)).trans (hc.trans ?_)⟩
    simp [hk]
  have HT : Hid (∀ (k : Nat) (hk : k < ks.length), ks.take (k + 1) = ks.take k ++ [ks[k]]) := fun k hk => List.take_succ_eq_append_getElem hk
  have HB : Hid (∀ (k : Nat) (hk : k < ks.length), (ks[k]).length ≤ 1048576) := fun k hk => hb _ (List.getElem_mem hk)
  have HZ : Hid (ks.take ks.length = ks) := List.take_length
  have HM := hid hm
  have HG0 : Hid (Gath w p d af (ks.take 0) [] (.slice none 0 0) (w.alloc (.map #[] 0))) := ⟨Met.nil p d _, nil_row, ⟨[], mapIs_made w, by simp, fun n => by simp [kget], by simp⟩, keep_alloc _ _ _, by simp⟩
  have HLE : Hid (∀ N, (Op.bytesLess (tb N).toList (tb af).toList || (tb N).toList == (tb af).toList) = !bytesBefore af N) := fun N => tb_le N af
  clear hv hcell hm hb
  generalize tb af = AF at *
  have hmm := @run_makeMap Try.prog
  go_enter Try.func25, Try.ntmps25
  go_wp2
  go_loopw [10, 21] (fun o i wr => ∃ (k : Nat) (l : List It), k ≤ ks.length ∧ i = .int .i64 k ∧ (∃ ad cp, o = .slice ad l.length cp) ∧ Hid (Gath w p d af (ks.take k) l o wr)) (fun _ i _ => ks.length - (intOf i).toNat)
  case atStart => exact ⟨0, [], by omega, rfl, ⟨none, 0, rfl⟩, HG0⟩
  case round =>
    clear HG0 hmm
    obtain ⟨k, l, hk, rfl, ⟨ad0, cp0, rfl⟩, HG⟩ := hrel
    by_cases hlt : k < ks.length
    · have hk0 : (0 : Int) ≤ (k : Int) := by omega
      have hk1 : (k : Int) < (ks.length : Int) := by omega
      obtain ⟨b, off, e1, hc⟩ := HC.out k hlt wr HG.out.keep
      subst e1
      have HKL := hid (HB.out k hlt)
      have HTK := hid (HT.out k hlt)
      have HLL : Hid (l.length ≤ 1048576) := by
        have := HG.out.met.len
        rw [List.length_take] at this
        exact Nat.le_trans this (by omega)
      clear HC HB HT HZ
      generalize ks[k] = kk at *
      have CP := hid (cutP_all kk p wr)
      cases hp : p.isPrefixOf kk with
      | false =>
        have HG2 : Hid (Gath w p d af (ks.take (k + 1)) l (.slice ad0 l.length cp0) wr) := by
          show Gath _ _ _ _ _ _ _ _
          rw [HTK.out]
          exact HG.out.skip fun y hy => by unfold ofK at hy; rw [hp] at hy; cases hy
        have CP2 : Hid (Calls Try.prog 33 #[.string (tb kk), .string (tb p)] wr fun e w' => e = .returned (.tuple #[.string (tb kk), .bool false]) ∧ w' = wr) := by
          have := CP.out
          rw [hp] at this
          exact this
        clear HG HTK CP hp HKL
        generalize tb kk = KK at *
        go_wp2_with fail
        refine CP2.out.mono ?_
        rintro e w2 ⟨rfl, rfl⟩
        go_wp2
        exact ⟨⟨k + 1, l, by omega, by go_num, ⟨_, _, rfl⟩, HG2⟩, by simp [intOf]; omega⟩
      | true =>
        have CP2 : Hid (Calls Try.prog 33 #[.string (tb kk), .string (tb p)] wr fun e w' => e = .returned (.tuple #[.string (tb (kk.drop p.length)), .bool true]) ∧ w' = wr) := by
          have := CP.out
          rw [hp] at this
          exact this
        have IT := hid (itemOf_any p d kk wr hp (HG.out.max HM.out) (Nat.le_trans HKL.out (by omega)))
        have HOK : Hid (ofK p d kk = some (itK p d kk)) := by show _ = _; unfold ofK; rw [hp]; rfl
        have HNL : Hid ((itK p d kk).1.length ≤ 1048576) := by
          have h1 := (itK_pre (d := d) hp).2
          rw [List.isPrefixOf_iff_prefix] at h1
          exact Nat.le_trans h1.length_le HKL.out
        clear CP hp HKL
        generalize itK p d kk = y at *
        obtain ⟨N, F⟩ := y
        simp only at IT HNL
        generalize tb (kk.drop p.length) = RR at *
        generalize hKK : tb kk = KK at *
        clear hKK
        go_wp2_with fail
        refine CP2.out.mono ?_
        rintro e w2 ⟨rfl, rfl⟩
        clear CP2
        go_wp2_with fail
        refine IT.out.mono ?_
        rintro e w3 ⟨rfl, hk3⟩
        clear IT
        have HG3 := hid (HG.out.on hk3)
        clear HG hk3
        have k4 := keep_alloc (fun _ => False) w3 (.cells #[.string (tb N), .bool F] 39)
        have HG4 := hid (HG3.out.on k4)
        have k5 := keep_alloc (fun _ => False) (w3.alloc (.cells #[.string (tb N), .bool F] 39)) (.cells #[] 58)
        have HG5 := hid (HG4.out.on k5)
        have hlook := set_look HG4.out.set N (by have := HNL.out; unfold maxLen; omega)
        obtain ⟨w6, hst, hset6, hT6⟩ := set_store HG5.out.set N (by have := HNL.out; unfold maxLen; omega) (by have := HLL.out; rw [List.length_map]; unfold maxLen; omega)
        have HT6 := hid (keep_map hT6)
        have HS6 := hid hset6
        have k4b := HG3.out.lt
        have c40 : (w3.alloc (.cells #[.string (tb N), .bool F] 39)).cell? ⟨w3.heap.size, 0, none⟩ = some (.string (tb N)) := RowIs.cellAt (cs := [.string (tb N), .bool F]) (t := 39) (heap_alloc_new _ _) rfl
        have c41 : (w3.alloc (.cells #[.string (tb N), .bool F] 39)).cell? ⟨w3.heap.size, 1, none⟩ = some (.bool F) := RowIs.cellAt (cs := [.string (tb N), .bool F]) (t := 39) (heap_alloc_new _ _) rfl
        have hlt4 : w3.heap.size < (w3.alloc (.cells #[.string (tb N), .bool F] 39)).heap.size := by simp
        have c50 := (k5.cell (o := 0) hlt4 (fun h => h)).trans c40
        have c51 := (k5.cell (o := 1) hlt4 (fun h => h)).trans c41
        have hlt5 := Nat.lt_of_lt_of_le hlt4 k5.size
        have c60 := (HT6.out.cell (o := 0) hlt5 (fun h => by omega)).trans c50
        have c61 := (HT6.out.cell (o := 1) hlt5 (fun h => by omega)).trans c51
        have hle := HLE.out N
        have HD : Hid (∀ x ∈ l, x.1 = N → x = (N, F)) := fun x hx e => HG3.out.met.name (k := kk) hx HOK.out e
        clear k4 k5 k4b hT6 hset6 hlt4 hlt5 HG3 HG4
        cases hin : decide (N ∈ l.map (·.1)) with
        | true =>
          have HG2 : Hid (Gath w p d af (ks.take (k + 1)) l (.slice ad0 l.length cp0) ((w3.alloc (.cells #[.string (tb N), .bool F] 39)).alloc (.cells #[] 58))) := by
            show Gath _ _ _ _ _ _ _ _
            rw [HTK.out]
            refine HG5.out.skip fun y hy _ => ?_
            rw [HOK.out] at hy
            injection hy with hy
            subst hy
            obtain ⟨x, hx, e⟩ := List.mem_map.1 (of_decide_eq_true hin)
            exact HD.out x hx e ▸ hx
          rw [hin] at hlook
          clear hin HG5 hst HT6 HS6 HOK HD HTK hle HNL HLL c60 c61
          generalize tb N = NN at *
          go_wp2
          exact ⟨⟨k + 1, l, by omega, by go_num, ⟨_, _, rfl⟩, HG2⟩, by simp [intOf]; omega⟩
        | false =>
          rw [hin] at hlook
          cases hq : bytesBefore af N with
          | false =>
            have HG2 : Hid (Gath w p d af (ks.take (k + 1)) l (.slice ad0 l.length cp0) ((w3.alloc (.cells #[.string (tb N), .bool F] 39)).alloc (.cells #[] 58))) := by
              show Gath _ _ _ _ _ _ _ _
              rw [HTK.out]
              refine HG5.out.skip fun y hy hy2 => ?_
              rw [HOK.out] at hy
              injection hy with hy
              subst hy
              rw [hq] at hy2
              cases hy2
            rw [hq] at hle
            clear hin HG5 hst HT6 HS6 HOK HD HTK HNL HLL hq c60 c61
            generalize tb N = NN at *
            go_wp2
            exact ⟨⟨k + 1, l, by omega, by go_num, ⟨_, _, rfl⟩, HG2⟩, by simp [intOf]; omega⟩
          | true =>
            rw [hq] at hle
            have HM2 : Hid (Met p d (ks.take (k + 1)) (fun n => bytesBefore af n) (l ++ [(N, F)])) := by
              show Met _ _ _ _ _
              rw [HTK.out]
              refine HG5.out.met.more HOK.out hq fun x hx e => ?_
              exact of_decide_eq_false hin (List.mem_map.2 ⟨x, hx, e⟩)
            have HR6 : Hid (w6.ownsRow (w.heap.size + 1) 39 2 (.slice ad0 l.length cp0) l.length (itC l)) := HT6.out.ownsRow HG5.out.row fun g hg e => by
              have := ownsRow_ge HG5.out.row hg
              omega
            have HK6 : Hid (Keep (fun _ => False) w w6) := HG5.out.keep.then HT6.out fun j hj e => by omega
            have HL6 : Hid (w.heap.size + 1 ≤ w6.heap.size) := Nat.le_trans HG5.out.lt HT6.out.size
            have k7 := keep_alloc (fun _ => False) w6 (.cells #[.string (tb N), .bool F] 39)
            have HR7 := hid (k7.ownsRow HR6.out (fun _ _ h => h))
            have HX7 : Hid (GSrc (w6.alloc (.cells #[.string (tb N), .bool F] 39)) (.slice (some ⟨w6.heap.size, 0, none⟩) 1 1) 1 (itC1 (N, F))) := gsrc_block (cs := itC1 (N, F)) (heap_alloc_new _ _)
            have HL7 : Hid (w.heap.size + 1 ≤ (w6.alloc (.cells #[.string (tb N), .bool F] 39)).heap.size) := Nat.le_trans HL6.out k7.size
            have HK7 := hid (HK6.out.trans k7)
            have HS7 := hid (HS6.out.keep k7 (fun h => h))
            have HO := hid (itC1_one (N, F))
            have HN1 : Hid (l.length + 1 ≤ 70368744177) := by have := HLL.out; show _ ≤ _; omega
            have HN2 : Hid ((l.length + 1) * 24 ≤ 140737488355328) := by have := HLL.out; show _ ≤ _; omega
            have HA : Hid (∀ ad' cap' w', w'.ownsRow (w.heap.size + 1) 39 2 (.slice ad' (l.length + 1) cap') (l.length + 1) (itC l ++ itC1 (N, F)) → Keep (fun k => (Value.slice ad0 l.length cp0).ownBlock = some k) (w6.alloc (.cells #[.string (tb N), .bool F] 39)) w' → Gath w p d af (ks.take (k + 1)) (l ++ [(N, F)]) (.slice ad' (l.length + 1) cap') w') := by
              intro ad' cap' w' hr hk'
              have hge : ∀ j, (Value.slice ad0 l.length cp0).ownBlock = some j → w.heap.size + 1 ≤ j := fun j hj => ownsRow_ge HR7.out hj
              refine ⟨HM2.out, ?_, ?_, HK7.out.then hk' (fun j hj e => by have := hge j e; omega), Nat.le_trans HL7.out hk'.size⟩
              · rw [itC_app, List.length_append]; exact hr
              · rw [List.map_append]
                exact HS7.out.keep hk' (fun e => by have := hge _ e; omega)
            clear hin HG5 HT6 HS6 HOK HD HTK HNL HLL hq HM2 HR6 HK6 HL6 k7 HK7 HS7
            generalize tb N = NN at *
            have hl1 : ((l.length + 1 : Nat) : Int) = (l.length : Int) + 1 := by omega
            go_wp2_with (at_builtin; refine wpl_gapp rfl _ _ elI rfl (w.heap.size + 1) (.slice ad0 l.length cp0) _ (itC l) (itC1 (N, F)) l.length 1 (l.length + 1) rfl rfl rfl HR7.out HL7.out HX7.out rfl HO.out HN1.out HN2.out ?_; intro ad1 cap1 w8 hr8 hk8)
            have HG2 := hid (HA.out ad1 cap1 w8 hr8 hk8)
            clear hr8 hk8 HA HR7 HL7 HX7 HO HN1 HN2
            go_wp2
            exact ⟨⟨k + 1, l ++ [(N, F)], by omega, by go_num, ⟨ad1, cap1, by rw [List.length_append]; rfl⟩, by first | exact HG2 | (rw [List.length_append]; exact HG2)⟩, by simp [intOf]; omega⟩
    · have hd : decide ((k : Int) < (ks.length : Int)) = false := decide_eq_false (by omega)
      have hke : k = ks.length := by omega
      have HF : Hid (Met p d ks (fun n => bytesBefore af n) l ∧ wr.ownsRow (w.heap.size + 1) 39 2 (.slice ad0 l.length cp0) l.length (itC l) ∧ Keep (fun _ => False) w wr) := by
        have := HG.out
        rw [hke, HZ.out] at this
        exact ⟨this.met, this.row, this.keep⟩
      clear HC HB HT HZ HG hke
      go_wp2
      go_ret
      exact ⟨l, _, rfl, HF.out⟩
end Go.Proofs.Ytimdnddplhkdlaa
