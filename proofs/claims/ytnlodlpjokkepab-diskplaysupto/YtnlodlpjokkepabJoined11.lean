/- Joined: The walk of the copy of the changes that wait; and a map that is stored into while it is walked. A map that is stored into, at a key that is there, while it is walked. Files that are copied, name by name: what the loop keeps. The walk of files that are set apart. The walk of a disk's copy. The walk of a disk's copy, itself. -/
import Derived.Test.YtnlodlpjokkepabJoined08
import Derived.Maps.RangeWalk
namespace Go.Proofs.Ytnlodlpjokkepab
open Go.RowKit Go.Maps
open Go.ChangeMaps Go.MapKept Go.WideShapes
open Go.WideElems (Fit rd rg pl rd_key rd_val rg_of other_key rd_mk)
set_option linter.unusedVariables false
set_option linter.unusedSimpArgs false

set_option maxRecDepth 100000 in
/-- a row of changes that wait, appended whole to one of the call's own -/
theorem wpl_wcat {w : World} {ops : Array Oper} {rest : List Oper} {o : Oper} {a : Act} {Q : Exit → Act → World → Prop} (hgd : o.guard = none) (sl x : Operand)
    (ho : o.op = .call { callee := .builtin .append, args := #[sl, x], argTypes := #[70, 70] }) (B : Nat) (v : Value) (g c n : Nat) (ws : List Chg) (hn : n = ws.length) (hs : a.eval sl = v) (hx : a.eval x = .slice (some ⟨g, 0, none⟩) n c)
    (h0 : w.ownsRow B 86 5 v 0 []) (hB : B ≤ w.heap.size) (hl : ws.length ≤ 70368744177) (hsrc : w.ownsRow 0 86 5 (.slice (some ⟨g, 0, none⟩) ws.length c) ws.length (chs ws))
    (h : ∀ ad' cap' w', w'.ownsRow B 86 5 (.slice ad' n cap') ws.length (chs ws) → Keep (fun k => v.ownBlock = some k) w w' → wpList Try.prog ops Q rest (a.put o.dst (.slice ad' n cap')) w') : wpList Try.prog ops Q (o :: rest) a w := by
  subst hn
  refine wpList_plain hgd fun K hK => ?_
  obtain ⟨i0, hi, hz0, hz1, hz2⟩ := info_parts info86
  have hcells : ∀ j u, (chs ws)[j]? = some u → w.cell? ((⟨g, 0, none⟩ : Addr).add j) = some u := fun j u hu => by
    obtain ⟨h1, h2⟩ := hsrc
    rcases h2 with ⟨e, _⟩ | ⟨g', cap', cur, e, _, hb, hn, hm, hs, ht⟩
    · injection e with e; cases e
    · injection e with e1 e2 e3
      have e1' : g = g' := congrArg (fun a : Addr => a.block) (Option.some.inj e1)
      subst e1'
      have hj : j < (chs ws).length := (List.getElem?_eq_some_iff.1 hu).1
      rw [Addr.add_lit, Nat.zero_add, cell_of_row _ _ _ _ _ _ hb, ← hu, ← ht, List.getElem?_take_of_lt (by rw [h1] at hj; omega)]
      simp
  have hc1 : ∀ u ∈ chs ws, u.oneCell' = true := fun u hu => by
    unfold chs at hu
    obtain ⟨y, _, hy⟩ := List.mem_flatMap.1 hu
    exact chC_cell1 y u hy
  obtain ⟨v', w', hr, h2, h3, h4, h5⟩ := run_append_own_at (P := Try.prog) w B 70 o.type 86 i0 _ 5 64 Try.underlying70 hi hz0 hz1 hz2 rfl (by decide) v 0 [] h0 ⟨g, 0, none⟩ ws.length c (chs ws) (chs_len ws) hcells hc1 (by unfold maxLen; omega) (by omega) hB
  rw [Nat.zero_add, List.nil_append] at h2
  obtain ⟨ad', cap', rfl⟩ := row_form h2
  unfold Oper.wp execOp
  simp only [ho, resolve, invoke, builtin, Sem.run_bind, Sem.run_pure, Result.andThen_ok, List.map_toArray, List.map_cons, List.map_nil, hs, hx, hr]
  exact hK _ _ (h ad' cap' w' h2 ⟨h3.os, h3.tape, h3.output, h3.size, fun k hk hn => h3.block k hk (fun e => hn e.symm)⟩)

set_option maxRecDepth 100000 in
set_option maxHeartbeats 1000000 in
theorem wclone_none (w : World) : Calls Try.prog 57 #[.slice none 0 0] w fun e w' => e = .returned (.slice none 0 0) ∧ w' = w := by
  have he := eql_wsl_nil w none 0 0
  go_enter Try.func57, Try.ntmps57
  go_wp2
  go_ret
  exact ⟨rfl, rfl⟩
set_option maxRecDepth 100000 in
set_option maxHeartbeats 1000000 in
theorem wclone_some (g c : Nat) (ws : List Chg) (w : World) (h : w.ownsRow 0 86 5 (.slice (some ⟨g, 0, none⟩) ws.length c) ws.length (chs ws)) (hl : ws.length ≤ 70368744177) :
    Calls Try.prog 57 #[.slice (some ⟨g, 0, none⟩) ws.length c] w fun e w' => ∃ v', e = .returned v' ∧ w'.ownsRow w.heap.size 86 5 v' ws.length (chs ws) ∧ Keep (fun _ => False) w w' := by
  have he := eql_wsl_nil w (some ⟨g, 0, none⟩) ws.length c
  have H0 : Hid ((w.alloc (.cells #[] 86)).ownsRow w.heap.size 86 5 (.slice (some ⟨w.heap.size, 0, none⟩) 0 0) 0 []) := ⟨rfl, .inr ⟨w.heap.size, 0, #[], rfl, Nat.le_refl _, heap_alloc_new _ _, Nat.le_refl _, Nat.zero_le _, rfl, rfl⟩⟩
  have HSZ : Hid (w.heap.size ≤ (w.alloc (.cells #[] 86)).heap.size) := by show _ ≤ _; simp
  have HSR := hid ((keep_alloc (fun _ => False) w (.cells #[] 86)).ownsRow h (fun _ _ h => h))
  have HL := hid hl
  have HN : Hid (ws.length = ws.length) := rfl
  clear h hl
  go_enter Try.func57, Try.ntmps57
  go_wp2_with (at_builtin; refine wpl_wcat rfl _ _ rfl w.heap.size _ g c _ ws HN.out rfl rfl H0.out HSZ.out HL.out HSR.out ?_; intro ad' cap' w' hr' hk')
  have HR := hid hr'
  have HK : Hid (Keep (fun _ => False) w w') := (keep_alloc (fun _ => False) w (.cells #[] 86)).then hk' (fun j hj e => by have e' : some w.heap.size = some j := e; have := Option.some.inj e'; omega)
  clear hr' hk' HSR H0 he
  go_wp2
  go_ret
  exact ⟨_, rfl, HR.out, HK.out⟩
end Go.Proofs.Ytnlodlpjokkepab
namespace Go.Proofs.Ytnlodlpjokkepab
open Go.RowKit Go.Maps
open Go.ChangeMaps Go.MapKept Go.WideShapes
open Go.WideElems (Fit rd rg pl rd_key rd_val rg_of other_key rd_mk)
set_option linter.unusedVariables false
set_option linter.unusedSimpArgs false

theorem left_size (es : Array MapEntry) (seen : Array Nat) : (leftOf es seen).size = (es.toList.map (·.born)).countP fun b => !seen.contains b := by
  unfold leftOf
  rw [← Array.length_toList, Array.toList_filter, ← List.countP_eq_length_filter, List.countP_map]
  rfl
/-- 'm[k] = v' in the round, at a key that is there -/
theorem ranges_store {P : Program} {k : TypeId} {H : Type} {R : Value → Option (DataW H × List MemPlace)} {w : World} {b r n : Nat} {D : DataW H} {left : Lit → Bool} {cnt : Nat} {t e : TypeId} (h : w.ranges P k R b r n D left cnt) (K : Keyed P k) (ht : P.underlying t = some (.map k e)) (hn : n < maxLen)
    {key val : Value} {kl : Lit} {d : DataW H} {ps : List MemPlace} (hkey : keyOf P k key = some kl) (hv : R val = some (d, ps)) (hin : Maps.has D kl = true) :
    ∃ w', (Instr.mapUpdate t (.map (some b)) key val).run P w = .ok () w' ∧ w'.ranges P k R b r n (D.put kl d) left cnt ∧ w.mapTurned w' b := by
  have hne := h.ne
  obtain ⟨es, clock, since, seen, c0, hb, F, hs, rfl, hr, hold, rfl, hl1, hl2, hsc, hsk⟩ := h
  obtain ⟨es', clock', hrun, F', hput, _, _, _⟩ := fit_store (R' := R) K ht hb F (by omega) (fun x _ _ z hz => hz) hkey hv
  rcases K.find w hkey es.toList F.keys with ⟨h1, h2⟩ | ⟨j, e0, h1, h2, h3⟩
  · exfalso
    obtain ⟨p, hp, hpk⟩ := List.any_eq_true.1 hin
    obtain ⟨x, hx, rfl⟩ := List.mem_map.1 (mem_sorted.1 hp)
    obtain ⟨y, hy⟩ := F.reads x hx
    rw [rg_of hy] at hpk
    exact h2 x hx (K.inj (WideAt.sameKey_eq hpk ▸ rd_key hy) hkey)
  · have hj : es[j]? = some e0 := by simpa using h2
    have hjl : j < es.toList.length := (List.getElem?_eq_some_iff.1 h2).1
    have hjs : j < es.size := by simpa using hjl
    have hje : es[j] = e0 := by rw [Array.getElem?_eq_getElem hjs] at hj; exact Option.some.inj hj
    have hrun2 : (Instr.mapUpdate t (.map (some b)) key val).run P w = .ok () (setBlock w b (.map (es.modify j (fun e' => { e' with key := key, val := val })) clock)) := by
      simp [Instr.mapUpdate, run_underlying ht, MapKept.run_getObj_map hb, K.check w false hkey, h1, hj, h3, K.stays w hkey, MapKept.run_setObj_map _ hb, Result.andThen, setBlock]
    have heq : es' = es.modify j (fun e' => { e' with key := key, val := val }) ∧ clock' = clock := by
      rw [hrun] at hrun2
      injection hrun2 with _ hw
      have e1 := heap_setBlock_same hb (.map es' clock')
      rw [hw, heap_setBlock_same hb] at e1
      injection e1 with e1
      injection e1 with e1 e2
      exact ⟨e1.symm, e2.symm⟩
    obtain ⟨he1, rfl⟩ := heq
    have hlist : es'.toList = es.toList.set j { e0 with key := key, val := val } := by
      rw [he1, Array.toList_modify]
      apply List.ext_getElem?
      intro i
      rw [List.getElem?_modify, List.getElem?_set]
      by_cases hij : j = i
      · subst hij
        simp [hjl, h2, hjs, hje]
      · simp [hij]
    have he0 : e0 ∈ es.toList := List.mem_of_getElem? h2
    have hborn : es'.toList.map (·.born) = es.toList.map (·.born) := by
      rw [hlist, List.map_set]
      apply List.ext_getElem?
      intro i
      rw [List.getElem?_set]
      by_cases hij : j = i
      · subst hij
        simp [hjl, h2, hjs, hje]
      · simp [hij]
    have hk0 : (rg P k R e0).1 = kl := by
      obtain ⟨y, hy⟩ := F.reads e0 he0
      have m0 := rd_key hy
      rw [h3, hkey] at m0
      rw [rg_of hy, ← Option.some.inj m0]
    have hkn : (rg P k R { e0 with key := key, val := val }).1 = kl := by rw [rg_of (rd_mk hkey hv)]
    have who : ∀ x ∈ es'.toList, x = { e0 with key := key, val := val } ∨ x ∈ es.toList := fun x hx => by
      rw [hlist] at hx
      rcases List.mem_or_eq_of_mem_set hx with h | h
      · exact .inr h
      · exact .inl h
    have hnew : ({ e0 with key := key, val := val } : MapEntry) ∈ es'.toList := by
      rw [hlist]; exact List.mem_iff_getElem.2 ⟨j, by simpa using hjl, by simp⟩
    refine ⟨_, hrun, ⟨es', clock', since, seen, c0, heap_setBlock_same hb _, F', ?_, ?_, (heap_setBlock_other hb _ hne).trans hr, fun x hx => ?_, ?_, fun x hx => ?_, fun kl' hkl => ?_, hsc, hsk⟩, ⟨es, clock', es', clock', hb, rfl⟩⟩
    · rw [he1]; simpa using hs
    · rw [DataW.put_eq, hput]
    · rcases who x hx with rfl | h
      · exact hold e0 he0
      · exact hold x h
    · rw [left_size, left_size, hborn]
    · rcases who x hx with rfl | h
      · rw [hkn, ← hk0]; exact hl1 e0 he0
      · exact hl1 x h
    · obtain ⟨x, hx, rfl⟩ := hl2 kl' hkl
      obtain ⟨i, hi, rfl⟩ := List.getElem_of_mem hx
      by_cases hij : j = i
      · subst hij
        refine ⟨_, hnew, ?_⟩
        have : es.toList[j] = e0 := by rw [List.getElem?_eq_getElem hjl] at h2; exact Option.some.inj h2
        rw [hkn, this, hk0]
      · refine ⟨es.toList[i], ?_, rfl⟩
        rw [hlist]
        exact List.mem_iff_getElem.2 ⟨i, by simpa using hi, by rw [List.getElem_set_ne hij]⟩
end Go.Proofs.Ytnlodlpjokkepab
namespace Go.Proofs.Ytnlodlpjokkepab
open Go.RowKit Go.Maps
set_option linter.unusedVariables false
set_option linter.unusedSimpArgs false

/-- the copy of a slice of bytes -/
theorem bclone_any (v : Value) (T : Bs) (w : World) (h : BSl w 0 v T) (hl : T.length ≤ 70368744177) :
    Calls Try.prog 70 #[v] w fun e w' => ∃ ad n c, e = .returned (.slice ad n c) ∧ BSl w' w.heap.size (.slice ad n c) T ∧ Keep (fun _ => False) w w' := by
  rcases h with ⟨rfl, rfl⟩ | h
  · refine (bclone_none w).mono fun e w' ⟨he, hw⟩ => ⟨none, 0, 0, he, BSl.nil _ _, ?_⟩
    subst hw; exact Keep.refl _ _
  · have h' := h
    obtain ⟨g, cap, rfl, _⟩ := h'
    refine (bclone_some g cap T w h hl).mono fun e w' ⟨v', he, hb, hk⟩ => ?_
    obtain ⟨g', cap', rfl, h2⟩ := hb
    exact ⟨_, _, _, he, .inr ⟨g', cap', rfl, h2⟩, hk⟩
theorem kput_same {A : List (Bs × Bs)} (h : Srt A) {n b : Bs} (hg : kget A n = some b) : kput A n b = A := by
  refine srt_ext (srt_kput h _ _) h fun m => ?_
  by_cases hm : n = m
  · subst hm; rw [kget_put_same, hg]
  · rw [kget_put_other _ _ hm]

/-- the loop has come so far: what is still to come is as it was, the rest is new -/
structure ApAt (w : World) (ex : Option Bs) (L : List (Bs × FV)) (m r ob : Nat) (u : Int) (L' : List (Bs × FV)) (left : Lit → Bool) (cnt : Nat) (wr : World) : Prop where
  rng : wr.ranges Try.prog 9 rawE m r L.length (mp (vals L')) left cnt
  box : RowIs wr ob [.map (some m), .int .i64 u] 69
  res : RowIs wr w.heap.size [.map none, .int .i64 0] 69
  srt : Srt L'
  txt : txts L' = txts L
  old : ∀ n, left (.string n) = true → kget L' n = kget L n
  new : ∀ x ∈ L', left (.string x.1) = false → ex ≠ some x.1 → BSl wr 0 x.2.1 x.2.2 ∧ ∀ g, x.2.1.ownBlock = some g → w.heap.size < g ∧ g ≠ m ∧ g ≠ r ∧ g ≠ ob
  apt : ∀ x ∈ L', ∀ y ∈ L', x.1 ≠ y.1 → left (.string x.1) = false → left (.string y.1) = false → ex ≠ some x.1 → ex ≠ some y.1 → ∀ g, x.2.1.ownBlock = some g → y.2.1.ownBlock ≠ some g
  keep : Keep (fun _ => False) w wr
  ge : w.heap.size < m ∧ w.heap.size < r ∧ w.heap.size < ob

theorem Keep.grown {w w' : World} {row : Option Nat} (h : w.grownBy w' row) : Keep (fun k => row = some k) w w' := ⟨h.os, h.tape, h.output, h.size, fun k hk hn => h.block k hk (fun e => hn e.symm)⟩
theorem grown_keep {w w' : World} (k : Keep (fun _ => False) w w') : w.grownBy w' none := ⟨k.os, k.tape, k.output, k.size, fun i hi _ => k.block i hi (fun h => h)⟩
/-- worlds that only have more -/
theorem ApAt.go {w : World} {ex : Option Bs} {L : List (Bs × FV)} {m r ob : Nat} {u : Int} {L' : List (Bs × FV)} {left : Lit → Bool} {cnt : Nat} {wr W : World} (h : ApAt w ex L m r ob u L' left cnt wr) (k : Keep (fun _ => False) wr W) : ApAt w ex L m r ob u L' left cnt W :=
  ⟨h.rng.kept (grown_keep k) (by simp) (by simp), h.box.keep k (fun h => h), h.res.keep k (fun h => h), h.srt, h.txt, h.old, fun x hx hl hx9 => ⟨k.bsl (h.new x hx hl hx9).1 (fun _ _ h => h), (h.new x hx hl hx9).2⟩, h.apt, h.keep.trans k, h.ge⟩
theorem bsl_base {w : World} {B : Nat} {v : Value} {T : Bs} (h : BSl w B v T) : BSl w 0 v T ∧ ∀ g, v.ownBlock = some g → B ≤ g ∧ g < w.heap.size := by
  rcases h with ⟨rfl, rfl⟩ | ⟨g, cap, rfl, h1, h2, h3⟩
  · exact ⟨BSl.nil _ _, fun g e => by simp [Value.ownBlock] at e⟩
  · refine ⟨.inr ⟨g, cap, rfl, Nat.zero_le _, h2, h3⟩, fun g' e => ?_⟩
    have e' : some g = some g' := e
    have := Option.some.inj e'
    omega
theorem same_lit (a b : Bs) : (Lit.string a).sameKey (.string b) = decide (a = b) := by
  rw [same_str, Bool.eq_iff_iff]; simp
theorem mem_txts {L : List (Bs × FV)} {x : Bs × FV} (h : x ∈ L) : (x.1, x.2.2) ∈ txts L := List.mem_map.2 ⟨x, h, rfl⟩
/-- one more is copied and stored -/
theorem ApAt.put {w : World} {L : List (Bs × FV)} {m r ob : Nat} {u : Int} {L' : List (Bs × FV)} {left : Lit → Bool} {cnt : Nat} {w1 w2 : World} {n : Bs} (h : ApAt w (some n) L m r ob u L' left cnt w1) (T : Bs) (v v' : Value) (hn : n.length ≤ maxLen) (hl : left (.string n) = false) (hg : kget (txts L) n = some T) (hlen : L.length < maxLen)
    (hb : BSl w2 w1.heap.size v' T) (k : Keep (fun _ => False) w1 w2) :
    ∃ w3, (Instr.mapUpdate 67 (.map (some m)) (.string (tx n)) v').run Try.prog w2 = .ok () w3 ∧ ApAt w none L m r ob u (kput L' n (v', T)) left cnt w3 := by
  have h2 := h.go k
  have hkey : keyOf Try.prog 9 (.string (tx n)) = some (.string n) := by
    have := WideMaps.keyOf_string_mk (P := Try.prog) (s := tx n) Try.underlying9 (by rw [size_mk]; exact hn)
    rw [tx_list] at this; exact this
  have hgL : kget (txts L') n = some T := by rw [h.txt]; exact hg
  have hgv : (kget (vals L') n).isSome = true := by
    rw [txts_get] at hgL
    rw [vals_get]
    cases hk : kget L' n with
    | none => rw [hk] at hgL; cases hgL
    | some x => rfl
  obtain ⟨w3, hr, hrg, ht⟩ := ranges_store h2.rng law9 Try.underlying67 hlen (val := v') (d := .held v') (ps := []) hkey rfl (by rw [mp_has]; exact hgv)
  have k3 : Keep (fun j => j = m) w2 w3 := (Keep.grown ht.grown).mono (fun j _ e => (Option.some.inj e).symm)
  obtain ⟨hb0, hbg⟩ := bsl_base hb
  have hge := h.ge
  have hmr := h.rng.ne
  have hmlt := h.rng.owns.lt
  have hrlt := h.rng.lt
  have hoblt := h.box.lt
  have hobm : ob ≠ m := fun e => by
    have h9 := h.box
    unfold RowIs at h9
    obtain ⟨es, clock, hbm, _⟩ := h.rng.owns
    rw [e, hbm] at h9
    cases h9
  rw [mp_put, ← vals_put L' n (v', T)] at hrg
  refine ⟨w3, hr, hrg, h2.box.keep k3 hobm, h2.res.keep k3 (by omega), srt_kput h.srt _ _, ?_, fun q hq => ?_, fun x hx hx2 _ => ?_, fun x hx y hy hxy hx2 hy2 _ _ g e => ?_, h2.keep.then k3 (fun j hj e => by omega), hge⟩
  · rw [txts_put, h.txt, kput_same (by rw [← h.txt]; exact srt_txts.2 h.srt) hg]
  · have hqn : n ≠ q := fun e => by subst e; rw [hl] at hq; cases hq
    rw [kget_put_other _ _ hqn]; exact h.old q hq
  · rcases mem_kput.1 hx with rfl | ⟨hx3, hx9⟩
    · refine ⟨k3.bsl hb0 (fun g e e2 => ?_), fun g e => ?_⟩
      · have := hbg g e; omega
      · have := hbg g e; omega
    · obtain ⟨h4, h5⟩ := h2.new x hx3 hx2 (fun e => hx9 (Option.some.inj e).symm)
      exact ⟨k3.bsl h4 (fun g e e2 => (h5 g e).2.1 e2), h5⟩
  · rcases mem_kput.1 hx with rfl | ⟨hx3, hx4⟩
    · rcases mem_kput.1 hy with rfl | ⟨hy3, hy9⟩
      · exact absurd rfl hxy
      · intro e2
        have h5 := bsl_block (h.new y hy3 hy2 (fun e => hy9 (Option.some.inj e).symm)).1 e2
        have h6 := hbg g e
        omega
    · rcases mem_kput.1 hy with rfl | ⟨hy3, hy9⟩
      · intro e2
        have h5 := bsl_block (h.new x hx3 hx2 (fun e => hx4 (Option.some.inj e).symm)).1 e
        have h6 := hbg g e2
        omega
      · exact h.apt x hx3 y hy3 hxy hx2 hy2 (fun e => hx4 (Option.some.inj e).symm) (fun e => hy9 (Option.some.inj e).symm) g e
/-- an entry has come -/
theorem ApAt.mid {w : World} {L : List (Bs × FV)} {m r ob : Nat} {u : Int} {L' : List (Bs × FV)} {left : Lit → Bool} {cnt cnt' : Nat} {wr w1 : World} (h : ApAt w none L m r ob u L' left cnt wr) (n : Bs) (hr : w1.ranges Try.prog 9 rawE m r L.length (mp (vals L')) (fun z => left z && !z.sameKey (.string n)) cnt') (hg : wr.grownBy w1 (some r)) :
    ApAt w (some n) L m r ob u L' (fun z => left z && !z.sameKey (.string n)) cnt' w1 := by
  have k : Keep (fun j => j = r) wr w1 := (Keep.grown hg).mono (fun j _ e => (Option.some.inj e).symm)
  have hge := h.ge
  have hobr : ob ≠ r := fun e => by
    have h9 := h.box
    unfold RowIs at h9
    obtain ⟨es, clock, since, seen, c0, _, _, _, _, hr2, _⟩ := h.rng
    rw [e, hr2] at h9
    cases h9
  have lt : ∀ q : Bs, q ≠ n → (left (.string q) && !(Lit.string q).sameKey (.string n)) = left (.string q) := fun q hq => by rw [same_lit, decide_eq_false hq]; simp
  refine ⟨hr, h.box.keep k hobr, h.res.keep k (by omega), h.srt, h.txt, fun q hq => ?_, fun x hx hx2 hx3 => ?_, fun x hx y hy hxy hx2 hy2 hx3 hy3 g e => ?_, h.keep.then k (fun j hj e => by omega), hge⟩
  · simp only [Bool.and_eq_true] at hq
    exact h.old q hq.1
  · have hne : x.1 ≠ n := fun e => hx3 (by rw [e])
    rw [lt _ hne] at hx2
    obtain ⟨h4, h5⟩ := h.new x hx hx2 (by simp)
    exact ⟨k.bsl h4 (fun g e e2 => (h5 g e).2.2.1 e2), h5⟩
  · have hne : x.1 ≠ n := fun e => hx3 (by rw [e])
    have hne2 : y.1 ≠ n := fun e => hy3 (by rw [e])
    rw [lt _ hne] at hx2
    rw [lt _ hne2] at hy2
    exact h.apt x hx y hy hxy hx2 hy2 (by simp) (by simp) g e
end Go.Proofs.Ytnlodlpjokkepab
namespace Go.Proofs.Ytnlodlpjokkepab
open Go.RowKit Go.Maps
set_option linter.unusedVariables false
set_option linter.unusedSimpArgs false

theorem key_str {key : Value} {kl : Lit} (h : keyOf Try.prog 9 key = some kl) : ∃ n : Bs, key = .string (tx n) ∧ kl = .string n ∧ n.length ≤ maxLen := by
  rw [keyOf_string Try.underlying9] at h
  cases key <;> simp [mapKey, Try.underlying9] at h
  rename_i s
  refine ⟨s.data.toList, ?_, ?_, ?_⟩
  · rfl
  · exact h.2.symm
  · simpa using h.1

set_option maxRecDepth 100000 in
set_option maxHeartbeats 2000000 in
theorem apart_some (pb po : Nat) (cs : List Value) (t : TypeId) (mo : Option Nat) (u : Int) (L : List (Bs × FV)) (c : Nat → Nat) (mc : Nat) (w : World) (hrow : RowIs w pb cs t) (h0 : cs[po]? = some (.map mo)) (h1 : cs[po + 1]? = some (.int .i64 u)) (hf : FilIs w c mc mo L) (hlen : L.length ≤ 70368744177) (htx : ∀ x ∈ L, x.2.2.length ≤ 70368744177) :
    Calls Try.prog 56 #[.pointer (some ⟨pb, po, none⟩)] w fun e w' => ∃ mo' L', e = .returned (.agg #[.map mo', .int .i64 u]) ∧ txts L' = txts L ∧ Srt L' ∧ MapV w' mo' (vals L') ∧ (∀ b, mo' = some b → w.heap.size ≤ b) ∧ (∀ x ∈ L', BSl w' 0 x.2.1 x.2.2 ∧ ∀ g, x.2.1.ownBlock = some g → w.heap.size ≤ g ∧ mo' ≠ some g) ∧
      (∀ x ∈ L', ∀ y ∈ L', x.1 ≠ y.1 → ∀ g, x.2.1.ownBlock = some g → y.2.1.ownBlock ≠ some g) ∧ Keep (fun _ => False) w w' := by
  have SM : Hid (∀ W, Keep (fun _ => False) w W → Calls Try.prog 50 #[.pointer (some ⟨pb, po, none⟩)] W fun e w' => ∃ mo', e = .returned (.agg #[.map mo', .int .i64 u]) ∧ MapV w' mo' (vals L) ∧ Keep (fun _ => False) W w' ∧ (∀ b, mo' = some b → W.heap.size ≤ b)) := fun W hW => same_any pb po cs t mo u (vals L) W (hrow.keep hW (fun h => h)) h0 h1 (hW.mapV hf.map (fun _ _ h => h))
  clear hrow h0 h1
  go_enter Try.func56, Try.ntmps56
  go_wp2_with fail
  refine (SM.out _ (keep_alloc _ _ _)).mono ?_
  rintro e w1 ⟨mo', rfl, hm, hk, hb⟩
  have hk0 := keep_alloc (fun _ => False) w (.cells #[.map none, .int .i64 0] 69)
  have hr0 : RowIs (w.alloc (.cells #[.map none, .int .i64 0] 69)) w.heap.size [.map none, .int .i64 0] 69 := heap_alloc_new _ _
  have hsz0 : (w.alloc (.cells #[.map none, .int .i64 0] 69)).heap.size = w.heap.size + 1 := by simp
  rw [hsz0] at hb
  have HR0 := hid (hr0.keep hk (fun h => h))
  have HK1 := hid (hk0.trans hk)
  clear SM hk hk0 hr0 hsz0
  cases mo' with
  | none =>
    have hL : L = [] := by
      rcases hm with ⟨_, e⟩ | ⟨b', e, _⟩
      · exact List.map_eq_nil_iff.1 e
      · cases e
    subst hL
    have hrn := run_range_nilMap (P := Try.prog) (w1.alloc (.cells #[.map none, .int .i64 u] 69)) 67 9 94 Try.underlying67
    have hnx := fun ty => run_next_nilMap (P := Try.prog) (w1.alloc (.cells #[.map none, .int .i64 u] 69)) ty 0 0 #[]
    have hsz : (w1.alloc (.cells #[.map none, .int .i64 u] 69)).heap.size = w1.heap.size + 1 := by simp
    rw [hsz] at hrn hnx
    have hlt := HR0.out.lt
    have k2 : Keep (fun _ => False) w1 ((w1.alloc (.cells #[.map none, .int .i64 u] 69)).alloc (.mapIter none 0 #[] 0)) := (keep_alloc _ _ _).trans (keep_alloc _ _ _)
    have hrs := HR0.out.keep k2 (fun h => h)
    have hbx : RowIs ((w1.alloc (.cells #[.map none, .int .i64 u] 69)).alloc (.mapIter none 0 #[] 0)) w1.heap.size [.map none, .int .i64 u] 69 := RowIs.keep (heap_alloc_new _ _) (keep_alloc (fun _ => False) _ _) (fun h => h)
    have x0 := hbx.cellAt (o := 0) rfl
    have x1 := hbx.cellAt (o := 1) rfl
    have z0 := hrs.cellAt (o := 0) rfl
    have z1 := hrs.cellAt (o := 1) rfl
    have y0 := hrs.frozen (o := 0)
    have y1 := hrs.frozen (o := 1)
    have HRW := hid ((hrs.set 0 (.map none)).set 1 (.int .i64 u))
    have HKF : Hid (Keep (fun _ => False) w ((((w1.alloc (.cells #[.map none, .int .i64 u] 69)).alloc (.mapIter none 0 #[] 0)).setCell ⟨w.heap.size, 0, none⟩ (.map none)).setCell ⟨w.heap.size, 1, none⟩ (.int .i64 u))) := ((HK1.out.trans k2).then (keep_setCell _ _ _ _) (fun j hj e => by omega)).then (keep_setCell _ _ _ _) (fun j hj e => by omega)
    clear hm hb hf hlen htx hrs hbx k2 HR0 HK1
    go_wp2
    generalize (w1.alloc (.cells #[.map none, .int .i64 u] 69)).alloc (.mapIter none 0 #[] 0) = w9 at *
    clear hrn
    go_loopw [4] (fun _ wr => wr = w9) (fun _ _ => 0)
    case atStart => rfl
    case round =>
      subst hrel
      go_wp2
      exact bodyPost_ret (v := .agg #[.map none, .int .i64 u]) (results_cell_row (p := 2) rfl _ _ w.heap.size 69 #[.map none, .int .i64 u] (0, 0) _ rfl HRW.out Try.underlying69 rfl (by kernel_rfl)) rfl ⟨none, [], rfl, rfl, srt_nil, .inl ⟨rfl, rfl⟩, fun b e => (by cases e), fun x hx => (by cases hx), fun x hx => (by cases hx), HKF.out⟩
  | some m =>
    have HMO : Hid (w1.ownsMap Try.prog 9 rawE m (vals L).length (mp (vals L))) := by
      rcases hm with ⟨e, _⟩ | ⟨b', e, h⟩
      · cases e
      · injection e with e; subst e; exact h
    have HM := hid hm
    have HGE : Hid (w.heap.size < m) := by have := hb m rfl; show _ < _; omega
    clear hm hb
    have HOW : Hid ((w1.alloc (.cells #[.map (some m), .int .i64 u] 69)).ownsMap Try.prog 9 rawE m (vals L).length (mp (vals L))) := by
      obtain ⟨es, clock, hbm, r⟩ := HMO.out
      exact ⟨es, clock, ((keep_alloc (fun _ => False) w1 _).block m HMO.out.lt (fun h => h)).trans hbm, r⟩
    go_wp2_with (first | (at_range; refine wpList_range_own _ rfl _ 67 rfl 9 94 law9 Try.underlying67 rawE m (vals L).length (mp (vals L)) rfl HOW.out ?_; intro w0' hrg0 hg0 hs0))
    go_frame
    have hA0 : ApAt w none L m (w1.alloc (.cells #[.map (some m), .int .i64 u] 69)).heap.size w1.heap.size u L (Maps.has (mp (vals L))) (Maps.size (mp (vals L))) w0' := by
      have hk2 : Keep (fun _ => False) (w1.alloc (.cells #[.map (some m), .int .i64 u] 69)) w0' := (Keep.grown hg0).mono (fun j _ e => by cases e)
      have hka := keep_alloc (fun _ => False) w1 (.cells #[.map (some m), .int .i64 u] 69)
      have hs1 := HK1.out.size
      have hs2 : (w1.alloc (.cells #[.map (some m), .int .i64 u] 69)).heap.size = w1.heap.size + 1 := by simp
      have hlt1 := HR0.out.lt
      refine ⟨by have := hrg0; rwa [show (vals L).length = L.length by simp [vals]] at this, RowIs.keep (heap_alloc_new _ _) hk2 (fun h => h), (HR0.out.keep hka (fun h => h)).keep hk2 (fun h => h), hf.srt, rfl, fun _ _ => rfl, fun x hx hx2 => ?_, fun x hx y hy hxy hx2 => ?_, (HK1.out.trans hka).trans hk2, ⟨HGE.out, by omega, by omega⟩⟩
      all_goals
        exfalso
        rw [mp_has, vals_get, srt_mem hf.srt (show (x.1, x.2) ∈ L from hx)] at hx2
        cases hx2
    have HA0 := hid hA0
    have HFB : Hid (∀ n T, kget (txts L) n = some T → ∃ v, kget L n = some (v, T) ∧ BSl w 0 v T) := fun n T hg => by
      rw [txts_get] at hg
      cases hk : kget L n with
      | none => rw [hk] at hg; cases hg
      | some x =>
        rw [hk] at hg
        have hg' : x.2 = T := Option.some.inj hg
        subst hg'
        exact ⟨x.1, rfl, hf.row _ (kget_mem hk)⟩
    have HLN := hid hlen
    have HTX := hid htx
    have hob : w1.heap.size < w0'.heap.size := hA0.box.lt
    generalize (w1.alloc (.cells #[.map (some m), .int .i64 u] 69)).heap.size = r at *
    generalize w1.heap.size = ob at *
    clear hrg0 hg0 hs0 hA0 HOW HM HMO HR0 HK1 HGE hf hlen htx hob
    go_loopw [4] (fun _ wr => ∃ L' left cnt, Hid (ApAt w none L m r ob u L' left cnt wr)) (fun _ wr => wr.rangeLeft m r)
    case atStart => exact ⟨L, _, _, HA0⟩
    case round =>
      clear HA0
      obtain ⟨L', left, cnt, HA⟩ := hrel
      have hrg := HA.out.rng
      go_wp2_with (first | (at_next; refine wpList_next_ranges _ rfl _ rfl 9 law9 rawE (fun n : Bs => Value.string (tx n)) (fun v : Value => v) (fun key kl h => by obtain ⟨n, e, _⟩ := key_str h; exact ⟨n, e⟩) (fun v y _ => ⟨v, rfl⟩) m r L.length (mp (vals L')) left cnt rfl hrg ?_ ?_))
      · intro hc0 hl0
        have hA := HA.out
        have HL0 := hid hl0
        have x0 := hA.box.cellAt (o := 0) rfl
        have x1 := hA.box.cellAt (o := 1) rfl
        have z0 := hA.res.cellAt (o := 0) rfl
        have z1 := hA.res.cellAt (o := 1) rfl
        have y0 := hA.res.frozen (o := 0)
        have y1 := hA.res.frozen (o := 1)
        have hge := hA.ge
        have kF : Keep (fun j => j = w.heap.size) wr ((wr.setCell ⟨w.heap.size, 0, none⟩ (.map (some m))).setCell ⟨w.heap.size, 1, none⟩ (.int .i64 u)) := (keep_setCell _ _ _ _).trans (keep_setCell _ _ _ _)
        have HRW : Hid (RowIs ((wr.setCell ⟨w.heap.size, 0, none⟩ (.map (some m))).setCell ⟨w.heap.size, 1, none⟩ (.int .i64 u)) w.heap.size [.map (some m), .int .i64 u] 69) := (hA.res.set 0 _).set 1 _
        have HKF := hid kF
        have HGE := hid hge
        clear hrg hc0 hl0 hA kF hge HFB HLN HTX
        go_wp2
        refine bodyPost_ret (v := .agg #[.map (some m), .int .i64 u]) (results_cell_row (p := 2) rfl _ _ w.heap.size 69 #[.map (some m), .int .i64 u] (0, 0) _ rfl HRW.out Try.underlying69 rfl (by kernel_rfl)) rfl ⟨some m, L', rfl, HA.out.txt, HA.out.srt, .inr ⟨m, rfl, ?_⟩, fun b e => ?_, fun x hx => ?_, fun x hx y hy hxy => HA.out.apt x hx y hy hxy (HL0.out _) (HL0.out _) (by simp) (by simp), HA.out.keep.then HKF.out (fun j hj e => by omega)⟩
        · obtain ⟨es, clock, hb, r9⟩ := HA.out.rng.owns
          refine mapIs_of (n := L.length) ⟨es, clock, (HKF.out.block m (Array.getElem?_eq_some_iff.1 hb).1 (by have := HGE.out; omega)).trans hb, r9⟩
        · have := Option.some.inj e; have := HGE.out; omega
        · obtain ⟨h4, h5⟩ := HA.out.new x hx (HL0.out _) (by simp)
          refine ⟨HKF.out.bsl h4 (fun g e e2 => by have := (h5 g e).1; omega), fun g e => ⟨Nat.le_of_lt (h5 g e).1, fun e2 => (h5 g e).2.1 (Option.some.inj e2).symm⟩⟩
      · intro n v kl y ps w2 cnt2 hkey hlk hv hat hrg1 hlt hg1 hs1 hen
        obtain ⟨n2, e2, rfl, hn2⟩ := key_str hkey
        have e3 : n = n2 := by
          injection e2 with e2
          have := congrArg (fun b : ByteArray => b.data.toList) e2
          simpa using this
        subst e3
        have hsz := size_mk n
        have hA := HA.out
        have hM := hA.mid n hrg1 hg1
        have hv' : kget (vals L') n = some v := by
          have h8 := hat (.held (.slice none 0 0))
          rw [mp_at] at h8
          have h9 : (y, ps) = (.held v, []) := (Option.some.inj hv).symm
          have h10 : y = .held v := congrArg Prod.fst h9
          rw [h10] at h8
          have h11 := DataW.held.inj h8
          have h12 := hA.old n hlk
          rw [vals_get] at h11 ⊢
          cases hk : kget L' n with
          | none =>
            exfalso
            obtain ⟨z, hz⟩ : ∃ z, kget L n = some z := by
              have h13 := hrg1.owns
              obtain ⟨es, clock, since, seen, c0, hb, F, hs, hD, hr, hold, hc, hl1, hl2, _⟩ := hA.rng
              obtain ⟨x, hx, hxk⟩ := hl2 _ hlk
              have h14 : Maps.has (mp (vals L')) (.string n) = true := by
                rw [hD]
                refine List.any_eq_true.2 ⟨WideElems.rg Try.prog 9 rawE x, mem_sorted.2 (List.mem_map.2 ⟨x, hx, rfl⟩), ?_⟩
                rw [hxk, same_lit]; simp
              rw [mp_has, vals_get, hk] at h14
              cases h14
            rw [hk, hz] at h12
            cases h12
          | some z => rw [hk] at h11; exact congrArg some h11
        obtain ⟨T, hT⟩ : ∃ T, kget (txts L) n = some T := by
          rw [vals_get] at hv'
          rw [← hA.txt, txts_get]
          cases hk : kget L' n with
          | none => rw [hk] at hv'; cases hv'
          | some z => exact ⟨z.2, rfl⟩
        obtain ⟨v0, hv0, hb0⟩ := HFB.out n T hT
        have hvv : v = v0 := by
          have h12 := hA.old n hlk
          rw [vals_get, h12, hv0] at hv'
          exact (Option.some.inj hv').symm
        subst hvv
        have hTl : T.length ≤ 70368744177 := HTX.out _ (kget_mem hv0)
        have CL : Hid (∀ W, Keep (fun _ => False) w2 W → Calls Try.prog 70 #[v] W fun e w3 => ∃ ad n' c', e = .returned (.slice ad n' c') ∧ w3.cell? ⟨ob, 0, none⟩ = some (.map (some m)) ∧ ∃ w4, (Instr.mapUpdate 67 (.map (some m)) (.string (tx n)) (.slice ad n' c')).run Try.prog w3 = .ok () w4 ∧ w4.cell? ⟨ob, 0, none⟩ = some (.map (some m)) ∧ Hid (ApAt w none L m r ob u (kput L' n (.slice ad n' c', T)) (fun z => left z && !z.sameKey (.string n)) cnt2 w4)) := by
          intro W hW
          have hMW := hM.go hW
          refine (bclone_any v T W (hMW.keep.bsl hb0 (fun _ _ h => h)) hTl).mono fun e w3 ⟨ad, n', c', he, hb', hk'⟩ => ⟨ad, n', c', he, (hMW.go hk').box.cellAt rfl, ?_⟩
          obtain ⟨w4, hr4, hA4⟩ := hMW.put T v (.slice ad n' c') hn2 (by simp only [same_lit]; simp) hT (by have := HLN.out; unfold maxLen; omega) hb' hk'
          exact ⟨w4, hr4, hA4.box.cellAt rfl, hA4⟩
        have x0 := hM.box.cellAt (o := 0) rfl
        have x0d : w2.drew.cell? ⟨ob, 0, none⟩ = some (.map (some m)) := x0
        have HM1 : Hid (wr.rangeLeft m r = cnt) := hrg.left_eq
        have HKa : Hid (Keep (fun _ => False) w2 w2) := Keep.refl _ _
        have HKb : Hid (Keep (fun _ => False) w2 w2.drew) := keep_drew _ _
        clear hrg hkey hlk hv hat hrg1 hg1 hs1 e2 hn2 hsz hA hM hv' hT hv0 hb0 hTl HFB HTX HLN HA
        generalize tx n = NB at *
        go_wp2
        go_region_held3 (fun w' => w'.cell? ⟨ob, 0, none⟩ = some (.map (some m))) (first | with_reducible assumption | with_reducible (exact x0) | with_reducible (exact x0d)) (first | (go_at_call 70; with_reducible (refine (CL.out _ ?_).mono ?_); (first | exact HKa.out | exact HKb.out); rintro e w3 ⟨ad, n', c', rfl, x3, w4, hup, x4, HA4⟩))
        all_goals
          go_wp2
          exact ⟨⟨_, _, _, HA4⟩, by rw [HA4.out.rng.left_eq, HM1.out]; exact hlt⟩
end Go.Proofs.Ytnlodlpjokkepab
namespace Go.Proofs.Ytnlodlpjokkepab
open Go.RowKit Go.Maps
set_option linter.unusedVariables false
set_option linter.unusedSimpArgs false

/-- files that were set apart, all in blocks from B on -/
structure FrF (w : World) (B : Nat) (mo : Option Nat) (L : List (Bs × FV)) : Prop where
  map : MapV w mo (vals L)
  mge : ∀ b, mo = some b → B ≤ b ∧ b < w.heap.size
  row : ∀ x ∈ L, BSl w 0 x.2.1 x.2.2
  ge : ∀ x ∈ L, ∀ g, x.2.1.ownBlock = some g → B ≤ g ∧ g < w.heap.size ∧ mo ≠ some g
  apart : ∀ x ∈ L, ∀ y ∈ L, x.1 ≠ y.1 → ∀ g, x.2.1.ownBlock = some g → y.2.1.ownBlock ≠ some g
  srt : Srt L
theorem FrF.keep {S : Nat → Prop} {w w' : World} {B : Nat} {mo : Option Nat} {L : List (Bs × FV)} (h : FrF w B mo L) (k : Keep S w w') (hS : ∀ j, B ≤ j → j < w.heap.size → ¬ S j) : FrF w' B mo L :=
  ⟨k.mapV h.map (fun b e => hS b (h.mge b e).1 (h.mge b e).2), fun b e => ⟨(h.mge b e).1, Nat.lt_of_lt_of_le (h.mge b e).2 k.size⟩, fun x hx => k.bsl (h.row x hx) (fun g e => hS g (h.ge x hx g e).1 (h.ge x hx g e).2.1), fun x hx g e => ⟨(h.ge x hx g e).1, Nat.lt_of_lt_of_le (h.ge x hx g e).2.1 k.size, (h.ge x hx g e).2.2⟩, h.apart, h.srt⟩
theorem mapV_lt {w : World} {mo : Option Nat} {L : List (Bs × Value)} (h : MapV w mo L) : ∀ b, mo = some b → b < w.heap.size := fun b e => by
  rcases h with ⟨h0, _⟩ | ⟨b', h0, hm⟩
  · rw [h0] at e; cases e
  · rw [h0] at e; injection e with e; subst e; exact hm.lt
/-- 'apart', as it is wanted here -/
theorem apart_fr (pb po : Nat) (cs : List Value) (t : TypeId) (mo : Option Nat) (u : Int) (L : List (Bs × FV)) (c : Nat → Nat) (mc : Nat) (w : World) (hrow : RowIs w pb cs t) (h0 : cs[po]? = some (.map mo)) (h1 : cs[po + 1]? = some (.int .i64 u)) (hf : FilIs w c mc mo L) (hlen : L.length ≤ 70368744177) (htx : ∀ x ∈ L, x.2.2.length ≤ 70368744177) :
    Calls Try.prog 56 #[.pointer (some ⟨pb, po, none⟩)] w fun e w' => ∃ mo' L', e = .returned (.agg #[.map mo', .int .i64 u]) ∧ txts L' = txts L ∧ FrF w' w.heap.size mo' L' ∧ Keep (fun _ => False) w w' :=
  (apart_some pb po cs t mo u L c mc w hrow h0 h1 hf hlen htx).mono fun e w' ⟨mo', L', he, ht, hs, hm, hb, hr, ha, hk⟩ =>
    ⟨mo', L', he, ht, ⟨hm, fun b e => ⟨hb b e, mapV_lt hm b e⟩, fun x hx => (hr x hx).1, fun x hx g e => ⟨((hr x hx).2 g e).1, bsl_block (hr x hx).1 e, ((hr x hx).2 g e).2⟩, ha, hs⟩, hk⟩
/-- the falls' map is copied -/
theorem fclone_any (fm : Option Nat) (fl : List Fl) (c : Nat → Nat) (w : World) (h : FallIs w c fm fl) :
    Calls Try.prog 58 #[.map fm] w fun e w' => ∃ fm', e = .returned (.map fm') ∧ (∀ b, fm' = some b → b = w.heap.size ∧ b < w'.heap.size) ∧ Keep (fun _ => False) w w' ∧ ∀ c', (∀ b, fm' = some b → c' b = 5) → (∀ g, g < w.heap.size → c g = 6 → c' g = 6) → FallIs w' c' fm' fl := by
  rcases h with ⟨rfl, rfl⟩ | ⟨b, n, D, f, rfl, h2, h3, h4, h5, h6, h7⟩
  · refine (fclone_none w).mono fun e w' ⟨he, hw⟩ => ⟨none, he, fun b e => (by cases e), ?_, fun c' _ _ => .inl ⟨rfl, rfl⟩⟩
    subst hw; exact Keep.refl _ _
  · obtain ⟨es, clock, hb, F, hs, hD⟩ := h3
    refine (fclone_some b es clock w hb).mono fun e w' ⟨he, hw⟩ => ⟨some w.heap.size, he, fun b e => ?_, ?_, fun c' hc5 hc6 => ?_⟩
    · have := Option.some.inj e
      subst hw
      exact ⟨this.symm, by rw [← this]; simp⟩
    · subst hw; exact keep_alloc _ _ _
    · subst hw
      refine .inr ⟨w.heap.size, n, D, f, rfl, hc5 _ rfl, ⟨es, clock, (MapKept.heap_alloc w _).1, F, hs, hD⟩, h4, h5, h6, fun q => ?_⟩
      rcases h7 q with h8 | ⟨g, off, cap, e1, e2, e3, e4, e5⟩
      · exact .inl h8
      · refine .inr ⟨g, off, cap, e1, hc6 g e3 e2, Nat.lt_of_lt_of_le e3 (keep_alloc (fun _ => False) w (.map es clock)).size, e4, fun j hj => ?_⟩
        have kk := keep_alloc (fun _ => False) w (.map es clock)
        rw [kk.cell e3 (fun h => h), kk.cell e3 (fun h => h), kk.cell e3 (fun h => h)]
        exact e5 j hj
/-- the waits are copied -/
theorem wclone_any (v : Value) (ws : List Chg) (w : World) (h : w.ownsRow 0 86 5 v ws.length (chs ws)) (hn : ws = [] → v = .slice none 0 0) (hl : ws.length ≤ 70368744177) :
    Calls Try.prog 57 #[v] w fun e w' => ∃ ad c', e = .returned (.slice ad ws.length c') ∧ w'.ownsRow w.heap.size 86 5 (.slice ad ws.length c') ws.length (chs ws) ∧ (ws = [] → (Value.slice ad ws.length c') = .slice none 0 0) ∧ Keep (fun _ => False) w w' := by
  by_cases hw : ws = []
  · subst hw
    rw [hn rfl]
    refine (wclone_none w).mono fun e w' ⟨he, hw⟩ => ⟨none, 0, he, ⟨rfl, .inl ⟨rfl, rfl⟩⟩, fun _ => rfl, ?_⟩
    subst hw; exact Keep.refl _ _
  · have h9 := h
    rcases h.2 with ⟨_, h0⟩ | ⟨g, cap, cur, rfl, _⟩
    · exact absurd (List.length_eq_zero_iff.1 h0) hw
    · refine (wclone_some g cap ws w h9 hl).mono fun e w' ⟨v', he, hr, hk⟩ => ?_
      obtain ⟨ad, c', rfl⟩ := row_form hr
      exact ⟨ad, c', he, hr, fun e => absurd e hw, hk⟩
/-- the copy's colors -/
def clC (c : Nat → Nat) (n p2 : Nat) (mo1 mo2 : Option Nat) (v3 : Value) (fm : Option Nat) (k : Nat) : Nat :=
  if k < n then (if c k = 6 then 6 else 7) else if k = p2 then 0 else if mo1 = some k then 1 else if mo2 = some k then 2 else if v3.ownBlock = some k then 4 else if fm = some k then 5 else 3
/-- what the copy is made of -/
theorem clone_is {w w1 w2 w3 w4 W : World} {c : Nat → Nat} {p : Nat} {R : Raw} {d : Ds} (h : DiskR w c p R d) {mo1 mo2 fm : Option Nat} {L1 L2 : List (Bs × FV)} {v3 : Value}
    (hs : w.heap.size + 1 ≤ w1.heap.size) (hs2 : w1.heap.size ≤ w2.heap.size) (hs3 : w2.heap.size ≤ w3.heap.size) (hs4 : w3.heap.size ≤ w4.heap.size)
    (f1 : FrF W (w.heap.size + 1) mo1 L1) (f1l : ∀ x ∈ L1, ∀ g, x.2.1.ownBlock = some g → g < w1.heap.size) (m1l : ∀ b, mo1 = some b → b < w1.heap.size)
    (f2 : FrF W w1.heap.size mo2 L2) (f2l : ∀ x ∈ L2, ∀ g, x.2.1.ownBlock = some g → g < w2.heap.size) (m2l : ∀ b, mo2 = some b → b < w2.heap.size)
    (r3 : W.ownsRow 0 86 5 v3 d.ws.length (chs d.ws)) (v3g : ∀ g, v3.ownBlock = some g → w2.heap.size ≤ g ∧ g < w3.heap.size) (v3n : d.ws = [] → v3 = .slice none 0 0)
    (fmg : ∀ b, fm = some b → w3.heap.size ≤ b)
    (hF : ∀ c' : Nat → Nat, c' w.heap.size = 0 → (∀ b, fm = some b → c' b = 5) → (∀ g, g < w3.heap.size → c g = 6 → g < w.heap.size → c' g = 6) → FallIs W c' fm d.fl)
    (t1 : txts L1 = txts R.N) (t2 : txts L2 = txts R.SL)
    (hr : RowIs W w.heap.size (Raw.cs ⟨mo1, mo2, L1, L2, v3, fm⟩ d) 73) :
    ∃ c2, DiskIs W c2 w.heap.size d ∧ ∀ k, k < w.heap.size → c2 k = if c k = 6 then 6 else 7 := by
  have q1 : ∀ g, w.heap.size + 1 ≤ g → g < w1.heap.size → mo1 ≠ some g → clC c w.heap.size w.heap.size mo1 mo2 v3 fm g = 3 := fun g h1 h2 h3 => by
    unfold clC
    rw [if_neg (by omega), if_neg (by omega), if_neg h3, if_neg (fun e => by have := f2.mge g e; omega), if_neg (fun e => by have := v3g g e; omega), if_neg (fun e => by have := fmg g e; omega)]
  have q2 : ∀ g, w1.heap.size ≤ g → g < w2.heap.size → mo2 ≠ some g → clC c w.heap.size w.heap.size mo1 mo2 v3 fm g = 3 := fun g h1 h2 h3 => by
    unfold clC
    rw [if_neg (by omega), if_neg (by omega), if_neg (fun e => by have := m1l g e; omega), if_neg h3, if_neg (fun e => by have := v3g g e; omega), if_neg (fun e => by have := fmg g e; omega)]
  have ap : ∀ x ∈ L1, ∀ y ∈ L2, ∀ g, x.2.1.ownBlock = some g → y.2.1.ownBlock ≠ some g := fun x hx y hy g e e2 => by
    have h1 := f1l x hx g e
    have h2 := (f2.ge y hy g e2).1
    omega
  refine ⟨clC c w.heap.size w.heap.size mo1 mo2 v3 fm, ⟨⟨mo1, mo2, L1, L2, v3, fm⟩, hr, ?_, ⟨f1.map, fun b e => ?_, f1.row, fun x hx g e => q1 g (f1.ge x hx g e).1 (f1l x hx g e) (f1.ge x hx g e).2.2, f1.apart, f1.srt⟩, ⟨f2.map, fun b e => ?_, f2.row, fun x hx g e => q2 g (f2.ge x hx g e).1 (f2l x hx g e) (f2.ge x hx g e).2.2, f2.apart, f2.srt⟩, t2.trans h.eS, t1.trans h.eN, fun y hy x hx => apart_fits (fun g e => ap x hx y hy g e), r3, fun g e => ?_, hF _ ?_ (fun b e => ?_) (fun g hg h6 hgw => ?_), fun m hm => ?_, h.oks, v3n, fun y hy _ x hx _ g e => ap x hx y hy g e⟩, fun k hk => if_pos hk⟩
  · unfold clC; rw [if_neg (by omega), if_pos rfl]
  · have := f1.mge b e
    unfold clC; rw [if_neg (by omega), if_neg (by omega), if_pos e]
  · have h9 := f2.mge b e
    unfold clC; rw [if_neg (by omega), if_neg (by omega), if_neg (fun e2 => by have := m1l b e2; omega), if_pos e]
  · have h9 := v3g g e
    unfold clC; rw [if_neg (by omega), if_neg (by omega), if_neg (fun e2 => by have := m1l g e2; omega), if_neg (fun e2 => by have := m2l g e2; omega), if_pos e]
  · unfold clC; rw [if_neg (by omega), if_pos rfl]
  · have h9 := fmg b e
    unfold clC; rw [if_neg (by omega), if_neg (by omega), if_neg (fun e2 => by have := m1l b e2; omega), if_neg (fun e2 => by have := m2l b e2; omega), if_neg (fun e2 => by have := v3g b e2; omega), if_pos e]
  · unfold clC; rw [if_pos hgw, if_pos h6]
  · show kget (txts L1) m = kget (txts L2) m
    rw [t1, t2]; exact h.unt m hm
end Go.Proofs.Ytnlodlpjokkepab
namespace Go.Proofs.Ytnlodlpjokkepab
open Go.RowKit Go.Maps
set_option linter.unusedVariables false
set_option linter.unusedSimpArgs false

set_option maxRecDepth 100000 in
set_option maxHeartbeats 4000000 in
theorem dclone_any (p : Nat) (c : Nat → Nat) (d : Ds) (w : World) (h : DiskIs w c p d) (hM : d.wt + d.S.length + d.ws.length ≤ 70368744177) :
    Calls Try.prog 36 #[.pointer (some ⟨p, 0, none⟩)] w fun e w' => e = .returned (.pointer (some ⟨w.heap.size, 0, none⟩)) ∧ Keep (fun _ => False) w w' ∧ ∃ c2, DiskIs w' c2 w.heap.size d ∧ ∀ k, k < w.heap.size → c2 k = if c k = 6 then 6 else 7 := by
  obtain ⟨R, h⟩ := h
  have hp := h.row.lt
  have hS : Srt d.S := by rw [← h.eS]; exact srt_txts.2 h.sure.srt
  have hmv : ∀ x ∈ d.ws, x.kind = 2 → x.to ≠ x.name := fun x hm => by obtain ⟨i, hi, rfl⟩ := List.getElem_of_mem hm; exact (h.oks i hi).move
  have hb := replay_bounds d.ws d.S hS hmv
  have hwt : d.wt = tot d.S + (d.ws.map fun ch => ch.s.length).sum := rfl
  have hlN : R.N.length ≤ 70368744177 := by
    have : R.N.length = (replay d.ws d.S).length := by have := congrArg List.length h.eN; simpa [txts, Ds.now] using this
    omega
  have hlS : R.SL.length ≤ 70368744177 := by
    have : R.SL.length = d.S.length := by have := congrArg List.length h.eS; simpa [txts] using this
    omega
  have htN : ∀ x ∈ R.N, x.2.2.length ≤ 70368744177 := fun x hx => by
    have h1 := srt_mem (srt_txts.2 h.now.srt) (mem_txts hx)
    have h2 := tot_get h1
    rw [h.eN] at h2
    have h3 : tot d.now = tot (replay d.ws d.S) := rfl
    omega
  have htS : ∀ x ∈ R.SL, x.2.2.length ≤ 70368744177 := fun x hx => by
    have h1 := srt_mem (srt_txts.2 h.sure.srt) (mem_txts hx)
    have h2 := tot_get h1
    rw [h.eS] at h2
    omega
  obtain ⟨wad, wcp, hwv⟩ := row_form h.wrow
  have A1 : Hid (∀ W, Keep (fun _ => False) w W → Calls Try.prog 56 #[.pointer (some ⟨p, 0, none⟩)] W fun e w' => ∃ mo' L', e = .returned (.agg #[.map mo', .int .i64 (tot (txts R.N))]) ∧ txts L' = txts R.N ∧ FrF w' W.heap.size mo' L' ∧ Keep (fun _ => False) W w') := fun W hW => apart_fr p 0 (R.cs d) _ R.nmo _ R.N c 1 W (h.row.keep hW (fun h => h)) rfl rfl (h.now.keep' hW (fun _ _ => rfl) (fun _ _ h => h.elim)) hlN htN
  have A2 : Hid (∀ W, Keep (fun _ => False) w W → Calls Try.prog 56 #[.pointer (some ⟨p, 2, none⟩)] W fun e w' => ∃ mo' L', e = .returned (.agg #[.map mo', .int .i64 (tot (txts R.SL))]) ∧ txts L' = txts R.SL ∧ FrF w' W.heap.size mo' L' ∧ Keep (fun _ => False) W w') := fun W hW => apart_fr p 2 (R.cs d) _ R.smo _ R.SL c 2 W (h.row.keep hW (fun h => h)) rfl rfl (h.sure.keep' hW (fun _ _ => rfl) (fun _ _ h => h.elim)) hlS htS
  have A3 : Hid (∀ W, Keep (fun _ => False) w W → Calls Try.prog 57 #[R.wv] W fun e w' => ∃ ad c', e = .returned (.slice ad d.ws.length c') ∧ w'.ownsRow W.heap.size 86 5 (.slice ad d.ws.length c') d.ws.length (chs d.ws) ∧ (d.ws = [] → (Value.slice ad d.ws.length c') = .slice none 0 0) ∧ Keep (fun _ => False) W w') := fun W hW => wclone_any R.wv d.ws W (hW.ownsRow h.wrow (fun _ _ h => h)) h.wnil (by omega)
  have A4 := hid (fun (W : World) (hW : Keep (fun _ => False) w W) => fclone_any R.fm d.fl (fun k => if k < w.heap.size then c k else 7) W (h.fall.keep hW (fun k hk => if_pos hk) (fun _ _ h => h.elim)))
  have RK : Hid (∀ W, Keep (fun _ => False) w W → RowIs W p (R.cs d) 73) := fun W hW => h.row.keep hW (fun h => h)
  have hne : p ≠ w.heap.size := by omega
  have H := hid h
  have hcs : R.cs d = [.map R.nmo, .int .i64 (tot (txts R.N) : Nat), .map R.smo, .int .i64 (tot (txts R.SL) : Nat), R.wv, .int .i64 d.n, .map R.fm, .bool d.bd, .int .i64 d.rm, .bool d.dn] := rfl
  have hr0 : RowIs w p [.map R.nmo, .int .i64 (tot (txts R.N) : Nat), .map R.smo, .int .i64 (tot (txts R.SL) : Nat), R.wv, .int .i64 d.n, .map R.fm, .bool d.bd, .int .i64 d.rm, .bool d.dn] 73 := h.row
  rw [hwv] at A3 hr0
  have c0 := hr0.cellAt (o := 0) rfl
  have c1 := hr0.cellAt (o := 1) rfl
  have c2 := hr0.cellAt (o := 2) rfl
  have c3 := hr0.cellAt (o := 3) rfl
  have c4 := hr0.cellAt (o := 4) rfl
  have c5 := hr0.cellAt (o := 5) rfl
  have c6 := hr0.cellAt (o := 6) rfl
  have c7 := hr0.cellAt (o := 7) rfl
  have c8 := hr0.cellAt (o := 8) rfl
  have c9 := hr0.cellAt (o := 9) rfl
  clear h hS hmv hb hwt hlN hlS htN htS hM
  go_enter Try.func36, Try.ntmps36
  go_wp2_with fail
  refine (A1.out _ (keep_alloc _ _ _)).mono ?_
  rintro e w1 ⟨mo1, L1, rfl, t1, f1, k1⟩
  have hsz0 : (w.alloc (.cells #[.map R.nmo, .int .i64 (tot (txts R.N) : Nat), .map R.smo, .int .i64 (tot (txts R.SL) : Nat), .slice wad d.ws.length wcp, .int .i64 d.n, .map R.fm, .bool d.bd, .int .i64 d.rm, .bool d.dn] 73)).heap.size = w.heap.size + 1 := by simp
  rw [hsz0] at f1
  have kw1 : Keep (fun _ => False) w w1 := (keep_alloc _ _ _).trans k1
  have hp2 : RowIs w1 w.heap.size [.map R.nmo, .int .i64 (tot (txts R.N) : Nat), .map R.smo, .int .i64 (tot (txts R.SL) : Nat), .slice wad d.ws.length wcp, .int .i64 d.n, .map R.fm, .bool d.bd, .int .i64 d.rm, .bool d.dn] 73 := RowIs.keep (heap_alloc_new _ _) k1 (fun h => h)
  have hs1 : w.heap.size + 1 ≤ w1.heap.size := by have := k1.size; omega
  clear A1 k1 hsz0 c0 c1 c2 c3 c4 c5 c6 c7 c8 c9 hr0 hcs
  have d0 := hp2.cellAt (o := 0) rfl
  have d1 := hp2.cellAt (o := 1) rfl
  have e0 := hp2.frozen (o := 0)
  have e1 := hp2.frozen (o := 1)
  have kx : Keep (fun j => j = w.heap.size) w1 ((w1.setCell ⟨w.heap.size, 0, none⟩ (.map mo1)).setCell ⟨w.heap.size, 1, none⟩ (.int .i64 (tot (txts R.N) : Nat))) := (keep_setCell _ _ _ _).trans (keep_setCell _ _ _ _)
  have hx := (hp2.set 0 (.map mo1)).set 1 (.int .i64 (tot (txts R.N) : Nat))
  have HX1 := hid hx
  have HKX1 := hid kx
  have HF1 := hid f1
  have HT1 := hid t1
  have HS1 := hid hs1
  have HW1 : Hid (Keep (fun _ => False) w ((w1.setCell ⟨w.heap.size, 0, none⟩ (.map mo1)).setCell ⟨w.heap.size, 1, none⟩ (.int .i64 (tot (txts R.N) : Nat)))) := kw1.then kx (fun j hj e => by omega)
  have B2 := hid (A2.out _ HW1.out)
  clear A2 hp2 f1 t1 hs1 kw1 kx hx
  go_wp2_with fail
  refine B2.out.mono ?_
  rintro e w2 ⟨mo2, L2, rfl, t2, f2, k2⟩
  generalize (w1.setCell ⟨w.heap.size, 0, none⟩ (.map mo1)).setCell ⟨w.heap.size, 1, none⟩ (.int .i64 (tot (txts R.N) : Nat)) = w1x at *
  have hp2 := HX1.out.keep k2 (fun h => h)
  clear d0 d1 e0 e1 B2 HX1
  have d2 := hp2.cellAt (o := 2) rfl
  have d3 := hp2.cellAt (o := 3) rfl
  have e2 := hp2.frozen (o := 2)
  have e3 := hp2.frozen (o := 3)
  have kx : Keep (fun j => j = w.heap.size) w2 ((w2.setCell ⟨w.heap.size, 2, none⟩ (.map mo2)).setCell ⟨w.heap.size, 3, none⟩ (.int .i64 (tot (txts R.SL) : Nat))) := (keep_setCell _ _ _ _).trans (keep_setCell _ _ _ _)
  have HX2 := hid ((hp2.set 2 (.map mo2)).set 3 (.int .i64 (tot (txts R.SL) : Nat)))
  have HK2 := hid k2
  have HKX2 := hid kx
  have HF2 := hid f2
  have HT2 := hid t2
  have HW2 : Hid (Keep (fun _ => False) w ((w2.setCell ⟨w.heap.size, 2, none⟩ (.map mo2)).setCell ⟨w.heap.size, 3, none⟩ (.int .i64 (tot (txts R.SL) : Nat)))) := (HW1.out.trans k2).then kx (fun j hj e => by omega)
  have B3 := hid (A3.out _ HW2.out)
  have g4 := (RK.out _ HW2.out).cellAt (o := 4) (v := .slice wad d.ws.length wcp) (by rw [← hwv]; rfl)
  clear A3 hp2 f2 t2 k2 kx
  go_wp2_with fail
  refine B3.out.mono ?_
  rintro e w3 ⟨ad3, cp3, rfl, r3, n3, k3⟩
  generalize (w2.setCell ⟨w.heap.size, 2, none⟩ (.map mo2)).setCell ⟨w.heap.size, 3, none⟩ (.int .i64 (tot (txts R.SL) : Nat)) = w2x at *
  have hp2 := HX2.out.keep k3 (fun h => h)
  clear d2 d3 e2 e3 B3 HX2 g4
  have d4 := hp2.cellAt (o := 4) rfl
  have e4 := hp2.frozen (o := 4)
  have kx := keep_setCell w3 w.heap.size 4 (.slice ad3 d.ws.length cp3)
  have HX3 := hid (hp2.set 4 (.slice ad3 d.ws.length cp3))
  have HK3 := hid k3
  have HKX3 := hid kx
  have HR3 := hid r3
  have HN3 := hid n3
  have HW3 : Hid (Keep (fun _ => False) w (w3.setCell ⟨w.heap.size, 4, none⟩ (.slice ad3 d.ws.length cp3))) := (HW2.out.trans k3).then kx (fun j hj e => by omega)
  have B4 := hid (A4.out _ HW3.out)
  have g6 := (RK.out _ HW3.out).cellAt (o := 6) (v := .map R.fm) rfl
  clear A4 hp2 r3 n3 k3 kx
  go_wp2_with fail
  refine B4.out.mono ?_
  rintro e w4 ⟨fm4, rfl, n4, k4, f4⟩
  generalize w3.setCell ⟨w.heap.size, 4, none⟩ (.slice ad3 d.ws.length cp3) = w3x at *
  have hp2 := HX3.out.keep k4 (fun h => h)
  clear d4 e4 B4 HX3 g6
  have d6 := hp2.cellAt (o := 6) rfl
  have e6 := hp2.frozen (o := 6)
  have kx := keep_setCell w4 w.heap.size 6 (.map fm4)
  have HX4 := hid (hp2.set 6 (.map fm4))
  have HK4 := hid k4
  have HKX4 := hid kx
  have HN4 := hid n4
  have HF4 := hid f4
  have HW4 : Hid (Keep (fun _ => False) w (w4.setCell ⟨w.heap.size, 6, none⟩ (.map fm4))) := (HW3.out.trans k4).then kx (fun j hj e => by omega)
  clear hp2 n4 k4 f4 kx
  go_wp2
  go_ret
  refine ⟨rfl, HW4.out, ?_⟩
  have s1 := HS1.out
  have x1 := HKX1.out.size
  have x2 := HKX2.out.size
  have x3 := HKX3.out.size
  have y2 := HK2.out.size
  have y3 := HK3.out.size
  have y4 := HK4.out.size
  have K4 : Keep (fun j => j = w.heap.size) w3x (w4.setCell ⟨w.heap.size, 6, none⟩ (.map fm4)) := (HK4.out.mono (fun _ _ h => h.elim)).trans HKX4.out
  have K3 : Keep (fun j => j = w.heap.size) w3 (w4.setCell ⟨w.heap.size, 6, none⟩ (.map fm4)) := HKX3.out.trans K4
  have K2 : Keep (fun j => j = w.heap.size) w2 (w4.setCell ⟨w.heap.size, 6, none⟩ (.map fm4)) := HKX2.out.trans ((HK3.out.mono (fun _ _ h => h.elim)).trans K3)
  have K1 : Keep (fun j => j = w.heap.size) w1 (w4.setCell ⟨w.heap.size, 6, none⟩ (.map fm4)) := HKX1.out.trans ((HK2.out.mono (fun _ _ h => h.elim)).trans K2)
  have hrb : ∀ g, (Value.slice ad3 d.ws.length cp3).ownBlock = some g → w2x.heap.size ≤ g ∧ g < w3.heap.size := fun g e => by
    refine ⟨?_, ownsRow_lt HR3.out e⟩
    rcases HR3.out.2 with ⟨e9, _⟩ | ⟨g', cap, cur, e9, hg', _⟩
    · rw [e9] at e; simp [Value.ownBlock] at e
    · rw [e9] at e
      have := Option.some.inj (show some g' = some g from e)
      omega
  refine clone_is (w1 := w1x) (w2 := w2x) (w3 := w3x) (w4 := w4) (mo1 := mo1) (mo2 := mo2) (fm := fm4) (L1 := L1) (L2 := L2) (v3 := .slice ad3 d.ws.length cp3) H.out (by omega) (by omega) (by omega) y4
    (HF1.out.keep K1 (fun j hj _ e => by omega)) (fun x hx g e => by have := (HF1.out.ge x hx g e).2.1; omega) (fun b e => by have := (HF1.out.mge b e).2; omega)
    (HF2.out.keep K2 (fun j hj _ e => by omega)) (fun x hx g e => by have := (HF2.out.ge x hx g e).2.1; omega) (fun b e => by have := (HF2.out.mge b e).2; omega)
    (K3.ownsRow (ownsRow_base HR3.out (Nat.zero_le _)) (fun g e e2 => by have := hrb g e; omega)) (fun g e => by have := hrb g e; omega) HN3.out (fun b e => by have := (HN4.out b e).1; omega) (fun c' h0 h5 h6 => ?_) HT1.out HT2.out ?_
  · refine (HF4.out c' h5 (fun g hg h7 => ?_)).keep HKX4.out (fun _ _ => rfl) (fun j _ e => by rw [e, h0]; decide)
    have h7' : (if g < w.heap.size then c g else 7) = 6 := h7
    by_cases hgw : g < w.heap.size
    · rw [if_pos hgw] at h7'; exact h6 g hg h7' hgw
    · rw [if_neg hgw] at h7'; cases h7'
  · have e9 := HX4.out
    unfold Raw.cs dC
    simp only [HT1.out, HT2.out]
    exact e9
end Go.Proofs.Ytnlodlpjokkepab
