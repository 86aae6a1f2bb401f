/- The document's items: the item of a key. -/
import Derived.Test.YtimdnddplhkdlaaNmE
import Derived.Laws.ResultCell
namespace Go.Proofs.Ytimdnddplhkdlaa
open Go.RowKit Go.Shelf Go.Maps
set_option linter.unusedVariables false
set_option linter.unusedSimpArgs false

theorem ret_ct {fn : Func} {p u : Tmp} {ty : TypeId} (h : fn.results = #[.cell p ty, .tmp u]) (tmps : Array Value) (w : World) (g : Nat) (cs : Array Value) (x : Value)
    (hp : tmps.getD p undef = .pointer (some ⟨g, 0, none⟩)) (hx : tmps.getD u undef = x) (hg : (loadVar ty ⟨g, 0, none⟩).run Try.prog w = .ok (.agg cs) w) :
    (results fn tmps).run Try.prog w = .ok (.tuple #[.agg cs, x]) w := by
  rw [results_cell_tmp h, hp, hx]
  simp [asAddr, hg, Result.andThen]
theorem ext_list (k : Bs) (a b : Nat) : ((tb k).extract a b).toList = (k.drop a).take (b - a) := by
  rw [Lib.extract_toList, tb_list]
/-- a box of the reference's item, just made -/
theorem box38 (w : World) (X : ByteArray) (F : Bool) : RowIs (w.alloc (.cells #[.string X, .bool F] 38)) w.heap.size [.string X, .bool F] 38 ∧ Keep (fun _ => False) w (w.alloc (.cells #[.string X, .bool F] 38)) :=
  ⟨heap_alloc_new _ _, keep_alloc _ _ _⟩
theorem pre_take {p k : Bs} (h : p.length ≤ k.length) : ((k.take p.length) == p) = p.isPrefixOf k := by
  rw [Bool.eq_iff_iff, List.isPrefixOf_iff_prefix, beq_iff_eq, List.prefix_iff_eq_take]
  exact eq_comm
set_option maxRecDepth 100000 in
set_option maxHeartbeats 2000000 in
theorem rof_no (p d k : Bs) (w : World) (hp : p.isPrefixOf k = false) (hk : k.length ≤ 1048576) (hpl : p.length ≤ 140737488355328) : Calls Try.prog 30 #[.string (tb k), .string (tb p), .string (tb d)] w fun e w' => e = .returned (.tuple #[.agg #[.string ⟨#[]⟩, .bool false], .bool false]) ∧ Keep (fun _ => False) w w' := by
  have HB := hid (box38 w ⟨#[]⟩ false)
  have hKs : (tb k).size = k.length := tb_size k
  have hPs : (tb p).size = p.length := tb_size p
  by_cases hlen : k.length < p.length
  · have h1 : ((tb k).size : Int) < ((tb p).size : Int) := by omega
    clear hKs hPs hk hpl hlen
    generalize tb k = K at *
    generalize tb p = P at *
    generalize tb d = D at *
    go_enter Try.func30, Try.ntmps30
    go_wp2
    refine bodyPost_ret (v := .tuple #[.agg #[.string ⟨#[]⟩, .bool false], .bool false]) (ret_ct (p := 6) (u := 7) rfl _ _ w.heap.size _ _ rfl rfl (run_loadVar_row _ _ _ _ _ _ _ HB.out.1 Try.underlying38 rfl (by kernel_rfl))) rfl ⟨rfl, HB.out.2⟩
  · have h1 : decide (((tb k).size : Int) < ((tb p).size : Int)) = false := decide_eq_false (by omega)
    have h2 : ((tb p).size : Int) ≤ ((tb k).size : Int) := by omega
    have h3 : (tb p).size ≤ (tb k).size := by omega
    have hx : ∃ X, (tb k).extract 0 (tb p).size = X ∧ (X.toList == (tb p).toList) = false := by
      refine ⟨_, rfl, ?_⟩
      rw [ext_list, tb_toList, hPs, List.drop_zero, Nat.sub_zero]
      have := pre_take (p := p) (k := k) (by omega)
      rw [hp] at this
      exact this
    obtain ⟨X, hX, hne⟩ := hx
    clear hKs hPs hk hpl hlen
    generalize tb k = K at *
    generalize tb p = P at *
    generalize tb d = D at *
    go_enter Try.func30, Try.ntmps30
    go_wp2
    refine bodyPost_ret (v := .tuple #[.agg #[.string ⟨#[]⟩, .bool false], .bool false]) (ret_ct (p := 6) (u := 7) rfl _ _ w.heap.size _ _ rfl rfl (run_loadVar_row _ _ _ _ _ _ _ HB.out.1 Try.underlying38 rfl (by kernel_rfl))) rfl ⟨rfl, HB.out.2⟩
set_option maxRecDepth 100000 in
set_option maxHeartbeats 4000000 in
theorem rof_yes (p d k : Bs) (w : World) (hp : p.isPrefixOf k = true) (hk : k.length ≤ 1048576) (hdl : d.length ≤ 140737488355328) : Calls Try.prog 30 #[.string (tb k), .string (tb p), .string (tb d)] w fun e w' => e = .returned (.tuple #[.agg #[.string (tb (itK p d k).1), .bool (itK p d k).2], .bool true]) ∧ Keep (fun _ => False) w w' := by
  have hKs : (tb k).size = k.length := tb_size k
  have hPs : (tb p).size = p.length := tb_size p
  have hDs : (tb d).size = d.length := tb_size d
  have hpk : p.length ≤ k.length := by rw [List.isPrefixOf_iff_prefix] at hp; exact hp.length_le
  have h1 : decide (((tb k).size : Int) < ((tb p).size : Int)) = false := decide_eq_false (by omega)
  have h1n : ¬ (tb k).size < (tb p).size := by omega
  have h2 : ((tb p).size : Int) ≤ ((tb k).size : Int) := by omega
  have h3 : (tb p).size ≤ (tb k).size := by omega
  have hx : ∃ X, (tb k).extract 0 (tb p).size = X ∧ (X.toList == (tb p).toList) = true := by
    refine ⟨_, rfl, ?_⟩
    rw [ext_list, tb_toList, hPs, List.drop_zero, Nat.sub_zero]
    have := pre_take (p := p) (k := k) (by omega)
    rw [hp] at this
    exact this
  obtain ⟨X, hX, heq⟩ := hx
  have HLD : Hid ((k.drop p.length).length = (tb k).size - (tb p).size) := by show _ = _; rw [List.length_drop, hKs, hPs]
  have HEX : Hid (∀ j, j + (tb d).size ≤ (k.drop p.length).length → (((tb k).extract ((tb p).size + j) ((tb p).size + j + (tb d).size)).toList == (tb d).toList) = Lib.occAt (k.drop p.length) d j) := fun j hj => by
    show _ = _
    rw [hDs] at hj
    rw [hPs, hDs, ext_list, tb_toList, show p.length + j + d.length - (p.length + j) = d.length by omega, Lib.occAt_iff_take _ _ _ hj, List.drop_drop]
  have HHIT : Hid (∀ j, 0 < (tb d).size → Lib.NoOcc (k.drop p.length) d j → j ≤ (k.drop p.length).length → Lib.occAt (k.drop p.length) d j = true → tb (itK p d k).1 = (tb k).extract 0 ((tb p).size + j + (tb d).size) ∧ (itK p d k).2 = true) := fun j hd h1 h2 h3 => by
    have hd' : d ≠ [] := fun e => by rw [hDs, e] at hd; simp at hd
    have e := Lib.index_hit h1 h2 h3
    have e2 : itK p d k = (k.take (p.length + j + d.length), true) := by
      unfold itK hasD endD
      rw [e, decide_eq_true ⟨hd', by omega⟩]
      simp
    rw [e2, hPs, hDs]
    refine ⟨?_, rfl⟩
    apply ByteArray.ext
    simp [ByteArray.data_extract]
  have HMISS : Hid (∀ j, 0 < (tb d).size → Lib.NoOcc (k.drop p.length) d j → (k.drop p.length).length < j + (tb d).size → tb (itK p d k).1 = tb k ∧ (itK p d k).2 = false) := fun j hd h1 h2 => by
    have hd' : d ≠ [] := fun e => by rw [hDs, e] at hd; simp at hd
    rw [hDs] at h2
    have e := Lib.index_past hd' h1 h2
    unfold itK hasD
    rw [e, decide_eq_false (by omega)]
    exact ⟨rfl, rfl⟩
  have HNIL : Hid ((tb d).size = 0 → tb (itK p d k).1 = tb k ∧ (itK p d k).2 = false) := fun h => by
    have hd' : d = [] := List.length_eq_zero_iff.1 (by omega)
    unfold itK hasD
    rw [decide_eq_false (by simp [hd'])]
    exact ⟨rfl, rfl⟩
  have HN0 : Hid (Lib.NoOcc (k.drop p.length) d 0) := Lib.NoOcc.zero _ _
  have HNS := hid (fun j h1 h2 => Lib.NoOcc.succ (s := k.drop p.length) (sub := d) (i := j) h1 h2)
  have hzk : (tb k).size ≤ 1048576 := by omega
  have hzd : (tb d).size ≤ 140737488355328 := by omega
  have h3 : (tb p).size ≤ (tb k).size := by omega
  have HBX := hid (fun X F => box38 w X F)
  clear hp hKs hPs hDs hpk hk hdl
  generalize itK p d k = Y at *
  obtain ⟨Y1, Y2⟩ := Y
  simp only at HHIT HMISS HNIL ⊢
  generalize k.drop p.length = R at *
  generalize tb Y1 = YY at *
  generalize tb k = K at *
  generalize tb p = P at *
  generalize tb d = D at *
  by_cases h0 : D.size = 0
  · obtain ⟨rfl, rfl⟩ := HNIL.out h0
    have HB := hid (HBX.out YY false)
    have hd0 : decide ((0 : Int) < (D.size : Int)) = false := decide_eq_false (by omega)
    have hd1 : ¬ 0 < D.size := by omega
    clear HNIL HMISS HHIT HN0 HNS HEX HLD HBX h0
    go_enter Try.func30, Try.ntmps30
    go_wp2
    go_loopw [9] (fun i wr => i = .int .i64 (P.size : Int) ∧ wr = w.alloc (.cells #[.string ⟨#[]⟩, .bool false] 38)) (fun _ _ => 0)
    case atStart => exact ⟨rfl, rfl⟩
    case round =>
      obtain ⟨rfl, rfl⟩ := hrel
      go_wp2
      refine bodyPost_ret (v := .tuple #[.agg #[.string YY, .bool false], .bool true]) (ret_ct (p := 6) (u := 7) rfl _ _ w.heap.size _ _ rfl rfl (run_loadVar_row _ _ _ _ _ _ _ HB.out.1 Try.underlying38 rfl (by kernel_rfl))) rfl ⟨rfl, HB.out.2⟩
  · have hd0 : (0 : Int) < (D.size : Int) := by omega
    have hdp : 0 < D.size := by omega
    clear HNIL h0
    go_enter Try.func30, Try.ntmps30
    go_wp2
    go_loopw [9] (fun i wr => ∃ j : Nat, P.size + j ≤ K.size ∧ i = .int .i64 ((P.size + j : Nat) : Int) ∧ wr = w.alloc (.cells #[.string ⟨#[]⟩, .bool false] 38) ∧ Hid (Lib.NoOcc R d j)) (fun i _ => K.size - (intOf i).toNat)
    case atStart => exact ⟨0, by omega, rfl, rfl, HN0⟩
    case round =>
      clear HN0
      obtain ⟨j, hj, rfl, rfl, HN⟩ := hrel
      have HLR := HLD.out
      have HJR : Hid (R.length + P.size = K.size) := by show _ = _; omega
      have hexj := hid (fun h => HEX.out j h)
      have hhit := hid (fun h1 h2 h3 => HHIT.out j h1 h2 h3)
      have hmiss := hid (fun h1 h2 h3 => HMISS.out j h1 h2 h3)
      clear HMISS HHIT HEX HLD HLR
      generalize hI : P.size + j = I at *
      have HI := hid hI
      clear hI
      have hI0 : (0 : Int) ≤ (I : Int) := by omega
      by_cases hlt : I + D.size ≤ K.size
      · have hjr : j + D.size ≤ R.length := by have := HI.out; have := HJR.out; omega
        have hl1 : (I : Int) + (D.size : Int) ≤ (K.size : Int) := by omega
        have hl2 : (I : Int) ≤ (I : Int) + (D.size : Int) := by omega
        have hex := hexj.out hjr
        cases ho : Lib.occAt R d j with
        | true =>
          obtain ⟨e1, e2⟩ := hhit.out hdp HN.out (by omega) ho
          subst e2
          have HB := hid (HBX.out YY true)
          rw [ho] at hex
          clear hmiss hhit HNS hexj HBX HN HJR ho hjr HI
          generalize hE : K.extract 0 (I + D.size) = KE at *
          subst e1
          go_wp2
          refine bodyPost_ret (v := .tuple #[.agg #[.string YY, .bool true], .bool true]) (ret_ct (p := 6) (u := 7) rfl _ _ w.heap.size _ _ rfl rfl (run_loadVar_row _ _ _ _ _ _ _ HB.out.1 Try.underlying38 rfl (by kernel_rfl))) rfl ⟨rfl, HB.out.2⟩
        | false =>
          have HN2 := hid (HNS.out j HN.out ho)
          have hlt2 : I < K.size := by omega
          rw [ho] at hex
          clear hmiss hhit HNS hexj HBX HN ho HJR hjr
          go_wp2
          exact ⟨⟨j + 1, by have := HI.out; omega, by have := HI.out; go_num, trivial, HN2⟩, by simp [intOf]; omega⟩
      · have hjr : R.length < j + D.size := by have := HI.out; have := HJR.out; omega
        obtain ⟨e1, e2⟩ := hmiss.out hdp HN.out hjr
        subst e1 e2
        have HB := hid (HBX.out YY false)
        have hl1 : decide ((I : Int) + (D.size : Int) ≤ (YY.size : Int)) = false := decide_eq_false (by omega)
        have hl2 : ¬ (I : Int) + (D.size : Int) ≤ (YY.size : Int) := by omega
        clear hmiss hhit HNS hexj HBX HN HJR hjr HI
        go_wp2
        refine bodyPost_ret (v := .tuple #[.agg #[.string YY, .bool false], .bool true]) (ret_ct (p := 6) (u := 7) rfl _ _ w.heap.size _ _ rfl rfl (run_loadVar_row _ _ _ _ _ _ _ HB.out.1 Try.underlying38 rfl (by kernel_rfl))) rfl ⟨rfl, HB.out.2⟩
end Go.Proofs.Ytimdnddplhkdlaa
