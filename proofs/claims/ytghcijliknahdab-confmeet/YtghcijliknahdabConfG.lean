/- The configuration of a number's bits; ways from one configuration to another. -/
import Derived.Test.YtghcijliknahdabConfE
import Derived.Laws.Bits128
import Derived.Lib.RabinKarpLaws
namespace Go.Proofs.Ytghcijliknahdab
open Go.RowKit Go.Maps
set_option linter.unusedVariables false
set_option linter.unusedSimpArgs false

def bitC (x : Nat) (n : Int) : Bool := (x / 2 ^ n.toNat) % 2 == 1
def allL (x : Nat) : List Int := (nodesF 7 0).filter (bitC x)
theorem allL_at (x k : Nat) (hk : k < 7) : ((nodesF 7 0).drop k).filter (bitC x) = (if bitC x (k : Int) = true then [(k : Int)] else []) ++ ((nodesF 7 0).drop (k + 1)).filter (bitC x) := by
  rw [nds_at k hk, List.filter_cons]
  split <;> rfl
theorem bit_is (x k : Nat) (hx : x < 128) : (bits BinOp.and IntKind.i64 ((x : Int) / 2 ^ k) 1 == 1) = bitC x (k : Int) := by
  have e : (x : Int) / 2 ^ k = ((x / 2 ^ k : Nat) : Int) := by simp
  have hb : x / 2 ^ k < 9223372036854775808 := Nat.lt_of_le_of_lt (Nat.div_le_self _ _) (by omega)
  rw [e, and_one _ hb]
  unfold bitC
  rw [Int.toNat_natCast]
  by_cases h : x / 2 ^ k % 2 = 1
  · rw [h]; rfl
  · have h2 : ((x / 2 ^ k % 2 : Nat) : Int) ≠ 1 := by omega
    rw [beq_eq_false_iff_ne.2 h2, beq_eq_false_iff_ne.2 h]
set_option maxRecDepth 100000 in
set_option maxHeartbeats 1000000 in
theorem all_any (x : Nat) (hx : x < 128) (w : World) : Calls Try.prog 11 #[.int .i64 (x : Int)] w fun e w' => ∃ v, e = .returned v ∧ OwnI w' w.heap.size v (allL x) ∧ Below w.heap.size w w' := by
  have HR : Hid (∃ R, R = allL x) := ⟨_, rfl⟩
  obtain ⟨R, HR⟩ := HR.out
  have HR : Hid (R = ((nodesF 7 0).drop 0).filter (bitC x)) := HR
  rw [show allL x = R from HR.out.symm]
  have HBI := hid (fun k => bit_is x k hx)
  clear hx
  go_enter Try.func11, Try.ntmps11
  go_wp2
  go_loopw [3, 4] (fun t i wr => ∃ (k : Nat) (acc : List Int) (ad : Option Addr) (cap : Nat), k ≤ 7 ∧ t = .slice ad acc.length cap ∧ i = .int .i64 (k : Int) ∧ Hid (acc.length ≤ k) ∧ Hid (OwnI wr w.heap.size (.slice ad acc.length cap) acc) ∧ Hid (Below w.heap.size w wr) ∧ Hid (R = acc ++ ((nodesF 7 0).drop k).filter (bitC x))) (fun _ i _ => 7 - (intOf i).toNat)
  case atStart => exact ⟨0, [], none, 0, by omega, rfl, rfl, Nat.le_refl _, ownI_nil _ _, Below.refl _ _, by rw [List.nil_append]; exact HR⟩
  case round =>
    clear HR
    obtain ⟨k, acc, ad, cap, hk, rfl, rfl, HA, HO, HB, HR⟩ := hrel
    by_cases hlt : k < 7
    · have hk7 : (k : Int) < 7 := by omega
      have HRA := hid (allL_at x k hlt)
      have hbi := HBI.out k
      have HA2 : Hid (acc.length + 1 ≤ k + 1) := by have := HA.out; show _ ≤ _; omega
      have HA3 : Hid (acc.length + 1 ≤ 70368744177) := by have := HA.out; show _ ≤ _; omega
      have HA4 : Hid (acc.length ≤ k + 1) := by have := HA.out; show _ ≤ _; omega
      have HNX : Hid (RowIs (wr.alloc (.cells #[.int .i64 (k : Int)] 3)) wr.heap.size [.int .i64 (k : Int)] 3) := srow wr [.int .i64 (k : Int)] 3
      have HON : Hid (OwnI (wr.alloc (.cells #[.int .i64 (k : Int)] 3)) w.heap.size (.slice ad acc.length cap) acc) := own_new HO.out _
      have HBN : Hid (Below w.heap.size w (wr.alloc (.cells #[.int .i64 (k : Int)] 3))) := HB.out.alloc HB.out.size _
      cases hq : bitC x (k : Int)
      · rw [hq] at hbi
        have HR2 : Hid (R = acc ++ ((nodesF 7 0).drop (k + 1)).filter (bitC x)) := by show _ = _; rw [HR.out, HRA.out, hq]; rfl
        clear HR HRA HA HNX HON HBN HA2 HA3 hq HBI
        go_wp2
        exact ⟨⟨k + 1, acc, ad, cap, by omega, rfl, by go_num, HA4, HO, HB, HR2⟩, by simp [intOf]; omega⟩
      · rw [hq] at hbi
        have HR2 : Hid (R = (acc ++ [(k : Int)]) ++ ((nodesF 7 0).drop (k + 1)).filter (bitC x)) := by show _ = _; rw [HR.out, HRA.out, hq, if_pos rfl, List.append_assoc]
        clear HR HRA HA HA4 HO HB hq HBI
        go_wp2_with (at_builtin; refine wpl_iapp rfl _ _ rfl w.heap.size wr.heap.size acc.length (.slice ad acc.length cap) acc (k : Int) rfl rfl rfl HON.out HBN.out.size HNX.out HA3.out ?_; intro ad' cap' w' ho' hk')
        have HO' := hid ho'
        have HB' : Hid (Below w.heap.size w w') := HBN.out.trans hk'
        clear ho' hk' HON HBN HNX
        go_wp2
        exact ⟨⟨k + 1, acc ++ [(k : Int)], ad', cap', by omega, by simp, by go_num, hid (by simpa using HA2.out), hid (by simpa using HO'.out), HB', HR2⟩, by simp [intOf]; omega⟩
    · have hk9 : k = 7 := by omega
      subst hk9
      have HR2 : Hid (acc = R) := by show _ = _; rw [HR.out]; simp [nodesF]
      clear HR HA HBI
      go_wp2
      go_ret
      rw [← HR2.out]
      exact ⟨_, rfl, HO.out, HB.out⟩
def addR (l : List Int) (n : Int) : Bool := !areM l || hasI n l || (nearC l (addL l n) && areM (addL l n))
def dropR (l : List Int) (n : Int) : Bool := !areM l || !hasI n l || decide (l.length = 1) || (nearC (dropL l n) l && areM (dropL l n))
def canR (l : List Int) : Bool := !areM l || (l == (nodesF 7 0).filter (fun x => hasI x l))
set_option maxRecDepth 1000000 in
set_option maxHeartbeats 4000000 in
theorem reach_all : ((subsC 7).all fun l => canR l && (nodesF 7 0).all fun n => addR l n && dropR l n) = true := by decide +kernel
set_option maxRecDepth 1000000 in
set_option maxHeartbeats 4000000 in
theorem all_all : ((List.range 128).all fun x => areM (allL x) || (allL x == [])) = true := by decide +kernel
theorem allL_areM {x : Nat} (hx : x < 128) (h : (allL x).length ≠ 0) : areM (allL x) = true := by
  have h1 := List.all_eq_true.1 all_all x (List.mem_range.2 hx)
  rw [Bool.or_eq_true] at h1
  rcases h1 with h1 | h1
  · exact h1
  · rw [beq_iff_eq.1 h1] at h; exact absurd rfl h
theorem reach_at {l : List Int} (h : areM l = true) : l = (nodesF 7 0).filter (fun x => hasI x l) ∧ ∀ n, n ∈ nodesF 7 0 → (hasI n l = false → nearC l (addL l n) = true ∧ areM (addL l n) = true) ∧ (hasI n l = true → ¬ l.length = 1 → nearC (dropL l n) l = true ∧ areM (dropL l n) = true) := by
  have h1 := List.all_eq_true.1 reach_all l (areM_sub h)
  rw [Bool.and_eq_true] at h1
  refine ⟨?_, fun n hn => ?_⟩
  · have h2 := h1.1
    unfold canR at h2
    rw [h] at h2
    exact beq_iff_eq.1 (by simpa using h2)
  · have h2 := List.all_eq_true.1 h1.2 n hn
    rw [Bool.and_eq_true] at h2
    refine ⟨fun h3 => ?_, fun h3 h4 => ?_⟩
    · have h5 := h2.1
      unfold addR at h5
      rw [h, h3] at h5
      simpa using h5
    · have h5 := h2.2
      unfold dropR at h5
      rw [h, h3, decide_eq_false h4] at h5
      simpa using h5
theorem near_self (l : List Int) : nearC l l = false := by
  unfold nearC
  rw [if_neg (by omega), decide_eq_false (by omega)]
  simp
theorem hasI_filter (p : Int → Bool) (x : Int) (l : List Int) : hasI x (l.filter p) = (hasI x l && p x) := by
  induction l with
  | nil => rfl
  | cons y r ih =>
    rw [List.filter_cons]
    by_cases hxy : y = x
    · subst hxy
      cases hp : p y
      · simp [hp, ih, hasI]
      · simp [hp, hasI]
    · have hf : (y == x) = false := beq_eq_false_iff_ne.2 hxy
      cases hp : p y
      · simp [ih, hasI, hf]
      · simp [ih, hasI, hf]
theorem hasI_nds {x : Int} (h : isNd x = true) : hasI x (nodesF 7 0) = true := hasI_iff.2 (nd_mem h)
theorem hasI_add {l : List Int} {n x : Int} (h : isNd x = true) : hasI x (addL l n) = ((x == n) || hasI x l) := by
  unfold addL
  rw [hasI_filter, hasI_nds h, Bool.true_and]
theorem hasI_drop {l : List Int} {n x : Int} : hasI x (dropL l n) = (hasI x l && !(x == n)) := by
  unfold dropL
  rw [hasI_filter]
theorem nodes_nd {k : Nat} (h : k < 7) : isNd (k : Int) = true := by simp [isNd]; omega
theorem same_nodes {l m : List Int} (hl : areM l = true) (hm : areM m = true) (h : ∀ k : Nat, k < 7 → hasI (k : Int) l = hasI (k : Int) m) : l = m := by
  rw [(reach_at hl).1, (reach_at hm).1]
  refine List.filter_congr fun x hx => ?_
  have : x = 0 ∨ x = 1 ∨ x = 2 ∨ x = 3 ∨ x = 4 ∨ x = 5 ∨ x = 6 := by simpa [nodesF] using hx
  rcases this with rfl | rfl | rfl | rfl | rfl | rfl | rfl
  · exact h 0 (by omega)
  · exact h 1 (by omega)
  · exact h 2 (by omega)
  · exact h 3 (by omega)
  · exact h 4 (by omega)
  · exact h 5 (by omega)
  · exact h 6 (by omega)
end Go.Proofs.Ytghcijliknahdab
