/- The walk of a file's being made what it is among others. -/
import Derived.Test.YtnlodlpjokkepabAwake4
namespace Go.Proofs.Ytnlodlpjokkepab
open Go.RowKit Go.Maps
set_option linter.unusedVariables false
set_option linter.unusedSimpArgs false

section
variable {α : Type}
def takeK (L N : List (Bs × α)) (n : Bs) : List (Bs × α) := match kget N n with
  | some v => kput L n v
  | none => kdel L n
theorem takeK_get (L N : List (Bs × α)) (n m : Bs) : kget (takeK L N n) m = if m = n then kget N m else kget L m := by
  unfold takeK
  by_cases h : m = n
  · subst h
    rw [if_pos rfl]
    cases hg : kget N m with
    | some v => exact kget_put_same L m v
    | none => exact kget_del_same L m
  · rw [if_neg h]
    cases hg : kget N n with
    | some v => exact kget_put_other L v (fun e => h e.symm)
    | none => exact kget_del_other L (fun e => h e.symm)
theorem srt_takeK {L : List (Bs × α)} (h : Srt L) (N : List (Bs × α)) (n : Bs) : Srt (takeK L N n) := by
  unfold takeK
  split
  · exact srt_kput h _ _
  · exact srt_kdel h _
theorem len_takeK (L N : List (Bs × α)) (n : Bs) : (takeK L N n).length ≤ L.length + 1 := by
  unfold takeK
  split
  · exact len_kput _ _ _
  · exact Nat.le_trans (len_kdel _ _) (Nat.le_succ _)
end
theorem vals_take (L N : List (Bs × FV)) (n : Bs) : vals (takeK L N n) = takeK (vals L) (vals N) n := by
  unfold takeK
  rw [vals_get]
  cases kget N n with
  | some v => exact vals_put L n v
  | none => exact vals_del L n

/-- what 'take' leaves -/
def TakePost (pb po : Nat) (cs : List Value) (t : TypeId) (mo : Option Nat) (u : Int) (L N : List (Bs × Value)) (n : Bs) (w w' : World) : Prop :=
  ∃ mo', (mo' = mo ∨ ∃ b, mo' = some b ∧ w.heap.size ≤ b) ∧ (∀ b, mo' = some b → b ≠ pb) ∧ RowIs w' pb ((cs.set po (.map mo')).set (po + 1) (.int .i64 (wrap64 (u + (lenV ((kget N n).getD (.slice none 0 0)) - lenV ((kget L n).getD (.slice none 0 0))))))) t ∧ MapV w' mo' (takeK L N n) ∧ Keep (fun k => k = pb ∨ mo = some k) w w'
theorem wrap_add (a b : Int) : wrap64 (a + wrap64 b) = wrap64 (a + b) := by unfold wrap64; omega

set_option maxRecDepth 100000 in
set_option maxHeartbeats 1000000 in
theorem take_any (pb po : Nat) (cs : List Value) (t : TypeId) (mo : Option Nat) (u : Int) (L : List (Bs × Value)) (nmo : Option Nat) (nu : Int) (N : List (Bs × Value)) (s : ByteArray) (w : World) (hrow : RowIs w pb cs t) (h0 : cs[po]? = some (.map mo)) (h1 : cs[po + 1]? = some (.int .i64 u))
    (hm : MapV w mo L) (hN : MapV w nmo N) (hne : ∀ b, mo = some b → b ≠ pb) (hsl : ∀ x ∈ L, IsSl x.2) (hsn : ∀ x ∈ N, IsSl x.2) (hs : s.size ≤ maxLen) (hl : L.length < maxLen) :
    Calls Try.prog 44 #[.pointer (some ⟨pb, po, none⟩), .agg #[.map nmo, .int .i64 nu], .string s] w fun e w' => e = .returned (.tuple #[]) ∧ TakePost pb po cs t mo u L N s.data.toList w w' := by
  have ka := keep_alloc (fun _ => False) w (.cells #[.map nmo, .int .i64 nu] 69)
  have hrA := hrow.keep ka (fun h => h)
  have hmA := ka.mapV hm (fun _ _ h => h)
  have hlk := mapV_lookok (ka.mapV hN (fun _ _ h => h)) s hs
  cases hg : kget N s.data.toList with
  | some v =>
    obtain ⟨ad, n, cp, rfl⟩ := hsn _ (kget_mem hg)
    rw [hg] at hlk
    simp only [Option.getD_some, Option.isSome_some] at hlk
    have SET : Hid (Calls Try.prog 62 #[.pointer (some ⟨pb, po, none⟩), .string s, .slice ad n cp] (w.alloc (.cells #[.map nmo, .int .i64 nu] 69)) fun e w' => e = .returned (.tuple #[]) ∧ TakePost pb po cs t mo u L N s.data.toList w w') := by
      refine (set_any pb po cs t mo u L s ad n cp _ hrA h0 h1 hmA hne hsl hs hl).mono fun e w' ⟨he, b, hb, hbp, hr, hm', hk⟩ => ⟨he, some b, ?_, fun b' e => by injection e with e; omega, ?_, .inr ⟨b, rfl, ?_⟩, (ka.mono (fun _ _ h => h.elim)).trans hk⟩
      · rcases hb with e | e
        · exact .inl e.symm
        · exact .inr ⟨b, rfl, by rw [e]; simp⟩
      · rw [wrap_add] at hr
        rw [hg]; exact hr
      · have e : takeK L N s.data.toList = kput L s.data.toList (.slice ad n cp) := by unfold takeK; rw [hg]
        rw [e]; exact hm'
    clear hrow h0 h1 hm hN hne hsl hsn hs hl ka hrA hmA hg
    go_enter Try.func44, Try.ntmps44
    go_wp2_with fail
    refine SET.out.mono ?_
    rintro e w2 ⟨rfl, hA⟩
    have HA := hid hA
    clear SET hlk hA
    go_wp2
    go_end0
    exact ⟨rfl, HA.out⟩
  | none =>
    rw [hg] at hlk
    simp only [Option.getD_none, Option.isSome_none] at hlk
    have DR : Hid (Calls Try.prog 63 #[.pointer (some ⟨pb, po, none⟩), .string s] (w.alloc (.cells #[.map nmo, .int .i64 nu] 69)) fun e w' => e = .returned (.tuple #[]) ∧ TakePost pb po cs t mo u L N s.data.toList w w') := by
      refine (drop_any pb po cs t mo u L s _ hrA h0 h1 hmA hne hsl hs).mono fun e w' ⟨he, hr, hm', hk⟩ => ⟨he, mo, .inl rfl, hne, ?_, ?_, (ka.mono (fun _ _ h => h.elim)).trans hk⟩
      · rw [set_same h0, hg]
        have e : u + ((lenV ((none : Option Value).getD (.slice none 0 0)) : Nat) - (lenV ((kget L s.data.toList).getD (.slice none 0 0)) : Nat) : Int) = u - (lenV ((kget L s.data.toList).getD (.slice none 0 0)) : Nat) := by
          show u + (((0 : Nat) : Int) - _) = _
          omega
        rw [e]; exact hr
      · have e : takeK L N s.data.toList = kdel L s.data.toList := by unfold takeK; rw [hg]
        rw [e]; exact hm'
    clear hrow h0 h1 hm hN hne hsl hsn hs hl ka hrA hmA hg
    go_enter Try.func44, Try.ntmps44
    go_wp2_with fail
    refine DR.out.mono ?_
    rintro e w2 ⟨rfl, hA⟩
    have HA := hid hA
    clear DR hlk hA
    go_wp2
    go_end0
    exact ⟨rfl, HA.out⟩
end Go.Proofs.Ytnlodlpjokkepab
