/- What the law WiresTruth keeps. -/
import Derived.Test.YtfcchmjofejkhaaWNPlays
namespace Go.Proofs.Ytfcchmjofejkhaa
open Go.RowKit Go.Maps
set_option linter.unusedVariables false
set_option linter.unusedSimpArgs false

/-- what stays behind k acts: the net, and what was sent -/
structure Tr (w0 : World) (c k j : Nat) (n : Net) (sv : Value) (SL : List Pk) (w : World) : Prop where
  net : NSt w0 (fun j => sv.ownBlock = some j) w0.heap.size n w
  own : w.ownsRow w0.heap.size 33 3 sv SL.length (pks SL)
  box : RowIs w c [.slice none 0 0, .slice none 0 0, .int .i64 0, .int .i64 0, .int .i64 0] 28
  inv : InvN n
  mem : ∀ x ∈ n.L, x ∈ SL
  bd : n.se ≤ k ∧ n.ta ≤ k ∧ n.lo ≤ 5000 * k ∧ SL.length ≤ j
theorem own_noth {w : World} {B n : Nat} {v : Value} {xs : List Value} (h : w.ownsRow B 33 3 v n xs) {g : Nat} (e : v.ownBlock = some g) : ¬ Oth w g := by
  rintro ⟨cur, t, hb, t1, t2⟩
  rcases h.2 with ⟨e0, _⟩ | ⟨g', cap, cur', e0, _, hb', _⟩
  · rw [e0] at e; simp [Value.ownBlock] at e
  · rw [e0] at e; simp [Value.ownBlock] at e; subst e
    rw [hb'] at hb
    injection hb with hb
    injection hb with _ hb
    exact t1 hb.symm
section
variable {w0 w w' : World} {c k j : Nat} {n n' : Net} {sv sv' : Value} {SL : List Pk}
theorem Tr.keep (h : Tr w0 c k j n sv SL w) (q : Keep (fun _ => False) w w') : Tr w0 c k j n sv SL w' :=
  ⟨h.net.keep q, q.ownsRow h.own (fun _ _ h => h), h.box.keep q (fun h => h), h.inv, h.mem, h.bd⟩
theorem Tr.wk (h : Tr w0 c k j n sv SL w) : Tr w0 c k (j + 1) n sv SL w :=
  ⟨h.net, h.own, h.box, h.inv, h.mem, ⟨h.bd.1, h.bd.2.1, h.bd.2.2.1, by have := h.bd.2.2.2; omega⟩⟩
theorem Tr.app {x : Pk} (h : Tr w0 c k j n sv SL w) (hr : w'.ownsRow w0.heap.size 33 3 sv' (SL.length + 1) (pks SL ++ pks [x])) (q : Keep (fun k => sv.ownBlock = some k) w w') (hl : LocG w sv sv') : Tr w0 c k (j + 1) n sv' (SL ++ [x]) w' := by
  have hle : (SL ++ [x]).length = SL.length + 1 := by simp
  refine ⟨?_, ?_, h.box.keep q (fun e => own_noth h.own e (Oth.row h.box (by decide) (by decide))), h.inv, fun y hy => List.mem_append.2 (.inl (h.mem y hy)), ⟨h.bd.1, h.bd.2.1, h.bd.2.2.1, by rw [hle]; have := h.bd.2.2.2; omega⟩⟩
  · obtain ⟨P, h1, h2, h3, h4⟩ := h.net
    refine ⟨_, h1.keep q (fun j hj e hp => (h3 j e).1 hp), fun j hj hp => h2 j hj hp.1, fun r hr' => ⟨fun hp => ?_, ownsRow_lt hr hr'⟩, h4.then q (fun j hj e => by have := ownsRow_ge h.own e; omega)⟩
    rcases hl.n r hr' with e | e
    · exact (h3 r e).1 hp.1
    · have := hp.2; omega
  · rw [hle, pks_app]; exact hr
theorem Tr.one {a : A8} (h : Tr w0 c k j n sv SL w) (hn : NSt w0 (fun j => sv.ownBlock = some j) w0.heap.size n' w') (q : Keep (fun j => ¬ sv.ownBlock = some j ∧ ¬ Oth w j) w w') (g : Good n a n') (hx : a.kind = 0 → a.p ∈ SL) : Tr w0 c (k + 1) j n' sv SL w' := by
  obtain ⟨b1, b2, b3, b4⟩ := h.bd
  have g1 := g.se
  have g2 := g.ta
  have g3 := g.lo
  exact ⟨hn, q.ownsRow h.own (fun g e hn => hn.1 e), h.box.keep q (fun hn => hn.2 (Oth.row h.box (by decide) (by decide))), g.inv h.inv, fun x hx' => (g.mem x hx').elim (h.mem x) (fun e => e.2 ▸ hx e.1), ⟨by omega, by omega, by omega, b4⟩⟩
/-- one packet is taken -/
theorem Tr.take (i : Int) (h : Tr w0 c k j n sv SL w) (hk : k ≤ 100) : Calls Try.prog 16 #[.pointer (some ⟨w0.heap.size, 0, none⟩), .int .i64 i] w fun e w' => ∃ fr tt s b, e = .returned (.tuple #[.agg #[.int .i64 fr, .int .i64 tt, .string s], .bool b]) ∧ Tr w0 c (k + 1) j (takeN n i) sv SL w' ∧ (b = true → (⟨fr, tt, s⟩ : Pk) ∈ SL) := by
  obtain ⟨b1, b2, b3, b4⟩ := h.bd
  refine (stepO h.net (fun P1 h1 => ptake i h1 (by omega))).mono ?_
  rintro e w' ⟨rfl, h1, q⟩
  refine ⟨_, _, _, _, rfl, h.one (a := ⟨1, pk0, 0, 0⟩) h1 (q.mono (fun j hj hn => ⟨fun e => hn (.inl e), fun e => hn (.inr e)⟩)) (take_good n _ i) (fun e => by cases e), fun hb => ?_⟩
  rw [if_pos hb]
  obtain ⟨e1, e2⟩ := hasI_nat hb
  rw [atL_get e2 i rfl]
  exact h.mem _ (List.getElem_mem e2)
/-- one step that is no taking -/
theorem Tr.step {kd fr tt an am : Int} {s : ByteArray} (h : Tr w0 c k j n sv SL w) (hk : k ≤ 100) (hs : s.size ≤ 140737488355328) (h1 : kd ≠ 1) (hx : kd = 0 → (⟨fr, tt, s⟩ : Pk) ∈ SL) : Calls Try.prog 11 #[.pointer (some ⟨w0.heap.size, 0, none⟩), .agg #[.slice none 0 0, .slice none 0 0, .int .i64 0, .int .i64 0, .int .i64 0], .agg #[.int .i64 kd, .int .i64 fr, .int .i64 tt, .string s, .int .i64 an, .int .i64 am]] w fun e w' => ∃ a1 c1 l1 a2 c2 l2 q1 q2 q3 b n', e = .returned (.tuple #[.agg #[.slice a1 l1 c1, .slice a2 l2 c2, .int .i64 q1, .int .i64 q2, .int .i64 q3], .bool b]) ∧ Tr w0 c (k + 1) j n' sv SL w' := by
  obtain ⟨b1, b2, b3, b4⟩ := h.bd
  refine (one_gen w0 _ w0.heap.size n (.slice none 0 0) (.slice none 0 0) rnet0 ⟨kd, ⟨fr, tt, s⟩, an, am⟩ w h.net (rf0 w) hs ⟨by omega, by omega, by omega⟩ ⟨by decide, by decide, by decide, by decide⟩ (.inr ⟨rfl, h1⟩)).mono ?_
  rintro e w' ⟨lv', cv', m', n', b, rfl, hr, hn, q, g, _, _⟩
  obtain ⟨a1, c1, rfl⟩ := row_form hr.l
  obtain ⟨a2, c2, rfl⟩ := row_form hr.c
  exact ⟨_, _, _, _, _, _, _, _, _, _, n', rfl, h.one hn q g hx⟩
end
end Go.Proofs.Ytfcchmjofejkhaa
