/- Joined: Numbers that a reader takes, one behind the other. How long a text is that a reader takes. Numbers that were put are taken again, and in one form alone. What a reader takes, byte by byte. A truth that a reader takes. Messages: as values, which may be, their texts, and what is read of a text. -/
import Derived.Test.YtnldjcoajliciaaGreatJoined04
import Derived.Test.YtnldjcoajliciaaGreatJoined08
import Derived.Test.YtnldjcoajliciaaGreatJoined07
import Derived.Test.YtnldjcoajliciaaGreatJoined10
namespace Go.Proofs.YtnldjcoajliciaaGreat
open Go.RowKit Go.Maps
set_option linter.unusedVariables false
set_option linter.unusedSimpArgs false

/-- a reader behind some numbers, and these -/
structure DcR where
  a : Int
  e : Int
  l : List Int
def dcN (s : ByteArray) (m a e : Int) : St := nS s a e (fitI m (rdAt s a).n) 2
def dcI (s : ByteArray) (m : Int) : Nat → Int → Int → DcR
  | 0, a, e => ⟨a, e, []⟩
  | j + 1, a, e => ⟨(dcI s m j (dcN s m a e).a (dcN s m a e).e).a, (dcI s m j (dcN s m a e).a (dcN s m a e).e).e, ((dcN s m a e).n : Int) :: (dcI s m j (dcN s m a e).a (dcN s m a e).e).l⟩
theorem dcN_le (s : ByteArray) (m a e : Int) (hm : 0 ≤ m) : ((dcN s m a e).n : Int) ≤ m := by
  unfold dcN nS
  split
  · split
    · split
      · next h => have := of_decide_eq_true (show decide (0 ≤ m ∧ ((rdAt s a).n : Int) ≤ m) = true from h); exact this.2
      · exact hm
    · exact hm
  · exact hm
theorem Only.keep {g : Nat} {w w' : World} (h : Only g w w') : Keep (· = g) w w' := ⟨h.os, h.tape, h.output, h.size, h.block⟩
theorem RdAt.same {w w' : World} {g : Nat} {s : ByteArray} {a e : Int} (h : RdAt w g s a e) (hb : w'.heap[g]? = w.heap[g]?) : RdAt w' g s a e := by
  have hc : ∀ o, w'.cell? ⟨g, o, none⟩ = w.cell? ⟨g, o, none⟩ := fun o => by simp [World.cell?, hb]
  have hf : ∀ o, w'.frozen? ⟨g, o, none⟩ = w.frozen? ⟨g, o, none⟩ := fun o => by simp [World.frozen?, hb]
  obtain ⟨h0, h1, h2, h3, h4⟩ := h
  exact ⟨(hc 0).trans h0, (hc 1).trans h1, (hc 2).trans h2, (hf 1).trans h3, (hf 2).trans h4⟩
end Go.Proofs.YtnldjcoajliciaaGreat
namespace Go.Proofs.YtnldjcoajliciaaGreat
open Go.RowKit Go.Maps
set_option linter.unusedVariables false
set_option linter.unusedSimpArgs false

end Go.Proofs.YtnldjcoajliciaaGreat
namespace Go.Proofs.YtnldjcoajliciaaGreat
open Go.RowKit Go.Maps
set_option linter.unusedVariables false
set_option linter.unusedSimpArgs false

end Go.Proofs.YtnldjcoajliciaaGreat
namespace Go.Proofs.YtnldjcoajliciaaGreat
open Go.RowKit Go.Maps
set_option linter.unusedVariables false
set_option linter.unusedSimpArgs false

/-- what lies from a place on to another -/
def Tok (s : ByteArray) (a : Nat) (r : Int) (L : List UInt8) : Prop := ∃ t : Nat, r = (t : Int) ∧ a ≤ t ∧ t ≤ s.size ∧ (s.data.toList.drop a).take (t - a) = L
theorem Tok.refl (s : ByteArray) (a : Nat) (h : a ≤ s.size) : Tok s a (a : Int) [] := ⟨a, rfl, Nat.le_refl _, h, by simp⟩
theorem Tok.trans {s : ByteArray} {a b : Nat} {r : Int} {L M : List UInt8} (h : Tok s a (b : Int) L) (k : Tok s b r M) : Tok s a r (L ++ M) := by
  obtain ⟨t, e, h1, h2, h3⟩ := h
  obtain rfl : b = t := by omega
  obtain ⟨u, rfl, k1, k2, k3⟩ := k
  refine ⟨u, rfl, by omega, k2, ?_⟩
  rw [show u - a = (b - a) + (u - b) by omega, List.take_add, h3, List.drop_drop, show a + (b - a) = b by omega, k3]
end Go.Proofs.YtnldjcoajliciaaGreat
namespace Go.Proofs.YtnldjcoajliciaaGreat
open Go.RowKit Go.Maps
set_option linter.unusedVariables false
set_option linter.unusedSimpArgs false

end Go.Proofs.YtnldjcoajliciaaGreat
namespace Go.Proofs.YtnldjcoajliciaaGreat
open Go.RowKit Go.Maps
set_option linter.unusedVariables false
set_option linter.unusedSimpArgs false

/-- a message -/
structure Ms where
  kd : Int
  fr : Int
  to_ : Int
  tm : Int
  ix : Int
  lt : Int
  cm : Int
  rd : Int
  at_ : Int
  ys : Bool
  es : List En
  da : ByteArray
def Ms.nm (m : Ms) : List Int := [m.kd, m.fr, m.to_, m.tm, m.ix, m.lt, m.cm, m.rd, m.at_]
def msV (v : Value) (m : Ms) : Value := .agg #[.int .i64 m.kd, .int .i64 m.fr, .int .i64 m.to_, .int .i64 m.tm, .int .i64 m.ix, .int .i64 m.lt, .int .i64 m.cm, .int .i64 m.rd, .int .i64 m.at_, .bool m.ys, v, .string m.da]
/-- may an entry stand behind one of the term lo, in the term hi? -/
def meOk (lo hi : Int) (x : En) : Bool := decide (lo ≤ x.tm) && (decide (x.tm ≤ hi) && (decide (0 ≤ x.kd) && (decide (x.kd ≤ 255) && decide (x.da.size ≤ 65536))))
def mesOk (lo hi : Int) : List En → Bool
  | [] => true
  | x :: r => meOk lo hi x && mesOk x.tm hi r
def ndOk (n : Int) : Bool := decide (0 ≤ n) && decide (n < 7)
def tmB (n : Int) : Bool := decide (0 ≤ n) && decide (n ≤ 1099511627776)
/-- may a message be? -/
def msOk (m : Ms) : Bool :=
  (decide (1 ≤ m.kd) && decide (m.kd ≤ 6)) && ((ndOk m.fr && (ndOk m.to_ && !decide (m.fr = m.to_))) && (m.nm.all tmB && ((decide (m.lt ≤ m.tm) && (decide (m.es.length ≤ 16) && decide (m.da.size ≤ 4096))) && mesOk m.lt m.tm m.es)))
end Go.Proofs.YtnldjcoajliciaaGreat
