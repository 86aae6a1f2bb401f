/- Joined: Numbers that a reader takes, one behind the other. How long a text is that a reader takes. Numbers that were put are taken again, and in one form alone. What a reader takes, byte by byte. A truth that a reader takes. Messages: as values, which may be, their texts, and what is read of a text. What is told is read again, and in one form alone: a message's text. -/
import Derived.Test.YtlkidnfgodficaaGreatJoined04
import Derived.Test.YtlkidnfgodficaaGreatJoined08
import Derived.Test.YtlkidnfgodficaaGreatJoined07
import Derived.Test.YtlkidnfgodficaaGreatJoined10
namespace Go.Proofs.YtlkidnfgodficaaGreat
open Go.RowKit Go.Maps
set_option linter.unusedVariables false
set_option linter.unusedSimpArgs false

/-- a reader behind some numbers, and these -/
structure DcR where
  a : Int
  e : Int
  l : List Int
def dcN (s : ByteArray) (m a e : Int) : St := nS s a e (fitI m (rdAt s a).n) 2
def dcI (s : ByteArray) (m : Int) : Nat → Int → Int → DcR
  | 0, a, e => ⟨a, e, []⟩
  | j + 1, a, e => ⟨(dcI s m j (dcN s m a e).a (dcN s m a e).e).a, (dcI s m j (dcN s m a e).a (dcN s m a e).e).e, ((dcN s m a e).n : Int) :: (dcI s m j (dcN s m a e).a (dcN s m a e).e).l⟩
theorem dcN_le (s : ByteArray) (m a e : Int) (hm : 0 ≤ m) : ((dcN s m a e).n : Int) ≤ m := by
  unfold dcN nS
  split
  · split
    · split
      · next h => have := of_decide_eq_true (show decide (0 ≤ m ∧ ((rdAt s a).n : Int) ≤ m) = true from h); exact this.2
      · exact hm
    · exact hm
  · exact hm
theorem Only.keep {g : Nat} {w w' : World} (h : Only g w w') : Keep (· = g) w w' := ⟨h.os, h.tape, h.output, h.size, h.block⟩
theorem RdAt.same {w w' : World} {g : Nat} {s : ByteArray} {a e : Int} (h : RdAt w g s a e) (hb : w'.heap[g]? = w.heap[g]?) : RdAt w' g s a e := by
  have hc : ∀ o, w'.cell? ⟨g, o, none⟩ = w.cell? ⟨g, o, none⟩ := fun o => by simp [World.cell?, hb]
  have hf : ∀ o, w'.frozen? ⟨g, o, none⟩ = w.frozen? ⟨g, o, none⟩ := fun o => by simp [World.frozen?, hb]
  obtain ⟨h0, h1, h2, h3, h4⟩ := h
  exact ⟨(hc 0).trans h0, (hc 1).trans h1, (hc 2).trans h2, (hf 1).trans h3, (hf 2).trans h4⟩
end Go.Proofs.YtlkidnfgodficaaGreat
namespace Go.Proofs.YtlkidnfgodficaaGreat
open Go.RowKit Go.Maps
set_option linter.unusedVariables false
set_option linter.unusedSimpArgs false

end Go.Proofs.YtlkidnfgodficaaGreat
namespace Go.Proofs.YtlkidnfgodficaaGreat
open Go.RowKit Go.Maps
set_option linter.unusedVariables false
set_option linter.unusedSimpArgs false

end Go.Proofs.YtlkidnfgodficaaGreat
namespace Go.Proofs.YtlkidnfgodficaaGreat
open Go.RowKit Go.Maps
set_option linter.unusedVariables false
set_option linter.unusedSimpArgs false

/-- what lies from a place on to another -/
def Tok (s : ByteArray) (a : Nat) (r : Int) (L : List UInt8) : Prop := ∃ t : Nat, r = (t : Int) ∧ a ≤ t ∧ t ≤ s.size ∧ (s.data.toList.drop a).take (t - a) = L
theorem Tok.refl (s : ByteArray) (a : Nat) (h : a ≤ s.size) : Tok s a (a : Int) [] := ⟨a, rfl, Nat.le_refl _, h, by simp⟩
theorem Tok.trans {s : ByteArray} {a b : Nat} {r : Int} {L M : List UInt8} (h : Tok s a (b : Int) L) (k : Tok s b r M) : Tok s a r (L ++ M) := by
  obtain ⟨t, e, h1, h2, h3⟩ := h
  obtain rfl : b = t := by omega
  obtain ⟨u, rfl, k1, k2, k3⟩ := k
  refine ⟨u, rfl, by omega, k2, ?_⟩
  rw [show u - a = (b - a) + (u - b) by omega, List.take_add, h3, List.drop_drop, show a + (b - a) = b by omega, k3]
end Go.Proofs.YtlkidnfgodficaaGreat
namespace Go.Proofs.YtlkidnfgodficaaGreat
open Go.RowKit Go.Maps
set_option linter.unusedVariables false
set_option linter.unusedSimpArgs false

/-- a truth that a reader takes -/
def dcF (s : ByteArray) (a e : Int) : St := nS s a e (fitBl (rdAt s a).n) 3
end Go.Proofs.YtlkidnfgodficaaGreat
namespace Go.Proofs.YtlkidnfgodficaaGreat
open Go.RowKit Go.Maps
set_option linter.unusedVariables false
set_option linter.unusedSimpArgs false

/-- a message -/
structure Ms where
  kd : Int
  fr : Int
  to_ : Int
  tm : Int
  ix : Int
  lt : Int
  cm : Int
  rd : Int
  at_ : Int
  ys : Bool
  es : List En
  da : ByteArray
def Ms.nm (m : Ms) : List Int := [m.kd, m.fr, m.to_, m.tm, m.ix, m.lt, m.cm, m.rd, m.at_]
def msV (v : Value) (m : Ms) : Value := .agg #[.int .i64 m.kd, .int .i64 m.fr, .int .i64 m.to_, .int .i64 m.tm, .int .i64 m.ix, .int .i64 m.lt, .int .i64 m.cm, .int .i64 m.rd, .int .i64 m.at_, .bool m.ys, v, .string m.da]
/-- may an entry stand behind one of the term lo, in the term hi? -/
def meOk (lo hi : Int) (x : En) : Bool := decide (lo ≤ x.tm) && (decide (x.tm ≤ hi) && (decide (0 ≤ x.kd) && (decide (x.kd ≤ 255) && decide (x.da.size ≤ 65536))))
def mesOk (lo hi : Int) : List En → Bool
  | [] => true
  | x :: r => meOk lo hi x && mesOk x.tm hi r
def ndOk (n : Int) : Bool := decide (0 ≤ n) && decide (n < 7)
def tmB (n : Int) : Bool := decide (0 ≤ n) && decide (n ≤ 1099511627776)
/-- may a message be? -/
def msOk (m : Ms) : Bool :=
  (decide (1 ≤ m.kd) && decide (m.kd ≤ 6)) && ((ndOk m.fr && (ndOk m.to_ && !decide (m.fr = m.to_))) && (m.nm.all tmB && ((decide (m.lt ≤ m.tm) && (decide (m.es.length ≤ 16) && decide (m.da.size ≤ 4096))) && mesOk m.lt m.tm m.es)))
/-- the text of an entry, and of a message -/
def meB (x : En) : List UInt8 := put x.tm.toNat ++ (put x.kd.toNat ++ ptx x.da)
def mesB (l : List En) : List UInt8 := l.flatMap meB
def ysB (b : Bool) : List UInt8 := put (if b = true then 1 else 0)
def mgB (m : Ms) : List UInt8 := msB m.nm ++ (ysB m.ys ++ (put m.es.length ++ (mesB m.es ++ ptx m.da)))
def mgS (m : Ms) : ByteArray := if msOk m = true then ⟨(mgB m).toArray⟩ else ⟨#[]⟩
def mgE (m : Ms) : Int := if msOk m = true then 0 else 1
/-- a reader behind some entries, and these -/
structure DeR where
  a : Int
  e : Int
  l : List En
def dcE (s : ByteArray) : Nat → Int → Int → DeR
  | 0, a, e => ⟨a, e, []⟩
  | j + 1, a, e =>
    let t := dcN s 1099511627776 a e
    let k := dcN s 255 t.a t.e
    let d := tS s k.a k.e 65536
    let r := dcE s j d.a d.e
    ⟨r.a, r.e, ⟨(t.n : Int), (k.n : Int), d.x⟩ :: r.l⟩
/-- a reader behind a message, and this -/
structure DmR where
  a : Int
  e : Int
  m : Ms
def mdT (s : ByteArray) : DmR :=
  let p0 := dcN s 1099511627776 0 0
  let p1 := dcN s 1099511627776 p0.a p0.e
  let p2 := dcN s 1099511627776 p1.a p1.e
  let p3 := dcN s 1099511627776 p2.a p2.e
  let p4 := dcN s 1099511627776 p3.a p3.e
  let p5 := dcN s 1099511627776 p4.a p4.e
  let p6 := dcN s 1099511627776 p5.a p5.e
  let p7 := dcN s 1099511627776 p6.a p6.e
  let p8 := dcN s 1099511627776 p7.a p7.e
  let y := dcF s p8.a p8.e
  let c := dcN s 16 y.a y.e
  let l := dcE s c.n c.a c.e
  let t := tS s l.a l.e 4096
  ⟨t.a, t.e, ⟨p0.n, p1.n, p2.n, p3.n, p4.n, p5.n, p6.n, p7.n, p8.n, (y.n : Int) == 1, l.l, t.x⟩⟩
def mdOk (s : ByteArray) : Bool := (endE s (mdT s).a (mdT s).e == 0) && msOk (mdT s).m
def ms0 : Ms := ⟨0, 0, 0, 0, 0, 0, 0, 0, 0, false, [], ⟨#[]⟩⟩
def mdV (s : ByteArray) : Ms := if mdOk s = true then (mdT s).m else ms0
def mdE (s : ByteArray) : Int := if mdOk s = true then 0 else 3
/-- what an entry of a message that may be is -/
structure MeN (x : En) : Prop where
  t0 : 0 ≤ x.tm
  t1 : x.tm ≤ 1099511627776
  k0 : 0 ≤ x.kd
  k1 : x.kd ≤ 255
  z : x.da.size ≤ 65536
theorem mesOk_in {hi : Int} (hh : hi ≤ 1099511627776) : ∀ {l : List En} {lo : Int}, 0 ≤ lo → mesOk lo hi l = true → ∀ x ∈ l, MeN x
  | [], _, _, _, x, hx => by simp at hx
  | y :: r, lo, hlo, h, x, hx => by
    simp only [mesOk, meOk, Bool.and_eq_true, decide_eq_true_eq] at h
    obtain ⟨⟨h1, h2, h3, h4, h5⟩, h6⟩ := h
    rcases List.mem_cons.1 hx with rfl | hx
    · exact ⟨by omega, by omega, h3, h4, h5⟩
    · exact mesOk_in hh (by omega) h6 x hx
/-- what a message that may be is -/
structure MsN (m : Ms) : Prop where
  nm : ∀ n ∈ m.nm, 0 ≤ n ∧ n ≤ 1099511627776
  k0 : 1 ≤ m.kd
  k1 : m.kd ≤ 6
  es : m.es.length ≤ 16
  da : m.da.size ≤ 4096
  en : ∀ x ∈ m.es, MeN x
theorem msOk_in {m : Ms} (h : msOk m = true) : MsN m := by
  unfold msOk at h
  simp only [Bool.and_eq_true, decide_eq_true_eq, List.all_eq_true] at h
  obtain ⟨⟨h1, h2⟩, -, h3, ⟨h4, h5, h6⟩, h7⟩ := h
  have hn : ∀ n ∈ m.nm, 0 ≤ n ∧ n ≤ 1099511627776 := fun n hn => by
    have := h3 n hn
    simpa only [tmB, Bool.and_eq_true, decide_eq_true_eq] using this
  exact ⟨hn, h1, h2, h5, h6, mesOk_in (hn m.tm (by simp [Ms.nm])).2 (hn m.lt (by simp [Ms.nm])).1 h7⟩
theorem dcE_len (s : ByteArray) : ∀ (j : Nat) (a e : Int), (dcE s j a e).l.length = j
  | 0, _, _ => rfl
  | j + 1, a, e => by simp only [dcE, List.length_cons]; rw [dcE_len s j]
theorem mdT_len (s : ByteArray) : (mdT s).m.es.length ≤ 16 := by
  have h : ∀ (y c : St), c = dcN s 16 y.a y.e → (dcE s c.n c.a c.e).l.length ≤ 16 := by
    intro y c hc
    rw [dcE_len]
    have := dcN_le s 16 y.a y.e (by omega)
    subst hc
    omega
  exact h _ _ rfl
theorem mdV_len (s : ByteArray) : (mdV s).es.length ≤ 16 := by
  unfold mdV
  split
  · exact mdT_len s
  · exact Nat.zero_le _
end Go.Proofs.YtlkidnfgodficaaGreat
namespace Go.Proofs.YtlkidnfgodficaaGreat
open Go.RowKit Go.Maps
set_option linter.unusedVariables false
set_option linter.unusedSimpArgs false

end Go.Proofs.YtlkidnfgodficaaGreat
