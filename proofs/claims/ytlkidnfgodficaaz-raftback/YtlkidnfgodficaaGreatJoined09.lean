/- Joined: Numbers that a reader takes, one behind the other. How long a text is that a reader takes. Numbers that were put are taken again, and in one form alone. What a reader takes, byte by byte. A truth that a reader takes. Messages: as values, which may be, their texts, and what is read of a text. What is told is read again, and in one form alone: a message's text. -/
import Derived.Test.YtlkidnfgodficaaGreatJoined04
import Derived.Test.YtlkidnfgodficaaGreatJoined08
import Derived.Test.YtlkidnfgodficaaGreatJoined07
import Derived.Test.YtlkidnfgodficaaGreatJoined10
namespace Go.Proofs.YtlkidnfgodficaaGreat
open Go.RowKit Go.Maps
set_option linter.unusedVariables false
set_option linter.unusedSimpArgs false

/-- a reader behind some numbers, and these -/
structure DcR where
  a : Int
  e : Int
  l : List Int
def dcN (s : ByteArray) (m a e : Int) : St := nS s a e (fitI m (rdAt s a).n) 2
def dcI (s : ByteArray) (m : Int) : Nat → Int → Int → DcR
  | 0, a, e => ⟨a, e, []⟩
  | j + 1, a, e => ⟨(dcI s m j (dcN s m a e).a (dcN s m a e).e).a, (dcI s m j (dcN s m a e).a (dcN s m a e).e).e, ((dcN s m a e).n : Int) :: (dcI s m j (dcN s m a e).a (dcN s m a e).e).l⟩
theorem dcN_le (s : ByteArray) (m a e : Int) (hm : 0 ≤ m) : ((dcN s m a e).n : Int) ≤ m := by
  unfold dcN nS
  split
  · split
    · split
      · next h => have := of_decide_eq_true (show decide (0 ≤ m ∧ ((rdAt s a).n : Int) ≤ m) = true from h); exact this.2
      · exact hm
    · exact hm
  · exact hm
theorem Only.keep {g : Nat} {w w' : World} (h : Only g w w') : Keep (· = g) w w' := ⟨h.os, h.tape, h.output, h.size, h.block⟩
theorem RdAt.same {w w' : World} {g : Nat} {s : ByteArray} {a e : Int} (h : RdAt w g s a e) (hb : w'.heap[g]? = w.heap[g]?) : RdAt w' g s a e := by
  have hc : ∀ o, w'.cell? ⟨g, o, none⟩ = w.cell? ⟨g, o, none⟩ := fun o => by simp [World.cell?, hb]
  have hf : ∀ o, w'.frozen? ⟨g, o, none⟩ = w.frozen? ⟨g, o, none⟩ := fun o => by simp [World.frozen?, hb]
  obtain ⟨h0, h1, h2, h3, h4⟩ := h
  exact ⟨(hc 0).trans h0, (hc 1).trans h1, (hc 2).trans h2, (hf 1).trans h3, (hf 2).trans h4⟩
end Go.Proofs.YtlkidnfgodficaaGreat
namespace Go.Proofs.YtlkidnfgodficaaGreat
open Go.RowKit Go.Maps
set_option linter.unusedVariables false
set_option linter.unusedSimpArgs false

end Go.Proofs.YtlkidnfgodficaaGreat
namespace Go.Proofs.YtlkidnfgodficaaGreat
open Go.RowKit Go.Maps
set_option linter.unusedVariables false
set_option linter.unusedSimpArgs false

theorem dcN_put (s : ByteArray) (p r : List UInt8) (n : Nat) (m : Int) (hs : s.data.toList = p ++ (put n ++ r)) (hn : (n : Int) ≤ m) (hm : m ≤ 9223372036854775807) : dcN s m (p.length : Int) 0 = ⟨(((p ++ put n).length : Nat) : Int), 0, n⟩ := by
  have hr := rdAt_put s p r n hs (by omega)
  unfold dcN nS
  rw [hr]
  have hf : fitI m n = true := decide_eq_true ⟨by omega, hn⟩
  rw [if_pos rfl, if_pos rfl, if_pos hf]
  simp [endAt]
theorem dcN_one (s : ByteArray) (m e : Int) (a : Nat) (h : (dcN s m (a : Int) e).e = 0) : e = 0 ∧ ∃ len, (dcN s m (a : Int) e).a = ((a + len : Nat) : Int) ∧ a + len ≤ s.size ∧ (s.data.toList.drop a).take len = put (dcN s m (a : Int) e).n := by
  unfold dcN nS at *
  split at h
  · rename_i he
    subst he
    split at h
    · rename_i hr
      split at h
      · rename_i hf
        refine ⟨rfl, (rdAt s a).len, ?_, ?_, ?_⟩
        · rw [if_pos rfl, if_pos hr, if_pos hf]
          simp [endAt, hr]
        · have := rdAt_bounds s a hr
          omega
        · rw [if_pos rfl, if_pos hr, if_pos hf]
          exact rdAt_one s a hr
      · simp at h
    · rename_i hr
      exact absurd (by simpa using h) hr
  · rename_i he
    exact absurd (by simpa using h) he
end Go.Proofs.YtlkidnfgodficaaGreat
namespace Go.Proofs.YtlkidnfgodficaaGreat
open Go.RowKit Go.Maps
set_option linter.unusedVariables false
set_option linter.unusedSimpArgs false

theorem tS_put (s : ByteArray) (p r : List UInt8) (x : ByteArray) (m : Int) (hs : s.data.toList = p ++ (ptx x ++ r)) (hx : (x.size : Int) ≤ m) (hm : m ≤ 9223372036854775807) : tS s (p.length : Int) 0 m = ⟨(((p ++ ptx x).length : Nat) : Int), 0, x⟩ := by
  unfold tS
  rw [txtAt_put s p r x hs (by omega), if_pos rfl, if_pos rfl, if_pos hx, List.length_append]
/-- what lies from a place on to another -/
def Tok (s : ByteArray) (a : Nat) (r : Int) (L : List UInt8) : Prop := ∃ t : Nat, r = (t : Int) ∧ a ≤ t ∧ t ≤ s.size ∧ (s.data.toList.drop a).take (t - a) = L
theorem Tok.refl (s : ByteArray) (a : Nat) (h : a ≤ s.size) : Tok s a (a : Int) [] := ⟨a, rfl, Nat.le_refl _, h, by simp⟩
theorem Tok.trans {s : ByteArray} {a b : Nat} {r : Int} {L M : List UInt8} (h : Tok s a (b : Int) L) (k : Tok s b r M) : Tok s a r (L ++ M) := by
  obtain ⟨t, e, h1, h2, h3⟩ := h
  obtain rfl : b = t := by omega
  obtain ⟨u, rfl, k1, k2, k3⟩ := k
  refine ⟨u, rfl, by omega, k2, ?_⟩
  rw [show u - a = (b - a) + (u - b) by omega, List.take_add, h3, List.drop_drop, show a + (b - a) = b by omega, k3]
theorem st_N {s : ByteArray} {m a e : Int} (h : (dcN s m a e).e = 0) : e = 0 := by
  by_cases he : e = 0
  · exact he
  · unfold dcN nS at h; rw [if_neg he] at h; exact absurd h he
theorem st_T {s : ByteArray} {a e m : Int} (h : (tS s a e m).e = 0) : e = 0 := by
  by_cases he : e = 0
  · exact he
  · unfold tS at h; rw [if_neg he] at h; exact absurd h he
theorem tok_N (s : ByteArray) (m e : Int) (a : Nat) (h : (dcN s m (a : Int) e).e = 0) : Tok s a (dcN s m (a : Int) e).a (put (dcN s m (a : Int) e).n) := by
  obtain ⟨_, len, h1, h2, h3⟩ := dcN_one s m e a h
  exact ⟨a + len, h1, by omega, h2, by rw [show a + len - a = len by omega]; exact h3⟩
theorem tok_T (s : ByteArray) (m e : Int) (a : Nat) (h : (tS s (a : Int) e m).e = 0) : Tok s a (tS s (a : Int) e m).a (ptx (tS s (a : Int) e m).x) := by
  have he := st_T h
  subst he
  unfold tS at h ⊢
  rw [if_pos rfl] at h ⊢
  by_cases h1 : (txtAt s a).e = 0
  · rw [if_pos h1] at h ⊢
    by_cases h2 : ((txtAt s a).x.size : Int) ≤ m
    · rw [if_pos h2]
      obtain ⟨to, g1, g2, g3, g4⟩ := txtAt_one s a h1
      exact ⟨to, g1, g2, g3, g4⟩
    · rw [if_neg h2] at h
      simp at h
  · rw [if_neg h1] at h
    exact absurd (by simpa using h) h1
end Go.Proofs.YtlkidnfgodficaaGreat
namespace Go.Proofs.YtlkidnfgodficaaGreat
open Go.RowKit Go.Maps
set_option linter.unusedVariables false
set_option linter.unusedSimpArgs false

/-- a truth that a reader takes -/
def dcF (s : ByteArray) (a e : Int) : St := nS s a e (fitBl (rdAt s a).n) 3
theorem fit_bl (n : Nat) : fitI 1 n = fitBl n := by
  unfold fitI fitBl
  by_cases h : n ≤ 1
  · rw [decide_eq_true h, decide_eq_true (by omega)]
  · rw [decide_eq_false h, decide_eq_false (by omega)]
theorem dcF_of (s : ByteArray) (a e : Int) (h : (dcN s 1 a e).e = 0 ∨ (dcF s a e).e = 0) : dcF s a e = dcN s 1 a e := by
  unfold dcF dcN at *
  rw [fit_bl] at *
  unfold nS at *
  split
  · split
    · split
      · rfl
      · rename_i h1 h2 h3
        rw [if_pos h1, if_pos h2, if_neg h3, if_pos h1, if_pos h2, if_neg h3] at h
        simp at h
    · rfl
  · rfl
theorem st_F {s : ByteArray} {a e : Int} (h : (dcF s a e).e = 0) : e = 0 := by
  by_cases he : e = 0
  · exact he
  · unfold dcF nS at h; rw [if_neg he] at h; exact absurd h he
theorem tok_F (s : ByteArray) (e : Int) (a : Nat) (h : (dcF s (a : Int) e).e = 0) : Tok s a (dcF s (a : Int) e).a (put (dcF s (a : Int) e).n) ∧ (dcF s (a : Int) e).n ≤ 1 := by
  have h1 := dcF_of s a e (.inr h)
  rw [h1] at h ⊢
  have := dcN_le s 1 a e (by omega)
  exact ⟨tok_N s 1 e a h, by omega⟩
end Go.Proofs.YtlkidnfgodficaaGreat
namespace Go.Proofs.YtlkidnfgodficaaGreat
open Go.RowKit Go.Maps
set_option linter.unusedVariables false
set_option linter.unusedSimpArgs false

/-- a message -/
structure Ms where
  kd : Int
  fr : Int
  to_ : Int
  tm : Int
  ix : Int
  lt : Int
  cm : Int
  rd : Int
  at_ : Int
  ys : Bool
  es : List En
  da : ByteArray
def Ms.nm (m : Ms) : List Int := [m.kd, m.fr, m.to_, m.tm, m.ix, m.lt, m.cm, m.rd, m.at_]
def msV (v : Value) (m : Ms) : Value := .agg #[.int .i64 m.kd, .int .i64 m.fr, .int .i64 m.to_, .int .i64 m.tm, .int .i64 m.ix, .int .i64 m.lt, .int .i64 m.cm, .int .i64 m.rd, .int .i64 m.at_, .bool m.ys, v, .string m.da]
/-- may an entry stand behind one of the term lo, in the term hi? -/
def meOk (lo hi : Int) (x : En) : Bool := decide (lo ≤ x.tm) && (decide (x.tm ≤ hi) && (decide (0 ≤ x.kd) && (decide (x.kd ≤ 255) && decide (x.da.size ≤ 65536))))
def mesOk (lo hi : Int) : List En → Bool
  | [] => true
  | x :: r => meOk lo hi x && mesOk x.tm hi r
def ndOk (n : Int) : Bool := decide (0 ≤ n) && decide (n < 7)
def tmB (n : Int) : Bool := decide (0 ≤ n) && decide (n ≤ 1099511627776)
/-- may a message be? -/
def msOk (m : Ms) : Bool :=
  (decide (1 ≤ m.kd) && decide (m.kd ≤ 6)) && ((ndOk m.fr && (ndOk m.to_ && !decide (m.fr = m.to_))) && (m.nm.all tmB && ((decide (m.lt ≤ m.tm) && (decide (m.es.length ≤ 16) && decide (m.da.size ≤ 4096))) && mesOk m.lt m.tm m.es)))
/-- the text of an entry, and of a message -/
def meB (x : En) : List UInt8 := put x.tm.toNat ++ (put x.kd.toNat ++ ptx x.da)
def mesB (l : List En) : List UInt8 := l.flatMap meB
def ysB (b : Bool) : List UInt8 := put (if b = true then 1 else 0)
def mgB (m : Ms) : List UInt8 := msB m.nm ++ (ysB m.ys ++ (put m.es.length ++ (mesB m.es ++ ptx m.da)))
def mgS (m : Ms) : ByteArray := if msOk m = true then ⟨(mgB m).toArray⟩ else ⟨#[]⟩
def mgE (m : Ms) : Int := if msOk m = true then 0 else 1
/-- a reader behind some entries, and these -/
structure DeR where
  a : Int
  e : Int
  l : List En
def dcE (s : ByteArray) : Nat → Int → Int → DeR
  | 0, a, e => ⟨a, e, []⟩
  | j + 1, a, e =>
    let t := dcN s 1099511627776 a e
    let k := dcN s 255 t.a t.e
    let d := tS s k.a k.e 65536
    let r := dcE s j d.a d.e
    ⟨r.a, r.e, ⟨(t.n : Int), (k.n : Int), d.x⟩ :: r.l⟩
/-- a reader behind a message, and this -/
structure DmR where
  a : Int
  e : Int
  m : Ms
def mdT (s : ByteArray) : DmR :=
  let p0 := dcN s 1099511627776 0 0
  let p1 := dcN s 1099511627776 p0.a p0.e
  let p2 := dcN s 1099511627776 p1.a p1.e
  let p3 := dcN s 1099511627776 p2.a p2.e
  let p4 := dcN s 1099511627776 p3.a p3.e
  let p5 := dcN s 1099511627776 p4.a p4.e
  let p6 := dcN s 1099511627776 p5.a p5.e
  let p7 := dcN s 1099511627776 p6.a p6.e
  let p8 := dcN s 1099511627776 p7.a p7.e
  let y := dcF s p8.a p8.e
  let c := dcN s 16 y.a y.e
  let l := dcE s c.n c.a c.e
  let t := tS s l.a l.e 4096
  ⟨t.a, t.e, ⟨p0.n, p1.n, p2.n, p3.n, p4.n, p5.n, p6.n, p7.n, p8.n, (y.n : Int) == 1, l.l, t.x⟩⟩
def mdOk (s : ByteArray) : Bool := (endE s (mdT s).a (mdT s).e == 0) && msOk (mdT s).m
def ms0 : Ms := ⟨0, 0, 0, 0, 0, 0, 0, 0, 0, false, [], ⟨#[]⟩⟩
def mdV (s : ByteArray) : Ms := if mdOk s = true then (mdT s).m else ms0
def mdE (s : ByteArray) : Int := if mdOk s = true then 0 else 3
/-- what an entry of a message that may be is -/
structure MeN (x : En) : Prop where
  t0 : 0 ≤ x.tm
  t1 : x.tm ≤ 1099511627776
  k0 : 0 ≤ x.kd
  k1 : x.kd ≤ 255
  z : x.da.size ≤ 65536
theorem mesOk_in {hi : Int} (hh : hi ≤ 1099511627776) : ∀ {l : List En} {lo : Int}, 0 ≤ lo → mesOk lo hi l = true → ∀ x ∈ l, MeN x
  | [], _, _, _, x, hx => by simp at hx
  | y :: r, lo, hlo, h, x, hx => by
    simp only [mesOk, meOk, Bool.and_eq_true, decide_eq_true_eq] at h
    obtain ⟨⟨h1, h2, h3, h4, h5⟩, h6⟩ := h
    rcases List.mem_cons.1 hx with rfl | hx
    · exact ⟨by omega, by omega, h3, h4, h5⟩
    · exact mesOk_in hh (by omega) h6 x hx
/-- what a message that may be is -/
structure MsN (m : Ms) : Prop where
  nm : ∀ n ∈ m.nm, 0 ≤ n ∧ n ≤ 1099511627776
  k0 : 1 ≤ m.kd
  k1 : m.kd ≤ 6
  es : m.es.length ≤ 16
  da : m.da.size ≤ 4096
  en : ∀ x ∈ m.es, MeN x
theorem msOk_in {m : Ms} (h : msOk m = true) : MsN m := by
  unfold msOk at h
  simp only [Bool.and_eq_true, decide_eq_true_eq, List.all_eq_true] at h
  obtain ⟨⟨h1, h2⟩, -, h3, ⟨h4, h5, h6⟩, h7⟩ := h
  have hn : ∀ n ∈ m.nm, 0 ≤ n ∧ n ≤ 1099511627776 := fun n hn => by
    have := h3 n hn
    simpa only [tmB, Bool.and_eq_true, decide_eq_true_eq] using this
  exact ⟨hn, h1, h2, h5, h6, mesOk_in (hn m.tm (by simp [Ms.nm])).2 (hn m.lt (by simp [Ms.nm])).1 h7⟩
theorem dcE_len (s : ByteArray) : ∀ (j : Nat) (a e : Int), (dcE s j a e).l.length = j
  | 0, _, _ => rfl
  | j + 1, a, e => by simp only [dcE, List.length_cons]; rw [dcE_len s j]
theorem mdT_len (s : ByteArray) : (mdT s).m.es.length ≤ 16 := by
  have h : ∀ (y c : St), c = dcN s 16 y.a y.e → (dcE s c.n c.a c.e).l.length ≤ 16 := by
    intro y c hc
    rw [dcE_len]
    have := dcN_le s 16 y.a y.e (by omega)
    subst hc
    omega
  exact h _ _ rfl
theorem mdV_len (s : ByteArray) : (mdV s).es.length ≤ 16 := by
  unfold mdV
  split
  · exact mdT_len s
  · exact Nat.zero_le _
end Go.Proofs.YtlkidnfgodficaaGreat
namespace Go.Proofs.YtlkidnfgodficaaGreat
open Go.RowKit Go.Maps
set_option linter.unusedVariables false
set_option linter.unusedSimpArgs false

theorem dcE_put (s : ByteArray) : ∀ (l : List En) (p r : List UInt8), s.data.toList = p ++ (mesB l ++ r) → (∀ x ∈ l, MeN x) → dcE s l.length (p.length : Int) 0 = ⟨(((p ++ mesB l).length : Nat) : Int), 0, l⟩
  | [], p, r, hs, _ => by simp [dcE, mesB]
  | x :: t, p, r, hs, hb => by
    have hx := hb x (by simp)
    obtain ⟨tm, kd, da⟩ := x
    obtain ⟨t0, t1, k0, k1, z⟩ := hx
    simp only at t0 t1 k0 k1 z
    obtain ⟨n, rfl⟩ : ∃ n : Nat, tm = (n : Int) := ⟨tm.toNat, by omega⟩
    obtain ⟨k, rfl⟩ : ∃ n : Nat, kd = (n : Int) := ⟨kd.toNat, by omega⟩
    have hm : mesB ((⟨(n : Int), (k : Int), da⟩ : En) :: t) = put n ++ (put k ++ (ptx da ++ mesB t)) := by simp [mesB, meB]
    rw [hm] at hs
    have h0 := dcN_put s p (put k ++ (ptx da ++ mesB t) ++ r) n 1099511627776 (by rw [hs]; simp) (by omega) (by omega)
    have h1 := dcN_put s (p ++ put n) (ptx da ++ mesB t ++ r) k 255 (by rw [hs]; simp) (by omega) (by omega)
    have h2 := tS_put s (p ++ put n ++ put k) (mesB t ++ r) da 65536 (by rw [hs]; simp) (by omega) (by omega)
    have h3 := dcE_put s t (p ++ put n ++ put k ++ ptx da) r (by rw [hs]; simp) (fun y hy => hb y (List.mem_cons_of_mem _ hy))
    simp only [List.length_cons, dcE]
    rw [h0]
    simp only
    rw [h1]
    simp only
    rw [h2]
    simp only
    rw [h3, hm]
    simp only [List.append_assoc]
theorem mg_enc {m : Ms} (h : msOk m = true) : mdOk (mgS m) = true ∧ mdV (mgS m) = m := by
  have hn := msOk_in h
  have he : mgS m = ⟨(mgB m).toArray⟩ := by unfold mgS; rw [if_pos h]
  have hd : (mgS m).data.toList = mgB m := by rw [he]
  have hz : (mgS m).size = (mgB m).length := size_of _ _ hd
  generalize mgS m = s at *
  clear he
  have hT : mdT s = ⟨(((mgB m).length : Nat) : Int), 0, m⟩ := by
    obtain ⟨hnm, k0, k1, hes, hda, hen⟩ := hn
    obtain ⟨n0, n1, n2, n3, n4, n5, n6, n7, n8, ys, es, da⟩ := m
    simp only [Ms.nm] at hnm hes hda hen
    have g : ∀ x : Int, 0 ≤ x ∧ x ≤ 1099511627776 → ∃ n : Nat, x = (n : Int) ∧ n ≤ 1099511627776 := fun x hx => ⟨x.toNat, by omega, by omega⟩
    obtain ⟨a0, rfl, b0⟩ := g n0 (hnm n0 (by simp))
    obtain ⟨a1, rfl, b1⟩ := g n1 (hnm n1 (by simp))
    obtain ⟨a2, rfl, b2⟩ := g n2 (hnm n2 (by simp))
    obtain ⟨a3, rfl, b3⟩ := g n3 (hnm n3 (by simp))
    obtain ⟨a4, rfl, b4⟩ := g n4 (hnm n4 (by simp))
    obtain ⟨a5, rfl, b5⟩ := g n5 (hnm n5 (by simp))
    obtain ⟨a6, rfl, b6⟩ := g n6 (hnm n6 (by simp))
    obtain ⟨a7, rfl, b7⟩ := g n7 (hnm n7 (by simp))
    obtain ⟨a8, rfl, b8⟩ := g n8 (hnm n8 (by simp))
    clear hnm g k0 k1 h hz
    obtain ⟨yn, hyn, hy1, hyb⟩ : ∃ yn : Nat, (if ys = true then 1 else 0) = yn ∧ yn ≤ 1 ∧ ((yn : Int) == 1) = ys := by
      cases ys
      · exact ⟨0, rfl, by omega, rfl⟩
      · exact ⟨1, rfl, by omega, rfl⟩
    have e0 : mgB ⟨(a0 : Int), (a1 : Int), (a2 : Int), (a3 : Int), (a4 : Int), (a5 : Int), (a6 : Int), (a7 : Int), (a8 : Int), ys, es, da⟩ = put a0 ++ (put a1 ++ (put a2 ++ (put a3 ++ (put a4 ++ (put a5 ++ (put a6 ++ (put a7 ++ (put a8 ++ (put yn ++ (put es.length ++ (mesB es ++ ptx da))))))))))) := by
      unfold mgB ysB
      rw [hyn]
      simp [Ms.nm, msB]
    rw [e0] at hd ⊢
    generalize hM : mesB es = ME at *
    have c0 := dcN_put s [] (put a1 ++ (put a2 ++ (put a3 ++ (put a4 ++ (put a5 ++ (put a6 ++ (put a7 ++ (put a8 ++ (put yn ++ (put es.length ++ (ME ++ ptx da))))))))))) a0 1099511627776 (by rw [hd]; simp) (by omega) (by omega)
    have c1 := dcN_put s (put a0) (put a2 ++ (put a3 ++ (put a4 ++ (put a5 ++ (put a6 ++ (put a7 ++ (put a8 ++ (put yn ++ (put es.length ++ (ME ++ ptx da)))))))))) a1 1099511627776 (by rw [hd]) (by omega) (by omega)
    have c2 := dcN_put s (put a0 ++ put a1) (put a3 ++ (put a4 ++ (put a5 ++ (put a6 ++ (put a7 ++ (put a8 ++ (put yn ++ (put es.length ++ (ME ++ ptx da))))))))) a2 1099511627776 (by rw [hd]; simp) (by omega) (by omega)
    have c3 := dcN_put s (put a0 ++ put a1 ++ put a2) (put a4 ++ (put a5 ++ (put a6 ++ (put a7 ++ (put a8 ++ (put yn ++ (put es.length ++ (ME ++ ptx da)))))))) a3 1099511627776 (by rw [hd]; simp) (by omega) (by omega)
    have c4 := dcN_put s (put a0 ++ put a1 ++ put a2 ++ put a3) (put a5 ++ (put a6 ++ (put a7 ++ (put a8 ++ (put yn ++ (put es.length ++ (ME ++ ptx da))))))) a4 1099511627776 (by rw [hd]; simp) (by omega) (by omega)
    have c5 := dcN_put s (put a0 ++ put a1 ++ put a2 ++ put a3 ++ put a4) (put a6 ++ (put a7 ++ (put a8 ++ (put yn ++ (put es.length ++ (ME ++ ptx da)))))) a5 1099511627776 (by rw [hd]; simp) (by omega) (by omega)
    have c6 := dcN_put s (put a0 ++ put a1 ++ put a2 ++ put a3 ++ put a4 ++ put a5) (put a7 ++ (put a8 ++ (put yn ++ (put es.length ++ (ME ++ ptx da))))) a6 1099511627776 (by rw [hd]; simp) (by omega) (by omega)
    have c7 := dcN_put s (put a0 ++ put a1 ++ put a2 ++ put a3 ++ put a4 ++ put a5 ++ put a6) (put a8 ++ (put yn ++ (put es.length ++ (ME ++ ptx da)))) a7 1099511627776 (by rw [hd]; simp) (by omega) (by omega)
    have c8 := dcN_put s (put a0 ++ put a1 ++ put a2 ++ put a3 ++ put a4 ++ put a5 ++ put a6 ++ put a7) (put yn ++ (put es.length ++ (ME ++ ptx da))) a8 1099511627776 (by rw [hd]; simp) (by omega) (by omega)
    have cy := dcN_put s (put a0 ++ put a1 ++ put a2 ++ put a3 ++ put a4 ++ put a5 ++ put a6 ++ put a7 ++ put a8) (put es.length ++ (ME ++ ptx da)) yn 1 (by rw [hd]; simp) (by omega) (by omega)
    have cf : dcF s (((put a0 ++ put a1 ++ put a2 ++ put a3 ++ put a4 ++ put a5 ++ put a6 ++ put a7 ++ put a8).length : Nat) : Int) 0 = _ := (dcF_of s _ 0 (.inl (by rw [cy]))).trans cy
    have cl := dcN_put s (put a0 ++ put a1 ++ put a2 ++ put a3 ++ put a4 ++ put a5 ++ put a6 ++ put a7 ++ put a8 ++ put yn) (ME ++ ptx da) es.length 16 (by rw [hd]; simp) (by omega) (by omega)
    have ce := dcE_put s es (put a0 ++ put a1 ++ put a2 ++ put a3 ++ put a4 ++ put a5 ++ put a6 ++ put a7 ++ put a8 ++ put yn ++ put es.length) (ptx da) (by rw [hd, hM]; simp) hen
    rw [hM] at ce
    have ct := tS_put s (put a0 ++ put a1 ++ put a2 ++ put a3 ++ put a4 ++ put a5 ++ put a6 ++ put a7 ++ put a8 ++ put yn ++ put es.length ++ ME) [] da 4096 (by rw [hd]; simp) (by omega) (by omega)
    have c0' : dcN s 1099511627776 0 0 = ⟨(((put a0).length : Nat) : Int), 0, a0⟩ := c0
    unfold mdT
    simp only [c0', c1, c2, c3, c4, c5, c6, c7, c8, cf, cl, ce, ct, hyb]
    simp only [List.append_assoc]
  have hok : mdOk s = true := by
    unfold mdOk
    rw [hT]
    simp only
    rw [h]
    have : endE s (((mgB m).length : Nat) : Int) 0 = 0 := by
      unfold endE
      rw [if_neg]
      intro hc
      rw [hz] at hc
      omega
    rw [this]
    rfl
  refine ⟨hok, ?_⟩
  unfold mdV
  rw [if_pos hok, hT]
theorem st_E {s : ByteArray} : ∀ (j : Nat) {a e : Int}, (dcE s j a e).e = 0 → e = 0
  | 0, a, e, h => h
  | j + 1, a, e, h => by simp only [dcE] at h; exact st_N (st_N (st_T (st_E j h)))
theorem tok_E (s : ByteArray) : ∀ (j a : Nat) (e : Int), (dcE s j (a : Int) e).e = 0 → a ≤ s.size → Tok s a (dcE s j (a : Int) e).a (mesB (dcE s j (a : Int) e).l)
  | 0, a, e, h, ha => Tok.refl s a ha
  | j + 1, a, e, h, ha => by
    simp only [dcE] at h ⊢
    have hT := st_E j h
    have hK := st_T hT
    have hN := st_N hK
    have t1 := tok_N s 1099511627776 e a hN
    generalize dcN s 1099511627776 (a : Int) e = Y at *
    obtain ⟨ya, ye, yn⟩ := Y
    simp only at *
    have t1' := t1
    obtain ⟨b, rfl, b1, b2, _⟩ := t1'
    have t2 := tok_N s 255 ye b hK
    generalize dcN s 255 (b : Int) ye = K at *
    obtain ⟨ka, ke, kn⟩ := K
    simp only at *
    have t2' := t2
    obtain ⟨c, rfl, c1, c2, _⟩ := t2'
    have t3 := tok_T s 65536 ke c hT
    generalize tS s (c : Int) ke 65536 = X at *
    obtain ⟨xa, xe, xx⟩ := X
    simp only at *
    have t3' := t3
    obtain ⟨d, rfl, d1, d2, _⟩ := t3'
    have t4 := tok_E s j d xe h d2
    have := ((t1.trans t2).trans t3).trans t4
    have e0 : mesB ((⟨(yn : Int), (kn : Int), xx⟩ : En) :: (dcE s j (d : Int) xe).l) = put yn ++ put kn ++ ptx xx ++ mesB (dcE s j (d : Int) xe).l := by simp [mesB, meB]
    rw [e0]
    exact this
theorem tok_M (s : ByteArray) (h : (mdT s).e = 0) : Tok s 0 (mdT s).a (mgB (mdT s).m) := by
  unfold mdT at h ⊢
  simp only at h ⊢
  have hl := fun a e j => dcE_len s j a e
  have hT := st_T h
  have hC := st_E _ hT
  have hY := st_N hC
  have h8 := st_F hY
  have h7 := st_N h8
  have h6 := st_N h7
  have h5 := st_N h6
  have h4 := st_N h5
  have h3 := st_N h4
  have h2 := st_N h3
  have h1 := st_N h2
  have h0 := st_N h1
  have t0 := tok_N s 1099511627776 0 0 h0
  have hcast : ((0 : Nat) : Int) = 0 := rfl
  rw [hcast] at t0
  generalize dcN s 1099511627776 0 0 = Y at *
  obtain ⟨y0, e0, n0⟩ := Y
  simp only at *
  have t0' := t0
  obtain ⟨a1, rfl, _, g1, _⟩ := t0'
  have t1 := tok_N s 1099511627776 e0 a1 h1
  generalize dcN s 1099511627776 (a1 : Int) e0 = Y at *
  obtain ⟨y1, e1, n1⟩ := Y
  simp only at *
  have t1' := t1
  obtain ⟨a2, rfl, _, g2, _⟩ := t1'
  have t2 := tok_N s 1099511627776 e1 a2 h2
  generalize dcN s 1099511627776 (a2 : Int) e1 = Y at *
  obtain ⟨y2, e2, n2⟩ := Y
  simp only at *
  have t2' := t2
  obtain ⟨a3, rfl, _, g3, _⟩ := t2'
  have t3 := tok_N s 1099511627776 e2 a3 h3
  generalize dcN s 1099511627776 (a3 : Int) e2 = Y at *
  obtain ⟨y3, e3, n3⟩ := Y
  simp only at *
  have t3' := t3
  obtain ⟨a4, rfl, _, g4, _⟩ := t3'
  have t4 := tok_N s 1099511627776 e3 a4 h4
  generalize dcN s 1099511627776 (a4 : Int) e3 = Y at *
  obtain ⟨y4, e4, n4⟩ := Y
  simp only at *
  have t4' := t4
  obtain ⟨a5, rfl, _, g5, _⟩ := t4'
  have t5 := tok_N s 1099511627776 e4 a5 h5
  generalize dcN s 1099511627776 (a5 : Int) e4 = Y at *
  obtain ⟨y5, e5, n5⟩ := Y
  simp only at *
  have t5' := t5
  obtain ⟨a6, rfl, _, g6, _⟩ := t5'
  have t6 := tok_N s 1099511627776 e5 a6 h6
  generalize dcN s 1099511627776 (a6 : Int) e5 = Y at *
  obtain ⟨y6, e6, n6⟩ := Y
  simp only at *
  have t6' := t6
  obtain ⟨a7, rfl, _, g7, _⟩ := t6'
  have t7 := tok_N s 1099511627776 e6 a7 h7
  generalize dcN s 1099511627776 (a7 : Int) e6 = Y at *
  obtain ⟨y7, e7, n7⟩ := Y
  simp only at *
  have t7' := t7
  obtain ⟨a8, rfl, _, g8, _⟩ := t7'
  have t8 := tok_N s 1099511627776 e7 a8 h8
  generalize dcN s 1099511627776 (a8 : Int) e7 = Y at *
  obtain ⟨y8, e8, n8⟩ := Y
  simp only at *
  have t8' := t8
  obtain ⟨a9, rfl, _, g9, _⟩ := t8'
  have t9 := tok_F s e8 a9 hY
  generalize dcF s (a9 : Int) e8 = Y at *
  obtain ⟨ya, ye, yn⟩ := Y
  simp only at *
  have t9' := t9.1
  obtain ⟨a10, rfl, _, g10, _⟩ := t9'
  have t10 := tok_N s 16 ye a10 hC
  generalize dcN s 16 (a10 : Int) ye = Y at *
  obtain ⟨ca, ce, cn⟩ := Y
  simp only at *
  have t10' := t10
  obtain ⟨a11, rfl, _, g11, _⟩ := t10'
  have t11 := tok_E s cn a11 ce hT g11
  have hl2 := dcE_len s cn a11 ce
  generalize dcE s cn (a11 : Int) ce = Y at *
  obtain ⟨la, le, ll⟩ := Y
  simp only at *
  have t11' := t11
  obtain ⟨a12, rfl, _, g12, _⟩ := t11'
  have t12 := tok_T s 4096 le a12 h
  have e1 := (((((((((((t0.trans t1).trans t2).trans t3).trans t4).trans t5).trans t6).trans t7).trans t8).trans t9.1).trans t10).trans t11).trans t12
  have e2 : put (if ((yn : Int) == 1) = true then 1 else 0) = put yn := by
    have := t9.2
    obtain rfl | rfl : yn = 0 ∨ yn = 1 := by omega
    · rfl
    · rfl
  unfold mgB ysB
  rw [e2]
  simp only [Ms.nm, msB, hl2]
  simpa using e1
theorem md_one {t : ByteArray} (h : mdOk t = true) : msOk (mdV t) = true ∧ mgS (mdV t) = t := by
  have hv : mdV t = (mdT t).m := by unfold mdV; rw [if_pos h]
  unfold mdOk at h
  rw [Bool.and_eq_true] at h
  obtain ⟨h1, h2⟩ := h
  have h1 := beq_iff_eq.1 h1
  rw [hv]
  refine ⟨h2, ?_⟩
  unfold endE at h1
  split at h1
  · cases h1
  · rename_i hc
    have hh : (mdT t).e = 0 := h1
    have T0 := tok_M t hh
    obtain ⟨u, g1, g2, g3, g4⟩ := T0
    have hsz : t.data.toList.length = t.size := by rw [Array.length_toList]; rfl
    have hu : u = t.size := by
      have : ¬ (mdT t).a < (t.size : Int) := fun h => hc ⟨hh, h⟩
      omega
    have hd : t.data.toList = mgB (mdT t).m := by
      rw [← g4, List.drop_zero, Nat.sub_zero, List.take_of_length_le (by omega)]
    unfold mgS
    rw [if_pos h2, ← hd]
end Go.Proofs.YtlkidnfgodficaaGreat
