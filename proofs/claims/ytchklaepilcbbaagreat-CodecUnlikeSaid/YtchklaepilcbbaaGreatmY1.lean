/- Values, operations and batches in plain words: which of them may be, and their forms as lists of bytes. No form is the beginning of another one: what stands behind two forms tells nothing about them. -/
import Derived.Test.YtchklaepilcbbaaGreatH4
import Derived.Test.YtchklaepilcbbaaGreatH1
namespace Go.Proofs.YtchklaepilcbbaaGreat
open Go.RowKit

/-- A value: its kind, and its four other fields. -/
structure VP where
  k : Int
  b : Bool
  n : Int
  f : Nat
  s : ByteArray
/-- An operation. -/
structure OP where
  kind : Int
  edge : Bool
  id : Nat
  label : ByteArray
  fr : Nat
  til : Nat
  key : ByteArray
  v : VP
  pf : Nat
  pt : Nat
/-- A batch. -/
structure BP where
  number : Nat
  stamp : Nat
  ops : List OP
theorem VP.eq {x y : VP} (h1 : x.k = y.k) (h2 : x.b = y.b) (h3 : x.n = y.n) (h4 : x.f = y.f) (h5 : x.s = y.s) : x = y := by
  cases x; cases y; simp only at h1 h2 h3 h4 h5; subst h1 h2 h3 h4 h5; rfl
theorem OP.eq {x y : OP} (h1 : x.kind = y.kind) (h2 : x.edge = y.edge) (h3 : x.id = y.id) (h4 : x.label = y.label) (h5 : x.fr = y.fr) (h6 : x.til = y.til) (h7 : x.key = y.key) (h8 : x.v = y.v) (h9 : x.pf = y.pf) (h10 : x.pt = y.pt) : x = y := by
  cases x; cases y; simp only at h1 h2 h3 h4 h5 h6 h7 h8 h9 h10; subst h1 h2 h3 h4 h5 h6 h7 h8 h9 h10; rfl
theorem BP.eq {x y : BP} (h1 : x.number = y.number) (h2 : x.stamp = y.stamp) (h3 : x.ops = y.ops) : x = y := by
  cases x; cases y; simp only at h1 h2 h3; subst h1 h2 h3; rfl
/-- The value that is nothing. -/
def VP.none : VP := ⟨0, false, 0, 0, ByteArray.empty⟩
def VP.may (v : VP) : Prop := MayV v.k v.b v.n v.f v.s
/-- Its fields lie in their ranges. -/
def VP.wide (v : VP) : Prop := fits v.k ∧ fits v.n ∧ v.f < 18446744073709551616 ∧ v.s.size ≤ maxLen
theorem may_none {v : VP} (h : v.may) (hk : v.k = 0) : v = VP.none := by
  unfold VP.may MayV at h
  rw [hk] at h
  simp at h
  exact VP.eq hk h.1 h.2.1 h.2.2.1 h.2.2.2
theorem none_may : VP.none.may := by unfold VP.may MayV VP.none; simp
/-- A byte of a word; a word; a label. -/
def letterB (c : UInt8) : Bool := decide (97 ≤ c.toNat ∧ c.toNat ≤ 122)
def innerB (c : UInt8) : Bool := letterB c || decide (48 ≤ c.toNat ∧ c.toNat ≤ 57) || decide (c.toNat = 95)
def wordB (s : ByteArray) : Bool := decide (s.size ≠ 0) && decide (s.size ≤ 16) && letterB (s.data.toList.getD 0 0) && s.data.toList.all innerB
def labelB (s : ByteArray) : Bool := decide (s = ByteArray.empty) || wordB s
def idP (n : Nat) : Prop := 1 ≤ n ∧ n ≤ 1099511627776
theorem wordB_size {s : ByteArray} (h : wordB s = true) : s.size ≤ 16 ∧ s ≠ ByteArray.empty := by
  unfold wordB at h
  simp only [Bool.and_eq_true, decide_eq_true_eq] at h
  refine ⟨h.1.1.2, fun e => h.1.1.1 ?_⟩
  rw [e]; rfl
theorem labelB_size {s : ByteArray} (h : labelB s = true) : s.size ≤ 16 := by
  unfold labelB at h
  simp only [Bool.or_eq_true, decide_eq_true_eq] at h
  rcases h with h | h
  · rw [h]; exact Nat.zero_le _
  · exact (wordB_size h).1
/-- What an operation's kind asks of its fields. -/
def OP.kindP (o : OP) : Prop :=
  (o.kind = 1 ∧ o.edge = false ∧ labelB o.label = true ∧ o.fr = 0 ∧ o.til = 0 ∧ o.key = ByteArray.empty ∧ o.v = VP.none) ∨
  (o.kind = 2 ∧ o.edge = true ∧ labelB o.label = true ∧ idP o.fr ∧ idP o.til ∧ o.key = ByteArray.empty ∧ o.v = VP.none) ∨
  ((o.kind = 3 ∨ o.kind = 4) ∧ o.label = ByteArray.empty ∧ o.fr = 0 ∧ o.til = 0 ∧ o.key = ByteArray.empty ∧ o.v = VP.none) ∨
  (o.kind = 5 ∧ o.label = ByteArray.empty ∧ o.fr = 0 ∧ o.til = 0 ∧ wordB o.key = true ∧ o.v.may ∧ o.v.k ≠ 5 ∧ o.v.k ≠ 6)
/-- Which operations may be. -/
def OP.may (o : OP) : Prop := idP o.id ∧ o.pf < o.pt ∧ o.pt ≤ 1099511627776 ∧ o.kindP
/-- Its fields lie in their ranges. -/
def OP.wide (o : OP) : Prop := fits o.kind ∧ o.id < 18446744073709551616 ∧ o.label.size ≤ maxLen ∧ o.fr < 18446744073709551616 ∧ o.til < 18446744073709551616 ∧ o.key.size ≤ maxLen ∧ o.v.wide ∧ o.pf < 18446744073709551616 ∧ o.pt < 18446744073709551616
def BP.may (x : BP) : Prop := 1 ≤ x.number ∧ x.number ≤ 1073741824 ∧ x.stamp < 1099511627776 ∧ 1 ≤ x.ops.length ∧ x.ops.length ≤ 256 ∧ ∀ o ∈ x.ops, o.may
theorem OP.may_v {o : OP} (h : o.may) : o.v.may := by
  rcases h.2.2.2 with h | h | h | h
  · rw [h.2.2.2.2.2.2]; exact none_may
  · rw [h.2.2.2.2.2.2]; exact none_may
  · rw [h.2.2.2.2.2]; exact none_may
  · exact h.2.2.2.2.2.1
/-- The forms. -/
def bit8 (b : Bool) : UInt8 := if b = true then 1 else 0
theorem bit8_inj {a b : Bool} (h : bit8 a = bit8 b) : a = b := by revert h; cases a <;> cases b <;> decide
def kind8 (k : Int) : UInt8 := UInt8.ofNat k.toNat
theorem kind8_inj {a b : Int} (h : kind8 a = kind8 b) (h0 : 0 ≤ a) (h1 : a ≤ 255) (h2 : 0 ≤ b) (h3 : b ≤ 255) : a = b := by
  have e := congrArg UInt8.toNat h
  unfold kind8 at e
  rw [byte_ofNat, byte_ofNat] at e
  omega
def VP.body (v : VP) : List UInt8 :=
  if v.k = 1 then [bit8 v.b] else if v.k = 2 then encInt v.n else if v.k = 3 then encFloat v.f else if v.k = 4 then encText v.s.data.toList else if v.k = 5 ∨ v.k = 6 then encNum v.n.toNat else []
def VP.enc (v : VP) : List UInt8 := kind8 v.k :: v.body
def OP.mid (o : OP) : List UInt8 :=
  if o.kind = 1 then encText o.label.data.toList else if o.kind = 2 then encText o.label.data.toList ++ (encNum o.fr ++ encNum o.til) else if o.kind = 5 then encText o.key.data.toList ++ o.v.enc else []
def OP.enc (o : OP) : List UInt8 := kind8 o.kind :: bit8 o.edge :: (encNum o.id ++ (o.mid ++ (encNum o.pf ++ encNum o.pt)))
def encOps (l : List OP) : List UInt8 := l.flatMap OP.enc
def BP.enc (x : BP) : List UInt8 := encNum x.number ++ (encNum x.stamp ++ (encNum x.ops.length ++ encOps x.ops))
theorem encOps_nil : encOps [] = [] := rfl
theorem encOps_cons (o : OP) (l : List OP) : encOps (o :: l) = o.enc ++ encOps l := by simp [encOps]
theorem encOps_append (l m : List OP) : encOps (l ++ m) = encOps l ++ encOps m := by simp [encOps]

/-- No number's form is the beginning of another one. -/
theorem apart {a b p q : List UInt8} (h : Lib.compareBytes (a ++ p) (b ++ q) = -1) : a ++ p ≠ b ++ q := fun e => by
  rw [e, cb_self] at h; omega
theorem pc_num {a b : Nat} (ha : a < 2 ^ 64) (hb : b < 2 ^ 64) {p q : List UInt8} (h : encNum a ++ p = encNum b ++ q) : a = b ∧ p = q := by
  rcases Nat.lt_trichotomy a b with l | l | l
  · exact absurd h (apart (encNum_lt a b l hb p q))
  · subst l; exact ⟨rfl, List.append_cancel_left h⟩
  · exact absurd h.symm (apart (encNum_lt b a l ha q p))
theorem pc_int {a b : Int} (ha : fits a) (hb : fits b) {p q : List UInt8} (h : encInt a ++ p = encInt b ++ q) : a = b ∧ p = q := by
  rcases Int.lt_trichotomy a b with l | l | l
  · exact absurd h (apart (encInt_lt a b l ha hb p q))
  · subst l; exact ⟨rfl, List.append_cancel_left h⟩
  · exact absurd h.symm (apart (encInt_lt b a l hb ha q p))
theorem pc_float {a b : Nat} (ha : a < 18446744073709551616) (hb : b < 18446744073709551616) {p q : List UInt8} (h : encFloat a ++ p = encFloat b ++ q) : a = b ∧ p = q := by
  have la := placeF_lt a ha
  have lb := placeF_lt b hb
  rcases Nat.lt_trichotomy (placeF a) (placeF b) with l | l | l
  · exact absurd h (apart (encFloat_lt a b l lb p q))
  · have e := place_inj a b ha hb l
    subst e; exact ⟨rfl, List.append_cancel_left h⟩
  · exact absurd h.symm (apart (encFloat_lt b a l la q p))
theorem pc_text {a b : List UInt8} {p q : List UInt8} (h : encText a ++ p = encText b ++ q) : a = b ∧ p = q := by
  rcases cb_range a b with l | l | l
  · exact absurd h (apart (encText_lt a b l p q))
  · have e := cb_zero a b l
    subst e; exact ⟨rfl, List.append_cancel_left h⟩
  · have l' : Lib.compareBytes b a = -1 := by rw [cb_anti, l]
    exact absurd h.symm (apart (encText_lt b a l' q p))
theorem pc_str {a b : ByteArray} {p q : List UInt8} (h : encText a.data.toList ++ p = encText b.data.toList ++ q) : a = b ∧ p = q := by
  obtain ⟨h1, h2⟩ := pc_text h
  exact ⟨ByteArray.ext (Array.toList_inj.1 h1), h2⟩
theorem vp_kind {v : VP} (h : v.may) : 0 ≤ v.k ∧ v.k ≤ 6 := by
  unfold VP.may MayV at h; omega
/-- Values: what stands behind two forms that begin alike is alike, and so are the values. -/
theorem pc_value {x y : VP} (hx : x.may) (hy : y.may) (wx : x.wide) (wy : y.wide) {p q : List UInt8} (h : x.enc ++ p = y.enc ++ q) : x = y ∧ p = q := by
  unfold VP.enc at h
  rw [List.cons_append, List.cons_append] at h
  obtain ⟨h1, h2⟩ := List.cons.inj h
  have kx := vp_kind hx
  have ky := vp_kind hy
  have hk := kind8_inj h1 kx.1 (by omega) ky.1 (by omega)
  obtain ⟨k, b, n, f, s⟩ := x
  obtain ⟨k', b', n', f', s'⟩ := y
  simp only at hk
  subst hk
  unfold VP.may MayV at hx hy
  unfold VP.wide at wx wy
  unfold VP.body at h2
  simp only at hx hy wx wy h2 kx
  have hc : k = 0 ∨ k = 1 ∨ k = 2 ∨ k = 3 ∨ k = 4 ∨ k = 5 ∨ k = 6 := by omega
  rcases hc with rfl | rfl | rfl | rfl | rfl | rfl | rfl
  · simp at hx hy h2
    obtain ⟨rfl, rfl, rfl, rfl⟩ := hx
    obtain ⟨rfl, rfl, rfl, rfl⟩ := hy
    exact ⟨rfl, h2⟩
  · simp at hx hy h2
    obtain ⟨rfl, rfl, rfl⟩ := hx
    obtain ⟨rfl, rfl, rfl⟩ := hy
    obtain ⟨e1, e2⟩ := h2
    have := bit8_inj e1
    subst this
    exact ⟨rfl, e2⟩
  · simp at hx hy h2
    obtain ⟨rfl, rfl, rfl⟩ := hx
    obtain ⟨rfl, rfl, rfl⟩ := hy
    obtain ⟨e1, e2⟩ := pc_int wx.2.1 wy.2.1 h2
    subst e1
    exact ⟨rfl, e2⟩
  · simp at hx hy h2
    obtain ⟨rfl, rfl, rfl, _⟩ := hx
    obtain ⟨rfl, rfl, rfl, _⟩ := hy
    obtain ⟨e1, e2⟩ := pc_float wx.2.2.1 wy.2.2.1 h2
    subst e1
    exact ⟨rfl, e2⟩
  · simp at hx hy h2
    obtain ⟨rfl, rfl, rfl, _⟩ := hx
    obtain ⟨rfl, rfl, rfl, _⟩ := hy
    obtain ⟨e1, e2⟩ := pc_str h2
    subst e1
    exact ⟨rfl, e2⟩
  · simp at hx hy h2
    obtain ⟨rfl, rfl, rfl, _⟩ := hx
    obtain ⟨rfl, rfl, rfl, _⟩ := hy
    obtain ⟨e1, e2⟩ := pc_num (by omega) (by omega) h2
    have : n = n' := by omega
    subst this
    exact ⟨rfl, e2⟩
  · simp at hx hy h2
    obtain ⟨rfl, rfl, rfl, _⟩ := hx
    obtain ⟨rfl, rfl, rfl, _⟩ := hy
    obtain ⟨e1, e2⟩ := pc_num (by omega) (by omega) h2
    have : n = n' := by omega
    subst this
    exact ⟨rfl, e2⟩
theorem kindP_range {o : OP} (h : o.kindP) : 1 ≤ o.kind ∧ o.kind ≤ 5 := by unfold OP.kindP at h; omega
/-- Operations, the same. -/
theorem pc_op {x y : OP} (hx : x.may) (hy : y.may) (wx : x.wide) (wy : y.wide) {p q : List UInt8} (h : x.enc ++ p = y.enc ++ q) : x = y ∧ p = q := by
  unfold OP.enc at h
  simp only [List.cons_append, List.append_assoc] at h
  obtain ⟨h1, h2⟩ := List.cons.inj h
  obtain ⟨h3, h4⟩ := List.cons.inj h2
  clear h h2
  obtain ⟨ix, px, qx, cx⟩ := hx
  obtain ⟨iy, py, qy, cy⟩ := hy
  have rx := kindP_range cx
  have ry := kindP_range cy
  have hk := kind8_inj h1 (by omega) (by omega) (by omega) (by omega)
  have he := bit8_inj h3
  unfold idP at ix iy
  obtain ⟨hi, h5⟩ := pc_num (by omega) (by omega) h4
  clear h1 h3 h4
  have last : ∀ {r : List UInt8} {t : List UInt8}, encNum x.pf ++ (encNum x.pt ++ r) = encNum y.pf ++ (encNum y.pt ++ t) → x.pf = y.pf ∧ x.pt = y.pt ∧ r = t := by
    intro r t h
    obtain ⟨e1, h⟩ := pc_num (by omega) (by omega) h
    obtain ⟨e2, h⟩ := pc_num (by omega) (by omega) h
    exact ⟨e1, e2, h⟩
  unfold OP.kindP at cx cy
  unfold OP.mid at h5
  rw [← hk] at cy h5
  have hc : x.kind = 1 ∨ x.kind = 2 ∨ x.kind = 3 ∨ x.kind = 4 ∨ x.kind = 5 := by omega
  rcases hc with e | e | e | e | e
  · rw [e] at cx cy h5
    simp at cx cy h5
    obtain ⟨_, _, a2, a3, a4, a5⟩ := cx
    obtain ⟨_, _, b2, b3, b4, b5⟩ := cy
    obtain ⟨e1, h6⟩ := pc_str h5
    obtain ⟨e2, e3, e4⟩ := last h6
    exact ⟨OP.eq hk he hi e1 (a2.trans b2.symm) (a3.trans b3.symm) (a4.trans b4.symm) (a5.trans b5.symm) e2 e3, e4⟩
  · rw [e] at cx cy h5
    simp at cx cy h5
    obtain ⟨_, _, a2, a3, a4, a5⟩ := cx
    obtain ⟨_, _, b2, b3, b4, b5⟩ := cy
    unfold idP at a2 a3 b2 b3
    obtain ⟨e1, h6⟩ := pc_str h5
    obtain ⟨f1, h7⟩ := pc_num (by omega) (by omega) h6
    obtain ⟨f2, h8⟩ := pc_num (by omega) (by omega) h7
    obtain ⟨e2, e3, e4⟩ := last h8
    exact ⟨OP.eq hk he hi e1 f1 f2 (a4.trans b4.symm) (a5.trans b5.symm) e2 e3, e4⟩
  · rw [e] at cx cy h5
    simp at cx cy h5
    obtain ⟨a1, a2, a3, a4, a5⟩ := cx
    obtain ⟨b1, b2, b3, b4, b5⟩ := cy
    obtain ⟨e2, e3, e4⟩ := last h5
    exact ⟨OP.eq hk he hi (a1.trans b1.symm) (a2.trans b2.symm) (a3.trans b3.symm) (a4.trans b4.symm) (a5.trans b5.symm) e2 e3, e4⟩
  · rw [e] at cx cy h5
    simp at cx cy h5
    obtain ⟨a1, a2, a3, a4, a5⟩ := cx
    obtain ⟨b1, b2, b3, b4, b5⟩ := cy
    obtain ⟨e2, e3, e4⟩ := last h5
    exact ⟨OP.eq hk he hi (a1.trans b1.symm) (a2.trans b2.symm) (a3.trans b3.symm) (a4.trans b4.symm) (a5.trans b5.symm) e2 e3, e4⟩
  · rw [e] at cx cy h5
    simp at cx cy h5
    obtain ⟨a1, a2, a3, a4, a5, _⟩ := cx
    obtain ⟨b1, b2, b3, b4, b5, _⟩ := cy
    obtain ⟨e1, h6⟩ := pc_str h5
    obtain ⟨f1, h7⟩ := pc_value a5 b5 wx.2.2.2.2.2.2.1 wy.2.2.2.2.2.2.1 h6
    obtain ⟨e2, e3, e4⟩ := last h7
    exact ⟨OP.eq hk he hi (a1.trans b1.symm) (a2.trans b2.symm) (a3.trans b3.symm) e1 f1 e2 e3, e4⟩
theorem pc_ops : ∀ (l m : List OP) (p q : List UInt8), (∀ o ∈ l, o.may ∧ o.wide) → (∀ o ∈ m, o.may ∧ o.wide) → l.length = m.length → encOps l ++ p = encOps m ++ q → l = m ∧ p = q
  | [], [], _, _, _, _, _, h => ⟨rfl, h⟩
  | [], _ :: _, _, _, _, _, h, _ => by simp at h
  | _ :: _, [], _, _, _, _, h, _ => by simp at h
  | x :: l, y :: m, p, q, hl, hm, hn, h => by
    rw [encOps_cons, encOps_cons, List.append_assoc, List.append_assoc] at h
    obtain ⟨e, h⟩ := pc_op (hl x (by simp)).1 (hm y (by simp)).1 (hl x (by simp)).2 (hm y (by simp)).2 h
    obtain ⟨e2, h⟩ := pc_ops l m p q (fun o ho => hl o (by simp [ho])) (fun o ho => hm o (by simp [ho])) (by simpa using hn) h
    exact ⟨by rw [e, e2], h⟩
theorem pc_batch {x y : BP} (hx : x.may) (hy : y.may) (wx : ∀ o ∈ x.ops, o.wide) (wy : ∀ o ∈ y.ops, o.wide) {p q : List UInt8} (h : x.enc ++ p = y.enc ++ q) : x = y ∧ p = q := by
  unfold BP.enc at h
  simp only [List.append_assoc] at h
  obtain ⟨a1, a2, a3, a4, a5, a6⟩ := hx
  obtain ⟨b1, b2, b3, b4, b5, b6⟩ := hy
  obtain ⟨e1, h⟩ := pc_num (by omega) (by omega) h
  obtain ⟨e2, h⟩ := pc_num (by omega) (by omega) h
  obtain ⟨e3, h⟩ := pc_num (by omega) (by omega) h
  obtain ⟨e4, h⟩ := pc_ops _ _ _ _ (fun o ho => ⟨a6 o ho, wx o ho⟩) (fun o ho => ⟨b6 o ho, wy o ho⟩) e3 h
  exact ⟨BP.eq e1 e2 e4, h⟩
end Go.Proofs.YtchklaepilcbbaaGreat
