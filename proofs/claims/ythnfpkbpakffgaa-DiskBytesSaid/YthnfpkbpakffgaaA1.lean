/- The disk in plain terms: files in a row by rising names, and what each call does to them. -/
namespace Disk
abbrev Nm := List UInt8
/-- A file: its name, its bytes, how many of them are safe. -/
structure Fl where
  nm : Nm
  bs : List UInt8
  s : Nat
/-- A disk: its files, its quota, its fuse (-1: none), whether the power is off. -/
structure DS where
  L : List Fl
  q : Int
  fu : Int
  off : Bool
def okByte (c : UInt8) : Bool := (97 ≤ c && c ≤ 122) || (48 ≤ c && c ≤ 57) || c == 45 || c == 46
def okName (x : Nm) : Bool := decide (1 ≤ x.length) && decide (x.length ≤ 32) && x.all okByte
section
variable {α β : Type}
/-- Put among the others, by its name. -/
def ins (f : α → Nm) (e : α) : List α → List α
  | [] => [e]
  | a :: l => if f e < f a then e :: a :: l else a :: ins f e l
def del (f : α → Nm) (x : Nm) (l : List α) : List α := l.filter fun a => !decide (f a = x)
def upd (f : α → Nm) (x : Nm) (g : α → α) (l : List α) : List α := l.map fun a => if f a = x then g a else a
def fnd (f : α → Nm) (x : Nm) (l : List α) : Option α := l.find? fun a => decide (f a = x)
/-- Names rise. -/
def Up (f : α → Nm) (l : List α) : Prop := l.Pairwise fun a b => f a < f b
theorem mem_ins {f : α → Nm} {e : α} {l : List α} {a : α} : a ∈ ins f e l ↔ a = e ∨ a ∈ l := by
  induction l with
  | nil => simp [ins]
  | cons b l ih =>
    unfold ins
    split
    · simp
    · rw [List.mem_cons, ih, List.mem_cons]
      constructor
      · rintro (h | h | h) <;> simp [h]
      · rintro (h | h | h) <;> simp [h]
theorem mem_del {f : α → Nm} {x : Nm} {l : List α} {a : α} : a ∈ del f x l ↔ a ∈ l ∧ f a ≠ x := by simp [del]
theorem mem_upd {f : α → Nm} {x : Nm} {g : α → α} {l : List α} {a : α} : a ∈ upd f x g l ↔ ∃ b ∈ l, (if f b = x then g b else b) = a := by simp [upd]
theorem len_ins {f : α → Nm} {e : α} (l : List α) : (ins f e l).length = l.length + 1 := by
  induction l with
  | nil => rfl
  | cons b l ih =>
    unfold ins
    split
    · rfl
    · simp [ih]
theorem len_upd {f : α → Nm} {x : Nm} {g : α → α} {l : List α} : (upd f x g l).length = l.length := by simp [upd]
theorem len_del {f : α → Nm} {x : Nm} {l : List α} : (del f x l).length ≤ l.length := List.length_filter_le _ _
theorem map_ins {f : α → Nm} {h : β → Nm} {r : α → β} (hr : ∀ a, h (r a) = f a) (e : α) (l : List α) : (ins f e l).map r = ins h (r e) (l.map r) := by
  induction l with
  | nil => rfl
  | cons b l ih =>
    simp only [ins, List.map_cons, hr]
    split
    · rfl
    · simp [ih]
theorem map_del {f : α → Nm} {h : β → Nm} {r : α → β} (hr : ∀ a, h (r a) = f a) (x : Nm) (l : List α) : (del f x l).map r = del h x (l.map r) := by
  unfold del
  rw [List.filter_map]
  congr 2
  funext a
  simp [hr]
theorem map_upd {f : α → Nm} {h : β → Nm} {r : α → β} (hr : ∀ a, h (r a) = f a) (x : Nm) (g : α → α) (g' : β → β) (hg : ∀ a, r (g a) = g' (r a)) (l : List α) : (upd f x g l).map r = upd h x g' (l.map r) := by
  unfold upd
  rw [List.map_map, List.map_map]
  refine List.map_congr_left fun a _ => ?_
  show r (if f a = x then g a else a) = if h (r a) = x then g' (r a) else r a
  rw [hr]
  split
  · exact hg a
  · rfl
theorem map_fnd {f : α → Nm} {h : β → Nm} {r : α → β} (hr : ∀ a, h (r a) = f a) (x : Nm) (l : List α) : (fnd f x l).map r = fnd h x (l.map r) := by
  unfold fnd
  rw [List.find?_map]
  congr 2
  funext a
  simp [hr]
theorem fnd_some {f : α → Nm} {x : Nm} {l : List α} {a : α} (h : fnd f x l = some a) : a ∈ l ∧ f a = x := by
  have h1 := List.find?_some h
  exact ⟨List.mem_of_find?_eq_some h, by simpa using h1⟩
theorem fnd_none {f : α → Nm} {x : Nm} {l : List α} (h : fnd f x l = none) : ∀ a ∈ l, f a ≠ x := by
  intro a ha e
  have := List.find?_eq_none.1 h a ha
  simp [e] at this
theorem nm_lt_irrefl (x : Nm) : ¬ x < x := List.lt_irrefl x
theorem nm_lt_trans {x y z : Nm} (h : x < y) (k : y < z) : x < z := List.lt_trans h k
theorem nm_ne_of_lt {x y : Nm} (h : x < y) : x ≠ y := by rintro rfl; exact nm_lt_irrefl _ h
theorem nm_tri {x y : Nm} (h : ¬ x < y) (hn : x ≠ y) : y < x := by
  have h1 : y ≤ x := List.not_lt.1 h
  exact Decidable.byContradiction fun h2 => hn (List.le_antisymm (List.not_lt.1 h2) h1)
theorem Up.nd {f : α → Nm} {l : List α} (h : Up f l) : (l.map f).Nodup := by
  rw [List.nodup_iff_pairwise_ne, List.pairwise_map]
  exact h.imp fun hab => nm_ne_of_lt hab
theorem Up.map {f : α → Nm} {h : β → Nm} {r : α → β} (hr : ∀ a, h (r a) = f a) {l : List α} : Up h (l.map r) ↔ Up f l := by
  unfold Up
  rw [List.pairwise_map]
  simp only [hr]
theorem Up.inj {f : α → Nm} {l : List α} (h : Up f l) {a b : α} (ha : a ∈ l) (hb : b ∈ l) (e : f a = f b) : a = b := by
  induction l with
  | nil => cases ha
  | cons c l ih =>
    obtain ⟨h1, h2⟩ := List.pairwise_cons.1 h
    rcases List.mem_cons.1 ha with e1 | e1 <;> rcases List.mem_cons.1 hb with e2 | e2
    · rw [e1, e2]
    · exact absurd e (e1 ▸ nm_ne_of_lt (h1 b e2))
    · exact absurd e.symm (e2 ▸ nm_ne_of_lt (h1 a e1))
    · exact ih h2 e1 e2
theorem Up.fnd {f : α → Nm} {l : List α} (h : Up f l) {a : α} (ha : a ∈ l) : Disk.fnd f (f a) l = some a := by
  cases e : Disk.fnd f (f a) l with
  | none => exact absurd rfl (fnd_none e a ha)
  | some b =>
    obtain ⟨h1, h2⟩ := fnd_some e
    rw [h.inj h1 ha h2]
theorem Up.del {f : α → Nm} {l : List α} (h : Up f l) (x : Nm) : Up f (del f x l) := List.Pairwise.filter _ h
theorem Up.upd {f : α → Nm} {l : List α} (h : Up f l) (x : Nm) {g : α → α} (hg : ∀ a, f (g a) = f a) : Up f (upd f x g l) := by
  unfold Disk.upd Up
  rw [List.pairwise_map]
  refine h.imp fun {a b} hab => ?_
  have key : ∀ c, f (if f c = x then g c else c) = f c := fun c => by split <;> simp [hg]
  rw [key, key]
  exact hab
theorem Up.ins {f : α → Nm} {l : List α} (h : Up f l) {e : α} (he : ∀ a ∈ l, f a ≠ f e) : Up f (ins f e l) := by
  induction l with
  | nil => exact List.pairwise_singleton _ _
  | cons b l ih =>
    obtain ⟨h1, h2⟩ := List.pairwise_cons.1 h
    unfold Disk.ins
    by_cases hlt : f e < f b
    · rw [if_pos hlt]
      refine List.pairwise_cons.2 ⟨fun c hc => ?_, h⟩
      rcases List.mem_cons.1 hc with rfl | hc
      · exact hlt
      · exact nm_lt_trans hlt (h1 c hc)
    · rw [if_neg hlt]
      refine List.pairwise_cons.2 ⟨fun c hc => ?_, ih h2 fun a ha => he a (by simp [ha])⟩
      rcases mem_ins.1 hc with rfl | hc
      · exact nm_tri hlt (fun e => he b (by simp) e.symm)
      · exact h1 c hc
theorem len_del_mem {f : α → Nm} {l : List α} (h : Up f l) {a : α} (ha : a ∈ l) : (del f (f a) l).length + 1 = l.length := by
  induction l with
  | nil => cases ha
  | cons b l ih =>
    obtain ⟨h1, h2⟩ := List.pairwise_cons.1 h
    unfold del
    by_cases e : f b = f a
    · have hall : ∀ c ∈ l, f c ≠ f a := fun c hc hca => nm_ne_of_lt (h1 c hc) (e.trans hca.symm)
      rw [List.filter_cons_of_neg (by simp [e]), List.filter_eq_self.2 (fun c hc => by simpa using hall c hc)]
      rfl
    · rw [List.filter_cons_of_pos (by simpa using e)]
      have hal : a ∈ l := by
        rcases List.mem_cons.1 ha with rfl | h
        · exact absurd rfl e
        · exact h
      have := ih h2 hal
      unfold del at this
      simp only [List.length_cons]
      omega
theorem del_none {f : α → Nm} {x : Nm} {l : List α} (h : ∀ a ∈ l, f a ≠ x) : del f x l = l := by
  unfold del
  exact List.filter_eq_self.2 fun a ha => by simpa using h a ha
end
def used (L : List Fl) : Nat := (L.map fun f => f.bs.length).sum
theorem used_nil : used [] = 0 := rfl
theorem used_cons (f : Fl) (L : List Fl) : used (f :: L) = f.bs.length + used L := by simp [used]
theorem used_ins (e : Fl) (L : List Fl) : used (ins Fl.nm e L) = e.bs.length + used L := by
  induction L with
  | nil => rfl
  | cons b L ih =>
    unfold ins
    split
    · rw [used_cons]
    · rw [used_cons, ih, used_cons]; omega
theorem used_del (x : Nm) (L : List Fl) : used (del Fl.nm x L) ≤ used L := by
  induction L with
  | nil => exact Nat.le_refl _
  | cons b L ih =>
    unfold del at ih ⊢
    by_cases e : b.nm = x
    · rw [List.filter_cons_of_neg (by simp [e]), used_cons]; omega
    · rw [List.filter_cons_of_pos (by simpa using e), used_cons, used_cons]; omega
theorem used_del_mem {L : List Fl} (h : Up Fl.nm L) {a : Fl} (ha : a ∈ L) : used (del Fl.nm a.nm L) + a.bs.length = used L := by
  induction L with
  | nil => cases ha
  | cons b L ih =>
    obtain ⟨h1, h2⟩ := List.pairwise_cons.1 h
    by_cases e : b.nm = a.nm
    · have hba : b = a := h.inj (by simp) ha e
      subst hba
      have hall : ∀ c ∈ L, c.nm ≠ b.nm := fun c hc hca => nm_ne_of_lt (h1 c hc) hca.symm
      unfold del
      rw [List.filter_cons_of_neg (by simp), List.filter_eq_self.2 (fun c hc => by simpa using hall c hc), used_cons]
      omega
    · have hal : a ∈ L := by
        rcases List.mem_cons.1 ha with rfl | h
        · exact absurd rfl e
        · exact h
      have := ih h2 hal
      unfold del at this ⊢
      rw [List.filter_cons_of_pos (by simpa using e), used_cons, used_cons]
      omega
theorem used_upd (x : Nm) (g : Fl → Fl) (n : Nat) (hg : ∀ a, (g a).bs.length ≤ a.bs.length + n) {L : List Fl} (h : Up Fl.nm L) : used (upd Fl.nm x g L) ≤ used L + n := by
  induction L with
  | nil => exact Nat.zero_le _
  | cons b L ih =>
    obtain ⟨h1, h2⟩ := List.pairwise_cons.1 h
    unfold upd at ih ⊢
    rw [List.map_cons, used_cons, used_cons]
    by_cases e : b.nm = x
    · have hall : L.map (fun a => if a.nm = x then g a else a) = L := by
        conv => rhs; rw [← List.map_id L]
        refine List.map_congr_left fun c hc => ?_
        rw [if_neg fun hc' => nm_ne_of_lt (h1 c hc) (e.trans hc'.symm)]
        rfl
      rw [if_pos e, hall]
      have := hg b
      omega
    · rw [if_neg e]
      have := ih h2
      omega
theorem used_mem {L : List Fl} {f : Fl} (h : f ∈ L) : f.bs.length ≤ used L := by
  induction L with
  | nil => cases h
  | cons b L ih =>
    rw [used_cons]
    rcases List.mem_cons.1 h with rfl | h
    · omega
    · have := ih h; omega
/-- What is so of every disk that New made. -/
structure Wf (d : DS) : Prop where
  up : Up Fl.nm d.L
  names : ∀ f ∈ d.L, okName f.nm = true
  safe : ∀ f ∈ d.L, f.s ≤ f.bs.length
  many : d.L.length ≤ 512
  use : used d.L ≤ 4194304
  q0 : 0 ≤ d.q
  q1 : d.q ≤ 4194304
  f0 : -1 ≤ d.fu
  f1 : d.fu ≤ 9223372036854775807
/-- A step: the fuse may have burnt down. -/
def stepR (d : DS) : Int := if d.fu = 0 then 8 else 0
def stepD (d : DS) (g : List Fl → List Fl) : DS :=
  if d.fu = 0 then { d with fu := -1, off := true } else { d with L := g d.L, fu := if 0 < d.fu then d.fu - 1 else d.fu }
/-- What a call says that asks for a file of that name. -/
def fileR (x : Nm) (d : DS) : Int := if d.off = true then 8 else if okName x = false then 1 else if fnd Fl.nm x d.L = none then 6 else 0
def createG (x : Nm) : List Fl → List Fl := ins Fl.nm ⟨x, [], 0⟩
def createR (x : Nm) (d : DS) : Int := if d.off = true then 8 else if okName x = false then 1 else if fnd Fl.nm x d.L ≠ none then 9 else if 512 ≤ d.L.length then 7 else stepR d
def createD (x : Nm) (d : DS) : DS := if d.off = true then d else if okName x = false then d else if fnd Fl.nm x d.L ≠ none then d else if 512 ≤ d.L.length then d else stepD d (createG x)
def appendF (b : List UInt8) (f : Fl) : Fl := ⟨f.nm, f.bs ++ b, f.s⟩
def appendG (x : Nm) (b : List UInt8) : List Fl → List Fl := upd Fl.nm x (appendF b)
def appendR (x : Nm) (b : List UInt8) (d : DS) : Int := if fileR x d ≠ 0 then fileR x d else if d.q - used d.L < b.length then 7 else stepR d
def appendD (x : Nm) (b : List UInt8) (d : DS) : DS := if fileR x d ≠ 0 then d else if d.q - used d.L < b.length then d else stepD d (appendG x b)
def syncF (f : Fl) : Fl := ⟨f.nm, f.bs, f.bs.length⟩
def syncG (x : Nm) : List Fl → List Fl := upd Fl.nm x syncF
def syncR (x : Nm) (d : DS) : Int := if fileR x d ≠ 0 then fileR x d else stepR d
def syncD (x : Nm) (d : DS) : DS := if fileR x d ≠ 0 then d else stepD d (syncG x)
def renameG (x y : Nm) (L : List Fl) : List Fl :=
  match fnd Fl.nm x L with
  | none => L
  | some f => ins Fl.nm ⟨y, f.bs, f.s⟩ (del Fl.nm y (del Fl.nm x L))
def renameR (x y : Nm) (d : DS) : Int := if d.off = true then 8 else if okName x = false ∨ okName y = false then 1 else if fnd Fl.nm x d.L = none then 6 else stepR d
def renameD (x y : Nm) (d : DS) : DS := if d.off = true then d else if okName x = false ∨ okName y = false then d else if fnd Fl.nm x d.L = none then d else stepD d (renameG x y)
def cutF (n : Nat) (f : Fl) : Fl := ⟨f.nm, f.bs.take n, min f.s n⟩
def truncG (x : Nm) (n : Nat) : List Fl → List Fl := upd Fl.nm x (cutF n)
def badSize (x : Nm) (n : Int) (d : DS) : Prop := n < 0 ∨ ∀ f, fnd Fl.nm x d.L = some f → (f.bs.length : Int) < n
instance (x : Nm) (n : Int) (d : DS) : Decidable (badSize x n d) := by
  unfold badSize
  cases fnd Fl.nm x d.L with
  | none => exact isTrue (.inr fun f h => by cases h)
  | some f => exact decidable_of_iff (n < 0 ∨ (f.bs.length : Int) < n) (or_congr Iff.rfl ⟨fun h g e => by cases e; exact h, fun h => h f rfl⟩)
def truncR (x : Nm) (n : Int) (d : DS) : Int := if fileR x d ≠ 0 then fileR x d else if badSize x n d then 1 else stepR d
def truncD (x : Nm) (n : Int) (d : DS) : DS := if fileR x d ≠ 0 then d else if badSize x n d then d else stepD d (truncG x n.toNat)
def removeG (x : Nm) : List Fl → List Fl := del Fl.nm x
def removeR (x : Nm) (d : DS) : Int := if fileR x d ≠ 0 then fileR x d else stepR d
def removeD (x : Nm) (d : DS) : DS := if fileR x d ≠ 0 then d else stepD d (removeG x)
def quotaR (n : Int) : Int := if 0 ≤ n ∧ n ≤ 4194304 then 0 else 1
def quotaD (n : Int) (d : DS) : DS := if 0 ≤ n ∧ n ≤ 4194304 then { d with q := n } else d
def fuseR (n : Int) (d : DS) : Int := if d.off = true then 8 else if n < -1 then 1 else 0
def fuseD (n : Int) (d : DS) : DS := if d.off = true then d else if n < -1 then d else { d with fu := n }
/-- The last byte xored. -/
def turnLast (t : UInt8) (b : List UInt8) : List UInt8 := b.take (b.length - 1) ++ (b.drop (b.length - 1)).map (· ^^^ t)
def crashB (p : Nat) (t : UInt8) (f : Fl) : List UInt8 :=
  if 0 < p % (f.bs.length - f.s + 1) then turnLast t (f.bs.take (f.s + p % (f.bs.length - f.s + 1))) else f.bs.take f.s
def crashF (p : Nat) (t : UInt8) (f : Fl) : Fl := ⟨f.nm, crashB p t f, (crashB p t f).length⟩
def crashL (ps : List Nat) (ts : List UInt8) : Nat → List Fl → List Fl
  | _, [] => []
  | k, f :: L => if f.s < f.bs.length then crashF (ps.getD k 0) (ts.getD k 0) f :: crashL ps ts (k + 1) L else f :: crashL ps ts k L
def crashD (ps : List Nat) (ts : List UInt8) (d : DS) : DS := { d with L := crashL ps ts 0 d.L, fu := -1, off := false }
def newD (q : Int) : DS := ⟨[], q, -1, false⟩
def names (L : List Fl) : List Nm := L.map Fl.nm
theorem turnLast_length (t : UInt8) (b : List UInt8) : (turnLast t b).length = b.length := by
  unfold turnLast
  simp
theorem crashB_len (p : Nat) (t : UInt8) (f : Fl) (h : f.s ≤ f.bs.length) : f.s ≤ (crashB p t f).length ∧ (crashB p t f).length ≤ f.bs.length := by
  have hm : p % (f.bs.length - f.s + 1) < f.bs.length - f.s + 1 := Nat.mod_lt _ (by omega)
  unfold crashB
  split
  · rw [turnLast_length, List.length_take]
    omega
  · rw [List.length_take]
    omega
theorem crashL_names (ps : List Nat) (ts : List UInt8) (L : List Fl) : ∀ k, (crashL ps ts k L).map Fl.nm = L.map Fl.nm := by
  induction L with
  | nil => intro k; rfl
  | cons f L ih =>
    intro k
    unfold crashL
    split
    · simp [ih, crashF]
    · simp [ih]
theorem crashL_length (ps : List Nat) (ts : List UInt8) (L : List Fl) (k : Nat) : (crashL ps ts k L).length = L.length := by
  have := congrArg List.length (crashL_names ps ts L k)
  simpa using this
theorem crashL_used (ps : List Nat) (ts : List UInt8) (L : List Fl) : ∀ k, (∀ f ∈ L, f.s ≤ f.bs.length) → used (crashL ps ts k L) ≤ used L := by
  induction L with
  | nil => intro k _; exact Nat.le_refl _
  | cons f L ih =>
    intro k h
    unfold crashL
    have hf := (crashB_len (ps.getD k 0) (ts.getD k 0) f (h f (by simp))).2
    have ht := fun k => ih k fun g hg => h g (by simp [hg])
    split
    · rw [used_cons, used_cons]
      have := ht (k + 1)
      show (crashB _ _ f).length + _ ≤ _
      omega
    · rw [used_cons, used_cons]
      have := ht k
      omega
theorem crashL_safe (ps : List Nat) (ts : List UInt8) (L : List Fl) : ∀ k, (∀ f ∈ L, f.s ≤ f.bs.length) → ∀ f ∈ crashL ps ts k L, f.s = f.bs.length := by
  induction L with
  | nil => intro k _ f hf; simp [crashL] at hf
  | cons g L ih =>
    intro k h f hf
    unfold crashL at hf
    split at hf
    · rcases List.mem_cons.1 hf with rfl | hf
      · rfl
      · exact ih _ (fun x hx => h x (by simp [hx])) f hf
    · rename_i hg
      rcases List.mem_cons.1 hf with rfl | hf
      · have := h f (by simp); omega
      · exact ih _ (fun x hx => h x (by simp [hx])) f hf
theorem up_of_names {L L' : List Fl} (h : L'.map Fl.nm = L.map Fl.nm) (hu : Up Fl.nm L) : Up Fl.nm L' := by
  unfold Up at *
  have h1 : (L.map Fl.nm).Pairwise (· < ·) := List.pairwise_map.2 hu
  rw [← h] at h1
  exact List.pairwise_map.1 h1
/-! ### Wf stays -/
theorem Wf.step {d : DS} (h : Wf d) {g : List Fl → List Fl} (h1 : Up Fl.nm (g d.L)) (h2 : ∀ f ∈ g d.L, okName f.nm = true) (h3 : ∀ f ∈ g d.L, f.s ≤ f.bs.length) (h4 : (g d.L).length ≤ 512) (h5 : used (g d.L) ≤ 4194304) : Wf (stepD d g) := by
  obtain ⟨a1, a2, a3, a4, a5, a6, a7, a8, a9⟩ := h
  unfold stepD
  split
  · exact ⟨a1, a2, a3, a4, a5, a6, a7, by show (-1 : Int) ≤ -1; omega, by show (-1 : Int) ≤ _; omega⟩
  · refine ⟨h1, h2, h3, h4, h5, a6, a7, ?_, ?_⟩
    · show -1 ≤ if 0 < d.fu then d.fu - 1 else d.fu
      split <;> omega
    · show (if 0 < d.fu then d.fu - 1 else d.fu) ≤ _
      split <;> omega
theorem Wf.create {d : DS} (h : Wf d) {x : Nm} (hx : okName x = true) (hn : fnd Fl.nm x d.L = none) (hl : ¬ 512 ≤ d.L.length) : Wf (stepD d (createG x)) := by
  refine h.step (h.up.ins fun a ha => fnd_none hn a ha) ?_ ?_ ?_ ?_
  · intro f hf
    rcases mem_ins.1 hf with rfl | hf
    · exact hx
    · exact h.names f hf
  · intro f hf
    rcases mem_ins.1 hf with rfl | hf
    · exact Nat.zero_le _
    · exact h.safe f hf
  · have := len_ins (f := Fl.nm) (e := ⟨x, [], 0⟩) d.L
    show (ins _ _ _).length ≤ _
    omega
  · have := used_ins ⟨x, [], 0⟩ d.L
    show used (ins _ _ _) ≤ _
    have := h.use
    simp only [List.length_nil] at *
    omega
theorem Wf.updd {d : DS} (h : Wf d) (x : Nm) (g : Fl → Fl) (n : Nat) (h1 : ∀ a, (g a).nm = a.nm) (h2 : ∀ a ∈ d.L, a.nm = x → (g a).s ≤ (g a).bs.length) (h3 : ∀ a, (g a).bs.length ≤ a.bs.length + n) (h4 : used d.L + n ≤ 4194304) : Wf (stepD d (upd Fl.nm x g)) := by
  refine h.step (h.up.upd x h1) ?_ ?_ ?_ ?_
  · intro f hf
    obtain ⟨b, hb, rfl⟩ := mem_upd.1 hf
    have := h.names b hb
    split
    · rw [h1]; exact this
    · exact this
  · intro f hf
    obtain ⟨b, hb, rfl⟩ := mem_upd.1 hf
    split
    · rename_i e; exact h2 b hb e
    · exact h.safe b hb
  · rw [len_upd]; exact h.many
  · have := used_upd x g n h3 h.up
    omega
theorem Wf.appendd {d : DS} (h : Wf d) (x : Nm) (b : List UInt8) (hq : ¬ d.q - used d.L < b.length) : Wf (stepD d (appendG x b)) := by
  refine h.updd x (appendF b) b.length (fun _ => rfl) (fun a ha _ => ?_) (fun a => by simp [appendF]) ?_
  · have := h.safe a ha
    simp only [appendF, List.length_append]
    omega
  · have := h.q1
    omega
theorem Wf.syncc {d : DS} (h : Wf d) (x : Nm) : Wf (stepD d (syncG x)) :=
  h.updd x syncF 0 (fun _ => rfl) (fun _ _ _ => Nat.le_refl _) (fun _ => Nat.le_refl _) h.use
theorem Wf.truncc {d : DS} (h : Wf d) (x : Nm) (n : Nat) : Wf (stepD d (truncG x n)) :=
  h.updd x (cutF n) 0 (fun _ => rfl) (fun a ha _ => by have := h.safe a ha; simp only [cutF, List.length_take]; omega) (fun a => by simp only [cutF, List.length_take]; omega) h.use
theorem Wf.removee {d : DS} (h : Wf d) (x : Nm) : Wf (stepD d (removeG x)) :=
  h.step (h.up.del x) (fun f hf => h.names f (mem_del.1 hf).1) (fun f hf => h.safe f (mem_del.1 hf).1) (Nat.le_trans len_del h.many) (Nat.le_trans (used_del _ _) h.use)
theorem Wf.renamee {d : DS} (h : Wf d) {x y : Nm} (hy : okName y = true) {f : Fl} (hf : fnd Fl.nm x d.L = some f) : Wf (stepD d (renameG x y)) := by
  obtain ⟨hm, rfl⟩ := fnd_some hf
  have hg : renameG f.nm y d.L = ins Fl.nm ⟨y, f.bs, f.s⟩ (del Fl.nm y (del Fl.nm f.nm d.L)) := by unfold renameG; rw [hf]
  refine h.step ?_ ?_ ?_ ?_ ?_ <;> rw [hg]
  · exact ((h.up.del _).del _).ins fun a ha => (mem_del.1 ha).2
  · intro g hg
    rcases mem_ins.1 hg with rfl | hg
    · exact hy
    · exact h.names g (mem_del.1 (mem_del.1 hg).1).1
  · intro g hg
    rcases mem_ins.1 hg with rfl | hg
    · exact h.safe f hm
    · exact h.safe g (mem_del.1 (mem_del.1 hg).1).1
  · have h1 := len_ins (f := Fl.nm) (e := ⟨y, f.bs, f.s⟩) (del Fl.nm y (del Fl.nm f.nm d.L))
    have h2 := len_del (f := Fl.nm) (x := y) (l := del Fl.nm f.nm d.L)
    have h3 := len_del_mem h.up hm
    have := h.many
    omega
  · rw [used_ins]
    have h2 := used_del y (del Fl.nm f.nm d.L)
    have h3 := used_del_mem h.up hm
    have := h.use
    show f.bs.length + _ ≤ _
    omega
theorem Wf.crash {d : DS} (h : Wf d) (ps : List Nat) (ts : List UInt8) : Wf (crashD ps ts d) where
  up := up_of_names (crashL_names ps ts d.L 0) h.up
  names f hf := by
    have : f.nm ∈ (crashL ps ts 0 d.L).map Fl.nm := List.mem_map_of_mem hf
    rw [crashL_names] at this
    obtain ⟨g, hg, e⟩ := List.mem_map.1 this
    rw [← e]
    exact h.names g hg
  safe f hf := Nat.le_of_eq (crashL_safe ps ts d.L 0 h.safe f hf)
  many := by show (crashL ps ts 0 d.L).length ≤ _; rw [crashL_length]; exact h.many
  use := Nat.le_trans (crashL_used ps ts d.L 0 h.safe) h.use
  q0 := h.q0
  q1 := h.q1
  f0 := by show (-1 : Int) ≤ -1; omega
  f1 := by show (-1 : Int) ≤ _; omega
theorem Wf.quota {d : DS} (h : Wf d) (n : Int) : Wf (quotaD n d) := by
  obtain ⟨a1, a2, a3, a4, a5, a6, a7, a8, a9⟩ := h
  unfold quotaD
  split
  · rename_i hn
    exact ⟨a1, a2, a3, a4, a5, hn.1, hn.2, a8, a9⟩
  · exact ⟨a1, a2, a3, a4, a5, a6, a7, a8, a9⟩
theorem Wf.fuse {d : DS} (h : Wf d) (n : Int) (hn : n ≤ 9223372036854775807) : Wf (fuseD n d) := by
  obtain ⟨a1, a2, a3, a4, a5, a6, a7, a8, a9⟩ := h
  unfold fuseD
  split
  · exact ⟨a1, a2, a3, a4, a5, a6, a7, a8, a9⟩
  · split
    · exact ⟨a1, a2, a3, a4, a5, a6, a7, a8, a9⟩
    · exact ⟨a1, a2, a3, a4, a5, a6, a7, by show -1 ≤ n; omega, hn⟩
theorem Wf.new {q : Int} (h0 : 0 ≤ q) (h1 : q ≤ 4194304) : Wf (newD q) :=
  ⟨List.Pairwise.nil, by simp [newD], by simp [newD], by simp [newD], by simp [newD, used], h0, h1, by simp [newD], by simp [newD]⟩
end Disk
