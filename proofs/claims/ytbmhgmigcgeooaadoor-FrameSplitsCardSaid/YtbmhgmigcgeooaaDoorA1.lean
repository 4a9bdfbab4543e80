/- Frames in plain terms: what is laid, what is read, what a turned bit does, groups. -/
import Derived.Test.YtbmhgmigcgeooaaDoorM2
namespace Go.Proofs.YtbmhgmigcgeooaaDoor
/-- A frame: its kind, its body. -/
structure Fr where
  k : Nat
  l : List UInt8
def Fr.ok (f : Fr) : Prop := 1 ≤ f.k ∧ f.k ≤ 3 ∧ f.l.length ≤ 2048
def Fr.size (f : Fr) : Nat := f.l.length + 7
def headL (f : Fr) : List UInt8 := UInt8.ofNat f.k :: UInt8.ofNat (f.l.length / 256) :: UInt8.ofNat (f.l.length % 256) :: f.l
def putL (f : Fr) : List UInt8 := markL (headL f)
theorem headL_length (f : Fr) : (headL f).length = f.l.length + 3 := by simp [headL]
theorem putL_length (f : Fr) : (putL f).length = f.size := by rw [putL, markL_length, headL_length, Fr.size]
def kindB (b : List UInt8) : Nat := (b.getD 0 0).toNat
def lenB (b : List UInt8) : Nat := 256 * (b.getD 1 0).toNat + (b.getD 2 0).toNat
/-- Does a frame begin here? -/
def nextB (b : List UInt8) : Bool := decide (3 ≤ b.length ∧ 1 ≤ kindB b ∧ kindB b ≤ 3 ∧ lenB b ≤ 2048 ∧ 7 + lenB b ≤ b.length ∧ markL (b.take (3 + lenB b)) = b.take (7 + lenB b))
def frB (b : List UInt8) : Fr := ⟨kindB b, (b.take (3 + lenB b)).drop 3⟩
theorem nextB_len {b : List UInt8} (h : nextB b = true) : 7 + lenB b ≤ b.length := (of_decide_eq_true h).2.2.2.2.1
theorem frB_len {b : List UInt8} (h : nextB b = true) : (frB b).l.length = lenB b := by
  have := nextB_len h
  simp [frB]; omega
theorem frB_size {b : List UInt8} (h : nextB b = true) : (frB b).size = 7 + lenB b := by rw [Fr.size, frB_len h]; omega
theorem frB_ok {b : List UInt8} (h : nextB b = true) : (frB b).ok := by
  have h2 := of_decide_eq_true h
  refine ⟨h2.2.1, h2.2.2.1, ?_⟩
  rw [frB_len h]
  exact h2.2.2.2.1
/-- The frames of the valid beginning. -/
def framesL (b : List UInt8) : List Fr := if h : nextB b = true then frB b :: framesL (b.drop (7 + lenB b)) else []
termination_by b.length
decreasing_by
  have := nextB_len h
  rw [List.length_drop]
  omega
theorem framesL_yes {b : List UInt8} (h : nextB b = true) : framesL b = frB b :: framesL (b.drop (7 + lenB b)) := by rw [framesL, dif_pos h]
theorem framesL_no {b : List UInt8} (h : nextB b = false) : framesL b = [] := by rw [framesL, dif_neg (by rw [h]; simp)]
def sizeL (L : List Fr) : Nat := (L.map Fr.size).sum
theorem sizeL_nil : sizeL [] = 0 := rfl
theorem sizeL_cons (f : Fr) (L : List Fr) : sizeL (f :: L) = f.size + sizeL L := by simp [sizeL]
theorem sizeL_append (A B : List Fr) : sizeL (A ++ B) = sizeL A + sizeL B := by simp [sizeL]
theorem sizeL_snoc (A : List Fr) (f : Fr) : sizeL (A ++ [f]) = sizeL A + f.size := by simp [sizeL]
def allL (L : List Fr) : List UInt8 := (L.map putL).flatten
theorem allL_nil : allL [] = [] := rfl
theorem allL_cons (f : Fr) (L : List Fr) : allL (f :: L) = putL f ++ allL L := by simp [allL]
theorem allL_append (A B : List Fr) : allL (A ++ B) = allL A ++ allL B := by simp [allL]
theorem allL_length (L : List Fr) : (allL L).length = sizeL L := by
  induction L with
  | nil => rfl
  | cons f L ih => rw [allL_cons, List.length_append, putL_length, ih, sizeL_cons]
/-- What the first bytes of a frame say. -/
theorem putL_head (f : Fr) : putL f = UInt8.ofNat f.k :: UInt8.ofNat (f.l.length / 256) :: UInt8.ofNat (f.l.length % 256) :: (f.l ++ sumB (moreV 0#32 (headL f))) := by
  simp [putL, markL, headL]
theorem head_reads {f : Fr} (h : f.ok) {b : List UInt8} (hb : ∃ t, b = UInt8.ofNat f.k :: UInt8.ofNat (f.l.length / 256) :: UInt8.ofNat (f.l.length % 256) :: t) : kindB b = f.k ∧ lenB b = f.l.length := by
  obtain ⟨t, rfl⟩ := hb
  obtain ⟨h1, h2, h3⟩ := h
  constructor
  · simp [kindB]; omega
  · simp [lenB]; omega
theorem put_reads {f : Fr} (h : f.ok) (r : List UInt8) : kindB (putL f ++ r) = f.k ∧ lenB (putL f ++ r) = f.l.length := by
  refine head_reads h ⟨f.l ++ sumB (moreV 0#32 (headL f)) ++ r, ?_⟩
  rw [putL_head]
  simp
theorem take_put (f : Fr) (r : List UInt8) : (putL f ++ r).take (7 + f.l.length) = putL f := by
  rw [List.take_append_of_le_length (by rw [putL_length, Fr.size]; omega), List.take_of_length_le (by rw [putL_length, Fr.size]; omega)]
theorem take_head (f : Fr) (r : List UInt8) : (putL f ++ r).take (3 + f.l.length) = headL f := by
  have h := take_mark (headL f)
  rw [markL_length, headL_length, show f.l.length + 3 + 4 - 4 = 3 + f.l.length by omega] at h
  rw [List.take_append_of_le_length (by rw [putL_length, Fr.size]; omega)]
  exact h
theorem next_put {f : Fr} (h : f.ok) (r : List UInt8) : nextB (putL f ++ r) = true := by
  obtain ⟨e1, e2⟩ := put_reads h r
  have hl := putL_length f
  unfold Fr.size at hl
  refine decide_eq_true ⟨?_, ?_, ?_, ?_, ?_, ?_⟩
  · rw [List.length_append, hl]; omega
  · rw [e1]; exact h.1
  · rw [e1]; exact h.2.1
  · rw [e2]; exact h.2.2
  · rw [e2, List.length_append, hl]; omega
  · rw [e2, take_put, take_head]; rfl
theorem frB_put {f : Fr} (h : f.ok) (r : List UInt8) : frB (putL f ++ r) = f := by
  obtain ⟨e1, e2⟩ := put_reads h r
  unfold frB
  rw [e1, e2, take_head]
  simp [headL]
theorem drop_put (f : Fr) (r : List UInt8) : (putL f ++ r).drop (7 + f.l.length) = r := by
  rw [List.drop_append_of_le_length (by rw [putL_length, Fr.size]; omega), List.drop_of_length_le (by rw [putL_length, Fr.size]; omega)]
  rfl
/-- What was laid is read. -/
theorem frames_all (L : List Fr) (h : ∀ f ∈ L, f.ok) (r : List UInt8) : framesL (allL L ++ r) = L ++ framesL r := by
  induction L with
  | nil => rfl
  | cons f L ih =>
    have hf := h f (by simp)
    rw [allL_cons, List.append_assoc, framesL_yes (next_put hf _), frB_put hf, (put_reads hf _).2, drop_put, ih (fun x hx => h x (by simp [hx]))]
    rfl
theorem frames_whole (L : List Fr) (h : ∀ f ∈ L, f.ok) : framesL (allL L) = L := by
  have := frames_all L h []
  rw [List.append_nil, framesL_no (b := []) (by decide)] at this
  simpa using this
/-- A beginning of a frame that is no whole frame. -/
theorem next_part {f : Fr} (h : f.ok) {n : Nat} (hn : n < f.size) : nextB ((putL f).take n) = false := by
  refine decide_eq_false ?_
  rintro ⟨h1, _, _, _, h5, _⟩
  have hl : ((putL f).take n).length = n := by rw [List.length_take, putL_length]; omega
  rw [hl] at h1 h5
  have e := (head_reads h (b := (putL f).take n) ⟨(f.l ++ sumB (moreV 0#32 (headL f))).take (n - 3), by
    obtain ⟨m, rfl⟩ : ∃ m, n = m + 3 := ⟨n - 3, by omega⟩
    rw [putL_head]
    simp⟩).2
  rw [e] at h5
  unfold Fr.size at hn
  omega
/-- Of a beginning: those that are whole in it. -/
def wholeL : List Fr → Nat → List Fr
  | [], _ => []
  | f :: L, n => if f.size ≤ n then f :: wholeL L (n - f.size) else []
theorem frames_part (L : List Fr) (h : ∀ f ∈ L, f.ok) (n : Nat) (hn : n ≤ sizeL L) : framesL ((allL L).take n) = wholeL L n := by
  induction L generalizing n with
  | nil => simp [allL_nil, wholeL, framesL_no (b := []) (by decide)]
  | cons f L ih =>
    have hf := h f (by simp)
    rw [allL_cons]
    unfold wholeL
    by_cases hs : f.size ≤ n
    · rw [if_pos hs, List.take_append, putL_length, List.take_of_length_le (by rw [putL_length]; exact hs)]
      have := frames_all [f] (by simpa using hf) ((allL L).take (n - f.size))
      rw [show allL [f] = putL f by simp [allL]] at this
      rw [this, ih (fun x hx => h x (by simp [hx])) _ (by rw [sizeL_cons] at hn; omega)]
      rfl
    · rw [if_neg hs, List.take_append_of_le_length (by rw [putL_length]; omega)]
      exact framesL_no (next_part hf (by omega))
theorem wholeL_prefix (L : List Fr) : ∀ n, ∃ R, L = wholeL L n ++ R := by
  induction L with
  | nil => intro n; exact ⟨[], rfl⟩
  | cons f L ih =>
    intro n
    unfold wholeL
    split
    · obtain ⟨R, hR⟩ := ih (n - f.size)
      exact ⟨R, by rw [List.cons_append, ← hR]⟩
    · exact ⟨f :: L, rfl⟩
/-- A turned byte is found. -/
theorem mark_turned {l : List UInt8} (h : markL (l.take (l.length - 4)) = l) (q : Nat) (hq : q < l.length) (d : UInt8) (hd : d ≠ 0) :
    markL ((l.set q (l.getD q 0 ^^^ d)).take (l.length - 4)) ≠ l.set q (l.getD q 0 ^^^ d) := by
  intro e
  have h1 := feed_sealed h
  have h2 := feed_sealed (l := l.set q (l.getD q 0 ^^^ d)) (by rw [List.length_set]; exact e)
  rw [feed_turn _ _ _ _ hq, h1] at h2
  have h3 : shn (8 * (l.length - q)) (top d) = 0#32 := by
    have := congrArg (fun v => shn 32 ones ^^^ v) h2
    simpa [← BitVec.xor_assoc] using this
  have h4 := shn_zero_inv _ h3
  apply hd
  apply UInt8.toNat.inj
  have h5 := congrArg BitVec.toNat h4
  unfold top at h5
  rw [BitVec.toNat_ofNat] at h5
  have := d.toNat_lt
  simp at h5 ⊢
  omega
theorem next_turned {f : Fr} (h : f.ok) (r : List UInt8) (q : Nat) (hq : q < f.size) (h1 : q ≠ 1) (h2 : q ≠ 2) (d : UInt8) (hd : d ≠ 0) :
    nextB ((putL f ++ r).set q ((putL f ++ r).getD q 0 ^^^ d)) = false := by
  have hl := putL_length f
  have hg : (putL f ++ r).getD q 0 = (putL f).getD q 0 := by
    simp only [List.getD]
    rw [List.getElem?_append_left (by rw [hl]; exact hq)]
  rw [hg, List.set_append_left _ _ (by rw [hl]; exact hq)]
  obtain ⟨e, he⟩ : ∃ e, (putL f).set q ((putL f).getD q 0 ^^^ d) = e := ⟨_, rfl⟩
  have hel : e.length = f.l.length + 7 := by rw [← he, List.length_set, hl]; rfl
  rw [he]
  refine decide_eq_false ?_
  rintro ⟨_, _, _, _, _, h6⟩
  have hlen : lenB (e ++ r) = f.l.length := by
    have hb : lenB (e ++ r) = lenB (putL f ++ r) := by
      have g : ∀ i, i = 1 ∨ i = 2 → (e ++ r).getD i 0 = (putL f ++ r).getD i 0 := fun i hi => by
        simp only [List.getD]
        rw [List.getElem?_append_left (by omega), List.getElem?_append_left (by rw [hl]; unfold Fr.size; omega), ← he, List.getElem?_set_ne (by omega)]
      unfold lenB
      rw [g 1 (.inl rfl), g 2 (.inr rfl)]
    rw [hb]
    exact (put_reads h r).2
  rw [hlen, List.take_append_of_le_length (by omega), List.take_append_of_le_length (by omega), List.take_of_length_le (i := 7 + f.l.length) (l := e) (by omega)] at h6
  have hs : markL ((putL f).take ((putL f).length - 4)) = putL f := by rw [show (putL f).take ((putL f).length - 4) = headL f from take_mark _]; rfl
  have hne := mark_turned hs q (by rw [hl]; exact hq) d hd
  rw [he, hl, Fr.size, show f.l.length + 7 - 4 = 3 + f.l.length by omega] at hne
  exact hne h6
/-- Which frame a place lies in: the frames ahead of it, it, those behind. -/
theorem place_split (L : List Fr) : ∀ (q : Nat), q < sizeL L → ∃ A f B, L = A ++ f :: B ∧ sizeL A ≤ q ∧ q < sizeL A + f.size := by
  induction L with
  | nil => intro q hq; exact absurd hq (by simp [sizeL])
  | cons f L ih =>
    intro q hq
    by_cases h : q < f.size
    · exact ⟨[], f, L, rfl, by simp [sizeL], by simpa [sizeL] using h⟩
    · rw [sizeL_cons] at hq
      obtain ⟨A, g, B, rfl, h1, h2⟩ := ih (q - f.size) (by omega)
      exact ⟨f :: A, g, B, rfl, by rw [sizeL_cons]; omega, by rw [sizeL_cons]; omega⟩
theorem set_at (A B : List UInt8) (q : Nat) (v : UInt8) (h : A.length ≤ q) : (A ++ B).set q v = A ++ B.set (q - A.length) v := by
  rw [List.set_append_right _ _ h]
theorem getD_at (A B : List UInt8) (q : Nat) (h : A.length ≤ q) : (A ++ B).getD q 0 = B.getD (q - A.length) 0 := by
  simp only [List.getD]
  rw [List.getElem?_append_right h]
/-- A bit turned, not in a length. -/
theorem frames_turned {A B : List Fr} {f : Fr} (h : ∀ x ∈ A ++ f :: B, x.ok) (q : Nat) (h1 : sizeL A ≤ q) (h2 : q < sizeL A + f.size) (h3 : q - sizeL A ≠ 1) (h4 : q - sizeL A ≠ 2) (d : UInt8) (hd : d ≠ 0) :
    framesL ((allL (A ++ f :: B)).set q ((allL (A ++ f :: B)).getD q 0 ^^^ d)) = A := by
  have hA := allL_length A
  rw [allL_append, allL_cons, set_at _ _ _ _ (by omega), getD_at _ _ _ (by omega), frames_all A (fun x hx => h x (by simp [hx])), hA,
    framesL_no (next_turned (h f (by simp)) _ _ (by omega) h3 h4 d hd), List.append_nil]
theorem frames_turned_any {A B : List Fr} {f : Fr} (h : ∀ x ∈ A ++ f :: B, x.ok) (q : Nat) (h1 : sizeL A ≤ q) (v : UInt8) :
    ∃ R, framesL ((allL (A ++ f :: B)).set q v) = A ++ R := by
  have hA := allL_length A
  rw [allL_append, set_at _ _ _ _ (by omega), frames_all A (fun x hx => h x (by simp [hx]))]
  exact ⟨_, rfl⟩
/-- A group. -/
structure Gr where
  ops : List (List UInt8)
  com : List UInt8
def Gr.size (g : Gr) : Nat := (g.ops.map fun o => o.length + 7).sum + g.com.length + 7
def sizeG (L : List Gr) : Nat := (L.map Gr.size).sum
theorem sizeG_nil : sizeG [] = 0 := rfl
theorem sizeG_snoc (A : List Gr) (g : Gr) : sizeG (A ++ [g]) = sizeG A + g.size := by simp [sizeG]
/-- The groups of frames, ops having come. -/
def groupsL : List Fr → List (List UInt8) → List Gr
  | [], _ => []
  | f :: L, ops => if f.k = 1 ∧ ops.length < 256 then groupsL L (ops ++ [f.l]) else if f.k = 2 then ⟨ops, f.l⟩ :: groupsL L [] else []
end Go.Proofs.YtbmhgmigcgeooaaDoor
