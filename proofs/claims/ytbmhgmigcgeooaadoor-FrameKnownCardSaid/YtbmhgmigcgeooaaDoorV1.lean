/- FrameKnown's closed facts: 256 ops and one more, a body of 2048 bytes, and what the calls answer of them. -/
import Derived.Test.YtbmhgmigcgeooaaDoorH2
import Derived.Laws.MakeOwn
namespace Go.Proofs.YtbmhgmigcgeooaaDoor
open Go.RowKit
def fe : Fr := ⟨1, []⟩
def fk : Fr := ⟨2, []⟩
def fx : Fr := ⟨2, [120]⟩
def fz : Fr := ⟨3, List.replicate 2048 0⟩
theorem ok_e : fe.ok := by refine ⟨?_, ?_, ?_⟩ <;> simp [fe]
theorem ok_k : fk.ok := by refine ⟨?_, ?_, ?_⟩ <;> simp [fk]
theorem ok_x : fx.ok := by refine ⟨?_, ?_, ?_⟩ <;> simp [fx]
theorem ok_z : fz.ok := by
  refine ⟨?_, ?_, ?_⟩
  · show 1 ≤ 3; decide
  · show 3 ≤ 3; decide
  · show (List.replicate 2048 (0 : UInt8)).length ≤ 2048
    rw [List.length_replicate]
    exact Nat.le_refl _
theorem put_e (w : World) (hE : Env w) : Calls Tryd.prog 21 #[.int .i64 1, .string ⟨#[]⟩] w (PutV w fe) := put_any fe ok_e ⟨#[]⟩ rfl w hE
theorem put_k (w : World) (hE : Env w) : Calls Tryd.prog 21 #[.int .i64 2, .string ⟨#[]⟩] w (PutV w fk) := put_any fk ok_k ⟨#[]⟩ rfl w hE
theorem put_x (w : World) (hE : Env w) : Calls Tryd.prog 21 #[.int .i64 2, .string ⟨#[120]⟩] w (PutV w fx) := put_any fx ok_x ⟨#[120]⟩ rfl w hE
theorem size_e : fe.size = 7 := rfl
theorem size_k : fk.size = 7 := rfl
theorem size_x : fx.size = 8 := rfl
theorem size_z : fz.size = 2055 := by
  show (List.replicate 2048 (0 : UInt8)).length + 7 = 2055
  rw [List.length_replicate]
def manyL (n : Nat) : List UInt8 := allL (List.replicate n fe)
theorem manyL_zero : manyL 0 = [] := rfl
theorem manyL_succ (n : Nat) : manyL (n + 1) = manyL n ++ putL fe := by
  rw [manyL, List.replicate_succ', allL_append, manyL]
  simp [allL]
theorem manyL_length (n : Nat) : (manyL n).length = 7 * n := by
  rw [manyL, allL_length]
  induction n with
  | zero => rfl
  | succ n ih => rw [List.replicate_succ, sizeL_cons, ih, size_e]; omega
theorem groups_rep (R : List Fr) : ∀ (n : Nat) (ops : List (List UInt8)), ops.length + n ≤ 256 → groupsL (List.replicate n fe ++ R) ops = groupsL R (ops ++ List.replicate n []) := by
  intro n
  induction n with
  | zero => intro ops _; simp
  | succ n ih =>
    intro ops h
    rw [List.replicate_succ, List.cons_append, groupsL, if_pos ⟨rfl, by omega⟩, ih _ (by rw [List.length_append, List.length_singleton]; omega), List.replicate_succ, List.append_assoc]
    rfl
theorem manyL_frames (R : List Fr) (hR : ∀ f ∈ R, f.ok) : framesL (manyL 256 ++ allL R) = List.replicate 256 fe ++ R := by
  rw [manyL, ← allL_append]
  refine frames_whole _ fun f hf => ?_
  rw [List.mem_append] at hf
  rcases hf with hf | hf
  · rw [List.eq_of_mem_replicate hf]; exact ok_e
  · exact hR f hf
theorem many_one : groupsL (framesL (manyL 256 ++ putL fk)) [] = [⟨List.replicate 256 [], []⟩] := by
  rw [show putL fk = allL [fk] by simp [allL], manyL_frames [fk] (fun f hf => by simp at hf; rw [hf]; exact ok_k), groups_rep _ _ _ (by decide)]
  rw [groupsL, if_neg (fun h => absurd h.1 (by decide)), if_pos (show fk.k = 2 from rfl), groupsL]
  rfl
theorem many_two : groupsL (framesL (manyL 256 ++ putL fe ++ putL fk)) [] = [] := by
  rw [List.append_assoc, show putL fe ++ putL fk = allL [fe, fk] by simp [allL], manyL_frames [fe, fk] (fun f hf => by
    simp at hf
    rcases hf with rfl | rfl
    · exact ok_e
    · exact ok_k), groups_rep _ _ _ (by decide)]
  rw [groupsL, if_neg (fun h => by
    have := h.2
    rw [List.nil_append, List.length_replicate] at this
    omega), if_neg (by decide)]
theorem one_x : groupsL (framesL (putL fx)) [] = [⟨[], [120]⟩] := by
  rw [show putL fx = allL [fx] by simp [allL], frames_whole [fx] (fun f hf => by simp at hf; rw [hf]; exact ok_x)]
  rfl
theorem frames_z : framesL (putL fz) = [fz] := by
  rw [show putL fz = allL [fz] by simp [allL], frames_whole [fz] (fun f hf => by simp at hf; rw [hf]; exact ok_z)]
theorem size_rep (n : Nat) : sizeG [⟨List.replicate n [], []⟩] = 7 * n + 7 := by
  have h : ∀ n : Nat, ((List.replicate n ([] : List UInt8)).map fun o => o.length + 7).sum = 7 * n := by
    intro n
    induction n with
    | zero => rfl
    | succ n ih => rw [List.replicate_succ, List.map_cons, List.sum_cons, ih, List.length_nil]; omega
  show (((List.replicate n ([] : List UInt8)).map fun o => o.length + 7).sum + ([] : List UInt8).length + 7) + 0 = _
  rw [h, List.length_nil]
theorem size_many : sizeG [⟨List.replicate 256 [], []⟩] = 1799 := size_rep 256
theorem no_any (k : Int) (A : Option Addr) (n c : Nat) (e : Nat) (w : World) (hn : n ≤ 140737488355328) (he : refE k n = e) (h0 : e ≠ 0) :
    Calls Tryd.prog 8 #[.agg #[.int .i64 k, .slice A n c]] w fun r w' => r = .returned (.tuple #[.slice none 0 0, .int .i64 (e : Nat)]) ∧ Below w.heap.size w w' := by
  subst he
  exact Put_no k A n c w hn h0
theorem no_0 (w : World) : Calls Tryd.prog 8 #[.agg #[.int .i64 0, .slice none 0 0]] w fun r w' => r = .returned (.tuple #[.slice none 0 0, .int .i64 1]) ∧ Below w.heap.size w w' := no_any 0 none 0 0 1 w (by decide) (by decide) (by decide)
theorem no_4 (w : World) : Calls Tryd.prog 8 #[.agg #[.int .i64 4, .slice none 0 0]] w fun r w' => r = .returned (.tuple #[.slice none 0 0, .int .i64 1]) ∧ Below w.heap.size w w' := no_any 4 none 0 0 1 w (by decide) (by decide) (by decide)
theorem no_long (A : Option Addr) (w : World) : Calls Tryd.prog 8 #[.agg #[.int .i64 1, .slice A 2049 2049]] w fun r w' => r = .returned (.tuple #[.slice none 0 0, .int .i64 3]) ∧ Below w.heap.size w w' := no_any 1 A 2049 2049 3 w (by decide) (by decide) (by decide)
theorem yes_long (g : Nat) (w : World) (hE : Env w) (hA : At w (some ⟨g, 0, none⟩) (List.replicate 2048 0)) :
    Calls Tryd.prog 8 #[.agg #[.int .i64 3, .slice (some ⟨g, 0, none⟩) 2048 2048]] w fun r w' => ∃ g' c', r = .returned (.tuple #[.slice (some ⟨g', 0, none⟩) 2055 c', .int .i64 0]) ∧ At w' (some ⟨g', 0, none⟩) (putL fz) ∧ 2055 ≤ c' ∧ Below w.heap.size w w' := by
  have h := Put_ok fz ok_z (some ⟨g, 0, none⟩) 2048 w hE hA (fun h => by cases h)
  have hl : (putL fz).length = 2055 := (putL_length fz).trans size_z
  have hb : fz.l.length = 2048 := List.length_replicate ..
  rw [hb, hl] at h
  refine h.mono ?_
  rintro e w' ⟨g', c', rfl, ho, hbl⟩
  refine ⟨g', c', rfl, (own_mine ho).at_, ?_, hbl⟩
  rcases ho.2 with ⟨e, _⟩ | ⟨_, _, _, e, _, _, hn, _⟩ <;> (injection e with e1 e2 e3; omega)
theorem split_z (A : Option Addr) (c : Nat) (w : World) (hE : Env w) (hA : At w A (putL fz)) (hz : A = none → c = 0) (hs : ∀ ad, A = some ad → ∃ bb off, ad = ⟨bb, off, none⟩) (hc : 2055 ≤ c) :
    Calls Tryd.prog 13 #[.slice A 2055 c] w fun e w' => ∃ P c', e = .returned (.tuple #[.slice P 1 c', .int .i64 2055]) ∧ Below w.heap.size w w' := by
  have hl : (putL fz).length = 2055 := (putL_length fz).trans size_z
  refine (SplitN A 2055 c (putL fz) w hE hA hz hs (by omega) (by omega) hl).mono ?_
  rintro e w' ⟨v, L, rfl, hp⟩
  have hL := split_len hp
  rw [frames_z] at hL ⊢
  obtain ⟨P, c', rfl⟩ := own_slice hp.row
  rw [hL]
  refine ⟨P, c', ?_, hp.below⟩
  rw [show sizeL [fz] = 2055 by rw [sizeL_cons, size_z, sizeL_nil]]
  rfl
theorem groups_len {w w' : World} {b : List UInt8} {v : Value} {gs : List Gx} (h : GroupsR w b v gs w') : gs.length = (groupsL (framesL b) []).length := by rw [← h.all, List.length_map]
theorem groups_num (A : Option Addr) (n c m s : Nat) (b : List UInt8) (w : World) (hE : Env w) (hA : At w A b) (hz : A = none → c = 0) (hs : ∀ ad, A = some ad → ∃ bb off, ad = ⟨bb, off, none⟩) (hc : b.length ≤ c) (hm : b.length ≤ 1000000) (hn : b.length = n)
    (h1 : (groupsL (framesL b) []).length = m) (h2 : sizeG (groupsL (framesL b) []) = s) :
    Calls Tryd.prog 15 #[.slice A n c] w fun e w' => ∃ P c', e = .returned (.tuple #[.slice P m c', .int .i64 (s : Nat)]) ∧ Below w.heap.size w w' := by
  refine (GroupsN A n c b w hE hA hz hs hc hm hn).mono ?_
  rintro e w' ⟨v, gs, rfl, hg⟩
  have hL := groups_len hg
  obtain ⟨P, c', rfl⟩ := own_slice hg.row
  rw [hL, h1, h2]
  exact ⟨P, c', rfl, hg.below⟩
theorem len_m1 : (manyL 256 ++ putL fk).length = 1799 := by rw [List.length_append, manyL_length, putL_length, size_k]
theorem len_m2 : (manyL 256 ++ putL fe ++ putL fk).length = 1806 := by rw [List.length_append, List.length_append, manyL_length, putL_length, putL_length, size_k, size_e]
theorem groups_m1 (A : Option Addr) (c : Nat) (w : World) (hE : Env w) (hA : At w A (manyL 256 ++ putL fk)) (hz : A = none → c = 0) (hs : ∀ ad, A = some ad → ∃ bb off, ad = ⟨bb, off, none⟩) (hc : (manyL 256 ++ putL fk).length ≤ c) :
    Calls Tryd.prog 15 #[.slice A 1799 c] w fun e w' => ∃ P c', e = .returned (.tuple #[.slice P 1 c', .int .i64 1799]) ∧ Below w.heap.size w w' :=
  groups_num A 1799 c 1 1799 _ w hE hA hz hs hc (by rw [len_m1]; decide) len_m1 (by rw [many_one]; rfl) (by rw [many_one]; exact size_many)
theorem groups_m2 (A : Option Addr) (c : Nat) (w : World) (hE : Env w) (hA : At w A (manyL 256 ++ putL fe ++ putL fk)) (hz : A = none → c = 0) (hs : ∀ ad, A = some ad → ∃ bb off, ad = ⟨bb, off, none⟩) (hc : (manyL 256 ++ putL fe ++ putL fk).length ≤ c) :
    Calls Tryd.prog 15 #[.slice A 1806 c] w fun e w' => ∃ P c', e = .returned (.tuple #[.slice P 0 c', .int .i64 0]) ∧ Below w.heap.size w w' :=
  groups_num A 1806 c 0 0 _ w hE hA hz hs hc (by rw [len_m2]; decide) len_m2 (by rw [many_two]; rfl) (by rw [many_two]; rfl)
theorem groups_x (A : Option Addr) (c : Nat) (w : World) (hE : Env w) (hA : At w A (putL fx)) (hz : A = none → c = 0) (hs : ∀ ad, A = some ad → ∃ bb off, ad = ⟨bb, off, none⟩) (hc : 8 ≤ c) :
    Calls Tryd.prog 15 #[.slice A 8 c] w fun e w' => ∃ G c' P c2, e = .returned (.tuple #[.slice (some ⟨G, 0, none⟩) 1 c', .int .i64 8]) ∧ w'.cell? ⟨G, 0, none⟩ = some (.slice P 0 c2) ∧ Below w.heap.size w w' := by
  have hl : (putL fx).length = 8 := (putL_length fx).trans size_x
  refine (GroupsN A 8 c (putL fx) w hE hA hz hs (by omega) (by omega) hl).mono ?_
  rintro e w' ⟨v, gs, rfl, hg⟩
  have ha := hg.all
  rw [one_x] at ha ⊢
  obtain ⟨g, rfl⟩ : ∃ g, gs = [g] := by
    match gs, ha with
    | [g], _ => exact ⟨g, rfl⟩
    | [], h => cases h
    | _ :: _ :: _, h => simp at h
  obtain ⟨ops, gv, com⟩ := g
  simp only [List.map_cons, List.map_nil, Gx.gr, List.cons.injEq, Gr.mk.injEq, and_true] at ha
  obtain ⟨h1, h2⟩ := ha
  obtain rfl : ops = [] := by
    match ops, h1 with
    | [], _ => rfl
    | _ :: _, h => cases h
  obtain ⟨G, capG, rfl, hG⟩ := row_form hg.row (Nat.zero_lt_one)
  obtain ⟨P, c2, hv⟩ := own_slice (hg.olds ⟨[], gv, com⟩ (by simp))
  replace hv : gv = .slice P 0 c2 := hv
  exact ⟨G, capG, P, c2, rfl, by rw [hG 0 gv (by simp [cellsGr]), hv], hg.below⟩
theorem make_bytes (n : Nat) (w : World) (h : n ≤ 140737488355328) :
    (Instr.makeSlice 22 (.int .i64 (n : Int)) (.int .i64 (n : Int))).run Tryd.prog w = .ok (.slice (some ⟨w.heap.size, 0, none⟩) n n) (w.alloc (.cells (Array.replicate n (.int .u8 0)) 5)) := by
  obtain ⟨i0, hi, hz0, hz1, hz2⟩ := info_parts info8
  have e := run_make (P := Tryd.prog) w 22 5 i0 _ Tryd.underlying22 hi hz0 .i64 .i64 (n : Int) (n : Int) (by omega) (Int.le_refl _) (by rw [hz2]; omega) (by omega)
  rw [e, hz1, Int.toNat_natCast, Nat.mul_one]
  congr 4
  apply Array.ext
  · simp [madeCells]
  · intro i h1 h2
    simp [madeCells, Value.cells, Nat.mod_one]
end Go.Proofs.YtbmhgmigcgeooaaDoor
