/- The statement CrcLinear, walked. -/
import Derived.Test.YtgaipgpendemfaaDoorL1
namespace Go.Proofs.YtgaipgpendemfaaDoor
open Go.RowKit
def z3 : List UInt8 → List UInt8 → List UInt8 → List UInt8
  | a :: l, b :: m, c :: n => (a ^^^ b ^^^ c) :: z3 l m n
  | _, _, _ => []
theorem xor_swap (a b c d : BitVec 32) : a ^^^ b ^^^ (c ^^^ d) = a ^^^ c ^^^ (b ^^^ d) := by
  rw [BitVec.xor_assoc, ← BitVec.xor_assoc b c d, BitVec.xor_comm b c, BitVec.xor_assoc c b d, ← BitVec.xor_assoc]
theorem xor_three (x y z p q r : BitVec 32) : x ^^^ y ^^^ z ^^^ (p ^^^ q ^^^ r) = x ^^^ p ^^^ (y ^^^ q) ^^^ (z ^^^ r) := by
  rw [xor_swap (x ^^^ y) z (p ^^^ q) r, xor_swap x y p q]
theorem feed_z3 : ∀ (a b c : List UInt8) (x y z : BitVec 32), a.length = b.length → b.length = c.length → feed (x ^^^ y ^^^ z) (z3 a b c) = feed x a ^^^ feed y b ^^^ feed z c := by
  intro a
  induction a with
  | nil =>
    intro b c x y z h1 h2
    obtain rfl : b = [] := List.eq_nil_of_length_eq_zero h1.symm
    obtain rfl : c = [] := List.eq_nil_of_length_eq_zero h2.symm
    rfl
  | cons a l ih =>
    intro b c x y z h1 h2
    cases b with
    | nil => cases h1
    | cons b m =>
      cases c with
      | nil => cases h2
      | cons c n =>
        show feed (feedB (x ^^^ y ^^^ z) (a ^^^ b ^^^ c)) (z3 l m n) = feed (feedB x a) l ^^^ feed (feedB y b) m ^^^ feed (feedB z c) n
        rw [← ih m n _ _ _ (by simpa using h1) (by simpa using h2)]
        congr 1
        unfold feedB
        rw [top_xor, top_xor, ← shn_xor, ← shn_xor, xor_three]
theorem more_z3 (a b c : List UInt8) (h1 : a.length = b.length) (h2 : b.length = c.length) (x y z : BitVec 32) : moreV (x ^^^ y ^^^ z) (z3 a b c) = moreV x a ^^^ moreV y b ^^^ moreV z c := by
  unfold moreV
  have e : x ^^^ y ^^^ z ^^^ ones = x ^^^ ones ^^^ (y ^^^ ones) ^^^ (z ^^^ ones) := by
    rw [← xor_three, BitVec.xor_self, BitVec.zero_xor]
  have e2 : ∀ p q r : BitVec 32, p ^^^ q ^^^ r ^^^ ones = p ^^^ ones ^^^ (q ^^^ ones) ^^^ (r ^^^ ones) := fun p q r => by
    rw [← xor_three, BitVec.xor_self, BitVec.zero_xor]
  rw [e, feed_z3 a b c _ _ _ h1 h2, e2]
theorem z3_get : ∀ (a b c : List UInt8) (n : Nat), a.length = n → b.length = n → c.length = n → (z3 a b c).length = n ∧ ∀ i, i < n → (z3 a b c).getD i 0 = a.getD i 0 ^^^ b.getD i 0 ^^^ c.getD i 0 := by
  intro a
  induction a with
  | nil =>
    intro b c n h1 h2 h3
    obtain rfl : n = 0 := by simpa using h1.symm
    exact ⟨by cases b <;> cases c <;> rfl, fun i hi => by omega⟩
  | cons a l ih =>
    intro b c n h1 h2 h3
    cases b with
    | nil => simp at h1 h2; omega
    | cons b m =>
      cases c with
      | nil => simp at h1 h3; omega
      | cons c k =>
        cases n with
        | zero => cases h1
        | succ n =>
          obtain ⟨g1, g2⟩ := ih m k n (by simpa using h1) (by simpa using h2) (by simpa using h3)
          refine ⟨by simpa [z3] using g1, fun i hi => ?_⟩
          cases i with
          | zero => rfl
          | succ i => simpa [z3, List.getD] using g2 i (by omega)
theorem get_take (l : List UInt8) (n i : Nat) (h : i < n) : (l.take n).getD i 0 = l.getD i 0 := by
  rw [List.getD, List.getD, List.getElem?_take, if_pos h]
/-- What the loop has made is the rows, xored. -/
theorem made_z3 (a b c L : List UInt8) (n : Nat) (ha : n ≤ a.length) (hb : n ≤ b.length) (hc : n ≤ c.length) (hL : L.length = n) (h : ∀ i, i < n → L.getD i 0 = a.getD i 0 ^^^ b.getD i 0 ^^^ c.getD i 0) : L = z3 (a.take n) (b.take n) (c.take n) := by
  obtain ⟨g1, g2⟩ := z3_get (a.take n) (b.take n) (c.take n) n (by rw [List.length_take]; omega) (by rw [List.length_take]; omega) (by rw [List.length_take]; omega)
  apply List.ext_getElem (by omega)
  intro i h1 h2
  have e1 := h i (by omega)
  have e2 := g2 i (by omega)
  rw [get_take _ _ _ (by omega), get_take _ _ _ (by omega), get_take _ _ _ (by omega), ← e1] at e2
  simpa [List.getD, h1, h2] using e2.symm
theorem more_three (s t u : BitVec 32) (a : List UInt8) : moreV (s ^^^ t ^^^ u) a = moreV s a ^^^ moreV t a ^^^ moreV u a := by
  unfold moreV
  have e2 : ∀ p q r : BitVec 32, p ^^^ q ^^^ r ^^^ ones = p ^^^ ones ^^^ (q ^^^ ones) ^^^ (r ^^^ ones) := fun p q r => by
    rw [← xor_three, BitVec.xor_self, BitVec.zero_xor]
  have e3 : s ^^^ t ^^^ u ^^^ ones = s ^^^ ones ^^^ (t ^^^ u) := by
    rw [BitVec.xor_assoc s t u, BitVec.xor_assoc, BitVec.xor_comm (t ^^^ u) ones, ← BitVec.xor_assoc]
  have f1 := feed_xor a (s ^^^ ones) t
  have f2 := feed_xor a (s ^^^ ones) u
  have f3 := feed_xor a (s ^^^ ones) (t ^^^ u)
  have g : ∀ v : BitVec 32, feed (v ^^^ ones) a = feed 0#32 a ^^^ shn (8 * a.length) v ^^^ shn (8 * a.length) ones := fun v => by
    rw [feed_zero, shn_xor, BitVec.xor_assoc]
  rw [e2, ← e2, g, g, g, g, shn_xor, shn_xor]
  generalize feed 0#32 a = F
  generalize shn (8 * a.length) ones = O
  generalize shn (8 * a.length) s = S
  generalize shn (8 * a.length) t = T
  generalize shn (8 * a.length) u = U
  rw [e2]
  apply BitVec.eq_of_getLsbD_eq
  intro i hi
  simp only [BitVec.getLsbD_xor]
  cases F.getLsbD i <;> cases O.getLsbD i <;> cases S.getLsbD i <;> cases T.getLsbD i <;> cases U.getLsbD i <;> cases ones.getLsbD i <;> rfl
theorem bx8 (x y : UInt8) : bits .xor .u8 (x.toNat : Int) (y.toNat : Int) = ((x ^^^ y).toNat : Int) := by
  rw [u8_xor_nat _ _ x.toNat_lt y.toNat_lt, UInt8.toNat_xor]
theorem new_mine (w : World) (cs : Array Value) (l : List UInt8) (h : cs.toList = cellsB l) : Mine w.heap.size (w.alloc (.cells cs 5)) w.heap.size l := by
  refine ⟨Nat.le_refl _, by simp, fun i hi => ?_, fun i => ?_⟩
  · rw [cell_of_row _ _ _ _ _ _ (heap_alloc_new w _), ← Array.getElem?_toList, h]
    simp [cellsB, List.getD, hi]
  · unfold World.frozen?
    simp only []
    rw [heap_alloc_new w _]
    simp
theorem make_bytes (n : Nat) (w : World) (h : n ≤ 140737488355328) :
    (Instr.makeSlice 23 (.int .i64 (n : Int)) (.int .i64 (n : Int))).run Tryd.prog w = .ok (.slice (some ⟨w.heap.size, 0, none⟩) n n) (w.alloc (.cells (Array.replicate n (.int .u8 0)) 5)) := by
  obtain ⟨i0, hi, hz0, hz1, hz2⟩ := info_parts info8
  have e := run_make (P := Tryd.prog) w 23 5 i0 _ Tryd.underlying23 hi hz0 .i64 .i64 (n : Int) (n : Int) (by omega) (Int.le_refl _) (by rw [hz2]; omega) (by omega)
  rw [e, hz1, Int.toNat_natCast, Nat.mul_one]
  congr 4
  apply Array.ext
  · simp [madeCells]
  · intro i h1 h2
    simp [madeCells, Value.cells, Nat.mod_one]
theorem zeros_new (n : Nat) (w : World) : Mine w.heap.size (w.alloc (.cells (Array.replicate n (.int .u8 0)) 5)) w.heap.size (List.replicate n 0) :=
  new_mine w _ _ (by simp [cellsB, bv])
set_option maxRecDepth 100000 in
set_option maxHeartbeats 4000000 in
theorem CrcLinear_walk (A B C : Option Addr) (ca cb cc : Nat) (a b c : List UInt8) (s t u : BitVec 32) (w : World) (hA : At w A a) (hB : At w B b) (hC : At w C c) (zA : A = none → ca = 0) (zB : B = none → cb = 0) (zC : C = none → cc = 0)
    (ma : a.length + 4 ≤ 140737488355328) (mb : b.length + 4 ≤ 140737488355328) (mc : c.length + 4 ≤ 140737488355328) (la : a.length ≤ ca) (lb : b.length ≤ cb) (lc : c.length ≤ cc) (h : Env w) :
    Calls Tryd.prog 7 #[.slice A a.length ca, .slice B b.length cb, .slice C c.length cc, .int .u32 (s.toNat : Int), .int .u32 (t.toNat : Int), .int .u32 (u.toNat : Int)] w fun e w' => e = .returned (.bool true) ∧ Below w.heap.size w w' := by
  obtain ⟨n, hn⟩ : ∃ n, n = min (min a.length b.length) c.length := ⟨_, rfl⟩
  have na : n ≤ a.length := by omega
  have nb : n ≤ b.length := by omega
  have nc : n ≤ c.length := by omega
  have HA := Lib.hid hA
  have HB := Lib.hid hB
  have HC := Lib.hid hC
  have HE := Lib.hid h
  clear hA hB hC h
  go_enter Tryd.func7, Tryd.ntmps7
  go_upto_region 1 with fail
  go_cut [13] (fun v w' => v = .int .i64 (n : Int) ∧ w = w')
  case first => as_aux_lemma =>
    go_wp2
    all_goals (go_meet; exact ⟨by congr 1; omega, rfl⟩)
  case rest =>
    obtain ⟨rfl, rfl⟩ := hcut
    clear hn
    have hmk := make_bytes n w (by omega)
    go_wp2
    clear hmk
    go_loopw [15] (fun i wr => ∃ (j : Nat) (L : List UInt8), j ≤ n ∧ i = .int .i64 j ∧ L.length = n ∧ (∀ k, k < j → L.getD k 0 = a.getD k 0 ^^^ b.getD k 0 ^^^ c.getD k 0) ∧ Mine w.heap.size wr w.heap.size L ∧ Below w.heap.size w wr) (fun i _ => n - (intOf i).toNat)
    case atStart => exact ⟨0, List.replicate n 0, Nat.zero_le _, rfl, by simp, fun k hk => by omega, zeros_new n w, (Below.refl _ _).alloc (Nat.le_refl _) _⟩
    case round =>
      obtain ⟨j, L, hj, rfl, hL, hx, hmine, hbel⟩ := hrel
      by_cases hlt : j < n
      · have HM1 := Lib.hid hmine
        have HB1 := Lib.hid hbel
        have HX := Lib.hid hx
        obtain ⟨b1, o1, rfl, l1, r1⟩ := HA.out (by omega)
        obtain ⟨b2, o2, rfl, l2, r2⟩ := HB.out (by omega)
        obtain ⟨b3, o3, rfl, l3, r3⟩ := HC.out (by omega)
        have q1 := (hbel.cell (p := ⟨b1, o1 + j, none⟩) l1).trans (r1 j (by omega))
        have q2 := (hbel.cell (p := ⟨b2, o2 + j, none⟩) l2).trans (r2 j (by omega))
        have q3 := (hbel.cell (p := ⟨b3, o3 + j, none⟩) l3).trans (r3 j (by omega))
        have q4 := hmine.cell j (by omega)
        have q5 := hmine.free j
        have e12 := bx8 (a.getD j 0) (b.getD j 0)
        have e23 := bx8 (a.getD j 0 ^^^ b.getD j 0) (c.getD j 0)
        have i1 : (j : Int) < (n : Int) := by omega
        have i2 : (j : Int) < (a.length : Int) := by omega
        have i3 : (j : Int) < (b.length : Int) := by omega
        have i4 : (j : Int) < (c.length : Int) := by omega
        have i5 : (0 : Int) ≤ (j : Int) := by omega
        unfold bv at q1 q2 q3 q4
        clear r1 r2 r3 hmine hbel hx
        have HS := Lib.hid (set_bytes HM1.out j (a.getD j 0 ^^^ b.getD j 0 ^^^ c.getD j 0))
        have HBS := Lib.hid (below_set HB1.out (Nat.le_refl _) j (bv (a.getD j 0 ^^^ b.getD j 0 ^^^ c.getD j 0)))
        have HNX : Hid (∀ k, k < j + 1 → (L.set j (a.getD j 0 ^^^ b.getD j 0 ^^^ c.getD j 0)).getD k 0 = a.getD k 0 ^^^ b.getD k 0 ^^^ c.getD k 0) := Lib.hid fun k hk => by
          by_cases e : k = j
          · subst e
            simp [List.getD, show k < L.length by omega]
          · rw [List.getD, List.getElem?_set_ne (by omega), ← List.getD, HX.out k (by omega)]
        have k1 : ∀ v, (wr.setCell ⟨w.heap.size, j, none⟩ v).cell? ⟨b1, o1 + j, none⟩ = some (.int .u8 ((a.getD j 0).toNat : Int)) := fun v => (World.cell?_setCell_other _ _ _ _ (fun e => Nat.ne_of_lt l1 (congrArg Addr.block e).symm)).trans q1
        have k2 : ∀ v, (wr.setCell ⟨w.heap.size, j, none⟩ v).cell? ⟨b2, o2 + j, none⟩ = some (.int .u8 ((b.getD j 0).toNat : Int)) := fun v => (World.cell?_setCell_other _ _ _ _ (fun e => Nat.ne_of_lt l2 (congrArg Addr.block e).symm)).trans q2
        have k3 : ∀ v, (wr.setCell ⟨w.heap.size, j, none⟩ v).cell? ⟨b3, o3 + j, none⟩ = some (.int .u8 ((c.getD j 0).toNat : Int)) := fun v => (World.cell?_setCell_other _ _ _ _ (fun e => Nat.ne_of_lt l3 (congrArg Addr.block e).symm)).trans q3
        clear HX
        unfold bv at HS HBS
        generalize a.getD j 0 = x at *
        generalize b.getD j 0 = y at *
        generalize c.getD j 0 = z at *
        generalize L.getD j 0 = v0 at *
        go_upto_region 6 with fail
        go_region_held3 (fun w' => w'.cell? ⟨b1, o1 + j, none⟩ = some (.int .u8 (x.toNat : Int)) ∧ w'.cell? ⟨b2, o2 + j, none⟩ = some (.int .u8 (y.toNat : Int)) ∧ w'.cell? ⟨b3, o3 + j, none⟩ = some (.int .u8 (z.toNat : Int))) (first | exact ⟨q1, q2, q3⟩ | exact ⟨k1 _, k2 _, k3 _⟩ | go_keep | fail) (fail)
        go_wp2
        have hv : bits .xor .u8 (((x.toNat ^^^ y.toNat : Nat)) : Int) (z.toNat : Int) = ((x ^^^ y ^^^ z).toNat : Int) := by rw [← UInt8.toNat_xor, bx8]
        rw [hv]
        exact ⟨⟨j + 1, L.set j (x ^^^ y ^^^ z), by omega, by go_num, by rw [List.length_set]; exact hL, HNX.out, HS.out.below (Below.refl _ _).drew, HBS.out.drew⟩, by simp [intOf]; omega⟩
      · obtain rfl : j = n := by omega
        have hz := made_z3 a b c L j na nb nc hL hx
        have e1 := more_z3 (a.take j) (b.take j) (c.take j) (by rw [List.length_take, List.length_take]; omega) (by rw [List.length_take, List.length_take]; omega) 0#32 0#32 0#32
        rw [← hz, show (0#32 ^^^ 0#32 ^^^ 0#32 : BitVec 32) = 0#32 from rfl] at e1
        have e2 := more_three s t u a
        obtain ⟨X, hX⟩ : ∃ X, moreV 0#32 L = X := ⟨_, rfl⟩
        obtain ⟨P, hP⟩ : ∃ X, moreV 0#32 (a.take j) = X := ⟨_, rfl⟩
        obtain ⟨Q, hQ⟩ : ∃ X, moreV 0#32 (b.take j) = X := ⟨_, rfl⟩
        obtain ⟨R, hR⟩ : ∃ X, moreV 0#32 (c.take j) = X := ⟨_, rfl⟩
        rw [hX, hP, hQ, hR] at e1
        have b1 : bits .xor .u32 (bits .xor .u32 (P.toNat : Int) (Q.toNat : Int)) (R.toNat : Int) = (X.toNat : Int) := by rw [bx, bx, e1]
        clear e1
        obtain ⟨S0, hS0⟩ : ∃ X, moreV (s ^^^ t ^^^ u) a = X := ⟨_, rfl⟩
        obtain ⟨S1, hS1⟩ : ∃ X, moreV s a = X := ⟨_, rfl⟩
        obtain ⟨S2, hS2⟩ : ∃ X, moreV t a = X := ⟨_, rfl⟩
        obtain ⟨S3, hS3⟩ : ∃ X, moreV u a = X := ⟨_, rfl⟩
        rw [hS0, hS1, hS2, hS3] at e2
        have b2 : bits .xor .u32 (bits .xor .u32 (S1.toNat : Int) (S2.toNat : Int)) (S3.toNat : Int) = (S0.toNat : Int) := by rw [bx, bx, e2]
        clear e2
        obtain ⟨V, hV⟩ : ∃ V, s ^^^ t ^^^ u = V := ⟨_, rfl⟩
        have b3 : bits .xor .u32 (bits .xor .u32 (s.toNat : Int) (t.toNat : Int)) (u.toNat : Int) = (V.toNat : Int) := by rw [bx, bx, hV]
        rw [hV] at hS0
        have sz : w.heap.size ≤ wr.heap.size := hbel.size
        have EN : ∀ wk, Below wr.heap.size wr wk → Env wk := fun wk hb => (HE.out.below hbel).below hb
        have AT : ∀ {D l}, At w D l → ∀ wk, Below wr.heap.size wr wk → At wk D l := fun hD wk hb => (hD.below hbel).below hb
        have c1 := fun wk (hb : Below wr.heap.size wr wk) => on hb (SumL (some ⟨w.heap.size, 0, none⟩) L j j wk (EN wk hb) (hmine.at_.below hb) (by omega) hL)
        rw [hX] at c1
        have c2 := fun wk (hb : Below wr.heap.size wr wk) => on hb (SumL A (a.take j) j ca wk (EN wk hb) (take_at j (AT HA.out wk hb)) (by rw [List.length_take]; omega) (by rw [List.length_take]; omega))
        rw [hP] at c2
        have c3 := fun wk (hb : Below wr.heap.size wr wk) => on hb (SumL B (b.take j) j cb wk (EN wk hb) (take_at j (AT HB.out wk hb)) (by rw [List.length_take]; omega) (by rw [List.length_take]; omega))
        rw [hQ] at c3
        have c4 := fun wk (hb : Below wr.heap.size wr wk) => on hb (SumL C (c.take j) j cc wk (EN wk hb) (take_at j (AT HC.out wk hb)) (by rw [List.length_take]; omega) (by rw [List.length_take]; omega))
        rw [hR] at c4
        have c5 := fun wk (hb : Below wr.heap.size wr wk) => on hb (MoreL V _ A a a.length ca wk (EN wk hb) (AT HA.out wk hb) (by omega) rfl rfl)
        rw [hS0] at c5
        have c6 := fun wk (hb : Below wr.heap.size wr wk) => on hb (MoreL s _ A a a.length ca wk (EN wk hb) (AT HA.out wk hb) (by omega) rfl rfl)
        rw [hS1] at c6
        have c7 := fun wk (hb : Below wr.heap.size wr wk) => on hb (MoreL t _ A a a.length ca wk (EN wk hb) (AT HA.out wk hb) (by omega) rfl rfl)
        rw [hS2] at c7
        have c8 := fun wk (hb : Below wr.heap.size wr wk) => on hb (MoreL u _ A a a.length ca wk (EN wk hb) (AT HA.out wk hb) (by omega) rfl rfl)
        rw [hS3] at c8
        have c9 := fun wk (hb : Below wr.heap.size wr wk) => wakes_on hb hb.size (EN wk hb)
        have C1 := Lib.hid c1
        have C2 := Lib.hid c2
        have C3 := Lib.hid c3
        have C4 := Lib.hid c4
        have C5 := Lib.hid c5
        have C6 := Lib.hid c6
        have C7 := Lib.hid c7
        have C8 := Lib.hid c8
        have C9 := Lib.hid c9
        have HBEL := Lib.hid hbel
        clear c1 c2 c3 c4 c5 c6 c7 c8 c9 EN AT HA HB HC HE hX hP hQ hR hS0 hS1 hS2 hS3 hV hz hx hmine hbel
        have i1 : (j : Int) ≤ (ca : Int) := by omega
        have i2 : (j : Int) ≤ (cb : Int) := by omega
        have i3 : (j : Int) ≤ (cc : Int) := by omega
        have i5 : (0 : Int) ≤ (j : Int) := by omega
        go_upto_region 7 with fail
        go_region_held3 (fun w' => Below wr.heap.size wr w') (first | exact Below.drew (Below.refl _ _) | assumption | fail) (first
          | (go_at_call 12; (first
            | ((with_reducible refine (C1.out _ (by assumption)).mono ?_); rintro e w1 ⟨rfl, hb1⟩)
            | ((with_reducible refine (C2.out _ (by assumption)).mono ?_); rintro e w1 ⟨rfl, hb1⟩)
            | ((with_reducible refine (C3.out _ (by assumption)).mono ?_); rintro e w1 ⟨rfl, hb1⟩)
            | ((with_reducible refine (C4.out _ (by assumption)).mono ?_); rintro e w1 ⟨rfl, hb1⟩)
            | fail))
          | fail)
        clear C1 C2 C3 C4
        go_wp2_with (first
          | (go_at_call 14; (first
            | ((with_reducible refine (C5.out _ (by assumption)).mono ?_); rintro e w2 ⟨rfl, hb2⟩)
            | ((with_reducible refine (C6.out _ (by assumption)).mono ?_); rintro e w2 ⟨rfl, hb2⟩)
            | ((with_reducible refine (C7.out _ (by assumption)).mono ?_); rintro e w2 ⟨rfl, hb2⟩)
            | ((with_reducible refine (C8.out _ (by assumption)).mono ?_); rintro e w2 ⟨rfl, hb2⟩)
            | fail))
          | (go_at_call 17; ((with_reducible refine (C9.out _ (by assumption)).mono ?_); rintro e w2 ⟨rfl, hb2⟩))
          | fail)
        go_ret
        exact ⟨rfl, HBEL.out.trans (Below.mono (by assumption) sz)⟩
/-- The same, its facts in the order of the arguments. -/
theorem CrcLinear_walk' (A : Option Addr) (ca : Nat) (a : List UInt8) (B : Option Addr) (cb : Nat) (b : List UInt8) (C : Option Addr) (cc : Nat) (c : List UInt8) (s t u : BitVec 32) (w : World)
    (hA : At w A a) (zA : A = none → ca = 0) (ma : a.length + 4 ≤ 140737488355328) (la : a.length ≤ ca) (hB : At w B b) (zB : B = none → cb = 0) (mb : b.length + 4 ≤ 140737488355328) (lb : b.length ≤ cb) (hC : At w C c) (zC : C = none → cc = 0) (mc : c.length + 4 ≤ 140737488355328) (lc : c.length ≤ cc) (h : Env w) :
    Calls Tryd.prog 7 #[.slice A a.length ca, .slice B b.length cb, .slice C c.length cc, .int .u32 (s.toNat : Int), .int .u32 (t.toNat : Int), .int .u32 (u.toNat : Int)] w fun e w' => e = .returned (.bool true) ∧ Below w.heap.size w w' :=
  CrcLinear_walk A B C ca cb cc a b c s t u w hA hB hC zA zB zC ma mb mc la lb lc h
end Go.Proofs.YtgaipgpendemfaaDoor
