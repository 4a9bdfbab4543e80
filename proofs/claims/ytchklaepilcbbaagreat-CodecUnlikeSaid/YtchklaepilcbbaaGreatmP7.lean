/- A period, an operation read by a source. -/
import Derived.Test.YtchklaepilcbbaaGreatmP6
import Derived.Test.YtchklaepilcbbaaGreatmW2
import Derived.Deep.MidRow
namespace Go.Proofs.YtchklaepilcbbaaGreat
open Go.RowKit
theorem Far.alloc {s g : Nat} {w w' : World} (h : Far s g w w') (o : Obj) : Far s g w (w'.alloc o) := h.trans (Far.of ((Below.refl _ _).alloc (Nat.le_refl _) o))
theorem Far.drew {s g : Nat} {w w' : World} (h : Far s g w w') : Far s g w w'.drew := h.trans (Far.of (Below.refl _ _).drew)
theorem Src.drew {w : World} {s g k c : Nat} {A : Option Addr} {l : List UInt8} {bad : Bool} (h : Src w s g A c l k bad) : Src w.drew s g A c l k bad := h.below (Below.refl _ _).drew
theorem Src.alloc {w : World} {s g k c : Nat} {A : Option Addr} {l : List UInt8} {bad : Bool} (h : Src w s g A c l k bad) (o : Obj) : Src (w.alloc o) s g A c l k bad := h.below ((Below.refl _ _).alloc (Nat.le_refl _) o)
theorem take_in {P : Program} {md : Region.Mode} {ops : Array Oper} {Q : Exit → Act → World → Prop} {S : World → Prop} {i : Nat} {oi : Oper} {v : Value} {fuel : Nat} {listed : Array Bool} {a : Act} {w : World} (d : Option Nat) (hi : ops[i]? = some oi) (hd : oi.dst = d)
    (hs : Region.noSelect ops = true) (hf : Region.free md ops listed i = true) (hr : (Region.ready md ops listed).contains i = true)
    (hQ : ∀ c a w, Q (.panic c) (a.put d v) w → Q (.panic c) a w) (hy : YieldsIf P ops S oi v a) (hS : S w)
    (h : wpAnyH P md ops Q S fuel (listed.setIfInBounds i true) (a.put d v) w) : wpAnyH P md ops Q S (fuel + 1) listed a w := by
  subst hd
  exact wpAnyH_take hi hs hf hr hQ hy hS h
theorem plain_z : Plain #[.int .i64 0, .bool false, .int .u64 0, .string ⟨#[]⟩, .int .u64 0, .int .u64 0, .string ⟨#[]⟩, .int .i64 0, .bool false, .int .i64 0, .float .f64 0, .string ⟨#[]⟩, .int .u64 0, .int .u64 0] := plain_o ⟨0, false, 0, ⟨#[]⟩, 0, 0, ⟨#[]⟩, VP.zero, 0, 0⟩
section
set_option maxRecDepth 100000
set_option maxHeartbeats 40000000
theorem block_setCells (p : Nat) : ∀ (vs : List Value) (o : Nat) (w : World) (b : Nat), b ≠ p → (w.setCells p o vs).heap[b]? = w.heap[b]?
  | [], _, _, _, _ => rfl
  | v :: r, o, w, b, h => (block_setCells p r (o + 1) _ b h).trans (block_setCell w ⟨p, o, none⟩ v b h)
theorem rest_setCells (p : Nat) : ∀ (vs : List Value) (o : Nat) (w : World), (w.setCells p o vs).os = w.os ∧ (w.setCells p o vs).tape = w.tape ∧ (w.setCells p o vs).output = w.output ∧ (w.setCells p o vs).heap.size = w.heap.size
  | [], _, _ => ⟨rfl, rfl, rfl, rfl⟩
  | v :: r, o, w => by
    obtain ⟨h1, h2, h3, h4⟩ := rest_setCells p r (o + 1) (w.setCell ⟨p, o, none⟩ v)
    exact ⟨h1, h2, h3, h4.trans (by simp [World.setCell])⟩
theorem Keeps.setAll (p o : Nat) (vs : List Value) (w : World) : Keeps (fun b => b = p) w (w.setCells p o vs) := by
  obtain ⟨h1, h2, h3, h4⟩ := rest_setCells p vs o w
  exact ⟨h1, h2, h3, Nat.le_of_eq h4.symm, fun b _ hb => block_setCells p vs o w b hb⟩
theorem Src.setAll {w : World} {s g c k p : Nat} {A : Option Addr} {l : List UInt8} {bad : Bool} {C : Array Value} (h : Src w s g A c l k bad) (hx : Bx w p C) (hC : Plain C) (h1 : p ≠ s) (h2 : p ≠ g) (o : Nat) (vs : List Value) : Src (w.setCells p o vs) s g A c l k bad := by
  refine ⟨(block_setCells p vs o w s (Ne.symm h1)).trans h.box, h.ne, (block_setCells p vs o w g (Ne.symm h2)).trans h.rd.1, h.rd.2.1, fun h0 => ?_⟩
  obtain ⟨b, off, e, hl, hn, hc⟩ := h.rd.2.2 h0
  have hb : b ≠ p := by
    rintro rfl
    have := hc 0 h0
    rw [hx.c] at this
    exact hC _ _ this
  refine ⟨b, off, e, by rw [(rest_setCells p vs o w).2.2.2]; exact hl, hn, fun j hj => ?_⟩
  rw [World.cell?_setCells_out p vs o w ⟨b, off + j, none⟩ (fun e => absurd e hb)]
  exact hc j hj
theorem Bx.setAll {w : World} {p : Nat} {C : Array Value} (h : Bx w p C) (D : Array Value) (hD : D.size = C.size) : Bx (w.setCells p 0 D.toList) p D := by
  refine ⟨by rw [(rest_setCells p D.toList 0 w).2.2.2]; exact h.lt, fun j => ?_, fun j => by rw [World.frozen?_setCells]; exact h.fr j⟩
  rcases Nat.lt_or_ge j D.size with hj | hj
  · have := World.cell?_setCells_in p D.toList 0 w (fun i hi => by rw [Nat.zero_add, h.c, Array.getElem?_eq_getElem (by simp at hi; omega)]; rfl) j (by simpa using hj)
    rw [Nat.zero_add] at this
    rw [this, Array.getElem?_eq_getElem hj]
    simp
  · rw [World.cell?_setCells_out p D.toList 0 w ⟨p, j, none⟩ (fun _ _ => .inr (by simpa using hj)), h.c, Array.getElem?_eq_none (by omega), Array.getElem?_eq_none (by omega)]
theorem Bx.there {w : World} {p : Nat} {C : Array Value} (h : Bx w p C) : w.there p 0 C.size := fun j hj => ⟨by rw [Nat.zero_add, h.c, Array.getElem?_eq_getElem hj]; rfl, h.fr _⟩
abbrev olab (p1 p3 : Nat) : Array Value := #[.func (.func 111) #[] #[.pointer (some ⟨p1, 0, none⟩), .pointer (some ⟨p3, 0, none⟩)]]
abbrev otab (p1 p3 p5 : Nat) : Array Value := #[.nilFunc, .func (.func 111) #[] #[.pointer (some ⟨p1, 0, none⟩), .pointer (some ⟨p3, 0, none⟩)], .func (.func 112) #[] #[.pointer (some ⟨p5, 0, none⟩), .pointer (some ⟨p1, 0, none⟩), .pointer (some ⟨p3, 0, none⟩)], .func (.func 110) #[] #[], .func (.func 110) #[] #[], .func (.func 113) #[] #[.pointer (some ⟨p1, 0, none⟩), .pointer (some ⟨p3, 0, none⟩)]]
theorem put_p {w : World} {s g c k p : Nat} {A : Option Addr} {l : List UInt8} {bad : Bool} (u : OP) (a b : Nat) (hS : Src w s g A c l k bad) (hx : Bx w p u.cells) (h1 : p ≠ s) (h2 : p ≠ g) :
    ∃ W, ((w.setCell ⟨p, 12, none⟩ (.int .u64 (a : Int))).setCell ⟨p, 13, none⟩ (.int .u64 (b : Int))) = W ∧
      Src W s g A c l k bad ∧ Keeps (fun b => b = p) w W ∧ Bx W p (OP.cells ⟨u.kind, u.edge, u.id, u.label, u.fr, u.til, u.key, u.v, a, b⟩) := by
  have x0 := (hx.set 12 (.int .u64 (a : Int)) (by simp)).eq (B := OP.cells ⟨u.kind, u.edge, u.id, u.label, u.fr, u.til, u.key, u.v, a, u.pt⟩) rfl
  have s0 := hS.put hx (plain_o _) h1 h2 12 (.int .u64 (a : Int))
  have x1 := (x0.set 13 (.int .u64 (b : Int)) (by simp)).eq (B := OP.cells ⟨u.kind, u.edge, u.id, u.label, u.fr, u.til, u.key, u.v, a, b⟩) rfl
  have s1 := s0.put x0 (plain_o _) h1 h2 13 (.int .u64 (b : Int))
  exact ⟨_, rfl, s1, ((Keeps.refl (fun b => b = p) w).set ⟨p, 12, none⟩ _ rfl).set ⟨p, 13, none⟩ _ rfl, x1⟩
theorem source_period (s g c k : Nat) (A : Option Addr) (l : List UInt8) (bad : Bool) (w : World) (h : Src w s g A c l k bad) :
    Calls Tryz.prog 114 #[.pointer (some ⟨s, 0, none⟩)] w fun e w' => ∃ a b : Nat, e = .returned (.agg #[.int .u64 (a : Int), .int .u64 (b : Int)]) ∧ (a ≤ 1099511627776 ∧ b ≤ 1099511627776) ∧
      ∃ k1 b1 k2 b2, Src w' s g A c l k2 b2 ∧ Far s g w w' ∧ Reads encNum (fun n => n ≤ 1099511627776) bad (l.drop k) a b1 (l.drop k1) ∧ Reads encNum (fun n => n ≤ 1099511627776) b1 (l.drop k1) b b2 (l.drop k2) := by
  have S0 := Lib.hid (h.alloc (.cells #[.int .u64 0, .int .u64 0] 41))
  have X0 := Lib.hid (Bx.new w #[.int .u64 0, .int .u64 0] 41)
  have F0 := Lib.hid ((Far.refl s g w).alloc (.cells #[.int .u64 0, .int .u64 0] 41))
  have N0 := Lib.hid (show w.heap.size ≠ s ∧ w.heap.size ≠ g by have := h.lt; have := h.ltg; omega)
  clear h
  have C1 := Lib.hid (Tells.num s g c k 1099511627776 (by omega) A l bad _ S0.out)
  go_enter Tryz.func114, Tryz.ntmps114
  go_wp2_with (first
    | (go_at_call 94; (refine (C1.out).mono ?_); rintro e w1 ⟨a, rfl, ha, k1, b1, h1, h2, h3⟩; have S1 := Lib.hid h1; have F1 := Lib.hid h2; have R1 := Lib.hid h3; have LA := Lib.hid ha; have C2 := Lib.hid (Tells.num s g c k1 1099511627776 (by omega) A l b1 w1 h1); clear h1 h2 h3 ha)
    | (go_at_call 94; (refine (C2.out).mono ?_); rintro e w2 ⟨b, rfl, hb, k2, b2, h1, h2, h3⟩; have S2 := Lib.hid h1; have F2 := Lib.hid h2; have R2 := Lib.hid h3; have LB := Lib.hid hb; have X2 := Lib.hid ((X0.out.far F1.out N0.out.1 N0.out.2).far h2 N0.out.1 N0.out.2); have q2 := X2.out.c; have f2 := X2.out.fr; clear h1 h2 h3 hb))
  have hp : ∀ j (x : Int), (#[.int .u64 0, .int .u64 0] : Array Value)[j]? ≠ some (Value.int IntKind.u8 x) := fun j x => by
    match j with
    | 0 | 1 => simp
    | n + 2 => rw [Array.getElem?_eq_none (by simp)]; simp
  have hp2 : ∀ j (x : Int), (#[.int .u64 a, .int .u64 0] : Array Value)[j]? ≠ some (Value.int IntKind.u8 x) := fun j x => by
    match j with
    | 0 | 1 => simp
    | n + 2 => rw [Array.getElem?_eq_none (by simp)]; simp
  have x3 := (X2.out.set 0 (.int .u64 (a : Int)) (by simp)).eq (B := #[.int .u64 a, .int .u64 0]) rfl
  have s3 := S2.out.put X2.out hp N0.out.1 N0.out.2 0 (.int .u64 (a : Int))
  have x4 := (x3.set 1 (.int .u64 (b : Int)) (by simp)).eq (B := #[.int .u64 a, .int .u64 b]) rfl
  have s4 := s3.put x3 hp2 N0.out.1 N0.out.2 1 (.int .u64 (b : Int))
  have f4 : Far s g w ((w2.setCell ⟨w.heap.size, 0, none⟩ (.int .u64 (a : Int))).setCell ⟨w.heap.size, 1, none⟩ (.int .u64 (b : Int))) :=
    ((F0.out.trans F1.out).trans F2.out).then (((Keeps.refl (fun b => b = w.heap.size) w2).set ⟨w.heap.size, 0, none⟩ _ rfl).set ⟨w.heap.size, 1, none⟩ _ rfl) (fun b hb e => by omega)
  obtain ⟨W, hW, x5, s5, f5⟩ := fold_world (P := fun W => Bx W w.heap.size #[.int .u64 a, .int .u64 b] ∧ Src W s g A c l k2 b2 ∧ Far s g w W) ⟨x4, s4, f4⟩
  rw [hW]
  refine bodyPost_ret (v := .agg #[.int .u64 (a : Int), .int .u64 (b : Int)]) (by simp [results, Tryz.results114, go_sem, x5.c]) rfl ?_
  exact ⟨a, b, rfl, ⟨LA.out, LB.out⟩, k1, b1, k2, b2, s5, f5, R1.out, R2.out⟩
theorem Bx.range {w : World} {p : Nat} {C : Array Value} (h : Bx w p C) : w.rangeAt p 0 C.toList := fun j v hv => by
  rw [Nat.zero_add, h.c, ← hv]; simp
theorem isRowOp : (Tryz.prog.info? 43).map (·.size) = some 14 := by kernel_rfl
theorem one14 (o : OP) : o.cells.all (·.oneCell') = true := by kernel_rfl
theorem op_wide_of {n : Int} {edge : Bool} {id : Nat} {label : ByteArray} {fr til : Nat} {key : ByteArray} {v : VP} {a b : Nat} (h1 : ((1 : Nat) : Int) ≤ n ∧ n ≤ ((5 : Nat) : Int)) (h2 : id ≤ 1099511627776) (hl : label.size ≤ 16) (hf : fr ≤ 1099511627776) (ht : til ≤ 1099511627776)
    (hk : key.size ≤ 16) (hv : v.wide) (ha : a ≤ 1099511627776) (hb : b ≤ 1099511627776) : OP.wide ⟨n, edge, id, label, fr, til, key, v, a, b⟩ := by
  have hm : maxLen ≥ 100 := by unfold maxLen; omega
  refine ⟨?_, ?_, ?_, ?_, ?_, ?_, hv, ?_, ?_⟩
  · show fits n
    unfold fits; omega
  · show id < _; omega
  · show label.size ≤ _; omega
  · show fr < _; omega
  · show til < _; omega
  · show key.size ≤ _; omega
  · show a < _; omega
  · show b < _; omega
theorem source_op (s g c k : Nat) (A : Option Addr) (l : List UInt8) (bad : Bool) (w : World) (h : Src w s g A c l k bad) :
    Calls Tryz.prog 59 #[.pointer (some ⟨s, 0, none⟩)] w fun e w' => ∃ o : OP, e = .returned o.val ∧ o.wide ∧ Tells OP.enc (fun o => o.may ∧ o.wide) s g A c l k bad o w w' := by
  have hsf := store_float
  have LS := Lib.hid h.lt
  have LG := Lib.hid h.ltg
  have S0 := Lib.hid ((h.alloc (.cells #[.pointer (some ⟨s, 0, none⟩)] 84)).alloc (.cells #[.int .i64 0, .bool false, .int .u64 0, .string ⟨#[]⟩, .int .u64 0, .int .u64 0, .string ⟨#[]⟩, .int .i64 0, .bool false, .int .i64 0, .float .f64 0, .string ⟨#[]⟩, .int .u64 0, .int .u64 0] 43))
  have F0 := Lib.hid (((Far.refl s g w).alloc (.cells #[.pointer (some ⟨s, 0, none⟩)] 84)).alloc (.cells #[.int .i64 0, .bool false, .int .u64 0, .string ⟨#[]⟩, .int .u64 0, .int .u64 0, .string ⟨#[]⟩, .int .i64 0, .bool false, .int .i64 0, .float .f64 0, .string ⟨#[]⟩, .int .u64 0, .int .u64 0] 43))
  have X1 := Lib.hid ((Bx.new w #[.pointer (some ⟨s, 0, none⟩)] 84).below ((Below.refl _ _).alloc (Nat.le_refl _) (.cells #[.int .i64 0, .bool false, .int .u64 0, .string ⟨#[]⟩, .int .u64 0, .int .u64 0, .string ⟨#[]⟩, .int .i64 0, .bool false, .int .i64 0, .float .f64 0, .string ⟨#[]⟩, .int .u64 0, .int .u64 0] 43)))
  have X2 : Hid (Bx ((w.alloc (.cells #[.pointer (some ⟨s, 0, none⟩)] 84)).alloc (.cells #[.int .i64 0, .bool false, .int .u64 0, .string ⟨#[]⟩, .int .u64 0, .int .u64 0, .string ⟨#[]⟩, .int .i64 0, .bool false, .int .i64 0, .float .f64 0, .string ⟨#[]⟩, .int .u64 0, .int .u64 0] 43)) (w.heap.size + 1) #[.int .i64 0, .bool false, .int .u64 0, .string ⟨#[]⟩, .int .u64 0, .int .u64 0, .string ⟨#[]⟩, .int .i64 0, .bool false, .int .i64 0, .float .f64 0, .string ⟨#[]⟩, .int .u64 0, .int .u64 0]) := Lib.hid (by
    have := Bx.new (w.alloc (.cells #[.pointer (some ⟨s, 0, none⟩)] 84)) #[.int .i64 0, .bool false, .int .u64 0, .string ⟨#[]⟩, .int .u64 0, .int .u64 0, .string ⟨#[]⟩, .int .i64 0, .bool false, .int .i64 0, .float .f64 0, .string ⟨#[]⟩, .int .u64 0, .int .u64 0] 43
    simpa using this)
  obtain ⟨W, hW⟩ : ∃ W, (w.alloc (.cells #[.pointer (some ⟨s, 0, none⟩)] 84)).alloc (.cells #[.int .i64 0, .bool false, .int .u64 0, .string ⟨#[]⟩, .int .u64 0, .int .u64 0, .string ⟨#[]⟩, .int .i64 0, .bool false, .int .i64 0, .float .f64 0, .string ⟨#[]⟩, .int .u64 0, .int .u64 0] 43) = W := ⟨_, rfl⟩
  rw [hW] at S0 F0 X1 X2
  clear h
  go_enter Tryz.func59, Tryz.ntmps59
  go_upto_region 1 with fail
  have HS := Lib.hid (show w.heap.size + 2 = W.heap.size by rw [← hW]; simp)
  clear hW
  have N1 : Hid (w.heap.size ≠ s ∧ w.heap.size ≠ g ∧ w.heap.size + 1 ≠ s ∧ w.heap.size + 1 ≠ g) := Lib.hid (by have := LS.out; have := LG.out; omega)
  have K0 := Lib.hid (fun (w' : World) (hf : Far s g W w') => (X1.out.far hf N1.out.1 N1.out.2.1).c)
  have CK : Hid (∀ W', Src W' s g A c l k bad → Calls Tryz.prog 92 #[.pointer (some ⟨s, 0, none⟩), .int .i64 1, .int .i64 5] W' fun e w' => ∃ n : Int, e = .returned (.int .i64 n) ∧ (((1 : Nat) : Int) ≤ n ∧ n ≤ ((5 : Nat) : Int)) ∧ Tells (fun n => [kind8 n]) (fun n => ((1 : Nat) : Int) ≤ n ∧ n ≤ ((5 : Nat) : Int)) s g A c l k bad n W' w') :=
    Lib.hid (fun W' (h : Src W' s g A c l k bad) => Tells.kind s g c k 1 5 (by omega) (by omega) A l bad W' h)
  have CF := Lib.hid (fun W' k1 b1 (h : Src W' s g A c l k1 b1) => Tells.flag s g c k1 A l b1 W' h)
  have CN : Hid (∀ W' k1 b1, Src W' s g A c l k1 b1 → Calls Tryz.prog 94 #[.pointer (some ⟨s, 0, none⟩), .int .u64 1099511627776] W' fun e w' => ∃ n : Nat, e = .returned (.int .u64 (n : Int)) ∧ n ≤ 1099511627776 ∧ Tells encNum (fun n => n ≤ 1099511627776) s g A c l k1 b1 n W' w') :=
    Lib.hid (fun W' k1 b1 (h : Src W' s g A c l k1 b1) => Tells.num s g c k1 1099511627776 (by omega) A l b1 W' h)
  have NW := Lib.hid (show s < W.heap.size ∧ g < W.heap.size from ⟨S0.out.lt, S0.out.ltg⟩)
  go_cut [3] from 7 to 13 (fun t w' => ∃ (p3 : Nat) (n : Int) (edge : Bool) (id : Nat) (k1 : Nat) (b1 : Bool) (k2 : Nat) (b2 : Bool) (k3 : Nat) (b3 : Bool), t = .pointer (some ⟨p3, 0, none⟩) ∧ W.heap.size ≤ p3 ∧ Src w' s g A c l k3 b3 ∧ Far s g W w' ∧ Bx w' p3 (OP.cells ⟨n, edge, id, ⟨#[]⟩, 0, 0, ⟨#[]⟩, VP.zero, 0, 0⟩) ∧ (((1 : Nat) : Int) ≤ n ∧ n ≤ ((5 : Nat) : Int)) ∧ id ≤ 1099511627776 ∧
      Reads (fun n => [kind8 n]) (fun n => ((1 : Nat) : Int) ≤ n ∧ n ≤ ((5 : Nat) : Int)) bad (l.drop k) n b1 (l.drop k1) ∧ Reads (fun b => [bit8 b]) (fun _ => True) b1 (l.drop k1) edge b2 (l.drop k2) ∧ Reads encNum (fun n => n ≤ 1099511627776) b2 (l.drop k2) id b3 (l.drop k3))
  case first =>
    refine wp_region_held_drew (S := (fun w' => ∀ j, w'.cell? ⟨w.heap.size, j, none⟩ = (#[.pointer (some ⟨s, 0, none⟩)] : Array Value)[j]?)) (by kernel_rfl) (K0.out _ (Far.refl _ _ _).drew) (fun hHeld => ?_)
    refine take_in (i := 0) (v := ?_) (some 7) rfl rfl (by kernel_rfl) (by kernel_rfl) (by kernel_rfl) (fun _ _ _ h => h) (Or.inl ⟨by rfl, ?_⟩) (by assumption) ?_
    rotate_left
    · (intro w hSw; (try dsimp only at hSw); (try go_split_ands); go_simp; try with_reducible rfl)
    try simp only [Act.put, List.setIfInBounds_toArray, List.set_cons_zero, List.set_cons_succ]
    refine take_in (i := 2) (v := ?_) (some 9) rfl rfl (by kernel_rfl) (by kernel_rfl) (by kernel_rfl) (fun _ _ _ h => h) (Or.inl ⟨by rfl, ?_⟩) (by assumption) ?_
    rotate_left
    · (intro w hSw; (try dsimp only at hSw); (try go_split_ands); go_simp; try with_reducible rfl)
    try simp only [Act.put, List.setIfInBounds_toArray, List.set_cons_zero, List.set_cons_succ]
    refine take_in (i := 4) (v := ?_) (some 11) rfl rfl (by kernel_rfl) (by kernel_rfl) (by kernel_rfl) (fun _ _ _ h => h) (Or.inl ⟨by rfl, ?_⟩) (by assumption) ?_
    rotate_left
    · (intro w hSw; (try dsimp only at hSw); (try go_split_ands); go_simp; try with_reducible rfl)
    try simp only [Act.put, List.setIfInBounds_toArray, List.set_cons_zero, List.set_cons_succ]
    refine wpAnyH_ready (rs := [1, 7]) (by kernel_rfl) (by simp) ?_
    refine AllReadyH.cons rfl (fun K hK => ?_) (AllReadyH.cons rfl (fun K hK => ?_) AllReadyH.nil)
    · go_simp
      go_at_call 92
      with_reducible refine (CK.out _ S0.out.drew).mono ?_
      rintro e w1 ⟨n, rfl, hn, k1, b1, h1, h2, h3⟩
      have S1 := Lib.hid h1
      have FF1 := Lib.hid (Far.trans (Far.refl s g W).drew h2)
      have R1 := Lib.hid h3
      have M1 := Lib.hid FF1.out.size
      clear h1 h2 h3
      have HN := Lib.hid hn; clear hn
      go_wp2_with fail
      refine hK.out _ _ (K0.out _ FF1.out) (fun hHeld => ?_)
      clear hK K
      try simp only [Act.put, List.setIfInBounds_toArray, List.set_cons_zero, List.set_cons_succ]
      refine wpAnyH_ready (rs := [3, 7]) (by kernel_rfl) (by simp) ?_
      refine AllReadyH.cons rfl (fun K hK => ?_) (AllReadyH.cons rfl (fun K hK => ?_) AllReadyH.nil)
      · go_simp
        go_at_call 97
        with_reducible refine (CF.out _ _ _ S1.out).mono ?_
        rintro e w2 ⟨edge, rfl, k2, b2, h1, h2, h3⟩
        have S2 := Lib.hid h1
        have FF2 := Lib.hid (Far.trans FF1.out h2)
        have R2 := Lib.hid h3
        have M2 := Lib.hid FF2.out.size
        clear h1 h2 h3
        skip
        go_wp2_with fail
        refine hK.out _ _ (K0.out _ FF2.out) (fun hHeld => ?_)
        clear hK K
        try simp only [Act.put, List.setIfInBounds_toArray, List.set_cons_zero, List.set_cons_succ]
        refine wpAnyH_ready (rs := [5, 7]) (by kernel_rfl) (by simp) ?_
        refine AllReadyH.cons rfl (fun K hK => ?_) (AllReadyH.cons rfl (fun K hK => ?_) AllReadyH.nil)
        · go_simp
          go_at_call 94
          with_reducible refine (CN.out _ _ _ S2.out).mono ?_
          rintro e w3 ⟨id, rfl, hi, k3, b3, h1, h2, h3⟩
          have S3 := Lib.hid h1
          have FF3 := Lib.hid (Far.trans FF2.out h2)
          have R3 := Lib.hid h3
          have M3 := Lib.hid FF3.out.size
          clear h1 h2 h3
          have LI := Lib.hid hi; clear hi
          go_wp2_with fail
          refine hK.out _ _ (K0.out _ FF3.out) (fun hHeld => ?_)
          clear hK K
          try simp only [Act.put, List.setIfInBounds_toArray, List.set_cons_zero, List.set_cons_succ]
          refine take_in (i := 6) (v := ?_) (some 13) rfl rfl (by kernel_rfl) (by kernel_rfl) (by kernel_rfl) (fun _ _ _ h => h) (Or.inl ⟨by rfl, ?_⟩) (by assumption) ?_
          rotate_left
          · (intro w hSw; (try dsimp only at hSw); (try go_split_ands); go_simp; try with_reducible rfl)
          try simp only [Act.put, List.setIfInBounds_toArray, List.set_cons_zero, List.set_cons_succ]
          refine wpAnyH_ready (rs := [7]) (by kernel_rfl) (by simp) ?_
          refine AllReadyH.cons rfl (fun K hK => ?_) AllReadyH.nil
          go_simp
          refine hK.out _ _ (K0.out _ (FF3.out.alloc _)) (fun hHeld => ?_)
          clear hK K
          try simp only [Act.put, List.setIfInBounds_toArray, List.set_cons_zero, List.set_cons_succ]
          refine wpAnyH_ready (rs := [8]) (by kernel_rfl) (by simp) ?_
          refine AllReadyH.cons rfl (fun K hK => ?_) AllReadyH.nil
          rw [if_pos (by rfl)]
          refine wp_store_mid 43 (.tmp 3) (.tmp 13) rfl (w3.heap.size) 0 (OP.cells ⟨n, edge, id, ⟨#[]⟩, 0, 0, ⟨#[]⟩, VP.zero, 0, 0⟩) (by rfl) (by rfl) (Bx.there (C := #[.int .i64 0, .bool false, .int .u64 0, .string ⟨#[]⟩, .int .u64 0, .int .u64 0, .string ⟨#[]⟩, .int .i64 0, .bool false, .int .i64 0, .float .f64 0, .string ⟨#[]⟩, .int .u64 0, .int .u64 0]) (Bx.new w3 _ _)) (by kernel_rfl) (by kernel_rfl) ?_
          refine hK.out _ _ (?_) (fun hHeld => ?_)
          · intro j; rw [World.cell?_setCells_out _ _ _ _ _ (fun e => absurd e (by show ¬ w.heap.size = w3.heap.size; have := HS.out; have := M1.out; have := M2.out; have := M3.out; omega))]; exact K0.out _ (FF3.out.alloc _) j
          clear hK K
          refine wpAnyH_done (by kernel_rfl) ?_ _
          go_wp2_with fail
          go_meet
          exact ⟨w3.heap.size, n, edge, id, k1, b1, k2, b2, k3, b3, rfl, by have := M1.out; have := M2.out; have := M3.out; omega, Src.setAll (S3.out.alloc _) (Bx.new w3 _ _) plain_z (by have := NW.out; have := M1.out; have := M2.out; have := M3.out; omega) (by have := NW.out; have := M1.out; have := M2.out; have := M3.out; omega) 0 _, Far.then (FF3.out.alloc _) (Keeps.setAll _ 0 _ _) (fun b hb e => absurd hb (by have e' : b = w3.heap.size := e; have := M1.out; have := M2.out; have := M3.out; omega)), Bx.setAll (Bx.new w3 _ _) _ rfl, HN.out, LI.out, R1.out, R2.out, R3.out⟩
        · go_simp
          refine hK.out _ _ (K0.out _ (FF2.out.alloc _)) (fun hHeld => ?_)
          clear hK K
          try simp only [Act.put, List.setIfInBounds_toArray, List.set_cons_zero, List.set_cons_succ]
          refine wpAnyH_ready (rs := [5]) (by kernel_rfl) (by simp) ?_
          refine AllReadyH.cons rfl (fun K hK => ?_) AllReadyH.nil
          go_simp
          go_at_call 94
          with_reducible refine (CN.out _ _ _ (S2.out.alloc _)).mono ?_
          rintro e w3 ⟨id, rfl, hi, k3, b3, h1, h2, h3⟩
          have S3 := Lib.hid h1
          have FF3 := Lib.hid (Far.trans (FF2.out.alloc _) h2)
          have R3 := Lib.hid h3
          have M3 := Lib.hid FF3.out.size
          have Z3 := Lib.hid ((Bx.new w2 _ _).far h2 (by have := NW.out; have := M1.out; have := M2.out; omega) (by have := NW.out; have := M1.out; have := M2.out; omega))
          clear h1 h2 h3
          have LI := Lib.hid hi; clear hi
          go_wp2_with fail
          refine hK.out _ _ (K0.out _ FF3.out) (fun hHeld => ?_)
          clear hK K
          try simp only [Act.put, List.setIfInBounds_toArray, List.set_cons_zero, List.set_cons_succ]
          refine take_in (i := 6) (v := ?_) (some 13) rfl rfl (by kernel_rfl) (by kernel_rfl) (by kernel_rfl) (fun _ _ _ h => h) (Or.inl ⟨by rfl, ?_⟩) (by assumption) ?_
          rotate_left
          · (intro w hSw; (try dsimp only at hSw); (try go_split_ands); go_simp; try with_reducible rfl)
          try simp only [Act.put, List.setIfInBounds_toArray, List.set_cons_zero, List.set_cons_succ]
          refine wpAnyH_ready (rs := [8]) (by kernel_rfl) (by simp) ?_
          refine AllReadyH.cons rfl (fun K hK => ?_) AllReadyH.nil
          rw [if_pos (by rfl)]
          refine wp_store_mid 43 (.tmp 3) (.tmp 13) rfl (w2.heap.size) 0 (OP.cells ⟨n, edge, id, ⟨#[]⟩, 0, 0, ⟨#[]⟩, VP.zero, 0, 0⟩) (by rfl) (by rfl) (Bx.there (C := #[.int .i64 0, .bool false, .int .u64 0, .string ⟨#[]⟩, .int .u64 0, .int .u64 0, .string ⟨#[]⟩, .int .i64 0, .bool false, .int .i64 0, .float .f64 0, .string ⟨#[]⟩, .int .u64 0, .int .u64 0]) Z3.out) (by kernel_rfl) (by kernel_rfl) ?_
          refine hK.out _ _ (?_) (fun hHeld => ?_)
          · intro j; rw [World.cell?_setCells_out _ _ _ _ _ (fun e => absurd e (by show ¬ w.heap.size = w2.heap.size; have := HS.out; have := M1.out; have := M2.out; have := M3.out; omega))]; exact K0.out _ FF3.out j
          clear hK K
          refine wpAnyH_done (by kernel_rfl) ?_ _
          go_wp2_with fail
          go_meet
          exact ⟨w2.heap.size, n, edge, id, k1, b1, k2, b2, k3, b3, rfl, by have := M1.out; have := M2.out; have := M3.out; omega, Src.setAll S3.out Z3.out plain_z (by have := NW.out; have := M1.out; have := M2.out; have := M3.out; omega) (by have := NW.out; have := M1.out; have := M2.out; have := M3.out; omega) 0 _, Far.then FF3.out (Keeps.setAll _ 0 _ _) (fun b hb e => absurd hb (by have e' : b = w2.heap.size := e; have := M1.out; have := M2.out; have := M3.out; omega)), Bx.setAll Z3.out _ rfl, HN.out, LI.out, R1.out, R2.out, R3.out⟩
      · go_simp
        refine hK.out _ _ (K0.out _ (FF1.out.alloc _)) (fun hHeld => ?_)
        clear hK K
        try simp only [Act.put, List.setIfInBounds_toArray, List.set_cons_zero, List.set_cons_succ]
        refine wpAnyH_ready (rs := [3]) (by kernel_rfl) (by simp) ?_
        refine AllReadyH.cons rfl (fun K hK => ?_) AllReadyH.nil
        go_simp
        go_at_call 97
        with_reducible refine (CF.out _ _ _ (S1.out.alloc _)).mono ?_
        rintro e w2 ⟨edge, rfl, k2, b2, h1, h2, h3⟩
        have S2 := Lib.hid h1
        have FF2 := Lib.hid (Far.trans (FF1.out.alloc _) h2)
        have R2 := Lib.hid h3
        have M2 := Lib.hid FF2.out.size
        have Z2 := Lib.hid ((Bx.new w1 _ _).far h2 (by have := NW.out; have := M1.out; omega) (by have := NW.out; have := M1.out; omega))
        clear h1 h2 h3
        skip
        go_wp2_with fail
        refine hK.out _ _ (K0.out _ FF2.out) (fun hHeld => ?_)
        clear hK K
        try simp only [Act.put, List.setIfInBounds_toArray, List.set_cons_zero, List.set_cons_succ]
        refine wpAnyH_ready (rs := [5]) (by kernel_rfl) (by simp) ?_
        refine AllReadyH.cons rfl (fun K hK => ?_) AllReadyH.nil
        go_simp
        go_at_call 94
        with_reducible refine (CN.out _ _ _ S2.out).mono ?_
        rintro e w3 ⟨id, rfl, hi, k3, b3, h1, h2, h3⟩
        have S3 := Lib.hid h1
        have FF3 := Lib.hid (Far.trans FF2.out h2)
        have R3 := Lib.hid h3
        have M3 := Lib.hid FF3.out.size
        have Z3 := Lib.hid (Z2.out.far h2 (by have := NW.out; have := M1.out; have := M2.out; omega) (by have := NW.out; have := M1.out; have := M2.out; omega))
        clear h1 h2 h3
        have LI := Lib.hid hi; clear hi
        go_wp2_with fail
        refine hK.out _ _ (K0.out _ FF3.out) (fun hHeld => ?_)
        clear hK K
        try simp only [Act.put, List.setIfInBounds_toArray, List.set_cons_zero, List.set_cons_succ]
        refine take_in (i := 6) (v := ?_) (some 13) rfl rfl (by kernel_rfl) (by kernel_rfl) (by kernel_rfl) (fun _ _ _ h => h) (Or.inl ⟨by rfl, ?_⟩) (by assumption) ?_
        rotate_left
        · (intro w hSw; (try dsimp only at hSw); (try go_split_ands); go_simp; try with_reducible rfl)
        try simp only [Act.put, List.setIfInBounds_toArray, List.set_cons_zero, List.set_cons_succ]
        refine wpAnyH_ready (rs := [8]) (by kernel_rfl) (by simp) ?_
        refine AllReadyH.cons rfl (fun K hK => ?_) AllReadyH.nil
        rw [if_pos (by rfl)]
        refine wp_store_mid 43 (.tmp 3) (.tmp 13) rfl (w1.heap.size) 0 (OP.cells ⟨n, edge, id, ⟨#[]⟩, 0, 0, ⟨#[]⟩, VP.zero, 0, 0⟩) (by rfl) (by rfl) (Bx.there (C := #[.int .i64 0, .bool false, .int .u64 0, .string ⟨#[]⟩, .int .u64 0, .int .u64 0, .string ⟨#[]⟩, .int .i64 0, .bool false, .int .i64 0, .float .f64 0, .string ⟨#[]⟩, .int .u64 0, .int .u64 0]) Z3.out) (by kernel_rfl) (by kernel_rfl) ?_
        refine hK.out _ _ (?_) (fun hHeld => ?_)
        · intro j; rw [World.cell?_setCells_out _ _ _ _ _ (fun e => absurd e (by show ¬ w.heap.size = w1.heap.size; have := HS.out; have := M1.out; have := M2.out; have := M3.out; omega))]; exact K0.out _ FF3.out j
        clear hK K
        refine wpAnyH_done (by kernel_rfl) ?_ _
        go_wp2_with fail
        go_meet
        exact ⟨w1.heap.size, n, edge, id, k1, b1, k2, b2, k3, b3, rfl, by have := M1.out; have := M2.out; have := M3.out; omega, Src.setAll S3.out Z3.out plain_z (by have := NW.out; have := M1.out; have := M2.out; have := M3.out; omega) (by have := NW.out; have := M1.out; have := M2.out; have := M3.out; omega) 0 _, Far.then FF3.out (Keeps.setAll _ 0 _ _) (fun b hb e => absurd hb (by have e' : b = w1.heap.size := e; have := M1.out; have := M2.out; have := M3.out; omega)), Bx.setAll Z3.out _ rfl, HN.out, LI.out, R1.out, R2.out, R3.out⟩
    · go_simp
      refine hK.out _ _ (K0.out _ ((Far.refl s g W).alloc _).drew) (fun hHeld => ?_)
      clear hK K
      try simp only [Act.put, List.setIfInBounds_toArray, List.set_cons_zero, List.set_cons_succ]
      refine wpAnyH_ready (rs := [1]) (by kernel_rfl) (by simp) ?_
      refine AllReadyH.cons rfl (fun K hK => ?_) AllReadyH.nil
      go_simp
      go_at_call 92
      with_reducible refine (CK.out _ (S0.out.alloc _).drew).mono ?_
      rintro e w1 ⟨n, rfl, hn, k1, b1, h1, h2, h3⟩
      have S1 := Lib.hid h1
      have FF1 := Lib.hid (Far.trans ((Far.refl s g W).alloc _).drew h2)
      have R1 := Lib.hid h3
      have M1 := Lib.hid FF1.out.size
      have Z1 := Lib.hid (((Bx.new W _ _).below (Below.refl _ _).drew).far h2 (by have := NW.out; omega) (by have := NW.out; omega))
      clear h1 h2 h3
      have HN := Lib.hid hn; clear hn
      go_wp2_with fail
      refine hK.out _ _ (K0.out _ FF1.out) (fun hHeld => ?_)
      clear hK K
      try simp only [Act.put, List.setIfInBounds_toArray, List.set_cons_zero, List.set_cons_succ]
      refine wpAnyH_ready (rs := [3]) (by kernel_rfl) (by simp) ?_
      refine AllReadyH.cons rfl (fun K hK => ?_) AllReadyH.nil
      go_simp
      go_at_call 97
      with_reducible refine (CF.out _ _ _ S1.out).mono ?_
      rintro e w2 ⟨edge, rfl, k2, b2, h1, h2, h3⟩
      have S2 := Lib.hid h1
      have FF2 := Lib.hid (Far.trans FF1.out h2)
      have R2 := Lib.hid h3
      have M2 := Lib.hid FF2.out.size
      have Z2 := Lib.hid (Z1.out.far h2 (by have := NW.out; have := M1.out; omega) (by have := NW.out; have := M1.out; omega))
      clear h1 h2 h3
      skip
      go_wp2_with fail
      refine hK.out _ _ (K0.out _ FF2.out) (fun hHeld => ?_)
      clear hK K
      try simp only [Act.put, List.setIfInBounds_toArray, List.set_cons_zero, List.set_cons_succ]
      refine wpAnyH_ready (rs := [5]) (by kernel_rfl) (by simp) ?_
      refine AllReadyH.cons rfl (fun K hK => ?_) AllReadyH.nil
      go_simp
      go_at_call 94
      with_reducible refine (CN.out _ _ _ S2.out).mono ?_
      rintro e w3 ⟨id, rfl, hi, k3, b3, h1, h2, h3⟩
      have S3 := Lib.hid h1
      have FF3 := Lib.hid (Far.trans FF2.out h2)
      have R3 := Lib.hid h3
      have M3 := Lib.hid FF3.out.size
      have Z3 := Lib.hid (Z2.out.far h2 (by have := NW.out; have := M1.out; have := M2.out; omega) (by have := NW.out; have := M1.out; have := M2.out; omega))
      clear h1 h2 h3
      have LI := Lib.hid hi; clear hi
      go_wp2_with fail
      refine hK.out _ _ (K0.out _ FF3.out) (fun hHeld => ?_)
      clear hK K
      try simp only [Act.put, List.setIfInBounds_toArray, List.set_cons_zero, List.set_cons_succ]
      refine take_in (i := 6) (v := ?_) (some 13) rfl rfl (by kernel_rfl) (by kernel_rfl) (by kernel_rfl) (fun _ _ _ h => h) (Or.inl ⟨by rfl, ?_⟩) (by assumption) ?_
      rotate_left
      · (intro w hSw; (try dsimp only at hSw); (try go_split_ands); go_simp; try with_reducible rfl)
      try simp only [Act.put, List.setIfInBounds_toArray, List.set_cons_zero, List.set_cons_succ]
      refine wpAnyH_ready (rs := [8]) (by kernel_rfl) (by simp) ?_
      refine AllReadyH.cons rfl (fun K hK => ?_) AllReadyH.nil
      rw [if_pos (by rfl)]
      refine wp_store_mid 43 (.tmp 3) (.tmp 13) rfl (W.heap.size) 0 (OP.cells ⟨n, edge, id, ⟨#[]⟩, 0, 0, ⟨#[]⟩, VP.zero, 0, 0⟩) (by rfl) (by rfl) (Bx.there (C := #[.int .i64 0, .bool false, .int .u64 0, .string ⟨#[]⟩, .int .u64 0, .int .u64 0, .string ⟨#[]⟩, .int .i64 0, .bool false, .int .i64 0, .float .f64 0, .string ⟨#[]⟩, .int .u64 0, .int .u64 0]) Z3.out) (by kernel_rfl) (by kernel_rfl) ?_
      refine hK.out _ _ (?_) (fun hHeld => ?_)
      · intro j; rw [World.cell?_setCells_out _ _ _ _ _ (fun e => absurd e (by show ¬ w.heap.size = W.heap.size; have := HS.out; have := M1.out; have := M2.out; have := M3.out; omega))]; exact K0.out _ FF3.out j
      clear hK K
      refine wpAnyH_done (by kernel_rfl) ?_ _
      go_wp2_with fail
      go_meet
      exact ⟨W.heap.size, n, edge, id, k1, b1, k2, b2, k3, b3, rfl, by have := M1.out; have := M2.out; have := M3.out; omega, Src.setAll S3.out Z3.out plain_z (by have := NW.out; have := M1.out; have := M2.out; have := M3.out; omega) (by have := NW.out; have := M1.out; have := M2.out; have := M3.out; omega) 0 _, Far.then FF3.out (Keeps.setAll _ 0 _ _) (fun b hb e => absurd hb (by have e' : b = W.heap.size := e; have := M1.out; have := M2.out; have := M3.out; omega)), Bx.setAll Z3.out _ rfl, HN.out, LI.out, R1.out, R2.out, R3.out⟩
  case rest =>
  as_aux_lemma =>
  obtain ⟨p3, n, edge, id, k1, b1, k2, b2, k3, b3, rfl, hp, hS, hF, hX, hn, hid, r1, r2, r3⟩ := hcut
  have HP := Lib.hid hp
  have NP : Hid (p3 ≠ s ∧ p3 ≠ g ∧ w.heap.size ≠ p3 ∧ w.heap.size + 1 ≠ p3) := Lib.hid (by have := NW.out; have := HS.out; omega)
  have Y1 := Lib.hid (X1.out.far hF N1.out.1 N1.out.2.1)
  have Y2 := Lib.hid (X2.out.far hF N1.out.2.2.1 N1.out.2.2.2)
  have F1 := Lib.hid (F0.out.trans hF)
  have S1 := Lib.hid hS
  have Y3 := Lib.hid hX
  have HN := Lib.hid hn
  have LI := Lib.hid hid
  have R1 := Lib.hid r1
  have R2 := Lib.hid r2
  have R3 := Lib.hid r3
  have q1 := Y1.out.c
  have q3 := Y3.out.c
  clear hp hS hF hX hn hid r1 r2 r3 K0 CK CF CN X1 X2 S0 F0
  go_upto_region 5 with fail
  obtain ⟨W5, hW, s5, f5, x1, x2, x3, x5, x6⟩ := fold_world (P := fun W' => Src W' s g A c l k3 b3 ∧ Far s g w W' ∧ Bx W' w.heap.size #[.pointer (some ⟨s, 0, none⟩)] ∧ Bx W' (w.heap.size + 1) (OP.cells ⟨0, false, 0, ⟨#[]⟩, 0, 0, ⟨#[]⟩, VP.zero, 0, 0⟩) ∧ Bx W' p3 (OP.cells ⟨n, edge, id, ⟨#[]⟩, 0, 0, ⟨#[]⟩, VP.zero, 0, 0⟩) ∧ Bx W' wc.heap.size (olab w.heap.size p3) ∧ Bx W' (wc.heap.size + 1) (otab w.heap.size p3 wc.heap.size)) (w' := (wc.alloc (.cells (olab w.heap.size p3) 1)).alloc (.cells (otab w.heap.size p3 wc.heap.size) 134)) (by
    have b12 : Below wc.heap.size wc ((wc.alloc (.cells (olab w.heap.size p3) 1)).alloc (.cells (otab w.heap.size p3 wc.heap.size) 134)) := ((Below.refl _ _).alloc (Nat.le_refl _) _).alloc (by simp) _
    exact ⟨S1.out.below b12, F1.out.trans (Far.of b12), Y1.out.below b12, (Y2.out.eq rfl).below b12, Y3.out.below b12, (Bx.new wc _ _).below ((Below.refl _ _).alloc (Nat.le_refl _) _), by
      have := Bx.new (wc.alloc (.cells (olab w.heap.size p3) 1)) (otab w.heap.size p3 wc.heap.size) 134
      simpa using this⟩)
  simp only [olab, otab] at hW
  rw [hW]
  have S5 := Lib.hid s5
  have F5 := Lib.hid f5
  have X1 := Lib.hid x1
  have X2 := Lib.hid x2
  have X3 := Lib.hid x3
  have X5 := Lib.hid x5
  have X6 := Lib.hid x6
  have HM := Lib.hid (show w.heap.size + 2 ≤ p3 by have := HS.out; have := HP.out; omega)
  clear hW s5 f5 x1 x2 x3 x5 x6 q1 q3 Y1 Y2 Y3 F1 S1
  have q1 := X1.out.c
  have q3 := X3.out.c
  have q5 := X5.out.c
  have q6 := X6.out.c
  go_cut [21] from 22 to 25 (fun _ w' => ∃ (label : ByteArray) (fr til : Nat) (key : ByteArray) (v : VP) (k4 : Nat) (b4 : Bool), Src w' s g A c l k4 b4 ∧ Far s g w w' ∧ Bx w' w.heap.size #[.pointer (some ⟨s, 0, none⟩)] ∧ Bx w' (w.heap.size + 1) (OP.cells ⟨0, false, 0, ⟨#[]⟩, 0, 0, ⟨#[]⟩, VP.zero, 0, 0⟩) ∧ Bx w' p3 (OP.cells ⟨n, edge, id, label, fr, til, key, v, 0, 0⟩) ∧
      (∀ pf pt, Mid ⟨n, edge, id, label, fr, til, key, v, pf, pt⟩ b3 (l.drop k3) b4 (l.drop k4)) ∧ label.size ≤ 16 ∧ fr ≤ 1099511627776 ∧ til ≤ 1099511627776 ∧ key.size ≤ 16 ∧ v.wide)
  case first =>
    have hn := HN.out
    have hc : n = 1 ∨ n = 2 ∨ n = 3 ∨ n = 4 ∨ n = 5 := by omega
    clear hn
    have h1 : ∀ b, b < w.heap.size → (b = s ∨ b = g ∨ b = p3) → b = s ∨ b = g := fun b hb e => by have := HM.out; omega
    have KF := Lib.hid h1
    have n1 := Lib.hid (show ¬ (w.heap.size = s ∨ w.heap.size = g ∨ w.heap.size = p3) by have := N1.out; have := NP.out; omega)
    have n2 := Lib.hid (show ¬ (w.heap.size + 1 = s ∨ w.heap.size + 1 = g ∨ w.heap.size + 1 = p3) by have := N1.out; have := NP.out; omega)
    have vz : VP.wide VP.zero := vw _ _ _ _ _ (by unfold fits; omega) (by unfold fits; omega) (by omega) (by simp [esz])
    have VZ := Lib.hid vz
    clear h1 vz
    rcases hc with rfl | rfl | rfl | rfl | rfl
    case inl =>
      have CL := Lib.hid (op_label ⟨1, edge, id, ⟨#[]⟩, 0, 0, ⟨#[]⟩, VP.zero, 0, 0⟩ s g c k3 w.heap.size p3 A l b3 W5 S5.out (by have := q1 0; simpa using this) X3.out NP.out.1 NP.out.2.1)
      as_aux_lemma =>
      go_wp2_with (go_at_call 111; (refine (CL.out).mono ?_); rintro e w6 ⟨rfl, x, hx, k4, b4, h1, h2, h3, h4⟩; have Z1 := Lib.hid h1; have Z2 := Lib.hid h2; have Z3 := Lib.hid h3; have Z4 := Lib.hid h4; have ZX := Lib.hid hx; clear h1 h2 h3 h4 hx)
      go_meet
      exact ⟨x, 0, 0, ⟨#[]⟩, VP.zero, k4, b4, Z1.out, F5.out.then Z2.out KF.out, X1.out.keep Z2.out n1.out, X2.out.keep Z2.out n2.out, Z3.out, fun _ _ => mid_1 Z4.out, ZX.out, by omega, by omega, by simp [esz], VZ.out⟩
    case inr.inl =>
      have CL := Lib.hid (op_edge ⟨2, edge, id, ⟨#[]⟩, 0, 0, ⟨#[]⟩, VP.zero, 0, 0⟩ s g c k3 w.heap.size p3 wc.heap.size A l b3 W5 S5.out X1.out X3.out NP.out.1 NP.out.2.1 ⟨N1.out.1, N1.out.2.1, NP.out.2.2.1⟩ (by have := q5 0; simpa using this))
      as_aux_lemma =>
      go_wp2_with (go_at_call 112; (refine (CL.out).mono ?_); rintro e w6 ⟨rfl, x, y, z, hx, k4, b4, k5, b5, k6, b6, h1, h2, h3, h4, h5, h6⟩; have Z1 := Lib.hid h1; have Z2 := Lib.hid h2; have Z3 := Lib.hid h3; have Z4 := Lib.hid (And.intro h4 (And.intro h5 h6)); have ZX := Lib.hid hx; clear h1 h2 h3 h4 h5 h6 hx)
      go_meet
      exact ⟨x, y, z, ⟨#[]⟩, VP.zero, k6, b6, Z1.out, F5.out.then Z2.out KF.out, X1.out.keep Z2.out n1.out, X2.out.keep Z2.out n2.out, Z3.out, fun _ _ => mid_2 Z4.out.1 Z4.out.2.1 Z4.out.2.2, ZX.out.1, ZX.out.2.1, ZX.out.2.2, by simp [esz], VZ.out⟩
    case inr.inr.inl =>
      as_aux_lemma =>
      go_wp2_with (go_at_call 110; (refine (op_none _).mono ?_); rintro e w6 ⟨rfl, rfl⟩)
      go_meet
      exact ⟨⟨#[]⟩, 0, 0, ⟨#[]⟩, VP.zero, k3, b3, S5.out, F5.out, X1.out, X2.out, X3.out, fun _ _ => mid_34 (.inl rfl), by simp [esz], by omega, by omega, by simp [esz], VZ.out⟩
    case inr.inr.inr.inl =>
      as_aux_lemma =>
      go_wp2_with (go_at_call 110; (refine (op_none _).mono ?_); rintro e w6 ⟨rfl, rfl⟩)
      go_meet
      exact ⟨⟨#[]⟩, 0, 0, ⟨#[]⟩, VP.zero, k3, b3, S5.out, F5.out, X1.out, X2.out, X3.out, fun _ _ => mid_34 (.inr rfl), by simp [esz], by omega, by omega, by simp [esz], VZ.out⟩
    case inr.inr.inr.inr =>
      have CL := Lib.hid (op_set ⟨5, edge, id, ⟨#[]⟩, 0, 0, ⟨#[]⟩, VP.zero, 0, 0⟩ s g c k3 w.heap.size p3 A l b3 W5 S5.out X1.out X3.out NP.out.1 NP.out.2.1 ⟨N1.out.1, N1.out.2.1, NP.out.2.2.1⟩)
      as_aux_lemma =>
      go_wp2_with (go_at_call 113; (refine (CL.out).mono ?_); rintro e w6 ⟨rfl, x, u, hx, k4, b4, k5, b5, h1, h2, h3, h4, h5⟩; have Z1 := Lib.hid h1; have Z2 := Lib.hid h2; have Z3 := Lib.hid h3; have Z4 := Lib.hid (And.intro h4 h5); have ZX := Lib.hid hx; clear h1 h2 h3 h4 h5 hx)
      go_meet
      exact ⟨⟨#[]⟩, 0, 0, x, u, k5, b5, Z1.out, F5.out.then Z2.out KF.out, X1.out.keep Z2.out n1.out, X2.out.keep Z2.out n2.out, Z3.out, fun _ _ => mid_5 Z4.out.1 Z4.out.2, by simp [esz], by omega, by omega, ZX.out.1, ZX.out.2⟩
  case rest =>
  as_aux_lemma =>
  obtain ⟨label, fr, til, key, v, k4, b4, hS, hF, h1, h2, h3, hM, hl, hfr, htil, hk, hv⟩ := hcut
  have S6 := Lib.hid hS
  have F6 := Lib.hid hF
  have Y1 := Lib.hid h1
  have Y2 := Lib.hid h2
  have Y3 := Lib.hid h3
  have HMid := Lib.hid hM
  have HV := Lib.hid (And.intro hl (And.intro hfr (And.intro htil (And.intro hk hv))))
  have C := Lib.hid (source_period s g c k4 A l b4 _ hS)
  clear hS hF h2 h3 hM hl hfr htil hk hv q1 q3 q5 q6 S5 F5 X1 X2 X3 X5 X6
  have q1 := h1.c
  clear h1
  obtain ⟨vk, vb, vn, vf, vs⟩ := v
  go_upto_region 7 with (go_at_call 114; (refine (C.out).mono ?_); rintro e w7 ⟨a, b, rfl, hab, k5, b5, k6, b6, g1, g2, g3, g4⟩; have S7 := Lib.hid g1; have F7 := Lib.hid g2; have RA := Lib.hid g3; have RB := Lib.hid g4; have HAB := Lib.hid hab; have X7 := Lib.hid (Y3.out.far g2 NP.out.1 NP.out.2.1); have q3 := X7.out.c; have f3 := X7.out.fr; clear g1 g2 g3 g4 hab)
  obtain ⟨W8, hW, s8, kp8, x8⟩ := put_p _ a b S7.out X7.out NP.out.1 NP.out.2.1
  rw [hW]
  have S8 := Lib.hid s8
  have X8 := Lib.hid x8
  have K8 := Lib.hid kp8
  have Z2 := Lib.hid ((Y2.out.far F7.out N1.out.2.2.1 N1.out.2.2.2).keep kp8 NP.out.2.2.2)
  clear hW s8 kp8 x8 q1 q3 f3
  have r3 : W8.rangeAt p3 0 [.int .i64 n, .bool edge, .int .u64 (id : Int), .string label, .int .u64 (fr : Int), .int .u64 (til : Int), .string key, .int .i64 vk, .bool vb, .int .i64 vn, .float .f64 vf, .string vs, .int .u64 (a : Int), .int .u64 (b : Int)] := X8.out.range
  have t2 : W8.there (w.heap.size + 1) 0 14 := Z2.out.there
  have O5 : Hid (∃ W', W8.setCells (w.heap.size + 1) 0 (#[.int .i64 n, .bool edge, .int .u64 (id : Int), .string label, .int .u64 (fr : Int), .int .u64 (til : Int), .string key, .int .i64 vk, .bool vb, .int .i64 vn, .float .f64 vf, .string vs, .int .u64 (a : Int), .int .u64 (b : Int)] : Array Value).toList = W' ∧ Bx W' (w.heap.size + 1) (OP.cells ⟨n, edge, id, label, fr, til, key, ⟨vk, vb, vn, vf, vs⟩, a, b⟩) ∧ Src W' s g A c l k6 b6 ∧ Far s g w W') := Lib.hid (by
    have F9 := Far.then (Far.then (F6.out.trans F7.out) K8.out (fun b hb e => by have := HM.out; omega)) (Keeps.setAll (w.heap.size + 1) 0 (OP.cells ⟨n, edge, id, label, fr, til, key, ⟨vk, vb, vn, vf, vs⟩, a, b⟩).toList W8) (fun b hb e => by omega)
    exact ⟨_, rfl, Z2.out.setAll (OP.cells ⟨n, edge, id, label, fr, til, key, ⟨vk, vb, vn, vf, vs⟩, a, b⟩) rfl, S8.out.setAll Z2.out (plain_o _) N1.out.2.2.1 N1.out.2.2.2 0 _, F9⟩)
  as_aux_lemma =>
  go_wp2_with (first
    | refine wpList_load_mid rfl 43 (.tmp 3) rfl p3 0 rfl _ _ r3 Tryz.underlying43 rfl isRowOp ?_
    | (refine wpList_store_mid rfl 43 (.tmp 2) (.tmp 29) rfl (w.heap.size + 1) 0 #[.int .i64 n, .bool edge, .int .u64 (id : Int), .string label, .int .u64 (fr : Int), .int .u64 (til : Int), .string key, .int .i64 vk, .bool vb, .int .i64 vn, .float .f64 vf, .string vs, .int .u64 (a : Int), .int .u64 (b : Int)] rfl rfl t2 isRowOp (by kernel_rfl) ?_; obtain ⟨W9, hW, h9⟩ := O5.out; rw [hW]; have H9 := Lib.hid h9; clear hW h9 t2 r3))
  obtain ⟨x9, s9, f9⟩ := H9.out
  refine bodyPost_ret (v := OP.val ⟨n, edge, id, label, fr, til, key, ⟨vk, vb, vn, vf, vs⟩, a, b⟩) (by simp [results, Tryz.results59, go_sem, x9.c]) rfl ?_
  exact ⟨_, rfl, op_wide_of HN.out LI.out HV.out.1 HV.out.2.1 HV.out.2.2.1 HV.out.2.2.2.1 HV.out.2.2.2.2 HAB.out.1 HAB.out.2, _, _, s9, f9, reads_whole ⟨n, edge, id, label, fr, til, key, ⟨vk, vb, vn, vf, vs⟩, a, b⟩ R1.out R2.out R3.out (HMid.out a b) RA.out RB.out⟩
end
end Go.Proofs.YtchklaepilcbbaaGreat
