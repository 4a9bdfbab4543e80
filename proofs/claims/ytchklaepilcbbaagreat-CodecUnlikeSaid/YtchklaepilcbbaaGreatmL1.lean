/- CodecBack's walk. -/
import Derived.Test.YtchklaepilcbbaaGreatmJ7
import Derived.Test.YtchklaepilcbbaaGreatmJ3
import Derived.Test.YtchklaepilcbbaaGreatmJ4
namespace Go.Proofs.YtchklaepilcbbaaGreat
open Go.RowKit
abbrev TookB (l : List UInt8) (E : Nat) (x : BP) : Prop := Took BP.enc (fun x => x.may ∧ x.wide) l BP.zero E x
/-- What was laid is read. -/
theorem took_same {x y : BP} {E : Nat} (mx : x.may) (wx : x.wide) (h : TookB x.enc E y) : E = 0 ∧ y = x := by
  rcases h with ⟨rfl, hp, hl⟩ | ⟨_, _, hn⟩
  · refine ⟨rfl, ?_⟩
    have := pc_batch (p := []) (q := []) mx hp.1 wx.2.2 hp.2.2.2 (by rw [hl])
    exact this.1.symm
  · exact absurd rfl (hn x ⟨mx, wx⟩)
/-- A beginning is none. -/
theorem took_less {x y : BP} {E r : Nat} (mx : x.may) (wx : x.wide) (hr : r < x.enc.length) (h : TookB (x.enc.take r) E y) : E = 5 := by
  rcases h with ⟨_, hp, hl⟩ | ⟨rfl, _⟩
  · exfalso
    have e : x.enc ++ [] = y.enc ++ x.enc.drop r := by rw [List.append_nil, ← hl, List.take_append_drop]
    have := (pc_batch mx hp.1 wx.2.2 hp.2.2.2 e).2
    have := congrArg List.length this
    simp at this
    omega
  · rfl
/-- With a byte more it is none. -/
theorem took_more {x y : BP} {E : Nat} {c : UInt8} (mx : x.may) (wx : x.wide) (h : TookB (x.enc ++ [c]) E y) : E = 5 := by
  rcases h with ⟨_, hp, hl⟩ | ⟨rfl, _⟩
  · exfalso
    have e : x.enc ++ [c] = y.enc ++ [] := by rw [List.append_nil, hl]
    have := (pc_batch mx hp.1 wx.2.2 hp.2.2.2 e).2
    simp at this
  · rfl
theorem GS.take {w : World} {A : Option Addr} {c : Nat} {l : List UInt8} (h : GS w (.slice A l.length c) l) (r : Nat) (hr : r ≤ l.length) : GS w (.slice A r c) (l.take r) := by
  obtain ⟨A', c', e, hA, hz⟩ := h
  injection e with e1 _ e2
  subst e1 e2
  refine ⟨A, c, by rw [List.length_take, Nat.min_eq_left hr], fun h0 => ?_, hz⟩
  rw [List.length_take] at h0
  obtain ⟨b, off, e, hl, hc⟩ := hA (by omega)
  refine ⟨b, off, e, hl, fun i hi => ?_⟩
  rw [List.length_take] at hi
  rw [hc i (by omega)]
  congr 1
  simp [List.getD, List.getElem?_take_of_lt (show i < r by omega)]
theorem GS.form {w : World} {v : Value} {l : List UInt8} (h : GS w v l) : ∃ A c, v = .slice A l.length c := by
  obtain ⟨A, c, e, _⟩ := h
  exact ⟨A, c, e⟩
theorem St.form {w0 w : World} {v : Value} {l : List UInt8} (h : St w0 w v l) : ∃ A c, v = .slice A l.length c ∧ l.length ≤ c ∧ c ≤ maxLen := by
  rcases h.own.2 with ⟨rfl, h0⟩ | ⟨g, cap, cur, rfl, _, _, hn, hm, _⟩
  · exact ⟨none, 0, by rw [h0], by omega, Nat.zero_le _⟩
  · exact ⟨_, _, rfl, hn, hm⟩
theorem GS.one (w : World) (c : UInt8) : GS (w.alloc (.cells #[.int .u8 (c.toNat : Int)] 5)) (.slice (some ⟨w.heap.size, 0, none⟩) 1 1) [c] := by
  refine ⟨_, _, rfl, fun _ => ⟨w.heap.size, 0, rfl, by simp, fun i hi => ?_⟩, fun e => by cases e⟩
  obtain rfl : i = 0 := by simpa using hi
  rw [cell_of_row _ _ _ _ _ _ (heap_alloc_new w _)]
  rfl
theorem St.start {w w' : World} (h : Below w.heap.size w w') : St w w' (.slice none 0 0) [] := ⟨Own1.nil _ _, h⟩
theorem batch_len {x : BP} (m : x.may) (wx : x.wide) : 0 < x.enc.length ∧ x.enc.length ≤ 60000 := by
  have h1 := encNum_length x.number (by have := m.2.1; omega)
  have h2 := encNum_length x.stamp (by have := m.2.2.1; omega)
  have h3 := encNum_length x.ops.length (by have := m.2.2.2.2.1; omega)
  have h4 := encOps_len (l := x.ops) fun o ho => ⟨m.2.2.2.2.2 o ho, wx.2.2 o ho⟩
  have h5 := m.2.2.2.2.1
  have h0 : 0 < (encNum x.number).length := by unfold encNum; simp
  unfold BP.enc
  simp
  omega
theorem Says.yes {P : Prop} {w w' : World} {e : Ending} (h : Says P w e w') (hp : P) : e = .returned (.bool true) ∧ Below w.heap.size w w' := by
  obtain ⟨c, he, hc, hb⟩ := h
  exact ⟨by rw [he, hc.2 hp], hb⟩
theorem Says.no {P : Prop} {w w' : World} {e : Ending} (h : Says P w e w') (hp : ¬ P) : e = .returned (.bool false) ∧ Below w.heap.size w w' := by
  obtain ⟨c, he, hc, hb⟩ := h
  cases c
  · exact ⟨he, hb⟩
  · exact absurd (hc.1 rfl) hp
section
set_option maxRecDepth 100000
set_option maxHeartbeats 4000000
theorem Back_many (x : BP) (s vb : Value) (at16 : Nat) (c : UInt8) (w : World) (hs : SO w s x.ops) (h : 300 < x.ops.length) :
    Calls Tryz.prog 6 #[bval x s, vb, .int .u16 (at16 : Int), .int .u8 (c.toNat : Int)] w fun e w' => e = .returned (.bool true) ∧ Below w.heap.size w w' := by
  obtain ⟨A, cp, rfl, hA, hl⟩ := hs
  obtain ⟨num, st, ops⟩ := x
  simp only at hA hl h
  have t1 : decide ((300 : Int) < (ops.length : Int)) = true := by simp; omega
  clear hA h
  go_enter Tryz.func6, Tryz.ntmps6
  go_wp2_with (go_at_call 17; (with_reducible refine (wakes_any _).mono ?_); rintro e ww ⟨rfl, hb⟩; have BW := Lib.hid (al1 hb); clear hb)
  go_ret
  exact ⟨rfl, BW.out⟩
theorem Back_none (x : BP) (s vb : Value) (lb : List UInt8) (at16 : Nat) (c : UInt8) (w : World) (hs : SO w s x.ops) (wx : x.wide) (hb : GS w vb lb) (hlb : lb.length ≤ 140737488355328) (hn : x.ops.length ≤ 300) (hm : ¬ x.may) :
    Calls Tryz.prog 6 #[bval x s, vb, .int .u16 (at16 : Int), .int .u8 (c.toNat : Int)] w fun e w' => e = .returned (.bool true) ∧ Below w.heap.size w w' := by
  have C1 := Lib.hid (fun W (hb : Below w.heap.size w W) => (PutBatch_any x s W (hs.below hb) wx).mono fun e w' p => (p.resolve_left (fun q => hm q.1)).2)
  have C2 := Lib.hid (fun W (hb : Below w.heap.size w W) => (MayBatch_any x s W (hs.below hb) wx.2.2).mono fun _ _ h => h.no hm)
  have HB := Lib.hid hb
  have HLB := Lib.hid hlb
  obtain ⟨A, cp, rfl, hA, hl⟩ := hs
  obtain ⟨num, st, ops⟩ := x
  simp only at hA hl hn C1 C2
  have t1 : decide ((300 : Int) < (ops.length : Int)) = false := by simp; omega
  have B0 := Lib.hid ((Below.refl w.heap.size w).alloc (Nat.le_refl _) (.cells #[.int .u64 (num : Int), .int .u64 (st : Int), .slice A ops.length cp] 56))
  have X0 := Lib.hid (Bx.new w #[.int .u64 (num : Int), .int .u64 (st : Int), .slice A ops.length cp] 56)
  clear hA hn hb hlb wx hm
  go_enter Tryz.func6, Tryz.ntmps6
  go_upto_region 4 with (go_at_call 29; (with_reducible refine (C1.out _ B0.out).mono ?_); rintro e w1 ⟨rfl, h1⟩; have B1 := Lib.hid (B0.out.trans (h1.mono B0.out.size)); have X1 := Lib.hid (X0.out.below h1); have q1 := X1.out.c; clear h1)
  go_upto_region 14 with (go_at_call 32; (with_reducible refine (C2.out _ B1.out).mono ?_); rintro e w2 ⟨rfl, h1⟩; have BK := Lib.hid (B1.out.trans (h1.mono B1.out.size)); clear h1)
  clear q1
  have CT := Lib.hid (TakeBatch_any vb lb _ (HB.out.below BK.out) HLB.out)
  go_upto_region 15 with (go_at_call 27; (with_reducible refine (CT.out).mono ?_); rintro e wt ⟨E, ⟨n2, st2, ops2⟩, v2, rfl, ht, ho, hb⟩; obtain ⟨A2, c2, hv⟩ := OwnO.form ho; subst hv; have HT := Lib.hid ht; have HO := Lib.hid ho.so; have BT := Lib.hid (BK.out.trans (hb.mono BK.out.size)); clear ht ho hb)
  rcases HT.out with ⟨hE, hp, hl⟩ | ⟨hE, hp, _⟩
  · subst hE
    have HP := Lib.hid (And.intro hp hl)
    have BA := Lib.hid (BT.out.alloc BT.out.size (.cells #[.int .u64 (n2 : Int), .int .u64 (st2 : Int), .slice A2 ops2.length c2] 56))
    have HA := Lib.hid (HO.out.below ((Below.refl _ _).alloc (Nat.le_refl _) (.cells #[.int .u64 (n2 : Int), .int .u64 (st2 : Int), .slice A2 ops2.length c2] 56)))
    have CP := Lib.hid ((PutBatch_any ⟨n2, st2, ops2⟩ _ _ HA.out HP.out.1.2).mono fun e w' p => (p.resolve_right (fun q => q.1 HP.out.1.1)).2)
    clear hp hl CT HT
    as_aux_lemma =>
    go_upto_region 18 with (go_at_call 29; (with_reducible refine (CP.out).mono ?_); rintro e wp ⟨u, rfl, hs⟩; have S1 := Lib.hid hs; clear hs)
    have cv1 := conv_gs (S1.out.gs)
    have cv2 := conv_gs (HB.out.below (BA.out.trans (S1.out.bel.mono BA.out.size)))
    rw [← HP.out.2] at cv1
    generalize (⟨lb.toArray⟩ : ByteArray) = sx at *
    go_wp2_with (go_at_call 17; (with_reducible refine (wakes_any _).mono ?_); rintro e ww ⟨rfl, hb⟩; have BW := Lib.hid (BA.out.trans ((S1.out.bel.trans (hb.mono S1.out.bel.size)).mono BA.out.size)); clear hb)
    go_ret
    exact ⟨rfl, BW.out⟩
  · subst hE
    unfold BP.zero at hp
    injection hp with h1 h2 h3
    subst h1 h2 h3
    clear CT HT
    as_aux_lemma =>
    go_wp2_with (go_at_call 17; (with_reducible refine (wakes_any _).mono ?_); rintro e ww ⟨rfl, hb⟩; have BW := Lib.hid ((BT.out.alloc BT.out.size (.cells #[.int .u64 0, .int .u64 0, .slice A2 0 c2] 56)).trans (hb.mono (Nat.le_trans BT.out.size (by simp)))); clear hb)
    go_ret
    exact ⟨rfl, BW.out⟩
theorem Back_both (x : BP) (s vb : Value) (lb : List UInt8) (at16 : Nat) (c : UInt8) (w : World) (hs : SO w s x.ops) (wx : x.wide) (hb : GS w vb lb) (hlb : lb.length ≤ 140737488355328) (ha : at16 < 65536) (hm : x.may) :
    Calls Tryz.prog 6 #[bval x s, vb, .int .u16 (at16 : Int), .int .u8 (c.toNat : Int)] w fun e w' => e = .returned (.bool true) ∧ Below w.heap.size w w' := by
  have C1 := Lib.hid (fun W (hb : Below w.heap.size w W) => (PutBatch_any x s W (hs.below hb) wx).mono fun e w' p => (p.resolve_right (fun q => q.1 hm)).2)
  have C2 := Lib.hid (fun W (hb : Below w.heap.size w W) => (MayBatch_any x s W (hs.below hb) wx.2.2).mono fun _ _ h => h.yes hm)
  have hov : ∀ o ∈ x.ops, o.wide ∧ o.v.may := fun o ho => ⟨wx.2.2 o ho, OP.may_v (hm.2.2.2.2.2 o ho)⟩
  have C3 := Lib.hid (fun W (v : Value) (hb : Below w.heap.size w W) (hv : SO W v x.ops) => (SameBatch_any x x s v W (hs.below hb) hv hov hov).mono fun _ _ h => h.yes rfl)
  have K1 := Lib.hid (fun (E : Nat) (y : BP) (h : TookB x.enc E y) => took_same hm wx h)
  have K2 := Lib.hid (fun (E r : Nat) (y : BP) (hr : r < x.enc.length) (h : TookB (x.enc.take r) E y) => took_less hm wx hr h)
  have K3 := Lib.hid (fun (E : Nat) (y : BP) (h : TookB (x.enc ++ [c]) E y) => took_more hm wx h)
  have hL := batch_len hm wx
  have hn : x.ops.length ≤ 300 := by have := hm.2.2.2.2.1; omega
  have HB := Lib.hid hb
  have HLB := Lib.hid hlb
  generalize x.enc = EX at *
  obtain ⟨A, cp, rfl, hA, hl⟩ := hs
  obtain ⟨num, st, ops⟩ := x
  simp only at hA hl hn C1 C2 C3
  have t1 : decide ((300 : Int) < (ops.length : Int)) = false := by simp; omega
  have B0 := Lib.hid ((Below.refl w.heap.size w).alloc (Nat.le_refl _) (.cells #[.int .u64 (num : Int), .int .u64 (st : Int), .slice A ops.length cp] 56))
  have X0 := Lib.hid (Bx.new w #[.int .u64 (num : Int), .int .u64 (st : Int), .slice A ops.length cp] 56)
  have HL := Lib.hid hL
  have z1 : ((EX.length : Int) == 0) = false := by rw [beq_eq_false_iff_ne]; omega
  obtain ⟨r, hr, hr2⟩ : ∃ r : Nat, (at16 : Int) % (EX.length : Int) = (r : Int) ∧ r < EX.length := ⟨at16 % EX.length, by simp, Nat.mod_lt _ hL.1⟩
  have HR := Lib.hid (And.intro hr hr2)
  obtain ⟨z2, z3⟩ : (0 : Int) < (EX.length : Int) ∧ (EX.length : Int) ≤ 60000 := ⟨by omega, by omega⟩
  have z4 : (r : Int) < (EX.length : Int) := by omega
  have z5 : (0 : Int) ≤ (at16 : Int) := by omega
  have z6 : (at16 : Int) ≤ 65535 := by omega
  clear hA hn hb hlb wx hm hov hL hr hr2 ha
  go_enter Tryz.func6, Tryz.ntmps6
  go_upto_region 4 with (go_at_call 29; (with_reducible refine (C1.out _ B0.out).mono ?_); rintro e w1 ⟨u, rfl, h1⟩; obtain ⟨A3, c3, hu, hc3⟩ := h1.form; subst hu; have HC3 := Lib.hid hc3; clear hc3; have G1 := Lib.hid h1.gs; have B1 := Lib.hid (B0.out.trans (h1.bel.mono B0.out.size)); have X1 := Lib.hid (X0.out.below h1.bel); have q1 := X1.out.c; clear h1)
  go_upto_region 6 with (go_at_call 32; (with_reducible refine (C2.out _ B1.out).mono ?_); rintro e w2 ⟨rfl, h1⟩; have B2 := Lib.hid (B1.out.trans (h1.mono B1.out.size)); have X2 := Lib.hid (X1.out.below h1); have G2 := Lib.hid (G1.out.below h1); clear h1 q1)
  have CT := Lib.hid (TakeBatch_any _ EX _ G2.out (by have := HL.out; omega))
  go_upto_region 8 with (go_at_call 27; (with_reducible refine (CT.out).mono ?_); rintro e w3 ⟨E, y, v, rfl, ht, ho, h1⟩; obtain ⟨hE, hy⟩ := K1.out _ _ ht; subst hE hy; obtain ⟨A4, c4, hv⟩ := OwnO.form ho; subst hv; have O3 := Lib.hid ho.so; have B3 := Lib.hid (B2.out.trans (h1.mono B2.out.size)); have X3 := Lib.hid (X2.out.below h1); have G3 := Lib.hid (G2.out.below h1); clear h1 ht ho)
  have hbl := (Below.refl w3.heap.size w3).alloc (Nat.le_refl _) (.cells #[.int .u64 (num : Int), .int .u64 (st : Int), .slice A4 ops.length c4] 56)
  have O4 := Lib.hid (O3.out.below hbl)
  have B4 := Lib.hid (B3.out.trans (hbl.mono B3.out.size))
  have X4 := Lib.hid (X3.out.below hbl)
  have G4 := Lib.hid (G3.out.below hbl)
  have q4 := X4.out.c
  clear hbl CT
  go_upto_region 10 with (go_at_call 34; (with_reducible refine (C3.out _ _ B4.out O4.out).mono ?_); rintro e w5 ⟨rfl, h1⟩; have B5 := Lib.hid (B4.out.trans (h1.mono B4.out.size)); have G5 := Lib.hid (G4.out.below h1); clear h1 q4)
  have hr := HR.out.1
  have y1 : (r : Int) ≤ (c3 : Int) := by have := HR.out.2; have := HC3.out.1; omega
  have y2 : (0 : Int) ≤ (r : Int) := by omega
  have y3 : r ≤ c3 := by omega
  have CT := Lib.hid (TakeBatch_any _ (EX.take r) _ (G5.out.take r (by have := HR.out.2; omega)) (by have := HL.out; simp; omega))
  go_upto_region 11 with (go_at_call 27; (with_reducible refine (CT.out).mono ?_); rintro e w6 ⟨E, ⟨n5, s5, o5⟩, v, rfl, ht, ho, h1⟩; have hE := K2.out _ _ _ HR.out.2 ht; subst hE; obtain ⟨A5, c5, hv⟩ := OwnO.form ho; subst hv; have B6 := Lib.hid ((B5.out.trans (h1.mono B5.out.size)).alloc (Nat.le_trans B5.out.size h1.size) (.cells #[.int .u64 (n5 : Int), .int .u64 (s5 : Int), .slice A5 o5.length c5] 56)); have G6 := Lib.hid ((G5.out.below h1).below ((Below.refl w6.heap.size w6).alloc (Nat.le_refl _) (.cells #[.int .u64 (n5 : Int), .int .u64 (s5 : Int), .slice A5 o5.length c5] 56))); clear h1 ht ho hr)
  clear CT
  obtain ⟨W6, hW⟩ : ∃ W, w6.alloc (.cells #[.int .u64 (n5 : Int), .int .u64 (s5 : Int), .slice A5 o5.length c5] 56) = W := ⟨_, rfl⟩
  rw [hW] at B6 G6 ⊢
  clear hW
  go_upto_region 12 with (first
    | (at_builtin; refine wpList_appG (w0 := W6) rfl (.const (.slice none 0 0)) (.tmp 81) rfl _ _ rfl (St.start (Below.refl _ _)) _ _ rfl G6.out (by have := HL.out; simp; omega) ?_; intro v7 w7 h7; rw [List.nil_append] at h7; have S7 := Lib.hid h7; have S8 := Lib.hid (h7.next ((Below.refl _ _).alloc (Nat.le_refl _) (.cells #[.int .u8 (c.toNat : Int)] 5))); have G8 := Lib.hid (GS.one w7 c); clear h7)
    | (at_builtin; refine wpList_appG (w0 := W6) rfl (.tmp 82) (.tmp 84) rfl _ _ rfl S8.out _ _ rfl G8.out (by have := HL.out; simp; omega) ?_; intro v9 w9 h9; have S9 := Lib.hid h9; have CT := Lib.hid (TakeBatch_any v9 (EX ++ [c]) _ h9.gs (by have := HL.out; simp; omega)); clear h9)
    | (go_at_call 27; (with_reducible refine (CT.out).mono ?_); rintro e w10 ⟨E, ⟨n6, s6, o6⟩, v, rfl, ht, ho, h1⟩; have hE := K3.out _ _ ht; subst hE; obtain ⟨A6, c6, hv⟩ := OwnO.form ho; subst hv; have BK := Lib.hid ((B6.out.trans ((S9.out.bel.trans (h1.mono S9.out.bel.size)).mono B6.out.size)).alloc (Nat.le_trans B6.out.size (Nat.le_trans S9.out.bel.size h1.size)) (.cells #[.int .u64 (n6 : Int), .int .u64 (s6 : Int), .slice A6 o6.length c6] 56)); clear h1 ht ho))
  clear CT C1 C2 C3
  go_upto_region 14 with fail
  have CT := Lib.hid (TakeBatch_any vb lb _ (HB.out.below BK.out) HLB.out)
  go_upto_region 15 with (go_at_call 27; (with_reducible refine (CT.out).mono ?_); rintro e wt ⟨E, ⟨n2, st2, ops2⟩, v2, rfl, ht, ho, hb⟩; obtain ⟨A2, c2, hv⟩ := OwnO.form ho; subst hv; have HT := Lib.hid ht; have HO := Lib.hid ho.so; have BT := Lib.hid (BK.out.trans (hb.mono BK.out.size)); clear ht ho hb)
  rcases HT.out with ⟨hE, hp, hl⟩ | ⟨hE, hp, _⟩
  · subst hE
    have HP := Lib.hid (And.intro hp hl)
    have BA := Lib.hid (BT.out.alloc BT.out.size (.cells #[.int .u64 (n2 : Int), .int .u64 (st2 : Int), .slice A2 ops2.length c2] 56))
    have HA := Lib.hid (HO.out.below ((Below.refl _ _).alloc (Nat.le_refl _) (.cells #[.int .u64 (n2 : Int), .int .u64 (st2 : Int), .slice A2 ops2.length c2] 56)))
    have CP := Lib.hid ((PutBatch_any ⟨n2, st2, ops2⟩ _ _ HA.out HP.out.1.2).mono fun e w' p => (p.resolve_right (fun q => q.1 HP.out.1.1)).2)
    clear hp hl CT HT
    as_aux_lemma =>
    go_upto_region 18 with (go_at_call 29; (with_reducible refine (CP.out).mono ?_); rintro e wp ⟨u, rfl, hs⟩; have S1 := Lib.hid hs; clear hs)
    have cv1 := conv_gs (S1.out.gs)
    have cv2 := conv_gs (HB.out.below (BA.out.trans (S1.out.bel.mono BA.out.size)))
    rw [← HP.out.2] at cv1
    generalize (⟨lb.toArray⟩ : ByteArray) = sx at *
    go_wp2_with (go_at_call 17; (with_reducible refine (wakes_any _).mono ?_); rintro e ww ⟨rfl, hb⟩; have BW := Lib.hid (BA.out.trans ((S1.out.bel.trans (hb.mono S1.out.bel.size)).mono BA.out.size)); clear hb)
    go_ret
    exact ⟨rfl, BW.out⟩
  · subst hE
    unfold BP.zero at hp
    injection hp with h1 h2 h3
    subst h1 h2 h3
    clear CT HT
    as_aux_lemma =>
    go_wp2_with (go_at_call 17; (with_reducible refine (wakes_any _).mono ?_); rintro e ww ⟨rfl, hb⟩; have BW := Lib.hid ((BT.out.alloc BT.out.size (.cells #[.int .u64 0, .int .u64 0, .slice A2 0 c2] 56)).trans (hb.mono (Nat.le_trans BT.out.size (by simp)))); clear hb)
    go_ret
    exact ⟨rfl, BW.out⟩
theorem Back_walk (x : BP) (s vb : Value) (lb : List UInt8) (at16 : Nat) (c : UInt8) (w : World) (hs : SO w s x.ops) (wx : x.wide) (hb : GS w vb lb) (hlb : lb.length ≤ 140737488355328) (ha : at16 < 65536) :
    Calls Tryz.prog 6 #[bval x s, vb, .int .u16 (at16 : Int), .int .u8 (c.toNat : Int)] w fun e w' => e = .returned (.bool true) ∧ Below w.heap.size w w' := by
  by_cases h : 300 < x.ops.length
  · exact Back_many x s vb at16 c w hs h
  · by_cases hm : x.may
    · exact Back_both x s vb lb at16 c w hs wx hb hlb ha hm
    · exact Back_none x s vb lb at16 c w hs wx hb hlb (by omega) hm
end
end Go.Proofs.YtchklaepilcbbaaGreat
