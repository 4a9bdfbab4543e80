/- Places, when an entity is valid, lists that may be, the first edge that dangles, states that may be. -/
/- An entity copied into new memory, by batch. -/
/- Lists of entities in new memory: the library's Clone, copiedList. -/
import Derived.Test.YtmolpogehgeebaaGreatmA
import Derived.Test.YtmolpogehgeebaaGreatbFB1
import Derived.Test.YtmolpogehgeebaaGreatbJ7
import Derived.Test.YtmolpogehgeebaaGreatbEB7
namespace Go.Proofs.YtmolpogehgeebaaGreat
open Go.RowKit
theorem IsP.nil (w : World) : Se.IsP w (.slice none 0 0) [] := ⟨none, 0, rfl, fun h => absurd h (Nat.lt_irrefl 0)⟩
theorem valOf_wide {l : List Ent} (h : ∀ x ∈ l, x.wide) (id : Int) : Se.Iset.Wide (valOf l id) ∧ (valOf l id).length ≤ 100000 := by
  by_cases hp : placeB l.length id
  · obtain ⟨i, hi, _, e⟩ := valOf_at hp
    rw [e]
    exact ⟨(h _ (List.getElem_mem hi)).val, (h _ (List.getElem_mem hi)).lenV⟩
  · rw [valOf_no hp]
    exact ⟨fun p hp => by simp at hp, by simp⟩
theorem loose_iff {ns : List Ent} {d : Ent} {B R : List (Int × Int)} (h1 : Se.Iset.Res Se.kAnd (valOf ns d.fr) (valOf ns d.til) B) (h2 : Se.Iset.Res Se.kLess d.val B R) (t : Int) : Se.Iset.has R t = true ↔ looseAt ns d t := by
  unfold looseAt
  rw [h2.has, h1.has]
  simp only [Se.kLess, Se.kAnd, Bool.and_eq_true, Bool.not_eq_true']
  rw [← Bool.not_eq_true, Bool.and_eq_true]
/-- So far no edge dangles. -/
def TightTo (s : St) (k : Nat) : Prop := ∀ j (g : j < s.es.length), j < k → ∀ t', ¬ looseAt s.ns s.es[j] t'
theorem dang_yes {s : St} {i : Nat} (hi : i < s.es.length) {B R : List (Int × Int)} {p : Int × Int} (h1 : Se.Iset.Res Se.kAnd (valOf s.ns s.es[i].fr) (valOf s.ns s.es[i].til) B) (h2 : Se.Iset.Res Se.kLess s.es[i].val B (p :: R)) (hp : TightTo s i) : DangR s ((i : Int) + 1) p.1 true :=
  .inr ⟨rfl, i, hi, rfl, (loose_iff h1 h2 _).1 h2.nf.first, fun t' ht h => by
    have := h2.nf.least t' ((loose_iff h1 h2 _).2 h)
    omega, fun j hj hji t' => hp j hj hji t'⟩
theorem tight_next {s : St} {i : Nat} (hi : i < s.es.length) {B : List (Int × Int)} (h1 : Se.Iset.Res Se.kAnd (valOf s.ns s.es[i].fr) (valOf s.ns s.es[i].til) B) (h2 : Se.Iset.Res Se.kLess s.es[i].val B []) (hp : TightTo s i) : TightTo s (i + 1) := fun j hj hji t' h => by
  by_cases e : j = i
  · subst e
    have := (loose_iff h1 h2 t').2 h
    rw [Se.Iset.has_nil] at this
    cases this
  · exact hp j hj (by omega) t' h
theorem tight_all {s : St} (hp : TightTo s s.es.length) : NoLoose s := fun d hd t h => by
  obtain ⟨i, hi, rfl⟩ := List.getElem_of_mem hd
  exact hp i hi hi t h
/-- A place in a list of n, as a test. -/
def plB (n : Nat) (id : Int) : Bool := decide (1 ≤ id) && decide (id ≤ (n : Int))
theorem plB_iff (n : Nat) (id : Int) : plB n id = true ↔ placeB n id := by unfold plB placeB; simp
def DangEnd (s : St) (w : World) (e : Ending) (w' : World) : Prop := ∃ (n t : Int) (is : Bool), e = .returned (.tuple #[.int .u64 n, .int .u64 t, .bool is]) ∧ DangR s n t is ∧ Below w.heap.size w w'
theorem DangR.tight {s : St} {n t : Int} {is : Bool} (h : DangR s n t is) : (!is) = true ↔ NoLoose s := by
  rcases h with ⟨rfl, _, _, h⟩ | ⟨rfl, i, hi, _, h, _⟩
  · exact ⟨fun _ => h, fun _ => rfl⟩
  · exact ⟨fun g => (by cases g), fun g => absurd h (g _ (List.getElem_mem hi) t)⟩
/-- So far the edges have their nodes. -/
def EndsTo (s : St) (k : Nat) : Prop := ∀ j (h : j < s.es.length), j < k → placeB s.ns.length s.es[j].fr ∧ placeB s.ns.length s.es[j].til
theorem may_of {s : St} {b1 b2 b3 : Prop} (h1 : b1 ↔ MayL s.ns false) (h2 : b2 ↔ MayL s.es true) (h3 : b3 ↔ NoLoose s) (he : EndsTo s s.es.length) : s.may ↔ b1 ∧ b2 ∧ b3 := by
  rw [h1, h2, h3]
  constructor
  · exact fun h => ⟨h.1.ns, h.1.es, h.2⟩
  · exact fun ⟨a, b, c⟩ => ⟨⟨a, b, fun d hd => by obtain ⟨i, hi, rfl⟩ := List.getElem_of_mem hd; exact he i hi hi⟩, c⟩
section
set_option maxRecDepth 100000
set_option maxHeartbeats 8000000
theorem isPlace_q (A : Option Addr) (n c : Nat) (id : Int) (w : World) (hn : n ≤ 1000000000000) :
    Calls Tryz.prog 113 #[.slice A n c, .int .u64 id] w fun e w' => e = .returned (.bool (plB n id)) ∧ w' = w := by
  have hn1 : (n : Int) ≤ 1000000000000 := by omega
  have hn0 : (0 : Int) ≤ (n : Int) := by omega
  by_cases h1 : 1 ≤ id
  · have HE : Hid (decide (id ≤ (n : Int)) = plB n id) := Lib.hid (by unfold plB; simp [h1])
    go_enter Tryz.func113, Tryz.ntmps113
    go_wp2
    go_ret
    exact ⟨by rw [HE.out]; rfl, rfl⟩
  · have td : decide (1 ≤ id) = false := by simpa using h1
    have HE : Hid (false = plB n id) := Lib.hid (by unfold plB; simp [h1])
    clear h1
    go_enter Tryz.func113, Tryz.ntmps113
    go_wp2
    go_ret
    exact ⟨by rw [HE.out]; rfl, rfl⟩
theorem isPlace_any (A : Option Addr) (n c : Nat) (id : Int) (w : World) (hn : n ≤ 1000000000000) :
    Calls Tryz.prog 113 #[.slice A n c, .int .u64 id] w (Says (placeB n id) w) :=
  (isPlace_q A n c id w hn).mono fun _ _ ⟨e, hw⟩ => ⟨_, e, plB_iff n id, by rw [hw]; exact Below.refl _ _⟩
theorem validity_any (v : Value) (l : List Ent) (id : Int) (w : World) (h : SE w v l) (hn : l.length ≤ 1000000) :
    Calls Tryz.prog 122 #[v, .int .u64 id] w fun e w' => ∃ u, e = .returned u ∧ Se.IsP w' u (valOf l id) ∧ Below w.heap.size w w' := by
  obtain ⟨A, c, rfl, hA, hm⟩ := h
  have CP := Lib.hid (fun W => isPlace_any A l.length c id W (by omega))
  by_cases hp : placeB l.length id
  · obtain ⟨i, hi, rfl, hv⟩ := valOf_at hp
    obtain ⟨b, off, rfl, lb, hc⟩ := hA (by omega)
    obtain ⟨sv, sp, hr, hsv, hsp⟩ := hc i hi
    rw [hv]
    have r5 : w.cell? ⟨b, off + i * 7 + 5, none⟩ = some sv := hr 5 _ rfl
    have R5 := Lib.hid r5
    have LB := Lib.hid lb
    have HS := Lib.hid hsv
    have HP := Lib.hid hp
    have i0 : (i : Int) < (l.length : Int) := by omega
    have i1 : (0 : Int) ≤ (i : Int) := by omega
    have i2 : (l.length : Int) ≤ 1000000 := by omega
    generalize l[i].val = V at *
    obtain ⟨Av, cv, rfl, _⟩ := hsv
    clear hA hc hr hsp r5 lb hp hv hm hn
    go_enter Tryz.func122, Tryz.ntmps122
    go_wp2_with (go_at_call 113; (with_reducible refine (CP.out _).mono ?_); rintro e w1 ⟨c1, rfl, hc, hb⟩; obtain rfl : c1 = true := hc.2 HP.out; have q5 := (hb.cell (p := ⟨b, off + i * 7 + 5, none⟩) LB.out).trans R5.out; have B1 := Lib.hid hb; clear hc hb)
    go_ret
    exact ⟨_, rfl, HS.out.below B1.out, B1.out⟩
  · rw [valOf_no hp]
    have HP := Lib.hid hp
    clear hA hp hm hn
    go_enter Tryz.func122, Tryz.ntmps122
    go_wp2_with (go_at_call 113; (with_reducible refine (CP.out _).mono ?_); rintro e w1 ⟨c1, rfl, hc, hb⟩; obtain rfl : c1 = false := (by cases c1; rfl; exact absurd (hc.1 rfl) HP.out); have B1 := Lib.hid hb; clear hc hb)
    go_ret
    exact ⟨_, rfl, IsP.nil _, B1.out⟩
theorem mayList_any (v : Value) (l : List Ent) (edge : Bool) (w : World) (h : SE w v l) (hw : ∀ x ∈ l, x.wide) (hl : l.length ≤ 1000000) :
    Calls Tryz.prog 112 #[v, .bool edge] w (Says (MayL l edge) w) := by
  obtain ⟨A, c, rfl, hA, hm⟩ := h
  have HA := Lib.hid hA
  have HW := Lib.hid hw
  have HL := Lib.hid hl
  clear hA hw hm hl
  go_enter Tryz.func112, Tryz.ntmps112
  go_wp2
  go_loopw [9] (fun i wr => ∃ k : Nat, k ≤ l.length ∧ i = .int .i64 k ∧ (∀ j (h : j < l.length), j < k → l[j].edge = edge ∧ l[j].id = (j : Int) + 1 ∧ l[j].may) ∧ Below w.heap.size w wr) (fun i _ => l.length - (intOf i).toNat)
  case atStart => exact ⟨0, Nat.zero_le _, rfl, fun j _ h => absurd h (Nat.not_lt_zero j), Below.refl _ _⟩
  case round =>
    obtain ⟨k, hk, rfl, hp, hb⟩ := hrel
    have HP := Lib.hid hp
    have HB := Lib.hid hb
    clear hp hb
    by_cases hlt : k < l.length
    · obtain ⟨g, off, rfl, lg, cg⟩ := (HA.out.below HB.out) (by omega)
      obtain ⟨sv, sp, r, hsv, hsp⟩ := cg k hlt
      have HK : Hid (l[k].edge = edge → l[k].id = (k : Int) + 1 → l[k].may → ∀ j (h : j < l.length), j < k + 1 → l[j].edge = edge ∧ l[j].id = (j : Int) + 1 ∧ l[j].may) := Lib.hid fun h1 h2 h3 j hj hjk => if e : j = k then (by subst e; exact ⟨h1, h2, h3⟩) else HP.out j hj (by omega)
      have HN : Hid (¬ (l[k].edge = edge ∧ l[k].id = (k : Int) + 1 ∧ l[k].may) → ¬ MayL l edge) := Lib.hid fun h g => h (g k hlt)
      have CM := Lib.hid (fun W (hb : Below wr.heap.size wr W) => eMay_any (.agg (l[k].cells sv sp)) l[k] W ⟨sv, sp, rfl, hsv.below hb, hsp.below hb⟩ (HW.out _ (List.getElem_mem hlt)))
      have i0 : (k : Int) < (l.length : Int) := by omega
      have i1 : (0 : Int) ≤ (k : Int) := by omega
      have i2 : (l.length : Int) ≤ 1000000 := by have := HL.out; omega
      clear cg HA HP HW
      generalize l[k] = x at *
      obtain ⟨xe, xid, xlab, xfr, xtil, xval, xps⟩ := x
      obtain ⟨Av, cv, rfl, _⟩ := hsv
      obtain ⟨Ap, cp, rfl, _, _⟩ := hsp
      simp only at HK HN CM r
      go_upto_region 4 with (refine wpList_load_mid rfl 38 (.tmp 12) rfl g (off + k * 7) rfl _ _ r Tryz.underlying38 rfl rowEnt ?_)
      have HA1 := Lib.hid ((Below.refl wr.heap.size wr).alloc (Nat.le_refl _) (.cells #[.bool xe, .int .u64 xid, .string xlab, .int .u64 xfr, .int .u64 xtil, .slice Av xval.length cv, .slice Ap xps.length cp] 38))
      have X1 := Lib.hid (Bx.new wr #[.bool xe, .int .u64 xid, .string xlab, .int .u64 xfr, .int .u64 xtil, .slice Av xval.length cv, .slice Ap xps.length cp] 38)
      obtain ⟨V, hV⟩ : ∃ W, wr.alloc (.cells #[.bool xe, .int .u64 xid, .string xlab, .int .u64 xfr, .int .u64 xtil, .slice Av xval.length cv, .slice Ap xps.length cp] 38) = W := ⟨_, rfl⟩
      rw [hV] at HA1 X1
      try rw [hV]
      clear hV r
      have x0 := X1.out.c
      by_cases e1 : xe = edge
      · subst e1
        by_cases e2 : xid = (k : Int) + 1
        · subst e2
          go_wp2_with (go_at_call 25; (with_reducible refine (CM.out _ HA1.out).mono ?_); rintro e w1 ⟨c1, rfl, hc, hb⟩; have HC := Lib.hid hc; have B1 := Lib.hid (HB.out.trans ((HA1.out.trans (hb.mono HA1.out.size)).mono HB.out.size)); clear hc hb; cases c1)
          · go_ret
            exact ⟨false, rfl, by simp [HN.out (fun h => by have := HC.out.2 h.2.2; cases this)], B1.out⟩
          · exact ⟨⟨k + 1, by omega, by go_num, HK.out (by trivial) (by trivial) (HC.out.1 (by trivial)), B1.out⟩, by simp [intOf]; omega⟩
        · have t2 : (xid != (k : Int) + 1) = true := by simpa using e2
          have HN2 := Lib.hid (HN.out fun h => e2 h.2.1)
          clear e2
          go_wp2_with fail
          go_ret
          exact ⟨false, rfl, by simp [HN2.out], HB.out.trans (HA1.out.mono HB.out.size)⟩
      · have HN2 := Lib.hid (HN.out fun h => e1 h.1)
        have HE1 := Lib.hid e1
        clear e1
        cases xe <;> cases edge <;> first | exact absurd rfl HE1.out | skip
        all_goals
          go_wp2_with fail
          go_ret
          exact ⟨false, rfl, by simp [HN2.out], HB.out.trans (HA1.out.mono HB.out.size)⟩
    · have HT : Hid (MayL l edge) := Lib.hid fun j hj => HP.out j hj (by omega)
      clear HP
      go_wp2
      go_ret
      exact ⟨true, rfl, by simp [HT.out], HB.out⟩
theorem Dangling_any (v : Value) (s : St) (w : World) (h : SAt w v s) (hs : s.wide) : Calls Tryz.prog 44 #[v] w (DangEnd s w) := by
  obtain ⟨sn, se, rfl, hn, he⟩ := h
  have HN := Lib.hid hn
  have HE := Lib.hid he
  have HS := Lib.hid hs
  have CV := Lib.hid (fun id W (hb : Below w.heap.size w W) => validity_any sn s.ns id W (hn.below hb) hs.ln)
  obtain ⟨An, cn, rfl, _, _⟩ := hn
  obtain ⟨Ae, ce, rfl, hA, _⟩ := he
  have HA := Lib.hid hA
  have b1 : (s.es.length : Int) ≤ 1000000 := by have := hs.le; omega
  clear hs hA
  have B0 := Lib.hid ((Below.refl w.heap.size w).alloc (Nat.le_refl _) (.cells #[.slice An s.ns.length cn, .slice Ae s.es.length ce] 76))
  have X0 := Lib.hid (Bx.new w #[.slice An s.ns.length cn, .slice Ae s.es.length ce] 76)
  go_enter Tryz.func44, Tryz.ntmps44
  go_upto_region 1 with fail
  obtain ⟨W0, hW0⟩ : ∃ W, w.alloc (.cells #[.slice An s.ns.length cn, .slice Ae s.es.length ce] 76) = W := ⟨_, rfl⟩
  rw [hW0] at B0 X0
  try rw [hW0]
  clear hW0
  obtain ⟨p1, hp1⟩ : ∃ q, w.heap.size = q := ⟨_, rfl⟩
  rw [hp1] at X0
  try rw [hp1]
  clear hp1
  have x0 := X0.out.c
  go_wp2_with fail
  clear x0
  go_loopw [12] (fun i wr => ∃ k : Nat, k ≤ s.es.length ∧ i = .int .i64 k ∧ TightTo s k ∧ Below W0.heap.size W0 wr) (fun i _ => s.es.length - (intOf i).toNat)
  case atStart => exact ⟨0, Nat.zero_le _, rfl, fun j _ h => absurd h (Nat.not_lt_zero j), Below.refl _ _⟩
  case round =>
    obtain ⟨k, hk, rfl, hp, hb⟩ := hrel
    have HP := Lib.hid hp
    have HB := Lib.hid hb
    have HBw := Lib.hid (B0.out.trans (hb.mono B0.out.size))
    clear hp hb
    by_cases hlt : k < s.es.length
    · obtain ⟨g, off, rfl, lg, cg⟩ := (HA.out.below HBw.out) (by omega)
      obtain ⟨sv, sp, r, hsv, hsp⟩ := cg k hlt
      have HWx := Lib.hid (HS.out.es _ (List.getElem_mem hlt))
      have VF := Lib.hid (valOf_wide HS.out.ns s.es[k].fr)
      have VT := Lib.hid (valOf_wide HS.out.ns s.es[k].til)
      have HD := Lib.hid (fun B R p (h1 : Se.Iset.Res Se.kAnd (valOf s.ns s.es[k].fr) (valOf s.ns s.es[k].til) B) (h2 : Se.Iset.Res Se.kLess s.es[k].val B (p :: R)) => dang_yes hlt h1 h2 HP.out)
      have HT := Lib.hid (fun B (h1 : Se.Iset.Res Se.kAnd (valOf s.ns s.es[k].fr) (valOf s.ns s.es[k].til) B) (h2 : Se.Iset.Res Se.kLess s.es[k].val B []) => tight_next hlt h1 h2 HP.out)
      have HV := Lib.hid hsv
      have i0 : (k : Int) < (s.es.length : Int) := by omega
      have i1 : (0 : Int) ≤ (k : Int) := by omega
      clear cg
      generalize s.es[k] = x at *
      obtain ⟨xe, xid, xlab, xfr, xtil, xval, xps⟩ := x
      obtain ⟨Av, cv, rfl, _⟩ := hsv
      obtain ⟨Ap, cp, rfl, _, _⟩ := hsp
      simp only at HWx VF VT HD HT r HV
      go_upto_region 4 with (refine wpList_load_mid rfl 38 (.tmp 15) rfl g (off + k * 7) rfl _ _ r Tryz.underlying38 rfl rowEnt ?_)
      have HA1 := Lib.hid ((Below.refl wr.heap.size wr).alloc (Nat.le_refl _) (.cells #[.bool xe, .int .u64 xid, .string xlab, .int .u64 xfr, .int .u64 xtil, .slice Av xval.length cv, .slice Ap xps.length cp] 38))
      have X1 := Lib.hid (Bx.new wr #[.bool xe, .int .u64 xid, .string xlab, .int .u64 xfr, .int .u64 xtil, .slice Av xval.length cv, .slice Ap xps.length cp] 38)
      obtain ⟨V, hV⟩ : ∃ W, wr.alloc (.cells #[.bool xe, .int .u64 xid, .string xlab, .int .u64 xfr, .int .u64 xtil, .slice Av xval.length cv, .slice Ap xps.length cp] 38) = W := ⟨_, rfl⟩
      rw [hV] at HA1 X1
      try rw [hV]
      clear hV r
      obtain ⟨p6, hp6⟩ : ∃ q, wr.heap.size = q := ⟨_, rfl⟩
      have Z6 := Lib.hid hp6
      rw [hp6] at X1
      try rw [hp6]
      clear hp6
      have BV := Lib.hid (HBw.out.trans (HA1.out.mono HBw.out.size))
      have X2 := Lib.hid ((X0.out.below HB.out).below HA1.out)
      have K0 : Hid (∀ w', Below V.heap.size V w' → w'.cell? ⟨p1, 0, none⟩ = some (.slice An s.ns.length cn) ∧ w'.cell? ⟨p6, 3, none⟩ = some (.int .u64 xfr) ∧ w'.cell? ⟨p6, 4, none⟩ = some (.int .u64 xtil)) := Lib.hid fun w' hb => ⟨(X2.out.below hb).c 0, (X1.out.below hb).c 3, (X1.out.below hb).c 4⟩
      go_region_held3 (fun w' => w'.cell? ⟨p1, 0, none⟩ = some (.slice An s.ns.length cn) ∧ w'.cell? ⟨p6, 3, none⟩ = some (.int .u64 xfr) ∧ w'.cell? ⟨p6, 4, none⟩ = some (.int .u64 xtil)) (first
        | exact K0.out _ (Below.refl _ _).drew
        | exact K0.out _ HV3.out
        | exact K0.out _ HV2.out
        | exact K0.out _ HV1.out
        | fail) (first
        | (go_at_call 122; (with_reducible refine (CV.out xfr _ (BV.out.trans ((Below.refl V.heap.size V).drew.mono BV.out.size))).mono ?_); rintro e v1 ⟨u1, rfl, hu1, hb⟩; have HV1 := Lib.hid (show Below V.heap.size V v1 from (Below.refl _ _).drew.trans hb); have HU1 := Lib.hid hu1; obtain ⟨A1, c1, rfl, _⟩ := hu1; clear hb)
        | (go_at_call 122; (with_reducible refine (CV.out xtil _ (BV.out.trans (HV1.out.mono BV.out.size))).mono ?_); rintro e v2 ⟨u2, rfl, hu2, hb⟩; have HV2 := Lib.hid (show Below V.heap.size V v2 from HV1.out.trans (hb.mono HV1.out.size)); have HU2 := Lib.hid hu2; have HU1b := Lib.hid (HU1.out.below hb); obtain ⟨A2, c2, rfl, _⟩ := hu2; clear hb)
        | (go_at_call 41; (with_reducible refine (Se.Meet_any _ _ _ _ _ HU1b.out HU2.out VF.out.1 VT.out.1 (by have := VF.out.2; omega) (by have := VT.out.2; omega)).mono ?_); rintro e v3 ⟨u3, M, rfl, hM, hu3, hb⟩; have HV3 := Lib.hid (show Below V.heap.size V v3 from HV2.out.trans (hb.mono HV2.out.size)); have HU3 := Lib.hid hu3.at; have HM := Lib.hid hM; obtain ⟨A3, c3, rfl, _⟩ := hu3.at; clear hb hu3 hM)
        | fail)
      have WM := Lib.hid (HM.out.wide rfl VF.out.1 VT.out.1)
      have LM := Lib.hid (show M.length ≤ 1000000 by have h1 := HM.out.len; have h2 := VF.out.2; have h3 := VT.out.2; omega)
      have X3 := Lib.hid (X1.out.below HV3.out)
      have x0 := X3.out.c
      have HSV := Lib.hid (show Se.IsP v3 (.slice Av xval.length cv) xval from (HV.out.below HA1.out).below HV3.out)
      have HB3 := Lib.hid (BV.out.trans (HV3.out.mono BV.out.size))
      have CMI := Lib.hid (Se.Minus_any (.slice Av xval.length cv) (.slice A3 M.length c3) xval M v3 HSV.out HU3.out HWx.out.val WM.out (by have h := HWx.out.lenV; simp only at h; omega) (by have := LM.out; omega))
      go_upto_region 6 with (go_at_call 101; (with_reducible refine CMI.out.mono ?_); rintro e v4 ⟨u4, R, rfl, hR, hu4, hb⟩; have HB4 := Lib.hid (HB3.out.trans (hb.mono HB3.out.size)); have HV4 := Lib.hid (show Below V.heap.size V v4 from HV3.out.trans (hb.mono HV3.out.size)); have HR := Lib.hid hR; have HU4 := Lib.hid hu4.at; obtain ⟨A4, c4, rfl, _⟩ := hu4.at; clear hb hu4 hR x0)
      cases R with
      | nil =>
        have HT2 := Lib.hid (HT.out M HM.out HR.out)
        have HB5 := Lib.hid (HB.out.trans ((HA1.out.trans (HV4.out.mono HA1.out.size)).mono HB.out.size))
        go_wp2_with fail
        exact ⟨⟨k + 1, by omega, by go_num, HT2.out, HB5.out⟩, by simp [intOf]; omega⟩
      | cons p R =>
        have HD2 := Lib.hid (HD.out M R p HM.out HR.out)
        obtain ⟨A5, c5, e5, h5⟩ := HU4.out
        obtain ⟨g5, o5, e6, l5, c5⟩ := h5 (by simp)
        cases e5
        subst e6
        have q0 := (c5 0 (by simp)).1
        simp only [Nat.zero_mul, Nat.add_zero, List.getElem_cons_zero] at q0
        have hz : (0 : Int) < ((p :: R).length : Int) := by simp
        have b2 : (k : Int) + 1 ≤ 1000000 := by omega
        go_upto_region 7 with fail
        go_quiet (fail)
        go_wp2_with fail
        refine bodyPost_ret (v := .tuple #[.int .u64 ((k : Int) + 1), .int .u64 p.1, .bool true]) (by simp [results, Tryz.results44, go_sem]) rfl ⟨_, _, _, rfl, HD2.out, ?_⟩
        exact bel_drewN _ HB4.out
    · have HT : Hid (NoLoose s) := Lib.hid (tight_all (by rw [show s.es.length = k by omega]; exact HP.out))
      clear HP
      go_wp2_with fail
      refine bodyPost_ret (v := .tuple #[.int .u64 0, .int .u64 0, .bool false]) (by simp [results, Tryz.results44, go_sem]) rfl ⟨_, _, _, rfl, .inl ⟨rfl, rfl, rfl, HT.out⟩, HBw.out⟩
theorem bMay_any (v : Value) (s : St) (w : World) (h : SAt w v s) (hs : s.wide) : Calls Tryz.prog 37 #[v] w (Says s.may w) := by
  obtain ⟨sn, se, rfl, hn, he⟩ := h
  have CD := Lib.hid (fun W (hb : Below w.heap.size w W) => Dangling_any (.agg #[sn, se]) s W ⟨sn, se, rfl, hn.below hb, he.below hb⟩ hs)
  have CL1 := Lib.hid (fun W (hb : Below w.heap.size w W) => mayList_any sn s.ns false W (hn.below hb) hs.ns hs.ln)
  have CL2 := Lib.hid (fun W (hb : Below w.heap.size w W) => mayList_any se s.es true W (he.below hb) hs.es hs.le)
  obtain ⟨An, cn, rfl, _, _⟩ := hn
  obtain ⟨Ae, ce, rfl, hA, _⟩ := he
  have CP := Lib.hid (fun id W => isPlace_any An s.ns.length cn id W (by have := hs.ln; omega))
  have HA := Lib.hid hA
  have b1 : (s.es.length : Int) ≤ 1000000 := by have := hs.le; omega
  clear hs hA
  have B0 := Lib.hid ((Below.refl w.heap.size w).alloc (Nat.le_refl _) (.cells #[.slice An s.ns.length cn, .slice Ae s.es.length ce] 76))
  have X0 := Lib.hid (Bx.new w #[.slice An s.ns.length cn, .slice Ae s.es.length ce] 76)
  go_enter Tryz.func37, Tryz.ntmps37
  go_upto_region 1 with fail
  obtain ⟨W0, hW0⟩ : ∃ W, w.alloc (.cells #[.slice An s.ns.length cn, .slice Ae s.es.length ce] 76) = W := ⟨_, rfl⟩
  rw [hW0] at B0 X0
  try rw [hW0]
  clear hW0
  obtain ⟨p1, hp1⟩ : ∃ q, w.heap.size = q := ⟨_, rfl⟩
  rw [hp1] at X0
  try rw [hp1]
  clear hp1
  have x0 := X0.out.c
  go_upto_region 3 with (first
    | (go_at_call 112; (with_reducible refine (CL1.out _ B0.out).mono ?_); rintro e w1 ⟨c1, rfl, hc1, hb⟩; have HC1 := Lib.hid hc1; have B1 := Lib.hid (B0.out.trans (hb.mono B0.out.size)); have X1 := Lib.hid (X0.out.below hb); clear hb hc1 x0; have x0 := X1.out.c; cases c1)
    | (go_at_call 112; (with_reducible refine (CL2.out _ B1.out).mono ?_); rintro e w2 ⟨c2, rfl, hc2, hb⟩; have HC2 := Lib.hid hc2; have B2 := Lib.hid (B1.out.trans (hb.mono B1.out.size)); have X2 := Lib.hid (X1.out.below hb); clear hb hc2 x0; have x0 := X2.out.c; cases c2)
    | fail)
  · go_ret
    exact ⟨false, rfl, ⟨fun h => (by cases h), fun h => HC1.out.2 h.1.ns⟩, B1.out⟩
  · go_ret
    exact ⟨false, rfl, ⟨fun h => (by cases h), fun h => HC2.out.2 h.1.es⟩, B2.out⟩
  go_wp2_with fail
  clear x0
  go_loopw [21] (fun i wr => ∃ k : Nat, k ≤ s.es.length ∧ i = .int .i64 k ∧ EndsTo s k ∧ Below w2.heap.size w2 wr) (fun i _ => s.es.length - (intOf i).toNat)
  case atStart => exact ⟨0, Nat.zero_le _, rfl, fun j _ h => absurd h (Nat.not_lt_zero j), Below.refl _ _⟩
  case round =>
    obtain ⟨k, hk, rfl, hp, hb⟩ := hrel
    have HP := Lib.hid hp
    have HB := Lib.hid hb
    have HBw := Lib.hid (B2.out.trans (hb.mono B2.out.size))
    have XW := Lib.hid (X2.out.below hb)
    clear hp hb
    by_cases hlt : k < s.es.length
    · obtain ⟨g, off, rfl, lg, cg⟩ := (HA.out.below HBw.out) (by omega)
      obtain ⟨sv, sp, r, hsv, hsp⟩ := cg k hlt
      have HN : Hid (¬ (placeB s.ns.length s.es[k].fr ∧ placeB s.ns.length s.es[k].til) → ¬ s.may) := Lib.hid fun h g => h (g.1.ends _ (List.getElem_mem hlt))
      have HK : Hid (placeB s.ns.length s.es[k].fr → placeB s.ns.length s.es[k].til → EndsTo s (k + 1)) := Lib.hid fun h1 h2 j hj hjk => if e : j = k then (by subst e; exact ⟨h1, h2⟩) else HP.out j hj (by omega)
      have i0 : (k : Int) < (s.es.length : Int) := by omega
      have i1 : (0 : Int) ≤ (k : Int) := by omega
      clear cg HP
      generalize s.es[k] = x at *
      obtain ⟨xe, xid, xlab, xfr, xtil, xval, xps⟩ := x
      obtain ⟨Av, cv, rfl, _⟩ := hsv
      obtain ⟨Ap, cp, rfl, _, _⟩ := hsp
      simp only at HN HK r
      go_upto_region 6 with (refine wpList_load_mid rfl 38 (.tmp 23) rfl g (off + k * 7) rfl _ _ r Tryz.underlying38 rfl rowEnt ?_)
      have HA1 := Lib.hid ((Below.refl wr.heap.size wr).alloc (Nat.le_refl _) (.cells #[.bool xe, .int .u64 xid, .string xlab, .int .u64 xfr, .int .u64 xtil, .slice Av xval.length cv, .slice Ap xps.length cp] 38))
      have X3 := Lib.hid (Bx.new wr #[.bool xe, .int .u64 xid, .string xlab, .int .u64 xfr, .int .u64 xtil, .slice Av xval.length cv, .slice Ap xps.length cp] 38)
      obtain ⟨V, hV⟩ : ∃ W, wr.alloc (.cells #[.bool xe, .int .u64 xid, .string xlab, .int .u64 xfr, .int .u64 xtil, .slice Av xval.length cv, .slice Ap xps.length cp] 38) = W := ⟨_, rfl⟩
      rw [hV] at HA1 X3
      try rw [hV]
      clear hV r
      obtain ⟨p4, hp4⟩ : ∃ q, wr.heap.size = q := ⟨_, rfl⟩
      have Z4 := Lib.hid hp4
      rw [hp4] at X3
      try rw [hp4]
      clear hp4
      have XV := Lib.hid (XW.out.below HA1.out)
      have BV := Lib.hid (HB.out.trans (HA1.out.mono HB.out.size))
      have x0 := X3.out.c
      have y0 := XV.out.c
      go_wp2_with (first
        | (go_at_call 113; (with_reducible refine (CP.out xfr _).mono ?_); rintro e w3 ⟨c3, rfl, hc3, hb⟩; have HC3 := Lib.hid hc3; have B3 := Lib.hid (BV.out.trans (hb.mono BV.out.size)); have X4 := Lib.hid (X3.out.below hb); have XV4 := Lib.hid (XV.out.below hb); clear hb hc3 x0 y0; have x0 := X4.out.c; have y0 := XV4.out.c; cases c3)
        | (go_at_call 113; (with_reducible refine (CP.out xtil _).mono ?_); rintro e w4 ⟨c4, rfl, hc4, hb⟩; have HC4 := Lib.hid hc4; have B4 := Lib.hid (B3.out.trans (hb.mono B3.out.size)); clear hb hc4 x0 y0; cases c4)
        | fail)
      · go_ret
        exact ⟨false, rfl, by simp [HN.out (fun h => by have := HC3.out.2 h.1; cases this)], B2.out.trans (B3.out.mono B2.out.size)⟩
      · go_ret
        exact ⟨false, rfl, by simp [HN.out (fun h => by have := HC4.out.2 h.2; cases this)], B2.out.trans (B4.out.mono B2.out.size)⟩
      · exact ⟨⟨k + 1, by omega, by go_num, HK.out (HC3.out.1 (by trivial)) (HC4.out.1 (by trivial)), B4.out⟩, by simp [intOf]; omega⟩
    · have HT : Hid (EndsTo s s.es.length) := Lib.hid (by rw [show s.es.length = k by omega]; exact HP.out)
      clear HP
      have x0 := XW.out.c
      go_wp2_with (go_at_call 44; (with_reducible refine (CD.out _ HBw.out).mono ?_); rintro e w5 ⟨n, t, is, rfl, hd, hb⟩; have HD := Lib.hid hd.tight; have B5 := Lib.hid (HBw.out.trans (hb.mono HBw.out.size)); clear hd hb x0)
      go_ret
      exact ⟨_, rfl, by rw [may_of HC1.out HC2.out HD.out HT.out]; simp, B5.out⟩
end
end Go.Proofs.YtmolpogehgeebaaGreat


namespace Go.Proofs.YtmolpogehgeebaaGreat
open Go.RowKit
section
set_option maxRecDepth 100000
set_option maxHeartbeats 8000000
/-- A line in new memory. -/
theorem bLine_any (v : Value) (l : List Pie) (w : World) (h : SL w v l) (hl : l.length ≤ 1000000000) (hs : ∀ x ∈ l, x.v.s.size ≤ 1000) :
    Calls Tryz.prog 182 #[v] w fun e w' => ∃ u, e = .returned u ∧ OwnL w.heap.size w' u l ∧ Below w.heap.size w w' := by
  have CC := Lib.hid (cloneL_any v l w h hl)
  have HS := Lib.hid hs
  obtain ⟨A, c, rfl, _, _⟩ := h
  clear hs
  go_enter Tryz.func182, Tryz.ntmps182
  go_upto_region 2 with (go_at_call 177; (with_reducible refine (CC.out).mono ?_); rintro e w1 ⟨u, rfl, ho, hb⟩; have HO := Lib.hid ho; have HB := Lib.hid hb; clear ho hb)
  obtain ⟨A1, c1, rfl, hA1, _⟩ := HO.out.at
  have HA := Lib.hid hA1
  clear hA1
  go_wp2_with fail
  go_loopw [8] (fun i wr => ∃ k : Nat, k ≤ l.length ∧ i = .int .i64 k ∧ Below w1.heap.size w1 wr) (fun i _ => l.length - (intOf i).toNat)
  case atStart => exact ⟨0, Nat.zero_le _, rfl, Below.refl _ _⟩
  case round =>
    obtain ⟨k, hk, rfl, hb⟩ := hrel
    have HK := Lib.hid hb
    clear hb
    by_cases hlt : k < l.length
    · obtain ⟨g, cg, e, _, hlg, hfr, hc⟩ := (HO.out.below HK.out).form (by omega)
      cases e
      have r6 : wr.cell? ⟨g, k * 7 + 6, none⟩ = some (.string l[k].v.s) := hc k hlt 6 _ rfl
      have f6 := hfr (k * 7 + 6)
      have i0 : (k : Int) < (l.length : Int) := by omega
      have i1 : (0 : Int) ≤ (k : Int) := by omega
      have CS := Lib.hid (fun W => strsClone_any l[k].v.s W (HS.out _ (List.getElem_mem hlt)))
      clear hc hfr
      obtain ⟨s, hs⟩ : ∃ s, l[k].v.s = s := ⟨_, rfl⟩
      rw [hs] at r6 CS
      clear hs
      go_upto_region 5 with fail
      have L6 := Lib.hid r6
      have F6 := Lib.hid f6
      have LG := Lib.hid hlg
      clear f6
      go_wp2_with (go_at_call 80; (with_reducible refine (CS.out _).mono ?_); rintro e w2 ⟨rfl, hb⟩; have q6 := (hb.cell (p := ⟨g, k * 7 + 6, none⟩) LG.out).trans L6.out; have p6 := (hb.frozen (p := ⟨g, k * 7 + 6, none⟩) LG.out).trans F6.out; have HK2 := Lib.hid (HK.out.trans (hb.mono HK.out.size)); have SC := Lib.hid (setCell_self w2 g (k * 7 + 6) _ q6); clear hb r6)
      exact ⟨⟨k + 1, by omega, by go_num, by rw [SC.out]; exact HK2.out⟩, by simp [intOf]; omega⟩
    · obtain rfl : k = l.length := by omega
      go_wp2_with fail
      go_ret
      exact ⟨_, rfl, HO.out.below HK.out, HB.out.trans (HK.out.mono HB.out.size)⟩
theorem bCopied_any (v : Value) (x : Ent) (w : World) (h : EAt w v x) (hm : x.may) (hx : x.wide) :
    Calls Tryz.prog 118 #[v] w fun e w' => ∃ u, e = .returned u ∧ EOwn w.heap.size w' u x ∧ Below w.heap.size w w' := by
  obtain ⟨sv, sp, rfl, hv, hp⟩ := h
  have HS := Lib.hid (may_strs hm)
  have H16 := Lib.hid hm.num
  have HX := Lib.hid hx
  have CV := Lib.hid (fun W (hb : Below w.heap.size w W) => cloneP_any sv x.val W (hv.below hb) (by have := hx.lenV; omega))
  have CLab := Lib.hid (fun W => strsClone_any x.lab W HS.out.1)
  obtain ⟨Av, cv, rfl, _⟩ := hv
  obtain ⟨Ap, cp, rfl, hA, _⟩ := hp
  have HA := Lib.hid hA
  clear hA hm hx
  obtain ⟨edge, id, lab, fr, til, val, ps⟩ := x
  simp only at CV CLab HS H16 HX HA ⊢
  have hmk := fun W => make_props ps.length W (by have := H16.out; omega)
  have B0 := Lib.hid (((Below.refl w.heap.size w).alloc (Nat.le_refl _) (.cells #[.bool edge, .int .u64 id, .string lab, .int .u64 fr, .int .u64 til, .slice Av val.length cv, .slice Ap ps.length cp] 38)).alloc (by simp) (.cells zeroE 38))
  have X0 := Lib.hid ((Bx.new w #[.bool edge, .int .u64 id, .string lab, .int .u64 fr, .int .u64 til, .slice Av val.length cv, .slice Ap ps.length cp] 38).below ((Below.refl _ _).alloc (Nat.le_refl _) (.cells zeroE 38)))
  have Y0 := Lib.hid (Bx.new (w.alloc (.cells #[.bool edge, .int .u64 id, .string lab, .int .u64 fr, .int .u64 til, .slice Av val.length cv, .slice Ap ps.length cp] 38)) zeroE 38)
  rw [show (w.alloc (.cells #[.bool edge, .int .u64 id, .string lab, .int .u64 fr, .int .u64 til, .slice Av val.length cv, .slice Ap ps.length cp] 38)).heap.size = w.heap.size + 1 by simp] at Y0
  go_enter Tryz.func118, Tryz.ntmps118
  go_upto_region 1 with fail
  obtain ⟨W0, hW0⟩ : ∃ W, (w.alloc (.cells #[.bool edge, .int .u64 id, .string lab, .int .u64 fr, .int .u64 til, .slice Av val.length cv, .slice Ap ps.length cp] 38)).alloc (.cells zeroE 38) = W := ⟨_, rfl⟩
  rw [hW0] at B0 X0 Y0
  try rw [hW0]
  clear hW0
  obtain ⟨p1, hp1⟩ : ∃ q, w.heap.size = q := ⟨_, rfl⟩
  obtain ⟨p2, hp2⟩ : ∃ q, w.heap.size + 1 = q := ⟨_, rfl⟩
  rw [hp1] at X0
  rw [hp2] at Y0
  have HP1 := Lib.hid (show w.heap.size ≤ p1 ∧ w.heap.size ≤ p2 ∧ p1 ≠ p2 by omega)
  try rw [hp2]
  try rw [hp1]
  clear hp1 hp2
  have x0 := X0.out.c
  have x1 := X0.out.fr
  go_upto_region 2 with (go_at_call 80; (with_reducible refine (CLab.out _).mono ?_); rintro e w1 ⟨rfl, hb⟩; have X1 := Lib.hid (X0.out.below hb); have Y1 := Lib.hid (Y0.out.below hb); have B1 := Lib.hid (B0.out.trans (hb.mono B0.out.size)); have K1 := Lib.hid hb; have SC := Lib.hid (setCell_self w1 p1 2 (.string lab) (X1.out.c 2)); clear hb x0 x1; have x0 := X1.out.c; have x1 := X1.out.fr)
  rw [SC.out]
  clear SC CLab
  go_upto_region 3 with (go_at_call 156; (with_reducible refine (CV.out _ B1.out).mono ?_); rintro e w2 ⟨u, rfl, ho, hb⟩; obtain ⟨Au, cu, rfl, _⟩ := ho.at; have X2 := Lib.hid (X1.out.below hb); have Y2 := Lib.hid (Y1.out.below hb); have B2 := Lib.hid (B1.out.trans (hb.mono B1.out.size)); have K2 := Lib.hid (K1.out.trans (hb.mono K1.out.size)); have OV := Lib.hid (Se.OwnP.mono ho K1.out.size); clear ho hb x0 x1; have x0 := X2.out.c; have x1 := X2.out.fr)
  have X3 := Lib.hid (show Bx (w2.setCell ⟨p1, 5, none⟩ (.slice Au val.length cu)) p1 #[.bool edge, .int .u64 id, .string lab, .int .u64 fr, .int .u64 til, .slice Au val.length cu, .slice Ap ps.length cp] from X2.out.set 5 (.slice Au val.length cu) (by simp))
  have Y3 := Lib.hid (Y2.out.other (g := p1) 5 (.slice Au val.length cu) HP1.out.2.2.symm)
  have OV3 := Lib.hid (show Se.OwnP W0.heap.size (w2.setCell ⟨p1, 5, none⟩ (.slice Au val.length cu)) (.slice Au val.length cu) val from World.ownsRow.kept OV.out (grownBy_set w2 p1 5 _) (OV.out.apart X0.out.lt))
  have B3 := Lib.hid (B2.out.setCell (p := ⟨p1, 5, none⟩) HP1.out.1 (.slice Au val.length cu))
  obtain ⟨W3, hW3⟩ : ∃ W, w2.setCell ⟨p1, 5, none⟩ (.slice Au val.length cu) = W := ⟨_, rfl⟩
  rw [hW3] at X3 Y3 OV3 B3
  try rw [hW3]
  have Z3 := Lib.hid (show W0.heap.size ≤ W3.heap.size by rw [← hW3]; have := K2.out.size; simpa [World.setCell] using this)
  clear hW3 x0 x1 X2 Y2 B2 OV X1 Y1 B1
  have BM := Lib.hid ((Below.refl W3.heap.size W3).alloc (Nat.le_refl _) (.cells (madeCells #[.string ⟨#[]⟩, .slice none 0 0] (ps.length * 2)) 62))
  have R0 := Lib.hid (OwnR.made W0.heap.size W3 ps.length Z3.out (by have := H16.out; omega))
  have X4 := Lib.hid (X3.out.below BM.out)
  have Y4 := Lib.hid (Y3.out.below BM.out)
  have OV4 := Lib.hid (OV3.out.below BM.out)
  have L1 := Lib.hid (show p1 < W3.heap.size from X3.out.lt)
  have L2 := Lib.hid (show p2 < W3.heap.size from Y3.out.lt)
  have x0 := X3.out.c
  go_upto_region 4 with fail
  clear x0 hmk
  obtain ⟨W4, hW4⟩ : ∃ W, W3.alloc (.cells (madeCells #[.string ⟨#[]⟩, .slice none 0 0] (ps.length * 2)) 62) = W := ⟨_, rfl⟩
  rw [hW4] at BM R0 X4 Y4 OV4
  try rw [hW4]
  clear hW4
  obtain ⟨p3, hp3⟩ : ∃ q, W3.heap.size = q := ⟨_, rfl⟩
  rw [hp3] at R0 L1 L2
  try rw [hp3]
  have HP3 := Lib.hid hp3
  clear hp3
  have x0 := X4.out.c
  go_wp2_with fail
  clear x0
  go_loopw [21] (fun i wr => ∃ (k : Nat) (rs : List (ByteArray × Value)), k ≤ ps.length ∧ i = .int .i64 k ∧ CL W0.heap.size p1 p2 p3 #[.bool edge, .int .u64 id, .string lab, .int .u64 fr, .int .u64 til, .slice Au val.length cu, .slice Ap ps.length cp] W3 wr (.slice Au val.length cu) val ps k rs) (fun i _ => ps.length - (intOf i).toNat)
  case atStart => exact ⟨0, List.replicate ps.length (⟨#[]⟩, .slice none 0 0), Nat.zero_le _, rfl, ⟨X4.out, Y4.out, OV4.out, by rw [List.length_replicate]; exact R0.out, by simp, fun _ _ _ h => absurd h (by omega), BM.out, by have := L1.out; omega, by have := L2.out; omega, by rw [HP3.out]; exact Nat.le_refl _⟩⟩
  case round =>
    obtain ⟨k, rs, hk, rfl, hcl⟩ := hrel
    have CLk := Lib.hid hcl
    clear hcl
    by_cases hlt : k < ps.length
    · have KB := Lib.hid (B3.out.trans (CLk.out.bel.mono B3.out.size))
      obtain ⟨g, off, rfl, lg, cg⟩ := HA.out (by omega)
      obtain ⟨ck, u0, cu0, hu0⟩ := cg k hlt
      have hck := (KB.out.cell (p := ⟨g, off + k * 2, none⟩) lg).trans ck
      have hcu := (KB.out.cell (p := ⟨g, off + k * 2 + 1, none⟩) lg).trans cu0
      have HU := Lib.hid (hu0.below KB.out)
      have i0 : (k : Int) < (ps.length : Int) := by omega
      have i1 : (0 : Int) ≤ (k : Int) := by omega
      obtain ⟨Al, cl, rfl, _, _⟩ := hu0
      have CCk := Lib.hid (fun W => strsClone_any ps[k].k W (HS.out.2 _ (List.getElem_mem hlt)).1)
      have CPk := Lib.hid (fun W (hb : Below wr.heap.size wr W) => bLine_any (.slice Al ps[k].l.length cl) ps[k].l W (HU.out.below hb) (by have := HX.out.lenP _ (List.getElem_mem hlt); omega) (HS.out.2 _ (List.getElem_mem hlt)).2)
      have PUT := Lib.hid (fun W u (h : CL W0.heap.size p1 p2 p3 #[.bool edge, .int .u64 id, .string lab, .int .u64 fr, .int .u64 til, .slice Au val.length cu, .slice (some ⟨g, off, none⟩) ps.length cp] W3 W (.slice Au val.length cu) val ps k rs) (hu : OwnL W0.heap.size W u ps[k].l) => h.put hlt hu)
      clear ck cu0 cg
      obtain ⟨key, hkey⟩ : ∃ s, ps[k].k = s := ⟨_, rfl⟩
      obtain ⟨l, hl⟩ : ∃ l, ps[k].l = l := ⟨_, rfl⟩
      rw [hkey] at hck CCk PUT
      rw [hl] at hcu CPk PUT
      clear hkey hl HU
      go_upto_region 7 with fail
      have Q0 := Lib.hid (Bx.new wr #[.string key, .slice Al l.length cl] 62)
      have HB0 := Lib.hid ((Below.refl wr.heap.size wr).alloc (Nat.le_refl _) (.cells #[.string key, .slice Al l.length cl] 62))
      obtain ⟨W5, hW5⟩ : ∃ W, wr.alloc (.cells #[.string key, .slice Al l.length cl] 62) = W := ⟨_, rfl⟩
      rw [hW5] at Q0 HB0
      try rw [hW5]
      clear hW5 hck hcu
      obtain ⟨pq, hpq⟩ : ∃ q, wr.heap.size = q := ⟨_, rfl⟩
      rw [hpq] at Q0
      try rw [hpq]
      have LN := Lib.hid CLk.out.len
      have HPQ : Hid (pq ≠ p3) := Lib.hid (by
        obtain ⟨A2, c2, e2, _, _, hA2⟩ := CLk.out.row.form
        cases e2
        obtain ⟨g2, e3, _, hlt3, _⟩ := hA2 (by rw [LN.out]; omega)
        cases e3
        omega)
      clear hpq
      have K0 : Hid (∀ w', Below W5.heap.size W5 w' → w'.cell? ⟨pq, 0, none⟩ = some (.string key) ∧ w'.cell? ⟨pq, 1, none⟩ = some (.slice Al l.length cl)) := Lib.hid fun w' hb => ⟨(Q0.out.below hb).c 0, (Q0.out.below hb).c 1⟩
      go_region_held3 (fun w' => w'.cell? ⟨pq, 0, none⟩ = some (.string key) ∧ w'.cell? ⟨pq, 1, none⟩ = some (.slice Al l.length cl)) (first
        | exact K0.out _ (Below.refl _ _).drew
        | exact K0.out _ HV2.out
        | exact K0.out _ HV1.out
        | exact ⟨(((Q0.out.below HV2.out).other _ _ HPQ.out).other _ _ HPQ.out).c 0, (((Q0.out.below HV2.out).other _ _ HPQ.out).other _ _ HPQ.out).c 1⟩
        | fail) (first
        | (go_at_call 80; (with_reducible refine (CCk.out _).mono ?_); rintro e v1 ⟨rfl, hb⟩; have HV1 := Lib.hid (show Below W5.heap.size W5 v1 from (Below.refl _ _).drew.trans hb); clear hb)
        | (go_at_call 182; (with_reducible refine (CPk.out _ (HB0.out.trans (HV1.out.mono HB0.out.size))).mono ?_); rintro e v2 ⟨ul, rfl, ho, hb⟩; obtain ⟨Aul, cul, rfl, _, _⟩ := ho.at; have OU := Lib.hid ho; have HV2 := Lib.hid (show Below W5.heap.size W5 v2 from HV1.out.trans (hb.mono HV1.out.size)); have C2 := Lib.hid (CLk.out.below (HB0.out.trans (HV2.out.mono HB0.out.size))); obtain ⟨A2, c2, e2, _, _, hA2⟩ := C2.out.row.form; cases e2; obtain ⟨g2, e3, _, _, f2, hc2⟩ := hA2 (by rw [LN.out]; omega); cases e3; obtain ⟨s0, s1⟩ := hc2 k (by rw [LN.out]; exact hlt); clear ho hb hA2 hc2)
        | fail)
      have PF := PUT.out v2 _ C2.out (OU.out.mono (Nat.le_trans Z3.out (Nat.le_trans CLk.out.bel.size (Nat.le_trans HB0.out.size HV1.out.size))))
      obtain ⟨W6, hW6⟩ : ∃ W, (v2.setCell ⟨p3, k * 2, none⟩ (.string key)).setCell ⟨p3, k * 2 + 1, none⟩ (.slice Aul l.length cul) = W := ⟨_, rfl⟩
      rw [hW6] at PF
      try rw [hW6]
      clear hW6 s0 s1 f2
      have PF := Lib.hid PF
      have h16 := H16.out
      go_wp2_with fail
      exact ⟨⟨k + 1, _, by omega, by go_num, PF.out⟩, by simp [intOf]; omega⟩
    · obtain rfl : k = ps.length := by omega
      have b1 := CLk.out.b1.c
      have b1f := CLk.out.b1.fr
      go_upto_region 10 with fail
      have RW := CLk.out.rows
      have RF := CLk.out.row
      have RL := CLk.out.len
      rw [RL] at RF
      have X7 := Lib.hid (show Bx (wr.setCell ⟨p1, 6, none⟩ (.slice (some ⟨p3, 0, none⟩) ps.length ps.length)) p1 #[.bool edge, .int .u64 id, .string lab, .int .u64 fr, .int .u64 til, .slice Au val.length cu, .slice (some ⟨p3, 0, none⟩) ps.length ps.length] from CLk.out.b1.set 6 _ (by simp))
      have Y7 := Lib.hid (show Bx (wr.setCell ⟨p1, 6, none⟩ (.slice (some ⟨p3, 0, none⟩) ps.length ps.length)) p2 #[.bool false, .int .u64 0, .string ⟨#[]⟩, .int .u64 0, .int .u64 0, .slice none 0 0, .slice none 0 0] from CLk.out.b2.other (g := p1) 6 _ HP1.out.2.2.symm)
      have G7 := grownBy_set wr p1 6 (.slice (some ⟨p3, 0, none⟩) ps.length ps.length)
      have V7 := Lib.hid (show Se.OwnP W0.heap.size (wr.setCell ⟨p1, 6, none⟩ (.slice (some ⟨p3, 0, none⟩) ps.length ps.length)) (.slice Au val.length cu) val from World.ownsRow.kept CLk.out.val G7 (CLk.out.val.apart X0.out.lt))
      have R7 := Lib.hid (show W0.heap.size ≤ wr.heap.size from Nat.le_trans Z3.out CLk.out.bel.size)
      have F7 := Lib.hid (show ∃ rs, OwnR W0.heap.size (wr.setCell ⟨p1, 6, none⟩ (.slice (some ⟨p3, 0, none⟩) ps.length ps.length)) (.slice (some ⟨p3, 0, none⟩) ps.length ps.length) rs ∧ RowsO W0.heap.size (wr.setCell ⟨p1, 6, none⟩ (.slice (some ⟨p3, 0, none⟩) ps.length ps.length)) rs ps from ⟨rs, World.ownsRow.kept RF G7 (RF.apart X0.out.lt), ⟨RW.len, fun i hi hg => ⟨(RW.at' i hi hg).1, World.ownsRow.kept (RW.at' i hi hg).2 G7 ((RW.at' i hi hg).2.apart X0.out.lt)⟩⟩⟩)
      have B7 := Lib.hid ((B3.out.trans (CLk.out.bel.mono B3.out.size)).setCell (p := ⟨p1, 6, none⟩) HP1.out.1 (.slice (some ⟨p3, 0, none⟩) ps.length ps.length))
      obtain ⟨W7, hW7⟩ : ∃ W, wr.setCell ⟨p1, 6, none⟩ (.slice (some ⟨p3, 0, none⟩) ps.length ps.length) = W := ⟨_, rfl⟩
      rw [hW7] at X7 Y7 V7 F7 B7
      try rw [hW7]
      clear hW7 b1 b1f RW RF RL G7 CLk
      have x7 := X7.out.c
      have y7 := Y7.out.c
      have y7f := Y7.out.fr
      go_wp2_with fail
      obtain ⟨X8, G8⟩ := put7 Y7.out (.bool edge) (.int .u64 id) (.string lab) (.int .u64 fr) (.int .u64 til) (.slice Au val.length cu) (.slice (some ⟨p3, 0, none⟩) ps.length ps.length)
      obtain ⟨rs7, O7, P7⟩ := F7.out
      have V8 := World.ownsRow.kept V7.out G8 (V7.out.apart Y0.out.lt)
      have O8 := World.ownsRow.kept O7 G8 (OwnR.apart O7 Y0.out.lt)
      have P8 : RowsO W0.heap.size _ rs7 ps := ⟨P7.len, fun i hi hg => ⟨(P7.at' i hi hg).1, World.ownsRow.kept (P7.at' i hi hg).2 G8 ((P7.at' i hi hg).2.apart Y0.out.lt)⟩⟩
      have B8 := B7.out.grown G8 B7.out.size fun q hq => by
        have e : p2 = q := Option.some.inj hq
        have := HP1.out.2.1
        omega
      generalize hW8 : (((((((W7.setCell ⟨p2, 0, none⟩ (.bool edge)).setCell ⟨p2, 1, none⟩ (.int .u64 id)).setCell ⟨p2, 2, none⟩ (.string lab)).setCell ⟨p2, 3, none⟩ (.int .u64 fr)).setCell ⟨p2, 4, none⟩ (.int .u64 til)).setCell ⟨p2, 5, none⟩ (.slice Au val.length cu)).setCell ⟨p2, 6, none⟩ (.slice (some ⟨p3, 0, none⟩) ps.length ps.length)) = W8 at *
      clear x7 y7 y7f hW8 G8
      have s0 : W8.cell? ⟨p2, 0, none⟩ = some (.bool edge) := X8.c 0
      have s1 : W8.cell? ⟨p2, 1, none⟩ = some (.int .u64 id) := X8.c 1
      have s2 : W8.cell? ⟨p2, 2, none⟩ = some (.string lab) := X8.c 2
      have s3 : W8.cell? ⟨p2, 3, none⟩ = some (.int .u64 fr) := X8.c 3
      have s4 : W8.cell? ⟨p2, 4, none⟩ = some (.int .u64 til) := X8.c 4
      have s5 : W8.cell? ⟨p2, 5, none⟩ = some (.slice Au val.length cu) := X8.c 5
      have s6 : W8.cell? ⟨p2, 6, none⟩ = some (.slice (some ⟨p3, 0, none⟩) ps.length ps.length) := X8.c 6
      refine bodyPost_ret (v := .agg #[.bool edge, .int .u64 id, .string lab, .int .u64 fr, .int .u64 til, .slice Au val.length cu, .slice (some ⟨p3, 0, none⟩) ps.length ps.length]) (by simp [results, Tryz.results118, go_sem, s0, s1, s2, s3, s4, s5, s6]) rfl ?_
      refine ⟨_, rfl, EOwn.mono ⟨_, _, rs7, rfl, V8, O8, P8⟩ ?_, B8⟩
      exact B0.out.size
end
end Go.Proofs.YtmolpogehgeebaaGreat


namespace Go.Proofs.YtmolpogehgeebaaGreat
open Go.RowKit
theorem Bx.rng {w : World} {g : Nat} {A : Array Value} (h : Bx w g A) : w.rangeAt g 0 A.toList := fun j v hv => by
  rw [Nat.zero_add, h.c j, ← Array.getElem?_toList]
  exact hv
/-- The rows that lie there. -/
theorem rows_of {w : World} {b : Nat} : ∀ (l : List Ent) (off : Nat), (∀ i (h : i < l.length), ∃ sv sp, w.rangeAt b (off + i * 7) (l[i].cells sv sp).toList ∧ Se.IsP w sv l[i].val ∧ SP w sp l[i].ps) →
    ∃ rs : List ER, rs.map (·.1) = l ∧ (∀ r ∈ rs, EAt w (.agg (ER.cells r)) r.1) ∧ ∀ i (h : i < rs.length), w.rangeAt b (off + i * 7) (ER.cells rs[i]).toList
  | [], _, _ => ⟨[], rfl, fun r hr => by simp at hr, fun i h => absurd h (Nat.not_lt_zero i)⟩
  | x :: l, off, h => by
    obtain ⟨sv, sp, h1, h2, h3⟩ := h 0 (by simp)
    obtain ⟨rs, e, k1, k2⟩ := rows_of l (off + 7) fun i hi => by
      obtain ⟨sv, sp, g1, g2, g3⟩ := h (i + 1) (by simp; omega)
      refine ⟨sv, sp, ?_, g2, g3⟩
      rw [show off + 7 + i * 7 = off + (i + 1) * 7 by omega]
      exact g1
    refine ⟨(x, sv, sp) :: rs, by rw [List.map_cons, e], fun r hr => ?_, fun i hi => ?_⟩
    · rcases List.mem_cons.1 hr with rfl | hr
      · exact ⟨sv, sp, rfl, h2, h3⟩
      · exact k1 r hr
    · cases i with
      | zero => simpa using h1
      | succ i =>
        rw [show off + (i + 1) * 7 = off + 7 + i * 7 by omega]
        exact k2 i (by simpa using hi)
theorem rows_cells {w : World} {b off : Nat} {rs : List ER} (h : ∀ i (h : i < rs.length), w.rangeAt b (off + i * 7) (ER.cells rs[i]).toList) : ∀ j u, (cellsE rs)[j]? = some u → w.cell? ((⟨b, off, none⟩ : Addr).add j) = some u := fun j u hj => by
  rw [add_off]
  have hl : j < (cellsE rs).length := by
    by_cases e : j < (cellsE rs).length
    · exact e
    · rw [List.getElem?_eq_none (by omega)] at hj; cases hj
  rw [cellsE_length] at hl
  have hd : j / 7 < rs.length := by omega
  have hg := cellsE_get rs (j / 7) hd (j % 7) (by omega)
  rw [show j / 7 * 7 + j % 7 = j by omega, hj] at hg
  have := h (j / 7) hd (j % 7) u hg.symm
  rwa [show off + j / 7 * 7 + j % 7 = off + j by omega] at this
theorem EAt.one {w : World} {r : ER} (h : EAt w (.agg (ER.cells r)) r.1) : r.2.1.oneCell' = true ∧ r.2.2.oneCell' = true := by
  obtain ⟨h1, h2⟩ := h.inv
  obtain ⟨A, c, e, _⟩ := h1
  obtain ⟨B, d, e', _⟩ := h2
  rw [e, e']
  exact ⟨rfl, rfl⟩
theorem cellsE_oneC {w : World} {rs : List ER} (h : ∀ r ∈ rs, EAt w (.agg (ER.cells r)) r.1) : ∀ u ∈ cellsE rs, u.oneCell' = true := fun u hu => by
  unfold cellsE at hu
  obtain ⟨r, hr, hx⟩ := List.mem_flatMap.1 hu
  obtain ⟨k1, k2⟩ := (h r hr).one
  exact Array.all_eq_true_iff_forall_mem.1 (oneE r.1 k1 k2) u (by simpa using hx)
/-- How far the copying of a list has come. -/
structure CE (v : Value) (l : List Ent) (w0 wr : World) (k : Nat) (rs : List ER) : Prop where
  row : OwnE w0.heap.size wr v rs
  len : rs.map (·.1) = l
  done : ∀ i (h : i < rs.length), i < k → EOwn w0.heap.size wr (.agg (ER.cells rs[i])) rs[i].1
  todo : ∀ i (h : i < rs.length), k ≤ i → EAt w0 (.agg (ER.cells rs[i])) rs[i].1
  bel : Below w0.heap.size w0 wr
theorem CE.put {g c : Nat} {l : List Ent} {w0 wr w2 : World} {k : Nat} {rs : List ER} (h : CE (.slice (some ⟨g, 0, none⟩) l.length c) l w0 wr k rs) (hk : k < l.length) {sv sp : Value} (hb : Below wr.heap.size wr w2) (hy : EOwn w0.heap.size w2 (.agg (l[k].cells sv sp)) l[k]) :
    CE (.slice (some ⟨g, 0, none⟩) l.length c) l w0 (w2.setCells g (k * 7) (l[k].cells sv sp).toList) (k + 1) (rs.set k (l[k], sv, sp)) := by
  have hlen : l.length = rs.length := by rw [← h.len, List.length_map]
  have hrow := h.row.below hb
  rw [hlen] at hrow
  have hk' : k < rs.length := by omega
  obtain ⟨P1, P2⟩ := hrow.put k hk' (l[k], sv, sp)
  have HTg : HT w2 g := by
    obtain ⟨A, c', e, _, _, hA⟩ := hrow.form
    obtain ⟨g', e', _, _, k3, _⟩ := hA (by omega)
    injection e with e1
    rw [e'] at e1
    injection e1 with e1
    injection e1 with e1
    rw [e1]; exact k3
  have hg : w0.heap.size ≤ g := (World.ownsRow.lt hrow g rfl).1
  refine ⟨by rw [hlen]; exact P1, ?_, fun i hi hik => ?_, fun i hi hik => ?_, ?_⟩
  · rw [List.map_set, h.len]
    exact List.set_getElem_self hk
  · rw [List.length_set] at hi
    by_cases e : i = k
    · subst e
      rw [List.getElem_set_self]
      exact hy.kept P2 HTg
    · rw [List.getElem_set_ne (fun x => e x.symm)]
      exact ((h.done i hi (by omega)).below hb).kept P2 HTg
  · rw [List.length_set] at hi
    rw [List.getElem_set_ne (by omega)]
    exact h.todo i hi (by omega)
  · refine (h.bel.trans (hb.mono h.bel.size)).grown P2 (Nat.le_trans h.bel.size hb.size) fun q hq => ?_
    have e : g = q := Option.some.inj hq
    omega
section
set_option maxRecDepth 100000
set_option maxHeartbeats 8000000
theorem cloneE_any (v : Value) (l : List Ent) (w : World) (h : SE w v l) (hl : l.length ≤ 1000000) :
    Calls Tryz.prog 178 #[v] w fun e w' => ∃ u rs, e = .returned u ∧ OwnE w.heap.size w' u rs ∧ rs.map (·.1) = l ∧ (∀ r ∈ rs, EAt w (.agg (ER.cells r)) r.1) ∧ Below w.heap.size w w' := by
  obtain ⟨A, c, rfl, hA, hm⟩ := h
  have q22 : ∀ (w : World) (a : Option Addr) (n c n' c' : Nat), (binOp .eql 74 (.slice a n c) (.slice none n' c')).run Tryz.prog w = .ok (.bool a.isNone) w := fun w a n c n' c' => Lib.run_eql_slice_nil w _ _ a n c n' c' Tryz.underlying74
  cases A with
  | none =>
    have h0 : l = [] := by
      cases l with
      | nil => rfl
      | cons x l => obtain ⟨b, off, e, _⟩ := hA (by simp); cases e
    subst h0
    clear hA hm
    go_enter Tryz.func178, Tryz.ntmps178
    go_wp2
    go_ret
    exact ⟨_, [], rfl, OwnE.nil _ _, rfl, fun r hr => by simp at hr, Below.refl _ _⟩
  | some adr =>
    obtain ⟨rs, e, h1, h2⟩ : ∃ rs : List ER, rs.map (·.1) = l ∧ (∀ r ∈ rs, EAt w (.agg (ER.cells r)) r.1) ∧ ∀ W, Below w.heap.size w W → ∀ j u, (cellsE rs)[j]? = some u → W.cell? (adr.add j) = some u := by
      by_cases h0 : 0 < l.length
      · obtain ⟨b, off, e, hlt, hc⟩ := hA h0
        cases e
        obtain ⟨rs, e, k1, k2⟩ := rows_of l off hc
        refine ⟨rs, e, k1, fun W hb j u hj => ?_⟩
        have := rows_cells k2 j u hj
        rw [add_off] at this ⊢
        exact (hb.cell (p := ⟨b, off + j, none⟩) hlt).trans this
      · obtain rfl : l = [] := List.eq_nil_of_length_eq_zero (by omega)
        exact ⟨[], rfl, fun r hr => by simp at hr, fun W hb j u hj => by simp [cellsE] at hj⟩
    have hlen : l.length = rs.length := by rw [← e, List.length_map]
    rw [hlen] at hl hm ⊢
    have HC := Lib.hid h2
    have H1 := Lib.hid h1
    have HE := Lib.hid e
    have LL := Lib.hid hl
    clear hA hm hl h1 h2 e hlen
    obtain ⟨i0, hi, hz0, hz1, hz2⟩ := info_parts infoEnt
    have B0 := Lib.hid ((Below.refl w.heap.size w).alloc (Nat.le_refl _) (.cells #[] 38))
    go_enter Tryz.func178, Tryz.ntmps178
    go_wp2_with (at_builtin; refine wpList_append_own _ rfl (.tmp 5) (.tmp 6) 74 rfl w.heap.size 38 i0 _ 7 96 Tryz.underlying74 hi hz0 hz1 hz2 rfl (by omega) _ _ _ rfl (World.ownsRow_made w #[] 0 (Nat.le_refl _) (Nat.zero_le _) (by simp)) adr rs.length c (cellsE rs) rfl (cellsE_length rs) (HC.out _ B0.out) (cellsE_oneC H1.out) (by have := LL.out; unfold maxLen; omega) (by have := LL.out; omega) (by simp) ?_; intro v' w1 hown hgrow hnil; have HO := Lib.hid hown; have HG := Lib.hid hgrow; clear hown hgrow hnil)
    go_ret
    refine ⟨v', rs, rfl, by simpa [OwnE] using HO.out, HE.out, H1.out, ?_⟩
    exact B0.out.grown HG.out (by simp) fun k hk => by
      have e : w.heap.size = k := Option.some.inj hk
      omega
/-- A list of entities in new memory. -/
theorem copiedList_any (v : Value) (l : List Ent) (w : World) (h : SE w v l) (hl : l.length ≤ 1000000) (hw : ∀ x ∈ l, x.wide) (hmay : ∀ x ∈ l, x.may) :
    Calls Tryz.prog 110 #[v] w fun e w' => ∃ u, e = .returned u ∧ LE w.heap.size w' u l ∧ Below w.heap.size w w' := by
  have CC := Lib.hid (cloneE_any v l w h hl)
  have HW := Lib.hid hw
  have HM := Lib.hid hmay
  obtain ⟨A0, c0, rfl, _, _⟩ := h
  have b1 : (l.length : Int) ≤ 1000000 := by omega
  clear hw hmay hl
  go_enter Tryz.func110, Tryz.ntmps110
  go_upto_region 2 with (go_at_call 178; (with_reducible refine (CC.out).mono ?_); rintro e w1 ⟨u, rs, rfl, ho, hrs, hea, hb⟩; have HO := Lib.hid ho; have HB := Lib.hid hb; have HRS := Lib.hid hrs; have HEA := Lib.hid hea; clear ho hb hrs hea)
  obtain ⟨A1, c1, e1, _, _, _⟩ := HO.out.form
  have hlen : rs.length = l.length := by rw [← HRS.out, List.length_map]
  rw [hlen] at e1
  subst e1
  have C0 := Lib.hid (show CE (.slice A1 l.length c1) l w w1 0 rs from ⟨HO.out, HRS.out, fun i _ h => absurd h (Nat.not_lt_zero i), fun i hi _ => HEA.out _ (List.getElem_mem hi), HB.out⟩)
  clear hlen
  go_wp2_with fail
  go_loopw [9] (fun i wr => ∃ (k : Nat) (rs : List ER), k ≤ l.length ∧ i = .int .i64 k ∧ CE (.slice A1 l.length c1) l w wr k rs) (fun i _ => l.length - (intOf i).toNat)
  case atStart => exact ⟨0, rs, Nat.zero_le _, rfl, C0.out⟩
  case round =>
    obtain ⟨k, qs, hk, rfl, hce⟩ := hrel
    have HC := Lib.hid hce
    have hql : qs.length = l.length := by rw [← hce.len, List.length_map]
    clear hce
    by_cases hlt : k < l.length
    · obtain ⟨A2, c2, e2, _, _, hA2⟩ := HC.out.row.form
      obtain ⟨g, e3, hg0, hg1, hg2, hfr, hcg⟩ := hA2 (by omega)
      simp only [Value.slice.injEq] at e2
      obtain ⟨rfl, e9, rfl⟩ := e2
      clear e9
      subst e3
      have r := hcg k (by omega)
      have heq : qs[k].1 = l[k] := by
        have := HC.out.len
        simp only [← this, List.getElem_map]
      have HT0 := Lib.hid (HC.out.todo k (by omega) (Nat.le_refl _))
      have CPY := Lib.hid (fun W (hb : Below w.heap.size w W) => bCopied_any (.agg (ER.cells qs[k])) l[k] W (by have := HT0.out.below hb; rw [heq] at this; exact this) (HM.out _ (List.getElem_mem hlt)) (HW.out _ (List.getElem_mem hlt)))
      have PUT := Lib.hid (fun w2 sv sp (hb : Below wr.heap.size wr w2) (hy : EOwn w.heap.size w2 (.agg (l[k].cells sv sp)) l[k]) => HC.out.put hlt hb hy)
      have HBw := Lib.hid HC.out.bel
      have TH := Lib.hid (fun W (hb : Below wr.heap.size wr W) => (show W.there g (k * 7) 7 from there7 (w := W) (g := g) (o := k * 7) (C := ER.cells qs[k]) (fun j v hv => (hb.cell (p := ⟨g, k * 7 + j, none⟩) hg1).trans (r j v hv)) (fun j => (hb.frozen (p := ⟨g, j, none⟩) hg1).trans (hfr j))))
      have i0 : (k : Int) < (l.length : Int) := by omega
      have i1 : (0 : Int) ≤ (k : Int) := by omega
      have HQL := Lib.hid hql
      obtain ⟨rk, hrk⟩ : ∃ x, qs[k] = x := ⟨_, rfl⟩
      rw [hrk] at heq HT0 CPY r
      rw [← heq] at PUT CPY
      clear hrk hA2 hcg heq
      obtain ⟨x, sv, sp⟩ := rk
      obtain ⟨k1, k2⟩ := HT0.out.inv
      obtain ⟨xe, xid, xlab, xfr, xtil, xval, xps⟩ := x
      simp only at k1 k2
      obtain ⟨Av, cv, rfl, _⟩ := k1
      obtain ⟨Ap, cp, rfl, _, _⟩ := k2
      simp only at PUT CPY r
      go_upto_region 5 with (refine wpList_load_mid rfl 38 (.tmp 12) rfl g (k * 7) rfl _ _ r Tryz.underlying38 rfl rowEnt ?_)
      have HA1 := Lib.hid ((Below.refl wr.heap.size wr).alloc (Nat.le_refl _) (.cells #[.bool xe, .int .u64 xid, .string xlab, .int .u64 xfr, .int .u64 xtil, .slice Av xval.length cv, .slice Ap xps.length cp] 38))
      have X1 := Lib.hid (Bx.new wr #[.bool xe, .int .u64 xid, .string xlab, .int .u64 xfr, .int .u64 xtil, .slice Av xval.length cv, .slice Ap xps.length cp] 38)
      obtain ⟨V, hV⟩ : ∃ W, wr.alloc (.cells #[.bool xe, .int .u64 xid, .string xlab, .int .u64 xfr, .int .u64 xtil, .slice Av xval.length cv, .slice Ap xps.length cp] 38) = W := ⟨_, rfl⟩
      rw [hV] at HA1 X1
      try rw [hV]
      clear hV
      obtain ⟨p4, hp4⟩ : ∃ r, wr.heap.size = r := ⟨_, rfl⟩
      have Z4 := Lib.hid hp4
      rw [hp4] at X1
      try rw [hp4]
      clear hp4
      have RB := Lib.hid X1.out.rng
      have HBV := Lib.hid (HBw.out.trans (HA1.out.mono HBw.out.size))
      go_wp2_with (first
        | (refine wpList_load_mid rfl 38 (.tmp 4) rfl p4 0 rfl _ _ RB.out Tryz.underlying38 rfl rowEnt ?_)
        | (go_at_call 118; (with_reducible refine (CPY.out _ HBV.out).mono ?_); rintro e w2 ⟨u, rfl, hu, hb⟩; have HU := Lib.hid (EOwn.mono hu HBV.out.size); obtain ⟨su, sq, rs1, rfl, hu1, hu2, hu3⟩ := hu; obtain ⟨Au, cu, rfl, _⟩ := hu1.at; obtain ⟨Aq, cq, rfl, _⟩ := hu2.form; have HB2 := Lib.hid (HA1.out.trans (hb.mono HA1.out.size)); obtain ⟨W9, hW9⟩ : ∃ W, w2.setCells g (k * 7) (#[.bool xe, .int .u64 xid, .string xlab, .int .u64 xfr, .int .u64 xtil, .slice Au xval.length cu, .slice Aq rs1.length cq] : Array Value).toList = W := ⟨_, rfl⟩; have P9 := Lib.hid (hW9 ▸ PUT.out w2 _ _ HB2.out HU.out); have th := TH.out w2 HB2.out; have one := HU.out.one; clear hb hu1 hu2 hu3)
        | (refine wpList_store_mid rfl 38 (.tmp 18) (.tmp 17) rfl g (k * 7) #[.bool xe, .int .u64 xid, .string xlab, .int .u64 xfr, .int .u64 xtil, .slice Au xval.length cu, .slice Aq rs1.length cq] rfl rfl th rowEnt one ?_; rw [hW9])
        | fail)
      exact ⟨⟨k + 1, _, by omega, by go_num, P9.out⟩, by simp [intOf]; omega⟩
    · obtain rfl : k = l.length := by omega
      go_wp2_with fail
      go_ret
      exact ⟨_, rfl, ⟨qs, HC.out.row, fun r hr => by obtain ⟨i, hi, rfl⟩ := List.getElem_of_mem hr; exact HC.out.done i hi (by omega), HC.out.len⟩, HC.out.bel⟩
end
end Go.Proofs.YtmolpogehgeebaaGreat


