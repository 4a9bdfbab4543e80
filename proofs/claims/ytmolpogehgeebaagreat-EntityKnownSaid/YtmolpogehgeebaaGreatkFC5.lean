/- EntityKnown: what the calls answer there. -/
import Derived.Test.YtmolpogehgeebaaGreatkFB5
import Derived.Test.YtmolpogehgeebaaGreatbFC4
import Derived.Test.YtmolpogehgeebaaGreatbGA1
namespace Go.Proofs.YtmolpogehgeebaaGreat
open Go.RowKit
theorem exO1_id {o : Co.OP} (h : o.id = 0) : ¬ o.may := fun m => by have := m.1.1; omega
theorem noE_not : ¬ noE.may := fun h => by have := h.id.1; simp at this
theorem noE_wide : noE.wide := ⟨fun p hp => by simp at hp, by simp, fun p hp => by simp at hp, fun p hp => by simp at hp, fun p hp => by simp at hp⟩
/-- Keys of properties. -/
def keysOf (ps : List Prp) : List ByteArray := ps.map fun p => p.k
theorem keys_pair {V : List (Int × Int)} {ps : List Prp} (h : MayPs V ps) : (keysOf ps).Pairwise (· ≠ ·) := List.pairwise_map.2 (h.row.imp fun h e => by rw [e] at h; exact ltS_irrefl _ h)
theorem key_at {V : List (Int × Int)} {ps : List Prp} (h : MayPs V ps) (k : ByteArray) : k ∈ keysOf ps ↔ ∃ t, atK ps k t ≠ VP.none := by
  constructor
  · intro hk
    obtain ⟨p, hp, rfl⟩ := List.mem_map.1 hk
    obtain ⟨t, ht⟩ := line_some (h.line p hp).1 (h.line p hp).2.1
    refine ⟨t, ?_⟩
    unfold atK
    rw [lineK_mem h.row hp]
    exact ht
  · rintro ⟨t, ht⟩
    exact key_in ht
open Classical in
theorem keys_len {V W : List (Int × Int)} {ps qs : List Prp} {k : ByteArray} (hp : MayPs V ps) (hq : MayPs W qs) (hk : k ∉ keysOf ps) (he : ∀ k', k' ∈ keysOf qs ↔ k' = k ∨ k' ∈ keysOf ps) : qs.length = ps.length + 1 := by
  have h1 := len_subA (keysOf qs) (k :: keysOf ps) (keys_pair hq) fun k' h => by
    rcases (he k').1 h with e | e
    · rw [e]; exact List.mem_cons_self
    · exact List.mem_cons_of_mem _ e
  have h2 := len_subA (k :: keysOf ps) (keysOf qs) (List.pairwise_cons.2 ⟨fun k' h e => hk (by rw [e]; exact h), keys_pair hp⟩) fun k' h => by
    rcases List.mem_cons.1 h with e | e
    · exact (he k').2 (.inl e)
    · exact (he k').2 (.inr e)
  unfold keysOf at h1 h2
  simp only [List.length_cons, List.length_map] at h1 h2
  omega
/-- The keys behind a key set to something. -/
theorem Applied.keys {x y : Ent} {o : Co.OP} (h : Applied x o y) (hx : x.may) (hk : o.kind = 5) (hv : o.v ≠ VP.none) (hp : o.pf < o.pt) (hn : o.key ∉ keysOf x.ps) : (∀ k', k' ∈ keysOf y.ps ↔ k' = o.key ∨ k' ∈ keysOf x.ps) ∧ y.val = x.val := by
  rcases h with ⟨e, _⟩ | ⟨e, _⟩ | ⟨_, _, _, hm, hval, h4⟩
  · omega
  · omega
  · refine ⟨fun k' => ?_, hval⟩
    rw [key_at hm.ps, key_at hx.ps]
    constructor
    · rintro ⟨t, ht⟩
      by_cases g : k' = o.key ∧ (o.pf : Int) ≤ t ∧ t < o.pt
      · exact .inl g.1
      · rw [(h4 k' t).2 g] at ht
        exact .inr ⟨t, ht⟩
    · rintro (rfl | ⟨t, ht⟩)
      · exact ⟨o.pf, by rw [(h4 o.key o.pf).1 ⟨rfl, by omega, by omega⟩]; exact hv⟩
      · refine ⟨t, ?_⟩
        rw [(h4 k' t).2 fun g => hn (by rw [← g.1]; exact (key_at hx.ps k').2 ⟨t, ht⟩)]
        exact ht
/-- The i-th key. -/
def keyA (i : Nat) : ByteArray := ⟨#[97, UInt8.ofNat (97 + i)]⟩
theorem keyA_word : ∀ i, i < 16 → Co.wordB (keyA i) = true := by decide
theorem keyA_inj : ∀ i, i < 16 → ∀ j, j < 16 → keyA i = keyA j → i = j := by decide
theorem keyA_k : ∀ i, i < 16 → keyA i ≠ bk := by decide
/-- The entity with i keys more. -/
structure KI (x : Ent) (i n : Nat) : Prop where
  good : x.good n
  edge : x.edge = false
  id : x.id = 1
  val : x.val = [(2, 4), (5, 9)]
  keys : ∀ k', k' ∈ keysOf x.ps ↔ k' = bk ∨ ∃ j, j < i ∧ k' = keyA j
  len : x.ps.length = i + 1
theorem KI.start : KI exE3 0 6 := ⟨exE3_good, rfl, rfl, rfl, fun k' => by
  show k' ∈ [bk] ↔ _
  rw [List.mem_singleton]
  exact ⟨.inl, fun h => h.elim (fun e => e) fun ⟨j, hj, _⟩ => absurd hj (Nat.not_lt_zero j)⟩, rfl⟩
def keyO (i : Nat) : Co.OP := ⟨5, false, 1, nul, 0, 0, keyA i, numV 1, 2, 3⟩
theorem keyO_may {i : Nat} (h : i < 16) : (keyO i).may := ⟨⟨by show (1 : Nat) ≤ 1; omega, by show (1 : Nat) ≤ 1099511627776; omega⟩, by show (2 : Nat) < 3; omega, by show (3 : Nat) ≤ 1099511627776; omega, .inr (.inr (.inr ⟨rfl, rfl, rfl, rfl, keyA_word i h, numV_may 1, by show ¬ ((2 : Int) = 5); omega, by show ¬ ((2 : Int) = 6); omega⟩))⟩
theorem covers_23 {V : List (Int × Int)} (h : V = [(2, 4), (5, 9)]) : Se.Iset.covers V [((2 : Int), (3 : Int))] := fun t ht => by
  have h1 := (has_one (show (2 : Int) < 3 ∧ (3 : Int) ≤ 1099511627776 by omega) t).1 ht
  rw [h, has_V3]; omega
theorem KI.fresh {x : Ent} {i n : Nat} (h : KI x i n) (hi : i < 16) : keyA i ∉ keysOf x.ps := fun hk => by
  rcases (h.keys _).1 hk with e | ⟨j, hj, e⟩
  · exact keyA_k i hi e
  · have := keyA_inj i hi j (by omega) e
    omega
theorem KI.next {x y : Ent} {i n : Nat} (h : KI x i n) (hi : i < 16) (ha : Applied x (keyO i) y) : KI y (i + 1) (n + 2) := by
  obtain ⟨h1, h2⟩ := ha.keys h.good.may rfl (by unfold keyO numV VP.none; simp) (by show (2 : Nat) < 3; omega) (h.fresh hi)
  refine ⟨ha.good h.good, ha.kin.edge.trans h.edge, ha.kin.id.trans h.id, h2.trans h.val, fun k' => ?_, ?_⟩
  · rw [h1, h.keys]
    constructor
    · rintro (e | e | ⟨j, hj, e⟩)
      · exact .inr ⟨i, by omega, e⟩
      · exact .inl e
      · exact .inr ⟨j, by omega, e⟩
    · rintro (e | ⟨j, hj, e⟩)
      · exact .inr (.inl e)
      · by_cases c : j = i
        · subst c; exact .inl e
        · exact .inr (.inr ⟨j, by omega, e⟩)
  · rw [keys_len h.good.may.ps ha.may.ps (h.fresh hi) h1, h.len]
/-- What the i-th of the sixteen settings answers. -/
def KeyAns (i m : Nat) (n : Int) (y : Ent) : Prop := (i < 15 ∧ n = 0 ∧ KI y (i + 1) (m + 2)) ∨ (i = 15 ∧ n = 3)
theorem keyApply (v : Value) (x : Ent) (i m : Nat) (w : World) (h : EAt w v x) (hk : KI x i m) (hi : i < 16) (hm : m ≤ 1000) : Calls Tryz.prog 21 #[v, (keyO i).val] w (AE (KeyAns i m) w) :=
  (Apply_any v x (keyO i) w h (hk.good.wide (by omega)) (numV_ok 1 (by unfold fits; omega)).1 f_small (k_wf 5 (by omega))).mono fun _ _ h => (applyAE h).imp fun n y hq => by
    rcases hq with ⟨h, _⟩ | ⟨_, h, _⟩ | ⟨_, _, hn, h⟩ | ⟨_, _, h1, h2⟩
    · exact absurd hk.good.may h
    · exact absurd ⟨.inr (.inr rfl), keyO_may hi, hk.edge.symm, hk.id.symm⟩ h
    · obtain ⟨_, ⟨g, _⟩ | ⟨_, _, _, g, e⟩⟩ := h
      · exact absurd (covers_23 hk.val) g
      · exact .inr ⟨by have := hk.len; omega, e⟩
    · refine .inl ⟨?_, h1, hk.next hi h2⟩
      have h3 := (hk.next hi h2).len
      have h4 := h2.may.num
      omega
def zzO : Co.OP := ⟨5, false, 1, nul, 0, 0, ⟨#[122, 122]⟩, VP.none, 2, 3⟩
theorem zzO_may : zzO.may := ⟨⟨by decide, by decide⟩, by decide, by decide, .inr (.inr (.inr ⟨rfl, rfl, rfl, rfl, by decide, none_may, by decide, by decide⟩))⟩
def allO : Co.OP := ⟨4, false, 1, nul, 0, 0, nul, VP.none, 0, 1099511627776⟩
theorem allO_may : allO.may := ⟨⟨by decide, by decide⟩, by decide, by decide, .inr (.inr (.inl ⟨.inr rfl, rfl, rfl, rfl, rfl, rfl⟩))⟩
theorem zzApply (v : Value) (x : Ent) (i m : Nat) (w : World) (h : EAt w v x) (hk : KI x i m) (hm : m ≤ 1000) : Calls Tryz.prog 21 #[v, .agg #[.int .i64 5, .bool false, .int .u64 1, .string ⟨#[]⟩, .int .u64 0, .int .u64 0, .string ⟨#[122, 122]⟩, .int .i64 0, .bool false, .int .i64 0, .float .f64 0, .string ⟨#[]⟩, .int .u64 2, .int .u64 3]] w (AE (fun n _ => n = 0) w) :=
  (Apply_any v x zzO w h (hk.good.wide (by omega)) none_wide f_small (k_wf 5 (by omega))).mono fun _ _ h => (applyAE h).imp fun n y hq => by
    rcases hq with ⟨h, _⟩ | ⟨_, h, _⟩ | ⟨_, _, hn, h⟩ | ⟨_, _, h1, h2⟩
    · exact absurd hk.good.may h
    · exact absurd ⟨.inr (.inr rfl), zzO_may, hk.edge.symm, hk.id.symm⟩ h
    · obtain ⟨_, ⟨g, _⟩ | ⟨_, _, g, _, _⟩⟩ := h
      · exact absurd (covers_23 hk.val) g
      · exact absurd rfl g
    · exact h1
theorem allApply (v : Value) (x : Ent) (i m : Nat) (w : World) (h : EAt w v x) (hk : KI x i m) (hm : m ≤ 1000) : Calls Tryz.prog 21 #[v, .agg #[.int .i64 4, .bool false, .int .u64 1, .string ⟨#[]⟩, .int .u64 0, .int .u64 0, .string ⟨#[]⟩, .int .i64 0, .bool false, .int .i64 0, .float .f64 0, .string ⟨#[]⟩, .int .u64 0, .int .u64 1099511627776]] w (AE (fun n y => n = 0 ∧ y.val = [] ∧ y.ps = [] ∧ y.may) w) :=
  (Apply_any v x allO w h (hk.good.wide (by omega)) none_wide f_small (k_wf 4 (by omega))).mono fun _ _ h => (applyAE h).imp fun n y hq => by
    rcases hq with ⟨h, _⟩ | ⟨_, h, _⟩ | ⟨_, _, hn, h⟩ | ⟨_, _, h1, h2⟩
    · exact absurd hk.good.may h
    · exact absurd ⟨.inr (.inl rfl), allO_may, hk.edge.symm, hk.id.symm⟩ h
    · exact absurd h.1 (by decide)
    · refine ⟨h1, ?_, ?_, h2.may⟩
      all_goals
        rcases h2 with ⟨e, _⟩ | ⟨_, _, hym, h3, h4⟩ | ⟨e, _⟩
        · exact absurd e (by decide)
        · have hin : ∀ t : Int, ¬ (((allO.pf : Nat) : Int) ≤ t ∧ t < ((allO.pt : Nat) : Int)) → Se.Iset.has x.val t = false ∧ ∀ k, atK x.ps k t = VP.none := fun t ht => by
            have ht' : t < 0 ∨ 1099511627776 ≤ t := by
              have : ¬ ((0 : Int) ≤ t ∧ t < 1099511627776) := ht
              omega
            rcases ht' with c | c
            · exact ⟨hk.good.late.val t c, fun k => hk.good.late.ps k t c⟩
            · have hv := Se.Iset.has_beyond x.val t c
              refine ⟨hv, fun k => Classical.byContradiction fun hn => ?_⟩
              have := (hk.good.may.ps.any k).2 t hn
              rw [hv] at this; cases this
          first
          | exact Se.Iset.NF.ext hym.val Se.Iset.NF.nil fun t => by
              rw [Se.Iset.has_nil, ← Bool.not_eq_true, h3]
              rintro ⟨g1, g2⟩
              rw [(hin t g2).1] at g1; cases g1
          | exact hym.ps.ext (W := []) ⟨by simp, by simp, by simp⟩ fun k t => by
              show _ = VP.none
              by_cases g : ((allO.pf : Nat) : Int) ≤ t ∧ t < ((allO.pt : Nat) : Int)
              · rw [(h4 k t).1 g]
              · rw [(h4 k t).2 g]; exact (hin t g).2 k
        · exact absurd e (by decide)
def kpC (edge id a b : Value) (kind : Int) : Array Value := #[.int .i64 kind, edge, id, .string ⟨#[]⟩, .int .u64 0, .int .u64 0, .string ⟨#[]⟩, .int .i64 0, .bool false, .int .i64 0, .float .f64 0, .string ⟨#[]⟩, a, b]
def kpO (kind : Int) (edge : Bool) (id : Nat) : Co.OP := ⟨kind, edge, id, nul, 0, 0, nul, VP.none, 1, 2⟩
theorem mkBad (kind : Int) (id : Nat) (iv : Int) (hiv : (id : Int) = iv) (w : World) (h : kind = 3 ∨ id = 0) : Calls Tryz.prog 16 #[.agg #[.int .i64 kind, .bool false, .int .u64 iv, .string ⟨#[]⟩, .int .u64 0, .int .u64 0, .string ⟨#[]⟩, .int .i64 0, .bool false, .int .i64 0, .float .f64 0, .string ⟨#[]⟩, .int .u64 1, .int .u64 2]] w (AE (fun n _ => n = 1) w) := by
  subst hiv
  exact (Make_any (kpO kind false id) w f_small).mono fun _ _ g => (makeAE g).imp fun n y hq => by
    rcases hq with ⟨_, e⟩ | ⟨hm, hk, _, _⟩
    · exact e
    · rcases h with e | e
      · have h2 : kind = 1 ∨ kind = 2 := hk
        omega
      · exact absurd hm (exO1_id e)
theorem apForm (w : World) : Calls Tryz.prog 21 #[.agg #[.bool false, .int .u64 0, .string ⟨#[]⟩, .int .u64 0, .int .u64 0, .slice none 0 0, .slice none 0 0], .agg #[.int .i64 3, .bool false, .int .u64 1, .string ⟨#[]⟩, .int .u64 0, .int .u64 0, .string ⟨#[]⟩, .int .i64 0, .bool false, .int .i64 0, .float .f64 0, .string ⟨#[]⟩, .int .u64 1, .int .u64 2]] w (AE (fun n _ => n = 5) w) :=
  (Apply_any _ noE (kpO 3 false 1) w ⟨_, _, rfl, Se.IsP.nil _, SP.nil _⟩ noE_wide none_wide f_small (k_wf 3 (by omega))).mono fun _ _ h => (applyAE h).imp fun n y hq => by
    rcases hq with ⟨_, e⟩ | ⟨h, _⟩ | ⟨h, _⟩ | ⟨h, _⟩
    · exact e
    all_goals exact absurd h noE_not
theorem apBad (v : Value) (kind : Int) (edge : Bool) (id : Nat) (iv : Int) (hiv : (id : Int) = iv) (w : World) (h : EAt w v exE3) (hk : 0 ≤ kind ∧ kind ≤ 9) (hb : kind = 1 ∨ edge = true ∨ id = 2) : Calls Tryz.prog 21 #[v, .agg #[.int .i64 kind, .bool edge, .int .u64 iv, .string ⟨#[]⟩, .int .u64 0, .int .u64 0, .string ⟨#[]⟩, .int .i64 0, .bool false, .int .i64 0, .float .f64 0, .string ⟨#[]⟩, .int .u64 1, .int .u64 2]] w (AE (fun n _ => n = 1) w) := by
  subst hiv
  exact (Apply_any v exE3 (kpO kind edge id) w h (exE3_good.wide (by omega)) none_wide f_small (k_wf kind hk)).mono fun _ _ h => (applyAE h).imp fun n y hq => by
    have hf : ¬ FitsE exE3 (kpO kind edge id) := fun g => by
      obtain ⟨g1, _, g3, g4⟩ := g
      have g1' : kind = 3 ∨ kind = 4 ∨ kind = 5 := g1
      have g3' : edge = false := g3
      have g4' : (id : Int) = 1 := g4
      rcases hb with e | e | e
      · omega
      · rw [e] at g3'; cases g3'
      · omega
    rcases hq with ⟨h, _⟩ | ⟨_, _, e⟩ | ⟨_, h, _⟩ | ⟨_, h, _⟩
    · exact absurd exE3_may h
    · exact e
    all_goals exact absurd h hf
theorem ends6 {E : List Int} (h : EndsE exE3 E) : E.length = 6 := by
  have hm : ∀ t, t ∈ E ↔ t ∈ [(2 : Int), 3, 4, 5, 6, 9] := fun t => by
    rw [h.mem]
    unfold edgeV edgeP edgeL
    simp only [exE, List.mem_cons, List.not_mem_nil, or_false, exists_eq_or_imp, exists_eq_left]
    omega
  have h1 := len_sub E [2, 3, 4, 5, 6, 9] (h.row.imp fun h e => by omega) fun t ht => (hm t).1 ht
  have h2 := len_sub [2, 3, 4, 5, 6, 9] E (by simp) fun t ht => (hm t).2 ht
  simp only [List.length_cons, List.length_nil] at h1 h2
  omega
theorem at_k5 : atK exE3.ps bk 5 = numV 5 := by
  show atK [⟨bk, exL3⟩] bk 5 = _
  rw [(at_one bk exL3 bk 5).1 rfl, exL3_means]
  rfl
theorem at_k4 : atK exE3.ps bk 4 = VP.none := by
  show atK [⟨bk, exL3⟩] bk 4 = _
  rw [(at_one bk exL3 bk 4).1 rfl, exL3_means]
  rfl
theorem line_z : lineK exE3.ps ⟨#[122]⟩ = [] := lineK_none fun p hp => by
  rw [List.mem_singleton.1 hp]
  show bk ≠ _
  decide
end Go.Proofs.YtmolpogehgeebaaGreat

