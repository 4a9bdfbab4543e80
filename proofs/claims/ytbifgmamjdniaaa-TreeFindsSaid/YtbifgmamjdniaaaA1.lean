/- Trees of entries in plain terms: ordered, balanced, what each subtree ends at; adding, removing, asking. -/
namespace Go.Proofs.Ytbifgmamjdniaaa
namespace Itree
/-- An entry: from, to, number. -/
structure E where
  a : Int
  b : Int
  n : Int
deriving DecidableEq
theorem E.ext' {x y : E} (h1 : x.a = y.a) (h2 : x.b = y.b) (h3 : x.n = y.n) : x = y := by cases x; cases y; simp_all
def lt (x y : E) : Prop := x.a < y.a ∨ (x.a = y.a ∧ (x.b < y.b ∨ (x.b = y.b ∧ x.n < y.n)))
instance (x y : E) : Decidable (lt x y) := by unfold lt; infer_instance
theorem lt_irrefl (x : E) : ¬ lt x x := by unfold lt; omega
theorem lt_trans {x y z : E} (h : lt x y) (k : lt y z) : lt x z := by unfold lt at *; omega
theorem lt_asymm {x y : E} (h : lt x y) : ¬ lt y x := by unfold lt at *; omega
theorem lt_tri (x y : E) : lt x y ∨ x = y ∨ lt y x := by
  unfold lt
  by_cases h1 : x.a = y.a
  · by_cases h2 : x.b = y.b
    · by_cases h3 : x.n = y.n
      · exact .inr (.inl (E.ext' h1 h2 h3))
      · omega
    · omega
  · omega
/-- A tree: the block of each node, its entry, its subtrees. -/
inductive T where
  | leaf
  | node (k : Nat) (e : E) (l r : T)
def T.isLeaf : T → Bool
  | .leaf => true
  | .node .. => false
def dep : T → Nat
  | .leaf => 0
  | .node _ _ l r => max (dep l) (dep r) + 1
def endT : T → Int
  | .leaf => 0
  | .node _ e l r => if r.isLeaf then (if l.isLeaf then e.b else max e.b (endT l)) else max (if l.isLeaf then e.b else max e.b (endT l)) (endT r)
def nodes : T → List (Nat × E)
  | .leaf => []
  | .node k e l r => nodes l ++ (k, e) :: nodes r
def bs (t : T) : List Nat := (nodes t).map (·.1)
def ord (t : T) : List E := (nodes t).map (·.2)
def sz (t : T) : Nat := (nodes t).length
theorem bs_leaf : bs .leaf = [] := rfl
theorem ord_leaf : ord .leaf = [] := rfl
theorem sz_leaf : sz .leaf = 0 := rfl
theorem bs_node (k : Nat) (e : E) (l r : T) : bs (.node k e l r) = bs l ++ k :: bs r := by simp [bs, nodes]
theorem ord_node (k : Nat) (e : E) (l r : T) : ord (.node k e l r) = ord l ++ e :: ord r := by simp [ord, nodes]
theorem sz_node (k : Nat) (e : E) (l r : T) : sz (.node k e l r) = sz l + 1 + sz r := by simp [sz, nodes]; omega
theorem dep_node (k : Nat) (e : E) (l r : T) : dep (.node k e l r) = max (dep l) (dep r) + 1 := rfl
theorem bs_len (t : T) : (bs t).length = sz t := by simp [bs, sz]
theorem ord_len (t : T) : (ord t).length = sz t := by simp [ord, sz]
theorem dep_le (t : T) : dep t ≤ sz t := by
  induction t with
  | leaf => simp [dep]
  | node k e l r ih1 ih2 => rw [dep_node, sz_node]; omega
theorem dep_zero {t : T} (h : dep t = 0) : t = .leaf := by
  cases t with
  | leaf => rfl
  | node k e l r => rw [dep_node] at h; omega
theorem node_of_dep {t : T} (h : 0 < dep t) : ∃ k e l r, t = .node k e l r := by
  cases t with
  | leaf => simp [dep] at h
  | node k e l r => exact ⟨k, e, l, r, rfl⟩
def lean : T → Int
  | .leaf => 0
  | .node _ _ l r => (dep l : Int) - (dep r : Int)
def rotL : T → T
  | .node k e l (.node m f b c) => .node m f (.node k e l b) c
  | t => t
def rotR : T → T
  | .node k e (.node m f a b) r => .node m f a (.node k e b r)
  | t => t
def bal (k : Nat) (e : E) (l r : T) : T :=
  if (dep l : Int) - dep r > 1 then rotR (.node k e (if lean l < 0 then rotL l else l) r)
  else if (dep l : Int) - dep r < -1 then rotL (.node k e l (if lean r > 0 then rotR r else r))
  else .node k e l r
theorem nodes_rotL (t : T) : nodes (rotL t) = nodes t := by
  unfold rotL; split <;> simp [nodes]
theorem nodes_rotR (t : T) : nodes (rotR t) = nodes t := by
  unfold rotR; split <;> simp [nodes]
theorem nodes_bal (k : Nat) (e : E) (l r : T) : nodes (bal k e l r) = nodes l ++ (k, e) :: nodes r := by
  unfold bal
  split
  · rw [nodes_rotR]
    simp only [nodes]
    split
    · rw [nodes_rotL]
    · rfl
  · split
    · rw [nodes_rotL]
      simp only [nodes]
      split
      · rw [nodes_rotR]
      · rfl
    · rfl
theorem bs_bal (k : Nat) (e : E) (l r : T) : bs (bal k e l r) = bs l ++ k :: bs r := by simp [bs, nodes_bal]
theorem ord_bal (k : Nat) (e : E) (l r : T) : ord (bal k e l r) = ord l ++ e :: ord r := by simp [ord, nodes_bal]
theorem sz_bal (k : Nat) (e : E) (l r : T) : sz (bal k e l r) = sz l + 1 + sz r := by simp [sz, nodes_bal]; omega
/-- Balanced. -/
def AVL : T → Prop
  | .leaf => True
  | .node _ _ l r => dep l ≤ dep r + 1 ∧ dep r ≤ dep l + 1 ∧ AVL l ∧ AVL r
theorem bal_deep (k : Nat) (e : E) (l r : T) (hl : AVL l) (hr : AVL r) (h1 : dep l ≤ dep r + 2) (h2 : dep r ≤ dep l + 2) :
    AVL (bal k e l r) ∧ dep (bal k e l r) ≤ max (dep l) (dep r) + 1 ∧ max (dep l) (dep r) ≤ dep (bal k e l r) ∧ (dep l ≤ dep r + 1 → dep r ≤ dep l + 1 → dep (bal k e l r) = max (dep l) (dep r) + 1) := by
  unfold bal
  split
  · rename_i h
    obtain ⟨m, f, a, b, rfl⟩ := node_of_dep (t := l) (by omega)
    simp only [AVL, dep_node] at hl h1 h2 h ⊢
    split
    · rename_i hh
      simp only [lean] at hh
      obtain ⟨m2, f2, c, d, rfl⟩ := node_of_dep (t := b) (by omega)
      simp only [AVL, dep_node, rotL, rotR] at *
      refine ⟨⟨?_, ?_, ⟨?_, ?_, hl.2.2.1, hl.2.2.2.2.2.1⟩, ?_, ?_, hl.2.2.2.2.2.2, hr⟩, ?_, ?_, ?_⟩ <;> omega
    · rename_i hh
      simp only [lean] at hh
      simp only [AVL, dep_node, rotR] at *
      refine ⟨⟨?_, ?_, hl.2.2.1, ?_, ?_, hl.2.2.2, hr⟩, ?_, ?_, ?_⟩ <;> omega
  · split
    · rename_i h3 h
      obtain ⟨m, f, a, b, rfl⟩ := node_of_dep (t := r) (by omega)
      simp only [AVL, dep_node] at hr h1 h2 h ⊢
      split
      · rename_i hh
        simp only [lean] at hh
        obtain ⟨m2, f2, c, d, rfl⟩ := node_of_dep (t := a) (by omega)
        simp only [AVL, dep_node, rotL, rotR] at *
        refine ⟨⟨?_, ?_, ⟨?_, ?_, hl, hr.2.2.1.2.2.1⟩, ?_, ?_, hr.2.2.1.2.2.2, hr.2.2.2⟩, ?_, ?_, ?_⟩ <;> omega
      · rename_i hh
        simp only [lean] at hh
        simp only [AVL, dep_node, rotL] at *
        refine ⟨⟨?_, ?_, ⟨?_, ?_, hl, hr.2.2.1⟩, hr.2.2.2⟩, ?_, ?_, ?_⟩ <;> omega
    · rename_i h3 h4
      simp only [AVL, dep_node]
      refine ⟨⟨?_, ?_, hl, hr⟩, ?_, ?_, fun _ _ => trivial⟩ <;> omega
/-- Added: K is the new node's block. -/
def ins (K : Nat) (x : E) : T → T
  | .leaf => .node K x .leaf .leaf
  | .node k e l r => if lt x e then bal k e (ins K x l) r else bal k e l (ins K x r)
theorem ins_deep (K : Nat) (x : E) (t : T) (h : AVL t) : AVL (ins K x t) ∧ dep t ≤ dep (ins K x t) ∧ dep (ins K x t) ≤ dep t + 1 := by
  induction t with
  | leaf => simp [ins, AVL, dep]
  | node k e l r ih1 ih2 =>
    obtain ⟨h1, h2, hl, hr⟩ := h
    obtain ⟨a1, a2, a3⟩ := ih1 hl
    obtain ⟨b1, b2, b3⟩ := ih2 hr
    unfold ins
    rw [dep_node]
    split
    · obtain ⟨c1, c2, c3, c4⟩ := bal_deep k e (ins K x l) r a1 hr (by omega) (by omega)
      exact ⟨c1, by omega, by omega⟩
    · obtain ⟨c1, c2, c3, c4⟩ := bal_deep k e l (ins K x r) hl b1 (by omega) (by omega)
      exact ⟨c1, by omega, by omega⟩
theorem ins_sz (K : Nat) (x : E) (t : T) : sz (ins K x t) = sz t + 1 := by
  induction t with
  | leaf => simp [ins, sz, nodes]
  | node k e l r ih1 ih2 => unfold ins; split <;> rw [sz_bal, sz_node] <;> omega
theorem ins_bs (K : Nat) (x : E) (t : T) : List.Perm (bs (ins K x t)) (K :: bs t) := by
  induction t with
  | leaf => simp [ins, bs, nodes]
  | node k e l r ih1 ih2 =>
    unfold ins
    split
    · rw [bs_bal, bs_node]
      exact ih1.append_right _
    · rw [bs_bal, bs_node]
      refine ((ih2.cons k).append_left (bs l)).trans ?_
      have := List.perm_middle (l₁ := bs l ++ [k]) (a := K) (l₂ := bs r)
      simpa using this
theorem ins_mem (K : Nat) (x : E) (t : T) (y : E) : y ∈ ord (ins K x t) ↔ y = x ∨ y ∈ ord t := by
  induction t with
  | leaf => simp [ins, ord, nodes]
  | node k e l r ih1 ih2 =>
    unfold ins
    split
    · rw [ord_bal, ord_node, List.mem_append, List.mem_append, ih1]; simp only [List.mem_cons]; grind
    · rw [ord_bal, ord_node, List.mem_append, List.mem_append, List.mem_cons, List.mem_cons, ih2]; grind
abbrev Srt (l : List E) : Prop := l.Pairwise lt
theorem srt_mid {a b : List E} {e : E} : Srt (a ++ e :: b) ↔ Srt a ∧ Srt b ∧ (∀ y ∈ a, lt y e) ∧ (∀ y ∈ b, lt e y) ∧ (∀ y ∈ a, ∀ z ∈ b, lt y z) := by
  unfold Srt
  rw [List.pairwise_append, List.pairwise_cons]
  constructor
  · rintro ⟨h1, ⟨h2, h3⟩, h4⟩
    exact ⟨h1, h3, fun y hy => h4 y hy e (by simp), h2, fun y hy z hz => h4 y hy z (by simp [hz])⟩
  · rintro ⟨h1, h3, h5, h2, h6⟩
    refine ⟨h1, ⟨h2, h3⟩, fun y hy z hz => ?_⟩
    rcases List.mem_cons.1 hz with rfl | hz
    · exact h5 y hy
    · exact h6 y hy z hz
theorem ins_srt (K : Nat) (x : E) (t : T) (h : Srt (ord t)) (hx : x ∉ ord t) : Srt (ord (ins K x t)) := by
  induction t with
  | leaf => simp [ins, ord, nodes, Srt]
  | node k e l r ih1 ih2 =>
    rw [ord_node] at h hx
    obtain ⟨h1, h2, h3, h4, h5⟩ := srt_mid.1 h
    simp only [List.mem_append, List.mem_cons, not_or] at hx
    unfold ins
    split
    · rename_i hlt
      rw [ord_bal]
      refine srt_mid.2 ⟨ih1 h1 hx.1, h2, fun y hy => ?_, h4, fun y hy z hz => ?_⟩
      · rcases (ins_mem K x l y).1 hy with rfl | hy
        · exact hlt
        · exact h3 y hy
      · rcases (ins_mem K x l y).1 hy with rfl | hy
        · exact lt_trans hlt (h4 z hz)
        · exact h5 y hy z hz
    · rename_i hlt
      have hgt : lt e x := by
        rcases lt_tri x e with h | h | h
        · exact absurd h hlt
        · exact absurd h hx.2.1
        · exact h
      rw [ord_bal]
      refine srt_mid.2 ⟨h1, ih2 h2 hx.2.2, h3, fun y hy => ?_, fun y hy z hz => ?_⟩
      · rcases (ins_mem K x r y).1 hy with rfl | hy
        · exact hgt
        · exact h4 y hy
      · rcases (ins_mem K x r z).1 hz with rfl | hz
        · exact lt_trans (h3 y hy) hgt
        · exact h5 y hy z hz
/-- Asked for. -/
def hasT (x : E) : T → Bool
  | .leaf => false
  | .node _ e l r => if lt x e then hasT x l else if lt e x then hasT x r else true
theorem hasT_iff (x : E) (t : T) (h : Srt (ord t)) : hasT x t = true ↔ x ∈ ord t := by
  induction t with
  | leaf => simp [hasT, ord, nodes]
  | node k e l r ih1 ih2 =>
    rw [ord_node] at h ⊢
    obtain ⟨h1, h2, h3, h4, h5⟩ := srt_mid.1 h
    unfold hasT
    simp only [List.mem_append, List.mem_cons]
    split
    · rename_i hlt
      rw [ih1 h1]
      constructor
      · exact fun h => .inl h
      · rintro (h | rfl | h)
        · exact h
        · exact absurd hlt (lt_irrefl _)
        · exact absurd (h4 x h) (lt_asymm hlt)
    · rename_i hlt
      split
      · rename_i hgt
        rw [ih2 h2]
        constructor
        · exact fun h => .inr (.inr h)
        · rintro (h | rfl | h)
          · exact absurd (h3 x h) (lt_asymm hgt)
          · exact absurd hgt (lt_irrefl _)
          · exact h
      · rename_i hgt
        have he : x = e := by
          rcases lt_tri x e with h | h | h
          · exact absurd h hlt
          · exact h
          · exact absurd h hgt
        simp [he]
/-- The first. -/
def first : T → E
  | .leaf => ⟨0, 0, 0⟩
  | .node _ e l _ => if l.isLeaf then e else first l
theorem first_ord (k : Nat) (e : E) (l r : T) : ∃ L, ord (.node k e l r) = first (.node k e l r) :: L := by
  induction l generalizing k e r with
  | leaf => exact ⟨ord r, by simp [ord_node, ord_leaf, first, T.isLeaf]⟩
  | node k2 e2 l2 r2 ih1 ih2 =>
    obtain ⟨L, hL⟩ := ih1 k2 e2 r2
    refine ⟨L ++ e :: ord r, ?_⟩
    rw [ord_node, hL]
    rfl
/-- Removed. -/
def del (x : E) : T → T
  | .leaf => .leaf
  | .node k e l r =>
    if lt x e then bal k e (del x l) r
    else if lt e x then bal k e l (del x r)
    else if l.isLeaf then r
    else if r.isLeaf then l
    else bal k (first r) l (del (first r) r)
theorem isLeaf_eq {t : T} (h : t.isLeaf = true) : t = .leaf := by
  cases t with
  | leaf => rfl
  | node k e l r => simp [T.isLeaf] at h
theorem del_mem (x : E) (t : T) (h : Srt (ord t)) (hx : x ∈ ord t) (y : E) : y ∈ ord (del x t) ↔ y ∈ ord t ∧ y ≠ x := by
  induction t generalizing x y with
  | leaf => simp [ord, nodes] at hx
  | node k e l r ih1 ih2 =>
    rw [ord_node] at h hx
    obtain ⟨h1, h2, h3, h4, h5⟩ := srt_mid.1 h
    simp only [List.mem_append, List.mem_cons] at hx
    unfold del
    rw [ord_node]
    split
    · rename_i hlt
      have hxl : x ∈ ord l := by
        rcases hx with h | rfl | h
        · exact h
        · exact absurd hlt (lt_irrefl _)
        · exact absurd (h4 x h) (lt_asymm hlt)
      rw [ord_bal, List.mem_append, List.mem_append, ih1 x h1 hxl]
      simp only [List.mem_cons]
      constructor
      · rintro (⟨h, k⟩ | rfl | h)
        · exact ⟨.inl h, k⟩
        · exact ⟨.inr (.inl rfl), fun e => lt_irrefl _ (e ▸ hlt)⟩
        · exact ⟨.inr (.inr h), fun e => lt_asymm hlt (h4 x (e ▸ h))⟩
      · rintro ⟨h | rfl | h, k⟩
        · exact .inl ⟨h, k⟩
        · exact .inr (.inl rfl)
        · exact .inr (.inr h)
    · rename_i hlt
      split
      · rename_i hgt
        have hxr : x ∈ ord r := by
          rcases hx with h | rfl | h
          · exact absurd (h3 x h) (lt_asymm hgt)
          · exact absurd hgt (lt_irrefl _)
          · exact h
        rw [ord_bal, List.mem_append, List.mem_append, List.mem_cons, ih2 x h2 hxr]
        simp only [List.mem_cons]
        constructor
        · rintro (h | rfl | ⟨h, k⟩)
          · exact ⟨.inl h, fun e => lt_asymm hgt (h3 x (e ▸ h))⟩
          · exact ⟨.inr (.inl rfl), fun e => lt_irrefl _ (e ▸ hgt)⟩
          · exact ⟨.inr (.inr h), k⟩
        · rintro ⟨h | rfl | h, k⟩
          · exact .inl h
          · exact .inr (.inl rfl)
          · exact .inr (.inr ⟨h, k⟩)
      · rename_i hgt
        have he : x = e := by
          rcases lt_tri x e with h | h | h
          · exact absurd h hlt
          · exact h
          · exact absurd h hgt
        subst he
        have nl : ∀ y ∈ ord l, y ≠ x := fun y hy e => lt_irrefl x (e ▸ h3 y hy)
        have nr : ∀ y ∈ ord r, y ≠ x := fun y hy e => lt_irrefl x (by have := h4 y hy; rw [e] at this; exact this)
        split
        · rename_i hl
          rw [isLeaf_eq hl]
          simp only [ord_leaf, List.nil_append, List.mem_cons]
          exact ⟨fun h => ⟨.inr h, nr y h⟩, fun ⟨h, k⟩ => h.elim (fun h => absurd h k) id⟩
        · split
          · rename_i hl hr
            rw [isLeaf_eq hr]
            simp only [ord_leaf, List.mem_append, List.mem_cons, List.not_mem_nil, or_false]
            exact ⟨fun h => ⟨.inl h, nl y h⟩, fun ⟨h, k⟩ => h.elim id (fun h => absurd h k)⟩
          · rename_i hl hr
            have hf : first r ∈ ord r := by
              cases r with
              | leaf => simp [T.isLeaf] at hr
              | node k2 e2 l2 r2 => obtain ⟨L, hL⟩ := first_ord k2 e2 l2 r2; rw [hL]; simp
            rw [ord_bal, List.mem_append, List.mem_append, List.mem_cons, ih2 (first r) h2 hf]
            simp only [List.mem_cons]
            constructor
            · rintro (h | rfl | ⟨h, k⟩)
              · exact ⟨.inl h, nl y h⟩
              · exact ⟨.inr (.inr hf), nr _ hf⟩
              · exact ⟨.inr (.inr h), nr y h⟩
            · rintro ⟨h | rfl | h, k⟩
              · exact .inl h
              · exact absurd rfl k
              · by_cases hh : y = first r
                · exact .inr (.inl hh)
                · exact .inr (.inr ⟨h, hh⟩)
theorem del_srt (x : E) (t : T) (h : Srt (ord t)) (hx : x ∈ ord t) : Srt (ord (del x t)) := by
  induction t generalizing x with
  | leaf => simp [ord, nodes] at hx
  | node k e l r ih1 ih2 =>
    rw [ord_node] at h hx
    obtain ⟨h1, h2, h3, h4, h5⟩ := srt_mid.1 h
    simp only [List.mem_append, List.mem_cons] at hx
    unfold del
    split
    · rename_i hlt
      have hxl : x ∈ ord l := by
        rcases hx with h | rfl | h
        · exact h
        · exact absurd hlt (lt_irrefl _)
        · exact absurd (h4 x h) (lt_asymm hlt)
      rw [ord_bal]
      exact srt_mid.2 ⟨ih1 x h1 hxl, h2, fun y hy => h3 y ((del_mem x l h1 hxl y).1 hy).1, h4, fun y hy z hz => h5 y ((del_mem x l h1 hxl y).1 hy).1 z hz⟩
    · rename_i hlt
      split
      · rename_i hgt
        have hxr : x ∈ ord r := by
          rcases hx with h | rfl | h
          · exact absurd (h3 x h) (lt_asymm hgt)
          · exact absurd hgt (lt_irrefl _)
          · exact h
        rw [ord_bal]
        exact srt_mid.2 ⟨h1, ih2 x h2 hxr, h3, fun y hy => h4 y ((del_mem x r h2 hxr y).1 hy).1, fun y hy z hz => h5 y hy z ((del_mem x r h2 hxr z).1 hz).1⟩
      · split
        · exact h2
        · split
          · exact h1
          · rename_i hl hr
            cases r with
            | leaf => simp [T.isLeaf] at hr
            | node k2 e2 l2 r2 =>
              obtain ⟨L, hL⟩ := first_ord k2 e2 l2 r2
              have hf : first (.node k2 e2 l2 r2) ∈ ord (.node k2 e2 l2 r2) := by rw [hL]; simp
              rw [ord_bal]
              refine srt_mid.2 ⟨h1, ih2 _ h2 hf, fun y hy => h5 y hy _ hf, fun y hy => ?_, fun y hy z hz => h5 y hy z ((del_mem _ _ h2 hf z).1 hz).1⟩
              obtain ⟨m1, m2⟩ := (del_mem _ _ h2 hf y).1 hy
              rw [hL] at m1 h2
              rcases List.mem_cons.1 m1 with m1 | m1
              · exact absurd m1 m2
              · exact (List.pairwise_cons.1 h2).1 y m1
theorem del_deep (x : E) (t : T) (h : AVL t) : AVL (del x t) ∧ dep (del x t) ≤ dep t ∧ dep t ≤ dep (del x t) + 1 := by
  induction t generalizing x with
  | leaf => simp [del, AVL, dep]
  | node k e l r ih1 ih2 =>
    obtain ⟨h1, h2, hl, hr⟩ := h
    unfold del
    rw [dep_node]
    split
    · obtain ⟨a1, a2, a3⟩ := ih1 x hl
      obtain ⟨c1, c2, c3, c4⟩ := bal_deep k e (del x l) r a1 hr (by omega) (by omega)
      exact ⟨c1, by omega, by omega⟩
    · split
      · obtain ⟨a1, a2, a3⟩ := ih2 x hr
        obtain ⟨c1, c2, c3, c4⟩ := bal_deep k e l (del x r) hl a1 (by omega) (by omega)
        exact ⟨c1, by omega, by omega⟩
      · split
        · rename_i hh
          rw [isLeaf_eq hh] at h1 h2 ⊢
          simp only [dep] at *
          exact ⟨hr, by omega, by omega⟩
        · split
          · rename_i hh
            rw [isLeaf_eq hh] at h1 h2 ⊢
            simp only [dep] at *
            exact ⟨hl, by omega, by omega⟩
          · obtain ⟨a1, a2, a3⟩ := ih2 (first r) hr
            obtain ⟨c1, c2, c3, c4⟩ := bal_deep k (first r) l (del (first r) r) hl a1 (by omega) (by omega)
            exact ⟨c1, by omega, by omega⟩
theorem del_sub (x : E) (t : T) : List.Sublist (bs (del x t)) (bs t) := by
  induction t generalizing x with
  | leaf => simp [del]
  | node k e l r ih1 ih2 =>
    unfold del
    rw [bs_node]
    split
    · rw [bs_bal]; exact (ih1 x).append_right _
    · split
      · rw [bs_bal]; exact ((ih2 x).cons_cons k).append_left _
      · split
        · exact (List.sublist_cons_self k (bs r)).trans (List.sublist_append_right _ _)
        · split
          · exact List.sublist_append_left _ _
          · rw [bs_bal]; exact ((ih2 _).cons_cons k).append_left _
theorem del_sz (x : E) (t : T) (h : Srt (ord t)) (hx : x ∈ ord t) : sz (del x t) + 1 = sz t := by
  induction t generalizing x with
  | leaf => simp [ord, nodes] at hx
  | node k e l r ih1 ih2 =>
    rw [ord_node] at h hx
    obtain ⟨h1, h2, h3, h4, h5⟩ := srt_mid.1 h
    simp only [List.mem_append, List.mem_cons] at hx
    unfold del
    rw [sz_node]
    split
    · rename_i hlt
      have hxl : x ∈ ord l := by
        rcases hx with h | rfl | h
        · exact h
        · exact absurd hlt (lt_irrefl _)
        · exact absurd (h4 x h) (lt_asymm hlt)
      have := ih1 x h1 hxl
      rw [sz_bal]; omega
    · rename_i hlt
      split
      · rename_i hgt
        have hxr : x ∈ ord r := by
          rcases hx with h | rfl | h
          · exact absurd (h3 x h) (lt_asymm hgt)
          · exact absurd hgt (lt_irrefl _)
          · exact h
        have := ih2 x h2 hxr
        rw [sz_bal]; omega
      · split
        · rename_i hh
          rw [isLeaf_eq hh, sz_leaf]; omega
        · split
          · rename_i hh
            rw [isLeaf_eq hh, sz_leaf]
          · rename_i hl hr
            cases r with
            | leaf => simp [T.isLeaf] at hr
            | node k2 e2 l2 r2 =>
              obtain ⟨L, hL⟩ := first_ord k2 e2 l2 r2
              have := ih2 (first (.node k2 e2 l2 r2)) h2 (by rw [hL]; simp)
              rw [sz_bal]; omega
/-- Passed on. -/
def eachL (p q : Int) : T → List E
  | .leaf => []
  | .node k e l r => if endT (.node k e l r) ≤ p then [] else eachL p q l ++ (if q ≤ e.a then [] else (if p < e.b then [e] else []) ++ eachL p q r)
theorem endT_le (t : T) : ∀ e ∈ ord t, e.b ≤ endT t := by
  induction t with
  | leaf => simp [ord, nodes]
  | node k e l r ih1 ih2 =>
    intro y hy
    rw [ord_node, List.mem_append, List.mem_cons] at hy
    unfold endT
    cases l <;> cases r <;> simp only [T.isLeaf, if_true, Bool.false_eq_true, if_false, ord_leaf, List.not_mem_nil, false_or, or_false] at *
    · subst hy; exact Int.le_refl _
    · rcases hy with rfl | hy
      · omega
      · have := ih2 y hy; omega
    · rcases hy with hy | rfl
      · have := ih1 y hy; omega
      · omega
    · rcases hy with hy | rfl | hy
      · have := ih1 y hy; omega
      · omega
      · have := ih2 y hy; omega
def over (p q : Int) (e : E) : Bool := decide (e.a < q) && decide (p < e.b)
theorem eachL_eq (p q : Int) (t : T) (h : Srt (ord t)) : eachL p q t = (ord t).filter (over p q) := by
  induction t with
  | leaf => rfl
  | node k e l r ih1 ih2 =>
    rw [ord_node] at h
    obtain ⟨h1, h2, h3, h4, h5⟩ := srt_mid.1 h
    unfold eachL
    split
    · rename_i hh
      symm
      rw [List.filter_eq_nil_iff]
      intro y hy
      have := endT_le _ y hy
      simp [over]; omega
    · rw [ih1 h1, ih2 h2, ord_node, List.filter_append, List.filter_cons]
      congr 1
      split
      · rename_i hq
        rw [if_neg (by simp [over]; omega)]
        symm
        rw [List.filter_eq_nil_iff]
        intro y hy
        have := h4 y hy
        simp [over]
        unfold lt at this
        omega
      · rename_i hq
        have e1 : decide (e.a < q) = true := by simp; omega
        by_cases hp : p < e.b
        · rw [if_pos hp, if_pos (by simp [over, e1, hp])]; rfl
        · rw [if_neg hp, if_neg (by simp [over, e1, hp])]; rfl
/-- Sorted lists that hold the same are the same. -/
theorem srt_ext {a b : List E} (ha : Srt a) (hb : Srt b) (h : ∀ y, y ∈ a ↔ y ∈ b) : a = b := by
  induction a generalizing b with
  | nil =>
    cases b with
    | nil => rfl
    | cons y b => exact absurd ((h y).2 (by simp)) (by simp)
  | cons x a ih =>
    cases b with
    | nil => exact absurd ((h x).1 (by simp)) (by simp)
    | cons y b =>
      obtain ⟨a1, a2⟩ := List.pairwise_cons.1 ha
      obtain ⟨b1, b2⟩ := List.pairwise_cons.1 hb
      have hxy : x = y := by
        rcases List.mem_cons.1 ((h x).1 (by simp)) with e | e
        · exact e
        · rcases List.mem_cons.1 ((h y).2 (by simp)) with e2 | e2
          · exact e2.symm
          · exact absurd (b1 x e) (lt_asymm (a1 y e2))
      subst hxy
      congr 1
      refine ih a2 b2 fun z => ?_
      constructor
      · intro hz
        rcases List.mem_cons.1 ((h z).1 (by simp [hz])) with e | e
        · exact absurd (a1 z hz) (e ▸ lt_irrefl _)
        · exact e
      · intro hz
        rcases List.mem_cons.1 ((h z).2 (by simp [hz])) with e | e
        · exact absurd (b1 z hz) (e ▸ lt_irrefl _)
        · exact e
/-- How few entries a tree of this depth has. -/
def few : Nat → Nat
  | 0 => 0
  | 1 => 1
  | n + 2 => few (n + 1) + few n + 1
theorem few_mono (n : Nat) : few n ≤ few (n + 1) := by
  match n with
  | 0 => decide
  | 1 => decide
  | n + 2 =>
    have h1 : few (n + 1) ≤ few (n + 2) := few_mono (n + 1)
    have h2 := few_mono n
    show few (n + 1) + few n + 1 ≤ few (n + 2) + few (n + 1) + 1
    omega
theorem few_le {a b : Nat} (h : a ≤ b) : few a ≤ few b := by
  induction b with
  | zero => rw [Nat.le_zero.1 h]; exact Nat.le_refl _
  | succ b ih =>
    rcases Nat.lt_or_ge b a with h1 | h1
    · rw [show a = b + 1 by omega]; exact Nat.le_refl _
    · exact Nat.le_trans (ih h1) (few_mono b)
theorem few_sz (t : T) (h : AVL t) : few (dep t) ≤ sz t := by
  induction t with
  | leaf => simp [dep, few]
  | node k e l r ih1 ih2 =>
    obtain ⟨h1, h2, hl, hr⟩ := h
    have a := ih1 hl
    have b := ih2 hr
    rw [dep_node, sz_node]
    by_cases hz : max (dep l) (dep r) = 0
    · rw [hz]; simp [few]; omega
    · obtain ⟨m, hm⟩ : ∃ m, max (dep l) (dep r) = m + 1 := ⟨max (dep l) (dep r) - 1, by omega⟩
      rw [hm]
      show few (m + 1) + few m + 1 ≤ _
      by_cases hh : dep r ≤ dep l
      · have e1 : dep l = m + 1 := by omega
        rw [e1] at a
        have := few_le (show m ≤ dep r by omega)
        omega
      · have e1 : dep r = m + 1 := by omega
        rw [e1] at b
        have := few_le (show m ≤ dep l by omega)
        omega
theorem sz_lt (t : T) : sz t + 1 ≤ 2 ^ dep t := by
  induction t with
  | leaf => simp [sz, nodes, dep]
  | node k e l r ih1 ih2 =>
    rw [sz_node, dep_node, Nat.pow_succ]
    have h1 : 2 ^ dep l ≤ 2 ^ max (dep l) (dep r) := Nat.pow_le_pow_right (by decide) (by omega)
    have h2 : 2 ^ dep r ≤ 2 ^ max (dep l) (dep r) := Nat.pow_le_pow_right (by decide) (by omega)
    omega
theorem dep_small (t : T) (h : AVL t) (hs : sz t ≤ 1023) : dep t ≤ 14 := by
  by_cases hd : dep t ≤ 14
  · exact hd
  · have := few_le (show 15 ≤ dep t by omega)
    have h15 : few 15 = 1596 := by decide
    have := few_sz t h
    omega
/-- The binary digits of a number below 1024. -/
def nlen (n : Nat) : Nat := if n = 0 then 0 else Nat.log2 n + 1
theorem deep_yes (t : T) (h : AVL t) (hs : sz t ≤ 1023) : dep t ≤ 14 ∧ sz t + 1 ≤ 2 ^ dep t ∧ (sz t = 0 ∧ dep t = 0 ∨ 0 < sz t ∧ 2 * dep t ≤ 3 * nlen (sz t) + 2) := by
  have hd := dep_small t h hs
  refine ⟨hd, sz_lt t, ?_⟩
  have hf := few_sz t h
  cases t with
  | leaf => exact .inl ⟨rfl, rfl⟩
  | node k e l r =>
    right
    have hp : 0 < sz (.node k e l r) := by rw [sz_node]; omega
    refine ⟨hp, ?_⟩
    generalize dep (.node k e l r) = d at *
    generalize sz (.node k e l r) = s at *
    have key : ∀ j, 2 ^ j ≤ s → j + 1 ≤ nlen s := fun j hj => by
      unfold nlen
      rw [if_neg (by omega)]
      have := (Nat.le_log2 (n := s) (k := j) (by omega)).2 hj
      omega
    match d, hd, hf with
    | 0, _, _ => omega
    | 1, _, hf => have := key 0 (by simp [few] at hf; omega); omega
    | 2, _, hf => have := key 1 (by simp [few] at hf; omega); omega
    | 3, _, hf => have := key 2 (by simp [few] at hf; omega); omega
    | 4, _, hf => have := key 2 (by simp [few] at hf; omega); omega
    | 5, _, hf => have := key 3 (by simp [few] at hf; omega); omega
    | 6, _, hf => have := key 4 (by simp [few] at hf; omega); omega
    | 7, _, hf => have := key 5 (by simp [few] at hf; omega); omega
    | 8, _, hf => have := key 5 (by simp [few] at hf; omega); omega
    | 9, _, hf => have := key 6 (by simp [few] at hf; omega); omega
    | 10, _, hf => have := key 7 (by simp [few] at hf; omega); omega
    | 11, _, hf => have := key 7 (by simp [few] at hf; omega); omega
    | 12, _, hf => have := key 8 (by simp [few] at hf; omega); omega
    | 13, _, hf => have := key 9 (by simp [few] at hf; omega); omega
    | 14, _, hf => have := key 9 (by simp [few] at hf; omega); omega
    | d + 15, hd, _ => omega
end Itree
end Go.Proofs.Ytbifgmamjdniaaa
