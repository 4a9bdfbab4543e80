/- value.quoted: the text of every Str. -/
import Derived.Test.YtbpakmiopmgmbaaGreatDoorV10
import Derived.Test.YtbpakmiopmgmbaaGreatDoorS3
namespace Go.Proofs.YtbpakmiopmgmbaaGreatDoor
open Go.RowKit
def hexC (n : Int) : Int := if n < 10 then 48 + n else 87 + n
/-- A byte's letters in a text. -/
def escB (c : Int) : List Int := if c = 34 ∨ c = 92 then [92, c] else if c < 32 ∨ 126 < c then [92, 120, hexC (c / 16), hexC (c % 16)] else [c]
def numsOf (s : ByteArray) : List Int := s.data.toList.map fun b => (b.toNat : Int)
def quoteTo (l : List Int) : List Int := 34 :: l.flatMap escB
theorem escB_len (c : Int) : (escB c).length ≤ 4 := by unfold escB; split <;> (try split) <;> simp
theorem quoteTo_len (l : List Int) : (quoteTo l).length ≤ 1 + 4 * l.length := by
  unfold quoteTo
  induction l with
  | nil => simp
  | cons c l ih =>
    have := escB_len c
    simp only [List.length_cons, List.flatMap_cons, List.length_append] at *
    omega
theorem quoteTo_snoc (l : List Int) (c : Int) : quoteTo (l ++ [c]) = quoteTo l ++ escB c := by
  unfold quoteTo; simp [List.flatMap_append]
theorem numsOf_take (s : ByteArray) (k : Nat) (h : k < s.size) : (numsOf s).take (k + 1) = (numsOf s).take k ++ [(s[k].toNat : Int)] := by
  have hl : k < (numsOf s).length := by unfold numsOf; simpa using h
  rw [List.take_succ_eq_append_getElem hl]
  congr 2
  simp [numsOf]
  rfl
theorem q_step {w wr w1 : World} {s : ByteArray} {k : Nat} {c : Int} {g cp m : Nat} {v1 : Value} {news : List Value} {o : Obj} (hlt : k < s.size) (hc : (s[k].toNat : Int) = c)
    (hb : Below w.heap.size w wr) (hown : wr.ownsRow w.heap.size 5 1 (.slice (some ⟨g, 0, none⟩) (quoteTo ((numsOf s).take k)).length cp) (quoteTo ((numsOf s).take k)).length ((quoteTo ((numsOf s).take k)).map (Value.int .u8)))
    (hown1 : w1.ownsRow w.heap.size 5 1 v1 ((quoteTo ((numsOf s).take k)).length + m) ((quoteTo ((numsOf s).take k)).map (Value.int .u8) ++ news))
    (hg : (wr.alloc o).grownBy w1 (Value.slice (some ⟨g, 0, none⟩) (quoteTo ((numsOf s).take k)).length cp).ownBlock) (hn : v1 = .slice none 0 0 ↔ Value.slice (some ⟨g, 0, none⟩) (quoteTo ((numsOf s).take k)).length cp = .slice none 0 0 ∧ m = 0)
    (hm : m = (escB c).length) (hnews : news = (escB c).map (Value.int .u8)) :
    (∃ g c, v1 = .slice (some ⟨g, 0, none⟩) (quoteTo ((numsOf s).take (k + 1))).length c) ∧ w1.ownsRow w.heap.size 5 1 v1 (quoteTo ((numsOf s).take (k + 1))).length ((quoteTo ((numsOf s).take (k + 1))).map (Value.int .u8)) ∧ Below w.heap.size w w1 := by
  have e : quoteTo ((numsOf s).take (k + 1)) = quoteTo ((numsOf s).take k) ++ escB c := by rw [numsOf_take s k hlt, quoteTo_snoc, hc]
  have el : (quoteTo ((numsOf s).take (k + 1))).length = (quoteTo ((numsOf s).take k)).length + m := by rw [e, List.length_append, hm]
  have em : (quoteTo ((numsOf s).take (k + 1))).map (Value.int .u8) = (quoteTo ((numsOf s).take k)).map (Value.int .u8) ++ news := by rw [e, List.map_append, hnews]
  rw [el, em]
  have hgb : w.heap.size ≤ g := by
    rcases hown.2 with ⟨h, _⟩ | ⟨g', cap', cur', h, hge, _⟩
    · cases h
    · have : g = g' := by simpa using (Value.slice.inj h).1
      omega
  refine ⟨?_, hown1, (hb.alloc hb.size o).grown hg (by have := hb.size; simp; omega) (fun j hj => by
    have : g = j := by simpa [Value.ownBlock] using hj
    omega)⟩
  rcases hown1.2 with ⟨h, _⟩ | ⟨g', cap', _, h, _⟩
  · have := (hn.1 h).1
    cases this
  · exact ⟨g', cap', h⟩
theorem q_hex {w wr w1 : World} {s : ByteArray} {k : Nat} {c : Int} {g cp m g1 c1 : Nat} {news : List Value} {o : Obj} (hlt : k < s.size) (hc : (s[k].toNat : Int) = c)
    (hb : Below w.heap.size w wr) (hown : wr.ownsRow w.heap.size 5 1 (.slice (some ⟨g, 0, none⟩) (quoteTo ((numsOf s).take k)).length cp) (quoteTo ((numsOf s).take k)).length ((quoteTo ((numsOf s).take k)).map (Value.int .u8)))
    (hown1 : w1.ownsRow w.heap.size 5 1 (.slice (some ⟨g1, 0, none⟩) ((quoteTo ((numsOf s).take k)).length + m) c1) ((quoteTo ((numsOf s).take k)).length + m) ((quoteTo ((numsOf s).take k)).map (Value.int .u8) ++ news))
    (hg : (wr.alloc o).drew.grownBy w1 (Value.slice (some ⟨g, 0, none⟩) (quoteTo ((numsOf s).take k)).length cp).ownBlock)
    (hm : m = (escB c).length) (hnews : news = (escB c).map (Value.int .u8)) :
    (∃ g' c', Value.slice (some ⟨g1, 0, none⟩) ((quoteTo ((numsOf s).take k)).length + m) c1 = .slice (some ⟨g', 0, none⟩) (quoteTo ((numsOf s).take (k + 1))).length c') ∧ w1.ownsRow w.heap.size 5 1 (.slice (some ⟨g1, 0, none⟩) ((quoteTo ((numsOf s).take k)).length + m) c1) (quoteTo ((numsOf s).take (k + 1))).length ((quoteTo ((numsOf s).take (k + 1))).map (Value.int .u8)) ∧ Below w.heap.size w w1 := by
  have e : quoteTo ((numsOf s).take (k + 1)) = quoteTo ((numsOf s).take k) ++ escB c := by rw [numsOf_take s k hlt, quoteTo_snoc, hc]
  have el : (quoteTo ((numsOf s).take (k + 1))).length = (quoteTo ((numsOf s).take k)).length + m := by rw [e, List.length_append, hm]
  have em : (quoteTo ((numsOf s).take (k + 1))).map (Value.int .u8) = (quoteTo ((numsOf s).take k)).map (Value.int .u8) ++ news := by rw [e, List.map_append, hnews]
  rw [el, em]
  have hgb : w.heap.size ≤ g := by
    rcases hown.2 with ⟨h, _⟩ | ⟨g', cap', cur', h, hge, _⟩
    · cases h
    · have : g = g' := by simpa using (Value.slice.inj h).1
      omega
  exact ⟨⟨g1, c1, rfl⟩, hown1, ((hb.alloc hb.size o).drew).grown hg (by have := hb.size; simp; omega) (fun j hj => by
    have : g = j := by simpa [Value.ownBlock] using hj
    omega)⟩
theorem hex_at (n : Int) (h0 : 0 ≤ n) (h1 : n < 16) (w : World) : (Instr.index 9 (.string ⟨#[48, 49, 50, 51, 52, 53, 54, 55, 56, 57, 97, 98, 99, 100, 101, 102]⟩) (.int .u8 n)).run Tryz.prog w = .ok (.int .u8 (hexC n)) w := by
  have e : n = 0 ∨ n = 1 ∨ n = 2 ∨ n = 3 ∨ n = 4 ∨ n = 5 ∨ n = 6 ∨ n = 7 ∨ n = 8 ∨ n = 9 ∨ n = 10 ∨ n = 11 ∨ n = 12 ∨ n = 13 ∨ n = 14 ∨ n = 15 := by omega
  rcases e with h | h | h | h | h | h | h | h | h | h | h | h | h | h | h | h
  all_goals
    subst h
    refine (show _ = _ from ?_)
    kernel_rfl
theorem conv_own {w1 : World} {B g c : Nat} {zs : List Int} (h : w1.ownsRow B 5 1 (.slice (some ⟨g, 0, none⟩) zs.length c) zs.length (zs.map (Value.int .u8))) :
    (convert 66 9 (.slice (some ⟨g, 0, none⟩) zs.length c)).run Tryz.prog w1 = .ok (.string (strOfNums zs)) w1 := by
  refine run_convert_bytes_arg w1 66 5 (by kernel_rfl) (by kernel_rfl) g 0 zs.length c zs rfl ?_ 9 (by kernel_rfl)
  intro i hi
  have hu : (zs.map (Value.int .u8))[i]? = some (.int .u8 zs[i]) := by simp [hi]
  have t := h.cells (g := g) rfl i _ hu
  have e2 : zs.getD i 0 = zs[i] := by simp [List.getD, hi]
  rw [e2, Nat.zero_add, ← t]
  unfold Addr.add
  by_cases h2 : i = 0 <;> simp [h2]
theorem q_end {w wr w1 : World} {l : List Int} {g cp : Nat} {v1 : Value} {o : Obj}
    (hb : Below w.heap.size w wr) (hown : wr.ownsRow w.heap.size 5 1 (.slice (some ⟨g, 0, none⟩) l.length cp) l.length (l.map (Value.int .u8)))
    (hown1 : w1.ownsRow w.heap.size 5 1 v1 (l.length + 1) (l.map (Value.int .u8) ++ [.int .u8 34]))
    (hg : (wr.alloc o).grownBy w1 (Value.slice (some ⟨g, 0, none⟩) l.length cp).ownBlock) (hn : v1 = .slice none 0 0 ↔ Value.slice (some ⟨g, 0, none⟩) l.length cp = .slice none 0 0 ∧ 1 = 0) :
    ∃ g1 c1, v1 = .slice (some ⟨g1, 0, none⟩) (l.length + 1) c1 ∧ (convert 66 9 (.slice (some ⟨g1, 0, none⟩) (l.length + 1) c1)).run Tryz.prog w1 = .ok (.string (strOfNums (l ++ [34]))) w1 ∧ Below w.heap.size w w1 := by
  have hgb : w.heap.size ≤ g := by
    rcases hown.2 with ⟨h, _⟩ | ⟨g', cap', cur', h, hge, _⟩
    · cases h
    · have : g = g' := by simpa using (Value.slice.inj h).1
      omega
  have hB := (hb.alloc hb.size o).grown hg (by have := hb.size; simp; omega) (fun j hj => by
    have : g = j := by simpa [Value.ownBlock] using hj
    omega)
  rcases hown1.2 with ⟨h, _⟩ | ⟨g', cap', _, h, _⟩
  · have := (hn.1 h).2
    cases this
  · subst h
    refine ⟨g', cap', rfl, ?_, hB⟩
    have k : w1.ownsRow w.heap.size 5 1 (.slice (some ⟨g', 0, none⟩) (l ++ [34]).length cap') (l ++ [34]).length ((l ++ [34]).map (Value.int .u8)) := by simpa using hown1
    have c := conv_own k
    simpa using c
theorem u8_low (c : Int) (h0 : 0 ≤ c) (h1 : c ≤ 255) : bits .and .u8 c 15 = c % 16 := by
  obtain ⟨n, rfl⟩ := Int.eq_ofNat_of_zero_le h0
  have : ∀ n : Fin 256, bits .and .u8 ((n.val : Nat) : Int) 15 = ((n.val : Nat) : Int) % 16 := by decide +kernel
  exact this ⟨n, by omega⟩
set_option maxRecDepth 100000 in
set_option maxHeartbeats 4000000 in
theorem quoted_any (s : ByteArray) (w : World) (hs : s.size ≤ 1000) :
    Calls Tryz.prog 40 #[.string s] w fun e w' => e = .returned (.string (strOfNums (quoteTo (numsOf s) ++ [34]))) ∧ Below w.heap.size w w' := by
  obtain ⟨i0, hi, hz0, hz1, hz2⟩ := info_parts uint8_info
  have hown0 : (w.alloc (.cells #[.int .u8 34] 5)).ownsRow w.heap.size 5 1 (.slice (some ⟨w.heap.size, 0, none⟩) 1 1) 1 [.int .u8 34] :=
    ⟨by simp, .inr ⟨w.heap.size, 1, #[.int .u8 34], rfl, Nat.le_refl _, heap_alloc_new w _, Nat.le_refl _, by unfold maxLen; omega, by simp, by simp⟩⟩
  have HO := Lib.hid hown0
  clear hown0
  go_enter Tryz.func40, Tryz.ntmps40
  go_wp2
  go_loopw [3, 9] (fun v i wr => ∃ (k : Nat), k ≤ s.size ∧ i = .int .i64 k ∧ (∃ g c, v = .slice (some ⟨g, 0, none⟩) (quoteTo ((numsOf s).take k)).length c) ∧ wr.ownsRow w.heap.size 5 1 v (quoteTo ((numsOf s).take k)).length ((quoteTo ((numsOf s).take k)).map (Value.int .u8)) ∧ Below w.heap.size w wr) (fun _ i _ => s.size - (intOf i).toNat)
  case atStart => exact ⟨0, Nat.zero_le _, rfl, ⟨w.heap.size, 1, rfl⟩, HO.out, (Below.refl _ _).alloc (Nat.le_refl _) _⟩
  case round =>
    obtain ⟨k, hk, rfl, ⟨g, cp, rfl⟩, hown, hb⟩ := hrel
    have hql := quoteTo_len ((numsOf s).take k)
    have hnl : ((numsOf s).take k).length ≤ k := List.length_take_le _ _
    have hbs := hb.size
    by_cases hlt : k < s.size
    · obtain ⟨c, hc⟩ : ∃ c : Int, (s[k].toNat : Int) = c := ⟨_, rfl⟩
      have hc0 : 0 ≤ c ∧ c ≤ 255 := by have := s[k].toNat_lt; omega
      obtain ⟨hc0, hc1⟩ := hc0
      by_cases h1 : c = 34 ∨ c = 92
      · have HX := Lib.hid h1
        by_cases h2 : c = 34
        · have t1 : (c == 34) = true := by simp [h2]
          clear h1 h2
          go_wp2_with (at_builtin; refine wpList_append_own _ rfl (.tmp 26) (.tmp 28) 66 rfl w.heap.size 5 i0 (.int .u8 0) 1 1 Tryz.underlying66 hi hz0 hz1 hz2 rfl (by decide) (.slice (some ⟨g, 0, none⟩) (quoteTo ((numsOf s).take k)).length cp) (quoteTo ((numsOf s).take k)).length ((quoteTo ((numsOf s).take k)).map (Value.int .u8)) rfl (hown.alloc _) ⟨wr.heap.size, 0, none⟩ 2 2 [.int .u8 92, .int .u8 c] rfl rfl (World.news_of_block (heap_alloc_new wr _)) (by simp [Value.oneCell']) (by unfold maxLen; omega) (by omega) (by simp; omega) ?_; intro v1 w1 hown1 hgrow1 hnil1)
          refine ⟨⟨k + 1, by omega, by go_num, ?_⟩, by simp [intOf]; omega⟩
          exact q_step hlt hc hb hown hown1 hgrow1 hnil1 (by unfold escB; simp [HX.out]) (by unfold escB; simp [HX.out])
        · have t1 : (c == 34) = false := by simp [h2]
          have t2 : (c == 92) = true := by simp; omega
          clear h1 h2
          go_wp2_with (at_builtin; refine wpList_append_own _ rfl (.tmp 26) (.tmp 28) 66 rfl w.heap.size 5 i0 (.int .u8 0) 1 1 Tryz.underlying66 hi hz0 hz1 hz2 rfl (by decide) (.slice (some ⟨g, 0, none⟩) (quoteTo ((numsOf s).take k)).length cp) (quoteTo ((numsOf s).take k)).length ((quoteTo ((numsOf s).take k)).map (Value.int .u8)) rfl (hown.alloc _) ⟨wr.heap.size, 0, none⟩ 2 2 [.int .u8 92, .int .u8 c] rfl rfl (World.news_of_block (heap_alloc_new wr _)) (by simp [Value.oneCell']) (by unfold maxLen; omega) (by omega) (by simp; omega) ?_; intro v1 w1 hown1 hgrow1 hnil1)
          refine ⟨⟨k + 1, by omega, by go_num, ?_⟩, by simp [intOf]; omega⟩
          exact q_step hlt hc hb hown hown1 hgrow1 hnil1 (by unfold escB; simp [HX.out]) (by unfold escB; simp [HX.out])
      · have t1 : (c == 34) = false := by simp; omega
        have t2 : (c == 92) = false := by simp; omega
        by_cases h3 : c < 32 ∨ 126 < c
        · have HX := Lib.hid (And.intro h1 h3)
          have hlow := u8_low c hc0 hc1
          have hx1 := hex_at (c / 16) (by omega) (by omega)
          have hx2 := hex_at (c % 16) (by omega) (by omega)
          by_cases h4 : c < 32
          · have t3 : decide (c < 32) = true := by simp [h4]
            clear h1 h3 h4
            go_upto_region 10 with (fail)
            go_region_held3 (fun w' => True) (trivial) ((refine step_append_lies _ (by rfl) _ _ _ (by rfl) w.heap.size 5 i0 _ 1 1 Tryz.underlying66 hi hz0 hz1 hz2 rfl (by omega) (.slice (some ⟨g, 0, none⟩) (quoteTo ((numsOf s).take k)).length cp) (quoteTo ((numsOf s).take k)).length ((quoteTo ((numsOf s).take k)).map (Value.int .u8)) (by rfl) ((hown.alloc _).drew) ⟨wr.heap.size, 0, none⟩ 4 4 [.int .u8 92, .int .u8 120, .int .u8 (hexC (c / 16)), .int .u8 (hexC (c % 16))] (by rfl) (by rfl) (World.news_of_block (cs := #[.int .u8 92, .int .u8 120, .int .u8 (hexC (c / 16)), .int .u8 (hexC (c % 16))]) (t := 5) (fr := (0, 0)) (heap_alloc_new wr _)) (by simp [Value.oneCell']) (by omega) (by unfold maxLen; omega) (by omega) (by simp; omega) (wr.heap.size + 1) (by simp) ?_; intro g1 c1 w1 hown1 hgrow1 hat hlt1))
            all_goals
              go_wp2
              refine ⟨⟨k + 1, by omega, by go_num, ?_⟩, by simp [intOf]; omega⟩
              exact q_hex hlt hc hb hown hown1 hgrow1 (by unfold escB; rw [if_neg HX.out.1, if_pos HX.out.2]; rfl) (by unfold escB; rw [if_neg HX.out.1, if_pos HX.out.2]; rfl)
          · have t3 : decide (c < 32) = false := by simp; omega
            have t4 : decide (126 < c) = true := by simp; omega
            clear h1 h3 h4
            go_upto_region 10 with (fail)
            go_region_held3 (fun w' => True) (trivial) ((refine step_append_lies _ (by rfl) _ _ _ (by rfl) w.heap.size 5 i0 _ 1 1 Tryz.underlying66 hi hz0 hz1 hz2 rfl (by omega) (.slice (some ⟨g, 0, none⟩) (quoteTo ((numsOf s).take k)).length cp) (quoteTo ((numsOf s).take k)).length ((quoteTo ((numsOf s).take k)).map (Value.int .u8)) (by rfl) ((hown.alloc _).drew) ⟨wr.heap.size, 0, none⟩ 4 4 [.int .u8 92, .int .u8 120, .int .u8 (hexC (c / 16)), .int .u8 (hexC (c % 16))] (by rfl) (by rfl) (World.news_of_block (cs := #[.int .u8 92, .int .u8 120, .int .u8 (hexC (c / 16)), .int .u8 (hexC (c % 16))]) (t := 5) (fr := (0, 0)) (heap_alloc_new wr _)) (by simp [Value.oneCell']) (by omega) (by unfold maxLen; omega) (by omega) (by simp; omega) (wr.heap.size + 1) (by simp) ?_; intro g1 c1 w1 hown1 hgrow1 hat hlt1))
            all_goals
              go_wp2
              refine ⟨⟨k + 1, by omega, by go_num, ?_⟩, by simp [intOf]; omega⟩
              exact q_hex hlt hc hb hown hown1 hgrow1 (by unfold escB; rw [if_neg HX.out.1, if_pos HX.out.2]; rfl) (by unfold escB; rw [if_neg HX.out.1, if_pos HX.out.2]; rfl)
        · have HX := Lib.hid (And.intro h1 h3)
          have t3 : decide (c < 32) = false := by simp; omega
          have t4 : decide (126 < c) = false := by simp; omega
          clear h1 h3
          go_wp2_with (at_builtin; refine wpList_append_own _ rfl (.tmp 15) (.tmp 17) 66 rfl w.heap.size 5 i0 (.int .u8 0) 1 1 Tryz.underlying66 hi hz0 hz1 hz2 rfl (by decide) (.slice (some ⟨g, 0, none⟩) (quoteTo ((numsOf s).take k)).length cp) (quoteTo ((numsOf s).take k)).length ((quoteTo ((numsOf s).take k)).map (Value.int .u8)) rfl (hown.alloc _) ⟨wr.heap.size, 0, none⟩ 1 1 [.int .u8 c] rfl rfl (World.news_of_block (heap_alloc_new wr _)) (by simp [Value.oneCell']) (by unfold maxLen; omega) (by omega) (by simp; omega) ?_; intro v1 w1 hown1 hgrow1 hnil1)
          refine ⟨⟨k + 1, by omega, by go_num, ?_⟩, by simp [intOf]; omega⟩
          exact q_step hlt hc hb hown hown1 hgrow1 hnil1 (by unfold escB; simp [HX.out]) (by unfold escB; simp [HX.out])
    · obtain rfl : k = s.size := by omega
      have hall : (numsOf s).take s.size = numsOf s := List.take_of_length_le (by unfold numsOf; simp)
      rw [hall] at hown hql hnl
      have HA := Lib.hid hall
      clear hall
      have hlen : s.size = ((numsOf s).length) := by unfold numsOf; simp
      rw [HA.out]
      go_wp2_with (at_builtin; refine wpList_append_own _ rfl (.tmp 47) (.tmp 48) 66 rfl w.heap.size 5 i0 (.int .u8 0) 1 1 Tryz.underlying66 hi hz0 hz1 hz2 rfl (by decide) (.slice (some ⟨g, 0, none⟩) (quoteTo (numsOf s)).length cp) (quoteTo (numsOf s)).length ((quoteTo (numsOf s)).map (Value.int .u8)) rfl (hown.alloc _) ⟨wr.heap.size, 0, none⟩ 1 1 [.int .u8 34] rfl rfl (World.news_of_block (heap_alloc_new wr _)) (by simp [Value.oneCell']) (by unfold maxLen; omega) (by omega) (by simp; omega) ?_; intro v1 w1 hown1 hgrow1 hnil1; obtain ⟨g1, c1, rfl, hcv, hbw⟩ := q_end hb hown hown1 hgrow1 hnil1)
      go_ret
      exact ⟨rfl, hbw⟩
end Go.Proofs.YtbpakmiopmgmbaaGreatDoor
