/- Rows of periods and words appended whole; the first 60 of a list; the law's own membership. -/
import Derived.Test.YtgjahnidjcfbiaaGreatDoorJ20
namespace Go.Proofs.YtgjahnidjcfbiaaGreatDoor
open Go.RowKit Go.Shelf Go.Lib
open Iset (nf has NF Res Wide NotL)
theorem cellsP_one (L : List (Int × Int)) : ∀ u ∈ cellsP L, u.oneCell' = true := by
  intro u hu
  simp only [cellsP, List.mem_flatMap, List.mem_cons, List.not_mem_nil, or_false] at hu
  obtain ⟨p, _, rfl | rfl⟩ := hu <;> rfl
theorem PAt.cells {w : World} {b off : Nat} {L : List (Int × Int)} (h : ∀ i (h : i < L.length), w.cell? ⟨b, off + i * 2, none⟩ = some (.int .u64 (L[i].1)) ∧ w.cell? ⟨b, off + i * 2 + 1, none⟩ = some (.int .u64 (L[i].2))) : ∀ j u, (cellsP L)[j]? = some u → w.cell? ((⟨b, off, none⟩ : Addr).add j) = some u := by
  intro j u hj
  rw [add_plain]
  have hl : j < (cellsP L).length := by
    by_cases e : j < (cellsP L).length
    · exact e
    · rw [List.getElem?_eq_none (by omega)] at hj
      cases hj
  rw [cellsP_length] at hl
  have hd : j / 2 < L.length := by omega
  have hc := cellsP_get L (j / 2) hd
  have hw := h (j / 2) hd
  have hm : j % 2 = 0 ∨ j % 2 = 1 := by omega
  rcases hm with hm | hm
  · have e : j / 2 * 2 = j := by omega
    rw [e] at hc hw
    rw [hw.1, ← hc.1, hj]
  · have e : j / 2 * 2 + 1 = j := by omega
    rw [e] at hc
    rw [show off + j / 2 * 2 + 1 = off + j by omega] at hw
    rw [hw.2, ← hc.2, hj]
/-- append of periods onto what the call owns. -/
theorem run_appPs (base : Nat) (w : World) (v : Value) (l : List (Int × Int)) (A : Option Addr) (c : Nat) (news : List (Int × Int)) (ty : TypeId) (h : OwnP base w v l) (hA : PAt w A news) (hz : A = none → c = 0)
    (hm : l.length + news.length ≤ 1000000000000) (hb : base ≤ w.heap.size) :
    ∃ v' w', (Builtin.append_ #[22, 22] ty #[v, .slice A news.length c]).run Tryz.prog w = .ok v' w' ∧ OwnP base w' v' (l ++ news) ∧ w.grownBy w' v.ownBlock := by
  obtain ⟨i0, hi, hz0, hz1, hz2⟩ := info_parts infoP
  have own : ∀ (ad : Addr), (∀ j u, (cellsP news)[j]? = some u → w.cell? (ad.add j) = some u) → ∃ v' w', (Builtin.append_ #[22, 22] ty #[v, .slice (some ad) news.length c]).run Tryz.prog w = .ok v' w' ∧ OwnP base w' v' (l ++ news) ∧ w.grownBy w' v.ownBlock := fun ad hcl => by
    obtain ⟨v', w', h1, h2, h3, _, _⟩ := run_append_own_at (P := Tryz.prog) w base 22 ty 29 i0 _ 2 16 Tryz.underlying22 hi hz0 hz1 hz2 rfl (by omega) v _ _ h ad news.length c (cellsP news) (by rw [cellsP_length]) hcl (cellsP_one news)
      (by unfold maxLen; omega) (by omega) hb
    exact ⟨v', w', h1, by rw [OwnP, cellsP_append, List.length_append]; exact h2, h3⟩
  rcases Nat.eq_zero_or_pos news.length with h0 | h0
  · obtain rfl := List.eq_nil_of_length_eq_zero h0
    cases A with
    | none =>
      obtain rfl := hz rfl
      exact ⟨v, w, run_append_owned_none (P := Tryz.prog) w base 22 ty 29 i0 2 Tryz.underlying22 hi v _ _ h, by simpa using h, World.grownBy.refl _ _⟩
    | some ad => exact own ad (fun j u hj => by simp [cellsP] at hj)
  · obtain ⟨b, off, rfl, _, hc⟩ := hA h0
    exact own _ (PAt.cells hc)
theorem wpList_appPs (w : World) {ops : Array Oper} {rest : List Oper} {o : Oper} {a : Act} {Q : Exit → Act → World → Prop} (hg : o.guard = none) (s x : Operand) (ho : o.op = .call { callee := .builtin .append, args := #[s, x], argTypes := #[22, 22] })
    (base : Nat) (v : Value) (l : List (Int × Int)) (hs : a.eval s = v) (h : OwnP base w v l) (A : Option Addr) (n c : Nat) (news : List (Int × Int)) (hx : a.eval x = .slice A n c) (hA : PAt w A news) (hz : A = none → c = 0) (hn : news.length = n)
    (hm : l.length + news.length ≤ 1000000000000) (hb : base ≤ w.heap.size)
    (hK : ∀ v' w', OwnP base w' v' (l ++ news) → Below base w w' → wpList Tryz.prog ops Q rest (a.put o.dst v') w') : wpList Tryz.prog ops Q (o :: rest) a w := by
  subst hn
  refine wpList_plain hg fun K hK' => ?_
  obtain ⟨v', w', h1, h2, h3⟩ := run_appPs base w v l A c news o.type h hA hz hm hb
  unfold Oper.wp execOp
  simp only [ho, resolve, invoke, builtin, Sem.run_bind, Sem.run_pure, Result.andThen_ok, List.map_toArray, List.map_cons, List.map_nil, hs, hx, h1]
  exact hK' _ _ (hK v' w' h2 ((Below.refl _ _).grown h3 hb fun k hk => (World.ownsRow.lt h k hk).1))
set_option maxRecDepth 100000 in
theorem cut_any (A : Option Addr) (c : Nat) (L : List (Int × Int)) (w : World) (hA : PAt w A L) (hz : A = none → c = 0) (hc : L.length ≤ c) (hw : Wide L) :
    Calls Tryz.prog 4 #[.slice A L.length c] w fun e w' => ∃ v, e = .returned v ∧ SetAt w' v (L.take 60) 60 ∧ Below w.heap.size w w' := by
  obtain ⟨n, hn⟩ : ∃ n : Nat, min L.length 60 = n := ⟨_, rfl⟩
  have hi : min (L.length : Int) 60 = (n : Int) := by omega
  have hj : n ≤ c := by omega
  have hl : (L.take 60).length = n := by rw [List.length_take]; omega
  have HA := Lib.hid (hA.take 60)
  have HZ := Lib.hid hz
  have HL := Lib.hid hl
  have HW : Hid (Wide (L.take 60)) := Lib.hid fun p hp => hw p (List.mem_of_mem_take hp)
  have hn60 : n ≤ 60 := by omega
  clear hA hz hc hl hn hw
  go_enter Tryz.func4, Tryz.ntmps4
  go_wp2_with (at_builtin; refine wpList_appPs _ rfl _ (.tmp 7) rfl w.heap.size (.slice none 0 0) [] rfl (OwnP.nil _ _) A n c (L.take 60) rfl HA.out HZ.out HL.out (by rw [HL.out]; simp; omega) (Nat.le_refl _) ?_; intro v1 w1 ho1 hb1; have HO := Lib.hid ho1; have HB := Lib.hid hb1; clear ho1 hb1)
  go_ret
  exact ⟨v1, rfl, ⟨HO.out.at, HW.out, by rw [HL.out]; exact hn60⟩, HB.out⟩
end Go.Proofs.YtgjahnidjcfbiaaGreatDoor
