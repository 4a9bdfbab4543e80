/- What Append and Rename make of a disk's files. -/
import Derived.Test.YthnfpkbpakffgaaC1
import Derived.Deep.RegionLaw
namespace Go.Proofs.Ythnfpkbpakffgaa
open Go.RowKit Go.Maps Go.Sort Go.Shelf
open Disk (Nm Fl DS Up ins del upd fnd okName okByte used Wf createG appendG appendF syncG syncF renameG truncG cutF removeG)
theorem step_app {ops : Array Oper} {o : Oper} {a : Act} {K : Act → World → Prop} {Q : Exit → Act → World → Prop} {E : Prop} {w : World} (hg : o.guard = none) (s x : Operand) (ho : o.op = .call { callee := .builtin .append, args := #[s, x], argTypes := #[32, 32] })
    (base : Nat) (v : Value) (l : List UInt8) (hs : a.eval s = v) (h : w.ownsRow base 5 1 v l.length (cellsB l)) (A : Option Addr) (n c : Nat) (news : List UInt8) (hx : a.eval x = .slice A n c) (hn : news.length = n) (hA : At w A news) (hz : A = none → c = 0)
    (hm : l.length + news.length ≤ 140737488355328) (hb : base ≤ w.heap.size)
    (hK : ∀ v' w', w'.ownsRow base 5 1 v' (l ++ news).length (cellsB (l ++ news)) → w.grownBy w' v.ownBlock → (v'.ownBlock = v.ownBlock ∨ v'.ownBlock = some w.heap.size) → K (a.put o.dst v') w') :
    if Region.wanted o (yielded ops a.tmps) = true then Oper.wp Try.prog o a w K Q else E := by
  subst hn
  have hw : Region.wanted o (yielded ops a.tmps) = true := by simp [Region.wanted, hg]
  rw [if_pos hw]
  obtain ⟨v', w', h1, h2, h3, h4⟩ := run_app base w v l A c news o.type h hA hz hm hb
  unfold Oper.wp execOp
  simp only [ho, resolve, invoke, builtin, Sem.run_bind, Sem.run_pure, Result.andThen_ok, List.map_toArray, List.map_cons, List.map_nil, hs, hx, h1]
  exact hK v' w' h2 h3 h4
theorem own_form {w : World} {base N : Nat} {v : Value} {xs : List Value} (h : w.ownsRow base 5 1 v N xs) : ∃ A c, v = .slice A N c := by
  rcases h.2 with ⟨rfl, rfl⟩ | ⟨g, cap, cur, rfl, _⟩
  · exact ⟨_, _, rfl⟩
  · exact ⟨_, _, rfl⟩
theorem append_done {w w1 : World} {m : Nat} {C : List Ent} (h : IsC w m C) {e : Ent} (he : e ∈ C) {A2 : Option Addr} {cap2 N : Nat} {b : List UInt8} (hN : (e.bs ++ b).length = N)
    (o1 : w1.ownsRow 0 5 1 (.slice A2 N cap2) N (cellsB (e.bs ++ b))) (o2 : But (fun y => e.v.ownBlock = some y) w.drew w1) (o3 : (Value.slice A2 N cap2).ownBlock = e.v.ownBlock ∨ (Value.slice A2 N cap2).ownBlock = some w.drew.heap.size) :
    WroteC w m C (appendG e.nm b) (w1.setCell ⟨e.k, 0, none⟩ (.slice A2 N cap2)) := by
  have FI := (h.files e he).below (Below.refl _ _).drew
  have hk : e.k < w.heap.size := FI.lt
  have d3 := (o2.cell e.k 0 hk FI.ne).trans FI.c0
  have hnk : ∀ y, (Value.slice A2 N cap2).ownBlock = some y → y ≠ e.k := fun y hy hyk => by
    rcases o3 with h | h
    · exact FI.ne (by rw [← h, hy, hyk])
    · rw [hy] at h
      injection h with h
      have : w.drew.heap.size = w.heap.size := rfl
      omega
  subst hN
  have hf2 : FileAt (w1.setCell ⟨e.k, 0, none⟩ (.slice A2 (e.bs ++ b).length cap2)) ⟨e.nm, e.k, .slice A2 (e.bs ++ b).length cap2, e.bs ++ b, e.s⟩ :=
    ⟨World.cell?_setCell_same _ _ _ d3, (cell_other (by decide)).trans ((o2.cell e.k 1 hk FI.ne).trans FI.c1), fun o => (World.frozen?_setCell _ _ _ _).trans ((o2.frozen e.k o hk FI.ne).trans (FI.fr o)), Nat.lt_of_lt_of_le hk (by simpa [World.setCell] using o2.size),
      own_but o1 ((But.refl (fun y => y = e.k) w1).setk e.k 0 (.inl rfl) _) hnk, fun hy => hnk e.k hy rfl⟩
  have hw1 : But e.has w w1 := (But.refl e.has w).drew.trans (o2.sub fun y hy => .inr hy) fun y hy => .inl hy
  exact upd_done h he ⟨e.nm, e.k, .slice A2 (e.bs ++ b).length cap2, e.bs ++ b, e.s⟩ rfl rfl hf2 (hw1.setk e.k 0 (.inl (.inl rfl)) _) (fun y hy => by
    rcases hy with hy | hy
    · exact .inl (.inl hy)
    · rcases o3 with h | h
      · exact .inl (.inr (by rw [← h]; exact hy))
      · rw [show (Value.slice A2 (e.bs ++ b).length cap2).ownBlock = some y from hy] at h
        injection h with h
        have : w.drew.heap.size = w.heap.size := rfl
        exact .inr (by omega)) (appendF b) rfl
set_option maxRecDepth 100000 in
set_option maxHeartbeats 1000000 in
theorem append_step {w : World} {m : Nat} {C : List Ent} (h : IsC w m C) {e : Ent} (he : e ∈ C) (hl : e.bs.length ≤ 4194304) (bf bb : Nat) (A : Option Addr) (n cap : Nat) (b : List UInt8) (hn : b.length = n) (hb : b.length ≤ 4194304) (hA : At w A b) (hz : A = none → cap = 0) (hx : Box2 w bf bb (.pointer (some ⟨e.k, 0, none⟩)) (.slice A n cap)) (n1 : ¬ e.has bf) (n2 : ¬ e.has bb) :
    Calls Try.prog 39 #[.pointer (some ⟨bf, 0, none⟩), .pointer (some ⟨bb, 0, none⟩)] w fun r w' => r = .returned (.tuple #[]) ∧ WroteC w m C (appendG e.nm b) w' := by
  have hf := h.files e he
  have FI := Lib.hid (hf.below (Below.refl _ _).drew)
  have HA := Lib.hid (hA.below (Below.refl _ _).drew)
  have HN := Lib.hid hn
  have HL := Lib.hid (And.intro hl hb)
  have HX := Lib.hid (hx.below (Below.refl _ _).drew)
  have HE := Lib.hid (And.intro n1 n2)
  have H := Lib.hid (And.intro h he)
  obtain ⟨N, hN⟩ : ∃ N, (e.bs ++ b).length = N := ⟨_, rfl⟩
  have HLN := Lib.hid hN
  clear hN
  have k0 := hf.c0
  have k1 := hf.fr 0
  obtain ⟨c1, c2, _, _⟩ := hx
  have hF : ∃ A' c', e.v = .slice A' e.bs.length c' := by obtain ⟨A', c', h, _⟩ := own_slice hf.own; exact ⟨A', c', h⟩
  clear h he hf hl hb hn hA n1 n2
  go_enter Try.func39, Try.ntmps39
  go_upto_region 0 with fail
  go_region_law ((with_reducible refine step_app rfl (.tmp 6) (.tmp 7) rfl 0 e.v e.bs (by simp [Act.eval]) FI.out.own A n cap b (by simp [Act.eval]) HN.out HA.out hz (by have := HL.out; omega) (Nat.zero_le _) ?_); intro v' w1 h2 h3 h4; rw [HLN.out] at h2; obtain ⟨A2, cap2, hv2⟩ := own_form h2; subst hv2; have bb1 : But (fun y => e.v.ownBlock = some y) w.drew w1 := (But.refl _ _).grown h3 (fun y hy => .inl hy); have HX1 := HX.out.but bb1 (fun hy => HE.out.1 (.inr hy)) (fun hy => HE.out.2 (.inr hy)); have d1 := HX1.1; have d2 := HX1.2.1; have d3 := (bb1.cell e.k 0 FI.out.lt FI.out.ne).trans FI.out.c0; have d4 := (bb1.frozen e.k 0 FI.out.lt FI.out.ne).trans (FI.out.fr 0); have P1 := Lib.hid (And.intro h2 (And.intro bb1 h4)); clear h2 h3 h4 bb1 HX1)
  all_goals
    go_wp2_with fail
    go_end0
    obtain ⟨o1, o2, o3⟩ := P1.out
    exact ⟨rfl, append_done H.out.1 H.out.2 HLN.out o1 o2 o3⟩
end Go.Proofs.Ythnfpkbpakffgaa
