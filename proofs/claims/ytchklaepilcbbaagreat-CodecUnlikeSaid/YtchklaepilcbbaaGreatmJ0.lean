/- Reading batches in plain words: a row of operations, one behind the other; a whole batch. -/
import Derived.Test.YtchklaepilcbbaaGreatmY2
namespace Go.Proofs.YtchklaepilcbbaaGreat
open Go.RowKit
/-- What has been read of a row of N operations. -/
def OpsRead (N : Nat) (b0 : Bool) (L0 : List UInt8) (os : List OP) (b : Bool) (L : List UInt8) : Prop :=
  (b = false → b0 = false ∧ L0 = encOps os ++ L) ∧
    ∀ (ys : List OP) (r : List UInt8), ys.length = N → (∀ y ∈ ys, y.may ∧ y.wide) → b0 = false → L0 = encOps ys ++ r → os = ys.take os.length ∧ b = false ∧ L = encOps (ys.drop os.length) ++ r
theorem OpsRead.start (N : Nat) (b0 : Bool) (L0 : List UInt8) : OpsRead N b0 L0 [] b0 L0 :=
  ⟨fun h => ⟨h, rfl⟩, fun _ _ _ _ hb hL => ⟨rfl, hb, hL⟩⟩
theorem OpsRead.step {N : Nat} {b0 b b' : Bool} {L0 L L' : List UInt8} {os : List OP} {o : OP} (h : OpsRead N b0 L0 os b L) (hn : os.length < N) (hr : ReadsO b L o b' L') : OpsRead N b0 L0 (os ++ [o]) b' L' := by
  constructor
  · intro hb
    obtain ⟨h1, h2⟩ := hr.1 hb
    obtain ⟨h3, h4⟩ := h.1 h1
    refine ⟨h3, ?_⟩
    rw [h4, h2, encOps_append, encOps_cons, encOps_nil, List.append_nil, List.append_assoc]
  · intro ys r hl hy hb hL
    obtain ⟨h1, h2, h3⟩ := h.2 ys r hl hy hb hL
    have hlt : os.length < ys.length := by omega
    have e : ys.drop os.length = ys[os.length] :: ys.drop (os.length + 1) := List.drop_eq_getElem_cons hlt
    rw [e, encOps_cons, List.append_assoc] at h3
    obtain ⟨h4, h5, h6⟩ := hr.2 ys[os.length] _ (hy _ (List.getElem_mem hlt)) h2 h3
    rw [List.length_append, List.length_cons, List.length_nil]
    refine ⟨?_, h5, h6⟩
    rw [Nat.zero_add, List.take_succ_eq_append_getElem hlt, ← h1, h4]
/-- A batch. -/
def BP.wide (x : BP) : Prop := x.number < 18446744073709551616 ∧ x.stamp < 18446744073709551616 ∧ ∀ o ∈ x.ops, o.wide
abbrev ReadsB := Reads BP.enc (fun x => x.may ∧ x.wide)
theorem reads_batch {bad b1 b2 b3 b4 : Bool} {L L1 L2 L3 L4 : List UInt8} {N : Nat} (x : BP) (hn : Reads encNum (fun n => n ≤ 1073741824) bad L x.number b1 L1) (hs : Reads encNum (fun n => n ≤ 1099511627776) b1 L1 x.stamp b2 L2)
    (hk : Reads encNum (fun n => n ≤ 256) b2 L2 N b3 L3) (ho : OpsRead N b3 L3 x.ops b4 L4) (hend : b4 = true ∨ x.ops.length = N) : ReadsB bad L x b4 L4 := by
  constructor
  · intro h
    have he : x.ops.length = N := by
      rcases hend with e | e
      · rw [h] at e; cases e
      · exact e
    obtain ⟨h1, e1⟩ := ho.1 h
    obtain ⟨h1, e2⟩ := hk.1 h1
    obtain ⟨h1, e3⟩ := hs.1 h1
    obtain ⟨h1, e4⟩ := hn.1 h1
    refine ⟨h1, ?_⟩
    rw [e4, e3, e2, e1]
    simp [BP.enc, he]
  · intro y r hy hb hL
    obtain ⟨⟨m1, m2, m3, m4, m5, m6⟩, _, _, wy⟩ := hy
    obtain ⟨k1, k2, k3⟩ := hn.2 y.number (encNum y.stamp ++ (encNum y.ops.length ++ (encOps y.ops ++ r))) m2 hb (by rw [hL]; simp [BP.enc])
    obtain ⟨k4, k5, k6⟩ := hs.2 y.stamp (encNum y.ops.length ++ (encOps y.ops ++ r)) (by omega) k2 k3
    obtain ⟨k7, k8, k9⟩ := hk.2 y.ops.length (encOps y.ops ++ r) m5 k5 k6
    obtain ⟨k10, k11, k12⟩ := ho.2 y.ops r k7.symm (fun o h => ⟨m6 o h, wy o h⟩) k8 k9
    have he : x.ops.length = N := by
      rcases hend with e | e
      · rw [k11] at e; cases e
      · exact e
    have e1 : x.ops = y.ops := by rw [k10, List.take_of_length_le (by omega)]
    rw [List.drop_of_length_le (by omega)] at k12
    exact ⟨BP.eq k1 k4 e1, k11, k12⟩
end Go.Proofs.YtchklaepilcbbaaGreat
