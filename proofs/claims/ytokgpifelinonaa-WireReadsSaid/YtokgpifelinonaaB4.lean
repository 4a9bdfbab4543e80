/- The form of a string, for every one that has room. -/
import Derived.Test.YtokgpifelinonaaB3
namespace Go.Proofs.Ytokgpifelinonaa
open Go.RowKit
theorem call_CountString (s : ByteArray) (c : Int) (w : World) : (callFunc 62 #[.string s, .int .u8 c]).run Try.prog w = .ok (.value (.int .i64 (Lib.countByte s.data.toList c.toNat.toUInt8))) w := by
  rw [run_callFunc_extern Try.func62 (by kernel_rfl) (by kernel_rfl) (by kernel_rfl) (e := Extern.BytealgCount.count) (by kernel_rfl), Lib.run_countString]
  rfl
set_option maxRecDepth 100000 in
set_option maxHeartbeats 1000000 in
theorem Count_any (s : ByteArray) (w : World) :
    Calls Try.prog 46 #[.string s, .string ⟨#[0]⟩] w fun e w' => e = .returned (.int .i64 (Lib.countByte s.data.toList 0)) ∧ w = w' := by
  have hcs := call_CountString s 0
  have h0 : ((⟨#[0]⟩ : ByteArray)[0]'(by decide)) = 0 := by kernel_rfl
  go_enter Try.func46, Try.ntmps46
  go_wp2
  go_ret
  exact ⟨ret1 rfl, rfl⟩
theorem escT_count (l : List UInt8) : (escT l).length = l.length + Lib.countByte l 0 := by
  induction l with
  | nil => rfl
  | cons c l ih =>
    unfold Lib.countByte at ih ⊢
    simp only [escT, List.count_cons, List.length_cons]
    by_cases h : c = 0
    · subst h; simp [ih]; omega
    · simp [h, ih]; omega
/-- The first k bytes of a string. -/
def pre (s : ByteArray) (k : Nat) : List UInt8 := s.data.toList.take k
theorem pre_succ (s : ByteArray) (k : Nat) (h : k < s.size) : pre s (k + 1) = pre s k ++ [s[k]] := by
  unfold pre
  rw [List.take_succ_eq_append_getElem (by simpa using h)]; rfl
theorem esc_one (c : UInt8) : escT [c] = if c = 0 then [0, 255] else [c] := by simp [escT]
theorem esc_room (s : ByteArray) (k : Nat) (h : k < s.size) : (escT (pre s k)).length + (if s[k] = 0 then 2 else 1) ≤ (escT s.data.toList).length := by
  have e : s.data.toList = pre s k ++ ([s[k]] ++ s.data.toList.drop (k + 1)) := by
    rw [← List.append_assoc, ← pre_succ s k h]
    exact (List.take_append_drop (k + 1) s.data.toList).symm
  have e2 := congrArg (fun l => (escT l).length) e
  simp only [escT_append, List.length_append, esc_one] at e2
  rw [e2]
  split <;> simp <;> omega
theorem pre_all (s : ByteArray) : pre s s.size = s.data.toList := by unfold pre; rw [List.take_of_length_le (by simp)]
/-- What the loop of Text keeps. -/
def TextInv (w : World) (l : List UInt8) (s : ByteArray) (M k : Nat) (wr : World) : Prop :=
  wr.ownsRow w.heap.size 5 1 (.slice (some ⟨w.heap.size, 0, none⟩) (l.length + (escT (pre s k)).length) M) (l.length + (escT (pre s k)).length) (cellsB (l ++ escT (pre s k))) ∧ Below w.heap.size w wr
section
variable {w wr w3 : World} {l : List UInt8} {s : ByteArray} {M k E : Nat}
theorem TextInv.owns (h : TextInv w l s M k wr) (hE : E = l.length + (escT (pre s k)).length) : wr.ownsRow w.heap.size 5 1 (.slice (some ⟨w.heap.size, 0, none⟩) E M) E (cellsB (l ++ escT (pre s k))) := by
  rw [hE]; exact h.1
theorem TextInv.one {hlt : k < s.size} (HP : pre s (k + 1) = pre s k ++ [s[k]]) (hc : ¬ s[k] = 0) (hE : E = l.length + (escT (pre s k)).length)
    (h : w3.ownsRow w.heap.size 5 1 (.slice (some ⟨w.heap.size, 0, none⟩) (E + 1) M) (E + 1) (cellsB (l ++ escT (pre s k)) ++ [.int .u8 (s[k].toNat : Int)])) (hb : Below w.heap.size w w3) : TextInv w l s M (k + 1) w3 := by
  refine ⟨?_, hb⟩
  rw [HP, escT_append, esc_one, if_neg hc, ← List.append_assoc, cellsB_append (l ++ escT (pre s k))]
  have e : l.length + (escT (pre s k) ++ [s[k]]).length = E + 1 := by rw [hE]; simp; omega
  rw [e]
  exact h
theorem TextInv.two {hlt : k < s.size} (HP : pre s (k + 1) = pre s k ++ [s[k]]) (hc : s[k] = 0) (hE : E = l.length + (escT (pre s k)).length)
    (h : w3.ownsRow w.heap.size 5 1 (.slice (some ⟨w.heap.size, 0, none⟩) (E + 1 + 1) M) (E + 1 + 1) (cellsB (l ++ escT (pre s k)) ++ [.int .u8 (s[k].toNat : Int)] ++ [.int .u8 255])) (hb : Below w.heap.size w w3) : TextInv w l s M (k + 1) w3 := by
  refine ⟨?_, hb⟩
  rw [HP, escT_append, esc_one, if_pos hc, ← List.append_assoc, cellsB_append (l ++ escT (pre s k))]
  have e : l.length + (escT (pre s k) ++ [0, 255]).length = E + 1 + 1 := by rw [hE]; simp; omega
  rw [e]
  rw [hc, List.append_assoc] at h
  exact h
end
theorem new_two {w : World} {s : Nat} (x y : Value) (t : TypeId) (h : w.heap.size = s) : ∀ ad, some (⟨s, 0, none⟩ : Addr) = some ad → ∀ j u, [x, y][j]? = some u → (w.alloc (.cells #[x, y] t)).cell? (ad.add j) = some u := by
  intro ad e
  injection e with e
  subst e
  subst h
  exact World.news_of_block (heap_alloc_new w _)
theorem maxLen_le {a N : Nat} (h : a + N + 2 ≤ 140737488355328) : a ≤ 140737488355328 := by omega
set_option maxRecDepth 100000 in
set_option maxHeartbeats 1000000 in
theorem Text_any (A : Option Addr) (l : List UInt8) (cap : Nat) (s : ByteArray) (w : World) (hA : At w A l) (hz : A = none → cap = 0) (hm : l.length + (encText s.data.toList).length ≤ 140737488355328) :
    Calls Try.prog 24 #[.slice A l.length cap, .string s] w (Gives w (l ++ encText s.data.toList)) := by
  obtain ⟨i0, hi, hz0, hz1, hz2⟩ := info_parts info8
  have hlen : (encText s.data.toList).length = s.size + Lib.countByte s.data.toList 0 + 2 := by
    unfold encText
    rw [List.length_append, escT_count]
    simp
  rw [hlen] at hm
  obtain ⟨T, hT⟩ : ∃ T : Nat, T = s.size + Lib.countByte s.data.toList 0 + 2 := ⟨_, rfl⟩
  obtain ⟨N, hN⟩ : ∃ N : Nat, N = Lib.countByte s.data.toList 0 := ⟨_, rfl⟩
  have C1 := Lib.hid (fun w => Count_any s w)
  rw [← hN] at C1
  have C2 := Lib.hid (room_any A l cap T w hA hz (by omega))
  have hT2 : T = s.size + N + 2 := by omega
  have hle : s.size + N + 2 ≤ 140737488355328 := by omega
  have HE := Lib.hid (show (escT s.data.toList).length + 2 = T by rw [escT_count]; simpa using hT.symm)
  subst hT2
  clear hA hz hm hlen hT hN
  go_enter Try.func24, Try.ntmps24
  go_wp2_with (first
    | (go_at_call 46; ((with_reducible refine (C1.out _).mono ?_); rintro e w' ⟨rfl, rfl⟩))
    | (go_at_call 43; (refine (C2.out).mono ?_); rintro e w1 ⟨rfl, hown1, hb1⟩; have H1 := Lib.hid hown1; have B1 := Lib.hid hb1; have S1 := Lib.hid hb1.size; clear hown1 hb1))
  obtain ⟨M, hM⟩ : ∃ M : Nat, M = l.length + (s.size + N + 2) := ⟨_, rfl⟩
  have HM := Lib.hid hM
  rw [← hM] at H1
  rw [← hM]
  clear hM
  go_loopw [5, 17] (fun v i wr => ∃ k : Nat, k ≤ s.size ∧ i = .int .i64 k ∧ v = .slice (some ⟨w.heap.size, 0, none⟩) (l.length + (escT (pre s k)).length) M ∧ TextInv w l s M k wr) (fun _ i _ => s.size - (intOf i).toNat)
  case atStart => exact ⟨0, Nat.zero_le _, rfl, rfl, by simpa [pre, escT] using H1.out, B1.out⟩
  case round =>
    obtain ⟨k, hk, rfl, rfl, hI⟩ := hrel
    have HI := Lib.hid hI
    have S2 := Lib.hid hI.2.size
    clear hI
    by_cases hlt : k < s.size
    · have hroom := esc_room s k hlt
      have hME : (escT s.data.toList).length + 2 + l.length = M := by have := HE.out; have := HM.out; omega
      have HP := Lib.hid (pre_succ s k hlt)
      have hsz := maxLen_le hle
      obtain ⟨E, hE⟩ : ∃ E : Nat, E = l.length + (escT (pre s k)).length := ⟨_, rfl⟩
      have HEE := Lib.hid hE
      by_cases hc : s[k] = 0
      · rw [if_pos hc] at hroom
        have hb1 : E + 1 ≤ M := by omega
        have hb2 : E + 1 + 1 ≤ M := by omega
        rw [← hE]
        clear hroom hME hE
        have t1 : ((s[k].toNat : Int) == 0) = true := by rw [hc]; rfl
        have HC := Lib.hid hc
        clear hc
        go_wp2_with (first
          | (at_builtin; refine wpList_append_fits_any _ rfl (.tmp 20) (.tmp 24) _ rfl w.heap.size 5 i0 1 Try.underlying22 hi hz1 w.heap.size E M _ rfl ((HI.out.owns HEE.out).alloc _) _ 1 1 [.int .u8 (s[k].toNat : Int)] rfl rfl (fun h => by cases h) (new_one _ _ rfl) (one_cell _ _) hb1 ?_; intro w2 hown2 hg2; have H2 := Lib.hid hown2; have B2 := Lib.hid ((HI.out.2.alloc S2.out _).grown hg2 (Nat.le_trans S2.out (by simp)) (by simp)); have S3 := Lib.hid B2.out.size; clear hown2 hg2)
          | (at_builtin; refine wpList_append_fits_any _ rfl (.tmp 30) (.tmp 31) _ rfl w.heap.size 5 i0 1 Try.underlying22 hi hz1 w.heap.size (E + 1) M _ rfl (H2.out.alloc _) _ 1 1 [.int .u8 255] rfl rfl (fun h => by cases h) (new_one _ _ rfl) (one_cell _ _) hb2 ?_; intro w3 hown3 hg3; have H3 := Lib.hid hown3; have B3 := Lib.hid ((B2.out.alloc S3.out _).grown hg3 (Nat.le_trans S3.out (by simp)) (by simp)); clear hown3 hg3))
        exact ⟨⟨k + 1, by omega, by go_num, by rw [HP.out, escT_append, esc_one, if_pos HC.out, HEE.out]; simp [Nat.add_assoc], TextInv.two HP.out HC.out HEE.out H3.out B3.out⟩, by simp [intOf]; omega⟩
      · rw [if_neg hc] at hroom
        have hb1 : E + 1 ≤ M := by omega
        rw [← hE]
        clear hroom hME hE
        have t1 : ((s[k].toNat : Int) == 0) = false := by
          simp
          intro h
          exact hc (UInt8.toNat_inj.1 (by simpa using h))
        have HC := Lib.hid hc
        clear hc
        go_wp2_with (first
          | (at_builtin; refine wpList_append_fits_any _ rfl (.tmp 20) (.tmp 24) _ rfl w.heap.size 5 i0 1 Try.underlying22 hi hz1 w.heap.size E M _ rfl ((HI.out.owns HEE.out).alloc _) _ 1 1 [.int .u8 (s[k].toNat : Int)] rfl rfl (fun h => by cases h) (new_one _ _ rfl) (one_cell _ _) hb1 ?_; intro w2 hown2 hg2; have H2 := Lib.hid hown2; have B2 := Lib.hid ((HI.out.2.alloc S2.out _).grown hg2 (Nat.le_trans S2.out (by simp)) (by simp)); clear hown2 hg2))
        exact ⟨⟨k + 1, by omega, by go_num, by rw [HP.out, escT_append, esc_one, if_neg HC.out, HEE.out]; simp [Nat.add_assoc], TextInv.one HP.out HC.out HEE.out H2.out B2.out⟩, by simp [intOf]; omega⟩
    · obtain rfl : k = s.size := by omega
      have HPA := Lib.hid (pre_all s)
      rw [HPA.out]
      have HI2 := HI.out.1
      rw [HPA.out] at HI2
      have H0 := Lib.hid HI2
      clear HI2
      have hb1 : l.length + (escT s.data.toList).length + 2 ≤ M := by have := HE.out; have := HM.out; omega
      go_wp2_with (at_builtin; refine wpList_append_fits_any _ rfl _ _ _ rfl w.heap.size 5 i0 1 Try.underlying22 hi hz1 w.heap.size _ M _ rfl (H0.out.alloc _) _ 2 2 [.int .u8 0, .int .u8 0] rfl rfl (fun h => by cases h) (new_two _ _ _ rfl) (by simp [Value.oneCell']) hb1 ?_; intro w2 hown2 hg2; have H2 := Lib.hid hown2; have B2 := Lib.hid ((HI.out.2.alloc S2.out _).grown hg2 (Nat.le_trans S2.out (by simp)) (by simp)); clear hown2 hg2)
      go_ret
      refine Gives.mk (by simp [encText]; omega) ?_ B2.out
      have h := H2.out
      have e : cellsB (l ++ encText s.data.toList) = cellsB (l ++ escT s.data.toList) ++ [.int .u8 0, .int .u8 0] := by
        rw [encText, ← List.append_assoc, cellsB_append (l ++ escT s.data.toList)]
        rfl
      rw [e]
      exact h
end Go.Proofs.Ytokgpifelinonaa
