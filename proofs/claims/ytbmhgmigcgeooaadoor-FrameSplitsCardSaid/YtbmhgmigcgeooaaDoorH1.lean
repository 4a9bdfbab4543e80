/- The law's own call of Put. -/
import Derived.Test.YtbmhgmigcgeooaaDoorG5
import Derived.Test.YtbmhgmigcgeooaaDoorP7
namespace Go.Proofs.YtbmhgmigcgeooaaDoor
open Go.RowKit
theorem bytes_below (w : World) (s : ByteArray) : Below w.heap.size w (Lib.bytesWorld w 5 s) := ⟨rfl, rfl, rfl, by rw [Lib.bytesWorld_size]; omega, fun j hj => Lib.bytesWorld_at_old w _ s j hj⟩
theorem bytes_at (w : World) (s : ByteArray) (l : List UInt8) (hs : s.data.toList = l) : At (Lib.bytesWorld w 5 s) (some ⟨w.heap.size, 0, none⟩) l := by
  intro _
  refine ⟨w.heap.size, 0, rfl, by rw [Lib.bytesWorld_size]; omega, fun i hi => ?_⟩
  rw [Nat.zero_add, Lib.bytesWorld_cell w _ s i (by rw [← hs] at hi; simpa using hi), hs]
  rfl
/-- Put, of a string: a frame, laid. -/
def PutV (w : World) (f : Fr) (e : Ending) (w' : World) : Prop := ∃ v, e = .returned v ∧ Own1 w.heap.size w' v (putL f) ∧ Below w.heap.size w w'
set_option maxRecDepth 100000 in
theorem put_any (f : Fr) (h : f.ok) (s : ByteArray) (hs : s.data.toList = f.l) (w : World) (hE : Env w) :
    Calls Tryd.prog 21 #[.int .i64 (f.k : Int), .string s] w (PutV w f) := by
  have hc := Lib.run_convert_string_bytes (P := Tryd.prog) w 9 22 5 s Tryd.underlying9 Tryd.underlying22 Tryd.underlying5
  have hn : s.size = f.l.length := by rw [← hs]; simp
  have B1 := Lib.hid (bytes_below w s)
  rw [hn] at hc
  generalize grownCap w f.l.length 0 5 = cp at *
  have C := Lib.hid (Put_ok f h (some ⟨w.heap.size, 0, none⟩) cp _ (hE.below B1.out) (bytes_at w s f.l hs) (fun h => by cases h))
  clear h hs hE hn
  generalize Lib.bytesWorld w 5 s = W at *
  have HP : Hid (∀ v w', Own1 w.heap.size w' v (putL f) → Below w.heap.size w w' → PutV w f (.returned v) w') := Lib.hid fun v w' h1 h2 => ⟨v, rfl, h1, h2⟩
  generalize PutV w f = Post at *
  generalize f.l.length = n at *
  generalize f.k = k at *
  generalize putL f = pl at *
  go_enter Tryd.func21, Tryd.ntmps21
  go_wp2_with (first
    | (go_at_call 8; ((with_reducible refine (C.out).mono ?_); rintro e w2 ⟨g, c2, rfl, ho2, hb2⟩; have O2 := Lib.hid ho2; have B2 := Lib.hid (B1.out.trans (hb2.mono B1.out.size)); clear ho2 hb2))
    | fail)
  exact HP.out _ _ (ownsRow_down O2.out B1.out.size) B2.out
def fa : Fr := ⟨1, [97]⟩
def fb : Fr := ⟨2, [98]⟩
def fc : Fr := ⟨1, [99]⟩
theorem ok_a : fa.ok := by refine ⟨?_, ?_, ?_⟩ <;> simp [fa]
theorem ok_b : fb.ok := by refine ⟨?_, ?_, ?_⟩ <;> simp [fb]
theorem ok_c : fc.ok := by refine ⟨?_, ?_, ?_⟩ <;> simp [fc]
theorem put_a (w : World) (hE : Env w) : Calls Tryd.prog 21 #[.int .i64 1, .string ⟨#[97]⟩] w (PutV w fa) := put_any fa ok_a ⟨#[97]⟩ rfl w hE
theorem put_b (w : World) (hE : Env w) : Calls Tryd.prog 21 #[.int .i64 2, .string ⟨#[98]⟩] w (PutV w fb) := put_any fb ok_b ⟨#[98]⟩ rfl w hE
theorem put_c (w : World) (hE : Env w) : Calls Tryd.prog 21 #[.int .i64 1, .string ⟨#[99]⟩] w (PutV w fc) := put_any fc ok_c ⟨#[99]⟩ rfl w hE
theorem all_ab : putL fa ++ putL fb = allL [fa, fb] := by simp [allL]
theorem frames_ab : framesL (putL fa ++ putL fb ++ [1, 0]) = [fa, fb] := by
  rw [all_ab, frames_all [fa, fb] (by intro f hf; simp at hf; rcases hf with rfl | rfl; exact ok_a; exact ok_b) [1, 0], framesL_no (nextB_short (by decide))]
  rfl
theorem frames_abc : framesL (putL fa ++ putL fb ++ putL fc) = [fa, fb, fc] := by
  rw [show putL fa ++ putL fb ++ putL fc = allL [fa, fb, fc] by simp [allL]]
  exact frames_whole _ (by intro f hf; simp at hf; rcases hf with rfl | rfl | rfl; exact ok_a; exact ok_b; exact ok_c)
theorem groups_abc : groupsL [fa, fb, fc] [] = [⟨[[97]], [98]⟩] := by simp [groupsL, fa, fb, fc]
theorem Own1.made (base : Nat) (w : World) (h : base ≤ w.heap.size) : Own1 base (w.alloc (.cells #[] 5)) (.slice (some ⟨w.heap.size, 0, none⟩) 0 0) [] := World.ownsRow_made w #[] 0 h (Nat.zero_le _) rfl
theorem Own1.below {base : Nat} {w w' : World} {v : Value} {l : List UInt8} (h : Own1 base w v l) (hb : Below w.heap.size w w') : Own1 base w' v l := World.ownsRow.kept h (grown_of hb) (by cases hv : v.ownBlock <;> simp)
theorem Own1.plain {base : Nat} {w : World} {v : Value} {l : List UInt8} (h : Own1 base w v l) : ∃ A c, v = .slice A l.length c ∧ (A = none → c = 0) ∧ (∀ ad, A = some ad → ∃ bb off, ad = ⟨bb, off, none⟩) ∧ l.length ≤ c ∧ At w A l := by
  obtain ⟨A, c, hv, hz, hl, hA⟩ := h.at
  refine ⟨A, c, hv, hz, fun ad e => ?_, hl, hA⟩
  rcases h.2 with ⟨h1, _⟩ | ⟨g, cap, cur, h1, _⟩
  · rw [hv] at h1; injection h1 with h1; rw [h1] at e; cases e
  · rw [hv] at h1; injection h1 with h1; rw [h1] at e; cases e; exact ⟨_, _, rfl⟩
end Go.Proofs.YtbmhgmigcgeooaaDoor
