/- What the closed runs of package value ask of the world, out of the row's condition; and the walk of ValueTotal under it. -/
import Derived.Test.YtbpakmiopmgmbaaGreatDoorD1
import Derived.Test.YtbpakmiopmgmbaaGreatDoorO1
import Derived.Test.YtbpakmiopmgmbaaGreatDoorV7
import Derived.Test.YtbpakmiopmgmbaaGreatDoorT12
namespace Go.Proofs.YtbpakmiopmgmbaaGreatDoor
open Go.RowKit
theorem env_u10_0 {W : World} (h : laidMetH Tryz.prog listed W) : W.cell? ⟨2, 0, none⟩ = some (.int .u64 1) := by
  obtain ⟨g, t, cs, fuel, p, hg, ht, hv, hd⟩ := laid_var h f_u10 (by kernel_rfl)
  obtain rfl := Option.some.inj (n_u10.symm.trans hg)
  obtain rfl := Option.some.inj (t_u10.symm.trans ht)
  have := array_int Tryz.underlying111 Tryz.underlying50 (by kernel_rfl) (i := 0) (z := 1) (by decide) hd (by kernel_rfl)
  rw [World.var?_cell hg hv 0]
  simpa using this
theorem env_f10_2 {W : World} (h : laidMetH Tryz.prog listed W) : ∃ a : Addr, a.block < W.heap.size ∧ W.cell? ⟨16, 0, none⟩ = some (.slice (some a) 23 23) ∧ W.cell? ⟨a.block, a.off + 2, none⟩ = some (.float .f64 4636737291354636288) := by
  obtain ⟨g, t, cs, fuel, p, hg, ht, hv, hd⟩ := laid_var h f_f10 (by kernel_rfl)
  obtain rfl := Option.some.inj (n_f10.symm.trans hg)
  obtain rfl := Option.some.inj (t_f10.symm.trans ht)
  rcases Deep.open_slice1 Tryz.underlying217 (by kernel_rfl) hd with ⟨_, hx⟩ | ⟨a, len, cap, m, n, V, D, Pl, hcs, hb, hl, hm, hmm, hx, hel⟩
  · have := (Prod.mk.inj hx).1
    simp [Rows.laid_internal_strconv_float64pow10] at this
  · have e1 := (Prod.mk.inj hx).1
    unfold Rows.laid_internal_strconv_float64pow10 at e1
    obtain ⟨e2, e3⟩ := DataW.slice.inj e1
    have l1 : 23 = len := by simpa using congrArg List.length e2
    have l2 : 0 = m - len := by simpa using congrArg List.length e3
    rw [if_pos rfl] at hmm
    have hc : cap = 23 := by omega
    subst l1 hc hmm
    obtain ⟨h1, h2⟩ := hel 2 (by omega)
    have hD : D 2 = .lit (.float .f64 4636737291354636288) := by
      have := congrArg (·[2]?) e2
      simp at this
      exact this.symm
    rw [hD] at h2
    have hV : V 2 = .float .f64 4636737291354636288 := trod_float Tryz.underlying22 h2
    rw [hV] at h1
    have hadd : a.add 2 = ⟨a.block, a.off + 2, none⟩ := by unfold Addr.add; rw [if_neg (by decide)]
    rw [hadd] at h1
    refine ⟨a, ?_, ?_, h1⟩
    · exact block_lt h1
    · rw [World.var?_cell hg hv 0]
      have : cs.toList[0]? = some (.slice (some a) 23 23) := by rw [hcs]; rfl
      simpa using this
theorem env2_of {W : World} (h : laidMetH Tryz.prog listed W) : Env2 W := ⟨env_of h, env_u10_0 h, env_f10_2 h⟩
end Go.Proofs.YtbpakmiopmgmbaaGreatDoor
