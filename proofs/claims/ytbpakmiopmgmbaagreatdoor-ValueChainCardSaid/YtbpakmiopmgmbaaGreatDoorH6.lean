/- ValueChain's walk under what the row lists. -/
import Derived.Test.YtbpakmiopmgmbaaGreatDoorE1
import Derived.Test.YtbpakmiopmgmbaaGreatDoorH2
namespace Go.Proofs.YtbpakmiopmgmbaaGreatDoor
open Go.RowKit
theorem chain_env (xk : Int) (xb : Bool) (xn : Int) (xf : Nat) (xs : ByteArray) (yk : Int) (yb : Bool) (yn : Int) (yf : Nat) (ys : ByteArray) (zk : Int) (zb : Bool) (zn : Int) (zf : Nat) (zs : ByteArray)
    (w : World) (ha : WideV xk xn xf xs) (hb : WideV yk yn yf ys) (hc : WideV zk zn zf zs) (h : Env2 w) :
    Calls Tryz.prog 4 #[vagg xk xb xn xf xs, vagg yk yb yn yf ys, vagg zk zb zn zf zs] w fun e w' => e = .returned (.bool true) ∧ Below w.heap.size w w' :=
  chain_walk xk xb xn xf xs yk yb yn yf ys zk zb zn zf zs w ha hb hc fun wc k => wakes_any wc (h.below k)
end Go.Proofs.YtbpakmiopmgmbaaGreatDoor
