/-
  The law's expr, whatever the list.
-/
import Derived.Test.YtpnpjlggikdinaaTrE2
namespace Go.Proofs.Ytpnpjlggikdinaa
open Go.RowKit

theorem expr_at (N d : Nat) (hd : d ≤ 5) : ExprAt N d := by
  induction d with
  | zero =>
    intro l A cap w h hl hc hN hs
    cases l with
    | nil => exact expr_nil _ A cap hc w N
    | cons x r => exact expr_cons N 0 (by omega) x r A cap hl hc hs w hN h (fun h => absurd h (by omega))
  | succ d ih =>
    intro l A cap w h hl hc hN hs
    cases l with
    | nil => exact expr_nil _ A cap hc w N
    | cons x r => exact expr_cons N (d + 1) hd x r A cap hl hc hs w hN h (fun _ => ih (by omega))
end Go.Proofs.Ytpnpjlggikdinaa
