/- The walk of the exact law of SaddlesOf. -/
import Derived.Test.YtjojilimdhekfaaMark2
import Derived.Test.YtjojilimdhekfaaSaddleS
import Derived.Test.YtjojilimdhekfaaExactG
namespace Go.Proofs.Ytjojilimdhekfaa
set_option linter.unusedSimpArgs false
set_option linter.unusedVariables false
open Go.RowKit

theorem OwnI.below {w w' : World} {lo hi : Nat} {A : Option Addr} {l : List Int} (h : OwnI w lo hi A l) (hb : Below hi w w') : OwnI w' lo hi A l := h.keep fun b _ h2 => hb.block b h2

theorem OwnR.below {w w' : World} {lo hi : Nat} {A : Option Addr} {g : List (List Int)} (h : OwnR w lo hi A g) (hb : Below hi w w') : OwnR w' lo hi A g := h.keep fun b _ h2 => hb.block b h2

theorem OwnI.off {w w' : World} {lo hi lo' hi' : Nat} {A : Option Addr} {l : List Int} (h : OwnI w lo hi A l) (ho : Off lo' hi' w w') (hd : hi ≤ lo' ∨ hi' ≤ lo) : OwnI w' lo hi A l := h.keep fun b h1 h2 => ho.block b (by omega)

theorem OwnR.off {w w' : World} {lo hi lo' hi' : Nat} {A : Option Addr} {g : List (List Int)} (h : OwnR w lo hi A g) (ho : Off lo' hi' w w') (hd : hi ≤ lo' ∨ hi' ≤ lo) : OwnR w' lo hi A g := h.keep fun b h1 h2 => ho.block b (by omega)

theorem OwnI.lt {w : World} {lo hi : Nat} {A : Option Addr} {l : List Int} (h : OwnI w lo hi A l) : Ints w (· < hi) A l := h.ints.mono fun _ h => h.2

theorem OwnR.lt {w : World} {lo hi : Nat} {A : Option Addr} {g : List (List Int)} (h : OwnR w lo hi A g) : Rows2 w (· < hi) A g := h.rows2.mono fun _ h => h.2

end Go.Proofs.Ytjojilimdhekfaa
