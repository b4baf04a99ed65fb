/- The landed chapter 3 keeps its contracts. (Written by wip/gen/impl3b.py.) -/
import Derived.Test.YtjojilimdhekfaaImplC
import Derived.Test.YtjojilimdhekfaaExactM
namespace Go.Proofs.Ytjojilimdhekfaa
set_option linter.unusedSimpArgs false
set_option linter.unusedVariables false
open Go.RowKit

theorem impl3 : Impl3 where
  mix A c l many hl w h := (mixOk_impl A c l many _ hl w h).mono fun _ _ => Same.adds
  avg := avg_impl
  safe := safe_impl
  risk := risk_impl
  set := set_impl
  best := best_impl

end Go.Proofs.Ytjojilimdhekfaa
