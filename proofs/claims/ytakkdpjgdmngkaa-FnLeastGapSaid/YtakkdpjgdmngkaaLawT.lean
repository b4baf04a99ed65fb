/- The walks of the laws of TurnedOf and RoofOf. -/
import Derived.Test.YtakkdpjgdmngkaaMH
import Derived.Test.YtakkdpjgdmngkaaMG
namespace Go.Proofs.Ytakkdpjgdmngkaa
set_option linter.unusedSimpArgs false
set_option linter.unusedVariables false
open Go.RowKit

theorem small_max {n : Nat} (h : n ≤ 17) : n ≤ maxLen := by unfold maxLen; omega

theorem byte_len {w : World} {a : Option Addr} {len cap : Nat} {zs : List Int} (h : IsRow .u8 w a len cap zs) : len ≤ 9223372036854775807 := by
  rcases h with ⟨_, rfl, _, _⟩ | ⟨x, _, h1, h2, _⟩
  · omega
  · unfold maxLen at h2; omega

end Go.Proofs.Ytakkdpjgdmngkaa
