/- Texts in one: WorseI, WorseS, WorseT. -/
import Derived.Test.YtakkdpjgdmngkaaMP
import Derived.Test.YtakkdpjgdmngkaaMC
import Derived.Test.YtakkdpjgdmngkaaMF
import Derived.Deep.LoopGhost
namespace Go.Proofs.Ytakkdpjgdmngkaa
set_option linter.unusedSimpArgs false
set_option linter.unusedVariables false
open Go.RowKit



end Go.Proofs.Ytakkdpjgdmngkaa

namespace Go.Proofs.Ytakkdpjgdmngkaa
set_option linter.unusedSimpArgs false
set_option linter.unusedVariables false
open Go.RowKit

theorem news_of {w : World} {b off : Nat} {l : List Int} (hc : ∀ i, i < l.length → w.cell? ⟨b, off + i, none⟩ = some (.int .i64 (nth l i))) : ∀ j u, (vals l)[j]? = some u → w.cell? ((⟨b, off, none⟩ : Addr).add j) = some u := by
  intro j u hj
  have hlt : j < l.length := by
    have := (List.getElem?_eq_some_iff.1 hj).1; rwa [vals_length] at this
  rw [vals_get l j hlt] at hj
  injection hj with hj
  subst hj
  have e : (⟨b, off, none⟩ : Addr).add j = ⟨b, off + j, none⟩ := by
    by_cases e0 : j = 0
    · subst e0; simp [Addr.add]
    · simp [Addr.add, e0]
  rw [e]; exact hc j hlt

theorem vals_one {l : List Int} : ∀ u ∈ vals l, u.oneCell' = true := by
  intro u hu
  simp only [vals, List.mem_map] at hu
  obtain ⟨x, _, rfl⟩ := hu
  rfl

end Go.Proofs.Ytakkdpjgdmngkaa

namespace Go.Proofs.Ytakkdpjgdmngkaa
set_option linter.unusedSimpArgs false
set_option linter.unusedVariables false
open Go.RowKit

theorem OwnR.reads {w : World} {lo : Nat} {T : Option Addr} {g : List (List Int)} (h : OwnR w lo w.heap.size T g) : Rows2 w (· < w.heap.size) T g := h.rows2.mono fun b hb => hb.2

end Go.Proofs.Ytakkdpjgdmngkaa
