/-
  A call that starts no goroutine: from its contract to a row that says 'leaving'.
-/
import Derived.Conc.Holds
import Derived.Handed
import Derived.Leaving
namespace Go.Proofs.YtcpldcojckhapaaGreat
open Go.Conc
theorem leaving_of_handed {a : Assume} {C : Checked} {os : Os} {f : FuncId} {r : Reach} {Pre : World → Array Value → Prop} {Post : World → Array Value → Value → World → Prop}
    (h : ReturnsInHanded a C os f r Pre Post) : ReturnsInLeavingWide a C os f r Pre Post := fun e => by
  obtain ⟨h1, h2, h3, h4, h5⟩ := h e
  refine ⟨h1, h2, h3, h4, fun w tape i hf => ?_⟩
  obtain ⟨n, v, w', r1, r2, r3, r4, ⟨j, last, q1, q2, q3⟩, r6⟩ := h5 w tape i hf
  refine ⟨n, v, w', r1, r2, r3, r4, ⟨j, last, q1, q2, q3.2.1, ?_, q3.2.2⟩, r6⟩
  exact onlyLeaving_of_quiet q3.1
end Go.Proofs.YtcpldcojckhapaaGreat
