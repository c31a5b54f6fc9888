/-
  Calls that could start goroutines and start none: what is handed over alone is also left so.
-/
import Derived.Test.YtkekanllfpdeaabGen
import Derived.Conc.Holds
import Derived.Leaving
namespace Go.Proofs.Ytkekanllfpdeaab
open Go

theorem leaving_of_handed {a : Assume} {C : Checked} {os : Os} {f : FuncId} {r : Reach} {Pre : World → Array Value → Prop} {Post : World → Array Value → Value → World → Prop} (h : ReturnsInHanded a C os f r Pre Post) : ReturnsInLeavingWide a C os f r Pre Post := fun enter => by
  obtain ⟨h1, h2, h3, h4, h5⟩ := h enter
  refine ⟨h1, h2, h3, h4, fun w tape i hf => ?_⟩
  obtain ⟨n, v, w', e1, e2, e3, e4, ⟨j, last, g1, g2, hq, hho, heh⟩, e6⟩ := h5 w tape i hf
  exact ⟨n, v, w', e1, e2, e3, e4, ⟨j, last, g1, g2, hho, onlyLeaving_of_quiet hq, heh⟩, e6⟩
end Go.Proofs.Ytkekanllfpdeaab
