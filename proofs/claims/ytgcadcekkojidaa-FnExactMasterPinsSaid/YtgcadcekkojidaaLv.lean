/- A call that starts no goroutine, of a row that would let it: at its return there is nobody who could be left. No conditions. -/
import Derived.Test.YtgcadcekkojidaaRows
import Derived.Conc.Holds
import Derived.Leaving
import Derived.Handed
namespace Go.Proofs.Ytgcadcekkojidaa

theorem leave_of_handed {a : Assume} {C : Checked} {os : Os} {f : FuncId} {r : Reach} {Pre : World → Array Value → Prop} {Post : World → Array Value → Value → World → Prop}
    (h : ReturnsInHanded a C os f r Pre Post) : ReturnsInLeavingWide a C os f r Pre Post := fun enter =>
  ReturnsInOpen.mono (fun _ _ _ x => ⟨x.2.1, ⟨fun g hg => Leave.done _ g (eq_of_beq (List.all_eq_true.1 x.1.1 g hg)), x.1.2⟩, x.2.2⟩) (fun _ x => x) (h enter)

end Go.Proofs.Ytgcadcekkojidaa
