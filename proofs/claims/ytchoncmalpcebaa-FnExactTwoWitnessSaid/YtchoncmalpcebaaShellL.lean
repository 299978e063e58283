
/-
  Of a law whose row says 'leaving', where the call starts no goroutine: what holds of the goroutine alone.
-/
import Derived.Test.YtchoncmalpcebaaShell
import Derived.Conc.Holds
namespace Go.Proofs.Ytchoncmalpcebaa
theorem leaving_of_alone {P : Program} {last : Machine} {w : World} {t : Trace} (h : aloneAtReturn P last w t) : leavingAtReturn P last w t :=
  ⟨h.2.1, ⟨fun g hg => ⟨0, by
    have h1 := h.1.1
    unfold Machine.othersDone at h1
    have := List.all_eq_true.1 h1 g hg
    show g.status = .finished
    exact eq_of_beq this⟩, h.1.2⟩, h.2.2⟩
theorem leavingOf {a : Assume} {C : Checked} {os : Os} {f : FuncId} {r : Reach} {Pre : World → Array Value → Prop} {Post : World → Array Value → Value → World → Prop} (h : ReturnsInHanded a C os f r Pre Post) : ReturnsInLeavingWide a C os f r Pre Post :=
  fun enter => ReturnsInOpen.mono (fun _ _ _ x => leaving_of_alone x) (fun _ x => x) (h enter)
end Go.Proofs.Ytchoncmalpcebaa
