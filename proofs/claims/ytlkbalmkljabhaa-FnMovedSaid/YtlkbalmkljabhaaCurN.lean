/-
  What is drawn for memories that are stored into.
-/
import Derived.Test.YtlkbalmkljabhaaCurM
import Derived.Test.YtlkbalmkljabhaaCurD
namespace Go.Proofs.Ytlkbalmkljabhaa
open Go.RowKit

theorem Bys.alloc {w : World} {a : Option Addr} {n : Nat} (h : Bys w a n w.heap.size) (o : Obj) : Bys (w.alloc o) a n (w.alloc o).heap.size := fun hn => by
  obtain ⟨b, off, e, hl, hc⟩ := (h.below ((Below.refl _ _).alloc (Nat.le_refl _) o)) hn
  exact ⟨b, off, e, by simp; omega, hc⟩

end Go.Proofs.Ytlkbalmkljabhaa
