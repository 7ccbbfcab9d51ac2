/-
  Laws over tables: the frame over both contracts. (Made by a generator.)
-/
import Derived.Test.YtjielcilcningaaTB11
import Derived.Test.YtjielcilcningaaQPick
import Derived.Test.YtjielcilcningaaQTail
namespace Go.Proofs.Ytjielcilcningaa
open Go.ChangeShapes Go.WideShapes Go.ChangeAt Go.RowKit

theorem TabO.shape2 {B : Nat} {w : World} {v u : Value} {S : List Hd} {F : List Int} (h : TabO B w v u S F) : ∃ a c b d, v = .slice a S.length c ∧ u = .slice b F.length d ∧ Hds w a S ∧ Ints w b F ∧ F.length ≤ d := by
  obtain ⟨a, c, rfl, h1, _⟩ := own_hds h.hds
  obtain ⟨b, d, rfl, h2⟩ := ints_of_row h.ints
  obtain ⟨_, d', e, h3⟩ := ownT_shape h.ints
  simp only [Value.slice.injEq] at e
  exact ⟨a, c, b, d, rfl, rfl, h1, h2, by rw [e.2.2]; exact h3⟩

end Go.Proofs.Ytjielcilcningaa
