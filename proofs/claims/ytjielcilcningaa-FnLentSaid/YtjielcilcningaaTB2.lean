/-
  Tables in memory: copied, compared, counted; read as they come in.
-/
import Derived.Test.YtjielcilcningaaTB1
namespace Go.Proofs.Ytjielcilcningaa
open Go.ChangeShapes Go.WideShapes Go.ChangeAt Go.RowKit

theorem iv_len (L : List Int) : (iv L).length = L.length := by simp [iv]

/-- A table as a value. -/
def tabV (a : Option Addr) (n c : Nat) (b : Option Addr) (m d : Nat) : Value := .agg #[.slice a n c, .slice b m d]
/-- What a table has that came in. -/
structure IsTab (w : World) (a b : Option Addr) (S : List Hd) (F : List Int) : Prop where
  hds : Hds w a S
  ints : Ints w b F
  lS : S.length ≤ 9223372036854775807
  lF : F.length ≤ 9223372036854775807
  okS : ∀ h ∈ S, (-9223372036854775808 ≤ h.r ∧ h.r ≤ 9223372036854775807) ∧ (-9223372036854775808 ≤ h.p ∧ h.p ≤ 9223372036854775807) ∧ (-9223372036854775808 ≤ h.l ∧ h.l ≤ 9223372036854775807) ∧ (-9223372036854775808 ≤ h.s ∧ h.s ≤ 9223372036854775807)
  okF : ∀ x ∈ F, -9223372036854775808 ≤ x ∧ x ≤ 9223372036854775807
/-- The two rows of a table, each in a block of its own from B on. -/
structure TabO (B : Nat) (w : World) (v u : Value) (S : List Hd) (F : List Int) : Prop where
  hds : w.ownsRow B 28 6 v S.length (hv S)
  ints : w.ownsRow B 3 1 u F.length (iv F)
theorem TabO.below {B : Nat} {w w' : World} {v u : Value} {S : List Hd} {F : List Int} (h : TabO B w v u S F) (hb : Below w.heap.size w w') : TabO B w' v u S F := ⟨ownT_kept h.hds hb, ownT_kept h.ints hb⟩
theorem TabO.base {B B' : Nat} {w : World} {v u : Value} {S : List Hd} {F : List Int} (h : TabO B w v u S F) (hb : B' ≤ B) : TabO B' w v u S F := ⟨ownT_base h.hds hb, ownT_base h.ints hb⟩
theorem TabO.shape {B : Nat} {w : World} {v u : Value} {S : List Hd} {F : List Int} (h : TabO B w v u S F) : ∃ a c b d, v = .slice a S.length c ∧ u = .slice b F.length d ∧ Hds w a S ∧ Ints w b F := by
  obtain ⟨a, c, rfl, h1, _⟩ := own_hds h.hds
  obtain ⟨b, d, rfl, h2⟩ := ints_of_row h.ints
  exact ⟨a, c, b, d, rfl, rfl, h1, h2⟩
theorem TabO.same {B : Nat} {w w' : World} {v u : Value} {S : List Hd} {F : List Int} (h : TabO B w v u S F) (hs : ∀ g, B ≤ g → g < w.heap.size → w'.heap[g]? = w.heap[g]?) : TabO B w' v u S F :=
  ⟨own_keep h.hds (fun g hg => hs g (h.hds.lt g hg).1 (h.hds.lt g hg).2), own_keep h.ints (fun g hg => hs g (h.ints.lt g hg).1 (h.ints.lt g hg).2)⟩

end Go.Proofs.Ytjielcilcningaa
