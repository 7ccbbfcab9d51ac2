/-
  The walks of the functions that tell a point's bytes.
-/
import Derived.Test.YthboenlfcolinaaDoorPMath
import Derived.Test.YthboenlfcolinaaDoorOwn
import Derived.Test.YthboenlfcolinaaDoorPoints
namespace Go.Proofs.YthboenlfcolinaaDoor
open Go.ChangeShapes Go.WideShapes Go.ChangeAt Go.RowKit

/-- The block of these bytes. -/
def byteBlock (l : List UInt8) : Obj := .cells (bv l).toArray 5
theorem block1 (a : Int) (x : Nat) (h : a = x) (hx : x < 256) : (Obj.cells #[.int .u8 a] 5 : Obj) = byteBlock [.ofNat x] := by
  subst h; simp only [byteBlock, bv, List.map, byte_val x hx]
theorem block2 (a b : Int) (x y : Nat) (h : a = x) (h2 : b = y) (hx : x < 256) (hy : y < 256) : (Obj.cells #[.int .u8 a, .int .u8 b] 5 : Obj) = byteBlock [.ofNat x, .ofNat y] := by
  subst h h2; simp only [byteBlock, bv, List.map, byte_val x hx, byte_val y hy]
theorem block3 (a b c : Int) (x y z : Nat) (h : a = x) (h2 : b = y) (h3 : c = z) (hx : x < 256) (hy : y < 256) (hz : z < 256) : (Obj.cells #[.int .u8 a, .int .u8 b, .int .u8 c] 5 : Obj) = byteBlock [.ofNat x, .ofNat y, .ofNat z] := by
  subst h h2 h3; simp only [byteBlock, bv, List.map, byte_val x hx, byte_val y hy, byte_val z hz]
theorem block4 (a b c d : Int) (x y z t : Nat) (h : a = x) (h2 : b = y) (h3 : c = z) (h4 : d = t) (hx : x < 256) (hy : y < 256) (hz : z < 256) (ht : t < 256) : (Obj.cells #[.int .u8 a, .int .u8 b, .int .u8 c, .int .u8 d] 5 : Obj) = byteBlock [.ofNat x, .ofNat y, .ofNat z, .ofNat t] := by
  subst h h2 h3 h4; simp only [byteBlock, bv, List.map, byte_val x hx, byte_val y hy, byte_val z hz, byte_val t ht]

end Go.Proofs.YthboenlfcolinaaDoor
