/-
  The walks of the functions that tell a point's bytes.
-/
import Derived.Test.YtljnciclbjcinaaGreatDoorPMath
import Derived.Test.YtljnciclbjcinaaGreatDoorOwn
import Derived.Test.YtljnciclbjcinaaGreatDoorPoints
namespace Go.Proofs.YtljnciclbjcinaaGreatDoor
open Go.ChangeShapes Go.WideShapes Go.ChangeAt Go.RowKit

/-- The block of these bytes. -/
def byteBlock (l : List UInt8) : Obj := .cells (bv l).toArray 5
theorem block1 (a : Int) (x : Nat) (h : a = x) (hx : x < 256) : (Obj.cells #[.int .u8 a] 5 : Obj) = byteBlock [.ofNat x] := by
  subst h; simp only [byteBlock, bv, List.map, byte_val x hx]
theorem block2 (a b : Int) (x y : Nat) (h : a = x) (h2 : b = y) (hx : x < 256) (hy : y < 256) : (Obj.cells #[.int .u8 a, .int .u8 b] 5 : Obj) = byteBlock [.ofNat x, .ofNat y] := by
  subst h h2; simp only [byteBlock, bv, List.map, byte_val x hx, byte_val y hy]
theorem block3 (a b c : Int) (x y z : Nat) (h : a = x) (h2 : b = y) (h3 : c = z) (hx : x < 256) (hy : y < 256) (hz : z < 256) : (Obj.cells #[.int .u8 a, .int .u8 b, .int .u8 c] 5 : Obj) = byteBlock [.ofNat x, .ofNat y, .ofNat z] := by
  subst h h2 h3; simp only [byteBlock, bv, List.map, byte_val x hx, byte_val y hy, byte_val z hz]
theorem block4 (a b c d : Int) (x y z t : Nat) (h : a = x) (h2 : b = y) (h3 : c = z) (h4 : d = t) (hx : x < 256) (hy : y < 256) (hz : z < 256) (ht : t < 256) : (Obj.cells #[.int .u8 a, .int .u8 b, .int .u8 c, .int .u8 d] 5 : Obj) = byteBlock [.ofNat x, .ofNat y, .ofNat z, .ofNat t] := by
  subst h h2 h3 h4; simp only [byteBlock, bv, List.map, byte_val x hx, byte_val y hy, byte_val z hz, byte_val t ht]

set_option maxRecDepth 100000 in
set_option maxHeartbeats 800000 in
theorem specUtf8 (p : Nat) (hp : p < 2097152) (w : World) :
    Calls Tryz.prog 106 #[.int .i64 p] w fun e w' => e = .returned (.slice (some ⟨w.heap.size, 0, none⟩) (u8b p).length (u8b p).length) ∧ w' = w.alloc (byteBlock (u8b p)) := by
  have hq : (p : Int) < 2097152 := by omega
  clear hp
  by_cases h1 : (p : Int) < 128
  · go_enter Tryz.func106, Tryz.ntmps106
    go_wp2
    go_ret
    rw [u8b_1 (by omega)]
    exact ⟨rfl, by rw [block1 _ p rfl (by omega)]⟩
  · by_cases h2 : (p : Int) < 2048
    · have e1 := ior192 ((p : Int) / 64) (by omega) (by omega)
      have e2 := and63 (p : Int)
      have e3 := ior128 ((p : Int) % 64) (by omega) (by omega)
      go_enter Tryz.func106, Tryz.ntmps106
      go_wp2
      go_ret
      rw [u8b_2 (by omega) (by omega)]
      refine ⟨rfl, ?_⟩
      rw [block2 _ _ (192 + p / 64) (128 + p % 64) (by omega) (by omega) (by omega) (by omega)]
    · by_cases h3 : (p : Int) < 65536
      · have e1 := ior224 ((p : Int) / 4096) (by omega) (by omega)
        have e2 := and63 (p : Int)
        have e3 := ior128 ((p : Int) % 64) (by omega) (by omega)
        have e4 := and63 ((p : Int) / 64)
        have e5 := ior128 ((p : Int) / 64 % 64) (by omega) (by omega)
        go_enter Tryz.func106, Tryz.ntmps106
        go_wp2
        go_ret
        rw [u8b_3 (by omega) (by omega)]
        refine ⟨rfl, ?_⟩
        rw [block3 _ _ _ (224 + p / 4096) (128 + p / 64 % 64) (128 + p % 64) (by omega) (by omega) (by omega) (by omega) (by omega) (by omega)]
      · have e1 := ior240 ((p : Int) / 262144) (by omega) (by omega)
        have e2 := and63 (p : Int)
        have e3 := ior128 ((p : Int) % 64) (by omega) (by omega)
        have e4 := and63 ((p : Int) / 64)
        have e5 := ior128 ((p : Int) / 64 % 64) (by omega) (by omega)
        have e6 := and63 ((p : Int) / 4096)
        have e7 := ior128 ((p : Int) / 4096 % 64) (by omega) (by omega)
        go_enter Tryz.func106, Tryz.ntmps106
        go_wp2
        go_ret
        rw [u8b_4 (by omega)]
        refine ⟨rfl, ?_⟩
        rw [block4 _ _ _ _ (240 + p / 262144) (128 + p / 4096 % 64) (128 + p / 64 % 64) (128 + p % 64) (by omega) (by omega) (by omega) (by omega) (by omega) (by omega) (by omega) (by omega)]

end Go.Proofs.YtljnciclbjcinaaGreatDoor
