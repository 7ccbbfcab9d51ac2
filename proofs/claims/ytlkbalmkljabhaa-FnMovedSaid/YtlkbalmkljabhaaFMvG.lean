/-
  Memories that grow: both sides, of a few pages.
-/
import Derived.Test.YtlkbalmkljabhaaFMvD
import Derived.Test.YtlkbalmkljabhaaMGrown
import Derived.Test.YtlkbalmkljabhaaMSt
import Derived.Test.YtlkbalmkljabhaaMCopyW
namespace Go.Proofs.Ytlkbalmkljabhaa
open Go.ChangeShapes Go.WideShapes Go.ChangeAt Go.RowKit

set_option maxRecDepth 100000 in
set_option maxHeartbeats 1000000 in
theorem growI_bad (M : Int) (D : ByteArray) (h : D.size ≤ 1048576) (y : Int) (hc : good M D = false) (w : World) :
    Calls Try.prog 29 #[.agg #[.int .i64 M, .string D], .int .i64 y] w fun e w' => e = .returned (.tuple #[.agg #[.int .i64 (kept M D).1, .string (kept M D).2], .int .i64 0, .bool false]) ∧ Below w.heap.size w w' := by
  have G := mGoodI M D h
  rw [hc] at G
  have AW := asItWas M D h
  generalize (kept M D).1 = M' at *
  generalize (kept M D).2 = D' at *
  obtain ⟨g, hgs⟩ : ∃ g, w.heap.size = g := ⟨_, rfl⟩
  obtain ⟨V, hV⟩ : ∃ V, (w.alloc (.cells #[.int .i64 M, .string D] 40)).alloc (.cells #[.int .i64 0, .string ⟨#[]⟩] 40) = V := ⟨_, rfl⟩
  have hBv : Below w.heap.size w V := by rw [← hV]; (repeat (first | refine Below.alloc ?_ (by first | (simp; done) | (simp; omega)) _ | refine Below.setCell ?_ (by first | (simp; done) | (simp; omega)) _ | refine bel_dN ?_ _ | refine Below.drew ?_ | exact Below.refl _ _))
  have hsv : V.heap.size = g + 2 := by rw [← hV, ← hgs]; simp
  have hx : V.heap[g]? = some (.cells #[.int .i64 M, .string D] 40 (0, 0)) := by rw [← hV, ← hgs]; exact (Below.heap_alloc _ _ _ (by simp)).trans (heap_alloc_new _ _)
  have hr : V.heap[g + 1]? = some (.cells #[.int .i64 0, .string ⟨#[]⟩] 40 (0, 0)) := by
    rw [← hV, ← hgs]
    have h := heap_alloc_new (w.alloc (.cells #[.int .i64 M, .string D] 40)) (.cells #[.int .i64 0, .string ⟨#[]⟩] 40)
    simpa using h
  have HV : Hid ((w.alloc (.cells #[.int .i64 M, .string D] 40)).alloc (.cells #[.int .i64 0, .string ⟨#[]⟩] 40) = V ∧ w.heap.size = g) := ⟨hV, hgs⟩
  have HB : Hid (Below w.heap.size w V) := hBv
  clear hV hBv hgs
  go_enter Try.func29, Try.ntmps29
  go_wp2_with fail
  rw [HV.out.1, HV.out.2]
  refine (G _).mono ?_
  rintro e w1 ⟨rfl, hb⟩
  have HBw1 : Hid (Below w.heap.size w w1) := bel_step HB.out hb
  have hxw1 := (hb.block g (lt_of_block' hx)).trans hx
  have hrw1 := (hb.block (g + 1) (lt_of_block' hr)).trans hr
  clear hb
  have cx0 : w1.cell? ⟨g, 0, none⟩ = some (.int .i64 M) := by simp [World.cell?, hxw1]
  have cx1 : w1.cell? ⟨g, 1, none⟩ = some (.string D) := by simp [World.cell?, hxw1]
  go_wp2_with fail
  clear cx0 cx1
  refine (AW _).mono ?_
  rintro e w2 ⟨rfl, hb⟩
  have HBw2 : Hid (Below w.heap.size w w2) := bel_step HBw1.out hb
  have hxw2 := (hb.block g (lt_of_block' hxw1)).trans hxw1
  have hrw2 := (hb.block (g + 1) (lt_of_block' hrw1)).trans hrw1
  clear hb
  have cr0 : w2.cell? ⟨g + 1, 0, none⟩ = some (.int .i64 0) := by simp [World.cell?, hrw2]
  have fr0 : w2.frozen? ⟨g + 1, 0, none⟩ = false := by simp [World.frozen?, hrw2]
  have cr1 : w2.cell? ⟨g + 1, 1, none⟩ = some (.string ⟨#[]⟩) := by simp [World.cell?, hrw2]
  have fr1 : w2.frozen? ⟨g + 1, 1, none⟩ = false := by simp [World.frozen?, hrw2]
  go_wp2
  have hle : w.heap.size ≤ g + 1 := by have := HV.out.2; omega
  refine bodyPost_ret (v := .tuple #[.agg #[.int .i64 M', .string D'], .int .i64 0, .bool false]) (by simp [results, Try.results29, go_sem, cr0, cr1]) rfl ⟨rfl, ?_⟩
  exact (HBw2.out.setCell (p := ⟨g + 1, 0, none⟩) hle _).setCell (p := ⟨g + 1, 1, none⟩) hle _

set_option maxRecDepth 100000 in
set_option maxHeartbeats 1000000 in
theorem growI_neg (M : Int) (D : ByteArray) (h : D.size ≤ 1048576) (y : Int) (hc : good M D = true) (hy : y < 0) (w : World) :
    Calls Try.prog 29 #[.agg #[.int .i64 M, .string D], .int .i64 y] w fun e w' => e = .returned (.tuple #[.agg #[.int .i64 (kept M D).1, .string (kept M D).2], .int .i64 0, .bool false]) ∧ Below w.heap.size w w' := by
  have G := mGoodI M D h
  rw [hc] at G
  have AW := asItWas M D h
  generalize (kept M D).1 = M' at *
  generalize (kept M D).2 = D' at *
  obtain ⟨g, hgs⟩ : ∃ g, w.heap.size = g := ⟨_, rfl⟩
  obtain ⟨V, hV⟩ : ∃ V, (w.alloc (.cells #[.int .i64 M, .string D] 40)).alloc (.cells #[.int .i64 0, .string ⟨#[]⟩] 40) = V := ⟨_, rfl⟩
  have hBv : Below w.heap.size w V := by rw [← hV]; (repeat (first | refine Below.alloc ?_ (by first | (simp; done) | (simp; omega)) _ | refine Below.setCell ?_ (by first | (simp; done) | (simp; omega)) _ | refine bel_dN ?_ _ | refine Below.drew ?_ | exact Below.refl _ _))
  have hsv : V.heap.size = g + 2 := by rw [← hV, ← hgs]; simp
  have hx : V.heap[g]? = some (.cells #[.int .i64 M, .string D] 40 (0, 0)) := by rw [← hV, ← hgs]; exact (Below.heap_alloc _ _ _ (by simp)).trans (heap_alloc_new _ _)
  have hr : V.heap[g + 1]? = some (.cells #[.int .i64 0, .string ⟨#[]⟩] 40 (0, 0)) := by
    rw [← hV, ← hgs]
    have h := heap_alloc_new (w.alloc (.cells #[.int .i64 M, .string D] 40)) (.cells #[.int .i64 0, .string ⟨#[]⟩] 40)
    simpa using h
  have HV : Hid ((w.alloc (.cells #[.int .i64 M, .string D] 40)).alloc (.cells #[.int .i64 0, .string ⟨#[]⟩] 40) = V ∧ w.heap.size = g) := ⟨hV, hgs⟩
  have HB : Hid (Below w.heap.size w V) := hBv
  clear hV hBv hgs
  go_enter Try.func29, Try.ntmps29
  go_wp2_with fail
  rw [HV.out.1, HV.out.2]
  refine (G _).mono ?_
  rintro e w1 ⟨rfl, hb⟩
  have HBw1 : Hid (Below w.heap.size w w1) := bel_step HB.out hb
  have hxw1 := (hb.block g (lt_of_block' hx)).trans hx
  have hrw1 := (hb.block (g + 1) (lt_of_block' hr)).trans hr
  clear hb
  have cx0 : w1.cell? ⟨g, 0, none⟩ = some (.int .i64 M) := by simp [World.cell?, hxw1]
  have cx1 : w1.cell? ⟨g, 1, none⟩ = some (.string D) := by simp [World.cell?, hxw1]
  go_wp2_with fail
  clear cx0 cx1
  refine (AW _).mono ?_
  rintro e w2 ⟨rfl, hb⟩
  have HBw2 : Hid (Below w.heap.size w w2) := bel_step HBw1.out hb
  have hxw2 := (hb.block g (lt_of_block' hxw1)).trans hxw1
  have hrw2 := (hb.block (g + 1) (lt_of_block' hrw1)).trans hrw1
  clear hb
  have cr0 : w2.cell? ⟨g + 1, 0, none⟩ = some (.int .i64 0) := by simp [World.cell?, hrw2]
  have fr0 : w2.frozen? ⟨g + 1, 0, none⟩ = false := by simp [World.frozen?, hrw2]
  have cr1 : w2.cell? ⟨g + 1, 1, none⟩ = some (.string ⟨#[]⟩) := by simp [World.cell?, hrw2]
  have fr1 : w2.frozen? ⟨g + 1, 1, none⟩ = false := by simp [World.frozen?, hrw2]
  go_wp2
  have hle : w.heap.size ≤ g + 1 := by have := HV.out.2; omega
  refine bodyPost_ret (v := .tuple #[.agg #[.int .i64 M', .string D'], .int .i64 0, .bool false]) (by simp [results, Try.results29, go_sem, cr0, cr1]) rfl ⟨rfl, ?_⟩
  exact (HBw2.out.setCell (p := ⟨g + 1, 0, none⟩) hle _).setCell (p := ⟨g + 1, 1, none⟩) hle _

set_option maxRecDepth 100000 in
set_option maxHeartbeats 1000000 in
theorem growI_full (M : Int) (D : ByteArray) (h : D.size ≤ 1048576) (y : Int) (hc : good M D = true) (hy : 0 ≤ y) (hy2 : y ≤ 4) (n : Int) (hn : (D.size : Int) / 256 = n) (hn0 : 0 ≤ n) (hn1 : n ≤ 100000) (hf : M < n + y) (w : World) :
    Calls Try.prog 29 #[.agg #[.int .i64 M, .string D], .int .i64 y] w fun e w' => e = .returned (.tuple #[.agg #[.int .i64 M, .string D], .int .i64 (-1), .bool true]) ∧ Below w.heap.size w w' := by
  have G := mGoodI M D h
  rw [hc] at G
  have AW := asItWas M D h
  have hk : kept M D = (M, D) := by simp [kept, hc]
  rw [hk] at AW
  simp only at AW
  have PG := fun w => pagesOf M D (by omega) w
  rw [hn] at PG
  clear hn hk
  obtain ⟨g, hgs⟩ : ∃ g, w.heap.size = g := ⟨_, rfl⟩
  obtain ⟨V, hV⟩ : ∃ V, (w.alloc (.cells #[.int .i64 M, .string D] 40)).alloc (.cells #[.int .i64 0, .string ⟨#[]⟩] 40) = V := ⟨_, rfl⟩
  have hBv : Below w.heap.size w V := by rw [← hV]; (repeat (first | refine Below.alloc ?_ (by first | (simp; done) | (simp; omega)) _ | refine Below.setCell ?_ (by first | (simp; done) | (simp; omega)) _ | refine bel_dN ?_ _ | refine Below.drew ?_ | exact Below.refl _ _))
  have hsv : V.heap.size = g + 2 := by rw [← hV, ← hgs]; simp
  have hx : V.heap[g]? = some (.cells #[.int .i64 M, .string D] 40 (0, 0)) := by rw [← hV, ← hgs]; exact (Below.heap_alloc _ _ _ (by simp)).trans (heap_alloc_new _ _)
  have hr : V.heap[g + 1]? = some (.cells #[.int .i64 0, .string ⟨#[]⟩] 40 (0, 0)) := by
    rw [← hV, ← hgs]
    have h := heap_alloc_new (w.alloc (.cells #[.int .i64 M, .string D] 40)) (.cells #[.int .i64 0, .string ⟨#[]⟩] 40)
    simpa using h
  have HV : Hid ((w.alloc (.cells #[.int .i64 M, .string D] 40)).alloc (.cells #[.int .i64 0, .string ⟨#[]⟩] 40) = V ∧ w.heap.size = g) := ⟨hV, hgs⟩
  have HB : Hid (Below w.heap.size w V) := hBv
  clear hV hBv hgs
  go_enter Try.func29, Try.ntmps29
  go_wp2_with fail
  rw [HV.out.1, HV.out.2]
  refine (G _).mono ?_
  rintro e w1 ⟨rfl, hb⟩
  have HBw1 : Hid (Below w.heap.size w w1) := bel_step HB.out hb
  have hxw1 := (hb.block g (lt_of_block' hx)).trans hx
  have hrw1 := (hb.block (g + 1) (lt_of_block' hr)).trans hr
  clear hb
  have cx0 : w1.cell? ⟨g, 0, none⟩ = some (.int .i64 M) := by simp [World.cell?, hxw1]
  have cx1 : w1.cell? ⟨g, 1, none⟩ = some (.string D) := by simp [World.cell?, hxw1]
  go_wp2_with fail
  clear cx0 cx1
  refine (PG _).mono ?_
  rintro e w2 ⟨rfl, hb⟩
  have HBw2 : Hid (Below w.heap.size w w2) := bel_step HBw1.out hb
  have hxw2 := (hb.block g (lt_of_block' hxw1)).trans hxw1
  have hrw2 := (hb.block (g + 1) (lt_of_block' hrw1)).trans hrw1
  clear hb
  have cx0 : w2.cell? ⟨g, 0, none⟩ = some (.int .i64 M) := by simp [World.cell?, hxw2]
  have cx1 : w2.cell? ⟨g, 1, none⟩ = some (.string D) := by simp [World.cell?, hxw2]
  go_wp2_with fail
  clear cx0 cx1
  refine (AW _).mono ?_
  rintro e w3 ⟨rfl, hb⟩
  have HBw3 : Hid (Below w.heap.size w w3) := bel_step HBw2.out hb
  have hxw3 := (hb.block g (lt_of_block' hxw2)).trans hxw2
  have hrw3 := (hb.block (g + 1) (lt_of_block' hrw2)).trans hrw2
  clear hb
  have cr0 : w3.cell? ⟨g + 1, 0, none⟩ = some (.int .i64 0) := by simp [World.cell?, hrw3]
  have fr0 : w3.frozen? ⟨g + 1, 0, none⟩ = false := by simp [World.frozen?, hrw3]
  have cr1 : w3.cell? ⟨g + 1, 1, none⟩ = some (.string ⟨#[]⟩) := by simp [World.cell?, hrw3]
  have fr1 : w3.frozen? ⟨g + 1, 1, none⟩ = false := by simp [World.frozen?, hrw3]
  go_wp2
  have hle : w.heap.size ≤ g + 1 := by have := HV.out.2; omega
  refine bodyPost_ret (v := .tuple #[.agg #[.int .i64 M, .string D], .int .i64 (-1), .bool true]) (by simp [results, Try.results29, go_sem, cr0, cr1]) rfl ⟨rfl, ?_⟩
  exact (HBw3.out.setCell (p := ⟨g + 1, 0, none⟩) hle _).setCell (p := ⟨g + 1, 1, none⟩) hle _

set_option maxRecDepth 100000 in
set_option maxHeartbeats 1000000 in
theorem growI_yes (M : Int) (D : ByteArray) (h : D.size ≤ 600) (y : Nat) (hc : good M D = true) (hy2 : y ≤ 4) (n : Int) (hn : (D.size : Int) / 256 = n) (hn0 : 0 ≤ n) (hn1 : n ≤ 100000) (hf : n + y ≤ M) (w : World) :
    Calls Try.prog 29 #[.agg #[.int .i64 M, .string D], .int .i64 (y : Int)] w fun e w' => e = .returned (.tuple #[.agg #[.int .i64 M, .string (D ++ zeros (y * 256))], .int .i64 n, .bool true]) ∧ Below w.heap.size w w' := by
  have G := mGoodI M D (by omega)
  rw [hc] at G
  have GR := grownM M D y (by omega)
  have PG := fun w => pagesOf M D (by omega) w
  rw [hn] at PG
  clear hn
  generalize D ++ zeros (y * 256) = X at *
  obtain ⟨g, hgs⟩ : ∃ g, w.heap.size = g := ⟨_, rfl⟩
  obtain ⟨V, hV⟩ : ∃ V, (w.alloc (.cells #[.int .i64 M, .string D] 40)).alloc (.cells #[.int .i64 0, .string ⟨#[]⟩] 40) = V := ⟨_, rfl⟩
  have hBv : Below w.heap.size w V := by rw [← hV]; (repeat (first | refine Below.alloc ?_ (by first | (simp; done) | (simp; omega)) _ | refine Below.setCell ?_ (by first | (simp; done) | (simp; omega)) _ | refine bel_dN ?_ _ | refine Below.drew ?_ | exact Below.refl _ _))
  have hsv : V.heap.size = g + 2 := by rw [← hV, ← hgs]; simp
  have hx : V.heap[g]? = some (.cells #[.int .i64 M, .string D] 40 (0, 0)) := by rw [← hV, ← hgs]; exact (Below.heap_alloc _ _ _ (by simp)).trans (heap_alloc_new _ _)
  have hr : V.heap[g + 1]? = some (.cells #[.int .i64 0, .string ⟨#[]⟩] 40 (0, 0)) := by
    rw [← hV, ← hgs]
    have h := heap_alloc_new (w.alloc (.cells #[.int .i64 M, .string D] 40)) (.cells #[.int .i64 0, .string ⟨#[]⟩] 40)
    simpa using h
  have HV : Hid ((w.alloc (.cells #[.int .i64 M, .string D] 40)).alloc (.cells #[.int .i64 0, .string ⟨#[]⟩] 40) = V ∧ w.heap.size = g) := ⟨hV, hgs⟩
  have HB : Hid (Below w.heap.size w V) := hBv
  clear hV hBv hgs
  go_enter Try.func29, Try.ntmps29
  go_wp2_with fail
  rw [HV.out.1, HV.out.2]
  refine (G _).mono ?_
  rintro e w1 ⟨rfl, hb⟩
  have HBw1 : Hid (Below w.heap.size w w1) := bel_step HB.out hb
  have hxw1 := (hb.block g (lt_of_block' hx)).trans hx
  have hrw1 := (hb.block (g + 1) (lt_of_block' hr)).trans hr
  clear hb
  have cx0 : w1.cell? ⟨g, 0, none⟩ = some (.int .i64 M) := by simp [World.cell?, hxw1]
  have cx1 : w1.cell? ⟨g, 1, none⟩ = some (.string D) := by simp [World.cell?, hxw1]
  go_wp2_with fail
  clear cx0 cx1
  refine (PG _).mono ?_
  rintro e w2 ⟨rfl, hb⟩
  have HBw2 : Hid (Below w.heap.size w w2) := bel_step HBw1.out hb
  have hxw2 := (hb.block g (lt_of_block' hxw1)).trans hxw1
  have hrw2 := (hb.block (g + 1) (lt_of_block' hrw1)).trans hrw1
  clear hb
  have cx0 : w2.cell? ⟨g, 0, none⟩ = some (.int .i64 M) := by simp [World.cell?, hxw2]
  have cx1 : w2.cell? ⟨g, 1, none⟩ = some (.string D) := by simp [World.cell?, hxw2]
  go_wp2_with fail
  clear cx0 cx1
  refine (GR _).mono ?_
  rintro e w3 ⟨rfl, hb⟩
  have HBw3 : Hid (Below w.heap.size w w3) := bel_step HBw2.out hb
  have hxw3 := (hb.block g (lt_of_block' hxw2)).trans hxw2
  have hrw3 := (hb.block (g + 1) (lt_of_block' hrw2)).trans hrw2
  clear hb
  have cr0 : w3.cell? ⟨g + 1, 0, none⟩ = some (.int .i64 0) := by simp [World.cell?, hrw3]
  have fr0 : w3.frozen? ⟨g + 1, 0, none⟩ = false := by simp [World.frozen?, hrw3]
  have cr1 : w3.cell? ⟨g + 1, 1, none⟩ = some (.string ⟨#[]⟩) := by simp [World.cell?, hrw3]
  have fr1 : w3.frozen? ⟨g + 1, 1, none⟩ = false := by simp [World.frozen?, hrw3]
  go_wp2
  have hle : w.heap.size ≤ g + 1 := by have := HV.out.2; omega
  refine bodyPost_ret (v := .tuple #[.agg #[.int .i64 M, .string X], .int .i64 n, .bool true]) (by simp [results, Try.results29, go_sem, cr0, cr1]) rfl ⟨rfl, ?_⟩
  exact (HBw3.out.setCell (p := ⟨g + 1, 0, none⟩) hle _).setCell (p := ⟨g + 1, 1, none⟩) hle _

set_option maxRecDepth 100000 in
set_option maxHeartbeats 1000000 in
theorem growS_bad (M : Int) (D : ByteArray) (h : D.size ≤ 1048576) (y : Int) (hc : good M D = false) (w : World) :
    Calls Try.prog 30 #[.agg #[.int .i64 M, .string D], .int .i64 y] w fun e w' => e = .returned (.tuple #[.agg #[.int .i64 0, .string ⟨#[]⟩], .int .i64 0, .bool false]) ∧ Below w.heap.size w w' := by
  have G := mGoodS M D h
  rw [hc] at G
  obtain ⟨g, hgs⟩ : ∃ g, w.heap.size = g := ⟨_, rfl⟩
  obtain ⟨V, hV⟩ : ∃ V, (w.alloc (.cells #[.int .i64 M, .string D] 40)).alloc (.cells #[.int .i64 0, .string ⟨#[]⟩] 40) = V := ⟨_, rfl⟩
  have hBv : Below w.heap.size w V := by rw [← hV]; (repeat (first | refine Below.alloc ?_ (by first | (simp; done) | (simp; omega)) _ | refine Below.setCell ?_ (by first | (simp; done) | (simp; omega)) _ | refine bel_dN ?_ _ | refine Below.drew ?_ | exact Below.refl _ _))
  have hsv : V.heap.size = g + 2 := by rw [← hV, ← hgs]; simp
  have hx : V.heap[g]? = some (.cells #[.int .i64 M, .string D] 40 (0, 0)) := by rw [← hV, ← hgs]; exact (Below.heap_alloc _ _ _ (by simp)).trans (heap_alloc_new _ _)
  have hr : V.heap[g + 1]? = some (.cells #[.int .i64 0, .string ⟨#[]⟩] 40 (0, 0)) := by
    rw [← hV, ← hgs]
    have h := heap_alloc_new (w.alloc (.cells #[.int .i64 M, .string D] 40)) (.cells #[.int .i64 0, .string ⟨#[]⟩] 40)
    simpa using h
  have HV : Hid ((w.alloc (.cells #[.int .i64 M, .string D] 40)).alloc (.cells #[.int .i64 0, .string ⟨#[]⟩] 40) = V ∧ w.heap.size = g) := ⟨hV, hgs⟩
  have HB : Hid (Below w.heap.size w V) := hBv
  clear hV hBv hgs
  go_enter Try.func30, Try.ntmps30
  go_wp2_with fail
  rw [HV.out.1, HV.out.2]
  refine (G _).mono ?_
  rintro e w1 ⟨rfl, hb⟩
  have HBw1 : Hid (Below w.heap.size w w1) := bel_step HB.out hb
  have hxw1 := (hb.block g (lt_of_block' hx)).trans hx
  have hrw1 := (hb.block (g + 1) (lt_of_block' hr)).trans hr
  clear hb
  have cr0 : w1.cell? ⟨g + 1, 0, none⟩ = some (.int .i64 0) := by simp [World.cell?, hrw1]
  have fr0 : w1.frozen? ⟨g + 1, 0, none⟩ = false := by simp [World.frozen?, hrw1]
  have cr1 : w1.cell? ⟨g + 1, 1, none⟩ = some (.string ⟨#[]⟩) := by simp [World.cell?, hrw1]
  have fr1 : w1.frozen? ⟨g + 1, 1, none⟩ = false := by simp [World.frozen?, hrw1]
  go_wp2
  have hle : w.heap.size ≤ g + 1 := by have := HV.out.2; omega
  refine bodyPost_ret (v := .tuple #[.agg #[.int .i64 0, .string ⟨#[]⟩], .int .i64 0, .bool false]) (by simp [results, Try.results30, go_sem, cr0, cr1]) rfl ⟨rfl, ?_⟩
  exact (HBw1.out.setCell (p := ⟨g + 1, 0, none⟩) hle _).setCell (p := ⟨g + 1, 1, none⟩) hle _

set_option maxRecDepth 100000 in
set_option maxHeartbeats 1000000 in
theorem growS_neg (M : Int) (D : ByteArray) (h : D.size ≤ 1048576) (y : Int) (hc : good M D = true) (hy : y < 0) (w : World) :
    Calls Try.prog 30 #[.agg #[.int .i64 M, .string D], .int .i64 y] w fun e w' => e = .returned (.tuple #[.agg #[.int .i64 0, .string ⟨#[]⟩], .int .i64 0, .bool false]) ∧ Below w.heap.size w w' := by
  have G := mGoodS M D h
  rw [hc] at G
  have I1 := fun w => in_eq y 0 8 false (by simp [Hid]; omega) w
  obtain ⟨g, hgs⟩ : ∃ g, w.heap.size = g := ⟨_, rfl⟩
  obtain ⟨V, hV⟩ : ∃ V, (w.alloc (.cells #[.int .i64 M, .string D] 40)).alloc (.cells #[.int .i64 0, .string ⟨#[]⟩] 40) = V := ⟨_, rfl⟩
  have hBv : Below w.heap.size w V := by rw [← hV]; (repeat (first | refine Below.alloc ?_ (by first | (simp; done) | (simp; omega)) _ | refine Below.setCell ?_ (by first | (simp; done) | (simp; omega)) _ | refine bel_dN ?_ _ | refine Below.drew ?_ | exact Below.refl _ _))
  have hsv : V.heap.size = g + 2 := by rw [← hV, ← hgs]; simp
  have hx : V.heap[g]? = some (.cells #[.int .i64 M, .string D] 40 (0, 0)) := by rw [← hV, ← hgs]; exact (Below.heap_alloc _ _ _ (by simp)).trans (heap_alloc_new _ _)
  have hr : V.heap[g + 1]? = some (.cells #[.int .i64 0, .string ⟨#[]⟩] 40 (0, 0)) := by
    rw [← hV, ← hgs]
    have h := heap_alloc_new (w.alloc (.cells #[.int .i64 M, .string D] 40)) (.cells #[.int .i64 0, .string ⟨#[]⟩] 40)
    simpa using h
  have HV : Hid ((w.alloc (.cells #[.int .i64 M, .string D] 40)).alloc (.cells #[.int .i64 0, .string ⟨#[]⟩] 40) = V ∧ w.heap.size = g) := ⟨hV, hgs⟩
  have HB : Hid (Below w.heap.size w V) := hBv
  clear hV hBv hgs
  go_enter Try.func30, Try.ntmps30
  go_wp2_with fail
  rw [HV.out.1, HV.out.2]
  refine (G _).mono ?_
  rintro e w1 ⟨rfl, hb⟩
  have HBw1 : Hid (Below w.heap.size w w1) := bel_step HB.out hb
  have hxw1 := (hb.block g (lt_of_block' hx)).trans hx
  have hrw1 := (hb.block (g + 1) (lt_of_block' hr)).trans hr
  clear hb
  go_wp2_with fail
  refine (I1 _).mono ?_
  rintro e wz ⟨rfl, hw⟩
  obtain rfl := hw.symm
  have cr0 : w1.cell? ⟨g + 1, 0, none⟩ = some (.int .i64 0) := by simp [World.cell?, hrw1]
  have fr0 : w1.frozen? ⟨g + 1, 0, none⟩ = false := by simp [World.frozen?, hrw1]
  have cr1 : w1.cell? ⟨g + 1, 1, none⟩ = some (.string ⟨#[]⟩) := by simp [World.cell?, hrw1]
  have fr1 : w1.frozen? ⟨g + 1, 1, none⟩ = false := by simp [World.frozen?, hrw1]
  go_wp2
  have hle : w.heap.size ≤ g + 1 := by have := HV.out.2; omega
  refine bodyPost_ret (v := .tuple #[.agg #[.int .i64 0, .string ⟨#[]⟩], .int .i64 0, .bool false]) (by simp [results, Try.results30, go_sem, cr0, cr1]) rfl ⟨rfl, ?_⟩
  exact (HBw1.out.setCell (p := ⟨g + 1, 0, none⟩) hle _).setCell (p := ⟨g + 1, 1, none⟩) hle _

set_option maxRecDepth 100000 in
set_option maxHeartbeats 1000000 in
theorem growS_full (M : Int) (D : ByteArray) (h : D.size ≤ 1048576) (y : Int) (hc : good M D = true) (hy : 0 ≤ y) (hy2 : y ≤ 4) (n : Int) (hn : (D.size : Int) / 256 = n) (hn0 : 0 ≤ n) (hn1 : n ≤ 100000) (hf : M < n + y) (w : World) :
    Calls Try.prog 30 #[.agg #[.int .i64 M, .string D], .int .i64 y] w fun e w' => e = .returned (.tuple #[.agg #[.int .i64 M, .string D], .int .i64 (-1), .bool true]) ∧ Below w.heap.size w w' := by
  have G := mGoodS M D h
  rw [hc] at G
  have I1 := fun w => in_eq y 0 8 true (by simp [Hid]; omega) w
  have hq : (D.size : Int).tdiv 256 = n := by rw [Int.tdiv_eq_ediv_of_nonneg (by omega)]; exact hn
  have hS0 : (0 : Int) ≤ (D.size : Int) := by omega
  have hS1 : (D.size : Int) ≤ 1048576 := by omega
  obtain ⟨g, hgs⟩ : ∃ g, w.heap.size = g := ⟨_, rfl⟩
  obtain ⟨V, hV⟩ : ∃ V, (w.alloc (.cells #[.int .i64 M, .string D] 40)).alloc (.cells #[.int .i64 0, .string ⟨#[]⟩] 40) = V := ⟨_, rfl⟩
  have hBv : Below w.heap.size w V := by rw [← hV]; (repeat (first | refine Below.alloc ?_ (by first | (simp; done) | (simp; omega)) _ | refine Below.setCell ?_ (by first | (simp; done) | (simp; omega)) _ | refine bel_dN ?_ _ | refine Below.drew ?_ | exact Below.refl _ _))
  have hsv : V.heap.size = g + 2 := by rw [← hV, ← hgs]; simp
  have hx : V.heap[g]? = some (.cells #[.int .i64 M, .string D] 40 (0, 0)) := by rw [← hV, ← hgs]; exact (Below.heap_alloc _ _ _ (by simp)).trans (heap_alloc_new _ _)
  have hr : V.heap[g + 1]? = some (.cells #[.int .i64 0, .string ⟨#[]⟩] 40 (0, 0)) := by
    rw [← hV, ← hgs]
    have h := heap_alloc_new (w.alloc (.cells #[.int .i64 M, .string D] 40)) (.cells #[.int .i64 0, .string ⟨#[]⟩] 40)
    simpa using h
  have HV : Hid ((w.alloc (.cells #[.int .i64 M, .string D] 40)).alloc (.cells #[.int .i64 0, .string ⟨#[]⟩] 40) = V ∧ w.heap.size = g) := ⟨hV, hgs⟩
  have HB : Hid (Below w.heap.size w V) := hBv
  clear hV hBv hgs
  go_enter Try.func30, Try.ntmps30
  go_wp2_with fail
  rw [HV.out.1, HV.out.2]
  refine (G _).mono ?_
  rintro e w1 ⟨rfl, hb⟩
  have HBw1 : Hid (Below w.heap.size w w1) := bel_step HB.out hb
  have hxw1 := (hb.block g (lt_of_block' hx)).trans hx
  have hrw1 := (hb.block (g + 1) (lt_of_block' hr)).trans hr
  clear hb
  go_wp2_with fail
  refine (I1 _).mono ?_
  rintro e wz ⟨rfl, hw⟩
  obtain rfl := hw.symm
  have cx0 : w1.cell? ⟨g, 0, none⟩ = some (.int .i64 M) := by simp [World.cell?, hxw1]
  have cx1 : w1.cell? ⟨g, 1, none⟩ = some (.string D) := by simp [World.cell?, hxw1]
  have cr0 : w1.cell? ⟨g + 1, 0, none⟩ = some (.int .i64 0) := by simp [World.cell?, hrw1]
  have fr0 : w1.frozen? ⟨g + 1, 0, none⟩ = false := by simp [World.frozen?, hrw1]
  have cr1 : w1.cell? ⟨g + 1, 1, none⟩ = some (.string ⟨#[]⟩) := by simp [World.cell?, hrw1]
  have fr1 : w1.frozen? ⟨g + 1, 1, none⟩ = false := by simp [World.frozen?, hrw1]
  go_wp2
  have hle : w.heap.size ≤ g + 1 := by have := HV.out.2; omega
  refine bodyPost_ret (v := .tuple #[.agg #[.int .i64 M, .string D], .int .i64 (-1), .bool true]) (by simp [results, Try.results30, go_sem, cr0, cr1]) rfl ⟨rfl, ?_⟩
  exact (HBw1.out.setCell (p := ⟨g + 1, 0, none⟩) hle _).setCell (p := ⟨g + 1, 1, none⟩) hle _

set_option maxRecDepth 100000 in
set_option maxHeartbeats 1000000 in
theorem growS_yes (M : Int) (D : ByteArray) (h : D.size ≤ 600) (y : Nat) (hc : good M D = true) (hy2 : y ≤ 4) (n : Int) (hn : (D.size : Int) / 256 = n) (hn0 : 0 ≤ n) (hn1 : n ≤ 100000) (hf : n + y ≤ M) (w : World) :
    Calls Try.prog 30 #[.agg #[.int .i64 M, .string D], .int .i64 (y : Int)] w fun e w' => e = .returned (.tuple #[.agg #[.int .i64 M, .string (D ++ zeros (y * 256))], .int .i64 n, .bool true]) ∧ Below w.heap.size w w' := by
  have G := mGoodS M D (by omega)
  rw [hc] at G
  have I1 := fun w => in_eq (y : Int) 0 8 true (by simp [Hid]; omega) w
  have hq : (D.size : Int).tdiv 256 = n := by rw [Int.tdiv_eq_ediv_of_nonneg (by omega)]; exact hn
  have hS0 : (0 : Int) ≤ (D.size : Int) := by omega
  have hS1 : (D.size : Int) ≤ 1048576 := by omega
  obtain ⟨m, hm⟩ : ∃ m, y * 256 = m := ⟨_, rfl⟩
  have hmk := madeU8 m (by omega)
  have hct := fun W b hh => madeTold W b m hh
  obtain ⟨R, hR⟩ : ∃ R, madeCells (Value.int .u8 0).cells m = R := ⟨_, rfl⟩
  rw [hR] at hmk hct
  have hyw : IntKind.i64.wrap ((y : Int) * 256) = (m : Int) := by rw [IntKind.wrap_i64]; omega
  have hyw2 : wrap64 ((y : Int) * 256) = (m : Int) := by unfold wrap64; omega
  rw [hm]
  obtain ⟨X, hX⟩ : ∃ X, D ++ zeros m = X := ⟨_, rfl⟩
  rw [hX]
  have HX : Hid (D ++ zeros m = X) := hX
  have HM : Hid (m ≤ 1024) := by unfold Hid; omega
  clear hn hm hR hX
  obtain ⟨g, hgs⟩ : ∃ g, w.heap.size = g := ⟨_, rfl⟩
  obtain ⟨V, hV⟩ : ∃ V, (w.alloc (.cells #[.int .i64 M, .string D] 40)).alloc (.cells #[.int .i64 0, .string ⟨#[]⟩] 40) = V := ⟨_, rfl⟩
  have hBv : Below w.heap.size w V := by rw [← hV]; (repeat (first | refine Below.alloc ?_ (by first | (simp; done) | (simp; omega)) _ | refine Below.setCell ?_ (by first | (simp; done) | (simp; omega)) _ | refine bel_dN ?_ _ | refine Below.drew ?_ | exact Below.refl _ _))
  have hsv : V.heap.size = g + 2 := by rw [← hV, ← hgs]; simp
  have hx : V.heap[g]? = some (.cells #[.int .i64 M, .string D] 40 (0, 0)) := by rw [← hV, ← hgs]; exact (Below.heap_alloc _ _ _ (by simp)).trans (heap_alloc_new _ _)
  have hr : V.heap[g + 1]? = some (.cells #[.int .i64 0, .string ⟨#[]⟩] 40 (0, 0)) := by
    rw [← hV, ← hgs]
    have h := heap_alloc_new (w.alloc (.cells #[.int .i64 M, .string D] 40)) (.cells #[.int .i64 0, .string ⟨#[]⟩] 40)
    simpa using h
  have HV : Hid ((w.alloc (.cells #[.int .i64 M, .string D] 40)).alloc (.cells #[.int .i64 0, .string ⟨#[]⟩] 40) = V ∧ w.heap.size = g) := ⟨hV, hgs⟩
  have HB : Hid (Below w.heap.size w V) := hBv
  clear hV hBv hgs
  go_enter Try.func30, Try.ntmps30
  go_wp2_with fail
  rw [HV.out.1, HV.out.2]
  refine (G _).mono ?_
  rintro e w1 ⟨rfl, hb⟩
  have HBw1 : Hid (Below w.heap.size w w1) := bel_step HB.out hb
  have hxw1 := (hb.block g (lt_of_block' hx)).trans hx
  have hrw1 := (hb.block (g + 1) (lt_of_block' hr)).trans hr
  clear hb
  go_wp2_with fail
  refine (I1 _).mono ?_
  rintro e wz ⟨rfl, hw⟩
  obtain rfl := hw.symm
  have cx0 : w1.cell? ⟨g, 0, none⟩ = some (.int .i64 M) := by simp [World.cell?, hxw1]
  have cx1 : w1.cell? ⟨g, 1, none⟩ = some (.string D) := by simp [World.cell?, hxw1]
  go_wp2_with fail
  refine wa_begin (by kernel_rfl) ?_
  refine wa_take 0 (some 28) (.pointer (some ⟨g, 1, none⟩)) rfl rfl (by kernel_rfl) (by kernel_rfl) (by kernel_rfl) (fun _ _ _ h => h) (by rfl) (fun _ => by kernel_rfl) ?_
  simp only [Act.put, List.setIfInBounds_toArray, List.set_cons_zero, List.set_cons_succ]
  refine wa_take 2 (some 30) (.int .i64 (y : Int)) rfl rfl (by kernel_rfl) (by kernel_rfl) (by kernel_rfl) (fun _ _ _ h => h) (by rfl) (fun _ => by rfl) ?_
  simp only [Act.put, List.setIfInBounds_toArray, List.set_cons_zero, List.set_cons_succ]
  refine wa_take 3 (some 31) (.int .i64 (m : Int)) rfl rfl (by kernel_rfl) (by kernel_rfl) (by kernel_rfl) (fun _ _ _ h => h) (by rfl) (fun _ => by go_simp) ?_
  simp only [Act.put, List.setIfInBounds_toArray, List.set_cons_zero, List.set_cons_succ]
  have hxd : w1.drew.heap[g]? = some (.cells #[.int .i64 M, .string D] 40 (0, 0)) := hxw1
  refine wa_first 1 (some 29) (.string D) (fun w' => w'.heap[g]? = some (.cells #[.int .i64 M, .string D] 40 (0, 0))) rfl rfl (by kernel_rfl) (by kernel_rfl) (by kernel_rfl) (fun _ _ _ h => h) (by rfl) (fun w' hS => ?_) hxd ?_
  · have c1 : w'.cell? ⟨g, 1, none⟩ = some (.string D) := by simp [World.cell?, hS]
    clear hS
    go_simp
  simp only [Act.put, List.setIfInBounds_toArray, List.set_cons_zero, List.set_cons_succ]
  have hmk1 := hmk w1.drew
  have hxa : (w1.drew.alloc (.cells R 5)).heap[g]? = some (.cells #[.int .i64 M, .string D] 40 (0, 0)) := (Below.heap_alloc _ _ _ (lt_of_block' hxd)).trans hxd
  have hra : (w1.drew.alloc (.cells R 5)).heap[g + 1]? = some (.cells #[.int .i64 0, .string ⟨#[]⟩] 40 (0, 0)) := (Below.heap_alloc w1.drew _ _ (lt_of_block' hrw1)).trans hrw1
  refine wb_val 4 (some 32) (.slice (some ⟨w1.drew.heap.size, 0, none⟩) m m) (w1.drew.alloc (.cells R 5)) (by kernel_rfl) (by kernel_rfl) rfl rfl (by rfl) (by first | exact hmk1 | (go_simp; exact hmk1) | go_simp) hxa ?_
  simp only [Act.put, List.setIfInBounds_toArray, List.set_cons_zero, List.set_cons_succ]
  have hct1 := hct (w1.drew.alloc (.cells R 5)) w1.drew.heap.size (heap_alloc_new _ _)
  have hc2 : (convert 22 9 (.slice (some ⟨w1.heap.size, 0, none⟩) m m)).run Try.prog (w1.alloc (.cells R 5)).drew = .ok (.string (zeros m)) (w1.alloc (.cells R 5)).drew := hct1
  refine wb_val 5 (some 33) (.string (zeros m)) (w1.drew.alloc (.cells R 5)) (by kernel_rfl) (by kernel_rfl) rfl rfl (by rfl) (by go_simp) hxa ?_
  simp only [Act.put, List.setIfInBounds_toArray, List.set_cons_zero, List.set_cons_succ]
  refine wb_wp 6 (by kernel_rfl) (by kernel_rfl) rfl (by rfl) ?_
  refine wp_val (v := .string X) (w' := w1.drew.alloc (.cells R 5)) (by rw [← HX.out]; have hzs : D.size + (zeros m).size ≤ 9223372036854775807 := (by have h1 := HM.out; have h2 : (zeros m).size = m := (by simp [zeros, ByteArray.size]); omega); go_simp) ?_
  simp only [Act.put, List.setIfInBounds_toArray]
  refine wa_take 7 (some 35) (.pointer (some ⟨g, 1, none⟩)) rfl rfl (by kernel_rfl) (by kernel_rfl) (by kernel_rfl) (fun _ _ _ h => h) (by rfl) (fun _ => by kernel_rfl) ?_
  simp only [Act.put]
  have e1 : (w1.drew.alloc (.cells R 5)).cell? ⟨g, 1, none⟩ = some (.string D) := by simp [World.cell?, hxa]
  have e2 : (w1.drew.alloc (.cells R 5)).frozen? ⟨g, 1, none⟩ = false := by simp [World.frozen?, hxa]
  have e3 : (w1.alloc (.cells R 5)).cell? ⟨g, 1, none⟩ = some (.string D) := e1
  have e4 : (w1.alloc (.cells R 5)).frozen? ⟨g, 1, none⟩ = false := e2
  refine wa_store 8 none ((w1.drew.alloc (.cells R 5)).setCell ⟨g, 1, none⟩ (.string X)) (by kernel_rfl) rfl rfl (by rfl) (by go_simp) ?_
  refine wa_done (by kernel_rfl) ?_
  simp only [Act.put]
  have hg1 : w.heap.size ≤ g := by have := HV.out.2; omega
  have HBw2 : Hid (Below w.heap.size w ((w1.drew.alloc (.cells R 5)).setCell ⟨g, 1, none⟩ (.string X))) := (HBw1.out.drew.alloc (by have := HBw1.out.size; simpa using this) _).setCell hg1 _
  have hxw2 : ((w1.drew.alloc (.cells R 5)).setCell ⟨g, 1, none⟩ (.string X)).heap[g]? = some (.cells #[.int .i64 M, .string X] 40 (0, 0)) := heap_setCell_same _ _ _ _ _ _ hxa
  have hrw2 : ((w1.drew.alloc (.cells R 5)).setCell ⟨g, 1, none⟩ (.string X)).heap[g + 1]? = some (.cells #[.int .i64 0, .string ⟨#[]⟩] 40 (0, 0)) := (heap_setCell_other _ ⟨g, 1, none⟩ (g + 1) _ (show g + 1 ≠ g by omega)).trans hra
  clear hc2 hct1 hmk1 hxa hra e1 e2 e3 e4 hxd cx0 cx1 hct hmk
  obtain ⟨w2, hw2⟩ : ∃ W, (w1.drew.alloc (.cells R 5)).setCell ⟨g, 1, none⟩ (.string X) = W := ⟨_, rfl⟩
  rw [hw2] at HBw2 hxw2 hrw2 ⊢
  clear hw2
  have cx0 : w2.cell? ⟨g, 0, none⟩ = some (.int .i64 M) := by simp [World.cell?, hxw2]
  have cx1 : w2.cell? ⟨g, 1, none⟩ = some (.string X) := by simp [World.cell?, hxw2]
  have cr0 : w2.cell? ⟨g + 1, 0, none⟩ = some (.int .i64 0) := by simp [World.cell?, hrw2]
  have fr0 : w2.frozen? ⟨g + 1, 0, none⟩ = false := by simp [World.frozen?, hrw2]
  have cr1 : w2.cell? ⟨g + 1, 1, none⟩ = some (.string ⟨#[]⟩) := by simp [World.cell?, hrw2]
  have fr1 : w2.frozen? ⟨g + 1, 1, none⟩ = false := by simp [World.frozen?, hrw2]
  go_wp2
  have hle : w.heap.size ≤ g + 1 := by have := HV.out.2; omega
  refine bodyPost_ret (v := .tuple #[.agg #[.int .i64 M, .string X], .int .i64 n, .bool true]) (by simp [results, Try.results30, go_sem, cr0, cr1]) rfl ⟨rfl, ?_⟩
  exact (HBw2.out.setCell (p := ⟨g + 1, 0, none⟩) hle _).setCell (p := ⟨g + 1, 1, none⟩) hle _

end Go.Proofs.Ytlkbalmkljabhaa
