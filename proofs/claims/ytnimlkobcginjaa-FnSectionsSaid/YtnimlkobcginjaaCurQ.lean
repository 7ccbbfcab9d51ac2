/-
  Names and sections that are drawn.
-/
import Derived.Test.YtnimlkobcginjaaCurT
import Derived.Test.YtnimlkobcginjaaCurS
import Derived.Test.YtnimlkobcginjaaRSpec
namespace Go.Proofs.Ytnimlkobcginjaa
open Go.ChangeShapes Go.WideShapes Go.ChangeAt Go.RowKit

set_option maxRecDepth 100000 in
set_option maxHeartbeats 1000000 in
theorem drawNameBytes (a : Option Addr) (n cap : Nat) (w : World) (hb : Bys w a n w.heap.size) :
    Calls Try.prog 23 #[.slice a n cap] w fun e w' => ∃ s : ByteArray, s.size ≤ 101 ∧ e = .returned (.string s) ∧ Below w.heap.size w w' := by
  have C0 := cur_new w a n cap 69 hb
  have N0 := below_new w (.cells #[.slice a n cap, .int .i64 0, .int .u64 0] 69)
  go_enter Try.func23, Try.ntmps23
  go_wp2_with fail
  refine (curOne 12 (by omega) (by omega) w.heap.size a n cap w.heap.size 0 (hid_le (by omega)) _ C0).mono ?_
  rintro e w1 ⟨o, rfl, C1, B1⟩
  have HB1 : Hid (Below w.heap.size w w1) := N0.trans B1.below
  clear N0 B1 C0
  cases o
  · go_wp2_with fail
    refine (curPick 20 (by omega) (by omega) w.heap.size a n cap w.heap.size (0 + 2) (hid_le (by omega)) _ C1).mono ?_
    rintro e w2 ⟨q, q0, q1, rfl, C2, B2⟩
    obtain ⟨k, rfl⟩ : ∃ k : Nat, q = k := ⟨q.toNat, by omega⟩
    have HB2 : Hid (Below w.heap.size w w2) := HB1.out.trans B2.below
    clear C1 B2 HB1
    go_wp2_with fail
    refine (curText k (by omega) w.heap.size a n cap w.heap.size (0 + 2 + 2) (hid_le (by omega)) _ C2).mono ?_
    rintro e w3 ⟨s, hs, rfl, C3, B3⟩
    have HB3 : Hid (Below w.heap.size w w3) := HB2.out.trans B3.below
    clear C2 C3 B3 HB2
    go_wp2
    go_ret
    exact ⟨s, by omega, rfl, HB3.out⟩
  · go_wp2_with fail
    refine (curPick 2 (by omega) (by omega) w.heap.size a n cap w.heap.size (0 + 2) (hid_le (by omega)) _ C1).mono ?_
    rintro e w2 ⟨q, q0, q1, rfl, C2, B2⟩
    obtain ⟨k, hk⟩ : ∃ k : Nat, 100 + q = (k : Int) := ⟨(100 + q).toNat, by omega⟩
    have HB2 : Hid (Below w.heap.size w w2) := HB1.out.trans B2.below
    have hmk := madeU8 k (by omega) w2
    have hbl : (w2.alloc (.cells (madeCells (Value.int .u8 0).cells k) 5)).heap[w2.heap.size]? = some (.cells (madeCells (Value.int .u8 0).cells k) 5 (0, 0)) := heap_alloc_new _ _
    have hcv : (convert 22 9 (.slice (some ⟨w2.heap.size, 0, none⟩) k k)).run Try.prog (w2.alloc (.cells (madeCells #[.int .u8 0] k) 5)) = .ok (.string (zeros k)) (w2.alloc (.cells (madeCells #[.int .u8 0] k) 5)) := madeTold _ _ k hbl
    obtain ⟨s, hse⟩ : ∃ s, zeros k = s := ⟨_, rfl⟩
    have hs : s.size = k := by rw [← hse]; exact zeros_size k
    rw [hse] at hcv
    have HBA : Hid (Below w.heap.size w (w2.alloc (.cells (madeCells (Value.int .u8 0).cells k) 5))) := HB2.out.alloc (HB2.out.size) _
    have HS : Hid (s.size ≤ 101) := by unfold Hid; omega
    have hkb : k ≤ 101 := by omega
    have hwk : wrap64 (k : Int) = (k : Int) := by unfold wrap64; omega
    clear C1 C2 B2 HB1 hs hse
    clear hbl q0 q1
    go_wp2
    go_ret
    exact ⟨s, HS.out, rfl, HBA.out⟩

theorem own_keepQ {w w' : World} {B : Nat} {e : TypeId} {s n : Nat} {v : Value} {xs : List Value} (h : w.ownsRow B e s v n xs) (hk : ∀ g, v.ownBlock = some g → w'.heap[g]? = w.heap[g]?) : w'.ownsRow B e s v n xs := by
  refine ⟨h.1, ?_⟩
  rcases h.2 with h0 | ⟨g, cap, cur, h1, h2, h3, h4⟩
  · exact Or.inl h0
  · exact Or.inr ⟨g, cap, cur, h1, h2, (hk g (by rw [h1]; rfl)).trans h3, h4⟩
theorem own_ltQ {w : World} {B : Nat} {e : TypeId} {s n : Nat} {v : Value} {xs : List Value} (h : w.ownsRow B e s v n xs) : ∀ g, v.ownBlock = some g → g < w.heap.size := fun g hg => by
  rcases h.2 with ⟨h0, _⟩ | ⟨g', cap, cur, h1, h2, h3, h4⟩
  · rw [h0] at hg; simp [Value.ownBlock] at hg
  · rw [h1] at hg; simp [Value.ownBlock] at hg; subst hg; exact lt_of_block h3
theorem w64_id (d r : Int) (d0 : 0 ≤ d) (d1 : d ≤ 10000) (r0 : 0 ≤ r) (r1 : r < 4) : wrap64 (1 + r) = 1 + r ∧ wrap64 (d + (1 + r)) = d + (1 + r) := by unfold wrap64; omega

set_option maxRecDepth 100000 in
set_option maxHeartbeats 4000000 in
theorem drawSections (a : Option Addr) (n cap : Nat) (w : World) (hb : Bys w a n w.heap.size) :
    Calls Try.prog 19 #[.slice a n cap] w fun e w' => ∃ (v : Value) (L : List (Int × ByteArray)), e = .returned v ∧ L.length ≤ 4 ∧ Hid (∀ x ∈ L, x.2.size ≤ 1001) ∧ Hid (w'.ownsRow (w.heap.size + 1) 44 2 v L.length (sv L)) ∧ Below w.heap.size w w' := by
  obtain ⟨i0, hi, hz0, hz1, hz2⟩ := info_parts Try.infoS
  have C0 := cur_new w a n cap 69 hb
  have N0 := below_new w (.cells #[.slice a n cap, .int .i64 0, .int .u64 0] 69)
  obtain ⟨g, hg⟩ : ∃ g, w.heap.size = g := ⟨_, rfl⟩
  have HG : Hid (w.heap.size = g) := hg
  rw [hg] at C0 N0 ⊢
  go_enter Try.func19, Try.ntmps19
  go_wp2_with fail
  refine (curPick 3 (by omega) (by omega) g a n cap g 0 (hid_le (by omega)) _ C0).mono ?_
  rintro e w1 ⟨d, d0, d1, rfl, C1, B1⟩
  go_wp2_with fail
  refine (curPick 5 (by omega) (by omega) g a n cap g (0 + 2) (hid_le (by omega)) _ C1).mono ?_
  rintro e w2 ⟨q, q0, q1, rfl, C2, B2⟩
  obtain ⟨k, rfl⟩ : ∃ k : Nat, q = k := ⟨q.toNat, by omega⟩
  have HB2 : Hid (Below g w w2) := (N0.trans B1.below).trans B2.below
  have HC2 : Hid (Cur w2 g a n cap g (0 + 2 + 2)) := C2
  have HK : Hid (k ≤ 4 ∧ 0 ≤ d ∧ d ≤ 2) := ⟨by omega, d0, by omega⟩
  clear C0 C1 C2 B1 B2 N0 q0 q1 d0 d1 hb hg
  go_wp2
  go_loopw [4, 5, 6] (fun vl vd vi wr => ∃ (j : Nat) (L : List (Int × ByteArray)) (d : Int) (V : Value), V = vl ∧ vd = .int .i64 d ∧ vi = .int .i64 (j : Int) ∧ Hid (L.length + j = k ∧ 0 ≤ d ∧ d ≤ 100 + 100 * (L.length : Int) ∧ ∀ x ∈ L, x.2.size ≤ 1001) ∧ Hid (wr.ownsRow (g + 1) 44 2 V L.length (sv L)) ∧ Hid (Cur wr g a n cap g (4 + 100 * L.length) ∧ Below g w wr)) (fun _ _ vi _ => (intOf vi).toNat)
  case atStart => exact ⟨k, [], d, _, rfl, rfl, rfl, ⟨by simp, HK.out.2.1, by have := HK.out; simp; omega, by simp⟩, World.ownsRow_nil _ _ _ _, HC2.out.more (by omega), HB2.out⟩
  case round =>
    clear HC2 HB2
    obtain ⟨j, L, d, V, rfl, rfl, rfl, hF, hown, hC⟩ := hrel
    by_cases hlt : 0 < j
    · obtain ⟨j, rfl⟩ : ∃ i, j = i + 1 := ⟨j - 1, by omega⟩
      have hji : (0 : Int) < ((j + 1 : Nat) : Int) := by omega
      have hLk : L.length ≤ 3 ∧ j ≤ 4 := by have h1 := hF.out; have h2 := HK.out; omega
      obtain ⟨c, hc⟩ : ∃ c, 4 + 100 * L.length = c := ⟨_, rfl⟩
      have hc4 : c ≤ 404 := by omega
      rw [hc] at hC
      have HCC : Hid (4 + 100 * L.length = c) := hc
      have hgl : g < wr.heap.size := hC.out.1.lt
      clear hc
      go_wp2_with fail
      refine (curPick 20 (by omega) (by omega) g a n cap g c (hid_le (by omega)) _ hC.out.1).mono ?_
      rintro e w3 ⟨q, q0, q1, rfl, C3, B3⟩
      obtain ⟨t, rfl⟩ : ∃ t : Nat, q = t := ⟨q.toNat, by omega⟩
      have hown3 : Hid (w3.ownsRow (g + 1) 44 2 V L.length (sv L)) := own_blk hown.out (fun x hx hl => B3.blk x (by omega) hl)
      have HB3 : Hid (Below g w w3) := hC.out.2.trans B3.below
      go_wp2_with fail
      refine (curText t (by omega) g a n cap g (c + 2) (hid_le (by omega)) _ C3).mono ?_
      rintro e w4 ⟨s, hs, rfl, C4, B4⟩
      have hown4 : Hid (w4.ownsRow (g + 1) 44 2 V L.length (sv L)) := own_blk hown3.out (fun x hx hl => B4.blk x (by omega) hl)
      have HB4 : Hid (Below g w w4) := HB3.out.trans B4.below
      have hg4 : g < w4.heap.size := C4.lt
      obtain ⟨z, hz⟩ : ∃ z, w4.heap.size = z := ⟨_, rfl⟩
      obtain ⟨w5, hw5⟩ : ∃ W, w4.alloc (.cells #[.int .i64 d, .string s] 44) = W := ⟨_, rfl⟩
      have hz5 : w5.heap[z]? = some (.cells #[.int .i64 d, .string s] 44 (0, 0)) := by rw [← hw5, ← hz]; exact heap_alloc_new _ _
      have C5 : Cur w5 g a n cap g (c + 2 + 2 * t) := by rw [← hw5]; exact C4.alloc _
      have hown5 : Hid (w5.ownsRow (g + 1) 44 2 V L.length (sv L)) := by unfold Hid; rw [← hw5]; exact hown4.out.alloc _
      have HB5 : Hid (Below g w w5) := by unfold Hid; rw [← hw5]; exact HB4.out.alloc (by omega) _
      have HW5 : Hid (w4.alloc (.cells #[.int .i64 d, .string s] 44) = w5 ∧ w4.heap.size = z ∧ g < z) := ⟨hw5, hz, by omega⟩
      have hgz : z ≠ g := by omega
      have HRB : Hid (∀ b, V.ownBlock = some b → b < z) := fun b hb => by have := own_ltQ hown4.out b hb; omega
      have HSS : Hid (s.size ≤ 1001) := by unfold Hid; omega
      have ht20 : t < 20 := by omega
      clear C3 B3 C4 B4 hown hown3 hown4 HB3 HB4 hC hw5 hz hg4 hgl q0 q1 hs
      go_wp2_with fail
      rw [HW5.out.1, HW5.out.2.1]
      refine (curOne 20 (by omega) (by omega) g a n cap g (c + 2 + 2 * t) (hid_le (by omega)) _ C5).mono ?_
      rintro e w6 ⟨o, rfl, C6, B6⟩
      have hown6 : Hid (w6.ownsRow (g + 1) 44 2 V L.length (sv L)) := own_blk hown5.out (fun x hx hl => B6.blk x (by omega) hl)
      have HB6 : Hid (Below g w w6) := HB5.out.trans B6.below
      have hz6 := (B6.blk z hgz (lt_of_block hz5)).trans hz5
      clear C5 B6 hown5 HB5 hz5
      cases o
      · have z0 : w6.cell? ⟨z, 0, none⟩ = some (.int .i64 d) := (cell_of_block hz6 0).trans rfl
        have z1 : w6.cell? ⟨z, 1, none⟩ = some (.string s) := (cell_of_block hz6 1).trans rfl
        have hsz : g + 1 ≤ w6.heap.size := by have := C6.lt; omega
        go_wp2_with (at_builtin; refine wpList_append_own _ rfl _ _ 37 rfl (g + 1) 44 i0 (.agg #[.int .i64 0, .string ⟨#[]⟩]) 2 24 Try.underlying37 hi hz0 hz1 hz2 rfl (by decide) _ _ _ rfl (hown6.out.alloc _) ⟨w6.heap.size, 0, none⟩ 1 1 [.int .i64 d, .string s] rfl rfl ?p1 ?p2 ?p4 ?p5 ?p6 ?_)
        case p1 => exact two_new _ _ _ _
        case p2 => intro u hu; simp at hu; rcases hu with rfl | rfl <;> rfl
        case p4 => unfold maxLen; omega
        case p5 => omega
        case p6 => simp; omega
        intro v' w8 hown8 hgrow _
        rw [sv_app L (d, s)] at hown8
        have hb8 : Below (g + 1) w6 w8 := ((Below.refl _ _).alloc hsz _).grown hgrow (by simp; omega) (ownsRow_block hown6.out)
        have C8 := C6.low (Nat.lt_succ_self g) hb8
        have HB8 : Hid (Below g w w8) := HB6.out.trans (hb8.mono (by omega))
        have HO8 : Hid (w8.ownsRow (g + 1) 44 2 v' (L ++ [(d, s)]).length (sv (L ++ [(d, s)]))) := by unfold Hid; simpa using hown8
        clear hgrow hown8 hb8 z0 z1 hown6 HB6 hz6 C6
        go_wp2_with fail
        refine (curPick 4 (by omega) (by omega) g a n cap g (c + 2 + 2 * t + 2) (hid_le (by omega)) _ C8).mono ?_
        rintro e w9 ⟨r, r0, r1, rfl, C9, B9⟩
        have HO9 : Hid (w9.ownsRow (g + 1) 44 2 v' (L ++ [(d, s)]).length (sv (L ++ [(d, s)]))) := own_blk HO8.out (fun x hx hl => B9.blk x (by omega) hl)
        have HB9 : Hid (Below g w w9) := HB8.out.trans B9.below
        have hw := w64_id d r (by have := hF.out; omega) (by have := hF.out; omega) r0 r1
        have hwa := hw.1
        have hwb := hw.2
        clear hw B9 HO8 HB8 C8
        go_wp2_with fail
        refine (curOne 20 (by omega) (by omega) g a n cap g (c + 2 + 2 * t + 2 + 2) (hid_le (by omega)) _ C9).mono ?_
        rintro e wa ⟨o2, rfl, Ca, Ba⟩
        have HOa : Hid (wa.ownsRow (g + 1) 44 2 v' (L ++ [(d, s)]).length (sv (L ++ [(d, s)]))) := own_blk HO9.out (fun x hx hl => Ba.blk x (by omega) hl)
        have HBa : Hid (Below g w wa) := HB9.out.trans Ba.below
        have HALL : Hid (∀ x ∈ L ++ [(d, s)], x.2.size ≤ 1001) := fun x hx => by
          rcases List.mem_append.1 hx with h | h
          · exact hF.out.2.2.2 x h
          · simp at h; rw [h]; exact HSS.out
        clear Ba HO9 HB9 C9
        cases o2
        · go_wp2
          go_roundw
          case rel => exact ⟨j, L ++ [(d, s)], d + (1 + r), _, rfl, by first | rfl | (rw [hwa, hwb]) | (simp only [hwa, hwb]), by first | go_num | (congr 1; omega), ⟨by have := hF.out; simp; omega, by have := hF.out; omega, by have := hF.out; simp; omega, HALL.out⟩, HOa, ⟨Ca.more (by have := HCC.out; simp; omega), HBa.out⟩⟩
          case measure => first | (simp [intOf]; done) | (simp [intOf]; omega)
        · go_wp2_with fail
          refine (curPick 23 (by omega) (by omega) g a n cap g (c + 2 + 2 * t + 2 + 2 + 2) (hid_le (by omega)) _ Ca).mono ?_
          rintro e wb ⟨x, x0, x1, rfl, Cb, Bb⟩
          have HOb : Hid (wb.ownsRow (g + 1) 44 2 v' (L ++ [(d, s)]).length (sv (L ++ [(d, s)]))) := own_blk HOa.out (fun y hy hl => Bb.blk y (by omega) hl)
          have HBb : Hid (Below g w wb) := HBa.out.trans Bb.below
          clear Bb HOa HBa Ca
          go_wp2
          go_roundw
          case rel => exact ⟨j, L ++ [(d, s)], x, _, rfl, rfl, by first | go_num | (congr 1; omega), ⟨by have := hF.out; simp; omega, x0, by simp; omega, HALL.out⟩, HOb, ⟨Cb.more (by have := HCC.out; simp; omega), HBb.out⟩⟩
          case measure => first | (simp [intOf]; done) | (simp [intOf]; omega)
      · go_wp2_with fail
        refine (curPick 2 (by omega) (by omega) g a n cap g (c + 2 + 2 * t + 2) (hid_le (by omega)) _ C6).mono ?_
        rintro e w7 ⟨q, q0, q1, rfl, C7, B7⟩
        obtain ⟨k7, hk7⟩ : ∃ k : Nat, 1000 + q = (k : Int) := ⟨(1000 + q).toNat, by omega⟩
        have hmk := madeU8 k7 (by omega) w7
        have hbl : (w7.alloc (.cells (madeCells (Value.int .u8 0).cells k7) 5)).heap[w7.heap.size]? = some (.cells (madeCells (Value.int .u8 0).cells k7) 5 (0, 0)) := heap_alloc_new _ _
        have hcv : (convert 22 9 (.slice (some ⟨w7.heap.size, 0, none⟩) k7 k7)).run Try.prog (w7.alloc (.cells (madeCells #[.int .u8 0] k7) 5)) = .ok (.string (zeros k7)) (w7.alloc (.cells (madeCells #[.int .u8 0] k7) 5)) := madeTold _ _ k7 hbl
        obtain ⟨S, hSe⟩ : ∃ s, zeros k7 = s := ⟨_, rfl⟩
        have hS : S.size = k7 := by rw [← hSe]; exact zeros_size k7
        rw [hSe] at hcv
        have HSSY : Hid (S.size ≤ 1001) := by unfold Hid; omega
        have hkb7 : k7 ≤ 1001 := by omega
        have hwk7 : wrap64 (k7 : Int) = (k7 : Int) := by unfold wrap64; omega
        have hown7 : Hid (w7.ownsRow (g + 1) 44 2 V L.length (sv L)) := own_blk hown6.out (fun x hx hl => B7.blk x (by omega) hl)
        have HB7 : Hid (Below g w w7) := HB6.out.trans B7.below
        have hz7 := (B7.blk z hgz (lt_of_block hz6)).trans hz6
        have hzl7 := lt_of_block hz7
        have hg7 : g < w7.heap.size := C7.lt
        have hz7a : (w7.alloc (.cells (madeCells #[.int .u8 0] k7) 5)).heap[z]? = some (.cells #[.int .i64 d, .string s] 44 (0, 0)) := (Below.heap_alloc _ _ _ hzl7).trans hz7
        have y1 : (w7.alloc (.cells (madeCells #[.int .u8 0] k7) 5)).cell? ⟨z, 1, none⟩ = some (.string s) := (cell_of_block hz7a 1).trans rfl
        have yf := free_of_block hz7a 1
        have hzY : ((w7.alloc (.cells (madeCells #[.int .u8 0] k7) 5)).setCell ⟨z, 1, none⟩ (.string S)).heap[z]? = some (.cells #[.int .i64 d, .string S] 44 (0, 0)) := heap_setCell_same _ _ _ _ _ _ hz7a
        have CY : Cur ((w7.alloc (.cells (madeCells #[.int .u8 0] k7) 5)).setCell ⟨z, 1, none⟩ (.string S)) g a n cap g (c + 2 + 2 * t + 2 + 2) := (C7.alloc _).other z 1 _ hgz (by have := HW5.out.2.2; omega)
        have hownY : Hid (((w7.alloc (.cells (madeCells #[.int .u8 0] k7) 5)).setCell ⟨z, 1, none⟩ (.string S)).ownsRow (g + 1) 44 2 V L.length (sv L)) := by
          refine own_keepQ hown7.out fun b hb => ?_
          have h1 := HRB.out b hb
          exact (heap_setCell_other _ ⟨z, 1, none⟩ b _ (show b ≠ z by omega)).trans (Below.heap_alloc _ _ _ (by omega))
        have HBY : Hid (Below g w ((w7.alloc (.cells (madeCells #[.int .u8 0] k7) 5)).setCell ⟨z, 1, none⟩ (.string S))) := (HB7.out.alloc (by have := C7.lt; omega) _).setCell (by have := HW5.out.2.2; show g ≤ z; omega) _
        clear hown7 HB7 hz7 hzl7 hz7a C7 B7 hown6 HB6 hz6 C6 hbl hS hSe q0 q1 HSS
        have z0 : ((w7.alloc (.cells (madeCells #[.int .u8 0] k7) 5)).setCell ⟨z, 1, none⟩ (.string S)).cell? ⟨z, 0, none⟩ = some (.int .i64 d) := (cell_of_block hzY 0).trans rfl
        have z1 : ((w7.alloc (.cells (madeCells #[.int .u8 0] k7) 5)).setCell ⟨z, 1, none⟩ (.string S)).cell? ⟨z, 1, none⟩ = some (.string S) := (cell_of_block hzY 1).trans rfl
        have hsz : g + 1 ≤ ((w7.alloc (.cells (madeCells #[.int .u8 0] k7) 5)).setCell ⟨z, 1, none⟩ (.string S)).heap.size := by have := CY.lt; omega
        go_wp2_with (at_builtin; refine wpList_append_own _ rfl _ _ 37 rfl (g + 1) 44 i0 (.agg #[.int .i64 0, .string ⟨#[]⟩]) 2 24 Try.underlying37 hi hz0 hz1 hz2 rfl (by decide) _ _ _ rfl (hownY.out.alloc _) ⟨w7.heap.size + 1, 0, none⟩ 1 1 [.int .i64 d, .string S] rfl rfl ?p1 ?p2 ?p4 ?p5 ?p6 ?_)
        case p1 => intro i u hu; have e : ((w7.alloc (.cells (madeCells #[.int .u8 0] k7) 5)).setCell ⟨z, 1, none⟩ (.string S)).heap.size = w7.heap.size + 1 := (by simp); have h := two_new ((w7.alloc (.cells (madeCells #[.int .u8 0] k7) 5)).setCell ⟨z, 1, none⟩ (.string S)) _ _ 44 i u hu; rw [e] at h; exact h
        case p2 => intro u hu; simp at hu; rcases hu with rfl | rfl <;> rfl
        case p4 => unfold maxLen; omega
        case p5 => omega
        case p6 => simp; omega
        intro v' w8 hown8 hgrow _
        rw [sv_app L (d, S)] at hown8
        have hb8 : Below (g + 1) ((w7.alloc (.cells (madeCells #[.int .u8 0] k7) 5)).setCell ⟨z, 1, none⟩ (.string S)) w8 := ((Below.refl _ _).alloc hsz _).grown hgrow (by simp; omega) (ownsRow_block hownY.out)
        have C8 := CY.low (Nat.lt_succ_self g) hb8
        have HB8 : Hid (Below g w w8) := HBY.out.trans (hb8.mono (by omega))
        have HO8 : Hid (w8.ownsRow (g + 1) 44 2 v' (L ++ [(d, S)]).length (sv (L ++ [(d, S)]))) := by unfold Hid; simpa using hown8
        clear hgrow hown8 hb8 z0 z1 hownY HBY hzY CY
        go_wp2_with fail
        refine (curPick 4 (by omega) (by omega) g a n cap g (c + 2 + 2 * t + 2 + 2) (hid_le (by omega)) _ C8).mono ?_
        rintro e w9 ⟨r, r0, r1, rfl, C9, B9⟩
        have HO9 : Hid (w9.ownsRow (g + 1) 44 2 v' (L ++ [(d, S)]).length (sv (L ++ [(d, S)]))) := own_blk HO8.out (fun x hx hl => B9.blk x (by omega) hl)
        have HB9 : Hid (Below g w w9) := HB8.out.trans B9.below
        have hw := w64_id d r (by have := hF.out; omega) (by have := hF.out; omega) r0 r1
        have hwa := hw.1
        have hwb := hw.2
        clear hw B9 HO8 HB8 C8
        go_wp2_with fail
        refine (curOne 20 (by omega) (by omega) g a n cap g (c + 2 + 2 * t + 2 + 2 + 2) (hid_le (by omega)) _ C9).mono ?_
        rintro e wa ⟨o2, rfl, Ca, Ba⟩
        have HOa : Hid (wa.ownsRow (g + 1) 44 2 v' (L ++ [(d, S)]).length (sv (L ++ [(d, S)]))) := own_blk HO9.out (fun x hx hl => Ba.blk x (by omega) hl)
        have HBa : Hid (Below g w wa) := HB9.out.trans Ba.below
        have HALL : Hid (∀ x ∈ L ++ [(d, S)], x.2.size ≤ 1001) := fun x hx => by
          rcases List.mem_append.1 hx with h | h
          · exact hF.out.2.2.2 x h
          · simp at h; rw [h]; exact HSSY.out
        clear Ba HO9 HB9 C9
        cases o2
        · go_wp2
          go_roundw
          case rel => exact ⟨j, L ++ [(d, S)], d + (1 + r), _, rfl, by first | rfl | (rw [hwa, hwb]) | (simp only [hwa, hwb]), by first | go_num | (congr 1; omega), ⟨by have := hF.out; simp; omega, by have := hF.out; omega, by have := hF.out; simp; omega, HALL.out⟩, HOa, ⟨Ca.more (by have := HCC.out; simp; omega), HBa.out⟩⟩
          case measure => first | (simp [intOf]; done) | (simp [intOf]; omega)
        · go_wp2_with fail
          refine (curPick 23 (by omega) (by omega) g a n cap g (c + 2 + 2 * t + 2 + 2 + 2 + 2) (hid_le (by omega)) _ Ca).mono ?_
          rintro e wb ⟨x, x0, x1, rfl, Cb, Bb⟩
          have HOb : Hid (wb.ownsRow (g + 1) 44 2 v' (L ++ [(d, S)]).length (sv (L ++ [(d, S)]))) := own_blk HOa.out (fun y hy hl => Bb.blk y (by omega) hl)
          have HBb : Hid (Below g w wb) := HBa.out.trans Bb.below
          clear Bb HOa HBa Ca
          go_wp2
          go_roundw
          case rel => exact ⟨j, L ++ [(d, S)], x, _, rfl, rfl, by first | go_num | (congr 1; omega), ⟨by have := hF.out; simp; omega, x0, by simp; omega, HALL.out⟩, HOb, ⟨Cb.more (by have := HCC.out; simp; omega), HBb.out⟩⟩
          case measure => first | (simp [intOf]; done) | (simp [intOf]; omega)
    · obtain rfl : j = 0 := by omega
      have hf := hF.out
      have hk4 := HK.out
      go_wp2
      go_ret
      exact ⟨_, L, rfl, by omega, hf.2.2.2, hown, hC.out.2⟩

end Go.Proofs.Ytnimlkobcginjaa
