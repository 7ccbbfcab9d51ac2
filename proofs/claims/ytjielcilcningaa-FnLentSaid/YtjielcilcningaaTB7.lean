/-
  A table is opened: the program's side.
-/
import Derived.Test.YtjielcilcningaaTB4
import Derived.Test.YtjielcilcningaaTB5
import Derived.Test.YtjielcilcningaaTB6
namespace Go.Proofs.Ytjielcilcningaa
open Go.ChangeShapes Go.WideShapes Go.ChangeAt Go.RowKit Go.Maps

/-- A good table that is open: the struct at block x, the map at block m, all from B on. -/
structure OT (B : Nat) (w : World) (x m : Nat) (S : List Hd) (F : List Int) (v : Value) : Prop where
  xB : B ≤ x
  mB : B ≤ m
  xb : w.heap[x]? = some (.cells #[v, .map (some m)] 63 (0, 0))
  row : w.ownsRow B 28 6 v S.length (hv S)
  free : FreeM w m F
theorem OT.below {B : Nat} {w w' : World} {x m : Nat} {S : List Hd} {F : List Int} {v : Value} (h : OT B w x m S F v) (hb : Below w.heap.size w w') : OT B w' x m S F v :=
  ⟨h.xB, h.mB, (hb.block x (lt_of_block h.xb)).trans h.xb, ownT_kept h.row hb, h.free.kept (hb.block m h.free.lt)⟩
theorem map_ne {w : World} {x m : Nat} {arr : Array Value} {T : TypeId} {F : List Int} (h : w.heap[x]? = some (.cells arr T (0, 0))) (hm : FreeM w m F) : x ≠ m := fun e => by
  obtain ⟨D, ⟨es, clock, hb, _⟩, _⟩ := hm
  rw [← e, h] at hb
  cases hb
theorem OT.turned {B : Nat} {w w' : World} {x m : Nat} {S : List Hd} {F F' : List Int} {v : Value} (h : OT B w x m S F v) (ht : w.mapTurned w' m) (hf : FreeM w' m F') : OT B w' x m S F' v := by
  have hg := ht.grown
  refine ⟨h.xB, h.mB, (hg.block x (lt_of_block h.xb) (by simpa using map_ne h.xb h.free)).trans h.xb, own_keep h.row (fun g hgg => ?_), hf⟩
  obtain ⟨cur, hc, _⟩ := own_at h.row hgg
  exact hg.block g (lt_of_block hc) (by simpa using map_ne hc h.free)
theorem turned_below {B : Nat} {V w w' : World} {m : Nat} (h : Below B V w) (ht : w.mapTurned w' m) (hm : B ≤ m) (hs : B ≤ w.heap.size) : Below B V w' := h.grown ht.grown hs (fun k hk => by cases hk; exact hm)

/-- What the reading of a table tells, and what it leaves. -/
def ReadPost (V : World) (x m : Nat) (S : List Hd) (F : List Int) (e : Ending) (w' : World) : Prop :=
  Below V.heap.size V w' ∧ ((e = .returned (.bool true) ∧ GoodT S F ∧ ∃ v, OT V.heap.size w' x m S F v) ∨ (e = .returned (.bool false) ∧ ¬ GoodT S F ∧ ∃ v F', w'.heap[x]? = some (.cells #[v, .map (some m)] 63 (0, 0)) ∧ FreeM w' m F'))
/-- What is known of the first k free numbers, on the program's side. -/
def InTo (S : List Hd) (F : List Int) (k : Nat) : Prop := (F.take k).Nodup ∧ ∀ x ∈ F.take k, 0 ≤ x ∧ x < (S.length : Int)
def UsedTo (S : List Hd) (F : List Int) (k : Nat) : Prop := ∀ j (h : j < S.length), j < k → ((j : Int) ∈ F → isZ S[j] = true) ∧ ((j : Int) ∉ F → okH S[j] = true)
theorem take_more {F : List Int} {k : Nat} {x : Int} (hk : k < F.length) (hx : F[k] = x) : F.take (k + 1) = F.take k ++ [x] := by rw [List.take_add_one, List.getElem?_eq_getElem hk, hx]; rfl
theorem InTo.more {S : List Hd} {F : List Int} {k : Nat} (h : InTo S F k) {x : Int} (hk : k < F.length) (hx : F[k] = x) (h1 : 0 ≤ x ∧ x < (S.length : Int)) (h3 : x ∉ F.take k) : InTo S F (k + 1) := by
  refine ⟨?_, ?_⟩
  · rw [take_more hk hx, List.nodup_append]
    exact ⟨h.1, by simp, fun a ha b hb => by simp at hb; subst hb; exact fun e => h3 (e ▸ ha)⟩
  · intro y hy
    rw [take_more hk hx, List.mem_append] at hy
    rcases hy with hy | hy
    · exact h.2 y hy
    · simp at hy; subst hy; exact h1
theorem free_no4 {S : List Hd} {F : List Int} {k : Nat} {x : Int} (hk : k < F.length) (hx : F[k] = x) (hm : x ∈ F.take k) : ¬ GoodT S F := fun hg => by
  obtain ⟨j, hj, he⟩ := List.mem_take_iff_getElem.1 hm
  exact free_no3 hk hx (show j < F.length by omega) (by omega) he hg
theorem UsedTo.more {S : List Hd} {F : List Int} {k : Nat} (h : UsedTo S F k) {f : Hd} (hk : k < S.length) (hf : S[k] = f) (h1 : (k : Int) ∈ F → isZ f = true) (h2 : (k : Int) ∉ F → okH f = true) : UsedTo S F (k + 1) := fun j hj hjk => by
  by_cases e : j = k
  · subst e; rw [hf]; exact ⟨h1, h2⟩
  · exact h j hj (by omega)
theorem used_no {S : List Hd} {F : List Int} {k : Nat} {f : Hd} (hk : k < S.length) (hf : S[k] = f) (h : ((k : Int) ∈ F ∧ isZ f = false) ∨ ((k : Int) ∉ F ∧ okH f = false)) : ¬ GoodT S F := fun hg => by
  have h1 := hg.2.2.2 k hk
  rw [hf] at h1
  rcases h with ⟨a, b⟩ | ⟨a, b⟩
  · rw [h1.1 a] at b; cases b
  · rw [h1.2 a] at b; cases b

theorem OT.hds {B : Nat} {w : World} {x m : Nat} {S : List Hd} {F : List Int} {a : Option Addr} {n c : Nat} (h : OT B w x m S F (.slice a n c)) : Hds w a S := by
  obtain ⟨a', c', e, h1, _⟩ := own_hds h.row
  simp only [Value.slice.injEq] at e
  rw [e.1]
  exact h1
theorem OT.isFree {B : Nat} {w : World} {x m : Nat} {S : List Hd} {F : List Int} {v : Value} (h : OT B w x m S F v) (y : Int) (hy : -9223372036854775808 ≤ y ∧ y ≤ 9223372036854775807) {r : Bool} (hr : decide (y ∈ F) = r) :
    ∀ w', Below w.heap.size w w' → Calls Try.prog 43 #[.pointer (some ⟨x, 0, none⟩), .int .i64 y] w' fun e w'' => e = .returned (.bool r) ∧ w'' = w' := fun w' hb => by
  subst hr
  have h' := h.below hb
  exact implFree x m F y w' ((cell_of_block h'.xb 1).trans rfl) h'.free (WalkArith.wf_i64 hy)

set_option maxRecDepth 1000000 in
set_option maxHeartbeats 6400000 in
theorem implRead (V : World) (x m : Nat) (a b : Option Addr) (c d : Nat) (S : List Hd) (F : List Int) (w : World) (hS : Hid (Hds V a S)) (hF : Hid (Ints V b F)) (lS : S.length ≤ 1048576) (lF : F.length ≤ 1048576) (okF : Hid (∀ x ∈ F, -9223372036854775808 ≤ x ∧ x ≤ 9223372036854775807))
    (hVw : Hid (Below V.heap.size V w)) (hx : Hid (V.heap.size ≤ x)) (hm : Hid (V.heap.size ≤ m)) (hxb : Hid (w.heap[x]? = some (.cells #[.slice none 0 0, .map (some m)] 63 (0, 0)))) (hfm : Hid (FreeM w m [])) :
    Calls Try.prog 38 #[.pointer (some ⟨x, 0, none⟩), tabV a S.length c b F.length d] w fun e w' => ReadPost V x m S F e w' := by
  obtain ⟨n, hn⟩ : ∃ n, S.length = n := ⟨_, rfl⟩
  obtain ⟨k0, hk0⟩ : ∃ m, F.length = m := ⟨_, rfl⟩
  obtain ⟨g, hg⟩ : ∃ g, w.heap.size = g := ⟨_, rfl⟩
  have HN : Hid (S.length = n) := hn
  have HM : Hid (F.length = k0) := hk0
  have HG : Hid (w.heap.size = g) := hg
  have HXG : Hid (x < g ∧ m < g ∧ V.heap.size ≤ g) := ⟨by have := lt_of_block hxb.out; omega, by have := hfm.out.lt; omega, by have := hVw.out.size; omega⟩
  unfold tabV
  rw [hn] at lS ⊢
  rw [hk0] at lF ⊢
  clear hn hk0
  by_cases h40 : n ≤ 40
  · obtain ⟨W1, hW1⟩ : ∃ W, (w.alloc (.cells #[.slice a n c, .slice b k0 d] 26)).alloc (.cells #[.slice a n c] 23) = W := ⟨_, rfl⟩
    have hbW : Below w.heap.size w W1 := by rw [← hW1]; exact bel_alloc (bel_alloc (Below.refl _ _) _) _
    have hp1 : W1.heap[g]? = some (.cells #[.slice a n c, .slice b k0 d] 26 (0, 0)) := by rw [← hW1, ← hg]; exact (Below.heap_alloc _ _ _ (by simp)).trans (heap_alloc_new _ _)
    have hq1 : W1.heap[g + 1]? = some (.cells #[.slice a n c] 23 (0, 0)) := by
      have h := heap_alloc_new (w.alloc (.cells #[.slice a n c, .slice b k0 d] 26)) (.cells #[.slice a n c] 23)
      rw [← hW1, ← hg]; simpa using h
    have hVW1 : Below V.heap.size V W1 := hVw.out.trans (hbW.mono hVw.out.size)
    have C := concatH a c S (g + 1) W1 (by rw [HN.out]; exact (cell_of_block hq1 0).trans rfl) (lt_of_block hq1) (hS.out.below hVW1) (by have := HN.out; omega)
    have hsW : W1.heap.size = g + 1 + 1 := by rw [← hW1, ← hg]; simp
    rw [hsW] at C
    have HV1 : Hid (Below V.heap.size V W1 ∧ Below w.heap.size w W1) := ⟨hVW1, hbW⟩
    clear hVW1 hbW hq1
    go_enter Try.func38, Try.ntmps38
    have h41 : decide ((40 : Int) < (n : Int)) = false := by simp; omega
    go_wp2_with fail
    clear hW1 hg
    refine C.mono ?_
    rintro e w2 ⟨v, rfl, hown, hb2⟩
    have hown' := hown.out
    obtain ⟨av, cv, rfl, _, _⟩ := own_hds hown'
    rw [HN.out] at hown' ⊢
    have HV2 : Hid (Below V.heap.size V w2) := HV1.out.1.trans (hb2.mono (by have := HXG.out; omega))
    have hp2 := (hb2.block g (by omega)).trans hp1
    have hx2 : w2.heap[x]? = some (.cells #[.slice none 0 0, .map (some m)] 63 (0, 0)) := (hb2.block x (by have := HXG.out; omega)).trans ((HV1.out.2.block x (lt_of_block hxb.out)).trans hxb.out)
    have hf2 : FreeM w2 m [] := (hfm.out.kept (HV1.out.2.block m hfm.out.lt)).kept (hb2.block m (by have := HXG.out; omega))
    have c0 : w2.cell? ⟨x, 0, none⟩ = some (.slice none 0 0) := (cell_of_block hx2 0).trans rfl
    have f0 := free_of_block hx2 0
    obtain ⟨W3, hW3⟩ : ∃ W, w2.setCell ⟨x, 0, none⟩ (.slice av n cv) = W := ⟨_, rfl⟩
    have hp3 : W3.heap[g]? = some (.cells #[.slice a n c, .slice b k0 d] 26 (0, 0)) := by
      rw [← hW3]; exact (heap_setCell_other _ ⟨x, 0, none⟩ g _ (show g ≠ x by have := HXG.out; omega)).trans hp2
    have HOT3 : Hid (OT V.heap.size W3 x m S [] (.slice av n cv)) := by
      refine ⟨hx.out, hm.out, by rw [← hW3]; exact heap_setCell_same _ _ _ _ _ _ hx2, ?_, ?_⟩
      · rw [← hW3, HN.out]
        exact own_keep (ownT_base hown' (by have := HXG.out; omega)) (fun q hq => heap_setCell_other _ ⟨x, 0, none⟩ q _ (by have := (hown'.lt q hq).1; have := HXG.out; show q ≠ x; omega))
      · rw [← hW3]
        exact hf2.kept (heap_setCell_other _ ⟨x, 0, none⟩ m _ (fun e => map_ne hx2 hf2 e.symm))
    have HV3 : Hid (Below V.heap.size V W3) := by unfold Hid; rw [← hW3]; exact HV2.out.setCell hx.out _
    have p1 : W3.cell? ⟨g, 1, none⟩ = some (.slice b k0 d) := (cell_of_block hp3 1).trans rfl
    clear hown hown' hb2 hp1 hp2 hx2 hf2 HV1 HV2 C hsW hxb hfm hVw
    go_wp2
    clear hW3 c0 f0 p1
    go_loopw [23] (fun i wr => ∃ (k : Nat), k ≤ k0 ∧ i = .int .i64 k ∧ Hid (InTo S F k) ∧ Hid (OT V.heap.size wr x m S (F.take k) (.slice av n cv)) ∧ Hid (Below V.heap.size V wr)) (fun i _ => k0 - (intOf i).toNat)
    case atStart => exact ⟨0, by omega, rfl, ⟨by simp, by simp⟩, HOT3, HV3⟩
    case round =>
      clear HOT3 HV3 hp3
      obtain ⟨k, hk, rfl, hin, hot, hB⟩ := hrel
      have c0 : wr.cell? ⟨x, 0, none⟩ = some (.slice av n cv) := (cell_of_block hot.out.xb 0).trans rfl
      have c1 : wr.cell? ⟨x, 1, none⟩ = some (.map (some m)) := (cell_of_block hot.out.xb 1).trans rfl
      by_cases hlt : k < k0
      · obtain ⟨b2, o2, rfl, hb2, hc2⟩ := (hF.out.below hB.out).at k (by have := HM.out; omega)
        obtain ⟨y, hy⟩ : ∃ x, F[k]'(by have := HM.out; omega) = x := ⟨_, rfl⟩
        rw [hy] at hc2
        have HY : Hid (F[k]'(by have := HM.out; omega) = y) := hy
        have hyok := okF.out y (hy ▸ List.getElem_mem _)
        clear hy
        obtain ⟨r, hr⟩ : ∃ r, decide (y ∈ F.take k) = r := ⟨_, rfl⟩
        have IF := hot.out.isFree y hyok hr wr (Below.refl _ _)
        have HR : Hid (decide (y ∈ F.take k) = r) := hr
        have HYO : Hid (-9223372036854775808 ≤ y ∧ y ≤ 9223372036854775807) := hyok
        clear hr hyok
        cases r
        · obtain ⟨rb, hrb⟩ : ∃ r, Hid ((decide (0 ≤ y) && decide (y ≤ (n : Int) - 1)) = r) := ⟨_, rfl⟩
          have IN := within_eq y ((n : Int) - 1) rb hrb
          cases rb
          · have hno : Hid (¬ GoodT S F) := by
              refine free_no1 (by have := HM.out; omega) HY.out (fun h => ?_)
              have h1 := hrb.out
              have h3 := HN.out
              simp at h1
              omega
            clear hrb
            go_wp2_with fail
            refine IF.mono ?_
            rintro e w' ⟨rfl, hw⟩
            obtain rfl := hw.symm
            clear hw IF
            go_wp2_with fail
            refine (IN _).mono ?_
            rintro e w' ⟨rfl, hw⟩
            obtain rfl := hw.symm
            clear hw IN
            go_wp2
            go_ret
            exact ⟨hB.out, .inr ⟨rfl, hno.out, _, _, hot.out.xb, hot.out.free⟩⟩
          · have hnm : y ∉ F.take k := by have h := HR.out; simpa using h
            have hlk : (F.take k).length = k := by rw [List.length_take]; have := HM.out; omega
            obtain ⟨w4, hmu, hf4, ht4⟩ := hot.out.free.put (WalkArith.wf_i64 HYO.out) hnm (by rw [hlk]; omega)
            rw [hlk] at hmu
            have HOT4 : Hid (OT V.heap.size w4 x m S (F.take (k + 1)) (.slice av n cv)) := by
              unfold Hid; rw [take_more (by have := HM.out; omega) HY.out]; exact hot.out.turned ht4 hf4
            have HB4 : Hid (Below V.heap.size V w4) := turned_below hB.out ht4 hm.out hB.out.size
            have HIN4 : Hid (InTo S F (k + 1)) := hin.out.more (by have := HM.out; omega) HY.out (by have h1 := hrb.out; have h3 := HN.out; simp at h1; omega) hnm
            clear hf4 ht4 hnm hlk hrb HYO
            go_wp2_with fail
            refine IF.mono ?_
            rintro e w' ⟨rfl, hw⟩
            obtain rfl := hw.symm
            clear hw IF
            go_wp2_with fail
            refine (IN _).mono ?_
            rintro e w' ⟨rfl, hw⟩
            obtain rfl := hw.symm
            clear hw IN
            go_wp2
            go_roundw
            case rel => exact ⟨k + 1, by omega, by go_num, HIN4, HOT4, HB4⟩
            case measure => simp [intOf]; omega
        · have hno : Hid (¬ GoodT S F) := free_no4 (by have := HM.out; omega) HY.out (by have h := HR.out; simpa using h)
          go_wp2_with fail
          refine IF.mono ?_
          rintro e w' ⟨rfl, hw⟩
          obtain rfl := hw.symm
          clear hw IF
          go_wp2
          go_ret
          exact ⟨hB.out, .inr ⟨rfl, hno.out, _, _, hot.out.xb, hot.out.free⟩⟩
      · obtain rfl : k = k0 := by omega
        have HIN : Hid (F.Nodup ∧ ∀ x ∈ F, 0 ≤ x ∧ x < (S.length : Int)) := by
          have h := hin.out
          unfold InTo at h
          rw [← HM.out, List.take_length] at h
          exact h
        have HOT : Hid (OT V.heap.size wr x m S F (.slice av n cv)) := by
          have h := hot.out
          rw [← HM.out, List.take_length] at h
          exact h
        clear hin hot hk c1
        go_wp2
        clear c0
        go_loopw [54] (fun i wx => ∃ (j : Nat), j ≤ n ∧ i = .int .i64 j ∧ Hid (UsedTo S F j) ∧ Hid (OT V.heap.size wx x m S F (.slice av n cv)) ∧ Hid (Below V.heap.size V wx)) (fun i _ => n - (intOf i).toNat)
        case atStart => exact ⟨0, by omega, rfl, fun j _ h => absurd h (by omega), HOT, hB⟩
        case round =>
          clear HOT hB
          obtain ⟨j, hj, rfl, hus, hot, hB⟩ := hrel
          by_cases hjn : j < n
          · obtain ⟨b3, o3, rfl, hb3, hc3⟩ := hot.out.hds.at j (by have := HN.out; omega)
            obtain ⟨f, hf⟩ : ∃ f, S[j]'(by have := HN.out; omega) = f := ⟨_, rfl⟩
            rw [hf] at hc3
            have HF : Hid (S[j]'(by have := HN.out; omega) = f) := hf
            clear hf
            obtain ⟨u, r, p, o, l, s⟩ := f
            obtain ⟨d0, d1, d2, d3, d4, d5⟩ := hc3
            simp only at d0 d1 d2 d3 d4 d5
            obtain ⟨WA, hWA⟩ : ∃ W, wr.alloc (.cells #[.bool u, .int .i64 r, .int .i64 p, .bool o, .int .i64 l, .int .i64 s] 28) = W := ⟨_, rfl⟩
            obtain ⟨z, hz⟩ : ∃ z, wr.heap.size = z := ⟨_, rfl⟩
            have hbA : Below wr.heap.size wr WA := by rw [← hWA]; exact bel_alloc (Below.refl _ _) _
            have hzA : WA.heap[z]? = some (.cells #[.bool u, .int .i64 r, .int .i64 p, .bool o, .int .i64 l, .int .i64 s] 28 (0, 0)) := by rw [← hWA, ← hz]; exact heap_alloc_new _ _
            have HBA : Hid (Below V.heap.size V WA) := hB.out.trans (hbA.mono hB.out.size)
            have HOA : Hid (OT V.heap.size WA x m S F (.slice (some ⟨b3, o3, none⟩) n cv)) := hot.out.below hbA
            have z0 : WA.cell? ⟨z, 0, none⟩ = some (.bool u) := (cell_of_block hzA 0).trans rfl
            have z1 : WA.cell? ⟨z, 1, none⟩ = some (.int .i64 r) := (cell_of_block hzA 1).trans rfl
            have z2 : WA.cell? ⟨z, 2, none⟩ = some (.int .i64 p) := (cell_of_block hzA 2).trans rfl
            have z3 : WA.cell? ⟨z, 3, none⟩ = some (.bool o) := (cell_of_block hzA 3).trans rfl
            have z4 : WA.cell? ⟨z, 4, none⟩ = some (.int .i64 l) := (cell_of_block hzA 4).trans rfl
            have z5 : WA.cell? ⟨z, 5, none⟩ = some (.int .i64 s) := (cell_of_block hzA 5).trans rfl
            clear hbA hzA hot hB
            by_cases hmem : (j : Int) ∈ F
            · have IF := HOA.out.isFree (j : Int) (by omega) (r := true) (by simpa using hmem) WA (Below.refl _ _)
              have HME : Hid ((j : Int) ∈ F) := hmem
              have NE := neqH u r p o l s
              obtain ⟨t, ht⟩ : ∃ t, isZ ⟨u, r, p, o, l, s⟩ = t := ⟨_, rfl⟩
              rw [ht] at NE
              have HT : Hid (isZ ⟨u, r, p, o, l, s⟩ = t) := ht
              clear hmem ht
              cases t
              · go_wp2_with fail
                refine IF.mono ?_
                rintro e w' ⟨rfl, hw⟩
                obtain rfl := hw.symm
                clear hw
                go_wp2
                go_ret
                exact ⟨HBA.out, .inr ⟨rfl, used_no _ HF.out (.inl ⟨HME.out, HT.out⟩), _, _, HOA.out.xb, HOA.out.free⟩⟩
              · go_wp2_with fail
                refine IF.mono ?_
                rintro e w' ⟨rfl, hw⟩
                obtain rfl := hw.symm
                clear hw
                go_wp2_with fail
                refine IF.mono ?_
                rintro e w' ⟨rfl, hw⟩
                obtain rfl := hw.symm
                clear hw IF
                go_wp2
                go_roundw
                case rel => exact ⟨j + 1, by omega, by go_num, hus.out.more (by have := HN.out; omega) HF.out (fun _ => HT.out) (fun h => absurd HME.out h), HOA, HBA⟩
                case measure => simp [intOf]; omega
            · have IF := HOA.out.isFree (j : Int) (by omega) (r := false) (by simpa using hmem) WA (Below.refl _ _)
              have HME : Hid ((j : Int) ∉ F) := hmem
              have SH := implHd ⟨u, r, p, o, l, s⟩
              unfold hdV at SH
              simp only at SH
              obtain ⟨t, ht⟩ : ∃ t, okH ⟨u, r, p, o, l, s⟩ = t := ⟨_, rfl⟩
              rw [ht] at SH
              have HT : Hid (okH ⟨u, r, p, o, l, s⟩ = t) := ht
              clear hmem ht
              go_wp2_with fail
              refine IF.mono ?_
              rintro e w' ⟨rfl, hw⟩
              obtain rfl := hw.symm
              clear hw
              go_wp2_with fail
              refine IF.mono ?_
              rintro e w' ⟨rfl, hw⟩
              obtain rfl := hw.symm
              clear hw IF
              go_wp2_with fail
              refine (SH _).mono ?_
              rintro e w5 ⟨rfl, hb5⟩
              have HB5 : Hid (Below V.heap.size V w5) := HBA.out.trans (hb5.mono HBA.out.size)
              have HO5 : Hid (OT V.heap.size w5 x m S F (.slice (some ⟨b3, o3, none⟩) n cv)) := HOA.out.below hb5
              clear hb5 SH HBA HOA
              cases t
              · go_wp2
                go_ret
                exact ⟨HB5.out, .inr ⟨rfl, used_no _ HF.out (.inr ⟨HME.out, HT.out⟩), _, _, HO5.out.xb, HO5.out.free⟩⟩
              · go_wp2
                go_roundw
                case rel => exact ⟨j + 1, by omega, by go_num, hus.out.more (by have := HN.out; omega) HF.out (fun h => absurd h HME.out) (fun _ => HT.out), HO5, HB5⟩
                case measure => simp [intOf]; omega
          · obtain rfl : j = n := by omega
            go_wp2
            go_ret
            refine ⟨hB.out, .inl ⟨rfl, ⟨by have := HN.out; omega, HIN.out.1, HIN.out.2, fun q hq => hus.out q hq (by have := HN.out; omega)⟩, _, hot.out⟩⟩
  · have hno : Hid (¬ GoodT S F) := fun hgd => by have := hgd.1; have := HN.out; omega
    go_enter Try.func38, Try.ntmps38
    go_wp2
    go_ret
    have hbW : Below w.heap.size w (w.alloc (.cells #[.slice a n c, .slice b k0 d] 26)) := bel_alloc (Below.refl _ _) _
    exact ⟨hVw.out.trans (hbW.mono hVw.out.size), .inr ⟨rfl, hno.out, _, _, (hbW.block x (lt_of_block hxb.out)).trans hxb.out, hfm.out.kept (hbW.block m hfm.out.lt)⟩⟩

end Go.Proofs.Ytjielcilcningaa
