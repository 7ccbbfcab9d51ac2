/-
  A module in memory, and its size.
-/
import Derived.Test.YtbliopgdkphoaaaInts
import Derived.Test.YtbliopgdkphoaaaBel
import Derived.Test.YtbliopgdkphoaaaKeep
import Derived.Test.YtbliopgdkphoaaaCBase
import Derived.Test.YtbliopgdkphoaaaCAll
namespace Go.Proofs.Ytbliopgdkphoaaa
open Go.ChangeShapes Go.WideShapes Go.ChangeAt Go.RowKit

/-- The instructions L lie behind the address a. -/
def Inss (w : World) (a : Option Addr) (L : List (Int × Int)) : Prop :=
  L ≠ [] → ∃ b off, a = some ⟨b, off, none⟩ ∧ b < w.heap.size ∧ insAt w b off L
theorem Inss.below {w w' : World} {a : Option Addr} {L : List (Int × Int)} (h : Inss w a L) (hb : Below w.heap.size w w') : Inss w' a L := fun hn => by
  obtain ⟨b, off, rfl, hl, hc⟩ := h hn
  exact ⟨b, off, rfl, Nat.lt_of_lt_of_le hl hb.size, fun i hi => ⟨(hb.cell (p := ⟨b, off + i * 2, none⟩) hl).trans (hc i hi).1, (hb.cell (p := ⟨b, off + i * 2 + 1, none⟩) hl).trans (hc i hi).2⟩⟩
/-- As the walks of chapter 6 want it. -/
theorem Inss.parts {w : World} {a : Option Addr} {L : List (Int × Int)} (h : Inss w a L) : ∃ b off, Hid (L ≠ [] → a = some ⟨b, off, none⟩ ∧ b < w.heap.size) ∧ insAt w b off L := by
  by_cases e : L = []
  · exact ⟨0, 0, fun h => absurd e h, fun i hi => by subst e; simp at hi⟩
  · obtain ⟨b, off, ha, hl, hc⟩ := h e
    exact ⟨b, off, fun _ => ⟨ha, hl⟩, hc⟩
/-- An address that does not lead into block g. -/
def Off (g : Nat) (a : Option Addr) : Prop := ∀ b off, a = some ⟨b, off, none⟩ → b ≠ g
theorem setCell_other_cell (w : World) (g i b j : Nat) (v : Value) (h : b ≠ g) : (w.setCell ⟨g, i, none⟩ v).cell? ⟨b, j, none⟩ = w.cell? ⟨b, j, none⟩ := by
  unfold World.cell?
  rw [heap_setCell_other w ⟨g, i, none⟩ b v h]
theorem Ints.set {w : World} {a : Option Addr} {L : List Int} (h : Ints w a L) {g : Nat} (ho : Off g a) (i : Nat) (v : Value) : Ints (w.setCell ⟨g, i, none⟩ v) a L := fun hn => by
  obtain ⟨b, off, ha, hl, hc⟩ := h hn
  exact ⟨b, off, ha, by simpa using hl, fun j hj => (setCell_other_cell _ _ _ _ _ _ (ho b off ha)).trans (hc j hj)⟩
theorem Inss.set {w : World} {a : Option Addr} {L : List (Int × Int)} (h : Inss w a L) {g : Nat} (ho : Off g a) (i : Nat) (v : Value) : Inss (w.setCell ⟨g, i, none⟩ v) a L := fun hn => by
  obtain ⟨b, off, ha, hl, hc⟩ := h hn
  exact ⟨b, off, ha, by simpa using hl, fun j hj => ⟨(setCell_other_cell _ _ _ _ _ _ (ho b off ha)).trans (hc j hj).1, (setCell_other_cell _ _ _ _ _ _ (ho b off ha)).trans (hc j hj).2⟩⟩

/-- A func: its params, its result, its locals, its body. -/
structure Fun7 where
  ps : List Int
  res : Int
  ls : List Int
  body : List (Int × Int)
/-- A global. -/
structure Glo7 where
  ty : Int
  fixed : Bool
  bits : Int
/-- A module. -/
structure Mod7 where
  fs : List Fun7
  gs : List Glo7
  mem : Bool
  pages : Int
  most : Int
  start : Int

/-- What the slices of a func lead to. -/
def FunRows (w : World) (pa la ba : Option Addr) (f : Fun7) : Prop := Ints w pa f.ps ∧ Ints w la f.ls ∧ Inss w ba f.body
theorem FunRows.below {w w' : World} {pa la ba : Option Addr} {f : Fun7} (h : FunRows w pa la ba f) (hb : Below w.heap.size w w') : FunRows w' pa la ba f := ⟨h.1.below hb, h.2.1.below hb, h.2.2.below hb⟩
theorem FunRows.set {w : World} {pa la ba : Option Addr} {f : Fun7} (h : FunRows w pa la ba f) {g : Nat} (o1 : Off g pa) (o2 : Off g la) (o3 : Off g ba) (i : Nat) (v : Value) : FunRows (w.setCell ⟨g, i, none⟩ v) pa la ba f := ⟨h.1.set o1 i v, h.2.1.set o2 i v, h.2.2.set o3 i v⟩
/-- A func at four cells. -/
def FunAt (w : World) (b o : Nat) (f : Fun7) : Prop :=
  ∃ pa pc la lc ba bc, w.cell? ⟨b, o, none⟩ = some (.slice pa f.ps.length pc) ∧ w.cell? ⟨b, o + 1, none⟩ = some (.int .i64 f.res) ∧ w.cell? ⟨b, o + 2, none⟩ = some (.slice la f.ls.length lc) ∧ w.cell? ⟨b, o + 3, none⟩ = some (.slice ba f.body.length bc) ∧ Hid (FunRows w pa la ba f)
theorem FunAt.below {w w' : World} {b o : Nat} {f : Fun7} (h : FunAt w b o f) (hl : b < w.heap.size) (hb : Below w.heap.size w w') : FunAt w' b o f := by
  obtain ⟨pa, pc, la, lc, ba, bc, h0, h1, h2, h3, hr⟩ := h
  exact ⟨pa, pc, la, lc, ba, bc, (hb.cell (p := ⟨b, o, none⟩) hl).trans h0, (hb.cell (p := ⟨b, o + 1, none⟩) hl).trans h1, (hb.cell (p := ⟨b, o + 2, none⟩) hl).trans h2, (hb.cell (p := ⟨b, o + 3, none⟩) hl).trans h3, hr.out.below hb⟩
/-- The funcs L lie behind the address a. -/
def Funs (w : World) (a : Option Addr) (L : List Fun7) : Prop :=
  L ≠ [] → ∃ b off, a = some ⟨b, off, none⟩ ∧ b < w.heap.size ∧ ∀ i (h : i < L.length), FunAt w b (off + i * 4) L[i]
theorem Funs.below {w w' : World} {a : Option Addr} {L : List Fun7} (h : Funs w a L) (hb : Below w.heap.size w w') : Funs w' a L := fun hn => by
  obtain ⟨b, off, rfl, hl, hc⟩ := h hn
  exact ⟨b, off, rfl, Nat.lt_of_lt_of_le hl hb.size, fun i hi => (hc i hi).below hl hb⟩
theorem Funs.at {w : World} {a : Option Addr} {L : List Fun7} (h : Funs w a L) (k : Nat) (hk : k < L.length) : ∃ b off, a = some ⟨b, off, none⟩ ∧ b < w.heap.size ∧ FunAt w b (off + k * 4) L[k] := by
  obtain ⟨b, off, ha, hl, hc⟩ := h (fun h => by simp [h] at hk)
  exact ⟨b, off, ha, hl, hc k hk⟩
/-- The globals L lie behind the address a. -/
def GloAt (w : World) (b o : Nat) (g : Glo7) : Prop :=
  w.cell? ⟨b, o, none⟩ = some (.int .i64 g.ty) ∧ w.cell? ⟨b, o + 1, none⟩ = some (.bool g.fixed) ∧ w.cell? ⟨b, o + 2, none⟩ = some (.int .u64 g.bits)
theorem GloAt.below {w w' : World} {b o : Nat} {g : Glo7} (h : GloAt w b o g) (hl : b < w.heap.size) (hb : Below w.heap.size w w') : GloAt w' b o g :=
  ⟨(hb.cell (p := ⟨b, o, none⟩) hl).trans h.1, (hb.cell (p := ⟨b, o + 1, none⟩) hl).trans h.2.1, (hb.cell (p := ⟨b, o + 2, none⟩) hl).trans h.2.2⟩
def Glos (w : World) (a : Option Addr) (L : List Glo7) : Prop :=
  L ≠ [] → ∃ b off, a = some ⟨b, off, none⟩ ∧ b < w.heap.size ∧ ∀ i (h : i < L.length), GloAt w b (off + i * 3) L[i]
theorem Glos.below {w w' : World} {a : Option Addr} {L : List Glo7} (h : Glos w a L) (hb : Below w.heap.size w w') : Glos w' a L := fun hn => by
  obtain ⟨b, off, rfl, hl, hc⟩ := h hn
  exact ⟨b, off, rfl, Nat.lt_of_lt_of_le hl hb.size, fun i hi => (hc i hi).below hl hb⟩
theorem Glos.at {w : World} {a : Option Addr} {L : List Glo7} (h : Glos w a L) (k : Nat) (hk : k < L.length) : ∃ b off, a = some ⟨b, off, none⟩ ∧ b < w.heap.size ∧ GloAt w b (off + k * 3) L[k] := by
  obtain ⟨b, off, ha, hl, hc⟩ := h (fun h => by simp [h] at hk)
  exact ⟨b, off, ha, hl, hc k hk⟩

/-- Where a module's rows lie, and how wide they are. -/
structure Loc7 where
  fa : Option Addr
  fc : Nat
  ga : Option Addr
  gc : Nat
/-- A module as a value. -/
def modV (l : Loc7) (M : Mod7) : Value := .agg #[.slice l.fa M.fs.length l.fc, .slice l.ga M.gs.length l.gc, .bool M.mem, .int .i64 M.pages, .int .i64 M.most, .int .i64 M.start]
def ModAt (w : World) (l : Loc7) (M : Mod7) : Prop := Funs w l.fa M.fs ∧ Glos w l.ga M.gs
theorem ModAt.below {w w' : World} {l : Loc7} {M : Mod7} (h : ModAt w l M) (hb : Below w.heap.size w w') : ModAt w' l M := ⟨h.1.below hb, h.2.below hb⟩

/-- Lengths and numbers as they come in. -/
def okF (f : Fun7) : Prop := f.ps.length ≤ 9223372036854775807 ∧ f.ls.length ≤ 9223372036854775807 ∧ f.body.length ≤ 9223372036854775807 ∧ fits f.body
def okG (g : Glo7) : Prop := 0 ≤ g.bits ∧ g.bits ≤ 18446744073709551615
def okM (M : Mod7) : Prop := M.fs.length ≤ 9223372036854775807 ∧ M.gs.length ≤ 9223372036854775807 ∧ (∀ f ∈ M.fs, okF f) ∧ ∀ g ∈ M.gs, okG g
/-- What is not too long. -/
def smF (f : Fun7) : Prop := f.ps.length ≤ 1048576 ∧ f.ls.length ≤ 1048576 ∧ f.body.length ≤ 1048576 ∧ fits f.body
def smM (M : Mod7) : Prop := M.fs.length ≤ 1048576 ∧ M.gs.length ≤ 1048576 ∧ (∀ f ∈ M.fs, smF f) ∧ ∀ g ∈ M.gs, okG g

set_option maxRecDepth 2000000 in
set_option maxHeartbeats 800000 in
theorem szInt1 (a : Option Addr) (cap n : Nat) (l : Int) (w : World) (hn : n ≤ 9223372036854775807) (h0 : 0 ≤ l) (h1 : l ≤ 1048576) :
    Calls Try.prog 88 #[.slice a n cap, .int .i64 l] w fun e w' => ∃ r : Int, e = .returned (.int .i64 r) ∧ (0 ≤ r → n ≤ 1048576 ∧ r ≤ 1048576) ∧ w' = w := by
  obtain ⟨N, hN⟩ : ∃ N : Int, (n : Int) = N := ⟨_, rfl⟩
  by_cases h2 : N ≤ l
  · go_enter Try.func88, Try.ntmps88
    go_wp2
    go_ret
    exact ⟨_, rfl, fun _ => by omega, rfl⟩
  · go_enter Try.func88, Try.ntmps88
    go_wp2
    go_ret
    exact ⟨_, rfl, fun h => absurd h (by omega), rfl⟩

set_option maxRecDepth 2000000 in
set_option maxHeartbeats 800000 in
theorem szIns1 (a : Option Addr) (cap n : Nat) (l : Int) (w : World) (hn : n ≤ 9223372036854775807) (h0 : 0 ≤ l) (h1 : l ≤ 1048576) :
    Calls Try.prog 89 #[.slice a n cap, .int .i64 l] w fun e w' => ∃ r : Int, e = .returned (.int .i64 r) ∧ (0 ≤ r → n ≤ 1048576 ∧ r ≤ 1048576) ∧ w' = w := by
  obtain ⟨N, hN⟩ : ∃ N : Int, (n : Int) = N := ⟨_, rfl⟩
  by_cases h2 : N ≤ l
  · go_enter Try.func89, Try.ntmps89
    go_wp2
    go_ret
    exact ⟨_, rfl, fun _ => by omega, rfl⟩
  · go_enter Try.func89, Try.ntmps89
    go_wp2
    go_ret
    exact ⟨_, rfl, fun h => absurd h (by omega), rfl⟩

set_option maxRecDepth 2000000 in
set_option maxHeartbeats 800000 in
theorem szGlo1 (a : Option Addr) (cap n : Nat) (l : Int) (w : World) (hn : n ≤ 9223372036854775807) (h0 : 0 ≤ l) (h1 : l ≤ 1048576) :
    Calls Try.prog 31 #[.slice a n cap, .int .i64 l] w fun e w' => ∃ r : Int, e = .returned (.int .i64 r) ∧ (0 ≤ r → n ≤ 1048576 ∧ r ≤ 1048576) ∧ w' = w := by
  obtain ⟨N, hN⟩ : ∃ N : Int, (n : Int) = N := ⟨_, rfl⟩
  by_cases h2 : N ≤ l
  · go_enter Try.func31, Try.ntmps31
    go_wp2
    go_ret
    exact ⟨_, rfl, fun _ => by omega, rfl⟩
  · go_enter Try.func31, Try.ntmps31
    go_wp2
    go_ret
    exact ⟨_, rfl, fun h => absurd h (by omega), rfl⟩

set_option maxRecDepth 100000 in
set_option maxHeartbeats 1600000 in
theorem szFun1 (pa la ba : Option Addr) (pc lc bc np nl nb : Nat) (res l : Int) (w : World) (hn : np ≤ 9223372036854775807 ∧ nl ≤ 9223372036854775807 ∧ nb ≤ 9223372036854775807) (h0 : 0 ≤ l) (h1 : l ≤ 1048576) :
    Calls Try.prog 63 #[.agg #[.slice pa np pc, .int .i64 res, .slice la nl lc, .slice ba nb bc], .int .i64 l] w fun e w' => ∃ r : Int, e = .returned (.int .i64 r) ∧ (0 ≤ r → (np ≤ 1048576 ∧ nl ≤ 1048576 ∧ nb ≤ 1048576) ∧ r ≤ 1048576) ∧ Below w.heap.size w w' := by
  obtain ⟨hp, hl, hb⟩ := hn
  have HP : Hid (np ≤ 9223372036854775807) := hp
  have HL : Hid (nl ≤ 9223372036854775807) := hl
  have HB : Hid (nb ≤ 9223372036854775807) := hb
  clear hp hl hb
  have S1 := szInt1 pa pc np l
  go_enter Try.func63, Try.ntmps63
  go_wp2_with fail
  refine (S1 _ HP.out h0 h1).mono ?_
  rintro e w1 ⟨r, rfl, hr, rfl⟩
  by_cases hr0 : r < 0
  · clear hr
    go_wp2
    go_ret
    exact ⟨-1, rfl, fun h => absurd h (by omega), (Below.refl _ _).alloc (Nat.le_refl _) _⟩
  · obtain ⟨q1, q2⟩ := hr (by omega)
    have Q1 : Hid (np ≤ 1048576) := q1
    have q3 : 0 ≤ r := by omega
    clear hr q1 hr0 S1
    go_wp2_with fail
    refine (szInt1 la lc nl r _ HL.out q3 q2).mono ?_
    rintro e w1 ⟨r2, rfl, hr, rfl⟩
    by_cases hr0 : r2 < 0
    · clear hr
      go_wp2
      go_ret
      exact ⟨-1, rfl, fun h => absurd h (by omega), (Below.refl _ _).alloc (Nat.le_refl _) _⟩
    · obtain ⟨q1, q4⟩ := hr (by omega)
      have Q2 : Hid (nl ≤ 1048576) := q1
      have q5 : 0 ≤ r2 := by omega
      clear hr q1 hr0
      go_wp2_with fail
      refine (szIns1 ba bc nb r2 _ HB.out q5 q4).mono ?_
      rintro e w1 ⟨r3, rfl, hr, rfl⟩
      by_cases hr0 : r3 < 0
      · clear hr
        go_wp2
        go_ret
        exact ⟨-1, rfl, fun h => absurd h (by omega), (Below.refl _ _).alloc (Nat.le_refl _) _⟩
      · obtain ⟨q1, q6⟩ := hr (by omega)
        have Q3 : Hid (nb ≤ 1048576) := q1
        clear hr q1
        go_wp2
        go_ret
        exact ⟨r3, rfl, fun _ => ⟨⟨Q1.out, Q2.out, Q3.out⟩, q6⟩, (Below.refl _ _).alloc (Nat.le_refl _) _⟩

set_option maxRecDepth 2000000 in
set_option maxHeartbeats 1600000 in
theorem szFuns (a : Option Addr) (cap : Nat) (L : List Fun7) (l : Int) (w : World) (hF : Hid (Funs w a L)) (hn : Hid (L.length ≤ 9223372036854775807 ∧ ∀ f ∈ L, okF f)) (h0 : 0 ≤ l) (h1 : l ≤ 1048576) :
    Calls Try.prog 30 #[.slice a L.length cap, .int .i64 l] w fun e w' => ∃ r : Int, e = .returned (.int .i64 r) ∧ (0 ≤ r → (L.length ≤ 1048576 ∧ ∀ f ∈ L, smF f) ∧ r ≤ 1048576) ∧ Below w.heap.size w w' := by
  obtain ⟨n, hnn⟩ : ∃ n, L.length = n := ⟨_, rfl⟩
  have hn2 : n ≤ 9223372036854775807 := by have := hn.out.1; omega
  have HN : Hid (L.length = n) := hnn
  rw [hnn]
  clear hnn
  obtain ⟨N, hN⟩ : ∃ N : Int, (n : Int) = N := ⟨_, rfl⟩
  by_cases h2 : N ≤ l
  · have hn3 : n ≤ 1048576 := by omega
    obtain ⟨l1, hl1⟩ : ∃ l1, l - N = l1 := ⟨_, rfl⟩
    have g0 : 0 ≤ l1 := by omega
    have g1 : l1 ≤ 1048576 := by omega
    go_enter Try.func30, Try.ntmps30
    go_wp2
    clear hN hl1 h0 h1 h2 hn2
    go_loopw [1, 5] (fun v i wr => ∃ (k : Nat) (r : Int), k ≤ n ∧ i = .int .i64 k ∧ v = .int .i64 r ∧ 0 ≤ r ∧ r ≤ 1048576 ∧ Hid (∀ j (h : j < L.length), j < k → smF L[j]) ∧ Below w.heap.size w wr) (fun _ i _ => n - (intOf i).toNat)
    case atStart => exact ⟨0, _, by omega, by first | rfl | simp, by first | rfl | simp, by omega, by omega, fun j _ h => absurd h (by omega), Below.refl _ _⟩
    case round =>
      obtain ⟨k, r, hk, rfl, rfl, hr0, hr1, hS, hnx⟩ := hrel
      clear g0 g1
      by_cases hlt : k < n
      · have hkL : k < L.length := by have := HN.out; omega
        obtain ⟨b, off, rfl, hb, hc⟩ := hF.out.at k hkL
        have hok := hn.out.2 L[k] (List.getElem_mem _)
        obtain ⟨f, hf⟩ : ∃ f, L[k] = f := ⟨_, rfl⟩
        rw [hf] at hc hok
        have HF : Hid (L[k] = f) := hf
        clear hf
        obtain ⟨pa, pc, la, lc, ba, bc, c0, c1, c2, c3, _⟩ := hc
        obtain ⟨ps, res, ls, body⟩ := f
        simp only at c0 c1 c2 c3
        have d0 : wr.cell? ⟨b, off + k * 4, none⟩ = some (.slice pa ps.length pc) := (hnx.cell (by exact hb)).trans c0
        have d1 : wr.cell? ⟨b, off + k * 4 + 1, none⟩ = some (.int .i64 res) := (hnx.cell (by exact hb)).trans c1
        have d2 : wr.cell? ⟨b, off + k * 4 + 2, none⟩ = some (.slice la ls.length lc) := (hnx.cell (by exact hb)).trans c2
        have d3 : wr.cell? ⟨b, off + k * 4 + 3, none⟩ = some (.slice ba body.length bc) := (hnx.cell (by exact hb)).trans c3
        have HO : Hid (okF ⟨ps, res, ls, body⟩) := hok
        clear c0 c1 c2 c3 hok
        go_wp2_with fail
        refine (szFun1 pa la ba pc lc bc ps.length ls.length body.length res r _ ⟨HO.out.1, HO.out.2.1, HO.out.2.2.1⟩ hr0 hr1).mono ?_
        rintro e w1 ⟨r2, rfl, hr, hb1⟩
        by_cases hrn : r2 < 0
        · clear hr
          go_wp2
          go_ret
          exact ⟨-1, rfl, fun h => absurd h (by omega), below2 hnx hb1⟩
        · obtain ⟨q1, q2⟩ := hr (by omega)
          have Q1 : Hid (smF L[k]) := by unfold Hid; rw [HF.out]; exact ⟨q1.1, q1.2.1, q1.2.2, HO.out.2.2.2⟩
          have q3 : 0 ≤ r2 := by omega
          have HB1 : Hid (Below w.heap.size w w1) := below2 hnx hb1
          clear hr q1 hb1 hr0 hr1
          go_wp2
          go_roundw
          case rel =>
            refine ⟨k + 1, r2, by omega, by go_num, rfl, q3, q2, fun j hj hjk => ?_, HB1.out⟩
            by_cases e : j = k
            · subst e; exact Q1.out
            · exact hS.out j hj (by omega)
          case measure => simp [intOf]; omega
      · go_wp2
        go_ret
        refine ⟨r, rfl, fun _ => ⟨⟨hn3, fun f hf => ?_⟩, hr1⟩, hnx⟩
        obtain ⟨j, hj, rfl⟩ := List.mem_iff_getElem.1 hf
        exact hS.out j hj (by have := HN.out; omega)
  · go_enter Try.func30, Try.ntmps30
    go_wp2
    go_ret
    exact ⟨_, rfl, fun h => absurd h (by omega), Below.refl _ _⟩

set_option maxRecDepth 100000 in
set_option maxHeartbeats 1600000 in
theorem szMod (l : Loc7) (M : Mod7) (w : World) (hM : Hid (ModAt w l M)) (hok : Hid (okM M)) :
    Calls Try.prog 9 #[modV l M, .int .i64 1048576] w fun e w' => ∃ r : Int, e = .returned (.int .i64 r) ∧ (0 ≤ r → smM M) ∧ Below w.heap.size w w' := by
  obtain ⟨fa, fc, ga, gc⟩ := l
  obtain ⟨fs, gs, mem, pages, most, start⟩ := M
  unfold modV
  simp only
  go_enter Try.func9, Try.ntmps9
  go_wp2_with fail
  refine (szFuns fa fc fs 1048576 _ (hM.out.1.below ((Below.refl _ _).alloc (Nat.le_refl _) _)) ⟨hok.out.1, hok.out.2.2.1⟩ (by omega) (by omega)).mono ?_
  rintro e w1 ⟨r, rfl, hr, hb1⟩
  have HB1 : Hid (Below w.heap.size w w1) := below2 ((Below.refl _ _).alloc (Nat.le_refl _) _) hb1
  have hc1 : w1.cell? ⟨w.heap.size, 1, none⟩ = some (.slice ga gs.length gc) := (hb1.cell (p := ⟨w.heap.size, 1, none⟩) (by simp)).trans (newCell rfl rfl)
  clear hb1
  by_cases hr0 : r < 0
  · clear hr
    go_wp2
    go_ret
    exact ⟨-1, rfl, fun h => absurd h (by omega), HB1.out⟩
  · obtain ⟨q1, q2⟩ := hr (by omega)
    have Q1 : Hid (fs.length ≤ 1048576 ∧ ∀ f ∈ fs, smF f) := q1
    have q3 : 0 ≤ r := by omega
    clear hr q1 hr0
    go_wp2_with fail
    refine (szGlo1 ga gc gs.length r _ hok.out.2.1 q3 q2).mono ?_
    rintro e w2 ⟨r2, rfl, hr, rfl⟩
    by_cases hr0 : r2 < 0
    · clear hr
      go_wp2
      go_ret
      exact ⟨-1, rfl, fun h => absurd h (by omega), HB1.out⟩
    · obtain ⟨q1, q4⟩ := hr (by omega)
      have Q2 : Hid (gs.length ≤ 1048576) := q1
      clear hr q1
      go_wp2
      go_ret
      exact ⟨r2, rfl, fun _ => ⟨Q1.out.1, Q2.out, Q1.out.2, hok.out.2.2.2⟩, HB1.out⟩

end Go.Proofs.Ytbliopgdkphoaaa
