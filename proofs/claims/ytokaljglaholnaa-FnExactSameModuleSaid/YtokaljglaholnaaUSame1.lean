/-
  Rows held against each other, one by one: both sides. (Made by a generator.)
-/
import Derived.Test.YtokaljglaholnaaGShape
import Derived.Laws.StructEq
namespace Go.Proofs.Ytokaljglaholnaa
open Go.ChangeShapes Go.WideShapes Go.ChangeAt Go.RowKit

/-- Both lists are as long, and p holds of each two at the same place. -/
def all2 {α β : Type} (p : α → β → Bool) : List α → List β → Bool
  | [], [] => true
  | a :: l, b :: m => p a b && all2 p l m
  | _, _ => false
theorem all2_len {α β : Type} (p : α → β → Bool) : ∀ (l : List α) (m : List β), l.length ≠ m.length → all2 p l m = false
  | [], [], h => absurd rfl h
  | [], _ :: _, _ => rfl
  | _ :: _, [], _ => rfl
  | a :: l, b :: m, h => by
    unfold all2
    rw [all2_len p l m (fun e => h (by simp [e])), Bool.and_false]
theorem all2_no {α β : Type} (p : α → β → Bool) : ∀ (l : List α) (m : List β) (k : Nat) (h : k < l.length) (h' : k < m.length), p l[k] m[k] = false → all2 p l m = false
  | a :: l, b :: m, 0, _, _, hp => by
    unfold all2
    rw [show p a b = false from hp, Bool.false_and]
  | a :: l, b :: m, k + 1, h, h', hp => by
    unfold all2
    rw [all2_no p l m k (by simpa using h) (by simpa using h') hp, Bool.and_false]
theorem all2_yes {α β : Type} (p : α → β → Bool) : ∀ (l : List α) (m : List β), l.length = m.length → (∀ k (h : k < l.length) (h' : k < m.length), p l[k] m[k] = true) → all2 p l m = true
  | [], [], _, _ => rfl
  | [], _ :: _, h, _ => absurd h (by simp)
  | _ :: _, [], h, _ => absurd h (by simp)
  | a :: l, b :: m, h, hp => by
    unfold all2
    rw [show p a b = true from hp 0 (by simp) (by simp), all2_yes p l m (by simpa using h) (fun k h1 h2 => hp (k + 1) (by simpa using h1) (by simpa using h2)), Bool.and_self]

def sameI (a b : Int) : Bool := a == b
def sameN (a b : Int × Int) : Bool := a.1 == b.1 && a.2 == b.2
def sameG (a b : Glo7) : Bool := (a.ty == b.ty && a.fixed == b.fixed) && a.bits == b.bits
theorem Inss.at {w : World} {a : Option Addr} {L : List (Int × Int)} (h : Inss w a L) (k : Nat) (hk : k < L.length) : ∃ b off, a = some ⟨b, off, none⟩ ∧ b < w.heap.size ∧ (w.cell? ⟨b, off + k * 2, none⟩ = some (.int .i64 L[k].1) ∧ w.cell? ⟨b, off + k * 2 + 1, none⟩ = some (.int .i64 L[k].2)) := by
  obtain ⟨b, off, ha, hl, hc⟩ := h (fun h => by simp [h] at hk)
  exact ⟨b, off, ha, hl, hc k hk⟩
theorem neqN (xo xa yo ya : Int) (w : World) : (binOp .neq 101 (.agg #[.int .i64 xo, .int .i64 xa]) (.agg #[.int .i64 yo, .int .i64 ya])).run Try.prog w = .ok (.bool (!sameN (xo, xa) (yo, ya))) w := by
  rw [run_neq_struct, run_equalIn_agg w 9999 101 _ _ (by kernel_rfl) (by kernel_rfl)]
  simp only [Program.fieldsOf, Try.underlying101]
  simp [Op.eqFields, go_sem, Try.underlying3, sameN]
  by_cases h1 : xo = yo <;> by_cases h2 : xa = ya <;> simp [h1, h2]
theorem neqG (xt yt xb yb : Int) (xf yf : Bool) (w : World) : (binOp .neq 80 (.agg #[.int .i64 xt, .bool xf, .int .u64 xb]) (.agg #[.int .i64 yt, .bool yf, .int .u64 yb])).run Try.prog w = .ok (.bool (!sameG ⟨xt, xf, xb⟩ ⟨yt, yf, yb⟩)) w := by
  rw [run_neq_struct, run_equalIn_agg w 9999 80 _ _ (by kernel_rfl) (by kernel_rfl)]
  simp only [Program.fieldsOf, Try.underlying80]
  simp [Op.eqFields, go_sem, Try.underlying3, Try.underlying4, Try.underlying76, sameG]
  by_cases h1 : xt = yt <;> by_cases h2 : xf = yf <;> by_cases h3 : xb = yb <;> simp [h1, h2, h3]


set_option maxRecDepth 100000 in
set_option maxHeartbeats 1600000 in
theorem specSameI (a a' : Option Addr) (cap cap' : Nat) (L M : List Int) (w : World) (hL : Hid (Ints w a L)) (hM : Hid (Ints w a' M)) (hl : L.length ≤ 1048576) (_hm : M.length ≤ 1048576) :
    Calls Try.prog 75 #[.slice a L.length cap, .slice a' M.length cap'] w fun e w' => e = .returned (.bool (all2 sameI L M)) ∧ Below w.heap.size w w' := by
  by_cases hn : L.length = M.length
  · have HN : Hid (L.length = M.length) := hn
    rw [← hn]
    obtain ⟨n, hnn⟩ : ∃ n, L.length = n := ⟨_, rfl⟩
    have HL : Hid (L.length = n) := hnn
    rw [hnn] at hl ⊢
    clear hnn hn _hm
    go_enter Try.func75, Try.ntmps75
    go_wp2
    go_loopw [13] (fun i wr => ∃ k : Nat, k ≤ n ∧ i = .int .i64 k ∧ Hid (∀ j (h : j < L.length) (h' : j < M.length), j < k → sameI L[j] M[j] = true) ∧ Below w.heap.size w wr) (fun i _ => n - (intOf i).toNat)
    case atStart => exact ⟨0, by omega, rfl, fun j _ _ h => absurd h (by omega), Below.refl _ _⟩
    case round =>
      obtain ⟨k, hk, rfl, hg, hnx⟩ := hrel
      by_cases hlt : k < n
      · have hkL : k < L.length := by have := HL.out; omega
        have hkM : k < M.length := by have := HL.out; have := HN.out; omega
        obtain ⟨b, off, rfl, hb, hc⟩ := hL.out.at k hkL
        obtain ⟨b', off', rfl, hb', hd⟩ := hM.out.at k hkM
        have hno := all2_no sameI L M k hkL hkM
        have hys : Hid (sameI L[k] M[k] = true → ∀ j (h : j < L.length) (h' : j < M.length), j < k + 1 → sameI L[j] M[j] = true) := fun hx j h h' hj => by
          by_cases e : j = k
          · subst e; exact hx
          · exact hg.out j h h' (by omega)
        obtain ⟨x, hx⟩ : ∃ x, x = L[k] := ⟨_, rfl⟩
        obtain ⟨y, hy⟩ : ∃ y, y = M[k] := ⟨_, rfl⟩
        rw [← hx] at hc hno hys
        rw [← hy] at hd hno hys
        clear hx hy hkL hkM
        have HNO : Hid (sameI x y = false → all2 sameI L M = false) := hno
        clear hno
        have c0 : wr.cell? ⟨b, off + k, none⟩ = some (.int .i64 x) := (hnx.cell (by exact hb)).trans hc
        have d0 : wr.cell? ⟨b', off' + k, none⟩ = some (.int .i64 y) := (hnx.cell (by exact hb')).trans hd
        clear hc hd
        obtain ⟨r, hr⟩ : ∃ r, sameI x y = r := ⟨_, rfl⟩
        rw [hr] at HNO hys
        cases r
        · have e1 : (x != y) = true := by have e1 : (x == y) = false := hr; unfold bne; rw [e1]; rfl
          clear hr
          go_wp2
          go_quiet (fail)
          go_wp2
          go_ret
          exact ⟨by rw [HNO.out (by trivial)]; rfl, below_drewN hnx _⟩
        · have e1 : (x != y) = false := by have e1 : (x == y) = true := hr; unfold bne; rw [e1]; rfl
          clear hr
          go_wp2
          go_quiet (fail)
          go_wp2
          go_roundw
          case rel => exact ⟨k + 1, by omega, by go_num, hys.out (by trivial), below_drewN hnx _⟩
          case measure => simp [intOf]; omega
      · have hall : Hid (all2 sameI L M = true) := all2_yes sameI L M HN.out (fun j h h' => hg.out j h h' (by have := HL.out; omega))
        clear hg
        go_wp2
        go_ret
        exact ⟨by rw [hall.out]; rfl, hnx⟩
  · have hr : Hid (all2 sameI L M = false) := all2_len sameI L M hn
    have hn' : ((L.length : Int) == (M.length : Int)) = false := by simp; omega
    clear hn
    go_enter Try.func75, Try.ntmps75
    go_wp2
    go_ret
    exact ⟨by rw [hr.out]; rfl, Below.refl _ _⟩

set_option maxRecDepth 100000 in
set_option maxHeartbeats 1600000 in
theorem implSameI (a a' : Option Addr) (cap cap' : Nat) (L M : List Int) (w : World) (hL : Hid (Ints w a L)) (hM : Hid (Ints w a' M)) (hl : L.length ≤ 1048576) (_hm : M.length ≤ 1048576) :
    Calls Try.prog 76 #[.slice a L.length cap, .slice a' M.length cap'] w fun e w' => e = .returned (.bool (all2 sameI L M)) ∧ Below w.heap.size w w' := by
  by_cases hn : L.length = M.length
  · have HN : Hid (L.length = M.length) := hn
    rw [← hn]
    obtain ⟨n, hnn⟩ : ∃ n, L.length = n := ⟨_, rfl⟩
    have HL : Hid (L.length = n) := hnn
    rw [hnn] at hl ⊢
    clear hnn hn _hm
    go_enter Try.func76, Try.ntmps76
    go_wp2
    go_loopw [13] (fun i wr => ∃ k : Nat, k ≤ n ∧ i = .int .i64 k ∧ Hid (∀ j (h : j < L.length) (h' : j < M.length), j < k → sameI L[j] M[j] = true) ∧ Below w.heap.size w wr) (fun i _ => n - (intOf i).toNat)
    case atStart => exact ⟨0, by omega, rfl, fun j _ _ h => absurd h (by omega), Below.refl _ _⟩
    case round =>
      obtain ⟨k, hk, rfl, hg, hnx⟩ := hrel
      by_cases hlt : k < n
      · have hkL : k < L.length := by have := HL.out; omega
        have hkM : k < M.length := by have := HL.out; have := HN.out; omega
        obtain ⟨b, off, rfl, hb, hc⟩ := hL.out.at k hkL
        obtain ⟨b', off', rfl, hb', hd⟩ := hM.out.at k hkM
        have hno := all2_no sameI L M k hkL hkM
        have hys : Hid (sameI L[k] M[k] = true → ∀ j (h : j < L.length) (h' : j < M.length), j < k + 1 → sameI L[j] M[j] = true) := fun hx j h h' hj => by
          by_cases e : j = k
          · subst e; exact hx
          · exact hg.out j h h' (by omega)
        obtain ⟨x, hx⟩ : ∃ x, x = L[k] := ⟨_, rfl⟩
        obtain ⟨y, hy⟩ : ∃ y, y = M[k] := ⟨_, rfl⟩
        rw [← hx] at hc hno hys
        rw [← hy] at hd hno hys
        clear hx hy hkL hkM
        have HNO : Hid (sameI x y = false → all2 sameI L M = false) := hno
        clear hno
        have c0 : wr.cell? ⟨b, off + k, none⟩ = some (.int .i64 x) := (hnx.cell (by exact hb)).trans hc
        have d0 : wr.cell? ⟨b', off' + k, none⟩ = some (.int .i64 y) := (hnx.cell (by exact hb')).trans hd
        clear hc hd
        obtain ⟨r, hr⟩ : ∃ r, sameI x y = r := ⟨_, rfl⟩
        rw [hr] at HNO hys
        cases r
        · have e1 : (x != y) = true := by have e1 : (x == y) = false := hr; unfold bne; rw [e1]; rfl
          clear hr
          go_wp2
          go_quiet (fail)
          go_wp2
          go_ret
          exact ⟨by rw [HNO.out (by trivial)]; rfl, below_drewN hnx _⟩
        · have e1 : (x != y) = false := by have e1 : (x == y) = true := hr; unfold bne; rw [e1]; rfl
          clear hr
          go_wp2
          go_quiet (fail)
          go_wp2
          go_roundw
          case rel => exact ⟨k + 1, by omega, by go_num, hys.out (by trivial), below_drewN hnx _⟩
          case measure => simp [intOf]; omega
      · have hall : Hid (all2 sameI L M = true) := all2_yes sameI L M HN.out (fun j h h' => hg.out j h h' (by have := HL.out; omega))
        clear hg
        go_wp2
        go_ret
        exact ⟨by rw [hall.out]; rfl, hnx⟩
  · have hr : Hid (all2 sameI L M = false) := all2_len sameI L M hn
    have hn' : ((L.length : Int) == (M.length : Int)) = false := by simp; omega
    clear hn
    go_enter Try.func76, Try.ntmps76
    go_wp2
    go_ret
    exact ⟨by rw [hr.out]; rfl, Below.refl _ _⟩

set_option maxRecDepth 100000 in
set_option maxHeartbeats 1600000 in
theorem implSameN (a a' : Option Addr) (cap cap' : Nat) (L M : List (Int × Int)) (w : World) (hL : Hid (Inss w a L)) (hM : Hid (Inss w a' M)) (hl : L.length ≤ 1048576) (_hm : M.length ≤ 1048576) :
    Calls Try.prog 77 #[.slice a L.length cap, .slice a' M.length cap'] w fun e w' => e = .returned (.bool (all2 sameN L M)) ∧ Below w.heap.size w w' := by
  by_cases hn : L.length = M.length
  · have HN : Hid (L.length = M.length) := hn
    rw [← hn]
    obtain ⟨n, hnn⟩ : ∃ n, L.length = n := ⟨_, rfl⟩
    have HL : Hid (L.length = n) := hnn
    rw [hnn] at hl ⊢
    clear hnn hn _hm
    go_enter Try.func77, Try.ntmps77
    go_wp2
    go_loopw [13] (fun i wr => ∃ k : Nat, k ≤ n ∧ i = .int .i64 k ∧ Hid (∀ j (h : j < L.length) (h' : j < M.length), j < k → sameN L[j] M[j] = true) ∧ Below w.heap.size w wr) (fun i _ => n - (intOf i).toNat)
    case atStart => exact ⟨0, by omega, rfl, fun j _ _ h => absurd h (by omega), Below.refl _ _⟩
    case round =>
      obtain ⟨k, hk, rfl, hg, hnx⟩ := hrel
      by_cases hlt : k < n
      · have hkL : k < L.length := by have := HL.out; omega
        have hkM : k < M.length := by have := HL.out; have := HN.out; omega
        obtain ⟨b, off, rfl, hb, hc⟩ := hL.out.at k hkL
        obtain ⟨b', off', rfl, hb', hd⟩ := hM.out.at k hkM
        have hno := all2_no sameN L M k hkL hkM
        have hys : Hid (sameN L[k] M[k] = true → ∀ j (h : j < L.length) (h' : j < M.length), j < k + 1 → sameN L[j] M[j] = true) := fun hx j h h' hj => by
          by_cases e : j = k
          · subst e; exact hx
          · exact hg.out j h h' (by omega)
        obtain ⟨x, hx⟩ : ∃ x, x = L[k] := ⟨_, rfl⟩
        obtain ⟨y, hy⟩ : ∃ y, y = M[k] := ⟨_, rfl⟩
        rw [← hx] at hc hno hys
        rw [← hy] at hd hno hys
        clear hx hy hkL hkM
        have HNO : Hid (sameN x y = false → all2 sameN L M = false) := hno
        clear hno
        obtain ⟨xo, xa⟩ := x
        obtain ⟨yo, ya⟩ := y
        simp only at hc hd
        have c0 : wr.cell? ⟨b, off + k * 2, none⟩ = some (.int .i64 xo) := (hnx.cell (by exact hb)).trans hc.1
        have d0 : wr.cell? ⟨b', off' + k * 2, none⟩ = some (.int .i64 yo) := (hnx.cell (by exact hb')).trans hd.1
        have c1 : wr.cell? ⟨b, off + k * 2 + 1, none⟩ = some (.int .i64 xa) := (hnx.cell (by exact hb)).trans hc.2
        have d1 : wr.cell? ⟨b', off' + k * 2 + 1, none⟩ = some (.int .i64 ya) := (hnx.cell (by exact hb')).trans hd.2
        clear hc hd
        obtain ⟨r, hr⟩ : ∃ r, sameN ⟨xo, xa⟩ ⟨yo, ya⟩ = r := ⟨_, rfl⟩
        rw [hr] at HNO hys
        cases r
        · have e1 := neqN xo xa yo ya
          rw [hr] at e1
          clear hr
          go_wp2
          go_quiet (fail)
          go_wp2
          go_ret
          exact ⟨by rw [HNO.out (by trivial)]; rfl, below_drewN hnx _⟩
        · have e1 := neqN xo xa yo ya
          rw [hr] at e1
          clear hr
          go_wp2
          go_quiet (fail)
          go_wp2
          go_roundw
          case rel => exact ⟨k + 1, by omega, by go_num, hys.out (by trivial), below_drewN hnx _⟩
          case measure => simp [intOf]; omega
      · have hall : Hid (all2 sameN L M = true) := all2_yes sameN L M HN.out (fun j h h' => hg.out j h h' (by have := HL.out; omega))
        clear hg
        go_wp2
        go_ret
        exact ⟨by rw [hall.out]; rfl, hnx⟩
  · have hr : Hid (all2 sameN L M = false) := all2_len sameN L M hn
    have hn' : ((L.length : Int) == (M.length : Int)) = false := by simp; omega
    clear hn
    go_enter Try.func77, Try.ntmps77
    go_wp2
    go_ret
    exact ⟨by rw [hr.out]; rfl, Below.refl _ _⟩

set_option maxRecDepth 100000 in
set_option maxHeartbeats 1600000 in
theorem implSameG (a a' : Option Addr) (cap cap' : Nat) (L M : List Glo7) (w : World) (hL : Hid (Glos w a L)) (hM : Hid (Glos w a' M)) (hl : L.length ≤ 1048576) (_hm : M.length ≤ 1048576) :
    Calls Try.prog 43 #[.slice a L.length cap, .slice a' M.length cap'] w fun e w' => e = .returned (.bool (all2 sameG L M)) ∧ Below w.heap.size w w' := by
  by_cases hn : L.length = M.length
  · have HN : Hid (L.length = M.length) := hn
    rw [← hn]
    obtain ⟨n, hnn⟩ : ∃ n, L.length = n := ⟨_, rfl⟩
    have HL : Hid (L.length = n) := hnn
    rw [hnn] at hl ⊢
    clear hnn hn _hm
    go_enter Try.func43, Try.ntmps43
    go_wp2
    go_loopw [13] (fun i wr => ∃ k : Nat, k ≤ n ∧ i = .int .i64 k ∧ Hid (∀ j (h : j < L.length) (h' : j < M.length), j < k → sameG L[j] M[j] = true) ∧ Below w.heap.size w wr) (fun i _ => n - (intOf i).toNat)
    case atStart => exact ⟨0, by omega, rfl, fun j _ _ h => absurd h (by omega), Below.refl _ _⟩
    case round =>
      obtain ⟨k, hk, rfl, hg, hnx⟩ := hrel
      by_cases hlt : k < n
      · have hkL : k < L.length := by have := HL.out; omega
        have hkM : k < M.length := by have := HL.out; have := HN.out; omega
        obtain ⟨b, off, rfl, hb, hc⟩ := hL.out.at k hkL
        obtain ⟨b', off', rfl, hb', hd⟩ := hM.out.at k hkM
        have hno := all2_no sameG L M k hkL hkM
        have hys : Hid (sameG L[k] M[k] = true → ∀ j (h : j < L.length) (h' : j < M.length), j < k + 1 → sameG L[j] M[j] = true) := fun hx j h h' hj => by
          by_cases e : j = k
          · subst e; exact hx
          · exact hg.out j h h' (by omega)
        obtain ⟨x, hx⟩ : ∃ x, x = L[k] := ⟨_, rfl⟩
        obtain ⟨y, hy⟩ : ∃ y, y = M[k] := ⟨_, rfl⟩
        rw [← hx] at hc hno hys
        rw [← hy] at hd hno hys
        clear hx hy hkL hkM
        have HNO : Hid (sameG x y = false → all2 sameG L M = false) := hno
        clear hno
        obtain ⟨xt, xf, xb⟩ := x
        obtain ⟨yt, yf, yb⟩ := y
        unfold GloAt at hc hd
        have c0 : wr.cell? ⟨b, off + k * 3, none⟩ = some (.int .i64 xt) := (hnx.cell (by exact hb)).trans hc.1
        have d0 : wr.cell? ⟨b', off' + k * 3, none⟩ = some (.int .i64 yt) := (hnx.cell (by exact hb')).trans hd.1
        have c1 : wr.cell? ⟨b, off + k * 3 + 1, none⟩ = some (.bool xf) := (hnx.cell (by exact hb)).trans hc.2.1
        have d1 : wr.cell? ⟨b', off' + k * 3 + 1, none⟩ = some (.bool yf) := (hnx.cell (by exact hb')).trans hd.2.1
        have c2 : wr.cell? ⟨b, off + k * 3 + 2, none⟩ = some (.int .u64 xb) := (hnx.cell (by exact hb)).trans hc.2.2
        have d2 : wr.cell? ⟨b', off' + k * 3 + 2, none⟩ = some (.int .u64 yb) := (hnx.cell (by exact hb')).trans hd.2.2
        clear hc hd
        obtain ⟨r, hr⟩ : ∃ r, sameG ⟨xt, xf, xb⟩ ⟨yt, yf, yb⟩ = r := ⟨_, rfl⟩
        rw [hr] at HNO hys
        cases r
        · have e1 := neqG xt yt xb yb xf yf
          rw [hr] at e1
          clear hr
          go_wp2
          go_quiet (fail)
          go_wp2
          go_ret
          exact ⟨by rw [HNO.out (by trivial)]; rfl, below_drewN hnx _⟩
        · have e1 := neqG xt yt xb yb xf yf
          rw [hr] at e1
          clear hr
          go_wp2
          go_quiet (fail)
          go_wp2
          go_roundw
          case rel => exact ⟨k + 1, by omega, by go_num, hys.out (by trivial), below_drewN hnx _⟩
          case measure => simp [intOf]; omega
      · have hall : Hid (all2 sameG L M = true) := all2_yes sameG L M HN.out (fun j h h' => hg.out j h h' (by have := HL.out; omega))
        clear hg
        go_wp2
        go_ret
        exact ⟨by rw [hall.out]; rfl, hnx⟩
  · have hr : Hid (all2 sameG L M = false) := all2_len sameG L M hn
    have hn' : ((L.length : Int) == (M.length : Int)) = false := by simp; omega
    clear hn
    go_enter Try.func43, Try.ntmps43
    go_wp2
    go_ret
    exact ⟨by rw [hr.out]; rfl, Below.refl _ _⟩

end Go.Proofs.Ytokaljglaholnaa
