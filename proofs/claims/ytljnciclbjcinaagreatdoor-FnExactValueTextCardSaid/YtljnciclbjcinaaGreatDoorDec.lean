/-
  Points read from a text in any of the codes: what they are, and the walk of the specification's function.
-/
import Derived.Test.YtljnciclbjcinaaGreatDoorOne
namespace Go.Proofs.YtljnciclbjcinaaGreatDoor
open Go.ChangeShapes Go.WideShapes Go.ChangeAt Go.RowKit Go.PlainAid

/-- The number of two bytes from k on, the lower one first. -/
def lo16 (t : ByteArray) (k : Nat) : Int := bt t k + bt t (k + 1) * 256
theorem lo16_in (t : ByteArray) (k : Nat) : 0 ≤ lo16 t k ∧ lo16 t k ≤ 65535 := by
  have := bt_nonneg t k; have := bt_nonneg t (k + 1); have := bt_le t k; have := bt_le t (k + 1)
  unfold lo16; omega
/-- Two halves stand at the front. -/
def twoH (t : ByteArray) : Bool := decide (55296 ≤ lo16 t 0 ∧ lo16 t 0 ≤ 56319 ∧ 3 < t.size ∧ 56320 ≤ lo16 t 2 ∧ lo16 t 2 ≤ 57343)
def one16 (t : ByteArray) : Int × Nat := if t.size < 2 then (0, 0) else if twoH t = true then (lo16 t 0 % 1024 * 1024 + lo16 t 2 % 1024 + 65536, 4) else (lo16 t 0, 2)
def step (code : Int) (t : ByteArray) : Int × Nat := if code = 1 then one8 t else if code = 2 then one16 t else (bt t 0, 1)
theorem step1 (t : ByteArray) : step 1 t = one8 t := rfl
theorem step2 (t : ByteArray) : step 2 t = one16 t := rfl
theorem step3 (c : Int) (t : ByteArray) (h1 : c ≠ 1) (h2 : c ≠ 2) : step c t = (bt t 0, 1) := by simp [step, h1, h2]
/-- The points of a text, f steps at most; none where one of them is none. -/
def dec (code : Int) : Nat → ByteArray → Option (List Int)
  | 0, _ => some []
  | f + 1, t => if t.size = 0 then some [] else if (step code t).2 = 0 then none else (dec code f (t.extract (step code t).2 t.size)).map ((step code t).1 :: ·)
theorem dec_end (code : Int) (f : Nat) (t : ByteArray) (h : t.size = 0) : dec code f t = some [] := by
  cases f with
  | zero => rfl
  | succ f => simp only [dec]; rw [if_pos h]
theorem dec_none (code : Int) (f : Nat) (t : ByteArray) (h : 0 < t.size) (hf : t.size ≤ f) (hn : (step code t).2 = 0) : dec code f t = none := by
  cases f with
  | zero => omega
  | succ f => simp only [dec]; rw [if_neg (by omega), if_pos hn]
theorem dec_some (code : Int) (f : Nat) (t : ByteArray) (h : 0 < t.size) (hf : t.size ≤ f) (hn : (step code t).2 ≠ 0) : dec code f t = (dec code (f - 1) (t.extract (step code t).2 t.size)).map ((step code t).1 :: ·) := by
  cases f with
  | zero => omega
  | succ f => simp only [dec]; rw [if_neg (by omega), if_neg hn]; rfl
theorem step_le (code : Int) (t : ByteArray) (h : 0 < t.size) : (step code t).2 ≤ t.size := by
  by_cases h1 : code = 1
  · subst h1; rw [step1]; unfold one8
    by_cases c : t.size < ldN (bt t 0)
    · rw [if_pos c]; simp
    · rw [if_neg c]
      split
      · show ldN (bt t 0) ≤ t.size; omega
      · simp
  · by_cases h2 : code = 2
    · subst h2; rw [step2]; unfold one16
      by_cases c : t.size < 2
      · rw [if_pos c]; simp
      · rw [if_neg c]
        rcases hh : twoH t with _ | _
        · rw [if_neg (by simp)]; show 2 ≤ t.size; omega
        · rw [if_pos rfl]; show 4 ≤ t.size; unfold twoH at hh; have := of_decide_eq_true hh; omega
    · rw [step3 _ _ h1 h2]; exact h
/-- The points, where they are good. -/
def gd (code : Int) (s : ByteArray) : Option (List Int) := match dec code s.size s with
  | some L => if okL L = true then some L else none
  | none => none
theorem gd_no {code : Int} {s : ByteArray} (h : dec code s.size s = none) : gd code s = none := by unfold gd; rw [h]
theorem gd_is {code : Int} {s : ByteArray} {L : List Int} (h : dec code s.size s = some L) : gd code s = if okL L = true then some L else none := by unfold gd; rw [h]
theorem gd_long {code : Int} {s t : ByteArray} {o : List Int} {f : Nat} (h : dec code s.size s = (dec code f t).map (o ++ ·)) (ho : 300 < o.length) : gd code s = none := by
  rcases hd : dec code f t with _ | L
  · rw [hd] at h; exact gd_no h
  · rw [hd] at h
    rw [gd_is h, if_neg]
    rw [okL_long _ (by simp; omega)]; simp
/-- Numbers as the values of their cells. -/
def iv (L : List Int) : List Value := L.map fun x => .int .i64 x
theorem iv_app (l m : List Int) : iv l ++ iv m = iv (l ++ m) := by simp [iv]
theorem iv_one (l : List Int) : ∀ u ∈ iv l, u.oneCell' = true := by
  intro u hu; simp only [iv, List.mem_map] at hu; obtain ⟨b, _, rfl⟩ := hu; rfl
theorem ints_of_row {w : World} {B : Nat} {v : Value} {L : List Int} (h : w.ownsRow B 3 1 v L.length (iv L)) : ∃ a cap, v = .slice a L.length cap ∧ Ints w a L := by
  have h' := h
  rcases h'.2 with ⟨rfl, h0⟩ | ⟨g, cap, cur, rfl, _, hb, _⟩
  · obtain rfl : L = [] := List.length_eq_zero_iff.1 h0
    exact ⟨none, 0, rfl, fun h => absurd rfl h⟩
  · refine ⟨_, cap, rfl, fun _ => ⟨g, 0, rfl, lt_of_block hb, fun i hi => ?_⟩⟩
    rw [Nat.zero_add, h.cellAt i (by omega)]
    simp [iv, hi]
theorem join8 (a b : Int) (h0 : 0 ≤ a) (h1 : a ≤ 255) (h2 : 0 ≤ b) (h3 : b ≤ 255) : bits .or .i64 a (b * 256) = a + b * 256 := by
  obtain ⟨x, rfl⟩ := Int.eq_ofNat_of_zero_le h0
  obtain ⟨y, rfl⟩ := Int.eq_ofNat_of_zero_le h2
  have h := i64_or_nat x (2 ^ 8 * y) (by omega) (by omega)
  rw [Nat.or_comm, ← Nat.two_pow_add_eq_or_of_lt (show x < 2 ^ 8 by omega)] at h
  rw [show (((2 ^ 8 * y : Nat)) : Int) = (y : Int) * 256 by omega] at h
  rw [h]; omega
theorem join10 (a b : Int) (h0 : 0 ≤ a) (h1 : a < 1024) (h2 : 0 ≤ b) (h3 : b < 1024) : bits .or .i64 (a * 1024) b = a * 1024 + b := by
  obtain ⟨x, rfl⟩ := Int.eq_ofNat_of_zero_le h0
  obtain ⟨y, rfl⟩ := Int.eq_ofNat_of_zero_le h2
  have h := i64_join 10 x y (by omega) (by omega)
  rw [show (((2 ^ 10 * x : Nat)) : Int) = (x : Int) * 1024 by omega] at h
  rw [h]; omega
def szOf : Value → Nat
  | .string t => t.size
  | _ => 0
theorem Tryz.infoi3 : (Tryz.prog.info? 3).map (fun i => (i.zero, i.size, i.bytes)) = some (some (.int .i64 0), 1, 8) := by kernel_rfl
theorem dec_next {code : Int} {s t : ByteArray} {o : List Int} {f : Nat} (hd : dec code s.size s = (dec code f t).map (o ++ ·)) (h : 0 < t.size) (hf : t.size ≤ f) (hn : (step code t).2 ≠ 0) :
    dec code s.size s = (dec code (f - 1) (t.extract (step code t).2 t.size)).map ((o ++ [(step code t).1]) ++ ·) := by
  rw [hd, dec_some code f t h hf hn, Option.map_map]
  congr 1
  funext x
  simp
theorem ext_len (t : ByteArray) (n : Nat) : (t.extract n t.size).size = t.size - n := by simp

end Go.Proofs.YtljnciclbjcinaaGreatDoor
