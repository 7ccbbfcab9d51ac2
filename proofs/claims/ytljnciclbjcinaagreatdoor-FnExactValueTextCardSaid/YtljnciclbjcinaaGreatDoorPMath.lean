/-
  Plain facts on points and their bytes: nothing of the program stands here.
-/
import Derived.Below
import Derived.Laws.BitsAllLaws
namespace Go.Proofs.YtljnciclbjcinaaGreatDoor

theorem i64_small (n : Nat) (h : n < 9223372036854775808) : IntKind.i64.wrap (n : Int) = n := by rw [IntKind.wrap_i64]; omega
theorem i64_or_nat (a b : Nat) (ha : a < 9223372036854775808) (hb : b < 9223372036854775808) : bits .or .i64 (a : Int) (b : Int) = ((a ||| b : Nat) : Int) := by
  have hx : a ||| b < 2 ^ 63 := Nat.or_lt_two_pow (by omega) (by omega)
  show IntKind.i64.wrap ((BitVec.ofInt 64 (a : Int) ||| BitVec.ofInt 64 (b : Int)).toNat : Int) = _
  rw [BitVec.toNat_or, ofInt_u64 a (by omega), ofInt_u64 b (by omega)]
  exact i64_small _ (by omega)
theorem i64_and_nat (a b : Nat) (ha : a < 9223372036854775808) (hb : b < 9223372036854775808) : bits .and .i64 (a : Int) (b : Int) = ((a &&& b : Nat) : Int) := by
  have hx : a &&& b < 2 ^ 63 := Nat.and_lt_two_pow _ (by omega)
  show IntKind.i64.wrap ((BitVec.ofInt 64 (a : Int) &&& BitVec.ofInt 64 (b : Int)).toNat : Int) = _
  rw [BitVec.toNat_and, ofInt_u64 a (by omega), ofInt_u64 b (by omega)]
  exact i64_small _ (by omega)
/-- What has noughts where the other one has bits is added. -/
theorem i64_join (k c b : Nat) (hb : b < 2 ^ k) (h : 2 ^ k * c + b < 9223372036854775808) : bits .or .i64 ((2 ^ k * c : Nat) : Int) (b : Int) = ((2 ^ k * c + b : Nat) : Int) := by
  rw [i64_or_nat _ _ (by omega) (by omega), ← Nat.two_pow_add_eq_or_of_lt hb]
theorem ior192 (x : Int) (h0 : 0 ≤ x) (h1 : x < 64) : bits .or .i64 192 x = 192 + x := by
  obtain ⟨n, rfl⟩ := Int.eq_ofNat_of_zero_le h0
  exact (i64_join 6 3 n (by omega) (by omega)).trans (by omega)
theorem ior224 (x : Int) (h0 : 0 ≤ x) (h1 : x < 32) : bits .or .i64 224 x = 224 + x := by
  obtain ⟨n, rfl⟩ := Int.eq_ofNat_of_zero_le h0
  exact (i64_join 5 7 n (by omega) (by omega)).trans (by omega)
theorem ior240 (x : Int) (h0 : 0 ≤ x) (h1 : x < 16) : bits .or .i64 240 x = 240 + x := by
  obtain ⟨n, rfl⟩ := Int.eq_ofNat_of_zero_le h0
  exact (i64_join 4 15 n (by omega) (by omega)).trans (by omega)
theorem ior128 (x : Int) (h0 : 0 ≤ x) (h1 : x < 128) : bits .or .i64 128 x = 128 + x := by
  obtain ⟨n, rfl⟩ := Int.eq_ofNat_of_zero_le h0
  exact (i64_join 7 1 n (by omega) (by omega)).trans (by omega)
theorem ior55296 (x : Int) (h0 : 0 ≤ x) (h1 : x < 1024) : bits .or .i64 55296 x = 55296 + x := by
  obtain ⟨n, rfl⟩ := Int.eq_ofNat_of_zero_le h0
  exact (i64_join 10 54 n (by omega) (by omega)).trans (by omega)
theorem ior56320 (x : Int) (h0 : 0 ≤ x) (h1 : x < 1024) : bits .or .i64 56320 x = 56320 + x := by
  obtain ⟨n, rfl⟩ := Int.eq_ofNat_of_zero_le h0
  exact (i64_join 10 55 n (by omega) (by omega)).trans (by omega)
theorem i64_mask (k : Nat) (hk : k < 63) (n : Int) : bits .and .i64 n ((2 ^ k - 1 : Nat) : Int) = n % (2 ^ k : Nat) := by
  have hp : 2 ^ k ≤ 2 ^ 62 := Nat.pow_le_pow_right (by omega) (by omega)
  have hp1 : 0 < 2 ^ k := Nat.two_pow_pos k
  have hm : (BitVec.ofInt 64 ((2 ^ k - 1 : Nat) : Int)).toNat = 2 ^ k - 1 := ofInt_u64 _ (by omega)
  have key : (BitVec.ofInt 64 n &&& BitVec.ofInt 64 ((2 ^ k - 1 : Nat) : Int)).toNat = (n % ((2 ^ 64 : Nat) : Int)).toNat % 2 ^ k := by
    rw [BitVec.toNat_and, BitVec.toNat_ofInt, hm, Nat.and_two_pow_sub_one_eq_mod]
  have hlt : (n % ((2 ^ 64 : Nat) : Int)).toNat % 2 ^ k < 2 ^ k := Nat.mod_lt _ hp1
  show IntKind.i64.wrap ((BitVec.ofInt 64 n &&& BitVec.ofInt 64 ((2 ^ k - 1 : Nat) : Int)).toNat : Nat) = _
  rw [key, i64_small _ (by omega), Int.natCast_emod, Int.toNat_of_nonneg (by omega)]
  exact Int.emod_emod_of_dvd n (Int.natCast_dvd_natCast.2 (Nat.pow_dvd_pow 2 (by omega)))
theorem and63 (n : Int) : bits .and .i64 n 63 = n % 64 := i64_mask 6 (by omega) n
theorem and1023 (n : Int) : bits .and .i64 n 1023 = n % 1024 := i64_mask 10 (by omega) n

/-- A point's bytes in CodeUtf8. -/
def u8b (p : Nat) : List UInt8 :=
  if p < 128 then [.ofNat p]
  else if p < 2048 then [.ofNat (192 + p / 64), .ofNat (128 + p % 64)]
  else if p < 65536 then [.ofNat (224 + p / 4096), .ofNat (128 + p / 64 % 64), .ofNat (128 + p % 64)]
  else [.ofNat (240 + p / 262144), .ofNat (128 + p / 4096 % 64), .ofNat (128 + p / 64 % 64), .ofNat (128 + p % 64)]
/-- A point's bytes in CodeUtf16. -/
def u16b (p : Nat) : List UInt8 :=
  if p < 65536 then [.ofNat (p % 256), .ofNat (p / 256)]
  else [.ofNat ((p - 65536) / 1024 % 256), .ofNat ((55296 + (p - 65536) / 1024) / 256), .ofNat (p % 256), .ofNat ((56320 + p % 1024) / 256)]
/-- A point's bytes in any of the codes. -/
def encP (code : Int) (p : Nat) : List UInt8 := if code = 1 then u8b p else if code = 2 then u16b p else [.ofNat p]
/-- The code has bytes for the point. -/
def fitC (code p : Int) : Bool := decide (code = 1 ∨ code = 2 ∨ p ≤ 255)
def encL (code : Int) (L : List Int) : List UInt8 := L.flatMap fun p => encP code p.toNat
theorem encL_snoc (code : Int) (L : List Int) (k : Nat) (h : k < L.length) : encL code (L.take (k + 1)) = encL code (L.take k) ++ encP code L[k].toNat := by
  unfold encL; rw [List.take_succ_eq_append_getElem h, List.flatMap_append, List.flatMap_cons, List.flatMap_nil, List.append_nil]
theorem u8b_len (p : Nat) : (u8b p).length ≤ 4 := by
  unfold u8b
  repeat' split
  all_goals simp
theorem u16b_len (p : Nat) : (u16b p).length ≤ 4 := by unfold u16b; split <;> simp
theorem encP_len (code : Int) (p : Nat) : (encP code p).length ≤ 4 := by
  unfold encP; split
  · exact u8b_len p
  · split
    · exact u16b_len p
    · simp
theorem encL_len (code : Int) (L : List Int) : (encL code L).length ≤ 4 * L.length := by
  induction L with
  | nil => simp [encL]
  | cons p r ih =>
    have h := encP_len code p.toNat
    have e : encL code (p :: r) = encP code p.toNat ++ encL code r := by simp [encL]
    rw [e, List.length_append, List.length_cons]; omega
theorem u8b_1 {p : Nat} (h : p < 128) : u8b p = [.ofNat p] := by unfold u8b; rw [if_pos h]
theorem u8b_2 {p : Nat} (h0 : 128 ≤ p) (h : p < 2048) : u8b p = [.ofNat (192 + p / 64), .ofNat (128 + p % 64)] := by unfold u8b; rw [if_neg (by omega), if_pos h]
theorem u8b_3 {p : Nat} (h0 : 2048 ≤ p) (h : p < 65536) : u8b p = [.ofNat (224 + p / 4096), .ofNat (128 + p / 64 % 64), .ofNat (128 + p % 64)] := by unfold u8b; rw [if_neg (by omega), if_neg (by omega), if_pos h]
theorem u8b_4 {p : Nat} (h0 : 65536 ≤ p) : u8b p = [.ofNat (240 + p / 262144), .ofNat (128 + p / 4096 % 64), .ofNat (128 + p / 64 % 64), .ofNat (128 + p % 64)] := by unfold u8b; rw [if_neg (by omega), if_neg (by omega), if_neg (by omega)]
theorem u16b_2 {p : Nat} (h : p < 65536) : u16b p = [.ofNat (p % 256), .ofNat (p / 256)] := by unfold u16b; rw [if_pos h]
theorem u16b_4 {p : Nat} (h : 65536 ≤ p) : u16b p = [.ofNat ((p - 65536) / 1024 % 256), .ofNat ((55296 + (p - 65536) / 1024) / 256), .ofNat (p % 256), .ofNat ((56320 + p % 1024) / 256)] := by unfold u16b; rw [if_neg (by omega)]
/-- A byte's value. -/
theorem byte_val (n : Nat) (h : n < 256) : ((UInt8.ofNat n).toNat : Int) = n := by simp only [UInt8.toNat_ofNat']; omega

end Go.Proofs.YtljnciclbjcinaaGreatDoor
