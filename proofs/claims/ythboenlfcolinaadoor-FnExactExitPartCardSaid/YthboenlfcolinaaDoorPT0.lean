/-
  Names of parts: what is good. Plain facts.
-/
import Derived.Test.YthboenlfcolinaaDoorHG
import Derived.Lib.SlTrimSet
namespace Go.Proofs.YthboenlfcolinaaDoor

def nmC (b : UInt8) : Bool := (decide (97 ≤ b.toNat) && decide (b.toNat ≤ 122)) || ((decide (48 ≤ b.toNat) && decide (b.toNat ≤ 57)) || decide (b.toNat = 45))
def nmAll (s : ByteArray) : Bool := s.data.toList.all nmC
def nmOk (s : ByteArray) : Bool := (decide (1 ≤ s.size) && decide (s.size ≤ 20)) && nmAll s
/-- The bytes that a name may have, as the program's text has them. -/
def nmSet : ByteArray := ⟨#[97, 98, 99, 100, 101, 102, 103, 104, 105, 106, 107, 108, 109, 110, 111, 112, 113, 114, 115, 116, 117, 118, 119, 120, 121, 122, 48, 49, 50, 51, 52, 53, 54, 55, 56, 57, 45]⟩
theorem nmSet_is : ∀ n, n < 256 → nmSet.data.toList.contains (UInt8.ofNat n) = nmC (UInt8.ofNat n) := by decide +kernel
theorem nmSet_all (b : UInt8) : nmSet.data.toList.contains b = nmC b := by
  have h := nmSet_is b.toNat (UInt8.toNat_lt b)
  simpa using h
theorem drop_all {α : Type} (p : α → Bool) : ∀ l : List α, (l.dropWhile p = []) ↔ l.all p = true
  | [] => by simp
  | x :: l => by
    rw [List.dropWhile_cons, List.all_cons]
    cases h : p x with
    | true => simpa using drop_all p l
    | false => simp
/-- What is left of a name behind the bytes that it may have. -/
theorem nm_left (s : ByteArray) : ((⟨(Lib.trimLeftS s.data.toList nmSet.data.toList).toArray⟩ : ByteArray) = ⟨#[]⟩) ↔ nmAll s = true := by
  unfold Lib.trimLeftS nmAll
  rw [show (fun x => nmSet.data.toList.contains x) = nmC from funext nmSet_all]
  constructor
  · intro h
    have h1 := congrArg (fun x => x.data.toList) h
    simp only at h1
    exact (drop_all nmC _).1 (by simpa using h1)
  · intro h
    rw [(drop_all nmC _).2 h]

end Go.Proofs.YthboenlfcolinaaDoor
