/-
  Plain facts on points in a text: what the language's own reading of UTF-8 tells, and what the shortest form tells, is the same of good points.
-/
import Derived.Test.YtljnciclbjcinaaGreatDoorDec
import Derived.Lib.ValidLaws
namespace Go.Proofs.YtljnciclbjcinaaGreatDoor
open Go.PlainAid Go.Lib

theorem extract_list (t : ByteArray) (n : Nat) : (t.extract 0 n).toList = t.data.toList.take n := by
  have e : t.extract 0 n = ⟨t.data.extract 0 n⟩ := ByteArray.ext (by simp)
  rw [e, ByteArray.toList_mk]; simp
theorem bt_list (t : ByteArray) (k : Nat) : bt t k = ((t.data.toList.getD k 0).toNat : Int) := by
  unfold bt
  by_cases h : k < t.size
  · have h' : k < t.data.size := h
    rw [dif_pos h, List.getD, Array.getElem?_toList, Array.getElem?_eq_getElem h']; rfl
  · have h' : t.data.size ≤ k := Nat.le_of_not_lt h
    rw [dif_neg h, List.getD, Array.getElem?_toList, Array.getElem?_eq_none h']; rfl
theorem byte_is (n : Nat) (y : UInt8) : UInt8.ofNat n = y ↔ n % 256 = y.toNat := by
  rw [← UInt8.toNat_inj, UInt8.toNat_ofNat']
theorem u8b_is1 (p : Nat) (y0 : UInt8) : u8b p = [y0] ↔ p < 128 ∧ p % 256 = y0.toNat := by
  by_cases h1 : p < 128
  · rw [u8b_1 h1]; simp [byte_is, h1]
  · refine ⟨fun h => ?_, fun h => absurd h.1 h1⟩
    have := congrArg List.length h
    unfold u8b at this
    rw [if_neg h1] at this
    repeat' split at this
    all_goals simp at this
theorem u8b_is2 (p : Nat) (y0 y1 : UInt8) : u8b p = [y0, y1] ↔ (128 ≤ p ∧ p < 2048) ∧ (192 + p / 64) % 256 = y0.toNat ∧ (128 + p % 64) % 256 = y1.toNat := by
  by_cases h1 : 128 ≤ p ∧ p < 2048
  · rw [u8b_2 h1.1 h1.2, List.cons.injEq, List.cons.injEq, byte_is, byte_is]; simp [h1]
  · refine ⟨fun h => ?_, fun h => absurd h.1 h1⟩
    have := congrArg List.length h
    unfold u8b at this
    by_cases h2 : p < 128
    · rw [if_pos h2] at this; simp at this
    · rw [if_neg h2, if_neg (by omega)] at this
      split at this <;> simp at this
theorem u8b_is3 (p : Nat) (y0 y1 y2 : UInt8) : u8b p = [y0, y1, y2] ↔ (2048 ≤ p ∧ p < 65536) ∧ (224 + p / 4096) % 256 = y0.toNat ∧ (128 + p / 64 % 64) % 256 = y1.toNat ∧ (128 + p % 64) % 256 = y2.toNat := by
  by_cases h1 : 2048 ≤ p ∧ p < 65536
  · rw [u8b_3 h1.1 h1.2, List.cons.injEq, List.cons.injEq, List.cons.injEq, byte_is, byte_is, byte_is]; simp [h1]
  · refine ⟨fun h => ?_, fun h => absurd h.1 h1⟩
    have := congrArg List.length h
    unfold u8b at this
    by_cases h2 : p < 128
    · rw [if_pos h2] at this; simp at this
    · by_cases h3 : p < 2048
      · rw [if_neg h2, if_pos h3] at this; simp at this
      · rw [if_neg h2, if_neg h3, if_neg (by omega)] at this; simp at this
theorem u8b_is4 (p : Nat) (y0 y1 y2 y3 : UInt8) : u8b p = [y0, y1, y2, y3] ↔ 65536 ≤ p ∧ (240 + p / 262144) % 256 = y0.toNat ∧ (128 + p / 4096 % 64) % 256 = y1.toNat ∧ (128 + p / 64 % 64) % 256 = y2.toNat ∧ (128 + p % 64) % 256 = y3.toNat := by
  by_cases h1 : 65536 ≤ p
  · rw [u8b_4 h1, List.cons.injEq, List.cons.injEq, List.cons.injEq, List.cons.injEq, byte_is, byte_is, byte_is, byte_is]; simp [h1]
  · refine ⟨fun h => ?_, fun h => absurd h.1 h1⟩
    have := congrArg List.length h
    unfold u8b at this
    by_cases h2 : p < 128
    · rw [if_pos h2] at this; simp at this
    · by_cases h3 : p < 2048
      · rw [if_neg h2, if_pos h3] at this; simp at this
      · rw [if_neg h2, if_neg h3, if_pos (by omega)] at this; simp at this

/-- The point at the front, told by four bytes and how many there are. -/
def one8N (n b0 b1 b2 b3 : Nat) : Nat × Nat :=
  if 240 ≤ b0 then (if 4 ≤ n ∧ b0 < 248 ∧ b1 / 64 = 2 ∧ b2 / 64 = 2 ∧ b3 / 64 = 2 ∧ 65536 ≤ b0 % 8 * 262144 + b1 % 64 * 4096 + b2 % 64 * 64 + b3 % 64 then (b0 % 8 * 262144 + b1 % 64 * 4096 + b2 % 64 * 64 + b3 % 64, 4) else (0, 0))
  else if 224 ≤ b0 then (if 3 ≤ n ∧ b1 / 64 = 2 ∧ b2 / 64 = 2 ∧ 2048 ≤ b0 % 16 * 4096 + b1 % 64 * 64 + b2 % 64 then (b0 % 16 * 4096 + b1 % 64 * 64 + b2 % 64, 3) else (0, 0))
  else if 192 ≤ b0 then (if 2 ≤ n ∧ b1 / 64 = 2 ∧ 128 ≤ b0 % 32 * 64 + b1 % 64 then (b0 % 32 * 64 + b1 % 64, 2) else (0, 0))
  else if b0 < 128 then (b0, 1) else (0, 0)

set_option maxRecDepth 100000 in
theorem one8_at (t : ByteArray) (h0 : 0 < t.size) :
    one8 t = (((one8N t.size (t.data.toList.getD 0 0).toNat (t.data.toList.getD 1 0).toNat (t.data.toList.getD 2 0).toNat (t.data.toList.getD 3 0).toNat).1 : Int), (one8N t.size (t.data.toList.getD 0 0).toNat (t.data.toList.getD 1 0).toNat (t.data.toList.getD 2 0).toNat (t.data.toList.getD 3 0).toNat).2) := by
  have hb := bt_list t
  have hx := extract_list t
  have hl : t.data.toList.length = t.size := by simp
  obtain ⟨l, hll⟩ : ∃ l, l = t.data.toList := ⟨_, rfl⟩
  rw [← hll] at hx hl hb ⊢
  clear hll
  have hlt : ∀ k, (l.getD k 0).toNat < 256 := fun k => (l.getD k 0).toNat_lt
  have l0 := hlt 0; have l1 := hlt 1; have l2 := hlt 2; have l3 := hlt 3
  have e1 : accP t 1 = ldP (bt t 0) := rfl
  have e2 : accP t 2 = accP t 1 * 64 + bt t 1 % 64 := rfl
  have e3 : accP t 3 = accP t 2 * 64 + bt t 2 % 64 := rfl
  have e4 : accP t 4 = accP t 3 * 64 + bt t 3 % 64 := rfl
  have c0 := hb 0; have c1 := hb 1; have c2 := hb 2; have c3 := hb 3
  unfold one8 one8N
  by_cases g4 : 240 ≤ (l.getD 0 0).toNat
  · have g4' : 240 ≤ bt t 0 := by omega
    have hn : ldN (bt t 0) = 4 := by unfold ldN; rw [if_pos g4']
    have hp : ldP (bt t 0) = bt t 0 % 8 := by unfold ldP; rw [if_pos g4']
    rw [hn, if_pos g4]
    by_cases hs : t.size < 4
    · rw [if_pos hs, if_neg (by omega)]; rfl
    · rw [if_neg hs]
      have hp4 : accP t 4 = ((((l.getD 0 0).toNat % 8 * 262144 + (l.getD 1 0).toNat % 64 * 4096 + (l.getD 2 0).toNat % 64 * 64 + (l.getD 3 0).toNat % 64 : Nat)) : Int) := by omega
      have hs8 : same8 t 4 = true ↔ (4 ≤ t.size ∧ (l.getD 0 0).toNat < 248 ∧ (l.getD 1 0).toNat / 64 = 2 ∧ (l.getD 2 0).toNat / 64 = 2 ∧ (l.getD 3 0).toNat / 64 = 2 ∧ 65536 ≤ (l.getD 0 0).toNat % 8 * 262144 + (l.getD 1 0).toNat % 64 * 4096 + (l.getD 2 0).toNat % 64 * 64 + (l.getD 3 0).toNat % 64) := by
        unfold same8
        rw [hp4, Int.toNat_natCast, hx 4, beq_iff_eq]
        rcases l with _ | ⟨y0, _ | ⟨y1, _ | ⟨y2, _ | ⟨y3, r⟩⟩⟩⟩
        · exfalso; simp at hl; omega
        · exfalso; simp at hl; omega
        · exfalso; simp at hl; omega
        · exfalso; simp at hl; omega
        · simp only [List.getD_cons_zero, List.getD_cons_succ, List.take_succ_cons, List.take_zero] at *
          rw [u8b_is4]
          omega
      by_cases hc : same8 t 4 = true
      · rw [if_pos hc, if_pos (hs8.1 hc), hp4]
      · rw [if_neg hc, if_neg (fun h => hc (hs8.2 h))]; rfl
  · have g4' : ¬ 240 ≤ bt t 0 := by omega
    rw [if_neg g4]
    by_cases g3 : 224 ≤ (l.getD 0 0).toNat
    · have g3' : 224 ≤ bt t 0 := by omega
      have hn : ldN (bt t 0) = 3 := by unfold ldN; rw [if_neg g4', if_pos g3']
      have hp : ldP (bt t 0) = bt t 0 % 16 := by unfold ldP; rw [if_neg g4', if_pos g3']
      rw [hn, if_pos g3]
      by_cases hs : t.size < 3
      · rw [if_pos hs, if_neg (by omega)]; rfl
      · rw [if_neg hs]
        have hp4 : accP t 3 = ((((l.getD 0 0).toNat % 16 * 4096 + (l.getD 1 0).toNat % 64 * 64 + (l.getD 2 0).toNat % 64 : Nat)) : Int) := by omega
        have hs8 : same8 t 3 = true ↔ (3 ≤ t.size ∧ (l.getD 1 0).toNat / 64 = 2 ∧ (l.getD 2 0).toNat / 64 = 2 ∧ 2048 ≤ (l.getD 0 0).toNat % 16 * 4096 + (l.getD 1 0).toNat % 64 * 64 + (l.getD 2 0).toNat % 64) := by
          unfold same8
          rw [hp4, Int.toNat_natCast, hx 3, beq_iff_eq]
          rcases l with _ | ⟨y0, _ | ⟨y1, _ | ⟨y2, r⟩⟩⟩
          · exfalso; simp at hl; omega
          · exfalso; simp at hl; omega
          · exfalso; simp at hl; omega
          · simp only [List.getD_cons_zero, List.getD_cons_succ, List.take_succ_cons, List.take_zero] at *
            rw [u8b_is3]
            omega
        by_cases hc : same8 t 3 = true
        · rw [if_pos hc, if_pos (hs8.1 hc), hp4]
        · rw [if_neg hc, if_neg (fun h => hc (hs8.2 h))]; rfl
    · have g3' : ¬ 224 ≤ bt t 0 := by omega
      rw [if_neg g3]
      by_cases g2 : 192 ≤ (l.getD 0 0).toNat
      · have g2' : 192 ≤ bt t 0 := by omega
        have hn : ldN (bt t 0) = 2 := by unfold ldN; rw [if_neg g4', if_neg g3', if_pos g2']
        have hp : ldP (bt t 0) = bt t 0 % 32 := by unfold ldP; rw [if_neg g4', if_neg g3', if_pos g2']
        rw [hn, if_pos g2]
        by_cases hs : t.size < 2
        · rw [if_pos hs, if_neg (by omega)]; rfl
        · rw [if_neg hs]
          have hp4 : accP t 2 = ((((l.getD 0 0).toNat % 32 * 64 + (l.getD 1 0).toNat % 64 : Nat)) : Int) := by omega
          have hs8 : same8 t 2 = true ↔ (2 ≤ t.size ∧ (l.getD 1 0).toNat / 64 = 2 ∧ 128 ≤ (l.getD 0 0).toNat % 32 * 64 + (l.getD 1 0).toNat % 64) := by
            unfold same8
            rw [hp4, Int.toNat_natCast, hx 2, beq_iff_eq]
            rcases l with _ | ⟨y0, _ | ⟨y1, r⟩⟩
            · exfalso; simp at hl; omega
            · exfalso; simp at hl; omega
            · simp only [List.getD_cons_zero, List.getD_cons_succ, List.take_succ_cons, List.take_zero] at *
              rw [u8b_is2]
              omega
          by_cases hc : same8 t 2 = true
          · rw [if_pos hc, if_pos (hs8.1 hc), hp4]
          · rw [if_neg hc, if_neg (fun h => hc (hs8.2 h))]; rfl
      · have g2' : ¬ 192 ≤ bt t 0 := by omega
        have hn : ldN (bt t 0) = 1 := by unfold ldN; rw [if_neg g4', if_neg g3', if_neg g2']
        have hp : ldP (bt t 0) = bt t 0 := by unfold ldP; rw [if_neg g4', if_neg g3', if_neg g2']
        rw [hn, if_neg g2, if_neg (by omega)]
        have hp4 : accP t 1 = ((((l.getD 0 0).toNat : Nat)) : Int) := by omega
        have hs8 : same8 t 1 = true ↔ (l.getD 0 0).toNat < 128 := by
          unfold same8
          rw [hp4, Int.toNat_natCast, hx 1, beq_iff_eq]
          rcases l with _ | ⟨y0, r⟩
          · exfalso; simp at hl; omega
          · simp only [List.getD_cons_zero, List.take_succ_cons, List.take_zero] at *
            rw [u8b_is1]
            omega
        by_cases hc : same8 t 1 = true
        · rw [if_pos hc, if_pos (hs8.1 hc), hp4]
        · rw [if_neg hc, if_neg (fun h => hc (hs8.2 h))]; rfl

/-- What the language reads is the point at the front, where it reads one. -/
theorem dN_bad {n b0 b1 b2 b3 : Nat} (h : 128 ≤ b0) (h2 : ¬ (b0 / 32 = 6 ∧ 1 < n ∧ b1 / 64 = 2 ∧ 128 ≤ b0 % 32 * 64 + b1 % 64))
    (h3 : ¬ ((b0 / 16 = 14 ∧ (1 < n ∧ b1 / 64 = 2) ∧ 2 < n ∧ b2 / 64 = 2) ∧ (b0 % 16 * 4096 + b1 % 64 * 64 + b2 % 64 ≥ 2048 ∧ (b0 % 16 * 4096 + b1 % 64 * 64 + b2 % 64 < 55296 ∨ 57344 ≤ b0 % 16 * 4096 + b1 % 64 * 64 + b2 % 64 ∧ b0 % 16 * 4096 + b1 % 64 * 64 + b2 % 64 ≤ 1114111))))
    (h4 : ¬ ((b0 / 8 = 30 ∧ (1 < n ∧ b1 / 64 = 2) ∧ (2 < n ∧ b2 / 64 = 2) ∧ 3 < n ∧ b3 / 64 = 2) ∧ (b0 % 8 * 262144 + b1 % 64 * 4096 + b2 % 64 * 64 + b3 % 64 ≥ 65536 ∧ (b0 % 8 * 262144 + b1 % 64 * 4096 + b2 % 64 * 64 + b3 % 64 < 55296 ∨ 57344 ≤ b0 % 8 * 262144 + b1 % 64 * 4096 + b2 % 64 * 64 + b3 % 64 ∧ b0 % 8 * 262144 + b1 % 64 * 4096 + b2 % 64 * 64 + b3 % 64 ≤ 1114111)))) :
    decodeN n b0 b1 b2 b3 = (65533, 1) := by
  unfold decodeN
  rw [if_neg (by omega)]
  by_cases a2 : b0 / 32 = 6 ∧ 1 < n ∧ b1 / 64 = 2
  · rw [if_pos a2, if_neg (by omega)]
  · rw [if_neg a2]
    by_cases a3 : b0 / 16 = 14 ∧ (1 < n ∧ b1 / 64 = 2) ∧ 2 < n ∧ b2 / 64 = 2
    · rw [if_pos a3, if_neg (fun h => h3 ⟨a3, h⟩)]
    · rw [if_neg a3]
      by_cases a4 : b0 / 8 = 30 ∧ (1 < n ∧ b1 / 64 = 2) ∧ (2 < n ∧ b2 / 64 = 2) ∧ 3 < n ∧ b3 / 64 = 2
      · rw [if_pos a4, if_neg (fun h => h4 ⟨a4, h⟩)]
      · rw [if_neg a4]
theorem dN_1 {n b0 b1 b2 b3 : Nat} (h : b0 < 128) : decodeN n b0 b1 b2 b3 = (b0, 1) := by unfold decodeN; rw [if_pos h]
theorem dN_2 {n b0 b1 b2 b3 : Nat} (h : b0 / 32 = 6 ∧ 1 < n ∧ b1 / 64 = 2) (h2 : 128 ≤ b0 % 32 * 64 + b1 % 64) : decodeN n b0 b1 b2 b3 = (b0 % 32 * 64 + b1 % 64, 2) := by
  unfold decodeN; rw [if_neg (by omega), if_pos h, if_pos h2]
theorem dN_3 {n b0 b1 b2 b3 : Nat} (h : b0 / 16 = 14 ∧ (1 < n ∧ b1 / 64 = 2) ∧ 2 < n ∧ b2 / 64 = 2) (h2 : b0 % 16 * 4096 + b1 % 64 * 64 + b2 % 64 ≥ 2048 ∧ (b0 % 16 * 4096 + b1 % 64 * 64 + b2 % 64 < 55296 ∨ 57344 ≤ b0 % 16 * 4096 + b1 % 64 * 64 + b2 % 64 ∧ b0 % 16 * 4096 + b1 % 64 * 64 + b2 % 64 ≤ 1114111)) :
    decodeN n b0 b1 b2 b3 = (b0 % 16 * 4096 + b1 % 64 * 64 + b2 % 64, 3) := by
  unfold decodeN; rw [if_neg (by omega), if_neg (by omega), if_pos h, if_pos h2]
theorem dN_4 {n b0 b1 b2 b3 : Nat} (h : b0 / 8 = 30 ∧ (1 < n ∧ b1 / 64 = 2) ∧ (2 < n ∧ b2 / 64 = 2) ∧ 3 < n ∧ b3 / 64 = 2) (h2 : b0 % 8 * 262144 + b1 % 64 * 4096 + b2 % 64 * 64 + b3 % 64 ≥ 65536 ∧ (b0 % 8 * 262144 + b1 % 64 * 4096 + b2 % 64 * 64 + b3 % 64 < 55296 ∨ 57344 ≤ b0 % 8 * 262144 + b1 % 64 * 4096 + b2 % 64 * 64 + b3 % 64 ∧ b0 % 8 * 262144 + b1 % 64 * 4096 + b2 % 64 * 64 + b3 % 64 ≤ 1114111)) :
    decodeN n b0 b1 b2 b3 = (b0 % 8 * 262144 + b1 % 64 * 4096 + b2 % 64 * 64 + b3 % 64, 4) := by
  unfold decodeN; rw [if_neg (by omega), if_neg (by omega), if_neg (by omega), if_pos h, if_pos h2]
theorem oN_1 {n b0 b1 b2 b3 : Nat} (h : b0 < 128) : one8N n b0 b1 b2 b3 = (b0, 1) := by
  unfold one8N; rw [if_neg (by omega), if_neg (by omega), if_neg (by omega), if_pos h]
theorem oN_2 {n b0 b1 b2 b3 : Nat} (h : b0 / 32 = 6 ∧ 1 < n ∧ b1 / 64 = 2) (h2 : 128 ≤ b0 % 32 * 64 + b1 % 64) : one8N n b0 b1 b2 b3 = (b0 % 32 * 64 + b1 % 64, 2) := by
  unfold one8N; rw [if_neg (by omega), if_neg (by omega), if_pos (by omega), if_pos (by omega)]
theorem oN_3 {n b0 b1 b2 b3 : Nat} (h : b0 / 16 = 14 ∧ (1 < n ∧ b1 / 64 = 2) ∧ 2 < n ∧ b2 / 64 = 2) (h2 : b0 % 16 * 4096 + b1 % 64 * 64 + b2 % 64 ≥ 2048) : one8N n b0 b1 b2 b3 = (b0 % 16 * 4096 + b1 % 64 * 64 + b2 % 64, 3) := by
  unfold one8N; rw [if_neg (by omega), if_pos (by omega), if_pos (by omega)]
theorem oN_4 {n b0 b1 b2 b3 : Nat} (h : b0 / 8 = 30 ∧ (1 < n ∧ b1 / 64 = 2) ∧ (2 < n ∧ b2 / 64 = 2) ∧ 3 < n ∧ b3 / 64 = 2) (h2 : b0 % 8 * 262144 + b1 % 64 * 4096 + b2 % 64 * 64 + b3 % 64 ≥ 65536) :
    one8N n b0 b1 b2 b3 = (b0 % 8 * 262144 + b1 % 64 * 4096 + b2 % 64 * 64 + b3 % 64, 4) := by
  unfold one8N; rw [if_pos (by omega), if_pos (by omega)]
theorem oN_no {n b0 b1 b2 b3 : Nat} (h1 : 128 ≤ b0) (h0 : b0 < 256) (h2 : ¬ (b0 / 32 = 6 ∧ 1 < n ∧ b1 / 64 = 2 ∧ 128 ≤ b0 % 32 * 64 + b1 % 64))
    (h3 : ¬ ((b0 / 16 = 14 ∧ (1 < n ∧ b1 / 64 = 2) ∧ 2 < n ∧ b2 / 64 = 2) ∧ b0 % 16 * 4096 + b1 % 64 * 64 + b2 % 64 ≥ 2048))
    (h4 : ¬ ((b0 / 8 = 30 ∧ (1 < n ∧ b1 / 64 = 2) ∧ (2 < n ∧ b2 / 64 = 2) ∧ 3 < n ∧ b3 / 64 = 2) ∧ b0 % 8 * 262144 + b1 % 64 * 4096 + b2 % 64 * 64 + b3 % 64 ≥ 65536)) : one8N n b0 b1 b2 b3 = (0, 0) := by
  unfold one8N
  by_cases a4 : 240 ≤ b0
  · rw [if_pos a4, if_neg (by omega)]
  · rw [if_neg a4]
    by_cases a3 : 224 ≤ b0
    · rw [if_pos a3, if_neg (by omega)]
    · rw [if_neg a3]
      by_cases a2 : 192 ≤ b0
      · rw [if_pos a2, if_neg (by omega)]
      · rw [if_neg a2, if_neg (by omega)]
theorem one_of_dec (n b0 b1 b2 b3 : Nat) (hv : ¬ ((decodeN n b0 b1 b2 b3).1 = 65533 ∧ (decodeN n b0 b1 b2 b3).2 = 1)) : one8N n b0 b1 b2 b3 = decodeN n b0 b1 b2 b3 := by
  by_cases a1 : b0 < 128
  · rw [dN_1 a1, oN_1 a1]
  · by_cases a2 : b0 / 32 = 6 ∧ 1 < n ∧ b1 / 64 = 2 ∧ 128 ≤ b0 % 32 * 64 + b1 % 64
    · rw [dN_2 ⟨a2.1, a2.2.1, a2.2.2.1⟩ a2.2.2.2, oN_2 ⟨a2.1, a2.2.1, a2.2.2.1⟩ a2.2.2.2]
    · by_cases a3 : (b0 / 16 = 14 ∧ (1 < n ∧ b1 / 64 = 2) ∧ 2 < n ∧ b2 / 64 = 2) ∧ (b0 % 16 * 4096 + b1 % 64 * 64 + b2 % 64 ≥ 2048 ∧ (b0 % 16 * 4096 + b1 % 64 * 64 + b2 % 64 < 55296 ∨ 57344 ≤ b0 % 16 * 4096 + b1 % 64 * 64 + b2 % 64 ∧ b0 % 16 * 4096 + b1 % 64 * 64 + b2 % 64 ≤ 1114111))
      · rw [dN_3 a3.1 a3.2, oN_3 a3.1 a3.2.1]
      · by_cases a4 : (b0 / 8 = 30 ∧ (1 < n ∧ b1 / 64 = 2) ∧ (2 < n ∧ b2 / 64 = 2) ∧ 3 < n ∧ b3 / 64 = 2) ∧ (b0 % 8 * 262144 + b1 % 64 * 4096 + b2 % 64 * 64 + b3 % 64 ≥ 65536 ∧ (b0 % 8 * 262144 + b1 % 64 * 4096 + b2 % 64 * 64 + b3 % 64 < 55296 ∨ 57344 ≤ b0 % 8 * 262144 + b1 % 64 * 4096 + b2 % 64 * 64 + b3 % 64 ∧ b0 % 8 * 262144 + b1 % 64 * 4096 + b2 % 64 * 64 + b3 % 64 ≤ 1114111))
        · rw [dN_4 a4.1 a4.2, oN_4 a4.1 a4.2.1]
        · rw [dN_bad (by omega) a2 a3 a4] at hv
          exact absurd ⟨rfl, rfl⟩ hv
theorem dec_of_one (n b0 b1 b2 b3 : Nat) (h0 : b0 < 256) (hn : (one8N n b0 b1 b2 b3).2 ≠ 0) (hg : (one8N n b0 b1 b2 b3).1 < 1114112 ∧ ((one8N n b0 b1 b2 b3).1 < 55296 ∨ 57344 ≤ (one8N n b0 b1 b2 b3).1)) :
    decodeN n b0 b1 b2 b3 = one8N n b0 b1 b2 b3 ∧ ¬ ((decodeN n b0 b1 b2 b3).1 = 65533 ∧ (decodeN n b0 b1 b2 b3).2 = 1) := by
  by_cases a1 : b0 < 128
  · rw [dN_1 a1, oN_1 a1]; exact ⟨rfl, fun h => by have := h.1; simp only at this; omega⟩
  · by_cases a2 : b0 / 32 = 6 ∧ 1 < n ∧ b1 / 64 = 2 ∧ 128 ≤ b0 % 32 * 64 + b1 % 64
    · rw [dN_2 ⟨a2.1, a2.2.1, a2.2.2.1⟩ a2.2.2.2, oN_2 ⟨a2.1, a2.2.1, a2.2.2.1⟩ a2.2.2.2]; exact ⟨rfl, fun h => by have := h.2; simp only at this; omega⟩
    · by_cases a3 : (b0 / 16 = 14 ∧ (1 < n ∧ b1 / 64 = 2) ∧ 2 < n ∧ b2 / 64 = 2) ∧ b0 % 16 * 4096 + b1 % 64 * 64 + b2 % 64 ≥ 2048
      · rw [oN_3 a3.1 a3.2] at hg hn
        simp only at hg
        rw [dN_3 a3.1 ⟨a3.2, by omega⟩, oN_3 a3.1 a3.2]; exact ⟨rfl, fun h => by have := h.2; simp only at this; omega⟩
      · by_cases a4 : (b0 / 8 = 30 ∧ (1 < n ∧ b1 / 64 = 2) ∧ (2 < n ∧ b2 / 64 = 2) ∧ 3 < n ∧ b3 / 64 = 2) ∧ b0 % 8 * 262144 + b1 % 64 * 4096 + b2 % 64 * 64 + b3 % 64 ≥ 65536
        · rw [oN_4 a4.1 a4.2] at hg hn
          simp only at hg
          rw [dN_4 a4.1 ⟨a4.2, by omega⟩, oN_4 a4.1 a4.2]; exact ⟨rfl, fun h => by have := h.2; simp only at this; omega⟩
        · rw [oN_no (by omega) h0 a2 a3 a4] at hn
          exact absurd rfl hn

end Go.Proofs.YtljnciclbjcinaaGreatDoor
