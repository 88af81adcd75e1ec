/-
  How the walk's bits of whole numbers read as bits of natural numbers.
-/
import Derived.WalkKit
import Derived.Test.YtahjplaidkibpaaPure
namespace Go.Proofs.Ytahjplaidkibpaa
open Go.RowKit

theorem bits_and64 (x y : Int) : bits .and .i64 x y = IntKind.i64.wrap ((BitVec.ofInt 64 x &&& BitVec.ofInt 64 y).toNat : Int) := rfl
theorem bits_or64 (x y : Int) : bits .or .i64 x y = IntKind.i64.wrap ((BitVec.ofInt 64 x ||| BitVec.ofInt 64 y).toNat : Int) := rfl
theorem bits_xor64 (x y : Int) : bits .xor .i64 x y = IntKind.i64.wrap ((BitVec.ofInt 64 x ^^^ BitVec.ofInt 64 y).toNat : Int) := rfl
theorem bits_andNot64 (x y : Int) : bits .andNot .i64 x y = IntKind.i64.wrap ((BitVec.ofInt 64 x &&& ~~~BitVec.ofInt 64 y).toNat : Int) := rfl

theorem ofInt_nat (a : Nat) (h : a < 4611686018427387904) : (BitVec.ofInt 64 (a : Int)).toNat = a := by
  rw [BitVec.toNat_ofInt]; omega

theorem wrap_nat (a : Nat) (h : a < 4611686018427387904) : IntKind.i64.wrap (a : Int) = (a : Int) := by
  rw [IntKind.wrap_i64]; omega

theorem bits_and_one (x : Int) : bits .and .i64 x 1 = x % 2 := by
  have e : (1 : BitVec 64).toNat = 1 := rfl
  have e1 : BitVec.ofInt 64 1 = (1 : BitVec 64) := by decide
  rw [bits_and64, BitVec.toNat_and, e1, e, Nat.and_one_is_mod, BitVec.toNat_ofInt]
  have h : ((x % ((2 ^ 64 : Nat) : Int)).toNat % 2 : Nat) = (x % 2).toNat := by omega
  rw [h]
  have h2 : (((x % 2).toNat : Nat) : Int) = x % 2 := by omega
  rw [h2, IntKind.wrap_i64]
  omega

theorem bits_or_nat (a b : Nat) (ha : a < 4611686018427387904) (hb : b < 4611686018427387904) : bits .or .i64 (a : Int) (b : Int) = ((a ||| b : Nat) : Int) := by
  rw [bits_or64, BitVec.toNat_or, ofInt_nat a ha, ofInt_nat b hb]
  exact wrap_nat _ (Nat.or_lt_two_pow (n := 62) ha hb)

theorem bits_xor_nat (a b : Nat) (ha : a < 4611686018427387904) (hb : b < 4611686018427387904) : bits .xor .i64 (a : Int) (b : Int) = ((a ^^^ b : Nat) : Int) := by
  rw [bits_xor64, BitVec.toNat_xor, ofInt_nat a ha, ofInt_nat b hb]
  exact wrap_nat _ (Nat.xor_lt_two_pow (n := 62) ha hb)

theorem bits_and_nat (a b : Nat) (ha : a < 4611686018427387904) (hb : b < 4611686018427387904) : bits .and .i64 (a : Int) (b : Int) = ((a &&& b : Nat) : Int) := by
  rw [bits_and64, BitVec.toNat_and, ofInt_nat a ha, ofInt_nat b hb]
  exact wrap_nat _ (Nat.lt_of_le_of_lt Nat.and_le_left ha)

theorem bits_andNot_nat (a b : Nat) (ha : a < 4611686018427387904) (hb : b < 4611686018427387904) : bits .andNot .i64 (a : Int) (b : Int) = ((Nt.less a b : Nat) : Int) := by
  have e : (BitVec.ofInt 64 (a : Int) &&& ~~~BitVec.ofInt 64 (b : Int)).toNat = Nt.less a b := by
    apply Nat.eq_of_testBit_eq
    intro i
    rw [Nt.testBit_less, ← BitVec.getLsbD, BitVec.getLsbD_and, BitVec.getLsbD_not, BitVec.getLsbD, BitVec.getLsbD, ofInt_nat a ha, ofInt_nat b hb]
    by_cases hi : i < 64
    · simp [hi]
    · have : a.testBit i = false := Nat.testBit_lt_two_pow (Nat.lt_of_lt_of_le ha (Nat.pow_le_pow_right (n := 2) (i := 62) (by omega) (by omega)))
      simp [this]
  rw [bits_andNot64, e]
  exact wrap_nat _ (Nt.less_lt (m := 62) ha)

theorem pow_int_le (n : Int) (h0 : 0 ≤ n) (h : n ≤ 61) : (0 : Int) < 2 ^ n.toNat ∧ (2 : Int) ^ n.toNat ≤ 2305843009213693952 := by
  have h1 : (2 : Nat) ^ n.toNat ≤ 2 ^ 61 := Nat.pow_le_pow_right (by omega) (by omega)
  have h2 : (0 : Nat) < 2 ^ n.toNat := Nat.two_pow_pos _
  have e : ((2 ^ n.toNat : Nat) : Int) = (2 : Int) ^ n.toNat := Int.natCast_pow 2 n.toNat
  rw [← e]
  generalize 2 ^ n.toNat = m at *
  omega

theorem wrap_pow (n : Int) (h0 : 0 ≤ n) (h : n ≤ 61) : wrap64 (2 ^ n.toNat) = 2 ^ n.toNat := by
  have := pow_int_le n h0 h
  exact IntWalk.wrap64_in _ (by omega)

theorem wrap_pow_nat (n : Nat) (h : n ≤ 61) : IntKind.i64.wrap (2 ^ n) = 2 ^ n := by
  have := wrap_pow n (by omega) (by omega)
  rw [Int.toNat_natCast] at this
  exact (IntWalk.i64_left _).trans this

theorem wrap_pow_pred (n : Nat) (h : n ≤ 61) : IntKind.i64.wrap (2 ^ n - 1) = 2 ^ n - 1 := by
  have := pow_int_le n (by omega) (by omega)
  rw [Int.toNat_natCast] at this
  exact IntWalk.i64_in _ (by omega)

theorem shr_nonneg (x j : Nat) : (0 : Int) ≤ (x : Int) / 2 ^ j := by
  exact Int.ediv_nonneg (by omega) (Int.le_of_lt (Int.pow_pos (by omega)))

theorem shr_bit (x j : Nat) : (x : Int) / 2 ^ j % 2 = if x.testBit j then 1 else 0 := by
  have e : ((x : Int) / 2 ^ j % 2) = ((x / 2 ^ j % 2 : Nat) : Int) := by simp
  rw [e, Nat.testBit_eq_decide_div_mod_eq]
  by_cases h : x / 2 ^ j % 2 = 1
  · simp [h]
  · have : x / 2 ^ j % 2 = 0 := by omega
    simp [this]

theorem or_shl (x b : Nat) (hx : x < 64) (hb : b ≤ 6) : bits .or .i64 (x : Int) (wrap64 (2 ^ b)) = ((x ||| 2 ^ b : Nat) : Int) := by
  have h := wrap_pow b (by omega) (by omega)
  rw [Int.toNat_natCast] at h
  have h2 : (2 : Nat) ^ b ≤ 2 ^ 6 := Nat.pow_le_pow_right (by omega) hb
  have e : (2 : Int) ^ b = ((2 ^ b : Nat) : Int) := (Int.natCast_pow 2 b).symm
  rw [h, e]
  exact bits_or_nat _ _ (by omega) (by omega)

theorem or_zero_shl (b : Nat) (hb : b ≤ 6) : bits .or .i64 0 (wrap64 (2 ^ b)) = ((2 ^ b : Nat) : Int) :=
  (or_shl 0 b (by omega) hb).trans (by rw [Nat.zero_or])

theorem or_small {x b : Nat} (hx : x < 64) (hb : b < 6) : x ||| 2 ^ b < 64 :=
  Nat.or_lt_two_pow (n := 6) hx (Nat.pow_lt_pow_right (by omega) hb)

theorem and_one_bit (s : Int) (k : Nat) : (bits .and .i64 (s / 2 ^ k) 1 == 1) = Nt.bit s k := by
  rw [bits_and_one]; rfl

end Go.Proofs.Ytahjplaidkibpaa
