/-
  The plain mathematics of mixing: a number of 64 bits becomes another one, no two the same. No program is spoken of here.
-/
namespace Foyer.Digest

/-- A number xor itself, shifted. -/
def xs (k x : Nat) : Nat := x ^^^ (x / 2 ^ k)
def c1 : Nat := 11400714819323198485
def c2 : Nat := 13787848793156543929
def big : Nat := 18446744073709551616
/-- To mix. -/
def mix (x : Nat) : Nat := xs 32 (xs 29 (xs 32 x * c1 % big) * c2 % big)

theorem xs_lt {k x : Nat} (h : x < big) : xs k x < big := by
  have h2 : x / 2 ^ k < 2 ^ 64 := Nat.lt_of_le_of_lt (Nat.div_le_self _ _) h
  exact Nat.xor_lt_two_pow (n := 64) h h2
theorem mul_lt (x c : Nat) : x * c % big < big := Nat.mod_lt _ (by decide)
theorem mix_lt (x : Nat) : mix x < big := xs_lt (mul_lt _ _)

theorem xs_shift (k x : Nat) : xs k x = x ^^^ (x >>> k) := by unfold xs; rw [Nat.shiftRight_eq_div_pow]
theorem shift_zero {x k : Nat} (h : x < big) (hk : 64 ≤ k) : x >>> k = 0 := by
  rw [Nat.shiftRight_eq_div_pow]
  exact Nat.div_eq_of_lt (Nat.lt_of_lt_of_le h (show big ≤ 2 ^ k from (Nat.pow_le_pow_right (by decide) hk : 2 ^ 64 ≤ 2 ^ k)))
theorem xs32_twice {x : Nat} (h : x < big) : xs 32 (xs 32 x) = x := by
  simp only [xs_shift, Nat.shiftRight_xor_distrib, ← Nat.shiftRight_add]
  rw [shift_zero (k := 32 + 32) h (by decide), Nat.xor_zero, Nat.xor_assoc, Nat.xor_self, Nat.xor_zero]
theorem xs29_back {x : Nat} (h : x < big) : (let y := xs 29 x; y ^^^ (y >>> 29) ^^^ (y >>> 58)) = x := by
  simp only [xs_shift, Nat.shiftRight_xor_distrib, ← Nat.shiftRight_add]
  rw [shift_zero (k := 29 + 58) h (by decide), Nat.xor_zero]
  have e : ∀ a b c : Nat, a ^^^ b ^^^ (b ^^^ c) ^^^ c = a := fun a b c => by
    rw [Nat.xor_assoc a b, ← Nat.xor_assoc b b c, Nat.xor_self, Nat.zero_xor, Nat.xor_assoc, Nat.xor_self, Nat.xor_zero]
  exact e _ _ _
theorem xs32_inj {x y : Nat} (hx : x < big) (hy : y < big) (h : xs 32 x = xs 32 y) : x = y := by
  rw [← xs32_twice hx, h, xs32_twice hy]
theorem xs29_inj {x y : Nat} (hx : x < big) (hy : y < big) (h : xs 29 x = xs 29 y) : x = y := by
  rw [← xs29_back hx, h, xs29_back hy]

theorem mul_inj {c i : Nat} (hc : c * i % big = 1) {x y : Nat} (hx : x < big) (hy : y < big) (h : x * c % big = y * c % big) : x = y := by
  have e : ∀ z, z < big → z * c % big * i % big = z := fun z hz => by
    rw [Nat.mod_mul_mod, Nat.mul_assoc, Nat.mul_mod, hc, Nat.mul_one, Nat.mod_mod, Nat.mod_eq_of_lt hz]
  rw [← e x hx, h, e y hy]
theorem c1_inv : c1 * 17428512612931826493 % big = 1 := by decide +kernel
theorem c2_inv : c2 * 10871156337175269513 % big = 1 := by decide +kernel

/-- MIXING: no two numbers become the same. -/
theorem mix_inj {x y : Nat} (hx : x < big) (hy : y < big) (h : mix x = mix y) : x = y :=
  xs32_inj hx hy (mul_inj c1_inv (xs_lt hx) (xs_lt hy) (xs29_inj (mul_lt _ _) (mul_lt _ _) (mul_inj c2_inv (xs_lt (mul_lt _ _)) (xs_lt (mul_lt _ _)) (xs32_inj (mul_lt _ _) (mul_lt _ _) h))))
theorem xor_lt {x y : Nat} (hx : x < big) (hy : y < big) : x ^^^ y < big := Nat.xor_lt_two_pow (n := 64) hx hy
theorem xor_cancel {x y z : Nat} (h : x ^^^ z = y ^^^ z) : x = y := by
  have e : ∀ a : Nat, a ^^^ z ^^^ z = a := fun a => by rw [Nat.xor_assoc, Nat.xor_self, Nat.xor_zero]
  rw [← e x, h, e y]
theorem xor_cancel' {x y z : Nat} (h : z ^^^ x = z ^^^ y) : x = y := xor_cancel (z := z) (by rw [Nat.xor_comm x, Nat.xor_comm y]; exact h)
end Foyer.Digest
