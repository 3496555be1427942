/- The CRC is linear, and a burst of up to four bytes changes it. Nothing of the program. -/
import Derived.Test.YtifdfkkjmjabnabDoorBase
namespace Go.Proofs.YtifdfkkjmjabnabDoor
open Go.RowKit
theorem cb_xor (r s x y k : Nat) : cb (r ^^^ s) (x ^^^ y) k = cb r x k ^^^ cb s y k := by
  unfold cb
  have h1 : (r ^^^ s) / 2 = (r / 2) ^^^ (s / 2) := Nat.xor_div_two
  have h2 : (x ^^^ y) / 2 ^ k = (x / 2 ^ k) ^^^ (y / 2 ^ k) := Nat.xor_div_two_pow
  rw [h1, h2]
  generalize x / 2 ^ k = x'
  generalize y / 2 ^ k = y'
  generalize r / 2 = r2
  generalize s / 2 = s2
  have e : (r ^^^ s ^^^ (x' ^^^ y')) % 2 = ((r ^^^ x') % 2 + (s ^^^ y') % 2) % 2 := by
    have a1 := xor_two r s
    have a2 := xor_two x' y'
    rw [xor_two, xor_two r x', xor_two s y']; omega
  rw [e]
  have hp := Nat.mod_lt (r ^^^ x') (show 0 < 2 by omega)
  have hq := Nat.mod_lt (s ^^^ y') (show 0 < 2 by omega)
  generalize (r ^^^ x') % 2 = p at *
  generalize (s ^^^ y') % 2 = q at *
  have e2 : 2197175160 * ((p + q) % 2) = (2197175160 * p) ^^^ (2197175160 * q) := by
    rcases (show p = 0 ∨ p = 1 by omega) with rfl | rfl <;> rcases (show q = 0 ∨ q = 1 by omega) with rfl | rfl <;> decide
  rw [e2]
  generalize 2197175160 * p = P
  generalize 2197175160 * q = Q
  ac_rfl
theorem cbits_xor (r s x y k : Nat) : cbits (r ^^^ s) (x ^^^ y) k = cbits r x k ^^^ cbits s y k := by
  induction k with
  | zero => rfl
  | succ k ih => show cb (cbits (r ^^^ s) (x ^^^ y) k) (x ^^^ y) k = _; rw [ih, cb_xor]; rfl
def xorL : List Nat → List Nat → List Nat
  | x :: xs, y :: ys => (x ^^^ y) :: xorL xs ys
  | _, _ => []
theorem reg_xor (xs : List Nat) : ∀ (ys : List Nat) (r s : Nat), xs.length = ys.length → crcReg (r ^^^ s) (xorL xs ys) = crcReg r xs ^^^ crcReg s ys := by
  induction xs with
  | nil => intro ys r s h; cases ys with
    | nil => rfl
    | cons y ys => simp at h
  | cons x xs ih => intro ys r s h; cases ys with
    | nil => simp at h
    | cons y ys =>
      show crcReg (cbyte (r ^^^ s) (x ^^^ y)) (xorL xs ys) = crcReg (cbyte r x) xs ^^^ crcReg (cbyte s y) ys
      rw [show cbyte (r ^^^ s) (x ^^^ y) = cbyte r x ^^^ cbyte s y from cbits_xor r s x y 8]
      exact ih ys _ _ (by simpa using h)
theorem xorL_len (xs : List Nat) : ∀ ys, xs.length = ys.length → (xorL xs ys).length = xs.length := by
  induction xs with
  | nil => intro ys h; rfl
  | cons x xs ih => intro ys h; cases ys with
    | nil => simp at h
    | cons y ys => simp [xorL, ih ys (by simpa using h)]
theorem xorL_zero (xs : List Nat) : xorL xs (List.replicate xs.length 0) = xs := by
  induction xs with
  | nil => rfl
  | cons x xs ih => simp [xorL, List.replicate_succ, ih]
theorem xorL_snoc (xs : List Nat) : ∀ ys x y, xs.length = ys.length → xorL (xs ++ [x]) (ys ++ [y]) = xorL xs ys ++ [x ^^^ y] := by
  induction xs with
  | nil => intro ys x y h; cases ys with
    | nil => rfl
    | cons y ys => simp at h
  | cons z xs ih => intro ys x y h; cases ys with
    | nil => simp at h
    | cons y' ys => simp [xorL, ih ys x y (by simpa using h)]
theorem crc_xor (xs ys : List Nat) (h : xs.length = ys.length) : crc (xorL xs ys) = crc xs ^^^ crc ys ^^^ crc (List.replicate xs.length 0) := by
  have h1 : crcReg 4294967295 (xorL xs ys) = crcReg 4294967295 xs ^^^ crcReg 4294967295 ys ^^^ crcReg 4294967295 (List.replicate xs.length 0) := by
    have e1 := reg_xor xs ys 4294967295 4294967295 h
    have e2 := reg_xor (xorL xs ys) (List.replicate xs.length 0) (4294967295 ^^^ 4294967295) 4294967295 (by simp [xorL_len xs ys h])
    rw [show xorL (xorL xs ys) (List.replicate xs.length 0) = xorL xs ys from by
      have := xorL_zero (xorL xs ys); rw [xorL_len xs ys h] at this; exact this] at e2
    rw [e1] at e2
    rw [← e2]
    rfl
  have b1 := crcReg_lt xs 4294967295 (by omega)
  have b2 := crcReg_lt ys 4294967295 (by omega)
  have b3 := crcReg_lt (List.replicate xs.length 0) 4294967295 (by omega)
  have b4 := crcReg_lt (xorL xs ys) 4294967295 (by omega)
  unfold crc
  rw [← not32_nat _ b1, ← not32_nat _ b2, ← not32_nat _ b3, ← not32_nat _ b4, h1]
  generalize crcReg 4294967295 xs = p
  generalize crcReg 4294967295 ys = q
  generalize crcReg 4294967295 (List.replicate xs.length 0) = r
  have : 4294967295 ^^^ p ^^^ (4294967295 ^^^ q) ^^^ (4294967295 ^^^ r) = (4294967295 ^^^ 4294967295) ^^^ (4294967295 ^^^ (p ^^^ q ^^^ r)) := by ac_rfl
  rw [this, Nat.xor_self, Nat.zero_xor]
theorem xor_u8 (x y : Nat) (hx : x < 256) (hy : y < 256) : x ^^^ y < 256 := Nat.xor_lt_two_pow (n := 8) hx hy
/-- One bit back: where the register's highest bit is 0, none went out. -/
theorem cb_back (r z k q : Nat) (hr : r < 4294967296) (h : cb r z k = q) (hq : q < 2147483648) : r = 2 * q + z / 2 ^ k % 2 := by
  unfold cb at h
  have hx := xor_two r (z / 2 ^ k)
  have hb : (r ^^^ z / 2 ^ k) % 2 < 2 := Nat.mod_lt _ (by omega)
  generalize z / 2 ^ k = y at *
  rcases (show (r ^^^ y) % 2 = 0 ∨ (r ^^^ y) % 2 = 1 by omega) with h0 | h0
  · rw [h0, Nat.mul_zero, Nat.xor_zero] at h
    omega
  · exfalso
    rw [h0, Nat.mul_one] at h
    have hd : (r / 2 ^^^ 2197175160) / 2147483648 = (r / 2 / 2147483648) ^^^ (2197175160 / 2147483648) := Nat.xor_div_two_pow (n := 31)
    rw [show r / 2 / 2147483648 = 0 from by omega, show 2197175160 / 2147483648 = 1 from rfl, h] at hd
    simp at hd
    omega
theorem cbyte_back (d z q : Nat) (hd : d < 4294967296) (hz : z < 256) (h : cbyte d z = q) (hq : q < 16777216) : d = 256 * q + z := by
  have l := fun k => cbits_lt d z k hd
  have s8 := cb_back (cbits d z 7) z 7 q (l 7) h (by omega)
  have s7 := cb_back (cbits d z 6) z 6 (cbits d z 7) (l 6) rfl (by omega)
  have s6 := cb_back (cbits d z 5) z 5 (cbits d z 6) (l 5) rfl (by omega)
  have s5 := cb_back (cbits d z 4) z 4 (cbits d z 5) (l 4) rfl (by omega)
  have s4 := cb_back (cbits d z 3) z 3 (cbits d z 4) (l 3) rfl (by omega)
  have s3 := cb_back (cbits d z 2) z 2 (cbits d z 3) (l 2) rfl (by omega)
  have s2 := cb_back (cbits d z 1) z 1 (cbits d z 2) (l 1) rfl (by omega)
  have s1 := cb_back d z 0 (cbits d z 1) hd rfl (by omega)
  clear h l
  simp only [show 2 ^ 7 = 128 from rfl, show 2 ^ 6 = 64 from rfl, show 2 ^ 5 = 32 from rfl, show 2 ^ 4 = 16 from rfl, show 2 ^ 3 = 8 from rfl, show 2 ^ 2 = 4 from rfl, show 2 ^ 1 = 2 from rfl, show 2 ^ 0 = 1 from rfl] at *
  omega
theorem reg_zeros (n : Nat) : ∀ d, d < 4294967296 → crcReg d (List.replicate n 0) = 0 → d = 0 := by
  induction n with
  | zero => intro d _ h; exact h
  | succ n ih =>
    intro d hd h
    have h2 := ih (cbyte d 0) (cbyte_lt d 0 hd) (by simpa [List.replicate_succ, crcReg] using h)
    have := cbyte_back d 0 0 hd (by omega) h2 (by omega)
    omega
theorem cbyte_zero : cbyte 0 0 = 0 := by decide
theorem reg_zero_zeros (n : Nat) : crcReg 0 (List.replicate n 0) = 0 := by
  induction n with
  | zero => rfl
  | succ n ih =>
    show crcReg (cbyte 0 0) (List.replicate n 0) = 0
    rw [cbyte_zero]; exact ih
theorem reg_append (r : Nat) (xs ys : List Nat) : crcReg r (xs ++ ys) = crcReg (crcReg r xs) ys := by simp [crcReg, List.foldl_append]
/-- Bytes as a number, the lowest first. -/
def leN : List Nat → Nat
  | [] => 0
  | z :: zs => z + 256 * leN zs
theorem leN_lt (zs : List Nat) (hb : ∀ z ∈ zs, z < 256) : leN zs < 256 ^ zs.length := by
  induction zs with
  | nil => simp [leN]
  | cons z zs ih =>
    have h1 := ih (fun x hx => hb x (List.mem_cons_of_mem _ hx))
    have h2 := hb z (List.mem_cons_self ..)
    show z + 256 * leN zs < 256 ^ (zs.length + 1)
    rw [Nat.pow_succ]
    omega
theorem reg_burst (zs : List Nat) : zs.length ≤ 4 → (∀ z ∈ zs, z < 256) → ∀ d, d < 4294967296 → crcReg d zs = 0 → d = leN zs := by
  induction zs with
  | nil => intro _ _ d _ h; exact h
  | cons z zs ih =>
    intro hl hb d hd h
    have hb' : ∀ x ∈ zs, x < 256 := fun x hx => hb x (List.mem_cons_of_mem _ hx)
    have hl' : zs.length ≤ 3 := by simp at hl; omega
    have h2 := ih (by omega) hb' (cbyte d z) (cbyte_lt d z hd) h
    have h3 := leN_lt zs hb'
    have h4 : 256 ^ zs.length ≤ 256 ^ 3 := Nat.pow_le_pow_right (by omega) hl'
    have := cbyte_back d z (leN zs) hd (hb z (List.mem_cons_self ..)) h2 (by omega)
    show d = z + 256 * leN zs
    omega
theorem leN_zero (zs : List Nat) : leN zs = 0 → ∀ z ∈ zs, z = 0 := by
  induction zs with
  | nil => intro _ z hz; simp at hz
  | cons x zs ih =>
    intro h z hz
    have h' : x + 256 * leN zs = 0 := h
    rcases List.mem_cons.1 hz with rfl | hz
    · omega
    · exact ih (by omega) z hz
/-- Two rows of bytes of one length that differ in up to four neighbouring bytes, and have one sum, are the same there. -/
theorem burst (p s : Nat) (zs : List Nat) (hl : zs.length ≤ 4) (hb : ∀ z ∈ zs, z < 256) (h : crcReg 0 (List.replicate p 0 ++ (zs ++ List.replicate s 0)) = 0) : ∀ z ∈ zs, z = 0 := by
  rw [reg_append, reg_zero_zeros, reg_append] at h
  have h2 := reg_zeros s _ (crcReg_lt zs 0 (by omega)) h
  exact leN_zero zs (reg_burst zs hl hb 0 (by omega) h2).symm
theorem crc_same (xs ys : List Nat) (hl : xs.length = ys.length) (h : crc xs = crc ys) : crcReg 0 (xorL xs ys) = 0 := by
  have b1 := crcReg_lt xs 4294967295 (by omega)
  have b2 := crcReg_lt ys 4294967295 (by omega)
  have e : crcReg 4294967295 xs = crcReg 4294967295 ys := by unfold crc at h; omega
  have := reg_xor xs ys 4294967295 4294967295 hl
  rw [Nat.xor_self, e, Nat.xor_self] at this
  exact this
end Go.Proofs.YtifdfkkjmjabnabDoor
