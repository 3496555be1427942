/- Plain mathematics of the sum by words (SHA-256) and of the sum under a key (HMAC), as lists of numbers. Nothing of the program. -/
import Derived.Test.YtmikhnaffhheoaaDoorBase
namespace Go.Proofs.YtmikhnaffhheoaaDoor
def rotN (x n : Nat) : Nat := (x >>> n) ||| ((x <<< (32 - n)) % 4294967296)
def s0N (x : Nat) : Nat := rotN x 7 ^^^ rotN x 18 ^^^ (x >>> 3)
def s1N (x : Nat) : Nat := rotN x 17 ^^^ rotN x 19 ^^^ (x >>> 10)
def b0N (x : Nat) : Nat := rotN x 2 ^^^ rotN x 13 ^^^ rotN x 22
def b1N (x : Nat) : Nat := rotN x 6 ^^^ rotN x 11 ^^^ rotN x 25
def be4 (b : List Nat) (i : Nat) : Nat := b.getD (4 * i) 0 * 16777216 + b.getD (4 * i + 1) 0 * 65536 + b.getD (4 * i + 2) 0 * 256 + b.getD (4 * i + 3) 0
def nextW (ws : List Nat) (i : Nat) : Nat := (ws.getD (i - 16) 0 + s0N (ws.getD (i - 15) 0) + ws.getD (i - 7) 0 + s1N (ws.getD (i - 2) 0)) % 4294967296
def schedTo (b : List Nat) : Nat → List Nat
  | 0 => []
  | k + 1 => schedTo b k ++ [if k < 16 then be4 b k else nextW (schedTo b k) k]
def kW : List Nat := [
  0x428a2f98, 0x71374491, 0xb5c0fbcf, 0xe9b5dba5, 0x3956c25b, 0x59f111f1, 0x923f82a4, 0xab1c5ed5,
  0xd807aa98, 0x12835b01, 0x243185be, 0x550c7dc3, 0x72be5d74, 0x80deb1fe, 0x9bdc06a7, 0xc19bf174,
  0xe49b69c1, 0xefbe4786, 0x0fc19dc6, 0x240ca1cc, 0x2de92c6f, 0x4a7484aa, 0x5cb0a9dc, 0x76f988da,
  0x983e5152, 0xa831c66d, 0xb00327c8, 0xbf597fc7, 0xc6e00bf3, 0xd5a79147, 0x06ca6351, 0x14292967,
  0x27b70a85, 0x2e1b2138, 0x4d2c6dfc, 0x53380d13, 0x650a7354, 0x766a0abb, 0x81c2c92e, 0x92722c85,
  0xa2bfe8a1, 0xa81a664b, 0xc24b8b70, 0xc76c51a3, 0xd192e819, 0xd6990624, 0xf40e3585, 0x106aa070,
  0x19a4c116, 0x1e376c08, 0x2748774c, 0x34b0bcb5, 0x391c0cb3, 0x4ed8aa4a, 0x5b9cca4f, 0x682e6ff3,
  0x748f82ee, 0x78a5636f, 0x84c87814, 0x8cc70208, 0x90befffa, 0xa4506ceb, 0xbef9a3f7, 0xc67178f2]
def iW : List Nat := [0x6a09e667, 0xbb67ae85, 0x3c6ef372, 0xa54ff53a, 0x510e527f, 0x9b05688c, 0x1f83d9ab, 0x5be0cd19]
def tN (v : List Nat) (k x : Nat) : Nat := (v.getD 7 0 + b1N (v.getD 4 0) + ((v.getD 4 0 &&& v.getD 5 0) ^^^ ((4294967295 - v.getD 4 0) &&& v.getD 6 0)) + k + x) % 4294967296
def uN (v : List Nat) : Nat := (b0N (v.getD 0 0) + ((v.getD 0 0 &&& v.getD 1 0) ^^^ (v.getD 0 0 &&& v.getD 2 0) ^^^ (v.getD 1 0 &&& v.getD 2 0))) % 4294967296
def rndN (v : List Nat) (k x : Nat) : List Nat := [(tN v k x + uN v) % 4294967296, v.getD 0 0, v.getD 1 0, v.getD 2 0, (v.getD 3 0 + tN v k x) % 4294967296, v.getD 4 0, v.getD 5 0, v.getD 6 0]
def rndTo (v ws : List Nat) : Nat → List Nat
  | 0 => v
  | i + 1 => rndN (rndTo v ws i) (kW.getD i 0) (ws.getD i 0)
def addL (v u : List Nat) : List Nat := (List.range 8).map fun i => (v.getD i 0 + u.getD i 0) % 4294967296
def comp (v b : List Nat) : List Nat := addL v (rndTo v (schedTo b 64) 64)
def compTo (b : List Nat) : Nat → List Nat
  | 0 => iW
  | k + 1 => comp (compTo b k) ((b.drop (64 * k)).take 64)
def nbE (n : Nat) : List Nat := (List.range 8).map fun i => n / 256 ^ (7 - i) % 256
def padN (n : Nat) : Nat := if 64 - n % 64 < 9 then 128 - n % 64 else 64 - n % 64
def endB (n : Nat) : List Nat := [128] ++ List.replicate (padN n - 9) 0 ++ nbE (n * 8 % 18446744073709551616)
def whole (b : List Nat) : List Nat := b ++ endB b.length
def bytesW (v : List Nat) : List Nat := (List.range 32).map fun i => v.getD (i / 4) 0 / 256 ^ (3 - i % 4) % 256
def shaN (b : List Nat) : List Nat := bytesW (compTo (whole b) ((whole b).length / 64))
def keyB (k : List Nat) : List Nat := if 64 < k.length then shaN k ++ List.replicate 32 0 else k ++ List.replicate (64 - k.length) 0
def macN (k b : List Nat) : List Nat := shaN ((keyB k).map (· ^^^ 92) ++ shaN ((keyB k).map (· ^^^ 54) ++ b))
set_option maxRecDepth 100000 in
theorem sha_abc : (shaN [97, 98, 99]).take 4 = [186, 120, 22, 191] := by decide +kernel
set_option maxRecDepth 100000 in
theorem mac_jefe : (macN [74, 101, 102, 101] [119, 104, 97, 116, 32, 100, 111, 32, 121, 97, 32, 119, 97, 110, 116, 32, 102, 111, 114, 32, 110, 111, 116, 104, 105, 110, 103, 63]).take 4 = [91, 220, 193, 70] := by decide +kernel
theorem shr_lt (x n : Nat) (h : x < 4294967296) : x >>> n < 4294967296 := by rw [Nat.shiftRight_eq_div_pow]; exact Nat.lt_of_le_of_lt (Nat.div_le_self _ _) h
theorem or_lt32 (a b : Nat) (ha : a < 4294967296) (hb : b < 4294967296) : a ||| b < 4294967296 := Nat.or_lt_two_pow (n := 32) ha hb
theorem xor_lt32 (a b : Nat) (ha : a < 4294967296) (hb : b < 4294967296) : a ^^^ b < 4294967296 := Nat.xor_lt_two_pow (n := 32) ha hb
theorem and_lt32 (a b : Nat) (hb : b < 4294967296) : a &&& b < 4294967296 := Nat.lt_of_le_of_lt Nat.and_le_right hb
theorem rotN_lt (x n : Nat) (h : x < 4294967296) : rotN x n < 4294967296 := or_lt32 _ _ (shr_lt x n h) (Nat.mod_lt _ (by omega))
theorem s0N_lt (x : Nat) (h : x < 4294967296) : s0N x < 4294967296 := xor_lt32 _ _ (xor_lt32 _ _ (rotN_lt _ _ h) (rotN_lt _ _ h)) (shr_lt _ _ h)
theorem s1N_lt (x : Nat) (h : x < 4294967296) : s1N x < 4294967296 := xor_lt32 _ _ (xor_lt32 _ _ (rotN_lt _ _ h) (rotN_lt _ _ h)) (shr_lt _ _ h)
theorem nextW_lt (ws : List Nat) (i : Nat) : nextW ws i < 4294967296 := Nat.mod_lt _ (by omega)
theorem schedTo_len (b : List Nat) : ∀ k, (schedTo b k).length = k := by
  intro k
  induction k with
  | zero => rfl
  | succ k ih => simp [schedTo, ih]
end Go.Proofs.YtmikhnaffhheoaaDoor
