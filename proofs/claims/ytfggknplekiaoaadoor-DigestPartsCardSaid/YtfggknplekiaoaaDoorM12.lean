/- PLAIN MATHEMATICS OF LAYER 12 (digest): words of 32 bits turned, 64 words of a block, the rounds, bytes filled up, the digest; its constants, searched for and found; blocks one behind the other. No Go text is named. -/
import Derived.Test.YtfggknplekiaoaaDoorBase
import Derived.Laws.BitsAllLaws
namespace Go.Proofs.YtfggknplekiaoaaDoor
open Go.RowKit
set_option linter.unusedVariables false
namespace Dg
/-- A word turned right by n. -/
def rot (x n : Nat) : Nat := (x / 2 ^ n) ||| (x * 2 ^ (32 - n) % 4294967296)
def s0 (x : Nat) : Nat := rot x 7 ^^^ rot x 18 ^^^ x / 8
def s1 (x : Nat) : Nat := rot x 17 ^^^ rot x 19 ^^^ x / 1024
def S0 (x : Nat) : Nat := rot x 2 ^^^ rot x 13 ^^^ rot x 22
def S1 (x : Nat) : Nat := rot x 6 ^^^ rot x 11 ^^^ rot x 25
def ch (e f g : Nat) : Nat := (e &&& f) ^^^ ((4294967295 - e) &&& g)
def maj (a b c : Nat) : Nat := (a &&& b) ^^^ (a &&& c) ^^^ (b &&& c)
/-- Four bytes as a word, the highest first. -/
def be (b : List Int) (i : Nat) : Nat := (b.getD (4 * i) 0).toNat * 16777216 + (b.getD (4 * i + 1) 0).toNat * 65536 + (b.getD (4 * i + 2) 0).toNat * 256 + (b.getD (4 * i + 3) 0).toNat
def nxt (b : List Int) (l : List Nat) (i : Nat) : Nat :=
  if i < 16 then be b i else (l.getD (i - 16) 0 + s0 (l.getD (i - 15) 0) + l.getD (i - 7) 0 + s1 (l.getD (i - 2) 0)) % 4294967296
/-- The first i words of a block. -/
def wl (b : List Int) : Nat → List Nat
  | 0 => []
  | i + 1 => wl b i ++ [nxt b (wl b i) i]
/-- The eight words of a state. -/
structure St where
  a : Nat
  b : Nat
  c : Nat
  d : Nat
  e : Nat
  f : Nat
  g : Nat
  h : Nat
deriving DecidableEq
def t1 (s : St) (k w : Nat) : Nat := (s.h + S1 s.e + ch s.e s.f s.g + k + w) % 4294967296
def t2 (s : St) : Nat := (S0 s.a + maj s.a s.b s.c) % 4294967296
def round (s : St) (k w : Nat) : St := ⟨(t1 s k w + t2 s) % 4294967296, s.a, s.b, s.c, (s.d + t1 s k w) % 4294967296, s.e, s.f, s.g⟩
def add (s t : St) : St := ⟨(s.a + t.a) % 4294967296, (s.b + t.b) % 4294967296, (s.c + t.c) % 4294967296, (s.d + t.d) % 4294967296, (s.e + t.e) % 4294967296, (s.f + t.f) % 4294967296, (s.g + t.g) % 4294967296, (s.h + t.h) % 4294967296⟩
/-- The constants. -/
def K : List Nat := [0x428a2f98, 0x71374491, 0xb5c0fbcf, 0xe9b5dba5, 0x3956c25b, 0x59f111f1, 0x923f82a4, 0xab1c5ed5, 0xd807aa98, 0x12835b01, 0x243185be, 0x550c7dc3, 0x72be5d74, 0x80deb1fe, 0x9bdc06a7, 0xc19bf174,
  0xe49b69c1, 0xefbe4786, 0x0fc19dc6, 0x240ca1cc, 0x2de92c6f, 0x4a7484aa, 0x5cb0a9dc, 0x76f988da, 0x983e5152, 0xa831c66d, 0xb00327c8, 0xbf597fc7, 0xc6e00bf3, 0xd5a79147, 0x06ca6351, 0x14292967,
  0x27b70a85, 0x2e1b2138, 0x4d2c6dfc, 0x53380d13, 0x650a7354, 0x766a0abb, 0x81c2c92e, 0x92722c85, 0xa2bfe8a1, 0xa81a664b, 0xc24b8b70, 0xc76c51a3, 0xd192e819, 0xd6990624, 0xf40e3585, 0x106aa070,
  0x19a4c116, 0x1e376c08, 0x2748774c, 0x34b0bcb5, 0x391c0cb3, 0x4ed8aa4a, 0x5b9cca4f, 0x682e6ff3, 0x748f82ee, 0x78a5636f, 0x84c87814, 0x8cc70208, 0x90befffa, 0xa4506ceb, 0xbef9a3f7, 0xc67178f2]
def H : St := ⟨0x6a09e667, 0xbb67ae85, 0x3c6ef372, 0xa54ff53a, 0x510e527f, 0x9b05688c, 0x1f83d9ab, 0x5be0cd19⟩
/-- The state behind i rounds. -/
def rs (w : List Nat) (s : St) : Nat → St
  | 0 => s
  | i + 1 => round (rs w s i) (K.getD i 0) (w.getD i 0)
/-- The state behind a block. -/
def cmp (s : St) (b : List Int) : St := add s (rs (wl b 64) s 64)
/-- The state behind k blocks. -/
def hb (s : St) : Nat → List Int → St
  | 0, _ => s
  | k + 1, b => hb (cmp s (b.take 64)) k (b.drop 64)
/-- How many noughts fill n bytes (and 128) up. -/
def pad (n : Nat) : Nat := (119 - n % 64) % 64
/-- How many bits there are, in eight bytes, the highest first. -/
def bits8 (n : Nat) : List Int := [(n / 72057594037927936 % 256 : Nat), (n / 281474976710656 % 256 : Nat), (n / 1099511627776 % 256 : Nat), (n / 4294967296 % 256 : Nat), (n / 16777216 % 256 : Nat), (n / 65536 % 256 : Nat), (n / 256 % 256 : Nat), (n % 256 : Nat)]
def fill (b : List Int) : List Int := b ++ ([128] ++ List.replicate (pad b.length) 0 ++ bits8 (8 * b.length % 18446744073709551616))
def w4 (x : Nat) : List Int := [(x / 16777216 % 256 : Nat), (x / 65536 % 256 : Nat), (x / 256 % 256 : Nat), (x % 256 : Nat)]
def out (s : St) : List Int := w4 s.a ++ w4 s.b ++ w4 s.c ++ w4 s.d ++ w4 s.e ++ w4 s.f ++ w4 s.g ++ w4 s.h
/-- The digest. -/
def of (b : List Int) : List Int := out (hb H ((fill b).length / 64) (fill b))

/- THE SEARCH FOR THE CONSTANTS. -/
def div (n : Nat) (l : List Nat) : Bool := l.all fun q => n % q != 0
/-- The primes below n, the first 64 at most. -/
def pl (many : Nat) : Nat → List Nat
  | 0 => []
  | n + 1 => if 2 ≤ n ∧ (pl many n).length < many ∧ div n (pl many n) = true then pl many n ++ [n] else pl many n
def P64 : List Nat := [2, 3, 5, 7, 11, 13, 17, 19, 23, 29, 31, 37, 41, 43, 47, 53, 59, 61, 67, 71, 73, 79, 83, 89, 97, 101, 103, 107, 109, 113, 127, 131, 137, 139, 149, 151, 157, 163, 167, 173, 179, 181, 191, 193, 197, 199, 211, 223, 227, 229, 233, 239, 241, 251, 257, 263, 269, 271, 277, 281, 283, 293, 307, 311]
def sq (x p : Nat) : Bool := decide (x * x ≤ p * 18446744073709551616)
def cu (x p : Nat) : Bool := decide (x * x * x ≤ p * 79228162514264337593543950336)
/-- The root behind the bits from 35 down, i of them. -/
def rt (p : Nat) (third : Bool) : Nat → Nat
  | 0 => 0
  | i + 1 => if (if third then cu (rt p third i + 2 ^ (35 - i)) p else sq (rt p third i + 2 ^ (35 - i)) p) then rt p third i + 2 ^ (35 - i) else rt p third i
def root (p : Nat) (third : Bool) : Nat := rt p third 36 % 4294967296
theorem pl_400 : pl 64 400 = P64 := by decide +kernel
theorem K_root : P64.map (fun p => root p true) = K := by decide +kernel
theorem H_root : (P64.take 8).map (fun p => root p false) = [H.a, H.b, H.c, H.d, H.e, H.f, H.g, H.h] := by decide +kernel
theorem of_none : (of []).take 4 = [227, 176, 196, 66] := by decide +kernel
end Dg
end Go.Proofs.YtfggknplekiaoaaDoor
