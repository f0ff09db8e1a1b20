/- SHA-256 on numbers, as the chapter describes it. -/
namespace Go.Proofs.YtiilkjonbfllfaaDoor
def rotr (x r : Nat) : Nat := x / 2 ^ r ||| x * 2 ^ (32 - r) % 4294967296
def s0 (x : Nat) : Nat := rotr x 7 ^^^ rotr x 18 ^^^ x / 8
def s1 (x : Nat) : Nat := rotr x 17 ^^^ rotr x 19 ^^^ x / 1024
def S0 (a : Nat) : Nat := rotr a 2 ^^^ rotr a 13 ^^^ rotr a 22
def S1 (e : Nat) : Nat := rotr e 6 ^^^ rotr e 11 ^^^ rotr e 25
def ch (e f g : Nat) : Nat := (e &&& f) ^^^ ((4294967295 ^^^ e) &&& g)
def maj (a b c : Nat) : Nat := (a &&& b) ^^^ (a &&& c) ^^^ (b &&& c)
structure St where
  a : Nat
  b : Nat
  c : Nat
  d : Nat
  e : Nat
  f : Nat
  g : Nat
  h : Nat
def rnd (s : St) (kw : Nat × Nat) : St :=
  ⟨((s.h + S1 s.e + ch s.e s.f s.g + kw.1 + kw.2) % 4294967296 + (S0 s.a + maj s.a s.b s.c) % 4294967296) % 4294967296, s.a, s.b, s.c, (s.d + (s.h + S1 s.e + ch s.e s.f s.g + kw.1 + kw.2) % 4294967296) % 4294967296, s.e, s.f, s.g⟩
def KL : List Nat := [0x428a2f98, 0x71374491, 0xb5c0fbcf, 0xe9b5dba5, 0x3956c25b, 0x59f111f1, 0x923f82a4, 0xab1c5ed5,
 0xd807aa98, 0x12835b01, 0x243185be, 0x550c7dc3, 0x72be5d74, 0x80deb1fe, 0x9bdc06a7, 0xc19bf174,
 0xe49b69c1, 0xefbe4786, 0x0fc19dc6, 0x240ca1cc, 0x2de92c6f, 0x4a7484aa, 0x5cb0a9dc, 0x76f988da,
 0x983e5152, 0xa831c66d, 0xb00327c8, 0xbf597fc7, 0xc6e00bf3, 0xd5a79147, 0x06ca6351, 0x14292967,
 0x27b70a85, 0x2e1b2138, 0x4d2c6dfc, 0x53380d13, 0x650a7354, 0x766a0abb, 0x81c2c92e, 0x92722c85,
 0xa2bfe8a1, 0xa81a664b, 0xc24b8b70, 0xc76c51a3, 0xd192e819, 0xd6990624, 0xf40e3585, 0x106aa070,
 0x19a4c116, 0x1e376c08, 0x2748774c, 0x34b0bcb5, 0x391c0cb3, 0x4ed8aa4a, 0x5b9cca4f, 0x682e6ff3,
 0x748f82ee, 0x78a5636f, 0x84c87814, 0x8cc70208, 0x90befffa, 0xa4506ceb, 0xbef9a3f7, 0xc67178f2]
def wnext (l : List Nat) (i : Nat) : Nat := (l.getD (i - 16) 0 + s0 (l.getD (i - 15) 0) + l.getD (i - 7) 0 + s1 (l.getD (i - 2) 0)) % 4294967296
def wext : Nat → List Nat → List Nat
  | 0, l => l
  | n + 1, l => wext n l ++ [wnext (wext n l) (16 + n)]
def add8 (s t : St) : St := ⟨(s.a + t.a) % 4294967296, (s.b + t.b) % 4294967296, (s.c + t.c) % 4294967296, (s.d + t.d) % 4294967296, (s.e + t.e) % 4294967296, (s.f + t.f) % 4294967296, (s.g + t.g) % 4294967296, (s.h + t.h) % 4294967296⟩
def St.l (s : St) : List Nat := [s.a, s.b, s.c, s.d, s.e, s.f, s.g, s.h]
def beW (b : List Nat) (i : Nat) : Nat := b.getD (4 * i) 0 * 16777216 + b.getD (4 * i + 1) 0 * 65536 + b.getD (4 * i + 2) 0 * 256 + b.getD (4 * i + 3) 0
def words16 (b : List Nat) : List Nat := (List.range 16).map (beW b)
def rounds (s : St) (ws : List Nat) : St := (KL.zip ws).foldl rnd s
def block (s : St) (b : List Nat) : St := add8 s (rounds s (wext 48 (words16 b)))
def pad (n : Nat) : List Nat := 128 :: List.replicate ((119 - n % 64) % 64) 0 ++ (List.range 8).map fun i => 8 * n / 2 ^ (8 * (7 - i)) % 256
def chunks : Nat → List Nat → List (List Nat)
  | 0, _ => []
  | n + 1, l => l.take 64 :: chunks n (l.drop 64)
def init : St := ⟨0x6a09e667, 0xbb67ae85, 0x3c6ef372, 0xa54ff53a, 0x510e527f, 0x9b05688c, 0x1f83d9ab, 0x5be0cd19⟩
def ext (b : List Nat) : List Nat := b ++ pad b.length
def digB (s : St) (i : Nat) : Nat := s.l.getD (i / 4) 0 / 2 ^ (8 * (3 - i % 4)) % 256
def digL (s : St) : List Nat := (List.range 32).map (digB s)
def shaSt (b : List Nat) : St := (chunks ((ext b).length / 64) (ext b)).foldl block init
def sha (b : List Nat) : List Nat := digL (shaSt b)
end Go.Proofs.YtiilkjonbfllfaaDoor
