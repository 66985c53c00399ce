/- The document's sum of bytes, as a function. -/
import Derived.Test.YtkeppcpplkdkaaaDoorTurn
namespace Go.Proofs.YtkeppcpplkdkaaaDoor
open Go.RowKit

abbrev Bs := List UInt8

/-- the 64 constants -/
def kc : List Int := [1116352408, 1899447441, 3049323471, 3921009573, 961987163, 1508970993, 2453635748, 2870763221,
  3624381080, 310598401, 607225278, 1426881987, 1925078388, 2162078206, 2614888103, 3248222580,
  3835390401, 4022224774, 264347078, 604807628, 770255983, 1249150122, 1555081692, 1996064986,
  2554220882, 2821834349, 2952996808, 3210313671, 3336571891, 3584528711, 113926993, 338241895,
  666307205, 773529912, 1294757372, 1396182291, 1695183700, 1986661051, 2177026350, 2456956037,
  2730485921, 2820302411, 3259730800, 3345764771, 3516065817, 3600352804, 4094571909, 275423344,
  430227734, 506948616, 659060556, 883997877, 958139571, 1322822218, 1537002063, 1747873779,
  1955562222, 2024104815, 2227730452, 2361852424, 2428436474, 2756734187, 3204031479, 3329325298]

/-- a byte of a block -/
def byt (b : Bs) (i : Nat) : Int := ((b.getD i 0).toNat : Int)

def s0 (x : Int) : Int := bits .xor .u32 (bits .xor .u32 (tn x 7) (tn x 18)) (x / 8)
def s1 (x : Int) : Int := bits .xor .u32 (bits .xor .u32 (tn x 17) (tn x 19)) (x / 1024)

/-- the next word -/
def nx (l : List Int) (t : Nat) : Int := (((l.getD (t - 16) 0 + s0 (l.getD (t - 15) 0)) % 4294967296 + l.getD (t - 7) 0) % 4294967296 + s1 (l.getD (t - 2) 0)) % 4294967296

/-- a word of four bytes -/
def wd (b0 b1 b2 b3 : Int) : Int := bits .or .u32 (bits .or .u32 (bits .or .u32 (b0 % 4294967296 * 16777216 % 4294967296) (b1 % 4294967296 * 65536 % 4294967296)) (b2 % 4294967296 * 256 % 4294967296)) (IntKind.u32.wrap b3)

/-- the first words of a block -/
def ws (b : Bs) : Nat → List Int
  | 0 => []
  | n + 1 => ws b n ++ [if n < 16 then wd (byt b (4 * n)) (byt b (4 * n + 1)) (byt b (4 * n + 2)) (byt b (4 * n + 3)) else nx (ws b n) n]

theorem ws_len (b : Bs) : ∀ n, (ws b n).length = n
  | 0 => rfl
  | n + 1 => by rw [ws, List.length_append, ws_len b n]; rfl

/-- eight words -/
structure S8 where
  a : Int
  b : Int
  c : Int
  d : Int
  e : Int
  f : Int
  g : Int
  h : Int

def xr (k w e f g h : Int) : Int := (h + bits .xor .u32 (bits .xor .u32 (tn e 6) (tn e 11)) (tn e 25) + bits .xor .u32 (bits .and .u32 e f) (bits .and .u32 (bits .xor .u32 IntKind.u32.max e) g) + k + w) % 4294967296
def yr (a b c : Int) : Int := (bits .xor .u32 (bits .xor .u32 (tn a 2) (tn a 13)) (tn a 22) + bits .xor .u32 (bits .xor .u32 (bits .and .u32 a b) (bits .and .u32 a c)) (bits .and .u32 b c)) % 4294967296
/-- one round -/
def rnd (k w : Int) (s : S8) : S8 := ⟨(xr k w s.e s.f s.g s.h + yr s.a s.b s.c) % 4294967296, s.a, s.b, s.c, (s.d + xr k w s.e s.f s.g s.h) % 4294967296, s.e, s.f, s.g⟩
/-- the first rounds -/
def rds (W : List Int) (s : S8) : Nat → S8
  | 0 => s
  | n + 1 => rnd (kc.getD n 0) (W.getD n 0) (rds W s n)
/-- word by word -/
def addS (s r : S8) : S8 := ⟨(s.a + r.a) % 4294967296, (s.b + r.b) % 4294967296, (s.c + r.c) % 4294967296, (s.d + r.d) % 4294967296, (s.e + r.e) % 4294967296, (s.f + r.f) % 4294967296, (s.g + r.g) % 4294967296, (s.h + r.h) % 4294967296⟩
/-- a block is taken in -/
def tk (s : S8) (b : Bs) : S8 := addS s (rds (ws b 64) s 64)

/-- eight words lie there -/
structure Eight (w : World) (lb : Nat) (s : S8) : Prop where
  lt : lb < w.heap.size
  c0 : w.cell? ⟨lb, 0, none⟩ = some (.int .u32 s.a)
  c1 : w.cell? ⟨lb, 1, none⟩ = some (.int .u32 s.b)
  c2 : w.cell? ⟨lb, 2, none⟩ = some (.int .u32 s.c)
  c3 : w.cell? ⟨lb, 3, none⟩ = some (.int .u32 s.d)
  c4 : w.cell? ⟨lb, 4, none⟩ = some (.int .u32 s.e)
  c5 : w.cell? ⟨lb, 5, none⟩ = some (.int .u32 s.f)
  c6 : w.cell? ⟨lb, 6, none⟩ = some (.int .u32 s.g)
  c7 : w.cell? ⟨lb, 7, none⟩ = some (.int .u32 s.h)
theorem Eight.below {w w' : World} {lb : Nat} {s : S8} (h : Eight w lb s) (hb : Below w.heap.size w w') : Eight w' lb s :=
  ⟨Nat.lt_of_lt_of_le h.lt hb.size, (hb.cell (p := ⟨lb, 0, none⟩) h.lt).trans h.c0, (hb.cell (p := ⟨lb, 1, none⟩) h.lt).trans h.c1, (hb.cell (p := ⟨lb, 2, none⟩) h.lt).trans h.c2, (hb.cell (p := ⟨lb, 3, none⟩) h.lt).trans h.c3,
    (hb.cell (p := ⟨lb, 4, none⟩) h.lt).trans h.c4, (hb.cell (p := ⟨lb, 5, none⟩) h.lt).trans h.c5, (hb.cell (p := ⟨lb, 6, none⟩) h.lt).trans h.c6, (hb.cell (p := ⟨lb, 7, none⟩) h.lt).trans h.c7⟩

abbrev u32s (l : List Int) : List Value := l.map (Value.int .u32)
end Go.Proofs.YtkeppcpplkdkaaaDoor
