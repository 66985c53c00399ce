/- Bytes filled up, and their sum: plain mathematics. -/
import Derived.Test.YtkeppcpplkdkaaaDoorSha
namespace Go.Proofs.YtkeppcpplkdkaaaDoor
open Go.RowKit

/-- the eight words at the start -/
def iv : S8 := ⟨1779033703, 3144134277, 1013904242, 2773480762, 1359893119, 2600822924, 528734635, 1541459225⟩
/-- the first blocks are taken in -/
def blks (s : S8) (b : Bs) : Nat → S8
  | 0 => s
  | n + 1 => tk (blks s b n) ((b.drop (64 * n)).take 64)

theorem blks_append (s : S8) (b c : Bs) : ∀ n, 64 * n ≤ b.length → blks s (b ++ c) n = blks s b n
  | 0, _ => rfl
  | n + 1, h => by
    rw [blks, blks, blks_append s b c n (by omega), List.drop_append_of_le_length (by omega), List.take_append_of_le_length (by simp; omega)]

theorem blks_add (s : S8) (b : Bs) (m : Nat) : ∀ n, blks s b (m + n) = blks (blks s b m) (b.drop (64 * m)) n
  | 0 => rfl
  | n + 1 => by
    rw [← Nat.add_assoc, blks, blks, blks_add s b m n, List.drop_drop, Nat.mul_add]

/-- the length at the end -/
def len8 (n : Nat) : Bs := [UInt8.ofNat (n / 2 ^ 56), UInt8.ofNat (n / 2 ^ 48), UInt8.ofNat (n / 2 ^ 40), UInt8.ofNat (n / 2 ^ 32), UInt8.ofNat (n / 2 ^ 24), UInt8.ofNat (n / 2 ^ 16), UInt8.ofNat (n / 2 ^ 8), UInt8.ofNat n]
/-- how many noughts -/
def gap (n : Nat) : Nat := (119 - n % 64) % 64
/-- what stands behind the bytes -/
def beh (n : Nat) : Bs := 128 :: (List.replicate (gap n) 0 ++ len8 (8 * n))
def fil (b : Bs) : Bs := b ++ beh b.length
/-- how many blocks at the end -/
def ends (n : Nat) : Nat := if n % 64 < 56 then 1 else 2
theorem beh_len (n : Nat) : (beh n).length = 64 * ends n - n % 64 := by
  have : n % 64 < 64 := Nat.mod_lt _ (by decide)
  simp [beh, len8, gap, ends]
  split <;> omega
theorem fil_len (b : Bs) : (fil b).length = 64 * (b.length / 64 + ends b.length) := by
  have : b.length % 64 < 64 := Nat.mod_lt _ (by decide)
  have h2 : 1 ≤ ends b.length := by unfold ends; split <;> omega
  rw [fil, List.length_append, beh_len]; omega
/-- the last blocks -/
def lastb (b : Bs) : Bs := b.drop (64 * (b.length / 64)) ++ beh b.length
theorem lastb_len (b : Bs) : (lastb b).length = 64 * ends b.length := by
  have : b.length % 64 < 64 := Nat.mod_lt _ (by decide)
  have h2 : 1 ≤ ends b.length := by unfold ends; split <;> omega
  rw [lastb, List.length_append, beh_len, List.length_drop]; omega
/-- what whole blocks leave -/
def mid (b : Bs) : S8 := blks iv b (b.length / 64)
/-- the words of the sum -/
def sumS (b : Bs) : S8 := blks iv (fil b) (b.length / 64 + ends b.length)
theorem sum_mid (b : Bs) : sumS b = blks (mid b) (lastb b) (ends b.length) := by
  rw [sumS, blks_add, fil, blks_append _ _ _ _ (by omega), List.drop_append_of_le_length (by omega)]; rfl

/-- what is taken in piece by piece -/
theorem mid_append (b c : Bs) (n : Nat) (h : n = (b.length % 64 + c.length) / 64) : mid (b ++ c) = blks (mid b) (b.drop (64 * (b.length / 64)) ++ c) n := by
  subst h
  have e : (b ++ c).length / 64 = b.length / 64 + (b.length % 64 + c.length) / 64 := by rw [List.length_append]; omega
  rw [mid, e, blks_add, blks_append _ _ _ _ (by omega), List.drop_append_of_le_length (by omega)]; rfl

/-- a word as bytes -/
def wb (x : Int) : List Int := [x / 16777216 % 256, x / 65536 % 256, x / 256 % 256, x % 256]
/-- the eight words as bytes -/
def outs (s : S8) : List Int := wb s.a ++ (wb s.b ++ (wb s.c ++ (wb s.d ++ (wb s.e ++ (wb s.f ++ (wb s.g ++ wb s.h))))))
theorem outs_len (s : S8) : (outs s).length = 32 := rfl
abbrev u8s (l : List Int) : List Value := l.map (Value.int .u8)
/-- the sum as a value -/
abbrev vsum (s : S8) : Value := .agg (u8s (outs s)).toArray
theorem outs_rng (s : S8) : ∀ x ∈ outs s, 0 ≤ x ∧ x < 256 := by
  intro x hx
  simp [outs, wb] at hx
  omega
/-- bytes as cells -/
abbrev bys (b : Bs) : List Value := b.map (fun c => Value.int .u8 (c.toNat : Int))
theorem bys_get {b : Bs} {i : Nat} (h : i < b.length) : (bys b)[i]? = some (.int .u8 (byt b i)) := by
  simp [bys, byt, List.getD, List.getElem?_eq_getElem h]
end Go.Proofs.YtkeppcpplkdkaaaDoor
