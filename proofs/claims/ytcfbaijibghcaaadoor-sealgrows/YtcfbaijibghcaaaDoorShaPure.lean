import Derived.Test.YtcfbaijibghcaaaDoorMem
/- SHA-256 as plain functions of integers, in the forms in which the walks give them. -/
namespace Go.Proofs.YtcfbaijibghcaaaDoor
open Go.RowKit

/-- A word turned to the right, as the walk of bits.RotateLeft32 gives it. -/
def rotI (x : Int) (n : Nat) : Int := bits .or .u32 (x * 2 ^ (32 - n) % 4294967296) (x / 2 ^ n)

/-- the word k of a block, of its bytes. -/
def wFirst (f : Nat → Int) (k : Nat) : Int :=
  bits .or .u32 (bits .or .u32 (bits .or .u32 (f (4 * k) % 4294967296 * 16777216 % 4294967296) (f (4 * k + 1) % 4294967296 * 65536 % 4294967296)) (f (4 * k + 2) % 4294967296 * 256 % 4294967296)) (f (4 * k + 3) % 4294967296)
/-- the word behind those that are there. -/
def wNext (l : List Int) (k : Nat) : Int :=
  let p := l.getD (k - 15) 0
  let q := l.getD (k - 2) 0
  let s := bits .xor .u32 (bits .xor .u32 (rotI p 7) (rotI p 18)) (p / 8)
  let t := bits .xor .u32 (bits .xor .u32 (rotI q 17) (rotI q 19)) (q / 1024)
  (((l.getD (k - 16) 0 + s) % 4294967296 + l.getD (k - 7) 0) % 4294967296 + t) % 4294967296
/-- the first k words of a block's 64. -/
def wTo (f : Nat → Int) : Nat → List Int
  | 0 => []
  | k + 1 => wTo f k ++ [if k < 16 then wFirst f k else wNext (wTo f k) k]
theorem wTo_length (f : Nat → Int) (k : Nat) : (wTo f k).length = k := by
  induction k with
  | zero => rfl
  | succ k ih => simp [wTo, ih]
/-- the word j of those k; nought beyond them. -/
def wAt (f : Nat → Int) (k j : Nat) : Int := (wTo f k).getD j 0
theorem wAt_zero (f : Nat → Int) (j : Nat) : wAt f 0 j = 0 := rfl
theorem wAt_succ (f : Nat → Int) (k j : Nat) : wAt f (k + 1) j = if j = k then (if k < 16 then wFirst f k else wNext (wTo f k) k) else wAt f k j := by
  have hl := wTo_length f k
  rw [wAt, wAt, wTo, List.getD_eq_getElem?_getD, List.getD_eq_getElem?_getD, List.getElem?_append, hl]
  by_cases h1 : j < k
  · rw [if_pos h1, if_neg (by omega)]
  · rw [if_neg h1]
    by_cases h2 : j = k
    · subst h2; simp
    · rw [if_neg h2, List.getElem?_eq_none (by simp; omega), List.getElem?_eq_none (by omega)]
theorem wNext_at (f : Nat → Int) (k : Nat) : wNext (wTo f k) k = (((wAt f k (k - 16) + bits .xor .u32 (bits .xor .u32 (rotI (wAt f k (k - 15)) 7) (rotI (wAt f k (k - 15)) 18)) (wAt f k (k - 15) / 8)) % 4294967296 + wAt f k (k - 7)) % 4294967296 + bits .xor .u32 (bits .xor .u32 (rotI (wAt f k (k - 2)) 17) (rotI (wAt f k (k - 2)) 19)) (wAt f k (k - 2) / 1024)) % 4294967296 := rfl

/-- the eight words a to h. -/
structure S8 where
  a : Int
  b : Int
  c : Int
  d : Int
  e : Int
  f : Int
  g : Int
  h : Int
/-- the rounds' constants. -/
def kList : List Int := [1116352408, 1899447441, 3049323471, 3921009573, 961987163, 1508970993, 2453635748, 2870763221, 3624381080, 310598401, 607225278, 1426881987, 1925078388, 2162078206, 2614888103, 3248222580, 3835390401, 4022224774, 264347078, 604807628, 770255983, 1249150122, 1555081692, 1996064986, 2554220882, 2821834349, 2952996808, 3210313671, 3336571891, 3584528711, 113926993, 338241895, 666307205, 773529912, 1294757372, 1396182291, 1695183700, 1986661051, 2177026350, 2456956037, 2730485921, 2820302411, 3259730800, 3345764771, 3516065817, 3600352804, 4094571909, 275423344, 430227734, 506948616, 659060556, 883997877, 958139571, 1322822218, 1537002063, 1747873779, 1955562222, 2024104815, 2227730452, 2361852424, 2428436474, 2756734187, 3204031479, 3329325298]
def kAt (i : Nat) : Int := kList.getD i 0
def notI (x : Int) : Int := bits .xor .u32 (if IntKind.u32.signed = true then -1 else IntKind.u32.max) x
def rndT (s : S8) (k w : Int) : Int :=
  (s.h + bits .xor .u32 (bits .xor .u32 (rotI s.e 6) (rotI s.e 11)) (rotI s.e 25) + bits .xor .u32 (bits .and .u32 s.e s.f) (bits .and .u32 (notI s.e) s.g) + k + w) % 4294967296
def rndU (s : S8) : Int :=
  (bits .xor .u32 (bits .xor .u32 (rotI s.a 2) (rotI s.a 13)) (rotI s.a 22) + bits .xor .u32 (bits .xor .u32 (bits .and .u32 s.a s.b) (bits .and .u32 s.a s.c)) (bits .and .u32 s.b s.c)) % 4294967296
def rnd (s : S8) (k w : Int) : S8 := ⟨(rndT s k w + rndU s) % 4294967296, s.a, s.b, s.c, (s.d + rndT s k w) % 4294967296, s.e, s.f, s.g⟩
/-- behind k rounds over a block's words. -/
def rndTo (w : Nat → Int) (s : S8) : Nat → S8
  | 0 => s
  | k + 1 => rnd (rndTo w s k) (kAt k) (w k)
/-- eight words as a function of the place. -/
def S8.at (s : S8) : Nat → Int
  | 0 => s.a
  | 1 => s.b
  | 2 => s.c
  | 3 => s.d
  | 4 => s.e
  | 5 => s.f
  | 6 => s.g
  | _ => s.h
theorem S8.get (s : S8) (k : Nat) (h : k < 8) : (#[Value.int .u32 s.a, .int .u32 s.b, .int .u32 s.c, .int .u32 s.d, .int .u32 s.e, .int .u32 s.f, .int .u32 s.g, .int .u32 s.h] : Array Value)[k]? = some (.int .u32 (s.at k)) := by
  match k, h with
  | 0, _ => rfl
  | 1, _ => rfl
  | 2, _ => rfl
  | 3, _ => rfl
  | 4, _ => rfl
  | 5, _ => rfl
  | 6, _ => rfl
  | 7, _ => rfl
/-- the first eight words. -/
def firstI : S8 := ⟨1779033703, 3144134277, 1013904242, 2773480762, 1359893119, 2600822924, 528734635, 1541459225⟩
/-- the byte i of a sum. -/
def sumByte (v : Nat → Int) (i : Nat) : Int := v (i / 4) / 2 ^ (24 - 8 * (i % 4)) % 256
/-- eight words behind one more block. -/
def takeI (v : Nat → Int) (f : Nat → Int) (i : Nat) : Int := (v i + (rndTo (wAt f 64) ⟨v 0, v 1, v 2, v 3, v 4, v 5, v 6, v 7⟩ 64).at i) % 4294967296
end Go.Proofs.YtcfbaijibghcaaaDoor
