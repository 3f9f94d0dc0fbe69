/- SHA-256 as plain functions: words, rounds, blocks; no walk. -/
import Derived.Test.YtdgfbbaddoghaaaDoorSxU
namespace Go.Proofs.YtdgfbbaddoghaaaDoor.Sha

def w16 (f : Nat → UInt8) (i : Nat) : UInt32 :=
  ((f (4 * i)).toUInt32 <<< 24) ||| ((f (4 * i + 1)).toUInt32 <<< 16) ||| ((f (4 * i + 2)).toUInt32 <<< 8) ||| (f (4 * i + 3)).toUInt32
def sg0 (x : UInt32) : UInt32 := rotr x 7 ^^^ rotr x 18 ^^^ (x >>> 3)
def sg1 (x : UInt32) : UInt32 := rotr x 17 ^^^ rotr x 19 ^^^ (x >>> 10)
def ext (l : List UInt32) (t : Nat) : UInt32 := l.getD (t - 16) 0 + sg0 (l.getD (t - 15) 0) + l.getD (t - 7) 0 + sg1 (l.getD (t - 2) 0)
/-- The first 16 + n words. -/
def sch (f : Nat → UInt8) : Nat → List UInt32
  | 0 => (List.range 16).map (w16 f)
  | n + 1 => sch f n ++ [ext (sch f n) (16 + n)]
def wd (f : Nat → UInt8) (t : Nat) : UInt32 := (sch f 48).getD t 0

theorem sch_length (f : Nat → UInt8) (n : Nat) : (sch f n).length = 16 + n := by
  induction n with
  | zero => simp [sch]
  | succ n ih => simp [sch, ih]; omega
theorem sch_more (f : Nat → UInt8) (n m t : Nat) (h : t < 16 + n) : (sch f (n + m)).getD t 0 = (sch f n).getD t 0 := by
  induction m with
  | zero => rfl
  | succ m ih =>
    rw [← Nat.add_assoc, sch, List.getD_eq_getElem?_getD, List.getElem?_append_left (by rw [sch_length]; omega), ← List.getD_eq_getElem?_getD, ih]
theorem wd_of (f : Nat → UInt8) (n t : Nat) (hn : n ≤ 48) (h : t < 16 + n) : (sch f n).getD t 0 = wd f t := by
  unfold wd
  have := sch_more f n (48 - n) t h
  rw [← this]
  congr 2
  omega
theorem wd_16 (f : Nat → UInt8) (t : Nat) (h : t < 16) : wd f t = w16 f t := by
  rw [← wd_of f 0 t (by omega) (by omega)]
  simp [sch, List.getD, h]
theorem wd_rec (f : Nat → UInt8) (t : Nat) (h : 16 ≤ t) (h2 : t < 64) : wd f t = wd f (t - 16) + sg0 (wd f (t - 15)) + wd f (t - 7) + sg1 (wd f (t - 2)) := by
  obtain ⟨n, rfl⟩ : ∃ n, t = 16 + n := ⟨t - 16, by omega⟩
  rw [← wd_of f (n + 1) (16 + n) (by omega) (by omega), sch]
  have : (sch f n ++ [ext (sch f n) (16 + n)]).getD (16 + n) 0 = ext (sch f n) (16 + n) := by
    rw [List.getD_eq_getElem?_getD, List.getElem?_append_right (by rw [sch_length]; omega), sch_length]
    simp
  rw [this]
  unfold ext
  rw [wd_of f n _ (by omega) (by omega), wd_of f n _ (by omega) (by omega), wd_of f n _ (by omega) (by omega), wd_of f n _ (by omega) (by omega)]

structure St where
  a : UInt32
  b : UInt32
  c : UInt32
  d : UInt32
  e : UInt32
  f : UInt32
  g : UInt32
  h : UInt32

def kt : List UInt32 := [1116352408, 1899447441, 3049323471, 3921009573, 961987163, 1508970993, 2453635748, 2870763221, 3624381080, 310598401, 607225278, 1426881987, 1925078388, 2162078206, 2614888103, 3248222580, 3835390401, 4022224774, 264347078, 604807628, 770255983, 1249150122, 1555081692, 1996064986, 2554220882, 2821834349, 2952996808, 3210313671, 3336571891, 3584528711, 113926993, 338241895, 666307205, 773529912, 1294757372, 1396182291, 1695183700, 1986661051, 2177026350, 2456956037, 2730485921, 2820302411, 3259730800, 3345764771, 3516065817, 3600352804, 4094571909, 275423344, 430227734, 506948616, 659060556, 883997877, 958139571, 1322822218, 1537002063, 1747873779, 1955562222, 2024104815, 2227730452, 2361852424, 2428436474, 2756734187, 3204031479, 3329325298]
def kk (t : Nat) : UInt32 := kt.getD t 0
def xx (k w : UInt32) (s : St) : UInt32 := s.h + (rotr s.e 6 ^^^ rotr s.e 11 ^^^ rotr s.e 25) + ((s.e &&& s.f) ^^^ (~~~s.e &&& s.g)) + k + w
def yy (s : St) : UInt32 := (rotr s.a 2 ^^^ rotr s.a 13 ^^^ rotr s.a 22) + ((s.a &&& s.b) ^^^ (s.a &&& s.c) ^^^ (s.b &&& s.c))
def rnd (k w : UInt32) (s : St) : St := ⟨xx k w s + yy s, s.a, s.b, s.c, s.d + xx k w s, s.e, s.f, s.g⟩
def rnds (f : Nat → UInt8) : Nat → St → St
  | 0, s => s
  | n + 1, s => rnd (kk n) (wd f n) (rnds f n s)
def St.add (s t : St) : St := ⟨s.a + t.a, s.b + t.b, s.c + t.c, s.d + t.d, s.e + t.e, s.f + t.f, s.g + t.g, s.h + t.h⟩
def tk (s : St) (f : Nat → UInt8) : St := s.add (rnds f 64 s)
/-- n blocks, one behind the other. -/
def blk (g : Nat → UInt8) : Nat → St → St
  | 0, s => s
  | n + 1, s => tk (blk g n s) (fun i => g (64 * n + i))
def st0 : St := ⟨1779033703, 3144134277, 1013904242, 2773480762, 1359893119, 2600822924, 528734635, 1541459225⟩
def be32 (x : UInt32) : List UInt8 := [(x >>> 24).toUInt8, (x >>> 16).toUInt8, (x >>> 8).toUInt8, x.toUInt8]
def St.list (s : St) : List UInt32 := [s.a, s.b, s.c, s.d, s.e, s.f, s.g, s.h]
def St.bytes (s : St) : List UInt8 := s.list.flatMap be32
def be64 (n : Nat) : List UInt8 := [UInt8.ofNat (n / 2 ^ 56), UInt8.ofNat (n / 2 ^ 48), UInt8.ofNat (n / 2 ^ 40), UInt8.ofNat (n / 2 ^ 32), UInt8.ofNat (n / 2 ^ 24), UInt8.ofNat (n / 2 ^ 16), UInt8.ofNat (n / 2 ^ 8), UInt8.ofNat n]
/-- How many noughts. -/
def nz (n : Nat) : Nat := (119 - n % 64) % 64
def padded (l : List UInt8) : List UInt8 := l ++ [128] ++ List.replicate (nz l.length) 0 ++ be64 (l.length * 8)
def fn (l : List UInt8) (i : Nat) : UInt8 := l.getD i 0
def sum (l : List UInt8) : List UInt8 := (blk (fn (padded l)) ((padded l).length / 64) st0).bytes
def sumK : List UInt8 := sum [97, 98, 99]
theorem byte_U (c : UInt8) : (c.toNat : Int) % 4294967296 = U c.toUInt32 := by
  unfold U
  rw [UInt8.toNat_toUInt32]
  have := c.toNat_lt
  omega
theorem shl_U (x : UInt32) (n : Nat) (hn : n < 32) : U x * 2 ^ n % 4294967296 = U (x <<< UInt32.ofNat n) := by
  rw [U_mul]
  unfold U
  rw [UInt32.toNat_shiftLeft]
  have e1 : (UInt32.ofNat n).toNat % 32 = n := by rw [UInt32.toNat_ofNat']; omega
  rw [e1, Nat.shiftLeft_eq]
theorem shr_U (x : UInt32) (n : Nat) (hn : n < 32) : U x / 2 ^ n = U (x >>> UInt32.ofNat n) := by
  rw [U_div]
  unfold U
  rw [UInt32.toNat_shiftRight]
  have e1 : (UInt32.ofNat n).toNat % 32 = n := by rw [UInt32.toNat_ofNat']; omega
  rw [e1, Nat.shiftRight_eq_div_pow]
theorem shl24 (x : UInt32) : U x * (16777216 : Int) % (4294967296 : Int) = U (x <<< 24) := shl_U x 24 (by omega)
theorem shl16 (x : UInt32) : U x * (65536 : Int) % (4294967296 : Int) = U (x <<< 16) := shl_U x 16 (by omega)
theorem shl8 (x : UInt32) : U x * (256 : Int) % (4294967296 : Int) = U (x <<< 8) := shl_U x 8 (by omega)
theorem shr3 (x : UInt32) : U x / (8 : Int) = U (x >>> 3) := shr_U x 3 (by omega)
theorem shr10 (x : UInt32) : U x / (1024 : Int) = U (x >>> 10) := shr_U x 10 (by omega)
theorem shr24 (x : UInt32) : U x / (16777216 : Int) = U (x >>> 24) := shr_U x 24 (by omega)
theorem shr16 (x : UInt32) : U x / (65536 : Int) = U (x >>> 16) := shr_U x 16 (by omega)
theorem shr8 (x : UInt32) : U x / (256 : Int) = U (x >>> 8) := shr_U x 8 (by omega)
theorem w16_walk (f : Nat → UInt8) (k : Nat) : bits BinOp.or IntKind.u32 (bits BinOp.or IntKind.u32 (bits BinOp.or IntKind.u32 (((f (4 * k)).toNat : Int) % 4294967296 * 16777216 % 4294967296)
    (((f (4 * k + 1)).toNat : Int) % 4294967296 * 65536 % 4294967296)) (((f (4 * k + 2)).toNat : Int) % 4294967296 * 256 % 4294967296)) (((f (4 * k + 3)).toNat : Int) % 4294967296) = U (w16 f k) := by
  rw [byte_U, byte_U, byte_U, byte_U, shl24, shl16, shl8, U_or, U_or, U_or]
  rfl
theorem byte_W (c : UInt8) : IntKind.u32.wrap (c.toNat : Int) = U c.toUInt32 := by rw [IntKind.wrap_u32', byte_U]
theorem shl24W (x : UInt32) : IntKind.u32.wrap (U x * (16777216 : Int)) = U (x <<< 24) := by rw [IntKind.wrap_u32', shl24]
theorem shl16W (x : UInt32) : IntKind.u32.wrap (U x * (65536 : Int)) = U (x <<< 16) := by rw [IntKind.wrap_u32', shl16]
theorem shl8W (x : UInt32) : IntKind.u32.wrap (U x * (256 : Int)) = U (x <<< 8) := by rw [IntKind.wrap_u32', shl8]
theorem U_add' (x y : UInt32) : (U x + U y) % (4294967296 : Int) = U (x + y) := by rw [← IntKind.wrap_u32', U_add]
theorem U_not (x : UInt32) : bits .xor .u32 (if IntKind.u32.signed = true then -1 else IntKind.u32.max) (U x) = U (~~~x) := by
  have e : (if IntKind.u32.signed = true then -1 else IntKind.u32.max) = U 4294967295 := rfl
  rw [e, U_xor]
  have h : (4294967295 : UInt32) ^^^ x = ~~~x := by
    apply UInt32.toBitVec_inj.1
    simp
    exact BitVec.allOnes_xor
  rw [h]
end Go.Proofs.YtdgfbbaddoghaaaDoor.Sha
