/- Words of 32 bits as the walk spells them: each operation on uint32 folded into the logic's own; no walk. -/
/- The walks of turn, RotateLeft32 and the document's turned. -/
/- SHA-256 as plain functions: words, rounds, blocks; no walk. -/
/- The walk of sha.words. -/
/- The walk of sha.take. -/
/- The walk of sha.takeAll. -/
/- Byte slices that a call owns, as texts; bytes of words; no walk. -/
/- A slice of bytes that is read: nil, empty or with bytes; a law of append from such a slice; no walk. -/
import Derived.WalkKit
import Derived.WalkSpells
import Derived.WalkLawsBesides
import Derived.Laws.BitsAllLaws
import Derived.Test.YtogphpejdnhnjaaGreatDoorRows
import Derived.Deep.QuietTactic
import Derived.BigQuiet
import Derived.BigRegion
import Derived.Deep.OwnRows
import Derived.Deep.RegionHeld3
import Derived.Deep.MidRow
import Derived.Laws.CopyOwn
import Derived.Deep.WholeRow
import Derived.Deep.DrawnRows
import Derived.Laws.BytesArg
import Derived.Deep.AppendLies
import Derived.Laws.AppendOwnNone
namespace Go.Proofs.YtogphpejdnhnjaaGreatDoor.Sha
open Go.RowKit

def U (x : UInt32) : Int := (x.toNat : Int)
theorem U_lo (x : UInt32) : 0 ≤ U x := Int.natCast_nonneg _
theorem U_hi (x : UInt32) : U x < 4294967296 := by have := x.toNat_lt; unfold U; omega
theorem U_add (x y : UInt32) : IntKind.u32.wrap (U x + U y) = U (x + y) := by
  rw [IntKind.wrap_u32']
  unfold U
  rw [UInt32.toNat_add]
  omega
theorem U_xor (x y : UInt32) : bits .xor .u32 (U x) (U y) = U (x ^^^ y) := by
  unfold U
  rw [u32_xor_nat _ _ x.toNat_lt y.toNat_lt, UInt32.toNat_xor]
theorem U_and (x y : UInt32) : bits .and .u32 (U x) (U y) = U (x &&& y) := by
  unfold U
  rw [u32_and_nat _ _ x.toNat_lt y.toNat_lt, UInt32.toNat_and]
theorem U_or (x y : UInt32) : bits .or .u32 (U x) (U y) = U (x ||| y) := by
  unfold U
  rw [u32_or_nat _ _ x.toNat_lt y.toNat_lt, UInt32.toNat_or]
def rotr (x : UInt32) (n : Nat) : UInt32 := (x >>> UInt32.ofNat n) ||| (x <<< UInt32.ofNat (32 - n))
theorem rotr_toNat (x : UInt32) (n : Nat) (h1 : 0 < n) (h2 : n < 32) : (rotr x n).toNat = (x.toNat / 2 ^ n) ||| (x.toNat * 2 ^ (32 - n) % 4294967296) := by
  unfold rotr
  rw [UInt32.toNat_or, UInt32.toNat_shiftRight, UInt32.toNat_shiftLeft]
  have e1 : (UInt32.ofNat n).toNat % 32 = n := by rw [UInt32.toNat_ofNat']; omega
  have e2 : (UInt32.ofNat (32 - n)).toNat % 32 = 32 - n := by rw [UInt32.toNat_ofNat']; omega
  rw [e1, e2, Nat.shiftRight_eq_div_pow, Nat.shiftLeft_eq]
theorem U_div (x : UInt32) (n : Nat) : U x / 2 ^ n = ((x.toNat / 2 ^ n : Nat) : Int) := by unfold U; rw [Int.natCast_ediv, Int.natCast_pow]; rfl
theorem cast_mulmod (a p m : Nat) : ((a * p % m : Nat) : Int) = (a : Int) * (p : Int) % (m : Int) := by rw [Int.natCast_emod, Int.natCast_mul]
theorem U_mul (x : UInt32) (n : Nat) : U x * 2 ^ n % 4294967296 = ((x.toNat * 2 ^ n % 4294967296 : Nat) : Int) := by
  rw [cast_mulmod, Int.natCast_pow]; rfl
theorem rotr_walk (x : UInt32) (n : Nat) (h1 : 0 < n) (h2 : n < 32) : bits .or .u32 (U x / 2 ^ n) (U x * 2 ^ (32 - n) % 4294967296) = U (rotr x n) := by
  rw [U_div, U_mul, u32_or_nat _ _ (Nat.lt_of_le_of_lt (Nat.div_le_self _ _) x.toNat_lt) (Nat.mod_lt _ (by omega)), ← rotr_toNat x n h1 h2]
  rfl
theorem rotr_walk' (x : UInt32) (n : Nat) (h1 : 0 < n) (h2 : n < 32) : bits .or .u32 (U x * 2 ^ (32 - n) % 4294967296) (U x / 2 ^ n) = U (rotr x n) := by
  rw [U_div, U_mul, u32_or_nat _ _ (Nat.mod_lt _ (by omega)) (Nat.lt_of_le_of_lt (Nat.div_le_self _ _) x.toNat_lt), Nat.or_comm, ← rotr_toNat x n h1 h2]
  rfl
theorem minus_and (n : Nat) (h1 : 0 < n) (h2 : n < 32) : bits .and .u64 (IntKind.u64.wrap (-(n : Int))) 31 = 32 - (n : Int) := by
  have e : IntKind.u64.wrap (-(n : Int)) = ((18446744073709551616 - n : Nat) : Int) := by rw [IntKind.wrap_u64]; omega
  have h := u64_and_nat (18446744073709551616 - n) 31 (by omega) (by omega)
  rw [nat_mask5] at h
  rw [e]
  refine Eq.trans h ?_
  omega
def rotI (x : UInt32) (n : Int) : UInt32 := rotr x n.toNat
theorem wrap_small (x : Int) (h1 : -4611686018427387904 ≤ x) (h2 : x ≤ 4611686018427387904) : IntKind.i64.wrap x = x := by
  rw [IntKind.wrap_i64]
  omega
end Go.Proofs.YtogphpejdnhnjaaGreatDoor.Sha
namespace Go.Proofs.YtogphpejdnhnjaaGreatDoor.Sha
open Go.RowKit

set_option maxHeartbeats 400000 in
theorem rl32 (x : UInt32) (n : Nat) (h1 : 0 < n) (h2 : n < 32) (w : World) :
    Calls Tryz.prog 257 #[.int .u32 (U x), .int .i64 (-(n : Int))] w fun e w' => e = .returned (.int .u32 (U (rotr x n))) ∧ w' = w := by
  have hm := minus_and n h1 h2
  go_enter Tryz.func257, Tryz.ntmps257
  go_wp2
  rw [show 32 - (32 - n) = n from by omega, rotr_walk' x n h1 h2]
  go_ret
  exact ⟨rfl, rfl⟩
set_option maxHeartbeats 400000 in
theorem turn (x : UInt32) (n : Nat) (h1 : 0 < n) (h2 : n < 32) (w : World) :
    Calls Tryz.prog 189 #[.int .u32 (U x), .int .i64 (n : Int)] w fun e w' => e = .returned (.int .u32 (U (rotr x n))) ∧ w' = w := by
  go_enter Tryz.func189, Tryz.ntmps189
  go_wp2_with fail
  refine (rl32 x n h1 h2 _).mono ?_
  rintro e w1 ⟨rfl, rfl⟩
  go_wp2
  go_ret
  exact ⟨rfl, rfl⟩
theorem turnI (x : UInt32) (n : Int) (h1 : 0 < n) (h2 : n < 32) (w : World) :
    Calls Tryz.prog 189 #[.int .u32 (U x), .int .i64 n] w fun e w' => e = .returned (.int .u32 (U (rotI x n))) ∧ w' = w := by
  obtain ⟨m, rfl⟩ : ∃ m : Nat, n = (m : Int) := ⟨n.toNat, by omega⟩
  unfold rotI
  rw [Int.toNat_natCast]
  exact turn x m (by omega) (by omega) w
end Go.Proofs.YtogphpejdnhnjaaGreatDoor.Sha
namespace Go.Proofs.YtogphpejdnhnjaaGreatDoor.Sha

def w16 (f : Nat → UInt8) (i : Nat) : UInt32 :=
  ((f (4 * i)).toUInt32 <<< 24) ||| ((f (4 * i + 1)).toUInt32 <<< 16) ||| ((f (4 * i + 2)).toUInt32 <<< 8) ||| (f (4 * i + 3)).toUInt32
def sg0 (x : UInt32) : UInt32 := rotr x 7 ^^^ rotr x 18 ^^^ (x >>> 3)
def sg1 (x : UInt32) : UInt32 := rotr x 17 ^^^ rotr x 19 ^^^ (x >>> 10)
def ext (l : List UInt32) (t : Nat) : UInt32 := l.getD (t - 16) 0 + sg0 (l.getD (t - 15) 0) + l.getD (t - 7) 0 + sg1 (l.getD (t - 2) 0)
/-- The first 16 + n words. -/
def sch (f : Nat → UInt8) : Nat → List UInt32
  | 0 => (List.range 16).map (w16 f)
  | n + 1 => sch f n ++ [ext (sch f n) (16 + n)]
def wd (f : Nat → UInt8) (t : Nat) : UInt32 := (sch f 48).getD t 0

theorem sch_length (f : Nat → UInt8) (n : Nat) : (sch f n).length = 16 + n := by
  induction n with
  | zero => simp [sch]
  | succ n ih => simp [sch, ih]; omega
theorem sch_more (f : Nat → UInt8) (n m t : Nat) (h : t < 16 + n) : (sch f (n + m)).getD t 0 = (sch f n).getD t 0 := by
  induction m with
  | zero => rfl
  | succ m ih =>
    rw [← Nat.add_assoc, sch, List.getD_eq_getElem?_getD, List.getElem?_append_left (by rw [sch_length]; omega), ← List.getD_eq_getElem?_getD, ih]
theorem wd_of (f : Nat → UInt8) (n t : Nat) (hn : n ≤ 48) (h : t < 16 + n) : (sch f n).getD t 0 = wd f t := by
  unfold wd
  have := sch_more f n (48 - n) t h
  rw [← this]
  congr 2
  omega
theorem wd_16 (f : Nat → UInt8) (t : Nat) (h : t < 16) : wd f t = w16 f t := by
  rw [← wd_of f 0 t (by omega) (by omega)]
  simp [sch, List.getD, h]
theorem wd_rec (f : Nat → UInt8) (t : Nat) (h : 16 ≤ t) (h2 : t < 64) : wd f t = wd f (t - 16) + sg0 (wd f (t - 15)) + wd f (t - 7) + sg1 (wd f (t - 2)) := by
  obtain ⟨n, rfl⟩ : ∃ n, t = 16 + n := ⟨t - 16, by omega⟩
  rw [← wd_of f (n + 1) (16 + n) (by omega) (by omega), sch]
  have : (sch f n ++ [ext (sch f n) (16 + n)]).getD (16 + n) 0 = ext (sch f n) (16 + n) := by
    rw [List.getD_eq_getElem?_getD, List.getElem?_append_right (by rw [sch_length]; omega), sch_length]
    simp
  rw [this]
  unfold ext
  rw [wd_of f n _ (by omega) (by omega), wd_of f n _ (by omega) (by omega), wd_of f n _ (by omega) (by omega), wd_of f n _ (by omega) (by omega)]

structure St where
  a : UInt32
  b : UInt32
  c : UInt32
  d : UInt32
  e : UInt32
  f : UInt32
  g : UInt32
  h : UInt32

def kt : List UInt32 := [1116352408, 1899447441, 3049323471, 3921009573, 961987163, 1508970993, 2453635748, 2870763221, 3624381080, 310598401, 607225278, 1426881987, 1925078388, 2162078206, 2614888103, 3248222580, 3835390401, 4022224774, 264347078, 604807628, 770255983, 1249150122, 1555081692, 1996064986, 2554220882, 2821834349, 2952996808, 3210313671, 3336571891, 3584528711, 113926993, 338241895, 666307205, 773529912, 1294757372, 1396182291, 1695183700, 1986661051, 2177026350, 2456956037, 2730485921, 2820302411, 3259730800, 3345764771, 3516065817, 3600352804, 4094571909, 275423344, 430227734, 506948616, 659060556, 883997877, 958139571, 1322822218, 1537002063, 1747873779, 1955562222, 2024104815, 2227730452, 2361852424, 2428436474, 2756734187, 3204031479, 3329325298]
def kk (t : Nat) : UInt32 := kt.getD t 0
def xx (k w : UInt32) (s : St) : UInt32 := s.h + (rotr s.e 6 ^^^ rotr s.e 11 ^^^ rotr s.e 25) + ((s.e &&& s.f) ^^^ (~~~s.e &&& s.g)) + k + w
def yy (s : St) : UInt32 := (rotr s.a 2 ^^^ rotr s.a 13 ^^^ rotr s.a 22) + ((s.a &&& s.b) ^^^ (s.a &&& s.c) ^^^ (s.b &&& s.c))
def rnd (k w : UInt32) (s : St) : St := ⟨xx k w s + yy s, s.a, s.b, s.c, s.d + xx k w s, s.e, s.f, s.g⟩
def rnds (f : Nat → UInt8) : Nat → St → St
  | 0, s => s
  | n + 1, s => rnd (kk n) (wd f n) (rnds f n s)
def St.add (s t : St) : St := ⟨s.a + t.a, s.b + t.b, s.c + t.c, s.d + t.d, s.e + t.e, s.f + t.f, s.g + t.g, s.h + t.h⟩
def tk (s : St) (f : Nat → UInt8) : St := s.add (rnds f 64 s)
/-- n blocks, one behind the other. -/
def blk (g : Nat → UInt8) : Nat → St → St
  | 0, s => s
  | n + 1, s => tk (blk g n s) (fun i => g (64 * n + i))
def st0 : St := ⟨1779033703, 3144134277, 1013904242, 2773480762, 1359893119, 2600822924, 528734635, 1541459225⟩
def be32 (x : UInt32) : List UInt8 := [(x >>> 24).toUInt8, (x >>> 16).toUInt8, (x >>> 8).toUInt8, x.toUInt8]
def St.list (s : St) : List UInt32 := [s.a, s.b, s.c, s.d, s.e, s.f, s.g, s.h]
def St.bytes (s : St) : List UInt8 := s.list.flatMap be32
def be64 (n : Nat) : List UInt8 := [UInt8.ofNat (n / 2 ^ 56), UInt8.ofNat (n / 2 ^ 48), UInt8.ofNat (n / 2 ^ 40), UInt8.ofNat (n / 2 ^ 32), UInt8.ofNat (n / 2 ^ 24), UInt8.ofNat (n / 2 ^ 16), UInt8.ofNat (n / 2 ^ 8), UInt8.ofNat n]
/-- How many noughts. -/
def nz (n : Nat) : Nat := (119 - n % 64) % 64
def padded (l : List UInt8) : List UInt8 := l ++ [128] ++ List.replicate (nz l.length) 0 ++ be64 (l.length * 8)
def fn (l : List UInt8) (i : Nat) : UInt8 := l.getD i 0
def sum (l : List UInt8) : List UInt8 := (blk (fn (padded l)) ((padded l).length / 64) st0).bytes
def sumK : List UInt8 := sum [97, 98, 99]
theorem byte_U (c : UInt8) : (c.toNat : Int) % 4294967296 = U c.toUInt32 := by
  unfold U
  rw [UInt8.toNat_toUInt32]
  have := c.toNat_lt
  omega
theorem shl_U (x : UInt32) (n : Nat) (hn : n < 32) : U x * 2 ^ n % 4294967296 = U (x <<< UInt32.ofNat n) := by
  rw [U_mul]
  unfold U
  rw [UInt32.toNat_shiftLeft]
  have e1 : (UInt32.ofNat n).toNat % 32 = n := by rw [UInt32.toNat_ofNat']; omega
  rw [e1, Nat.shiftLeft_eq]
theorem shr_U (x : UInt32) (n : Nat) (hn : n < 32) : U x / 2 ^ n = U (x >>> UInt32.ofNat n) := by
  rw [U_div]
  unfold U
  rw [UInt32.toNat_shiftRight]
  have e1 : (UInt32.ofNat n).toNat % 32 = n := by rw [UInt32.toNat_ofNat']; omega
  rw [e1, Nat.shiftRight_eq_div_pow]
theorem shl24 (x : UInt32) : U x * (16777216 : Int) % (4294967296 : Int) = U (x <<< 24) := shl_U x 24 (by omega)
theorem shl16 (x : UInt32) : U x * (65536 : Int) % (4294967296 : Int) = U (x <<< 16) := shl_U x 16 (by omega)
theorem shl8 (x : UInt32) : U x * (256 : Int) % (4294967296 : Int) = U (x <<< 8) := shl_U x 8 (by omega)
theorem shr3 (x : UInt32) : U x / (8 : Int) = U (x >>> 3) := shr_U x 3 (by omega)
theorem shr10 (x : UInt32) : U x / (1024 : Int) = U (x >>> 10) := shr_U x 10 (by omega)
theorem shr24 (x : UInt32) : U x / (16777216 : Int) = U (x >>> 24) := shr_U x 24 (by omega)
theorem shr16 (x : UInt32) : U x / (65536 : Int) = U (x >>> 16) := shr_U x 16 (by omega)
theorem shr8 (x : UInt32) : U x / (256 : Int) = U (x >>> 8) := shr_U x 8 (by omega)
theorem w16_walk (f : Nat → UInt8) (k : Nat) : bits BinOp.or IntKind.u32 (bits BinOp.or IntKind.u32 (bits BinOp.or IntKind.u32 (((f (4 * k)).toNat : Int) % 4294967296 * 16777216 % 4294967296)
    (((f (4 * k + 1)).toNat : Int) % 4294967296 * 65536 % 4294967296)) (((f (4 * k + 2)).toNat : Int) % 4294967296 * 256 % 4294967296)) (((f (4 * k + 3)).toNat : Int) % 4294967296) = U (w16 f k) := by
  rw [byte_U, byte_U, byte_U, byte_U, shl24, shl16, shl8, U_or, U_or, U_or]
  rfl
theorem byte_W (c : UInt8) : IntKind.u32.wrap (c.toNat : Int) = U c.toUInt32 := by rw [IntKind.wrap_u32', byte_U]
theorem shl24W (x : UInt32) : IntKind.u32.wrap (U x * (16777216 : Int)) = U (x <<< 24) := by rw [IntKind.wrap_u32', shl24]
theorem shl16W (x : UInt32) : IntKind.u32.wrap (U x * (65536 : Int)) = U (x <<< 16) := by rw [IntKind.wrap_u32', shl16]
theorem shl8W (x : UInt32) : IntKind.u32.wrap (U x * (256 : Int)) = U (x <<< 8) := by rw [IntKind.wrap_u32', shl8]
theorem U_add' (x y : UInt32) : (U x + U y) % (4294967296 : Int) = U (x + y) := by rw [← IntKind.wrap_u32', U_add]
theorem U_not (x : UInt32) : bits .xor .u32 (if IntKind.u32.signed = true then -1 else IntKind.u32.max) (U x) = U (~~~x) := by
  have e : (if IntKind.u32.signed = true then -1 else IntKind.u32.max) = U 4294967295 := rfl
  rw [e, U_xor]
  have h : (4294967295 : UInt32) ^^^ x = ~~~x := by
    apply UInt32.toBitVec_inj.1
    simp
    exact BitVec.allOnes_xor
  rw [h]
end Go.Proofs.YtogphpejdnhnjaaGreatDoor.Sha
namespace Go.Proofs.YtogphpejdnhnjaaGreatDoor.Sha
open Go.RowKit
attribute [local go_sem] U_add U_add' U_xor U_and U_or byte_U byte_W shl24 shl16 shl8 shl24W shl16W shl8W shr3 shr10

theorem rowIs_rep {w : World} {b t n : Nat} {cs : Array Value} {v : Value} (h : w.heap[b]? = some (.cells cs t (0, 0))) (e : cs.toList = List.replicate n v) : w.rowIs b t n (fun _ => v) :=
  ⟨cs, h, by rw [← Array.length_toList, e, List.length_replicate], fun i hi => by
    rw [← Array.getElem?_toList, e, List.getElem?_replicate, if_pos hi]⟩
def rowL (n : Nat) (g : Nat → Value) : Array Value := ((List.range n).map g).toArray
theorem rowL_size (n : Nat) (g : Nat → Value) : (rowL n g).size = n := by simp [rowL]
theorem rowL_at (n : Nat) (g : Nat → Value) (i : Nat) (h : i < n) : (rowL n g)[i]? = some (g i) := by simp [rowL, h]
theorem rowIs_heap {w : World} {b t n : Nat} {g : Nat → Value} (h : w.rowIs b t n g) : w.heap[b]? = some (.cells (rowL n g) t (0, 0)) := by
  obtain ⟨c, hb, hn, hc⟩ := h
  rw [hb]
  congr 2
  apply Array.ext_getElem?
  intro i
  by_cases hi : i < n
  · rw [hc i hi, rowL_at n g i hi]
  · rw [Array.getElem?_eq_none (by omega), Array.getElem?_eq_none (by rw [rowL_size]; omega)]
theorem rowL_one (n : Nat) (g : Nat → Value) (h : ∀ i, (g i).oneCell' = true) : (rowL n g).all (·.oneCell') = true := by
  apply all_oneCell_toArray
  intro v hv
  obtain ⟨i, _, rfl⟩ := List.mem_map.1 hv
  exact h i
theorem size45 : (Tryz.prog.info? 283).map (·.size) = some 64 := by kernel_rfl
def row16 (f : Nat → UInt8) (k j : Nat) : Value := .int .u32 (if j < k then U (w16 f j) else 0)

def rowW (f : Nat → UInt8) (k j : Nat) : Value := .int .u32 (if j < k then U (wd f j) else 0)
theorem rowW_lt (f : Nat → UInt8) (k j : Nat) (h : j < k) : rowW f k j = .int .u32 (U (wd f j)) := by unfold rowW; rw [if_pos h]

set_option maxHeartbeats 1000000 in
set_option maxRecDepth 100000 in
theorem words_any (b off cap : Nat) (f : Nat → UInt8) (w : World) (hcap : 64 ≤ cap) (hc : Hid (∀ i, i < 64 → w.cell? ⟨b, off + i, none⟩ = some (.int .u8 ((f i).toNat : Int)))) :
    Calls Tryz.prog 188 #[.slice (some ⟨b, off, none⟩) 64 cap] w fun e w' => e = .returned (.agg (rowL 64 (rowW f 64))) ∧ Below w.heap.size w w' := by
  have hb : b < w.heap.size := World.block_lt_of_cell? w _ (hc.out 0 (by omega))
  have hcp : (64 : Int) ≤ (cap : Int) := by omega
  go_enter Tryz.func188, Tryz.ntmps188
  go_wp2
  go_loopw [4] (fun i wr => ∃ k : Nat, k ≤ 16 ∧ i = .int .i64 k ∧ Hid (wr.rowIs (w.heap.size + 1) 283 64 (row16 f k)) ∧ Hid (wr.rowIs w.heap.size 283 64 (fun _ => .int .u32 0)) ∧ Hid (Below w.heap.size w wr)) (fun i _ => 16 - (intOf i).toNat)
  case atStart =>
    refine ⟨0, by omega, rfl, ?_, ?_, ((Below.refl _ _).alloc (Nat.le_refl _) _).alloc (by show _ ≤ (w.heap.push _).size; simp) _⟩
    · exact (rowIs_rep (n := 64) (heap_alloc2_new w _ _) (by rfl)).congr (fun i _ => by simp [row16])
    · exact rowIs_rep (n := 64) (heap_alloc2_old w _ _) (by rfl)
  case round =>
    obtain ⟨k, hk, rfl, hr1, hr0, hbel⟩ := hrel
    by_cases hlt : k < 16
    · have hk0 : (0 : Int) ≤ (k : Int) := by omega
      have hk1 : (k : Int) < 16 := by omega
      have g : ∀ j, j < 4 → wr.cell? ⟨b, off + 4 * k + j, none⟩ = some (.int .u8 ((f (4 * k + j)).toNat : Int)) := fun j hj => by
        rw [Nat.add_assoc, hbel.out.cell (p := ⟨b, off + (4 * k + j), none⟩) hb]; exact hc.out _ (by omega)
      have g0 := g 0 (by omega)
      have g1 := g 1 (by omega)
      have g2 := g 2 (by omega)
      have g3 := g 3 (by omega)
      simp only [Nat.add_zero] at g0
      have gw := hr1.out.cell (i := k) (by omega)
      have gf := hr1.out.frozen k
      clear g
      have hk2 : (k : Int) < 64 := by omega
      have hne : b ≠ w.heap.size + 1 := by omega
      have hne' : w.heap.size + 1 ≠ b := by omega
      have h4 : 4 * k + 4 - 4 * k = 4 := by omega
      go_wp2_with fail
      go_region_held3 (fun w' => w'.cell? ⟨b, off + 4 * k, none⟩ = some (.int .u8 ((f (4 * k)).toNat : Int)) ∧ w'.cell? ⟨b, off + 4 * k + 1, none⟩ = some (.int .u8 ((f (4 * k + 1)).toNat : Int)) ∧ w'.cell? ⟨b, off + 4 * k + 2, none⟩ = some (.int .u8 ((f (4 * k + 2)).toNat : Int)) ∧ w'.cell? ⟨b, off + 4 * k + 3, none⟩ = some (.int .u8 ((f (4 * k + 3)).toNat : Int))) (go_keep) (fail)
      all_goals
        change Exit.inBlock _ _ _ _ (World.drew (World.setCell _ _ (.int .u32 (U (w16 f k)))))
        have hr1' : Hid (((wr.setCell ⟨w.heap.size + 1, k, none⟩ (.int .u32 (U (w16 f k)))).drew).rowIs (w.heap.size + 1) 283 64 (row16 f (k + 1))) :=
          ((hr1.out.set k _).drew).congr (fun j _ => by
            unfold row16
            by_cases e : j = k
            · subst e; rw [if_pos rfl, if_pos (by omega)]
            · rw [if_neg e]; congr 1; by_cases e2 : j < k
              · rw [if_pos e2, if_pos (by omega)]
              · rw [if_neg e2, if_neg (by omega)])
        have hr0' : Hid (((wr.setCell ⟨w.heap.size + 1, k, none⟩ (.int .u32 (U (w16 f k)))).drew).rowIs w.heap.size 283 64 (fun _ => .int .u32 0)) := (hr0.out.setOther (by simp) _).drew
        have hbel' : Hid (Below w.heap.size w ((wr.setCell ⟨w.heap.size + 1, k, none⟩ (.int .u32 (U (w16 f k)))).drew)) := (hbel.out.setCell (by simp) _).drew
        clear hr1 hr0 hbel g0 g1 g2 g3 gw gf
        go_wp2
        go_roundw
        case rel => exact ⟨k + 1, by omega, by go_num, hr1', hr0', hbel'⟩
        case measure => simp [intOf]; omega
    · have hk2 : k = 16 := by omega
      subst hk2
      go_wp2
      have hr2 : Hid (wr.rowIs (w.heap.size + 1) 283 64 (rowW f 16)) := hr1.out.congr (fun j _ => by
        unfold row16 rowW
        by_cases e : j < 16
        · rw [if_pos e, if_pos e, wd_16 f j e]
        · rw [if_neg e, if_neg e])
      clear hr1
      go_loopw [6] (fun i ws => ∃ k : Nat, 16 ≤ k ∧ k ≤ 64 ∧ i = .int .i64 k ∧ Hid (ws.rowIs (w.heap.size + 1) 283 64 (rowW f k)) ∧ Hid (ws.rowIs w.heap.size 283 64 (fun _ => .int .u32 0)) ∧ Hid (Below w.heap.size w ws)) (fun i _ => 64 - (intOf i).toNat)
      case atStart => exact ⟨16, by omega, by omega, rfl, hr2, hr0, hbel⟩
      case round =>
        clear hr2 hr0 hbel
        obtain ⟨k, hk0, hk, rfl, hr2, hr0, hbel⟩ := hrel
        by_cases hlt : k < 64
        · have i15 : (0 : Int) ≤ (k : Int) - 15 := by omega
          have j15 : (k : Int) - 15 < 64 := by omega
          have i2 : (0 : Int) ≤ (k : Int) - 2 := by omega
          have j2 : (k : Int) - 2 < 64 := by omega
          have i16 : (0 : Int) ≤ (k : Int) - 16 := by omega
          have j16 : (k : Int) - 16 < 64 := by omega
          have i7 : (0 : Int) ≤ (k : Int) - 7 := by omega
          have j7 : (k : Int) - 7 < 64 := by omega
          have c15 := hr2.out.cell (i := k - 15) (by omega)
          rw [rowW_lt f k _ (by omega)] at c15
          go_wp2_with fail
          go_quiet ((go_at_call 189; exact Calls.quiet_of_same (turnI _ _ (by omega) (by omega) _)))
          clear c15
          obtain ⟨ws, hws⟩ : ∃ ws, ws = wr.drewN nq := ⟨_, rfl⟩
          rw [← hws]
          have hr2' : Hid (ws.rowIs (w.heap.size + 1) 283 64 (rowW f k)) := by rw [hws]; exact hr2.out
          have hr0' : Hid (ws.rowIs w.heap.size 283 64 (fun _ => .int .u32 0)) := by rw [hws]; exact hr0.out
          have hbel' : Hid (Below w.heap.size w ws) := by rw [hws]; exact below_drewN hbel.out nq
          clear hr2 hr0 hbel hws
          have c2 := hr2'.out.cell (i := k - 2) (by omega)
          rw [rowW_lt f k _ (by omega)] at c2
          go_wp2_with fail
          go_quiet ((go_at_call 189; exact Calls.quiet_of_same (turnI _ _ (by omega) (by omega) _)))
          clear c2
          obtain ⟨wt, hwt⟩ : ∃ wt, wt = ws.drewN nq := ⟨_, rfl⟩
          rw [← hwt]
          have hr2 : Hid (wt.rowIs (w.heap.size + 1) 283 64 (rowW f k)) := by rw [hwt]; exact hr2'.out
          have hr0 : Hid (wt.rowIs w.heap.size 283 64 (fun _ => .int .u32 0)) := by rw [hwt]; exact hr0'.out
          have hbel : Hid (Below w.heap.size w wt) := by rw [hwt]; exact below_drewN hbel'.out nq
          clear hr2' hr0' hbel' hwt
          have c16 := hr2.out.cell (i := k - 16) (by omega)
          have c7 := hr2.out.cell (i := k - 7) (by omega)
          rw [rowW_lt f k _ (by omega)] at c16 c7
          have gw := hr2.out.cell (i := k) (by omega)
          have gf := hr2.out.frozen k
          have e16 : IntKind.i64.wrap ((k : Int) - 16) = (k : Int) - 16 := wrap_small _ (by omega) (by omega)
          have e7 : IntKind.i64.wrap ((k : Int) - 7) = (k : Int) - 7 := wrap_small _ (by omega) (by omega)
          have f16 : ((k : Int) - 16).toNat = k - 16 := by omega
          have f7 : ((k : Int) - 7).toNat = k - 7 := by omega
          have hk1 : (0 : Int) ≤ (k : Int) := by omega
          have hk2 : (k : Int) < 64 := by omega
          have n16 : k ≠ k - 16 := by omega
          have n7 : k ≠ k - 7 := by omega
          go_wp2_with fail
          go_region
          have e : wd f (k - 16) + (rotI (wd f (k - 15)) 7 ^^^ rotI (wd f (k - 15)) 18 ^^^ wd f (k - 15) >>> 3) + wd f (k - 7) + (rotI (wd f (k - 2)) 17 ^^^ rotI (wd f (k - 2)) 19 ^^^ wd f (k - 2) >>> 10) = wd f k := (wd_rec f k hk0 hlt).symm
          rw [e]
          have hr1' : Hid (((wt.setCell ⟨w.heap.size + 1, k, none⟩ (.int .u32 (U (wd f k)))).drew).rowIs (w.heap.size + 1) 283 64 (rowW f (k + 1))) :=
            ((hr2.out.set k _).drew).congr (fun j _ => by
              unfold rowW
              by_cases e : j = k
              · subst e; rw [if_pos rfl, if_pos (by omega)]
              · rw [if_neg e]; congr 1; by_cases e2 : j < k
                · rw [if_pos e2, if_pos (by omega)]
                · rw [if_neg e2, if_neg (by omega)])
          have hr0' : Hid (((wt.setCell ⟨w.heap.size + 1, k, none⟩ (.int .u32 (U (wd f k)))).drew).rowIs w.heap.size 283 64 (fun _ => .int .u32 0)) := (hr0.out.setOther (by simp) _).drew
          have hbel' : Hid (Below w.heap.size w ((wt.setCell ⟨w.heap.size + 1, k, none⟩ (.int .u32 (U (wd f k)))).drew)) := (hbel.out.setCell (by simp) _).drew
          clear e hr2 hr0 hbel c16 c7 gw gf e16 e7 f16 f7
          go_wp2
          go_roundw
          case rel => exact ⟨k + 1, by omega, by omega, by go_num, hr1', hr0', hbel'⟩
          case measure => simp [intOf]; omega
        · have hk2 : k = 64 := by omega
          subst hk2
          have hh2 : Hid _ := rowIs_heap hr2.out
          have hh0 : Hid _ := rowIs_heap hr0.out
          go_wp2_with (first
            | (refine wpList_load_row rfl 283 _ rfl (w.heap.size + 1) rfl 283 _ (0, 0) _ hh2.out Tryz.underlying283 rfl (by rw [rowL_size]; exact size45) ?_)
            | (refine wpList_store_row rfl 283 _ _ rfl w.heap.size _ rfl rfl 283 _ hh0.out (by rw [rowL_size]; exact size45) (by rw [rowL_size, rowL_size]) (rowL_one _ _ (fun _ => rfl)) ?_))
          refine bodyPost_ret (v := .agg (rowL 64 (rowW f 64))) ?_ rfl ⟨rfl, below_setRow hbel.out (Nat.le_refl _) _⟩
          exact results_cell_row Tryz.results188 _ _ w.heap.size 283 _ (0, 0) _ rfl (setRow_heap _ _ _ _ _ _ hh0.out) Tryz.underlying283 rfl (by rw [rowL_size]; exact size45)
end Go.Proofs.YtogphpejdnhnjaaGreatDoor.Sha
namespace Go.Proofs.YtogphpejdnhnjaaGreatDoor.Sha
open Go.RowKit
attribute [local go_sem] U_add U_add' U_xor U_and U_or byte_U byte_W shl24 shl16 shl8 shl24W shl16W shl8W shr3 shr10 U_not

def St.vals (s : St) : Array Value := #[.int .u32 (U s.a), .int .u32 (U s.b), .int .u32 (U s.c), .int .u32 (U s.d), .int .u32 (U s.e), .int .u32 (U s.f), .int .u32 (U s.g), .int .u32 (U s.h)]
theorem size31 : (Tryz.prog.info? 155).map (·.size) = some 8 := by kernel_rfl
theorem size31v (s : St) : (Tryz.prog.info? 155).map (·.size) = some s.vals.size := size31
theorem vals_one (s : St) : s.vals.all (·.oneCell') = true := all_oneCell_toArray (by
  intro v hv
  simp at hv
  rcases hv with rfl | rfl | rfl | rfl | rfl | rfl | rfl | rfl <;> rfl)
def Bytes (w : World) (b off n : Nat) (f : Nat → UInt8) : Prop := ∀ i, i < n → w.cell? ⟨b, off + i, none⟩ = some (.int .u8 ((f i).toNat : Int))
def Tab (w : World) : Prop := ∀ i, i < 64 → w.cell? ⟨2, i, none⟩ = some (.int .u32 (U (kk i)))

set_option maxHeartbeats 1000000 in
set_option maxRecDepth 100000 in
theorem take_any (s : St) (b off cap : Nat) (f : Nat → UInt8) (w : World) (hcap : 64 ≤ cap) (hc : Bytes w b off 64 f) (hT : Tab w) :
    Calls Tryz.prog 127 #[.agg #[.int .u32 (U s.a), .int .u32 (U s.b), .int .u32 (U s.c), .int .u32 (U s.d), .int .u32 (U s.e), .int .u32 (U s.f), .int .u32 (U s.g), .int .u32 (U s.h)], .slice (some ⟨b, off, none⟩) 64 cap] w
      fun e w' => e = .returned (.agg (tk s f).vals) ∧ Below w.heap.size w w' := by
  go_enter Tryz.func127, Tryz.ntmps127
  go_wp2_with fail
  refine (words_any b off cap f _ hcap ?_).mono ?_
  · intro i hi
    rw [World.cell?_alloc_lt, World.cell?_alloc_lt]
    · exact hc i hi
    · exact World.block_lt_of_cell? w _ (hc i hi)
    · have := World.block_lt_of_cell? w _ (hc i hi); show _ < (w.heap.push _).size; simp at this ⊢; omega
  rintro e w1 ⟨rfl, hb1⟩
  have hs8 : w.heap.size + 2 ≤ w1.heap.size := by have := hb1.size; simpa using this
  go_wp2_with (refine wpList_store_row rfl 283 _ _ rfl w1.heap.size _ rfl rfl 283 _ (heap_alloc_new w1 _) (by rw [rowL_size]; exact size45) (by rw [rowL_size]; rfl) (rowL_one _ _ (fun _ => rfl)) ?_)
  rw [World.setRow_alloc_new]
  have hwx : ∃ wx, wx = w1.alloc (.cells (rowL 64 (rowW f 64)) 283) := ⟨_, rfl⟩
  obtain ⟨wx, hwx⟩ := hwx
  rw [← hwx]
  have hrw : Hid (wx.rowIs w1.heap.size 283 64 (rowW f 64)) := by rw [hwx]; exact ⟨_, heap_alloc_new w1 _, rowL_size _ _, fun i hi => rowL_at _ _ i hi⟩
  have hb2 : Hid (Below (w.heap.size + 2) ((w.alloc (.cells s.vals 155)).alloc (.cells #[.int .u32 0, .int .u32 0, .int .u32 0, .int .u32 0, .int .u32 0, .int .u32 0, .int .u32 0, .int .u32 0] 155)) wx) := by
    rw [hwx]; refine (hb1.mono (by simp)).alloc ?_ _; have := hb1.size; simpa using this
  have hS : Hid (wx.heap[w.heap.size]? = some (.cells s.vals 155 (0, 0))) := (hb2.out.block w.heap.size (by omega)).trans (heap_alloc2_old w _ _)
  have hR : Hid (wx.heap[w.heap.size + 1]? = some (.cells #[.int .u32 0, .int .u32 0, .int .u32 0, .int .u32 0, .int .u32 0, .int .u32 0, .int .u32 0, .int .u32 0] 155 (0, 0))) := (hb2.out.block (w.heap.size + 1) (by omega)).trans (heap_alloc2_new w _ _)
  have hbel : Hid (Below w.heap.size w wx) := (((Below.refl _ _).alloc (Nat.le_refl _) _).alloc (by show _ ≤ (w.heap.push _).size; simp) _).trans (hb2.out.mono (by omega))
  have h1lt : 2 < w.heap.size := World.block_lt_of_cell? w _ (hT 0 (by omega))
  have hTx : Hid (Tab wx) := fun i hi => by rw [hbel.out.cell (p := ⟨2, i, none⟩) h1lt]; exact hT i hi
  clear hwx hb1 hb2
  go_frame
  have c0 : wx.cell? ⟨w.heap.size, 0, none⟩ = some (.int .u32 (U s.a)) := by rw [cell_of_row _ _ _ _ _ _ hS.out]; rfl
  have c1 : wx.cell? ⟨w.heap.size, 1, none⟩ = some (.int .u32 (U s.b)) := by rw [cell_of_row _ _ _ _ _ _ hS.out]; rfl
  have c2 : wx.cell? ⟨w.heap.size, 2, none⟩ = some (.int .u32 (U s.c)) := by rw [cell_of_row _ _ _ _ _ _ hS.out]; rfl
  have c3 : wx.cell? ⟨w.heap.size, 3, none⟩ = some (.int .u32 (U s.d)) := by rw [cell_of_row _ _ _ _ _ _ hS.out]; rfl
  have c4 : wx.cell? ⟨w.heap.size, 4, none⟩ = some (.int .u32 (U s.e)) := by rw [cell_of_row _ _ _ _ _ _ hS.out]; rfl
  have c5 : wx.cell? ⟨w.heap.size, 5, none⟩ = some (.int .u32 (U s.f)) := by rw [cell_of_row _ _ _ _ _ _ hS.out]; rfl
  have c6 : wx.cell? ⟨w.heap.size, 6, none⟩ = some (.int .u32 (U s.g)) := by rw [cell_of_row _ _ _ _ _ _ hS.out]; rfl
  have c7 : wx.cell? ⟨w.heap.size, 7, none⟩ = some (.int .u32 (U s.h)) := by rw [cell_of_row _ _ _ _ _ _ hS.out]; rfl
  go_quiet (fail)
  go_wp2
  go_loopw [6, 7, 8, 9, 10, 11, 12, 13, 35] (fun va vb vc vd ve vf vg vh vi wr => ∃ k : Nat, k ≤ 64 ∧ vi = .int .i64 k ∧ va = .int .u32 (U (rnds f k s).a) ∧ vb = .int .u32 (U (rnds f k s).b) ∧ vc = .int .u32 (U (rnds f k s).c) ∧ vd = .int .u32 (U (rnds f k s).d) ∧ ve = .int .u32 (U (rnds f k s).e) ∧ vf = .int .u32 (U (rnds f k s).f) ∧ vg = .int .u32 (U (rnds f k s).g) ∧ vh = .int .u32 (U (rnds f k s).h) ∧ Hid (wr.heap = wx.heap) ∧ Hid (Below w.heap.size w wr))
    (fun _ _ _ _ _ _ _ _ vi _ => 64 - (intOf vi).toNat)
  case atStart => exact ⟨0, by omega, rfl, rfl, rfl, rfl, rfl, rfl, rfl, rfl, rfl, rfl, below_drewN hbel.out _⟩
  case round =>
    clear c0 c1 c2 c3 c4 c5 c6 c7
    obtain ⟨k, hk, rfl, rfl, rfl, rfl, rfl, rfl, rfl, rfl, rfl, hh, hbr⟩ := hrel
    by_cases hlt : k < 64
    · have hk0 : (0 : Int) ≤ (k : Int) := by omega
      have hk1 : (k : Int) < 64 := by omega
      have hcell : ∀ a, wr.cell? a = wx.cell? a := fun a => World.cell?_of_block (by rw [hh.out])
      have ck : wr.cell? ⟨2, k, none⟩ = some (.int .u32 (U (kk k))) := by rw [hcell]; exact hTx.out k hlt
      have cw : wr.cell? ⟨w1.heap.size, k, none⟩ = some (.int .u32 (U (wd f k))) := by rw [hcell, hrw.out.cell hlt, rowW_lt f 64 k hlt]
      clear hcell
      obtain ⟨σ, hσ⟩ : ∃ σ, rnds f k s = σ := ⟨_, rfl⟩
      rw [hσ]
      have hs' : Hid (rnds f (k + 1) s = rnd (kk k) (wd f k) σ) := by show rnd (kk k) (wd f k) (rnds f k s) = _; rw [hσ]
      clear hσ
      go_wp2_with fail
      go_quiet ((go_at_call 189; exact Calls.quiet_of_same (turnI _ _ (by omega) (by omega) _)))
      clear ck cw
      obtain ⟨ws, hws⟩ : ∃ ws, ws = wr.drewN nq := ⟨_, rfl⟩
      rw [← hws]
      have hh' : Hid (ws.heap = wx.heap) := by rw [hws]; exact hh.out
      have hbr' : Hid (Below w.heap.size w ws) := by rw [hws]; exact below_drewN hbr.out nq
      clear hh hbr hws
      go_wp2_with (go_at_call 189; refine (turnI _ _ (by omega) (by omega) _).mono ?_; rintro e w' ⟨rfl, rfl⟩)
      go_roundw
      case rel =>
        refine ⟨k + 1, by omega, by go_num, ?_, ?_, ?_, ?_, ?_, ?_, ?_, ?_, hh', hbr'⟩
        all_goals rw [hs'.out]
        all_goals rfl
      case measure => simp [intOf]; omega
    · have hk2 : k = 64 := by omega
      subst hk2
      have hg : wr.heap[w.heap.size]? = some (.cells s.vals 155 (0, 0)) := by rw [hh.out]; exact hS.out
      have c0 : wr.cell? ⟨w.heap.size, 0, none⟩ = some (.int .u32 (U s.a)) := by rw [cell_of_row _ _ _ _ _ _ hg]; rfl
      have c1 : wr.cell? ⟨w.heap.size, 1, none⟩ = some (.int .u32 (U s.b)) := by rw [cell_of_row _ _ _ _ _ _ hg]; rfl
      have c2 : wr.cell? ⟨w.heap.size, 2, none⟩ = some (.int .u32 (U s.c)) := by rw [cell_of_row _ _ _ _ _ _ hg]; rfl
      have c3 : wr.cell? ⟨w.heap.size, 3, none⟩ = some (.int .u32 (U s.d)) := by rw [cell_of_row _ _ _ _ _ _ hg]; rfl
      have c4 : wr.cell? ⟨w.heap.size, 4, none⟩ = some (.int .u32 (U s.e)) := by rw [cell_of_row _ _ _ _ _ _ hg]; rfl
      have c5 : wr.cell? ⟨w.heap.size, 5, none⟩ = some (.int .u32 (U s.f)) := by rw [cell_of_row _ _ _ _ _ _ hg]; rfl
      have c6 : wr.cell? ⟨w.heap.size, 6, none⟩ = some (.int .u32 (U s.g)) := by rw [cell_of_row _ _ _ _ _ _ hg]; rfl
      have c7 : wr.cell? ⟨w.heap.size, 7, none⟩ = some (.int .u32 (U s.h)) := by rw [cell_of_row _ _ _ _ _ _ hg]; rfl
      have hg1 : Hid (wr.heap[w.heap.size + 1]? = some (.cells #[.int .u32 0, .int .u32 0, .int .u32 0, .int .u32 0, .int .u32 0, .int .u32 0, .int .u32 0, .int .u32 0] 155 (0, 0))) := by rw [hh.out]; exact hR.out
      clear hg
      obtain ⟨σ, hσ⟩ : ∃ σ, rnds f 64 s = σ := ⟨_, rfl⟩
      rw [hσ]
      have hs' : Hid (tk s f = s.add σ) := by show s.add (rnds f 64 s) = _; rw [hσ]
      clear hσ
      go_wp2_with (refine wpList_store_row rfl 155 _ _ rfl (w.heap.size + 1) (s.add σ).vals rfl rfl 155 _ hg1.out (size31v _) rfl (vals_one _) ?_)
      refine bodyPost_ret (v := .agg (tk s f).vals) ?_ rfl ⟨rfl, below_setRow hbr.out (by omega) _⟩
      rw [hs'.out]
      exact results_cell_row Tryz.results127 _ _ (w.heap.size + 1) 155 _ (0, 0) _ rfl (setRow_heap _ _ _ _ _ _ hg1.out) Tryz.underlying155 rfl (size31v _)
end Go.Proofs.YtogphpejdnhnjaaGreatDoor.Sha
namespace Go.Proofs.YtogphpejdnhnjaaGreatDoor.Sha
open Go.RowKit
attribute [local go_sem ↓] Go.wp_at_zero Go.wp_at_succ

theorem cells8 {w : World} {B : Nat} {σ : St} (h : w.heap[B]? = some (.cells σ.vals 155 (0, 0))) :
    w.cell? ⟨B, 0, none⟩ = some (.int .u32 (U σ.a)) ∧ w.cell? ⟨B, 1, none⟩ = some (.int .u32 (U σ.b)) ∧ w.cell? ⟨B, 2, none⟩ = some (.int .u32 (U σ.c)) ∧ w.cell? ⟨B, 3, none⟩ = some (.int .u32 (U σ.d)) ∧ w.cell? ⟨B, 4, none⟩ = some (.int .u32 (U σ.e)) ∧ w.cell? ⟨B, 5, none⟩ = some (.int .u32 (U σ.f)) ∧ w.cell? ⟨B, 6, none⟩ = some (.int .u32 (U σ.g)) ∧ w.cell? ⟨B, 7, none⟩ = some (.int .u32 (U σ.h)) ∧ ∀ i, w.frozen? ⟨B, i, none⟩ = false := by
  refine ⟨?_, ?_, ?_, ?_, ?_, ?_, ?_, ?_, fun i => frozen_of_row _ _ _ _ _ h⟩ <;> (rw [cell_of_row _ _ _ _ _ _ h]; rfl)

def set8 (w : World) (B : Nat) (τ : St) : World :=
  ((((((((w.setCell ⟨B, 0, none⟩ (.int .u32 (U τ.a))).setCell ⟨B, 1, none⟩ (.int .u32 (U τ.b))).setCell ⟨B, 2, none⟩ (.int .u32 (U τ.c))).setCell ⟨B, 3, none⟩ (.int .u32 (U τ.d))).setCell ⟨B, 4, none⟩ (.int .u32 (U τ.e))).setCell ⟨B, 5, none⟩ (.int .u32 (U τ.f))).setCell ⟨B, 6, none⟩ (.int .u32 (U τ.g))).setCell ⟨B, 7, none⟩ (.int .u32 (U τ.h)))
theorem set8_same {w : World} {B : Nat} {σ : St} (τ : St) (h : w.heap[B]? = some (.cells σ.vals 155 (0, 0))) : (set8 w B τ).heap[B]? = some (.cells τ.vals 155 (0, 0)) := by
  have h8 := heap_setCell_same _ _ 7 _ 155 (.int .u32 (U τ.h)) (heap_setCell_same _ _ 6 _ 155 (.int .u32 (U τ.g)) (heap_setCell_same _ _ 5 _ 155 (.int .u32 (U τ.f)) (heap_setCell_same _ _ 4 _ 155 (.int .u32 (U τ.e)) (heap_setCell_same _ _ 3 _ 155 (.int .u32 (U τ.d)) (heap_setCell_same _ _ 2 _ 155 (.int .u32 (U τ.c)) (heap_setCell_same _ _ 1 _ 155 (.int .u32 (U τ.b)) (heap_setCell_same _ _ 0 _ 155 (.int .u32 (U τ.a)) h)))))))
  unfold set8
  rw [h8]
  simp [St.vals]
theorem set8_other {w : World} {B : Nat} (τ : St) (k : Nat) (h : k ≠ B) : (set8 w B τ).heap[k]? = w.heap[k]? := by
  unfold set8
  rw [heap_setCell_other _ _ _ _ h, heap_setCell_other _ _ _ _ h, heap_setCell_other _ _ _ _ h, heap_setCell_other _ _ _ _ h, heap_setCell_other _ _ _ _ h, heap_setCell_other _ _ _ _ h, heap_setCell_other _ _ _ _ h, heap_setCell_other _ _ _ _ h]
theorem set8_below {w w0 : World} {B N : Nat} (τ : St) (hN : N ≤ B) (h : Below N w0 w) : Below N w0 (set8 w B τ) :=
  (((((((h.setCell hN _).setCell hN _).setCell hN _).setCell hN _).setCell hN _).setCell hN _).setCell hN _).setCell hN _

set_option maxHeartbeats 1000000 in
set_option maxRecDepth 100000 in
theorem takeAll_any (s : St) (b off len cap : Nat) (g : Nat → UInt8) (w : World) (hlen : len ≤ 140737488355328) (hcap : len ≤ cap) (hcapm : cap ≤ maxLen) (hc : Bytes w b off len g) (hT : Tab w) (hb : b < w.heap.size) :
    Calls Tryz.prog 66 #[.agg #[.int .u32 (U s.a), .int .u32 (U s.b), .int .u32 (U s.c), .int .u32 (U s.d), .int .u32 (U s.e), .int .u32 (U s.f), .int .u32 (U s.g), .int .u32 (U s.h)], .slice (some ⟨b, off, none⟩) len cap] w
      fun e w' => e = .returned (.agg (blk g (len / 64) s).vals) ∧ Below w.heap.size w w' := by
  unfold maxLen at hcapm
  have h1lt : 2 < w.heap.size := World.block_lt_of_cell? w _ (hT 0 (by omega))
  have HC : Hid (Bytes w b off len g) := hc
  have HT : Hid (Tab w) := hT
  clear hc hT
  go_enter Tryz.func66, Tryz.ntmps66
  go_wp2
  go_loopw [5] (fun i wr => ∃ k : Nat, k ≤ len / 64 ∧ i = .int .i64 (64 * (k : Int)) ∧ Hid (wr.heap[w.heap.size]? = some (.cells (blk g k s).vals 155 (0, 0))) ∧ Hid (wr.heap[w.heap.size + 1]? = some (.cells #[.int .u32 0, .int .u32 0, .int .u32 0, .int .u32 0, .int .u32 0, .int .u32 0, .int .u32 0, .int .u32 0] 155 (0, 0))) ∧ Hid (Below w.heap.size w wr))
    (fun i _ => len - (intOf i).toNat)
  case atStart => exact ⟨0, by omega, rfl, heap_alloc2_old w _ _, heap_alloc2_new w _ _, ((Below.refl _ _).alloc (Nat.le_refl _) _).alloc (by show _ ≤ (w.heap.push _).size; simp) _⟩
  case round =>
    obtain ⟨k, hk, rfl, hg, hg1, hbel⟩ := hrel
    by_cases hlt : 64 * k + 64 ≤ len
    · obtain ⟨σ, hσ⟩ : ∃ σ, blk g k s = σ := ⟨_, rfl⟩
      rw [hσ] at hg
      have hs' : Hid (blk g (k + 1) s = tk σ (fun i => g (64 * k + i))) := by show tk (blk g k s) _ = _; rw [hσ]
      clear hσ
      obtain ⟨c0, c1, c2, c3, c4, c5, c6, c7, _⟩ := cells8 hg.out
      have hB1 : w.heap.size + 1 < wr.heap.size := by
        have := hg1.out
        rcases Nat.lt_or_ge (w.heap.size + 1) wr.heap.size with h | h
        · exact h
        · rw [Array.getElem?_eq_none h] at this; cases this
      obtain ⟨τ, hτ⟩ : ∃ τ, tk σ (fun i => g (64 * k + i)) = τ := ⟨_, rfl⟩
      have TK : Hid (Calls Tryz.prog 127 #[.agg #[.int .u32 (U σ.a), .int .u32 (U σ.b), .int .u32 (U σ.c), .int .u32 (U σ.d), .int .u32 (U σ.e), .int .u32 (U σ.f), .int .u32 (U σ.g), .int .u32 (U σ.h)], .slice (some ⟨b, off + 64 * k, none⟩) 64 (cap - 64 * k)] wr.drew fun e w' => e = .returned (.agg #[.int .u32 (U τ.a), .int .u32 (U τ.b), .int .u32 (U τ.c), .int .u32 (U τ.d), .int .u32 (U τ.e), .int .u32 (U τ.f), .int .u32 (U τ.g), .int .u32 (U τ.h)]) ∧ Hid (w'.heap[w.heap.size]? = some (.cells σ.vals 155 (0, 0))) ∧ Hid (w'.heap[w.heap.size + 1]? = some (.cells #[.int .u32 0, .int .u32 0, .int .u32 0, .int .u32 0, .int .u32 0, .int .u32 0, .int .u32 0, .int .u32 0] 155 (0, 0))) ∧ Hid (Below w.heap.size w w')) := by
        refine (take_any σ b (off + 64 * k) (cap - 64 * k) (fun i => g (64 * k + i)) wr.drew (by omega) ?_ ?_).mono ?_
        · intro i hi
          show wr.cell? _ = _
          rw [Nat.add_assoc, hbel.out.cell (p := ⟨b, off + (64 * k + i), none⟩) hb]
          exact HC.out _ (by omega)
        · intro i hi
          show wr.cell? _ = _
          rw [hbel.out.cell (p := ⟨2, i, none⟩) h1lt]
          exact HT.out i hi
        · rintro e w' ⟨rfl, hb'⟩
          refine ⟨?_, (hb'.block _ (by show _ < wr.heap.size; omega)).trans hg.out, (hb'.block _ (by show _ < wr.heap.size; omega)).trans hg1.out, hbel.out.drew.trans (hb'.mono hbel.out.size)⟩
          rw [hτ]
          rfl
      rw [hτ] at hs'
      clear hτ
      have l0 : (0 : Int) ≤ 64 * (k : Int) := by omega
      have l1 : 64 * (k : Int) ≤ 64 * (k : Int) + 64 := by omega
      have l2 : 64 * (k : Int) + 64 ≤ (cap : Int) := by omega
      have l3 : (64 * (k : Int)).toNat = 64 * k := by omega
      have l4 : (64 * (k : Int) + 64).toNat = 64 * k + 64 := by omega
      have l5 : IntKind.i64.wrap (64 * (k : Int) + 64) = 64 * (k : Int) + 64 := wrap_small _ (by omega) (by omega)
      have l6 : 64 * k + 64 - 64 * k = 64 := by omega
      go_wp2_with fail
      go_region_with ((go_at_call 127; go_fit TK.out; rintro e w' ⟨rfl, hg', hg1', hb'⟩; obtain ⟨d0, d1, d2, d3, d4, d5, d6, d7, d8⟩ := cells8 hg'.out))
      change Exit.inBlock _ _ _ _ (set8 w' w.heap.size τ)
      have e1 : Hid ((set8 w' w.heap.size τ).heap[w.heap.size]? = some (.cells (blk g (k + 1) s).vals 155 (0, 0))) := by rw [hs'.out]; exact set8_same τ hg'.out
      have e2 : Hid _ := (set8_other (w := w') (B := w.heap.size) τ (w.heap.size + 1) (by omega)).trans hg1'.out
      have e3 : Hid _ := set8_below (B := w.heap.size) τ (Nat.le_refl _) hb'.out
      clear hg hg1 hbel hg' hg1' hb' d0 d1 d2 d3 d4 d5 d6 d7 d8 c0 c1 c2 c3 c4 c5 c6 c7 TK
      go_wp2
      go_roundw
      case rel => exact ⟨k + 1, by omega, by go_num, e1, e2, e3⟩
      case measure => simp [intOf]; omega
    · have hk2 : k = len / 64 := by omega
      have hlt' : ¬ (64 * (k : Int) + 64 ≤ (len : Int)) := by omega
      rw [hk2] at hg
      clear hk2
      obtain ⟨σ, hσ⟩ : ∃ σ, blk g (len / 64) s = σ := ⟨_, rfl⟩
      rw [hσ] at hg
      have hs' : Hid (blk g (len / 64) s = σ) := hσ
      clear hσ
      go_wp2_with (first
        | (refine wpList_load_row rfl 155 _ rfl w.heap.size rfl 155 _ (0, 0) _ hg.out Tryz.underlying155 rfl (size31v _) ?_)
        | (refine wpList_store_row rfl 155 _ _ rfl (w.heap.size + 1) _ rfl rfl 155 _ hg1.out (size31v σ) rfl (vals_one _) ?_))
      refine bodyPost_ret (v := .agg (blk g (len / 64) s).vals) ?_ rfl ⟨rfl, below_setRow hbel.out (by omega) _⟩
      rw [hs'.out]
      exact results_cell_row Tryz.results66 _ _ (w.heap.size + 1) 155 _ (0, 0) _ rfl (setRow_heap _ _ _ _ _ _ hg1.out) Tryz.underlying155 rfl (size31v _)
end Go.Proofs.YtogphpejdnhnjaaGreatDoor.Sha
namespace Go.Proofs.YtogphpejdnhnjaaGreatDoor.Sha
open Go.RowKit

def bv (l : List UInt8) : List Value := l.map fun b => Value.int .u8 (b.toNat : Int)
theorem bv_append (a b : List UInt8) : bv (a ++ b) = bv a ++ bv b := by simp [bv]
theorem bv_length (a : List UInt8) : (bv a).length = a.length := by simp [bv]
theorem bv_one (a : List UInt8) : ∀ u ∈ bv a, u.oneCell' = true := by
  intro u hu
  obtain ⟨b, _, rfl⟩ := List.mem_map.1 hu
  rfl
theorem strOfNums_bytes (l : List UInt8) : strOfNums (l.map fun b => (b.toNat : Int)) = ⟨l.toArray⟩ := by
  unfold strOfNums
  congr 2
  rw [List.map_map]
  conv => rhs; rw [← List.map_id l]
  apply List.map_congr_left
  intro a _
  simp
/-- string(v) where the call owns v's bytes. -/
theorem conv_own {P : Program} {w : World} {base g n cap src dst e : Nat} {l : List UInt8} (hs : P.underlying src = some (.slice e)) (he : P.underlying e = some (.int .u8)) (hd : P.underlying dst = some .string)
    (h : w.ownsRow base e 1 (.slice (some ⟨g, 0, none⟩) n cap) n (bv l)) (hn : l.length = n) :
    (convert src dst (.slice (some ⟨g, 0, none⟩) n cap)).run P w = .ok (.string ⟨l.toArray⟩) w := by
  have := run_convert_bytes_arg (P := P) w src e hs he g 0 n cap (l.map fun b => (b.toNat : Int)) (by simpa using hn) (fun i hi => by
    have := h.cells (g := g) rfl i (.int .u8 ((l.map fun b => (b.toNat : Int)).getD i 0)) (by
      have : i < l.length := by omega
      simp [bv, List.getD, this])
    have hp : (⟨g, 0, none⟩ : Addr).add i = ⟨g, 0 + i, none⟩ := by unfold Addr.add; split <;> simp_all
    rwa [hp] at this) dst hd
  rwa [strOfNums_bytes] at this
theorem conv_any {P : Program} {w : World} {base n src dst e : Nat} {v : Value} {l : List UInt8} (hs : P.underlying src = some (.slice e)) (he : P.underlying e = some (.int .u8)) (hd : P.underlying dst = some .string)
    (h : w.ownsRow base e 1 v n (bv l)) (hn : l.length = n) : (convert src dst v).run P w = .ok (.string ⟨l.toArray⟩) w := by
  rcases h.2 with ⟨rfl, h0⟩ | ⟨g, cap, cur, rfl, _⟩
  · have : l = [] := List.length_eq_zero_iff.1 (by omega)
    subst this
    exact run_convert_bytes_nil w src e hs he 0 0 dst hd
  · exact conv_own hs he hd h hn
theorem lowU (y : UInt32) : U y % (256 : Int) = (y.toUInt8.toNat : Int) := by
  unfold U
  rw [UInt32.toNat_toUInt8]
  omega
theorem lowUW (y : UInt32) : IntKind.u8.wrap (U y) = (y.toUInt8.toNat : Int) := by rw [IntKind.wrap_u8', lowU]
end Go.Proofs.YtogphpejdnhnjaaGreatDoor.Sha
namespace Go.Proofs.YtogphpejdnhnjaaGreatDoor.Sha
open Go.RowKit

/-- The slice (ao, m, c) holds the bytes l. -/
structure Src (w : World) (ao : Option Addr) (m c : Nat) (l : List UInt8) : Prop where
  len : l.length = m
  cap : m ≤ c
  nil : ao = none → m = 0 ∧ c = 0
  cells : ∀ ad, ao = some ad → ∀ j u, (bv l)[j]? = some u → w.cell? (ad.add j) = some u

theorem bv_at (l : List UInt8) (i : Nat) (h : i < l.length) : (bv l)[i]? = some (.int .u8 ((fn l i).toNat : Int)) := by
  simp [bv, fn, List.getD, h]
theorem Src.form {w : World} {ao : Option Addr} {m c : Nat} {l : List UInt8} (h : Src w ao m c l) (hm : 0 < m) : ∃ b off, ao = some ⟨b, off, none⟩ ∧ b < w.heap.size ∧ Bytes w b off m (fn l) := by
  cases ao with
  | none => have := (h.nil rfl).1; omega
  | some ad =>
    obtain ⟨b, off, spot⟩ := ad
    have h0 := h.cells _ rfl 0 _ (bv_at l 0 (by rw [h.len]; exact hm))
    have hspot : spot = none := by simpa [Addr.add] using World.cell?_spot h0
    subst hspot
    refine ⟨b, off, rfl, World.block_lt_of_cell? w _ h0, fun i hi => ?_⟩
    have := h.cells _ rfl i _ (bv_at l i (by rw [h.len]; exact hi))
    rwa [Addr.add_mid] at this
theorem Src.mk_bytes {w : World} {b off m c : Nat} {l : List UInt8} (hl : l.length = m) (hc : m ≤ c) (h : Bytes w b off m (fn l)) : Src w (some ⟨b, off, none⟩) m c l :=
  ⟨hl, hc, (fun h => by cases h), fun ad had j u hu => by
    cases had
    have hj : j < l.length := by
      have := (List.getElem?_eq_some_iff.1 hu).1
      rwa [bv_length] at this
    rw [bv_at l j hj] at hu
    cases hu
    rw [Addr.add_mid]
    exact h j (by omega)⟩
theorem Src.empty {w : World} {ao : Option Addr} {c : Nat} (h : ao = none → c = 0) : Src w ao 0 c [] :=
  ⟨rfl, Nat.zero_le _, fun e => ⟨rfl, h e⟩, fun _ _ j u hu => by simp [bv] at hu⟩
theorem Src.below {w w' : World} {ao : Option Addr} {m c : Nat} {l : List UInt8} (h : Src w ao m c l) (hb : Below w.heap.size w w') : Src w' ao m c l :=
  ⟨h.len, h.cap, h.nil, fun ad had j u hu => by
    have := h.cells ad had j u hu
    rw [hb.cell (World.block_lt_of_cell? w _ this)]
    exact this⟩
theorem Src.below' {w w' : World} {B : Nat} {ao : Option Addr} {m c : Nat} {l : List UInt8} (h : Src w ao m c l) (hB : ∀ a, ao = some a → 0 < m → a.block < B) (hb : Below B w w') : Src w' ao m c l :=
  ⟨h.len, h.cap, h.nil, fun ad had j u hu => by
    have := h.cells ad had j u hu
    have hm : 0 < m := by
      rcases Nat.eq_zero_or_pos m with h0 | h0
      · have hl : l = [] := List.length_eq_zero_iff.1 (by rw [h.len, h0])
        subst hl; simp [bv] at hu
      · exact h0
    have hblk : (ad.add j).block = ad.block := by unfold Addr.add; split <;> rfl
    rw [hb.cell (by rw [hblk]; exact hB ad had hm)]
    exact this⟩
theorem Src.owns {w : World} {base n cap g : Nat} {l : List UInt8} (h : w.ownsRow base 5 1 (.slice (some ⟨g, 0, none⟩) n cap) n (bv l)) : Src w (some ⟨g, 0, none⟩) n cap l :=
  ⟨by have := h.1; rw [bv_length] at this; omega, by
    rcases h.2 with ⟨h0, _⟩ | ⟨g', cap', cur, hv, _, _, hc, _⟩
    · cases h0
    · cases hv; exact hc, (fun e => by cases e), fun ad had j u hu => by cases had; exact h.cells rfl j u hu⟩

/-- append(v, x...), v nil or the call's own, x a slice of bytes that is read. -/
theorem wpList_append_src {P : Program} {w : World} {ops : Array Oper} {rest : List Oper} {o : Oper} {a : Act} {Q : Exit → Act → World → Prop} (hgd : o.guard = none) (s x : Operand) (t : TypeId)
    (ho : o.op = .call { callee := .builtin .append, args := #[s, x], argTypes := #[t, t] })
    (base : Nat) (i : TypeInfo) (z : Value) (ht : P.underlying t = some (.slice 5)) (hi : P.info? 5 = some i) (hz : i.zero = some z)
    (hsize : i.size = 1) (hby : i.bytes = 1) (hzs : z.cells.size = 1)
    (v : Value) (n : Nat) (k : List UInt8) (hs : a.eval s = v) (hown : w.ownsRow base 5 1 v n (bv k))
    (ao : Option Addr) (m c : Nat) (l : List UInt8) (hx : a.eval x = .slice ao m c) (hsrc : Src w ao m c l)
    (hbytes : n + m ≤ 140737488355328) (hbase : base ≤ w.heap.size)
    (h : ∀ v' w', w'.ownsRow base 5 1 v' (n + m) (bv (k ++ l)) → w.grownBy w' v.ownBlock → wpList P ops Q rest (a.put o.dst v') w') : wpList P ops Q (o :: rest) a w := by
  cases ao with
  | none =>
    obtain ⟨rfl, rfl⟩ := hsrc.nil rfl
    have hl : l = [] := List.length_eq_zero_iff.1 hsrc.len
    subst hl
    refine wpList_append_own_none hgd s x t ho base 5 i 1 ht hi v n (bv k) hs hown hx ?_
    exact h v w (by simpa using hown) (World.grownBy.refl _ _)
  | some ad =>
    refine wpList_append_own w hgd s x t ho base 5 i z 1 1 ht hi hz hsize hby hzs (by omega) v n (bv k) hs hown ad m c (bv l) hx (by rw [bv_length, hsrc.len]; omega) (hsrc.cells ad rfl) (bv_one l) (by unfold maxLen; omega) (by omega) hbase ?_
    intro v' w' h1 h2 _
    exact h v' w' (by rw [bv_append]; exact h1) h2
end Go.Proofs.YtogphpejdnhnjaaGreatDoor.Sha
