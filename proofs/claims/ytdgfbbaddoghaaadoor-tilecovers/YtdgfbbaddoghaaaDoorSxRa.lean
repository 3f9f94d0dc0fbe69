/- Words as the document's own functions make them, put beside the program's; slices of words that a call owns; no walk. -/
import Derived.Test.YtdgfbbaddoghaaaDoorSxT
import Derived.Deep.AppendLies
namespace Go.Proofs.YtdgfbbaddoghaaaDoor.Sha
open Go.RowKit

def uv (l : List UInt32) : List Value := l.map fun x => Value.int .u32 (U x)
theorem uv_append (a b : List UInt32) : uv (a ++ b) = uv a ++ uv b := by simp [uv]
theorem uv_length (a : List UInt32) : (uv a).length = a.length := by simp [uv]
theorem uv_one (a : List UInt32) : ∀ u ∈ uv a, u.oneCell' = true := by
  intro u hu
  obtain ⟨b, _, rfl⟩ := List.mem_map.1 hu
  rfl
theorem uv_at (l : List UInt32) (i : Nat) (h : i < l.length) : (uv l)[i]? = some (.int .u32 (U (l.getD i 0))) := by
  simp [uv, List.getD, h]
theorem info29 : (Tryd.prog.info? 75).map (fun i => (i.zero, i.size, i.bytes)) = some (some (.int .u32 0), 1, 4) := by kernel_rfl
theorem own_cell {w : World} {base n g cap : Nat} {l : List UInt32} (h : w.ownsRow base 75 1 (.slice (some ⟨g, 0, none⟩) n cap) n (uv l)) (i : Nat) (hi : i < l.length) : w.cell? ⟨g, i, none⟩ = some (.int .u32 (U (l.getD i 0))) := by
  have := h.cells (g := g) rfl i _ (uv_at l i hi)
  rwa [Addr.add_mid, Nat.zero_add] at this
theorem join4 (a b c d : Nat) (_ha : a < 256) (hb : b < 256) (hc : c < 256) (hd : d < 256) : a * 16777216 ||| b * 65536 ||| c * 256 ||| d = a * 16777216 + b * 65536 + c * 256 + d := by
  rw [nat_join 24 (a * 16777216) (b * 65536) (by omega) (by omega), nat_join 16 (a * 16777216 + b * 65536) (c * 256) (by omega) (by omega), nat_join 8 (a * 16777216 + b * 65536 + c * 256) d (by omega) (by omega)]
theorem w16_sum (f : Nat → UInt8) (i : Nat) : ((f (4 * i)).toUInt32 <<< 24) + ((f (4 * i + 1)).toUInt32 <<< 16) + ((f (4 * i + 2)).toUInt32 <<< 8) + (f (4 * i + 3)).toUInt32 = w16 f i := by
  unfold w16
  generalize f (4 * i) = a
  generalize f (4 * i + 1) = b
  generalize f (4 * i + 2) = c
  generalize f (4 * i + 3) = d
  have ha := a.toNat_lt
  have hb := b.toNat_lt
  have hc := c.toNat_lt
  have hd := d.toNat_lt
  have sh : ∀ (x : UInt8) (n m : Nat), n < 32 → 2 ^ n = m → m ≤ 16777216 → (x.toUInt32 <<< UInt32.ofNat n).toNat = x.toNat * m := by
    intro x n m hn hm hm2
    have hx := x.toNat_lt
    rw [UInt32.toNat_shiftLeft, UInt8.toNat_toUInt32]
    have e1 : (UInt32.ofNat n).toNat % 32 = n := by rw [UInt32.toNat_ofNat']; omega
    rw [e1, Nat.shiftLeft_eq, hm]
    apply Nat.mod_eq_of_lt
    have h2 : x.toNat * m ≤ 255 * 16777216 := Nat.mul_le_mul (by omega) hm2
    omega
  have s1 : (a.toUInt32 <<< 24).toNat = a.toNat * 16777216 := sh a 24 _ (by omega) (by decide) (by omega)
  have s2 : (b.toUInt32 <<< 16).toNat = b.toNat * 65536 := sh b 16 _ (by omega) (by decide) (by omega)
  have s3 : (c.toUInt32 <<< 8).toNat = c.toNat * 256 := sh c 8 _ (by omega) (by decide) (by omega)
  apply UInt32.toNat_inj.1
  rw [UInt32.toNat_add, UInt32.toNat_add, UInt32.toNat_add, UInt32.toNat_or, UInt32.toNat_or, UInt32.toNat_or, s1, s2, s3, UInt8.toNat_toUInt32, join4 _ _ _ _ (by omega) (by omega) (by omega) (by omega)]
  omega
theorem ext_sum (x s0 y s1 : UInt32) : x + y + s0 + s1 = x + s0 + y + s1 := by
  rw [UInt32.add_assoc x y s0, UInt32.add_comm y s0, ← UInt32.add_assoc x s0 y]
end Go.Proofs.YtdgfbbaddoghaaaDoor.Sha
