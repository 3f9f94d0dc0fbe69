/- Paths and proofs as pieces that nodes stand for; numbers cut to places. -/
import Derived.Test.YtdgfbbaddoghaaaDoorJoinFe
import Derived.Test.YtdgfbbaddoghaaaDoorJoinPg
namespace Go.Proofs.YtdgfbbaddoghaaaDoor
open Go.RowKit
open Mt (Pos)

theorem and_mask17 (n : Int) (k : Nat) (hk : k < 4611686018427387904) : ∃ q : Nat, q ≤ k ∧ bits .and .i64 n (k : Int) = (q : Int) := by
  have hb : (BitVec.ofInt 64 (k : Int)).toNat = k := by rw [BitVec.toNat_ofInt]; omega
  have h : ((BitVec.ofInt 64 n) &&& (BitVec.ofInt 64 (k : Int))).toNat ≤ k := by
    rw [BitVec.toNat_and, hb]
    exact Nat.and_le_right
  refine ⟨((BitVec.ofInt 64 n) &&& (BitVec.ofInt 64 (k : Int))).toNat, h, ?_⟩
  show IntKind.i64.wrap (((BitVec.ofInt 64 n) &&& (BitVec.ofInt 64 (k : Int))).toNat : Int) = _
  exact wrap_small _ (by omega) (by omega)
theorem place17 (i : Int) (n : Nat) (h : 0 < n) : ∃ q k : Nat, bits .and .i64 i (65535 : Int) = (q : Int) ∧ q ≤ 65535 ∧ Int.tmod (q : Int) (n : Int) = (k : Int) ∧ (q : Int) % (n : Int) = (k : Int) ∧ k < n := by
  obtain ⟨q, h1, h2⟩ := and_mask17 i 65535 (by omega)
  exact ⟨q, q % n, h2, h1, (Int.ofNat_tmod q n).symm, (Int.natCast_emod q n).symm, Nat.mod_lt _ h⟩
/-- Pieces of n leaves that nodes stand for. -/
def Zok (n : Nat) (Z : List (Nat × Nat)) : Prop := ∀ z ∈ Z, z.1 < z.2 ∧ z.2 ≤ n ∧ Mt.rf (z.2 - z.1) ∣ z.1
def pathZ (i n : Nat) : List (Nat × Nat) := (Mt.way Mt.leafE i 0 n).1.map fun s => (s.a, s.b)
def proofZ (m n : Nat) : List (Nat × Nat) := (if (Mt.way (Mt.endE m) (m - 1) 0 n).2 = 0 then [] else [((Mt.way (Mt.endE m) (m - 1) 0 n).2, m)]) ++ (Mt.way (Mt.endE m) (m - 1) 0 n).1.map fun s => (s.a, s.b)
theorem pathZ_nodes (i n : Nat) : wayN (Mt.way Mt.leafE i 0 n).1 = (pathZ i n).map fun z => Mt.cov z.1 z.2 := by unfold pathZ wayN; rw [List.map_map]; rfl
theorem pathZ_texts {h : List (List UInt8)} {i n : Nat} (hh : h.length = n) (hi : i < n) : pathL h i = (pathZ i n).map fun z => rootL (Mt.piece h z.1 z.2) := by
  rw [← path_roots hh hi]
  unfold pathZ rootsL
  rw [List.map_map]
  rfl
theorem proofZ_nodes (m n : Nat) : subN m true 0 n = (proofZ m n).map fun z => Mt.cov z.1 z.2 := by
  unfold subN proofZ wayN
  simp only [Bool.true_and, decide_eq_true_eq]
  rw [List.map_append, List.map_map]
  congr 1
  split <;> rfl
theorem proofZ_texts {h : List (List UInt8)} {m n : Nat} (hh : h.length = n) (h1 : 1 ≤ m) (hm : m ≤ n) : proofL h m = (proofZ m n).map fun z => rootL (Mt.piece h z.1 z.2) := by
  rw [proof_roots hh h1 hm]
  unfold proofZ rootsL
  rw [List.map_append, List.map_map]
  congr 1
  split <;> rfl
theorem pathZ_ok {i n : Nat} (hi : i < n) : Zok n (pathZ i n) := fun z hz => by
  have WI := Mt.way_in (E := Mt.leafE) (i := i) (fun a h1 h2 => Mt.leafE_one a h1 h2) n 0 n (by omega) (Nat.zero_le _) hi
  have WA := Mt.way_al (E := Mt.leafE) (i := i) (fun a h1 h2 => Mt.leafE_one a h1 h2) n 0 n (by omega) (Nat.zero_le _) hi (Nat.dvd_zero _)
  unfold pathZ at hz
  obtain ⟨s, hs, rfl⟩ := List.mem_map.1 hz
  have h1 := WI.1 s hs
  exact ⟨h1.2.1, h1.2.2, WA.1 s hs⟩
theorem proofZ_ok {m n : Nat} (h1 : 1 ≤ m) (hm : m ≤ n) : Zok n (proofZ m n) := fun z hz => by
  have WI := Mt.way_in (E := Mt.endE m) (i := m - 1) (fun a h2 h3 => Mt.endE_one h1 a h2 h3) n 0 n (by omega) (Nat.zero_le _) (by omega)
  obtain ⟨WA, e, he, h5, h6, h7⟩ := Mt.way_al (E := Mt.endE m) (i := m - 1) (fun a h2 h3 => Mt.endE_one h1 a h2 h3) n 0 n (by omega) (Nat.zero_le _) (by omega) (Nat.dvd_zero _)
  have hem : e = m := by unfold Mt.endE at he; simpa using he
  subst hem
  unfold proofZ at hz
  rcases List.mem_append.1 hz with hz | hz
  · split at hz
    · cases hz
    · rw [List.mem_singleton.1 hz]
      exact ⟨h5, hm, h7⟩
  · obtain ⟨s, hs, rfl⟩ := List.mem_map.1 hz
    have h8 := WI.1 s hs
    exact ⟨h8.2.1, h8.2.2, WA s hs⟩
theorem pathZ_short {i n : Nat} (hi : i < n) (hn : n ≤ 1099511627776) : (pathZ i n).length ≤ 41 := by
  have WI := Mt.way_in (E := Mt.leafE) (i := i) (fun a h1 h2 => Mt.leafE_one a h1 h2) n 0 n (by omega) (Nat.zero_le _) hi
  unfold pathZ
  rw [List.length_map]
  have := Nat.le_trans WI.2.2.2 (lv_40 hn)
  omega
theorem proofZ_short {m n : Nat} (h1 : 1 ≤ m) (hm : m ≤ n) (hn : n ≤ 1099511627776) : (proofZ m n).length ≤ 41 := by
  have := sub_len41 (m := m) (a := 0) (b := n) h1 (Nat.zero_le _) (by omega) hn true
  rw [proofZ_nodes, List.length_map] at this
  exact this
/-- The nodes of a piece, as one, are its root. -/
theorem cov_fold {h : List (List UInt8)} {a b : Nat} (hb : b ≤ h.length) (hal : Mt.rf (b - a) ∣ a) : foldL ((Mt.cov a b).map (nodeAt h)) = rootL (Mt.piece h a b) := by
  have h1 := Mt.cov_root nodeL nilL h (b - a) a b rfl hal hb
  have h2 : (Mt.cov a b).map (nodeAt h) = Mt.nds nodeL nilL (Mt.piece h a b) := h1
  rw [h2]
  exact Mt.fold_nds nodeL nilL _ (Mt.piece h a b) rfl
theorem cov_inside {n a b : Nat} (hb : b ≤ n) (hn : n ≤ 60) (hal : Mt.rf (b - a) ∣ a) : ∀ p ∈ Mt.cov a b, inside n p := fun p hp => by
  have h1 := Mt.cov_in (b - a) a b rfl hal p hp
  have h2 : p.l ≤ 6 := by
    rcases Nat.lt_or_ge 6 p.l with h | h
    · have : 2 ^ 7 ≤ 2 ^ p.l := Nat.pow_le_pow_right (by decide) h
      have e : (2 : Nat) ^ 7 = 128 := by decide
      omega
    · exact h
  exact ⟨h2, by omega⟩
theorem nodeAt_len {h : List (List UInt8)} (h32 : ∀ e ∈ h, e.length ≤ 1099511627776) (p : Pos) : (nodeAt h p).length ≤ 1099511627776 := rootL_len (fun e he => h32 e (List.mem_of_mem_take (List.mem_of_mem_drop he)))
theorem leaves17_len (es : List ByteE) : (leaves17 es).length ≤ 60 := by unfold leaves17; rw [List.length_map, List.length_take]; omega
theorem leaves17_short (es : List ByteE) : ∀ e ∈ leaves17 es, e.length ≤ 1099511627776 := fun e he => by
  unfold leaves17 at he
  obtain ⟨x, _, rfl⟩ := List.mem_map.1 he
  rw [leafL_len]
  decide
/-- One row and one text of as many. -/
theorem z_at {h : List (List UInt8)} {xs : List PV} {Z : List (Nat × Nat)} {k : Nat} (hx : xs.map (·.ps) = Z.map fun z => Mt.cov z.1 z.2) (hk : k < Z.length) : ∃ x z, xs[k]? = some x ∧ z ∈ Z ∧ x.ps = Mt.cov z.1 z.2 ∧ (Z.map fun z => rootL (Mt.piece h z.1 z.2))[k]? = some (rootL (Mt.piece h z.1 z.2)) := by
  have hl : xs.length = Z.length := by have := congrArg List.length hx; simpa using this
  have e1 : xs[k]? = some xs[k] := List.getElem?_eq_getElem (by omega)
  have e2 : Z[k]? = some Z[k] := List.getElem?_eq_getElem hk
  refine ⟨xs[k], Z[k], e1, List.getElem_mem hk, ?_, by rw [List.getElem?_map, e2]; rfl⟩
  have := congrArg (fun l => l[k]?) hx
  simp only [List.getElem?_map, e1, e2, Option.map_some, Option.some.injEq] at this
  exact this
end Go.Proofs.YtdgfbbaddoghaaaDoor
