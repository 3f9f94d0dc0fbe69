/- The walk of TableTurned. -/
import Derived.Test.YtjblicgbdecbcaaZQm
namespace Go.Proofs.Ytjblicgbdecbcaa
open Go.RowKit
open Sk (Ent)

theorem and_mask (n : Int) (k : Nat) (hk : k < 4611686018427387904) : ∃ q : Nat, q ≤ k ∧ bits .and .i64 n (k : Int) = (q : Int) := by
  have hb : (BitVec.ofInt 64 (k : Int)).toNat = k := ofInt_u64 k (by omega)
  have h : ((BitVec.ofInt 64 n) &&& (BitVec.ofInt 64 (k : Int))).toNat ≤ k := by
    rw [BitVec.toNat_and, hb]
    exact Nat.and_le_right
  refine ⟨((BitVec.ofInt 64 n) &&& (BitVec.ofInt 64 (k : Int))).toNat, h, ?_⟩
  show IntKind.i64.wrap (((BitVec.ofInt 64 n) &&& (BitVec.ofInt 64 (k : Int))).toNat : Int) = _
  exact wrap_small _ (by omega) (by omega)
theorem xor_ne (a b : UInt8) (h : b ≠ 0) : a ^^^ b ≠ a := fun e => h (by
  have : a ^^^ (a ^^^ b) = a ^^^ a := by rw [e]
  simpa [← UInt8.xor_assoc] using this)
theorem tab_pos (l : List Ent) : 4 ≤ (Tq.tab l).length := by unfold Tq.tab; rw [List.length_append, be_length]; omega
theorem byte_of {n : Int} (h : (Lit.int .u8 n).wf = true) : ∃ y : UInt8, n = (y.toNat : Int) := by
  have h2 : 0 ≤ n ∧ n ≤ 255 := by simpa [Lit.wf, IntKind.min, IntKind.max, IntKind.signed, IntKind.bits] using h
  refine ⟨UInt8.ofNat n.toNat, ?_⟩
  rw [UInt8.toNat_ofNat']
  omega
/-- Parse of what is no table. -/
theorem tparse_bad {ao : Option Addr} {m c : Nat} {b : List UInt8} {w : World} (hm : m ≤ 140737488355328) (hs : Src w ao m c b) (h : Tq.tparse b = none) :
    Calls Try.prog 9 #[.slice ao m c] w fun e w' => e = .returned (.tuple #[.pointer none, .int .i64 2]) ∧ Below w.heap.size w w' := by
  refine (tparse_any ao m c b w hm hs).mono ?_
  intro e w' hP
  rcases hP.cases with ⟨L, _, _, hp, _⟩ | ⟨_, he, hb⟩
  · rw [h] at hp; cases hp
  · exact ⟨he, hb⟩
set_option maxHeartbeats 4000000 in
set_option maxRecDepth 100000 in
theorem turned_walk (ao : Option Addr) (n c : Nat) (es : List EV) (at_ by_ : Int) (w : World) (hby : (Lit.int .u8 by_).wf = true) (hsrc : RSrc entKind w ao n c es) (hMAY : ∀ y ∈ es, y.e.key.length ≤ 9223372036854775807 ∧ y.e.val.length ≤ 9223372036854775807) :
    Calls Try.prog 5 #[.slice ao n c, .int .i64 at_, .int .u8 by_] w fun e w' => e = .returned (.bool true) ∧ Below w.heap.size w w' := by
  obtain ⟨i0, hi, hz0, hz1, hz2⟩ := info_parts info5
  obtain ⟨y, rfl⟩ := byte_of hby
  have SRC := keep hsrc
  have MAY := keep hMAY
  have AW := keep (awake_any w)
  clear hsrc hMAY hby
  go_enter Try.func5, Try.ntmps5
  go_wp2_with fail
  refine AW.out.mono ?_
  rintro e w1 ⟨rfl, hb1⟩
  have B1 := keep hb1
  have BU := keep (tbuild_any ao n c es w1 (SRC.out.below entKind_ok hb1) MAY.out)
  clear hb1 AW
  go_wp2_with fail
  refine BU.out.mono ?_
  rintro e w2 (⟨hok, a2, k2, rfl, ho2, hb2⟩ | ⟨hok, rfl, hb2⟩)
  · have B2 := keep (B1.out.trans (hb2.mono B1.out.size))
    have D2 := keep hb2
    have OK := keep hok
    have hpos := tab_pos (es.map (·.e))
    obtain ⟨L, hL⟩ : ∃ L, es.map (·.e) = L := ⟨_, rfl⟩
    rw [hL] at OK ho2 hpos ⊢
    clear hL hok hb2 BU
    obtain ⟨g, cap, cur, e2, hgB, hg2, hcap, hmx, hsz, hcur⟩ : ∃ g cap cur, (Value.slice a2 (Tq.tab L).length k2) = .slice (some ⟨g, 0, none⟩) (Tq.tab L).length cap ∧ w1.heap.size ≤ g ∧ w2.heap[g]? = some (.cells cur 5 (0, 0)) ∧ (Tq.tab L).length ≤ cap ∧ cap ≤ maxLen ∧ True ∧ True := by
      rcases ho2.2 with ⟨_, h0⟩ | ⟨g, cap, cur, e, h1, h2, h3, h4, h5, h6⟩
      · omega
      · exact ⟨g, cap, cur, e, h1, h2, h3, h4, trivial, trivial⟩
    cases e2
    have O2 := keep ho2
    obtain ⟨_, _, e3, hs2, _⟩ := Src.of_own ho2
    cases e3
    have S2 := keep hs2
    clear ho2 hs2 hsz hcur
    obtain ⟨N, hN⟩ : ∃ N, (Tq.tab L).length = N := ⟨_, rfl⟩
    have HNN := keep hN
    have hN9 := Tq.tab_len OK.out
    rw [hN] at S2 O2 hpos hcap hN9 ⊢
    clear hN
    by_cases hy0 : y = 0
    · subst hy0
      have z1 : ((UInt8.toNat 0 : Nat) : Int) = 0 := rfl
      rw [z1]
      go_wp2
      go_ret
      exact ⟨rfl, B2.out⟩
    · have hyn : ((y.toNat : Int) == 0) = false := by
        simp only [beq_eq_false_iff_ne, ne_eq]
        intro h
        exact hy0 (UInt8.toNat_inj.1 (by simpa using h))
      have hNn : ((N : Int) == 0) = false := by simp; omega
      obtain ⟨q, hq, hqe⟩ := and_mask at_ 1048575 (by decide)
      have hqe' : bits .and .i64 at_ 1048575 = (q : Int) := hqe
      obtain ⟨k, hk⟩ : ∃ k, q % N = k := ⟨_, rfl⟩
      have hkN : k < N := by rw [← hk]; exact Nat.mod_lt _ (by omega)
      have hmod : (q : Int).tmod (N : Int) = (k : Int) := by rw [Int.tmod_eq_emod_of_nonneg (by omega), ← hk]; rfl
      have hmod2 : (q : Int) % (N : Int) = (k : Int) := by rw [← hk]; rfl
      have HY0 := keep hy0
      clear hqe hk hq hy0
      have P1 := keep (tparse_bad (by omega) (S2.out.head k (by omega)) (Tq.tparse_cut OK.out (by rw [HNN.out]; exact hkN)))
      have j0 : (0 : Int) ≤ (k : Int) := by omega
      have j1 : (k : Int) ≤ (N : Int) := by omega
      have j2 : (k : Int) ≤ (k2 : Int) := by omega
      have j3 : (k : Int) < (N : Int) := by omega
      have j4 : ¬ (N : Int) = 0 := by omega
      go_wp2_with fail
      refine P1.out.mono ?_
      rintro e w3 ⟨rfl, hb3⟩
      have B3 := keep (B2.out.trans (hb3.mono B2.out.size))
      have D3 := keep (D2.out.trans (hb3.mono D2.out.size))
      have S3 := keep (S2.out.below hb3)
      have O3 := keep (own_below O2.out hb3)
      clear hb3 P1
      go_wp2_with (first
        | (at_builtin; refine wpList_append_src rfl _ _ 24 rfl w3.heap.size i0 _ Try.underlying24 hi hz0 hz1 hz2 rfl _ N (Tq.tab L) rfl (by exact O4.out.alloc _) _ 1 1 [y] rfl (Src.built _ y) (by omega) (le_alloc b4.out.size _) ?_; intro v5 w5 ho5 hg5; have O5 := keep ho5; have b5 := keep ((b4.out.alloc b4.out.size _).grown hg5 (le_alloc b4.out.size _) (fun j hj => (O4.out.lt j hj).1)); clear ho5 hg5)
        | (at_builtin; refine wpList_append_src rfl _ _ 24 rfl w3.heap.size i0 _ Try.underlying24 hi hz0 hz1 hz2 rfl _ 0 [] rfl (own_emptyS (t := 5) (k := 1) (Nat.le_refl _)) _ N k2 (Tq.tab L) rfl (S3.out.below ((Below.refl _ _).alloc (Nat.le_refl _) _)) (by omega) (le_alloc (Nat.le_refl _) _) ?_; intro v4 w4 ho4 hg4; have O4 := keep ho4; simp only [Nat.zero_add, List.nil_append] at O4; have b4 := keep (((Below.refl w3.heap.size w3).alloc (Nat.le_refl _) _).grown hg4 (le_alloc (Nat.le_refl _) _) (fun j hj => (by cases hj; exact Nat.le_refl _))); clear ho4 hg4))
      obtain ⟨a5, k5, rfl, hs5, _⟩ := Src.of_own O5.out
      have P5 := keep (tparse_bad (by omega) hs5 (Tq.tparse_on OK.out y))
      clear hs5
      refine P5.out.mono ?_
      rintro e w6 ⟨rfl, hb6⟩
      have D6 := keep (b5.out.trans (hb6.mono b5.out.size))
      have B6 := keep (B3.out.trans (D6.out.mono B3.out.size))
      have E6 := keep (D3.out.trans (D6.out.mono D3.out.size))
      have O6 := keep (own_below O3.out D6.out)
      have S6 := keep (S3.out.below D6.out)
      have c6 : w6.cell? ⟨g, k, none⟩ = some (.int .u8 ((fn (Tq.tab L) k).toNat : Int)) := by
        have := S6.out.cells _ rfl k _ (bv_at _ k (by rw [HNN.out]; exact hkN))
        rwa [Addr.add_mid, Nat.zero_add] at this
      have f6 : w6.frozen? ⟨g, k, none⟩ = false := by
        obtain ⟨cur6, h6⟩ := own_tag O6.out (g := g) rfl
        simp [World.frozen?, h6]
      obtain ⟨x, hx⟩ : ∃ x, fn (Tq.tab L) k = x := ⟨_, rfl⟩
      rw [hx] at c6
      obtain ⟨z, hz⟩ : ∃ z, x ^^^ y = z := ⟨_, rfl⟩
      have hxor : bits .xor .u8 (x.toNat : Int) (y.toNat : Int) = (z.toNat : Int) := by rw [← hz]; exact u8_xor x y
      have hne : z ≠ fn (Tq.tab L) k := by rw [hx, ← hz]; exact xor_ne x y HY0.out
      have O7 := keep (own_turn O6.out (i := k) hkN z)
      obtain ⟨_, _, e7, hs7, _⟩ := Src.of_own O7.out
      cases e7
      have P7 := keep (tparse_bad (by omega) hs7 (Tq.tparse_turned (by rw [HNN.out]; exact hkN) hne))
      have B7 := keep (B6.out.setCell (p := ⟨g, k, none⟩) (Nat.le_trans B1.out.size hgB) (.int .u8 (z.toNat : Int)))
      clear hs7 hz hx hne hb6 P5
      go_wp2_with fail
      refine P7.out.mono ?_
      rintro e w8 ⟨rfl, hb8⟩
      have B8 := keep (B7.out.trans (hb8.mono B7.out.size))
      clear hb8
      go_wp2
      go_ret
      exact ⟨rfl, B8.out⟩
  · have B2 := keep (B1.out.trans (hb2.mono B1.out.size))
    clear hok hb2 BU
    go_wp2
    go_ret
    exact ⟨rfl, B2.out⟩
end Go.Proofs.Ytjblicgbdecbcaa
