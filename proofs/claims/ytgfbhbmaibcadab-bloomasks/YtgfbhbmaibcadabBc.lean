/- The walk of the document's places. -/
import Derived.Test.YtgfbhbmaibcadabB2
import Derived.Test.YtgfbhbmaibcadabRc
namespace Go.Proofs.Ytgfbhbmaibcadab
open Go.RowKit
attribute [local go_sem] U_or1 U_add

theorem own_empty' {w : World} {B t : Nat} (h : B ≤ w.heap.size) : (w.alloc (.cells #[] t)).ownsRow B t 1 (.slice (some ⟨w.heap.size, 0, none⟩) 0 0) 0 [] :=
  ⟨rfl, .inr ⟨_, _, _, rfl, h, heap_alloc_new w _, Nat.le_refl _, Nat.zero_le _, rfl, rfl⟩⟩
theorem info3 : (Try.prog.info? 3).map (fun i => (i.zero, i.size, i.bytes)) = some (some (.int .i64 0), 1, 8) := by kernel_rfl
def iv (l : List Nat) : List Value := l.map fun (n : Nat) => Value.int .i64 (n : Int)
theorem iv_append (a b : List Nat) : iv (a ++ b) = iv a ++ iv b := by simp [iv]
def placesOf (key : List UInt8) (b n : Nat) : List Nat := (List.range n).map (Bl.place key b)
theorem placesOf_succ (key : List UInt8) (b n : Nat) : placesOf key b (n + 1) = placesOf key b n ++ [Bl.place key b n] := by simp [placesOf, List.range_succ]
theorem U_mulk (k : Nat) (s : UInt32) : IntKind.u32.wrap ((k : Int) % 4294967296 * U s) = U (UInt32.ofNat k * s) := by
  rw [IntKind.wrap_u32']
  unfold U
  rw [UInt32.toNat_mul, UInt32.toNat_ofNat']
  have e : (k : Int) % 4294967296 * (s.toNat : Int) = ((k % 4294967296 * s.toNat : Nat) : Int) := by
    rw [Int.natCast_mul]; rfl
  rw [e]
  rfl
theorem place_walked (key : List UInt8) (b k : Nat) : (U (crc key) + (k : Int) * U (crc (key ++ [1]) ||| 1)) % 4294967296 % (b : Int) = (Bl.place key b k : Int) := by
  unfold Bl.place Bl.sumAt Bl.odd U
  rw [UInt32.toNat_add, UInt32.toNat_mul, UInt32.toNat_ofNat']
  have e : ((crc key).toNat : Int) + (k : Int) * ((crc (key ++ [1]) ||| 1).toNat : Int) = (((crc key).toNat + k * (crc (key ++ [1]) ||| 1).toNat : Nat) : Int) := by
    rw [Int.natCast_add, Int.natCast_mul]
  rw [e]
  have e2 : ((crc key).toNat + k % 2 ^ 32 * (crc (key ++ [1]) ||| 1).toNat % 2 ^ 32) % 2 ^ 32 = ((crc key).toNat + k * (crc (key ++ [1]) ||| 1).toNat) % 4294967296 := by
    rw [Nat.add_mod, Nat.mod_mod, Nat.mul_mod, Nat.mod_mod, ← Nat.mul_mod, ← Nat.add_mod]
  rw [e2]
  rfl
/-- append(v, x), v nil or the call's own row of numbers, x laid as a row of its own. -/
theorem wpList_append_int {P : Program} {w : World} {ops : Array Oper} {rest : List Oper} {o : Oper} {a : Act} {Q : Exit → Act → World → Prop} (hgd : o.guard = none) (s x : Operand) (t : TypeId)
    (ho : o.op = .call { callee := .builtin .append, args := #[s, x], argTypes := #[t, t] })
    (base : Nat) (i : TypeInfo) (ht : P.underlying t = some (.slice 3)) (hi : P.info? 3 = some i) (hz : i.zero = some (.int .i64 0)) (hsize : i.size = 1) (hby : i.bytes = 8)
    (v : Value) (n : Nat) (xs : List Value) (hs : a.eval s = v) (hown : w.ownsRow base 3 1 v n xs) (g : Nat) (X : Int) (hx : a.eval x = .slice (some ⟨g, 0, none⟩) 1 1) (hc : w.cell? ⟨g, 0, none⟩ = some (.int .i64 X)) (hn : n ≤ 1048576) (hbase : base ≤ w.heap.size)
    (h : ∀ v' w', w'.ownsRow base 3 1 v' (n + 1) (xs ++ [.int .i64 X]) → w.grownBy w' v.ownBlock → wpList P ops Q rest (a.put o.dst v') w') : wpList P ops Q (o :: rest) a w := by
  refine wpList_append_own w hgd s x t ho base 3 i (.int .i64 0) 1 8 ht hi hz hsize hby rfl (by omega) v n xs hs hown ⟨g, 0, none⟩ 1 1 [.int .i64 X] hx rfl (fun j u hu => ?_) (fun u hu => ?_) (by unfold maxLen; omega) (by omega) hbase (fun v' w' h1 h2 _ => h v' w' h1 h2)
  · have hj : j = 0 := by
      have := (List.getElem?_eq_some_iff.1 hu).1
      simp at this
      exact this
    subst hj
    rw [Addr.add_mid, hc]
    simpa using hu
  · rw [List.mem_singleton.1 hu]; rfl
set_option maxHeartbeats 2000000 in
set_option maxRecDepth 100000 in
theorem rplaces_any (ao : Option Addr) (m c : Nat) (key : List UInt8) (b : Nat) (w : World) (hb0 : 0 < b) (hb1 : b ≤ 1125899906842624) (hm : m + 1 ≤ 140737488355328) (hs : Src w ao m c key) :
    Calls Try.prog 29 #[.slice ao m c, .int .i64 (b : Int)] w fun e w' => ∃ v, e = .returned v ∧ w'.ownsRow w.heap.size 3 1 v 6 (iv (placesOf key b 6)) ∧ Below w.heap.size w w' := by
  obtain ⟨i0, hi, hz0, hz1, hz2⟩ := info_parts info5
  obtain ⟨j0, ji, jz0, jz1, jz2⟩ := info_parts info3
  have HS := keep hs
  clear hs
  have hbP : (0 : Int) < (b : Int) := by omega
  have hbU : (b : Int) ≤ 1125899906842624 := by omega
  go_enter Try.func29, Try.ntmps29
  go_wp2_with fail
  refine (rcrc_any ao m c key w (by omega) HS.out).mono ?_
  rintro e w1 ⟨rfl, hb⟩
  have B1 := keep hb
  clear hb
  go_wp2_with (first
    | (at_builtin; refine wpList_append_src rfl _ _ 28 rfl w1.heap.size i0 _ Try.underlying28 hi hz0 hz1 hz2 rfl _ m key rfl (O2.out.alloc _) _ 1 1 [1] rfl (Src.built _ 1) (by omega) (le_alloc B2.out.size _) ?_; intro v3 w3 ho3 hg3; have O3 := keep ho3; have B3 := keep ((B2.out.alloc B2.out.size _).grown hg3 (le_alloc B2.out.size _) (fun j hj => (O2.out.lt j hj).1)); clear ho3 hg3)
    | (at_builtin; refine wpList_append_src rfl _ _ 28 rfl w1.heap.size i0 _ Try.underlying28 hi hz0 hz1 hz2 rfl _ 0 [] rfl (own_empty' (Nat.le_refl _)) _ m c key rfl (HS.out.below (B1.out.trans (((Below.refl _ _).alloc (Nat.le_refl _) _).mono B1.out.size))) (by omega) (by simp) ?_; intro v2 w2 ho2 hg2; have O2 := keep ho2; have B2 := keep (((Below.refl _ w1).alloc (Nat.le_refl _) _).grown hg2 (by simp) (fun j hj => by cases hj; exact Nat.le_refl _)); rw [Nat.zero_add, List.nil_append] at O2; clear ho2 hg2)
    | (go_at_call 48; fail))
  obtain ⟨a3, c3, e3, S3, _⟩ := Src.of_own O3.out
  subst e3
  refine (rcrc_any a3 (m + 1) c3 (key ++ [1]) w3 hm S3).mono ?_
  rintro e w4 ⟨rfl, hb⟩
  have B4 := keep (B1.out.trans ((B3.out.trans (hb.mono B3.out.size)).mono B1.out.size))
  clear hb S3 O3 B3 O2 B2
  go_wp2
  go_loopw [7, 8] (fun v i wr => ∃ k : Nat, k ≤ 6 ∧ i = .int .i64 (k : Int) ∧ Hid (wr.ownsRow w.heap.size 3 1 v k (iv (placesOf key b k))) ∧ Hid (Below w.heap.size w wr)) (fun _ i _ => 6 - (intOf i).toNat)
  case atStart => exact ⟨0, Nat.zero_le _, rfl, World.ownsRow_nil _ _ _ _, B4⟩
  case round =>
    clear B4
    obtain ⟨k, hk, rfl, hO, hB⟩ := hrel
    by_cases hlt : k < 6
    · have hl1 : (k : Int) < 6 := by omega
      have HP := keep (place_walked key b k)
      have HL := keep (placesOf_succ key b k)
      go_wp2_with (at_builtin; refine wpList_append_int rfl _ _ 45 rfl w.heap.size j0 Try.underlying45 ji jz0 jz1 jz2 _ k _ rfl (hO.out.alloc _) _ _ rfl (cell_of_row _ _ _ _ _ _ (heap_alloc_new wr _)) (by omega) (le_alloc hB.out.size _) ?_; intro v2 w2 ho2 hg2; have O2 := keep ho2; have B2 := keep ((hB.out.alloc hB.out.size _).grown hg2 (le_alloc hB.out.size _) (fun j hj => (hO.out.lt j hj).1)); clear ho2 hg2)
      go_roundw
      case rel => exact ⟨k + 1, by omega, by go_num, by rw [HL.out, iv_append]; rw [HP.out] at O2; exact O2, B2⟩
      case measure => simp [intOf]; omega
    · obtain rfl : k = 6 := by omega
      go_wp2
      go_ret
      exact ⟨_, rfl, hO.out, hB.out⟩
end Go.Proofs.Ytgfbhbmaibcadab
