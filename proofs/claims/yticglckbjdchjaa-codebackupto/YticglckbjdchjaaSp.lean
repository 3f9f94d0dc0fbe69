/- What is taken, told by the case; append behind a guard; no walk. -/
import Derived.Test.YticglckbjdchjaaTj
namespace Go.Proofs.Yticglckbjdchjaa
open Go.RowKit

/-- append(v, x...), where a guard stands ahead of it, and says yes. -/
theorem wpList_append_src_if {P : Program} {w : World} {ops : Array Oper} {rest : List Oper} {o : Oper} {a : Act} {Q : Exit → Act → World → Prop} (hw : Region.wanted o (yielded ops a.tmps) = true) (s x : Operand) (t : TypeId)
    (ho : o.op = .call { callee := .builtin .append, args := #[s, x], argTypes := #[t, t] })
    (base : Nat) (i : TypeInfo) (z : Value) (ht : P.underlying t = some (.slice 5)) (hi : P.info? 5 = some i) (hz : i.zero = some z)
    (hsize : i.size = 1) (hby : i.bytes = 1) (hzs : z.cells.size = 1)
    (v : Value) (n : Nat) (k : List UInt8) (hs : a.eval s = v) (hown : w.ownsRow base 5 1 v n (bv k))
    (ao : Option Addr) (m c : Nat) (l : List UInt8) (hx : a.eval x = .slice ao m c) (hsrc : Src w ao m c l)
    (hbytes : n + m ≤ 140737488355328) (hbase : base ≤ w.heap.size)
    (h : ∀ v' w', w'.ownsRow base 5 1 v' (n + m) (bv (k ++ l)) → w.grownBy w' v.ownBlock → wpList P ops Q rest (a.put o.dst v') w') : wpList P ops Q (o :: rest) a w := by
  refine BigFrame.wpList_want hw fun K hK => ?_
  cases ao with
  | none =>
    obtain ⟨rfl, rfl⟩ := hsrc.nil rfl
    have hl : l = [] := List.length_eq_zero_iff.1 hsrc.len
    subst hl
    have hrun := run_append_owned_none (P := P) (w := w) base t o.type 5 i 1 ht hi v n (bv k) hown
    unfold Oper.wp
    simp [execOp, ho, resolve, invoke, builtin, hs, hx, hrun, Result.andThen]
    exact hK _ _ (h v w (by simpa using hown) (World.grownBy.refl _ _))
  | some ad =>
    obtain ⟨v', w', hrun, h1, h2, _⟩ := run_append_own (P := P) w base t o.type 5 i z 1 1 ht hi hz hsize hby hzs (by omega) v n (bv k) hown ad m c (bv l) (by rw [bv_length, hsrc.len]; omega) (hsrc.cells ad rfl) (bv_one l) (by unfold maxLen; omega) (by omega) hbase
    unfold Oper.wp
    simp [execOp, ho, resolve, invoke, builtin, hs, hx, hrun, Result.andThen]
    exact hK _ _ (h v' w' (by rw [bv_append]; exact h1) h2)
theorem takeNum_yes {ao : Option Addr} {m c : Nat} {l : List UInt8} {w : World} (hm : m ≤ 140737488355328) (hs : Src w ao m c l) {n : Nat} {r : List UInt8} (hn : takeNum l = some (n, r)) :
    Calls Try.prog 14 #[.slice ao m c] w fun e w' => ∃ a1 c1, e = .returned (.tuple #[.int .i64 (n : Int), .slice a1 r.length c1, .int .i64 0]) ∧ Src w' a1 r.length c1 r ∧ Below w.heap.size w w' :=
  (takeNum_any ao m c l w hm hs).mono fun e w' h => by
    rcases h with ⟨n', r', v, h1, rfl, hN⟩ | ⟨h1, _⟩
    · rw [hn] at h1
      cases h1
      obtain ⟨a1, c1, rfl, hs1, _⟩ := hN.src
      exact ⟨a1, c1, rfl, hs1, hN.2⟩
    · rw [hn] at h1; cases h1
theorem takeNum_no {ao : Option Addr} {m c : Nat} {l : List UInt8} {w : World} (hm : m ≤ 140737488355328) (hs : Src w ao m c l) (hn : takeNum l = none) :
    Calls Try.prog 14 #[.slice ao m c] w fun e w' => e = .returned (.tuple #[.int .i64 0, .slice none 0 0, .int .i64 2]) ∧ Below w.heap.size w w' :=
  (takeNum_any ao m c l w hm hs).mono fun e w' h => by
    rcases h with ⟨n', r', v, h1, _⟩ | ⟨_, rfl, hb⟩
    · rw [hn] at h1; cases h1
    · exact ⟨rfl, hb⟩
theorem takeFix_yes {ao : Option Addr} {m c : Nat} {l : List UInt8} {w : World} (hm : m ≤ 140737488355328) (hs : Src w ao m c l) {N x : Nat} {r : List UInt8} (h8 : 8 ≤ m) (hN : big (l.take 8) = N) (hb : N < 9223372036854775808) (hr : l.drop 8 = r) (hx : m - 8 = x) :
    Calls Try.prog 16 #[.slice ao m c] w fun e w' => ∃ a1 c1, e = .returned (.tuple #[.int .i64 (N : Int), .slice a1 x c1, .int .i64 0]) ∧ Src w' a1 x c1 r ∧ Below w.heap.size w w' :=
  (takeFix_any ao m c l w hm hs).mono fun e w' h => by
    subst hN
    subst hr
    subst hx
    rcases h with ⟨v, _, _, rfl, hN⟩ | ⟨h1, _⟩
    · obtain ⟨a1, c1, rfl, hs1, _⟩ := hN.src
      exact ⟨a1, c1, rfl, hs1, hN.2⟩
    · omega
theorem takeFix_no {ao : Option Addr} {m c : Nat} {l : List UInt8} {w : World} (hm : m ≤ 140737488355328) (hs : Src w ao m c l) (hn : ¬ (8 ≤ m ∧ big (l.take 8) < 9223372036854775808)) :
    Calls Try.prog 16 #[.slice ao m c] w fun e w' => e = .returned (.tuple #[.int .i64 0, .slice none 0 0, .int .i64 2]) ∧ Below w.heap.size w w' :=
  (takeFix_any ao m c l w hm hs).mono fun e w' h => by
    rcases h with ⟨v, h1, h2, _⟩ | ⟨_, rfl, hb⟩
    · exact absurd ⟨h1, h2⟩ hn
    · exact ⟨rfl, hb⟩
theorem takeFrame_yes {ao : Option Addr} {m c : Nat} {l : List UInt8} {most : Int} {w : World} (hm : m ≤ 140737488355328) (hs : Src w ao m c l) {B R : List UInt8} (hn : tfr l most = some (B, R)) :
    Calls Try.prog 24 #[.slice ao m c, .int .i64 most] w fun e w' => ∃ a1 c1 a2 c2, e = .returned (.tuple #[.slice a1 B.length c1, .slice a2 R.length c2, .int .i64 0]) ∧ Src w' a1 B.length c1 B ∧ Src w' a2 R.length c2 R ∧ Below w.heap.size w w' :=
  (takeFrame_any ao m c l most w hm hs).mono fun e w' h => by
    rcases h with ⟨B', R', a1, c1, a2, c2, h1, rfl, h2, h3, h4⟩ | ⟨h1, _⟩
    · rw [hn] at h1
      cases h1
      exact ⟨a1, c1, a2, c2, rfl, h2, h3, h4⟩
    · rw [hn] at h1; cases h1
theorem takeFrame_no {ao : Option Addr} {m c : Nat} {l : List UInt8} {most : Int} {w : World} (hm : m ≤ 140737488355328) (hs : Src w ao m c l) (hn : tfr l most = none) :
    Calls Try.prog 24 #[.slice ao m c, .int .i64 most] w fun e w' => e = .returned (.tuple #[.slice none 0 0, .slice none 0 0, .int .i64 2]) ∧ Below w.heap.size w w' :=
  (takeFrame_any ao m c l most w hm hs).mono fun e w' h => by
    rcases h with ⟨B', R', a1, c1, a2, c2, h1, _⟩ | ⟨_, rfl, hb⟩
    · rw [hn] at h1; cases h1
    · exact ⟨rfl, hb⟩
end Go.Proofs.Yticglckbjdchjaa
