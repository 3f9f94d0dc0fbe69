/- Lists of lists within a law's bounds; append of rows behind a guard; Same of what is merged; no law. -/
import Derived.Test.YtgdggeacjfhkkaaAw
import Derived.Test.YtgdggeacjfhkkaaVj
namespace Go.Proofs.Ytgdggeacjfhkkaa
open Go.RowKit
open Sk (Ent)

/-- append(v, row...), the row empty or not, behind a guard that says yes. -/
theorem wpList_append_rows_if {P : Program} {w : World} {ops : Array Oper} {rest : List Oper} {o : Oper} {a : Act} {Q : Exit → Act → World → Prop} (hw : Region.wanted o (yielded ops a.tmps) = true) (s x : Operand) (t e : TypeId)
    (ho : o.op = .call { callee := .builtin .append, args := #[s, x], argTypes := #[t, t] })
    (base : Nat) (i : TypeInfo) (z : Value) (size bytes : Nat) (ht : P.underlying t = some (.slice e)) (hi : P.info? e = some i) (hz : i.zero = some z)
    (hsize : i.size = size) (hby : i.bytes = bytes) (hzs : z.cells.size = size) (hsz : 0 < size)
    (v : Value) (n : Nat) (xs : List Value) (hs : a.eval s = v) (hown : w.ownsRow base e size v n xs)
    (ao : Option Addr) (m c : Nat) (news : List Value) (hx : a.eval x = .slice ao m c) (hnil : ao = none → m = 0 ∧ c = 0) (hl : news.length = m * size) (hnews : ∀ ad, ao = some ad → ∀ j u, news[j]? = some u → w.cell? (ad.add j) = some u) (h1 : ∀ u ∈ news, u.oneCell' = true)
    (h63 : n + m ≤ maxLen) (hbytes : (n + m) * bytes ≤ 140737488355328) (hbase : base ≤ w.heap.size)
    (h : ∀ v' w', w'.ownsRow base e size v' (n + m) (xs ++ news) → w.grownBy w' v.ownBlock → wpList P ops Q rest (a.put o.dst v') w') : wpList P ops Q (o :: rest) a w := by
  refine wpList_step fun K' hK => ?_
  rw [if_pos hw]
  cases ao with
  | some ad =>
    obtain ⟨v', w', hr, h2, h3, _⟩ := run_append_own (P := P) w base t o.type e i z size bytes ht hi hz hsize hby hzs hsz v n xs hown ad m c news hl (hnews ad rfl) h1 h63 hbytes hbase
    unfold Oper.wp
    simp [execOp, ho, resolve, invoke, builtin, hs, hx, hr, Result.andThen]
    exact hK _ _ (h v' w' h2 h3)
  | none =>
    obtain ⟨rfl, rfl⟩ := hnil rfl
    obtain rfl : news = [] := List.length_eq_zero_iff.1 (by rw [hl, Nat.zero_mul])
    have hrun := run_append_owned_none (P := P) (w := w) base t o.type e i size ht hi v n xs hown
    unfold Oper.wp
    simp [execOp, ho, resolve, invoke, builtin, hs, hx, hrun, Result.andThen]
    exact hK _ _ (h v w (by rw [List.append_nil]; exact hown) (World.grownBy.refl _ _))
/-- A row of rows, built. -/
theorem RSrc.builtL {w : World} {ls : List LV} (hh : ∀ l ∈ ls, listKind.held w l) : RSrc listKind (w.alloc (.cells (rv listKind ls).toArray 24)) (some ⟨w.heap.size, 0, none⟩) ls.length ls.length ls :=
  ⟨rfl, Nat.le_refl _, (fun e => by cases e), fun ad had j u hu => by
    cases had
    rw [Addr.add_mid, Nat.zero_add, cell_of_row _ _ _ _ _ _ (heap_alloc_new w _)]
    simpa using hu, fun l hl => listKind_ok.below (hh l hl) ((Below.refl _ _).alloc (Nat.le_refl _) _)⟩
theorem own_built {w : World} {B : Nat} {xs : List Value} {t : TypeId} {n : Nat} (hB : B ≤ w.heap.size) (hn : n ≤ maxLen) (hx : xs.length = n) : (w.alloc (.cells xs.toArray t)).ownsRow B t 1 (.slice (some ⟨w.heap.size, 0, none⟩) n n) n xs :=
  ⟨by rw [hx, Nat.mul_one], .inr ⟨_, _, _, rfl, hB, heap_alloc_new w _, Nat.le_refl _, hn, by simp [hx], by rw [Nat.mul_one, ← hx]; simp⟩⟩
/-- How many entries the first k lists have, and lists. -/
def bulk (ls : List LV) (k : Nat) : Nat := ((ls.take k).map (·.es)).flatten.length + k
theorem bulk_next {ls : List LV} {k : Nat} {y : LV} (h : ls[k]? = some y) : bulk ls (k + 1) = bulk ls k + y.es.length + 1 := by
  unfold bulk
  rw [flat_next h, List.length_append]
  omega
end Go.Proofs.Ytgdggeacjfhkkaa
