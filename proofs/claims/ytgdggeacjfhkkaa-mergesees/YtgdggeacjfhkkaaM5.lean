/- The walks of slices.IndexFunc over entries, and of Visible. -/
import Derived.Test.YtgdggeacjfhkkaaM3
import Derived.Test.YtgdggeacjfhkkaaM4
import Derived.Lib.SliceRun
import Derived.Laws.AppendOwnNone
namespace Go.Proofs.Ytgdggeacjfhkkaa
open Go.RowKit
open Sk (Ent)

/-- append(v, row...), the row empty or not, in a plain region. -/
theorem wpList_append_rowsM {P : Program} {w : World} {ops : Array Oper} {rest : List Oper} {o : Oper} {a : Act} {Q : Exit → Act → World → Prop} (hgd : o.guard = none) (s x : Operand) (t e : TypeId)
    (ho : o.op = .call { callee := .builtin .append, args := #[s, x], argTypes := #[t, t] })
    (base : Nat) (i : TypeInfo) (z : Value) (size bytes : Nat) (ht : P.underlying t = some (.slice e)) (hi : P.info? e = some i) (hz : i.zero = some z)
    (hsize : i.size = size) (hby : i.bytes = bytes) (hzs : z.cells.size = size) (hsz : 0 < size)
    (v : Value) (n : Nat) (xs : List Value) (hs : a.eval s = v) (hown : w.ownsRow base e size v n xs)
    (ao : Option Addr) (m c : Nat) (news : List Value) (hx : a.eval x = .slice ao m c) (hnil : ao = none → m = 0 ∧ c = 0) (hl : news.length = m * size) (hnews : ∀ ad, ao = some ad → ∀ j u, news[j]? = some u → w.cell? (ad.add j) = some u) (h1 : ∀ u ∈ news, u.oneCell' = true)
    (h63 : n + m ≤ maxLen) (hbytes : (n + m) * bytes ≤ 140737488355328) (hbase : base ≤ w.heap.size)
    (h : ∀ v' w', w'.ownsRow base e size v' (n + m) (xs ++ news) → w.grownBy w' v.ownBlock → wpList P ops Q rest (a.put o.dst v') w') : wpList P ops Q (o :: rest) a w := by
  refine wpList_step fun K' hK => ?_
  have hw : Region.wanted o (yielded ops a.tmps) = true := by simp [Region.wanted, hgd]
  rw [if_pos hw]
  cases ao with
  | some ad =>
    obtain ⟨v', w', hr, h2, h3, _⟩ := run_append_own (P := P) w base t o.type e i z size bytes ht hi hz hsize hby hzs hsz v n xs hown ad m c news hl (hnews ad rfl) h1 h63 hbytes hbase
    unfold Oper.wp
    simp [execOp, ho, resolve, invoke, builtin, hs, hx, hr, Result.andThen]
    exact hK _ _ (h v' w' h2 h3)
  | none =>
    obtain ⟨rfl, rfl⟩ := hnil rfl
    obtain rfl : news = [] := List.length_eq_zero_iff.1 (by rw [hl, Nat.zero_mul])
    have hrun := run_append_owned_none (P := P) (w := w) base t o.type e i size ht hi v n xs hown
    unfold Oper.wp
    simp [execOp, ho, resolve, invoke, builtin, hs, hx, hrun, Result.andThen]
    exact hK _ _ (h v w (by rw [List.append_nil]; exact hown) (World.grownBy.refl _ _))
/-- What a function answers of an entry, wherever only new blocks were laid behind w0. -/
def Tells (F : Nat) (lb : Array Value) (p : Ent → Bool) (w0 : World) : Prop := ∀ (x : EV) (w' : World), entKind.held w' x → Below w0.heap.size w0 w' → Calls Try.prog F (#[ev x] ++ lb) w' fun e w'' => e = .returned (.bool (p x.e)) ∧ Below w'.heap.size w' w''
set_option maxHeartbeats 1000000 in
set_option maxRecDepth 100000 in
theorem vclos_any (q : Nat) (s : Int) (w : World) (hq : w.cell? ⟨q, 0, none⟩ = some (.int .i64 s)) : Tells 30 #[.pointer (some ⟨q, 0, none⟩)] (fun e => decide (e.seq ≤ s)) w := by
  intro x w' _ hb
  obtain ⟨xkp, xkc, xvp, xvc, xkey, xseq, xgone, xval⟩ := x
  have hq' := below_cell hb hq
  unfold ev
  simp only [List.append_toArray, List.cons_append, List.nil_append]
  have hal := keep ((Below.refl w'.heap.size w').alloc (Nat.le_refl _) (.cells #[.slice xkp xkey.length xkc, .int .i64 xseq, .bool xgone, .slice xvp xval.length xvc] 36))
  have q1 := below_cell hal.out hq'
  clear hb hq hq'
  go_enter Try.func30, Try.ntmps30
  go_wp2
  go_ret
  exact ⟨rfl, hal.out⟩
set_option maxHeartbeats 2000000 in
set_option maxRecDepth 100000 in
theorem index_any (q : Nat) (p : Ent → Bool) (w0 : World) (hT : Tells 30 #[.pointer (some ⟨q, 0, none⟩)] p w0) (ao : Option Addr) (n c : Nat) (es : List EV) (w : World) (hsrc : RSrc entKind w ao n c es) (hn : n ≤ 1000000) (h0 : Below w0.heap.size w0 w) :
    Calls Try.prog 29 #[.slice ao n c, .func (.func 30) #[] #[.pointer (some ⟨q, 0, none⟩)]] w fun e w' =>
      ((e = .returned (.int .i64 (-1)) ∧ ∀ y ∈ es, p y.e = false) ∨ ∃ k : Nat, e = .returned (.int .i64 (k : Int)) ∧ k < n ∧ (∀ y, es[k]? = some y → p y.e = true) ∧ ∀ j y, j < k → es[j]? = some y → p y.e = false) ∧ Below w.heap.size w w' := by
  have SRC := keep hsrc
  have HL : Hid (es.length = n) := hsrc.len
  have HT := keep hT
  have H0 := keep h0
  clear hsrc hT h0
  go_enter Try.func29, Try.ntmps29
  go_wp2
  go_loopw [8] (fun i wr => ∃ k : Nat, k ≤ n ∧ i = .int .i64 (k : Int) ∧ Hid (Below w.heap.size w wr ∧ ∀ j y, j < k → es[j]? = some y → p y.e = false)) (fun i _ => n - (intOf i).toNat)
  case atStart => exact ⟨0, Nat.zero_le _, rfl, Below.refl _ _, fun j y hj => by omega⟩
  case round =>
    obtain ⟨k, hk, rfl, hI⟩ := hrel
    have HB := keep hI.out.1
    by_cases hkn : k < n
    · obtain ⟨b, off, rfl, _, _⟩ := SRC.out.form entKind_ok (by omega)
      obtain ⟨y, hy⟩ : ∃ y, es[k]? = some y := ⟨es[k]'(by rw [HL.out]; exact hkn), List.getElem?_eq_getElem _⟩
      obtain ⟨p0, p1, p2, p3⟩ := ent_cells (SRC.out.below entKind_ok HB.out) hy
      have TT := keep (HT.out y wr ((SRC.out.below entKind_ok HB.out).held y (List.mem_of_getElem? hy)) (H0.out.trans (HB.out.mono H0.out.size)))
      have HY := keep hy
      obtain ⟨r, hr⟩ : ∃ r, p y.e = r := ⟨_, rfl⟩
      have HR := keep hr
      rw [hr] at TT
      clear hy hr
      obtain ⟨ykp, ykc, yvp, yvc, ⟨ykey, yseq, ygone, yval⟩⟩ := y
      unfold ev at TT
      simp only [List.append_toArray, List.cons_append, List.nil_append] at p0 p1 p2 p3 TT
      have ll : (k : Int) < (n : Int) := by omega
      have l0 : (0 : Int) ≤ (k : Int) := by omega
      cases r with
      | true =>
        go_wp2_with fail
        refine TT.out.mono ?_
        rintro e w2 ⟨rfl, hb2⟩
        have B2 := keep (HB.out.trans (hb2.mono HB.out.size))
        clear hb2
        go_wp2
        go_ret
        exact ⟨.inr ⟨k, rfl, hkn, fun y h => by rw [HY.out] at h; cases h; exact HR.out, hI.out.2⟩, B2.out⟩
      | false =>
        go_wp2_with fail
        refine TT.out.mono ?_
        rintro e w2 ⟨rfl, hb2⟩
        have B2 := keep (HB.out.trans (hb2.mono HB.out.size))
        clear hb2
        go_wp2
        go_roundw
        case rel => exact ⟨k + 1, by omega, by go_num, B2.out, fun j y hj h => by
          rcases Nat.lt_or_ge j k with hlt | hge
          · exact hI.out.2 j y hlt h
          · obtain rfl : j = k := by omega
            rw [HY.out] at h
            cases h
            exact HR.out⟩
        case measure => simp [intOf]; omega
    · obtain rfl : k = n := by omega
      go_wp2
      go_ret
      exact ⟨.inl ⟨rfl, fun y hy => by
        obtain ⟨j, hj⟩ := List.getElem?_of_mem hy
        have := (List.getElem?_eq_some_iff.1 hj).1
        rw [HL.out] at this
        exact hI.out.2 j y this hj⟩, HB.out⟩
theorem find_none' {l : List EV} {p : Ent → Bool} (h : ∀ y ∈ l, p y.e = false) : (l.map (·.e)).find? p = none := by
  rw [List.find?_eq_none]
  intro x hx
  obtain ⟨y, hy, rfl⟩ := List.mem_map.1 hx
  rw [h y hy]
  decide
theorem find_some' {l : List EV} {p : Ent → Bool} {k : Nat} {y : EV} (hk : l[k]? = some y) (hp : p y.e = true) (hn : ∀ j z, j < k → l[j]? = some z → p z.e = false) : (l.map (·.e)).find? p = some y.e := by
  rw [List.find?_eq_some_iff_getElem]
  obtain ⟨hlt, hy⟩ := List.getElem?_eq_some_iff.1 hk
  refine ⟨hp, k, by simpa using hlt, by simp [hy], fun j hj => ?_⟩
  simp only [List.getElem_map]
  rw [hn j l[j] hj (List.getElem?_eq_getElem (by omega))]
  rfl
/-- The entries of rows. -/
def lents (ls : List LV) : List (List Ent) := ls.map fun y => y.es.map (·.e)
/-- Rows' entries, told of each by f, one behind the other. -/
structure FlatI (w : World) (f : List Ent → List Ent) (ls : List LV) (k : Nat) (ys : List EV) (v : Value) (wr : World) : Prop where
  row : Ents w.heap.size wr v ys
  val : ys.map (·.e) = ((lents (ls.take k)).map f).flatten
  below : Below w.heap.size w wr
theorem flat_more {f : List Ent → List Ent} {ls : List LV} {k : Nat} {y : LV} (h : ls[k]? = some y) : ((lents (ls.take (k + 1))).map f).flatten = ((lents (ls.take k)).map f).flatten ++ f (y.es.map (·.e)) := by
  rw [List.take_add_one, h]
  simp [lents]
theorem Ents.grow {B : Nat} {w w' : World} {v v' : Value} {ys zs : List EV} (h : Ents B w v ys) (hy : ∀ z ∈ zs, OwnE B w z) (ho : w'.ownsRow B 36 4 v' (ys.length + zs.length) (rv entKind (ys ++ zs))) (hg : w.grownBy w' v.ownBlock) : Ents B w' v' (ys ++ zs) :=
  ⟨by rw [List.length_append]; exact ho, fun z hz => by
    rcases List.mem_append.1 hz with hz | hz
    · exact (h.each z hz).grown h.row hg
    · exact (hy z hz).grown h.row hg⟩
theorem Ents.src {B : Nat} {w : World} {v : Value} {ys : List EV} (h : Ents B w v ys) : ∃ ao c, v = .slice ao ys.length c ∧ RSrc entKind w ao ys.length c ys ∧ c ≤ maxLen := RSrc.own entKind_ok h.row (fun y hy => (h.each y hy).held)
theorem Ents.base {B B' : Nat} {w : World} {v : Value} {ys : List EV} (h : Ents B w v ys) (hb : B' ≤ B) : Ents B' w v ys := ⟨own_base h.row (fun g hg => Nat.le_trans hb (h.row.lt g hg).1), fun y hy => (h.each y hy).base hb⟩
end Go.Proofs.Ytgdggeacjfhkkaa
