/- The walks of slices.Clone, IndexFunc and DeleteFunc over notes, of without and its closure. -/
import Derived.Test.YtbahldabcieiaaaHb
import Derived.Lib.SliceRun
import Derived.Laws.AppendOwnNone
namespace Go.Proofs.Ytbahldabcieiaaa
open Go.RowKit
open Ed (Nt)

/-- append(v, row...), the row empty or not, in a plain region. -/
theorem wpList_append_rowsM {P : Program} {w : World} {ops : Array Oper} {rest : List Oper} {o : Oper} {a : Act} {Q : Exit → Act → World → Prop} (hgd : o.guard = none) (s x : Operand) (t e : TypeId)
    (ho : o.op = .call { callee := .builtin .append, args := #[s, x], argTypes := #[t, t] })
    (base : Nat) (i : TypeInfo) (z : Value) (size bytes : Nat) (ht : P.underlying t = some (.slice e)) (hi : P.info? e = some i) (hz : i.zero = some z)
    (hsize : i.size = size) (hby : i.bytes = bytes) (hzs : z.cells.size = size) (hsz : 0 < size)
    (v : Value) (n : Nat) (xs : List Value) (hs : a.eval s = v) (hown : w.ownsRow base e size v n xs)
    (ao : Option Addr) (m c : Nat) (news : List Value) (hx : a.eval x = .slice ao m c) (hnil : ao = none → m = 0 ∧ c = 0) (hl : news.length = m * size) (hnews : ∀ ad, ao = some ad → ∀ j u, news[j]? = some u → w.cell? (ad.add j) = some u) (h1 : ∀ u ∈ news, u.oneCell' = true)
    (h63 : n + m ≤ maxLen) (hbytes : (n + m) * bytes ≤ 140737488355328) (hbase : base ≤ w.heap.size)
    (h : ∀ v' w', w'.ownsRow base e size v' (n + m) (xs ++ news) → w.grownBy w' v.ownBlock → wpList P ops Q rest (a.put o.dst v') w') : wpList P ops Q (o :: rest) a w := by
  refine wpList_step fun K' hK => ?_
  have hw : Region.wanted o (yielded ops a.tmps) = true := by simp [Region.wanted, hgd]
  rw [if_pos hw]
  cases ao with
  | some ad =>
    obtain ⟨v', w', hr, h2, h3, _⟩ := run_append_own (P := P) w base t o.type e i z size bytes ht hi hz hsize hby hzs hsz v n xs hown ad m c news hl (hnews ad rfl) h1 h63 hbytes hbase
    unfold Oper.wp
    simp [execOp, ho, resolve, invoke, builtin, hs, hx, hr, Result.andThen]
    exact hK _ _ (h v' w' h2 h3)
  | none =>
    obtain ⟨rfl, rfl⟩ := hnil rfl
    obtain rfl : news = [] := List.length_eq_zero_iff.1 (by rw [hl, Nat.zero_mul])
    have hrun := run_append_owned_none (P := P) (w := w) base t o.type e i size ht hi v n xs hown
    unfold Oper.wp
    simp [execOp, ho, resolve, invoke, builtin, hs, hx, hrun, Result.andThen]
    exact hK _ _ (h v w (by rw [List.append_nil]; exact hown) (World.grownBy.refl _ _))
theorem own_emptyM {w : World} {B t k : Nat} (h : B ≤ w.heap.size) : (w.alloc (.cells #[] t)).ownsRow B t k (.slice (some ⟨w.heap.size, 0, none⟩) 0 0) 0 [] :=
  ⟨by simp, .inr ⟨_, _, _, rfl, h, heap_alloc_new w _, Nat.le_refl _, Nat.zero_le _, by simp, by simp⟩⟩
set_option maxHeartbeats 2000000 in
set_option maxRecDepth 100000 in
theorem mclone_any (ao : Option Addr) (n c : Nat) (es : List MV) (w : World) (hsrc : RSrc metaKind w ao n c es) (hn : n ≤ 1000000) :
    Calls Try.prog 42 #[.slice ao n c] w fun e w' => ∃ v, e = .returned v ∧ w'.ownsRow w.heap.size 52 5 v n (rv metaKind es) ∧ Below w.heap.size w w' := by
  obtain ⟨i0, hi0, hz0, hz1, hz2⟩ := info_partsM infoMeta
  have SRC := keep hsrc
  clear hsrc
  cases ao with
  | none =>
    obtain ⟨rfl, rfl⟩ := SRC.out.nil rfl
    have hes : es = [] := List.length_eq_zero_iff.1 SRC.out.len
    subst hes
    have heq := fun w => Lib.run_eql_slice_nil (P := Try.prog) w 28 52 none 0 0 0 0 Try.underlying28
    go_enter Try.func42, Try.ntmps42
    go_wp2
    go_ret
    exact ⟨_, rfl, World.ownsRow_nil _ _ _ _, Below.refl _ _⟩
  | some ad =>
    have heq := fun w => Lib.run_eql_slice_nil (P := Try.prog) w 28 52 (some ad) n c 0 0 Try.underlying28
    obtain ⟨W1, hW1⟩ : ∃ W1, w.alloc (.cells #[] 52) = W1 := ⟨_, rfl⟩
    have b1 : Hid (Below w.heap.size w W1) := by rw [← hW1]; exact (Below.refl _ _).alloc (Nat.le_refl _) _
    have o1 : Hid (W1.ownsRow w.heap.size 52 5 (.slice (some ⟨w.heap.size, 0, none⟩) 0 0) 0 []) := by rw [← hW1]; exact own_emptyM (Nat.le_refl _)
    have S1 := keep (SRC.out.below metaKind_ok b1.out)
    go_enter Try.func42, Try.ntmps42
    go_wp2_with (at_builtin; refine wpList_append_rowsM rfl _ _ 28 52 rfl w.heap.size i0 _ 5 72 Try.underlying28 hi0 hz0 hz1 hz2 rfl (by decide) _ 0 [] rfl o1.out _ n c (rv metaKind es) rfl (fun h => by cases h) (by rw [rv_length metaKind_ok, S1.out.len]; rfl) S1.out.cells (rv_one metaKind_ok es) (by unfold maxLen; omega) (by omega) b1.out.size ?_; intro v2 w2 ho2 hg2; have O2 := keep ho2; have B2 := keep (b1.out.grown hg2 b1.out.size (fun j hj => (o1.out.lt j hj).1)); clear ho2 hg2)
    go_ret
    refine ⟨_, rfl, ?_, B2.out⟩
    have := O2.out
    rwa [Nat.zero_add, List.nil_append] at this
/-- What a function answers of a note, wherever only new blocks were laid behind w0. -/
def Tells (F : Nat) (lb : Array Value) (p : Nt → Bool) (w0 : World) : Prop := ∀ (x : MV) (w' : World), metaKind.held w' x → Below w0.heap.size w0 w' → Calls Try.prog F (#[mv x] ++ lb) w' fun e w'' => e = .returned (.bool (p x.m)) ∧ Below w'.heap.size w' w''
set_option maxHeartbeats 2000000 in
set_option maxRecDepth 100000 in
theorem mindex_any (q : Nat) (p : Nt → Bool) (w0 : World) (hT : Tells 43 #[.pointer (some ⟨q, 0, none⟩)] p w0) (ao : Option Addr) (n c : Nat) (es : List MV) (w : World) (hsrc : RSrc metaKind w ao n c es) (hn : n ≤ 1000000) (h0 : Below w0.heap.size w0 w) :
    Calls Try.prog 65 #[.slice ao n c, .func (.func 43) #[] #[.pointer (some ⟨q, 0, none⟩)]] w fun e w' =>
      ((e = .returned (.int .i64 (-1)) ∧ ∀ y ∈ es, p y.m = false) ∨ ∃ k : Nat, e = .returned (.int .i64 (k : Int)) ∧ k < n ∧ (∀ y, es[k]? = some y → p y.m = true) ∧ ∀ j y, j < k → es[j]? = some y → p y.m = false) ∧ Below w.heap.size w w' := by
  have SRC := keep hsrc
  have HL : Hid (es.length = n) := hsrc.len
  have HT := keep hT
  have H0 := keep h0
  clear hsrc hT h0
  go_enter Try.func65, Try.ntmps65
  go_wp2
  go_loopw [8] (fun i wr => ∃ k : Nat, k ≤ n ∧ i = .int .i64 (k : Int) ∧ Hid (Below w.heap.size w wr ∧ ∀ j y, j < k → es[j]? = some y → p y.m = false)) (fun i _ => n - (intOf i).toNat)
  case atStart => exact ⟨0, Nat.zero_le _, rfl, Below.refl _ _, fun j y hj => by omega⟩
  case round =>
    obtain ⟨k, hk, rfl, hI⟩ := hrel
    have HB := keep hI.out.1
    by_cases hkn : k < n
    · obtain ⟨b, off, rfl, _, _⟩ := SRC.out.form metaKind_ok (by omega)
      obtain ⟨y, hy⟩ : ∃ y, es[k]? = some y := ⟨es[k]'(by rw [HL.out]; exact hkn), List.getElem?_eq_getElem _⟩
      obtain ⟨p0, p1, p2, p3, p4⟩ := meta_cells (SRC.out.below metaKind_ok HB.out) hy
      have TT := keep (HT.out y wr ((SRC.out.below metaKind_ok HB.out).held y (List.mem_of_getElem? hy)) (H0.out.trans (HB.out.mono H0.out.size)))
      have HY := keep hy
      obtain ⟨r, hr⟩ : ∃ r, p y.m = r := ⟨_, rfl⟩
      have HR := keep hr
      rw [hr] at TT
      clear hy hr
      obtain ⟨yfp, yfc, ylp, ylc, ⟨ynum, ylevel, ycount, yfirst, ylast⟩⟩ := y
      unfold mv at TT
      simp only [List.append_toArray, List.cons_append, List.nil_append] at p0 p1 p2 p3 p4 TT
      have ll : (k : Int) < (n : Int) := by omega
      have l0 : (0 : Int) ≤ (k : Int) := by omega
      cases r with
      | true =>
        go_wp2_with fail
        refine TT.out.mono ?_
        rintro e w2 ⟨rfl, hb2⟩
        have B2 := keep (HB.out.trans (hb2.mono HB.out.size))
        clear hb2
        go_wp2
        go_ret
        exact ⟨.inr ⟨k, rfl, hkn, fun y h => by rw [HY.out] at h; cases h; exact HR.out, hI.out.2⟩, B2.out⟩
      | false =>
        go_wp2_with fail
        refine TT.out.mono ?_
        rintro e w2 ⟨rfl, hb2⟩
        have B2 := keep (HB.out.trans (hb2.mono HB.out.size))
        clear hb2
        go_wp2
        go_roundw
        case rel => exact ⟨k + 1, by omega, by go_num, B2.out, fun j y hj h => by
          rcases Nat.lt_or_ge j k with hlt | hge
          · exact hI.out.2 j y hlt h
          · obtain rfl : j = k := by omega
            rw [HY.out] at h
            cases h
            exact HR.out⟩
        case measure => simp [intOf]; omega
    · obtain rfl : k = n := by omega
      go_wp2
      go_ret
      exact ⟨.inl ⟨rfl, fun y hy => by
        obtain ⟨j, hj⟩ := List.getElem?_of_mem hy
        have := (List.getElem?_eq_some_iff.1 hj).1
        rw [HL.out] at this
        exact hI.out.2 j y this hj⟩, HB.out⟩
end Go.Proofs.Ytbahldabcieiaaa
