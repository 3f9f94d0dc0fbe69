/- The walk of code.TakeText. -/
/- What is taken, as one answer: code.TakeNum; no walk. -/
/- Blocks over plain lists; no walk. -/
/- The walks of both sides' shared. -/
import Derived.Test.YtjblicgbdecbcaaGreatZT
import Derived.Test.YtjblicgbdecbcaaGreatZRpj
import Derived.Deep.RegionWith
import Derived.Test.YtjblicgbdecbcaaGreatZCpj
import Derived.Deep.QuietTactic
import Derived.BigQuiet
import Derived.WalkSmall
namespace Go.Proofs.YtjblicgbdecbcaaGreat
open Go.RowKit

/-- What text bytes begin with: none, or it and what stands behind it. -/
def txt (l : List UInt8) (most : Int) : Option (List UInt8 × List UInt8) :=
  match takeNum l with
  | none => none
  | some (n, r) => if (n : Int) ≤ most ∧ n ≤ r.length then some (r.take n, r.drop n) else none
theorem txt_none {l : List UInt8} {most : Int} (h : takeNum l = none) : txt l most = none := by simp [txt, h]
theorem txt_no {l : List UInt8} {most : Int} {n : Nat} {r : List UInt8} (h : takeNum l = some (n, r)) (h2 : ¬ ((n : Int) ≤ most ∧ n ≤ r.length)) : txt l most = none := by
  simp only [txt, h]; rw [if_neg h2]
theorem txt_yes {l : List UInt8} {most : Int} {n : Nat} {r : List UInt8} (h : takeNum l = some (n, r)) (h2 : (n : Int) ≤ most ∧ n ≤ r.length) : txt l most = some (r.take n, r.drop n) := by
  simp only [txt, h]; rw [if_pos h2]
/-- The answer of a call that takes a text. -/
def TookT (w : World) (t : Option (List UInt8 × List UInt8)) (e : Ending) (w' : World) : Prop :=
  (∃ S R ao c, t = some (S, R) ∧ e = .returned (.tuple #[.string ⟨S.toArray⟩, .slice ao R.length c, .int .i64 0]) ∧ Src w' ao R.length c R ∧ Below w.heap.size w w') ∨
  (t = none ∧ e = .returned (.tuple #[.string ⟨#[]⟩, .slice none 0 0, .int .i64 2]) ∧ Below w.heap.size w w')
theorem tookT_no {w w' : World} {t : Option (List UInt8 × List UInt8)} (h : t = none) (hb : Below w.heap.size w w') : TookT w t (.returned (.tuple #[.string ⟨#[]⟩, .slice none 0 0, .int .i64 2])) w' := .inr ⟨h, rfl, hb⟩
theorem tookT_yes {w w' : World} {t : Option (List UInt8 × List UInt8)} {S R : List UInt8} {ao : Option Addr} {c y : Nat} (h : t = some (S, R)) (hy : R.length = y) (h1 : Src w' ao y c R) (hb : Below w.heap.size w w') : TookT w t (.returned (.tuple #[.string ⟨S.toArray⟩, .slice ao y c, .int .i64 0])) w' := by
  subst hy
  exact .inl ⟨S, R, ao, c, h, rfl, h1, hb⟩

set_option maxHeartbeats 1000000 in
set_option maxRecDepth 100000 in
theorem takeText_none (ao : Option Addr) (m c : Nat) (l : List UInt8) (most : Int) (w : World) (hm : m ≤ 140737488355328) (hs : Src w ao m c l) (hn : takeNum l = none) :
    Calls Tryz.prog 73 #[.slice ao m c, .int .i64 most] w (TookT w (txt l most)) := by
  have KR := keep (readGroups_any ao m c l w hm hs)
  have HT := keep (txt_none (most := most) hn)
  have HN := keep hn
  clear hs hn
  go_enter Tryz.func73, Tryz.ntmps73
  go_wp2_with fail
  go_fit KR.out
  rintro e w1 (⟨n, r, hn, _, _⟩ | ⟨_, rfl, hb1⟩)
  · rw [HN.out] at hn; cases hn
  · have b1 := keep hb1
    clear hb1 KR
    go_wp2
    go_ret3
    exact tookT_no HT.out b1.out

set_option maxHeartbeats 1000000 in
set_option maxRecDepth 100000 in
theorem takeText_short (ao : Option Addr) (m c : Nat) (l : List UInt8) (most : Int) (w : World) (n : Nat) (r : List UInt8) (hm : m ≤ 140737488355328) (hs : Src w ao m c l) (hn : takeNum l = some (n, r)) (hno : ¬ ((n : Int) ≤ most ∧ n ≤ r.length)) :
    Calls Tryz.prog 73 #[.slice ao m c, .int .i64 most] w (TookT w (txt l most)) := by
  have KR := keep (readGroups_any ao m c l w hm hs)
  have HT := keep (txt_no (most := most) hn hno)
  have HN := keep hn
  obtain ⟨hn1, hn2⟩ := takeNum_some hn
  have e1 := congrArg List.length hn2
  rw [List.length_append, hs.len] at e1
  clear hs hn hn2
  obtain ⟨k, hk⟩ : ∃ k, m - r.length = k := ⟨_, rfl⟩
  have hrk : r.length = m - k := by omega
  have hkm : k ≤ m := by omega
  rw [hrk] at hno
  have HK := keep hk
  clear hk hrk e1
  go_enter Tryz.func73, Tryz.ntmps73
  go_wp2_with fail
  go_fit KR.out
  rintro e w1 (⟨n', r', hn, rfl, hb1⟩ | ⟨hn, _, _⟩)
  · rw [HN.out] at hn
    cases hn
    have b1 := keep hb1
    rw [HK.out]
    clear hb1 KR
    by_cases h1 : (n : Int) ≤ most
    · have h2 : (m : Int) - (k : Int) < (n : Int) := by omega
      go_wp2
      go_ret3
      exact tookT_no HT.out b1.out
    · have h2 : most < (n : Int) := by omega
      go_wp2
      go_ret3
      exact tookT_no HT.out b1.out
  · rw [HN.out] at hn; cases hn

/-- The parts of bytes that begin with a number n, as slices. -/
structure PartsT (b off m c n k : Nat) (l r : List UInt8) (w : World) : Prop where
  text : Src w (some ⟨b, off + k, none⟩) n (c - k) (r.take n)
  rest : Src w (some ⟨b, off + (k + n), none⟩) (m - (k + n)) (c - (k + n)) (r.drop n)
  text0 : k = c → Src w (some ⟨b, off, none⟩) n 0 (r.take n)
  rest0 : k + n = c → Src w (some ⟨b, off, none⟩) 0 0 (r.drop n)
theorem partsT {b off m c n k : Nat} {l r : List UInt8} {w : World} (hs : Src w (some ⟨b, off, none⟩) m c l) (hn : takeNum l = some (n, r)) (hk : m - r.length = k) (hkm : k + n ≤ m) : PartsT b off m c n k l r w := by
  obtain ⟨_, hn2⟩ := takeNum_some hn
  have e1 := congrArg List.length hn2
  rw [List.length_append, hs.len] at e1
  have hkn : k = (num n).length := by omega
  have hr : l.drop k = r := by rw [hkn, hn2, List.drop_left]
  have hcap := hs.cap
  refine ⟨?_, ?_, ?_, ?_⟩
  · have := (hs.tailS k (by omega)).head n (by omega)
    rwa [hr] at this
  · have := hs.tailS (k + n) (by omega)
    have e2 : l.drop (k + n) = r.drop n := by rw [← List.drop_drop, hr]
    rwa [e2] at this
  · intro h
    have h0 : n = 0 := by omega
    subst h0
    exact Src.none_of (by simp) (fun e => by cases e)
  · intro h
    exact Src.none_of (by rw [List.length_drop]; omega) (fun e => by cases e)
theorem PartsT.below {b off m c n k : Nat} {l r : List UInt8} {w w' : World} (h : PartsT b off m c n k l r w) (hb : Below w.heap.size w w') : PartsT b off m c n k l r w' :=
  ⟨h.text.below hb, h.rest.below hb, fun e => (h.text0 e).below hb, fun e => (h.rest0 e).below hb⟩

set_option maxHeartbeats 1000000 in
set_option maxRecDepth 100000 in
theorem takeText_gen (b off m c : Nat) (l : List UInt8) (most : Int) (w : World) (n k : Nat) (r : List UInt8) (hm : m ≤ 140737488355328) (hs : Src w (some ⟨b, off, none⟩) m c l) (hn : takeNum l = some (n, r)) (hk : m - r.length = k) (hkm : k + n ≤ m) (h1 : (n : Int) ≤ most) (hsc : k < c) (hec : k + n < c) :
    Calls Tryz.prog 73 #[.slice (some ⟨b, off, none⟩) m c, .int .i64 most] w (TookT w (txt l most)) := by
  have t1 : ((k : Int) + (n : Int)).toNat = k + n := by omega
  have t3 : k + n - k = n := by omega
  have KR := keep (readGroups_any (some ⟨b, off, none⟩) m c l w hm hs)
  have HP := keep (partsT hs hn hk hkm)
  have HN := keep hn
  have hcap := hs.cap
  clear hs hn
  have HK := keep hk
  clear hk
  have g1 : ¬ (most < (n : Int)) := by omega
  have g2 : ¬ ((m : Int) - (k : Int) < (n : Int)) := by omega
  have KB := keep (fun w' (hb : Below w.heap.size w w') => conv_src (HP.out.below hb).text)
  have KE := keep (fun w' (hb : Below w.heap.size w w') => clone_any (some ⟨b, off + (k + n), none⟩) (m - (k + n)) (c - (k + n)) (r.drop n) w' (by omega) (HP.out.below hb).rest)
  have HT := keep (txt_yes (most := most) HN.out ⟨h1, by have := HK.out; omega⟩)
  have h0 : (0 : Int) ≤ (k : Int) := by omega
  go_enter Tryz.func73, Tryz.ntmps73
  go_wp2_with fail
  go_fit KR.out
  rintro e w1 (⟨n', r', hn, rfl, hb1⟩ | ⟨hn, _, _⟩)
  · rw [HN.out] at hn
    cases hn
    have b1 := keep hb1
    rw [HK.out]
    clear hb1 KR
    have hcv := KB.out w1.drew b1.out.drew
    go_wp2_with fail
    go_region_with (go_at_call 52; go_fit (KE.out w1.drew b1.out.drew); rintro e w2 ⟨v2, rfl, hn2⟩; obtain ⟨a2, c2, rfl, hs2, _⟩ := hn2.src; have b2 := keep (b1.out.drew.trans (hn2.2.mono b1.out.drew.size)); have S2 := keep hs2; have hcv2 := KB.out w2 b2.out; clear hn2 hs2)
    all_goals go_wp2
    all_goals go_ret3
    all_goals exact tookT_yes HT.out S2.out.len S2.out b2.out
  · rw [HN.out] at hn; cases hn
end Go.Proofs.YtjblicgbdecbcaaGreat
namespace Go.Proofs.YtjblicgbdecbcaaGreat
open Go.RowKit

def nOf (l : List UInt8) : Nat := ((takeNum l).map (·.1)).getD 0
def rOf (l : List UInt8) : List UInt8 := ((takeNum l).map (·.2)).getD []
def eOf (l : List UInt8) : Int := if (takeNum l).isSome then 0 else 2
/-- The answer of a call that takes: a number, bytes, an error. -/
def Took (w : World) (N : Nat) (R : List UInt8) (E : Int) (e : Ending) (w' : World) : Prop :=
  ∃ ao c, e = .returned (.tuple #[.int .i64 (N : Int), .slice ao R.length c, .int .i64 E]) ∧ Src w' ao R.length c R ∧ Below w.heap.size w w'
theorem took_num {w w' : World} {l : List UInt8} {e : Ending} (h : (∃ n r v, takeNum l = some (n, r) ∧ e = .returned (.tuple #[.int .i64 (n : Int), v, .int .i64 0]) ∧ New w w' v r.length r) ∨ (takeNum l = none ∧ e = .returned (.tuple #[.int .i64 0, .slice none 0 0, .int .i64 2]) ∧ Below w.heap.size w w')) : Took w (nOf l) (rOf l) (eOf l) e w' := by
  rcases h with ⟨n, r, v, hn, rfl, hN⟩ | ⟨hn, rfl, hb⟩
  · have e1 : nOf l = n := by simp [nOf, hn]
    have e2 : rOf l = r := by simp [rOf, hn]
    have e3 : eOf l = 0 := by simp [eOf, hn]
    obtain ⟨ao, c, rfl, hs, _⟩ := hN.src
    rw [e1, e2, e3]
    exact ⟨ao, c, rfl, hs, hN.2⟩
  · have e1 : nOf l = 0 := by simp [nOf, hn]
    have e2 : rOf l = [] := by simp [rOf, hn]
    have e3 : eOf l = 2 := by simp [eOf, hn]
    rw [e1, e2, e3]
    exact ⟨none, 0, rfl, Src.empty (fun _ => rfl), hb⟩
theorem takeNum_uni (ao : Option Addr) (m c : Nat) (l : List UInt8) (w : World) (hm : m ≤ 140737488355328) (hs : Src w ao m c l) : Calls Tryz.prog 72 #[.slice ao m c] w (Took w (nOf l) (rOf l) (eOf l)) :=
  (takeNum_any ao m c l w hm hs).mono fun _ _ h => took_num h
theorem takeNum_nil : takeNum [] = none := take_short (by simp)
theorem eOf_nil : eOf [] = 2 := by simp [eOf, takeNum_nil]
end Go.Proofs.YtjblicgbdecbcaaGreat
namespace Go.Proofs.YtjblicgbdecbcaaGreat.Bq
open Go.Proofs.YtjblicgbdecbcaaGreat
open Go.Proofs.YtjblicgbdecbcaaGreat.Sk (Ent)

/-- How many bytes two keys begin with alike. -/
def share : List UInt8 → List UInt8 → Nat
  | a :: x, b :: y => if a = b then share x y + 1 else 0
  | [], _ => 0
  | _, [] => 0
theorem share_left : ∀ x y : List UInt8, share x y ≤ x.length
  | [], y => by cases y <;> simp [share]
  | a :: x, [] => by simp [share]
  | a :: x, b :: y => by
    have := share_left x y
    simp only [share, List.length_cons]
    split <;> omega
theorem share_comm : ∀ x y : List UInt8, share x y = share y x
  | [], [] => rfl
  | [], b :: y => by simp [share]
  | a :: x, [] => by simp [share]
  | a :: x, b :: y => by
    simp only [share]
    rw [share_comm x y]
    by_cases h : a = b
    · rw [if_pos h, if_pos h.symm]
    · rw [if_neg h, if_neg (fun e => h e.symm)]
theorem share_right (x y : List UInt8) : share x y ≤ y.length := by rw [share_comm]; exact share_left y x
theorem share_nil (x : List UInt8) : share x [] = 0 := by cases x <;> rfl
theorem share_take : ∀ x y : List UInt8, x.take (share x y) = y.take (share x y)
  | [], y => by cases y <;> simp [share]
  | a :: x, [] => by simp [share]
  | a :: x, b :: y => by
    have ih := share_take x y
    simp only [share]
    split
    · rename_i h
      subst h
      simp [ih]
    · rfl
theorem share_iff : ∀ (x y : List UInt8) (n : Nat), n ≤ share x y → (n < share x y ↔ n < x.length ∧ n < y.length ∧ fn x n = fn y n)
  | [], y, n, h => by cases y <;> simp [share]
  | a :: x, [], n, h => by simp [share]
  | a :: x, b :: y, n, h => by
    simp only [share] at h ⊢
    by_cases hab : a = b
    · rw [if_pos hab] at h ⊢
      cases n with
      | zero => simp [fn, hab]
      | succ n =>
        have ih := share_iff x y n (by omega)
        simp only [List.length_cons, Nat.add_lt_add_iff_right]
        rw [ih]
        simp [fn]
    · rw [if_neg hab] at h ⊢
      obtain rfl : n = 0 := by omega
      simp [fn, hab]
/-- The number that tells Seq and Gone. -/
def mark (e : Ent) : Nat := 2 * e.seq.toNat + (if e.gone then 1 else 0)
/-- An entry's bytes, behind one of that key. -/
def entB (ahead : List UInt8) (e : Ent) : List UInt8 :=
  num (share e.key ahead) ++ (num (e.key.drop (share e.key ahead)).length ++ (e.key.drop (share e.key ahead) ++ (num (mark e) ++ (num e.val.length ++ e.val))))
def rowB : List UInt8 → List Ent → List UInt8
  | _, [] => []
  | k, e :: l => entB k e ++ rowB e.key l
def lastK : List UInt8 → List Ent → List UInt8
  | k, [] => k
  | _, e :: l => lastK e.key l
theorem rowB_snoc : ∀ (l : List Ent) (k : List UInt8) (e : Ent), rowB k (l ++ [e]) = rowB k l ++ entB (lastK k l) e
  | [], k, e => by simp [rowB, lastK]
  | a :: l, k, e => by simp only [List.cons_append, rowB, lastK, rowB_snoc l, List.append_assoc]
theorem lastK_snoc : ∀ (l : List Ent) (k : List UInt8) (e : Ent), lastK k (l ++ [e]) = e.key
  | [], k, e => rfl
  | a :: l, k, e => by simp only [List.cons_append, lastK, lastK_snoc l]
def rawB (l : List Ent) : List UInt8 := num l.length ++ rowB [] l
def blk (l : List Ent) : List UInt8 := rawB l ++ be 4 (crc (rawB l)).toNat
/-- May the i-th entry be, and does the one ahead of it go ahead of it? -/
def okAt (l : List Ent) (i : Nat) : Bool :=
  match l[i]? with
  | none => true
  | some e => Sk.may e && (match i with
    | 0 => true
    | j + 1 => match l[j]? with
      | none => true
      | some a => Sk.aheadOf e.key e.seq a)
def ordB (l : List Ent) (k : Nat) : Bool := (List.range k).all (okAt l)
theorem ordB_zero (l : List Ent) : ordB l 0 = true := rfl
theorem ordB_succ (l : List Ent) (k : Nat) : ordB l (k + 1) = (ordB l k && okAt l k) := by simp [ordB, List.range_succ]
theorem ordB_no {l : List Ent} {k n : Nat} (h : okAt l k = false) (hk : k < n) : ordB l n = false := by
  cases hb : ordB l n with
  | false => rfl
  | true =>
    have := List.all_eq_true.1 hb k (List.mem_range.2 hk)
    rw [h] at this
    cases this
def okB (l : List Ent) : Bool := decide (1 ≤ l.length) && decide (l.length ≤ 8) && ordB l l.length
theorem okB_len {l : List Ent} (h : okB l = true) : 1 ≤ l.length ∧ l.length ≤ 8 := by
  simp only [okB, Bool.and_eq_true, decide_eq_true_eq] at h
  exact h.1
theorem okB_may {l : List Ent} (h : okB l = true) : ∀ e ∈ l, Sk.may e = true := fun e he => by
  simp only [okB, Bool.and_eq_true] at h
  obtain ⟨i, hi⟩ := List.getElem?_of_mem he
  have := List.all_eq_true.1 h.2 i (List.mem_range.2 (List.getElem?_eq_some_iff.1 hi).1)
  simp only [okAt, hi, Bool.and_eq_true] at this
  exact this.1
/-- What an entry that may be has for bounds. -/
theorem may_bounds {e : Ent} (h : Sk.may e = true) : 1 ≤ e.key.length ∧ e.key.length ≤ 64 ∧ 0 ≤ e.seq ∧ e.seq ≤ 1099511627776 ∧ e.val.length ≤ 1024 := by
  simp only [Sk.may, Bool.and_eq_true, decide_eq_true_eq] at h
  omega
theorem mark_le {e : Ent} (h : Sk.may e = true) : mark e ≤ 2199023255553 := by
  have := may_bounds h
  unfold mark
  split <;> omega
theorem num_len {n : Nat} (h : n ≤ 4611686018427387903) : (num n).length ≤ 9 := len_le 8 _ (by have e : (128 : Nat) ^ (8 + 1) = 9223372036854775808 := rfl; omega)
theorem entB_len {k : List UInt8} {e : Ent} (h : Sk.may e = true) : (entB k e).length ≤ 1124 := by
  have b := may_bounds h
  have m := mark_le h
  have s := share_left e.key k
  have n1 := num_len (n := share e.key k) (by omega)
  have n2 := num_len (n := (e.key.drop (share e.key k)).length) (by rw [List.length_drop]; omega)
  have n3 := num_len (n := mark e) (by omega)
  have n4 := num_len (n := e.val.length) (by omega)
  simp only [entB, List.length_append, List.length_drop] at n2 ⊢
  omega
theorem rowB_len : ∀ (l : List Ent) (k : List UInt8), (∀ e ∈ l, Sk.may e = true) → (rowB k l).length ≤ 1124 * l.length
  | [], k, _ => by simp [rowB]
  | e :: l, k, h => by
    have h1 := entB_len (k := k) (h e (List.mem_cons_self ..))
    have h2 := rowB_len l e.key (fun x hx => h x (List.mem_cons_of_mem _ hx))
    simp only [rowB, List.length_append, List.length_cons]
    omega
theorem rawB_len {l : List Ent} (h : okB l = true) : (rawB l).length ≤ 9001 := by
  have h1 := okB_len h
  have h2 := rowB_len l [] (okB_may h)
  have h3 := num_len (n := l.length) (by omega)
  simp only [rawB, List.length_append]
  omega

/-- What the reader takes: a text, and what is behind it; nothing where there is none. -/
def tS (b : List UInt8) (most : Int) : List UInt8 := ((txt b most).map (·.1)).getD []
def tR (b : List UInt8) (most : Int) : List UInt8 := ((txt b most).map (·.2)).getD []
theorem nOf_put {n : Nat} {r : List UInt8} (h : n < 4611686018427387904) : nOf (num n ++ r) = n ∧ rOf (num n ++ r) = r := by
  simp [nOf, rOf, takeNum_put h]
theorem txt_put8 {s r : List UInt8} {most : Int} (h : s.length < 4611686018427387904) (h2 : (s.length : Int) ≤ most) : txt (num s.length ++ (s ++ r)) most = some (s, r) := by
  rw [txt_yes (takeNum_put h) ⟨h2, by simp⟩]
  simp
theorem tS_put {s r : List UInt8} {most : Int} (h : s.length < 4611686018427387904) (h2 : (s.length : Int) ≤ most) : tS (num s.length ++ (s ++ r)) most = s ∧ tR (num s.length ++ (s ++ r)) most = r := by
  simp [tS, tR, txt_put8 h h2]
theorem tS_len (b : List UInt8) (most : Nat) : (tS b most).length ≤ most := by
  unfold tS
  cases h : txt b most with
  | none => simp
  | some x =>
    obtain ⟨s, r⟩ := x
    unfold txt at h
    split at h
    · cases h
    · split at h
      · rename_i n r' _ hc
        cases h
        simp only [Option.map_some, Option.getD_some, List.length_take]
        omega
      · cases h
theorem rOf_len (b : List UInt8) : (rOf b).length ≤ b.length := by
  unfold rOf
  cases h : takeNum b with
  | none => simp
  | some x =>
    obtain ⟨n, r⟩ := x
    have := congrArg List.length (takeNum_some h).2
    rw [List.length_append] at this
    simp only [Option.map_some, Option.getD_some]
    omega
theorem tR_len (b : List UInt8) (most : Int) : (tR b most).length ≤ b.length := by
  unfold tR
  cases h : txt b most with
  | none => simp
  | some x =>
    obtain ⟨s, r⟩ := x
    unfold txt at h
    split at h
    · cases h
    · rename_i n r' hn
      split at h
      · cases h
        have := congrArg List.length (takeNum_some hn).2
        rw [List.length_append] at this
        simp only [Option.map_some, Option.getD_some, List.length_drop]
        omega
      · cases h
theorem nOf_le (b : List UInt8) : nOf b < 4611686018427387904 := by
  unfold nOf
  cases h : takeNum b with
  | none => simp
  | some x => exact (takeNum_some (n := x.1) (r := x.2) (by rw [h])).1
/-- The entry that bytes tell behind one of that key, and what stands behind it. -/
def rdE (ahead rest : List UInt8) : Ent :=
  ⟨ahead.take (nOf rest) ++ tS (rOf rest) 64, ((nOf (tR (rOf rest) 64) / 2 : Nat) : Int), decide (nOf (tR (rOf rest) 64) % 2 = 1), tS (rOf (tR (rOf rest) 64)) 1024⟩
def rdR (rest : List UInt8) : List UInt8 := tR (rOf (tR (rOf rest) 64)) 1024
def rdL : Nat → List UInt8 → List UInt8 → List Ent
  | 0, _, _ => []
  | n + 1, ahead, rest => rdE ahead rest :: rdL n (rdE ahead rest).key (rdR rest)
/-- What the reader makes of bytes. -/
def rd (b : List UInt8) : List Ent := rdL (min (nOf b) 8) [] (rOf b)
theorem rd_ent {k : List UInt8} {e : Ent} {t : List UInt8} (h : Sk.may e = true) : rdE k (entB k e ++ t) = e ∧ rdR (entB k e ++ t) = t := by
  have b := may_bounds h
  have m := mark_le h
  have sl := share_left e.key k
  have f1 := nOf_put (n := share e.key k) (r := num (e.key.drop (share e.key k)).length ++ (e.key.drop (share e.key k) ++ (num (mark e) ++ (num e.val.length ++ (e.val ++ t))))) (by omega)
  have f2 := tS_put (s := e.key.drop (share e.key k)) (r := num (mark e) ++ (num e.val.length ++ (e.val ++ t))) (most := 64) (by rw [List.length_drop]; omega) (by rw [List.length_drop]; omega)
  have f3 := nOf_put (n := mark e) (r := num e.val.length ++ (e.val ++ t)) (by omega)
  have f4 := tS_put (s := e.val) (r := t) (most := 1024) (by omega) (by omega)
  have e0 : entB k e ++ t = num (share e.key k) ++ (num (e.key.drop (share e.key k)).length ++ (e.key.drop (share e.key k) ++ (num (mark e) ++ (num e.val.length ++ (e.val ++ t))))) := by
    simp only [entB, List.append_assoc]
  refine ⟨?_, ?_⟩
  · unfold rdE
    rw [e0, f1.1, f1.2, f2.1, f2.2, f3.1, f3.2, f4.1]
    obtain ⟨key, seq, gone, val⟩ := e
    simp only at *
    have h1 : k.take (share key k) ++ key.drop (share key k) = key := by rw [← share_take, List.take_append_drop]
    rw [h1]
    unfold mark
    simp only
    cases gone
    · have h2 : ((2 * seq.toNat + 0) / 2 : Nat) = seq.toNat := by omega
      have h3 : ((2 * seq.toNat + 0) % 2 : Nat) = 0 := by omega
      simp only [Bool.false_eq_true, if_false, h2, h3]
      congr 1
      omega
    · have h2 : ((2 * seq.toNat + 1) / 2 : Nat) = seq.toNat := by omega
      have h3 : ((2 * seq.toNat + 1) % 2 : Nat) = 1 := by omega
      simp only [if_true, h2, h3]
      congr 1
      omega
  · unfold rdR
    rw [e0, f1.2, f2.2, f3.2, f4.2]
theorem rd_row : ∀ (l : List Ent) (k t : List UInt8), (∀ e ∈ l, Sk.may e = true) → rdL l.length k (rowB k l ++ t) = l
  | [], k, t, _ => rfl
  | e :: l, k, t, h => by
    have h1 := rd_ent (k := k) (t := rowB e.key l ++ t) (h e (List.mem_cons_self ..))
    have h2 := rd_row l e.key t (fun x hx => h x (List.mem_cons_of_mem _ hx))
    simp only [rowB, List.length_cons, rdL, List.append_assoc]
    rw [h1.1, h1.2, h2]
theorem rd_blk {l : List Ent} (h : okB l = true) : rd (blk l) = l := by
  have hl := okB_len h
  have f1 := nOf_put (n := l.length) (r := rowB [] l ++ be 4 (crc (rawB l)).toNat) (by omega)
  have e0 : blk l = num l.length ++ (rowB [] l ++ be 4 (crc (rawB l)).toNat) := by simp only [blk, rawB, List.append_assoc]
  unfold rd
  rw [e0, f1.1, f1.2, Nat.min_eq_left hl.2]
  exact rd_row l [] _ (okB_may h)
/-- What entries bytes are; none, if they are no block. -/
def parse (b : List UInt8) : Option (List Ent) := if okB (rd b) = true ∧ blk (rd b) = b then some (rd b) else none
theorem parse_blk {l : List Ent} (h : okB l = true) : parse (blk l) = some l := by
  unfold parse
  rw [rd_blk h, if_pos ⟨h, rfl⟩]
theorem parse_some {b : List UInt8} {l : List Ent} (h : parse b = some l) : okB l = true ∧ blk l = b := by
  unfold parse at h
  split at h
  · rename_i hc
    cases h
    exact hc
  · cases h
theorem parse_none {b : List UInt8} (h : ∀ l, okB l = true → blk l ≠ b) : parse b = none := by
  cases hp : parse b with
  | none => rfl
  | some l => exact absurd (parse_some hp).2 (h l (parse_some hp).1)
end Go.Proofs.YtjblicgbdecbcaaGreat.Bq
namespace Go.Proofs.YtjblicgbdecbcaaGreat
open Go.RowKit
open Bq (share)

set_option maxHeartbeats 1000000 in
set_option maxRecDepth 100000 in
theorem shared_any (ao : Option Addr) (m c : Nat) (l : List UInt8) (ao2 : Option Addr) (m2 c2 : Nat) (l2 : List UInt8) (w : World) (hm : m ≤ 140737488355328) (hm2 : m2 ≤ 140737488355328) (hs : Src w ao m c l) (hs2 : Src w ao2 m2 c2 l2) :
    Calls Tryz.prog 80 #[.slice ao m c, .slice ao2 m2 c2] w fun e w' => e = .returned (.int .i64 (share l l2 : Int)) ∧ Below w.heap.size w w' := by
  have hl1 := hs.len
  have hl2 := hs2.len
  have HS := keep hs
  have HS2 := keep hs2
  clear hs hs2
  have SL := Bq.share_left l l2
  have SR := Bq.share_right l l2
  rw [hl1] at SL
  rw [hl2] at SR
  have SI := keep (Bq.share_iff l l2)
  obtain ⟨T, hT⟩ : ∃ T, share l l2 = T := ⟨_, rfl⟩
  rw [hT, hl1, hl2] at SI
  rw [hT] at SL SR ⊢
  clear hT hl1 hl2
  go_enter Tryz.func80, Tryz.ntmps80
  go_wp2
  go_loopw [5] (fun i wr => ∃ t : Nat, t ≤ T ∧ i = .int .i64 (t : Int) ∧ Hid (Below w.heap.size w wr)) (fun i _ => T - (intOf i).toNat)
  case atStart => exact ⟨0, Nat.zero_le _, rfl, Below.refl _ _⟩
  case round =>
    obtain ⟨t, ht, rfl, hb⟩ := hrel
    have si := SI.out t ht
    by_cases h : t < m ∧ t < m2
    · obtain ⟨h1, h2⟩ := h
      obtain ⟨b, off, rfl, hbw, hby⟩ := HS.out.form (by omega)
      obtain ⟨b2, off2, rfl, hbw2, hby2⟩ := HS2.out.form (by omega)
      have hcell : wr.cell? ⟨b, off + t, none⟩ = some (.int .u8 ((fn l t).toNat : Int)) := by
        rw [hb.out.cell (p := ⟨b, off + t, none⟩) hbw]; exact hby t h1
      have hcell2 : wr.cell? ⟨b2, off2 + t, none⟩ = some (.int .u8 ((fn l2 t).toNat : Int)) := by
        rw [hb.out.cell (p := ⟨b2, off2 + t, none⟩) hbw2]; exact hby2 t h2
      clear hby hby2
      have i0 : (0 : Int) ≤ (t : Int) := by omega
      have i1 : (t : Int) < (m : Int) := by omega
      have i2 : (t : Int) < (m2 : Int) := by omega
      have i3 : (t : Int) < (if m2 < m then (m2 : Int) else (m : Int)) := by split <;> omega
      obtain ⟨y, hy⟩ : ∃ y, fn l t = y := ⟨_, rfl⟩
      obtain ⟨z, hz⟩ : ∃ z, fn l2 t = z := ⟨_, rfl⟩
      rw [hy, hz] at si
      rw [hy] at hcell
      rw [hz] at hcell2
      clear hy hz
      by_cases hyz : y = z
      · subst hyz
        have hT : t < T := si.2 ⟨h1, h2, rfl⟩
        clear si
        go_wp2_with fail
        go_quiet (fail)
        go_wp2
        go_roundw
        case rel => exact ⟨t + 1, by omega, by go_num, below_drewN hb.out nq⟩
        case measure => simp [intOf]; omega
      · have hT : T = t := by
          have : ¬ t < T := fun h => hyz (si.1 h).2.2
          omega
        subst hT
        have hne : ¬ ((y.toNat : Int) = (z.toNat : Int)) := fun e => hyz (UInt8.toNat_inj.1 (by omega))
        clear si hyz
        go_wp2_with fail
        go_quiet (fail)
        all_goals go_wp2
        all_goals go_ret
        all_goals exact ⟨rfl, below_drewN hb.out _⟩
    · have hT : T = t := by
        have : ¬ t < T := fun h' => h ⟨(si.1 h').1, (si.1 h').2.1⟩
        omega
      subst hT
      clear si
      have i3 : ¬ (T : Int) < (if m2 < m then (m2 : Int) else (m : Int)) := by split <;> omega
      have d2 : decide ((T : Int) < (if m2 < m then (m2 : Int) else (m : Int))) = false := decide_eq_false i3
      by_cases h1 : T < m
      · have i1 : (T : Int) < (m : Int) := by omega
        have i2 : ¬ ((T : Int) < (m2 : Int)) := by omega
        have d1 : decide (T < m2) = false := decide_eq_false (by omega)
        go_wp2_with fail
        go_quiet (fail)
        all_goals go_wp2
        all_goals go_ret
        all_goals exact ⟨rfl, below_drewN hb.out _⟩
      · have i1 : ¬ ((T : Int) < (m : Int)) := by omega
        go_wp2_with fail
        go_quiet (fail)
        all_goals go_wp2
        all_goals go_ret
        all_goals exact ⟨rfl, below_drewN hb.out _⟩
end Go.Proofs.YtjblicgbdecbcaaGreat
