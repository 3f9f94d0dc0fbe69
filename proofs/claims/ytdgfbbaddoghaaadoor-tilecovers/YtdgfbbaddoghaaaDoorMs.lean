/- Spans: the nodes of leaves, leaves pushed, nodes as one, over plain lists; no walk. -/
import Derived.Test.YtdgfbbaddoghaaaDoorMu
namespace Go.Proofs.YtdgfbbaddoghaaaDoor.Mt

/-- The highest one of a number. -/
def hb (n : Nat) : Nat := 2 ^ Nat.log2 n
theorem hb_pos (n : Nat) : 1 ≤ hb n := Nat.one_le_two_pow
theorem hb_le {n : Nat} (h : 1 ≤ n) : hb n ≤ n := Nat.log2_self_le (by omega)
theorem lt_hb (n : Nat) : n < 2 * hb n := by
  have := @Nat.lt_log2_self n
  rw [Nat.pow_succ] at this
  unfold hb
  omega
theorem hb_is {n h : Nat} (h1 : 2 ^ h ≤ n) (h2 : n < 2 ^ (h + 1)) : hb n = 2 ^ h := by
  have hn : n ≠ 0 := by have := @Nat.one_le_two_pow h; omega
  have h3 : Nat.log2 n < h + 1 := (Nat.log2_lt hn).2 h2
  have h4 : h ≤ Nat.log2 n := (Nat.le_log2 hn).2 h1
  unfold hb
  rw [show Nat.log2 n = h by omega]
theorem hb_pow (j : Nat) : hb (2 ^ j) = 2 ^ j := hb_is (Nat.le_refl _) (by rw [Nat.pow_succ]; have := @Nat.one_le_two_pow j; omega)
theorem cut_hb {n : Nat} (h1 : 1 ≤ n) (h : hb n ≠ n) : cut n = hb n := cut_is (j := Nat.log2 n) rfl (by have := hb_le h1; omega) (Nat.le_of_lt (lt_hb n))
/-- Ones in binary. -/
def onesF : Nat → Nat → Nat
  | 0, _ => 0
  | f + 1, n => if n = 0 then 0 else n % 2 + onesF f (n / 2)
theorem onesF_eq : ∀ (f g n : Nat), n ≤ f → n ≤ g → onesF f n = onesF g n
  | 0, 0, _, _, _ => rfl
  | 0, g + 1, n, hf, _ => by
    show _ = (if n = 0 then _ else _)
    rw [if_pos (by omega)]
    rfl
  | f + 1, 0, n, _, hg => by
    show (if n = 0 then _ else _) = _
    rw [if_pos (by omega)]
    rfl
  | f + 1, g + 1, n, hf, hg => by
    show (if n = 0 then _ else _) = (if n = 0 then _ else _)
    by_cases h : n = 0
    · rw [if_pos h, if_pos h]
    · rw [if_neg h, if_neg h, onesF_eq f g (n / 2) (by omega) (by omega)]
def ones (n : Nat) : Nat := onesF n n
theorem ones_zero : ones 0 = 0 := rfl
theorem ones_pos {n : Nat} (h : 1 ≤ n) : ones n = n % 2 + ones (n / 2) := by
  obtain ⟨f, rfl⟩ : ∃ f, n = f + 1 := ⟨n - 1, by omega⟩
  unfold ones
  rw [← onesF_eq f _ ((f + 1) / 2) (by omega) (Nat.le_refl _)]
  show (if f + 1 = 0 then _ else _) = _
  rw [if_neg (by omega)]
theorem ones_two (q b : Nat) (hb : b < 2) : ones (2 * q + b) = b + ones q := by
  by_cases h : 2 * q + b = 0
  · have h1 : q = 0 := by omega
    have h2 : b = 0 := by omega
    subst h1 h2
    rw [ones_zero]
  · rw [ones_pos (by omega), show (2 * q + b) % 2 = b by omega, show (2 * q + b) / 2 = q by omega]
theorem hb_half {n : Nat} (h : 2 ≤ n) : hb n = 2 * hb (n / 2) := by
  have h1 := hb_le (n := n / 2) (by omega)
  have h2 := lt_hb (n / 2)
  unfold hb at h1 h2 ⊢
  rw [show 2 * 2 ^ Nat.log2 (n / 2) = 2 ^ (Nat.log2 (n / 2) + 1) by rw [Nat.pow_succ]; omega]
  exact hb_is (by rw [Nat.pow_succ]; omega) (by rw [Nat.pow_succ, Nat.pow_succ]; omega)
theorem ones_hb : ∀ (n : Nat), 1 ≤ n → ones n = 1 + ones (n - hb n) := by
  intro n
  induction n using Nat.strongRecOn with
  | _ n ih =>
    intro h
    by_cases h1 : n = 1
    · subst h1
      have : hb 1 = 1 := hb_pow 0
      rw [this, Nat.sub_self, ones_zero, ones_pos (Nat.le_refl _), show (1 : Nat) / 2 = 0 by decide, ones_zero]
    · have h2 := ih (n / 2) (by omega) (by omega)
      have h3 := hb_le (n := n / 2) (by omega)
      rw [hb_half (by omega), ones_pos h, h2, show n - 2 * hb (n / 2) = 2 * (n / 2 - hb (n / 2)) + n % 2 by omega, ones_two _ _ (by omega)]
      omega

variable {α : Type} (nd : α → α → α) (z : α)
/-- The nodes of leaves: perfect trees, the highest first. -/
def ndsF : Nat → List α → List α
  | 0, _ => []
  | f + 1, l => if l.length = 0 then [] else root nd z (l.take (hb l.length)) :: ndsF f (l.drop (hb l.length))
theorem rest_lt {l : List α} {f : Nat} (hf : l.length ≤ f + 1) : (l.drop (hb l.length)).length ≤ f := by
  have := hb_pos l.length
  rw [List.length_drop]
  omega
theorem ndsF_eq : ∀ (f g : Nat) (l : List α), l.length ≤ f → l.length ≤ g → ndsF nd z f l = ndsF nd z g l
  | 0, 0, _, _, _ => rfl
  | 0, g + 1, l, hf, _ => by
    show _ = (if l.length = 0 then _ else _)
    rw [if_pos (by omega)]
    rfl
  | f + 1, 0, l, _, hg => by
    show (if l.length = 0 then _ else _) = _
    rw [if_pos (by omega)]
    rfl
  | f + 1, g + 1, l, hf, hg => by
    show (if l.length = 0 then _ else _) = (if l.length = 0 then _ else _)
    by_cases h : l.length = 0
    · rw [if_pos h, if_pos h]
    · rw [if_neg h, if_neg h, ndsF_eq f g _ (rest_lt hf) (rest_lt hg)]
def nds (l : List α) : List α := ndsF nd z l.length l
theorem nds_nil : nds nd z [] = [] := rfl
theorem nds_more {l : List α} (h : 1 ≤ l.length) : nds nd z l = root nd z (l.take (hb l.length)) :: nds nd z (l.drop (hb l.length)) := by
  obtain ⟨f, hf⟩ : ∃ f, l.length = f + 1 := ⟨l.length - 1, by omega⟩
  have h1 := rest_lt (l := l) (f := f) (by omega)
  have e : nds nd z l = ndsF nd z (f + 1) l := by unfold nds; rw [hf]
  rw [e]
  unfold nds
  rw [← ndsF_eq nd z f _ _ h1 (Nat.le_refl _)]
  show (if l.length = 0 then _ else _) = _
  rw [if_neg (by omega)]
theorem nds_perfect {l : List α} {j : Nat} (h : l.length = 2 ^ j) : nds nd z l = [root nd z l] := by
  have h1 : 1 ≤ l.length := by rw [h]; exact Nat.one_le_two_pow
  have h2 : l.take (hb l.length) = l := List.take_of_length_le (by rw [h, hb_pow]; exact Nat.le_refl _)
  have h3 : l.drop (hb l.length) = [] := List.drop_of_length_le (by rw [h, hb_pow]; exact Nat.le_refl _)
  rw [nds_more nd z h1, h2, h3, nds_nil]
theorem nds_len : ∀ (n : Nat) (l : List α), l.length = n → (nds nd z l).length = ones n := by
  intro n
  induction n using Nat.strongRecOn with
  | _ n ih =>
    intro l hl
    by_cases h : n = 0
    · subst h
      rw [List.length_eq_zero_iff.1 hl, nds_nil, ones_zero]
      rfl
    · have hp := hb_pos n
      rw [nds_more nd z (by omega), hl, List.length_cons, ih (n - hb n) (by omega) _ (by rw [List.length_drop]; omega), ones_hb n (by omega)]
      omega
/-- Nodes as one. -/
def fold : List α → α
  | [] => z
  | [a] => a
  | a :: b :: t => nd a (fold (b :: t))
theorem fold_more (a : α) {l : List α} (h : l ≠ []) : fold nd z (a :: l) = nd a (fold nd z l) := by
  cases l with
  | nil => exact absurd rfl h
  | cons b t => rfl
/-- The root of a span is that of its leaves. -/
theorem fold_nds : ∀ (n : Nat) (l : List α), l.length = n → fold nd z (nds nd z l) = root nd z l := by
  intro n
  induction n using Nat.strongRecOn with
  | _ n ih =>
    intro l hl
    by_cases h : n = 0
    · subst h
      rw [List.length_eq_zero_iff.1 hl, nds_nil, root_nil]
      rfl
    · have hp := hb_pos n
      have hle := hb_le (n := n) (by omega)
      by_cases hq : hb n = n
      · rw [nds_perfect nd z (j := Nat.log2 n) (by rw [hl]; exact hq.symm)]
        rfl
      · have h3 := ih (n - hb n) (by omega) (l.drop (hb n)) (by rw [List.length_drop]; omega)
        have h4 : nds nd z (l.drop (hb n)) ≠ [] := by rw [nds_more nd z (by rw [List.length_drop]; omega)]; exact List.cons_ne_nil _ _
        have h5 := cut_hb (n := n) (by omega) hq
        rw [nds_more nd z (by omega), hl, fold_more nd z _ h4, h3, root_two nd z (l := l) (by omega), hl, h5]
/-- Two perfect trees are one. -/
theorem root_pair {a b : List α} {j : Nat} (ha : a.length = 2 ^ j) (hb : b.length = 2 ^ j) : root nd z (a ++ b) = nd (root nd z a) (root nd z b) := by
  have hp := @Nat.one_le_two_pow j
  have hl : (a ++ b).length = 2 ^ (j + 1) := by rw [List.length_append, Nat.pow_succ]; omega
  have hc : cut (2 ^ (j + 1)) = a.length := by unfold cut; rw [lv_pow, Nat.add_sub_cancel, ha]
  rw [root_two nd z (l := a ++ b) (by rw [hl, Nat.pow_succ]; omega), hl, hc, List.take_left, List.drop_left]
/-- A perfect tree behind what its double divides is a node more. -/
theorem nds_snoc {j : Nat} : ∀ (n : Nat) (l t : List α), l.length = n → 2 ^ (j + 1) ∣ n → t.length = 2 ^ j → nds nd z (l ++ t) = nds nd z l ++ [root nd z t] := by
  intro n
  induction n using Nat.strongRecOn with
  | _ n ih =>
    intro l t hl hd ht
    by_cases h : n = 0
    · subst h
      rw [List.length_eq_zero_iff.1 hl, nds_nil, List.nil_append, List.nil_append, nds_perfect nd z ht]
    · have hp := hb_pos n
      have hle := hb_le (n := n) (by omega)
      have hlt := lt_hb n
      have hj := @Nat.one_le_two_pow j
      have hJ : 2 ^ (j + 1) = 2 * 2 ^ j := by rw [Nat.pow_succ]; omega
      have hjl : 2 ^ (j + 1) ≤ n := Nat.le_of_dvd (by omega) hd
      have hjh : j + 1 ≤ Nat.log2 n := (Nat.le_log2 (by omega)).2 hjl
      have hdh : 2 ^ (j + 1) ∣ hb n := Nat.pow_dvd_pow 2 hjh
      have hd2 : 2 ^ (j + 1) ∣ 2 * hb n - n := Nat.dvd_sub (Nat.dvd_trans hdh (Nat.dvd_mul_left _ _)) hd
      have hle2 : 2 ^ (j + 1) ≤ 2 * hb n - n := Nat.le_of_dvd (by omega) hd2
      have hH : hb (n + 2 ^ j) = hb n := by
        unfold hb at *
        exact hb_is (by omega) (by rw [Nat.pow_succ]; omega)
      have hlen : (l ++ t).length = n + 2 ^ j := by rw [List.length_append, hl, ht]
      rw [nds_more nd z (l := l ++ t) (by rw [hlen]; omega), hlen, hH, List.take_append_of_le_length (by omega), List.drop_append_of_le_length (by omega), ih (n - hb n) (by omega) (l.drop (hb n)) t (by rw [List.length_drop]; omega) (Nat.dvd_sub hd hdh) ht, nds_more nd z (l := l) (by omega), hl]
      rfl
/-- The last two nodes become one, as often as n ends in ones. -/
def pair2 (l : List α) : List α := match l.reverse with | b :: a :: r => (nd a b :: r).reverse | _ => l
def mrgF : Nat → Nat → List α → List α
  | 0, _, l => l
  | f + 1, n, l => if n % 2 = 1 then mrgF f (n / 2) (pair2 nd l) else l
theorem mrgF_eq : ∀ (f g n : Nat) (l : List α), n ≤ f → n ≤ g → mrgF nd f n l = mrgF nd g n l
  | 0, 0, _, _, _, _ => rfl
  | 0, g + 1, n, l, hf, _ => by
    show _ = (if n % 2 = 1 then _ else _)
    rw [if_neg (by omega)]
    rfl
  | f + 1, 0, n, l, _, hg => by
    show (if n % 2 = 1 then _ else _) = _
    rw [if_neg (by omega)]
    rfl
  | f + 1, g + 1, n, l, hf, hg => by
    show (if n % 2 = 1 then _ else _) = (if n % 2 = 1 then _ else _)
    by_cases h : n % 2 = 1
    · rw [if_pos h, if_pos h, mrgF_eq f g (n / 2) _ (by omega) (by omega)]
    · rw [if_neg h, if_neg h]
def mrg (n : Nat) (l : List α) : List α := mrgF nd n n l
theorem mrg_odd {n : Nat} (h : n % 2 = 1) (l : List α) (a b : α) : mrg nd n (l ++ [a] ++ [b]) = mrg nd (n / 2) (l ++ [nd a b]) := by
  obtain ⟨f, rfl⟩ : ∃ f, n = f + 1 := ⟨n - 1, by omega⟩
  have hp : pair2 nd (l ++ [a] ++ [b]) = l ++ [nd a b] := by unfold pair2; simp
  unfold mrg
  rw [← mrgF_eq nd f _ ((f + 1) / 2) _ (by omega) (Nat.le_refl _), ← hp]
  show (if (f + 1) % 2 = 1 then _ else _) = _
  rw [if_pos h]
theorem mrg_even {n : Nat} (h : ¬ n % 2 = 1) (l : List α) : mrg nd n l = l := by
  unfold mrg
  cases n with
  | zero => rfl
  | succ f =>
    show (if (f + 1) % 2 = 1 then _ else _) = _
    rw [if_neg h]
/-- A perfect tree pushed. -/
theorem mrg_nds : ∀ (q j : Nat) (l t : List α), l.length = q * 2 ^ j → t.length = 2 ^ j → mrg nd q (nds nd z l ++ [root nd z t]) = nds nd z (l ++ t) := by
  intro q
  induction q using Nat.strongRecOn with
  | _ q ih =>
    intro j l t hl ht
    have hJ : 2 ^ (j + 1) = 2 * 2 ^ j := by rw [Nat.pow_succ]; omega
    by_cases h : q % 2 = 1
    · have hq : q = 2 * (q / 2) + 1 := by omega
      have hlen : l.length = (q / 2) * 2 ^ (j + 1) + 2 ^ j := by
        rw [hl, hJ]
        conv => lhs; rw [hq]
        rw [Nat.add_mul, Nat.one_mul, Nat.mul_comm 2 (q / 2), Nat.mul_assoc]
      obtain ⟨l1, t1, rfl, h1, h2⟩ : ∃ l1 t1, l = l1 ++ t1 ∧ l1.length = (q / 2) * 2 ^ (j + 1) ∧ t1.length = 2 ^ j :=
        ⟨l.take ((q / 2) * 2 ^ (j + 1)), l.drop ((q / 2) * 2 ^ (j + 1)), (List.take_append_drop _ _).symm, by rw [List.length_take]; omega, by rw [List.length_drop]; omega⟩
      rw [nds_snoc nd z _ l1 t1 h1 (Nat.dvd_mul_left _ _) h2, mrg_odd nd h, ← root_pair nd z h2 ht, ih (q / 2) (by omega) (j + 1) l1 (t1 ++ t) h1 (by rw [List.length_append, h2, ht, hJ]; omega), List.append_assoc]
    · have hq : q = 2 * (q / 2) := by omega
      rw [mrg_even nd h, nds_snoc nd z _ l t rfl (by rw [hl, hJ]; conv => rhs; rw [hq]
                                                     rw [Nat.mul_comm 2 (q / 2), Nat.mul_assoc]; exact Nat.dvd_mul_left _ _) ht]
/-- A leaf pushed. -/
theorem push_nds (l : List α) (a : α) : mrg nd l.length (nds nd z l ++ [a]) = nds nd z (l ++ [a]) := by
  have := mrg_nds nd z l.length 0 l [a] (by simp) rfl
  rwa [root_one] at this
end Go.Proofs.YtdgfbbaddoghaaaDoor.Mt
