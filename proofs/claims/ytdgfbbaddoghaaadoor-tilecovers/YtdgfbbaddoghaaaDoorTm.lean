/- Nodes of perfect trees: those that a leaf makes whole, those that stand for leaves; no walk. -/
import Derived.Test.YtdgfbbaddoghaaaDoorMw
import Derived.Test.YtdgfbbaddoghaaaDoorMs
namespace Go.Proofs.YtdgfbbaddoghaaaDoor.Mt

/-- A perfect tree: how high it is, and which of these. -/
structure Pos where
  l : Nat
  x : Nat
/-- The least power of two that is not less. -/
def rf (n : Nat) : Nat := 2 ^ lv n
theorem rf_pos (n : Nat) : 1 ≤ rf n := Nat.one_le_two_pow
theorem rf_half {n : Nat} (h : 2 ≤ n) : rf n / 2 = cut n := by
  have := lv_pos h
  unfold rf cut
  rw [show lv n = lv n - 1 + 1 by omega, Nat.pow_succ, Nat.add_sub_cancel]
  omega
theorem rf_le {n j : Nat} (h : n ≤ 2 ^ j) : rf n ≤ 2 ^ j := Nat.pow_le_pow_right (by decide) (lv_le h)
theorem le_rf (n : Nat) : n ≤ rf n := le_lv n
theorem hb_rf {n : Nat} (h : 1 ≤ n) : hb n ∣ rf n := by
  refine Nat.pow_dvd_pow 2 ?_
  have h1 := hb_le h
  have h2 := le_lv n
  unfold hb at h1
  exact (Nat.pow_le_pow_iff_right (by decide)).1 (Nat.le_trans h1 h2)
theorem rf_dvd {a b : Nat} (h : a ≤ b) : rf a ∣ rf b := Nat.pow_dvd_pow 2 (lv_mono h)
theorem rf_rest {n : Nat} : rf (n - hb n) ∣ hb n := by
  have := lt_hb n
  exact Nat.pow_dvd_pow 2 (lv_le (j := Nat.log2 n) (by unfold hb at *; omega))
/-- The nodes that stand for n leaves from a on, the greatest first. -/
def covF : Nat → Nat → Nat → List Pos
  | 0, _, _ => []
  | f + 1, a, n => if n = 0 then [] else ⟨Nat.log2 n, a / hb n⟩ :: covF f (a + hb n) (n - hb n)
theorem covF_eq : ∀ (f g a n : Nat), n ≤ f → n ≤ g → covF f a n = covF g a n
  | 0, 0, _, _, _, _ => rfl
  | 0, g + 1, a, n, hf, _ => by
    show _ = (if n = 0 then _ else _)
    rw [if_pos (by omega)]
    rfl
  | f + 1, 0, a, n, _, hg => by
    show (if n = 0 then _ else _) = _
    rw [if_pos (by omega)]
    rfl
  | f + 1, g + 1, a, n, hf, hg => by
    show (if n = 0 then _ else _) = (if n = 0 then _ else _)
    have := hb_pos n
    by_cases h : n = 0
    · rw [if_pos h, if_pos h]
    · rw [if_neg h, if_neg h, covF_eq f g _ _ (by omega) (by omega)]
def cov (a b : Nat) : List Pos := covF (b - a) a (b - a)
theorem cov_nil {a b : Nat} (h : b ≤ a) : cov a b = [] := by
  unfold cov
  rw [show b - a = 0 by omega]
  rfl
theorem cov_more {a b : Nat} (h : a < b) : cov a b = ⟨Nat.log2 (b - a), a / hb (b - a)⟩ :: cov (a + hb (b - a)) b := by
  obtain ⟨f, hf⟩ : ∃ f, b - a = f + 1 := ⟨b - a - 1, by omega⟩
  have hp := hb_pos (b - a)
  have hl := hb_le (n := b - a) (by omega)
  unfold cov
  rw [show b - (a + hb (b - a)) = b - a - hb (b - a) by omega, ← covF_eq f (b - a - hb (b - a)) _ _ (by omega) (Nat.le_refl _)]
  conv => lhs; rw [hf]
  show (if f + 1 = 0 then _ else _) = _
  rw [if_neg (by omega), ← hf]
/-- Likewise, by levels from the highest on. -/
def covD : Nat → Nat → Nat → List Pos
  | 0, _, _ => []
  | k + 1, a, n => if n / 2 ^ k % 2 = 1 then ⟨k, a / 2 ^ k⟩ :: covD k (a + 2 ^ k) n else covD k a n
theorem covD_yes {k a n : Nat} (h : n / 2 ^ k % 2 = 1) : covD (k + 1) a n = ⟨k, a / 2 ^ k⟩ :: covD k (a + 2 ^ k) n := by
  show (if _ then _ else _) = _
  rw [if_pos h]
theorem covD_no {k a n : Nat} (h : ¬ n / 2 ^ k % 2 = 1) : covD (k + 1) a n = covD k a n := by
  show (if _ then _ else _) = _
  rw [if_neg h]
theorem covD_cov (n : Nat) : ∀ (k a : Nat), covD k a n = cov a (a + n % 2 ^ k)
  | 0, a => by rw [Nat.pow_zero, Nat.mod_one, cov_nil (a := a) (b := a + 0) (Nat.le_refl _)]; rfl
  | k + 1, a => by
    have hm : n % 2 ^ (k + 1) = n % 2 ^ k + 2 ^ k * (n / 2 ^ k % 2) := by rw [Nat.pow_succ, Nat.mod_mul]
    have hlt : n % 2 ^ k < 2 ^ k := Nat.mod_lt _ (Nat.two_pow_pos k)
    by_cases h : n / 2 ^ k % 2 = 1
    · rw [h, Nat.mul_one] at hm
      obtain ⟨r, hr⟩ : ∃ r, n % 2 ^ (k + 1) = r := ⟨_, rfl⟩
      have hp := Nat.two_pow_pos k
      rw [hr] at hm ⊢
      have h2k : 2 ^ (k + 1) = 2 * 2 ^ k := by rw [Nat.pow_succ]; omega
      have hb1 : hb r = 2 ^ k := hb_is (by omega) (by rw [h2k]; omega)
      have hl : Nat.log2 r = k := (Nat.pow_right_inj (a := 2) (by decide)).1 hb1
      rw [covD_yes h, covD_cov n k, cov_more (b := a + r) (by omega), show a + r - a = r by omega, hb1, hl, show a + 2 ^ k + n % 2 ^ k = a + r by omega]
    · have h0 : n / 2 ^ k % 2 = 0 := by omega
      rw [h0, Nat.mul_zero] at hm
      rw [hm, covD_no h, covD_cov n k]
      rfl
theorem covD_all {a b k : Nat} (h : a ≤ b) (hk : b - a < 2 ^ k) : covD k a (b - a) = cov a b := by
  rw [covD_cov, Nat.mod_eq_of_lt hk, show a + (b - a) = b by omega]
/-- How many nodes there are. -/
theorem cov_len : ∀ (d a b : Nat), b - a = d → (cov a b).length ≤ lv (d + 1) := by
  intro d
  induction d using Nat.strongRecOn with
  | _ d ih =>
    intro a b hd
    by_cases h : b ≤ a
    · rw [cov_nil h]; exact Nat.zero_le _
    · have hp := hb_pos d
      have hle := hb_le (n := d) (by omega)
      have hlt := lt_hb d
      have h1 := ih (d - hb d) (by omega) (a + hb d) b (by omega)
      rw [cov_more (by omega), hd, List.length_cons]
      have h2 : lv (d - hb d + 1) ≤ Nat.log2 d := lv_le (by unfold hb at *; omega)
      have h3 : Nat.log2 d + 1 ≤ lv (d + 1) := by
        have h4 : 2 ^ Nat.log2 d < 2 ^ lv (d + 1) := by
          have := le_lv (d + 1)
          unfold hb at *
          omega
        exact (Nat.pow_lt_pow_iff_right (by decide)).1 h4
      omega
theorem cov_short {a b : Nat} (h : b - a ≤ 1099511627776) : (cov a b).length ≤ 41 := by
  have h1 := cov_len (b - a) a b rfl
  have h2 : lv (b - a + 1) ≤ 41 := lv_le (j := 41) (by
    have : (2:Nat) ^ 41 = 2199023255552 := by decide
    omega)
  omega
theorem cov_pos {a b : Nat} (h : a < b) : 1 ≤ (cov a b).length := by rw [cov_more h]; simp
/-- Are leaves those of nodes that may be? -/
theorem al_node {a n : Nat} (hn : 1 ≤ n) (h : rf n ∣ a) : a / hb n * 2 ^ Nat.log2 n = a := by
  show a / hb n * hb n = a
  exact Nat.div_mul_cancel (Nat.dvd_trans (hb_rf hn) h)
theorem al_next {a n : Nat} (hn : 1 ≤ n) (h : rf n ∣ a) : rf (n - hb n) ∣ a + hb n :=
  Nat.dvd_add (Nat.dvd_trans (Nat.dvd_trans rf_rest (hb_rf hn)) h) rf_rest
variable {α : Type} (nd : α → α → α) (z : α)
/-- The hashes of the nodes are those of a span. -/
theorem cov_root (l : List α) : ∀ (d a b : Nat), b - a = d → rf d ∣ a → b ≤ l.length → (cov a b).map (fun p => root nd z (piece l (p.x * 2 ^ p.l) (p.x * 2 ^ p.l + 2 ^ p.l))) = nds nd z (piece l a b) := by
  intro d
  induction d using Nat.strongRecOn with
  | _ d ih =>
    intro a b hd hal hbl
    have hlen := piece_len (l := l) (a := a) hbl
    by_cases h : b ≤ a
    · rw [cov_nil h, List.length_eq_zero_iff.1 (show (piece l a b).length = 0 by omega), nds_nil]
      rfl
    · have hp := hb_pos d
      have hle := hb_le (n := d) (by omega)
      have h1 := ih (d - hb d) (by omega) (a + hb d) b (by omega) (al_next (by omega) hal) hbl
      have h2 := al_node (n := d) (by omega) hal
      rw [cov_more (by omega), hd, List.map_cons, h1, nds_more nd z (l := piece l a b) (by omega), hlen, hd, piece_take l a b _ (by omega), piece_drop]
      simp only [h2]
      rfl
/-- Each node of leaves lies within them. -/
theorem cov_in : ∀ (d a b : Nat), b - a = d → rf d ∣ a → ∀ p ∈ cov a b, a ≤ p.x * 2 ^ p.l ∧ p.x * 2 ^ p.l + 2 ^ p.l ≤ b := by
  intro d
  induction d using Nat.strongRecOn with
  | _ d ih =>
    intro a b hd hal p hm
    by_cases h : b ≤ a
    · rw [cov_nil h] at hm; cases hm
    · have hp := hb_pos d
      have hle := hb_le (n := d) (by omega)
      have h2 := al_node (n := d) (by omega) hal
      rw [cov_more (by omega), hd] at hm
      rcases List.mem_cons.1 hm with rfl | hm
      · simp only [h2]
        exact ⟨Nat.le_refl _, by show a + hb d ≤ b; omega⟩
      · have h1 := ih (d - hb d) (by omega) (a + hb d) b (by omega) (al_next (by omega) hal) p hm
        omega
/-- What stands beside a way, and what it ends at, are leaves of nodes that may be. -/
theorem way_al {E : Nat → Nat → Bool} {i : Nat} (hE : ∀ a, a ≤ i → i < a + 1 → E a (a + 1) = true) : ∀ (d a b : Nat), b - a = d → a ≤ i → i < b → rf d ∣ a → (∀ s ∈ (way E i a b).1, rf (s.b - s.a) ∣ s.a) ∧ ∃ e, E (way E i a b).2 e = true ∧ (way E i a b).2 < e ∧ e ≤ b ∧ rf (e - (way E i a b).2) ∣ (way E i a b).2 := by
  intro d
  induction d using Nat.strongRecOn with
  | _ d ih =>
    intro a b hd ha hb hal
    cases hee : E a b with
    | true => rw [way_end hee]; exact ⟨fun s hs => (by cases hs), b, hee, by simp only; omega, Nat.le_refl _, by simp only; rw [hd]; exact hal⟩
    | false =>
      have h2 : 2 ≤ b - a := by
        rcases Nat.lt_or_ge (b - a) 2 with h | h
        · have : b = a + 1 := by omega
          subst this
          rw [hE a ha (by omega)] at hee
          cases hee
        · exact h
      have hlt := cut_lt h2
      have hpo := cut_pos (b - a)
      have hc : rf (cut (b - a)) = cut (b - a) := by unfold rf; rw [cut_lv]; rfl
      have hcd : cut (b - a) ∣ rf (b - a) := Nat.pow_dvd_pow 2 (by omega)
      have hca : cut (b - a) ∣ a := Nat.dvd_trans hcd (by rw [hd]; exact hal)
      have hr : rf (b - a - cut (b - a)) ∣ cut (b - a) := Nat.pow_dvd_pow 2 (cut_rest h2)
      have hrb : rf (b - (a + cut (b - a))) ∣ a + cut (b - a) := by
        rw [show b - (a + cut (b - a)) = b - a - cut (b - a) by omega]
        exact Nat.dvd_add (Nat.dvd_trans hr hca) hr
      by_cases hi : i < a + cut (b - a)
      · obtain ⟨h3, e, h4, h5, h6, h7⟩ := ih (cut (b - a)) (by omega) a (a + cut (b - a)) (by omega) ha hi (by rw [hc]; exact hca)
        rw [way_left hee h2 hi]
        refine ⟨fun s hs => ?_, e, h4, h5, by omega, h7⟩
        rcases List.mem_append.1 hs with h | h
        · exact h3 s h
        · rw [List.mem_singleton.1 h]; exact hrb
      · obtain ⟨h3, e, h4, h5, h6, h7⟩ := ih (b - a - cut (b - a)) (by omega) (a + cut (b - a)) b (by omega) (by omega) hb (Nat.dvd_add (Nat.dvd_trans hr hca) hr)
        rw [way_right hee h2 hi]
        refine ⟨fun s hs => ?_, e, h4, h5, h6, h7⟩
        rcases List.mem_append.1 hs with h | h
        · exact h3 s h
        · rw [List.mem_singleton.1 h]
          simp only
          rw [show a + cut (b - a) - a = cut (b - a) by omega, hc]
          exact hca
/-- The nodes that a leaf makes whole, from a level on. -/
def upF : Nat → Nat → Nat → List Pos
  | 0, l, k => [⟨l, k⟩]
  | f + 1, l, k => ⟨l, k⟩ :: if k % 2 = 1 then upF f (l + 1) (k / 2) else []
theorem upF_eq : ∀ (f g l k : Nat), k ≤ f → k ≤ g → upF f l k = upF g l k
  | 0, 0, _, _, _, _ => rfl
  | 0, g + 1, l, k, hf, _ => by
    show _ = _ :: (if k % 2 = 1 then _ else _)
    rw [if_neg (by omega)]
    rfl
  | f + 1, 0, l, k, _, hg => by
    show _ :: (if k % 2 = 1 then _ else _) = _
    rw [if_neg (by omega)]
    rfl
  | f + 1, g + 1, l, k, hf, hg => by
    show _ :: (if k % 2 = 1 then _ else _) = _ :: (if k % 2 = 1 then _ else _)
    by_cases h : k % 2 = 1
    · rw [if_pos h, if_pos h, upF_eq f g _ _ (by omega) (by omega)]
    · rw [if_neg h, if_neg h]
def ups (l k : Nat) : List Pos := upF k l k
theorem ups_odd {l k : Nat} (h : k % 2 = 1) : ups l k = ⟨l, k⟩ :: ups (l + 1) (k / 2) := by
  obtain ⟨f, rfl⟩ : ∃ f, k = f + 1 := ⟨k - 1, by omega⟩
  unfold ups
  rw [← upF_eq f _ _ ((f + 1) / 2) (by omega) (Nat.le_refl _)]
  show _ :: (if (f + 1) % 2 = 1 then _ else _) = _
  rw [if_pos h]
theorem ups_even {l k : Nat} (h : ¬ k % 2 = 1) : ups l k = [⟨l, k⟩] := by
  unfold ups
  cases k with
  | zero => rfl
  | succ f =>
    show _ :: (if (f + 1) % 2 = 1 then _ else _) = _
    rw [if_neg h]
theorem ups_at : ∀ (k l j : Nat) (p : Pos), (ups l k)[j]? = some p → p.l = l + j ∧ (p.x + 1) * 2 ^ p.l = (k + 1) * 2 ^ l := by
  intro k
  induction k using Nat.strongRecOn with
  | _ k ih =>
    intro l j p h
    by_cases ho : k % 2 = 1
    · rw [ups_odd ho] at h
      cases j with
      | zero =>
        have : (⟨l, k⟩ : Pos) = p := by simpa using h
        subst this
        exact ⟨rfl, rfl⟩
      | succ j =>
        obtain ⟨h1, h2⟩ := ih (k / 2) (by omega) (l + 1) j p (by simpa using h)
        refine ⟨by omega, h2.trans ?_⟩
        rw [Nat.pow_succ, ← Nat.mul_assoc, Nat.mul_right_comm, show (k / 2 + 1) * 2 = k + 1 by omega]
    · rw [ups_even ho] at h
      cases j with
      | zero =>
        have : (⟨l, k⟩ : Pos) = p := by simpa using h
        subst this
        exact ⟨rfl, rfl⟩
      | succ j => simp at h
theorem ups_has : ∀ (j k l x : Nat), (x + 1) * 2 ^ (l + j) = (k + 1) * 2 ^ l → j < (ups l k).length
  | 0, k, l, x, _ => by
    by_cases ho : k % 2 = 1
    · rw [ups_odd ho]; simp
    · rw [ups_even ho]; simp
  | j + 1, k, l, x, h => by
    have hp := Nat.two_pow_pos l
    have h1 : k + 1 = (x + 1) * 2 ^ j * 2 := by
      refine Nat.eq_of_mul_eq_mul_right hp ?_
      rw [← h, show l + (j + 1) = j + 1 + l by omega, Nat.pow_add, Nat.pow_succ, ← Nat.mul_assoc, ← Nat.mul_assoc]
    have ho : k % 2 = 1 := by omega
    have h2 := ups_has j (k / 2) (l + 1) x (by
      rw [show l + 1 + j = l + (j + 1) by omega, h, Nat.pow_succ, ← Nat.mul_assoc, Nat.mul_right_comm, show (k / 2 + 1) * 2 = k + 1 by omega])
    rw [ups_odd ho, List.length_cons]
    omega
theorem ups_pos (l k : Nat) : 1 ≤ (ups l k).length := ups_has 0 k l k rfl
theorem ups_short {k : Nat} (h : k < 1099511627776) : (ups 0 k).length ≤ 41 := by
  have hp := ups_pos 0 k
  obtain ⟨j, hj⟩ : ∃ j, (ups 0 k).length = j + 1 := ⟨(ups 0 k).length - 1, by omega⟩
  obtain ⟨h1, h2⟩ := ups_at k 0 j ((ups 0 k)[j]'(by omega)) (List.getElem?_eq_getElem _)
  rw [h1, Nat.zero_add, Nat.pow_zero, Nat.mul_one] at h2
  have h3 : 2 ^ j ≤ k + 1 := by rw [← h2]; exact Nat.le_mul_of_pos_left _ (Nat.succ_pos _)
  have h4 : 2 ^ j < 2 ^ 41 := by
    have : (2:Nat) ^ 41 = 2199023255552 := by decide
    omega
  have := (Nat.pow_lt_pow_iff_right (by decide)).1 h4
  omega
/-- How often a node was told by the leaves below m. -/
def cnt (m q : Nat) : Nat := if (q % 128 + 1) * 2 ^ (q / 128) ≤ m then 1 else 0
/-- Likewise, and by the first k nodes of leaf m. -/
def cntk (m k q : Nat) : Nat := cnt m q + if q / 128 < k ∧ (q % 128 + 1) * 2 ^ (q / 128) = m + 1 then 1 else 0
theorem cntk_zero (m q : Nat) : cntk m 0 q = cnt m q := by unfold cntk; rw [if_neg (by omega), Nat.add_zero]
theorem cntk_all (m q : Nat) : cntk m (ups 0 m).length q = cnt (m + 1) q := by
  have h := ups_has (q / 128) m 0 (q % 128)
  rw [Nat.zero_add, Nat.pow_zero, Nat.mul_one] at h
  unfold cntk cnt
  by_cases h1 : (q % 128 + 1) * 2 ^ (q / 128) = m + 1
  · rw [if_neg (by omega), if_pos ⟨h h1, h1⟩, if_pos (by omega)]
  · rw [if_neg (c := q / 128 < (ups 0 m).length ∧ (q % 128 + 1) * 2 ^ (q / 128) = m + 1) (fun c => h1 c.2), Nat.add_zero]
    by_cases h2 : (q % 128 + 1) * 2 ^ (q / 128) ≤ m
    · rw [if_pos h2, if_pos (by omega)]
    · rw [if_neg h2, if_neg (by omega)]
theorem cntk_at {m k x : Nat} (hx : x < 128) (h : (x + 1) * 2 ^ k = m + 1) : cntk m (k + 1) (k * 128 + x) = cntk m k (k * 128 + x) + 1 := by
  have h1 : (k * 128 + x) / 128 = k := by omega
  have h2 : (k * 128 + x) % 128 = x := by omega
  unfold cntk
  rw [h1, h2, if_pos ⟨by omega, h⟩, if_neg (by omega)]
theorem cntk_else {m k x q : Nat} (_hx : x < 128) (h : (x + 1) * 2 ^ k = m + 1) (hq : q ≠ k * 128 + x) : cntk m (k + 1) q = cntk m k q := by
  have hp := Nat.two_pow_pos k
  unfold cntk
  by_cases h1 : q / 128 = k
  · have h2 : ¬ (q % 128 + 1) * 2 ^ (q / 128) = m + 1 := by
      rw [h1]
      intro c
      have := Nat.eq_of_mul_eq_mul_right hp (c.trans h.symm)
      omega
    rw [if_neg (fun c => h2 c.2), if_neg (fun c => h2 c.2)]
  · have : (q / 128 < k + 1) = (q / 128 < k) := by apply propext; omega
    simp only [this]
theorem cnt_zero (q : Nat) : cnt 0 q = 0 := by
  have := Nat.mul_pos (Nat.succ_pos (q % 128)) (Nat.two_pow_pos (q / 128))
  unfold cnt
  rw [if_neg (by simp only [Nat.succ_eq_add_one] at this; omega)]
end Go.Proofs.YtdgfbbaddoghaaaDoor.Mt
