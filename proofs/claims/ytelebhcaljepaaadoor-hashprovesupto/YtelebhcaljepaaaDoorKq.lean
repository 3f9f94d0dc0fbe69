/- What follows of paths, proofs and collisions; no walk. -/
import Derived.Test.YtelebhcaljepaaaDoorKz
namespace Go.Proofs.YtelebhcaljepaaaDoor
open Go.RowKit

def all32 (l : List (List UInt8)) : Prop := ∀ e ∈ l, e.length = 32
theorem all32.whole {l : List (List UInt8)} (h : all32 l) : wholeL l = true := by
  unfold wholeL
  rw [List.all_eq_true]
  exact fun e he => by simpa using h e he
theorem root_32 {l : List (List UInt8)} (h : all32 l) (hn : 1 ≤ l.length) : (rootL l).length = 32 := by
  match l, h, hn with
  | [a], h, _ => unfold rootL; rw [Mt.root_one]; exact h a (by simp)
  | a :: b :: t, _, _ => unfold rootL; rw [Mt.root_two nodeL nilL (by simp), nodeL_len]
theorem all32.take {l : List (List UInt8)} (h : all32 l) (k : Nat) : all32 (l.take k) := fun e he => h e (List.mem_of_mem_take he)
theorem all32.drop {l : List (List UInt8)} (h : all32 l) (k : Nat) : all32 (l.drop k) := fun e he => h e (List.mem_of_mem_drop he)
theorem path_32 : ∀ (n : Nat) (l : List (List UInt8)), l.length = n → all32 l → ∀ i, i < n → all32 (pathL l i) := by
  intro n
  induction n using Nat.strongRecOn with
  | _ n ih =>
    intro l hl h i hi
    by_cases h1 : n ≤ 1
    · have : pathL l i = [] := Mt.path_one nodeL nilL (by omega) i
      rw [this]
      intro e he
      cases he
    · have hlt := Mt.cut_lt (n := n) (by omega)
      have hpo := Mt.cut_pos n
      by_cases hc : i < Mt.cut n
      · have hp : pathL l i = pathL (l.take (Mt.cut n)) i ++ [rootL (l.drop (Mt.cut n))] := by
          have := Mt.path_left nodeL nilL (l := l) (by omega) (i := i) (by rw [hl]; exact hc)
          rw [hl] at this
          exact this
        rw [hp]
        intro e he
        rcases List.mem_append.1 he with h3 | h3
        · exact ih (Mt.cut n) hlt (l.take (Mt.cut n)) (by rw [List.length_take]; omega) (h.take _) i hc e h3
        · rw [List.mem_singleton.1 h3]
          exact root_32 (h.drop _) (by rw [List.length_drop]; omega)
      · have hp : pathL l i = pathL (l.drop (Mt.cut n)) (i - Mt.cut n) ++ [rootL (l.take (Mt.cut n))] := by
          have := Mt.path_right nodeL nilL (l := l) (by omega) (i := i) (by rw [hl]; exact hc)
          rw [hl] at this
          exact this
        rw [hp]
        intro e he
        rcases List.mem_append.1 he with h3 | h3
        · exact ih (n - Mt.cut n) (by omega) (l.drop (Mt.cut n)) (by rw [List.length_drop]; omega) (h.drop _) (i - Mt.cut n) (by omega) e h3
        · rw [List.mem_singleton.1 h3]
          exact root_32 (h.take _) (by rw [List.length_take]; omega)
theorem sub_32 : ∀ (n : Nat) (l : List (List UInt8)), l.length = n → all32 l → ∀ m own, 1 ≤ m → m ≤ n → all32 (subL m l own) := by
  intro n
  induction n using Nat.strongRecOn with
  | _ n ih =>
    intro l hl h m own h1 hmn
    by_cases hm : m = n
    · have : subL m l own = if own then [] else [rootL l] := Mt.sub_all nodeL nilL (by omega) own
      rw [this]
      cases own with
      | true => intro e he; cases he
      | false =>
        intro e he
        rw [List.mem_singleton.1 he]
        exact root_32 h (by omega)
    · have hlt := Mt.cut_lt (n := n) (by omega)
      have hpo := Mt.cut_pos n
      by_cases hc : m ≤ Mt.cut n
      · have hp : subL m l own = subL m (l.take (Mt.cut n)) own ++ [rootL (l.drop (Mt.cut n))] := by
          have := Mt.sub_left nodeL nilL (l := l) (m := m) (by omega) h1 own (by rw [hl]; exact hc)
          rw [hl] at this
          exact this
        rw [hp]
        intro e he
        rcases List.mem_append.1 he with h3 | h3
        · exact ih (Mt.cut n) hlt (l.take (Mt.cut n)) (by rw [List.length_take]; omega) (h.take _) m own h1 hc e h3
        · rw [List.mem_singleton.1 h3]
          exact root_32 (h.drop _) (by rw [List.length_drop]; omega)
      · have hp : subL m l own = subL (m - Mt.cut n) (l.drop (Mt.cut n)) false ++ [rootL (l.take (Mt.cut n))] := by
          have := Mt.sub_right nodeL nilL (l := l) (m := m) (by omega) h1 own (by rw [hl]; exact hc)
          rw [hl] at this
          exact this
        rw [hp]
        intro e he
        rcases List.mem_append.1 he with h3 | h3
        · exact ih (n - Mt.cut n) (by omega) (l.drop (Mt.cut n)) (by rw [List.length_drop]; omega) (h.drop _) (m - Mt.cut n) false (by omega) (by omega) e h3
        · rw [List.mem_singleton.1 h3]
          exact root_32 (h.take _) (by rw [List.length_take]; omega)
theorem range_yes {i n : Nat} (h1 : i < n) (h2 : n ≤ 1099511627776) : inRange (i : Int) (n : Int) = true := by
  unfold inRange
  simp only [Bool.and_eq_true, decide_eq_true_eq]
  omega
/-- Each path proves its leaf. -/
theorem path_check {h : List (List UInt8)} (h32 : all32 h) {i : Nat} {a : List UInt8} (ha : h[i]? = some a) (hn : h.length ≤ 1099511627776) : checkP a (i : Int) (h.length : Int) (pathL h i) (rootL h) = 0 := by
  have hi := (List.getElem?_eq_some_iff.1 ha).1
  obtain ⟨e1, e2⟩ := Mt.path_top nodeL nilL h.length h rfl i a ha
  have hw : all32 [a, rootL h] := fun e he => by
    rcases List.mem_cons.1 he with rfl | he
    · exact h32 _ (List.mem_of_getElem? ha)
    · rw [List.mem_singleton.1 he]; exact root_32 h32 (by omega)
  have hok : pathOk a i h.length (pathL h i) (rootL h) = true := by
    unfold pathOk
    rw [show (pathL h i).length = (Mt.sides i h.length).length from e1.symm, decide_eq_true rfl, (path_32 h.length h rfl h32 i hi).whole, hw.whole, show Mt.top nodeL a (Mt.sides i h.length) (pathL h i) = rootL h from e2, decide_eq_true rfl]
    rfl
  unfold checkP
  rw [range_yes hi hn, if_pos rfl, Int.toNat_natCast, Int.toNat_natCast, hok]
  rfl
/-- Each proof shows the beginning. -/
theorem proof_check {h : List (List UInt8)} (h32 : all32 h) {m : Nat} (h1 : 1 ≤ m) (hm : m ≤ h.length) (hn : h.length ≤ 1099511627776) : checkF (m : Int) (h.length : Int) (proofL h m) (rootL (h.take m)) (rootL h) = 0 := by
  have hW := Mt.sub_walk nodeL nilL [] h.length h rfl m true (rootL (h.take m)) [] false h1 hm (fun _ => rfl)
  rw [List.append_nil] at hW
  have hw : all32 [rootL (h.take m), rootL h] := fun e he => by
    rcases List.mem_cons.1 he with rfl | he
    · exact root_32 (h32.take _) (by rw [List.length_take]; omega)
    · rw [List.mem_singleton.1 he]; exact root_32 h32 (by omega)
  have hok : proofOk m h.length (proofL h m) (rootL (h.take m)) (rootL h) = true := by
    unfold proofOk
    rw [show Mt.walk nodeL [] m h.length true (rootL (h.take m)) (proofL h m, false) = ((Mt.root nodeL nilL (h.take m), Mt.root nodeL nilL h), ([], false)) from hW]
    simp only
    have hpw : wholeL (proofL h m) = true := (sub_32 h.length h rfl h32 m true h1 hm).whole
    rw [hpw, hw.whole]
    simp [rootL]
  have hr : inRangeF (m : Int) (h.length : Int) = true := by
    unfold inRangeF
    simp only [Bool.and_eq_true, decide_eq_true_eq]
    omega
  unfold checkF
  rw [hr, if_pos rfl, Int.toNat_natCast, Int.toNat_natCast, hok]
  rfl
/-- What Collide tells are two texts with one sum. -/
theorem coll_sum {i n : Int} {a b : List UInt8} {pa pb : List (List UInt8)} {l r : List UInt8} (h : collL i n a pa b pb = some (l, r)) : (1 :: l : List UInt8) ≠ 1 :: r ∧ Sha.sum (1 :: l) = Sha.sum (1 :: r) := by
  unfold collL at h
  split at h
  · rename_i hok
    unfold collOk at hok
    simp only [Bool.and_eq_true, decide_eq_true_eq] at hok
    obtain ⟨_, _, hpa, hpb, _⟩ := hok
    obtain ⟨S, hS⟩ : ∃ S, Mt.sides i.toNat n.toNat = S := ⟨_, rfl⟩
    rw [hS] at h hpa hpb
    obtain ⟨hne, j, hj, rfl, rfl, hX⟩ := Mt.coll_some h
    refine ⟨fun e => hne (List.cons.inj e).2, ?_⟩
    have one : ∀ (x : List UInt8) (ps : List (List UInt8)), ps.length = S.length → Xs x S ps (j + 1) = Sha.sum (1 :: Is x S ps j) := by
      intro x ps hps
      obtain ⟨sb, h1⟩ : ∃ sb, S[j]? = some sb := ⟨S[j]'hj, List.getElem?_eq_getElem _⟩
      obtain ⟨q, h2⟩ : ∃ q, ps[j]? = some q := ⟨ps[j]'(by omega), List.getElem?_eq_getElem _⟩
      have h3 : Is x S ps j = inp sb (Xs x S ps j) q := by unfold Is; rw [List.getD_eq_getElem?_getD, List.getD_eq_getElem?_getD, h1, h2]; rfl
      rw [h3]
      unfold Xs
      rw [take_snoc h1, take_snoc h2, Mt.top_snoc nodeL x (by rw [List.length_take, List.length_take]; omega)]
      cases sb <;> rfl
    rw [← one a pa hpa, ← one b pb hpb]
    exact hX
  · cases h
theorem xs_32 {x : List UInt8} (hx : x.length = 32) (S : List Bool) (ps : List (List UInt8)) (j : Nat) : (Xs x S ps j).length = 32 := by
  have h : ∀ (l : List (Bool × List UInt8)) (x : List UInt8), x.length = 32 → (l.foldl (fun x q => Mt.up nodeL x q.1 q.2) x).length = 32 := by
    intro l
    induction l with
    | nil => intro x hx; exact hx
    | cons a t ih =>
      intro x _
      refine ih _ ?_
      show (Mt.up nodeL x a.1 a.2).length = _
      unfold Mt.up
      split <;> rw [nodeL_len]
  exact h _ x hx
/-- One leaf at one place. -/
theorem sound {i n : Int} {a b : List UInt8} {pa pb : List (List UInt8)} {rt : List UInt8} (h1 : checkP a i n pa rt = 0) (h2 : checkP b i n pb rt = 0) (hab : ¬ a = b) : (collL i n a pa b pb).isSome = true := by
  have parts : ∀ {x : List UInt8} {ps : List (List UInt8)}, checkP x i n ps rt = 0 → inRange i n = true ∧ pathOk x i.toNat n.toNat ps rt = true := fun {x ps} h => by
    unfold checkP at h
    split at h
    · rename_i hr
      split at h
      · rename_i hp; exact ⟨hr, hp⟩
      · cases h
    · cases h
  obtain ⟨hr, ha⟩ := parts h1
  obtain ⟨_, hb⟩ := parts h2
  unfold pathOk at ha hb
  simp only [Bool.and_eq_true, decide_eq_true_eq] at ha hb
  obtain ⟨la, wa, wab, ta⟩ := ha
  obtain ⟨lb, wb, wbb, tb⟩ := hb
  have a32 : a.length = 32 := wholeL_mem wab a (by simp)
  have b32 : b.length = 32 := wholeL_mem wbb b (by simp)
  have wc : wholeL [a, b] = true := all32.whole (fun e he => by
    rcases List.mem_cons.1 he with rfl | he
    · exact a32
    · rw [List.mem_singleton.1 he]; exact b32)
  have hok : collOk i n a pa b pb = true := by
    unfold collOk
    rw [hr, decide_eq_false hab, decide_eq_true la, decide_eq_true lb, wa, wb, wc]
    rfl
  unfold collL
  rw [hok, if_pos rfl]
  obtain ⟨S, hS⟩ : ∃ S, Mt.sides i.toNat n.toNat = S := ⟨_, rfl⟩
  rw [hS] at la lb ta tb ⊢
  unfold collS
  refine Mt.coll_found ?_ (fun j hj hI => ?_) ?_
  · unfold Xs
    rw [List.take_of_length_le (Nat.le_refl _), List.take_of_length_le (by omega), List.take_of_length_le (by omega), ta, tb]
  · obtain ⟨sb, x, q, y, r, g1, g2, g3, rfl, rfl, e1, e2⟩ := rcollide_loop a b S.length S pa pb rfl la lb j hj
    rw [e1, e2] at hI
    have hx := xs_32 a32 S pa j
    have hy := xs_32 b32 S pb j
    have hq := wholeL_mem wa q (List.mem_of_getElem? g2)
    have hr' := wholeL_mem wb r (List.mem_of_getElem? g3)
    unfold inp at hI
    cases sb with
    | true => exact (List.append_inj hI (by rw [hx, hy])).1
    | false => exact (List.append_inj hI (by rw [hq, hr'])).2
  · exact hab
end Go.Proofs.YtelebhcaljepaaaDoor
