/- The pieces of a row, over plain lists; no walk. -/
import Derived.Test.YtimgdhdfefldpaaNm
import Derived.Test.YtimgdhdfefldpaaMb
namespace Go.Proofs.Ytimgdhdfefldpaa.Mg
open Go.Proofs.Ytimgdhdfefldpaa
open Go.Proofs.Ytimgdhdfefldpaa.Sk (Ent Goes Up)
/-- Of one key. -/
def One (p : List Ent) : Prop := ∀ x ∈ p, ∀ y ∈ p, x.key = y.key
/-- What pieces are like; ends: the last piece's last key. -/
structure Pcs (most : Int) (out : List (List Ent)) : Prop where
  ne : ∀ p ∈ out, p ≠ []
  few : ∀ p ∈ out, most < (p.length : Int) → One p
  apart : ∀ (i : Nat) (p q : List Ent) (x y : Ent), out[i]? = some p → out[i + 1]? = some q → p.getLast? = some x → q.head? = some y → x.key ≠ y.key
theorem Pcs.nil (most : Int) : Pcs most [] := ⟨(fun _ h => by cases h), (fun _ h => by cases h), (fun _ _ _ _ _ h => by simp at h)⟩
theorem Pcs.snoc {most : Int} {out : List (List Ent)} {g : List Ent} (h : Pcs most out) (h1 : g ≠ []) (h2 : most < (g.length : Int) → One g) (h3 : ∀ p x y, out.getLast? = some p → p.getLast? = some x → g.head? = some y → x.key ≠ y.key) : Pcs most (out ++ [g]) := by
  refine ⟨fun p hp => ?_, fun p hp => ?_, fun i p q x y hp hq hx hy => ?_⟩
  · rcases List.mem_append.1 hp with hp | hp
    · exact h.ne p hp
    · rw [List.mem_singleton.1 hp]; exact h1
  · rcases List.mem_append.1 hp with hp | hp
    · exact h.few p hp
    · rw [List.mem_singleton.1 hp]; exact h2
  · have hlt := (List.getElem?_eq_some_iff.1 hq).1
    rw [List.length_append, List.length_singleton] at hlt
    rw [List.getElem?_append_left (by omega)] at hp
    rcases Nat.lt_or_ge (i + 1) out.length with hi | hi
    · rw [List.getElem?_append_left hi] at hq
      exact h.apart i p q x y hp hq hx hy
    · have hi2 : i + 1 = out.length := by omega
      rw [List.getElem?_append_right hi, hi2, Nat.sub_self] at hq
      simp only [List.getElem?_cons_zero, Option.some.injEq] at hq
      subst hq
      refine h3 p x y ?_ hx hy
      rw [List.getLast?_eq_getElem?, ← hi2]
      exact hp
/-- One key's entries more. -/
theorem pack_pcs {most : Int} {out : List (List Ent)} {g : List Ent} (h : Pcs most out) (h1 : g ≠ []) (hone : One g) (h3 : ∀ p x, out.getLast? = some p → p.getLast? = some x → ∀ y ∈ g, x.key ≠ y.key) : Pcs most (pack most out g) := by
  rcases List.eq_nil_or_concat out with rfl | ⟨pre, z, e⟩
  · exact (Pcs.nil most).snoc h1 (fun _ => hone) (fun p x y hp => by cases hp)
  · rw [List.concat_eq_append] at e
    subst e
    rw [pack_snoc]
    split
    · exact h.snoc h1 (fun _ => hone) (fun p x y hp hx hy => h3 p x hp hx y (List.mem_of_mem_head? hy))
    · rename_i hm
      have hz : z ≠ [] := h.ne z (List.mem_append_right _ (List.mem_singleton.2 rfl))
      have hpre : Pcs most pre := by
        refine ⟨fun p hp => h.ne p (List.mem_append_left _ hp), fun p hp => h.few p (List.mem_append_left _ hp), fun i p q x y hp hq hx hy => ?_⟩
        have hlt := (List.getElem?_eq_some_iff.1 hq).1
        exact h.apart i p q x y (by rw [List.getElem?_append_left (by omega)]; exact hp) (by rw [List.getElem?_append_left hlt]; exact hq) hx hy
      refine hpre.snoc (by simp [hz]) (fun hl => absurd hl (by rw [List.length_append]; omega)) (fun p x y hp hx hy => ?_)
      have hl : pre.length ≠ 0 := by
        intro h0
        rw [List.length_eq_zero_iff.1 h0] at hp
        cases hp
      have hp' : (pre ++ [z])[pre.length - 1]? = some p := by
        rw [List.getLast?_eq_getElem?] at hp
        rw [List.getElem?_append_left (by omega)]
        exact hp
      refine h.apart (pre.length - 1) p z x y hp' ?_ hx ?_
      · rw [show pre.length - 1 + 1 = pre.length by omega, List.getElem?_append_right (Nat.le_refl _), Nat.sub_self]
        rfl
      · cases z with
        | nil => exact absurd rfl hz
        | cons a z => simpa using hy
theorem last_pack {most : Int} {out : List (List Ent)} {g : List Ent} (h1 : g ≠ []) {p : List Ent} {x : Ent} (hp : (pack most out g).getLast? = some p) (hx : p.getLast? = some x) : x ∈ g := by
  have hg : ∀ z : List Ent, (z ++ g).getLast? = some x → x ∈ g := fun z h => by
    rw [List.getLast?_append] at h
    cases hl : g.getLast? with
    | none => exact absurd (List.getLast?_eq_none_iff.1 hl) h1
    | some y =>
      rw [hl] at h
      cases h
      exact List.mem_of_getLast? hl
  rcases List.eq_nil_or_concat out with rfl | ⟨pre, z, e⟩
  · cases hp
    exact List.mem_of_getLast? hx
  · rw [List.concat_eq_append] at e
    subst e
    rw [pack_snoc] at hp
    split at hp
    · rw [List.getLast?_concat] at hp
      cases hp
      exact List.mem_of_getLast? hx
    · rw [List.getLast?_concat] at hp
      cases hp
      exact hg z hx
theorem fold_pcs {most : Int} : ∀ (n : Nat) (l : List Ent) (out : List (List Ent)), l.length ≤ n → Up l → Pcs most out → (∀ p x, out.getLast? = some p → p.getLast? = some x → ∀ y ∈ l, x.key ≠ y.key) → Pcs most ((parts oneKey l).foldl (pack most) out)
  | 0, l, out, hn, _, h, _ => by rw [List.length_eq_zero_iff.1 (Nat.le_zero.1 hn)]; exact h
  | n + 1, [], out, _, _, h, _ => h
  | n + 1, a :: l, out, hn, hu, h, hk => by
    obtain ⟨A, B, e, hne, hA, hB, hl⟩ := up_dec hu
    have hu2 := hu
    rw [e] at hu2
    rw [e, parts_app hne hA (head_ne hB), List.foldl_cons]
    refine fold_pcs n B _ (by omega) (up_append.1 hu2).2.1 (pack_pcs h hne (fun x hx y hy => (hA x hx).trans (hA y hy).symm) (fun p x hp hx y hy => hk p x hp hx y (by rw [e]; exact List.mem_append_left _ hy))) (fun p x hp hx y hy => ?_)
    rw [hA x (last_pack hne hp hx)]
    exact (less_ne (hB y hy)).symm
theorem split_pcs {l : List Ent} (most : Int) (h : Up l) : Pcs most (split l most) := fold_pcs _ l [] (Nat.le_refl _) h (Pcs.nil most) (fun p x hp => by cases hp)
end Go.Proofs.Ytimgdhdfefldpaa.Mg
