/- Keys, what they are made of, over plain lists of bytes; no walk. -/
import Derived.Test.YtogphpejdnhnjaaGreatDoorJoinMp
import Derived.Test.YtogphpejdnhnjaaGreatDoorF
namespace Go.Proofs.YtogphpejdnhnjaaGreatDoor

/-- The key of a tree and a table, with what is behind. -/
def mk (t a : Nat) (x : List UInt8) : List UInt8 := be 8 t ++ UInt8.ofNat a :: x
theorem mk_length (t a : Nat) (x : List UInt8) : (mk t a x).length = 9 + x.length := by
  unfold mk
  rw [List.length_append, be_length, List.length_cons]
  omega
/-- Rows of one length, each with something behind it. -/
theorem less_app : ∀ {p q : List UInt8} (x y : List UInt8), p.length = q.length → less (p ++ x) (q ++ y) = (less p q || (decide (p = q) && less x y))
  | [], [], x, y, _ => by simp [less]
  | [], _ :: _, _, _, h => by simp at h
  | _ :: _, [], _, _, h => by simp at h
  | a :: p, b :: q, x, y, h => by
    have hl : p.length = q.length := by simpa using h
    have ih := less_app x y hl
    simp only [List.cons_append, less, ih]
    by_cases hab : a = b
    · subst hab
      simp
    · have h2 : (a == b) = false := by simpa using hab
      simp [h2, hab]
theorem less_big : ∀ {p q : List UInt8}, p.length = q.length → less p q = decide (big p < big q)
  | [], [], _ => by simp [less]
  | [], _ :: _, h => by simp at h
  | _ :: _, [], h => by simp at h
  | a :: p, b :: q, h => by
    have hl : p.length = q.length := by simpa using h
    have ih := less_big hl
    rw [Bool.eq_iff_iff, less_cons, decide_eq_true_iff, ih, decide_eq_true_iff, big_cons, big_cons, hl]
    have h1 := big_lt p
    have h2 := big_lt q
    rw [hl] at h1
    generalize 256 ^ q.length = M at *
    constructor
    · rintro (h | ⟨rfl, h⟩)
      · have : (a.toNat + 1) * M ≤ b.toNat * M := Nat.mul_le_mul_right _ h
        rw [Nat.add_mul] at this
        omega
      · omega
    · intro h
      rcases Nat.lt_trichotomy a.toNat b.toNat with hc | hc | hc
      · exact .inl hc
      · right
        refine ⟨UInt8.toNat_inj.1 hc, ?_⟩
        rw [hc] at h; omega
      · exfalso
        have : (b.toNat + 1) * M ≤ a.toNat * M := Nat.mul_le_mul_right _ hc
        rw [Nat.add_mul] at this
        omega
theorem fix_lt8 {t : Nat} (h : t < 9223372036854775808) : t < 256 ^ 8 := by
  have e : (256 : Nat) ^ 8 = 18446744073709551616 := rfl
  omega
theorem less_fix {t u : Nat} (ht : t < 9223372036854775808) (hu : u < 9223372036854775808) : less (be 8 t) (be 8 u) = decide (t < u) := by
  rw [less_big (by rw [be_length, be_length]), big_be 8 t (fix_lt8 ht), big_be 8 u (fix_lt8 hu)]
theorem fix_inj {t u : Nat} (ht : t < 9223372036854775808) (hu : u < 9223372036854775808) (h : be 8 t = be 8 u) : t = u := by
  rw [← big_be 8 t (fix_lt8 ht), ← big_be 8 u (fix_lt8 hu), h]
theorem byte_inj {a b : Nat} (ha : a < 256) (hb : b < 256) (h : UInt8.ofNat a = UInt8.ofNat b) : a = b := by
  have := congrArg UInt8.toNat h
  rw [UInt8.toNat_ofNat', UInt8.toNat_ofNat'] at this
  omega
theorem mk_inj {t a u b : Nat} {x y : List UInt8} (ht : t < 9223372036854775808) (hu : u < 9223372036854775808) (ha : a < 256) (hb : b < 256) (h : mk t a x = mk u b y) : t = u ∧ a = b ∧ x = y := by
  unfold mk at h
  obtain ⟨h1, h2⟩ := List.append_inj h (by rw [be_length, be_length])
  obtain ⟨h3, h4⟩ := List.cons.inj h2
  exact ⟨fix_inj ht hu h1, byte_inj ha hb h3, h4⟩
/-- Keys go by tree, then table, then what is behind. -/
theorem mk_less {t a u b : Nat} {x y : List UInt8} (ht : t < 9223372036854775808) (hu : u < 9223372036854775808) (ha : a < 256) (hb : b < 256) : less (mk t a x) (mk u b y) = true ↔ t < u ∨ t = u ∧ (a < b ∨ a = b ∧ less x y = true) := by
  unfold mk
  rw [less_app _ _ (by rw [be_length, be_length]), less_fix ht hu, Bool.or_eq_true, Bool.and_eq_true, decide_eq_true_iff, decide_eq_true_iff, less_cons, UInt8.toNat_ofNat', UInt8.toNat_ofNat']
  have ea : a % 2 ^ 8 = a := Nat.mod_eq_of_lt (by omega)
  have eb : b % 2 ^ 8 = b := Nat.mod_eq_of_lt (by omega)
  rw [ea, eb]
  constructor
  · rintro (h | ⟨h, h2⟩)
    · exact .inl h
    · refine .inr ⟨fix_inj ht hu h, ?_⟩
      rcases h2 with h2 | ⟨h2, h3⟩
      · exact .inl h2
      · exact .inr ⟨byte_inj ha hb h2, h3⟩
  · rintro (h | ⟨rfl, h⟩)
    · exact .inl h
    · refine .inr ⟨rfl, ?_⟩
      rcases h with h | ⟨rfl, h⟩
      · exact .inl h
      · exact .inr ⟨rfl, h⟩
/-- Which keys begin with that of a table. -/
theorem mk_begins {t a u b : Nat} {y : List UInt8} (ht : t < 9223372036854775808) (hu : u < 9223372036854775808) (ha : a < 256) (hb : b < 256) : mk t a [] <+: mk u b y ↔ t = u ∧ a = b := by
  constructor
  · rintro ⟨z, hz⟩
    have e : mk t a [] ++ z = mk t a z := by simp [mk]
    rw [e] at hz
    obtain ⟨h1, h2, _⟩ := mk_inj ht hu ha hb hz
    exact ⟨h1, h2⟩
  · rintro ⟨rfl, rfl⟩
    exact ⟨y, by simp [mk]⟩
/-- There is something next to a table's beginning. -/
theorem next_mk {t a : Nat} (ht : t < 72057594037927936) : next (mk t a []) ≠ [] := by
  intro h
  have h1 := next_nil h
  rw [mk_length] at h1
  have h2 : (mk t a [])[0]? = some 255 := by rw [h1]; rfl
  have h3 : (mk t a [])[0]? = some 0 := by
    unfold mk be
    rw [List.getElem?_append_left (by simp)]
    simp
    have e : t / 72057594037927936 = 0 := Nat.div_eq_of_lt ht
    rw [e]
    rfl
  rw [h3] at h2
  exact absurd (Option.some.inj h2) (by decide)
/-- Nine bytes or more are a key of what they say. -/
theorem mk_split (k : List UInt8) (h : 9 ≤ k.length) : k = mk (big (k.take 8)) ((k.getD 8 0).toNat) (k.drop 9) := by
  unfold mk
  have h8 : (k.take 8).length = 8 := by rw [List.length_take]; omega
  have e1 := be_big (k.take 8)
  rw [h8] at e1
  have e2 : k.drop 8 = k[8] :: k.drop 9 := List.drop_eq_getElem_cons (by omega)
  have e3 : k.getD 8 0 = k[8] := by
    rw [List.getD_eq_getElem?_getD, List.getElem?_eq_getElem (show 8 < k.length by omega)]
    rfl
  rw [e1, e3, UInt8.ofNat_toNat, ← e2, List.take_append_drop]

end Go.Proofs.YtogphpejdnhnjaaGreatDoor
