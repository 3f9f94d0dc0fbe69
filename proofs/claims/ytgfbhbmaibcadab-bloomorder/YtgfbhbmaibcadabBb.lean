/- The walk of the statement that the order of keys says nothing. -/
import Derived.Test.YtgfbhbmaibcadabB6
import Derived.Deep.RegionHeld3
import Derived.Deep.AppendLies
namespace Go.Proofs.Ytgfbhbmaibcadab
open Go.RowKit

theorem info22 : (Try.prog.info? 28).map (fun i => (i.zero, i.size, i.bytes)) = some (some (.slice none 0 0), 1, 24) := by kernel_rfl
theorem info_parts22 {P : Program} {t : TypeId} {z : Value} {s b : Nat} (h : (P.info? t).map (fun i => (i.zero, i.size, i.bytes)) = some (some z, s, b)) : ∃ i, P.info? t = some i ∧ i.zero = some z ∧ i.size = s ∧ i.bytes = b := by
  cases hi : P.info? t with
  | none => rw [hi] at h; cases h
  | some i =>
    rw [hi] at h
    simp only [Option.map_some, Option.some.injEq, Prod.mk.injEq] at h
    exact ⟨i, rfl, h.1, h.2.1, h.2.2⟩
theorem own_empty2 {w : World} {B t : Nat} (h : B ≤ w.heap.size) : (w.alloc (.cells #[] t)).ownsRow B t 1 (.slice (some ⟨w.heap.size, 0, none⟩) 0 0) 0 [] :=
  ⟨rfl, .inr ⟨_, _, _, rfl, h, heap_alloc_new w _, Nat.le_refl _, Nat.zero_le _, rfl, rfl⟩⟩
theorem own_empty3 {w : World} {B t : Nat} (h : B ≤ w.heap.size) (o : Obj) : ((w.alloc o).alloc (.cells #[] t)).ownsRow B t 1 (.slice (some ⟨w.heap.size + 1, 0, none⟩) 0 0) 0 [] := by
  have := own_empty2 (w := w.alloc o) (B := B) (t := t) (by simp; omega)
  rwa [World.size_alloc] at this
theorem heap2_new (w : World) (o1 o2 : Obj) : ((w.alloc o1).alloc o2).heap[w.heap.size + 1]? = some o2 := by
  have := heap_alloc_new (w.alloc o1) o2
  rwa [World.size_alloc] at this
theorem heap2_old (w : World) (o1 o2 : Obj) : ((w.alloc o1).alloc o2).heap[w.heap.size]? = some o1 := (Below.heap_alloc _ _ _ (by simp)).trans (heap_alloc_new w o1)
theorem held_below {w w' : World} {es : List ByteE} (h : ∀ e ∈ es, byteKind.held w e) (hb : Below w.heap.size w w') : ∀ e ∈ es, byteKind.held w' e := fun e he => byteKind_ok.below (h e he) hb
set_option maxHeartbeats 2000000 in
set_option maxRecDepth 100000 in
theorem order_walk (ao : Option Addr) (m c : Nat) (es : List ByteE) (w : World) (hm0 : m ≤ 5864062014634) (hes0 : ∀ e ∈ es, e.bytes.length ≤ 140737488351232) (hs : RSrc byteKind w ao m c es) :
    Calls Try.prog 7 #[.slice ao m c] w fun e w' => e = .returned (.bool true) ∧ Below w.heap.size w w' := by
  obtain ⟨i0, hi, hz0, hz1, hz2⟩ := info_parts22 info22
  have hm : m ≤ 8796093022208 := by omega
  have hes : ∀ e ∈ es, e.bytes.length + 1 ≤ 140737488355328 := fun e he => by have := hes0 e he; omega
  have hel := hs.len
  have HS := keep hs
  have HE := keep hes
  clear hs hes hes0
  go_enter Try.func7, Try.ntmps7
  go_wp2_with fail
  refine (awake_any w).mono ?_
  rintro e w1 ⟨rfl, hb1⟩
  have B1 := keep hb1
  clear hb1
  go_wp2
  go_loopw [4, 5] (fun v i wr => ∃ k : Nat, k ≤ m ∧ i = .int .i64 ((k : Int) - 1) ∧ Hid (wr.ownsRow w.heap.size 28 1 v (m - k) (rv byteKind (es.reverse.take (m - k)))) ∧ Hid (Below w.heap.size w wr)) (fun _ i _ => (intOf i + 1).toNat)
  case atStart => exact ⟨m, Nat.le_refl _, rfl, by rw [Nat.sub_self, List.take_zero]; exact World.ownsRow_nil _ _ _ _, B1⟩
  case round =>
    clear B1
    obtain ⟨k, hk, rfl, hO, hB⟩ := hrel
    rcases Nat.eq_zero_or_pos k with h0 | h0
    · subst h0
      rw [Nat.sub_zero, List.take_of_length_le (by rw [List.length_reverse]; omega)] at hO
      have HR : Hid (∀ e ∈ es.reverse, byteKind.held w e) := fun e he => HS.out.held e (List.mem_reverse.1 he)
      obtain ⟨ab, cb, rfl, hrb, _⟩ := RSrc.own byteKind_ok hO.out (held_below HR.out hB.out)
      have RB := keep hrb
      clear hrb hO
      have e0 : ((0 : Nat) : Int) - 1 = -1 := by omega
      rw [e0]
      clear e0
      rcases Nat.eq_zero_or_pos m with hm1 | hm1
      · subst hm1
        go_wp2
        go_ret
        exact ⟨rfl, hB.out⟩
      · have hm2 : ¬ (m : Int) = 0 := by omega
        obtain ⟨b, off, rfl, hbw, hby⟩ := HS.out.form byteKind_ok hm1
        obtain ⟨e, he⟩ : ∃ e, es[0]? = some e := ⟨es[0], List.getElem?_eq_getElem (by omega)⟩
        have hold := hby 0 e he 0 _ rfl
        simp only [byteKind, Nat.zero_mul, Nat.add_zero] at hold
        have HOLD := keep hold
        have hcell : wr.cell? ⟨b, off, none⟩ = some (.slice e.ptr e.bytes.length e.cap) := belowc hB.out hold
        obtain ⟨j, hj⟩ : ∃ j, m = j + 1 := ⟨m - 1, by omega⟩
        subst hj
        have hj0 : (0 : Int) ≤ (j : Int) := by omega
        have hjl : (j : Int) < (j : Int) + 1 := by omega
        have hjl2 : (j : Int) < ((j + 1 : Nat) : Int) := by omega
        have hjl3 : j < j + 1 := by omega
        have hju : (j : Int) ≤ 5864062014634 := by omega
        have hjw : IntKind.i64.wrap (j : Int) = (j : Int) := wrap_small _ (by omega) (by omega)
        obtain ⟨e2, he2⟩ : ∃ e2, es[j]? = some e2 := ⟨es[j], List.getElem?_eq_getElem (by omega)⟩
        have hold2 := hby j e2 he2 0 _ rfl
        simp only [byteKind, Nat.mul_one, Nat.add_zero] at hold2
        have HOLD2 := keep hold2
        have hmem8 : Hid (e2 ∈ es) := List.mem_of_getElem? he2
        clear hby hold hold2 he2
        have hl1 : (0 : Int) < (j : Int) + 1 := by omega
        go_wp2_with fail
        have hmem7 : Hid (e ∈ es) := List.mem_of_getElem? he
        have ONE : Hid (∀ u ∈ rv byteKind es, u.oneCell' = true) := rv_one byteKind_ok es
        have SAME1 : Hid (Bl.build (es.map (·.bytes)) = Bl.build (es.reverse.map (·.bytes))) := Bl.build_same (by simp) (fun k => by simp)
        have SAME2 : Hid (Bl.build ((es ++ [e]).map (·.bytes)) = Bl.build ((es ++ [e2]).map (·.bytes))) := Bl.build_same (by simp) (fun k => by
          have h1 := hmem7.out
          have h2 := hmem8.out
          simp only [List.map_append, List.map_cons, List.map_nil, List.mem_append, List.mem_map, List.mem_singleton]
          constructor
          · rintro (h | rfl)
            · exact .inl h
            · exact .inl ⟨e, h1, rfl⟩
          · rintro (h | rfl)
            · exact .inl h
            · exact .inl ⟨e2, h2, rfl⟩)
        have LEN : Hid ((rv byteKind es).length = (j + 1) * 1) := by show _ = _; rw [rv_length byteKind_ok, hel]; rfl
        have NW7 : Hid (∀ W', Below wr.heap.size wr W' → ∀ j u, (rv byteKind es)[j]? = some u → W'.cell? ((⟨b, off, none⟩ : Addr).add j) = some u) := fun W' hb => ((HS.out.below byteKind_ok hB.out).below byteKind_ok hb).cells _ rfl
        have HH7 : Hid (∀ W', Below wr.heap.size wr W' → ∀ x ∈ es ++ [e], byteKind.held W' x) := fun W' hb x hx => byteKind_ok.below (HS.out.held x (by rcases List.mem_append.1 hx with h | h; exact h; rw [List.mem_singleton.1 h]; exact hmem7.out)) ((hB.out).trans (hb.mono (hB.out).size))
        have HE7 : Hid (∀ x ∈ es ++ [e], x.bytes.length + 1 ≤ 140737488355328) := fun x hx => HE.out x (by rcases List.mem_append.1 hx with h | h; exact h; rw [List.mem_singleton.1 h]; exact hmem7.out)
        have E7 : Hid (∀ u ∈ [Value.slice e.ptr e.bytes.length e.cap], u.oneCell' = true) := fun u hu => by rw [List.mem_singleton.1 hu]; rfl
        go_region_held3 (fun w' => w'.cell? ⟨b, off, none⟩ = some (.slice e.ptr e.bytes.length e.cap))
          (first | exact hcell | exact belowc ((Below.refl _ wr).drew.alloc (Nat.le_refl _) _) hcell | exact belowc (((Below.refl _ wr).drew.alloc (Nat.le_refl _) _).alloc (by simp) _) hcell | exact belowc b7.out hcell | exact belowc b6.out hcell | exact belowc b5.out hcell | exact belowc (b5.out.alloc b5.out.size _) hcell)
          (first
            | (refine step_append_lies _ (by rfl) _ _ _ (by rfl) wr.heap.size 28 i0 _ 1 24 Try.underlying33 hi hz0 hz1 hz2 rfl (by omega) (.slice (some ⟨wr.heap.size, 0, none⟩) 0 0) 0 [] (by rfl) (by exact own_empty2 (by simp)) ⟨b, off, none⟩ (j + 1) c (rv byteKind es) (by rfl) LEN.out (NW7.out _ ((Below.refl _ wr).drew.alloc (Nat.le_refl _) _)) ONE.out hm1 (by unfold maxLen; omega) (by omega) (by simp <;> omega) _ rfl ?_; intro g5 cap5 w5 hown5 hgrow5 hat5 hlt5; have b5 := keep (Below.grown ((Below.refl _ wr).drew.alloc (Nat.le_refl _) _) hgrow5 (by simp <;> omega) (fun j hj => by cases hj; (first | exact Nat.le_refl _ | exact Nat.le_succ _))); have o5 := keep hown5; simp only [Nat.zero_add, List.nil_append] at o5; clear hown5 hgrow5 hat5 hlt5)
            | (refine step_append_lies _ (by rfl) _ _ _ (by rfl) wr.heap.size 28 i0 _ 1 24 Try.underlying33 hi hz0 hz1 hz2 rfl (by omega) (.slice (some ⟨wr.heap.size, 0, none⟩) 0 0) 0 [] (by rfl) (by exact (own_empty2 (by simp)).alloc _) ⟨b, off, none⟩ (j + 1) c (rv byteKind es) (by rfl) LEN.out (NW7.out _ (((Below.refl _ wr).drew.alloc (Nat.le_refl _) _).alloc (by simp) _)) ONE.out hm1 (by unfold maxLen; omega) (by omega) (by simp <;> omega) _ rfl ?_; intro g5 cap5 w5 hown5 hgrow5 hat5 hlt5; have b5 := keep (Below.grown (((Below.refl _ wr).drew.alloc (Nat.le_refl _) _).alloc (by simp) _) hgrow5 (by simp <;> omega) (fun j hj => by cases hj; (first | exact Nat.le_refl _ | exact Nat.le_succ _))); have o5 := keep hown5; simp only [Nat.zero_add, List.nil_append] at o5; have n5 : Hid (∀ j u, [Value.slice e.ptr e.bytes.length e.cap][j]? = some u → w5.cell? ((⟨wr.heap.size + 1, 0, none⟩ : Addr).add j) = some u) := (World.news_of_block (cs := #[.slice e.ptr e.bytes.length e.cap]) (t := 28) (fr := (0, 0)) ((hgrow5.block (wr.heap.size + 1) (by simp <;> omega) (by simp [Value.ownBlock])).trans (heap2_new wr.drew _ _))); clear hown5 hgrow5 hat5 hlt5)
            | (refine step_append_lies _ (by rfl) _ _ _ (by rfl) wr.heap.size 28 i0 _ 1 24 Try.underlying33 hi hz0 hz1 hz2 rfl (by omega) (.slice (some ⟨wr.heap.size + 1, 0, none⟩) 0 0) 0 [] (by rfl) (by exact own_empty3 (w := wr.drew) (Nat.le_refl _) _) ⟨b, off, none⟩ (j + 1) c (rv byteKind es) (by rfl) LEN.out (NW7.out _ (((Below.refl _ wr).drew.alloc (Nat.le_refl _) _).alloc (by simp) _)) ONE.out hm1 (by unfold maxLen; omega) (by omega) (by simp <;> omega) _ rfl ?_; intro g5 cap5 w5 hown5 hgrow5 hat5 hlt5; have b5 := keep (Below.grown (((Below.refl _ wr).drew.alloc (Nat.le_refl _) _).alloc (by simp) _) hgrow5 (by simp <;> omega) (fun j hj => by cases hj; (first | exact Nat.le_refl _ | exact Nat.le_succ _))); have o5 := keep hown5; simp only [Nat.zero_add, List.nil_append] at o5; have n5 : Hid (∀ j u, [Value.slice e.ptr e.bytes.length e.cap][j]? = some u → w5.cell? ((⟨wr.heap.size, 0, none⟩ : Addr).add j) = some u) := (World.news_of_block (cs := #[.slice e.ptr e.bytes.length e.cap]) (t := 28) (fr := (0, 0)) ((hgrow5.block (wr.heap.size) (by simp <;> omega) (by simp [Value.ownBlock])).trans (heap2_old wr.drew _ _))); clear hown5 hgrow5 hat5 hlt5)
            | (refine step_append_lies _ (by rfl) _ _ _ (by rfl) wr.heap.size 28 i0 _ 1 24 Try.underlying33 hi hz0 hz1 hz2 rfl (by omega) (.slice (some ⟨g5, 0, none⟩) (j + 1) cap5) (j + 1) (rv byteKind es) (by first | rfl | (show Value.slice (some ⟨g5, 0, none⟩) (0 + (j + 1)) cap5 = _; rw [Nat.zero_add])) (by exact o5.out.alloc _) ⟨w5.heap.size, 0, none⟩ 1 1 [.slice e.ptr e.bytes.length e.cap] (by rfl) rfl (by exact rec_cells (k := byteKind) w5 28 e) E7.out (by omega) (by unfold maxLen; omega) (by omega) (le_alloc b5.out.size _) _ rfl ?_; intro g6 cap6 w6 hown6 hgrow6 hat6 hlt6; have b6 := keep (Below.grown (b5.out.alloc b5.out.size _) hgrow6 (le_alloc b5.out.size _) (fun j hj => by cases hj; exact (o5.out.lt _ rfl).1)); obtain ⟨ax, cx, ex, rx, _⟩ := RSrc.own byteKind_ok (es := es ++ [e]) (by rw [rv_append]; exact hown6) (HH7.out _ b6.out); cases ex; have R6 := keep rx; clear hown6 hgrow6 hat6 hlt6 o5 rx)
            | (refine step_append_lies _ (by rfl) _ _ _ (by rfl) wr.heap.size 28 i0 _ 1 24 Try.underlying33 hi hz0 hz1 hz2 rfl (by omega) (.slice (some ⟨g5, 0, none⟩) (j + 1) cap5) (j + 1) (rv byteKind es) (by first | rfl | (show Value.slice (some ⟨g5, 0, none⟩) (0 + (j + 1)) cap5 = _; rw [Nat.zero_add])) (by exact o5.out) ⟨wr.heap.size + 1, 0, none⟩ 1 1 [.slice e.ptr e.bytes.length e.cap] (by rfl) rfl (by exact n5.out) E7.out (by omega) (by unfold maxLen; omega) (by omega) b5.out.size _ rfl ?_; intro g6 cap6 w6 hown6 hgrow6 hat6 hlt6; have b6 := keep (Below.grown b5.out hgrow6 b5.out.size (fun j hj => by cases hj; exact (o5.out.lt _ rfl).1)); obtain ⟨ax, cx, ex, rx, _⟩ := RSrc.own byteKind_ok (es := es ++ [e]) (by rw [rv_append]; exact hown6) (HH7.out _ b6.out); cases ex; have R6 := keep rx; clear hown6 hgrow6 hat6 hlt6 o5 rx)
            | (refine step_append_lies _ (by rfl) _ _ _ (by rfl) wr.heap.size 28 i0 _ 1 24 Try.underlying33 hi hz0 hz1 hz2 rfl (by omega) (.slice (some ⟨g5, 0, none⟩) (j + 1) cap5) (j + 1) (rv byteKind es) (by first | rfl | (show Value.slice (some ⟨g5, 0, none⟩) (0 + (j + 1)) cap5 = _; rw [Nat.zero_add])) (by exact o5.out) ⟨wr.heap.size, 0, none⟩ 1 1 [.slice e.ptr e.bytes.length e.cap] (by rfl) rfl (by exact n5.out) E7.out (by omega) (by unfold maxLen; omega) (by omega) b5.out.size _ rfl ?_; intro g6 cap6 w6 hown6 hgrow6 hat6 hlt6; have b6 := keep (Below.grown b5.out hgrow6 b5.out.size (fun j hj => by cases hj; exact (o5.out.lt _ rfl).1)); obtain ⟨ax, cx, ex, rx, _⟩ := RSrc.own byteKind_ok (es := es ++ [e]) (by rw [rv_append]; exact hown6) (HH7.out _ b6.out); cases ex; have R6 := keep rx; clear hown6 hgrow6 hat6 hlt6 o5 rx)
            | (go_at_call 16; refine (build_any _ ((j + 1) + 1) _ (es ++ [e]) _ (by omega) HE7.out R6.out).mono ?_; rintro ex w7 ⟨v7, rfl, hv⟩; obtain ⟨a7, c7, rfl, hsx, _⟩ := hv.src; have S7 := keep hsx; have b7 := keep (b6.out.trans (hv.2.mono b6.out.size)); clear hv hsx R6))
        all_goals
          have B7 := keep (hB.out.trans (b7.out.mono hB.out.size))
          have hcell2 : w7.cell? ⟨b, off + j, none⟩ = some (.slice e2.ptr e2.bytes.length e2.cap) := belowc B7.out HOLD2.out
          have NW8 : Hid (∀ W', Below w7.heap.size w7 W' → ∀ j u, (rv byteKind es)[j]? = some u → W'.cell? ((⟨b, off, none⟩ : Addr).add j) = some u) := fun W' hb => ((HS.out.below byteKind_ok (hB.out.trans (b7.out.mono hB.out.size))).below byteKind_ok hb).cells _ rfl
          have HH8 : Hid (∀ W', Below w7.heap.size w7 W' → ∀ x ∈ es ++ [e2], byteKind.held W' x) := fun W' hb x hx => byteKind_ok.below (HS.out.held x (by rcases List.mem_append.1 hx with h | h; exact h; rw [List.mem_singleton.1 h]; exact hmem8.out)) (((hB.out.trans (b7.out.mono hB.out.size))).trans (hb.mono ((hB.out.trans (b7.out.mono hB.out.size))).size))
          have HE8 : Hid (∀ x ∈ es ++ [e2], x.bytes.length + 1 ≤ 140737488355328) := fun x hx => HE.out x (by rcases List.mem_append.1 hx with h | h; exact h; rw [List.mem_singleton.1 h]; exact hmem8.out)
          have E8 : Hid (∀ u ∈ [Value.slice e2.ptr e2.bytes.length e2.cap], u.oneCell' = true) := fun u hu => by rw [List.mem_singleton.1 hu]; rfl
          go_wp2_with fail
          go_region_held3 (fun w' => w'.cell? ⟨b, off + j, none⟩ = some (.slice e2.ptr e2.bytes.length e2.cap))
            (first | exact hcell2 | exact belowc ((Below.refl _ w7).drew.alloc (Nat.le_refl _) _) hcell2 | exact belowc (((Below.refl _ w7).drew.alloc (Nat.le_refl _) _).alloc (by simp) _) hcell2 | exact belowc b8.out hcell2 | exact belowc b6.out hcell2 | exact belowc b5.out hcell2 | exact belowc (b5.out.alloc b5.out.size _) hcell2)
            (first
              | (refine step_append_lies _ (by rfl) _ _ _ (by rfl) w7.heap.size 28 i0 _ 1 24 Try.underlying33 hi hz0 hz1 hz2 rfl (by omega) (.slice (some ⟨w7.heap.size, 0, none⟩) 0 0) 0 [] (by rfl) (by exact own_empty2 (by simp)) ⟨b, off, none⟩ (j + 1) c (rv byteKind es) (by rfl) LEN.out (NW8.out _ ((Below.refl _ w7).drew.alloc (Nat.le_refl _) _)) ONE.out hm1 (by unfold maxLen; omega) (by omega) (by simp <;> omega) _ rfl ?_; intro g5 cap5 w5 hown5 hgrow5 hat5 hlt5; have b5 := keep (Below.grown ((Below.refl _ w7).drew.alloc (Nat.le_refl _) _) hgrow5 (by simp <;> omega) (fun j hj => by cases hj; (first | exact Nat.le_refl _ | exact Nat.le_succ _))); have o5 := keep hown5; simp only [Nat.zero_add, List.nil_append] at o5; clear hown5 hgrow5 hat5 hlt5)
              | (refine step_append_lies _ (by rfl) _ _ _ (by rfl) w7.heap.size 28 i0 _ 1 24 Try.underlying33 hi hz0 hz1 hz2 rfl (by omega) (.slice (some ⟨w7.heap.size, 0, none⟩) 0 0) 0 [] (by rfl) (by exact (own_empty2 (by simp)).alloc _) ⟨b, off, none⟩ (j + 1) c (rv byteKind es) (by rfl) LEN.out (NW8.out _ (((Below.refl _ w7).drew.alloc (Nat.le_refl _) _).alloc (by simp) _)) ONE.out hm1 (by unfold maxLen; omega) (by omega) (by simp <;> omega) _ rfl ?_; intro g5 cap5 w5 hown5 hgrow5 hat5 hlt5; have b5 := keep (Below.grown (((Below.refl _ w7).drew.alloc (Nat.le_refl _) _).alloc (by simp) _) hgrow5 (by simp <;> omega) (fun j hj => by cases hj; (first | exact Nat.le_refl _ | exact Nat.le_succ _))); have o5 := keep hown5; simp only [Nat.zero_add, List.nil_append] at o5; have n5 : Hid (∀ j u, [Value.slice e2.ptr e2.bytes.length e2.cap][j]? = some u → w5.cell? ((⟨w7.heap.size + 1, 0, none⟩ : Addr).add j) = some u) := (World.news_of_block (cs := #[.slice e2.ptr e2.bytes.length e2.cap]) (t := 28) (fr := (0, 0)) ((hgrow5.block (w7.heap.size + 1) (by simp <;> omega) (by simp [Value.ownBlock])).trans (heap2_new w7.drew _ _))); clear hown5 hgrow5 hat5 hlt5)
              | (refine step_append_lies _ (by rfl) _ _ _ (by rfl) w7.heap.size 28 i0 _ 1 24 Try.underlying33 hi hz0 hz1 hz2 rfl (by omega) (.slice (some ⟨w7.heap.size + 1, 0, none⟩) 0 0) 0 [] (by rfl) (by exact own_empty3 (w := w7.drew) (Nat.le_refl _) _) ⟨b, off, none⟩ (j + 1) c (rv byteKind es) (by rfl) LEN.out (NW8.out _ (((Below.refl _ w7).drew.alloc (Nat.le_refl _) _).alloc (by simp) _)) ONE.out hm1 (by unfold maxLen; omega) (by omega) (by simp <;> omega) _ rfl ?_; intro g5 cap5 w5 hown5 hgrow5 hat5 hlt5; have b5 := keep (Below.grown (((Below.refl _ w7).drew.alloc (Nat.le_refl _) _).alloc (by simp) _) hgrow5 (by simp <;> omega) (fun j hj => by cases hj; (first | exact Nat.le_refl _ | exact Nat.le_succ _))); have o5 := keep hown5; simp only [Nat.zero_add, List.nil_append] at o5; have n5 : Hid (∀ j u, [Value.slice e2.ptr e2.bytes.length e2.cap][j]? = some u → w5.cell? ((⟨w7.heap.size, 0, none⟩ : Addr).add j) = some u) := (World.news_of_block (cs := #[.slice e2.ptr e2.bytes.length e2.cap]) (t := 28) (fr := (0, 0)) ((hgrow5.block (w7.heap.size) (by simp <;> omega) (by simp [Value.ownBlock])).trans (heap2_old w7.drew _ _))); clear hown5 hgrow5 hat5 hlt5)
              | (refine step_append_lies _ (by rfl) _ _ _ (by rfl) w7.heap.size 28 i0 _ 1 24 Try.underlying33 hi hz0 hz1 hz2 rfl (by omega) (.slice (some ⟨g5, 0, none⟩) (j + 1) cap5) (j + 1) (rv byteKind es) (by first | rfl | (show Value.slice (some ⟨g5, 0, none⟩) (0 + (j + 1)) cap5 = _; rw [Nat.zero_add])) (by exact o5.out.alloc _) ⟨w5.heap.size, 0, none⟩ 1 1 [.slice e2.ptr e2.bytes.length e2.cap] (by rfl) rfl (by exact rec_cells (k := byteKind) w5 28 e2) E8.out (by omega) (by unfold maxLen; omega) (by omega) (le_alloc b5.out.size _) _ rfl ?_; intro g6 cap6 w6 hown6 hgrow6 hat6 hlt6; have b6 := keep (Below.grown (b5.out.alloc b5.out.size _) hgrow6 (le_alloc b5.out.size _) (fun j hj => by cases hj; exact (o5.out.lt _ rfl).1)); obtain ⟨ax, cx, ex, rx, _⟩ := RSrc.own byteKind_ok (es := es ++ [e2]) (by rw [rv_append]; exact hown6) (HH8.out _ b6.out); cases ex; have R6 := keep rx; clear hown6 hgrow6 hat6 hlt6 o5 rx)
              | (refine step_append_lies _ (by rfl) _ _ _ (by rfl) w7.heap.size 28 i0 _ 1 24 Try.underlying33 hi hz0 hz1 hz2 rfl (by omega) (.slice (some ⟨g5, 0, none⟩) (j + 1) cap5) (j + 1) (rv byteKind es) (by first | rfl | (show Value.slice (some ⟨g5, 0, none⟩) (0 + (j + 1)) cap5 = _; rw [Nat.zero_add])) (by exact o5.out) ⟨w7.heap.size + 1, 0, none⟩ 1 1 [.slice e2.ptr e2.bytes.length e2.cap] (by rfl) rfl (by exact n5.out) E8.out (by omega) (by unfold maxLen; omega) (by omega) b5.out.size _ rfl ?_; intro g6 cap6 w6 hown6 hgrow6 hat6 hlt6; have b6 := keep (Below.grown b5.out hgrow6 b5.out.size (fun j hj => by cases hj; exact (o5.out.lt _ rfl).1)); obtain ⟨ax, cx, ex, rx, _⟩ := RSrc.own byteKind_ok (es := es ++ [e2]) (by rw [rv_append]; exact hown6) (HH8.out _ b6.out); cases ex; have R6 := keep rx; clear hown6 hgrow6 hat6 hlt6 o5 rx)
              | (refine step_append_lies _ (by rfl) _ _ _ (by rfl) w7.heap.size 28 i0 _ 1 24 Try.underlying33 hi hz0 hz1 hz2 rfl (by omega) (.slice (some ⟨g5, 0, none⟩) (j + 1) cap5) (j + 1) (rv byteKind es) (by first | rfl | (show Value.slice (some ⟨g5, 0, none⟩) (0 + (j + 1)) cap5 = _; rw [Nat.zero_add])) (by exact o5.out) ⟨w7.heap.size, 0, none⟩ 1 1 [.slice e2.ptr e2.bytes.length e2.cap] (by rfl) rfl (by exact n5.out) E8.out (by omega) (by unfold maxLen; omega) (by omega) b5.out.size _ rfl ?_; intro g6 cap6 w6 hown6 hgrow6 hat6 hlt6; have b6 := keep (Below.grown b5.out hgrow6 b5.out.size (fun j hj => by cases hj; exact (o5.out.lt _ rfl).1)); obtain ⟨ax, cx, ex, rx, _⟩ := RSrc.own byteKind_ok (es := es ++ [e2]) (by rw [rv_append]; exact hown6) (HH8.out _ b6.out); cases ex; have R6 := keep rx; clear hown6 hgrow6 hat6 hlt6 o5 rx)
              | (go_at_call 16; refine (build_any _ ((j + 1) + 1) _ (es ++ [e2]) _ (by omega) HE8.out R6.out).mono ?_; rintro ex w8 ⟨v8, rfl, hv⟩; obtain ⟨a8, c8, rfl, hsx, _⟩ := hv.src; have S8 := keep hsx; have b8 := keep (b6.out.trans (hv.2.mono b6.out.size)); clear hv hsx R6))
        all_goals
          have B8 := keep (B7.out.trans (b8.out.mono B7.out.size))
          go_wp2_with fail
          refine (build_any (some ⟨b, off, none⟩) (j + 1) c es w8 hm HE.out (HS.out.below byteKind_ok B8.out)).mono ?_
          rintro ex w9 ⟨v9, rfl, hv9⟩
          obtain ⟨a9, c9, rfl, hs9, _⟩ := hv9.src
          have S9 := keep hs9
          have b9 := keep (b8.out.trans (hv9.2.mono b8.out.size))
          have d9 := keep hv9.2
          clear hv9 hs9
          go_wp2_with fail
          refine (build_any ab (j + 1) cb es.reverse w9 hm (fun x hx => HE.out x (List.mem_reverse.1 hx)) ((RB.out.below byteKind_ok b7.out).below byteKind_ok b9.out)).mono ?_
          rintro ex wa ⟨va, rfl, hva⟩
          obtain ⟨aa, ca, rfl, hsa, _⟩ := hva.src
          have SA := keep hsa
          have S9' := keep (S9.out.below hva.2)
          have bA := keep (b9.out.trans (hva.2.mono b9.out.size))
          have dA := keep (d9.out.trans (hva.2.mono d9.out.size))
          clear hva hsa
          go_wp2_with fail
          refine (same_any _ _ _ _ _ _ _ _ wa S9'.out SA.out).mono ?_
          rintro ex wb ⟨rfl, hbb⟩
          rw [decide_eq_true SAME1.out]
          have bB := keep (bA.out.trans (hbb.mono bA.out.size))
          have dB := keep (dA.out.trans (hbb.mono dA.out.size))
          clear hbb
          go_wp2_with fail
          refine (same_any _ _ _ _ _ _ _ _ wb (S7.out.below bB.out) (S8.out.below dB.out)).mono ?_
          rintro ex wc ⟨rfl, hbc⟩
          rw [decide_eq_true SAME2.out]
          have BC := keep (B7.out.trans ((bB.out.trans (hbc.mono bB.out.size)).mono B7.out.size))
          clear hbc
          go_wp2
          go_ret
          exact ⟨rfl, BC.out⟩
    · obtain ⟨j, rfl⟩ : ∃ j, k = j + 1 := ⟨k - 1, by omega⟩
      have e0 : ((j + 1 : Nat) : Int) - 1 = (j : Int) := by omega
      rw [e0]
      clear e0
      obtain ⟨b, off, rfl, hbw, hby⟩ := HS.out.form byteKind_ok (by omega)
      obtain ⟨e, he⟩ : ∃ e, es[j]? = some e := ⟨es[j], List.getElem?_eq_getElem (by omega)⟩
      have hcell : wr.cell? ⟨b, off + j, none⟩ = some (.slice e.ptr e.bytes.length e.cap) := by
        rw [hB.out.cell (p := ⟨b, off + j, none⟩) hbw]
        have := hby j e he 0 _ rfl
        simpa [byteKind] using this
      have hl1 : (j : Int) < (m : Int) := by omega
      have hl2 : (0 : Int) ≤ (j : Int) := by omega
      have HT : Hid (es.reverse.take (m - j) = es.reverse.take (m - (j + 1)) ++ [e]) := by
        show _ = _
        have h1 : m - j = m - (j + 1) + 1 := by omega
        rw [h1, List.take_add_one]
        congr 1
        rw [List.getElem?_reverse (by omega)]
        have h2 : es.length - 1 - (m - (j + 1)) = j := by omega
        rw [h2, he]
        rfl
      have e1 : m - j = m - (j + 1) + 1 := by omega
      have E1 := keep e1
      clear e1 hby he
      obtain ⟨K, hK⟩ : ∃ K, m - (j + 1) = K := ⟨_, rfl⟩
      rw [hK] at hO HT E1
      have hKm : K ≤ 5864062014634 := by omega
      clear hK
      go_wp2_with (at_builtin; refine wpList_append_rec byteKind_ok rfl _ _ 33 28 rfl w.heap.size i0 _ 24 Try.underlying33 hi hz0 hz1 hz2 rfl _ K _ rfl (by exact hO.out.alloc _) _ 1 e rfl (rec_cells wr 28 e) (by unfold maxLen; omega) (by omega) (le_alloc hB.out.size _) ?_; intro v2 w2 ho2 hg2; have O2 := keep ho2; have B2 := keep ((hB.out.alloc hB.out.size _).grown hg2 (le_alloc hB.out.size _) (fun j hj => (hO.out.lt j hj).1)); clear ho2 hg2)
      go_roundw
      case rel => exact ⟨j, by omega, by go_num, by rw [E1.out] at HT ⊢; rw [HT.out]; exact O2, B2⟩
      case measure => simp [intOf]
end Go.Proofs.Ytgfbhbmaibcadab
