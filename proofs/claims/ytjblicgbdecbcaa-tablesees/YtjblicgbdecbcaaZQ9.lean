/- A range over a function that turns memory of its own between the rounds: caller and iterator share one state; no walk. -/
import Derived.Test.YtjblicgbdecbcaaZQ8j
import Derived.Test.YtjblicgbdecbcaaZB0
namespace Go.Proofs.Ytjblicgbdecbcaa
open Go.RowKit Go.Shelf

/-- The states go from s0, one round each: in state s the iterator hands out enc s, and the round leaves state nx s. -/
theorem rangeFunc_state {F : Fence} {n : Nat} {P : Program} {σ : Type} {g : Operand} {ps : Array Tmp} {assign body : Code} {Q : Exit → Act → World → Prop} {a : Act} {w : World}
    (hro : F.round = none) (h1 : 1 ≤ n) {gf : Nat} {lb : Array Value} (hg : a.eval g = .func (.func gf) #[] lb) (hFg : F.fn gf) (eg : ∀ args w, (callFunc gf args).run P w = .ok (.enter gf args) w)
    (I : σ → World → Prop) (enc : σ → Array Value) (nx : σ → σ) (more fin : σ → Prop) (s0 : σ) (hps : ∀ s, (enc s).size = ps.size)
    (hIa : ∀ s W o, I s W → I s (W.alloc o))
    (hIp : ∀ s W l o o', I s W → w.heap.size ≤ l → W.heap[l]? = some o → o.isCells = false → I s (W.putObj l o'))
    (h0 : I s0 w) (Ax : σ → Act → World → Prop)
    (hAp : ∀ s a' W l o o', Ax s a' W → w.heap.size ≤ l → W.heap[l]? = some o → o.isCells = false → Ax s a' (W.putObj l o'))
    (hseq : ∀ (l : Nat) (Bk : World → Prop), (∀ A B, Bk A → KeepsFrom w.heap.size A B → Bk B) →
      (∀ s W, I s W → more s → Bk W → YieldAt F (n - 1 - 1) P l (enc s) W fun e W' => e = .returned (.bool true) ∧ I (nx s) W' ∧ Bk W') →
      ∀ W, I s0 W → Bk W → CallsIn F (n - 1) P gf (#[.func (.yield l) #[] #[]] ++ lb) W fun e W' => (∃ v, e = .returned v) ∧ ∃ s, fin s ∧ I s W' ∧ Bk W')
    (hassign : ∀ (l : Nat) (s : σ) (W : World) (K : Act → World → Prop), I s W → more s → (∀ a' W', KeepsFrom w.heap.size W W' → I s W' → Ax s a' W' → K a' W') →
      assign.wpIn (F.inRound l) (n - 1 - 1) P (Exit.then K (fun _ _ _ => False)) { tmps := (ps.zip (enc s)).foldl (fun t (p, v) => t.setIfInBounds p v) a.tmps, defers := [] } W)
    (hbody : ∀ (l : Nat) (s : σ) (a' : Act) (W : World), I s W → more s → Ax s a' W → body.wpIn (F.inRound l) (n - 1 - 1) P (OnlyN fun _ W' => KeepsFrom w.heap.size W W' ∧ I (nx s) W') a' W)
    (hdone : ∀ (D : Nat) (s : σ) (W : World), w.heap.size ≤ D → fin s → I s W → W.heap[D]? = some (.deferred (some [])) → Q .normal { a with defers := { target := .collected D, args := #[] } :: a.defers } W) :
    (Code.rangeFunc g ps assign body).wpIn F n P Q a w := by
  refine wpIn_rangeFunc ?_
  intro fn hfn
  rw [hro]
  obtain ⟨rec, hrec⟩ : ∃ rec : LoopState → Loop, rec = fun st => { state := st, pending := none, fn, tmps := a.tmps, params := ps, assign, body, defers := w.heap.size } := ⟨_, rfl⟩
  obtain ⟨W1, hW1⟩ : ∃ W1, (w.alloc (.deferred (some []))).alloc (.loop (rec .ready)) = W1 := ⟨_, rfl⟩
  have hL1 : W1.heap[w.heap.size + 1]? = some (.loop (rec .ready)) := by
    have := World.alloc_heap_new (w.alloc (.deferred (some []))) (.loop (rec .ready))
    rw [World.size_alloc] at this
    rw [← hW1]; exact this
  have hK1 : W1.heap[w.heap.size]? = some (.deferred (some [])) := by
    rw [← hW1]; exact (Below.heap_alloc _ _ _ (by simp)).trans (World.alloc_heap_new w _)
  have hI1 : I s0 W1 := by rw [← hW1]; exact hIa _ _ _ (hIa _ _ _ h0)
  refine ⟨w.heap.size + 1, [{ target := .collected w.heap.size, args := #[] }], W1, { target := .fn (.func gf) lb, args := #[.func (.yield (w.heap.size + 1)) #[] #[]] }, W1, gf,
    #[.func (.yield (w.heap.size + 1)) #[] #[]] ++ lb, W1, ?_, ?_, ?_, ?_, fun _ => h1, ?_⟩
  · rw [← hW1, hrec]; exact run_enterLoop_outer _ _ _ _ _
  · simp only [resolve, hg]
    simp [go_sem]
  · intro f' hf'; simp [Target.leads] at hf'; subst hf'; exact hFg
  · simp [invoke, go_sem, eg]
  · refine (hseq (w.heap.size + 1) (fun W => W.heap[w.heap.size + 1]? = some (.loop (rec .ready)) ∧ W.heap[w.heap.size]? = some (.deferred (some [])))
      (fun A B hA hk => ⟨hk.same _ _ (by omega) hA.1 rfl, hk.same _ _ (Nat.le_refl _) hA.2 rfl⟩) ?_ W1 hI1 ⟨hL1, hK1⟩).mono ?_
    · rintro s W hi hm ⟨hl, hk⟩
      have hy := run_yield (P := P) (args := enc s) hl (by rw [hrec]; exact hps s)
      rw [hrec] at hy
      refine ⟨fn, _, assign, body, hy, roundIn_of_wpIn hfn (hassign _ s W _ hi hm ?_)⟩
      intro a' Wa hka hia hax
      have hla := hka.same _ _ (by omega) hl rfl
      have hkaD := hka.same _ _ (Nat.le_refl _) hk rfl
      have hlt : w.heap.size + 1 < Wa.heap.size := (Array.getElem?_eq_some_iff.1 hla).1
      refine ⟨_, run_beginRound hla (by rw [hrec]), ?_⟩
      have hl2 : (Wa.putObj (w.heap.size + 1) (.loop { rec .ready with state := .busy })).heap[w.heap.size + 1]? = some (.loop { rec .ready with state := .busy }) := World.putObj_heap_same hlt
      have hk2 : (Wa.putObj (w.heap.size + 1) (.loop { rec .ready with state := .busy })).heap[w.heap.size]? = some (.deferred (some [])) := (World.putObj_heap_other (by omega)).trans hkaD
      refine wpIn_mono (hbody _ s a' _ (hIp _ _ _ _ _ hia (by omega) hla rfl) hm (hAp _ _ _ _ _ _ hax (by omega) hla rfl)) ?_
      rintro e a3 W3 hp
      cases e with
      | normal =>
        obtain ⟨hk3, hi3⟩ := hp
        have hl3 := hk3.same _ _ (by omega) hl2 rfl
        have hr := run_endRound (P := P) none hl3
        have hend : { { rec .ready with state := .busy } with state := (if (none : Option Code).isNone then LoopState.ready else .done), pending := none } = rec .ready := by rw [hrec]; rfl
        refine ⟨_, _, hr, rfl, hIp _ _ _ _ _ hi3 (by omega) hl3 rfl, ?_, (World.putObj_heap_other (by omega)).trans (hk3.same _ _ (Nat.le_refl _) hk2 rfl)⟩
        rw [World.putObj_heap_same (Array.getElem?_eq_some_iff.1 hl3).1]
        rw [hrec]
        rfl
      | _ => exact (hp : False).elim
    · rintro e W2 ⟨⟨v, rfl⟩, s, hS, hi, hl, hk⟩
      exact ⟨none, _, by have := run_endLoop (P := P) hl (by rw [hrec]; simp); rw [hrec] at this; exact this, hdone _ s _ (Nat.le_refl _) hS (hIp _ _ _ _ _ hi (by omega) hl rfl) ((World.putObj_heap_other (by omega)).trans hk)⟩
end Go.Proofs.Ytjblicgbdecbcaa
