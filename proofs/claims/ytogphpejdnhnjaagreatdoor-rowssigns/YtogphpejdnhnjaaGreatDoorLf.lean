/- The walks of disk's cost, made, mayBe and count. -/
import Derived.Test.YtogphpejdnhnjaaGreatDoorMe
import Derived.Lib.Bytealg
import Derived.Laws.LoneSync
import Derived.BigQuiet
namespace Go.Proofs.YtogphpejdnhnjaaGreatDoor
open Go.RowKit

set_option maxHeartbeats 1000000 in
set_option maxRecDepth 100000 in
theorem index_any (s : ByteArray) (w : World) :
    Calls Tryz.prog 190 #[.string s, .int .u8 0] w fun e w' => e = .returned (.int .i64 (Lib.indexByte s.data.toList 0)) ∧ w' = w := by
  go_enter Tryz.func190, Tryz.ntmps190
  go_wp2
  rw [run_callFunc_extern Tryz.func308 (by kernel_rfl) (by kernel_rfl) (by kernel_rfl) (e := Extern.BytealgIndexByte.indexByte) (by kernel_rfl), Lib.run_indexByteString]
  simp only [Result.andThen]
  rw [Oper.upon_value]
  go_wp2
  go_ret
  exact ⟨rfl, rfl⟩

theorem index_cons (b : UInt8) (t : List UInt8) : Lib.indexByte (b :: t) 0 < 0 ↔ b ≠ 0 ∧ Lib.indexByte t 0 < 0 := by
  have h1 := Lib.indexByte_ge t 0
  simp only [Lib.indexByte]
  by_cases hb : b = 0
  · subst hb; simp
  · have : (b == 0) = false := by simpa using hb
    by_cases h2 : Lib.indexByte t 0 = -1
    · simp [this, h2, hb]
    · have h3 : (Lib.indexByte t 0 == -1) = false := by simpa using h2
      simp [this, h3, hb]
      omega
theorem index_neg (l : List UInt8) : Lib.indexByte l 0 < 0 ↔ l.all (fun b => !(b == 0)) = true := by
  induction l with
  | nil => exact ⟨fun _ => rfl, fun _ => by decide⟩
  | cons b t ih => rw [index_cons, ih, List.all_cons]; simp

set_option maxHeartbeats 1000000 in
set_option maxRecDepth 100000 in
theorem cost_any (n : List UInt8) (ao : Option Addr) (m c : Nat) (w : World) (hn : n.length ≤ 4611686018427387904) (hm : m ≤ 4611686018427380000) :
    Calls Tryz.prog 202 #[.string ⟨n.toArray⟩, .slice ao m c] w fun e w' => e = .returned (.int .i64 (16 + (n.length : Int) + (m : Int))) ∧ w' = w := by
  go_enter Tryz.func202, Tryz.ntmps202
  go_wp2
  go_ret
  exact ⟨rfl, rfl⟩

theorem neq_map (w : World) (o : Option Nat) : (binOp .neq 83 (.map o) (.map none)).run Tryz.prog w = .ok (.bool o.isSome) w := by
  have h : ∀ d : Nat, (Op.equalIn (d + 1) 83 (.map o) (.map none)).run Tryz.prog w = .ok o.isNone w := fun d => by
    cases o <;> simp [Op.equalIn, run_underlying Tryz.underlying83]
  simp only [binOp]
  cases o <;> simp [Op.equal, Op.maxDepth, h 9999]

set_option maxHeartbeats 1000000 in
set_option maxRecDepth 100000 in
theorem made_box (b m : Nat) (w : World) (h : w.cell? ⟨b, 0, none⟩ = some (.map (some m))) :
    Calls Tryz.prog 128 #[.pointer (some ⟨b, 0, none⟩)] w fun e w' => e = .returned (.bool true) ∧ w' = w := by
  have hn := fun w => neq_map w (some m)
  simp only [Option.isSome_some] at hn
  go_enter Tryz.func128, Tryz.ntmps128
  go_wp2
  go_ret
  exact ⟨rfl, rfl⟩
set_option maxHeartbeats 1000000 in
set_option maxRecDepth 100000 in
theorem made_nil (w : World) :
    Calls Tryz.prog 128 #[.pointer none] w fun e w' => e = .returned (.bool false) ∧ w' = w := by
  go_enter Tryz.func128, Tryz.ntmps128
  go_wp2
  go_ret
  exact ⟨rfl, rfl⟩
set_option maxHeartbeats 1000000 in
set_option maxRecDepth 100000 in
theorem made_zero (b : Nat) (w : World) (h : w.cell? ⟨b, 0, none⟩ = some (.map none)) :
    Calls Tryz.prog 128 #[.pointer (some ⟨b, 0, none⟩)] w fun e w' => e = .returned (.bool false) ∧ w' = w := by
  have hn := fun w => neq_map w none
  simp only [Option.isSome_none] at hn
  go_enter Tryz.func128, Tryz.ntmps128
  go_wp2
  go_ret
  exact ⟨rfl, rfl⟩

theorem named_false {n : List UInt8} (h : Dk.named n = false) : n = [] ∨ 100 < n.length ∨ ¬ Lib.indexByte n 0 < 0 := by
  rcases Nat.eq_zero_or_pos n.length with h0 | h0
  · exact .inl (List.length_eq_zero_iff.1 h0)
  · rcases Nat.lt_or_ge 100 n.length with h1 | h1
    · exact .inr (.inl h1)
    · refine .inr (.inr fun e => ?_)
      rw [index_neg] at e
      unfold Dk.named at h
      rw [e] at h
      simp at h
      omega
theorem named_true {n : List UInt8} (h : Dk.named n = true) : 1 ≤ n.length ∧ n.length ≤ 100 ∧ Lib.indexByte n 0 < 0 := by
  unfold Dk.named at h
  simp only [Bool.and_eq_true, decide_eq_true_eq] at h
  exact ⟨h.1.1, h.1.2, (index_neg n).2 h.2⟩
set_option maxHeartbeats 1000000 in
set_option maxRecDepth 100000 in
theorem maybe_yes (n : List UInt8) (w : World) (hn : Dk.named n = true) :
    Calls Tryz.prog 129 #[.string ⟨n.toArray⟩] w fun e w' => e = .returned (.bool true) ∧ Below w.heap.size w w' := by
  obtain ⟨h1, h2, h3⟩ := named_true hn
  have h1' : n.isEmpty = false := by cases n with | nil => simp at h1 | cons => rfl
  have h2' : (n.length : Int) ≤ 100 := by omega
  clear h1 h2 hn
  obtain ⟨z, hz⟩ : ∃ z, Lib.indexByte n 0 = z := ⟨_, rfl⟩
  have hi := index_any ⟨n.toArray⟩
  rw [show (⟨n.toArray⟩ : ByteArray).data.toList = n from rfl, hz] at hi
  have HI := keep hi
  rw [hz] at h3
  clear hi hz
  go_enter Tryz.func129, Tryz.ntmps129
  go_wp2_with fail
  refine (HI.out _).mono ?_
  rintro e w1 ⟨rfl, rfl⟩
  go_wp2
  go_ret
  exact ⟨rfl, Below.refl _ _⟩
set_option maxHeartbeats 1000000 in
set_option maxRecDepth 100000 in
theorem maybe_no (n : List UInt8) (w : World) (hn : Dk.named n = false) :
    Calls Tryz.prog 129 #[.string ⟨n.toArray⟩] w fun e w' => e = .returned (.bool false) ∧ Below w.heap.size w w' := by
  have hc := named_false hn
  clear hn
  cases n with
  | nil =>
    clear hc
    go_enter Tryz.func129, Tryz.ntmps129
    go_wp2
    go_ret
    exact ⟨rfl, Below.refl _ _⟩
  | cons c t =>
    obtain ⟨n, hn⟩ : ∃ n, c :: t = n := ⟨_, rfl⟩
    have h1' : n.isEmpty = false := by rw [← hn]; rfl
    rw [hn] at hc ⊢
    rcases Nat.lt_or_ge 100 n.length with hl | hl
    · have h2' : ¬ (n.length : Int) ≤ 100 := by omega
      clear hc hn hl
      go_enter Tryz.func129, Tryz.ntmps129
      go_wp2
      go_ret
      exact ⟨rfl, Below.refl _ _⟩
    · have h2' : (n.length : Int) ≤ 100 := by omega
      have h3 : ¬ Lib.indexByte n 0 < 0 := by
        rcases hc with e | e | e
        · rw [e] at h1'; cases h1'
        · omega
        · exact e
      clear hc hn hl
      obtain ⟨z, hz⟩ : ∃ z, Lib.indexByte n 0 = z := ⟨_, rfl⟩
      have hi := index_any ⟨n.toArray⟩
      rw [show (⟨n.toArray⟩ : ByteArray).data.toList = n from rfl, hz] at hi
      have HI := keep hi
      rw [hz] at h3
      clear hi hz
      go_enter Tryz.func129, Tryz.ntmps129
      go_wp2_with fail
      refine (HI.out _).mono ?_
      rintro e w1 ⟨rfl, rfl⟩
      go_wp2
      go_ret
      exact ⟨by show Ending.returned (.bool (decide (z < 0))) = _; rw [decide_eq_false (by omega)], Below.refl _ _⟩
theorem maybe_any (n : List UInt8) (w : World) :
    Calls Tryz.prog 129 #[.string ⟨n.toArray⟩] w fun e w' => e = .returned (.bool (Dk.named n)) ∧ Below w.heap.size w w' := by
  cases h : Dk.named n with
  | true => exact maybe_yes n w h
  | false => exact maybe_no n w h

theorem run_add1 (w : World) (a : Addr) (x : Int) (hc : w.cell? a = some (.int .i64 x)) (hz : w.frozen? a = false) (h0 : 0 ≤ x) (h1 : x ≤ 4611686018427387904) :
    (callFunc 319 #[.pointer (some a), .int .i64 1]).run Tryz.prog w = .ok (.value (.int .i64 (x + 1))) (w.setCell a (.int .i64 (x + 1))) :=
  run_call_add Tryz.func319 (by kernel_rfl) (by kernel_rfl) (by kernel_rfl) .i64 (by kernel_rfl) hc hz (by
    simp [go_sem, IntKind.wrap_i64]
    omega)
end Go.Proofs.YtogphpejdnhnjaaGreatDoor
