/- Entries as they lie in memory; the walk of bytes.Equal. -/
import Derived.Test.YtgdggeacjfhkkaaSa
import Derived.Test.YtgdggeacjfhkkaaL
import Derived.Test.YtgdggeacjfhkkaaRw
import Derived.Test.YtgdggeacjfhkkaaCl
import Derived.Test.YtgdggeacjfhkkaaCp
namespace Go.Proofs.Ytgdggeacjfhkkaa
open Go.RowKit
open Sk (Ent)

/-- An entry as it lies in memory: where its bytes are, besides. -/
structure EV where
  kp : Option Addr
  kc : Nat
  vp : Option Addr
  vc : Nat
  e : Ent
def entKind : Kind EV where
  size := 4
  vals x := [.slice x.kp x.e.key.length x.kc, .int .i64 x.e.seq, .bool x.e.gone, .slice x.vp x.e.val.length x.vc]
  held w x := Src w x.kp x.e.key.length x.kc x.e.key ∧ Src w x.vp x.e.val.length x.vc x.e.val
theorem entKind_ok : entKind.Ok :=
  ⟨by decide, fun _ => rfl, fun e u hu => by
    simp only [entKind, List.mem_cons, List.not_mem_nil, or_false] at hu
    rcases hu with rfl | rfl | rfl | rfl <;> rfl, fun h hb => ⟨h.1.below hb, h.2.below hb⟩⟩
def ev (x : EV) : Value := .agg #[.slice x.kp x.e.key.length x.kc, .int .i64 x.e.seq, .bool x.e.gone, .slice x.vp x.e.val.length x.vc]
theorem below_cell {w w' : World} (h : Below w.heap.size w w') {p : Addr} {v : Value} (hc : w.cell? p = some v) : w'.cell? p = some v := by rw [h.cell (World.block_lt_of_cell? w _ hc)]; exact hc

set_option maxHeartbeats 1000000 in
set_option maxRecDepth 100000 in
theorem equal_any (ao : Option Addr) (m c : Nat) (l : List UInt8) (ao2 : Option Addr) (m2 c2 : Nat) (l2 : List UInt8) (w : World) (hs : Src w ao m c l) (hs2 : Src w ao2 m2 c2 l2) :
    Calls Try.prog 49 #[.slice ao m c, .slice ao2 m2 c2] w fun e w' => e = .returned (.bool (decide (l = l2))) ∧ w' = w := by
  have h1 := conv_src hs
  have h2 := conv_src hs2
  clear hs hs2
  go_enter Try.func49, Try.ntmps49
  go_wp2
  go_ret
  exact ⟨by rw [← list_beq]; rfl, rfl⟩
/-- Check's answer. -/
def chk (e : Ent) : Int := if Sk.may e then 0 else 1
end Go.Proofs.Ytgdggeacjfhkkaa
