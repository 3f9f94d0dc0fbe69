/- The document's example over plain bytes: a leaf that is another one's is refused; no walk. -/
import Derived.Test.YtelebhcaljepaabDoorKq
namespace Go.Proofs.YtelebhcaljepaabDoor
open Go.RowKit

def exA : List UInt8 := leafL [97]
def exB : List UInt8 := leafL [98]
def exC : List UInt8 := leafL [99]
def exAB : List UInt8 := nodeL exA exB
theorem ex_ne : ¬ nodeL exAB exB = nodeL exAB exC := by decide +kernel
theorem ex_all : all32 [exA, exB, exC] := fun e he => by
  simp only [List.mem_cons, List.not_mem_nil, or_false] at he
  rcases he with rfl | rfl | rfl <;> exact leafL_len _
theorem ex_cut : Mt.cut 3 = 2 := Mt.cut_is (j := 1) rfl (by decide) (by decide)
theorem ex_cut2 : Mt.cut 2 = 1 := Mt.cut_is (j := 0) rfl (by decide) (by decide)
theorem ex_two : rootL [exA, exB] = exAB := by
  unfold rootL
  rw [Mt.root_two nodeL nilL (by decide), show [exA, exB].length = 2 from rfl, ex_cut2]
  show nodeL (Mt.root nodeL nilL [exA]) (Mt.root nodeL nilL [exB]) = _
  rw [Mt.root_one, Mt.root_one]
  rfl
theorem ex_root : rootL [exA, exB, exC] = nodeL exAB exC := by
  unfold rootL
  rw [Mt.root_two nodeL nilL (by decide), show [exA, exB, exC].length = 3 from rfl, ex_cut]
  show nodeL (rootL [exA, exB]) (Mt.root nodeL nilL [exC]) = _
  rw [ex_two, Mt.root_one]
theorem ex_path : pathL [exA, exB, exC] 2 = [exAB] := by
  unfold pathL
  rw [Mt.path_right nodeL nilL (by decide) (by rw [show [exA, exB, exC].length = 3 from rfl, ex_cut]; decide), show [exA, exB, exC].length = 3 from rfl, ex_cut]
  show Mt.path nodeL nilL [exC] 0 ++ [rootL [exA, exB]] = _
  rw [Mt.path_one nodeL nilL (Nat.le_refl _), ex_two]
  rfl
theorem ex_proof : proofL [exA, exB, exC] 2 = [exC] := by
  unfold proofL subL
  rw [Mt.sub_left nodeL nilL (by decide) (by decide) true (by rw [show [exA, exB, exC].length = 3 from rfl, ex_cut]; decide), show [exA, exB, exC].length = 3 from rfl, ex_cut]
  show Mt.sub nodeL nilL 2 [exA, exB] true ++ [rootL [exC]] = _
  rw [Mt.sub_all nodeL nilL (m := 2) (l := [exA, exB]) rfl, if_pos rfl]
  unfold rootL
  rw [Mt.root_one]
  rfl
theorem ex_yes : checkP exC 2 3 [exAB] (nodeL exAB exC) = 0 := by
  have h := path_check ex_all (i := 2) (a := exC) rfl (by decide)
  rw [ex_path, ex_root] at h
  exact h
theorem ex_grows : checkF 2 3 [exC] exAB (nodeL exAB exC) = 0 := by
  have h := proof_check ex_all (m := 2) (by decide) (by decide) (by decide)
  rw [ex_proof, ex_root] at h
  rw [show rootL (List.take 2 [exA, exB, exC]) = exAB from ex_two] at h
  exact h
theorem ex_sides : Mt.sides 2 3 = [false] := by
  rw [Mt.sides_right (by decide) (by rw [ex_cut]; decide), ex_cut, Mt.sides_one (by decide)]
  rfl
theorem ex_no : checkP exB 2 3 [exAB] (nodeL exAB exC) = 9 := by
  have hok : pathOk exB 2 3 [exAB] (nodeL exAB exC) = false := by
    have ht : Mt.top nodeL exB [false] [exAB] = nodeL exAB exB := by unfold Mt.top; simp [Mt.up]
    unfold pathOk
    rw [ex_sides, ht, decide_eq_false ex_ne, Bool.and_false, Bool.and_false, Bool.and_false]
  unfold checkP
  rw [show inRange 2 3 = true from by decide, if_pos rfl, show Int.toNat 2 = 2 from rfl, show Int.toNat 3 = 3 from rfl, hok]
  rfl
end Go.Proofs.YtelebhcaljepaabDoor
