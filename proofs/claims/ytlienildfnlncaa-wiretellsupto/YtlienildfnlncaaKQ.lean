/- Walks: the closed fact that is asked first. -/
import Derived.Test.YtlienildfnlncaaKP
import Derived.Lib.SlBytesConst
namespace Go.Proofs.Ytlienildfnlncaa
open Go.RowKit
open Go.Lib (uvarint zigzag uvarint_small)

def aliveT : WT := .mk 1 (-1) ⟨#[97]⟩ []
theorem alive_enc : enc aliveT = [1, 1, 1, 97, 0] := by
  unfold aliveT
  rw [enc, encL, show zigzag (-1) = 1 from rfl, uvarint_small (by decide), show (⟨#[97]⟩ : ByteArray).size = 1 from rfl, uvarint_small (by decide), show ([] : List WT).length = 0 from rfl, uvarint_small (by decide)]
  rfl
theorem alive_wrong : wrongF aliveT = 0 := by
  unfold wrongF aliveT
  rw [wrongW, if_neg (by decide), if_neg (by decide), wrongL]
theorem alive_bytes : bytesF aliveT = (0, [1, 1, 1, 97, 0] ++ four (sumB [1, 1, 1, 97, 0]).toNat) := by
  rw [bf_ok alive_wrong (by rw [alive_enc]; decide), alive_enc]
def nineL : List UInt8 := [49, 50, 51, 52, 53, 54, 55, 56, 57]
set_option maxRecDepth 100000 in
theorem nine_sum : (sumB nineL).toNat = 3421780262 := by decide
theorem nine_bc (w : World) (t : TypeId) : BC (w.alloc (.cells #[.int .u8 49, .int .u8 50, .int .u8 51, .int .u8 52, .int .u8 53, .int .u8 54, .int .u8 55, .int .u8 56, .int .u8 57] t (9, 10))) w.heap.size 0 nineL := by
  intro i x hx
  have hi : i < 9 := by
    rcases Nat.lt_or_ge i 9 with q | q
    · exact q
    · unfold nineL at hx
      rw [List.getElem?_eq_none (by simpa using q)] at hx; cases hx
  rcases (by omega : i = 0 ∨ i = 1 ∨ i = 2 ∨ i = 3 ∨ i = 4 ∨ i = 5 ∨ i = 6 ∨ i = 7 ∨ i = 8) with rfl | rfl | rfl | rfl | rfl | rfl | rfl | rfl | rfl <;> (simp [nineL] at hx; subst hx; unfold World.cell?; simp only [heap_alloc_new]; simp)

set_option maxHeartbeats 2000000 in
theorem alive_any (w : World) : Calls Try.prog 16 #[] w fun e w' => e = .returned (.bool true) ∧ Below w.heap.size w w' := by
  have hM : MemW w.heap.size w aliveT #[.int .i64 1, .int .i64 (-1), .string ⟨#[97]⟩, .slice none 0 0] := by
    unfold aliveT
    rw [MemW, MemWP]
    exact ⟨⟨by decide, by decide⟩, by decide, by simp, none, 0, rfl, fun h => absurd rfl h⟩
  have C1 := hide (bytes_any aliveT _ w hM)
  rw [alive_bytes] at C1
  clear hM
  go_enter Try.func16, Try.ntmps16
  go_wp2_with fail
  refine (unhide C1).mono ?_
  rintro e w1 ⟨v1, rfl, hO, hb1⟩
  obtain ⟨g, cap, hv, _, _, _, lg, hbc⟩ := hO.shape (by simp)
  have x1 := hbc 1 1 rfl
  have hlen : ([1, 1, 1, 97, 0] ++ four (sumB [1, 1, 1, 97, 0]).toNat : List UInt8).length = 9 := rfl
  rw [hlen] at hv
  subst hv
  simp only [Nat.zero_add] at x1
  have C2 := hide (sum_any nineL w1.heap.size 0 9 (w1.alloc (.cells #[.int .u8 49, .int .u8 50, .int .u8 51, .int .u8 52, .int .u8 53, .int .u8 54, .int .u8 55, .int .u8 56, .int .u8 57] 5 (9, 10))) (by decide) (nine_bc _ _))
  rw [nine_sum, show nineL.length = 9 from rfl] at C2
  have HB := hide (hb1.trans ((below_new w1 (.cells #[.int .u8 49, .int .u8 50, .int .u8 51, .int .u8 52, .int .u8 53, .int .u8 54, .int .u8 55, .int .u8 56, .int .u8 57] 5 (9, 10))).mono hb1.size))
  have x1' : w1.cell? ⟨g, 1, none⟩ = some (.int .u8 1) := x1
  have hcv := Go.Lib.run_convert_bytes_const (P := Try.prog) w1 25 5 #[.int .u8 49, .int .u8 50, .int .u8 51, .int .u8 52, .int .u8 53, .int .u8 54, .int .u8 55, .int .u8 56, .int .u8 57] 9 9 Try.underlying25 Try.underlying5
  have e9 : (#[Value.int .u8 49, .int .u8 50, .int .u8 51, .int .u8 52, .int .u8 53, .int .u8 54, .int .u8 55, .int .u8 56, .int .u8 57] : Array Value).size = 9 := rfl
  rw [e9] at hcv
  clear C1 hO hb1 hbc hlen x1 e9
  go_wp2_with fail
  refine (unhide C2).mono ?_
  rintro e wx ⟨rfl, hwx⟩
  subst hwx
  clear C2
  go_wp2
  go_ret
  exact ⟨rfl, unhide HB⟩
end Go.Proofs.Ytlienildfnlncaa
