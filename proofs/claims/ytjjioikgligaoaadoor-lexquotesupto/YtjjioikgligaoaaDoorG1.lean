/- Walks: Quote. -/
import Derived.Test.YtjjioikgligaoaaDoorG2
namespace Go.Proofs.YtjjioikgligaoaaDoor
open Go.RowKit

theorem writeByte_any (B b : Nat) (acc : List UInt8) (c : UInt8) (w : World) (h : Lib.IsBuilderF 39 5 B b (Lib.byteCells acc) w) (hlen : acc.length + 1 ≤ 140737488355328) (hBw : B ≤ w.heap.size) :
    Calls Tryd.prog 10 #[.pointer (some ⟨b, 0, none⟩), .int .u8 (c.toNat : Int)] w fun e w' => e = .returned .nilIface ∧ Lib.IsBuilderF 39 5 B b (Lib.byteCells (acc ++ [c])) w' ∧ Below B w w' := by
  refine (Any.Builder_WriteByte_k Tryd.lays167 Tryd.lays167X B b (Lib.byteCells acc) (c.toNat : Int) w h (by rw [Lib.byteCells_length]; omega) hBw).mono ?_
  rintro e w' ⟨rfl, h1, h2, _⟩
  refine ⟨rfl, ?_, h2⟩
  rw [Lib.byteCells_append]
  exact Or.inr h1
theorem writeString_any (B b : Nat) (acc : List UInt8) (s : ByteArray) (w : World) (h : Lib.IsBuilderF 39 5 B b (Lib.byteCells acc) w) (hlen : acc.length + s.size ≤ 140737488355328) (hBw : B ≤ w.heap.size) :
    Calls Tryd.prog 11 #[.pointer (some ⟨b, 0, none⟩), .string s] w fun e w' => (∃ n : Int, e = .returned (.tuple #[.int .i64 n, .nilIface])) ∧ Lib.IsBuilderF 39 5 B b (Lib.byteCells (acc ++ s.data.toList)) w' ∧ Below B w w' := by
  refine (Any.Builder_WriteString_k Tryd.lays166 Tryd.lays166X B b (Lib.byteCells acc) s w h (by rw [Lib.byteCells_length]; omega) hBw).mono ?_
  rintro e w' ⟨rfl, h1, h2, _⟩
  refine ⟨⟨_, rfl⟩, ?_, h2⟩
  rw [Lib.byteCells_append, ← Lib.strCells_eq]
  exact Or.inr h1

theorem flat_snoc (l : List UInt8) (k : Nat) (b : UInt8) (h : l[k]? = some b) : (l.take (k + 1)).flatMap qb = (l.take k).flatMap qb ++ qb b := by
  rw [List.take_add_one, h]; simp
theorem ql_le (l : List UInt8) : (l.flatMap qb).length ≤ 2 * l.length := by
  induction l with
  | nil => simp
  | cons b t ih =>
    have : (qb b).length ≤ 2 := by unfold qb; (repeat' split) <;> simp
    rw [List.flatMap_cons, List.length_append, List.length_cons]; omega

set_option maxHeartbeats 2000000 in
theorem quote_any (s : ByteArray) (w : World) (hs : s.size ≤ 70368744177000) :
    Calls Tryd.prog 7 #[.string s] w fun e w' => e = .returned (.string ⟨(quoteL s.data.toList).toArray⟩) ∧ Below w.heap.size w w' := by
  have I0 := (Lib.IsBuilderF.of (Lib.fresh_isBuilder 39 5 w))
  have W0 := hide (writeByte_any w.heap.size w.heap.size [] 34 _ I0 (by simp) (by simp))
  rw [show (((34 : UInt8).toNat : Nat) : Int) = 34 from rfl] at W0
  clear I0
  go_enter Tryd.func7, Tryd.ntmps7
  go_wp2_with fail
  refine (unhide W0).mono ?_
  rintro e w1 ⟨rfl, hI, hb⟩
  have HI := hide hI
  have HB := hide (((Below.refl w.heap.size w).alloc (Nat.le_refl _) _).trans hb)
  clear hI hb W0
  go_wp2
  go_loopw [8] (fun i wr => ∃ k : Nat, k ≤ s.size ∧ i = .int .i64 (k : Int) ∧ Hid (Lib.IsBuilderF 39 5 w.heap.size w.heap.size (Lib.byteCells (34 :: (s.data.toList.take k).flatMap qb)) wr) ∧ Hid (Below w.heap.size w wr)) (fun i _ => s.size - (intOf i).toNat)
  case atStart => exact ⟨0, Nat.zero_le _, rfl, HI, HB⟩
  case round =>
    obtain ⟨k, hk, rfl, HJ, HC⟩ := hrel
    clear HI HB
    have hql := ql_le (s.data.toList.take k)
    have htk : (s.data.toList.take k).length ≤ k := List.length_take_le _ _
    have hsz : w.heap.size ≤ wr.heap.size := (unhide HC).size
    by_cases hlt : k < s.size
    · have hsn := flat_snoc s.data.toList k s[k] (toList_at s k hlt)
      have WB := hide (fun (c : UInt8) => writeByte_any w.heap.size w.heap.size (34 :: (s.data.toList.take k).flatMap qb) c wr (unhide HJ) (by simp only [List.length_cons]; omega) hsz)
      by_cases hq : s[k].toNat = 34 ∨ s[k].toNat = 92
      · have e : qb s[k] = [92, s[k]] := by
          unfold qb; rw [if_pos]
          rcases hq with q | q
          · exact .inl (u8_of (n := 34) q (by omega))
          · exact .inr (u8_of (n := 92) q (by omega))
        have hq' : ((s[k].toNat : Int) == 34) = true ∨ (((s[k].toNat : Int) == 34) = false ∧ ((s[k].toNat : Int) == 92) = true) := by
          rcases hq with q | q
          · left; simp; omega
          · right; refine ⟨by simp; omega, by simp; omega⟩
        have E : Hid (34 :: (s.data.toList.take (k + 1)).flatMap qb = (34 :: (s.data.toList.take k).flatMap qb) ++ [92] ++ [s[k]]) := hide (by rw [hsn, e]; simp)
        have C1 := hide (unhide WB 92)
        rw [show (((92 : UInt8).toNat : Nat) : Int) = 92 from rfl] at C1
        clear hq e hsn WB
        rcases hq' with q | ⟨q, q2⟩
        all_goals
          go_wp2_with fail
          refine (unhide C1).mono ?_
          rintro e w2 ⟨rfl, h1, b1⟩
          have C2 := hide (writeByte_any w.heap.size w.heap.size _ s[k] w2 h1 (by simp only [List.length_cons, List.length_append, List.length_nil]; omega) (Nat.le_trans hsz b1.size))
          have B1 := hide ((unhide HC).trans b1)
          clear h1 b1
          go_wp2_with fail
          refine (unhide C2).mono ?_
          rintro e w3 ⟨rfl, h1, b1⟩
          have J2 := hide h1
          have B2 := hide ((unhide B1).trans b1)
          rw [← unhide E] at J2
          clear h1 b1
          go_wp2
          go_roundw
          case rel => exact ⟨k + 1, by omega, by go_num, J2, B2⟩
          case measure => simp [intOf]; omega
      · have q1 : ((s[k].toNat : Int) == 34) = false := by simp; omega
        have q2 : ((s[k].toNat : Int) == 92) = false := by simp; omega
        by_cases h10 : s[k].toNat = 10
        · have q3 : ((s[k].toNat : Int) == 10) = true := by simp; omega
          have e : qb s[k] = [92, 110] := by
            rw [u8_of h10 (by omega)]; rfl
          have E : Hid (34 :: (s.data.toList.take (k + 1)).flatMap qb = (34 :: (s.data.toList.take k).flatMap qb) ++ [92, 110]) := hide (by rw [hsn, e]; simp)
          have C1 := hide (writeString_any w.heap.size w.heap.size (34 :: (s.data.toList.take k).flatMap qb) ⟨#[92, 110]⟩ wr (unhide HJ) (by simp only [List.length_cons]; have : (⟨#[92, 110]⟩ : ByteArray).size = 2 := rfl; omega) hsz)
          rw [show (⟨#[92, 110]⟩ : ByteArray).data.toList = [92, 110] from rfl] at C1
          clear hq h10 e hsn WB
          go_wp2_with fail
          refine (unhide C1).mono ?_
          rintro e w2 ⟨⟨n, rfl⟩, h1, b1⟩
          have J2 := hide h1
          have B2 := hide ((unhide HC).trans b1)
          rw [← unhide E] at J2
          clear h1 b1
          go_wp2
          go_roundw
          case rel => exact ⟨k + 1, by omega, by go_num, J2, B2⟩
          case measure => simp [intOf]; omega
        · have q3 : ((s[k].toNat : Int) == 10) = false := by simp; omega
          have e : qb s[k] = [s[k]] := by
            unfold qb
            rw [if_neg (by rintro (q | q); · exact hq (.inl (by rw [q]; rfl))
                           · exact hq (.inr (by rw [q]; rfl))), if_neg (fun q => h10 (by rw [q]; rfl))]
          have E : Hid (34 :: (s.data.toList.take (k + 1)).flatMap qb = (34 :: (s.data.toList.take k).flatMap qb) ++ [s[k]]) := hide (by rw [hsn, e]; simp)
          have C1 := hide (unhide WB s[k])
          clear hq h10 e hsn WB
          go_wp2_with fail
          refine (unhide C1).mono ?_
          rintro e w2 ⟨rfl, h1, b1⟩
          have J2 := hide h1
          have B2 := hide ((unhide HC).trans b1)
          rw [← unhide E] at J2
          clear h1 b1
          go_wp2
          go_roundw
          case rel => exact ⟨k + 1, by omega, by go_num, J2, B2⟩
          case measure => simp [intOf]; omega
    · have C1 := hide (writeByte_any w.heap.size w.heap.size (34 :: (s.data.toList.take k).flatMap qb) 34 wr (unhide HJ) (by simp only [List.length_cons]; omega) hsz)
      rw [show (((34 : UInt8).toNat : Nat) : Int) = 34 from rfl, List.take_of_length_le (by rw [← Lib.size_eq]; omega)] at C1
      go_wp2_with fail
      refine (unhide C1).mono ?_
      rintro e w2 ⟨rfl, h1, b1⟩
      have C2 := hide (string_any w.heap.size w.heap.size _ w2 h1 (Nat.le_trans hsz b1.size))
      have B1 := hide ((unhide HC).trans b1)
      clear h1 b1
      go_wp2_with fail
      refine (unhide C2).mono ?_
      rintro e w3 ⟨rfl, b1⟩
      go_wp2
      go_ret
      exact ⟨by simp [quoteL], (unhide B1).trans b1⟩
end Go.Proofs.YtjjioikgligaoaaDoor
