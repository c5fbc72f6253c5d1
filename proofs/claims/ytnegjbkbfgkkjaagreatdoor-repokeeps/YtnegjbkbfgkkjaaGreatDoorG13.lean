/- Walks: isDigits, digitsOf. -/
import Derived.Test.YtnegjbkbfgkkjaaGreatDoorG12
import Derived.Lib.Strings
namespace Go.Proofs.YtnegjbkbfgkkjaaGreatDoor
open Go.RowKit

/-- is it a digit's sign? -/
def isDg (c : UInt8) : Bool := decide (48 ≤ c.toNat) && decide (c.toNat ≤ 57)
/-- digits, one at least -/
def dgs (l : List UInt8) : Bool := l.all isDg && !l.isEmpty
theorem isDg_bd {c : UInt8} (h : isDg c = true) : 48 ≤ c.toNat ∧ c.toNat ≤ 57 := by
  unfold isDg at h; simpa using h
/-- the digits of a text -/
def dOf (l : List UInt8) : Nat → Nat := fun j => (l.getD j 48).toNat - 48
theorem dOf_lt {l : List UInt8} (h : l.all isDg = true) : ∀ j, dOf l j < 10 := by
  intro j
  unfold dOf
  by_cases hj : j < l.length
  · rw [List.getD_eq_getElem?_getD, List.getElem?_eq_getElem hj]
    have := isDg_bd ((List.all_eq_true.1 h) _ (List.getElem_mem hj))
    simp
    omega
  · rw [List.getD_eq_getElem?_getD, List.getElem?_eq_none (by omega)]
    simp

theorem toList_at (s : ByteArray) (k : Nat) (h : k < s.size) : s.data.toList[k]? = some s[k] := by
  have h' : k < s.data.toList.length := by simpa using h
  rw [List.getElem?_eq_getElem h']
  rfl

theorem beq_nil (s : ByteArray) : (s.toList == []) = s.data.toList.isEmpty := by
  rw [Lib.toList_data]
  cases s.data.toList <;> rfl

set_option maxHeartbeats 400000 in
theorem isDigits_any (s : ByteArray) (w : World) (hs : s.size ≤ 1000) :
    Calls Tryz.prog 158 #[.string s] w fun e w' => e = .returned (.bool (dgs s.data.toList)) ∧ w' = w := by
  go_enter Tryz.func158, Tryz.ntmps158
  go_wp2
  go_loop [6] (fun i => ∃ k : Nat, k ≤ s.size ∧ i = .int .i64 k ∧ Hid (∀ j (h : j < s.size), j < k → isDg s[j] = true)) (fun i => s.size - (intOf i).toNat)
  case atStart => exact ⟨0, Nat.zero_le _, rfl, hide (fun j _ h => absurd h (by omega))⟩
  case round =>
    obtain ⟨k, hk, rfl, H⟩ := hrel
    by_cases hlt : k < s.size
    · by_cases hd : isDg s[k] = true
      · have hb := isDg_bd hd
        have h1 : ¬ (s[k].toNat : Int) < 48 := by omega
        have h2 : ¬ 57 < (s[k].toNat : Int) := by omega
        have H2 : Hid (∀ j (h : j < s.size), j < k + 1 → isDg s[j] = true) := by
          refine hide fun j hj hjk => ?_
          by_cases e : j = k
          · subst e; exact hd
          · exact unhide H j hj (by omega)
        clear hd hb
        go_wp2
        all_goals
          go_round
          case rel => exact ⟨k + 1, by omega, by go_num, H2⟩
          case measure => simp [intOf]; omega
      · have hno : dgs s.data.toList = false := by
          unfold dgs
          rw [Bool.and_eq_false_iff]
          left
          rw [List.all_eq_false]
          exact ⟨s[k], List.mem_of_getElem? (toList_at s k hlt), hd⟩
        have hb : (s[k].toNat : Int) < 48 ∨ 57 < (s[k].toNat : Int) := by
          unfold isDg at hd
          simp at hd
          omega
        have HN := hide hno
        clear hno hd
        rcases hb with hb | hb
        · go_wp2
          go_ret
          exact ⟨by rw [unhide HN]; rfl, rfl⟩
        · have h1 : ¬ (s[k].toNat : Int) < 48 := by omega
          go_wp2
          go_ret
          exact ⟨by rw [unhide HN]; rfl, rfl⟩
    · have hall : s.data.toList.all isDg = true := by
        rw [List.all_eq_true]
        intro x hx
        obtain ⟨j, hj, rfl⟩ := List.getElem_of_mem hx
        have hj' : j < s.size := by simpa using hj
        exact unhide H j hj' (by omega)
      have E : Hid (dgs s.data.toList = !s.data.toList.isEmpty) := by
        unfold dgs; rw [hall]; exact hide (by simp)
      have E2 := hide (beq_nil s)
      clear hall
      go_wp2
      all_goals
        go_ret
        refine ⟨?_, rfl⟩
        rw [unhide E, ← unhide E2]
        first | rfl | simp_all

theorem dOf_at (s : ByteArray) (k : Nat) (h : k < s.size) : dOf s.data.toList k = s[k].toNat - 48 := by
  unfold dOf
  rw [List.getD_eq_getElem?_getD, toList_at s k h]
  rfl

theorem dig_fill {l : List UInt8} {R : Nat → Nat} {k d : Nat} (hR : ∀ j, j < k → R j = dOf l j) (hd : d = dOf l k) : ∀ j, j < k + 1 → Dm.upd R k d j = dOf l j := by
  intro j hj
  by_cases e : j = k
  · subst e; rw [Dm.upd_same, hd]
  · rw [Dm.upd_other e]; exact hR j (by omega)

set_option maxHeartbeats 400000 in
theorem digitsOf_any (s : ByteArray) (w : World) (hs : s.size ≤ 1000) (hd : s.data.toList.all isDg = true) :
    Calls Tryz.prog 159 #[.string s] w fun e w' => e = .returned (.slice (some ⟨w.heap.size, 0, none⟩) s.size s.size) ∧ DS w' w.heap.size 0 s.size (dOf s.data.toList) ∧ Below w.heap.size w w' := by
  obtain ⟨i0, hi, hz0, hz1, hz2⟩ := info_parts info_u8
  have HD := hide hd
  clear hd
  go_enter Tryz.func159, Tryz.ntmps159
  go_wp2_with (at_make; refine wpList_make_full _ rfl _ _ 199 rfl w.heap.size 5 i0 (.int .u8 0) 1 Tryz.underlying199 hi hz0 hz1 _ _ _ _ s.size rfl rfl rfl rfl ?c1 ?c2 ?c3 ?_)
  case c1 => rw [hz2]; omega
  case c2 => unfold maxLen; omega
  case c3 => exact Nat.le_refl _
  intro w1 hown hgrow
  have hb1 : Below w.heap.size w w1 := (Below.refl _ _).grown hgrow (Nat.le_refl _) (fun k hk => by simp at hk)
  rw [toList_madeCells_one, rowL_zero] at hown
  clear hgrow hi hz0 hz1 hz2
  go_wp2
  go_loopw [10] (fun i wr => ∃ (k : Nat) (R : Nat → Nat), k ≤ s.size ∧ i = .int .i64 (k : Int) ∧ Hid (∀ j, j < k → R j = dOf s.data.toList j) ∧ wr.ownsRow w.heap.size 5 1 (.slice (some ⟨w.heap.size, 0, none⟩) s.size s.size) s.size (rowL R s.size) ∧ Below w.heap.size w wr) (fun i _ => s.size - (intOf i).toNat)
  case atStart => exact ⟨0, _, Nat.zero_le _, rfl, hide (fun j h => absurd h (by omega)), hown, hb1⟩
  case round =>
    obtain ⟨k, R, hk, rfl, HR, hownr, hbr⟩ := hrel
    clear hown hb1
    by_cases hlt : k < s.size
    · have hb := isDg_bd ((List.all_eq_true.1 (unhide HD)) _ (List.mem_of_getElem? (toList_at s k hlt)))
      have hfr := hownr.frozenAt k
      have hcl := (hownr.cellAt k (by omega)).trans (rowL_at R (by omega))
      have hst := hide (hownr.stored k (.int .u8 ((s[k].toNat - 48 : Nat) : Int))).1
      clear hownr
      rw [rowL_set] at hst
      have E1 := hide (dig_fill (unhide HR) (dOf_at s k hlt).symm)
      have hb1 : (48 : Int) ≤ (s[k].toNat : Int) := by omega
      have hb2 : (s[k].toNat : Int) ≤ 57 := by omega
      clear hb
      go_wp2
      rw [show (s[k].toNat : Int) - 48 = ((s[k].toNat - 48 : Nat) : Int) by omega]
      refine ⟨⟨k + 1, Dm.upd R k (s[k].toNat - 48), by omega, by go_num, E1, unhide hst, hbr.setCell (Nat.le_refl _) _⟩, ?_⟩
      simp [intOf]
      omega
    · obtain rfl : k = s.size := by omega
      have HF := hide (rowL_congr (D := R) (E := dOf s.data.toList) (n := s.size) (fun j hj => unhide HR j hj))
      go_wp2
      go_ret
      rw [unhide HF] at hownr
      exact ⟨rfl, DS.own hownr (dOf_lt (unhide HD)) hs, hbr⟩
end Go.Proofs.YtnegjbkbfgkkjaaGreatDoor
