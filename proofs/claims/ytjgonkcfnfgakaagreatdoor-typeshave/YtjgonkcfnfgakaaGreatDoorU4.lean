/- Walks: shapes peeled, what fits, what is joined. -/
import Derived.Test.YtjgonkcfnfgakaaGreatDoorU3
namespace Go.Proofs.YtjgonkcfnfgakaaGreatDoor
open Go.RowKit

set_option maxHeartbeats 2000000 in
theorem peeled_any (a b : Sp) (w : World) (ha : a.n ≤ 100000) (hb : b.n ≤ 100000) :
    Calls Tryz.prog 24 #[sh a, sh b] w fun e w' => e = .returned (.tuple #[sh ⟨a.n - min a.n b.n, a.k⟩, sh ⟨b.n - min a.n b.n, b.k⟩, .int .i64 ((min a.n b.n : Nat) : Int)]) ∧ Below w.heap.size w w' := by
  obtain ⟨n, k⟩ := a
  obtain ⟨m, l⟩ := b
  simp only at ha hb
  have B : ∀ o1 o2 o3 o4, Below w.heap.size w ((((w.alloc o1).alloc o2).alloc o3).alloc o4) := fun o1 o2 o3 o4 => ((((Below.refl _ _).alloc (Nat.le_refl _) _).alloc (by simp) _).alloc (by simp; omega) _).alloc (by simp; omega) _
  have HB := hide B
  clear B
  go_enter Tryz.func24, Tryz.ntmps24
  go_wp2_with fail
  all_goals go_region
  · rename_i h
    go_wp2
    refine bodyPost_ret (v := .tuple #[sh ⟨n - min n m, k⟩, sh ⟨m - min n m, l⟩, .int .i64 ((min n m : Nat) : Int)]) ?_ rfl ⟨rfl, ?_⟩
    · rw [show min n m = m by omega]
      simp [results, Tryz.results24, go_sem]
      omega
    · exact (unhide HB _ _ _ _).drew
  · rename_i h
    go_wp2
    refine bodyPost_ret (v := .tuple #[sh ⟨n - min n m, k⟩, sh ⟨m - min n m, l⟩, .int .i64 ((min n m : Nat) : Int)]) ?_ rfl ⟨rfl, ?_⟩
    · rw [show min n m = n by omega]
      simp [results, Tryz.results24, go_sem]
      omega
    · exact (unhide HB _ _ _ _).drew

theorem below_via {w0 wp w1 : World} (h : Below w0.heap.size w0 wp) (k : Below wp.heap.size wp w1) : Below w0.heap.size w0 w1 := h.trans (k.mono h.size)

def fit (a b : Sp) : Value := .bool (decide (a.Fits b))
set_option maxHeartbeats 2000000 in
theorem fits_any (a b : Sp) (w : World) (ha : a.n ≤ 100000) (hb : b.n ≤ 100000) :
    Calls Tryz.prog 17 #[sh a, sh b] w fun e w' => e = .returned (fit a b) ∧ Below w.heap.size w w' := by
  have P := hide (fun wx => peeled_any a b wx ha hb)
  have hF : a.Fits b ↔ ((a.n - min a.n b.n = 0 ∧ a.k = 1) ∨ (b.n - min a.n b.n = 0 ∧ b.k = 6) ∨ (((a.n - min a.n b.n : Nat) : Int) = ((b.n - min a.n b.n : Nat) : Int) ∧ a.k = b.k)) := by
    unfold Sp.Fits; omega
  obtain ⟨a', hA⟩ : ∃ a' : Sp, a' = ⟨a.n - min a.n b.n, a.k⟩ := ⟨_, rfl⟩
  obtain ⟨b', hB⟩ : ∃ b' : Sp, b' = ⟨b.n - min a.n b.n, b.k⟩ := ⟨_, rfl⟩
  rw [← hA, ← hB] at P
  have HF : Hid (a.Fits b ↔ ((a'.n = 0 ∧ a'.k = 1) ∨ (b'.n = 0 ∧ b'.k = 6) ∨ ((a'.n : Int) = (b'.n : Int) ∧ a'.k = b'.k))) := hide (by rw [hA, hB]; exact hF)
  clear hA hB hF
  have I1 := hide (fun wx => is_any a' 1 wx (by decide))
  have I2 := hide (fun wx => is_any b' 6 wx (by decide))
  go_enter Tryz.func17, Tryz.ntmps17
  go_wp2_with fail
  refine (unhide P _).mono ?_
  rintro e w1 ⟨rfl, hb1⟩
  have B1 : Below w.heap.size w w1 := below_via (((Below.refl _ _).alloc (Nat.le_refl _) _).alloc (by simp) _) hb1
  clear hb1 P
  have HB := hide B1
  have hz := B1.size
  clear B1
  go_wp2_with fail
  refine (unhide I1 _).mono ?_
  rintro e w2 ⟨rfl, hb2⟩
  have X5 := ((Bx2.new w1 49 (.int .i64 a'.n) (.int .i64 a'.k)).keep ((Below.refl _ _).alloc (Nat.le_refl _) (.cells #[.int .i64 b'.n, .int .i64 b'.k] 49)) (by simp)).keep hb2 (by simp; omega)
  have X6 := (Bx2.new (w1.alloc (.cells #[.int .i64 a'.n, .int .i64 a'.k] 49)) 49 (.int .i64 b'.n) (.int .i64 b'.k)).keep hb2 (by simp)
  have B2 := hide (below_via (unhide HB) (below_via (((Below.refl _ _).alloc (Nat.le_refl _) _).alloc (by simp) _) hb2))
  simp only [World.size_alloc] at X6
  clear hb2 HB
  by_cases c1 : a'.n = 0 ∧ a'.k = 1
  · have R : fit a b = .bool true := by unfold fit; rw [decide_eq_true ((unhide HF).2 (Or.inl c1))]
    have HR := hide R
    clear R
    rw [decide_eq_true c1]
    clear HF I1 I2 X5 X6
    go_wp2
    go_ret
    exact ⟨by rw [unhide HR]; rfl, unhide B2⟩
  · rw [decide_eq_false c1]
    have Y5 := hide X5
    have Y6 := hide X6
    have e0 := X6.at0
    have e1 := X6.at1
    clear X5 X6
    go_wp2_with fail
    refine (unhide I2 _).mono ?_
    rintro e w3 ⟨rfl, hb3⟩
    have X5 := (unhide Y5).keep hb3 (unhide Y5).low
    have X6 := (unhide Y6).keep hb3 (unhide Y6).low
    have B3 := hide (below_via (unhide B2) hb3)
    clear hb3 B2 Y5 Y6 e0 e1
    by_cases c2 : b'.n = 0 ∧ b'.k = 6
    · have R : fit a b = .bool true := by unfold fit; rw [decide_eq_true ((unhide HF).2 (Or.inr (Or.inl c2)))]
      have HR := hide R
      clear R
      rw [decide_eq_true c2]
      clear HF I1 I2 X5 X6
      go_wp2
      go_ret
      exact ⟨by rw [unhide HR]; rfl, unhide B3⟩
    · rw [decide_eq_false c2]
      have f0 := X5.at0
      have f1 := X5.at1
      have e0 := X6.at0
      have e1 := X6.at1
      clear X5 X6 I1 I2
      by_cases h1 : (a'.n : Int) = (b'.n : Int)
      · by_cases h2 : a'.k = b'.k
        · have R : fit a b = .bool true := by unfold fit; rw [decide_eq_true ((unhide HF).2 (Or.inr (Or.inr ⟨h1, h2⟩)))]
          have HR := hide R
          clear R
          clear HF
          rw [← h1] at e0
          rw [← h2] at e1
          go_wp2
          go_ret
          exact ⟨by rw [unhide HR]; rfl, unhide B3⟩
        · have R : fit a b = .bool false := by unfold fit; rw [decide_eq_false (fun h => by rcases (unhide HF).1 h with h | h | h; exact c1 h; exact c2 h; exact h2 h.2)]
          have HR := hide R
          clear R
          clear HF c1 c2
          have h3 : (a'.k == b'.k) = false := by simpa using h2
          rw [← h1] at e0
          go_wp2
          go_ret
          exact ⟨by rw [unhide HR]; rfl, unhide B3⟩
      · have R : fit a b = .bool false := by unfold fit; rw [decide_eq_false (fun h => by rcases (unhide HF).1 h with h | h | h; exact c1 h; exact c2 h; exact h1 h.1)]
        have HR := hide R
        clear R
        clear HF c1 c2
        have h3 : ((a'.n : Int) == (b'.n : Int)) = false := by simpa using h1
        go_wp2
        go_ret
        exact ⟨by rw [unhide HR]; rfl, unhide B3⟩
end Go.Proofs.YtjgonkcfnfgakaaGreatDoor
