/- Walks: heeds, deed (raft). Written by gen_ns.py. -/
import Derived.Test.YtneepoaimbnneaaNK
namespace Go.Proofs.Ytneepoaimbnneaa.RW
open Go.RowKit

/-- what a message must be -/
def heedB (x : Rf.Node) (m : Rf.Msg) : Prop := m.dest = x.id ∧ Rf.inB m.frm 1 x.n ∧ m.frm ≠ x.id ∧ Rf.inB m.term 1 1000000 ∧ Rf.inB m.index 0 60 ∧ 0 ≤ m.commit ∧ Rf.inB m.logTerm 0 m.term ∧ m.index + (m.items.length : Int) ≤ 60 ∧ Rf.rises m.items m.term ∧ ∀ y, m.items[0]? = some y → m.logTerm ≤ y.1
/-- what heeds tells -/
def PH (x : Rf.Node) (m : Rf.Msg) (w : World) (e : Ending) (w' : World) : Prop := ∃ h : Bool, e = .returned (.bool h) ∧ (h = true ↔ heedB x m) ∧ Below w.heap.size w w'
theorem lost_iff (x : Rf.Node) (m : Rf.Msg) : Rf.Lost x m ↔ ¬ (Rf.inB m.kind 1 4 ∧ heedB x m) := by
  unfold Rf.Lost heedB
  constructor
  · intro h q; exact h ⟨q.2.1, q.2.2.1, q.2.2.2.1, q.1, q.2.2.2.2⟩
  · intro h q; exact h ⟨q.2.2.2.1, q.1, q.2.1, q.2.2.1, q.2.2.2.2⟩

theorem deed_no (p : Nat) (k : Int) (w : World) (h : ¬ Rf.inB k 1 4) : Calls Try.prog 42 #[.pointer (some ⟨p, 0, none⟩), .int .i64 k] w fun e w' => e = .returned .nilFunc ∧ w' = w := by
  have b1 : (k == 1) = false := by unfold Rf.inB at h; simp; omega
  have b2 : (k == 2) = false := by unfold Rf.inB at h; simp; omega
  have b3 : (k == 3) = false := by unfold Rf.inB at h; simp; omega
  have b4 : (k == 4) = false := by unfold Rf.inB at h; simp; omega
  go_enter Try.func42, Try.ntmps42
  go_wp2
  go_ret
  exact ⟨rfl, rfl⟩

theorem deed_vote (p : Nat) (w : World) : Calls Try.prog 42 #[.pointer (some ⟨p, 0, none⟩), .int .i64 1] w fun e w' => e = .returned (.func (.func 52) #[.pointer (some ⟨p, 0, none⟩)] #[]) ∧ w' = w := by
  go_enter Try.func42, Try.ntmps42
  go_wp2
  go_ret
  exact ⟨rfl, rfl⟩

theorem deed_count (p : Nat) (w : World) : Calls Try.prog 42 #[.pointer (some ⟨p, 0, none⟩), .int .i64 2] w fun e w' => e = .returned (.func (.func 53) #[.pointer (some ⟨p, 0, none⟩)] #[]) ∧ w' = w := by
  go_enter Try.func42, Try.ntmps42
  go_wp2
  go_ret
  exact ⟨rfl, rfl⟩

theorem deed_take (p : Nat) (w : World) : Calls Try.prog 42 #[.pointer (some ⟨p, 0, none⟩), .int .i64 3] w fun e w' => e = .returned (.func (.func 54) #[.pointer (some ⟨p, 0, none⟩)] #[]) ∧ w' = w := by
  go_enter Try.func42, Try.ntmps42
  go_wp2
  go_ret
  exact ⟨rfl, rfl⟩

theorem deed_goOn (p : Nat) (w : World) : Calls Try.prog 42 #[.pointer (some ⟨p, 0, none⟩), .int .i64 4] w fun e w' => e = .returned (.func (.func 55) #[.pointer (some ⟨p, 0, none⟩)] #[]) ∧ w' = w := by
  go_enter Try.func42, Try.ntmps42
  go_wp2
  go_ret
  exact ⟨rfl, rfl⟩

end Go.Proofs.Ytneepoaimbnneaa.RW
