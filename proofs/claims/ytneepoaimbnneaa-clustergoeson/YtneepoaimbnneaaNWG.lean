/- What the package raft tells, of the landed code. -/
import Derived.Test.YtneepoaimbnneaaNS9G
import Derived.Test.YtneepoaimbnneaaNU
import Derived.Test.YtneepoaimbnneaaNV1
import Derived.Test.YtneepoaimbnneaaNV2
import Derived.Test.YtneepoaimbnneaaNV3
import Derived.Test.YtneepoaimbnneaaNV4
import Derived.Test.YtneepoaimbnneaaML
namespace Go.Proofs.Ytneepoaimbnneaa.RW
open Go.RowKit

theorem heeds_all : Heeds := by
  intro B p x o m g w hk hg hb
  by_cases R1 : m.dest = x.id
  rotate_left
  · exact heeds_w1 B p x o m g w hk hg hb R1
  by_cases R2 : Rf.inB m.frm 1 x.n
  rotate_left
  · exact heeds_w2 B p x o m g w hk hg hb R1 R2
  by_cases R3 : m.frm ≠ x.id
  rotate_left
  · exact heeds_w3 B p x o m g w hk hg hb R1 R2 R3
  by_cases R4 : Rf.inB m.term 1 1000000
  rotate_left
  · exact heeds_w4 B p x o m g w hk hg hb R1 R2 R3 R4
  by_cases R5 : Rf.inB m.index 0 60
  rotate_left
  · exact heeds_w5 B p x o m g w hk hg hb R1 R2 R3 R4 R5
  by_cases R6 : 0 ≤ m.commit
  rotate_left
  · exact heeds_w6 B p x o m g w hk hg hb R1 R2 R3 R4 R5 R6
  by_cases R7 : Rf.inB m.logTerm 0 m.term
  rotate_left
  · exact heeds_w7 B p x o m g w hk hg hb R1 R2 R3 R4 R5 R6 R7
  by_cases R8 : m.index + (m.items.length : Int) ≤ 60
  rotate_left
  · exact heeds_w8 B p x o m g w hk hg hb R1 R2 R3 R4 R5 R6 R7 R8
  exact heeds_w9 B p x o m g w hk hg hb R1 R2 R3 R4 R5 R6 R7 R8
theorem receive_any (P : Nat → Prop) (x : Rf.Node) (m : Rf.Msg) (v g : Array Value) (w : World) (hv : NV P w v x) (hg : GV P w g m) (hP : ∀ b, P b → b < w.heap.size) (hfit : FitN x) (hbig : m.items.length ≤ 4611686018427387904) : Calls Try.prog 35 #[.agg v, .agg g] w (PNM P w (Rf.receive x m)) := by
  by_cases hs : Rf.wrongN x = 0
  rotate_left
  · exact receive_no P x m v g w hv hg hP hfit hbig (.inl hs)
  by_cases hk : Rf.inB m.kind 1 4
  rotate_left
  · exact receive_no P x m v g w hv hg hP hfit hbig (.inr hk)
  unfold Rf.inB at hk
  rcases (by omega : m.kind = 1 ∨ m.kind = 2 ∨ m.kind = 3 ∨ m.kind = 4) with e | e | e | e
  · exact receive_vote heeds_all P x m v g w hv hg hP hfit hbig hs e
  · exact receive_count heeds_all P x m v g w hv hg hP hfit hbig hs e
  · exact receive_take heeds_all P x m v g w hv hg hP hfit hbig hs e
  · exact receive_goOn heeds_all P x m v g w hv hg hP hfit hbig hs e

end Go.Proofs.Ytneepoaimbnneaa.RW
namespace Go.Proofs.Ytneepoaimbnneaa
open Go.RowKit

/-- what is small enough -/
def FitG (m : Rf.Msg) : Prop := m.items.length ≤ 4611686018427387904
theorem raft_rc : RC RW.FitN FitG where
  wrong x v w hv _ := RW.wrong_any x v w hv
  timeout P x v w hv hP hf := RW.timeout_any P x v w hv hP hf
  beat P x v w hv hP hf := RW.beat_any P x v w hv hP hf
  propose P x v c w hv hP hf := RW.propose_any P x v c w hv hP hf
  receive P x m v g w hv hg hP hf hm := RW.receive_any P x m v g w hv hg hP hf hm
  restart P x v w hv hP hf := RW.restart_any P x v w hv hP hf
  start i n w := RW.start_any i n w
/-- a node with which nothing is wrong is small -/
theorem fit_node {x : Rf.Node} (b : x.log.length * 16 ≤ 0x7ffffffff000 ∧ x.votes.length * 8 ≤ 0x7ffffffff000 ∧ x.next.length * 8 ≤ 0x7ffffffff000 ∧ x.mtch.length * 8 ≤ 0x7ffffffff000) : RW.FitN x := by
  unfold RW.FitN
  omega
theorem fit_msg {m : Rf.Msg} (b : m.items.length * 16 ≤ 0x7ffffffff000) : FitG m := by
  unfold FitG
  omega
theorem right_fits (x : Rf.Node) (h : Rf.wrongN x = 0) : RW.FitN x := by
  have r := (Rf.wrongN_ok x).1 h
  have hl := r.log
  have h5 := r.n.2
  have hv : x.votes.length ≤ x.n.toNat := by
    have e := Rf.lt_ext (Rf.voters { x with votes := x.votes } 0) _ (Rf.voters_rise _ _) (Rf.voters_rise _ _) (fun _ => Iff.rfl)
    clear e
    have hs : ∀ (l : List Int) (lo : Int), l.Pairwise (· < ·) → (∀ y ∈ l, lo ≤ y ∧ y ≤ x.n) → (l.length : Int) ≤ max 0 (x.n - lo + 1) := by
      intro l
      induction l with
      | nil => intro lo _ _; simp; omega
      | cons a l ih =>
        intro lo hp hb
        obtain ⟨h1, h2⟩ := List.pairwise_cons.1 hp
        have ha := hb a (by simp)
        have := ih (a + 1) h2 (fun y hy => ⟨by have := h1 y hy; omega, (hb y (by simp [hy])).2⟩)
        simp only [List.length_cons]
        omega
    have := hs x.votes 1 r.votes.2 (fun y hy => r.votes.1 y hy)
    omega
  have hln := r.lens
  unfold Rf.lensOk at hln
  refine ⟨by omega, by omega, ?_, ?_⟩
  · split at hln
    · omega
    · rw [hln.1]; simp
  · split at hln
    · omega
    · rw [hln.2]; simp

end Go.Proofs.Ytneepoaimbnneaa
