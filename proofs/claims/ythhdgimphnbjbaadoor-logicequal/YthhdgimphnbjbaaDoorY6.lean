/- Walks: matching.equalLists of two lists of nothing. -/
import Derived.Test.YthhdgimphnbjbaaDoorY4
namespace Go.Proofs.YthhdgimphnbjbaaDoor
open Go.RowKit

set_option maxHeartbeats 4000000 in
theorem eqLists_nil (a a' : Option Addr) (cap cap' : Nat) (w : World) (p : Nat) (d : Int) :
    Calls Tryd.prog 20 #[.pointer (some ⟨p, 0, none⟩), .slice a 0 cap, .slice a' 0 cap', .int .i64 d] w fun e w' => e = .returned (told 2) ∧ Below w.heap.size w w' := by
  go_enter Tryd.func20, Tryd.ntmps20
  go_wp2_with fail
  refine (truth_any _ _).mono ?_
  rintro e w9 ⟨rfl, hb⟩
  have R := Box.new.keep hb (by simp)
  have hw := (below_new w _).trans (hb.mono (by simp))
  clear hb
  obtain ⟨a0, a1, a2, a3, a4, a5⟩ := R.tell
  obtain ⟨f0, f1, f2, f3, f4, f5⟩ := R.thaw
  have lb := R.low
  have XA := hide (Box.new (w := w9) (t := 26) (a0 := .int .i64 (kd 2)) (a1 := .bool (yd 2)) (a2 := .int .i64 0) (a3 := .int .i64 0) (a4 := .string ⟨#[]⟩) (a5 := .slice none 0 0))
  have hw9 := hw.size
  have HW := hide (hw.alloc hw9 (.cells #[.int .i64 (kd 2), .bool (yd 2), .int .i64 0, .int .i64 0, .string ⟨#[]⟩, .slice none 0 0] 26))
  have R1 := hide (R.over (o := .cells #[.int .i64 (kd 2), .bool (yd 2), .int .i64 0, .int .i64 0, .string ⟨#[]⟩, .slice none 0 0] 26))
  clear hw a0 a1 a2 a3 a4 a5 f0 f1 f2 f3 f4 f5 R
  go_wp2
  go_loopw [20] (fun i wr => i = .int .i64 (0 : Int) ∧ Hid (Box wr w.heap.size #[.int .i64 0, .bool false, .int .i64 0, .int .i64 0, .string ⟨#[]⟩, .slice none 0 0]) ∧ Hid (Box wr w9.heap.size #[.int .i64 (kd 2), .bool (yd 2), .int .i64 0, .int .i64 0, .string ⟨#[]⟩, .slice none 0 0]) ∧ Hid (Below w.heap.size w wr)) (fun _ _ => 0)
  case atStart => exact ⟨rfl, R1, XA, HW⟩
  case round =>
    obtain ⟨rfl, HR, HX, HB⟩ := hrel
    clear R1 XA HW
    have R5 := unhide HR
    obtain ⟨y0, y1, y2, y3, y4, y5⟩ := (unhide HX).tell
    obtain ⟨r0, r1, r2, r3, r4, r5⟩ := R5.tell
    obtain ⟨o0, o1, o2, o3, o4, o5⟩ := R5.thaw
    have lb5 := R5.low
    clear R5
    go_wp2
    exact bodyPost_ret (v := told 2) (by simp [results, Tryd.results20, go_sem, r0, r1, r2, r3, r4, r5]) rfl ⟨rfl, below_put6 (unhide HB) (Nat.le_refl _)⟩
end Go.Proofs.YthhdgimphnbjbaaDoor
