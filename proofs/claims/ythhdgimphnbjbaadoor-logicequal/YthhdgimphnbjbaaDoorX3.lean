/- Walks: Wrong of every value; Less, Equal of two numbers and of two texts. -/
import Derived.Test.YthhdgimphnbjbaaDoorX2
namespace Go.Proofs.YthhdgimphnbjbaaDoor
open Go.RowKit

mutual
theorem wrong_all : ∀ T : Tree, WrongC T
  | .mk k y c x t ks => wrong_of k y c x t ks (fun u h => wrong_alls ks u h)
theorem wrong_alls : ∀ (ks : List Tree) (u : Tree), u ∈ ks → WrongC u
  | [], u, h => by cases h
  | v :: vs, u, h => by
    by_cases e : u = v
    · rw [e]; exact wrong_all v
    · exact wrong_alls vs u ((List.mem_cons.1 h).resolve_left e)
end
/-- the tables lie, and where -/
def TabsIn (B : Nat) (w : World) : Prop := Tabs w ∧ Tryd.laysValid_ren.g 3 < B ∧ Tryd.laysValid_ren.g 4 < B
theorem TabsIn.below {B : Nat} {w w' : World} (h : TabsIn B w) (hb : Below B w w') : TabsIn B w' := ⟨h.1.below hb h.2.1 h.2.2, h.2⟩

set_option maxHeartbeats 1000000 in
theorem logicWrong_any (T : Tree) (v : Array Value) (B : Nat) (w : World) (hB : B ≤ w.heap.size) (hM : Mem B w T v) (hT : TabsIn B w) :
    Calls Tryd.prog 5 #[.agg v] w fun e w' => e = .returned (.int .i64 (wrongF T 0 1).1) ∧ Below w.heap.size w w' := by
  have hM' := hide hM
  have HT := hide hT
  cases T with
  | mk k y c x t ks =>
    rw [Mem] at hM
    obtain ⟨_, _, a, cap, rfl, _⟩ := hM
    clear hT
    go_enter Tryd.func5, Tryd.ntmps5
    go_wp2_with fail
    have ba : ∀ o o' : Obj, Below w.heap.size w ((w.alloc o).alloc o') := fun o o' => ((Below.refl _ _).alloc (Nat.le_refl _) _).alloc (by simp) _
    have hb := ba (.cells #[.int .i64 k, .bool y, .int .i64 c, .int .i64 x, .string t, .slice a ks.length cap] 26) (.cells #[.int .i64 0] 34)
    refine (wrong_all (.mk k y c x t ks) w.heap.size _ _ (w.heap.size + 1) 0 1 (Mem.below hb (Mem.mono hB (unhide hM'))) (by omega) ⟨by simp [go_sem], by simp [go_sem], by simp⟩ (by omega) (by omega) (by omega) ?_ ?_ ?_).mono ?_
    · exact ((unhide HT).below (hb.mono hB)).1
    · exact Nat.lt_of_lt_of_le (unhide HT).2.1 hB
    · exact Nat.lt_of_lt_of_le (unhide HT).2.2 hB
    rintro e w2 ⟨rfl, _, hb2⟩
    go_wp2
    go_ret
    exact ⟨rfl, hb.trans hb2⟩

theorem box4 {w w1 : World} {s t u r : TypeId} {a b m : Array Value} {c0 c1 c2 c3 c4 c5 : Value} (hb : Below (w.heap.size + 1 + 1 + 1) ((((w.alloc (.cells a s)).alloc (.cells b t)).alloc (.cells #[c0, c1, c2, c3, c4, c5] u)).alloc (.cells m r)) w1) :
    Box w1 (w.heap.size + 1 + 1) #[c0, c1, c2, c3, c4, c5] ∧ Below w.heap.size w w1 := by
  have C := (Box.new (w := (w.alloc (.cells a s)).alloc (.cells b t)) (t := u) (a0 := c0) (a1 := c1) (a2 := c2) (a3 := c3) (a4 := c4) (a5 := c5)).over (o := .cells m r)
  have C' := C.keep hb (by simp <;> omega)
  refine ⟨by simpa using C', (((((Below.refl w.heap.size w).alloc (Nat.le_refl _) _).alloc (by simp) _).alloc (by simp; omega) _).alloc (by simp; omega) _).trans (hb.mono (by omega))⟩

set_option maxHeartbeats 2000000 in
theorem meq_num (y1 y2 : Bool) (c1 x1 c2 x2 : Int) (t1 l1 t2 l2 : Value) (B p : Nat) (w : World) (hp : B ≤ p) (s1 : w.cell? ⟨p, 0, none⟩ = some (.int .i64 0)) (s2 : w.frozen? ⟨p, 0, none⟩ = false) (s3 : p < w.heap.size) :
    Calls Tryd.prog 12 #[.pointer (some ⟨p, 0, none⟩), .agg #[.int .i64 3, .bool y1, .int .i64 c1, .int .i64 x1, t1, l1], .agg #[.int .i64 3, .bool y2, .int .i64 c2, .int .i64 x2, t2, l2], .int .i64 1] w fun e w' => e = .returned (.agg #[.int .i64 2, .bool (decide (c1 = c2 ∧ x1 = x2)), .int .i64 0, .int .i64 0, .string ⟨#[]⟩, .slice none 0 0]) ∧ Below B w w' := by
  have q1 : p < w.heap.size + 1 := by omega
  have q2 : p < w.heap.size + 1 + 1 := by omega
  have hz : (w.setCell ⟨p, 0, none⟩ (.int .i64 1)).heap.size = w.heap.size := by simp [World.setCell]
  by_cases hc : c1 = c2
  · by_cases hx : x1 = x2
    · rw [decide_eq_true (And.intro hc hx)]
      subst hc hx
      go_enter Tryd.func12, Tryd.ntmps12
      go_wp2_with fail
      refine (truth_any _ _).mono ?_
      rintro e w9 ⟨rfl, hb⟩
      obtain ⟨_, _, R, hw⟩ := box3 hb
      rw [hz] at R hw
      replace hw := ((Below.refl B w).setCell (p := ⟨p, 0, none⟩) hp _).trans (hw.mono (by omega))
      clear hb
      obtain ⟨a0, a1, a2, a3, a4, a5⟩ := R.tell
      obtain ⟨f0, f1, f2, f3, f4, f5⟩ := R.thaw
      have lb := R.low
      go_wp2
      exact bodyPost_ret (v := .agg #[.int .i64 2, .bool (true), .int .i64 0, .int .i64 0, .string ⟨#[]⟩, .slice none 0 0]) (by simp [results, Tryd.results12, go_sem, a0, a1, a2, a3, a4, a5]) rfl ⟨rfl, ((((((hw.setCell (by simp; omega) _).setCell (by simp; omega) _).setCell (by simp; omega) _).setCell (by simp; omega) _).setCell (by simp; omega) _).setCell (by simp; omega) _)⟩
    · rw [decide_eq_false (fun h => hx h.2)]
      subst hc
      go_enter Tryd.func12, Tryd.ntmps12
      go_wp2_with fail
      refine (truth_any _ _).mono ?_
      rintro e w9 ⟨rfl, hb⟩
      obtain ⟨_, _, R, hw⟩ := box3 hb
      rw [hz] at R hw
      replace hw := ((Below.refl B w).setCell (p := ⟨p, 0, none⟩) hp _).trans (hw.mono (by omega))
      clear hb
      obtain ⟨a0, a1, a2, a3, a4, a5⟩ := R.tell
      obtain ⟨f0, f1, f2, f3, f4, f5⟩ := R.thaw
      have lb := R.low
      go_wp2
      exact bodyPost_ret (v := .agg #[.int .i64 2, .bool (false), .int .i64 0, .int .i64 0, .string ⟨#[]⟩, .slice none 0 0]) (by simp [results, Tryd.results12, go_sem, a0, a1, a2, a3, a4, a5]) rfl ⟨rfl, ((((((hw.setCell (by simp; omega) _).setCell (by simp; omega) _).setCell (by simp; omega) _).setCell (by simp; omega) _).setCell (by simp; omega) _).setCell (by simp; omega) _)⟩
  · rw [decide_eq_false (fun h => hc h.1)]
    go_enter Tryd.func12, Tryd.ntmps12
    go_wp2_with fail
    refine (truth_any _ _).mono ?_
    rintro e w9 ⟨rfl, hb⟩
    obtain ⟨_, _, R, hw⟩ := box3 hb
    rw [hz] at R hw
    replace hw := ((Below.refl B w).setCell (p := ⟨p, 0, none⟩) hp _).trans (hw.mono (by omega))
    clear hb
    obtain ⟨a0, a1, a2, a3, a4, a5⟩ := R.tell
    obtain ⟨f0, f1, f2, f3, f4, f5⟩ := R.thaw
    have lb := R.low
    go_wp2
    exact bodyPost_ret (v := .agg #[.int .i64 2, .bool (false), .int .i64 0, .int .i64 0, .string ⟨#[]⟩, .slice none 0 0]) (by simp [results, Tryd.results12, go_sem, a0, a1, a2, a3, a4, a5]) rfl ⟨rfl, ((((((hw.setCell (by simp; omega) _).setCell (by simp; omega) _).setCell (by simp; omega) _).setCell (by simp; omega) _).setCell (by simp; omega) _).setCell (by simp; omega) _)⟩

set_option maxHeartbeats 2000000 in
theorem meq_text (y1 y2 : Bool) (c1 x1 c2 x2 : Int) (t1 t2 : ByteArray) (l1 l2 : Value) (B p : Nat) (w : World) (hp : B ≤ p) (s1 : w.cell? ⟨p, 0, none⟩ = some (.int .i64 0)) (s2 : w.frozen? ⟨p, 0, none⟩ = false) (s3 : p < w.heap.size) :
    Calls Tryd.prog 12 #[.pointer (some ⟨p, 0, none⟩), .agg #[.int .i64 4, .bool y1, .int .i64 c1, .int .i64 x1, .string t1, l1], .agg #[.int .i64 4, .bool y2, .int .i64 c2, .int .i64 x2, .string t2, l2], .int .i64 1] w fun e w' => e = .returned (.agg #[.int .i64 2, .bool (decide (t1.toList = t2.toList)), .int .i64 0, .int .i64 0, .string ⟨#[]⟩, .slice none 0 0]) ∧ Below B w w' := by
  have q1 : p < w.heap.size + 1 := by omega
  have q2 : p < w.heap.size + 1 + 1 := by omega
  have hz : (w.setCell ⟨p, 0, none⟩ (.int .i64 1)).heap.size = w.heap.size := by simp [World.setCell]
  by_cases hc : t1.toList = t2.toList
  · rw [decide_eq_true hc]
    have hq : (t1.toList == t2.toList) = true := by simp [hc]
    clear hc
    go_enter Tryd.func12, Tryd.ntmps12
    go_wp2_with fail
    refine (truth_any _ _).mono ?_
    rintro e w9 ⟨rfl, hb⟩
    obtain ⟨_, _, R, hw⟩ := box3 hb
    rw [hz] at R hw
    replace hw := ((Below.refl B w).setCell (p := ⟨p, 0, none⟩) hp _).trans (hw.mono (by omega))
    clear hb
    obtain ⟨a0, a1, a2, a3, a4, a5⟩ := R.tell
    obtain ⟨f0, f1, f2, f3, f4, f5⟩ := R.thaw
    have lb := R.low
    go_wp2
    exact bodyPost_ret (v := .agg #[.int .i64 2, .bool (true), .int .i64 0, .int .i64 0, .string ⟨#[]⟩, .slice none 0 0]) (by simp [results, Tryd.results12, go_sem, a0, a1, a2, a3, a4, a5]) rfl ⟨rfl, ((((((hw.setCell (by simp; omega) _).setCell (by simp; omega) _).setCell (by simp; omega) _).setCell (by simp; omega) _).setCell (by simp; omega) _).setCell (by simp; omega) _)⟩
  · rw [decide_eq_false hc]
    have hq : (t1.toList == t2.toList) = false := by simp [hc]
    clear hc
    go_enter Tryd.func12, Tryd.ntmps12
    go_wp2_with fail
    refine (truth_any _ _).mono ?_
    rintro e w9 ⟨rfl, hb⟩
    obtain ⟨_, _, R, hw⟩ := box3 hb
    rw [hz] at R hw
    replace hw := ((Below.refl B w).setCell (p := ⟨p, 0, none⟩) hp _).trans (hw.mono (by omega))
    clear hb
    obtain ⟨a0, a1, a2, a3, a4, a5⟩ := R.tell
    obtain ⟨f0, f1, f2, f3, f4, f5⟩ := R.thaw
    have lb := R.low
    go_wp2
    exact bodyPost_ret (v := .agg #[.int .i64 2, .bool (false), .int .i64 0, .int .i64 0, .string ⟨#[]⟩, .slice none 0 0]) (by simp [results, Tryd.results12, go_sem, a0, a1, a2, a3, a4, a5]) rfl ⟨rfl, ((((((hw.setCell (by simp; omega) _).setCell (by simp; omega) _).setCell (by simp; omega) _).setCell (by simp; omega) _).setCell (by simp; omega) _).setCell (by simp; omega) _)⟩

set_option maxHeartbeats 2000000 in
theorem equal_num (y1 y2 : Bool) (c1 x1 c2 x2 : Int) (t1 l1 t2 l2 : Value) (w : World) :
    Calls Tryd.prog 6 #[.agg #[.int .i64 3, .bool y1, .int .i64 c1, .int .i64 x1, t1, l1], .agg #[.int .i64 3, .bool y2, .int .i64 c2, .int .i64 x2, t2, l2]] w fun e w' => e = .returned (.agg #[.int .i64 2, .bool (decide (c1 = c2 ∧ x1 = x2)), .int .i64 0, .int .i64 0, .string ⟨#[]⟩, .slice none 0 0]) ∧ Below w.heap.size w w' := by
  have CM := fun wx B p hp s1 s2 s3 => meq_num y1 y2 c1 x1 c2 x2 t1 l1 t2 l2 B p wx hp s1 s2 s3
  generalize decide (c1 = c2 ∧ x1 = x2) = g at CM ⊢
  replace CM := hide CM
  go_enter Tryd.func6, Tryd.ntmps6
  go_wp2_with fail
  refine (unhide CM _ (w.heap.size + 1 + 1 + 1) (w.heap.size + 1 + 1 + 1) (Nat.le_refl _) (by simp [go_sem]) (by simp [go_sem]) (by simp)).mono ?_
  rintro e w9 ⟨rfl, hb⟩
  obtain ⟨R, hw⟩ := box4 hb
  clear hb
  obtain ⟨a0, a1, a2, a3, a4, a5⟩ := R.tell
  obtain ⟨f0, f1, f2, f3, f4, f5⟩ := R.thaw
  have lb := R.low
  go_wp2
  exact bodyPost_ret (v := .agg #[.int .i64 2, .bool g, .int .i64 0, .int .i64 0, .string ⟨#[]⟩, .slice none 0 0]) (by simp [results, Tryd.results6, go_sem, a0, a1, a2, a3, a4, a5]) rfl ⟨rfl, ((((((hw.setCell (by simp; omega) _).setCell (by simp; omega) _).setCell (by simp; omega) _).setCell (by simp; omega) _).setCell (by simp; omega) _).setCell (by simp; omega) _)⟩

set_option maxHeartbeats 2000000 in
theorem equal_text (y1 y2 : Bool) (c1 x1 c2 x2 : Int) (t1 t2 : ByteArray) (l1 l2 : Value) (w : World) :
    Calls Tryd.prog 6 #[.agg #[.int .i64 4, .bool y1, .int .i64 c1, .int .i64 x1, .string t1, l1], .agg #[.int .i64 4, .bool y2, .int .i64 c2, .int .i64 x2, .string t2, l2]] w fun e w' => e = .returned (.agg #[.int .i64 2, .bool (decide (t1.toList = t2.toList)), .int .i64 0, .int .i64 0, .string ⟨#[]⟩, .slice none 0 0]) ∧ Below w.heap.size w w' := by
  have CM := fun wx B p hp s1 s2 s3 => meq_text y1 y2 c1 x1 c2 x2 t1 t2 l1 l2 B p wx hp s1 s2 s3
  generalize decide (t1.toList = t2.toList) = g at CM ⊢
  replace CM := hide CM
  go_enter Tryd.func6, Tryd.ntmps6
  go_wp2_with fail
  refine (unhide CM _ (w.heap.size + 1 + 1 + 1) (w.heap.size + 1 + 1 + 1) (Nat.le_refl _) (by simp [go_sem]) (by simp [go_sem]) (by simp)).mono ?_
  rintro e w9 ⟨rfl, hb⟩
  obtain ⟨R, hw⟩ := box4 hb
  clear hb
  obtain ⟨a0, a1, a2, a3, a4, a5⟩ := R.tell
  obtain ⟨f0, f1, f2, f3, f4, f5⟩ := R.thaw
  have lb := R.low
  go_wp2
  exact bodyPost_ret (v := .agg #[.int .i64 2, .bool g, .int .i64 0, .int .i64 0, .string ⟨#[]⟩, .slice none 0 0]) (by simp [results, Tryd.results6, go_sem, a0, a1, a2, a3, a4, a5]) rfl ⟨rfl, ((((((hw.setCell (by simp; omega) _).setCell (by simp; omega) _).setCell (by simp; omega) _).setCell (by simp; omega) _).setCell (by simp; omega) _).setCell (by simp; omega) _)⟩
end Go.Proofs.YthhdgimphnbjbaaDoor
