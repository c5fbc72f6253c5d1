/- Walks: Wrong of every value; Less, Equal of two numbers and of two texts. -/
import Derived.Test.YtcidbhegnnedoaaGreatDoorG07
namespace Go.Proofs.YtcidbhegnnedoaaGreatDoor
open Go.RowKit

mutual
theorem wrong_all : ∀ T : Tree, WrongC T
  | .mk k y c x t ks => wrong_of k y c x t ks (fun u h => wrong_alls ks u h)
theorem wrong_alls : ∀ (ks : List Tree) (u : Tree), u ∈ ks → WrongC u
  | [], u, h => by cases h
  | v :: vs, u, h => by
    by_cases e : u = v
    · rw [e]; exact wrong_all v
    · exact wrong_alls vs u ((List.mem_cons.1 h).resolve_left e)
end
/-- the tables lie, and where -/
def TabsIn (B : Nat) (w : World) : Prop := Tabs w ∧ Tryz.laysValid_ren.g 3 < B ∧ Tryz.laysValid_ren.g 4 < B
theorem TabsIn.below {B : Nat} {w w' : World} (h : TabsIn B w) (hb : Below B w w') : TabsIn B w' := ⟨h.1.below hb h.2.1 h.2.2, h.2⟩

set_option maxHeartbeats 1000000 in
theorem logicWrong_any (T : Tree) (v : Array Value) (B : Nat) (w : World) (hB : B ≤ w.heap.size) (hM : Mem B w T v) (hT : TabsIn B w) :
    Calls Tryz.prog 7 #[.agg v] w fun e w' => e = .returned (.int .i64 (wrongF T 0 1).1) ∧ Below w.heap.size w w' := by
  have hM' := hide hM
  have HT := hide hT
  cases T with
  | mk k y c x t ks =>
    rw [Mem] at hM
    obtain ⟨_, _, a, cap, rfl, _⟩ := hM
    clear hT
    go_enter Tryz.func7, Tryz.ntmps7
    go_wp2_with fail
    have ba : ∀ o o' : Obj, Below w.heap.size w ((w.alloc o).alloc o') := fun o o' => ((Below.refl _ _).alloc (Nat.le_refl _) _).alloc (by simp) _
    have hb := ba (.cells #[.int .i64 k, .bool y, .int .i64 c, .int .i64 x, .string t, .slice a ks.length cap] 26) (.cells #[.int .i64 0] 48)
    refine (wrong_all (.mk k y c x t ks) w.heap.size _ _ (w.heap.size + 1) 0 1 (Mem.below hb (Mem.mono hB (unhide hM'))) (by omega) ⟨by simp [go_sem], by simp [go_sem], by simp⟩ (by omega) (by omega) (by omega) ?_ ?_ ?_).mono ?_
    · exact ((unhide HT).below (hb.mono hB)).1
    · exact Nat.lt_of_lt_of_le (unhide HT).2.1 hB
    · exact Nat.lt_of_lt_of_le (unhide HT).2.2 hB
    rintro e w2 ⟨rfl, _, hb2⟩
    go_wp2
    go_ret
    exact ⟨rfl, hb.trans hb2⟩

set_option maxHeartbeats 1000000 in
theorem less_num (y1 y2 : Bool) (c1 x1 c2 x2 : Int) (t1 l1 t2 l2 : Value) (w : World) (h1 : Dm.wrongN c1 x1 = 0) (h2 : Dm.wrongN c2 x2 = 0) :
    Calls Tryz.prog 39 #[.agg #[.int .i64 3, .bool y1, .int .i64 c1, .int .i64 x1, t1, l1], .agg #[.int .i64 3, .bool y2, .int .i64 c2, .int .i64 x2, t2, l2]] w fun e w' => e = .returned (.agg #[.int .i64 2, .bool (decide (Dm.sgn (Dm.V c1 x1 - Dm.V c2 x2) < 0)), .int .i64 0, .int .i64 0, .string ⟨#[]⟩, .slice none 0 0]) ∧ Below w.heap.size w w' := by
  have CM := fun wx => cmp_ok c1 x1 c2 x2 wx h1 h2
  generalize Dm.sgn (Dm.V c1 x1 - Dm.V c2 x2) = g at CM ⊢
  replace CM := hide CM
  clear h1 h2
  go_enter Tryz.func39, Tryz.ntmps39
  go_wp2_with fail
  refine (unhide CM _).mono ?_
  rintro e w1 ⟨rfl, hb⟩
  obtain ⟨_, _, R, hw⟩ := box3 hb
  clear hb
  go_wp2_with fail
  refine (truth_any _ _).mono ?_
  rintro e w9 ⟨rfl, hb⟩
  replace R := R.keep hb R.low
  replace hw := hw.trans (hb.mono hw.size)
  clear hb
  obtain ⟨a0, a1, a2, a3, a4, a5⟩ := R.tell
  obtain ⟨f0, f1, f2, f3, f4, f5⟩ := R.thaw
  have lb := R.low
  go_wp2
  exact bodyPost_ret (v := .agg #[.int .i64 2, .bool (decide (g < 0)), .int .i64 0, .int .i64 0, .string ⟨#[]⟩, .slice none 0 0]) (by simp [results, Tryz.results39, go_sem, a0, a1, a2, a3, a4, a5]) rfl ⟨rfl, ((((((hw.setCell (by simp; omega) _).setCell (by simp; omega) _).setCell (by simp; omega) _).setCell (by simp; omega) _).setCell (by simp; omega) _).setCell (by simp; omega) _)⟩

set_option maxHeartbeats 1000000 in
theorem less_text (y1 y2 : Bool) (c1 x1 c2 x2 : Int) (t1 t2 : ByteArray) (l1 l2 : Value) (w : World) :
    Calls Tryz.prog 39 #[.agg #[.int .i64 4, .bool y1, .int .i64 c1, .int .i64 x1, .string t1, l1], .agg #[.int .i64 4, .bool y2, .int .i64 c2, .int .i64 x2, .string t2, l2]] w fun e w' => e = .returned (.agg #[.int .i64 2, .bool (Op.bytesLess t1.toList t2.toList), .int .i64 0, .int .i64 0, .string ⟨#[]⟩, .slice none 0 0]) ∧ Below w.heap.size w w' := by
  generalize hg : Op.bytesLess t1.toList t2.toList = g
  have HG := hide hg
  clear hg
  go_enter Tryz.func39, Tryz.ntmps39
  go_wp2_with fail
  rw [unhide HG]
  refine (truth_any _ _).mono ?_
  rintro e w9 ⟨rfl, hb⟩
  obtain ⟨_, _, R, hw⟩ := box3 hb
  clear hb
  obtain ⟨a0, a1, a2, a3, a4, a5⟩ := R.tell
  obtain ⟨f0, f1, f2, f3, f4, f5⟩ := R.thaw
  have lb := R.low
  go_wp2
  exact bodyPost_ret (v := .agg #[.int .i64 2, .bool (g), .int .i64 0, .int .i64 0, .string ⟨#[]⟩, .slice none 0 0]) (by simp [results, Tryz.results39, go_sem, a0, a1, a2, a3, a4, a5]) rfl ⟨rfl, ((((((hw.setCell (by simp; omega) _).setCell (by simp; omega) _).setCell (by simp; omega) _).setCell (by simp; omega) _).setCell (by simp; omega) _).setCell (by simp; omega) _)⟩

theorem box4 {w w1 : World} {s t u r : TypeId} {a b m : Array Value} {c0 c1 c2 c3 c4 c5 : Value} (hb : Below (w.heap.size + 1 + 1 + 1) ((((w.alloc (.cells a s)).alloc (.cells b t)).alloc (.cells #[c0, c1, c2, c3, c4, c5] u)).alloc (.cells m r)) w1) :
    Box w1 (w.heap.size + 1 + 1) #[c0, c1, c2, c3, c4, c5] ∧ Below w.heap.size w w1 := by
  have C := (Box.new (w := (w.alloc (.cells a s)).alloc (.cells b t)) (t := u) (a0 := c0) (a1 := c1) (a2 := c2) (a3 := c3) (a4 := c4) (a5 := c5)).over (o := .cells m r)
  have C' := C.keep hb (by simp <;> omega)
  refine ⟨by simpa using C', (((((Below.refl w.heap.size w).alloc (Nat.le_refl _) _).alloc (by simp) _).alloc (by simp; omega) _).alloc (by simp; omega) _).trans (hb.mono (by omega))⟩

set_option maxHeartbeats 2000000 in
theorem meq_num (y1 y2 : Bool) (c1 x1 c2 x2 : Int) (t1 l1 t2 l2 : Value) (B p : Nat) (w : World) (hp : B ≤ p) (s1 : w.cell? ⟨p, 0, none⟩ = some (.int .i64 0)) (s2 : w.frozen? ⟨p, 0, none⟩ = false) (s3 : p < w.heap.size) :
    Calls Tryz.prog 57 #[.pointer (some ⟨p, 0, none⟩), .agg #[.int .i64 3, .bool y1, .int .i64 c1, .int .i64 x1, t1, l1], .agg #[.int .i64 3, .bool y2, .int .i64 c2, .int .i64 x2, t2, l2], .int .i64 1] w fun e w' => e = .returned (.agg #[.int .i64 2, .bool (decide (c1 = c2 ∧ x1 = x2)), .int .i64 0, .int .i64 0, .string ⟨#[]⟩, .slice none 0 0]) ∧ Below B w w' := by
  have q1 : p < w.heap.size + 1 := by omega
  have q2 : p < w.heap.size + 1 + 1 := by omega
  have hz : (w.setCell ⟨p, 0, none⟩ (.int .i64 1)).heap.size = w.heap.size := by simp [World.setCell]
  by_cases hc : c1 = c2
  · by_cases hx : x1 = x2
    · rw [decide_eq_true (And.intro hc hx)]
      subst hc hx
      go_enter Tryz.func57, Tryz.ntmps57
      go_wp2_with fail
      refine (truth_any _ _).mono ?_
      rintro e w9 ⟨rfl, hb⟩
      obtain ⟨_, _, R, hw⟩ := box3 hb
      rw [hz] at R hw
      replace hw := ((Below.refl B w).setCell (p := ⟨p, 0, none⟩) hp _).trans (hw.mono (by omega))
      clear hb
      obtain ⟨a0, a1, a2, a3, a4, a5⟩ := R.tell
      obtain ⟨f0, f1, f2, f3, f4, f5⟩ := R.thaw
      have lb := R.low
      go_wp2
      exact bodyPost_ret (v := .agg #[.int .i64 2, .bool (true), .int .i64 0, .int .i64 0, .string ⟨#[]⟩, .slice none 0 0]) (by simp [results, Tryz.results57, go_sem, a0, a1, a2, a3, a4, a5]) rfl ⟨rfl, ((((((hw.setCell (by simp; omega) _).setCell (by simp; omega) _).setCell (by simp; omega) _).setCell (by simp; omega) _).setCell (by simp; omega) _).setCell (by simp; omega) _)⟩
    · rw [decide_eq_false (fun h => hx h.2)]
      subst hc
      go_enter Tryz.func57, Tryz.ntmps57
      go_wp2_with fail
      refine (truth_any _ _).mono ?_
      rintro e w9 ⟨rfl, hb⟩
      obtain ⟨_, _, R, hw⟩ := box3 hb
      rw [hz] at R hw
      replace hw := ((Below.refl B w).setCell (p := ⟨p, 0, none⟩) hp _).trans (hw.mono (by omega))
      clear hb
      obtain ⟨a0, a1, a2, a3, a4, a5⟩ := R.tell
      obtain ⟨f0, f1, f2, f3, f4, f5⟩ := R.thaw
      have lb := R.low
      go_wp2
      exact bodyPost_ret (v := .agg #[.int .i64 2, .bool (false), .int .i64 0, .int .i64 0, .string ⟨#[]⟩, .slice none 0 0]) (by simp [results, Tryz.results57, go_sem, a0, a1, a2, a3, a4, a5]) rfl ⟨rfl, ((((((hw.setCell (by simp; omega) _).setCell (by simp; omega) _).setCell (by simp; omega) _).setCell (by simp; omega) _).setCell (by simp; omega) _).setCell (by simp; omega) _)⟩
  · rw [decide_eq_false (fun h => hc h.1)]
    go_enter Tryz.func57, Tryz.ntmps57
    go_wp2_with fail
    refine (truth_any _ _).mono ?_
    rintro e w9 ⟨rfl, hb⟩
    obtain ⟨_, _, R, hw⟩ := box3 hb
    rw [hz] at R hw
    replace hw := ((Below.refl B w).setCell (p := ⟨p, 0, none⟩) hp _).trans (hw.mono (by omega))
    clear hb
    obtain ⟨a0, a1, a2, a3, a4, a5⟩ := R.tell
    obtain ⟨f0, f1, f2, f3, f4, f5⟩ := R.thaw
    have lb := R.low
    go_wp2
    exact bodyPost_ret (v := .agg #[.int .i64 2, .bool (false), .int .i64 0, .int .i64 0, .string ⟨#[]⟩, .slice none 0 0]) (by simp [results, Tryz.results57, go_sem, a0, a1, a2, a3, a4, a5]) rfl ⟨rfl, ((((((hw.setCell (by simp; omega) _).setCell (by simp; omega) _).setCell (by simp; omega) _).setCell (by simp; omega) _).setCell (by simp; omega) _).setCell (by simp; omega) _)⟩

set_option maxHeartbeats 2000000 in
theorem meq_text (y1 y2 : Bool) (c1 x1 c2 x2 : Int) (t1 t2 : ByteArray) (l1 l2 : Value) (B p : Nat) (w : World) (hp : B ≤ p) (s1 : w.cell? ⟨p, 0, none⟩ = some (.int .i64 0)) (s2 : w.frozen? ⟨p, 0, none⟩ = false) (s3 : p < w.heap.size) :
    Calls Tryz.prog 57 #[.pointer (some ⟨p, 0, none⟩), .agg #[.int .i64 4, .bool y1, .int .i64 c1, .int .i64 x1, .string t1, l1], .agg #[.int .i64 4, .bool y2, .int .i64 c2, .int .i64 x2, .string t2, l2], .int .i64 1] w fun e w' => e = .returned (.agg #[.int .i64 2, .bool (decide (t1.toList = t2.toList)), .int .i64 0, .int .i64 0, .string ⟨#[]⟩, .slice none 0 0]) ∧ Below B w w' := by
  have q1 : p < w.heap.size + 1 := by omega
  have q2 : p < w.heap.size + 1 + 1 := by omega
  have hz : (w.setCell ⟨p, 0, none⟩ (.int .i64 1)).heap.size = w.heap.size := by simp [World.setCell]
  by_cases hc : t1.toList = t2.toList
  · rw [decide_eq_true hc]
    have hq : (t1.toList == t2.toList) = true := by simp [hc]
    clear hc
    go_enter Tryz.func57, Tryz.ntmps57
    go_wp2_with fail
    refine (truth_any _ _).mono ?_
    rintro e w9 ⟨rfl, hb⟩
    obtain ⟨_, _, R, hw⟩ := box3 hb
    rw [hz] at R hw
    replace hw := ((Below.refl B w).setCell (p := ⟨p, 0, none⟩) hp _).trans (hw.mono (by omega))
    clear hb
    obtain ⟨a0, a1, a2, a3, a4, a5⟩ := R.tell
    obtain ⟨f0, f1, f2, f3, f4, f5⟩ := R.thaw
    have lb := R.low
    go_wp2
    exact bodyPost_ret (v := .agg #[.int .i64 2, .bool (true), .int .i64 0, .int .i64 0, .string ⟨#[]⟩, .slice none 0 0]) (by simp [results, Tryz.results57, go_sem, a0, a1, a2, a3, a4, a5]) rfl ⟨rfl, ((((((hw.setCell (by simp; omega) _).setCell (by simp; omega) _).setCell (by simp; omega) _).setCell (by simp; omega) _).setCell (by simp; omega) _).setCell (by simp; omega) _)⟩
  · rw [decide_eq_false hc]
    have hq : (t1.toList == t2.toList) = false := by simp [hc]
    clear hc
    go_enter Tryz.func57, Tryz.ntmps57
    go_wp2_with fail
    refine (truth_any _ _).mono ?_
    rintro e w9 ⟨rfl, hb⟩
    obtain ⟨_, _, R, hw⟩ := box3 hb
    rw [hz] at R hw
    replace hw := ((Below.refl B w).setCell (p := ⟨p, 0, none⟩) hp _).trans (hw.mono (by omega))
    clear hb
    obtain ⟨a0, a1, a2, a3, a4, a5⟩ := R.tell
    obtain ⟨f0, f1, f2, f3, f4, f5⟩ := R.thaw
    have lb := R.low
    go_wp2
    exact bodyPost_ret (v := .agg #[.int .i64 2, .bool (false), .int .i64 0, .int .i64 0, .string ⟨#[]⟩, .slice none 0 0]) (by simp [results, Tryz.results57, go_sem, a0, a1, a2, a3, a4, a5]) rfl ⟨rfl, ((((((hw.setCell (by simp; omega) _).setCell (by simp; omega) _).setCell (by simp; omega) _).setCell (by simp; omega) _).setCell (by simp; omega) _).setCell (by simp; omega) _)⟩

set_option maxHeartbeats 2000000 in
theorem equal_num (y1 y2 : Bool) (c1 x1 c2 x2 : Int) (t1 l1 t2 l2 : Value) (w : World) :
    Calls Tryz.prog 38 #[.agg #[.int .i64 3, .bool y1, .int .i64 c1, .int .i64 x1, t1, l1], .agg #[.int .i64 3, .bool y2, .int .i64 c2, .int .i64 x2, t2, l2]] w fun e w' => e = .returned (.agg #[.int .i64 2, .bool (decide (c1 = c2 ∧ x1 = x2)), .int .i64 0, .int .i64 0, .string ⟨#[]⟩, .slice none 0 0]) ∧ Below w.heap.size w w' := by
  have CM := fun wx B p hp s1 s2 s3 => meq_num y1 y2 c1 x1 c2 x2 t1 l1 t2 l2 B p wx hp s1 s2 s3
  generalize decide (c1 = c2 ∧ x1 = x2) = g at CM ⊢
  replace CM := hide CM
  go_enter Tryz.func38, Tryz.ntmps38
  go_wp2_with fail
  refine (unhide CM _ (w.heap.size + 1 + 1 + 1) (w.heap.size + 1 + 1 + 1) (Nat.le_refl _) (by simp [go_sem]) (by simp [go_sem]) (by simp)).mono ?_
  rintro e w9 ⟨rfl, hb⟩
  obtain ⟨R, hw⟩ := box4 hb
  clear hb
  obtain ⟨a0, a1, a2, a3, a4, a5⟩ := R.tell
  obtain ⟨f0, f1, f2, f3, f4, f5⟩ := R.thaw
  have lb := R.low
  go_wp2
  exact bodyPost_ret (v := .agg #[.int .i64 2, .bool g, .int .i64 0, .int .i64 0, .string ⟨#[]⟩, .slice none 0 0]) (by simp [results, Tryz.results38, go_sem, a0, a1, a2, a3, a4, a5]) rfl ⟨rfl, ((((((hw.setCell (by simp; omega) _).setCell (by simp; omega) _).setCell (by simp; omega) _).setCell (by simp; omega) _).setCell (by simp; omega) _).setCell (by simp; omega) _)⟩

set_option maxHeartbeats 2000000 in
theorem equal_text (y1 y2 : Bool) (c1 x1 c2 x2 : Int) (t1 t2 : ByteArray) (l1 l2 : Value) (w : World) :
    Calls Tryz.prog 38 #[.agg #[.int .i64 4, .bool y1, .int .i64 c1, .int .i64 x1, .string t1, l1], .agg #[.int .i64 4, .bool y2, .int .i64 c2, .int .i64 x2, .string t2, l2]] w fun e w' => e = .returned (.agg #[.int .i64 2, .bool (decide (t1.toList = t2.toList)), .int .i64 0, .int .i64 0, .string ⟨#[]⟩, .slice none 0 0]) ∧ Below w.heap.size w w' := by
  have CM := fun wx B p hp s1 s2 s3 => meq_text y1 y2 c1 x1 c2 x2 t1 t2 l1 l2 B p wx hp s1 s2 s3
  generalize decide (t1.toList = t2.toList) = g at CM ⊢
  replace CM := hide CM
  go_enter Tryz.func38, Tryz.ntmps38
  go_wp2_with fail
  refine (unhide CM _ (w.heap.size + 1 + 1 + 1) (w.heap.size + 1 + 1 + 1) (Nat.le_refl _) (by simp [go_sem]) (by simp [go_sem]) (by simp)).mono ?_
  rintro e w9 ⟨rfl, hb⟩
  obtain ⟨R, hw⟩ := box4 hb
  clear hb
  obtain ⟨a0, a1, a2, a3, a4, a5⟩ := R.tell
  obtain ⟨f0, f1, f2, f3, f4, f5⟩ := R.thaw
  have lb := R.low
  go_wp2
  exact bodyPost_ret (v := .agg #[.int .i64 2, .bool g, .int .i64 0, .int .i64 0, .string ⟨#[]⟩, .slice none 0 0]) (by simp [results, Tryz.results38, go_sem, a0, a1, a2, a3, a4, a5]) rfl ⟨rfl, ((((((hw.setCell (by simp; omega) _).setCell (by simp; omega) _).setCell (by simp; omega) _).setCell (by simp; omega) _).setCell (by simp; omega) _).setCell (by simp; omega) _)⟩
end Go.Proofs.YtcidbhegnnedoaaGreatDoor

/- Plain facts: when two trees are told the same. -/
namespace Go.Proofs.YtcidbhegnnedoaaGreatDoor

mutual
/-- what matching.equal tells (yes 2, not known 1, no 0), and how many pairs it has counted -/
def eqF : Tree → Tree → Nat → Nat → Nat × Nat
  | .mk k y c x t ks, .mk k' y' c' x' t' ks', s, d =>
    if 2000 < s + 1 ∨ 20 < d then (1, s + 1)
    else if k = 1 ∨ k' = 1 then (if k = k' then 2 else 0, s + 1)
    else if k = k' then
      (if k = 2 then (if y = y' then 2 else 0, s + 1)
      else if k = 3 then (if c = c' ∧ x = x' then 2 else 0, s + 1)
      else if k = 4 then (if t.toList = t'.toList then 2 else 0, s + 1)
      else if k = 5 then (if ks.length = ks'.length then eqL ks ks' 2 (s + 1) (d + 1) else (0, s + 1))
      else (1, s + 1))
    else (1, s + 1)
def eqL : List Tree → List Tree → Nat → Nat → Nat → Nat × Nat
  | [], _, a, s, _ => (a, s)
  | _ :: _, [], a, s, _ => (a, s)
  | u :: us, v :: vs, a, s, d => if min a (eqF u v s d).1 = 0 ∨ 2000 < (eqF u v s d).2 then (min a (eqF u v s d).1, (eqF u v s d).2) else eqL us vs (min a (eqF u v s d).1) (eqF u v s d).2 d
end

mutual
/-- what a value says, bare of what its kind has not -/
def bareT : Tree → Tree
  | .mk k y c x t ks => .mk k (if k = 2 then y else false) (if k = 3 then c else 0) (if k = 3 then x else 0) (if k = 4 then t else ⟨#[]⟩) (if k = 5 then bareL ks else [])
def bareL : List Tree → List Tree
  | [] => []
  | u :: us => bareT u :: bareL us
end
theorem bareL_len : ∀ ks : List Tree, (bareL ks).length = ks.length
  | [] => by rw [bareL]
  | u :: us => by rw [bareL, List.length_cons, List.length_cons, bareL_len us]

mutual
theorem eq_sym : ∀ (A B : Tree) (s d : Nat), eqF A B s d = eqF B A s d
  | .mk k y c x t ks, .mk k' y' c' x' t' ks', s, d => by
    rw [eqF, eqF]
    by_cases h1 : 2000 < s + 1 ∨ 20 < d
    · rw [if_pos h1, if_pos h1]
    rw [if_neg h1, if_neg h1]
    by_cases h2 : k = 1 ∨ k' = 1
    · rw [if_pos h2, if_pos (Or.comm.1 h2)]
      by_cases e : k = k'
      · rw [if_pos e, if_pos e.symm]
      · rw [if_neg e, if_neg (Ne.symm e)]
    rw [if_neg h2, if_neg (fun q => h2 (Or.comm.1 q))]
    by_cases e : k = k'
    · subst e
      rw [if_pos rfl, if_pos rfl, eqL_sym ks ks' 2 (s + 1) (d + 1)]
      simp only [eq_comm (a := y), eq_comm (a := c), eq_comm (a := x), eq_comm (a := t.toList), eq_comm (a := ks.length)]
    · rw [if_neg e, if_neg (Ne.symm e)]
theorem eqL_sym : ∀ (ks ks' : List Tree) (a s d : Nat), eqL ks ks' a s d = eqL ks' ks a s d
  | [], [], a, s, d => rfl
  | [], v :: vs, a, s, d => by rw [eqL, eqL]
  | u :: us, [], a, s, d => by rw [eqL, eqL]
  | u :: us, v :: vs, a, s, d => by
    rw [eqL, eqL, eq_sym u v s d, eqL_sym us vs]
end

mutual
theorem eq_le : ∀ (A B : Tree) (s d : Nat), (eqF A B s d).1 ≤ 2
  | .mk k y c x t ks, .mk k' y' c' x' t' ks', s, d => by
    rw [eqF]
    have h := eqL_le ks ks' 2 (s + 1) (d + 1) (Nat.le_refl _)
    (repeat' split) <;> first | exact h | (simp only; omega) | (simp only; split <;> omega)
theorem eqL_le : ∀ (ks ks' : List Tree) (a s d : Nat), a ≤ 2 → (eqL ks ks' a s d).1 ≤ 2
  | [], _, a, s, d, h => by rw [eqL]; exact h
  | u :: us, [], a, s, d, h => by rw [eqL]; exact h
  | u :: us, v :: vs, a, s, d, h => by
    rw [eqL]
    have h2 := eq_le u v s d
    split
    · simp only; omega
    · exact eqL_le us vs _ _ d (by omega)
end

mutual
theorem wrongF_ge : ∀ (T : Tree) (s d : Nat), s ≤ (wrongF T s d).2
  | .mk k y c x t ks, s, d => by
    rw [wrongF]
    have h := wrongL_ge ks (s + 1) (d + 1)
    (repeat' split) <;> (try simp only) <;> omega
theorem wrongL_ge : ∀ (ks : List Tree) (s d : Nat), s ≤ (wrongL ks s d).2
  | [], s, d => by rw [wrongL]; exact Nat.le_refl _
  | v :: vs, s, d => by
    rw [wrongL]
    have h := wrongF_ge v s d
    have h2 := wrongL_ge vs (wrongF v s d).2 d
    split <;> omega
end

theorem tl_eq {t t' : ByteArray} : t.toList = t'.toList ↔ t = t' := by
  constructor
  · intro h
    have e1 : t.data.toList = t'.data.toList := by rw [← Lib.toList_data, ← Lib.toList_data]; exact h
    cases t; cases t'
    simp only at e1
    rw [Array.toList_inj.1 e1]
  · intro h; rw [h]

mutual
/-- of right values: no bound is met, and yes is told of the same alone -/
theorem eq_ok : ∀ (A B : Tree) (s s0 d : Nat), s ≤ s0 → s0 ≤ 2000 → (wrongF A s0 d).1 = 0 → (eqF A B s d).2 ≤ (wrongF A s0 d).2 ∧ ((eqF A B s d).1 = 2 ↔ bareT A = bareT B)
  | .mk k y c x t ks, .mk k' y' c' x' t' ks', s, s0, d, hs, h0, hw => by
    rw [wrongF] at hw ⊢
    by_cases h1 : 2000 < s0 + 1 ∨ 20 < d
    · rw [if_pos h1] at hw; exact absurd hw (by simp)
    rw [if_neg h1] at hw ⊢
    rw [eqF, if_neg (by omega), bareT, bareT]
    by_cases hk : k = k'
    · subst hk
      by_cases k1 : k = 1
      · subst k1
        simp
        omega
      rw [if_neg (by omega), if_pos rfl]
      by_cases k2 : k = 2
      · subst k2
        by_cases e : y = y'
        · simp [e]; omega
        · simp [e]; omega
      rw [if_neg (by omega)] at hw ⊢
      rw [if_neg k2]
      by_cases k3 : k = 3
      · subst k3
        by_cases e : c = c' ∧ x = x'
        · simp [e]; omega
        · simp [e]; omega
      rw [if_neg k3] at hw ⊢
      rw [if_neg k3]
      by_cases k4 : k = 4
      · subst k4
        by_cases e : t = t'
        · simp [e]; omega
        · simp [e, tl_eq]; omega
      rw [if_neg k4] at hw ⊢
      rw [if_neg k4]
      by_cases k5 : k = 5
      · subst k5
        rw [if_pos rfl] at hw ⊢
        rw [if_pos rfl]
        by_cases l2 : 200 < ks.length
        · rw [if_pos l2] at hw; exact absurd hw (by simp)
        rw [if_neg l2] at hw ⊢
        by_cases e : ks.length = ks'.length
        · rw [if_pos e]
          obtain ⟨i1, i2⟩ := eqL_ok ks ks' 2 (s + 1) (s0 + 1) (d + 1) e (Nat.le_refl _) (by omega) (by omega) hw
          refine ⟨i1, ?_⟩
          rw [i2]
          simp
        · rw [if_neg e]
          have hm := wrongL_ge ks (s0 + 1) (d + 1)
          refine ⟨Nat.le_trans (by omega : s + 1 ≤ s0 + 1) hm, ?_⟩
          constructor
          · intro q; simp at q
          · intro q
            exfalso
            simp at q
            exact e (by rw [← bareL_len ks, q, bareL_len])
      · rw [if_neg k5] at hw; exact absurd hw (by simp)
    · have hn : ∀ a b c d e a' b' c' d' e', ¬ Tree.mk k a b c d e = Tree.mk k' a' b' c' d' e' := by
        intro a b c d e a' b' c' d' e' q
        injection q with q1
        exact hk q1
      have hge : s + 1 ≤ (if k = 1 ∨ k = 2 then (0, s0 + 1) else if k = 3 then (Dm.wrongN c x, s0 + 1) else if k = 4 then (wrongT t, s0 + 1) else if k = 5 then if 200 < ks.length then (5, s0 + 1) else wrongL ks (s0 + 1) (d + 1) else (1, s0 + 1) : Int × Nat).2 := by
        have := wrongL_ge ks (s0 + 1) (d + 1)
        (repeat' split) <;> (try simp only) <;> omega
      by_cases h2 : k = 1 ∨ k' = 1
      · rw [if_pos h2, if_neg hk]
        exact ⟨hge, ⟨fun q => by simp at q, fun q => absurd q (hn _ _ _ _ _ _ _ _ _ _)⟩⟩
      · rw [if_neg h2, if_neg hk]
        exact ⟨hge, ⟨fun q => by simp at q, fun q => absurd q (hn _ _ _ _ _ _ _ _ _ _)⟩⟩
theorem eqL_ok : ∀ (ks ks' : List Tree) (a s s0 d : Nat), ks.length = ks'.length → a ≤ 2 → s ≤ s0 → s0 ≤ 2000 → (wrongL ks s0 d).1 = 0 → (eqL ks ks' a s d).2 ≤ (wrongL ks s0 d).2 ∧ ((eqL ks ks' a s d).1 = 2 ↔ (a = 2 ∧ bareL ks = bareL ks'))
  | [], [], a, s, s0, d, _, _, hs, _, _ => by rw [eqL, wrongL]; simp; exact hs
  | [], v :: vs, a, s, s0, d, hl, _, _, _, _ => by simp at hl
  | u :: us, [], a, s, s0, d, hl, _, _, _, _ => by simp at hl
  | u :: us, v :: vs, a, s, s0, d, hl, ha, hs, h0, hw => by
    rw [wrongL] at hw ⊢
    by_cases hu : (wrongF u s0 d).1 = 0
    · rw [if_pos hu] at hw ⊢
      obtain ⟨i1, i2⟩ := eq_ok u v s s0 d hs h0 hu
      have hb := (wrongF_bd u s0 d h0).2 hu
      have hle := eq_le u v s d
      have hge := wrongL_ge us (wrongF u s0 d).2 d
      rw [eqL]
      have n2 : ¬ 2000 < (eqF u v s d).2 := by omega
      by_cases hz : min a (eqF u v s d).1 = 0
      · rw [if_pos (.inl hz)]
        refine ⟨by simp only; omega, ⟨fun q => by simp only at q; omega, ?_⟩⟩
        rintro ⟨rfl, q⟩
        rw [bareL, bareL] at q
        injection q with q1 q2
        have := i2.2 q1
        omega
      · rw [if_neg (by omega)]
        obtain ⟨j1, j2⟩ := eqL_ok us vs (min a (eqF u v s d).1) (eqF u v s d).2 (wrongF u s0 d).2 d (by simpa using hl) (by omega) i1 hb hw
        refine ⟨j1, ?_⟩
        rw [j2, bareL, bareL]
        constructor
        · rintro ⟨q1, q2⟩
          refine ⟨by omega, ?_⟩
          rw [i2.1 (by omega), q2]
        · rintro ⟨rfl, q⟩
          injection q with q1 q2
          have := i2.2 q1
          exact ⟨by omega, q2⟩
    · rw [if_neg hu] at hw; exact absurd hw hu
end
mutual
theorem bare_bare : ∀ A : Tree, bareT (bareT A) = bareT A
  | .mk k y c x t ks => by
    rw [bareT, bareT]
    by_cases k5 : k = 5
    · subst k5
      simp [bareL_bare ks]
    · simp only [if_neg k5]
      congr 1 <;> split <;> rfl
theorem bareL_bare : ∀ ks : List Tree, bareL (bareL ks) = bareL ks
  | [] => by rw [bareL, bareL]
  | u :: us => by rw [bareL, bareL, bare_bare u, bareL_bare us]
end

mutual
/-- what Same tells -/
def sameB : Tree → Tree → Bool
  | .mk k y c x t ks, .mk k' y' c' x' t' ks' => decide (k = k') && decide (y = y') && decide (c = c') && decide (x = x') && decide (t.toList = t'.toList) && decide (ks.length = ks'.length) && sameL ks ks'
def sameL : List Tree → List Tree → Bool
  | [], _ => true
  | _ :: _, [] => true
  | u :: us, v :: vs => sameB u v && sameL us vs
end
mutual
theorem same_iff : ∀ (A B : Tree), sameB A B = true ↔ A = B
  | .mk k y c x t ks, .mk k' y' c' x' t' ks' => by
    rw [sameB]
    simp only [Bool.and_eq_true, decide_eq_true_eq, tl_eq]
    constructor
    · rintro ⟨⟨⟨⟨⟨⟨rfl, rfl⟩, rfl⟩, rfl⟩, rfl⟩, hl⟩, hs⟩
      rw [(sameL_iff ks ks' hl).1 hs]
    · intro q
      injection q with q1 q2 q3 q4 q5 q6
      subst q1 q2 q3 q4 q5 q6
      exact ⟨⟨⟨⟨⟨⟨rfl, rfl⟩, rfl⟩, rfl⟩, rfl⟩, rfl⟩, (sameL_iff ks ks rfl).2 rfl⟩
theorem sameL_iff : ∀ (ks ks' : List Tree), ks.length = ks'.length → (sameL ks ks' = true ↔ ks = ks')
  | [], [], _ => by simp [sameL]
  | [], v :: vs, h => by simp at h
  | u :: us, [], h => by simp at h
  | u :: us, v :: vs, h => by
    rw [sameL, Bool.and_eq_true, same_iff u v, sameL_iff us vs (by simpa using h), List.cons.injEq]
end
/-- the two answers agree -/
theorem eq_same {A B : Tree} (hA : (wrongF A 0 1).1 = 0) : decide ((eqF A B 0 1).1 = 2) = sameB (bareT A) (bareT B) := by
  have h := (eq_ok A B 0 0 1 (Nat.le_refl _) (by omega) hA).2
  rw [← same_iff] at h
  cases hb : sameB (bareT A) (bareT B) with
  | true => exact decide_eq_true (h.2 hb)
  | false => exact decide_eq_false (fun q => by rw [h.1 q] at hb; cases hb)
theorem eq_bare {A : Tree} (hA : (wrongF A 0 1).1 = 0) : (eqF A (bareT A) 0 1).1 = 2 :=
  (eq_ok A (bareT A) 0 0 1 (Nat.le_refl _) (by omega) hA).2.2 (bare_bare A).symm
end Go.Proofs.YtcidbhegnnedoaaGreatDoor

/- Plain: what the document's Equal tells (without a count), and that of right values matching tells the same. -/
namespace Go.Proofs.YtcidbhegnnedoaaGreatDoor

mutual
def eqP : Tree → Tree → Nat
  | .mk k y c x t ks, .mk k' y' c' x' t' ks' =>
    if k = 1 ∨ k' = 1 then (if k = k' then 2 else 0)
    else if k = k' then
      (if k = 2 then (if y = y' then 2 else 0)
      else if k = 3 then (if c = c' ∧ x = x' then 2 else 0)
      else if k = 4 then (if t.toList = t'.toList then 2 else 0)
      else if k = 5 then (if ks.length = ks'.length then eqPL ks ks' 2 else 0)
      else 0)
    else 1
def eqPL : List Tree → List Tree → Nat → Nat
  | [], _, a => a
  | _ :: _, [], a => a
  | u :: us, v :: vs, a => eqPL us vs (min a (eqP u v))
end

theorem eqPL_zero : ∀ (us vs : List Tree), eqPL us vs 0 = 0
  | [], _ => by rw [eqPL]
  | _ :: _, [] => by rw [eqPL]
  | u :: us, v :: vs => by rw [eqPL, Nat.zero_min, eqPL_zero us vs]

mutual
theorem eqP_le : ∀ (A B : Tree), eqP A B ≤ 2
  | .mk k y c x t ks, .mk k' y' c' x' t' ks' => by
    rw [eqP]
    have h := eqPL_le ks ks' 2 (Nat.le_refl _)
    (repeat' split) <;> omega
theorem eqPL_le : ∀ (ks ks' : List Tree) (a : Nat), a ≤ 2 → eqPL ks ks' a ≤ 2
  | [], _, a, h => by rw [eqPL]; exact h
  | u :: us, [], a, h => by rw [eqPL]; exact h
  | u :: us, v :: vs, a, h => by
    rw [eqPL]
    exact eqPL_le us vs _ (by omega)
end

mutual
/-- of right values the two tell the same -/
theorem eqp_same : ∀ (A B : Tree) (s s0 d : Nat), s ≤ s0 → s0 ≤ 2000 → (wrongF A s0 d).1 = 0 → (eqF A B s d).1 = eqP A B
  | .mk k y c x t ks, .mk k' y' c' x' t' ks', s, s0, d, hs, h0, hw => by
    rw [wrongF] at hw
    by_cases h1 : 2000 < s0 + 1 ∨ 20 < d
    · rw [if_pos h1] at hw; exact absurd hw (by simp)
    rw [if_neg h1] at hw
    rw [eqF, if_neg (by omega), eqP]
    by_cases h2 : k = 1 ∨ k' = 1
    · rw [if_pos h2, if_pos h2]
    rw [if_neg h2, if_neg h2]
    by_cases hk : k = k'
    · subst hk
      rw [if_pos rfl, if_pos rfl]
      by_cases k2 : k = 2
      · rw [if_pos k2, if_pos k2]
      rw [if_neg k2, if_neg k2]
      by_cases k3 : k = 3
      · rw [if_pos k3, if_pos k3]
      rw [if_neg k3, if_neg k3]
      by_cases k4 : k = 4
      · rw [if_pos k4, if_pos k4]
      rw [if_neg k4, if_neg k4]
      by_cases k5 : k = 5
      · rw [if_pos k5, if_pos k5]
        rw [if_neg (by omega), if_neg k3, if_neg k4, if_pos k5] at hw
        by_cases l2 : 200 < ks.length
        · rw [if_pos l2] at hw; exact absurd hw (by simp)
        rw [if_neg l2] at hw
        by_cases e : ks.length = ks'.length
        · rw [if_pos e, if_pos e]
          exact eqpL_same ks ks' 2 (s + 1) (s0 + 1) (d + 1) e (Nat.le_refl _) (by omega) (by omega) hw
        · rw [if_neg e, if_neg e]
      · rw [if_neg (by omega), if_neg k3, if_neg k4, if_neg k5] at hw; exact absurd hw (by simp)
    · rw [if_neg hk, if_neg hk]
theorem eqpL_same : ∀ (ks ks' : List Tree) (a s s0 d : Nat), ks.length = ks'.length → a ≤ 2 → s ≤ s0 → s0 ≤ 2000 → (wrongL ks s0 d).1 = 0 → (eqL ks ks' a s d).1 = eqPL ks ks' a
  | [], [], a, s, s0, d, _, _, hs, _, _ => by rw [eqL, eqPL]
  | [], v :: vs, a, s, s0, d, hl, _, _, _, _ => by simp at hl
  | u :: us, [], a, s, s0, d, hl, _, _, _, _ => by simp at hl
  | u :: us, v :: vs, a, s, s0, d, hl, ha, hs, h0, hw => by
    rw [wrongL] at hw
    by_cases hu : (wrongF u s0 d).1 = 0
    · rw [if_pos hu] at hw
      obtain ⟨i1, _⟩ := eq_ok u v s s0 d hs h0 hu
      have i3 := eqp_same u v s s0 d hs h0 hu
      have hb := (wrongF_bd u s0 d h0).2 hu
      rw [eqL, eqPL, i3]
      by_cases hz : min a (eqP u v) = 0
      · rw [if_pos (.inl hz), hz, eqPL_zero]
      · rw [if_neg (by omega)]
        have := eqP_le u v
        exact eqpL_same us vs _ _ (wrongF u s0 d).2 d (by simpa using hl) (by omega) i1 hb hw
    · rw [if_neg hu] at hw; exact absurd hw hu
end
end Go.Proofs.YtcidbhegnnedoaaGreatDoor

/- In plain words: what Less tells of two right values. -/
namespace Go.Proofs.YtcidbhegnnedoaaGreatDoor
open Go.RowKit

/-- what Less tells of two right values -/
def lessH : Tree → Tree → Nat
  | .mk k _ c x t _, .mk k' _ c' x' t' _ => if k = k' ∧ k = 3 then (if Dm.sgn (Dm.V c x - Dm.V c' x') < 0 then 2 else 0) else if k = k' ∧ k = 4 then (if Op.bytesLess t.toList t'.toList = true then 2 else 0) else 1
theorem lessH_le (A B : Tree) : lessH A B ≤ 2 := by
  obtain ⟨k, y, c, x, t, ks⟩ := A
  obtain ⟨k', y', c', x', t', ks'⟩ := B
  rw [lessH]
  (repeat' split) <;> omega
end Go.Proofs.YtcidbhegnnedoaaGreatDoor
