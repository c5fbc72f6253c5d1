/- Walks: matching.equal of two lists, of any two trees; Equal. -/
import Derived.Test.YthhdgimphnbjbaaDoorY5
import Derived.Test.YthhdgimphnbjbaaDoorY6
namespace Go.Proofs.YthhdgimphnbjbaaDoor
open Go.RowKit

theorem box3b {p : Nat} {w w1 : World} {s t u : TypeId} {a0 a1 a2 a3 a4 a5 b0 b1 b2 b3 b4 b5 c0 c1 c2 c3 c4 c5 : Value} (hp : p < w.heap.size) (hb : But p (((w.alloc (.cells #[a0, a1, a2, a3, a4, a5] s)).alloc (.cells #[b0, b1, b2, b3, b4, b5] t)).alloc (.cells #[c0, c1, c2, c3, c4, c5] u)) w1) :
    Box w1 (w.heap.size + 1 + 1) #[c0, c1, c2, c3, c4, c5] ∧ But p w w1 := by
  have C := (Box.new (w := (w.alloc (.cells #[a0, a1, a2, a3, a4, a5] s)).alloc (.cells #[b0, b1, b2, b3, b4, b5] t)) (t := u) (a0 := c0) (a1 := c1) (a2 := c2) (a3 := c3) (a4 := c4) (a5 := c5)).but hb (by simp; omega)
  exact ⟨by simpa using C, (But.of ((((Below.refl _ _).alloc (Nat.le_refl _) _).alloc (by simp) _).alloc (by simp; omega) _)).trans hb⟩

theorem St.add {w : World} {p s : Nat} (h : St w p s) : St (w.setCell ⟨p, 0, none⟩ (.int .i64 ((s : Int) + 1))) p (s + 1) := by
  obtain ⟨h1, h2, h3⟩ := h
  refine ⟨?_, ?_, by simpa [World.setCell] using h3⟩
  · simp [go_sem, h1]
  · simp [go_sem, h2]

set_option maxHeartbeats 2000000 in
theorem eq_list_call (y : Bool) (c x : Int) (t : ByteArray) (y' : Bool) (c' x' : Int) (t' : ByteArray) (l l' : Nat) (a a' : Option Addr) (cap cap' : Nat) (w : World) (p s d g n : Nat) (hS : St w p s) (hs : s + 1 ≤ 2000) (hd : d ≤ 20)
    (hC : ∀ wx, Below w.heap.size (w.setCell ⟨p, 0, none⟩ (.int .i64 ((s : Int) + 1))) wx → Calls Tryd.prog 20 #[.pointer (some ⟨p, 0, none⟩), .slice a l cap, .slice a' l' cap', .int .i64 ((d : Int) + 1)] wx fun e w' => e = .returned (told g) ∧ St w' p n ∧ But p wx w') :
    Calls Tryd.prog 12 #[.pointer (some ⟨p, 0, none⟩), .agg #[.int .i64 5, .bool y, .int .i64 c, .int .i64 x, .string t, .slice a l cap], .agg #[.int .i64 5, .bool y', .int .i64 c', .int .i64 x', .string t', .slice a' l' cap'], .int .i64 (d : Int)] w fun e w' => e = .returned (told g) ∧ St w' p n ∧ But p w w' := by
  have hz : (w.setCell ⟨p, 0, none⟩ (.int .i64 ((s : Int) + 1))).heap.size = w.heap.size := by simp [World.setCell]
  have HC := hide (fun o1 o2 o3 => hC ((((w.setCell ⟨p, 0, none⟩ (.int .i64 ((s : Int) + 1))).alloc o1).alloc o2).alloc o3) ((((Below.refl _ _).alloc (by simp [World.setCell]) o1).alloc (by simp [World.setCell]) o2).alloc (by simp [World.setCell]; omega) o3))
  obtain ⟨s1, s2, s3⟩ := hS
  have q1 : p < w.heap.size + 1 := by omega
  have q2 : p < w.heap.size + 1 + 1 := by omega
  have h2' : ¬ (2000 : Int) < (s : Int) + 1 := by omega
  have h3' : ¬ (20 : Int) < (d : Int) := by omega
  clear hC
  go_enter Tryd.func12, Tryd.ntmps12
  go_wp2_with fail
  refine (unhide HC _ _ _).mono ?_
  rintro e w9 ⟨rfl, hS9, hb⟩
  obtain ⟨R, hw⟩ := box3b (by rw [hz]; exact s3) hb
  rw [hz] at R
  clear hb HC
  obtain ⟨a0, a1, a2, a3, a4, a5⟩ := R.tell
  obtain ⟨f0, f1, f2, f3, f4, f5⟩ := R.thaw
  have lb := R.low
  go_wp2
  exact bodyPost_ret (v := told g) (by simp [results, Tryd.results12, go_sem, a0, a1, a2, a3, a4, a5]) rfl ⟨rfl, hS9.but But.put (by omega), (But.set.trans hw).on (below_put6 (Below.refl _ _) (by omega))⟩

theorem eq_of (k : Int) (y : Bool) (c x : Int) (t : ByteArray) (ks : List Tree) (IH : ∀ u ∈ ks, EqC u) : EqC (.mk k y c x t ks) := by
  intro U B w v u p s d hM hM' hp hS hs hd1 hd
  cases U with
  | mk k' y' c' x' t' ks' =>
  rw [Mem] at hM hM'
  obtain ⟨ht, hk, a, cap, rfl, hks⟩ := hM
  obtain ⟨ht', hk', a', cap', rfl, hks'⟩ := hM'
  by_cases h5 : 2000 < s + 1 ∨ 20 < d ∨ ¬ (k = 5 ∧ k' = 5)
  · exact eq_plain k y c x t k' y' c' x' t' ks ks' a a' cap cap' w p s d hS hs hd h5
  · obtain ⟨rfl, rfl⟩ : k = 5 ∧ k' = 5 := by omega
    rw [ef_list (by omega)]
    have hBw : B ≤ w.heap.size := Nat.le_of_lt (Nat.lt_of_le_of_lt hp hS.2.2)
    have hz : (w.setCell ⟨p, 0, none⟩ (.int .i64 ((s : Int) + 1))).heap.size = w.heap.size := by simp [World.setCell]
    have S1 := hS.add
    have hp3 : p < w.heap.size := hS.2.2
    by_cases hl : ks.length = ks'.length
    · rw [if_pos hl]
      by_cases hn : ks = []
      · subst hn
        have hn' : ks' = [] := List.eq_nil_of_length_eq_zero (by rw [← hl]; rfl)
        subst hn'
        rw [eqL_nil]
        refine eq_list_call y c x t y' c' x' t' _ _ a a' cap cap' w p s d 2 (s + 1) hS (by omega) (by omega) (fun wx hx => ?_)
        refine (eqLists_nil a a' cap cap' wx p _).mono ?_
        rintro e w2 ⟨he, hb⟩
        exact ⟨he, (S1.below hx hp3).below hb (Nat.lt_of_lt_of_le hp3 (by rw [← hz]; exact hx.size)), But.of hb⟩
      · have hn' : ks' ≠ [] := by
          intro q
          rw [q] at hl
          exact hn (List.eq_nil_of_length_eq_zero hl)
        obtain ⟨b, off, rfl, hb, hm⟩ := hks hn
        obtain ⟨b', off', rfl, hb', hm'⟩ := hks' hn'
        refine eq_list_call y c x t y' c' x' t' _ _ _ _ cap cap' w p s d _ _ hS (by omega) (by omega) (fun wx hx => ?_)
        have hBx : Below B w wx := ((Below.refl B w).setCell (p := ⟨p, 0, none⟩) hp (.int .i64 ((s : Int) + 1))).trans (hx.mono hBw)
        exact eqLists_yes ks ks' IH B wx b b' off off' cap cap' p (s + 1) (d + 1) hl hk (MemL.below hBx hb hm) (MemL.below hBx hb' hm') hb hb' hp (S1.below hx hp3) (by omega) (by omega) (by omega)
    · rw [if_neg hl]
      refine eq_list_call y c x t y' c' x' t' _ _ a a' cap cap' w p s d 0 (s + 1) hS (by omega) (by omega) (fun wx hx => ?_)
      refine (eqLists_no _ _ a a' cap cap' wx p _ hl).mono ?_
      rintro e w2 ⟨he, hb⟩
      exact ⟨he, (S1.below hx hp3).below hb (Nat.lt_of_lt_of_le hp3 (by rw [← hz]; exact hx.size)), But.of hb⟩

mutual
theorem eq_all : ∀ T : Tree, EqC T
  | .mk k y c x t ks => eq_of k y c x t ks (fun u h => eq_alls ks u h)
theorem eq_alls : ∀ (ks : List Tree) (u : Tree), u ∈ ks → EqC u
  | [], u, h => by cases h
  | v :: vs, u, h => by
    by_cases e : u = v
    · rw [e]; exact eq_all v
    · exact eq_alls vs u ((List.mem_cons.1 h).resolve_left e)
end

/-- what Equal tells of two trees -/
def eqT (T U : Tree) : Nat := (eqF T U 0 1).1

theorem box4b {p : Nat} {w w1 : World} {s t u r : TypeId} {a b m : Array Value} {c0 c1 c2 c3 c4 c5 : Value} (hp : p = w.heap.size + 1 + 1 + 1) (hb : But p ((((w.alloc (.cells a s)).alloc (.cells b t)).alloc (.cells #[c0, c1, c2, c3, c4, c5] u)).alloc (.cells m r)) w1) :
    Box w1 (w.heap.size + 1 + 1) #[c0, c1, c2, c3, c4, c5] ∧ Below w.heap.size w w1 := by
  subst hp
  have C := (Box.new (w := (w.alloc (.cells a s)).alloc (.cells b t)) (t := u) (a0 := c0) (a1 := c1) (a2 := c2) (a3 := c3) (a4 := c4) (a5 := c5)).over (o := .cells m r)
  have C' := C.but hb (by simp)
  refine ⟨by simpa using C', (((((Below.refl w.heap.size w).alloc (Nat.le_refl _) _).alloc (by simp) _).alloc (by simp; omega) _).alloc (by simp; omega) _).trans (hb.below (by omega) (by simp; omega))⟩

set_option maxHeartbeats 2000000 in
theorem equal_any (T U : Tree) (w : World) (v u : Array Value) (hM : Mem w.heap.size w T v) (hM' : Mem w.heap.size w U u) :
    Calls Tryd.prog 6 #[.agg v, .agg u] w fun e w' => e = .returned (told (eqT T U)) ∧ Below w.heap.size w w' := by
  have C := hide (fun wx (hx : Below w.heap.size w wx) p (hp : w.heap.size ≤ p) (hS : St wx p 0) => eq_all T U w.heap.size wx v u p 0 1 (Mem.below hx hM) (Mem.below hx hM') hp hS (by omega) (by omega) (by omega))
  unfold eqT
  cases T with
  | mk k y c x t ks =>
  cases U with
  | mk k' y' c' x' t' ks' =>
  rw [Mem] at hM hM'
  obtain ⟨_, _, a, cap, rfl, _⟩ := hM
  obtain ⟨_, _, a', cap', rfl, _⟩ := hM'
  generalize eqF (.mk k y c x t ks) (.mk k' y' c' x' t' ks') 0 1 = E at *
  go_enter Tryd.func6, Tryd.ntmps6
  go_wp2_with fail
  have ba : ∀ o1 o2 o3 o4 : Obj, Below w.heap.size w ((((w.alloc o1).alloc o2).alloc o3).alloc o4) := fun o1 o2 o3 o4 => (((((Below.refl w.heap.size w).alloc (Nat.le_refl _) o1).alloc (by simp) o2).alloc (by simp; omega) o3).alloc (by simp; omega) o4)
  refine (unhide C _ (ba _ _ _ _) (w.heap.size + 1 + 1 + 1) (by omega) ⟨by simp [go_sem], by simp [go_sem], by simp⟩).mono ?_
  rintro e w9 ⟨rfl, _, hb⟩
  obtain ⟨R, hw⟩ := box4b rfl hb
  clear hb C ba
  obtain ⟨a0, a1, a2, a3, a4, a5⟩ := R.tell
  obtain ⟨f0, f1, f2, f3, f4, f5⟩ := R.thaw
  have lb := R.low
  go_wp2
  exact bodyPost_ret (v := told E.1) (by simp [results, Tryd.results6, go_sem, a0, a1, a2, a3, a4, a5]) rfl ⟨rfl, below_put6 hw (by omega)⟩
end Go.Proofs.YthhdgimphnbjbaaDoor
