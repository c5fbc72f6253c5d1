/- Walks: matching.equal of two lists, of any two trees; Equal. -/
import Derived.Test.YtdkgapapdjefdaaGreatDoorG22
import Derived.Test.YtdkgapapdjefdaaGreatDoorG21
import Derived.Test.YtdkgapapdjefdaaGreatDoorG19
import Derived.Test.YtdkgapapdjefdaaGreatDoorG20
import Derived.Test.YtdkgapapdjefdaaGreatDoorG05
import Derived.Test.YtdkgapapdjefdaaGreatDoorG08
namespace Go.Proofs.YtdkgapapdjefdaaGreatDoor
open Go.RowKit

theorem box3b {p : Nat} {w w1 : World} {s t u : TypeId} {a0 a1 a2 a3 a4 a5 b0 b1 b2 b3 b4 b5 c0 c1 c2 c3 c4 c5 : Value} (hp : p < w.heap.size) (hb : But p (((w.alloc (.cells #[a0, a1, a2, a3, a4, a5] s)).alloc (.cells #[b0, b1, b2, b3, b4, b5] t)).alloc (.cells #[c0, c1, c2, c3, c4, c5] u)) w1) :
    Box w1 (w.heap.size + 1 + 1) #[c0, c1, c2, c3, c4, c5] ∧ But p w w1 := by
  have C := (Box.new (w := (w.alloc (.cells #[a0, a1, a2, a3, a4, a5] s)).alloc (.cells #[b0, b1, b2, b3, b4, b5] t)) (t := u) (a0 := c0) (a1 := c1) (a2 := c2) (a3 := c3) (a4 := c4) (a5 := c5)).but hb (by simp; omega)
  exact ⟨by simpa using C, (But.of ((((Below.refl _ _).alloc (Nat.le_refl _) _).alloc (by simp) _).alloc (by simp; omega) _)).trans hb⟩

theorem St.add {w : World} {p s : Nat} (h : St w p s) : St (w.setCell ⟨p, 0, none⟩ (.int .i64 ((s : Int) + 1))) p (s + 1) := by
  obtain ⟨h1, h2, h3⟩ := h
  refine ⟨?_, ?_, by simpa [World.setCell] using h3⟩
  · simp [go_sem, h1]
  · simp [go_sem, h2]

set_option maxHeartbeats 2000000 in
theorem eq_list_call (y : Bool) (c x : Int) (t : ByteArray) (y' : Bool) (c' x' : Int) (t' : ByteArray) (l l' : Nat) (a a' : Option Addr) (cap cap' : Nat) (w : World) (p s d g n : Nat) (hS : St w p s) (hs : s + 1 ≤ 2000) (hd : d ≤ 20)
    (hC : ∀ wx, Below w.heap.size (w.setCell ⟨p, 0, none⟩ (.int .i64 ((s : Int) + 1))) wx → Calls Tryz.prog 122 #[.pointer (some ⟨p, 0, none⟩), .slice a l cap, .slice a' l' cap', .int .i64 ((d : Int) + 1)] wx fun e w' => e = .returned (told g) ∧ St w' p n ∧ But p wx w') :
    Calls Tryz.prog 88 #[.pointer (some ⟨p, 0, none⟩), .agg #[.int .i64 5, .bool y, .int .i64 c, .int .i64 x, .string t, .slice a l cap], .agg #[.int .i64 5, .bool y', .int .i64 c', .int .i64 x', .string t', .slice a' l' cap'], .int .i64 (d : Int)] w fun e w' => e = .returned (told g) ∧ St w' p n ∧ But p w w' := by
  have hz : (w.setCell ⟨p, 0, none⟩ (.int .i64 ((s : Int) + 1))).heap.size = w.heap.size := by simp [World.setCell]
  have HC := hide (fun o1 o2 o3 => hC ((((w.setCell ⟨p, 0, none⟩ (.int .i64 ((s : Int) + 1))).alloc o1).alloc o2).alloc o3) ((((Below.refl _ _).alloc (by simp [World.setCell]) o1).alloc (by simp [World.setCell]) o2).alloc (by simp [World.setCell]; omega) o3))
  obtain ⟨s1, s2, s3⟩ := hS
  have q1 : p < w.heap.size + 1 := by omega
  have q2 : p < w.heap.size + 1 + 1 := by omega
  have h2' : ¬ (2000 : Int) < (s : Int) + 1 := by omega
  have h3' : ¬ (20 : Int) < (d : Int) := by omega
  clear hC
  go_enter Tryz.func88, Tryz.ntmps88
  go_wp2_with fail
  refine (unhide HC _ _ _).mono ?_
  rintro e w9 ⟨rfl, hS9, hb⟩
  obtain ⟨R, hw⟩ := box3b (by rw [hz]; exact s3) hb
  rw [hz] at R
  clear hb HC
  obtain ⟨a0, a1, a2, a3, a4, a5⟩ := R.tell
  obtain ⟨f0, f1, f2, f3, f4, f5⟩ := R.thaw
  have lb := R.low
  go_wp2
  exact bodyPost_ret (v := told g) (by simp [results, Tryz.results88, go_sem, a0, a1, a2, a3, a4, a5]) rfl ⟨rfl, hS9.but But.put (by omega), (But.set.trans hw).on (below_put6 (Below.refl _ _) (by omega))⟩

theorem eq_of (k : Int) (y : Bool) (c x : Int) (t : ByteArray) (ks : List Tree) (IH : ∀ u ∈ ks, EqC u) : EqC (.mk k y c x t ks) := by
  intro U B w v u p s d hM hM' hp hS hs hd1 hd
  cases U with
  | mk k' y' c' x' t' ks' =>
  rw [Mem] at hM hM'
  obtain ⟨ht, hk, a, cap, rfl, hks⟩ := hM
  obtain ⟨ht', hk', a', cap', rfl, hks'⟩ := hM'
  by_cases h5 : 2000 < s + 1 ∨ 20 < d ∨ ¬ (k = 5 ∧ k' = 5)
  · exact eq_plain k y c x t k' y' c' x' t' ks ks' a a' cap cap' w p s d hS hs hd h5
  · obtain ⟨rfl, rfl⟩ : k = 5 ∧ k' = 5 := by omega
    rw [ef_list (by omega)]
    have hBw : B ≤ w.heap.size := Nat.le_of_lt (Nat.lt_of_le_of_lt hp hS.2.2)
    have hz : (w.setCell ⟨p, 0, none⟩ (.int .i64 ((s : Int) + 1))).heap.size = w.heap.size := by simp [World.setCell]
    have S1 := hS.add
    have hp3 : p < w.heap.size := hS.2.2
    by_cases hl : ks.length = ks'.length
    · rw [if_pos hl]
      by_cases hn : ks = []
      · subst hn
        have hn' : ks' = [] := List.eq_nil_of_length_eq_zero (by rw [← hl]; rfl)
        subst hn'
        rw [eqL_nil]
        refine eq_list_call y c x t y' c' x' t' _ _ a a' cap cap' w p s d 2 (s + 1) hS (by omega) (by omega) (fun wx hx => ?_)
        refine (eqLists_nil a a' cap cap' wx p _).mono ?_
        rintro e w2 ⟨he, hb⟩
        exact ⟨he, (S1.below hx hp3).below hb (Nat.lt_of_lt_of_le hp3 (by rw [← hz]; exact hx.size)), But.of hb⟩
      · have hn' : ks' ≠ [] := by
          intro q
          rw [q] at hl
          exact hn (List.eq_nil_of_length_eq_zero hl)
        obtain ⟨b, off, rfl, hb, hm⟩ := hks hn
        obtain ⟨b', off', rfl, hb', hm'⟩ := hks' hn'
        refine eq_list_call y c x t y' c' x' t' _ _ _ _ cap cap' w p s d _ _ hS (by omega) (by omega) (fun wx hx => ?_)
        have hBx : Below B w wx := ((Below.refl B w).setCell (p := ⟨p, 0, none⟩) hp (.int .i64 ((s : Int) + 1))).trans (hx.mono hBw)
        exact eqLists_yes ks ks' IH B wx b b' off off' cap cap' p (s + 1) (d + 1) hl hk (MemL.below hBx hb hm) (MemL.below hBx hb' hm') hb hb' hp (S1.below hx hp3) (by omega) (by omega) (by omega)
    · rw [if_neg hl]
      refine eq_list_call y c x t y' c' x' t' _ _ a a' cap cap' w p s d 0 (s + 1) hS (by omega) (by omega) (fun wx hx => ?_)
      refine (eqLists_no _ _ a a' cap cap' wx p _ hl).mono ?_
      rintro e w2 ⟨he, hb⟩
      exact ⟨he, (S1.below hx hp3).below hb (Nat.lt_of_lt_of_le hp3 (by rw [← hz]; exact hx.size)), But.of hb⟩

mutual
theorem eq_all : ∀ T : Tree, EqC T
  | .mk k y c x t ks => eq_of k y c x t ks (fun u h => eq_alls ks u h)
theorem eq_alls : ∀ (ks : List Tree) (u : Tree), u ∈ ks → EqC u
  | [], u, h => by cases h
  | v :: vs, u, h => by
    by_cases e : u = v
    · rw [e]; exact eq_all v
    · exact eq_alls vs u ((List.mem_cons.1 h).resolve_left e)
end

/-- what Equal tells of two trees -/
def eqT (T U : Tree) : Nat := (eqF T U 0 1).1

theorem box4b {p : Nat} {w w1 : World} {s t u r : TypeId} {a b m : Array Value} {c0 c1 c2 c3 c4 c5 : Value} (hp : p = w.heap.size + 1 + 1 + 1) (hb : But p ((((w.alloc (.cells a s)).alloc (.cells b t)).alloc (.cells #[c0, c1, c2, c3, c4, c5] u)).alloc (.cells m r)) w1) :
    Box w1 (w.heap.size + 1 + 1) #[c0, c1, c2, c3, c4, c5] ∧ Below w.heap.size w w1 := by
  subst hp
  have C := (Box.new (w := (w.alloc (.cells a s)).alloc (.cells b t)) (t := u) (a0 := c0) (a1 := c1) (a2 := c2) (a3 := c3) (a4 := c4) (a5 := c5)).over (o := .cells m r)
  have C' := C.but hb (by simp)
  refine ⟨by simpa using C', (((((Below.refl w.heap.size w).alloc (Nat.le_refl _) _).alloc (by simp) _).alloc (by simp; omega) _).alloc (by simp; omega) _).trans (hb.below (by omega) (by simp; omega))⟩

set_option maxHeartbeats 2000000 in
theorem equal_any (T U : Tree) (w : World) (v u : Array Value) (hM : Mem w.heap.size w T v) (hM' : Mem w.heap.size w U u) :
    Calls Tryz.prog 53 #[.agg v, .agg u] w fun e w' => e = .returned (told (eqT T U)) ∧ Below w.heap.size w w' := by
  have C := hide (fun wx (hx : Below w.heap.size w wx) p (hp : w.heap.size ≤ p) (hS : St wx p 0) => eq_all T U w.heap.size wx v u p 0 1 (Mem.below hx hM) (Mem.below hx hM') hp hS (by omega) (by omega) (by omega))
  unfold eqT
  cases T with
  | mk k y c x t ks =>
  cases U with
  | mk k' y' c' x' t' ks' =>
  rw [Mem] at hM hM'
  obtain ⟨_, _, a, cap, rfl, _⟩ := hM
  obtain ⟨_, _, a', cap', rfl, _⟩ := hM'
  generalize eqF (.mk k y c x t ks) (.mk k' y' c' x' t' ks') 0 1 = E at *
  go_enter Tryz.func53, Tryz.ntmps53
  go_wp2_with fail
  have ba : ∀ o1 o2 o3 o4 : Obj, Below w.heap.size w ((((w.alloc o1).alloc o2).alloc o3).alloc o4) := fun o1 o2 o3 o4 => (((((Below.refl w.heap.size w).alloc (Nat.le_refl _) o1).alloc (by simp) o2).alloc (by simp; omega) o3).alloc (by simp; omega) o4)
  refine (unhide C _ (ba _ _ _ _) (w.heap.size + 1 + 1 + 1) (by omega) ⟨by simp [go_sem], by simp [go_sem], by simp⟩).mono ?_
  rintro e w9 ⟨rfl, _, hb⟩
  obtain ⟨R, hw⟩ := box4b rfl hb
  clear hb C ba
  obtain ⟨a0, a1, a2, a3, a4, a5⟩ := R.tell
  obtain ⟨f0, f1, f2, f3, f4, f5⟩ := R.thaw
  have lb := R.low
  go_wp2
  exact bodyPost_ret (v := told E.1) (by simp [results, Tryz.results53, go_sem, a0, a1, a2, a3, a4, a5]) rfl ⟨rfl, below_put6 hw (by omega)⟩
end Go.Proofs.YtdkgapapdjefdaaGreatDoor

/- Walks: what a right test of a kind without kids says of a right value, as the program tells. -/
namespace Go.Proofs.YtdkgapapdjefdaaGreatDoor
open Go.RowKit

theorem box3g {w w1 : World} {s t u : TypeId} {a b : Array Value} {c0 c1 c2 c3 c4 c5 : Value} (hb : Below (((w.alloc (.cells a s)).alloc (.cells b t)).alloc (.cells #[c0, c1, c2, c3, c4, c5] u)).heap.size (((w.alloc (.cells a s)).alloc (.cells b t)).alloc (.cells #[c0, c1, c2, c3, c4, c5] u)) w1) :
    Box w1 (w.heap.size + 1 + 1) #[c0, c1, c2, c3, c4, c5] ∧ Below w.heap.size w w1 := by
  have C := (Box.new (w := (w.alloc (.cells a s)).alloc (.cells b t)) (t := u) (a0 := c0) (a1 := c1) (a2 := c2) (a3 := c3) (a4 := c4) (a5 := c5)).keep hb (by simp)
  exact ⟨by simpa using C, bv (bv (bv (vbelow_new w _) (vbelow_new _ _)) (vbelow_new _ _)) hb⟩
theorem below3 (w : World) (o1 o2 o3 : Obj) : Below w.heap.size w (((w.alloc o1).alloc o2).alloc o3) := bv (bv (vbelow_new w _) (vbelow_new _ _)) (vbelow_new _ _)
theorem Mem.arr {B : Nat} {w : World} {T : Tree} {u : Array Value} (h : Mem B w T u) : ∃ u0 u1 u2 u3 u4 u5, u = #[u0, u1, u2, u3, u4, u5] := by
  obtain ⟨k, y, c, x, t, ks⟩ := T
  rw [Mem] at h
  obtain ⟨_, _, a, cap, e, _⟩ := h
  exact ⟨_, _, _, _, _, _, e⟩
theorem valW0 {a : Tree} (h : valW a = 0) : (wrongF a 0 1).1 = 0 := by
  obtain ⟨k, y, c, x, t, ks⟩ := a
  rw [valW] at h
  split at h
  · assumption
  · exact h
theorem valW_kd {a : Tree} (h : valW a = 0) : a.kd = 1 ∨ a.kd = 2 ∨ a.kd = 3 ∨ a.kd = 4 := by
  have h0 := valW0 h
  obtain ⟨k, y, c, x, t, ks⟩ := a
  rw [valW, if_pos h0] at h
  show k = 1 ∨ k = 2 ∨ k = 3 ∨ k = 4
  by_cases k5 : k = 5
  · rw [if_pos k5] at h; cases h
  by_cases k1 : k = 1
  · exact .inl k1
  by_cases k2 : k = 2
  · exact .inr (.inl k2)
  by_cases k3 : k = 3
  · exact .inr (.inr (.inl k3))
  by_cases k4 : k = 4
  · exact .inr (.inr (.inr k4))
  rw [wf_else (by omega) k1 k2 k3 k4 k5] at h0
  cases h0
theorem oneW0 {a : Tree} (h : oneW a = 0) : valW a = 0 := by
  unfold oneW at h
  split at h
  · assumption
  · exact h
theorem twoW0 {a b : Tree} (h : twoW a b = 0) : valW a = 0 ∧ valW b = 0 := by
  unfold twoW at h
  by_cases ha : valW a = 0
  · by_cases hb : valW b = 0
    · exact ⟨ha, hb⟩
    · rw [if_pos ha, if_neg hb] at h; exact absurd h hb
  · rw [if_neg ha] at h; exact absurd h ha
theorem wrongSL0 : ∀ {ks : List TS} {d : Nat}, wrongSL ks d = 0 → ∀ u ∈ ks, wrongS u d = 0
  | [], _, _, u, hu => by cases hu
  | v :: vs, d, h, u, hu => by
    by_cases hv : wrongS v d = 0
    · rw [wrongSL_ok hv] at h
      by_cases e : u = v
      · rw [e]; exact hv
      · exact wrongSL0 h u ((List.mem_cons.1 hu).resolve_left e)
    · rw [wrongSL_no hv] at h
      exact absurd h hv

def leafH (k : Int) (a v : Tree) : Nat := if k = 3 then lessH v a else if k = 4 then 2 - lessH a v else if k = 5 then lessH a v else 2 - lessH v a
theorem leafH_le (k : Int) (a v : Tree) : leafH k a v ≤ 2 := by
  unfold leafH
  have h1 := lessH_le v a
  have h2 := lessH_le a v
  (repeat' split) <;> omega

set_option maxHeartbeats 4000000 in
theorem does_leaf (k : Int) (hk : k = 3 ∨ k = 4 ∨ k = 5 ∨ k = 6) (a v : Tree) (a0 a1 a2 a3 a4 a5 r7 r8 r9 r10 r11 r12 r13 r14 r15 : Value) (u : Array Value) (w : World) (Ma : Mem w.heap.size w a #[a0, a1, a2, a3, a4, a5]) (Mv : Mem w.heap.size w v u) (ha : (wrongF a 0 1).1 = 0) (hv : (wrongF v 0 1).1 = 0) :
    Calls Tryz.prog 27 #[.agg #[.int .i64 k, a0, a1, a2, a3, a4, a5, r7, r8, r9, r10, r11, r12, r13, r14, r15], .agg u] w fun e w' => e = .returned (told (leafH k a v)) ∧ Below w.heap.size w w' := by
  have L1 := hide (fun wx (hx : Below w.heap.size w wx) => less_any v a u _ _ _ wx (Mem.below hx Mv) (Mem.below hx Ma) hv ha)
  have L2 := hide (fun wx (hx : Below w.heap.size w wx) => less_any a v _ u _ _ wx (Mem.below hx Ma) (Mem.below hx Mv) ha hv)
  obtain ⟨u0, u1, u2, u3, u4, u5, rfl⟩ := Mv.arr
  have l1 := lessH_le v a
  have l2 := lessH_le a v
  have e3 : leafH 3 a v = lessH v a := rfl
  have e4 : leafH 4 a v = 2 - lessH a v := rfl
  have e5 : leafH 5 a v = lessH a v := rfl
  have e6 : leafH 6 a v = 2 - lessH v a := rfl
  clear Ma Mv ha hv
  generalize lessH v a = m1 at *
  generalize lessH a v = m2 at *
  rcases hk with rfl | rfl | rfl | rfl
  · rw [e3]
    clear e3 e4 e5 e6
    go_enter Tryz.func27, Tryz.ntmps27
    go_wp2_with fail
    refine (unhide L1 _ (below3 _ _ _ _)).mono ?_
    rintro e w1 ⟨rfl, hb⟩
    obtain ⟨R, hw⟩ := box3g hb
    clear hb L1 L2
    obtain ⟨c0, c1, c2, c3, c4, c5⟩ := R.tell
    obtain ⟨f0, f1, f2, f3, f4, f5⟩ := R.thaw
    have lb := R.low
    go_wp2
    exact bodyPost_ret (v := told m1) (by simp [results, Tryz.results27, go_sem, c0, c1, c2, c3, c4, c5]) rfl ⟨rfl, below_put6 hw (by omega)⟩
  · rw [e4]
    clear e3 e4 e5 e6
    go_enter Tryz.func27, Tryz.ntmps27
    go_wp2_with fail
    refine (unhide L2 _ (below3 _ _ _ _)).mono ?_
    rintro e w1 ⟨rfl, hb⟩
    have HB := hide hb
    clear hb L1 L2
    go_wp2_with fail
    refine (not_told m2 l2 _).mono ?_
    rintro e w2 ⟨rfl, hb⟩
    obtain ⟨R, hw⟩ := box3g ((unhide HB).trans (hb.mono (unhide HB).size))
    clear hb HB
    obtain ⟨c0, c1, c2, c3, c4, c5⟩ := R.tell
    obtain ⟨f0, f1, f2, f3, f4, f5⟩ := R.thaw
    have lb := R.low
    go_wp2
    exact bodyPost_ret (v := told (2 - m2)) (by simp [results, Tryz.results27, go_sem, c0, c1, c2, c3, c4, c5]) rfl ⟨rfl, below_put6 hw (by omega)⟩
  · rw [e5]
    clear e3 e4 e5 e6
    go_enter Tryz.func27, Tryz.ntmps27
    go_wp2_with fail
    refine (unhide L2 _ (below3 _ _ _ _)).mono ?_
    rintro e w1 ⟨rfl, hb⟩
    obtain ⟨R, hw⟩ := box3g hb
    clear hb L1 L2
    obtain ⟨c0, c1, c2, c3, c4, c5⟩ := R.tell
    obtain ⟨f0, f1, f2, f3, f4, f5⟩ := R.thaw
    have lb := R.low
    go_wp2
    exact bodyPost_ret (v := told m2) (by simp [results, Tryz.results27, go_sem, c0, c1, c2, c3, c4, c5]) rfl ⟨rfl, below_put6 hw (by omega)⟩
  · rw [e6]
    clear e3 e4 e5 e6
    go_enter Tryz.func27, Tryz.ntmps27
    go_wp2_with fail
    refine (unhide L1 _ (below3 _ _ _ _)).mono ?_
    rintro e w1 ⟨rfl, hb⟩
    have HB := hide hb
    clear hb L1 L2
    go_wp2_with fail
    refine (not_told m1 l1 _).mono ?_
    rintro e w2 ⟨rfl, hb⟩
    obtain ⟨R, hw⟩ := box3g ((unhide HB).trans (hb.mono (unhide HB).size))
    clear hb HB
    obtain ⟨c0, c1, c2, c3, c4, c5⟩ := R.tell
    obtain ⟨f0, f1, f2, f3, f4, f5⟩ := R.thaw
    have lb := R.low
    go_wp2
    exact bodyPost_ret (v := told (2 - m1)) (by simp [results, Tryz.results27, go_sem, c0, c1, c2, c3, c4, c5]) rfl ⟨rfl, below_put6 hw (by omega)⟩

set_option maxHeartbeats 2000000 in
theorem does_is (a v : Tree) (a0 a1 a2 a3 a4 a5 r7 r8 r9 r10 r11 r12 r13 r14 r15 : Value) (u : Array Value) (w : World) (Ma : Mem w.heap.size w a #[a0, a1, a2, a3, a4, a5]) (Mv : Mem w.heap.size w v u) (hv : (wrongF v 0 1).1 = 0) :
    Calls Tryz.prog 27 #[.agg #[.int .i64 2, a0, a1, a2, a3, a4, a5, r7, r8, r9, r10, r11, r12, r13, r14, r15], .agg u] w fun e w' => e = .returned (told (eqP v a)) ∧ Below w.heap.size w w' := by
  have L1 := hide (fun wx (hx : Below w.heap.size w wx) => equal_any v a wx u _ (Mem.mono hx.size (Mem.below hx Mv)) (Mem.mono hx.size (Mem.below hx Ma)))
  rw [show eqT v a = eqP v a from eqp_same v a 0 0 1 (Nat.le_refl _) (by omega) hv] at L1
  obtain ⟨u0, u1, u2, u3, u4, u5, rfl⟩ := Mv.arr
  clear Ma Mv hv
  generalize eqP v a = m1 at *
  go_enter Tryz.func27, Tryz.ntmps27
  go_wp2_with fail
  refine (unhide L1 _ (below3 _ _ _ _)).mono ?_
  rintro e w1 ⟨rfl, hb⟩
  obtain ⟨R, hw⟩ := box3g hb
  clear hb L1
  obtain ⟨c0, c1, c2, c3, c4, c5⟩ := R.tell
  obtain ⟨f0, f1, f2, f3, f4, f5⟩ := R.thaw
  have lb := R.low
  go_wp2
  exact bodyPost_ret (v := told m1) (by simp [results, Tryz.results27, go_sem, c0, c1, c2, c3, c4, c5]) rfl ⟨rfl, below_put6 hw (by omega)⟩

set_option maxHeartbeats 1000000 in
theorem ttruth_any (y : Bool) (w : World) :
    Calls Tryz.prog 60 #[.bool y] w fun e w' => e = .returned (told (if y = true then 2 else 0)) ∧ Below w.heap.size w w' := by
  cases y
  · go_enter Tryz.func60, Tryz.ntmps60
    go_wp2
    exact bodyPost_ret (v := told 0) (by simp [results, Tryz.results60, go_sem, kd, yd]) rfl ⟨rfl, vbelow_new _ _⟩
  · go_enter Tryz.func60, Tryz.ntmps60
    go_wp2
    exact bodyPost_ret (v := told 2) (by simp [results, Tryz.results60, go_sem, kd, yd]) rfl ⟨rfl, vbelow_new _ _⟩

set_option maxHeartbeats 2000000 in
theorem does_any1 (k : Int) (hk : k < 2 ∨ 9 < k) (u0 u1 u2 u3 u4 u5 a0 a1 a2 a3 a4 a5 r7 r8 r9 r10 r11 r12 r13 r14 r15 : Value) (w : World) :
    Calls Tryz.prog 27 #[.agg #[.int .i64 k, a0, a1, a2, a3, a4, a5, r7, r8, r9, r10, r11, r12, r13, r14, r15], .agg #[u0, u1, u2, u3, u4, u5]] w fun e w' => e = .returned (told 2) ∧ Below w.heap.size w w' := by
  have n2 : (k == 2) = false := by rw [beq_eq_false_iff_ne]; omega
  have n3 : (k == 3) = false := by rw [beq_eq_false_iff_ne]; omega
  have n4 : (k == 4) = false := by rw [beq_eq_false_iff_ne]; omega
  have n5 : (k == 5) = false := by rw [beq_eq_false_iff_ne]; omega
  have n6 : (k == 6) = false := by rw [beq_eq_false_iff_ne]; omega
  have n7 : (k == 7) = false := by rw [beq_eq_false_iff_ne]; omega
  have n8 : (k == 8) = false := by rw [beq_eq_false_iff_ne]; omega
  have n9 : (k == 9) = false := by rw [beq_eq_false_iff_ne]; omega
  go_enter Tryz.func27, Tryz.ntmps27
  go_wp2_with fail
  refine (ttruth_any true _).mono ?_
  rintro e w1 ⟨rfl, hb⟩
  obtain ⟨R, hw⟩ := box3g hb
  clear hb
  obtain ⟨c0, c1, c2, c3, c4, c5⟩ := R.tell
  obtain ⟨f0, f1, f2, f3, f4, f5⟩ := R.thaw
  have lb := R.low
  go_wp2
  exact bodyPost_ret (v := told 2) (by simp [results, Tryz.results27, go_sem, c0, c1, c2, c3, c4, c5]) rfl ⟨rfl, below_put6 hw (by omega)⟩
end Go.Proofs.YtdkgapapdjefdaaGreatDoor

/- A region that draws its order and ends with the store of a value that is told; runs of what reads a test. -/
namespace Go.Proofs.YtdkgapapdjefdaaGreatDoor
open Go.RowKit

def Ds.isL : Ds → Value → Prop
  | .lit v, x => x = v
  | .mem _ _, _ => True
  | .any, _ => True
def OkS (g : Bool) (l : List Ds) (i : Nat) (v : Value) (w : World) : Prop := if g = true then ((l[i]?).getD .any).isL v else OkL l i v w
theorem oks_lit {g : Bool} {l : List Ds} {i : Nat} {v u : Value} {w : World} (h : OkS g l i v w) (hl : (l[i]?).getD .any = .lit u) : v = u := by
  unfold OkS at h
  split at h
  · rw [hl] at h; exact h
  · unfold OkL at h
    rw [hl] at h; exact h
theorem oks_mem {g : Bool} {l : List Ds} {i : Nat} {v : Value} {w : World} (h : OkS g l i v w) (hg : g = false) : OkL l i v w := by
  unfold OkS at h
  rw [hg] at h
  exact h
theorem oks_of {g : Bool} {l : List Ds} {i : Nat} {u : Value} {w : World} (hl : (l[i]?).getD .any = .lit u) : OkS g l i u w := by
  unfold OkS
  split
  · rw [hl]; exact rfl
  · unfold OkL
    rw [hl]; exact rfl

structure RS (w0 : World) (a0 : Act) (N : Nat) (D : List Nat) (gi : Nat) (Fin : World → Prop) (l : List Ds) (L : Nat → Bool) (a : Act) (w : World) : Prop where
  size : a.tmps.size = N
  defs : a.defers = []
  rest : ∀ j, (∀ i d, L i = true → D[i]? = some d → d ≠ j) → G a j = G a0 j
  got : ∀ i d, L i = true → D[i]? = some d → OkS (L gi) l i (G a d) w
  old : L gi = false → Below w0.heap.size w0 w
  fin : L gi = true → Fin w
section
variable {w0 w w' : World} {a0 a a' : Act} {N gi : Nat} {D : List Nat} {Fin : World → Prop} {l : List Ds} {L : Nat → Bool} {ops : Array Oper} {Q : Exit → Act → World → Prop} {i d : Nat} {o : Oper}
theorem RS.keep (h : RS w0 a0 N D gi Fin l L a w) {s : Nat} (hs : s ∉ D) : G a s = G a0 s :=
  h.rest s (fun _ _ _ hd e => hs (e ▸ List.mem_of_getElem? hd))
theorem RS.start (h1 : a0.tmps.size = N) (h2 : a0.defers = []) (h3 : Below w0.heap.size w0 w) : RS w0 a0 N D gi Fin l (fun _ => false) a0 w :=
  ⟨h1, h2, fun _ _ => rfl, fun _ _ h => (by cases h), fun _ => h3, fun h => (by cases h)⟩
theorem nodupS_at (nd : D.Nodup) {j : Nat} (hi : D[i]? = some d) (hj : D[j]? = some d) : j = i := by
  obtain ⟨l1, e1⟩ := List.getElem?_eq_some_iff.1 hi
  obtain ⟨l2, e2⟩ := List.getElem?_eq_some_iff.1 hj
  exact (List.getElem_inj nd).1 (e2.trans e1.symm)
theorem RS.step (h : RS w0 a0 N D gi Fin l L a w) (nd : D.Nodup) (i : Nat) {d : Nat} {v : Value} (hi : D[i]? = some d) (ne : gi ≠ i) (U : Upd a d v a') (hd : a'.defers = a.defers) (hw : w' = w ∨ (L gi = false ∧ Below w.heap.size w w')) (ok : OkS (L gi) l i v w') :
    RS w0 a0 N D gi Fin l (fun j => j == i || L j) a' w' := by
  have eg : (gi == i || L gi) = L gi := by simp [ne]
  refine ⟨U.size.trans h.size, hd.trans h.defs, fun j hj => ?_, fun j e hj he => ?_, fun hg => ?_, fun hg => ?_⟩
  · have hne : j ≠ d := fun e => hj i d (by simp) hi e.symm
    rw [U.rest j hne]
    exact h.rest j (fun i' d' hi' hd' => hj i' d' (by simp [hi']) hd')
  · show OkS (gi == i || L gi) l j (G a' e) w'
    rw [eg]
    by_cases e1 : j = i
    · subst e1
      rw [hi] at he
      cases he
      rw [U.got]
      exact ok
    · have hL : L j = true := by simpa [e1] using hj
      have hne : e ≠ d := fun q => e1 (nodupS_at nd hi (q ▸ he))
      rw [U.rest e hne]
      have g := h.got j e hL he
      rcases hw with rfl | ⟨hg, hb⟩
      · exact g
      · unfold OkS at *
        rw [hg] at g ⊢
        exact OkL.mono l j _ _ _ hb g
  · have hg' : L gi = false := by rw [← eg]; exact hg
    rcases hw with rfl | ⟨_, hb⟩
    · exact h.old hg'
    · exact (h.old hg').trans (hb.mono (h.old hg').size)
  · have hg' : L gi = true := by rw [← eg]; exact hg
    rcases hw with rfl | ⟨hq, _⟩
    · exact h.fin hg'
    · rw [hg'] at hq; cases hq
theorem RS.lastS (h : RS w0 a0 N D gi Fin l L a w) (hi : D[gi]? = none) (hg : L gi = false) (fin : Fin w') :
    RS w0 a0 N D gi Fin l (fun j => j == gi || L j) a w' := by
  refine ⟨h.size, h.defs, fun j hj => h.rest j (fun i' d' hi' hd' => hj i' d' (by simp [hi']) hd'), fun j e hj he => ?_, fun hq => ?_, fun _ => fin⟩
  · show OkS (gi == gi || L gi) l j (G a e) w'
    unfold OkS
    rw [if_pos (by simp)]
    have e1 : j ≠ gi := fun q => by subst q; rw [hi] at he; cases he
    have hL : L j = true := by simpa [e1] using hj
    have g := oks_mem (h.got j e hL he) hg
    unfold OkL at g
    generalize (l[j]?).getD .any = x at g ⊢
    cases x with
    | lit u => exact g
    | mem P k => trivial
    | any => trivial
  · simp at hq
theorem rs_val (h : RS w0 a0 N D gi Fin l L a w) (nd : D.Nodup) (hi : ops[i]? = some o) (hd : o.dst = some d) (hDi : D[i]? = some d) (hN : d < N) (ne : gi ≠ i) (hw : Region.wanted o (yielded ops a.tmps) = true) {v : Value} (r : (execOp a.eval o).run Tryz.prog w = .ok (.value v) w) (hl : (l[i]?).getD .any = .lit v) :
    wpOp Tryz.prog ops Q i (fun a' w' => RS w0 a0 N D gi Fin l (fun j => j == i || L j) a' w') a w :=
  o_val hi hd hw (by rw [h.size]; exact hN) r fun _ U hf => h.step nd i hDi ne U hf (.inl rfl) (oks_of hl)
theorem rs_call (h : RS w0 a0 N D gi Fin l L a w) (nd : D.Nodup) (hi : ops[i]? = some o) (hd : o.dst = some d) (hDi : D[i]? = some d) (hN : d < N) (ne : gi ≠ i) (hg : L gi = false) (hw : Region.wanted o (yielded ops a.tmps) = true) {n : Nat} {args : Array Value} (r : (execOp a.eval o).run Tryz.prog w = .ok (.enter n args) w)
    {R : Value → World → Prop} (hc : Calls Tryz.prog n args w fun e w' => ∃ v, e = .returned v ∧ R v w' ∧ Below w.heap.size w w') (ok : ∀ v w', R v w' → OkL l i v w') :
    wpOp Tryz.prog ops Q i (fun a' w' => RS w0 a0 N D gi Fin l (fun j => j == i || L j) a' w') a w :=
  o_enter (R := fun v w' => R v w' ∧ Below w.heap.size w w') hi hd hw (by rw [h.size]; exact hN) r hc fun v _ w' hR U hf => h.step nd i hDi ne U hf (.inr ⟨hg, hR.2⟩) (by unfold OkS; rw [hg]; exact ok v w' hR.1)
end

section
variable {ops : Array Oper} {Q : Exit → Act → World → Prop} {i : Nat} {K : Act → World → Prop} {a : Act} {w : World} {t : TypeId} {p : String} {af : Array Edge}
theorem os_store {s x b g : Nat} {v0 v1 v2 v3 v4 v5 : Value} (hi : ops[i]? = some ⟨none, .store 27 (.tmp s) (.tmp x), t, p, af, none⟩) (g0 : G a s = .pointer (some ⟨b, 0, none⟩)) (g1 : G a x = told g) (B : Box w b #[v0, v1, v2, v3, v4, v5])
    (h : K a (put6 w b (.int .i64 (kd g)) (.bool (yd g)) (.int .i64 0) (.int .i64 0) (.string ⟨#[]⟩) (.slice none 0 0))) : wpOp Tryz.prog ops Q i K a w := by
  have r : (execOp a.eval ⟨none, .store 27 (.tmp s) (.tmp x), t, p, af, none⟩).run Tryz.prog w = .ok .skip (put6 w b (.int .i64 (kd g)) (.bool (yd g)) (.int .i64 0) (.int .i64 0) (.string ⟨#[]⟩) (.slice none 0 0)) := by
    obtain ⟨c0, c1, c2, c3, c4, c5⟩ := B.tell
    have fr := B.free
    have e0 := eval_G g0
    have e1 := eval_G g1
    unfold told at e1
    generalize a.eval = E at e0 e1 ⊢
    simp [go_sem, e0, e1, c0, c1, c2, c3, c4, c5, fr]
  unfold wpOp
  rw [hi]
  simp only [Region.wanted, if_true]
  left
  unfold Oper.wp
  rw [r]
  exact h
end

section
variable {w0 w w' : World} {a0 a a' : Act} {N gi : Nat} {D : List Nat} {Fin : World → Prop} {l : List Ds} {L : Nat → Bool} {ops : Array Oper} {Q : Exit → Act → World → Prop}
theorem rs_store {t : TypeId} {p : String} {af : Array Edge} {s x b g : Nat} {v0 v1 v2 v3 v4 v5 : Value} (h : RS w0 a0 N D gi Fin l L a w) (hn : D[gi]? = none) (hg : L gi = false) (hi : ops[gi]? = some ⟨none, .store 27 (.tmp s) (.tmp x), t, p, af, none⟩) (g0 : G a s = .pointer (some ⟨b, 0, none⟩)) (g1 : G a x = told g)
    (B : Box w b #[v0, v1, v2, v3, v4, v5]) (fin : Fin (put6 w b (.int .i64 (kd g)) (.bool (yd g)) (.int .i64 0) (.int .i64 0) (.string ⟨#[]⟩) (.slice none 0 0))) :
    wpOp Tryz.prog ops Q gi (fun a' w' => RS w0 a0 N D gi Fin l (fun j => j == gi || L j) a' w') a w :=
  os_store hi g0 g1 B (h.lastS hn hg fin)
end

section
variable {a : Act} {w : World} {d : Option Nat} {t : TypeId} {p : String} {af : Array Edge} {g : Option (Nat × Bool)}
/-- a whole test is read -/
theorem run_ldT {x : Operand} {b : Nat} {v0 v1 v2 v3 v4 v5 v6 v7 v8 v9 v10 v11 v12 v13 v14 v15 : Value} (h : a.eval x = .pointer (some ⟨b, 0, none⟩)) (B : B16 w b #[v0, v1, v2, v3, v4, v5, v6, v7, v8, v9, v10, v11, v12, v13, v14, v15]) :
    (execOp a.eval ⟨d, .load 35 x, t, p, af, g⟩).run Tryz.prog w = .ok (.value (.agg #[v0, v1, v2, v3, v4, v5, v6, v7, v8, v9, v10, v11, v12, v13, v14, v15])) w := by
  obtain ⟨c0, c1, c2, c3, c4, c5, c6, c7, c8, c9, c10, c11, c12, c13, c14, c15⟩ := B.tell
  generalize a.eval = E at h ⊢
  simp [go_sem, h, c0, c1, c2, c3, c4, c5, c6, c7, c8, c9, c10, c11, c12, c13, c14, c15]
theorem run_fldTA {x : Operand} {b : Nat} (h : a.eval x = .pointer (some ⟨b, 0, none⟩)) : (execOp a.eval ⟨d, .fieldAddr 35 x 1, t, p, af, g⟩).run Tryz.prog w = .ok (.value (.pointer (some ⟨b, 1, none⟩))) w := by
  generalize a.eval = E at h ⊢
  simp [go_sem, h]
/-- a test's A is read -/
theorem run_ldTA {x : Operand} {b : Nat} {v0 v1 v2 v3 v4 v5 v6 v7 v8 v9 v10 v11 v12 v13 v14 v15 : Value} (h : a.eval x = .pointer (some ⟨b, 1, none⟩)) (B : B16 w b #[v0, v1, v2, v3, v4, v5, v6, v7, v8, v9, v10, v11, v12, v13, v14, v15]) :
    (execOp a.eval ⟨d, .load 27 x, t, p, af, g⟩).run Tryz.prog w = .ok (.value (.agg #[v1, v2, v3, v4, v5, v6])) w := by
  obtain ⟨c0, c1, c2, c3, c4, c5, c6, c7, c8, c9, c10, c11, c12, c13, c14, c15⟩ := B.tell
  clear c0 c7 c8 c9 c10 c11 c12 c13 c14 c15
  generalize a.eval = E at h ⊢
  simp [go_sem, h, c1, c2, c3, c4, c5, c6]
end
end Go.Proofs.YtdkgapapdjefdaaGreatDoor
