/- Walks: matching.equal of two lists, of any two trees; Equal. -/
import Derived.Test.YtibkemolmpcdcaaDoorG13
import Derived.Test.YtibkemolmpcdcaaDoorG12
import Derived.Test.YtibkemolmpcdcaaDoorG03
import Derived.Test.YtibkemolmpcdcaaDoorG02
import Derived.Test.YtibkemolmpcdcaaDoorG10
namespace Go.Proofs.YtibkemolmpcdcaaDoor
open Go.RowKit

theorem box3b {p : Nat} {w w1 : World} {s t u : TypeId} {a0 a1 a2 a3 a4 a5 b0 b1 b2 b3 b4 b5 c0 c1 c2 c3 c4 c5 : Value} (hp : p < w.heap.size) (hb : But p (((w.alloc (.cells #[a0, a1, a2, a3, a4, a5] s)).alloc (.cells #[b0, b1, b2, b3, b4, b5] t)).alloc (.cells #[c0, c1, c2, c3, c4, c5] u)) w1) :
    Box w1 (w.heap.size + 1 + 1) #[c0, c1, c2, c3, c4, c5] ∧ But p w w1 := by
  have C := (Box.new (w := (w.alloc (.cells #[a0, a1, a2, a3, a4, a5] s)).alloc (.cells #[b0, b1, b2, b3, b4, b5] t)) (t := u) (a0 := c0) (a1 := c1) (a2 := c2) (a3 := c3) (a4 := c4) (a5 := c5)).but hb (by simp; omega)
  exact ⟨by simpa using C, (But.of ((((Below.refl _ _).alloc (Nat.le_refl _) _).alloc (by simp) _).alloc (by simp; omega) _)).trans hb⟩

theorem St.add {w : World} {p s : Nat} (h : St w p s) : St (w.setCell ⟨p, 0, none⟩ (.int .i64 ((s : Int) + 1))) p (s + 1) := by
  obtain ⟨h1, h2, h3⟩ := h
  refine ⟨?_, ?_, by simpa [World.setCell] using h3⟩
  · simp [go_sem, h1]
  · simp [go_sem, h2]

set_option maxHeartbeats 2000000 in
theorem eq_list_call (y : Bool) (c x : Int) (t : ByteArray) (y' : Bool) (c' x' : Int) (t' : ByteArray) (l l' : Nat) (a a' : Option Addr) (cap cap' : Nat) (w : World) (p s d g n : Nat) (hS : St w p s) (hs : s + 1 ≤ 2000) (hd : d ≤ 20)
    (hC : ∀ wx, Below w.heap.size (w.setCell ⟨p, 0, none⟩ (.int .i64 ((s : Int) + 1))) wx → Calls Tryd.prog 33 #[.pointer (some ⟨p, 0, none⟩), .slice a l cap, .slice a' l' cap', .int .i64 ((d : Int) + 1)] wx fun e w' => e = .returned (told g) ∧ St w' p n ∧ But p wx w') :
    Calls Tryd.prog 25 #[.pointer (some ⟨p, 0, none⟩), .agg #[.int .i64 5, .bool y, .int .i64 c, .int .i64 x, .string t, .slice a l cap], .agg #[.int .i64 5, .bool y', .int .i64 c', .int .i64 x', .string t', .slice a' l' cap'], .int .i64 (d : Int)] w fun e w' => e = .returned (told g) ∧ St w' p n ∧ But p w w' := by
  have hz : (w.setCell ⟨p, 0, none⟩ (.int .i64 ((s : Int) + 1))).heap.size = w.heap.size := by simp [World.setCell]
  have HC := hide (fun o1 o2 o3 => hC ((((w.setCell ⟨p, 0, none⟩ (.int .i64 ((s : Int) + 1))).alloc o1).alloc o2).alloc o3) ((((Below.refl _ _).alloc (by simp [World.setCell]) o1).alloc (by simp [World.setCell]) o2).alloc (by simp [World.setCell]; omega) o3))
  obtain ⟨s1, s2, s3⟩ := hS
  have q1 : p < w.heap.size + 1 := by omega
  have q2 : p < w.heap.size + 1 + 1 := by omega
  have h2' : ¬ (2000 : Int) < (s : Int) + 1 := by omega
  have h3' : ¬ (20 : Int) < (d : Int) := by omega
  clear hC
  go_enter Tryd.func25, Tryd.ntmps25
  go_wp2_with fail
  refine (unhide HC _ _ _).mono ?_
  rintro e w9 ⟨rfl, hS9, hb⟩
  obtain ⟨R, hw⟩ := box3b (by rw [hz]; exact s3) hb
  rw [hz] at R
  clear hb HC
  obtain ⟨a0, a1, a2, a3, a4, a5⟩ := R.tell
  obtain ⟨f0, f1, f2, f3, f4, f5⟩ := R.thaw
  have lb := R.low
  go_wp2
  exact bodyPost_ret (v := told g) (by simp [results, Tryd.results25, go_sem, a0, a1, a2, a3, a4, a5]) rfl ⟨rfl, hS9.but But.put (by omega), (But.set.trans hw).on (below_put6 (Below.refl _ _) (by omega))⟩

theorem eq_of (k : Int) (y : Bool) (c x : Int) (t : ByteArray) (ks : List Tree) (IH : ∀ u ∈ ks, EqC u) : EqC (.mk k y c x t ks) := by
  intro U B w v u p s d hM hM' hp hS hs hd1 hd
  cases U with
  | mk k' y' c' x' t' ks' =>
  rw [Mem] at hM hM'
  obtain ⟨ht, hk, a, cap, rfl, hks⟩ := hM
  obtain ⟨ht', hk', a', cap', rfl, hks'⟩ := hM'
  by_cases h5 : 2000 < s + 1 ∨ 20 < d ∨ ¬ (k = 5 ∧ k' = 5)
  · exact eq_plain k y c x t k' y' c' x' t' ks ks' a a' cap cap' w p s d hS hs hd h5
  · obtain ⟨rfl, rfl⟩ : k = 5 ∧ k' = 5 := by omega
    rw [ef_list (by omega)]
    have hBw : B ≤ w.heap.size := Nat.le_of_lt (Nat.lt_of_le_of_lt hp hS.2.2)
    have hz : (w.setCell ⟨p, 0, none⟩ (.int .i64 ((s : Int) + 1))).heap.size = w.heap.size := by simp [World.setCell]
    have S1 := hS.add
    have hp3 : p < w.heap.size := hS.2.2
    by_cases hl : ks.length = ks'.length
    · rw [if_pos hl]
      by_cases hn : ks = []
      · subst hn
        have hn' : ks' = [] := List.eq_nil_of_length_eq_zero (by rw [← hl]; rfl)
        subst hn'
        rw [eqL_nil]
        refine eq_list_call y c x t y' c' x' t' _ _ a a' cap cap' w p s d 2 (s + 1) hS (by omega) (by omega) (fun wx hx => ?_)
        refine (eqLists_nil a a' cap cap' wx p _).mono ?_
        rintro e w2 ⟨he, hb⟩
        exact ⟨he, (S1.below hx hp3).below hb (Nat.lt_of_lt_of_le hp3 (by rw [← hz]; exact hx.size)), But.of hb⟩
      · have hn' : ks' ≠ [] := by
          intro q
          rw [q] at hl
          exact hn (List.eq_nil_of_length_eq_zero hl)
        obtain ⟨b, off, rfl, hb, hm⟩ := hks hn
        obtain ⟨b', off', rfl, hb', hm'⟩ := hks' hn'
        refine eq_list_call y c x t y' c' x' t' _ _ _ _ cap cap' w p s d _ _ hS (by omega) (by omega) (fun wx hx => ?_)
        have hBx : Below B w wx := ((Below.refl B w).setCell (p := ⟨p, 0, none⟩) hp (.int .i64 ((s : Int) + 1))).trans (hx.mono hBw)
        exact eqLists_yes ks ks' IH B wx b b' off off' cap cap' p (s + 1) (d + 1) hl hk (MemL.below hBx hb hm) (MemL.below hBx hb' hm') hb hb' hp (S1.below hx hp3) (by omega) (by omega) (by omega)
    · rw [if_neg hl]
      refine eq_list_call y c x t y' c' x' t' _ _ a a' cap cap' w p s d 0 (s + 1) hS (by omega) (by omega) (fun wx hx => ?_)
      refine (eqLists_no _ _ a a' cap cap' wx p _ hl).mono ?_
      rintro e w2 ⟨he, hb⟩
      exact ⟨he, (S1.below hx hp3).below hb (Nat.lt_of_lt_of_le hp3 (by rw [← hz]; exact hx.size)), But.of hb⟩

mutual
theorem eq_all : ∀ T : Tree, EqC T
  | .mk k y c x t ks => eq_of k y c x t ks (fun u h => eq_alls ks u h)
theorem eq_alls : ∀ (ks : List Tree) (u : Tree), u ∈ ks → EqC u
  | [], u, h => by cases h
  | v :: vs, u, h => by
    by_cases e : u = v
    · rw [e]; exact eq_all v
    · exact eq_alls vs u ((List.mem_cons.1 h).resolve_left e)
end

/-- what Equal tells of two trees -/
def eqT (T U : Tree) : Nat := (eqF T U 0 1).1

theorem box4b {p : Nat} {w w1 : World} {s t u r : TypeId} {a b m : Array Value} {c0 c1 c2 c3 c4 c5 : Value} (hp : p = w.heap.size + 1 + 1 + 1) (hb : But p ((((w.alloc (.cells a s)).alloc (.cells b t)).alloc (.cells #[c0, c1, c2, c3, c4, c5] u)).alloc (.cells m r)) w1) :
    Box w1 (w.heap.size + 1 + 1) #[c0, c1, c2, c3, c4, c5] ∧ Below w.heap.size w w1 := by
  subst hp
  have C := (Box.new (w := (w.alloc (.cells a s)).alloc (.cells b t)) (t := u) (a0 := c0) (a1 := c1) (a2 := c2) (a3 := c3) (a4 := c4) (a5 := c5)).over (o := .cells m r)
  have C' := C.but hb (by simp)
  refine ⟨by simpa using C', (((((Below.refl w.heap.size w).alloc (Nat.le_refl _) _).alloc (by simp) _).alloc (by simp; omega) _).alloc (by simp; omega) _).trans (hb.below (by omega) (by simp; omega))⟩

set_option maxHeartbeats 2000000 in
theorem equal_any (T U : Tree) (w : World) (v u : Array Value) (hM : Mem w.heap.size w T v) (hM' : Mem w.heap.size w U u) :
    Calls Tryd.prog 13 #[.agg v, .agg u] w fun e w' => e = .returned (told (eqT T U)) ∧ Below w.heap.size w w' := by
  have C := hide (fun wx (hx : Below w.heap.size w wx) p (hp : w.heap.size ≤ p) (hS : St wx p 0) => eq_all T U w.heap.size wx v u p 0 1 (Mem.below hx hM) (Mem.below hx hM') hp hS (by omega) (by omega) (by omega))
  unfold eqT
  cases T with
  | mk k y c x t ks =>
  cases U with
  | mk k' y' c' x' t' ks' =>
  rw [Mem] at hM hM'
  obtain ⟨_, _, a, cap, rfl, _⟩ := hM
  obtain ⟨_, _, a', cap', rfl, _⟩ := hM'
  generalize eqF (.mk k y c x t ks) (.mk k' y' c' x' t' ks') 0 1 = E at *
  go_enter Tryd.func13, Tryd.ntmps13
  go_wp2_with fail
  have ba : ∀ o1 o2 o3 o4 : Obj, Below w.heap.size w ((((w.alloc o1).alloc o2).alloc o3).alloc o4) := fun o1 o2 o3 o4 => (((((Below.refl w.heap.size w).alloc (Nat.le_refl _) o1).alloc (by simp) o2).alloc (by simp; omega) o3).alloc (by simp; omega) o4)
  refine (unhide C _ (ba _ _ _ _) (w.heap.size + 1 + 1 + 1) (by omega) ⟨by simp [go_sem], by simp [go_sem], by simp⟩).mono ?_
  rintro e w9 ⟨rfl, _, hb⟩
  obtain ⟨R, hw⟩ := box4b rfl hb
  clear hb C ba
  obtain ⟨a0, a1, a2, a3, a4, a5⟩ := R.tell
  obtain ⟨f0, f1, f2, f3, f4, f5⟩ := R.thaw
  have lb := R.low
  go_wp2
  exact bodyPost_ret (v := told E.1) (by simp [results, Tryd.results13, go_sem, a0, a1, a2, a3, a4, a5]) rfl ⟨rfl, below_put6 hw (by omega)⟩
end Go.Proofs.YtibkemolmpcdcaaDoor

/- Walks: the document's Equal of any two values. -/
namespace Go.Proofs.YtibkemolmpcdcaaDoor
open Go.RowKit

theorem callDEq (zs : Array Value) (w : World) : Sem.run Tryd.prog (callFunc 15 zs) w = .ok (.enter 15 zs) w := by simp [go_sem]
theorem eqPL_nil (vs : List Tree) (a : Nat) : eqPL [] vs a = a := by rw [eqPL]
theorem eqPL_cons (u v : Tree) (us vs : List Tree) (a : Nat) : eqPL (u :: us) (v :: vs) a = eqPL us vs (min a (eqP u v)) := by rw [eqPL]

/-- what Equal tells of a tree and another one -/
def DEqC (A : Tree) : Prop := ∀ (B : Tree) (w : World) (v u : Array Value), Mem w.heap.size w A v → Mem w.heap.size w B u →
  Calls Tryd.prog 15 #[.agg v, .agg u] w fun e w' => e = .returned (.int .i64 ((eqP A B : Nat) : Int)) ∧ Below w.heap.size w w'

set_option maxHeartbeats 2000000 in
theorem dequal_len (y : Bool) (c x : Int) (t : ByteArray) (y' : Bool) (c' x' : Int) (t' : ByteArray) (ks ks' : List Tree) (a a' : Option Addr) (cap cap' : Nat) (w : World) (hne : ¬ ks.length = ks'.length) :
    Calls Tryd.prog 15 #[.agg #[.int .i64 5, .bool y, .int .i64 c, .int .i64 x, .string t, .slice a ks.length cap], .agg #[.int .i64 5, .bool y', .int .i64 c', .int .i64 x', .string t', .slice a' ks'.length cap']] w fun e w' => e = .returned (.int .i64 ((eqP (.mk 5 y c x t ks) (.mk 5 y' c' x' t' ks') : Nat) : Int)) ∧ Below w.heap.size w w' := by
  rw [ep_list, if_neg hne]
  have hn : ((ks.length : Int) != (ks'.length : Int)) = true := by rw [bne_iff_ne]; omega
  clear hne
  go_enter Tryd.func15, Tryd.ntmps15
  go_wp2
  go_ret
  exact ⟨rfl, ((Below.refl _ _).alloc (Nat.le_refl _) _).alloc (by simp) _⟩

set_option maxHeartbeats 2000000 in
theorem dequal_nil (y : Bool) (c x : Int) (t : ByteArray) (y' : Bool) (c' x' : Int) (t' : ByteArray) (a a' : Option Addr) (cap cap' : Nat) (w : World) :
    Calls Tryd.prog 15 #[.agg #[.int .i64 5, .bool y, .int .i64 c, .int .i64 x, .string t, .slice a 0 cap], .agg #[.int .i64 5, .bool y', .int .i64 c', .int .i64 x', .string t', .slice a' 0 cap']] w fun e w' => e = .returned (.int .i64 2) ∧ Below w.heap.size w w' := by
  have BB := hide (((Below.refl w.heap.size w).alloc (Nat.le_refl _) (.cells #[.int .i64 5, .bool y, .int .i64 c, .int .i64 x, .string t, .slice a 0 cap] 26)).alloc (by simp) (.cells #[.int .i64 5, .bool y', .int .i64 c', .int .i64 x', .string t', .slice a' 0 cap'] 26))
  go_enter Tryd.func15, Tryd.ntmps15
  go_wp2
  go_loopw [6, 62] (fun l i wr => l = .int .i64 2 ∧ i = .int .i64 0 ∧ Hid (Below w.heap.size w wr)) (fun _ _ _ => 0)
  case atStart => exact ⟨rfl, rfl, BB⟩
  case round =>
    obtain ⟨rfl, rfl, HB⟩ := hrel
    go_wp2
    go_ret
    exact ⟨rfl, unhide HB⟩

set_option maxRecDepth 100000 in
set_option maxHeartbeats 8000000 in
theorem dequal_lists (y : Bool) (c x : Int) (t : ByteArray) (y' : Bool) (c' x' : Int) (t' : ByteArray) (ks ks' : List Tree) (IH : ∀ u ∈ ks, DEqC u) (b off b' off' cap cap' : Nat) (w : World) (hl : ks.length = ks'.length) (hmax : ks.length ≤ 9223372036854775807)
    (hb1 : b < w.heap.size) (hb2 : b' < w.heap.size) (hm : MemL w.heap.size w ks b off) (hm' : MemL w.heap.size w ks' b' off') :
    Calls Tryd.prog 15 #[.agg #[.int .i64 5, .bool y, .int .i64 c, .int .i64 x, .string t, .slice (some ⟨b, off, none⟩) ks.length cap], .agg #[.int .i64 5, .bool y', .int .i64 c', .int .i64 x', .string t', .slice (some ⟨b', off', none⟩) ks.length cap']] w fun e w' => e = .returned (.int .i64 ((eqPL ks ks' 2 : Nat) : Int)) ∧ Below w.heap.size w w' := by
  have W0 := hide (((Below.refl w.heap.size w).alloc (Nat.le_refl _) (.cells #[.int .i64 5, .bool y, .int .i64 c, .int .i64 x, .string t, .slice (some ⟨b, off, none⟩) ks.length cap] 26)).alloc (by simp) (.cells #[.int .i64 5, .bool y', .int .i64 c', .int .i64 x', .string t', .slice (some ⟨b', off', none⟩) ks.length cap'] 26))
  have X0 : Hid (Box ((w.alloc (.cells #[.int .i64 5, .bool y, .int .i64 c, .int .i64 x, .string t, .slice (some ⟨b, off, none⟩) ks.length cap] 26)).alloc (.cells #[.int .i64 5, .bool y', .int .i64 c', .int .i64 x', .string t', .slice (some ⟨b', off', none⟩) ks.length cap'] 26)) w.heap.size #[.int .i64 5, .bool y, .int .i64 c, .int .i64 x, .string t, .slice (some ⟨b, off, none⟩) ks.length cap]) := hide Box.new.over
  have Y0 : Hid (Box ((w.alloc (.cells #[.int .i64 5, .bool y, .int .i64 c, .int .i64 x, .string t, .slice (some ⟨b, off, none⟩) ks.length cap] 26)).alloc (.cells #[.int .i64 5, .bool y', .int .i64 c', .int .i64 x', .string t', .slice (some ⟨b', off', none⟩) ks.length cap'] 26)) (w.heap.size + 1) #[.int .i64 5, .bool y', .int .i64 c', .int .i64 x', .string t', .slice (some ⟨b', off', none⟩) ks.length cap']) := hide (by
    have := Box.new (w := w.alloc (.cells #[.int .i64 5, .bool y, .int .i64 c, .int .i64 x, .string t, .slice (some ⟨b, off, none⟩) ks.length cap] 26)) (t := 26) (a0 := .int .i64 5) (a1 := .bool y') (a2 := .int .i64 c') (a3 := .int .i64 x') (a4 := .string t') (a5 := .slice (some ⟨b', off', none⟩) ks.length cap')
    simpa using this)
  obtain ⟨w0, hw0⟩ : ∃ w0, (w.alloc (.cells #[.int .i64 5, .bool y, .int .i64 c, .int .i64 x, .string t, .slice (some ⟨b, off, none⟩) ks.length cap] 26)).alloc (.cells #[.int .i64 5, .bool y', .int .i64 c', .int .i64 x', .string t', .slice (some ⟨b', off', none⟩) ks.length cap'] 26) = w0 := ⟨_, rfl⟩
  rw [hw0] at W0 X0 Y0
  have HL := hide hl
  have IH' := hide IH
  have M1 := hide hm
  have M2 := hide hm'
  clear hl IH hm hm'
  obtain ⟨xa0, xa1, xa2, xa3, xa4, xa5⟩ := (unhide X0).tell
  obtain ⟨xb0, xb1, xb2, xb3, xb4, xb5⟩ := (unhide Y0).tell
  go_enter Tryd.func15, Tryd.ntmps15
  go_wp2
  clear hw0 xa0 xa1 xa2 xa3 xa4 xa5 xb0 xb1 xb2 xb3 xb4 xb5
  go_loopw [6, 62] (fun l i wr => ∃ m n : Nat, m ≤ ks.length ∧ n ≤ 2 ∧ l = .int .i64 (n : Int) ∧ i = .int .i64 (m : Int) ∧ Hid (eqPL ks ks' 2 = eqPL (ks.drop m) (ks'.drop m) n) ∧ Hid (Below w0.heap.size w0 wr)) (fun _ i _ => ks.length - (intOf i).toNat)
  case atStart => exact ⟨0, 2, Nat.zero_le _, Nat.le_refl _, rfl, rfl, hide rfl, hide (Below.refl _ _)⟩
  case round =>
    obtain ⟨m, least, hml, hn2, rfl, rfl, H, HB⟩ := hrel
    by_cases hlt2 : m < ks.length
    · have hi1 : (m : Int) < (ks.length : Int) := by omega
      obtain ⟨u, hu⟩ : ∃ u, ks[m]? = some u := ⟨_, List.getElem?_eq_getElem hlt2⟩
      obtain ⟨u', hu'⟩ : ∃ u, ks'[m]? = some u := ⟨_, List.getElem?_eq_getElem (by have := unhide HL; omega)⟩
      have HU := hide (unhide IH' u (List.mem_of_getElem? hu))
      have HW := hide (below_via (unhide W0) (unhide HB))
      obtain ⟨cs, h6, hmu⟩ := MemL.at (MemL.below (unhide HW) hb1 (unhide M1)) m u hu
      obtain ⟨cs', h6', hmu'⟩ := MemL.at (MemL.below (unhide HW) hb2 (unhide M2)) m u' hu'
      have HM := hide (Mem.mono (unhide HW).size hmu)
      have HM' := hide (Mem.mono (unhide HW).size hmu')
      rw [drop_at hlt2 hu, drop_at (by have := unhide HL; omega) hu', eqPL_cons] at H
      cases u with
      | mk k1 y1 c1 x1 t1 kk1 =>
      cases u' with
      | mk k2 y2 c2 x2 t2 kk2 =>
        rw [Mem] at hmu hmu'
        obtain ⟨_, _, a1, cap1, rfl, _⟩ := hmu
        obtain ⟨_, _, a2, cap2, rfl, _⟩ := hmu'
        obtain ⟨u0, u1, u2, u3, u4, u5, hu6, p0, p1, p2, p3, p4, p5⟩ := h6
        simp only [Array.mk.injEq, List.cons.injEq, and_true] at hu6
        obtain ⟨rfl, rfl, rfl, rfl, rfl, rfl⟩ := hu6
        obtain ⟨u0, u1, u2, u3, u4, u5, hu6, q0, q1, q2, q3, q4, q5⟩ := h6'
        simp only [Array.mk.injEq, List.cons.injEq, and_true] at hu6
        obtain ⟨rfl, rfl, rfl, rfl, rfl, rfl⟩ := hu6
        have hle := eqP_le (.mk k1 y1 c1 x1 t1 kk1) (.mk k2 y2 c2 x2 t2 kk2)
        have C : Hid (∀ wx, Below wr.heap.size wr wx → Calls Tryd.prog 15 #[.agg #[.int .i64 k1, .bool y1, .int .i64 c1, .int .i64 x1, .string t1, .slice a1 kk1.length cap1], .agg #[.int .i64 k2, .bool y2, .int .i64 c2, .int .i64 x2, .string t2, .slice a2 kk2.length cap2]] wx fun e w' => ∃ v, e = .returned v ∧ v = .int .i64 ((eqP (.mk k1 y1 c1 x1 t1 kk1) (.mk k2 y2 c2 x2 t2 kk2) : Nat) : Int) ∧ Below wx.heap.size wx w') := hide (fun wx hx =>
          (unhide HU (.mk k2 y2 c2 x2 t2 kk2) wx _ _ (Mem.mono hx.size (Mem.below hx (unhide HM))) (Mem.mono hx.size (Mem.below hx (unhide HM')))).mono (fun e w' q => ⟨_, q.1, rfl, q.2⟩))
        generalize eqP (.mk k1 y1 c1 x1 t1 kk1) (.mk k2 y2 c2 x2 t2 kk2) = n at *
        have XB := (unhide X0).keep (unhide HB) (unhide X0).low
        have YB := (unhide Y0).keep (unhide HB) (unhide Y0).low
        have lv := XB.low
        have lz := YB.low
        have v5 := XB.tell.2.2.2.2.2
        have z5 := YB.tell.2.2.2.2.2
        have lb1 : b < wr.heap.size := Nat.lt_of_lt_of_le hb1 (unhide HW).size
        have lb2 : b' < wr.heap.size := Nat.lt_of_lt_of_le hb2 (unhide HW).size
        clear hu hu' HU HM HM' XB YB
        go_upto_region 22 with fail
        refine frame_name ?_
        intro f0 hf0
        have s2 : G f0 2 = .pointer (some ⟨w.heap.size, 0, none⟩) := by rw [hf0]; rfl
        have s3 : G f0 3 = .pointer (some ⟨w.heap.size + 1, 0, none⟩) := by rw [hf0]; rfl
        have s7 : G f0 7 = .int .i64 (m : Int) := by rw [hf0]; rfl
        have hsz : f0.tmps.size = 83 := by rw [hf0]; rfl
        have hdf : f0.defers = [] := by rw [hf0]
        refine region_any (I := RL wr f0 83 [65, 66, 67, 68, 69, 70, 71, 72, 73, 74, 75, 8] [.lit (.pointer (some ⟨w.heap.size, 5, none⟩)), .lit (.slice (some ⟨b, off, none⟩) ks.length cap), .lit (.int .i64 (m : Int)), .lit (.pointer (some ⟨b, off + m * 6, none⟩)), .lit (.agg #[.int .i64 k1, .bool y1, .int .i64 c1, .int .i64 x1, .string t1, .slice a1 kk1.length cap1]), .lit (.pointer (some ⟨w.heap.size + 1, 5, none⟩)), .lit (.slice (some ⟨b', off', none⟩) ks.length cap'), .lit (.int .i64 (m : Int)), .lit (.pointer (some ⟨b', off' + m * 6, none⟩)), .lit (.agg #[.int .i64 k2, .bool y2, .int .i64 c2, .int .i64 x2, .string t2, .slice a2 kk2.length cap2]), .lit (.int .i64 (n : Int)), .lit (.int .i64 (n : Int))]) (by kernel_rfl) ?wait ?step ?done ?start
        case wait => exact ⟨by simp, by simp, by simp, by simp, by simp, by simp, by simp, by simp, by simp, by simp, by simp, by simp, trivial⟩
        case start => exact RI.start hsz hdf ((Below.refl _ _).drew)
        case step =>
          refine ⟨?_, ?_, ?_, ?_, ?_, ?_, ?_, ?_, ?_, ?_, ?_, ?_, trivial⟩
          · rintro L fa wx h hcl hL hw2
            exact rl_val h (by decide) rfl rfl rfl (by decide) rfl (run_fldL (eval_G ((h.keep (s := 2) (by decide)).trans s2))) rfl
          · rintro L fa wx h hcl hL hw2
            exact rl_val h (by decide) rfl rfl rfl (by decide) rfl (run_ldL (eval_G (show G fa 65 = (.pointer (some ⟨w.heap.size, 5, none⟩)) from (h.got 0 65 (hw2 ⟨0, .data⟩ (by simp) rfl) rfl))) ((h.old.cell (p := ⟨w.heap.size, 5, none⟩) lv).trans v5)) rfl
          · rintro L fa wx h hcl hL hw2
            exact rl_val h (by decide) rfl rfl rfl (by decide) rfl (run_mv (eval_G ((h.keep (s := 7) (by decide)).trans s7))) rfl
          · rintro L fa wx h hcl hL hw2
            exact rl_val h (by decide) rfl rfl rfl (by decide) rfl (run_ixV (eval_G (show G fa 66 = (.slice (some ⟨b, off, none⟩) ks.length cap) from (h.got 1 66 (hw2 ⟨1, .data⟩ (by simp) rfl) rfl))) (eval_G (show G fa 67 = (.int .i64 (m : Int)) from (h.got 2 67 (hw2 ⟨2, .data⟩ (by simp) rfl) rfl))) hlt2) rfl
          · rintro L fa wx h hcl hL hw2
            exact rl_val h (by decide) rfl rfl rfl (by decide) rfl (run_ld6 (eval_G (show G fa 68 = (.pointer (some ⟨b, off + m * 6, none⟩)) from (h.got 3 68 (hw2 ⟨3, .data⟩ (by simp) rfl) rfl))) ((h.old.cell (p := ⟨b, off + m * 6, none⟩) lb1).trans p0) ((h.old.cell (p := ⟨b, off + m * 6 + 1, none⟩) lb1).trans p1) ((h.old.cell (p := ⟨b, off + m * 6 + 2, none⟩) lb1).trans p2) ((h.old.cell (p := ⟨b, off + m * 6 + 3, none⟩) lb1).trans p3) ((h.old.cell (p := ⟨b, off + m * 6 + 4, none⟩) lb1).trans p4) ((h.old.cell (p := ⟨b, off + m * 6 + 5, none⟩) lb1).trans p5)) rfl
          · rintro L fa wx h hcl hL hw2
            exact rl_val h (by decide) rfl rfl rfl (by decide) rfl (run_fldL (eval_G ((h.keep (s := 3) (by decide)).trans s3))) rfl
          · rintro L fa wx h hcl hL hw2
            exact rl_val h (by decide) rfl rfl rfl (by decide) rfl (run_ldL (eval_G (show G fa 70 = (.pointer (some ⟨w.heap.size + 1, 5, none⟩)) from (h.got 5 70 (hw2 ⟨5, .data⟩ (by simp) rfl) rfl))) ((h.old.cell (p := ⟨w.heap.size + 1, 5, none⟩) lz).trans z5)) rfl
          · rintro L fa wx h hcl hL hw2
            exact rl_val h (by decide) rfl rfl rfl (by decide) rfl (run_mv (eval_G ((h.keep (s := 7) (by decide)).trans s7))) rfl
          · rintro L fa wx h hcl hL hw2
            exact rl_val h (by decide) rfl rfl rfl (by decide) rfl (run_ixV (eval_G (show G fa 71 = (.slice (some ⟨b', off', none⟩) ks.length cap') from (h.got 6 71 (hw2 ⟨6, .data⟩ (by simp) rfl) rfl))) (eval_G (show G fa 72 = (.int .i64 (m : Int)) from (h.got 7 72 (hw2 ⟨7, .data⟩ (by simp) rfl) rfl))) hlt2) rfl
          · rintro L fa wx h hcl hL hw2
            exact rl_val h (by decide) rfl rfl rfl (by decide) rfl (run_ld6 (eval_G (show G fa 73 = (.pointer (some ⟨b', off' + m * 6, none⟩)) from (h.got 8 73 (hw2 ⟨8, .data⟩ (by simp) rfl) rfl))) ((h.old.cell (p := ⟨b', off' + m * 6, none⟩) lb2).trans q0) ((h.old.cell (p := ⟨b', off' + m * 6 + 1, none⟩) lb2).trans q1) ((h.old.cell (p := ⟨b', off' + m * 6 + 2, none⟩) lb2).trans q2) ((h.old.cell (p := ⟨b', off' + m * 6 + 3, none⟩) lb2).trans q3) ((h.old.cell (p := ⟨b', off' + m * 6 + 4, none⟩) lb2).trans q4) ((h.old.cell (p := ⟨b', off' + m * 6 + 5, none⟩) lb2).trans q5)) rfl
          · rintro L fa wx h hcl hL hw2
            exact rl_call (R := fun v _ => v = .int .i64 (n : Int)) h (by decide) rfl rfl rfl (by decide) rfl (run_call2 (eval_G (show G fa 69 = (.agg #[.int .i64 k1, .bool y1, .int .i64 c1, .int .i64 x1, .string t1, .slice a1 kk1.length cap1]) from (h.got 4 69 (hw2 ⟨4, .data⟩ (by simp) rfl) rfl))) (eval_G (show G fa 74 = (.agg #[.int .i64 k2, .bool y2, .int .i64 c2, .int .i64 x2, .string t2, .slice a2 kk2.length cap2]) from (h.got 9 74 (hw2 ⟨9, .data⟩ (by simp) rfl) rfl))) callDEq) (unhide C _ h.old) (fun _ _ q => q)
          · rintro L fa wx h hcl hL hw2
            exact rl_val h (by decide) rfl rfl rfl (by decide) rfl (run_asg (eval_G (show G fa 75 = (.int .i64 (n : Int)) from (h.got 10 75 (hw2 ⟨10, .data⟩ (by simp) rfl) rfl)))) rfl
        case done =>
          rintro L f1 w3 h hall
          have q8 : G f1 8 = .int .i64 (n : Int) := h.got 11 8 (hall 11 (by simp)) rfl
          have e := frame_puts h hsz hdf (by decide)
          have HB3 := hide (below_via (unhide HB) h.old)
          rw [hf0] at e
          simp only [List.foldl_cons, List.foldl_nil] at e
          rw [q8] at e
          generalize G f1 65 = z65 at e
          generalize G f1 66 = z66 at e
          generalize G f1 67 = z67 at e
          generalize G f1 68 = z68 at e
          generalize G f1 69 = z69 at e
          generalize G f1 70 = z70 at e
          generalize G f1 71 = z71 at e
          generalize G f1 72 = z72 at e
          generalize G f1 73 = z73 at e
          generalize G f1 74 = z74 at e
          generalize G f1 75 = z75 at e
          clear h hall hsz hdf s2 s3 s7 q8 hf0 f0 v5 z5 p0 p1 p2 p3 p4 p5 q0 q1 q2 q3 q4 q5 lb1 lb2 lv lz C
          subst e
          by_cases hlt : n < least
          · have hmin : min least n = n := by omega
            rw [hmin] at H
            clear hmin
            go_wp2
            go_round
            case rel => exact ⟨m + 1, n, by omega, hle, rfl, by go_num, H, HB3⟩
            case measure => simp [intOf]; omega
          · have hmin : min least n = least := by omega
            rw [hmin] at H
            clear hmin
            go_wp2
            go_round
            case rel => exact ⟨m + 1, least, by omega, hn2, rfl, by go_num, H, HB3⟩
            case measure => simp [intOf]; omega
    · obtain rfl : m = ks.length := by omega
      have H2 : Hid (eqPL ks ks' 2 = least) := by
        have h := unhide H
        rw [List.drop_length, eqPL_nil] at h
        exact hide h
      have HW := hide (below_via (unhide W0) (unhide HB))
      go_wp2
      go_ret
      rw [unhide H2]
      exact ⟨rfl, unhide HW⟩
end Go.Proofs.YtibkemolmpcdcaaDoor

/- Walks: the document's Equal of any two values. -/
namespace Go.Proofs.YtibkemolmpcdcaaDoor
open Go.RowKit

theorem dequal_of (k : Int) (y : Bool) (c x : Int) (t : ByteArray) (ks : List Tree) (IH : ∀ u ∈ ks, DEqC u) : DEqC (.mk k y c x t ks) := by
  intro B w v u hM hM'
  obtain ⟨k', y', c', x', t', ks'⟩ := B
  rw [Mem] at hM hM'
  obtain ⟨_, hmax, a, cap, rfl, hks⟩ := hM
  obtain ⟨_, _, a', cap', rfl, hks'⟩ := hM'
  by_cases h5 : k = 5 ∧ k' = 5
  · obtain ⟨rfl, rfl⟩ := h5
    by_cases hl : ks.length = ks'.length
    · by_cases hnil : ks = []
      · subst hnil
        have hnil' : ks' = [] := List.eq_nil_of_length_eq_zero hl.symm
        subst hnil'
        rw [ep_list, if_pos rfl, eqPL_nil]
        exact dequal_nil y c x t y' c' x' t' a a' cap cap' w
      · have hnil' : ks' ≠ [] := by
          intro q
          subst q
          exact hnil (List.eq_nil_of_length_eq_zero hl)
        obtain ⟨b, off, rfl, hb, hm⟩ := hks hnil
        obtain ⟨b', off', rfl, hb', hm'⟩ := hks' hnil'
        rw [ep_list, if_pos hl, ← hl]
        exact dequal_lists y c x t y' c' x' t' ks ks' IH b off b' off' cap cap' w hl hmax hb hb' hm hm'
    · exact dequal_len y c x t y' c' x' t' ks ks' a a' cap cap' w hl
  · exact dequal_plain k y c x t k' y' c' x' t' ks ks' a a' cap cap' w (by omega)

mutual
theorem dequal_all : ∀ T : Tree, DEqC T
  | .mk k y c x t ks => dequal_of k y c x t ks (fun u h => dequal_alls ks u h)
theorem dequal_alls : ∀ (ks : List Tree) (u : Tree), u ∈ ks → DEqC u
  | [], u, h => by cases h
  | v :: vs, u, h => by
    by_cases e : u = v
    · rw [e]; exact dequal_all v
    · exact dequal_alls vs u ((List.mem_cons.1 h).resolve_left e)
end
end Go.Proofs.YtibkemolmpcdcaaDoor

/- Walks: Less of any two values, the program's and the document's. -/
namespace Go.Proofs.YtibkemolmpcdcaaDoor
open Go.RowKit

/-- what Less tells of two right values -/
def lessH : Tree → Tree → Nat
  | .mk k _ c x t _, .mk k' _ c' x' t' _ => if k = k' ∧ k = 3 then (if Dm.sgn (Dm.V c x - Dm.V c' x') < 0 then 2 else 0) else if k = k' ∧ k = 4 then (if Op.bytesLess t.toList t'.toList = true then 2 else 0) else 1
theorem lessH_le (A B : Tree) : lessH A B ≤ 2 := by
  obtain ⟨k, y, c, x, t, ks⟩ := A
  obtain ⟨k', y', c', x', t', ks'⟩ := B
  rw [lessH]
  (repeat' split) <;> omega
theorem told_yes (b : Bool) : (Value.agg #[.int .i64 2, .bool b, .int .i64 0, .int .i64 0, .string ⟨#[]⟩, .slice none 0 0]) = told (if b = true then 2 else 0) := by cases b <;> rfl

set_option maxHeartbeats 2000000 in
theorem less_null (k : Int) (y : Bool) (c x : Int) (t : ByteArray) (l : Value) (k' : Int) (y' : Bool) (c' x' : Int) (t' : ByteArray) (l' : Value) (w : World) (h3 : ¬ (k = k' ∧ k = 3)) (h4 : ¬ (k = k' ∧ k = 4)) :
    Calls Tryd.prog 16 #[.agg #[.int .i64 k, .bool y, .int .i64 c, .int .i64 x, .string t, l], .agg #[.int .i64 k', .bool y', .int .i64 c', .int .i64 x', .string t', l']] w fun e w' => e = .returned (told 1) ∧ Below w.heap.size w w' := by
  by_cases e : k = k'
  · subst e
    have n3 : ¬ k = 3 := fun q => h3 ⟨rfl, q⟩
    have n4 : ¬ k = 4 := fun q => h4 ⟨rfl, q⟩
    clear h3 h4
    go_enter Tryd.func16, Tryd.ntmps16
    go_wp2_with fail
    refine (null_any _).mono ?_
    rintro e w9 ⟨rfl, hb⟩
    obtain ⟨_, _, R, hw⟩ := box3 hb
    clear hb
    obtain ⟨a0, a1, a2, a3, a4, a5⟩ := R.tell
    obtain ⟨f0, f1, f2, f3, f4, f5⟩ := R.thaw
    have lb := R.low
    go_wp2
    exact bodyPost_ret (v := told 1) (by simp [results, Tryd.results16, go_sem, a0, a1, a2, a3, a4, a5, kd, yd]) rfl ⟨rfl, ((((((hw.setCell (by simp; omega) _).setCell (by simp; omega) _).setCell (by simp; omega) _).setCell (by simp; omega) _).setCell (by simp; omega) _).setCell (by simp; omega) _)⟩
  · have e' : (k != k') = true := by simp [e]
    clear h3 h4
    go_enter Tryd.func16, Tryd.ntmps16
    go_wp2_with fail
    refine (null_any _).mono ?_
    rintro e w9 ⟨rfl, hb⟩
    obtain ⟨_, _, R, hw⟩ := box3 hb
    clear hb
    obtain ⟨a0, a1, a2, a3, a4, a5⟩ := R.tell
    obtain ⟨f0, f1, f2, f3, f4, f5⟩ := R.thaw
    have lb := R.low
    go_wp2
    exact bodyPost_ret (v := told 1) (by simp [results, Tryd.results16, go_sem, a0, a1, a2, a3, a4, a5, kd, yd]) rfl ⟨rfl, ((((((hw.setCell (by simp; omega) _).setCell (by simp; omega) _).setCell (by simp; omega) _).setCell (by simp; omega) _).setCell (by simp; omega) _).setCell (by simp; omega) _)⟩

theorem less_any (A B : Tree) (v u : Array Value) (b b' : Nat) (w : World) (hM : Mem b w A v) (hM' : Mem b' w B u) (hA : (wrongF A 0 1).1 = 0) (hB : (wrongF B 0 1).1 = 0) :
    Calls Tryd.prog 16 #[.agg v, .agg u] w fun e w' => e = .returned (told (lessH A B)) ∧ Below w.heap.size w w' := by
  obtain ⟨k, y, c, x, t, ks⟩ := A
  obtain ⟨k', y', c', x', t', ks'⟩ := B
  rw [Mem] at hM hM'
  obtain ⟨_, _, a, cap, rfl, _⟩ := hM
  obtain ⟨_, _, a', cap', rfl, _⟩ := hM'
  rw [lessH]
  by_cases h3 : k = k' ∧ k = 3
  · rw [if_pos h3]
    obtain ⟨rfl, rfl⟩ := h3
    rw [wf_num (by omega)] at hA hB
    have q := less_num y y' c x c' x' (.string t) (.slice a ks.length cap) (.string t') (.slice a' ks'.length cap') w hA hB
    rw [told_yes] at q
    simpa only [decide_eq_true_eq] using q
  · rw [if_neg h3]
    by_cases h4 : k = k' ∧ k = 4
    · rw [if_pos h4]
      obtain ⟨rfl, rfl⟩ := h4
      have q := less_text y y' c x c' x' t t' (.slice a ks.length cap) (.slice a' ks'.length cap') w
      rw [told_yes] at q
      exact q
    · rw [if_neg h4]
      exact less_null k y c x t _ k' y' c' x' t' _ w h3 h4

set_option maxHeartbeats 4000000 in
theorem dless_any (A B : Tree) (v u : Array Value) (b b' : Nat) (w : World) (hM : Mem b w A v) (hM' : Mem b' w B u) (hA : (wrongF A 0 1).1 = 0) (hB : (wrongF B 0 1).1 = 0) :
    Calls Tryd.prog 17 #[.agg v, .agg u] w fun e w' => e = .returned (.int .i64 ((lessH A B : Nat) : Int)) ∧ Below w.heap.size w w' := by
  obtain ⟨k, y, c, x, t, ks⟩ := A
  obtain ⟨k', y', c', x', t', ks'⟩ := B
  rw [Mem] at hM hM'
  obtain ⟨_, _, a, cap, rfl, _⟩ := hM
  obtain ⟨_, _, a', cap', rfl, _⟩ := hM'
  rw [lessH]
  have NB := hide (((Below.refl w.heap.size w).alloc (Nat.le_refl _) (.cells #[.int .i64 k, .bool y, .int .i64 c, .int .i64 x, .string t, .slice a ks.length cap] 26)).alloc (by simp) (.cells #[.int .i64 k', .bool y', .int .i64 c', .int .i64 x', .string t', .slice a' ks'.length cap'] 26))
  by_cases h3 : k = k' ∧ k = 3
  · rw [if_pos h3]
    obtain ⟨rfl, rfl⟩ := h3
    rw [wf_num (by omega)] at hA hB
    simp only at hA hB
    obtain ⟨a1, a2, a3, a4, _⟩ := Dm.wrong_ok hA
    obtain ⟨b1, b2, b3, b4, _⟩ := Dm.wrong_ok hB
    have CM := hide (fun wx => rcmpd_ok c x c' x' wx hA hB a1 a2 a3 a4 b1 b2 b3 b4)
    rw [cmp_same a3 b3] at CM
    clear hA hB a1 a2 a3 a4 b1 b2 b3 b4
    generalize Dm.sgn (Dm.V c x - Dm.V c' x') = g at *
    by_cases hg : g < 0
    · rw [if_pos hg]
      go_enter Tryd.func17, Tryd.ntmps17
      go_wp2_with fail
      refine (unhide CM _).mono ?_
      rintro e w2 ⟨rfl, hb⟩
      have HB := hide (below_via (unhide NB) hb)
      clear hb
      go_wp2
      go_ret
      exact ⟨rfl, unhide HB⟩
    · rw [if_neg hg]
      go_enter Tryd.func17, Tryd.ntmps17
      go_wp2_with fail
      refine (unhide CM _).mono ?_
      rintro e w2 ⟨rfl, hb⟩
      have HB := hide (below_via (unhide NB) hb)
      clear hb
      go_wp2
      go_ret
      exact ⟨rfl, unhide HB⟩
  · rw [if_neg h3]
    clear hA hB
    by_cases h4 : k = k' ∧ k = 4
    · rw [if_pos h4]
      obtain ⟨rfl, rfl⟩ := h4
      clear h3
      by_cases hg : Op.bytesLess t.toList t'.toList = true
      · rw [if_pos hg]
        go_enter Tryd.func17, Tryd.ntmps17
        go_wp2
        go_ret
        exact ⟨rfl, unhide NB⟩
      · rw [if_neg hg]
        have hg' : Op.bytesLess t.toList t'.toList = false := by simpa using hg
        clear hg
        go_enter Tryd.func17, Tryd.ntmps17
        go_wp2
        go_ret
        exact ⟨rfl, unhide NB⟩
    · rw [if_neg h4]
      by_cases e : k = k'
      · subst e
        have n3 : ¬ k = 3 := fun q => h3 ⟨rfl, q⟩
        have n4 : ¬ k = 4 := fun q => h4 ⟨rfl, q⟩
        have n3' : (k != 3) = true := by simp [n3]
        have n4' : (k != 4) = true := by simp [n4]
        clear h3 h4
        go_enter Tryd.func17, Tryd.ntmps17
        go_wp2
        go_ret
        exact ⟨rfl, unhide NB⟩
      · have e' : (k != k') = true := by simp [e]
        clear h3 h4
        go_enter Tryd.func17, Tryd.ntmps17
        go_wp2
        go_ret
        exact ⟨rfl, unhide NB⟩
end Go.Proofs.YtibkemolmpcdcaaDoor
