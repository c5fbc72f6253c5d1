/- Walks: whether a value is of a type. -/
import Derived.Test.YtjgonkcfnfgakaaGreatDoorH2
namespace Go.Proofs.YtjgonkcfnfgakaaGreatDoor
open Go.RowKit

theorem hf_yes {k : Int} {y : Bool} {c x : Int} {t : ByteArray} {ks : List Tree} {s : Sp} {n : Nat} (h : k = 1 ∨ (s.n = 0 ∧ s.k = 6)) : hasF (.mk k y c x t ks) s n = (true, n + 1) := by rw [hasF, if_pos h]
theorem hf_list {y : Bool} {c x : Int} {t : ByteArray} {ks : List Tree} {s : Sp} {n : Nat} (h : 0 < s.n) : hasF (.mk 5 y c x t ks) s n = allF ks ⟨s.n - 1, s.k⟩ (n + 1) := by rw [hasF, if_neg (by omega), if_pos h, if_pos rfl]
theorem hf_none {k : Int} {y : Bool} {c x : Int} {t : ByteArray} {ks : List Tree} {s : Sp} {n : Nat} (h1 : ¬ k = 1) (h : 0 < s.n) (h5 : ¬ k = 5) : hasF (.mk k y c x t ks) s n = (false, n + 1) := by rw [hasF, if_neg (by omega), if_pos h, if_neg h5]
theorem hf_flat {k : Int} {y : Bool} {c x : Int} {t : ByteArray} {ks : List Tree} {s : Sp} {n : Nat} (h1 : ¬ k = 1) (h : ¬ 0 < s.n) (h6 : ¬ s.k = 6) :
    hasF (.mk k y c x t ks) s n = if k = 2 then (decide (s.k = 2), n + 1) else if k = 3 then (decide (s.k = 3), n + 1) else if k = 4 then (decide (s.k = 4), n + 1) else (false, n + 1) := by
  rw [hasF, if_neg (by omega), if_neg h]

theorem St.inc {w : World} {p s : Nat} (h : St w p s) : St (w.setCell ⟨p, 0, none⟩ (.int .i64 ((s : Int) + 1))) p (s + 1) := by
  obtain ⟨h1, h2, h3⟩ := h
  refine ⟨?_, ?_, by simpa [World.setCell] using h3⟩
  · simp [go_sem, h1]
  · simp [go_sem, h2]
/-- a value's block: what is read of it -/
structure VB (w : World) (b : Nat) (k : Int) (l : Value) : Prop where
  low : b < w.heap.size
  at0 : w.cell? ⟨b, 0, none⟩ = some (.int .i64 k)
  at5 : w.cell? ⟨b, 5, none⟩ = some l
theorem VB.keep {w w' : World} {b : Nat} {k : Int} {l : Value} (h : VB w b k l) {B : Nat} (hb : Below B w w') (hl : b < B) : VB w' b k l :=
  ⟨Nat.lt_of_lt_of_le h.low hb.size, (hb.cell (p := ⟨b, 0, none⟩) hl).trans h.at0, (hb.cell (p := ⟨b, 5, none⟩) hl).trans h.at5⟩
theorem VB.new (w : World) (k : Int) (v1 v2 v3 v4 l : Value) : VB (w.alloc (.cells #[.int .i64 k, v1, v2, v3, v4, l] 35)) w.heap.size k l :=
  ⟨by simp, by go_simp, by go_simp⟩

set_option maxHeartbeats 8000000 in
theorem has_of (k : Int) (y : Bool) (c x : Int) (t : ByteArray) (ks : List Tree) (IH : ∀ u ∈ ks, HasC u) : HasC (.mk k y c x t ks) := by
  intro B w v p n s hM hp hS hn hs
  rw [Mem] at hM
  obtain ⟨ht, hk, a, cap, rfl, hks⟩ := hM
  have I6 := hide (fun wx => is_any s 6 wx (by decide))
  obtain ⟨W0, hW0⟩ : ∃ W0, W0 = ((w.setCell ⟨p, 0, none⟩ (.int .i64 ((n : Int) + 1))).alloc (.cells #[.int .i64 k, .bool y, .int .i64 c, .int .i64 x, .string t, .slice a ks.length cap] 35)).alloc (.cells #[.int .i64 (s.n : Int), .int .i64 s.k] 49) := ⟨_, rfl⟩
  have sw : (w.setCell ⟨p, 0, none⟩ (.int .i64 ((n : Int) + 1))).heap.size = w.heap.size := by simp
  have b2 : Below (w.setCell ⟨p, 0, none⟩ (.int .i64 ((n : Int) + 1))).heap.size (w.setCell ⟨p, 0, none⟩ (.int .i64 ((n : Int) + 1))) W0 := by
    rw [hW0]
    exact ((Below.refl _ _).alloc (Nat.le_refl _) _).alloc (by simp) _
  have SW := hide ((St.inc hS).below b2 (St.inc hS).2.2)
  have BW := hide ((But.set (p := p) (j := 0) (w := w) (v := .int .i64 ((n : Int) + 1))).trans (But.of b2))
  have XV : Hid (VB W0 w.heap.size k (.slice a ks.length cap)) := by
    have h := (VB.new (w.setCell ⟨p, 0, none⟩ (.int .i64 ((n : Int) + 1))) k (.bool y) (.int .i64 c) (.int .i64 x) (.string t) (.slice a ks.length cap)).keep (below_new _ (.cells #[.int .i64 (s.n : Int), .int .i64 s.k] 49)) (by simp)
    rw [← hW0, sw] at h
    exact hide h
  have XS : Hid (Bx2 W0 (w.heap.size + 1) (.int .i64 s.n) (.int .i64 s.k)) := by
    have h := Bx2.new ((w.setCell ⟨p, 0, none⟩ (.int .i64 ((n : Int) + 1))).alloc (.cells #[.int .i64 k, .bool y, .int .i64 c, .int .i64 x, .string t, .slice a ks.length cap] 35)) 49 (.int .i64 s.n) (.int .i64 s.k)
    rw [← hW0] at h
    simp only [World.size_alloc, sw] at h
    exact hide h
  have lp : p < w.heap.size := hS.2.2
  obtain ⟨s1, s2, s3⟩ := hS
  clear b2 sw
  have HK := hide hks
  have IH' := hide IH
  clear hks IH
  by_cases h1 : k = 1
  · subst h1
    rw [hf_yes (.inl rfl)]
    clear I6
    go_enter Tryz.func18, Tryz.ntmps18
    go_wp2
    go_ret
    rw [← hW0]
    exact ⟨rfl, unhide SW, unhide BW⟩
  have h1' : (k == 1) = false := by simpa using h1
  go_enter Tryz.func18, Tryz.ntmps18
  go_wp2_with fail
  rw [← hW0]
  refine (unhide I6 _).mono ?_
  rintro e w1 ⟨rfl, hb⟩
  have SW1 := hide ((unhide SW).below hb (unhide SW).2.2)
  have BW1 := hide ((unhide BW).trans (But.of hb))
  have XV1 := hide ((unhide XV).keep hb (unhide XV).low)
  have XS1 := hide ((unhide XS).keep hb (unhide XS).low)
  clear hb hW0 SW BW XV XS s1 s2 s3
  by_cases h6 : s.n = 0 ∧ s.k = 6
  · have HE := hide (hf_yes (k := k) (y := y) (c := c) (x := x) (t := t) (ks := ks) (n := n) (.inr h6))
    rw [decide_eq_true h6]
    clear XV1 XS1
    go_wp2
    go_ret
    rw [unhide HE]
    exact ⟨rfl, unhide SW1, unhide BW1⟩
  rw [decide_eq_false h6]
  have d0 := (unhide XV1).at0
  have d5 := (unhide XV1).at5
  have e0 := (unhide XS1).at0
  have e1 := (unhide XS1).at1
  by_cases hpos : 0 < s.n
  · have hpos' : (0 : Int) < (s.n : Int) := by omega
    by_cases h5 : k = 5
    · subst h5
      have EL := hide (fun wx => elem_any s wx hpos (by omega))
      have HE := hide (hf_list (y := y) (c := c) (x := x) (t := t) (ks := ks) (n := n) hpos)
      have AL : ∀ wx, Below w1.heap.size w1 wx → Calls Tryz.prog 26 #[.pointer (some ⟨p, 0, none⟩), .slice a ks.length cap, sh ⟨s.n - 1, s.k⟩] wx fun e w' => e = .returned (.bool (allF ks ⟨s.n - 1, s.k⟩ (n + 1)).1) ∧ St w' p (allF ks ⟨s.n - 1, s.k⟩ (n + 1)).2 ∧ But p wx w' := by
        intro wx hx
        have hSx := (unhide SW1).below hx (unhide SW1).2.2
        by_cases hnil : ks = []
        · subst hnil
          rw [allF_nil]
          refine (all_nil a cap wx p _).mono ?_
          rintro e w' ⟨rfl, hb⟩
          exact ⟨rfl, hSx.below hb hSx.2.2, But.of hb⟩
        · obtain ⟨b, off, rfl, hbB, hm⟩ := unhide HK hnil
          have hwx : Below B w wx := ((unhide BW1).trans (But.of hx)).below hp (by omega)
          exact all_of ks (unhide IH') B wx b off cap p (n + 1) _ (MemL.below hwx hbB hm) hbB hk hp hSx (by omega) (by simp only; omega)
      replace AL := hide AL
      clear HK IH' h6 SW1
      go_wp2_with fail
      go_region_with (first
        | (go_at_call 27
           refine (unhide EL _).mono ?_
           rintro e w2 ⟨rfl, hb⟩
           replace hb : Below w1.heap.size w1 w2 := below_via (by repeat (first | assumption | exact Below.refl _ _ | apply Below.drew)) hb
           have q5 := ((unhide XV1).keep hb (unhide XV1).low).at5)
        | (go_at_call 26
           (refine (unhide AL _ ?_).mono ?_; · exact (by repeat (first | assumption | exact Below.refl _ _ | apply Below.drew)))
           rintro e w3 ⟨rfl, hS3, hb3⟩
           replace hb3 : But p w w3 := (unhide BW1).trans ((But.of (by repeat (first | assumption | exact Below.refl _ _ | apply Below.drew)) : But p w1 _).trans hb3)))
      all_goals
        have HS3 := hide hS3
        have HB3 := hide hb3
        clear hS3 hb3
        go_wp2
        go_ret
        rw [unhide HE]
        exact ⟨rfl, unhide HS3, unhide HB3⟩
    · have h5' : (k == 5) = false := by simpa using h5
      have HE := hide (hf_none (y := y) (c := c) (x := x) (t := t) (ks := ks) (n := n) h1 hpos h5)
      clear XV1 XS1
      go_wp2_with fail
      go_region
      all_goals
        go_wp2
        go_ret
        rw [unhide HE]
        exact ⟨rfl, (unhide SW1), (unhide BW1).trans (But.of (by repeat (first | exact Below.refl _ _ | apply Below.drew)))⟩
  · have hpos' : ¬ (0 : Int) < (s.n : Int) := by omega
    have h66 : ¬ s.k = 6 := fun e => h6 ⟨by omega, e⟩
    have HE := hide (hf_flat (y := y) (c := c) (x := x) (t := t) (ks := ks) (n := n) h1 hpos h66)
    clear XV1 XS1 h6
    by_cases k2 : k = 2
    · subst k2
      go_wp2
      go_ret
      rw [unhide HE, if_pos trivial]
      exact ⟨by simp; rfl, unhide SW1, unhide BW1⟩
    have k2' : (k == 2) = false := by simpa using k2
    by_cases k3 : k = 3
    · subst k3
      go_wp2
      go_ret
      rw [unhide HE, if_neg k2, if_pos trivial]
      exact ⟨by simp; rfl, unhide SW1, unhide BW1⟩
    have k3' : (k == 3) = false := by simpa using k3
    by_cases k4 : k = 4
    · subst k4
      go_wp2
      go_ret
      rw [unhide HE, if_neg k2, if_neg k3, if_pos trivial]
      exact ⟨by simp; rfl, unhide SW1, unhide BW1⟩
    have k4' : (k == 4) = false := by simpa using k4
    go_wp2
    go_ret
    rw [unhide HE, if_neg k2, if_neg k3, if_neg k4]
    exact ⟨rfl, unhide SW1, unhide BW1⟩

mutual
theorem has_all : ∀ T : Tree, HasC T
  | .mk k y c x t ks => has_of k y c x t ks (fun u h => has_alls ks u h)
theorem has_alls : ∀ (ks : List Tree) (u : Tree), u ∈ ks → HasC u
  | [], u, h => by cases h
  | v :: vs, u, h => by
    by_cases e : u = v
    · rw [e]; exact has_all v
    · exact has_alls vs u ((List.mem_cons.1 h).resolve_left e)
end
end Go.Proofs.YtjgonkcfnfgakaaGreatDoor
