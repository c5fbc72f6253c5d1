/- Walks: what is the same. -/
import Derived.Test.YtlienildfnlncaaKO
namespace Go.Proofs.Ytlienildfnlncaa
open Go.RowKit

theorem below_via {w w0 w2 : World} (h : Below w.heap.size w w0) (k : Below w0.heap.size w0 w2) : Below w.heap.size w w2 := h.trans (k.mono h.size)
def SameC (T : WT) : Prop := ∀ (w : World) (u v : Array Value), MemW w.heap.size w T u → MemW w.heap.size w T v →
  Calls Try.prog 15 #[.agg u, .agg v] w fun e w' => e = .returned (.bool true) ∧ Below w.heap.size w w'

set_option maxHeartbeats 4000000 in
theorem same_of (g n : Int) (t : ByteArray) (ks : List WT) (IH : ∀ u ∈ ks, SameC u) : SameC (.mk g n t ks) := by
  intro w u v hu hv
  have HU := hide hu
  have HV := hide hv
  rw [MemW, MemWP] at hu hv
  obtain ⟨hn, ht, hk, a1, c1, rfl, k1⟩ := hu
  obtain ⟨_, _, _, a2, c2, rfl, k2⟩ := hv
  have HK1 := hide k1
  have HK2 := hide k2
  have IH' := hide IH
  obtain ⟨W0, hW0⟩ : ∃ W0, W0 = (w.alloc (.cells #[.int .i64 g, .int .i64 n, .string t, .slice a1 ks.length c1] 24)).alloc (.cells #[.int .i64 g, .int .i64 n, .string t, .slice a2 ks.length c2] 24) := ⟨_, rfl⟩
  have B0 : Below w.heap.size w W0 := by rw [hW0]; exact (below_new _ _).alloc (by simp) _
  have X0 : Bx W0 w.heap.size (.int .i64 g) (.int .i64 n) (.string t) (.slice a1 ks.length c1) := by rw [hW0]; exact (Bx.new w _ _ _ _ _).keep (below_new _ _)
  have X1 : Bx W0 (w.heap.size + 1) (.int .i64 g) (.int .i64 n) (.string t) (.slice a2 ks.length c2) := by
    have := Bx.new (w.alloc (.cells #[.int .i64 g, .int .i64 n, .string t, .slice a1 ks.length c1] 24)) 24 (.int .i64 g) (.int .i64 n) (.string t) (.slice a2 ks.length c2)
    rw [hW0]
    simpa using this
  have HB0 := hide B0
  have HX0 := hide X0
  have HX1 := hide X1
  clear k1 k2 IH B0 X0 X1 HU HV
  go_enter Try.func15, Try.ntmps15
  go_wp2_with fail
  rw [← hW0]
  clear hW0
  go_loopw [37] (fun i wr => ∃ m : Nat, m ≤ ks.length ∧ i = .int .i64 (m : Int) ∧ Hid (Below W0.heap.size W0 wr)) (fun i _ => ks.length - (intOf i).toNat)
  case atStart => exact ⟨0, Nat.zero_le _, rfl, hide (Below.refl _ _)⟩
  case round =>
    obtain ⟨m, hm, rfl, HBr⟩ := hrel
    by_cases hlt2 : m < ks.length
    · have hi1 : (m : Int) < (ks.length : Int) := by omega
      obtain ⟨u, hu⟩ : ∃ u, ks[m]? = some u := ⟨_, List.getElem?_eq_getElem hlt2⟩
      have hum := List.mem_of_getElem? hu
      have hne : ks ≠ [] := by intro e; rw [e] at hlt2; simp at hlt2
      obtain ⟨b1, o1, rfl, l1, m1⟩ := unhide HK1 hne
      obtain ⟨b2, o2, rfl, l2, m2⟩ := unhide HK2 hne
      have BW : Below w.heap.size w wr := below_via (unhide HB0) (unhide HBr)
      obtain ⟨cs1, f1, M1⟩ := MemWL.at (MemL.below BW l1 m1) m u hu
      obtain ⟨cs2, f2, M2⟩ := MemWL.at (MemL.below BW l2 m2) m u hu
      have x3 := ((unhide HX0).keep (unhide HBr)).tell.2.2.2
      have y3 := ((unhide HX1).keep (unhide HBr)).tell.2.2.2
      have CB := hide (fun wx (hx : Below wr.heap.size wr wx) => unhide IH' u hum wx cs1 cs2 ((MemW.below (hx.mono BW.size) M1).mono (Nat.le_trans BW.size hx.size)) ((MemW.below (hx.mono BW.size) M2).mono (Nat.le_trans BW.size hx.size)))
      obtain ⟨p1, p2, p3, p4, p5, p6, rfl⟩ := MemWP.four M1
      obtain ⟨q1, q2, q3, q4, q5, q6, rfl⟩ := MemWP.four M2
      obtain ⟨u0, u1, u2, u3, hu6, d0, d1, d2, d3⟩ := f1
      simp only [Array.mk.injEq, List.cons.injEq, and_true] at hu6
      obtain ⟨rfl, rfl, rfl, rfl⟩ := hu6
      obtain ⟨u0, u1, u2, u3, hu6, e0, e1, e2, e3⟩ := f2
      simp only [Array.mk.injEq, List.cons.injEq, and_true] at hu6
      obtain ⟨rfl, rfl, rfl, rfl⟩ := hu6
      clear hu hum hne m1 m2 M1 M2 BW HX0 HX1 HK1 HK2 HB0
      go_wp2_with fail
      go_region_with ((with_reducible refine (unhide CB _ ?_).mono ?_; · exact (by repeat (first | assumption | exact Below.refl _ _ | apply Below.drew))); rintro e w2 ⟨rfl, hb⟩; replace hb : Below wr.heap.size wr w2 := below_via (by repeat (first | assumption | exact Below.refl _ _ | apply Below.drew)) hb)
      all_goals
        have HB2 := hide (below_via (unhide HBr) hb)
        clear hb d0 d1 d2 d3 e0 e1 e2 e3 CB HBr x3 y3
        go_wp2
        go_roundw
        case rel => exact ⟨m + 1, by omega, by go_num, HB2⟩
        case measure => simp [intOf]; omega
    · obtain rfl : m = ks.length := by omega
      go_wp2
      go_ret
      exact ⟨rfl, below_via (unhide HB0) (unhide HBr)⟩
mutual
theorem same_all : ∀ T : WT, SameC T
  | .mk g n t ks => same_of g n t ks (fun u h => same_alls ks u h)
theorem same_alls : ∀ (ks : List WT) (u : WT), u ∈ ks → SameC u
  | [], u, h => by cases h
  | v :: vs, u, h => by
    by_cases e : u = v
    · rw [e]; exact same_all v
    · exact same_alls vs u ((List.mem_cons.1 h).resolve_left e)
end

/-- bytes that are the same -/
theorem sameB_any (w : World) (l : List UInt8) (u v : Value) (hu : BV w u l) (hv : BV w v l) :
    Calls Try.prog 12 #[u, v] w fun e w' => e = .returned (.bool true) ∧ Below w.heap.size w w' := by
  obtain ⟨a1, c1, rfl, h11, h12, k1⟩ := hu
  obtain ⟨a2, c2, rfl, h21, h22, k2⟩ := hv
  have HK1 := hide k1
  have HK2 := hide k2
  clear k1 k2
  go_enter Try.func12, Try.ntmps12
  go_wp2_with fail
  go_loopw [13] (fun i wr => ∃ m : Nat, m ≤ l.length ∧ i = .int .i64 (m : Int) ∧ Hid (Below w.heap.size w wr)) (fun i _ => l.length - (intOf i).toNat)
  case atStart => exact ⟨0, Nat.zero_le _, rfl, hide (Below.refl _ _)⟩
  case round =>
    obtain ⟨m, hm, rfl, HBr⟩ := hrel
    by_cases hlt2 : m < l.length
    · have hi1 : (m : Int) < (l.length : Int) := by omega
      obtain ⟨x, hx⟩ : ∃ x, l[m]? = some x := ⟨_, List.getElem?_eq_getElem hlt2⟩
      have hne : l ≠ [] := by intro e; rw [e] at hlt2; simp at hlt2
      obtain ⟨b1, o1, rfl, l1, m1⟩ := unhide HK1 hne
      obtain ⟨b2, o2, rfl, l2, m2⟩ := unhide HK2 hne
      have x1 := ((unhide HBr).cell (p := ⟨b1, o1 + m, none⟩) l1).trans (m1 m x hx)
      have x2 := ((unhide HBr).cell (p := ⟨b2, o2 + m, none⟩) l2).trans (m2 m x hx)
      clear hx hne m1 m2 HK1 HK2
      go_wp2_with fail
      go_region
      all_goals
        have HB2 := hide ((unhide HBr).drew)
        clear HBr x1 x2
        go_wp2
        go_roundw
        case rel => exact ⟨m + 1, by omega, by go_num, HB2⟩
        case measure => simp [intOf]; omega
    · obtain rfl : m = l.length := by omega
      go_wp2
      go_ret
      exact ⟨rfl, unhide HBr⟩
end Go.Proofs.Ytlienildfnlncaa
