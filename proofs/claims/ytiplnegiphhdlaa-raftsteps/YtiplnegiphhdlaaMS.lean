/- Walks: SameItems of what is the same. -/
import Derived.Test.YtiplnegiphhdlaaMC
namespace Go.Proofs.Ytiplnegiphhdlaa
open Go.RowKit

theorem TV.drewN {P : Nat → Prop} {w : World} {v : Value} {l : List Rf.Item} (h : TV P w v l) (n : Nat) : TV P (w.drewN n) v l := h
theorem NV.log {P : Nat → Prop} {w : World} {u0 u1 u2 u3 u4 u5 u6 u7 u8 u9 u10 : Value} {x : Rf.Node} (h : NV P w #[u0, u1, u2, u3, u4, u5, u6, u7, u8, u9, u10] x) : TV P w u4 x.log := by
  obtain ⟨lv, vv, nv, mv, e, h2, _⟩ := h
  simp only [Array.mk.injEq, List.cons.injEq, and_true] at e
  obtain ⟨_, _, _, _, rfl, _⟩ := e
  exact h2
theorem GV.items {P : Nat → Prop} {w : World} {u0 u1 u2 u3 u4 u5 u6 u7 u8 : Value} {m : Rf.Msg} (h : GV P w #[u0, u1, u2, u3, u4, u5, u6, u7, u8] m) : TV P w u7 m.items := by
  obtain ⟨iv, e, h2⟩ := h
  simp only [Array.mk.injEq, List.cons.injEq, and_true] at e
  obtain ⟨_, _, _, _, _, _, _, rfl, _⟩ := e
  exact h2
/-- a slice's first ones -/
theorem TV.first {P : Nat → Prop} {w : World} {a : Option Addr} {n cap : Nat} {l k : List Rf.Item} (h : TV P w (.slice a n cap) l) (hk : k <+: l) : TV P w (.slice a k.length cap) k := by
  obtain ⟨h1, a', cap', e, h3, h4, h5⟩ := h
  cases e
  obtain ⟨t, rfl⟩ := hk
  have hl : (k ++ t).length = k.length + t.length := List.length_append
  refine ⟨its_len k, a, cap, rfl, by omega, h4, fun hn => ?_⟩
  obtain ⟨b, off, e1, e2, e3⟩ := h5 (by omega)
  refine ⟨b, off, e1, e2, fun j u hj => e3 j u ?_⟩
  rw [its_app, List.getElem?_append_left (List.getElem?_eq_some_iff.1 hj).1]
  exact hj

end Go.Proofs.Ytiplnegiphhdlaa

namespace Go.Proofs.Ytiplnegiphhdlaa.R15
open Go.RowKit

set_option maxHeartbeats 2000000 in
theorem sameItems_any (l : List Rf.Item) (u v : Value) (w : World) (hu : Tv w u l) (hv : Tv w v l) : Calls Try.prog 28 #[u, v] w fun e w' => e = .returned (.bool true) ∧ ∃ m, w' = w.drewN m := by
  obtain ⟨a1, L1, c1, rfl, hL1, _, _⟩ := SC.shp hu
  obtain ⟨a2, L2, c2, rfl, hL2, _, _⟩ := SC.shp hv
  have e12 : L2 = L1 := (unhide hL2).trans (unhide hL1).symm
  subst e12
  have HU := hide hu
  have HV := hide hv
  clear hu hv hL1
  go_enter Try.func28, Try.ntmps28
  go_wp2_with fail
  go_loopw [13] (fun i wr => ∃ m : Nat, m ≤ L2 ∧ i = .int .i64 (m : Int) ∧ ∃ k, wr = w.drewN k) (fun i _ => L2 - (intOf i).toNat)
  case atStart => exact ⟨0, Nat.zero_le _, rfl, 0, rfl⟩
  case round =>
    obtain ⟨m, hm, rfl, k, rfl⟩ := hrel
    by_cases hlt : m < L2
    · have hi1 : (m : Int) < (L2 : Int) := by omega
      have hlt2 : m < l.length := by rw [← unhide hL2]; exact hlt
      obtain ⟨x, hx⟩ : ∃ x, l[m]? = some x := ⟨_, List.getElem?_eq_getElem hlt2⟩
      have hne : l ≠ [] := by intro e; rw [e] at hlt2; simp at hlt2
      obtain ⟨b1, o1, cap1, e, _⟩ := (unhide HU).ex hne
      have ea : a1 = some ⟨b1, o1, none⟩ := by cases e; rfl
      clear e
      subst ea
      obtain ⟨b2, o2, cap2, e, _⟩ := (unhide HV).ex hne
      have ea : a2 = some ⟨b2, o2, none⟩ := by cases e; rfl
      clear e
      subst ea
      obtain ⟨x0, x1⟩ := (unhide HU).at hx
      obtain ⟨y0, y1⟩ := (unhide HV).at hx
      clear hx hne hlt2
      go_wp2_with fail
      go_region
      all_goals
        go_wp2
        go_roundw
        case rel => exact ⟨m + 1, by omega, by go_num, _, rfl⟩
        case measure => simp [intOf]; omega
    · obtain rfl : m = L2 := by omega
      go_wp2
      go_ret
      exact ⟨rfl, _, rfl⟩

end Go.Proofs.Ytiplnegiphhdlaa.R15
