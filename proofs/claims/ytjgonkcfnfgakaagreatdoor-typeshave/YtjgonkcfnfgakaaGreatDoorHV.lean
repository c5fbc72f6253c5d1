/- What TypesHave's walk carries. -/
import Derived.Test.YtjgonkcfnfgakaaGreatDoorLA
import Derived.Test.YtjgonkcfnfgakaaGreatDoorH4
namespace Go.Proofs.YtjgonkcfnfgakaaGreatDoor
open Go.RowKit

/-- a value in a block -/
structure TV (w : World) (p : Nat) (T : Tree) (k0 : Int) (y0 : Bool) (c0 x0 : Int) (t0 : ByteArray) (l0 : Option Addr) (n0 p0 : Nat) : Prop where
  box : V6 w p (.int .i64 k0) (.bool y0) (.int .i64 c0) (.int .i64 x0) (.string t0) (.slice l0 n0 p0)
  mem : Mem w.heap.size w T #[.int .i64 k0, .bool y0, .int .i64 c0, .int .i64 x0, .string t0, .slice l0 n0 p0]
theorem mem_grow {w w' : World} {T : Tree} {v : Array Value} (h : Mem w.heap.size w T v) (hb : Below w.heap.size w w') : Mem w'.heap.size w' T v := Mem.mono hb.size (Mem.below hb h)
section
variable {w w' : World} {p : Nat} {T : Tree} {k0 : Int} {y0 : Bool} {c0 x0 : Int} {t0 : ByteArray} {l0 : Option Addr} {n0 p0 : Nat}
theorem TV.keep (h : TV w p T k0 y0 c0 x0 t0 l0 n0 p0) (hb : Below w.heap.size w w') : TV w' p T k0 y0 c0 x0 t0 l0 n0 p0 := ⟨h.box.keep hb h.box.low, mem_grow h.mem hb⟩
theorem TV.new (h : Mem w.heap.size w T #[.int .i64 k0, .bool y0, .int .i64 c0, .int .i64 x0, .string t0, .slice l0 n0 p0]) : TV (w.alloc (.cells #[.int .i64 k0, .bool y0, .int .i64 c0, .int .i64 x0, .string t0, .slice l0 n0 p0] 35)) w.heap.size T k0 y0 c0 x0 t0 l0 n0 p0 :=
  ⟨V6.new w _ _ _ _ _ _ _, mem_grow h (below_new _ _)⟩
theorem has_ok {a : Sp} {k1 : Int} {s1 : Option Addr} {n1 c1 : Nat} (oa : a.ok) (hv : Mem w.heap.size w T #[.int .i64 k0, .bool y0, .int .i64 c0, .int .i64 x0, .string t0, .slice l0 n0 p0]) (ha : MemT w.heap.size w (rt a) #[.int .i64 k1, .slice s1 n1 c1]) (r : Bool) (hr : (hasF T a 0).1 = r) :
    Calls Tryz.prog 11 #[.agg #[.int .i64 k0, .bool y0, .int .i64 c0, .int .i64 x0, .string t0, .slice l0 n0 p0], .agg #[.int .i64 k1, .slice s1 n1 c1]] w fun e w' => e = .returned (.bool r) ∧ Below w.heap.size w w' := by
  have h := tHas_any T a _ _ w (ok_bd oa).1 (ok_bd oa).2 hv ha
  rw [hr] at h
  exact h
theorem has_ev {a : Sp} {k1 : Int} {s1 : Option Addr} {n1 c1 : Nat} (oa : a.ok) (hv : Mem w.heap.size w T #[.int .i64 k0, .bool y0, .int .i64 c0, .int .i64 x0, .string t0, .slice l0 n0 p0]) (ha : MemT w.heap.size w (rt a) #[.int .i64 k1, .slice s1 n1 c1]) (r : Bool) (hr : (hasF T a 0).1 = r) :
    Calls Tryz.prog 11 #[.agg #[.int .i64 k0, .bool y0, .int .i64 c0, .int .i64 x0, .string t0, .slice l0 n0 p0], .agg #[.int .i64 k1, .slice s1 n1 c1]] w fun e w' => ∃ v, e = .returned v ∧ v = .bool r ∧ Below w.heap.size w w' := by
  refine (has_ok oa hv ha r hr).mono ?_
  rintro e w' ⟨rfl, h⟩
  exact ⟨_, rfl, rfl, h⟩
theorem mem_form {T : Tree} {v : Array Value} {B : Nat} (h : Mem B w T v) : ∃ k0 y0 c0 x0 t0 l0 n0 p0, v = #[.int .i64 k0, .bool y0, .int .i64 c0, .int .i64 x0, .string t0, .slice l0 n0 p0] := by
  obtain ⟨k, y, c, x, t, ks⟩ := T
  rw [Mem] at h
  obtain ⟨_, _, a, cap, rfl, _⟩ := h
  exact ⟨_, _, _, _, _, _, _, _, rfl⟩
end
theorem callHas (zs : Array Value) (w : World) : Sem.run Tryz.prog (callFunc 11 zs) w = .ok (.enter 11 zs) w := by simp [go_sem]
theorem run_ldV {a : Act} {w : World} {d : Option Nat} {t : TypeId} {p : String} {af : Array Edge} {g : Option (Nat × Bool)} {s b : Nat} {v0 v1 v2 v3 v4 v5 : Value} (h : G a s = .pointer (some ⟨b, 0, none⟩)) (B : V6 w b v0 v1 v2 v3 v4 v5) :
    (execOp a.eval ⟨d, .load 35 (.tmp s), t, p, af, g⟩).run Tryz.prog w = .ok (.value (.agg #[v0, v1, v2, v3, v4, v5])) w := by
  obtain ⟨c0, c1, c2, c3, c4, c5⟩ := B.tell
  have e0 := eval_G h
  generalize a.eval = E at e0 ⊢
  simp [go_sem, e0, c0, c1, c2, c3, c4, c5]

set_option maxRecDepth 100000 in
theorem frame_ex43 {a : Act} (hs : a.tmps.size = 43) (hd : a.defers = []) :
    ∃ u0 u1 u2 u3 u4 u5 u6 u7 u8 u9 u10 u11 u12 u13 u14 u15 u16 u17 u18 u19 u20 u21 u22 u23 u24 u25 u26 u27 u28 u29 u30 u31 u32 u33 u34 u35 u36 u37 u38 u39 u40 u41 u42 : Value, a = { tmps := #[u0, u1, u2, u3, u4, u5, u6, u7, u8, u9, u10, u11, u12, u13, u14, u15, u16, u17, u18, u19, u20, u21, u22, u23, u24, u25, u26, u27, u28, u29, u30, u31, u32, u33, u34, u35, u36, u37, u38, u39, u40, u41, u42], defers := [] } ∧ u3 = G a 3 ∧ u4 = G a 4 ∧ u5 = G a 5 ∧ u27 = G a 27 := by
  have e : a = { tmps := #[G a 0, G a 1, G a 2, G a 3, G a 4, G a 5, G a 6, G a 7, G a 8, G a 9, G a 10, G a 11, G a 12, G a 13, G a 14, G a 15, G a 16, G a 17, G a 18, G a 19, G a 20, G a 21, G a 22, G a 23, G a 24, G a 25, G a 26, G a 27, G a 28, G a 29, G a 30, G a 31, G a 32, G a 33, G a 34, G a 35, G a 36, G a 37, G a 38, G a 39, G a 40, G a 41, G a 42], defers := [] } := frame_is hs hd
  exact ⟨_, _, _, _, _, _, _, _, _, _, _, _, _, _, _, _, _, _, _, _, _, _, _, _, _, _, _, _, _, _, _, _, _, _, _, _, _, _, _, _, _, _, _, e, rfl, rfl, rfl, rfl⟩
end Go.Proofs.YtjgonkcfnfgakaaGreatDoor
