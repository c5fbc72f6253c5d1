/- The walk over LogicLaws. -/
import Derived.Test.YtbfalkihkpdieaaQ0
import Derived.Test.YtbfalkihkpdieaaQ1
import Derived.Test.YtbfalkihkpdieaaQ2
namespace Go.Proofs.Ytbfalkihkpdieaa
open Go.RowKit

/-- three values in their blocks, one behind the other; what was there is as it was -/
structure Three (w0 w : World) (n : Nat) (a b c : Array Value) : Prop where
  one : Box w n a
  two : Box w (n + 1) b
  thr : Box w (n + 1 + 1) c
  old : Below n w0 w
theorem Three.step {w0 w w' : World} {n : Nat} {a b c : Array Value} (T : Three w0 w n a b c) (hb : Below w.heap.size w w') : Three w0 w' n a b c :=
  ⟨T.one.keep hb T.one.low, T.two.keep hb T.two.low, T.thr.keep hb T.thr.low, T.old.trans (hb.mono (Nat.le_of_lt T.one.low))⟩
theorem Three.drew {w0 w : World} {n : Nat} {a b c : Array Value} (T : Three w0 w n a b c) : Three w0 w.drew n a b c := T.step (Below.refl _ _).drew
theorem tv_le2 (k : Int) (y : Bool) : tv k y ≤ 2 := by rcases tv_three k y with h | h | h <;> omega
abbrev raw (k : Int) (y : Bool) (c x : Int) (t l : Value) : Array Value := #[.int .i64 k, .bool y, .int .i64 c, .int .i64 x, t, l]
abbrev kids (h : Nat) : Array Value := #[.int .i64 (kd h), .bool (yd h), .int .i64 0, .int .i64 0, .string ⟨#[]⟩, .slice none 0 0]
theorem not_twice (k : Int) (y : Bool) (w : World) :
    Calls Try.prog 6 #[told (2 - tv k y)] w fun e w' => e = .returned (told (tv k y)) ∧ Below w.heap.size w w' := by
  have h := tv_le2 k y
  have := not_told (2 - tv k y) (by omega) w
  rwa [show 2 - (2 - tv k y) = tv k y by omega] at this
theorem region_class {P : Program} (C : World → Prop) {id : Nat} {Q : Exit → Act → World → Prop} {a : Act} {w : World} {l : List Oper} (hm : P.follows .mixedOrders = true) (hB : Region.lexB .any l.toArray = true) (hC : C w.drew)
    (h : ∀ OPS, OPS = l.toArray → wpQuiet P OPS C (fun a' => ∀ w', C w' → Q .normal a' w') l a) : (Code.region id l.toArray true).wp P Q a w :=
  wp_region_quiet (C := C) hm hB hC (by simpa using h _ rfl)
/-- the frame: where the three lie, the four functions -/
structure Base (n : Nat) (a : Act) : Prop where
  size : a.tmps.size = 189
  defs : a.defers = []
  b3 : G a 3 = .pointer (some ⟨n, 0, none⟩)
  b4 : G a 4 = .pointer (some ⟨n + 1, 0, none⟩)
  b5 : G a 5 = .pointer (some ⟨n + 1 + 1, 0, none⟩)
  b7 : G a 7 = .func (.func 7) #[] #[]
  b8 : G a 8 = .func (.func 8) #[] #[]
  b9 : G a 9 = .func (.func 6) #[] #[]
  b10 : G a 10 = .func (.func 9) #[] #[]
theorem Base.lt {n d : Nat} {a : Act} (B : Base n a) (h : d < 189) : d < a.tmps.size := by rw [B.size]; exact h
theorem Base.keep {n d : Nat} {a a' : Act} {v : Value} (B : Base n a) (U : Upd a d v a') (h : 10 < d) : Base n a' :=
  ⟨U.size.trans B.size, U.defs.trans B.defs, (U.rest 3 (by omega)).trans B.b3, (U.rest 4 (by omega)).trans B.b4, (U.rest 5 (by omega)).trans B.b5, (U.rest 7 (by omega)).trans B.b7, (U.rest 8 (by omega)).trans B.b8, (U.rest 9 (by omega)).trans B.b9, (U.rest 10 (by omega)).trans B.b10⟩
theorem Base.of4 {n : Nat} {a : Act} (size : a.tmps.size = 189) (b3 : G a 3 = .pointer (some ⟨n, 0, none⟩)) (b4 : G a 4 = .pointer (some ⟨n + 1, 0, none⟩)) (b5 : G a 5 = .pointer (some ⟨n + 1 + 1, 0, none⟩)) :
    Base n { tmps := (((a.tmps.setIfInBounds 7 (.func (.func 7) #[] #[])).setIfInBounds 8 (.func (.func 8) #[] #[])).setIfInBounds 9 (.func (.func 6) #[] #[])).setIfInBounds 10 (.func (.func 9) #[] #[]), defers := [] } :=
  ⟨by simp [size], rfl, by simpa [G, Array.getD_eq_getD_getElem?] using b3, by simpa [G, Array.getD_eq_getD_getElem?] using b4, by simpa [G, Array.getD_eq_getD_getElem?] using b5, by simp [G, Array.getD_eq_getD_getElem?, size], by simp [G, Array.getD_eq_getD_getElem?, size], by simp [G, Array.getD_eq_getD_getElem?, size], by simp [G, Array.getD_eq_getD_getElem?, size]⟩
theorem Base.start {P : Program} {OPS : Array Oper} {C : World → Prop} {Q : Act → Prop} {l : List Oper} {n : Nat} {a0 : Act} (B : Base n a0) (h : ∀ a, Base n a → wpQuiet P OPS C Q l a) : wpQuiet P OPS C Q l a0 := h _ B

/-- what holds while the three are told anew, by what has come up -/
structure J (w0 : World) (ka : Int) (ya : Bool) (ca xa : Int) (ta la : Value) (kb : Int) (yb : Bool) (cb xb : Int) (tb lb : Value) (kc : Int) (yc : Bool) (cc xc : Int) (tc lc : Value) (l0 l1 l2 l3 l4 l5 l6 l7 l8 l9 l10 l11 : Bool) (a : Act) (w : World) : Prop where
  size : a.tmps.size = 189
  defs : a.defers = []
  b3 : G a 3 = .pointer (some ⟨w0.heap.size, 0, none⟩)
  b4 : G a 4 = .pointer (some ⟨w0.heap.size + 1, 0, none⟩)
  b5 : G a 5 = .pointer (some ⟨w0.heap.size + 1 + 1, 0, none⟩)
  v0 : l0 = true → G a 13 = .agg (raw ka ya ca xa ta la)
  v1 : l1 = true → G a 14 = told (2 - tv ka ya)
  v2 : l2 = true → G a 15 = told (tv ka ya)
  v3 : l3 = true → G a 16 = .agg (raw kb yb cb xb tb lb)
  v4 : l4 = true → G a 17 = told (2 - tv kb yb)
  v5 : l5 = true → G a 18 = told (tv kb yb)
  v6 : l6 = true → G a 19 = .agg (raw kc yc cc xc tc lc)
  v7 : l7 = true → G a 20 = told (2 - tv kc yc)
  v8 : l8 = true → G a 21 = told (tv kc yc)
  oa : l9 = false → Box w (w0.heap.size) (raw ka ya ca xa ta la)
  na : l9 = true → Box w (w0.heap.size) (kids (tv ka ya))
  ob : l10 = false → Box w (w0.heap.size + 1) (raw kb yb cb xb tb lb)
  nb : l10 = true → Box w (w0.heap.size + 1) (kids (tv kb yb))
  oc : l11 = false → Box w (w0.heap.size + 1 + 1) (raw kc yc cc xc tc lc)
  nc : l11 = true → Box w (w0.heap.size + 1 + 1) (kids (tv kc yc))
  old : Below w0.heap.size w0 w

theorem J.at0 {w0 : World} {ka : Int} {ya : Bool} {ca xa : Int} {ta la : Value} {kb : Int} {yb : Bool} {cb xb : Int} {tb lb : Value} {kc : Int} {yc : Bool} {cc xc : Int} {tc lc : Value} {l0 l1 l2 l3 l4 l5 l6 l7 l8 l9 l10 l11 : Bool} {a a' : Act} {w w' : World} (h : J w0 ka ya ca xa ta la kb yb cb xb tb lb kc yc cc xc tc lc l0 l1 l2 l3 l4 l5 l6 l7 l8 l9 l10 l11 a w) (U : Upd a 13 (.agg (raw ka ya ca xa ta la)) a') (hd : a'.defers = a.defers) (hb : Below w.heap.size w w') : J w0 ka ya ca xa ta la kb yb cb xb tb lb kc yc cc xc tc lc true l1 l2 l3 l4 l5 l6 l7 l8 l9 l10 l11 a' w' :=
  { size := U.size.trans h.size, defs := hd.trans h.defs, b3 := (U.rest 3 (by decide)).trans h.b3, b4 := (U.rest 4 (by decide)).trans h.b4, b5 := (U.rest 5 (by decide)).trans h.b5, v0 := fun _ => U.got, v1 := fun z => (U.rest 14 (by decide)).trans (h.v1 z), v2 := fun z => (U.rest 15 (by decide)).trans (h.v2 z), v3 := fun z => (U.rest 16 (by decide)).trans (h.v3 z), v4 := fun z => (U.rest 17 (by decide)).trans (h.v4 z), v5 := fun z => (U.rest 18 (by decide)).trans (h.v5 z), v6 := fun z => (U.rest 19 (by decide)).trans (h.v6 z), v7 := fun z => (U.rest 20 (by decide)).trans (h.v7 z), v8 := fun z => (U.rest 21 (by decide)).trans (h.v8 z), oa := fun z => (h.oa z).keep hb (h.oa z).low, na := fun z => (h.na z).keep hb (h.na z).low, ob := fun z => (h.ob z).keep hb (h.ob z).low, nb := fun z => (h.nb z).keep hb (h.nb z).low, oc := fun z => (h.oc z).keep hb (h.oc z).low, nc := fun z => (h.nc z).keep hb (h.nc z).low, old := h.old.trans (hb.mono h.old.size) }
theorem J.at1 {w0 : World} {ka : Int} {ya : Bool} {ca xa : Int} {ta la : Value} {kb : Int} {yb : Bool} {cb xb : Int} {tb lb : Value} {kc : Int} {yc : Bool} {cc xc : Int} {tc lc : Value} {l0 l1 l2 l3 l4 l5 l6 l7 l8 l9 l10 l11 : Bool} {a a' : Act} {w w' : World} (h : J w0 ka ya ca xa ta la kb yb cb xb tb lb kc yc cc xc tc lc l0 l1 l2 l3 l4 l5 l6 l7 l8 l9 l10 l11 a w) (U : Upd a 14 (told (2 - tv ka ya)) a') (hd : a'.defers = a.defers) (hb : Below w.heap.size w w') : J w0 ka ya ca xa ta la kb yb cb xb tb lb kc yc cc xc tc lc l0 true l2 l3 l4 l5 l6 l7 l8 l9 l10 l11 a' w' :=
  { size := U.size.trans h.size, defs := hd.trans h.defs, b3 := (U.rest 3 (by decide)).trans h.b3, b4 := (U.rest 4 (by decide)).trans h.b4, b5 := (U.rest 5 (by decide)).trans h.b5, v0 := fun z => (U.rest 13 (by decide)).trans (h.v0 z), v1 := fun _ => U.got, v2 := fun z => (U.rest 15 (by decide)).trans (h.v2 z), v3 := fun z => (U.rest 16 (by decide)).trans (h.v3 z), v4 := fun z => (U.rest 17 (by decide)).trans (h.v4 z), v5 := fun z => (U.rest 18 (by decide)).trans (h.v5 z), v6 := fun z => (U.rest 19 (by decide)).trans (h.v6 z), v7 := fun z => (U.rest 20 (by decide)).trans (h.v7 z), v8 := fun z => (U.rest 21 (by decide)).trans (h.v8 z), oa := fun z => (h.oa z).keep hb (h.oa z).low, na := fun z => (h.na z).keep hb (h.na z).low, ob := fun z => (h.ob z).keep hb (h.ob z).low, nb := fun z => (h.nb z).keep hb (h.nb z).low, oc := fun z => (h.oc z).keep hb (h.oc z).low, nc := fun z => (h.nc z).keep hb (h.nc z).low, old := h.old.trans (hb.mono h.old.size) }
theorem J.at2 {w0 : World} {ka : Int} {ya : Bool} {ca xa : Int} {ta la : Value} {kb : Int} {yb : Bool} {cb xb : Int} {tb lb : Value} {kc : Int} {yc : Bool} {cc xc : Int} {tc lc : Value} {l0 l1 l2 l3 l4 l5 l6 l7 l8 l9 l10 l11 : Bool} {a a' : Act} {w w' : World} (h : J w0 ka ya ca xa ta la kb yb cb xb tb lb kc yc cc xc tc lc l0 l1 l2 l3 l4 l5 l6 l7 l8 l9 l10 l11 a w) (U : Upd a 15 (told (tv ka ya)) a') (hd : a'.defers = a.defers) (hb : Below w.heap.size w w') : J w0 ka ya ca xa ta la kb yb cb xb tb lb kc yc cc xc tc lc l0 l1 true l3 l4 l5 l6 l7 l8 l9 l10 l11 a' w' :=
  { size := U.size.trans h.size, defs := hd.trans h.defs, b3 := (U.rest 3 (by decide)).trans h.b3, b4 := (U.rest 4 (by decide)).trans h.b4, b5 := (U.rest 5 (by decide)).trans h.b5, v0 := fun z => (U.rest 13 (by decide)).trans (h.v0 z), v1 := fun z => (U.rest 14 (by decide)).trans (h.v1 z), v2 := fun _ => U.got, v3 := fun z => (U.rest 16 (by decide)).trans (h.v3 z), v4 := fun z => (U.rest 17 (by decide)).trans (h.v4 z), v5 := fun z => (U.rest 18 (by decide)).trans (h.v5 z), v6 := fun z => (U.rest 19 (by decide)).trans (h.v6 z), v7 := fun z => (U.rest 20 (by decide)).trans (h.v7 z), v8 := fun z => (U.rest 21 (by decide)).trans (h.v8 z), oa := fun z => (h.oa z).keep hb (h.oa z).low, na := fun z => (h.na z).keep hb (h.na z).low, ob := fun z => (h.ob z).keep hb (h.ob z).low, nb := fun z => (h.nb z).keep hb (h.nb z).low, oc := fun z => (h.oc z).keep hb (h.oc z).low, nc := fun z => (h.nc z).keep hb (h.nc z).low, old := h.old.trans (hb.mono h.old.size) }
theorem J.at3 {w0 : World} {ka : Int} {ya : Bool} {ca xa : Int} {ta la : Value} {kb : Int} {yb : Bool} {cb xb : Int} {tb lb : Value} {kc : Int} {yc : Bool} {cc xc : Int} {tc lc : Value} {l0 l1 l2 l3 l4 l5 l6 l7 l8 l9 l10 l11 : Bool} {a a' : Act} {w w' : World} (h : J w0 ka ya ca xa ta la kb yb cb xb tb lb kc yc cc xc tc lc l0 l1 l2 l3 l4 l5 l6 l7 l8 l9 l10 l11 a w) (U : Upd a 16 (.agg (raw kb yb cb xb tb lb)) a') (hd : a'.defers = a.defers) (hb : Below w.heap.size w w') : J w0 ka ya ca xa ta la kb yb cb xb tb lb kc yc cc xc tc lc l0 l1 l2 true l4 l5 l6 l7 l8 l9 l10 l11 a' w' :=
  { size := U.size.trans h.size, defs := hd.trans h.defs, b3 := (U.rest 3 (by decide)).trans h.b3, b4 := (U.rest 4 (by decide)).trans h.b4, b5 := (U.rest 5 (by decide)).trans h.b5, v0 := fun z => (U.rest 13 (by decide)).trans (h.v0 z), v1 := fun z => (U.rest 14 (by decide)).trans (h.v1 z), v2 := fun z => (U.rest 15 (by decide)).trans (h.v2 z), v3 := fun _ => U.got, v4 := fun z => (U.rest 17 (by decide)).trans (h.v4 z), v5 := fun z => (U.rest 18 (by decide)).trans (h.v5 z), v6 := fun z => (U.rest 19 (by decide)).trans (h.v6 z), v7 := fun z => (U.rest 20 (by decide)).trans (h.v7 z), v8 := fun z => (U.rest 21 (by decide)).trans (h.v8 z), oa := fun z => (h.oa z).keep hb (h.oa z).low, na := fun z => (h.na z).keep hb (h.na z).low, ob := fun z => (h.ob z).keep hb (h.ob z).low, nb := fun z => (h.nb z).keep hb (h.nb z).low, oc := fun z => (h.oc z).keep hb (h.oc z).low, nc := fun z => (h.nc z).keep hb (h.nc z).low, old := h.old.trans (hb.mono h.old.size) }
theorem J.at4 {w0 : World} {ka : Int} {ya : Bool} {ca xa : Int} {ta la : Value} {kb : Int} {yb : Bool} {cb xb : Int} {tb lb : Value} {kc : Int} {yc : Bool} {cc xc : Int} {tc lc : Value} {l0 l1 l2 l3 l4 l5 l6 l7 l8 l9 l10 l11 : Bool} {a a' : Act} {w w' : World} (h : J w0 ka ya ca xa ta la kb yb cb xb tb lb kc yc cc xc tc lc l0 l1 l2 l3 l4 l5 l6 l7 l8 l9 l10 l11 a w) (U : Upd a 17 (told (2 - tv kb yb)) a') (hd : a'.defers = a.defers) (hb : Below w.heap.size w w') : J w0 ka ya ca xa ta la kb yb cb xb tb lb kc yc cc xc tc lc l0 l1 l2 l3 true l5 l6 l7 l8 l9 l10 l11 a' w' :=
  { size := U.size.trans h.size, defs := hd.trans h.defs, b3 := (U.rest 3 (by decide)).trans h.b3, b4 := (U.rest 4 (by decide)).trans h.b4, b5 := (U.rest 5 (by decide)).trans h.b5, v0 := fun z => (U.rest 13 (by decide)).trans (h.v0 z), v1 := fun z => (U.rest 14 (by decide)).trans (h.v1 z), v2 := fun z => (U.rest 15 (by decide)).trans (h.v2 z), v3 := fun z => (U.rest 16 (by decide)).trans (h.v3 z), v4 := fun _ => U.got, v5 := fun z => (U.rest 18 (by decide)).trans (h.v5 z), v6 := fun z => (U.rest 19 (by decide)).trans (h.v6 z), v7 := fun z => (U.rest 20 (by decide)).trans (h.v7 z), v8 := fun z => (U.rest 21 (by decide)).trans (h.v8 z), oa := fun z => (h.oa z).keep hb (h.oa z).low, na := fun z => (h.na z).keep hb (h.na z).low, ob := fun z => (h.ob z).keep hb (h.ob z).low, nb := fun z => (h.nb z).keep hb (h.nb z).low, oc := fun z => (h.oc z).keep hb (h.oc z).low, nc := fun z => (h.nc z).keep hb (h.nc z).low, old := h.old.trans (hb.mono h.old.size) }
theorem J.at5 {w0 : World} {ka : Int} {ya : Bool} {ca xa : Int} {ta la : Value} {kb : Int} {yb : Bool} {cb xb : Int} {tb lb : Value} {kc : Int} {yc : Bool} {cc xc : Int} {tc lc : Value} {l0 l1 l2 l3 l4 l5 l6 l7 l8 l9 l10 l11 : Bool} {a a' : Act} {w w' : World} (h : J w0 ka ya ca xa ta la kb yb cb xb tb lb kc yc cc xc tc lc l0 l1 l2 l3 l4 l5 l6 l7 l8 l9 l10 l11 a w) (U : Upd a 18 (told (tv kb yb)) a') (hd : a'.defers = a.defers) (hb : Below w.heap.size w w') : J w0 ka ya ca xa ta la kb yb cb xb tb lb kc yc cc xc tc lc l0 l1 l2 l3 l4 true l6 l7 l8 l9 l10 l11 a' w' :=
  { size := U.size.trans h.size, defs := hd.trans h.defs, b3 := (U.rest 3 (by decide)).trans h.b3, b4 := (U.rest 4 (by decide)).trans h.b4, b5 := (U.rest 5 (by decide)).trans h.b5, v0 := fun z => (U.rest 13 (by decide)).trans (h.v0 z), v1 := fun z => (U.rest 14 (by decide)).trans (h.v1 z), v2 := fun z => (U.rest 15 (by decide)).trans (h.v2 z), v3 := fun z => (U.rest 16 (by decide)).trans (h.v3 z), v4 := fun z => (U.rest 17 (by decide)).trans (h.v4 z), v5 := fun _ => U.got, v6 := fun z => (U.rest 19 (by decide)).trans (h.v6 z), v7 := fun z => (U.rest 20 (by decide)).trans (h.v7 z), v8 := fun z => (U.rest 21 (by decide)).trans (h.v8 z), oa := fun z => (h.oa z).keep hb (h.oa z).low, na := fun z => (h.na z).keep hb (h.na z).low, ob := fun z => (h.ob z).keep hb (h.ob z).low, nb := fun z => (h.nb z).keep hb (h.nb z).low, oc := fun z => (h.oc z).keep hb (h.oc z).low, nc := fun z => (h.nc z).keep hb (h.nc z).low, old := h.old.trans (hb.mono h.old.size) }
theorem J.at6 {w0 : World} {ka : Int} {ya : Bool} {ca xa : Int} {ta la : Value} {kb : Int} {yb : Bool} {cb xb : Int} {tb lb : Value} {kc : Int} {yc : Bool} {cc xc : Int} {tc lc : Value} {l0 l1 l2 l3 l4 l5 l6 l7 l8 l9 l10 l11 : Bool} {a a' : Act} {w w' : World} (h : J w0 ka ya ca xa ta la kb yb cb xb tb lb kc yc cc xc tc lc l0 l1 l2 l3 l4 l5 l6 l7 l8 l9 l10 l11 a w) (U : Upd a 19 (.agg (raw kc yc cc xc tc lc)) a') (hd : a'.defers = a.defers) (hb : Below w.heap.size w w') : J w0 ka ya ca xa ta la kb yb cb xb tb lb kc yc cc xc tc lc l0 l1 l2 l3 l4 l5 true l7 l8 l9 l10 l11 a' w' :=
  { size := U.size.trans h.size, defs := hd.trans h.defs, b3 := (U.rest 3 (by decide)).trans h.b3, b4 := (U.rest 4 (by decide)).trans h.b4, b5 := (U.rest 5 (by decide)).trans h.b5, v0 := fun z => (U.rest 13 (by decide)).trans (h.v0 z), v1 := fun z => (U.rest 14 (by decide)).trans (h.v1 z), v2 := fun z => (U.rest 15 (by decide)).trans (h.v2 z), v3 := fun z => (U.rest 16 (by decide)).trans (h.v3 z), v4 := fun z => (U.rest 17 (by decide)).trans (h.v4 z), v5 := fun z => (U.rest 18 (by decide)).trans (h.v5 z), v6 := fun _ => U.got, v7 := fun z => (U.rest 20 (by decide)).trans (h.v7 z), v8 := fun z => (U.rest 21 (by decide)).trans (h.v8 z), oa := fun z => (h.oa z).keep hb (h.oa z).low, na := fun z => (h.na z).keep hb (h.na z).low, ob := fun z => (h.ob z).keep hb (h.ob z).low, nb := fun z => (h.nb z).keep hb (h.nb z).low, oc := fun z => (h.oc z).keep hb (h.oc z).low, nc := fun z => (h.nc z).keep hb (h.nc z).low, old := h.old.trans (hb.mono h.old.size) }
theorem J.at7 {w0 : World} {ka : Int} {ya : Bool} {ca xa : Int} {ta la : Value} {kb : Int} {yb : Bool} {cb xb : Int} {tb lb : Value} {kc : Int} {yc : Bool} {cc xc : Int} {tc lc : Value} {l0 l1 l2 l3 l4 l5 l6 l7 l8 l9 l10 l11 : Bool} {a a' : Act} {w w' : World} (h : J w0 ka ya ca xa ta la kb yb cb xb tb lb kc yc cc xc tc lc l0 l1 l2 l3 l4 l5 l6 l7 l8 l9 l10 l11 a w) (U : Upd a 20 (told (2 - tv kc yc)) a') (hd : a'.defers = a.defers) (hb : Below w.heap.size w w') : J w0 ka ya ca xa ta la kb yb cb xb tb lb kc yc cc xc tc lc l0 l1 l2 l3 l4 l5 l6 true l8 l9 l10 l11 a' w' :=
  { size := U.size.trans h.size, defs := hd.trans h.defs, b3 := (U.rest 3 (by decide)).trans h.b3, b4 := (U.rest 4 (by decide)).trans h.b4, b5 := (U.rest 5 (by decide)).trans h.b5, v0 := fun z => (U.rest 13 (by decide)).trans (h.v0 z), v1 := fun z => (U.rest 14 (by decide)).trans (h.v1 z), v2 := fun z => (U.rest 15 (by decide)).trans (h.v2 z), v3 := fun z => (U.rest 16 (by decide)).trans (h.v3 z), v4 := fun z => (U.rest 17 (by decide)).trans (h.v4 z), v5 := fun z => (U.rest 18 (by decide)).trans (h.v5 z), v6 := fun z => (U.rest 19 (by decide)).trans (h.v6 z), v7 := fun _ => U.got, v8 := fun z => (U.rest 21 (by decide)).trans (h.v8 z), oa := fun z => (h.oa z).keep hb (h.oa z).low, na := fun z => (h.na z).keep hb (h.na z).low, ob := fun z => (h.ob z).keep hb (h.ob z).low, nb := fun z => (h.nb z).keep hb (h.nb z).low, oc := fun z => (h.oc z).keep hb (h.oc z).low, nc := fun z => (h.nc z).keep hb (h.nc z).low, old := h.old.trans (hb.mono h.old.size) }
theorem J.at8 {w0 : World} {ka : Int} {ya : Bool} {ca xa : Int} {ta la : Value} {kb : Int} {yb : Bool} {cb xb : Int} {tb lb : Value} {kc : Int} {yc : Bool} {cc xc : Int} {tc lc : Value} {l0 l1 l2 l3 l4 l5 l6 l7 l8 l9 l10 l11 : Bool} {a a' : Act} {w w' : World} (h : J w0 ka ya ca xa ta la kb yb cb xb tb lb kc yc cc xc tc lc l0 l1 l2 l3 l4 l5 l6 l7 l8 l9 l10 l11 a w) (U : Upd a 21 (told (tv kc yc)) a') (hd : a'.defers = a.defers) (hb : Below w.heap.size w w') : J w0 ka ya ca xa ta la kb yb cb xb tb lb kc yc cc xc tc lc l0 l1 l2 l3 l4 l5 l6 l7 true l9 l10 l11 a' w' :=
  { size := U.size.trans h.size, defs := hd.trans h.defs, b3 := (U.rest 3 (by decide)).trans h.b3, b4 := (U.rest 4 (by decide)).trans h.b4, b5 := (U.rest 5 (by decide)).trans h.b5, v0 := fun z => (U.rest 13 (by decide)).trans (h.v0 z), v1 := fun z => (U.rest 14 (by decide)).trans (h.v1 z), v2 := fun z => (U.rest 15 (by decide)).trans (h.v2 z), v3 := fun z => (U.rest 16 (by decide)).trans (h.v3 z), v4 := fun z => (U.rest 17 (by decide)).trans (h.v4 z), v5 := fun z => (U.rest 18 (by decide)).trans (h.v5 z), v6 := fun z => (U.rest 19 (by decide)).trans (h.v6 z), v7 := fun z => (U.rest 20 (by decide)).trans (h.v7 z), v8 := fun _ => U.got, oa := fun z => (h.oa z).keep hb (h.oa z).low, na := fun z => (h.na z).keep hb (h.na z).low, ob := fun z => (h.ob z).keep hb (h.ob z).low, nb := fun z => (h.nb z).keep hb (h.nb z).low, oc := fun z => (h.oc z).keep hb (h.oc z).low, nc := fun z => (h.nc z).keep hb (h.nc z).low, old := h.old.trans (hb.mono h.old.size) }
theorem J.at9 {w0 : World} {ka : Int} {ya : Bool} {ca xa : Int} {ta la : Value} {kb : Int} {yb : Bool} {cb xb : Int} {tb lb : Value} {kc : Int} {yc : Bool} {cc xc : Int} {tc lc : Value} {l0 l1 l2 l3 l4 l5 l6 l7 l8 l9 l10 l11 : Bool} {a : Act} {w : World} (h : J w0 ka ya ca xa ta la kb yb cb xb tb lb kc yc cc xc tc lc l0 l1 l2 l3 l4 l5 l6 l7 l8 l9 l10 l11 a w) (hn : l9 = false) : J w0 ka ya ca xa ta la kb yb cb xb tb lb kc yc cc xc tc lc l0 l1 l2 l3 l4 l5 l6 l7 l8 true l10 l11 a (put6 w (w0.heap.size) (.int .i64 (kd (tv ka ya))) (.bool (yd (tv ka ya))) (.int .i64 0) (.int .i64 0) (.string ⟨#[]⟩) (.slice none 0 0)) :=
  { size := h.size, defs := h.defs, b3 := h.b3, b4 := h.b4, b5 := h.b5, v0 := h.v0, v1 := h.v1, v2 := h.v2, v3 := h.v3, v4 := h.v4, v5 := h.v5, v6 := h.v6, v7 := h.v7, v8 := h.v8, oa := fun z => (by cases z), na := fun _ => (h.oa hn).put _ _ _ _ _ _, ob := fun z => (h.ob z).aside6 (by omega), nb := fun z => (h.nb z).aside6 (by omega), oc := fun z => (h.oc z).aside6 (by omega), nc := fun z => (h.nc z).aside6 (by omega), old := below_put6 h.old (by omega) }
theorem J.at10 {w0 : World} {ka : Int} {ya : Bool} {ca xa : Int} {ta la : Value} {kb : Int} {yb : Bool} {cb xb : Int} {tb lb : Value} {kc : Int} {yc : Bool} {cc xc : Int} {tc lc : Value} {l0 l1 l2 l3 l4 l5 l6 l7 l8 l9 l10 l11 : Bool} {a : Act} {w : World} (h : J w0 ka ya ca xa ta la kb yb cb xb tb lb kc yc cc xc tc lc l0 l1 l2 l3 l4 l5 l6 l7 l8 l9 l10 l11 a w) (hn : l10 = false) : J w0 ka ya ca xa ta la kb yb cb xb tb lb kc yc cc xc tc lc l0 l1 l2 l3 l4 l5 l6 l7 l8 l9 true l11 a (put6 w (w0.heap.size + 1) (.int .i64 (kd (tv kb yb))) (.bool (yd (tv kb yb))) (.int .i64 0) (.int .i64 0) (.string ⟨#[]⟩) (.slice none 0 0)) :=
  { size := h.size, defs := h.defs, b3 := h.b3, b4 := h.b4, b5 := h.b5, v0 := h.v0, v1 := h.v1, v2 := h.v2, v3 := h.v3, v4 := h.v4, v5 := h.v5, v6 := h.v6, v7 := h.v7, v8 := h.v8, oa := fun z => (h.oa z).aside6 (by omega), na := fun z => (h.na z).aside6 (by omega), ob := fun z => (by cases z), nb := fun _ => (h.ob hn).put _ _ _ _ _ _, oc := fun z => (h.oc z).aside6 (by omega), nc := fun z => (h.nc z).aside6 (by omega), old := below_put6 h.old (by omega) }
theorem J.at11 {w0 : World} {ka : Int} {ya : Bool} {ca xa : Int} {ta la : Value} {kb : Int} {yb : Bool} {cb xb : Int} {tb lb : Value} {kc : Int} {yc : Bool} {cc xc : Int} {tc lc : Value} {l0 l1 l2 l3 l4 l5 l6 l7 l8 l9 l10 l11 : Bool} {a : Act} {w : World} (h : J w0 ka ya ca xa ta la kb yb cb xb tb lb kc yc cc xc tc lc l0 l1 l2 l3 l4 l5 l6 l7 l8 l9 l10 l11 a w) (hn : l11 = false) : J w0 ka ya ca xa ta la kb yb cb xb tb lb kc yc cc xc tc lc l0 l1 l2 l3 l4 l5 l6 l7 l8 l9 l10 true a (put6 w (w0.heap.size + 1 + 1) (.int .i64 (kd (tv kc yc))) (.bool (yd (tv kc yc))) (.int .i64 0) (.int .i64 0) (.string ⟨#[]⟩) (.slice none 0 0)) :=
  { size := h.size, defs := h.defs, b3 := h.b3, b4 := h.b4, b5 := h.b5, v0 := h.v0, v1 := h.v1, v2 := h.v2, v3 := h.v3, v4 := h.v4, v5 := h.v5, v6 := h.v6, v7 := h.v7, v8 := h.v8, oa := fun z => (h.oa z).aside6 (by omega), na := fun z => (h.na z).aside6 (by omega), ob := fun z => (h.ob z).aside6 (by omega), nb := fun z => (h.nb z).aside6 (by omega), oc := fun z => (by cases z), nc := fun _ => (h.oc hn).put _ _ _ _ _ _, old := below_put6 h.old (by omega) }

set_option maxRecDepth 20000 in
set_option maxHeartbeats 8000000 in
theorem laws_any (ka : Int) (ya : Bool) (ca xa : Int) (ta la : Value) (kb : Int) (yb : Bool) (cb xb : Int) (tb lb : Value) (kc : Int) (yc : Bool) (cc xc : Int) (tc lc : Value) (w : World) :
    Calls Try.prog 3 #[.agg (raw ka ya ca xa ta la), .agg (raw kb yb cb xb tb lb), .agg (raw kc yc cc xc tc lc)] w fun e w' => e = .returned (.bool true) ∧ Below w.heap.size w w' := by
  go_enter Try.func3, Try.ntmps3
  go_wp2_with fail
  refine (alive_any _).mono ?_
  rintro e w0 ⟨rfl, hb⟩
  obtain ⟨A, B, C, hw⟩ := box3 hb
  clear hb
  go_wp2_with fail
  refine region_any (I := fun L a w' => J w ka ya ca xa ta la kb yb cb xb tb lb kc yc cc xc tc lc (L 0) (L 1) (L 2) (L 3) (L 4) (L 5) (L 6) (L 7) (L 8) (L 9) (L 10) (L 11) a w') (by kernel_rfl) ?wait ?step ?done ?start
  case wait => exact ⟨by simp, by simp, by simp, by simp, by simp, by simp, by simp, by simp, by simp, by simp, by simp, by simp, trivial⟩
  case start => exact ⟨rfl, rfl, rfl, rfl, rfl, fun z => (by cases z), fun z => (by cases z), fun z => (by cases z), fun z => (by cases z), fun z => (by cases z), fun z => (by cases z), fun z => (by cases z), fun z => (by cases z), fun z => (by cases z), fun _ => A.keep (Below.refl _ _).drew A.low, fun z => (by cases z), fun _ => B.keep (Below.refl _ _).drew B.low, fun z => (by cases z), fun _ => C.keep (Below.refl _ _).drew C.low, fun z => (by cases z), hw.drew⟩
  case step =>
    clear A B C hw
    refine ⟨?_, ?_, ?_, ?_, ?_, ?_, ?_, ?_, ?_, ?_, ?_, ?_, trivial⟩
    · intro L a w1 hJ hcl hL hw
      have h9 : L 9 = false := by
        cases e : L 9 with
        | false => rfl
        | true =>
          have := hcl 9 _ rfl e ⟨0, .phase⟩ (by simp) rfl
          simp only [] at this
          rw [hL] at this
          cases this
      refine o_load rfl (by rw [hJ.size]; decide) hJ.b3 (hJ.oa h9) ?_
      intro a' U hd
      exact hJ.at0 U hd (Below.refl _ _)
    · intro L a w1 hJ hcl hL hw
      refine o_call1 (R := fun w' => Below w1.heap.size w1 w') rfl (by rw [hJ.size]; decide) (hJ.v0 (hw ⟨0, .data⟩ (by simp) rfl)) callNot (not_any ka ya ca xa ta la w1) ?_
      intro a' w' hb U hd
      exact hJ.at1 U hd hb
    · intro L a w1 hJ hcl hL hw
      refine o_call1 (R := fun w' => Below w1.heap.size w1 w') rfl (by rw [hJ.size]; decide) (hJ.v1 (hw ⟨1, .data⟩ (by simp) rfl)) callNot (not_twice ka ya w1) ?_
      intro a' w' hb U hd
      exact hJ.at2 U hd hb
    · intro L a w1 hJ hcl hL hw
      have h9 : L 10 = false := by
        cases e : L 10 with
        | false => rfl
        | true =>
          have := hcl 10 _ rfl e ⟨3, .phase⟩ (by simp) rfl
          simp only [] at this
          rw [hL] at this
          cases this
      refine o_load rfl (by rw [hJ.size]; decide) hJ.b4 (hJ.ob h9) ?_
      intro a' U hd
      exact hJ.at3 U hd (Below.refl _ _)
    · intro L a w1 hJ hcl hL hw
      refine o_call1 (R := fun w' => Below w1.heap.size w1 w') rfl (by rw [hJ.size]; decide) (hJ.v3 (hw ⟨3, .data⟩ (by simp) rfl)) callNot (not_any kb yb cb xb tb lb w1) ?_
      intro a' w' hb U hd
      exact hJ.at4 U hd hb
    · intro L a w1 hJ hcl hL hw
      refine o_call1 (R := fun w' => Below w1.heap.size w1 w') rfl (by rw [hJ.size]; decide) (hJ.v4 (hw ⟨4, .data⟩ (by simp) rfl)) callNot (not_twice kb yb w1) ?_
      intro a' w' hb U hd
      exact hJ.at5 U hd hb
    · intro L a w1 hJ hcl hL hw
      have h9 : L 11 = false := by
        cases e : L 11 with
        | false => rfl
        | true =>
          have := hcl 11 _ rfl e ⟨6, .phase⟩ (by simp) rfl
          simp only [] at this
          rw [hL] at this
          cases this
      refine o_load rfl (by rw [hJ.size]; decide) hJ.b5 (hJ.oc h9) ?_
      intro a' U hd
      exact hJ.at6 U hd (Below.refl _ _)
    · intro L a w1 hJ hcl hL hw
      refine o_call1 (R := fun w' => Below w1.heap.size w1 w') rfl (by rw [hJ.size]; decide) (hJ.v6 (hw ⟨6, .data⟩ (by simp) rfl)) callNot (not_any kc yc cc xc tc lc w1) ?_
      intro a' w' hb U hd
      exact hJ.at7 U hd hb
    · intro L a w1 hJ hcl hL hw
      refine o_call1 (R := fun w' => Below w1.heap.size w1 w') rfl (by rw [hJ.size]; decide) (hJ.v7 (hw ⟨7, .data⟩ (by simp) rfl)) callNot (not_twice kc yc w1) ?_
      intro a' w' hb U hd
      exact hJ.at8 U hd hb
    · intro L a w1 hJ hcl hL hw
      refine o_store rfl hJ.b3 (hJ.v2 (hw ⟨2, .data⟩ (by simp) rfl)) (hJ.oa hL) ?_
      exact hJ.at9 hL
    · intro L a w1 hJ hcl hL hw
      refine o_store rfl hJ.b4 (hJ.v5 (hw ⟨5, .data⟩ (by simp) rfl)) (hJ.ob hL) ?_
      exact hJ.at10 hL
    · intro L a w1 hJ hcl hL hw
      refine o_store rfl hJ.b5 (hJ.v8 (hw ⟨8, .data⟩ (by simp) rfl)) (hJ.oc hL) ?_
      exact hJ.at11 hL
  case done =>
    intro L a w1 hJ hall
    have T : Three w w1 w.heap.size (kids (tv ka ya)) (kids (tv kb yb)) (kids (tv kc yc)) := ⟨hJ.na (hall 9 (by simp)), hJ.nb (hall 10 (by simp)), hJ.nc (hall 11 (by simp)), hJ.old⟩
    have F := And.intro hJ.size (And.intro hJ.defs (And.intro hJ.b3 (And.intro hJ.b4 hJ.b5)))
    clear hJ hall A B C hw
    have P1 := tv_le2 ka ya
    have P2 := tv_le2 kb yb
    have P3 := tv_le2 kc yc
    generalize tv ka ya = p at *
    generalize tv kb yb = q at *
    generalize tv kc yc = r at *
    obtain ⟨size, defs, b3, b4, b5⟩ := F
    go_wp2_with fail
    simp only [List.append_eq, List.cons_append, List.nil_append]
    refine region_class (fun w' => Three w w' w.heap.size (kids p) (kids q) (kids r)) (by kernel_rfl) (lexB_of (T := [(some 22, [10], []), (some 23, [7], []), (some 24, [3], []), (some 25, [4], []), (some 26, [23, 24, 25], [1, 2, 3]), (some 27, [7], []), (some 28, [4], []), (some 29, [3], []), (some 30, [27, 28, 29], [5, 6, 7, 4]), (some 31, [22, 26, 30], [0, 4, 8, 8]), (some 32, [31], [9, 9]), (some 33, [10, 32], [10]), (some 34, [8, 32], [10]), (some 35, [3, 32], [10]), (some 36, [4, 32], [10]), (some 37, [34, 35, 36, 32], [12, 13, 14, 10, 10]), (some 38, [8, 32], [10]), (some 39, [4, 32], [10]), (some 40, [3, 32], [10]), (some 41, [38, 39, 40, 32], [16, 17, 18, 15, 10]), (some 42, [33, 37, 41, 32], [11, 15, 19, 19, 10]), (some 43, [32, 42], [10, 20]), (some 44, [43], [21, 20]), (some 45, [10, 44], [22]), (some 46, [7, 44], [22]), (some 47, [7, 44], [22]), (some 48, [3, 44], [22]), (some 49, [4, 44], [22]), (some 50, [47, 48, 49, 44], [25, 26, 27, 22, 22]), (some 51, [5, 44], [22]), (some 52, [46, 50, 51, 44], [24, 28, 29, 28, 22]), (some 53, [7, 44], [22]), (some 54, [3, 44], [22]), (some 55, [7, 44], [22]), (some 56, [4, 44], [22]), (some 57, [5, 44], [22]), (some 58, [55, 56, 57, 44], [33, 34, 35, 30, 22]), (some 59, [53, 54, 58, 44], [31, 32, 36, 36, 22]), (some 60, [45, 52, 59, 44], [23, 30, 37, 37, 22]), (some 61, [44, 60], [22, 38]), (some 62, [61], [39, 38]), (some 63, [10, 62], [40]), (some 64, [8, 62], [40]), (some 65, [8, 62], [40]), (some 66, [3, 62], [40]), (some 67, [4, 62], [40]), (some 68, [65, 66, 67, 62], [43, 44, 45, 40, 40]), (some 69, [5, 62], [40]), (some 70, [64, 68, 69, 62], [42, 46, 47, 46, 40]), (some 71, [8, 62], [40]), (some 72, [3, 62], [40]), (some 73, [8, 62], [40]), (some 74, [4, 62], [40]), (some 75, [5, 62], [40]), (some 76, [73, 74, 75, 62], [51, 52, 53, 48, 40]), (some 77, [71, 72, 76, 62], [49, 50, 54, 54, 40]), (some 78, [63, 70, 77, 62], [41, 48, 55, 55, 40]), (some 79, [62, 78], [40, 56]), (some 80, [79], [57, 56]), (some 81, [10, 80], [58]), (some 82, [7, 80], [58]), (some 83, [3, 80], [58]), (some 84, [8, 80], [58]), (some 85, [4, 80], [58]), (some 86, [5, 80], [58]), (some 87, [84, 85, 86, 80], [62, 63, 64, 58, 58]), (some 88, [82, 83, 87, 80], [60, 61, 65, 65, 58]), (some 89, [8, 80], [58]), (some 90, [7, 80], [58]), (some 91, [3, 80], [58]), (some 92, [4, 80], [58]), (some 93, [90, 91, 92, 80], [68, 69, 70, 66, 58]), (some 94, [7, 80], [58]), (some 95, [3, 80], [58]), (some 96, [5, 80], [58]), (some 97, [94, 95, 96, 80], [72, 73, 74, 71, 58]), (some 98, [89, 93, 97, 80], [67, 71, 75, 75, 58]), (some 99, [81, 88, 98, 80], [59, 66, 76, 76, 58]), (some 100, [80, 99], [58, 77]), (some 101, [100], [78, 77]), (some 102, [10, 101], [79]), (some 103, [8, 101], [79]), (some 104, [3, 101], [79]), (some 105, [7, 101], [79]), (some 106, [4, 101], [79]), (some 107, [5, 101], [79]), (some 108, [105, 106, 107, 101], [83, 84, 85, 79, 79]), (some 109, [103, 104, 108, 101], [81, 82, 86, 86, 79]), (some 110, [7, 101], [79]), (some 111, [8, 101], [79]), (some 112, [3, 101], [79]), (some 113, [4, 101], [79]), (some 114, [111, 112, 113, 101], [89, 90, 91, 87, 79]), (some 115, [8, 101], [79]), (some 116, [3, 101], [79]), (some 117, [5, 101], [79]), (some 118, [115, 116, 117, 101], [93, 94, 95, 92, 79]), (some 119, [110, 114, 118, 101], [88, 92, 96, 96, 79]), (some 120, [102, 109, 119, 101], [80, 87, 97, 97, 79]), (some 121, [101, 120], [79, 98]), (some 122, [121], [99, 98]), (some 123, [10, 122], [100]), (some 124, [9, 122], [100]), (some 125, [7, 122], [100]), (some 126, [3, 122], [100]), (some 127, [4, 122], [100]), (some 128, [125, 126, 127, 122], [103, 104, 105, 100, 100]), (some 129, [124, 128, 122], [102, 106, 106, 100]), (some 130, [8, 122], [100]), (some 131, [9, 122], [100]), (some 132, [3, 122], [100]), (some 133, [131, 132, 122], [109, 110, 107, 100]), (some 134, [9, 122], [100]), (some 135, [4, 122], [100]), (some 136, [134, 135, 122], [112, 113, 111, 100]), (some 137, [130, 133, 136, 122], [108, 111, 114, 114, 100]), (some 138, [123, 129, 137, 122], [101, 107, 115, 115, 100]), (some 139, [122, 138], [100, 116]), (some 140, [139], [117, 116]), (some 141, [10, 140], [118]), (some 142, [9, 140], [118]), (some 143, [8, 140], [118]), (some 144, [3, 140], [118]), (some 145, [4, 140], [118]), (some 146, [143, 144, 145, 140], [121, 122, 123, 118, 118]), (some 147, [142, 146, 140], [120, 124, 124, 118]), (some 148, [7, 140], [118]), (some 149, [9, 140], [118]), (some 150, [3, 140], [118]), (some 151, [149, 150, 140], [127, 128, 125, 118]), (some 152, [9, 140], [118]), (some 153, [4, 140], [118]), (some 154, [152, 153, 140], [130, 131, 129, 118]), (some 155, [148, 151, 154, 140], [126, 129, 132, 132, 118]), (some 156, [141, 147, 155, 140], [119, 125, 133, 133, 118]), (some 157, [140, 156], [118, 134]), (some 158, [157], [135, 134]), (some 159, [10, 158], [136]), (some 160, [9, 158], [136]), (some 161, [9, 158], [136]), (some 162, [3, 158], [136]), (some 163, [161, 162, 158], [139, 140, 136, 136]), (some 164, [160, 163, 158], [138, 141, 141, 136]), (some 165, [3, 158], [136]), (some 166, [159, 164, 165, 158], [137, 142, 143, 142, 136]), (some 167, [158, 166], [136, 144]), (some 168, [167], [145, 144]), (some 169, [10, 168], [146]), (some 170, [7, 168], [146]), (some 171, [3, 168], [146]), (some 172, [3, 168], [146]), (some 173, [170, 171, 172, 168], [148, 149, 150, 146, 146]), (some 174, [3, 168], [146]), (some 175, [169, 173, 174, 168], [147, 151, 152, 151, 146]), (some 176, [168, 175], [146, 153]), (some 177, [176], [154, 153]), (some 178, [10, 177], [155]), (some 179, [8, 177], [155]), (some 180, [3, 177], [155]), (some 181, [7, 177], [155]), (some 182, [3, 177], [155]), (some 183, [4, 177], [155]), (some 184, [181, 182, 183, 177], [159, 160, 161, 155, 155]), (some 185, [179, 180, 184, 177], [157, 158, 162, 162, 155]), (some 186, [3, 177], [155]), (some 187, [178, 185, 186, 177], [156, 163, 164, 163, 155]), (some 188, [177, 187], [155, 165]), (some 6, [188], [166, 165, 0, 1, 2, 3, 4, 5, 6, 7, 8, 9, 10, 11, 12, 13, 14, 15, 16, 17, 18, 19, 20, 21, 22, 23, 24, 25, 26, 27, 28, 29, 30, 31, 32, 33, 34, 35, 36, 37, 38, 39, 40, 41, 42, 43, 44, 45, 46, 47, 48, 49, 50, 51, 52, 53, 54, 55, 56, 57, 58, 59, 60, 61, 62, 63, 64, 65, 66, 67, 68, 69, 70, 71, 72, 73, 74, 75, 76, 77, 78, 79, 80, 81, 82, 83, 84, 85, 86, 87, 88, 89, 90, 91, 92, 93, 94, 95, 96, 97, 98, 99, 100, 101, 102, 103, 104, 105, 106, 107, 108, 109, 110, 111, 112, 113, 114, 115, 116, 117, 118, 119, 120, 121, 122, 123, 124, 125, 126, 127, 128, 129, 130, 131, 132, 133, 134, 135, 136, 137, 138, 139, 140, 141, 142, 143, 144, 145, 146, 147, 148, 149, 150, 151, 152, 153, 154, 155, 156, 157, 158, 159, 160, 161, 162, 163, 164, 165, 166])]) (by kernel_rfl) (by kernel_rfl) (by kernel_rfl)) T.drew ?_
    intro OPS hO
    refine Base.start (Base.of4 size b3 b4 b5) ?_
    intro a0 B
    have D10 : (OPS[10]?).bind (·.dst) = some 32 := by subst hO; rfl
    have D22 : (OPS[22]?).bind (·.dst) = some 44 := by subst hO; rfl
    have D40 : (OPS[40]?).bind (·.dst) = some 62 := by subst hO; rfl
    have D58 : (OPS[58]?).bind (·.dst) = some 80 := by subst hO; rfl
    have D79 : (OPS[79]?).bind (·.dst) = some 101 := by subst hO; rfl
    have D100 : (OPS[100]?).bind (·.dst) = some 122 := by subst hO; rfl
    have D118 : (OPS[118]?).bind (·.dst) = some 140 := by subst hO; rfl
    have D136 : (OPS[136]?).bind (·.dst) = some 158 := by subst hO; rfl
    have D146 : (OPS[146]?).bind (·.dst) = some 168 := by subst hO; rfl
    have D155 : (OPS[155]?).bind (·.dst) = some 177 := by subst hO; rfl
    refine q_move rfl (B.lt (by decide)) B.b10 ?_
    intro a1 U
    replace B := B.keep U (by decide)
    have s22 : G a1 22 = .func (.func 9) #[] #[] := U.got
    clear U
    refine q_move rfl (B.lt (by decide)) B.b7 ?_
    intro a2 U
    replace B := B.keep U (by decide)
    replace s22 := (U.rest 22 (by decide)).trans s22
    have s23 : G a2 23 = .func (.func 7) #[] #[] := U.got
    clear U
    refine q_load rfl (B.lt (by decide)) B.b3 (fun _ h => h.one) ?_
    intro a3 U
    replace B := B.keep U (by decide)
    replace s22 := (U.rest 22 (by decide)).trans s22
    replace s23 := (U.rest 23 (by decide)).trans s23
    have s24 : G a3 24 = told (p) := U.got
    clear U
    refine q_load rfl (B.lt (by decide)) B.b4 (fun _ h => h.two) ?_
    intro a4 U
    replace B := B.keep U (by decide)
    replace s22 := (U.rest 22 (by decide)).trans s22
    replace s23 := (U.rest 23 (by decide)).trans s23
    replace s24 := (U.rest 24 (by decide)).trans s24
    have s25 : G a4 25 = told (q) := U.got
    clear U
    refine q_call2 rfl (B.lt (by decide)) s23 s24 s25 callAnd (fun w' h => (and_told (p) (q) (by omega) (by omega) w').mono fun _ _ x => ⟨x.1, h.step x.2⟩) ?_
    intro a5 U
    replace B := B.keep U (by decide)
    replace s22 := (U.rest 22 (by decide)).trans s22
    have s26 : G a5 26 = told (min (p) (q)) := U.got
    clear U s23 s24 s25
    refine q_move rfl (B.lt (by decide)) B.b7 ?_
    intro a6 U
    replace B := B.keep U (by decide)
    replace s22 := (U.rest 22 (by decide)).trans s22
    replace s26 := (U.rest 26 (by decide)).trans s26
    have s27 : G a6 27 = .func (.func 7) #[] #[] := U.got
    clear U
    refine q_load rfl (B.lt (by decide)) B.b4 (fun _ h => h.two) ?_
    intro a7 U
    replace B := B.keep U (by decide)
    replace s22 := (U.rest 22 (by decide)).trans s22
    replace s26 := (U.rest 26 (by decide)).trans s26
    replace s27 := (U.rest 27 (by decide)).trans s27
    have s28 : G a7 28 = told (q) := U.got
    clear U
    refine q_load rfl (B.lt (by decide)) B.b3 (fun _ h => h.one) ?_
    intro a8 U
    replace B := B.keep U (by decide)
    replace s22 := (U.rest 22 (by decide)).trans s22
    replace s26 := (U.rest 26 (by decide)).trans s26
    replace s27 := (U.rest 27 (by decide)).trans s27
    replace s28 := (U.rest 28 (by decide)).trans s28
    have s29 : G a8 29 = told (p) := U.got
    clear U
    refine q_call2 rfl (B.lt (by decide)) s27 s28 s29 callAnd (fun w' h => (and_told (q) (p) (by omega) (by omega) w').mono fun _ _ x => ⟨x.1, h.step x.2⟩) ?_
    intro a9 U
    replace B := B.keep U (by decide)
    replace s22 := (U.rest 22 (by decide)).trans s22
    replace s26 := (U.rest 26 (by decide)).trans s26
    have s30 : G a9 30 = told (min (q) (p)) := U.got
    clear U s27 s28 s29
    refine q_call2 rfl (B.lt (by decide)) s22 s26 s30 callSame (fun w' h => ((fun v => same_eq (min (p) (q)) (min (q) (p)) v (by omega)) w').mono fun _ _ x => ⟨x.1, h.step x.2⟩) ?_
    intro a10 U
    replace B := B.keep U (by decide)
    have s31 : G a10 31 = .bool true := U.got
    clear U s22 s26 s30
    refine q_move rfl (B.lt (by decide)) s31 ?_
    intro a11 U
    replace B := B.keep U (by decide)
    have s32 : G a11 32 = .bool true := U.got
    clear U s31
    refine q_move (wanted_some rfl D10 (B.lt (by decide)) s32) (B.lt (by decide)) B.b10 ?_
    intro a12 U
    replace B := B.keep U (by decide)
    replace s32 := (U.rest 32 (by decide)).trans s32
    have s33 : G a12 33 = .func (.func 9) #[] #[] := U.got
    clear U
    refine q_move (wanted_some rfl D10 (B.lt (by decide)) s32) (B.lt (by decide)) B.b8 ?_
    intro a13 U
    replace B := B.keep U (by decide)
    replace s32 := (U.rest 32 (by decide)).trans s32
    replace s33 := (U.rest 33 (by decide)).trans s33
    have s34 : G a13 34 = .func (.func 8) #[] #[] := U.got
    clear U
    refine q_load (wanted_some rfl D10 (B.lt (by decide)) s32) (B.lt (by decide)) B.b3 (fun _ h => h.one) ?_
    intro a14 U
    replace B := B.keep U (by decide)
    replace s32 := (U.rest 32 (by decide)).trans s32
    replace s33 := (U.rest 33 (by decide)).trans s33
    replace s34 := (U.rest 34 (by decide)).trans s34
    have s35 : G a14 35 = told (p) := U.got
    clear U
    refine q_load (wanted_some rfl D10 (B.lt (by decide)) s32) (B.lt (by decide)) B.b4 (fun _ h => h.two) ?_
    intro a15 U
    replace B := B.keep U (by decide)
    replace s32 := (U.rest 32 (by decide)).trans s32
    replace s33 := (U.rest 33 (by decide)).trans s33
    replace s34 := (U.rest 34 (by decide)).trans s34
    replace s35 := (U.rest 35 (by decide)).trans s35
    have s36 : G a15 36 = told (q) := U.got
    clear U
    refine q_call2 (wanted_some rfl D10 (B.lt (by decide)) s32) (B.lt (by decide)) s34 s35 s36 callOr (fun w' h => (or_told (p) (q) (by omega) (by omega) w').mono fun _ _ x => ⟨x.1, h.step x.2⟩) ?_
    intro a16 U
    replace B := B.keep U (by decide)
    replace s32 := (U.rest 32 (by decide)).trans s32
    replace s33 := (U.rest 33 (by decide)).trans s33
    have s37 : G a16 37 = told (max (p) (q)) := U.got
    clear U s34 s35 s36
    refine q_move (wanted_some rfl D10 (B.lt (by decide)) s32) (B.lt (by decide)) B.b8 ?_
    intro a17 U
    replace B := B.keep U (by decide)
    replace s32 := (U.rest 32 (by decide)).trans s32
    replace s33 := (U.rest 33 (by decide)).trans s33
    replace s37 := (U.rest 37 (by decide)).trans s37
    have s38 : G a17 38 = .func (.func 8) #[] #[] := U.got
    clear U
    refine q_load (wanted_some rfl D10 (B.lt (by decide)) s32) (B.lt (by decide)) B.b4 (fun _ h => h.two) ?_
    intro a18 U
    replace B := B.keep U (by decide)
    replace s32 := (U.rest 32 (by decide)).trans s32
    replace s33 := (U.rest 33 (by decide)).trans s33
    replace s37 := (U.rest 37 (by decide)).trans s37
    replace s38 := (U.rest 38 (by decide)).trans s38
    have s39 : G a18 39 = told (q) := U.got
    clear U
    refine q_load (wanted_some rfl D10 (B.lt (by decide)) s32) (B.lt (by decide)) B.b3 (fun _ h => h.one) ?_
    intro a19 U
    replace B := B.keep U (by decide)
    replace s32 := (U.rest 32 (by decide)).trans s32
    replace s33 := (U.rest 33 (by decide)).trans s33
    replace s37 := (U.rest 37 (by decide)).trans s37
    replace s38 := (U.rest 38 (by decide)).trans s38
    replace s39 := (U.rest 39 (by decide)).trans s39
    have s40 : G a19 40 = told (p) := U.got
    clear U
    refine q_call2 (wanted_some rfl D10 (B.lt (by decide)) s32) (B.lt (by decide)) s38 s39 s40 callOr (fun w' h => (or_told (q) (p) (by omega) (by omega) w').mono fun _ _ x => ⟨x.1, h.step x.2⟩) ?_
    intro a20 U
    replace B := B.keep U (by decide)
    replace s32 := (U.rest 32 (by decide)).trans s32
    replace s33 := (U.rest 33 (by decide)).trans s33
    replace s37 := (U.rest 37 (by decide)).trans s37
    have s41 : G a20 41 = told (max (q) (p)) := U.got
    clear U s38 s39 s40
    refine q_call2 (wanted_some rfl D10 (B.lt (by decide)) s32) (B.lt (by decide)) s33 s37 s41 callSame (fun w' h => ((fun v => same_eq (max (p) (q)) (max (q) (p)) v (by omega)) w').mono fun _ _ x => ⟨x.1, h.step x.2⟩) ?_
    intro a21 U
    replace B := B.keep U (by decide)
    replace s32 := (U.rest 32 (by decide)).trans s32
    have s42 : G a21 42 = .bool true := U.got
    clear U s33 s37 s41
    refine q_pick rfl (B.lt (by decide)) s32 s42 ?_
    intro a22 U
    replace B := B.keep U (by decide)
    have s43 : G a22 43 = .bool true := U.got
    clear U s32 s42
    refine q_move rfl (B.lt (by decide)) s43 ?_
    intro a23 U
    replace B := B.keep U (by decide)
    have s44 : G a23 44 = .bool true := U.got
    clear U s43
    refine q_move (wanted_some rfl D22 (B.lt (by decide)) s44) (B.lt (by decide)) B.b10 ?_
    intro a24 U
    replace B := B.keep U (by decide)
    replace s44 := (U.rest 44 (by decide)).trans s44
    have s45 : G a24 45 = .func (.func 9) #[] #[] := U.got
    clear U
    refine q_move (wanted_some rfl D22 (B.lt (by decide)) s44) (B.lt (by decide)) B.b7 ?_
    intro a25 U
    replace B := B.keep U (by decide)
    replace s44 := (U.rest 44 (by decide)).trans s44
    replace s45 := (U.rest 45 (by decide)).trans s45
    have s46 : G a25 46 = .func (.func 7) #[] #[] := U.got
    clear U
    refine q_move (wanted_some rfl D22 (B.lt (by decide)) s44) (B.lt (by decide)) B.b7 ?_
    intro a26 U
    replace B := B.keep U (by decide)
    replace s44 := (U.rest 44 (by decide)).trans s44
    replace s45 := (U.rest 45 (by decide)).trans s45
    replace s46 := (U.rest 46 (by decide)).trans s46
    have s47 : G a26 47 = .func (.func 7) #[] #[] := U.got
    clear U
    refine q_load (wanted_some rfl D22 (B.lt (by decide)) s44) (B.lt (by decide)) B.b3 (fun _ h => h.one) ?_
    intro a27 U
    replace B := B.keep U (by decide)
    replace s44 := (U.rest 44 (by decide)).trans s44
    replace s45 := (U.rest 45 (by decide)).trans s45
    replace s46 := (U.rest 46 (by decide)).trans s46
    replace s47 := (U.rest 47 (by decide)).trans s47
    have s48 : G a27 48 = told (p) := U.got
    clear U
    refine q_load (wanted_some rfl D22 (B.lt (by decide)) s44) (B.lt (by decide)) B.b4 (fun _ h => h.two) ?_
    intro a28 U
    replace B := B.keep U (by decide)
    replace s44 := (U.rest 44 (by decide)).trans s44
    replace s45 := (U.rest 45 (by decide)).trans s45
    replace s46 := (U.rest 46 (by decide)).trans s46
    replace s47 := (U.rest 47 (by decide)).trans s47
    replace s48 := (U.rest 48 (by decide)).trans s48
    have s49 : G a28 49 = told (q) := U.got
    clear U
    refine q_call2 (wanted_some rfl D22 (B.lt (by decide)) s44) (B.lt (by decide)) s47 s48 s49 callAnd (fun w' h => (and_told (p) (q) (by omega) (by omega) w').mono fun _ _ x => ⟨x.1, h.step x.2⟩) ?_
    intro a29 U
    replace B := B.keep U (by decide)
    replace s44 := (U.rest 44 (by decide)).trans s44
    replace s45 := (U.rest 45 (by decide)).trans s45
    replace s46 := (U.rest 46 (by decide)).trans s46
    have s50 : G a29 50 = told (min (p) (q)) := U.got
    clear U s47 s48 s49
    refine q_load (wanted_some rfl D22 (B.lt (by decide)) s44) (B.lt (by decide)) B.b5 (fun _ h => h.thr) ?_
    intro a30 U
    replace B := B.keep U (by decide)
    replace s44 := (U.rest 44 (by decide)).trans s44
    replace s45 := (U.rest 45 (by decide)).trans s45
    replace s46 := (U.rest 46 (by decide)).trans s46
    replace s50 := (U.rest 50 (by decide)).trans s50
    have s51 : G a30 51 = told (r) := U.got
    clear U
    refine q_call2 (wanted_some rfl D22 (B.lt (by decide)) s44) (B.lt (by decide)) s46 s50 s51 callAnd (fun w' h => (and_told (min (p) (q)) (r) (by omega) (by omega) w').mono fun _ _ x => ⟨x.1, h.step x.2⟩) ?_
    intro a31 U
    replace B := B.keep U (by decide)
    replace s44 := (U.rest 44 (by decide)).trans s44
    replace s45 := (U.rest 45 (by decide)).trans s45
    have s52 : G a31 52 = told (min (min (p) (q)) (r)) := U.got
    clear U s46 s50 s51
    refine q_move (wanted_some rfl D22 (B.lt (by decide)) s44) (B.lt (by decide)) B.b7 ?_
    intro a32 U
    replace B := B.keep U (by decide)
    replace s44 := (U.rest 44 (by decide)).trans s44
    replace s45 := (U.rest 45 (by decide)).trans s45
    replace s52 := (U.rest 52 (by decide)).trans s52
    have s53 : G a32 53 = .func (.func 7) #[] #[] := U.got
    clear U
    refine q_load (wanted_some rfl D22 (B.lt (by decide)) s44) (B.lt (by decide)) B.b3 (fun _ h => h.one) ?_
    intro a33 U
    replace B := B.keep U (by decide)
    replace s44 := (U.rest 44 (by decide)).trans s44
    replace s45 := (U.rest 45 (by decide)).trans s45
    replace s52 := (U.rest 52 (by decide)).trans s52
    replace s53 := (U.rest 53 (by decide)).trans s53
    have s54 : G a33 54 = told (p) := U.got
    clear U
    refine q_move (wanted_some rfl D22 (B.lt (by decide)) s44) (B.lt (by decide)) B.b7 ?_
    intro a34 U
    replace B := B.keep U (by decide)
    replace s44 := (U.rest 44 (by decide)).trans s44
    replace s45 := (U.rest 45 (by decide)).trans s45
    replace s52 := (U.rest 52 (by decide)).trans s52
    replace s53 := (U.rest 53 (by decide)).trans s53
    replace s54 := (U.rest 54 (by decide)).trans s54
    have s55 : G a34 55 = .func (.func 7) #[] #[] := U.got
    clear U
    refine q_load (wanted_some rfl D22 (B.lt (by decide)) s44) (B.lt (by decide)) B.b4 (fun _ h => h.two) ?_
    intro a35 U
    replace B := B.keep U (by decide)
    replace s44 := (U.rest 44 (by decide)).trans s44
    replace s45 := (U.rest 45 (by decide)).trans s45
    replace s52 := (U.rest 52 (by decide)).trans s52
    replace s53 := (U.rest 53 (by decide)).trans s53
    replace s54 := (U.rest 54 (by decide)).trans s54
    replace s55 := (U.rest 55 (by decide)).trans s55
    have s56 : G a35 56 = told (q) := U.got
    clear U
    refine q_load (wanted_some rfl D22 (B.lt (by decide)) s44) (B.lt (by decide)) B.b5 (fun _ h => h.thr) ?_
    intro a36 U
    replace B := B.keep U (by decide)
    replace s44 := (U.rest 44 (by decide)).trans s44
    replace s45 := (U.rest 45 (by decide)).trans s45
    replace s52 := (U.rest 52 (by decide)).trans s52
    replace s53 := (U.rest 53 (by decide)).trans s53
    replace s54 := (U.rest 54 (by decide)).trans s54
    replace s55 := (U.rest 55 (by decide)).trans s55
    replace s56 := (U.rest 56 (by decide)).trans s56
    have s57 : G a36 57 = told (r) := U.got
    clear U
    refine q_call2 (wanted_some rfl D22 (B.lt (by decide)) s44) (B.lt (by decide)) s55 s56 s57 callAnd (fun w' h => (and_told (q) (r) (by omega) (by omega) w').mono fun _ _ x => ⟨x.1, h.step x.2⟩) ?_
    intro a37 U
    replace B := B.keep U (by decide)
    replace s44 := (U.rest 44 (by decide)).trans s44
    replace s45 := (U.rest 45 (by decide)).trans s45
    replace s52 := (U.rest 52 (by decide)).trans s52
    replace s53 := (U.rest 53 (by decide)).trans s53
    replace s54 := (U.rest 54 (by decide)).trans s54
    have s58 : G a37 58 = told (min (q) (r)) := U.got
    clear U s55 s56 s57
    refine q_call2 (wanted_some rfl D22 (B.lt (by decide)) s44) (B.lt (by decide)) s53 s54 s58 callAnd (fun w' h => (and_told (p) (min (q) (r)) (by omega) (by omega) w').mono fun _ _ x => ⟨x.1, h.step x.2⟩) ?_
    intro a38 U
    replace B := B.keep U (by decide)
    replace s44 := (U.rest 44 (by decide)).trans s44
    replace s45 := (U.rest 45 (by decide)).trans s45
    replace s52 := (U.rest 52 (by decide)).trans s52
    have s59 : G a38 59 = told (min (p) (min (q) (r))) := U.got
    clear U s53 s54 s58
    refine q_call2 (wanted_some rfl D22 (B.lt (by decide)) s44) (B.lt (by decide)) s45 s52 s59 callSame (fun w' h => ((fun v => same_eq (min (min (p) (q)) (r)) (min (p) (min (q) (r))) v (by omega)) w').mono fun _ _ x => ⟨x.1, h.step x.2⟩) ?_
    intro a39 U
    replace B := B.keep U (by decide)
    replace s44 := (U.rest 44 (by decide)).trans s44
    have s60 : G a39 60 = .bool true := U.got
    clear U s45 s52 s59
    refine q_pick rfl (B.lt (by decide)) s44 s60 ?_
    intro a40 U
    replace B := B.keep U (by decide)
    have s61 : G a40 61 = .bool true := U.got
    clear U s44 s60
    refine q_move rfl (B.lt (by decide)) s61 ?_
    intro a41 U
    replace B := B.keep U (by decide)
    have s62 : G a41 62 = .bool true := U.got
    clear U s61
    refine q_move (wanted_some rfl D40 (B.lt (by decide)) s62) (B.lt (by decide)) B.b10 ?_
    intro a42 U
    replace B := B.keep U (by decide)
    replace s62 := (U.rest 62 (by decide)).trans s62
    have s63 : G a42 63 = .func (.func 9) #[] #[] := U.got
    clear U
    refine q_move (wanted_some rfl D40 (B.lt (by decide)) s62) (B.lt (by decide)) B.b8 ?_
    intro a43 U
    replace B := B.keep U (by decide)
    replace s62 := (U.rest 62 (by decide)).trans s62
    replace s63 := (U.rest 63 (by decide)).trans s63
    have s64 : G a43 64 = .func (.func 8) #[] #[] := U.got
    clear U
    refine q_move (wanted_some rfl D40 (B.lt (by decide)) s62) (B.lt (by decide)) B.b8 ?_
    intro a44 U
    replace B := B.keep U (by decide)
    replace s62 := (U.rest 62 (by decide)).trans s62
    replace s63 := (U.rest 63 (by decide)).trans s63
    replace s64 := (U.rest 64 (by decide)).trans s64
    have s65 : G a44 65 = .func (.func 8) #[] #[] := U.got
    clear U
    refine q_load (wanted_some rfl D40 (B.lt (by decide)) s62) (B.lt (by decide)) B.b3 (fun _ h => h.one) ?_
    intro a45 U
    replace B := B.keep U (by decide)
    replace s62 := (U.rest 62 (by decide)).trans s62
    replace s63 := (U.rest 63 (by decide)).trans s63
    replace s64 := (U.rest 64 (by decide)).trans s64
    replace s65 := (U.rest 65 (by decide)).trans s65
    have s66 : G a45 66 = told (p) := U.got
    clear U
    refine q_load (wanted_some rfl D40 (B.lt (by decide)) s62) (B.lt (by decide)) B.b4 (fun _ h => h.two) ?_
    intro a46 U
    replace B := B.keep U (by decide)
    replace s62 := (U.rest 62 (by decide)).trans s62
    replace s63 := (U.rest 63 (by decide)).trans s63
    replace s64 := (U.rest 64 (by decide)).trans s64
    replace s65 := (U.rest 65 (by decide)).trans s65
    replace s66 := (U.rest 66 (by decide)).trans s66
    have s67 : G a46 67 = told (q) := U.got
    clear U
    refine q_call2 (wanted_some rfl D40 (B.lt (by decide)) s62) (B.lt (by decide)) s65 s66 s67 callOr (fun w' h => (or_told (p) (q) (by omega) (by omega) w').mono fun _ _ x => ⟨x.1, h.step x.2⟩) ?_
    intro a47 U
    replace B := B.keep U (by decide)
    replace s62 := (U.rest 62 (by decide)).trans s62
    replace s63 := (U.rest 63 (by decide)).trans s63
    replace s64 := (U.rest 64 (by decide)).trans s64
    have s68 : G a47 68 = told (max (p) (q)) := U.got
    clear U s65 s66 s67
    refine q_load (wanted_some rfl D40 (B.lt (by decide)) s62) (B.lt (by decide)) B.b5 (fun _ h => h.thr) ?_
    intro a48 U
    replace B := B.keep U (by decide)
    replace s62 := (U.rest 62 (by decide)).trans s62
    replace s63 := (U.rest 63 (by decide)).trans s63
    replace s64 := (U.rest 64 (by decide)).trans s64
    replace s68 := (U.rest 68 (by decide)).trans s68
    have s69 : G a48 69 = told (r) := U.got
    clear U
    refine q_call2 (wanted_some rfl D40 (B.lt (by decide)) s62) (B.lt (by decide)) s64 s68 s69 callOr (fun w' h => (or_told (max (p) (q)) (r) (by omega) (by omega) w').mono fun _ _ x => ⟨x.1, h.step x.2⟩) ?_
    intro a49 U
    replace B := B.keep U (by decide)
    replace s62 := (U.rest 62 (by decide)).trans s62
    replace s63 := (U.rest 63 (by decide)).trans s63
    have s70 : G a49 70 = told (max (max (p) (q)) (r)) := U.got
    clear U s64 s68 s69
    refine q_move (wanted_some rfl D40 (B.lt (by decide)) s62) (B.lt (by decide)) B.b8 ?_
    intro a50 U
    replace B := B.keep U (by decide)
    replace s62 := (U.rest 62 (by decide)).trans s62
    replace s63 := (U.rest 63 (by decide)).trans s63
    replace s70 := (U.rest 70 (by decide)).trans s70
    have s71 : G a50 71 = .func (.func 8) #[] #[] := U.got
    clear U
    refine q_load (wanted_some rfl D40 (B.lt (by decide)) s62) (B.lt (by decide)) B.b3 (fun _ h => h.one) ?_
    intro a51 U
    replace B := B.keep U (by decide)
    replace s62 := (U.rest 62 (by decide)).trans s62
    replace s63 := (U.rest 63 (by decide)).trans s63
    replace s70 := (U.rest 70 (by decide)).trans s70
    replace s71 := (U.rest 71 (by decide)).trans s71
    have s72 : G a51 72 = told (p) := U.got
    clear U
    refine q_move (wanted_some rfl D40 (B.lt (by decide)) s62) (B.lt (by decide)) B.b8 ?_
    intro a52 U
    replace B := B.keep U (by decide)
    replace s62 := (U.rest 62 (by decide)).trans s62
    replace s63 := (U.rest 63 (by decide)).trans s63
    replace s70 := (U.rest 70 (by decide)).trans s70
    replace s71 := (U.rest 71 (by decide)).trans s71
    replace s72 := (U.rest 72 (by decide)).trans s72
    have s73 : G a52 73 = .func (.func 8) #[] #[] := U.got
    clear U
    refine q_load (wanted_some rfl D40 (B.lt (by decide)) s62) (B.lt (by decide)) B.b4 (fun _ h => h.two) ?_
    intro a53 U
    replace B := B.keep U (by decide)
    replace s62 := (U.rest 62 (by decide)).trans s62
    replace s63 := (U.rest 63 (by decide)).trans s63
    replace s70 := (U.rest 70 (by decide)).trans s70
    replace s71 := (U.rest 71 (by decide)).trans s71
    replace s72 := (U.rest 72 (by decide)).trans s72
    replace s73 := (U.rest 73 (by decide)).trans s73
    have s74 : G a53 74 = told (q) := U.got
    clear U
    refine q_load (wanted_some rfl D40 (B.lt (by decide)) s62) (B.lt (by decide)) B.b5 (fun _ h => h.thr) ?_
    intro a54 U
    replace B := B.keep U (by decide)
    replace s62 := (U.rest 62 (by decide)).trans s62
    replace s63 := (U.rest 63 (by decide)).trans s63
    replace s70 := (U.rest 70 (by decide)).trans s70
    replace s71 := (U.rest 71 (by decide)).trans s71
    replace s72 := (U.rest 72 (by decide)).trans s72
    replace s73 := (U.rest 73 (by decide)).trans s73
    replace s74 := (U.rest 74 (by decide)).trans s74
    have s75 : G a54 75 = told (r) := U.got
    clear U
    refine q_call2 (wanted_some rfl D40 (B.lt (by decide)) s62) (B.lt (by decide)) s73 s74 s75 callOr (fun w' h => (or_told (q) (r) (by omega) (by omega) w').mono fun _ _ x => ⟨x.1, h.step x.2⟩) ?_
    intro a55 U
    replace B := B.keep U (by decide)
    replace s62 := (U.rest 62 (by decide)).trans s62
    replace s63 := (U.rest 63 (by decide)).trans s63
    replace s70 := (U.rest 70 (by decide)).trans s70
    replace s71 := (U.rest 71 (by decide)).trans s71
    replace s72 := (U.rest 72 (by decide)).trans s72
    have s76 : G a55 76 = told (max (q) (r)) := U.got
    clear U s73 s74 s75
    refine q_call2 (wanted_some rfl D40 (B.lt (by decide)) s62) (B.lt (by decide)) s71 s72 s76 callOr (fun w' h => (or_told (p) (max (q) (r)) (by omega) (by omega) w').mono fun _ _ x => ⟨x.1, h.step x.2⟩) ?_
    intro a56 U
    replace B := B.keep U (by decide)
    replace s62 := (U.rest 62 (by decide)).trans s62
    replace s63 := (U.rest 63 (by decide)).trans s63
    replace s70 := (U.rest 70 (by decide)).trans s70
    have s77 : G a56 77 = told (max (p) (max (q) (r))) := U.got
    clear U s71 s72 s76
    refine q_call2 (wanted_some rfl D40 (B.lt (by decide)) s62) (B.lt (by decide)) s63 s70 s77 callSame (fun w' h => ((fun v => same_eq (max (max (p) (q)) (r)) (max (p) (max (q) (r))) v (by omega)) w').mono fun _ _ x => ⟨x.1, h.step x.2⟩) ?_
    intro a57 U
    replace B := B.keep U (by decide)
    replace s62 := (U.rest 62 (by decide)).trans s62
    have s78 : G a57 78 = .bool true := U.got
    clear U s63 s70 s77
    refine q_pick rfl (B.lt (by decide)) s62 s78 ?_
    intro a58 U
    replace B := B.keep U (by decide)
    have s79 : G a58 79 = .bool true := U.got
    clear U s62 s78
    refine q_move rfl (B.lt (by decide)) s79 ?_
    intro a59 U
    replace B := B.keep U (by decide)
    have s80 : G a59 80 = .bool true := U.got
    clear U s79
    refine q_move (wanted_some rfl D58 (B.lt (by decide)) s80) (B.lt (by decide)) B.b10 ?_
    intro a60 U
    replace B := B.keep U (by decide)
    replace s80 := (U.rest 80 (by decide)).trans s80
    have s81 : G a60 81 = .func (.func 9) #[] #[] := U.got
    clear U
    refine q_move (wanted_some rfl D58 (B.lt (by decide)) s80) (B.lt (by decide)) B.b7 ?_
    intro a61 U
    replace B := B.keep U (by decide)
    replace s80 := (U.rest 80 (by decide)).trans s80
    replace s81 := (U.rest 81 (by decide)).trans s81
    have s82 : G a61 82 = .func (.func 7) #[] #[] := U.got
    clear U
    refine q_load (wanted_some rfl D58 (B.lt (by decide)) s80) (B.lt (by decide)) B.b3 (fun _ h => h.one) ?_
    intro a62 U
    replace B := B.keep U (by decide)
    replace s80 := (U.rest 80 (by decide)).trans s80
    replace s81 := (U.rest 81 (by decide)).trans s81
    replace s82 := (U.rest 82 (by decide)).trans s82
    have s83 : G a62 83 = told (p) := U.got
    clear U
    refine q_move (wanted_some rfl D58 (B.lt (by decide)) s80) (B.lt (by decide)) B.b8 ?_
    intro a63 U
    replace B := B.keep U (by decide)
    replace s80 := (U.rest 80 (by decide)).trans s80
    replace s81 := (U.rest 81 (by decide)).trans s81
    replace s82 := (U.rest 82 (by decide)).trans s82
    replace s83 := (U.rest 83 (by decide)).trans s83
    have s84 : G a63 84 = .func (.func 8) #[] #[] := U.got
    clear U
    refine q_load (wanted_some rfl D58 (B.lt (by decide)) s80) (B.lt (by decide)) B.b4 (fun _ h => h.two) ?_
    intro a64 U
    replace B := B.keep U (by decide)
    replace s80 := (U.rest 80 (by decide)).trans s80
    replace s81 := (U.rest 81 (by decide)).trans s81
    replace s82 := (U.rest 82 (by decide)).trans s82
    replace s83 := (U.rest 83 (by decide)).trans s83
    replace s84 := (U.rest 84 (by decide)).trans s84
    have s85 : G a64 85 = told (q) := U.got
    clear U
    refine q_load (wanted_some rfl D58 (B.lt (by decide)) s80) (B.lt (by decide)) B.b5 (fun _ h => h.thr) ?_
    intro a65 U
    replace B := B.keep U (by decide)
    replace s80 := (U.rest 80 (by decide)).trans s80
    replace s81 := (U.rest 81 (by decide)).trans s81
    replace s82 := (U.rest 82 (by decide)).trans s82
    replace s83 := (U.rest 83 (by decide)).trans s83
    replace s84 := (U.rest 84 (by decide)).trans s84
    replace s85 := (U.rest 85 (by decide)).trans s85
    have s86 : G a65 86 = told (r) := U.got
    clear U
    refine q_call2 (wanted_some rfl D58 (B.lt (by decide)) s80) (B.lt (by decide)) s84 s85 s86 callOr (fun w' h => (or_told (q) (r) (by omega) (by omega) w').mono fun _ _ x => ⟨x.1, h.step x.2⟩) ?_
    intro a66 U
    replace B := B.keep U (by decide)
    replace s80 := (U.rest 80 (by decide)).trans s80
    replace s81 := (U.rest 81 (by decide)).trans s81
    replace s82 := (U.rest 82 (by decide)).trans s82
    replace s83 := (U.rest 83 (by decide)).trans s83
    have s87 : G a66 87 = told (max (q) (r)) := U.got
    clear U s84 s85 s86
    refine q_call2 (wanted_some rfl D58 (B.lt (by decide)) s80) (B.lt (by decide)) s82 s83 s87 callAnd (fun w' h => (and_told (p) (max (q) (r)) (by omega) (by omega) w').mono fun _ _ x => ⟨x.1, h.step x.2⟩) ?_
    intro a67 U
    replace B := B.keep U (by decide)
    replace s80 := (U.rest 80 (by decide)).trans s80
    replace s81 := (U.rest 81 (by decide)).trans s81
    have s88 : G a67 88 = told (min (p) (max (q) (r))) := U.got
    clear U s82 s83 s87
    refine q_move (wanted_some rfl D58 (B.lt (by decide)) s80) (B.lt (by decide)) B.b8 ?_
    intro a68 U
    replace B := B.keep U (by decide)
    replace s80 := (U.rest 80 (by decide)).trans s80
    replace s81 := (U.rest 81 (by decide)).trans s81
    replace s88 := (U.rest 88 (by decide)).trans s88
    have s89 : G a68 89 = .func (.func 8) #[] #[] := U.got
    clear U
    refine q_move (wanted_some rfl D58 (B.lt (by decide)) s80) (B.lt (by decide)) B.b7 ?_
    intro a69 U
    replace B := B.keep U (by decide)
    replace s80 := (U.rest 80 (by decide)).trans s80
    replace s81 := (U.rest 81 (by decide)).trans s81
    replace s88 := (U.rest 88 (by decide)).trans s88
    replace s89 := (U.rest 89 (by decide)).trans s89
    have s90 : G a69 90 = .func (.func 7) #[] #[] := U.got
    clear U
    refine q_load (wanted_some rfl D58 (B.lt (by decide)) s80) (B.lt (by decide)) B.b3 (fun _ h => h.one) ?_
    intro a70 U
    replace B := B.keep U (by decide)
    replace s80 := (U.rest 80 (by decide)).trans s80
    replace s81 := (U.rest 81 (by decide)).trans s81
    replace s88 := (U.rest 88 (by decide)).trans s88
    replace s89 := (U.rest 89 (by decide)).trans s89
    replace s90 := (U.rest 90 (by decide)).trans s90
    have s91 : G a70 91 = told (p) := U.got
    clear U
    refine q_load (wanted_some rfl D58 (B.lt (by decide)) s80) (B.lt (by decide)) B.b4 (fun _ h => h.two) ?_
    intro a71 U
    replace B := B.keep U (by decide)
    replace s80 := (U.rest 80 (by decide)).trans s80
    replace s81 := (U.rest 81 (by decide)).trans s81
    replace s88 := (U.rest 88 (by decide)).trans s88
    replace s89 := (U.rest 89 (by decide)).trans s89
    replace s90 := (U.rest 90 (by decide)).trans s90
    replace s91 := (U.rest 91 (by decide)).trans s91
    have s92 : G a71 92 = told (q) := U.got
    clear U
    refine q_call2 (wanted_some rfl D58 (B.lt (by decide)) s80) (B.lt (by decide)) s90 s91 s92 callAnd (fun w' h => (and_told (p) (q) (by omega) (by omega) w').mono fun _ _ x => ⟨x.1, h.step x.2⟩) ?_
    intro a72 U
    replace B := B.keep U (by decide)
    replace s80 := (U.rest 80 (by decide)).trans s80
    replace s81 := (U.rest 81 (by decide)).trans s81
    replace s88 := (U.rest 88 (by decide)).trans s88
    replace s89 := (U.rest 89 (by decide)).trans s89
    have s93 : G a72 93 = told (min (p) (q)) := U.got
    clear U s90 s91 s92
    refine q_move (wanted_some rfl D58 (B.lt (by decide)) s80) (B.lt (by decide)) B.b7 ?_
    intro a73 U
    replace B := B.keep U (by decide)
    replace s80 := (U.rest 80 (by decide)).trans s80
    replace s81 := (U.rest 81 (by decide)).trans s81
    replace s88 := (U.rest 88 (by decide)).trans s88
    replace s89 := (U.rest 89 (by decide)).trans s89
    replace s93 := (U.rest 93 (by decide)).trans s93
    have s94 : G a73 94 = .func (.func 7) #[] #[] := U.got
    clear U
    refine q_load (wanted_some rfl D58 (B.lt (by decide)) s80) (B.lt (by decide)) B.b3 (fun _ h => h.one) ?_
    intro a74 U
    replace B := B.keep U (by decide)
    replace s80 := (U.rest 80 (by decide)).trans s80
    replace s81 := (U.rest 81 (by decide)).trans s81
    replace s88 := (U.rest 88 (by decide)).trans s88
    replace s89 := (U.rest 89 (by decide)).trans s89
    replace s93 := (U.rest 93 (by decide)).trans s93
    replace s94 := (U.rest 94 (by decide)).trans s94
    have s95 : G a74 95 = told (p) := U.got
    clear U
    refine q_load (wanted_some rfl D58 (B.lt (by decide)) s80) (B.lt (by decide)) B.b5 (fun _ h => h.thr) ?_
    intro a75 U
    replace B := B.keep U (by decide)
    replace s80 := (U.rest 80 (by decide)).trans s80
    replace s81 := (U.rest 81 (by decide)).trans s81
    replace s88 := (U.rest 88 (by decide)).trans s88
    replace s89 := (U.rest 89 (by decide)).trans s89
    replace s93 := (U.rest 93 (by decide)).trans s93
    replace s94 := (U.rest 94 (by decide)).trans s94
    replace s95 := (U.rest 95 (by decide)).trans s95
    have s96 : G a75 96 = told (r) := U.got
    clear U
    refine q_call2 (wanted_some rfl D58 (B.lt (by decide)) s80) (B.lt (by decide)) s94 s95 s96 callAnd (fun w' h => (and_told (p) (r) (by omega) (by omega) w').mono fun _ _ x => ⟨x.1, h.step x.2⟩) ?_
    intro a76 U
    replace B := B.keep U (by decide)
    replace s80 := (U.rest 80 (by decide)).trans s80
    replace s81 := (U.rest 81 (by decide)).trans s81
    replace s88 := (U.rest 88 (by decide)).trans s88
    replace s89 := (U.rest 89 (by decide)).trans s89
    replace s93 := (U.rest 93 (by decide)).trans s93
    have s97 : G a76 97 = told (min (p) (r)) := U.got
    clear U s94 s95 s96
    refine q_call2 (wanted_some rfl D58 (B.lt (by decide)) s80) (B.lt (by decide)) s89 s93 s97 callOr (fun w' h => (or_told (min (p) (q)) (min (p) (r)) (by omega) (by omega) w').mono fun _ _ x => ⟨x.1, h.step x.2⟩) ?_
    intro a77 U
    replace B := B.keep U (by decide)
    replace s80 := (U.rest 80 (by decide)).trans s80
    replace s81 := (U.rest 81 (by decide)).trans s81
    replace s88 := (U.rest 88 (by decide)).trans s88
    have s98 : G a77 98 = told (max (min (p) (q)) (min (p) (r))) := U.got
    clear U s89 s93 s97
    refine q_call2 (wanted_some rfl D58 (B.lt (by decide)) s80) (B.lt (by decide)) s81 s88 s98 callSame (fun w' h => ((fun v => same_eq (min (p) (max (q) (r))) (max (min (p) (q)) (min (p) (r))) v (by omega)) w').mono fun _ _ x => ⟨x.1, h.step x.2⟩) ?_
    intro a78 U
    replace B := B.keep U (by decide)
    replace s80 := (U.rest 80 (by decide)).trans s80
    have s99 : G a78 99 = .bool true := U.got
    clear U s81 s88 s98
    refine q_pick rfl (B.lt (by decide)) s80 s99 ?_
    intro a79 U
    replace B := B.keep U (by decide)
    have s100 : G a79 100 = .bool true := U.got
    clear U s80 s99
    refine q_move rfl (B.lt (by decide)) s100 ?_
    intro a80 U
    replace B := B.keep U (by decide)
    have s101 : G a80 101 = .bool true := U.got
    clear U s100
    refine q_move (wanted_some rfl D79 (B.lt (by decide)) s101) (B.lt (by decide)) B.b10 ?_
    intro a81 U
    replace B := B.keep U (by decide)
    replace s101 := (U.rest 101 (by decide)).trans s101
    have s102 : G a81 102 = .func (.func 9) #[] #[] := U.got
    clear U
    refine q_move (wanted_some rfl D79 (B.lt (by decide)) s101) (B.lt (by decide)) B.b8 ?_
    intro a82 U
    replace B := B.keep U (by decide)
    replace s101 := (U.rest 101 (by decide)).trans s101
    replace s102 := (U.rest 102 (by decide)).trans s102
    have s103 : G a82 103 = .func (.func 8) #[] #[] := U.got
    clear U
    refine q_load (wanted_some rfl D79 (B.lt (by decide)) s101) (B.lt (by decide)) B.b3 (fun _ h => h.one) ?_
    intro a83 U
    replace B := B.keep U (by decide)
    replace s101 := (U.rest 101 (by decide)).trans s101
    replace s102 := (U.rest 102 (by decide)).trans s102
    replace s103 := (U.rest 103 (by decide)).trans s103
    have s104 : G a83 104 = told (p) := U.got
    clear U
    refine q_move (wanted_some rfl D79 (B.lt (by decide)) s101) (B.lt (by decide)) B.b7 ?_
    intro a84 U
    replace B := B.keep U (by decide)
    replace s101 := (U.rest 101 (by decide)).trans s101
    replace s102 := (U.rest 102 (by decide)).trans s102
    replace s103 := (U.rest 103 (by decide)).trans s103
    replace s104 := (U.rest 104 (by decide)).trans s104
    have s105 : G a84 105 = .func (.func 7) #[] #[] := U.got
    clear U
    refine q_load (wanted_some rfl D79 (B.lt (by decide)) s101) (B.lt (by decide)) B.b4 (fun _ h => h.two) ?_
    intro a85 U
    replace B := B.keep U (by decide)
    replace s101 := (U.rest 101 (by decide)).trans s101
    replace s102 := (U.rest 102 (by decide)).trans s102
    replace s103 := (U.rest 103 (by decide)).trans s103
    replace s104 := (U.rest 104 (by decide)).trans s104
    replace s105 := (U.rest 105 (by decide)).trans s105
    have s106 : G a85 106 = told (q) := U.got
    clear U
    refine q_load (wanted_some rfl D79 (B.lt (by decide)) s101) (B.lt (by decide)) B.b5 (fun _ h => h.thr) ?_
    intro a86 U
    replace B := B.keep U (by decide)
    replace s101 := (U.rest 101 (by decide)).trans s101
    replace s102 := (U.rest 102 (by decide)).trans s102
    replace s103 := (U.rest 103 (by decide)).trans s103
    replace s104 := (U.rest 104 (by decide)).trans s104
    replace s105 := (U.rest 105 (by decide)).trans s105
    replace s106 := (U.rest 106 (by decide)).trans s106
    have s107 : G a86 107 = told (r) := U.got
    clear U
    refine q_call2 (wanted_some rfl D79 (B.lt (by decide)) s101) (B.lt (by decide)) s105 s106 s107 callAnd (fun w' h => (and_told (q) (r) (by omega) (by omega) w').mono fun _ _ x => ⟨x.1, h.step x.2⟩) ?_
    intro a87 U
    replace B := B.keep U (by decide)
    replace s101 := (U.rest 101 (by decide)).trans s101
    replace s102 := (U.rest 102 (by decide)).trans s102
    replace s103 := (U.rest 103 (by decide)).trans s103
    replace s104 := (U.rest 104 (by decide)).trans s104
    have s108 : G a87 108 = told (min (q) (r)) := U.got
    clear U s105 s106 s107
    refine q_call2 (wanted_some rfl D79 (B.lt (by decide)) s101) (B.lt (by decide)) s103 s104 s108 callOr (fun w' h => (or_told (p) (min (q) (r)) (by omega) (by omega) w').mono fun _ _ x => ⟨x.1, h.step x.2⟩) ?_
    intro a88 U
    replace B := B.keep U (by decide)
    replace s101 := (U.rest 101 (by decide)).trans s101
    replace s102 := (U.rest 102 (by decide)).trans s102
    have s109 : G a88 109 = told (max (p) (min (q) (r))) := U.got
    clear U s103 s104 s108
    refine q_move (wanted_some rfl D79 (B.lt (by decide)) s101) (B.lt (by decide)) B.b7 ?_
    intro a89 U
    replace B := B.keep U (by decide)
    replace s101 := (U.rest 101 (by decide)).trans s101
    replace s102 := (U.rest 102 (by decide)).trans s102
    replace s109 := (U.rest 109 (by decide)).trans s109
    have s110 : G a89 110 = .func (.func 7) #[] #[] := U.got
    clear U
    refine q_move (wanted_some rfl D79 (B.lt (by decide)) s101) (B.lt (by decide)) B.b8 ?_
    intro a90 U
    replace B := B.keep U (by decide)
    replace s101 := (U.rest 101 (by decide)).trans s101
    replace s102 := (U.rest 102 (by decide)).trans s102
    replace s109 := (U.rest 109 (by decide)).trans s109
    replace s110 := (U.rest 110 (by decide)).trans s110
    have s111 : G a90 111 = .func (.func 8) #[] #[] := U.got
    clear U
    refine q_load (wanted_some rfl D79 (B.lt (by decide)) s101) (B.lt (by decide)) B.b3 (fun _ h => h.one) ?_
    intro a91 U
    replace B := B.keep U (by decide)
    replace s101 := (U.rest 101 (by decide)).trans s101
    replace s102 := (U.rest 102 (by decide)).trans s102
    replace s109 := (U.rest 109 (by decide)).trans s109
    replace s110 := (U.rest 110 (by decide)).trans s110
    replace s111 := (U.rest 111 (by decide)).trans s111
    have s112 : G a91 112 = told (p) := U.got
    clear U
    refine q_load (wanted_some rfl D79 (B.lt (by decide)) s101) (B.lt (by decide)) B.b4 (fun _ h => h.two) ?_
    intro a92 U
    replace B := B.keep U (by decide)
    replace s101 := (U.rest 101 (by decide)).trans s101
    replace s102 := (U.rest 102 (by decide)).trans s102
    replace s109 := (U.rest 109 (by decide)).trans s109
    replace s110 := (U.rest 110 (by decide)).trans s110
    replace s111 := (U.rest 111 (by decide)).trans s111
    replace s112 := (U.rest 112 (by decide)).trans s112
    have s113 : G a92 113 = told (q) := U.got
    clear U
    refine q_call2 (wanted_some rfl D79 (B.lt (by decide)) s101) (B.lt (by decide)) s111 s112 s113 callOr (fun w' h => (or_told (p) (q) (by omega) (by omega) w').mono fun _ _ x => ⟨x.1, h.step x.2⟩) ?_
    intro a93 U
    replace B := B.keep U (by decide)
    replace s101 := (U.rest 101 (by decide)).trans s101
    replace s102 := (U.rest 102 (by decide)).trans s102
    replace s109 := (U.rest 109 (by decide)).trans s109
    replace s110 := (U.rest 110 (by decide)).trans s110
    have s114 : G a93 114 = told (max (p) (q)) := U.got
    clear U s111 s112 s113
    refine q_move (wanted_some rfl D79 (B.lt (by decide)) s101) (B.lt (by decide)) B.b8 ?_
    intro a94 U
    replace B := B.keep U (by decide)
    replace s101 := (U.rest 101 (by decide)).trans s101
    replace s102 := (U.rest 102 (by decide)).trans s102
    replace s109 := (U.rest 109 (by decide)).trans s109
    replace s110 := (U.rest 110 (by decide)).trans s110
    replace s114 := (U.rest 114 (by decide)).trans s114
    have s115 : G a94 115 = .func (.func 8) #[] #[] := U.got
    clear U
    refine q_load (wanted_some rfl D79 (B.lt (by decide)) s101) (B.lt (by decide)) B.b3 (fun _ h => h.one) ?_
    intro a95 U
    replace B := B.keep U (by decide)
    replace s101 := (U.rest 101 (by decide)).trans s101
    replace s102 := (U.rest 102 (by decide)).trans s102
    replace s109 := (U.rest 109 (by decide)).trans s109
    replace s110 := (U.rest 110 (by decide)).trans s110
    replace s114 := (U.rest 114 (by decide)).trans s114
    replace s115 := (U.rest 115 (by decide)).trans s115
    have s116 : G a95 116 = told (p) := U.got
    clear U
    refine q_load (wanted_some rfl D79 (B.lt (by decide)) s101) (B.lt (by decide)) B.b5 (fun _ h => h.thr) ?_
    intro a96 U
    replace B := B.keep U (by decide)
    replace s101 := (U.rest 101 (by decide)).trans s101
    replace s102 := (U.rest 102 (by decide)).trans s102
    replace s109 := (U.rest 109 (by decide)).trans s109
    replace s110 := (U.rest 110 (by decide)).trans s110
    replace s114 := (U.rest 114 (by decide)).trans s114
    replace s115 := (U.rest 115 (by decide)).trans s115
    replace s116 := (U.rest 116 (by decide)).trans s116
    have s117 : G a96 117 = told (r) := U.got
    clear U
    refine q_call2 (wanted_some rfl D79 (B.lt (by decide)) s101) (B.lt (by decide)) s115 s116 s117 callOr (fun w' h => (or_told (p) (r) (by omega) (by omega) w').mono fun _ _ x => ⟨x.1, h.step x.2⟩) ?_
    intro a97 U
    replace B := B.keep U (by decide)
    replace s101 := (U.rest 101 (by decide)).trans s101
    replace s102 := (U.rest 102 (by decide)).trans s102
    replace s109 := (U.rest 109 (by decide)).trans s109
    replace s110 := (U.rest 110 (by decide)).trans s110
    replace s114 := (U.rest 114 (by decide)).trans s114
    have s118 : G a97 118 = told (max (p) (r)) := U.got
    clear U s115 s116 s117
    refine q_call2 (wanted_some rfl D79 (B.lt (by decide)) s101) (B.lt (by decide)) s110 s114 s118 callAnd (fun w' h => (and_told (max (p) (q)) (max (p) (r)) (by omega) (by omega) w').mono fun _ _ x => ⟨x.1, h.step x.2⟩) ?_
    intro a98 U
    replace B := B.keep U (by decide)
    replace s101 := (U.rest 101 (by decide)).trans s101
    replace s102 := (U.rest 102 (by decide)).trans s102
    replace s109 := (U.rest 109 (by decide)).trans s109
    have s119 : G a98 119 = told (min (max (p) (q)) (max (p) (r))) := U.got
    clear U s110 s114 s118
    refine q_call2 (wanted_some rfl D79 (B.lt (by decide)) s101) (B.lt (by decide)) s102 s109 s119 callSame (fun w' h => ((fun v => same_eq (max (p) (min (q) (r))) (min (max (p) (q)) (max (p) (r))) v (by omega)) w').mono fun _ _ x => ⟨x.1, h.step x.2⟩) ?_
    intro a99 U
    replace B := B.keep U (by decide)
    replace s101 := (U.rest 101 (by decide)).trans s101
    have s120 : G a99 120 = .bool true := U.got
    clear U s102 s109 s119
    refine q_pick rfl (B.lt (by decide)) s101 s120 ?_
    intro a100 U
    replace B := B.keep U (by decide)
    have s121 : G a100 121 = .bool true := U.got
    clear U s101 s120
    refine q_move rfl (B.lt (by decide)) s121 ?_
    intro a101 U
    replace B := B.keep U (by decide)
    have s122 : G a101 122 = .bool true := U.got
    clear U s121
    refine q_move (wanted_some rfl D100 (B.lt (by decide)) s122) (B.lt (by decide)) B.b10 ?_
    intro a102 U
    replace B := B.keep U (by decide)
    replace s122 := (U.rest 122 (by decide)).trans s122
    have s123 : G a102 123 = .func (.func 9) #[] #[] := U.got
    clear U
    refine q_move (wanted_some rfl D100 (B.lt (by decide)) s122) (B.lt (by decide)) B.b9 ?_
    intro a103 U
    replace B := B.keep U (by decide)
    replace s122 := (U.rest 122 (by decide)).trans s122
    replace s123 := (U.rest 123 (by decide)).trans s123
    have s124 : G a103 124 = .func (.func 6) #[] #[] := U.got
    clear U
    refine q_move (wanted_some rfl D100 (B.lt (by decide)) s122) (B.lt (by decide)) B.b7 ?_
    intro a104 U
    replace B := B.keep U (by decide)
    replace s122 := (U.rest 122 (by decide)).trans s122
    replace s123 := (U.rest 123 (by decide)).trans s123
    replace s124 := (U.rest 124 (by decide)).trans s124
    have s125 : G a104 125 = .func (.func 7) #[] #[] := U.got
    clear U
    refine q_load (wanted_some rfl D100 (B.lt (by decide)) s122) (B.lt (by decide)) B.b3 (fun _ h => h.one) ?_
    intro a105 U
    replace B := B.keep U (by decide)
    replace s122 := (U.rest 122 (by decide)).trans s122
    replace s123 := (U.rest 123 (by decide)).trans s123
    replace s124 := (U.rest 124 (by decide)).trans s124
    replace s125 := (U.rest 125 (by decide)).trans s125
    have s126 : G a105 126 = told (p) := U.got
    clear U
    refine q_load (wanted_some rfl D100 (B.lt (by decide)) s122) (B.lt (by decide)) B.b4 (fun _ h => h.two) ?_
    intro a106 U
    replace B := B.keep U (by decide)
    replace s122 := (U.rest 122 (by decide)).trans s122
    replace s123 := (U.rest 123 (by decide)).trans s123
    replace s124 := (U.rest 124 (by decide)).trans s124
    replace s125 := (U.rest 125 (by decide)).trans s125
    replace s126 := (U.rest 126 (by decide)).trans s126
    have s127 : G a106 127 = told (q) := U.got
    clear U
    refine q_call2 (wanted_some rfl D100 (B.lt (by decide)) s122) (B.lt (by decide)) s125 s126 s127 callAnd (fun w' h => (and_told (p) (q) (by omega) (by omega) w').mono fun _ _ x => ⟨x.1, h.step x.2⟩) ?_
    intro a107 U
    replace B := B.keep U (by decide)
    replace s122 := (U.rest 122 (by decide)).trans s122
    replace s123 := (U.rest 123 (by decide)).trans s123
    replace s124 := (U.rest 124 (by decide)).trans s124
    have s128 : G a107 128 = told (min (p) (q)) := U.got
    clear U s125 s126 s127
    refine q_call1 (wanted_some rfl D100 (B.lt (by decide)) s122) (B.lt (by decide)) s124 s128 callNot (fun w' h => (not_told (min (p) (q)) (by omega) w').mono fun _ _ x => ⟨x.1, h.step x.2⟩) ?_
    intro a108 U
    replace B := B.keep U (by decide)
    replace s122 := (U.rest 122 (by decide)).trans s122
    replace s123 := (U.rest 123 (by decide)).trans s123
    have s129 : G a108 129 = told (2 - (min (p) (q))) := U.got
    clear U s124 s128
    refine q_move (wanted_some rfl D100 (B.lt (by decide)) s122) (B.lt (by decide)) B.b8 ?_
    intro a109 U
    replace B := B.keep U (by decide)
    replace s122 := (U.rest 122 (by decide)).trans s122
    replace s123 := (U.rest 123 (by decide)).trans s123
    replace s129 := (U.rest 129 (by decide)).trans s129
    have s130 : G a109 130 = .func (.func 8) #[] #[] := U.got
    clear U
    refine q_move (wanted_some rfl D100 (B.lt (by decide)) s122) (B.lt (by decide)) B.b9 ?_
    intro a110 U
    replace B := B.keep U (by decide)
    replace s122 := (U.rest 122 (by decide)).trans s122
    replace s123 := (U.rest 123 (by decide)).trans s123
    replace s129 := (U.rest 129 (by decide)).trans s129
    replace s130 := (U.rest 130 (by decide)).trans s130
    have s131 : G a110 131 = .func (.func 6) #[] #[] := U.got
    clear U
    refine q_load (wanted_some rfl D100 (B.lt (by decide)) s122) (B.lt (by decide)) B.b3 (fun _ h => h.one) ?_
    intro a111 U
    replace B := B.keep U (by decide)
    replace s122 := (U.rest 122 (by decide)).trans s122
    replace s123 := (U.rest 123 (by decide)).trans s123
    replace s129 := (U.rest 129 (by decide)).trans s129
    replace s130 := (U.rest 130 (by decide)).trans s130
    replace s131 := (U.rest 131 (by decide)).trans s131
    have s132 : G a111 132 = told (p) := U.got
    clear U
    refine q_call1 (wanted_some rfl D100 (B.lt (by decide)) s122) (B.lt (by decide)) s131 s132 callNot (fun w' h => (not_told (p) (by omega) w').mono fun _ _ x => ⟨x.1, h.step x.2⟩) ?_
    intro a112 U
    replace B := B.keep U (by decide)
    replace s122 := (U.rest 122 (by decide)).trans s122
    replace s123 := (U.rest 123 (by decide)).trans s123
    replace s129 := (U.rest 129 (by decide)).trans s129
    replace s130 := (U.rest 130 (by decide)).trans s130
    have s133 : G a112 133 = told (2 - (p)) := U.got
    clear U s131 s132
    refine q_move (wanted_some rfl D100 (B.lt (by decide)) s122) (B.lt (by decide)) B.b9 ?_
    intro a113 U
    replace B := B.keep U (by decide)
    replace s122 := (U.rest 122 (by decide)).trans s122
    replace s123 := (U.rest 123 (by decide)).trans s123
    replace s129 := (U.rest 129 (by decide)).trans s129
    replace s130 := (U.rest 130 (by decide)).trans s130
    replace s133 := (U.rest 133 (by decide)).trans s133
    have s134 : G a113 134 = .func (.func 6) #[] #[] := U.got
    clear U
    refine q_load (wanted_some rfl D100 (B.lt (by decide)) s122) (B.lt (by decide)) B.b4 (fun _ h => h.two) ?_
    intro a114 U
    replace B := B.keep U (by decide)
    replace s122 := (U.rest 122 (by decide)).trans s122
    replace s123 := (U.rest 123 (by decide)).trans s123
    replace s129 := (U.rest 129 (by decide)).trans s129
    replace s130 := (U.rest 130 (by decide)).trans s130
    replace s133 := (U.rest 133 (by decide)).trans s133
    replace s134 := (U.rest 134 (by decide)).trans s134
    have s135 : G a114 135 = told (q) := U.got
    clear U
    refine q_call1 (wanted_some rfl D100 (B.lt (by decide)) s122) (B.lt (by decide)) s134 s135 callNot (fun w' h => (not_told (q) (by omega) w').mono fun _ _ x => ⟨x.1, h.step x.2⟩) ?_
    intro a115 U
    replace B := B.keep U (by decide)
    replace s122 := (U.rest 122 (by decide)).trans s122
    replace s123 := (U.rest 123 (by decide)).trans s123
    replace s129 := (U.rest 129 (by decide)).trans s129
    replace s130 := (U.rest 130 (by decide)).trans s130
    replace s133 := (U.rest 133 (by decide)).trans s133
    have s136 : G a115 136 = told (2 - (q)) := U.got
    clear U s134 s135
    refine q_call2 (wanted_some rfl D100 (B.lt (by decide)) s122) (B.lt (by decide)) s130 s133 s136 callOr (fun w' h => (or_told (2 - (p)) (2 - (q)) (by omega) (by omega) w').mono fun _ _ x => ⟨x.1, h.step x.2⟩) ?_
    intro a116 U
    replace B := B.keep U (by decide)
    replace s122 := (U.rest 122 (by decide)).trans s122
    replace s123 := (U.rest 123 (by decide)).trans s123
    replace s129 := (U.rest 129 (by decide)).trans s129
    have s137 : G a116 137 = told (max (2 - (p)) (2 - (q))) := U.got
    clear U s130 s133 s136
    refine q_call2 (wanted_some rfl D100 (B.lt (by decide)) s122) (B.lt (by decide)) s123 s129 s137 callSame (fun w' h => ((fun v => same_eq (2 - (min (p) (q))) (max (2 - (p)) (2 - (q))) v (by omega)) w').mono fun _ _ x => ⟨x.1, h.step x.2⟩) ?_
    intro a117 U
    replace B := B.keep U (by decide)
    replace s122 := (U.rest 122 (by decide)).trans s122
    have s138 : G a117 138 = .bool true := U.got
    clear U s123 s129 s137
    refine q_pick rfl (B.lt (by decide)) s122 s138 ?_
    intro a118 U
    replace B := B.keep U (by decide)
    have s139 : G a118 139 = .bool true := U.got
    clear U s122 s138
    refine q_move rfl (B.lt (by decide)) s139 ?_
    intro a119 U
    replace B := B.keep U (by decide)
    have s140 : G a119 140 = .bool true := U.got
    clear U s139
    refine q_move (wanted_some rfl D118 (B.lt (by decide)) s140) (B.lt (by decide)) B.b10 ?_
    intro a120 U
    replace B := B.keep U (by decide)
    replace s140 := (U.rest 140 (by decide)).trans s140
    have s141 : G a120 141 = .func (.func 9) #[] #[] := U.got
    clear U
    refine q_move (wanted_some rfl D118 (B.lt (by decide)) s140) (B.lt (by decide)) B.b9 ?_
    intro a121 U
    replace B := B.keep U (by decide)
    replace s140 := (U.rest 140 (by decide)).trans s140
    replace s141 := (U.rest 141 (by decide)).trans s141
    have s142 : G a121 142 = .func (.func 6) #[] #[] := U.got
    clear U
    refine q_move (wanted_some rfl D118 (B.lt (by decide)) s140) (B.lt (by decide)) B.b8 ?_
    intro a122 U
    replace B := B.keep U (by decide)
    replace s140 := (U.rest 140 (by decide)).trans s140
    replace s141 := (U.rest 141 (by decide)).trans s141
    replace s142 := (U.rest 142 (by decide)).trans s142
    have s143 : G a122 143 = .func (.func 8) #[] #[] := U.got
    clear U
    refine q_load (wanted_some rfl D118 (B.lt (by decide)) s140) (B.lt (by decide)) B.b3 (fun _ h => h.one) ?_
    intro a123 U
    replace B := B.keep U (by decide)
    replace s140 := (U.rest 140 (by decide)).trans s140
    replace s141 := (U.rest 141 (by decide)).trans s141
    replace s142 := (U.rest 142 (by decide)).trans s142
    replace s143 := (U.rest 143 (by decide)).trans s143
    have s144 : G a123 144 = told (p) := U.got
    clear U
    refine q_load (wanted_some rfl D118 (B.lt (by decide)) s140) (B.lt (by decide)) B.b4 (fun _ h => h.two) ?_
    intro a124 U
    replace B := B.keep U (by decide)
    replace s140 := (U.rest 140 (by decide)).trans s140
    replace s141 := (U.rest 141 (by decide)).trans s141
    replace s142 := (U.rest 142 (by decide)).trans s142
    replace s143 := (U.rest 143 (by decide)).trans s143
    replace s144 := (U.rest 144 (by decide)).trans s144
    have s145 : G a124 145 = told (q) := U.got
    clear U
    refine q_call2 (wanted_some rfl D118 (B.lt (by decide)) s140) (B.lt (by decide)) s143 s144 s145 callOr (fun w' h => (or_told (p) (q) (by omega) (by omega) w').mono fun _ _ x => ⟨x.1, h.step x.2⟩) ?_
    intro a125 U
    replace B := B.keep U (by decide)
    replace s140 := (U.rest 140 (by decide)).trans s140
    replace s141 := (U.rest 141 (by decide)).trans s141
    replace s142 := (U.rest 142 (by decide)).trans s142
    have s146 : G a125 146 = told (max (p) (q)) := U.got
    clear U s143 s144 s145
    refine q_call1 (wanted_some rfl D118 (B.lt (by decide)) s140) (B.lt (by decide)) s142 s146 callNot (fun w' h => (not_told (max (p) (q)) (by omega) w').mono fun _ _ x => ⟨x.1, h.step x.2⟩) ?_
    intro a126 U
    replace B := B.keep U (by decide)
    replace s140 := (U.rest 140 (by decide)).trans s140
    replace s141 := (U.rest 141 (by decide)).trans s141
    have s147 : G a126 147 = told (2 - (max (p) (q))) := U.got
    clear U s142 s146
    refine q_move (wanted_some rfl D118 (B.lt (by decide)) s140) (B.lt (by decide)) B.b7 ?_
    intro a127 U
    replace B := B.keep U (by decide)
    replace s140 := (U.rest 140 (by decide)).trans s140
    replace s141 := (U.rest 141 (by decide)).trans s141
    replace s147 := (U.rest 147 (by decide)).trans s147
    have s148 : G a127 148 = .func (.func 7) #[] #[] := U.got
    clear U
    refine q_move (wanted_some rfl D118 (B.lt (by decide)) s140) (B.lt (by decide)) B.b9 ?_
    intro a128 U
    replace B := B.keep U (by decide)
    replace s140 := (U.rest 140 (by decide)).trans s140
    replace s141 := (U.rest 141 (by decide)).trans s141
    replace s147 := (U.rest 147 (by decide)).trans s147
    replace s148 := (U.rest 148 (by decide)).trans s148
    have s149 : G a128 149 = .func (.func 6) #[] #[] := U.got
    clear U
    refine q_load (wanted_some rfl D118 (B.lt (by decide)) s140) (B.lt (by decide)) B.b3 (fun _ h => h.one) ?_
    intro a129 U
    replace B := B.keep U (by decide)
    replace s140 := (U.rest 140 (by decide)).trans s140
    replace s141 := (U.rest 141 (by decide)).trans s141
    replace s147 := (U.rest 147 (by decide)).trans s147
    replace s148 := (U.rest 148 (by decide)).trans s148
    replace s149 := (U.rest 149 (by decide)).trans s149
    have s150 : G a129 150 = told (p) := U.got
    clear U
    refine q_call1 (wanted_some rfl D118 (B.lt (by decide)) s140) (B.lt (by decide)) s149 s150 callNot (fun w' h => (not_told (p) (by omega) w').mono fun _ _ x => ⟨x.1, h.step x.2⟩) ?_
    intro a130 U
    replace B := B.keep U (by decide)
    replace s140 := (U.rest 140 (by decide)).trans s140
    replace s141 := (U.rest 141 (by decide)).trans s141
    replace s147 := (U.rest 147 (by decide)).trans s147
    replace s148 := (U.rest 148 (by decide)).trans s148
    have s151 : G a130 151 = told (2 - (p)) := U.got
    clear U s149 s150
    refine q_move (wanted_some rfl D118 (B.lt (by decide)) s140) (B.lt (by decide)) B.b9 ?_
    intro a131 U
    replace B := B.keep U (by decide)
    replace s140 := (U.rest 140 (by decide)).trans s140
    replace s141 := (U.rest 141 (by decide)).trans s141
    replace s147 := (U.rest 147 (by decide)).trans s147
    replace s148 := (U.rest 148 (by decide)).trans s148
    replace s151 := (U.rest 151 (by decide)).trans s151
    have s152 : G a131 152 = .func (.func 6) #[] #[] := U.got
    clear U
    refine q_load (wanted_some rfl D118 (B.lt (by decide)) s140) (B.lt (by decide)) B.b4 (fun _ h => h.two) ?_
    intro a132 U
    replace B := B.keep U (by decide)
    replace s140 := (U.rest 140 (by decide)).trans s140
    replace s141 := (U.rest 141 (by decide)).trans s141
    replace s147 := (U.rest 147 (by decide)).trans s147
    replace s148 := (U.rest 148 (by decide)).trans s148
    replace s151 := (U.rest 151 (by decide)).trans s151
    replace s152 := (U.rest 152 (by decide)).trans s152
    have s153 : G a132 153 = told (q) := U.got
    clear U
    refine q_call1 (wanted_some rfl D118 (B.lt (by decide)) s140) (B.lt (by decide)) s152 s153 callNot (fun w' h => (not_told (q) (by omega) w').mono fun _ _ x => ⟨x.1, h.step x.2⟩) ?_
    intro a133 U
    replace B := B.keep U (by decide)
    replace s140 := (U.rest 140 (by decide)).trans s140
    replace s141 := (U.rest 141 (by decide)).trans s141
    replace s147 := (U.rest 147 (by decide)).trans s147
    replace s148 := (U.rest 148 (by decide)).trans s148
    replace s151 := (U.rest 151 (by decide)).trans s151
    have s154 : G a133 154 = told (2 - (q)) := U.got
    clear U s152 s153
    refine q_call2 (wanted_some rfl D118 (B.lt (by decide)) s140) (B.lt (by decide)) s148 s151 s154 callAnd (fun w' h => (and_told (2 - (p)) (2 - (q)) (by omega) (by omega) w').mono fun _ _ x => ⟨x.1, h.step x.2⟩) ?_
    intro a134 U
    replace B := B.keep U (by decide)
    replace s140 := (U.rest 140 (by decide)).trans s140
    replace s141 := (U.rest 141 (by decide)).trans s141
    replace s147 := (U.rest 147 (by decide)).trans s147
    have s155 : G a134 155 = told (min (2 - (p)) (2 - (q))) := U.got
    clear U s148 s151 s154
    refine q_call2 (wanted_some rfl D118 (B.lt (by decide)) s140) (B.lt (by decide)) s141 s147 s155 callSame (fun w' h => ((fun v => same_eq (2 - (max (p) (q))) (min (2 - (p)) (2 - (q))) v (by omega)) w').mono fun _ _ x => ⟨x.1, h.step x.2⟩) ?_
    intro a135 U
    replace B := B.keep U (by decide)
    replace s140 := (U.rest 140 (by decide)).trans s140
    have s156 : G a135 156 = .bool true := U.got
    clear U s141 s147 s155
    refine q_pick rfl (B.lt (by decide)) s140 s156 ?_
    intro a136 U
    replace B := B.keep U (by decide)
    have s157 : G a136 157 = .bool true := U.got
    clear U s140 s156
    refine q_move rfl (B.lt (by decide)) s157 ?_
    intro a137 U
    replace B := B.keep U (by decide)
    have s158 : G a137 158 = .bool true := U.got
    clear U s157
    refine q_move (wanted_some rfl D136 (B.lt (by decide)) s158) (B.lt (by decide)) B.b10 ?_
    intro a138 U
    replace B := B.keep U (by decide)
    replace s158 := (U.rest 158 (by decide)).trans s158
    have s159 : G a138 159 = .func (.func 9) #[] #[] := U.got
    clear U
    refine q_move (wanted_some rfl D136 (B.lt (by decide)) s158) (B.lt (by decide)) B.b9 ?_
    intro a139 U
    replace B := B.keep U (by decide)
    replace s158 := (U.rest 158 (by decide)).trans s158
    replace s159 := (U.rest 159 (by decide)).trans s159
    have s160 : G a139 160 = .func (.func 6) #[] #[] := U.got
    clear U
    refine q_move (wanted_some rfl D136 (B.lt (by decide)) s158) (B.lt (by decide)) B.b9 ?_
    intro a140 U
    replace B := B.keep U (by decide)
    replace s158 := (U.rest 158 (by decide)).trans s158
    replace s159 := (U.rest 159 (by decide)).trans s159
    replace s160 := (U.rest 160 (by decide)).trans s160
    have s161 : G a140 161 = .func (.func 6) #[] #[] := U.got
    clear U
    refine q_load (wanted_some rfl D136 (B.lt (by decide)) s158) (B.lt (by decide)) B.b3 (fun _ h => h.one) ?_
    intro a141 U
    replace B := B.keep U (by decide)
    replace s158 := (U.rest 158 (by decide)).trans s158
    replace s159 := (U.rest 159 (by decide)).trans s159
    replace s160 := (U.rest 160 (by decide)).trans s160
    replace s161 := (U.rest 161 (by decide)).trans s161
    have s162 : G a141 162 = told (p) := U.got
    clear U
    refine q_call1 (wanted_some rfl D136 (B.lt (by decide)) s158) (B.lt (by decide)) s161 s162 callNot (fun w' h => (not_told (p) (by omega) w').mono fun _ _ x => ⟨x.1, h.step x.2⟩) ?_
    intro a142 U
    replace B := B.keep U (by decide)
    replace s158 := (U.rest 158 (by decide)).trans s158
    replace s159 := (U.rest 159 (by decide)).trans s159
    replace s160 := (U.rest 160 (by decide)).trans s160
    have s163 : G a142 163 = told (2 - (p)) := U.got
    clear U s161 s162
    refine q_call1 (wanted_some rfl D136 (B.lt (by decide)) s158) (B.lt (by decide)) s160 s163 callNot (fun w' h => (not_told (2 - (p)) (by omega) w').mono fun _ _ x => ⟨x.1, h.step x.2⟩) ?_
    intro a143 U
    replace B := B.keep U (by decide)
    replace s158 := (U.rest 158 (by decide)).trans s158
    replace s159 := (U.rest 159 (by decide)).trans s159
    have s164 : G a143 164 = told (2 - (2 - (p))) := U.got
    clear U s160 s163
    refine q_load (wanted_some rfl D136 (B.lt (by decide)) s158) (B.lt (by decide)) B.b3 (fun _ h => h.one) ?_
    intro a144 U
    replace B := B.keep U (by decide)
    replace s158 := (U.rest 158 (by decide)).trans s158
    replace s159 := (U.rest 159 (by decide)).trans s159
    replace s164 := (U.rest 164 (by decide)).trans s164
    have s165 : G a144 165 = told (p) := U.got
    clear U
    refine q_call2 (wanted_some rfl D136 (B.lt (by decide)) s158) (B.lt (by decide)) s159 s164 s165 callSame (fun w' h => ((fun v => same_eq (2 - (2 - (p))) (p) v (by omega)) w').mono fun _ _ x => ⟨x.1, h.step x.2⟩) ?_
    intro a145 U
    replace B := B.keep U (by decide)
    replace s158 := (U.rest 158 (by decide)).trans s158
    have s166 : G a145 166 = .bool true := U.got
    clear U s159 s164 s165
    refine q_pick rfl (B.lt (by decide)) s158 s166 ?_
    intro a146 U
    replace B := B.keep U (by decide)
    have s167 : G a146 167 = .bool true := U.got
    clear U s158 s166
    refine q_move rfl (B.lt (by decide)) s167 ?_
    intro a147 U
    replace B := B.keep U (by decide)
    have s168 : G a147 168 = .bool true := U.got
    clear U s167
    refine q_move (wanted_some rfl D146 (B.lt (by decide)) s168) (B.lt (by decide)) B.b10 ?_
    intro a148 U
    replace B := B.keep U (by decide)
    replace s168 := (U.rest 168 (by decide)).trans s168
    have s169 : G a148 169 = .func (.func 9) #[] #[] := U.got
    clear U
    refine q_move (wanted_some rfl D146 (B.lt (by decide)) s168) (B.lt (by decide)) B.b7 ?_
    intro a149 U
    replace B := B.keep U (by decide)
    replace s168 := (U.rest 168 (by decide)).trans s168
    replace s169 := (U.rest 169 (by decide)).trans s169
    have s170 : G a149 170 = .func (.func 7) #[] #[] := U.got
    clear U
    refine q_load (wanted_some rfl D146 (B.lt (by decide)) s168) (B.lt (by decide)) B.b3 (fun _ h => h.one) ?_
    intro a150 U
    replace B := B.keep U (by decide)
    replace s168 := (U.rest 168 (by decide)).trans s168
    replace s169 := (U.rest 169 (by decide)).trans s169
    replace s170 := (U.rest 170 (by decide)).trans s170
    have s171 : G a150 171 = told (p) := U.got
    clear U
    refine q_load (wanted_some rfl D146 (B.lt (by decide)) s168) (B.lt (by decide)) B.b3 (fun _ h => h.one) ?_
    intro a151 U
    replace B := B.keep U (by decide)
    replace s168 := (U.rest 168 (by decide)).trans s168
    replace s169 := (U.rest 169 (by decide)).trans s169
    replace s170 := (U.rest 170 (by decide)).trans s170
    replace s171 := (U.rest 171 (by decide)).trans s171
    have s172 : G a151 172 = told (p) := U.got
    clear U
    refine q_call2 (wanted_some rfl D146 (B.lt (by decide)) s168) (B.lt (by decide)) s170 s171 s172 callAnd (fun w' h => (and_told (p) (p) (by omega) (by omega) w').mono fun _ _ x => ⟨x.1, h.step x.2⟩) ?_
    intro a152 U
    replace B := B.keep U (by decide)
    replace s168 := (U.rest 168 (by decide)).trans s168
    replace s169 := (U.rest 169 (by decide)).trans s169
    have s173 : G a152 173 = told (min (p) (p)) := U.got
    clear U s170 s171 s172
    refine q_load (wanted_some rfl D146 (B.lt (by decide)) s168) (B.lt (by decide)) B.b3 (fun _ h => h.one) ?_
    intro a153 U
    replace B := B.keep U (by decide)
    replace s168 := (U.rest 168 (by decide)).trans s168
    replace s169 := (U.rest 169 (by decide)).trans s169
    replace s173 := (U.rest 173 (by decide)).trans s173
    have s174 : G a153 174 = told (p) := U.got
    clear U
    refine q_call2 (wanted_some rfl D146 (B.lt (by decide)) s168) (B.lt (by decide)) s169 s173 s174 callSame (fun w' h => ((fun v => same_eq (min (p) (p)) (p) v (by omega)) w').mono fun _ _ x => ⟨x.1, h.step x.2⟩) ?_
    intro a154 U
    replace B := B.keep U (by decide)
    replace s168 := (U.rest 168 (by decide)).trans s168
    have s175 : G a154 175 = .bool true := U.got
    clear U s169 s173 s174
    refine q_pick rfl (B.lt (by decide)) s168 s175 ?_
    intro a155 U
    replace B := B.keep U (by decide)
    have s176 : G a155 176 = .bool true := U.got
    clear U s168 s175
    refine q_move rfl (B.lt (by decide)) s176 ?_
    intro a156 U
    replace B := B.keep U (by decide)
    have s177 : G a156 177 = .bool true := U.got
    clear U s176
    refine q_move (wanted_some rfl D155 (B.lt (by decide)) s177) (B.lt (by decide)) B.b10 ?_
    intro a157 U
    replace B := B.keep U (by decide)
    replace s177 := (U.rest 177 (by decide)).trans s177
    have s178 : G a157 178 = .func (.func 9) #[] #[] := U.got
    clear U
    refine q_move (wanted_some rfl D155 (B.lt (by decide)) s177) (B.lt (by decide)) B.b8 ?_
    intro a158 U
    replace B := B.keep U (by decide)
    replace s177 := (U.rest 177 (by decide)).trans s177
    replace s178 := (U.rest 178 (by decide)).trans s178
    have s179 : G a158 179 = .func (.func 8) #[] #[] := U.got
    clear U
    refine q_load (wanted_some rfl D155 (B.lt (by decide)) s177) (B.lt (by decide)) B.b3 (fun _ h => h.one) ?_
    intro a159 U
    replace B := B.keep U (by decide)
    replace s177 := (U.rest 177 (by decide)).trans s177
    replace s178 := (U.rest 178 (by decide)).trans s178
    replace s179 := (U.rest 179 (by decide)).trans s179
    have s180 : G a159 180 = told (p) := U.got
    clear U
    refine q_move (wanted_some rfl D155 (B.lt (by decide)) s177) (B.lt (by decide)) B.b7 ?_
    intro a160 U
    replace B := B.keep U (by decide)
    replace s177 := (U.rest 177 (by decide)).trans s177
    replace s178 := (U.rest 178 (by decide)).trans s178
    replace s179 := (U.rest 179 (by decide)).trans s179
    replace s180 := (U.rest 180 (by decide)).trans s180
    have s181 : G a160 181 = .func (.func 7) #[] #[] := U.got
    clear U
    refine q_load (wanted_some rfl D155 (B.lt (by decide)) s177) (B.lt (by decide)) B.b3 (fun _ h => h.one) ?_
    intro a161 U
    replace B := B.keep U (by decide)
    replace s177 := (U.rest 177 (by decide)).trans s177
    replace s178 := (U.rest 178 (by decide)).trans s178
    replace s179 := (U.rest 179 (by decide)).trans s179
    replace s180 := (U.rest 180 (by decide)).trans s180
    replace s181 := (U.rest 181 (by decide)).trans s181
    have s182 : G a161 182 = told (p) := U.got
    clear U
    refine q_load (wanted_some rfl D155 (B.lt (by decide)) s177) (B.lt (by decide)) B.b4 (fun _ h => h.two) ?_
    intro a162 U
    replace B := B.keep U (by decide)
    replace s177 := (U.rest 177 (by decide)).trans s177
    replace s178 := (U.rest 178 (by decide)).trans s178
    replace s179 := (U.rest 179 (by decide)).trans s179
    replace s180 := (U.rest 180 (by decide)).trans s180
    replace s181 := (U.rest 181 (by decide)).trans s181
    replace s182 := (U.rest 182 (by decide)).trans s182
    have s183 : G a162 183 = told (q) := U.got
    clear U
    refine q_call2 (wanted_some rfl D155 (B.lt (by decide)) s177) (B.lt (by decide)) s181 s182 s183 callAnd (fun w' h => (and_told (p) (q) (by omega) (by omega) w').mono fun _ _ x => ⟨x.1, h.step x.2⟩) ?_
    intro a163 U
    replace B := B.keep U (by decide)
    replace s177 := (U.rest 177 (by decide)).trans s177
    replace s178 := (U.rest 178 (by decide)).trans s178
    replace s179 := (U.rest 179 (by decide)).trans s179
    replace s180 := (U.rest 180 (by decide)).trans s180
    have s184 : G a163 184 = told (min (p) (q)) := U.got
    clear U s181 s182 s183
    refine q_call2 (wanted_some rfl D155 (B.lt (by decide)) s177) (B.lt (by decide)) s179 s180 s184 callOr (fun w' h => (or_told (p) (min (p) (q)) (by omega) (by omega) w').mono fun _ _ x => ⟨x.1, h.step x.2⟩) ?_
    intro a164 U
    replace B := B.keep U (by decide)
    replace s177 := (U.rest 177 (by decide)).trans s177
    replace s178 := (U.rest 178 (by decide)).trans s178
    have s185 : G a164 185 = told (max (p) (min (p) (q))) := U.got
    clear U s179 s180 s184
    refine q_load (wanted_some rfl D155 (B.lt (by decide)) s177) (B.lt (by decide)) B.b3 (fun _ h => h.one) ?_
    intro a165 U
    replace B := B.keep U (by decide)
    replace s177 := (U.rest 177 (by decide)).trans s177
    replace s178 := (U.rest 178 (by decide)).trans s178
    replace s185 := (U.rest 185 (by decide)).trans s185
    have s186 : G a165 186 = told (p) := U.got
    clear U
    refine q_call2 (wanted_some rfl D155 (B.lt (by decide)) s177) (B.lt (by decide)) s178 s185 s186 callSame (fun w' h => ((fun v => same_eq (max (p) (min (p) (q))) (p) v (by omega)) w').mono fun _ _ x => ⟨x.1, h.step x.2⟩) ?_
    intro a166 U
    replace B := B.keep U (by decide)
    replace s177 := (U.rest 177 (by decide)).trans s177
    have s187 : G a166 187 = .bool true := U.got
    clear U s178 s185 s186
    refine q_pick rfl (B.lt (by decide)) s177 s187 ?_
    intro a167 U
    replace B := B.keep U (by decide)
    have s188 : G a167 188 = .bool true := U.got
    clear U s177 s187
    refine q_assign rfl (B.lt (by decide)) s188 ?_
    intro a168 U
    have defs9 := U.defs.trans B.defs
    have s6 : G a168 6 = .bool true := U.got
    clear U s188
    refine wpQuiet_nil ?_
    intro w9 T9
    go_wp2_with fail
    exact bodyPost_ret (v := .bool true) (by simpa [results, Try.results3, G, Array.getD_eq_getD_getElem?] using s6) defs9 ⟨rfl, T9.old⟩


theorem laws_row (k : Int) (y : Bool) (c x : Int) (t : ByteArray) (la : Option Addr) (ln lc : Nat) (k2 : Int) (y2 : Bool) (c2 x2 : Int) (t2 : ByteArray) (la2 : Option Addr) (ln2 lc2 : Nat) (k3 : Int) (y3 : Bool) (c3 x3 : Int) (t3 : ByteArray) (la3 : Option Addr) (ln3 lc3 : Nat) (w : World) :
    Calls Try.prog 3 #[.agg #[.int .i64 k, .bool y, .int .i64 c, .int .i64 x, .string t, .slice la ln lc], .agg #[.int .i64 k2, .bool y2, .int .i64 c2, .int .i64 x2, .string t2, .slice la2 ln2 lc2], .agg #[.int .i64 k3, .bool y3, .int .i64 c3, .int .i64 x3, .string t3, .slice la3 ln3 lc3]] w fun e w' => e = .returned (.bool true) ∧ Below w.heap.size w w' :=
  laws_any k y c x (.string t) (.slice la ln lc) k2 y2 c2 x2 (.string t2) (.slice la2 ln2 lc2) k3 y3 c3 x3 (.string t3) (.slice la3 ln3 lc3) w
end Go.Proofs.Ytbfalkihkpdieaa
