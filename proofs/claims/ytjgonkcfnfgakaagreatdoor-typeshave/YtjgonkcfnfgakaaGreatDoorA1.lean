/- Walks: the table of functions is made. -/
import Derived.Test.YtjgonkcfnfgakaaGreatDoorU9
import Derived.Carry
import Derived.MapKept
import Derived.MapFrom
namespace Go.Proofs.YtjgonkcfnfgakaaGreatDoor
open Go.RowKit Go.MapKept

/-- a new map with texts for keys -/
structure MapIn (w0 : World) (b : Nat) (w : World) : Prop where
  lo : w0.heap.size ≤ b
  low : b < w.heap.size
  map : ∃ es clock, w.heap[b]? = some (.map es clock) ∧ ∀ x ∈ es.toList, IsKey .string x.key
  old : Below w0.heap.size w0 w
theorem MapIn.keep {w0 w w' : World} {b : Nat} (h : MapIn w0 b w) (hb : Below w.heap.size w w') : MapIn w0 b w' := by
  obtain ⟨es, c, h1, h2⟩ := h.map
  exact ⟨h.lo, Nat.lt_of_lt_of_le h.low hb.size, ⟨es, c, (hb.block b h.low).trans h1, h2⟩, below_via h.old hb⟩
theorem MapIn.new (w : World) : MapIn w w.heap.size (w.alloc (.map #[] 0)) :=
  ⟨Nat.le_refl _, by simp, ⟨#[], 0, by show (w.heap.push _)[w.heap.size]? = _; simp, by simp⟩, (Below.refl _ _).alloc (Nat.le_refl _) _⟩
theorem MapIn.set {w0 w : World} {b : Nat} (h : MapIn w0 b w) (es : Array MapEntry) (c : Nat) (hk : ∀ x ∈ es.toList, IsKey .string x.key) : MapIn w0 b { w with heap := w.heap.setIfInBounds b (.map es c) } := by
  have l := h.low
  refine ⟨h.lo, by simpa using l, ⟨es, c, by simp [l], hk⟩, h.old.os, h.old.tape, h.old.output, by simpa using h.old.size, fun k hk => ?_⟩
  have hne : ¬ b = k := by have := h.lo; omega
  simp only [Array.getElem?_setIfInBounds, if_neg hne]
  exact h.old.block k hk
theorem MapIn.ins {w0 w : World} {b : Nat} {t kt et : TypeId} (h : MapIn w0 b w) (hm : Tryz.prog.underlying t = some (.map kt et)) (hd : Tryz.prog.underlying kt = some .string) (s : ByteArray) (v : Value) :
    ∃ w2, (Instr.mapUpdate t (.map (some b)) (.string s) v).run Tryz.prog w = .ok () w2 ∧ MapIn w0 b w2 := by
  obtain ⟨es, c, hb, hks⟩ := h.map
  have hk : IsKey .string (.string s) := trivial
  rcases findNow_spec hk es.toList 0 hks with ⟨h1, _⟩ | ⟨j, e, h1, h2, h3⟩
  · refine ⟨_, by simp [Instr.mapUpdate, run_underlying hm, MapKept.run_getObj_map hb, run_checkKey hd hk, run_findKey hd h1, MapKept.run_setObj_map _ hb, Result.andThen]; rfl, h.set _ _ ?_⟩
    intro x hx
    simp only [Array.toList_push, List.mem_append, List.mem_singleton] at hx
    rcases hx with hx | rfl
    · exact hks x hx
    · exact hk
  · have hj : es[j]? = some e := by simpa using h2
    refine ⟨_, by simp [Instr.mapUpdate, run_underlying hm, MapKept.run_getObj_map hb, run_checkKey hd hk, run_findKey hd h1, hj, h3, run_keyThatStays hk, MapKept.run_setObj_map _ hb, Result.andThen]; rfl, h.set _ _ ?_⟩
    intro x hx
    rcases MapFrom.mem_modify hx with hx | ⟨e', _, rfl⟩
    · exact hks x hx
    · exact hk
set_option maxRecDepth 100000 in
theorem upon_ins {w0 w : World} {b : Nat} {o : Oper} {a : Act} {K : Act → World → Prop} {Q : Exit → Act → World → Prop} {s : ByteArray} {v : Value} {t kt et : TypeId} (hm : Tryz.prog.underlying t = some (.map kt et)) (hd : Tryz.prog.underlying kt = some .string)
    (M : MapIn w0 b w) (h : ∀ w2, MapIn w0 b w2 → Oper.upon Tryz.prog o a K Q (.ok .skip w2)) :
    Oper.upon Tryz.prog o a K Q (((Instr.mapUpdate t (.map (some b)) (.string s) v).run Tryz.prog w).andThen fun _ w' => .ok .skip w') := by
  obtain ⟨w2, hr, M2⟩ := M.ins hm hd s v
  rw [hr, Result.andThen_ok]
  exact h w2 M2

set_option maxHeartbeats 4000000 in
theorem always_any (k : Int) (w : World) :
    Calls Tryz.prog 48 #[.int .i64 k] w fun e w' => ∃ f x y, e = .returned (.func f x y) ∧ Below w.heap.size w w' := by
  go_enter Tryz.func48, Tryz.ntmps48
  go_wp2_with fail
  go_ret
  exact ⟨_, _, _, rfl, (Below.refl _ _).alloc (Nat.le_refl _) _⟩

end Go.Proofs.YtjgonkcfnfgakaaGreatDoor
