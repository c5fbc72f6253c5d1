/- Walks: what is asked of a shape. -/
import Derived.Test.YthpjejfgoohhfaaGreatDoorG05
import Derived.WalkKit
import Derived.WalkSpells
import Derived.WalkLawsBesides
import Derived.Deep.QuietTactic
import Derived.Deep.RegionWith
import Derived.BigQuiet
import Derived.RegionTactic
import Derived.ChangeAlike
import Derived.Outline
import Derived.Test.YthpjejfgoohhfaaGreatDoorG04
import Derived.Carry
import Derived.MapKept
import Derived.MapFrom
namespace Go.Proofs.YthpjejfgoohhfaaGreatDoor
open Go.RowKit

abbrev shn (n k : Int) : Value := .agg #[.int .i64 n, .int .i64 k]
abbrev sh (a : Sp) : Value := shn (a.n : Int) a.k

/-- a block of two cells that is carried along -/
structure Bx2 (w : World) (b : Nat) (u v : Value) : Prop where
  low : b < w.heap.size
  at0 : w.cell? ⟨b, 0, none⟩ = some u
  at1 : w.cell? ⟨b, 1, none⟩ = some v
  th0 : w.frozen? ⟨b, 0, none⟩ = false
  th1 : w.frozen? ⟨b, 1, none⟩ = false
theorem Bx2.keep {w w' : World} {b : Nat} {u v : Value} (h : Bx2 w b u v) {B : Nat} (hb : Below B w w') (l : b < B) : Bx2 w' b u v :=
  ⟨Nat.lt_of_lt_of_le h.low hb.size, (hb.cell (p := ⟨b, 0, none⟩) l).trans h.at0, (hb.cell (p := ⟨b, 1, none⟩) l).trans h.at1, (hb.frozen (p := ⟨b, 0, none⟩) l).trans h.th0, (hb.frozen (p := ⟨b, 1, none⟩) l).trans h.th1⟩
theorem Bx2.new (w : World) (t : TypeId) (u v : Value) : Bx2 (w.alloc (.cells #[u, v] t)) w.heap.size u v :=
  ⟨by simp, by go_simp, by go_simp, by go_simp, by go_simp⟩

theorem Bx2.put {w : World} {b : Nat} {u v : Value} (h : Bx2 w b u v) (u' v' : Value) : Bx2 ((w.setCell ⟨b, 0, none⟩ u').setCell ⟨b, 1, none⟩ v') b u' v' := by
  have l := h.low
  have a0 := h.at0
  have a1 := h.at1
  have t0 := h.th0
  have t1 := h.th1
  exact ⟨by simpa using l, by go_simp, by go_simp, by go_simp, by go_simp⟩

theorem Bx2.other {w : World} {b q : Nat} {u v : Value} (h : Bx2 w b u v) (ne : b ≠ q) (o : Nat) (x : Value) : Bx2 (w.setCell ⟨q, o, none⟩ x) b u v := by
  have l := h.low
  have a0 := h.at0
  have a1 := h.at1
  have t0 := h.th0
  have t1 := h.th1
  have ne' : ¬ q = b := fun e => ne e.symm
  exact ⟨by simpa using l, by go_simp, by go_simp, by go_simp, by go_simp⟩
end Go.Proofs.YthpjejfgoohhfaaGreatDoor

/- All but one block is as it was; maps whose entries are known. -/
namespace Go.Proofs.YthpjejfgoohhfaaGreatDoor
open Go.RowKit Go.MapKept

theorem Bx2.but {p : Nat} {w w' : World} {b : Nat} {u v : Value} (h : Bx2 w b u v) (hb : But p w w') (ne : b ≠ p) : Bx2 w' b u v :=
  ⟨Nat.lt_of_lt_of_le h.low hb.size, (hb.cell (q := ⟨b, 0, none⟩) h.low ne).trans h.at0, (hb.cell (q := ⟨b, 1, none⟩) h.low ne).trans h.at1, (hb.frozen (q := ⟨b, 0, none⟩) h.low ne).trans h.th0, (hb.frozen (q := ⟨b, 1, none⟩) h.low ne).trans h.th1⟩

/-- a value's six cells in a block -/
structure V6 (w : World) (b : Nat) (v0 v1 v2 v3 v4 v5 : Value) : Prop where
  low : b < w.heap.size
  tell : w.cell? ⟨b, 0, none⟩ = some v0 ∧ w.cell? ⟨b, 1, none⟩ = some v1 ∧ w.cell? ⟨b, 2, none⟩ = some v2 ∧ w.cell? ⟨b, 3, none⟩ = some v3 ∧ w.cell? ⟨b, 4, none⟩ = some v4 ∧ w.cell? ⟨b, 5, none⟩ = some v5
theorem V6.keep {w w' : World} {b : Nat} {v0 v1 v2 v3 v4 v5 : Value} (h : V6 w b v0 v1 v2 v3 v4 v5) {B : Nat} (hb : Below B w w') (l : b < B) : V6 w' b v0 v1 v2 v3 v4 v5 := by
  have c : ∀ o, w'.cell? ⟨b, o, none⟩ = w.cell? ⟨b, o, none⟩ := fun o => hb.cell (p := ⟨b, o, none⟩) l
  refine ⟨Nat.lt_of_lt_of_le h.low hb.size, ?_⟩
  simp only [c]
  exact h.tell
theorem V6.new (w : World) (t : TypeId) (v0 v1 v2 v3 v4 v5 : Value) : V6 (w.alloc (.cells #[v0, v1, v2, v3, v4, v5] t)) w.heap.size v0 v1 v2 v3 v4 v5 := ⟨by simp, by go_simp, by go_simp, by go_simp, by go_simp, by go_simp, by go_simp⟩

/-- a map whose entries are known -/
structure MapAt (b : Nat) (es : List MapEntry) (c : Nat) (w : World) : Prop where
  low : b < w.heap.size
  map : w.heap[b]? = some (.map es.toArray c)
theorem MapAt.new (w : World) : MapAt w.heap.size [] 0 (w.alloc (.map #[] 0)) := ⟨by simp, by show (w.heap.push _)[w.heap.size]? = _; simp⟩
theorem MapAt.keep {b : Nat} {es : List MapEntry} {c : Nat} {w w' : World} (h : MapAt b es c w) (hb : Below w.heap.size w w') : MapAt b es c w' :=
  ⟨Nat.lt_of_lt_of_le h.low hb.size, (hb.block b h.low).trans h.map⟩
section
variable {b : Nat} {es : List MapEntry} {c : Nat} {w : World} {t kt et : TypeId} {d : TypeDesc} {key v : Value} {o : Oper} {a : Act} {K : Act → World → Prop} {Q : Exit → Act → World → Prop}
theorem MapAt.ins (h : MapAt b es c w) (hm : Tryz.prog.underlying t = some (.map kt et)) (hd : Tryz.prog.underlying kt = some d) (hk : IsKey d key) (hf : Instr.findNow d key es 0 = some none) (v : Value) :
    ∃ w2, (Instr.mapUpdate t (.map (some b)) key v).run Tryz.prog w = .ok () w2 ∧ MapAt b (es ++ [⟨key, v, c⟩]) (c + 1) w2 ∧ But b w w2 := by
  have l := h.low
  have hf' : Instr.findNow d key es.toArray.toList 0 = some none := hf
  refine ⟨{ w with heap := w.heap.setIfInBounds b (.map (es.toArray.push ⟨key, v, c⟩) (c + 1)) }, by simp [Instr.mapUpdate, run_underlying hm, MapKept.run_getObj_map h.map, run_checkKey hd hk, run_findKey hd hf, MapKept.run_setObj_map _ h.map, Result.andThen], ⟨by simpa using l, by simp [l]⟩, rfl, rfl, rfl, by simp, fun k _ hne => ?_⟩
  have hne' : ¬ b = k := fun e => hne e.symm
  simp only [Array.getElem?_setIfInBounds, if_neg hne']
theorem MapAt.look (h : MapAt b es c w) (hm : Tryz.prog.underlying t = some (.map kt et)) (hd : Tryz.prog.underlying kt = some d) (hk : IsKey d key) {i : Nat} (hf : Instr.findNow d key es 0 = some (some (i, v))) :
    (Instr.lookup t (.map (some b)) key false).run Tryz.prog w = .ok v w := by
  simp [Instr.lookup, run_underlying hm, MapKept.run_getObj_map h.map, run_checkKey hd hk, run_findKey hd hf, Result.andThen]
set_option maxRecDepth 100000 in
theorem upon_put (hm : Tryz.prog.underlying t = some (.map kt et)) (hd : Tryz.prog.underlying kt = some d) (M : MapAt b es c w) (hk : IsKey d key) (hf : Instr.findNow d key es 0 = some none)
    (h : ∀ w2, MapAt b (es ++ [⟨key, v, c⟩]) (c + 1) w2 → But b w w2 → Oper.upon Tryz.prog o a K Q (.ok .skip w2)) :
    Oper.upon Tryz.prog o a K Q (((Instr.mapUpdate t (.map (some b)) key v).run Tryz.prog w).andThen fun _ w' => .ok .skip w') := by
  obtain ⟨w2, hr, M2, B2⟩ := M.ins hm hd hk hf v
  rw [hr, Result.andThen_ok]
  exact h w2 M2 B2
set_option maxRecDepth 100000 in
theorem upon_look (hm : Tryz.prog.underlying t = some (.map kt et)) (hd : Tryz.prog.underlying kt = some d) (M : MapAt b es c w) (hk : IsKey d key) {i : Nat} (hf : Instr.findNow d key es 0 = some (some (i, v)))
    (h : Oper.upon Tryz.prog o a K Q (.ok (.value v) w)) :
    Oper.upon Tryz.prog o a K Q (((Instr.lookup t (.map (some b)) key false).run Tryz.prog w).andThen fun x w' => .ok (.value x) w') := by
  rw [M.look hm hd hk hf, Result.andThen_ok]
  exact h
end
end Go.Proofs.YthpjejfgoohhfaaGreatDoor

/- Walks: shapes peeled, what fits, what is joined. -/
namespace Go.Proofs.YthpjejfgoohhfaaGreatDoor
open Go.RowKit

theorem below_via {w0 wp w1 : World} (h : Below w0.heap.size w0 wp) (k : Below wp.heap.size wp w1) : Below w0.heap.size w0 w1 := h.trans (k.mono h.size)
end Go.Proofs.YthpjejfgoohhfaaGreatDoor

/- Maps with texts for keys, as functions. -/
namespace Go.Proofs.YthpjejfgoohhfaaGreatDoor
open Go.RowKit Go.MapKept

/-- a map from texts in block b, as a function -/
structure MapF (b : Nat) (f : ByteArray → Option Value) (w : World) : Prop where
  low : b < w.heap.size
  map : ∃ es c, w.heap[b]? = some (.map es c) ∧ Stamped es c ∧ (∀ x ∈ es.toList, IsKey .string x.key) ∧ ∀ s v, f s = some v ↔ ∃ e ∈ es.toList, e.key = .string s ∧ e.val = v
theorem MapF.new (w : World) : MapF w.heap.size (fun _ => none) (w.alloc (.map #[] 0)) :=
  ⟨by simp, #[], 0, by show (w.heap.push _)[w.heap.size]? = _; simp, stamped_empty 0, by simp, by simp⟩
theorem MapF.keep {b : Nat} {f : ByteArray → Option Value} {w w' : World} (h : MapF b f w) (hb : Below w.heap.size w w') : MapF b f w' := by
  obtain ⟨es, c, h1, h2⟩ := h.map
  exact ⟨Nat.lt_of_lt_of_le h.low hb.size, es, c, (hb.block b h.low).trans h1, h2⟩
theorem MapF.but {b p : Nat} {f : ByteArray → Option Value} {w w' : World} (h : MapF b f w) (hb : But p w w') (ne : b ≠ p) : MapF b f w' := by
  obtain ⟨es, c, h1, h2⟩ := h.map
  exact ⟨Nat.lt_of_lt_of_le h.low hb.size, es, c, (hb.block b h.low ne).trans h1, h2⟩
def updV (f : ByteArray → Option Value) (s : ByteArray) (v : Option Value) : ByteArray → Option Value := fun x => if x = s then v else f x

theorem setBut {b : Nat} {w : World} (o : Obj) : But b w { w with heap := w.heap.setIfInBounds b o } := by
  refine ⟨rfl, rfl, rfl, by simp, fun k _ hne => ?_⟩
  have hne' : ¬ b = k := fun e => hne e.symm
  simp only [Array.getElem?_setIfInBounds, if_neg hne']
theorem key_at {es : Array MapEntry} {c : Nat} (hs : Stamped es c) {i j : Nat} {e e' : MapEntry} (hi : es[i]? = some e) (hj : es[j]? = some e') (hk : e.key = e'.key) : i = j := by
  have hn := hs.2.2
  have li : i < (es.toList.map (·.key)).length := by simpa using (Array.getElem?_eq_some_iff.1 hi).1
  have q : (es.toList.map (·.key))[i]? = (es.toList.map (·.key))[j]? := by simp [hi, hj, hk]
  exact (List.getElem?_inj li hn).1 q

section
variable {b : Nat} {f : ByteArray → Option Value} {w : World} {t kt et : TypeId}
theorem MapF.put (h : MapF b f w) (hm : Tryz.prog.underlying t = some (.map kt et)) (hd : Tryz.prog.underlying kt = some .string) (s : ByteArray) (v : Value) :
    ∃ w2, (Instr.mapUpdate t (.map (some b)) (.string s) v).run Tryz.prog w = .ok () w2 ∧ MapF b (updV f s (some v)) w2 ∧ But b w w2 := by
  obtain ⟨es, c, hb, hst, hks, hf⟩ := h.map
  have l := h.low
  have hk : IsKey .string (.string s) := trivial
  rcases findNow_spec hk es.toList 0 hks with ⟨h1, hno⟩ | ⟨j, e, h1, h2, h3⟩
  · refine ⟨{ w with heap := w.heap.setIfInBounds b (.map (es.push ⟨.string s, v, c⟩) (c + 1)) }, by simp [Instr.mapUpdate, run_underlying hm, MapKept.run_getObj_map hb, run_checkKey hd hk, run_findKey hd h1, MapKept.run_setObj_map _ hb, Result.andThen], ⟨by simpa using l, es.push ⟨.string s, v, c⟩, c + 1, by simp [l], stamped_push hst hno, ?_, ?_⟩, setBut _⟩
    · intro x hx
      simp only [Array.toList_push, List.mem_append, List.mem_singleton] at hx
      rcases hx with hx | rfl
      · exact hks x hx
      · exact hk
    · intro s' v'
      unfold updV
      simp only [Array.toList_push, List.mem_append, List.mem_singleton]
      by_cases hs : s' = s
      · subst hs
        rw [if_pos rfl]
        constructor
        · intro q
          cases q
          exact ⟨_, Or.inr rfl, rfl, rfl⟩
        · rintro ⟨x, hx | rfl, q1, q2⟩
          · exact absurd q1 (hno x hx)
          · rw [← q2]
      · rw [if_neg hs, hf]
        constructor
        · rintro ⟨x, hx, q⟩
          exact ⟨x, Or.inl hx, q⟩
        · rintro ⟨x, hx | rfl, q1, q2⟩
          · exact ⟨x, hx, q1, q2⟩
          · exact absurd (by simpa using q1.symm) hs
  · have hj : es[j]? = some e := by simpa using h2
    have hkey : ∀ e', es[j]? = some e' → ({ e' with key := .string s, val := v } : MapEntry).key = e'.key := fun e' he' => by rw [hj] at he'; cases he'; exact h3.symm
    refine ⟨{ w with heap := w.heap.setIfInBounds b (.map (es.modify j fun e => { e with key := .string s, val := v }) c) }, by simp [Instr.mapUpdate, run_underlying hm, MapKept.run_getObj_map hb, run_checkKey hd hk, run_findKey hd h1, hj, h3, run_keyThatStays hk, MapKept.run_setObj_map _ hb, Result.andThen], ⟨by simpa using l, es.modify j fun e => { e with key := .string s, val := v }, c, by simp [l], stamped_modify hst _ _ (fun _ _ => rfl) (fun e' _ he' => hkey e' he'), isKey_modify hks _ _ hkey, ?_⟩, setBut _⟩
    intro s' v'
    unfold updV
    have hmem : ∀ x, x ∈ (es.modify j fun e => { e with key := .string s, val := v }).toList ↔ (x = { e with key := .string s, val := v }) ∨ ∃ i, i ≠ j ∧ es[i]? = some x := by
      intro x
      rw [Array.mem_toList_iff, Array.mem_iff_getElem?]
      constructor
      · rintro ⟨i, hi⟩
        rw [Array.getElem?_modify] at hi
        by_cases hij : j = i
        · subst hij
          rw [if_pos rfl, hj] at hi
          exact Or.inl (by simpa using hi.symm)
        · rw [if_neg hij] at hi
          exact Or.inr ⟨i, fun q => hij q.symm, hi⟩
      · rintro (rfl | ⟨i, hij, hi⟩)
        · exact ⟨j, by rw [Array.getElem?_modify, if_pos rfl, hj]; rfl⟩
        · exact ⟨i, by rw [Array.getElem?_modify, if_neg (fun q => hij q.symm), hi]⟩
    by_cases hs : s' = s
    · subst hs
      rw [if_pos rfl]
      constructor
      · intro q
        cases q
        exact ⟨_, (hmem _).2 (Or.inl rfl), rfl, rfl⟩
      · rintro ⟨x, hx, q1, q2⟩
        rcases (hmem x).1 hx with rfl | ⟨i, hij, hi⟩
        · rw [← q2]
        · exact absurd (key_at hst hi hj (q1.trans h3.symm)) hij
    · rw [if_neg hs, hf]
      constructor
      · rintro ⟨x, hx, q1, q2⟩
        obtain ⟨i, hi⟩ := Array.mem_iff_getElem?.1 (Array.mem_toList_iff.1 hx)
        refine ⟨x, (hmem x).2 (Or.inr ⟨i, ?_, hi⟩), q1, q2⟩
        rintro rfl
        rw [hj] at hi
        cases hi
        rw [h3] at q1
        exact hs (by simpa using q1.symm)
      · rintro ⟨x, hx, q1, q2⟩
        rcases (hmem x).1 hx with rfl | ⟨i, hij, hi⟩
        · exact absurd (by simpa using q1.symm) hs
        · exact ⟨x, Array.mem_toList_iff.2 (Array.mem_iff_getElem?.2 ⟨i, hi⟩), q1, q2⟩
theorem MapF.found (h : MapF b f w) {s : ByteArray} {v : Value} (hf : f s = some v) : ∃ es c i, w.heap[b]? = some (.map es c) ∧ Instr.findNow .string (.string s) es.toList 0 = some (some (i, v)) := by
  obtain ⟨es, c, hb, hst, hks, hg⟩ := h.map
  obtain ⟨x, hx, q1, q2⟩ := (hg s v).1 hf
  have hk : IsKey .string (.string s) := trivial
  rcases findNow_spec hk es.toList 0 hks with ⟨h1, hno⟩ | ⟨j, e, h1, h2, h3⟩
  · exact absurd q1 (hno x hx)
  · obtain ⟨i, hi⟩ := Array.mem_iff_getElem?.1 (Array.mem_toList_iff.1 hx)
    have hj : es[j]? = some e := by simpa using h2
    obtain rfl := key_at hst hi hj (q1.trans h3.symm)
    rw [hj] at hi
    cases hi
    exact ⟨es, c, _, hb, by rw [h1, q2]⟩
theorem MapF.lost (h : MapF b f w) {s : ByteArray} (hf : f s = none) : ∃ es c, w.heap[b]? = some (.map es c) ∧ Instr.findNow .string (.string s) es.toList 0 = some none := by
  obtain ⟨es, c, hb, hst, hks, hg⟩ := h.map
  have hk : IsKey .string (.string s) := trivial
  rcases findNow_spec hk es.toList 0 hks with ⟨h1, hno⟩ | ⟨j, e, h1, h2, h3⟩
  · exact ⟨es, c, hb, h1⟩
  · have := (hg s e.val).2 ⟨e, List.mem_of_getElem? h2, h3, rfl⟩
    rw [hf] at this
    cases this
theorem MapF.look (h : MapF b f w) (hm : Tryz.prog.underlying t = some (.map kt et)) (hd : Tryz.prog.underlying kt = some .string) {s : ByteArray} {v : Value} (hf : f s = some v) :
    (Instr.lookup t (.map (some b)) (.string s) true).run Tryz.prog w = .ok (.tuple #[v, .bool true]) w := by
  obtain ⟨es, c, i, hb, h1⟩ := h.found hf
  have hk : IsKey .string (.string s) := trivial
  simp [Instr.lookup, run_underlying hm, MapKept.run_getObj_map hb, run_checkKey hd hk, run_findKey hd h1, Result.andThen]
theorem MapF.miss (h : MapF b f w) (hm : Tryz.prog.underlying t = some (.map kt et)) (hd : Tryz.prog.underlying kt = some .string) {s : ByteArray} {z : Value} (hz : (zeroValue et).run Tryz.prog w = .ok z w) (hf : f s = none) :
    (Instr.lookup t (.map (some b)) (.string s) true).run Tryz.prog w = .ok (.tuple #[z, .bool false]) w := by
  obtain ⟨es, c, hb, h1⟩ := h.lost hf
  have hk : IsKey .string (.string s) := trivial
  simp [Instr.lookup, run_underlying hm, MapKept.run_getObj_map hb, run_checkKey hd hk, run_findKey hd h1, hz, Result.andThen]
theorem MapF.del (h : MapF b f w) (hm : Tryz.prog.underlying t = some (.map kt et)) (hd : Tryz.prog.underlying kt = some .string) (s : ByteArray) (ty : TypeId) (ts : Array TypeId) (hts : ts[0]? = some t) :
    ∃ w2, (Builtin.delete_ ts ty #[.map (some b), .string s]).run Tryz.prog w = .ok (.tuple #[]) w2 ∧ MapF b (updV f s none) w2 ∧ But b w w2 := by
  obtain ⟨es, c, hb, hst, hks, hf⟩ := h.map
  have l := h.low
  have hk : IsKey .string (.string s) := trivial
  rcases findNow_spec hk es.toList 0 hks with ⟨h1, hno⟩ | ⟨j, e, h1, h2, h3⟩
  · refine ⟨{ w with heap := w.heap.setIfInBounds b (.map es c) }, by simp [Builtin.delete_, hts, run_underlying hm, MapKept.run_getObj_map hb, run_checkKey hd hk, run_findKey hd h1, MapKept.run_setObj_map _ hb, Result.andThen], ⟨by simpa using l, es, c, by simp [l], hst, hks, ?_⟩, setBut _⟩
    intro s' v'
    unfold updV
    by_cases hs : s' = s
    · subst hs
      rw [if_pos rfl]
      constructor
      · intro q; cases q
      · rintro ⟨x, hx, q1, _⟩
        exact absurd q1 (hno x hx)
    · rw [if_neg hs, hf]
  · have hj : es[j]? = some e := by simpa using h2
    have hlt : j < es.size := (Array.getElem?_eq_some_iff.1 hj).1
    refine ⟨{ w with heap := w.heap.setIfInBounds b (.map (es.eraseIdxIfInBounds j) c) }, by simp [Builtin.delete_, hts, run_underlying hm, MapKept.run_getObj_map hb, run_checkKey hd hk, run_findKey hd h1, MapKept.run_setObj_map _ hb, Result.andThen], ⟨by simpa using l, es.eraseIdxIfInBounds j, c, by simp [l], stamped_erase hst j, ?_, ?_⟩, setBut _⟩
    · intro x hx
      unfold Array.eraseIdxIfInBounds at hx
      rw [dif_pos hlt] at hx
      simp only [Array.toList_eraseIdx] at hx
      exact hks x (List.mem_of_mem_eraseIdx hx)
    · intro s' v'
      unfold updV
      have hmem : ∀ x, x ∈ (es.eraseIdxIfInBounds j).toList ↔ ∃ i, i ≠ j ∧ es[i]? = some x := by
        intro x
        unfold Array.eraseIdxIfInBounds
        rw [dif_pos hlt]
        simp only [Array.toList_eraseIdx]
        rw [List.mem_eraseIdx_iff_getElem?]
        simp only [Array.getElem?_toList]
      by_cases hs : s' = s
      · subst hs
        rw [if_pos rfl]
        constructor
        · intro q; cases q
        · rintro ⟨x, hx, q1, _⟩
          obtain ⟨i, hij, hi⟩ := (hmem x).1 hx
          exact absurd (key_at hst hi hj (q1.trans h3.symm)) hij
      · rw [if_neg hs, hf]
        constructor
        · rintro ⟨x, hx, q1, q2⟩
          obtain ⟨i, hi⟩ := Array.mem_iff_getElem?.1 (Array.mem_toList_iff.1 hx)
          refine ⟨x, (hmem x).2 ⟨i, ?_, hi⟩, q1, q2⟩
          rintro rfl
          rw [hj] at hi
          cases hi
          rw [h3] at q1
          exact hs (by simpa using q1.symm)
        · rintro ⟨x, hx, q1, q2⟩
          obtain ⟨i, _, hi⟩ := (hmem x).1 hx
          exact ⟨x, Array.mem_toList_iff.2 (Array.mem_iff_getElem?.2 ⟨i, hi⟩), q1, q2⟩
end
end Go.Proofs.YthpjejfgoohhfaaGreatDoor
