/- Walks: twin. -/
import Derived.Test.YtdkgapapdjefdaaGreatDoorH03
import Derived.Lib.AppendZeros
import Derived.Test.YtdkgapapdjefdaaGreatDoorG05
namespace Go.Proofs.YtdkgapapdjefdaaGreatDoor
open Go.RowKit

theorem zero_words (k : Nat) : Builtin.zeroCells (Value.int IntKind.u32 0).cells k = ((List.replicate k 0).map ic).toArray := by
  apply Array.ext
  · simp [Builtin.zeroCells, Value.cells]
  · intro i h1 h2
    simp [Builtin.zeroCells, Value.cells, ic, Nat.mod_one]
theorem run_twin (p : Option Addr) (cap : Nat) (us : List Nat) (w : World) (hu : WS w (.slice p us.length cap) us) (h1 : us ≠ []) (l1 : us.length ≤ 1000000) :
    ∃ u w', (Builtin.append_ #[132, 132] 132 #[.slice none 0 0, .slice p us.length cap]).run Tryz.prog w = .ok u w' ∧ WS w' u us ∧ Below w.heap.size w w' := by
  obtain ⟨i, hi, z0, z1, z2⟩ := info_u32
  obtain ⟨p', cap', e, hc, hm, ok, hk⟩ := hu
  cases e
  rcases hk with hk | ⟨b, off, cs, rfl, hr, hcs⟩
  · exact absurd hk h1
  have hpos : 0 < us.length := List.length_pos_iff.2 h1
  have h := run_append_nil (P := Tryz.prog) w 132 132 190 i _ Tryz.underlying132 hi z0 ⟨b, off, none⟩ us.length cap (us.map ic) (by rw [z1]; simp) (fun j v hv => by
    rw [List.getElem?_map] at hv
    obtain ⟨x, hx, rfl⟩ := Option.map_eq_some_iff.1 hv
    rw [Addr.add_lit]
    exact hr.cell (hcs j x hx)) hpos (by omega) (by rw [z2]; omega)
  rw [zero_words] at h
  refine ⟨_, _, h, ⟨_, _, rfl, grownCap_ge _ _ _ _, ?_, ok, .inr ⟨w.heap.size, 0, us ++ List.replicate (grownCap w us.length 0 190 - us.length) 0, rfl, ?_, fun j x hx => ?_⟩⟩, (Below.refl w.heap.size w).drew.alloc (Nat.le_refl _) _⟩
  · have := grownCap_le_maxLen w us.length 0 190 (by unfold maxLen; omega)
    unfold maxLen at this
    omega
  · rw [List.append_toArray, ← List.map_append]
    exact RW.new w.drew _
  · rw [Nat.zero_add, List.getElem?_append_left (List.getElem?_eq_some_iff.1 hx).1]
    exact hx
theorem run_twin0 (p : Option Addr) (cap : Nat) (w : World) :
    (Builtin.append_ #[132, 132] 132 #[.slice none 0 0, .slice p 0 cap]).run Tryz.prog w = .ok (.slice none 0 0) w := by
  obtain ⟨i, hi, z0, z1, z2⟩ := info_u32
  have hf : (Builtin.firstCells i.size 0 (.slice p 0 cap)).run Tryz.prog w = .ok #[] w := by
    cases p with
    | none => exact run_firstCells_none (P := Tryz.prog) w i.size 0 0 cap
    | some a => exact run_firstCells_some (P := Tryz.prog) w i.size 0 a 0 cap [] (by simp) (fun j v h => by simp at h)
  simp [Builtin.append_, run_underlying Tryz.underlying132, sizeOf, typeInfo, hi, Builtin.lenOf, hf]

set_option maxHeartbeats 1000000 in
theorem twin_any (u : Value) (a : Nat) (w : World) (hu : WS w u (Bg.wd a)) (ha : (Bg.wd a).length ≤ 100000) :
    Calls Tryz.prog 154 #[u] w fun e w' => ∃ u, e = .returned u ∧ WS w' u (Bg.wd a) ∧ Below w.heap.size w w' := by
  obtain ⟨p, cap, rfl, _⟩ := id hu
  generalize Bg.wd a = us at *
  by_cases h0 : us = []
  · subst h0
    have hr := run_twin0 p cap w
    rw [List.length_nil]
    go_enter Tryz.func154, Tryz.ntmps154
    go_wp2_with (at_builtin; refine Lib.wpList_append_run _ rfl _ _ _ _ rfl _ _ rfl rfl _ _ hr ?_)
    go_ret
    exact ⟨_, rfl, WS.nil _, Below.refl _ _⟩
  · obtain ⟨v, w1, hr, hv, hb⟩ := run_twin p cap us w hu h0 (by omega)
    have HV := hide hv
    have HB := hide hb
    clear hu hv hb
    go_enter Tryz.func154, Tryz.ntmps154
    go_wp2_with (at_builtin; refine Lib.wpList_append_run _ rfl _ _ _ _ rfl _ _ rfl rfl _ _ hr ?_)
    go_ret
    exact ⟨_, rfl, unhide HV, unhide HB⟩
end Go.Proofs.YtdkgapapdjefdaaGreatDoor

/- Whole numbers in memory: a sign and words; give. -/
namespace Go.Proofs.YtdkgapapdjefdaaGreatDoor
open Go.RowKit

/-- a place for a whole number -/
def ZA (w : World) (b o : Nat) : Prop := ∃ c t, w.heap[b]? = some (.cells c t (0, 0)) ∧ t ≠ 190 ∧ o + 1 < c.size
/-- a whole number in its place -/
structure IA (w : World) (b o : Nat) (z : Int) : Prop where
  place : ZA w b o
  neg : w.cell? ⟨b, o, none⟩ = some (.bool (decide (z < 0)))
  abs : ∃ v, w.cell? ⟨b, o + 1, none⟩ = some v ∧ WS w v (Bg.wd z.natAbs)
/-- all but a whole number's two cells is as it was -/
structure Out (b o : Nat) (w w' : World) : Prop where
  os : w'.os = w.os
  tape : w'.tape = w.tape
  output : w'.output = w.output
  size : w.heap.size ≤ w'.heap.size
  block : ∀ k, k < w.heap.size → k ≠ b → w'.heap[k]? = w.heap[k]?
  self : ∀ c t, w.heap[b]? = some (.cells c t (0, 0)) → ∃ c', w'.heap[b]? = some (.cells c' t (0, 0)) ∧ c'.size = c.size ∧ ∀ i, i ≠ o → i ≠ o + 1 → c'[i]? = c[i]?

theorem ZA.low {w : World} {b o : Nat} (h : ZA w b o) : b < w.heap.size := by
  obtain ⟨c, t, h1, _⟩ := h
  exact (Array.getElem?_eq_some_iff.1 h1).1
theorem ZA.frozen {w : World} {b o : Nat} (h : ZA w b o) (i : Nat) : w.frozen? ⟨b, i, none⟩ = false := by
  obtain ⟨c, t, h1, _⟩ := h
  simp [World.frozen?, h1]
theorem ZA.cell {w : World} {b o : Nat} (h : ZA w b o) : (∃ v, w.cell? ⟨b, o, none⟩ = some v) ∧ ∃ v, w.cell? ⟨b, o + 1, none⟩ = some v := by
  obtain ⟨c, t, h1, _, h2⟩ := h
  constructor
  · exact ⟨c[o]'(by omega), by simp [World.cell?, h1]⟩
  · exact ⟨c[o + 1], by simp [World.cell?, h1]⟩
theorem Out.refl (b o : Nat) (w : World) : Out b o w w := ⟨rfl, rfl, rfl, Nat.le_refl _, fun _ _ _ => rfl, fun c _ h => ⟨c, h, rfl, fun _ _ _ => rfl⟩⟩
theorem Out.of {b o : Nat} {w w' : World} (h : Below w.heap.size w w') : Out b o w w' :=
  ⟨h.os, h.tape, h.output, h.size, fun k hk _ => h.block k hk, fun c _ hc => ⟨c, (h.block b (Array.getElem?_eq_some_iff.1 hc).1).trans hc, rfl, fun _ _ _ => rfl⟩⟩
theorem Out.trans {b o : Nat} {w1 w2 w3 : World} (h : Out b o w1 w2) (k : Out b o w2 w3) : Out b o w1 w3 :=
  ⟨k.os.trans h.os, k.tape.trans h.tape, k.output.trans h.output, Nat.le_trans h.size k.size, fun i hi hb => (k.block i (Nat.lt_of_lt_of_le hi h.size) hb).trans (h.block i hi hb), fun c t hc => by
    obtain ⟨c2, h2, s2, e2⟩ := h.self c t hc
    obtain ⟨c3, h3, s3, e3⟩ := k.self c2 t h2
    exact ⟨c3, h3, s3.trans s2, fun i a b => (e3 i a b).trans (e2 i a b)⟩⟩
theorem Out.set {b o i : Nat} {w : World} {v : Value} (hi : i = o ∨ i = o + 1) : Out b o w (w.setCell ⟨b, i, none⟩ v) :=
  ⟨rfl, rfl, rfl, by simp [World.setCell], fun k _ hk => Below.heap_setCell w ⟨b, i, none⟩ v k hk, fun c _ hc => by
    refine ⟨c.setIfInBounds i v, ?_, by simp, fun l h1 h2 => ?_⟩
    · simp only [World.setCell, Array.getElem?_modify, if_true, hc, Option.map_some]
      rfl
    · rw [Array.getElem?_setIfInBounds_ne (by omega)]⟩
theorem Out.below {b o B : Nat} {w w' : World} (h : Out b o w w') (hb : B ≤ b) (hw : B ≤ w.heap.size) : Below B w w' :=
  ⟨h.os, h.tape, h.output, h.size, fun k hk => h.block k (by omega) (by omega)⟩
theorem Out.kw {b o : Nat} {w w' : World} (h : Out b o w w') (hz : ZA w b o) : KW w w' := fun k cs hk => by
  by_cases e : k = b
  · subst e
    obtain ⟨c, t, h1, h2, _⟩ := hz
    unfold RW at hk
    rw [hk] at h1
    cases h1
    exact absurd rfl h2
  · exact (h.block k hk.low e).trans hk
theorem ZA.below {w w' : World} {b o : Nat} (h : ZA w b o) (hb : Below w.heap.size w w') : ZA w' b o := by
  have l := h.low
  obtain ⟨c, t, h1, h2⟩ := h
  exact ⟨c, t, (hb.block b l).trans h1, h2⟩
theorem ZA.out {w w' : World} {b o b2 o2 : Nat} (h : ZA w b o) (hb : Out b2 o2 w w') : ZA w' b o := by
  have l := h.low
  obtain ⟨c, t, h1, h2, h3⟩ := h
  by_cases e : b = b2
  · subst e
    obtain ⟨c', g1, g2, _⟩ := hb.self c t h1
    exact ⟨c', t, g1, h2, by omega⟩
  · exact ⟨c, t, (hb.block b l e).trans h1, h2, h3⟩
theorem IA.below {w w' : World} {b o : Nat} {z : Int} (h : IA w b o z) (hb : Below w.heap.size w w') : IA w' b o z := by
  have l := h.place.low
  obtain ⟨v, h1, h2⟩ := h.abs
  exact ⟨h.place.below hb, (hb.cell (p := ⟨b, o, none⟩) l).trans h.neg, v, (hb.cell (p := ⟨b, o + 1, none⟩) l).trans h1, h2.below hb⟩
/-- another whole number is as it was -/
theorem IA.out {w w' : World} {b o b2 o2 : Nat} {z : Int} (h : IA w b o z) (hb : Out b2 o2 w w') (h2 : ZA w b2 o2) (ne : b ≠ b2 ∨ o + 1 < o2 ∨ o2 + 1 < o) : IA w' b o z := by
  have l := h.place.low
  obtain ⟨v, h1, hw⟩ := h.abs
  have key : ∀ i, i = o ∨ i = o + 1 → w'.cell? ⟨b, i, none⟩ = w.cell? ⟨b, i, none⟩ := fun i hi => by
    by_cases e : b = b2
    · subst e
      obtain ⟨c, t, g1, _⟩ := h.place
      obtain ⟨c', g2, _, g3⟩ := hb.self c t g1
      have := g3 i (by omega) (by omega)
      simp [World.cell?, g1, g2, this]
    · exact World.cell?_of_block (w := w) (hb.block b l e)
  exact ⟨h.place.out hb, (key o (.inl rfl)).trans h.neg, v, (key (o + 1) (.inr rfl)).trans h1, hw.keep (hb.kw h2)⟩

theorem IA.gave {w : World} {b o : Nat} {v : Value} {z : Int} {x : Bool} (hz : ZA w b o) (hv : WS w v (Bg.wd z.natAbs)) (hx : x = decide (z < 0)) : IA ((w.setCell ⟨b, o + 1, none⟩ v).setCell ⟨b, o, none⟩ (.bool x)) b o z ∧ Out b o w ((w.setCell ⟨b, o + 1, none⟩ v).setCell ⟨b, o, none⟩ (.bool x)) := by
  have O1 : Out b o w (w.setCell ⟨b, o + 1, none⟩ v) := Out.set (.inr rfl)
  have O2 : Out b o (w.setCell ⟨b, o + 1, none⟩ v) ((w.setCell ⟨b, o + 1, none⟩ v).setCell ⟨b, o, none⟩ (.bool x)) := Out.set (.inl rfl)
  obtain ⟨⟨x0, c0⟩, x1, c1⟩ := hz.cell
  subst hx
  refine ⟨⟨(hz.out O1).out O2, ?_, v, ?_, hv.keep ((O1.trans O2).kw hz)⟩, O1.trans O2⟩
  · simp [go_sem, c0]
  · simp [go_sem, c1]

set_option maxHeartbeats 1000000 in
theorem give_any (b o : Nat) (neg : Bool) (n : Nat) (v : Value) (w : World) (hz : ZA w b o) (hv : WS w v (Bg.wd n)) :
    Calls Tryz.prog 128 #[.pointer (some ⟨b, o, none⟩), .bool neg, v] w fun e w' => e = .returned (.pointer (some ⟨b, o, none⟩)) ∧ IA w' b o (if neg = true then -(n : Int) else n) ∧ Out b o w w' := by
  obtain ⟨p, cap, rfl, -⟩ := id hv
  have HV := hide hv
  have HZ := hide hz
  obtain ⟨⟨x0, c0⟩, x1, c1⟩ := hz.cell
  have f0 := hz.frozen o
  have f1 := hz.frozen (o + 1)
  have HL : Hid ((0 < (Bg.wd n).length) ↔ n ≠ 0) := hide (by
    rw [List.length_pos_iff, Ne, Bg.wd_nil])
  clear hv hz
  go_enter Tryz.func128, Tryz.ntmps128
  cases neg with
  | false =>
    have HG := hide (IA.gave (z := (n : Int)) (x := false) (unhide HZ) (unhide HV) (by simp))
    go_wp2
    all_goals
      go_ret
      exact ⟨rfl, unhide HG⟩
  | true =>
    by_cases h0 : 0 < (Bg.wd n).length
    · have h0' : (0 : Int) < ((Bg.wd n).length : Int) := by omega
      have hn0 := (unhide HL).1 h0
      have HG := hide (IA.gave (z := -(n : Int)) (x := true) (unhide HZ) (by rw [Int.natAbs_neg, Int.natAbs_natCast]; exact unhide HV) (by simp; omega))
      go_wp2
      all_goals
        go_ret
        exact ⟨rfl, unhide HG⟩
    · have h0' : ¬ (0 : Int) < ((Bg.wd n).length : Int) := by omega
      have HN0 : Hid (n = 0) := hide (Classical.byContradiction fun h => h0 ((unhide HL).2 h))
      have HG := hide (IA.gave (z := -(n : Int)) (x := false) (unhide HZ) (by rw [Int.natAbs_neg, Int.natAbs_natCast]; exact unhide HV) (by have := unhide HN0; simp; omega))
      go_wp2
      all_goals
        go_ret
        exact ⟨rfl, unhide HG⟩
end Go.Proofs.YtdkgapapdjefdaaGreatDoor

/- A region that draws its order and whose last call writes: by a list that says what each slot holds. -/
namespace Go.Proofs.YtdkgapapdjefdaaGreatDoor
open Go.RowKit

def Ds.isLit : Ds → Value → Prop
  | .lit v, x => x = v
  | .mem _ _, _ => True
  | .any, _ => True
def OkX (g : Bool) (l : List Ds) (i : Nat) (v : Value) (w : World) : Prop := if g = true then ((l[i]?).getD .any).isLit v else OkL l i v w
theorem okx_lit {g : Bool} {l : List Ds} {i : Nat} {v u : Value} {w : World} (h : OkX g l i v w) (hl : (l[i]?).getD .any = .lit u) : v = u := by
  unfold OkX at h
  split at h
  · rw [hl] at h; exact h
  · unfold OkL at h
    rw [hl] at h; exact h
theorem okx_mem {g : Bool} {l : List Ds} {i : Nat} {v : Value} {w : World} (h : OkX g l i v w) (hg : g = false) : OkL l i v w := by
  unfold OkX at h
  rw [hg] at h
  exact h
theorem okx_of {g : Bool} {l : List Ds} {i : Nat} {u : Value} {w : World} (hl : (l[i]?).getD .any = .lit u) : OkX g l i u w := by
  unfold OkX
  split
  · rw [hl]; exact rfl
  · unfold OkL
    rw [hl]; exact rfl

structure RO (w0 : World) (a0 : Act) (N : Nat) (D : List Nat) (gi : Nat) (Fin : World → Prop) (l : List Ds) (L : Nat → Bool) (a : Act) (w : World) : Prop where
  size : a.tmps.size = N
  defs : a.defers = []
  rest : ∀ j, (∀ i d, L i = true → D[i]? = some d → d ≠ j) → G a j = G a0 j
  got : ∀ i d, L i = true → D[i]? = some d → OkX (L gi) l i (G a d) w
  old : L gi = false → Below w0.heap.size w0 w
  fin : L gi = true → Fin w
section
variable {w0 w w' : World} {a0 a a' : Act} {N gi : Nat} {D : List Nat} {Fin : World → Prop} {l : List Ds} {L : Nat → Bool} {ops : Array Oper} {Q : Exit → Act → World → Prop} {i d : Nat} {o : Oper}
theorem RO.keep (h : RO w0 a0 N D gi Fin l L a w) {s : Nat} (hs : s ∉ D) : G a s = G a0 s :=
  h.rest s (fun _ _ _ hd e => hs (e ▸ List.mem_of_getElem? hd))
theorem RO.start (h1 : a0.tmps.size = N) (h2 : a0.defers = []) (h3 : Below w0.heap.size w0 w) : RO w0 a0 N D gi Fin l (fun _ => false) a0 w :=
  ⟨h1, h2, fun _ _ => rfl, fun _ _ h => (by cases h), fun _ => h3, fun h => (by cases h)⟩
theorem nodup_at (nd : D.Nodup) {j : Nat} (hi : D[i]? = some d) (hj : D[j]? = some d) : j = i := by
  obtain ⟨l1, e1⟩ := List.getElem?_eq_some_iff.1 hi
  obtain ⟨l2, e2⟩ := List.getElem?_eq_some_iff.1 hj
  exact (List.getElem_inj nd).1 (e2.trans e1.symm)
theorem RO.step (h : RO w0 a0 N D gi Fin l L a w) (nd : D.Nodup) (i : Nat) {d : Nat} {v : Value} (hi : D[i]? = some d) (ne : gi ≠ i) (U : Upd a d v a') (hd : a'.defers = a.defers) (hw : w' = w ∨ (L gi = false ∧ Below w.heap.size w w')) (ok : OkX (L gi) l i v w') :
    RO w0 a0 N D gi Fin l (fun j => j == i || L j) a' w' := by
  have eg : (gi == i || L gi) = L gi := by simp [ne]
  refine ⟨U.size.trans h.size, hd.trans h.defs, fun j hj => ?_, fun j e hj he => ?_, fun hg => ?_, fun hg => ?_⟩
  · have hne : j ≠ d := fun e => hj i d (by simp) hi e.symm
    rw [U.rest j hne]
    exact h.rest j (fun i' d' hi' hd' => hj i' d' (by simp [hi']) hd')
  · show OkX (gi == i || L gi) l j (G a' e) w'
    rw [eg]
    by_cases e1 : j = i
    · subst e1
      rw [hi] at he
      cases he
      rw [U.got]
      exact ok
    · have hL : L j = true := by simpa [e1] using hj
      have hne : e ≠ d := fun q => e1 (nodup_at nd hi (q ▸ he))
      rw [U.rest e hne]
      have g := h.got j e hL he
      rcases hw with rfl | ⟨hg, hb⟩
      · exact g
      · unfold OkX at *
        rw [hg] at g ⊢
        exact OkL.mono l j _ _ _ hb g
  · have hg' : L gi = false := by rw [← eg]; exact hg
    rcases hw with rfl | ⟨_, hb⟩
    · exact h.old hg'
    · exact (h.old hg').trans (hb.mono (h.old hg').size)
  · have hg' : L gi = true := by rw [← eg]; exact hg
    rcases hw with rfl | ⟨hq, _⟩
    · exact h.fin hg'
    · rw [hg'] at hq; cases hq
theorem RO.last (h : RO w0 a0 N D gi Fin l L a w) (nd : D.Nodup) {d : Nat} {v : Value} (hi : D[gi]? = some d) (hg : L gi = false) (U : Upd a d v a') (hd : a'.defers = a.defers) (ok : ((l[gi]?).getD .any).isLit v) (fin : Fin w') :
    RO w0 a0 N D gi Fin l (fun j => j == gi || L j) a' w' := by
  have eg : (gi == gi || L gi) = true := by simp
  refine ⟨U.size.trans h.size, hd.trans h.defs, fun j hj => ?_, fun j e hj he => ?_, fun hq => ?_, fun _ => fin⟩
  · have hne : j ≠ d := fun e => hj gi d (by simp) hi e.symm
    rw [U.rest j hne]
    exact h.rest j (fun i' d' hi' hd' => hj i' d' (by simp [hi']) hd')
  · show OkX (gi == gi || L gi) l j (G a' e) w'
    rw [eg]
    unfold OkX
    rw [if_pos rfl]
    by_cases e1 : j = gi
    · subst e1
      rw [hi] at he
      cases he
      rw [U.got]
      exact ok
    · have hL : L j = true := by simpa [e1] using hj
      have hne : e ≠ d := fun q => e1 (nodup_at nd hi (q ▸ he))
      rw [U.rest e hne]
      have g := okx_mem (h.got j e hL he) hg
      unfold OkL at g
      generalize (l[j]?).getD .any = x at g ⊢
      cases x with
      | lit u => exact g
      | mem P k => trivial
      | any => trivial
  · simp at hq
theorem ro_val (h : RO w0 a0 N D gi Fin l L a w) (nd : D.Nodup) (hi : ops[i]? = some o) (hd : o.dst = some d) (hDi : D[i]? = some d) (hN : d < N) (ne : gi ≠ i) (hw : Region.wanted o (yielded ops a.tmps) = true) {v : Value} (r : (execOp a.eval o).run Tryz.prog w = .ok (.value v) w) (hl : (l[i]?).getD .any = .lit v) :
    wpOp Tryz.prog ops Q i (fun a' w' => RO w0 a0 N D gi Fin l (fun j => j == i || L j) a' w') a w :=
  o_val hi hd hw (by rw [h.size]; exact hN) r fun _ U hf => h.step nd i hDi ne U hf (.inl rfl) (okx_of hl)
theorem ro_call (h : RO w0 a0 N D gi Fin l L a w) (nd : D.Nodup) (hi : ops[i]? = some o) (hd : o.dst = some d) (hDi : D[i]? = some d) (hN : d < N) (ne : gi ≠ i) (hg : L gi = false) (hw : Region.wanted o (yielded ops a.tmps) = true) {n : Nat} {args : Array Value} (r : (execOp a.eval o).run Tryz.prog w = .ok (.enter n args) w)
    {R : Value → World → Prop} (hc : Calls Tryz.prog n args w fun e w' => ∃ v, e = .returned v ∧ R v w' ∧ Below w.heap.size w w') (ok : ∀ v w', R v w' → OkL l i v w') :
    wpOp Tryz.prog ops Q i (fun a' w' => RO w0 a0 N D gi Fin l (fun j => j == i || L j) a' w') a w :=
  o_enter (R := fun v w' => R v w' ∧ Below w.heap.size w w') hi hd hw (by rw [h.size]; exact hN) r hc fun v _ w' hR U hf => h.step nd i hDi ne U hf (.inr ⟨hg, hR.2⟩) (by unfold OkX; rw [hg]; exact ok v w' hR.1)
theorem ro_last (h : RO w0 a0 N D gi Fin l L a w) (nd : D.Nodup) (hi : ops[gi]? = some o) (hd : o.dst = some d) (hDi : D[gi]? = some d) (hN : d < N) (hg : L gi = false) (hw : Region.wanted o (yielded ops a.tmps) = true) {n : Nat} {args : Array Value} (r : (execOp a.eval o).run Tryz.prog w = .ok (.enter n args) w)
    {R : Value → World → Prop} (hc : Calls Tryz.prog n args w fun e w' => ∃ v, e = .returned v ∧ R v w') (ok : ∀ v w', R v w' → ((l[gi]?).getD .any).isLit v ∧ Fin w') :
    wpOp Tryz.prog ops Q gi (fun a' w' => RO w0 a0 N D gi Fin l (fun j => j == gi || L j) a' w') a w :=
  o_enter (R := R) hi hd hw (by rw [h.size]; exact hN) r hc fun v _ w' hR U hf => h.last nd hDi hg U hf (ok v w' hR).1 (ok v w' hR).2
end

section
variable {a : Act} {w : World} {d : Option Nat} {t : TypeId} {p : String} {af : Array Edge} {g : Option (Nat × Bool)}
theorem run_nil {x : Operand} {ad : Addr} (h : a.eval x = .pointer (some ad)) : (execOp a.eval ⟨d, .nilCheck x, t, p, af, g⟩).run Tryz.prog w = .ok (.value (.pointer (some ad))) w := by
  generalize a.eval = E at h ⊢
  simp [go_sem, h]
theorem run_fld0 {x : Operand} {b o : Nat} (h : a.eval x = .pointer (some ⟨b, o, none⟩)) : (execOp a.eval ⟨d, .fieldAddr 134 x 0, t, p, af, g⟩).run Tryz.prog w = .ok (.value (.pointer (some ⟨b, o, none⟩))) w := by
  generalize a.eval = E at h ⊢
  simp [go_sem, h]
theorem run_fld1 {x : Operand} {b o : Nat} (h : a.eval x = .pointer (some ⟨b, o, none⟩)) : (execOp a.eval ⟨d, .fieldAddr 134 x 1, t, p, af, g⟩).run Tryz.prog w = .ok (.value (.pointer (some ⟨b, o + 1, none⟩))) w := by
  generalize a.eval = E at h ⊢
  simp [go_sem, h]
theorem run_ldB {x : Operand} {ad : Addr} {v : Bool} (h : a.eval x = .pointer (some ad)) (hc : w.cell? ad = some (.bool v)) : (execOp a.eval ⟨d, .load 4 x, t, p, af, g⟩).run Tryz.prog w = .ok (.value (.bool v)) w := by
  generalize a.eval = E at h ⊢
  simp [go_sem, h, hc]
theorem run_ldW {x : Operand} {ad : Addr} {s : Option Addr} {n c : Nat} (h : a.eval x = .pointer (some ad)) (hc : w.cell? ad = some (.slice s n c)) : (execOp a.eval ⟨d, .load 132 x, t, p, af, g⟩).run Tryz.prog w = .ok (.value (.slice s n c)) w := by
  generalize a.eval = E at h ⊢
  simp [go_sem, h, hc]
theorem run_neB {x y : Operand} {u v : Bool} (hx : a.eval x = .bool u) (hy : a.eval y = .bool v) : (execOp a.eval ⟨d, .binOp .neq 4 x y 4, t, p, af, g⟩).run Tryz.prog w = .ok (.value (.bool (u != v))) w := by
  generalize a.eval = E at hx hy ⊢
  simp [go_sem, hx, hy]
  cases u <;> cases v <;> rfl
theorem run_call3 {n : Nat} {x y z : Operand} {vx vy vz : Value} {ts : Array TypeId} (hx : a.eval x = vx) (hy : a.eval y = vy) (hz : a.eval z = vz) (hf : ∀ (zs : Array Value) (w : World), Sem.run Tryz.prog (callFunc n zs) w = .ok (.enter n zs) w) :
    (execOp a.eval ⟨d, .call { callee := .value (.func n), args := #[x, y, z], argTypes := ts }, t, p, af, g⟩).run Tryz.prog w = .ok (.enter n #[vx, vy, vz]) w := by
  have e1 : a.eval (.func n) = .func (.func n) #[] #[] := rfl
  generalize a.eval = E at hx hy hz e1 ⊢
  simp [go_sem, hx, hy, hz, e1, hf]
end
theorem callMul (zs : Array Value) (w : World) : Sem.run Tryz.prog (callFunc 129 zs) w = .ok (.enter 129 zs) w := by simp [go_sem]
theorem callGive (zs : Array Value) (w : World) : Sem.run Tryz.prog (callFunc 128 zs) w = .ok (.enter 128 zs) w := by simp [go_sem]
end Go.Proofs.YtdkgapapdjefdaaGreatDoor

/- Walks: SetInt64, NewInt, Mul. -/
namespace Go.Proofs.YtdkgapapdjefdaaGreatDoor
open Go.RowKit

set_option maxHeartbeats 1000000 in
theorem setInt64_any (b o : Nat) (x : Int) (w : World) (hz : ZA w b o) (h1 : -9223372036854775808 ≤ x) (h2 : x ≤ 9223372036854775807) :
    Calls Tryz.prog 126 #[.pointer (some ⟨b, o, none⟩), .int .i64 x] w fun e w' => e = .returned (.pointer (some ⟨b, o, none⟩)) ∧ IA w' b o x ∧ Out b o w w' := by
  have WW := hide (words_any x.natAbs (by omega) w)
  have GG := hide (fun (wx : World) (v : Value) (hb : Below w.heap.size w wx) (hv : WS wx v (Bg.wd x.natAbs)) => give_any b o (decide (x < 0)) x.natAbs v wx (hz.below hb) hv)
  have HX : Hid ((if decide (x < 0) = true then -(x.natAbs : Int) else (x.natAbs : Int)) = x) := hide (by
    split
    · rename_i h; simp at h; omega
    · rename_i h; simp at h; omega)
  obtain ⟨n, hn⟩ : ∃ n, n = x.natAbs := ⟨_, rfl⟩
  rw [← hn] at WW GG HX
  have HN := hide hn
  go_enter Tryz.func126, Tryz.ntmps126
  by_cases hx : x < 0
  · have e1 : IntKind.u64.wrap x = ((18446744073709551616 - n : Nat) : Int) := by rw [IntKind.wrap_u64]; omega
    have e2 : IntKind.u64.wrap (-((18446744073709551616 - n : Nat) : Int)) = (n : Int) := by rw [IntKind.wrap_u64]; omega
    rw [decide_eq_true hx] at GG HX
    clear hn
    go_wp2_with fail
    refine (unhide WW).mono ?_
    rintro e w1 ⟨v1, rfl, hv1, hb1⟩
    have GC := hide (unhide GG w1 v1 hb1 hv1)
    have HB1 := hide hb1
    clear hv1 hb1 GG WW
    go_wp2_with fail
    refine (unhide GC).mono ?_
    rintro e w2 ⟨rfl, hi2, ho2⟩
    have HI := hide hi2
    have HO := hide ho2
    clear hi2 ho2
    go_wp2
    go_ret
    refine ⟨rfl, ?_, (Out.of (unhide HB1)).trans (unhide HO)⟩
    have := unhide HI
    rw [unhide HX] at this
    exact this
  · have e1 : IntKind.u64.wrap x = (n : Int) := by rw [IntKind.wrap_u64]; omega
    rw [decide_eq_false hx] at GG HX
    clear hn
    go_wp2_with fail
    refine (unhide WW).mono ?_
    rintro e w1 ⟨v1, rfl, hv1, hb1⟩
    have GC := hide (unhide GG w1 v1 hb1 hv1)
    have HB1 := hide hb1
    clear hv1 hb1 GG WW
    go_wp2_with fail
    refine (unhide GC).mono ?_
    rintro e w2 ⟨rfl, hi2, ho2⟩
    have HI := hide hi2
    have HO := hide ho2
    clear hi2 ho2
    go_wp2
    go_ret
    refine ⟨rfl, ?_, (Out.of (unhide HB1)).trans (unhide HO)⟩
    have := unhide HI
    rw [unhide HX] at this
    exact this

theorem IA.drew {w : World} {b o : Nat} {z : Int} (h : IA w b o z) : IA w.drew b o z := h.below (Below.refl _ _).drew
theorem Out.drew {w w' : World} {b o : Nat} (h : Out b o w w') : Out b o w w'.drew := h.trans (Out.of (Below.refl _ _).drew)
theorem mul_sign (x y : Int) : (if (decide (x < 0) != decide (y < 0)) = true then -((x.natAbs * y.natAbs : Nat) : Int) else ((x.natAbs * y.natAbs : Nat) : Int)) = x * y := by
  rw [Int.natCast_mul]
  rcases Int.lt_or_le x 0 with hx | hx <;> rcases Int.lt_or_le y 0 with hy | hy
  · rw [decide_eq_true hx, decide_eq_true hy, if_neg (by decide), Int.ofNat_natAbs_of_nonpos (by omega), Int.ofNat_natAbs_of_nonpos (by omega), Int.neg_mul_neg]
  · rw [decide_eq_true hx, decide_eq_false (by omega), if_pos (by decide), Int.ofNat_natAbs_of_nonpos (by omega), Int.natAbs_of_nonneg hy, Int.neg_mul, Int.neg_neg]
  · rw [decide_eq_false (by omega), decide_eq_true hy, if_pos (by decide), Int.natAbs_of_nonneg hx, Int.ofNat_natAbs_of_nonpos (by omega), Int.mul_neg, Int.neg_neg]
  · rw [decide_eq_false (by omega), decide_eq_false (by omega), if_neg (by decide), Int.natAbs_of_nonneg hx, Int.natAbs_of_nonneg hy]

set_option maxHeartbeats 1000000 in
theorem newInt_any (x : Int) (w : World) (h1 : -9223372036854775808 ≤ x) (h2 : x ≤ 9223372036854775807) :
    Calls Tryz.prog 99 #[.int .i64 x] w fun e w' => e = .returned (.pointer (some ⟨w.heap.size, 0, none⟩)) ∧ IA w' w.heap.size 0 x ∧ Below w.heap.size w w' := by
  have hz : ZA (w.alloc (.cells #[.bool false, .slice none 0 0] 134)) w.heap.size 0 := ⟨#[.bool false, .slice none 0 0], 134, by show (w.heap.push _)[w.heap.size]? = _; simp, by decide, by simp⟩
  have SI := hide (setInt64_any w.heap.size 0 x _ hz h1 h2)
  clear hz
  go_enter Tryz.func99, Tryz.ntmps99
  go_wp2_with fail
  refine (unhide SI).mono ?_
  rintro e w2 ⟨rfl, hi2, ho2⟩
  have HI := hide hi2
  have HO := hide ho2
  clear hi2 ho2
  go_wp2
  go_ret
  exact ⟨rfl, unhide HI, (below_new _ _).trans ((unhide HO).below (Nat.le_refl _) (by simp))⟩
end Go.Proofs.YtdkgapapdjefdaaGreatDoor

/- Walks: Mul of whole numbers. -/
namespace Go.Proofs.YtdkgapapdjefdaaGreatDoor
open Go.RowKit

def dws (n : Nat) : Ds := .mem (fun v w => WS w v (Bg.wd n)) (fun _ _ _ hb h => h.below hb)
theorem frame27 {a : Act} (hs : a.tmps.size = 27) (hd : a.defers = []) : a = { tmps := #[G a 0, G a 1, G a 2, G a 3, G a 4, G a 5, G a 6, G a 7, G a 8, G a 9, G a 10, G a 11, G a 12, G a 13, G a 14, G a 15, G a 16, G a 17, G a 18, G a 19, G a 20, G a 21, G a 22, G a 23, G a 24, G a 25, G a 26], defers := [] } := frame_is hs hd

set_option maxRecDepth 100000 in
set_option maxHeartbeats 4000000 in
theorem imul_any (b o bx ox b2 oy : Nat) (x y : Int) (w : World) (hz : ZA w b o) (hx : IA w bx ox x) (hy : IA w b2 oy y) (lx : (Bg.wd x.natAbs).length ≤ 100000) (ly : (Bg.wd y.natAbs).length ≤ 100000) :
    Calls Tryz.prog 103 #[.pointer (some ⟨b, o, none⟩), .pointer (some ⟨bx, ox, none⟩), .pointer (some ⟨b2, oy, none⟩)] w fun e w' => e = .returned (.pointer (some ⟨b, o, none⟩)) ∧ IA w' b o (x * y) ∧ Out b o w w' := by
  obtain ⟨vx, x1, x2⟩ := hx.abs
  obtain ⟨vy, y1, y2⟩ := hy.abs
  obtain ⟨px, cx, rfl, -⟩ := id x2
  obtain ⟨py, cy, rfl, -⟩ := id y2
  have x0 := hx.neg
  have y0 := hy.neg
  have bx0 := hx.place.low
  have by0 := hy.place.low
  have M : Hid (∀ wx, Below w.heap.size w wx → Calls Tryz.prog 129 #[.slice px (Bg.wd x.natAbs).length cx, .slice py (Bg.wd y.natAbs).length cy] wx fun e w' => ∃ v, e = .returned v ∧ WS w' v (Bg.wd (x.natAbs * y.natAbs)) ∧ Below wx.heap.size wx w') := hide fun wx hb => mul_any _ _ x.natAbs y.natAbs wx (x2.below hb) (y2.below hb) lx ly
  have GV : Hid (∀ wx v, Below w.heap.size w wx → WS wx v (Bg.wd (x.natAbs * y.natAbs)) → Calls Tryz.prog 128 #[.pointer (some ⟨b, o, none⟩), .bool (decide (x < 0) != decide (y < 0)), v] wx fun e w' => ∃ v, e = .returned v ∧ v = .pointer (some ⟨b, o, none⟩) ∧ IA w' b o (x * y) ∧ Out b o w w') := hide fun wx v hb hv => by
    refine (give_any b o _ _ v wx (hz.below hb) hv).mono ?_
    rintro e w' ⟨rfl, hi, ho⟩
    rw [mul_sign] at hi
    exact ⟨_, rfl, rfl, hi, (Out.of hb).trans ho⟩
  clear x2 y2 hx hy lx ly
  go_enter Tryz.func103, Tryz.ntmps103
  go_upto_region 1 with fail
  refine frame_intro (fun a => G a 0 = .pointer (some ⟨b, o, none⟩) ∧ G a 1 = .pointer (some ⟨bx, ox, none⟩) ∧ G a 2 = .pointer (some ⟨b2, oy, none⟩) ∧ a.tmps.size = 27 ∧ a.defers = []) ⟨rfl, rfl, rfl, rfl, rfl⟩ ?_
  rintro f0 ⟨s0, s1, s2, hsz, hdf⟩
  refine region_any (I := RO w f0 27 [7, 8, 9, 10, 11, 12, 13, 14, 15, 16, 17, 18, 19, 20, 21, 22, 23, 24, 25, 26, 6] 19 (fun w' => IA w' b o (x * y) ∧ Out b o w w') [.lit (.pointer (some ⟨b, o, none⟩)), .lit (.pointer (some ⟨bx, ox, none⟩)), .lit (.pointer (some ⟨bx, ox, none⟩)), .lit (.pointer (some ⟨bx, ox, none⟩)), .lit (.bool (decide (x < 0))), .lit (.pointer (some ⟨b2, oy, none⟩)), .lit (.pointer (some ⟨b2, oy, none⟩)), .lit (.pointer (some ⟨b2, oy, none⟩)), .lit (.bool (decide (y < 0))), .lit (.bool ((decide (x < 0)) != (decide (y < 0)))), .lit (.pointer (some ⟨bx, ox, none⟩)), .lit (.pointer (some ⟨bx, ox, none⟩)), .lit (.pointer (some ⟨bx, ox + 1, none⟩)), .lit (.slice px (Bg.wd x.natAbs).length cx), .lit (.pointer (some ⟨b2, oy, none⟩)), .lit (.pointer (some ⟨b2, oy, none⟩)), .lit (.pointer (some ⟨b2, oy + 1, none⟩)), .lit (.slice py (Bg.wd y.natAbs).length cy), dws (x.natAbs * y.natAbs), .lit (.pointer (some ⟨b, o, none⟩)), .lit (.pointer (some ⟨b, o, none⟩))]) (by kernel_rfl) ?wait ?step ?done ?start
  case wait => exact ⟨by simp, by simp, by simp, by simp, by simp, by simp, by simp, by simp, by simp, by simp, by simp, by simp, by simp, by simp, by simp, by simp, by simp, by simp, by simp, by simp, by simp, trivial⟩
  case start => exact RO.start hsz hdf ((Below.refl _ _).drew)
  case step =>
    refine ⟨?_, ?_, ?_, ?_, ?_, ?_, ?_, ?_, ?_, ?_, ?_, ?_, ?_, ?_, ?_, ?_, ?_, ?_, ?_, ?_, ?_, trivial⟩
    · rintro L fa wx h hcl hL hw2
      exact ro_val h (by decide) rfl rfl rfl (by decide) (by decide) rfl (run_mv (eval_G ((h.keep (s := 0) (by decide)).trans s0))) rfl
    · rintro L fa wx h hcl hL hw2
      exact ro_val h (by decide) rfl rfl rfl (by decide) (by decide) rfl (run_mv (eval_G ((h.keep (s := 1) (by decide)).trans s1))) rfl
    · rintro L fa wx h hcl hL hw2
      exact ro_val h (by decide) rfl rfl rfl (by decide) (by decide) rfl (run_nil (eval_G (show G fa 8 = .pointer (some ⟨bx, ox, none⟩) from okx_lit (h.got 1 8 (hw2 ⟨1, .data⟩ (by simp) rfl) rfl) rfl))) rfl
    · rintro L fa wx h hcl hL hw2
      exact ro_val h (by decide) rfl rfl rfl (by decide) (by decide) rfl (run_fld0 (eval_G (show G fa 9 = .pointer (some ⟨bx, ox, none⟩) from okx_lit (h.got 2 9 (hw2 ⟨2, .data⟩ (by simp) rfl) rfl) rfl))) rfl
    · rintro L fa wx h hcl hL hw2
      exact ro_val h (by decide) rfl rfl rfl (by decide) (by decide) rfl (run_ldB (eval_G (show G fa 10 = .pointer (some ⟨bx, ox, none⟩) from okx_lit (h.got 3 10 (hw2 ⟨3, .data⟩ (by simp) rfl) rfl) rfl)) (((h.old (Bool.eq_false_iff.2 fun hq => by have hz := (hcl 9 _ rfl (hcl 19 _ rfl hq ⟨9, .data⟩ (by simp) rfl) ⟨4, .data⟩ (by simp) rfl); rw [hL] at hz; cases hz)).cell (p := ⟨bx, ox, none⟩) bx0).trans x0)) rfl
    · rintro L fa wx h hcl hL hw2
      exact ro_val h (by decide) rfl rfl rfl (by decide) (by decide) rfl (run_mv (eval_G ((h.keep (s := 2) (by decide)).trans s2))) rfl
    · rintro L fa wx h hcl hL hw2
      exact ro_val h (by decide) rfl rfl rfl (by decide) (by decide) rfl (run_nil (eval_G (show G fa 12 = .pointer (some ⟨b2, oy, none⟩) from okx_lit (h.got 5 12 (hw2 ⟨5, .data⟩ (by simp) rfl) rfl) rfl))) rfl
    · rintro L fa wx h hcl hL hw2
      exact ro_val h (by decide) rfl rfl rfl (by decide) (by decide) rfl (run_fld0 (eval_G (show G fa 13 = .pointer (some ⟨b2, oy, none⟩) from okx_lit (h.got 6 13 (hw2 ⟨6, .data⟩ (by simp) rfl) rfl) rfl))) rfl
    · rintro L fa wx h hcl hL hw2
      exact ro_val h (by decide) rfl rfl rfl (by decide) (by decide) rfl (run_ldB (eval_G (show G fa 14 = .pointer (some ⟨b2, oy, none⟩) from okx_lit (h.got 7 14 (hw2 ⟨7, .data⟩ (by simp) rfl) rfl) rfl)) (((h.old (Bool.eq_false_iff.2 fun hq => by have hz := (hcl 9 _ rfl (hcl 19 _ rfl hq ⟨9, .data⟩ (by simp) rfl) ⟨8, .data⟩ (by simp) rfl); rw [hL] at hz; cases hz)).cell (p := ⟨b2, oy, none⟩) by0).trans y0)) rfl
    · rintro L fa wx h hcl hL hw2
      exact ro_val h (by decide) rfl rfl rfl (by decide) (by decide) rfl (run_neB (eval_G (show G fa 11 = .bool (decide (x < 0)) from okx_lit (h.got 4 11 (hw2 ⟨4, .data⟩ (by simp) rfl) rfl) rfl)) (eval_G (show G fa 15 = .bool (decide (y < 0)) from okx_lit (h.got 8 15 (hw2 ⟨8, .data⟩ (by simp) rfl) rfl) rfl))) rfl
    · rintro L fa wx h hcl hL hw2
      exact ro_val h (by decide) rfl rfl rfl (by decide) (by decide) rfl (run_mv (eval_G ((h.keep (s := 1) (by decide)).trans s1))) rfl
    · rintro L fa wx h hcl hL hw2
      exact ro_val h (by decide) rfl rfl rfl (by decide) (by decide) rfl (run_nil (eval_G (show G fa 17 = .pointer (some ⟨bx, ox, none⟩) from okx_lit (h.got 10 17 (hw2 ⟨10, .data⟩ (by simp) rfl) rfl) rfl))) rfl
    · rintro L fa wx h hcl hL hw2
      exact ro_val h (by decide) rfl rfl rfl (by decide) (by decide) rfl (run_fld1 (eval_G (show G fa 18 = .pointer (some ⟨bx, ox, none⟩) from okx_lit (h.got 11 18 (hw2 ⟨11, .data⟩ (by simp) rfl) rfl) rfl))) rfl
    · rintro L fa wx h hcl hL hw2
      exact ro_val h (by decide) rfl rfl rfl (by decide) (by decide) rfl (run_ldW (eval_G (show G fa 19 = .pointer (some ⟨bx, ox + 1, none⟩) from okx_lit (h.got 12 19 (hw2 ⟨12, .data⟩ (by simp) rfl) rfl) rfl)) (((h.old (Bool.eq_false_iff.2 fun hq => by have hz := (hcl 18 _ rfl (hcl 19 _ rfl hq ⟨18, .data⟩ (by simp) rfl) ⟨13, .data⟩ (by simp) rfl); rw [hL] at hz; cases hz)).cell (p := ⟨bx, ox + 1, none⟩) bx0).trans x1)) rfl
    · rintro L fa wx h hcl hL hw2
      exact ro_val h (by decide) rfl rfl rfl (by decide) (by decide) rfl (run_mv (eval_G ((h.keep (s := 2) (by decide)).trans s2))) rfl
    · rintro L fa wx h hcl hL hw2
      exact ro_val h (by decide) rfl rfl rfl (by decide) (by decide) rfl (run_nil (eval_G (show G fa 21 = .pointer (some ⟨b2, oy, none⟩) from okx_lit (h.got 14 21 (hw2 ⟨14, .data⟩ (by simp) rfl) rfl) rfl))) rfl
    · rintro L fa wx h hcl hL hw2
      exact ro_val h (by decide) rfl rfl rfl (by decide) (by decide) rfl (run_fld1 (eval_G (show G fa 22 = .pointer (some ⟨b2, oy, none⟩) from okx_lit (h.got 15 22 (hw2 ⟨15, .data⟩ (by simp) rfl) rfl) rfl))) rfl
    · rintro L fa wx h hcl hL hw2
      exact ro_val h (by decide) rfl rfl rfl (by decide) (by decide) rfl (run_ldW (eval_G (show G fa 23 = .pointer (some ⟨b2, oy + 1, none⟩) from okx_lit (h.got 16 23 (hw2 ⟨16, .data⟩ (by simp) rfl) rfl) rfl)) (((h.old (Bool.eq_false_iff.2 fun hq => by have hz := (hcl 18 _ rfl (hcl 19 _ rfl hq ⟨18, .data⟩ (by simp) rfl) ⟨17, .data⟩ (by simp) rfl); rw [hL] at hz; cases hz)).cell (p := ⟨b2, oy + 1, none⟩) by0).trans y1)) rfl
    · rintro L fa wx h hcl hL hw2
      exact ro_call (R := fun v w' => WS w' v (Bg.wd (x.natAbs * y.natAbs))) h (by decide) rfl rfl rfl (by decide) (by decide) (Bool.eq_false_iff.2 fun hq => by have hz := (hcl 19 _ rfl hq ⟨18, .data⟩ (by simp) rfl); rw [hL] at hz; cases hz) rfl (run_call2 (eval_G (show G fa 20 = .slice px (Bg.wd x.natAbs).length cx from okx_lit (h.got 13 20 (hw2 ⟨13, .data⟩ (by simp) rfl) rfl) rfl)) (eval_G (show G fa 24 = .slice py (Bg.wd y.natAbs).length cy from okx_lit (h.got 17 24 (hw2 ⟨17, .data⟩ (by simp) rfl) rfl) rfl)) callMul) (unhide M wx (h.old (Bool.eq_false_iff.2 fun hq => by have hz := (hcl 19 _ rfl hq ⟨18, .data⟩ (by simp) rfl); rw [hL] at hz; cases hz))) (fun _ _ q => q)
    · rintro L fa wx h hcl hL hw2
      have m2 := okx_mem (h.got 18 25 (hw2 ⟨18, .data⟩ (by simp) rfl) rfl) hL
      exact ro_last (R := fun v w' => v = .pointer (some ⟨b, o, none⟩) ∧ IA w' b o (x * y) ∧ Out b o w w') h (by decide) rfl rfl rfl (by decide) hL rfl (run_call3 (eval_G (show G fa 7 = .pointer (some ⟨b, o, none⟩) from okx_lit (h.got 0 7 (hw2 ⟨0, .data⟩ (by simp) rfl) rfl) rfl)) (eval_G (show G fa 16 = .bool ((decide (x < 0)) != (decide (y < 0))) from okx_lit (h.got 9 16 (hw2 ⟨9, .data⟩ (by simp) rfl) rfl) rfl)) rfl callGive) (unhide GV wx _ (h.old hL) m2) (fun _ _ q => ⟨q.1, q.2⟩)
    · rintro L fa wx h hcl hL hw2
      exact ro_val h (by decide) rfl rfl rfl (by decide) (by decide) rfl (run_asg (eval_G (show G fa 26 = .pointer (some ⟨b, o, none⟩) from okx_lit (h.got 19 26 (hw2 ⟨19, .data⟩ (by simp) rfl) rfl) rfl))) rfl
  case done =>
    rintro L f1 w3 h hall
    have q6 : G f1 6 = .pointer (some ⟨b, o, none⟩) := okx_lit (h.got 20 6 (hall 20 (by simp)) rfl) rfl
    have HF := hide (h.fin (hall 19 (by simp)))
    rw [frame27 h.size h.defs, q6]
    clear h hall q6
    go_wp2
    go_ret
    exact ⟨rfl, unhide HF⟩
end Go.Proofs.YtdkgapapdjefdaaGreatDoor

/- Walks: Set and Neg of whole numbers; sum. -/
namespace Go.Proofs.YtdkgapapdjefdaaGreatDoor
open Go.RowKit

theorem callTwin (zs : Array Value) (w : World) : Sem.run Tryz.prog (callFunc 154 zs) w = .ok (.enter 154 zs) w := by simp [go_sem]
theorem own_sign (x : Int) : (if decide (x < 0) = true then -(x.natAbs : Int) else (x.natAbs : Int)) = x := by
  split
  · rename_i h; simp at h; omega
  · rename_i h; simp at h; omega
theorem opp_sign (x : Int) : (if (!decide (x < 0)) = true then -(x.natAbs : Int) else (x.natAbs : Int)) = -x := by
  split
  · rename_i h; simp at h; omega
  · rename_i h; simp at h; omega

theorem frame16 {a : Act} (hs : a.tmps.size = 16) (hd : a.defers = []) : a = { tmps := #[G a 0, G a 1, G a 2, G a 3, G a 4, G a 5, G a 6, G a 7, G a 8, G a 9, G a 10, G a 11, G a 12, G a 13, G a 14, G a 15], defers := [] } := frame_is hs hd

set_option maxRecDepth 100000 in
set_option maxHeartbeats 4000000 in
theorem iset_any (b o bx ox : Nat) (x : Int) (w : World) (hz : ZA w b o) (hx : IA w bx ox x) (lx : (Bg.wd x.natAbs).length ≤ 100000) :
    Calls Tryz.prog 124 #[.pointer (some ⟨b, o, none⟩), .pointer (some ⟨bx, ox, none⟩)] w fun e w' => e = .returned (.pointer (some ⟨b, o, none⟩)) ∧ IA w' b o (x) ∧ Out b o w w' := by
  obtain ⟨vx, x1, x2⟩ := hx.abs
  obtain ⟨px, cx, rfl, -⟩ := id x2
  have x0 := hx.neg
  have bx0 := hx.place.low
  have M : Hid (∀ wx, Below w.heap.size w wx → Calls Tryz.prog 154 #[.slice px (Bg.wd x.natAbs).length cx] wx fun e w' => ∃ v, e = .returned v ∧ WS w' v (Bg.wd x.natAbs) ∧ Below wx.heap.size wx w') := hide fun wx hb => twin_any _ x.natAbs wx (x2.below hb) lx
  have GV : Hid (∀ wx v, Below w.heap.size w wx → WS wx v (Bg.wd x.natAbs) → Calls Tryz.prog 128 #[.pointer (some ⟨b, o, none⟩), .bool (decide (x < 0)), v] wx fun e w' => ∃ v, e = .returned v ∧ v = .pointer (some ⟨b, o, none⟩) ∧ IA w' b o (x) ∧ Out b o w w') := hide fun wx v hb hv => by
    refine (give_any b o _ _ v wx (hz.below hb) hv).mono ?_
    rintro e w' ⟨rfl, hi, ho⟩
    rw [own_sign] at hi
    exact ⟨_, rfl, rfl, hi, (Out.of hb).trans ho⟩
  clear x2 hx lx
  go_enter Tryz.func124, Tryz.ntmps124
  go_upto_region 1 with fail
  refine frame_intro (fun a => G a 0 = .pointer (some ⟨b, o, none⟩) ∧ G a 1 = .pointer (some ⟨bx, ox, none⟩) ∧ a.tmps.size = 16 ∧ a.defers = []) ⟨rfl, rfl, rfl, rfl⟩ ?_
  rintro f0 ⟨s0, s1, hsz, hdf⟩
  refine region_any (I := RO w f0 16 [5, 6, 7, 8, 9, 10, 11, 12, 13, 14, 15, 4] 10 (fun w' => IA w' b o (x) ∧ Out b o w w') [.lit (.pointer (some ⟨b, o, none⟩)), .lit (.pointer (some ⟨bx, ox, none⟩)), .lit (.pointer (some ⟨bx, ox, none⟩)), .lit (.pointer (some ⟨bx, ox, none⟩)), .lit (.bool (decide (x < 0))), .lit (.pointer (some ⟨bx, ox, none⟩)), .lit (.pointer (some ⟨bx, ox, none⟩)), .lit (.pointer (some ⟨bx, ox + 1, none⟩)), .lit (.slice px (Bg.wd x.natAbs).length cx), dws x.natAbs, .lit (.pointer (some ⟨b, o, none⟩)), .lit (.pointer (some ⟨b, o, none⟩))]) (by kernel_rfl) ?wait ?step ?done ?start
  case wait => exact ⟨by simp, by simp, by simp, by simp, by simp, by simp, by simp, by simp, by simp, by simp, by simp, by simp, trivial⟩
  case start => exact RO.start hsz hdf ((Below.refl _ _).drew)
  case step =>
    refine ⟨?_, ?_, ?_, ?_, ?_, ?_, ?_, ?_, ?_, ?_, ?_, ?_, trivial⟩
    · rintro L fa wx h hcl hL hw2
      exact ro_val h (by decide) rfl rfl rfl (by decide) (by decide) rfl (run_mv (eval_G ((h.keep (s := 0) (by decide)).trans s0))) rfl
    · rintro L fa wx h hcl hL hw2
      exact ro_val h (by decide) rfl rfl rfl (by decide) (by decide) rfl (run_mv (eval_G ((h.keep (s := 1) (by decide)).trans s1))) rfl
    · rintro L fa wx h hcl hL hw2
      exact ro_val h (by decide) rfl rfl rfl (by decide) (by decide) rfl (run_nil (eval_G (show G fa 6 = .pointer (some ⟨bx, ox, none⟩) from okx_lit (h.got 1 6 (hw2 ⟨1, .data⟩ (by simp) rfl) rfl) rfl))) rfl
    · rintro L fa wx h hcl hL hw2
      exact ro_val h (by decide) rfl rfl rfl (by decide) (by decide) rfl (run_fld0 (eval_G (show G fa 7 = .pointer (some ⟨bx, ox, none⟩) from okx_lit (h.got 2 7 (hw2 ⟨2, .data⟩ (by simp) rfl) rfl) rfl))) rfl
    · rintro L fa wx h hcl hL hw2
      exact ro_val h (by decide) rfl rfl rfl (by decide) (by decide) rfl (run_ldB (eval_G (show G fa 8 = .pointer (some ⟨bx, ox, none⟩) from okx_lit (h.got 3 8 (hw2 ⟨3, .data⟩ (by simp) rfl) rfl) rfl)) (((h.old (Bool.eq_false_iff.2 fun hq => by have hz := (hcl 10 _ rfl hq ⟨4, .data⟩ (by simp) rfl); rw [hL] at hz; cases hz)).cell (p := ⟨bx, ox, none⟩) bx0).trans x0)) rfl
    · rintro L fa wx h hcl hL hw2
      exact ro_val h (by decide) rfl rfl rfl (by decide) (by decide) rfl (run_mv (eval_G ((h.keep (s := 1) (by decide)).trans s1))) rfl
    · rintro L fa wx h hcl hL hw2
      exact ro_val h (by decide) rfl rfl rfl (by decide) (by decide) rfl (run_nil (eval_G (show G fa 10 = .pointer (some ⟨bx, ox, none⟩) from okx_lit (h.got 5 10 (hw2 ⟨5, .data⟩ (by simp) rfl) rfl) rfl))) rfl
    · rintro L fa wx h hcl hL hw2
      exact ro_val h (by decide) rfl rfl rfl (by decide) (by decide) rfl (run_fld1 (eval_G (show G fa 11 = .pointer (some ⟨bx, ox, none⟩) from okx_lit (h.got 6 11 (hw2 ⟨6, .data⟩ (by simp) rfl) rfl) rfl))) rfl
    · rintro L fa wx h hcl hL hw2
      exact ro_val h (by decide) rfl rfl rfl (by decide) (by decide) rfl (run_ldW (eval_G (show G fa 12 = .pointer (some ⟨bx, ox + 1, none⟩) from okx_lit (h.got 7 12 (hw2 ⟨7, .data⟩ (by simp) rfl) rfl) rfl)) (((h.old (Bool.eq_false_iff.2 fun hq => by have hz := (hcl 9 _ rfl (hcl 10 _ rfl hq ⟨9, .data⟩ (by simp) rfl) ⟨8, .data⟩ (by simp) rfl); rw [hL] at hz; cases hz)).cell (p := ⟨bx, ox + 1, none⟩) bx0).trans x1)) rfl
    · rintro L fa wx h hcl hL hw2
      exact ro_call (R := fun v w' => WS w' v (Bg.wd x.natAbs)) h (by decide) rfl rfl rfl (by decide) (by decide) (Bool.eq_false_iff.2 fun hq => by have hz := (hcl 10 _ rfl hq ⟨9, .data⟩ (by simp) rfl); rw [hL] at hz; cases hz) rfl (run_call1 (eval_G (show G fa 13 = .slice px (Bg.wd x.natAbs).length cx from okx_lit (h.got 8 13 (hw2 ⟨8, .data⟩ (by simp) rfl) rfl) rfl)) callTwin) (unhide M wx (h.old (Bool.eq_false_iff.2 fun hq => by have hz := (hcl 10 _ rfl hq ⟨9, .data⟩ (by simp) rfl); rw [hL] at hz; cases hz))) (fun _ _ q => q)
    · rintro L fa wx h hcl hL hw2
      have m2 := okx_mem (h.got 9 14 (hw2 ⟨9, .data⟩ (by simp) rfl) rfl) hL
      exact ro_last (R := fun v w' => v = .pointer (some ⟨b, o, none⟩) ∧ IA w' b o (x) ∧ Out b o w w') h (by decide) rfl rfl rfl (by decide) hL rfl (run_call3 (eval_G (show G fa 5 = .pointer (some ⟨b, o, none⟩) from okx_lit (h.got 0 5 (hw2 ⟨0, .data⟩ (by simp) rfl) rfl) rfl)) (eval_G (show G fa 9 = .bool (decide (x < 0)) from okx_lit (h.got 4 9 (hw2 ⟨4, .data⟩ (by simp) rfl) rfl) rfl)) rfl callGive) (unhide GV wx _ (h.old hL) m2) (fun _ _ q => ⟨q.1, q.2⟩)
    · rintro L fa wx h hcl hL hw2
      exact ro_val h (by decide) rfl rfl rfl (by decide) (by decide) rfl (run_asg (eval_G (show G fa 15 = .pointer (some ⟨b, o, none⟩) from okx_lit (h.got 10 15 (hw2 ⟨10, .data⟩ (by simp) rfl) rfl) rfl))) rfl
  case done =>
    rintro L f1 w3 h hall
    have q6 : G f1 4 = .pointer (some ⟨b, o, none⟩) := okx_lit (h.got 11 4 (hall 11 (by simp)) rfl) rfl
    have HF := hide (h.fin (hall 10 (by simp)))
    rw [frame16 h.size h.defs, q6]
    clear h hall q6
    go_wp2
    go_ret
    exact ⟨rfl, unhide HF⟩

theorem frame17 {a : Act} (hs : a.tmps.size = 17) (hd : a.defers = []) : a = { tmps := #[G a 0, G a 1, G a 2, G a 3, G a 4, G a 5, G a 6, G a 7, G a 8, G a 9, G a 10, G a 11, G a 12, G a 13, G a 14, G a 15, G a 16], defers := [] } := frame_is hs hd

set_option maxRecDepth 100000 in
set_option maxHeartbeats 4000000 in
theorem ineg_any (b o bx ox : Nat) (x : Int) (w : World) (hz : ZA w b o) (hx : IA w bx ox x) (lx : (Bg.wd x.natAbs).length ≤ 100000) :
    Calls Tryz.prog 155 #[.pointer (some ⟨b, o, none⟩), .pointer (some ⟨bx, ox, none⟩)] w fun e w' => e = .returned (.pointer (some ⟨b, o, none⟩)) ∧ IA w' b o (-x) ∧ Out b o w w' := by
  obtain ⟨vx, x1, x2⟩ := hx.abs
  obtain ⟨px, cx, rfl, -⟩ := id x2
  have x0 := hx.neg
  have bx0 := hx.place.low
  have M : Hid (∀ wx, Below w.heap.size w wx → Calls Tryz.prog 154 #[.slice px (Bg.wd x.natAbs).length cx] wx fun e w' => ∃ v, e = .returned v ∧ WS w' v (Bg.wd x.natAbs) ∧ Below wx.heap.size wx w') := hide fun wx hb => twin_any _ x.natAbs wx (x2.below hb) lx
  have GV : Hid (∀ wx v, Below w.heap.size w wx → WS wx v (Bg.wd x.natAbs) → Calls Tryz.prog 128 #[.pointer (some ⟨b, o, none⟩), .bool (!decide (x < 0)), v] wx fun e w' => ∃ v, e = .returned v ∧ v = .pointer (some ⟨b, o, none⟩) ∧ IA w' b o (-x) ∧ Out b o w w') := hide fun wx v hb hv => by
    refine (give_any b o _ _ v wx (hz.below hb) hv).mono ?_
    rintro e w' ⟨rfl, hi, ho⟩
    rw [opp_sign] at hi
    exact ⟨_, rfl, rfl, hi, (Out.of hb).trans ho⟩
  clear x2 hx lx
  go_enter Tryz.func155, Tryz.ntmps155
  go_upto_region 1 with fail
  refine frame_intro (fun a => G a 0 = .pointer (some ⟨b, o, none⟩) ∧ G a 1 = .pointer (some ⟨bx, ox, none⟩) ∧ a.tmps.size = 17 ∧ a.defers = []) ⟨rfl, rfl, rfl, rfl⟩ ?_
  rintro f0 ⟨s0, s1, hsz, hdf⟩
  refine region_any (I := RO w f0 17 [5, 6, 7, 8, 9, 10, 11, 12, 13, 14, 15, 16, 4] 11 (fun w' => IA w' b o (-x) ∧ Out b o w w') [.lit (.pointer (some ⟨b, o, none⟩)), .lit (.pointer (some ⟨bx, ox, none⟩)), .lit (.pointer (some ⟨bx, ox, none⟩)), .lit (.pointer (some ⟨bx, ox, none⟩)), .lit (.bool (decide (x < 0))), .lit (.bool (!(decide (x < 0)))), .lit (.pointer (some ⟨bx, ox, none⟩)), .lit (.pointer (some ⟨bx, ox, none⟩)), .lit (.pointer (some ⟨bx, ox + 1, none⟩)), .lit (.slice px (Bg.wd x.natAbs).length cx), dws x.natAbs, .lit (.pointer (some ⟨b, o, none⟩)), .lit (.pointer (some ⟨b, o, none⟩))]) (by kernel_rfl) ?wait ?step ?done ?start
  case wait => exact ⟨by simp, by simp, by simp, by simp, by simp, by simp, by simp, by simp, by simp, by simp, by simp, by simp, by simp, trivial⟩
  case start => exact RO.start hsz hdf ((Below.refl _ _).drew)
  case step =>
    refine ⟨?_, ?_, ?_, ?_, ?_, ?_, ?_, ?_, ?_, ?_, ?_, ?_, ?_, trivial⟩
    · rintro L fa wx h hcl hL hw2
      exact ro_val h (by decide) rfl rfl rfl (by decide) (by decide) rfl (run_mv (eval_G ((h.keep (s := 0) (by decide)).trans s0))) rfl
    · rintro L fa wx h hcl hL hw2
      exact ro_val h (by decide) rfl rfl rfl (by decide) (by decide) rfl (run_mv (eval_G ((h.keep (s := 1) (by decide)).trans s1))) rfl
    · rintro L fa wx h hcl hL hw2
      exact ro_val h (by decide) rfl rfl rfl (by decide) (by decide) rfl (run_nil (eval_G (show G fa 6 = .pointer (some ⟨bx, ox, none⟩) from okx_lit (h.got 1 6 (hw2 ⟨1, .data⟩ (by simp) rfl) rfl) rfl))) rfl
    · rintro L fa wx h hcl hL hw2
      exact ro_val h (by decide) rfl rfl rfl (by decide) (by decide) rfl (run_fld0 (eval_G (show G fa 7 = .pointer (some ⟨bx, ox, none⟩) from okx_lit (h.got 2 7 (hw2 ⟨2, .data⟩ (by simp) rfl) rfl) rfl))) rfl
    · rintro L fa wx h hcl hL hw2
      exact ro_val h (by decide) rfl rfl rfl (by decide) (by decide) rfl (run_ldB (eval_G (show G fa 8 = .pointer (some ⟨bx, ox, none⟩) from okx_lit (h.got 3 8 (hw2 ⟨3, .data⟩ (by simp) rfl) rfl) rfl)) (((h.old (Bool.eq_false_iff.2 fun hq => by have hz := (hcl 5 _ rfl (hcl 11 _ rfl hq ⟨5, .data⟩ (by simp) rfl) ⟨4, .data⟩ (by simp) rfl); rw [hL] at hz; cases hz)).cell (p := ⟨bx, ox, none⟩) bx0).trans x0)) rfl
    · rintro L fa wx h hcl hL hw2
      exact ro_val h (by decide) rfl rfl rfl (by decide) (by decide) rfl (run_not (eval_G (show G fa 9 = .bool (decide (x < 0)) from okx_lit (h.got 4 9 (hw2 ⟨4, .data⟩ (by simp) rfl) rfl) rfl))) rfl
    · rintro L fa wx h hcl hL hw2
      exact ro_val h (by decide) rfl rfl rfl (by decide) (by decide) rfl (run_mv (eval_G ((h.keep (s := 1) (by decide)).trans s1))) rfl
    · rintro L fa wx h hcl hL hw2
      exact ro_val h (by decide) rfl rfl rfl (by decide) (by decide) rfl (run_nil (eval_G (show G fa 11 = .pointer (some ⟨bx, ox, none⟩) from okx_lit (h.got 6 11 (hw2 ⟨6, .data⟩ (by simp) rfl) rfl) rfl))) rfl
    · rintro L fa wx h hcl hL hw2
      exact ro_val h (by decide) rfl rfl rfl (by decide) (by decide) rfl (run_fld1 (eval_G (show G fa 12 = .pointer (some ⟨bx, ox, none⟩) from okx_lit (h.got 7 12 (hw2 ⟨7, .data⟩ (by simp) rfl) rfl) rfl))) rfl
    · rintro L fa wx h hcl hL hw2
      exact ro_val h (by decide) rfl rfl rfl (by decide) (by decide) rfl (run_ldW (eval_G (show G fa 13 = .pointer (some ⟨bx, ox + 1, none⟩) from okx_lit (h.got 8 13 (hw2 ⟨8, .data⟩ (by simp) rfl) rfl) rfl)) (((h.old (Bool.eq_false_iff.2 fun hq => by have hz := (hcl 10 _ rfl (hcl 11 _ rfl hq ⟨10, .data⟩ (by simp) rfl) ⟨9, .data⟩ (by simp) rfl); rw [hL] at hz; cases hz)).cell (p := ⟨bx, ox + 1, none⟩) bx0).trans x1)) rfl
    · rintro L fa wx h hcl hL hw2
      exact ro_call (R := fun v w' => WS w' v (Bg.wd x.natAbs)) h (by decide) rfl rfl rfl (by decide) (by decide) (Bool.eq_false_iff.2 fun hq => by have hz := (hcl 11 _ rfl hq ⟨10, .data⟩ (by simp) rfl); rw [hL] at hz; cases hz) rfl (run_call1 (eval_G (show G fa 14 = .slice px (Bg.wd x.natAbs).length cx from okx_lit (h.got 9 14 (hw2 ⟨9, .data⟩ (by simp) rfl) rfl) rfl)) callTwin) (unhide M wx (h.old (Bool.eq_false_iff.2 fun hq => by have hz := (hcl 11 _ rfl hq ⟨10, .data⟩ (by simp) rfl); rw [hL] at hz; cases hz))) (fun _ _ q => q)
    · rintro L fa wx h hcl hL hw2
      have m2 := okx_mem (h.got 10 15 (hw2 ⟨10, .data⟩ (by simp) rfl) rfl) hL
      exact ro_last (R := fun v w' => v = .pointer (some ⟨b, o, none⟩) ∧ IA w' b o (-x) ∧ Out b o w w') h (by decide) rfl rfl rfl (by decide) hL rfl (run_call3 (eval_G (show G fa 5 = .pointer (some ⟨b, o, none⟩) from okx_lit (h.got 0 5 (hw2 ⟨0, .data⟩ (by simp) rfl) rfl) rfl)) (eval_G (show G fa 10 = .bool (!(decide (x < 0))) from okx_lit (h.got 5 10 (hw2 ⟨5, .data⟩ (by simp) rfl) rfl) rfl)) rfl callGive) (unhide GV wx _ (h.old hL) m2) (fun _ _ q => ⟨q.1, q.2⟩)
    · rintro L fa wx h hcl hL hw2
      exact ro_val h (by decide) rfl rfl rfl (by decide) (by decide) rfl (run_asg (eval_G (show G fa 16 = .pointer (some ⟨b, o, none⟩) from okx_lit (h.got 11 16 (hw2 ⟨11, .data⟩ (by simp) rfl) rfl) rfl))) rfl
  case done =>
    rintro L f1 w3 h hall
    have q6 : G f1 4 = .pointer (some ⟨b, o, none⟩) := okx_lit (h.got 12 4 (hall 12 (by simp)) rfl) rfl
    have HF := hide (h.fin (hall 11 (by simp)))
    rw [frame17 h.size h.defs, q6]
    clear h hall q6
    go_wp2
    go_ret
    exact ⟨rfl, unhide HF⟩

/-- the sign and the size of a sum -/
def sumS (xn yn : Bool) (a b : Nat) : Bool := if xn = yn then xn else if b ≤ a then xn else yn
def sumN (xn yn : Bool) (a b : Nat) : Nat := if xn = yn then a + b else if b ≤ a then a - b else b - a
theorem bsum_is (xn yn : Bool) (a b : Nat) : (if sumS xn yn a b = true then -(sumN xn yn a b : Int) else (sumN xn yn a b : Int)) = (if xn = true then -(a : Int) else a) + (if yn = true then -(b : Int) else b) := by
  unfold sumS sumN
  by_cases h : b ≤ a
  · cases xn <;> cases yn <;> simp [h] <;> omega
  · cases xn <;> cases yn <;> simp [h] <;> omega
end Go.Proofs.YtdkgapapdjefdaaGreatDoor

/- Walks: Add and Sub of whole numbers. -/
namespace Go.Proofs.YtdkgapapdjefdaaGreatDoor
open Go.RowKit

theorem frame28 {a : Act} (hs : a.tmps.size = 28) (hd : a.defers = []) : a = { tmps := #[G a 0, G a 1, G a 2, G a 3, G a 4, G a 5, G a 6, G a 7, G a 8, G a 9, G a 10, G a 11, G a 12, G a 13, G a 14, G a 15, G a 16, G a 17, G a 18, G a 19, G a 20, G a 21, G a 22, G a 23, G a 24, G a 25, G a 26, G a 27], defers := [] } := frame_is hs hd

theorem frame29 {a : Act} (hs : a.tmps.size = 29) (hd : a.defers = []) : a = { tmps := #[G a 0, G a 1, G a 2, G a 3, G a 4, G a 5, G a 6, G a 7, G a 8, G a 9, G a 10, G a 11, G a 12, G a 13, G a 14, G a 15, G a 16, G a 17, G a 18, G a 19, G a 20, G a 21, G a 22, G a 23, G a 24, G a 25, G a 26, G a 27, G a 28], defers := [] } := frame_is hs hd
end Go.Proofs.YtdkgapapdjefdaaGreatDoor

/- Walks: Sign, Cmp, CmpAbs of whole numbers. -/
namespace Go.Proofs.YtdkgapapdjefdaaGreatDoor
open Go.RowKit

def sgnZ (x : Int) : Int := if x < 0 then -1 else if x = 0 then 0 else 1
end Go.Proofs.YtdkgapapdjefdaaGreatDoor
