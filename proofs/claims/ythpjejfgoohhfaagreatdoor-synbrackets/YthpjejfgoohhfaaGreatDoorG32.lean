/- Walks: the signs by their texts. (Written by mk_py.py.) -/
import Derived.Test.YthpjejfgoohhfaaGreatDoorG26
import Derived.Laws.Rows
import Derived.Laws.EntriesVeiled
namespace Go.Proofs.YthpjejfgoohhfaaGreatDoor
open Go.RowKit Go.MapKept

def sgCs : List Value := [.string ⟨#[111, 114]⟩, .int .i64 1, .int .i64 16, .string ⟨#[97, 110, 100]⟩, .int .i64 2, .int .i64 15, .string ⟨#[61]⟩, .int .i64 3, .int .i64 8, .string ⟨#[33, 61]⟩, .int .i64 3, .int .i64 9, .string ⟨#[60]⟩, .int .i64 3, .int .i64 10, .string ⟨#[60, 61]⟩, .int .i64 3, .int .i64 11, .string ⟨#[62]⟩, .int .i64 3, .int .i64 12, .string ⟨#[62, 61]⟩, .int .i64 3, .int .i64 13, .string ⟨#[105, 110]⟩, .int .i64 3, .int .i64 14, .string ⟨#[43]⟩, .int .i64 4, .int .i64 4, .string ⟨#[45]⟩, .int .i64 4, .int .i64 5, .string ⟨#[42]⟩, .int .i64 5, .int .i64 6, .string ⟨#[47]⟩, .int .i64 5, .int .i64 7]
/-- the signs between two kids lie where the program keeps them -/
def SY (w : World) : Prop := ∀ j v, sgCs[j]? = some v → w.cell? ⟨0, j, none⟩ = some v
theorem SY.lt {w : World} (h : SY w) : 0 < w.heap.size := World.block_lt_of_cell? w _ (h 0 _ rfl)
theorem SY.on {w W : World} (h : SY w) (hb : Below w.heap.size w W) : SY W := fun j v hj => (hb.cell (p := ⟨0, j, none⟩) h.lt).trans (h j v hj)

abbrev sgnLit : Value := .agg sgCs.toArray
theorem sgn_at (W : World) (g : List UInt8 × Int × Int) : (k : Nat) → (hg : sgnL[k]? = some g) → (Instr.index 80 sgnLit (.int .i64 (k : Int))).run Tryz.prog W = .ok (.agg #[.string ⟨g.1.toArray⟩, .int .i64 g.2.1, .int .i64 g.2.2]) W
  | 0, hg => by have e := Option.some.inj hg; subst e; simp [Instr.index, sgCs, go_sem]
  | 1, hg => by have e := Option.some.inj hg; subst e; simp [Instr.index, sgCs, go_sem]
  | 2, hg => by have e := Option.some.inj hg; subst e; simp [Instr.index, sgCs, go_sem]
  | 3, hg => by have e := Option.some.inj hg; subst e; simp [Instr.index, sgCs, go_sem]
  | 4, hg => by have e := Option.some.inj hg; subst e; simp [Instr.index, sgCs, go_sem]
  | 5, hg => by have e := Option.some.inj hg; subst e; simp [Instr.index, sgCs, go_sem]
  | 6, hg => by have e := Option.some.inj hg; subst e; simp [Instr.index, sgCs, go_sem]
  | 7, hg => by have e := Option.some.inj hg; subst e; simp [Instr.index, sgCs, go_sem]
  | 8, hg => by have e := Option.some.inj hg; subst e; simp [Instr.index, sgCs, go_sem]
  | 9, hg => by have e := Option.some.inj hg; subst e; simp [Instr.index, sgCs, go_sem]
  | 10, hg => by have e := Option.some.inj hg; subst e; simp [Instr.index, sgCs, go_sem]
  | 11, hg => by have e := Option.some.inj hg; subst e; simp [Instr.index, sgCs, go_sem]
  | 12, hg => by have e := Option.some.inj hg; subst e; simp [Instr.index, sgCs, go_sem]
  | _ + 13, hg => by simp [sgnL] at hg

def sgV (g : List UInt8 × Int × Int) : Value := .agg #[.string ⟨g.1.toArray⟩, .int .i64 g.2.1, .int .i64 g.2.2]
def sgM (m : Nat) : ByteArray → Option Value := (sgnL.take m).foldl (fun f g => updV f ⟨g.1.toArray⟩ (some (sgV g))) (fun _ => none)
theorem sgM_next {m : Nat} {g : List UInt8 × Int × Int} (hg : sgnL[m]? = some g) : sgM (m + 1) = updV (sgM m) ⟨g.1.toArray⟩ (some (sgV g)) := by
  unfold sgM
  rw [List.take_add_one, hg]
  simp [List.foldl_append]
theorem sgM_all : sgM 13 = sgnV := by
  funext s
  have e : sgM 13 s = (if s = ⟨#[47]⟩ then some (.agg #[.string ⟨#[47]⟩, .int .i64 5, .int .i64 7]) else (if s = ⟨#[42]⟩ then some (.agg #[.string ⟨#[42]⟩, .int .i64 5, .int .i64 6]) else (if s = ⟨#[45]⟩ then some (.agg #[.string ⟨#[45]⟩, .int .i64 4, .int .i64 5]) else (if s = ⟨#[43]⟩ then some (.agg #[.string ⟨#[43]⟩, .int .i64 4, .int .i64 4]) else (if s = ⟨#[105, 110]⟩ then some (.agg #[.string ⟨#[105, 110]⟩, .int .i64 3, .int .i64 14]) else (if s = ⟨#[62, 61]⟩ then some (.agg #[.string ⟨#[62, 61]⟩, .int .i64 3, .int .i64 13]) else (if s = ⟨#[62]⟩ then some (.agg #[.string ⟨#[62]⟩, .int .i64 3, .int .i64 12]) else (if s = ⟨#[60, 61]⟩ then some (.agg #[.string ⟨#[60, 61]⟩, .int .i64 3, .int .i64 11]) else (if s = ⟨#[60]⟩ then some (.agg #[.string ⟨#[60]⟩, .int .i64 3, .int .i64 10]) else (if s = ⟨#[33, 61]⟩ then some (.agg #[.string ⟨#[33, 61]⟩, .int .i64 3, .int .i64 9]) else (if s = ⟨#[61]⟩ then some (.agg #[.string ⟨#[61]⟩, .int .i64 3, .int .i64 8]) else (if s = ⟨#[97, 110, 100]⟩ then some (.agg #[.string ⟨#[97, 110, 100]⟩, .int .i64 2, .int .i64 15]) else (if s = ⟨#[111, 114]⟩ then some (.agg #[.string ⟨#[111, 114]⟩, .int .i64 1, .int .i64 16]) else none))))))))))))) := rfl
  rw [e]
  by_cases h0 : s = ⟨#[47]⟩
  · rw [if_pos h0, h0]; rfl
  rw [if_neg h0]
  by_cases h1 : s = ⟨#[42]⟩
  · rw [if_pos h1, h1]; rfl
  rw [if_neg h1]
  by_cases h2 : s = ⟨#[45]⟩
  · rw [if_pos h2, h2]; rfl
  rw [if_neg h2]
  by_cases h3 : s = ⟨#[43]⟩
  · rw [if_pos h3, h3]; rfl
  rw [if_neg h3]
  by_cases h4 : s = ⟨#[105, 110]⟩
  · rw [if_pos h4, h4]; rfl
  rw [if_neg h4]
  by_cases h5 : s = ⟨#[62, 61]⟩
  · rw [if_pos h5, h5]; rfl
  rw [if_neg h5]
  by_cases h6 : s = ⟨#[62]⟩
  · rw [if_pos h6, h6]; rfl
  rw [if_neg h6]
  by_cases h7 : s = ⟨#[60, 61]⟩
  · rw [if_pos h7, h7]; rfl
  rw [if_neg h7]
  by_cases h8 : s = ⟨#[60]⟩
  · rw [if_pos h8, h8]; rfl
  rw [if_neg h8]
  by_cases h9 : s = ⟨#[33, 61]⟩
  · rw [if_pos h9, h9]; rfl
  rw [if_neg h9]
  by_cases h10 : s = ⟨#[61]⟩
  · rw [if_pos h10, h10]; rfl
  rw [if_neg h10]
  by_cases h11 : s = ⟨#[97, 110, 100]⟩
  · rw [if_pos h11, h11]; rfl
  rw [if_neg h11]
  by_cases h12 : s = ⟨#[111, 114]⟩
  · rw [if_pos h12, h12]; rfl
  rw [if_neg h12]
  have hn : sgnF s.data.toList = none := by
    unfold sgnF
    rw [Option.map_eq_none_iff, List.find?_eq_none]
    intro q hq c
    have hs : s = ⟨q.1.toArray⟩ := by
      have c' : q.1 = s.data.toList := by simpa using c
      rw [c']
    simp only [sgnL, List.mem_cons, List.not_mem_nil, or_false] at hq
    rcases hq with rfl | rfl | rfl | rfl | rfl | rfl | rfl | rfl | rfl | rfl | rfl | rfl | rfl
    · exact h12 hs
    · exact h11 hs
    · exact h10 hs
    · exact h9 hs
    · exact h8 hs
    · exact h7 hs
    · exact h6 hs
    · exact h5 hs
    · exact h4 hs
    · exact h3 hs
    · exact h2 hs
    · exact h1 hs
    · exact h0 hs
  rw [sgnV, hn]; rfl
theorem run_loadVar_cells {P : Program} (w : World) (g : Nat) (ty : TypeId) (cs : List Value) (d : TypeDesc) (hc : ∀ j v, cs[j]? = some v → w.cell? ⟨g, j, none⟩ = some v)
    (hu : P.underlying ty = some d) (hd : (match d with | .struct _ | .array _ _ => true | _ => false) = true) (hi : (P.info? ty).map (·.size) = some cs.length) :
    (loadVar ty ⟨g, 0, none⟩).run P w = .ok (.agg cs.toArray) w := by
  have hl : (loadCells ⟨g, 0, none⟩ cs.length).run P w = .ok cs.toArray w :=
    run_loadCells_list (P := P) w ⟨g, 0, none⟩ cs (fun j v hv => by
      have hadd : (⟨g, 0, none⟩ : Addr).add j = ⟨g, j, none⟩ := by unfold Addr.add; split <;> simp_all
      rw [hadd]
      exact hc j v hv)
  cases hq : P.info? ty with
  | none => simp [hq] at hi
  | some i =>
    have hs : i.size = cs.length := by simpa [hq] using hi
    have hagg : (isAgg ty).run P w = .ok true w := by
      unfold isAgg
      rw [Sem.run_bind, run_underlying hu w]
      cases d <;> simp_all
    simp [loadVar, Sem.run_bind, hagg, sizeOf, typeInfo, hq, hs, hl]
theorem wpList_load_cells {P : Program} {ops : Array Oper} {rest : List Oper} {o : Oper} {a : Act} {w : World} {Q : Exit → Act → World → Prop} (hgd : o.guard = none) (ty : TypeId) (x : Operand) (ho : o.op = .load ty x)
    (g : Nat) (hx : a.eval x = .pointer (some ⟨g, 0, none⟩)) (cs : List Value) (d : TypeDesc) (hc : ∀ j v, cs[j]? = some v → w.cell? ⟨g, j, none⟩ = some v)
    (hu : P.underlying ty = some d) (hd : (match d with | .struct _ | .array _ _ => true | _ => false) = true) (hi : (P.info? ty).map (·.size) = some cs.length)
    (h : wpList P ops Q rest (a.put o.dst (.agg cs.toArray)) w) : wpList P ops Q (o :: rest) a w := by
  refine wpList_plain hgd fun K hK => ?_
  unfold Oper.wp execOp
  simp only [ho, hx, Instr.loadAt, Instr.sureAddr, Sem.run_bind, Sem.run_pure, Result.andThen_ok, run_loadVar_cells w g ty cs d hc hu hd hi]
  exact hK _ _ h

theorem makeMap_sg (w : World) : (Instr.makeMap 61 (some (.int .i64 13))).run Tryz.prog w = .ok (.map (some w.heap.size)) (w.alloc (.map #[] 0)) := by
  simp [Instr.makeMap, run_underlying Tryz.underlying61, go_sem]

set_option maxRecDepth 100000 in
set_option maxHeartbeats 8000000 in
theorem signs_any (w : World) (h : SY w) : Calls Tryz.prog 16 #[] w fun e w' => e = .returned (.map (some w.heap.size)) ∧ MapF w.heap.size sgnV w' ∧ Below w.heap.size w w' := by
  have h0 := makeMap_sg w
  have B0 : Below w.heap.size w (w.alloc (.map #[] 0)) := (Below.refl w.heap.size w).alloc (Nat.le_refl _) (.map #[] 0)
  have hs := h.on B0
  have HS := hide hs
  clear hs
  have NN0 : Hid (MapF w.heap.size (sgM 0) (w.alloc (.map #[] 0))) := hide (MapF.new w)
  have HB0 := hide B0
  have ix := sgn_at
  clear h B0
  go_enter Tryz.func16, Tryz.ntmps16
  go_wp2_with (refine wpList_load_cells rfl 80 (.global 0) rfl 0 rfl sgCs _ (unhide HS) Tryz.underlying80 rfl (by kernel_rfl) ?_)
  go_loopw [6] (fun i wr => ∃ m : Nat, m ≤ 13 ∧ i = .int .i64 (m : Int) ∧ Hid (MapF w.heap.size (sgM m) wr) ∧ Hid (Below w.heap.size w wr)) (fun i _ => 13 - (intOf i).toNat)
  case atStart => exact ⟨0, Nat.zero_le _, rfl, NN0, HB0⟩
  case round =>
    obtain ⟨m, hm, rfl, N1, B1⟩ := hrel
    clear NN0 HB0 h0
    by_cases hl : m < 13
    · have hi1 : (m : Int) < 13 := by omega
      obtain ⟨g, hg⟩ : ∃ g, sgnL[m]? = some g := ⟨_, List.getElem?_eq_getElem (show m < sgnL.length from hl)⟩
      have hix := ix wr g m hg
      have HE := hide (sgM_next hg)
      obtain ⟨gs, ga, gk⟩ := g
      simp only at hix HE
      obtain ⟨w2, hw2⟩ : ∃ w2, w2 = wr.alloc (.cells #[.string ⟨gs.toArray⟩, .int .i64 ga, .int .i64 gk] 79) := ⟨_, rfl⟩
      have hba : Below wr.heap.size wr w2 := by rw [hw2]; exact (Below.refl _ _).alloc (Nat.le_refl _) _
      obtain ⟨d0, d1, d2⟩ : w2.cell? ⟨wr.heap.size, 0, none⟩ = some (.string ⟨gs.toArray⟩) ∧ w2.cell? ⟨wr.heap.size, 1, none⟩ = some (.int .i64 ga) ∧ w2.cell? ⟨wr.heap.size, 2, none⟩ = some (.int .i64 gk) := by rw [hw2]; simp [go_sem]
      obtain ⟨w3, hput, N3, Bt3⟩ := ((unhide N1).keep hba).put Tryz.underlying61 Tryz.underlying9 ⟨gs.toArray⟩ (.agg #[.string ⟨gs.toArray⟩, .int .i64 ga, .int .i64 gk])
      have HN3 : Hid (MapF w.heap.size (sgM (m + 1)) w3) := hide (by rw [unhide HE]; exact N3)
      have hW := below_via (unhide B1) hba
      have HB3 := hide (hW.trans (Bt3.below (Nat.le_refl _) hW.size))
      clear hg hba N3 Bt3 hW N1 B1 ix
      go_upto_region 5 with fail
      rw [← hw2]
      clear hw2 hix
      go_wp2
      go_roundw
      case rel => exact ⟨m + 1, by omega, by go_num, HN3, HB3⟩
      case measure => simp [intOf]; omega
    · obtain rfl : m = 13 := by omega
      rw [sgM_all] at N1
      go_wp2
      go_ret
      exact ⟨rfl, unhide N1, unhide B1⟩
end Go.Proofs.YthpjejfgoohhfaaGreatDoor
