/- slices.Insert of a number into those that a slice owns. -/
import Derived.Test.YtneepoaimbnneaaNQ1
import Derived.Test.YtneepoaimbnneaaNJ
namespace Go.Proofs.Ytneepoaimbnneaa.RW
open Go.RowKit

theorem ins_get (l : List Int) (i : Nat) (k : Int) (hi : i ≤ l.length) (j : Nat) : (ints (l.take i ++ k :: l.drop i))[j]? = if j < i then (ints l)[j]? else if j = i then some (.int .i64 k) else (ints l)[j - 1]? := by
  simp only [ints, List.getElem?_map]
  have hlt : (l.take i).length = i := by rw [List.length_take]; omega
  split
  · rw [List.getElem?_append_left (by omega), List.getElem?_take_of_lt (by assumption)]
  · split
    · rename_i h; subst h
      rw [List.getElem?_append_right (by omega), hlt, Nat.sub_self]; rfl
    · rw [List.getElem?_append_right (by omega), hlt]
      obtain ⟨d, hd⟩ : ∃ d, j - i = d + 1 := ⟨j - i - 1, by omega⟩
      rw [hd, List.getElem?_cons_succ, List.getElem?_drop, show i + d = j - 1 by omega]
theorem ins_len (l : List Int) (i : Nat) (k : Int) (hi : i ≤ l.length) : (ints (l.take i ++ k :: l.drop i)).length = l.length + 1 := by
  simp [ints]
  omega

theorem size_zeros (n : Nat) : (Builtin.zeroCells (Value.int .i64 0).cells n).size = n := by
  simp [Builtin.zeroCells, Value.cells]
/-- what is told of a slice with one more -/
def PI (B : Nat) (w : World) (v : Value) (l : List Int) (e : Ending) (w' : World) : Prop := ∃ v', e = .returned v' ∧ w'.ownsRow B 3 1 v' l.length (ints l) ∧ w.grownBy w' v.ownBlock ∧ (v'.ownBlock = v.ownBlock ∨ v'.ownBlock = some w.heap.size)

/-- a new row -/
theorem ins_new (w : World) (B : Nat) (l : List Int) (n C : Nat) {v : Value} (hn : l.length = n) (hC : n ≤ C) (hm : C ≤ maxLen) (hB : B ≤ w.heap.size) :
    PI B w v l (.returned (.slice (some ⟨w.heap.size, 0, none⟩) n C)) (w.drew.alloc (.cells ((ints l).toArray ++ Builtin.zeroCells (Value.int .i64 0).cells (C - n)) 3)) := by
  have hg : (w.drew.alloc (.cells ((ints l).toArray ++ Builtin.zeroCells (Value.int .i64 0).cells (C - n)) 3)).heap[w.heap.size]? = some (.cells ((ints l).toArray ++ Builtin.zeroCells (Value.int .i64 0).cells (C - n)) 3 (0, 0)) := heap_alloc_new w.drew _
  have hl : (ints l).length = n := by simp [ints, hn]
  subst hn
  refine ⟨_, rfl, own_of_cells hg hB hC hm (by rw [Array.size_append, size_zeros]; simp only [List.size_toArray]; omega) hl (fun j hj => ?_), ?_, .inr rfl⟩
  · rw [cell_of_row _ _ j _ 3 (0, 0) hg, Array.getElem?_append_left (by simp; omega)]
    simp
  · exact ⟨rfl, rfl, rfl, by show w.heap.size ≤ (w.alloc _).heap.size; simp, fun q hq _ => heap_alloc_old w.drew _ hq⟩
theorem ins_grow (w : World) (B : Nat) (l : List Int) (i : Nat) (k : Int) (C : Nat) {v : Value} (hlt : i < l.length) (hC : l.length + 1 ≤ C) (hm : C ≤ maxLen) (hB : B ≤ w.heap.size) :
    PI B w v (l.take i ++ k :: l.drop i) (.returned (.slice (some ⟨w.heap.size, 0, none⟩) (l.length + 1) C)) ((((w.alloc (.cells (((ints l).take i).toArray ++ Builtin.zeroCells (Value.int .i64 0).cells (l.length + 1 - i) ++ Builtin.zeroCells (Value.int .i64 0).cells (C - (l.length + 1))) 3)).drew.setCells w.heap.size i [.int .i64 k]).drew).setCells w.heap.size (i + 1) ((ints l).drop i)) := by
  have hcl : (ints l).length = l.length := by simp [ints]
  have hg : (w.alloc (.cells (((ints l).take i).toArray ++ Builtin.zeroCells (Value.int .i64 0).cells (l.length + 1 - i) ++ Builtin.zeroCells (Value.int .i64 0).cells (C - (l.length + 1))) 3)).drew.heap[w.heap.size]? = some (.cells (((ints l).take i).toArray ++ Builtin.zeroCells (Value.int .i64 0).cells (l.length + 1 - i) ++ Builtin.zeroCells (Value.int .i64 0).cells (C - (l.length + 1))) 3 (0, 0)) := heap_alloc_new w _
  generalize hA : ((ints l).take i).toArray ++ Builtin.zeroCells (Value.int .i64 0).cells (l.length + 1 - i) ++ Builtin.zeroCells (Value.int .i64 0).cells (C - (l.length + 1)) = A at hg ⊢
  have sA : A.size = C := by
    rw [← hA, Array.size_append, Array.size_append, size_zeros, size_zeros]
    simp only [List.size_toArray, List.length_take, hcl]
    omega
  have cA : ∀ j, j < i → A[j]? = (ints l)[j]? := fun j hj => by
    rw [← hA, Array.append_assoc, Array.getElem?_append_left (by simp [hcl]; omega)]
    simp [hj]
  obtain ⟨c1, h1, s1, g1⟩ := setCells_heap w.heap.size 3 [.int .i64 k] i _ A hg
  have h1' : (((w.alloc (.cells A 3)).drew.setCells w.heap.size i [.int .i64 k]).drew).heap[w.heap.size]? = some (.cells c1 3 (0, 0)) := h1
  obtain ⟨c2, h2, s2, g2⟩ := setCells_heap w.heap.size 3 ((ints l).drop i) (i + 1) _ c1 h1'
  have hlen : (l.take i ++ k :: l.drop i).length = l.length + 1 := by simp; omega
  have dl : ((ints l).drop i).length = l.length - i := by rw [List.length_drop, hcl]
  refine ⟨_, rfl, ?_, ?_, .inr rfl⟩
  · rw [hlen]
    refine own_of_cells h2 hB hC hm (by rw [s2, s1, sA, Nat.mul_one]) (ins_len l i k (by omega)) (fun j hj => ?_)
    rw [ins_get l i k (by omega)]
    split
    · rename_i hji
      rw [World.cell?_setCells_out _ _ _ _ _ (fun _ _ => .inl (by show j < i + 1; omega))]
      show (World.setCells _ _ _ _).cell? _ = _
      rw [World.cell?_setCells_out _ _ _ _ _ (fun _ _ => .inl (by show j < i; omega)), cell_of_row _ _ j A 3 (0, 0) hg]
      exact cA j hji
    · split
      · rename_i hji
        rw [hji, World.cell?_setCells_out _ _ _ _ _ (fun _ _ => .inl (by show i < i + 1; omega))]
        show (World.setCells _ _ _ _).cell? _ = _
        have := World.cell?_setCells_in w.heap.size [.int .i64 k] i _ (fun q hq => by rw [cell_of_row _ _ _ A 3 (0, 0) hg, Array.getElem?_eq_getElem (by simp at hq; omega)]; rfl) 0 (by simp)
        simpa using this
      · have := World.cell?_setCells_in w.heap.size ((ints l).drop i) (i + 1) (((w.alloc (.cells A 3)).drew.setCells w.heap.size i [.int .i64 k]).drew) (fun q hq => by rw [cell_of_row _ _ _ c1 3 (0, 0) h1', Array.getElem?_eq_getElem (by omega)]; rfl) (j - (i + 1)) (by omega)
        rw [show i + 1 + (j - (i + 1)) = j by omega] at this
        rw [this, ← List.getElem?_eq_getElem, List.getElem?_drop, show i + (j - (i + 1)) = j - 1 by omega]
  · refine ⟨g2.os.trans g1.os, g2.tape.trans g1.tape, g2.output.trans g1.output, ?_, fun q hq _ => ?_⟩
    · have e1 := g1.size
      have e2 := g2.size
      have e3 : w.heap.size ≤ (w.alloc (.cells A 3)).heap.size := by simp
      exact Nat.le_trans e3 (Nat.le_trans e1 e2)
    · have hlt' : q < (w.alloc (.cells A 3)).heap.size := by simp; omega
      exact ((g2.block q (Nat.lt_of_lt_of_le hlt' g1.size) (fun e => by cases e; omega)).trans (g1.block q hlt' (fun e => by cases e; omega))).trans (heap_alloc_old w _ hq)
theorem insert_any (B : Nat) (l : List Int) (v : Value) (i : Nat) (k : Int) (sb : Nat) (w : World) (hv : w.ownsRow B 3 1 v l.length (ints l)) (hi : i ≤ l.length) (hl : l.length ≤ 1000) (hsb : BK w sb 3 #[.int .i64 k]) (hne : v.ownBlock ≠ some sb) (hB : B ≤ w.heap.size) :
    Calls Try.prog 67 #[v, .int .i64 (i : Int), .slice (some ⟨sb, 0, none⟩) 1 1] w (PI B w v (l.take i ++ k :: l.drop i)) := by
  have hvs : ∀ j u, [Value.int .i64 k][j]? = some u → w.cell? ⟨sb, 0 + j, none⟩ = some u := by
    intro j u hj
    cases j with
    | zero => simp at hj; subst hj; exact hsb.at rfl
    | succ j => simp at hj
  have h1v : ∀ u ∈ [Value.int .i64 k], u.oneCell' = true := one_int k
  have hlen : (l.take i ++ k :: l.drop i).length = l.length + 1 := by simp; omega
  rcases hv.2 with ⟨rfl, h0⟩ | ⟨g, cap, cur, rfl, hb, hg, hn, hm, hc, ht⟩
  · obtain rfl := List.eq_nil_of_length_eq_zero h0
    obtain rfl : i = 0 := by simpa using hi
    refine (Any2.slices_Insert_int_end_grow Try.lays21 none 0 0 sb 0 1 1 [] [.int .i64 k] w (by omega) (by omega) (by omega) (by omega) rfl rfl (fun _ => rfl) (fun a ha => by cases ha) hvs h1v).mono ?_
    rintro e w' ⟨rfl, rfl⟩
    exact ins_new w B [k] 1 _ rfl (grownCap_ge _ _ _ _) (grownCap_le_maxLen _ _ _ _ (by unfold maxLen; omega)) hB
  · have hgl := lt_of_block hg
    have hcs : ∀ j u, (ints l)[j]? = some u → w.cell? ⟨g, 0 + j, none⟩ = some u := fun j u hj => by
      have := World.ownsRow.cells hv (g := g) rfl j u hj
      rwa [Addr.add_lit] at this
    have hcl : (ints l).length = l.length := by simp [ints]
    have hne' : sb ≠ g := fun e => hne (by rw [e]; rfl)
    have hin : ∀ j, j < cap → (w.cell? ⟨g, 0 + j, none⟩).isSome = true := fun j hj => by
      rw [Nat.zero_add, cell_of_row w g j cur 3 (0, 0) hg, Array.getElem?_eq_getElem (by omega)]
      rfl
    have hfz : ∀ j, w.frozen? ⟨g, 0 + j, none⟩ = false := fun j => frozen_of_row w g _ cur 3 hg
    have hm' : cap ≤ 9223372036854775807 := by unfold maxLen at hm; omega
    by_cases hroom : l.length + 1 ≤ cap
    · by_cases hlt : i < l.length
      · refine (Any2.slices_Insert_int_shift Try.lays21 g 0 l.length cap i sb 0 1 1 (ints l) [.int .i64 k] w hlt (by omega) hroom hm' hne' hcl rfl hcs (fun j hj => hin j (by omega)) (fun j _ => hfz j) hvs (ints_one l) h1v 3 3 1 cur.size (by simp [World.shape?, show w.heap[sb]? = some _ from hsb]) (by simp [World.shape?, hg]) (by omega) (hsb.thaw _) (hsb.thaw _)).mono ?_
        rintro e w' ⟨rfl, rfl⟩
        obtain ⟨c1, h1, s1, g1⟩ := setCells_heap g 3 ((ints l).drop i) (0 + (i + 1)) w.drew cur hg
        obtain ⟨c2, h2, s2, g2⟩ := setCells_heap g 3 [.int .i64 k] (0 + i) _ c1 h1
        refine ⟨_, rfl, ?_, grown_trans (w1 := w.drew.setCells g (0 + (i + 1)) ((ints l).drop i)) ⟨g1.os, g1.tape, g1.output, g1.size, g1.block⟩ g2, .inl rfl⟩
        rw [hlen]
        refine own_of_cells h2 hb (by omega) hm (by rw [s2, s1, hc]) (ins_len l i k hi) (fun j hj => ?_)
        rw [ins_get l i k hi]
        have dl : ((ints l).drop i).length = l.length - i := by rw [List.length_drop, hcl]
        have hin1 : ∀ j, j < cap → ((w.drew.setCells g (0 + (i + 1)) ((ints l).drop i)).cell? ⟨g, j, none⟩).isSome = true := fun j hj => by
          rw [cell_of_row _ g j c1 3 (0, 0) h1, Array.getElem?_eq_getElem (by omega)]
          rfl
        split
        · rw [World.cell?_setCells_out g _ _ _ _ (fun _ _ => .inl (by show j < 0 + i; omega)), World.cell?_setCells_out g _ _ _ _ (fun _ _ => .inl (by show j < 0 + (i + 1); omega))]
          have hj' : j < (ints l).length := by omega
          have := hcs j _ (List.getElem?_eq_getElem hj')
          rw [Nat.zero_add] at this
          rw [List.getElem?_eq_getElem hj']
          exact this
        · split
          · rename_i hji
            have := World.cell?_setCells_in g [.int .i64 k] (0 + i) (w.drew.setCells g (0 + (i + 1)) ((ints l).drop i)) (fun q hq => by have := hin1 (0 + i + q) (by simp at hq; omega); exact this) 0 (by simp)
            rw [hji]
            simpa using this
          · rw [World.cell?_setCells_out g _ _ _ _ (fun _ _ => .inr (by show 0 + i + 1 ≤ j; omega))]
            have := World.cell?_setCells_in g ((ints l).drop i) (0 + (i + 1)) w.drew (fun q hq => by have := hin (i + 1 + q) (by omega); rwa [← Nat.add_assoc] at this) (j - (i + 1)) (by omega)
            rw [show 0 + (i + 1) + (j - (i + 1)) = j by omega] at this
            rw [this, ← List.getElem?_eq_getElem, List.getElem?_drop, show i + (j - (i + 1)) = j - 1 by omega]
      · obtain rfl : i = l.length := by omega
        refine (Any2.slices_Insert_int_end_room Try.lays21 g 0 l.length cap sb 0 1 1 [.int .i64 k] w (by omega) hroom hm' rfl (fun j hj => by have := hin (l.length + j) (by omega); rwa [← Nat.add_assoc] at this) (fun j _ => by have := hfz (l.length + j); rwa [← Nat.add_assoc] at this) hvs h1v).mono ?_
        rintro e w' ⟨rfl, rfl⟩
        obtain ⟨c2, h2, s2, g2⟩ := setCells_heap g 3 [.int .i64 k] (0 + l.length) w cur hg
        refine ⟨_, rfl, ?_, g2, .inl rfl⟩
        rw [hlen]
        refine own_of_cells h2 hb (by omega) hm (by rw [s2, hc]) (ins_len l _ k hi) (fun j hj => ?_)
        rw [ins_get l _ k hi]
        split
        · rw [World.cell?_setCells_out g _ _ _ _ (fun _ _ => .inl (by show j < 0 + l.length; omega))]
          have hj' : j < (ints l).length := by omega
          have := hcs j _ (List.getElem?_eq_getElem hj')
          rw [Nat.zero_add] at this
          rw [List.getElem?_eq_getElem hj']
          exact this
        · obtain rfl : j = l.length := by omega
          rw [if_pos rfl]
          have := World.cell?_setCells_in g [.int .i64 k] (0 + l.length) w (fun q hq => by have := hin (l.length + q) (by simp at hq; omega); rwa [← Nat.add_assoc] at this) 0 (by simp)
          simpa using this
    · by_cases hlt : i < l.length
      · refine (Any2.slices_Insert_int_grow Try.lays21 g 0 l.length cap i sb 0 1 1 (ints l) [.int .i64 k] w hlt (by omega) hn (by omega) (by omega) hcl rfl hcs hvs (ints_one l) h1v).mono ?_
        rintro e w' ⟨rfl, rfl⟩
        exact ins_grow w B l i k _ hlt (grownCap_ge _ _ _ _) (grownCap_le_maxLen _ _ _ _ (by unfold maxLen; omega)) hB
      · obtain rfl : i = l.length := by omega
        refine (Any2.slices_Insert_int_end_grow Try.lays21 (some ⟨g, 0, none⟩) l.length cap sb 0 1 1 (ints l) [.int .i64 k] w (by omega) hn (by omega) (by omega) hcl rfl (fun h => by cases h) (fun a ha j u hj => by cases ha; rw [Addr.add_lit]; exact hcs j u hj) hvs h1v).mono ?_
        rintro e w' ⟨rfl, rfl⟩
        rw [List.take_length, List.drop_length]
        have := ins_new w B (l ++ [k]) (l.length + 1) (grownCap w (l.length + 1) cap 3) (v := .slice (some ⟨g, 0, none⟩) l.length cap) (by simp) (grownCap_ge _ _ _ _) (grownCap_le_maxLen _ _ _ _ (by unfold maxLen; omega)) hB
        rw [ints_app] at this
        exact this

end Go.Proofs.Ytneepoaimbnneaa.RW
