/- Walks: slices.Insert of one entry into those that a slice owns. -/
import Derived.Test.YtnegjbkbfgkkjaaGreatDoorG37
import Derived.Maps.AppendAt
import Derived.Lib.Overlaps
import Derived.Laws.Externs
import Derived.Laws.IdiomCopy
import Derived.Lib.AppendZerosOnto
import Derived.Laws.NewBlocks
import Derived.Shelf.Spec.SlicesInsert
namespace Go.Proofs.YtnegjbkbfgkkjaaGreatDoor
open Go.RowKit Go.MapKept

theorem run_copy12 (w : World) (dT sT ty elem : TypeId) (k b o dLen dCap : Nat) (a : Addr) (sLen sCap m : Nat) (cs : List Value)
    (hu : Tryz.prog.underlying dT = some (.slice elem)) (hs : (Tryz.prog.info? elem).map (·.size) = some k) (hm : m = Nat.min sLen dLen) (hn : cs.length = m * k)
    (hsrc : ∀ j v, cs[j]? = some v → w.cell? (a.add j) = some v) (hc : ∀ j, j < cs.length → (w.cell? ⟨b, o + j, none⟩).isSome = true) (hf : ∀ j, j < cs.length → w.frozen? ⟨b, o + j, none⟩ = false) (h1 : ∀ v ∈ cs, v.oneCell' = true) :
    (Builtin.copy_ #[dT, sT] ty #[.slice (some ⟨b, o, none⟩) dLen dCap, .slice (some a) sLen sCap]).run Tryz.prog w = .ok (goInt m) (w.setCells b o cs) := by
  have hl := run_loadCells_list (P := Tryz.prog) w a cs hsrc
  have hst := run_storeCells_cells (P := Tryz.prog) b o cs 0 w (by simpa using hc) (by simpa using hf) h1
  cases hq : Tryz.prog.info? elem with
  | none => simp [hq] at hs
  | some i =>
    have hi : i.size = k := by simpa [hq] using hs
    rw [hn] at hl
    simp [Builtin.copy_, run_underlying hu, Builtin.lenOf, Builtin.firstCells, sizeOf, typeInfo, hq, hi, ← hm, hl, hst]
theorem ins_get12 {k : Nat} (xs c : List Value) (n i : Nat) (hx : xs.length = n * k) (hc : c.length = k) (hi : i ≤ n) (j : Nat) : (xs.take (i * k) ++ c ++ xs.drop (i * k))[j]? = if j < i * k then xs[j]? else if j < i * k + k then c[j - i * k]? else xs[j - k]? := by
  have hik : i * k ≤ n * k := Nat.mul_le_mul_right _ hi
  have ht : (xs.take (i * k)).length = i * k := by rw [List.length_take]; omega
  split
  · rw [List.append_assoc, List.getElem?_append_left (by omega), List.getElem?_take_of_lt (by assumption)]
  · split
    · rw [List.append_assoc, List.getElem?_append_right (by omega), List.getElem?_append_left (by omega), ht]
    · rw [List.getElem?_append_right (by rw [List.length_append]; omega), List.length_append, ht, hc, List.getElem?_drop, show i * k + (j - (i * k + k)) = j - k by omega]

/-- what is told of entries with one more -/
def InsP (B : Nat) (w : World) (v : Value) (n : Nat) (xs : List Value) (e : Ending) (w' : World) : Prop := ∃ v', e = .returned v' ∧ w'.ownsRow B 54 4 v' n xs ∧ w.grownBy w' v.ownBlock ∧ (v'.ownBlock = v.ownBlock ∨ ∃ b, v'.ownBlock = some b ∧ w.heap.size ≤ b)

set_option maxHeartbeats 4000000 in
set_option maxRecDepth 100000 in
theorem insert_end (B n : Nat) (v : Value) (xs c : List Value) (sb : Nat) (w : World) (h : w.ownsRow B 54 4 v n xs) (hn : n ≤ 100) (hB : B ≤ w.heap.size) (hc : c.length = 4) (h1 : ∀ u ∈ c, u.oneCell' = true) (hs : ∀ j u, c[j]? = some u → w.cell? ⟨sb, j, none⟩ = some u) :
    Calls Tryz.prog 55 #[v, .int .i64 (n : Int), .slice (some ⟨sb, 0, none⟩) 1 1] w (InsP B w v (n + 1) (xs ++ c)) := by
  obtain ⟨i0, hi0, hz0, hz2, hzb⟩ := info_parts info_Entry
  have HO := hide h
  have HI := hide (And.intro hi0 (And.intro hz0 (And.intro hz2 hzb)))
  have HS := hide (show ∀ j u, c[j]? = some u → w.cell? ((⟨sb, 0, none⟩ : Addr).add j) = some u from fun j u hj => by rw [Addr.add_lit, Nat.zero_add]; exact hs j u hj)
  have H1 := hide h1
  have HC := hide (show c.length = 1 * 4 by omega)
  have hn' : (n : Int) ≤ 100 := by omega
  obtain ⟨a, cap, hve, hcap⟩ : ∃ a cap, v = .slice a n cap ∧ n ≤ cap := by
    rcases h.2 with ⟨rfl, rfl⟩ | ⟨g, cap, cur, rfl, _, _, h1, _⟩
    · exact ⟨none, 0, rfl, Nat.le_refl _⟩
    · exact ⟨_, cap, rfl, h1⟩
  subst hve
  clear h h1 hs hc hi0 hz0 hz2 hzb
  rcases (by omega : n = cap ∨ n < cap) with rfl | hlt
  all_goals
    first | have hcn : ¬ cap = n := Nat.ne_of_gt hlt | skip
    go_enter Tryz.func55, Tryz.ntmps55
    go_wp2_with (at_builtin; refine wpList_append_own_at _ rfl _ _ 24 rfl B 54 i0 (.agg #[.string ⟨#[]⟩, .int .i64 0, .int .i64 0, .slice none 0 0]) 4 56 Tryz.underlying24 (unhide HI).1 (unhide HI).2.1 (unhide HI).2.2.1 (unhide HI).2.2.2 rfl (by decide) _ n xs rfl (unhide HO) ⟨sb, 0, none⟩ 1 1 c rfl (unhide HC) (unhide HS) (unhide H1) (by unfold maxLen; omega) (by omega) hB ?_)
    intro v1 w2 hown hgrow hnil hat
    have HW := hide (And.intro hown (And.intro hgrow hat))
    clear hown hgrow hnil hat HO HI HS H1
    go_wp2
    go_ret
    obtain ⟨hown, hgrow, hat⟩ := unhide HW
    refine ⟨_, rfl, hown, hgrow, ?_⟩
    rcases hat with q | q
    · exact .inl q
    · exact .inr ⟨_, q, Nat.le_refl _⟩

theorem zero_Entry4 : (Tryz.prog.info? 54).map (·.size) = some 4 := by kernel_rfl

set_option maxHeartbeats 8000000 in
set_option maxRecDepth 100000 in
theorem insert_shift (B n i g cap : Nat) (cur : Array Value) (xs c : List Value) (sb kA : Nat) (tA : TypeId) (w : World) (hB : B ≤ g) (hg : w.heap[g]? = some (.cells cur 54 (0, 0))) (hnc : n + 1 ≤ cap) (hm : cap ≤ maxLen) (hcs : cur.size = cap * 4)
    (hx : xs.length = n * 4) (hxs : ∀ j u, xs[j]? = some u → w.cell? ⟨g, j, none⟩ = some u) (hi : i < n) (hn : n ≤ 100) (hc : c.length = 4) (hne : sb ≠ g) (h1x : ∀ u ∈ xs, u.oneCell' = true) (h1 : ∀ u ∈ c, u.oneCell' = true) (hs : ∀ j u, c[j]? = some u → w.cell? ⟨sb, j, none⟩ = some u)
    (hsa : w.shape? sb = some (tA, kA)) (hfa : w.frozen? ⟨sb, 0, none⟩ = false) (hfe : w.frozen? ⟨sb, kA, none⟩ = false) :
    Calls Tryz.prog 55 #[.slice (some ⟨g, 0, none⟩) n cap, .int .i64 (i : Int), .slice (some ⟨sb, 0, none⟩) 1 1] w (InsP B w (.slice (some ⟨g, 0, none⟩) n cap) (n + 1) (xs.take (i * 4) ++ (c ++ xs.drop (i * 4)))) := by
  have hm' : cap ≤ 9223372036854775807 := by unfold maxLen at hm; omega
  have hin1 : ∀ j, j < cap * 4 → (w.cell? ⟨g, j, none⟩).isSome = true := fun j hj => by rw [cell_of_row w g j cur _ (0, 0) hg, Array.getElem?_eq_getElem (by omega)]; rfl
  have hfz : ∀ j, w.frozen? ⟨g, j, none⟩ = false := fun j => frozen_of_row w g j cur _ hg
  have hz1 : ((1 : Int) == 0) = false := rfl
  have hz2 : ((i : Int) == (n : Int)) = false := by simp; omega
  have hz3 : ¬ (cap : Int) < (n : Int) + 1 := by omega
  have hov : ∀ lb cb, (callFunc 68 #[.slice (some ⟨sb, 0, none⟩) 1 1, .slice (some ⟨g, (i + 1) * 4, none⟩) lb cb]).run Tryz.prog w = .ok (.value (.bool false)) w := fun lb cb => by
    rw [run_callFunc_extern Tryz.func68 (by kernel_rfl) (by kernel_rfl) (by kernel_rfl) (e := Extern.SlicesOverlaps.overlaps #[24, 24] #[4]) (by kernel_rfl),
      Lib.run_overlaps_apart w 24 4 54 Tryz.underlying24 4 (fun w => by kernel_rfl) ⟨sb, 0, none⟩ ⟨g, (i + 1) * 4, none⟩ 1 1 lb cb hne tA 54 kA (cap * 4) hsa (by simp [World.shape?, hg, hcs]) (by omega) hfa hfe]
    rfl
  have hdl : (xs.drop (i * 4)).length = (n - i) * 4 := by rw [List.length_drop, hx, Nat.sub_mul]
  have hcp1 : ∀ ty dc sc, (Builtin.copy_ #[24, 24] ty #[.slice (some ⟨g, (i + 1) * 4, none⟩) (n - i) dc, .slice (some ⟨g, i * 4, none⟩) (n + 1 - i) sc]).run Tryz.prog w.drew = .ok (goInt ((n - i : Nat) : Int)) (w.drew.setCells g ((i + 1) * 4) (xs.drop (i * 4))) := fun ty dc sc =>
    run_copy12 w.drew _ _ ty _ 4 g ((i + 1) * 4) (n - i) dc ⟨g, i * 4, none⟩ (n + 1 - i) sc (n - i) (xs.drop (i * 4)) Tryz.underlying24 zero_Entry4 (by simp only [Nat.min_def]; split <;> omega) hdl
      (fun j v hj => by rw [Addr.add_lit]; exact hxs (i * 4 + j) v (by rwa [List.getElem?_drop] at hj))
      (fun j hj => hin1 _ (by omega)) (fun j hj => hfz _) (fun v hv => h1x v (List.mem_of_mem_drop hv))
  obtain ⟨W1, hW1⟩ : ∃ W1, W1 = w.drew.setCells g ((i + 1) * 4) (xs.drop (i * 4)) := ⟨_, rfl⟩
  obtain ⟨cur1, hg1, hs1, gr1⟩ := setRow_heap12 g _ (xs.drop (i * 4)) ((i + 1) * 4) w.drew cur hg
  rw [← hW1] at hcp1 hg1 gr1
  have hcp2 : ∀ (W : World), (∀ x, W.cell? x = W1.cell? x) → (∀ x, W.frozen? x = W1.frozen? x) → ∀ ty dc, (Builtin.copy_ #[24, 24] ty #[.slice (some ⟨g, i * 4, none⟩) (n + 1 - i) dc, .slice (some ⟨sb, 0, none⟩) 1 1]).run Tryz.prog W = .ok (goInt ((1 : Nat) : Int)) (W.setCells g (i * 4) c) := fun W hWc hWf ty dc =>
    run_copy12 W _ _ ty _ 4 g (i * 4) (n + 1 - i) dc ⟨sb, 0, none⟩ 1 1 1 c Tryz.underlying24 zero_Entry4 (by simp only [Nat.min_def]; split <;> omega) (by omega)
      (fun j v hj => by
        rw [Addr.add_lit, hWc, hW1, World.cell?_setCells_out g _ _ _ _ (fun h _ => absurd h hne), Nat.zero_add]
        exact hs j v hj)
      (fun j hj => by rw [hWc, cell_of_row W1 g _ cur1 _ (0, 0) hg1, Array.getElem?_eq_getElem (by rw [hs1]; omega)]; rfl)
      (fun j hj => by rw [hWf]; exact frozen_of_row W1 g _ cur1 _ hg1) h1
  have hw1 : IntKind.i64.wrap ((i : Int) + 1) = (i : Int) + 1 := by rw [IntKind.wrap_i64]; omega
  have hb1 : (0 : Int) ≤ (i : Int) + 1 := by omega
  have hin : i ≤ n := by omega
  have htn : ((i : Int) + 1).toNat = i + 1 := by omega
  have hb2 : ¬ (cap = i + 1) := by omega
  have hb3 : (i : Int) ≤ (n : Int) + 1 := by omega
  have hb4 : ¬ (cap = i) := by omega
  obtain ⟨cur2, hg2, hs2, gr2⟩ := setRow_heap12 g _ c (i * 4) W1 cur1 hg1
  have FIN : Hid (∀ W, (∀ x, W.heap[x]? = (W1.setCells g (i * 4) c).heap[x]?) → W.heap.size = (W1.setCells g (i * 4) c).heap.size → W.os = (W1.setCells g (i * 4) c).os → W.tape = (W1.setCells g (i * 4) c).tape → W.output = (W1.setCells g (i * 4) c).output → InsP B w (.slice (some ⟨g, 0, none⟩) n cap) (n + 1) (xs.take (i * 4) ++ (c ++ xs.drop (i * 4))) (.returned (.slice (some ⟨g, 0, none⟩) (n + 1) cap)) W) := hide (by
    intro W hW hWs ho ht hou
    have gall := gr_trans (gr_trans (gr_drew w _) gr1) gr2
    have hgW : W.heap[g]? = some (.cells cur2 54 (0, 0)) := by rw [hW]; exact hg2
    refine ⟨_, rfl, own_of12 hgW hB hnc hm (by rw [hs2, hs1, hcs]) (by rw [List.length_append, List.length_append, List.length_take, hdl, hx, hc]; omega) (fun j hj => ?_), ⟨ho.trans gall.os, ht.trans gall.tape, hou.trans gall.output, by rw [hWs]; exact gall.size, fun k hk hne2 => by rw [hW]; exact gall.block k hk hne2⟩, .inl rfl⟩
    rw [← List.append_assoc, ins_get12 xs c n i hx hc hin, World.cell?_of_block (w := W1.setCells g (i * 4) c) (a := ⟨g, j, none⟩) (hW g)]
    split
    · rename_i hji
      rw [World.cell?_setCells_out g _ _ _ _ (fun _ _ => .inl (by show j < i * 4; omega)), hW1, World.cell?_setCells_out g _ _ _ _ (fun _ _ => .inl (by show j < (i + 1) * 4; omega))]
      have hj' : j < xs.length := by omega
      rw [List.getElem?_eq_getElem hj']
      exact hxs j _ (List.getElem?_eq_getElem hj')
    · split
      · have := World.cell?_setCells_in g c (i * 4) W1 (fun q hq => by rw [cell_of_row W1 g _ cur1 _ (0, 0) hg1, Array.getElem?_eq_getElem (by rw [hs1]; omega)]; rfl) (j - i * 4) (by omega)
        rw [show i * 4 + (j - i * 4) = j by omega] at this
        rw [this, ← List.getElem?_eq_getElem]
      · rw [World.cell?_setCells_out g _ _ _ _ (fun _ _ => .inr (by show i * 4 + c.length ≤ j; omega)), hW1]
        have := World.cell?_setCells_in g (xs.drop (i * 4)) ((i + 1) * 4) w.drew (fun q hq => hin1 _ (by omega)) (j - (i + 1) * 4) (by omega)
        rw [show (i + 1) * 4 + (j - (i + 1) * 4) = j by omega] at this
        rw [this, ← List.getElem?_eq_getElem, List.getElem?_drop, show i * 4 + (j - (i + 1) * 4) = j - 4 by omega])
  clear hg2 hs2 gr2 gr1 hs1 hg1 hW1 hin1 hfz hxs hs h1x h1 hsa hfa hfe hdl hx hcs hg
  go_enter Tryz.func55, Tryz.ntmps55
  go_wp2_with (simp only [hov])
  go_region_law (refine step_copy_runI rfl _ _ 24 24 rfl _ _ (by simp [Act.eval, Act.put]) (by simp [Act.eval, Act.put]) (hcp1 _ _ _) ?_)
  go_wp2_with (at_builtin; refine wpList_copy_runI _ rfl _ _ 24 24 rfl _ _ rfl rfl (hcp2 _ (fun _ => rfl) (fun _ => rfl) _ _) ?_)
  go_wp2
  go_ret
  exact unhide FIN _ (fun _ => rfl) rfl rfl rfl rfl
end Go.Proofs.YtnegjbkbfgkkjaaGreatDoor

/- Walks: slices.Insert of one entry where there is no room; all its roads. -/
namespace Go.Proofs.YtnegjbkbfgkkjaaGreatDoor
open Go.RowKit Go.MapKept

theorem setCells_rest (g : Nat) : ∀ (vs : List Value) (o : Nat) (w : World), (w.setCells g o vs).os = w.os ∧ (w.setCells g o vs).tape = w.tape ∧ (w.setCells g o vs).output = w.output
  | [], _, _ => ⟨rfl, rfl, rfl⟩
  | v :: vs, o, w => setCells_rest g vs (o + 1) (w.setCell ⟨g, o, none⟩ v)
theorem setCells_drew (g : Nat) : ∀ (vs : List Value) (o : Nat) (w : World), (w.drew.setCells g o vs).heap = (w.setCells g o vs).heap
  | [], _, _ => rfl
  | v :: vs, o, w => setCells_drew g vs (o + 1) (w.setCell ⟨g, o, none⟩ v)
set_option maxHeartbeats 8000000 in
set_option maxRecDepth 100000 in
theorem insert_grow (B n i g cap : Nat) (xs c : List Value) (sb : Nat) (w : World) (hB : B ≤ w.heap.size) (hgl : g < w.heap.size) (hnc : n ≤ cap) (hroom : cap < n + 1)
    (hx : xs.length = n * 4) (hxs : ∀ j u, xs[j]? = some u → w.cell? ⟨g, j, none⟩ = some u) (hi : i < n) (hn : n ≤ 100) (hc : c.length = 4) (hsl : sb < w.heap.size) (h1x : ∀ u ∈ xs, u.oneCell' = true) (h1 : ∀ u ∈ c, u.oneCell' = true) (hs : ∀ j u, c[j]? = some u → w.cell? ⟨sb, j, none⟩ = some u) :
    Calls Tryz.prog 55 #[.slice (some ⟨g, 0, none⟩) n cap, .int .i64 (i : Int), .slice (some ⟨sb, 0, none⟩) 1 1] w (InsP B w (.slice (some ⟨g, 0, none⟩) n cap) (n + 1) (xs.take (i * 4) ++ (c ++ xs.drop (i * 4)))) := by
  obtain ⟨i0, hi0, hz0, hzs, hzb⟩ := info_parts info_Entry
  have hz1 : ((1 : Int) == 0) = false := rfl
  have hz2 : ((i : Int) == (n : Int)) = false := by simp; omega
  have hz3 : (cap : Int) < (n : Int) + 1 := by omega
  have hkk : (n : Int) + 1 - (i : Int) = ((n + 1 - i : Nat) : Int) := by omega
  have hik : i + (n + 1 - i) = n + 1 := by omega
  have htl : (xs.take (i * 4)).length = i * 4 := by rw [List.length_take]; omega
  have hold : (Builtin.firstCells i0.size i (.slice (some ⟨g, 0, none⟩) i cap)).run Tryz.prog w.drew = .ok (xs.take (i * 4)).toArray w.drew := by
    have hl := run_loadCells_list (P := Tryz.prog) w.drew ⟨g, 0, none⟩ (xs.take (i * 4)) (fun j v hj => by
      rw [Addr.add_lit, Nat.zero_add]
      rw [List.getElem?_take] at hj
      split at hj
      · exact hxs j v hj
      · cases hj)
    rw [htl] at hl
    simp [Builtin.firstCells, hzs, hl]
  obtain ⟨G, hG⟩ : ∃ G, G = grownCap w (n + 1) cap 54 := ⟨_, rfl⟩
  obtain ⟨ROW, hROW⟩ : ∃ ROW : Array Value, ROW = (xs.take (i * 4)).toArray ++ Builtin.zeroCells (Value.agg #[.string ⟨#[]⟩, .int .i64 0, .int .i64 0, .slice none 0 0]).cells (n + 1 - i) ++ Builtin.zeroCells (Value.agg #[.string ⟨#[]⟩, .int .i64 0, .int .i64 0, .slice none 0 0]).cells (G - (n + 1)) := ⟨_, rfl⟩
  have hGn : n + 1 ≤ G := by rw [hG]; exact grownCap_ge w _ _ _
  have hG63 : G ≤ maxLen := by rw [hG]; exact grownCap_le_maxLen w (n + 1) cap 54 (by unfold maxLen; omega)
  have hRs : ROW.size = G * 4 := by
    rw [hROW, Array.size_append, Array.size_append, size_zeroCells, size_zeroCells]
    simp only [List.size_toArray, htl]
    show i * 4 + (n + 1 - i) * 4 + (G - (n + 1)) * 4 = G * 4
    omega
  have hrz : ∀ ty, (Builtin.append_ #[24, 3] ty #[.slice (some ⟨g, 0, none⟩) i cap, .int .i64 ((n : Int) + 1 - (i : Int))]).run Tryz.prog w = .ok (.slice (some ⟨w.heap.size, 0, none⟩) (n + 1) G) (w.drew.alloc (.cells ROW 54)) := fun ty => by
    have h := Lib.run_append_grow_zeros w 24 3 ty 54 i0 _ .i64 .i64 Tryz.underlying24 Tryz.underlying3 hi0 hz0 (some ⟨g, 0, none⟩) i cap (xs.take (i * 4)) hold (n + 1 - i) (by omega) (by rw [hzs]; omega) (by omega) (by omega) (by rw [hzb]; omega) (by
      rw [hzb, hik]
      exact growslice_fits hroom (by omega))
    rw [hik, ← hG, ← hROW] at h
    rw [hkk]
    exact h
  obtain ⟨W1, hW1⟩ : ∃ W1, W1 = w.drew.alloc (.cells ROW 54) := ⟨_, rfl⟩
  have hg1 : W1.heap[w.heap.size]? = some (.cells ROW 54 (0, 0)) := by
    rw [hW1]
    show (w.heap.push _)[w.heap.size]? = _
    simp
  rw [← hW1] at hrz
  have hold1 : ∀ k, k < w.heap.size → W1.heap[k]? = w.heap[k]? := fun k hk => by
    rw [hW1]
    show (w.heap.push _)[k]? = _
    rw [Array.getElem?_push_lt hk, Array.getElem?_eq_getElem hk]
  have hOb : ∀ b j v, b < w.heap.size → w.cell? ⟨b, j, none⟩ = some v → W1.cell? ⟨b, j, none⟩ = some v := fun b j v hb h => by rw [World.cell?_of_block (w := w) (a := ⟨b, j, none⟩) (hold1 b hb)]; exact h
  have hN : ∀ j, j < G * 4 → (W1.cell? ⟨w.heap.size, j, none⟩).isSome = true := fun j hj => by rw [cell_of_row W1 _ j ROW _ (0, 0) hg1, Array.getElem?_eq_getElem (by omega)]; rfl
  have hdl : (xs.drop (i * 4)).length = (n - i) * 4 := by rw [List.length_drop, hx, Nat.sub_mul]
  have hcpA : ∀ (W : World), (∀ x, W.cell? x = W1.cell? x) → (∀ x, W.frozen? x = W1.frozen? x) → ∀ ty dc, (Builtin.copy_ #[24, 24] ty #[.slice (some ⟨w.heap.size, i * 4, none⟩) (n + 1 - i) dc, .slice (some ⟨sb, 0, none⟩) 1 1]).run Tryz.prog W = .ok (goInt ((1 : Nat) : Int)) (W.setCells w.heap.size (i * 4) c) := fun W hWc hWf ty dc =>
    run_copy12 W _ _ ty _ 4 w.heap.size (i * 4) (n + 1 - i) dc ⟨sb, 0, none⟩ 1 1 1 c Tryz.underlying24 zero_Entry4 (by simp only [Nat.min_def]; split <;> omega) (by omega)
      (fun j v hj => by rw [Addr.add_lit, hWc, Nat.zero_add]; exact hOb _ _ v hsl (hs j v hj))
      (fun j hj => by rw [hWc]; exact hN _ (by omega)) (fun j hj => by rw [hWf]; exact frozen_of_row W1 _ _ ROW _ hg1) h1
  obtain ⟨W2, hW2⟩ : ∃ W2, W2 = W1.setCells w.heap.size (i * 4) c := ⟨_, rfl⟩
  obtain ⟨cur2, hg2, hs2, gr2⟩ := setRow_heap12 w.heap.size _ c (i * 4) W1 ROW hg1
  rw [← hW2] at hg2 gr2
  have hcpB : ∀ (W : World), (∀ x, W.cell? x = W2.cell? x) → (∀ x, W.frozen? x = W2.frozen? x) → ∀ ty dc sc, (Builtin.copy_ #[24, 24] ty #[.slice (some ⟨w.heap.size, (i + 1) * 4, none⟩) (n - i) dc, .slice (some ⟨g, i * 4, none⟩) (n - i) sc]).run Tryz.prog W = .ok (goInt ((n - i : Nat) : Int)) (W.setCells w.heap.size ((i + 1) * 4) (xs.drop (i * 4))) := fun W hWc hWf ty dc sc =>
    run_copy12 W _ _ ty _ 4 w.heap.size ((i + 1) * 4) (n - i) dc ⟨g, i * 4, none⟩ (n - i) sc (n - i) (xs.drop (i * 4)) Tryz.underlying24 zero_Entry4 (by simp only [Nat.min_def]; split <;> omega) hdl
      (fun j v hj => by
        rw [Addr.add_lit, hWc, hW2, World.cell?_setCells_out _ _ _ _ _ (fun h _ => absurd h (by show ¬ g = w.heap.size; omega))]
        exact hOb _ _ v hgl (hxs (i * 4 + j) v (by rwa [List.getElem?_drop] at hj)))
      (fun j hj => by rw [hWc, cell_of_row W2 _ _ cur2 _ (0, 0) hg2, Array.getElem?_eq_getElem (by rw [hs2, hRs]; omega)]; rfl)
      (fun j hj => by rw [hWf]; exact frozen_of_row W2 _ _ cur2 _ hg2) (fun v hv => h1x v (List.mem_of_mem_drop hv))
  obtain ⟨cur3, hg3, hs3, gr3⟩ := setRow_heap12 w.heap.size _ (xs.drop (i * 4)) ((i + 1) * 4) W2 cur2 hg2
  have FIN : Hid (∀ W, (∀ x, W.heap[x]? = (W2.setCells w.heap.size ((i + 1) * 4) (xs.drop (i * 4))).heap[x]?) → W.heap.size = (W2.setCells w.heap.size ((i + 1) * 4) (xs.drop (i * 4))).heap.size → W.os = (W2.setCells w.heap.size ((i + 1) * 4) (xs.drop (i * 4))).os → W.tape = (W2.setCells w.heap.size ((i + 1) * 4) (xs.drop (i * 4))).tape → W.output = (W2.setCells w.heap.size ((i + 1) * 4) (xs.drop (i * 4))).output → InsP B w (.slice (some ⟨g, 0, none⟩) n cap) (n + 1) (xs.take (i * 4) ++ (c ++ xs.drop (i * 4))) (.returned (.slice (some ⟨w.heap.size, 0, none⟩) (n + 1) G)) W) := hide (by
    intro W hW hWs ho ht hou
    have gall := gr_trans gr2 gr3
    have hgW : W.heap[w.heap.size]? = some (.cells cur3 54 (0, 0)) := by rw [hW]; exact hg3
    have sz1 : W1.heap.size = w.heap.size + 1 := by rw [hW1]; show (w.heap.push _).size = _; simp
    refine ⟨_, rfl, own_of12 hgW hB hGn hG63 (by rw [hs3, hs2, hRs]) (by rw [List.length_append, List.length_append, htl, hdl, hc]; omega) (fun j hj => ?_), ⟨ho.trans (gall.os.trans (by rw [hW1]; rfl)), ht.trans (gall.tape.trans (by rw [hW1]; rfl)), hou.trans (gall.output.trans (by rw [hW1]; rfl)), by rw [hWs]; have := gall.size; omega, fun k hk _ => by rw [hW, gall.block k (by omega) (by intro e; cases e; omega)]; exact hold1 k hk⟩, .inr ⟨_, rfl, Nat.le_refl _⟩⟩
    rw [← List.append_assoc, ins_get12 xs c n i hx hc (by omega), World.cell?_of_block (w := W2.setCells w.heap.size ((i + 1) * 4) (xs.drop (i * 4))) (a := ⟨w.heap.size, j, none⟩) (hW _)]
    split
    · rename_i hji
      rw [World.cell?_setCells_out _ _ _ _ _ (fun _ _ => .inl (by show j < (i + 1) * 4; omega)), hW2, World.cell?_setCells_out _ _ _ _ _ (fun _ _ => .inl (by show j < i * 4; omega)), cell_of_row W1 _ j ROW _ (0, 0) hg1, hROW, Array.append_assoc, Array.getElem?_append_left (by simp only [List.size_toArray, htl]; exact hji)]
      simp [hji]
    · split
      · rename_i h1 h2
        rw [World.cell?_setCells_out _ _ _ _ _ (fun _ _ => .inl (by show j < (i + 1) * 4; omega)), hW2]
        have := World.cell?_setCells_in w.heap.size c (i * 4) W1 (fun q hq => hN _ (by omega)) (j - i * 4) (by omega)
        rw [show i * 4 + (j - i * 4) = j by omega] at this
        rw [this, ← List.getElem?_eq_getElem]
      · have := World.cell?_setCells_in w.heap.size (xs.drop (i * 4)) ((i + 1) * 4) W2 (fun q hq => by rw [cell_of_row W2 _ _ cur2 _ (0, 0) hg2, Array.getElem?_eq_getElem (by rw [hs2, hRs]; omega)]; rfl) (j - (i + 1) * 4) (by omega)
        rw [show (i + 1) * 4 + (j - (i + 1) * 4) = j by omega] at this
        rw [this, ← List.getElem?_eq_getElem, List.getElem?_drop, show i * 4 + (j - (i + 1) * 4) = j - 4 by omega])
  have hw1 : IntKind.i64.wrap ((i : Int) + 1) = (i : Int) + 1 := by rw [IntKind.wrap_i64]; omega
  have hb1 : (0 : Int) ≤ (i : Int) + 1 := by omega
  have hin : i ≤ n := by omega
  have htn : ((i : Int) + 1).toNat = i + 1 := by omega
  have hGi : ¬ (G = i) := by omega
  have hGim : ¬ (G = i + 1) := by omega
  have hci : ¬ (cap = i) := by omega
  have hb3 : (i : Int) ≤ (n : Int) + 1 := by omega
  have hb4 : (i : Int) ≤ (n : Int) := by omega
  have hG63' : G ≤ 9223372036854775807 := by unfold maxLen at hG63; omega
  clear hg3 hs3 gr3 hg2 hs2 gr2 hdl hN hOb hold1 hg1 hRs hROW hG hold htl hkk hik hxs hs h1x h1 hx hG63
  have HW2 := hide hW2
  have hcpC := hcpB W2.drew (fun _ => rfl) (fun _ => rfl)
  clear hcpB hW2 hW1
  go_enter Tryz.func55, Tryz.ntmps55
  go_wp2_with (first
    | (at_builtin; refine Lib.wpList_append_run _ rfl _ _ _ _ rfl _ _ rfl rfl _ _ (hrz _) ?_)
    | (at_builtin; refine wpList_copy_runI _ rfl _ _ 24 24 rfl _ _ rfl rfl (hcpA _ (fun _ => rfl) (fun _ => rfl) _ _) ?_))
  rw [← unhide HW2]
  go_region_law (refine step_copy_runI rfl _ _ 24 24 rfl (.slice (some ⟨w.heap.size, (i + 1) * 4, none⟩) (n - i) (G - (i + 1))) (.slice (some ⟨g, i * 4, none⟩) (n - i) (cap - i)) (by simp [Act.eval, Act.put]) (by simp [Act.eval, Act.put]) (hcpC _ _ _) ?_)
  go_wp2
  go_ret
  have r1 := setCells_rest w.heap.size (xs.drop (i * 4)) ((i + 1) * 4) W2.drew
  have r2 := setCells_rest w.heap.size (xs.drop (i * 4)) ((i + 1) * 4) W2
  have r3 := setCells_drew w.heap.size (xs.drop (i * 4)) ((i + 1) * 4) W2
  exact unhide FIN _ (fun x => by rw [r3]) (by rw [r3]) (r1.1.trans r2.1.symm) (r1.2.1.trans r2.2.1.symm) (r1.2.2.trans r2.2.2.symm)

/-- one entry more in its place -/
theorem insert_any {B n : Nat} (i : Nat) (v : Value) (xs c : List Value) (sb kA : Nat) (tA : TypeId) (w : World) (h : w.ownsRow B 54 4 v n xs) (hB : B ≤ w.heap.size) (hi : i ≤ n) (hn : n ≤ 100) (hc : c.length = 4) (hsl : sb < w.heap.size) (hne : v.ownBlock ≠ some sb) (h1x : ∀ u ∈ xs, u.oneCell' = true) (h1 : ∀ u ∈ c, u.oneCell' = true) (hs : ∀ j u, c[j]? = some u → w.cell? ⟨sb, j, none⟩ = some u)
    (hsa : w.shape? sb = some (tA, kA)) (hfa : w.frozen? ⟨sb, 0, none⟩ = false) (hfe : w.frozen? ⟨sb, kA, none⟩ = false) :
    Calls Tryz.prog 55 #[v, .int .i64 (i : Int), .slice (some ⟨sb, 0, none⟩) 1 1] w (InsP B w v (n + 1) (xs.take (i * 4) ++ (c ++ xs.drop (i * 4)))) := by
  have hx := h.1
  rcases Nat.lt_or_ge i n with q | q
  · obtain ⟨g, cap, cur, rfl, hBg, hg, hnc, hm, hcs, hxs⟩ := own_at12 h (by omega)
    have hgs : sb ≠ g := fun e => hne (by rw [e]; rfl)
    rcases Nat.lt_or_ge n cap with r | r
    · exact insert_shift B n i g cap cur xs c sb kA tA w hBg hg (by omega) hm hcs hx hxs q hn hc hgs h1x h1 hs hsa hfa hfe
    · exact insert_grow B n i g cap xs c sb w hB (Array.getElem?_eq_some_iff.1 hg).1 hnc (by omega) hx hxs q hn hc hsl h1x h1 hs
  · obtain rfl : i = n := by omega
    have e1 : xs.take (i * 4) = xs := List.take_of_length_le (by omega)
    have e2 : xs.drop (i * 4) = [] := List.drop_eq_nil_of_le (by omega)
    rw [e1, e2, List.append_nil]
    exact insert_end B i v xs c sb w h hn hB hc h1 hs
end Go.Proofs.YtnegjbkbfgkkjaaGreatDoor
