/- Walks: slices.Delete of one api.Entry, in place. (Written by gen_del.py.) -/
import Derived.Test.YtnegjbkbfgkkjaaGreatDoorG33
import Derived.Lib.SliceRun
import Derived.Deep.RegionLaw
import Derived.Maps.AppendAt
namespace Go.Proofs.YtnegjbkbfgkkjaaGreatDoor
open Go.RowKit Go.MapKept

theorem info_Entry : (Tryz.prog.info? 54).map (fun i => (i.zero, i.size, i.bytes)) = some (some (.agg #[.string ⟨#[]⟩, .int .i64 0, .int .i64 0, .slice none 0 0]), 4, 56) := by kernel_rfl
theorem zero_Entry (w : World) : (zeroValue 54).run Tryz.prog w = .ok (.agg #[.string ⟨#[]⟩, .int .i64 0, .int .i64 0, .slice none 0 0]) w := by
  obtain ⟨i0, I0, I1, I2, I3⟩ := info_parts info_Entry
  simp [zeroValue, typeInfo, I0, I1]

set_option maxHeartbeats 4000000 in
set_option maxRecDepth 100000 in
theorem delete_Entry (B n i : Nat) (v : Value) (tc : List Value) (w : World) (h : w.ownsRow B 54 4 v n tc) (h1 : ∀ u ∈ tc, u.oneCell' = true) (hi : i < n) (hn : n ≤ 1000) (j : Nat) (hj : j = i + 1) :
    Calls Tryz.prog 58 #[v, .int .i64 (i : Int), .int .i64 (j : Int)] w fun e w' => ∃ v', e = .returned v' ∧ w'.ownsRow B 54 4 v' (n - 1) (tc.take (i * 4) ++ tc.drop (j * 4)) ∧ w.grownBy w' v.ownBlock ∧ v'.ownBlock = v.ownBlock := by
  obtain ⟨i0, hi0, hz0, hz1, hz2⟩ := info_parts info_Entry
  have hlen : tc.length = n * 4 := h.1
  obtain ⟨g, cap, cur, rfl, hB, hg, k3, k4, hcs, k6⟩ := own_at12 h (by omega)
  have k4' : cap ≤ 9223372036854775807 := by unfold maxLen at k4; omega
  have k5 : ∀ t, t < cap * 4 → (w.cell? ⟨g, t, none⟩).isSome = true ∧ w.frozen? ⟨g, t, none⟩ = false := fun t ht => ⟨by rw [cell_of_row w g t cur _ (0, 0) hg, Array.getElem?_eq_getElem (by omega)]; rfl, frozen_of_row w g t cur _ hg⟩
  obtain ⟨news, hnews⟩ : ∃ news, news = tc.drop (j * 4) := ⟨_, rfl⟩
  have hnl : news.length = (n - j) * 4 := by rw [hnews, List.length_drop, hlen, Nat.sub_mul]
  obtain ⟨A, hA, hsrc⟩ : ∃ A : Addr, (if cap = j then some (⟨g, 0, none⟩ : Addr) else some ⟨g, j * 4, none⟩) = some A ∧ Hid (∀ t u, news[t]? = some u → w.drew.cell? (A.add t) = some u) := by
    by_cases hc : cap = j
    · refine ⟨⟨g, 0, none⟩, by simp [hc], hide fun t u hu => ?_⟩
      have h0 : news.length = 0 := by rw [hnl]; omega
      rw [List.length_eq_zero_iff.1 h0] at hu
      simp at hu
    · refine ⟨⟨g, j * 4, none⟩, by simp [hc], hide fun t u hu => ?_⟩
      rw [hnews, List.getElem?_drop] at hu
      rw [Addr.add_lit]
      exact k6 _ u hu
  have s1 : Hid (news.length = (n - j) * 4) := hide hnl
  have s2 : Hid (∀ u ∈ news, u.oneCell' = true) := hide fun u hu => h1 u (by rw [hnews] at hu; exact List.mem_of_mem_drop hu)
  have s3 : Hid (∀ t, t < news.length → (w.drew.cell? ⟨g, i * 4 + t, none⟩).isSome = true ∧ w.drew.frozen? ⟨g, i * 4 + t, none⟩ = false) := hide fun t ht => by
    rw [hnl] at ht
    exact k5 _ (by omega)
  obtain ⟨W1, hW1⟩ : ∃ W1, W1 = w.drew.setCells g (i * 4) news := ⟨_, rfl⟩
  obtain ⟨cur1, hg1, hs1, gr1⟩ := setRow_heap12 g _ news (i * 4) w.drew cur hg
  rw [← hW1] at hg1 gr1
  have htl : (tc.take (i * 4)).length = i * 4 := by rw [List.length_take, hlen]; omega
  have c1 : ∀ t u, (tc.take (i * 4) ++ tc.drop (j * 4))[t]? = some u → W1.cell? ⟨g, t, none⟩ = some u := fun t u ht => by
    rw [hW1]
    rcases Nat.lt_or_ge t (i * 4) with q | q
    · rw [List.getElem?_append_left (by omega), List.getElem?_take_of_lt q] at ht
      rw [World.cell?_setCells_out _ _ _ _ _ (fun _ _ => .inl (by simp only; omega))]
      exact k6 t u ht
    · rw [List.getElem?_append_right (by omega), htl, ← hnews] at ht
      obtain ⟨q2, q3⟩ := List.getElem?_eq_some_iff.1 ht
      have e1 := World.cell?_setCells_in g news (i * 4) w.drew (fun t ht => (unhide s3 t ht).1) (t - i * 4) q2
      have e2 : t = i * 4 + (t - i * 4) := by omega
      rw [e2, e1, q3]
  have hal : (tc.take (i * 4) ++ tc.drop (j * 4)).length = (n - 1) * 4 := by rw [List.length_append, htl, List.length_drop, hlen]; omega
  have hm : i + (n - j) = n - 1 := by omega
  obtain ⟨zs, hzl, hcl⟩ : ∃ zs : List Value, zs.length = 4 ∧ ∀ ty c, (Builtin.clear_ #[24] ty #[.slice (some ⟨g, (i + (n - j)) * 4, none⟩) (n - (i + (n - j))) c]).run Tryz.prog W1 = .ok (.tuple #[]) (W1.setCells g ((i + (n - j)) * 4) zs) := by
    have e1 : n - (i + (n - j)) = 1 := by omega
    have hs : ∀ t, t < 4 → (W1.cell? ⟨g, (i + (n - j)) * 4 + t, none⟩).isSome = true ∧ W1.frozen? ⟨g, (i + (n - j)) * 4 + t, none⟩ = false := by
      intro t ht
      exact ⟨by rw [cell_of_row W1 g _ cur1 _ (0, 0) hg1, Array.getElem?_eq_getElem (by rw [hs1]; omega)]; rfl, frozen_of_row W1 g _ cur1 _ hg1⟩
    refine ⟨(Builtin.zeroCells (Value.agg #[.string ⟨#[]⟩, .int .i64 0, .int .i64 0, .slice none 0 0]).cells 1).toList, by rw [Array.length_toList, size_zeroCells]; rfl, fun ty c => ?_⟩
    · rw [e1]
      exact run_clear12 W1 _ _ ty _ Tryz.underlying24 zero_Entry (by decide) (by decide) g _ 1 c (by omega) (fun t ht => (hs t ht).1) (fun t ht => (hs t ht).2)
  obtain ⟨cur2, hg2, hs2, gr2⟩ := setRow_heap12 g _ zs ((i + (n - j)) * 4) W1 cur1 hg1
  have q2 : Hid ((W1.setCells g ((i + (n - j)) * 4) zs).ownsRow B 54 4 (.slice (some ⟨g, 0, none⟩) (n - 1) cap) (n - 1) (tc.take (i * 4) ++ tc.drop (j * 4))) := hide (by
    refine own_of12 hg2 hB (by omega) k4 (by rw [hs2, hs1, hcs]) hal fun t ht => ?_
    obtain ⟨u, hu⟩ : ∃ u, (tc.take (i * 4) ++ tc.drop (j * 4))[t]? = some u := ⟨_, List.getElem?_eq_getElem (by omega)⟩
    rw [World.cell?_setCells_out _ _ _ _ _ (fun _ _ => .inl (by simp only; omega)), hu]
    exact c1 t u hu)
  have g2 : Hid (w.grownBy (W1.setCells g ((i + (n - j)) * 4) zs) (some g)) := hide (gr_trans (gr_trans (gr_drew w _) gr1) gr2)
  have hW : Hid (W1 = w.drew.setCells g (i * 4) news) := hide hW1
  have HV : Hid ((Value.slice (some ⟨g, 0, none⟩) (i + (n - j)) cap) = .slice (some ⟨g, 0, none⟩) (n - 1) cap) := hide (by rw [hm])
  have hic : i ≤ cap := by omega
  have hjc : j ≤ cap := by omega
  have hic' : (i : Int) ≤ (n : Int) := by omega
  have hij : i ≤ j := by omega
  have hjn : j ≤ n := by omega
  have hne : ((i : Int) == (j : Int)) = false := by simp; omega
  have hne2 : ¬ i = j := by omega
  clear hj hW1 hnews hlen k5 k6 gr1 gr2 hnl h h1 hzl hm htl hal c1 hg1 hg2 hs1 hs2 hg hcs k4 hB
  go_enter Tryz.func58, Tryz.ntmps58
  go_wp2_with fail
  go_region_law (refine step_append_room rfl (.tmp 22) (.tmp 25) 24 rfl 54 i0 4 Tryz.underlying24 hi0 hz1 g 0 i cap (by simp [Act.eval, Act.put]) A (n - j) (cap - j) news (by simp [Act.eval, Act.put]) (unhide s1) (unhide hsrc) (unhide s2) (by omega) (by rw [Nat.zero_add]; exact unhide s3) ?_; rw [Nat.zero_add, ← unhide hW])
  go_wp2
  go_ret
  refine ⟨_, rfl, ?_, unhide g2, rfl⟩
  rw [unhide HV]
  exact unhide q2
end Go.Proofs.YtnegjbkbfgkkjaaGreatDoor

/- Walks: slices.Delete of one api.Seat, in place. (Written by gen_del.py.) -/
namespace Go.Proofs.YtnegjbkbfgkkjaaGreatDoor
open Go.RowKit Go.MapKept

theorem info_Seat : (Tryz.prog.info? 49).map (fun i => (i.zero, i.size, i.bytes)) = some (some (.agg #[.int .i64 0, .int .i64 0, .int .i64 0, .int .i64 0]), 4, 32) := by kernel_rfl
theorem zero_Seat (w : World) : (zeroValue 49).run Tryz.prog w = .ok (.agg #[.int .i64 0, .int .i64 0, .int .i64 0, .int .i64 0]) w := by
  obtain ⟨i0, I0, I1, I2, I3⟩ := info_parts info_Seat
  simp [zeroValue, typeInfo, I0, I1]

set_option maxHeartbeats 4000000 in
set_option maxRecDepth 100000 in
theorem delete_Seat (B n i : Nat) (v : Value) (tc : List Value) (w : World) (h : w.ownsRow B 49 4 v n tc) (h1 : ∀ u ∈ tc, u.oneCell' = true) (hi : i < n) (hn : n ≤ 1000) (j : Nat) (hj : j = i + 1) :
    Calls Tryz.prog 37 #[v, .int .i64 (i : Int), .int .i64 (j : Int)] w fun e w' => ∃ v', e = .returned v' ∧ w'.ownsRow B 49 4 v' (n - 1) (tc.take (i * 4) ++ tc.drop (j * 4)) ∧ w.grownBy w' v.ownBlock ∧ v'.ownBlock = v.ownBlock := by
  obtain ⟨i0, hi0, hz0, hz1, hz2⟩ := info_parts info_Seat
  have hlen : tc.length = n * 4 := h.1
  obtain ⟨g, cap, cur, rfl, hB, hg, k3, k4, hcs, k6⟩ := own_at12 h (by omega)
  have k4' : cap ≤ 9223372036854775807 := by unfold maxLen at k4; omega
  have k5 : ∀ t, t < cap * 4 → (w.cell? ⟨g, t, none⟩).isSome = true ∧ w.frozen? ⟨g, t, none⟩ = false := fun t ht => ⟨by rw [cell_of_row w g t cur _ (0, 0) hg, Array.getElem?_eq_getElem (by omega)]; rfl, frozen_of_row w g t cur _ hg⟩
  obtain ⟨news, hnews⟩ : ∃ news, news = tc.drop (j * 4) := ⟨_, rfl⟩
  have hnl : news.length = (n - j) * 4 := by rw [hnews, List.length_drop, hlen, Nat.sub_mul]
  obtain ⟨A, hA, hsrc⟩ : ∃ A : Addr, (if cap = j then some (⟨g, 0, none⟩ : Addr) else some ⟨g, j * 4, none⟩) = some A ∧ Hid (∀ t u, news[t]? = some u → w.drew.cell? (A.add t) = some u) := by
    by_cases hc : cap = j
    · refine ⟨⟨g, 0, none⟩, by simp [hc], hide fun t u hu => ?_⟩
      have h0 : news.length = 0 := by rw [hnl]; omega
      rw [List.length_eq_zero_iff.1 h0] at hu
      simp at hu
    · refine ⟨⟨g, j * 4, none⟩, by simp [hc], hide fun t u hu => ?_⟩
      rw [hnews, List.getElem?_drop] at hu
      rw [Addr.add_lit]
      exact k6 _ u hu
  have s1 : Hid (news.length = (n - j) * 4) := hide hnl
  have s2 : Hid (∀ u ∈ news, u.oneCell' = true) := hide fun u hu => h1 u (by rw [hnews] at hu; exact List.mem_of_mem_drop hu)
  have s3 : Hid (∀ t, t < news.length → (w.drew.cell? ⟨g, i * 4 + t, none⟩).isSome = true ∧ w.drew.frozen? ⟨g, i * 4 + t, none⟩ = false) := hide fun t ht => by
    rw [hnl] at ht
    exact k5 _ (by omega)
  obtain ⟨W1, hW1⟩ : ∃ W1, W1 = w.drew.setCells g (i * 4) news := ⟨_, rfl⟩
  obtain ⟨cur1, hg1, hs1, gr1⟩ := setRow_heap12 g _ news (i * 4) w.drew cur hg
  rw [← hW1] at hg1 gr1
  have htl : (tc.take (i * 4)).length = i * 4 := by rw [List.length_take, hlen]; omega
  have c1 : ∀ t u, (tc.take (i * 4) ++ tc.drop (j * 4))[t]? = some u → W1.cell? ⟨g, t, none⟩ = some u := fun t u ht => by
    rw [hW1]
    rcases Nat.lt_or_ge t (i * 4) with q | q
    · rw [List.getElem?_append_left (by omega), List.getElem?_take_of_lt q] at ht
      rw [World.cell?_setCells_out _ _ _ _ _ (fun _ _ => .inl (by simp only; omega))]
      exact k6 t u ht
    · rw [List.getElem?_append_right (by omega), htl, ← hnews] at ht
      obtain ⟨q2, q3⟩ := List.getElem?_eq_some_iff.1 ht
      have e1 := World.cell?_setCells_in g news (i * 4) w.drew (fun t ht => (unhide s3 t ht).1) (t - i * 4) q2
      have e2 : t = i * 4 + (t - i * 4) := by omega
      rw [e2, e1, q3]
  have hal : (tc.take (i * 4) ++ tc.drop (j * 4)).length = (n - 1) * 4 := by rw [List.length_append, htl, List.length_drop, hlen]; omega
  have hm : i + (n - j) = n - 1 := by omega
  obtain ⟨zs, hzl, hcl⟩ : ∃ zs : List Value, zs.length = 4 ∧ ∀ ty c, (Builtin.clear_ #[25] ty #[.slice (some ⟨g, (i + (n - j)) * 4, none⟩) (n - (i + (n - j))) c]).run Tryz.prog W1 = .ok (.tuple #[]) (W1.setCells g ((i + (n - j)) * 4) zs) := by
    have e1 : n - (i + (n - j)) = 1 := by omega
    have hs : ∀ t, t < 4 → (W1.cell? ⟨g, (i + (n - j)) * 4 + t, none⟩).isSome = true ∧ W1.frozen? ⟨g, (i + (n - j)) * 4 + t, none⟩ = false := by
      intro t ht
      exact ⟨by rw [cell_of_row W1 g _ cur1 _ (0, 0) hg1, Array.getElem?_eq_getElem (by rw [hs1]; omega)]; rfl, frozen_of_row W1 g _ cur1 _ hg1⟩
    refine ⟨(Builtin.zeroCells (Value.agg #[.int .i64 0, .int .i64 0, .int .i64 0, .int .i64 0]).cells 1).toList, by rw [Array.length_toList, size_zeroCells]; rfl, fun ty c => ?_⟩
    · rw [e1]
      exact run_clear12 W1 _ _ ty _ Tryz.underlying25 zero_Seat (by decide) (by decide) g _ 1 c (by omega) (fun t ht => (hs t ht).1) (fun t ht => (hs t ht).2)
  obtain ⟨cur2, hg2, hs2, gr2⟩ := setRow_heap12 g _ zs ((i + (n - j)) * 4) W1 cur1 hg1
  have q2 : Hid ((W1.setCells g ((i + (n - j)) * 4) zs).ownsRow B 49 4 (.slice (some ⟨g, 0, none⟩) (n - 1) cap) (n - 1) (tc.take (i * 4) ++ tc.drop (j * 4))) := hide (by
    refine own_of12 hg2 hB (by omega) k4 (by rw [hs2, hs1, hcs]) hal fun t ht => ?_
    obtain ⟨u, hu⟩ : ∃ u, (tc.take (i * 4) ++ tc.drop (j * 4))[t]? = some u := ⟨_, List.getElem?_eq_getElem (by omega)⟩
    rw [World.cell?_setCells_out _ _ _ _ _ (fun _ _ => .inl (by simp only; omega)), hu]
    exact c1 t u hu)
  have g2 : Hid (w.grownBy (W1.setCells g ((i + (n - j)) * 4) zs) (some g)) := hide (gr_trans (gr_trans (gr_drew w _) gr1) gr2)
  have hW : Hid (W1 = w.drew.setCells g (i * 4) news) := hide hW1
  have HV : Hid ((Value.slice (some ⟨g, 0, none⟩) (i + (n - j)) cap) = .slice (some ⟨g, 0, none⟩) (n - 1) cap) := hide (by rw [hm])
  have hic : i ≤ cap := by omega
  have hjc : j ≤ cap := by omega
  have hic' : (i : Int) ≤ (n : Int) := by omega
  have hij : i ≤ j := by omega
  have hjn : j ≤ n := by omega
  have hne : ((i : Int) == (j : Int)) = false := by simp; omega
  have hne2 : ¬ i = j := by omega
  clear hj hW1 hnews hlen k5 k6 gr1 gr2 hnl h h1 hzl hm htl hal c1 hg1 hg2 hs1 hs2 hg hcs k4 hB
  go_enter Tryz.func37, Tryz.ntmps37
  go_wp2_with fail
  go_region_law (refine step_append_room rfl (.tmp 22) (.tmp 25) 25 rfl 49 i0 4 Tryz.underlying25 hi0 hz1 g 0 i cap (by simp [Act.eval, Act.put]) A (n - j) (cap - j) news (by simp [Act.eval, Act.put]) (unhide s1) (unhide hsrc) (unhide s2) (by omega) (by rw [Nat.zero_add]; exact unhide s3) ?_; rw [Nat.zero_add, ← unhide hW])
  go_wp2
  go_ret
  refine ⟨_, rfl, ?_, unhide g2, rfl⟩
  rw [unhide HV]
  exact unhide q2
end Go.Proofs.YtnegjbkbfgkkjaaGreatDoor

/- Walks: slices.Delete of one api.Version, in place. (Written by gen_del.py.) -/
namespace Go.Proofs.YtnegjbkbfgkkjaaGreatDoor
open Go.RowKit Go.MapKept

theorem info_Version : (Tryz.prog.info? 56).map (fun i => (i.zero, i.size, i.bytes)) = some (some (.agg #[.int .i64 0, .string ⟨#[]⟩, .int .i64 0, .slice none 0 0, .slice none 0 0, .slice none 0 0]), 6, 104) := by kernel_rfl
theorem zero_Version (w : World) : (zeroValue 56).run Tryz.prog w = .ok (.agg #[.int .i64 0, .string ⟨#[]⟩, .int .i64 0, .slice none 0 0, .slice none 0 0, .slice none 0 0]) w := by
  obtain ⟨i0, I0, I1, I2, I3⟩ := info_parts info_Version
  simp [zeroValue, typeInfo, I0, I1]

set_option maxHeartbeats 4000000 in
set_option maxRecDepth 100000 in
theorem delete_Version (B n i : Nat) (v : Value) (tc : List Value) (w : World) (h : w.ownsRow B 56 6 v n tc) (h1 : ∀ u ∈ tc, u.oneCell' = true) (hi : i < n) (hn : n ≤ 1000) (j : Nat) (hj : j = i + 1) :
    Calls Tryz.prog 89 #[v, .int .i64 (i : Int), .int .i64 (j : Int)] w fun e w' => ∃ v', e = .returned v' ∧ w'.ownsRow B 56 6 v' (n - 1) (tc.take (i * 6) ++ tc.drop (j * 6)) ∧ w.grownBy w' v.ownBlock ∧ v'.ownBlock = v.ownBlock := by
  obtain ⟨i0, hi0, hz0, hz1, hz2⟩ := info_parts info_Version
  have hlen : tc.length = n * 6 := h.1
  obtain ⟨g, cap, cur, rfl, hB, hg, k3, k4, hcs, k6⟩ := own_at12 h (by omega)
  have k4' : cap ≤ 9223372036854775807 := by unfold maxLen at k4; omega
  have k5 : ∀ t, t < cap * 6 → (w.cell? ⟨g, t, none⟩).isSome = true ∧ w.frozen? ⟨g, t, none⟩ = false := fun t ht => ⟨by rw [cell_of_row w g t cur _ (0, 0) hg, Array.getElem?_eq_getElem (by omega)]; rfl, frozen_of_row w g t cur _ hg⟩
  obtain ⟨news, hnews⟩ : ∃ news, news = tc.drop (j * 6) := ⟨_, rfl⟩
  have hnl : news.length = (n - j) * 6 := by rw [hnews, List.length_drop, hlen, Nat.sub_mul]
  obtain ⟨A, hA, hsrc⟩ : ∃ A : Addr, (if cap = j then some (⟨g, 0, none⟩ : Addr) else some ⟨g, j * 6, none⟩) = some A ∧ Hid (∀ t u, news[t]? = some u → w.drew.cell? (A.add t) = some u) := by
    by_cases hc : cap = j
    · refine ⟨⟨g, 0, none⟩, by simp [hc], hide fun t u hu => ?_⟩
      have h0 : news.length = 0 := by rw [hnl]; omega
      rw [List.length_eq_zero_iff.1 h0] at hu
      simp at hu
    · refine ⟨⟨g, j * 6, none⟩, by simp [hc], hide fun t u hu => ?_⟩
      rw [hnews, List.getElem?_drop] at hu
      rw [Addr.add_lit]
      exact k6 _ u hu
  have s1 : Hid (news.length = (n - j) * 6) := hide hnl
  have s2 : Hid (∀ u ∈ news, u.oneCell' = true) := hide fun u hu => h1 u (by rw [hnews] at hu; exact List.mem_of_mem_drop hu)
  have s3 : Hid (∀ t, t < news.length → (w.drew.cell? ⟨g, i * 6 + t, none⟩).isSome = true ∧ w.drew.frozen? ⟨g, i * 6 + t, none⟩ = false) := hide fun t ht => by
    rw [hnl] at ht
    exact k5 _ (by omega)
  obtain ⟨W1, hW1⟩ : ∃ W1, W1 = w.drew.setCells g (i * 6) news := ⟨_, rfl⟩
  obtain ⟨cur1, hg1, hs1, gr1⟩ := setRow_heap12 g _ news (i * 6) w.drew cur hg
  rw [← hW1] at hg1 gr1
  have htl : (tc.take (i * 6)).length = i * 6 := by rw [List.length_take, hlen]; omega
  have c1 : ∀ t u, (tc.take (i * 6) ++ tc.drop (j * 6))[t]? = some u → W1.cell? ⟨g, t, none⟩ = some u := fun t u ht => by
    rw [hW1]
    rcases Nat.lt_or_ge t (i * 6) with q | q
    · rw [List.getElem?_append_left (by omega), List.getElem?_take_of_lt q] at ht
      rw [World.cell?_setCells_out _ _ _ _ _ (fun _ _ => .inl (by simp only; omega))]
      exact k6 t u ht
    · rw [List.getElem?_append_right (by omega), htl, ← hnews] at ht
      obtain ⟨q2, q3⟩ := List.getElem?_eq_some_iff.1 ht
      have e1 := World.cell?_setCells_in g news (i * 6) w.drew (fun t ht => (unhide s3 t ht).1) (t - i * 6) q2
      have e2 : t = i * 6 + (t - i * 6) := by omega
      rw [e2, e1, q3]
  have hal : (tc.take (i * 6) ++ tc.drop (j * 6)).length = (n - 1) * 6 := by rw [List.length_append, htl, List.length_drop, hlen]; omega
  have hm : i + (n - j) = n - 1 := by omega
  obtain ⟨zs, hzl, hcl⟩ : ∃ zs : List Value, zs.length = 6 ∧ ∀ ty c, (Builtin.clear_ #[52] ty #[.slice (some ⟨g, (i + (n - j)) * 6, none⟩) (n - (i + (n - j))) c]).run Tryz.prog W1 = .ok (.tuple #[]) (W1.setCells g ((i + (n - j)) * 6) zs) := by
    have e1 : n - (i + (n - j)) = 1 := by omega
    have hs : ∀ t, t < 6 → (W1.cell? ⟨g, (i + (n - j)) * 6 + t, none⟩).isSome = true ∧ W1.frozen? ⟨g, (i + (n - j)) * 6 + t, none⟩ = false := by
      intro t ht
      exact ⟨by rw [cell_of_row W1 g _ cur1 _ (0, 0) hg1, Array.getElem?_eq_getElem (by rw [hs1]; omega)]; rfl, frozen_of_row W1 g _ cur1 _ hg1⟩
    refine ⟨(Builtin.zeroCells (Value.agg #[.int .i64 0, .string ⟨#[]⟩, .int .i64 0, .slice none 0 0, .slice none 0 0, .slice none 0 0]).cells 1).toList, by rw [Array.length_toList, size_zeroCells]; rfl, fun ty c => ?_⟩
    · rw [e1]
      exact run_clear12 W1 _ _ ty _ Tryz.underlying52 zero_Version (by decide) (by decide) g _ 1 c (by omega) (fun t ht => (hs t ht).1) (fun t ht => (hs t ht).2)
  obtain ⟨cur2, hg2, hs2, gr2⟩ := setRow_heap12 g _ zs ((i + (n - j)) * 6) W1 cur1 hg1
  have q2 : Hid ((W1.setCells g ((i + (n - j)) * 6) zs).ownsRow B 56 6 (.slice (some ⟨g, 0, none⟩) (n - 1) cap) (n - 1) (tc.take (i * 6) ++ tc.drop (j * 6))) := hide (by
    refine own_of12 hg2 hB (by omega) k4 (by rw [hs2, hs1, hcs]) hal fun t ht => ?_
    obtain ⟨u, hu⟩ : ∃ u, (tc.take (i * 6) ++ tc.drop (j * 6))[t]? = some u := ⟨_, List.getElem?_eq_getElem (by omega)⟩
    rw [World.cell?_setCells_out _ _ _ _ _ (fun _ _ => .inl (by simp only; omega)), hu]
    exact c1 t u hu)
  have g2 : Hid (w.grownBy (W1.setCells g ((i + (n - j)) * 6) zs) (some g)) := hide (gr_trans (gr_trans (gr_drew w _) gr1) gr2)
  have hW : Hid (W1 = w.drew.setCells g (i * 6) news) := hide hW1
  have HV : Hid ((Value.slice (some ⟨g, 0, none⟩) (i + (n - j)) cap) = .slice (some ⟨g, 0, none⟩) (n - 1) cap) := hide (by rw [hm])
  have hic : i ≤ cap := by omega
  have hjc : j ≤ cap := by omega
  have hic' : (i : Int) ≤ (n : Int) := by omega
  have hij : i ≤ j := by omega
  have hjn : j ≤ n := by omega
  have hne : ((i : Int) == (j : Int)) = false := by simp; omega
  have hne2 : ¬ i = j := by omega
  clear hj hW1 hnews hlen k5 k6 gr1 gr2 hnl h h1 hzl hm htl hal c1 hg1 hg2 hs1 hs2 hg hcs k4 hB
  go_enter Tryz.func89, Tryz.ntmps89
  go_wp2_with fail
  go_region_law (refine step_append_room rfl (.tmp 22) (.tmp 25) 52 rfl 56 i0 6 Tryz.underlying52 hi0 hz1 g 0 i cap (by simp [Act.eval, Act.put]) A (n - j) (cap - j) news (by simp [Act.eval, Act.put]) (unhide s1) (unhide hsrc) (unhide s2) (by omega) (by rw [Nat.zero_add]; exact unhide s3) ?_; rw [Nat.zero_add, ← unhide hW])
  go_wp2
  go_ret
  refine ⟨_, rfl, ?_, unhide g2, rfl⟩
  rw [unhide HV]
  exact unhide q2
end Go.Proofs.YtnegjbkbfgkkjaaGreatDoor

/- Walks: one api.Seat more at the end; the first one goes, if there are too many. (Written by gen_push.py.) -/
namespace Go.Proofs.YtnegjbkbfgkkjaaGreatDoor
open Go.RowKit Go.MapKept

set_option maxHeartbeats 4000000 in
set_option maxRecDepth 100000 in
theorem push_Seat (ss sq se sv : Int) (B n most : Nat) (v0 : Value) (xs : List Value) (w : World) (h : w.ownsRow B 49 4 v0 n xs) (h1 : ∀ u ∈ xs, u.oneCell' = true) (hn : n ≤ 100) (hB : B ≤ w.heap.size) :
    Calls Tryz.prog 38 #[v0, .agg #[.int .i64 ss, .int .i64 sq, .int .i64 se, .int .i64 sv], .int .i64 (most : Int)] w fun e w' => ∃ v', e = .returned v' ∧ w'.ownsRow B 49 4 v' (if most < n + 1 then n else n + 1) (if most < n + 1 then (xs ++ ([.int .i64 ss, .int .i64 sq, .int .i64 se, .int .i64 sv] : List Value)).drop 4 else xs ++ ([.int .i64 ss, .int .i64 sq, .int .i64 se, .int .i64 sv] : List Value)) ∧ w.grownBy w' v0.ownBlock ∧ (v'.ownBlock = v0.ownBlock ∨ ∃ b, v'.ownBlock = some b ∧ w.heap.size ≤ b) := by
  obtain ⟨w1, hw1⟩ : ∃ w1, w1 = w.alloc (.cells #[.int .i64 ss, .int .i64 sq, .int .i64 se, .int .i64 sv] 49) := ⟨_, rfl⟩
  have b1 : Below w.heap.size w w1 := by rw [hw1]; exact vbelow_new _ _
  have X1 : ∀ j u, (#[.int .i64 ss, .int .i64 sq, .int .i64 se, .int .i64 sv] : Array Value)[j]? = some u → w1.cell? ⟨w.heap.size, j, none⟩ = some u := by rw [hw1]; intro j u hj; simp [go_sem, hj]
  have O1 := own_keepT h b1
  have HO1 := hide O1
  have HB1 := hide b1
  have H1 := hide h1
  have hz1 : B ≤ w1.heap.size := Nat.le_trans hB b1.size
  have one : Hid (∀ u ∈ ([.int .i64 ss, .int .i64 sq, .int .i64 se, .int .i64 sv] : List Value), u.oneCell' = true) := hide (by intro x hx; simp at hx; rcases hx with rfl | rfl | rfl | rfl <;> rfl)
  obtain ⟨i0, hi0, hz0, hz2, hzb⟩ := info_parts info_Seat
  have HI := hide (And.intro hi0 (And.intro hz0 (And.intro hz2 hzb)))
  have x0 := X1 0 _ rfl
  have x1 := X1 1 _ rfl
  have x2 := X1 2 _ rfl
  have x3 := X1 3 _ rfl
  clear hi0 hz0 hz2 hzb h h1 b1 O1 X1
  subst hw1
  go_enter Tryz.func38, Tryz.ntmps38
  go_wp2_with (at_builtin; refine wpList_append_own_at _ rfl _ _ 25 rfl B 49 i0 (.agg #[.int .i64 0, .int .i64 0, .int .i64 0, .int .i64 0]) 4 32 Tryz.underlying25 (unhide HI).1 (unhide HI).2.1 (unhide HI).2.2.1 (unhide HI).2.2.2 rfl (by decide) _ n xs rfl ((unhide HO1).alloc _) ⟨w.heap.size + 1, 0, none⟩ 1 1 [.int .i64 ss, .int .i64 sq, .int .i64 se, .int .i64 sv] rfl rfl (by have := cells_new (w.alloc (.cells #[.int .i64 ss, .int .i64 sq, .int .i64 se, .int .i64 sv] 49)) 49 [.int .i64 ss, .int .i64 sq, .int .i64 se, .int .i64 sv]; simpa using this) (unhide one) (by unfold maxLen; omega) (by omega) (by have := hz1; simp at this ⊢; omega) ?_)
  intro v1 w2 hown hgrow hnil hat
  have HG2 : Hid (w.grownBy w2 v0.ownBlock) := hide (gr_trans (gr_trans (gr_below (unhide HB1) _) (gr_below (vbelow_new _ _) _)) hgrow)
  have HA2 : Hid (v1.ownBlock = v0.ownBlock ∨ ∃ b, v1.ownBlock = some b ∧ w.heap.size ≤ b) := hide (by
    rcases hat with q | q
    · exact .inl q
    · refine .inr ⟨_, q, ?_⟩
      first | omega | (simp; done) | (simp; omega))
  have HO2 := hide hown
  obtain ⟨g, cap, cur, hv1, _⟩ := own_at12 hown (by omega)
  subst hv1
  have HD := hide (delete_Seat B (n + 1) 0 _ (xs ++ [.int .i64 ss, .int .i64 sq, .int .i64 se, .int .i64 sv]) w2 hown (fun u hu => (List.mem_append.1 hu).elim (unhide H1 u) (unhide one u)) (by omega) (by omega) 1 rfl)
  clear hown hgrow hnil hat HO1 HB1 H1 one HI x0 x1 x2 x3
  by_cases hm : most < n + 1
  · have g1 : (most : Int) < ((n + 1 : Nat) : Int) := by omega
    have g1' : (most : Int) < (n : Int) + 1 := by omega
    go_wp2_with fail
    refine (unhide HD).mono ?_
    rintro e w3 ⟨v2, rfl, o3, g3, a3⟩
    have O3 := hide o3
    have G3 := hide g3
    have A3 := hide a3
    clear o3 g3 a3 HD
    go_wp2
    go_ret
    refine ⟨_, rfl, ?_, ?_, ?_⟩
    · have := unhide O3
      simpa [hm] using this
    · rcases unhide HA2 with q | ⟨b, q, hb⟩
      · have := unhide G3
        rw [q] at this
        exact gr_trans (unhide HG2) this
      · refine gr_new (unhide HG2) (unhide G3) ?_
        intro c hc
        rw [q] at hc
        cases hc
        exact hb
    · rcases unhide HA2 with q | ⟨b, q, hb⟩
      · exact .inl ((unhide A3).trans q)
      · exact .inr ⟨b, (unhide A3).trans q, hb⟩
  · have g1 : ¬ (most : Int) < ((n + 1 : Nat) : Int) := by omega
    have g1' : ¬ (most : Int) < (n : Int) + 1 := by omega
    go_wp2
    go_ret
    refine ⟨_, rfl, ?_, unhide HG2, unhide HA2⟩
    have := unhide HO2
    simpa [hm] using this
end Go.Proofs.YtnegjbkbfgkkjaaGreatDoor

/- Walks: one api.Version more at the end; the first one goes, if there are too many. (Written by gen_push.py.) -/
namespace Go.Proofs.YtnegjbkbfgkkjaaGreatDoor
open Go.RowKit Go.MapKept

set_option maxHeartbeats 4000000 in
set_option maxRecDepth 100000 in
theorem push_Version (m : Int) (s : ByteArray) (p : Int) (ia : Option Addr) (im ic : Nat) (oa : Option Addr) (om oc : Nat) (ra : Option Addr) (rm rc : Nat) (B n most : Nat) (v0 : Value) (xs : List Value) (w : World) (h : w.ownsRow B 56 6 v0 n xs) (h1 : ∀ u ∈ xs, u.oneCell' = true) (hn : n ≤ 100) (hB : B ≤ w.heap.size) :
    Calls Tryz.prog 70 #[v0, .agg #[.int .i64 m, .string s, .int .i64 p, .slice ia im ic, .slice oa om oc, .slice ra rm rc], .int .i64 (most : Int)] w fun e w' => ∃ v', e = .returned v' ∧ w'.ownsRow B 56 6 v' (if most < n + 1 then n else n + 1) (if most < n + 1 then (xs ++ ([.int .i64 m, .string s, .int .i64 p, .slice ia im ic, .slice oa om oc, .slice ra rm rc] : List Value)).drop 6 else xs ++ ([.int .i64 m, .string s, .int .i64 p, .slice ia im ic, .slice oa om oc, .slice ra rm rc] : List Value)) ∧ w.grownBy w' v0.ownBlock ∧ (v'.ownBlock = v0.ownBlock ∨ ∃ b, v'.ownBlock = some b ∧ w.heap.size ≤ b) := by
  obtain ⟨w1, hw1⟩ : ∃ w1, w1 = w.alloc (.cells #[.int .i64 m, .string s, .int .i64 p, .slice ia im ic, .slice oa om oc, .slice ra rm rc] 56) := ⟨_, rfl⟩
  have b1 : Below w.heap.size w w1 := by rw [hw1]; exact vbelow_new _ _
  have X1 : ∀ j u, (#[.int .i64 m, .string s, .int .i64 p, .slice ia im ic, .slice oa om oc, .slice ra rm rc] : Array Value)[j]? = some u → w1.cell? ⟨w.heap.size, j, none⟩ = some u := by rw [hw1]; intro j u hj; simp [go_sem, hj]
  have O1 := own_keepT h b1
  have HO1 := hide O1
  have HB1 := hide b1
  have H1 := hide h1
  have hz1 : B ≤ w1.heap.size := Nat.le_trans hB b1.size
  have one : Hid (∀ u ∈ ([.int .i64 m, .string s, .int .i64 p, .slice ia im ic, .slice oa om oc, .slice ra rm rc] : List Value), u.oneCell' = true) := hide (by intro x hx; simp at hx; rcases hx with rfl | rfl | rfl | rfl | rfl | rfl <;> rfl)
  obtain ⟨i0, hi0, hz0, hz2, hzb⟩ := info_parts info_Version
  have HI := hide (And.intro hi0 (And.intro hz0 (And.intro hz2 hzb)))
  have x0 := X1 0 _ rfl
  have x1 := X1 1 _ rfl
  have x2 := X1 2 _ rfl
  have x3 := X1 3 _ rfl
  have x4 := X1 4 _ rfl
  have x5 := X1 5 _ rfl
  clear hi0 hz0 hz2 hzb h h1 b1 O1 X1
  subst hw1
  go_enter Tryz.func70, Tryz.ntmps70
  go_wp2_with (at_builtin; refine wpList_append_own_at _ rfl _ _ 52 rfl B 56 i0 (.agg #[.int .i64 0, .string ⟨#[]⟩, .int .i64 0, .slice none 0 0, .slice none 0 0, .slice none 0 0]) 6 104 Tryz.underlying52 (unhide HI).1 (unhide HI).2.1 (unhide HI).2.2.1 (unhide HI).2.2.2 rfl (by decide) _ n xs rfl ((unhide HO1).alloc _) ⟨w.heap.size + 1, 0, none⟩ 1 1 [.int .i64 m, .string s, .int .i64 p, .slice ia im ic, .slice oa om oc, .slice ra rm rc] rfl rfl (by have := cells_new (w.alloc (.cells #[.int .i64 m, .string s, .int .i64 p, .slice ia im ic, .slice oa om oc, .slice ra rm rc] 56)) 56 [.int .i64 m, .string s, .int .i64 p, .slice ia im ic, .slice oa om oc, .slice ra rm rc]; simpa using this) (unhide one) (by unfold maxLen; omega) (by omega) (by have := hz1; simp at this ⊢; omega) ?_)
  intro v1 w2 hown hgrow hnil hat
  have HG2 : Hid (w.grownBy w2 v0.ownBlock) := hide (gr_trans (gr_trans (gr_below (unhide HB1) _) (gr_below (vbelow_new _ _) _)) hgrow)
  have HA2 : Hid (v1.ownBlock = v0.ownBlock ∨ ∃ b, v1.ownBlock = some b ∧ w.heap.size ≤ b) := hide (by
    rcases hat with q | q
    · exact .inl q
    · refine .inr ⟨_, q, ?_⟩
      first | omega | (simp; done) | (simp; omega))
  have HO2 := hide hown
  obtain ⟨g, cap, cur, hv1, _⟩ := own_at12 hown (by omega)
  subst hv1
  have HD := hide (delete_Version B (n + 1) 0 _ (xs ++ [.int .i64 m, .string s, .int .i64 p, .slice ia im ic, .slice oa om oc, .slice ra rm rc]) w2 hown (fun u hu => (List.mem_append.1 hu).elim (unhide H1 u) (unhide one u)) (by omega) (by omega) 1 rfl)
  clear hown hgrow hnil hat HO1 HB1 H1 one HI x0 x1 x2 x3 x4 x5
  by_cases hm : most < n + 1
  · have g1 : (most : Int) < ((n + 1 : Nat) : Int) := by omega
    have g1' : (most : Int) < (n : Int) + 1 := by omega
    go_wp2_with fail
    refine (unhide HD).mono ?_
    rintro e w3 ⟨v2, rfl, o3, g3, a3⟩
    have O3 := hide o3
    have G3 := hide g3
    have A3 := hide a3
    clear o3 g3 a3 HD
    go_wp2
    go_ret
    refine ⟨_, rfl, ?_, ?_, ?_⟩
    · have := unhide O3
      simpa [hm] using this
    · rcases unhide HA2 with q | ⟨b, q, hb⟩
      · have := unhide G3
        rw [q] at this
        exact gr_trans (unhide HG2) this
      · refine gr_new (unhide HG2) (unhide G3) ?_
        intro c hc
        rw [q] at hc
        cases hc
        exact hb
    · rcases unhide HA2 with q | ⟨b, q, hb⟩
      · exact .inl ((unhide A3).trans q)
      · exact .inr ⟨b, (unhide A3).trans q, hb⟩
  · have g1 : ¬ (most : Int) < ((n + 1 : Nat) : Int) := by omega
    have g1' : ¬ (most : Int) < (n : Int) + 1 := by omega
    go_wp2
    go_ret
    refine ⟨_, rfl, ?_, unhide HG2, unhide HA2⟩
    have := unhide HO2
    simpa [hm] using this
end Go.Proofs.YtnegjbkbfgkkjaaGreatDoor

/- Walks: where the first api.Seat with that number is. (Written by gen_ix.py.) -/
namespace Go.Proofs.YtnegjbkbfgkkjaaGreatDoor
open Go.RowKit Go.MapKept

set_option maxRecDepth 100000 in
set_option maxHeartbeats 4000000 in
theorem seatAt1_any (x0 x1 x2 x3 : Int) (q : Int) (cb : Nat) (w : World) (hc : w.cell? ⟨cb, 0, none⟩ = some (.int .i64 q)) :
    Calls Tryz.prog 54 #[.agg #[.int .i64 x0, .int .i64 x1, .int .i64 x2, .int .i64 x3], .pointer (some ⟨cb, 0, none⟩)] w fun e w' => e = .returned (.bool (x0 == q)) ∧ Below w.heap.size w w' := by
  have hc' : (w.alloc (.cells #[.int .i64 x0, .int .i64 x1, .int .i64 x2, .int .i64 x3] 49)).cell? ⟨cb, 0, none⟩ = some (.int .i64 q) := by
    rw [← hc]
    exact (vbelow_new w _).cell (p := ⟨cb, 0, none⟩) (World.block_lt_of_cell? w _ hc)
  go_enter Tryz.func54, Tryz.ntmps54
  go_wp2
  go_ret
  exact ⟨rfl, vbelow_new _ _⟩

set_option maxRecDepth 100000 in
set_option maxHeartbeats 4000000 in
theorem indexSeat_any (l : List (Rp.Seat)) (v : Value) (q : Int) (cb : Nat) (w : World) (hc : w.cell? ⟨cb, 0, none⟩ = some (.int .i64 q)) (hl : Ls w.heap.size w 4 SeM l v) :
    Calls Tryz.prog 53 #[v, .func (.func 54) #[] #[.pointer (some ⟨cb, 0, none⟩)]] w fun e w' => e = .returned (.int .i64 (ixN (fun x : Rp.Seat => x.session == q) l 0)) ∧ Below w.heap.size w w' := by
  have hcl := World.block_lt_of_cell? w _ hc
  have HF := hide (fun x0 x1 x2 x3 wx (hb : Below w.heap.size w wx) => seatAt1_any x0 x1 x2 x3 q cb wx ((hb.cell (p := ⟨cb, 0, none⟩) hcl).trans hc))
  obtain ⟨hlen, a, cap, rfl, _, hk⟩ := id hl
  obtain ⟨R, hR⟩ : ∃ R, R = ixN (fun x : Rp.Seat => x.session == q) l 0 := ⟨_, rfl⟩
  rw [← hR]
  have HR : Hid (R = ixN (fun x : Rp.Seat => x.session == q) (l.drop 0) 0) := hide hR
  clear hc hcl hk hR
  go_enter Tryz.func53, Tryz.ntmps53
  go_wp2
  go_loopw [8] (fun i wr => ∃ m : Nat, m ≤ l.length ∧ i = .int .i64 (m : Int) ∧ Hid (R = ixN (fun x : Rp.Seat => x.session == q) (l.drop m) m) ∧ Hid (Below w.heap.size w wr)) (fun i _ => l.length - (intOf i).toNat)
  case atStart => exact ⟨0, Nat.zero_le _, rfl, HR, hide (Below.refl _ _)⟩
  case round =>
    obtain ⟨m, hml, rfl, H, HB⟩ := hrel
    clear HR
    by_cases hlt : m < l.length
    · have hi1 : (m : Int) < (l.length : Int) := by omega
      obtain ⟨x, hx⟩ : ∃ x, l[m]? = some x := ⟨_, List.getElem?_eq_getElem hlt⟩
      obtain ⟨b, off, cap', ev⟩ := hl.begins (by intro e; subst e; simp at hlt)
      cases ev
      have E := (unhide H).trans (ixN_at hx)
      have hl2 := hl.below ((unhide HB)) fun x cs h => h
      have hq := hl2.seat hx
      have c0 := hq 0 _ rfl
      have c1 := hq 1 _ rfl
      have c2 := hq 2 _ rfl
      have c3 := hq 3 _ rfl
      rw [Nat.add_zero] at c0
      have C := hide (unhide HF x.session x.seq x.reply.err x.reply.version wr (unhide HB))
      generalize (x.session == q) = P at C E
      have HE := hide E
      clear hx hl2 hq E H
      go_wp2_with fail
      refine (unhide C).mono ?_
      rintro e w2 ⟨rfl, hb2⟩
      have HB2 := hide (below_via (unhide HB) hb2)
      clear hb2 C
      cases P with
      | true =>
        have HE2 := hide ((unhide HE).trans (if_pos rfl))
        go_wp2
        go_ret
        rw [unhide HE2]
        exact ⟨rfl, unhide HB2⟩
      | false =>
        have HE2 := hide ((unhide HE).trans (if_neg (by decide)))
        go_wp2
        go_round
        · exact ⟨m + 1, hlt, rfl, HE2, HB2⟩
        · simp only [intOf]; omega
    · have hi1 : ¬ (m : Int) < (l.length : Int) := by omega
      have HE : Hid (R = -1) := hide ((unhide H).trans (by rw [List.drop_eq_nil_of_le (by omega)]; rfl))
      go_wp2
      go_ret
      rw [unhide HE]
      exact ⟨rfl, unhide HB⟩

set_option maxRecDepth 100000 in
set_option maxHeartbeats 4000000 in
theorem seatAt_any (l : List (Rp.Seat)) (v : Value) (q : Int) (w : World) (hl : Ls w.heap.size w 4 SeM l v) :
    Calls Tryz.prog 33 #[v, .int .i64 q] w fun e w' => e = .returned (.int .i64 (ixN (fun x : Rp.Seat => x.session == q) l 0)) ∧ Below w.heap.size w w' := by
  have b1 := vbelow_new w (.cells #[.int .i64 q] 3)
  have IX := hide (indexSeat_any l v q w.heap.size (w.alloc (.cells #[.int .i64 q] 3)) (by simp) ((hl.below b1 fun x cs h => h).mono b1.size fun x cs h => h))
  have HB1 := hide b1
  generalize ixN (fun x : Rp.Seat => x.session == q) l 0 = R at IX ⊢
  obtain ⟨a, cap, rfl, _⟩ := hl.tell
  clear b1 hl
  go_enter Tryz.func33, Tryz.ntmps33
  go_wp2_with fail
  refine (unhide IX).mono ?_
  rintro e w2 ⟨rfl, hb2⟩
  have HB2 := hide (below_via (unhide HB1) hb2)
  clear hb2 IX HB1
  go_wp2
  go_ret
  exact ⟨rfl, unhide HB2⟩
end Go.Proofs.YtnegjbkbfgkkjaaGreatDoor

/- Walks: where the first api.Version with that number is. (Written by gen_ix.py.) -/
namespace Go.Proofs.YtnegjbkbfgkkjaaGreatDoor
open Go.RowKit Go.MapKept

set_option maxRecDepth 100000 in
set_option maxHeartbeats 4000000 in
theorem versionAt1_any (x0 : Int) (x1 : ByteArray) (x2 : Int) (x3 : Option Addr) (x4 x5 : Nat) (x6 : Option Addr) (x7 x8 : Nat) (x9 : Option Addr) (x10 x11 : Nat) (q : Int) (cb : Nat) (w : World) (hc : w.cell? ⟨cb, 0, none⟩ = some (.int .i64 q)) :
    Calls Tryz.prog 43 #[.agg #[.int .i64 x0, .string x1, .int .i64 x2, .slice x3 x4 x5, .slice x6 x7 x8, .slice x9 x10 x11], .pointer (some ⟨cb, 0, none⟩)] w fun e w' => e = .returned (.bool (x0 == q)) ∧ Below w.heap.size w w' := by
  have hc' : (w.alloc (.cells #[.int .i64 x0, .string x1, .int .i64 x2, .slice x3 x4 x5, .slice x6 x7 x8, .slice x9 x10 x11] 56)).cell? ⟨cb, 0, none⟩ = some (.int .i64 q) := by
    rw [← hc]
    exact (vbelow_new w _).cell (p := ⟨cb, 0, none⟩) (World.block_lt_of_cell? w _ hc)
  go_enter Tryz.func43, Tryz.ntmps43
  go_wp2
  go_ret
  exact ⟨rfl, vbelow_new _ _⟩

set_option maxRecDepth 100000 in
set_option maxHeartbeats 4000000 in
theorem indexVersion_any {B : Nat} (l : List (Rp.Ver TbT)) (v : Value) (q : Int) (cb : Nat) (w : World) (hc : w.cell? ⟨cb, 0, none⟩ = some (.int .i64 q)) (hB : B ≤ w.heap.size) (hl : Ls w.heap.size w 6 (VeM B w) l v) :
    Calls Tryz.prog 42 #[v, .func (.func 43) #[] #[.pointer (some ⟨cb, 0, none⟩)]] w fun e w' => e = .returned (.int .i64 (ixN (fun x : Rp.Ver TbT => x.number == q) l 0)) ∧ Below w.heap.size w w' := by
  have hcl := World.block_lt_of_cell? w _ hc
  have HF := hide (fun x0 x1 x2 x3 x4 x5 x6 x7 x8 x9 x10 x11 wx (hb : Below w.heap.size w wx) => versionAt1_any x0 x1 x2 x3 x4 x5 x6 x7 x8 x9 x10 x11 q cb wx ((hb.cell (p := ⟨cb, 0, none⟩) hcl).trans hc))
  obtain ⟨hlen, a, cap, rfl, _, hk⟩ := id hl
  obtain ⟨R, hR⟩ : ∃ R, R = ixN (fun x : Rp.Ver TbT => x.number == q) l 0 := ⟨_, rfl⟩
  rw [← hR]
  have HR : Hid (R = ixN (fun x : Rp.Ver TbT => x.number == q) (l.drop 0) 0) := hide hR
  clear hc hcl hk hR
  go_enter Tryz.func42, Tryz.ntmps42
  go_wp2
  go_loopw [8] (fun i wr => ∃ m : Nat, m ≤ l.length ∧ i = .int .i64 (m : Int) ∧ Hid (R = ixN (fun x : Rp.Ver TbT => x.number == q) (l.drop m) m) ∧ Hid (Below w.heap.size w wr)) (fun i _ => l.length - (intOf i).toNat)
  case atStart => exact ⟨0, Nat.zero_le _, rfl, HR, hide (Below.refl _ _)⟩
  case round =>
    obtain ⟨m, hml, rfl, H, HB⟩ := hrel
    clear HR
    by_cases hlt : m < l.length
    · have hi1 : (m : Int) < (l.length : Int) := by omega
      obtain ⟨x, hx⟩ : ∃ x, l[m]? = some x := ⟨_, List.getElem?_eq_getElem hlt⟩
      obtain ⟨b, off, cap', ev⟩ := hl.begins (by intro e; subst e; simp at hlt)
      cases ev
      have E := (unhide H).trans (ixN_at hx)
      have hl2 := hl.below (unhide HB) fun x cs h => VeM.below ((unhide HB).mono hB) h
      obtain ⟨ia, oa, ra, ic, oc, rc, hq⟩ := hl2.ver hx
      have c0 := hq 0 _ rfl
      have c1 := hq 1 _ rfl
      have c2 := hq 2 _ rfl
      have c3 := hq 3 _ rfl
      have c4 := hq 4 _ rfl
      have c5 := hq 5 _ rfl
      rw [Nat.add_zero] at c0
      have C := hide (unhide HF x.number x.table.name x.table.pol ia x.table.ins.length ic oa x.table.outs.length oc ra x.table.rules.length rc wr (unhide HB))
      generalize (x.number == q) = P at C E
      have HE := hide E
      clear hx hl2 hq E H
      go_wp2_with fail
      refine (unhide C).mono ?_
      rintro e w2 ⟨rfl, hb2⟩
      have HB2 := hide (below_via (unhide HB) hb2)
      clear hb2 C
      cases P with
      | true =>
        have HE2 := hide ((unhide HE).trans (if_pos rfl))
        go_wp2
        go_ret
        rw [unhide HE2]
        exact ⟨rfl, unhide HB2⟩
      | false =>
        have HE2 := hide ((unhide HE).trans (if_neg (by decide)))
        go_wp2
        go_round
        · exact ⟨m + 1, hlt, rfl, HE2, HB2⟩
        · simp only [intOf]; omega
    · have hi1 : ¬ (m : Int) < (l.length : Int) := by omega
      have HE : Hid (R = -1) := hide ((unhide H).trans (by rw [List.drop_eq_nil_of_le (by omega)]; rfl))
      go_wp2
      go_ret
      rw [unhide HE]
      exact ⟨rfl, unhide HB⟩

set_option maxRecDepth 100000 in
set_option maxHeartbeats 4000000 in
theorem versionAt_any {B : Nat} (l : List (Rp.Ver TbT)) (v : Value) (q : Int) (w : World) (hB : B ≤ w.heap.size) (hl : Ls w.heap.size w 6 (VeM B w) l v) :
    Calls Tryz.prog 23 #[v, .int .i64 q] w fun e w' => e = .returned (.int .i64 (ixN (fun x : Rp.Ver TbT => x.number == q) l 0)) ∧ Below w.heap.size w w' := by
  have b1 := vbelow_new w (.cells #[.int .i64 q] 3)
  have IX := hide (indexVersion_any l v q w.heap.size (w.alloc (.cells #[.int .i64 q] 3)) (by simp) (Nat.le_trans hB b1.size) ((hl.below b1 fun x cs h => VeM.below (b1.mono hB) h).mono b1.size fun x cs h => h))
  have HB1 := hide b1
  generalize ixN (fun x : Rp.Ver TbT => x.number == q) l 0 = R at IX ⊢
  obtain ⟨a, cap, rfl, _⟩ := hl.tell
  clear b1 hl
  go_enter Tryz.func23, Tryz.ntmps23
  go_wp2_with fail
  refine (unhide IX).mono ?_
  rintro e w2 ⟨rfl, hb2⟩
  have HB2 := hide (below_via (unhide HB1) hb2)
  clear hb2 IX HB1
  go_wp2
  go_ret
  exact ⟨rfl, unhide HB2⟩
end Go.Proofs.YtnegjbkbfgkkjaaGreatDoor
