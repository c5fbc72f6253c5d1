/- slices.Clone of entries, seats, versions. (Written by gen_cl.py.) -/
import Derived.Test.YtnegjbkbfgkkjaaGreatDoorG33
import Derived.Test.YtnegjbkbfgkkjaaGreatDoorG34
import Derived.Test.YtnegjbkbfgkkjaaGreatDoorG03
namespace Go.Proofs.YtnegjbkbfgkkjaaGreatDoor
open Go.RowKit Go.MapKept

theorem one_Seat {x : Rp.Seat} {c : List Value} (h : SeM x c.toArray) : ∀ u ∈ c, u.oneCell' = true := by
  have e : c = [.int .i64 x.session, .int .i64 x.seq, .int .i64 x.reply.err, .int .i64 x.reply.version] := by simpa using congrArg Array.toList h
  subst e
  intro u hu
  simp at hu
  rcases hu with rfl | rfl | rfl | rfl <;> rfl
theorem one_Version {B : Nat} {w : World} {x : Rp.Ver TbT} {c : List Value} (h : VeM B w x c.toArray) : ∀ u ∈ c, u.oneCell' = true := by
  obtain ⟨t0, t1, t2, t3, t4, e, ht⟩ := h
  obtain ⟨ia, oa, ra, ic, oc, rc, e2⟩ := ht.open
  simp at e2
  obtain ⟨rfl, rfl, rfl, rfl, rfl⟩ := e2
  have e : c = [.int .i64 x.number, .string x.table.name, .int .i64 x.table.pol, .slice ia x.table.ins.length ic, .slice oa x.table.outs.length oc, .slice ra x.table.rules.length rc] := by simpa using congrArg Array.toList e
  subst e
  intro u hu
  simp at hu
  rcases hu with rfl | rfl | rfl | rfl | rfl | rfl <;> rfl
theorem one_Entry {B : Nat} {w : World} {x : Rp.Ent ByteArray TbT} {c : List Value} (h : EnM B w x c.toArray) : ∀ u ∈ c, u.oneCell' = true := by
  obtain ⟨kv, e, hk, _⟩ := h
  obtain ⟨ka, kc, rfl, _⟩ := hk.tell
  have e : c = [.string x.name, .int .i64 x.next, .int .i64 x.now, .slice ka x.kept.length kc] := by simpa using congrArg Array.toList e
  subst e
  intro u hu
  simp at hu
  rcases hu with rfl | rfl | rfl | rfl <;> rfl
theorem one_rows {α : Type} {k : Nat} {R : α → Array Value → Prop} {l : List α} {css : List (List Value)} (h : Rows12 k R l css) (hR : ∀ x (c : List Value), R x c.toArray → ∀ u ∈ c, u.oneCell' = true) : ∀ u ∈ css.flatten, u.oneCell' = true := by
  intro u hu
  obtain ⟨c, hc, hu2⟩ := List.mem_flatten.1 hu
  obtain ⟨i, hi⟩ := List.getElem?_of_mem hc
  have hl : i < l.length := by rw [← h.len]; exact (List.getElem?_eq_some_iff.1 hi).1
  obtain ⟨c', h1, _, h3⟩ := h.each i _ (List.getElem?_eq_getElem hl)
  rw [hi] at h1
  cases h1
  exact hR _ c h3 u hu2

set_option maxHeartbeats 2000000 in
theorem clone_Entry {α : Type} {L : Nat} {R : α → Array Value → Prop} (l : List α) (v : Value) (w : World) (h : Ls L w 4 R l v) (hp : PlS v) (hn : l.length ≤ 1000) (hR : ∀ x (c : List Value), R x c.toArray → ∀ u ∈ c, u.oneCell' = true) :
    Calls Tryz.prog 30 #[v] w fun e w' => ∃ v' css, e = .returned v' ∧ Rows12 4 R l css ∧ w'.ownsRow w.heap.size 54 4 v' l.length css.flatten ∧ Below w.heap.size w w' := by
  obtain ⟨css, hr, hc⟩ := ls_rows h
  obtain ⟨i0, hi0, hz0, hz1, hz2⟩ := info_parts info_Entry
  obtain ⟨a, cap, e, _⟩ := h.tell
  rcases hp with q | ⟨b, off, n, c, q⟩
  · rw [q] at e
    simp at e
    have hl0 : l.length = 0 := e.2.1.symm
    obtain rfl := List.length_eq_zero_iff.1 hl0
    rw [q]
    refine (AnyE.slices_Clone_nil Tryz.cloneE 0 0 w).mono ?_
    rintro e w' ⟨rfl, rfl⟩
    refine ⟨_, css, rfl, hr, ⟨?_, .inl ⟨rfl, rfl⟩⟩, Below.refl _ _⟩
    rw [flat_len2 css hr.width, hr.len]
  · have hnl : n = l.length := by rw [q] at e; simp at e; exact e.2.1
    subst hnl
    rw [q]
    have hcells : ∀ j u, css.flatten[j]? = some u → w.cell? ⟨b, off + j, none⟩ = some u := fun j u hj => by
      have hne : l ≠ [] := by
        intro e0
        have := flat_len2 css hr.width
        rw [hr.len, e0, List.length_nil, Nat.zero_mul] at this
        have h2 := (List.getElem?_eq_some_iff.1 hj).1
        omega
      obtain ⟨b', off', cap', e', _, hx⟩ := hc hne
      rw [q] at e'
      simp at e'
      obtain ⟨⟨rfl, rfl⟩, _⟩ := e'
      exact hx j u hj
    refine (AnyE.slices_Clone Tryz.cloneE i0 _ 4 56 hi0 hz0 hz1 hz2 rfl (by decide) (fun w => by kernel_rfl) b off l.length c css.flatten w (by rw [flat_len2 css hr.width, hr.len]) (by unfold maxLen; omega) (by omega) hcells (one_rows hr hR)).mono ?_
    rintro e w' ⟨v', rfl, hown, _, hb⟩
    exact ⟨v', css, rfl, hr, hown, hb⟩

set_option maxHeartbeats 2000000 in
theorem clone_Seat {α : Type} {L : Nat} {R : α → Array Value → Prop} (l : List α) (v : Value) (w : World) (h : Ls L w 4 R l v) (hp : PlS v) (hn : l.length ≤ 1000) (hR : ∀ x (c : List Value), R x c.toArray → ∀ u ∈ c, u.oneCell' = true) :
    Calls Tryz.prog 31 #[v] w fun e w' => ∃ v' css, e = .returned v' ∧ Rows12 4 R l css ∧ w'.ownsRow w.heap.size 49 4 v' l.length css.flatten ∧ Below w.heap.size w w' := by
  obtain ⟨css, hr, hc⟩ := ls_rows h
  obtain ⟨i0, hi0, hz0, hz1, hz2⟩ := info_parts info_Seat
  obtain ⟨a, cap, e, _⟩ := h.tell
  rcases hp with q | ⟨b, off, n, c, q⟩
  · rw [q] at e
    simp at e
    have hl0 : l.length = 0 := e.2.1.symm
    obtain rfl := List.length_eq_zero_iff.1 hl0
    rw [q]
    refine (AnyE.slices_Clone_nil Tryz.cloneS 0 0 w).mono ?_
    rintro e w' ⟨rfl, rfl⟩
    refine ⟨_, css, rfl, hr, ⟨?_, .inl ⟨rfl, rfl⟩⟩, Below.refl _ _⟩
    rw [flat_len2 css hr.width, hr.len]
  · have hnl : n = l.length := by rw [q] at e; simp at e; exact e.2.1
    subst hnl
    rw [q]
    have hcells : ∀ j u, css.flatten[j]? = some u → w.cell? ⟨b, off + j, none⟩ = some u := fun j u hj => by
      have hne : l ≠ [] := by
        intro e0
        have := flat_len2 css hr.width
        rw [hr.len, e0, List.length_nil, Nat.zero_mul] at this
        have h2 := (List.getElem?_eq_some_iff.1 hj).1
        omega
      obtain ⟨b', off', cap', e', _, hx⟩ := hc hne
      rw [q] at e'
      simp at e'
      obtain ⟨⟨rfl, rfl⟩, _⟩ := e'
      exact hx j u hj
    refine (AnyE.slices_Clone Tryz.cloneS i0 _ 4 32 hi0 hz0 hz1 hz2 rfl (by decide) (fun w => by kernel_rfl) b off l.length c css.flatten w (by rw [flat_len2 css hr.width, hr.len]) (by unfold maxLen; omega) (by omega) hcells (one_rows hr hR)).mono ?_
    rintro e w' ⟨v', rfl, hown, _, hb⟩
    exact ⟨v', css, rfl, hr, hown, hb⟩

set_option maxHeartbeats 2000000 in
theorem clone_Version {α : Type} {L : Nat} {R : α → Array Value → Prop} (l : List α) (v : Value) (w : World) (h : Ls L w 6 R l v) (hp : PlS v) (hn : l.length ≤ 1000) (hR : ∀ x (c : List Value), R x c.toArray → ∀ u ∈ c, u.oneCell' = true) :
    Calls Tryz.prog 32 #[v] w fun e w' => ∃ v' css, e = .returned v' ∧ Rows12 6 R l css ∧ w'.ownsRow w.heap.size 56 6 v' l.length css.flatten ∧ Below w.heap.size w w' := by
  obtain ⟨css, hr, hc⟩ := ls_rows h
  obtain ⟨i0, hi0, hz0, hz1, hz2⟩ := info_parts info_Version
  obtain ⟨a, cap, e, _⟩ := h.tell
  rcases hp with q | ⟨b, off, n, c, q⟩
  · rw [q] at e
    simp at e
    have hl0 : l.length = 0 := e.2.1.symm
    obtain rfl := List.length_eq_zero_iff.1 hl0
    rw [q]
    refine (AnyE.slices_Clone_nil Tryz.cloneV 0 0 w).mono ?_
    rintro e w' ⟨rfl, rfl⟩
    refine ⟨_, css, rfl, hr, ⟨?_, .inl ⟨rfl, rfl⟩⟩, Below.refl _ _⟩
    rw [flat_len2 css hr.width, hr.len]
  · have hnl : n = l.length := by rw [q] at e; simp at e; exact e.2.1
    subst hnl
    rw [q]
    have hcells : ∀ j u, css.flatten[j]? = some u → w.cell? ⟨b, off + j, none⟩ = some u := fun j u hj => by
      have hne : l ≠ [] := by
        intro e0
        have := flat_len2 css hr.width
        rw [hr.len, e0, List.length_nil, Nat.zero_mul] at this
        have h2 := (List.getElem?_eq_some_iff.1 hj).1
        omega
      obtain ⟨b', off', cap', e', _, hx⟩ := hc hne
      rw [q] at e'
      simp at e'
      obtain ⟨⟨rfl, rfl⟩, _⟩ := e'
      exact hx j u hj
    refine (AnyE.slices_Clone Tryz.cloneV i0 _ 6 104 hi0 hz0 hz1 hz2 rfl (by decide) (fun w => by kernel_rfl) b off l.length c css.flatten w (by rw [flat_len2 css hr.width, hr.len]) (by unfold maxLen; omega) (by omega) hcells (one_rows hr hR)).mono ?_
    rintro e w' ⟨v', rfl, hown, _, hb⟩
    exact ⟨v', css, rfl, hr, hown, hb⟩
end Go.Proofs.YtnegjbkbfgkkjaaGreatDoor
