/- Walks: Same of columns. -/
import Derived.Test.YtnegjbkbfgkkjaaGreatDoorG32
import Derived.Deep.RegionHeld2
namespace Go.Proofs.YtnegjbkbfgkkjaaGreatDoor
open Go.RowKit Go.MapKept

set_option maxRecDepth 100000 in
set_option maxHeartbeats 8000000 in
theorem sameColumns_any {B : Nat} (l : List CoT) (v1 v2 : Value) (w : World) (hB : B ≤ w.heap.size) (h1 : Ls B w 3 (CM B w) l v1) (h2 : Ls B w 3 (CM B w) l v2) :
    Calls Tryz.prog 24 #[v1, v2] w fun e w' => e = .returned (.bool true) ∧ Below w.heap.size w w' := by
  obtain ⟨a1, c1, rfl, _⟩ := id h1.tell
  obtain ⟨a2, c2, rfl, _⟩ := id h2.tell
  have hlen := h1.len
  obtain ⟨n, hn⟩ : ∃ n, n = l.length := ⟨_, rfl⟩
  rw [← hn] at h1 h2 hlen ⊢
  have H1 := hide h1
  have H2 := hide h2
  have HN := hide hn
  have HL := hide hlen
  have g2 : ((n : Int) != (n : Int)) = false := by simp
  clear h1 h2 hn hlen
  go_enter Tryz.func24, Tryz.ntmps24
  go_wp2_with fail
  go_loopw [13] (fun i wr => ∃ m : Nat, m ≤ n ∧ i = .int .i64 (m : Int) ∧ Hid (Below w.heap.size w wr)) (fun i _ => n - (intOf i).toNat)
  case atStart => exact ⟨0, Nat.zero_le _, rfl, hide (Below.refl _ _)⟩
  case round =>
    obtain ⟨m, hm, rfl, HBr⟩ := hrel
    by_cases hlt2 : m < n
    · have hi1 : (m : Int) < (n : Int) := by omega
      have hmk : m < l.length := by rw [← unhide HN]; exact hlt2
      obtain ⟨u, hu⟩ : ∃ u, l[m]? = some u := ⟨_, List.getElem?_eq_getElem hmk⟩
      have hBr : B ≤ wr.heap.size := Nat.le_trans hB (unhide HBr).size
      obtain ⟨b1, o1, rfl, l1, cs1, _, ⟨oo1, rfl, L1⟩, f1⟩ := (unhide H1).row12 ((unhide HBr).mono hB) (fun _ _ => CM.below ((unhide HBr).mono hB)) hu
      obtain ⟨b2, o2, rfl, l2, cs2, _, ⟨oo2, rfl, L2⟩, f2⟩ := (unhide H2).row12 ((unhide HBr).mono hB) (fun _ _ => CM.below ((unhide HBr).mono hB)) hu
      have CB := hide (fun wx (hx : Below wr.heap.size wr wx) => sameAll_any u.ord oo1 oo2 wx (Nat.le_trans hBr hx.size) (L1.below (hx.mono hBr) fun _ _ => Mem.below (hx.mono hBr)) (L2.below (hx.mono hBr) fun _ _ => Mem.below (hx.mono hBr)))
      obtain ⟨p1, p2, rfl, _⟩ := id L1.tell
      obtain ⟨q1, q2, rfl, _⟩ := id L2.tell
      have d0 := f1 0 _ rfl
      have d1 := f1 1 _ rfl
      have d2 := f1 2 _ rfl
      have e0 := f2 0 _ rfl
      have e1 := f2 1 _ rfl
      have e2 := f2 2 _ rfl
      rw [Nat.add_zero] at d0 e0
      have gk : (u.kind != u.kind) = false := by simp
      have z1 := World.block_lt_of_cell? wr _ d0
      have z2 := World.block_lt_of_cell? wr _ e0
      have KP := hide (fun (wx : World) (hx : Below wr.heap.size wr wx) => And.intro ((hx.cell (p := ⟨b1, o1 + m * 3, none⟩) z1).trans d0) (And.intro ((hx.cell (p := ⟨b1, o1 + m * 3 + 1, none⟩) z1).trans d1) (And.intro ((hx.cell (p := ⟨b1, o1 + m * 3 + 2, none⟩) z1).trans d2) (And.intro ((hx.cell (p := ⟨b2, o2 + m * 3, none⟩) z2).trans e0) (And.intro ((hx.cell (p := ⟨b2, o2 + m * 3 + 1, none⟩) z2).trans e1) ((hx.cell (p := ⟨b2, o2 + m * 3 + 2, none⟩) z2).trans e2))))))
      clear hu L1 L2 f1 f2 hmk hBr l1 l2 z1 z2
      obtain ⟨un, uk, uo⟩ := u
      simp only at CB d0 d1 d2 e0 e1 e2 gk KP
      have hi0 : (0 : Int) ≤ (m : Int) := by omega
      have hb := Below.refl wr.heap.size wr
      go_wp2_with fail
      go_region_held2 (fun w' => w'.cell? ⟨b1, o1 + m * 3, none⟩ = some (.string un) ∧ w'.cell? ⟨b1, o1 + m * 3 + 1, none⟩ = some (.int .i64 uk) ∧ w'.cell? ⟨b1, o1 + m * 3 + 2, none⟩ = some (.slice p1 uo.length p2) ∧ w'.cell? ⟨b2, o2 + m * 3, none⟩ = some (.string un) ∧ w'.cell? ⟨b2, o2 + m * 3 + 1, none⟩ = some (.int .i64 uk) ∧ w'.cell? ⟨b2, o2 + m * 3 + 2, none⟩ = some (.slice q1 uo.length q2))
        (first | go_keep | exact unhide KP _ (by repeat (first | assumption | with_reducible exact Below.refl _ _ | with_reducible apply Below.drew)))
        (((with_reducible refine (unhide CB _ ?_).mono ?_; · exact (by repeat (first | assumption | with_reducible exact Below.refl _ _ | with_reducible apply Below.drew))); rintro e w2 ⟨rfl, hb2⟩; replace hb : Below wr.heap.size wr w2 := below_via (by repeat (first | assumption | with_reducible exact Below.refl _ _ | with_reducible apply Below.drew)) hb2))
      all_goals
        have HB2 := hide (below_via (unhide HBr) hb)
        clear hb hb2 d0 d1 d2 e0 e1 e2 CB HBr KP
        have hw : IntKind.i64.wrap ((m : Int) + 1) = ((m + 1 : Nat) : Int) := by have := unhide HN; have := unhide HL; rw [IntKind.wrap_i64]; omega
        go_wp2
        go_roundw
        case rel => exact ⟨m + 1, by omega, by first | rfl | go_num, HB2⟩
        case measure => simp [intOf]; omega
    · obtain rfl : m = n := by omega
      go_wp2
      go_ret
      exact ⟨rfl, unhide HBr⟩
end Go.Proofs.YtnegjbkbfgkkjaaGreatDoor
