/- Walks: Same of lists of values, of columns. -/
import Derived.Test.YtnegjbkbfgkkjaaGreatDoorG26
import Derived.Test.YtnegjbkbfgkkjaaGreatDoorG31
import Derived.Test.YtnegjbkbfgkkjaaGreatDoorG23
import Derived.Laws.MakeOwn
import Derived.Deep.RegionLaw
import Derived.Lib.SliceRun
namespace Go.Proofs.YtnegjbkbfgkkjaaGreatDoor
open Go.RowKit Go.MapKept

theorem Ls.at2 {α : Type} {B : Nat} {w : World} {k : Nat} {R : α → Array Value → Prop} {l : List α} {b off n cap : Nat} (h : Ls B w k R l (.slice (some ⟨b, off, none⟩) n cap)) {i : Nat} {x : α} (hi : l[i]? = some x) :
    b < B ∧ ∃ cs, cs.size = k ∧ R x cs ∧ ∀ j u, cs[j]? = some u → w.cell? ⟨b, off + i * k + j, none⟩ = some u := by
  obtain ⟨a, cap', e, _, hk⟩ := h.tell
  obtain ⟨b', off', ea, hl, hm⟩ := hk (by intro e; subst e; simp at hi)
  cases e
  cases ea
  exact ⟨hl, hm i x hi⟩
theorem Ls.any {α : Type} {B B' : Nat} {w : World} {k : Nat} {R : α → Array Value → Prop} {l : List α} {v : Value} (h : Ls B w k R l v) (hb : B ≤ B') : Ls B' w k R l v := h.mono hb fun _ _ q => q
/-- the i-th row of a list that was known in an elder world -/
theorem Ls.row12 {α : Type} {B : Nat} {w w' : World} {k : Nat} {R R' : α → Array Value → Prop} {l : List α} {a : Option Addr} {n cap : Nat} (h : Ls B w k R l (.slice a n cap)) (hb : Below B w w') (hR : ∀ x cs, R x cs → R' x cs) {i : Nat} {x : α} (hi : l[i]? = some x) :
    ∃ b off, a = some ⟨b, off, none⟩ ∧ b < B ∧ ∃ cs, cs.size = k ∧ R' x cs ∧ ∀ j u, cs[j]? = some u → w'.cell? ⟨b, off + i * k + j, none⟩ = some u := by
  obtain ⟨b, off, cap', e⟩ := (h.below hb hR).begins (by intro e; subst e; simp at hi)
  cases e
  obtain ⟨l1, cs, h1, h2, h3⟩ := (h.below hb hR).at2 hi
  exact ⟨b, off, rfl, l1, cs, h1, h2, h3⟩

set_option maxRecDepth 100000 in
set_option maxHeartbeats 8000000 in
theorem sameAll_any {B : Nat} (l : List Tree) (v1 v2 : Value) (w : World) (hB : B ≤ w.heap.size) (h1 : Ls B w 6 (Mem B w) l v1) (h2 : Ls B w 6 (Mem B w) l v2) :
    Calls Tryz.prog 44 #[v1, v2] w fun e w' => e = .returned (.bool true) ∧ Below w.heap.size w w' := by
  obtain ⟨a1, c1, rfl, _⟩ := id h1.tell
  obtain ⟨a2, c2, rfl, _⟩ := id h2.tell
  have hlen := h1.len
  obtain ⟨n, hn⟩ : ∃ n, n = l.length := ⟨_, rfl⟩
  rw [← hn] at h1 h2 hlen ⊢
  have H1 := hide h1
  have H2 := hide h2
  have HN := hide hn
  have HL := hide hlen
  have g2 : ((n : Int) != (n : Int)) = false := by simp
  clear h1 h2 hn hlen
  go_enter Tryz.func44, Tryz.ntmps44
  go_wp2_with fail
  go_loopw [13] (fun i wr => ∃ m : Nat, m ≤ n ∧ i = .int .i64 (m : Int) ∧ Hid (Below w.heap.size w wr)) (fun i _ => n - (intOf i).toNat)
  case atStart => exact ⟨0, Nat.zero_le _, rfl, hide (Below.refl _ _)⟩
  case round =>
    obtain ⟨m, hm, rfl, HBr⟩ := hrel
    by_cases hlt2 : m < n
    · have hi1 : (m : Int) < (n : Int) := by omega
      have hmk : m < l.length := by rw [← unhide HN]; exact hlt2
      obtain ⟨u, hu⟩ : ∃ u, l[m]? = some u := ⟨_, List.getElem?_eq_getElem hmk⟩
      have hBr : B ≤ wr.heap.size := Nat.le_trans hB (unhide HBr).size
      obtain ⟨b1, o1, rfl, l1, cs1, _, M1, f1⟩ := (unhide H1).row12 ((unhide HBr).mono hB) (fun _ _ => Mem.below ((unhide HBr).mono hB)) hu
      obtain ⟨b2, o2, rfl, l2, cs2, _, M2, f2⟩ := (unhide H2).row12 ((unhide HBr).mono hB) (fun _ _ => Mem.below ((unhide HBr).mono hB)) hu
      have CB := hide (fun wx (hx : Below wr.heap.size wr wx) => sameT_all u B wx cs1 cs2 (Nat.le_trans hBr hx.size) (M1.below (hx.mono hBr)) (M2.below (hx.mono hBr)))
      obtain ⟨p1, p2, p3, p4, p5, p6, p7, p8, rfl⟩ := M1.form12
      obtain ⟨q1, q2, q3, q4, q5, q6, q7, q8, rfl⟩ := M2.form12
      have d0 := f1 0 _ rfl
      have d1 := f1 1 _ rfl
      have d2 := f1 2 _ rfl
      have d3 := f1 3 _ rfl
      have d4 := f1 4 _ rfl
      have d5 := f1 5 _ rfl
      have e0 := f2 0 _ rfl
      have e1 := f2 1 _ rfl
      have e2 := f2 2 _ rfl
      have e3 := f2 3 _ rfl
      have e4 := f2 4 _ rfl
      have e5 := f2 5 _ rfl
      rw [Nat.add_zero] at d0 e0
      clear hu M1 M2 f1 f2 hmk hBr l1 l2
      go_wp2_with fail
      go_region_with ((with_reducible refine (unhide CB _ ?_).mono ?_; · exact (by repeat (first | assumption | exact Below.refl _ _ | apply Below.drew))); rintro e w2 ⟨rfl, hb⟩; replace hb : Below wr.heap.size wr w2 := below_via (by repeat (first | assumption | exact Below.refl _ _ | apply Below.drew)) hb)
      all_goals
        have HB2 := hide (below_via (unhide HBr) hb)
        clear hb d0 d1 d2 d3 d4 d5 e0 e1 e2 e3 e4 e5 CB HBr
        have hw : IntKind.i64.wrap ((m : Int) + 1) = ((m + 1 : Nat) : Int) := by have := unhide HN; have := unhide HL; rw [IntKind.wrap_i64]; omega
        go_wp2
        go_roundw
        case rel => exact ⟨m + 1, by omega, by first | rfl | go_num, HB2⟩
        case measure => simp [intOf]; omega
    · obtain rfl : m = n := by omega
      go_wp2
      go_ret
      exact ⟨rfl, unhide HBr⟩

end Go.Proofs.YtnegjbkbfgkkjaaGreatDoor

/- Walks: what is wrong with a column, with columns. -/
namespace Go.Proofs.YtnegjbkbfgkkjaaGreatDoor
open Go.RowKit Go.MapKept

/-- three cells in a block -/
structure V3 (w : World) (b : Nat) (v0 v1 v2 : Value) : Prop where
  low : b < w.heap.size
  tell : w.cell? ⟨b, 0, none⟩ = some v0 ∧ w.cell? ⟨b, 1, none⟩ = some v1 ∧ w.cell? ⟨b, 2, none⟩ = some v2
theorem V3.keep {w w' : World} {b : Nat} {v0 v1 v2 : Value} (h : V3 w b v0 v1 v2) {B : Nat} (hb : Below B w w') (l : b < B) : V3 w' b v0 v1 v2 := by
  have c : ∀ o, w'.cell? ⟨b, o, none⟩ = w.cell? ⟨b, o, none⟩ := fun o => hb.cell (p := ⟨b, o, none⟩) l
  refine ⟨Nat.lt_of_lt_of_le h.low hb.size, ?_⟩
  simp only [c]
  exact h.tell
theorem V3.new (w : World) (t : TypeId) (v0 v1 v2 : Value) : V3 (w.alloc (.cells #[v0, v1, v2] t)) w.heap.size v0 v1 v2 := ⟨by simp, by go_simp, by go_simp, by go_simp⟩

/-- a value in a row of values -/
theorem Ls.val {B : Nat} {w : World} {l : List Tree} {b off n cap : Nat} (h : Ls B w 6 (Mem B w) l (.slice (some ⟨b, off, none⟩) n cap)) {i : Nat} {T : Tree} (hi : l[i]? = some T) :
    ∃ (k : Int) (y : Bool) (c x : Int) (t : ByteArray) (a : Option Addr) (m p : Nat), w.cell? ⟨b, off + i * 6, none⟩ = some (.int .i64 k) ∧ w.cell? ⟨b, off + i * 6 + 1, none⟩ = some (.bool y) ∧ w.cell? ⟨b, off + i * 6 + 2, none⟩ = some (.int .i64 c) ∧ w.cell? ⟨b, off + i * 6 + 3, none⟩ = some (.int .i64 x) ∧ w.cell? ⟨b, off + i * 6 + 4, none⟩ = some (.string t) ∧ w.cell? ⟨b, off + i * 6 + 5, none⟩ = some (.slice a m p) ∧ Mem B w T #[.int .i64 k, .bool y, .int .i64 c, .int .i64 x, .string t, .slice a m p] ∧ T.kind = k := by
  obtain ⟨a, cap', e, _, hk⟩ := h.tell
  obtain ⟨b', off', ea, hl, hm⟩ := hk (by intro e; subst e; simp at hi)
  cases e
  cases ea
  obtain ⟨cs, hs, hM, hc⟩ := hm i T hi
  obtain ⟨k, y, c, x, t, ks⟩ := T
  have hM' := hM
  rw [Mem] at hM
  obtain ⟨_, _, a', p, rfl, _⟩ := hM
  exact ⟨k, y, c, x, t, a', _, p, by simpa using hc 0 _ rfl, by simpa using hc 1 _ rfl, by simpa using hc 2 _ rfl, by simpa using hc 3 _ rfl, by simpa using hc 4 _ rfl, by simpa using hc 5 _ rfl, hM', rfl⟩

def ordL (k : Int) (l : List Tree) : Int := fnz (l.map (ordV k))
theorem ordL_at {k : Int} {l : List Tree} {m : Nat} {v : Tree} (h : l[m]? = some v) : ordL k (l.drop m) = if ordV k v ≠ 0 then ordV k v else ordL k (l.drop (m + 1)) := by
  unfold ordL
  rw [List.map_drop, List.map_drop, fnz_drop (a := ordV k v) (by simp [h])]

theorem ordL_step (k : Int) (l : List Tree) (m : Nat) (u : Tree) (h : l[m]? = some u) : ordL k (l.drop m) = if valX u ≠ 0 then valX u else if u.kind = 1 ∨ hasPl u.kind k = false then 9 else ordL k (l.drop (m + 1)) := by
  rw [ordL_at h]
  have e : (u.kind = 1 ∨ u.kind ≠ k) ↔ (u.kind = 1 ∨ hasPl u.kind k = false) := by
    unfold hasPl
    by_cases h1 : u.kind = 1
    · simp [h1]
    · simp [h1]
  by_cases q : valX u = 0
  · have o : ordV k u = if u.kind = 1 ∨ u.kind ≠ k then 9 else 0 := if_neg (by simpa using q)
    rw [o, if_neg (fun c : valX u ≠ 0 => c q)]
    by_cases r : u.kind = 1 ∨ u.kind ≠ k
    · rw [if_pos r, if_pos (e.1 r)]; rfl
    · rw [if_neg r, if_neg (fun c => r (e.2 c))]; rfl
  · have o : ordV k u = valX u := if_pos q
    rw [o, if_pos q, if_pos q]
set_option maxRecDepth 100000 in
set_option maxHeartbeats 8000000 in
theorem wrongColumn_any {B : Nat} (c : CoT) (cs : Array Value) (most : Nat) (w : World) (hm : most ≤ 1000) (hB : B ≤ w.heap.size) (hT : TabsIn B w) (hc : CM B w c cs) :
    Calls Tryz.prog 63 #[.agg cs, .int .i64 (most : Int)] w fun e w' => e = .returned (.int .i64 (colW c most)) ∧ Below w.heap.size w w' := by
  obtain ⟨o, rfl, ho⟩ := hc
  obtain ⟨s, k, l⟩ := c
  simp only at ho ⊢
  have hlen := ho.len
  obtain ⟨oa, ocap, rfl, _⟩ := id ho.tell
  obtain ⟨R, hR⟩ : ∃ R, R = colW ⟨s, k, l⟩ most := ⟨_, rfl⟩
  rw [← hR]
  have HR : Hid (R = if k ≠ 2 ∧ k ≠ 3 ∧ k ≠ 4 then 1 else if most < l.length then 5 else ordL k l) := hide hR
  clear hR
  obtain ⟨w0, hw0⟩ : ∃ w0, w0 = w.alloc (.cells #[.string s, .int .i64 k, .slice oa l.length ocap] 91) := ⟨_, rfl⟩
  have B0 : Below w.heap.size w w0 := by rw [hw0]; exact vbelow_new _ _
  have V0 : V3 w0 w.heap.size (.string s) (.int .i64 k) (.slice oa l.length ocap) := by rw [hw0]; exact V3.new _ _ _ _ _
  have HO := hide (ho.below (B0.mono hB) fun x cs => Mem.below (B0.mono hB))
  have HT := hide (hT.below (B0.mono hB))
  have hz0 : B ≤ w0.heap.size := Nat.le_trans hB B0.size
  have HZ := hide hz0
  have HB0 := hide B0
  have HV0 := hide V0
  obtain ⟨v0, v1, v2⟩ := V0.tell
  clear B0 V0 ho hT hz0
  go_enter Tryz.func63, Tryz.ntmps63
  go_upto_region 1 with fail
  rw [← hw0]
  clear hw0
  by_cases hk : k = 2 ∨ k = 3 ∨ k = 4
  case neg =>
    have g2 : (k != 2) = true := by simp; omega
    have g3 : (k != 3) = true := by simp; omega
    have g4 : (k != 4) = true := by simp; omega
    have HE := hide (show R = 1 from (unhide HR).trans (if_pos (by omega)))
    go_wp2
    go_ret
    rw [unhide HE]
    exact ⟨rfl, unhide HB0⟩
  case pos =>
    have HR2 : Hid (R = if most < l.length then 5 else ordL k l) := hide ((unhide HR).trans (if_neg (by omega)))
    have HP := fun k' y c x t a n cap wx => tHasPl_any k' y c x t a n cap k hk wx
    have HTY := hide (fun wx => typeOf_any s k (.slice oa l.length ocap) wx)
    have STEP := ordL_step k l
    obtain ⟨hpF, hhp⟩ : ∃ f : Int → Bool, f = fun k' => hasPl k' k := ⟨_, rfl⟩
    obtain ⟨OF, hOF⟩ : ∃ f, f = ordL k := ⟨_, rfl⟩
    have e1 : ∀ x, hasPl x k = hpF x := fun x => by rw [hhp]
    simp only [e1] at HP STEP
    replace HP := hide HP
    rw [← hOF] at STEP HR2
    replace STEP := hide STEP
    have O0 : Hid (OF [] = 0) := hide (by rw [hOF]; rfl)
    clear hhp hOF e1
    clear HR
    rcases hk with rfl | rfl | rfl
    all_goals
      by_cases hmo : most < l.length
      · have HE := hide ((unhide HR2).trans (if_pos hmo))
        have hmo' : (most : Int) < (l.length : Int) := by omega
        go_wp2
        go_ret
        rw [unhide HE]
        exact ⟨rfl, unhide HB0⟩
      · have HE := hide ((unhide HR2).trans (if_neg hmo))
        have hmo' : ¬ (most : Int) < (l.length : Int) := by omega
        clear HR2
        go_wp2
        go_loopw [29] (fun i wr => ∃ m : Nat, m ≤ l.length ∧ i = .int .i64 (m : Int) ∧ Hid (R = OF (l.drop m)) ∧ Hid (Below w0.heap.size w0 wr)) (fun i _ => l.length - (intOf i).toNat)
        case atStart => exact ⟨0, Nat.zero_le _, rfl, HE, hide (Below.refl _ _)⟩
        case round =>
          obtain ⟨m, hml, rfl, H, HB⟩ := hrel
          clear HE
          by_cases hlt : m < l.length
          · have hi1 : (m : Int) < (l.length : Int) := by omega
            obtain ⟨u, hu⟩ : ∃ u, l[m]? = some u := ⟨_, List.getElem?_eq_getElem hlt⟩
            obtain ⟨b, off, cap', ev⟩ := (unhide HO).begins (by intro e; subst e; simp at hlt)
            cases ev
            have hbr := (unhide HB).mono (unhide HZ)
            obtain ⟨vk, vy, vc, vx, vt, va, vm, vp, c0, c1, c2, c3, c4, c5, hM, hkd⟩ := ((unhide HO).below hbr fun x cs => Mem.below hbr).val hu
            have E := H
            obtain ⟨w1, hw1⟩ : ∃ w1, w1 = wr.alloc (.cells #[.int .i64 vk, .bool vy, .int .i64 vc, .int .i64 vx, .string vt, .slice va vm vp] 81) := ⟨_, rfl⟩
            have B1 : Below wr.heap.size wr w1 := by rw [hw1]; exact vbelow_new _ _
            have V1 : V6 w1 wr.heap.size (.int .i64 vk) (.bool vy) (.int .i64 vc) (.int .i64 vx) (.string vt) (.slice va vm vp) := by rw [hw1]; exact V6.new _ _ _ _ _ _ _ _
            have hz1 : B ≤ w1.heap.size := Nat.le_trans (unhide HZ) (Nat.le_trans (unhide HB).size B1.size)
            have hB1 := B1.mono (Nat.le_trans (unhide HZ) (unhide HB).size)
            have C := hide (logicWrong_any u _ B w1 hz1 (Mem.below hB1 hM) (((unhide HT).below hbr).below hB1))
            have V0 := ((unhide HV0).keep (unhide HB) (unhide HV0).low).keep B1 (Nat.lt_of_lt_of_le (unhide HV0).low (unhide HB).size)
            have HB1 := hide (below_via (unhide HB) B1)
            have HV1 := hide V1
            have HVC := hide V0
            have HKD := hide hkd
            obtain ⟨v0', v1', v2'⟩ := V0.tell
            obtain ⟨y0, y1, y2, y3, y4, y5⟩ := V1.tell
            have hva : valX u = (wrongF u 0 1).1 := rfl
            rw [← hva] at C
            have E2 := (unhide E).trans (unhide STEP m u hu)
            rw [hkd] at E2
            replace E2 := hide E2
            generalize valX u = X at C E2
            clear E hu hM hbr hkd H V0 V1 B1 hB1 hva v0' v1' v2'
            go_upto_region 8 with fail
            rw [← hw1]
            clear hw1 c0 c1 c2 c3 c4 c5
            go_wp2_with fail
            with_reducible refine (unhide C).mono ?_
            rintro e w2 ⟨rfl, hb2⟩
            have HB2 := hide (below_via (unhide HB1) hb2)
            have V2 := (unhide HV1).keep hb2 (unhide HV1).low
            have V02 := (unhide HVC).keep hb2 (unhide HVC).low
            have HV2 := hide V2
            have HVC2 := hide V02
            obtain ⟨z0, z1, z2, z3, z4, z5⟩ := V2.tell
            obtain ⟨u0, u1, u2⟩ := V02.tell
            clear hb2 C V2 V02 y0 y1 y2 y3 y4 y5 HB1 HV1 HVC
            by_cases hX : X = 0
            case neg =>
              have g1 : (X != 0) = true := by simpa using hX
              have HE := hide ((unhide E2).trans (if_pos hX))
              go_wp2
              go_ret
              rw [unhide HE]
              exact ⟨rfl, below_via (unhide HB0) (unhide HB2)⟩
            case pos =>
              have HE := hide ((unhide E2).trans (if_neg (by simpa using hX)))
              subst hX
              clear E2
              by_cases h1 : vk = 1
              case pos =>
                subst h1
                have HE2 := hide ((unhide HE).trans (if_pos (.inl rfl)))
                clear HE
                go_wp2_with fail
                go_region
                all_goals
                  go_wp2
                  go_ret
                  rw [unhide HE2]
                  exact ⟨rfl, by repeat (first | exact below_via (unhide HB0) (unhide HB2) | apply Below.drew)⟩
              case neg =>
                have g1 : (vk == 1) = false := by simpa using h1
                have HE1 := unhide HE
                obtain ⟨Q, hQ⟩ : ∃ Q, Q = hpF vk := ⟨_, rfl⟩
                rw [← hQ] at HE1
                have HPv := unhide HP vk vy vc vx vt va vm vp
                rw [← hQ] at HPv
                have HPW := hide HPv
                have HEQ := hide HE1
                have H1 := hide h1
                clear HE HE1 hQ HPv h1
                go_wp2_with fail
                go_region_with (first
                  | (go_at_call 50
                     refine (unhide HTY _).mono ?_
                     rintro e w3 ⟨rfl, hb3⟩
                     replace hb3 : Below w2.heap.size w2 w3 := below_via (by repeat (first | assumption | exact Below.refl _ _ | apply Below.drew)) hb3
                     obtain ⟨q0, q1, q2, q3, q4, q5⟩ := ((unhide HV2).keep hb3 (unhide HV2).low).tell)
                  | (go_at_call 79
                     refine (unhide HPW _).mono ?_
                     rintro e w4 ⟨rfl, hb4⟩
                     replace hb4 : Below w0.heap.size w0 w4 := below_via (unhide HB2) (below_via (by repeat (first | assumption | exact Below.refl _ _ | apply Below.drew)) hb4)))
                all_goals
                  have HB4 := hide hb4
                  clear hb4
                  cases Q with
                  | false =>
                    have HE2 := hide ((unhide HEQ).trans (if_pos (.inr rfl)))
                    go_wp2
                    go_ret
                    rw [unhide HE2]
                    exact ⟨rfl, below_via (unhide HB0) (unhide HB4)⟩
                  | true =>
                    have HE2 := hide ((unhide HEQ).trans (if_neg (by have := unhide H1; simp [this])))
                    go_wp2
                    go_round
                    · exact ⟨m + 1, hlt, rfl, HE2, HB4⟩
                    · simp only [intOf]; omega
          · have hi1 : ¬ (m : Int) < (l.length : Int) := by omega
            have HF : Hid (R = 0) := hide ((unhide H).trans (by rw [List.drop_eq_nil_of_le (by omega)]; exact unhide O0))
            go_wp2
            go_ret
            rw [unhide HF]
            exact ⟨rfl, below_via (unhide HB0) (unhide HB)⟩
end Go.Proofs.YtnegjbkbfgkkjaaGreatDoor

/- Walks: what is wrong with columns; which policies reckon; what is wrong with a table's head. -/
namespace Go.Proofs.YtnegjbkbfgkkjaaGreatDoor
open Go.RowKit Go.MapKept

def colsL (l : List CoT) (most : Nat) (m : Nat) : Int := fnz (((List.range l.length).map (colAt l most)).drop m)
theorem colsL_at (l : List CoT) (most m : Nat) (c : CoT) (h : l[m]? = some c) : colsL l most m = if nameB c.name = false then 7 else if hasN (l.take m) c.name = true then 7 else if colW c most ≠ 0 then colW c most else colsL l most (m + 1) := by
  have hm := (List.getElem?_eq_some_iff.1 h).1
  unfold colsL
  rw [fnz_drop (a := colAt l most m) (by simp [hm])]
  have e : colAt l most m = if nameB c.name = false then 7 else if hasN (l.take m) c.name = true then 7 else colW c most := by
    unfold colAt
    rw [h]
  rw [e]
  by_cases h1 : nameB c.name = false
  · rw [if_pos h1, if_pos h1]; rfl
  · rw [if_neg h1, if_neg h1]
    by_cases h2 : hasN (l.take m) c.name = true
    · rw [if_pos h2, if_pos h2]; rfl
    · rw [if_neg h2, if_neg h2]
theorem colsL_end (l : List CoT) (most m : Nat) (h : l.length ≤ m) : colsL l most m = 0 := by
  unfold colsL
  rw [List.drop_eq_nil_of_le (by simpa using h)]
  rfl

set_option maxRecDepth 100000 in
set_option maxHeartbeats 8000000 in
theorem wrongColumns_any {B : Nat} (l : List CoT) (v : Value) (many most : Nat) (w : World) (hm : most ≤ 1000) (hB : B ≤ w.heap.size) (hG : GdT B w) (hl : Ls B w 3 (CM B w) l v) :
    Calls Tryz.prog 47 #[v, .int .i64 (many : Int), .int .i64 (most : Int)] w fun e w' => e = .returned (.int .i64 (colsW l many most)) ∧ Below w.heap.size w w' := by
  have hlen := hl.len
  obtain ⟨la, lcap, rfl, hlc, _⟩ := id hl.tell
  obtain ⟨R, hR⟩ : ∃ R, R = colsW l many most := ⟨_, rfl⟩
  rw [← hR]
  have HR : Hid (R = if l.length < 1 ∨ many < l.length then 5 else colsL l most 0) := hide hR
  have HL := hide hl
  have HG := hide hG
  have HBB := hide hB
  clear hR hl hG hB
  by_cases h1 : l.length < 1
  · have g1 : (l.length : Int) < 1 := by omega
    have HE := hide ((unhide HR).trans (if_pos (.inl h1)))
    go_enter Tryz.func47, Tryz.ntmps47
    go_wp2
    go_ret
    rw [unhide HE]
    exact ⟨rfl, Below.refl _ _⟩
  have g1 : ¬ (l.length : Int) < 1 := by omega
  by_cases h2 : many < l.length
  · have g2 : (many : Int) < (l.length : Int) := by omega
    have HE := hide ((unhide HR).trans (if_pos (.inr h2)))
    go_enter Tryz.func47, Tryz.ntmps47
    go_wp2
    go_ret
    rw [unhide HE]
    exact ⟨rfl, Below.refl _ _⟩
  have g2 : ¬ (many : Int) < (l.length : Int) := by omega
  have HE := hide ((unhide HR).trans (if_neg (by omega)))
  have STEP := hide (colsL_at l most)
  have END := hide (colsL_end l most l.length (Nat.le_refl _))
  have H1 := hide h1
  clear HR h1 h2
  go_enter Tryz.func47, Tryz.ntmps47
  go_wp2
  go_loopw [21] (fun i wr => ∃ m : Nat, m ≤ l.length ∧ i = .int .i64 (m : Int) ∧ Hid (R = colsL l most m) ∧ Hid (Below w.heap.size w wr)) (fun i _ => l.length - (intOf i).toNat)
  case atStart => exact ⟨0, Nat.zero_le _, rfl, HE, hide (Below.refl _ _)⟩
  case round =>
    obtain ⟨m, hml, rfl, H, HB⟩ := hrel
    clear HE
    by_cases hlt : m < l.length
    · have hi1 : (m : Int) < (l.length : Int) := by omega
      obtain ⟨u, hu⟩ : ∃ u, l[m]? = some u := ⟨_, List.getElem?_eq_getElem hlt⟩
      obtain ⟨b, off, cap', ev⟩ := (unhide HL).begins (by intro e; subst e; simp at hlt)
      cases ev
      have hbr := (unhide HB).mono (unhide HBB)
      have hLr := (unhide HL).below hbr fun x cs => CM.below hbr
      obtain ⟨o, c0, c1, c2, hord, _⟩ := CM.cells hLr hu
      obtain ⟨oa, ocap, hoe, _⟩ := id hord.tell
      obtain ⟨on, hon⟩ : ∃ on, on = u.ord.length := ⟨_, rfl⟩
      rw [← hon] at hoe
      subst hoe
      clear hon
      have hba := vbelow_new wr (.cells #[.string u.name, .int .i64 u.kind, .slice oa on ocap] 91)
      have hz : B ≤ wr.heap.size := Nat.le_trans (unhide HBB) (unhide HB).size
      obtain ⟨w1, hw1⟩ : ∃ w1, w1 = wr.alloc (.cells #[.string u.name, .int .i64 u.kind, .slice oa on ocap] 91) := ⟨_, rfl⟩
      rw [← hw1] at hba
      have V1 : V3 w1 wr.heap.size (.string u.name) (.int .i64 u.kind) (.slice oa on ocap) := by rw [hw1]; exact V3.new _ _ _ _ _
      have hb1 := hba.mono hz
      have hz1 : B ≤ w1.heap.size := Nat.le_trans hz hba.size
      have hG1 := (((unhide HG).keep hbr).keep hb1)
      have NM : Hid (∀ wx, Below w1.heap.size w1 wx → Calls Tryz.prog 46 #[.string u.name] wx fun e w' => e = .returned (.bool (nameB u.name)) ∧ Below wx.heap.size wx w') := hide (fun wx hb => named_any u.name wx (hG1.lt wx (hb.mono hz1)) (hG1.sg wx (hb.mono hz1)))
      have hcap : m ≤ lcap ∧ lcap ≤ 9223372036854775807 := ⟨by omega, hlc.2⟩
      have HC : Hid (∀ wx, Below w1.heap.size w1 wx → Calls Tryz.prog 62 #[.slice (some ⟨b, off, none⟩) m lcap, .string u.name] wx fun e w' => e = .returned (.bool (hasN (l.take m) u.name)) ∧ Below wx.heap.size wx w') := hide (fun wx hb => by
        have hb' := hb1.trans (hb.mono hz1)
        exact hasCol_any (l.take m) _ u.name wx (Nat.le_trans hz1 hb.size) ((hLr.below hb' fun x cs => CM.below hb').take (Nat.le_of_lt hlt) hcap))
      have WC : Hid (∀ wx, Below w1.heap.size w1 wx → Calls Tryz.prog 63 #[.agg #[.string u.name, .int .i64 u.kind, .slice oa on ocap], .int .i64 (most : Int)] wx fun e w' => e = .returned (.int .i64 (colW u most)) ∧ Below wx.heap.size wx w') := hide (fun wx hb => by
        have hb' := hb1.trans (hb.mono hz1)
        exact wrongColumn_any u _ most wx hm (Nat.le_trans hz1 hb.size) ((hG1.keep (hb.mono hz1)).tb) ⟨_, rfl, hord.below hb' fun x cs => Mem.below hb'⟩)
      have E := (unhide H).trans (unhide STEP m u hu)
      have HV1 := hide V1
      have HB1 := hide (below_via (unhide HB) hba)
      obtain ⟨us, uk, uo⟩ := u
      simp only at c0 c1 c2 V1 NM HC WC E
      obtain ⟨v0, v1, v2⟩ := V1.tell
      generalize nameB us = NB at NM E
      generalize hasN (l.take m) us = HN at HC E
      generalize colW ⟨us, uk, uo⟩ most = CW at WC E
      have HE := hide E
      have hcm : (m : Int) ≤ (lcap : Int) := by omega
      clear hu hbr hLr hba hb1 hG1 V1 E H hord hz hz1
      go_upto_region 6 with fail
      rw [← hw1]
      clear hw1 c0 c1 c2
      cases NB with
      | false =>
        have HE2 := hide ((unhide HE).trans (if_pos rfl))
        clear HE
        go_wp2_with fail
        first
          | go_region_with (first
              | (go_at_call 46
                 (refine (unhide NM _ ?_).mono ?_; · exact (by repeat (first | assumption | exact Below.refl _ _ | apply Below.drew)))
                 rintro e w2 ⟨rfl, hb2⟩
                 replace hb2 : Below w1.heap.size w1 w2 := below_via (by repeat (first | assumption | exact Below.refl _ _ | apply Below.drew)) hb2))
          | fail
        all_goals
          have HB2 := hide (below_via (unhide HB1) hb2)
          clear hb2
          go_wp2
          go_ret
          rw [unhide HE2]
          exact ⟨rfl, by repeat (first | exact unhide HB2 | apply Below.drew)⟩
      | true =>
        have HE1 := hide ((unhide HE).trans (if_neg (by decide)))
        clear HE
        go_wp2_with fail
        first
          | go_region_with (first
              | (go_at_call 46
                 (refine (unhide NM _ ?_).mono ?_; · exact (by repeat (first | assumption | exact Below.refl _ _ | apply Below.drew)))
                 rintro e w2 ⟨rfl, hb2⟩
                 replace hb2 : Below w1.heap.size w1 w2 := below_via (by repeat (first | assumption | exact Below.refl _ _ | apply Below.drew)) hb2
                 obtain ⟨q0, q1, q2⟩ := ((unhide HV1).keep hb2 (unhide HV1).low).tell)
              | (go_at_call 62
                 (refine (unhide HC _ ?_).mono ?_; · exact (by repeat (first | assumption | exact Below.refl _ _ | apply Below.drew)))
                 rintro e w3 ⟨rfl, hb3⟩
                 replace hb3 : Below w1.heap.size w1 w3 := below_via (by repeat (first | assumption | exact Below.refl _ _ | apply Below.drew)) hb3))
          | fail
        all_goals
          have HB3 := hide hb3
          obtain ⟨z0, z1, z2⟩ := ((unhide HV1).keep hb3 (unhide HV1).low).tell
          clear hb3
          cases HN with
          | true =>
            have HE2 := hide ((unhide HE1).trans (if_pos rfl))
            go_wp2
            go_ret
            rw [unhide HE2]
            exact ⟨rfl, below_via (unhide HB1) (by repeat (first | exact unhide HB3 | apply Below.drew))⟩
          | false =>
            have HE2 := hide ((unhide HE1).trans (if_neg (by decide)))
            clear HE1
            go_wp2_with fail
            (refine (unhide WC _ ?_).mono ?_; · exact (by repeat (first | exact unhide HB3 | apply Below.drew)))
            rintro e w4 ⟨rfl, hb4⟩
            have HB4 : Hid (Below w.heap.size w w4) := hide (below_via (below_via (unhide HB1) (by repeat (first | exact unhide HB3 | apply Below.drew))) hb4)
            clear hb4 z0 z1 z2
            by_cases hC : CW = 0
            · subst hC
              have HE3 := hide ((unhide HE2).trans (if_neg (by simp)))
              go_wp2
              go_round
              · exact ⟨m + 1, hlt, rfl, HE3, HB4⟩
              · simp only [intOf]; omega
            · have gC : (CW != 0) = true := by simpa using hC
              have HE3 := hide ((unhide HE2).trans (if_pos hC))
              go_wp2
              go_ret
              rw [unhide HE3]
              exact ⟨rfl, unhide HB4⟩
    · have hi1 : ¬ (m : Int) < (l.length : Int) := by omega
      have hm' : m = l.length := by omega
      have HF : Hid (R = 0) := hide ((unhide H).trans (by rw [hm']; exact unhide END))
      go_wp2
      go_ret
      rw [unhide HF]
      exact ⟨rfl, unhide HB⟩

set_option maxHeartbeats 2000000 in
theorem mostOrdered_any (k : Int) (w : World) : Calls Tryz.prog 48 #[.int .i64 k] w fun e w' => e = .returned (.int .i64 ((if k = 3 then 20 else 0 : Nat) : Int)) ∧ Below w.heap.size w w' := by
  by_cases h : k = 3
  · subst h
    go_enter Tryz.func48, Tryz.ntmps48
    go_wp2
    go_ret
    exact ⟨rfl, Below.refl _ _⟩
  · have g : (k == 3) = false := by simpa using h
    go_enter Tryz.func48, Tryz.ntmps48
    go_wp2
    go_ret
    exact ⟨rfl, Below.refl _ _⟩

set_option maxRecDepth 100000 in
set_option maxHeartbeats 4000000 in
theorem isReckoned_any {B : Nat} (k : Int) (l : List CoT) (v : Value) (w : World) (hl : Ls B w 3 (CM B w) l v) :
    Calls Tryz.prog 49 #[.int .i64 k, v] w fun e w' => e = .returned (.bool (reckB k l)) ∧ Below w.heap.size w w' := by
  obtain ⟨la, lcap, rfl, hlc, _⟩ := id hl.tell
  have hlen := hl.len
  obtain ⟨R, hR⟩ : ∃ R, R = reckB k l := ⟨_, rfl⟩
  rw [← hR]
  by_cases h789 : k = 7 ∨ k = 8 ∨ k = 9
  · have HR : R = (decide (l.length = 1) && decide ((l[0]?).map (·.kind) = some 3)) := hR.trans (if_pos h789)
    clear hR
    by_cases h1 : l.length = 1
    · obtain ⟨c, rfl⟩ : ∃ c, l = [c] := by
        match l, h1 with
        | [c], _ => exact ⟨c, rfl⟩
      obtain ⟨b, off, cap', ev⟩ := hl.begins (by simp)
      cases ev
      obtain ⟨o, c0, c1, c2, _, _⟩ := CM.cells hl (i := 0) (c := c) rfl
      have HE : Hid (R = (c.kind == 3)) := hide (by rw [HR]; simp; by_cases q : c.kind = 3 <;> simp [q])
      simp only [Nat.zero_mul, Nat.add_zero] at c0 c1 c2
      simp only [List.length_singleton] at hlc ⊢
      clear HR hl
      generalize c.kind = ck at *
      rcases h789 with rfl | rfl | rfl
      all_goals
        go_enter Tryz.func49, Tryz.ntmps49
        go_wp2
        go_ret
        rw [unhide HE]
        exact ⟨rfl, Below.refl _ _⟩
    · have HE : Hid (R = false) := hide (by rw [HR]; simp [h1])
      have g1 : ((l.length : Int) == 1) = false := by simp; omega
      clear HR hl h1
      rcases h789 with rfl | rfl | rfl
      all_goals
        go_enter Tryz.func49, Tryz.ntmps49
        go_wp2
        go_ret
        rw [unhide HE]
        exact ⟨rfl, Below.refl _ _⟩
  · have HR : R = if k = 10 then decide (l.length = 1) else true := hR.trans (if_neg h789)
    clear hR hl
    have g7 : (k == 7) = false := by simp; omega
    have g8 : (k == 8) = false := by simp; omega
    have g9 : (k == 9) = false := by simp; omega
    by_cases h10 : k = 10
    · subst h10
      have HE : Hid (R = ((l.length : Int) == 1)) := hide (by rw [HR, if_pos rfl]; by_cases q : l.length = 1 <;> simp [q]; omega)
      clear HR
      go_enter Tryz.func49, Tryz.ntmps49
      go_wp2
      go_ret
      rw [unhide HE]
      exact ⟨rfl, Below.refl _ _⟩
    · have g10 : (k == 10) = false := by simpa using h10
      have HE : Hid (R = true) := hide (by rw [HR, if_neg h10])
      clear HR
      go_enter Tryz.func49, Tryz.ntmps49
      go_wp2
      go_ret
      rw [unhide HE]
      exact ⟨rfl, Below.refl _ _⟩
end Go.Proofs.YtnegjbkbfgkkjaaGreatDoor

/- Walks: what is wrong with a table's head. -/
namespace Go.Proofs.YtnegjbkbfgkkjaaGreatDoor
open Go.RowKit Go.MapKept

/-- five cells in a block -/
structure V5 (w : World) (b : Nat) (v0 v1 v2 v3 v4 : Value) : Prop where
  low : b < w.heap.size
  tell : w.cell? ⟨b, 0, none⟩ = some v0 ∧ w.cell? ⟨b, 1, none⟩ = some v1 ∧ w.cell? ⟨b, 2, none⟩ = some v2 ∧ w.cell? ⟨b, 3, none⟩ = some v3 ∧ w.cell? ⟨b, 4, none⟩ = some v4
theorem V5.keep {w w' : World} {b : Nat} {v0 v1 v2 v3 v4 : Value} (h : V5 w b v0 v1 v2 v3 v4) {B : Nat} (hb : Below B w w') (l : b < B) : V5 w' b v0 v1 v2 v3 v4 := by
  have c : ∀ o, w'.cell? ⟨b, o, none⟩ = w.cell? ⟨b, o, none⟩ := fun o => hb.cell (p := ⟨b, o, none⟩) l
  refine ⟨Nat.lt_of_lt_of_le h.low hb.size, ?_⟩
  simp only [c]
  exact h.tell
theorem V5.new (w : World) (t : TypeId) (v0 v1 v2 v3 v4 : Value) : V5 (w.alloc (.cells #[v0, v1, v2, v3, v4] t)) w.heap.size v0 v1 v2 v3 v4 := ⟨by simp, by go_simp, by go_simp, by go_simp, by go_simp, by go_simp⟩
def mostO (p : Int) : Nat := if p = 3 then 20 else 0
theorem mostO_le (p : Int) : mostO p ≤ 1000 := by unfold mostO; split <;> omega

set_option maxRecDepth 100000 in
set_option maxHeartbeats 8000000 in
theorem wrongHead_any {B : Nat} (t : TbT) (cs : Array Value) (w : World) (hB : B ≤ w.heap.size) (hG : GdT B w) (ht : TbM B w t cs) :
    Calls Tryz.prog 27 #[.agg cs] w fun e w' => e = .returned (.int .i64 (headW t)) ∧ Below w.heap.size w w' := by
  obtain ⟨iv, ov, rv, rfl, hi, ho, hr⟩ := ht
  obtain ⟨s, p, ins, outs, rules⟩ := t
  simp only at hi ho hr ⊢
  obtain ⟨ia, icap, hie, _⟩ := id hi.tell
  obtain ⟨oa, ocap, hoe, _⟩ := id ho.tell
  obtain ⟨ra, rcap, hre, _⟩ := id hr.tell
  obtain ⟨ni, hni⟩ : ∃ n, n = ins.length := ⟨_, rfl⟩
  obtain ⟨no, hno⟩ : ∃ n, n = outs.length := ⟨_, rfl⟩
  obtain ⟨nr, hnr⟩ : ∃ n, n = rules.length := ⟨_, rfl⟩
  rw [← hni] at hie
  rw [← hno] at hoe
  rw [← hnr] at hre
  subst hie hoe hre
  obtain ⟨w0, hw0⟩ : ∃ w0, w0 = w.alloc (.cells #[.string s, .int .i64 p, .slice ia ni icap, .slice oa no ocap, .slice ra nr rcap] 34) := ⟨_, rfl⟩
  have B0 : Below w.heap.size w w0 := by rw [hw0]; exact vbelow_new _ _
  have V0 : V5 w0 w.heap.size (.string s) (.int .i64 p) (.slice ia ni icap) (.slice oa no ocap) (.slice ra nr rcap) := by rw [hw0]; exact V5.new _ _ _ _ _ _ _
  have hb0 := B0.mono hB
  have hz0 : B ≤ w0.heap.size := Nat.le_trans hB B0.size
  have hG0 := hG.keep hb0
  have NM : Hid (∀ wx, Below w0.heap.size w0 wx → Calls Tryz.prog 46 #[.string s] wx fun e w' => e = .returned (.bool (nameB s)) ∧ Below wx.heap.size wx w') := hide (fun wx hb => named_any s wx (hG0.lt wx (hb.mono hz0)) (hG0.sg wx (hb.mono hz0)))
  have WI : Hid (∀ wx, Below w0.heap.size w0 wx → Calls Tryz.prog 47 #[.slice ia ni icap, .int .i64 3, .int .i64 0] wx fun e w' => e = .returned (.int .i64 (colsW ins 3 0)) ∧ Below wx.heap.size wx w') := hide (fun wx hb => by
    have hb' := hb0.trans (hb.mono hz0)
    exact wrongColumns_any ins _ 3 0 wx (by omega) (Nat.le_trans hz0 hb.size) (hG.keep hb') (hi.below hb' fun x cs => CM.below hb'))
  have WO : Hid (∀ wx, Below w0.heap.size w0 wx → Calls Tryz.prog 47 #[.slice oa no ocap, .int .i64 3, .int .i64 (mostO p : Int)] wx fun e w' => e = .returned (.int .i64 (colsW outs 3 (mostO p))) ∧ Below wx.heap.size wx w') := hide (fun wx hb => by
    have hb' := hb0.trans (hb.mono hz0)
    exact wrongColumns_any outs _ 3 (mostO p) wx (mostO_le p) (Nat.le_trans hz0 hb.size) (hG.keep hb') (ho.below hb' fun x cs => CM.below hb'))
  have MO : Hid (∀ wx, Calls Tryz.prog 48 #[.int .i64 p] wx fun e w' => e = .returned (.int .i64 (mostO p : Int)) ∧ Below wx.heap.size wx w') := hide (fun wx => mostOrdered_any p wx)
  have RB : Hid (∀ wx, Below w0.heap.size w0 wx → Calls Tryz.prog 49 #[.int .i64 p, .slice oa no ocap] wx fun e w' => e = .returned (.bool (reckB p outs)) ∧ Below wx.heap.size wx w') := hide (fun wx hb => by
    have hb' := hb0.trans (hb.mono hz0)
    exact isReckoned_any p outs _ wx (ho.below hb' fun x cs => CM.below hb'))
  obtain ⟨R, hR⟩ : ∃ R, R = headW ⟨s, p, ins, outs, rules⟩ := ⟨_, rfl⟩
  rw [← hR]
  have HR : Hid (R = if nameB s = false then 7 else if p < 1 ∨ 10 < p then 1 else if colsW ins 3 0 ≠ 0 then colsW ins 3 0 else if colsW outs 3 (mostO p) ≠ 0 then colsW outs 3 (mostO p) else if reckB p outs = false then 8 else 0) := hide hR
  clear hR hi ho hr hni hno hnr hG hG0 hb0 hz0
  generalize nameB s = NB at NM HR
  generalize colsW ins 3 0 = CI at WI HR
  generalize colsW outs 3 (mostO p) = CO at WO HR
  generalize reckB p outs = RK at RB HR
  generalize mostO p = MP at WO MO
  have HB0 := hide B0
  have HV0 := hide V0
  obtain ⟨v0, v1, v2, v3, v4⟩ := V0.tell
  clear B0 V0
  go_enter Tryz.func27, Tryz.ntmps27
  go_upto_region 1 with fail
  rw [← hw0]
  clear hw0
  go_wp2_with fail
  refine (unhide NM _ (Below.refl _ _)).mono ?_
  rintro e w1 ⟨rfl, hb1⟩
  have HB1 := hide hb1
  obtain ⟨a0, a1, a2, a3, a4⟩ := ((unhide HV0).keep hb1 (unhide HV0).low).tell
  clear hb1 v0 v1 v2 v3 v4 NM
  cases NB with
  | false =>
    have HE := hide ((unhide HR).trans (if_pos rfl))
    go_wp2
    go_ret
    rw [unhide HE]
    exact ⟨rfl, below_via (unhide HB0) (unhide HB1)⟩
  | true =>
    have HE := hide ((unhide HR).trans (if_neg (by decide)))
    clear HR
    by_cases hp : p < 1 ∨ 10 < p
    case pos =>
      have HE2 := hide ((unhide HE).trans (if_pos hp))
      by_cases h1 : p < 1
      · go_wp2
        go_ret
        rw [unhide HE2]
        exact ⟨rfl, below_via (unhide HB0) (unhide HB1)⟩
      · have h2 : 10 < p := by omega
        go_wp2
        go_ret
        rw [unhide HE2]
        exact ⟨rfl, below_via (unhide HB0) (unhide HB1)⟩
    case neg =>
      have HE2 := hide ((unhide HE).trans (if_neg hp))
      have h1 : ¬ p < 1 := by omega
      have h2 : ¬ 10 < p := by omega
      clear HE hp
      go_wp2_with fail
      refine (unhide WI _ (unhide HB1)).mono ?_
      rintro e w2 ⟨rfl, hb2⟩
      have HB2 := hide (below_via (unhide HB1) hb2)
      obtain ⟨b0, b1, b2, b3, b4⟩ := ((unhide HV0).keep (unhide HB2) (unhide HV0).low).tell
      clear hb2 WI a0 a1 a2 a3 a4 HB1
      by_cases hI : CI = 0
      case neg =>
        have gI : (CI != 0) = true := by simpa using hI
        have HE3 := hide ((unhide HE2).trans (if_pos hI))
        go_wp2
        go_ret
        rw [unhide HE3]
        exact ⟨rfl, below_via (unhide HB0) (unhide HB2)⟩
      case pos =>
        have HE3 := hide ((unhide HE2).trans (if_neg (by simpa using hI)))
        subst hI
        clear HE2
        go_wp2_with fail
        go_region_with (first
          | (go_at_call 48
             refine (unhide MO _).mono ?_
             rintro e w3 ⟨rfl, hb3⟩
             replace hb3 : Below w0.heap.size w0 w3 := below_via (unhide HB2) (below_via (by repeat (first | assumption | exact Below.refl _ _ | apply Below.drew)) hb3)
             obtain ⟨c0, c1, c2, c3, c4⟩ := ((unhide HV0).keep hb3 (unhide HV0).low).tell)
          | (go_at_call 47
             (refine (unhide WO _ ?_).mono ?_; · exact (by repeat (first | assumption | exact Below.refl _ _ | apply Below.drew)))
             rintro e w4 ⟨rfl, hb4⟩
             replace hb4 : Below w0.heap.size w0 w4 := below_via (by repeat (first | assumption | exact Below.refl _ _ | apply Below.drew)) hb4))
        all_goals
          have HB4 := hide hb4
          obtain ⟨d0, d1, d2, d3, d4⟩ := ((unhide HV0).keep hb4 (unhide HV0).low).tell
          clear hb4
          by_cases hO : CO = 0
          case neg =>
            have gO : (CO != 0) = true := by simpa using hO
            have HE4 := hide ((unhide HE3).trans (if_pos hO))
            go_wp2
            go_ret
            rw [unhide HE4]
            exact ⟨rfl, below_via (unhide HB0) (by repeat (first | exact unhide HB4 | apply Below.drew))⟩
          case pos =>
            have HE4 := hide ((unhide HE3).trans (if_neg (by simpa using hO)))
            subst hO
            go_wp2_with fail
            (refine (unhide RB _ ?_).mono ?_; · exact (by repeat (first | exact unhide HB4 | apply Below.drew)))
            rintro e w5 ⟨rfl, hb5⟩
            have HB5 : Hid (Below w.heap.size w w5) := hide (below_via (below_via (unhide HB0) (by repeat (first | exact unhide HB4 | apply Below.drew))) hb5)
            clear hb5
            cases RK with
            | false =>
              have HE5 := hide ((unhide HE4).trans (if_pos rfl))
              go_wp2
              go_ret
              rw [unhide HE5]
              exact ⟨rfl, unhide HB5⟩
            | true =>
              have HE5 := hide ((unhide HE4).trans (if_neg (by decide)))
              go_wp2
              go_ret
              rw [unhide HE5]
              exact ⟨rfl, unhide HB5⟩
end Go.Proofs.YtnegjbkbfgkkjaaGreatDoor

/- Walks: what is wrong with a test of a rule, with what a rule says. -/
namespace Go.Proofs.YtnegjbkbfgkkjaaGreatDoor
open Go.RowKit Go.MapKept

theorem tpF_ok {x : XT} {l : List (ByteArray × TT)} (h : (tpF x l).1 = 0) : (tpF x l).2.n ≤ 2000 ∧ (tpF x l).2.k ≠ 5 := by
  unfold tpF at *
  by_cases h0 : waF x l = 0
  · rw [if_neg (by simpa using h0)] at h ⊢
    obtain ⟨⟨hxo, hxs⟩, hl50, hwr, hvo⟩ := waF_right h0
    have hE : (envOf (spv l)).kk := envA_kk (spv l) _ (fun s a h => by cases h) (fun v hv => by have := (hvo v hv).2; omega)
    have hD : (envOf (spv l)).bd 9 := envA_bd (M := 9) (spv l) (fun _ => none) (fun s a h => by cases h) (fun v hv => (hvo v hv).1)
    have := tyF_bd x _ 9 hD
    exact ⟨by omega, tyF_kk x _ hE⟩
  · rw [if_pos h0] at h
    exact absurd h h0

set_option maxRecDepth 100000 in
set_option maxHeartbeats 8000000 in
theorem wrongTest_any {B : Nat} (T : TS) (q : Array Value) (k : Int) (w : World) (hB : B ≤ w.heap.size) (hT : TabsIn B w) (hM : MemS B w T q) :
    Calls Tryz.prog 51 #[.agg q, .agg #[.int .i64 k, .slice none 0 0]] w fun e w' => e = .returned (.int .i64 (testW T k)) ∧ Below w.heap.size w w' := by
  have C := hide (fun wx (hb : Below w.heap.size w wx) => trWrong_any T q B wx (Nat.le_trans hB hb.size) (MemS.below (hb.mono hB) hM) (hT.below (hb.mono hB)))
  have F := hide (fun (hw : wrongS T 1 = 0) wx (hb : Below w.heap.size w wx) => trFits_any T q k (.slice none 0 0) B wx (Nat.le_trans hB hb.size) (MemS.below (hb.mono hB) hM) (hT.below (hb.mono hB)) hw)
  have HW : Hid (testW T k = if wrongS T 1 ≠ 0 then wrongS T 1 else if fitsS T k = false then 9 else 0) := hide rfl
  generalize testW T k = R at *
  generalize wrongS T 1 = X at *
  generalize fitsS T k = Y at *
  obtain ⟨tk, a, b, oa, ob, ks⟩ := T
  rw [MemS] at hM
  obtain ⟨_, a0, a1, a2, a3, a4, a5, b0, b1, b2, b3, b4, b5, ad, cap, _, _, rfl, _⟩ := hM
  obtain ⟨w0, hw0⟩ : ∃ w0, w0 = (w.alloc (.cells #[.int .i64 tk, a0, a1, a2, a3, a4, a5, b0, b1, b2, b3, b4, b5, .bool oa, .bool ob, .slice ad ks.length cap] 83)).alloc (.cells #[.int .i64 k, .slice none 0 0] 114) := ⟨_, rfl⟩
  have B0 : Below w.heap.size w w0 := by rw [hw0]; exact below_via (vbelow_new _ _) (vbelow_new _ _)
  have X0 : B16 w0 w.heap.size #[.int .i64 tk, a0, a1, a2, a3, a4, a5, b0, b1, b2, b3, b4, b5, .bool oa, .bool ob, .slice ad ks.length cap] := by rw [hw0]; exact B16.new.over
  have Y0 : Bx2 w0 (w.heap.size + 1) (.int .i64 k) (.slice none 0 0) := by
    rw [hw0]
    have := Bx2.new (w.alloc (.cells #[.int .i64 tk, a0, a1, a2, a3, a4, a5, b0, b1, b2, b3, b4, b5, .bool oa, .bool ob, .slice ad ks.length cap] 83)) 114 (.int .i64 k) (.slice none 0 0)
    simpa using this
  have HB0 := hide B0
  have HX0 := hide X0
  have HY0 := hide Y0
  obtain ⟨x0, x1, x2, x3, x4, x5, x6, x7, x8, x9, x10, x11, x12, x13, x14, x15⟩ := X0.tell
  clear hT B0 X0 Y0
  go_enter Tryz.func51, Tryz.ntmps51
  go_upto_region 1 with fail
  rw [← hw0]
  clear hw0
  go_wp2_with fail
  refine (unhide C _ (unhide HB0)).mono ?_
  rintro e w1 ⟨rfl, hb1⟩
  have HB1 := hide (below_via (unhide HB0) hb1)
  obtain ⟨y0, y1, y2, y3, y4, y5, y6, y7, y8, y9, y10, y11, y12, y13, y14, y15⟩ := ((unhide HX0).keep hb1 (unhide HX0).low).tell
  have z0 := ((unhide HY0).keep hb1 (unhide HY0).low).at0
  have z1 := ((unhide HY0).keep hb1 (unhide HY0).low).at1
  clear hb1 x0 x1 x2 x3 x4 x5 x6 x7 x8 x9 x10 x11 x12 x13 x14 x15 C HX0 HY0 HB0
  by_cases hX : X = 0
  case neg =>
    have gX : (X != 0) = true := by simpa using hX
    have HE := hide ((unhide HW).trans (if_pos hX))
    go_wp2
    go_ret
    rw [unhide HE]
    exact ⟨rfl, unhide HB1⟩
  case pos =>
    have FF := hide (unhide F hX)
    have HE := hide ((unhide HW).trans (if_neg (by simpa using hX)))
    subst hX
    clear F HW
    go_wp2_with fail
    refine (unhide FF _ (unhide HB1)).mono ?_
    rintro e w2 ⟨rfl, hb2⟩
    have HB2 := hide (below_via (unhide HB1) hb2)
    clear hb2 FF HB1 y0 y1 y2 y3 y4 y5 y6 y7 y8 y9 y10 y11 y12 y13 y14 y15 z0 z1
    cases Y with
    | false =>
      have HE2 := hide ((unhide HE).trans (if_pos rfl))
      go_wp2
      go_ret
      rw [unhide HE2]
      exact ⟨rfl, unhide HB2⟩
    | true =>
      have HE2 := hide ((unhide HE).trans (if_neg (by decide)))
      go_wp2
      go_ret
      rw [unhide HE2]
      exact ⟨rfl, unhide HB2⟩
end Go.Proofs.YtnegjbkbfgkkjaaGreatDoor

/- Walks: what is wrong with what a rule says. -/
namespace Go.Proofs.YtnegjbkbfgkkjaaGreatDoor
open Go.RowKit Go.MapKept

set_option maxRecDepth 100000 in
set_option maxHeartbeats 8000000 in
theorem wrongOut_any {B : Nat} (x : XT) (cs : Array Value) (l : List (ByteArray × TT)) (vv : Value) (k : Int) (w : World) (hB : B ≤ w.heap.size) (hk5 : k ≠ 5) (hG : GdT B w) (hx : XMem B w x cs) (hv : VS w.heap.size w vv l) :
    Calls Tryz.prog 52 #[.agg cs, vv, .agg #[.int .i64 k, .slice none 0 0]] w fun e w' => e = .returned (.int .i64 (outW x l k)) ∧ Below w.heap.size w w' := by
  obtain ⟨xk, vk, vy, vc, vx, vt, va, vn, vp, xs, xa, xn, xp, rfl⟩ := hx.form
  obtain ⟨w0, hw0⟩ : ∃ w0, w0 = (w.alloc (.cells #[.int .i64 xk, .int .i64 vk, .bool vy, .int .i64 vc, .int .i64 vx, .string vt, .slice va vn vp, .string xs, .slice xa xn xp] 86)).alloc (.cells #[.int .i64 k, .slice none 0 0] 114) := ⟨_, rfl⟩
  have B0 : Below w.heap.size w w0 := by rw [hw0]; exact below_via (vbelow_new _ _) (vbelow_new _ _)
  have X0 : V9 w0 w.heap.size (.int .i64 xk) (.int .i64 vk) (.bool vy) (.int .i64 vc) (.int .i64 vx) (.string vt) (.slice va vn vp) (.string xs) (.slice xa xn xp) := by
    rw [hw0]; exact (V9.new w 86 _ _ _ _ _ _ _ _ _).keep (vbelow_new _ _) (by simp)
  have Y0 : Bx2 w0 (w.heap.size + 1) (.int .i64 k) (.slice none 0 0) := by
    rw [hw0]
    have := Bx2.new (w.alloc (.cells #[.int .i64 xk, .int .i64 vk, .bool vy, .int .i64 vc, .int .i64 vx, .string vt, .slice va vn vp, .string xs, .slice xa xn xp] 86)) 114 (.int .i64 k) (.slice none 0 0)
    simpa using this
  have hz0 : B ≤ w0.heap.size := Nat.le_trans hB B0.size
  have C := hide (type_any x _ l vv w0 (XMem.mono hz0 (XMem.below (B0.mono hB) hx)) ((hv.below B0).mono B0.size) (hG.up (B0.mono hB) hz0))
  have OK := hide (fun h => tpF_ok (x := x) (l := l) h)
  have HW : Hid (outW x l k = if (tpF x l).1 ≠ 0 then (tpF x l).1 else if decide ((tpF x l).2.Fits ⟨0, k⟩) = false then 9 else 0) := hide rfl
  generalize outW x l k = R at *
  generalize tpF x l = r at *
  obtain ⟨r1, r2⟩ := r
  simp only at HW
  have HB0 := hide B0
  have HX0 := hide X0
  have HY0 := hide Y0
  obtain ⟨va', vcap', hvv⟩ : ∃ a cap, vv = .slice a l.length cap := by obtain ⟨_, a, cap, h, _⟩ := hv; exact ⟨a, cap, h⟩
  subst hvv
  obtain ⟨u0, u1, u2, u3, u4, u5, u6, u7, u8⟩ := X0.tell
  clear B0 X0 Y0 hx hv hG
  go_enter Tryz.func52, Tryz.ntmps52
  go_upto_region 1 with fail
  rw [← hw0]
  clear hw0
  go_wp2_with fail
  refine (unhide C).mono ?_
  rintro e w1 ⟨tk, ta, tn, tcap, rfl, hM, hb1⟩
  simp only at hM ⊢
  obtain ⟨w2, hw2⟩ : ∃ w2, w2 = w1.alloc (.cells #[.int .i64 tk, .slice ta tn tcap] 114) := ⟨_, rfl⟩
  have B2 : Below w1.heap.size w1 w2 := by rw [hw2]; exact vbelow_new _ _
  have T2 : Bx2 w2 w1.heap.size (.int .i64 tk) (.slice ta tn tcap) := by rw [hw2]; exact Bx2.new _ _ _ _
  have HB2 := hide (below_via (unhide HB0) (below_via hb1 B2))
  have Y2 := (unhide HY0).keep (below_via hb1 B2) (unhide HY0).low
  have HM : Hid (r1 = 0 → MemT w2.heap.size w2 (rt r2) #[.int .i64 tk, .slice ta tn tcap]) := hide (fun h => (hM h).keep fun b hb => ⟨Nat.lt_of_lt_of_le hb.2 B2.size, fun o => B2.cell (p := ⟨b, o, none⟩) hb.2⟩)
  have t0 := T2.at0
  have t1 := T2.at1
  have y0 := Y2.at0
  have y1 := Y2.at1
  clear hM hb1 B2 T2 Y2 C u0 u1 u2 u3 u4 u5 u6 u7 u8
  by_cases hr : r1 = 0
  case neg =>
    have gr : (r1 != 0) = true := by simpa using hr
    have HE := hide ((unhide HW).trans (if_pos hr))
    go_upto_region 2 with fail
    rw [← hw2]
    clear hw2
    go_wp2
    go_ret
    rw [unhide HE]
    exact ⟨rfl, unhide HB2⟩
  case pos =>
    have HE := hide ((unhide HW).trans (if_neg (by simpa using hr)))
    obtain ⟨o1, o2⟩ := unhide OK hr
    have F := hide (tFits_any r2 ⟨0, k⟩ _ _ w2 (by omega) (Nat.zero_le _) o2 hk5 (unhide HM hr) (MemTP.mkLeaf _ _ _ none 0))
    subst hr
    clear HW OK HM
    go_upto_region 2 with fail
    rw [← hw2]
    clear hw2
    go_wp2_with fail
    refine (unhide F).mono ?_
    rintro e w3 ⟨rfl, hb3⟩
    have HB3 := hide (below_via (unhide HB2) hb3)
    unfold fit
    generalize decide (r2.Fits ⟨0, k⟩) = Q at HE ⊢
    clear hb3 F
    cases Q with
    | false =>
      have HE2 := hide ((unhide HE).trans (if_pos rfl))
      go_wp2
      go_ret
      rw [unhide HE2]
      exact ⟨rfl, unhide HB3⟩
    | true =>
      have HE2 := hide ((unhide HE).trans (if_neg (by decide)))
      go_wp2
      go_ret
      rw [unhide HE2]
      exact ⟨rfl, unhide HB3⟩
end Go.Proofs.YtnegjbkbfgkkjaaGreatDoor

/- Rows of structs that a slice owns. -/
namespace Go.Proofs.YtnegjbkbfgkkjaaGreatDoor
open Go.RowKit Go.MapKept

theorem own_keepT {B : Nat} {w w' : World} {e : TypeId} {k n : Nat} {v : Value} {xs : List Value} (h : w.ownsRow B e k v n xs) (hb : Below w.heap.size w w') : w'.ownsRow B e k v n xs := by
  obtain ⟨h1, h2⟩ := h
  refine ⟨h1, ?_⟩
  rcases h2 with h2 | ⟨g, cap, cur, hv, hg, hh, r⟩
  · exact .inl h2
  · exact .inr ⟨g, cap, cur, hv, hg, (hb.block g (Array.getElem?_eq_some_iff.1 hh).1).trans hh, r⟩
theorem own_lowT {B : Nat} {w : World} {e : TypeId} {k n : Nat} {v : Value} {xs : List Value} (h : w.ownsRow B e k v n xs) : ∀ g, v.ownBlock = some g → B ≤ g := by
  intro g hg
  rcases h.2 with ⟨rfl, _⟩ | ⟨g', cap, cur, rfl, hB, _⟩
  · simp [Value.ownBlock] at hg
  · simp [Value.ownBlock] at hg; omega
theorem step_own_app {P : Program} {ops : Array Oper} {o : Oper} {a : Act} {w : World} {K : Act → World → Prop} {Q : Exit → Act → World → Prop} {E : Prop}
    (hg : o.guard = none) (s x : Operand) (t : TypeId) (ho : o.op = Op.call { callee := Callee.builtin Builtin.append, args := #[s, x], argTypes := #[t, t] })
    (base : Nat) (e : TypeId) (i : TypeInfo) (z : Value) (size bytes : Nat) (ht : P.underlying t = some (.slice e)) (hi : P.info? e = some i) (hz : i.zero = some z)
    (hsize : i.size = size) (hby : i.bytes = bytes) (hzs : z.cells.size = size) (hsz : 0 < size)
    (v : Value) (n : Nat) (xs : List Value) (hs : a.eval s = v) (hown : w.ownsRow base e size v n xs)
    (ad : Addr) (m c : Nat) (news : List Value) (hx : a.eval x = .slice (some ad) m c) (hl : news.length = m * size) (hnews : ∀ j u, news[j]? = some u → w.cell? (ad.add j) = some u) (h1 : ∀ u ∈ news, u.oneCell' = true)
    (h63 : n + m ≤ maxLen) (hbytes : (n + m) * bytes ≤ 140737488355328) (hbase : base ≤ w.heap.size)
    (hK : ∀ v' w', w'.ownsRow base e size v' (n + m) (xs ++ news) → w.grownBy w' v.ownBlock → (v'.ownBlock = v.ownBlock ∨ v'.ownBlock = some w.heap.size) → K (a.put o.dst v') w') :
    if Region.wanted o (yielded ops a.tmps) = true then Oper.wp P o a w K Q else E := by
  have hw : Region.wanted o (yielded ops a.tmps) = true := by simp [Region.wanted, hg]
  rw [if_pos hw]
  obtain ⟨v', w', hr, h2, h3, _, h5⟩ := run_append_own_at (P := P) w base t o.type e i z size bytes ht hi hz hsize hby hzs hsz v n xs hown ad m c news hl hnews h1 h63 hbytes hbase
  unfold Oper.wp execOp
  simp only [ho, resolve, invoke, builtin, Sem.run_bind, Sem.run_pure, Result.andThen_ok, List.map_toArray, List.map_cons, List.map_nil, hs, hx, hr]
  exact hK v' w' h2 h3 h5
/-- a row of elements in a new block -/
theorem cells_new (W : World) (t : TypeId) (cs : List Value) : ∀ j u, cs[j]? = some u → (W.alloc (.cells cs.toArray t)).cell? ((⟨W.heap.size, 0, none⟩ : Addr).add j) = some u := by
  intro j u h
  rw [Lib.add_plain]
  simp [go_sem, h]
/-- the elements' cells, one behind the other -/
theorem flat_at {α : Type} {enc : α → List Value} {k : Nat} (hk : ∀ x, (enc x).length = k) : ∀ (l : List α) (i : Nat) (x : α), l[i]? = some x → ∀ j v, (enc x)[j]? = some v → (l.flatMap enc)[i * k + j]? = some v
  | [], i, x, h, _, _, _ => by simp at h
  | a :: l, 0, x, h, j, v, hv => by
    simp only [List.getElem?_cons_zero, Option.some.injEq] at h
    subst h
    have hj : j < (enc a).length := (List.getElem?_eq_some_iff.1 hv).1
    rw [List.flatMap_cons, List.getElem?_append_left (by omega)]
    simpa using hv
  | a :: l, i + 1, x, h, j, v, hv => by
    have e : (i + 1) * k + j - (enc a).length = i * k + j := by rw [hk, Nat.add_mul]; omega
    rw [List.flatMap_cons, List.getElem?_append_right (by rw [hk, Nat.add_mul]; omega), e]
    exact flat_at hk l i x (by simpa using h) j v hv
/-- what is read of such a row -/
theorem own_read {α : Type} {enc : α → List Value} {B k : Nat} {w : World} {e : TypeId} {v : Value} {l : List α} (hk : ∀ x, (enc x).length = k) (h : w.ownsRow B e k v l.length (l.flatMap enc)) :
    ∃ a cap, v = .slice a l.length cap ∧ (l.length ≤ cap ∧ cap ≤ 9223372036854775807) ∧ (l ≠ [] → ∃ g, a = some ⟨g, 0, none⟩ ∧ B ≤ g ∧ g < w.heap.size ∧ ∀ i x, l[i]? = some x → ∀ j u, (enc x)[j]? = some u → w.cell? ⟨g, i * k + j, none⟩ = some u) := by
  rcases h.2 with ⟨h1, h0⟩ | ⟨g, cap, cur, hv, hg, hh, h1, h2, h3, h4⟩
  · exact ⟨none, 0, by rw [h1, h0], ⟨by omega, by omega⟩, fun hne => absurd (List.length_eq_zero_iff.1 h0) hne⟩
  · refine ⟨_, cap, hv, ⟨h1, by unfold maxLen at h2; omega⟩, fun _ => ⟨g, rfl, hg, (Array.getElem?_eq_some_iff.1 hh).1, fun i x hi j u hu => ?_⟩⟩
    have hx := flat_at hk l i x hi j u hu
    rw [← h4, List.getElem?_take] at hx
    split at hx
    · simp [World.cell?, hh]
      simpa using hx
    · cases hx
end Go.Proofs.YtnegjbkbfgkkjaaGreatDoor
