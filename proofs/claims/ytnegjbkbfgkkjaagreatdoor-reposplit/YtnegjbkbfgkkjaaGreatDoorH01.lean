/- The law RepoSplit. -/
import Derived.Test.YtnegjbkbfgkkjaaGreatDoorG45
import Derived.Deep.Cut
namespace Go.Proofs.YtnegjbkbfgkkjaaGreatDoor
open Go.RowKit Go.MapKept

theorem ls_dropN {α : Type} {B : Nat} {w : World} {k : Nat} {R : α → Array Value → Prop} {l : List α} {c m : Nat} (h : Ls B w k R l (.slice none l.length c)) (hm : m ≤ l.length) : Ls B w k R (l.drop m) (.slice none (l.length - m) (c - m)) := by
  obtain ⟨a', c', e, hc, hk⟩ := h.tell
  simp at e
  obtain ⟨rfl, rfl⟩ := e
  have hl : (l.drop m).length = l.length - m := by rw [List.length_drop]
  refine ⟨by have := h.len; omega, none, c - m, by rw [hl], by omega, fun hne => ?_⟩
  obtain ⟨b, off, ea, _⟩ := hk (fun e => hne (by rw [e]; simp))
  cases ea
theorem ls_dropZ {α : Type} {B : Nat} {w : World} {k : Nat} {R : α → Array Value → Prop} {l : List α} {ad : Addr} {c m : Nat} (h : Ls B w k R l (.slice (some ad) l.length c)) (hm : m ≤ l.length) (hc : c = m) : Ls B w k R (l.drop m) (.slice (some ad) (l.length - m) 0) := by
  obtain ⟨a', c', e, hc', _⟩ := h.tell
  simp at e
  obtain ⟨_, rfl⟩ := e
  have hl : (l.drop m).length = l.length - m := by rw [List.length_drop]
  refine ⟨by have := h.len; omega, some ad, 0, by rw [hl], by omega, fun hne => ?_⟩
  exact absurd (List.length_eq_zero_iff.1 (by omega)) hne
theorem ls_dropS {α : Type} {B : Nat} {w : World} {k : Nat} {R : α → Array Value → Prop} {l : List α} {ad : Addr} {c m : Nat} (h : Ls B w k R l (.slice (some ad) l.length c)) (hm : m ≤ l.length) : Ls B w k R (l.drop m) (.slice (some (ad.add (m * k))) (l.length - m) (c - m)) := by
  obtain ⟨a', c', e, hc', hk⟩ := h.tell
  simp at e
  obtain ⟨rfl, rfl⟩ := e
  have hl : (l.drop m).length = l.length - m := by rw [List.length_drop]
  refine ⟨by have := h.len; omega, _, c - m, by rw [hl], by omega, fun hne => ?_⟩
  obtain ⟨b, off, ea, hb, hx⟩ := hk (fun e => hne (by rw [e]; simp))
  simp at ea
  subst ea
  refine ⟨b, off + m * k, by rw [Addr.add_lit], hb, fun i x hi => ?_⟩
  rw [List.getElem?_drop] at hi
  obtain ⟨cs, h1, h2, h3⟩ := hx _ x hi
  refine ⟨cs, h1, h2, fun j u hu => ?_⟩
  have := h3 j u hu
  rw [Nat.add_mul] at this
  rw [show off + m * k + i * k + j = off + (m * k + i * k) + j by omega]
  exact this
/-- so far: those behind the first k, one by one -/
structure SpL (B L b5 : Nat) (w : World) (l : List CmT) (m : Nat) (sv : Value) (wr : World) : Prop where
  box : ∃ ev tv, Blk wr b5 27 #[ev, tv, .int .i64 (runN (l.take m)).1.applied] ∧ RW12 B L wr (runN (l.take m)).1 ev tv
  own : wr.ownsRow L 39 2 sv m ((runN (l.take m)).2.flatMap repC)
  ne : ∀ b, sv.ownBlock = some b → b ≠ b5
  bel : Below L w wr
theorem OutP.set5b (w : World) (g q : Nat) (a b c d e : Value) : OutP (fun k => k = g ∨ k = q) w (((((w.setCell ⟨g, 0, none⟩ a).setCell ⟨g, 1, none⟩ b).setCell ⟨g, 2, none⟩ c).setCell ⟨q, 0, none⟩ d).setCell ⟨q, 1, none⟩ e) :=
  (((((OutP.refl (fun k => k = g ∨ k = q) w).seti ⟨g, 0, none⟩ (.inl rfl) a).seti ⟨g, 1, none⟩ (.inl rfl) b).seti ⟨g, 2, none⟩ (.inl rfl) c).seti ⟨q, 0, none⟩ (.inr rfl) d).seti ⟨q, 1, none⟩ (.inr rfl) e
/-- one command more -/
theorem SpL.next {B L b5 : Nat} {w wr wA w3 w5 w6 w7 : World} {l : List CmT} {m q : Nat} {sv v7 : Value} {c : CmT} {ev tv e0 e1 ap0 d0 d1 : Value} (h : SpL B L b5 w l m sv wr) (hc : l[m]? = some c) (hB : B ≤ L) (hL : L ≤ w.heap.size) (hb5 : L ≤ b5)
    (hA : Below wr.heap.size wr wA) (h3 : RW12 B wA.heap.size w3 (applyN (runN (l.take m)).1 c).1 ev tv) (b3 : Below wA.heap.size wA w3)
    (hbox : Blk wr b5 27 #[e0, e1, ap0]) (hq : wr.heap.size ≤ q) (hq2 : q < wA.heap.size)
    (e5 : w5 = ((((w3.setCell ⟨b5, 0, none⟩ ev).setCell ⟨b5, 1, none⟩ tv).setCell ⟨b5, 2, none⟩ (.int .i64 (applyN (runN (l.take m)).1 c).1.applied)).setCell ⟨q, 0, none⟩ d0).setCell ⟨q, 1, none⟩ d1)
    (b6 : Below w5.heap.size w5 w6) (hg : w6.grownBy w7 sv.ownBlock) (ho : w7.ownsRow L 39 2 v7 (m + 1) ((runN (l.take m)).2.flatMap repC ++ repC (applyN (runN (l.take m)).1 c).2)) (hat : v7.ownBlock = sv.ownBlock ∨ v7.ownBlock = some w6.heap.size) :
    SpL B L b5 w l (m + 1) v7 w7 := by
  have hst := runN_step hc
  have hl := own_ltT h.own
  have hbz := h.bel.size
  have bA3 : Below wr.heap.size wr w3 := hA.trans (b3.mono hA.size)
  have X4 := hbox.kept bA3
  have lowb := hbox.low
  have O5 : OutP (fun b => b = b5 ∨ b = q) w3 w5 := by rw [e5]; exact OutP.set5b _ _ _ _ _ _ _ _
  have X5 : Blk w5 b5 27 #[ev, tv, .int .i64 (applyN (runN (l.take m)).1 c).1.applied] := by rw [e5]; exact ((((X4.set 0 ev).set 1 tv).set 2 _).other (by omega) _ _).other (q := q) (by omega) _ _
  have hz5 := O5.size
  have hz6 := b6.size
  have hz3 := b3.size
  have hzA := hA.size
  have X7 := (X5.kept b6).grown hg (fun e => h.ne _ e.symm rfl)
  have R5 := h3.out O5 (fun b q => ⟨by omega, by omega⟩) (by omega)
  have R6 := R5.below b6 (by omega)
  have R7 := R6.out (OutP.of_grown (O := fun b => sv.ownBlock = some b) hg fun b e _ => e) (fun b q => ⟨by have := (hl b q).1; omega, by have := (hl b q).2; omega⟩) (by omega)
  have bel3 : Below L w w3 := h.bel.trans (bA3.mono (by omega))
  have bel6 : Below L w w6 := (bel3.trans (O5.below (fun b q => by omega) (by omega))).trans (b6.mono (by omega))
  refine ⟨⟨ev, tv, ?_, ?_⟩, ?_, fun b hb => ?_, bel6.trans ⟨hg.os, hg.tape, hg.output, hg.size, fun b hb => hg.block b (by omega) fun e => by have := (hl b e.symm).1; omega⟩⟩
  · rw [hst]; exact X7
  · rw [hst]; exact R7.lower (by omega)
  · rw [hst]
    simp only [List.flatMap_append, List.flatMap_cons, List.flatMap_nil, List.append_nil]
    exact ho
  · rcases hat with r | r
    · exact h.ne b (r ▸ hb)
    · rw [r] at hb
      have := Option.some.inj hb
      omega

theorem ls_take {α : Type} {B : Nat} {w : World} {k : Nat} {R : α → Array Value → Prop} {l : List α} {a : Option Addr} {c m : Nat} (h : Ls B w k R l (.slice a l.length c)) (hm : m ≤ l.length) : Ls B w k R (l.take m) (.slice a m c) := by
  obtain ⟨a', c', e, hc, hk⟩ := h.tell
  simp at e
  obtain ⟨rfl, rfl⟩ := e
  have hl : (l.take m).length = m := by rw [List.length_take]; omega
  refine ⟨by have := h.len; omega, a, c, by rw [hl], by omega, fun hne => ?_⟩
  obtain ⟨b, off, ea, hb, hx⟩ := hk (fun e => hne (by rw [e]; simp))
  refine ⟨b, off, ea, hb, fun i x hi => hx i x ?_⟩
  rw [List.getElem?_take] at hi
  split at hi
  · exact hi
  · cases hi

set_option maxRecDepth 100000 in
set_option maxHeartbeats 8000000 in
theorem split_walk (v : Value) (l : List CmT) (at' : Int) (w : World) (hl : Ls w.heap.size w 10 (CmM w.heap.size w) l v) (hn : l.length * 16 ≤ 140737488355328) (hG : GdT w.heap.size w) :
    Calls Tryz.prog 3 #[v, .int .i64 at'] w fun e w' => e = .returned (.bool true) ∧ Below w.heap.size w w' := by
  obtain ⟨la, lc, rfl, hlc, _⟩ := id hl.tell
  have AL := hide (alive_any w (Nat.le_refl _) hG)
  have RN := hide (fun (k : List CmT) (u : Value) (wx : World) (hx : Below w.heap.size w wx) (hk : Ls w.heap.size wx 10 (CmM w.heap.size wx) k u) (hkl : k.length ≤ l.length) => run_any (B := w.heap.size) k u wx hx.size (hG.keep hx) hk (by omega))
  have HL := hide hl
  have HG := hide hG
  clear hl hG
  go_enter Tryz.func3, Tryz.ntmps3
  go_wp2_with fail
  refine (unhide AL).mono ?_
  rintro e w1 ⟨rfl, hb1⟩
  have HB1 := hide hb1
  clear hb1 AL
  by_cases h1 : at' < 0
  · go_wp2
    exact bodyPost_ret (v := .bool true) (by simp [results, Tryz.results3, go_sem]) rfl ⟨rfl, unhide HB1⟩
  · by_cases h2 : (l.length : Int) < at'
    · go_wp2
      exact bodyPost_ret (v := .bool true) (by simp [results, Tryz.results3, go_sem]) rfl ⟨rfl, unhide HB1⟩
    · obtain ⟨k, rfl⟩ : ∃ k : Nat, at' = (k : Int) := ⟨at'.toNat, by omega⟩
      have hk : k ≤ l.length := by omega
      have hk1 : (k : Int) ≤ (l.length : Int) := by omega
      have hk2 : (k : Int) ≤ (lc : Int) := by omega
      have hk3 : (0 : Int) ≤ (k : Int) := by omega
      have hlt := (unhide HL).below (unhide HB1) fun x cs => CmM.below (unhide HB1)
      have LT := hide (show Ls w.heap.size w1 10 (CmM w.heap.size w1) (l.take k) (.slice la k lc) from ls_take hlt hk)
      have RT := hide (unhide RN (l.take k) _ w1 (unhide HB1) (unhide LT) (by rw [List.length_take]; omega))
      have htl : (l.take k).length = k := by rw [List.length_take]; omega
      have HTL := hide htl
      clear hlt htl
      go_wp2_with fail
      refine (unhide RT).mono ?_
      rintro e w2 ⟨ev, tv, rv, rfl, hrw, hown, hb2⟩
      rw [unhide HTL] at hown
      obtain ⟨R, hR⟩ : ∃ R, R = runN (l.take k) := ⟨_, rfl⟩
      rw [← hR] at hrw hown ⊢
      obtain ⟨xa, xc, ya, yc, rfl, rfl⟩ := hrw.shape
      obtain ⟨sa, sc, hsv⟩ := own_slice12 hown
      subst hsv
      obtain ⟨w3, hw3⟩ : ∃ w3, w3 = w2.alloc (.cells #[.slice xa R.1.entries.length xc, .slice ya R.1.seats.length yc, .int .i64 R.1.applied] 27) := ⟨_, rfl⟩
      have b3 : Below w2.heap.size w2 w3 := by rw [hw3]; exact vbelow_new _ _
      have X3 : Blk w3 w2.heap.size 27 #[.slice xa R.1.entries.length xc, .slice ya R.1.seats.length yc, .int .i64 R.1.applied] := by rw [hw3]; exact Blk.new _ _ _
      have HB3 := hide (below_via (below_via (unhide HB1) hb2) b3)
      have HW3 := hide hw3
      have HR := hide hR
      clear hw3 hR
      go_upto_region 6 with fail
      rw [← unhide HW3]
      go_cut [31, 32, 33] from 29 (fun u a b wc => wc = w3 ∧ a = .int .i64 ((l.length - k : Nat) : Int) ∧ b = .int .i64 0 ∧ Hid (∃ d c, u = .slice d (l.length - k) c ∧ Ls w.heap.size w3 10 (CmM w.heap.size w3) (l.drop k) u))
      case first =>
        rcases la with _ | ad
        · go_wp2_with fail
          go_meet
          case rel => exact ⟨rfl, rfl, rfl, hide ⟨_, _, rfl, ls_dropN ((unhide HL).below (unhide HB3) fun x cs => CmM.below (unhide HB3)) hk⟩⟩
        · by_cases hc : lc = k
          · go_wp2_with fail
            go_meet
            case rel => exact ⟨rfl, rfl, rfl, hide ⟨_, _, rfl, ls_dropZ ((unhide HL).below (unhide HB3) fun x cs => CmM.below (unhide HB3)) hk (by first | exact hc | rfl)⟩⟩
          · go_wp2_with fail
            go_meet
            case rel => exact ⟨rfl, rfl, rfl, hide ⟨_, _, rfl, ls_dropS ((unhide HL).below (unhide HB3) fun x cs => CmM.below (unhide HB3)) hk⟩⟩
      case rest =>
        obtain ⟨rfl, rfl, rfl, hd⟩ := hcut
        obtain ⟨da, dc, rfl, hld⟩ := unhide hd
        have hR := unhide HR
        have hz1 := (unhide HB1).size
        have hb13 : Below w1.heap.size w1 wc := below_via hb2 b3
        have hz12 := hb2.size
        have L0 : SpL w.heap.size w1.heap.size w2.heap.size wc l k (.slice sa k sc) wc := by
          refine ⟨⟨.slice xa R.1.entries.length xc, .slice ya R.1.seats.length yc, ?_, ?_⟩, ?_, fun b q => ?_, Below.refl _ _⟩
          · rw [← hR]; exact X3
          · rw [← hR]; exact hrw.below b3 (by omega)
          · rw [← hR]; exact own_keepT hown b3
          · have := (own_ltT hown b q).2; omega
        have HL0 := hide L0
        have HLD := hide hld
        have HWZ := hide hz1
        have HW12 := hide hz12
        have HWC := hide hb13.size
        clear hR hz1 hb13 hz12 L0 hld hd X3 hrw hown hb2 b3
        go_wp2_with fail
        go_loopw [6, 33] (fun sv i wr => ∃ j : Nat, j ≤ l.length - k ∧ i = .int .i64 (j : Int) ∧ Hid (SpL w.heap.size w1.heap.size w2.heap.size wc l (k + j) sv wr)) (fun _ i _ => (l.length - k) - (intOf i).toNat)
        case atStart => exact ⟨0, Nat.zero_le _, rfl, HL0⟩
        case round =>
          obtain ⟨j, hj, rfl, HSP⟩ := hrel
          clear HL0
          have hbc : Below w.heap.size wc wr := (unhide HSP).bel.mono (unhide HWZ)
          have hbr : Below w.heap.size w wr := (unhide HB3).trans hbc
          by_cases hlt : j < l.length - k
          · have hi1 : (j : Int) < ((l.length - k : Nat) : Int) := by omega
            have hi0 : (0 : Int) ≤ (j : Int) := by omega
            obtain ⟨c, hc⟩ : ∃ c, (l.drop k)[j]? = some c := ⟨_, List.getElem?_eq_getElem (by rw [List.length_drop]; exact hlt)⟩
            have hc' : l[k + j]? = some c := by rw [List.getElem?_drop] at hc; exact hc
            have hldr := (unhide HL).below hbr fun x cs => CmM.below hbr
            obtain ⟨b, off, cap', ev⟩ := (unhide HLD).begins (by intro e; rw [e] at hc; simp at hc)
            simp at ev
            obtain ⟨rfl, rfl⟩ := ev
            obtain ⟨_, cs, _, hcm, hcell⟩ := ((unhide HLD).below hbc fun x cs => CmM.below hbc).at2 hc
            obtain ⟨ia, oa, ra, ic, oc, rc, rfl, _⟩ := hcm.open
            have d0 := hcell 0 _ rfl
            have d1 := hcell 1 _ rfl
            have d2 := hcell 2 _ rfl
            have d3 := hcell 3 _ rfl
            have d4 := hcell 4 _ rfl
            have d5 := hcell 5 _ rfl
            have d6 := hcell 6 _ rfl
            have d7 := hcell 7 _ rfl
            have d8 := hcell 8 _ rfl
            have d9 := hcell 9 _ rfl
            rw [Nat.add_zero] at d0
            obtain ⟨bv, bt, hbox, hrw⟩ := (unhide HSP).box
            obtain ⟨za, zc, ta, tc, rfl, rfl⟩ := hrw.shape
            obtain ⟨na, nc, hsv⟩ := own_slice12 (unhide HSP).own
            subst hsv
            obtain ⟨wA, hwA⟩ : ∃ wA, wA = (wr.alloc (.cells #[.int .i64 c.session, .int .i64 c.seq, .int .i64 c.kind, .string c.table.name, .int .i64 c.table.pol, .slice ia c.table.ins.length ic, .slice oa c.table.outs.length oc, .slice ra c.table.rules.length rc, .string c.name, .int .i64 c.back] 36)).alloc (.cells #[.int .i64 0, .int .i64 0] 39) := ⟨_, rfl⟩
            have bA : Below wr.heap.size wr wA := by rw [hwA]; exact below_via (vbelow_new _ _) (vbelow_new _ _)
            have CA : Blk wA wr.heap.size 36 #[.int .i64 c.session, .int .i64 c.seq, .int .i64 c.kind, .string c.table.name, .int .i64 c.table.pol, .slice ia c.table.ins.length ic, .slice oa c.table.outs.length oc, .slice ra c.table.rules.length rc, .string c.name, .int .i64 c.back] := by rw [hwA]; exact (Blk.new _ _ _).kept (vbelow_new _ _)
            have PA : Blk wA (wr.heap.size + 1) 39 #[.int .i64 0, .int .i64 0] := by rw [hwA]; exact Blk.new1 _ _ _ _
            obtain ⟨e0, e1, e2, e3, e4, e5, e6, e7, e8, e9⟩ := CA.at10
            have hzA : wA.heap.size = wr.heap.size + 2 := by rw [hwA]; simp
            have hbA := hbr.trans (bA.mono hbr.size)
            have AP := hide (apply_any (B := w.heap.size) (runN (l.take (k + j))).1 _ c _ wA hbA.size ((unhide HG).keep hbA) (hrw.below bA hbr.size).rpm (hcm.below (bA.mono hbr.size)) (runN_RG (l.take (k + j))) (by rw [List.length_take]; omega))
            have NXT := hide (fun (w3 w5 w6 w7 : World) (v7 ev tv d0 d1 : Value) (h3 : RW12 w.heap.size wA.heap.size w3 (applyN (runN (l.take (k + j))).1 c).1 ev tv) (b3 : Below wA.heap.size wA w3) (e5 : w5 = ((((w3.setCell ⟨w2.heap.size, 0, none⟩ ev).setCell ⟨w2.heap.size, 1, none⟩ tv).setCell ⟨w2.heap.size, 2, none⟩ (.int .i64 (applyN (runN (l.take (k + j))).1 c).1.applied)).setCell ⟨wr.heap.size + 1, 0, none⟩ d0).setCell ⟨wr.heap.size + 1, 1, none⟩ d1) (b6 : Below w5.heap.size w5 w6) (hg : w6.grownBy w7 (Value.slice na (k + j) nc).ownBlock) (ho : w7.ownsRow w1.heap.size 39 2 v7 (k + j + 1) ((runN (l.take (k + j))).2.flatMap repC ++ repC (applyN (runN (l.take (k + j))).1 c).2)) (hat : v7.ownBlock = (Value.slice na (k + j) nc).ownBlock ∨ v7.ownBlock = some w6.heap.size) => (unhide HSP).next hc' (unhide HWZ) (by have := (unhide HSP).bel.size; have := (unhide HW12); have := hbox.low; first | exact unhide HWC | omega) (unhide HW12) bA h3 b3 hbox (by omega) (by omega) e5 b6 hg ho hat)
            have HBX := hide (And.intro hbox (And.intro (unhide HSP).own bA))
            have HPA := hide PA
            have HBA := hide hbA
            have hzr := (unhide HSP).bel.size
            have HZR := hide (show w1.heap.size ≤ wr.heap.size by have := unhide HWC; omega)
            obtain ⟨x0, x1, x2, y0, y1, y2, yl⟩ := (hbox.kept bA).at3
            obtain ⟨p0, p1, q0, q1, pl⟩ := PA.at2
            have hne1 : ¬ w2.heap.size = wr.heap.size + 1 := by have := hbox.low; omega
            have hne2 : ¬ wr.heap.size + 1 = w2.heap.size := by have := hbox.low; omega
            have HCC := hide hc'
            clear bA hbA hbox hrw hcm hcell hbr hbc CA PA hldr hc hc'
            go_upto_region 10 with fail
            rw [← hwA]
            clear hwA d0 d1 d2 d3 d4 d5 d6 d7 d8 d9
            go_wp2_with fail
            refine (unhide AP).mono ?_
            rintro e w3 ⟨ev', tv', rfl, h3, b3⟩
            obtain ⟨ga, gc, ha, hc, rfl, rfl⟩ := h3.shape
            obtain ⟨AR, hAR⟩ : ∃ AR, AR = applyN (runN (l.take (k + j))).1 c := ⟨_, rfl⟩
            rw [← hAR] at h3 ⊢
            rw [← hAR] at NXT
            obtain ⟨hbox, hown, bA⟩ := unhide HBX
            have X3 := (hbox.kept bA).kept b3
            have P3 := (unhide HPA).kept b3
            obtain ⟨x0, x1, x2, y0, y1, y2, yl⟩ := X3.at3
            obtain ⟨p0, p1, q0, q1, pl⟩ := P3.at2
            obtain ⟨w5, hw5⟩ : ∃ w5, w5 = ((((w3.setCell ⟨w2.heap.size, 0, none⟩ (.slice ga AR.1.entries.length gc)).setCell ⟨w2.heap.size, 1, none⟩ (.slice ha AR.1.seats.length hc)).setCell ⟨w2.heap.size, 2, none⟩ (.int .i64 AR.1.applied)).setCell ⟨wr.heap.size + 1, 0, none⟩ (.int .i64 AR.2.err)).setCell ⟨wr.heap.size + 1, 1, none⟩ (.int .i64 AR.2.version) := ⟨_, rfl⟩
            have O5 : OutP (fun b => b = w2.heap.size ∨ b = wr.heap.size + 1) w3 w5 := by rw [hw5]; exact OutP.set5b _ _ _ _ _ _ _ _
            have P5 : Blk w5 (wr.heap.size + 1) 39 #[.int .i64 AR.2.err, .int .i64 AR.2.version] := by rw [hw5]; exact ((((P3.other hne2 _ _).other hne2 _ _).other hne2 _ _).set 0 _).set 1 _
            obtain ⟨m0, m1, _, _, ml⟩ := P5.at2
            have hol := own_ltT hown
            have OW5 : w5.ownsRow w1.heap.size 39 2 (.slice na (k + j) nc) (k + j) ((runN (l.take (k + j))).2.flatMap repC) := own_sameT (own_keepT (own_keepT hown bA) b3) fun b q => O5.block b (by have := (hol b q).2; have := b3.size; omega) fun e => by
              rcases e with e | e
              · exact (unhide HSP).ne b q e
              · have := (hol b q).2; omega
            have HH3 := hide (And.intro h3 b3)
            have HOW := hide OW5
            have HSZ := hide (show w1.heap.size ≤ w5.heap.size by have := unhide HZR; have := O5.size; have := b3.size; omega)
            have HW5 := hide hw5
            obtain ⟨i0, hi0', hz0, hz2, hzb⟩ := info_parts info_Reply
            have HI := hide (And.intro hi0' (And.intro hz0 (And.intro hz2 hzb)))
            have hw : IntKind.i64.wrap ((j : Int) + 1) = ((j + 1 : Nat) : Int) := by rw [IntKind.wrap_i64]; omega
            have hkj : k + j + 1 ≤ l.length := by omega
            obtain ⟨KJ, hKJ⟩ : ∃ KJ, KJ = k + j := ⟨_, rfl⟩
            rw [← hKJ] at HOW NXT hkj ⊢
            have HKJ := hide hKJ
            clear h3 b3 X3 P3 hbox hown bA O5 P5 hol OW5 hw5 hi0' hz0 hz2 hzb e0 e1 e2 e3 e4 e5 e6 e7 e8 e9 hAR HBX HSP hKJ
            go_upto_region 11 with fail
            rw [← unhide HW5]
            go_wp2_with (at_builtin; refine wpList_append_own_at _ rfl _ _ 28 rfl w1.heap.size 39 i0 (.agg #[.int .i64 0, .int .i64 0]) 2 16 Tryz.underlying28 (unhide HI).1 (unhide HI).2.1 (unhide HI).2.2.1 (unhide HI).2.2.2 rfl (by decide) _ KJ ((runN (l.take KJ)).2.flatMap repC) rfl ((unhide HOW).alloc _) ⟨w5.heap.size, 0, none⟩ 1 1 [.int .i64 AR.2.err, .int .i64 AR.2.version] rfl rfl (cells_new _ _ _) (by intro x hx; simp at hx; rcases hx with rfl | rfl <;> rfl) (by unfold maxLen; omega) (by omega) (by have := unhide HSZ; simp; omega) ?_)
            intro v7 w7 hown hgrow hnil hat
            obtain ⟨h3, b3⟩ := unhide HH3
            have HN := hide (unhide NXT _ _ _ _ _ _ _ _ _ h3 b3 (unhide HW5) (vbelow_new _ _) hgrow hown (by rw [World.size_alloc]; exact hat))
            clear hown hgrow hnil hat h3 b3 x0 x1 x2 y0 y1 y2 m0 m1 p0 p1 q0 q1
            go_wp2
            go_roundw
            case rel => exact ⟨j + 1, hlt, by first | rfl | go_num, by rw [← Nat.add_assoc, ← unhide HKJ]; exact HN⟩
            case measure => simp [intOf]; omega
          · obtain rfl : j = l.length - k := by omega
            have hsp := unhide HSP
            rw [show k + (l.length - k) = l.length by omega] at hsp
            have hbx := hsp.box
            have how := hsp.own
            rw [List.take_length] at hbx how
            obtain ⟨bv, bt, hbox, hrw⟩ := hbx
            obtain ⟨za, zc, ta, tc, rfl, rfl⟩ := hrw.shape
            obtain ⟨na, nc, hsv⟩ := own_slice12 how
            subst hsv
            have RN2 := hide (unhide RN l _ wr hbr ((unhide HL).below hbr fun x cs => CmM.below hbr) (Nat.le_refl _))
            obtain ⟨Q, hQ⟩ : ∃ Q, Q = runN l := ⟨_, rfl⟩
            have hql : Q.2.length = l.length := by rw [hQ]; exact goN_len _ _
            rw [← hQ] at hbox hrw how
            have HQ := hide hQ
            have HQL := hide hql
            have KX := hide (fun (wx : World) (hx : Below wr.heap.size wr wx) => And.intro (hbox.kept hx).at3 (And.intro (hrw.below hx hbr.size).rpm (own_keepT how hx)))
            have HBR := hide hbr
            clear hsp how hbox hrw hbr hbc hQ hql HSP hlt
            go_wp2_with fail
            refine (unhide RN2).mono ?_
            rintro e w4 ⟨ev4, tv4, rv4, rfl, hrw4, hown4, hb4⟩
            rw [← unhide HQ] at hrw4 hown4 ⊢
            obtain ⟨ga, gc, ha, hc, rfl, rfl⟩ := hrw4.shape
            obtain ⟨fa, fc, hfv⟩ := own_slice12 hown4
            subst hfv
            obtain ⟨w5, hw5⟩ : ∃ w5, w5 = w4.alloc (.cells #[.slice ga Q.1.entries.length gc, .slice ha Q.1.seats.length hc, .int .i64 Q.1.applied] 27) := ⟨_, rfl⟩
            have b5 : Below w4.heap.size w4 w5 := by rw [hw5]; exact vbelow_new _ _
            have Y5 : Blk w5 w4.heap.size 27 #[.slice ga Q.1.entries.length gc, .slice ha Q.1.seats.length hc, .int .i64 Q.1.applied] := by rw [hw5]; exact Blk.new _ _ _
            have hr5 := below_via hb4 b5
            have HB5 := hide (below_via (unhide HBR) hr5)
            obtain ⟨⟨x0, x1, x2, _⟩, hrp, how⟩ := unhide KX w5 hr5
            obtain ⟨y0, y1, y2, _⟩ := Y5.at3
            have SM := hide (same_any (B := w.heap.size) Q.1 _ _ w5 (unhide HB5).size hrp (hrw4.below b5 (below_via (unhide HBR) hb4).size).rpm)
            have hql := unhide HQL
            rw [← hql] at how hown4 ⊢
            have SR := hide (fun (wx : World) (hx : Below w5.heap.size w5 wx) => sameReplies_any Q.2 _ _ wx (ls_replies (own_keepT how hx)) (ls_replies (own_keepT (own_keepT hown4 b5) hx)))
            have HW5 := hide hw5
            clear hw5 hrw4 hown4 hb4 b5 Y5 hr5 hrp how KX hql
            go_upto_region 14 with fail
            rw [← unhide HW5]
            go_wp2_with fail
            refine (unhide SM).mono ?_
            rintro e w6 ⟨rfl, hb6⟩
            have SR6 := hide (unhide SR w6 hb6)
            have HB6 := hide (below_via (unhide HB5) hb6)
            clear hb6
            go_wp2_with fail
            refine (unhide SR6).mono ?_
            rintro e w7 ⟨rfl, hb7⟩
            have HB7 := hide (below_via (unhide HB6) hb7)
            clear hb7
            go_wp2
            exact bodyPost_ret (v := .bool true) (by simp [results, Tryz.results3, go_sem]) rfl ⟨rfl, unhide HB7⟩
end Go.Proofs.YtnegjbkbfgkkjaaGreatDoor
