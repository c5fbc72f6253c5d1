/- Walks: hold (raft). -/
import Derived.Test.YtneepoaimbnneaaNK
namespace Go.Proofs.Ytneepoaimbnneaa.Rf

theorem held_stop {log : List Item} : ∀ {xs : List Item} {i m : Nat}, held log i xs = m + held log (i + m) (xs.drop m) → ∀ {y : Item}, xs[m]? = some y → atN log (i + m + 1) ≠ y.1 → held log i xs = m := by
  intro xs i m h y hy hne
  have hm : m < xs.length := (List.getElem?_eq_some_iff.1 hy).1
  have e : xs.drop m = y :: xs.drop (m + 1) := by
    rw [List.drop_eq_getElem_cons hm]
    have := List.getElem?_eq_getElem hm
    rw [hy] at this
    cases this
    rfl
  rw [h, e, held]
  cases hl : log[i + m]? with
  | none => simp
  | some z =>
    simp only [atN, hl] at hne
    simp [hne]
theorem held_go {log : List Item} {xs : List Item} {i m : Nat} (h : held log i xs = m + held log (i + m) (xs.drop m)) {y : Item} (hy : xs[m]? = some y) (he : atN log (i + m + 1) = y.1) (h1 : 1 ≤ y.1) : held log i xs = (m + 1) + held log (i + (m + 1)) (xs.drop (m + 1)) ∧ i + m < log.length := by
  have hm : m < xs.length := (List.getElem?_eq_some_iff.1 hy).1
  have e : xs.drop m = y :: xs.drop (m + 1) := by
    rw [List.drop_eq_getElem_cons hm]
    have := List.getElem?_eq_getElem hm
    rw [hy] at this
    cases this
    rfl
  rw [h, e, held]
  cases hl : log[i + m]? with
  | none => simp only [atN, hl] at he; omega
  | some z =>
    simp only [atN, hl] at he
    have := (List.getElem?_eq_some_iff.1 hl).1
    simp only [he, if_true]
    exact ⟨by rw [show i + (m + 1) = i + m + 1 by omega]; omega, this⟩
def heldN (x : Node) (idx : Nat) (items : List Item) : Node := { x with log := taken x.log idx items, commit := if held x.log idx items < items.length then min x.commit ((taken x.log idx items).length : Int) else x.commit }

end Go.Proofs.Ytneepoaimbnneaa.Rf

namespace Go.Proofs.Ytneepoaimbnneaa
open Go.RowKit

theorem own_cut {w : World} {B : Nat} {e : TypeId} {k n m cap : Nat} {g : Nat} {xs : List Value} (h : w.ownsRow B e k (.slice (some ⟨g, 0, none⟩) n cap) n xs) (hm : m ≤ n) : w.ownsRow B e k (.slice (some ⟨g, 0, none⟩) m cap) m (xs.take (m * k)) := by
  obtain ⟨h1, h2⟩ := h
  have hmk : m * k ≤ n * k := Nat.mul_le_mul_right k hm
  rcases h2 with ⟨h2, _⟩ | ⟨g', cap', cur, e1, hg, hc, hn, hm', hs, ht⟩
  · cases h2
  · cases e1
    refine ⟨by rw [List.length_take]; omega, .inr ⟨g, cap, cur, rfl, hg, hc, by omega, hm', hs, ?_⟩⟩
    rw [← ht, List.take_take, Nat.min_eq_left hmk]

end Go.Proofs.Ytneepoaimbnneaa
namespace Go.Proofs.Ytneepoaimbnneaa.RW
open Go.RowKit

set_option maxHeartbeats 8000000 in
set_option maxRecDepth 100000 in
theorem hold_any (B p : Nat) (x : Rf.Node) (ms : List Rf.Msg) (o : Own) (idx : Nat) (items : List Rf.Item) (iv : Value) (w : World) (hk : WK B w p x ms o) (hit : Tv w iv items) (hi : idx ≤ x.log.length) (h60 : idx + items.length ≤ 60) (hl60 : x.log.length ≤ 60) (ht : ∀ y ∈ items, 1 ≤ y.1) :
    Calls Try.prog 69 #[.pointer (some ⟨p, 0, none⟩), .int .i64 (idx : Int), iv] w (PW B p o w (Rf.heldN x idx items) ms) := by
  obtain ⟨i0, I0, I1, I2, I3⟩ := info_parts info_T
  have I0' := hide I0
  have I1' := hide I1
  have I2' := hide I2
  have I3' := hide I3
  clear I0 I1 I2 I3
  have HK := hide hk
  have HIT := hide hit
  obtain ⟨ia, IL, ic, rfl, hIL, hic, hic2⟩ := SC.shp hit
  have HI := hide (And.intro hi (And.intro hl60 ht))
  have hIL60 : idx + IL ≤ 60 := by rw [unhide hIL]; exact h60
  clear hk hit hi hl60 ht h60
  go_enter Try.func69, Try.ntmps69
  go_wp2_with fail
  go_loopw [11] (fun i wr => ∃ m : Nat, m ≤ IL ∧ i = .int .i64 (m : Int) ∧ Hid (Rf.held x.log idx items = m + Rf.held x.log (idx + m) (items.drop m) ∧ idx + m ≤ x.log.length) ∧ Hid (Below w.heap.size w wr)) (fun i _ => IL - (intOf i).toNat)
  case atStart => exact ⟨0, Nat.zero_le _, rfl, hide ⟨by simp, (unhide HI).1⟩, hide (Below.refl _ _)⟩
  case round =>
    obtain ⟨m, hm, rfl, HR, HB⟩ := hrel
    by_cases hlt : m < IL
    · have hi1 : (m : Int) < (IL : Int) := by omega
      have hlt' : m < items.length := by have := unhide hIL; omega
      obtain ⟨y, hy⟩ : ∃ y, items[m]? = some y := ⟨_, List.getElem?_eq_getElem hlt'⟩
      have hne : items ≠ [] := by intro e; rw [e] at hlt'; simp at hlt'
      obtain ⟨b, off, cap', e, hb, _, _⟩ := (unhide HIT).ex hne
      have ea : ia = some ⟨b, off, none⟩ := by cases e; rfl
      clear e
      subst ea
      obtain ⟨d0, d1⟩ := (TV.keep (kept (unhide HB)) (unhide HIT)).at hy
      have HBn := hide (below_via (unhide HB) (below_new wr (.cells #[.int .i64 y.1, .int .i64 y.2] 43)))
      have HXn := hide (BK.new wr 43 #[.int .i64 y.1, .int .i64 y.2])
      obtain ⟨A, hA⟩ : ∃ A : Nat, A = idx + m := ⟨_, rfl⟩
      obtain ⟨A1, hA1⟩ : ∃ A1 : Nat, A1 = A + 1 := ⟨_, rfl⟩
      have e1 : IntKind.i64.wrap ((idx : Int) + (m : Int)) = (A : Int) := by rw [wrap_i64 (by omega) (by omega), hA]; omega
      have e2 : IntKind.i64.wrap ((A : Int) + 1) = (A1 : Int) := by rw [wrap_i64 (by omega) (by omega), hA1]; omega
      have hAb : A ≤ 60 := by omega
      have hAl : Hid (A ≤ x.log.length) := hide (by rw [hA]; exact (unhide HR).2)
      have HA := hide (And.intro hA hA1)
      have Hy := hide (And.intro hy hlt')
      have HT1 : Hid (1 ≤ y.1) := hide ((unhide HI).2.2 y (List.mem_of_getElem? hy))
      have hicm : m < ic := by omega
      have hicm2 : ¬ ic = m := by omega
      clear hy hlt' hne hA hA1
      go_wp2_with fail
      have bl2 : b < (wr.alloc (.cells #[.int .i64 y.1, .int .i64 y.2] 43)).heap.size := Nat.lt_of_lt_of_le hb (unhide HBn).size
      have HIT2 := hide (TV.keep (kept (unhide HBn)) (unhide HIT))
      generalize hw2 : wr.alloc (.cells #[.int .i64 y.1, .int .i64 y.2] 43) = w2 at HXn HBn HIT2 bl2 ⊢
      clear hw2 d0 d1
      have hk2 := (unhide HK).below (unhide HBn)
      obtain ⟨la, LL, lc, va, VL, vc, na, NL, nc, ma, ML, mc, sa, SL, sc, HE, hLL, hVL, hNL, hML, hSL, ⟨r1, r2, r3, r4⟩, ⟨c0, c1, c2, c3, c4, c5, c6, c7, c8, c9, c10, c11⟩, ⟨f0, f1, f2, f3, f4, f5, f6, f7, f8, f9, f10, f11⟩⟩ := (hk2).tell
      have hp := hk2.lo
      have bx0 := (unhide HXn).at (j := 0) rfl
      have H2 : Tv w2 (.slice la LL lc) x.log := by have := SC.own hk2.log; rwa [(unhide HE).1] at this
      have CT := hide (fun wx (hx : wx.heap = w2.heap) => termOf_any p x.log (.slice la LL lc) A1 wx (by rw [← c4]; simp [World.cell?, hx]) (SC.keep (fun b hb => ⟨by rw [hx]; exact hb, by rw [hx]⟩) H2) (by have := (unhide HA).2; omega))
      obtain ⟨LT, hLT⟩ : ∃ z, z = Rf.atN x.log A1 := ⟨_, rfl⟩
      rw [← hLT] at CT
      have HLT := hide hLT
      have HK2 := hide hk2
      clear hLT hk2 H2
      by_cases hq : LT = y.1
      · have bq : (LT == y.1) = true := by simpa using hq
        have HR2 := hide (Rf.held_go (unhide HR).1 (unhide Hy).1 (by have := unhide HLT; rw [(unhide HA).2, (unhide HA).1] at this; rw [← this]; exact hq) (unhide HT1))
        clear hq HR
        go_quiet ((go_at_call 49; exact Calls.quiet_of_same (unhide CT _ rfl)))
        go_wp2
        go_roundw
        case rel => exact ⟨m + 1, by omega, by go_num, hide ⟨(unhide HR2).1, by have := (unhide HR2).2; omega⟩, hide (below_drewN (unhide HBn) _)⟩
        case measure => simp [intOf]; omega
      · have bq : (LT == y.1) = false := by simpa using hq
        have HR2 := hide (Rf.held_stop (unhide HR).1 (unhide Hy).1 (by have := unhide HLT; rw [(unhide HA).2, (unhide HA).1] at this; rw [← this]; exact hq))
        clear hq HR
        have ETK : Hid (Rf.taken x.log idx items = x.log.take A ++ items.drop m) := hide (by rw [Rf.taken, unhide HR2, if_pos (unhide Hy).2, ← (unhide HA).1])
        have ELN : Hid ((Rf.taken x.log idx items).length = A + (IL - m)) := hide (by rw [unhide ETK, List.length_append, List.length_take, List.length_drop, unhide hIL, Nat.min_eq_left (unhide hAl)])
        have hAL : (A : Int) ≤ (LL : Int) := by have := unhide hLL; have := unhide hAl; omega
        have hAc : (A : Int) ≤ (lc : Int) := by omega
        have hAc2 : A ≤ lc := by omega
        have hmI : (m : Int) ≤ (IL : Int) := by omega
        have hmc : (m : Int) ≤ (ic : Int) := by omega
        have NEWS : Hid (∀ j u, (its (items.drop m))[j]? = some u → w2.cell? ((⟨b, off + m * 2, none⟩ : Addr).add j) = some u) := hide (fun j u hj => by
          rw [its_drop, List.getElem?_drop] at hj
          obtain ⟨_, a5, c5', e5, _, _, h5⟩ := unhide HIT2
          cases e5
          obtain ⟨b5, off5, e6, _, h6⟩ := h5 (by have := (unhide Hy).2; omega)
          cases e6
          have := h6 _ u hj
          rw [Addr.add_lit, Nat.add_assoc]
          exact this)
        go_quiet ((go_at_call 49; exact Calls.quiet_of_same (unhide CT _ rfl)))
        go_wp2_with fail
        have HLA : Hid ((la = none ∧ LL = 0 ∧ lc = 0) ∨ ∃ g, la = some ⟨g, 0, none⟩) := hide (by
          have := (unhide HK2).log.2
          rw [(unhide HE).1] at this
          rcases this with ⟨e, n0⟩ | ⟨g, cap, cur, e, _⟩
          · cases e; exact .inl ⟨rfl, rfl, rfl⟩
          · cases e; exact .inr ⟨g, rfl⟩)
        have HK3 := hide ((unhide HK2).drewN nq)
        have HB3 := hide (below_drewN (unhide HBn) nq)
        have NEWS3 : Hid (∀ j u, (its (items.drop m))[j]? = some u → (w2.drewN nq).cell? ((⟨b, off + m * 2, none⟩ : Addr).add j) = some u) := hide (fun j u hj => unhide NEWS j u hj)
        have bl3 : b < (w2.drewN nq).heap.size := bl2
        clear c0 c1 c2 c3 c4 c5 c6 c7 c8 c9 c10 c11 f0 f1 f2 f3 f4 f5 f6 f7 f8 f9 f10 f11
        clear HK2 NEWS HIT2 HXn bx0 CT bl2 hp
        generalize w2.drewN nq = w3 at HK3 HB3 NEWS3 bl3 ⊢
        have c4 : w3.cell? ⟨p, 4, none⟩ = some (.slice la LL lc) := ((unhide HK3).blk.at (j := 4) rfl).trans (congrArg some (unhide HE).1)
        have f4 := (unhide HK3).blk.thaw 4
        have hp3 := (unhide HK3).lo
        have HBs := hide (unhide HK3).szB
        have hAI : A + (IL - m) ≤ 60 := by have := (unhide HA).1; omega
        have HNL : Hid ((its (items.drop m)).length = (IL - m) * 2) := hide (by rw [its_len, List.length_drop, unhide hIL])
        have HOC : Hid (∀ g, la = some ⟨g, 0, none⟩ → w3.ownsRow B 43 2 (.slice (some ⟨g, 0, none⟩) A lc) A (its (x.log.take A))) := hide (fun g hg => by
          have := (unhide HK3).log
          rw [(unhide HE).1, hg, ← unhide hLL] at this
          rw [its_take]
          exact own_cut this (by omega))
        rcases unhide HLA with ⟨rfl, rfl, rfl⟩ | ⟨g, rfl⟩
        · have hA0 : A = 0 := by omega
          subst hA0
          have HON : Hid (w3.ownsRow B 43 2 (.slice none 0 0) 0 (its (x.log.take 0))) := hide (by rw [List.take_zero]; exact World.ownsRow_nil _ _ _ _)
          go_region_law (first
            | (refine nstep_append rfl _ _ 31 rfl B 43 i0 (.agg #[.int .i64 0, .int .i64 0]) 2 16 Try.underlying31 (unhide I0') (unhide I1') (unhide I2') (unhide I3') rfl (by decide) _ 0 (its (x.log.take 0)) rfl (by repeat (first | exact (unhide HON) | apply World.ownsRow.drew)) ⟨b, off + m * 2, none⟩ (IL - m) (ic - m) (its (items.drop m)) rfl (unhide HNL) (unhide NEWS3) (its_one _) (by unfold maxLen; omega) (by omega) (by have := unhide HBs; first | exact this | simpa using this) ?_
               intro v3 w4 hown hgrow hat
               obtain ⟨gg, cc, rfl, _⟩ := own_slice hown (by omega)
               have S := (unhide HK3).drew.setL (L := Rf.taken x.log idx items) (l' := .slice (some ⟨gg, 0, none⟩) (0 + (IL - m)) cc) (w1 := w4) (by rw [(unhide HE).1]; exact hgrow) (by rw [unhide ELN, unhide ETK, its_app]; exact hown) (by rw [(unhide HE).1]; exact Upd.at hat)
               have bp : BK w4 p 75 (workC x o) := (hgrow.block p hp3 (fun e => (unhide HK3).ap.pl (by rw [(unhide HE).1]; exact e.symm))).trans (unhide HK3).blk
               have c4' := bp.at (j := 4) rfl
               have f4' := bp.thaw 4
               have l4 := bp.low
               have HS := hide S
               clear hown hgrow hat bp S))
          all_goals
            have HK5 := hide (unhide HS).1
            have HF5 := hide ((Fr.below (p := p) (o := o) (unhide HB3) (unhide HK).szB).trans ((Fr.refl B p o w3).drew.trans (unhide HS).2))
            rw [Nat.zero_add] at HK5 HF5
            go_wp2_with fail
            generalize World.setCell w4 ⟨p, 4, none⟩ (.slice (some ⟨gg, 0, none⟩) (IL - m) cc) = w5 at HK5 HF5 ⊢
            clear HS c4 c4' f4 f4' l4 HE hLL hVL hNL hML hSL hp3
            obtain ⟨la, LL, lc, va, VL, vc, na, NL, nc, ma, ML, mc, sa, SL, sc, HE, hLL, hVL, hNL, hML, hSL, ⟨r1, r2, r3, r4⟩, ⟨c0, c1, c2, c3, c4, c5, c6, c7, c8, c9, c10, c11⟩, ⟨f0, f1, f2, f3, f4, f5, f6, f7, f8, f9, f10, f11⟩⟩ := (unhide HK5).tell
            have p5 := (unhide HK5).lo
            have HLL : Hid ((LL : Int) = ((Rf.taken x.log idx items).length : Int)) := hide (by have := unhide hLL; simp only at this; omega)
            have W5 := (unhide HK5).cell (x' := { x with log := Rf.taken x.log idx items, commit := min x.commit (LL : Int) }) 5 (.int .i64 (min x.commit (LL : Int))) ⟨rfl, rfl, rfl, rfl⟩ rfl
            have F5 := (unhide HF5).trans ((unhide HK5).cellFr 5 (.int .i64 (min x.commit (LL : Int))))
            have EN : Hid (Rf.heldN x idx items = { x with log := Rf.taken x.log idx items, commit := min x.commit (LL : Int) }) := hide (by rw [Rf.heldN, unhide HR2, if_pos (unhide Hy).2, ← unhide HLL])
            have FIN := hide (And.intro W5 F5)
            clear W5 F5
            go_region
            go_wp2
            ((try simp only [Exit.inBlock, Exit.then]); refine bodyPost_ret (results_none rfl _ _ _) rfl ?_)
            rw [unhide EN]
            exact ⟨rfl, _, (unhide FIN).1.drew, (unhide FIN).2.drew⟩
        · go_region_law (first
            | (refine nstep_append rfl _ _ 31 rfl B 43 i0 (.agg #[.int .i64 0, .int .i64 0]) 2 16 Try.underlying31 (unhide I0') (unhide I1') (unhide I2') (unhide I3') rfl (by decide) _ A (its (x.log.take A)) rfl (by repeat (first | exact (unhide HOC g rfl) | apply World.ownsRow.drew)) ⟨b, off + m * 2, none⟩ (IL - m) (ic - m) (its (items.drop m)) rfl (unhide HNL) (unhide NEWS3) (its_one _) (by unfold maxLen; omega) (by omega) (by have := unhide HBs; first | exact this | simpa using this) ?_
               intro v3 w4 hown hgrow hat
               obtain ⟨gg, cc, rfl, _⟩ := own_slice hown (by omega)
               have S := (unhide HK3).drew.setL (L := Rf.taken x.log idx items) (l' := .slice (some ⟨gg, 0, none⟩) (A + (IL - m)) cc) (w1 := w4) (by rw [(unhide HE).1]; exact hgrow) (by rw [unhide ELN, unhide ETK, its_app]; exact hown) (by rw [(unhide HE).1]; exact Upd.at hat)
               have bp : BK w4 p 75 (workC x o) := (hgrow.block p hp3 (fun e => (unhide HK3).ap.pl (by rw [(unhide HE).1]; exact e.symm))).trans (unhide HK3).blk
               have c4' := bp.at (j := 4) rfl
               have f4' := bp.thaw 4
               have l4 := bp.low
               have HS := hide S
               clear hown hgrow hat bp S))
          all_goals
            have HK5 := hide (unhide HS).1
            have HF5 := hide ((Fr.below (p := p) (o := o) (unhide HB3) (unhide HK).szB).trans ((Fr.refl B p o w3).drew.trans (unhide HS).2))
            go_wp2_with fail
            generalize World.setCell w4 ⟨p, 4, none⟩ (.slice (some ⟨gg, 0, none⟩) (A + (IL - m)) cc) = w5 at HK5 HF5 ⊢
            clear HS c4 c4' f4 f4' l4 HE hLL hVL hNL hML hSL hp3
            obtain ⟨la, LL, lc, va, VL, vc, na, NL, nc, ma, ML, mc, sa, SL, sc, HE, hLL, hVL, hNL, hML, hSL, ⟨r1, r2, r3, r4⟩, ⟨c0, c1, c2, c3, c4, c5, c6, c7, c8, c9, c10, c11⟩, ⟨f0, f1, f2, f3, f4, f5, f6, f7, f8, f9, f10, f11⟩⟩ := (unhide HK5).tell
            have p5 := (unhide HK5).lo
            have HLL : Hid ((LL : Int) = ((Rf.taken x.log idx items).length : Int)) := hide (by have := unhide hLL; simp only at this; omega)
            have W5 := (unhide HK5).cell (x' := { x with log := Rf.taken x.log idx items, commit := min x.commit (LL : Int) }) 5 (.int .i64 (min x.commit (LL : Int))) ⟨rfl, rfl, rfl, rfl⟩ rfl
            have F5 := (unhide HF5).trans ((unhide HK5).cellFr 5 (.int .i64 (min x.commit (LL : Int))))
            have EN : Hid (Rf.heldN x idx items = { x with log := Rf.taken x.log idx items, commit := min x.commit (LL : Int) }) := hide (by rw [Rf.heldN, unhide HR2, if_pos (unhide Hy).2, ← unhide HLL])
            have FIN := hide (And.intro W5 F5)
            clear W5 F5
            go_region
            go_wp2
            ((try simp only [Exit.inBlock, Exit.then]); refine bodyPost_ret (results_none rfl _ _ _) rfl ?_)
            rw [unhide EN]
            exact ⟨rfl, _, (unhide FIN).1.drew, (unhide FIN).2.drew⟩
    · obtain rfl : m = IL := by omega
      have EN : Hid (Rf.heldN x idx items = x) := hide (by
        have h1 := (unhide HR).1
        rw [List.drop_of_length_le (by rw [← unhide hIL]; exact Nat.le_refl _)] at h1
        have h2 : Rf.held x.log idx items = items.length := by rw [h1, unhide hIL, Rf.held]; omega
        rw [Rf.heldN, Rf.taken, if_neg (by omega), if_neg (by omega)])
      have hi1 : ¬ (m : Int) < (m : Int) := by omega
      go_wp2
      go_end0
      rw [unhide EN]
      exact ⟨rfl, _, (unhide HK).below (unhide HB), Fr.below (unhide HB) (unhide HK).szB⟩

end Go.Proofs.Ytneepoaimbnneaa.RW
