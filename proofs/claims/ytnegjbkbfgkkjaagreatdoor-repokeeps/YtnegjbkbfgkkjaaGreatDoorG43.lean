/- Walks: a repo's lists are copied. -/
import Derived.Test.YtnegjbkbfgkkjaaGreatDoorG41
import Derived.Test.YtnegjbkbfgkkjaaGreatDoorG42
import Derived.BigRegion
namespace Go.Proofs.YtnegjbkbfgkkjaaGreatDoor
open Go.RowKit Go.MapKept

/-- a repo at work: its lists are its own -/
structure RW12 (B L : Nat) (w : World) (r : Rp.Repo ByteArray TbT) (ev sv : Value) : Prop where
  tell : ∃ ps css, ps.map Prod.fst = r.entries ∧ EW B L w ps ev ∧ Rows12 4 SeM r.seats css ∧ w.ownsRow L 49 4 sv r.seats.length css.flatten ∧ ∀ b, sv.ownBlock = some b → ¬ Ob ps ev b

/-- an entry whose versions lie below L -/
def EnL (B L : Nat) (w : World) (x : Rp.Ent ByteArray TbT) (cs : Array Value) : Prop := ∃ kv, cs = #[.string x.name, .int .i64 x.next, .int .i64 x.now, kv] ∧ Ls L w 6 (VeM B w) x.kept kv ∧ PlS kv
theorem EnL.below {B L : Nat} {w w' : World} (hB : B ≤ L) (hb : Below L w w') {x : Rp.Ent ByteArray TbT} {cs : Array Value} (h : EnL B L w x cs) : EnL B L w' x cs := by
  obtain ⟨kv, e, h, hp⟩ := h
  exact ⟨kv, e, h.below hb fun y cs => VeM.below (hb.mono hB), hp⟩
theorem EnL.of {B : Nat} {w : World} {x : Rp.Ent ByteArray TbT} {cs : Array Value} (h : EnM B w x cs) : EnL B w.heap.size w x cs := h
theorem one_EnL {B L : Nat} {w : World} {x : Rp.Ent ByteArray TbT} {c : List Value} (h : EnL B L w x c.toArray) : ∀ u ∈ c, u.oneCell' = true := by
  obtain ⟨kv, e, hl, _⟩ := h
  obtain ⟨a, cap, ek, _⟩ := hl.tell
  subst ek
  have := congrArg Array.toList e
  simp at this
  subst this
  intro u hu
  simp at hu
  rcases hu with rfl | rfl | rfl | rfl <;> rfl
theorem rows_psL {B L : Nat} {w : World} : ∀ {l : List (Rp.Ent ByteArray TbT)} {css : List (List Value)}, Rows12 4 (EnL B L w) l css → ∃ ps : List (Rp.Ent ByteArray TbT × Value), ps.map Prod.fst = l ∧ ps.map ec = css ∧ ∀ p ∈ ps, Ls L w 6 (VeM B w) p.1.kept p.2 ∧ PlS p.2
  | [], css, h => by
    have := h.len
    exact ⟨[], rfl, (List.length_eq_zero_iff.1 (by simpa using this)).symm, fun p hp => by cases hp⟩
  | x :: l, [], h => by have := h.len; simp at this
  | x :: l, c :: css, h => by
    obtain ⟨ps, h1, h2, h3⟩ := rows_psL h.tail
    obtain ⟨d, k1, _, kv, k2, k3, k4⟩ := h.each 0 x rfl
    have e : c = d := by simpa using k1
    subst e
    refine ⟨(x, kv) :: ps, by simp [h1], ?_, fun p hp => ?_⟩
    · rw [List.map_cons, h2]
      congr 1
      have := congrArg Array.toList k2
      simpa [ec] using this.symm
    · rcases List.mem_cons.1 hp with rfl | q
      · exact ⟨k3, k4⟩
      · exact h3 p q
/-- behind the two clones -/
structure CQ (B bx : Nat) (w : World) (r : Rp.Repo ByteArray TbT) (wc : World) : Prop where
  tell : ∃ xa xc ya yc css scss, Blk wc bx 27 #[.slice xa r.entries.length xc, .slice ya r.seats.length yc, .int .i64 r.applied]
    ∧ Blk wc (bx + 1) 27 #[.slice none 0 0, .slice none 0 0, .int .i64 0]
    ∧ Rows12 4 (EnL B bx wc) r.entries css ∧ wc.ownsRow (bx + 2) 54 4 (.slice xa r.entries.length xc) r.entries.length css.flatten
    ∧ Rows12 4 SeM r.seats scss ∧ wc.ownsRow (bx + 2) 49 4 (.slice ya r.seats.length yc) r.seats.length scss.flatten
    ∧ (∀ b, (Value.slice ya r.seats.length yc).ownBlock = some b → (Value.slice xa r.entries.length xc).ownBlock ≠ some b)
    ∧ Below w.heap.size w wc
theorem CQ.make {B bx : Nat} {w w1 wa : World} {r : Rp.Repo ByteArray TbT} {u v : Value} {xa ya : Option Addr} {xc yc : Nat} {css scss : List (List Value)} (hB : B ≤ w.heap.size) (hx : bx = w.heap.size) (hs : w1.heap.size = bx + 2) (hb1 : Below w.heap.size w w1) (hb : Below w1.heap.size w1 wa)
    (V : Blk w1 bx 27 #[u, v, .int .i64 r.applied]) (U : Blk w1 (bx + 1) 27 #[.slice none 0 0, .slice none 0 0, .int .i64 0])
    (hrE : Rows12 4 (EnL B bx wa) r.entries css) (hoE : wa.ownsRow w1.heap.size 54 4 (.slice xa r.entries.length xc) r.entries.length css.flatten)
    (hrS : Rows12 4 SeM r.seats scss) (hoS : wa.ownsRow w1.heap.size 49 4 (.slice ya r.seats.length yc) r.seats.length scss.flatten)
    (hne : ∀ b, (Value.slice ya r.seats.length yc).ownBlock = some b → (Value.slice xa r.entries.length xc).ownBlock ≠ some b) :
    CQ B bx w r ((wa.setCell ⟨bx, 0, none⟩ (.slice xa r.entries.length xc)).setCell ⟨bx, 1, none⟩ (.slice ya r.seats.length yc)) := by
  have V2 := (((V.kept hb).set 0 (.slice xa r.entries.length xc)).set 1 (.slice ya r.seats.length yc))
  have U2 := (((U.kept hb).other (q := bx) (by omega) 0 (.slice xa r.entries.length xc)).other (q := bx) (by omega) 1 (.slice ya r.seats.length yc))
  have bl : ∀ b, b ≠ bx → ((wa.setCell ⟨bx, 0, none⟩ (.slice xa r.entries.length xc)).setCell ⟨bx, 1, none⟩ (.slice ya r.seats.length yc)).heap[b]? = wa.heap[b]? := fun b hb => (Below.heap_setCell _ _ _ b hb).trans (Below.heap_setCell _ _ _ b hb)
  have hbw : Below w.heap.size w wa := below_via hb1 hb
  have hbB : Below w.heap.size wa ((wa.setCell ⟨bx, 0, none⟩ (.slice xa r.entries.length xc)).setCell ⟨bx, 1, none⟩ (.slice ya r.seats.length yc)) := ⟨rfl, rfl, rfl, by simp [World.setCell], fun b hb => bl b (by omega)⟩
  have lE := own_ltT hoE
  have lS := own_ltT hoS
  refine ⟨_, _, _, _, css, scss, V2, U2, hrE.imp fun x cs q => EnL.below (by omega) (hx ▸ hbB) q, own_mono12 (own_sameT hoE fun b q => bl b (by have := lE b q; omega)) (by omega), hrS, own_mono12 (own_sameT hoS fun b q => bl b (by have := lS b q; omega)) (by omega), hne, hbw.trans hbB⟩

/-- in the loop: the first m entries have rows of their own -/
structure LP12 (B bx : Nat) (w : World) (r : Rp.Repo ByteArray TbT) (xa ya : Option Addr) (xc yc : Nat) (scss : List (List Value)) (qs : List (Rp.Ent ByteArray TbT × Value)) (m : Nat) (wr : World) : Prop where
  fst : qs.map Prod.fst = r.entries
  cp : CP B (bx + 2) wr qs m (.slice xa r.entries.length xc)
  vb : Blk wr bx 27 #[.slice xa r.entries.length xc, .slice ya r.seats.length yc, .int .i64 r.applied]
  ub : Blk wr (bx + 1) 27 #[.slice none 0 0, .slice none 0 0, .int .i64 0]
  own : wr.ownsRow (bx + 2) 49 4 (.slice ya r.seats.length yc) r.seats.length scss.flatten
  ne : ∀ b, (Value.slice ya r.seats.length yc).ownBlock = some b → (Value.slice xa r.entries.length xc).ownBlock ≠ some b
  nk : ∀ i p b, i < m → qs[i]? = some p → p.2.ownBlock = some b → (Value.slice ya r.seats.length yc).ownBlock ≠ some b
  bel : Below w.heap.size w wr
theorem LP12.len {B bx : Nat} {w wr : World} {r : Rp.Repo ByteArray TbT} {xa ya : Option Addr} {xc yc : Nat} {scss : List (List Value)} {qs : List (Rp.Ent ByteArray TbT × Value)} {m : Nat} (h : LP12 B bx w r xa ya xc yc scss qs m wr) : qs.length = r.entries.length := by rw [← h.fst, List.length_map]
theorem LP12.step {B bx : Nat} {w wr w3 : World} {r : Rp.Repo ByteArray TbT} {xa ya : Option Addr} {xc yc : Nat} {scss : List (List Value)} {qs : List (Rp.Ent ByteArray TbT × Value)} {m g off : Nat} {x : Rp.Ent ByteArray TbT} {kv u : Value} (h : LP12 B bx w r xa ya xc yc scss qs m wr) (hB : B ≤ w.heap.size) (hbx : bx = w.heap.size) (hxa : xa = some ⟨g, off, none⟩) (h0 : off = 0) (hp : qs[m]? = some (x, kv)) (hb : Below wr.heap.size wr w3) (hu : KeM B wr.heap.size w3 x.kept u) :
    LP12 B bx w r xa ya xc yc scss (qs.set m (x, u)) (m + 1) (w3.setCell ⟨g, off + m * 4 + 3, none⟩ u) := by
  subst h0 hxa
  have hl := h.len
  have hbs := h.bel.size
  have hcp := h.cp
  rw [← hl] at hcp
  have ulow := h.ub.low
  have ST := hcp.step (by omega) (by omega) hp hb hu
  have hg := own_ltT h.cp.own g rfl
  have hul := hu.lt
  have hol := own_ltT h.own
  have bl : ∀ b, b ≠ g → (w3.setCell ⟨g, 0 + m * 4 + 3, none⟩ u).heap[b]? = w3.heap[b]? := fun b hb => Below.heap_setCell _ _ _ b hb
  have old : ∀ {i : Nat} {p : Rp.Ent ByteArray TbT × Value}, (qs.set m (x, u))[i]? = some p → (i = m ∧ p = (x, u)) ∨ (i ≠ m ∧ qs[i]? = some p) := by
    intro i p hi
    rw [List.getElem?_set] at hi
    split at hi
    · rename_i e
      split at hi
      · exact .inl ⟨e.symm, (Option.some.inj hi).symm⟩
      · cases hi
    · rename_i e
      exact .inr ⟨fun q => e q.symm, hi⟩
  refine ⟨?_, ?_, (h.vb.kept hb).other (by omega) _ _, (h.ub.kept hb).other (by omega) _ _, own_sameT (own_keepT h.own hb) fun b q => bl b fun e => h.ne b q (by rw [e]; rfl), h.ne, fun i p b hi hq hb' => ?_, ⟨?_, ?_, ?_, ?_, fun b hb' => ?_⟩⟩
  · rw [map_set_fst, h.fst]
    rw [← h.fst]
    apply List.ext_getElem?
    intro j
    rw [List.getElem?_set]
    split
    · rename_i e
      subst e
      have hlt := (List.getElem?_eq_some_iff.1 hp).1
      rw [if_pos (by simpa using hlt), List.getElem?_map, hp]
      rfl
    · rfl
  · rw [Nat.zero_add, ← hl]
    exact ST
  · rcases old hq with ⟨_, rfl⟩ | ⟨hne, hq'⟩
    · intro e
      have := hul b hb'
      have := hol b e
      omega
    · exact h.nk i p b (by omega) hq' hb'
  · exact hb.os.trans h.bel.os
  · exact hb.tape.trans h.bel.tape
  · exact hb.output.trans h.bel.output
  · have := hb.size; simp [World.setCell]; omega
  · rw [bl b (by omega)]
    exact (hb.block b (by omega)).trans (h.bel.block b hb')

theorem clone_Ver2 {B L M : Nat} (l : List (Rp.Ver TbT)) (v : Value) (wx : World) (h : Ls L wx 6 (VeM B wx) l v) (hp : PlS v) (hn : l.length ≤ 1000) (hB : B ≤ wx.heap.size) (hM : M ≤ wx.heap.size) :
    Calls Tryz.prog 32 #[v] wx fun e w' => ∃ v' css, e = .returned v' ∧ Rows12 6 (VeM B w') l css ∧ w'.ownsRow M 56 6 v' l.length css.flatten ∧ Below wx.heap.size wx w' := by
  refine (clone_Version l v wx h hp hn fun y c h => one_Version h).mono ?_
  rintro e w' ⟨v', css, rfl, h1, h2, hb⟩
  exact ⟨v', css, rfl, h1.imp fun y cs q => VeM.below (hb.mono hB) q, own_mono12 h2 hM, hb⟩
theorem EW.lower {B L L' : Nat} {w : World} {ps : List (Rp.Ent ByteArray TbT × Value)} {v : Value} (h : EW B L w ps v) (hL : L' ≤ L) : EW B L' w ps v :=
  ⟨own_mono12 h.own hL, fun p hp => by obtain ⟨css, k1, k2⟩ := h.kept p hp; exact ⟨css, k1, own_mono12 k2 hL⟩, h.apart, h.two⟩
/-- behind the loop -/
theorem LP12.fin {B bx : Nat} {w wr w5 : World} {r : Rp.Repo ByteArray TbT} {xa ya : Option Addr} {xc yc : Nat} {scss : List (List Value)} {qs : List (Rp.Ent ByteArray TbT × Value)} (h : LP12 B bx w r xa ya xc yc scss qs r.entries.length wr) (hB : B ≤ w.heap.size) (hbx : bx = w.heap.size) (hrS : Rows12 4 SeM r.seats scss) (ho : OutP (fun b => b = bx + 1) wr w5) :
    RW12 B w.heap.size w5 r (.slice xa r.entries.length xc) (.slice ya r.seats.length yc) ∧ Below w.heap.size w w5 := by
  have hl := h.len
  have hbs := h.bel.size
  have ulow := h.ub.low
  have hcp := h.cp
  have hz := ho.size
  rw [← hl] at hcp
  have E := hcp.whole
  have hOb : ∀ b, Ob qs (.slice xa qs.length xc) b → bx + 2 ≤ b := fun b q => (E.lt b q).1
  have E5 := E.out ho (fun b e => ⟨by omega, fun q => by have := hOb b q; omega⟩) (by omega)
  have hol := own_ltT h.own
  have hbw : Below w.heap.size wr w5 := ho.below (fun b e => by omega) hbs
  refine ⟨⟨qs, scss, h.fst, ?_, hrS, own_mono12 (own_sameT h.own fun b q => ho.block b (hol b q).2 fun e => by have := hol b q; omega) (by omega), fun b hb q => ?_⟩, h.bel.trans hbw⟩
  · rw [← hl]
    exact E5.lower (by omega)
  · rcases q with q | ⟨p, hp, q⟩
    · exact h.ne b hb q
    · obtain ⟨i, hi⟩ := List.getElem?_of_mem hp
      exact h.nk i p b (by have := (List.getElem?_eq_some_iff.1 hi).1; omega) hi q hb

set_option maxRecDepth 100000 in
set_option maxHeartbeats 8000000 in
theorem copied_any {B : Nat} (r : Rp.Repo ByteArray TbT) (cs : Array Value) (w : World) (hB : B ≤ w.heap.size) (hr : RpM B w r cs) (hl1 : r.entries.length ≤ 6) (hk : ∀ e ∈ r.entries, e.kept.length ≤ 3) (hl2 : r.seats.length ≤ 4) :
    Calls Tryz.prog 17 #[.agg cs] w fun e w' => ∃ ev sv, e = .returned (.agg #[ev, sv, .int .i64 r.applied]) ∧ RW12 B w.heap.size w' r ev sv ∧ Below w.heap.size w w' := by
  obtain ⟨ev0, sv0, rfl, ⟨hle, hpe⟩, hls, hps⟩ := hr
  obtain ⟨ea, ec0, he0, _⟩ := id hle.tell
  obtain ⟨sa, sc0, hs0, _⟩ := id hls.tell
  obtain ⟨w1, hw1⟩ : ∃ w1, w1 = (w.alloc (.cells #[ev0, sv0, .int .i64 r.applied] 27)).alloc (.cells #[.slice none 0 0, .slice none 0 0, .int .i64 0] 27) := ⟨_, rfl⟩
  have b1 : Below w.heap.size w w1 := by rw [hw1]; exact below_via (vbelow_new _ _) (vbelow_new _ _)
  have sz1 : w1.heap.size = w.heap.size + 2 := by rw [hw1]; simp
  have V1 : Blk w1 w.heap.size 27 #[ev0, sv0, .int .i64 r.applied] := by rw [hw1]; exact (Blk.new _ _ _).kept (vbelow_new _ _)
  have U1 : Blk w1 (w.heap.size + 1) 27 #[.slice none 0 0, .slice none 0 0, .int .i64 0] := by rw [hw1]; exact Blk.new1 _ _ _ _
  have hle1 : Ls w.heap.size w1 4 (EnL B w.heap.size w1) r.entries ev0 := hle.below b1 fun x cs h => EnL.below hB b1 h
  have hls1 := (hls.below b1 fun x cs h => h)
  have CE := hide (fun (wx : World) (hx : Below w1.heap.size w1 wx) => clone_Entry (L := w.heap.size) (R := EnL B w.heap.size wx) r.entries ev0 wx (hle1.below (hx.mono b1.size) fun x cs => EnL.below hB (hx.mono b1.size)) hpe (by omega) fun x c h => one_EnL h)
  have CS := hide (fun (wx : World) (hx : Below w1.heap.size w1 wx) => clone_Seat (L := w.heap.size) r.seats sv0 wx (hls1.below (hx.mono b1.size) fun x cs h => h) hps (by omega) fun x c h => one_Seat h)
  subst he0 hs0
  obtain ⟨v0, v1, v2, f0, f1, f2, vl⟩ := V1.at3
  have HV1 := hide V1
  have HU1 := hide U1
  have HB1 := hide b1
  have HS1 := hide sz1
  have HK := hide hk
  clear V1 U1 b1 sz1 hk hle1 hls1 hle hls
  go_enter Tryz.func17, Tryz.ntmps17
  go_upto_region 1 with fail
  rw [← hw1]
  clear hw1
  have KP := hide (fun (wx : World) (hx : Below w1.heap.size w1 wx) => ((unhide HV1).kept hx).at3)
  clear v0 v1 v2 f0 f1 f2 vl
  have hb0 := Below.refl w1.heap.size w1
  go_cut [] from 5 (fun wc => Hid (CQ B w.heap.size w r wc))
  case first =>
    obtain ⟨v0, v1, v2, f0, f1, f2, vl⟩ := unhide KP w1 (Below.refl _ _)
    go_region_with (first
      | ((with_reducible refine (unhide CE _ ?_).mono ?_; · exact (by repeat (first | assumption | apply Below.drew))); rintro e wE ⟨ev, css, rfl, hrE, hoE, hbE⟩; obtain ⟨xa, xc, rfl⟩ := own_slice12 hoE; replace hb0 : Below w1.heap.size w1 wE := below_via (by repeat (first | assumption | apply Below.drew)) hbE; obtain ⟨v0, v1, v2, f0, f1, f2, vl⟩ := unhide KP _ hb0)
      | ((with_reducible refine (unhide CS _ ?_).mono ?_; · exact (by repeat (first | assumption | apply Below.drew))); rintro e wS ⟨sv, scss, rfl, hrS, hoS, hbS⟩; obtain ⟨ya, yc, rfl⟩ := own_slice12 hoS; replace hb0 : Below w1.heap.size w1 wS := below_via (by repeat (first | assumption | apply Below.drew)) hbS; obtain ⟨v0, v1, v2, f0, f1, f2, vl⟩ := unhide KP _ hb0))
    all_goals
      go_wp2_with fail
      go_meet
      case rel =>
        have lE := own_ltT hoE
        have lS := own_ltT hoS
        have hz1 := unhide HS1
        refine hide ?_
        first
        | exact CQ.make hB rfl (unhide HS1) (unhide HB1) hb0 (unhide HV1) (unhide HU1) (hrE.imp fun x cs q => EnL.below hB (hbE.mono (by show w.heap.size ≤ w1.heap.size; omega)) q |> EnL.below hB (hbS.mono (by have := hbE.size; show w.heap.size ≤ wE.heap.size; simp at this; omega))) (own_mono12 (own_keepT hoE hbS) (by show w1.heap.size ≤ w1.heap.size; exact Nat.le_refl _)) hrS (own_mono12 hoS (by have := hbE.size; simp at this; omega)) (fun b q1 q2 => by have := lE b q2; have := lS b q1; omega)
        | exact CQ.make hB rfl (unhide HS1) (unhide HB1) hb0 (unhide HV1) (unhide HU1) (hrE.imp fun x cs q => EnL.below hB (hbE.mono (by have := hbS.size; simp at this; omega)) q) (own_mono12 hoE (by have := hbS.size; simp at this; omega)) hrS (own_mono12 (own_keepT hoS hbE) (by show w1.heap.size ≤ w1.heap.size; exact Nat.le_refl _)) (fun b q1 q2 => by have := lE b q2; have := lS b q1; omega)
  case rest =>
    clear KP CE CS hb0
    obtain ⟨xa, xc, ya, yc, css, scss, V, U, hrE, hoE, hrS, hoS, hne, hbw⟩ := (unhide hcut).tell
    obtain ⟨ps, hfst, hec, hraw⟩ := rows_psL hrE
    have hpl : ps.length = r.entries.length := by rw [← hfst, List.length_map]
    have LP0 : LP12 B w.heap.size w r xa ya xc yc scss ps 0 wc := by
      refine ⟨hfst, ⟨?_, fun i p hi => absurd hi (Nat.not_lt_zero _), fun i p _ hp => ?_, fun i p b hi => absurd hi (Nat.not_lt_zero _), fun i j p q b hij hj => absurd hj (Nat.not_lt_zero _)⟩, V, U, hoS, hne, fun i p b hi => absurd hi (Nat.not_lt_zero _), hbw⟩
      · rw [hpl, hec]; exact hoE
      · obtain ⟨q1, q2⟩ := hraw p (List.mem_of_getElem? hp)
        exact ⟨q1.mono (by omega) fun x cs q => q, q2⟩
    obtain ⟨v0, v1, v2, f0, f1, f2, vl⟩ := V.at3
    have HLP := hide LP0
    have HRS := hide hrS
    clear V U hrE hoE hrS hoS hne hbw hraw hec hpl hfst LP0 hcut
    go_wp2_with fail
    clear v0 v1 v2 f0 f1 f2 vl
    go_loopw [16] (fun i wr => ∃ (m : Nat) (qs : List (Rp.Ent ByteArray TbT × Value)), m ≤ r.entries.length ∧ i = .int .i64 (m : Int) ∧ Hid (LP12 B w.heap.size w r xa ya xc yc scss qs m wr)) (fun i _ => r.entries.length - (intOf i).toNat)
    case atStart => exact ⟨0, ps, Nat.zero_le _, rfl, HLP⟩
    case round =>
      obtain ⟨m, qs, hm, rfl, HL⟩ := hrel
      clear HLP
      by_cases hlt : m < r.entries.length
      · have hql := (unhide HL).len
        obtain ⟨⟨x, kv⟩, hp⟩ : ∃ p, qs[m]? = some p := ⟨_, List.getElem?_eq_getElem (by omega)⟩
        obtain ⟨raw, hpk⟩ := (unhide HL).cp.raw m _ (Nat.le_refl _) hp
        obtain ⟨ka, kc, ekv, _⟩ := id raw.tell
        simp only at ekv raw hpk
        subst ekv
        obtain ⟨g, off, cap, h00, hv, hg1, hg2, hfz, hcell⟩ := (unhide HL).cp.place (by omega)
        have hxa : xa = some ⟨g, off, none⟩ := by simp at hv; exact hv.1
        subst hxa
        have H00 := hide h00
        clear h00
        obtain ⟨c0, c1, c2, c3⟩ := hcell m x _ hp
        have hkx : x.kept.length ≤ 3 := unhide HK x (by rw [← (unhide HL).fst]; exact List.mem_map.2 ⟨_, List.mem_of_getElem? hp, rfl⟩)
        obtain ⟨w4, hw4⟩ : ∃ w4, w4 = wr.alloc (.cells #[.string x.name, .int .i64 x.next, .int .i64 x.now, .slice ka x.kept.length kc] 54) := ⟨_, rfl⟩
        have b4 : Below wr.heap.size wr w4 := by rw [hw4]; exact vbelow_new _ _
        have E4 : Blk w4 wr.heap.size 54 #[.string x.name, .int .i64 x.next, .int .i64 x.now, .slice ka x.kept.length kc] := by rw [hw4]; exact Blk.new _ _ _
        have hbx2 : w.heap.size + 2 ≤ wr.heap.size := by have := (unhide HL).ub.low; omega
        have CV := hide (fun (wx : World) (hx : Below w4.heap.size w4 wx) => clone_Ver2 (B := B) (L := w.heap.size + 2) (M := wr.heap.size) x.kept (.slice ka x.kept.length kc) wx (raw.below ((b4.trans (hx.mono b4.size)).mono hbx2) fun y cs => VeM.below ((b4.trans (hx.mono b4.size)).mono (by omega))) hpk (by omega) (by have := b4.size; have := hx.size; omega) (by have := b4.size; have := hx.size; omega))
        have KG := hide (fun (wx : World) (hx : Below w4.heap.size w4 wx) => And.intro (((b4.trans (hx.mono b4.size)).cell (p := ⟨g, off + m * 4 + 3, none⟩) hg2).trans c3) (((b4.trans (hx.mono b4.size)).frozen (p := ⟨g, off + m * 4 + 3, none⟩) hg2).trans (hfz _)))
        have KV := hide (fun (wx : World) (hx : Below w4.heap.size w4 wx) => And.intro (((unhide HL).vb.kept (b4.trans (hx.mono b4.size))).at3) (E4.kept hx).at4)
        have FIN := hide (fun (w6 : World) (a : Option Addr) (n c : Nat) (css : List (List Value)) (hx : Below w4.heap.size w4 w6) (h1 : Rows12 6 (VeM B w6) x.kept css) (h2 : w6.ownsRow wr.heap.size 56 6 (.slice a n c) x.kept.length css.flatten) => (unhide HL).step hB rfl rfl (unhide H00) hp (b4.trans (hx.mono b4.size)) ⟨css, h1, h2⟩)
        have hi1 : (m : Int) < (r.entries.length : Int) := by omega
        have hi0 : (0 : Int) ≤ (m : Int) := by omega
        have hw : IntKind.i64.wrap ((m : Int) + 1) = ((m + 1 : Nat) : Int) := by rw [IntKind.wrap_i64]; omega
        have hz4 := b4.size
        have HZ4 := hide hz4
        have hb0 := Below.refl w4.heap.size w4
        clear raw hpk hp hv hg1 hg2 hfz hcell E4 hbx2 b4 hkx hz4 HL
        go_upto_region 5 with fail
        rw [← hw4]
        clear hw4 c0 c1 c2 c3
        obtain ⟨⟨v0, v1, v2, f0, f1, f2, vl⟩, e0, e1, e2, e3, _⟩ := unhide KV w4 (Below.refl _ _)
        obtain ⟨c3, z3⟩ := unhide KG w4 (Below.refl _ _)
        go_region_with ((with_reducible refine (unhide CV _ ?_).mono ?_; · exact (by repeat (first | assumption | apply Below.drew))); rintro e w6 ⟨u, css6, rfl, h1, h2, hb6⟩; obtain ⟨ua, uc, rfl⟩ := own_slice12 h2; replace hb0 : Below w4.heap.size w4 w6 := below_via (by repeat (first | assumption | apply Below.drew)) hb6; obtain ⟨⟨v0, v1, v2, f0, f1, f2, vl⟩, _⟩ := unhide KV _ hb0; obtain ⟨c3, z3⟩ := unhide KG _ hb0)
        all_goals
          have HN := hide (unhide FIN _ _ _ _ _ hb0 h1 h2)
          clear v0 v1 v2 f0 f1 f2 vl c3 z3 e0 e1 e2 e3 h1 h2 hb6 hb0 FIN KV KG CV
          go_wp2
          go_roundw
          case rel => exact ⟨m + 1, qs.set m (x, .slice ua x.kept.length uc), by omega, by first | rfl | go_num, HN⟩
          case measure => simp [intOf]; omega
      · obtain rfl : m = r.entries.length := by omega
        obtain ⟨v0, v1, v2, f0, f1, f2, vl⟩ := (unhide HL).vb.at3
        obtain ⟨q0, q1, q2, p0, p1, p2, ql⟩ := (unhide HL).ub.at3
        go_wp2
        refine bodyPost_ret (v := .agg #[.slice xa r.entries.length xc, .slice ya r.seats.length yc, .int .i64 r.applied]) (by simp [results, Tryz.results17, go_sem, q0, q1, q2]) rfl ⟨_, _, rfl, ?_⟩
        exact (unhide HL).fin hB rfl (unhide HRS) (OutP.set3 _ _ _ _ _)
end Go.Proofs.YtnegjbkbfgkkjaaGreatDoor

/- A repo at work: what the steps of Apply make of it. -/
namespace Go.Proofs.YtnegjbkbfgkkjaaGreatDoor
open Go.RowKit Go.MapKept

theorem RW12.out {B L : Nat} {w w' : World} {r : Rp.Repo ByteArray TbT} {ev sv : Value} {O : Nat → Prop} (h : RW12 B L w r ev sv) (ho : OutP O w w') (hO : ∀ b, O b → B ≤ b ∧ b < L) (hB : B ≤ w.heap.size) : RW12 B L w' r ev sv := by
  obtain ⟨ps, css, h1, E, h3, h4, h5⟩ := h.tell
  have lS := own_ltT h4
  exact ⟨ps, css, h1, E.out ho (fun b q => ⟨(hO b q).1, fun r => by have := (E.lt b r).1; have := (hO b q).2; omega⟩) hB, h3, own_sameT h4 fun b q => ho.block b (lS b q).2 fun r => by have := (hO b r).2; have := (lS b q).1; omega, h5⟩
theorem RW12.below {B L : Nat} {w w' : World} {r : Rp.Repo ByteArray TbT} {ev sv : Value} (h : RW12 B L w r ev sv) (hb : Below w.heap.size w w') (hB : B ≤ w.heap.size) : RW12 B L w' r ev sv :=
  h.out (OutP.of_below (O := fun _ => False) hb) (fun _ q => q.elim) hB
theorem RW12.rpm {B L : Nat} {w : World} {r : Rp.Repo ByteArray TbT} {ev sv : Value} (h : RW12 B L w r ev sv) : RpM B w r #[ev, sv, .int .i64 r.applied] := by
  obtain ⟨ps, css, h1, E, h3, h4, h5⟩ := h.tell
  have := E.ls
  rw [h1] at this
  exact ⟨ev, sv, rfl, this, rows_ls h3 h4 (Nat.le_refl _)⟩
theorem RW12.shape {B L : Nat} {w : World} {r : Rp.Repo ByteArray TbT} {ev sv : Value} (h : RW12 B L w r ev sv) : ∃ ea ec sa sc, ev = .slice ea r.entries.length ec ∧ sv = .slice sa r.seats.length sc := by
  obtain ⟨ps, css, h1, E, h3, h4, h5⟩ := h.tell
  obtain ⟨ea, ec0, e1⟩ := E.slice
  obtain ⟨sa, sc, e2⟩ := own_slice12 h4
  exact ⟨ea, ec0, sa, sc, by rw [e1, ← h1, List.length_map], e2⟩
theorem RpM.below {B : Nat} {w w' : World} {r : Rp.Repo ByteArray TbT} {cs : Array Value} (h : RpM B w r cs) (hB : B ≤ w.heap.size) (hb : Below w.heap.size w w') : RpM B w' r cs := by
  obtain ⟨ev, sv, e, ⟨h1, h2⟩, h3, h4⟩ := h
  exact ⟨ev, sv, e, ⟨(h1.below hb fun x cs => EnM.below hB hb).mono hb.size fun x cs q => q, h2⟩, (h3.below hb fun x cs q => q).mono hb.size fun x cs q => q, h4⟩
theorem done_rw {B L : Nat} (r : Rp.Repo ByteArray TbT) (ev sv : Value) (c : CmT) (cc : Array Value) (w : World) (hBL : B ≤ L) (hL : L ≤ w.heap.size) (h : RW12 B L w r ev sv) (hr : Rise r.entries) (hl : r.entries.length ≤ 6) (hG : GdT B w) (hc : CmM B w c cc)
    (hn : ∀ e ∈ r.entries, -1000000000000000000 ≤ e.next ∧ e.next ≤ 1000000000000000000) (hk : ∀ e ∈ r.entries, e.kept.length ≤ 3) :
    Calls Tryz.prog 20 #[ev, .agg cc] w fun e w' => ∃ u, e = .returned (.tuple #[u, .agg #[.int .i64 (doneN r.entries c).2.err, .int .i64 (doneN r.entries c).2.version]]) ∧ RW12 B L w' ⟨(doneN r.entries c).1, r.seats, r.applied⟩ u sv ∧ Below L w w' := by
  obtain ⟨ps, css, h1, E, h3, h4, h5⟩ := h.tell
  have hpl : ps.length = r.entries.length := by rw [← h1, List.length_map]
  rw [← h1] at hr hn hk
  refine (done_any ps ev c cc w hBL hL E hr (by omega) hG hc hn hk).mono ?_
  rintro e w' ⟨u, er, vr, rfl, hd⟩
  rw [h1] at hd
  obtain ⟨ps', E', e1, rfl, rfl, O, hN⟩ := hd
  have lS := own_ltT h4
  have hOb : ∀ b, Ob ps ev b → L ≤ b := fun b q => (E.lt b q).1
  refine ⟨u, rfl, ⟨ps', css, e1, E', h3, own_sameT h4 fun b q => O.block b (lS b q).2 fun s => h5 b q s, fun b hb q => ?_⟩, O.below hOb hL⟩
  rcases hN b q with s | s
  · exact h5 b hb s
  · have := (lS b hb).2; omega
theorem seated_rw {B L : Nat} (r : Rp.Repo ByteArray TbT) (ev sv : Value) (ss sq se sn : Int) (w : World) (hBL : B ≤ L) (hL : L ≤ w.heap.size) (h : RW12 B L w r ev sv) (hl : r.seats.length ≤ 4) (hd : Dist r.seats) :
    Calls Tryz.prog 21 #[sv, .agg #[.int .i64 ss, .int .i64 sq, .int .i64 se, .int .i64 sn]] w fun e w' => ∃ u, e = .returned u ∧ RW12 B L w' ⟨r.entries, Rp.seated r.seats ⟨ss, sq, ⟨se, sn⟩⟩, r.applied⟩ ev u ∧ Below L w w' ∧ OutP (fun b => sv.ownBlock = some b) w w' := by
  obtain ⟨ps, css, h1, E, h3, h4, h5⟩ := h.tell
  refine (seated_any r.seats css sv ss sq se sn w hL (by omega) hd h3 h4).mono ?_
  rintro e w' ⟨v', css', rfl, k1, k2, k3, k4⟩
  have lS := own_ltT h4
  have O := OutP.of_grown (O := fun b => sv.ownBlock = some b) k3 fun b q _ => q
  have hb : Below L w w' := O.below (fun b q => (lS b q).1) hL
  refine ⟨v', rfl, ⟨ps, css', h1, E.out O (fun b q => ⟨by have := (lS b q).1; omega, h5 b q⟩) (by omega), k1, k2, fun b hb' q => ?_⟩, hb, O⟩
  rcases k4 with s | ⟨d, s, hd⟩
  · exact h5 b (s ▸ hb') q
  · rw [s] at hb'
    have := Option.some.inj hb'
    have := (E.lt b q).2
    omega
theorem RW12.lt {B L : Nat} {w : World} {r : Rp.Repo ByteArray TbT} {ev sv : Value} (h : RW12 B L w r ev sv) : ∀ b, sv.ownBlock = some b → L ≤ b ∧ b < w.heap.size := by
  obtain ⟨ps, css, h1, E, h3, h4, h5⟩ := h.tell
  exact own_ltT h4
/-- a command in plain words -/
theorem applyN_bad {r : Rp.Repo ByteArray TbT} {c : CmT} (h : c.session < 1 ∨ c.seq < 1) : applyN r c = (r, ⟨3, 0⟩) := by
  unfold applyN Rp.apply
  rw [if_pos (show (cmdR c).session < 1 ∨ (cmdR c).seq < 1 from h)]
theorem applyN_known {r : Rp.Repo ByteArray TbT} {c : CmT} {p : Rp.Reply} (h : ¬ (c.session < 1 ∨ c.seq < 1)) (hh : heardF r.seats c.session c.seq = (p, true)) : applyN r c = (r, p) := by
  unfold applyN Rp.apply
  rw [if_neg (show ¬ ((cmdR c).session < 1 ∨ (cmdR c).seq < 1) from h)]
  unfold heardF at hh
  show (match Rp.findS r.seats c.session with | some s => _ | none => _) = _
  cases hs : Rp.findS r.seats c.session with
  | none => rw [hs] at hh; simp at hh
  | some s =>
    rw [hs] at hh
    simp only at hh ⊢
    by_cases h1 : s.seq < c.seq
    · rw [if_pos h1] at hh; simp at hh
    · rw [if_neg h1] at hh
      by_cases h2 : c.seq < s.seq
      · rw [if_pos h2] at hh
        simp only [Prod.mk.injEq, and_true] at hh
        rw [← hh]
        show (if c.seq = s.seq then _ else if c.seq < s.seq then _ else _) = _
        rw [if_neg (by omega), if_pos h2]
      · rw [if_neg h2] at hh
        simp only [Prod.mk.injEq, and_true] at hh
        rw [← hh]
        show (if c.seq = s.seq then _ else if c.seq < s.seq then _ else _) = _
        rw [if_pos (by omega)]
theorem applyN_new {r : Rp.Repo ByteArray TbT} {c : CmT} {p : Rp.Reply} (h : ¬ (c.session < 1 ∨ c.seq < 1)) (hh : heardF r.seats c.session c.seq = (p, false)) : applyN r c = (⟨(doneN r.entries c).1, Rp.seated r.seats ⟨c.session, c.seq, (doneN r.entries c).2⟩, r.applied + 1⟩, (doneN r.entries c).2) := by
  unfold applyN Rp.apply
  rw [if_neg (show ¬ ((cmdR c).session < 1 ∨ (cmdR c).seq < 1) from h)]
  unfold heardF at hh
  show (match Rp.findS r.seats c.session with | some s => _ | none => _) = _
  cases hs : Rp.findS r.seats c.session with
  | none => rfl
  | some s =>
    rw [hs] at hh
    simp only at hh ⊢
    by_cases h1 : s.seq < c.seq
    · show (if c.seq = s.seq then _ else if c.seq < s.seq then _ else _) = _
      rw [if_neg (by omega), if_neg (by omega)]
      rfl
    · rw [if_neg h1] at hh
      by_cases h2 : c.seq < s.seq
      · rw [if_pos h2] at hh; simp at hh
      · rw [if_neg h2] at hh; simp at hh
end Go.Proofs.YtnegjbkbfgkkjaaGreatDoor

/- Walks: a command is applied to a repo. -/
namespace Go.Proofs.YtnegjbkbfgkkjaaGreatDoor
open Go.RowKit Go.MapKept

def c10 (c : CmT) (ia oa ra : Option Addr) (ic oc rc : Nat) : Array Value := #[.int .i64 c.session, .int .i64 c.seq, .int .i64 c.kind, .string c.table.name, .int .i64 c.table.pol, .slice ia c.table.ins.length ic, .slice oa c.table.outs.length oc, .slice ra c.table.rules.length rc, .string c.name, .int .i64 c.back]
/-- what Apply promises -/
def ApP (B : Nat) (w : World) (r : Rp.Repo ByteArray TbT) (c : CmT) (e : Ending) (w' : World) : Prop := ∃ ev sv, e = .returned (.tuple #[.agg #[ev, sv, .int .i64 (applyN r c).1.applied], .agg #[.int .i64 (applyN r c).2.err, .int .i64 (applyN r c).2.version]]) ∧ RW12 B w.heap.size w' (applyN r c).1 ev sv ∧ Below w.heap.size w w'

theorem RW12.lower {B L L' : Nat} {w : World} {r : Rp.Repo ByteArray TbT} {ev sv : Value} (h : RW12 B L w r ev sv) (hL : L' ≤ L) : RW12 B L' w r ev sv := by
  obtain ⟨ps, css, h1, E, h3, h4, h5⟩ := h.tell
  exact ⟨ps, css, h1, E.lower hL, h3, own_mono12 h4 hL, h5⟩
theorem RW12.told {B L : Nat} {w W W' : World} {r : Rp.Repo ByteArray TbT} {ev sv : Value} (h : RW12 B L W r ev sv) (hB : B ≤ w.heap.size) (hL : w.heap.size + 4 ≤ L) (hb : Below w.heap.size w W) (ho : OutP (fun b => w.heap.size ≤ b ∧ b < w.heap.size + 4) W W') : RW12 B w.heap.size W' r ev sv ∧ Below w.heap.size w W' := by
  have hz := hb.size
  exact ⟨(h.out ho (fun b q => ⟨by omega, by omega⟩) (by omega)).lower (by omega), hb.trans (ho.below (fun b q => q.1) (by omega))⟩
theorem Blk.at10 {w : World} {b : Nat} {T : TypeId} {v0 v1 v2 v3 v4 v5 v6 v7 v8 v9 : Value} (h : Blk w b T #[v0, v1, v2, v3, v4, v5, v6, v7, v8, v9]) : w.cell? ⟨b, 0, none⟩ = some v0 ∧ w.cell? ⟨b, 1, none⟩ = some v1 ∧ w.cell? ⟨b, 2, none⟩ = some v2 ∧ w.cell? ⟨b, 3, none⟩ = some v3 ∧ w.cell? ⟨b, 4, none⟩ = some v4 ∧ w.cell? ⟨b, 5, none⟩ = some v5 ∧ w.cell? ⟨b, 6, none⟩ = some v6 ∧ w.cell? ⟨b, 7, none⟩ = some v7 ∧ w.cell? ⟨b, 8, none⟩ = some v8 ∧ w.cell? ⟨b, 9, none⟩ = some v9 :=
  ⟨h.at 0 _ rfl, h.at 1 _ rfl, h.at 2 _ rfl, h.at 3 _ rfl, h.at 4 _ rfl, h.at 5 _ rfl, h.at 6 _ rfl, h.at 7 _ rfl, h.at 8 _ rfl, h.at 9 _ rfl⟩
theorem Blk.set3 {w : World} {b : Nat} {T : TypeId} {v0 v1 v2 : Value} (h : Blk w b T #[v0, v1, v2]) (a c d : Value) : Blk (((w.setCell ⟨b, 0, none⟩ a).setCell ⟨b, 1, none⟩ c).setCell ⟨b, 2, none⟩ d) b T #[a, c, d] := ((h.set 0 a).set 1 c).set 2 d
/-- the four blocks of Apply -/
structure AB (n : Nat) (W : World) (u0 u1 u2 : Value) (cs : Array Value) : Prop where
  r : Blk W n 27 #[u0, u1, u2]
  c : Blk W (n + 1) 36 cs
  rr : Blk W (n + 1 + 1) 27 #[.slice none 0 0, .slice none 0 0, .int .i64 0]
  rp : Blk W (n + 1 + 1 + 1) 39 #[.int .i64 0, .int .i64 0]
theorem AB.keep {n L : Nat} {W W' : World} {u0 u1 u2 : Value} {cs : Array Value} (h : AB n W u0 u1 u2 cs) (hb : Below L W W') (hL : n + 4 ≤ L) : AB n W' u0 u1 u2 cs :=
  ⟨h.r.keep hb (by omega), h.c.keep hb (by omega), h.rr.keep hb (by omega), h.rp.keep hb (by omega)⟩
theorem AB.other {n q o : Nat} {W : World} {u0 u1 u2 u : Value} {cs : Array Value} (h : AB n W u0 u1 u2 cs) (hq : n + 4 ≤ q) : AB n (W.setCell ⟨q, o, none⟩ u) u0 u1 u2 cs :=
  ⟨h.r.other (by omega) _ _, h.c.other (by omega) _ _, h.rr.other (by omega) _ _, h.rp.other (by omega) _ _⟩
theorem AB.set {n o : Nat} {W : World} {u0 u1 u2 u a0 a1 a2 : Value} {cs : Array Value} (h : AB n W u0 u1 u2 cs) (e : (#[u0, u1, u2] : Array Value).setIfInBounds o u = #[a0, a1, a2]) : AB n (W.setCell ⟨n, o, none⟩ u) a0 a1 a2 cs :=
  ⟨e ▸ h.r.set o u, h.c.other (by omega) _ _, h.rr.other (by omega) _ _, h.rp.other (by omega) _ _⟩

set_option maxRecDepth 100000 in
set_option maxHeartbeats 8000000 in
theorem apply_any {B : Nat} {N : Int} (r : Rp.Repo ByteArray TbT) (cs : Array Value) (c : CmT) (cc : Array Value) (w : World) (hB : B ≤ w.heap.size) (hG : GdT B w) (hr : RpM B w r cs) (hc : CmM B w c cc) (hg : RG N r) (hN : N ≤ 100000000000000000) :
    Calls Tryz.prog 10 #[.agg cs, .agg cc] w (ApP B w r c) := by
  obtain ⟨ia, oa, ra, ic, oc, rc, rfl, ht⟩ := hc.open
  obtain ⟨w1, hw1⟩ : ∃ w1, w1 = (((w.alloc (.cells cs 27)).alloc (.cells #[.int .i64 c.session, .int .i64 c.seq, .int .i64 c.kind, .string c.table.name, .int .i64 c.table.pol, .slice ia c.table.ins.length ic, .slice oa c.table.outs.length oc, .slice ra c.table.rules.length rc, .string c.name, .int .i64 c.back] 36)).alloc (.cells #[.slice none 0 0, .slice none 0 0, .int .i64 0] 27)).alloc (.cells #[.int .i64 0, .int .i64 0] 39) := ⟨_, rfl⟩
  have b1 : Below w.heap.size w w1 := by rw [hw1]; exact below_via (below_via (below_via (vbelow_new _ _) (vbelow_new _ _)) (vbelow_new _ _)) (vbelow_new _ _)
  have sz1 : w1.heap.size = w.heap.size + 4 := by rw [hw1]; simp
  have CQ0 := hide (copied_any r cs w1 (Nat.le_trans hB b1.size) (hr.below hB b1) hg.inv.few (fun e he => (hg.inv.ent e he).few) hg.inv.seats)
  obtain ⟨ev0, sv0, rfl, hlsE, hlsS⟩ := hr
  obtain ⟨ea, ec0, he0, _⟩ := id hlsE.1.tell
  obtain ⟨sa, sc0, hs0, _⟩ := id hlsS.1.tell
  obtain ⟨CC, hCC⟩ : ∃ CC : Array Value, CC = #[.int .i64 c.session, .int .i64 c.seq, .int .i64 c.kind, .string c.table.name, .int .i64 c.table.pol, .slice ia c.table.ins.length ic, .slice oa c.table.outs.length oc, .slice ra c.table.rules.length rc, .string c.name, .int .i64 c.back] := ⟨_, rfl⟩
  have A1 : AB w.heap.size w1 ev0 sv0 (.int .i64 r.applied) CC := by
    rw [hw1, hCC]
    exact ⟨((Blk.new _ _ _).kept (vbelow_new _ _)).kept (below_via (vbelow_new _ _) (vbelow_new _ _)), (Blk.new1 _ _ _ _).kept (below_via (vbelow_new _ _) (vbelow_new _ _)), by have := (Blk.new1 (w.alloc (.cells #[ev0, sv0, .int .i64 r.applied] 27)) (.cells #[.int .i64 c.session, .int .i64 c.seq, .int .i64 c.kind, .string c.table.name, .int .i64 c.table.pol, .slice ia c.table.ins.length ic, .slice oa c.table.outs.length oc, .slice ra c.table.rules.length rc, .string c.name, .int .i64 c.back] 36) 27 #[.slice none 0 0, .slice none 0 0, .int .i64 0]).kept (vbelow_new _ (.cells #[.int .i64 0, .int .i64 0] 39)); simpa using this, by have := Blk.new1 ((w.alloc (.cells #[ev0, sv0, .int .i64 r.applied] 27)).alloc (.cells #[.int .i64 c.session, .int .i64 c.seq, .int .i64 c.kind, .string c.table.name, .int .i64 c.table.pol, .slice ia c.table.ins.length ic, .slice oa c.table.outs.length oc, .slice ra c.table.rules.length rc, .string c.name, .int .i64 c.back] 36)) (.cells #[.slice none 0 0, .slice none 0 0, .int .i64 0] 27) 39 #[.int .i64 0, .int .i64 0]; simpa using this⟩
  subst he0 hs0
  have HC := hide hc
  have HG := hide hG
  have HB1 := hide b1
  have HS1 := hide sz1
  have HA1 := hide A1
  have HRG := hide hg
  have RFD := hide (fun k wx => refused_any k wx)
  obtain ⟨c0, c1, c2, z0, z1, z2, zl⟩ := A1.r.at3
  clear hlsE hlsS hc hG ht b1 sz1 A1
  go_enter Tryz.func10, Tryz.ntmps10
  go_upto_region 1 with fail
  rw [← hw1]
  clear hw1
  go_wp2_with fail
  refine (unhide CQ0).mono ?_
  rintro e w2 ⟨ev, sv, rfl, hrw, hb2⟩
  obtain ⟨xa, xc, ya, yc, rfl, rfl⟩ := hrw.shape
  have A2 := (unhide HA1).keep hb2 (by have := unhide HS1; omega)
  have HRW2 := hide hrw
  have HB2 := hide hb2
  have HA2 := hide A2
  obtain ⟨w3, hw3⟩ : ∃ w3, w3 = ((w2.setCell ⟨w.heap.size, 0, none⟩ (.slice xa r.entries.length xc)).setCell ⟨w.heap.size, 1, none⟩ (.slice ya r.seats.length yc)).setCell ⟨w.heap.size, 2, none⟩ (.int .i64 r.applied) := ⟨_, rfl⟩
  have A3 : AB w.heap.size w3 (.slice xa r.entries.length xc) (.slice ya r.seats.length yc) (.int .i64 r.applied) CC := by rw [hw3]; exact ((A2.set (a0 := .slice xa r.entries.length xc) rfl).set (a1 := .slice ya r.seats.length yc) rfl).set rfl
  have RW3 : RW12 B w1.heap.size w3 r (.slice xa r.entries.length xc) (.slice ya r.seats.length yc) := by
    rw [hw3]
    exact hrw.out (OutP.set3 _ _ _ _ _) (fun b q => ⟨by omega, by have := unhide HS1; omega⟩) (by have := hb2.size; have := unhide HS1; omega)
  have HSZ3 : Hid (w3.heap.size = w2.heap.size) := hide (by rw [hw3]; simp [World.setCell])
  have hb3 : Below w.heap.size w w3 := by
    rw [hw3]
    exact ((unhide HB1).trans (hb2.mono (unhide HB1).size)).trans ((OutP.set3 _ _ _ _ _).below (fun b q => by omega) (by have := hb2.size; have := unhide HS1; omega))
  obtain ⟨c0, c1, c2, z0, z1, z2, zl⟩ := A2.r.at3
  have HCM := hide (fun (W : World) (A : Blk W (w.heap.size + 1) 36 CC) => (show Blk W (w.heap.size + 1) 36 #[.int .i64 c.session, .int .i64 c.seq, .int .i64 c.kind, .string c.table.name, .int .i64 c.table.pol, .slice ia c.table.ins.length ic, .slice oa c.table.outs.length oc, .slice ra c.table.rules.length rc, .string c.name, .int .i64 c.back] from hCC ▸ A).at10)
  obtain ⟨d0, d1, d2, d3, d4, d5, d6, d7, d8, d9⟩ := unhide HCM w3 A3.c
  have HA3 := hide A3
  have HRW3 := hide RW3
  have HB3 := hide hb3
  have HCC := hide hCC
  clear hrw hb2 A2 A3 RW3 hb3 CQ0 hCC
  go_upto_region 2 with fail
  rw [← hw3]
  clear hw3 c0 c1 c2 z0 z1 z2 zl
  have KA := hide (fun (wx : World) (hx : Below w3.heap.size w3 wx) => And.intro ((unhide HA3).r.kept hx).at3 (And.intro ((unhide HA3).rr.kept hx).at3 ((unhide HA3).rp.kept hx).at2))
  by_cases hbad : c.session < 1 ∨ c.seq < 1
  · have HAP := hide (applyN_bad (r := r) hbad)
    have hb0 := Below.refl w3.heap.size w3
    obtain ⟨⟨c0, c1, c2, z0, z1, z2, zl⟩, ⟨r0, r1, r2, y0, y1, y2, yl⟩, p0, p1, x0, x1, xl⟩ := unhide KA w3 hb0
    rcases (show c.session < 1 ∨ (¬ c.session < 1 ∧ c.seq < 1) by omega) with h1 | ⟨h1, h2⟩
    all_goals clear hbad
    all_goals
      go_wp2_with fail
      go_region_with ((with_reducible refine (unhide RFD _ _).mono ?_); rintro e w4 ⟨rfl, hb4⟩; replace hb0 : Below w3.heap.size w3 w4 := below_via (by repeat (first | assumption | apply Below.drew)) hb4; obtain ⟨⟨c0, c1, c2, z0, z1, z2, zl⟩, ⟨r0, r1, r2, y0, y1, y2, yl⟩, p0, p1, x0, x1, xl⟩ := unhide KA _ hb0)
      all_goals
        go_wp2
        refine bodyPost_ret (v := .tuple #[.agg #[.slice xa r.entries.length xc, .slice ya r.seats.length yc, .int .i64 r.applied], .agg #[.int .i64 3, .int .i64 0]]) (by simp [results, Tryz.results10, go_sem, r0, r1, r2, p0, p1]) rfl ?_
        unfold ApP
        rw [unhide HAP]
        refine ⟨_, _, rfl, ?_⟩
        exact ((unhide HRW3).below hb0 (Nat.le_trans hB (unhide HB3).size)).told hB (by have := unhide HS1; omega) (below_via (unhide HB3) hb0) (by repeat (first | exact OutP.refl _ _ | refine OutP.seti ?_ _ (by dsimp only; omega) _))
  · obtain ⟨g1, g2⟩ : ¬ c.session < 1 ∧ ¬ c.seq < 1 := by omega
    have HNB := hide hbad
    have hB3 : B ≤ w3.heap.size := Nat.le_trans hB (unhide HB3).size
    have hBL : B ≤ w1.heap.size := by have := unhide HS1; omega
    have hL3 : w1.heap.size ≤ w3.heap.size := by have := (unhide HB2).size; rw [show w3.heap.size = w2.heap.size from (unhide HSZ3)]; exact this
    have hcm3 := (unhide HC).below ((unhide HB3).mono hB)
    obtain ⟨_, _, e3, _, hs3⟩ := (unhide HRW3).rpm
    have hse := congrArg (fun a : Array Value => a[1]?) e3
    simp at hse
    rw [← hse] at hs3
    have HH := heard_any r.seats (.slice ya r.seats.length yc) c _ w3 hcm3 hs3.1
    obtain ⟨p, kn, hp⟩ : ∃ p kn, heardF r.seats c.session c.seq = (p, kn) := ⟨_, _, rfl⟩
    rw [hp] at HH
    have HHH := hide HH
    have HPK := hide hp
    obtain ⟨c0, c1, c2, z0, z1, z2, zl⟩ := (unhide HA3).r.at3
    clear hbad e3 hs3 hse HH hp hcm3
    go_wp2_with fail
    refine (unhide HHH).mono ?_
    rintro e w4 ⟨rfl, hb4⟩
    obtain ⟨w5, hw5⟩ : ∃ w5, w5 = w4.alloc (.cells #[.int .i64 p.err, .int .i64 p.version] 39) := ⟨_, rfl⟩
    have hb45 : Below w4.heap.size w4 w5 := by rw [hw5]; exact vbelow_new _ _
    have P5 : Blk w5 w4.heap.size 39 #[.int .i64 p.err, .int .i64 p.version] := by rw [hw5]; exact Blk.new _ _ _
    have hb35 := below_via hb4 hb45
    have A5 := (unhide HA3).keep (hb35.mono hL3) (by have := unhide HS1; omega)
    have HA5 := hide A5
    have HRW5 := hide ((unhide HRW3).below hb35 hB3)
    have HB5 := hide (below_via (unhide HB3) hb35)
    have HP5 := hide P5
    have HZ4 := hide (Nat.le_trans hL3 hb4.size)
    have hb5s := hb35.size
    clear hb4 hb45 hb35 HHH c0 c1 c2 z0 z1 z2 zl d0 d1 d2 d3 d4 d5 d6 d7 d8 d9 P5 A5
    go_upto_region 5 with fail
    rw [← hw5]
    clear hw5
    cases kn with
    | true =>
      have HAP := hide (applyN_known (unhide HNB) (unhide HPK))
      obtain ⟨c0, c1, c2, z0, z1, z2, zl⟩ := (unhide HA5).r.at3
      obtain ⟨r0, r1, r2, y0, y1, y2, yl⟩ := (unhide HA5).rr.at3
      obtain ⟨p0, p1, x0, x1, xl⟩ := (unhide HA5).rp.at2
      obtain ⟨q0, q1, _, _, ql⟩ := (unhide HP5).at2
      have n1 : ¬ w4.heap.size = w.heap.size + 1 + 1 := by have := unhide HZ4; have := unhide HS1; omega
      have n2 : ¬ w4.heap.size = w.heap.size + 1 + 1 + 1 := by have := unhide HZ4; have := unhide HS1; omega
      have n3 : ¬ w.heap.size + 1 + 1 = w4.heap.size := by have := unhide HZ4; have := unhide HS1; omega
      have n4 : ¬ w.heap.size + 1 + 1 + 1 = w4.heap.size := by have := unhide HZ4; have := unhide HS1; omega
      go_wp2_with fail
      go_region
      all_goals
        go_wp2
        refine bodyPost_ret (v := .tuple #[.agg #[.slice xa r.entries.length xc, .slice ya r.seats.length yc, .int .i64 r.applied], .agg #[.int .i64 p.err, .int .i64 p.version]]) (by simp [results, Tryz.results10, go_sem, r0, r1, r2, p0, p1]) rfl ?_
        unfold ApP
        rw [unhide HAP]
        refine ⟨_, _, rfl, ?_⟩
        exact (unhide HRW5).told hB (by have := unhide HS1; omega) (unhide HB5) (by repeat (first | exact OutP.refl _ _ | apply OutP.drew | refine OutP.seti ?_ _ (by dsimp only; omega) _))
    | false =>
      have HAP := hide (applyN_new (unhide HNB) (unhide HPK))
      obtain ⟨D, hD⟩ : ∃ D, D = doneN r.entries c := ⟨_, rfl⟩
      have DN := done_rw (B := B) (L := w1.heap.size) r (.slice xa r.entries.length xc) (.slice ya r.seats.length yc) c _ w5 hBL (Nat.le_trans hL3 hb5s) (unhide HRW5) (unhide HRG).rise (unhide HRG).inv.few ((unhide HG).keep ((unhide HB5).mono hB)) ((unhide HC).below ((unhide HB5).mono hB)) (fun e he => ⟨by have := ((unhide HRG).inv.ent e he).pos; omega, by have := (unhide HRG).next e he; omega⟩) (fun e he => ((unhide HRG).inv.ent e he).few)
      rw [← hD] at DN HAP
      have HDN := hide DN
      obtain ⟨c0, c1, c2, z0, z1, z2, zl⟩ := (unhide HA5).r.at3
      obtain ⟨d0, d1, d2, d3, d4, d5, d6, d7, d8, d9⟩ := unhide HCM w5 (unhide HA5).c
      clear DN hD
      go_wp2_with fail
      refine (unhide HDN).mono ?_
      rintro e w6 ⟨u, rfl, hrw6, hb6⟩
      obtain ⟨ua, uc, _, _, hu, _⟩ := hrw6.shape
      simp only at hu
      subst hu
      obtain ⟨w7, hw7⟩ : ∃ w7, w7 = w6.alloc (.cells #[.int .i64 D.2.err, .int .i64 D.2.version] 39) := ⟨_, rfl⟩
      have hb67 : Below w6.heap.size w6 w7 := by rw [hw7]; exact vbelow_new _ _
      have P7 : Blk w7 w6.heap.size 39 #[.int .i64 D.2.err, .int .i64 D.2.version] := by rw [hw7]; exact Blk.new _ _ _
      have hL5 : w1.heap.size ≤ w5.heap.size := Nat.le_trans hL3 hb5s
      have hL6 : w1.heap.size ≤ w6.heap.size := Nat.le_trans hL5 hb6.size
      have hb57 : Below w1.heap.size w5 w7 := hb6.trans (hb67.mono hL6)
      have A7 := (unhide HA5).keep hb57 (by have := unhide HS1; omega)
      have hB6 : B ≤ w6.heap.size := Nat.le_trans hBL hL6
      have RW7 := hrw6.below hb67 hB6
      obtain ⟨w8, hw8⟩ : ∃ w8, w8 = w7.setCell ⟨w.heap.size, 0, none⟩ (.slice ua D.1.length uc) := ⟨_, rfl⟩
      have A8 : AB w.heap.size w8 (.slice ua D.1.length uc) (.slice ya r.seats.length yc) (.int .i64 r.applied) CC := by rw [hw8]; exact A7.set rfl
      have hS1 := unhide HS1
      have O8 : OutP (fun b => b = w.heap.size) w7 w8 := by rw [hw8]; exact (OutP.refl (fun b => b = w.heap.size) w7).seti ⟨w.heap.size, 0, none⟩ rfl _
      have RW8 := RW7.out O8 (fun b q => ⟨by omega, by omega⟩) (Nat.le_trans hB6 hb67.size)
      have P8 : Blk w8 w6.heap.size 39 #[.int .i64 D.2.err, .int .i64 D.2.version] := P7.out O8 (by omega)
      have hL8 : w1.heap.size ≤ w8.heap.size := by have := O8.size; have := hb67.size; omega
      have hB8 : B ≤ w8.heap.size := by omega
      have hb8 : Below w.heap.size w w8 := (unhide HB5).trans ((hb57.mono (by omega)).trans (O8.below (fun b q => by omega) (by have := hb67.size; omega)))
      have SD := hide (seated_rw (B := B) (L := w1.heap.size) ⟨D.1, r.seats, r.applied⟩ (.slice ua D.1.length uc) (.slice ya r.seats.length yc) c.session c.seq D.2.err D.2.version w8 hBL hL8 RW8 (unhide HRG).inv.seats (unhide HRG).dist)
      have HSV := hide hrw6.lt
      have HZ8 := hide (show w6.heap.size < w8.heap.size from P8.low)
      have HA7 := hide A7
      have HP8 := hide P8
      have HA8 := hide A8
      have HL8 := hide (And.intro hL8 hB8)
      have HZ6 := hide hL6
      have HB8 := hide hb8
      have HW7 := hide hw7
      have HW8 := hide hw8
      obtain ⟨c0, c1, c2, z0, z1, z2, zl⟩ := A7.r.at3
      obtain ⟨q0, q1, _, _, ql⟩ := P7.at2
      clear hrw6 hb6 hb67 hb57 A7 RW7 A8 O8 RW8 P8 hb8 P7 hw7 hw8 hS1 d0 d1 d2 d3 d4 d5 d6 d7 d8 d9
      go_upto_region 8 with fail
      rw [← unhide HW7]
      go_upto_region 9 with fail
      rw [← unhide HW8]
      obtain ⟨c0, c1, c2, z0, z1, z2, zl⟩ := (unhide HA8).r.at3
      obtain ⟨d0, d1, d2, d3, d4, d5, d6, d7, d8, d9⟩ := unhide HCM w8 (unhide HA8).c
      obtain ⟨q0, q1, _, _, ql⟩ := (unhide HP8).at2
      go_wp2_with fail
      refine (unhide SD).mono ?_
      rintro e w9 ⟨u9, rfl, hrw9, hb9, ho9⟩
      obtain ⟨_, _, va, vc, _, hu⟩ := hrw9.shape
      simp only at hu
      obtain ⟨SS, hSS⟩ : ∃ SS, SS = Rp.seated r.seats ⟨c.session, c.seq, ⟨D.2.err, D.2.version⟩⟩ := ⟨_, rfl⟩
      rw [← hSS] at hu hrw9
      subst hu
      have HSS := hide hSS
      clear hSS
      have hS1 := unhide HS1
      have A9 := (unhide HA8).keep hb9 (by omega)
      have P9 := (unhide HP8).out ho9 (fun q => by have := (unhide HSV _ q).2; omega)
      obtain ⟨w10, hw10⟩ : ∃ w10, w10 = (w9.setCell ⟨w.heap.size, 1, none⟩ (.slice va SS.length vc)).setCell ⟨w.heap.size, 2, none⟩ (.int .i64 (r.applied + 1)) := ⟨_, rfl⟩
      have O10 : OutP (fun b => b = w.heap.size) w9 w10 := by rw [hw10]; exact ((OutP.refl (fun b => b = w.heap.size) w9).seti ⟨w.heap.size, 1, none⟩ rfl _).seti ⟨w.heap.size, 2, none⟩ rfl _
      have A10 : AB w.heap.size w10 (.slice ua D.1.length uc) (.slice va SS.length vc) (.int .i64 (r.applied + 1)) CC := by rw [hw10]; exact (A9.set (a0 := .slice ua D.1.length uc) (a1 := .slice va SS.length vc) (a2 := .int .i64 r.applied) rfl).set rfl
      have P10 := P9.out O10 (by have := unhide HZ6; omega)
      have hz9 : w8.heap.size ≤ w9.heap.size := hb9.size
      have HRW10 := hide (hrw9.out O10 (fun b q => ⟨by omega, by omega⟩) (by have := unhide HL8; omega))
      have HB10 := hide (show Below w.heap.size w w10 from (unhide HB8).trans ((hb9.mono (by omega)).trans (O10.below (fun b q => by omega) (by have := unhide HL8; omega))))
      have HA10 := hide A10
      have HP10 := hide P10
      have hap : IntKind.i64.wrap (r.applied + 1) = r.applied + 1 := by have := (unhide HRG).app; rw [IntKind.wrap_i64]; omega
      obtain ⟨c0, c1, c2, z0, z1, z2, zl⟩ := A9.r.at3
      have HW10 := hide hw10
      clear hrw9 hb9 ho9 hS1 A9 P9 O10 A10 P10 hz9 hw10 d0 d1 d2 d3 d4 d5 d6 d7 d8 d9 q0 q1 ql
      go_upto_region 11 with fail
      rw [← unhide HW10]
      obtain ⟨c0, c1, c2, z0, z1, z2, zl⟩ := (unhide HA10).r.at3
      obtain ⟨r0, r1, r2, y0, y1, y2, yl⟩ := (unhide HA10).rr.at3
      obtain ⟨p0, p1, x0, x1, xl⟩ := (unhide HA10).rp.at2
      obtain ⟨q0, q1, _, _, ql⟩ := (unhide HP10).at2
      have n1 : ¬ w6.heap.size = w.heap.size + 1 + 1 := by have := unhide HZ6; have := unhide HS1; omega
      have n2 : ¬ w6.heap.size = w.heap.size + 1 + 1 + 1 := by have := unhide HZ6; have := unhide HS1; omega
      have n3 : ¬ w.heap.size + 1 + 1 = w6.heap.size := by have := unhide HZ6; have := unhide HS1; omega
      have n4 : ¬ w.heap.size + 1 + 1 + 1 = w6.heap.size := by have := unhide HZ6; have := unhide HS1; omega
      go_region
      all_goals
        go_wp2
        refine bodyPost_ret (v := .tuple #[.agg #[.slice ua D.1.length uc, .slice va SS.length vc, .int .i64 (r.applied + 1)], .agg #[.int .i64 D.2.err, .int .i64 D.2.version]]) (by simp [results, Tryz.results10, go_sem, r0, r1, r2, p0, p1]) rfl ?_
        unfold ApP
        rw [unhide HAP]
        refine ⟨_, _, rfl, ?_⟩
        show RW12 B _ _ ⟨D.1, Rp.seated r.seats ⟨c.session, c.seq, ⟨D.2.err, D.2.version⟩⟩, r.applied + 1⟩ _ _ ∧ _
        rw [← unhide HSS]
        exact (show RW12 B w1.heap.size w10 ⟨D.1, SS, r.applied + 1⟩ _ _ from ⟨(unhide HRW10).tell⟩).told hB (by have := unhide HS1; omega) (unhide HB10) (by repeat (first | exact OutP.refl _ _ | apply OutP.drew | refine OutP.seti ?_ _ (by dsimp only; omega) _))
end Go.Proofs.YtnegjbkbfgkkjaaGreatDoor
