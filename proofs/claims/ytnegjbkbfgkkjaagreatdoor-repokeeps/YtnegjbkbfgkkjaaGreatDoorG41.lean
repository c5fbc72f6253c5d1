/- A command taken apart; what was heard, in plain words. -/
import Derived.Test.YtnegjbkbfgkkjaaGreatDoorG39
import Derived.Test.YtnegjbkbfgkkjaaGreatDoorG40
import Derived.Laws.OwnMore
import Derived.BigRegion
namespace Go.Proofs.YtnegjbkbfgkkjaaGreatDoor
open Go.RowKit Go.MapKept

theorem CmM.open {B : Nat} {w : World} {c : CmT} {cs : Array Value} (h : CmM B w c cs) : ∃ ia oa ra ic oc rc, cs = #[.int .i64 c.session, .int .i64 c.seq, .int .i64 c.kind, .string c.table.name, .int .i64 c.table.pol, .slice ia c.table.ins.length ic, .slice oa c.table.outs.length oc, .slice ra c.table.rules.length rc, .string c.name, .int .i64 c.back] ∧ TbM B w c.table #[.string c.table.name, .int .i64 c.table.pol, .slice ia c.table.ins.length ic, .slice oa c.table.outs.length oc, .slice ra c.table.rules.length rc] := by
  obtain ⟨t0, t1, t2, t3, t4, rfl, ht⟩ := h
  obtain ⟨ia, oa, ra, ic, oc, rc, e⟩ := ht.open
  rw [e] at ht
  simp at e
  obtain ⟨rfl, rfl, rfl, rfl, rfl⟩ := e
  exact ⟨ia, oa, ra, ic, oc, rc, rfl, ht⟩
/-- the reply to what was heard -/
def heardF (l : List Rp.Seat) (ss sq : Int) : Rp.Reply × Bool := match Rp.findS l ss with
  | none => (⟨0, 0⟩, false)
  | some x => if x.seq < sq then (⟨0, 0⟩, false) else if sq < x.seq then (⟨12, 0⟩, true) else (x.reply, true)
theorem findS_none {l : List Rp.Seat} {ss : Int} (h : ∀ x ∈ l, (x.session == ss) = false) : Rp.findS l ss = none := by
  unfold Rp.findS
  rw [List.find?_eq_none]
  intro x hx
  have := h x hx
  simpa using this
theorem findS_some {l : List Rp.Seat} {ss : Int} {i : Nat} {x : Rp.Seat} (hx : l[i]? = some x) (hp : (x.session == ss) = true) (hf : ∀ y ∈ l.take i, (y.session == ss) = false) : Rp.findS l ss = some x := by
  have hi := (List.getElem?_eq_some_iff.1 hx).1
  have e : l = l.take i ++ x :: l.drop (i + 1) := by
    rw [← (List.getElem?_eq_some_iff.1 hx).2, ← List.drop_eq_getElem_cons hi, List.take_append_drop]
  unfold Rp.findS
  rw [e, List.find?_append, List.find?_eq_none.2 (fun y hy => by have := hf y hy; simpa using this), List.find?_cons_of_pos (by simpa using hp)]
  rfl
/-- what stands in a block of ten cells -/
structure N10 (w : World) (b : Nat) (cs : Array Value) : Prop where
  low : b < w.heap.size
  c : ∀ j u, cs[j]? = some u → w.cell? ⟨b, j, none⟩ = some u
theorem N10.new (w : World) (t : TypeId) (cs : Array Value) : N10 (w.alloc (.cells cs t)) w.heap.size cs := ⟨by simp, fun j u hj => by simp [go_sem, hj]⟩
theorem N10.keep {w w' : World} {b : Nat} {cs : Array Value} (h : N10 w b cs) {B : Nat} (hb : Below B w w') (l : b < B) : N10 w' b cs := ⟨Nat.lt_of_lt_of_le h.low hb.size, fun j u hj => (hb.cell (p := ⟨b, j, none⟩) l).trans (h.c j u hj)⟩

theorem bs2 {w w2 : World} {b : Nat} {u v : Value} (h : Below w.heap.size w w2) (hb : w.heap.size ≤ b) : Below w.heap.size w ((w2.setCell ⟨b, 0, none⟩ u).setCell ⟨b, 1, none⟩ v) := (h.setCell hb _).setCell hb _

end Go.Proofs.YtnegjbkbfgkkjaaGreatDoor

/- Walks: is a command one that was heard? -/
namespace Go.Proofs.YtnegjbkbfgkkjaaGreatDoor
open Go.RowKit Go.MapKept

set_option maxRecDepth 100000 in
set_option maxHeartbeats 8000000 in
theorem heard_any {B : Nat} (l : List Rp.Seat) (v : Value) (c : CmT) (cs : Array Value) (w : World) (hc : CmM B w c cs) (hl : Ls w.heap.size w 4 SeM l v) :
    Calls Tryz.prog 19 #[v, .agg cs] w fun e w' => e = .returned (.tuple #[.agg #[.int .i64 (heardF l c.session c.seq).1.err, .int .i64 (heardF l c.session c.seq).1.version], .bool (heardF l c.session c.seq).2]) ∧ Below w.heap.size w w' := by
  obtain ⟨ia, oa, ra, ic, oc, rc, rfl, _⟩ := hc.open
  obtain ⟨w1, hw1⟩ : ∃ w1, w1 = (w.alloc (.cells #[.int .i64 c.session, .int .i64 c.seq, .int .i64 c.kind, .string c.table.name, .int .i64 c.table.pol, .slice ia c.table.ins.length ic, .slice oa c.table.outs.length oc, .slice ra c.table.rules.length rc, .string c.name, .int .i64 c.back] 36)).alloc (.cells #[.int .i64 0, .int .i64 0] 39) := ⟨_, rfl⟩
  have b1 : Below w.heap.size w w1 := by rw [hw1]; exact below_via (vbelow_new _ _) (vbelow_new _ _)
  have C1 : N10 w1 w.heap.size #[.int .i64 c.session, .int .i64 c.seq, .int .i64 c.kind, .string c.table.name, .int .i64 c.table.pol, .slice ia c.table.ins.length ic, .slice oa c.table.outs.length oc, .slice ra c.table.rules.length rc, .string c.name, .int .i64 c.back] := by rw [hw1]; exact (N10.new _ _ _).keep (vbelow_new _ _) (by simp)
  have R1 : Bx2 w1 (w.heap.size + 1) (.int .i64 0) (.int .i64 0) := by
    rw [hw1]
    have := Bx2.new (w.alloc (.cells #[.int .i64 c.session, .int .i64 c.seq, .int .i64 c.kind, .string c.table.name, .int .i64 c.table.pol, .slice ia c.table.ins.length ic, .slice oa c.table.outs.length oc, .slice ra c.table.rules.length rc, .string c.name, .int .i64 c.back] 36)) 39 (.int .i64 0) (.int .i64 0)
    simpa using this
  have hl1 := (hl.below b1 fun x cs h => h).mono b1.size fun x cs h => h
  have AT := hide (seatAt_any l v c.session w1 hl1)
  have SP := ixN_spec (fun x : Rp.Seat => x.session == c.session) l 0
  generalize ixN (fun x : Rp.Seat => x.session == c.session) l 0 = X at AT SP
  obtain ⟨RF, hRF⟩ : ∃ RF, RF = heardF l c.session c.seq := ⟨_, rfl⟩
  rw [← hRF]
  have HB1 := hide b1
  have HC1 := hide C1
  have HR1 := hide R1
  have HL1 := hide hl1
  obtain ⟨va, vc, rfl, _⟩ := hl.tell
  have c0 := C1.c 0 _ rfl
  have c1 := C1.c 1 _ rfl
  clear b1 C1 R1 hl1 hl hc
  go_enter Tryz.func19, Tryz.ntmps19
  go_upto_region 1 with fail
  rw [← hw1]
  clear hw1
  go_wp2_with fail
  refine (unhide AT).mono ?_
  rintro e w2 ⟨rfl, hb2⟩
  have C2 := (unhide HC1).keep hb2 (unhide HC1).low
  have R2 := (unhide HR1).keep hb2 (unhide HR1).low
  have HL2 := hide ((unhide HL1).below hb2 fun x cs h => h)
  have HB2 := hide (below_via (unhide HB1) hb2)
  have HR2 := hide R2
  have d0 := C2.c 0 _ rfl
  have d1 := C2.c 1 _ rfl
  have r0 := R2.at0
  have r1 := R2.at1
  have f0 := R2.th0
  have f1 := R2.th1
  have rl := R2.low
  clear hb2 AT c0 c1 C2 R2 HC1 HR1 HL1 HB1
  rcases SP with ⟨hX, hnone⟩ | ⟨i, x, hX, hx, hp, hfst⟩
  · subst hX
    have HE : Hid (RF = (⟨0, 0⟩, false)) := hide (by rw [hRF]; unfold heardF; rw [findS_none hnone])
    clear hnone hRF
    go_wp2_with fail
    go_region
    all_goals
      go_wp2
      refine bodyPost_ret (v := .tuple #[.agg #[.int .i64 0, .int .i64 0], .bool false]) (by simp [results, Tryz.results19, go_sem, r0, r1]) rfl ⟨by rw [unhide HE], ?_⟩
      repeat (first | exact bs2 (unhide HB2) (by omega) | apply Below.drew)
  · have hX' : X = (i : Int) := by rw [hX, Nat.zero_add]
    subst hX'
    have hil := (List.getElem?_eq_some_iff.1 hx).1
    have HE : Hid (RF = if x.seq < c.seq then (⟨0, 0⟩, false) else if c.seq < x.seq then (⟨12, 0⟩, true) else (x.reply, true)) := hide (by rw [hRF]; unfold heardF; rw [findS_some hx hp hfst])
    obtain ⟨sb, soff, scap, ev⟩ := (unhide HL2).begins (by intro e; rw [e] at hil; simp at hil)
    cases ev
    have hq := (unhide HL2).seat hx
    have s0 := hq 0 _ rfl
    have s1 := hq 1 _ rfl
    have s2 := hq 2 _ rfl
    have s3 := hq 3 _ rfl
    rw [Nat.add_zero] at s0
    have hne : sb < w2.heap.size := World.block_lt_of_cell? w2 _ s1
    have RFD := hide (fun wx => refused_any 12 wx)
    have hi0 : ¬ (i : Int) < 0 := by omega
    have hi1 : (i : Int) < (l.length : Int) := by omega
    obtain ⟨xs, xq, xe, xv⟩ := x
    simp only at HE s0 s1 s2 s3
    generalize c.seq = cq at *
    clear hX hx hp hfst hRF hq hil
    have gd : decide ((i : Int) < 0) = false := by simp
    by_cases h1 : xq < cq
    · have HE1 := hide ((unhide HE).trans (if_pos h1))
      go_wp2_with fail
      go_quiet (fail)
      go_wp2
      refine bodyPost_ret (v := .tuple #[.agg #[.int .i64 0, .int .i64 0], .bool false]) (by simp [results, Tryz.results19, go_sem, r0, r1]) rfl ⟨by rw [unhide HE1], ?_⟩
      exact bs2 (below_drewN' (unhide HB2) _) (by omega)
    · have HE1 := (unhide HE).trans (if_neg h1)
      by_cases h2 : cq < xq
      · have HE2 := hide (HE1.trans (if_pos h2))
        clear HE1 HE
        go_wp2_with fail
        go_quiet (fail)
        go_wp2_with fail
        go_quiet (fail)
        go_wp2_with fail
        refine (unhide RFD _).mono ?_
        rintro e w3 ⟨rfl, hb3⟩
        have hb23 : Below w2.heap.size w2 w3 := (below_drewN' (Below.refl _ _) _).trans hb3
        have R3 := (unhide HR2).keep hb23 rl
        have HB3 := hide (below_via (unhide HB2) hb23)
        have q0 := R3.at0
        have q1 := R3.at1
        have p0 := R3.th0
        have p1 := R3.th1
        clear hb3 hb23 R3 r0 r1 f0 f1
        go_wp2
        exact bodyPost_ret (v := .tuple #[.agg #[.int .i64 12, .int .i64 0], .bool true]) (by simp [results, Tryz.results19, go_sem, q0, q1]) rfl ⟨by rw [unhide HE2], bs2 (unhide HB3) (by omega)⟩
      · have HE2 := hide (HE1.trans (if_neg h2))
        clear HE1 HE
        go_wp2_with fail
        go_quiet (fail)
        go_wp2_with fail
        go_quiet (fail)
        go_wp2
        exact bodyPost_ret (v := .tuple #[.agg #[.int .i64 xe, .int .i64 xv], .bool true]) (by simp [results, Tryz.results19, go_sem, r0, r1]) rfl ⟨by rw [unhide HE2], bs2 (below_drewN' (unhide HB2) _) (by omega)⟩
end Go.Proofs.YtnegjbkbfgkkjaaGreatDoor

/- Entries at work: their row is owned, and so is each one's row of versions; all own blocks are apart. -/
namespace Go.Proofs.YtnegjbkbfgkkjaaGreatDoor
open Go.RowKit Go.MapKept

/-- an entry's cells -/
def ec (p : Rp.Ent ByteArray TbT × Value) : List Value := [.string p.1.name, .int .i64 p.1.next, .int .i64 p.1.now, p.2]
def KeM (B L : Nat) (w : World) (l : List (Rp.Ver TbT)) (kv : Value) : Prop := ∃ css, Rows12 6 (VeM B w) l css ∧ w.ownsRow L 56 6 kv l.length css.flatten
structure EW (B L : Nat) (w : World) (ps : List (Rp.Ent ByteArray TbT × Value)) (v : Value) : Prop where
  own : w.ownsRow L 54 4 v ps.length (ps.map ec).flatten
  kept : ∀ p ∈ ps, KeM B L w p.1.kept p.2
  apart : ∀ p ∈ ps, ∀ b, p.2.ownBlock = some b → v.ownBlock ≠ some b
  two : ps.Pairwise (fun p q => ∀ b, p.2.ownBlock = some b → q.2.ownBlock ≠ some b)
/-- a block that is one of theirs -/
def Ob (ps : List (Rp.Ent ByteArray TbT × Value)) (v : Value) (b : Nat) : Prop := v.ownBlock = some b ∨ ∃ p ∈ ps, p.2.ownBlock = some b
/-- all but these blocks is as it was -/
structure OutP (O : Nat → Prop) (w w' : World) : Prop where
  os : w'.os = w.os
  tape : w'.tape = w.tape
  output : w'.output = w.output
  size : w.heap.size ≤ w'.heap.size
  block : ∀ b, b < w.heap.size → ¬ O b → w'.heap[b]? = w.heap[b]?
theorem OutP.refl (O : Nat → Prop) (w : World) : OutP O w w := ⟨rfl, rfl, rfl, Nat.le_refl _, fun _ _ _ => rfl⟩
theorem OutP.trans {O O' : Nat → Prop} {w w1 w2 : World} (h : OutP O w w1) (k : OutP O' w1 w2) (hO : ∀ b, b < w.heap.size → O' b → O b) : OutP O w w2 :=
  ⟨k.os.trans h.os, k.tape.trans h.tape, k.output.trans h.output, Nat.le_trans h.size k.size, fun b hb hn => (k.block b (Nat.lt_of_lt_of_le hb h.size) fun q => hn (hO b hb q)).trans (h.block b hb hn)⟩
theorem OutP.of_below {O : Nat → Prop} {w w' : World} (h : Below w.heap.size w w') : OutP O w w' := ⟨h.os, h.tape, h.output, h.size, fun b hb _ => h.block b hb⟩
theorem OutP.of_grown {O : Nat → Prop} {w w' : World} {r : Option Nat} (h : w.grownBy w' r) (hr : ∀ b, r = some b → b < w.heap.size → O b) : OutP O w w' := ⟨h.os, h.tape, h.output, h.size, fun b hb hn => h.block b hb fun e => hn (hr b e.symm hb)⟩
theorem OutP.below {O : Nat → Prop} {w w' : World} {L : Nat} (h : OutP O w w') (hO : ∀ b, O b → L ≤ b) (hL : L ≤ w.heap.size) : Below L w w' := ⟨h.os, h.tape, h.output, h.size, fun b hb => h.block b (by omega) fun q => by have := hO b q; omega⟩
theorem KeM.same {B L : Nat} {w w' : World} {l : List (Rp.Ver TbT)} {kv : Value} (h : KeM B L w l kv) (hb : Below B w w') (hk : ∀ b, kv.ownBlock = some b → w'.heap[b]? = w.heap[b]?) : KeM B L w' l kv := by
  obtain ⟨css, h1, h2⟩ := h
  exact ⟨css, h1.imp fun x cs q => VeM.below hb q, own_sameT h2 hk⟩
theorem KeM.lt {B L : Nat} {w : World} {l : List (Rp.Ver TbT)} {kv : Value} (h : KeM B L w l kv) : ∀ b, kv.ownBlock = some b → L ≤ b ∧ b < w.heap.size := by
  obtain ⟨css, _, h2⟩ := h
  exact own_ltT h2
theorem KeM.nil (B L : Nat) (w : World) : KeM B L w [] (.slice none 0 0) := ⟨[], ⟨rfl, fun i x hx => by simp at hx⟩, ⟨rfl, .inl ⟨rfl, rfl⟩⟩⟩
theorem KeM.shape {B L : Nat} {w : World} {l : List (Rp.Ver TbT)} {kv : Value} (h : KeM B L w l kv) : ∃ a c, kv = .slice a l.length c := by
  obtain ⟨css, _, _, h2⟩ := h
  rcases h2 with ⟨h1, h0⟩ | ⟨g, cap, cur, hv, _⟩
  · exact ⟨none, 0, by rw [h1, h0]⟩
  · exact ⟨_, _, hv⟩
theorem EW.lt {B L : Nat} {w : World} {ps : List (Rp.Ent ByteArray TbT × Value)} {v : Value} (h : EW B L w ps v) : ∀ b, Ob ps v b → L ≤ b ∧ b < w.heap.size := by
  rintro b (q | ⟨p, hp, q⟩)
  · exact own_ltT h.own b q
  · exact (h.kept p hp).lt b q
theorem EW.rows {B L : Nat} {w : World} {ps : List (Rp.Ent ByteArray TbT × Value)} {v : Value} (h : EW B L w ps v) : Rows12 4 (EnM B w) (ps.map Prod.fst) (ps.map ec) := by
  refine ⟨by simp, fun i x hx => ?_⟩
  rw [List.getElem?_map, Option.map_eq_some_iff] at hx
  obtain ⟨p, hp, rfl⟩ := hx
  obtain ⟨css, h1, h2⟩ := h.kept p (List.mem_of_getElem? hp)
  obtain ⟨q1, q2⟩ := rows_ls (L := w.heap.size) h1 h2 (Nat.le_refl _)
  exact ⟨ec p, by rw [List.getElem?_map, hp]; rfl, rfl, p.2, rfl, q1, q2⟩
theorem EW.ls {B L : Nat} {w : World} {ps : List (Rp.Ent ByteArray TbT × Value)} {v : Value} (h : EW B L w ps v) : Ls w.heap.size w 4 (EnM B w) (ps.map Prod.fst) v ∧ PlS v := by
  have ho := h.own
  rw [← List.length_map (f := Prod.fst)] at ho
  exact rows_ls h.rows ho (Nat.le_refl _)
theorem EW.one {B L : Nat} {w : World} {ps : List (Rp.Ent ByteArray TbT × Value)} {v : Value} (h : EW B L w ps v) : ∀ u ∈ (ps.map ec).flatten, u.oneCell' = true := one_rows h.rows fun _ _ q => one_Entry q
theorem EW.below {B L : Nat} {w w' : World} {ps : List (Rp.Ent ByteArray TbT × Value)} {v : Value} (h : EW B L w ps v) (hB : B ≤ w.heap.size) (hb : Below w.heap.size w w') : EW B L w' ps v :=
  ⟨own_keepT h.own hb, fun p hp => (h.kept p hp).same (hb.mono hB) fun b q => hb.block b ((h.kept p hp).lt b q).2, h.apart, h.two⟩
theorem EW.out {B L : Nat} {w w' : World} {ps : List (Rp.Ent ByteArray TbT × Value)} {v : Value} (h : EW B L w ps v) {O : Nat → Prop} (ho : OutP O w w') (hO : ∀ b, O b → B ≤ b ∧ ¬ Ob ps v b) (hB : B ≤ w.heap.size) : EW B L w' ps v := by
  have hb := ho.below (fun b q => (hO b q).1) hB
  refine ⟨own_sameT h.own fun b q => ho.block b (own_ltT h.own b q).2 fun r => (hO b r).2 (.inl q), fun p hp => (h.kept p hp).same hb fun b q => ho.block b ((h.kept p hp).lt b q).2 fun r => (hO b r).2 (.inr ⟨p, hp, q⟩), h.apart, h.two⟩
/-- the row is another one: the entries are old ones, or have nothing of their own -/
theorem EW.row {B L : Nat} {w w' : World} {ps ps' : List (Rp.Ent ByteArray TbT × Value)} {v v' : Value} (h : EW B L w ps v) (hBL : B ≤ L) (hL : L ≤ w.heap.size) (hg : w.grownBy w' v.ownBlock) (ho : w'.ownsRow L 54 4 v' ps'.length (ps'.map ec).flatten) (hat : v'.ownBlock = v.ownBlock ∨ ∃ b, v'.ownBlock = some b ∧ w.heap.size ≤ b)
    (hps : ∀ p ∈ ps', p ∈ ps ∨ (p.1.kept = [] ∧ p.2 = .slice none 0 0)) (h2 : ps'.Pairwise (fun p q => ∀ b, p.2.ownBlock = some b → q.2.ownBlock ≠ some b)) : EW B L w' ps' v' := by
  have hv : ∀ b, v.ownBlock = some b → L ≤ b := fun b q => (own_ltT h.own b q).1
  have hbB : Below B w w' := ⟨hg.os, hg.tape, hg.output, hg.size, fun b hb => hg.block b (by omega) fun e => by have := hv b e.symm; omega⟩
  refine ⟨ho, fun p hp => ?_, fun p hp b hb => ?_, h2⟩
  · rcases hps p hp with q | ⟨q1, q2⟩
    · exact (h.kept p q).same hbB fun b r => hg.block b ((h.kept p q).lt b r).2 fun e => h.apart p q b r e.symm
    · rw [q1, q2]; exact KeM.nil _ _ _
  · rcases hps p hp with q | ⟨q1, q2⟩
    · rcases hat with r | ⟨c, r, hc⟩
      · rw [r]; exact h.apart p q b hb
      · rw [r]
        intro e
        have := ((h.kept p q).lt b hb).2
        have := Option.some.inj e
        omega
    · rw [q2] at hb; cases hb
/-- a row of cells in which one entry's are others -/
theorem flat_set12 {k : Nat} : ∀ (css : List (List Value)) (i : Nat) (c : List Value), (∀ c ∈ css, c.length = k) → i < css.length → (css.set i c).flatten = css.flatten.take (i * k) ++ (c ++ css.flatten.drop ((i + 1) * k))
  | [], i, c, _, h => by simp at h
  | d :: css, 0, c, hk, _ => by
    have hd := hk d List.mem_cons_self
    rw [List.set_cons_zero, List.flatten_cons, List.flatten_cons, Nat.zero_mul, List.take_zero, List.nil_append, Nat.zero_add, Nat.one_mul, List.drop_append_of_le_length (by omega), List.drop_of_length_le (by omega), List.nil_append]
  | d :: css, i + 1, c, hk, h => by
    have hd := hk d List.mem_cons_self
    rw [List.set_cons_succ, List.flatten_cons, List.flatten_cons, flat_set12 css i c (fun c hc => hk c (List.mem_cons_of_mem _ hc)) (by simpa using h),
      List.take_append, List.take_of_length_le (l := d) (by rw [Nat.add_mul]; omega), List.drop_append, List.drop_of_length_le (l := d) (by rw [Nat.add_mul, Nat.add_mul]; omega),
      show (i + 1) * k - d.length = i * k by rw [Nat.add_mul]; omega, show (i + 1 + 1) * k - d.length = (i + 1) * k by rw [Nat.add_mul (i + 1)]; omega]
    simp
theorem ec_width {ps : List (Rp.Ent ByteArray TbT × Value)} : ∀ c ∈ ps.map ec, c.length = 4 := by
  intro c hc
  obtain ⟨p, _, rfl⟩ := List.mem_map.1 hc
  rfl
/-- four cells stored, one behind the other -/
def set4 (w : World) (g o : Nat) (a b c d : Value) : World := (((w.setCell ⟨g, o, none⟩ a).setCell ⟨g, o + 1, none⟩ b).setCell ⟨g, o + 2, none⟩ c).setCell ⟨g, o + 3, none⟩ d
theorem list_set4 (xs : List Value) (o : Nat) (a b c d : Value) (h : o + 4 ≤ xs.length) : ((((xs.set o a).set (o + 1) b).set (o + 2) c).set (o + 3) d) = xs.take o ++ ([a, b, c, d] ++ xs.drop (o + 4)) := by
  apply List.ext_getElem?
  intro j
  have hl : (xs.take o).length = o := by rw [List.length_take]; omega
  rcases Nat.lt_or_ge j o with q | q
  · rw [List.getElem?_append_left (by omega), List.getElem?_take, if_pos q]
    simp only [List.getElem?_set]
    rw [if_neg (by omega), if_neg (by omega), if_neg (by omega), if_neg (by omega)]
  · rw [List.getElem?_append_right (by omega), hl]
    simp only [List.getElem?_set, List.length_set]
    rcases Nat.lt_or_ge j (o + 4) with r | r
    · have : j = o ∨ j = o + 1 ∨ j = o + 2 ∨ j = o + 3 := by omega
      rcases this with rfl | rfl | rfl | rfl
      · rw [if_neg (by omega), if_neg (by omega), if_neg (by omega), if_pos rfl, if_pos (by omega)]; simp
      · rw [if_neg (by omega), if_neg (by omega), if_pos rfl, if_pos (by omega)]; simp
      · rw [if_neg (by omega), if_pos rfl, if_pos (by omega)]; simp
      · rw [if_pos rfl, if_pos (by omega)]; simp
    · rw [if_neg (by omega), if_neg (by omega), if_neg (by omega), if_neg (by omega), List.getElem?_append_right (by simp; omega), List.getElem?_drop]
      congr 1
      simp
      omega
theorem set4_own {L : Nat} {w : World} {e : TypeId} {g cap n : Nat} {xs : List Value} (h : w.ownsRow L e 4 (.slice (some ⟨g, 0, none⟩) n cap) n xs) {i : Nat} (hi : i < n) (a b c d : Value) :
    (set4 w g (i * 4) a b c d).ownsRow L e 4 (.slice (some ⟨g, 0, none⟩) n cap) n (xs.take (i * 4) ++ ([a, b, c, d] ++ xs.drop ((i + 1) * 4))) ∧ w.grownBy (set4 w g (i * 4) a b c d) (some g) := by
  have hl := h.1
  obtain ⟨o1, g1⟩ := h.stored (i * 4) a
  obtain ⟨o2, g2⟩ := o1.stored (i * 4 + 1) b
  obtain ⟨o3, g3⟩ := o2.stored (i * 4 + 2) c
  obtain ⟨o4, g4⟩ := o3.stored (i * 4 + 3) d
  rw [list_set4 xs (i * 4) a b c d (by omega), show i * 4 + 4 = (i + 1) * 4 by omega] at o4
  exact ⟨o4, gr_trans (gr_trans (gr_trans g1 g2) g3) g4⟩
/-- one entry is another one -/
theorem EW.put {B L : Nat} {w w' : World} {ps : List (Rp.Ent ByteArray TbT × Value)} {v : Value} {i : Nat} {p p' : Rp.Ent ByteArray TbT × Value} (h : EW B L w ps v) (hBL : B ≤ L) (hL : L ≤ w.heap.size) (hp : ps[i]? = some p) (ho : OutP (fun b => v.ownBlock = some b ∨ p.2.ownBlock = some b) w w')
    (hown : w'.ownsRow L 54 4 v ps.length ((ps.map ec).flatten.take (i * 4) ++ (ec p' ++ (ps.map ec).flatten.drop ((i + 1) * 4)))) (hk : KeM B L w' p'.1.kept p'.2) (hat : p'.2.ownBlock = p.2.ownBlock ∨ ∃ b, p'.2.ownBlock = some b ∧ w.heap.size ≤ b) : EW B L w' (ps.set i p') v := by
  have hi := (List.getElem?_eq_some_iff.1 hp).1
  have hpm := List.mem_of_getElem? hp
  have hbB : Below B w w' := ho.below (fun b q => by rcases q with q | q; · have := (own_ltT h.own b q).1; omega
                                                     · have := ((h.kept p hpm).lt b q).1; omega) (by omega)
  have hone : ∀ {j : Nat} {q : Rp.Ent ByteArray TbT × Value}, ps[j]? = some q → j ≠ i → (∀ b, q.2.ownBlock = some b → p.2.ownBlock ≠ some b) := by
    intro j q hq hne b hb e
    obtain ⟨hj, ej⟩ := List.getElem?_eq_some_iff.1 hq
    obtain ⟨_, ei⟩ := List.getElem?_eq_some_iff.1 hp
    rcases Nat.lt_or_ge j i with r | r
    · have := List.pairwise_iff_getElem.1 h.two j i hj hi r
      rw [ej, ei] at this
      exact this b hb e
    · have := List.pairwise_iff_getElem.1 h.two i j hi hj (by omega)
      rw [ej, ei] at this
      exact this b e hb
  have hold : ∀ {j : Nat} {q : Rp.Ent ByteArray TbT × Value}, ps[j]? = some q → j ≠ i → KeM B L w' q.1.kept q.2 := by
    intro j q hq hne
    have hqm := List.mem_of_getElem? hq
    refine (h.kept q hqm).same hbB fun b hb => ho.block b ((h.kept q hqm).lt b hb).2 ?_
    rintro (r | r)
    · exact h.apart q hqm b hb r
    · exact hone hq hne b hb r
  have hnew : ∀ {j : Nat} {q : Rp.Ent ByteArray TbT × Value}, ps[j]? = some q → j ≠ i → ∀ b, q.2.ownBlock = some b → p'.2.ownBlock ≠ some b := by
    intro j q hq hne b hb e
    rcases hat with r | ⟨c, r, hc⟩
    · exact hone hq hne b hb (r ▸ e)
    · rw [r] at e
      have := ((h.kept q (List.mem_of_getElem? hq)).lt b hb).2
      have := Option.some.inj e
      omega
  have mem : ∀ q ∈ ps.set i p', q = p' ∨ ∃ j, j ≠ i ∧ ps[j]? = some q := by
    intro q hq
    obtain ⟨j, hj⟩ := List.getElem?_of_mem hq
    rw [List.getElem?_set] at hj
    split at hj
    · rename_i e
      simp only [Option.some.injEq] at hj
      exact .inl hj.symm
    · rename_i e
      exact .inr ⟨j, fun r => e r.symm, hj⟩
  refine ⟨?_, fun q hq => ?_, fun q hq b hb => ?_, ?_⟩
  · rw [List.length_set, List.map_set, flat_set12 _ _ _ ec_width (by simpa using hi)]
    exact hown
  · rcases mem q hq with rfl | ⟨j, hj, r⟩
    · exact hk
    · exact hold r hj
  · rcases mem q hq with rfl | ⟨j, hj, r⟩
    · rcases hat with r | ⟨c, r, hc⟩
      · exact h.apart p hpm b (r ▸ hb)
      · intro e
        rw [r] at hb
        have := (own_ltT h.own b e).2
        have := Option.some.inj hb
        omega
    · exact h.apart q (List.mem_of_getElem? r) b hb
  · rw [List.pairwise_iff_getElem]
    intro j k hj hk2 hjk b hb e
    rw [List.length_set] at hj hk2
    rw [List.getElem_set] at hb e
    by_cases q1 : i = j
    · rw [if_pos q1] at hb
      rw [if_neg (by omega)] at e
      exact hnew (List.getElem?_eq_getElem hk2) (by omega) b e hb
    · rw [if_neg q1] at hb
      by_cases q2 : i = k
      · rw [if_pos q2] at e
        exact hnew (List.getElem?_eq_getElem hj) (by omega) b hb e
      · rw [if_neg q2] at e
        exact List.pairwise_iff_getElem.1 h.two j k hj hk2 hjk b hb e
/-- what becomes of entries, and the reply -/
def DoneP (B L : Nat) (ps : List (Rp.Ent ByteArray TbT × Value)) (v : Value) (w : World) (r : List (Rp.Ent ByteArray TbT) × Rp.Reply) (u : Value) (er vr : Int) (w' : World) : Prop :=
  ∃ ps', EW B L w' ps' u ∧ ps'.map Prod.fst = r.1 ∧ er = r.2.err ∧ vr = r.2.version ∧ OutP (Ob ps v) w w' ∧ ∀ b, Ob ps' u b → Ob ps v b ∨ w.heap.size ≤ b
theorem DoneP.same {B L : Nat} {ps : List (Rp.Ent ByteArray TbT × Value)} {v : Value} {w w' : World} (h : EW B L w ps v) (hB : B ≤ w.heap.size) (hb : Below w.heap.size w w') (r : Rp.Reply) : DoneP B L ps v w (ps.map Prod.fst, r) v r.err r.version w' :=
  ⟨ps, h.below hB hb, rfl, rfl, rfl, OutP.of_below hb, fun _ q => .inl q⟩
end Go.Proofs.YtnegjbkbfgkkjaaGreatDoor

/- Entries at work: what one's cells are; the end of a walk that tells a reply. -/
namespace Go.Proofs.YtnegjbkbfgkkjaaGreatDoor
open Go.RowKit Go.MapKept

theorem OutP.setNew {O : Nat → Prop} {w w1 : World} (h : OutP O w w1) {a : Addr} (ha : w.heap.size ≤ a.block) (u : Value) : OutP O w (w1.setCell a u) :=
  ⟨h.os, h.tape, h.output, by simpa [World.setCell] using h.size, fun b hb hn => (Below.heap_setCell w1 a u b (by omega)).trans (h.block b hb hn)⟩
theorem OutP.set1 (w : World) (a : Addr) (u : Value) : OutP (fun b => b = a.block) w (w.setCell a u) := ⟨rfl, rfl, rfl, by simp [World.setCell], fun b _ hn => Below.heap_setCell w a u b hn⟩
theorem OutP.then {O : Nat → Prop} {w w1 w2 : World} (h : OutP O w w1) (hb : Below w1.heap.size w1 w2) : OutP O w w2 := h.trans (OutP.of_below (O := fun _ => False) hb) fun _ _ q => q.elim
theorem DoneP.fin {B L : Nat} {ps ps' : List (Rp.Ent ByteArray TbT × Value)} {v u : Value} {w w4 : World} {r : List (Rp.Ent ByteArray TbT) × Rp.Reply} {n1 rb : Nat} (h : EW B L w4 ps' u) (ho : OutP (Ob ps v) w w4) (hO : ∀ b, Ob ps v b → b < w.heap.size) (hn : ∀ b, Ob ps' u b → Ob ps v b ∨ n1 ≤ b) (h1 : w.heap.size ≤ rb) (h2 : rb < n1) (hB : B ≤ w.heap.size) (e1 : ps'.map Prod.fst = r.1) (x y : Value) {er vr : Int} (e2 : er = r.2.err) (e3 : vr = r.2.version) :
    DoneP B L ps v w r u er vr ((w4.setCell ⟨rb, 0, none⟩ x).setCell ⟨rb, 1, none⟩ y) := by
  have hno : ∀ b, b = rb → B ≤ b ∧ ¬ Ob ps' u b := by
    rintro b rfl
    refine ⟨by omega, fun q => ?_⟩
    rcases hn b q with q | q
    · have := hO b q; omega
    · omega
  have hB4 : B ≤ w4.heap.size := Nat.le_trans hB ho.size
  refine ⟨ps', ?_, e1, e2, e3, (ho.setNew (a := ⟨rb, 0, none⟩) h1 x).setNew (a := ⟨rb, 1, none⟩) h1 y, fun b q => ?_⟩
  · exact (h.out (OutP.set1 w4 ⟨rb, 0, none⟩ x) hno hB4).out (OutP.set1 _ ⟨rb, 1, none⟩ y) hno (by simpa [World.setCell] using hB4)
  · rcases hn b q with q | q
    · exact .inl q
    · exact .inr (by omega)
theorem flat_at12 {ps : List (Rp.Ent ByteArray TbT × Value)} {i : Nat} {p : Rp.Ent ByteArray TbT × Value} (hp : ps[i]? = some p) : (ps.map ec).flatten = (ps.map ec).flatten.take (i * 4) ++ (ec p ++ (ps.map ec).flatten.drop ((i + 1) * 4)) := by
  obtain ⟨hi, e⟩ := List.getElem?_eq_some_iff.1 hp
  rw [← flat_set12 (ps.map ec) i (ec p) ec_width (by simpa using hi)]
  congr 1
  rw [← List.map_set, ← e, List.set_getElem_self]
theorem flat_now {ps : List (Rp.Ent ByteArray TbT × Value)} {i : Nat} {x : Rp.Ent ByteArray TbT} {kv : Value} (hp : ps[i]? = some (x, kv)) (q : Int) : (ps.map ec).flatten.set (i * 4 + 2) (.int .i64 q) = (ps.map ec).flatten.take (i * 4) ++ (ec ({ x with now := q }, kv) ++ (ps.map ec).flatten.drop ((i + 1) * 4)) := by
  have hi := (List.getElem?_eq_some_iff.1 hp).1
  have hl : ((ps.map ec).flatten.take (i * 4)).length = i * 4 := by
    rw [List.length_take, flat_len2 (ps.map ec) ec_width, List.length_map]
    have : i * 4 ≤ ps.length * 4 := Nat.mul_le_mul_right 4 (by omega)
    omega
  conv => lhs; rw [flat_at12 hp]
  rw [List.set_append_right _ _ (by omega), hl, show i * 4 + 2 - i * 4 = 2 by omega]
  rfl
/-- where the row lies -/
theorem EW.place {B L : Nat} {w : World} {ps : List (Rp.Ent ByteArray TbT × Value)} {v : Value} (h : EW B L w ps v) (h0 : 0 < ps.length) : ∃ g off cap, off = 0 ∧ v = .slice (some ⟨g, off, none⟩) ps.length cap ∧ L ≤ g ∧ g < w.heap.size ∧ ∀ j, w.frozen? ⟨g, j, none⟩ = false := by
  obtain ⟨g, cap, cur, hv, hg, hh, _⟩ := own_at12 h.own h0
  exact ⟨g, 0, cap, rfl, hv, hg, (Array.getElem?_eq_some_iff.1 hh).1, fun j => frozen_of_row w g j cur _ hh⟩
theorem EW.slice {B L : Nat} {w : World} {ps : List (Rp.Ent ByteArray TbT × Value)} {v : Value} (h : EW B L w ps v) : ∃ a c, v = .slice a ps.length c := by
  obtain ⟨a, c, e, _⟩ := h.ls.1.tell
  exact ⟨a, c, by rw [e]; simp⟩
/-- an entry's cells -/
theorem EW.at {B L : Nat} {w : World} {ps : List (Rp.Ent ByteArray TbT × Value)} {g off n cap : Nat} (h : EW B L w ps (.slice (some ⟨g, off, none⟩) n cap)) {i : Nat} {x : Rp.Ent ByteArray TbT} {kv : Value} (hi : ps[i]? = some (x, kv)) (h0 : off = 0) :
    ∃ ka kc, kv = .slice ka x.kept.length kc ∧ w.cell? ⟨g, off + i * 4, none⟩ = some (.string x.name) ∧ w.cell? ⟨g, off + i * 4 + 1, none⟩ = some (.int .i64 x.next) ∧ w.cell? ⟨g, off + i * 4 + 2, none⟩ = some (.int .i64 x.now) ∧ w.cell? ⟨g, off + i * 4 + 3, none⟩ = some (.slice ka x.kept.length kc) ∧ Ls w.heap.size w 6 (VeM B w) x.kept (.slice ka x.kept.length kc) := by
  have hm := List.mem_of_getElem? hi
  have hlt := (List.getElem?_eq_some_iff.1 hi).1
  obtain ⟨ka, kc, ek⟩ := (h.kept _ hm).shape
  simp only at ek
  subst ek h0
  obtain ⟨css, k1, k2⟩ := h.kept _ hm
  refine ⟨ka, kc, rfl, ?_⟩
  obtain ⟨g', cap', cur, e, _, _, _, _, _, hc⟩ := own_at12 h.own (by omega)
  cases e
  have key : ∀ t u, (ec (x, Value.slice ka x.kept.length kc))[t]? = some u → w.cell? ⟨g, i * 4 + t, none⟩ = some u := fun t u hu => hc _ u (flat_at2 _ ec_width i t _ u (by rw [List.getElem?_map, hi]; rfl) hu)
  refine ⟨?_, ?_, ?_, ?_, (rows_ls k1 k2 (Nat.le_refl _)).1⟩
  · have := key 0 _ rfl; simpa using this
  · have := key 1 _ rfl; simpa using this
  · have := key 2 _ rfl; simpa using this
  · have := key 3 _ rfl; simpa using this
theorem fst_at {ps : List (Rp.Ent ByteArray TbT × Value)} {i : Nat} {x : Rp.Ent ByteArray TbT} (h : (ps.map Prod.fst)[i]? = some x) : ∃ kv, ps[i]? = some (x, kv) := by
  rw [List.getElem?_map, Option.map_eq_some_iff] at h
  obtain ⟨⟨y, kv⟩, h1, rfl⟩ := h
  exact ⟨kv, h1⟩
theorem OutP.imp {O O' : Nat → Prop} {w w' : World} (h : OutP O w w') (hO : ∀ b, b < w.heap.size → O b → O' b) : OutP O' w w' := ⟨h.os, h.tape, h.output, h.size, fun b hb hn => h.block b hb fun q => hn (hO b hb q)⟩
/-- another version counts -/
theorem EW.now {B L : Nat} {w : World} {ps : List (Rp.Ent ByteArray TbT × Value)} {g off n cap i : Nat} {x : Rp.Ent ByteArray TbT} {kv : Value} (h : EW B L w ps (.slice (some ⟨g, off, none⟩) n cap)) (hBL : B ≤ L) (hL : L ≤ w.heap.size) (h0 : off = 0) (hp : ps[i]? = some (x, kv)) (q : Int) :
    EW B L (w.setCell ⟨g, off + i * 4 + 2, none⟩ (.int .i64 q)) (ps.set i ({ x with now := q }, kv)) (.slice (some ⟨g, off, none⟩) n cap) ∧ OutP (fun b => b = g) w (w.setCell ⟨g, off + i * 4 + 2, none⟩ (.int .i64 q)) := by
  subst h0
  rw [Nat.zero_add]
  have hm := List.mem_of_getElem? hp
  obtain ⟨a, c, ev⟩ := h.slice
  obtain rfl : n = ps.length := by simp at ev; exact ev.2.1
  obtain ⟨o3, _⟩ := h.own.stored (i * 4 + 2) (.int .i64 q)
  rw [flat_now hp] at o3
  have ho := OutP.set1 w ⟨g, i * 4 + 2, none⟩ (.int .i64 q)
  have hg := (own_ltT h.own g rfl).1
  have hb : Below B w (w.setCell ⟨g, i * 4 + 2, none⟩ (.int .i64 q)) := ho.below (fun b e => by have : b = g := e; omega) (by omega)
  refine ⟨h.put hBL hL hp (ho.imp fun b _ e => .inl (by have : b = g := e; rw [this]; rfl)) o3 ?_ (.inl rfl), ho⟩
  exact (h.kept _ hm).same hb fun b hb' => Below.heap_setCell w _ _ b fun e => h.apart _ hm b hb' (by have : b = g := e; rw [this]; rfl)
theorem Ob.set {ps : List (Rp.Ent ByteArray TbT × Value)} {v kv : Value} {i b : Nat} {x y : Rp.Ent ByteArray TbT} (hp : ps[i]? = some (x, kv)) (h : Ob (ps.set i (y, kv)) v b) : Ob ps v b := by
  rcases h with q | ⟨p, hm, q⟩
  · exact .inl q
  · rcases List.mem_or_eq_of_mem_set hm with r | rfl
    · exact .inr ⟨p, r, q⟩
    · exact .inr ⟨(x, kv), List.mem_of_getElem? hp, q⟩
theorem map_set_fst {ps : List (Rp.Ent ByteArray TbT × Value)} {i : Nat} {y : Rp.Ent ByteArray TbT} {kv : Value} : (ps.set i (y, kv)).map Prod.fst = (ps.map Prod.fst).set i y := by rw [List.map_set]
/-- what a deployment, a way back, a drop make -/
def deployF (l : List (Rp.Ent ByteArray TbT)) (t : TbT) : List (Rp.Ent ByteArray TbT) × Rp.Reply :=
  if tabW t ≠ 0 then (l, ⟨tabW t, 0⟩) else match Rp.findE l t.name with
    | some e => (Rp.putE ltN l (Rp.withNext e t), ⟨0, e.next⟩)
    | none => if 6 ≤ l.length then (l, ⟨5, 0⟩) else (Rp.putE ltN l (Rp.withNext ⟨t.name, 1, 0, []⟩ t), ⟨0, 1⟩)
def backF (l : List (Rp.Ent ByteArray TbT)) (n : ByteArray) (q : Int) : List (Rp.Ent ByteArray TbT) × Rp.Reply :=
  match Rp.findE l n with
    | some e => (match Rp.findV e.kept q with | some _ => (Rp.putE ltN l { e with now := q }, ⟨0, q⟩) | none => (l, ⟨12, 0⟩))
    | none => (l, ⟨6, 0⟩)
def dropF (l : List (Rp.Ent ByteArray TbT)) (n : ByteArray) : List (Rp.Ent ByteArray TbT) × Rp.Reply :=
  match Rp.findE l n with
    | some _ => (Rp.delE l n, ⟨0, 0⟩)
    | none => (l, ⟨6, 0⟩)
end Go.Proofs.YtnegjbkbfgkkjaaGreatDoor

/- Plain: what Run makes stays right and small; commands one behind the other. -/
namespace Go.Proofs.YtnegjbkbfgkkjaaGreatDoor
open Go.RowKit Go.MapKept

/-- a command's plain words -/
def cmdR (c : CmT) : Rp.Cmd ByteArray TbT := ⟨c.session, c.seq, c.kind, c.table, c.name, c.back⟩
def applyN (r : Rp.Repo ByteArray TbT) (c : CmT) : Rp.Repo ByteArray TbT × Rp.Reply := Rp.apply ltN tabW TbT.name r (cmdR c)
def doneN (l : List (Rp.Ent ByteArray TbT)) (c : CmT) : List (Rp.Ent ByteArray TbT) × Rp.Reply := Rp.done ltN tabW TbT.name l (cmdR c)
theorem doneN_eq (l : List (Rp.Ent ByteArray TbT)) (c : CmT) : doneN l c = if c.kind = 1 then deployF l c.table else if c.kind = 2 then backF l c.name c.back else if c.kind = 3 then dropF l c.name else (l, ⟨1, 0⟩) := by
  unfold doneN Rp.done deployF backF dropF
  simp only [cmdR]
  congr 1
  · congr 1
    cases Rp.findE l c.table.name <;> rfl
  · congr 1
    · cases Rp.findE l c.name with
      | none => rfl
      | some e => simp only []; cases Rp.findV e.kept c.back <;> rfl
    · congr 1
      cases Rp.findE l c.name <;> rfl
/-- right, and small -/
structure RG (N : Int) (r : Rp.Repo ByteArray TbT) : Prop where
  inv : Rp.RInv ltN tabW TbT.name r
  next : ∀ e ∈ r.entries, e.next ≤ N + 1
  app : 0 ≤ r.applied ∧ r.applied ≤ N
theorem done_next {N : Int} (h0 : 0 ≤ N) {l : List (Rp.Ent ByteArray TbT)} (h : ∀ e ∈ l, e.next ≤ N + 1) (c : Rp.Cmd ByteArray TbT) : ∀ e ∈ (Rp.done ltN tabW TbT.name l c).1, e.next ≤ N + 1 + 1 := by
  have old : ∀ e ∈ l, e.next ≤ N + 1 + 1 := fun e he => by have := h e he; omega
  unfold Rp.done
  split
  · split
    · exact old
    · split
      · rename_i e hfe
        obtain ⟨m1, _⟩ := Rp.findE_some hfe
        intro y hy
        rcases Rp.putE_mem hy with q | rfl
        · exact old y q
        · have := h e m1
          show e.next + 1 ≤ _
          omega
      · split
        · exact old
        · intro y hy
          rcases Rp.putE_mem hy with q | rfl
          · exact old y q
          · show (1 : Int) + 1 ≤ _
            omega
  · split
    · split
      · rename_i e hfe
        obtain ⟨m1, _⟩ := Rp.findE_some hfe
        split
        · intro y hy
          rcases Rp.putE_mem hy with q | rfl
          · exact old y q
          · exact old e m1
        · exact old
      · exact old
    · split
      · split
        · exact fun y hy => old y (List.mem_filter.1 hy).1
        · exact old
      · exact old
theorem applyN_RG {N : Int} (h0 : 0 ≤ N) {r : Rp.Repo ByteArray TbT} (h : RG N r) (c : CmT) : RG (N + 1) (applyN r c).1 := by
  refine ⟨Rp.apply_inv name_ord h.inv (cmdR c), ?_, ?_⟩
  · have old : ∀ e ∈ r.entries, e.next ≤ N + 1 + 1 := fun e he => by have := h.next e he; omega
    unfold applyN Rp.apply
    split
    · exact old
    · split
      · split
        · exact old
        · split
          · exact old
          · exact done_next h0 h.next _
      · exact done_next h0 h.next _
  · have := h.app
    unfold applyN Rp.apply
    split
    · exact ⟨this.1, by show r.applied ≤ N + 1; omega⟩
    · split
      · split
        · exact ⟨this.1, by show r.applied ≤ N + 1; omega⟩
        · split
          · exact ⟨this.1, by show r.applied ≤ N + 1; omega⟩
          · exact ⟨by show 0 ≤ r.applied + 1; omega, by show r.applied + 1 ≤ N + 1; omega⟩
      · exact ⟨by show 0 ≤ r.applied + 1; omega, by show r.applied + 1 ≤ N + 1; omega⟩
/-- commands one behind the other: what is left, and the replies -/
def goN (r : Rp.Repo ByteArray TbT) : List CmT → Rp.Repo ByteArray TbT × List Rp.Reply
  | [] => (r, [])
  | c :: l => ((goN (applyN r c).1 l).1, (applyN r c).2 :: (goN (applyN r c).1 l).2)
theorem goN_app (r : Rp.Repo ByteArray TbT) (a b : List CmT) : goN r (a ++ b) = ((goN (goN r a).1 b).1, (goN r a).2 ++ (goN (goN r a).1 b).2) := by
  induction a generalizing r with
  | nil => rfl
  | cons c a ih => rw [List.cons_append, goN, ih, goN]; rfl
theorem goN_one (r : Rp.Repo ByteArray TbT) (c : CmT) : goN r [c] = ((applyN r c).1, [(applyN r c).2]) := rfl
theorem goN_len (r : Rp.Repo ByteArray TbT) (l : List CmT) : (goN r l).2.length = l.length := by
  induction l generalizing r with
  | nil => rfl
  | cons c l ih => rw [goN, List.length_cons, ih, List.length_cons]
theorem empty_RG : RG 0 (Rp.empty : Rp.Repo ByteArray TbT) := ⟨⟨List.Pairwise.nil, by simp [Rp.empty], (fun e h => by cases h), List.Pairwise.nil, by simp [Rp.empty]⟩, (fun e h => by cases h), by simp [Rp.empty], by simp [Rp.empty]⟩
theorem goN_RG (r : Rp.Repo ByteArray TbT) : ∀ (l : List CmT) {N : Int}, 0 ≤ N → RG N r → RG (N + (l.length : Int)) (goN r l).1 := by
  intro l
  induction l generalizing r with
  | nil => intro N _ h; simpa [goN] using h
  | cons c l ih =>
    intro N h0 h
    have := ih (applyN r c).1 (by omega) (applyN_RG h0 h c)
    rw [goN]
    show RG _ (goN (applyN r c).1 l).1
    rw [List.length_cons]
    have e : N + ((l.length + 1 : Nat) : Int) = N + 1 + (l.length : Int) := by omega
    rw [e]
    exact this
def runN (l : List CmT) : Rp.Repo ByteArray TbT × List Rp.Reply := goN Rp.empty l
theorem runN_RG (l : List CmT) : RG (l.length : Int) (runN l).1 := by
  have := goN_RG Rp.empty l (Int.le_refl 0) empty_RG
  simpa [runN] using this
theorem runN_step {l : List CmT} {m : Nat} {c : CmT} (h : l[m]? = some c) : runN (l.take (m + 1)) = ((applyN (runN (l.take m)).1 c).1, (runN (l.take m)).2 ++ [(applyN (runN (l.take m)).1 c).2]) := by
  have e : l.take (m + 1) = l.take m ++ [c] := by rw [List.take_add_one, h]; rfl
  unfold runN
  rw [e, goN_app, goN_one]
theorem RG.rise {N : Int} {r : Rp.Repo ByteArray TbT} (h : RG N r) : Rise r.entries := h.inv.rise
theorem RG.dist {N : Int} {r : Rp.Repo ByteArray TbT} (h : RG N r) : Dist r.seats := by
  intro i j x y hx hy e
  obtain ⟨hi, ei⟩ := List.getElem?_eq_some_iff.1 hx
  obtain ⟨hj, ej⟩ := List.getElem?_eq_some_iff.1 hy
  rcases Nat.lt_trichotomy i j with q | q | q
  · have := List.pairwise_iff_getElem.1 h.inv.one i j hi hj q
    rw [ei, ej] at this
    exact absurd e this
  · exact q
  · have := List.pairwise_iff_getElem.1 h.inv.one j i hj hi q
    rw [ei, ej] at this
    exact absurd e.symm this
end Go.Proofs.YtnegjbkbfgkkjaaGreatDoor

/- Walks: a repo's lists are copied. -/
namespace Go.Proofs.YtnegjbkbfgkkjaaGreatDoor
open Go.RowKit Go.MapKept

theorem Rows12.tail {α : Type} {k : Nat} {R : α → Array Value → Prop} {x : α} {l : List α} {c : List Value} {css : List (List Value)} (h : Rows12 k R (x :: l) (c :: css)) : Rows12 k R l css :=
  ⟨by have := h.len; simpa using this, fun i y hy => by obtain ⟨d, h1, h2, h3⟩ := h.each (i + 1) y (by simpa using hy); exact ⟨d, by simpa using h1, h2, h3⟩⟩
theorem own_mono12 {w : World} {B B' : Nat} {e : TypeId} {k n : Nat} {v : Value} {xs : List Value} (h : w.ownsRow B e k v n xs) (hb : B' ≤ B) : w.ownsRow B' e k v n xs := by
  refine ⟨h.1, ?_⟩
  rcases h.2 with q | ⟨g, cap, cur, hv, hg, r⟩
  · exact .inl q
  · exact .inr ⟨g, cap, cur, hv, by omega, r⟩
/-- the first m entries have rows of their own, the others what they had (below L) -/
structure CP (B L : Nat) (w : World) (ps : List (Rp.Ent ByteArray TbT × Value)) (m : Nat) (v : Value) : Prop where
  own : w.ownsRow L 54 4 v ps.length (ps.map ec).flatten
  kept : ∀ i p, i < m → ps[i]? = some p → KeM B L w p.1.kept p.2
  raw : ∀ i p, m ≤ i → ps[i]? = some p → Ls L w 6 (VeM B w) p.1.kept p.2 ∧ PlS p.2
  apart : ∀ i p b, i < m → ps[i]? = some p → p.2.ownBlock = some b → v.ownBlock ≠ some b
  two : ∀ i j p q b, i < j → j < m → ps[i]? = some p → ps[j]? = some q → p.2.ownBlock = some b → q.2.ownBlock ≠ some b
theorem CP.whole {B L : Nat} {w : World} {ps : List (Rp.Ent ByteArray TbT × Value)} {v : Value} (h : CP B L w ps ps.length v) : EW B L w ps v := by
  have at' : ∀ p ∈ ps, ∃ i, i < ps.length ∧ ps[i]? = some p := fun p hp => by
    obtain ⟨i, hi⟩ := List.getElem?_of_mem hp
    exact ⟨i, (List.getElem?_eq_some_iff.1 hi).1, hi⟩
  refine ⟨h.own, fun p hp => ?_, fun p hp b hb => ?_, ?_⟩
  · obtain ⟨i, hi, e⟩ := at' p hp
    exact h.kept i p hi e
  · obtain ⟨i, hi, e⟩ := at' p hp
    exact h.apart i p b hi e hb
  · rw [List.pairwise_iff_getElem]
    intro i j hi hj hij b hb
    exact h.two i j _ _ b hij hj (List.getElem?_eq_getElem hi) (List.getElem?_eq_getElem hj) hb
theorem CP.below {B L : Nat} {w w' : World} {ps : List (Rp.Ent ByteArray TbT × Value)} {m : Nat} {v : Value} (h : CP B L w ps m v) (hBL : B ≤ L) (hL : L ≤ w.heap.size) (hb : Below w.heap.size w w') : CP B L w' ps m v :=
  ⟨own_keepT h.own hb, fun i p hi hp => (h.kept i p hi hp).same (hb.mono (by omega)) fun b q => hb.block b ((h.kept i p hi hp).lt b q).2, fun i p hi hp => ⟨(h.raw i p hi hp).1.below (hb.mono hL) fun x cs q => VeM.below (hb.mono (by omega)) q, (h.raw i p hi hp).2⟩, h.apart, h.two⟩
theorem CP.place {B L : Nat} {w : World} {ps : List (Rp.Ent ByteArray TbT × Value)} {m : Nat} {v : Value} (h : CP B L w ps m v) (h0 : 0 < ps.length) : ∃ g off cap, off = 0 ∧ v = .slice (some ⟨g, off, none⟩) ps.length cap ∧ L ≤ g ∧ g < w.heap.size ∧ (∀ j, w.frozen? ⟨g, j, none⟩ = false) ∧
    ∀ i x kv, ps[i]? = some (x, kv) → w.cell? ⟨g, off + i * 4, none⟩ = some (.string x.name) ∧ w.cell? ⟨g, off + i * 4 + 1, none⟩ = some (.int .i64 x.next) ∧ w.cell? ⟨g, off + i * 4 + 2, none⟩ = some (.int .i64 x.now) ∧ w.cell? ⟨g, off + i * 4 + 3, none⟩ = some kv := by
  obtain ⟨g, cap, cur, hv, hg, hh, _, _, _, hc⟩ := own_at12 h.own h0
  refine ⟨g, 0, cap, rfl, hv, hg, (Array.getElem?_eq_some_iff.1 hh).1, fun j => frozen_of_row w g j cur _ hh, fun i x kv hi => ?_⟩
  have key : ∀ t u, (ec (x, kv))[t]? = some u → w.cell? ⟨g, i * 4 + t, none⟩ = some u := fun t u hu => hc _ u (flat_at2 _ ec_width i t _ u (by rw [List.getElem?_map, hi]; rfl) hu)
  refine ⟨?_, ?_, ?_, ?_⟩
  · have := key 0 _ rfl; simpa using this
  · have := key 1 _ rfl; simpa using this
  · have := key 2 _ rfl; simpa using this
  · have := key 3 _ rfl; simpa using this
theorem flat_kept {ps : List (Rp.Ent ByteArray TbT × Value)} {i : Nat} {x : Rp.Ent ByteArray TbT} {kv : Value} (hp : ps[i]? = some (x, kv)) (u : Value) : (ps.map ec).flatten.set (i * 4 + 3) u = (((ps.set i (x, u))).map ec).flatten := by
  have hi := (List.getElem?_eq_some_iff.1 hp).1
  have hl : ((ps.map ec).flatten.take (i * 4)).length = i * 4 := by
    rw [List.length_take, flat_len2 (ps.map ec) ec_width, List.length_map]
    have : i * 4 ≤ ps.length * 4 := Nat.mul_le_mul_right 4 (by omega)
    omega
  rw [List.map_set, flat_set12 _ _ _ ec_width (by simpa using hi)]
  conv => lhs; rw [flat_at12 hp]
  rw [List.set_append_right _ _ (by omega), hl, show i * 4 + 3 - i * 4 = 3 by omega]
  rfl
/-- one entry more has a row of its own -/
theorem CP.step {B L : Nat} {w w2 : World} {ps : List (Rp.Ent ByteArray TbT × Value)} {m g cap : Nat} {x : Rp.Ent ByteArray TbT} {kv u : Value} (h : CP B L w ps m (.slice (some ⟨g, 0, none⟩) ps.length cap)) (hBL : B ≤ L) (hL : L ≤ w.heap.size) (hp : ps[m]? = some (x, kv)) (hb : Below w.heap.size w w2) (hu : KeM B w.heap.size w2 x.kept u) :
    CP B L (w2.setCell ⟨g, m * 4 + 3, none⟩ u) (ps.set m (x, u)) (m + 1) (.slice (some ⟨g, 0, none⟩) ps.length cap) := by
  have hm := (List.getElem?_eq_some_iff.1 hp).1
  have h2 := h.below hBL hL hb
  have hg := own_ltT h.own g rfl
  obtain ⟨o3, g3⟩ := h2.own.stored (m * 4 + 3) u
  have hkeep : ∀ b, b ≠ g → (w2.setCell ⟨g, m * 4 + 3, none⟩ u).heap[b]? = w2.heap[b]? := fun b hb => Below.heap_setCell w2 _ u b hb
  have hb3 : Below L w2 (w2.setCell ⟨g, m * 4 + 3, none⟩ u) := ⟨rfl, rfl, rfl, by simp [World.setCell], fun k hk => hkeep k (by omega)⟩
  have hul := hu.lt
  have old : ∀ {i : Nat} {p : Rp.Ent ByteArray TbT × Value}, (ps.set m (x, u))[i]? = some p → (i = m ∧ p = (x, u)) ∨ (i ≠ m ∧ ps[i]? = some p) := by
    intro i p hi
    rw [List.getElem?_set] at hi
    split at hi
    · rename_i e
      simp only [Option.some.injEq] at hi
      exact .inl ⟨e.symm, hi.symm⟩
    · rename_i e
      exact .inr ⟨fun q => e q.symm, hi⟩
  refine ⟨?_, fun i p hi hq => ?_, fun i p hi hq => ?_, fun i p b hi hq hb' => ?_, fun i j p q b hij hj hp' hq' hb' => ?_⟩
  · rw [flat_kept hp] at o3
    rw [List.length_set]
    exact o3
  · rcases old hq with ⟨_, rfl⟩ | ⟨hne, hq'⟩
    · obtain ⟨css, k1, k2⟩ := hu.same (hb3.mono hBL) fun b hb' => hkeep b (by have := (hul b hb').1; omega)
      exact ⟨css, k1, own_mono12 k2 hL⟩
    · exact (h2.kept i p (by omega) hq').same (hb3.mono hBL) fun b hb' => hkeep b fun e => h2.apart i p b (by omega) hq' hb' (by rw [e]; rfl)
  · rcases old hq with ⟨e, _⟩ | ⟨hne, hq'⟩
    · omega
    · obtain ⟨q1, q2⟩ := h2.raw i p (by omega) hq'
      exact ⟨q1.below hb3 fun x cs q => VeM.below (hb3.mono hBL) q, q2⟩
  · rcases old hq with ⟨_, rfl⟩ | ⟨hne, hq'⟩
    · intro e
      have := (hul b hb').1
      have : g = b := Option.some.inj e
      omega
    · exact h2.apart i p b (by omega) hq' hb'
  · rcases old hq' with ⟨e1, rfl⟩ | ⟨hne, hq2⟩
    · rcases old hp' with ⟨e2, _⟩ | ⟨_, hp2⟩
      · omega
      · intro e
        have := (hul b e).1
        have := ((h.kept i p (by omega) hp2).lt b hb').2
        omega
    · rcases old hp' with ⟨e2, _⟩ | ⟨_, hp2⟩
      · omega
      · exact h2.two i j p q b hij (by omega) hp2 hq2 hb'
end Go.Proofs.YtnegjbkbfgkkjaaGreatDoor

/- Walks: a name goes back to a version. -/
namespace Go.Proofs.YtnegjbkbfgkkjaaGreatDoor
open Go.RowKit Go.MapKept

theorem OutP.new1 {O : Nat → Prop} (w : World) (o : Obj) : OutP O w (w.alloc o) := OutP.of_below (vbelow_new _ _)

set_option maxRecDepth 100000 in
set_option maxHeartbeats 8000000 in
theorem rolledBack_any {B L : Nat} (ps : List (Rp.Ent ByteArray TbT × Value)) (v : Value) (n : ByteArray) (tv : Int) (w : World) (hBL : B ≤ L) (hL : L ≤ w.heap.size) (h : EW B L w ps v) (hr : Rise (ps.map Prod.fst)) (hl : ps.length ≤ 90) :
    Calls Tryz.prog 35 #[v, .string n, .int .i64 tv] w fun e w' => ∃ er vr, e = .returned (.agg #[.int .i64 er, .int .i64 vr]) ∧ DoneP B L ps v w (backF (ps.map Prod.fst) n tv) v er vr w' := by
  obtain ⟨w1, hw1⟩ : ∃ w1, w1 = w.alloc (.cells #[.int .i64 0, .int .i64 0] 39) := ⟨_, rfl⟩
  have b1 : Below w.heap.size w w1 := by rw [hw1]; exact vbelow_new _ _
  have R1 : Bx2 w1 w.heap.size (.int .i64 0) (.int .i64 0) := by rw [hw1]; exact Bx2.new _ _ _ _
  have hB : B ≤ w.heap.size := Nat.le_trans hBL hL
  have E1 := h.below hB b1
  have hB1 : B ≤ w1.heap.size := Nat.le_trans hB b1.size
  have EA := hide (entryAt_any (B := B) (ps.map Prod.fst) v n w1 hB1 E1.ls.1 (by simp; omega) (hr.mono n))
  have sz1 : w1.heap.size = w.heap.size + 1 := by rw [hw1]; simp
  have HS := hide sz1
  have HO := hide (fun b q => (h.lt b q).2)
  have HE1 := hide E1
  have HR1 := hide R1
  have HB1 := hide b1
  have HR := hide hr
  have RFD := hide (fun k wx => refused_any k wx)
  have CNT := hide (fun s nx now a m c wx => counting_any s nx now a m c wx)
  obtain ⟨va, vc, hv⟩ := h.slice
  have HV := hide hv
  subst hv
  clear b1 R1 E1 sz1 hr h
  go_enter Tryz.func35, Tryz.ntmps35
  go_upto_region 1 with fail
  rw [← hw1]
  clear hw1
  go_wp2_with fail
  refine (unhide EA).mono ?_
  rintro e w2 ⟨i, hat, rfl, hb2⟩
  have HAT := hide hat
  have E2 := (unhide HE1).below hB1 hb2
  have HE2 := hide E2
  have R2 := (unhide HR1).keep hb2 (unhide HR1).low
  have HB2 := hide (below_via (unhide HB1) hb2)
  have HZ := hide hb2.size
  obtain ⟨F, hF⟩ : ∃ F, F = foundN (ps.map Prod.fst) n i := ⟨_, rfl⟩
  rw [← hF]
  have HF := hide hF
  have HR2 := hide R2
  have r0 := R2.at0
  have r1 := R2.at1
  have f0 := R2.th0
  have f1 := R2.th1
  have rl := R2.low
  clear hat hb2 EA hF HE1 HR1 HB1 R2
  cases F with
  | false =>
    clear E2
    go_wp2_with fail
    refine (unhide RFD _ _).mono ?_
    rintro e w3 ⟨rfl, hb3⟩
    have R3 := (unhide HR2).keep hb3 rl
    have HB3 := hide (below_via (unhide HB2) hb3)
    have HE3 := hide ((unhide HE2).below (Nat.le_trans hB (unhide HB2).size) hb3)
    have q0 := R3.at0
    have q1 := R3.at1
    have p0 := R3.th0
    have p1 := R3.th1
    have HZ3 := hide (Nat.le_trans (unhide HZ) hb3.size)
    clear hb3 R3 r0 r1 f0 f1
    go_wp2
    refine bodyPost_ret (v := .agg #[.int .i64 6, .int .i64 0]) (by simp [results, Tryz.results35, go_sem, q0, q1]) rfl ⟨_, _, rfl, ?_⟩
    have HN : Rp.findE (ps.map Prod.fst) n = none := find_lost (unhide HR) (unhide HAT) (unhide HF).symm
    have e : backF (ps.map Prod.fst) n tv = (ps.map Prod.fst, ⟨6, 0⟩) := by unfold backF; rw [HN]
    rw [e]
    exact DoneP.fin (n1 := w1.heap.size) (unhide HE3) (OutP.of_below (unhide HB3)) (unhide HO) (fun b q => .inl q) (Nat.le_refl _) (by rw [unhide HS]; omega) hB rfl _ _ rfl rfl
  | true =>
    obtain ⟨x, hx, hxn⟩ := found_yes (unhide HF).symm
    have HFE := hide ((find_found (unhide HAT) (unhide HF).symm).trans hx)
    obtain ⟨kv, hp⟩ := fst_at hx
    have hil := (List.getElem?_eq_some_iff.1 hp).1
    obtain ⟨g, off, cap, h0, hv, hLg, hgl, hfz⟩ := E2.place (by omega)
    cases hv
    obtain ⟨ka, kc, rfl, c0, c1, c2, c3, hk⟩ := E2.at hp h0
    have hi0 : (i : Int) < (ps.length : Int) := by omega
    have VA := hide (versionAt_any x.kept (.slice ka x.kept.length kc) tv w2 (Nat.le_trans hB (unhide HB2).size) hk)
    have FV := findV_ix x.kept tv
    obtain ⟨X, hX⟩ : ∃ X, X = ixN (fun v : Rp.Ver TbT => v.number == tv) x.kept 0 := ⟨_, rfl⟩
    rw [← hX] at VA FV
    have HP := hide hp
    have H0 := hide h0
    have HXN := hide hxn
    have HIL := hide hil
    have HFZ := hide hfz
    have HLG := hide (And.intro hLg hgl)
    clear E2 hX hx hp hxn hil hk hLg hgl h0 hfz
    go_wp2_with fail
    refine (unhide VA).mono ?_
    rintro e w3 ⟨rfl, hb3⟩
    have R3 := (unhide HR2).keep hb3 rl
    have HB3 := hide (below_via (unhide HB2) hb3)
    have E3 := (unhide HE2).below (Nat.le_trans hB (unhide HB2).size) hb3
    have HE3 := hide E3
    have HR3 := hide R3
    have HZ3 := hide (Nat.le_trans (unhide HZ) hb3.size)
    have q0 := R3.at0
    have q1 := R3.at1
    have p0 := R3.th0
    have p1 := R3.th1
    have rl3 := R3.low
    obtain ⟨_, _, _, d0, d1, d2, d3, _⟩ := E3.at (unhide HP) (unhide H0)
    clear hb3 R3 r0 r1 f0 f1 c0 c1 c2 c3 VA E3
    rcases FV with ⟨hX, hnone⟩ | ⟨m, y, hX, hy, hyn, hsome⟩
    · subst hX
      clear d0 d1 d2 d3
      go_wp2_with fail
      refine (unhide RFD _ _).mono ?_
      rintro e w4 ⟨rfl, hb4⟩
      have R4 := (unhide HR3).keep hb4 rl3
      have HB4 := hide (below_via (unhide HB3) hb4)
      have HE4 := hide ((unhide HE3).below (Nat.le_trans hB (unhide HB3).size) hb4)
      have s0 := R4.at0
      have s1 := R4.at1
      have t0 := R4.th0
      have t1 := R4.th1
      have HNO := hide hnone
      clear hb4 R4 q0 q1 p0 p1 hnone
      go_wp2
      refine bodyPost_ret (v := .agg #[.int .i64 12, .int .i64 0]) (by simp [results, Tryz.results35, go_sem, s0, s1]) rfl ⟨_, _, rfl, ?_⟩
      have e : backF (ps.map Prod.fst) n tv = (ps.map Prod.fst, ⟨12, 0⟩) := by unfold backF; rw [unhide HFE]; simp only []; rw [unhide HNO]
      rw [e]
      exact DoneP.fin (n1 := w1.heap.size) (unhide HE4) (OutP.of_below (unhide HB4)) (unhide HO) (fun b q => .inl q) (Nat.le_refl _) (by rw [unhide HS]; omega) hB rfl _ _ rfl rfl
    · subst hX
      have HSO := hide hsome
      have hm0 : ¬ (m : Int) < 0 := by omega
      have z2 : w3.frozen? ⟨g, off + i * 4 + 2, none⟩ = false := by
        obtain ⟨g', off', cap', e0, ev, _, _, hz⟩ := (unhide HE3).place (by have := unhide HIL; omega)
        cases ev
        exact hz _
      clear hy hyn hsome
      obtain ⟨w4, hw4⟩ : ∃ w4, w4 = w3.setCell ⟨g, off + i * 4 + 2, none⟩ (.int .i64 tv) := ⟨_, rfl⟩
      have PUT := (unhide HE3).now hBL (Nat.le_trans hL (unhide HB3).size) (unhide H0) (unhide HP) tv
      rw [← hw4] at PUT
      obtain ⟨P1, P2⟩ := PUT
      obtain ⟨ka', kc', ek, e0, e1, e2, e3, _⟩ := P1.at (i := i) (x := { x with now := tv }) (kv := .slice ka x.kept.length kc) (by rw [List.getElem?_set_self (unhide HIL)]) (unhide H0)
      cases ek
      have HE4 := hide P1
      have HO4 := hide P2
      have hgr : w.heap.size ≠ g := fun e => by have := (unhide HLG).2; have := (unhide HO) g (.inl rfl); omega
      have R4 := (unhide HR3).other hgr (off + i * 4 + 2) (.int .i64 tv)
      rw [← hw4] at R4
      have HR4 := hide R4
      have s0 := R4.at0
      have s1 := R4.at1
      have t0 := R4.th0
      have t1 := R4.th1
      have rl4 := R4.low
      clear P1 P2 R4 hgr
      simp only at e0 e1 e2 e3
      go_upto_region 7 with fail
      rw [← hw4]
      have HW4 := hide hw4
      clear hw4 q0 q1 p0 p1 d0 d1 d2 d3 z2
      go_wp2_with fail
      refine (unhide CNT _ _ _ _ _ _ _).mono ?_
      rintro e w5 ⟨rfl, hb5⟩
      have R5 := (unhide HR4).keep hb5 rl4
      have hB4 : B ≤ w4.heap.size := by have := (unhide HO4).size; have := (unhide HB3).size; omega
      have HE5 := hide ((unhide HE4).below hB4 hb5)
      have HO5 := hide ((unhide HO4).then hb5)
      have u0 := R5.at0
      have u1 := R5.at1
      have v0 := R5.th0
      have v1 := R5.th1
      clear hb5 R5 s0 s1 t0 t1 e0 e1 e2 e3
      go_wp2
      refine bodyPost_ret (v := .agg #[.int .i64 0, .int .i64 tv]) (by simp [results, Tryz.results35, go_sem, u0, u1]) rfl ⟨_, _, rfl, ?_⟩
      have e : backF (ps.map Prod.fst) n tv = ((ps.map Prod.fst).set i { x with now := tv }, ⟨0, tv⟩) := by
        unfold backF; rw [unhide HFE]; simp only []; rw [unhide HSO]; simp only []
        have hn := unhide HXN
        have hat := unhide HAT
        have hf := unhide HF
        rw [← hn] at hat hf
        rw [put_found (x := { x with now := tv }) hat hf.symm]
      rw [e]
      have hg3 : ∀ b, b < w.heap.size → b = g → Ob ps (.slice (some ⟨g, off, none⟩) ps.length vc) b := fun b _ e => .inl (by rw [e]; rfl)
      exact DoneP.fin (n1 := w1.heap.size) (unhide HE5) ((OutP.of_below (O := Ob ps (.slice (some ⟨g, off, none⟩) ps.length vc)) (unhide HB3)).trans (unhide HO5) hg3) (unhide HO) (fun b q => .inl (Ob.set (unhide HP) q)) (Nat.le_refl _) (by rw [unhide HS]; omega) hB (by rw [map_set_fst]) _ _ rfl rfl
end Go.Proofs.YtnegjbkbfgkkjaaGreatDoor
