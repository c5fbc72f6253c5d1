/- Walks: commands are run. -/
import Derived.Test.YtnegjbkbfgkkjaaGreatDoorG43
import Derived.Laws.MakeOwn
import Derived.Maps.AppendAt
namespace Go.Proofs.YtnegjbkbfgkkjaaGreatDoor
open Go.RowKit Go.MapKept

/-- a reply's cells -/
def repC (p : Rp.Reply) : List Value := [.int .i64 p.err, .int .i64 p.version]
theorem info_Reply : (Tryz.prog.info? 39).map (fun i => (i.zero, i.size, i.bytes)) = some (some (.agg #[.int .i64 0, .int .i64 0]), 2, 16) := by kernel_rfl
theorem make_Reply (n : Nat) (hn : n * 16 ≤ 140737488355328) (w : World) (base : Nat) (hb : base ≤ w.heap.size) : ∃ w', (Instr.makeSlice 28 (.int .i64 0) (.int .i64 (n : Int))).run Tryz.prog w = .ok (.slice (some ⟨w.heap.size, 0, none⟩) 0 n) w' ∧ w'.ownsRow base 39 2 (.slice (some ⟨w.heap.size, 0, none⟩) 0 n) 0 [] ∧ Below w.heap.size w w' := by
  obtain ⟨i0, hi, hz0, hz1, hz2⟩ := info_parts info_Reply
  obtain ⟨w', h1, h2, h3⟩ := run_make_own (P := Tryz.prog) w base 28 39 i0 _ 2 Tryz.underlying28 hi hz0 hz1 .i64 .i64 n (by rw [hz2]; omega) (by unfold maxLen; omega) hb
  exact ⟨w', h1, h2, (Below.refl _ w).grown h3 (Nat.le_refl _) (fun k hk => by cases hk)⟩
/-- so far: the first m commands are done -/
structure RuL (B n : Nat) (w : World) (l : List CmT) (m : Nat) (sv : Value) (wr : World) : Prop where
  res : Blk wr n 27 #[.slice none 0 0, .slice none 0 0, .int .i64 0]
  box : ∃ ev tv, Blk wr (n + 1) 27 #[ev, tv, .int .i64 (runN (l.take m)).1.applied] ∧ RW12 B (n + 2) wr (runN (l.take m)).1 ev tv
  own : wr.ownsRow (n + 2) 39 2 sv m ((runN (l.take m)).2.flatMap repC)
  bel : Below n w wr
theorem EW.nil (B L : Nat) (w : World) : EW B L w [] (.slice none 0 0) := ⟨⟨rfl, .inl ⟨rfl, rfl⟩⟩, (fun p h => by cases h), (fun p h => by cases h), List.Pairwise.nil⟩
theorem RW12.nil (B L : Nat) (w : World) : RW12 B L w Rp.empty (.slice none 0 0) (.slice none 0 0) := ⟨[], [], rfl, EW.nil B L w, ⟨rfl, fun i x hx => by cases hx⟩, ⟨rfl, .inl ⟨rfl, rfl⟩⟩, fun b hb => by cases hb⟩
/-- one command more -/
theorem RuL.next {B n : Nat} {w wr wA w3 w4 w5 w6 w7 : World} {l : List CmT} {m : Nat} {sv v7 : Value} {c : CmT} {ev tv e0 e1 : Value} {ap0 : Value} (h : RuL B n w l m sv wr) (hc : l[m]? = some c) (hB : B ≤ n) (hw : n = w.heap.size)
    (hA : Below wr.heap.size wr wA) (h3 : RW12 B wA.heap.size w3 (applyN (runN (l.take m)).1 c).1 ev tv) (b3 : Below wA.heap.size wA w3) (b4 : Below w3.heap.size w3 w4)
    (hbox : Blk wr (n + 1) 27 #[e0, e1, ap0])
    (e5 : w5 = ((w4.setCell ⟨n + 1, 0, none⟩ ev).setCell ⟨n + 1, 1, none⟩ tv).setCell ⟨n + 1, 2, none⟩ (.int .i64 (applyN (runN (l.take m)).1 c).1.applied))
    (b6 : Below w5.heap.size w5 w6) (hg : w6.grownBy w7 sv.ownBlock) (ho : w7.ownsRow (n + 2) 39 2 v7 (m + 1) ((runN (l.take m)).2.flatMap repC ++ repC (applyN (runN (l.take m)).1 c).2)) :
    RuL B n w l (m + 1) v7 w7 := by
  have hst := runN_step hc
  have hl := own_ltT h.own
  have hbz := h.bel.size
  have bA3 : Below wr.heap.size wr w3 := hA.trans (b3.mono hA.size)
  have br4 : Below wr.heap.size wr w4 := bA3.trans (b4.mono bA3.size)
  have X4 := hbox.kept br4
  have lowb := hbox.low
  have O5 : OutP (fun b => b = n + 1) w4 w5 := by rw [e5]; exact OutP.set3 _ _ _ _ _
  have X5 : Blk w5 (n + 1) 27 #[ev, tv, .int .i64 (applyN (runN (l.take m)).1 c).1.applied] := by rw [e5]; exact ((X4.set 0 ev).set 1 tv).set 2 _
  have hz5 := O5.size
  have hz6 := b6.size
  have X7 := (X5.kept b6).grown hg (fun e => by have := (hl _ e.symm).1; omega)
  have R4 := h3.below b4 (by have := hA.size; have := b3.size; omega)
  have R5 := R4.out O5 (fun b q => ⟨by omega, by have := hA.size; omega⟩) (by have := hA.size; have := b3.size; have := b4.size; omega)
  have hz4 := br4.size
  have R6 := R5.below b6 (by omega)
  have R7 := R6.out (OutP.of_grown (O := fun b => sv.ownBlock = some b) hg fun b e _ => e) (fun b q => ⟨by have := (hl b q).1; omega, by have := (hl b q).2; have := hA.size; omega⟩) (by omega)
  have Z4 := h.res.kept br4
  have Z7 := ((Z4.out O5 (by omega)).kept b6).grown hg (fun e => by have := (hl _ e.symm).1; omega)
  have bel4 : Below n w w4 := h.bel.trans (br4.mono (by omega))
  have bel6 : Below n w w6 := (bel4.trans (O5.below (fun b q => by omega) (by omega))).trans (b6.mono (by omega))
  refine ⟨Z7, ⟨ev, tv, ?_, ?_⟩, ?_, bel6.trans ⟨hg.os, hg.tape, hg.output, hg.size, fun b hb => hg.block b (by have := b6.size; omega) fun e => by have := (hl b e.symm).1; omega⟩⟩
  · rw [hst]; exact X7
  · rw [hst]; exact R7.lower (by have := hA.size; omega)
  · rw [hst]
    simp only [List.flatMap_append, List.flatMap_cons, List.flatMap_nil, List.append_nil]
    exact ho
/-- what Run promises -/
def RunP (B : Nat) (w : World) (l : List CmT) (e : Ending) (w' : World) : Prop := ∃ ev tv rv, e = .returned (.tuple #[.agg #[ev, tv, .int .i64 (runN l).1.applied], rv]) ∧ RW12 B w.heap.size w' (runN l).1 ev tv ∧ w'.ownsRow w.heap.size 39 2 rv l.length ((runN l).2.flatMap repC) ∧ Below w.heap.size w w'

set_option maxRecDepth 100000 in
set_option maxHeartbeats 8000000 in
theorem run_any {B : Nat} (l : List CmT) (v : Value) (w : World) (hB : B ≤ w.heap.size) (hG : GdT B w) (hl : Ls B w 10 (CmM B w) l v) (hn : l.length * 16 ≤ 140737488355328) :
    Calls Tryz.prog 9 #[v] w (RunP B w l) := by
  obtain ⟨la, lc, rfl, hlc, _⟩ := id hl.tell
  obtain ⟨w1, hw1⟩ : ∃ w1, w1 = (w.alloc (.cells #[.slice none 0 0, .slice none 0 0, .int .i64 0] 27)).alloc (.cells #[.slice none 0 0, .slice none 0 0, .int .i64 0] 27) := ⟨_, rfl⟩
  have b1 : Below w.heap.size w w1 := by rw [hw1]; exact below_via (vbelow_new _ _) (vbelow_new _ _)
  have sz1 : w1.heap.size = w.heap.size + 2 := by rw [hw1]; simp
  obtain ⟨wm, hmk, hown, hbm⟩ := make_Reply l.length hn w1 (w.heap.size + 2) (by omega)
  have hbw := below_via b1 hbm
  have L0 : RuL B w.heap.size w l 0 (.slice (some ⟨w1.heap.size, 0, none⟩) 0 l.length) wm := by
    refine ⟨?_, ⟨.slice none 0 0, .slice none 0 0, ?_, RW12.nil _ _ _⟩, hown, hbw⟩
    · refine Blk.kept ?_ hbm
      rw [hw1]
      exact (Blk.new _ _ _).kept (vbelow_new _ _)
    · refine Blk.kept ?_ hbm
      rw [hw1]
      exact Blk.new1 _ _ _ _
  have HL0 := hide L0
  have HLS := hide hl
  have HG := hide hG
  clear b1 sz1 hown hbm hbw L0 hl hG
  go_enter Tryz.func9, Tryz.ntmps9
  go_upto_region 2 with fail
  rw [← hw1]
  clear hw1
  go_wp2
  clear hmk
  go_loopw [5, 16] (fun sv i wr => ∃ m : Nat, m ≤ l.length ∧ i = .int .i64 (m : Int) ∧ Hid (RuL B w.heap.size w l m sv wr)) (fun _ i _ => l.length - (intOf i).toNat)
  case atStart => exact ⟨0, Nat.zero_le _, rfl, HL0⟩
  case round =>
    obtain ⟨m, hm, rfl, HL⟩ := hrel
    clear HL0
    by_cases hlt : m < l.length
    · have hi1 : (m : Int) < (l.length : Int) := by omega
      have hi0 : (0 : Int) ≤ (m : Int) := by omega
      obtain ⟨c, hc⟩ : ∃ c, l[m]? = some c := ⟨_, List.getElem?_eq_getElem hlt⟩
      obtain ⟨b, off, cap', ev⟩ := (unhide HLS).begins (by intro e; subst e; simp at hlt)
      cases ev
      have hbr := (unhide HL).bel
      have hBr : B ≤ wr.heap.size := Nat.le_trans hB hbr.size
      obtain ⟨_, cs, _, hcm, hcell⟩ := ((unhide HLS).below (hbr.mono hB) fun x cs => CmM.below (hbr.mono hB)).at hc
      obtain ⟨ia, oa, ra, ic, oc, rc, rfl, _⟩ := hcm.open
      have d0 := hcell 0 _ rfl
      have d1 := hcell 1 _ rfl
      have d2 := hcell 2 _ rfl
      have d3 := hcell 3 _ rfl
      have d4 := hcell 4 _ rfl
      have d5 := hcell 5 _ rfl
      have d6 := hcell 6 _ rfl
      have d7 := hcell 7 _ rfl
      have d8 := hcell 8 _ rfl
      have d9 := hcell 9 _ rfl
      rw [Nat.add_zero] at d0
      obtain ⟨ev, tv, hbox, hrw⟩ := (unhide HL).box
      obtain ⟨xa, xc, ya, yc, rfl, rfl⟩ := hrw.shape
      obtain ⟨sa, sc, hsv⟩ := own_slice12 (unhide HL).own
      subst hsv
      obtain ⟨wA, hwA⟩ : ∃ wA, wA = wr.alloc (.cells #[.int .i64 c.session, .int .i64 c.seq, .int .i64 c.kind, .string c.table.name, .int .i64 c.table.pol, .slice ia c.table.ins.length ic, .slice oa c.table.outs.length oc, .slice ra c.table.rules.length rc, .string c.name, .int .i64 c.back] 36) := ⟨_, rfl⟩
      have bA : Below wr.heap.size wr wA := by rw [hwA]; exact vbelow_new _ _
      obtain ⟨e0, e1, e2, e3, e4, e5, e6, e7, e8, e9⟩ := (show Blk wA wr.heap.size 36 #[.int .i64 c.session, .int .i64 c.seq, .int .i64 c.kind, .string c.table.name, .int .i64 c.table.pol, .slice ia c.table.ins.length ic, .slice oa c.table.outs.length oc, .slice ra c.table.rules.length rc, .string c.name, .int .i64 c.back] by rw [hwA]; exact Blk.new _ _ _).at10
      have hbA := hbr.trans (bA.mono hbr.size)
      have hBA : B ≤ wA.heap.size := Nat.le_trans hB hbA.size
      have AP := hide (apply_any (runN (l.take m)).1 _ c _ wA hBA ((unhide HG).keep (hbA.mono hB)) (hrw.below bA hBr).rpm (hcm.below (bA.mono hBr)) (runN_RG (l.take m)) (by rw [List.length_take]; omega))
      have NXT := hide (fun (w3 w4 w5 w6 w7 : World) (v7 ev tv : Value) (h3 : RW12 B wA.heap.size w3 (applyN (runN (l.take m)).1 c).1 ev tv) (b3 : Below wA.heap.size wA w3) (b4 : Below w3.heap.size w3 w4) (e5 : w5 = ((w4.setCell ⟨w.heap.size + 1, 0, none⟩ ev).setCell ⟨w.heap.size + 1, 1, none⟩ tv).setCell ⟨w.heap.size + 1, 2, none⟩ (.int .i64 (applyN (runN (l.take m)).1 c).1.applied)) (b6 : Below w5.heap.size w5 w6) (hg : w6.grownBy w7 (Value.slice sa m sc).ownBlock) (ho : w7.ownsRow (w.heap.size + 2) 39 2 v7 (m + 1) ((runN (l.take m)).2.flatMap repC ++ repC (applyN (runN (l.take m)).1 c).2)) => (unhide HL).next hc hB rfl bA h3 b3 b4 hbox e5 b6 hg ho)
      have HBX := hide (And.intro hbox (And.intro (unhide HL).own bA))
      obtain ⟨x0, x1, x2, y0, y1, y2, yl⟩ := (hbox.kept bA).at3
      have hzr := hbr.size
      have hzA := bA.size
      clear bA hbA hbox hrw hcm hcell hbr
      go_upto_region 6 with fail
      rw [← hwA]
      clear hwA d0 d1 d2 d3 d4 d5 d6 d7 d8 d9
      go_wp2_with fail
      refine (unhide AP).mono ?_
      rintro e w3 ⟨ev', tv', rfl, h3, b3⟩
      obtain ⟨za, zc, ta, tc, rfl, rfl⟩ := h3.shape
      obtain ⟨AR, hAR⟩ : ∃ AR, AR = applyN (runN (l.take m)).1 c := ⟨_, rfl⟩
      rw [← hAR] at h3 ⊢
      rw [← hAR] at NXT
      obtain ⟨w4, hw4⟩ : ∃ w4, w4 = (w3.alloc (.cells #[.slice za AR.1.entries.length zc, .slice ta AR.1.seats.length tc, .int .i64 AR.1.applied] 27)).alloc (.cells #[.int .i64 AR.2.err, .int .i64 AR.2.version] 39) := ⟨_, rfl⟩
      have b4 : Below w3.heap.size w3 w4 := by rw [hw4]; exact below_via (vbelow_new _ _) (vbelow_new _ _)
      have N4 : Blk w4 w3.heap.size 27 #[.slice za AR.1.entries.length zc, .slice ta AR.1.seats.length tc, .int .i64 AR.1.applied] := by rw [hw4]; exact (Blk.new _ _ _).kept (vbelow_new _ _)
      have M4 : Blk w4 (w3.heap.size + 1) 39 #[.int .i64 AR.2.err, .int .i64 AR.2.version] := by rw [hw4]; exact Blk.new1 _ _ _ _
      obtain ⟨n0, n1, n2, _, _, _, nl⟩ := N4.at3
      have hz3 : wr.heap.size ≤ w3.heap.size := Nat.le_trans hzA b3.size
      obtain ⟨hbox, hown, bA⟩ := unhide HBX
      have X4 := hbox.kept ((bA.trans (b3.mono hzA)).trans (b4.mono (Nat.le_trans hzA b3.size)))
      obtain ⟨x0, x1, x2, y0, y1, y2, yl⟩ := X4.at3
      obtain ⟨w5, hw5⟩ : ∃ w5, w5 = ((w4.setCell ⟨w.heap.size + 1, 0, none⟩ (.slice za AR.1.entries.length zc)).setCell ⟨w.heap.size + 1, 1, none⟩ (.slice ta AR.1.seats.length tc)).setCell ⟨w.heap.size + 1, 2, none⟩ (.int .i64 AR.1.applied) := ⟨_, rfl⟩
      have O5 : OutP (fun b => b = w.heap.size + 1) w4 w5 := by rw [hw5]; exact OutP.set3 _ _ _ _ _
      have M5 := M4.out O5 (by have := hbox.low; omega)
      obtain ⟨m0, m1, _, _, ml⟩ := M5.at2
      have hol := own_ltT hown
      have OW5 : w5.ownsRow (w.heap.size + 2) 39 2 (.slice sa m sc) m ((runN (l.take m)).2.flatMap repC) := own_sameT (own_keepT hown ((bA.trans (b3.mono hzA)).trans (b4.mono (Nat.le_trans hzA b3.size)))) fun b q => O5.block b (by have := (hol b q).2; have := b4.size; omega) fun e => by have := (hol b q).1; omega
      have HH3 := hide (And.intro h3 (And.intro b3 b4))
      have HOW := hide OW5
      have HSZ := hide (show w.heap.size + 2 ≤ w5.heap.size by have := hbox.low; have := O5.size; have := b4.size; omega)
      have HW5 := hide hw5
      have HW4 := hide hw4
      obtain ⟨i0, hi0, hz0, hz2, hzb⟩ := info_parts info_Reply
      have HI := hide (And.intro hi0 (And.intro hz0 (And.intro hz2 hzb)))
      have hw : IntKind.i64.wrap ((m : Int) + 1) = ((m + 1 : Nat) : Int) := by rw [IntKind.wrap_i64]; omega
      clear h3 b3 b4 N4 M4 hbox hown bA X4 O5 M5 hol OW5 hw5 hw4 hi0 hz0 hz2 hzb e0 e1 e2 e3 e4 e5 e6 e7 e8 e9 hAR
      go_upto_region 7 with fail
      rw [← unhide HW4]
      go_upto_region 8 with fail
      rw [← unhide HW5]
      go_wp2_with (at_builtin; refine wpList_append_own_at _ rfl _ _ 28 rfl (w.heap.size + 2) 39 i0 (.agg #[.int .i64 0, .int .i64 0]) 2 16 Tryz.underlying28 (unhide HI).1 (unhide HI).2.1 (unhide HI).2.2.1 (unhide HI).2.2.2 rfl (by decide) _ m ((runN (l.take m)).2.flatMap repC) rfl ((unhide HOW).alloc _) ⟨w5.heap.size, 0, none⟩ 1 1 [.int .i64 AR.2.err, .int .i64 AR.2.version] rfl rfl (cells_new _ _ _) (by intro x hx; simp at hx; rcases hx with rfl | rfl <;> rfl) (by unfold maxLen; omega) (by omega) (by have := unhide HSZ; simp; omega) ?_)
      intro v7 w7 hown hgrow hnil hat
      obtain ⟨h3, b3, b4⟩ := unhide HH3
      have HN := hide (unhide NXT _ _ _ _ _ _ _ _ h3 b3 b4 (unhide HW5) (vbelow_new _ _) hgrow hown)
      clear hown hgrow hnil hat h3 b3 b4 x0 x1 x2 y0 y1 y2 m0 m1 n0 n1 n2
      go_wp2
      go_roundw
      case rel => exact ⟨m + 1, hlt, by first | rfl | go_num, HN⟩
      case measure => simp [intOf]; omega
    · obtain rfl : m = l.length := by omega
      have hb := (unhide HL).box
      have ho := (unhide HL).own
      rw [List.take_length] at hb ho
      obtain ⟨ev, tv, hbox, hrw⟩ := hb
      obtain ⟨xa, xc, ya, yc, rfl, rfl⟩ := hrw.shape
      obtain ⟨x0, x1, x2, _, _, _, xl⟩ := hbox.at3
      obtain ⟨q0, q1, q2, p0, p1, p2, pl⟩ := (unhide HL).res.at3
      obtain ⟨R, hR⟩ : ∃ R, R = runN l := ⟨_, rfl⟩
      rw [← hR] at hrw x0 x1 x2 ho
      have HR := hide hR
      have HO := hide ho
      have HRW := hide hrw
      have HBL := hide (unhide HL).bel
      obtain ⟨sa, sc, hsv⟩ := own_slice12 ho
      subst hsv
      clear hbox hrw ho hR
      go_wp2
      refine bodyPost_ret (v := .tuple #[.agg #[.slice xa R.1.entries.length xc, .slice ya R.1.seats.length yc, .int .i64 R.1.applied], .slice sa l.length sc]) (by simp [results, Tryz.results9, go_sem, q0, q1, q2]) rfl ?_
      have hbl := unhide HBL
      have hz := hbl.size
      have hO := OutP.set3 wr w.heap.size (.slice xa R.1.entries.length xc) (.slice ya R.1.seats.length yc) (.int .i64 R.1.applied)
      have hol := own_ltT (unhide HO)
      unfold RunP
      rw [← unhide HR]
      exact ⟨_, _, _, rfl, ((unhide HRW).out hO (fun b q => ⟨by omega, by omega⟩) (by omega)).lower (by omega), own_mono12 (own_sameT (unhide HO) fun b q => hO.block b (hol b q).2 fun e => by have := (hol b q).1; omega) (by omega), hbl.trans (hO.below (fun b q => by omega) hz)⟩
end Go.Proofs.YtnegjbkbfgkkjaaGreatDoor

/- Walks: a version of a name's table is found. -/
namespace Go.Proofs.YtnegjbkbfgkkjaaGreatDoor
open Go.RowKit Go.MapKept

/-- a table without anything -/
def zeroT : TbT := ⟨⟨#[]⟩, 0, [], [], []⟩
theorem zeroT_mem (B : Nat) (w : World) : TbM B w zeroT #[.string ⟨#[]⟩, .int .i64 0, .slice none 0 0, .slice none 0 0, .slice none 0 0] :=
  ⟨_, _, _, rfl, ⟨Nat.zero_le _, none, 0, rfl, ⟨Nat.le_refl _, Nat.zero_le _⟩, fun h => absurd rfl h⟩, ⟨Nat.zero_le _, none, 0, rfl, ⟨Nat.le_refl _, Nat.zero_le _⟩, fun h => absurd rfl h⟩, ⟨Nat.zero_le _, none, 0, rfl, ⟨Nat.le_refl _, Nat.zero_le _⟩, fun h => absurd rfl h⟩⟩
def findT (r : Rp.Repo ByteArray TbT) (n : ByteArray) (v : Int) : TbT := (Rp.find r n v).1.getD zeroT
/-- what Find promises -/
def FiP (B : Nat) (w : World) (r : Rp.Repo ByteArray TbT) (n : ByteArray) (v : Int) (e : Ending) (w' : World) : Prop := ∃ tcs, e = .returned (.tuple #[.agg tcs, .int .i64 (Rp.find r n v).2]) ∧ TbM B w' (findT r n v) tcs ∧ Below w.heap.size w w'
theorem find_none1 {r : Rp.Repo ByteArray TbT} {n : ByteArray} {v : Int} (h : Rp.findE r.entries n = none) : Rp.find r n v = (none, 6) := by unfold Rp.find; rw [h]
theorem find_none2 {r : Rp.Repo ByteArray TbT} {n : ByteArray} {v : Int} {e : Rp.Ent ByteArray TbT} (h : Rp.findE r.entries n = some e) (h2 : Rp.findV e.kept (if v = 0 then e.now else v) = none) : Rp.find r n v = (none, 12) := by unfold Rp.find; rw [h]; simp only []; rw [h2]
theorem find_some3 {r : Rp.Repo ByteArray TbT} {n : ByteArray} {v : Int} {e : Rp.Ent ByteArray TbT} {x : Rp.Ver TbT} (h : Rp.findE r.entries n = some e) (h2 : Rp.findV e.kept (if v = 0 then e.now else v) = some x) : Rp.find r n v = (some x.table, 0) := by unfold Rp.find; rw [h]; simp only []; rw [h2]
theorem Blk.at5 {w : World} {b : Nat} {T : TypeId} {v0 v1 v2 v3 v4 : Value} (h : Blk w b T #[v0, v1, v2, v3, v4]) : w.cell? ⟨b, 0, none⟩ = some v0 ∧ w.cell? ⟨b, 1, none⟩ = some v1 ∧ w.cell? ⟨b, 2, none⟩ = some v2 ∧ w.cell? ⟨b, 3, none⟩ = some v3 ∧ w.cell? ⟨b, 4, none⟩ = some v4 ∧ w.frozen? ⟨b, 0, none⟩ = false ∧ w.frozen? ⟨b, 1, none⟩ = false ∧ w.frozen? ⟨b, 2, none⟩ = false ∧ w.frozen? ⟨b, 3, none⟩ = false ∧ w.frozen? ⟨b, 4, none⟩ = false ∧ b < w.heap.size :=
  ⟨h.at 0 _ rfl, h.at 1 _ rfl, h.at 2 _ rfl, h.at 3 _ rfl, h.at 4 _ rfl, h.thaw _, h.thaw _, h.thaw _, h.thaw _, h.thaw _, h.low⟩
theorem OutP.set5 (w : World) (g : Nat) (a b c d e : Value) : OutP (fun k => k = g) w (((((w.setCell ⟨g, 0, none⟩ a).setCell ⟨g, 1, none⟩ b).setCell ⟨g, 2, none⟩ c).setCell ⟨g, 3, none⟩ d).setCell ⟨g, 4, none⟩ e) :=
  (((((OutP.refl (fun k => k = g) w).seti ⟨g, 0, none⟩ rfl a).seti ⟨g, 1, none⟩ rfl b).seti ⟨g, 2, none⟩ rfl c).seti ⟨g, 3, none⟩ rfl d).seti ⟨g, 4, none⟩ rfl e
/-- told at the end -/
theorem FiP.fin {B : Nat} {w wf : World} {r : Rp.Repo ByteArray TbT} {n : ByteArray} {v er : Int} {t : TbT} {a0 a1 a2 a3 a4 : Value} (hB : B ≤ w.heap.size) (hb : Below w.heap.size w wf) (hf : Rp.find r n v = (some t, er) ∨ (Rp.find r n v = (none, er) ∧ t = zeroT)) (ht : TbM B wf t #[a0, a1, a2, a3, a4]) :
    FiP B w r n v (.returned (.tuple #[.agg #[a0, a1, a2, a3, a4], .int .i64 er])) (((((wf.setCell ⟨w.heap.size + 1, 0, none⟩ a0).setCell ⟨w.heap.size + 1, 1, none⟩ a1).setCell ⟨w.heap.size + 1, 2, none⟩ a2).setCell ⟨w.heap.size + 1, 3, none⟩ a3).setCell ⟨w.heap.size + 1, 4, none⟩ a4) := by
  have hO := OutP.set5 wf (w.heap.size + 1) a0 a1 a2 a3 a4
  have hb2 := hO.below (L := w.heap.size) (fun b q => by omega) hb.size
  have e2 : (Rp.find r n v).2 = er := by rcases hf with q | ⟨q, _⟩ <;> rw [q]
  have e1 : findT r n v = t := by
    unfold findT
    rcases hf with q | ⟨q, rfl⟩ <;> rw [q] <;> rfl
  refine ⟨_, by rw [e2], ?_, hb.trans hb2⟩
  rw [e1]
  exact ht.below (hb2.mono hB)

set_option maxRecDepth 100000 in
set_option maxHeartbeats 8000000 in
theorem find_any {B : Nat} (r : Rp.Repo ByteArray TbT) (cs : Array Value) (n : ByteArray) (v : Int) (w : World) (hB : B ≤ w.heap.size) (hr : RpM B w r cs) (hrise : Rise r.entries) (hl : r.entries.length ≤ 6) :
    Calls Tryz.prog 13 #[.agg cs, .string n, .int .i64 v] w (FiP B w r n v) := by
  obtain ⟨w1, hw1⟩ : ∃ w1, w1 = (w.alloc (.cells cs 27)).alloc (.cells #[.string ⟨#[]⟩, .int .i64 0, .slice none 0 0, .slice none 0 0, .slice none 0 0] 34) := ⟨_, rfl⟩
  have b1 : Below w.heap.size w w1 := by rw [hw1]; exact below_via (vbelow_new _ _) (vbelow_new _ _)
  have hr1 := hr.below hB b1
  obtain ⟨ev0, sv0, rfl, hlsE, hlsS⟩ := hr
  obtain ⟨_, _, e1, hlsE1, _⟩ := hr1
  have ee := congrArg (fun a : Array Value => a[0]?) e1
  simp at ee
  rw [← ee] at hlsE1
  obtain ⟨ea, ec0, he0, _⟩ := id hlsE.1.tell
  obtain ⟨sa, sc0, hs0, _⟩ := id hlsS.1.tell
  have V1 : Blk w1 w.heap.size 27 #[ev0, sv0, .int .i64 r.applied] := by rw [hw1]; exact (Blk.new _ _ _).kept (vbelow_new _ _)
  have T1 : Blk w1 (w.heap.size + 1) 34 #[.string ⟨#[]⟩, .int .i64 0, .slice none 0 0, .slice none 0 0, .slice none 0 0] := by rw [hw1]; exact Blk.new1 _ _ _ _
  have hB1 : B ≤ w1.heap.size := Nat.le_trans hB b1.size
  have EA := hide (entryAt_any (B := B) r.entries ev0 n w1 hB1 hlsE1.1 (by omega) (hrise.mono n))
  have HLS := hide hlsE1.1
  subst he0 hs0
  have HV1 := hide V1
  have HT1 := hide T1
  have HB1 := hide b1
  have HR := hide hrise
  obtain ⟨c0, c1, c2, _, _, _, vl⟩ := V1.at3
  clear V1 T1 b1 hrise hlsE hlsS hlsE1 e1 ee
  go_enter Tryz.func13, Tryz.ntmps13
  go_upto_region 1 with fail
  rw [← hw1]
  clear hw1
  go_wp2_with fail
  refine (unhide EA).mono ?_
  rintro e w2 ⟨i, hat, rfl, hb2⟩
  have HAT := hide hat
  have V2 := (unhide HV1).kept hb2
  have T2 := (unhide HT1).kept hb2
  have hls2 := ((unhide HLS).below hb2 fun x cs => EnM.below hB1 hb2).mono hb2.size fun x cs q => q
  have HB2 := hide (below_via (unhide HB1) hb2)
  obtain ⟨F, hF⟩ : ∃ F, F = foundN r.entries n i := ⟨_, rfl⟩
  rw [← hF]
  have HF := hide hF
  have HT2 := hide T2
  obtain ⟨c0, c1, c2, _, _, _, vl⟩ := V2.at3
  clear hat hb2 EA HLS hF HV1 HT1
  cases F with
  | false =>
    have HN := hide (find_none1 (v := v) (find_lost (unhide HR) (unhide HAT) (unhide HF).symm))
    obtain ⟨t0, t1, t2, t3, t4, y0, y1, y2, y3, y4, tl⟩ := T2.at5
    clear hls2 V2 T2
    go_wp2_with fail
    refine bodyPost_ret (v := .tuple #[.agg #[.string ⟨#[]⟩, .int .i64 0, .slice none 0 0, .slice none 0 0, .slice none 0 0], .int .i64 6]) (by simp [results, Tryz.results13, go_sem, t0, t1, t2, t3, t4]) rfl ?_
    exact FiP.fin hB (unhide HB2) (.inr ⟨unhide HN, rfl⟩) (zeroT_mem _ _)
  | true =>
    obtain ⟨x, hx, hxn⟩ := found_yes (unhide HF).symm
    have HFE := hide ((find_found (unhide HAT) (unhide HF).symm).trans hx)
    have hil := (List.getElem?_eq_some_iff.1 hx).1
    obtain ⟨g, off, cap', ev⟩ := hls2.begins (by intro e; rw [e] at hil; simp at hil)
    cases ev
    obtain ⟨_, cs, _, ⟨kv, rfl, hkl, hkp⟩, hcell⟩ := hls2.at hx
    obtain ⟨ka, kc, ekv, _⟩ := id hkl.tell
    subst ekv
    have d0 := hcell 0 _ rfl
    have d1 := hcell 1 _ rfl
    have d2 := hcell 2 _ rfl
    have d3 := hcell 3 _ rfl
    rw [Nat.add_zero] at d0
    have hi0 : (0 : Int) ≤ (i : Int) := by omega
    have hi1 : (i : Int) < (r.entries.length : Int) := by omega
    obtain ⟨w3, hw3⟩ : ∃ w3, w3 = w2.alloc (.cells #[.string x.name, .int .i64 x.next, .int .i64 x.now, .slice ka x.kept.length kc] 54) := ⟨_, rfl⟩
    have b3 : Below w2.heap.size w2 w3 := by rw [hw3]; exact vbelow_new _ _
    have E3 : Blk w3 w2.heap.size 54 #[.string x.name, .int .i64 x.next, .int .i64 x.now, .slice ka x.kept.length kc] := by rw [hw3]; exact Blk.new _ _ _
    have hB2 : B ≤ w2.heap.size := Nat.le_trans hB (unhide HB2).size
    have hkl3 := (hkl.below b3 fun y cs => VeM.below (b3.mono hB2)).mono b3.size fun y cs q => q
    have HKL := hide hkl3
    have HT3 := hide (T2.kept b3)
    have HE3 := hide E3
    have HB3 := hide (below_via (unhide HB2) b3)
    obtain ⟨V, hV⟩ : ∃ V, V = if v = 0 then x.now else v := ⟨_, rfl⟩
    have VA := hide (versionAt_any (B := B) x.kept (.slice ka x.kept.length kc) V w3 (Nat.le_trans hB2 b3.size) hkl3)
    have FV := findV_ix x.kept V
    obtain ⟨X, hX⟩ : ∃ X, X = ixN (fun v : Rp.Ver TbT => v.number == V) x.kept 0 := ⟨_, rfl⟩
    rw [← hX] at VA FV
    have HVV := hide hV
    obtain ⟨e0, e1, e2, e3, _⟩ := E3.at4
    clear hX hV hx hxn hil hcell hkl hkp b3 E3 hkl3 V2 T2 hls2
    go_upto_region 5 with fail
    rw [← hw3]
    clear hw3 d0 d1 d2 d3 c0 c1 c2
    by_cases hv0 : v = 0
    · subst hv0
      obtain rfl : V = x.now := (unhide HVV).trans (if_pos rfl)
      go_wp2_with fail
      refine (unhide VA).mono ?_
      rintro e w4 ⟨rfl, hb4⟩
      have T4 := (unhide HT3).kept hb4
      have E4 := (unhide HE3).kept hb4
      have HB4 := hide (below_via (unhide HB3) hb4)
      have hB3 : B ≤ w3.heap.size := Nat.le_trans hB (unhide HB3).size
      have hkl4 := ((unhide HKL).below hb4 fun y cs => VeM.below (hb4.mono hB3)).mono hb4.size fun y cs q => q
      obtain ⟨t0, t1, t2, t3, t4, y0, y1, y2, y3, y4, tl⟩ := T4.at5
      obtain ⟨e0, e1, e2, e3, _⟩ := E4.at4
      clear hb4 T4 E4 VA HKL
      rcases FV with ⟨hX, hnone⟩ | ⟨k, y, hX, hy, hyn, hsome⟩
      · subst hX
        have HN := hide (find_none2 (v := 0) (unhide HFE) (by rw [if_pos rfl]; exact hnone))
        clear hnone hkl4
        go_wp2_with fail
        refine bodyPost_ret (v := .tuple #[.agg #[.string ⟨#[]⟩, .int .i64 0, .slice none 0 0, .slice none 0 0, .slice none 0 0], .int .i64 12]) (by simp [results, Tryz.results13, go_sem, t0, t1, t2, t3, t4]) rfl ?_
        exact FiP.fin hB (unhide HB4) (.inr ⟨unhide HN, rfl⟩) (zeroT_mem _ _)
      · subst hX
        have HSO := hide (find_some3 (v := 0) (unhide HFE) (by rw [if_pos rfl]; exact hsome))
        have hkl := (List.getElem?_eq_some_iff.1 hy).1
        obtain ⟨kb, koff, kcap', ekv⟩ := hkl4.begins (by intro e; rw [e] at hkl; simp at hkl)
        cases ekv
        obtain ⟨_, cs, _, ⟨u0, u1, u2, u3, u4, rfl, htm⟩, hcell⟩ := hkl4.at hy
        obtain ⟨ia, oa, ra, ic, oc, rc, e⟩ := htm.open
        simp at e
        obtain ⟨rfl, rfl, rfl, rfl, rfl⟩ := e
        have k1 := hcell 1 _ rfl
        have k2 := hcell 2 _ rfl
        have k3 := hcell 3 _ rfl
        have k4 := hcell 4 _ rfl
        have k5 := hcell 5 _ rfl
        have hk0 : ¬ (k : Int) < 0 := by omega
        have hk1 : (k : Int) < (x.kept.length : Int) := by omega
        have HTM := hide htm
        clear hsome hkl hkl4 hy hyn hcell htm
        go_wp2_with fail
        refine bodyPost_ret (v := .tuple #[.agg #[.string y.table.name, .int .i64 y.table.pol, .slice ia y.table.ins.length ic, .slice oa y.table.outs.length oc, .slice ra y.table.rules.length rc], .int .i64 0]) (by simp [results, Tryz.results13, go_sem, t0, t1, t2, t3, t4]) rfl ?_
        exact FiP.fin hB (unhide HB4) (.inl (unhide HSO)) (unhide HTM)
    · obtain rfl : V = v := (unhide HVV).trans (if_neg hv0)
      go_wp2_with fail
      refine (unhide VA).mono ?_
      rintro e w4 ⟨rfl, hb4⟩
      have T4 := (unhide HT3).kept hb4
      have E4 := (unhide HE3).kept hb4
      have HB4 := hide (below_via (unhide HB3) hb4)
      have hB3 : B ≤ w3.heap.size := Nat.le_trans hB (unhide HB3).size
      have hkl4 := ((unhide HKL).below hb4 fun y cs => VeM.below (hb4.mono hB3)).mono hb4.size fun y cs q => q
      obtain ⟨t0, t1, t2, t3, t4, y0, y1, y2, y3, y4, tl⟩ := T4.at5
      obtain ⟨e0, e1, e2, e3, _⟩ := E4.at4
      clear hb4 T4 E4 VA HKL
      rcases FV with ⟨hX, hnone⟩ | ⟨k, y, hX, hy, hyn, hsome⟩
      · subst hX
        have HN := hide (find_none2 (v := V) (unhide HFE) (by rw [if_neg hv0]; exact hnone))
        clear hnone hkl4
        go_wp2_with fail
        refine bodyPost_ret (v := .tuple #[.agg #[.string ⟨#[]⟩, .int .i64 0, .slice none 0 0, .slice none 0 0, .slice none 0 0], .int .i64 12]) (by simp [results, Tryz.results13, go_sem, t0, t1, t2, t3, t4]) rfl ?_
        exact FiP.fin hB (unhide HB4) (.inr ⟨unhide HN, rfl⟩) (zeroT_mem _ _)
      · subst hX
        have HSO := hide (find_some3 (v := V) (unhide HFE) (by rw [if_neg hv0]; exact hsome))
        have hkl := (List.getElem?_eq_some_iff.1 hy).1
        obtain ⟨kb, koff, kcap', ekv⟩ := hkl4.begins (by intro e; rw [e] at hkl; simp at hkl)
        cases ekv
        obtain ⟨_, cs, _, ⟨u0, u1, u2, u3, u4, rfl, htm⟩, hcell⟩ := hkl4.at hy
        obtain ⟨ia, oa, ra, ic, oc, rc, e⟩ := htm.open
        simp at e
        obtain ⟨rfl, rfl, rfl, rfl, rfl⟩ := e
        have k1 := hcell 1 _ rfl
        have k2 := hcell 2 _ rfl
        have k3 := hcell 3 _ rfl
        have k4 := hcell 4 _ rfl
        have k5 := hcell 5 _ rfl
        have hk0 : ¬ (k : Int) < 0 := by omega
        have hk1 : (k : Int) < (x.kept.length : Int) := by omega
        have HTM := hide htm
        clear hsome hkl hkl4 hy hyn hcell htm
        go_wp2_with fail
        refine bodyPost_ret (v := .tuple #[.agg #[.string y.table.name, .int .i64 y.table.pol, .slice ia y.table.ins.length ic, .slice oa y.table.outs.length oc, .slice ra y.table.rules.length rc], .int .i64 0]) (by simp [results, Tryz.results13, go_sem, t0, t1, t2, t3, t4]) rfl ?_
        exact FiP.fin hB (unhide HB4) (.inl (unhide HSO)) (unhide HTM)
end Go.Proofs.YtnegjbkbfgkkjaaGreatDoor
