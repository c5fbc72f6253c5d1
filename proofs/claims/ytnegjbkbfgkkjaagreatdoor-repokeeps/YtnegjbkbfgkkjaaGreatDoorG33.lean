/- Walks: what the expressions may name. -/
import Derived.Test.YtnegjbkbfgkkjaaGreatDoorG32
import Derived.Laws.Rows
import Derived.ArgAppend
import Derived.Test.YtnegjbkbfgkkjaaGreatDoorG01
namespace Go.Proofs.YtnegjbkbfgkkjaaGreatDoor
open Go.RowKit Go.MapKept

theorem fnz_zero : ∀ {l : List Int}, fnz l = 0 → ∀ a ∈ l, a = 0
  | [], _, a, ha => by cases ha
  | x :: l, h, a, ha => by
    by_cases hx : x = 0
    · subst hx
      rw [fnz_no] at h
      rcases List.mem_cons.1 ha with e | e
      · exact e
      · exact fnz_zero h a e
    · rw [fnz_yes hx] at h
      exact absurd h hx
/-- columns with which nothing is wrong -/
theorem colsW_ok {l : List CoT} {many most : Nat} (h : colsW l many most = 0) : (1 ≤ l.length ∧ l.length ≤ many) ∧ ∀ c ∈ l, nameB c.name = true ∧ (c.kind = 2 ∨ c.kind = 3 ∨ c.kind = 4) := by
  unfold colsW at h
  by_cases g : l.length < 1 ∨ many < l.length
  · rw [if_pos g] at h; cases h
  rw [if_neg g] at h
  refine ⟨by omega, fun c hc => ?_⟩
  obtain ⟨i, hi⟩ := List.getElem?_of_mem hc
  have hl := (List.getElem?_eq_some_iff.1 hi).1
  have := fnz_zero h (colAt l most i) (List.mem_map.2 ⟨i, List.mem_range.2 hl, rfl⟩)
  unfold colAt at this
  rw [hi] at this
  simp only at this
  by_cases h1 : nameB c.name = false
  · rw [if_pos h1] at this; cases this
  rw [if_neg h1] at this
  by_cases h2 : hasN (l.take i) c.name = true
  · rw [if_pos h2] at this; cases this
  rw [if_neg h2] at this
  unfold colW at this
  by_cases h3 : c.kind ≠ 2 ∧ c.kind ≠ 3 ∧ c.kind ≠ 4
  · rw [if_pos h3] at this; cases this
  exact ⟨by simpa using h1, by omega⟩
theorem nameB_small {s : ByteArray} (h : nameB s = true) : s.size ≤ 40 := by
  unfold nameB at h
  simp only [Bool.and_eq_true, decide_eq_true_eq] at h
  omega
theorem headW_ok {t : TbT} (h : headW t = 0) : colsW t.ins 3 0 = 0 ∧ colsW t.outs 3 (mostO t.pol) = 0 ∧ nameB t.name = true := by
  have e : headW t = if nameB t.name = false then 7 else if t.pol < 1 ∨ 10 < t.pol then 1 else if colsW t.ins 3 0 ≠ 0 then colsW t.ins 3 0 else if colsW t.outs 3 (mostO t.pol) ≠ 0 then colsW t.outs 3 (mostO t.pol) else if reckB t.pol t.outs = false then 8 else 0 := rfl
  rw [e] at h
  by_cases h1 : nameB t.name = false
  · rw [if_pos h1] at h; cases h
  rw [if_neg h1] at h
  by_cases h2 : t.pol < 1 ∨ 10 < t.pol
  · rw [if_pos h2] at h; cases h
  rw [if_neg h2] at h
  by_cases h3 : colsW t.ins 3 0 = 0
  · rw [if_neg (by simpa using h3)] at h
    by_cases h4 : colsW t.outs 3 (mostO t.pol) = 0
    · exact ⟨h3, h4, by simpa using h1⟩
    · rw [if_pos h4] at h; exact absurd h h4
  · rw [if_pos h3] at h; exact absurd h h3

def varC (c : CoT) : List Value := [.string c.name, .int .i64 c.kind, .slice none 0 0]
theorem varC_len (c : CoT) : (varC c).length = 3 := rfl
theorem info_var : (Tryz.prog.info? 117).map (fun i => (i.zero, i.size, i.bytes)) = some (some (.agg #[.string ⟨#[]⟩, .int .i64 0, .slice none 0 0]), 3, 48) := by kernel_rfl
theorem make_var (n : Nat) (hn : n ≤ 1000) (w : World) (base : Nat) (hb : base ≤ w.heap.size) : ∃ w', (Instr.makeSlice 87 (.int .i64 0) (.int .i64 (n : Int))).run Tryz.prog w = .ok (.slice (some ⟨w.heap.size, 0, none⟩) 0 n) w' ∧ w'.ownsRow base 117 3 (.slice (some ⟨w.heap.size, 0, none⟩) 0 n) 0 [] ∧ Below w.heap.size w w' := by
  obtain ⟨i0, hi, hz0, hz1, hz2⟩ := info_parts info_var
  obtain ⟨w', h1, h2, h3⟩ := run_make_own (P := Tryz.prog) w base 87 117 i0 _ 3 Tryz.underlying87 hi hz0 hz1 .i64 .i64 n (by rw [hz2]; omega) (by unfold maxLen; omega) hb
  exact ⟨w', h1, h2, (Below.refl _ w).grown h3 (Nat.le_refl _) (fun k hk => by cases hk)⟩

set_option maxRecDepth 100000 in
set_option maxHeartbeats 8000000 in
theorem namesOf_any {B : Nat} (l : List CoT) (v : Value) (w : World) (hB : B ≤ w.heap.size) (h3 : l.length ≤ 3) (hs : ∀ c ∈ l, c.name.size ≤ 40) (hl : Ls B w 3 (CM B w) l v) :
    Calls Tryz.prog 28 #[v] w fun e w' => ∃ u, e = .returned u ∧ VS w'.heap.size w' u (namesW l) ∧ Below w.heap.size w w' := by
  obtain ⟨la, lcap, rfl, hlc, _⟩ := id hl.tell
  obtain ⟨wm, hmk, hown, hbm⟩ := make_var l.length (by omega) w w.heap.size (Nat.le_refl _)
  have HL := hide hl
  have HS0 : Hid (wm.ownsRow w.heap.size 117 3 (.slice (some ⟨w.heap.size, 0, none⟩) 0 l.length) (l.take 0).length ((l.take 0).flatMap varC)) := hide (by simpa using hown)
  have HB0 := hide hbm
  have HBB := hide hB
  have HSZ := hide hs
  clear hl hown hbm hB hs
  go_enter Tryz.func28, Tryz.ntmps28
  go_wp2
  go_loopw [3, 11] (fun sv i wr => ∃ m : Nat, m ≤ l.length ∧ i = .int .i64 (m : Int) ∧ Hid (wr.ownsRow w.heap.size 117 3 sv (l.take m).length ((l.take m).flatMap varC)) ∧ Hid (Below w.heap.size w wr)) (fun _ i _ => l.length - (intOf i).toNat)
  case atStart => exact ⟨0, Nat.zero_le _, rfl, HS0, HB0⟩
  case round =>
    obtain ⟨m, hml, rfl, HS1, HB1⟩ := hrel
    clear HS0 HB0 hmk
    by_cases hlt : m < l.length
    · have hi1 : (m : Int) < (l.length : Int) := by omega
      obtain ⟨u, hu⟩ : ∃ u, l[m]? = some u := ⟨_, List.getElem?_eq_getElem hlt⟩
      obtain ⟨b, off, cap', ev⟩ := (unhide HL).begins (by intro e; subst e; simp at hlt)
      cases ev
      have hbr := (unhide HB1).mono (unhide HBB)
      obtain ⟨o, c0, c1, c2, hord, _⟩ := CM.cells ((unhide HL).below hbr fun x cs => CM.below hbr) hu
      obtain ⟨oa, ocap, hoe, _⟩ := id hord.tell
      obtain ⟨on, hon⟩ : ∃ on, on = u.ord.length := ⟨_, rfl⟩
      rw [← hon] at hoe
      subst hoe
      have ET : Hid ((l.take (m + 1)).flatMap varC = (l.take m).flatMap varC ++ varC u ∧ (l.take (m + 1)).length = m + 1 ∧ (l.take m).length = m) := hide ⟨by rw [List.take_add_one, hu]; simp, by rw [List.length_take]; omega, by rw [List.length_take]; omega⟩
      obtain ⟨us, uk, uo⟩ := u
      simp only at c0 c1 c2
      obtain ⟨w1, hw1⟩ : ∃ w1, w1 = wr.alloc (.cells #[.string us, .int .i64 uk, .slice oa on ocap] 91) := ⟨_, rfl⟩
      have B1 : Below wr.heap.size wr w1 := by rw [hw1]; exact vbelow_new _ _
      have V1 : V3 w1 wr.heap.size (.string us) (.int .i64 uk) (.slice oa on ocap) := by rw [hw1]; exact V3.new _ _ _ _ _
      have TY := hide (fun wx => typeOf_any us uk (.slice oa on ocap) wx)
      have HS2 := hide (own_keepT (unhide HS1) B1)
      have HB2 := hide (below_via (unhide HB1) B1)
      have HV1 := hide V1
      have hz1 : w.heap.size ≤ w1.heap.size := (unhide HB2).size
      obtain ⟨y0, y1, y2⟩ := V1.tell
      obtain ⟨i0, hi, hz0, hz2, hzb⟩ := info_parts info_var
      have HI := hide (And.intro hi (And.intro hz0 (And.intro hz2 hzb)))
      obtain ⟨mm, hmm⟩ : ∃ mm, mm = (l.take m).length := ⟨_, rfl⟩
      rw [← hmm] at HS2
      have hmm' : mm = m := hmm.trans (unhide ET).2.2
      clear hu hbr hord hon V1 B1 HS1 HB1 hi hz0 hz2 hzb hmm
      go_upto_region 5 with fail
      rw [← hw1]
      clear hw1 c0 c1 c2
      go_region_law (first
        | (go_simp
           refine (unhide TY _).mono ?_
           rintro e w2 ⟨rfl, hb2⟩
           replace hb2 : Below w1.heap.size w1 w2 := below_via (by repeat (first | assumption | exact Below.refl _ _ | apply Below.drew)) hb2
           obtain ⟨z0, z1, z2⟩ := ((unhide HV1).keep hb2 (unhide HV1).low).tell)
        | (refine step_own_app rfl _ _ 87 rfl w.heap.size 117 i0 (.agg #[.string ⟨#[]⟩, .int .i64 0, .slice none 0 0]) 3 48 Tryz.underlying87 (unhide HI).1 (unhide HI).2.1 (unhide HI).2.2.1 (unhide HI).2.2.2 rfl (by decide) _ mm ((l.take m).flatMap varC) rfl ((own_keepT (unhide HS2) hb2).alloc _) ⟨w2.heap.size, 0, none⟩ 1 1 [.string us, .int .i64 uk, .slice none 0 0] rfl rfl (cells_new _ _ _) (by intro x hx; simp at hx; rcases hx with rfl | rfl | rfl <;> rfl) ?p1 ?p2 ?p3 ?_
           case p1 => unfold maxLen; omega
           case p2 => omega
           case p3 => have := hb2.size; simp; omega
           intro v3 w3 hown hgrow hat))
      all_goals
        have HS3 : Hid (w3.ownsRow w.heap.size 117 3 v3 (l.take (m + 1)).length ((l.take (m + 1)).flatMap varC)) := hide (by
          rw [(unhide ET).1, (unhide ET).2.1]
          rw [hmm'] at hown
          exact hown)
        have hz2 : w.heap.size ≤ w2.heap.size := Nat.le_trans hz1 hb2.size
        have HB3 : Hid (Below w.heap.size w w3) := hide ((below_via (unhide HB2) hb2).trans (((Below.refl w.heap.size w2).alloc hz2 _).grown hgrow (by simp; omega) (fun k hk => own_lowT (unhide HS2) k hk)))
        clear hown hgrow hat hb2 z0 z1 z2
        go_wp2
        go_roundw
        case rel => exact ⟨m + 1, hlt, rfl, HS3, HB3⟩
        case measure => simp [intOf]; omega
    · obtain rfl : m = l.length := by omega
      have hi1 : ¬ (l.length : Int) < (l.length : Int) := by omega
      rw [List.take_length] at HS1
      have HV : Hid (VS wr.heap.size wr u3 (namesW l)) := hide (by
        obtain ⟨a, cap, e, _, hk⟩ := own_read varC_len (unhide HS1)
        have hnl : (namesW l).length = l.length := by simp [namesW]
        refine ⟨by omega, a, cap, by rw [hnl]; exact e, fun hne => ?_⟩
        obtain ⟨g, ea, _, hg, hc⟩ := hk (by intro e; subst e; exact hne rfl)
        refine ⟨g, 0, ea, hg, fun i x hx => ?_⟩
        rw [namesW, List.getElem?_map] at hx
        obtain ⟨c, hc1, rfl⟩ := Option.map_eq_some_iff.1 hx
        refine ⟨c.kind, none, 0, 0, ?_, ?_, ?_, MemTP.mkLeaf _ _ _ _ _, ?_⟩
        · have := hc i c hc1 0 _ rfl
          simpa using this
        · have := hc i c hc1 1 _ rfl
          simpa using this
        · have := hc i c hc1 2 _ rfl
          simpa using this
        · have := unhide HSZ c (List.mem_of_getElem? hc1)
          show c.name.size ≤ _
          omega)
      clear HS1 HL HSZ
      go_wp2
      go_ret
      exact ⟨_, rfl, unhide HV, unhide HB1⟩
end Go.Proofs.YtnegjbkbfgkkjaaGreatDoor

/- Walks: what is wrong with a rule. -/
namespace Go.Proofs.YtnegjbkbfgkkjaaGreatDoor
open Go.RowKit Go.MapKept

theorem mem_sixT {B : Nat} {w : World} {T : Tree} {a0 a1 a2 a3 a4 a5 : Value} (h : Mem B w T #[a0, a1, a2, a3, a4, a5]) : ∃ (vk : Int) (vy : Bool) (vc vx : Int) (vt : ByteArray) (va : Option Addr) (vn vp : Nat), a0 = .int .i64 vk ∧ a1 = .bool vy ∧ a2 = .int .i64 vc ∧ a3 = .int .i64 vx ∧ a4 = .string vt ∧ a5 = .slice va vn vp := by
  obtain ⟨k, y, c, x, t, ks⟩ := T
  rw [Mem] at h
  obtain ⟨_, _, a, cap, e, _⟩ := h
  simp at e
  exact ⟨k, y, c, x, t, a, _, cap, e⟩
/-- a test in a row of tests -/
theorem Ls.test {B : Nat} {w : World} {l : List TS} {b off n cap : Nat} (h : Ls B w 16 (MemS B w) l (.slice (some ⟨b, off, none⟩) n cap)) {i : Nat} {T : TS} (hi : l[i]? = some T) :
    ∃ (tk ak : Int) (ay : Bool) (ac ax : Int) (at' : ByteArray) (aa : Option Addr) (an ap : Nat) (bk : Int) (by' : Bool) (bc bx : Int) (bt : ByteArray) (ba : Option Addr) (bn bp : Nat) (oa ob : Bool) (ka : Option Addr) (kn kp : Nat),
      MemS B w T #[.int .i64 tk, .int .i64 ak, .bool ay, .int .i64 ac, .int .i64 ax, .string at', .slice aa an ap, .int .i64 bk, .bool by', .int .i64 bc, .int .i64 bx, .string bt, .slice ba bn bp, .bool oa, .bool ob, .slice ka kn kp] ∧
      (∀ j u, (#[.int .i64 tk, .int .i64 ak, .bool ay, .int .i64 ac, .int .i64 ax, .string at', .slice aa an ap, .int .i64 bk, .bool by', .int .i64 bc, .int .i64 bx, .string bt, .slice ba bn bp, .bool oa, .bool ob, .slice ka kn kp] : Array Value)[j]? = some u → w.cell? ⟨b, off + i * 16 + j, none⟩ = some u) := by
  obtain ⟨a, cap', e, _, hk⟩ := h.tell
  obtain ⟨b', off', ea, hl, hm⟩ := hk (by intro e; subst e; simp at hi)
  cases e
  cases ea
  obtain ⟨cs, hs, hM, hc⟩ := hm i T hi
  have hM' := hM
  obtain ⟨tk, a, b, oa, ob, ks⟩ := T
  rw [MemS] at hM'
  obtain ⟨_, a0, a1, a2, a3, a4, a5, b0, b1, b2, b3, b4, b5, ad, cap, hMa, hMb, rfl, _⟩ := hM'
  obtain ⟨ak, ay, ac, ax, at', aa, an, ap, rfl, rfl, rfl, rfl, rfl, rfl⟩ := mem_sixT hMa
  obtain ⟨bk, by', bc, bx, bt, ba, bn, bp, rfl, rfl, rfl, rfl, rfl, rfl⟩ := mem_sixT hMb
  exact ⟨_, _, _, _, _, _, _, _, _, _, _, _, _, _, _, _, _, _, _, _, _, _, hM, hc⟩
/-- an expression in a row of expressions -/
theorem Ls.expr {B : Nat} {w : World} {l : List XT} {b off n cap : Nat} (h : Ls B w 9 (XMem B w) l (.slice (some ⟨b, off, none⟩) n cap)) {i : Nat} {X : XT} (hi : l[i]? = some X) :
    ∃ (k vk : Int) (vy : Bool) (vc vx : Int) (vt : ByteArray) (va : Option Addr) (vn vp : Nat) (s : ByteArray) (xa : Option Addr) (xn xp : Nat),
      XMem B w X #[.int .i64 k, .int .i64 vk, .bool vy, .int .i64 vc, .int .i64 vx, .string vt, .slice va vn vp, .string s, .slice xa xn xp] ∧
      (∀ j u, (#[.int .i64 k, .int .i64 vk, .bool vy, .int .i64 vc, .int .i64 vx, .string vt, .slice va vn vp, .string s, .slice xa xn xp] : Array Value)[j]? = some u → w.cell? ⟨b, off + i * 9 + j, none⟩ = some u) := by
  obtain ⟨a, cap', e, _, hk⟩ := h.tell
  obtain ⟨b', off', ea, hl, hm⟩ := hk (by intro e; subst e; simp at hi)
  cases e
  cases ea
  obtain ⟨cs, hs, hM, hc⟩ := hm i X hi
  obtain ⟨k, vk, vy, vc, vx, vt, va, vn, vp, s, xa, xn, xp, rfl⟩ := hM.form
  exact ⟨k, vk, vy, vc, vx, vt, va, vn, vp, s, xa, xn, xp, hM, hc⟩

theorem fnz_step {l o : List Int} {m : Nat} {a : Int} (h : l[m]? = some a) : fnz (l.drop m ++ o) = if a ≠ 0 then a else fnz (l.drop (m + 1) ++ o) := by
  obtain ⟨hi, e⟩ := List.getElem?_eq_some_iff.1 h
  rw [List.drop_eq_getElem_cons hi, List.cons_append, fnz, e]
def testsW (t : TbT) (r : RuT) : List Int := List.zipWith (fun x c => testW x c.kind) r.tests t.ins
def outsW (t : TbT) (r : RuT) : List Int := List.zipWith (fun x c => outW x (namesW t.ins) c.kind) r.outs t.outs
end Go.Proofs.YtnegjbkbfgkkjaaGreatDoor

/- Walks: what is wrong with a rule. -/
namespace Go.Proofs.YtnegjbkbfgkkjaaGreatDoor
open Go.RowKit Go.MapKept

theorem Bx2.cell0 {w : World} {b : Nat} {u v : Value} (h : Bx2 w b u v) : w.cell? ⟨b, 0, none⟩ = some u ∧ w.cell? ⟨b, 1, none⟩ = some v := ⟨h.at0, h.at1⟩
set_option maxRecDepth 100000 in
set_option maxHeartbeats 16000000 in
theorem wrongRule_any {B : Nat} (t : TbT) (tc : Array Value) (r : RuT) (rc : Array Value) (na : Option Addr) (nn ncap : Nat) (w : World) (hB : B ≤ w.heap.size) (hG : GdT B w) (ht : TbM B w t tc) (hr : RM B w r rc) (hh : headW t = 0) (hn : VS w.heap.size w (.slice na nn ncap) (namesW t.ins)) :
    Calls Tryz.prog 29 #[.agg tc, .agg rc, .slice na nn ncap] w fun e w' => e = .returned (.int .i64 (ruleW t r)) ∧ Below w.heap.size w w' := by
  obtain ⟨hci, hco, _⟩ := headW_ok hh
  obtain ⟨_, hki⟩ := colsW_ok hci
  obtain ⟨_, hko⟩ := colsW_ok hco
  have HKO := hide hko
  clear hh hci hco hki hko
  obtain ⟨iv, ov, rv, rfl, hi, ho, hrr⟩ := ht
  obtain ⟨tv, xv, rfl, htv, hxv⟩ := hr
  obtain ⟨ia, icap, hie, hic, _⟩ := id hi.tell
  obtain ⟨oa, ocap, hoe, hoc, _⟩ := id ho.tell
  obtain ⟨ra, rcap, hre, _⟩ := id hrr.tell
  obtain ⟨ta, tcap, hte, _⟩ := id htv.tell
  obtain ⟨xa, xcap, hxe, _⟩ := id hxv.tell
  have hil := hi.len
  have hol := ho.len
  have htl := htv.len
  have hxl := hxv.len
  subst hie hoe hre hte hxe
  obtain ⟨w0, hw0⟩ : ∃ w0, w0 = (w.alloc (.cells #[.string t.name, .int .i64 t.pol, .slice ia t.ins.length icap, .slice oa t.outs.length ocap, .slice ra t.rules.length rcap] 34)).alloc (.cells #[.slice ta r.tests.length tcap, .slice xa r.outs.length xcap] 75) := ⟨_, rfl⟩
  have B0 : Below w.heap.size w w0 := by rw [hw0]; exact below_via (vbelow_new _ _) (vbelow_new _ _)
  have V0 : V5 w0 w.heap.size (.string t.name) (.int .i64 t.pol) (.slice ia t.ins.length icap) (.slice oa t.outs.length ocap) (.slice ra t.rules.length rcap) := by
    rw [hw0]; exact (V5.new w 34 _ _ _ _ _).keep (vbelow_new _ _) (by simp)
  have R0 : Bx2 w0 (w.heap.size + 1) (.slice ta r.tests.length tcap) (.slice xa r.outs.length xcap) := by
    rw [hw0]
    have := Bx2.new (w.alloc (.cells #[.string t.name, .int .i64 t.pol, .slice ia t.ins.length icap, .slice oa t.outs.length ocap, .slice ra t.rules.length rcap] 34)) 75 (.slice ta r.tests.length tcap) (.slice xa r.outs.length xcap)
    simpa using this
  obtain ⟨R, hR⟩ : ∃ R, R = ruleW t r := ⟨_, rfl⟩
  rw [← hR]
  have HR : Hid (R = if r.tests.length ≠ t.ins.length then 5 else if r.outs.length ≠ t.outs.length then 5 else fnz (testsW t r ++ outsW t r)) := hide hR
  have TZ : Hid (∀ (m : Nat) (x : TS) (c : CoT), r.tests[m]? = some x → t.ins[m]? = some c → (testsW t r)[m]? = some (testW x c.kind)) := hide (fun m x c h1 h2 => by simp [testsW, List.getElem?_zipWith, h1, h2])
  have OZ : Hid (∀ (m : Nat) (x : XT) (c : CoT), r.outs[m]? = some x → t.outs[m]? = some c → (outsW t r)[m]? = some (outW x (namesW t.ins) c.kind)) := hide (fun m x c h1 h2 => by simp [outsW, List.getElem?_zipWith, h1, h2])
  have TL : Hid (r.tests.length = t.ins.length → (testsW t r).length = r.tests.length) := hide (fun h => by simp [testsW, h])
  have OL : Hid (r.outs.length = t.outs.length → (outsW t r).length = r.outs.length) := hide (fun h => by simp [outsW, h])
  generalize testsW t r = TS1 at *
  generalize outsW t r = OS1 at *
  have HB0 := hide B0
  have HV0 := hide V0
  have HR0 := hide R0
  have HBB := hide hB
  have HG := hide hG
  have HI := hide hi
  have HO := hide ho
  have HT := hide htv
  have HX := hide hxv
  have HN := hide hn
  obtain ⟨v0, v1, v2, v3, v4⟩ := V0.tell
  obtain ⟨r0, r1⟩ := R0.cell0
  clear hR B0 V0 R0 hB hG hi ho hrr htv hxv hn
  go_enter Tryz.func29, Tryz.ntmps29
  go_upto_region 1 with fail
  rw [← hw0]
  clear hw0
  by_cases h1 : r.tests.length = t.ins.length
  case neg =>
    have g1 : ((r.tests.length : Int) != (t.ins.length : Int)) = true := by simp; omega
    have HE := hide ((unhide HR).trans (if_pos h1))
    clear h1
    go_wp2
    go_ret
    rw [unhide HE]
    exact ⟨rfl, unhide HB0⟩
  have g1 : ((r.tests.length : Int) != (t.ins.length : Int)) = false := by simp; omega
  have HE1 := hide ((unhide HR).trans (if_neg (by simpa using h1)))
  by_cases h2 : r.outs.length = t.outs.length
  case neg =>
    have g2 : ((r.outs.length : Int) != (t.outs.length : Int)) = true := by simp; omega
    have HE := hide ((unhide HE1).trans (if_pos h2))
    clear h1 h2
    go_wp2
    go_ret
    rw [unhide HE]
    exact ⟨rfl, unhide HB0⟩
  have g2 : ((r.outs.length : Int) != (t.outs.length : Int)) = false := by simp; omega
  have HE : Hid (R = fnz (TS1.drop 0 ++ OS1)) := hide ((unhide HE1).trans (if_neg (by simpa using h2)))
  have TL1 := hide (unhide TL h1)
  have OL1 := hide (unhide OL h2)
  have H1 := hide h1
  have H2 := hide h2
  clear HR HE1 TL OL h1 h2
  go_wp2
  go_loopw [32] (fun i wr => ∃ m : Nat, m ≤ r.tests.length ∧ i = .int .i64 (m : Int) ∧ Hid (R = fnz (TS1.drop m ++ OS1)) ∧ Hid (Below w0.heap.size w0 wr)) (fun i _ => r.tests.length - (intOf i).toNat)
  case atStart => exact ⟨0, Nat.zero_le _, rfl, HE, hide (Below.refl _ _)⟩
  case round =>
    obtain ⟨m, hml, rfl, H, HB⟩ := hrel
    clear HE
    by_cases hlt : m < r.tests.length
    · have hi1 : (m : Int) < (r.tests.length : Int) := by omega
      have hlt2 : m < t.ins.length := by have := unhide H1; omega
      have hi2 : (m : Int) < (t.ins.length : Int) := by omega
      obtain ⟨x, hx⟩ : ∃ x, r.tests[m]? = some x := ⟨_, List.getElem?_eq_getElem hlt⟩
      obtain ⟨c, hc⟩ : ∃ c, t.ins[m]? = some c := ⟨_, List.getElem?_eq_getElem hlt2⟩
      obtain ⟨tb, toff, tcap', etv⟩ := (unhide HT).begins (by intro e; rw [e] at hlt; simp at hlt)
      obtain ⟨ib, ioff, icap', eiv⟩ := (unhide HI).begins (by intro e; rw [e] at hlt2; simp at hlt2)
      cases etv
      cases eiv
      have hbr : Below B w wr := ((unhide HB0).mono (unhide HBB)).trans ((unhide HB).mono (Nat.le_trans (unhide HBB) (unhide HB0).size))
      have hzr : B ≤ wr.heap.size := Nat.le_trans (unhide HBB) (Nat.le_trans (unhide HB0).size (unhide HB).size)
      obtain ⟨tk, ak, ay, ac, ax, at', aa, an, ap, bk, by', bc, bx, bt, ba, bn, bp, oa', ob', ka, kn, kp, hM, hq⟩ := ((unhide HT).below hbr fun x cs => MemS.below hbr).test hx
      obtain ⟨co, c0, c1, c2, hord, hib⟩ := CM.cells ((unhide HI).below hbr fun x cs => CM.below hbr) hc
      have E := (unhide H).trans (fnz_step (o := OS1) (unhide TZ m x c hx hc))
      obtain ⟨cn, ck, cord⟩ := c
      simp only at c0 c1 c2 E
      obtain ⟨coa, cocap, hoe, _⟩ := id hord.tell
      obtain ⟨on, hon⟩ : ∃ on, on = cord.length := ⟨_, rfl⟩
      simp only at hoe
      rw [← hon] at hoe
      subst hoe
      clear hord hon
      obtain ⟨w1, hw1⟩ : ∃ w1, w1 = wr.alloc (.cells #[.int .i64 tk, .int .i64 ak, .bool ay, .int .i64 ac, .int .i64 ax, .string at', .slice aa an ap, .int .i64 bk, .bool by', .int .i64 bc, .int .i64 bx, .string bt, .slice ba bn bp, .bool oa', .bool ob', .slice ka kn kp] 83) := ⟨_, rfl⟩
      have B1 : Below wr.heap.size wr w1 := by rw [hw1]; exact vbelow_new _ _
      have X1 : B16 w1 wr.heap.size #[.int .i64 tk, .int .i64 ak, .bool ay, .int .i64 ac, .int .i64 ax, .string at', .slice aa an ap, .int .i64 bk, .bool by', .int .i64 bc, .int .i64 bx, .string bt, .slice ba bn bp, .bool oa', .bool ob', .slice ka kn kp] := by rw [hw1]; exact B16.new
      have hb1 := B1.mono hzr
      have hz1 : B ≤ w1.heap.size := Nat.le_trans hzr B1.size
      have hM1 := MemS.below hb1 hM
      have hT1 := (((unhide HG).keep hbr).keep hb1).tb
      have WT : Hid (∀ wx, Below w1.heap.size w1 wx → Calls Tryz.prog 51 #[.agg #[.int .i64 tk, .int .i64 ak, .bool ay, .int .i64 ac, .int .i64 ax, .string at', .slice aa an ap, .int .i64 bk, .bool by', .int .i64 bc, .int .i64 bx, .string bt, .slice ba bn bp, .bool oa', .bool ob', .slice ka kn kp], .agg #[.int .i64 ck, .slice none 0 0]] wx fun e w' => e = .returned (.int .i64 (testW x ck)) ∧ Below wx.heap.size wx w') := hide (fun wx hb => by
        have hb' := hb.mono hz1
        exact wrongTest_any x _ ck wx (Nat.le_trans hz1 hb.size) (hT1.below hb') (MemS.below hb' hM1))
      generalize testW x ck = TW at WT E
      have TY := hide (fun wx => typeOf_any cn ck (.slice coa on cocap) wx)
      have V1 := ((unhide HV0).keep (unhide HB) (unhide HV0).low).keep B1 (Nat.lt_of_lt_of_le (unhide HV0).low (unhide HB).size)
      have d0 := (B1.cell (p := ⟨ib, ioff + m * 3, none⟩) (Nat.lt_of_lt_of_le hib hzr)).trans c0
      have d1 := (B1.cell (p := ⟨ib, ioff + m * 3 + 1, none⟩) (Nat.lt_of_lt_of_le hib hzr)).trans c1
      have d2 := (B1.cell (p := ⟨ib, ioff + m * 3 + 2, none⟩) (Nat.lt_of_lt_of_le hib hzr)).trans c2
      have HB1 := hide (below_via (unhide HB) B1)
      have HX1 := hide X1
      have HEE := hide E
      obtain ⟨p0, p1, p2, p3, p4⟩ := V1.tell
      obtain ⟨x0, x1, x2, x3, x4, x5, x6, x7, x8, x9, x10, x11, x12, x13, x14, x15⟩ := X1.tell
      have q0 := hq 0 _ rfl
      have q1 := hq 1 _ rfl
      have q2 := hq 2 _ rfl
      have q3 := hq 3 _ rfl
      have q4 := hq 4 _ rfl
      have q5 := hq 5 _ rfl
      have q6 := hq 6 _ rfl
      have q7 := hq 7 _ rfl
      have q8 := hq 8 _ rfl
      have q9 := hq 9 _ rfl
      have q10 := hq 10 _ rfl
      have q11 := hq 11 _ rfl
      have q12 := hq 12 _ rfl
      have q13 := hq 13 _ rfl
      have q14 := hq 14 _ rfl
      have q15 := hq 15 _ rfl
      rw [Nat.add_zero] at q0
      clear hq hx hc hbr hM E H B1 X1 hb1 hM1 hT1 V1 c0 c1 c2 hzr hz1 hlt2
      go_upto_region 6 with fail
      rw [← hw1]
      clear hw1 q0 q1 q2 q3 q4 q5 q6 q7 q8 q9 q10 q11 q12 q13 q14 q15
      go_region_with (first
        | (go_at_call 50
           refine (unhide TY _).mono ?_
           rintro e w2 ⟨rfl, hb2⟩
           replace hb2 : Below w1.heap.size w1 w2 := below_via (by repeat (first | assumption | exact Below.refl _ _ | apply Below.drew)) hb2
           obtain ⟨z0, z1, z2, z3, z4, z5, z6, z7, z8, z9, z10, z11, z12, z13, z14, z15⟩ := ((unhide HX1).keep hb2 (unhide HX1).low).tell)
        | (go_at_call 51
           (refine (unhide WT _ ?_).mono ?_; · exact (by repeat (first | assumption | exact Below.refl _ _ | apply Below.drew)))
           rintro e w3 ⟨rfl, hb3⟩
           replace hb3 : Below w1.heap.size w1 w3 := below_via (by repeat (first | assumption | exact Below.refl _ _ | apply Below.drew)) hb3))
      all_goals
        have HB3 : Hid (Below w0.heap.size w0 w3) := hide (below_via (unhide HB1) hb3)
        clear hb3
        by_cases hW : TW = 0
        · subst hW
          have HE2 := hide ((unhide HEE).trans (if_neg (by simp)))
          go_wp2
          go_round
          · exact ⟨m + 1, hlt, rfl, HE2, HB3⟩
          · simp only [intOf]; omega
        · have gW : (TW != 0) = true := by simpa using hW
          have HE2 := hide ((unhide HEE).trans (if_pos hW))
          go_wp2
          go_ret
          rw [unhide HE2]
          exact ⟨rfl, below_via (unhide HB0) (by repeat (first | exact unhide HB3 | apply Below.drew))⟩
    · have hi1 : ¬ (m : Int) < (r.tests.length : Int) := by omega
      have HE : Hid (R = fnz (OS1.drop 0)) := hide ((unhide H).trans (by rw [List.drop_eq_nil_of_le (by rw [unhide TL1]; omega)]; rfl))
      have V1 := (unhide HV0).keep (unhide HB) (unhide HV0).low
      have R1 := (unhide HR0).keep (unhide HB) (unhide HR0).low
      obtain ⟨p0, p1, p2, p3, p4⟩ := V1.tell
      obtain ⟨s0, s1⟩ := R1.cell0
      generalize wr = wA at *
      clear H V1 R1
      go_wp2
      go_loopw [52] (fun i wr => ∃ m : Nat, m ≤ r.outs.length ∧ i = .int .i64 (m : Int) ∧ Hid (R = fnz (OS1.drop m)) ∧ Hid (Below w0.heap.size w0 wr)) (fun i _ => r.outs.length - (intOf i).toNat)
      case atStart => exact ⟨0, Nat.zero_le _, rfl, HE, HB⟩
      case round =>
        obtain ⟨m, hml, rfl, H, HB⟩ := hrel
        clear HE
        by_cases hlt : m < r.outs.length
        · have hi1 : (m : Int) < (r.outs.length : Int) := by omega
          have hlt2 : m < t.outs.length := by have := unhide H2; omega
          have hi2 : (m : Int) < (t.outs.length : Int) := by omega
          obtain ⟨x, hx⟩ : ∃ x, r.outs[m]? = some x := ⟨_, List.getElem?_eq_getElem hlt⟩
          obtain ⟨c, hc⟩ : ∃ c, t.outs[m]? = some c := ⟨_, List.getElem?_eq_getElem hlt2⟩
          obtain ⟨tb, toff, tcap', etv⟩ := (unhide HX).begins (by intro e; rw [e] at hlt; simp at hlt)
          obtain ⟨ib, ioff, icap', eiv⟩ := (unhide HO).begins (by intro e; rw [e] at hlt2; simp at hlt2)
          cases etv
          cases eiv
          have hbw : Below w.heap.size w wr := below_via (unhide HB0) (unhide HB)
          have hbr : Below B w wr := hbw.mono (unhide HBB)
          have hzr : B ≤ wr.heap.size := Nat.le_trans (unhide HBB) hbw.size
          obtain ⟨xk, vk, vy, vc, vx, vt, va, vn, vp, xs, ya, yn, yp, hM, hq⟩ := ((unhide HX).below hbr fun x cs => XMem.below hbr).expr hx
          obtain ⟨co, c0, c1, c2, hord, hib⟩ := CM.cells ((unhide HO).below hbr fun x cs => CM.below hbr) hc
          have E := (unhide H).trans (fnz_drop (unhide OZ m x c hx hc))
          have hk5 : c.kind ≠ 5 := by have := (unhide HKO c (List.mem_of_getElem? hc)).2; omega
          obtain ⟨cn, ck, cord⟩ := c
          simp only at c0 c1 c2 E hk5
          obtain ⟨coa, cocap, hoe, _⟩ := id hord.tell
          obtain ⟨on, hon⟩ : ∃ on, on = cord.length := ⟨_, rfl⟩
          simp only at hoe
          rw [← hon] at hoe
          subst hoe
          clear hord hon
          obtain ⟨w1, hw1⟩ : ∃ w1, w1 = wr.alloc (.cells #[.int .i64 xk, .int .i64 vk, .bool vy, .int .i64 vc, .int .i64 vx, .string vt, .slice va vn vp, .string xs, .slice ya yn yp] 86) := ⟨_, rfl⟩
          have B1 : Below wr.heap.size wr w1 := by rw [hw1]; exact vbelow_new _ _
          have X1 : V9 w1 wr.heap.size (.int .i64 xk) (.int .i64 vk) (.bool vy) (.int .i64 vc) (.int .i64 vx) (.string vt) (.slice va vn vp) (.string xs) (.slice ya yn yp) := by rw [hw1]; exact V9.new _ _ _ _ _ _ _ _ _ _ _
          have hb1 := B1.mono hzr
          have hz1 : B ≤ w1.heap.size := Nat.le_trans hzr B1.size
          have hM1 := XMem.below hb1 hM
          have hG1 := ((unhide HG).keep hbr).keep hb1
          have hN1 := (unhide HN).below (below_via hbw B1)
          have hw1s : w.heap.size ≤ w1.heap.size := (below_via hbw B1).size
          have WO : Hid (∀ wx, Below w1.heap.size w1 wx → Calls Tryz.prog 52 #[.agg #[.int .i64 xk, .int .i64 vk, .bool vy, .int .i64 vc, .int .i64 vx, .string vt, .slice va vn vp, .string xs, .slice ya yn yp], .slice na nn ncap, .agg #[.int .i64 ck, .slice none 0 0]] wx fun e w' => e = .returned (.int .i64 (outW x (namesW t.ins) ck)) ∧ Below wx.heap.size wx w') := hide (fun wx hb => by
            have hb' := hb.mono hz1
            exact wrongOut_any x _ (namesW t.ins) _ ck wx (Nat.le_trans hz1 hb.size) hk5 (hG1.keep hb') (XMem.below hb' hM1) ((hN1.below (hb.mono hw1s)).mono (Nat.le_trans hw1s hb.size)))
          generalize outW x (namesW t.ins) ck = TW at WO E
          have TY := hide (fun wx => typeOf_any cn ck (.slice coa on cocap) wx)
          have V1 := ((unhide HV0).keep (unhide HB) (unhide HV0).low).keep B1 (Nat.lt_of_lt_of_le (unhide HV0).low (unhide HB).size)
          have d0 := (B1.cell (p := ⟨ib, ioff + m * 3, none⟩) (Nat.lt_of_lt_of_le hib hzr)).trans c0
          have d1 := (B1.cell (p := ⟨ib, ioff + m * 3 + 1, none⟩) (Nat.lt_of_lt_of_le hib hzr)).trans c1
          have d2 := (B1.cell (p := ⟨ib, ioff + m * 3 + 2, none⟩) (Nat.lt_of_lt_of_le hib hzr)).trans c2
          have HB1 := hide (below_via (unhide HB) B1)
          have HX1 := hide X1
          have HEE := hide E
          obtain ⟨e0, e1, e2, e3, e4⟩ := V1.tell
          obtain ⟨x0, x1, x2, x3, x4, x5, x6, x7, x8⟩ := X1.tell
          have q0 := hq 0 _ rfl
          have q1 := hq 1 _ rfl
          have q2 := hq 2 _ rfl
          have q3 := hq 3 _ rfl
          have q4 := hq 4 _ rfl
          have q5 := hq 5 _ rfl
          have q6 := hq 6 _ rfl
          have q7 := hq 7 _ rfl
          have q8 := hq 8 _ rfl
          rw [Nat.add_zero] at q0
          clear hq hx hc hbr hbw hM E H B1 X1 hb1 hM1 hG1 hN1 hw1s V1 c0 c1 c2 hzr hz1 hlt2 hk5
          go_upto_region 13 with fail
          rw [← hw1]
          clear hw1 q0 q1 q2 q3 q4 q5 q6 q7 q8
          go_region_with (first
            | (go_at_call 50
               refine (unhide TY _).mono ?_
               rintro e w2 ⟨rfl, hb2⟩
               replace hb2 : Below w1.heap.size w1 w2 := below_via (by repeat (first | assumption | exact Below.refl _ _ | apply Below.drew)) hb2
               obtain ⟨z0, z1, z2, z3, z4, z5, z6, z7, z8⟩ := ((unhide HX1).keep hb2 (unhide HX1).low).tell)
            | (go_at_call 52
               (refine (unhide WO _ ?_).mono ?_; · exact (by repeat (first | assumption | exact Below.refl _ _ | apply Below.drew)))
               rintro e w3 ⟨rfl, hb3⟩
               replace hb3 : Below w1.heap.size w1 w3 := below_via (by repeat (first | assumption | exact Below.refl _ _ | apply Below.drew)) hb3))
          all_goals
            have HB3 : Hid (Below w0.heap.size w0 w3) := hide (below_via (unhide HB1) hb3)
            clear hb3
            by_cases hW : TW = 0
            · subst hW
              have HE2 := hide ((unhide HEE).trans (if_neg (by simp)))
              go_wp2
              go_round
              · exact ⟨m + 1, hlt, rfl, HE2, HB3⟩
              · simp only [intOf]; omega
            · have gW : (TW != 0) = true := by simpa using hW
              have HE2 := hide ((unhide HEE).trans (if_pos hW))
              go_wp2
              go_ret
              rw [unhide HE2]
              exact ⟨rfl, below_via (unhide HB0) (by repeat (first | exact unhide HB3 | apply Below.drew))⟩
        · have hi1 : ¬ (m : Int) < (r.outs.length : Int) := by omega
          have HE2 : Hid (R = 0) := hide ((unhide H).trans (by rw [List.drop_eq_nil_of_le (by rw [unhide OL1]; omega)]; rfl))
          go_wp2
          go_ret
          rw [unhide HE2]
          exact ⟨rfl, below_via (unhide HB0) (unhide HB)⟩
end Go.Proofs.YtnegjbkbfgkkjaaGreatDoor

/- Walks: what is wrong with a table. -/
namespace Go.Proofs.YtnegjbkbfgkkjaaGreatDoor
open Go.RowKit Go.MapKept

/-- a rule in a row of rules -/
theorem Ls.rule {B : Nat} {w : World} {l : List RuT} {b off n cap : Nat} (h : Ls B w 2 (RM B w) l (.slice (some ⟨b, off, none⟩) n cap)) {i : Nat} {r : RuT} (hi : l[i]? = some r) :
    ∃ (ta : Option Addr) (tcap : Nat) (xa : Option Addr) (xcap : Nat), RM B w r #[.slice ta r.tests.length tcap, .slice xa r.outs.length xcap] ∧ w.cell? ⟨b, off + i * 2, none⟩ = some (.slice ta r.tests.length tcap) ∧ w.cell? ⟨b, off + i * 2 + 1, none⟩ = some (.slice xa r.outs.length xcap) := by
  obtain ⟨a, cap', e, _, hk⟩ := h.tell
  obtain ⟨b', off', ea, hl, hm⟩ := hk (by intro e; subst e; simp at hi)
  cases e
  cases ea
  obtain ⟨cs, hs, hM, hc⟩ := hm i r hi
  have hM' := hM
  obtain ⟨t, o, rfl, ht, ho⟩ := hM'
  obtain ⟨ta, tcap, rfl, _⟩ := id ht.tell
  obtain ⟨xa, xcap, rfl, _⟩ := id ho.tell
  exact ⟨ta, tcap, xa, xcap, hM, by simpa using hc 0 _ rfl, by simpa using hc 1 _ rfl⟩

set_option maxRecDepth 100000 in
set_option maxHeartbeats 16000000 in
theorem tableWrong_any {B : Nat} (t : TbT) (tc : Array Value) (w : World) (hB : B ≤ w.heap.size) (hG : GdT B w) (ht : TbM B w t tc) :
    Calls Tryz.prog 15 #[.agg tc] w fun e w' => e = .returned (.int .i64 (tabW t)) ∧ Below w.heap.size w w' := by
  have HTB := hide ht
  obtain ⟨iv, ov, rv, rfl, hi, ho, hrr⟩ := ht
  obtain ⟨ia, icap, hie, hic, _⟩ := id hi.tell
  obtain ⟨oa, ocap, hoe, hoc, _⟩ := id ho.tell
  obtain ⟨ra, rcap, hre, _⟩ := id hrr.tell
  have hrl := hrr.len
  subst hie hoe hre
  obtain ⟨w0, hw0⟩ : ∃ w0, w0 = w.alloc (.cells #[.string t.name, .int .i64 t.pol, .slice ia t.ins.length icap, .slice oa t.outs.length ocap, .slice ra t.rules.length rcap] 34) := ⟨_, rfl⟩
  have B0 : Below w.heap.size w w0 := by rw [hw0]; exact vbelow_new _ _
  have V0 : V5 w0 w.heap.size (.string t.name) (.int .i64 t.pol) (.slice ia t.ins.length icap) (.slice oa t.outs.length ocap) (.slice ra t.rules.length rcap) := by rw [hw0]; exact V5.new w 34 _ _ _ _ _
  have hb0 := B0.mono hB
  have hz0 : B ≤ w0.heap.size := Nat.le_trans hB B0.size
  have WH := hide (wrongHead_any t _ w0 hz0 (hG.keep hb0) ((unhide HTB).below hb0))
  obtain ⟨R, hR⟩ : ∃ R, R = tabW t := ⟨_, rfl⟩
  rw [← hR]
  have HR : Hid (R = if headW t ≠ 0 then headW t else if 10 < t.rules.length then 5 else fnz ((t.rules.map (ruleW t)).drop 0)) := hide hR
  have HH := hide (fun h : headW t = 0 => (colsW_ok (headW_ok h).1))
  have WR := hide (fun (h : headW t = 0) (tc : Array Value) (r : RuT) (rc : Array Value) (na : Option Addr) (nn ncap : Nat) (wx : World) hB hG ht hr hn => wrongRule_any (B := B) t tc r rc na nn ncap wx hB hG ht hr h hn)
  generalize headW t = HW at *
  have RS1 : Hid (∀ (m : Nat) (r : RuT), t.rules[m]? = some r → (t.rules.map (ruleW t))[m]? = some (ruleW t r)) := hide (fun m r h => by simp [h])
  have RL : Hid ((t.rules.map (ruleW t)).length = t.rules.length) := hide (by simp)
  generalize t.rules.map (ruleW t) = RZ at *
  have HB0 := hide B0
  have HV0 := hide V0
  have HBB := hide hB
  have HG := hide hG
  have HI := hide hi
  have HRR := hide hrr
  obtain ⟨v0, v1, v2, v3, v4⟩ := V0.tell
  clear hR B0 V0 hB hG hi ho hrr hb0 hz0
  go_enter Tryz.func15, Tryz.ntmps15
  go_upto_region 1 with fail
  rw [← hw0]
  clear hw0
  go_wp2_with fail
  refine (unhide WH).mono ?_
  rintro e w1 ⟨rfl, hb1⟩
  have HB1 := hide (below_via (unhide HB0) hb1)
  have V1 := (unhide HV0).keep hb1 (unhide HV0).low
  have HV1 := hide V1
  obtain ⟨a0, a1, a2, a3, a4⟩ := V1.tell
  clear hb1 v0 v1 v2 v3 v4 V1 WH HV0 HB0
  by_cases hh : HW = 0
  case neg =>
    have gh : (HW != 0) = true := by simpa using hh
    have HE := hide ((unhide HR).trans (if_pos hh))
    go_wp2
    go_ret
    rw [unhide HE]
    exact ⟨rfl, unhide HB1⟩
  have HE := hide ((unhide HR).trans (if_neg (by simpa using hh)))
  have HO2 := hide (unhide HH hh)
  have WR2 := hide (unhide WR hh)
  subst hh
  clear HR HH WR
  by_cases h10 : 10 < t.rules.length
  · have g10 : (10 : Int) < (t.rules.length : Int) := by omega
    have HE2 := hide ((unhide HE).trans (if_pos h10))
    go_wp2
    go_ret
    rw [unhide HE2]
    exact ⟨rfl, unhide HB1⟩
  have g10 : ¬ (10 : Int) < (t.rules.length : Int) := by omega
  have HE2 := hide ((unhide HE).trans (if_neg h10))
  have NO := hide (namesOf_any t.ins (.slice ia t.ins.length icap) w1 (Nat.le_trans (unhide HBB) (unhide HB1).size) (unhide HO2).1.2 (fun c hc => nameB_small ((unhide HO2).2 c hc).1) ((unhide HI).below ((unhide HB1).mono (unhide HBB)) fun x cs => CM.below ((unhide HB1).mono (unhide HBB))))
  clear HE h10
  go_wp2_with fail
  refine (unhide NO).mono ?_
  rintro e w2 ⟨nv, rfl, hvs, hb2⟩
  obtain ⟨na, ncap, hne, _⟩ := id hvs.tell
  obtain ⟨nn, hnn⟩ : ∃ nn, nn = (namesW t.ins).length := ⟨_, rfl⟩
  rw [← hnn] at hne
  subst hne
  have HVS := hide hvs
  have HB2 := hide (below_via (unhide HB1) hb2)
  have V2 := (unhide HV1).keep hb2 (unhide HV1).low
  have HV2 := hide V2
  obtain ⟨b0, b1, b2, b3, b4⟩ := V2.tell
  clear hb2 V2 NO HV1 HB1 a0 a1 a2 a3 a4 hvs hnn
  go_wp2
  go_loopw [23] (fun i wr => ∃ m : Nat, m ≤ t.rules.length ∧ i = .int .i64 (m : Int) ∧ Hid (R = fnz (RZ.drop m)) ∧ Hid (Below w2.heap.size w2 wr)) (fun i _ => t.rules.length - (intOf i).toNat)
  case atStart => exact ⟨0, Nat.zero_le _, rfl, HE2, hide (Below.refl _ _)⟩
  case round =>
    obtain ⟨m, hml, rfl, H, HB⟩ := hrel
    clear HE2
    by_cases hlt : m < t.rules.length
    · have hi1 : (m : Int) < (t.rules.length : Int) := by omega
      obtain ⟨r, hr⟩ : ∃ r, t.rules[m]? = some r := ⟨_, List.getElem?_eq_getElem hlt⟩
      obtain ⟨rb, roff, rcap', erv⟩ := (unhide HRR).begins (by intro e; rw [e] at hlt; simp at hlt)
      cases erv
      have hbw : Below w.heap.size w wr := below_via (unhide HB2) (unhide HB)
      have hbr : Below B w wr := hbw.mono (unhide HBB)
      obtain ⟨ta, tcap, xa, xcap, hRM, c0, c1⟩ := ((unhide HRR).below hbr fun x cs => RM.below hbr).rule hr
      have E := (unhide H).trans (fnz_drop (unhide RS1 m r hr))
      obtain ⟨w3, hw3⟩ : ∃ w3, w3 = wr.alloc (.cells #[.slice ta r.tests.length tcap, .slice xa r.outs.length xcap] 75) := ⟨_, rfl⟩
      have B3 : Below wr.heap.size wr w3 := by rw [hw3]; exact vbelow_new _ _
      have R3 : Bx2 w3 wr.heap.size (.slice ta r.tests.length tcap) (.slice xa r.outs.length xcap) := by rw [hw3]; exact Bx2.new _ _ _ _
      have hbw3 := below_via hbw B3
      have hz3 : B ≤ w3.heap.size := Nat.le_trans (unhide HBB) hbw3.size
      have hb3 : Below B wr w3 := B3.mono (Nat.le_trans (unhide HBB) hbw.size)
      have WX := hide (unhide WR2 _ r _ na nn ncap w3 hz3 ((unhide HG).keep (hbw3.mono (unhide HBB))) ((unhide HTB).below (hbw3.mono (unhide HBB))) (hRM.below hb3) (((unhide HVS).below (below_via (unhide HB) B3)).mono (Nat.le_trans (unhide HB).size B3.size)))
      generalize ruleW t r = X at WX E
      have HEE := hide E
      have HB3 := hide (below_via (unhide HB) B3)
      have V3' := ((unhide HV2).keep (unhide HB) (unhide HV2).low).keep B3 (Nat.lt_of_lt_of_le (unhide HV2).low (unhide HB).size)
      obtain ⟨e0, e1, e2, e3, e4⟩ := V3'.tell
      obtain ⟨s0, s1⟩ := R3.cell0
      clear hr hbw hbr hRM E H B3 R3 hbw3 hz3 hb3 V3' HB
      go_upto_region 10 with fail
      rw [← hw3]
      clear hw3 c0 c1
      go_wp2_with fail
      refine (unhide WX).mono ?_
      rintro e w4 ⟨rfl, hb4⟩
      have HB4 := hide (below_via (unhide HB3) hb4)
      clear hb4 WX
      by_cases hX : X = 0
      · subst hX
        have HE3 := hide ((unhide HEE).trans (if_neg (by simp)))
        go_wp2
        go_round
        · exact ⟨m + 1, hlt, rfl, HE3, HB4⟩
        · simp only [intOf]; omega
      · have gX : (X != 0) = true := by simpa using hX
        have HE3 := hide ((unhide HEE).trans (if_pos hX))
        go_wp2
        go_ret
        rw [unhide HE3]
        exact ⟨rfl, below_via (unhide HB2) (unhide HB4)⟩
    · have hi1 : ¬ (m : Int) < (t.rules.length : Int) := by omega
      have HE3 : Hid (R = 0) := hide ((unhide H).trans (by rw [List.drop_eq_nil_of_le (by rw [unhide RL]; omega)]; rfl))
      go_wp2
      go_ret
      rw [unhide HE3]
      exact ⟨rfl, below_via (unhide HB2) (unhide HB)⟩
end Go.Proofs.YtnegjbkbfgkkjaaGreatDoor

/- Rows of structs that a slice owns, stored in. -/
namespace Go.Proofs.YtnegjbkbfgkkjaaGreatDoor
open Go.RowKit Go.MapKept

theorem gr_trans {w w1 w2 : World} {r : Option Nat} (h : w.grownBy w1 r) (k : w1.grownBy w2 r) : w.grownBy w2 r := ⟨k.os.trans h.os, k.tape.trans h.tape, k.output.trans h.output, Nat.le_trans h.size k.size, fun b hb hn => (k.block b (Nat.lt_of_lt_of_le hb h.size) hn).trans (h.block b hb hn)⟩
theorem gr_set (w : World) (a : Addr) (u : Value) : w.grownBy (w.setCell a u) (some a.block) := ⟨rfl, rfl, rfl, by simp [World.setCell], fun k _ hk => Below.heap_setCell w a u k (fun e => hk (by rw [e]))⟩
theorem gr_drew (w : World) (r : Option Nat) : w.grownBy w.drew r := ⟨rfl, rfl, rfl, Nat.le_refl _, fun _ _ _ => rfl⟩
theorem gr_below {w w' : World} (h : Below w.heap.size w w') (r : Option Nat) : w.grownBy w' r := ⟨h.os, h.tape, h.output, h.size, fun k hk _ => h.block k hk⟩
/-- what is written in new blocks alone -/
theorem gr_new {w w1 w2 : World} {r s : Option Nat} (h : w.grownBy w1 r) (k : w1.grownBy w2 s) (hs : ∀ c, s = some c → w.heap.size ≤ c) : w.grownBy w2 r :=
  ⟨k.os.trans h.os, k.tape.trans h.tape, k.output.trans h.output, Nat.le_trans h.size k.size, fun b hb hn => (k.block b (Nat.lt_of_lt_of_le hb h.size) (fun e => by have := hs b e.symm; omega)).trans (h.block b hb hn)⟩
theorem setRow_heap12 (g : Nat) (e : TypeId) : ∀ (vs : List Value) (o : Nat) (w : World) (cur : Array Value), w.heap[g]? = some (.cells cur e (0, 0)) → ∃ cur', (w.setCells g o vs).heap[g]? = some (.cells cur' e (0, 0)) ∧ cur'.size = cur.size ∧ w.grownBy (w.setCells g o vs) (some g)
  | [], o, w, cur, h => ⟨cur, h, rfl, World.grownBy.refl _ _⟩
  | v :: vs, o, w, cur, h => by
    obtain ⟨cur', h1, h2, h3⟩ := setRow_heap12 g e vs (o + 1) (w.setCell ⟨g, o, none⟩ v) (cur.setIfInBounds o v) (heap_setCell_same w g o cur e v h)
    exact ⟨cur', h1, by rw [h2]; simp, gr_trans (gr_set w ⟨g, o, none⟩ v) h3⟩
/-- a row that is known cell by cell is owned -/
theorem own_of12 {w : World} {B g n cap k : Nat} {e : TypeId} {cur : Array Value} {xs : List Value} (hg : w.heap[g]? = some (.cells cur e (0, 0))) (hB : B ≤ g) (hn : n ≤ cap) (hm : cap ≤ maxLen) (hs : cur.size = cap * k) (hl : xs.length = n * k) (hc : ∀ j, j < n * k → w.cell? ⟨g, j, none⟩ = xs[j]?) : w.ownsRow B e k (.slice (some ⟨g, 0, none⟩) n cap) n xs := by
  refine ⟨hl, .inr ⟨g, cap, cur, rfl, hB, hg, hn, hm, hs, ?_⟩⟩
  apply List.ext_getElem?
  intro j
  rw [List.getElem?_take]
  split
  · rename_i hj
    rw [← hc j hj, cell_of_row w g j cur e (0, 0) hg]
    simp
  · rw [List.getElem?_eq_none (by omega)]
/-- an owned row that is not nil -/
theorem own_at12 {w : World} {B k n : Nat} {e : TypeId} {v : Value} {xs : List Value} (h : w.ownsRow B e k v n xs) (hn : 0 < n) : ∃ g cap cur, v = .slice (some ⟨g, 0, none⟩) n cap ∧ B ≤ g ∧ w.heap[g]? = some (.cells cur e (0, 0)) ∧ n ≤ cap ∧ cap ≤ maxLen ∧ cur.size = cap * k ∧ (∀ j u, xs[j]? = some u → w.cell? ⟨g, j, none⟩ = some u) := by
  have hc := fun g hg => World.ownsRow.cells (w := w) h (g := g) hg
  rcases h.2 with ⟨rfl, rfl⟩ | ⟨g, cap, cur, rfl, hb, hg, h1, h2, h3, h4⟩
  · omega
  · refine ⟨g, cap, cur, rfl, hb, hg, h1, h2, h3, fun j u hj => ?_⟩
    have := hc g rfl j u hj
    rw [Addr.add_lit, Nat.zero_add] at this
    exact this
theorem run_clear12 (w : World) (t e ty : TypeId) (z : Value) (ht : Tryz.prog.underlying t = some (.slice e)) (hv : ∀ w, (zeroValue e).run Tryz.prog w = .ok z w) (h1 : ∀ j, j < z.cells.size → (z.cells[j]!).oneCell' = true) (hz : 0 < z.cells.size) (b o n c : Nat) (hn : 0 < n)
    (hc : ∀ j, j < n * z.cells.size → (w.cell? ⟨b, o + j, none⟩).isSome = true) (hf : ∀ j, j < n * z.cells.size → w.frozen? ⟨b, o + j, none⟩ = false) :
    (Builtin.clear_ #[t] ty #[.slice (some ⟨b, o, none⟩) n c]).run Tryz.prog w = .ok (.tuple #[]) (w.setCells b o (Builtin.zeroCells z.cells n).toList) := by
  have hl : (Builtin.zeroCells z.cells n).toList.length = n * z.cells.size := by rw [Array.length_toList, size_zeroCells]
  have hst := run_storeCells_cells (P := Tryz.prog) b o (Builtin.zeroCells z.cells n).toList 0 w (by rw [hl]; simpa using hc) (by rw [hl]; simpa using hf) (by
    intro v hv'
    simp only [Builtin.zeroCells, Array.toList_map, List.mem_map] at hv'
    obtain ⟨j, _, rfl⟩ := hv'
    exact h1 _ (Nat.mod_lt _ hz))
  simp only [Nat.add_zero] at hst
  obtain ⟨m, rfl⟩ : ∃ m, n = m + 1 := ⟨n - 1, by omega⟩
  simp [Builtin.clear_, run_underlying ht, hv, hst]
end Go.Proofs.YtnegjbkbfgkkjaaGreatDoor

/- A repo in memory, as it is read. -/
namespace Go.Proofs.YtnegjbkbfgkkjaaGreatDoor
open Go.RowKit Go.MapKept

/-- where the first one is, or -1 -/
def ixN {α : Type} (p : α → Bool) : List α → Nat → Int
  | [], _ => -1
  | x :: l, i => if p x = true then (i : Int) else ixN p l (i + 1)
theorem ixN_at {α : Type} {p : α → Bool} {l : List α} {m : Nat} {x : α} (h : l[m]? = some x) : ixN p (l.drop m) m = if p x = true then (m : Int) else ixN p (l.drop (m + 1)) (m + 1) := by
  obtain ⟨hi, e⟩ := List.getElem?_eq_some_iff.1 h
  rw [List.drop_eq_getElem_cons hi, ixN, e]
/-- a seat, a version, an entry as cells -/
def SeM (x : Rp.Seat) (cs : Array Value) : Prop := cs = #[.int .i64 x.session, .int .i64 x.seq, .int .i64 x.reply.err, .int .i64 x.reply.version]
def VeM (B : Nat) (w : World) (x : Rp.Ver TbT) (cs : Array Value) : Prop := ∃ t0 t1 t2 t3 t4, cs = #[.int .i64 x.number, t0, t1, t2, t3, t4] ∧ TbM B w x.table #[t0, t1, t2, t3, t4]
/-- a slice whose address is plain -/
def PlS (v : Value) : Prop := v = .slice none 0 0 ∨ ∃ b off n c, v = .slice (some ⟨b, off, none⟩) n c
def EnM (B : Nat) (w : World) (x : Rp.Ent ByteArray TbT) (cs : Array Value) : Prop := ∃ kv, cs = #[.string x.name, .int .i64 x.next, .int .i64 x.now, kv] ∧ Ls w.heap.size w 6 (VeM B w) x.kept kv ∧ PlS kv
theorem VeM.below {B : Nat} {w w' : World} (hb : Below B w w') {x : Rp.Ver TbT} {cs : Array Value} (h : VeM B w x cs) : VeM B w' x cs := by
  obtain ⟨t0, t1, t2, t3, t4, e, h⟩ := h
  exact ⟨t0, t1, t2, t3, t4, e, h.below hb⟩
theorem EnM.below {B : Nat} {w w' : World} (hB : B ≤ w.heap.size) (hb : Below w.heap.size w w') {x : Rp.Ent ByteArray TbT} {cs : Array Value} (h : EnM B w x cs) : EnM B w' x cs := by
  obtain ⟨kv, e, h, hp⟩ := h
  exact ⟨kv, e, (h.below hb fun y cs => VeM.below (hb.mono hB)).mono hb.size fun y cs h => h, hp⟩
theorem Ls.at {α : Type} {B : Nat} {w : World} {k : Nat} {R : α → Array Value → Prop} {l : List α} {b off n cap : Nat} (h : Ls B w k R l (.slice (some ⟨b, off, none⟩) n cap)) {i : Nat} {x : α} (hi : l[i]? = some x) :
    b < B ∧ ∃ cs, cs.size = k ∧ R x cs ∧ ∀ j u, cs[j]? = some u → w.cell? ⟨b, off + i * k + j, none⟩ = some u := by
  obtain ⟨a, cap', e, _, hk⟩ := h.tell
  obtain ⟨b', off', ea, hl, hm⟩ := hk (by intro e; subst e; simp at hi)
  cases e
  cases ea
  exact ⟨hl, hm i x hi⟩
theorem Ls.seat {B : Nat} {w : World} {l : List Rp.Seat} {b off n cap : Nat} (h : Ls B w 4 SeM l (.slice (some ⟨b, off, none⟩) n cap)) {i : Nat} {x : Rp.Seat} (hi : l[i]? = some x) :
    ∀ j u, (#[.int .i64 x.session, .int .i64 x.seq, .int .i64 x.reply.err, .int .i64 x.reply.version] : Array Value)[j]? = some u → w.cell? ⟨b, off + i * 4 + j, none⟩ = some u := by
  obtain ⟨_, cs, _, rfl, hc⟩ := h.at hi
  exact hc
theorem TbM.open {B : Nat} {w : World} {t : TbT} {cs : Array Value} (h : TbM B w t cs) : ∃ ia oa ra ic oc rc, cs = #[.string t.name, .int .i64 t.pol, .slice ia t.ins.length ic, .slice oa t.outs.length oc, .slice ra t.rules.length rc] := by
  obtain ⟨i, o, r, rfl, hi, ho, hr⟩ := h
  obtain ⟨ia, ic, rfl, _⟩ := hi.tell
  obtain ⟨oa, oc, rfl, _⟩ := ho.tell
  obtain ⟨ra, rc, rfl, _⟩ := hr.tell
  exact ⟨ia, oa, ra, ic, oc, rc, rfl⟩
theorem Ls.ver {B B' : Nat} {w : World} {l : List (Rp.Ver TbT)} {b off n cap : Nat} (h : Ls B' w 6 (VeM B w) l (.slice (some ⟨b, off, none⟩) n cap)) {i : Nat} {x : Rp.Ver TbT} (hi : l[i]? = some x) :
    ∃ ia oa ra ic oc rc, ∀ j u, (#[.int .i64 x.number, .string x.table.name, .int .i64 x.table.pol, .slice ia x.table.ins.length ic, .slice oa x.table.outs.length oc, .slice ra x.table.rules.length rc] : Array Value)[j]? = some u → w.cell? ⟨b, off + i * 6 + j, none⟩ = some u := by
  obtain ⟨_, cs, _, ⟨t0, t1, t2, t3, t4, rfl, ht⟩, hc⟩ := h.at hi
  obtain ⟨ia, oa, ra, ic, oc, rc, e⟩ := ht.open
  simp at e
  obtain ⟨rfl, rfl, rfl, rfl, rfl⟩ := e
  exact ⟨ia, oa, ra, ic, oc, rc, hc⟩
/-- a repo's three cells -/
def RpM (B : Nat) (w : World) (x : Rp.Repo ByteArray TbT) (cs : Array Value) : Prop := ∃ ev sv, cs = #[ev, sv, .int .i64 x.applied] ∧ (Ls w.heap.size w 4 (EnM B w) x.entries ev ∧ PlS ev) ∧ Ls w.heap.size w 4 SeM x.seats sv ∧ PlS sv
end Go.Proofs.YtnegjbkbfgkkjaaGreatDoor

/- Rows that are read, as lists of cells. -/
namespace Go.Proofs.YtnegjbkbfgkkjaaGreatDoor
open Go.RowKit Go.MapKept

theorem flat_inv {k : Nat} : ∀ (css : List (List Value)), (∀ c ∈ css, c.length = k) → ∀ (j : Nat) (u : Value), css.flatten[j]? = some u → ∃ i t c, j = i * k + t ∧ css[i]? = some c ∧ c[t]? = some u
  | [], _, j, u, h => by simp at h
  | c :: css, hk, j, u, h => by
    rw [List.flatten_cons] at h
    have hc := hk c List.mem_cons_self
    rcases Nat.lt_or_ge j c.length with q | q
    · rw [List.getElem?_append_left q] at h
      exact ⟨0, j, c, by omega, rfl, h⟩
    · rw [List.getElem?_append_right q] at h
      obtain ⟨i, t, d, e, h1, h2⟩ := flat_inv css (fun d hd => hk d (List.mem_cons_of_mem _ hd)) _ u h
      exact ⟨i + 1, t, d, by rw [Nat.add_mul]; omega, by simpa using h1, h2⟩
theorem flat_at2 {k : Nat} (css : List (List Value)) (hk : ∀ c ∈ css, c.length = k) (i t : Nat) (c : List Value) (u : Value) (h : css[i]? = some c) (hu : c[t]? = some u) : css.flatten[i * k + t]? = some u := by
  induction css generalizing i with
  | nil => simp at h
  | cons d css ih =>
    have hd := hk d List.mem_cons_self
    cases i with
    | zero =>
      simp at h
      subst h
      have := (List.getElem?_eq_some_iff.1 hu).1
      rw [List.flatten_cons, List.getElem?_append_left (by omega)]
      simpa using hu
    | succ i =>
      have e : (i + 1) * k + t - d.length = i * k + t := by rw [hd, Nat.add_mul]; omega
      rw [List.flatten_cons, List.getElem?_append_right (by rw [hd, Nat.add_mul]; omega), e]
      exact ih (fun c hc => hk c (List.mem_cons_of_mem _ hc)) i (by simpa using h)
theorem flat_len2 {k : Nat} : ∀ (css : List (List Value)), (∀ c ∈ css, c.length = k) → css.flatten.length = css.length * k
  | [], _ => by simp
  | c :: css, hk => by
    rw [List.flatten_cons, List.length_append, hk c List.mem_cons_self, flat_len2 css fun d hd => hk d (List.mem_cons_of_mem _ hd), List.length_cons, Nat.add_mul]
    omega
theorem choose_rows {α : Type} {P : Nat → α → Prop} : ∀ (n : Nat), (∀ i, i < n → ∃ x, P i x) → ∃ l : List α, l.length = n ∧ ∀ i x, l[i]? = some x → P i x
  | 0, _ => ⟨[], rfl, fun i x h => by simp at h⟩
  | n + 1, h => by
    obtain ⟨l, hl, hp⟩ := choose_rows n fun i hi => h i (by omega)
    obtain ⟨x, hx⟩ := h n (by omega)
    refine ⟨l ++ [x], by simp [hl], fun i y hy => ?_⟩
    rcases Nat.lt_or_ge i n with q | q
    · rw [List.getElem?_append_left (by omega)] at hy
      exact hp i y hy
    · rw [List.getElem?_append_right (by omega)] at hy
      obtain rfl : i = n := by
        have := (List.getElem?_eq_some_iff.1 hy).1
        simp at this
        omega
      simp [hl] at hy
      rw [← hy]
      exact hx
/-- rows of cells, told by R -/
structure Rows12 {α : Type} (k : Nat) (R : α → Array Value → Prop) (l : List α) (css : List (List Value)) : Prop where
  len : css.length = l.length
  each : ∀ (i : Nat) (x : α), l[i]? = some x → ∃ c, css[i]? = some c ∧ c.length = k ∧ R x c.toArray
theorem Rows12.width {α : Type} {k : Nat} {R : α → Array Value → Prop} {l : List α} {css : List (List Value)} (h : Rows12 k R l css) : ∀ c ∈ css, c.length = k := by
  intro c hc
  obtain ⟨i, hi⟩ := List.getElem?_of_mem hc
  have hl : i < l.length := by rw [← h.len]; exact (List.getElem?_eq_some_iff.1 hi).1
  obtain ⟨c', h1, h2, _⟩ := h.each i _ (List.getElem?_eq_getElem hl)
  rw [hi] at h1
  cases h1
  exact h2
theorem ls_rows {α : Type} {B : Nat} {w : World} {k : Nat} {R : α → Array Value → Prop} {l : List α} {v : Value} (h : Ls B w k R l v) :
    ∃ css, Rows12 k R l css ∧ (l ≠ [] → ∃ b off cap, v = .slice (some ⟨b, off, none⟩) l.length cap ∧ b < B ∧ ∀ j u, css.flatten[j]? = some u → w.cell? ⟨b, off + j, none⟩ = some u) := by
  by_cases hne : l = []
  · subst hne
    exact ⟨[], ⟨rfl, fun i x hx => by simp at hx⟩, fun h => absurd rfl h⟩
  · obtain ⟨b, off, cap, rfl⟩ := h.begins hne
    obtain ⟨css, hl, hp⟩ := choose_rows (P := fun i (c : List Value) => c.length = k ∧ (∀ x, l[i]? = some x → R x c.toArray) ∧ ∀ j u, c[j]? = some u → w.cell? ⟨b, off + i * k + j, none⟩ = some u) l.length (fun i hi => by
      obtain ⟨_, cs, hs, hr, hc⟩ := h.at (List.getElem?_eq_getElem hi)
      refine ⟨cs.toList, by simpa using hs, fun x hx => ?_, fun j u hj => hc j u (by simpa using hj)⟩
      rw [List.getElem?_eq_getElem hi] at hx
      cases hx
      simpa using hr)
    have R1 : Rows12 k R l css := ⟨hl, fun i x hx => by
      have hi : i < css.length := by rw [hl]; exact (List.getElem?_eq_some_iff.1 hx).1
      obtain ⟨q1, q2, _⟩ := hp i _ (List.getElem?_eq_getElem hi)
      exact ⟨_, List.getElem?_eq_getElem hi, q1, q2 x hx⟩⟩
    refine ⟨css, R1, fun _ => ⟨b, off, cap, rfl, ?_, fun j u hj => ?_⟩⟩
    · cases l with
      | nil => exact absurd rfl hne
      | cons x l => exact (h.at (i := 0) rfl).1
    · obtain ⟨i, t, c, e, h1, h2⟩ := flat_inv css R1.width j u hj
      have := (hp i c h1).2.2 t u h2
      rw [e, ← Nat.add_assoc]
      exact this
/-- .. and read again -/
theorem rows_ls {α : Type} {B L k : Nat} {w : World} {e : TypeId} {R : α → Array Value → Prop} {l : List α} {v : Value} {css : List (List Value)} (hr : Rows12 k R l css) (h : w.ownsRow B e k v l.length css.flatten) (hL : w.heap.size ≤ L) : Ls L w k R l v ∧ PlS v := by
  rcases h.2 with ⟨h1, h0⟩ | ⟨g, cap, cur, hv, hg, hh, h1, h2, h3, h4⟩
  · refine ⟨⟨by omega, none, 0, by rw [h1, h0], ⟨by omega, by omega⟩, fun hne => absurd (List.length_eq_zero_iff.1 h0) hne⟩, .inl h1⟩
  · have hglt : g < w.heap.size := (Array.getElem?_eq_some_iff.1 hh).1
    refine ⟨⟨by unfold maxLen at h2; omega, _, cap, hv, ⟨h1, by unfold maxLen at h2; omega⟩, fun _ => ⟨g, 0, rfl, by omega, fun i x hx => ?_⟩⟩, .inr ⟨g, 0, _, _, hv⟩⟩
    obtain ⟨c, hc1, hc2, hc3⟩ := hr.each i x hx
    refine ⟨c.toArray, by simpa using hc2, hc3, fun j u hu => ?_⟩
    have hq := flat_at2 css hr.width i j c u hc1 (by simpa using hu)
    rw [← h4, List.getElem?_take] at hq
    split at hq
    · rw [Nat.zero_add]
      simp [World.cell?, hh]
      simpa using hq
    · cases hq
end Go.Proofs.YtnegjbkbfgkkjaaGreatDoor
