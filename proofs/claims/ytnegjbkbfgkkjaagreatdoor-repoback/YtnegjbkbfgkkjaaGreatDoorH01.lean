/- Plain: the next number of a session; where a version was found it is found again. -/
import Derived.Test.YtnegjbkbfgkkjaaGreatDoorG45
namespace Go.Proofs.YtnegjbkbfgkkjaaGreatDoor
open Go.RowKit Go.MapKept

/-- the number that comes next in a session -/
def sqF (l : List Rp.Seat) (ss : Int) : Int := match Rp.findS l ss with
  | some s => IntKind.i64.wrap (s.seq + 1)
  | none => 1
theorem sqF_yes {l : List Rp.Seat} (hd : Dist l) {m : Nat} {x : Rp.Seat} (hx : l[m]? = some x) {ss : Int} (h : x.session = ss) : sqF (l.take (m + 1)) ss = IntKind.i64.wrap (x.seq + 1) := by
  have e : l.take (m + 1) = l.take m ++ [x] := by rw [List.take_add_one, hx]; rfl
  have hn : Rp.findS (l.take m) ss = none := by
    refine findS_none fun y hy => ?_
    obtain ⟨j, hj⟩ := List.getElem?_of_mem hy
    rw [List.getElem?_take] at hj
    split at hj
    · rename_i q
      have : y.session ≠ ss := fun e => by have := hd j m y x hj hx (e.trans h.symm); omega
      simpa using this
    · cases hj
  have hs : Rp.findS (l.take (m + 1)) ss = some x := by
    unfold Rp.findS at hn ⊢
    rw [e, List.find?_append, hn]
    simp [h]
  unfold sqF
  rw [hs]
theorem sqF_no {l : List Rp.Seat} {m : Nat} {x : Rp.Seat} (hx : l[m]? = some x) {ss : Int} (h : ¬ x.session = ss) : sqF (l.take (m + 1)) ss = sqF (l.take m) ss := by
  have e : l.take (m + 1) = l.take m ++ [x] := by rw [List.take_add_one, hx]; rfl
  have : Rp.findS (l.take (m + 1)) ss = Rp.findS (l.take m) ss := by
    unfold Rp.findS
    rw [e, List.find?_append]
    simp [h]
  unfold sqF
  rw [this]
/-- a seat's number is some command's -/
theorem seats_le {M : Int} : ∀ (l : List CmT) (r : Rp.Repo ByteArray TbT), (∀ c ∈ l, c.seq ≤ M) → (∀ s ∈ r.seats, s.seq ≤ M) → ∀ s ∈ (goN r l).1.seats, s.seq ≤ M
  | [], r, _, h => h
  | c :: l, r, hc, h => by
    refine seats_le l (applyN r c).1 (fun d hd => hc d (List.mem_cons_of_mem _ hd)) ?_
    have hnew : ∀ s ∈ (Rp.doneR ltN tabW TbT.name r (cmdR c)).1.seats, s.seq ≤ M := fun s hs => by
      rcases Rp.pushed_mem (show s ∈ Rp.pushed (r.seats.filter _) _ 4 from hs) with q | q
      · exact h s (List.mem_filter.1 q).1
      · rw [q]; exact hc c List.mem_cons_self
    unfold applyN Rp.apply
    split
    · exact h
    · split
      · split
        · exact h
        · split
          · exact h
          · exact hnew
      · exact hnew
/-- the way back is done -/
theorem backN {r : Rp.Repo ByteArray TbT} {N : Int} (h : RG N r) {n : ByteArray} {v ss : Int} {t : TbT} (hf : Rp.find r n v = (some t, 0)) (hv : 1 ≤ v) (hs : 1 ≤ ss) (hq : 1 ≤ sqF r.seats ss) (hM : ∀ s ∈ r.seats, s.seq ≤ 9223372036854775807) :
    (applyN r ⟨ss, sqF r.seats ss, 2, zeroT, n, v⟩).2 = ⟨0, v⟩ ∧ Rp.find (applyN r ⟨ss, sqF r.seats ss, 2, zeroT, n, v⟩).1 n 0 = (some t, 0) := by
  have B := Rp.back h.inv (by omega) hf (cmdR ⟨ss, sqF r.seats ss, 2, zeroT, n, v⟩) ⟨rfl, rfl, rfl⟩
  have e : applyN r ⟨ss, sqF r.seats ss, 2, zeroT, n, v⟩ = Rp.doneR ltN tabW TbT.name r (cmdR ⟨ss, sqF r.seats ss, 2, zeroT, n, v⟩) := by
    unfold applyN Rp.apply
    rw [if_neg (by show ¬ (ss < 1 ∨ sqF r.seats ss < 1); omega)]
    show (match Rp.findS r.seats ss with | some s => _ | none => _) = _
    cases hfs : Rp.findS r.seats ss with
    | none => rfl
    | some s =>
      have hm := hM s (List.mem_of_find?_eq_some hfs)
      have hsq : sqF r.seats ss = IntKind.i64.wrap (s.seq + 1) := by unfold sqF; rw [hfs]
      have hlt : s.seq < sqF r.seats ss := by
        rw [hsq] at hq ⊢
        rw [IntKind.wrap_i64] at hq ⊢
        omega
      show (if sqF r.seats ss = s.seq then _ else if sqF r.seats ss < s.seq then _ else _) = _
      rw [if_neg (by omega), if_neg (by omega)]
  rw [e]
  exact B
end Go.Proofs.YtnegjbkbfgkkjaaGreatDoor

/- The law RepoBack. -/
namespace Go.Proofs.YtnegjbkbfgkkjaaGreatDoor
open Go.RowKit Go.MapKept

set_option maxRecDepth 100000 in
set_option maxHeartbeats 8000000 in
theorem back_walk (v : Value) (l : List CmT) (n : ByteArray) (vs ss : Int) (w : World) (hl : Ls w.heap.size w 10 (CmM w.heap.size w) l v) (hn : l.length * 16 ≤ 140737488355328) (hM : ∀ c ∈ l, c.seq ≤ 9223372036854775807) (hG : GdT w.heap.size w) :
    Calls Tryz.prog 5 #[v, .string n, .int .i64 vs, .int .i64 ss] w fun e w' => e = .returned (.bool true) ∧ Below w.heap.size w w' := by
  obtain ⟨la, lc, rfl, _⟩ := id hl.tell
  have AL := hide (alive_any w (Nat.le_refl _) hG)
  have RN := hide (fun (wx : World) (hx : Below w.heap.size w wx) => run_any (B := w.heap.size) l _ wx hx.size (hG.keep hx) (hl.below hx fun x cs => CmM.below hx) hn)
  have AP := hide (fun (sq : Int) (r : Rp.Repo ByteArray TbT) (cs : Array Value) (wx : World) (hx : Below w.heap.size w wx) (hr : RpM w.heap.size wx r cs) (hg : RG (l.length + 1 : Nat) r) => apply_any (B := w.heap.size) (N := ((l.length + 1 : Nat) : Int)) r cs ⟨ss, sq, 2, zeroT, n, vs⟩ _ wx hx.size (hG.keep hx) hr ⟨_, _, _, _, _, rfl, zeroT_mem _ _⟩ hg (by omega))
  have FD := hide (fun (vq : Int) (r : Rp.Repo ByteArray TbT) (cs : Array Value) (wx : World) (hx : Below w.heap.size w wx) (hr : RpM w.heap.size wx r cs) (hg : RG (l.length + 1 : Nat) r) => find_any (B := w.heap.size) r cs n vq wx hx.size hr hg.rise hg.inv.few)
  have ST := hide (fun (t : TbT) (u v : Array Value) (wx : World) (hx : Below w.heap.size w wx) (h1 : TbM w.heap.size wx t u) (h2 : TbM w.heap.size wx t v) => sameTable_any t u v wx hx.size h1 h2)
  have hg0 := runN_RG l
  have HG1 := hide (show RG ((l.length + 1 : Nat) : Int) (runN l).1 from ⟨hg0.inv, fun e he => by have := hg0.next e he; omega, by have := hg0.app; omega⟩)
  have HG2 := hide (fun (c : CmT) => show RG ((l.length + 1 : Nat) : Int) (applyN (runN l).1 c).1 from by have := applyN_RG (by omega) hg0 c; simpa using this)
  have HBK := hide (fun (t : TbT) (hf : Rp.find (runN l).1 n vs = (some t, 0)) (hv : 1 ≤ vs) (hs : 1 ≤ ss) (hq : 1 ≤ sqF (runN l).1.seats ss) => backN hg0 hf hv hs hq (seats_le l Rp.empty hM fun s h => by cases h))
  clear hl hG hg0 hM
  go_enter Tryz.func5, Tryz.ntmps5
  go_wp2_with fail
  refine (unhide AL).mono ?_
  rintro e w1 ⟨rfl, hb1⟩
  have HB1 := hide hb1
  clear hb1 AL
  go_wp2_with fail
  refine (unhide RN w1 (unhide HB1)).mono ?_
  rintro e w2 ⟨ev, tv, rv, rfl, hrw, _, hb2⟩
  obtain ⟨R, hR⟩ : ∃ R, R = (runN l).1 := ⟨_, rfl⟩
  rw [← hR] at hrw HG1 HG2 HBK ⊢
  obtain ⟨xa, xc, ya, yc, rfl, rfl⟩ := hrw.shape
  obtain ⟨w3, hw3⟩ : ∃ w3, w3 = w2.alloc (.cells #[.slice xa R.entries.length xc, .slice ya R.seats.length yc, .int .i64 R.applied] 27) := ⟨_, rfl⟩
  have b3 : Below w2.heap.size w2 w3 := by rw [hw3]; exact vbelow_new _ _
  have X3 : Blk w3 w2.heap.size 27 #[.slice xa R.entries.length xc, .slice ya R.seats.length yc, .int .i64 R.applied] := by rw [hw3]; exact Blk.new _ _ _
  have HB3 := hide (below_via (below_via (unhide HB1) hb2) b3)
  have hb03 := unhide HB3
  have hr3 := hrw.below b3 (below_via (unhide HB1) hb2).size
  have F1 := hide (unhide FD vs R _ w3 hb03 hr3.rpm (unhide HG1))
  obtain ⟨x0, x1, x2, _⟩ := X3.at3
  have HW3 := hide hw3
  have KX := hide (fun (wx : World) (hx : Below w3.heap.size w3 wx) => And.intro (X3.kept hx).at3 (hr3.below hx hb03.size).rpm)
  clear hw3 hrw hb2 X3 b3 hr3 hb03 hR
  go_upto_region 4 with fail
  rw [← unhide HW3]
  go_wp2_with fail
  refine (unhide F1).mono ?_
  rintro e w4 ⟨tcs, rfl, hT4, hb4⟩
  obtain ⟨ja, pa, qa, jc, pc, qc, rfl⟩ := hT4.open
  obtain ⟨w5, hw5⟩ : ∃ w5, w5 = w4.alloc (.cells #[.string (findT R n vs).name, .int .i64 (findT R n vs).pol, .slice ja (findT R n vs).ins.length jc, .slice pa (findT R n vs).outs.length pc, .slice qa (findT R n vs).rules.length qc] 34) := ⟨_, rfl⟩
  have b5 : Below w4.heap.size w4 w5 := by rw [hw5]; exact vbelow_new _ _
  have T5 : Blk w5 w4.heap.size 34 #[.string (findT R n vs).name, .int .i64 (findT R n vs).pol, .slice ja (findT R n vs).ins.length jc, .slice pa (findT R n vs).outs.length pc, .slice qa (findT R n vs).rules.length qc] := by rw [hw5]; exact Blk.new _ _ _
  have hb35 := below_via hb4 b5
  have HB5 := hide (below_via (unhide HB3) hb35)
  obtain ⟨⟨x0, x1, x2, _⟩, hr5⟩ := unhide KX w5 hb35
  have hTm := hT4.below (b5.mono (below_via (unhide HB3) hb4).size)
  have KT := hide (fun (wx : World) (hx : Below w5.heap.size w5 wx) => And.intro (T5.kept hx).at5 (And.intro (hTm.below (hx.mono (unhide HB5).size)) (unhide KX wx (below_via hb35 hx))))
  have HW5 := hide hw5
  have HS5 := hide hr5
  clear hw5 hT4 hb4 T5 b5 hb35 hr5 hTm F1
  go_upto_region 6 with fail
  rw [← unhide HW5]
  go_wp2_with fail
  have hsl : R.seats.length ≤ 4 := (unhide HG1).inv.seats
  go_loopw [13, 36] (fun sv i wr => ∃ m : Nat, m ≤ R.seats.length ∧ i = .int .i64 (m : Int) ∧ sv = .int .i64 (sqF (R.seats.take m) ss) ∧ Hid (Below w5.heap.size w5 wr)) (fun _ i _ => R.seats.length - (intOf i).toNat)
  case atStart => exact ⟨0, Nat.zero_le _, rfl, rfl, hide (Below.refl _ _)⟩
  case round =>
    obtain ⟨m, hm, rfl, rfl, HBr⟩ := hrel
    clear x0 x1 x2
    by_cases hlt : m < R.seats.length
    · have hi1 : (m : Int) < (R.seats.length : Int) := by omega
      have hi0 : (0 : Int) ≤ (m : Int) := by omega
      obtain ⟨x, hx⟩ : ∃ x, R.seats[m]? = some x := ⟨_, List.getElem?_eq_getElem hlt⟩
      obtain ⟨_, _, _, hrp⟩ := unhide KT wr (unhide HBr)
      obtain ⟨_, _, he, _, hss, _⟩ := hrp
      have hse := congrArg (fun a : Array Value => a[1]?) he
      simp at hse
      rw [← hse] at hss
      obtain ⟨b, off, cap', ev'⟩ := hss.begins (by intro e; rw [e] at hlt; simp at hlt)
      cases ev'
      have f := hss.seat hx
      have d0 := f 0 _ rfl
      have d1 := f 1 _ rfl
      have d2 := f 2 _ rfl
      have d3 := f 3 _ rfl
      rw [Nat.add_zero] at d0
      have hw : IntKind.i64.wrap ((m : Int) + 1) = ((m + 1 : Nat) : Int) := by rw [IntKind.wrap_i64]; omega
      have HD := hide (unhide HG1).dist
      have HX := hide hx
      obtain ⟨S0, hS0⟩ : ∃ S0, S0 = sqF (R.seats.take m) ss := ⟨_, rfl⟩
      rw [← hS0]
      have HS0 := hide hS0
      obtain ⟨sx, sq, sr⟩ := x
      obtain ⟨se, sn⟩ := sr
      simp only at d0 d1 d2 d3
      clear f hss hse he hx hS0
      by_cases hq : sx = ss
      · subst hq
        have gq : (sx == sx) = true := by simp
        obtain ⟨Q, hQ⟩ : ∃ Q, Q = IntKind.i64.wrap (sq + 1) := ⟨_, rfl⟩
        have hQ' := hQ.symm
        have HQ := hide hQ
        clear hQ
        go_wp2
        go_roundw
        case rel => exact ⟨m + 1, by omega, by first | rfl | go_num, by rw [sqF_yes (unhide HD) (unhide HX) rfl, ← unhide HQ], hide (below_via (unhide HBr) (vbelow_new _ _))⟩
        case measure => simp [intOf]; omega
      · have gq : (sx == ss) = false := by simpa using hq
        have HQ := hide hq
        go_wp2
        go_roundw
        case rel => exact ⟨m + 1, by omega, by first | rfl | go_num, by rw [sqF_no (unhide HX) (unhide HQ), ← unhide HS0], hide (below_via (unhide HBr) (vbelow_new _ _))⟩
        case measure => simp [intOf]; omega
    · obtain rfl : m = R.seats.length := by omega
      rw [List.take_length]
      obtain ⟨⟨t0, t1, t2, t3, t4, _⟩, hTr, ⟨x0, x1, x2, _⟩, hrr⟩ := unhide KT wr (unhide HBr)
      obtain ⟨SQ, hSQ⟩ : ∃ SQ, SQ = sqF R.seats ss := ⟨_, rfl⟩
      rw [← hSQ] at HBK ⊢
      have hb0r := below_via (unhide HB5) (unhide HBr)
      obtain ⟨E, hE⟩ : ∃ E, E = (Rp.find R n vs).2 := ⟨_, rfl⟩
      rw [← hE]
      have HE := hide hE
      have HSQ := hide hSQ
      clear hE hSQ
      by_cases hok : E = 0 ∧ 1 ≤ ss ∧ 1 ≤ SQ ∧ 1 ≤ vs
      · obtain ⟨rfl, k1, k2, k3⟩ := hok
        have i1 : ¬ ss < 1 := by omega
        have i2 : ¬ SQ < 1 := by omega
        have i3 : ¬ vs < 1 := by omega
        obtain ⟨t, hft⟩ : ∃ t, Rp.find R n vs = (some t, 0) := by
          have h := unhide HE
          rcases hq : Rp.findE R.entries n with _ | x
          · rw [find_none1 hq] at h; cases h
          · rcases hq2 : Rp.findV x.kept (if vs = 0 then x.now else vs) with _ | y
            · rw [find_none2 hq hq2] at h; cases h
            · exact ⟨_, find_some3 hq hq2⟩
        have hfT : findT R n vs = t := by unfold findT; rw [hft]; rfl
        obtain ⟨B1, B2⟩ := unhide HBK t hft k3 k1 k2
        have HFT := hide hfT
        obtain ⟨S, hS⟩ : ∃ S, S = applyN R ⟨ss, SQ, 2, zeroT, n, vs⟩ := ⟨_, rfl⟩
        have hg2 := unhide HG2 ⟨ss, SQ, 2, zeroT, n, vs⟩
        have A1 := unhide AP SQ R _ wr hb0r hrr (unhide HG1)
        unfold ApP at A1
        rw [← hS] at B1 B2 hg2 A1
        have A1' := hide A1
        have HB1' := hide B1
        have HB2' := hide B2
        have HG2' := hide hg2
        have HBW := hide hb0r
        clear hft hfT B1 B2 hg2 A1 hS k1 k2 k3 hrr hTr HBK hb0r
        go_wp2_with fail
        refine (unhide A1').mono ?_
        rintro e w6 ⟨ev6, tv6, rfl, hrw6, hb6⟩
        rw [unhide HB1']
        obtain ⟨xa6, xc6, ya6, yc6, rfl, rfl⟩ := hrw6.shape
        obtain ⟨w7, hw7⟩ : ∃ w7, w7 = (w6.alloc (.cells #[.slice xa6 S.1.entries.length xc6, .slice ya6 S.1.seats.length yc6, .int .i64 S.1.applied] 27)).alloc (.cells #[.int .i64 0, .int .i64 vs] 39) := ⟨_, rfl⟩
        have b7 : Below w6.heap.size w6 w7 := by rw [hw7]; exact below_via (vbelow_new _ _) (vbelow_new _ _)
        have X7 : Blk w7 w6.heap.size 27 #[.slice xa6 S.1.entries.length xc6, .slice ya6 S.1.seats.length yc6, .int .i64 S.1.applied] := by rw [hw7]; exact (Blk.new _ _ _).kept (vbelow_new _ _)
        have Y7 : Blk w7 (w6.heap.size + 1) 39 #[.int .i64 0, .int .i64 vs] := by rw [hw7]; exact Blk.new1 _ _ _ _
        have hbr7 := below_via hb6 b7
        have HB7 := hide (below_via (unhide HBW) hbr7)
        have hr7 := (hrw6.below b7 (below_via (unhide HBW) hb6).size).rpm
        have F2 := hide (unhide FD 0 S.1 _ w7 (unhide HB7) hr7 (unhide HG2'))
        obtain ⟨x0, x1, x2, _⟩ := X7.at3
        have KY := hide (fun (wx : World) (hx : Below w7.heap.size w7 wx) => And.intro (Y7.kept hx).at2 (unhide KT wx (below_via (unhide HBr) (below_via hbr7 hx))))
        have HW7 := hide hw7
        clear hw7 hrw6 hb6 b7 X7 Y7 hbr7 hr7
        go_upto_region 15 with fail
        rw [← unhide HW7]
        go_wp2_with fail
        refine (unhide F2).mono ?_
        rintro e w8 ⟨tcs8, rfl, hT8, hb8⟩
        have hft2 : findT S.1 n 0 = findT R n vs := by unfold findT; rw [unhide HB2']; have := unhide HFT; unfold findT at this; rw [this]; rfl
        rw [hft2] at hT8
        rw [unhide HB2']
        obtain ⟨ja8, pa8, qa8, jc8, pc8, qc8, rfl⟩ := hT8.open
        obtain ⟨w9, hw9⟩ : ∃ w9, w9 = w8.alloc (.cells #[.string (findT R n vs).name, .int .i64 (findT R n vs).pol, .slice ja8 (findT R n vs).ins.length jc8, .slice pa8 (findT R n vs).outs.length pc8, .slice qa8 (findT R n vs).rules.length qc8] 34) := ⟨_, rfl⟩
        have b9 : Below w8.heap.size w8 w9 := by rw [hw9]; exact vbelow_new _ _
        have T9 : Blk w9 w8.heap.size 34 #[.string (findT R n vs).name, .int .i64 (findT R n vs).pol, .slice ja8 (findT R n vs).ins.length jc8, .slice pa8 (findT R n vs).outs.length pc8, .slice qa8 (findT R n vs).rules.length qc8] := by rw [hw9]; exact Blk.new _ _ _
        have hb79 := below_via hb8 b9
        have HB9 := hide (below_via (unhide HB7) hb79)
        obtain ⟨⟨r0, r1, _⟩, ⟨t0, t1, t2, t3, t4, _⟩, hTm, _⟩ := unhide KY w9 hb79
        have S9 := hide (unhide ST (findT R n vs) _ _ w9 (unhide HB9) hTm (hT8.below (b9.mono (below_via (unhide HB7) hb8).size)))
        obtain ⟨y0, y1, y2, y3, y4, _⟩ := T9.at5
        have HW9 := hide hw9
        clear hw9 hT8 hb8 T9 b9 hb79 hTm F2 KY KT hft2
        go_upto_region 16 with fail
        rw [← unhide HW9]
        go_wp2_with fail
        refine (unhide S9).mono ?_
        rintro e w10 ⟨rfl, hb10⟩
        have HB10 := hide (below_via (unhide HB9) hb10)
        clear hb10
        go_wp2
        exact bodyPost_ret (v := .bool true) (by simp [results, Tryz.results5, go_sem]) rfl ⟨rfl, unhide HB10⟩
      · have hbad : E ≠ 0 ∨ (E = 0 ∧ ss < 1) ∨ (E = 0 ∧ ¬ ss < 1 ∧ SQ < 1) ∨ (E = 0 ∧ ¬ ss < 1 ∧ ¬ SQ < 1 ∧ vs < 1) := by omega
        have HBW := hide hb0r
        clear hok hb0r
        rcases hbad with h | ⟨rfl, h⟩ | ⟨rfl, h, h'⟩ | ⟨rfl, h, h', h''⟩
        · have gE : (E != 0) = true := by simp [h]
          go_wp2
          exact bodyPost_ret (v := .bool true) (by simp [results, Tryz.results5, go_sem]) rfl ⟨rfl, unhide HBW⟩
        all_goals
          go_wp2
          exact bodyPost_ret (v := .bool true) (by simp [results, Tryz.results5, go_sem]) rfl ⟨rfl, unhide HBW⟩
end Go.Proofs.YtnegjbkbfgkkjaaGreatDoor
