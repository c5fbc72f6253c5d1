/- Plain: what RepoKeeps asks of a right repo. -/
import Derived.Test.YtnegjbkbfgkkjaaGreatDoorG45
import Derived.BigRegion
import Derived.Deep.RegionHeld2
namespace Go.Proofs.YtnegjbkbfgkkjaaGreatDoor
open Go.RowKit Go.MapKept

theorem less_of_cmp : ∀ (a b : List UInt8), Lib.compareBytes a b < 0 → Op.bytesLess a b = true
  | [], [], h => by simp [Lib.compareBytes] at h
  | [], _ :: _, _ => rfl
  | _ :: _, [], h => by simp [Lib.compareBytes] at h
  | x :: a, y :: b, h => by
    unfold Lib.compareBytes at h
    unfold Op.bytesLess
    by_cases h1 : x < y
    · simp [h1]
    · rw [if_neg h1] at h
      by_cases h2 : y < x
      · rw [if_pos h2] at h; exact absurd h (by decide)
      · rw [if_neg h2] at h
        have := less_of_cmp a b h
        simp [u8_eq12 h1 h2, this]
theorem less_of_cmpN {a b : ByteArray} (h : cmpN a b < 0) : Op.bytesLess a.toList b.toList = true := by
  rw [ByteArray.toList_eq, ByteArray.toList_eq]
  exact less_of_cmp _ _ h
/-- is the version that counts among these? -/
def inV (l : List (Rp.Ver TbT)) (n : Int) : Bool := l.any fun v => v.number == n
theorem inV_step {l : List (Rp.Ver TbT)} {k : Nat} {v : Rp.Ver TbT} (h : l[k]? = some v) (n : Int) : inV (l.take (k + 1)) n = (inV (l.take k) n || v.number == n) := by
  have e : l.take (k + 1) = l.take k ++ [v] := by rw [List.take_add_one, h]; rfl
  unfold inV
  rw [e, List.any_append]
  simp
theorem inV_all {e : Rp.Ent ByteArray TbT} (h : Rp.EInv tabW TbT.name e) : inV e.kept e.now = true := by
  obtain ⟨v, hv, e⟩ := h.now
  unfold inV
  rw [List.any_eq_true]
  exact ⟨v, hv, by simpa using e⟩
end Go.Proofs.YtnegjbkbfgkkjaaGreatDoor

/- The law RepoKeeps. -/
namespace Go.Proofs.YtnegjbkbfgkkjaaGreatDoor
open Go.RowKit Go.MapKept

theorem Blk.at6 {w : World} {b : Nat} {T : TypeId} {v0 v1 v2 v3 v4 v5 : Value} (h : Blk w b T #[v0, v1, v2, v3, v4, v5]) : w.cell? ⟨b, 0, none⟩ = some v0 ∧ w.cell? ⟨b, 1, none⟩ = some v1 ∧ w.cell? ⟨b, 2, none⟩ = some v2 ∧ w.cell? ⟨b, 3, none⟩ = some v3 ∧ w.cell? ⟨b, 4, none⟩ = some v4 ∧ w.cell? ⟨b, 5, none⟩ = some v5 :=
  ⟨h.at 0 _ rfl, h.at 1 _ rfl, h.at 2 _ rfl, h.at 3 _ rfl, h.at 4 _ rfl, h.at 5 _ rfl⟩

set_option maxRecDepth 100000 in
set_option maxHeartbeats 8000000 in
theorem keeps_walk (v : Value) (l : List CmT) (w : World) (hl : Ls w.heap.size w 10 (CmM w.heap.size w) l v) (hn : l.length * 16 ≤ 140737488355328) (hG : GdT w.heap.size w) :
    Calls Tryz.prog 6 #[v] w fun e w' => e = .returned (.bool true) ∧ Below w.heap.size w w' := by
  obtain ⟨la, lc, rfl, _⟩ := id hl.tell
  have AL := hide (alive_any w (Nat.le_refl _) hG)
  have RN := hide (fun (wx : World) (hx : Below w.heap.size w wx) => run_any (B := w.heap.size) l _ wx hx.size (hG.keep hx) (hl.below hx fun x cs => CmM.below hx) hn)
  have TW := hide (fun (t : TbT) (tc : Array Value) (wx : World) (hx : Below w.heap.size w wx) (ht : TbM w.heap.size wx t tc) => tableWrong_any (B := w.heap.size) t tc wx hx.size (hG.keep hx) ht)
  have HG1 := hide (runN_RG l)
  clear hl hG
  go_enter Tryz.func6, Tryz.ntmps6
  go_wp2_with fail
  refine (unhide AL).mono ?_
  rintro e w1 ⟨rfl, hb1⟩
  have HB1 := hide hb1
  clear hb1 AL
  go_wp2_with fail
  refine (unhide RN w1 (unhide HB1)).mono ?_
  rintro e w2 ⟨ev, tv, rv, rfl, hrw, hown, hb2⟩
  obtain ⟨R, hR⟩ : ∃ R, R = (runN l).1 := ⟨_, rfl⟩
  rw [← hR] at hrw HG1 ⊢
  obtain ⟨xa, xc, ya, yc, rfl, rfl⟩ := hrw.shape
  obtain ⟨sa, sc, hsv⟩ := own_slice12 hown
  subst hsv
  obtain ⟨w3, hw3⟩ : ∃ w3, w3 = w2.alloc (.cells #[.slice xa R.entries.length xc, .slice ya R.seats.length yc, .int .i64 R.applied] 27) := ⟨_, rfl⟩
  have b3 : Below w2.heap.size w2 w3 := by rw [hw3]; exact vbelow_new _ _
  have X3 : Blk w3 w2.heap.size 27 #[.slice xa R.entries.length xc, .slice ya R.seats.length yc, .int .i64 R.applied] := by rw [hw3]; exact Blk.new _ _ _
  have HB3 := hide (below_via (below_via (unhide HB1) hb2) b3)
  have hr3 := hrw.below b3 (below_via (unhide HB1) hb2).size
  obtain ⟨x0, x1, x2, _⟩ := X3.at3
  have HW3 := hide hw3
  have KX := hide (fun (wx : World) (hx : Below w3.heap.size w3 wx) => And.intro (X3.kept hx).at3 (hr3.below hx (unhide HB3).size).rpm)
  have gl : ((l.length : Int) != (l.length : Int)) = false := by simp
  have g6 : ¬ (6 : Int) < (R.entries.length : Int) := by have := (unhide HG1).inv.few; omega
  have g4 : ¬ (4 : Int) < (R.seats.length : Int) := by have := (unhide HG1).inv.seats; omega
  have ga : ¬ (l.length : Int) < R.applied := by have := (unhide HG1).app; omega
  clear hw3 hrw hown hb2 b3 X3 hr3 hR
  go_upto_region 4 with fail
  rw [← unhide HW3]
  go_wp2_with fail
  clear x0 x1 x2
  have he6 : R.entries.length ≤ 6 := (unhide HG1).inv.few
  go_loopw [47] (fun i wr => ∃ m : Nat, m ≤ R.entries.length ∧ i = .int .i64 (m : Int) ∧ Hid (Below w3.heap.size w3 wr)) (fun i _ => R.entries.length - (intOf i).toNat)
  case atStart => exact ⟨0, Nat.zero_le _, rfl, hide (Below.refl _ _)⟩
  case round =>
    obtain ⟨m, hm, rfl, HBr⟩ := hrel
    obtain ⟨⟨x0, x1, x2, _⟩, hrp⟩ := unhide KX wr (unhide HBr)
    by_cases hlt : m < R.entries.length
    · have hi1 : (m : Int) < (R.entries.length : Int) := by omega
      have hi0 : (0 : Int) ≤ (m : Int) := by omega
      obtain ⟨x, hx⟩ : ∃ x, R.entries[m]? = some x := ⟨_, List.getElem?_eq_getElem hlt⟩
      obtain ⟨_, _, he, hls, _⟩ := hrp
      have hee := congrArg (fun a : Array Value => a[0]?) he
      simp at hee
      rw [← hee] at hls
      obtain ⟨b, off, cap', ev⟩ := hls.1.begins (by intro e; rw [e] at hlt; simp at hlt)
      cases ev
      obtain ⟨_, cs, _, ⟨kv, rfl, hkl, _⟩, f⟩ := hls.1.at2 hx
      obtain ⟨ka, kc, ekv, _⟩ := id hkl.tell
      subst ekv
      have d0 := f 0 _ rfl
      have d1 := f 1 _ rfl
      have d2 := f 2 _ rfl
      have d3 := f 3 _ rfl
      rw [Nat.add_zero] at d0
      have HEI := hide ((unhide HG1).inv.ent x (List.mem_of_getElem? hx))
      have gk1 : ¬ (x.kept.length : Int) < 1 := by have := (unhide HEI).any1; omega
      have gk3 : ¬ (3 : Int) < (x.kept.length : Int) := by have := (unhide HEI).few; omega
      have hw : IntKind.i64.wrap ((m : Int) + 1) = ((m + 1 : Nat) : Int) := by rw [IntKind.wrap_i64]; omega
      obtain ⟨w4, hw4⟩ : ∃ w4, w4 = wr.alloc (.cells #[.string x.name, .int .i64 x.next, .int .i64 x.now, .slice ka x.kept.length kc] 54) := ⟨_, rfl⟩
      have b4 : Below wr.heap.size wr w4 := by rw [hw4]; exact vbelow_new _ _
      obtain ⟨EB, hEB⟩ : ∃ EB, EB = wr.heap.size := ⟨_, rfl⟩
      have E4 : Blk w4 EB 54 #[.string x.name, .int .i64 x.next, .int .i64 x.now, .slice ka x.kept.length kc] := by rw [hw4, hEB]; exact Blk.new _ _ _
      have hbl : b < wr.heap.size := World.block_lt_of_cell? wr _ d0
      have HB4 := hide (below_via (unhide HBr) b4)
      have hwr : w.heap.size ≤ wr.heap.size := (below_via (unhide HB3) (unhide HBr)).size
      have HWW := hide (Nat.le_trans hwr b4.size)
      have KE := hide (fun (wx : World) (hx : Below w4.heap.size w4 wx) => And.intro (E4.kept hx).at4 (hkl.below (b4.trans (hx.mono b4.size)) fun y cs => VeM.below ((b4.trans (hx.mono b4.size)).mono hwr)))
      obtain ⟨⟨q0, q1, q2, _⟩, _⟩ := unhide KX w4 (unhide HB4)
      obtain ⟨⟨e0, e1, e2, e3, _⟩, _⟩ := unhide KE w4 (Below.refl _ _)
      have HX := hide hx
      have PRV := hide (fun (p : Nat) (hp : p + 1 = m) => show ∃ y : Rp.Ent ByteArray TbT, w4.cell? ⟨b, off + p * 4, none⟩ = some (.string y.name) ∧ Op.bytesLess y.name.toList x.name.toList = true by
        obtain ⟨y, hy⟩ : ∃ y, R.entries[p]? = some y := ⟨_, List.getElem?_eq_getElem (by omega)⟩
        obtain ⟨_, cs, _, ⟨kv, rfl, _⟩, f⟩ := hls.1.at2 hy
        have d0 := f 0 _ rfl
        rw [Nat.add_zero] at d0
        exact ⟨y, (b4.cell (p := ⟨b, off + p * 4, none⟩) hbl).trans d0, less_of_cmpN ((unhide HG1).rise.at (by omega) hy hx)⟩)
      have HEB := hide hEB
      clear hls hkl f E4 b4 hx hee he hwr hbl hEB
      go_upto_region 9 with fail
      rw [← hw4, ← unhide HEB]
      clear hw4 d0 d1 d2 d3 x0 x1 x2
      go_cut [47, 77] from 47 to 141 (fun i c wc => i = .int .i64 (m : Int) ∧ c = .bool false ∧ Hid (Below w4.heap.size w4 wc))
      case first =>
        by_cases hm0 : m = 0
        · subst hm0
          go_quiet (fail)
          go_wp2
          go_meet
          case rel => exact ⟨rfl, rfl, hide (below_drewN' (Below.refl _ _) _)⟩
        · obtain ⟨p, hp⟩ : ∃ p, p + 1 = m := ⟨m - 1, by omega⟩
          obtain ⟨y, dy, gy⟩ := unhide PRV p hp
          have hwp : IntKind.i64.wrap ((m : Int) - 1) = (p : Int) := by rw [IntKind.wrap_i64]; omega
          have hp1 : (p : Int) < (R.entries.length : Int) := by omega
          have hp0 : (0 : Int) ≤ (p : Int) := by omega
          have gm : (0 : Int) < (m : Int) := by omega
          have gm1 : decide ((0 : Int) < (m : Int)) = true := decide_eq_true gm
          have gm2 : decide (0 < m) = true := decide_eq_true (by omega)
          have gm3 : 0 < m := by omega
          clear hp
          go_quiet (fail)
          go_wp2
          go_meet
          case rel => exact ⟨rfl, rfl, hide (below_drewN' (Below.refl _ _) _)⟩
      case rest =>
        obtain ⟨rfl, rfl, HBc⟩ := hcut
        obtain ⟨⟨q0, q1, q2, _⟩, _⟩ := unhide KX wc (below_via (unhide HB4) (unhide HBc))
        obtain ⟨⟨e0, e1, e2, e3, _⟩, _⟩ := unhide KE wc (unhide HBc)
        go_wp2_with fail
        clear e0 e1 e2 e3 q0 q1 q2
        go_loopw [7, 81] (fun sv i wr => ∃ k : Nat, k ≤ x.kept.length ∧ i = .int .i64 (k : Int) ∧ sv = .bool (inV (x.kept.take k) x.now) ∧ Hid (Below w4.heap.size w4 wr)) (fun _ i _ => x.kept.length - (intOf i).toNat)
        case atStart => exact ⟨0, Nat.zero_le _, rfl, rfl, HBc⟩
        case round =>
          obtain ⟨k, hk, rfl, rfl, HBk⟩ := hrel
          obtain ⟨⟨e0, e1, e2, e3, _⟩, hkl⟩ := unhide KE wr (unhide HBk)
          obtain ⟨Bq, hBq⟩ : ∃ Bq, Bq = inV (x.kept.take k) x.now := ⟨_, rfl⟩
          rw [← hBq]
          have HBq := hide hBq
          clear hBq
          have hww : w.heap.size ≤ wr.heap.size := Nat.le_trans (unhide HWW) (unhide HBk).size
          by_cases hlk : k < x.kept.length
          · have hk1 : (k : Int) < (x.kept.length : Int) := by omega
            have hk0 : (0 : Int) ≤ (k : Int) := by omega
            obtain ⟨y, hy⟩ : ∃ y, x.kept[k]? = some y := ⟨_, List.getElem?_eq_getElem hlk⟩
            have HY := hide hy
            obtain ⟨kb, koff, kcap', ekb⟩ := hkl.begins (by intro e; rw [e] at hlk; simp at hlk)
            cases ekb
            obtain ⟨_, cs, _, ⟨u0, u1, u2, u3, u4, rfl, htm⟩, f⟩ := hkl.at2 hy
            have htab := (unhide HEI).tab y (List.mem_of_getElem? hy)
            have hnum := (unhide HEI).num k y hy
            obtain ⟨ia, oa, ra, ic, oc, rc, e⟩ := htm.open
            simp at e
            obtain ⟨rfl, rfl, rfl, rfl, rfl⟩ := e
            obtain ⟨w5, hw5⟩ : ∃ w5, w5 = wr.alloc (.cells #[.int .i64 y.number, .string y.table.name, .int .i64 y.table.pol, .slice ia y.table.ins.length ic, .slice oa y.table.outs.length oc, .slice ra y.table.rules.length rc] 56) := ⟨_, rfl⟩
            have b5 : Below wr.heap.size wr w5 := by rw [hw5]; exact vbelow_new _ _
            have V5' : Blk w5 wr.heap.size 56 #[.int .i64 y.number, .string y.table.name, .int .i64 y.table.pol, .slice ia y.table.ins.length ic, .slice oa y.table.outs.length oc, .slice ra y.table.rules.length rc] := by rw [hw5]; exact Blk.new _ _ _
            have TWy := hide (fun (wx : World) (hx : Below w5.heap.size w5 wx) => unhide TW y.table _ wx (below_via (below_via (below_via (unhide HB3) (unhide HB4)) (unhide HBk)) (below_via b5 hx)) (htm.below ((b5.trans (hx.mono b5.size)).mono hww)))
            have HB5 := hide b5
            have hkbl : kb < wr.heap.size := World.block_lt_of_cell? wr _ (f 1 _ rfl)
            have PZ := hide (fun (p : Nat) (hp : p + 1 = k) => show ∃ zn : Int, IntKind.i64.wrap (zn + 1) = y.number ∧ Hid (∀ wx : World, Below w5.heap.size w5 wx → wx.cell? ⟨kb, koff + p * 6, none⟩ = some (.int .i64 zn)) by
              obtain ⟨z, hz⟩ : ∃ z, x.kept[p]? = some z := ⟨_, List.getElem?_eq_getElem (by omega)⟩
              obtain ⟨_, cs, _, ⟨u0, u1, u2, u3, u4, rfl, _⟩, f⟩ := hkl.at2 hz
              have hnz := (unhide HEI).num p z hz
              have hpos := (unhide HEI).pos
              have hnx := (unhide HG1).next x (List.mem_of_getElem? (unhide HX))
              have d0 := f 0 _ rfl
              rw [Nat.add_zero] at d0
              exact ⟨z.number, by rw [IntKind.wrap_i64]; omega, hide fun wx hx => ((b5.trans (hx.mono b5.size)).cell (p := ⟨kb, koff + p * 6, none⟩) hkbl).trans d0⟩)
            obtain ⟨yn, yt⟩ := y
            simp only at htab hnum TWy V5' hw5 PZ
            have s0 := f 0 _ rfl
            have s1 := f 1 _ rfl
            have s2 := f 2 _ rfl
            have s3 := f 3 _ rfl
            have s4 := f 4 _ rfl
            have s5 := f 5 _ rfl
            rw [Nat.add_zero] at s0
            simp only at s0 s1 s2 s3 s4 s5
            rw [htab.2] at TWy
            rw [htab.1] at TWy V5' hw5 s1
            have gyn : (yn != yn) = false := by simp
            have KV := hide (fun (wx : World) (hx : Below w5.heap.size w5 wx) => (show Blk wx wr.heap.size 56 #[.int .i64 yn, .string x.name, .int .i64 yt.pol, .slice ia yt.ins.length ic, .slice oa yt.outs.length oc, .slice ra yt.rules.length rc] from V5'.kept hx).at6)
            have KF := hide (fun (wx : World) (hx : Below w5.heap.size w5 wx) => (unhide KE wx (below_via (unhide HBk) (below_via (unhide HB5) hx))).1)
            obtain ⟨v0, v1, v2, v3, v4, v5⟩ := (unhide KV) w5 (Below.refl _ _)
            obtain ⟨f0, f1, f2, f3, _⟩ := unhide KF w5 (Below.refl _ _)
            have hb := Below.refl w5.heap.size w5
            clear hkl htm hy htab hnum f b5 V5' hkbl hww
            go_upto_region 15 with fail
            rw [← hw5]
            clear hw5 s0 s1 s2 s3 s4 s5 e0 e1 e2 e3
            go_cut [81, 114] from 81 to 123 (fun i c wc => i = .int .i64 (k : Int) ∧ c = .bool false ∧ Hid (Below w5.heap.size w5 wc))
            case first =>
              by_cases hk00 : k = 0
              · subst hk00
                refine wp_region_held_drew (S := (fun w' => (w'.cell? ⟨wr.heap.size, 0, none⟩ = some (.int .i64 yn) ∧ w'.cell? ⟨wr.heap.size, 1, none⟩ = some (.string x.name) ∧ w'.cell? ⟨wr.heap.size, 2, none⟩ = some (.int .i64 yt.pol) ∧ w'.cell? ⟨wr.heap.size, 3, none⟩ = some (.slice ia yt.ins.length ic) ∧ w'.cell? ⟨wr.heap.size, 4, none⟩ = some (.slice oa yt.outs.length oc) ∧ w'.cell? ⟨wr.heap.size, 5, none⟩ = some (.slice ra yt.rules.length rc)) ∧ w'.cell? ⟨EB, 0, none⟩ = some (.string x.name))) (by kernel_rfl) ?_ (fun hHeld => ?_)
                · (try dsimp only); exact ⟨unhide KV _ (by repeat (first | assumption | with_reducible exact Below.refl _ _ | with_reducible apply Below.drew)), (unhide KF _ (by repeat (first | assumption | with_reducible exact Below.refl _ _ | with_reducible apply Below.drew))).1⟩
                refine wpAnyH_take (i := 0) (oi := { dst := some 86, op := Op.move (Operand.tmp 8), type := 3, pos := "law.go:112", after := #[], guard := none }) (v := ?_) rfl (by kernel_rfl) (by kernel_rfl) (by kernel_rfl) (fun _ _ _ h => h) (Or.inl ⟨by rfl, ?_⟩) (by assumption) ?_
                rotate_left
                · intro w hSw; (try dsimp only at hSw); go_simp; try with_reducible rfl
                skip
                try simp only [Act.put, List.setIfInBounds_toArray, List.set_cons_zero, List.set_cons_succ]
                refine wpAnyH_take (i := 1) (oi := { dst := some 87, op := Op.binOp BinOp.gtr 3 (Operand.tmp 86) (Operand.const (Value.int IntKind.i64 0)) 3, type := 4, pos := "law.go:112", after := #[{ on := 0, ground := Ground.data }], guard := none }) (v := ?_) rfl (by kernel_rfl) (by kernel_rfl) (by kernel_rfl) (fun _ _ _ h => h) (Or.inl ⟨by rfl, ?_⟩) (by assumption) ?_
                rotate_left
                · intro w hSw; (try dsimp only at hSw); go_simp; try with_reducible rfl
                skip
                try simp only [Act.put, List.setIfInBounds_toArray, List.set_cons_zero, List.set_cons_succ]
                refine wpAnyH_take (i := 2) (oi := { dst := some 88, op := Op.move (Operand.tmp 87), type := 4, pos := "law.go:112", after := #[{ on := 1, ground := Ground.data }], guard := none }) (v := ?_) rfl (by kernel_rfl) (by kernel_rfl) (by kernel_rfl) (fun _ _ _ h => h) (Or.inl ⟨by rfl, ?_⟩) (by assumption) ?_
                rotate_left
                · intro w hSw; (try dsimp only at hSw); go_simp; try with_reducible rfl
                skip
                try simp only [Act.put, List.setIfInBounds_toArray, List.set_cons_zero, List.set_cons_succ]
                refine wpAnyH_take (i := 3) (oi := { dst := some 89, op := Op.fieldAddr 56 (Operand.tmp 9) 0, type := 0, pos := "law.go:112", after := #[{ on := 2, ground := Ground.guard }], guard := some (2, true) }) (v := undef) rfl (by kernel_rfl) (by kernel_rfl) (by kernel_rfl) (fun _ _ _ h => h) (Or.inr ⟨by rfl, rfl⟩) (by assumption) ?_
                try simp only [Act.put, List.setIfInBounds_toArray, List.set_cons_zero, List.set_cons_succ]
                refine wpAnyH_take (i := 4) (oi := { dst := some 90, op := Op.load 3 (Operand.tmp 89), type := 3, pos := "law.go:112", after := #[{ on := 3, ground := Ground.data }, { on := 2, ground := Ground.guard }], guard := some (2, true) }) (v := undef) rfl (by kernel_rfl) (by kernel_rfl) (by kernel_rfl) (fun _ _ _ h => h) (Or.inr ⟨by rfl, rfl⟩) (by assumption) ?_
                try simp only [Act.put, List.setIfInBounds_toArray, List.set_cons_zero, List.set_cons_succ]
                refine wpAnyH_take (i := 5) (oi := { dst := some 91, op := Op.fieldAddr 54 (Operand.tmp 6) 3, type := 0, pos := "law.go:112", after := #[{ on := 2, ground := Ground.guard }], guard := some (2, true) }) (v := undef) rfl (by kernel_rfl) (by kernel_rfl) (by kernel_rfl) (fun _ _ _ h => h) (Or.inr ⟨by rfl, rfl⟩) (by assumption) ?_
                try simp only [Act.put, List.setIfInBounds_toArray, List.set_cons_zero, List.set_cons_succ]
                refine wpAnyH_take (i := 6) (oi := { dst := some 92, op := Op.load 52 (Operand.tmp 91), type := 52, pos := "law.go:112", after := #[{ on := 5, ground := Ground.data }, { on := 2, ground := Ground.guard }], guard := some (2, true) }) (v := undef) rfl (by kernel_rfl) (by kernel_rfl) (by kernel_rfl) (fun _ _ _ h => h) (Or.inr ⟨by rfl, rfl⟩) (by assumption) ?_
                try simp only [Act.put, List.setIfInBounds_toArray, List.set_cons_zero, List.set_cons_succ]
                refine wpAnyH_take (i := 7) (oi := { dst := some 93, op := Op.move (Operand.tmp 8), type := 3, pos := "law.go:112", after := #[{ on := 2, ground := Ground.guard }], guard := some (2, true) }) (v := undef) rfl (by kernel_rfl) (by kernel_rfl) (by kernel_rfl) (fun _ _ _ h => h) (Or.inr ⟨by rfl, rfl⟩) (by assumption) ?_
                try simp only [Act.put, List.setIfInBounds_toArray, List.set_cons_zero, List.set_cons_succ]
                refine wpAnyH_take (i := 8) (oi := { dst := some 94, op := Op.binOp BinOp.sub 3 (Operand.tmp 93) (Operand.const (Value.int IntKind.i64 1)) 3, type := 3, pos := "law.go:112", after := #[{ on := 7, ground := Ground.data }, { on := 2, ground := Ground.guard }], guard := some (2, true) }) (v := undef) rfl (by kernel_rfl) (by kernel_rfl) (by kernel_rfl) (fun _ _ _ h => h) (Or.inr ⟨by rfl, rfl⟩) (by assumption) ?_
                try simp only [Act.put, List.setIfInBounds_toArray, List.set_cons_zero, List.set_cons_succ]
                refine wpAnyH_take (i := 9) (oi := { dst := some 95, op := Op.indexAddr 52 (Operand.tmp 92) (Operand.tmp 94), type := 0, pos := "law.go:112", after := #[{ on := 6, ground := Ground.data }, { on := 8, ground := Ground.data }, { on := 2, ground := Ground.guard }], guard := some (2, true) }) (v := undef) rfl (by kernel_rfl) (by kernel_rfl) (by kernel_rfl) (fun _ _ _ h => h) (Or.inr ⟨by rfl, rfl⟩) (by assumption) ?_
                try simp only [Act.put, List.setIfInBounds_toArray, List.set_cons_zero, List.set_cons_succ]
                refine wpAnyH_take (i := 10) (oi := { dst := some 96, op := Op.fieldAddr 56 (Operand.tmp 95) 0, type := 0, pos := "law.go:112", after := #[{ on := 9, ground := Ground.data }, { on := 2, ground := Ground.guard }], guard := some (2, true) }) (v := undef) rfl (by kernel_rfl) (by kernel_rfl) (by kernel_rfl) (fun _ _ _ h => h) (Or.inr ⟨by rfl, rfl⟩) (by assumption) ?_
                try simp only [Act.put, List.setIfInBounds_toArray, List.set_cons_zero, List.set_cons_succ]
                refine wpAnyH_take (i := 11) (oi := { dst := some 97, op := Op.load 3 (Operand.tmp 96), type := 3, pos := "law.go:112", after := #[{ on := 10, ground := Ground.data }, { on := 2, ground := Ground.guard }], guard := some (2, true) }) (v := undef) rfl (by kernel_rfl) (by kernel_rfl) (by kernel_rfl) (fun _ _ _ h => h) (Or.inr ⟨by rfl, rfl⟩) (by assumption) ?_
                try simp only [Act.put, List.setIfInBounds_toArray, List.set_cons_zero, List.set_cons_succ]
                refine wpAnyH_take (i := 12) (oi := { dst := some 98, op := Op.binOp BinOp.add 3 (Operand.tmp 97) (Operand.const (Value.int IntKind.i64 1)) 3, type := 3, pos := "law.go:112", after := #[{ on := 11, ground := Ground.data }, { on := 2, ground := Ground.guard }], guard := some (2, true) }) (v := undef) rfl (by kernel_rfl) (by kernel_rfl) (by kernel_rfl) (fun _ _ _ h => h) (Or.inr ⟨by rfl, rfl⟩) (by assumption) ?_
                try simp only [Act.put, List.setIfInBounds_toArray, List.set_cons_zero, List.set_cons_succ]
                refine wpAnyH_take (i := 13) (oi := { dst := some 99, op := Op.binOp BinOp.neq 3 (Operand.tmp 90) (Operand.tmp 98) 3, type := 4, pos := "law.go:112", after := #[{ on := 4, ground := Ground.data }, { on := 12, ground := Ground.data }, { on := 2, ground := Ground.guard }], guard := some (2, true) }) (v := undef) rfl (by kernel_rfl) (by kernel_rfl) (by kernel_rfl) (fun _ _ _ h => h) (Or.inr ⟨by rfl, rfl⟩) (by assumption) ?_
                try simp only [Act.put, List.setIfInBounds_toArray, List.set_cons_zero, List.set_cons_succ]
                refine wpAnyH_take (i := 14) (oi := { dst := some 100, op := Op.pick (Operand.tmp 88) (Operand.tmp 99) (Operand.const (Value.bool false)), type := 4, pos := "law.go:112", after := #[{ on := 2, ground := Ground.data }, { on := 13, ground := Ground.data }], guard := none }) (v := ?_) rfl (by kernel_rfl) (by kernel_rfl) (by kernel_rfl) (fun _ _ _ h => h) (Or.inl ⟨by rfl, ?_⟩) (by assumption) ?_
                rotate_left
                · intro w hSw; (try dsimp only at hSw); go_simp; try with_reducible rfl
                skip
                try simp only [Act.put, List.setIfInBounds_toArray, List.set_cons_zero, List.set_cons_succ]
                refine wpAnyH_take (i := 15) (oi := { dst := some 101, op := Op.move (Operand.tmp 100), type := 4, pos := "law.go:112", after := #[{ on := 14, ground := Ground.data }, { on := 2, ground := Ground.chain }], guard := none }) (v := ?_) rfl (by kernel_rfl) (by kernel_rfl) (by kernel_rfl) (fun _ _ _ h => h) (Or.inl ⟨by rfl, ?_⟩) (by assumption) ?_
                rotate_left
                · intro w hSw; (try dsimp only at hSw); go_simp; try with_reducible rfl
                skip
                try simp only [Act.put, List.setIfInBounds_toArray, List.set_cons_zero, List.set_cons_succ]
                refine wpAnyH_take (i := 16) (oi := { dst := some 102, op := Op.fieldAddr 56 (Operand.tmp 9) 1, type := 0, pos := "law.go:112", after := #[{ on := 15, ground := Ground.guard }], guard := some (15, false) }) (v := ?_) rfl (by kernel_rfl) (by kernel_rfl) (by kernel_rfl) (fun _ _ _ h => h) (Or.inl ⟨by rfl, ?_⟩) (by assumption) ?_
                rotate_left
                · intro w hSw; (try dsimp only at hSw); go_simp; try with_reducible rfl
                skip
                try simp only [Act.put, List.setIfInBounds_toArray, List.set_cons_zero, List.set_cons_succ]
                refine wpAnyH_take (i := 17) (oi := { dst := some 103, op := Op.fieldAddr 34 (Operand.tmp 102) 0, type := 0, pos := "law.go:112", after := #[{ on := 16, ground := Ground.data }, { on := 15, ground := Ground.guard }], guard := some (15, false) }) (v := ?_) rfl (by kernel_rfl) (by kernel_rfl) (by kernel_rfl) (fun _ _ _ h => h) (Or.inl ⟨by rfl, ?_⟩) (by assumption) ?_
                rotate_left
                · intro w hSw; (try dsimp only at hSw); go_simp; try with_reducible rfl
                skip
                try simp only [Act.put, List.setIfInBounds_toArray, List.set_cons_zero, List.set_cons_succ]
                refine wpAnyH_take (i := 18) (oi := { dst := some 104, op := Op.load 9 (Operand.tmp 103), type := 9, pos := "law.go:112", after := #[{ on := 17, ground := Ground.data }, { on := 15, ground := Ground.guard }], guard := some (15, false) }) (v := ?_) rfl (by kernel_rfl) (by kernel_rfl) (by kernel_rfl) (fun _ _ _ h => h) (Or.inl ⟨by rfl, ?_⟩) (by assumption) ?_
                rotate_left
                · intro w hSw; (try dsimp only at hSw); go_simp; try with_reducible rfl
                skip
                try simp only [Act.put, List.setIfInBounds_toArray, List.set_cons_zero, List.set_cons_succ]
                refine wpAnyH_take (i := 19) (oi := { dst := some 105, op := Op.fieldAddr 54 (Operand.tmp 6) 0, type := 0, pos := "law.go:112", after := #[{ on := 15, ground := Ground.guard }], guard := some (15, false) }) (v := ?_) rfl (by kernel_rfl) (by kernel_rfl) (by kernel_rfl) (fun _ _ _ h => h) (Or.inl ⟨by rfl, ?_⟩) (by assumption) ?_
                rotate_left
                · intro w hSw; (try dsimp only at hSw); go_simp; try with_reducible rfl
                skip
                try simp only [Act.put, List.setIfInBounds_toArray, List.set_cons_zero, List.set_cons_succ]
                refine wpAnyH_take (i := 20) (oi := { dst := some 106, op := Op.load 9 (Operand.tmp 105), type := 9, pos := "law.go:112", after := #[{ on := 19, ground := Ground.data }, { on := 15, ground := Ground.guard }], guard := some (15, false) }) (v := ?_) rfl (by kernel_rfl) (by kernel_rfl) (by kernel_rfl) (fun _ _ _ h => h) (Or.inl ⟨by rfl, ?_⟩) (by assumption) ?_
                rotate_left
                · intro w hSw; (try dsimp only at hSw); go_simp; try with_reducible rfl
                skip
                try simp only [Act.put, List.setIfInBounds_toArray, List.set_cons_zero, List.set_cons_succ]
                refine wpAnyH_take (i := 21) (oi := { dst := some 107, op := Op.binOp BinOp.neq 9 (Operand.tmp 104) (Operand.tmp 106) 9, type := 4, pos := "law.go:112", after := #[{ on := 18, ground := Ground.data }, { on := 20, ground := Ground.data }, { on := 15, ground := Ground.guard }], guard := some (15, false) }) (v := ?_) rfl (by kernel_rfl) (by kernel_rfl) (by kernel_rfl) (fun _ _ _ h => h) (Or.inl ⟨by rfl, ?_⟩) (by assumption) ?_
                rotate_left
                · intro w hSw; (try dsimp only at hSw); go_simp; try with_reducible rfl
                skip
                try simp only [Act.put, List.setIfInBounds_toArray, List.set_cons_zero, List.set_cons_succ]
                refine wpAnyH_take (i := 22) (oi := { dst := some 108, op := Op.pick (Operand.tmp 101) (Operand.const (Value.bool true)) (Operand.tmp 107), type := 4, pos := "law.go:112", after := #[{ on := 15, ground := Ground.data }, { on := 21, ground := Ground.data }], guard := none }) (v := ?_) rfl (by kernel_rfl) (by kernel_rfl) (by kernel_rfl) (fun _ _ _ h => h) (Or.inl ⟨by rfl, ?_⟩) (by assumption) ?_
                rotate_left
                · intro w hSw; (try dsimp only at hSw); go_simp; try with_reducible rfl
                skip
                try simp only [Act.put, List.setIfInBounds_toArray, List.set_cons_zero, List.set_cons_succ]
                refine wpAnyH_take (i := 23) (oi := { dst := some 109, op := Op.move (Operand.tmp 108), type := 4, pos := "law.go:112", after := #[{ on := 22, ground := Ground.data }, { on := 15, ground := Ground.chain }], guard := none }) (v := ?_) rfl (by kernel_rfl) (by kernel_rfl) (by kernel_rfl) (fun _ _ _ h => h) (Or.inl ⟨by rfl, ?_⟩) (by assumption) ?_
                rotate_left
                · intro w hSw; (try dsimp only at hSw); go_simp; try with_reducible rfl
                skip
                try simp only [Act.put, List.setIfInBounds_toArray, List.set_cons_zero, List.set_cons_succ]
                refine wpAnyH_take (i := 24) (oi := { dst := some 110, op := Op.fieldAddr 56 (Operand.tmp 9) 1, type := 0, pos := "law.go:112", after := #[{ on := 23, ground := Ground.guard }], guard := some (23, false) }) (v := ?_) rfl (by kernel_rfl) (by kernel_rfl) (by kernel_rfl) (fun _ _ _ h => h) (Or.inl ⟨by rfl, ?_⟩) (by assumption) ?_
                rotate_left
                · intro w hSw; (try dsimp only at hSw); go_simp; try with_reducible rfl
                skip
                try simp only [Act.put, List.setIfInBounds_toArray, List.set_cons_zero, List.set_cons_succ]
                refine wpAnyH_take (i := 25) (oi := { dst := some 111, op := Op.load 34 (Operand.tmp 110), type := 34, pos := "law.go:112", after := #[{ on := 24, ground := Ground.data }, { on := 23, ground := Ground.guard }], guard := some (23, false) }) (v := ?_) rfl (by kernel_rfl) (by kernel_rfl) (by kernel_rfl) (fun _ _ _ h => h) (Or.inl ⟨by rfl, ?_⟩) (by assumption) ?_
                rotate_left
                · intro w hSw; (try dsimp only at hSw); go_simp; try with_reducible rfl
                skip
                try simp only [Act.put, List.setIfInBounds_toArray, List.set_cons_zero, List.set_cons_succ]
                refine wpAnyH_ready (rs := [26]) (by kernel_rfl) (by simp) ?_
                refine AllReadyH.cons (o := { dst := some 112, op := Op.call { callee := Callee.value (Operand.func 15), args := #[Operand.tmp 111], argTypes := #[34] }, type := 37, pos := "law.go:112", after := #[{ on := 25, ground := Ground.data }, { on := 23, ground := Ground.chain }, { on := 23, ground := Ground.guard }], guard := some (23, false) }) rfl (fun K hK => ?_) ?_
                · go_simp
                  go_wp2_with (((with_reducible refine (unhide TWy _ ?_).mono ?_; · exact (by repeat (first | assumption | with_reducible exact Below.refl _ _ | with_reducible apply Below.drew))); rintro e w6 ⟨rfl, hb6⟩; replace hb : Below w5.heap.size w5 w6 := below_via (by repeat (first | assumption | with_reducible exact Below.refl _ _ | with_reducible apply Below.drew)) hb6))
                  refine hK.out _ _ ?_ (fun hHeld => ?_)
                  · (try dsimp only); exact ⟨unhide KV _ (by repeat (first | assumption | with_reducible exact Below.refl _ _ | with_reducible apply Below.drew)), (unhide KF _ (by repeat (first | assumption | with_reducible exact Below.refl _ _ | with_reducible apply Below.drew))).1⟩
                  clear hK K
                  try simp only [Act.put, List.setIfInBounds_toArray, List.set_cons_zero, List.set_cons_succ]
                  refine wpAnyH_take (i := 27) (oi := { dst := some 113, op := Op.binOp BinOp.neq 37 (Operand.tmp 112) (Operand.const (Value.int IntKind.i64 0)) 37, type := 4, pos := "law.go:112", after := #[{ on := 26, ground := Ground.data }, { on := 23, ground := Ground.guard }], guard := some (23, false) }) (v := ?_) rfl (by kernel_rfl) (by kernel_rfl) (by kernel_rfl) (fun _ _ _ h => h) (Or.inl ⟨by rfl, ?_⟩) (by assumption) ?_
                  rotate_left
                  · intro w hSw; (try dsimp only at hSw); go_simp; try with_reducible rfl
                  skip
                  try simp only [Act.put, List.setIfInBounds_toArray, List.set_cons_zero, List.set_cons_succ]
                  refine wpAnyH_take (i := 28) (oi := { dst := some 114, op := Op.pick (Operand.tmp 109) (Operand.const (Value.bool true)) (Operand.tmp 113), type := 4, pos := "law.go:112", after := #[{ on := 23, ground := Ground.data }, { on := 27, ground := Ground.data }], guard := none }) (v := ?_) rfl (by kernel_rfl) (by kernel_rfl) (by kernel_rfl) (fun _ _ _ h => h) (Or.inl ⟨by rfl, ?_⟩) (by assumption) ?_
                  rotate_left
                  · intro w hSw; (try dsimp only at hSw); go_simp; try with_reducible rfl
                  skip
                  try simp only [Act.put, List.setIfInBounds_toArray, List.set_cons_zero, List.set_cons_succ]
                  refine wpAnyH_done (by kernel_rfl) ?_ _
                  go_wp2
                  go_meet
                  case rel => exact ⟨rfl, rfl, hide hb⟩
                · exact AllReadyH.nil
              · obtain ⟨p, hp⟩ : ∃ p, p + 1 = k := ⟨k - 1, by omega⟩
                obtain ⟨zn, gz, KZ⟩ := unhide PZ p hp
                have z0 := unhide KZ w5 (Below.refl _ _)
                have hwp : IntKind.i64.wrap ((k : Int) - 1) = (p : Int) := by rw [IntKind.wrap_i64]; omega
                have hp1 : (p : Int) < (x.kept.length : Int) := by omega
                have hp0 : (0 : Int) ≤ (p : Int) := by omega
                have gm : (0 : Int) < (k : Int) := by omega
                have gm1 : decide ((0 : Int) < (k : Int)) = true := decide_eq_true gm
                have gm2 : decide (0 < k) = true := decide_eq_true (by omega)
                have gm3 : 0 < k := by omega
                clear hp PZ
                (first | go_region_held2 (fun w' => (w'.cell? ⟨wr.heap.size, 0, none⟩ = some (.int .i64 yn) ∧ w'.cell? ⟨wr.heap.size, 1, none⟩ = some (.string x.name) ∧ w'.cell? ⟨wr.heap.size, 2, none⟩ = some (.int .i64 yt.pol) ∧ w'.cell? ⟨wr.heap.size, 3, none⟩ = some (.slice ia yt.ins.length ic) ∧ w'.cell? ⟨wr.heap.size, 4, none⟩ = some (.slice oa yt.outs.length oc) ∧ w'.cell? ⟨wr.heap.size, 5, none⟩ = some (.slice ra yt.rules.length rc)) ∧ w'.cell? ⟨EB, 0, none⟩ = some (.string x.name) ∧ w'.cell? ⟨EB, 3, none⟩ = some (.slice (some ⟨kb, koff, none⟩) x.kept.length kc) ∧ w'.cell? ⟨kb, koff + p * 6, none⟩ = some (.int .i64 zn))
                  (exact ⟨unhide KV _ (by repeat (first | assumption | with_reducible exact Below.refl _ _ | with_reducible apply Below.drew)), (unhide KF _ (by repeat (first | assumption | with_reducible exact Below.refl _ _ | with_reducible apply Below.drew))).1, (unhide KF _ (by repeat (first | assumption | with_reducible exact Below.refl _ _ | with_reducible apply Below.drew))).2.2.2.1, unhide KZ _ (by repeat (first | assumption | with_reducible exact Below.refl _ _ | with_reducible apply Below.drew))⟩)
                  (((with_reducible refine (unhide TWy _ ?_).mono ?_; · exact (by repeat (first | assumption | with_reducible exact Below.refl _ _ | with_reducible apply Below.drew))); rintro e w6 ⟨rfl, hb6⟩; replace hb : Below w5.heap.size w5 w6 := below_via (by repeat (first | assumption | with_reducible exact Below.refl _ _ | with_reducible apply Below.drew)) hb6)) | fail)
                go_wp2
                go_meet
                case rel => exact ⟨rfl, rfl, hide hb⟩
            case rest =>
              obtain ⟨rfl, rfl, HBd⟩ := hcut
              have HB6 := hide (below_via (unhide HBk) (below_via (unhide HB5) (unhide HBd)))
              obtain ⟨v0, v1, v2, v3, v4, v5⟩ := (unhide KV) _ (unhide HBd)
              obtain ⟨⟨e0, e1, e2, e3, _⟩, _⟩ := unhide KE _ (unhide HB6)
              have hwk : IntKind.i64.wrap ((k : Int) + 1) = ((k + 1 : Nat) : Int) := by rw [IntKind.wrap_i64]; omega
              cases Bq with
              | true =>
                go_wp2
                go_roundw
                case rel => exact ⟨k + 1, by omega, by first | rfl | go_num, by rw [inV_step (unhide HY), ← unhide HBq]; rfl, HB6⟩
                case measure => simp [intOf]; omega
              | false =>
                go_wp2
                go_roundw
                case rel => exact ⟨k + 1, by omega, by first | rfl | go_num, by rw [inV_step (unhide HY), ← unhide HBq]; simp, HB6⟩
                case measure => simp [intOf]; omega
          · obtain rfl : k = x.kept.length := by omega
            have hBq := unhide HBq
            rw [List.take_length, inV_all (unhide HEI)] at hBq
            subst hBq
            have hlast := (unhide HEI).any1
            obtain ⟨p, hp⟩ : ∃ p, p + 1 = x.kept.length := ⟨x.kept.length - 1, by omega⟩
            obtain ⟨kb, koff, kcap', ekb⟩ := hkl.begins (by intro e; rw [e] at hlast; simp at hlast)
            cases ekb
            obtain ⟨z, hz⟩ : ∃ z, x.kept[p]? = some z := ⟨_, List.getElem?_eq_getElem (by omega)⟩
            obtain ⟨_, cs, _, ⟨u0, u1, u2, u3, u4, rfl, _⟩, f⟩ := hkl.at2 hz
            have z0 := f 0 _ rfl
            rw [Nat.add_zero] at z0
            have hnz := (unhide HEI).num p z hz
            have hpos := (unhide HEI).pos
            have hnx := (unhide HG1).next x (List.mem_of_getElem? (unhide HX))
            have gz : IntKind.i64.wrap (z.number + 1) = x.next := by rw [IntKind.wrap_i64]; omega
            have hwp : IntKind.i64.wrap ((x.kept.length : Int) - 1) = (p : Int) := by rw [IntKind.wrap_i64]; omega
            have hp1 : (p : Int) < (x.kept.length : Int) := by omega
            have hp0 : (0 : Int) ≤ (p : Int) := by omega
            have gn : (x.next != x.next) = false := by simp
            have HB7 := hide (below_via (unhide HB4) (unhide HBk))
            clear hnz hpos hnx hkl f hz hp hlk hk hlast hww HBq
            go_wp2_with fail
            go_quiet (fail)
            go_wp2
            go_roundw
            case rel => exact ⟨m + 1, by omega, by first | rfl | go_num, hide (below_drewN' (unhide HB7) _)⟩
            case measure => simp [intOf]; omega
    · obtain rfl : m = R.entries.length := by omega
      go_wp2_with fail
      clear x0 x1 x2
      have he4 : R.seats.length ≤ 4 := (unhide HG1).inv.seats
      have HR0 := HBr
      go_loopw [145] (fun i wr => ∃ m : Nat, m ≤ R.seats.length ∧ i = .int .i64 (m : Int) ∧ Hid (Below w3.heap.size w3 wr)) (fun i _ => R.seats.length - (intOf i).toNat)
      case atStart => exact ⟨0, Nat.zero_le _, rfl, HR0⟩
      case round =>
        obtain ⟨m, hm, rfl, HBs⟩ := hrel
        obtain ⟨⟨x0, x1, x2, _⟩, hrp⟩ := unhide KX wr (unhide HBs)
        by_cases hlt : m < R.seats.length
        · have hi1 : (m : Int) < (R.seats.length : Int) := by omega
          have hi0 : (0 : Int) ≤ (m : Int) := by omega
          obtain ⟨x, hx⟩ : ∃ x, R.seats[m]? = some x := ⟨_, List.getElem?_eq_getElem hlt⟩
          obtain ⟨_, _, he, _, hls, _⟩ := hrp
          have hee := congrArg (fun a : Array Value => a[1]?) he
          simp at hee
          rw [← hee] at hls
          obtain ⟨b, off, cap', ev⟩ := hls.begins (by intro e; rw [e] at hlt; simp at hlt)
          cases ev
          obtain ⟨_, cs, _, rfl, f⟩ := hls.at2 hx
          have d0 := f 0 _ rfl
          have d1 := f 1 _ rfl
          have d2 := f 2 _ rfl
          have d3 := f 3 _ rfl
          rw [Nat.add_zero] at d0
          have hbl : b < wr.heap.size := World.block_lt_of_cell? wr _ d0
          have hw : IntKind.i64.wrap ((m : Int) + 1) = ((m + 1 : Nat) : Int) := by rw [IntKind.wrap_i64]; omega
          obtain ⟨w6, hw6⟩ : ∃ w6, w6 = wr.alloc (.cells #[.int .i64 x.session, .int .i64 x.seq, .int .i64 x.reply.err, .int .i64 x.reply.version] 49) := ⟨_, rfl⟩
          have b6 : Below wr.heap.size wr w6 := by rw [hw6]; exact vbelow_new _ _
          obtain ⟨SB, hSB⟩ : ∃ SB, SB = wr.heap.size := ⟨_, rfl⟩
          have E6 : Blk w6 SB 49 #[.int .i64 x.session, .int .i64 x.seq, .int .i64 x.reply.err, .int .i64 x.reply.version] := by rw [hw6, hSB]; exact Blk.new _ _ _
          have HB6 := hide (below_via (unhide HBs) b6)
          have hd := RG.dist (unhide HG1)
          have KS := hide (fun (wx : World) (hx : Below w6.heap.size w6 wx) => (E6.kept hx).at4)
          have KY := hide (fun (k : Nat) (hk : k < m) => show ∃ y : Rp.Seat, (y.session == x.session) = false ∧ Hid (∀ wx : World, Below w6.heap.size w6 wx → wx.cell? ⟨b, off + k * 4, none⟩ = some (.int .i64 y.session)) by
            obtain ⟨y, hy⟩ : ∃ y, R.seats[k]? = some y := ⟨_, List.getElem?_eq_getElem (by omega)⟩
            obtain ⟨_, cs, _, rfl, f⟩ := hls.at2 hy
            have e0 := f 0 _ rfl
            rw [Nat.add_zero] at e0
            refine ⟨y, ?_, hide fun wx hx => ((b6.trans (hx.mono b6.size)).cell (p := ⟨b, off + k * 4, none⟩) hbl).trans e0⟩
            cases hs : (y.session == x.session) with
            | false => rfl
            | true => have := hd k m y x hy hx (by simpa using hs); omega)
          have HSB := hide hSB
          have HW6 := hide hw6
          clear hls f E6 b6 hx hee he hbl hSB hw6 hd
          go_upto_region 25 with fail
          rw [← unhide HW6, ← unhide HSB]
          clear d0 d1 d2 d3 x0 x1 x2
          go_wp2_with fail
          go_loopw [12] (fun i wr => ∃ k : Nat, k ≤ m ∧ i = .int .i64 (k : Int) ∧ Hid (Below w6.heap.size w6 wr)) (fun i _ => m - (intOf i).toNat)
          case atStart => exact ⟨0, Nat.zero_le _, rfl, hide (Below.refl _ _)⟩
          case round =>
            obtain ⟨k, hk, rfl, HBk⟩ := hrel
            by_cases hlk : k < m
            · have hk1 : (k : Int) < (m : Int) := by omega
              have hk2 : (k : Int) < (R.seats.length : Int) := by omega
              have hk0 : (0 : Int) ≤ (k : Int) := by omega
              obtain ⟨y, gy, KZ⟩ := unhide KY k hlk
              obtain ⟨s0, s1, s2, s3, _⟩ := unhide KS wr (unhide HBk)
              have z0 := unhide KZ wr (unhide HBk)
              obtain ⟨⟨x0, x1, x2, _⟩, _⟩ := unhide KX wr (below_via (unhide HB6) (unhide HBk))
              have hwk : IntKind.i64.wrap ((k : Int) + 1) = ((k + 1 : Nat) : Int) := by rw [IntKind.wrap_i64]; omega
              go_wp2_with fail
              go_quiet (fail)
              go_wp2
              go_roundw
              case rel => exact ⟨k + 1, by omega, by first | rfl | go_num, hide (below_drewN' (unhide HBk) _)⟩
              case measure => simp [intOf]; omega
            · obtain rfl : k = m := by omega
              go_wp2
              go_roundw
              case rel => exact ⟨k + 1, by omega, by first | rfl | go_num, hide (below_via (unhide HB6) (unhide HBk))⟩
              case measure => simp [intOf]; omega
        · obtain rfl : m = R.seats.length := by omega
          go_wp2
          exact bodyPost_ret (v := .bool true) (by simp [results, Tryz.results6, go_sem]) rfl ⟨rfl, below_via (unhide HB3) (unhide HBs)⟩
end Go.Proofs.YtnegjbkbfgkkjaaGreatDoor
