/- Walks: the document's Put. -/
import Derived.Test.YtlienildfnlncaaKX
import Derived.Deep.Cut
import Derived.Deep.CutRange
namespace Go.Proofs.Ytlienildfnlncaa
open Go.RowKit
open Go.Lib (uvarint zigzag uvarint_small uvarint_big strCells)

theorem step_app_str {P : Program} {ops : Array Oper} {o : Oper} {a : Act} {w : World} {K : Act → World → Prop} {Q : Exit → Act → World → Prop} {E : Prop}
    (hg : o.guard = none) (sl x : Operand) (t u : TypeId) (ho : o.op = Op.call { callee := Callee.builtin Builtin.append, args := #[sl, x], argTypes := #[t, u] })
    (base : Nat) (e : TypeId) (i : TypeInfo) (ht : P.underlying t = some (.slice e)) (hu : P.underlying u = some .string) (hi : P.info? e = some i) (hz : i.zero = some (.int .u8 0)) (hsize : i.size = 1) (hby : i.bytes = 1)
    (v : Value) (n : Nat) (hn : 0 < n) (xs : List Value) (hs : a.eval sl = v) (hown : w.ownsRow base e 1 v n xs) (s : ByteArray) (hx : a.eval x = .string s)
    (h63 : n + s.size ≤ maxLen) (hbytes : n + s.size ≤ 140737488355328) (hbase : base ≤ w.heap.size)
    (hK : ∀ v' w', w'.ownsRow base e 1 v' (n + s.size) (xs ++ strCells s) → w.grownBy w' v.ownBlock → (v'.ownBlock = v.ownBlock ∨ v'.ownBlock = some w.heap.size) → K (a.put o.dst v') w') :
    if Region.wanted o (yielded ops a.tmps) = true then Oper.wp P o a w K Q else E := by
  have hw : Region.wanted o (yielded ops a.tmps) = true := by simp [Region.wanted, hg]
  rw [if_pos hw]
  obtain ⟨v', w', hr, h2, h3, h5⟩ := app_str (P := P) w base t u o.type e i ht hu hi hz hsize hby v n hn xs hown s h63 hbytes hbase
  unfold Oper.wp execOp
  simp only [ho, resolve, invoke, builtin, Sem.run_bind, Sem.run_pure, Result.andThen_ok, List.map_toArray, List.map_cons, List.map_nil, hs, hx, hr]
  exact hK v' w' h2 h3 h5

def PutC (T : WT) : Prop := ∀ (w : World) (tv : Array Value) (d : Nat), MemW w.heap.size w T tv → okW T d → (enc T).length ≤ 1000000000000 → Calls Try.prog 21 #[.agg tv] w (PostNew w (enc T))

set_option maxHeartbeats 4000000 in
theorem put_of (g n : Int) (t : ByteArray) (ks : List WT) (IH : ∀ u ∈ ks, PutC u) : PutC (.mk g n t ks) := by
  intro w tv d hM hok hsize
  have HM := hide hM
  rw [MemW, MemWP] at hM
  obtain ⟨hn, ht, hk, a, cap, rfl, hks⟩ := hM
  rw [okW] at hok
  have hg0 := hok.2.1
  have hg1 := hok.2.2.1
  have HOK := hide hok.2.2.2.2.2.2.2
  have HK := hide hks
  have IH' := hide IH
  obtain ⟨E, hE⟩ : ∃ E, enc (.mk g n t ks) = E := ⟨_, rfl⟩
  rw [hE] at hsize ⊢
  have HEn : Hid (E = [g.toNat.toUInt8] ++ uvarint (zigzag n) ++ uvarint t.size ++ t.data.toList ++ uvarint ks.length ++ encL ks) := hide (by rw [← hE, enc]; simp)
  have hs : t.data.toList.length = t.size := rfl
  have HL : Hid (1 + (uvarint (zigzag n)).length + (uvarint t.size).length + t.size + (uvarint ks.length).length + (encL ks).length ≤ 1000000000000) := by
    refine hide ?_
    have := congrArg List.length (unhide HEn)
    simp only [List.length_append, List.length_cons, List.length_nil, hs] at this
    omega
  obtain ⟨W0, hW0⟩ : ∃ W0, W0 = w.alloc (.cells #[.int .i64 g, .int .i64 n, .string t, .slice a ks.length cap] 24) := ⟨_, rfl⟩
  have B0 : Below w.heap.size w W0 := by rw [hW0]; exact below_new _ _
  have X0 : Bx W0 w.heap.size (.int .i64 g) (.int .i64 n) (.string t) (.slice a ks.length cap) := by rw [hW0]; exact Bx.new _ _ _ _ _ _
  have hX : W0.heap.size = w.heap.size + 1 := by rw [hW0]; simp
  have HB0 := hide B0
  have HX0 := hide X0
  have HXs := hide hX
  obtain ⟨i0, hi, hz0, hz1, hz2⟩ := info_parts info_u8
  have I0 := hide hi
  have I1 := hide hz0
  have I2 := hide hz1
  have I3 := hide hz2
  have eg : IntKind.u8.wrap g = g := by rw [IntKind.wrap_u8']; omega
  have eg2 : g % 256 = g := by omega
  have LIT : Hid (∀ wx : World, Own wx.heap.size (wx.alloc (.cells #[.int .u8 g] 5)) (.slice (some ⟨wx.heap.size, 0, none⟩) 1 1) [g.toNat.toUInt8]) := hide fun wx => by
    have O := Own.lit wx [g.toNat.toUInt8] (by simp)
    have e8 : bcs [g.toNat.toUInt8] = [.int .u8 g] := by
      show [Value.int .u8 ((g.toNat.toUInt8).toNat : Int)] = _
      have : ((g.toNat.toUInt8).toNat : Int) = g := by simp [Nat.toUInt8]; omega
      rw [this]
    rw [e8] at O
    exact O
  have CB := hide (fun wx => rsigned_any n wx hn.1 hn.2)
  have hzl := Go.Lib.uvarint_length64 (zig_bd hn.1 hn.2)
  have m1 : Hid (1 + (uvarint (zigzag n)).length ≤ maxLen) := hide (by unfold maxLen; omega)
  have m2 : Hid ((1 + (uvarint (zigzag n)).length) * 1 ≤ 140737488355328) := hide (by omega)
  have m4 : Hid ((bcs (uvarint (zigzag n))).length = (uvarint (zigzag n)).length * 1) := hide (by rw [bcs_len, Nat.mul_one])
  obtain ⟨x0, x1, x2, x3⟩ := X0.tell
  have lx := X0.low
  clear hok hks IH hi hz0 hz1 hz2 B0 X0 hX hE hs hzl hsize
  go_enter Try.func21, Try.ntmps21
  go_wp2_with fail
  rw [← hW0]
  clear hW0
  go_cut [3] from 6 (fun v wc => Hid (Own W0.heap.size wc v ([g.toNat.toUInt8] ++ uvarint (zigzag n))) ∧ Hid (Below W0.heap.size W0 wc))
  case first =>
    have B1 := hide ((Below.refl W0.heap.size W0).drew)
    go_region_law (first
      | (go_simp
         with_reducible refine (unhide CB _).mono ?_
         rintro e w2 ⟨v2, rfl, hO2, hb2⟩
         obtain ⟨g2, cap2, hv2, _, _, _, lg2, hbc2⟩ := hO2.shape (uv_ne _)
         subst hv2
         clear hO2
         first
         | (have LA : Own W0.heap.size w2 (.slice (some ⟨W0.heap.size, 0, none⟩) 1 1) [g.toNat.toUInt8] := Own.below (w := (W0.alloc (.cells #[.int .u8 g] 5)).drew) (unhide LIT W0) hb2
            have B2 : Below W0.heap.size W0 w2 := (below_new W0 (.cells #[.int .u8 g] 5)).drew.trans (hb2.mono (by simp)))
         | (have B2 : Below W0.heap.size W0 w2 := below_via (unhide B1) hb2)
         obtain ⟨k0, k1, k2, k3⟩ := ((unhide HX0).keep B2).tell)
      | (refine step_append_own_at rfl _ _ 25 rfl W0.heap.size 5 i0 (.int .u8 0) 1 1 Try.underlying25 (unhide I0) (unhide I1) (unhide I2) (unhide I3) rfl (by decide) _ 1 (bcs [g.toNat.toUInt8]) rfl LA ⟨g2, 0, none⟩ _ cap2 (bcs (uvarint (zigzag n))) rfl (unhide m4) (bc_news hbc2) (bcs_one _) (unhide m1) (unhide m2) B2.size ?_
         intro v3 w3 own3 hgrow3 _
         have O3 : Own W0.heap.size w3 v3 ([g.toNat.toUInt8] ++ uvarint (zigzag n)) := own_app rfl rfl own3
         have B3 : Below W0.heap.size W0 w3 := B2.grown hgrow3 B2.size (fun k hk => (World.ownsRow.lt LA k hk).1))
      | (refine step_append_own_at rfl _ _ 25 rfl W0.heap.size 5 i0 (.int .u8 0) 1 1 Try.underlying25 (unhide I0) (unhide I1) (unhide I2) (unhide I3) rfl (by decide) _ 1 (bcs [g.toNat.toUInt8]) rfl (Own.mono (unhide LIT w2) B2.size) ⟨g2, 0, none⟩ _ cap2 (bcs (uvarint (zigzag n))) rfl (unhide m4) (bc_news (hbc2.keep (fun o => (below_new w2 _).cell (p := ⟨g2, o, none⟩) lg2))) (bcs_one _) (unhide m1) (unhide m2) (Nat.le_trans B2.size (below_new w2 _).size) ?_
         intro v3 w3 own3 hgrow3 _
         have O3 : Own W0.heap.size w3 v3 ([g.toNat.toUInt8] ++ uvarint (zigzag n)) := own_app rfl rfl own3
         have B3 : Below W0.heap.size W0 w3 := (B2.alloc B2.size _).grown hgrow3 (Nat.le_trans B2.size (below_new w2 _).size) (fun k hk => (World.ownsRow.lt (Own.mono (unhide LIT w2) B2.size) k hk).1)))
    all_goals
      have HO3 := hide O3
      have HB3 := hide B3
      clear hb2 hbc2 k0 k1 k2 k3 own3 hgrow3 O3 B3 CB m1 m2 m4 B1 lg2
      try clear LA
      clear B2
      go_wp2_with fail
      go_meet
      case rel => exact ⟨HO3, HB3⟩
  case rest =>
    obtain ⟨HO3, HB3⟩ := hcut
    clear CB m1 m2 m4 LIT eg eg2 x0 x1 x2 x3 lx
    generalize wc = w8 at *
    obtain ⟨p1, hp1⟩ : ∃ p1, p1 = [g.toNat.toUInt8] ++ uvarint (zigzag n) := ⟨_, rfl⟩
    have hp1n : p1 ≠ [] := by rw [hp1]; simp
    have hp1l : p1.length = 1 + (uvarint (zigzag n)).length := by rw [hp1]; simp; omega
    rw [← hp1] at HO3
    have HP1 := hide hp1
    have HP1l := hide hp1l
    clear hp1 hp1l
    obtain ⟨g3, cap3, hv3, _, _, _, _, _⟩ := (unhide HO3).shape hp1n
    subst hv3
    obtain ⟨x0, x1, x2, x3⟩ := ((unhide HX0).keep (unhide HB3)).tell
    have lx := ((unhide HX0).keep (unhide HB3)).low
    have et : IntKind.u64.wrap (t.size : Int) = (t.size : Int) := by rw [IntKind.wrap_u64]; omega
    have CB := hide (fun wx => rnumber_any t.size wx (by omega))
    have htl := Go.Lib.uvarint_length64 (x := t.size) (by omega)
    have m1 : Hid (p1.length + (uvarint t.size).length ≤ maxLen) := hide (by have := unhide HL; have := unhide HP1l; unfold maxLen; omega)
    have m2 : Hid ((p1.length + (uvarint t.size).length) * 1 ≤ 140737488355328) := hide (by have := unhide HL; have := unhide HP1l; omega)
    have m4 : Hid ((bcs (uvarint t.size)).length = (uvarint t.size).length * 1) := hide (by rw [bcs_len, Nat.mul_one])
    have m5 : Hid ((p1 ++ uvarint t.size).length + t.size ≤ maxLen) := hide (by have := unhide HL; have := unhide HP1l; unfold maxLen; rw [List.length_append]; omega)
    have m6 : Hid ((p1 ++ uvarint t.size).length + t.size ≤ 140737488355328) := hide (by have := unhide HL; have := unhide HP1l; rw [List.length_append]; omega)
    have m7 : Hid (0 < (p1 ++ uvarint t.size).length) := hide (List.length_pos_iff.2 (by simp [hp1n]))
    clear htl
    go_wp2_with fail
    go_cut [3] from 6 (fun v wc => Hid (Own W0.heap.size wc v (p1 ++ uvarint t.size ++ t.data.toList)) ∧ Hid (Below W0.heap.size W0 wc))
    case first =>
      have B1 := hide ((Below.refl w8.heap.size w8).drew)
      go_region_law (first
        | (go_simp
           with_reducible refine (unhide CB _).mono ?_
           rintro e w2 ⟨v2, rfl, hO2, hb2⟩
           obtain ⟨g2, cap2, hv2, _, _, _, lg2, hbc2⟩ := hO2.shape (uv_ne _)
           subst hv2
           clear hO2
           have B2 : Below w8.heap.size w8 w2 := below_via (unhide B1) hb2
           have BW : Below W0.heap.size W0 w2 := (unhide HB3).trans (B2.mono (unhide HB3).size)
           have OA := (unhide HO3).below B2
           obtain ⟨k0, k1, k2, k3⟩ := ((unhide HX0).keep BW).tell)
        | (refine step_append_own_at rfl _ _ 25 rfl W0.heap.size 5 i0 (.int .u8 0) 1 1 Try.underlying25 (unhide I0) (unhide I1) (unhide I2) (unhide I3) rfl (by decide) _ p1.length (bcs p1) rfl OA ⟨g2, 0, none⟩ _ cap2 (bcs (uvarint t.size)) rfl (unhide m4) (bc_news hbc2) (bcs_one _) (unhide m1) (unhide m2) BW.size ?_
           intro v3 w3 own3 hgrow3 _
           have O3 : Own W0.heap.size w3 v3 (p1 ++ uvarint t.size) := own_app rfl rfl own3
           have B3 : Below W0.heap.size W0 w3 := BW.grown hgrow3 BW.size (fun k hk => (World.ownsRow.lt OA k hk).1)
           obtain ⟨j0, j1, j2, j3⟩ := ((unhide HX0).keep B3).tell)
        | (refine step_app_str rfl _ _ 25 9 rfl W0.heap.size 5 i0 Try.underlying25 Try.underlying9 (unhide I0) (unhide I1) (unhide I2) (unhide I3) _ (p1 ++ uvarint t.size).length (unhide m7) (bcs (p1 ++ uvarint t.size)) rfl O3 t rfl (unhide m5) (unhide m6) B3.size ?_
           intro v4 w4 own4 hgrow4 _
           have O4 : Own W0.heap.size w4 v4 (p1 ++ uvarint t.size ++ t.data.toList) := own_app (str_bcs t) rfl own4
           have B4 : Below W0.heap.size W0 w4 := B3.grown hgrow4 B3.size (fun k hk => (World.ownsRow.lt O3 k hk).1)))
      all_goals
        have HO4 := hide O4
        have HB4 := hide B4
        clear hb2 hbc2 k0 k1 k2 k3 j0 j1 j2 j3 own3 hgrow3 O3 B3 own4 hgrow4 O4 B4 CB m1 m2 m4 m5 m6 m7 B1 lg2 BW OA B2
        go_wp2_with fail
        go_meet
        case rel => exact ⟨HO4, HB4⟩
    case rest =>
      obtain ⟨HO4, HB4⟩ := hcut
      clear CB m1 m2 m4 m5 m6 m7 et x0 x1 x2 x3 lx HO3 HB3
      generalize wc = w9 at *
      obtain ⟨p2, hp2⟩ : ∃ p2, p2 = p1 ++ uvarint t.size ++ t.data.toList := ⟨_, rfl⟩
      have hp2n : p2 ≠ [] := by rw [hp2]; simp [hp1n]
      have hts : t.data.toList.length = t.size := rfl
      have hp2l : p2.length = p1.length + (uvarint t.size).length + t.size := by rw [hp2]; simp only [List.length_append, hts]
      rw [← hp2] at HO4
      have HP2 := hide hp2
      have HP2l := hide hp2l
      clear hp2 hp2l hts
      obtain ⟨g4, cap4, hv4, _, _, _, _, _⟩ := (unhide HO4).shape hp2n
      subst hv4
      obtain ⟨x0, x1, x2, x3⟩ := ((unhide HX0).keep (unhide HB4)).tell
      have lx := ((unhide HX0).keep (unhide HB4)).low
      have et : (ks.length : Int) % 18446744073709551616 = (ks.length : Int) := by omega
      have C5 := hide (rnumber_any ks.length w9 (by omega))
      have hkl := Go.Lib.uvarint_length64 (x := ks.length) (by omega)
      have m1 : Hid (p2.length + (uvarint ks.length).length ≤ maxLen) := hide (by have := unhide HL; have := unhide HP1l; have := unhide HP2l; unfold maxLen; omega)
      have m2 : Hid ((p2.length + (uvarint ks.length).length) * 1 ≤ 140737488355328) := hide (by have := unhide HL; have := unhide HP1l; have := unhide HP2l; omega)
      have m4 : Hid ((bcs (uvarint ks.length)).length = (uvarint ks.length).length * 1) := hide (by rw [bcs_len, Nat.mul_one])
      go_wp2_with fail
      with_reducible refine (unhide C5).mono ?_
      rintro e w10 ⟨v10, rfl, hO10, hb10⟩
      obtain ⟨g10, cap10, hv10, _, _, _, lg10, hbc10⟩ := hO10.shape (uv_ne _)
      subst hv10
      have HO5 := hide ((unhide HO4).below hb10)
      have HB5 := hide ((unhide HB4).trans (hb10.mono (unhide HB4).size))
      have HN5 := hide (bc_news hbc10)
      have hs5 := (unhide HB5).size
      clear C5 hO10 hb10 hbc10 HO4 HB4 x0 x1 x2 x3 lx et hkl
      go_wp2_with (at_builtin; refine wpList_append_own_at _ rfl _ _ 25 rfl W0.heap.size 5 i0 (.int .u8 0) 1 1 Try.underlying25 (unhide I0) (unhide I1) (unhide I2) (unhide I3) rfl (by decide) _ p2.length (bcs p2) rfl (unhide HO5) ⟨g10, 0, none⟩ _ cap10 (bcs (uvarint ks.length)) rfl (unhide m4) (unhide HN5) (bcs_one _) (unhide m1) (unhide m2) hs5 ?_)
      intro v11 w11 own11 hgrow11 _ _
      have HO6 : Hid (Own W0.heap.size w11 v11 (p2 ++ uvarint ks.length)) := hide (own_app rfl rfl own11)
      have HB6 := hide ((unhide HB5).grown hgrow11 hs5 (fun k hk => (World.ownsRow.lt (unhide HO5) k hk).1))
      clear own11 hgrow11 HO5 HB5 HN5 m1 m2 m4 hs5 lg10
      obtain ⟨p3, hp3⟩ : ∃ p3, p3 = p2 ++ uvarint ks.length := ⟨_, rfl⟩
      have hp3l : p3.length = p2.length + (uvarint ks.length).length := by rw [hp3]; simp
      rw [← hp3] at HO6
      have HE3 : Hid (E = p3 ++ encL ks) := hide (by rw [unhide HEn, hp3, unhide HP2, unhide HP1])
      have HL3 : Hid (p3.length + (encL ks).length ≤ 1000000000000) := hide (by have := unhide HL; have := unhide HP1l; have := unhide HP2l; omega)
      clear hp3 hp3l HP1 HP2 HP1l HP2l HEn HL hp1n hp2n
      obtain ⟨x0, x1, x2, x3⟩ := ((unhide HX0).keep (unhide HB6)).tell
      have lx := ((unhide HX0).keep (unhide HB6)).low
      go_wp2_with fail
      clear x0 x1 x2 x3 lx
      go_loopw [3, 34] (fun b i wr => ∃ (j : Nat) (q : List UInt8), j ≤ ks.length ∧ i = .int .i64 (j : Int) ∧ Hid (E = q ++ encL (ks.drop j)) ∧ Hid (q.length + (encL (ks.drop j)).length ≤ 1000000000000) ∧ Hid (Own W0.heap.size wr b q) ∧ Hid (Below W0.heap.size W0 wr)) (fun _ i _ => ks.length - (intOf i).toNat)
      case atStart => exact ⟨0, p3, Nat.zero_le _, rfl, HE3, HL3, HO6, HB6⟩
      case round =>
        obtain ⟨j, q, hj, rfl, H, HLq, HOr, HBr⟩ := hrel
        clear HE3 HL3 HO6 HB6
        by_cases hlt2 : j < ks.length
        · have hi1 : (j : Int) < (ks.length : Int) := by omega
          obtain ⟨u, hu⟩ : ∃ u, ks[j]? = some u := ⟨_, List.getElem?_eq_getElem hlt2⟩
          have hdrop : ks.drop j = u :: ks.drop (j + 1) := by
            rw [List.drop_eq_getElem_cons hlt2]
            congr 1
            rw [List.getElem?_eq_getElem hlt2] at hu
            exact Option.some.inj hu
          have hum := List.mem_of_getElem? hu
          have HU := hide (unhide IH' u hum)
          obtain ⟨b, off, rfl, hbB, hmm⟩ := unhide HK (by intro e; rw [e] at hlt2; simp at hlt2)
          have hokU : okW u (d + 1) := okL_mem (unhide HOK) hum
          have hBw : Below w.heap.size w wr := (unhide HB0).trans ((unhide HBr).mono (by have := unhide HXs; omega))
          obtain ⟨cs, h6', hmu⟩ := MemWL.at (MemL.below hBw hbB hmm) j u hu
          have HM2 := hide (MemW.mono hBw.size hmu)
          rw [hdrop, encL] at H HLq
          have hlq := unhide HLq
          rw [List.length_append] at hlq
          obtain ⟨pg, pn, pt, pa, pl, pc, rfl⟩ := MemWP.four hmu
          obtain ⟨u0, u1, u2, u3, hu6, c0, c1, c2, c3⟩ := h6'
          simp only [Array.mk.injEq, List.cons.injEq, and_true] at hu6
          obtain ⟨rfl, rfl, rfl, rfl⟩ := hu6
          have hbn := below_new wr (.cells #[.int .i64 pg, .int .i64 pn, .string pt, .slice pa pl pc] 24)
          have C := hide (unhide HU _ _ (d + 1) ((unhide HM2).grow hbn) hokU (by omega))
          have HOn := hide ((unhide HOr).below hbn)
          have HBn := hide ((unhide HBr).trans (hbn.mono (unhide HBr).size))
          have m1 : Hid (q.length + (enc u).length ≤ maxLen) := hide (by unfold maxLen; omega)
          have m2 : Hid ((q.length + (enc u).length) * 1 ≤ 140737488355328) := hide (by omega)
          have m4 : Hid ((bcs (enc u)).length = (enc u).length * 1) := hide (by rw [bcs_len, Nat.mul_one])
          have HLn : Hid ((q ++ enc u).length + (encL (ks.drop (j + 1))).length ≤ 1000000000000) := hide (by rw [List.length_append]; omega)
          have HEn2 : Hid (E = (q ++ enc u) ++ encL (ks.drop (j + 1))) := hide (by rw [unhide H, List.append_assoc])
          clear hu hdrop hum hBw hmm hokU HU hbn HM2 hmu HOr HBr H HLq hlq
          go_wp2_with fail
          with_reducible refine (unhide C).mono ?_
          rintro e w12 ⟨v12, rfl, hO12, hb12⟩
          obtain ⟨g12, cap12, hv12, _, _, _, lg12, hbc12⟩ := hO12.shape (enc_ne u)
          subst hv12
          have HO7 := hide ((unhide HOn).below hb12)
          have HB7 := hide ((unhide HBn).trans (hb12.mono (unhide HBn).size))
          have HN7 := hide (bc_news hbc12)
          have hs7 := (unhide HB7).size
          clear C hO12 hb12 hbc12 HOn HBn c0 c1 c2 c3
          go_wp2_with (at_builtin; refine wpList_append_own_at _ rfl _ _ 25 rfl W0.heap.size 5 i0 (.int .u8 0) 1 1 Try.underlying25 (unhide I0) (unhide I1) (unhide I2) (unhide I3) rfl (by decide) _ q.length (bcs q) rfl (unhide HO7) ⟨g12, 0, none⟩ _ cap12 (bcs (enc u)) rfl (unhide m4) (unhide HN7) (bcs_one _) (unhide m1) (unhide m2) hs7 ?_)
          intro v13 w13 own13 hgrow13 _ _
          have HO8 : Hid (Own W0.heap.size w13 v13 (q ++ enc u)) := hide (own_app rfl rfl own13)
          have HB8 := hide ((unhide HB7).grown hgrow13 hs7 (fun k hk => (World.ownsRow.lt (unhide HO7) k hk).1))
          clear own13 hgrow13 HO7 HB7 HN7 m1 m2 m4 hs7 lg12
          go_wp2
          go_roundw
          case rel => exact ⟨j + 1, q ++ enc u, by omega, by go_num, HEn2, HLn, HO8, HB8⟩
          case measure => simp [intOf]; omega
        · obtain rfl : j = ks.length := by omega
          have H2 : Hid (E = q) := by
            have h := unhide H
            rw [List.drop_length, encL, List.append_nil] at h
            exact hide h
          have hfin : Below w.heap.size w wr := (unhide HB0).trans ((unhide HBr).mono (by have := unhide HXs; omega))
          have HFin := hide hfin
          clear hfin
          go_wp2
          go_ret
          rw [unhide H2]
          exact ⟨_, rfl, (unhide HOr).mono (by have := unhide HXs; omega), unhide HFin⟩
mutual
theorem put_all : ∀ T : WT, PutC T
  | .mk g n t ks => put_of g n t ks (fun u h => put_alls ks u h)
theorem put_alls : ∀ (ks : List WT) (u : WT), u ∈ ks → PutC u
  | [], u, h => by cases h
  | v :: vs, u, h => by
    by_cases e : u = v
    · rw [e]; exact put_all v
    · exact put_alls vs u ((List.mem_cons.1 h).resolve_left e)
end
end Go.Proofs.Ytlienildfnlncaa
