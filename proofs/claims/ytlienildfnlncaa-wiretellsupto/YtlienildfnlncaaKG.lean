/- Walks: withTree. -/
import Derived.Test.YtlienildfnlncaaKF
namespace Go.Proofs.Ytlienildfnlncaa
open Go.RowKit
open Go.Lib (uvarint zigzag uvarint_small uvarint_big)

theorem wf_no {g n : Int} {t : ByteArray} {ks : List WT} {l : List UInt8} (h : 100000 < (pre l g n t).length + t.size) : withF (.mk g n t ks) l = (pre l g n t, false) := by rw [withF, if_pos h]
theorem wf_go {g n : Int} {t : ByteArray} {ks : List WT} {l : List UInt8} (h : ¬ 100000 < (pre l g n t).length + t.size) : withF (.mk g n t ks) l = withL ks (pre l g n t ++ t.data.toList ++ uvarint ks.length) := by rw [withF, if_neg h]
theorem wL_nil (l : List UInt8) : withL [] l = (l, true) := by rw [withL]
theorem wL_yes {u : WT} {us : List WT} {l : List UInt8} (h : (withF u l).2 = true) : withL (u :: us) l = withL us (withF u l).1 := by rw [withL, if_pos h]
theorem wL_no {u : WT} {us : List WT} {l : List UInt8} (h : (withF u l).2 = false) : withL (u :: us) l = ((withF u l).1, false) := by rw [withL, if_neg (by rw [h]; decide)]

/-- where withTree is: what it owns, and the tree in its box -/
structure WS (B : Nat) (w0 : World) (v0 : Value) (X : Nat) (c0 c1 c2 c3 : Value) (w : World) (v : Value) (l : List UInt8) : Prop where
  own : Own B w v l
  gw : Gw v0 v w0 w
  ne : v.ownBlock ≠ some X
  low : X < w.heap.size
  cells : w.cell? ⟨X, 0, none⟩ = some c0 ∧ w.cell? ⟨X, 1, none⟩ = some c1 ∧ w.cell? ⟨X, 2, none⟩ = some c2 ∧ w.cell? ⟨X, 3, none⟩ = some c3
  le : B ≤ w.heap.size
theorem WS.step {B : Nat} {w0 : World} {v0 : Value} {X : Nat} {c0 c1 c2 c3 : Value} {w w' : World} {v v' : Value} {l l' : List UInt8} (h : WS B w0 v0 X c0 c1 c2 c3 w v l) (hg : Gw v v' w w') (ho : Own B w' v' l') : WS B w0 v0 X c0 c1 c2 c3 w' v' l' := by
  have c : ∀ o, w'.cell? ⟨X, o, none⟩ = w.cell? ⟨X, o, none⟩ := fun o => hg.cell h.low h.ne
  refine ⟨ho, h.gw.trans hg, ?_, Nat.lt_of_lt_of_le h.low hg.size, ?_, Nat.le_trans h.le hg.size⟩
  · rcases hg.own with q | ⟨k, q, hk⟩
    · rw [q]; exact h.ne
    · rw [q]
      intro e
      have := Option.some.inj e
      have := h.low
      omega
  · simp only [c]
    exact h.cells
theorem WS.below {B : Nat} {w0 : World} {v0 : Value} {X : Nat} {c0 c1 c2 c3 : Value} {w w' : World} {v : Value} {l : List UInt8} (h : WS B w0 v0 X c0 c1 c2 c3 w v l) (hb : Below w.heap.size w w') : WS B w0 v0 X c0 c1 c2 c3 w' v l :=
  h.step (Gw.of hb) (h.own.below hb)
theorem own_app {B : Nat} {w : World} {v : Value} {l k : List UInt8} {xs : List Value} {n : Nat} (hx : bcs k = xs) (hn : k.length = n) (h : w.ownsRow B 5 1 v (l.length + n) (bcs l ++ xs)) : Own B w v (l ++ k) := by
  unfold Own
  rw [bcs_app, List.length_append, hx, hn]
  exact h
theorem cell_one_at (w : World) (x : Value) (t : TypeId) (k : Nat) (hk : w.heap.size = k) : ∀ j u, [x][j]? = some u → (w.alloc (.cells #[x] t)).cell? ((⟨k, 0, none⟩ : Addr).add j) = some u := by
  subst hk
  exact cell_one_new w x t
theorem okL_mem : ∀ {ks : List WT} {d : Nat} {u : WT}, okL ks d → u ∈ ks → okW u d
  | [], _, _, _, h => by cases h
  | v :: vs, d, u, hk, h => by
    rw [okL] at hk
    rcases List.mem_cons.1 h with e | e
    · rw [e]; exact hk.1
    · exact okL_mem hk.2 e
theorem str_bcs (t : ByteArray) : bcs t.data.toList = Go.Lib.strCells t := rfl

set_option maxHeartbeats 8000000 in
theorem with_of (g n : Int) (t : ByteArray) (ks : List WT) (IH : ∀ u ∈ ks, WithC u) : WithC (.mk g n t ks) := by
  intro B w v tv l m d hO hB hM hok hm hl hc
  rw [MemW, MemWP] at hM
  obtain ⟨hn, ht, hk, a, cap, rfl, hks⟩ := hM
  rw [okW] at hok
  rw [cnt] at hc
  have hg0 := hok.2.1
  have hg1 := hok.2.2.1
  have HOK := hide hok.2.2.2.2.2.2.2
  clear hok
  have HK := hide hks
  have IH' := hide IH
  clear hks IH
  have S0 : Hid (WS B w v w.heap.size (.int .i64 g) (.int .i64 n) (.string t) (.slice a ks.length cap) (w.alloc (.cells #[.int .i64 g, .int .i64 n, .string t, .slice a ks.length cap] 24)) v l) := by
    refine hide ⟨hO.below (below_new _ _), Gw.of (below_new _ _), ?_, by simp, ⟨by go_simp, by go_simp, by go_simp, by go_simp⟩, by simp; omega⟩
    intro e
    have := (World.ownsRow.lt hO _ e).2
    omega
  obtain ⟨i0, hi, hz0, hz1, hz2⟩ := info_parts info_u8
  have I0 := hide hi
  have I1 := hide hz0
  have I2 := hide hz1
  have I3 := hide hz2
  have HO := hide hO
  clear hi hz0 hz1 hz2 hO
  have eg : g % 256 = g := by omega
  have HE : Hid (bcs [g.toNat.toUInt8] = [.int .u8 g]) := by
    refine hide ?_
    show [Value.int .u8 ((g.toNat.toUInt8).toNat : Int)] = _
    have : ((g.toNat.toUInt8).toNat : Int) = g := by simp [Nat.toUInt8]; omega
    rw [this]
  have m1 : Hid (l.length + 1 ≤ maxLen) := hide (by unfold maxLen; omega)
  have m2 : Hid ((l.length + 1) * 1 ≤ 140737488355328) := hide (by omega)
  have m3 : ∀ o, Hid (B ≤ ((w.alloc (.cells #[.int .i64 g, .int .i64 n, .string t, .slice a ks.length cap] 24)).alloc o).heap.size) := fun o => hide (by simp; omega)
  go_enter Try.func19, Try.ntmps19
  go_wp2_with (at_builtin; refine wpList_append_own_at _ rfl _ _ 25 rfl B 5 i0 (.int .u8 0) 1 1 Try.underlying25 (unhide I0) (unhide I1) (unhide I2) (unhide I3) rfl (by decide) _ _ _ rfl ((unhide S0).own.alloc _) ⟨w.heap.size + 1, 0, none⟩ 1 1 [.int .u8 g] rfl rfl (cell_one_at _ _ _ _ (by simp)) (one_one _ _) (unhide m1) (unhide m2) (unhide (m3 _)) ?_)
  intro v1 w1 own' hgrow _ hat
  have S1 := hide (((unhide S0).below (below_new _ (.cells #[.int .u8 g] 5))).step ⟨hgrow, hat.imp id fun e => ⟨_, e, by simp⟩⟩ (own_app (unhide HE) rfl own'))
  clear own' hgrow hat S0 m1 m2 m3 HE eg
  obtain ⟨x0, x1, x2, x3⟩ := (unhide S1).cells
  have C1 := hide (unsigned_any n w1 hn.1 hn.2)
  have C2 := hide (withNumber_any B w1 v1 (l ++ [g.toNat.toUInt8]) (zigzag n) (unhide S1).own (unhide S1).le (by simp; omega) (zig_bd hn.1 hn.2))
  go_wp2_with fail
  refine (unhide C1).mono ?_
  rintro e wx ⟨rfl, rfl⟩
  go_wp2_with fail
  refine (unhide C2).mono ?_
  rintro e w2 ⟨v2, rfl, hO2, hG2⟩
  have S2 := hide ((unhide S1).step hG2 hO2)
  clear C1 C2 hO2 hG2 S1 x0 x1 x2 x3
  obtain ⟨x0, x1, x2, x3⟩ := (unhide S2).cells
  have hz := Go.Lib.uvarint_length64 (zig_bd hn.1 hn.2)
  have hl2 : (l ++ [g.toNat.toUInt8] ++ uvarint (zigzag n)).length ≤ 1000000 := by simp; omega
  have et : (t.size : Int) % 18446744073709551616 = (t.size : Int) := by omega
  have C3 := hide (withNumber_any B w2 v2 (l ++ [g.toNat.toUInt8] ++ uvarint (zigzag n)) t.size (unhide S2).own (unhide S2).le (by omega) (by omega))
  go_wp2_with fail
  refine (unhide C3).mono ?_
  rintro e w3 ⟨v3, rfl, hO3, hG3⟩
  have S3 := hide ((unhide S2).step hG3 hO3)
  clear C3 hO3 hG3 S2 x0 x1 x2 x3 et hz hl2
  have hp := pre_len (l := l) (g := g) hn.1 hn.2 ht
  obtain ⟨p3, hp3⟩ : ∃ p3, p3 = pre l g n t := ⟨_, rfl⟩
  have S3' : Hid (WS B w v w.heap.size (.int .i64 g) (.int .i64 n) (.string t) (.slice a ks.length cap) w3 v3 p3) := by
    rw [hp3]
    exact S3
  clear S3
  have hpne : p3 ≠ [] := by rw [hp3]; unfold pre; simp
  have hppos : 0 < p3.length := by cases p3 with
    | nil => exact absurd rfl hpne
    | cons => simp
  rw [← hp3] at hp
  obtain ⟨x0, x1, x2, x3⟩ := (unhide S3').cells
  obtain ⟨g3, cap3, hv3, _, _, _, _, _⟩ := (unhide S3').own.shape hpne
  subst hv3
  have HP3 := hide hp3
  clear hp3 hpne
  by_cases hroom : 100000 < p3.length + t.size
  · have hr' : (100000 : Int) - (p3.length : Int) < (t.size : Int) := by omega
    have HF : Hid (withF (.mk g n t ks) l = (p3, false)) := hide (by rw [unhide HP3] at hroom ⊢; exact wf_no hroom)
    go_wp2
    go_ret2
    rw [unhide HF]
    exact ⟨_, rfl, (unhide S3').own, (unhide S3').gw⟩
  · have hr' : ¬ (100000 : Int) - (p3.length : Int) < (t.size : Int) := by omega
    have HF : Hid (withF (.mk g n t ks) l = withL ks (p3 ++ t.data.toList ++ uvarint ks.length)) := hide (by rw [unhide HP3] at hroom ⊢; exact wf_go hroom)
    have m1 : Hid (p3.length + t.size ≤ maxLen) := hide (by unfold maxLen; omega)
    have m2 : Hid (p3.length + t.size ≤ 140737488355328) := hide (by omega)
    go_wp2_with (at_builtin; refine wpList_app_str _ rfl _ _ 25 9 rfl B 5 i0 Try.underlying25 Try.underlying9 (unhide I0) (unhide I1) (unhide I2) (unhide I3) _ p3.length hppos _ rfl (unhide S3').own t rfl (unhide m1) (unhide m2) (unhide S3').le ?_)
    intro v4 w4 own4 hgrow4 hat4
    have S4 := hide ((unhide S3').step ⟨hgrow4, hat4.imp id fun e => ⟨_, e, Nat.le_refl _⟩⟩ (own_app (str_bcs t) rfl own4))
    clear own4 hgrow4 hat4 S3' x0 x1 x2 x3 m1 m2 hr'
    obtain ⟨x0, x1, x2, x3⟩ := (unhide S4).cells
    have ek : (ks.length : Int) % 18446744073709551616 = (ks.length : Int) := by omega
    have hs : t.data.toList.length = t.size := rfl
    have hl4 : (p3 ++ t.data.toList).length ≤ 100000 := by simp only [List.length_append, hs]; omega
    have C5 := hide (withNumber_any B w4 v4 (p3 ++ t.data.toList) ks.length (unhide S4).own (unhide S4).le (by omega) (by omega))
    go_wp2_with fail
    refine (unhide C5).mono ?_
    rintro e w5 ⟨v5, rfl, hO5, hG5⟩
    have S5 := hide ((unhide S4).step hG5 hO5)
    clear C5 hO5 hG5 S4 x0 x1 x2 x3 ek hs
    have hku := Go.Lib.uvarint_length64 (x := ks.length) (by omega)
    obtain ⟨p5, hp5⟩ : ∃ p5, p5 = p3 ++ t.data.toList ++ uvarint ks.length := ⟨_, rfl⟩
    have hp5l : p5.length ≤ m + 31 := by rw [hp5, List.length_append]; omega
    rw [← hp5] at S5 HF
    clear hp5 hl4 HP3 hp hppos hku hroom
    obtain ⟨x0, x1, x2, x3⟩ := (unhide S5).cells
    go_wp2_with fail
    clear x0 x1 x2 x3
    go_loopw [0, 48] (fun b i wr => ∃ (j : Nat) (q : List UInt8) (mq : Nat), j ≤ ks.length ∧ i = .int .i64 (j : Int) ∧ Hid (withL ks p5 = withL (ks.drop j) q) ∧ q.length ≤ mq ∧ 100000 ≤ mq ∧ mq + 31 * cntL (ks.drop j) ≤ 300000 ∧ Hid (Own B wr b q) ∧ Hid (Gw v b w wr) ∧ B ≤ wr.heap.size) (fun _ i _ => ks.length - (intOf i).toNat)
    case atStart => exact ⟨0, p5, m + 31, Nat.zero_le _, rfl, hide rfl, hp5l, by omega, by rw [List.drop_zero]; omega, hide (unhide S5).own, hide (unhide S5).gw, (unhide S5).le⟩
    case round =>
      obtain ⟨j, q, mq, hj, rfl, H, hq, hmq, hcq, HOr, HGr, hBr⟩ := hrel
      clear S5
      by_cases hlt2 : j < ks.length
      · have hi1 : (j : Int) < (ks.length : Int) := by omega
        obtain ⟨u, hu⟩ : ∃ u, ks[j]? = some u := ⟨_, List.getElem?_eq_getElem hlt2⟩
        have hdrop : ks.drop j = u :: ks.drop (j + 1) := by
          rw [List.drop_eq_getElem_cons hlt2]
          congr 1
          rw [List.getElem?_eq_getElem hlt2] at hu
          exact Option.some.inj hu
        have hum := List.mem_of_getElem? hu
        have HU := hide (unhide IH' u hum)
        obtain ⟨b, off, rfl, hbB, hmm⟩ := unhide HK (by intro e; rw [e] at hlt2; simp at hlt2)
        have hokU : okW u (d + 1) := okL_mem (unhide HOK) hum
        have hBw : Below B w wr := (unhide HGr).old (unhide HO) hB
        obtain ⟨cs, h6', hmu⟩ := MemWL.at (MemL.below hBw hbB hmm) j u hu
        have HM := hide hmu
        rw [hdrop] at H hcq
        rw [cntL] at hcq
        have hfu := hide (withF_len u q mq (MemWP.fit hmu) hmq hq)
        cases u with
        | mk g' n' t' kk =>
          rw [MemWP] at hmu
          obtain ⟨hn', ht', hk', a', cap', rfl, _⟩ := hmu
          obtain ⟨u0, u1, u2, u3, hu6, c0, c1, c2, c3⟩ := h6'
          simp only [Array.mk.injEq, List.cons.injEq, and_true] at hu6
          obtain ⟨rfl, rfl, rfl, rfl⟩ := hu6
          have hbn := below_new wr (.cells #[.int .i64 g', .int .i64 n', .string t', .slice a' kk.length cap'] 24)
          have HBN := hide hbn
          have C := hide (unhide HU B _ _ _ q mq (d + 1) ((unhide HOr).below hbn) (by simp; omega) (MemW.below (hbn.mono hBr) (unhide HM)) hokU hmq hq (by omega))
          clear hu hdrop hum ht' hk' hbn hBw hmm hokU HU HM HK
          go_wp2_with fail
          refine (unhide C).mono ?_
          rintro e w6 ⟨v6, rfl, hO6, hG6⟩
          have HG6 := hide (((unhide HGr).below (unhide HBN)).trans hG6)
          have HO6 := hide hO6
          have hs6 : B ≤ w6.heap.size := by
            have := hG6.size
            simp at this
            omega
          clear C hO6 hG6 c0 c1 c2 c3 HGr HOr
          cases hr : (withF (.mk g' n' t' kk) q).2 with
          | true =>
            have H2 := hide ((unhide H).trans (wL_yes (us := ks.drop (j + 1)) hr))
            generalize withF (.mk g' n' t' kk) q = R at *
            clear H
            go_wp2
            go_roundw
            case rel => exact ⟨j + 1, R.1, mq + 31 * cnt (.mk g' n' t' kk), by omega, by go_num, H2, unhide hfu, by omega, by omega, HO6, HG6, hs6⟩
            case measure => simp [intOf]; omega
          | false =>
            have H2 := hide ((unhide HF).trans ((unhide H).trans (wL_no (us := ks.drop (j + 1)) hr)))
            generalize withF (.mk g' n' t' kk) q = R at *
            clear H
            go_wp2
            go_ret2
            rw [unhide H2]
            exact ⟨_, rfl, unhide HO6, unhide HG6⟩
      · obtain rfl : j = ks.length := by omega
        have H2 : Hid (withF (.mk g n t ks) l = (q, true)) := by
          have h := unhide H
          rw [List.drop_length, wL_nil] at h
          exact hide ((unhide HF).trans h)
        go_wp2
        go_ret2
        rw [unhide H2]
        exact ⟨_, rfl, unhide HOr, unhide HGr⟩

mutual
theorem with_all : ∀ T : WT, WithC T
  | .mk g n t ks => with_of g n t ks (fun u h => with_alls ks u h)
theorem with_alls : ∀ (ks : List WT) (u : WT), u ∈ ks → WithC u
  | [], u, h => by cases h
  | v :: vs, u, h => by
    by_cases e : u = v
    · rw [e]; exact with_all v
    · exact with_alls vs u ((List.mem_cons.1 h).resolve_left e)
end
end Go.Proofs.Ytlienildfnlncaa
