/- Walks: listed. (Written by mk_ps.py.) -/
import Derived.Test.YthpjejfgoohhfaaGreatDoorG29
namespace Go.Proofs.YthpjejfgoohhfaaGreatDoor
open Go.RowKit Go.MapKept

theorem cell_new9 (W : World) (t : TypeId) (a : Array Value) : ∀ j u, a.toList[j]? = some u → (W.alloc (.cells a t)).cell? ((⟨W.heap.size, 0, none⟩ : Addr).add j) = some u := by
  intro j u h
  rw [Lib.add_plain]
  have h' : a[j]? = some u := by simpa using h
  simp [go_sem, h']
theorem err_ne {c : Int} {err : Value} (h : UV c err) : ∃ q, err = .iface 70 q := by
  obtain ⟨a, h⟩ := h
  exact ⟨_, h⟩

set_option maxRecDepth 100000 in
set_option maxHeartbeats 16000000 in
theorem listed_any {w : World} {R g m : Nat} {l : List Tk} {e : Int} {o i : Nat} (h : RD w R g m l e o i) (vw : Tree → Int) (c : ByteArray) (most : Nat) (hmost : most ≤ 1000) (N : Nat) (hN : 12 * (l.length - i) + 12 ≤ N + 1)
    (hE : ∀ n j W, i ≤ j → 12 * (l.length - j) + 11 ≤ n → n ≤ N → RD W R g m l e o j → Calls Tryz.prog 26 #[.pointer (some ⟨R, 0, none⟩)] W (PostX R g m l e o j ((ps l vw n).E o j) W)) :
    Calls Tryz.prog 109 #[.pointer (some ⟨R, 0, none⟩), .string c, .int .i64 (most : Int)] w (PostL R g m l e o i ((ps l vw (N + 1)).L c.data.toList most o [] i) w) := by
  obtain ⟨final, hfin⟩ : ∃ final, final = (ps l vw (N + 1)).L c.data.toList most o [] i := ⟨_, rfl⟩
  rw [← hfin]
  have HG0 : Hid (LG l vw (N + 1) c.data.toList most o final [] i) := hide ⟨N, hfin, by simpa using hN, Nat.le_refl _⟩
  have HEE := hide hE
  have HH := hide h
  have HM := hide hmost
  clear hfin hE h hN hmost
  go_enter Tryz.func109, Tryz.ntmps109
  go_wp2_with fail
  go_loopg [8] (2 * (l.length - i) + 1) (fun gk sv wr => ∃ (acc : List XT) (jj : Nat), gk = 2 * (l.length - jj) + (if acc = [] then 1 else 0) ∧ acc.length ≤ most ∧ Hid (LI R g m l e o i w acc jj sv wr) ∧ Hid (LG l vw (N + 1) c.data.toList most o final acc jj))
  case atStart => exact ⟨[], i, by simp, by simp, hide ⟨But.refl _ _, unhide HH, Nat.le_refl _, XO.nil _ _⟩, HG0⟩
  case round =>
    clear HG0
    obtain ⟨acc, jj, hgk, hal, HLI, HG⟩ := hrel
    obtain ⟨a, cap, rfl⟩ := (unhide HLI).own.shape
    have TK := hide (take_rd (unhide HLI).rd c)
    have HGK := hide hgk
    have HAL := hide hal
    clear hgk hal
    rcases hs : seesT l jj c.data.toList with _ | _
    case true =>
      rw [hs] at TK
      have HF := hide ((unhide HG).close hs)
      clear hs HG
      go_wp2_with fail
      refine (unhide TK _ rfl).mono ?_
      rintro en w1 ⟨rfl, hb1, hr1⟩
      simp only [if_true] at hr1
      have HL1 := hide ((unhide HLI).to hb1 hr1 (by omega) (unhide HH).low)
      clear hb1 hr1 TK HLI
      obtain ⟨nn, hnn⟩ : ∃ nn, nn = acc.length := ⟨_, rfl⟩
      have HN1 : Hid (nn ≤ 1000) := hide (by have := unhide HAL; have := unhide HM; omega)
      rw [← hnn] at HL1 ⊢
      clear hnn
      go_wp2
      go_ret2
      exact PostL.good (unhide HL1) (unhide HF) (unhide HN1)
    case false =>
      rw [hs] at TK
      have HS := hide hs
      clear hs
      go_wp2_with fail
      refine (unhide TK _ rfl).mono ?_
      rintro en w1 ⟨rfl, hb1, hr1⟩
      simp only [Bool.false_eq_true, if_false] at hr1
      have HL1 := hide ((unhide HLI).to hb1 hr1 (Nat.le_refl _) (unhide HH).low)
      clear hb1 hr1 TK HLI
      obtain ⟨nn, hnn⟩ : ∃ nn, nn = acc.length := ⟨_, rfl⟩
      have HNN := hide hnn
      rw [← hnn] at HL1 ⊢
      clear hnn
      rcases acc with _ | ⟨x0, xs0⟩
      · have gl : ¬ ((0 : Int) < (nn : Int)) := by have := unhide HNN; simp only [List.length_nil] at this; omega
        by_cases hm : nn = most
        · have gm : ((nn : Int) == (most : Int)) = true := by rw [hm]; simp
          have ST := hide (stuck_any R g jj e 5 l w1 (unhide HL1).rd.wk (unhide HL1).rd.tk)
          have HF := hide ((unhide HG).many (unhide HS) (.inl rfl) (by rw [← unhide HNN]; exact hm))
          clear hm
          go_wp2_with fail
          refine (unhide ST).mono ?_
          rintro en w3 ⟨⟨v, rfl, hu⟩, hb3⟩
          have HU := hide hu
          have HL3 := hide ((unhide HL1).to (But.of hb3) ((unhide HL1).rd.keep hb3) (Nat.le_refl _) (unhide HH).low)
          clear hu hb3 ST
          go_wp2
          go_ret2
          exact PostL.bad (unhide HL3).but (unhide HL3).rd (unhide HL3).ij (unhide HF) (by decide) (unhide HU)
        · have gm : ((nn : Int) == (most : Int)) = false := by rw [beq_eq_false_iff_ne]; omega
          obtain ⟨n, hnM, hn, hnx⟩ := (unhide HG).next (unhide HS) (.inl rfl) (by rw [← unhide HNN]; exact hm) jj (by simp)
          have hn' : n ≤ N := by omega
          have CN := hide (unhide HEE n jj w1 (unhide HL1).ij hn hn' (unhide HL1).rd)
          obtain ⟨y, hy⟩ : ∃ y, y = (ps l vw n).E o jj := ⟨_, rfl⟩
          rw [← hy] at CN
          have HY := hide (hnx y hy)
          have HMM : Hid (nn < most) := hide (by have := unhide HAL; have := unhide HNN; omega)
          clear hm hnM hn hn' hnx hy
          go_wp2_with fail
          refine (unhide CN).mono ?_
          rintro en wE ⟨hb2, cs, err, jp, rfl, h9, hr2, hij, hres⟩
          obtain ⟨k, vk, vy, vc, vx, vt, va, vn, vp, s, xa, xn, xc, rfl⟩ := h9
          by_cases hq : y.1 = 0
          · rw [if_pos hq] at hres
            obtain ⟨rfl, rfl, hxb⟩ := hres
            obtain ⟨wF, hwF⟩ : ∃ wF, wF = (wE.alloc (.cells #[.int .i64 k, .int .i64 vk, .bool vy, .int .i64 vc, .int .i64 vx, .string vt, .slice va vn vp, .string s, .slice xa xn xc] 29)).alloc (.cells #[.int .i64 k, .int .i64 vk, .bool vy, .int .i64 vc, .int .i64 vx, .string vt, .slice va vn vp, .string s, .slice xa xn xc] 29) := ⟨_, rfl⟩
            have BF : Below wE.heap.size wE wF := by rw [hwF]; exact below_via (vbelow_new _ _) (vbelow_new _ _)
            have cF := cell_new9 (wE.alloc (.cells #[.int .i64 k, .int .i64 vk, .bool vy, .int .i64 vc, .int .i64 vx, .string vt, .slice va vn vp, .string s, .slice xa xn xc] 29)) 29 #[.int .i64 k, .int .i64 vk, .bool vy, .int .i64 vc, .int .i64 vx, .string vt, .slice va vn vp, .string s, .slice xa xn xc]
            rw [World.size_alloc, ← hwF] at cF
            obtain ⟨cs, hown0, hxc0⟩ := (((unhide HL1).own.but hb2 (unhide HH).low).keep BF).mem
            rw [← unhide HNN] at hown0
            have HCS := hide hxc0
            have HOW := hide hown0
            have HBF := hide BF
            have HCF := hide cF
            have HXB := hide hxb
            have HR2 := hide hr2
            have HB2 := hide hb2
            have HIJ := hide hij
            have HG2 := hide ((unhide HY).2 hq hij)
            have HBS : Hid (w.heap.size ≤ wF.heap.size) := hide (Nat.le_trans (Nat.le_trans (unhide HL1).but.size hb2.size) BF.size)
            clear hown0 hxc0 BF cF hxb hr2 hb2 hij CN HY hq
            obtain ⟨i0, hi, hz0, hz1, hz2⟩ := info_parts9 _ _ _ _ _ info_X
            have HI := hide (And.intro hi (And.intro hz0 (And.intro hz1 hz2)))
            clear hi hz0 hz1 hz2
            have HFZ : Hid (wF.heap.size = wE.heap.size + 1 + 1) := hide (by rw [hwF]; simp)
            have HNB : Hid (nn + 1 ≤ maxLen ∧ (nn + 1) * 120 ≤ 140737488355328) := hide (by have := unhide HMM; have := unhide HM; unfold maxLen; omega)
            go_wp2_with (at_builtin; rw [← hwF]; refine wpList_append_own_at _ rfl _ _ 27 rfl w.heap.size 29 i0 (.agg zero9) 9 120 Tryz.underlying27 (unhide HI).1 (unhide HI).2.1 (unhide HI).2.2.1 (unhide HI).2.2.2 rfl (by decide) _ _ _ rfl (unhide HOW) ⟨wE.heap.size + 1, 0, none⟩ 1 1 (#[.int .i64 k, .int .i64 vk, .bool vy, .int .i64 vc, .int .i64 vx, .string vt, .slice va vn vp, .string s, .slice xa xn xc]).toList rfl rfl (unhide HCF) ?_ (unhide HNB).1 (unhide HNB).2 (unhide HBS) ?_)
            · first | exact ⟨rfl, rfl, rfl, rfl, rfl, rfl, rfl, rfl, rfl⟩ | (intro u hu; simp at hu; rcases hu with rfl | rfl | rfl | rfl | rfl | rfl | rfl | rfl | rfl <;> rfl)
            intro v' w' hown hgrow hnil hat
            rw [unhide HNN] at hown
            rw [← hwF] at hgrow
            replace hat : v'.ownBlock = (Value.slice a nn cap).ownBlock ∨ v'.ownBlock = some wF.heap.size := by rw [unhide HFZ]; exact hat
            have HL4 := hide (LI.next (unhide HL1) (unhide HH) (unhide HB2) (unhide HR2) (unhide HIJ) (unhide HXB) (unhide HBF) (unhide HCS) hown hgrow hat)
            clear hown hgrow hnil hat HXB HBF HCS HOW HCF HI hwF
            go_wp2
            go_roundg (2 * (l.length - y.2.2))
            case measure => rw [unhide HGK]; simp only [if_true]; have := unhide HIJ; omega
            case rel => exact ⟨[] ++ [y.2.1], y.2.2, by simp, by have := unhide HMM; have := unhide HNN; rw [List.length_append]; simp only [List.length_singleton]; omega, HL4, HG2⟩
          · rw [if_neg hq] at hres
            obtain ⟨q, rfl⟩ := err_ne hres
            have HU := hide hres
            have HF := hide ((unhide HY).1 hq)
            have HC1 := hide hq
            have HL3 := hide ((unhide HL1).to hb2 hr2 (by omega) (unhide HH).low)
            clear hres hq hb2 hr2 hij CN HY
            obtain ⟨wF, hwF⟩ : ∃ wF, wF = wE.alloc (.cells #[.int .i64 k, .int .i64 vk, .bool vy, .int .i64 vc, .int .i64 vx, .string vt, .slice va vn vp, .string s, .slice xa xn xc] 29) := ⟨_, rfl⟩
            have BF : Below wE.heap.size wE wF := by rw [hwF]; exact vbelow_new _ _
            have HL4 := hide ((unhide HL3).to (But.of BF) ((unhide HL3).rd.keep BF) (Nat.le_refl _) (unhide HH).low)
            clear BF HL3
            go_upto_region 10 with fail
            rw [← hwF]
            clear hwF
            go_wp2
            go_ret2
            exact PostL.bad (unhide HL4).but (unhide HL4).rd (unhide HL4).ij (unhide HF) (unhide HC1) (unhide HU)
      · have HNE : Hid ((x0 :: xs0) ≠ []) := hide (by simp)
        have gl : (0 : Int) < (nn : Int) := by have := unhide HNN; simp only [List.length_cons] at this; omega
        generalize x0 :: xs0 = acc at *
        have ND := hide (need_rd (unhide HL1).rd ⟨#[44]⟩)
        have e44 : seesT l jj (⟨#[44]⟩ : ByteArray).data.toList = seesT l jj [44] := rfl
        rw [e44] at ND
        clear e44
        go_wp2_with fail
        refine (unhide ND).mono ?_
        rintro en w2 ⟨v, rfl, hb2, hv⟩
        rcases hc : seesT l jj [44] with _ | _
        · simp only [hc, Bool.false_eq_true, if_false] at hv
          obtain ⟨hu, hr2⟩ := hv
          obtain ⟨q, rfl⟩ := err_ne hu
          have HU := hide hu
          have HF := hide ((unhide HG).comma (unhide HS) (unhide HNE) hc)
          have HL3 := hide ((unhide HL1).to hb2 hr2 (Nat.le_refl _) (unhide HH).low)
          clear hu hb2 hr2 ND hc
          go_wp2
          go_ret2
          exact PostL.bad (unhide HL3).but (unhide HL3).rd (unhide HL3).ij (unhide HF) (by decide) (unhide HU)
        · simp only [hc, if_true] at hv
          obtain ⟨rfl, hr2⟩ := hv
          have HCM := hide hc
          have HL2 := hide ((unhide HL1).to hb2 hr2 (Nat.le_succ _) (unhide HH).low)
          clear hb2 hr2 ND hc
          by_cases hm : nn = most
          · have gm : ((nn : Int) == (most : Int)) = true := by rw [hm]; simp
            have ST := hide (stuck_any R g (jj + 1) e 5 l w2 (unhide HL2).rd.wk (unhide HL2).rd.tk)
            have HF := hide ((unhide HG).many (unhide HS) (.inr (unhide HCM)) (by rw [← unhide HNN]; exact hm))
            clear hm
            go_wp2_with fail
            refine (unhide ST).mono ?_
            rintro en w3 ⟨⟨v, rfl, hu⟩, hb3⟩
            have HU := hide hu
            have HL3 := hide ((unhide HL2).to (But.of hb3) ((unhide HL2).rd.keep hb3) (Nat.le_refl _) (unhide HH).low)
            clear hu hb3 ST
            go_wp2
            go_ret2
            exact PostL.bad (unhide HL3).but (unhide HL3).rd (unhide HL3).ij (unhide HF) (by decide) (unhide HU)
          · have gm : ((nn : Int) == (most : Int)) = false := by rw [beq_eq_false_iff_ne]; omega
            obtain ⟨n, hnM, hn, hnx⟩ := (unhide HG).next (unhide HS) (.inr (unhide HCM)) (by rw [← unhide HNN]; exact hm) (jj + 1) (by rw [if_neg (unhide HNE)])
            have hn' : n ≤ N := by omega
            have CN := hide (unhide HEE n (jj + 1) w2 (unhide HL2).ij hn hn' (unhide HL2).rd)
            obtain ⟨y, hy⟩ : ∃ y, y = (ps l vw n).E o (jj + 1) := ⟨_, rfl⟩
            rw [← hy] at CN
            have HY := hide (hnx y hy)
            have HMM : Hid (nn < most) := hide (by have := unhide HAL; have := unhide HNN; omega)
            clear hm hnM hn hn' hnx hy
            go_wp2_with fail
            refine (unhide CN).mono ?_
            rintro en wE ⟨hb2, cs, err, jp, rfl, h9, hr2, hij, hres⟩
            obtain ⟨k, vk, vy, vc, vx, vt, va, vn, vp, s, xa, xn, xc, rfl⟩ := h9
            by_cases hq : y.1 = 0
            · rw [if_pos hq] at hres
              obtain ⟨rfl, rfl, hxb⟩ := hres
              obtain ⟨wF, hwF⟩ : ∃ wF, wF = (wE.alloc (.cells #[.int .i64 k, .int .i64 vk, .bool vy, .int .i64 vc, .int .i64 vx, .string vt, .slice va vn vp, .string s, .slice xa xn xc] 29)).alloc (.cells #[.int .i64 k, .int .i64 vk, .bool vy, .int .i64 vc, .int .i64 vx, .string vt, .slice va vn vp, .string s, .slice xa xn xc] 29) := ⟨_, rfl⟩
              have BF : Below wE.heap.size wE wF := by rw [hwF]; exact below_via (vbelow_new _ _) (vbelow_new _ _)
              have cF := cell_new9 (wE.alloc (.cells #[.int .i64 k, .int .i64 vk, .bool vy, .int .i64 vc, .int .i64 vx, .string vt, .slice va vn vp, .string s, .slice xa xn xc] 29)) 29 #[.int .i64 k, .int .i64 vk, .bool vy, .int .i64 vc, .int .i64 vx, .string vt, .slice va vn vp, .string s, .slice xa xn xc]
              rw [World.size_alloc, ← hwF] at cF
              obtain ⟨cs, hown0, hxc0⟩ := (((unhide HL2).own.but hb2 (unhide HH).low).keep BF).mem
              rw [← unhide HNN] at hown0
              have HCS := hide hxc0
              have HOW := hide hown0
              have HBF := hide BF
              have HCF := hide cF
              have HXB := hide hxb
              have HR2 := hide hr2
              have HB2 := hide hb2
              have HIJ := hide hij
              have HG2 := hide ((unhide HY).2 hq hij)
              have HBS : Hid (w.heap.size ≤ wF.heap.size) := hide (Nat.le_trans (Nat.le_trans (unhide HL2).but.size hb2.size) BF.size)
              clear hown0 hxc0 BF cF hxb hr2 hb2 hij CN HY hq
              obtain ⟨i0, hi, hz0, hz1, hz2⟩ := info_parts9 _ _ _ _ _ info_X
              have HI := hide (And.intro hi (And.intro hz0 (And.intro hz1 hz2)))
              clear hi hz0 hz1 hz2
              have HFZ : Hid (wF.heap.size = wE.heap.size + 1 + 1) := hide (by rw [hwF]; simp)
              have HNB : Hid (nn + 1 ≤ maxLen ∧ (nn + 1) * 120 ≤ 140737488355328) := hide (by have := unhide HMM; have := unhide HM; unfold maxLen; omega)
              go_wp2_with (at_builtin; rw [← hwF]; refine wpList_append_own_at _ rfl _ _ 27 rfl w.heap.size 29 i0 (.agg zero9) 9 120 Tryz.underlying27 (unhide HI).1 (unhide HI).2.1 (unhide HI).2.2.1 (unhide HI).2.2.2 rfl (by decide) _ _ _ rfl (unhide HOW) ⟨wE.heap.size + 1, 0, none⟩ 1 1 (#[.int .i64 k, .int .i64 vk, .bool vy, .int .i64 vc, .int .i64 vx, .string vt, .slice va vn vp, .string s, .slice xa xn xc]).toList rfl rfl (unhide HCF) ?_ (unhide HNB).1 (unhide HNB).2 (unhide HBS) ?_)
              · first | exact ⟨rfl, rfl, rfl, rfl, rfl, rfl, rfl, rfl, rfl⟩ | (intro u hu; simp at hu; rcases hu with rfl | rfl | rfl | rfl | rfl | rfl | rfl | rfl | rfl <;> rfl)
              intro v' w' hown hgrow hnil hat
              rw [unhide HNN] at hown
              rw [← hwF] at hgrow
              replace hat : v'.ownBlock = (Value.slice a nn cap).ownBlock ∨ v'.ownBlock = some wF.heap.size := by rw [unhide HFZ]; exact hat
              have HL4 := hide (LI.next (unhide HL2) (unhide HH) (unhide HB2) (unhide HR2) (unhide HIJ) (unhide HXB) (unhide HBF) (unhide HCS) hown hgrow hat)
              clear hown hgrow hnil hat HXB HBF HCS HOW HCF HI hwF
              go_wp2
              go_roundg (2 * (l.length - y.2.2))
              case measure => rw [unhide HGK, if_neg (unhide HNE)]; have := unhide HIJ; have := seesT_lt (unhide HCM); omega
              case rel => exact ⟨acc ++ [y.2.1], y.2.2, by simp, by have := unhide HMM; have := unhide HNN; rw [List.length_append]; simp only [List.length_singleton]; omega, HL4, HG2⟩
            · rw [if_neg hq] at hres
              obtain ⟨q, rfl⟩ := err_ne hres
              have HU := hide hres
              have HF := hide ((unhide HY).1 hq)
              have HC1 := hide hq
              have HL3 := hide ((unhide HL2).to hb2 hr2 (by omega) (unhide HH).low)
              clear hres hq hb2 hr2 hij CN HY
              obtain ⟨wF, hwF⟩ : ∃ wF, wF = wE.alloc (.cells #[.int .i64 k, .int .i64 vk, .bool vy, .int .i64 vc, .int .i64 vx, .string vt, .slice va vn vp, .string s, .slice xa xn xc] 29) := ⟨_, rfl⟩
              have BF : Below wE.heap.size wE wF := by rw [hwF]; exact vbelow_new _ _
              have HL4 := hide ((unhide HL3).to (But.of BF) ((unhide HL3).rd.keep BF) (Nat.le_refl _) (unhide HH).low)
              clear BF HL3
              go_upto_region 10 with fail
              rw [← hwF]
              clear hwF
              go_wp2
              go_ret2
              exact PostL.bad (unhide HL4).but (unhide HL4).rd (unhide HL4).ij (unhide HF) (unhide HC1) (unhide HU)
end Go.Proofs.YthpjejfgoohhfaaGreatDoor

/- Walks: behind. (Written by mk_pt.py.) -/
namespace Go.Proofs.YthpjejfgoohhfaaGreatDoor
open Go.RowKit Go.MapKept

set_option maxRecDepth 100000 in
set_option maxHeartbeats 16000000 in
theorem behind_any {w : World} {R g m p : Nat} {l : List Tk} {e : Int} {o i : Nat} (h : RD w R g m l e o i) (vw : Tree → Int) (ss : List ByteArray) (hT : TXB w p ss) (hpR : p ≠ R) (hss : ss.length ≤ 1000) (N : Nat) (hN : 12 * (l.length - i) ≤ N + 1)
    (hE : ∀ n j W, i ≤ j → 12 * (l.length - j) + 11 ≤ n → n ≤ N → RD W R g m l e o j → Calls Tryz.prog 26 #[.pointer (some ⟨R, 0, none⟩)] W (PostX R g m l e o j ((ps l vw n).E o j) W)) :
    Calls Tryz.prog 44 #[.pointer (some ⟨R, 0, none⟩), .slice (some ⟨p, 0, none⟩) ss.length ss.length] w (PostL R g m l e o i ((ps l vw (N + 1)).B (ss.map fun s => s.data.toList) o [] i) w) := by
  obtain ⟨final, hfin⟩ : ∃ final, final = (ps l vw (N + 1)).B (ss.map fun s => s.data.toList) o [] i := ⟨_, rfl⟩
  rw [← hfin]
  have HG0 : Hid (BG l vw (N + 1) o final ((ss.drop 0).map fun s => s.data.toList) [] i) := hide ⟨N, by simpa using hfin, hN, Nat.le_refl _⟩
  have HEE := hide hE
  have HH := hide h
  have HT := hide hT
  have HPR := hide hpR
  obtain ⟨nw, hnw⟩ : ∃ nw, nw = ss.length := ⟨_, rfl⟩
  have HNW := hide hnw
  have HSS : Hid (nw ≤ 1000) := hide (by omega)
  rw [← hnw]
  clear hfin hE h hN hT hpR hss hnw
  go_enter Tryz.func44, Tryz.ntmps44
  go_wp2_with fail
  go_loopg [6, 14] nw (fun gk sv iv wr => ∃ (acc : List XT) (ix jj : Nat), iv = .int .i64 (ix : Int) ∧ gk = nw - ix ∧ ix ≤ nw ∧ Hid (acc.length = ix) ∧ Hid (LI R g m l e o i w acc jj sv wr) ∧ Hid (BG l vw (N + 1) o final ((ss.drop ix).map fun s => s.data.toList) acc jj))
  case atStart => exact ⟨[], 0, i, rfl, by simp, Nat.zero_le _, hide rfl, hide ⟨But.refl _ _, unhide HH, Nat.le_refl _, XO.nil _ _⟩, HG0⟩
  case round =>
    clear HG0
    obtain ⟨acc, ix, jj, rfl, hgk, hix, HAC, HLI, HG⟩ := hrel
    obtain ⟨a, cap, rfl⟩ := (unhide HLI).own.shape
    obtain ⟨nn, hnn⟩ : ∃ nn, nn = acc.length := ⟨_, rfl⟩
    have HNN := hide hnn
    rw [← hnn] at HLI ⊢
    have HGK := hide hgk
    clear hgk hnn
    rcases Nat.lt_or_ge ix nw with hlt | hge
    · have gl : (ix : Int) < (nw : Int) := by omega
      obtain ⟨sw, hsw⟩ : ∃ sw, ss[ix]? = some sw := ⟨_, List.getElem?_eq_getElem (by rw [← unhide HNW]; exact hlt)⟩
      have hdr : ((ss.drop ix).map fun s => s.data.toList) = sw.data.toList :: ((ss.drop (ix + 1)).map fun s => s.data.toList) := by
        obtain ⟨hl, he⟩ := List.getElem?_eq_some_iff.1 hsw
        rw [List.drop_eq_getElem_cons hl, he]; rfl
      rw [hdr] at HG
      have cw : wr.cell? ⟨p, ix, none⟩ = some (.string sw) := ((unhide HLI).but.cell (q := ⟨p, ix, none⟩) (unhide HT).low (unhide HPR)).trans ((unhide HT).cell ix sw hsw)
      have HLT := hide hlt
      clear hdr hsw hix
      go_upto_region 5 with fail
      have ND := hide (need_rd (unhide HLI).rd sw)
      clear cw
      go_wp2_with fail
      refine (unhide ND).mono ?_
      rintro en w2 ⟨v, rfl, hb2, hv⟩
      rcases hc : seesT l jj sw.data.toList with _ | _
      · simp only [hc, Bool.false_eq_true, if_false] at hv
        obtain ⟨hu, hr2⟩ := hv
        obtain ⟨q, rfl⟩ := err_ne hu
        have HU := hide hu
        have HF := hide ((unhide HG).word hc)
        have HL3 := hide ((unhide HLI).to hb2 hr2 (Nat.le_refl _) (unhide HH).low)
        clear hu hb2 hr2 ND hc
        go_wp2
        go_ret2
        exact PostL.bad (unhide HL3).but (unhide HL3).rd (unhide HL3).ij (unhide HF) (by decide) (unhide HU)
      · simp only [hc, if_true] at hv
        obtain ⟨rfl, hr2⟩ := hv
        have HL2 := hide ((unhide HLI).to hb2 hr2 (Nat.le_succ _) (unhide HH).low)
        obtain ⟨n, hnM, hn, hnx⟩ := (unhide HG).next hc
        have CN := hide (unhide HEE n (jj + 1) w2 (by have := (unhide HLI).ij; omega) hn (by omega) (unhide HL2).rd)
        obtain ⟨y, hy⟩ : ∃ y, y = (ps l vw n).E o (jj + 1) := ⟨_, rfl⟩
        rw [← hy] at CN
        have HY := hide (hnx y hy)
        clear hb2 hr2 ND hc hnM hn hnx hy
        go_wp2_with fail
        refine (unhide CN).mono ?_
        rintro en wE ⟨hb2, cs, err, jp, rfl, h9, hr2, hij, hres⟩
        obtain ⟨k, vk, vy, vc, vx, vt, va, vn, vp, s, xa, xn, xc, rfl⟩ := h9
        by_cases hq : y.1 = 0
        · rw [if_pos hq] at hres
          obtain ⟨rfl, rfl, hxb⟩ := hres
          obtain ⟨wF, hwF⟩ : ∃ wF, wF = (wE.alloc (.cells #[.int .i64 k, .int .i64 vk, .bool vy, .int .i64 vc, .int .i64 vx, .string vt, .slice va vn vp, .string s, .slice xa xn xc] 29)).alloc (.cells #[.int .i64 k, .int .i64 vk, .bool vy, .int .i64 vc, .int .i64 vx, .string vt, .slice va vn vp, .string s, .slice xa xn xc] 29) := ⟨_, rfl⟩
          have BF : Below wE.heap.size wE wF := by rw [hwF]; exact below_via (vbelow_new _ _) (vbelow_new _ _)
          have cF := cell_new9 (wE.alloc (.cells #[.int .i64 k, .int .i64 vk, .bool vy, .int .i64 vc, .int .i64 vx, .string vt, .slice va vn vp, .string s, .slice xa xn xc] 29)) 29 #[.int .i64 k, .int .i64 vk, .bool vy, .int .i64 vc, .int .i64 vx, .string vt, .slice va vn vp, .string s, .slice xa xn xc]
          rw [World.size_alloc, ← hwF] at cF
          obtain ⟨cs, hown0, hxc0⟩ := (((unhide HL2).own.but hb2 (unhide HH).low).keep BF).mem
          rw [← unhide HNN] at hown0
          have HCS := hide hxc0
          have HOW := hide hown0
          have HBF := hide BF
          have HCF := hide cF
          have HXB := hide hxb
          have HR2 := hide hr2
          have HB2 := hide hb2
          have HIJ := hide hij
          have HG2 := hide ((unhide HY).2 hq hij)
          have HBS : Hid (w.heap.size ≤ wF.heap.size) := hide (Nat.le_trans (Nat.le_trans (unhide HL2).but.size hb2.size) BF.size)
          clear hown0 hxc0 BF cF hxb hr2 hb2 hij CN HY hq
          obtain ⟨i0, hi, hz0, hz1, hz2⟩ := info_parts9 _ _ _ _ _ info_X
          have HI := hide (And.intro hi (And.intro hz0 (And.intro hz1 hz2)))
          clear hi hz0 hz1 hz2
          have HFZ : Hid (wF.heap.size = wE.heap.size + 1 + 1) := hide (by rw [hwF]; simp)
          have HNB : Hid (nn + 1 ≤ maxLen ∧ (nn + 1) * 120 ≤ 140737488355328) := hide (by have := unhide HLT; have := unhide HSS; have := unhide HAC; have := unhide HNN; unfold maxLen; omega)
          have HLL : Hid (ix + 1 ≤ nw) := hide (by have := unhide HLT; omega)
          have HW1 : Hid (IntKind.i64.wrap ((ix : Int) + 1) = ((ix + 1 : Nat) : Int)) := hide (by have := unhide HLT; have := unhide HSS; rw [IntKind.wrap_i64]; omega)
          go_wp2_with (at_builtin; rw [← hwF]; refine wpList_append_own_at _ rfl _ _ 27 rfl w.heap.size 29 i0 (.agg zero9) 9 120 Tryz.underlying27 (unhide HI).1 (unhide HI).2.1 (unhide HI).2.2.1 (unhide HI).2.2.2 rfl (by decide) _ _ _ rfl (unhide HOW) ⟨wE.heap.size + 1, 0, none⟩ 1 1 (#[.int .i64 k, .int .i64 vk, .bool vy, .int .i64 vc, .int .i64 vx, .string vt, .slice va vn vp, .string s, .slice xa xn xc]).toList rfl rfl (unhide HCF) ?_ (unhide HNB).1 (unhide HNB).2 (unhide HBS) ?_)
          · first | exact ⟨rfl, rfl, rfl, rfl, rfl, rfl, rfl, rfl, rfl⟩ | (intro u hu; simp at hu; rcases hu with rfl | rfl | rfl | rfl | rfl | rfl | rfl | rfl | rfl <;> rfl)
          intro v' w' hown hgrow hnil hat
          rw [unhide HNN] at hown
          rw [← hwF] at hgrow
          replace hat : v'.ownBlock = (Value.slice a nn cap).ownBlock ∨ v'.ownBlock = some wF.heap.size := by rw [unhide HFZ]; exact hat
          have HL4 := hide (LI.next (unhide HL2) (unhide HH) (unhide HB2) (unhide HR2) (unhide HIJ) (unhide HXB) (unhide HBF) (unhide HCS) hown hgrow hat)
          clear hown hgrow hnil hat HXB HBF HCS HOW HCF HI hwF hlt gl
          have w1 := unhide HW1
          go_wp2
          go_roundg (nw - (ix + 1))
          case measure => rw [unhide HGK]; have := unhide HLT; omega
          case rel => exact ⟨acc ++ [y.2.1], ix + 1, y.2.2, by first | rfl | go_num, rfl, unhide HLL, hide (by have := unhide HAC; rw [List.length_append]; simp only [List.length_singleton]; omega), HL4, HG2⟩
        · rw [if_neg hq] at hres
          obtain ⟨q, rfl⟩ := err_ne hres
          have HU := hide hres
          have HF := hide ((unhide HY).1 hq)
          have HC1 := hide hq
          have HL3 := hide ((unhide HL2).to hb2 hr2 (by omega) (unhide HH).low)
          clear hres hq hb2 hr2 hij CN HY
          obtain ⟨wF, hwF⟩ : ∃ wF, wF = wE.alloc (.cells #[.int .i64 k, .int .i64 vk, .bool vy, .int .i64 vc, .int .i64 vx, .string vt, .slice va vn vp, .string s, .slice xa xn xc] 29) := ⟨_, rfl⟩
          have BF : Below wE.heap.size wE wF := by rw [hwF]; exact vbelow_new _ _
          have HL4 := hide ((unhide HL3).to (But.of BF) ((unhide HL3).rd.keep BF) (Nat.le_refl _) (unhide HH).low)
          clear BF HL3
          go_upto_region 9 with fail
          rw [← hwF]
          clear hwF
          go_wp2
          go_ret2
          exact PostL.bad (unhide HL4).but (unhide HL4).rd (unhide HL4).ij (unhide HF) (unhide HC1) (unhide HU)
    · obtain rfl : ix = nw := by omega
      have HF : Hid (final = (0, acc, jj)) := hide (by
        have := unhide HG
        rw [List.drop_eq_nil_of_le (by rw [← unhide HNW]; exact Nat.le_refl _)] at this
        exact this.done)
      clear HG hge hix
      go_wp2
      go_ret2
      exact PostL.good (unhide HLI) (unhide HF) (by have := unhide HNN; have := unhide HAC; have := unhide HSS; omega)
end Go.Proofs.YthpjejfgoohhfaaGreatDoor
