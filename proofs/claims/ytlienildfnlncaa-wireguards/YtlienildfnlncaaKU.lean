/- The law WireGuards' walk. -/
import Derived.Test.YtlienildfnlncaaKT
namespace Go.Proofs.Ytlienildfnlncaa
open Go.RowKit

theorem bcs_set (l : List UInt8) (i : Nat) (x : UInt8) : bcs (l.set i x) = (bcs l).set i (.int .u8 (x.toNat : Int)) := by simp [bcs, List.map_set]
theorem own_set {B : Nat} {w : World} {g cap n : Nat} {l : List UInt8} {i : Nat} {x : UInt8} (hn : n = l.length) (h : Own B w (.slice (some ⟨g, 0, none⟩) n cap) l) : Own B (w.setCell ⟨g, i, none⟩ (.int .u8 (x.toNat : Int))) (.slice (some ⟨g, 0, none⟩) n cap) (l.set i x) := by
  subst hn
  unfold Own at h ⊢
  have q := World.ownsRow.stored h i (.int .u8 (x.toNat : Int))
  rw [bcs_set]
  simpa using q.1
theorem xor_byte (a b : UInt8) (z : Int) (hz : z = (b.toNat : Int)) : bits .xor .u8 (a.toNat : Int) z = ((a ^^^ b).toNat : Int) := by
  rw [hz, u8_xor_nat _ _ a.toNat_lt b.toNat_lt, UInt8.toNat_xor]
theorem xb_int {X k : Nat} {x : Int} (hx : x = (X : Int)) : x / 2 ^ ((8 * (k : Int)).toNat) % 256 = ((xb X k).toNat : Int) := by
  rw [xb_num, hx]
  have e : (8 * (k : Int)).toNat = 8 * k := by omega
  have e2 : (2 : Int) ^ (8 * k) = ((256 ^ k : Nat) : Int) := by
    rw [show (256 : Nat) = 2 ^ 8 from rfl, ← Nat.pow_mul]
    simp
  rw [e, e2, Int.natCast_emod, Int.natCast_ediv]
  rfl

set_option maxHeartbeats 4000000 in
theorem guards_walk (T : WT) (tv : Array Value) (at' x : Int) (w : World) (hM : MemW w.heap.size w T tv) (_hat : (Lit.int .i64 at').wf = true) (hx : (Lit.int .u32 x).wf = true) :
    Calls Try.prog 5 #[.agg tv, .int .i64 at', .int .u32 x] w fun e w' => e = .returned (.bool true) ∧ Below w.heap.size w w' := by
  have hx2 := wf_u32 hx
  have HM := hide hM
  have hM0 := hM
  obtain ⟨g, n, t, ks, rfl⟩ : ∃ g n t ks, T = .mk g n t ks := by cases T; exact ⟨_, _, _, _, rfl⟩
  rw [MemW, MemWP] at hM0
  obtain ⟨hn, ht, hk, a, cap, rfl, _⟩ := hM0
  obtain ⟨T, hT⟩ : ∃ T, T = WT.mk g n t ks := ⟨_, rfl⟩
  rw [← hT] at HM
  obtain ⟨W0, hW0⟩ : ∃ W0, W0 = w.alloc (.cells #[.int .i64 g, .int .i64 n, .string t, .slice a ks.length cap] 24) := ⟨_, rfl⟩
  have B0 : Below w.heap.size w W0 := by rw [hW0]; exact below_new _ _
  have X0 : Bx W0 w.heap.size (.int .i64 g) (.int .i64 n) (.string t) (.slice a ks.length cap) := by rw [hW0]; exact Bx.new _ _ _ _ _ _
  have HB0 := hide B0
  have HX0 := hide X0
  have C0 := hide (alive_any W0)
  clear B0 X0 hM hT hx
  go_enter Try.func5, Try.ntmps5
  go_wp2_with fail
  rw [← hW0]
  clear hW0
  refine (unhide C0).mono ?_
  rintro e w1 ⟨rfl, hb1⟩
  have HB1 := hide (below_via (unhide HB0) hb1)
  have HX1 := hide ((unhide HX0).keep hb1)
  obtain ⟨x0, x1, x2, x3⟩ := (unhide HX1).tell
  have C1 := hide (bytes_any T _ w1 ((unhide HM).grow (unhide HB1)))
  clear C0 HB0 HX0 hb1
  go_wp2_with fail
  refine (unhide C1).mono ?_
  rintro e w2 ⟨v2, rfl, hO2, hb2⟩
  have HB2 := hide (below_via (unhide HB1) hb2)
  have HO2 := hide hO2
  have hs1 := hb2.size
  clear C1 HB1 HX1 hb2 hO2 x0 x1 x2 x3
  by_cases hok : (bytesF T).1 = 0
  · have hpair : bytesF T = (0, (bytesF T).2) := by rw [← hok]
    have HP := hide hpair
    have hne : (bytesF T).2 ≠ [] := by
      unfold bytesF at hok ⊢
      split at hok
      · rename_i q
        exact absurd hok q
      · split at hok
        · cases hok
        · rename_i q1 q2
          rw [if_neg q1, if_neg q2]
          simp [four]
    rw [hok]
    obtain ⟨l, hl⟩ : ∃ l, (bytesF T).2 = l := ⟨_, rfl⟩
    rw [hl] at HP HO2 hne
    have hl100 : l.length ≤ 100000 := by
      have h := unhide HP
      unfold bytesF at h
      split at h
      · rename_i q
        exact absurd (congrArg Prod.fst h) q
      · split at h
        · cases h
        · have hx' : enc T ++ four (sumB (enc T)).toNat = l := congrArg Prod.snd h
          rw [← hx', List.length_append, four_len]
          omega
    clear hl hok hpair
    obtain ⟨gb, cb, hv2, hcb, _, hgb, lgb, hbc⟩ := (unhide HO2).shape hne
    subst hv2
    by_cases hat0 : at' < 0
    · go_wp2
      go_ret
      exact ⟨rfl, unhide HB2⟩
    by_cases hat1 : (l.length : Int) - 4 < at'
    · go_wp2
      go_ret
      exact ⟨rfl, unhide HB2⟩
    by_cases hx0 : x = 0
    · subst hx0
      go_wp2
      go_ret
      exact ⟨rfl, unhide HB2⟩
    have hx0' : (x == 0) = false := by simpa using hx0
    obtain ⟨A, hA⟩ : ∃ A : Nat, at' = (A : Int) := ⟨at'.toNat, by omega⟩
    obtain ⟨X, hX⟩ : ∃ X : Nat, x = (X : Int) := ⟨x.toNat, by omega⟩
    have HA4 : Hid (A + 4 ≤ l.length) := hide (by omega)
    have HX : Hid (x = (X : Int) ∧ X < 4294967296 ∧ X ≠ 0) := hide ⟨hX, by omega, by omega⟩
    have HG := hide (guard_bytes (unhide HP) (unhide HA4) (unhide HX).2.1 (unhide HX).2.2)
    obtain ⟨i0, hi, hz0, hz1, hz2⟩ := info_parts info_u8
    have I0 := hide hi
    have I1 := hide hz0
    have I2 := hide hz1
    have I3 := hide hz2
    have O3 : Hid (Own w2.heap.size (w2.alloc (.cells #[] 5)) (.slice (some ⟨w2.heap.size, 0, none⟩) 0 0) []) := hide (World.ownsRow_made w2 #[] 0 (Nat.le_refl _) (by unfold maxLen; omega) (by simp))
    have N3 : Hid (∀ j u, (bcs l)[j]? = some u → (w2.alloc (.cells #[] 5)).cell? ((⟨gb, 0, none⟩ : Addr).add j) = some u) := hide fun j u hj => by
      rw [Addr.add_lit]
      have hj' : j < l.length := by
        have := (List.getElem?_eq_some_iff.1 hj).1
        rwa [bcs_len] at this
      have e : (bcs l)[j]? = some (.int .u8 (l[j].toNat : Int)) := by simp [bcs, hj']
      rw [e] at hj
      rw [← Option.some.inj hj]
      have := hbc j l[j] (List.getElem?_eq_getElem hj')
      rw [Nat.zero_add] at this
      rw [← this, Nat.zero_add]
      exact (below_new w2 _).cell (p := ⟨gb, j, none⟩) lgb
    have m1 : Hid (0 + l.length ≤ maxLen) := hide (by unfold maxLen; omega)
    have m2 : Hid ((0 + l.length) * 1 ≤ 140737488355328) := hide (by omega)
    have m3 : Hid (w2.heap.size ≤ (w2.alloc (.cells #[] 5)).heap.size) := hide (by simp)
    clear hi hz0 hz1 hz2 hbc hX
    go_wp2_with (at_builtin; refine wpList_append_own_at _ rfl _ _ 25 rfl w2.heap.size 5 i0 (.int .u8 0) 1 1 Try.underlying25 (unhide I0) (unhide I1) (unhide I2) (unhide I3) rfl (by decide) _ 0 [] rfl (unhide O3) ⟨gb, 0, none⟩ l.length cb (bcs l) rfl (by rw [bcs_len, Nat.mul_one]) (unhide N3) (bcs_one l) (unhide m1) (unhide m2) (unhide m3) ?_)
    intro v3 w3 own3 hgrow3 _ _
    have own3' : Own w2.heap.size w3 v3 l := by
      unfold Own
      exact own3
    obtain ⟨gc, cc, hv3, hcc, _, hgc, lgc, _⟩ := own3'.shape hne
    subst hv3
    have HB3 := hide ((unhide HB2).trans (((below_new w2 (.cells #[] 5)).mono (Nat.le_trans (unhide HB2).size (Nat.le_refl _))).trans (((Below.refl w.heap.size (w2.alloc (.cells #[] 5))).grown hgrow3 (by have := (unhide HB2).size; simp; omega) (fun k hk => by simp [Value.ownBlock] at hk; have := (unhide HB2).size; omega)))))
    have HO3 := hide own3'
    have hs3 := hgrow3.size
    simp at hs3
    have hwg : w.heap.size ≤ gc := by have := (unhide HB2).size; omega
    subst hA
    clear own3 own3' hgrow3 O3 N3 m1 m2 m3 I0 I1 I2 I3 HO2 HB2 hat0 hcb
    go_wp2_with fail
    go_loopw [10] (fun i wr => ∃ k : Nat, k ≤ 4 ∧ i = .int .i64 (k : Int) ∧ Hid (Own w2.heap.size wr (.slice (some ⟨gc, 0, none⟩) l.length cc) (cK l A X k)) ∧ Hid (Below w.heap.size w wr)) (fun i _ => 4 - (intOf i).toNat)
    case atStart => exact ⟨0, by omega, rfl, hide (by rw [cK_zero]; exact unhide HO3), HB3⟩
    case round =>
      obtain ⟨k, hk4, rfl, HOr, HBr⟩ := hrel
      clear HO3 HB3
      by_cases hk3 : k < 4
      · have hk' : (k : Int) < 4 := by omega
        have hAk : A + k < l.length := by have := unhide HA4; omega
        obtain ⟨gc', cc', hv', _, _, _, lgc', hbcr⟩ := (unhide HOr).shape (by intro e; have := cK_len l A X k; rw [e] at this; simp at this; omega)
        have hgg : gc' = gc := by simp at hv'; exact hv'.1.symm
        subst hgg
        clear hv'
        obtain ⟨j, hj⟩ : ∃ j, A + k = j := ⟨_, rfl⟩
        have c1 := hbcr (A + k) _ (cK_at hAk)
        have f1 := World.ownsRow.frozenAt (by have := unhide HOr; unfold Own at this; rw [cK_len] at this; exact this) (A + k)
        obtain ⟨s, hs⟩ : ∃ s : Int, 8 * (k : Int) = s := ⟨_, rfl⟩
        have e1 := xb_int (k := k) (unhide HX).1
        rw [hs] at e1
        have e2 := xor_byte l[A + k] (xb X k) _ e1
        have HST : Hid (cK l A X (k + 1) = (cK l A X k).set j (l[A + k] ^^^ xb X k)) := hide (by rw [← hj]; exact (cK_step hAk).symm)
        obtain ⟨by0, hby⟩ : ∃ by0 : UInt8, l[A + k] ^^^ xb X k = by0 := ⟨_, rfl⟩
        obtain ⟨bo, hbo⟩ : ∃ bo : UInt8, l[A + k] = bo := ⟨_, rfl⟩
        rw [hby] at e2 HST
        rw [hbo] at e2 c1
        rw [hj] at f1 c1 hAk
        rw [Nat.zero_add] at c1
        have eW : IntKind.i64.wrap ((A : Int) + (k : Int)) = (j : Int) := by rw [IntKind.wrap_i64]; omega
        have eW2 : IntKind.i64.wrap (8 * (k : Int)) = s := by rw [IntKind.wrap_i64]; omega
        have i0 : (0 : Int) ≤ (j : Int) := by omega
        have i1 : (j : Int) < (l.length : Int) := by omega
        have s0 : 0 ≤ s := by omega
        have s1 : s ≤ 31 := by omega
        have HJ := hide hj
        have HS := hide hs
        clear hj hs hby hbo hbcr e1
        go_wp2_with fail
        go_region
        all_goals
          have HO2 : Hid (Own w2.heap.size (wr.setCell ⟨gc', j, none⟩ (.int .u8 (by0.toNat : Int))).drew (.slice (some ⟨gc', 0, none⟩) l.length cc) (cK l A X (k + 1))) := by
            rw [unhide HST]
            exact hide (own_set (i := j) (x := by0) (cK_len l A X k).symm (unhide HOr))
          have HB2 := hide (((unhide HBr).setCell (p := ⟨gc', j, none⟩) hwg (.int .u8 (by0.toNat : Int))).drew)
          clear HOr HBr c1 f1 e2 HST
          go_wp2
          go_roundw
          case rel => exact ⟨k + 1, by omega, by go_num, HO2, HB2⟩
          case measure => simp [intOf]; omega
      · obtain rfl : k = 4 := by omega
        have C5 := hide (parse_any wr _ _ (by have := (unhide HOr).bv; exact this))
        obtain ⟨ec, hpe, hec⟩ := unhide HG
        rw [← cK_four (unhide HA4)] at hpe
        rw [hpe] at C5
        have hec' : (ec != 0) = true := by simpa using hec
        clear HOr hpe hec HG
        go_wp2_with fail
        refine (unhide C5).mono ?_
        rintro e w5 ⟨cs, rfl, hM5, hb5⟩
        obtain ⟨ca, ccap, hcs⟩ : ∃ a cap, cs = #[.int .i64 0, .int .i64 0, .string ⟨#[]⟩, .slice a 0 cap] := by
          unfold zeroT at hM5
          rw [MemWP] at hM5
          obtain ⟨_, _, _, a, cap, hv, _⟩ := hM5
          exact ⟨a, cap, hv⟩
        subst hcs
        have HB6 := hide (below_via (unhide HBr) hb5)
        have HB7 := hide (below_via (unhide HB6) (below_new w5 (.cells #[.int .i64 0, .int .i64 0, .string ⟨#[]⟩, .slice ca 0 ccap] 24)))
        clear C5 hM5 hb5 HBr HB6
        go_wp2
        go_ret
        exact ⟨rfl, unhide HB7⟩
  · have hok' : ((bytesF T).1 != 0) = true := by simpa using hok
    clear hok
    go_wp2
    go_ret
    exact ⟨rfl, unhide HB2⟩
end Go.Proofs.Ytlienildfnlncaa
