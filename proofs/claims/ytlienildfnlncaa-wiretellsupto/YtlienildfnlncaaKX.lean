/- Walks: the document's numbers become bytes. -/
import Derived.Test.YtlienildfnlncaaKW
namespace Go.Proofs.Ytlienildfnlncaa
open Go.RowKit
open Go.Lib (uvarint zigzag uvarint_small uvarint_big)

/-- new bytes that are the caller's -/
def PostNew (w : World) (l : List UInt8) (e : Ending) (w' : World) : Prop := ∃ v, e = .returned v ∧ Own w.heap.size w' v l ∧ Below w.heap.size w w'
theorem Own.lit (w : World) (l : List UInt8) (hl : l.length ≤ 9223372036854775807) : Own w.heap.size (w.alloc (.cells (bcs l).toArray 5)) (.slice (some ⟨w.heap.size, 0, none⟩) l.length l.length) l := by
  refine ⟨by rw [bcs_len]; simp, .inr ⟨w.heap.size, l.length, (bcs l).toArray, rfl, Nat.le_refl _, heap_alloc_new w _, Nat.le_refl _, by unfold maxLen; omega, by simp [bcs_len], ?_⟩⟩
  rw [List.take_of_length_le (by simp [bcs_len])]
theorem Own.mono {B B' : Nat} {w : World} {v : Value} {l : List UInt8} (h : Own B w v l) (hB : B' ≤ B) : Own B' w v l := by
  refine ⟨h.1, ?_⟩
  rcases h.2 with hn | ⟨g, cap, cur, rfl, hbs, rest⟩
  · exact .inl hn
  · exact .inr ⟨g, cap, cur, rfl, Nat.le_trans hB hbs, rest⟩
theorem bc_news {w : World} {g : Nat} {l : List UInt8} (h : BC w g 0 l) : ∀ j u, (bcs l)[j]? = some u → w.cell? ((⟨g, 0, none⟩ : Addr).add j) = some u := by
  intro j u hj
  rw [Addr.add_lit]
  have hj' : j < l.length := by
    have := (List.getElem?_eq_some_iff.1 hj).1
    rwa [bcs_len] at this
  have e : (bcs l)[j]? = some (.int .u8 (l[j].toNat : Int)) := by simp [bcs, hj']
  rw [e] at hj
  rw [← Option.some.inj hj]
  exact h j l[j] (List.getElem?_eq_getElem hj')
theorem uv_ne (n : Nat) : uvarint n ≠ [] := by
  intro e
  have := Go.Lib.uvarint_pos n
  rw [e] at this
  simp at this

set_option maxHeartbeats 2000000 in
theorem rnumber_any : ∀ (n : Nat) (w : World), n < 18446744073709551616 → Calls Try.prog 29 #[.int .u64 (n : Int)] w (PostNew w (uvarint n)) := by
  intro n
  induction n using Nat.strongRecOn with
  | _ n ih =>
    intro w hn
    by_cases hlt : n < 128
    · have hlt' : (n : Int) < 128 := by omega
      have em : (n : Int) % 256 = (n : Int) := by omega
      have e8 : bcs [n.toUInt8] = [.int .u8 (n : Int)] := by
        show [Value.int .u8 ((n.toUInt8).toNat : Int)] = _
        have : ((n.toUInt8).toNat : Int) = (n : Int) := by simp [Nat.toUInt8]; omega
        rw [this]
      have O := Own.lit w [n.toUInt8] (by simp)
      rw [e8] at O
      rw [uvarint_small hlt]
      have HO := hide O
      have HB := hide (below_new w (.cells #[.int .u8 (n : Int)] 5))
      clear e8 O ih hlt hn
      go_enter Try.func29, Try.ntmps29
      go_wp2
      go_ret
      exact ⟨_, rfl, unhide HO, unhide HB⟩
    · have hlt' : ¬ (n : Int) < 128 := by omega
      obtain ⟨q, hq⟩ : ∃ q, n % 128 + 128 = q := ⟨_, rfl⟩
      obtain ⟨d, hd⟩ : ∃ d, n / 128 = d := ⟨_, rfl⟩
      have eq1 : (128 + (n : Int) % 128) % 256 = (q : Int) := by omega
      have eq2 : (128 + (n : Int) % 128) = (q : Int) := by omega
      have ed : IntKind.u64.wrap ((n : Int).tdiv 128) = (d : Int) := by
        rw [Int.tdiv_eq_ediv_of_nonneg (by omega), wraps_u64 _ (by omega) (by omega)]
        omega
      have e8 : bcs [q.toUInt8] = [.int .u8 (q : Int)] := by
        show [Value.int .u8 ((q.toUInt8).toNat : Int)] = _
        have : ((q.toUInt8).toNat : Int) = (q : Int) := by simp [Nat.toUInt8]; omega
        rw [this]
      have O := Own.lit w [q.toUInt8] (by simp)
      rw [e8] at O
      rw [uvarint_big (by omega), hq, hd]
      have HO := hide O
      have hb0 := below_new w (.cells #[.int .u8 (q : Int)] 5)
      have HB := hide hb0
      have C := hide (ih d (by omega) (w.alloc (.cells #[.int .u8 (q : Int)] 5)) (by omega))
      have hdl := Go.Lib.uvarint_length64 (x := d) (by omega)
      obtain ⟨i0, hi, hz0, hz1, hz2⟩ := info_parts info_u8
      have I0 := hide hi
      have I1 := hide hz0
      have I2 := hide hz1
      have I3 := hide hz2
      have q0 : (0 : Int) ≤ (q : Int) := by omega
      have q1 : (q : Int) < 256 := by omega
      clear hi hz0 hz1 hz2 e8 O ih hlt hn hq hd hb0
      generalize (n : Int) = N at *
      go_enter Try.func29, Try.ntmps29
      go_wp2_with fail
      with_reducible refine (unhide C).mono ?_
      rintro e w1 ⟨v1, rfl, hO1, hb1⟩
      obtain ⟨g, cap, hv1, _, _, hBg, lg, hbc⟩ := hO1.shape (uv_ne d)
      subst hv1
      have HN := hide (bc_news hbc)
      have hs := hb1.size
      simp at hs
      have m1 : Hid (1 + (uvarint d).length ≤ maxLen) := hide (by unfold maxLen; omega)
      have m2 : Hid ((1 + (uvarint d).length) * 1 ≤ 140737488355328) := hide (by omega)
      have m3 : Hid (w.heap.size ≤ w1.heap.size) := hide (by omega)
      have m4 : Hid ((bcs (uvarint d)).length = (uvarint d).length * 1) := hide (by rw [bcs_len, Nat.mul_one])
      have HO1 := hide ((unhide HO).below hb1)
      have HB1 := hide (below_via (unhide HB) hb1)
      clear C hO1 hb1 hbc HO HB
      go_wp2_with (at_builtin; refine wpList_append_own_at _ rfl _ _ 25 rfl w.heap.size 5 i0 (.int .u8 0) 1 1 Try.underlying25 (unhide I0) (unhide I1) (unhide I2) (unhide I3) rfl (by decide) _ 1 (bcs [q.toUInt8]) rfl (unhide HO1) ⟨g, 0, none⟩ (uvarint d).length cap (bcs (uvarint d)) rfl (unhide m4) (unhide HN) (bcs_one _) (unhide m1) (unhide m2) (unhide m3) ?_)
      intro v2 w2 own2 hgrow2 _ hat2
      have HO2 : Hid (Own w.heap.size w2 v2 (q.toUInt8 :: uvarint d)) := hide (own_app (l := [q.toUInt8]) (k := uvarint d) rfl rfl own2)
      have HB2 := hide ((unhide HB1).grown hgrow2 (unhide m3) (fun k hk => (World.ownsRow.lt (unhide HO1) k hk).1))
      clear own2 hgrow2 hat2 HO1 HB1 HN
      go_wp2
      go_ret
      exact ⟨_, rfl, unhide HO2, unhide HB2⟩

set_option maxHeartbeats 2000000 in
theorem rsigned_any (n : Int) (w : World) (h0 : -9223372036854775808 ≤ n) (h1 : n ≤ 9223372036854775807) : Calls Try.prog 28 #[.int .i64 n] w (PostNew w (uvarint (zigzag n))) := by
  have C := hide (rnumber_any (zigzag n) w (zig_bd h0 h1))
  by_cases hn : n < 0
  · have e1 : ((zigzag n : Nat) : Int) = 2 * (-(n + 1)) + 1 := by
      unfold zigzag
      rw [if_neg (by omega)]
      omega
    rw [e1] at C
    clear e1
    go_enter Try.func28, Try.ntmps28
    go_wp2_with fail
    with_reducible refine (unhide C).mono ?_
    rintro e w1 ⟨v1, rfl, hO1, hb1⟩
    have HO := hide hO1
    have HB := hide hb1
    clear C hO1 hb1
    go_wp2
    go_ret
    exact ⟨_, rfl, unhide HO, unhide HB⟩
  · have e1 : ((zigzag n : Nat) : Int) = 2 * n := by
      unfold zigzag
      rw [if_pos (by omega)]
      omega
    rw [e1] at C
    have en : n % 18446744073709551616 = n := by omega
    have en2 : 2 * n % 18446744073709551616 = 2 * n := by omega
    clear e1
    go_enter Try.func28, Try.ntmps28
    go_wp2_with fail
    with_reducible refine (unhide C).mono ?_
    rintro e w1 ⟨v1, rfl, hO1, hb1⟩
    have HO := hide hO1
    have HB := hide hb1
    clear C hO1 hb1
    go_wp2
    go_ret
    exact ⟨_, rfl, unhide HO, unhide HB⟩

set_option maxHeartbeats 2000000 in
theorem rfour_any (s : Nat) (w : World) (hs : s < 4294967296) : Calls Try.prog 22 #[.int .u32 (s : Int)] w (PostNew w (four s)) := by
  obtain ⟨b0, hb0⟩ : ∃ b0, s % 256 = b0 := ⟨_, rfl⟩
  obtain ⟨b1, hb1⟩ : ∃ b1, s / 256 % 256 = b1 := ⟨_, rfl⟩
  obtain ⟨b2, hb2⟩ : ∃ b2, s / 65536 % 256 = b2 := ⟨_, rfl⟩
  obtain ⟨b3, hb3⟩ : ∃ b3, s / 16777216 % 256 = b3 := ⟨_, rfl⟩
  have HE : bcs (four s) = [.int .u8 (b0 : Int), .int .u8 (b1 : Int), .int .u8 (b2 : Int), .int .u8 (b3 : Int)] := by
    unfold four
    rw [hb0, hb1, hb2, hb3]
    have q : ∀ b : Nat, b < 256 → ((b.toUInt8).toNat : Int) = (b : Int) := fun b h => by simp [Nat.toUInt8]; omega
    show [Value.int .u8 ((b0.toUInt8).toNat : Int), Value.int .u8 ((b1.toUInt8).toNat : Int), Value.int .u8 ((b2.toUInt8).toNat : Int), Value.int .u8 ((b3.toUInt8).toNat : Int)] = _
    rw [q b0 (by omega), q b1 (by omega), q b2 (by omega), q b3 (by omega)]
  have O := Own.lit w (four s) (by rw [four_len]; omega)
  rw [HE, four_len] at O
  have HO := hide O
  have HB := hide (below_new w (.cells #[.int .u8 (b0 : Int), .int .u8 (b1 : Int), .int .u8 (b2 : Int), .int .u8 (b3 : Int)] 5))
  have e0 : (s : Int) % 256 = (b0 : Int) := by omega
  have e1 : (s : Int) / 256 % 256 = (b1 : Int) := by omega
  have e2 : (s : Int) / 65536 % 256 = (b2 : Int) := by omega
  have e3 : (s : Int) / 16777216 = (b3 : Int) := by omega
  clear HE O hb0 hb1 hb2 hb3
  go_enter Try.func22, Try.ntmps22
  go_wp2
  go_ret
  exact ⟨_, rfl, unhide HO, unhide HB⟩
end Go.Proofs.Ytlienildfnlncaa
