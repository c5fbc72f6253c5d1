/- Walks: numbers become bytes. -/
import Derived.Test.YtlienildfnlncaaKD
import Derived.OwnWalk
import Derived.Maps.AppendAt
import Derived.Lib.Zigzag
import Derived.Lib.ItoaMem
namespace Go.Proofs.Ytlienildfnlncaa
open Go.RowKit
open Go.Lib (uvarint zigzag uvarint_small uvarint_big)

theorem info_u8 : (Try.prog.info? 5).map (fun i => (i.zero, i.size, i.bytes)) = some (some (.int .u8 0), 1, 1) := by kernel_rfl

/-- a list of bytes' cells -/
def bcs (l : List UInt8) : List Value := l.map fun x => .int .u8 (x.toNat : Int)
theorem bcs_len (l : List UInt8) : (bcs l).length = l.length := by simp [bcs]
theorem bcs_app (l k : List UInt8) : bcs (l ++ k) = bcs l ++ bcs k := by simp [bcs]
theorem bcs_one (l : List UInt8) : ∀ u ∈ bcs l, u.oneCell' = true := by
  intro u hu
  obtain ⟨_, _, rfl⟩ := List.mem_map.1 hu
  rfl
theorem one_one (k : IntKind) (n : Int) : ∀ u ∈ [Value.int k n], u.oneCell' = true := by
  intro u hu
  simp at hu
  subst hu
  rfl
/-- bytes that the call owns, from block B on -/
def Own (B : Nat) (w : World) (v : Value) (l : List UInt8) : Prop := w.ownsRow B 5 1 v l.length (bcs l)
theorem Own.below {B : Nat} {w w' : World} {v : Value} {l : List UInt8} (h : Own B w v l) (hb : Below w.heap.size w w') : Own B w' v l := by
  refine ⟨h.1, ?_⟩
  rcases h.2 with hn | ⟨g, cap, cur, rfl, hbs, hg, rest⟩
  · exact .inl hn
  · refine .inr ⟨g, cap, cur, rfl, hbs, ?_, rest⟩
    rw [hb.block g (Array.getElem?_eq_some_iff.1 hg).1]
    exact hg
theorem Own.nil (B : Nat) (w : World) : Own B w (.slice none 0 0) [] := ⟨by simp [bcs], .inl ⟨rfl, rfl⟩⟩
theorem Own.shape {B : Nat} {w : World} {v : Value} {l : List UInt8} (h : Own B w v l) (hl : l ≠ []) : ∃ g cap, v = .slice (some ⟨g, 0, none⟩) l.length cap ∧ l.length ≤ cap ∧ cap ≤ maxLen ∧ B ≤ g ∧ g < w.heap.size ∧ BC w g 0 l := by
  have hc := fun g hg => World.ownsRow.cells (w := w) h (g := g) hg
  rcases h.2 with ⟨_, h0⟩ | ⟨g, cap, cur, rfl, hb, hg, hn, hm, _⟩
  · exact absurd (List.length_eq_zero_iff.1 h0) hl
  · refine ⟨g, cap, rfl, hn, hm, hb, lt_of_block hg, fun i x hx => ?_⟩
    have := hc g rfl i (.int .u8 (x.toNat : Int)) (by simp [bcs, hx])
    rw [Addr.add_lit] at this
    exact this
/-- from v to v', a slice that the call owns: all blocks but v's own are as they were; v' lies where v lay, or in a new one -/
structure Gw (v v' : Value) (w w' : World) : Prop where
  grown : w.grownBy w' v.ownBlock
  own : v'.ownBlock = v.ownBlock ∨ ∃ k, v'.ownBlock = some k ∧ w.heap.size ≤ k
theorem Gw.refl (v : Value) (w : World) : Gw v v w w := ⟨⟨rfl, rfl, rfl, Nat.le_refl _, fun _ _ _ => rfl⟩, .inl rfl⟩
theorem Gw.size {v v' : Value} {w w' : World} (h : Gw v v' w w') : w.heap.size ≤ w'.heap.size := h.grown.size
theorem Gw.trans {v v1 v2 : Value} {w w1 w2 : World} (h : Gw v v1 w w1) (k : Gw v1 v2 w1 w2) : Gw v v2 w w2 := by
  refine ⟨⟨k.grown.os.trans h.grown.os, k.grown.tape.trans h.grown.tape, k.grown.output.trans h.grown.output, Nat.le_trans h.size k.size, fun i hi hne => ?_⟩, ?_⟩
  · refine (k.grown.block i (Nat.lt_of_lt_of_le hi h.size) fun e => ?_).trans (h.grown.block i hi hne)
    rcases h.own with q | ⟨j, q, hj⟩
    · exact hne (e.trans q)
    · rw [q] at e
      have := Option.some.inj e
      omega
  · rcases k.own with q | ⟨j, q, hj⟩
    · rw [q]
      exact h.own
    · exact .inr ⟨j, q, Nat.le_trans h.size hj⟩
theorem Gw.below {v v1 : Value} {w w1 w2 : World} (h : Gw v v1 w w1) (k : Below w1.heap.size w1 w2) : Gw v v1 w w2 :=
  h.trans ⟨⟨k.os, k.tape, k.output, k.size, fun i hi _ => k.block i hi⟩, .inl rfl⟩
theorem Gw.of {v : Value} {w w1 : World} (k : Below w.heap.size w w1) : Gw v v w w1 := (Gw.refl v w).below k
theorem Gw.cell {v v' : Value} {w w' : World} (h : Gw v v' w w') {b o : Nat} (hb : b < w.heap.size) (hv : v.ownBlock ≠ some b) : w'.cell? ⟨b, o, none⟩ = w.cell? ⟨b, o, none⟩ :=
  World.cell?_of_block (w := w) (h.grown.block b hb (fun e => hv e.symm))
theorem Gw.frozen {v v' : Value} {w w' : World} (h : Gw v v' w w') {b o : Nat} (hb : b < w.heap.size) (hv : v.ownBlock ≠ some b) : w'.frozen? ⟨b, o, none⟩ = w.frozen? ⟨b, o, none⟩ :=
  World.frozen?_of_block (w := w) (h.grown.block b hb (fun e => hv e.symm))
/-- below what is owned all is as it was -/
theorem Gw.old {B : Nat} {v v' : Value} {l : List UInt8} {w w' : World} (h : Gw v v' w w') (hO : Own B w v l) (hB : B ≤ w.heap.size) : Below B w w' :=
  (Below.refl B w).grown h.grown hB (fun k hk => (World.ownsRow.lt hO k hk).1)
def PostO (B : Nat) (w : World) (v : Value) (l : List UInt8) (e : Ending) (w' : World) : Prop := ∃ v', e = .returned v' ∧ Own B w' v' l ∧ Gw v v' w w'

theorem unsigned_any (n : Int) (w : World) (h0 : -9223372036854775808 ≤ n) (h1 : n ≤ 9223372036854775807) :
    Calls Try.prog 27 #[.int .i64 n] w fun e w' => e = .returned (.int .u64 (zigzag n : Int)) ∧ w' = w := by
  by_cases hn : n < 0
  · have HE := hide (Go.Lib.zigzag_neg h0 hn)
    go_enter Try.func27, Try.ntmps27
    go_wp2
    go_ret
    rw [← unhide HE, IntKind.wrap_u64, IntKind.wrap_u64]
    exact ⟨rfl, rfl⟩
  · have HE := hide (Go.Lib.zigzag_nonneg (x := n) (by omega))
    have e : n % 18446744073709551616 = n := by omega
    have e2 : n * 2 % 18446744073709551616 = n * 2 := by omega
    go_enter Try.func27, Try.ntmps27
    go_wp2
    go_ret
    rw [unhide HE]
    exact ⟨rfl, rfl⟩

set_option maxHeartbeats 2000000 in
theorem withNumber_any (B : Nat) (w : World) (v : Value) (l : List UInt8) (n : Nat) (hO : Own B w v l) (hB : B ≤ w.heap.size) (hl : l.length ≤ 1000000000) (hn : n < 18446744073709551616) :
    Calls Try.prog 26 #[v, .int .u64 (n : Int)] w (PostO B w v (l ++ uvarint n)) := by
  have HO := hide hO
  obtain ⟨i0, hi, hz0, hz1, hz2⟩ := info_parts info_u8
  have I0 := hide hi
  have I1 := hide hz0
  have I2 := hide hz1
  have I3 := hide hz2
  clear hi hz0 hz1 hz2 hO
  go_enter Try.func26, Try.ntmps26
  go_wp2_with fail
  go_loopw [0, 1] (fun a b wr => ∃ (m : Nat) (k : List UInt8), b = .int .u64 (m : Int) ∧ m < 18446744073709551616 ∧ k.length + (uvarint m).length ≤ 1000000010 ∧ Hid (k ++ uvarint m = l ++ uvarint n) ∧ Hid (Own B wr a k) ∧ Hid (Gw v a w wr) ∧ B ≤ wr.heap.size) (fun _ b _ => (intOf b).toNat)
  case atStart => exact ⟨n, l, rfl, hn, by have := Go.Lib.uvarint_length64 hn; omega, hide rfl, HO, hide (Gw.refl _ _), hB⟩
  case round =>
    obtain ⟨m, k, rfl, hm, hk, H, HOr, HB, hBr⟩ := hrel
    clear HO
    have hp := Go.Lib.uvarint_pos m
    have m1 : Hid (k.length + 1 ≤ maxLen) := hide (by unfold maxLen; omega)
    have m2 : Hid ((k.length + 1) * 1 ≤ 140737488355328) := hide (by omega)
    have m3 : ∀ o, B ≤ (wr.alloc o).heap.size := fun o => by simp; omega
    replace m3 := fun o => hide (m3 o)
    by_cases hlt : m < 128
    · have hlt' : ¬ (128 : Int) ≤ (m : Int) := by omega
      have em : (m : Int) % 256 = (m : Int) := by omega
      have e8 : ((m.toUInt8).toNat : Int) = (m : Int) := by simp [Nat.toUInt8]; omega
      have H2 : Hid (k ++ [m.toUInt8] = l ++ uvarint n) := by
        have h := unhide H
        rw [uvarint_small hlt] at h
        exact hide h
      have HE := hide e8
      clear e8 H
      go_wp2_with (at_builtin; refine wpList_append_own_at _ rfl _ _ 25 rfl B 5 i0 (.int .u8 0) 1 1 Try.underlying25 (unhide I0) (unhide I1) (unhide I2) (unhide I3) rfl (by decide) _ _ _ rfl ((unhide HOr).alloc _) ⟨wr.heap.size, 0, none⟩ 1 1 [.int .u8 (m : Int)] rfl rfl (cell_one_new _ _ _) (one_one _ _) (unhide m1) (unhide m2) (unhide (m3 _)) ?_)
      intro v' w1 own' hgrow _ hat
      have HB1 := hide (((unhide HB).below (below_new _ (.cells #[.int .u8 (m : Int)] 5))).trans ⟨hgrow, hat.imp id fun e => ⟨wr.heap.size + 1, e, by simp⟩⟩)
      have HO1 : Hid (Own B w1 v' (k ++ [m.toUInt8])) := by
        refine hide ?_
        unfold Own
        rw [bcs_app, List.length_append]
        have : bcs [m.toUInt8] = [.int .u8 (m : Int)] := by
          show [Value.int .u8 ((m.toUInt8).toNat : Int)] = _
          rw [unhide HE]
        rw [this]
        exact own'
      rw [unhide H2] at HO1
      clear own' hgrow hat HB HOr H2 HE
      go_wp2
      go_ret
      exact ⟨v', rfl, unhide HO1, unhide HB1⟩
    · have hlt' : (128 : Int) ≤ (m : Int) := by omega
      have em : bits .or .u8 ((m : Int) % 256) 128 = ((m % 128 + 128 : Nat) : Int) := by
        rw [Go.Lib.u8_or128_any _ (by omega) (by omega)]
        omega
      have e8 : (((m % 128 + 128).toUInt8).toNat : Int) = ((m % 128 + 128 : Nat) : Int) := by simp [Nat.toUInt8]; omega
      have ed : (m : Int) / 128 = ((m / 128 : Nat) : Int) := by omega
      have H2 : Hid (k ++ [(m % 128 + 128).toUInt8] ++ uvarint (m / 128) = l ++ uvarint n) := by
        have h := unhide H
        rw [uvarint_big (by omega)] at h
        refine hide ?_
        rw [← h]
        simp
      have hk2 : (k ++ [(m % 128 + 128).toUInt8]).length + (uvarint (m / 128)).length ≤ 1000000010 := by
        rw [uvarint_big (by omega)] at hk
        simp at hk ⊢
        omega
      obtain ⟨q, hq⟩ : ∃ q, (m % 128 + 128) = q := ⟨_, rfl⟩
      obtain ⟨d, hd⟩ : ∃ d, m / 128 = d := ⟨_, rfl⟩
      rw [hq] at em e8 H2 hk2
      rw [hd] at ed H2 hk2
      have hdm : Hid (d < m) := hide (by omega)
      have HE := hide e8
      have HK2 := hide hk2
      clear e8 H hk2 hq hd
      go_wp2_with (at_builtin; refine wpList_append_own_at _ rfl _ _ 25 rfl B 5 i0 (.int .u8 0) 1 1 Try.underlying25 (unhide I0) (unhide I1) (unhide I2) (unhide I3) rfl (by decide) _ _ _ rfl ((unhide HOr).alloc _) ⟨wr.heap.size, 0, none⟩ 1 1 [.int .u8 (q : Int)] rfl rfl (cell_one_new _ _ _) (one_one _ _) (unhide m1) (unhide m2) (unhide (m3 _)) ?_)
      intro v' w1 own' hgrow _ hat
      have HB1 := hide (((unhide HB).below (below_new _ (.cells #[.int .u8 (q : Int)] 5))).trans ⟨hgrow, hat.imp id fun e => ⟨wr.heap.size + 1, e, by simp⟩⟩)
      have HO1 : Hid (Own B w1 v' (k ++ [q.toUInt8])) := by
        refine hide ?_
        unfold Own
        rw [bcs_app, List.length_append]
        have : bcs [q.toUInt8] = [.int .u8 (q : Int)] := by
          show [Value.int .u8 ((q.toUInt8).toNat : Int)] = _
          rw [unhide HE]
        rw [this]
        exact own'
      have bs1 : B ≤ w1.heap.size := Nat.le_trans hBr (Nat.le_trans (by simp) hgrow.size)
      clear own' hgrow hat HB HOr HE
      go_wp2
      go_roundw
      case rel => exact ⟨d, k ++ [q.toUInt8], rfl, by have := unhide hdm; omega, unhide HK2, H2, HO1, HB1, bs1⟩
      case measure => simp [intOf]; exact unhide hdm
end Go.Proofs.Ytlienildfnlncaa
