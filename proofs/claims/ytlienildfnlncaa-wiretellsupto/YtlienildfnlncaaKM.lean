/- Walks: the reader's tree. -/
import Derived.Test.YtlienildfnlncaaKL
namespace Go.Proofs.Ytlienildfnlncaa
open Go.RowKit

theorem tf_zero (s : RS) : treeF 0 s = (zeroT, s.one.no) := by rw [treeF]
theorem tf_many {d : Nat} {s : RS} (h : 5000 < s.k + 1) : treeF (d + 1) s = (zeroT, s.one.no) := by rw [treeF, if_pos h]
theorem tf_go {d : Nat} {s : RS} (h : ¬ 5000 < s.k + 1) : treeF (d + 1) s = (.mk ((headF s.one).1.1 : Int) (zagF (headF s.one).1.2.1) ⟨(headF s.one).1.2.2.1.toArray⟩ (kidsF (treeF d) (headF s.one).1.2.2.2 (headF s.one).2).1, (kidsF (treeF d) (headF s.one).1.2.2.2 (headF s.one).2).2) := by rw [treeF, if_neg h]
theorem kf_zero (f : RS → WT × RS) (s : RS) : kidsF f 0 s = ([], s) := rfl
theorem kf_bad {f : RS → WT × RS} {c : Nat} {s : RS} (h : s.bad = true) : kidsF f c s = ([], s) := by
  cases c with
  | zero => rfl
  | succ c => rw [kidsF, if_pos h]
theorem kf_go {f : RS → WT × RS} {c : Nat} {s : RS} (h : s.bad = false) : kidsF f (c + 1) s = ((f s).1 :: (kidsF f c (f s).2).1, (kidsF f c (f s).2).2) := by rw [kidsF, if_neg (by rw [h]; decide)]
theorem next_k (s : RS) : (nextF s).2.k = s.k := by
  obtain ⟨l, k, bad⟩ := s
  cases l <;> rfl
theorem numL_k : ∀ (f i a : Nat) (s : RS), (numL f i a s).2.k = s.k
  | 0, _, _, _ => rfl
  | f + 1, i, a, s => by
    rw [numL]
    split
    · exact next_k s
    split
    · exact next_k s
    · rw [numL_k f]; exact next_k s
theorem textF_k (n : Nat) (s : RS) : (textF n s).2.k = s.k := by
  unfold textF
  split <;> rfl
theorem headF_k (s : RS) : (headF s).2.k = s.k := by
  unfold headF
  simp only
  unfold numF
  rw [numL_k, textF_k, numL_k, numL_k, next_k]
theorem kids_k {f : RS → WT × RS} (hf : ∀ s, s.k ≤ (f s).2.k) : ∀ (c : Nat) (s : RS), s.k ≤ (kidsF f c s).2.k
  | 0, _ => Nat.le_refl _
  | c + 1, s => by
    rw [kidsF]
    split
    · exact Nat.le_refl _
    · exact Nat.le_trans (hf s) (kids_k hf c _)
theorem tree_k : ∀ (d : Nat) (s : RS), s.k + 1 ≤ (treeF d s).2.k
  | 0, s => by rw [treeF]; exact Nat.le_refl _
  | d + 1, s => by
    rw [treeF]
    split
    · exact Nat.le_refl _
    · have := kids_k (fun s => Nat.le_trans (Nat.le_succ _) (tree_k d s)) (headF s.one).1.2.2.2 (headF s.one).2
      rw [headF_k] at this
      exact this
theorem textF_bd (n : Nat) (s : RS) (h : s.l.length ≤ 9223372036854775807) : (textF n s).1.length ≤ 9223372036854775807 := by
  unfold textF
  split
  · simp
  · simp
    omega

def PostTr (w : World) (R g : Nat) (r : WT × RS) (e : Ending) (w' : World) : Prop := ∃ cs, e = .returned (.agg cs) ∧ MemWP (fun b => w.heap.size ≤ b ∧ b < w'.heap.size) w' r.1 cs ∧ (∃ off cap, RD w' R g r.2 off cap) ∧ But R w w'
def TreeC (d : Nat) : Prop := ∀ (w : World) (R g : Nat) (s : RS) (off cap : Nat), RD w R g s off cap → s.k ≤ 5000 →
  Calls Try.prog 24 #[.pointer (some ⟨R, 0, none⟩), .int .i64 (41 - (d : Int))] w (PostTr w R g (treeF d s))

theorem MemWP.zero (P : Nat → Prop) (w : World) : MemWP P w zeroT #[.int .i64 0, .int .i64 0, .string ⟨#[]⟩, .slice none 0 0] := by
  unfold zeroT
  rw [MemWP]
  exact ⟨⟨by decide, by decide⟩, by simp [ByteArray.size], by simp, none, 0, rfl, fun h => absurd rfl h⟩
/-- four stores into a block -/
def put4 (w : World) (b : Nat) (v0 v1 v2 v3 : Value) : World := (((w.setCell ⟨b, 0, none⟩ v0).setCell ⟨b, 1, none⟩ v1).setCell ⟨b, 2, none⟩ v2).setCell ⟨b, 3, none⟩ v3
theorem put4_size (w : World) (b : Nat) (v0 v1 v2 v3 : Value) : (put4 w b v0 v1 v2 v3).heap.size = w.heap.size := by simp [put4, World.setCell]
theorem put4_block (w : World) (b : Nat) (v0 v1 v2 v3 : Value) (k : Nat) (h : k ≠ b) : (put4 w b v0 v1 v2 v3).heap[k]? = w.heap[k]? := by
  unfold put4
  rw [Below.heap_setCell _ _ _ _ h, Below.heap_setCell _ _ _ _ h, Below.heap_setCell _ _ _ _ h, Below.heap_setCell _ _ _ _ h]

set_option maxHeartbeats 4000000 in
theorem tree_many (d : Nat) (hd : d ≤ 40) (w : World) (R g : Nat) (s : RS) (off cap : Nat) (h : RD w R g s off cap) (hk : s.k ≤ 5000) (hmany : 5000 < s.k + 1 ∨ d = 0) :
    Calls Try.prog 24 #[.pointer (some ⟨R, 0, none⟩), .int .i64 (41 - (d : Int))] w (PostTr w R g (zeroT, s.one.no)) := by
  have c1 := h.c1
  have f1 := h.f1
  have c2 := h.c2
  have f2 := h.f2
  have lR := h.low
  have hdd : ∃ D : Int, D = 41 - (d : Int) := ⟨_, rfl⟩
  obtain ⟨D, hD⟩ := hdd
  rw [← hD]
  have R1 := h.one.no
  have hA := below_new ((w.setCell ⟨R, 1, none⟩ (.int .i64 ((s.k : Int) + 1))).setCell ⟨R, 2, none⟩ (.bool true)) (.cells #[.int .i64 0, .int .i64 0, .string ⟨#[]⟩, .slice none 0 0] 24)
  have R2 := hide (R1.keep hA)
  have B1 : Hid (But R w (((w.setCell ⟨R, 1, none⟩ (.int .i64 ((s.k : Int) + 1))).setCell ⟨R, 2, none⟩ (.bool true)).alloc (.cells #[.int .i64 0, .int .i64 0, .string ⟨#[]⟩, .slice none 0 0] 24))) := hide (But.set.trans (But.set.trans (But.of hA)))
  clear hA R1 h
  by_cases h5 : 5000 < s.k + 1
  · have h5' : (5000 : Int) < (s.k : Int) + 1 := by omega
    clear hD hmany
    go_enter Try.func24, Try.ntmps24
    go_wp2
    exact bodyPost_ret (v := .agg #[.int .i64 0, .int .i64 0, .string ⟨#[]⟩, .slice none 0 0]) (by simp [results, Try.results24, go_sem]) rfl ⟨_, rfl, MemWP.zero _ _, ⟨off, cap, unhide R2⟩, unhide B1⟩
  · have h5' : ¬ (5000 : Int) < (s.k : Int) + 1 := by omega
    have hD4 : (40 : Int) < D := by omega
    clear hD hmany
    go_enter Try.func24, Try.ntmps24
    go_wp2
    exact bodyPost_ret (v := .agg #[.int .i64 0, .int .i64 0, .string ⟨#[]⟩, .slice none 0 0]) (by simp [results, Try.results24, go_sem]) rfl ⟨_, rfl, MemWP.zero _ _, ⟨off, cap, unhide R2⟩, unhide B1⟩

theorem RD.setAt {w : World} {R g : Nat} {s : RS} {off cap b o : Nat} {v : Value} (h : RD w R g s off cap) (h1 : b ≠ R) (h2 : b ≠ g) : RD (w.setCell ⟨b, o, none⟩ v) R g s off cap :=
  h.same (Below.heap_setCell w ⟨b, o, none⟩ v R (fun e => h1 e.symm)) (Below.heap_setCell w ⟨b, o, none⟩ v g (fun e => h2 e.symm)) (by simp [World.setCell])
theorem Bx.setAt {w : World} {c : Nat} {v0 v1 v2 v3 : Value} {b o : Nat} {v : Value} (h : Bx w c v0 v1 v2 v3) (h1 : b ≠ c) : Bx (w.setCell ⟨b, o, none⟩ v) c v0 v1 v2 v3 :=
  h.same (Below.heap_setCell w ⟨b, o, none⟩ v c (fun e => h1 e.symm)) (by simp [World.setCell])
theorem But.setAt {p : Nat} {w w' : World} {b o : Nat} {v : Value} (h : But p w w') (hb : w.heap.size ≤ b) : But p w (w'.setCell ⟨b, o, none⟩ v) :=
  ⟨h.os, h.tape, h.output, by simpa [World.setCell] using h.size, fun k hk hne => (Below.heap_setCell w' ⟨b, o, none⟩ v k (by show k ≠ b; omega)).trans (h.block k hk hne)⟩
theorem cell_four_new (W : World) (t : TypeId) (a b c d : Value) : ∀ j u, [a, b, c, d][j]? = some u → (W.alloc (.cells #[a, b, c, d] t)).cell? ((⟨W.heap.size, 0, none⟩ : Addr).add j) = some u := cell_four_at W a b c d t _ rfl

set_option maxHeartbeats 2000000 in
theorem tree_of (d : Nat) (hd : d + 1 ≤ 40) (IH : TreeC d) : TreeC (d + 1) := by
  intro w R g s off cap h hk
  by_cases hmany : 5000 < s.k + 1
  · rw [tf_many hmany]
    exact tree_many (d + 1) hd w R g s off cap h hk (.inl hmany)
  obtain ⟨Q, hQ⟩ : ∃ Q, treeF (d + 1) s = Q := ⟨_, rfl⟩
  rw [hQ]
  rw [tf_go hmany] at hQ
  have HQ := hide hQ
  clear hQ
  have IH' := hide IH
  have c1 := h.c1
  have f1 := h.f1
  have lR := h.low
  have lg := h.glow
  have hdd : ∃ D : Int, D = 41 - ((d + 1 : Nat) : Int) := ⟨_, rfl⟩
  obtain ⟨D, hD⟩ := hdd
  rw [← hD]
  obtain ⟨W0, hW0⟩ : ∃ W0, W0 = (w.setCell ⟨R, 1, none⟩ (.int .i64 ((s.k : Int) + 1))).alloc (.cells #[.int .i64 0, .int .i64 0, .string ⟨#[]⟩, .slice none 0 0] 24) := ⟨_, rfl⟩
  have hA : Below (w.setCell ⟨R, 1, none⟩ (.int .i64 ((s.k : Int) + 1))).heap.size (w.setCell ⟨R, 1, none⟩ (.int .i64 ((s.k : Int) + 1))) W0 := by rw [hW0]; exact below_new _ _
  have sw : (w.setCell ⟨R, 1, none⟩ (.int .i64 ((s.k : Int) + 1))).heap.size = w.heap.size := by simp
  have R0 := h.one.keep hA
  have B0 : But R w W0 := But.set.trans (But.of hA)
  have Z0 : Bx W0 w.heap.size (.int .i64 0) (.int .i64 0) (.string ⟨#[]⟩) (.slice none 0 0) := by
    have q := Bx.new (w.setCell ⟨R, 1, none⟩ (.int .i64 ((s.k : Int) + 1))) 24 (.int .i64 0) (.int .i64 0) (.string ⟨#[]⟩) (.slice none 0 0)
    rw [sw, ← hW0] at q
    exact q
  clear hA sw
  have hs0 : s.one.k ≤ 5000 := by show s.k + 1 ≤ 5000; omega
  have h5' : ¬ (5000 : Int) < (s.k : Int) + 1 := by omega
  have hD4 : ¬ (40 : Int) < D := by omega
  have C1 := hide (next_any W0 R g s.one off cap R0)
  have HB0 := hide B0
  have HZ0 := hide Z0
  have HD := hide hD
  have HK := hide hmany
  clear R0 B0 Z0 hD h hmany IH
  go_enter Try.func24, Try.ntmps24
  go_wp2_with fail
  rw [← hW0]
  refine (unhide C1).mono ?_
  rintro e w1 ⟨rfl, ⟨off1, cap1, R1⟩, b1⟩
  have HB1 := hide ((unhide HB0).trans b1)
  have HZ1 := hide ((unhide HZ0).but b1 (by omega))
  clear C1 HB0 HZ0 b1 hW0 c1 f1
  have hbt := nextF_bd s.one
  obtain ⟨r1, hr1⟩ : ∃ r1, nextF s.one = r1 := ⟨_, rfl⟩
  rw [hr1] at R1 hbt ⊢
  have hY := (unhide HZ1).low
  obtain ⟨tg, htg⟩ : ∃ tg : Int, (r1.1 : Int) = tg := ⟨_, rfl⟩
  rw [htg]
  have HTG := hide htg
  have ht0 : 0 ≤ tg := by omega
  have ht1 : tg < 256 := by omega
  obtain ⟨W1, hW1⟩ : ∃ W1, W1 = w1.alloc (.cells #[.int .i64 tg, .int .i64 0, .string ⟨#[]⟩, .slice none 0 0] 24) := ⟨_, rfl⟩
  have bA : Below w1.heap.size w1 W1 := by rw [hW1]; exact below_new _ _
  have Y1 : Bx W1 w1.heap.size (.int .i64 tg) (.int .i64 0) (.string ⟨#[]⟩) (.slice none 0 0) := by rw [hW1]; exact Bx.new _ _ _ _ _ _
  have HY1 := hide Y1
  have HB2 := hide ((unhide HB1).trans (But.of bA))
  have HZ2 := hide ((unhide HZ1).keep bA)
  have C2 := hide (number_any W1 R g r1.2 off1 cap1 (R1.keep bA))
  have HR1 := hide hr1
  clear R1 bA Y1 HB1 HZ1 htg hbt hr1
  go_wp2_with fail
  rw [← hW1]
  refine (unhide C2).mono ?_
  rintro e w2 ⟨rfl, ⟨off2, cap2, R2⟩, b2⟩
  have HB3 := hide ((unhide HB2).trans b2)
  have HZ3 := hide ((unhide HZ2).but b2 (by omega))
  have HY3 := hide ((unhide HY1).but b2 (by omega))
  have hsz : w.heap.size ≤ w1.heap.size := by have := (unhide HZ3).low; have := hY; omega
  have C3 := hide (signed_any (numF r1.2).1 w2 (numF_bd _))
  have hz := zag_bd (numF_bd r1.2)
  obtain ⟨r2, hr2⟩ : ∃ r2, numF r1.2 = r2 := ⟨_, rfl⟩
  rw [hr2] at R2 C3 hz ⊢
  have HR2 := hide hr2
  obtain ⟨z, hzz⟩ : ∃ z, zagF r2.1 = z := ⟨_, rfl⟩
  rw [hzz] at C3 hz
  have HZZ := hide hzz
  clear hr2 hzz C2 HB2 HZ2 HY1 b2 hW1
  obtain ⟨y0, y1, y2, y3⟩ := (unhide HY3).tell
  obtain ⟨q0, q1, q2, q3⟩ := (unhide HY3).thaw
  have ly := (unhide HY3).low
  go_wp2_with fail
  refine (unhide C3).mono ?_
  rintro e wx ⟨rfl, hwx⟩
  replace hwx := hwx.symm
  subst hwx
  obtain ⟨W2, hW2⟩ : ∃ W2, W2 = w2.setCell ⟨w1.heap.size, 1, none⟩ (.int .i64 z) := ⟨_, rfl⟩
  have R2' : RD W2 R g r2.2 off2 cap2 := by rw [hW2]; exact R2.setAt (by omega) (by omega)
  have HB4 : Hid (But R w W2) := by rw [hW2]; exact hide ((unhide HB3).setAt hsz)
  have HZ4 : Hid (Bx W2 w.heap.size (.int .i64 0) (.int .i64 0) (.string ⟨#[]⟩) (.slice none 0 0)) := by rw [hW2]; exact hide ((unhide HZ3).setAt (by omega))
  have HY4 : Hid (Bx W2 w1.heap.size (.int .i64 tg) (.int .i64 z) (.string ⟨#[]⟩) (.slice none 0 0)) := by rw [hW2]; exact hide ((unhide HY3).set1 _)
  have C4 := hide (number_any W2 R g r2.2 off2 cap2 R2')
  clear C3 HB3 HZ3 HY3 R2 R2'
  go_wp2_with fail
  rw [← hW2]
  clear y0 y1 y2 y3 q0 q1 q2 q3 ly
  refine (unhide C4).mono ?_
  rintro e w3 ⟨rfl, ⟨off3, cap3, R3⟩, b3⟩
  have HB5 := hide ((unhide HB4).trans b3)
  have HZ5 := hide ((unhide HZ4).but b3 (by omega))
  have HY5 := hide ((unhide HY4).but b3 (by omega))
  have C5 := hide (text_any w3 R g _ off3 cap3 (numF r2.2).1 R3 (numF_bd _))
  have htb := textF_bd (numF r2.2).1 (numF r2.2).2 (Nat.le_trans R3.len R3.cap)
  obtain ⟨r3, hr3⟩ : ∃ r3, numF r2.2 = r3 := ⟨_, rfl⟩
  rw [hr3] at R3 C5 htb ⊢
  have HR3 := hide hr3
  clear hr3 C4 HB4 HZ4 HY4 b3 hW2 R3
  obtain ⟨y0, y1, y2, y3⟩ := (unhide HY5).tell
  obtain ⟨q0, q1, q2, q3⟩ := (unhide HY5).thaw
  have ly := (unhide HY5).low
  go_wp2_with fail
  clear y0 y1 y2 y3 q0 q1 q2 q3 ly
  refine (unhide C5).mono ?_
  rintro e w4 ⟨rfl, ⟨off4, cap4, R4⟩, b4⟩
  have HB6 := hide ((unhide HB5).trans b4)
  have HZ6 := hide ((unhide HZ5).but b4 (by omega))
  have HY6 := hide ((unhide HY5).but b4 (by omega))
  obtain ⟨r4, hr4⟩ : ∃ r4, textF r3.1 r3.2 = r4 := ⟨_, rfl⟩
  rw [hr4] at R4 htb ⊢
  have HR4 := hide hr4
  obtain ⟨tx, htx⟩ : ∃ tx : ByteArray, (⟨r4.1.toArray⟩ : ByteArray) = tx := ⟨_, rfl⟩
  rw [htx]
  have htxs : tx.size ≤ 9223372036854775807 := by rw [← htx]; simpa [ByteArray.size] using htb
  have HTX := hide htx
  obtain ⟨W3, hW3⟩ : ∃ W3, W3 = w4.setCell ⟨w1.heap.size, 2, none⟩ (.string tx) := ⟨_, rfl⟩
  have R4' : RD W3 R g r4.2 off4 cap4 := by rw [hW3]; exact R4.setAt (by omega) (by omega)
  have HB7 : Hid (But R w W3) := by rw [hW3]; exact hide ((unhide HB6).setAt hsz)
  have HZ7 : Hid (Bx W3 w.heap.size (.int .i64 0) (.int .i64 0) (.string ⟨#[]⟩) (.slice none 0 0)) := by rw [hW3]; exact hide ((unhide HZ6).setAt (by omega))
  have HY7 : Hid (Bx W3 w1.heap.size (.int .i64 tg) (.int .i64 z) (.string tx) (.slice none 0 0)) := by rw [hW3]; exact hide ((unhide HY6).set2 _)
  have C6 := hide (number_any W3 R g r4.2 off4 cap4 R4')
  obtain ⟨y0, y1, y2, y3⟩ := (unhide HY6).tell
  obtain ⟨q0, q1, q2, q3⟩ := (unhide HY6).thaw
  have ly := (unhide HY6).low
  clear hr4 htx C5 HB5 HZ5 HY5 HB6 HZ6 HY6 b4 R4 R4' htb
  go_wp2_with fail
  rw [← hW3]
  clear y0 y1 y2 y3 q0 q1 q2 q3 ly
  refine (unhide C6).mono ?_
  rintro e w5 ⟨rfl, ⟨off5, cap5, R5⟩, b5⟩
  have HB8 := hide ((unhide HB7).trans b5)
  have HZ8 := hide ((unhide HZ7).but b5 (by omega))
  have HY8 := hide ((unhide HY7).but b5 (by omega))
  have hcb := numF_bd r4.2
  obtain ⟨r5, hr5⟩ : ∃ r5, numF r4.2 = r5 := ⟨_, rfl⟩
  rw [hr5] at R5 hcb ⊢
  have HQ2 : Hid (Q = (.mk tg z tx (kidsF (treeF d) r5.1 r5.2).1, (kidsF (treeF d) r5.1 r5.2).2)) := by
    refine hide ?_
    rw [← unhide HQ]
    have eh : headF s.one = ((r1.1, r2.1, r4.1, r5.1), r5.2) := by
      unfold headF
      rw [unhide HR1, unhide HR2, unhide HR3, unhide HR4, hr5]
    rw [eh]
    simp only
    rw [unhide HTG, unhide HZZ, unhide HTX]
  have hk5 : r5.2.k ≤ 5000 := by
    rw [← hr5]
    unfold numF
    rw [numL_k, ← unhide HR4, textF_k, ← unhide HR3]
    unfold numF
    rw [numL_k, ← unhide HR2]
    unfold numF
    rw [numL_k, ← unhide HR1, next_k]
    exact hs0
  have TL0 : Hid (TL w R g w.heap.size w1.heap.size (.int .i64 0) (.int .i64 0) (.string ⟨#[]⟩) (.slice none 0 0) (.int .i64 tg) (.int .i64 z) (.string tx) w5 r5.2 (.slice none 0 0) [] []) :=
    hide ⟨⟨off5, cap5, R5⟩, unhide HY8, unhide HZ8, World.ownsRow_nil _ _ _ _, by rw [MemEach]; trivial, unhide HB8, lR, lg, Nat.le_refl _, by omega⟩
  clear hr5 C6 HB7 HZ7 HY7 HB8 HZ8 HY8 b5 R5 HQ HR1 HR2 HR3 HR4 HTG HZZ HTX hW3
  obtain ⟨n0, hn0⟩ : ∃ n0 : Int, (r5.1 : Int) = n0 := ⟨_, rfl⟩
  rw [hn0]
  have HN0 := hide hn0
  clear hn0
  go_wp2_with fail
  go_loopw [6] (fun n wr => ∃ (c : Nat) (x : Int) (s' : RS) (sv : Value) (acc : List WT) (css : List (Array Value)), n = .int .u64 x ∧ Hid ((c : Int) = x) ∧ c < 18446744073709551616 ∧ Hid (kidsF (treeF d) r5.1 r5.2 = (acc ++ (kidsF (treeF d) c s').1, (kidsF (treeF d) c s').2)) ∧ (s'.bad = false → s'.k ≤ 5000) ∧ acc.length ≤ s'.k ∧ acc.length ≤ 5001 ∧
    Hid (TL w R g w.heap.size w1.heap.size (.int .i64 0) (.int .i64 0) (.string ⟨#[]⟩) (.slice none 0 0) (.int .i64 tg) (.int .i64 z) (.string tx) wr s' sv acc css)) (fun n _ => (intOf n).toNat)
  case atStart => exact ⟨r5.1, n0, r5.2, .slice none 0 0, [], [], rfl, HN0, hcb, hide (by rw [List.nil_append]), fun _ => hk5, by simp, by simp, TL0⟩
  case round =>
    obtain ⟨c, x, s', sv, acc, css, rfl, HC, hc, HKF, hk', hl', hl5, HT⟩ := hrel
    clear TL0 HN0
    obtain ⟨off', cap', R'⟩ := (unhide HT).rd
    have c2 := R'.c2
    have lY := (unhide HT).bx.low
    have HD2 : Hid (D + 1 = 41 - (d : Int)) := hide (by have := unhide HD; omega)
    by_cases hstop : c = 0 ∨ s'.bad = true
    · have e0 : kidsF (treeF d) c s' = ([], s') := by
        rcases hstop with q | q
        · rw [q]; rfl
        · exact kf_bad q
      have HQ3 : Hid (Q = (.mk tg z tx acc, s')) := by
        refine hide ?_
        rw [unhide HQ2, unhide HKF, e0]
        simp
      obtain ⟨y0, y1, y2, y3⟩ := (unhide HT).bx.tell
      obtain ⟨z0, z1, z2, z3⟩ := (unhide HT).bz.tell
      obtain ⟨p0, p1, p2, p3⟩ := (unhide HT).bz.thaw
      have lz := (unhide HT).bz.low
      obtain ⟨sa, sc, hsv⟩ := own_sl (unhide HT).own
      subst hsv
      have FT : ∀ v0 v1 v2 v3 : Value, PostTr w R g Q (.returned (.agg #[.int .i64 tg, .int .i64 z, .string tx, .slice sa acc.length sc])) (put4 wr w.heap.size v0 v1 v2 v3) := by
        intro v0 v1 v2 v3
        rw [unhide HQ3]
        have hp := put4_block wr w.heap.size v0 v1 v2 v3
        have hs := put4_size wr w.heap.size v0 v1 v2 v3
        have h2 : MemWP (fun b => w1.heap.size + 1 ≤ b ∧ b < wr.heap.size) wr (.mk tg z tx acc) #[.int .i64 tg, .int .i64 z, .string tx, .slice sa acc.length sc] :=
          owned_tree hz htxs (unhide HT).own (unhide HT).each (fun b hb => ⟨hb.1, hb.2.1⟩) (fun g hg => World.ownsRow.lt (unhide HT).own g hg) (by omega)
        refine ⟨_, rfl, h2.keepB (fun b hb => ⟨⟨by omega, by rw [hs]; exact hb.2⟩, hp b (by omega)⟩), ⟨off', cap', R'.same (hp R (by omega)) (hp g (by omega)) (by rw [hs]; exact Nat.le_refl _)⟩, ?_⟩
        have hb := (unhide HT).but
        have e := (((But.setAt (b := w.heap.size) (o := 0) (v := v0) hb (Nat.le_refl _)).setAt (b := w.heap.size) (o := 1) (v := v1) (Nat.le_refl _)).setAt (b := w.heap.size) (o := 2) (v := v2) (Nat.le_refl _)).setAt (b := w.heap.size) (o := 3) (v := v3) (Nat.le_refl _)
        exact e
      replace FT := hide FT
      have HR' := hide R'
      have fin : ∀ v0 v1 v2 v3 : Value, (put4 wr w.heap.size v0 v1 v2 v3) = (((wr.setCell ⟨w.heap.size, 0, none⟩ v0).setCell ⟨w.heap.size, 1, none⟩ v1).setCell ⟨w.heap.size, 2, none⟩ v2).setCell ⟨w.heap.size, 3, none⟩ v3 := fun _ _ _ _ => rfl
      replace fin := hide fin
      have HLl := hide hl5
      clear R' HT e0 HKF HQ2 HQ3 hl5 hl' hk'
      by_cases hc0 : c = 0
      · subst hc0
        have hx : x = 0 := (unhide HC).symm
        subst hx
        go_wp2
        exact bodyPost_ret (v := .agg #[.int .i64 tg, .int .i64 z, .string tx, .slice sa acc.length sc]) (by simp [results, Try.results24, go_sem, z0, z1, z2, z3]) rfl (unhide FT _ _ _ _)
      · have hb : s'.bad = true := by
          rcases hstop with q | q
          · exact absurd q hc0
          · exact q
        have hx : 0 < x := by have := unhide HC; omega
        rw [hb] at c2
        clear hc0 hstop hb hc
        go_wp2
        exact bodyPost_ret (v := .agg #[.int .i64 tg, .int .i64 z, .string tx, .slice sa acc.length sc]) (by simp [results, Try.results24, go_sem, z0, z1, z2, z3]) rfl (unhide FT _ _ _ _)
    · obtain ⟨c', rfl⟩ : ∃ c', c = c' + 1 := ⟨c - 1, by omega⟩
      have hb : s'.bad = false := by
        cases h : s'.bad with
        | true => exact absurd (.inr h) hstop
        | false => rfl
      have hkk := hk' hb
      have hx : 0 < x := by have := unhide HC; omega
      have hx64 : x < 18446744073709551616 := by have := unhide HC; omega
      rw [hb] at c2
      have HKF2 : Hid (kidsF (treeF d) r5.1 r5.2 = (acc ++ [(treeF d s').1] ++ (kidsF (treeF d) c' (treeF d s').2).1, (kidsF (treeF d) c' (treeF d s').2).2)) := by
        refine hide ?_
        rw [unhide HKF, kf_go hb]
        simp
      have hgood : (treeF d s').2.bad = false → (treeF d s').2.k ≤ 5000 := fun q => (tree_good d s' (by omega) q).2.2.2.1
      have hk1 := tree_k d s'
      have HG := hide (And.intro hgood hk1)
      have CB := hide (fun wx (hx : Below wr.heap.size wr wx) => unhide IH' wx R g s' off' cap' (R'.keep hx) hkk)
      rw [← unhide HD2] at CB
      obtain ⟨i0, hi, hz0, hz1, hz2⟩ := info_parts info_tree
      have HI := hide (And.intro hi (And.intro hz0 (And.intro hz1 hz2)))
      obtain ⟨v0, v1, v2, v3⟩ := (unhide HT).bx.tell
      obtain ⟨g0, g1, g2, g3⟩ := (unhide HT).bx.thaw
      have lat := (unhide HT).at'
      have hl0 : acc.length ≤ 5000 := by omega
      have HL0 := hide (And.intro hl0 hl')
      obtain ⟨sa0, sc0, hsv0⟩ := own_sl (unhide HT).own
      subst hsv0
      have HCC : Hid ((c' : Int) = x - 1) := hide (by have := unhide HC; omega)
      have hcc : c' < 18446744073709551616 := by omega
      have Hc := hide hcc
      clear hi hz0 hz1 hz2 hgood hk1 hb hstop hk' hl' hl5 hl0 HC hc hkk HKF IH' hcc
      have eW : IntKind.i64.wrap (D + 1) = D + 1 := by
        have := unhide HD
        rw [IntKind.wrap_i64]
        omega
      go_wp2_with fail
      have B1' := hide ((Below.refl wr.heap.size wr).drew)
      go_region_law (first
        | (go_simp
           with_reducible refine (unhide CB _ (unhide B1')).mono ?_
           rintro e w2 ⟨v', rfl, hM2, ⟨off2', cap2', hR2⟩, hb2⟩
           obtain ⟨eg, en, et, ea, el, ec, rfl⟩ := hM2.four
           have bx2 : But R wr w2 := (But.of (unhide B1')).trans hb2
           have X2 := (unhide HT).bx.but bx2 (by omega)
           have l2 := X2.low
           obtain ⟨k0, k1, k2, k3⟩ := X2.tell
           have O2 := own_same (unhide HT).own (fun k hk => bx2.block k (World.ownsRow.lt (unhide HT).own k hk).2 (by have := (World.ownsRow.lt (unhide HT).own k hk).1; omega)))
        | (refine step_append_own_at rfl _ _ 22 rfl (w1.heap.size + 1) 24 i0 (.agg #[.int .i64 0, .int .i64 0, .string ⟨#[]⟩, .slice none 0 0]) 4 56 Try.underlying22 (unhide HI).1 (unhide HI).2.1 (unhide HI).2.2.1 (unhide HI).2.2.2 rfl (by decide) _ _ (css.flatMap Array.toList) rfl (O2.alloc _) ⟨w2.heap.size, 0, none⟩ 1 1 [.int .i64 eg, .int .i64 en, .string et, .slice ea el ec] rfl rfl (cell_four_new _ _ _ _ _ _) (one_mix _ _ _ _ _ _) ?p1 ?p2 ?p3 ?_
           case p1 => unfold maxLen; have := (unhide HL0).1; omega
           case p2 => have := (unhide HL0).1; omega
           case p3 => simp; omega
           intro v3' w3 hown hgrow hat
           obtain ⟨gg, cc, rfl⟩ := own_slice hown
           have X3 : Bx w3 w1.heap.size (.int .i64 tg) (.int .i64 z) (.string tx) (.slice sa0 acc.length sc0) := (X2.keep (below_new _ _)).same (hgrow.block _ (by simp; omega) (fun e => by have := (World.ownsRow.lt (unhide HT).own _ e.symm).1; omega)) hgrow.size
           obtain ⟨j0, j1, j2, j3⟩ := X3.tell
           obtain ⟨o0, o1, o2, o3⟩ := X3.thaw
           have l3 := X3.low))
      all_goals
        have ST := (unhide HT).next bx2 hR2 (hM2.keepB (fun b hb => ⟨⟨hb.1, hb.2⟩, rfl⟩)) hown hgrow hat
        have HST := hide ST
        clear ST HT X2 X3 k0 k1 k2 k3 j0 j1 j2 j3 o0 o1 o2 o3 hown hgrow hat hM2 hb2 bx2 CB O2 v0 v1 v2 v3 g0 g1 g2 g3 hR2
        go_wp2
        go_roundw
        case rel => exact ⟨c', x - 1, (treeF d s').2, _, acc ++ [(treeF d s').1], _, rfl, HCC, unhide Hc, HKF2, (unhide HG).1, by have := (unhide HG).2; have := unhide HL0; simp; omega, by have := unhide HL0; simp; omega, HST⟩
        case measure => simp [intOf]; omega

theorem tree_all : ∀ d : Nat, d ≤ 40 → TreeC d
  | 0, _ => fun w R g s off cap h hk => by
    rw [tf_zero]
    exact tree_many 0 (by decide) w R g s off cap h hk (.inr rfl)
  | d + 1, hd => tree_of d hd (tree_all d (by omega))
end Go.Proofs.Ytlienildfnlncaa
