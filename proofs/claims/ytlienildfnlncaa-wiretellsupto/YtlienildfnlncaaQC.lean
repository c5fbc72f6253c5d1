/- Walks: the document's tree. -/
import Derived.Test.YtlienildfnlncaaQB
namespace Go.Proofs.Ytlienildfnlncaa
open Go.RowKit

theorem head_nil : (headF ⟨[], 0, false⟩).2.bad = true := by
  cases q : (headF ⟨[], 0, false⟩).2.bad with
  | true => rfl
  | false =>
    obtain ⟨_, _, _, _, _, h, _⟩ := headF_good q
    cases h
theorem head_bad2 {l l1 : List UInt8} {b : UInt8} {r : List UInt8} {x : Nat} (hl : l = b :: r) (h1 : numF ⟨r, 0, false⟩ = (x, ⟨l1, 0, false⟩)) (h : (numF ⟨l1, 0, false⟩).2.bad = true) : (headF ⟨l, 0, false⟩).2.bad = true := by
  cases q : (headF ⟨l, 0, false⟩).2.bad with
  | true => rfl
  | false =>
    unfold headF at q
    rw [hl, next_cons] at q
    simp only [h1] at q
    have c4 := (textF_good (numF_good q).2.2.2).2.2.2
    rw [c4] at h
    cases h
theorem head_bad3 {l l1 l2 : List UInt8} {b : UInt8} {r : List UInt8} {x n : Nat} (hl : l = b :: r) (h1 : numF ⟨r, 0, false⟩ = (x, ⟨l1, 0, false⟩)) (h2 : numF ⟨l1, 0, false⟩ = (n, ⟨l2, 0, false⟩)) (h : l2.length < n) : (headF ⟨l, 0, false⟩).2.bad = true := by
  cases q : (headF ⟨l, 0, false⟩).2.bad with
  | true => rfl
  | false =>
    unfold headF at q
    rw [hl, next_cons] at q
    simp only [h1, h2] at q
    have c4 := (numF_good q).2.2.2
    rw [tx_no (s := ⟨l2, 0, false⟩) h] at c4
    cases c4
theorem head_is {l l1 l2 : List UInt8} {l3s : RS} {b : UInt8} {r : List UInt8} {x n m : Nat} (hl : l = b :: r) (h1 : numF ⟨r, 0, false⟩ = (x, ⟨l1, 0, false⟩)) (h2 : numF ⟨l1, 0, false⟩ = (n, ⟨l2, 0, false⟩)) (h : ¬ l2.length < n) (h3 : numF ⟨l2.drop n, 0, false⟩ = (m, l3s)) :
    headF ⟨l, 0, false⟩ = ((b.toNat, x, l2.take n, m), l3s) := by
  unfold headF
  rw [hl, next_cons]
  simp only [h1, h2]
  rw [tx_go (s := ⟨l2, 0, false⟩) h]
  simp only
  rw [h3]
/-- the walk's end with nothing -/
theorem RTok.no {w w' : World} {l : List UInt8} {r : Option (WT × List UInt8)} (h : r = none) : RTok w w' l r #[.int .i64 0, .int .i64 0, .string ⟨#[]⟩, .slice none 0 0] (-1) := by
  rw [h]
  exact ⟨rfl, MemWP.zero _ _⟩

set_option maxHeartbeats 4000000 in
theorem rtree_of (d : Nat) (hd : d + 1 ≤ 40) (IH : RTreeC d) : RTreeC (d + 1) := by
  intro w g off cap p l hl hcap hbc hg hp
  have IH' := hide IH
  obtain ⟨Q, hQ⟩ : ∃ Q, treeR l.length (d + 1) (l.drop p) = Q := ⟨_, rfl⟩
  rw [hQ]
  obtain ⟨D, hD⟩ : ∃ D : Int, D = 41 - ((d + 1 : Nat) : Int) := ⟨_, rfl⟩
  rw [← hD]
  have hD4 : ¬ (40 : Int) < D := by omega
  have HD := hide hD
  clear hD IH
  by_cases hend : p < l.length
  · have hend' : ¬ (l.length : Int) ≤ (p : Int) := by omega
    have hend2 : (p : Int) < (l.length : Int) := by omega
    obtain ⟨y, hy⟩ : ∃ y, l[p]? = some y := ⟨_, List.getElem?_eq_getElem hend⟩
    have hcell := hbc p y hy
    have hdrop : l.drop p = y :: l.drop (p + 1) := by
      rw [List.drop_eq_getElem_cons hend]
      congr 1
      rw [List.getElem?_eq_getElem hend] at hy
      exact Option.some.inj hy
    have hyl := y.toNat_lt
    obtain ⟨tg, htg⟩ : ∃ tg : Int, (y.toNat : Int) = tg := ⟨_, rfl⟩
    rw [htg] at hcell
    have t0 : 0 ≤ tg := by omega
    have t1 : tg < 256 := by omega
    obtain ⟨W1, hW1⟩ : ∃ W1, W1 = (w.alloc (.cells #[.int .i64 0, .int .i64 0, .string ⟨#[]⟩, .slice none 0 0] 24)).alloc (.cells #[.int .i64 tg, .int .i64 0, .string ⟨#[]⟩, .slice none 0 0] 24) := ⟨_, rfl⟩
    have B1 : Below w.heap.size w W1 := by rw [hW1]; exact (below_new _ _).alloc (by simp) _
    have Z1 : Bx W1 w.heap.size (.int .i64 0) (.int .i64 0) (.string ⟨#[]⟩) (.slice none 0 0) := by rw [hW1]; exact (Bx.new w _ _ _ _ _).keep (below_new _ _)
    have Y1 : Bx W1 (w.heap.size + 1) (.int .i64 tg) (.int .i64 0) (.string ⟨#[]⟩) (.slice none 0 0) := by
      have := Bx.new (w.alloc (.cells #[.int .i64 0, .int .i64 0, .string ⟨#[]⟩, .slice none 0 0] 24)) 24 (.int .i64 tg) (.int .i64 0) (.string ⟨#[]⟩) (.slice none 0 0)
      rw [hW1]
      simpa using this
    have bc1 : BC W1 g off l := hbc.keep (fun o => B1.cell (p := ⟨g, o, none⟩) hg)
    have C1 := hide (rnum_any l g off cap (p + 1) W1 hl bc1 (by omega))
    have HB1 := hide B1
    have HZ1 := hide Z1
    have HY1 := hide Y1
    have HC1 := hide bc1
    have HDr := hide hdrop
    have HTG := hide htg
    have hsz : W1.heap.size = w.heap.size + 2 := by rw [hW1]; simp
    have HSz := hide hsz
    have HQ := hide hQ
    have lgW : g < W1.heap.size := by omega
    rw [show (((p + 1 : Nat)) : Int) = (p : Int) + 1 by simp] at C1
    have HC00 := hide hbc
    clear B1 Z1 Y1 bc1 hdrop htg hyl hy hsz hQ hbc
    go_enter Try.func25, Try.ntmps25
    go_wp2_with fail
    rw [← hW1]
    clear hW1
    with_reducible refine (unhide C1).mono ?_
    rintro e wx ⟨rfl, hwx⟩
    replace hwx := hwx.symm
    subst hwx
    clear C1 hcell
    obtain ⟨z0, z1, z2, z3⟩ := (unhide HZ1).tell
    obtain ⟨f0, f1, f2, f3⟩ := (unhide HZ1).thaw
    obtain ⟨y0, y1, y2, y3⟩ := (unhide HY1).tell
    obtain ⟨r0, r1, r2, r3⟩ := (unhide HY1).thaw
    have lz := (unhide HZ1).low
    have ly := (unhide HY1).low
    rcases num_at l (p + 1) (by omega) with ⟨hb, hr⟩ | ⟨x, p2, hr1, hp1, hp2, hx64, hr⟩
    · have hnone : Q = none := by
        rw [← unhide HQ]
        exact tr_bad (head_bad1 (unhide HDr) hb)
      have HN := hide hnone
      have FE := hide (fun v0 v1 v2 v3 => below_put4' (v0 := v0) (v1 := v1) (v2 := v2) (v3 := v3) (unhide HB1))
      rw [hr]
      clear hb hr hnone HB1 HZ1 HY1 HC1 HDr HTG HQ IH'
      go_wp2
      exact bodyPost_ret (v := .tuple #[.agg #[.int .i64 0, .int .i64 0, .string ⟨#[]⟩, .slice none 0 0], .int .i64 (-1)]) (by simp [results, Try.results25, go_sem, z0, z1, z2, z3]) rfl ⟨_, _, rfl, RTok.no (unhide HN), unhide FE _ _ _ _⟩
    · rw [hr]
      have HR1 := hide hr1
      obtain ⟨χ, hχ⟩ : ∃ χ : Int, (x : Int) = χ := ⟨_, rfl⟩
      obtain ⟨q, hq⟩ : ∃ q : Int, ((x / 2 : Nat) : Int) = q := ⟨_, rfl⟩
      have x0 : 0 ≤ χ := by omega
      have e1 : IntKind.u64.wrap (χ.tdiv 2) = q := by
        rw [← hχ, Int.tdiv_eq_ediv_of_nonneg (by omega), wraps_u64 _ (by omega) (by omega)]
        omega
      have q0 : 0 ≤ q := by omega
      have q1 : q < 9223372036854775808 := by omega
      have e2 : IntKind.i64.wrap q = q := by rw [IntKind.wrap_i64]; omega
      rw [hχ]
      have HX := hide (And.intro hχ hq)
      have hp2' : ¬ (p2 : Int) < 0 := by omega
      by_cases hodd : χ % 2 = 1
      · have e3 : -q - 1 = zagF x := by
          unfold zagF
          rw [if_pos (by omega)]
          omega
        have HE3 := hide e3
        clear hr hr1 hχ hq e3
        go_wp2_with fail
        obtain ⟨W2, hW2⟩ : ∃ W2, W2 = (W1.setCell ⟨w.heap.size + 1, 1, none⟩ (.int .i64 q)).setCell ⟨w.heap.size + 1, 1, none⟩ (.int .i64 (-q - 1)) := ⟨_, rfl⟩
        rw [← hW2]
        have HB2 : Hid (Below w.heap.size w W2) := by rw [hW2]; exact hide (((unhide HB1).setCell (p := ⟨w.heap.size + 1, 1, none⟩) (by simp) _).setCell (p := ⟨w.heap.size + 1, 1, none⟩) (by simp) _)
        have HZ2 : Hid (Bx W2 w.heap.size (.int .i64 0) (.int .i64 0) (.string ⟨#[]⟩) (.slice none 0 0)) := by rw [hW2]; exact hide (((unhide HZ1).setAt (by omega)).setAt (by omega))
        have HY2 : Hid (Bx W2 (w.heap.size + 1) (.int .i64 tg) (.int .i64 (zagF x)) (.string ⟨#[]⟩) (.slice none 0 0)) := by rw [hW2, ← unhide HE3]; exact hide (((unhide HY1).set1 _).set1 _)
        have HC2 : Hid (BC W2 g off l) := by rw [hW2]; exact hide (((unhide HC1).set (by omega)).set (by omega))
        clear hW2 HE3 hodd e1 e2 q0 q1 HX

        clear HB1 HZ1 HY1 HC1 z0 z1 z2 z3 f0 f1 f2 f3 y0 y1 y2 y3 r0 r1 r2 r3 lz ly
        have C2 := hide (rnum_any l g off cap p2 W2 hl (unhide HC2) hp2)
        with_reducible refine (unhide C2).mono ?_
        rintro e wx ⟨rfl, hwx⟩
        replace hwx := hwx.symm
        subst hwx
        clear C2
        obtain ⟨z0, z1, z2, z3⟩ := (unhide HZ2).tell
        obtain ⟨f0, f1, f2, f3⟩ := (unhide HZ2).thaw
        obtain ⟨y0, y1, y2, y3⟩ := (unhide HY2).tell
        obtain ⟨r0, r1, r2, r3⟩ := (unhide HY2).thaw
        have lz := (unhide HZ2).low
        have ly := (unhide HY2).low
        have FE := hide (fun v0 v1 v2 v3 => below_put4' (v0 := v0) (v1 := v1) (v2 := v2) (v3 := v3) (unhide HB2))
        rcases num_at l p2 hp2 with ⟨hb, hr⟩ | ⟨n, p3, hr2, hp23, hp3, hn64, hr⟩
        · have HN : Hid (Q = none) := hide (by rw [← unhide HQ]; exact tr_bad (head_bad2 (unhide HDr) (unhide HR1) hb))
          rw [hr]
          clear hb hr HB2 HZ2 HY2 HC2 HDr HTG HQ IH' HR1
          go_wp2
          exact bodyPost_ret (v := .tuple #[.agg #[.int .i64 0, .int .i64 0, .string ⟨#[]⟩, .slice none 0 0], .int .i64 (-1)]) (by simp [results, Try.results25, go_sem, z0, z1, z2, z3]) rfl ⟨_, _, rfl, RTok.no (unhide HN), unhide FE _ _ _ _⟩
        rw [hr]
        have HR2 := hide hr2
        obtain ⟨ν, hν⟩ : ∃ ν : Int, (n : Int) = ν := ⟨_, rfl⟩
        rw [hν]
        have hp3' : ¬ (p3 : Int) < 0 := by omega
        obtain ⟨ω, hω⟩ : ∃ ω : Int, (l.length : Int) - (p3 : Int) = ω := ⟨_, rfl⟩
        have eω : IntKind.u64.wrap ω = ω := by rw [IntKind.wrap_u64]; omega
        have n0 : 0 ≤ ν := by omega
        have HV := hide (And.intro hν hω)
        clear hr hr2
        by_cases hlong : ω < ν
        · have HN : Hid (Q = none) := hide (by rw [← unhide HQ]; exact tr_bad (head_bad3 (unhide HDr) (unhide HR1) (unhide HR2) (by simp; omega)))
          clear HB2 HZ2 HY2 HC2 HDr HTG HQ IH' HR1 HR2 hν
          go_wp2
          exact bodyPost_ret (v := .tuple #[.agg #[.int .i64 0, .int .i64 0, .string ⟨#[]⟩, .slice none 0 0], .int .i64 (-1)]) (by simp [results, Try.results25, go_sem, z0, z1, z2, z3]) rfl ⟨_, _, rfl, RTok.no (unhide HN), unhide FE _ _ _ _⟩
        have hn3 : p3 + n ≤ l.length := by omega
        have n1 : ν ≤ 100000 := by omega
        obtain ⟨P4, hP4⟩ : ∃ P4, p3 + n = P4 := ⟨_, rfl⟩
        have e4 : (p3 : Int) + ν = (P4 : Int) := by omega
        have s1 : (p3 : Int) ≤ (P4 : Int) := by omega
        have s2 : (P4 : Int) ≤ (cap : Int) := by omega
        have eN : P4 - p3 = n := by omega
        obtain ⟨tx, htx⟩ : ∃ tx : ByteArray, (⟨((l.drop p3).take n).toArray⟩ : ByteArray) = tx := ⟨_, rfl⟩
        have hTl : ((l.drop p3).take n).length = n := by simp; omega
        have htxs : tx.size ≤ 9223372036854775807 := by
          have : tx.size = n := by rw [← htx]; simpa [ByteArray.size] using hTl
          omega
        have hcv : ∀ a2 : Nat, (a2 = off + p3 ∨ n = 0) → (convert 25 9 (.slice (some ⟨g, a2, none⟩) n (cap - p3))).run Try.prog W2 = .ok (.string tx) W2 := fun a2 ha => by
          have q := run_convert_bytes_back (P := Try.prog) W2 25 9 5 ⟨g, a2, none⟩ (cap - p3) ((l.drop p3).take n) Try.underlying25 Try.underlying5 Try.underlying9 (fun j hj => by
            rw [hTl] at hj
            rcases ha with rfl | h0
            · rw [Addr.add_lit, List.getElem_take, List.getElem_drop]
              have := unhide HC2 (p3 + j) _ (List.getElem?_eq_getElem (by omega))
              rw [← this]
              congr 2
              omega
            · omega)
          rw [hTl, htx] at q
          exact q
        have hcv1 := hcv (off + p3) (.inl rfl)
        have HT := hide (And.intro htx hP4)
        have HC3 : Hid (BC (W2.setCell ⟨w.heap.size + 1, 2, none⟩ (.string tx)) g off l) := hide ((unhide HC2).set (by omega))
        have C3 := hide (rnum_any l g off cap P4 (W2.setCell ⟨w.heap.size + 1, 2, none⟩ (.string tx)) hl (unhide HC3) (by omega))
        have hP4l : P4 ≤ l.length := by omega
        clear hν htx hTl hP4 hn3
        have hcp : ¬ cap = p3 := by omega
        clear hcv hn64 hlong
        go_wp2_with fail
        obtain ⟨W3, hW3⟩ : ∃ W3, W3 = W2.setCell ⟨w.heap.size + 1, 2, none⟩ (.string tx) := ⟨_, rfl⟩
        rw [← hW3] at HC3 C3 ⊢
        have HB3 : Hid (Below w.heap.size w W3) := by rw [hW3]; exact hide ((unhide HB2).setCell (p := ⟨w.heap.size + 1, 2, none⟩) (by simp) _)
        have HZ3 : Hid (Bx W3 w.heap.size (.int .i64 0) (.int .i64 0) (.string ⟨#[]⟩) (.slice none 0 0)) := by rw [hW3]; exact hide ((unhide HZ2).setAt (by omega))
        have HY3 : Hid (Bx W3 (w.heap.size + 1) (.int .i64 tg) (.int .i64 (zagF x)) (.string tx) (.slice none 0 0)) := by rw [hW3]; exact hide ((unhide HY2).set2 _)
        clear hW3 FE HB2 HZ2 HY2 HC2 z0 z1 z2 z3 f0 f1 f2 f3 y0 y1 y2 y3 r0 r1 r2 r3 lz ly hcv1 e4 s1 s2 eN hcp eω n0 n1
        with_reducible refine (unhide C3).mono ?_
        rintro e wx ⟨rfl, hwx⟩
        replace hwx := hwx.symm
        subst hwx
        clear C3
        obtain ⟨z0, z1, z2, z3⟩ := (unhide HZ3).tell
        obtain ⟨f0, f1, f2, f3⟩ := (unhide HZ3).thaw
        obtain ⟨y0, y1, y2, y3⟩ := (unhide HY3).tell
        obtain ⟨r0, r1, r2, r3⟩ := (unhide HY3).thaw
        have lz := (unhide HZ3).low
        have ly := (unhide HY3).low
        have FE := hide (fun v0 v1 v2 v3 => below_put4' (v0 := v0) (v1 := v1) (v2 := v2) (v3 := v3) (unhide HB3))
        have hlen3 : ¬ (l.drop p3).length < n := by have := unhide HV; simp; omega
        have hd34 : (l.drop p3).drop n = l.drop P4 := by rw [List.drop_drop, (unhide HT).2]
        have HL3 := hide (And.intro hlen3 hd34)
        clear hlen3 hd34
        rcases num_at l P4 hP4l with ⟨hb, hr⟩ | ⟨m, p5, hr3, hp45, hp5, hm64, hr⟩
        · have HN : Hid (Q = none) := hide (by
            rw [← unhide HQ]
            refine tr_bad ?_
            rw [head_is (unhide HDr) (unhide HR1) (unhide HR2) (unhide HL3).1 (by rw [(unhide HL3).2])]
            exact hb)
          rw [hr]
          clear hb hr HB3 HZ3 HY3 HC3 HDr HTG HQ IH' HR1 HR2 HL3 HV HT
          go_wp2
          exact bodyPost_ret (v := .tuple #[.agg #[.int .i64 0, .int .i64 0, .string ⟨#[]⟩, .slice none 0 0], .int .i64 (-1)]) (by simp [results, Try.results25, go_sem, z0, z1, z2, z3]) rfl ⟨_, _, rfl, RTok.no (unhide HN), unhide FE _ _ _ _⟩
        rw [hr]
        obtain ⟨μ, hμ⟩ : ∃ μ : Int, (m : Int) = μ := ⟨_, rfl⟩
        rw [hμ]
        have hp5' : ¬ (p5 : Int) < 0 := by omega
        have eL : IntKind.u64.wrap (l.length : Int) = (l.length : Int) := by rw [IntKind.wrap_u64]; omega
        have eL2 : (l.length : Int) % 18446744073709551616 = (l.length : Int) := by omega
        have m0 : 0 ≤ μ := by omega
        have hhead := head_is (m := m) (l3s := ⟨l.drop p5, 0, false⟩) (unhide HDr) (unhide HR1) (unhide HR2) (unhide HL3).1 (by rw [(unhide HL3).2]; exact hr3)
        have HMu := hide hμ
        by_cases hmany : (l.length : Int) < μ
        · have HN : Hid (Q = none) := hide (by
            rw [← unhide HQ, treeR, hhead, if_pos (.inr (by simp only; omega))])
          clear hr hr3 hhead HB3 HZ3 HY3 HC3 HDr HTG HQ IH' HR1 HR2 HL3 HV HT hμ
          go_wp2
          exact bodyPost_ret (v := .tuple #[.agg #[.int .i64 0, .int .i64 0, .string ⟨#[]⟩, .slice none 0 0], .int .i64 (-1)]) (by simp [results, Try.results25, go_sem, z0, z1, z2, z3]) rfl ⟨_, _, rfl, RTok.no (unhide HN), unhide FE _ _ _ _⟩
        have HQ2 : Hid (Q = (kidsR (treeR l.length d) m (l.drop p5)).map fun q => (.mk tg (zagF x) tx q.1, q.2)) := hide (by
          rw [← unhide HQ, treeR, hhead, if_neg (by simp only; intro z; rcases z with z | z; cases z; omega)]
          simp only
          rw [unhide HTG, (unhide HT).1])
        have hzx := zag_bd hx64
        have hm5 : m ≤ 100000 := by omega
        have T0 : Hid (TR w w.heap.size (w.heap.size + 1) (.int .i64 0) (.int .i64 0) (.string ⟨#[]⟩) (.slice none 0 0) (.int .i64 tg) (.int .i64 (zagF x)) (.string tx) W3 (.slice none 0 0) [] []) :=
          hide ⟨unhide HY3, unhide HZ3, World.ownsRow_nil _ _ _ _, by rw [MemEach]; trivial, unhide HB3, Nat.le_refl _, by omega⟩
        have HC0 := HC00
        clear hr hr3 hhead HDr HTG HQ HR1 HR2 HL3 HV HT hμ FE
        go_wp2_with fail
        clear z0 z1 z2 z3 f0 f1 f2 f3 y0 y1 y2 y3 r0 r1 r2 r3 lz ly eL eL2 hmany
        have HEc := hide (fun (T : WT) (r : List UInt8) (pp : Nat) (h : treeR l.length d (l.drop pp) = some (T, r)) => (tr_good l.length d (by omega) (l.drop pp) T r h).1)
        obtain ⟨ζ, hζ⟩ : ∃ ζ : Int, zagF x = ζ := ⟨_, rfl⟩
        rw [hζ] at hzx HQ2 T0
        clear hζ
        have HD2 : Hid (D + 1 = 41 - (d : Int)) := hide (by have := unhide HD; omega)
        go_loopw [1, 11] (fun av nv wr => ∃ (c pp : Nat) (ξ : Int) (sv : Value) (acc : List WT) (css : List (Array Value)), av = .int .i64 (pp : Int) ∧ nv = .int .u64 ξ ∧ Hid ((c : Int) = ξ) ∧ c ≤ 100000 ∧ pp ≤ l.length ∧ acc.length ≤ pp ∧ Hid (Q = (kidsR (treeR l.length d) c (l.drop pp)).map fun q => (.mk tg ζ tx (acc ++ q.1), q.2)) ∧
          Hid (TR w w.heap.size (w.heap.size + 1) (.int .i64 0) (.int .i64 0) (.string ⟨#[]⟩) (.slice none 0 0) (.int .i64 tg) (.int .i64 ζ) (.string tx) wr sv acc css)) (fun _ nv _ => (intOf nv).toNat)
        case atStart => exact ⟨m, p5, μ, .slice none 0 0, [], [], rfl, rfl, HMu, hm5, hp5, by simp, HQ2, T0⟩
        case round =>
          obtain ⟨c, pp, ξ, sv, acc, css, rfl, rfl, HC, hc, hpp, hacc, HQr, HT⟩ := hrel
          clear T0 HQ2 HMu HB3 HZ3 HY3
          have BW : Below w.heap.size w wr := (unhide HT).bel
          have HBW := hide BW
          have HCr : Hid (BC wr g off l) := hide ((unhide HC0).keep (fun o => BW.cell (p := ⟨g, o, none⟩) hg))
          have lwr : g < wr.heap.size := Nat.lt_of_lt_of_le hg BW.size
          clear BW
          by_cases hc0 : c = 0
          · subst hc0
            have hξ : ξ = 0 := (unhide HC).symm
            subst hξ
            obtain ⟨y0, y1, y2, y3⟩ := (unhide HT).bx.tell
            obtain ⟨z0, z1, z2, z3⟩ := (unhide HT).bz.tell
            obtain ⟨f0, f1, f2, f3⟩ := (unhide HT).bz.thaw
            have lz := (unhide HT).bz.low
            obtain ⟨sa, sc, hsv⟩ := own_sl (unhide HT).own
            subst hsv
            have HQ3 : Hid (Q = some (.mk tg ζ tx acc, l.drop pp)) := hide (by rw [unhide HQr, kidsR]; simp)
            have FT : Hid (∀ v0 v1 v2 v3 : Value, PostRT w l Q (.returned (.tuple #[.agg #[.int .i64 tg, .int .i64 ζ, .string tx, .slice sa acc.length sc], .int .i64 (pp : Int)])) (put4 wr w.heap.size v0 v1 v2 v3)) := hide fun v0 v1 v2 v3 => by
              have hpb := put4_block wr w.heap.size v0 v1 v2 v3
              have hps := put4_size wr w.heap.size v0 v1 v2 v3
              have h2 : MemWP (fun b => w.heap.size + 1 + 1 ≤ b ∧ b < wr.heap.size) wr (.mk tg ζ tx acc) #[.int .i64 tg, .int .i64 ζ, .string tx, .slice sa acc.length sc] :=
                owned_tree hzx htxs (unhide HT).own (unhide HT).each (fun b hb => ⟨hb.1, hb.2.1⟩) (fun g hg => World.ownsRow.lt (unhide HT).own g hg) (by omega)
              refine ⟨_, _, rfl, ?_, below_put4' (unhide HBW)⟩
              rw [unhide HQ3]
              exact ⟨⟨pp, rfl, hpp, rfl⟩, h2.keepB (fun b hb => ⟨⟨by omega, by rw [hps]; exact hb.2⟩, hpb b (by omega)⟩)⟩
            clear HT HQr HQ3 HC HBW HCr hc
            go_wp2
            exact bodyPost_ret (v := .tuple #[.agg #[.int .i64 tg, .int .i64 ζ, .string tx, .slice sa acc.length sc], .int .i64 (pp : Int)]) (by simp [results, Try.results25, go_sem, z0, z1, z2, z3]) rfl (unhide FT _ _ _ _)
          · obtain ⟨c', rfl⟩ : ∃ c', c = c' + 1 := ⟨c - 1, by omega⟩
            have hξ : 0 < ξ := by have := unhide HC; omega
            have hξ2 : ξ < 18446744073709551616 := by have := unhide HC; omega
            have HCC : Hid ((c' : Int) = ξ - 1) := hide (by have := unhide HC; omega)
            have bK := below_new wr (.cells #[.int .i64 0, .int .i64 0, .string ⟨#[]⟩, .slice none 0 0] 24)
            have XK := Bx.new wr 24 (.int .i64 0) (.int .i64 0) (.string ⟨#[]⟩) (.slice none 0 0)
            have C5 := hide (unhide IH' (wr.alloc (.cells #[.int .i64 0, .int .i64 0, .string ⟨#[]⟩, .slice none 0 0] 24)) g off cap pp l hl hcap ((unhide HCr).keep (fun o => bK.cell (p := ⟨g, o, none⟩) lwr)) (by simp; omega) hpp)
            rw [← unhide HD2] at C5
            have HbK := hide bK
            have HXK := hide XK
            have D0 : 0 ≤ D := by have := unhide HD; omega
            clear HC hc0 bK XK
            go_wp2_with fail
            with_reducible refine (unhide C5).mono ?_
            rintro e w2 ⟨cs, q, rfl, hok, hb2⟩
            have hb2' : Below wr.heap.size wr w2 := below_via (unhide HbK) hb2
            have X2 := (unhide HXK).keep hb2
            have hsz2 := hb2.size
            simp at hsz2
            obtain ⟨k0, k1, k2, k3⟩ := X2.tell
            obtain ⟨j0, j1, j2, j3⟩ := X2.thaw
            have lk := X2.low
            have HT2 := (unhide HT).keep hb2'
            obtain ⟨z0, z1, z2, z3⟩ := HT2.bz.tell
            obtain ⟨f0, f1, f2, f3⟩ := HT2.bz.thaw
            have lz := HT2.bz.low
            obtain ⟨y0, y1, y2, y3⟩ := HT2.bx.tell
            obtain ⟨r0, r1, r2, r3⟩ := HT2.bx.thaw
            have ly := HT2.bx.low
            have hYr := (unhide HT).bx.low
            have hlt0 : w.heap.size < wr.heap.size := by omega
            obtain ⟨R, hR⟩ : ∃ R, treeR l.length d (l.drop pp) = R := ⟨_, rfl⟩
            rw [hR] at hok
            cases R with
            | none =>
              obtain ⟨hq, hM0⟩ := hok
              subst hq
              obtain ⟨eg, en, et, ea, el, ec, rfl⟩ := hM0.four
              have HN : Hid (Q = none) := hide (by rw [unhide HQr, kidsR, hR]; rfl)
              have FE : Hid (∀ v0 v1 v2 v3 u0 u1 u2 u3 : Value, Below w.heap.size w (put4 (put4 w2 wr.heap.size u0 u1 u2 u3) w.heap.size v0 v1 v2 v3)) := hide fun v0 v1 v2 v3 u0 u1 u2 u3 =>
                below_put4' (((((HT2.bel.setCell (p := ⟨wr.heap.size, 0, none⟩) (by simp only; omega) u0).setCell (p := ⟨wr.heap.size, 1, none⟩) (by simp only; omega) u1).setCell (p := ⟨wr.heap.size, 2, none⟩) (by simp only; omega) u2).setCell (p := ⟨wr.heap.size, 3, none⟩) (by simp only; omega) u3))
              clear hM0 hR HQr HT HT2 C5 hb2 hb2' X2 HBW HCr HbK HXK HEc
              go_wp2
              exact bodyPost_ret (v := .tuple #[.agg #[.int .i64 0, .int .i64 0, .string ⟨#[]⟩, .slice none 0 0], .int .i64 (-1)]) (by simp [results, Try.results25, go_sem, z0, z1, z2, z3]) rfl ⟨_, _, rfl, RTok.no (unhide HN), unhide FE _ _ _ _ _ _ _ _⟩
            | some TT =>
              obtain ⟨U, rest⟩ := TT
              obtain ⟨⟨p', hrest, hp', hq⟩, hMU⟩ := hok
              subst hq hrest
              obtain ⟨eg, en, et, ea, el, ec, rfl⟩ := hMU.four
              obtain ⟨W5, hW5⟩ : ∃ W5, W5 = put4 w2 wr.heap.size (.int .i64 eg) (.int .i64 en) (.string et) (.slice ea el ec) := ⟨_, rfl⟩
              have b5 : Below wr.heap.size wr W5 := by
                rw [hW5]
                exact (((hb2'.setCell (p := ⟨wr.heap.size, 0, none⟩) (Nat.le_refl _) _).setCell (p := ⟨wr.heap.size, 1, none⟩) (Nat.le_refl _) _).setCell (p := ⟨wr.heap.size, 2, none⟩) (Nat.le_refl _) _).setCell (p := ⟨wr.heap.size, 3, none⟩) (Nat.le_refl _) _
              have s5 : W5.heap.size = w2.heap.size := by rw [hW5]; exact put4_size ..
              have M5 : MemWP (fun b => wr.heap.size ≤ b ∧ b < W5.heap.size) W5 U #[.int .i64 eg, .int .i64 en, .string et, .slice ea el ec] := hMU.keepB (fun b hb => ⟨⟨by have := hb.1; simp at this; omega, by rw [s5]; exact hb.2⟩, by rw [hW5]; exact put4_block _ _ _ _ _ _ b (by have := hb.1; simp at this; omega)⟩)
              have T5 := (unhide HT).keep b5
              have HQn : Hid (Q = (kidsR (treeR l.length d) c' (l.drop p')).map fun q => (.mk tg ζ tx ((acc ++ [U]) ++ q.1), q.2)) := hide (by
                rw [unhide HQr, kidsR, hR]
                simp only [Option.bind_some, Option.map_map]
                congr 1
                funext q
                simp)
              have hlenE : pp + 1 ≤ p' := by
                have h1 := congrArg List.length (unhide HEc U (l.drop p') pp hR)
                have h2 := List.length_pos_iff.2 (enc_ne U)
                simp only [List.length_drop, List.length_append] at h1
                omega
              obtain ⟨sa0, sc0, hsv0⟩ := own_sl (unhide HT).own
              subst hsv0
              obtain ⟨i0, hi, hz0, hz1, hz2⟩ := info_parts info_tree
              have I0 := hide hi
              have I1 := hide hz0
              have I2 := hide hz1
              have I3 := hide hz2
              have m1 : Hid (acc.length + 1 ≤ maxLen) := hide (by unfold maxLen; omega)
              have m2 : Hid ((acc.length + 1) * 56 ≤ 140737488355328) := hide (by omega)
              have m3 : ∀ o, Hid (w.heap.size + 1 + 1 ≤ (W5.alloc o).heap.size) := fun o => hide (by simp; omega)
              have hp0 : ¬ (p' : Int) < 0 := by omega
              have HT5 := hide T5
              have HM5 := hide M5
              have Hb5 := hide b5
              have HS5 := hide s5
              have hne1 : ¬ w.heap.size + 1 = wr.heap.size := by omega
              have hne2 : ¬ wr.heap.size = w.heap.size + 1 := by omega
              clear hi hz0 hz1 hz2 hMU hR HQr C5 hb2 hb2' X2 HBW HCr HbK HXK HEc HT2 T5 M5 b5 s5
              have O5 : Hid (∀ o, ((put4 w2 wr.heap.size (.int .i64 eg) (.int .i64 en) (.string et) (.slice ea el ec)).alloc o).ownsRow (w.heap.size + 1 + 1) 24 4 (.slice sa0 acc.length sc0) acc.length (css.flatMap Array.toList)) := hide (fun o => by rw [← hW5]; exact (unhide HT5).own.alloc o)
              have m3' : ∀ o, Hid (w.heap.size + 1 + 1 ≤ ((put4 w2 wr.heap.size (.int .i64 eg) (.int .i64 en) (.string et) (.slice ea el ec)).alloc o).heap.size) := fun o => hide (by have := unhide (m3 o); rwa [hW5] at this)
              have N5 : Hid (∀ j u, [Value.int .i64 eg, .int .i64 en, .string et, .slice ea el ec][j]? = some u → ((put4 w2 wr.heap.size (.int .i64 eg) (.int .i64 en) (.string et) (.slice ea el ec)).alloc (.cells #[.int .i64 eg, .int .i64 en, .string et, .slice ea el ec] 24)).cell? ((⟨w2.heap.size, 0, none⟩ : Addr).add j) = some u) := hide (cell_four_at _ _ _ _ _ _ _ (put4_size ..))
              go_wp2_with (at_builtin; refine wpList_append_own_at _ rfl _ _ 22 rfl (w.heap.size + 1 + 1) 24 i0 (.agg #[.int .i64 0, .int .i64 0, .string ⟨#[]⟩, .slice none 0 0]) 4 56 Try.underlying22 (unhide I0) (unhide I1) (unhide I2) (unhide I3) rfl (by decide) _ acc.length (css.flatMap Array.toList) rfl (unhide O5 _) ⟨w2.heap.size, 0, none⟩ 1 1 [.int .i64 eg, .int .i64 en, .string et, .slice ea el ec] rfl rfl (unhide N5) (one_mix _ _ _ _ _ _) (unhide m1) (unhide m2) (unhide (m3' _)) ?_)
              intro v6 w6 own6 hgrow6 _ hat6
              have g6 : (W5.alloc (.cells #[.int .i64 eg, .int .i64 en, .string et, .slice ea el ec] 24)).grownBy w6 (Value.slice sa0 acc.length sc0).ownBlock := by rw [hW5]; exact hgrow6
              have a6 : v6.ownBlock = (Value.slice sa0 acc.length sc0).ownBlock ∨ v6.ownBlock = some (W5.alloc (.cells #[.int .i64 eg, .int .i64 en, .string et, .slice ea el ec] 24)).heap.size := by rw [World.size_alloc, unhide HS5]; exact hat6
              have T6 := (unhide HT).next (unhide Hb5) (unhide HM5) own6 g6 a6
              have X6 : Bx w6 (w.heap.size + 1) (.int .i64 tg) (.int .i64 ζ) (.string tx) (.slice sa0 acc.length sc0) := ((unhide HT5).bx.keep (below_new _ _)).same (g6.block _ (by have := unhide HS5; simp; omega) (fun e => by have := (World.ownsRow.lt (unhide HT).own _ e.symm).1; omega)) g6.size
              obtain ⟨gg, cc, hv6⟩ := own_slice own6
              subst hv6
              obtain ⟨a0, a1, a2, a3⟩ := X6.tell
              obtain ⟨b0, b1, b2, b3⟩ := X6.thaw
              have l6 := X6.low
              have HT6 := hide T6
              clear own6 hgrow6 hat6 g6 a6 T6 X6 HT HT5 HM5 Hb5 HS5 O5 N5 m1 m2 m3 m3' I0 I1 I2 I3 hW5 k0 k1 k2 k3 j0 j1 j2 j3 z0 z1 z2 z3 f0 f1 f2 f3 y0 y1 y2 y3 r0 r1 r2 r3 lk lz ly
              go_wp2
              go_roundw
              case rel => exact ⟨c', p', ξ - 1, _, acc ++ [U], _, rfl, rfl, HCC, by omega, hp', by simp; omega, HQn, HT6⟩
              case measure => simp [intOf]; omega
      · have hev : (χ % 2 == 1) = false := by simpa using hodd
        have e3 : q = zagF x := by
          unfold zagF
          rw [if_neg (by omega)]
          omega
        have HE3 := hide e3
        clear hr hr1 hχ hq e3
        go_wp2_with fail
        obtain ⟨W2, hW2⟩ : ∃ W2, W2 = W1.setCell ⟨w.heap.size + 1, 1, none⟩ (.int .i64 q) := ⟨_, rfl⟩
        rw [← hW2]
        have HB2 : Hid (Below w.heap.size w W2) := by rw [hW2]; exact hide ((unhide HB1).setCell (p := ⟨w.heap.size + 1, 1, none⟩) (by simp) _)
        have HZ2 : Hid (Bx W2 w.heap.size (.int .i64 0) (.int .i64 0) (.string ⟨#[]⟩) (.slice none 0 0)) := by rw [hW2]; exact hide ((unhide HZ1).setAt (by omega))
        have HY2 : Hid (Bx W2 (w.heap.size + 1) (.int .i64 tg) (.int .i64 (zagF x)) (.string ⟨#[]⟩) (.slice none 0 0)) := by rw [hW2, ← unhide HE3]; exact hide ((unhide HY1).set1 _)
        have HC2 : Hid (BC W2 g off l) := by rw [hW2]; exact hide ((unhide HC1).set (by omega))
        clear hW2 HE3 hodd hev e1 e2 q0 q1 HX

        clear HB1 HZ1 HY1 HC1 z0 z1 z2 z3 f0 f1 f2 f3 y0 y1 y2 y3 r0 r1 r2 r3 lz ly
        have C2 := hide (rnum_any l g off cap p2 W2 hl (unhide HC2) hp2)
        with_reducible refine (unhide C2).mono ?_
        rintro e wx ⟨rfl, hwx⟩
        replace hwx := hwx.symm
        subst hwx
        clear C2
        obtain ⟨z0, z1, z2, z3⟩ := (unhide HZ2).tell
        obtain ⟨f0, f1, f2, f3⟩ := (unhide HZ2).thaw
        obtain ⟨y0, y1, y2, y3⟩ := (unhide HY2).tell
        obtain ⟨r0, r1, r2, r3⟩ := (unhide HY2).thaw
        have lz := (unhide HZ2).low
        have ly := (unhide HY2).low
        have FE := hide (fun v0 v1 v2 v3 => below_put4' (v0 := v0) (v1 := v1) (v2 := v2) (v3 := v3) (unhide HB2))
        rcases num_at l p2 hp2 with ⟨hb, hr⟩ | ⟨n, p3, hr2, hp23, hp3, hn64, hr⟩
        · have HN : Hid (Q = none) := hide (by rw [← unhide HQ]; exact tr_bad (head_bad2 (unhide HDr) (unhide HR1) hb))
          rw [hr]
          clear hb hr HB2 HZ2 HY2 HC2 HDr HTG HQ IH' HR1
          go_wp2
          exact bodyPost_ret (v := .tuple #[.agg #[.int .i64 0, .int .i64 0, .string ⟨#[]⟩, .slice none 0 0], .int .i64 (-1)]) (by simp [results, Try.results25, go_sem, z0, z1, z2, z3]) rfl ⟨_, _, rfl, RTok.no (unhide HN), unhide FE _ _ _ _⟩
        rw [hr]
        have HR2 := hide hr2
        obtain ⟨ν, hν⟩ : ∃ ν : Int, (n : Int) = ν := ⟨_, rfl⟩
        rw [hν]
        have hp3' : ¬ (p3 : Int) < 0 := by omega
        obtain ⟨ω, hω⟩ : ∃ ω : Int, (l.length : Int) - (p3 : Int) = ω := ⟨_, rfl⟩
        have eω : IntKind.u64.wrap ω = ω := by rw [IntKind.wrap_u64]; omega
        have n0 : 0 ≤ ν := by omega
        have HV := hide (And.intro hν hω)
        clear hr hr2
        by_cases hlong : ω < ν
        · have HN : Hid (Q = none) := hide (by rw [← unhide HQ]; exact tr_bad (head_bad3 (unhide HDr) (unhide HR1) (unhide HR2) (by simp; omega)))
          clear HB2 HZ2 HY2 HC2 HDr HTG HQ IH' HR1 HR2 hν
          go_wp2
          exact bodyPost_ret (v := .tuple #[.agg #[.int .i64 0, .int .i64 0, .string ⟨#[]⟩, .slice none 0 0], .int .i64 (-1)]) (by simp [results, Try.results25, go_sem, z0, z1, z2, z3]) rfl ⟨_, _, rfl, RTok.no (unhide HN), unhide FE _ _ _ _⟩
        have hn3 : p3 + n ≤ l.length := by omega
        have n1 : ν ≤ 100000 := by omega
        obtain ⟨P4, hP4⟩ : ∃ P4, p3 + n = P4 := ⟨_, rfl⟩
        have e4 : (p3 : Int) + ν = (P4 : Int) := by omega
        have s1 : (p3 : Int) ≤ (P4 : Int) := by omega
        have s2 : (P4 : Int) ≤ (cap : Int) := by omega
        have eN : P4 - p3 = n := by omega
        obtain ⟨tx, htx⟩ : ∃ tx : ByteArray, (⟨((l.drop p3).take n).toArray⟩ : ByteArray) = tx := ⟨_, rfl⟩
        have hTl : ((l.drop p3).take n).length = n := by simp; omega
        have htxs : tx.size ≤ 9223372036854775807 := by
          have : tx.size = n := by rw [← htx]; simpa [ByteArray.size] using hTl
          omega
        have hcv : ∀ a2 : Nat, (a2 = off + p3 ∨ n = 0) → (convert 25 9 (.slice (some ⟨g, a2, none⟩) n (cap - p3))).run Try.prog W2 = .ok (.string tx) W2 := fun a2 ha => by
          have q := run_convert_bytes_back (P := Try.prog) W2 25 9 5 ⟨g, a2, none⟩ (cap - p3) ((l.drop p3).take n) Try.underlying25 Try.underlying5 Try.underlying9 (fun j hj => by
            rw [hTl] at hj
            rcases ha with rfl | h0
            · rw [Addr.add_lit, List.getElem_take, List.getElem_drop]
              have := unhide HC2 (p3 + j) _ (List.getElem?_eq_getElem (by omega))
              rw [← this]
              congr 2
              omega
            · omega)
          rw [hTl, htx] at q
          exact q
        have hcv1 := hcv (off + p3) (.inl rfl)
        have HT := hide (And.intro htx hP4)
        have HC3 : Hid (BC (W2.setCell ⟨w.heap.size + 1, 2, none⟩ (.string tx)) g off l) := hide ((unhide HC2).set (by omega))
        have C3 := hide (rnum_any l g off cap P4 (W2.setCell ⟨w.heap.size + 1, 2, none⟩ (.string tx)) hl (unhide HC3) (by omega))
        have hP4l : P4 ≤ l.length := by omega
        clear hν htx hTl hP4 hn3
        have hcp : ¬ cap = p3 := by omega
        clear hcv hn64 hlong
        go_wp2_with fail
        obtain ⟨W3, hW3⟩ : ∃ W3, W3 = W2.setCell ⟨w.heap.size + 1, 2, none⟩ (.string tx) := ⟨_, rfl⟩
        rw [← hW3] at HC3 C3 ⊢
        have HB3 : Hid (Below w.heap.size w W3) := by rw [hW3]; exact hide ((unhide HB2).setCell (p := ⟨w.heap.size + 1, 2, none⟩) (by simp) _)
        have HZ3 : Hid (Bx W3 w.heap.size (.int .i64 0) (.int .i64 0) (.string ⟨#[]⟩) (.slice none 0 0)) := by rw [hW3]; exact hide ((unhide HZ2).setAt (by omega))
        have HY3 : Hid (Bx W3 (w.heap.size + 1) (.int .i64 tg) (.int .i64 (zagF x)) (.string tx) (.slice none 0 0)) := by rw [hW3]; exact hide ((unhide HY2).set2 _)
        clear hW3 FE HB2 HZ2 HY2 HC2 z0 z1 z2 z3 f0 f1 f2 f3 y0 y1 y2 y3 r0 r1 r2 r3 lz ly hcv1 e4 s1 s2 eN hcp eω n0 n1
        with_reducible refine (unhide C3).mono ?_
        rintro e wx ⟨rfl, hwx⟩
        replace hwx := hwx.symm
        subst hwx
        clear C3
        obtain ⟨z0, z1, z2, z3⟩ := (unhide HZ3).tell
        obtain ⟨f0, f1, f2, f3⟩ := (unhide HZ3).thaw
        obtain ⟨y0, y1, y2, y3⟩ := (unhide HY3).tell
        obtain ⟨r0, r1, r2, r3⟩ := (unhide HY3).thaw
        have lz := (unhide HZ3).low
        have ly := (unhide HY3).low
        have FE := hide (fun v0 v1 v2 v3 => below_put4' (v0 := v0) (v1 := v1) (v2 := v2) (v3 := v3) (unhide HB3))
        have hlen3 : ¬ (l.drop p3).length < n := by have := unhide HV; simp; omega
        have hd34 : (l.drop p3).drop n = l.drop P4 := by rw [List.drop_drop, (unhide HT).2]
        have HL3 := hide (And.intro hlen3 hd34)
        clear hlen3 hd34
        rcases num_at l P4 hP4l with ⟨hb, hr⟩ | ⟨m, p5, hr3, hp45, hp5, hm64, hr⟩
        · have HN : Hid (Q = none) := hide (by
            rw [← unhide HQ]
            refine tr_bad ?_
            rw [head_is (unhide HDr) (unhide HR1) (unhide HR2) (unhide HL3).1 (by rw [(unhide HL3).2])]
            exact hb)
          rw [hr]
          clear hb hr HB3 HZ3 HY3 HC3 HDr HTG HQ IH' HR1 HR2 HL3 HV HT
          go_wp2
          exact bodyPost_ret (v := .tuple #[.agg #[.int .i64 0, .int .i64 0, .string ⟨#[]⟩, .slice none 0 0], .int .i64 (-1)]) (by simp [results, Try.results25, go_sem, z0, z1, z2, z3]) rfl ⟨_, _, rfl, RTok.no (unhide HN), unhide FE _ _ _ _⟩
        rw [hr]
        obtain ⟨μ, hμ⟩ : ∃ μ : Int, (m : Int) = μ := ⟨_, rfl⟩
        rw [hμ]
        have hp5' : ¬ (p5 : Int) < 0 := by omega
        have eL : IntKind.u64.wrap (l.length : Int) = (l.length : Int) := by rw [IntKind.wrap_u64]; omega
        have eL2 : (l.length : Int) % 18446744073709551616 = (l.length : Int) := by omega
        have m0 : 0 ≤ μ := by omega
        have hhead := head_is (m := m) (l3s := ⟨l.drop p5, 0, false⟩) (unhide HDr) (unhide HR1) (unhide HR2) (unhide HL3).1 (by rw [(unhide HL3).2]; exact hr3)
        have HMu := hide hμ
        by_cases hmany : (l.length : Int) < μ
        · have HN : Hid (Q = none) := hide (by
            rw [← unhide HQ, treeR, hhead, if_pos (.inr (by simp only; omega))])
          clear hr hr3 hhead HB3 HZ3 HY3 HC3 HDr HTG HQ IH' HR1 HR2 HL3 HV HT hμ
          go_wp2
          exact bodyPost_ret (v := .tuple #[.agg #[.int .i64 0, .int .i64 0, .string ⟨#[]⟩, .slice none 0 0], .int .i64 (-1)]) (by simp [results, Try.results25, go_sem, z0, z1, z2, z3]) rfl ⟨_, _, rfl, RTok.no (unhide HN), unhide FE _ _ _ _⟩
        have HQ2 : Hid (Q = (kidsR (treeR l.length d) m (l.drop p5)).map fun q => (.mk tg (zagF x) tx q.1, q.2)) := hide (by
          rw [← unhide HQ, treeR, hhead, if_neg (by simp only; intro z; rcases z with z | z; cases z; omega)]
          simp only
          rw [unhide HTG, (unhide HT).1])
        have hzx := zag_bd hx64
        have hm5 : m ≤ 100000 := by omega
        have T0 : Hid (TR w w.heap.size (w.heap.size + 1) (.int .i64 0) (.int .i64 0) (.string ⟨#[]⟩) (.slice none 0 0) (.int .i64 tg) (.int .i64 (zagF x)) (.string tx) W3 (.slice none 0 0) [] []) :=
          hide ⟨unhide HY3, unhide HZ3, World.ownsRow_nil _ _ _ _, by rw [MemEach]; trivial, unhide HB3, Nat.le_refl _, by omega⟩
        have HC0 := HC00
        clear hr hr3 hhead HDr HTG HQ HR1 HR2 HL3 HV HT hμ FE
        go_wp2_with fail
        clear z0 z1 z2 z3 f0 f1 f2 f3 y0 y1 y2 y3 r0 r1 r2 r3 lz ly eL eL2 hmany
        have HEc := hide (fun (T : WT) (r : List UInt8) (pp : Nat) (h : treeR l.length d (l.drop pp) = some (T, r)) => (tr_good l.length d (by omega) (l.drop pp) T r h).1)
        obtain ⟨ζ, hζ⟩ : ∃ ζ : Int, zagF x = ζ := ⟨_, rfl⟩
        rw [hζ] at hzx HQ2 T0
        clear hζ
        have HD2 : Hid (D + 1 = 41 - (d : Int)) := hide (by have := unhide HD; omega)
        go_loopw [1, 11] (fun av nv wr => ∃ (c pp : Nat) (ξ : Int) (sv : Value) (acc : List WT) (css : List (Array Value)), av = .int .i64 (pp : Int) ∧ nv = .int .u64 ξ ∧ Hid ((c : Int) = ξ) ∧ c ≤ 100000 ∧ pp ≤ l.length ∧ acc.length ≤ pp ∧ Hid (Q = (kidsR (treeR l.length d) c (l.drop pp)).map fun q => (.mk tg ζ tx (acc ++ q.1), q.2)) ∧
          Hid (TR w w.heap.size (w.heap.size + 1) (.int .i64 0) (.int .i64 0) (.string ⟨#[]⟩) (.slice none 0 0) (.int .i64 tg) (.int .i64 ζ) (.string tx) wr sv acc css)) (fun _ nv _ => (intOf nv).toNat)
        case atStart => exact ⟨m, p5, μ, .slice none 0 0, [], [], rfl, rfl, HMu, hm5, hp5, by simp, HQ2, T0⟩
        case round =>
          obtain ⟨c, pp, ξ, sv, acc, css, rfl, rfl, HC, hc, hpp, hacc, HQr, HT⟩ := hrel
          clear T0 HQ2 HMu HB3 HZ3 HY3
          have BW : Below w.heap.size w wr := (unhide HT).bel
          have HBW := hide BW
          have HCr : Hid (BC wr g off l) := hide ((unhide HC0).keep (fun o => BW.cell (p := ⟨g, o, none⟩) hg))
          have lwr : g < wr.heap.size := Nat.lt_of_lt_of_le hg BW.size
          clear BW
          by_cases hc0 : c = 0
          · subst hc0
            have hξ : ξ = 0 := (unhide HC).symm
            subst hξ
            obtain ⟨y0, y1, y2, y3⟩ := (unhide HT).bx.tell
            obtain ⟨z0, z1, z2, z3⟩ := (unhide HT).bz.tell
            obtain ⟨f0, f1, f2, f3⟩ := (unhide HT).bz.thaw
            have lz := (unhide HT).bz.low
            obtain ⟨sa, sc, hsv⟩ := own_sl (unhide HT).own
            subst hsv
            have HQ3 : Hid (Q = some (.mk tg ζ tx acc, l.drop pp)) := hide (by rw [unhide HQr, kidsR]; simp)
            have FT : Hid (∀ v0 v1 v2 v3 : Value, PostRT w l Q (.returned (.tuple #[.agg #[.int .i64 tg, .int .i64 ζ, .string tx, .slice sa acc.length sc], .int .i64 (pp : Int)])) (put4 wr w.heap.size v0 v1 v2 v3)) := hide fun v0 v1 v2 v3 => by
              have hpb := put4_block wr w.heap.size v0 v1 v2 v3
              have hps := put4_size wr w.heap.size v0 v1 v2 v3
              have h2 : MemWP (fun b => w.heap.size + 1 + 1 ≤ b ∧ b < wr.heap.size) wr (.mk tg ζ tx acc) #[.int .i64 tg, .int .i64 ζ, .string tx, .slice sa acc.length sc] :=
                owned_tree hzx htxs (unhide HT).own (unhide HT).each (fun b hb => ⟨hb.1, hb.2.1⟩) (fun g hg => World.ownsRow.lt (unhide HT).own g hg) (by omega)
              refine ⟨_, _, rfl, ?_, below_put4' (unhide HBW)⟩
              rw [unhide HQ3]
              exact ⟨⟨pp, rfl, hpp, rfl⟩, h2.keepB (fun b hb => ⟨⟨by omega, by rw [hps]; exact hb.2⟩, hpb b (by omega)⟩)⟩
            clear HT HQr HQ3 HC HBW HCr hc
            go_wp2
            exact bodyPost_ret (v := .tuple #[.agg #[.int .i64 tg, .int .i64 ζ, .string tx, .slice sa acc.length sc], .int .i64 (pp : Int)]) (by simp [results, Try.results25, go_sem, z0, z1, z2, z3]) rfl (unhide FT _ _ _ _)
          · obtain ⟨c', rfl⟩ : ∃ c', c = c' + 1 := ⟨c - 1, by omega⟩
            have hξ : 0 < ξ := by have := unhide HC; omega
            have hξ2 : ξ < 18446744073709551616 := by have := unhide HC; omega
            have HCC : Hid ((c' : Int) = ξ - 1) := hide (by have := unhide HC; omega)
            have bK := below_new wr (.cells #[.int .i64 0, .int .i64 0, .string ⟨#[]⟩, .slice none 0 0] 24)
            have XK := Bx.new wr 24 (.int .i64 0) (.int .i64 0) (.string ⟨#[]⟩) (.slice none 0 0)
            have C5 := hide (unhide IH' (wr.alloc (.cells #[.int .i64 0, .int .i64 0, .string ⟨#[]⟩, .slice none 0 0] 24)) g off cap pp l hl hcap ((unhide HCr).keep (fun o => bK.cell (p := ⟨g, o, none⟩) lwr)) (by simp; omega) hpp)
            rw [← unhide HD2] at C5
            have HbK := hide bK
            have HXK := hide XK
            have D0 : 0 ≤ D := by have := unhide HD; omega
            clear HC hc0 bK XK
            go_wp2_with fail
            with_reducible refine (unhide C5).mono ?_
            rintro e w2 ⟨cs, q, rfl, hok, hb2⟩
            have hb2' : Below wr.heap.size wr w2 := below_via (unhide HbK) hb2
            have X2 := (unhide HXK).keep hb2
            have hsz2 := hb2.size
            simp at hsz2
            obtain ⟨k0, k1, k2, k3⟩ := X2.tell
            obtain ⟨j0, j1, j2, j3⟩ := X2.thaw
            have lk := X2.low
            have HT2 := (unhide HT).keep hb2'
            obtain ⟨z0, z1, z2, z3⟩ := HT2.bz.tell
            obtain ⟨f0, f1, f2, f3⟩ := HT2.bz.thaw
            have lz := HT2.bz.low
            obtain ⟨y0, y1, y2, y3⟩ := HT2.bx.tell
            obtain ⟨r0, r1, r2, r3⟩ := HT2.bx.thaw
            have ly := HT2.bx.low
            have hYr := (unhide HT).bx.low
            have hlt0 : w.heap.size < wr.heap.size := by omega
            obtain ⟨R, hR⟩ : ∃ R, treeR l.length d (l.drop pp) = R := ⟨_, rfl⟩
            rw [hR] at hok
            cases R with
            | none =>
              obtain ⟨hq, hM0⟩ := hok
              subst hq
              obtain ⟨eg, en, et, ea, el, ec, rfl⟩ := hM0.four
              have HN : Hid (Q = none) := hide (by rw [unhide HQr, kidsR, hR]; rfl)
              have FE : Hid (∀ v0 v1 v2 v3 u0 u1 u2 u3 : Value, Below w.heap.size w (put4 (put4 w2 wr.heap.size u0 u1 u2 u3) w.heap.size v0 v1 v2 v3)) := hide fun v0 v1 v2 v3 u0 u1 u2 u3 =>
                below_put4' (((((HT2.bel.setCell (p := ⟨wr.heap.size, 0, none⟩) (by simp only; omega) u0).setCell (p := ⟨wr.heap.size, 1, none⟩) (by simp only; omega) u1).setCell (p := ⟨wr.heap.size, 2, none⟩) (by simp only; omega) u2).setCell (p := ⟨wr.heap.size, 3, none⟩) (by simp only; omega) u3))
              clear hM0 hR HQr HT HT2 C5 hb2 hb2' X2 HBW HCr HbK HXK HEc
              go_wp2
              exact bodyPost_ret (v := .tuple #[.agg #[.int .i64 0, .int .i64 0, .string ⟨#[]⟩, .slice none 0 0], .int .i64 (-1)]) (by simp [results, Try.results25, go_sem, z0, z1, z2, z3]) rfl ⟨_, _, rfl, RTok.no (unhide HN), unhide FE _ _ _ _ _ _ _ _⟩
            | some TT =>
              obtain ⟨U, rest⟩ := TT
              obtain ⟨⟨p', hrest, hp', hq⟩, hMU⟩ := hok
              subst hq hrest
              obtain ⟨eg, en, et, ea, el, ec, rfl⟩ := hMU.four
              obtain ⟨W5, hW5⟩ : ∃ W5, W5 = put4 w2 wr.heap.size (.int .i64 eg) (.int .i64 en) (.string et) (.slice ea el ec) := ⟨_, rfl⟩
              have b5 : Below wr.heap.size wr W5 := by
                rw [hW5]
                exact (((hb2'.setCell (p := ⟨wr.heap.size, 0, none⟩) (Nat.le_refl _) _).setCell (p := ⟨wr.heap.size, 1, none⟩) (Nat.le_refl _) _).setCell (p := ⟨wr.heap.size, 2, none⟩) (Nat.le_refl _) _).setCell (p := ⟨wr.heap.size, 3, none⟩) (Nat.le_refl _) _
              have s5 : W5.heap.size = w2.heap.size := by rw [hW5]; exact put4_size ..
              have M5 : MemWP (fun b => wr.heap.size ≤ b ∧ b < W5.heap.size) W5 U #[.int .i64 eg, .int .i64 en, .string et, .slice ea el ec] := hMU.keepB (fun b hb => ⟨⟨by have := hb.1; simp at this; omega, by rw [s5]; exact hb.2⟩, by rw [hW5]; exact put4_block _ _ _ _ _ _ b (by have := hb.1; simp at this; omega)⟩)
              have T5 := (unhide HT).keep b5
              have HQn : Hid (Q = (kidsR (treeR l.length d) c' (l.drop p')).map fun q => (.mk tg ζ tx ((acc ++ [U]) ++ q.1), q.2)) := hide (by
                rw [unhide HQr, kidsR, hR]
                simp only [Option.bind_some, Option.map_map]
                congr 1
                funext q
                simp)
              have hlenE : pp + 1 ≤ p' := by
                have h1 := congrArg List.length (unhide HEc U (l.drop p') pp hR)
                have h2 := List.length_pos_iff.2 (enc_ne U)
                simp only [List.length_drop, List.length_append] at h1
                omega
              obtain ⟨sa0, sc0, hsv0⟩ := own_sl (unhide HT).own
              subst hsv0
              obtain ⟨i0, hi, hz0, hz1, hz2⟩ := info_parts info_tree
              have I0 := hide hi
              have I1 := hide hz0
              have I2 := hide hz1
              have I3 := hide hz2
              have m1 : Hid (acc.length + 1 ≤ maxLen) := hide (by unfold maxLen; omega)
              have m2 : Hid ((acc.length + 1) * 56 ≤ 140737488355328) := hide (by omega)
              have m3 : ∀ o, Hid (w.heap.size + 1 + 1 ≤ (W5.alloc o).heap.size) := fun o => hide (by simp; omega)
              have hp0 : ¬ (p' : Int) < 0 := by omega
              have HT5 := hide T5
              have HM5 := hide M5
              have Hb5 := hide b5
              have HS5 := hide s5
              have hne1 : ¬ w.heap.size + 1 = wr.heap.size := by omega
              have hne2 : ¬ wr.heap.size = w.heap.size + 1 := by omega
              clear hi hz0 hz1 hz2 hMU hR HQr C5 hb2 hb2' X2 HBW HCr HbK HXK HEc HT2 T5 M5 b5 s5
              have O5 : Hid (∀ o, ((put4 w2 wr.heap.size (.int .i64 eg) (.int .i64 en) (.string et) (.slice ea el ec)).alloc o).ownsRow (w.heap.size + 1 + 1) 24 4 (.slice sa0 acc.length sc0) acc.length (css.flatMap Array.toList)) := hide (fun o => by rw [← hW5]; exact (unhide HT5).own.alloc o)
              have m3' : ∀ o, Hid (w.heap.size + 1 + 1 ≤ ((put4 w2 wr.heap.size (.int .i64 eg) (.int .i64 en) (.string et) (.slice ea el ec)).alloc o).heap.size) := fun o => hide (by have := unhide (m3 o); rwa [hW5] at this)
              have N5 : Hid (∀ j u, [Value.int .i64 eg, .int .i64 en, .string et, .slice ea el ec][j]? = some u → ((put4 w2 wr.heap.size (.int .i64 eg) (.int .i64 en) (.string et) (.slice ea el ec)).alloc (.cells #[.int .i64 eg, .int .i64 en, .string et, .slice ea el ec] 24)).cell? ((⟨w2.heap.size, 0, none⟩ : Addr).add j) = some u) := hide (cell_four_at _ _ _ _ _ _ _ (put4_size ..))
              go_wp2_with (at_builtin; refine wpList_append_own_at _ rfl _ _ 22 rfl (w.heap.size + 1 + 1) 24 i0 (.agg #[.int .i64 0, .int .i64 0, .string ⟨#[]⟩, .slice none 0 0]) 4 56 Try.underlying22 (unhide I0) (unhide I1) (unhide I2) (unhide I3) rfl (by decide) _ acc.length (css.flatMap Array.toList) rfl (unhide O5 _) ⟨w2.heap.size, 0, none⟩ 1 1 [.int .i64 eg, .int .i64 en, .string et, .slice ea el ec] rfl rfl (unhide N5) (one_mix _ _ _ _ _ _) (unhide m1) (unhide m2) (unhide (m3' _)) ?_)
              intro v6 w6 own6 hgrow6 _ hat6
              have g6 : (W5.alloc (.cells #[.int .i64 eg, .int .i64 en, .string et, .slice ea el ec] 24)).grownBy w6 (Value.slice sa0 acc.length sc0).ownBlock := by rw [hW5]; exact hgrow6
              have a6 : v6.ownBlock = (Value.slice sa0 acc.length sc0).ownBlock ∨ v6.ownBlock = some (W5.alloc (.cells #[.int .i64 eg, .int .i64 en, .string et, .slice ea el ec] 24)).heap.size := by rw [World.size_alloc, unhide HS5]; exact hat6
              have T6 := (unhide HT).next (unhide Hb5) (unhide HM5) own6 g6 a6
              have X6 : Bx w6 (w.heap.size + 1) (.int .i64 tg) (.int .i64 ζ) (.string tx) (.slice sa0 acc.length sc0) := ((unhide HT5).bx.keep (below_new _ _)).same (g6.block _ (by have := unhide HS5; simp; omega) (fun e => by have := (World.ownsRow.lt (unhide HT).own _ e.symm).1; omega)) g6.size
              obtain ⟨gg, cc, hv6⟩ := own_slice own6
              subst hv6
              obtain ⟨a0, a1, a2, a3⟩ := X6.tell
              obtain ⟨b0, b1, b2, b3⟩ := X6.thaw
              have l6 := X6.low
              have HT6 := hide T6
              clear own6 hgrow6 hat6 g6 a6 T6 X6 HT HT5 HM5 Hb5 HS5 O5 N5 m1 m2 m3 m3' I0 I1 I2 I3 hW5 k0 k1 k2 k3 j0 j1 j2 j3 z0 z1 z2 z3 f0 f1 f2 f3 y0 y1 y2 y3 r0 r1 r2 r3 lk lz ly
              go_wp2
              go_roundw
              case rel => exact ⟨c', p', ξ - 1, _, acc ++ [U], _, rfl, rfl, HCC, by omega, hp', by simp; omega, HQn, HT6⟩
              case measure => simp [intOf]; omega
  · have hnone : Q = none := by
      rw [← hQ, List.drop_eq_nil_of_le (by omega)]
      exact tr_bad head_nil
    have hend' : (l.length : Int) ≤ (p : Int) := by omega
    have HN := hide hnone
    have HB := hide (below_new w (.cells #[.int .i64 0, .int .i64 0, .string ⟨#[]⟩, .slice none 0 0] 24))
    clear hnone hQ hbc
    go_enter Try.func25, Try.ntmps25
    go_wp2
    exact bodyPost_ret (v := .tuple #[.agg #[.int .i64 0, .int .i64 0, .string ⟨#[]⟩, .slice none 0 0], .int .i64 (-1)]) (by simp [results, Try.results25, go_sem]) rfl ⟨_, _, rfl, RTok.no (unhide HN), unhide HB⟩
theorem rtree_zero : RTreeC 0 := by
  intro w g off cap p l hl hcap hbc hg hp
  have HB := hide (below_new w (.cells #[.int .i64 0, .int .i64 0, .string ⟨#[]⟩, .slice none 0 0] 24))
  rw [show (41 : Int) - ((0 : Nat) : Int) = 41 from rfl, treeR]
  clear hbc
  go_enter Try.func25, Try.ntmps25
  go_wp2
  exact bodyPost_ret (v := .tuple #[.agg #[.int .i64 0, .int .i64 0, .string ⟨#[]⟩, .slice none 0 0], .int .i64 (-1)]) (by simp [results, Try.results25, go_sem]) rfl ⟨_, _, rfl, RTok.no rfl, unhide HB⟩
theorem rtree_all : ∀ d : Nat, d ≤ 40 → RTreeC d
  | 0, _ => rtree_zero
  | d + 1, hd => rtree_of d hd (rtree_all d (by omega))
end Go.Proofs.Ytlienildfnlncaa
