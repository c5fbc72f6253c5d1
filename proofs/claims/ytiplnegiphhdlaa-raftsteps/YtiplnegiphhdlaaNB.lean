/- Walks: within, inOrder, rising, numbersFit, roleFits, countsAll, countsFit (raft). Written by gen_nb.py. -/
import Derived.Test.YtiplnegiphhdlaaNA
namespace Go.Proofs.Ytiplnegiphhdlaa.Rf

def inOrd : List Item → Int → Int → Bool
  | [], _, _ => true
  | x :: l, lo, hi => decide (inB x.1 lo hi) && inOrd l x.1 hi
theorem inOrd_iff : ∀ (l : List Item) (lo hi : Int), inOrd l lo hi = true ↔ (∀ x ∈ l, inB x.1 lo hi) ∧ l.Pairwise (fun a b => a.1 ≤ b.1)
  | [], lo, hi => by simp [inOrd]
  | x :: l, lo, hi => by
    rw [inOrd, Bool.and_eq_true, decide_eq_true_eq, inOrd_iff l x.1 hi, List.pairwise_cons]
    constructor
    · rintro ⟨h1, h2, h3⟩
      refine ⟨fun y hy => ?_, fun y hy => (h2 y hy).1, h3⟩
      rcases List.mem_cons.1 hy with rfl | hy
      · exact h1
      · have := h2 y hy; unfold inB at *; omega
    · rintro ⟨h1, h2, h3⟩
      have hx := h1 x (by simp)
      exact ⟨hx, fun y hy => ⟨h2 y hy, (h1 y (by simp [hy])).2⟩, h3⟩
theorem inOrd_rises (l : List Item) (t : Int) : inOrd l 1 t = decide (rises l t) := by
  rw [Bool.eq_iff_iff, inOrd_iff, decide_eq_true_eq]
  exact Iff.rfl
theorem inOrd_more (l : List Item) (lt t : Int) : inOrd l (max 1 lt) t = decide (rises l t ∧ ∀ y, l[0]? = some y → lt ≤ y.1) := by
  rw [Bool.eq_iff_iff, inOrd_iff, decide_eq_true_eq]
  constructor
  · rintro ⟨h1, h2⟩
    refine ⟨⟨fun x hx => ?_, h2⟩, fun y hy => ?_⟩
    · have := h1 x hx; unfold inB at *; omega
    · have := h1 y (List.mem_of_getElem? hy); unfold inB at this; omega
  · rintro ⟨⟨h1, h2⟩, h3⟩
    refine ⟨fun x hx => ?_, h2⟩
    cases l with
    | nil => cases hx
    | cons y l =>
      have := h3 y rfl
      have h4 := h1 x hx
      have : y.1 ≤ x.1 := by
        rcases List.mem_cons.1 hx with rfl | hx
        · exact Int.le_refl _
        · exact (List.pairwise_cons.1 h2).1 x hx
      unfold inB at *; omega
def risI : List Int → Int → Int → Bool
  | [], _, _ => true
  | x :: l, lo, hi => decide (inB x lo hi) && risI l (x + 1) hi
theorem risI_iff : ∀ (l : List Int) (lo hi : Int), risI l lo hi = true ↔ (∀ x ∈ l, inB x lo hi) ∧ l.Pairwise (fun a b => a < b)
  | [], lo, hi => by simp [risI]
  | x :: l, lo, hi => by
    rw [risI, Bool.and_eq_true, decide_eq_true_eq, risI_iff l (x + 1) hi, List.pairwise_cons]
    constructor
    · rintro ⟨h1, h2, h3⟩
      refine ⟨fun y hy => ?_, fun y hy => by have := (h2 y hy).1; omega, h3⟩
      rcases List.mem_cons.1 hy with rfl | hy
      · exact h1
      · have := h2 y hy; unfold inB at *; omega
    · rintro ⟨h1, h2, h3⟩
      exact ⟨h1 x (by simp), fun y hy => ⟨by have := h2 y hy; omega, (h1 y (by simp [hy])).2⟩, h3⟩
theorem risI_votes (l : List Int) (n : Int) : risI l 1 n = decide (votesOk l n) := by
  rw [Bool.eq_iff_iff, risI_iff, decide_eq_true_eq]
  exact Iff.rfl
def roleOk (x : Node) : Prop := ¬ (¬ inB x.role 1 3 ∨ x.term = 0 ∧ x.role ≠ 1)
instance (x : Node) : Decidable (roleOk x) := by unfold roleOk; infer_instance
/-- place by place -/
def cntF (lim : Int) : List Int → List Int → Bool
  | a :: l, b :: k => decide (inB a 1 (lim + 1)) && (decide (inB b 0 lim) && cntF lim l k)
  | _, _ => true
theorem cntF_iff (lim : Int) : ∀ (l k : List Int), l.length = k.length → (cntF lim l k = true ↔ (∀ v ∈ l, inB v 1 (lim + 1)) ∧ ∀ v ∈ k, inB v 0 lim)
  | [], [], _ => by simp [cntF]
  | [], b :: k, h => by simp at h
  | a :: l, [], h => by simp at h
  | a :: l, b :: k, h => by
    rw [cntF, Bool.and_eq_true, Bool.and_eq_true, decide_eq_true_eq, decide_eq_true_eq, cntF_iff lim l k (by simpa using h)]
    simp only [List.mem_cons, forall_eq_or_imp]
    constructor
    · rintro ⟨h1, h2, h3, h4⟩; exact ⟨⟨h1, h3⟩, h2, h4⟩
    · rintro ⟨⟨h1, h3⟩, h2, h4⟩; exact ⟨h1, h2, h3, h4⟩

end Go.Proofs.Ytiplnegiphhdlaa.Rf

namespace Go.Proofs.Ytiplnegiphhdlaa.RW
open Go.RowKit

theorem within_any (a lo hi : Int) (w : World) : Calls Try.prog 37 #[.int .i64 a, .int .i64 lo, .int .i64 hi] w fun e w' => e = .returned (.bool (decide (Rf.inB a lo hi))) ∧ w' = w := by
  by_cases h1 : lo ≤ a
  · by_cases h2 : a ≤ hi
    · have h : decide (Rf.inB a lo hi) = true := decide_eq_true ⟨h1, h2⟩
      rw [h]
      go_enter Try.func37, Try.ntmps37
      go_wp2
      go_ret
      exact ⟨rfl, rfl⟩
    · have h : decide (Rf.inB a lo hi) = false := decide_eq_false (fun q => h2 q.2)
      rw [h]
      go_enter Try.func37, Try.ntmps37
      go_wp2
      go_ret
      exact ⟨rfl, rfl⟩
  · have h : decide (Rf.inB a lo hi) = false := decide_eq_false (fun q => h1 q.1)
    rw [h]
    go_enter Try.func37, Try.ntmps37
    go_wp2
    go_ret
    exact ⟨rfl, rfl⟩

set_option maxHeartbeats 2000000 in
theorem inOrder_any (l : List Rf.Item) (v : Value) (lo hi : Int) (w : World) (hl : Tv w v l) : Calls Try.prog 18 #[v, .int .i64 lo, .int .i64 hi] w fun e w' => e = .returned (.bool (Rf.inOrd l lo hi)) ∧ Below w.heap.size w w' := by
  obtain ⟨a, N, cap, rfl, hN, hc1, hc2⟩ := SC.shp hl
  have HL := hide hl
  clear hl
  go_enter Try.func18, Try.ntmps18
  go_wp2_with fail
  go_loopw [1, 11] (fun s i wr => ∃ (m : Nat) (y : Int), m ≤ N ∧ i = .int .i64 (m : Int) ∧ s = .int .i64 y ∧ Hid (Rf.inOrd (l.drop m) y hi = Rf.inOrd l lo hi) ∧ Hid (Below w.heap.size w wr)) (fun _ i _ => N - (intOf i).toNat)
  case atStart => exact ⟨0, lo, Nat.zero_le _, rfl, rfl, hide (by rw [List.drop_zero]), hide (Below.refl _ _)⟩
  case round =>
    obtain ⟨m, y, hm, rfl, rfl, HR, HB⟩ := hrel
    by_cases hlt : m < N
    · have hi1 : (m : Int) < (N : Int) := by omega
      have hlt' : m < l.length := by have := unhide hN; omega
      obtain ⟨x, hx⟩ : ∃ x, l[m]? = some x := ⟨_, List.getElem?_eq_getElem hlt'⟩
      have hne : l ≠ [] := by intro e; rw [e] at hlt'; simp at hlt'
      obtain ⟨b, off, cap', e, hb, _, _⟩ := (unhide HL).ex hne
      have ea : a = some ⟨b, off, none⟩ := by cases e; rfl
      clear e
      subst ea
      obtain ⟨c0, c1⟩ := (TV.keep (kept (unhide HB)) (unhide HL)).at hx
      have HB' := hide (below_via (unhide HB) (below_new wr (.cells #[.int .i64 x.1, .int .i64 x.2] 58)))
      have HR2 : Hid ((decide (Rf.inB x.1 y hi) && Rf.inOrd (l.drop (m + 1)) x.1 hi) = Rf.inOrd l lo hi) := hide (by
        rw [← unhide HR, List.drop_eq_getElem_cons hlt', Rf.inOrd]
        have : l[m] = x := by have := List.getElem?_eq_getElem hlt'; rw [hx] at this; cases this; rfl
        rw [this])
      clear HR hx hne hlt'
      by_cases d : Rf.inB x.1 y hi
      · have d1 : decide (Rf.inB x.1 y hi) = true := decide_eq_true d
        have HR3 := hide (unhide HR2)
        rw [d1, Bool.true_and] at HR3
        clear HR2 d
        go_wp2_with (go_at_call 37; refine (within_any _ _ _ _).mono ?_; rintro e w' ⟨rfl, rfl⟩)
        go_roundw
        case rel => exact ⟨m + 1, x.1, by omega, by go_num, rfl, HR3, HB'⟩
        case measure => simp [intOf]; omega
      · have d1 : decide (Rf.inB x.1 y hi) = false := decide_eq_false d
        have HR3 := hide (unhide HR2)
        rw [d1, Bool.false_and] at HR3
        clear HR2 d
        go_wp2_with (go_at_call 37; refine (within_any _ _ _ _).mono ?_; rintro e w' ⟨rfl, rfl⟩)
        go_ret
        exact ⟨by first | (rw [← unhide HR3]; done) | (rw [← unhide HR3]; rfl), unhide HB'⟩
    · obtain rfl : m = N := by omega
      have h : Rf.inOrd l lo hi = true := by rw [← unhide HR, List.drop_of_length_le (by have := unhide hN; omega), Rf.inOrd]
      clear HR
      go_wp2
      go_ret
      exact ⟨by first | (rw [h]; done) | (rw [h]; rfl), unhide HB⟩

set_option maxHeartbeats 2000000 in
theorem rising_any (l : List Int) (v : Value) (hi : Int) (w : World) (hl : Iv w v l) (h5 : hi ≤ 5) : Calls Try.prog 19 #[v, .int .i64 hi] w fun e w' => e = .returned (.bool (Rf.risI l 1 hi)) ∧ Below w.heap.size w w' := by
  obtain ⟨a, N, cap, rfl, hN, hc1, hc2⟩ := SC.shp hl
  have HL := hide hl
  clear hl
  go_enter Try.func19, Try.ntmps19
  go_wp2_with fail
  go_loopw [5, 10] (fun s i wr => ∃ (m : Nat) (y : Int), m ≤ N ∧ i = .int .i64 (m : Int) ∧ s = .int .i64 y ∧ 1 ≤ y ∧ Hid (Rf.risI (l.drop m) y hi = Rf.risI l 1 hi) ∧ Hid (Below w.heap.size w wr)) (fun _ i _ => N - (intOf i).toNat)
  case atStart => exact ⟨0, 1, Nat.zero_le _, rfl, rfl, by omega, hide (by rw [List.drop_zero]), hide (Below.refl _ _)⟩
  case round =>
    obtain ⟨m, y, hm, rfl, rfl, hy1, HR, HB⟩ := hrel
    by_cases hlt : m < N
    · have hi1 : (m : Int) < (N : Int) := by omega
      have hlt' : m < l.length := by have := unhide hN; omega
      obtain ⟨x, hx⟩ : ∃ x, l[m]? = some x := ⟨_, List.getElem?_eq_getElem hlt'⟩
      have hne : l ≠ [] := by intro e; rw [e] at hlt'; simp at hlt'
      obtain ⟨b, off, cap', e, hb, _, _⟩ := (unhide HL).ex hne
      have ea : a = some ⟨b, off, none⟩ := by cases e; rfl
      clear e
      subst ea
      have c0 := (IV.keep (kept (unhide HB)) (unhide HL)).at hx
      have HR2 : Hid ((decide (Rf.inB x y hi) && Rf.risI (l.drop (m + 1)) (x + 1) hi) = Rf.risI l 1 hi) := hide (by
        rw [← unhide HR, List.drop_eq_getElem_cons hlt', Rf.risI]
        have : l[m] = x := by have := List.getElem?_eq_getElem hlt'; rw [hx] at this; cases this; rfl
        rw [this])
      clear HR hx hne hlt'
      by_cases d : Rf.inB x y hi
      · have d1 : decide (Rf.inB x y hi) = true := decide_eq_true d
        have ew : IntKind.i64.wrap (x + 1) = x + 1 := wrap_i64 (by have := d.1; omega) (by have := d.2; omega)
        have x1 : 1 ≤ x + 1 := by have := d.1; omega
        have HR3 := hide (unhide HR2)
        rw [d1, Bool.true_and] at HR3
        clear HR2 d
        go_wp2_with (go_at_call 37; refine (within_any _ _ _ _).mono ?_; rintro e w' ⟨rfl, rfl⟩)
        go_roundw
        case rel => exact ⟨m + 1, x + 1, by omega, by go_num, rfl, x1, HR3, HB⟩
        case measure => simp [intOf]; omega
      · have d1 : decide (Rf.inB x y hi) = false := decide_eq_false d
        have HR3 := hide (unhide HR2)
        rw [d1, Bool.false_and] at HR3
        clear HR2 d
        go_wp2_with (go_at_call 37; refine (within_any _ _ _ _).mono ?_; rintro e w' ⟨rfl, rfl⟩)
        go_ret
        exact ⟨by first | (rw [← unhide HR3]; done) | (rw [← unhide HR3]; rfl), unhide HB⟩
    · obtain rfl : m = N := by omega
      have h : Rf.risI l 1 hi = true := by rw [← unhide HR, List.drop_of_length_le (by have := unhide hN; omega), Rf.risI]
      clear HR
      go_wp2
      go_ret
      exact ⟨by first | (rw [h]; done) | (rw [h]; rfl), unhide HB⟩

set_option maxHeartbeats 2000000 in
theorem numbers_any (x : Rf.Node) (v : Array Value) (w : World) (hv : Nv w v x) : Calls Try.prog 16 #[.agg v] w fun e w' => e = .returned (.bool (decide (Rf.rangeOk x))) ∧ Below w.heap.size w w' := by
  obtain ⟨lv, vv, nv, mv, rfl, h2, h3, h4, h5⟩ := hv
  obtain ⟨la, LL, lc, rfl, hLL, _, _⟩ := SC.shp h2
  obtain ⟨va, VL, vc, rfl, hVL, _, _⟩ := SC.shp h3
  obtain ⟨na, NL, nc, rfl, hNL, _, _⟩ := SC.shp h4
  obtain ⟨ma, ML, mc, rfl, hML, _, _⟩ := SC.shp h5
  have HB := hide (below_new w (.cells #[.int .i64 x.id, .int .i64 x.n, .int .i64 x.term, .int .i64 x.vote, .slice la LL lc, .int .i64 x.commit, .int .i64 x.role, .int .i64 x.boss, .slice va VL vc, .slice na NL nc, .slice ma ML mc] 25))
  have HE : Hid (Rf.rangeOk x ↔ Rf.inB x.n 1 5 ∧ Rf.inB x.id 1 x.n ∧ Rf.inB x.vote 0 x.n ∧ Rf.inB x.boss 0 x.n ∧ Rf.inB x.term 0 1000000 ∧ Rf.inB x.commit 0 (LL : Int)) := hide (by rw [unhide hLL]; exact Iff.rfl)
  clear h2 h3 h4 h5
  by_cases r1 : Rf.inB x.n 1 5
  rotate_left
  · have r := decide_eq_false r1
    have HR : Hid (decide (Rf.rangeOk x) = false) := hide (decide_eq_false (fun q => r1 (by have q := (unhide HE).1 q; exact q.1)))
    clear r1 HE
    go_enter Try.func16, Try.ntmps16
    go_wp2_with (go_at_call 37; refine (within_any _ _ _ _).mono ?_; rintro e w' ⟨rfl, rfl⟩)
    go_ret
    exact ⟨by first | (rw [unhide HR]; done) | (rw [unhide HR]; rfl), unhide HB⟩
  have d1 := decide_eq_true r1
  by_cases r2 : Rf.inB x.id 1 x.n
  rotate_left
  · have r := decide_eq_false r2
    have HR : Hid (decide (Rf.rangeOk x) = false) := hide (decide_eq_false (fun q => r2 (by have q := (unhide HE).1 q; exact q.2.1)))
    clear r2 HE
    go_enter Try.func16, Try.ntmps16
    go_wp2_with (go_at_call 37; refine (within_any _ _ _ _).mono ?_; rintro e w' ⟨rfl, rfl⟩)
    go_ret
    exact ⟨by first | (rw [unhide HR]; done) | (rw [unhide HR]; rfl), unhide HB⟩
  have d2 := decide_eq_true r2
  by_cases r3 : Rf.inB x.vote 0 x.n
  rotate_left
  · have r := decide_eq_false r3
    have HR : Hid (decide (Rf.rangeOk x) = false) := hide (decide_eq_false (fun q => r3 (by have q := (unhide HE).1 q; exact q.2.2.1)))
    clear r3 HE
    go_enter Try.func16, Try.ntmps16
    go_wp2_with (go_at_call 37; refine (within_any _ _ _ _).mono ?_; rintro e w' ⟨rfl, rfl⟩)
    go_ret
    exact ⟨by first | (rw [unhide HR]; done) | (rw [unhide HR]; rfl), unhide HB⟩
  have d3 := decide_eq_true r3
  by_cases r4 : Rf.inB x.boss 0 x.n
  rotate_left
  · have r := decide_eq_false r4
    have HR : Hid (decide (Rf.rangeOk x) = false) := hide (decide_eq_false (fun q => r4 (by have q := (unhide HE).1 q; exact q.2.2.2.1)))
    clear r4 HE
    go_enter Try.func16, Try.ntmps16
    go_wp2_with (go_at_call 37; refine (within_any _ _ _ _).mono ?_; rintro e w' ⟨rfl, rfl⟩)
    go_ret
    exact ⟨by first | (rw [unhide HR]; done) | (rw [unhide HR]; rfl), unhide HB⟩
  have d4 := decide_eq_true r4
  by_cases r5 : Rf.inB x.term 0 1000000
  rotate_left
  · have r := decide_eq_false r5
    have HR : Hid (decide (Rf.rangeOk x) = false) := hide (decide_eq_false (fun q => r5 (by have q := (unhide HE).1 q; exact q.2.2.2.2.1)))
    clear r5 HE
    go_enter Try.func16, Try.ntmps16
    go_wp2_with (go_at_call 37; refine (within_any _ _ _ _).mono ?_; rintro e w' ⟨rfl, rfl⟩)
    go_ret
    exact ⟨by first | (rw [unhide HR]; done) | (rw [unhide HR]; rfl), unhide HB⟩
  have d5 := decide_eq_true r5
  by_cases r6 : Rf.inB x.commit 0 (LL : Int)
  rotate_left
  · have r := decide_eq_false r6
    have HR : Hid (decide (Rf.rangeOk x) = false) := hide (decide_eq_false (fun q => r6 (by have q := (unhide HE).1 q; exact q.2.2.2.2.2)))
    clear r6 HE
    go_enter Try.func16, Try.ntmps16
    go_wp2_with (go_at_call 37; refine (within_any _ _ _ _).mono ?_; rintro e w' ⟨rfl, rfl⟩)
    go_ret
    exact ⟨by first | (rw [unhide HR]; done) | (rw [unhide HR]; rfl), unhide HB⟩
  have d6 := decide_eq_true r6
  have HR : Hid (decide (Rf.rangeOk x) = true) := hide (decide_eq_true ((unhide HE).2 ⟨r1, r2, r3, r4, r5, r6⟩))
  clear r1 r2 r3 r4 r5 r6 HE
  go_enter Try.func16, Try.ntmps16
  go_wp2_with (go_at_call 37; refine (within_any _ _ _ _).mono ?_; rintro e w' ⟨rfl, rfl⟩)
  go_ret
  exact ⟨by first | (rw [unhide HR]; done) | (rw [unhide HR]; rfl), unhide HB⟩

set_option maxHeartbeats 2000000 in
theorem role_any (x : Rf.Node) (v : Array Value) (w : World) (hv : Nv w v x) (ht : 0 ≤ x.term) : Calls Try.prog 17 #[.agg v] w fun e w' => e = .returned (.bool (decide (Rf.roleOk x))) ∧ Below w.heap.size w w' := by
  obtain ⟨lv, vv, nv, mv, rfl, h2, h3, h4, h5⟩ := hv
  obtain ⟨la, LL, lc, rfl, hLL, _, _⟩ := SC.shp h2
  obtain ⟨va, VL, vc, rfl, hVL, _, _⟩ := SC.shp h3
  obtain ⟨na, NL, nc, rfl, hNL, _, _⟩ := SC.shp h4
  obtain ⟨ma, ML, mc, rfl, hML, _, _⟩ := SC.shp h5
  have HB := hide (below_new w (.cells #[.int .i64 x.id, .int .i64 x.n, .int .i64 x.term, .int .i64 x.vote, .slice la LL lc, .int .i64 x.commit, .int .i64 x.role, .int .i64 x.boss, .slice va VL vc, .slice na NL nc, .slice ma ML mc] 25))
  clear h2 h3 h4 h5
  by_cases r1 : x.role = 1
  · have HR : Hid (decide (Rf.roleOk x) = true) := hide (decide_eq_true (by unfold Rf.roleOk Rf.inB; omega))
    have b1 : (x.role == 1) = true := by simpa using r1
    clear ht r1
    go_enter Try.func17, Try.ntmps17
    go_wp2_with (go_at_call 37; refine (within_any _ _ _ _).mono ?_; rintro e w' ⟨rfl, rfl⟩)
    go_ret
    exact ⟨by first | (rw [unhide HR]; done) | (rw [unhide HR]; rfl), unhide HB⟩
  have b1 : (x.role == 1) = false := by simpa using r1
  by_cases r2 : 0 < x.term
  · by_cases r3 : Rf.inB x.role 2 3
    · have HR : Hid (decide (Rf.roleOk x) = true) := hide (decide_eq_true (by unfold Rf.roleOk; unfold Rf.inB at *; omega))
      have d3 := decide_eq_true r3
      clear r3 ht
      go_enter Try.func17, Try.ntmps17
      go_wp2_with (go_at_call 37; refine (within_any _ _ _ _).mono ?_; rintro e w' ⟨rfl, rfl⟩)
      go_ret
      exact ⟨by first | (rw [unhide HR]; done) | (rw [unhide HR]; rfl), unhide HB⟩
    · have HR : Hid (decide (Rf.roleOk x) = false) := hide (decide_eq_false (by unfold Rf.roleOk; unfold Rf.inB at *; omega))
      have d3 := decide_eq_false r3
      clear r3 ht
      go_enter Try.func17, Try.ntmps17
      go_wp2_with (go_at_call 37; refine (within_any _ _ _ _).mono ?_; rintro e w' ⟨rfl, rfl⟩)
      go_ret
      exact ⟨by first | (rw [unhide HR]; done) | (rw [unhide HR]; rfl), unhide HB⟩
  · have HR : Hid (decide (Rf.roleOk x) = false) := hide (decide_eq_false (by unfold Rf.roleOk; unfold Rf.inB at *; omega))
    clear ht
    go_enter Try.func17, Try.ntmps17
    go_wp2_with (go_at_call 37; refine (within_any _ _ _ _).mono ?_; rintro e w' ⟨rfl, rfl⟩)
    go_ret
    exact ⟨by first | (rw [unhide HR]; done) | (rw [unhide HR]; rfl), unhide HB⟩

end Go.Proofs.Ytiplnegiphhdlaa.RW
