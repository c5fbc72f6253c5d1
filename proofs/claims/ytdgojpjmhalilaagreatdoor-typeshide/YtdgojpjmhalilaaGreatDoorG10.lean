/- Walks: what is asked of shapes. -/
import Derived.Test.YtdgojpjmhalilaaGreatDoorG09
import Derived.Test.YtdgojpjmhalilaaGreatDoorG05
import Derived.Test.YtdgojpjmhalilaaGreatDoorG06
import Derived.Test.YtdgojpjmhalilaaGreatDoorG01
namespace Go.Proofs.YtdgojpjmhalilaaGreatDoor
open Go.RowKit

theorem below2 (w : World) (o o' : Obj) : Below w.heap.size w ((w.alloc o).alloc o') := ((Below.refl _ _).alloc (Nat.le_refl _) _).alloc (by simp) _

set_option maxHeartbeats 1000000 in
theorem is_five (a : Sp) (w : World) :
    Calls Tryz.prog 63 #[sh a, .int .i64 5] w fun e w' => e = .returned (.bool (decide (0 < a.n))) ∧ Below w.heap.size w w' := by
  obtain ⟨n, q⟩ := a
  have B0 := hide ((Below.refl w.heap.size w).alloc (Nat.le_refl _) (.cells #[.int .i64 (n : Int), .int .i64 q] 47))
  have hn : decide (0 < n) = decide (0 < (n : Int)) := by simp
  show Calls Tryz.prog 63 #[shn (n : Int) q, .int .i64 5] w fun e w' => e = .returned (.bool (decide (0 < n))) ∧ Below w.heap.size w w'
  rw [hn]
  clear hn
  go_enter Tryz.func63, Tryz.ntmps63
  go_wp2
  go_ret
  exact ⟨by simp, unhide B0⟩

theorem isB_any (a : Sp) (k : Int) (w : World) :
    Calls Tryz.prog 63 #[sh a, .int .i64 k] w fun e w' => e = .returned (.bool (a.isB k)) ∧ Below w.heap.size w w' := by
  unfold Sp.isB
  by_cases h : k = 5
  · subst h
    rw [if_pos rfl]
    exact is_five a w
  · rw [if_neg h]
    exact is_any a k w h

set_option maxHeartbeats 1000000 in
theorem isOpen_any (a : Sp) (w : World) :
    Calls Tryz.prog 64 #[sh a] w fun e w' => e = .returned (.bool a.openB) ∧ Below w.heap.size w w' := by
  have I1 := hide (fun wx => is_any a 1 wx (by decide))
  have I2 := hide (fun wx => is_any a 6 wx (by decide))
  have X0 := hide (Bx2.new w 47 (.int .i64 a.n) (.int .i64 a.k))
  have B0 := hide ((Below.refl w.heap.size w).alloc (Nat.le_refl _) (.cells #[.int .i64 (a.n : Int), .int .i64 a.k] 47))
  unfold Sp.openB
  generalize decide (a.n = 0 ∧ a.k = 1) = p at *
  generalize decide (a.n = 0 ∧ a.k = 6) = q at *
  go_enter Tryz.func64, Tryz.ntmps64
  go_wp2_with fail
  refine (unhide I1 _).mono ?_
  rintro e w1 ⟨rfl, hb⟩
  have c0 := ((unhide X0).keep hb (unhide X0).low).at0
  have c1 := ((unhide X0).keep hb (unhide X0).low).at1
  have B1 := hide (below_via (unhide B0) hb)
  clear hb
  cases p
  · go_wp2_with fail
    refine (unhide I2 _).mono ?_
    rintro e w2 ⟨rfl, hb⟩
    have B2 := hide (below_via (unhide B1) hb)
    clear hb
    go_wp2
    go_ret
    exact ⟨by simp, unhide B2⟩
  · go_wp2
    go_ret
    exact ⟨by simp, unhide B1⟩

set_option maxHeartbeats 1000000 in
theorem mayBe_any (a : Sp) (k : Int) (w : World) :
    Calls Tryz.prog 42 #[sh a, .int .i64 k] w fun e w' => e = .returned (.bool (a.mayB k)) ∧ Below w.heap.size w w' := by
  have I1 := hide (fun wx => isB_any a k wx)
  have I2 := hide (fun wx => isOpen_any a wx)
  have X0 := hide (Bx2.new w 47 (.int .i64 a.n) (.int .i64 a.k))
  have B0 := hide ((Below.refl w.heap.size w).alloc (Nat.le_refl _) (.cells #[.int .i64 (a.n : Int), .int .i64 a.k] 47))
  unfold Sp.mayB
  generalize a.isB k = p at *
  generalize a.openB = q at *
  go_enter Tryz.func42, Tryz.ntmps42
  go_wp2_with fail
  refine (unhide I1 _).mono ?_
  rintro e w1 ⟨rfl, hb⟩
  have c0 := ((unhide X0).keep hb (unhide X0).low).at0
  have c1 := ((unhide X0).keep hb (unhide X0).low).at1
  have B1 := hide (below_via (unhide B0) hb)
  clear hb
  cases p
  · go_wp2_with fail
    refine (unhide I2 _).mono ?_
    rintro e w2 ⟨rfl, hb⟩
    have B2 := hide (below_via (unhide B1) hb)
    clear hb
    go_wp2
    go_ret
    exact ⟨by simp, unhide B2⟩
  · go_wp2
    go_ret
    exact ⟨by simp, unhide B1⟩

set_option maxHeartbeats 1000000 in
theorem listed_any (a : Sp) (w : World) (ha : a.n ≤ 100000) :
    Calls Tryz.prog 45 #[sh a] w fun e w' => e = .returned (sh a.listed) ∧ Below w.heap.size w w' := by
  obtain ⟨n, q⟩ := a
  simp only at ha
  have B0 := hide (((Below.refl w.heap.size w).alloc (Nat.le_refl _) (.cells #[.int .i64 (n : Int), .int .i64 q] 47)))
  show Calls Tryz.prog 45 #[shn (n : Int) q] w fun e w' => e = .returned (shn ((n + 1 : Nat) : Int) q) ∧ Below w.heap.size w w'
  rw [show ((n + 1 : Nat) : Int) = (n : Int) + 1 by omega]
  go_enter Tryz.func45, Tryz.ntmps45
  go_wp2_with fail
  exact bodyPost_ret (v := shn ((n : Int) + 1) q) (by simp [results, Tryz.results45, go_sem]) rfl ⟨rfl, (unhide B0).alloc (unhide B0).size _⟩

set_option maxHeartbeats 1000000 in
theorem elem_any (a : Sp) (w : World) (ha : a.n ≤ 100000) :
    Calls Tryz.prog 44 #[sh a] w fun e w' => e = .returned (sh a.elem) ∧ Below w.heap.size w w' := by
  obtain ⟨n, q⟩ := a
  simp only at ha
  by_cases h : n = 0
  · subst h
    show Calls Tryz.prog 44 #[shn 0 q] w fun e w' => e = .returned (shn 0 q) ∧ Below w.heap.size w w'
    go_enter Tryz.func44, Tryz.ntmps44
    go_wp2_with fail
    refine bodyPost_ret (v := shn 0 q) (by simp [results, Tryz.results44, go_sem]) rfl ⟨rfl, ?_⟩
    exact below2 w _ _
  · have h1 : ((n : Int) == 0) = false := by simp; omega
    have e1 : Sp.elem ⟨n, q⟩ = ⟨n - 1, q⟩ := by unfold Sp.elem; rw [if_neg h]
    rw [e1]
    show Calls Tryz.prog 44 #[shn (n : Int) q] w fun e w' => e = .returned (shn ((n - 1 : Nat) : Int) q) ∧ Below w.heap.size w w'
    rw [show ((n - 1 : Nat) : Int) = (n : Int) - 1 by omega]
    clear e1
    go_enter Tryz.func44, Tryz.ntmps44
    go_wp2_with fail
    refine bodyPost_ret (v := shn ((n : Int) - 1) q) (by simp [results, Tryz.results44, go_sem]) rfl ⟨rfl, ?_⟩
    exact below2 w _ _

set_option maxHeartbeats 1000000 in
theorem orWrong_any (a : Sp) (ok : Bool) (w : World) :
    Calls Tryz.prog 24 #[sh a, .bool ok] w fun e w' => e = .returned (.tuple #[sh (orW (a, ok)).2, .int .i64 (orW (a, ok)).1]) ∧ Below w.heap.size w w' := by
  obtain ⟨n, q⟩ := a
  cases ok
  · show Calls Tryz.prog 24 #[shn (n : Int) q, .bool false] w fun e w' => e = .returned (.tuple #[shn 0 0, .int .i64 9]) ∧ Below w.heap.size w w'
    go_enter Tryz.func24, Tryz.ntmps24
    go_wp2_with fail
    refine bodyPost_ret (v := .tuple #[shn 0 0, .int .i64 9]) (by simp [results, Tryz.results24, go_sem]) rfl ⟨rfl, ?_⟩
    exact below2 w _ _
  · show Calls Tryz.prog 24 #[shn (n : Int) q, .bool true] w fun e w' => e = .returned (.tuple #[shn (n : Int) q, .int .i64 0]) ∧ Below w.heap.size w w'
    go_enter Tryz.func24, Tryz.ntmps24
    go_wp2_with fail
    refine bodyPost_ret (v := .tuple #[shn (n : Int) q, .int .i64 0]) (by simp [results, Tryz.results24, go_sem]) rfl ⟨rfl, ?_⟩
    exact below2 w _ _
end Go.Proofs.YtdgojpjmhalilaaGreatDoor

/- What is wrong with an expression, out of what is a name and what is wrong with a value. -/
namespace Go.Proofs.YtdgojpjmhalilaaGreatDoor
open Go.RowKit

def hasNm (k : Int) : Bool := decide (k = 2 ∨ k = 18 ∨ k = 20 ∨ k = 21 ∨ k = 22)
def leastK (k : Int) : Int := if k = 1 ∨ k = 2 then 0 else if k = 3 then 1 else if k = 17 then 3 else if k = 18 then 0 else if k = 19 then 0 else 2
def mostK (k : Int) : Int := if k = 1 ∨ k = 2 then 0 else if k = 3 then 1 else if k = 17 then 3 else if k = 18 then 8 else if k = 19 then 200 else 2

set_option maxHeartbeats 8000000 in
theorem hasName_any (k : Int) (w : World) : Calls Tryz.prog 70 #[.int .i64 k] w fun e w' => e = .returned (.bool (hasNm k)) ∧ w' = w := by
  unfold hasNm
  by_cases h : k = 2 ∨ k = 18 ∨ k = 20 ∨ k = 21 ∨ k = 22
  · rw [decide_eq_true h]
    rcases h with rfl | rfl | rfl | rfl | rfl
    all_goals
      go_enter Tryz.func70, Tryz.ntmps70
      go_wp2
      go_ret
      exact ⟨rfl, rfl⟩
  · rw [decide_eq_false h]
    have h1 : (k == 2) = false := by simp; omega
    have h2 : (k == 18) = false := by simp; omega
    have h3 : (k == 20) = false := by simp; omega
    have h4 : (k == 21) = false := by simp; omega
    have h5 : (k == 22) = false := by simp; omega
    clear h
    go_enter Tryz.func70, Tryz.ntmps70
    go_wp2
    go_ret
    exact ⟨rfl, rfl⟩

set_option maxHeartbeats 8000000 in
theorem kidsOf_any (k : Int) (w : World) : Calls Tryz.prog 71 #[.int .i64 k] w fun e w' => e = .returned (.tuple #[.int .i64 (leastK k), .int .i64 (mostK k)]) ∧ w' = w := by
  by_cases h : k = 1 ∨ k = 2 ∨ k = 3 ∨ k = 17 ∨ k = 18 ∨ k = 19
  · rcases h with rfl | rfl | rfl | rfl | rfl | rfl
    all_goals
      go_enter Tryz.func71, Tryz.ntmps71
      go_wp2
      refine bodyPost_ret (v := .tuple #[.int .i64 _, .int .i64 _]) (by simp [results, Tryz.results71, go_sem]; exact ⟨rfl, rfl⟩) rfl ⟨rfl, rfl⟩
  · have e1 : leastK k = 2 := by unfold leastK; rw [if_neg (by omega), if_neg (by omega), if_neg (by omega), if_neg (by omega), if_neg (by omega)]
    have e2 : mostK k = 2 := by unfold mostK; rw [if_neg (by omega), if_neg (by omega), if_neg (by omega), if_neg (by omega), if_neg (by omega)]
    rw [e1, e2]
    have h1 : (k == 1) = false := by simp; omega
    have h2 : (k == 2) = false := by simp; omega
    have h3 : (k == 3) = false := by simp; omega
    have h4 : (k == 17) = false := by simp; omega
    have h5 : (k == 18) = false := by simp; omega
    have h6 : (k == 19) = false := by simp; omega
    clear h e1 e2
    go_enter Tryz.func71, Tryz.ntmps71
    go_wp2
    exact bodyPost_ret (v := .tuple #[.int .i64 2, .int .i64 2]) (by simp [results, Tryz.results71, go_sem]) rfl ⟨rfl, rfl⟩

/-- what is known of names and values -/
structure EnvX (B : Nat) (Gd : World → Prop) (nB : ByteArray → Bool) (vW : Tree → Int) : Prop where
  keep : ∀ w w', Gd w → Below B w w' → Gd w'
  named : ∀ (s : ByteArray) (w : World), s.size ≤ 9223372036854775807 → B ≤ w.heap.size → Gd w → Calls Tryz.prog 16 #[.string s] w fun e w' => e = .returned (.bool (nB s)) ∧ Below w.heap.size w w'
  val : ∀ (T : Tree) (v : Array Value) (w : World), Mem B w T v → B ≤ w.heap.size → Gd w → Calls Tryz.prog 80 #[.agg v] w fun e w' => e = .returned (.int .i64 (vW T)) ∧ Below w.heap.size w w'

def litF (r vk vc : Int) : Int := if r ≠ 0 then r else if vk = 5 ∨ (vk = 3 ∧ vc < 0) then 8 else 0
set_option maxHeartbeats 8000000 in
theorem wrongLiteral_any {B : Nat} {Gd : World → Prop} {nB : ByteArray → Bool} {vW : Tree → Int} (E : EnvX B Gd nB vW) (T : Tree) (vk : Int) (vy : Bool) (vc vx : Int) (vt : ByteArray) (va : Option Addr) (vn vp : Nat) (w : World) (hv : Mem B w T #[.int .i64 vk, .bool vy, .int .i64 vc, .int .i64 vx, .string vt, .slice va vn vp]) (hB : B ≤ w.heap.size) (hG : Gd w) :
    Calls Tryz.prog 69 #[.agg #[.int .i64 vk, .bool vy, .int .i64 vc, .int .i64 vx, .string vt, .slice va vn vp]] w fun e w' => e = .returned (.int .i64 (litF (vW T) vk vc)) ∧ Below w.heap.size w w' := by
  have B0 := (Below.refl w.heap.size w).alloc (Nat.le_refl _) (.cells #[.int .i64 vk, .bool vy, .int .i64 vc, .int .i64 vx, .string vt, .slice va vn vp] 26)
  have C := hide (E.val T _ _ (Mem.below (B0.mono hB) hv) (Nat.le_trans hB B0.size) (E.keep _ _ hG (B0.mono hB)))
  have X0 := hide (V6.new w 26 (.int .i64 vk) (.bool vy) (.int .i64 vc) (.int .i64 vx) (.string vt) (.slice va vn vp))
  have HB0 := hide B0
  clear B0 hv hG E
  generalize vW T = r at *
  go_enter Tryz.func69, Tryz.ntmps69
  go_wp2_with fail
  refine (unhide C).mono ?_
  rintro e w1 ⟨rfl, hb⟩
  obtain ⟨c0, c1, c2, c3, c4, c5⟩ := ((unhide X0).keep hb (unhide X0).low).tell
  have HB1 := hide (below_via (unhide HB0) hb)
  clear hb C X0 HB0
  by_cases hr : r = 0
  · subst hr
    by_cases h5 : vk = 5
    · subst h5
      go_wp2
      go_ret
      exact ⟨by simp [litF], unhide HB1⟩
    have h5' : (vk == 5) = false := by simpa using h5
    by_cases h3 : vk = 3
    · subst h3
      by_cases hc : vc < 0
      · go_wp2
        go_ret
        exact ⟨by simp [litF, hc], unhide HB1⟩
      · go_wp2
        go_ret
        exact ⟨by simp [litF, hc], unhide HB1⟩
    have h3' : (vk == 3) = false := by simpa using h3
    go_wp2
    go_ret
    exact ⟨by simp [litF, h5, h3], unhide HB1⟩
  · have hr' : (r != 0) = true := by simpa using hr
    go_wp2
    go_ret
    exact ⟨by simp [litF, hr], unhide HB1⟩
end Go.Proofs.YtdgojpjmhalilaaGreatDoor

/- What is wrong with an expression's node, and with all of it. -/
namespace Go.Proofs.YtdgojpjmhalilaaGreatDoor
open Go.RowKit

/-- an expression's nine cells in a block -/
structure V9 (w : World) (b : Nat) (v0 v1 v2 v3 v4 v5 v6 v7 v8 : Value) : Prop where
  low : b < w.heap.size
  tell : w.cell? ⟨b, 0, none⟩ = some v0 ∧ w.cell? ⟨b, 1, none⟩ = some v1 ∧ w.cell? ⟨b, 2, none⟩ = some v2 ∧ w.cell? ⟨b, 3, none⟩ = some v3 ∧ w.cell? ⟨b, 4, none⟩ = some v4 ∧ w.cell? ⟨b, 5, none⟩ = some v5 ∧ w.cell? ⟨b, 6, none⟩ = some v6 ∧ w.cell? ⟨b, 7, none⟩ = some v7 ∧ w.cell? ⟨b, 8, none⟩ = some v8
theorem V9.keep {w w' : World} {b : Nat} {v0 v1 v2 v3 v4 v5 v6 v7 v8 : Value} (h : V9 w b v0 v1 v2 v3 v4 v5 v6 v7 v8) {B : Nat} (hb : Below B w w') (l : b < B) : V9 w' b v0 v1 v2 v3 v4 v5 v6 v7 v8 := by
  have c : ∀ o, w'.cell? ⟨b, o, none⟩ = w.cell? ⟨b, o, none⟩ := fun o => hb.cell (p := ⟨b, o, none⟩) l
  refine ⟨Nat.lt_of_lt_of_le h.low hb.size, ?_⟩
  simp only [c]
  exact h.tell
theorem V9.but {w w' : World} {p b : Nat} {v0 v1 v2 v3 v4 v5 v6 v7 v8 : Value} (h : V9 w b v0 v1 v2 v3 v4 v5 v6 v7 v8) (hb : But p w w') (ne : b ≠ p) : V9 w' b v0 v1 v2 v3 v4 v5 v6 v7 v8 := by
  have c : ∀ o, w'.cell? ⟨b, o, none⟩ = w.cell? ⟨b, o, none⟩ := fun o => hb.cell (q := ⟨b, o, none⟩) h.low ne
  refine ⟨Nat.lt_of_lt_of_le h.low hb.size, ?_⟩
  simp only [c]
  exact h.tell
theorem V9.new (w : World) (t : TypeId) (v0 v1 v2 v3 v4 v5 v6 v7 v8 : Value) : V9 (w.alloc (.cells #[v0, v1, v2, v3, v4, v5, v6, v7, v8] t)) w.heap.size v0 v1 v2 v3 v4 v5 v6 v7 v8 := ⟨by simp, by go_simp, by go_simp, by go_simp, by go_simp, by go_simp, by go_simp, by go_simp, by go_simp, by go_simp⟩

def nodeF (lit : Int) (nb : Bool) (k len : Int) : Int := if k < 1 ∨ 22 < k then 1 else if k = 1 ∧ lit ≠ 0 then lit else if hasNm k = true ∧ nb = false then 7 else if len < leastK k ∨ mostK k < len then 5 else 0

set_option maxHeartbeats 8000000 in
theorem wrongNode_any {B : Nat} {Gd : World → Prop} {nB : ByteArray → Bool} {vW : Tree → Int} (E : EnvX B Gd nB vW) (k : Int) (T : Tree) (vk : Int) (vy : Bool) (vc vx : Int) (vt : ByteArray) (va : Option Addr) (vn vp : Nat) (s : ByteArray) (a : Option Addr) (n cap : Nat) (w : World)
    (hs : s.size ≤ 9223372036854775807) (_hn : n ≤ 9223372036854775807) (hv : Mem B w T #[.int .i64 vk, .bool vy, .int .i64 vc, .int .i64 vx, .string vt, .slice va vn vp]) (hB : B ≤ w.heap.size) (hG : Gd w) :
    Calls Tryz.prog 57 #[.agg #[.int .i64 k, .int .i64 vk, .bool vy, .int .i64 vc, .int .i64 vx, .string vt, .slice va vn vp, .string s, .slice a n cap]] w fun e w' => e = .returned (.int .i64 (nodeF (litF (vW T) vk vc) (nB s) k n)) ∧ Below w.heap.size w w' := by
  have X0 := hide (V9.new w 29 (.int .i64 k) (.int .i64 vk) (.bool vy) (.int .i64 vc) (.int .i64 vx) (.string vt) (.slice va vn vp) (.string s) (.slice a n cap))
  have B0 := hide ((Below.refl w.heap.size w).alloc (Nat.le_refl _) (.cells #[.int .i64 k, .int .i64 vk, .bool vy, .int .i64 vc, .int .i64 vx, .string vt, .slice va vn vp, .string s, .slice a n cap] 29))
  have CL := hide (fun wx (h : Below w.heap.size w wx) => wrongLiteral_any E T vk vy vc vx vt va vn vp wx (Mem.below (h.mono hB) hv) (Nat.le_trans hB h.size) (E.keep _ _ hG (h.mono hB)))
  have CN := hide (fun wx (h : Below w.heap.size w wx) => E.named s wx hs (Nat.le_trans hB h.size) (E.keep _ _ hG (h.mono hB)))
  have CH := hide (fun wx => hasName_any k wx)
  have CK := hide (fun wx => kidsOf_any k wx)
  have HF : Hid (∀ lit nb, nodeF lit nb k n = if k < 1 ∨ 22 < k then 1 else if k = 1 ∧ lit ≠ 0 then lit else if hasNm k = true ∧ nb = false then 7 else if (n : Int) < leastK k ∨ mostK k < (n : Int) then 5 else 0) := hide (fun _ _ => rfl)
  clear hv hG E
  generalize litF (vW T) vk vc = lit at *
  generalize nB s = nb at *
  have hn1 : hasNm k = true → k ≠ 1 := fun q => by unfold hasNm at q; simp at q; omega
  generalize hasNm k = hk at *
  generalize leastK k = lk at *
  generalize mostK k = mk at *
  by_cases h0 : k < 1 ∨ 22 < k
  · rcases Int.lt_or_le k 1 with h1 | h1
    · go_enter Tryz.func57, Tryz.ntmps57
      go_wp2
      go_ret
      exact ⟨by rw [unhide HF, if_pos h0]; rfl, unhide B0⟩
    · have h2 : 22 < k := by omega
      have h3 : ¬ k < 1 := by omega
      go_enter Tryz.func57, Tryz.ntmps57
      go_wp2
      go_ret
      exact ⟨by rw [unhide HF, if_pos h0]; rfl, unhide B0⟩
  have h1 : ¬ k < 1 := by omega
  have h2 : ¬ 22 < k := by omega
  by_cases hk1 : k = 1
  · subst hk1
    go_enter Tryz.func57, Tryz.ntmps57
    go_wp2_with fail
    refine (unhide CL _ (unhide B0)).mono ?_
    rintro e w1 ⟨rfl, hb⟩
    have X1 := hide ((unhide X0).keep hb (unhide X0).low)
    have B1 := hide (below_via (unhide B0) hb)
    clear hb X0 B0 CL CN
    by_cases hl : lit = 0
    · subst hl
      obtain ⟨c0, c1, c2, c3, c4, c5, c6, c7, c8⟩ := (unhide X1).tell
      have hkf : hk = false := by
        cases hk with
        | false => rfl
        | true => exact absurd rfl (hn1 rfl)
      subst hkf
      go_wp2_with fail
      refine (unhide CH _).mono ?_
      rintro e w2 ⟨rfl, rfl⟩
      go_wp2_with fail
      refine (unhide CK _).mono ?_
      rintro e w3 ⟨rfl, rfl⟩
      by_cases q1 : (n : Int) < lk
      · go_wp2
        go_ret
        exact ⟨by rw [unhide HF, if_neg h0, if_neg (by simp), if_neg (by simp), if_pos (.inl q1)]; rfl, unhide B1⟩
      · by_cases q2 : mk < (n : Int)
        · go_wp2
          go_ret
          exact ⟨by rw [unhide HF, if_neg h0, if_neg (by simp), if_neg (by simp), if_pos (.inr q2)]; rfl, unhide B1⟩
        · go_wp2
          go_ret
          exact ⟨by rw [unhide HF, if_neg h0, if_neg (by simp), if_neg (by simp), if_neg (by omega)]; rfl, unhide B1⟩
    · have hl' : (lit != 0) = true := by simpa using hl
      go_wp2
      go_ret
      exact ⟨by rw [unhide HF, if_neg h0, if_pos (by simp [hl])]; rfl, unhide B1⟩
  have hk1' : (k == 1) = false := by simpa using hk1
  clear CL
  cases hk with
  | false =>
    go_enter Tryz.func57, Tryz.ntmps57
    go_wp2_with fail
    refine (unhide CH _).mono ?_
    rintro e w2 ⟨rfl, rfl⟩
    go_wp2_with fail
    refine (unhide CK _).mono ?_
    rintro e w3 ⟨rfl, rfl⟩
    by_cases q1 : (n : Int) < lk
    · go_wp2
      go_ret
      exact ⟨by rw [unhide HF, if_neg h0, if_neg (fun q => hk1 q.1), if_neg (by simp), if_pos (.inl q1)]; rfl, unhide B0⟩
    · by_cases q2 : mk < (n : Int)
      · go_wp2
        go_ret
        exact ⟨by rw [unhide HF, if_neg h0, if_neg (fun q => hk1 q.1), if_neg (by simp), if_pos (.inr q2)]; rfl, unhide B0⟩
      · go_wp2
        go_ret
        exact ⟨by rw [unhide HF, if_neg h0, if_neg (fun q => hk1 q.1), if_neg (by simp), if_neg (by omega)]; rfl, unhide B0⟩
  | true =>
    go_enter Tryz.func57, Tryz.ntmps57
    go_wp2_with fail
    refine (unhide CH _).mono ?_
    rintro e w2 ⟨rfl, rfl⟩
    go_wp2_with fail
    refine (unhide CN _ (unhide B0)).mono ?_
    rintro e w3 ⟨rfl, hb⟩
    have X1 := hide ((unhide X0).keep hb (unhide X0).low)
    have B1 := hide (below_via (unhide B0) hb)
    clear hb X0 B0 CN
    cases nb with
    | false =>
      go_wp2
      go_ret
      exact ⟨by rw [unhide HF, if_neg h0, if_neg (fun q => hk1 q.1), if_pos (by simp)]; rfl, unhide B1⟩
    | true =>
      obtain ⟨c0, c1, c2, c3, c4, c5, c6, c7, c8⟩ := (unhide X1).tell
      go_wp2_with fail
      refine (unhide CK _).mono ?_
      rintro e w4 ⟨rfl, rfl⟩
      by_cases q1 : (n : Int) < lk
      · go_wp2
        go_ret
        exact ⟨by rw [unhide HF, if_neg h0, if_neg (fun q => hk1 q.1), if_neg (by simp), if_pos (.inl q1)]; rfl, unhide B1⟩
      · by_cases q2 : mk < (n : Int)
        · go_wp2
          go_ret
          exact ⟨by rw [unhide HF, if_neg h0, if_neg (fun q => hk1 q.1), if_neg (by simp), if_pos (.inr q2)]; rfl, unhide B1⟩
        · go_wp2
          go_ret
          exact ⟨by rw [unhide HF, if_neg h0, if_neg (fun q => hk1 q.1), if_neg (by simp), if_neg (by omega)]; rfl, unhide B1⟩
end Go.Proofs.YtdgojpjmhalilaaGreatDoor

/- Walks: trimmed, number. -/
namespace Go.Proofs.YtdgojpjmhalilaaGreatDoor
open Go.RowKit

theorem ret_near {a b c a' b' c' : Int} (h1 : a = a') (h2 : b = b') (h3 : c = c') :
    Ending.returned (.tuple #[.agg #[.int .i64 a, .int .i64 b], .int .i64 c]) = .returned (.tuple #[.agg #[.int .i64 a', .int .i64 b'], .int .i64 c']) := by rw [h1, h2, h3]

set_option maxHeartbeats 400000 in
theorem trimmed_zero (x : Int) (w : World) :
    Calls Tryz.prog 111 #[.int .i64 0, .int .i64 x] w fun e w' => e = .returned (.tuple #[.agg #[.int .i64 0, .int .i64 0], .int .i64 0]) ∧ Below w.heap.size w w' := by
  go_enter Tryz.func111, Tryz.ntmps111
  go_wp2
  exact bodyPost_ret (v := .tuple #[.agg #[.int .i64 0, .int .i64 0], .int .i64 0]) (by simp [results, Tryz.results111, go_sem]) rfl ⟨rfl, (Below.refl _ _).alloc (Nat.le_refl _) _⟩

set_option maxHeartbeats 400000 in
theorem trimmed_some (c x : Int) (w : World) (h0 : (c == 0) = false) (h1 : -1000000000000000000 ≤ c) (h2 : c ≤ 1000000000000000000) (hx1 : -200 ≤ x) (hx2 : x ≤ 200) :
    Calls Tryz.prog 111 #[.int .i64 c, .int .i64 x] w fun e w' => ∃ (m : Int) (k : Nat), c = Dm.tens m k ∧ m.tmod 10 ≠ 0 ∧ ((40 < x + k ∧ e = .returned (.tuple #[.agg #[.int .i64 0, .int .i64 0], .int .i64 4])) ∨ (x + k ≤ 40 ∧ e = .returned (.tuple #[.agg #[.int .i64 m, .int .i64 (x + k)], .int .i64 0]))) ∧ Below w.heap.size w w' := by
  go_enter Tryz.func111, Tryz.ntmps111
  go_wp2
  go_loop [0, 1] (fun a b => ∃ (m : Int) (k : Nat), a = .int .i64 m ∧ b = .int .i64 (x + k) ∧ Hid (c = Dm.tens m k) ∧ Hid (m ≠ 0) ∧ -1000000000000000000 ≤ m ∧ m ≤ 1000000000000000000 ∧ k ≤ 18) (fun a _ => (intOf a).natAbs)
  case atStart => exact ⟨c, 0, rfl, by simp, hide rfl, hide (by simpa using h0), h1, h2, by omega⟩
  case round =>
    obtain ⟨m, k, rfl, rfl, H, hm0, hm1, hm2, hk⟩ := hrel
    by_cases hm : m.tmod 10 = 0
    · have hm' : (m.tmod 10 == 0) = true := by simp [hm]
      have T := hide (Dm.td10 m)
      have Hm := hide hm
      obtain ⟨q1, q2, q3, q4, q5⟩ := Dm.tdiv_facts (unhide hm0) hm
      have hq1 := hide q1
      have hk' := Dm.tens_k (unhide H) hm (unhide hm0) h1 h2
      clear hm q1
      go_wp2
      go_round
      case rel => exact ⟨_, k + 1, rfl, by go_num, hide (Dm.tens_step (unhide H) (unhide hq1)), hide q2, by omega, by omega, by omega⟩
      case measure => exact q3
    · have hm' : (m.tmod 10 == 0) = false := by simp [hm]
      have Hm := hide hm
      clear hm
      by_cases hg : 40 < x + (k : Int)
      · go_wp2
        exact bodyPost_ret (v := .tuple #[.agg #[.int .i64 0, .int .i64 0], .int .i64 4]) (by simp [results, Tryz.results111, go_sem]) rfl ⟨m, k, unhide H, unhide Hm, .inl ⟨hg, rfl⟩, (Below.refl _ _).alloc (Nat.le_refl _) _⟩
      · go_wp2
        exact bodyPost_ret (v := .tuple #[.agg #[.int .i64 m, .int .i64 (x + k)], .int .i64 0]) (by simp [results, Tryz.results111, go_sem]) rfl ⟨m, k, unhide H, unhide Hm, .inr ⟨by omega, rfl⟩, (Below.refl _ _).alloc (Nat.le_refl _) _⟩

theorem trimmed_any (c x : Int) (w : World) (h1 : -1000000000000000000 ≤ c) (h2 : c ≤ 1000000000000000000) (hx1 : -200 ≤ x) (hx2 : x ≤ 200) :
    Calls Tryz.prog 111 #[.int .i64 c, .int .i64 x] w fun e w' => e = .returned (.tuple #[.agg #[.int .i64 (Dm.fC c x), .int .i64 (Dm.fE c x)], .int .i64 (Dm.fR c x)]) ∧ Below w.heap.size w w' := by
  by_cases h0 : c = 0
  · subst h0
    exact (trimmed_zero x w).mono fun e w' h => h
  · refine (trimmed_some c x w (by simp [h0]) h1 h2 hx1 hx2).mono ?_
    rintro e w' ⟨m, k, hc, hm, he, hb⟩
    obtain ⟨t1, t2⟩ := Dm.tz_at hc hm (by omega)
    refine ⟨?_, hb⟩
    rcases he with ⟨g, rfl⟩ | ⟨g, rfl⟩
    · refine ret_near ?_ ?_ ?_ <;> simp only [Dm.fC, Dm.fE, Dm.fR, if_neg h0, t1, if_pos g]
    · have g' : ¬ 40 < x + (k : Int) := by omega
      refine ret_near ?_ ?_ ?_ <;> simp only [Dm.fC, Dm.fE, Dm.fR, if_neg h0, t1, t2, if_neg g']

set_option maxHeartbeats 400000 in
theorem number_any (B R : Bool) (sv : Value) (x : Int) (hsv : ∃ ao n c, sv = .slice ao n c) (q : Nat) (y : Int) (w : World) (hq : (q : Int) ≤ 1000000000000000000) (hx1 : -200 ≤ y) (hx2 : y ≤ 200) :
    Calls Tryz.prog 105 #[.agg #[.bool B, sv, .int .i64 x, .bool R], .int .u64 (q : Int), .int .i64 y] w fun e w' => e = .returned (.tuple #[.agg #[.int .i64 (Dm.fC (Dm.sg B q) y), .int .i64 (Dm.fE (Dm.sg B q) y)], .int .i64 (Dm.fR (Dm.sg B q) y)]) ∧ Below w.heap.size w w' := by
  obtain ⟨ao, n, cp, rfl⟩ := hsv
  cases B
  · go_enter Tryz.func105, Tryz.ntmps105
    go_wp2_with fail
    refine (trimmed_any (q : Int) y _ (by omega) (by omega) hx1 hx2).mono ?_
    rintro e w1 ⟨rfl, hb⟩
    obtain ⟨hc, hf⟩ := bcell hb
    have hz : w.heap.size + 2 ≤ w1.heap.size := by have := hb.size; simp at this; omega
    have hb0 : Below w.heap.size w w1 := (((Below.refl _ _).alloc (Nat.le_refl _) _).alloc (by simp) _).trans (hb.mono (by simp; omega))
    go_wp2
    exact bodyPost_ret (v := .tuple #[.agg #[.int .i64 (Dm.fC (q : Int) y), .int .i64 (Dm.fE (q : Int) y)], .int .i64 (Dm.fR (q : Int) y)]) (by simp [results, Tryz.results105, go_sem, hc]) rfl ⟨rfl, (hb0.setCell (by simp) _).setCell (by simp) _⟩
  · go_enter Tryz.func105, Tryz.ntmps105
    go_wp2_with fail
    refine (trimmed_any (-(q : Int)) y _ (by omega) (by omega) hx1 hx2).mono ?_
    rintro e w1 ⟨rfl, hb⟩
    obtain ⟨hc, hf⟩ := bcell hb
    have hz : w.heap.size + 2 ≤ w1.heap.size := by have := hb.size; simp at this; omega
    have hb0 : Below w.heap.size w w1 := (((Below.refl _ _).alloc (Nat.le_refl _) _).alloc (by simp) _).trans (hb.mono (by simp; omega))
    go_wp2
    exact bodyPost_ret (v := .tuple #[.agg #[.int .i64 (Dm.fC (-(q : Int)) y), .int .i64 (Dm.fE (-(q : Int)) y)], .int .i64 (Dm.fR (-(q : Int)) y)]) (by simp [results, Tryz.results105, go_sem, hc]) rfl ⟨rfl, (hb0.setCell (by simp) _).setCell (by simp) _⟩

end Go.Proofs.YtdgojpjmhalilaaGreatDoor
