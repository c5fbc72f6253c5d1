/- What is wrong with an expression, out of what is a name and what is wrong with a value. -/
import Derived.Test.YthpjejfgoohhfaaGreatDoorG07
import Derived.Test.YthpjejfgoohhfaaGreatDoorG06
namespace Go.Proofs.YthpjejfgoohhfaaGreatDoor
open Go.RowKit

def hasNm (k : Int) : Bool := decide (k = 2 ∨ k = 18 ∨ k = 20 ∨ k = 21 ∨ k = 22)
def leastK (k : Int) : Int := if k = 1 ∨ k = 2 then 0 else if k = 3 then 1 else if k = 17 then 3 else if k = 18 then 0 else if k = 19 then 0 else 2
def mostK (k : Int) : Int := if k = 1 ∨ k = 2 then 0 else if k = 3 then 1 else if k = 17 then 3 else if k = 18 then 8 else if k = 19 then 200 else 2

set_option maxHeartbeats 8000000 in
theorem hasName_any (k : Int) (w : World) : Calls Tryz.prog 53 #[.int .i64 k] w fun e w' => e = .returned (.bool (hasNm k)) ∧ w' = w := by
  unfold hasNm
  by_cases h : k = 2 ∨ k = 18 ∨ k = 20 ∨ k = 21 ∨ k = 22
  · rw [decide_eq_true h]
    rcases h with rfl | rfl | rfl | rfl | rfl
    all_goals
      go_enter Tryz.func53, Tryz.ntmps53
      go_wp2
      go_ret
      exact ⟨rfl, rfl⟩
  · rw [decide_eq_false h]
    have h1 : (k == 2) = false := by simp; omega
    have h2 : (k == 18) = false := by simp; omega
    have h3 : (k == 20) = false := by simp; omega
    have h4 : (k == 21) = false := by simp; omega
    have h5 : (k == 22) = false := by simp; omega
    clear h
    go_enter Tryz.func53, Tryz.ntmps53
    go_wp2
    go_ret
    exact ⟨rfl, rfl⟩

set_option maxHeartbeats 8000000 in
theorem kidsOf_any (k : Int) (w : World) : Calls Tryz.prog 55 #[.int .i64 k] w fun e w' => e = .returned (.tuple #[.int .i64 (leastK k), .int .i64 (mostK k)]) ∧ w' = w := by
  by_cases h : k = 1 ∨ k = 2 ∨ k = 3 ∨ k = 17 ∨ k = 18 ∨ k = 19
  · rcases h with rfl | rfl | rfl | rfl | rfl | rfl
    all_goals
      go_enter Tryz.func55, Tryz.ntmps55
      go_wp2
      refine bodyPost_ret (v := .tuple #[.int .i64 _, .int .i64 _]) (by simp [results, Tryz.results55, go_sem]; exact ⟨rfl, rfl⟩) rfl ⟨rfl, rfl⟩
  · have e1 : leastK k = 2 := by unfold leastK; rw [if_neg (by omega), if_neg (by omega), if_neg (by omega), if_neg (by omega), if_neg (by omega)]
    have e2 : mostK k = 2 := by unfold mostK; rw [if_neg (by omega), if_neg (by omega), if_neg (by omega), if_neg (by omega), if_neg (by omega)]
    rw [e1, e2]
    have h1 : (k == 1) = false := by simp; omega
    have h2 : (k == 2) = false := by simp; omega
    have h3 : (k == 3) = false := by simp; omega
    have h4 : (k == 17) = false := by simp; omega
    have h5 : (k == 18) = false := by simp; omega
    have h6 : (k == 19) = false := by simp; omega
    clear h e1 e2
    go_enter Tryz.func55, Tryz.ntmps55
    go_wp2
    exact bodyPost_ret (v := .tuple #[.int .i64 2, .int .i64 2]) (by simp [results, Tryz.results55, go_sem]) rfl ⟨rfl, rfl⟩

/-- what is known of names and values -/
structure EnvX (B : Nat) (Gd : World → Prop) (nB : ByteArray → Bool) (vW : Tree → Int) : Prop where
  keep : ∀ w w', Gd w → Below B w w' → Gd w'
  named : ∀ (s : ByteArray) (w : World), s.size ≤ 9223372036854775807 → B ≤ w.heap.size → Gd w → Calls Tryz.prog 54 #[.string s] w fun e w' => e = .returned (.bool (nB s)) ∧ Below w.heap.size w w'
  val : ∀ (T : Tree) (v : Array Value) (w : World), Mem B w T v → B ≤ w.heap.size → Gd w → Calls Tryz.prog 75 #[.agg v] w fun e w' => e = .returned (.int .i64 (vW T)) ∧ Below w.heap.size w w'

def litF (r vk vc : Int) : Int := if r ≠ 0 then r else if vk = 5 ∨ (vk = 3 ∧ vc < 0) then 8 else 0
set_option maxHeartbeats 8000000 in
theorem wrongLiteral_any {B : Nat} {Gd : World → Prop} {nB : ByteArray → Bool} {vW : Tree → Int} (E : EnvX B Gd nB vW) (T : Tree) (vk : Int) (vy : Bool) (vc vx : Int) (vt : ByteArray) (va : Option Addr) (vn vp : Nat) (w : World) (hv : Mem B w T #[.int .i64 vk, .bool vy, .int .i64 vc, .int .i64 vx, .string vt, .slice va vn vp]) (hB : B ≤ w.heap.size) (hG : Gd w) :
    Calls Tryz.prog 52 #[.agg #[.int .i64 vk, .bool vy, .int .i64 vc, .int .i64 vx, .string vt, .slice va vn vp]] w fun e w' => e = .returned (.int .i64 (litF (vW T) vk vc)) ∧ Below w.heap.size w w' := by
  have B0 := (Below.refl w.heap.size w).alloc (Nat.le_refl _) (.cells #[.int .i64 vk, .bool vy, .int .i64 vc, .int .i64 vx, .string vt, .slice va vn vp] 26)
  have C := hide (E.val T _ _ (Mem.below (B0.mono hB) hv) (Nat.le_trans hB B0.size) (E.keep _ _ hG (B0.mono hB)))
  have X0 := hide (V6.new w 26 (.int .i64 vk) (.bool vy) (.int .i64 vc) (.int .i64 vx) (.string vt) (.slice va vn vp))
  have HB0 := hide B0
  clear B0 hv hG E
  generalize vW T = r at *
  go_enter Tryz.func52, Tryz.ntmps52
  go_wp2_with fail
  refine (unhide C).mono ?_
  rintro e w1 ⟨rfl, hb⟩
  obtain ⟨c0, c1, c2, c3, c4, c5⟩ := ((unhide X0).keep hb (unhide X0).low).tell
  have HB1 := hide (below_via (unhide HB0) hb)
  clear hb C X0 HB0
  by_cases hr : r = 0
  · subst hr
    by_cases h5 : vk = 5
    · subst h5
      go_wp2
      go_ret
      exact ⟨by simp [litF], unhide HB1⟩
    have h5' : (vk == 5) = false := by simpa using h5
    by_cases h3 : vk = 3
    · subst h3
      by_cases hc : vc < 0
      · go_wp2
        go_ret
        exact ⟨by simp [litF, hc], unhide HB1⟩
      · go_wp2
        go_ret
        exact ⟨by simp [litF, hc], unhide HB1⟩
    have h3' : (vk == 3) = false := by simpa using h3
    go_wp2
    go_ret
    exact ⟨by simp [litF, h5, h3], unhide HB1⟩
  · have hr' : (r != 0) = true := by simpa using hr
    go_wp2
    go_ret
    exact ⟨by simp [litF, hr], unhide HB1⟩
end Go.Proofs.YthpjejfgoohhfaaGreatDoor

/- What is wrong with an expression's node, and with all of it. -/
namespace Go.Proofs.YthpjejfgoohhfaaGreatDoor
open Go.RowKit

/-- an expression's nine cells in a block -/
structure V9 (w : World) (b : Nat) (v0 v1 v2 v3 v4 v5 v6 v7 v8 : Value) : Prop where
  low : b < w.heap.size
  tell : w.cell? ⟨b, 0, none⟩ = some v0 ∧ w.cell? ⟨b, 1, none⟩ = some v1 ∧ w.cell? ⟨b, 2, none⟩ = some v2 ∧ w.cell? ⟨b, 3, none⟩ = some v3 ∧ w.cell? ⟨b, 4, none⟩ = some v4 ∧ w.cell? ⟨b, 5, none⟩ = some v5 ∧ w.cell? ⟨b, 6, none⟩ = some v6 ∧ w.cell? ⟨b, 7, none⟩ = some v7 ∧ w.cell? ⟨b, 8, none⟩ = some v8
theorem V9.keep {w w' : World} {b : Nat} {v0 v1 v2 v3 v4 v5 v6 v7 v8 : Value} (h : V9 w b v0 v1 v2 v3 v4 v5 v6 v7 v8) {B : Nat} (hb : Below B w w') (l : b < B) : V9 w' b v0 v1 v2 v3 v4 v5 v6 v7 v8 := by
  have c : ∀ o, w'.cell? ⟨b, o, none⟩ = w.cell? ⟨b, o, none⟩ := fun o => hb.cell (p := ⟨b, o, none⟩) l
  refine ⟨Nat.lt_of_lt_of_le h.low hb.size, ?_⟩
  simp only [c]
  exact h.tell
theorem V9.but {w w' : World} {p b : Nat} {v0 v1 v2 v3 v4 v5 v6 v7 v8 : Value} (h : V9 w b v0 v1 v2 v3 v4 v5 v6 v7 v8) (hb : But p w w') (ne : b ≠ p) : V9 w' b v0 v1 v2 v3 v4 v5 v6 v7 v8 := by
  have c : ∀ o, w'.cell? ⟨b, o, none⟩ = w.cell? ⟨b, o, none⟩ := fun o => hb.cell (q := ⟨b, o, none⟩) h.low ne
  refine ⟨Nat.lt_of_lt_of_le h.low hb.size, ?_⟩
  simp only [c]
  exact h.tell
theorem V9.new (w : World) (t : TypeId) (v0 v1 v2 v3 v4 v5 v6 v7 v8 : Value) : V9 (w.alloc (.cells #[v0, v1, v2, v3, v4, v5, v6, v7, v8] t)) w.heap.size v0 v1 v2 v3 v4 v5 v6 v7 v8 := ⟨by simp, by go_simp, by go_simp, by go_simp, by go_simp, by go_simp, by go_simp, by go_simp, by go_simp, by go_simp⟩

def nodeF (lit : Int) (nb : Bool) (k len : Int) : Int := if k < 1 ∨ 22 < k then 1 else if k = 1 ∧ lit ≠ 0 then lit else if hasNm k = true ∧ nb = false then 7 else if len < leastK k ∨ mostK k < len then 5 else 0

set_option maxHeartbeats 8000000 in
theorem wrongNode_any {B : Nat} {Gd : World → Prop} {nB : ByteArray → Bool} {vW : Tree → Int} (E : EnvX B Gd nB vW) (k : Int) (T : Tree) (vk : Int) (vy : Bool) (vc vx : Int) (vt : ByteArray) (va : Option Addr) (vn vp : Nat) (s : ByteArray) (a : Option Addr) (n cap : Nat) (w : World)
    (hs : s.size ≤ 9223372036854775807) (_hn : n ≤ 9223372036854775807) (hv : Mem B w T #[.int .i64 vk, .bool vy, .int .i64 vc, .int .i64 vx, .string vt, .slice va vn vp]) (hB : B ≤ w.heap.size) (hG : Gd w) :
    Calls Tryz.prog 32 #[.agg #[.int .i64 k, .int .i64 vk, .bool vy, .int .i64 vc, .int .i64 vx, .string vt, .slice va vn vp, .string s, .slice a n cap]] w fun e w' => e = .returned (.int .i64 (nodeF (litF (vW T) vk vc) (nB s) k n)) ∧ Below w.heap.size w w' := by
  have X0 := hide (V9.new w 29 (.int .i64 k) (.int .i64 vk) (.bool vy) (.int .i64 vc) (.int .i64 vx) (.string vt) (.slice va vn vp) (.string s) (.slice a n cap))
  have B0 := hide ((Below.refl w.heap.size w).alloc (Nat.le_refl _) (.cells #[.int .i64 k, .int .i64 vk, .bool vy, .int .i64 vc, .int .i64 vx, .string vt, .slice va vn vp, .string s, .slice a n cap] 29))
  have CL := hide (fun wx (h : Below w.heap.size w wx) => wrongLiteral_any E T vk vy vc vx vt va vn vp wx (Mem.below (h.mono hB) hv) (Nat.le_trans hB h.size) (E.keep _ _ hG (h.mono hB)))
  have CN := hide (fun wx (h : Below w.heap.size w wx) => E.named s wx hs (Nat.le_trans hB h.size) (E.keep _ _ hG (h.mono hB)))
  have CH := hide (fun wx => hasName_any k wx)
  have CK := hide (fun wx => kidsOf_any k wx)
  have HF : Hid (∀ lit nb, nodeF lit nb k n = if k < 1 ∨ 22 < k then 1 else if k = 1 ∧ lit ≠ 0 then lit else if hasNm k = true ∧ nb = false then 7 else if (n : Int) < leastK k ∨ mostK k < (n : Int) then 5 else 0) := hide (fun _ _ => rfl)
  clear hv hG E
  generalize litF (vW T) vk vc = lit at *
  generalize nB s = nb at *
  have hn1 : hasNm k = true → k ≠ 1 := fun q => by unfold hasNm at q; simp at q; omega
  generalize hasNm k = hk at *
  generalize leastK k = lk at *
  generalize mostK k = mk at *
  by_cases h0 : k < 1 ∨ 22 < k
  · rcases Int.lt_or_le k 1 with h1 | h1
    · go_enter Tryz.func32, Tryz.ntmps32
      go_wp2
      go_ret
      exact ⟨by rw [unhide HF, if_pos h0]; rfl, unhide B0⟩
    · have h2 : 22 < k := by omega
      have h3 : ¬ k < 1 := by omega
      go_enter Tryz.func32, Tryz.ntmps32
      go_wp2
      go_ret
      exact ⟨by rw [unhide HF, if_pos h0]; rfl, unhide B0⟩
  have h1 : ¬ k < 1 := by omega
  have h2 : ¬ 22 < k := by omega
  by_cases hk1 : k = 1
  · subst hk1
    go_enter Tryz.func32, Tryz.ntmps32
    go_wp2_with fail
    refine (unhide CL _ (unhide B0)).mono ?_
    rintro e w1 ⟨rfl, hb⟩
    have X1 := hide ((unhide X0).keep hb (unhide X0).low)
    have B1 := hide (below_via (unhide B0) hb)
    clear hb X0 B0 CL CN
    by_cases hl : lit = 0
    · subst hl
      obtain ⟨c0, c1, c2, c3, c4, c5, c6, c7, c8⟩ := (unhide X1).tell
      have hkf : hk = false := by
        cases hk with
        | false => rfl
        | true => exact absurd rfl (hn1 rfl)
      subst hkf
      go_wp2_with fail
      refine (unhide CH _).mono ?_
      rintro e w2 ⟨rfl, rfl⟩
      go_wp2_with fail
      refine (unhide CK _).mono ?_
      rintro e w3 ⟨rfl, rfl⟩
      by_cases q1 : (n : Int) < lk
      · go_wp2
        go_ret
        exact ⟨by rw [unhide HF, if_neg h0, if_neg (by simp), if_neg (by simp), if_pos (.inl q1)]; rfl, unhide B1⟩
      · by_cases q2 : mk < (n : Int)
        · go_wp2
          go_ret
          exact ⟨by rw [unhide HF, if_neg h0, if_neg (by simp), if_neg (by simp), if_pos (.inr q2)]; rfl, unhide B1⟩
        · go_wp2
          go_ret
          exact ⟨by rw [unhide HF, if_neg h0, if_neg (by simp), if_neg (by simp), if_neg (by omega)]; rfl, unhide B1⟩
    · have hl' : (lit != 0) = true := by simpa using hl
      go_wp2
      go_ret
      exact ⟨by rw [unhide HF, if_neg h0, if_pos (by simp [hl])]; rfl, unhide B1⟩
  have hk1' : (k == 1) = false := by simpa using hk1
  clear CL
  cases hk with
  | false =>
    go_enter Tryz.func32, Tryz.ntmps32
    go_wp2_with fail
    refine (unhide CH _).mono ?_
    rintro e w2 ⟨rfl, rfl⟩
    go_wp2_with fail
    refine (unhide CK _).mono ?_
    rintro e w3 ⟨rfl, rfl⟩
    by_cases q1 : (n : Int) < lk
    · go_wp2
      go_ret
      exact ⟨by rw [unhide HF, if_neg h0, if_neg (fun q => hk1 q.1), if_neg (by simp), if_pos (.inl q1)]; rfl, unhide B0⟩
    · by_cases q2 : mk < (n : Int)
      · go_wp2
        go_ret
        exact ⟨by rw [unhide HF, if_neg h0, if_neg (fun q => hk1 q.1), if_neg (by simp), if_pos (.inr q2)]; rfl, unhide B0⟩
      · go_wp2
        go_ret
        exact ⟨by rw [unhide HF, if_neg h0, if_neg (fun q => hk1 q.1), if_neg (by simp), if_neg (by omega)]; rfl, unhide B0⟩
  | true =>
    go_enter Tryz.func32, Tryz.ntmps32
    go_wp2_with fail
    refine (unhide CH _).mono ?_
    rintro e w2 ⟨rfl, rfl⟩
    go_wp2_with fail
    refine (unhide CN _ (unhide B0)).mono ?_
    rintro e w3 ⟨rfl, hb⟩
    have X1 := hide ((unhide X0).keep hb (unhide X0).low)
    have B1 := hide (below_via (unhide B0) hb)
    clear hb X0 B0 CN
    cases nb with
    | false =>
      go_wp2
      go_ret
      exact ⟨by rw [unhide HF, if_neg h0, if_neg (fun q => hk1 q.1), if_pos (by simp)]; rfl, unhide B1⟩
    | true =>
      obtain ⟨c0, c1, c2, c3, c4, c5, c6, c7, c8⟩ := (unhide X1).tell
      go_wp2_with fail
      refine (unhide CK _).mono ?_
      rintro e w4 ⟨rfl, rfl⟩
      by_cases q1 : (n : Int) < lk
      · go_wp2
        go_ret
        exact ⟨by rw [unhide HF, if_neg h0, if_neg (fun q => hk1 q.1), if_neg (by simp), if_pos (.inl q1)]; rfl, unhide B1⟩
      · by_cases q2 : mk < (n : Int)
        · go_wp2
          go_ret
          exact ⟨by rw [unhide HF, if_neg h0, if_neg (fun q => hk1 q.1), if_neg (by simp), if_pos (.inr q2)]; rfl, unhide B1⟩
        · go_wp2
          go_ret
          exact ⟨by rw [unhide HF, if_neg h0, if_neg (fun q => hk1 q.1), if_neg (by simp), if_neg (by omega)]; rfl, unhide B1⟩
end Go.Proofs.YthpjejfgoohhfaaGreatDoor

/- Expressions with which nothing is wrong; how many nodes. -/
namespace Go.Proofs.YthpjejfgoohhfaaGreatDoor
open Go.RowKit

mutual
def XT.size : XT → Nat
  | .mk _ _ _ ks => 1 + sizeL ks
def sizeL : List XT → Nat
  | [] => 0
  | x :: xs => x.size + sizeL xs
end

mutual
/-- each kind has as many kids as it has -/
def XT.ok : XT → Prop
  | .mk k _ _ ks => 1 ≤ k ∧ k ≤ 22 ∧ leastK k ≤ (ks.length : Int) ∧ (ks.length : Int) ≤ mostK k ∧ okL ks
def okL : List XT → Prop
  | [] => True
  | x :: xs => x.ok ∧ okL xs
end
theorem len_sizeL : ∀ ks : List XT, ks.length ≤ sizeL ks
  | [] => Nat.zero_le _
  | .mk _ _ _ ks' :: xs => by
    have := len_sizeL xs
    rw [sizeL, XT.size, List.length_cons]
    omega
theorem okL_at : ∀ {ks : List XT} {i : Nat} {u : XT}, okL ks → ks[i]? = some u → u.ok
  | [], i, u, _, h => by simp at h
  | x :: xs, 0, u, ho, h => by
    rw [okL] at ho
    simp only [List.getElem?_cons_zero, Option.some.injEq] at h
    rw [← h]; exact ho.1
  | x :: xs, i + 1, u, ho, h => by
    rw [okL] at ho
    exact okL_at ho.2 (by simpa using h)
theorem size_at : ∀ {ks : List XT} {i : Nat} {u : XT}, ks[i]? = some u → u.size ≤ sizeL ks
  | [], i, u, h => by simp at h
  | x :: xs, 0, u, h => by
    simp only [List.getElem?_cons_zero, Option.some.injEq] at h
    rw [sizeL, ← h]; omega
  | x :: xs, i + 1, u, h => by
    have := size_at (ks := xs) (i := i) (u := u) (by simpa using h)
    rw [sizeL]; omega

theorem XMem.form {B : Nat} {w : World} {x : XT} {cs : Array Value} (h : XMem B w x cs) : ∃ (k vk : Int) (vy : Bool) (vc vx : Int) (vt : ByteArray) (va : Option Addr) (vn vp : Nat) (s : ByteArray) (a : Option Addr) (n cap : Nat), cs = #[.int .i64 k, .int .i64 vk, .bool vy, .int .i64 vc, .int .i64 vx, .string vt, .slice va vn vp, .string s, .slice a n cap] := by
  cases x with
  | mk k v s ks =>
    rw [XMem] at h
    obtain ⟨_, _, vk, vy, vc, vx, vt, va, vn, vp, a, cap, hx, _⟩ := h
    exact ⟨_, _, _, _, _, _, _, _, _, _, _, _, _, hx⟩
def Tree.kind : Tree → Int
  | .mk k _ _ _ _ _ => k
theorem dropX {α : Type} {l : List α} {m : Nat} {u : α} (hu : l[m]? = some u) : l.drop m = u :: l.drop (m + 1) := by
  have hlt := (List.getElem?_eq_some_iff.1 hu).1
  rw [List.drop_eq_getElem_cons hlt]
  congr 1
  rw [List.getElem?_eq_getElem hlt] at hu
  exact Option.some.inj hu
end Go.Proofs.YthpjejfgoohhfaaGreatDoor
