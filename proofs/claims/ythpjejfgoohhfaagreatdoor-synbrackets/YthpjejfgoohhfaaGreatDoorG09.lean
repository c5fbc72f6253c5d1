/- Walks: what is wrong with an expression. -/
import Derived.Test.YthpjejfgoohhfaaGreatDoorG08
namespace Go.Proofs.YthpjejfgoohhfaaGreatDoor
open Go.RowKit

def Tree.coef : Tree → Int
  | .mk _ _ c _ _ _ => c
theorem Mem.tell {B : Nat} {w : World} {v : Tree} {vk : Int} {vy : Bool} {vc vx : Int} {vt : ByteArray} {va : Option Addr} {vn vp : Nat} (h : Mem B w v #[.int .i64 vk, .bool vy, .int .i64 vc, .int .i64 vx, .string vt, .slice va vn vp]) : v.kind = vk ∧ v.coef = vc := by
  cases v with
  | mk k y c x t ks =>
    rw [Mem] at h
    obtain ⟨_, _, a, cap, hv, _⟩ := h
    simp only [Array.mk.injEq, List.cons.injEq, Value.int.injEq, true_and] at hv
    exact ⟨hv.1.symm, hv.2.2.1.symm⟩
def nodeX (nB : ByteArray → Bool) (vW : Tree → Int) (k : Int) (v : Tree) (s : ByteArray) (n : Nat) : Int := nodeF (litF (vW v) v.kind v.coef) (nB s) k (n : Int)
mutual
/-- what is wrong with an expression, and how many were seen -/
def xwF (nB : ByteArray → Bool) (vW : Tree → Int) : XT → Nat → Nat → Int × Nat
  | .mk k v s ks, n, d =>
    if 1000 < n + 1 ∨ 60 < d then (4, n + 1) else if nodeX nB vW k v s ks.length ≠ 0 then (nodeX nB vW k v s ks.length, n + 1)
    else xwL nB vW ks (n + 1) (d + 1)
def xwL (nB : ByteArray → Bool) (vW : Tree → Int) : List XT → Nat → Nat → Int × Nat
  | [], n, _ => (0, n)
  | x :: xs, n, d => if (xwF nB vW x n d).1 = 0 then xwL nB vW xs (xwF nB vW x n d).2 d else xwF nB vW x n d
end
section
variable {nB : ByteArray → Bool} {vW : Tree → Int}
mutual
theorem xwF_bd : ∀ (x : XT) (n d : Nat), n ≤ 1000 → (xwF nB vW x n d).2 ≤ 1001 ∧ ((xwF nB vW x n d).1 = 0 → (xwF nB vW x n d).2 ≤ 1000 ∧ x.ok ∧ (xwF nB vW x n d).2 = n + x.size)
  | .mk k v s ks, n, d, hn => by
    rw [xwF]
    by_cases h1 : 1000 < n + 1 ∨ 60 < d
    · rw [if_pos h1]; exact ⟨by simp; omega, fun h => by simp at h⟩
    rw [if_neg h1]
    by_cases h2 : nodeX nB vW k v s ks.length ≠ 0
    · rw [if_pos h2]; exact ⟨by simp; omega, fun h => absurd h h2⟩
    rw [if_neg h2]
    have hb := xwL_bd ks (n + 1) (d + 1) (by omega)
    refine ⟨hb.1, fun h => ?_⟩
    obtain ⟨q1, q2, q3⟩ := hb.2 h
    refine ⟨q1, ?_, by rw [q3, XT.size]; omega⟩
    rw [XT.ok]
    have hz : nodeX nB vW k v s ks.length = 0 := by simpa using h2
    unfold nodeX nodeF at hz
    split at hz
    · cases hz
    · split at hz
      · rename_i g; exact absurd hz g.2
      · split at hz
        · cases hz
        · split at hz
          · cases hz
          · rename_i g1 g2 g3 g4
            exact ⟨by omega, by omega, by omega, by omega, q2⟩
theorem xwL_bd : ∀ (ks : List XT) (n d : Nat), n ≤ 1000 → (xwL nB vW ks n d).2 ≤ 1001 ∧ ((xwL nB vW ks n d).1 = 0 → (xwL nB vW ks n d).2 ≤ 1000 ∧ okL ks ∧ (xwL nB vW ks n d).2 = n + sizeL ks)
  | [], n, d, hn => by rw [xwL]; exact ⟨by simp; omega, fun _ => ⟨by simp; omega, by rw [okL]; trivial, by rw [sizeL]; rfl⟩⟩
  | x :: xs, n, d, hn => by
    rw [xwL]
    have h := xwF_bd x n d hn
    by_cases h1 : (xwF nB vW x n d).1 = 0
    · rw [if_pos h1]
      obtain ⟨q1, q2, q3⟩ := h.2 h1
      have g := xwL_bd xs (xwF nB vW x n d).2 d q1
      refine ⟨g.1, fun e => ?_⟩
      obtain ⟨p1, p2, p3⟩ := g.2 e
      exact ⟨p1, by rw [okL]; exact ⟨q2, p2⟩, by rw [p3, q3, sizeL]; omega⟩
    · rw [if_neg h1]
      exact ⟨h.1, fun e => absurd e h1⟩
end
end
theorem xwL_ok {nB : ByteArray → Bool} {vW : Tree → Int} {u : XT} {us : List XT} {n d : Nat} (h : (xwF nB vW u n d).1 = 0) : xwL nB vW (u :: us) n d = xwL nB vW us (xwF nB vW u n d).2 d := by rw [xwL, if_pos h]
theorem xwL_no {nB : ByteArray → Bool} {vW : Tree → Int} {u : XT} {us : List XT} {n d : Nat} (h : ¬ (xwF nB vW u n d).1 = 0) : xwL nB vW (u :: us) n d = xwF nB vW u n d := by rw [xwL, if_neg h]
theorem St.set {w : World} {p s : Nat} (h : St w p s) : St (w.setCell ⟨p, 0, none⟩ (.int .i64 ((s : Int) + 1))) p (s + 1) := by
  obtain ⟨h1, h2, h3⟩ := h
  refine ⟨?_, ?_, by simpa [World.setCell] using h3⟩
  · simp [go_sem, h1]
  · simp [go_sem, h2]

/-- what look.wrong tells of an expression -/
def XwC (B : Nat) (Gd : World → Prop) (nB : ByteArray → Bool) (vW : Tree → Int) (x : XT) : Prop := ∀ (w : World) (cs : Array Value) (p n d : Nat) (z : Int), z = (d : Int) → XMem B w x cs → B ≤ p → St w p n → n ≤ 1000 → d ≤ 61 → Gd w →
  Calls Tryz.prog 21 #[.pointer (some ⟨p, 0, none⟩), .agg cs, .int .i64 z] w fun e w' => e = .returned (.int .i64 (xwF nB vW x n d).1) ∧ St w' p (xwF nB vW x n d).2 ∧ Below B w w'

set_option maxRecDepth 100000 in
set_option maxHeartbeats 8000000 in
theorem xw_of {B : Nat} {Gd : World → Prop} {nB : ByteArray → Bool} {vW : Tree → Int} (E : EnvX B Gd nB vW) (k : Int) (v : Tree) (s : ByteArray) (ks : List XT) (IH : ∀ u ∈ ks, XwC B Gd nB vW u) : XwC B Gd nB vW (.mk k v s ks) := by
  intro w cs p n d z hz hx hp hS hn hd hG
  subst hz
  rw [XMem] at hx
  obtain ⟨hs, hl, vk, vy, vc, vx, vt, va, vn, vp, a, cap, rfl, hv, hk⟩ := hx
  have hlp := hS.2.2
  have hBw : B ≤ w.heap.size := by omega
  obtain ⟨hvk, hvc⟩ := hv.tell
  -- the world behind the count
  obtain ⟨w1, hw1⟩ : ∃ w1, w1 = (w.setCell ⟨p, 0, none⟩ (.int .i64 ((n : Int) + 1))).alloc (.cells #[.int .i64 k, .int .i64 vk, .bool vy, .int .i64 vc, .int .i64 vx, .string vt, .slice va vn vp, .string s, .slice a ks.length cap] 29) := ⟨_, rfl⟩
  have zs : (w.setCell ⟨p, 0, none⟩ (.int .i64 ((n : Int) + 1))).heap.size = w.heap.size := by simp [World.setCell]
  have B1 : Below B w w1 := by rw [hw1]; exact ((Below.refl B w).setCell (p := ⟨p, 0, none⟩) (by show B ≤ p; omega) _).alloc (by rw [zs]; exact hBw) _
  have S1 : St w1 p (n + 1) := by rw [hw1]; exact hS.set.below ((Below.refl _ _).alloc (Nat.le_refl _) _) hS.set.2.2
  have X1 : V9 w1 w.heap.size (.int .i64 k) (.int .i64 vk) (.bool vy) (.int .i64 vc) (.int .i64 vx) (.string vt) (.slice va vn vp) (.string s) (.slice a ks.length cap) := by
    have q := V9.new (w.setCell ⟨p, 0, none⟩ (.int .i64 ((n : Int) + 1))) 29 (.int .i64 k) (.int .i64 vk) (.bool vy) (.int .i64 vc) (.int .i64 vx) (.string vt) (.slice va vn vp) (.string s) (.slice a ks.length cap)
    rw [zs, ← hw1] at q
    exact q
  have G1 := E.keep _ _ hG B1
  have CN := hide (wrongNode_any E k v vk vy vc vx vt va vn vp s a ks.length cap w1 hs hl (Mem.below B1 hv) (Nat.le_trans hBw B1.size) G1)
  rw [show nodeF (litF (vW v) vk vc) (nB s) k (ks.length : Int) = nodeX nB vW k v s ks.length by unfold nodeX; rw [hvk, hvc]] at CN
  have HF : Hid (xwF nB vW (.mk k v s ks) n d = if 1000 < n + 1 ∨ 60 < d then (4, n + 1) else if nodeX nB vW k v s ks.length ≠ 0 then (nodeX nB vW k v s ks.length, n + 1) else xwL nB vW ks (n + 1) (d + 1)) := hide (by rw [xwF])
  generalize xwF nB vW (.mk k v s ks) n d = R at *
  generalize nodeX nB vW k v s ks.length = nx at *
  have s1 := hS.1
  have s2 := hS.2.1
  have hne : ¬ p = w.heap.size := by omega
  have hnI : (n : Int) ≤ 1000 := by omega
  have HS1 := hide S1
  have HX1 := hide X1
  have HB1 := hide B1
  have HK := hide hk
  have HI := hide IH
  have HGd := hide (fun wx hb => E.keep w wx hG hb)
  have HG1 := hide G1
  clear B1 S1 X1 G1 hv hvk hvc hk IH E hG hS zs
  go_enter Tryz.func21, Tryz.ntmps21
  go_upto_region 2 with fail
  rw [← hw1]
  clear hw1 s1 s2
  have m1 : w1.cell? ⟨p, 0, none⟩ = some (.int .i64 ((n : Int) + 1)) := by have := (unhide HS1).1; simpa using this
  by_cases h1 : 1000 < n + 1 ∨ 60 < d
  · rw [if_pos h1] at HF
    by_cases h2 : 1000 < n + 1
    · have h2' : (1000 : Int) < (n : Int) + 1 := by omega
      clear CN h1
      go_wp2
      go_ret
      exact ⟨by rw [unhide HF]; rfl, by rw [unhide HF]; exact unhide HS1, unhide HB1⟩
    · have h2' : ¬ (1000 : Int) < (n : Int) + 1 := by omega
      have h3' : (60 : Int) < (d : Int) := by omega
      clear CN h1
      go_wp2
      go_ret
      exact ⟨by rw [unhide HF]; rfl, by rw [unhide HF]; exact unhide HS1, unhide HB1⟩
  · rw [if_neg h1] at HF
    have h2' : ¬ (1000 : Int) < (n : Int) + 1 := by omega
    have h3' : ¬ (60 : Int) < (d : Int) := by omega
    obtain ⟨u0, u1, u2, u3, u4, u5, u6, u7, u8⟩ := (unhide HX1).tell
    go_wp2_with fail
    with_reducible refine (unhide CN).mono ?_
    rintro e w2 ⟨rfl, hb2⟩
    have HB2 := hide ((unhide HB1).trans (hb2.mono (by have := (unhide HB1).size; omega)))
    have HS2 := hide ((unhide HS1).below hb2 (unhide HS1).2.2)
    have c8 := ((unhide HX1).keep hb2 (unhide HX1).low).tell.2.2.2.2.2.2.2.2
    clear hb2 CN u0 u1 u2 u3 u4 u5 u6 u7 u8 HX1 HS1 HB1 m1 HG1
    by_cases hr : nx = 0
    · subst hr
      rw [if_neg (by simp)] at HF
      have hlen : ks.length ≤ 9223372036854775807 := hl
      go_wp2
      go_loopw [35] (fun i wr => ∃ m si : Nat, m ≤ ks.length ∧ i = .int .i64 (m : Int) ∧ Hid (R = xwL nB vW (ks.drop m) si (d + 1)) ∧ si ≤ 1000 ∧ Hid (St wr p si) ∧ Hid (Below B w wr)) (fun i _ => ks.length - (intOf i).toNat)
      case atStart => exact ⟨0, n + 1, Nat.zero_le _, rfl, HF, by omega, HS2, HB2⟩
      case round =>
        obtain ⟨m, si, hml, rfl, H, hsi, HS, HB⟩ := hrel
        clear HS2 HB2 c8 HF
        by_cases hlt2 : m < ks.length
        · have hi1 : (m : Int) < (ks.length : Int) := by omega
          obtain ⟨u, hu⟩ : ∃ u, ks[m]? = some u := ⟨_, List.getElem?_eq_getElem hlt2⟩
          obtain ⟨b, off, rfl, hlB, hml2⟩ := unhide HK (by intro e; subst e; simp at hlt2)
          obtain ⟨cs, h9, hmu⟩ := XMemL.at (XMemL.below (unhide HB) hlB hml2) m u hu
          obtain ⟨xk, yvk, yvy, yvc, yvx, yvt, yva, yvn, yvp, xs, xa, xn, xp, rfl⟩ := hmu.form
          obtain ⟨q0, q1, q2, q3, q4, q5, q6, q7, q8, hcs, c0, c1, c2, c3, c4, c5, c6, c7, c8⟩ := h9
          simp only [Array.mk.injEq, List.cons.injEq, and_true] at hcs
          obtain ⟨rfl, rfl, rfl, rfl, rfl, rfl, rfl, rfl, rfl⟩ := hcs
          rw [dropX hu] at H
          have hbB : B ≤ wr.heap.size := Nat.le_trans hBw (unhide HB).size
          have hba := (Below.refl B wr).alloc hbB (.cells #[.int .i64 xk, .int .i64 yvk, .bool yvy, .int .i64 yvc, .int .i64 yvx, .string yvt, .slice yva yvn yvp, .string xs, .slice xa xn xp] 29)
          have hbw := (unhide HB).trans hba
          have C := hide (unhide HI u (List.mem_of_getElem? hu) _ _ p si (d + 1) ((d : Int) + 1) (by omega) (XMem.below hba hmu) hp ((unhide HS).below ((Below.refl _ _).alloc (Nat.le_refl _) _) (unhide HS).2.2) hsi (by omega) (unhide HGd _ hbw))
          have hbd := hide (xwF_bd (nB := nB) (vW := vW) u si (d + 1) hsi)
          have HNO := hide (fun h => (unhide H).trans (xwL_no (us := ks.drop (m + 1)) h))
          have HYES := hide (fun h => (unhide H).trans (xwL_ok (us := ks.drop (m + 1)) h))
          generalize xwF nB vW u si (d + 1) = r at *
          obtain ⟨r1, r2⟩ := r
          simp only at C hbd HNO HYES
          have hzz : (d : Int) ≤ 61 := by omega
          have HBW := hide hbw
          clear hu hmu hml2 H hba hbw
          go_wp2_with fail
          with_reducible refine (unhide C).mono ?_
          rintro e w3 ⟨rfl, hS3, hb3⟩
          have HB3 := hide ((unhide HBW).trans hb3)
          have HS3 := hide hS3
          clear hS3 hb3 HB HS HBW C c0 c1 c2 c3 c4 c5 c6 c7 c8
          by_cases hr : r1 = 0
          · subst hr
            have E2 := hide (unhide HYES rfl)
            have hle := ((unhide hbd).2 rfl).1
            clear HNO HYES hbd
            go_wp2
            go_roundw
            case rel => exact ⟨m + 1, r2, by omega, by go_num, E2, hle, HS3, HB3⟩
            case measure => simp [intOf]; omega
          · have E2 := hide (unhide HNO hr)
            have hr' : (r1 != 0) = true := by simpa using hr
            clear HNO HYES hbd hr
            go_wp2
            go_ret
            exact ⟨by rw [unhide E2]; rfl, by rw [unhide E2]; exact unhide HS3, unhide HB3⟩
        · obtain rfl : m = ks.length := by omega
          have E2 : Hid (R = (0, si)) := hide ((unhide H).trans (by rw [List.drop_length, xwL]))
          clear H HK HI
          go_wp2
          go_ret
          exact ⟨by rw [unhide E2]; rfl, by rw [unhide E2]; exact unhide HS, unhide HB⟩
    · rw [if_pos hr] at HF
      have hr' : (nx != 0) = true := by simpa using hr
      clear hr
      go_wp2
      go_ret
      exact ⟨by rw [unhide HF]; rfl, by rw [unhide HF]; exact unhide HS2, unhide HB2⟩
mutual
theorem xw_all {B : Nat} {Gd : World → Prop} {nB : ByteArray → Bool} {vW : Tree → Int} (E : EnvX B Gd nB vW) : ∀ x : XT, XwC B Gd nB vW x
  | .mk k v s ks => xw_of E k v s ks (fun u h => xw_alls E ks u h)
theorem xw_alls {B : Nat} {Gd : World → Prop} {nB : ByteArray → Bool} {vW : Tree → Int} (E : EnvX B Gd nB vW) : ∀ (ks : List XT) (u : XT), u ∈ ks → XwC B Gd nB vW u
  | [], u, h => by cases h
  | v :: vs, u, h => by
    by_cases e : u = v
    · rw [e]; exact xw_all E v
    · exact xw_alls E vs u ((List.mem_cons.1 h).resolve_left e)
end

set_option maxHeartbeats 2000000 in
theorem synWrong_any {B : Nat} {Gd : World → Prop} {nB : ByteArray → Bool} {vW : Tree → Int} (E : EnvX B Gd nB vW) (x : XT) (cs : Array Value) (w : World) (hx : XMem B w x cs) (hB : B ≤ w.heap.size) (hG : Gd w) :
    Calls Tryz.prog 10 #[.agg cs] w fun e w' => e = .returned (.int .i64 (xwF nB vW x 0 1).1) ∧ Below B w w' := by
  obtain ⟨k, vk, vy, vc, vx, vt, va, vn, vp, s, a, n, cap, rfl⟩ := hx.form
  have hb : Below B w ((w.alloc (.cells #[.int .i64 k, .int .i64 vk, .bool vy, .int .i64 vc, .int .i64 vx, .string vt, .slice va vn vp, .string s, .slice a n cap] 29)).alloc (.cells #[.int .i64 0] 76)) := ((Below.refl B w).alloc hB _).alloc (by simp; omega) _
  have C := hide (xw_all E x _ _ (w.heap.size + 1) 0 1 1 rfl (XMem.below hb hx) (by omega) ⟨by simp [go_sem], by simp [go_sem], by simp⟩ (by omega) (by omega) (E.keep _ _ hG hb))
  have HB := hide hb
  clear hb hx E hG
  go_enter Tryz.func10, Tryz.ntmps10
  go_wp2_with fail
  with_reducible refine (unhide C).mono ?_
  rintro e w1 ⟨rfl, _, hb1⟩
  have HB1 := hide ((unhide HB).trans hb1)
  clear hb1 C HB
  go_wp2
  go_ret
  exact ⟨rfl, unhide HB1⟩
end Go.Proofs.YthpjejfgoohhfaaGreatDoor
