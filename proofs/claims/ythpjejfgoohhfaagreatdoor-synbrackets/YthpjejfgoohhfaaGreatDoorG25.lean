/- A walk over tokens: at the end, stuck, needed, passed; what the reader of expressions holds. -/
import Derived.Test.YthpjejfgoohhfaaGreatDoorG21
import Derived.Test.YthpjejfgoohhfaaGreatDoorG06
import Derived.Test.YthpjejfgoohhfaaGreatDoorG14
import Derived.BigRegion
import Derived.Test.YthpjejfgoohhfaaGreatDoorG09
namespace Go.Proofs.YthpjejfgoohhfaaGreatDoor
open Go.RowKit Go.MapKept

theorem seesL_one (l : List Tk) (i : Nat) (s : ByteArray) : seesL l i [s] = seesT l i s.data.toList := by
  rw [seesL, seesL, Bool.and_true]; rfl
theorem seesT_lt {l : List Tk} {i : Nat} {s : List UInt8} (h : seesT l i s = true) : i < l.length := by
  unfold seesT at h
  rcases Nat.lt_or_ge i l.length with q | q
  · exact q
  · rw [List.getElem?_eq_none q] at h; cases h
abbrev endV (e : Int) : Array Value := #[.int .i64 0, .string ⟨#[]⟩, .int .i64 0, .int .i64 0, .int .i64 e]

set_option maxHeartbeats 2000000 in
theorem next_end (R g n : Nat) (e : Int) (w : World) (h : WK w R g n n e) :
    Calls Tryz.prog 74 #[.pointer (some ⟨R, 0, none⟩)] w fun r w' => r = .returned (.agg (endV e)) ∧ Below w.heap.size w w' := by
  obtain ⟨q, c, h1, _, _⟩ := h.left
  rw [Nat.sub_self] at h1
  have h2 := h.fin
  have lR := h.low
  clear h
  go_enter Tryz.func74, Tryz.ntmps74
  go_wp2
  exact bodyPost_ret (v := .agg (endV e)) (by simp [results, Tryz.results74, go_sem]) rfl ⟨rfl, vbelow_new _ _⟩

/-- the next token, or none -/
def nextV (l : List Tk) (i : Nat) (e : Int) : Array Value := match l[i]? with
  | some t => tokV t
  | none => endV e
theorem nextV_form (l : List Tk) (i : Nat) (e : Int) : ∃ (k : Int) (t : ByteArray) (c x a : Int), nextV l i e = #[.int .i64 k, .string t, .int .i64 c, .int .i64 x, .int .i64 a] := by
  unfold nextV
  split
  · exact ⟨_, _, _, _, _, rfl⟩
  · exact ⟨_, _, _, _, _, rfl⟩
theorem nextTok_any (R g i : Nat) (e : Int) (l : List Tk) (w : World) (h : WK w R g l.length i e) (hT : TKS w g l) :
    Calls Tryz.prog 74 #[.pointer (some ⟨R, 0, none⟩)] w fun r w' => r = .returned (.agg (nextV l i e)) ∧ Below w.heap.size w w' := by
  unfold nextV
  cases ht : l[i]? with
  | some t => exact next_any R g i e l t w h hT ht
  | none =>
    have hi : i = l.length := by
      have := h.le
      have := List.getElem?_eq_none_iff.1 ht
      omega
    subst hi
    exact next_end R g l.length e w h

/-- an error of reading -/
def UV (c : Int) (v : Value) : Prop := ∃ at' : Int, v = .iface 70 (.agg #[.int .i64 c, .int .i64 at'])

theorem fieldAt (k v1 v2 v3 v4 : Value) (w : World) : Sem.run Tryz.prog (Instr.field 111 (.agg #[k, v1, v2, v3, v4]) 3) w = .ok v4 w := by
  simp [Instr.field, asAgg, go_sem]
theorem conUnread : Tryz.prog.concrete 70 = true := by kernel_rfl

set_option maxRecDepth 100000 in
set_option maxHeartbeats 2000000 in
theorem stuck_any (R g i : Nat) (e c : Int) (l : List Tk) (w : World) (h : WK w R g l.length i e) (hT : TKS w g l) :
    Calls Tryz.prog 48 #[.pointer (some ⟨R, 0, none⟩), .int .i64 c] w fun r w' => (∃ v, r = .returned v ∧ UV c v) ∧ Below w.heap.size w w' := by
  have C := hide (nextTok_any R g i e l w h hT)
  obtain ⟨k, t, cc, x, a, hv⟩ := nextV_form l i e
  rw [hv] at C
  have hcon := conUnread
  have hfl := fieldAt
  clear h hT hv
  go_enter Tryz.func48, Tryz.ntmps48
  go_wp2_with fail
  refine (unhide C).mono ?_
  rintro r w1 ⟨rfl, hb⟩
  have HB := hide hb
  clear hb C
  go_wp2
  go_ret
  exact ⟨⟨_, rfl, a, rfl⟩, unhide HB⟩

set_option maxHeartbeats 4000000 in
theorem need_no (R g i : Nat) (e : Int) (l : List Tk) (s : ByteArray) (w : World) (h : WK w R g l.length i e) (hT : TKS w g l) (hg : g ≠ R) (hl : l.length ≤ 4000) (hs : seesL l i [s] = false) :
    Calls Tryz.prog 69 #[.pointer (some ⟨R, 0, none⟩), .string s] w fun r w' => (∃ v, r = .returned v ∧ UV 2 v) ∧ WK w' R g l.length i e ∧ Bt R w w' := by
  have C := hide (fun (wx : World) (hb : Below w.heap.size w wx) (p : Nat) (hp : TXB wx p [s]) => take_any R g i e l [s] p wx (h.keep hb h.low) (hT.keep hb hT.low) hp (by simp) hl)
  rw [hs] at C
  have HT := hide hT
  have lR := h.low
  clear h hT hs
  go_enter Tryz.func69, Tryz.ntmps69
  go_wp2_with fail
  refine (unhide C _ (vbelow_new w _) w.heap.size (TXB.one w _ s)).mono ?_
  rintro r w1 ⟨rfl, hk, hb⟩
  rw [if_neg (by simp)] at hk
  have hb1 := (Bt.of (R := R) (vbelow_new w (.cells #[.string s] 9))).trans hb
  have ST := hide (stuck_any R g i e 2 l w1 hk ((unhide HT).but hb1.but hg))
  have HK := hide hk
  have HB := hide hb1
  clear hb hk C hb1
  go_wp2_with fail
  refine (unhide ST).mono ?_
  rintro r w2 ⟨⟨v, rfl, hu⟩, hb2⟩
  have HK2 := hide ((unhide HK).keep hb2 (unhide HK).low)
  have HB2 := hide ((unhide HB).trans (Bt.of hb2))
  have HU := hide hu
  clear hb2 hu HK HB ST
  go_wp2
  go_ret
  exact ⟨⟨_, rfl, unhide HU⟩, unhide HK2, unhide HB2⟩

set_option maxHeartbeats 2000000 in
theorem end_no (R g i : Nat) (e : Int) (l : List Tk) (w : World) (h : WK w R g l.length i e) (hT : TKS w g l) (hi : i < l.length) :
    Calls Tryz.prog 27 #[.pointer (some ⟨R, 0, none⟩)] w fun r w' => (∃ v, r = .returned v ∧ UV 2 v) ∧ Below w.heap.size w w' := by
  have ST := hide (stuck_any R g i e 2 l w h hT)
  obtain ⟨q, c, h1, _, _⟩ := h.left
  have hp : (0 : Int) < ((l.length - i : Nat) : Int) := by omega
  clear h hT
  go_enter Tryz.func27, Tryz.ntmps27
  go_wp2_with fail
  refine (unhide ST).mono ?_
  rintro r w2 ⟨⟨v, rfl, hu⟩, hb2⟩
  have HB2 := hide hb2
  have HU := hide hu
  clear hb2 hu ST
  go_wp2
  go_ret
  exact ⟨⟨_, rfl, unhide HU⟩, unhide HB2⟩

set_option maxHeartbeats 4000000 in
theorem pass_any (R g i : Nat) (e : Int) (l : List Tk) (w : World) (h : WK w R g l.length i e) (hi : i < l.length) :
    Calls Tryz.prog 73 #[.pointer (some ⟨R, 0, none⟩)] w fun r w' => r = .returned (.tuple #[]) ∧ WK w' R g l.length (i + 1) e ∧ Bt R w w' := by
  obtain ⟨q, c, h1, h2, h3⟩ := h.left
  have hz := h.free
  have lR := h.low
  obtain rfl := h2 hi
  have hm : min (1 : Int) ((l.length - i : Nat) : Int) = 1 := by omega
  have hc : 1 ≤ c := by omega
  have hc2 : 1 ≤ l.length - i := by omega
  go_enter Tryz.func73, Tryz.ntmps73
  go_wp2_with fail
  go_region
  have e1 : l.length - i - 1 = l.length - (i + 1) := by omega
  rw [e1]
  have HK := hide (h.set (j := i + 1) (by omega) (p := if c = 1 then some ⟨g, i * 5, none⟩ else some ⟨g, i * 5 + 5, none⟩) (c := c - 1) (fun hj => by rw [if_neg (by omega), Nat.add_mul]) (by omega))
  have HB := hide ((Bt.set (R := R) (w := w) (v := .slice (if c = 1 then some ⟨g, i * 5, none⟩ else some ⟨g, i * 5 + 5, none⟩) (l.length - (i + 1)) (c - 1))).trans (Bt.of (Below.refl _ _).drew))
  go_end0
  exact ⟨rfl, (unhide HK).keep (Below.refl _ _).drew (unhide HK).low, unhide HB⟩

theorem take_lit (R g i : Nat) (e : Int) (l : List Tk) (s : ByteArray) (P : Nat) (W : World) (hP : W.heap.size = P) (h : WK W R g l.length i e) (hT : TKS W g l) (hl : l.length ≤ 4000) :
    Calls Tryz.prog 45 #[.pointer (some ⟨R, 0, none⟩), .slice (some ⟨P, 0, none⟩) 1 1] (W.alloc (.cells #[.string s] 9)) fun r w' => r = .returned (.bool (seesT l i s.data.toList)) ∧ WK w' R g l.length (if seesT l i s.data.toList = true then i + 1 else i) e ∧ Bt R W w' := by
  subst hP
  rw [← seesL_one]
  exact (take_any R g i e l [s] W.heap.size _ (h.keep (vbelow_new _ _) h.low) (hT.keep (vbelow_new _ _) hT.low) (TXB.one W _ s) (by simp) hl).mono fun _ _ q => ⟨q.1, q.2.1, (Bt.of (vbelow_new _ _)).trans q.2.2⟩

theorem sees_lit (R g i : Nat) (e : Int) (l : List Tk) (s : ByteArray) (P : Nat) (W : World) (hP : W.heap.size = P) (h : WK W R g l.length i e) (hT : TKS W g l) (hl : l.length ≤ 4000) :
    Calls Tryz.prog 43 #[.pointer (some ⟨R, 0, none⟩), .slice (some ⟨P, 0, none⟩) 1 1] (W.alloc (.cells #[.string s] 9)) fun r w' => r = .returned (.bool (seesT l i s.data.toList)) ∧ Below W.heap.size W w' := by
  subst hP
  rw [← seesL_one]
  exact (sees_any R g i e l [s] W.heap.size _ (h.keep (vbelow_new _ _) h.low) (hT.keep (vbelow_new _ _) hT.low) (TXB.one W _ s) (by simp) hl).mono fun _ _ q => ⟨q.1, below_via (vbelow_new _ _) q.2⟩

/-- the signs as a map tells them -/
def sgnV (s : ByteArray) : Option Value := (sgnF s.data.toList).map fun q => .agg #[.string s, .int .i64 q.1, .int .i64 q.2]
/-- the reader of expressions at block R: the tokens from the i-th one on are left, o are open -/
structure RD (w : World) (R g m : Nat) (l : List Tk) (e : Int) (o i : Nat) : Prop where
  wk : WK w R g l.length i e
  tk : TKS w g l
  gne : g ≠ R
  mne : m ≠ R
  opn : w.cell? ⟨R, 2, none⟩ = some (.int .i64 (o : Int))
  fr : w.frozen? ⟨R, 2, none⟩ = false
  sg : w.cell? ⟨R, 3, none⟩ = some (.map (some m))
  mp : MapF m sgnV w
  len : l.length ≤ 4000
  tb : ∃ B, B ≤ R ∧ TabsIn B w
  tx : ∀ t ∈ l, t.t.length ≤ 9223372036854775807
theorem RD.low {w : World} {R g m : Nat} {l : List Tk} {e : Int} {o i : Nat} (h : RD w R g m l e o i) : R < w.heap.size := h.wk.low
theorem RD.keep {w w' : World} {R g m : Nat} {l : List Tk} {e : Int} {o i : Nat} (h : RD w R g m l e o i) (hb : Below w.heap.size w w') : RD w' R g m l e o i :=
  ⟨h.wk.keep hb h.low, h.tk.keep hb h.tk.low, h.gne, h.mne, (hb.cell (p := ⟨R, 2, none⟩) h.low).trans h.opn, (hb.frozen (p := ⟨R, 2, none⟩) h.low).trans h.fr, (hb.cell (p := ⟨R, 3, none⟩) h.low).trans h.sg, h.mp.keep hb, h.len, by obtain ⟨B, q, t⟩ := h.tb; exact ⟨B, q, t.below (hb.mono (Nat.le_of_lt (Nat.lt_of_le_of_lt q h.low)))⟩, h.tx⟩
theorem RD.at {w w' : World} {R g m : Nat} {l : List Tk} {e : Int} {o i j : Nat} (h : RD w R g m l e o i) (hb : Bt R w w') (hk : WK w' R g l.length j e) : RD w' R g m l e o j :=
  ⟨hk, h.tk.but hb.but h.gne, h.gne, h.mne, (hb.cell 2 (by decide) h.low).trans h.opn, (hb.frozen 2 h.low).trans h.fr, (hb.cell 3 (by decide) h.low).trans h.sg, h.mp.but hb.but h.mne, h.len, by obtain ⟨B, q, t⟩ := h.tb; exact ⟨B, q, t.below (hb.but.below q (Nat.le_of_lt (Nat.lt_of_le_of_lt q h.low)))⟩, h.tx⟩
theorem RD.open {w : World} {R g m : Nat} {l : List Tk} {e : Int} {o i : Nat} (h : RD w R g m l e o i) (p : Nat) : RD (w.setCell ⟨R, 2, none⟩ (.int .i64 (p : Int))) R g m l e p i := by
  have hb : But R w (w.setCell ⟨R, 2, none⟩ (.int .i64 (p : Int))) := But.set
  obtain ⟨q, c, h1, h2, h3⟩ := h.wk.left
  have hf := h.wk.fin
  have hz := h.wk.free
  have ho := h.opn
  have hs := h.sg
  have hr := h.fr
  refine ⟨⟨by simpa using h.low, h.wk.le, ⟨q, c, ?_, h2, h3⟩, ?_, ?_⟩, h.tk.but hb h.gne, h.gne, h.mne, ?_, ?_, ?_, h.mp.but hb h.mne, h.len, by obtain ⟨B, q, t⟩ := h.tb; exact ⟨B, q, t.below (hb.below q (Nat.le_of_lt (Nat.lt_of_le_of_lt q h.low)))⟩, h.tx⟩
  · simp [go_sem, h1]
  · simp [go_sem, hf]
  · simp [go_sem, hz]
  · simp [go_sem, ho]
  · simp [go_sem, hr]
  · simp [go_sem, hs]
end Go.Proofs.YthpjejfgoohhfaaGreatDoor

/- What was read, in memory: a tree of new blocks; what each reader promises. -/
namespace Go.Proofs.YthpjejfgoohhfaaGreatDoor
open Go.RowKit Go.MapKept

mutual
/-- an expression that was read: all its blocks are P -/
def XB (P : Nat → Prop) (w : World) : XT → Array Value → Prop
  | .mk k v s ks, x => s.size ≤ 9223372036854775807 ∧ ks.length ≤ 9223372036854775807 ∧
    ∃ (vk : Int) (vy : Bool) (vc vx : Int) (vt : ByteArray) (a : Option Addr) (cap : Nat),
      x = #[.int .i64 k, .int .i64 vk, .bool vy, .int .i64 vc, .int .i64 vx, .string vt, .slice none 0 0, .string s, .slice a ks.length cap] ∧ v = .mk vk vy vc vx vt [] ∧ vt.size ≤ 9223372036854775807 ∧
      (ks ≠ [] → ∃ b off, a = some ⟨b, off, none⟩ ∧ b < w.heap.size ∧ P b ∧ XBL P w ks b off)
def XBL (P : Nat → Prop) (w : World) : List XT → Nat → Nat → Prop
  | [], _, _ => True
  | u :: us, b, off => (∃ cs, Nine w b off cs ∧ XB P w u cs) ∧ XBL P w us b (off + 9)
end
mutual
/-- blocks that are P stay -/
theorem XB.stay {P : Nat → Prop} {w w' : World} (hz : w.heap.size ≤ w'.heap.size) (hP : ∀ b, b < w.heap.size → P b → w'.heap[b]? = w.heap[b]?) : ∀ {X : XT} {x : Array Value}, XB P w X x → XB P w' X x
  | .mk k v s ks, x, h => by
    rw [XB] at h ⊢
    obtain ⟨h1, h2, vk, vy, vc, vx, vt, a, cap, hx, hv, ht, hk⟩ := h
    refine ⟨h1, h2, vk, vy, vc, vx, vt, a, cap, hx, hv, ht, fun hne => ?_⟩
    obtain ⟨b, off, ha, hlt, hp, hm⟩ := hk hne
    exact ⟨b, off, ha, Nat.lt_of_lt_of_le hlt hz, hp, XBL.stay hz hP hlt hp hm⟩
theorem XBL.stay {P : Nat → Prop} {w w' : World} (hz : w.heap.size ≤ w'.heap.size) (hP : ∀ b, b < w.heap.size → P b → w'.heap[b]? = w.heap[b]?) : ∀ {ks : List XT} {b off : Nat}, b < w.heap.size → P b → XBL P w ks b off → XBL P w' ks b off
  | [], _, _, _, _, _ => by rw [XBL]; trivial
  | u :: us, b, off, hlt, hp, h => by
    rw [XBL] at h ⊢
    obtain ⟨⟨cs, h6, hm⟩, hr⟩ := h
    have c : ∀ o, w'.cell? ⟨b, o, none⟩ = w.cell? ⟨b, o, none⟩ := fun o => World.cell?_of_block (w := w) (a := ⟨b, o, none⟩) (hP b hlt hp)
    refine ⟨⟨cs, ?_, XB.stay hz hP hm⟩, XBL.stay hz hP hlt hp hr⟩
    obtain ⟨u0, u1, u2, u3, u4, u5, u6, u7, u8, hu, q0, q1, q2, q3, q4, q5, q6, q7, q8⟩ := h6
    exact ⟨u0, u1, u2, u3, u4, u5, u6, u7, u8, hu, by rw [c, q0], by rw [c, q1], by rw [c, q2], by rw [c, q3], by rw [c, q4], by rw [c, q5], by rw [c, q6], by rw [c, q7], by rw [c, q8]⟩
end
mutual
theorem XB.mono {P Q : Nat → Prop} {w : World} (h : ∀ b, b < w.heap.size → P b → Q b) : ∀ {X : XT} {x : Array Value}, XB P w X x → XB Q w X x
  | .mk k v s ks, x, g => by
    rw [XB] at g ⊢
    obtain ⟨h1, h2, vk, vy, vc, vx, vt, a, cap, hx, hv, ht, hk⟩ := g
    refine ⟨h1, h2, vk, vy, vc, vx, vt, a, cap, hx, hv, ht, fun hne => ?_⟩
    obtain ⟨b, off, ha, hlt, hp, hm⟩ := hk hne
    exact ⟨b, off, ha, hlt, h b hlt hp, XBL.mono h hm⟩
theorem XBL.mono {P Q : Nat → Prop} {w : World} (h : ∀ b, b < w.heap.size → P b → Q b) : ∀ {ks : List XT} {b off : Nat}, XBL P w ks b off → XBL Q w ks b off
  | [], _, _, _ => by rw [XBL]; trivial
  | u :: us, b, off, g => by
    rw [XBL] at g ⊢
    obtain ⟨⟨cs, h6, hm⟩, hr⟩ := g
    exact ⟨⟨cs, h6, XB.mono h hm⟩, XBL.mono h hr⟩
end
mutual
theorem XB.mem {P : Nat → Prop} {w : World} : ∀ {X : XT} {x : Array Value}, XB P w X x → XMem w.heap.size w X x
  | .mk k v s ks, x, h => by
    rw [XB] at h
    rw [XMem]
    obtain ⟨h1, h2, vk, vy, vc, vx, vt, a, cap, hx, rfl, ht, hk⟩ := h
    refine ⟨h1, h2, vk, vy, vc, vx, vt, none, 0, 0, a, cap, hx, ?_, fun hne => ?_⟩
    · rw [Mem]
      exact ⟨ht, by simp, none, 0, rfl, fun q => absurd rfl q⟩
    · obtain ⟨b, off, ha, hlt, _, hm⟩ := hk hne
      exact ⟨b, off, ha, hlt, XBL.mem hm⟩
theorem XBL.mem {P : Nat → Prop} {w : World} : ∀ {ks : List XT} {b off : Nat}, XBL P w ks b off → XMemL w.heap.size w ks b off
  | [], _, _, _ => by rw [XMemL]; trivial
  | u :: us, b, off, h => by
    rw [XBL] at h
    rw [XMemL]
    obtain ⟨⟨cs, h6, hm⟩, hr⟩ := h
    exact ⟨⟨cs, h6, XB.mem hm⟩, XBL.mem hr⟩
end
/-- nine cells of an expression -/
def X9 (x : Array Value) : Prop := ∃ (k vk : Int) (vy : Bool) (vc vx : Int) (vt : ByteArray) (va : Option Addr) (vn vp : Nat) (s : ByteArray) (a : Option Addr) (n cap : Nat), x = #[.int .i64 k, .int .i64 vk, .bool vy, .int .i64 vc, .int .i64 vx, .string vt, .slice va vn vp, .string s, .slice a n cap]
theorem XB.form {P : Nat → Prop} {w : World} {X : XT} {x : Array Value} (h : XB P w X x) : X9 x := h.mem.form
theorem XB.but {lo R : Nat} {w w' : World} {X : XT} {x : Array Value} (h : XB (lo ≤ ·) w X x) (hb : But R w w') (hR : R < lo) : XB (lo ≤ ·) w' X x :=
  h.stay hb.size fun b hb' hp => hb.block b hb' (by omega)
theorem XB.keep {P : Nat → Prop} {w w' : World} {X : XT} {x : Array Value} (h : XB P w X x) (hb : Below w.heap.size w w') : XB P w' X x :=
  h.stay hb.size fun b hb' _ => hb.block b hb'
theorem XB.leaf {P : Nat → Prop} {w : World} {k vk : Int} {vy : Bool} {vc vx : Int} {vt s : ByteArray} (hs : s.size ≤ 9223372036854775807) (ht : vt.size ≤ 9223372036854775807) : XB P w (.mk k (.mk vk vy vc vx vt []) s []) #[.int .i64 k, .int .i64 vk, .bool vy, .int .i64 vc, .int .i64 vx, .string vt, .slice none 0 0, .string s, .slice none 0 0] := by
  rw [XB]
  exact ⟨hs, by simp, vk, vy, vc, vx, vt, none, 0, rfl, rfl, ht, fun h => absurd rfl h⟩

/-- what a reader of an expression promises, at a place where that comes of the tokens -/
def PostX (R g m : Nat) (l : List Tk) (e : Int) (o i : Nat) (r : PR) (w : World) (en : Ending) (w' : World) : Prop :=
  But R w w' ∧ ∃ cs err j, en = .returned (.tuple #[.agg cs, err]) ∧ X9 cs ∧ RD w' R g m l e o j ∧ i ≤ j ∧ (if r.1 = 0 then err = .nilIface ∧ j = r.2.2 ∧ XB (w.heap.size ≤ ·) w' r.2.1 cs else UV r.1 err)
/-- and one of some expressions -/
def PostL (R g m : Nat) (l : List Tk) (e : Int) (o i : Nat) (r : PL) (w : World) (en : Ending) (w' : World) : Prop :=
  But R w w' ∧ ∃ a n cap err j, en = .returned (.tuple #[.slice a n cap, err]) ∧ RD w' R g m l e o j ∧ i ≤ j ∧ (if r.1 = 0 then err = .nilIface ∧ j = r.2.2 ∧ n = r.2.1.length ∧ n ≤ 1000 ∧ (r.2.1 ≠ [] → ∃ b, a = some ⟨b, 0, none⟩ ∧ w.heap.size ≤ b ∧ b < w'.heap.size ∧ XBL (w.heap.size ≤ ·) w' r.2.1 b 0) else UV r.1 err)
end Go.Proofs.YthpjejfgoohhfaaGreatDoor

/- Walks: what a token means by itself; names; the sign that comes next; literals. -/
namespace Go.Proofs.YthpjejfgoohhfaaGreatDoor
open Go.RowKit Go.MapKept

def meantT (k : Int) (t : ByteArray) (c x : Int) : Option Tree :=
  if k = 2 then some (.mk 3 false c x ⟨#[]⟩ [])
  else if k = 3 then some (.mk 4 false 0 0 t [])
  else if k = 1 then
    if t.toList = [110, 117, 108, 108] then some (.mk 1 false 0 0 ⟨#[]⟩ [])
    else if t.toList = [116, 114, 117, 101] then some (.mk 2 true 0 0 ⟨#[]⟩ [])
    else if t.toList = [102, 97, 108, 115, 101] then some (.mk 2 false 0 0 ⟨#[]⟩ [])
    else none
  else none
theorem meantT_tok (t : Tk) : meantT t.k ⟨t.t.toArray⟩ t.c t.x = meantF t := by
  unfold meantT meantF
  rw [Lib.toList_data]
theorem meantT_end : meantT 0 ⟨#[]⟩ 0 0 = none := by unfold meantT; rw [if_neg (by decide), if_neg (by decide), if_neg (by decide)]
/-- a value's cells, no list -/
def valA : Option Tree → Array Value
  | some (.mk k y c x t _) => #[.int .i64 k, .bool y, .int .i64 c, .int .i64 x, .string t, .slice none 0 0]
  | none => #[.int .i64 0, .bool false, .int .i64 0, .int .i64 0, .string ⟨#[]⟩, .slice none 0 0]

set_option maxHeartbeats 4000000 in
theorem meant_any (k c x a : Int) (t : ByteArray) (w : World) :
    Calls Tryz.prog 107 #[.agg #[.int .i64 k, .string t, .int .i64 c, .int .i64 x, .int .i64 a]] w fun r w' => r = .returned (.tuple #[.agg (valA (meantT k t c x)), .bool (meantT k t c x).isSome]) ∧ Below w.heap.size w w' := by
  by_cases h2 : k = 2
  · subst h2
    have E : meantT 2 t c x = some (.mk 3 false c x ⟨#[]⟩ []) := by unfold meantT; rw [if_pos rfl]
    rw [E]
    go_enter Tryz.func107, Tryz.ntmps107
    go_wp2
    exact bodyPost_ret (v := .tuple #[.agg #[.int .i64 3, .bool false, .int .i64 c, .int .i64 x, .string ⟨#[]⟩, .slice none 0 0], .bool true]) (by simp [results, Tryz.results107, go_sem]) rfl ⟨rfl, below_via (vbelow_new _ _) (vbelow_new _ _)⟩
  by_cases h3 : k = 3
  · subst h3
    have E : meantT 3 t c x = some (.mk 4 false 0 0 t []) := by unfold meantT; rw [if_neg (by decide), if_pos rfl]
    rw [E]
    go_enter Tryz.func107, Tryz.ntmps107
    go_wp2
    exact bodyPost_ret (v := .tuple #[.agg #[.int .i64 4, .bool false, .int .i64 0, .int .i64 0, .string t, .slice none 0 0], .bool true]) (by simp [results, Tryz.results107, go_sem]) rfl ⟨rfl, below_via (vbelow_new _ _) (vbelow_new _ _)⟩
  by_cases h1 : k = 1
  · subst h1
    by_cases w1 : t.toList = [110, 117, 108, 108]
    · have E : meantT 1 t c x = some (.mk 1 false 0 0 ⟨#[]⟩ []) := by unfold meantT; rw [if_neg (by decide), if_neg (by decide), if_pos rfl, if_pos w1]
      rw [E]
      have b1 : (t.toList == [110, 117, 108, 108]) = true := by rw [w1]; rfl
      clear E w1
      go_enter Tryz.func107, Tryz.ntmps107
      go_wp2
      exact bodyPost_ret (v := .tuple #[.agg #[.int .i64 1, .bool false, .int .i64 0, .int .i64 0, .string ⟨#[]⟩, .slice none 0 0], .bool true]) (by simp [results, Tryz.results107, go_sem]) rfl ⟨rfl, below_via (vbelow_new _ _) (vbelow_new _ _)⟩
    have b1 : (t.toList == [110, 117, 108, 108]) = false := by rw [beq_eq_false_iff_ne]; exact w1
    by_cases w2 : t.toList = [116, 114, 117, 101]
    · have E : meantT 1 t c x = some (.mk 2 true 0 0 ⟨#[]⟩ []) := by unfold meantT; rw [if_neg (by decide), if_neg (by decide), if_pos rfl, if_neg w1, if_pos w2]
      rw [E]
      have b2 : (t.toList == [116, 114, 117, 101]) = true := by rw [w2]; rfl
      clear E w1 w2
      go_enter Tryz.func107, Tryz.ntmps107
      go_wp2
      exact bodyPost_ret (v := .tuple #[.agg #[.int .i64 2, .bool true, .int .i64 0, .int .i64 0, .string ⟨#[]⟩, .slice none 0 0], .bool true]) (by simp [results, Tryz.results107, go_sem]) rfl ⟨rfl, below_via (vbelow_new _ _) (vbelow_new _ _)⟩
    have b2 : (t.toList == [116, 114, 117, 101]) = false := by rw [beq_eq_false_iff_ne]; exact w2
    by_cases w3 : t.toList = [102, 97, 108, 115, 101]
    · have E : meantT 1 t c x = some (.mk 2 false 0 0 ⟨#[]⟩ []) := by unfold meantT; rw [if_neg (by decide), if_neg (by decide), if_pos rfl, if_neg w1, if_neg w2, if_pos w3]
      rw [E]
      have b3 : (t.toList == [102, 97, 108, 115, 101]) = true := by rw [w3]; rfl
      clear E w1 w2 w3
      go_enter Tryz.func107, Tryz.ntmps107
      go_wp2
      exact bodyPost_ret (v := .tuple #[.agg #[.int .i64 2, .bool false, .int .i64 0, .int .i64 0, .string ⟨#[]⟩, .slice none 0 0], .bool true]) (by simp [results, Tryz.results107, go_sem]) rfl ⟨rfl, below_via (vbelow_new _ _) (vbelow_new _ _)⟩
    have b3 : (t.toList == [102, 97, 108, 115, 101]) = false := by rw [beq_eq_false_iff_ne]; exact w3
    have E : meantT 1 t c x = none := by unfold meantT; rw [if_neg (by decide), if_neg (by decide), if_pos rfl, if_neg w1, if_neg w2, if_neg w3]
    rw [E]
    clear E w1 w2 w3
    go_enter Tryz.func107, Tryz.ntmps107
    go_wp2
    exact bodyPost_ret (v := .tuple #[.agg #[.int .i64 0, .bool false, .int .i64 0, .int .i64 0, .string ⟨#[]⟩, .slice none 0 0], .bool false]) (by simp [results, Tryz.results107, go_sem]) rfl ⟨rfl, below_via (vbelow_new _ _) (vbelow_new _ _)⟩
  have E : meantT k t c x = none := by unfold meantT; rw [if_neg h2, if_neg h3, if_neg h1]
  rw [E]
  have n2 : (k == 2) = false := by rw [beq_eq_false_iff_ne]; exact h2
  have n3 : (k == 3) = false := by rw [beq_eq_false_iff_ne]; exact h3
  have n1 : (k == 1) = false := by rw [beq_eq_false_iff_ne]; exact h1
  clear E h1 h2 h3
  go_enter Tryz.func107, Tryz.ntmps107
  go_wp2
  exact bodyPost_ret (v := .tuple #[.agg #[.int .i64 0, .bool false, .int .i64 0, .int .i64 0, .string ⟨#[]⟩, .slice none 0 0], .bool false]) (by simp [results, Tryz.results107, go_sem]) rfl ⟨rfl, below_via (vbelow_new _ _) (vbelow_new _ _)⟩
end Go.Proofs.YthpjejfgoohhfaaGreatDoor

/- Walks: names, the sign that comes next, literals. -/
namespace Go.Proofs.YthpjejfgoohhfaaGreatDoor
open Go.RowKit Go.MapKept

def nmV (k : Int) (t : ByteArray) : Int × ByteArray := if k ≠ 1 then (2, ⟨#[]⟩) else if (decide ((t.size : Int) ≤ 40) && !takB t) = false then (7, ⟨#[]⟩) else (0, t)
theorem nmV_of {l : List Tk} {i : Nat} {e k c x a : Int} {t : ByteArray} (h : nextV l i e = #[.int .i64 k, .string t, .int .i64 c, .int .i64 x, .int .i64 a]) : (nmF l i).1 = (nmV k t).1 ∧ ((nmF l i).1 = 0 → (nmV k t).2 = ⟨(nmF l i).2.toArray⟩ ∧ i < l.length) := by
  unfold nextV at h
  unfold nmF nmV
  cases ht : l[i]? with
  | none =>
    rw [ht] at h
    simp only [endV, Array.mk.injEq, List.cons.injEq, Value.int.injEq, true_and] at h
    obtain ⟨hk, _⟩ := h
    simp [← hk]
  | some u =>
    rw [ht] at h
    simp only [tokV, Array.mk.injEq, List.cons.injEq, Value.int.injEq, Value.string.injEq, true_and, and_true] at h
    obtain ⟨hk, hs, _⟩ := h
    subst hk hs
    have hi : i < l.length := (List.getElem?_eq_some_iff.1 ht).1
    by_cases h1 : u.k ≠ 1
    · simp [h1]
    · simp only [h1, if_false]
      have hz : (⟨u.t.toArray⟩ : ByteArray).size = u.t.length := by simp [ByteArray.size]
      by_cases h2 : 40 < u.t.length ∨ takB ⟨u.t.toArray⟩ = true
      · have : (decide (((⟨u.t.toArray⟩ : ByteArray).size : Int) ≤ 40) && !takB ⟨u.t.toArray⟩) = false := by
          rw [hz]
          rcases h2 with q | q
          · have : ¬ ((u.t.length : Int) ≤ 40) := by omega
            simp [this]
          · simp [q]
        simp [h2, this]
      · have h3 : ¬ (40 < u.t.length) ∧ takB ⟨u.t.toArray⟩ = false := by
          refine ⟨fun q => h2 (.inl q), ?_⟩
          cases hq : takB ⟨u.t.toArray⟩ with
          | false => rfl
          | true => exact absurd (.inr hq) h2
        have : (decide (((⟨u.t.toArray⟩ : ByteArray).size : Int) ≤ 40) && !takB ⟨u.t.toArray⟩) = true := by
          rw [hz]
          have : ((u.t.length : Int) ≤ 40) := by omega
          simp [this, h3.2]
        simp [h2, this, hi]

set_option maxRecDepth 100000 in
set_option maxHeartbeats 4000000 in
theorem name_any {w : World} {R g m : Nat} {l : List Tk} {e : Int} {o i : Nat} (h : RD w R g m l e o i) :
    Calls Tryz.prog 70 #[.pointer (some ⟨R, 0, none⟩)] w fun en w' => But R w w' ∧ ∃ s err j, en = .returned (.tuple #[.string s, err]) ∧ RD w' R g m l e o j ∧ i ≤ j ∧ (if (nmF l i).1 = 0 then err = .nilIface ∧ j = i + 1 ∧ s = ⟨(nmF l i).2.toArray⟩ ∧ s.size ≤ 40 else UV (nmF l i).1 err) := by
  have C := hide (nextTok_any R g i e l w h.wk h.tk)
  obtain ⟨k, t, cc, x, a, hv⟩ := nextV_form l i e
  obtain ⟨e1, e2⟩ := nmV_of hv
  rw [hv] at C
  rw [e1] at e2 ⊢
  have ST := hide (fun c wx (hb : Below w.heap.size w wx) => stuck_any R g i e c l wx (h.keep hb).wk (h.keep hb).tk)
  have PS := hide (fun wx (hb : Below w.heap.size w wx) (hi : i < l.length) => pass_any R g i e l wx (h.keep hb).wk hi)
  have HR := hide h
  have lR := h.low
  have NM := hide (fun wx => isName_any t wx)
  clear h hv e1
  by_cases hk : k = 1
  · subst hk
    by_cases hn : (decide ((t.size : Int) ≤ 40) && !takB t) = true
    · have hz : t.size ≤ 40 := by
        simp only [Bool.and_eq_true, decide_eq_true_eq] at hn
        omega
      rw [hn] at NM
      have hq : nmV 1 t = (0, t) := by unfold nmV; rw [if_neg (by decide), if_neg (by rw [hn]; decide)]
      obtain ⟨q1, q2⟩ := e2 (by rw [hq])
      rw [hq] at q1
      have QI := hide q2
      have QS := hide q1
      have Q0 : (nmV 1 t).1 = 0 := by rw [hq]
      rw [Q0]
      clear hq q1 q2 hn ST Q0 e2
      go_enter Tryz.func70, Tryz.ntmps70
      go_wp2_with fail
      refine (unhide C).mono ?_
      rintro r w1 ⟨rfl, hb⟩
      have HB := hide (below_via hb (vbelow_new w1 (.cells #[.int .i64 1, .string t, .int .i64 cc, .int .i64 x, .int .i64 a] 111)))
      have lR1 : R < w1.heap.size := Nat.lt_of_lt_of_le lR hb.size
      clear hb C
      go_wp2_with (go_at_call 76; refine (unhide NM _).mono ?_; rintro e' w' ⟨rfl, rfl⟩)
      refine (unhide PS _ (unhide HB) (unhide QI)).mono ?_
      rintro r w2 ⟨rfl, hk2, hb2⟩
      have HR2 := hide (((unhide HR).keep (unhide HB)).at hb2 hk2)
      have HB2 := hide ((But.of (p := R) (unhide HB)).trans hb2.but)
      have c1 : w2.cell? ⟨w1.heap.size, 1, none⟩ = some (.string t) := by
        rw [hb2.but.cell (q := ⟨w1.heap.size, 1, none⟩) (by simp) (by simp; omega)]
        simp [go_sem]
      clear hk2 hb2 PS HB HR
      go_wp2
      go_ret2
      exact ⟨unhide HB2, t, .nilIface, rfl, i + 1, unhide HR2, by omega, ⟨rfl, rfl, unhide QS, hz⟩⟩
    · have hn' : (decide ((t.size : Int) ≤ 40) && !takB t) = false := by simpa using hn
      rw [hn'] at NM
      have Q0 : (nmV 1 t).1 = 7 := by unfold nmV; rw [if_neg (by decide), if_pos hn']
      rw [Q0]
      clear hn hn' PS Q0 e2
      go_enter Tryz.func70, Tryz.ntmps70
      go_wp2_with fail
      refine (unhide C).mono ?_
      rintro r w1 ⟨rfl, hb⟩
      have HB := hide (below_via hb (vbelow_new w1 (.cells #[.int .i64 1, .string t, .int .i64 cc, .int .i64 x, .int .i64 a] 111)))
      clear hb C
      go_wp2_with (go_at_call 76; refine (unhide NM _).mono ?_; rintro e' w' ⟨rfl, rfl⟩)
      refine (unhide ST 7 _ (unhide HB)).mono ?_
      rintro r w2 ⟨⟨v, rfl, hu⟩, hb2⟩
      have HB2 := hide (below_via (unhide HB) hb2)
      have HU := hide hu
      clear hu hb2 ST HB
      go_wp2
      go_ret2
      exact ⟨But.of (unhide HB2), _, _, rfl, i, (unhide HR).keep (unhide HB2), Nat.le_refl _, unhide HU⟩
  · have hk' : (k != 1) = true := by rw [bne_iff_ne]; exact hk
    have Q0 : (nmV k t).1 = 2 := by unfold nmV; rw [if_pos hk]
    rw [Q0]
    clear hk PS NM Q0 e2
    go_enter Tryz.func70, Tryz.ntmps70
    go_wp2_with fail
    refine (unhide C).mono ?_
    rintro r w1 ⟨rfl, hb⟩
    have HB := hide (below_via hb (vbelow_new w1 (.cells #[.int .i64 k, .string t, .int .i64 cc, .int .i64 x, .int .i64 a] 111)))
    clear hb C
    go_wp2_with fail
    refine (unhide ST 2 _ (unhide HB)).mono ?_
    rintro r w2 ⟨⟨v, rfl, hu⟩, hb2⟩
    have HB2 := hide (below_via (unhide HB) hb2)
    have HU := hide hu
    clear hu hb2 ST HB
    go_wp2
    go_ret2
    exact ⟨But.of (unhide HB2), _, _, rfl, i, (unhide HR).keep (unhide HB2), Nat.le_refl _, unhide HU⟩
end Go.Proofs.YthpjejfgoohhfaaGreatDoor
