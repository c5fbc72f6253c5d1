/- Walks: the table of functions. (Written by gen_ye.py.) -/
import Derived.Test.YtnegjbkbfgkkjaaGreatDoorG15
import Derived.Test.YtnegjbkbfgkkjaaGreatDoorG06
import Derived.BigRegion
import Derived.Test.YtnegjbkbfgkkjaaGreatDoorG09
namespace Go.Proofs.YtnegjbkbfgkkjaaGreatDoor
open Go.RowKit

open Go.MapKept

/-- what a function tells, as a value -/
def TlV (lo : Nat) (w : World) : Tl → Value → Prop
  | .always k, v => ∃ c, v = .func (.func 165) #[] #[.pointer (some ⟨c, 0, none⟩)] ∧ lo ≤ c ∧ c < w.heap.size ∧ w.cell? ⟨c, 0, none⟩ = some (.int .i64 k)
  | .elem, v => v = .func (.func 139) #[] #[]
  | .elems, v => v = .func (.func 141) #[] #[]
  | .sum, v => v = .func (.func 140) #[] #[]
  | .between, v => v = .func (.func 142) #[] #[]
/-- what a block held that another one leaves -/
def Left (lo p : Nat) (w w' : World) : Prop := w.heap.size ≤ w'.heap.size ∧ ∀ b o, lo ≤ b → b < w.heap.size → b ≠ p → w'.cell? ⟨b, o, none⟩ = w.cell? ⟨b, o, none⟩
theorem Left.but {lo p : Nat} {w w' : World} (h : But p w w') : Left lo p w w' := ⟨h.size, fun b o _ hb hp => h.cell (q := ⟨b, o, none⟩) hb hp⟩
theorem Left.of {lo p : Nat} {w w' : World} (h : Below w.heap.size w w') : Left lo p w w' := ⟨h.size, fun b o _ hb _ => h.cell (p := ⟨b, o, none⟩) hb⟩
theorem TkV.left {lo p : Nat} {w w' : World} {tk : List Int} {b : Nat} (h : TkV lo w tk b) (k : Left lo p w w') (ne : b ≠ p) : TkV lo w' tk b := ⟨h.1, Nat.lt_of_lt_of_le h.2.1 k.1, fun i x hx => (k.2 b i h.1 h.2.1 ne).trans (h.2.2 i x hx)⟩
theorem TkV.mono {lo lo' : Nat} {w : World} {tk : List Int} {b : Nat} (h : TkV lo w tk b) (k : lo' ≤ lo) : TkV lo' w tk b := ⟨Nat.le_trans k h.1, h.2⟩

/-- the functions in memory: a map in block m, all else in blocks from lo on but for m -/
structure FnM (lo m : Nat) (w : World) (tab : List (List UInt8 × List Int × Tl)) : Prop where
  low : lo ≤ m
  tell : ∃ f, MapF m f w ∧ ∀ s : ByteArray, match fnIn tab s.data.toList with
    | none => f s = none
    | some q => ∃ bt cap fv, f s = some (.agg #[.slice (some ⟨bt, 0, none⟩) q.1.length cap, fv]) ∧ TkV lo w q.1 bt ∧ bt ≠ m ∧ TlV lo w q.2 fv ∧ (∀ c, fv = .func (.func 165) #[] #[.pointer (some ⟨c, 0, none⟩)] → c ≠ m)
theorem TlV.left {lo p : Nat} {w w' : World} {t : Tl} {v : Value} (h : TlV lo w t v) (k : Left lo p w w') (ne : ∀ c, v = .func (.func 165) #[] #[.pointer (some ⟨c, 0, none⟩)] → c ≠ p) : TlV lo w' t v := by
  cases t with
  | always x =>
    obtain ⟨c, hv, h1, h2, h3⟩ := h
    exact ⟨c, hv, h1, Nat.lt_of_lt_of_le h2 k.1, (k.2 c 0 h1 h2 (ne c hv)).trans h3⟩
  | elem => exact h
  | elems => exact h
  | sum => exact h
  | between => exact h
theorem FnM.left {lo m p : Nat} {w w' : World} {tab : List (List UInt8 × List Int × Tl)} (h : FnM lo m w tab) (k : Left lo p w w') (hp : p < lo) (hm : ∀ f, MapF m f w → MapF m f w') : FnM lo m w' tab := by
  obtain ⟨f, h1, h2⟩ := h.tell
  refine ⟨h.low, f, hm f h1, fun s => ?_⟩
  have hs := h2 s
  generalize fnIn tab s.data.toList = q at hs ⊢
  cases q with
  | none => exact hs
  | some q =>
    obtain ⟨bt, cap, fv, e1, e2, e3, e4, e5⟩ := hs
    refine ⟨bt, cap, fv, e1, e2.left k (by have := e2.1; omega), e3, e4.left k (fun c hc => ?_), e5⟩
    cases hq : q.2 with
    | always x =>
      rw [hq] at e4
      obtain ⟨c', hv, h1, _⟩ := e4
      rw [hc] at hv
      simp at hv
      omega
    | elem => rw [hq] at e4; rw [hc] at e4; simp [TlV] at e4
    | elems => rw [hq] at e4; rw [hc] at e4; simp [TlV] at e4
    | sum => rw [hq] at e4; rw [hc] at e4; simp [TlV] at e4
    | between => rw [hq] at e4; rw [hc] at e4; simp [TlV] at e4
theorem FnM.keep {lo m : Nat} {w w' : World} {tab : List (List UInt8 × List Int × Tl)} (h : FnM lo m w tab) (hl : 0 < lo) (hb : Below w.heap.size w w') : FnM lo m w' tab := h.left (p := 0) (Left.of hb) hl (fun _ q => q.keep hb)
theorem FnM.but {lo m p : Nat} {w w' : World} {tab : List (List UInt8 × List Int × Tl)} (h : FnM lo m w tab) (hp : p < lo) (hb : But p w w') : FnM lo m w' tab := h.left (Left.but hb) hp (fun _ q => q.but hb (by have := h.low; omega))
theorem FnM.new (w : World) (lo : Nat) (h : lo ≤ w.heap.size) : FnM lo w.heap.size (w.alloc (.map #[] 0)) [] := ⟨h, _, MapF.new w, fun _ => rfl⟩

theorem cell_alloc_at (w : World) (cs : Array Value) (t : TypeId) {i : Nat} {v : Value} (h : cs[i]? = some v) : (w.alloc (.cells cs t)).cell? ⟨w.heap.size, i, none⟩ = some v := by
  have e : (w.alloc (.cells cs t)).heap[w.heap.size]? = some (.cells cs t) := (heap_alloc w _).1
  simp only [World.cell?]
  rw [e]
  exact h
theorem TkV.new (w : World) (t : TypeId) (tk : List Int) (lo : Nat) (h : lo ≤ w.heap.size) : TkV lo (w.alloc (.cells (tk.map (Value.int .i64)).toArray t)) tk w.heap.size :=
  ⟨h, by simp, fun i k hk => cell_alloc_at w _ t (by simp [hk])⟩
theorem byte_eq {s t : ByteArray} (h : s.data.toList = t.data.toList) : s = t := by
  cases s with
  | mk a => cases t with
    | mk b =>
      simp only at h
      rw [show a = b from by rw [← Array.toArray_toList (xs := a), h, Array.toArray_toList]]

section
variable {lo m : Nat} {w : World} {t kt et : TypeId} {o : Oper} {a : Act} {K : Act → World → Prop} {Q : Exit → Act → World → Prop} {tab : List (List UInt8 × List Int × Tl)}
theorem FnM.put (M : FnM lo m w tab) (hm : Tryz.prog.underlying t = some (.map kt et)) (hd : Tryz.prog.underlying kt = some .string) (s : ByteArray) (tk : List Int) (tl : Tl) {bt cap : Nat} {fv : Value} (h1 : TkV lo w tk bt) (h2 : bt ≠ m) (h3 : TlV lo w tl fv) (h4 : ∀ c, fv = .func (.func 165) #[] #[.pointer (some ⟨c, 0, none⟩)] → c ≠ m) :
    ∃ w2, (Instr.mapUpdate t (.map (some m)) (.string s) (.agg #[.slice (some ⟨bt, 0, none⟩) tk.length cap, fv])).run Tryz.prog w = .ok () w2 ∧ FnM lo m w2 ((s.data.toList, tk, tl) :: tab) ∧ But m w w2 := by
  obtain ⟨f, e1, e2⟩ := M.tell
  obtain ⟨w2, hr, M2, B2⟩ := e1.put hm hd s (.agg #[.slice (some ⟨bt, 0, none⟩) tk.length cap, fv])
  have L : Left lo m w w2 := Left.but B2
  refine ⟨w2, hr, ⟨M.low, _, M2, fun x => ?_⟩, B2⟩
  rw [fnIn]
  by_cases hx : s.data.toList = x.data.toList
  · rw [if_pos hx]
    obtain rfl := byte_eq hx
    exact ⟨bt, cap, fv, by unfold updV; rw [if_pos rfl], h1.left L h2, h2, h3.left L h4, h4⟩
  · rw [if_neg hx]
    have hne : ¬ x = s := fun e => hx (by rw [e])
    have hs := e2 x
    generalize fnIn tab x.data.toList = q at hs ⊢
    cases q with
    | none =>
      show updV f s _ x = none
      unfold updV
      rw [if_neg hne]
      exact hs
    | some q =>
      obtain ⟨bt', cap', fv', g1, g2, g3, g4, g5⟩ := hs
      exact ⟨bt', cap', fv', by unfold updV; rw [if_neg hne]; exact g1, g2.left L g3, g3, g4.left L g5, g5⟩
set_option maxRecDepth 100000 in
theorem upon_fn (hm : Tryz.prog.underlying t = some (.map kt et)) (hd : Tryz.prog.underlying kt = some .string) (s : ByteArray) (tk : List Int) (tl : Tl) {bt cap : Nat} {fv : Value} (M : FnM lo m w tab) (h1 : TkV lo w tk bt) (h2 : bt ≠ m) (h3 : TlV lo w tl fv) (h4 : ∀ c, fv = .func (.func 165) #[] #[.pointer (some ⟨c, 0, none⟩)] → c ≠ m)
    (h : ∀ w2, FnM lo m w2 ((s.data.toList, tk, tl) :: tab) → But m w w2 → Oper.upon Tryz.prog o a K Q (.ok .skip w2)) :
    Oper.upon Tryz.prog o a K Q (((Instr.mapUpdate t (.map (some m)) (.string s) (.agg #[.slice (some ⟨bt, 0, none⟩) tk.length cap, fv])).run Tryz.prog w).andThen fun _ w' => .ok .skip w') := by
  obtain ⟨w2, hr, M2, B2⟩ := M.put hm hd s tk tl (cap := cap) h1 h2 h3 h4
  rw [hr, Result.andThen_ok]
  exact h w2 M2 B2
end

set_option maxHeartbeats 4000000 in
theorem always_tell (k : Int) (w : World) :
    Calls Tryz.prog 138 #[.int .i64 k] w fun e w' => e = .returned (.func (.func 165) #[] #[.pointer (some ⟨w.heap.size, 0, none⟩)]) ∧ w'.cell? ⟨w.heap.size, 0, none⟩ = some (.int .i64 k) ∧ w.heap.size < w'.heap.size ∧ Below w.heap.size w w' := by
  go_enter Tryz.func138, Tryz.ntmps138
  go_wp2_with fail
  go_ret
  exact ⟨rfl, cell_alloc_at w #[.int .i64 k] _ rfl, by simp, (Below.refl _ _).alloc (Nat.le_refl _) _⟩

/-- one more function that always tells one kind -/
theorem fn_always {lo m : Nat} {w0 w w1 : World} {tab : List (List UInt8 × List Int × Tl)} (hlo : 0 < lo) (hl : lo ≤ w.heap.size) (M : FnM lo m w tab) (B : Below w0.heap.size w0 w) (tk : List Int) (t : TypeId) (k : Int)
    (hc : w1.cell? ⟨w.heap.size + 1, 0, none⟩ = some (.int .i64 k)) (hz : w.heap.size + 1 < w1.heap.size) (hb : Below (w.heap.size + 1) (w.alloc (.cells (tk.map (Value.int .i64)).toArray t)) w1) :
    FnM lo m w1 tab ∧ TkV lo w1 tk w.heap.size ∧ w.heap.size ≠ m ∧ TlV lo w1 (.always k) (.func (.func 165) #[] #[.pointer (some ⟨w.heap.size + 1, 0, none⟩)]) ∧ (∀ c, Value.func (.func 165) #[] #[.pointer (some ⟨w.heap.size + 1, 0, none⟩)] = .func (.func 165) #[] #[.pointer (some ⟨c, 0, none⟩)] → c ≠ m) ∧ Below w0.heap.size w0 w1 := by
  have hm : m < w.heap.size := by obtain ⟨f, q, _⟩ := M.tell; exact q.low
  have hb' : Below (w.alloc (.cells (tk.map (Value.int .i64)).toArray t)).heap.size (w.alloc (.cells (tk.map (Value.int .i64)).toArray t)) w1 := by simpa using hb
  have hb2 : Below w.heap.size w w1 := below_via ((Below.refl _ _).alloc (Nat.le_refl _) _) hb'
  refine ⟨M.keep hlo hb2, (TkV.new w t tk lo hl).left (p := m) (Left.of hb') (by omega), by omega, ⟨_, rfl, by omega, hz, hc⟩, fun c e => ?_, below_via B hb2⟩
  simp at e
  omega
theorem fn_plain {lo m : Nat} {w0 w : World} {tab : List (List UInt8 × List Int × Tl)} (hlo : 0 < lo) (hl : lo ≤ w.heap.size) (M : FnM lo m w tab) (B : Below w0.heap.size w0 w) (tk : List Int) (t : TypeId) :
    FnM lo m (w.alloc (.cells (tk.map (Value.int .i64)).toArray t)) tab ∧ TkV lo (w.alloc (.cells (tk.map (Value.int .i64)).toArray t)) tk w.heap.size ∧ w.heap.size ≠ m ∧ Below w0.heap.size w0 (w.alloc (.cells (tk.map (Value.int .i64)).toArray t)) := by
  have hm : m < w.heap.size := by obtain ⟨f, q, _⟩ := M.tell; exact q.low
  exact ⟨M.keep hlo ((Below.refl _ _).alloc (Nat.le_refl _) _), TkV.new w t tk lo hl, by omega, B.alloc B.size _⟩
end Go.Proofs.YtnegjbkbfgkkjaaGreatDoor

/- Walks: names and their types; literals. -/
namespace Go.Proofs.YtnegjbkbfgkkjaaGreatDoor
open Go.RowKit Go.MapKept

theorem zero_sh (w : World) : (zeroValue 158).run Tryz.prog w = .ok (shn 0 0) w := by
  obtain ⟨i0, hi, hz0, hz1, hz2⟩ := info_parts info_shp
  simp [zeroValue, typeInfo, hi, hz0]
def envV (E : Ev) : ByteArray → Option Value := fun s => (E s).map sh
theorem envV_upd (E : Ev) (s : ByteArray) (a : Option Sp) : updV (envV E) s (a.map sh) = envV (E.upd s a) := by
  funext x
  unfold updV envV Ev.upd
  split <;> rfl
/-- a typer at work -/
structure TyS (B lo bt bn bf : Nat) (E : Ev) (M : Nat) (w : World) : Prop where
  lowB : B ≤ bn
  lon : bn < lo
  lot : lo ≤ bt
  box : Bx2 w bt (.map (some bn)) (.map (some bf))
  names : MapF bn (envV E) w
  fns : FnM lo bf w fnTab
  bd : E.bd M
theorem TyS.keep {B lo bt bn bf : Nat} {E : Ev} {M : Nat} {w w' : World} (S : TyS B lo bt bn bf E M w) (hb : Below w.heap.size w w') : TyS B lo bt bn bf E M w' :=
  ⟨S.lowB, S.lon, S.lot, S.box.keep hb S.box.low, S.names.keep hb, S.fns.keep (by have := S.lon; omega) hb, S.bd⟩
theorem TyS.but {B lo bt bn bf : Nat} {E E' : Ev} {M M' : Nat} {w w' : World} (S : TyS B lo bt bn bf E M w) (hb : But bn w w') (hn : MapF bn (envV E') w') (hd : E'.bd M') : TyS B lo bt bn bf E' M' w' :=
  ⟨S.lowB, S.lon, S.lot, S.box.but hb (by have := S.lon; have := S.lot; omega), hn, S.fns.but S.lon hb, hd⟩

set_option maxHeartbeats 4000000 in
theorem ofName_any {B lo bt bn bf : Nat} {E : Ev} {M : Nat} {w : World} (S : TyS B lo bt bn bf E M w) (s : ByteArray) :
    Calls Tryz.prog 110 #[.pointer (some ⟨bt, 0, none⟩), .string s] w fun e w' => e = .returned (.tuple #[sh (nameF (E s)).2, .int .i64 (nameF (E s)).1]) ∧ Below w.heap.size w w' := by
  have hb0 := (Below.refl w.heap.size w).alloc (Nat.le_refl _) (.cells #[.int .i64 0, .int .i64 0] 158)
  have c0 := (S.box.keep hb0 S.box.low).at0
  have N0 := S.names.keep hb0
  have lb := S.box.low
  have X0 := Bx2.new w 158 (.int .i64 0) (.int .i64 0)
  have HB := hide hb0
  clear hb0
  cases hE : E s with
  | none =>
    have hlk := N0.miss (s := s) Tryz.underlying181 Tryz.underlying9 (zero_sh _) (by unfold envV; rw [hE]; rfl)
    clear N0 S hE X0
    go_enter Tryz.func110, Tryz.ntmps110
    go_wp2
    refine bodyPost_ret (v := .tuple #[shn 0 0, .int .i64 7]) (by simp [results, Tryz.results110, go_sem]) rfl ⟨rfl, ?_⟩
    repeat (first | exact unhide HB | exact (Below.refl _ _) | refine Below.setCell ?_ (by simp) _ | refine Below.alloc ?_ (by simp) _)
  | some a =>
    have hlk := N0.look (s := s) (v := sh a) Tryz.underlying181 Tryz.underlying9 (by unfold envV; rw [hE]; rfl)
    clear N0 S hE X0
    go_enter Tryz.func110, Tryz.ntmps110
    go_wp2
    refine bodyPost_ret (v := .tuple #[sh a, .int .i64 0]) (by simp [results, Tryz.results110, go_sem]) rfl ⟨rfl, ?_⟩
    repeat (first | exact unhide HB | exact (Below.refl _ _) | refine Below.setCell ?_ (by simp) _ | refine Below.alloc ?_ (by simp) _)

set_option maxHeartbeats 4000000 in
theorem ofLiteral_any (k : Int) (v1 v2 v3 v4 v5 : Value) (w : World) :
    Calls Tryz.prog 109 #[.agg #[.int .i64 k, v1, v2, v3, v4, v5]] w fun e w' => e = .returned (sh (litTy k)) ∧ Below w.heap.size w w' := by
  have hb0 := below2 w (.cells #[.int .i64 k, v1, v2, v3, v4, v5] 81) (.cells #[.int .i64 0, .int .i64 0] 158)
  have X0 := Bx2.new (w.alloc (.cells #[.int .i64 k, v1, v2, v3, v4, v5] 81)) 158 (.int .i64 0) (.int .i64 0)
  rw [World.size_alloc] at X0
  have HB := hide hb0
  have HX := hide X0
  clear hb0 X0
  have h : (k = 2 ∧ litTy k = ⟨0, 2⟩) ∨ (k = 3 ∧ litTy k = ⟨0, 3⟩) ∨ (k = 4 ∧ litTy k = ⟨0, 4⟩) ∨ (k ≠ 2 ∧ k ≠ 3 ∧ k ≠ 4 ∧ litTy k = ⟨0, 1⟩) := by
    unfold litTy
    by_cases h2 : k = 2
    · left; exact ⟨h2, by rw [if_pos h2]⟩
    by_cases h3 : k = 3
    · right; left; exact ⟨h3, by rw [if_neg h2, if_pos h3]⟩
    by_cases h4 : k = 4
    · right; right; left; exact ⟨h4, by rw [if_neg h2, if_neg h3, if_pos h4]⟩
    · right; right; right; exact ⟨h2, h3, h4, by rw [if_neg h2, if_neg h3, if_neg h4]⟩
  have fin : ∀ w1, Below (w.heap.size + 1 + 1) ((w.alloc (.cells #[.int .i64 k, v1, v2, v3, v4, v5] 81)).alloc (.cells #[.int .i64 0, .int .i64 0] 158)) w1 → Bx2 w1 (w.heap.size + 1) (.int .i64 0) (.int .i64 0) ∧ Below w.heap.size w w1 := fun w1 hb => ⟨(unhide HX).keep (B := w.heap.size + 1 + 1) hb (by omega), (unhide HB).trans (hb.mono (by omega))⟩
  have FI := hide fin
  clear fin HX HB
  rcases h with ⟨rfl, hl⟩ | ⟨rfl, hl⟩ | ⟨rfl, hl⟩ | ⟨h2, h3, h4, hl⟩
  all_goals
    rw [hl]
    clear hl
    try
      have g2 : (k == 2) = false := by simpa using h2
      have g3 : (k == 3) = false := by simpa using h3
      have g4 : (k == 4) = false := by simpa using h4
      clear h2 h3 h4
    go_enter Tryz.func109, Tryz.ntmps109
    go_wp2_with fail
    refine (plain_any _ _).mono ?_
    rintro e w1 ⟨rfl, hb⟩
    obtain ⟨X2, hw⟩ := unhide FI w1 (by simpa using hb)
    have HW := hide hw
    have x0 := X2.at0
    have x1 := X2.at1
    have t0 := X2.th0
    have t1 := X2.th1
    have lx := X2.low
    clear hb hw X2 FI
    go_wp2
    refine bodyPost_ret (v := shn 0 _) (by simp [results, Tryz.results109, go_sem, x0, x1]) rfl ⟨rfl, ?_⟩
    exact ((unhide HW).setCell (by simp) _).setCell (by simp) _
end Go.Proofs.YtnegjbkbfgkkjaaGreatDoor

/- Walks: ofAdd. (Written by gen_ye.py.) -/
namespace Go.Proofs.YtnegjbkbfgkkjaaGreatDoor
open Go.RowKit

def kk (m : Nat) : Int := if m = 0 then 3 else 4
def condB (a b : Sp) (k : Int) : Bool := (a.mayB k && b.mayB k) && (a.isB k || b.isB k)
theorem addF_at {a b : Sp} {m : Nat} (hm : m < 2) (h : ∀ j, j < m → condB a b (kk j) = false) (ht : condB a b (kk m) = true) : addF a b = (⟨0, kk m⟩, true) := by
  have e : addF a b = if condB a b 3 then (⟨0, 3⟩, true) else if condB a b 4 then (⟨0, 4⟩, true) else (⟨0, 6⟩, a.openB && b.openB) := rfl
  rcases (by omega : m = 0 ∨ m = 1) with rfl | rfl
  · rw [e, if_pos (show condB a b 3 = true from ht)]; rfl
  · rw [e, if_neg (by rw [show condB a b 3 = false from h 0 (by omega)]; decide), if_pos (show condB a b 4 = true from ht)]; rfl
theorem addF_no {a b : Sp} (h : ∀ j, j < 2 → condB a b (kk j) = false) : addF a b = (⟨0, 6⟩, a.openB && b.openB) := by
  have e : addF a b = if condB a b 3 then (⟨0, 3⟩, true) else if condB a b 4 then (⟨0, 4⟩, true) else (⟨0, 6⟩, a.openB && b.openB) := rfl
  rw [e, if_neg (by rw [show condB a b 3 = false from h 0 (by omega)]; decide), if_neg (by rw [show condB a b 4 = false from h 1 (by omega)]; decide)]
theorem allB2 (a b : Sp) (k : Int) : allB [a, b] k = (a.mayB k && b.mayB k) := by simp [allB]

set_option maxHeartbeats 8000000 in
theorem ofAdd_any {B : Nat} {v : Value} (a b : Sp) (w : World) (h : SL B w v [a, b]) :
    Calls Tryz.prog 148 #[v] w fun e w' => e = .returned (.tuple #[sh (addF a b).1, .bool (addF a b).2]) ∧ Below w.heap.size w w' := by
  have AM := hide (fun k wx (hb : Below w.heap.size w wx) => allMayBe_any k wx (h.keep hb))
  obtain ⟨g, off, cap, rfl, hg, hl, c0, c1⟩ := h.at (i := 0) rfl
  obtain ⟨g', off', cap', hv, _, _, c2, c3⟩ := h.at (i := 1) rfl
  simp only [Value.slice.injEq, Option.some.injEq, Addr.mk.injEq, and_true, true_and] at hv
  obtain ⟨⟨rfl, rfl⟩, rfl⟩ := hv
  clear h hl
  simp only [allB2] at AM
  simp only [Nat.zero_mul, Nat.add_zero, Nat.one_mul] at c0 c1 c2 c3
  have I0 := hide (fun k wx => isB_any a k wx)
  have I1 := hide (fun k wx => isB_any b k wx)
  have O0 := hide (fun wx => isOpen_any a wx)
  have O1 := hide (fun wx => isOpen_any b wx)
  show Calls Tryz.prog 148 #[.slice (some ⟨g, off, none⟩) 2 cap] w _
  go_enter Tryz.func148, Tryz.ntmps148
  go_wp2_with fail
  have X0 := (Bx2.new w 158 (.int .i64 0) (.int .i64 0)).keep ((Below.refl _ _).alloc (Nat.le_refl _) (.cells #[.int .i64 3, .int .i64 4] 3)) (by simp)
  have Y0 := Bx2.new (w.alloc (.cells #[.int .i64 0, .int .i64 0] 158)) 3 (.int .i64 3) (.int .i64 4)
  have B0 := below2 w (.cells #[.int .i64 0, .int .i64 0] 158) (.cells #[.int .i64 3, .int .i64 4] 3)
  rw [World.size_alloc] at Y0
  have d0 := (B0.cell (p := ⟨g, off, none⟩) hg).trans c0
  have d1 := (B0.cell (p := ⟨g, off + 1, none⟩) hg).trans c1
  have d2 := (B0.cell (p := ⟨g, off + 2, none⟩) hg).trans c2
  have d3 := (B0.cell (p := ⟨g, off + 2 + 1, none⟩) hg).trans c3
  have hg0 := Nat.lt_of_lt_of_le hg B0.size
  generalize (w.alloc (.cells #[.int .i64 0, .int .i64 0] 158)).alloc (.cells #[.int .i64 3, .int .i64 4] 3) = w0 at *
  have KP : Hid (∀ wx, Below w0.heap.size w0 wx → wx.cell? ⟨g, off, none⟩ = some (.int .i64 (a.n : Int)) ∧ wx.cell? ⟨g, off + 1, none⟩ = some (.int .i64 a.k) ∧ wx.cell? ⟨g, off + 2, none⟩ = some (.int .i64 (b.n : Int)) ∧ wx.cell? ⟨g, off + 2 + 1, none⟩ = some (.int .i64 b.k) ∧ wx.cell? ⟨w.heap.size, 0, none⟩ = some (.int .i64 0) ∧ wx.cell? ⟨w.heap.size, 1, none⟩ = some (.int .i64 0) ∧ wx.frozen? ⟨w.heap.size, 0, none⟩ = false ∧ wx.frozen? ⟨w.heap.size, 1, none⟩ = false ∧ w.heap.size < wx.heap.size) := hide (fun wx hb => ⟨(hb.cell (p := ⟨g, off, none⟩) hg0).trans d0, (hb.cell (p := ⟨g, off + 1, none⟩) hg0).trans d1, (hb.cell (p := ⟨g, off + 2, none⟩) hg0).trans d2, (hb.cell (p := ⟨g, off + 2 + 1, none⟩) hg0).trans d3, (X0.keep hb X0.low).at0, (X0.keep hb X0.low).at1, (X0.keep hb X0.low).th0, (X0.keep hb X0.low).th1, (X0.keep hb X0.low).low⟩)
  have KL : Hid (∀ wx, Below w0.heap.size w0 wx → ∀ m, m < 2 → wx.cell? ⟨w.heap.size + 1, m, none⟩ = some (.int .i64 (kk m))) := hide (fun wx hb m hm => by
    rcases (by omega : m = 0 ∨ m = 1) with rfl | rfl
    · exact (Y0.keep hb Y0.low).at0
    · exact (Y0.keep hb Y0.low).at1)
  have HB := hide B0
  clear d0 d1 d2 d3 c0 c1 c2 c3 X0 Y0 B0 hg hg0
  go_loopw [8] (fun i wr => ∃ m : Nat, m ≤ 2 ∧ i = .int .i64 (m : Int) ∧ Hid (∀ j, j < m → condB a b (kk j) = false) ∧ Hid (Below w0.heap.size w0 wr)) (fun i _ => 2 - (intOf i).toNat)
  case atStart => exact ⟨0, by omega, rfl, hide (fun j hj => absurd hj (Nat.not_lt_zero _)), hide (Below.refl _ _)⟩
  case round =>
    obtain ⟨m, hm, rfl, HC, HW⟩ := hrel
    by_cases hlt : m < 2
    · have hi1 : (m : Int) < 2 := by omega
      obtain ⟨c0, c1, c2, c3, x0, x1, t0, t1, lx⟩ := unhide KP _ (unhide HW)
      have l0 := unhide KL _ (unhide HW) m hlt
      have EA := hide (fun h => addF_at hlt (unhide HC) h)
      have HN : Hid (condB a b (kk m) = false → ∀ j, j < m + 1 → condB a b (kk j) = false) := hide (fun q j hj => by
        rcases Nat.lt_or_ge j m with hj' | hj'
        · exact unhide HC j hj'
        · rw [show j = m by omega]; exact q)
      have ED : Hid (condB a b (kk m) = ((a.mayB (kk m) && b.mayB (kk m)) && (a.isB (kk m) || b.isB (kk m)))) := hide rfl
      replace AM := hide (unhide AM (kk m))
      replace I0 := hide (unhide I0 (kk m))
      replace I1 := hide (unhide I1 (kk m))
      generalize (a.mayB (kk m) && b.mayB (kk m)) = p at *
      generalize a.isB (kk m) = q0 at *
      generalize b.isB (kk m) = q1 at *
      generalize condB a b (kk m) = cc at *
      generalize kk m = kd at *
      clear O0 O1 HC KL
      go_wp2_with fail
      refine (unhide AM _ (below_via (unhide HB) (unhide HW))).mono ?_
      rintro e w1 ⟨rfl, hb⟩
      have HW1 := hide (below_via (unhide HW) hb)
      clear hb c0 c1 c2 c3 x0 x1 t0 t1 lx l0 AM
      cases p
      · obtain rfl : cc = false := unhide ED
        go_wp2
        go_roundw
        case rel => exact ⟨m + 1, by omega, by go_num, hide (unhide HN (by trivial)), HW1⟩
        case measure => simp [intOf]; omega
      obtain ⟨c0, c1, c2, c3, x0, x1, t0, t1, lx⟩ := unhide KP _ (unhide HW1)
      go_wp2_with fail
      refine (unhide I0 _).mono ?_
      rintro e w2 ⟨rfl, hb⟩
      have HW2 := hide (below_via (unhide HW1) hb)
      clear hb c0 c1 c2 c3 x0 x1 t0 t1 lx I0 HW1 HW
      obtain ⟨c0, c1, c2, c3, x0, x1, t0, t1, lx⟩ := unhide KP _ (unhide HW2)
      cases q0
      · go_wp2_with fail
        refine (unhide I1 _).mono ?_
        rintro e w3 ⟨rfl, hb⟩
        have HW3 := hide (below_via (unhide HW2) hb)
        clear hb c0 c1 c2 c3 x0 x1 t0 t1 lx I1 HW2
        cases q1
        · obtain rfl : cc = false := unhide ED
          go_wp2
          go_roundw
          case rel => exact ⟨m + 1, by omega, by go_num, hide (unhide HN (by trivial)), HW3⟩
          case measure => simp [intOf]; omega
        obtain rfl : cc = true := unhide ED
        have E := hide (unhide EA rfl)
        go_wp2_with fail
        refine (plain_any _ _).mono ?_
        rintro e w4 ⟨rfl, hb⟩
        have HW4 := hide (below_via (unhide HW3) hb)
        obtain ⟨c0, c1, c2, c3, x0, x1, t0, t1, lx⟩ := unhide KP _ (unhide HW4)
        clear hb HW3 EA HN ED
        go_wp2
        refine bodyPost_ret (v := .tuple #[shn 0 kd, .bool true]) (by simp [results, Tryz.results148, go_sem, x0, x1]) rfl ⟨by rw [unhide E]; rfl, ?_⟩
        exact ((below_via (unhide HB) (unhide HW4)).setCell (by simp) _).setCell (by simp) _
      · obtain rfl : cc = true := unhide ED
        have E := hide (unhide EA rfl)
        clear I1 c0 c1 c2 c3 x0 x1 t0 t1 lx
        go_wp2_with fail
        refine (plain_any _ _).mono ?_
        rintro e w4 ⟨rfl, hb⟩
        have HW4 := hide (below_via (unhide HW2) hb)
        obtain ⟨c0, c1, c2, c3, x0, x1, t0, t1, lx⟩ := unhide KP _ (unhide HW4)
        clear hb HW2 EA HN ED
        go_wp2
        refine bodyPost_ret (v := .tuple #[shn 0 kd, .bool true]) (by simp [results, Tryz.results148, go_sem, x0, x1]) rfl ⟨by rw [unhide E]; rfl, ?_⟩
        exact ((below_via (unhide HB) (unhide HW4)).setCell (by simp) _).setCell (by simp) _
    · obtain rfl : m = 2 := by omega
      have E := hide (addF_no (unhide HC))
      obtain ⟨c0, c1, c2, c3, x0, x1, t0, t1, lx⟩ := unhide KP _ (unhide HW)
      have KP2 : Hid (∀ wx, Below wr.heap.size wr wx → wx.cell? ⟨g, off, none⟩ = some (.int .i64 (a.n : Int)) ∧ wx.cell? ⟨g, off + 1, none⟩ = some (.int .i64 a.k) ∧ wx.cell? ⟨g, off + 2, none⟩ = some (.int .i64 (b.n : Int)) ∧ wx.cell? ⟨g, off + 2 + 1, none⟩ = some (.int .i64 b.k) ∧ wx.cell? ⟨w.heap.size, 0, none⟩ = some (.int .i64 0) ∧ wx.cell? ⟨w.heap.size, 1, none⟩ = some (.int .i64 0) ∧ wx.frozen? ⟨w.heap.size, 0, none⟩ = false ∧ wx.frozen? ⟨w.heap.size, 1, none⟩ = false ∧ w.heap.size < wx.heap.size) := hide (fun wx hb => unhide KP wx (below_via (unhide HW) hb))
      have HB2 := hide (below_via (unhide HB) (unhide HW))
      generalize a.openB = p at *
      generalize b.openB = q at *
      clear AM I0 I1 HC KL KP HW HB
      go_wp2_with fail
      cases p
      all_goals
        first
        | go_region_with (first
          | (go_at_call 143; refine (plain_any _ _).mono ?_; rintro e w1 ⟨rfl, hb⟩; replace hb : Below wr.heap.size wr w1 := below_via (by repeat (first | assumption | exact Below.refl _ _ | apply Below.drew)) hb; obtain ⟨c0, c1, c2, c3, x0, x1, t0, t1, lx⟩ := unhide KP2 _ hb)
          | (go_at_call 166; (first | with_reducible refine (unhide O0 _).mono ?_ | with_reducible refine (unhide O1 _).mono ?_); rintro e w1 ⟨rfl, hb⟩; replace hb : Below wr.heap.size wr w1 := below_via (by repeat (first | assumption | exact Below.refl _ _ | apply Below.drew)) hb; obtain ⟨c0, c1, c2, c3, x0, x1, t0, t1, lx⟩ := unhide KP2 _ hb))
        | fail
      all_goals
        have HW := hide (below_via (unhide HB2) hb)
        clear hb
        go_wp2
        refine bodyPost_ret (v := .tuple #[sh (addF a b).1, .bool (addF a b).2]) (by rw [unhide E]; simp [results, Tryz.results148, go_sem, x0, x1]) rfl ⟨rfl, ?_⟩
        repeat (first | exact unhide HW | apply Below.drew | refine Below.setCell ?_ (by simp) _)
end Go.Proofs.YtnegjbkbfgkkjaaGreatDoor

/- Walks: ofNode. (Written by gen_ye.py.) -/
namespace Go.Proofs.YtnegjbkbfgkkjaaGreatDoor
open Go.RowKit

set_option maxHeartbeats 4000000 in
theorem ofNode_num {B : Nat} {l : List Sp} {v : Value} (k : Int) (w : World) (h : SL B w v l) (hk : k = 3 ∨ k = 5 ∨ k = 6 ∨ k = 7) :
    Calls Tryz.prog 115 #[.int .i64 k, v] w fun e w' => e = .returned (.tuple #[shn 0 3, .bool (allB l 3)]) ∧ Below w.heap.size w w' := by
  have IO := hide (fun wx (hb : Below w.heap.size w wx) => allMayBe_any 3 wx (h.keep hb))
  obtain ⟨_, a, cap, rfl, _⟩ := h
  generalize allB l 3 = q at *
  generalize l.length = n at *
  rcases hk with rfl | rfl | rfl | rfl
  all_goals
    go_enter Tryz.func115, Tryz.ntmps115
    go_wp2_with fail
    refine (plain_any _ _).mono ?_
    rintro e w1 ⟨rfl, hb⟩
    have X1 := (Bx2.new w 158 (.int .i64 0) (.int .i64 0)).keep hb (by simp)
    have HB := hide (below_via ((Below.refl _ _).alloc (Nat.le_refl _) _) hb)
    have HX := hide X1
    clear hb X1
    go_wp2_with fail
    refine (unhide IO _ (unhide HB)).mono ?_
    rintro e w2 ⟨rfl, hb⟩
    have X2 := (unhide HX).keep hb (unhide HX).low
    have HW := hide (below_via (unhide HB) hb)
    have x0 := X2.at0
    have x1 := X2.at1
    have t0 := X2.th0
    have t1 := X2.th1
    have lx := X2.low
    clear hb X2 HX HB
    go_wp2
    refine bodyPost_ret (v := .tuple #[shn 0 3, .bool q]) (by simp [results, Tryz.results115, go_sem, x0, x1]) rfl ⟨rfl, ?_⟩
    exact ((unhide HW).setCell (by simp) _).setCell (by simp) _

set_option maxHeartbeats 4000000 in
theorem ofNode_ord {B : Nat} {l : List Sp} {v : Value} (k : Int) (w : World) (h : SL B w v l) (hk : k = 10 ∨ k = 11 ∨ k = 12 ∨ k = 13) :
    Calls Tryz.prog 115 #[.int .i64 k, v] w fun e w' => e = .returned (.tuple #[shn 0 2, .bool (ordB l)]) ∧ Below w.heap.size w w' := by
  have IO := hide (fun wx (hb : Below w.heap.size w wx) => inOrder_any wx (h.keep hb))
  obtain ⟨_, a, cap, rfl, _⟩ := h
  generalize ordB l = q at *
  generalize l.length = n at *
  rcases hk with rfl | rfl | rfl | rfl
  all_goals
    go_enter Tryz.func115, Tryz.ntmps115
    go_wp2_with fail
    refine (plain_any _ _).mono ?_
    rintro e w1 ⟨rfl, hb⟩
    have X1 := (Bx2.new w 158 (.int .i64 0) (.int .i64 0)).keep hb (by simp)
    have HB := hide (below_via ((Below.refl _ _).alloc (Nat.le_refl _) _) hb)
    have HX := hide X1
    clear hb X1
    go_wp2_with fail
    refine (unhide IO _ (unhide HB)).mono ?_
    rintro e w2 ⟨rfl, hb⟩
    have X2 := (unhide HX).keep hb (unhide HX).low
    have HW := hide (below_via (unhide HB) hb)
    have x0 := X2.at0
    have x1 := X2.at1
    have t0 := X2.th0
    have t1 := X2.th1
    have lx := X2.low
    clear hb X2 HX HB
    go_wp2
    refine bodyPost_ret (v := .tuple #[shn 0 2, .bool q]) (by simp [results, Tryz.results115, go_sem, x0, x1]) rfl ⟨rfl, ?_⟩
    exact ((unhide HW).setCell (by simp) _).setCell (by simp) _

set_option maxHeartbeats 4000000 in
theorem ofNode_bool {B : Nat} {l : List Sp} {v : Value} (k : Int) (w : World) (h : SL B w v l) (hk : k = 15 ∨ k = 16) :
    Calls Tryz.prog 115 #[.int .i64 k, v] w fun e w' => e = .returned (.tuple #[shn 0 2, .bool (allB l 2)]) ∧ Below w.heap.size w w' := by
  have IO := hide (fun wx (hb : Below w.heap.size w wx) => allMayBe_any 2 wx (h.keep hb))
  obtain ⟨_, a, cap, rfl, _⟩ := h
  generalize allB l 2 = q at *
  generalize l.length = n at *
  rcases hk with rfl | rfl
  all_goals
    go_enter Tryz.func115, Tryz.ntmps115
    go_wp2_with fail
    refine (plain_any _ _).mono ?_
    rintro e w1 ⟨rfl, hb⟩
    have X1 := (Bx2.new w 158 (.int .i64 0) (.int .i64 0)).keep hb (by simp)
    have HB := hide (below_via ((Below.refl _ _).alloc (Nat.le_refl _) _) hb)
    have HX := hide X1
    clear hb X1
    go_wp2_with fail
    refine (unhide IO _ (unhide HB)).mono ?_
    rintro e w2 ⟨rfl, hb⟩
    have X2 := (unhide HX).keep hb (unhide HX).low
    have HW := hide (below_via (unhide HB) hb)
    have x0 := X2.at0
    have x1 := X2.at1
    have t0 := X2.th0
    have t1 := X2.th1
    have lx := X2.low
    clear hb X2 HX HB
    go_wp2
    refine bodyPost_ret (v := .tuple #[shn 0 2, .bool q]) (by simp [results, Tryz.results115, go_sem, x0, x1]) rfl ⟨rfl, ?_⟩
    exact ((unhide HW).setCell (by simp) _).setCell (by simp) _

set_option maxHeartbeats 4000000 in
theorem ofNode_add {B : Nat} {v : Value} (a b : Sp) (w : World) (h : SL B w v [a, b]) :
    Calls Tryz.prog 115 #[.int .i64 4, v] w fun e w' => e = .returned (.tuple #[sh (addF a b).1, .bool (addF a b).2]) ∧ Below w.heap.size w w' := by
  have IO := hide (fun wx (hb : Below w.heap.size w wx) => ofAdd_any a b wx (h.keep hb))
  obtain ⟨_, c, cap, rfl, _⟩ := h
  generalize addF a b = q at *
  obtain ⟨q1, q2⟩ := q
  simp only at IO ⊢
  have HB := hide ((Below.refl w.heap.size w).alloc (Nat.le_refl _) (.cells #[.int .i64 0, .int .i64 0] 158))
  have HX := hide (Bx2.new w 158 (.int .i64 0) (.int .i64 0))
  go_enter Tryz.func115, Tryz.ntmps115
  go_wp2_with fail
  refine (unhide IO _ (unhide HB)).mono ?_
  rintro e w2 ⟨rfl, hb⟩
  have X2 := (unhide HX).keep hb (unhide HX).low
  have HW := hide (below_via (unhide HB) hb)
  have x0 := X2.at0
  have x1 := X2.at1
  have t0 := X2.th0
  have t1 := X2.th1
  have lx := X2.low
  clear hb X2 HX HB
  go_wp2
  refine bodyPost_ret (v := .tuple #[sh q1, .bool q2]) (by simp [results, Tryz.results115, go_sem, x0, x1]) rfl ⟨rfl, ?_⟩
  exact ((unhide HW).setCell (by simp) _).setCell (by simp) _

set_option maxHeartbeats 4000000 in
theorem ofNode_list {B : Nat} {l : List Sp} {v : Value} (w : World) (h : SL B w v l) (hn : ∀ a ∈ l, a.n ≤ 99999) :
    Calls Tryz.prog 115 #[.int .i64 19, v] w fun e w' => e = .returned (.tuple #[sh (joinL l).listed, .bool true]) ∧ Below w.heap.size w w' := by
  have IO := hide (fun wx (hb : Below w.heap.size w wx) => joined_any wx (h.keep hb) (fun a ha => Nat.le_trans (hn a ha) (by omega)))
  have hj : (joinL l).n ≤ 100000 := Nat.le_trans (joinA_bd l ⟨0, 1⟩ (Nat.zero_le 99999) hn) (by omega)
  have LI := hide (fun wx => listed_any (joinL l) wx hj)
  obtain ⟨_, c, cap, rfl, _⟩ := h
  generalize (joinL l).listed = q at *
  generalize joinL l = p at *
  generalize l.length = n at *
  have HB := hide ((Below.refl w.heap.size w).alloc (Nat.le_refl _) (.cells #[.int .i64 0, .int .i64 0] 158))
  have HX := hide (Bx2.new w 158 (.int .i64 0) (.int .i64 0))
  clear hn hj
  go_enter Tryz.func115, Tryz.ntmps115
  go_wp2_with fail
  refine (unhide IO _ (unhide HB)).mono ?_
  rintro e w1 ⟨rfl, hb1⟩
  have HX1 := hide ((unhide HX).keep hb1 (unhide HX).low)
  have HB1 := hide (below_via (unhide HB) hb1)
  clear hb1 HX HB
  go_wp2_with fail
  refine (unhide LI _).mono ?_
  rintro e w2 ⟨rfl, hb⟩
  have X2 := (unhide HX1).keep hb (unhide HX1).low
  have HW := hide (below_via (unhide HB1) hb)
  have x0 := X2.at0
  have x1 := X2.at1
  have t0 := X2.th0
  have t1 := X2.th1
  have lx := X2.low
  clear hb X2 HX1 HB1
  go_wp2
  refine bodyPost_ret (v := .tuple #[sh q, .bool true]) (by simp [results, Tryz.results115, go_sem, x0, x1]) rfl ⟨rfl, ?_⟩
  exact ((unhide HW).setCell (by simp) _).setCell (by simp) _
end Go.Proofs.YtnegjbkbfgkkjaaGreatDoor

/- Walks: ofNode, regions that draw. (Written by gen_ye.py.) -/
namespace Go.Proofs.YtnegjbkbfgkkjaaGreatDoor
open Go.RowKit

set_option maxHeartbeats 8000000 in
theorem ofNode_eq {B : Nat} {v : Value} (k : Int) (a b : Sp) (w : World) (h : SL B w v [a, b]) (hk : k = 8 ∨ k = 9) (ha : a.n ≤ 100000) (hb : b.n ≤ 100000) :
    Calls Tryz.prog 115 #[.int .i64 k, v] w fun e w' => e = .returned (.tuple #[shn 0 2, .bool (a.meetB b)]) ∧ Below w.heap.size w w' := by
  obtain ⟨g, off, cap, rfl, hg, hl, c0, c1⟩ := h.at (i := 0) rfl
  obtain ⟨g1, off1, cap1, hv, _, _, c2, c3⟩ := h.at (i := 1) rfl
  simp only [Value.slice.injEq, Option.some.injEq, Addr.mk.injEq, and_true, true_and] at hv
  obtain ⟨⟨rfl, rfl⟩, rfl⟩ := hv
  clear h hl
  simp only [Nat.zero_mul, Nat.add_zero, Nat.one_mul] at c0 c1 c2 c3
  have MM := hide (fun wx => mayMeet_any a b wx ha hb)
  generalize a.meetB b = q at *
  show Calls Tryz.prog 115 #[.int .i64 k, .slice (some ⟨g, off, none⟩) 2 cap] w _
  clear ha hb
  rcases hk with rfl | rfl
  all_goals
    go_enter Tryz.func115, Tryz.ntmps115
    go_wp2_with fail
    have X0 := Bx2.new w 158 (.int .i64 0) (.int .i64 0)
    have B0 := (Below.refl w.heap.size w).alloc (Nat.le_refl _) (.cells #[.int .i64 0, .int .i64 0] 158)
    have c00 := (B0.cell (p := ⟨g, off, none⟩) hg).trans c0
    have hg0 := Nat.lt_of_lt_of_le hg B0.size
    have c10 := (B0.cell (p := ⟨g, off + 1, none⟩) hg).trans c1
    have c20 := (B0.cell (p := ⟨g, off + 2, none⟩) hg).trans c2
    have c30 := (B0.cell (p := ⟨g, off + 2 + 1, none⟩) hg).trans c3
    generalize w.alloc (.cells #[.int .i64 0, .int .i64 0] 158) = w0 at *
    have KP : Hid (∀ wx, Below w0.heap.size w0 wx → wx.cell? ⟨g, off, none⟩ = some (.int .i64 (a.n : Int)) ∧ wx.cell? ⟨g, off + 1, none⟩ = some (.int .i64 a.k) ∧ wx.cell? ⟨g, off + 2, none⟩ = some (.int .i64 (b.n : Int)) ∧ wx.cell? ⟨g, off + 2 + 1, none⟩ = some (.int .i64 b.k) ∧ wx.cell? ⟨w.heap.size, 0, none⟩ = some (.int .i64 0) ∧ wx.cell? ⟨w.heap.size, 1, none⟩ = some (.int .i64 0) ∧ wx.frozen? ⟨w.heap.size, 0, none⟩ = false ∧ wx.frozen? ⟨w.heap.size, 1, none⟩ = false ∧ w.heap.size < wx.heap.size) := hide (fun wx hb => ⟨(hb.cell (p := ⟨g, off, none⟩) hg0).trans c00, (hb.cell (p := ⟨g, off + 1, none⟩) hg0).trans c10, (hb.cell (p := ⟨g, off + 2, none⟩) hg0).trans c20, (hb.cell (p := ⟨g, off + 2 + 1, none⟩) hg0).trans c30, (X0.keep hb X0.low).at0, (X0.keep hb X0.low).at1, (X0.keep hb X0.low).th0, (X0.keep hb X0.low).th1, (X0.keep hb X0.low).low⟩)
    have HB := hide B0
    obtain ⟨c0, c1, c2, c3, x0, x1, t0, t1, lx⟩ := unhide KP w0 (Below.refl _ _)
    clear c00 c10 c20 c30 X0 B0 hg hg0
  all_goals
    first
    | go_region_with (first
      | (go_at_call 143; refine (plain_any _ _).mono ?_; rintro e w1 ⟨rfl, hb⟩; replace hb : Below w0.heap.size w0 w1 := below_via (by repeat (first | assumption | exact Below.refl _ _ | apply Below.drew)) hb; obtain ⟨c0, c1, c2, c3, x0, x1, t0, t1, lx⟩ := unhide KP _ hb)
      | (go_at_call 150; refine (unhide MM _).mono ?_; rintro e w1 ⟨rfl, hb⟩; replace hb : Below w0.heap.size w0 w1 := below_via (by repeat (first | assumption | exact Below.refl _ _ | apply Below.drew)) hb; obtain ⟨c0, c1, c2, c3, x0, x1, t0, t1, lx⟩ := unhide KP _ hb))
    | fail
  all_goals
    have HW := hide (below_via (unhide HB) hb)
    clear hb
    go_wp2
    refine bodyPost_ret (v := .tuple #[shn 0 2, .bool (q)]) (by simp [results, Tryz.results115, go_sem, x0, x1]) rfl ⟨by simp, ?_⟩
    repeat (first | exact unhide HW | apply Below.drew | refine Below.setCell ?_ (by simp) _)

end Go.Proofs.YtnegjbkbfgkkjaaGreatDoor

/- A region that draws its order and stores a shape (as stage 8's SR, SQ, without tests). -/
namespace Go.Proofs.YtnegjbkbfgkkjaaGreatDoor
open Go.RowKit

section
variable {w0 w w' : World} {a0 a a' : Act} {N gi : Nat} {D : List Nat} {Fin : World → Prop} {l : List Ds} {L : Nat → Bool} {ops : Array Oper} {Q : Exit → Act → World → Prop} {i d : Nat} {o : Oper}
theorem RS.lastA (h : RS w0 a0 N D gi Fin l L a w) (hi : (l[gi]?).getD .any = .any) (hg : L gi = false) (fin : Fin w') :
    RS w0 a0 N D gi Fin l (fun j => j == gi || L j) a w' := by
  refine ⟨h.size, h.defs, fun j hj => h.rest j (fun i' d' hi' hd' => hj i' d' (by simp [hi']) hd'), fun j e hj he => ?_, fun hq => ?_, fun _ => fin⟩
  · show OkS (gi == gi || L gi) l j (G a e) w'
    unfold OkS
    rw [if_pos (by simp)]
    by_cases e1 : j = gi
    · subst e1
      rw [hi]
      trivial
    have hL : L j = true := by simpa [e1] using hj
    have g := oks_mem (h.got j e hL he) hg
    unfold OkL at g
    generalize (l[j]?).getD .any = x at g ⊢
    cases x with
    | lit u => exact g
    | mem P k => trivial
    | any => trivial
  · simp at hq
theorem rs_skip (h : RS w0 a0 N D gi Fin l L a w) (nd : D.Nodup) (hi : ops[i]? = some o) (hd : o.dst = some d) (hDi : D[i]? = some d) (hN : d < N) (ne : gi ≠ i) (hw : Region.wanted o (yielded ops a.tmps) = false) (hl : (l[i]?).getD .any = .any) :
    wpOp Tryz.prog ops Q i (fun a' w' => RS w0 a0 N D gi Fin l (fun j => j == i || L j) a' w') a w :=
  o_skip hi hd hw (by rw [h.size]; exact hN) fun _ U hf => h.step nd i hDi ne U hf (.inl rfl) (by
    unfold OkS
    split
    · rw [hl]; trivial
    · unfold OkL; rw [hl]; trivial)
end

abbrev put2 (w : World) (b : Nat) (u v : Value) : World := (w.setCell ⟨b, 0, none⟩ u).setCell ⟨b, 1, none⟩ v
section
variable {ops : Array Oper} {Q : Exit → Act → World → Prop} {i : Nat} {K : Act → World → Prop} {a : Act} {w : World} {t : TypeId} {p : String} {af : Array Edge}
theorem os_store2 {s x b : Nat} {n k : Int} {u v : Value} (hi : ops[i]? = some ⟨none, .store 158 (.tmp s) (.tmp x), t, p, af, none⟩) (g0 : G a s = .pointer (some ⟨b, 0, none⟩)) (g1 : G a x = shn n k) (B : Bx2 w b u v)
    (h : K a (put2 w b (.int .i64 n) (.int .i64 k))) : wpOp Tryz.prog ops Q i K a w := by
  have r : (execOp a.eval ⟨none, .store 158 (.tmp s) (.tmp x), t, p, af, none⟩).run Tryz.prog w = .ok .skip (put2 w b (.int .i64 n) (.int .i64 k)) := by
    have c0 := B.at0
    have c1 := B.at1
    have f0 := B.th0
    have f1 := B.th1
    have e0 := eval_G g0
    have e1 := eval_G g1
    generalize a.eval = E at e0 e1 ⊢
    simp [go_sem, e0, e1, c0, c1, f0, f1]
  unfold wpOp
  rw [hi]
  simp only [Region.wanted, if_true]
  left
  unfold Oper.wp
  rw [r]
  exact h
end

section
variable {w0 w w' : World} {a0 a a' : Act} {N gi : Nat} {D : List Nat} {Fin : World → Prop} {l : List Ds} {L : Nat → Bool} {ops : Array Oper} {Q : Exit → Act → World → Prop}
theorem rs_store2 {t : TypeId} {p : String} {af : Array Edge} {s x b : Nat} {n k : Int} {u v : Value} (h : RS w0 a0 N D gi Fin l L a w) (hn : (l[gi]?).getD .any = .any) (hg : L gi = false) (hi : ops[gi]? = some ⟨none, .store 158 (.tmp s) (.tmp x), t, p, af, none⟩) (g0 : G a s = .pointer (some ⟨b, 0, none⟩)) (g1 : G a x = shn n k)
    (B : Bx2 w b u v) (fin : Fin (put2 w b (.int .i64 n) (.int .i64 k))) :
    wpOp Tryz.prog ops Q gi (fun a' w' => RS w0 a0 N D gi Fin l (fun j => j == gi || L j) a' w') a w :=
  os_store2 hi g0 g1 B (h.lastA hn hg fin)
end

section
variable {a : Act} {w : World} {d : Option Nat} {t : TypeId} {p : String} {af : Array Edge} {g : Option (Nat × Bool)}
theorem run_ixS {x y : Operand} {b off n cap : Nat} {i : Nat} (h : a.eval x = .slice (some ⟨b, off, none⟩) n cap) (hy : a.eval y = .int .i64 (i : Int)) (hi : (i : Int) < (n : Int)) :
    (execOp a.eval ⟨d, .indexAddr 188 x y, t, p, af, g⟩).run Tryz.prog w = .ok (.value (.pointer (some ⟨b, off + i * 2, none⟩))) w := by
  generalize a.eval = E at h hy ⊢
  have h0 : (0 : Int) ≤ (i : Int) := by omega
  simp [go_sem, h, hy, hi, h0]
theorem run_ldS {x : Operand} {b o : Nat} {u v : Value} (h : a.eval x = .pointer (some ⟨b, o, none⟩)) (c0 : w.cell? ⟨b, o, none⟩ = some u) (c1 : w.cell? ⟨b, o + 1, none⟩ = some v) :
    (execOp a.eval ⟨d, .load 158 x, t, p, af, g⟩).run Tryz.prog w = .ok (.value (.agg #[u, v])) w := by
  generalize a.eval = E at h ⊢
  simp [go_sem, h, c0, c1]
end
theorem callPlain (zs : Array Value) (w : World) : Sem.run Tryz.prog (callFunc 143 zs) w = .ok (.enter 143 zs) w := by simp [go_sem]
theorem callMayBe (zs : Array Value) (w : World) : Sem.run Tryz.prog (callFunc 145 zs) w = .ok (.enter 145 zs) w := by simp [go_sem]
theorem callElem (zs : Array Value) (w : World) : Sem.run Tryz.prog (callFunc 135 zs) w = .ok (.enter 135 zs) w := by simp [go_sem]
theorem callMeet (zs : Array Value) (w : World) : Sem.run Tryz.prog (callFunc 150 zs) w = .ok (.enter 150 zs) w := by simp [go_sem]
theorem xr2 {n : Nat} {args : Array Value} {w : World} {v : Value} (h : Calls Tryz.prog n args w fun e w' => e = .returned v ∧ Below w.heap.size w w') : Calls Tryz.prog n args w fun e w' => ∃ u, e = .returned u ∧ u = v ∧ Below w.heap.size w w' :=
  h.mono fun _ _ q => ⟨v, q.1, rfl, q.2⟩
end Go.Proofs.YtnegjbkbfgkkjaaGreatDoor

/- Walks: ofNode, regions that draw. (Written by gen_ye.py.) -/
namespace Go.Proofs.YtnegjbkbfgkkjaaGreatDoor
open Go.RowKit

set_option maxHeartbeats 8000000 in
theorem ofNode_if {B : Nat} {v : Value} (k : Int) (a b c : Sp) (w : World) (h : SL B w v [a, b, c]) (hk : k = 17) (_ha : a.n ≤ 100000) (hb : b.n ≤ 100000) (hc : c.n ≤ 100000) :
    Calls Tryz.prog 115 #[.int .i64 k, v] w fun e w' => e = .returned (.tuple #[sh (b.join c), .bool (a.mayB 2)]) ∧ Below w.heap.size w w' := by
  obtain ⟨g, off, cap, rfl, hg, hl, c0, c1⟩ := h.at (i := 0) rfl
  obtain ⟨g1, off1, cap1, hv, _, _, c2, c3⟩ := h.at (i := 1) rfl
  simp only [Value.slice.injEq, Option.some.injEq, Addr.mk.injEq, and_true, true_and] at hv
  obtain ⟨⟨rfl, rfl⟩, rfl⟩ := hv
  obtain ⟨g2, off2, cap2, hv, _, _, c4, c5⟩ := h.at (i := 2) rfl
  simp only [Value.slice.injEq, Option.some.injEq, Addr.mk.injEq, and_true, true_and] at hv
  obtain ⟨⟨rfl, rfl⟩, rfl⟩ := hv
  clear h hl
  simp only [Nat.zero_mul, Nat.add_zero, Nat.one_mul, Nat.reduceMul] at c0 c1 c2 c3 c4 c5
  have JN := hide (fun wx => join_any b c wx hb hc)
  have MB := hide (fun wx => mayBe_any a 2 wx)
  generalize b.join c = r at *
  generalize a.mayB 2 = q at *
  show Calls Tryz.prog 115 #[.int .i64 k, .slice (some ⟨g, off, none⟩) 3 cap] w _
  clear _ha hb hc
  rcases hk with rfl
  all_goals
    go_enter Tryz.func115, Tryz.ntmps115
    go_wp2_with fail
    have X0 := Bx2.new w 158 (.int .i64 0) (.int .i64 0)
    have B0 := (Below.refl w.heap.size w).alloc (Nat.le_refl _) (.cells #[.int .i64 0, .int .i64 0] 158)
    have c00 := (B0.cell (p := ⟨g, off, none⟩) hg).trans c0
    have hg0 := Nat.lt_of_lt_of_le hg B0.size
    have c10 := (B0.cell (p := ⟨g, off + 1, none⟩) hg).trans c1
    have c20 := (B0.cell (p := ⟨g, off + 2, none⟩) hg).trans c2
    have c30 := (B0.cell (p := ⟨g, off + 2 + 1, none⟩) hg).trans c3
    have c40 := (B0.cell (p := ⟨g, off + 4, none⟩) hg).trans c4
    have c50 := (B0.cell (p := ⟨g, off + 4 + 1, none⟩) hg).trans c5
    generalize w.alloc (.cells #[.int .i64 0, .int .i64 0] 158) = w0 at *
    have KP : Hid (∀ wx, Below w0.heap.size w0 wx → wx.cell? ⟨g, off, none⟩ = some (.int .i64 (a.n : Int)) ∧ wx.cell? ⟨g, off + 1, none⟩ = some (.int .i64 a.k) ∧ wx.cell? ⟨g, off + 2, none⟩ = some (.int .i64 (b.n : Int)) ∧ wx.cell? ⟨g, off + 2 + 1, none⟩ = some (.int .i64 b.k) ∧ wx.cell? ⟨g, off + 4, none⟩ = some (.int .i64 (c.n : Int)) ∧ wx.cell? ⟨g, off + 4 + 1, none⟩ = some (.int .i64 c.k) ∧ wx.cell? ⟨w.heap.size, 0, none⟩ = some (.int .i64 0) ∧ wx.cell? ⟨w.heap.size, 1, none⟩ = some (.int .i64 0) ∧ wx.frozen? ⟨w.heap.size, 0, none⟩ = false ∧ wx.frozen? ⟨w.heap.size, 1, none⟩ = false ∧ w.heap.size < wx.heap.size) := hide (fun wx hb => ⟨(hb.cell (p := ⟨g, off, none⟩) hg0).trans c00, (hb.cell (p := ⟨g, off + 1, none⟩) hg0).trans c10, (hb.cell (p := ⟨g, off + 2, none⟩) hg0).trans c20, (hb.cell (p := ⟨g, off + 2 + 1, none⟩) hg0).trans c30, (hb.cell (p := ⟨g, off + 4, none⟩) hg0).trans c40, (hb.cell (p := ⟨g, off + 4 + 1, none⟩) hg0).trans c50, (X0.keep hb X0.low).at0, (X0.keep hb X0.low).at1, (X0.keep hb X0.low).th0, (X0.keep hb X0.low).th1, (X0.keep hb X0.low).low⟩)
    have HB := hide B0
    obtain ⟨c0, c1, c2, c3, c4, c5, x0, x1, t0, t1, lx⟩ := unhide KP w0 (Below.refl _ _)
    clear c00 c10 c20 c30 c40 c50 X0 B0 hg hg0
  all_goals
    first
    | go_region_with (first
      | (go_at_call 152; refine (unhide JN _).mono ?_; rintro e w1 ⟨rfl, hb⟩; replace hb : Below w0.heap.size w0 w1 := below_via (by repeat (first | assumption | exact Below.refl _ _ | apply Below.drew)) hb; obtain ⟨c0, c1, c2, c3, c4, c5, x0, x1, t0, t1, lx⟩ := unhide KP _ hb)
      | (go_at_call 145; refine (unhide MB _).mono ?_; rintro e w1 ⟨rfl, hb⟩; replace hb : Below w0.heap.size w0 w1 := below_via (by repeat (first | assumption | exact Below.refl _ _ | apply Below.drew)) hb; obtain ⟨c0, c1, c2, c3, c4, c5, x0, x1, t0, t1, lx⟩ := unhide KP _ hb))
    | fail
  all_goals
    have HW := hide (below_via (unhide HB) hb)
    clear hb
    go_wp2
    refine bodyPost_ret (v := .tuple #[sh r, .bool (q)]) (by simp [results, Tryz.results115, go_sem, x0, x1]) rfl ⟨by simp, ?_⟩
    repeat (first | exact unhide HW | apply Below.drew | refine Below.setCell ?_ (by simp) _)

end Go.Proofs.YtnegjbkbfgkkjaaGreatDoor

/- A region that draws its order, makes one block, calls what may write elsewhere, and stores in the new block at its end. -/
namespace Go.Proofs.YtnegjbkbfgkkjaaGreatDoor
open Go.RowKit

structure RW (R : World → World → Prop) (w0 : World) (a0 : Act) (N : Nat) (D : List Nat) (gi ai d8 : Nat) (P8 Fin : Value → World → Prop) (l : List (Option Value)) (L : Nat → Bool) (a : Act) (w : World) : Prop where
  size : a.tmps.size = N
  defs : a.defers = []
  rest : ∀ j, (∀ i d, L i = true → D[i]? = some d → d ≠ j) → G a j = G a0 j
  got : ∀ i d u, L i = true → D[i]? = some d → l[i]? = some (some u) → G a d = u
  old : R w0 w
  new : L ai = true → L gi = false → P8 (G a d8) w
  fin : L gi = true → Fin (G a d8) w
section
variable {R : World → World → Prop} {w0 w w' : World} {a0 a a' : Act} {N gi ai d8 : Nat} {D : List Nat} {P8 Fin : Value → World → Prop} {l : List (Option Value)} {L : Nat → Bool} {ops : Array Oper} {Q : Exit → Act → World → Prop} {i d : Nat} {o : Oper}
theorem RW.keep (h : RW R w0 a0 N D gi ai d8 P8 Fin l L a w) {s : Nat} (hs : s ∉ D) : G a s = G a0 s :=
  h.rest s (fun _ _ _ hd e => hs (e ▸ List.mem_of_getElem? hd))
theorem RW.start (h1 : a0.tmps.size = N) (h2 : a0.defers = []) (h3 : R w0 w) : RW R w0 a0 N D gi ai d8 P8 Fin l (fun _ => false) a0 w :=
  ⟨h1, h2, fun _ _ => rfl, fun _ _ _ h => (by cases h), h3, fun h => (by cases h), fun h => (by cases h)⟩
theorem RW.step (h : RW R w0 a0 N D gi ai d8 P8 Fin l L a w) (tr : ∀ x y z, R x y → R y z → R x z) (kp : ∀ v x y, R x y → P8 v x → P8 v y) (nd : D.Nodup) (h8 : D[ai]? = some d8) (i : Nat) {d : Nat} {v : Value} (hi : D[i]? = some d) (ng : gi ≠ i) (na : ai ≠ i) (U : Upd a d v a') (hd : a'.defers = a.defers) (hw : w' = w ∨ (L gi = false ∧ R w w')) (hl : l[i]? = some (some v)) :
    RW R w0 a0 N D gi ai d8 P8 Fin l (fun j => j == i || L j) a' w' := by
  have eg : (gi == i || L gi) = L gi := by simp [ng]
  have ea : (ai == i || L ai) = L ai := by simp [na]
  have n8 : d8 ≠ d := fun q => na (nodupS_at nd hi (q ▸ h8))
  refine ⟨U.size.trans h.size, hd.trans h.defs, fun j hj => ?_, fun j e u hj he hu => ?_, ?_, fun ha hg => ?_, fun hg => ?_⟩
  · have hne : j ≠ d := fun e => hj i d (by simp) hi e.symm
    rw [U.rest j hne]
    exact h.rest j (fun i' d' hi' hd' => hj i' d' (by simp [hi']) hd')
  · by_cases e1 : j = i
    · subst e1
      rw [hi] at he
      cases he
      rw [U.got]
      rw [hl] at hu
      simpa using hu
    · have hL : L j = true := by simpa [e1] using hj
      have hne : e ≠ d := fun q => e1 (nodupS_at nd hi (q ▸ he))
      rw [U.rest e hne]
      exact h.got j e u hL he hu
  · rcases hw with rfl | ⟨_, hr⟩
    · exact h.old
    · exact tr _ _ _ h.old hr
  · rw [U.rest d8 n8]
    have ha' : L ai = true := by rw [← ea]; exact ha
    have hg' : L gi = false := by rw [← eg]; exact hg
    rcases hw with rfl | ⟨_, hr⟩
    · exact h.new ha' hg'
    · exact kp _ _ _ hr (h.new ha' hg')
  · rw [U.rest d8 n8]
    have hg' : L gi = true := by rw [← eg]; exact hg
    rcases hw with rfl | ⟨hq, _⟩
    · exact h.fin hg'
    · rw [hg'] at hq; cases hq
theorem rw_val (h : RW R w0 a0 N D gi ai d8 P8 Fin l L a w) (tr : ∀ x y z, R x y → R y z → R x z) (kp : ∀ v x y, R x y → P8 v x → P8 v y) (nd : D.Nodup) (h8 : D[ai]? = some d8) (hi : ops[i]? = some o) (hd : o.dst = some d) (hDi : D[i]? = some d) (hN : d < N) (ng : gi ≠ i) (na : ai ≠ i) (hw : Region.wanted o (yielded ops a.tmps) = true) {v : Value} (r : (execOp a.eval o).run Tryz.prog w = .ok (.value v) w) (hl : l[i]? = some (some v)) :
    wpOp Tryz.prog ops Q i (fun a' w' => RW R w0 a0 N D gi ai d8 P8 Fin l (fun j => j == i || L j) a' w') a w :=
  o_val hi hd hw (by rw [h.size]; exact hN) r fun _ U hf => h.step tr kp nd h8 i hDi ng na U hf (.inl rfl) hl
theorem rw_call (h : RW R w0 a0 N D gi ai d8 P8 Fin l L a w) (tr : ∀ x y z, R x y → R y z → R x z) (kp : ∀ v x y, R x y → P8 v x → P8 v y) (nd : D.Nodup) (h8 : D[ai]? = some d8) (hi : ops[i]? = some o) (hd : o.dst = some d) (hDi : D[i]? = some d) (hN : d < N) (ng : gi ≠ i) (na : ai ≠ i) (hg : L gi = false) (hw : Region.wanted o (yielded ops a.tmps) = true) {n : Nat} {args : Array Value} (r : (execOp a.eval o).run Tryz.prog w = .ok (.enter n args) w) {v : Value}
    (hc : Calls Tryz.prog n args w fun e w' => ∃ u, e = .returned u ∧ u = v ∧ R w w') (hl : l[i]? = some (some v)) :
    wpOp Tryz.prog ops Q i (fun a' w' => RW R w0 a0 N D gi ai d8 P8 Fin l (fun j => j == i || L j) a' w') a w :=
  o_enter (R := fun u w' => u = v ∧ R w w') hi hd hw (by rw [h.size]; exact hN) r hc fun u _ w' hR U hf => by
    obtain ⟨rfl, hr⟩ := hR
    exact h.step tr kp nd h8 i hDi ng na U hf (.inr ⟨hg, hr⟩) hl
theorem rw_new (h : RW R w0 a0 N D gi ai d8 P8 Fin l L a w) (tr : ∀ x y z, R x y → R y z → R x z) (nd : D.Nodup) (h8 : D[ai]? = some d8) (hi : ops[ai]? = some o) (hd : o.dst = some d8) (hN : d8 < N) (ng : gi ≠ ai) (hg : L gi = false) (hln : l[ai]? = some none) (hw : Region.wanted o (yielded ops a.tmps) = true) {v : Value} (r : (execOp a.eval o).run Tryz.prog w = .ok (.value v) w') (hR : R w w') (hP : P8 v w') :
    wpOp Tryz.prog ops Q ai (fun a' w' => RW R w0 a0 N D gi ai d8 P8 Fin l (fun j => j == ai || L j) a' w') a w :=
  o_val hi hd hw (by rw [h.size]; exact hN) r fun a' U hf => by
    have eg : (gi == ai || L gi) = L gi := by simp [ng]
    refine ⟨U.size.trans h.size, hf.trans h.defs, fun j hj => ?_, fun j e u hj he hu => ?_, tr _ _ _ h.old hR, fun _ _ => ?_, fun hq => ?_⟩
    · have hne : j ≠ d8 := fun e => hj ai d8 (by simp) h8 e.symm
      rw [U.rest j hne]
      exact h.rest j (fun i' d' hi' hd' => hj i' d' (by simp [hi']) hd')
    · by_cases e1 : j = ai
      · subst e1
        rw [hln] at hu
        simp at hu
      · have hL : L j = true := by simpa [e1] using hj
        have hne : e ≠ d8 := fun q => e1 (nodupS_at nd h8 (q ▸ he))
        rw [U.rest e hne]
        exact h.got j e u hL he hu
    · rw [U.got]; exact hP
    · rw [eg, hg] at hq; cases hq
theorem rw_store {t : TypeId} {p : String} {af : Array Edge} {s x b : Nat} {n k : Int} {u v : Value} (h : RW R w0 a0 N D gi ai d8 P8 Fin l L a w) (hln : l[gi]? = some none) (hi : ops[gi]? = some ⟨none, .store 158 (.tmp s) (.tmp x), t, p, af, none⟩) (g0 : G a s = .pointer (some ⟨b, 0, none⟩)) (g1 : G a x = shn n k) (B : Bx2 w b u v) (hR : R w0 (put2 w b (.int .i64 n) (.int .i64 k))) (fin : Fin (G a d8) (put2 w b (.int .i64 n) (.int .i64 k))) :
    wpOp Tryz.prog ops Q gi (fun a' w' => RW R w0 a0 N D gi ai d8 P8 Fin l (fun j => j == gi || L j) a' w') a w := by
  refine os_store2 hi g0 g1 B ⟨h.size, h.defs, fun j hj => h.rest j (fun i' d' hi' hd' => hj i' d' (by simp [hi']) hd'), fun j e u hj he hu => ?_, hR, fun _ hq => ?_, fun _ => fin⟩
  · by_cases e1 : j = gi
    · subst e1
      rw [hln] at hu
      simp at hu
    · exact h.got j e u (by simpa [e1] using hj) he hu
  · simp at hq
end
end Go.Proofs.YtnegjbkbfgkkjaaGreatDoor
