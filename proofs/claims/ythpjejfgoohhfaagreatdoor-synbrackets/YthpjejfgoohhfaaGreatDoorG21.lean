/- How tokens are read as an expression, in plain words. -/
import Derived.Test.YthpjejfgoohhfaaGreatDoorG08
import Derived.Test.YthpjejfgoohhfaaGreatDoorG20
import Derived.Test.YthpjejfgoohhfaaGreatDoorG06
namespace Go.Proofs.YthpjejfgoohhfaaGreatDoor
open Go.RowKit

/-- a word or a sign -/
def isT (t : Tk) (s : List UInt8) : Bool := (t.k == 1 || t.k == 4) && t.t == s
def seesT (l : List Tk) (i : Nat) (s : List UInt8) : Bool := match l[i]? with
  | some t => isT t s
  | none => false
/-- the signs between two kids: text, level, kind -/
def sgnL : List (List UInt8 × Int × Int) := [([111, 114], 1, 16), ([97, 110, 100], 2, 15), ([61], 3, 8), ([33, 61], 3, 9), ([60], 3, 10), ([60, 61], 3, 11), ([62], 3, 12), ([62, 61], 3, 13), ([105, 110], 3, 14), ([43], 4, 4), ([45], 4, 5), ([42], 5, 6), ([47], 5, 7)]
def sgnF (s : List UInt8) : Option (Int × Int) := (sgnL.find? fun q => q.1 == s).map (·.2)
/-- the kind of the sign that comes next, if it is one of that level -/
def jointF (l : List Tk) (i : Nat) (lev : Int) : Option Int := match l[i]? with
  | none => none
  | some t => match sgnF t.t with
    | none => none
    | some (a, k) => if t.k ≠ 3 ∧ a = lev then some k else none
def emptyV : Tree := .mk 0 false 0 0 ⟨#[]⟩ []
/-- the value that a token says by itself -/
def meantF (t : Tk) : Option Tree :=
  if t.k = 2 then some (.mk 3 false t.c t.x ⟨#[]⟩ [])
  else if t.k = 3 then some (.mk 4 false 0 0 ⟨t.t.toArray⟩ [])
  else if t.k = 1 then
    if t.t = [110, 117, 108, 108] then some (.mk 1 false 0 0 ⟨#[]⟩ [])
    else if t.t = [116, 114, 117, 101] then some (.mk 2 true 0 0 ⟨#[]⟩ [])
    else if t.t = [102, 97, 108, 115, 101] then some (.mk 2 false 0 0 ⟨#[]⟩ [])
    else none
  else none

/-- what is wrong (0: nothing), what was read, where it goes on -/
abbrev PR := Int × XT × Nat
abbrev PL := Int × List XT × Nat
def xN (k : Int) (ks : List XT) : XT := .mk k emptyV ⟨#[]⟩ ks
def xM (k : Int) (s : List UInt8) (ks : List XT) : XT := .mk k emptyV ⟨s.toArray⟩ ks
def noX : XT := .mk 0 emptyV ⟨#[]⟩ []
def onOk (r : PR) (f : XT → Nat → PR) : PR := if r.1 = 0 then f r.2.1 r.2.2 else (r.1, noX, r.2.2)
def onOkL (r : PL) (f : List XT → Nat → PR) : PR := if r.1 = 0 then f r.2.1 r.2.2 else (r.1, noX, r.2.2)
def onOkLL (r : PR) (f : XT → Nat → PL) : PL := if r.1 = 0 then f r.2.1 r.2.2 else (r.1, [], r.2.2)

/-- the readers of expressions, one level of calls down -/
structure Ps where
  E : Nat → Nat → PR
  C : Nat → Nat → PR
  J : Int → Nat → Nat → PR
  K : Int → Nat → XT → Nat → PR
  S : Nat → Nat → PR
  P : Nat → Nat → PR
  L : List UInt8 → Nat → Nat → List XT → Nat → PL
  B : List (List UInt8) → Nat → List XT → Nat → PL

section
variable (l : List Tk) (vw : Tree → Int) (p : Ps)
def eF (o i : Nat) : PR := if 200 < o + 1 then (4, noX, i) else p.C (o + 1) i
/-- a name: what is wrong, the name -/
def nmF (i : Nat) : Int × List UInt8 := match l[i]? with
  | none => (2, [])
  | some t => if t.k ≠ 1 then (2, []) else if 40 < t.t.length ∨ takB ⟨t.t.toArray⟩ = true then (7, []) else (0, t.t)
def lpF (k : Int) (word : List UInt8) (o i : Nat) : PR :=
  if (nmF l i).1 ≠ 0 then ((nmF l i).1, noX, i) else onOkL (p.B [[105, 110], word] o [] (i + 1)) fun ks j => (0, xM k (nmF l i).2 ks, j)
def cF (o i : Nat) : PR :=
  if seesT l i [105, 102] = true then onOkL (p.B [[105, 102], [116, 104, 101, 110], [101, 108, 115, 101]] o [] i) fun ks j => (0, xN 17 ks, j)
  else if seesT l i [102, 111, 114] = true then lpF l p 20 [114, 101, 116, 117, 114, 110] o (i + 1)
  else if seesT l i [115, 111, 109, 101] = true then lpF l p 21 [115, 97, 116, 105, 115, 102, 105, 101, 115] o (i + 1)
  else if seesT l i [101, 118, 101, 114, 121] = true then lpF l p 22 [115, 97, 116, 105, 115, 102, 105, 101, 115] o (i + 1)
  else p.J 1 o i
def jF (lev : Int) (o i : Nat) : PR := if lev = 6 then p.S o i else onOk (p.J (lev + 1) o i) fun x j => p.K lev o x j
def kF (lev : Int) (o : Nat) (x : XT) (i : Nat) : PR := match jointF l i lev with
  | none => (0, x, i)
  | some k => onOk (p.J (lev + 1) o (i + 1)) fun y j => if lev = 3 then (0, xN k [x, y], j) else p.K lev o (xN k [x, y]) j
def sF (o i : Nat) : PR := if seesT l i [45] = true then (if 200 < o + 1 then (4, noX, i + 1) else onOk (p.S (o + 1) (i + 1)) fun x j => (0, xN 3 [x], j)) else p.P o i
def pF (o i : Nat) : PR := match (l[i]?).bind meantF with
  | some v => if vw v ≠ 0 then (vw v, noX, i) else (0, .mk 1 v ⟨#[]⟩ [], i + 1)
  | none =>
    if seesT l i [40] = true then onOk (p.E o (i + 1)) fun x j => if seesT l j [41] = true then (0, x, j + 1) else (2, noX, j)
    else if seesT l i [91] = true then onOkL (p.L [93] 200 o [] (i + 1)) fun ks j => (0, xN 19 ks, j)
    else if (nmF l i).1 ≠ 0 then ((nmF l i).1, noX, i)
    else if seesT l (i + 1) [40] = true then onOkL (p.L [41] 8 o [] (i + 2)) fun ks j => (0, xM 18 (nmF l i).2 ks, j)
    else (0, xM 2 (nmF l i).2 [], i + 1)
def lF (closing : List UInt8) (most o : Nat) (acc : List XT) (i : Nat) : PL :=
  if seesT l i closing = true then (0, acc, i + 1)
  else if acc ≠ [] ∧ seesT l i [44] = false then (2, [], i)
  else if acc.length = most then (5, [], i)
  else onOkLL (p.E o (if acc = [] then i else i + 1)) fun x j => p.L closing most o (acc ++ [x]) j
def bF (words : List (List UInt8)) (o : Nat) (acc : List XT) (i : Nat) : PL := match words with
  | [] => (0, acc, i)
  | s :: ss => if seesT l i s = false then (2, [], i) else onOkLL (p.E o (i + 1)) fun x j => p.B ss o (acc ++ [x]) j
end
def noP : Ps := ⟨fun _ i => (-1, noX, i), fun _ i => (-1, noX, i), fun _ _ i => (-1, noX, i), fun _ _ _ i => (-1, noX, i), fun _ i => (-1, noX, i), fun _ i => (-1, noX, i), fun _ _ _ _ i => (-1, [], i), fun _ _ _ i => (-1, [], i)⟩
/-- the readers, with so many calls at hand -/
def ps (l : List Tk) (vw : Tree → Int) : Nat → Ps
  | 0 => noP
  | n + 1 => ⟨eF (ps l vw n), cF l (ps l vw n), jF (ps l vw n), kF l (ps l vw n), sF l (ps l vw n), pF l vw (ps l vw n), lF l (ps l vw n), bF l (ps l vw n)⟩
theorem ps_E (l : List Tk) (vw : Tree → Int) (n o i : Nat) : (ps l vw (n + 1)).E o i = eF (ps l vw n) o i := rfl
theorem ps_C (l : List Tk) (vw : Tree → Int) (n o i : Nat) : (ps l vw (n + 1)).C o i = cF l (ps l vw n) o i := rfl
theorem ps_J (l : List Tk) (vw : Tree → Int) (n : Nat) (lev : Int) (o i : Nat) : (ps l vw (n + 1)).J lev o i = jF (ps l vw n) lev o i := rfl
theorem ps_K (l : List Tk) (vw : Tree → Int) (n : Nat) (lev : Int) (o : Nat) (x : XT) (i : Nat) : (ps l vw (n + 1)).K lev o x i = kF l (ps l vw n) lev o x i := rfl
theorem ps_S (l : List Tk) (vw : Tree → Int) (n o i : Nat) : (ps l vw (n + 1)).S o i = sF l (ps l vw n) o i := rfl
theorem ps_P (l : List Tk) (vw : Tree → Int) (n o i : Nat) : (ps l vw (n + 1)).P o i = pF l vw (ps l vw n) o i := rfl
theorem ps_L (l : List Tk) (vw : Tree → Int) (n : Nat) (c : List UInt8) (m o : Nat) (acc : List XT) (i : Nat) : (ps l vw (n + 1)).L c m o acc i = lF l (ps l vw n) c m o acc i := rfl
theorem ps_B (l : List Tk) (vw : Tree → Int) (n : Nat) (ss : List (List UInt8)) (o : Nat) (acc : List XT) (i : Nat) : (ps l vw (n + 1)).B ss o acc i = bF l (ps l vw n) ss o acc i := rfl
theorem onOk_yes {x : XT} {j : Nat} {f : XT → Nat → PR} : onOk (0, x, j) f = f x j := by unfold onOk; rw [if_pos rfl]
theorem onOk_no {r : PR} {f : XT → Nat → PR} (h : r.1 ≠ 0) : onOk r f = (r.1, noX, r.2.2) := by unfold onOk; rw [if_neg h]
end Go.Proofs.YthpjejfgoohhfaaGreatDoor

/- A walk over tokens: what it holds, Left, Next, Pass, Sees, Take, Need, End. -/
namespace Go.Proofs.YthpjejfgoohhfaaGreatDoor
open Go.RowKit

theorem wtkCs_at : ∀ (l : List Tk) (i : Nat) (t : Tk), l[i]? = some t → ∀ j v, (tkC t)[j]? = some v → (tkCs l)[i * 5 + j]? = some v
  | [], i, t, h, j, v, _ => by simp at h
  | a :: l, 0, t, h, j, v, hv => by
    simp only [List.getElem?_cons_zero, Option.some.injEq] at h
    subst h
    have hj : j < (tkC a).length := by
      rcases Nat.lt_or_ge j (tkC a).length with q | q
      · exact q
      · rw [List.getElem?_eq_none q] at hv; cases hv
    rw [tkCs, List.flatMap_cons, Nat.zero_mul, Nat.zero_add, List.getElem?_append_left hj]
    exact hv
  | a :: l, i + 1, t, h, j, v, hv => by
    have hl : (tkC a).length = 5 := rfl
    rw [tkCs, List.flatMap_cons, List.getElem?_append_right (by omega), hl, show (i + 1) * 5 + j - 5 = i * 5 + j by omega]
    exact wtkCs_at l i t (by simpa using h) j v hv

/-- all but the first cell of block R, and what is new, is as it was -/
structure Bt (R : Nat) (w w' : World) : Prop where
  but : But R w w'
  cell : ∀ j, 1 ≤ j → R < w.heap.size → w'.cell? ⟨R, j, none⟩ = w.cell? ⟨R, j, none⟩
  frozen : ∀ j, R < w.heap.size → w'.frozen? ⟨R, j, none⟩ = w.frozen? ⟨R, j, none⟩
theorem Bt.of {R : Nat} {w w' : World} (h : Below w.heap.size w w') : Bt R w w' := ⟨But.of h, fun j _ l => h.cell (p := ⟨R, j, none⟩) l, fun j l => h.frozen (p := ⟨R, j, none⟩) l⟩
theorem Bt.trans {R : Nat} {a b c : World} (h : Bt R a b) (k : Bt R b c) : Bt R a c :=
  ⟨h.but.trans k.but, fun j hj l => (k.cell j hj (Nat.lt_of_lt_of_le l h.but.size)).trans (h.cell j hj l), fun j l => (k.frozen j (Nat.lt_of_lt_of_le l h.but.size)).trans (h.frozen j l)⟩
theorem Bt.set {R : Nat} {w : World} {v : Value} : Bt R w (w.setCell ⟨R, 0, none⟩ v) := ⟨But.set, fun j hj _ => World.cell?_setCell_other w _ _ _ (by intro q; injection q with _ q2; omega), fun j _ => by simp [go_sem]⟩

/-- tokens that lie in a block -/
structure TKS (w : World) (g : Nat) (l : List Tk) : Prop where
  low : g < w.heap.size
  cell : ∀ i t, l[i]? = some t → ∀ j v, (tkC t)[j]? = some v → w.cell? ⟨g, i * 5 + j, none⟩ = some v
theorem TKS.keep {w w' : World} {g n : Nat} {l : List Tk} (h : TKS w g l) (hb : Below n w w') (hl : g < n) : TKS w' g l :=
  ⟨Nat.lt_of_lt_of_le h.low hb.size, fun i t ht j v hv => (hb.cell (p := ⟨g, i * 5 + j, none⟩) hl).trans (h.cell i t ht j v hv)⟩
theorem TKS.five {w : World} {g i : Nat} {l : List Tk} {t : Tk} (h : TKS w g l) (ht : l[i]? = some t) :
    w.cell? ⟨g, i * 5, none⟩ = some (.int .i64 t.k) ∧ w.cell? ⟨g, i * 5 + 1, none⟩ = some (.string ⟨t.t.toArray⟩) ∧ w.cell? ⟨g, i * 5 + 2, none⟩ = some (.int .i64 t.c) ∧ w.cell? ⟨g, i * 5 + 3, none⟩ = some (.int .i64 t.x) ∧ w.cell? ⟨g, i * 5 + 4, none⟩ = some (.int .i64 (t.a : Int)) :=
  ⟨h.cell i t ht 0 _ rfl, h.cell i t ht 1 _ rfl, h.cell i t ht 2 _ rfl, h.cell i t ht 3 _ rfl, h.cell i t ht 4 _ rfl⟩

/-- a walk at block R: the tokens from the i-th one on are left -/
structure WK (w : World) (R g n i : Nat) (e : Int) : Prop where
  low : R < w.heap.size
  le : i ≤ n
  left : ∃ p c, w.cell? ⟨R, 0, none⟩ = some (.slice p (n - i) c) ∧ (i < n → p = some ⟨g, i * 5, none⟩) ∧ n - i ≤ c
  fin : w.cell? ⟨R, 1, none⟩ = some (.int .i64 e)
  free : w.frozen? ⟨R, 0, none⟩ = false
theorem WK.keep {w w' : World} {R g n i m : Nat} {e : Int} (h : WK w R g n i e) (hb : Below m w w') (hl : R < m) : WK w' R g n i e := by
  obtain ⟨p, c, h1, h2, h3⟩ := h.left
  exact ⟨Nat.lt_of_lt_of_le h.low hb.size, h.le, ⟨p, c, (hb.cell (p := ⟨R, 0, none⟩) hl).trans h1, h2, h3⟩, (hb.cell (p := ⟨R, 1, none⟩) hl).trans h.fin, (hb.frozen (p := ⟨R, 0, none⟩) hl).trans h.free⟩

theorem tl_eq4 {t t' : ByteArray} : t.toList = t'.toList ↔ t = t' := by
  constructor
  · intro h
    have e1 : t.data.toList = t'.data.toList := by rw [← Lib.toList_data, ← Lib.toList_data]; exact h
    cases t; cases t'
    simp only at e1
    rw [Array.toList_inj.1 e1]
  · intro h; rw [h]

/-- whether a word or a sign comes next -/
def seesB (l : List Tk) (i : Nat) (s : List UInt8) : Bool := match l[i]? with
  | some t => (t.k == 1 || t.k == 4) && t.t == s
  | none => false

def seesL (l : List Tk) : Nat → List ByteArray → Bool
  | _, [] => true
  | i, s :: ss => seesB l i s.data.toList && seesL l (i + 1) ss
theorem seesL_short (l : List Tk) : ∀ (ss : List ByteArray) (i : Nat), l.length - i < ss.length → seesL l i ss = false
  | [], i, h => by simp at h
  | s :: ss, i, h => by
    rw [seesL]
    by_cases hi : i < l.length
    · rw [seesL_short l ss (i + 1) (by simp at h; omega), Bool.and_false]
    · have : seesB l i s.data.toList = false := by
        unfold seesB
        rw [List.getElem?_eq_none (by omega)]
      rw [this, Bool.false_and]
/-- texts that lie in a block -/
structure TXB (w : World) (p : Nat) (ss : List ByteArray) : Prop where
  low : p < w.heap.size
  cell : ∀ (m : Nat) (s : ByteArray), ss[m]? = some s → w.cell? ⟨p, m, none⟩ = some (.string s)
theorem TXB.keep {w w' : World} {p n : Nat} {ss : List ByteArray} (h : TXB w p ss) (hb : Below n w w') (hl : p < n) : TXB w' p ss :=
  ⟨Nat.lt_of_lt_of_le h.low hb.size, fun m s hs => (hb.cell (p := ⟨p, m, none⟩) hl).trans (h.cell m s hs)⟩

theorem TXB.one (w : World) (t : TypeId) (s : ByteArray) : TXB (w.alloc (.cells #[.string s] t)) w.heap.size [s] := ⟨by simp, fun m x hx => by
  cases m with
  | zero => simp at hx; subst hx; simp [go_sem]
  | succ m => simp at hx⟩
theorem TXB.two (w : World) (t : TypeId) (s r : ByteArray) : TXB (w.alloc (.cells #[.string s, .string r] t)) w.heap.size [s, r] := ⟨by simp, fun m x hx => by
  match m, hx with
  | 0, hx => simp at hx; subst hx; simp [go_sem]
  | 1, hx => simp at hx; subst hx; simp [go_sem]
  | m + 2, hx => simp at hx⟩

set_option maxHeartbeats 8000000 in
theorem sees_any (R g i : Nat) (e : Int) (l : List Tk) (ss : List ByteArray) (p : Nat) (w : World) (h : WK w R g l.length i e) (hT : TKS w g l) (hp : TXB w p ss) (hs : ss.length ≤ 1000) (_hl : l.length ≤ 4000) :
    Calls Tryz.prog 43 #[.pointer (some ⟨R, 0, none⟩), .slice (some ⟨p, 0, none⟩) ss.length ss.length] w fun r w' => r = .returned (.bool (seesL l i ss)) ∧ Below w.heap.size w w' := by
  by_cases hsh : l.length - i < ss.length
  · rw [seesL_short l ss i hsh]
    obtain ⟨q, c, h1, h2, h3⟩ := h.left
    have hsh' : ((l.length - i : Nat) : Int) < (ss.length : Int) := by omega
    clear hp hT
    go_enter Tryz.func43, Tryz.ntmps43
    go_wp2
    go_ret
    exact ⟨rfl, Below.refl _ _⟩
  · have hsh' : ¬ ((l.length - i : Nat) : Int) < (ss.length : Int) := by omega
    have HW := hide h
    have HT := hide hT
    have HP := hide hp
    obtain ⟨q, c, h1, h2, h3⟩ := h.left
    clear h hT hp
    generalize hSB : seesL l i ss = SB
    go_enter Tryz.func43, Tryz.ntmps43
    go_wp2
    clear h1 h2 h3
    go_loopw [18] (fun x wr => ∃ m : Nat, m ≤ ss.length ∧ x = .int .i64 (m : Int) ∧ Hid (SB = seesL l (i + m) (ss.drop m)) ∧ Hid (Below w.heap.size w wr)) (fun x _ => ss.length - (intOf x).toNat)
    case atStart => exact ⟨0, Nat.zero_le _, rfl, hide hSB.symm, hide (Below.refl _ _)⟩
    case round =>
      obtain ⟨m, hml, rfl, H, HB⟩ := hrel
      clear hSB
      by_cases hlt2 : m < ss.length
      · have hi1 : (m : Int) < (ss.length : Int) := by omega
        obtain ⟨s, hu⟩ : ∃ s, ss[m]? = some s := ⟨_, List.getElem?_eq_getElem hlt2⟩
        have hdrop : ss.drop m = s :: ss.drop (m + 1) := by
          rw [List.drop_eq_getElem_cons hlt2]
          congr 1
          rw [List.getElem?_eq_getElem hlt2] at hu
          exact Option.some.inj hu
        obtain ⟨t, ht⟩ : ∃ t, l[i + m]? = some t := ⟨_, List.getElem?_eq_getElem (by omega)⟩
        have HW2 := (unhide HW).keep (unhide HB) (unhide HW).low
        obtain ⟨q, c, h1, h2, h3⟩ := HW2.left
        obtain rfl := h2 (by omega)
        obtain ⟨c0, c1, c2, c3, c4⟩ := ((unhide HT).keep (unhide HB) (unhide HT).low).five ht
        rw [Nat.add_mul] at c0 c1 c2 c3 c4
        have cs := ((unhide HP).keep (unhide HB) (unhide HP).low).cell m s hu
        have hm2 : m < l.length - i := by omega
        have HS : Hid (SB = (((t.k == 1 || t.k == 4) && t.t == s.data.toList) && seesL l (i + (m + 1)) (ss.drop (m + 1)))) := hide (by
          rw [unhide H, hdrop, seesL, Nat.add_assoc]
          congr 1
          unfold seesB
          rw [ht])
        have NB := hide (below_via (unhide HB) (vbelow_new wr (.cells #[.int .i64 t.k, .string ⟨t.t.toArray⟩, .int .i64 t.c, .int .i64 t.x, .int .i64 (t.a : Int)] 111)))
        clear H hdrop hu ht h2 HW2 HB
        by_cases hk : t.k = 1 ∨ t.k = 4
        · by_cases ht2 : t.t = s.data.toList
          · have HE : Hid (SB = seesL l (i + (m + 1)) (ss.drop (m + 1))) := hide (by rw [unhide HS, ht2]; rcases hk with q | q <;> simp [q])
            have hs : s = ⟨t.t.toArray⟩ := by rw [ht2]
            subst hs
            clear HS ht2
            rcases hk with hk | hk
            · rw [hk] at c0 NB
              go_wp2
              go_round
              case rel => exact ⟨m + 1, by omega, by go_num, HE, NB⟩
              case measure => simp [intOf]; omega
            · rw [hk] at c0 NB
              go_wp2
              go_round
              case rel => exact ⟨m + 1, by omega, by go_num, HE, NB⟩
              case measure => simp [intOf]; omega
          · have HE : Hid (SB = false) := hide (by rw [unhide HS]; simp [ht2])
            have hq : (t.t == s.toList) = false := by
              rw [beq_eq_false_iff_ne]
              intro q
              apply ht2
              have q2 : (⟨t.t.toArray⟩ : ByteArray).toList = s.toList := by simpa using q
              rw [← tl_eq4.1 q2]
            clear HS ht2
            rcases hk with hk | hk
            · rw [hk] at c0 NB
              go_wp2
              go_ret
              rw [unhide HE]
              exact ⟨rfl, unhide NB⟩
            · rw [hk] at c0 NB
              go_wp2
              go_ret
              rw [unhide HE]
              exact ⟨rfl, unhide NB⟩
        · have HE : Hid (SB = false) := hide (by
            rw [unhide HS]
            have n1 : (t.k == 1) = false := by rw [beq_eq_false_iff_ne]; omega
            have n4 : (t.k == 4) = false := by rw [beq_eq_false_iff_ne]; omega
            rw [n1, n4]; rfl)
          have n1 : (t.k != 1) = true := by rw [bne_iff_ne]; omega
          have n4 : (t.k != 4) = true := by rw [bne_iff_ne]; omega
          clear HS
          go_wp2
          go_ret
          rw [unhide HE]
          exact ⟨rfl, unhide NB⟩
      · obtain rfl : m = ss.length := by omega
        have HE : Hid (SB = true) := hide (by rw [unhide H, List.drop_length, seesL])
        clear H
        go_wp2
        go_ret
        rw [unhide HE]
        exact ⟨rfl, unhide HB⟩

theorem WK.set {w : World} {R g n i j : Nat} {e : Int} (h : WK w R g n i e) (hj : j ≤ n) {p : Option Addr} {c : Nat} (hp : j < n → p = some ⟨g, j * 5, none⟩) (hc : n - j ≤ c) : WK (w.setCell ⟨R, 0, none⟩ (.slice p (n - j) c)) R g n j e := by
  obtain ⟨q, d, h1, _, _⟩ := h.left
  have hf := h.fin
  have hz := h.free
  refine ⟨by simpa using h.low, hj, ⟨p, c, ?_, hp, hc⟩, ?_, ?_⟩
  · simp [go_sem, h1]
  · simp [go_sem, hf]
  · simp [go_sem, hz]
theorem TKS.but {w w' : World} {R g : Nat} {l : List Tk} (h : TKS w g l) (hb : But R w w') (ne : g ≠ R) : TKS w' g l :=
  ⟨Nat.lt_of_lt_of_le h.low hb.size, fun i t ht j v hv => (hb.cell (q := ⟨g, i * 5 + j, none⟩) h.low ne).trans (h.cell i t ht j v hv)⟩

theorem add_five (g i k : Nat) : (⟨g, i * 5, none⟩ : Addr).add (k * 5) = ⟨g, (i + k) * 5, none⟩ := by
  by_cases hk : k * 5 = 0
  · have : k = 0 := by omega
    subst this
    rfl
  · simp only [Addr.add, if_neg hk]
    rw [Nat.add_mul]

set_option maxHeartbeats 4000000 in
theorem take_any (R g i : Nat) (e : Int) (l : List Tk) (ss : List ByteArray) (p : Nat) (w : World) (h : WK w R g l.length i e) (hT : TKS w g l) (hp : TXB w p ss) (hs : ss.length ≤ 1000) (hl : l.length ≤ 4000) :
    Calls Tryz.prog 45 #[.pointer (some ⟨R, 0, none⟩), .slice (some ⟨p, 0, none⟩) ss.length ss.length] w fun r w' => r = .returned (.bool (seesL l i ss)) ∧ WK w' R g l.length (if seesL l i ss = true then i + ss.length else i) e ∧ Bt R w w' := by
  have C := hide (sees_any R g i e l ss p w h hT hp hs hl)
  have HL : Hid (seesL l i ss = true → ss.length ≤ l.length - i) := hide (by
    intro q
    by_cases hsh : l.length - i < ss.length
    · rw [seesL_short l ss i hsh] at q; cases q
    · omega)
  have HW := hide h
  clear h hT hp
  generalize seesL l i ss = SB at *
  cases SB
  · go_enter Tryz.func45, Tryz.ntmps45
    go_wp2_with fail
    refine (unhide C).mono ?_
    rintro r w1 ⟨rfl, hb⟩
    have H1 := hide ((unhide HW).keep hb (unhide HW).low)
    have H2 := hide (Bt.of (R := R) hb)
    clear hb
    go_wp2
    go_ret
    exact ⟨rfl, unhide H1, unhide H2⟩
  · have hle := unhide HL rfl
    have hil := (unhide HW).le
    go_enter Tryz.func45, Tryz.ntmps45
    go_wp2_with fail
    refine (unhide C).mono ?_
    rintro r w1 ⟨rfl, hb⟩
    have H1 := hide ((unhide HW).keep hb (unhide HW).low)
    have H2 := hide (Bt.of (R := R) hb)
    obtain ⟨q, c, h1, h2, h3⟩ := (unhide H1).left
    have hz := (unhide H1).free
    clear hb
    have hc : ss.length ≤ c := by omega
    have e1 : l.length - i - ss.length = l.length - (i + ss.length) := by omega
    go_wp2
    all_goals
      go_ret
      refine ⟨rfl, (unhide H1).set (by omega) (fun hj => ?_) (by omega), (unhide H2).trans Bt.set⟩
      first
        | (exfalso; omega)
        | (rw [h2 (by omega)]; exact congrArg some (add_five g i ss.length))

theorem WK.next {w : World} {R g i : Nat} {e : Int} {l : List Tk} {t : Tk} (h : WK w R g l.length i e) (ht : l[i]? = some t) : ∃ c, w.cell? ⟨R, 0, none⟩ = some (.slice (some ⟨g, i * 5, none⟩) (l.length - i) c) ∧ l.length - i ≤ c ∧ i < l.length := by
  have hi : i < l.length := by
    rcases Nat.lt_or_ge i l.length with q | q
    · exact q
    · rw [List.getElem?_eq_none q] at ht; cases ht
  obtain ⟨q, c, h1, h2, h3⟩ := h.left
  rw [h2 hi] at h1
  exact ⟨c, h1, h3, hi⟩

abbrev tokV (t : Tk) : Array Value := #[.int .i64 t.k, .string ⟨t.t.toArray⟩, .int .i64 t.c, .int .i64 t.x, .int .i64 (t.a : Int)]

set_option maxHeartbeats 2000000 in
theorem next_any (R g i : Nat) (e : Int) (l : List Tk) (t : Tk) (w : World) (h : WK w R g l.length i e) (hT : TKS w g l) (ht : l[i]? = some t) :
    Calls Tryz.prog 74 #[.pointer (some ⟨R, 0, none⟩)] w fun r w' => r = .returned (.agg (tokV t)) ∧ Below w.heap.size w w' := by
  obtain ⟨c, h1, h3, hi⟩ := h.next ht
  obtain ⟨c0, c1, c2, c3, c4⟩ := hT.five ht
  have lR := h.low
  have lg := hT.low
  have hz : (((l.length - i : Nat) : Int) == 0) = false := by rw [beq_eq_false_iff_ne]; omega
  have hp : 0 < l.length - i := by omega
  clear h hT
  go_enter Tryz.func74, Tryz.ntmps74
  go_wp2
  exact bodyPost_ret (v := .agg (tokV t)) (by simp [results, Tryz.results74, go_sem]) rfl ⟨rfl, vbelow_new _ _⟩

set_option maxHeartbeats 2000000 in
theorem end_any (R g n : Nat) (e : Int) (w : World) (h : WK w R g n n e) :
    Calls Tryz.prog 27 #[.pointer (some ⟨R, 0, none⟩)] w fun r w' => r = .returned .nilIface ∧ w' = w := by
  obtain ⟨q, c, h1, _, _⟩ := h.left
  rw [Nat.sub_self] at h1
  go_enter Tryz.func27, Tryz.ntmps27
  go_wp2
  go_ret
  exact ⟨rfl, rfl⟩

set_option maxHeartbeats 4000000 in
theorem need_yes (R g i : Nat) (e : Int) (l : List Tk) (s : ByteArray) (w : World) (h : WK w R g l.length i e) (hT : TKS w g l) (hl : l.length ≤ 4000) (hs : seesL l i [s] = true) :
    Calls Tryz.prog 69 #[.pointer (some ⟨R, 0, none⟩), .string s] w fun r w' => r = .returned .nilIface ∧ WK w' R g l.length (i + 1) e ∧ Bt R w w' := by
  have C := hide (fun (wx : World) (hb : Below w.heap.size w wx) (p : Nat) (hp : TXB wx p [s]) => take_any R g i e l [s] p wx (h.keep hb h.low) (hT.keep hb hT.low) hp (by simp) hl)
  rw [hs] at C
  clear h hT hs
  go_enter Tryz.func69, Tryz.ntmps69
  go_wp2_with fail
  refine (unhide C _ (vbelow_new w _) w.heap.size (TXB.one w _ s)).mono ?_
  rintro r w1 ⟨rfl, hk, hb⟩
  have HK := hide hk
  have HB := hide ((Bt.of (R := R) (vbelow_new w _)).trans hb)
  clear hb hk C
  go_wp2
  go_ret
  exact ⟨rfl, unhide HK, unhide HB⟩
end Go.Proofs.YthpjejfgoohhfaaGreatDoor
