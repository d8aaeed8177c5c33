/- Flaws of a source, as a list; how a finder keeps them (package valid); no walk. -/
import Derived.Test.YthlbockphdbpkaaDoorNa
namespace Go.Proofs.YthlbockphdbpkaaDoor
open Go.RowKit Go.Maps
set_option maxRecDepth 100000
/-- A flaw: why, and of which name. -/
structure Fl where
  why : Int
  nm : ByteArray
def fcell (f : Fl) : List Value := [.int .i64 f.why, .string f.nm]
theorem fcell_len (f : Fl) : (fcell f).length = 2 := rfl
/-- What is told of the first so many of a list, one behind the other. -/
def Vd.upto {α : Type} (f : Nat → α → List Fl) (l : List α) : Nat → List Fl
  | 0 => []
  | k + 1 => Vd.upto f l k ++ (match l[k]? with
    | some x => f k x
    | none => [])
theorem upto_snoc {α : Type} (f : Nat → α → List Fl) (l : List α) (k : Nat) (x : α) (h : l[k]? = some x) : Vd.upto f l (k + 1) = Vd.upto f l k ++ f k x := by
  show Vd.upto f l k ++ (match l[k]? with | some x => f k x | none => []) = _
  rw [h]
theorem upto_nil {α : Type} {f : Nat → α → List Fl} {l : List α} : ∀ {n : Nat}, n ≤ l.length → (Vd.upto f l n = [] ↔ ∀ (k : Nat) (x : α), k < n → l[k]? = some x → f k x = []) := by
  intro n
  induction n with
  | zero => exact fun _ => ⟨fun _ k x h => absurd h (Nat.not_lt_zero _), fun _ => rfl⟩
  | succ n ih =>
    intro hn
    obtain ⟨x, hx⟩ : ∃ x, l[n]? = some x := ⟨_, List.getElem?_eq_getElem hn⟩
    rw [upto_snoc f l n x hx, List.append_eq_nil_iff, ih (by omega)]
    constructor
    · rintro ⟨h1, h2⟩ k y hk hy
      by_cases e : k = n
      · subst e
        rw [hx] at hy
        injection hy with hy
        rw [← hy]
        exact h2
      · exact h1 k y (by omega) hy
    · exact fun h => ⟨fun k y hk hy => h k y (by omega) hy, h n x (by omega) hx⟩
theorem upto_len {α : Type} {f : Nat → α → List Fl} {l : List α} {c : Nat} (h : ∀ k x, (f k x).length ≤ c) : ∀ n, (Vd.upto f l n).length ≤ c * n
  | 0 => Nat.zero_le _
  | n + 1 => by
    show (Vd.upto f l n ++ (match l[n]? with | some x => f n x | none => [])).length ≤ _
    rw [List.length_append, Nat.mul_succ]
    have := upto_len (l := l) h n
    cases hx : l[n]? with
    | none => simp; omega
    | some x => have := h n x; simp; omega
/-- Names that were there ahead. -/
def Vd.twF (L : List ByteArray) (k : Nat) (x : ByteArray) : List Fl := if Ld.inb x (L.take k) = true then [⟨8, x⟩] else []
def Vd.tw (L : List ByteArray) : List Fl := Vd.upto (Vd.twF L) L L.length
/-- Eras whose rules are not there. -/
def Vd.rlF (rs : List Ru) (e : Er) : List Fl := if e.k = 2 ∧ Ld.inb e.ru (rs.map Ru.nm) = false then [⟨3, e.ru⟩] else []
def Vd.rlZ (rs : List Ru) (es : List Er) (n : Nat) : List Fl := Vd.upto (fun _ e => Vd.rlF rs e) es n
def Vd.rl (rs : List Ru) (zs : List Zd) (n : Nat) : List Fl := Vd.upto (fun _ z => Vd.rlZ rs z.es z.es.length) zs n
/-- When an era ends. -/
def Vd.nom (e : Er) : Int × Int := if Mo.right e.u.s e.u.c = false then (0, 2) else if (Mo.inV e.u.k e.u.n e.u.d e.u.y e.u.m).2 = 0 then ((Mo.inV e.u.k e.u.n e.u.d e.u.y e.u.m).1 * 86400 + e.u.s, 0) else (0, (Mo.inV e.u.k e.u.n e.u.d e.u.y e.u.m).2)
def Vd.ahd (a : Int) (e : Er) : Int := if e.en = true ∧ (Vd.nom e).2 = 0 then (Vd.nom e).1 else a
def Vd.aheads (es : List Er) (k : Nat) : Int := (es.take k).foldl Vd.ahd (-9223372036854775808)
theorem aheads_snoc {es : List Er} {k : Nat} {e : Er} (h : es[k]? = some e) : Vd.aheads es (k + 1) = Vd.ahd (Vd.aheads es k) e := by
  obtain ⟨hk, he⟩ := List.getElem?_eq_some_iff.1 h
  unfold Vd.aheads
  rw [List.take_succ_eq_append_getElem hk, List.foldl_append, he]
  rfl
def Vd.orF (n : ByteArray) (a : Int) (e : Er) : List Fl := if e.en = true ∧ ((Vd.nom e).2 ≠ 0 ∨ (Vd.nom e).1 ≤ a) then [⟨10, n⟩] else []
def Vd.orZ (n : ByteArray) (es : List Er) (k : Nat) : List Fl := Vd.upto (fun k e => Vd.orF n (Vd.aheads es k) e) es k
def Vd.or (zs : List Zd) (n : Nat) : List Fl := Vd.upto (fun _ z => Vd.orZ z.nm z.es z.es.length) zs n
/-- Links whose targets lead to no zone. -/
noncomputable def Vd.ulF (Z : List ByteArray) (K : List Lk) (k : Lk) : List Fl := if (Ld.zn Z K k.tg).2 = 0 then [] else [⟨(Ld.zn Z K k.tg).2, k.nm⟩]
noncomputable def Vd.ul (Z : List ByteArray) (K : List Lk) (n : Nat) : List Fl := Vd.upto (fun _ k => Vd.ulF Z K k) K n
/-- All flaws, in order. -/
noncomputable def Vd.all (d : Sd) : List Fl := Vd.tw d.names ++ Vd.rl d.rs d.zs d.zs.length ++ Vd.or d.zs d.zs.length ++ Vd.ul (d.zs.map Zd.nm) d.ls d.ls.length
/-- How often a text stands among the first k: what the map holds. -/
def Vd.cnt (L : List ByteArray) (x : ByteArray) : Nat := L.countP fun y => decide (y = x)
def Cnt (L : List ByteArray) (M : DataW Unit) : Prop := ∀ x, M.atKey (mkey x) (.lit (.int .i64 0)) = .lit (.int .i64 (Vd.cnt L x : Nat))
theorem cnt_le (L : List ByteArray) (x : ByteArray) : Vd.cnt L x ≤ L.length := List.countP_le_length
theorem cnt_pos {L : List ByteArray} {x : ByteArray} : 0 < Vd.cnt L x ↔ x ∈ L := by
  unfold Vd.cnt
  rw [List.countP_pos_iff]
  constructor
  · rintro ⟨y, hy, e⟩
    rw [of_decide_eq_true e] at hy
    exact hy
  · exact fun h => ⟨x, h, decide_eq_true rfl⟩
theorem cnt_snoc (L : List ByteArray) (x y : ByteArray) : Vd.cnt (L ++ [x]) y = Vd.cnt L y + if x = y then 1 else 0 := by
  unfold Vd.cnt
  rw [List.countP_append, List.countP_singleton]
  by_cases h : x = y
  · simp [h]
  · simp [h]
theorem cnt_put {L : List ByteArray} {M : DataW Unit} {x : ByteArray} (h : Cnt L M) (hM : IsMap M) (hs : x.size ≤ 9223372036854775807) : Cnt (L ++ [x]) (M.put (mkey x) (.lit (.int .i64 ((Vd.cnt L x : Nat) + 1 : Int)))) := fun y => by
  rw [cnt_snoc]
  by_cases hxy : x = y
  · subst hxy
    rw [atKey_put_same hM (mkey_key hs), if_pos rfl]
    rfl
  · rw [atKey_put_other (mkey_ne (Ne.symm hxy)), h y, if_neg hxy]
    rfl
end Go.Proofs.YthlbockphdbpkaaDoor
