/- Rows of cells that a slice reads, nil let in; sources in memory. No walk. -/
import Derived.Test.YtkcbmnboccjnnaaGreatDoorSo
import Derived.Maps.AppendAt
import Derived.Deep.AppendLies
namespace Go.Proofs.YtkcbmnboccjnnaaGreatDoor
open Go.RowKit
/-- A slice reads these cells, from below block B. -/
def Rk (w : World) (B : Nat) (A : Option Addr) (xs : List Value) : Prop := 0 < xs.length → ∃ b o, A = some ⟨b, o, none⟩ ∧ b < B ∧ ∀ j u, xs[j]? = some u → w.cell? ⟨b, o + j, none⟩ = some u
theorem Rk.nil {w : World} {B : Nat} {A : Option Addr} : Rk w B A [] := fun h => absurd h (by simp)
theorem Rk.keep {w w' : World} {B : Nat} {A : Option Addr} {xs : List Value} (h : Rk w B A xs) (hk : ∀ p : Addr, p.block < B → w'.cell? p = w.cell? p) : Rk w' B A xs := fun hn => by
  obtain ⟨b, o, e, hb, hc⟩ := h hn
  exact ⟨b, o, e, hb, fun j u hu => (hk ⟨b, o + j, none⟩ hb).trans (hc j u hu)⟩
theorem Rk.more {w : World} {B B' : Nat} {A : Option Addr} {xs : List Value} (h : Rk w B A xs) (hB : B ≤ B') : Rk w B' A xs := fun hn => by
  obtain ⟨b, o, e, hb, hc⟩ := h hn
  exact ⟨b, o, e, by omega, hc⟩
theorem Rk.below {w w' : World} {B : Nat} {A : Option Addr} {xs : List Value} (h : Rk w B A xs) (hb : Below B w w') : Rk w' B A xs := h.keep fun _ hp => hb.cell hp
theorem Rk.on {w w' : World} {A : Option Addr} {xs : List Value} (h : Rk w w.heap.size A xs) (hb : Below w.heap.size w w') : Rk w' w'.heap.size A xs := (h.below hb).more hb.size
theorem Rk.of_own {w : World} {base size n c : Nat} {e : TypeId} {A : Option Addr} {m : Nat} {xs : List Value} (h : w.ownsRow base e size (.slice A m c) n xs) : Rk w w.heap.size A xs := fun hn => by
  rcases h.2 with ⟨_, h0⟩ | ⟨g, cap, cur, hv, _, hg, _⟩
  · have := h.1
    rw [h0, Nat.zero_mul] at this
    omega
  · injection hv with h1 _ _
    subst h1
    refine ⟨g, 0, rfl, lt_blk hg, fun j u hu => ?_⟩
    have := h.cells (g := g) rfl j u hu
    rw [addr_add] at this
    rw [Nat.zero_add]
    exact this
/-- A cell of an element of a row. -/
theorem flat_at {α : Type} {enc : α → List Value} {k : Nat} (hk : ∀ x, (enc x).length = k) : ∀ (l : List α) (i : Nat) (x : α), l[i]? = some x → ∀ j v, (enc x)[j]? = some v → (l.flatMap enc)[i * k + j]? = some v
  | [], i, x, h => by simp at h
  | y :: l, 0, x, h => by
    intro j v hv
    obtain rfl : y = x := by simpa using h
    have hj : j < (enc y).length := by
      rcases Nat.lt_or_ge j (enc y).length with hl | hg
      · exact hl
      · rw [List.getElem?_eq_none hg] at hv; cases hv
    rw [Nat.zero_mul, Nat.zero_add, List.flatMap_cons, List.getElem?_append_left hj]
    exact hv
  | y :: l, i + 1, x, h => by
    intro j v hv
    have ih := flat_at hk l i x (by simpa using h) j v hv
    rw [List.flatMap_cons, List.getElem?_append_right (by rw [hk, Nat.add_mul]; omega), hk]
    rw [show (i + 1) * k + j - k = i * k + j by rw [Nat.add_mul]; omega]
    exact ih
theorem flat_len {α : Type} {enc : α → List Value} {k : Nat} (hk : ∀ x, (enc x).length = k) : ∀ l : List α, (l.flatMap enc).length = l.length * k
  | [] => by simp
  | y :: l => by rw [List.flatMap_cons, List.length_append, hk, flat_len hk l, List.length_cons, Nat.add_mul]; omega
theorem flat_snoc {α : Type} (enc : α → List Value) (l : List α) (x : α) : (l ++ [x]).flatMap enc = l.flatMap enc ++ enc x := by
  rw [List.flatMap_append]
  simp
theorem Rk.at_ {α : Type} {enc : α → List Value} {k : Nat} {w : World} {B : Nat} {A : Option Addr} {l : List α} (h : Rk w B A (l.flatMap enc)) (hk : ∀ x, (enc x).length = k) (h0 : 0 < k) {i : Nat} {x : α} (hx : l[i]? = some x) :
    ∃ b o, A = some ⟨b, o, none⟩ ∧ b < B ∧ ∀ j v, (enc x)[j]? = some v → w.cell? ⟨b, o + i * k + j, none⟩ = some v := by
  have hi : i < l.length := by
    rcases Nat.lt_or_ge i l.length with hl | hg
    · exact hl
    · rw [List.getElem?_eq_none hg] at hx; cases hx
  obtain ⟨b, o, e, hb, hc⟩ := h (by rw [flat_len hk]; exact Nat.mul_pos (by omega) h0)
  refine ⟨b, o, e, hb, fun j v hv => ?_⟩
  rw [Nat.add_assoc]
  exact hc _ _ (flat_at hk l i x hx j v hv)
def rcell (r : Ru) : List Value := [.string r.nm, .int .i64 r.fr, .int .i64 r.tl, .int .i64 r.m, .int .u8 r.k, .int .i64 r.n, .int .i64 r.d, .int .i64 r.s, .int .u8 r.c, .int .i64 r.sv, .string r.lt]
def ecell (e : Er) : List Value := [.int .i64 e.sd, .int .u8 e.k, .int .i64 e.sv, .string e.ru, .string e.fm, .bool e.en, .int .i64 e.u.y, .int .i64 e.u.m, .int .u8 e.u.k, .int .i64 e.u.n, .int .i64 e.u.d, .int .i64 e.u.s, .int .u8 e.u.c]
def lcell (k : Lk) : List Value := [.string k.tg, .string k.nm]
/-- A zone in memory: its name, and where its eras lie. -/
structure Zd where
  nm : ByteArray
  A : Option Addr
  c : Nat
  es : List Er
def zcell (z : Zd) : List Value := [.string z.nm, .slice z.A z.es.length z.c]
def Zd.zn (z : Zd) : Zn := ⟨z.nm, z.es⟩
theorem rcell_len (r : Ru) : (rcell r).length = 11 := rfl
theorem ecell_len (e : Er) : (ecell e).length = 13 := rfl
theorem lcell_len (k : Lk) : (lcell k).length = 2 := rfl
theorem zcell_len (z : Zd) : (zcell z).length = 2 := rfl
/-- A source in memory. -/
structure Sd where
  rA : Option Addr
  rc : Nat
  rs : List Ru
  zA : Option Addr
  zc : Nat
  zs : List Zd
  lA : Option Addr
  lc : Nat
  ls : List Lk
@[reducible] def Sd.val (d : Sd) : Value := .agg #[.slice d.rA d.rs.length d.rc, .slice d.zA d.zs.length d.zc, .slice d.lA d.ls.length d.lc]
def Sd.src (d : Sd) : Src := ⟨d.rs, d.zs.map Zd.zn, d.ls⟩
/-- How great a source's parts may be. -/
structure Sd.fits (d : Sd) : Prop where
  r : d.rs.length ≤ 9223372036854775807
  z : d.zs.length ≤ 9223372036854775807
  l : d.ls.length ≤ 9223372036854775807
  rn : ∀ r ∈ d.rs, r.nm.size ≤ 9223372036854775807 ∧ r.lt.size ≤ 9223372036854775807
  zn : ∀ z ∈ d.zs, z.nm.size ≤ 9223372036854775807 ∧ z.es.length ≤ 9223372036854775807 ∧ ∀ e ∈ z.es, e.ru.size ≤ 9223372036854775807 ∧ e.fm.size ≤ 9223372036854775807
  ln : ∀ k ∈ d.ls, k.tg.size ≤ 9223372036854775807 ∧ k.nm.size ≤ 9223372036854775807
/-- Where a source's parts lie. -/
structure Sd.at_ (W : World) (B : Nat) (d : Sd) : Prop where
  r : Rk W B d.rA (d.rs.flatMap rcell)
  z : Rk W B d.zA (d.zs.flatMap zcell)
  e : ∀ z ∈ d.zs, Rk W B z.A (z.es.flatMap ecell)
  l : Rk W B d.lA (d.ls.flatMap lcell)
theorem Sd.at_.below {W W' : World} {B : Nat} {d : Sd} (h : d.at_ W B) (hb : Below B W W') : d.at_ W' B := ⟨h.r.below hb, h.z.below hb, fun z hz => (h.e z hz).below hb, h.l.below hb⟩
theorem Sd.at_.more {W : World} {B B' : Nat} {d : Sd} (h : d.at_ W B) (hb : B ≤ B') : d.at_ W B' := ⟨h.r.more hb, h.z.more hb, fun z hz => (h.e z hz).more hb, h.l.more hb⟩
theorem Sd.at_.on {W W' : World} {d : Sd} (h : d.at_ W W.heap.size) (hb : Below W.heap.size W W') : d.at_ W' W'.heap.size := (h.below hb).more hb.size
def Sd.zero : Sd := ⟨none, 0, [], none, 0, [], none, 0, []⟩
theorem zero_at (W : World) (B : Nat) : Sd.zero.at_ W B := ⟨Rk.nil, Rk.nil, (fun _ h => by cases h), Rk.nil⟩
end Go.Proofs.YtkcbmnboccjnnaaGreatDoor
