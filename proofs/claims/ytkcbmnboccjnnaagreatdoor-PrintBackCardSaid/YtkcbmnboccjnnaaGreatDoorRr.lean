/- The reader of package source in memory: what lies where, and how it goes on. No walk. -/
import Derived.Test.YtkcbmnboccjnnaaGreatDoorLi
import Derived.Test.YtkcbmnboccjnnaaGreatDoorSo
namespace Go.Proofs.YtkcbmnboccjnnaaGreatDoor
open Go.RowKit
theorem own_not_blk {w : World} {b : Nat} {e t : TypeId} {k n : Nat} {v : Value} {xs : List Value} {g : Nat} {cs : Array Value} (h : w.ownsRow b e k v n xs) (hg : w.heap[g]? = some (.cells cs t (0, 0))) (hne : e ≠ t) : v.ownBlock ≠ some g := by
  rcases h.2 with ⟨rfl, _⟩ | ⟨g', cap, cur, rfl, _, hh, _⟩
  · simp [Value.ownBlock]
  · intro he
    have : g' = g := by simpa [Value.ownBlock] using he
    subst this
    rw [hg] at hh
    injection hh with hh
    injection hh with _ ht
    exact hne ht.symm
theorem grown_set (w : World) (p : Addr) (u : Value) : w.grownBy (w.setCell p u) (some p.block) :=
  ⟨rfl, rfl, rfl, by simp [World.setCell], fun i _ hne => Below.heap_setCell w p u i (by rintro rfl; exact hne rfl)⟩
theorem own_set {w : World} {b : Nat} {e : TypeId} {k n : Nat} {v : Value} {xs : List Value} (h : w.ownsRow b e k v n xs) {p : Addr} (hp : v.ownBlock ≠ some p.block) (u : Value) : (w.setCell p u).ownsRow b e k v n xs := h.kept (grown_set w p u) (.inr hp)
/-- The reader at block g: its rules, zones, links; the zones that are read whole lie ahead of block lim, the eras of one that goes on behind it. -/
structure RdAt (W : World) (B g lim : Nat) (s : St) (vr vz vl : Value) (zd : List Zd) (cz : Option Zd) : Prop where
  base : B ≤ g
  limB : B ≤ lim
  limW : lim ≤ W.heap.size
  blk : W.heap[g]? = some (.cells #[vr, vz, vl, .bool s.cur.isSome] 71 (0, 0))
  r : W.ownsRow B 48 11 vr s.rs.length (s.rs.flatMap rcell)
  z : W.ownsRow B 52 2 vz (zd ++ cz.toList).length ((zd ++ cz.toList).flatMap zcell)
  l : W.ownsRow B 57 2 vl s.ls.length (s.ls.flatMap lcell)
  zn : zd.map Zd.zn = s.zs
  cn : cz.map Zd.zn = s.cur
  e : ∀ d ∈ zd, W.ownsRow B 65 13 (.slice d.A d.es.length d.c) d.es.length (d.es.flatMap ecell)
  el : ∀ d ∈ zd, ∀ k, (Value.slice d.A d.es.length d.c).ownBlock = some k → k < lim
  ce : ∀ d, cz = some d → W.ownsRow lim 65 13 (.slice d.A d.es.length d.c) d.es.length (d.es.flatMap ecell)
def Rdr (W : World) (B g : Nat) (s : St) : Prop := ∃ lim vr vz vl zd cz, RdAt W B g lim s vr vz vl zd cz
theorem RdAt.on {W W' : World} {B g lim : Nat} {s : St} {vr vz vl : Value} {zd : List Zd} {cz : Option Zd} (h : RdAt W B g lim s vr vz vl zd cz) (hb : Below W.heap.size W W') : RdAt W' B g lim s vr vz vl zd cz :=
  ⟨h.base, h.limB, Nat.le_trans h.limW hb.size, (hb.block g (lt_blk h.blk)).trans h.blk, own_on h.r hb, own_on h.z hb, own_on h.l hb, h.zn, h.cn, fun d hd => own_on (h.e d hd) hb, h.el, fun d hd => own_on (h.ce d hd) hb⟩
theorem set_grown {w w' : World} {row : Option Nat} {g : Nat} {t : TypeId} {cs : Array Value} (hg : w.grownBy w' row) (h : w.heap[g]? = some (.cells cs t (0, 0))) (hne : row ≠ some g) : w'.heap[g]? = some (.cells cs t (0, 0)) :=
  (hg.block g (lt_blk h) (fun e => hne e.symm)).trans h
section
variable {W W' : World} {B g lim : Nat} {s : St} {vr vz vl : Value} {zd : List Zd} {cz : Option Zd}
/-- A rule more. -/
theorem RdAt.rule (h : RdAt W B g lim s vr vz vl zd cz) (hg : W.grownBy W' vr.ownBlock) {v' : Value} {r : Ru} (hown : W'.ownsRow B 48 11 v' (s.rs.length + 1) (s.rs.flatMap rcell ++ rcell r)) :
    RdAt (W'.setCell ⟨g, 0, none⟩ v') B g lim { s with rs := s.rs ++ [r] } v' vz vl zd cz := by
  have hb := set_grown hg h.blk (own_not_blk h.r h.blk (by decide))
  have ap : ∀ {e : TypeId} {b k n : Nat} {v : Value} {xs : List Value}, W.ownsRow b e k v n xs → e ≠ 48 → e ≠ 71 → (W'.setCell ⟨g, 0, none⟩ v').ownsRow b e k v n xs := fun h' h1 h2 => by
    have hk := h'.kept hg (own_apart h' h.r h1)
    exact own_set hk (own_not_blk hk hb h2) _
  refine ⟨h.base, h.limB, Nat.le_trans h.limW (Nat.le_trans hg.size (by simp [World.setCell])), ?_, ?_, ap h.z (by decide) (by decide), ap h.l (by decide) (by decide), h.zn, h.cn, fun d hd => ap (h.e d hd) (by decide) (by decide), h.el, fun d hd => ap (h.ce d hd) (by decide) (by decide)⟩
  · rw [set_blk hb]
    rfl
  · show (W'.setCell ⟨g, 0, none⟩ v').ownsRow B _ 11 v' (s.rs ++ [r]).length ((s.rs ++ [r]).flatMap rcell)
    rw [flat_snoc, List.length_append]
    exact own_set hown (own_not_blk hown hb (by decide)) _
/-- A link more. -/
theorem RdAt.link (h : RdAt W B g lim s vr vz vl zd cz) (hg : W.grownBy W' vl.ownBlock) {v' : Value} {r : Lk} (hown : W'.ownsRow B 57 2 v' (s.ls.length + 1) (s.ls.flatMap lcell ++ lcell r)) :
    RdAt (W'.setCell ⟨g, 2, none⟩ v') B g lim { s with ls := s.ls ++ [r] } vr vz v' zd cz := by
  have hb := set_grown hg h.blk (own_not_blk h.l h.blk (by decide))
  have ap : ∀ {e : TypeId} {b k n : Nat} {v : Value} {xs : List Value}, W.ownsRow b e k v n xs → e ≠ 57 → e ≠ 71 → (W'.setCell ⟨g, 2, none⟩ v').ownsRow b e k v n xs := fun h' h1 h2 => by
    have hk := h'.kept hg (own_apart h' h.l h1)
    exact own_set hk (own_not_blk hk hb h2) _
  refine ⟨h.base, h.limB, Nat.le_trans h.limW (Nat.le_trans hg.size (by simp [World.setCell])), ?_, ap h.r (by decide) (by decide), ap h.z (by decide) (by decide), ?_, h.zn, h.cn, fun d hd => ap (h.e d hd) (by decide) (by decide), h.el, fun d hd => ap (h.ce d hd) (by decide) (by decide)⟩
  · rw [set_blk hb]
    rfl
  · show (W'.setCell ⟨g, 2, none⟩ v').ownsRow B _ 2 v' (s.ls ++ [r]).length ((s.ls ++ [r]).flatMap lcell)
    rw [flat_snoc, List.length_append]
    exact own_set hown (own_not_blk hown hb (by decide)) _
/-- A zone more, of one era that lies in a row of its own behind all that was. -/
theorem RdAt.zone (h : RdAt W B g lim s vr vz vl zd none) (hg : W.grownBy W' vz.ownBlock) {v' : Value} {nm : ByteArray} {x : Er} {A : Option Addr} {c lim' : Nat}
    (hera : W.ownsRow lim' 65 13 (.slice A 1 c) 1 (ecell x)) (hlim : lim ≤ lim') (hlimW : lim' ≤ W.heap.size) (hown : W'.ownsRow B 52 2 v' (zd.length + 1) (zd.flatMap zcell ++ zcell ⟨nm, A, c, [x]⟩)) :
    Rdr ((W'.setCell ⟨g, 1, none⟩ v').setCell ⟨g, 3, none⟩ (.bool x.en)) B g (s.put ⟨nm, [x]⟩ x.en) := by
  have hc : s.cur = none := by rw [← h.cn]; rfl
  have hb0 := set_grown hg h.blk (own_not_blk h.z h.blk (by decide))
  rw [hc] at hb0
  have hb : (W'.setCell ⟨g, 1, none⟩ v').heap[g]? = some (.cells #[vr, v', vl, .bool false] 71 (0, 0)) := by
    rw [set_blk hb0]
    rfl
  have ap : ∀ {e : TypeId} {b k n : Nat} {v : Value} {xs : List Value}, W.ownsRow b e k v n xs → e ≠ 52 → e ≠ 71 → ((W'.setCell ⟨g, 1, none⟩ v').setCell ⟨g, 3, none⟩ (.bool x.en)).ownsRow b e k v n xs := fun h' h1 h2 => by
    have hk := h'.kept hg (own_apart h' h.z h1)
    have hk2 := own_set hk (p := ⟨g, 1, none⟩) (own_not_blk hk hb0 h2) v'
    exact own_set hk2 (own_not_blk hk2 hb h2) _
  have hz : ((W'.setCell ⟨g, 1, none⟩ v').setCell ⟨g, 3, none⟩ (.bool x.en)).ownsRow B 52 2 v' (zd.length + 1) (zd.flatMap zcell ++ zcell ⟨nm, A, c, [x]⟩) := by
    have hk2 := own_set hown (p := ⟨g, 1, none⟩) (own_not_blk hown hb0 (by decide)) v'
    exact own_set hk2 (own_not_blk hk2 hb (by decide)) _
  have hsz : ((W'.setCell ⟨g, 1, none⟩ v').setCell ⟨g, 3, none⟩ (.bool x.en)).heap.size = W'.heap.size := by simp [World.setCell]
  have hW := hg.size
  have hzl : (zd ++ [(⟨nm, A, c, [x]⟩ : Zd)]).length = zd.length + 1 := by rw [List.length_append]; rfl
  have hblk : ((W'.setCell ⟨g, 1, none⟩ v').setCell ⟨g, 3, none⟩ (.bool x.en)).heap[g]? = some (.cells #[vr, v', vl, .bool x.en] 71 (0, 0)) := by
    rw [set_blk hb]
    rfl
  have hera2 : ((W'.setCell ⟨g, 1, none⟩ v').setCell ⟨g, 3, none⟩ (.bool x.en)).ownsRow lim' 65 13 (.slice A [x].length c) [x].length ([x].flatMap ecell) := by
    have := ap hera (by decide) (by decide)
    simpa using this
  cases hen : x.en with
  | true =>
    rw [hen] at hblk hz hera2 hsz ap
    refine ⟨lim', vr, v', vl, zd, some ⟨nm, A, c, [x]⟩, h.base, Nat.le_trans h.limB hlim, by rw [hsz]; omega, hblk, ap h.r (by decide) (by decide), ?_, ap h.l (by decide) (by decide), h.zn, rfl, fun d hd => ap (h.e d hd) (by decide) (by decide), fun d hd k hk => Nat.lt_of_lt_of_le (h.el d hd k hk) hlim, ?_⟩
    · show World.ownsRow _ B _ 2 v' (zd ++ [(⟨nm, A, c, [x]⟩ : Zd)]).length ((zd ++ [(⟨nm, A, c, [x]⟩ : Zd)]).flatMap zcell)
      rw [flat_snoc, hzl]
      exact hz
    · rintro d rfl2
      injection rfl2 with e
      subst e
      exact hera2
  | false =>
    rw [hen] at hblk hz hera2 hsz ap
    refine ⟨W'.heap.size, vr, v', vl, zd ++ [⟨nm, A, c, [x]⟩], none, h.base, Nat.le_trans h.limB (Nat.le_trans h.limW hW), by rw [hsz]; exact Nat.le_refl _, hblk, ap h.r (by decide) (by decide), ?_, ap h.l (by decide) (by decide), ?_, rfl, ?_, ?_, fun d hd => by cases hd⟩
    · show World.ownsRow _ B _ 2 v' ((zd ++ [(⟨nm, A, c, [x]⟩ : Zd)]) ++ []).length (((zd ++ [(⟨nm, A, c, [x]⟩ : Zd)]) ++ []).flatMap zcell)
      rw [List.append_nil, flat_snoc, hzl]
      exact hz
    · rw [List.map_append, h.zn]
      rfl
    · intro d hd
      rcases List.mem_append.1 hd with hd | hd
      · exact ap (h.e d hd) (by decide) (by decide)
      · obtain rfl : d = ⟨nm, A, c, [x]⟩ := by simpa using hd
        exact own_mono hera2 (Nat.le_trans h.limB hlim)
    · intro d hd k hk
      rcases List.mem_append.1 hd with hd | hd
      · have := (ap (h.e d hd) (by decide) (by decide)).lt k hk
        omega
      · obtain rfl : d = ⟨nm, A, c, [x]⟩ := by simpa using hd
        have := hera2.lt k hk
        omega
/-- An era more of the zone that goes on. -/
theorem RdAt.era {d : Zd} (h : RdAt W B g lim s vr vz vl zd (some d)) (hg : W.grownBy W' (Value.slice d.A d.es.length d.c).ownBlock) {x : Er} {gz cz' ge c : Nat} (hvz : vz = .slice (some ⟨gz, 0, none⟩) (zd.length + 1) cz')
    (hera : W'.ownsRow lim 65 13 (.slice (some ⟨ge, 0, none⟩) (d.es.length + 1) c) (d.es.length + 1) (d.es.flatMap ecell ++ ecell x)) :
    Rdr ((W'.setCell ⟨gz, zd.length * 2 + 1, none⟩ (.slice (some ⟨ge, 0, none⟩) (d.es.length + 1) c)).setCell ⟨g, 3, none⟩ (.bool x.en)) B g (s.put ⟨d.nm, d.es ++ [x]⟩ x.en) := by
  have hc : s.cur = some d.zn := by rw [← h.cn]; rfl
  have hce := h.ce d rfl
  have hb0 := set_grown hg h.blk (own_not_blk hce h.blk (by decide))
  rw [hc] at hb0
  have hzk : W'.ownsRow B 52 2 vz (zd ++ [d]).length ((zd ++ [d]).flatMap zcell) := h.z.kept hg (own_apart h.z hce (by decide))
  have hzl : (zd ++ [d]).length = zd.length + 1 := by rw [List.length_append]; rfl
  rw [hzl, flat_snoc, hvz] at hzk
  have hzg : (⟨gz, zd.length * 2 + 1, none⟩ : Addr).block ≠ g := by
    intro e
    have := own_not_blk hzk hb0 (by decide)
    exact this (by show some gz = some g; rw [← e])
  have hb : (W'.setCell ⟨gz, zd.length * 2 + 1, none⟩ (.slice (some ⟨ge, 0, none⟩) (d.es.length + 1) c)).heap[g]? = some (.cells #[vr, vz, vl, .bool true] 71 (0, 0)) := by
    rw [Below.heap_setCell _ _ _ _ (fun e => hzg e.symm)]
    exact hb0
  have ap0 : ∀ {e : TypeId} {b k n : Nat} {v : Value} {xs : List Value}, W'.ownsRow b e k v n xs → e ≠ 52 → e ≠ 71 → ((W'.setCell ⟨gz, zd.length * 2 + 1, none⟩ (.slice (some ⟨ge, 0, none⟩) (d.es.length + 1) c)).setCell ⟨g, 3, none⟩ (.bool x.en)).ownsRow b e k v n xs := fun hk h1 h2 => by
    have hne := own_apart hk hzk h1
    have hk2 := hk.kept (grown_set W' ⟨gz, zd.length * 2 + 1, none⟩ (.slice (some ⟨ge, 0, none⟩) (d.es.length + 1) c)) hne
    exact own_set hk2 (own_not_blk hk2 hb h2) _
  have ap : ∀ {e : TypeId} {b k n : Nat} {v : Value} {xs : List Value}, W.ownsRow b e k v n xs → e ≠ 65 → e ≠ 52 → e ≠ 71 → ((W'.setCell ⟨gz, zd.length * 2 + 1, none⟩ (.slice (some ⟨ge, 0, none⟩) (d.es.length + 1) c)).setCell ⟨g, 3, none⟩ (.bool x.en)).ownsRow b e k v n xs := fun h' h0 h1 h2 =>
    ap0 (h'.kept hg (own_apart h' hce h0)) h1 h2
  have ape : ∀ y ∈ zd, ((W'.setCell ⟨gz, zd.length * 2 + 1, none⟩ (.slice (some ⟨ge, 0, none⟩) (d.es.length + 1) c)).setCell ⟨g, 3, none⟩ (.bool x.en)).ownsRow B 65 13 (.slice y.A y.es.length y.c) y.es.length (y.es.flatMap ecell) := fun y hy => by
    have h' := h.e y hy
    refine ap0 (h'.kept hg ?_) (by decide) (by decide)
    cases hy' : (Value.slice y.A y.es.length y.c).ownBlock with
    | none => exact .inl rfl
    | some k =>
      refine .inr fun he => ?_
      have h1 := h.el y hy k hy'
      have h2 := (hce.lt k he.symm).1
      omega
  have hz : ((W'.setCell ⟨gz, zd.length * 2 + 1, none⟩ (.slice (some ⟨ge, 0, none⟩) (d.es.length + 1) c)).setCell ⟨g, 3, none⟩ (.bool x.en)).ownsRow B 52 2 vz (zd.length + 1) (zd.flatMap zcell ++ zcell ⟨d.nm, some ⟨ge, 0, none⟩, c, d.es ++ [x]⟩) := by
    have hst := (hzk.stored (zd.length * 2 + 1) (.slice (some ⟨ge, 0, none⟩) (d.es.length + 1) c)).1
    have hl : (zd.flatMap zcell).length = zd.length * 2 := flat_len zcell_len zd
    have e : (zd.flatMap zcell ++ zcell d).set (zd.length * 2 + 1) (.slice (some ⟨ge, 0, none⟩) (d.es.length + 1) c) = zd.flatMap zcell ++ zcell ⟨d.nm, some ⟨ge, 0, none⟩, c, d.es ++ [x]⟩ := by
      rw [List.set_append_right _ _ (by omega), hl, show zd.length * 2 + 1 - zd.length * 2 = 1 by omega]
      unfold zcell
      simp
    rw [e] at hst
    rw [hvz]
    exact own_set hst (own_not_blk hst hb (by decide)) _
  have hsz : ((W'.setCell ⟨gz, zd.length * 2 + 1, none⟩ (.slice (some ⟨ge, 0, none⟩) (d.es.length + 1) c)).setCell ⟨g, 3, none⟩ (.bool x.en)).heap.size = W'.heap.size := by simp [World.setCell]
  have hW := hg.size
  have hblk : ((W'.setCell ⟨gz, zd.length * 2 + 1, none⟩ (.slice (some ⟨ge, 0, none⟩) (d.es.length + 1) c)).setCell ⟨g, 3, none⟩ (.bool x.en)).heap[g]? = some (.cells #[vr, vz, vl, .bool x.en] 71 (0, 0)) := by
    rw [set_blk hb]
    rfl
  have hel : (d.es ++ [x]).length = d.es.length + 1 := by rw [List.length_append]; rfl
  have hera2 : ((W'.setCell ⟨gz, zd.length * 2 + 1, none⟩ (.slice (some ⟨ge, 0, none⟩) (d.es.length + 1) c)).setCell ⟨g, 3, none⟩ (.bool x.en)).ownsRow lim 65 13 (.slice (some ⟨ge, 0, none⟩) (d.es ++ [x]).length c) (d.es ++ [x]).length ((d.es ++ [x]).flatMap ecell) := by
    rw [flat_snoc, hel]
    exact ap0 hera (by decide) (by decide)
  have hzl2 : (zd ++ [(⟨d.nm, some ⟨ge, 0, none⟩, c, d.es ++ [x]⟩ : Zd)]).length = zd.length + 1 := by rw [List.length_append]; rfl
  cases hen : x.en with
  | true =>
    rw [hen] at hblk hz hera2 hsz ap ape
    refine ⟨lim, vr, vz, vl, zd, some ⟨d.nm, some ⟨ge, 0, none⟩, c, d.es ++ [x]⟩, h.base, h.limB, by have := h.limW; rw [hsz]; omega, hblk, ap h.r (by decide) (by decide) (by decide), ?_, ap h.l (by decide) (by decide) (by decide), h.zn, rfl, ape, h.el, ?_⟩
    · show World.ownsRow _ B _ 2 vz (zd ++ [(⟨d.nm, some ⟨ge, 0, none⟩, c, d.es ++ [x]⟩ : Zd)]).length ((zd ++ [(⟨d.nm, some ⟨ge, 0, none⟩, c, d.es ++ [x]⟩ : Zd)]).flatMap zcell)
      rw [flat_snoc, hzl2]
      exact hz
    · rintro y hy
      injection hy with e
      subst e
      exact hera2
  | false =>
    rw [hen] at hblk hz hera2 hsz ap ape
    refine ⟨W'.heap.size, vr, vz, vl, zd ++ [⟨d.nm, some ⟨ge, 0, none⟩, c, d.es ++ [x]⟩], none, h.base, Nat.le_trans h.limB (Nat.le_trans h.limW hW), by rw [hsz]; exact Nat.le_refl _, hblk, ap h.r (by decide) (by decide) (by decide), ?_, ap h.l (by decide) (by decide) (by decide), ?_, rfl, ?_, ?_, fun y hy => by cases hy⟩
    · show World.ownsRow _ B _ 2 vz ((zd ++ [(⟨d.nm, some ⟨ge, 0, none⟩, c, d.es ++ [x]⟩ : Zd)]) ++ []).length (((zd ++ [(⟨d.nm, some ⟨ge, 0, none⟩, c, d.es ++ [x]⟩ : Zd)]) ++ []).flatMap zcell)
      rw [List.append_nil, flat_snoc, hzl2]
      exact hz
    · rw [List.map_append, h.zn]
      rfl
    · intro y hy
      rcases List.mem_append.1 hy with hy | hy
      · exact ape y hy
      · obtain rfl : y = ⟨d.nm, some ⟨ge, 0, none⟩, c, d.es ++ [x]⟩ := by simpa using hy
        exact own_mono hera2 h.limB
    · intro y hy k hk
      rcases List.mem_append.1 hy with hy | hy
      · have := (ape y hy).lt k hk
        omega
      · obtain rfl : y = ⟨d.nm, some ⟨ge, 0, none⟩, c, d.es ++ [x]⟩ := by simpa using hy
        have := hera2.lt k hk
        omega
end
end Go.Proofs.YtkcbmnboccjnnaaGreatDoor
