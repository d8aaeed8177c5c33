/- Sources as rules, zones and links: which are right, what lines tell of them. No walk. -/
import Derived.Test.YtkcbmnboccjnnaaGreatDoorLn
namespace Go.Proofs.YtkcbmnboccjnnaaGreatDoor
open Go.RowKit
/-- A zone: its name and its eras. -/
structure Zn where
  nm : ByteArray
  es : List Er
/-- A link: where it leads, its name. -/
structure Lk where
  tg : ByteArray
  nm : ByteArray
structure Src where
  rs : List Ru
  zs : List Zn
  ls : List Lk
def Src.zero : Src := ⟨[], [], []⟩
/-- Two sources, one behind the other. -/
def Src.with (a b : Src) : Src := ⟨a.rs ++ b.rs, a.zs ++ b.zs, a.ls ++ b.ls⟩
/-- All but the last era end. -/
def So.ends : List Er → Bool
  | [] => false
  | e :: l => if l = [] then !e.en else e.en && So.ends l
def So.eras (l : List Er) : Bool := decide (1 ≤ l.length ∧ l.length ≤ 64) && (l.all El.right && So.ends l)
def So.zone (z : Zn) : Bool := Rl.name z.nm.data.toList && So.eras z.es
def So.link (k : Lk) : Bool := Rl.name k.tg.data.toList && Rl.name k.nm.data.toList
/-- A source is right. -/
def So.right (s : Src) : Bool := decide (s.rs.length ≤ 4096 ∧ s.zs.length ≤ 1024 ∧ s.ls.length ≤ 4096) && (s.rs.all Rl.right && (s.zs.all So.zone && s.ls.all So.link))
theorem so_parts {s : Src} (h : So.right s = true) : (s.rs.length ≤ 4096 ∧ s.zs.length ≤ 1024 ∧ s.ls.length ≤ 4096) ∧ (∀ r ∈ s.rs, Rl.right r = true) ∧ (∀ z ∈ s.zs, So.zone z = true) ∧ (∀ k ∈ s.ls, So.link k = true) := by
  unfold So.right at h
  simp only [Bool.and_eq_true, List.all_eq_true] at h
  exact ⟨of_decide_eq_true h.1, h.2.1, h.2.2.1, h.2.2.2⟩
theorem so_of {s : Src} (h0 : s.rs.length ≤ 4096 ∧ s.zs.length ≤ 1024 ∧ s.ls.length ≤ 4096) (h1 : ∀ r ∈ s.rs, Rl.right r = true) (h2 : ∀ z ∈ s.zs, So.zone z = true) (h3 : ∀ k ∈ s.ls, So.link k = true) : So.right s = true := by
  unfold So.right
  simp only [Bool.and_eq_true, List.all_eq_true]
  exact ⟨decide_eq_true h0, h1, h2, h3⟩
theorem zone_parts {z : Zn} (h : So.zone z = true) : Rl.name z.nm.data.toList = true ∧ (1 ≤ z.es.length ∧ z.es.length ≤ 64) ∧ (∀ e ∈ z.es, El.right e = true) ∧ So.ends z.es = true := by
  unfold So.zone So.eras at h
  simp only [Bool.and_eq_true, List.all_eq_true] at h
  exact ⟨h.1, of_decide_eq_true h.2.1, h.2.2.1, h.2.2.2⟩
theorem zone_of {z : Zn} (h0 : Rl.name z.nm.data.toList = true) (h1 : 1 ≤ z.es.length ∧ z.es.length ≤ 64) (h2 : ∀ e ∈ z.es, El.right e = true) (h3 : So.ends z.es = true) : So.zone z = true := by
  unfold So.zone So.eras
  simp only [Bool.and_eq_true, List.all_eq_true]
  exact ⟨h0, decide_eq_true h1, h2, h3⟩
/-- Clocks' kinds are no less than nothing (as a byte is not). -/
structure So.nn (s : Src) : Prop where
  r : ∀ r ∈ s.rs, 0 ≤ r.c
  z : ∀ z ∈ s.zs, ∀ e ∈ z.es, 0 ≤ e.u.c
/-- How far lines are read: rules, zones, links, and a zone whose next era is to come. -/
structure St where
  rs : List Ru
  zs : List Zn
  ls : List Lk
  cur : Option Zn
def St.zero : St := ⟨[], [], [], none⟩
def St.src (s : St) : Src := ⟨s.rs, s.zs, s.ls⟩
abbrev SRes := Sum St (Nat × Int)
def So.kinds : List ByteArray := [⟨#[82, 117, 108, 101]⟩, ⟨#[90, 111, 110, 101]⟩, ⟨#[76, 105, 110, 107]⟩]
def So.at_ (L : List ByteArray) (i : Nat) : ByteArray := L.getD i ByteArray.empty
def So.isN (t : ByteArray) : Bool := Rl.name t.data.toList
/-- A zone goes on, or not. -/
def St.put (s : St) (z : Zn) (en : Bool) : St := if en = true then { s with cur := some z } else { s with zs := s.zs ++ [z], cur := none }
def So.rule (s : St) (L : List ByteArray) : SRes :=
  if s.rs.length = 4096 then .inr (0, 6) else if (Rl.prs (L.drop 1)).2.2 ≠ 0 then .inr (1 + (Rl.prs (L.drop 1)).2.1, (Rl.prs (L.drop 1)).2.2) else .inl { s with rs := s.rs ++ [(Rl.prs (L.drop 1)).1] }
def So.zoneL (s : St) (L : List ByteArray) : SRes :=
  if s.zs.length = 1024 then .inr (0, 6) else if L.length = 1 then .inr (1, 5) else if (El.prs (L.drop 2)).2.2 ≠ 0 then .inr (2 + (El.prs (L.drop 2)).2.1, (El.prs (L.drop 2)).2.2)
  else if So.isN (So.at_ L 1) = true then .inl (s.put ⟨So.at_ L 1, [(El.prs (L.drop 2)).1]⟩ (El.prs (L.drop 2)).1.en) else .inr (1, 7)
def So.eraL (s : St) (z : Zn) (L : List ByteArray) : SRes :=
  if z.es.length = 64 then .inr (0, 6) else if (El.prs L).2.2 ≠ 0 then .inr ((El.prs L).2.1, (El.prs L).2.2) else .inl (s.put ⟨z.nm, z.es ++ [(El.prs L).1]⟩ (El.prs L).1.en)
def So.linkL (s : St) (L : List ByteArray) : SRes :=
  if s.ls.length = 4096 then .inr (0, 6) else if 1 < L.length ∧ So.isN (So.at_ L 1) = false then .inr (1, 7) else if 2 < L.length ∧ So.isN (So.at_ L 2) = false then .inr (2, 7)
  else if L.length < 3 then .inr (L.length, 5) else if 3 < L.length then .inr (3, 6) else .inl { s with ls := s.ls ++ [⟨So.at_ L 1, So.at_ L 2⟩] }
def So.first (s : St) (L : List ByteArray) : SRes :=
  if Wd.pick (So.at_ L 0) So.kinds = 0 then So.rule s L else if Wd.pick (So.at_ L 0) So.kinds = 1 then So.zoneL s L else if Wd.pick (So.at_ L 0) So.kinds = 2 then So.linkL s L else .inr (0, 7)
/-- What a line's texts make of what is read, or the place of what is wrong, and why. -/
def So.rd (s : St) (L : List ByteArray) : SRes := match s.cur with
  | some z => So.eraL s z L
  | none => So.first s L
abbrev LnD := Nat × List (List UInt8 × Nat)
def LnD.texts (l : LnD) : List ByteArray := l.2.map fun f => ⟨f.1.toArray⟩
/-- The column of a line's field at a place; of its last one, if there is none at it. -/
def LnD.col (l : LnD) (at_ : Nat) : Nat := (l.2.getD (min at_ (l.2.length - 1)) ([], 0)).2
abbrev PRes := Sum St (Nat × Nat × Int)
def So.run : St → List LnD → PRes
  | s, [] => .inl s
  | s, l :: ls => match So.rd s l.texts with
    | .inr p => .inr (l.1, l.col p.1, p.2)
    | .inl s' => So.run s' ls
abbrev QRes := Sum Src (Nat × Nat × Int)
/-- What is told of lines that are read: the source, or that the last zone has no end. -/
def So.done (ls : List LnD) : PRes → QRes
  | .inr f => .inr f
  | .inl s => match s.cur with
    | none => .inl s.src
    | some _ => .inr (((ls.getLast?).getD (0, [])).1, LnD.col ((ls.getLast?).getD (0, [])) 0, 5)
/-- What a text tells. -/
def So.prs (l : List UInt8) : QRes :=
  if 1048576 < l.length then .inr (0, 0, 6) else match Ln.scan 1 (Ln.cut l) with
    | .inr f => .inr (f.1, f.2.1, (f.2.2 : Int))
    | .inl ls => So.done ls (So.run St.zero ls)
theorem run_wrong {s : St} {l : LnD} {ls : List LnD} {p : Nat × Int} (h : So.rd s l.texts = .inr p) : So.run s (l :: ls) = .inr (l.1, l.col p.1, p.2) := by
  rw [So.run, h]
theorem run_on {s s' : St} {l : LnD} {ls : List LnD} (h : So.rd s l.texts = .inl s') : So.run s (l :: ls) = So.run s' ls := by
  rw [So.run, h]
theorem run_both : ∀ (a b : List LnD) (s : St), So.run s (a ++ b) = match So.run s a with
    | .inl s' => So.run s' b
    | .inr f => .inr f
  | [], b, s => rfl
  | l :: a, b, s => by
    rw [List.cons_append]
    cases h : So.rd s l.texts with
    | inr p => rw [run_wrong h, run_wrong h]
    | inl s' => rw [run_on h, run_on h, run_both a b s']
/-- Behind what was read already. -/
def St.behind (a : Src) (s : St) : St := ⟨a.rs ++ s.rs, a.zs ++ s.zs, a.ls ++ s.ls, s.cur⟩
theorem put_behind (a : Src) (s : St) (z : Zn) (en : Bool) : (s.behind a).put z en = (s.put z en).behind a := by
  unfold St.put St.behind
  cases en with
  | true => rfl
  | false => simp
def SRes.on (a : Src) : SRes → SRes
  | .inl s => .inl (s.behind a)
  | .inr p => .inr p
def PRes.on (a : Src) : PRes → PRes
  | .inl s => .inl (s.behind a)
  | .inr p => .inr p
theorem rule_behind (a : Src) (s : St) (L : List ByteArray) (h : a.rs.length + s.rs.length < 4096) : So.rule (s.behind a) L = SRes.on a (So.rule s L) := by
  have h1 : (s.behind a).rs.length ≠ 4096 := by
    show (a.rs ++ s.rs).length ≠ 4096
    rw [List.length_append]
    omega
  unfold So.rule
  rw [if_neg h1, if_neg (show ¬ s.rs.length = 4096 by omega)]
  by_cases h2 : (Rl.prs (L.drop 1)).2.2 ≠ 0
  · rw [if_pos h2, if_pos h2]
    rfl
  · rw [if_neg h2, if_neg h2]
    show Sum.inl _ = Sum.inl _
    unfold St.behind
    simp
theorem zoneL_behind (a : Src) (s : St) (L : List ByteArray) (h : a.zs.length + s.zs.length < 1024) : So.zoneL (s.behind a) L = SRes.on a (So.zoneL s L) := by
  have h1 : (s.behind a).zs.length ≠ 1024 := by
    show (a.zs ++ s.zs).length ≠ 1024
    rw [List.length_append]
    omega
  unfold So.zoneL
  rw [if_neg h1, if_neg (show ¬ s.zs.length = 1024 by omega)]
  by_cases h2 : L.length = 1
  · rw [if_pos h2, if_pos h2]
    rfl
  · rw [if_neg h2, if_neg h2]
    by_cases h3 : (El.prs (L.drop 2)).2.2 ≠ 0
    · rw [if_pos h3, if_pos h3]
      rfl
    · rw [if_neg h3, if_neg h3]
      by_cases h4 : So.isN (So.at_ L 1) = true
      · rw [if_pos h4, if_pos h4, put_behind]
        rfl
      · rw [if_neg h4, if_neg h4]
        rfl
theorem eraL_behind (a : Src) (s : St) (z : Zn) (L : List ByteArray) : So.eraL (s.behind a) z L = SRes.on a (So.eraL s z L) := by
  unfold So.eraL
  by_cases h2 : z.es.length = 64
  · rw [if_pos h2, if_pos h2]
    rfl
  · rw [if_neg h2, if_neg h2]
    by_cases h3 : (El.prs L).2.2 ≠ 0
    · rw [if_pos h3, if_pos h3]
      rfl
    · rw [if_neg h3, if_neg h3, put_behind]
      rfl
theorem linkL_behind (a : Src) (s : St) (L : List ByteArray) (h : a.ls.length + s.ls.length < 4096) : So.linkL (s.behind a) L = SRes.on a (So.linkL s L) := by
  have h1 : (s.behind a).ls.length ≠ 4096 := by
    show (a.ls ++ s.ls).length ≠ 4096
    rw [List.length_append]
    omega
  unfold So.linkL
  rw [if_neg h1, if_neg (show ¬ s.ls.length = 4096 by omega)]
  by_cases h2 : 1 < L.length ∧ So.isN (So.at_ L 1) = false
  · rw [if_pos h2, if_pos h2]
    rfl
  · rw [if_neg h2, if_neg h2]
    by_cases h3 : 2 < L.length ∧ So.isN (So.at_ L 2) = false
    · rw [if_pos h3, if_pos h3]
      rfl
    · rw [if_neg h3, if_neg h3]
      by_cases h4 : L.length < 3
      · rw [if_pos h4, if_pos h4]
        rfl
      · rw [if_neg h4, if_neg h4]
        by_cases h5 : 3 < L.length
        · rw [if_pos h5, if_pos h5]
          rfl
        · rw [if_neg h5, if_neg h5]
          show Sum.inl _ = Sum.inl _
          unfold St.behind
          simp
theorem rd_behind (a : Src) (s : St) (L : List ByteArray) (h1 : a.rs.length + s.rs.length < 4096) (h2 : a.zs.length + s.zs.length < 1024) (h3 : a.ls.length + s.ls.length < 4096) : So.rd (s.behind a) L = SRes.on a (So.rd s L) := by
  unfold So.rd
  have hc : (s.behind a).cur = s.cur := rfl
  rw [hc]
  cases s.cur with
  | some z => exact eraL_behind a s z L
  | none =>
    show So.first (s.behind a) L = SRes.on a (So.first s L)
    unfold So.first
    split
    · exact rule_behind a s L h1
    · split
      · exact zoneL_behind a s L h2
      · split
        · exact linkL_behind a s L h3
        · rfl
/-- How many bytes there are at least where so much was read. -/
def St.wt (s : St) : Nat := 20 * s.rs.length + 10 * s.zs.length + 6 * s.ls.length + (if s.cur.isSome = true then 10 else 0)
theorem put_wt (s : St) (z : Zn) (en : Bool) (h : s.cur = none) : (s.put z en).wt = s.wt + 10 := by
  unfold St.put St.wt
  rw [h]
  cases en with
  | true => simp
  | false => simp; omega
theorem put_wt2 (s : St) (y z : Zn) (en : Bool) (h : s.cur = some y) : (s.put z en).wt = s.wt := by
  unfold St.put St.wt
  rw [h]
  cases en with
  | true => simp
  | false => simp; omega
/-- What is read of a line's texts: the ways. -/
inductive So.Reads (s : St) (L : List ByteArray) : St → Prop where
  | rule (h : s.cur = none) (h1 : s.rs.length ≠ 4096) (hl : L.length = 10) (r : Ru) (hp : Rl.prs (L.drop 1) = (r, 0, 0)) (hr : Rl.right r = true) (hc : 0 ≤ r.c) : So.Reads s L { s with rs := s.rs ++ [r] }
  | zone (h : s.cur = none) (h1 : s.zs.length ≠ 1024) (hl : 5 ≤ L.length) (e : Er) (hp : El.prs (L.drop 2) = (e, 0, 0)) (he : El.right e = true) (hc : 0 ≤ e.u.c) (hn : El.num e + 2 ≤ L.length) (hm : So.isN (So.at_ L 1) = true) : So.Reads s L (s.put ⟨So.at_ L 1, [e]⟩ e.en)
  | era (z : Zn) (h : s.cur = some z) (h1 : z.es.length ≠ 64) (e : Er) (hp : El.prs L = (e, 0, 0)) (he : El.right e = true) (hc : 0 ≤ e.u.c) (hn : El.num e ≤ L.length) : So.Reads s L (s.put ⟨z.nm, z.es ++ [e]⟩ e.en)
  | link (h : s.cur = none) (h1 : s.ls.length ≠ 4096) (hl : L.length = 3) (h2 : So.isN (So.at_ L 1) = true) (h3 : So.isN (So.at_ L 2) = true) : So.Reads s L { s with ls := s.ls ++ [⟨So.at_ L 1, So.at_ L 2⟩] }
theorem rd_ways {s s' : St} {L : List ByteArray} (h : So.rd s L = .inl s') : So.Reads s L s' := by
  unfold So.rd at h
  cases hc : s.cur with
  | some z =>
    rw [hc] at h
    have h : So.eraL s z L = .inl s' := h
    unfold So.eraL at h
    split at h
    · cases h
    · rename_i h1
      split at h
      · cases h
      · rename_i h2
        obtain ⟨e, i, y, he⟩ : ∃ e i y, El.prs L = (e, i, y) := ⟨_, _, _, rfl⟩
        have ho := (eprs_ok L).1
        rw [he] at ho h h2
        obtain rfl : y = 0 := by simpa using h2
        obtain ⟨h0, hr, hk, hu, hl, hen, hn⟩ := ho rfl
        obtain rfl : i = 0 := h0
        injection h with h
        subst h
        exact .era z hc h1 e he hr hu hn
  | none =>
    rw [hc] at h
    have h : So.first s L = .inl s' := h
    unfold So.first at h
    split at h
    · unfold So.rule at h
      split at h
      · cases h
      · rename_i h1
        split at h
        · cases h
        · rename_i h2
          obtain ⟨r, i, y, hr⟩ : ∃ r i y, Rl.prs (L.drop 1) = (r, i, y) := ⟨_, _, _, rfl⟩
          have ho := (rprs_ok (L.drop 1)).1
          rw [hr] at ho h h2
          obtain rfl : y = 0 := by simpa using h2
          obtain ⟨h0, hg, hc0, hl⟩ := ho rfl
          obtain rfl : i = 0 := h0
          injection h with h
          subst h
          rw [List.length_drop] at hl
          exact .rule hc h1 (by omega) r hr hg hc0
    · split at h
      · unfold So.zoneL at h
        split at h
        · cases h
        · rename_i h1
          split at h
          · cases h
          · split at h
            · cases h
            · rename_i h2
              split at h
              · rename_i hm
                obtain ⟨e, i, y, he⟩ : ∃ e i y, El.prs (L.drop 2) = (e, i, y) := ⟨_, _, _, rfl⟩
                have ho := (eprs_ok (L.drop 2)).1
                rw [he] at ho h h2
                obtain rfl : y = 0 := by simpa using h2
                obtain ⟨h0, hr, hk, hu, hl, hen, hn⟩ := ho rfl
                obtain rfl : i = 0 := h0
                injection h with h
                subst h
                rw [List.length_drop] at hl hn
                have hn : El.num e ≤ L.length - 2 := hn
                exact .zone hc h1 (by omega) e he hr hu (by omega) hm
              · cases h
      · split at h
        · unfold So.linkL at h
          split at h
          · cases h
          · rename_i h1
            split at h
            · cases h
            · rename_i h2
              split at h
              · cases h
              · rename_i h3
                split at h
                · cases h
                · rename_i h4
                  split at h
                  · cases h
                  · rename_i h5
                    injection h with h
                    subst h
                    have e2 : So.isN (So.at_ L 1) = true := by
                      cases hb : So.isN (So.at_ L 1) with
                      | true => rfl
                      | false => exact absurd ⟨by omega, hb⟩ h2
                    have e3 : So.isN (So.at_ L 2) = true := by
                      cases hb : So.isN (So.at_ L 2) with
                      | true => rfl
                      | false => exact absurd ⟨by omega, hb⟩ h3
                    exact .link hc h1 (by omega) e2 e3
        · cases h
theorem rd_wt {s s' : St} {L : List ByteArray} (h : So.rd s L = .inl s') : s'.wt ≤ s.wt + 2 * L.length := by
  cases rd_ways h with
  | rule hc h1 hl r =>
    unfold St.wt
    show 20 * (s.rs ++ [r]).length + 10 * s.zs.length + 6 * s.ls.length + (if s.cur.isSome = true then 10 else 0) ≤ _
    rw [List.length_append, List.length_singleton]
    omega
  | zone hc h1 hl e => rw [put_wt s _ _ hc]; omega
  | era z hc => rw [put_wt2 s z _ _ hc]; omega
  | link hc h1 hl =>
    unfold St.wt
    show 20 * s.rs.length + 10 * s.zs.length + 6 * (s.ls ++ [_]).length + (if s.cur.isSome = true then 10 else 0) ≤ _
    rw [List.length_append, List.length_singleton]
    omega
/-- How many fields lines have. -/
def So.flds (ls : List LnD) : Nat := (ls.map fun l => l.2.length).sum
theorem flds_cons (l : LnD) (ls : List LnD) : So.flds (l :: ls) = l.2.length + So.flds ls := rfl
theorem texts_len (l : LnD) : l.texts.length = l.2.length := by unfold LnD.texts; rw [List.length_map]
/-- Lines that are read behind a source are read as alone. -/
theorem run_behind {M N : Nat} (a : Src) (ha : 20 * a.rs.length + 10 * a.zs.length + 6 * a.ls.length ≤ M) (hM : M + N ≤ 8200) : ∀ (ls : List LnD) (s : St), s.wt + 2 * So.flds ls ≤ N → So.run (s.behind a) ls = PRes.on a (So.run s ls)
  | [], s, _ => rfl
  | l :: ls, s, h => by
    rw [flds_cons] at h
    have hw : 20 * s.rs.length + 10 * s.zs.length + 6 * s.ls.length ≤ s.wt := by unfold St.wt; omega
    have hb := rd_behind a s l.texts (by omega) (by omega) (by omega)
    cases hr : So.rd s l.texts with
    | inr p =>
      rw [hr] at hb
      rw [run_wrong hr, run_wrong hb]
      rfl
    | inl s' =>
      rw [hr] at hb
      have h2 := rd_wt hr
      rw [texts_len] at h2
      rw [run_on hr, run_on hb]
      exact run_behind a ha hM ls s' (by omega)
theorem run_wt : ∀ (ls : List LnD) (s s' : St), So.run s ls = .inl s' → s'.wt ≤ s.wt + 2 * So.flds ls
  | [], s, s', h => by
    injection h with h
    subst h
    exact Nat.le_add_right _ _
  | l :: ls, s, s', h => by
    rw [flds_cons]
    cases hr : So.rd s l.texts with
    | inr p => rw [run_wrong hr] at h; cases h
    | inl s1 =>
      rw [run_on hr] at h
      have h1 := run_wt ls s1 s' h
      have h2 := rd_wt hr
      rw [texts_len] at h2
      omega
/-- How many fields the lines of a text have at most. -/
theorem scan_flds : ∀ (ls : List (List UInt8)) (i : Nat) (r : List LnD), Ln.scan i ls = .inl r → 2 * So.flds r ≤ Ln.size ls
  | [], i, r, h => by
    injection h with h
    subst h
    exact Nat.zero_le _
  | l :: ls, i, r, h => by
    have hs : Ln.size (l :: ls) = l.length + 1 + Ln.size ls := rfl
    rw [hs]
    cases hf : Ln.fld l with
    | inr p => rw [lscan_wrong hf] at h; cases h
    | inl fs =>
      have h1 := fld_few hf
      by_cases hn : fs = []
      · subst hn
        rw [lscan_none hf] at h
        have := scan_flds ls _ _ h
        omega
      · rw [lscan_some hf hn] at h
        cases hr : Ln.scan (i + 1) ls with
        | inr f => rw [hr] at h; cases h
        | inl r' =>
          rw [hr] at h
          injection h with h
          subst h
          have := scan_flds ls _ _ hr
          show 2 * So.flds ((i, fs) :: r') ≤ _
          rw [flds_cons]
          show 2 * (fs.length + So.flds r') ≤ _
          omega
/-- What holds of all that is read. -/
structure St.good (s : St) : Prop where
  r : ∀ r ∈ s.rs, Rl.right r = true ∧ 0 ≤ r.c
  z : ∀ z ∈ s.zs, So.zone z = true ∧ ∀ e ∈ z.es, 0 ≤ e.u.c
  l : ∀ k ∈ s.ls, So.link k = true
  c : ∀ z, s.cur = some z → Rl.name z.nm.data.toList = true ∧ 1 ≤ z.es.length ∧ z.es.length ≤ 64 ∧ ∀ e ∈ z.es, El.right e = true ∧ 0 ≤ e.u.c ∧ e.en = true
  nr : s.rs.length ≤ 4096
  nz : s.zs.length + (if s.cur.isSome = true then 1 else 0) ≤ 1024
  nl : s.ls.length ≤ 4096
theorem good_zero : St.good St.zero :=
  ⟨(fun _ h => by cases h), (fun _ h => by cases h), (fun _ h => by cases h), (fun _ h => by cases h), Nat.zero_le _, by decide, Nat.zero_le _⟩
theorem ends_snoc : ∀ (l : List Er) (e : Er), (∀ x ∈ l, x.en = true) → e.en = false → So.ends (l ++ [e]) = true
  | [], e, _, h => by
    show (if ([] : List Er) = [] then !e.en else _) = true
    rw [if_pos rfl, h]
    rfl
  | x :: l, e, hl, h => by
    have ih := ends_snoc l e (fun y hy => hl y (by simp [hy])) h
    show (if l ++ [e] = [] then !x.en else x.en && So.ends (l ++ [e])) = true
    rw [if_neg (by simp), hl x (by simp), ih]
    rfl
/-- A zone is put: with one more era, that is right. -/
theorem put_good {s : St} {nm : ByteArray} {l : List Er} {e : Er} (hr : ∀ r ∈ s.rs, Rl.right r = true ∧ 0 ≤ r.c) (hz : ∀ z ∈ s.zs, So.zone z = true ∧ ∀ e ∈ z.es, 0 ≤ e.u.c) (hl : ∀ k ∈ s.ls, So.link k = true) (nr : s.rs.length ≤ 4096) (nz : s.zs.length < 1024) (nl : s.ls.length ≤ 4096)
    (h0 : Rl.name nm.data.toList = true) (h1 : l.length < 64) (h2 : ∀ x ∈ l, El.right x = true ∧ 0 ≤ x.u.c ∧ x.en = true) (he : El.right e = true) (hc : 0 ≤ e.u.c) : (s.put ⟨nm, l ++ [e]⟩ e.en).good := by
  unfold St.put
  have hall : ∀ x ∈ l ++ [e], El.right x = true ∧ 0 ≤ x.u.c := by
    intro x hx
    rcases List.mem_append.1 hx with hx | hx
    · exact ⟨(h2 x hx).1, (h2 x hx).2.1⟩
    · obtain rfl : x = e := by simpa using hx
      exact ⟨he, hc⟩
  have hlen : (l ++ [e]).length = l.length + 1 := by rw [List.length_append]; rfl
  cases hn : e.en with
  | true =>
    rw [if_pos rfl]
    refine ⟨hr, hz, hl, ?_, nr, by show s.zs.length + 1 ≤ 1024; omega, nl⟩
    rintro z hz'
    injection hz' with hz'
    subst hz'
    refine ⟨h0, by show 1 ≤ (l ++ [e]).length; omega, by show (l ++ [e]).length ≤ 64; omega, fun x hx => ⟨(hall x hx).1, (hall x hx).2, ?_⟩⟩
    rcases List.mem_append.1 hx with hx | hx
    · exact (h2 x hx).2.2
    · obtain rfl : x = e := by simpa using hx
      exact hn
  | false =>
    rw [if_neg (by decide)]
    refine ⟨hr, ?_, hl, (fun z hz' => by cases hz'), nr, ?_, nl⟩
    · intro z hz'
      rcases List.mem_append.1 hz' with hz' | hz'
      · exact hz z hz'
      · obtain rfl : z = ⟨nm, l ++ [e]⟩ := by simpa using hz'
        exact ⟨zone_of h0 ⟨by show 1 ≤ (l ++ [e]).length; omega, by show (l ++ [e]).length ≤ 64; omega⟩ (fun x hx => (hall x hx).1) (ends_snoc l e (fun x hx => (h2 x hx).2.2) hn), fun x hx => (hall x hx).2⟩
    · show (s.zs ++ [_]).length + 0 ≤ 1024
      rw [List.length_append, List.length_singleton]
      omega
theorem rd_good {s s' : St} {L : List ByteArray} (h : So.rd s L = .inl s') (hg : s.good) : s'.good := by
  obtain ⟨hr, hz, hl, hc, nr, nz, nl⟩ := hg
  cases rd_ways h with
  | rule h0 h1 hlen r hp hrt hrc =>
    refine ⟨?_, hz, hl, hc, ?_, nz, nl⟩
    · intro x hx
      rcases List.mem_append.1 hx with hx | hx
      · exact hr x hx
      · obtain rfl : x = r := by simpa using hx
        exact ⟨hrt, hrc⟩
    · show (s.rs ++ [r]).length ≤ 4096
      rw [List.length_append, List.length_singleton]
      omega
  | zone h0 h1 hlen e hp he hec hn hm =>
    rw [h0] at nz
    have nz : s.zs.length ≤ 1024 := nz
    exact put_good (l := []) hr hz hl nr (by omega) nl hm (by decide) (fun _ hx => by cases hx) he hec
  | era z h0 h1 e hp he hec hn =>
    obtain ⟨c1, c2, c3, c4⟩ := hc z h0
    rw [h0] at nz
    have nz : s.zs.length + 1 ≤ 1024 := nz
    exact put_good hr hz hl nr (by omega) nl c1 (by omega) c4 he hec
  | link h0 h1 hlen h2 h3 =>
    refine ⟨hr, hz, ?_, hc, nr, nz, ?_⟩
    · intro x hx
      rcases List.mem_append.1 hx with hx | hx
      · exact hl x hx
      · obtain rfl : x = ⟨So.at_ L 1, So.at_ L 2⟩ := by simpa using hx
        show (So.isN (So.at_ L 1) && So.isN (So.at_ L 2)) = true
        rw [h2, h3]
        rfl
    · show (s.ls ++ [_]).length ≤ 4096
      rw [List.length_append, List.length_singleton]
      omega
theorem run_good : ∀ (ls : List LnD) (s s' : St), So.run s ls = .inl s' → s.good → s'.good
  | [], s, s', h, hg => by
    injection h with h
    subst h
    exact hg
  | l :: ls, s, s', h, hg => by
    cases hr : So.rd s l.texts with
    | inr p => rw [run_wrong hr] at h; cases h
    | inl s1 =>
      rw [run_on hr] at h
      exact run_good ls s1 s' h (rd_good hr hg)
theorem good_right {s : St} (hg : s.good) : So.right s.src = true ∧ So.nn s.src :=
  ⟨so_of ⟨hg.nr, by have := hg.nz; show s.zs.length ≤ 1024; omega, hg.nl⟩ (fun r h => (hg.r r h).1) (fun z h => (hg.z z h).1) hg.l, ⟨fun r h => (hg.r r h).2, fun z h => (hg.z z h).2⟩⟩
end Go.Proofs.YtkcbmnboccjnnaaGreatDoor
