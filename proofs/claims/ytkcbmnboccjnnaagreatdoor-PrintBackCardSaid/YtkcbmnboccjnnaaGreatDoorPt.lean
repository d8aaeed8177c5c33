/- Sources written as lines, and read from them. No walk. -/
import Derived.Test.YtkcbmnboccjnnaaGreatDoorSo
namespace Go.Proofs.YtkcbmnboccjnnaaGreatDoor
open Go.RowKit
theorem txt_len2 {t : Int} (h1 : -604800 ≤ t) (h2 : t ≤ 604800) : (⟨(txt t).toArray⟩ : ByteArray).size ≤ 21 := by
  have key : ∀ u : Int, 0 ≤ u → u ≤ 604800 → (txt0 u).length ≤ 20 := by
    intro u a b
    have := itoa_len (u / 3600) (by omega) (by omega)
    unfold txt0
    split <;> simp [two_len] <;> omega
  rw [size_ba]
  unfold txt
  split
  · have := key (-t) (by omega) (by omega)
    simp
    omega
  · have := key t (by omega) h2
    omega
theorem mo_len2 {s c : Int} (h1 : -604800 ≤ s) (h2 : s ≤ 604800) : (⟨(Mo.txt s c).toArray⟩ : ByteArray).size ≤ 22 := by
  have h := txt_len2 h1 h2
  have hl := ltr_len c
  rw [size_ba] at h ⊢
  unfold Mo.txt
  rw [List.length_append]
  omega
theorem itoa_le2 {y : Int} (h1 : 1 ≤ y) (h2 : y ≤ 9999) : (⟨(Lib.itoa y).toArray⟩ : ByteArray).size ≤ 4 := by
  have e : Lib.itoa y = Lib.decDigits y.toNat := by unfold Lib.itoa; rw [if_neg (by omega)]
  rw [size_ba, e]
  exact ten_len y.toNat (by omega)
theorem rtexts_64 {r : Ru} (h : Rl.right r = true) : ∀ t ∈ Rl.texts r, t.size ≤ 64 := by
  obtain ⟨h1, ⟨y1, y2, y3⟩, ⟨m1, m2⟩, hd, hr, ⟨v1, v2⟩, hl⟩ := rl_parts h
  have n0 := name_le h1
  have n8 := ltr_le hl
  intro t ht
  simp only [Rl.texts, List.mem_cons, List.not_mem_nil, or_false] at ht
  rcases ht with rfl | rfl | rfl | rfl | rfl | rfl | rfl | rfl | rfl
  · exact n0
  · exact Nat.le_trans (itoa_le2 y1 (by omega)) (by decide)
  · unfold Rl.t2
    split
    · decide
    · split
      · decide
      · exact Nat.le_trans (itoa_le2 (by omega) y3) (by decide)
  · decide
  · have := (Wd.mons_back (r.m - 1).toNat (by omega)).2.1
    show (Wd.three Wd.mons (r.m - 1).toNat).size ≤ 64
    omega
  · have := txt_size r.k r.n r.d hd
    show (Dy.txt r.k r.n r.d).size ≤ 64
    omega
  · obtain ⟨q1, q2, _⟩ := (Mo.right_iff _ _).1 hr
    exact Nat.le_trans (mo_len2 q1 q2) (by decide)
  · exact Nat.le_trans (txt_len2 v1 v2) (by decide)
  · unfold Rl.t8
    split
    · decide
    · omega
theorem utexts_64 {u : Ut} (h : Mo.un u = true) : ∀ t ∈ Mo.texts u, t.size ≤ 64 := by
  obtain ⟨⟨y1, y2, m1, m2⟩, hd, hr⟩ := unt_parts h
  obtain ⟨h1, h2, _⟩ := (Mo.right_iff _ _).1 hr
  intro t ht
  simp only [Mo.texts, List.mem_cons, List.not_mem_nil, or_false] at ht
  rcases ht with rfl | rfl | rfl | rfl
  · exact Nat.le_trans (itoa_le2 y1 y2) (by decide)
  · have := (Wd.mons_back (u.m - 1).toNat (by omega)).2.1
    show (Wd.three Wd.mons (u.m - 1).toNat).size ≤ 64
    omega
  · have := txt_size u.k u.n u.d hd
    show (Dy.txt u.k u.n u.d).size ≤ 64
    omega
  · exact Nat.le_trans (mo_len2 h1 h2) (by decide)
theorem etexts_64 {e : Er} (h : El.right e = true) : ∀ t ∈ El.texts e, t.size ≤ 64 := by
  obtain ⟨⟨s1, s2⟩, hk, hf, he⟩ := el_parts h
  have n2 := fmt_le hf
  intro t ht
  unfold El.texts at ht
  rcases List.mem_append.1 ht with ht | ht
  · simp only [List.mem_cons, List.not_mem_nil, or_false] at ht
    rcases ht with rfl | rfl | rfl
    · exact Nat.le_trans (txt_len2 s1 s2) (by decide)
    · unfold El.t1
      rcases kind_cases hk with ⟨k, s, r⟩ | ⟨k, ⟨t1, t2⟩, r⟩ | ⟨k, s, r⟩
      · rw [k, if_neg (by decide), if_neg (by decide)]
        decide
      · rw [k, if_pos rfl]
        exact Nat.le_trans (txt_len2 t1 t2) (by decide)
      · rw [k, if_neg (by decide), if_pos rfl]
        exact name_le r
    · omega
  · unfold El.rest at ht
    split at ht
    · rename_i hn
      unfold El.ends at he
      rw [if_pos hn] at he
      exact utexts_64 he t (List.mem_of_mem_take ht)
    · cases ht
/-- The words that begin a rule, a zone, a link. -/
def Pt.ruleW : ByteArray := ⟨#[82, 117, 108, 101]⟩
def Pt.zoneW : ByteArray := ⟨#[90, 111, 110, 101]⟩
def Pt.linkW : ByteArray := ⟨#[76, 105, 110, 107]⟩
/-- A line: what is ahead of its texts, and these. -/
abbrev PL := List UInt8 × List ByteArray
def Pt.rule (r : Ru) : PL := ([], Pt.ruleW :: Rl.texts r)
def Pt.era (e : Er) : PL := ([9], El.texts e)
def Pt.zone (z : Zn) : List PL := match z.es with
  | [] => []
  | e :: l => ([], Pt.zoneW :: z.nm :: El.texts e) :: l.map Pt.era
def Pt.link (k : Lk) : PL := ([], [Pt.linkW, k.tg, k.nm])
def Pt.lines (s : Src) : List PL := s.rs.map Pt.rule ++ (s.zs.flatMap Pt.zone ++ s.ls.map Pt.link)
def PL.line (p : PL) : List UInt8 := p.1 ++ lineOf (bts p.2)
def Pt.bytes (l : List PL) : List UInt8 := l.flatMap fun p => p.line ++ [10]
/-- What is written of a source. -/
def Pt.text (s : Src) : List UInt8 := Pt.bytes (Pt.lines s)
/-- What holds of each line that is written. -/
structure PL.ok (p : PL) : Prop where
  pre : p.1 = [] ∨ p.1 = [9]
  gr : ∀ t ∈ p.2, t.data.toList.all gr = true
  small : ∀ t ∈ p.2, t.size ≤ 64
  some_ : 1 ≤ p.2.length
  few : p.2.length ≤ 10
theorem rule_ok {r : Ru} (h : Rl.right r = true) : (Pt.rule r).ok := by
  refine ⟨.inl rfl, ?_, ?_, by show 1 ≤ 10; omega, by show 10 ≤ 10; omega⟩
  · intro t ht
    rcases List.mem_cons.1 ht with rfl | ht
    · decide
    · exact rtexts_gr h t ht
  · intro t ht
    rcases List.mem_cons.1 ht with rfl | ht
    · decide
    · exact rtexts_64 h t ht
theorem num_le7 (e : Er) : 3 ≤ El.num e ∧ El.num e ≤ 7 := by
  have := enum_bd e
  cases h : e.en with
  | true => have := this.2 h; omega
  | false => have := this.1 h; omega
theorem era_ok {e : Er} (h : El.right e = true) : (Pt.era e).ok := by
  have hb := num_le7 e
  have hl := enum_len e
  refine ⟨.inr rfl, fun t ht => etexts_gr h t ht, fun t ht => etexts_64 h t ht, ?_, ?_⟩
  · show 1 ≤ (El.texts e).length
    omega
  · show (El.texts e).length ≤ 10
    omega
theorem zone_ok {z : Zn} (h : So.zone z = true) : ∀ p ∈ Pt.zone z, p.ok := by
  obtain ⟨h0, _, h2, _⟩ := zone_parts h
  obtain ⟨nm, es⟩ := z
  unfold Pt.zone
  intro p hp
  cases es with
  | nil => cases hp
  | cons e l =>
    have he := h2 e (by simp)
    have hb := num_le7 e
    have hl := enum_len e
    rcases List.mem_cons.1 hp with rfl | hp
    · refine ⟨.inl rfl, ?_, ?_, by simp, ?_⟩
      · intro t ht
        rcases List.mem_cons.1 ht with rfl | ht
        · decide
        · rcases List.mem_cons.1 ht with rfl | ht
          · exact gr_name h0
          · exact etexts_gr he t ht
      · intro t ht
        rcases List.mem_cons.1 ht with rfl | ht
        · decide
        · rcases List.mem_cons.1 ht with rfl | ht
          · exact name_le h0
          · exact etexts_64 he t ht
      · show (El.texts e).length + 1 + 1 ≤ 10
        omega
    · obtain ⟨x, hx, rfl⟩ := List.mem_map.1 hp
      exact era_ok (h2 x (by simp [hx]))
theorem link_parts {k : Lk} (h : So.link k = true) : Rl.name k.tg.data.toList = true ∧ Rl.name k.nm.data.toList = true := by
  unfold So.link at h
  rwa [Bool.and_eq_true] at h
theorem link_ok {k : Lk} (h : So.link k = true) : (Pt.link k).ok := by
  obtain ⟨h1, h2⟩ := link_parts h
  refine ⟨.inl rfl, ?_, ?_, by show 1 ≤ 3; omega, by show 3 ≤ 10; omega⟩
  · intro t ht
    simp only [Pt.link, List.mem_cons, List.not_mem_nil, or_false] at ht
    rcases ht with rfl | rfl | rfl
    · decide
    · exact gr_name h1
    · exact gr_name h2
  · intro t ht
    simp only [Pt.link, List.mem_cons, List.not_mem_nil, or_false] at ht
    rcases ht with rfl | rfl | rfl
    · decide
    · exact name_le h1
    · exact name_le h2
theorem lines_ok {s : Src} (h : So.right s = true) : ∀ p ∈ Pt.lines s, p.ok := by
  obtain ⟨_, hr, hz, hl⟩ := so_parts h
  intro p hp
  unfold Pt.lines at hp
  rcases List.mem_append.1 hp with hp | hp
  · obtain ⟨r, hr', rfl⟩ := List.mem_map.1 hp
    exact rule_ok (hr r hr')
  · rcases List.mem_append.1 hp with hp | hp
    · obtain ⟨z, hz', hp⟩ := List.mem_flatMap.1 hp
      exact zone_ok (hz z hz') p hp
    · obtain ⟨k, hk, rfl⟩ := List.mem_map.1 hp
      exact link_ok (hl k hk)
/-- A line is no longer than its fields are many. -/
theorem pline_len {p : PL} (h : p.ok) : p.line.length + 1 ≤ 70 * p.2.length := by
  have h1 := line_len 64 (bts p.2) (fun s hs => by
    obtain ⟨t, ht, rfl⟩ := List.mem_map.1 hs
    have := h.small t ht
    have hz : t.data.toList.length = t.size := by simp
    omega)
  have h2 : (bts p.2).length = p.2.length := by unfold bts; rw [List.length_map]
  have h3 : p.1.length ≤ 1 := by rcases h.pre with e | e <;> rw [e] <;> decide
  have := h.some_
  unfold PL.line
  rw [List.length_append]
  rw [h2] at h1
  omega
/-- How many fields lines have. -/
def Pt.flds (l : List PL) : Nat := (l.map fun p => p.2.length).sum
theorem pflds_app (a b : List PL) : Pt.flds (a ++ b) = Pt.flds a + Pt.flds b := by
  unfold Pt.flds
  rw [List.map_append, List.sum_append]
theorem pbytes_len : ∀ (l : List PL), (∀ p ∈ l, p.ok) → (Pt.bytes l).length ≤ 70 * Pt.flds l ∧ l.length ≤ Pt.flds l
  | [], _ => ⟨Nat.le_refl _, Nat.le_refl _⟩
  | p :: l, h => by
    obtain ⟨h1, h2⟩ := pbytes_len l (fun q hq => h q (by simp [hq]))
    have hp := pline_len (h p (by simp))
    have hs := (h p (by simp)).some_
    have e : Pt.flds (p :: l) = p.2.length + Pt.flds l := rfl
    have e2 : Pt.bytes (p :: l) = (p.line ++ [10]) ++ Pt.bytes l := rfl
    rw [e, e2, List.length_append, List.length_append, List.length_singleton, List.length_cons]
    omega
/-- How many fields a source's lines have. -/
def Er.cnt (l : List Er) : Nat := (l.map El.num).sum
def Zn.cnt (l : List Zn) : Nat := (l.map fun z => 2 + Er.cnt z.es).sum
def Src.cnt (s : Src) : Nat := 10 * s.rs.length + (Zn.cnt s.zs + 3 * s.ls.length)
theorem pflds_eras : ∀ l : List Er, Pt.flds (l.map Pt.era) = Er.cnt l
  | [] => rfl
  | e :: l => by
    have ih := pflds_eras l
    show (El.texts e).length + Pt.flds (l.map Pt.era) = El.num e + Er.cnt l
    rw [ih, enum_len]
theorem pflds_zone (z : Zn) : Pt.flds (Pt.zone z) ≤ 2 + Er.cnt z.es := by
  obtain ⟨nm, es⟩ := z
  unfold Pt.zone
  cases es with
  | nil => exact Nat.zero_le _
  | cons e l =>
    show ((El.texts e).length + 1 + 1) + Pt.flds (l.map Pt.era) ≤ 2 + (El.num e + Er.cnt l)
    rw [pflds_eras, enum_len]
    omega
theorem pflds_lines (s : Src) : Pt.flds (Pt.lines s) ≤ s.cnt := by
  have h1 : ∀ l : List Ru, Pt.flds (l.map Pt.rule) = 10 * l.length := by
    intro l
    induction l with
    | nil => rfl
    | cons r l ih =>
      show 10 + Pt.flds (l.map Pt.rule) = _
      rw [ih, List.length_cons]
      omega
  have h2 : ∀ l : List Zn, Pt.flds (l.flatMap Pt.zone) ≤ Zn.cnt l := by
    intro l
    induction l with
    | nil => exact Nat.le_refl _
    | cons z l ih =>
      rw [List.flatMap_cons, pflds_app]
      have := pflds_zone z
      show _ ≤ (2 + Er.cnt z.es) + Zn.cnt l
      omega
  have h3 : ∀ l : List Lk, Pt.flds (l.map Pt.link) = 3 * l.length := by
    intro l
    induction l with
    | nil => rfl
    | cons r l ih =>
      show 3 + Pt.flds (l.map Pt.link) = _
      rw [ih, List.length_cons]
      omega
  unfold Pt.lines Src.cnt
  rw [pflds_app, pflds_app, h1, h3]
  have := h2 s.zs
  omega
theorem ptext_len {s : Src} (h : So.right s = true) : (Pt.text s).length ≤ 70 * s.cnt := by
  have := (pbytes_len (Pt.lines s) (lines_ok h)).1
  have := pflds_lines s
  unfold Pt.text
  omega
/-- What is read has no more fields to be written than there were. -/
def St.cnt (s : St) : Nat := s.src.cnt + (match s.cur with | some z => 2 + Er.cnt z.es | none => 0)
theorem zcnt_snoc (l : List Zn) (z : Zn) : Zn.cnt (l ++ [z]) = Zn.cnt l + (2 + Er.cnt z.es) := by
  unfold Zn.cnt
  rw [List.map_append, List.sum_append]
  rfl
theorem ecnt_snoc (l : List Er) (e : Er) : Er.cnt (l ++ [e]) = Er.cnt l + El.num e := by
  unfold Er.cnt
  rw [List.map_append, List.sum_append]
  rfl
theorem put_cnt (s : St) (z : Zn) (en : Bool) : (s.put z en).cnt = s.src.cnt + (2 + Er.cnt z.es) := by
  unfold St.put
  cases en with
  | true => rfl
  | false =>
    unfold St.cnt
    show (10 * s.rs.length + (Zn.cnt (s.zs ++ [z]) + 3 * s.ls.length)) + 0 = (10 * s.rs.length + (Zn.cnt s.zs + 3 * s.ls.length)) + _
    rw [zcnt_snoc]
    omega
theorem rd_cnt {s s' : St} {L : List ByteArray} (h : So.rd s L = .inl s') : s'.cnt ≤ s.cnt + L.length := by
  cases rd_ways h with
  | rule hc h1 hl r =>
    have e1 : s.cnt = s.src.cnt := by unfold St.cnt; rw [hc]; rfl
    have e2 : St.cnt { s with rs := s.rs ++ [r] } = (10 * (s.rs ++ [r]).length + (Zn.cnt s.zs + 3 * s.ls.length)) + 0 := by unfold St.cnt; rw [hc]; rfl
    have e3 : s.src.cnt = 10 * s.rs.length + (Zn.cnt s.zs + 3 * s.ls.length) := rfl
    rw [e2, e1, e3, List.length_append, List.length_singleton]
    omega
  | zone hc h1 hl e hp he hu hn =>
    have e1 : s.cnt = s.src.cnt := by unfold St.cnt; rw [hc]; rfl
    rw [put_cnt, e1]
    show _ + (2 + (El.num e + 0)) ≤ _
    omega
  | era z hc h1 e hp he hu hn =>
    have e1 : s.cnt = s.src.cnt + (2 + Er.cnt z.es) := by unfold St.cnt; rw [hc]
    rw [put_cnt, e1]
    show _ + (2 + Er.cnt (z.es ++ [e])) ≤ _
    rw [ecnt_snoc]
    omega
  | link hc h1 hl =>
    have e1 : s.cnt = s.src.cnt := by unfold St.cnt; rw [hc]; rfl
    have e2 : St.cnt { s with ls := s.ls ++ [⟨So.at_ L 1, So.at_ L 2⟩] } = (10 * s.rs.length + (Zn.cnt s.zs + 3 * (s.ls ++ [(⟨So.at_ L 1, So.at_ L 2⟩ : Lk)]).length)) + 0 := by unfold St.cnt; rw [hc]; rfl
    have e3 : s.src.cnt = 10 * s.rs.length + (Zn.cnt s.zs + 3 * s.ls.length) := rfl
    rw [e2, e1, e3, List.length_append, List.length_singleton]
    omega
theorem run_cnt : ∀ (ls : List LnD) (s s' : St), So.run s ls = .inl s' → s'.cnt ≤ s.cnt + So.flds ls
  | [], s, s', h => by
    injection h with h
    subst h
    exact Nat.le_add_right _ _
  | l :: ls, s, s', h => by
    rw [flds_cons]
    cases hr : So.rd s l.texts with
    | inr p => rw [run_wrong hr] at h; cases h
    | inl s1 =>
      rw [run_on hr] at h
      have h1 := run_cnt ls s1 s' h
      have h2 := rd_cnt hr
      rw [texts_len] at h2
      omega
/-- What a text that is read tells. -/
theorem prs_inl {l : List UInt8} {x : Src} (h : So.prs l = .inl x) : l.length ≤ 1048576 ∧ ∃ ls s, Ln.scan 1 (Ln.cut l) = .inl ls ∧ So.run St.zero ls = .inl s ∧ s.cur = none ∧ s.src = x := by
  unfold So.prs at h
  split at h
  · cases h
  · rename_i hl
    refine ⟨by omega, ?_⟩
    cases hs : Ln.scan 1 (Ln.cut l) with
    | inr f => rw [hs] at h; cases h
    | inl ls =>
      rw [hs] at h
      have h : So.done ls (So.run St.zero ls) = .inl x := h
      cases hr : So.run St.zero ls with
      | inr f => rw [hr] at h; cases h
      | inl s =>
        rw [hr] at h
        unfold So.done at h
        cases hc : s.cur with
        | some z => simp only [hc] at h; cases h
        | none =>
          simp only [hc] at h
          injection h with h
          exact ⟨ls, s, rfl, hr, hc, h⟩
theorem sprs_right {l : List UInt8} {x : Src} (h : So.prs l = .inl x) : So.right x = true ∧ So.nn x ∧ 2 * x.cnt ≤ l.length + 1 ∧ 20 * x.rs.length + 10 * x.zs.length + 6 * x.ls.length ≤ l.length + 1 := by
  obtain ⟨_, ls, s, hs, hr, hc, rfl⟩ := prs_inl h
  obtain ⟨g1, g2⟩ := good_right (run_good _ _ _ hr good_zero)
  have h1 := run_cnt _ _ _ hr
  have h2 := run_wt _ _ _ hr
  have h3 := scan_flds _ _ _ hs
  rw [lcut_size] at h3
  have z1 : St.zero.cnt = 0 := rfl
  have z2 : St.zero.wt = 0 := rfl
  refine ⟨g1, g2, ?_, ?_⟩
  · have : s.src.cnt ≤ s.cnt := Nat.le_add_right _ _
    omega
  · have : 20 * s.src.rs.length + 10 * s.src.zs.length + 6 * s.src.ls.length ≤ s.wt := by unfold St.wt; exact Nat.le_add_right _ _
    omega
/-- Lines read by their texts alone. -/
def So.runT : St → List (List ByteArray) → Option St
  | s, [] => some s
  | s, L :: Ls => match So.rd s L with
    | .inl s' => So.runT s' Ls
    | .inr _ => none
theorem runT_on {s s' : St} {L : List ByteArray} {Ls : List (List ByteArray)} (h : So.rd s L = .inl s') : So.runT s (L :: Ls) = So.runT s' Ls := by
  rw [So.runT, h]
theorem runT_app : ∀ (a b : List (List ByteArray)) (s s' : St), So.runT s a = some s' → So.runT s (a ++ b) = So.runT s' b
  | [], b, s, s', h => by
    injection h with h
    subst h
    rfl
  | L :: a, b, s, s', h => by
    rw [List.cons_append]
    cases hr : So.rd s L with
    | inr p => rw [So.runT, hr] at h; cases h
    | inl s1 =>
      rw [runT_on hr] at h ⊢
      exact runT_app a b s1 s' h
theorem run_of_T : ∀ (ls : List LnD) (s s' : St), So.runT s (ls.map LnD.texts) = some s' → So.run s ls = .inl s'
  | [], s, s', h => by
    injection h with h
    subst h
    rfl
  | l :: ls, s, s', h => by
    rw [List.map_cons] at h
    cases hr : So.rd s l.texts with
    | inr p => rw [So.runT, hr] at h; cases h
    | inl s1 =>
      rw [runT_on hr] at h
      rw [run_on hr]
      exact run_of_T ls s1 s' h
/-- A source is put behind what is read. -/
def St.add (s : St) (b : Src) : St := ⟨s.rs ++ b.rs, s.zs ++ b.zs, s.ls ++ b.ls, none⟩
theorem runT_rules : ∀ (l : List Ru) (s : St), (∀ r ∈ l, Rl.right r = true ∧ 0 ≤ r.c) → s.cur = none → s.rs.length + l.length ≤ 4096 → So.runT s (l.map fun r => (Pt.rule r).2) = some (s.add ⟨l, [], []⟩)
  | [], s, _, hc, _ => by
    obtain ⟨a, b, c, d⟩ := s
    simp only at hc
    subst hc
    simp [So.runT, St.add]
  | r :: l, s, h, hc, hn => by
    rw [List.length_cons] at hn
    obtain ⟨h1, h2⟩ := h r (by simp)
    have hrd : So.rd s (Pt.rule r).2 = .inl { s with rs := s.rs ++ [r] } := by
      unfold So.rd
      rw [hc]
      show So.first s (Pt.ruleW :: Rl.texts r) = _
      unfold So.first
      have e0 : So.at_ (Pt.ruleW :: Rl.texts r) 0 = Pt.ruleW := rfl
      rw [e0, if_pos (show Wd.pick Pt.ruleW So.kinds = 0 by decide +kernel)]
      unfold So.rule
      rw [if_neg (by omega)]
      show (if (Rl.prs (Rl.texts r)).2.2 ≠ 0 then _ else _) = _
      rw [rback h1 h2, if_neg (by simp)]
      show Sum.inl { s with rs := s.rs ++ [(Rl.prs (Rl.texts r)).1] } = Sum.inl _
      rw [rback h1 h2]
      show Sum.inl { s with rs := s.rs ++ [r] } = Sum.inl _
      rw [hc]
    rw [List.map_cons, runT_on hrd, runT_rules l { s with rs := s.rs ++ [r] } (fun x hx => h x (by simp [hx])) hc (by show (s.rs ++ [r]).length + l.length ≤ 4096; rw [List.length_append, List.length_singleton]; omega)]
    unfold St.add
    simp
theorem runT_eras (nm : ByteArray) : ∀ (l2 l1 : List Er) (s : St), So.ends l2 = true → (∀ e ∈ l2, El.right e = true ∧ 0 ≤ e.u.c) → l1.length + l2.length ≤ 64 →
    So.runT { s with cur := some ⟨nm, l1⟩ } (l2.map El.texts) = some { s with zs := s.zs ++ [⟨nm, l1 ++ l2⟩], cur := none }
  | [], l1, s, he, _, _ => by cases he
  | e :: l2, l1, s, he, h, hn => by
    rw [List.length_cons] at hn
    obtain ⟨h1, h2⟩ := h e (by simp)
    have hb := eback h1 h2
    have hrd : So.rd { s with cur := some ⟨nm, l1⟩ } (El.texts e) = .inl (St.put { s with cur := some ⟨nm, l1⟩ } ⟨nm, l1 ++ [e]⟩ e.en) := by
      show So.eraL { s with cur := some ⟨nm, l1⟩ } ⟨nm, l1⟩ (El.texts e) = _
      unfold So.eraL
      rw [if_neg (by show l1.length ≠ 64; omega), hb, if_neg (by simp)]
    rw [List.map_cons, runT_on hrd]
    have he' : (if l2 = [] then !e.en else e.en && So.ends l2) = true := he
    by_cases hl : l2 = []
    · subst hl
      rw [if_pos rfl] at he'
      have hen : e.en = false := by simpa using he'
      rw [hen]
      rfl
    · rw [if_neg hl, Bool.and_eq_true] at he'
      rw [he'.1]
      have ih := runT_eras nm l2 (l1 ++ [e]) s he'.2 (fun x hx => h x (by simp [hx])) (by rw [List.length_append, List.length_singleton]; omega)
      show So.runT { s with cur := some ⟨nm, l1 ++ [e]⟩ } (l2.map El.texts) = _
      rw [ih, List.append_assoc]
      rfl
theorem runT_zone (z : Zn) (s : St) (hz : So.zone z = true) (hc0 : ∀ e ∈ z.es, 0 ≤ e.u.c) (hc : s.cur = none) (hn : s.zs.length < 1024) : So.runT s ((Pt.zone z).map (·.2)) = some (s.add ⟨[], [z], []⟩) := by
  obtain ⟨h0, ⟨h1, h2⟩, h3, h4⟩ := zone_parts hz
  obtain ⟨nm, es⟩ := z
  obtain ⟨a, b, c, d⟩ := s
  simp only at hc hn
  subst hc
  cases es with
  | nil => exact absurd h1 (show ¬ 1 ≤ 0 by decide)
  | cons e l =>
    have he := h3 e (by simp)
    have hu := hc0 e (by simp)
    have hb := eback he hu
    show So.runT ⟨a, b, c, none⟩ ((Pt.zoneW :: nm :: El.texts e) :: (l.map Pt.era).map (·.2)) = _
    have hrd : So.rd ⟨a, b, c, none⟩ (Pt.zoneW :: nm :: El.texts e) = .inl (St.put ⟨a, b, c, none⟩ ⟨nm, [e]⟩ e.en) := by
      show So.first ⟨a, b, c, none⟩ (Pt.zoneW :: nm :: El.texts e) = _
      unfold So.first
      have e0 : So.at_ (Pt.zoneW :: nm :: El.texts e) 0 = Pt.zoneW := rfl
      rw [e0, if_neg (show ¬ Wd.pick Pt.zoneW So.kinds = 0 by decide +kernel), if_pos (show Wd.pick Pt.zoneW So.kinds = 1 by decide +kernel)]
      unfold So.zoneL
      rw [if_neg (by show b.length ≠ 1024; omega), if_neg (by simp)]
      show (if (El.prs (El.texts e)).2.2 ≠ 0 then _ else if So.isN nm = true then Sum.inl (St.put ⟨a, b, c, none⟩ ⟨nm, [(El.prs (El.texts e)).1]⟩ (El.prs (El.texts e)).1.en) else _) = _
      rw [hb, if_neg (by simp), if_pos (show So.isN nm = true from h0)]
    rw [runT_on hrd]
    have hm : (l.map Pt.era).map (fun p : PL => p.2) = l.map El.texts := by
      rw [List.map_map]
      rfl
    rw [hm]
    have h4' : (if l = [] then !e.en else e.en && So.ends l) = true := h4
    by_cases hl : l = []
    · subst hl
      rw [if_pos rfl] at h4'
      have hen : e.en = false := by simpa using h4'
      rw [hen]
      simp [St.put, So.runT, St.add]
    · rw [if_neg hl, Bool.and_eq_true] at h4'
      rw [h4'.1]
      have ih := runT_eras nm l [e] ⟨a, b, c, none⟩ h4'.2 (fun x hx => ⟨h3 x (by simp [hx]), hc0 x (by simp [hx])⟩) (by simpa [Nat.add_comm] using h2)
      show So.runT ⟨a, b, c, some ⟨nm, [e]⟩⟩ (l.map El.texts) = _
      rw [ih]
      simp [St.add]
theorem runT_zones : ∀ (l : List Zn) (s : St), (∀ z ∈ l, So.zone z = true ∧ ∀ e ∈ z.es, 0 ≤ e.u.c) → s.cur = none → s.zs.length + l.length ≤ 1024 → So.runT s ((l.flatMap Pt.zone).map (·.2)) = some (s.add ⟨[], l, []⟩)
  | [], s, _, hc, _ => by
    obtain ⟨a, b, c, d⟩ := s
    simp only at hc
    subst hc
    simp [So.runT, St.add]
  | z :: l, s, h, hc, hn => by
    rw [List.length_cons] at hn
    obtain ⟨h1, h2⟩ := h z (by simp)
    have hz := runT_zone z s h1 h2 hc (by omega)
    rw [List.flatMap_cons, List.map_append, runT_app _ _ _ _ hz, runT_zones l _ (fun x hx => h x (by simp [hx])) rfl (by show (s.zs ++ [z]).length + l.length ≤ 1024; rw [List.length_append, List.length_singleton]; omega)]
    unfold St.add
    simp
theorem runT_links : ∀ (l : List Lk) (s : St), (∀ k ∈ l, So.link k = true) → s.cur = none → s.ls.length + l.length ≤ 4096 → So.runT s (l.map fun k => (Pt.link k).2) = some (s.add ⟨[], [], l⟩)
  | [], s, _, hc, _ => by
    obtain ⟨a, b, c, d⟩ := s
    simp only at hc
    subst hc
    simp [So.runT, St.add]
  | k :: l, s, h, hc, hn => by
    rw [List.length_cons] at hn
    obtain ⟨h1, h2⟩ := link_parts (h k (by simp))
    have hrd : So.rd s (Pt.link k).2 = .inl { s with ls := s.ls ++ [k] } := by
      unfold So.rd
      rw [hc]
      show So.first s [Pt.linkW, k.tg, k.nm] = _
      unfold So.first
      have e0 : So.at_ [Pt.linkW, k.tg, k.nm] 0 = Pt.linkW := rfl
      rw [e0, if_neg (show ¬ Wd.pick Pt.linkW So.kinds = 0 by decide +kernel), if_neg (show ¬ Wd.pick Pt.linkW So.kinds = 1 by decide +kernel), if_pos (show Wd.pick Pt.linkW So.kinds = 2 by decide +kernel)]
      unfold So.linkL
      have e1 : So.isN (So.at_ [Pt.linkW, k.tg, k.nm] 1) = true := h1
      have e2 : So.isN (So.at_ [Pt.linkW, k.tg, k.nm] 2) = true := h2
      have e3 : [Pt.linkW, k.tg, k.nm].length = 3 := rfl
      rw [if_neg (show ¬ s.ls.length = 4096 by omega), e1, e2, e3, if_neg (by simp), if_neg (by simp), if_neg (by omega), if_neg (by omega)]
      show Sum.inl { s with ls := s.ls ++ [k] } = Sum.inl _
      rw [hc]
    rw [List.map_cons, runT_on hrd, runT_links l { s with ls := s.ls ++ [k] } (fun x hx => h x (by simp [hx])) hc (by show (s.ls ++ [k]).length + l.length ≤ 4096; rw [List.length_append, List.length_singleton]; omega)]
    unfold St.add
    simp
/-- The lines that are written of a source are read behind what was read. -/
theorem runT_src (s : St) (b : Src) (hb : So.right b = true) (hnn : So.nn b) (hc : s.cur = none) (h1 : s.rs.length + b.rs.length ≤ 4096) (h2 : s.zs.length + b.zs.length ≤ 1024) (h3 : s.ls.length + b.ls.length ≤ 4096) :
    So.runT s ((Pt.lines b).map (·.2)) = some (s.add b) := by
  obtain ⟨_, hr, hz, hl⟩ := so_parts hb
  unfold Pt.lines
  rw [List.map_append, List.map_append, List.map_map, List.map_map]
  have e1 := runT_rules b.rs s (fun r h => ⟨hr r h, hnn.r r h⟩) hc h1
  have e2 := runT_zones b.zs (s.add ⟨b.rs, [], []⟩) (fun z h => ⟨hz z h, hnn.z z h⟩) rfl (by show (s.zs ++ []).length + _ ≤ _; rw [List.append_nil]; exact h2)
  have e3 := runT_links b.ls ((s.add ⟨b.rs, [], []⟩).add ⟨[], b.zs, []⟩) hl rfl (by show ((s.ls ++ []) ++ []).length + _ ≤ _; rw [List.append_nil, List.append_nil]; exact h3)
  have c1 : ((fun x : PL => x.2) ∘ Pt.rule) = fun r => (Pt.rule r).2 := rfl
  have c3 : ((fun x : PL => x.2) ∘ Pt.link) = fun k => (Pt.link k).2 := rfl
  rw [c1, c3, runT_app _ _ _ _ e1, runT_app _ _ _ _ e2, e3]
  unfold St.add
  simp
/-- A line tells these texts. -/
def Ln.tells (l : List UInt8) (L : List ByteArray) : Prop := ∃ fs, Ln.fld l = .inl fs ∧ fs.map (fun f => (⟨f.1.toArray⟩ : ByteArray)) = L
theorem scan_tells : ∀ (q : List (List UInt8 × List ByteArray)) (i : Nat), (∀ p ∈ q, Ln.tells p.1 p.2) → ∃ r, Ln.scan i (q.map (·.1)) = .inl r ∧ r.map LnD.texts = (q.map (·.2)).filter fun L => !L.isEmpty
  | [], i, _ => ⟨[], rfl, rfl⟩
  | p :: q, i, h => by
    obtain ⟨fs, h1, h2⟩ := h p (by simp)
    obtain ⟨r, h3, h4⟩ := scan_tells q (i + 1) (fun x hx => h x (by simp [hx]))
    rw [List.map_cons, List.map_cons]
    by_cases hn : fs = []
    · subst hn
      have e : p.2 = [] := h2.symm
      refine ⟨r, by rw [lscan_none h1, h3], ?_⟩
      rw [h4, e]
      rfl
    · refine ⟨(i, fs) :: r, by rw [lscan_some h1 hn, h3]; rfl, ?_⟩
      have hne : (!p.2.isEmpty) = true := by
        rw [← h2]
        cases fs with
        | nil => exact absurd rfl hn
        | cons a b => rfl
      rw [List.filter_cons, if_pos hne, List.map_cons, h4]
      congr 1
/-- A text whose lines tell these texts. -/
theorem prs_tells {l : List UInt8} {q : List (List UInt8 × List ByteArray)} (h : ∀ p ∈ q, Ln.tells p.1 p.2) (hq : Ln.cut l = q.map (·.1)) (hl : l.length ≤ 1048576) {s : St} (hr : So.runT St.zero ((q.map (·.2)).filter fun L => !L.isEmpty) = some s) (hc : s.cur = none) : So.prs l = .inl s.src := by
  obtain ⟨r, h1, h2⟩ := scan_tells q 1 h
  unfold So.prs
  rw [if_neg (by omega), hq, h1]
  show So.done r (So.run St.zero r) = _
  rw [run_of_T r St.zero s (by rw [h2]; exact hr)]
  unfold So.done
  simp only [hc]
theorem cut_parting : ∀ (a r : List UInt8) (fs : List (List UInt8 × Nat)) (i : Nat), (∀ c ∈ a, knd c = 1) → cutL (a ++ r) none fs i = cutL r none fs (i + a.length)
  | [], r, fs, i, _ => rfl
  | c :: a, r, fs, i, h => by
    rw [List.cons_append]
    conv => lhs; unfold cutL
    rw [if_pos (h c (by simp)), cut_parting a r fs (i + 1) (fun x hx => h x (by simp [hx])), List.length_cons]
    congr 1
    omega
/-- The fields of a line with blanks ahead, and a comment behind, or none. -/
theorem cut_around (a b : List UInt8) (ha : ∀ c ∈ a, knd c = 1) (hb : b = [] ∨ ∃ r, b = 32 :: 35 :: r) (l : List (List UInt8)) (h : ∀ x ∈ l, x.all okc = true) (hn : l.length ≤ 24) (h1 : 1 ≤ l.length) : texts (cutL (a ++ (lineOf l ++ b)) none [] 0) = some l := by
  have h' : ∀ x ∈ l, ∀ c ∈ x, okc c = true := fun x hx c hc => List.all_eq_true.1 (h x hx) c hc
  rw [cut_parting a _ [] 0 ha]
  cases l with
  | nil => simp at h1
  | cons x l =>
    unfold lineOf
    rw [List.map_cons, Lib.join_cons, List.append_assoc]
    obtain ⟨i', he⟩ := cut_qt x (Lib.joinTail [32] (l.map qt) ++ b) (0 + a.length) [] (h' x (by simp)) (by simp)
    rw [he]
    rcases hb with rfl | ⟨r, rfl⟩
    · rw [List.append_nil, cut_joined l x _ _ _ (fun y hy => h' y (by simp [hy])) (by simp at hn ⊢; omega)]
      rfl
    · rw [cut_joined_t r l x _ _ _ (fun y hy => h' y (by simp [hy])) (by simp at hn ⊢; omega)]
      rfl
theorem bts_back (L : List ByteArray) : (bts L).map (fun t => (⟨t.toArray⟩ : ByteArray)) = L := by
  unfold bts
  rw [List.map_map]
  conv => rhs; rw [← List.map_id L]
  apply List.map_congr_left
  intro t _
  rfl
/-- A written line tells its texts: with blanks ahead, and a comment behind, too. -/
theorem tells_line {p : PL} (h : p.ok) (a b : List UInt8) (ha : ∀ c ∈ a, knd c = 1) (hb : b = [] ∨ ∃ r, b = 32 :: 35 :: r) (hz : a.length + b.length ≤ 1000) : Ln.tells (a ++ (p.line ++ b)) p.2 := by
  have hl := pline_len h
  have hf := h.few
  have hbl : (bts p.2).length = p.2.length := by unfold bts; rw [List.length_map]
  have hc := cut_around (a ++ p.1) b (fun c hc => by
    rcases List.mem_append.1 hc with hc | hc
    · exact ha c hc
    · rcases h.pre with e | e <;> rw [e] at hc
      · cases hc
      · obtain rfl : c = 9 := by simpa using hc
        decide) hb (bts p.2) (okc_texts h.gr) (by omega) (by have := h.some_; omega)
  have e : a ++ (p.line ++ b) = (a ++ p.1) ++ (lineOf (bts p.2) ++ b) := by
    unfold PL.line
    simp
  rw [e]
  unfold Ln.tells Ln.fld
  have hlen : ((a ++ p.1) ++ (lineOf (bts p.2) ++ b)).length = (a ++ (p.line ++ b)).length := by rw [e]
  rw [if_neg (by rw [hlen, List.length_append, List.length_append]; omega)]
  cases hr : cutL ((a ++ p.1) ++ (lineOf (bts p.2) ++ b)) none [] 0 with
  | inr x => rw [hr] at hc; cases hc
  | inl fs =>
    rw [hr] at hc
    injection hc with hc
    refine ⟨fs, rfl, ?_⟩
    have : fs.map (fun f => (⟨f.1.toArray⟩ : ByteArray)) = (fs.map (·.1)).map (fun t => (⟨t.toArray⟩ : ByteArray)) := by
      rw [List.map_map]
      rfl
    rw [this, hc, bts_back]
theorem tells_none {a b : List UInt8} (ha : ∀ c ∈ a, knd c = 1) (hb : b = [] ∨ ∃ r, b = 35 :: r) (hz : a.length + b.length ≤ 2048) : Ln.tells (a ++ b) [] := by
  unfold Ln.tells Ln.fld
  rw [if_neg (by rw [List.length_append]; omega), cut_parting a b [] 0 ha]
  refine ⟨[], ?_, rfl⟩
  rcases hb with rfl | ⟨r, rfl⟩
  · rfl
  · unfold cutL
    rw [if_neg (by decide), if_neg (by decide), if_pos (by decide)]
/-- A written line has no line feed. -/
theorem mem_joinTail {c : UInt8} : ∀ l : List (List UInt8), c ∈ Lib.joinTail [32] l → c = 32 ∨ ∃ x ∈ l, c ∈ x
  | [], h => by cases h
  | s :: l, h => by
    have e : Lib.joinTail [32] (s :: l) = ([32] ++ s) ++ Lib.joinTail [32] l := rfl
    rw [e] at h
    rcases List.mem_append.1 h with h | h
    · rcases List.mem_append.1 h with h | h
      · exact .inl (by simpa using h)
      · exact .inr ⟨s, by simp, h⟩
    · rcases mem_joinTail l h with h | ⟨x, hx, hc⟩
      · exact .inl h
      · exact .inr ⟨x, by simp [hx], hc⟩
theorem mem_join {c : UInt8} (l : List (List UInt8)) (h : c ∈ Lib.join l [32]) : c = 32 ∨ ∃ x ∈ l, c ∈ x := by
  cases l with
  | nil => rw [Lib.join_nil] at h; cases h
  | cons s l =>
    rw [Lib.join_cons] at h
    rcases List.mem_append.1 h with h | h
    · exact .inr ⟨s, by simp, h⟩
    · rcases mem_joinTail l h with h | ⟨x, hx, hc⟩
      · exact .inl h
      · exact .inr ⟨x, by simp [hx], hc⟩
theorem mem_qt {c : UInt8} {s : List UInt8} (h : c ∈ qt s) : c = 34 ∨ c ∈ s := by
  unfold qt at h
  split at h
  · simp only [List.mem_cons, List.mem_append, List.not_mem_nil, or_false] at h
    rcases h with h | h | h
    · exact .inl h
    · exact .inr h
    · exact .inl h
  · exact .inr h
theorem gr_lf {c : UInt8} (h : gr c = true) : c ≠ 10 := by
  rintro rfl
  revert h
  decide
theorem pline_lf {p : PL} (h : p.ok) : ∀ c ∈ p.line, c ≠ 10 := by
  intro c hc
  unfold PL.line at hc
  rcases List.mem_append.1 hc with hc | hc
  · rcases h.pre with e | e <;> rw [e] at hc
    · cases hc
    · obtain rfl : c = 9 := by simpa using hc
      decide
  · rcases mem_join _ hc with rfl | ⟨x, hx, hc⟩
    · decide
    · obtain ⟨y, hy, rfl⟩ := List.mem_map.1 hx
      obtain ⟨t, ht, rfl⟩ := List.mem_map.1 hy
      rcases mem_qt hc with rfl | hc
      · decide
      · exact gr_lf (List.all_eq_true.1 (h.gr t ht) c hc)
theorem cut_bytes : ∀ (l : List PL), (∀ p ∈ l, p.ok) → Ln.cut (Pt.bytes l) = l.map PL.line ++ [[]]
  | [], _ => rfl
  | p :: l, h => by
    have e : Pt.bytes (p :: l) = p.line ++ 10 :: Pt.bytes l := by
      show (p.line ++ [10]) ++ Pt.bytes l = _
      simp
    rw [e, lcut_line _ _ (pline_lf (h p (by simp))), cut_bytes l (fun q hq => h q (by simp [hq]))]
    rfl
theorem filter_lines {l : List PL} (h : ∀ p ∈ l, p.ok) : (l.map (·.2)).filter (fun L : List ByteArray => !L.isEmpty) = l.map (·.2) := by
  rw [List.filter_eq_self]
  intro L hL
  obtain ⟨p, hp, rfl⟩ := List.mem_map.1 hL
  have := (h p hp).some_
  cases hL : p.2 with
  | nil => rw [hL] at this; cases this
  | cons a b => rfl
/-- What is written as lines is read. -/
theorem prs_bytes {l : List PL} (h : ∀ p ∈ l, p.ok) (hl : (Pt.bytes l).length ≤ 1048576) {s : St} (hr : So.runT St.zero (l.map (·.2)) = some s) (hc : s.cur = none) : So.prs (Pt.bytes l) = .inl s.src := by
  refine prs_tells (q := l.map (fun p => (p.line, p.2)) ++ [([], [])]) ?_ ?_ hl ?_ hc
  · intro p hp
    rcases List.mem_append.1 hp with hp | hp
    · obtain ⟨x, hx, rfl⟩ := List.mem_map.1 hp
      have := tells_line (h x hx) [] [] (fun _ h => by cases h) (.inl rfl) (by decide)
      simpa using this
    · obtain rfl : p = ([], []) := by simpa using hp
      exact tells_none (a := []) (b := []) (fun _ h => by cases h) (.inl rfl) (by decide)
  · rw [cut_bytes l h, List.map_append, List.map_map]
    rfl
  · rw [List.map_append, List.map_map, List.filter_append]
    have e : ((l.map ((fun p : List UInt8 × List ByteArray => p.2) ∘ fun p : PL => (p.line, p.2))).filter fun L => !L.isEmpty) = l.map (·.2) := filter_lines h
    rw [e]
    show So.runT St.zero (l.map (·.2) ++ []) = _
    rw [List.append_nil]
    exact hr
/-- THERE AND BACK: a right source is read from its text. -/
theorem prs_text {s : Src} (h : So.right s = true) (hn : So.nn s) (hl : (Pt.text s).length ≤ 1048576) : So.prs (Pt.text s) = .inl s := by
  obtain ⟨⟨c1, c2, c3⟩, _⟩ := so_parts h
  have hr := runT_src St.zero s h hn rfl (by show 0 + _ ≤ _; omega) (by show 0 + _ ≤ _; omega) (by show 0 + _ ≤ _; omega)
  exact prs_bytes (lines_ok h) hl hr rfl
/-- Two texts, one behind the other. -/
theorem pbytes_app (a b : List PL) : Pt.bytes (a ++ b) = Pt.bytes a ++ Pt.bytes b := List.flatMap_append
theorem prs_texts {a b : Src} (ha : So.right a = true) (na : So.nn a) (hb : So.right b = true) (nb : So.nn b) (hl : (Pt.text a ++ Pt.text b).length ≤ 1048576)
    (h1 : a.rs.length + b.rs.length ≤ 4096) (h2 : a.zs.length + b.zs.length ≤ 1024) (h3 : a.ls.length + b.ls.length ≤ 4096) : So.prs (Pt.text a ++ Pt.text b) = .inl (a.with b) := by
  have hr := runT_src St.zero a ha na rfl (by show 0 + _ ≤ _; omega) (by show 0 + _ ≤ _; omega) (by show 0 + _ ≤ _; omega)
  have hr2 := runT_src (St.zero.add a) b hb nb rfl h1 h2 h3
  unfold Pt.text at *
  rw [← pbytes_app] at hl ⊢
  have := prs_bytes (l := Pt.lines a ++ Pt.lines b) (fun p hp => by
    rcases List.mem_append.1 hp with hp | hp
    · exact lines_ok ha p hp
    · exact lines_ok hb p hp) hl (s := (St.zero.add a).add b) (by rw [List.map_append, runT_app _ _ _ _ hr, hr2]) rfl
  rw [this]
  rfl
/-- Both texts are as long as that of both together. -/
theorem text_with_len (a b : Src) : (Pt.text (a.with b)).length = (Pt.text a).length + (Pt.text b).length := by
  unfold Pt.text Pt.lines Src.with
  simp only [List.map_append, List.flatMap_append, pbytes_app, List.length_append]
  omega
end Go.Proofs.YtkcbmnboccjnnaaGreatDoor
